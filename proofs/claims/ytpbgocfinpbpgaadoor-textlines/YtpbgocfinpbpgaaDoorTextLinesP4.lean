/- Contracts and facts on the way to TextLines, joined into one text: TextPrint, TextLines, RuleLaid, TextLinesRow. -/
import Derived.Test.YtpbgocfinpbpgaaDoorTextLinesP3
namespace Go.Proofs.YtpbgocfinpbpgaaDoor
set_option linter.unusedSimpArgs false
set_option linter.unusedVariables false
set_option maxHeartbeats 16000000
set_option maxRecDepth 100000
open Go.Proofs.Tryd
open IntKind (i64)
section
open Go.RowKit
def ptS (S:Int)(Ls:LkQ)(Hs:HoQ)(Ts:TsQ)(ws:List Wi):ByteArray:=if nwsN S Ls Hs Ts ws=0 then textT S Ls Hs Ts ws else ByteArray.empty
theorem nw_0 {S:Int}{Ls:LkQ}{Hs:HoQ}{Ts:TsQ}{ws:List Wi}(h:nwsN S Ls Hs Ts ws=0):ntN S Ls Hs Ts=0∧wsN S Ls Hs ws=0:=by
 unfold nwsN at h;by_cases h1:ntN S Ls Hs Ts=0
 ·rw[if_pos h1] at h;exact⟨h1,h⟩
 rw[if_neg h1] at h;exact absurd h h1
theorem ln_sw_eq (S:Int):⟨#[115,119,105,116,99,104,101,115,32]⟩++dgS S=swT S:=by
 apply wa_ext
 simp only[swT,wa_app,List.append_assoc];rfl
theorem ln_lk_eq (p:(Int×Int)×(Int×Int)):⟨#[108,105,110,107,32]⟩++spT p.1++⟨#[32]⟩++spT p.2=lnT p:=by
 apply wa_ext
 simp only[lnT,wa_app,List.append_assoc];rfl
theorem ln_ho_eq (p:ByteArray×(Int×Int)):⟨#[104,111,115,116,32]⟩++p.1++⟨#[32]⟩++spT p.2=hoT p:=by
 apply wa_ext
 simp only[hoT,wa_app,List.append_assoc];rfl
theorem ln_rl_eq (k:Int)(r:Ru):⟨#[114,117,108,101,32]⟩++dgS k++⟨#[32]⟩++rsS r.p r.m r.b r.o r.s r.v=rlT k r:=by
 apply wa_ext
 simp only[rlT,wa_app,List.append_assoc];rfl
theorem ln_size {S:Int}{Ls:LkQ}{Hs:HoQ}{Ts:TsQ}{ws:List Wi}(hh:∀x∈Hs,nmB x.1=true∧smP x.2)(hw:∀x∈ws,shN x=0):∀a∈linesT S Ls Hs Ts ws,a.size≤40:=by
 have tb:∀(Ts:TsQ) (k:Nat),∀a∈tbT k Ts,a.size≤40:=by
  intro Ts
  induction Ts with
  | nil=>intro k a ha;cases ha
  | cons T Ts ih =>
    intro k a ha;rw[tbT,List.mem_append,List.mem_map] at ha
    rcases ha with ⟨r,_,rfl⟩ | ha
    ·have h1:=dg_size ((k+1:Nat):Int);have h2:=rs_size r;simp only[rlT,sz_app,show rulS.size=4 from rfl,show blW.size=1 from rfl];omega
    exact ih (k+1) a ha
 intro a ha;rw[linesT,List.mem_cons,List.mem_append,List.mem_append,List.mem_append,List.mem_map,List.mem_map,List.mem_map] at ha
 rcases ha with rfl | ⟨l,_,rfl⟩ | ⟨h,hm,rfl⟩ | ha | ⟨x,hm,rfl⟩
 ·have h1:=dg_size S;simp only[swT,sz_app,show swcS.size=8 from rfl,show blW.size=1 from rfl];omega
 ·have h1:=sp_size l.1;have h2:=sp_size l.2;simp only[lnT,sz_app,show lnkS.size=4 from rfl,show blW.size=1 from rfl];omega
 ·have h1:=sp_size h.2;have h2:=nmt_size (hh h hm).1;simp only[hoT,sz_app,show hosS.size=4 from rfl,show blW.size=1 from rfl];omega
 ·exact tb _ _ a ha
 have:=sh_size (hw x hm);omega
theorem nl_size:∀{l:List ByteArray},(∀a∈l,a.size≤40)→(nlT 10 l).size≤41*l.length
 | [],_=>Nat.zero_le _
 | a :: l,h=>by
   have h1:=h a (List.mem_cons_self ..);have h2:=nl_size fun x hx=>h x (List.mem_cons_of_mem _ hx)
   simp only[nlT,sz_app,show (chW 10).size=1 from rfl,List.length_cons];omega
theorem pdrew {w w':World}(h:Below w.drew.heap.size w.drew w'):Below w.heap.size w w':=(Below.drew (bRQ _ _)).trans h
theorem row_push {w1 wb V V2:World}{B:Nat}{v u:Value}{l l':List ByteArray}{x:ByteArray}(hB:B=w1.heap.size)(h1:Below w1.heap.size w1 V)(hr:RowS V B v l)(hg:V.grownBy V2 v.ownBlock)(ho:V2.ownsRow B 9 strE.n u (l++[x]).length (cellsG strE (l++[x])))(e:l'=l++[x]):RowS V2 B u l'∧Below w1.heap.size w1 V2:=by
 subst hB;refine⟨by rw[e];exact ho,h1.grown hg h1.size fun b hb=>(World.ownsRow.lt hr b hb).1⟩
theorem tprint_any (S:Int)(ao:AdQ)(n cap:Nat)(ao2:AdQ)(n2 cap2:Nat)(ao3:AdQ)(n3 cap3:Nat)(a4:AdQ)(n4 c4:Nat)(Ls:LkQ)(Hs:HoQ)(Ts:TsQ)(ws:List Wi)(w:World)
 (hL:GS lnkE w (.slice ao n cap) Ls) (hH:GS hstE w (.slice ao2 n2 cap2) Hs) (hT:TS w (.slice ao3 n3 cap3) Ts) (hw:GS wisE w (.slice a4 n4 c4) ws) (hwd:HasWords w):
 Calls prog 4 #[.agg #[.int i64 S,.slice ao n cap,.slice ao2 n2 cap2,.slice ao3 n3 cap3],.slice a4 n4 c4] w fun e w'=>e=.returned (.tuple #[.string (ptS S Ls Hs Ts ws),noV (nwsN S Ls Hs Ts ws)])∧Below w.heap.size w w':=by
 obtain⟨w0,hw0⟩:∃W,W=w.alloc (.cells #[.int i64 S,.slice ao n cap,.slice ao2 n2 cap2,.slice ao3 n3 cap3] 28):=⟨_,rfl⟩;have hb0:Below w.heap.size w w0:=by rw[hw0];exact (bRQ _ _).alloc (nLQ _) _
 have hnb:NeBox w0 w.heap.size S (.slice ao n cap) (.slice ao2 n2 cap2) (.slice ao3 n3 cap3):=by rw[hw0];exact nebox_new w S (.slice ao n cap) (.slice ao2 n2 cap2) (.slice ao3 n3 cap3) 28
 have HB0:Hid (Below w.heap.size w w0):=hb0;have HW0:Hid (w.alloc (.cells #[.int i64 S,.slice ao n cap,.slice ao2 n2 cap2,.slice ao3 n3 cap3] 28)=w0):=hw0.symm;have HNB0:Hid (NeBox w0 w.heap.size S (.slice ao n cap) (.slice ao2 n2 cap2) (.slice ao3 n3 cap3)):=hnb;have HG0:Hid (∀W,Below w.heap.size w W→(GS lnkE W (.slice ao n cap) Ls∧GS hstE W (.slice ao2 n2 cap2) Hs∧TS W (.slice ao3 n3 cap3) Ts∧GS wisE W (.slice a4 n4 c4) ws)∧HasWords W):=fun W h=>⟨⟨hL.later h,hH.later h,hT.later h,hw.later h⟩,hwd.later h⟩
 obtain⟨C,hC⟩:∃C,C=nwsN S Ls Hs Ts ws:=⟨_,rfl⟩;have HC:Hid (nwsN S Ls Hs Ts ws=C):=hC.symm;obtain⟨Z,hZ⟩:∃Z,Z=ptS S Ls Hs Ts ws:=⟨_,rfl⟩;have HZ:Hid (Z=if C=0 then textT S Ls Hs Ts ws else ByteArray.empty):=by show _=_;rw[hZ,hC];rfl
 rw[←hC,←hZ];have hnn:=hL.len;have hnn2:=hH.len;have hnn3:Ts.length=n3:=hT.len;have hnn4:=hw.len;have HNL:Hid (Ls.length=n∧Hs.length=n2∧Ts.length=n3∧ws.length=n4):=⟨hnn,hnn2,hnn3,hnn4⟩;obtain⟨q0,q1,q2,q3⟩:=hnb;clear hL hH hT hw hwd hb0 hw0 hC hZ hnn hnn2 hnn3 hnn4;go_enter func4,ntmps4;go_upto_region 1 with fail;rw[HW0.out]
 go_wp2_with fail
 refine (tcheck_any S ao n cap ao2 n2 cap2 ao3 n3 cap3 a4 n4 c4 Ls Hs Ts ws w0 (HG0.out w0 HB0.out).1.1 (HG0.out w0 HB0.out).1.2.1 (HG0.out w0 HB0.out).1.2.2.1 (HG0.out w0 HB0.out).1.2.2.2).mono ?_;rintro e w1 ⟨rfl,hb1⟩;rw[HC.out];have HB1:Hid (Below w.heap.size w w1):=HB0.out.trans (hb1.mono HB0.out.size);have HNB:Hid (∀W,Below w1.heap.size w1 W→NeBox W w.heap.size S (.slice ao n cap) (.slice ao2 n2 cap2) (.slice ao3 n3 cap3)):=fun W h=>(HNB0.out.later hb1).later h
 have HG:Hid (∀W,Below w1.heap.size w1 W→(GS lnkE W (.slice ao n cap) Ls∧GS hstE W (.slice ao2 n2 cap2) Hs∧TS W (.slice ao3 n3 cap3) Ts∧GS wisE W (.slice a4 n4 c4) ws)∧HasWords W):=fun W h=>HG0.out W (HB1.out.trans (h.mono HB1.out.size))
 clear hb1 q0 q1 q2 q3;by_cases hC0:C=0
 ·have HZT:Hid (Z=textT S Ls Hs Ts ws):=by show _=_;rw[HZ.out,if_pos hC0]
  have HNW:=nw_0 (HC.out.trans hC0);have HN0:Hid (noV C=.nilIface):=by show _=_;rw[hC0];rfl
  subst hC0;obtain⟨hn,hws⟩:=HNW;obtain⟨ht,hS,hTb⟩:=nt_0 hn;obtain⟨⟨s1,s6⟩,⟨l200,l8⟩,hl,_,hh,_⟩:=tp_0 ht;have HLK:Hid (∀l∈Ls,smP l.1∧smP l.2):=fun l hm=>⟨sp_sm s6 (hl l.1 (List.mem_flatMap.2 ⟨l,hm,by simp⟩)),sp_sm s6 (hl l.2 (List.mem_flatMap.2 ⟨l,hm,by simp⟩))⟩
  have HHO:Hid (∀x∈Hs,nmB x.1=true∧smP x.2):=fun x hx=>⟨(hh x hx).1,sp_sm s6 (hh x hx).2⟩
  have HTB:Hid (∀T∈Ts,T.length≤12∧∀r∈T,r.ok=true):=fun T hm=>by
   obtain⟨k,hk,e⟩:=List.getElem_of_mem hm;have h1:=hTb k hk;rw[show Ts.getD k []=T by simp[List.getD,hk,e]] at h1;exact⟨(tb_iff.1 h1).1,(tb_iff.1 h1).2.1⟩
  have HWS:Hid (∀x∈ws,shN x=0):=ws_sh hws;have hw8:ws.length≤8:=by
   unfold wsN at hws;rw[if_pos ht] at hws;by_cases h8:8<ws.length
   ·rw[if_pos h8] at hws;cases hws
   omega
  have HN:Hid ((Ls.length=n∧Hs.length=n2∧Ts.length=n3∧ws.length=n4)∧n≤200∧n2≤8∧n3≤6∧n4≤8):=⟨HNL.out,by have:=HNL.out;omega,by have:=HNL.out;omega,by have:=HNL.out;omega,by have:=HNL.out;omega⟩;have HS:Hid (0≤S∧S≤6):=⟨by omega,s6⟩;obtain⟨j1,hj,hy0,hy1,hy2⟩:=info_parts str_info;have HI1:Hid (Tryd.prog.info? 9=some j1):=hj;have HI2:Hid (j1.zero=some (.string ⟨#[]⟩)):=hy0;have HI3:Hid (j1.size=1):=hy1;have HI4:Hid (j1.bytes=16):=hy2;have n63:n≤200:=HN.out.2.1;have m63:n2≤8:=HN.out.2.2.1;have t63:n3≤6:=HN.out.2.2.2.1;have w63:n4≤8:=HN.out.2.2.2.2;have d0:=dg_size S;obtain⟨q0,q1,q2,q3⟩:=HNB.out w1 (bRQ _ _);clear hn hws ht hS hTb s1 s6 l200 l8 hl hh hw8 hj hy0 hy1 hy2;rw[show noV 0=.nilIface from rfl]
  go_wp2_with fail
  refine (itoa_any S _ HS.out.1 (by have:=HS.out.2;omega)).mono ?_;rintro e w' ⟨rfl,hw'⟩;have hw'':=hw'.symm;subst hw'';clear hw';have hlt1:=bLQ w1 ⟨w.heap.size,0,none⟩ q0;go_upto_region 5 with fail;rw[ln_sw_eq];obtain⟨X0,hX0⟩:∃X,X=swT S:=⟨_,rfl⟩;rw[←hX0];have HX0:Hid (swT S=X0):=hX0.symm;obtain⟨w2,hw2⟩:∃W,W=w1.alloc (.cells #[.string X0] 9):=⟨_,rfl⟩;have hb2:Below w1.heap.size w1 w2:=by rw[hw2];exact (bRQ _ _).alloc (nLQ _) _
  have HR0:Hid (RowS w2 w1.heap.size (.slice (some ⟨w1.heap.size,0,none⟩) 1 1) [X0]):=by show RowS _ _ _ _;rw[hw2];exact row_one w1 w1.heap.size X0 (nLQ _)
  have HB2:Hid (Below w1.heap.size w1 w2):=hb2;rw[←hw2];clear q0 q1 q2 q3 hw2 hb2 hX0 hlt1;obtain⟨q0,q1,q2,q3⟩:=HNB.out w2 HB2.out;go_upto_region 6 with fail;clear q0 q1 q2 q3
  go_loopw [7,38] (fun v i wr=>∃(k:Nat),k≤n∧i=.int i64 (k:Int)∧RowS wr w1.heap.size v (X0 :: (Ls.take k).map lnT)∧Below w1.heap.size w1 wr) (fun _ i _=>n-(intOf i).toNat)
  case atStart=>exact⟨0,by omega,rfl,HR0.out,HB2.out⟩
  case round =>
   obtain⟨k,hk,rfl,hX,hB⟩:=hrel;obtain⟨wi,hwi⟩:∃Y,Y=wr:=⟨_,rfl⟩;subst hwi;obtain⟨a7,m7,c7,rfl⟩:∃b1 m1 d1,u7=Value.slice b1 m1 d1:=by obtain⟨a,c,h⟩:=own_form hX;exact⟨a,_,c,h⟩
   have HX:Hid (RowS wi w1.heap.size (.slice a7 m7 c7) (X0 :: (Ls.take k).map lnT)):=hX;have HB:Hid (Below w1.heap.size w1 wi):=hB;clear hX hB;by_cases hlt:k<n
   ·obtain⟨_,_,_,ee,_,_,_,hat⟩:=(HG.out wi HB.out).1.1.form;cases ee;obtain⟨g,o,rfl,hga,_⟩:=hat (by omega);obtain⟨x0,x1,x2,x3,hkl,hLk,y0,y1,y2,y3⟩:=lnk_at hga HN.out.1.1 hlt;have HM:Hid (smP (x0,x1)∧smP (x2,x3)):=by
     have:=HLK.out _ (List.getElem_mem hkl);rw[hLk] at this;exact this
    have HNX:Hid (X0 :: (Ls.take (k+1)).map lnT=(X0 :: (Ls.take k).map lnT)++[⟨#[108,105,110,107,32]⟩++spT (x0,x1)++⟨#[32]⟩++spT (x2,x3)]):=by
     show _=_;rw[List.take_succ_eq_append_getElem hkl,hLk,List.map_append,ln_lk_eq ((x0,x1),(x2,x3))];rfl
    have z1:=sp_size (x0,x1);have z2:=sp_size (x2,x3);have r1:¬9223372036854775807<5+(spT (x0,x1)).size:=by omega
    have r2:¬9223372036854775807<5+(spT (x0,x1)).size+1:=by omega
    have r3:¬9223372036854775807<5+(spT (x0,x1)).size+1+(spT (x2,x3)).size:=by omega
    have kb0:(0:Int)≤(k:Int):=by omega
    have kb1:(k:Int)<(n:Int):=by omega
    have HLV1:Hid ((X0 :: (Ls.take k).map lnT).length+1≤maxLen):=by
     show _≤_;unfold maxLen;simp;omega
    have HLV2:Hid (((X0 :: (Ls.take k).map lnT).length+1)*16≤140737488355328):=by
     show _≤_;simp;omega
    obtain⟨q0,q1,q2,q3⟩:=HNB.out wi HB.out;obtain⟨wb,hwb⟩:∃W,W=wi.alloc (.cells #[.int i64 x0,.int i64 x1,.int i64 x2,.int i64 x3] 43):=⟨_,rfl⟩;have hbb:Below wi.heap.size wi wb:=by rw[hwb];exact (bRQ _ _).alloc (nLQ _) _
    have HKL:Hid (∀W,Below wb.heap.size wb W→W.cell? ⟨wi.heap.size,0,none⟩=some (.int i64 x0)∧W.cell? ⟨wi.heap.size,1,none⟩=some (.int i64 x1)∧W.cell? ⟨wi.heap.size,2,none⟩=some (.int i64 x2)∧W.cell? ⟨wi.heap.size,3,none⟩=some (.int i64 x3)):=fun W hW=>by
     have h:=lnk_new wi x0 x1 x2 x3 43;rw[←hwb] at h;have h2:=lnk_cells (h.later hW);simpa only[Nat.zero_add] using h2
    have HWB:Hid (Below w1.heap.size w1 wb):=HB.out.trans (hbb.mono HB.out.size);have HKO:Hid (∀W,Below wb.heap.size wb W→RowS W w1.heap.size (.slice a7 m7 c7) (X0 :: (Ls.take k).map lnT)):=fun W hW=>(HX.out.later hbb).later hW
    have HLB:Hid (w1.heap.size≤wb.heap.size):=HWB.out.size;have HFIN:Hid (∀V V2 u,Below wb.heap.size wb V→V.grownBy V2 (Value.slice a7 m7 c7).ownBlock→V2.ownsRow w1.heap.size 9 strE.n u ((X0 :: (Ls.take k).map lnT)++[⟨#[108,105,110,107,32]⟩++spT (x0,x1)++⟨#[32]⟩++spT (x2,x3)]).length (cellsG strE ((X0 :: (Ls.take k).map lnT)++[⟨#[108,105,110,107,32]⟩++spT (x0,x1)++⟨#[32]⟩++spT (x2,x3)]))→RowS V2 w1.heap.size u (X0 :: (Ls.take (k+1)).map lnT)∧Below w1.heap.size w1 V2):=fun V V2 u hV hg ho=>row_push (wb:=wb) rfl (HWB.out.trans (hV.mono HWB.out.size)) (HKO.out V hV) hg ho HNX.out
    have HGW:Hid (∀V V2,Below wb.heap.size wb V→V.grownBy V2 (Value.slice a7 m7 c7).ownBlock→V2.cell? ⟨wi.heap.size,0,none⟩=some (.int i64 x0)∧V2.cell? ⟨wi.heap.size,1,none⟩=some (.int i64 x1)∧V2.cell? ⟨wi.heap.size,2,none⟩=some (.int i64 x2)∧V2.cell? ⟨wi.heap.size,3,none⟩=some (.int i64 x3)):=fun V V2 hV hg=>by
     have hne:some wi.heap.size≠(Value.slice a7 m7 c7).ownBlock:=fun e=>by
      have:=(World.ownsRow.lt HX.out _ e.symm).2;omega
     obtain⟨e0,e1,e2,e3⟩:=HKL.out V hV;exact⟨hg.cell e0 hne,hg.cell e1 hne,hg.cell e2 hne,hg.cell e3 hne⟩
    clear hga hLk hat hkl;go_upto_region 8 with fail;rw[←hwb];clear hwb hbb y0 y1 y2 y3 q0 q1 q2 q3;obtain⟨i0,i1,i2,i3⟩:=HKL.out wb (bRQ _ _)
    go_region_held3 (fun W=>W.cell? ⟨wi.heap.size,0,none⟩=some (.int i64 x0)∧W.cell? ⟨wi.heap.size,1,none⟩=some (.int i64 x1)∧W.cell? ⟨wi.heap.size,2,none⟩=some (.int i64 x2)∧W.cell? ⟨wi.heap.size,3,none⟩=some (.int i64 x3))
     (first | (with_reducible assumption) | (with_reducible exact HKL.out _ (Below.drew (bRQ _ _))) | (with_reducible exact HKL.out _ HBX.out) | (with_reducible exact HKL.out _ HBZ.out) | (with_reducible exact HKG.out))
     (first
      | (go_at_call 7;refine (pspot_any _ _ _ (by first | exact HM.out.1 | exact HM.out.2)).mono ?_;rintro e w' ⟨rfl,hb⟩;have HBX:Hid (Below wb.heap.size wb w'):=(by first | exact hb | exact pdrew hb | exact HBX.out.trans (hb.mono HBX.out.size));have HBZ:Hid (Below wb.heap.size wb (w'.alloc (.cells #[.string (⟨#[108,105,110,107,32]⟩++spT (x0,x1)++⟨#[32]⟩++spT (x2,x3))] 9))):=HBX.out.alloc HBX.out.size _;clear hb)
      | (refine step_append_blk (E:=strE) _ (by rfl) _ _ 39 9 (by rfl) underlying39 j1 _ 16 HI1.out HI2.out HI3.out HI4.out (by rfl) w1.heap.size (.slice a7 m7 c7) (by rfl) (X0 :: (Ls.take k).map lnT) (HKO.out _ HBZ.out) w'.heap.size 0 1 (by rfl) (⟨#[108,105,110,107,32]⟩++spT (x0,x1)++⟨#[32]⟩++spT (x2,x3)) (str_new _ (⟨#[108,105,110,107,32]⟩++spT (x0,x1)++⟨#[32]⟩++spT (x2,x3)) _) HLV1.out HLV2.out ?_ ?_;(focus (have:=HBZ.out.size;have:=HLB.out;omega));intro v5 w5 ho5 hg5 hb5;have HGG:Hid _:=HFIN.out _ _ _ HBZ.out hg5 ho5;have HKG:Hid _:=HGW.out _ _ HBZ.out hg5;obtain⟨a6,m6,c6,rfl⟩:∃b1 m1 d1,v5=Value.slice b1 m1 d1:=(by obtain⟨a,c,h⟩:=own_form ho5;exact⟨a,_,c,h⟩);clear ho5 hg5 hb5))
    all_goals go_wp2
    all_goals go_roundw
    all_goals first
     | (simp[intOf];omega)
     | exact⟨k+1,by omega,by go_num,HGG.out⟩
   obtain rfl:k=n:=by omega
   have hall:Ls.take k=Ls:=by rw[←HN.out.1.1];exact List.take_length
   rw[hall] at HX;have HBA:Hid (Below w1.heap.size w1 wi):=HB.out;clear HR0 HB2;obtain⟨q0,q1,q2,q3⟩:=HNB.out wi HB.out;go_upto_region 11 with fail;clear q0 q1 q2 q3;obtain⟨wA,hwA⟩:∃Y,Y=wi:=⟨_,rfl⟩;subst hwA;obtain⟨P1,hP1⟩:∃P,P=X0 :: Ls.map lnT:=⟨_,rfl⟩;rw[←hP1] at HX;have HP1:Hid (P1.length≤201∧P1++(Hs.map hoT++(tbT 0 Ts++ws.map shT))=swT S :: (Ls.map lnT++(Hs.map hoT++(tbT 0 Ts++ws.map shT)))):=by
    have:=HN.out;rw[hP1,HX0.out];exact⟨by simp;omega,by simp⟩
   clear hP1 hall hlt
   go_loopw [7,59] (fun v i wr=>∃(j:Nat),j≤n2∧i=.int i64 (j:Int)∧RowS wr w1.heap.size v (P1++(Hs.take j).map hoT)∧Below w1.heap.size w1 wr) (fun _ i _=>n2-(intOf i).toNat)
   case atStart=>exact⟨0,by omega,rfl,by simpa using HX.out,HBA.out⟩
   case round =>
    obtain⟨j,hj,rfl,hX2,hB2⟩:=hrel;obtain⟨wj,hwj⟩:∃Y,Y=wr:=⟨_,rfl⟩;subst hwj;clear HX HBA HB;obtain⟨a7,m7,c7,rfl⟩:∃b1 m1 d1,u7=Value.slice b1 m1 d1:=by obtain⟨a,c,h⟩:=own_form hX2;exact⟨a,_,c,h⟩
    have HX:Hid (RowS wj w1.heap.size (.slice a7 m7 c7) (P1++(Hs.take j).map hoT)):=hX2;have HB:Hid (Below w1.heap.size w1 wj):=hB2;clear hX2 hB2;by_cases hlt2:j<n2
    ·obtain⟨_,_,_,ee,_,_,_,hat⟩:=(HG.out wj HB.out).1.2.1.form;cases ee;obtain⟨g,o,rfl,hga,_⟩:=hat (by omega);obtain⟨x0,x1,x2,hkl,hLk,y0,y1,y2⟩:=hst_at hga HN.out.1.2.1 hlt2;have HM:Hid (nmB x0=true∧smP (x1,x2)):=by
      have:=HHO.out _ (List.getElem_mem hkl);rw[hLk] at this;exact this
     have HNX:Hid (P1++(Hs.take (j+1)).map hoT=(P1++(Hs.take j).map hoT)++[⟨#[104,111,115,116,32]⟩++x0++⟨#[32]⟩++spT (x1,x2)]):=by
      show _=_;rw[List.take_succ_eq_append_getElem hkl,hLk,List.map_append,ln_ho_eq (x0,(x1,x2)),List.append_assoc];rfl
     have z1:=sp_size (x1,x2);have z2:=nmt_size HM.out.1;have r1:¬9223372036854775807<5+x0.size:=by omega
     have r2:¬9223372036854775807<5+x0.size+1:=by omega
     have r3:¬9223372036854775807<5+x0.size+1+(spT (x1,x2)).size:=by omega
     have kb0:(0:Int)≤(j:Int):=by omega
     have kb1:(j:Int)<(n2:Int):=by omega
     have HLV1:Hid ((P1++(Hs.take j).map hoT).length+1≤maxLen):=by
      have:=HP1.out.1;show _≤_;unfold maxLen;simp;omega
     have HLV2:Hid (((P1++(Hs.take j).map hoT).length+1)*16≤140737488355328):=by
      have:=HP1.out.1;show _≤_;simp;omega
     obtain⟨q0,q1,q2,q3⟩:=HNB.out wj HB.out;obtain⟨wb,hwb⟩:∃W,W=wj.alloc (.cells #[.string x0,.int i64 x1,.int i64 x2] 46):=⟨_,rfl⟩;have hbb:Below wj.heap.size wj wb:=by rw[hwb];exact (bRQ _ _).alloc (nLQ _) _
     have HKL:Hid (∀W,Below wb.heap.size wb W→W.cell? ⟨wj.heap.size,0,none⟩=some (.string x0)∧W.cell? ⟨wj.heap.size,1,none⟩=some (.int i64 x1)∧W.cell? ⟨wj.heap.size,2,none⟩=some (.int i64 x2)):=fun W hW=>by
      have h:=hst_new wj x0 x1 x2 46;rw[←hwb] at h;have h2:=hst_cells (h.later hW);simpa only[Nat.zero_add] using h2
     have HWB:Hid (Below w1.heap.size w1 wb):=HB.out.trans (hbb.mono HB.out.size);have HKO:Hid (∀W,Below wb.heap.size wb W→RowS W w1.heap.size (.slice a7 m7 c7) (P1++(Hs.take j).map hoT)):=fun W hW=>(HX.out.later hbb).later hW
     have HLB:Hid (w1.heap.size≤wb.heap.size):=HWB.out.size;have HFIN:Hid (∀V V2 u,Below wb.heap.size wb V→V.grownBy V2 (Value.slice a7 m7 c7).ownBlock→V2.ownsRow w1.heap.size 9 strE.n u ((P1++(Hs.take j).map hoT)++[⟨#[104,111,115,116,32]⟩++x0++⟨#[32]⟩++spT (x1,x2)]).length (cellsG strE ((P1++(Hs.take j).map hoT)++[⟨#[104,111,115,116,32]⟩++x0++⟨#[32]⟩++spT (x1,x2)]))→RowS V2 w1.heap.size u (P1++(Hs.take (j+1)).map hoT)∧Below w1.heap.size w1 V2):=fun V V2 u hV hg ho=>row_push (wb:=wb) rfl (HWB.out.trans (hV.mono HWB.out.size)) (HKO.out V hV) hg ho HNX.out
     have HGW:Hid (∀V V2,Below wb.heap.size wb V→V.grownBy V2 (Value.slice a7 m7 c7).ownBlock→V2.cell? ⟨wj.heap.size,0,none⟩=some (.string x0)∧V2.cell? ⟨wj.heap.size,1,none⟩=some (.int i64 x1)∧V2.cell? ⟨wj.heap.size,2,none⟩=some (.int i64 x2)):=fun V V2 hV hg=>by
      have hne:some wj.heap.size≠(Value.slice a7 m7 c7).ownBlock:=fun e=>by
       have:=(World.ownsRow.lt HX.out _ e.symm).2;omega
      obtain⟨e0,e1,e2⟩:=HKL.out V hV;exact⟨hg.cell e0 hne,hg.cell e1 hne,hg.cell e2 hne⟩
     clear hga hLk hat hkl;go_upto_region 13 with fail;rw[←hwb];clear hwb hbb y0 y1 y2 q0 q1 q2 q3;obtain⟨i0,i1,i2⟩:=HKL.out wb (bRQ _ _)
     go_region_held3 (fun W=>W.cell? ⟨wj.heap.size,0,none⟩=some (.string x0)∧W.cell? ⟨wj.heap.size,1,none⟩=some (.int i64 x1)∧W.cell? ⟨wj.heap.size,2,none⟩=some (.int i64 x2))
      (first | (with_reducible assumption) | (with_reducible exact HKL.out _ (Below.drew (bRQ _ _))) | (with_reducible exact HKL.out _ HBX.out) | (with_reducible exact HKL.out _ HBZ.out) | (with_reducible exact HKG.out))
      (first
       | (go_at_call 7;refine (pspot_any _ _ _ HM.out.2).mono ?_;rintro e w' ⟨rfl,hb⟩;have HBX:Hid (Below wb.heap.size wb w'):=(by first | exact hb | exact pdrew hb);have HBZ:Hid (Below wb.heap.size wb (w'.alloc (.cells #[.string (⟨#[104,111,115,116,32]⟩++x0++⟨#[32]⟩++spT (x1,x2))] 9))):=HBX.out.alloc HBX.out.size _;clear hb)
       | (refine step_append_blk (E:=strE) _ (by rfl) _ _ 39 9 (by rfl) underlying39 j1 _ 16 HI1.out HI2.out HI3.out HI4.out (by rfl) w1.heap.size (.slice a7 m7 c7) (by rfl) (P1++(Hs.take j).map hoT) (HKO.out _ HBZ.out) w'.heap.size 0 1 (by rfl) (⟨#[104,111,115,116,32]⟩++x0++⟨#[32]⟩++spT (x1,x2)) (str_new _ (⟨#[104,111,115,116,32]⟩++x0++⟨#[32]⟩++spT (x1,x2)) _) HLV1.out HLV2.out ?_ ?_;(focus (have:=HBZ.out.size;have:=HLB.out;omega));intro v5 w5 ho5 hg5 hb5;have HGG:Hid _:=HFIN.out _ _ _ HBZ.out hg5 ho5;have HKG:Hid _:=HGW.out _ _ HBZ.out hg5;obtain⟨a6,m6,c6,rfl⟩:∃b1 m1 d1,v5=Value.slice b1 m1 d1:=(by obtain⟨a,c,h⟩:=own_form ho5;exact⟨a,_,c,h⟩);clear ho5 hg5 hb5))
     all_goals go_wp2
     all_goals go_roundw
     all_goals first
      | (simp[intOf];omega)
      | exact⟨j+1,by omega,by go_num,HGG.out⟩
    obtain rfl:j=n2:=by omega
    have hall:Hs.take j=Hs:=by rw[←HN.out.1.2.1];exact List.take_length
    rw[hall] at HX;obtain⟨q0,q1,q2,q3⟩:=HNB.out wj HB.out;go_upto_region 16 with fail;clear q0 q1 q2 q3;obtain⟨P2,hP2⟩:∃P,P=P1++Hs.map hoT:=⟨_,rfl⟩;rw[←hP2] at HX;have HP2:Hid (P2.length≤209∧P2++(tbT 0 Ts++ws.map shT)=swT S :: (Ls.map lnT++(Hs.map hoT++(tbT 0 Ts++ws.map shT)))):=by
     have h1:=HN.out;have h2:=HP1.out;rw[hP2];exact⟨by simp;omega,by rw[←h2.2];simp⟩
    clear hP2 hall HP1 hlt2
    go_loopw [7,78] (fun v i wr=>∃(t:Nat),t≤n3∧i=.int i64 (t:Int)∧RowS wr w1.heap.size v (P2++tbT 0 (Ts.take t))∧Below w1.heap.size w1 wr) (fun _ i _=>n3-(intOf i).toNat)
    case atStart=>exact⟨0,by omega,rfl,by simpa[tbT] using HX.out,HB.out⟩
    case round =>
     obtain⟨t,ht,rfl,hX3,hB3⟩:=hrel;obtain⟨wt,hwt⟩:∃Y,Y=wr:=⟨_,rfl⟩;subst hwt;clear HX HB;obtain⟨a7,m7,c7,rfl⟩:∃b1 m1 d1,u7=Value.slice b1 m1 d1:=by obtain⟨a,c,h⟩:=own_form hX3;exact⟨a,_,c,h⟩
     have HX:Hid (RowS wt w1.heap.size (.slice a7 m7 c7) (P2++tbT 0 (Ts.take t))):=hX3;have HB:Hid (Below w1.heap.size w1 wt):=hB3;clear hX3 hB3;have HP3:Hid ((P2++tbT 0 (Ts.take t)).length≤281):=by
      have h1:=tb_few (Ts:=Ts.take t) (k:=0) fun T hm=>(HTB.out T (List.mem_of_mem_take hm)).1
      have h2:=HP2.out.1;have h3:=HN.out;rw[List.length_take] at h1;rw[List.length_append];show _≤_;omega
     by_cases hlt3:t<n3
     ·obtain⟨_,_,_,ee,_,_,_,hat⟩:=(HG.out w1 (bRQ _ _)).1.2.2.1.form;cases ee;obtain⟨g,o,rfl,hga,_⟩:=hat (by omega);have htl:t<Ts.length:=by have:=HN.out;omega
      obtain⟨a8,n8,c8,y1,hSR⟩:=hga t htl;have y0:=cell_later HB.out y1;clear y1;obtain⟨T,hT⟩:∃T,T=Ts[t]:=⟨_,rfl⟩;rw[←hT] at hSR;have HTT:Hid (T.length≤12∧∀r∈T,r.ok=true):=by rw[hT];exact HTB.out _ (List.getElem_mem htl)
      have HTN:Hid (T.length=n8):=by
       obtain⟨_,_,_,e,h,_⟩:=hSR.form;cases e;exact h
      have HTK:Hid (tbT 0 (Ts.take (t+1))=tbT 0 (Ts.take t)++T.map (rlT ((t+1:Nat):Int))):=by
       show _=_;rw[List.take_succ_eq_append_getElem htl,←hT,tb_snoc,List.length_take,show 0+min t Ts.length+1=t+1 by omega]
      have HSR:Hid (∀W,Below w1.heap.size w1 W→SR W (.slice a8 n8 c8) T):=fun W h=>hSR.later h
      have n8b:n8≤12:=by have:=HTT.out.1;have:=HTN.out;omega
      have kb0:(0:Int)≤(t:Int):=by omega
      have kb1:(t:Int)<(n3:Int):=by omega
      clear hga hat hSR hT htl;go_upto_region 19 with fail;clear y0
      go_loopw [7,85] (fun v i wr=>∃(m:Nat),m≤n8∧i=.int i64 (m:Int)∧RowS wr w1.heap.size v (P2++tbT 0 (Ts.take t)++(T.take m).map (rlT ((t+1:Nat):Int)))∧Below w1.heap.size w1 wr) (fun _ i _=>n8-(intOf i).toNat)
      case atStart=>exact⟨0,by omega,rfl,by simpa using HX.out,HB.out⟩
      case round =>
       obtain⟨m,hm,rfl,hX4,hB4⟩:=hrel;obtain⟨wm,hwm⟩:∃Y,Y=wr:=⟨_,rfl⟩;subst hwm;clear HX HB;obtain⟨a7,m7,c7,rfl⟩:∃b1 m1 d1,u7=Value.slice b1 m1 d1:=by obtain⟨a,c,h⟩:=own_form hX4;exact⟨a,_,c,h⟩
       have HX:Hid (RowS wm w1.heap.size (.slice a7 m7 c7) (P2++tbT 0 (Ts.take t)++(T.take m).map (rlT ((t+1:Nat):Int)))):=hX4;have HB:Hid (Below w1.heap.size w1 wm):=hB4;have hS4:=HSR.out wm hB4;clear hX4 hB4;by_cases hlt4:m<n8
       ·obtain⟨_,_,_,ee,_,_,_,hat⟩:=hS4.form;cases ee;obtain⟨g2,o2,rfl,hra,_⟩:=hat (by omega);have hml:m<T.length:=by have:=HTN.out;omega
        obtain⟨r,hr⟩:∃r,r=T[m]:=⟨_,rfl⟩;have hC:=hra m hml;rw[←hr] at hC;have HRO:Hid (r.ok=true):=by rw[hr];exact HTT.out.2 _ (List.getElem_mem hml)
        obtain⟨D,hD⟩:∃D,D=dgS ((t+1:Nat):Int):=⟨_,rfl⟩;obtain⟨R,hR⟩:∃R,R=rsS r.p r.m r.b r.o r.s r.v:=⟨_,rfl⟩;have HNX:Hid (P2++tbT 0 (Ts.take t)++(T.take (m+1)).map (rlT ((t+1:Nat):Int))=(P2++tbT 0 (Ts.take t)++(T.take m).map (rlT ((t+1:Nat):Int)))++[⟨#[114,117,108,101,32]⟩++D++⟨#[32]⟩++R]):=by
         show _=_;rw[List.take_succ_eq_append_getElem hml,←hr,List.map_append,hD,hR,ln_rl_eq];simp
        have z1:D.size≤2:=by rw[hD];exact dg_size _
        have z2:R.size≤25:=by rw[hR];exact rs_size r
        have HDD:Hid (dgS ((t+1:Nat):Int)=D):=hD.symm;have HRR:Hid (rsS r.p r.m r.b r.o r.s r.v=R):=hR.symm;obtain⟨LL,hLL⟩:∃LL,LL=P2++tbT 0 (Ts.take t)++(T.take m).map (rlT ((t+1:Nat):Int)):=⟨_,rfl⟩;have HX2:Hid (RowS wm w1.heap.size (.slice a7 m7 c7) LL):=by show RowS _ _ _ _;rw[hLL];exact HX.out
        have HNX2:Hid (P2++tbT 0 (Ts.take t)++(T.take (m+1)).map (rlT ((t+1:Nat):Int))=LL++[⟨#[114,117,108,101,32]⟩++D++⟨#[32]⟩++R]):=by show _=_;rw[hLL];exact HNX.out
        have HLV1:Hid (LL.length+1≤maxLen):=by
         have:=HP3.out;show _≤_;rw[hLL];rw[List.length_append,List.length_map,List.length_take];unfold maxLen;omega
        have HLV2:Hid ((LL.length+1)*16≤140737488355328):=by
         have:=HP3.out;show _≤_;rw[hLL];rw[List.length_append,List.length_map,List.length_take];omega
        have mb0:(0:Int)≤(m:Int):=by omega
        have mb1:(m:Int)<(n8:Int):=by omega
        have hwr:IntKind.i64.wrap ((t:Int)+1)=((t+1:Nat):Int):=by rw[IntKind.wrap_i64];have:=HN.out;omega
        have hwr2:wrap64 ((t:Int)+1)=((t+1:Nat):Int):=by unfold wrap64;have:=HN.out;omega
        obtain⟨Y,hY⟩:∃Y:Int,Y=((t+1:Nat):Int):=⟨_,rfl⟩;rw[←hY] at hwr hwr2 HDD;have HY:Hid (0≤Y∧Y<100):=⟨by omega,by have:=HN.out;omega⟩;obtain⟨rp,rm,rb,ro,rs,rv⟩:=r;obtain⟨k0,k1,k2,k3,k4,k5⟩:=hC
        dsimp only at k0 k1 k2 k3 k4 k5 HRR
        have hbb:Below wm.heap.size wm (wm.alloc (.cells #[.int i64 rp,.int i64 rm,.int i64 rb,.int i64 ro,.int i64 rs,.int i64 rv] 50)):=(bRQ _ _).alloc (nLQ _) _;have HBB:Hid (Below wm.heap.size wm (wm.alloc (.cells #[.int i64 rp,.int i64 rm,.int i64 rb,.int i64 ro,.int i64 rs,.int i64 rv] 50))):=hbb;clear hra hat hS4 hr hml hD hR hY hbb hLL
        go_wp2_with fail
        refine (ruPrint_ok rp rm rb ro rs rv _ HRO.out).mono ?_;rintro e w5 ⟨rfl,hb5⟩;rw[HRR.out];have HB5:Hid (Below wm.heap.size wm w5):=HBB.out.trans (hb5.mono HBB.out.size);have HW5:Hid (Below w1.heap.size w1 w5):=HB.out.trans (HB5.out.mono HB.out.size);have HR5:Hid (RowS w5 w1.heap.size (.slice a7 m7 c7) LL):=HX2.out.later HB5.out;clear hb5 k0 k1 k2 k3 k4 k5
        go_wp2_with fail
        refine (itoa_any Y _ HY.out.1 HY.out.2).mono ?_;rintro e w' ⟨rfl,hw'⟩;have hw'':=hw'.symm;subst hw'';clear hw';rw[HDD.out]
        go_wp2_with (at_builtin;refine wpList_append_blk (E:=strE) _ rfl _ _ 39 9 rfl underlying39 j1 _ 16 HI1.out HI2.out HI3.out HI4.out (by rfl) w1.heap.size (.slice a7 m7 c7) rfl LL (World.ownsRow.alloc HR5.out _) w5.heap.size 0 1 rfl (⟨#[114,117,108,101,32]⟩++D++⟨#[32]⟩++R) (str_new _ _ _) HLV1.out HLV2.out ?mz ?_)
        case mz =>
         have:=HW5.out.size;simp;omega
        intro v' w6 ho6 hg6 hb6;have HF6:Hid (RowS w6 w1.heap.size v' (P2++tbT 0 (Ts.take t)++(T.take (m+1)).map (rlT ((t+1:Nat):Int)))∧Below w1.heap.size w1 w6):=row_push (wb:=w1) rfl (HW5.out.alloc HW5.out.size _) (RowS.later HR5.out ((bRQ _ _).alloc (nLQ _) _)) hg6 (by simpa using ho6) HNX2.out;clear ho6 hg6 hb6;go_wp2;go_roundw
        case rel=>exact⟨m+1,by omega,by go_num,HF6.out⟩
        case measure=>simp[intOf];omega
       obtain rfl:m=n8:=by omega
       have HX5:Hid (RowS wm w1.heap.size (.slice a7 m7 c7) (P2++tbT 0 (Ts.take (t+1)))):=by
        have h1:=HX.out;rw[show T.take m=T by rw[←HTN.out];exact List.take_length] at h1;show RowS _ _ _ _;rw[HTK.out,←List.append_assoc];exact h1
       clear hS4;go_wp2;go_roundw
       case rel=>exact⟨t+1,by omega,by go_num,HX5.out,HB.out⟩
       case measure=>simp[intOf];omega
     obtain rfl:t=n3:=by omega
     have hall:Ts.take t=Ts:=by rw[←HN.out.1.2.2.1];exact List.take_length
     rw[hall] at HX;obtain⟨q0,q1,q2,q3⟩:=HNB.out wt HB.out;go_upto_region 26 with fail;clear q0 q1 q2 q3;obtain⟨P3,hP3⟩:∃P,P=P2++tbT 0 Ts:=⟨_,rfl⟩;rw[←hP3] at HX;have HP4:Hid (P3.length≤281∧P3++ws.map shT=swT S :: (Ls.map lnT++(Hs.map hoT++(tbT 0 Ts++ws.map shT)))):=by
      have h2:=HP2.out;have h3:=HP3.out;rw[hall] at h3;rw[hP3];exact⟨h3,by rw[←h2.2];simp⟩
     clear hP3 hall HP2 HP3 hlt3
     go_loopw [7,108] (fun v i wr=>∃(q:Nat),q≤n4∧i=.int i64 (q:Int)∧RowS wr w1.heap.size v (P3++(ws.take q).map shT)∧Below w1.heap.size w1 wr) (fun _ i _=>n4-(intOf i).toNat)
     case atStart=>exact⟨0,by omega,rfl,by simpa using HX.out,HB.out⟩
     case round =>
      obtain⟨q,hq,rfl,hX5,hB5⟩:=hrel;obtain⟨wq,hwq⟩:∃Y,Y=wr:=⟨_,rfl⟩;subst hwq;clear HX HB;obtain⟨a7,m7,c7,hu7⟩:∃b1 m1 d1,u7=Value.slice b1 m1 d1:=by obtain⟨a,c,h⟩:=own_form hX5;exact⟨a,_,c,h⟩
      subst hu7;have HX:Hid (RowS wq w1.heap.size (.slice a7 m7 c7) (P3++(ws.take q).map shT)):=hX5;have HB:Hid (Below w1.heap.size w1 wq):=hB5;clear hX5 hB5;by_cases hlt5:q<n4
      ·obtain⟨_,_,_,ee,_,_,_,hat⟩:=(HG.out wq HB.out).1.2.2.2.form;cases ee;obtain⟨g,o,rfl,hga,_⟩:=hat (by omega);obtain⟨x0,x1,x2,x3,hkl,hLk,y0,y1,y2,y3⟩:=wis_at hga HN.out.1.2.2.2 hlt5;have HSH:Hid (shN ⟨x0,x1,x2,x3⟩=0):=by
        have:=HWS.out _ (List.getElem_mem hkl);rw[hLk] at this;exact this
       obtain⟨R,hR⟩:∃R,R=shT ⟨x0,x1,x2,x3⟩:=⟨_,rfl⟩;have HNX:Hid (P3++(ws.take (q+1)).map shT=(P3++(ws.take q).map shT)++[R]):=by
        show _=_;rw[List.take_succ_eq_append_getElem hkl,hLk,List.map_append,hR,List.append_assoc];rfl
       have HRR:Hid (shV ⟨x0,x1,x2,x3⟩=R):=by
        show _=_;rw[shV,if_pos HSH.out,hR]
       obtain⟨LL,hLL⟩:∃LL,LL=P3++(ws.take q).map shT:=⟨_,rfl⟩;have HX2:Hid (RowS wq w1.heap.size (.slice a7 m7 c7) LL):=by show RowS _ _ _ _;rw[hLL];exact HX.out
       have HNX2:Hid (P3++(ws.take (q+1)).map shT=LL++[R]):=by show _=_;rw[hLL];exact HNX.out
       have HLV1:Hid (LL.length+1≤maxLen):=by
        have:=HP4.out.1;show _≤_;rw[hLL];rw[List.length_append,List.length_map,List.length_take];unfold maxLen;omega
       have HLV2:Hid ((LL.length+1)*16≤140737488355328):=by
        have:=HP4.out.1;show _≤_;rw[hLL];rw[List.length_append,List.length_map,List.length_take];omega
       have mb0:(0:Int)≤(q:Int):=by omega
       have mb1:(q:Int)<(n4:Int):=by omega
       have hbb:Below wq.heap.size wq (wq.alloc (.cells #[.int i64 x0,.string x1,.string x2,.int i64 x3] 53)):=(bRQ _ _).alloc (nLQ _) _;have HBB:Hid (Below wq.heap.size wq (wq.alloc (.cells #[.int i64 x0,.string x1,.string x2,.int i64 x3] 53))):=hbb;clear hga hat hLk hkl hbb hR hLL
       go_wp2_with fail
       refine (print_any x0 x1 x2 x3 _ (HG.out _ (HB.out.trans (HBB.out.mono HB.out.size))).2).mono ?_;rintro e w5 ⟨rfl,hb5⟩;rw[HRR.out,HSH.out,show noV 0=.nilIface from rfl];have HB5:Hid (Below wq.heap.size wq w5):=HBB.out.trans (hb5.mono HBB.out.size);have HW5:Hid (Below w1.heap.size w1 w5):=HB.out.trans (HB5.out.mono HB.out.size);have HR5:Hid (RowS w5 w1.heap.size (.slice a7 m7 c7) LL):=HX2.out.later HB5.out;clear hb5 y0 y1 y2 y3
       go_wp2_with (at_builtin;refine wpList_append_blk (E:=strE) _ rfl _ _ 39 9 rfl underlying39 j1 _ 16 HI1.out HI2.out HI3.out HI4.out (by rfl) w1.heap.size (.slice a7 m7 c7) rfl LL (World.ownsRow.alloc HR5.out _) w5.heap.size 0 1 rfl R (str_new _ _ _) HLV1.out HLV2.out ?mz ?_)
       case mz =>
        have:=HW5.out.size;simp;omega
       intro v' w6 ho6 hg6 hb6;have HF6:Hid (RowS w6 w1.heap.size v' (P3++(ws.take (q+1)).map shT)∧Below w1.heap.size w1 w6):=row_push (wb:=w1) rfl (HW5.out.alloc HW5.out.size _) (RowS.later HR5.out ((bRQ _ _).alloc (nLQ _) _)) hg6 (by simpa using ho6) HNX2.out;clear ho6 hg6 hb6;go_wp2;go_roundw
       case rel=>exact⟨q+1,by omega,by go_num,HF6.out⟩
       case measure=>simp[intOf];omega
      obtain rfl:q=n4:=by omega
      obtain⟨l,hl⟩:∃l,l=P3++ws.map shT:=⟨_,rfl⟩;have HXL:Hid (RowS wq w1.heap.size (.slice a7 m7 c7) l):=by
       have h1:=HX.out;rw[show ws.take q=ws by rw[←HN.out.1.2.2.2];exact List.take_length,←hl] at h1;exact h1
      have HLZ:Hid (Z=nlT 10 l∧∃x r,l=x :: r):=by
       have e1:l=linesT S Ls Hs Ts ws:=by rw[hl,HP4.out.2];rfl
       exact⟨by rw[HZT.out,e1];rfl,by rw[e1];exact⟨_,_,rfl⟩⟩
      obtain⟨y,r,hlr⟩:=HLZ.out.2;have hJ:=join_nl y r;rw[←hlr,←HLZ.out.1] at hJ;have hll:l.length≤400:=by
       rw[hl,List.length_append,List.length_map];have:=HP4.out.1;have:=HN.out;omega
      have HZS:Hid (Z.size≤100000):=by
       show _≤_;rw[HLZ.out.1];have h1:∀a∈l,a.size≤40:=by
        have e1:l=linesT S Ls Hs Ts ws:=by rw[hl,HP4.out.2];rfl
        rw[e1];exact ln_size HHO.out HWS.out
       have h2:=nl_size h1;omega
      obtain⟨J,hJJ⟩:∃J:List UInt8,J=Lib.join (l.map (·.data.toList)) [10]:=⟨_,rfl⟩;rw[←hJJ] at hJ;have HJ:Hid (Lib.join (l.map (·.data.toList)) [10]=J∧J++[10]=Z.data.toList):=⟨hJJ.symm,hJ⟩;have hJs:J.length≤100000:=by
       have h1:=congrArg List.length hJ;rw[List.length_append,←Lib.size_eq] at h1;have:=HZS.out;omega
      have HJL:Hid (J.length≤100000∧l.length≤400):=⟨hJs,hll⟩;obtain⟨g7,rfl⟩:∃g,a7=some ⟨g,0,none⟩:=by
       rcases HXL.out.2 with ⟨h1,h2⟩ | ⟨g,_,_,h1,_⟩
       ·rw[hlr] at h2;simp at h2
       cases h1;exact⟨g,rfl⟩
      obtain⟨rfl,hcap7⟩:m7=l.length∧l.length≤c7:=by
       rcases HXL.out.2 with ⟨h1,h2⟩ | ⟨g,_,_,h1,_,_,h2,_⟩
       ·cases h1
       cases h1;exact⟨rfl,h2⟩
      have HCP:Hid (l.length≤c7):=hcap7;clear hJ hJJ hl hlr hll hcap7 HX
      go_wp2_with fail
      refine (strings_Join g7 0 c7 l ⟨#[10]⟩ wq (RowS.cell HXL.out) (World.ownsRow.lt HXL.out g7 rfl).2 (by have:=HJL.out.2;omega) HCP.out (by
       have h1:=HJ.out.1;have h2:=HJL.out.1;show (Lib.join (l.map (·.data.toList)) [10]).length≤_;rw[h1];omega)).mono ?_
      rintro e w9 ⟨rfl,hb9⟩;rw[show (⟨#[10]⟩:ByteArray).data.toList=[10] from rfl,HJ.out.1];have HB9:Hid (Below w.heap.size w w9):=HB1.out.trans ((HB.out.trans (hb9.mono HB.out.size)).mono HB1.out.size);obtain⟨K,hK⟩:∃K:ByteArray,K=⟨J.toArray⟩:=⟨_,rfl⟩;have HK:Hid (K++⟨#[10]⟩=Z):=by
       show _=_
       apply wa_ext
       rw[wa_app,hK];have:=HJ.out.2;simpa using this
      have hks:K.size≤100000:=by
       have h1:K.size=J.length:=by rw[hK,Lib.size_eq]
       omega
      rw[←hK];clear hb9 hK hJs;go_wp2;refine bodyPost_ret (v:=.tuple #[.string (K++⟨#[10]⟩),.nilIface]) (by simp[results,results4,go_sem, *]) rfl ⟨by rw[HK.out];rfl,HB9.out⟩
 have HZE:Hid (Z=ByteArray.empty):=by show _=_;rw[HZ.out,if_neg hC0]
 have hno:noV C=.iface 71 (.int i64 C):=by unfold noV;rw[if_neg hC0]
 have HNO:Hid (noV C=.iface 71 (.int i64 C)):=hno;rw[hno];clear hno hC0;go_wp2;refine bodyPost_ret (v:=.tuple #[.string ⟨#[]⟩,.iface 71 (.int i64 C)]) (by simp[results,results4,go_sem, *]) rfl ⟨by rw[HZE.out,HNO.out];rfl,HB1.out⟩
end
namespace textLines
open Go.RowKit
def smT:TsQ→Nat
 | []=>0
 | T :: Ts=>T.length+smT Ts
theorem sm_take:∀{Ts:TsQ} {t:Nat} (h:t<Ts.length),smT (Ts.take (t+1))=smT (Ts.take t)+Ts[t].length
 | T :: Ts,0,_=>by simp[smT]
 | T :: Ts,t+1,h=>by
   have:=sm_take (Ts:=Ts) (t:=t) (by simpa using h);simp only[List.take_succ_cons,smT,this,List.getElem_cons_succ];omega
theorem tb_sm:∀(Ts:TsQ) (k:Nat),(tbT k Ts).length=smT Ts
 | [],_=>rfl
 | T :: Ts,k=>by rw[tbT,List.length_append,List.length_map,tb_sm Ts (k+1),smT]
theorem sm_le:∀{Ts:TsQ},(∀T∈Ts,T.length≤12)→smT Ts≤12*Ts.length
 | [],_=>Nat.zero_le _
 | T :: Ts,h=>by
   have h1:=h T (List.mem_cons_self ..);have h2:=sm_le fun x hx=>h x (List.mem_cons_of_mem _ hx)
   rw[smT,List.length_cons];omega
def ctN (s:ByteArray)(k:Nat):Nat:=(s.data.toList.take k).count 10
theorem ct_next {s:ByteArray}{k:Nat}(h:k<s.size):ctN s (k+1)=ctN s k+if byteN s k=10 then 1 else 0:=by
 have hl:k<s.data.toList.length:=by rw[←Lib.size_eq];exact h
 unfold ctN;rw[List.take_succ_eq_append_getElem hl,List.count_append,List.count_singleton]
 congr 1
 have e:byteN s k=(s.data.toList[k]).toNat:=byC_of (List.getElem?_eq_getElem hl);by_cases h10:s.data.toList[k]=10
 ·rw[e,h10];rfl
 have h2:¬byteN s k=10:=fun e2=>h10 (UInt8.toNat_inj.1 (by rw[←e,e2];rfl))
 have h3:(s.data.toList[k]==10)=false:=beq_eq_false_iff_ne.2 h10;rw[if_neg h2,h3];rfl
theorem ct_nl:∀{l:List ByteArray},(∀a∈l,(10:UInt8) ∉ a.data.toList)→(nlT 10 l).data.toList.count 10=l.length
 | [],_=>rfl
 | a :: l,h=>by
   have h1:=h a (List.mem_cons_self ..);have h2:=ct_nl fun x hx=>h x (List.mem_cons_of_mem _ hx)
   rw[nlT,wa_app,wa_app,chW_lst,List.count_append,List.count_append,h2,List.count_eq_zero.2 h1,List.length_cons];simp;omega
theorem nl_last:∀{l:List ByteArray},l≠[]→∃r,(nlT 10 l).data.toList=r++[10]
 | [],h=>absurd rfl h
 | [a],_=>⟨a.data.toList,by
   rw[nlT,nlT,wa_app,wa_app,chW_lst];rfl⟩
 | a :: b :: l,_=>by
   obtain⟨r,e⟩:=nl_last (l:=b :: l) (by simp);refine⟨a.data.toList++([10]++r),?_⟩;rw[nlT,wa_app,wa_app,chW_lst,e];simp
theorem tx_count {S:Int}{Ls:LkQ}{Hs:HoQ}{Ts:TsQ}{ws:List Wi}(h:nwsN S Ls Hs Ts ws=0):
 ctN (textT S Ls Hs Ts ws) (textT S Ls Hs Ts ws).size=1+Ls.length+Hs.length+ws.length+smT Ts∧1≤(textT S Ls Hs Ts ws).size∧byteN (textT S Ls Hs Ts ws) ((textT S Ls Hs Ts ws).size-1)=10:=by
 obtain⟨h1,h2⟩:=nw_0 h;have hc:=lines_cut h1 h2;have hno:∀a∈linesT S Ls Hs Ts ws,(10:UInt8) ∉ a.data.toList:=fun a ha=>cc_no 10 _ (textT S Ls Hs Ts ws) (nLQ _) a (by
  show a∈cutC 10 (textT S Ls Hs Ts ws);rw[hc];exact List.mem_append_left _ ha)
 have hk:=ct_nl hno;obtain⟨r,hr⟩:=nl_last (l:=linesT S Ls Hs Ts ws) (by simp[linesT]);have hsz:(textT S Ls Hs Ts ws).size=r.length+1:=by
  rw[Lib.size_eq];show (nlT 10 (linesT S Ls Hs Ts ws)).data.toList.length=_;rw[hr];simp
 refine⟨?_,by omega,?_⟩
 ·unfold ctN;rw[Lib.size_eq,List.take_length];show (nlT 10 (linesT S Ls Hs Ts ws)).data.toList.count 10=_;rw[hk,linesT,List.length_cons,List.length_append,List.length_append,List.length_append,List.length_map,List.length_map,List.length_map,tb_sm];omega
 rw[hsz,Nat.add_sub_cancel];refine (byC_of (c:=10) ?_).trans rfl;show (nlT 10 (linesT S Ls Hs Ts ws)).data.toList[r.length]?=some 10;rw[hr];simp
theorem fact_n:nwsN 1 [] [] [[]] []=0:=by decide +kernel
theorem fact_t:ptS 1 [] [] [[]] []=⟨#[115,119,105,116,99,104,101,115,32,49,10]⟩:=by decide +kernel
theorem one_tab (w:World)(t:TypeId):TS (w.alloc (.cells #[.slice none 0 0] t)) (.slice (some ⟨w.heap.size,0,none⟩) 1 1) [[]]:=
 .inr ⟨w.heap.size,0,1,rfl,nLQ _,by unfold maxLen;omega,fun i hi=>by
  obtain rfl:i=0:=by simp at hi;exact hi
  exact⟨none,0,0,by simp,.inl ⟨none,0,rfl,rfl⟩⟩⟩
theorem walk (S:Int)(ao:AdQ)(n cap:Nat)(ao2:AdQ)(n2 cap2:Nat)(ao3:AdQ)(n3 cap3:Nat)(a4:AdQ)(n4 c4:Nat)(Ls:LkQ)(Hs:HoQ)(Ts:TsQ)(ws:List Wi)(w:World)
 (hL:GS lnkE w (.slice ao n cap) Ls) (hH:GS hstE w (.slice ao2 n2 cap2) Hs) (hT:TS w (.slice ao3 n3 cap3) Ts) (hW:GS wisE w (.slice a4 n4 c4) ws) (hwd:HasWords w):
 Calls prog 3 #[.agg #[.int i64 S,.slice ao n cap,.slice ao2 n2 cap2,.slice ao3 n3 cap3],.slice a4 n4 c4] w fun e w'=>e=.returned (.bool true)∧Below w.heap.size w w':=by
 obtain⟨w0,hw0⟩:∃W,W=w.alloc (.cells #[.int i64 S,.slice ao n cap,.slice ao2 n2 cap2,.slice ao3 n3 cap3] 28):=⟨_,rfl⟩;have hb0:Below w.heap.size w w0:=by rw[hw0];exact (bRQ _ _).alloc (nLQ _) _
 have hnb:NeBox w0 w.heap.size S (.slice ao n cap) (.slice ao2 n2 cap2) (.slice ao3 n3 cap3):=by rw[hw0];exact nebox_new w S (.slice ao n cap) (.slice ao2 n2 cap2) (.slice ao3 n3 cap3) 28
 have HB0:Hid (Below w.heap.size w w0):=hb0;have HW0:Hid (w.alloc (.cells #[.int i64 S,.slice ao n cap,.slice ao2 n2 cap2,.slice ao3 n3 cap3] 28)=w0):=hw0.symm;have HNB:Hid (∀W,Below w0.heap.size w0 W→NeBox W w.heap.size S (.slice ao n cap) (.slice ao2 n2 cap2) (.slice ao3 n3 cap3)):=fun W h=>hnb.later h
 have HG:Hid (∀W,Below w.heap.size w W→(GS lnkE W (.slice ao n cap) Ls∧GS hstE W (.slice ao2 n2 cap2) Hs∧TS W (.slice ao3 n3 cap3) Ts∧GS wisE W (.slice a4 n4 c4) ws)∧HasWords W):=fun W h=>⟨⟨hL.later h,hH.later h,hT.later h,hW.later h⟩,hwd.later h⟩
 have HNL:Hid (Ls.length=n∧Hs.length=n2∧Ts.length=n3∧ws.length=n4):=⟨hL.len,hH.len,hT.len,hW.len⟩;obtain⟨wa,hwa⟩:∃W,W=w0.alloc (.cells #[.slice none 0 0] 35):=⟨_,rfl⟩;have hba:Below w0.heap.size w0 wa:=by rw[hwa];exact (bRQ _ _).alloc (nLQ _) _
 have HTA:Hid (TS wa (.slice (some ⟨w0.heap.size,0,none⟩) 1 1) [[]]):=by show TS _ _ _;rw[hwa];exact one_tab w0 _
 have HBA:Hid (Below w0.heap.size w0 wa):=hba;have HWA:Hid (w0.alloc (.cells #[.slice none 0 0] 35)=wa):=hwa.symm;clear hL hH hT hW hwd hb0 hnb hw0 hba hwa;go_enter func3,ntmps3;go_upto_region 1 with fail;rw[HW0.out]
 go_wp2_with fail
 rw[HWA.out];refine (tprint_any 1 none 0 0 none 0 0 (some ⟨w0.heap.size,0,none⟩) 1 1 none 0 0 [] [] [[]] [] wa (GS.nil _) (GS.nil _) HTA.out (GS.nil _) (HG.out wa (HB0.out.trans (HBA.out.mono HB0.out.size))).2).mono ?_;rintro e w1 ⟨rfl,hb1⟩;rw[fact_n,fact_t,show noV 0=.nilIface from rfl];have HB1:Hid (Below w0.heap.size w0 w1):=HBA.out.trans (hb1.mono HBA.out.size);have HBW1:Hid (Below w.heap.size w w1):=HB0.out.trans (HB1.out.mono HB0.out.size);obtain⟨p0,p1,p2,p3⟩:=HNB.out w1 HB1.out;clear hb1
 go_wp2_with fail
 refine (tprint_any S ao n cap ao2 n2 cap2 ao3 n3 cap3 a4 n4 c4 Ls Hs Ts ws w1 (HG.out w1 HBW1.out).1.1 (HG.out w1 HBW1.out).1.2.1 (HG.out w1 HBW1.out).1.2.2.1 (HG.out w1 HBW1.out).1.2.2.2 (HG.out w1 HBW1.out).2).mono ?_;rintro e w3 ⟨rfl,hb3⟩;have HB3:Hid (Below w0.heap.size w0 w3):=HB1.out.trans (hb3.mono HB1.out.size);have HBX:Hid (Below w.heap.size w w3):=HB0.out.trans (HB3.out.mono HB0.out.size);clear hb3 p0 p1 p2 p3;by_cases hC:nwsN S Ls Hs Ts ws=0
 ·rw[hC,show noV 0=.nilIface from rfl];have hPt:ptS S Ls Hs Ts ws=textT S Ls Hs Ts ws:=by rw[ptS,if_pos hC]
  obtain⟨P,hP⟩:∃P,P=textT S Ls Hs Ts ws:=⟨_,rfl⟩;obtain⟨x1,x2,x3⟩:=tx_count hC;rw[hPt,←hP];rw[←hP] at x1 x2 x3;have HCT:Hid (ctN P P.size=1+Ls.length+Hs.length+ws.length+smT Ts∧1≤P.size∧byteN P (P.size-1)=10):=⟨x1,x2,x3⟩;obtain⟨hn,hws⟩:=nw_0 hC;obtain⟨ht,hS,hTb⟩:=nt_0 hn;obtain⟨⟨s1,s6⟩,⟨l200,l8⟩,hl,_,hh,_⟩:=tp_0 ht;have hT12:∀T∈Ts,T.length≤12:=fun T hm=>by
   obtain⟨k,hk,e⟩:=List.getElem_of_mem hm;have h1:=hTb k hk;rw[show Ts.getD k []=T by simp[List.getD,hk,e]] at h1;exact (tb_iff.1 h1).1
  have hw8:ws.length≤8:=by
   unfold wsN at hws;rw[if_pos ht] at hws;by_cases h8:8<ws.length
   ·rw[if_pos h8] at hws;cases hws
   omega
  have HSM:Hid (∀t,smT (Ts.take t)≤72):=fun t=>by
   have h1:=sm_le (Ts:=Ts.take t) fun T hm=>hT12 T (List.mem_of_mem_take hm)
   rw[List.length_take] at h1;have:=HNL.out;omega
  have HPS:Hid (P.size≤20000):=by
   show _≤_;have hss:=ln_size (S:=S) (Ls:=Ls) (Ts:=Ts) (fun x hx=>⟨(hh x hx).1,sp_sm s6 (hh x hx).2⟩) (ws_sh hws);have h2:=nl_size hss;rw[hP];show (nlT 10 (linesT S Ls Hs Ts ws)).size≤_;have h3:(linesT S Ls Hs Ts ws).length≤400:=by
    rw[linesT,List.length_cons,List.length_append,List.length_append,List.length_append,List.length_map,List.length_map,List.length_map,tb_sm];have h4:=sm_le hT12;have:=HNL.out;omega
   omega
  have n63:n≤200:=by have:=HNL.out;omega
  have m63:n2≤8:=by have:=HNL.out;omega
  have t63:n3≤6:=by have:=HNL.out;omega
  have w63:n4≤8:=by have:=HNL.out;omega
  have HTL:Hid (∀T∈Ts,T.length≤12):=hT12;clear hn hws ht hS hTb s1 s6 l200 l8 hl hh hT12 hw8 hPt hP x1 x2 x3 hC;obtain⟨p0,p1,p2,p3⟩:=HNB.out w3 HB3.out;go_wp2;clear p0 p1 p2 p3
  go_loopw [9,10] (fun v i wr=>∃(t:Nat),t≤n3∧i=.int i64 (t:Int)∧v=.int i64 ((1+n+n2+n4+smT (Ts.take t):Nat):Int)∧wr=w3) (fun _ i _=>n3-(intOf i).toNat)
  case atStart=>exact⟨0,by omega,rfl,by simp[smT],rfl⟩
  case round =>
   obtain⟨t,ht,rfl,rfl,rfl⟩:=hrel;obtain⟨p0,p1,p2,p3⟩:=HNB.out wr HB3.out;have hs72:=HSM.out t;by_cases hlt:t<n3
   ·obtain⟨_,_,_,ee,_,_,_,hat⟩:=(HG.out wr HBX.out).1.2.2.1.form;cases ee;obtain⟨g,o,rfl,hga,_⟩:=hat (by omega);have htl:t<Ts.length:=by have:=HNL.out;omega
    obtain⟨a8,n8,c8,y0,hSR⟩:=hga t htl;have h8:Ts[t].length=n8:=by
     obtain⟨_,_,_,e,h,_⟩:=hSR.form;cases e;exact h
    have HNX:Hid (smT (Ts.take (t+1))=smT (Ts.take t)+n8):=by show _=_;rw[sm_take htl,h8]
    have n8b:n8≤12:=by rw[←h8];exact HTL.out _ (List.getElem_mem htl)
    have kb0:(0:Int)≤(t:Int):=by omega
    have kb1:(t:Int)<(n3:Int):=by omega
    clear hga hat hSR htl h8;obtain⟨M,hM⟩:∃M,M=1+n+n2+n4+smT (Ts.take t):=⟨_,rfl⟩;have HM:Hid (1+n+n2+n4+smT (Ts.take t)=M):=hM.symm;have hMb:M≤400:=by omega
    rw[←hM];clear hM;go_wp2;go_roundw
    case rel=>exact⟨t+1,by omega,by go_num,by
     have h1:=HNX.out;have h2:=HM.out;have h3:1+n+n2+n4+smT (Ts.take (t+1))=M+n8:=by omega
     rw[h3]
     go_num,by first | trivial | rfl⟩
    case measure=>simp[intOf];omega
   obtain rfl:t=n3:=by omega
   have hall:Ts.take t=Ts:=by rw[←HNL.out.2.2.1];exact List.take_length
   rw[hall] at hs72 ⊢;obtain⟨M,hM⟩:∃M,M=1+n+n2+n4+smT Ts:=⟨_,rfl⟩;have HM:Hid (ctN P P.size=M):=by
    show _=_;rw[HCT.out.1,hM];have:=HNL.out;omega
   have hMb:M≤400:=by omega
   rw[←hM];clear hM hall;have hPS:P.size≤20000:=HPS.out;go_wp2;clear p0 p1 p2 p3
   go_loopw [11,12] (fun v i wr'=>∃(k:Nat),k≤P.size∧i=.int i64 (k:Int)∧v=.int i64 (ctN P k:Int)∧wr'=wr) (fun _ i _=>P.size-(intOf i).toNat)
   case atStart=>exact⟨0,by omega,rfl,by simp[ctN],rfl⟩
   case round =>
    obtain⟨k,hk,rfl,rfl,rfl⟩:=hrel;have hck:ctN P k≤k:=by
     unfold ctN;exact Nat.le_trans List.count_le_length (by rw[List.length_take];omega)
    obtain⟨K,hK⟩:∃K,K=ctN P k:=⟨_,rfl⟩;have HK:Hid (ctN P k=K):=hK.symm;rw[←hK] at hck ⊢;clear hK;by_cases hlt2:k<P.size
    ·have HBY:Hid (byteN P k=P[k].toNat):=byteN_at P k hlt2;have HNX:Hid (ctN P (k+1)=K+if byteN P k=10 then 1 else 0):=by show _=_;rw[ct_next hlt2,HK.out]
     cases e1:((P[k].toNat:Int)==10)
     ·have HN2:Hid (ctN P (k+1)=K):=by
       show _=_;rw[HNX.out,if_neg (by rw[HBY.out];simp at e1;omega)];rfl
      go_wp2;go_roundw
      case rel=>exact⟨k+1,by omega,by go_num,by rw[HN2.out],by first | trivial | rfl⟩
      case measure=>simp[intOf];omega
     have HN2:Hid (ctN P (k+1)=K+1):=by
      show _=_;rw[HNX.out,if_pos (by rw[HBY.out];simp at e1;omega)]
     go_wp2;go_roundw
     case rel=>exact⟨k+1,by omega,by go_num,by rw[HN2.out];go_num,by first | trivial | rfl⟩
     case measure=>simp[intOf];omega
    obtain rfl:k=P.size:=by omega
    have hKM:K=M:=HK.out.symm.trans HM.out;subst hKM;obtain⟨p,hp⟩:∃p,P.size=p+1:=⟨P.size-1,by have:=HCT.out.2.1;omega⟩;have hpl:p<P.size:=by omega
    have hby:(P[p].toNat:Int)=10:=by
     have h1:=HCT.out.2.2;rw[show P.size-1=p by omega,byteN_at P p hpl] at h1;omega
    have hidx:((P.size:Int)-1)=(p:Int):=by omega
    go_wp2;go_ret;exact⟨rfl,HBX.out⟩
 have hnoC:noV (nwsN S Ls Hs Ts ws)=.iface 71 (.int i64 (nwsN S Ls Hs Ts ws)):=by unfold noV;rw[if_neg hC]
 obtain⟨C,hCC⟩:∃C,C=nwsN S Ls Hs Ts ws:=⟨_,rfl⟩;obtain⟨P,hP⟩:∃P,P=ptS S Ls Hs Ts ws:=⟨_,rfl⟩;rw[hnoC,←hCC,←hP];clear hnoC hC hCC hP;go_wp2;go_ret;exact⟨rfl,HBX.out⟩
end textLines
section
def cellsOfNums (k:IntKind)(l:List Nat):Array Value:=(l.map fun (n:Nat)=>Value.int k (n:Int)).toArray
def db32:List Nat:=[0,1,28,2,29,14,24,3,30,22,20,15,25,17,4,8,31,27,13,23,21,19,16,7,26,12,18,6,11,5,10,9]
def db64:List Nat:=[0,1,56,2,57,49,28,3,61,58,42,50,38,29,17,4,62,47,59,36,45,43,51,22,53,39,33,30,24,18,12,5,63,55,48,27,60,41,37,16,46,35,44,21,52,32,23,11,54,26,40,15,34,20,31,10,25,14,19,9,13,8,7,6]
def pow10:List Nat:=(List.range 20).map fun (n:Nat)=>10 ^ n
def lay (cs:Array Value):Obj→Obj
 | .cells _ t frozen=>.cells cs t frozen
 | o=>o
end
namespace textLines
open Go.ChangeShapes Go.WideShapes Go.ChangeAt Go.RowKit
theorem own:ownKnob Tryd.prog.godebug=none:=by kernel_rfl
theorem laidOut:laidOutB prog=true:=by kernel_rfl
theorem gWor : Tryd.prog.globalNamed "railpoint/wish.words" = some 0 := by kernel_rfl
theorem tWor:(Tryd.prog.globals[0]?).map (·.type)=some 61:=by kernel_rfl
theorem str_cell {W:World}{fuel:Nat}{c:Value}{l:List UInt8}{b:ByteArray}{x:DataW Unit×List MemPlace}(hb:b.data.toList=l)(hx:x.1=.lit (.string l))
 (h:DataW.trod (fun _=>()) prog W 0 (fun _=>true) false fuel 9 [c]=some x):c=.string b:=by
 obtain⟨s,e1,e2,_⟩:=DataW.trod_string underlying9 h;have e3:c=.string s:=by simpa using e1
 rw[e2] at hx;have e4:s.data.toList=l:=by simpa using hx
 rw[e3,wa_ext (e4.trans hb.symm)]
theorem words_cells {W : World}{cs : Array Value}{fuel : Nat}{p : List MemPlace}(hv : W.var? prog "railpoint/wish.words" = some cs)
 (h:DataW.trod (fun _=>()) prog W 0 (fun _=>true) false fuel 61 cs.toList=some (Rows.laid_railpoint_wish_words,p)):HasWords W:=by
 have hC:Tryd.prog.cellsOf 61=5:=by kernel_rfl
 have hS:Tryd.prog.cellsOf 9=1:=by kernel_rfl
 obtain⟨xs,m,_,hx,hl,hn,hi⟩:=DataW.trod_array (n:=5) (e:=9) (by kernel_rfl) h;obtain⟨l⟩:=cs;simp only at hl hi;rw[hC] at hl
 match l,hl with
 | [c0,c1,c2,c3,c4],_ =>
   match xs,hn with
   | [y0,y1,y2,y3,y4],_ =>
     have hx2:([y0.1,y1.1,y2.1,y3.1,y4.1]:List (DataW Unit))=[.lit (.string []),.lit (.string [114,101,97,99,104]),.lit (.string [97,112,97,114,116]),.lit (.string [119,97,121]),.lit (.string [108,111,111,112,115])]:=by
      have:=congrArg Prod.fst hx;simp only[Rows.laid_railpoint_wish_words] at this;have h3:=DataW.agg.inj this;exact h3.symm
     simp only[List.cons.injEq,and_true] at hx2;obtain⟨e0,e1,e2,e3,e4⟩:=hx2;have g0:=hi 0 (by decide);have g1:=hi 1 (by decide);have g2:=hi 2 (by decide);have g3:=hi 3 (by decide);have g4:=hi 4 (by decide);simp[hS] at g0 g1 g2 g3 g4;have k0:=str_cell (b:=⟨#[]⟩) rfl e0 g0;have k1:=str_cell (b:=reaS) rfl e1 g1;have k2:=str_cell (b:=apaS) rfl e2 g2;have k3:=str_cell (b:=wayS) rfl e3 g3;have k4:=str_cell (b:=looS) rfl e4 g4;subst k0;subst k1;subst k2;subst k3;subst k4;exact⟨by simpa using World.var?_cell gWor hv 0,by simpa using World.var?_cell gWor hv 1,by simpa using World.var?_cell gWor hv 2,by simpa using World.var?_cell gWor hv 3,by simpa using World.var?_cell gWor hv 4⟩
theorem vars_of_laid {W:World}(h:laidMetH prog Rows.textLinesRow.laid W):HasWords W:=by
 have h' : laidMet prog [("math/bits.deBruijn32tab", Rows.laid_math_bits_deBruijn32tab), ("math/bits.deBruijn64tab", Rows.laid_math_bits_deBruijn64tab), ("internal/strconv.uint64pow10", Rows.laid_internal_strconv_uint64pow10), ("railpoint/wish.words", Rows.laid_railpoint_wish_words)] W := h
 obtain⟨ps,hl,_,_⟩:=h';obtain⟨_,_,_,_,_,_,_,_,_,_,hl,_⟩:=hl;obtain⟨_,_,_,_,_,_,_,_,_,_,hl,_⟩:=hl;obtain⟨_,_,_,_,_,_,_,_,_,_,hl,_⟩:=hl;obtain⟨g3,t3,c3,f3,p3,q3,hg3,ht3,hv3,hd3,hl,_⟩:=hl;obtain rfl:=Option.some.inj (gWor.symm.trans hg3);obtain rfl:=Option.some.inj (tWor.symm.trans ht3);exact words_cells hv3 hd3
def layAll (_:Nat)(h:Array Obj):Array Obj:=
 (((h.modify 3 (lay (cellsOfNums .u8 db32))).modify 4 (lay (cellsOfNums .u8 db64))).modify 1 (lay (cellsOfNums .u64 pow10))).modify 0 (lay #[.string ⟨#[]⟩,.string reaS,.string apaS,.string wayS,.string looS])
def errBlocks:Array Obj:=#[]
def laidOn (b:Nat)(w:World):World:={ w with heap:=layAll b w.heap }
theorem laid_met (os:Os)(args:Array Value):laidMetH prog Rows.textLinesRow.laid ((laidOn (World.holding prog default ⟨#[],#[],[]⟩).heap.size (World.holding prog os ⟨errBlocks,#[],[]⟩)).forCall (fun _ _=>0) ⟨#[],args,[]⟩).memory:=
 laidMetH_of_parts (laidMet_of_run' 8 (by kernel_rfl) (by kernel_rfl)) (by kernel_rfl)
theorem lifted (os:Os)(started:os.Started)(H:Type)(enc:TypeId×Value→H):
 ReturnsInHanded {} Tryd.checked os 3 .any (fun w args=>(Rows.textLinesSpec.pre enc prog Tryd.f3 [] false w args∧laidMetH prog Rows.textLinesRow.laid w)∧sizedMet enc prog Tryd.f3 (OpenSpec.ofChange Rows.textLinesSpec) false w args)
  (Rows.textLinesSpec.post enc prog Tryd.f3 false true false false):=by
 refine returnsInHanded_of_change_and (C:=Tryd.checked) (X:=fun w _=>laidMetH prog Rows.textLinesRow.laid w) (fun _ _ _ hh h=>h.of_heap hh) own started (by kernel_rfl) func3
  (ChangeSpec.witness_at (enc:=enc) (C:=Tryd.checked) (os:=os) (X:=fun w _=>laidMetH prog Rows.textLinesRow.laid w) false
   (laidOn (World.holding prog default ⟨#[],#[],[]⟩).heap.size (World.holding prog os ⟨errBlocks,#[],[]⟩))
   #[.agg #[.int i64 0,.slice none 0 0,.slice none 0 0,.slice none 0 0],.slice none 0 0] 8 rfl (by kernel_rfl) (by kernel_rfl) (by kernel_rfl) (by kernel_rfl) (by kernel_rfl) (laid_met os _)) ?_
 intro W base args ds gs before hval0 hW _ _ hLaid _;have hval:∀(j:Nat) t v,Tryd.f3.params[j]?=some t→args[j]?=some v→Value.okWide prog W .any base t v:=hval0;have hW':=hW;obtain⟨p,q,hA0,hV0,rfl,hfz,hnd⟩:=hW;have hA:DataW.TrodAll enc prog W 0 (fun _=>true) true Tryd.f3.params.toList args.toList ds p:=hA0;have hV:DataW.TrodVars enc prog W (fun _=>true) [] gs q:=hV0;rw[params3] at hA hval;obtain⟨v0,vs0,d0,ds0,p0,q0,hargs,rfl,rfl,h0,r0⟩:=trodAll_cons hA;obtain⟨v1,vs1,d1,ds1,p1,q1,rfl,rfl,rfl,h1,r1⟩:=trodAll_cons r0;obtain⟨rfl,rfl,rfl⟩:=trodAll_nil r1;obtain rfl:args=#[v0,v1]:=by cases args;simp_all
 have hwd:=vars_of_laid hLaid;obtain⟨rfl,rfl⟩:gs=[]∧q=[]:=by
  cases gs with
  | nil=>exact⟨rfl,hV⟩
  | cons g r=>exact absurd hV (by intro h;cases h)
 have k0:=h0;have lt0:∀x∈p0,x.block<W.heap.size:=by obtain⟨m,hm⟩:=k0;exact DataW.trod_lt m _ _ _ hm
 have k1:=h1;have lt1:∀x∈p1,x.block<W.heap.size:=by obtain⟨m,hm⟩:=k1;exact DataW.trod_lt m _ _ _ hm
 obtain⟨S,ao,n,cap,ao2,n2,cap2,ao3,n3,cap3,Ls,Hs,Ts,rfl,hL,hH,hT⟩:=net_of (hval 0 28 v0 rfl rfl) h0;obtain⟨l,hl⟩:=wiss_of (hval 1 29 v1 rfl rfl) h1;obtain⟨a4,n4,c4,rfl⟩:=okWide_slice underlying29 (hval 1 29 v1 rfl rfl);clear hA0 hval0;refine (walk S ao n cap ao2 n2 cap2 ao3 n3 cap3 a4 n4 c4 Ls Hs Ts l W hL hH hT hl hwd).mono fun e W' ⟨he,bel⟩=>?_
 subst he;exact⟨_,rfl,_,_,_,[],_,[],hW',trodAll_mk1 (shut_bool underlying4 _),(trodAll_cons_mk (Below.trod laidOut (by kernel_rfl) (of_decide_eq_true (by kernel_rfl)) k0 bel lt0) (trodAll_cons_mk (Below.trod laidOut (by kernel_rfl) (of_decide_eq_true (by kernel_rfl)) k1 bel lt1) trodAll_mk0)),rfl,bel.frame _,fun h=>by cases h⟩
theorem over:Rows.TextLinesSaid:=
 OpenClaim.holds_of_wide 3 Tryd.f3 rfl rfl rfl rfl rfl rfl rfl ⟨rfl,rfl,rfl,rfl,rfl⟩ rfl rfl rfl rfl rfl (by kernel_rfl) func3 (by kernel_rfl)
  (of_decide_eq_true (by kernel_rfl)) (by unfold Func.isWrapper;first | (rw[if_pos (by decide +kernel)];kernel_rfl) | (rw[if_neg (by decide +kernel)];exact⟨rfl,rfl⟩))
  (fun os started H enc _=>lifted os started H enc)
end textLines
end Go.Proofs.YtpbgocfinpbpgaaDoor
