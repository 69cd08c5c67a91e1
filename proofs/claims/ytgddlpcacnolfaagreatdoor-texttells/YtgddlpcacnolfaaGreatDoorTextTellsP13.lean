/- Contracts and facts on the way to TextTells, joined into one text: RefShow, RefSpotT, RefTextN, AlikeMath, SmTopo, TableSame, SmNet, SmWish, AsErr, AsErr2, SameNo, TextTells, RuleLaid, TextTellsRow. -/
import Derived.Test.YtgddlpcacnolfaaGreatDoorTextTellsP12
namespace Go.Proofs.YtgddlpcacnolfaaGreatDoor
set_option linter.unusedSimpArgs false
set_option linter.unusedVariables false
set_option maxHeartbeats 16000000
set_option maxRecDepth 100000
open Go.Proofs.Tryz
open IntKind (i64)
section
open Go.RowKit
theorem dig2:∀k:Fin 100,10≤k.val→dgS (((k:Nat):Int) / 10)++(⟨#[48,49,50,51,52,53,54,55,56,57]⟩:ByteArray).extract (((k:Nat):Int) % 10).toNat ((((k:Nat):Int) % 10)+1).toNat=dgS ((k:Nat):Int):=by
 decide +kernel
theorem digits_any (p:Int)(w:World)(h0:0≤p)(h1:p<100):
 Calls prog 16 #[.int i64 p] w fun e w'=>e=.returned (.string (dgS p))∧w'=w:=by
 by_cases h:p<10
 ·exact digits_lo p w h0 h
 have e1:decide (p<10)=false:=by simpa using h
 have hd:=dg_size (p / 10);have r0:0≤p % 10:=Int.emod_nonneg _ (by decide);have r1:p % 10<10:=Int.emod_lt_of_pos _ (by decide);go_enter func16,ntmps16
 go_wp2_with fail
 refine (digits_lo _ _ (by omega) (by omega)).mono ?_;rintro e w' ⟨rfl,rfl⟩;go_wp2;go_ret;refine⟨ret_str ?_,rfl⟩;obtain⟨k,rfl⟩:∃k:Fin 100,p=((k:Nat):Int):=⟨⟨p.toNat,by omega⟩,by simp;omega⟩;exact dig2 k (by omega)
theorem ap_as (a b c:ByteArray):a++(b++c)=a++b++c:=ByteArray.append_assoc.symm
theorem showRule_any (p m b o s v:Int)(w:World)(h:ruOk p m b o s v=true):
 Calls prog 18 #[.agg #[.int i64 p,.int i64 m,.int i64 b,.int i64 o,.int i64 s,.int i64 v]] w fun e w'=>e=.returned (.string (rsS p m b o s v))∧Below w.heap.size w w':=by
 obtain⟨g1,g2,g3⟩:=ru_ok h;have g4:=set_ok g1 g3;obtain⟨⟨⟨p0,p1⟩,⟨o0,o1⟩⟩,⟨s0,s1⟩,_⟩:=ru_in g1;have d1:=dg_size p;have d2:=dg_size o;have d3:=pr_size m b;have d4:=pr_size s v;by_cases ho:o=0
 ·have e:rsS p m b o s v=dgS p++⟨#[32]⟩++prS m b++⟨#[32,100,114,111,112]⟩:=by simp[rsS,rsH,ho]
  rw[e];have ho2:(o==0)=true:=by simpa using ho
  clear e h g1 g3 ho;go_enter func18,ntmps18
  go_wp2_with fail
  refine (digits_any _ _ p0 (by omega)).mono ?_;rintro e w' ⟨rfl,rfl⟩
  go_wp2_with fail
  refine (refShow_any _ _ _ g2).mono ?_;rintro e w2 ⟨rfl,hb2⟩;obtain⟨⟨q0,q1,q2,q3,q4,q5⟩,lt1⟩:=cells6 hb2;have hB:=below_one hb2;clear hb2;go_wp2;go_ret;exact⟨rfl,hB⟩
 have ho2:(o==0)=false:=by simpa using ho
 by_cases hz:s=0
 ·have e:rsS p m b o s v=dgS p++⟨#[32]⟩++prS m b++⟨#[32,111,117,116,32]⟩++dgS o:=by simp only[rsS,rsO,rsH,if_neg ho,if_pos hz,ap_as]
  rw[e];have hz2:decide (0<s)=false:=by simp;omega
  clear e h g1 g3 ho;go_enter func18,ntmps18
  go_wp2_with fail
  refine (digits_any _ _ p0 (by omega)).mono ?_;rintro e w' ⟨rfl,rfl⟩
  go_wp2_with fail
  refine (refShow_any _ _ _ g2).mono ?_;rintro e w2 ⟨rfl,hb2⟩;obtain⟨⟨q0,q1,q2,q3,q4,q5⟩,lt1⟩:=cells6 hb2;have hB:=below_one hb2;clear hb2
  go_wp2_with fail
  refine (digits_any _ _ o0 (by omega)).mono ?_;rintro e w' ⟨rfl,rfl⟩;go_wp2;go_ret;exact⟨rfl,hB⟩
 have e:rsS p m b o s v=dgS p++⟨#[32]⟩++prS m b++⟨#[32,111,117,116,32]⟩++dgS o++⟨#[32,115,101,116,32]⟩++prS s v:=by simp only[rsS,rsO,rsH,if_neg ho,if_neg hz,ap_as]
 rw[e];have hz2:decide (0<s)=true:=by simp;omega
 clear e h g1 g3 ho hz;go_enter func18,ntmps18
 go_wp2_with fail
 refine (digits_any _ _ p0 (by omega)).mono ?_;rintro e w' ⟨rfl,rfl⟩
 go_wp2_with fail
 refine (refShow_any _ _ _ g2).mono ?_;rintro e w2 ⟨rfl,hb2⟩;obtain⟨⟨q0,q1,q2,q3,q4,q5⟩,lt1⟩:=cells6 hb2;have hB:=below_one hb2;clear hb2
 go_wp2_with fail
 refine (digits_any _ _ o0 (by omega)).mono ?_;rintro e w' ⟨rfl,rfl⟩
 go_wp2_with fail
 refine (refShow_any _ _ _ g4).mono ?_;rintro e w3 ⟨rfl,hb3⟩;have hB3:=hB.trans (hb3.mono hB.size);clear hb3 hB;go_wp2;go_ret;exact⟨rfl,hB3⟩
theorem rspotT_any (a b:Int)(w:World)(h:smP (a,b)):
 Calls prog 17 #[.agg #[.int i64 a,.int i64 b]] w fun e w'=>e=.returned (.string (spT (a,b)))∧Below w.heap.size w w':=by
 have d1:=dg_size a;have d2:=dg_size b;have HA:Hid (0≤a∧a<100):=⟨h.1.1,by have:=h.1.2;show a<100;have h2:a≤6:=h.1.2;omega⟩;have HB:Hid (0≤b∧b<100):=⟨h.2.1,by have h2:b≤6:=h.2.2;show b<100;omega⟩;have hb:Below w.heap.size w (w.alloc (.cells #[.int i64 a,.int i64 b] 55)):=(bRQ _ _).alloc (nLQ _) _;have HBB:Hid (Below w.heap.size w (w.alloc (.cells #[.int i64 a,.int i64 b] 55))):=hb;obtain⟨X,hX⟩:∃X,X=spT (a,b):=⟨_,rfl⟩;have HX:Hid (X=dgS a++⟨#[46]⟩++dgS b):=by rw[hX,spT,←ap_as];rfl
 rw[←hX];clear h hb hX;go_enter func17,ntmps17
 go_wp2_with fail
 refine (digits_any a _ HA.out.1 HA.out.2).mono ?_;rintro e w' ⟨rfl,rfl⟩
 go_wp2_with fail
 refine (digits_any b _ HB.out.1 HB.out.2).mono ?_;rintro e w' ⟨rfl,rfl⟩;go_wp2;go_ret;refine⟨ret_str ?_,HBB.out⟩;rw[HX.out]
theorem rtext_any (S:Int)(ao:AdQ)(n cap:Nat)(ao2:AdQ)(n2 cap2:Nat)(ao3:AdQ)(n3 cap3:Nat)(a4:AdQ)(n4 c4:Nat)(Ls:LkQ)(Hs:HoQ)(Ts:TsQ)(ws:List Wi)(w:World)
 (hL:GS lnkE w (.slice ao n cap) Ls) (hH:GS hstE w (.slice ao2 n2 cap2) Hs) (hT:TS w (.slice ao3 n3 cap3) Ts) (hw:GS wisE w (.slice a4 n4 c4) ws) (hn:ntN S Ls Hs Ts=0) (hws:wsN S Ls Hs ws=0):
 Calls prog 6 #[.agg #[.int i64 S,.slice ao n cap,.slice ao2 n2 cap2,.slice ao3 n3 cap3],.slice a4 n4 c4] w fun e w'=>e=.returned (.string (textT S Ls Hs Ts ws))∧Below w.heap.size w w':=by
 obtain⟨ht,hS,hTb⟩:=nt_0 hn;obtain⟨⟨s1,s6⟩,⟨l200,l8⟩,hl,_,hh,_⟩:=tp_0 ht;obtain⟨w1,hw1⟩:∃W,W=w.alloc (.cells #[.int i64 S,.slice ao n cap,.slice ao2 n2 cap2,.slice ao3 n3 cap3] 28):=⟨_,rfl⟩;have hb1:Below w.heap.size w w1:=by rw[hw1];exact (bRQ _ _).alloc (nLQ _) _
 have hnb:NeBox w1 w.heap.size S (.slice ao n cap) (.slice ao2 n2 cap2) (.slice ao3 n3 cap3):=by rw[hw1];exact nebox_new w S (.slice ao n cap) (.slice ao2 n2 cap2) (.slice ao3 n3 cap3) 28
 have HNB:Hid (∀W,Below w1.heap.size w1 W→NeBox W w.heap.size S (.slice ao n cap) (.slice ao2 n2 cap2) (.slice ao3 n3 cap3)):=fun W h=>hnb.later h
 have HG:Hid (∀W,Below w1.heap.size w1 W→GS lnkE W (.slice ao n cap) Ls∧GS hstE W (.slice ao2 n2 cap2) Hs∧TS W (.slice ao3 n3 cap3) Ts∧GS wisE W (.slice a4 n4 c4) ws):=fun W h=>⟨(hL.later hb1).later h,(hH.later hb1).later h,(hT.later hb1).later h,(hw.later hb1).later h⟩
 have HB1:Hid (Below w.heap.size w w1):=hb1;have HW1:Hid (w.alloc (.cells #[.int i64 S,.slice ao n cap,.slice ao2 n2 cap2,.slice ao3 n3 cap3] 28)=w1):=hw1.symm;have HLK:Hid (∀l∈Ls,smP l.1∧smP l.2):=fun l hm=>⟨sp_sm s6 (hl l.1 (List.mem_flatMap.2 ⟨l,hm,by simp⟩)),sp_sm s6 (hl l.2 (List.mem_flatMap.2 ⟨l,hm,by simp⟩))⟩
 have HHO:Hid (∀x∈Hs,nmB x.1=true∧smP x.2):=fun x hx=>⟨(hh x hx).1,sp_sm s6 (hh x hx).2⟩
 have HTB:Hid (∀T∈Ts,T.length≤12∧∀r∈T,r.ok=true):=fun T hm=>by
  obtain⟨k,hk,e⟩:=List.getElem_of_mem hm;have h1:=hTb k hk;rw[show Ts.getD k []=T by simp[List.getD,hk,e]] at h1;exact⟨(tb_iff.1 h1).1,(tb_iff.1 h1).2.1⟩
 have HWS:Hid (∀x∈ws,shN x=0):=ws_sh hws;have hnn:=hL.len;have hnn2:=hH.len;have hnn3:Ts.length=n3:=hT.len;have hnn4:=hw.len;have hw8:ws.length≤8:=by
  unfold wsN at hws;rw[if_pos ht] at hws;by_cases h8:8<ws.length
  ·rw[if_pos h8] at hws;cases hws
  omega
 have HN:Hid (Ls.length=n∧Hs.length=n2∧Ts.length=n3∧ws.length=n4∧n≤200∧n2≤8∧n3≤6∧n4≤8):=⟨hnn,hnn2,hnn3,hnn4,by omega,by omega,by omega,by omega⟩;have HS:Hid (0≤S∧S≤6):=⟨by omega,s6⟩;have n63:n≤9223372036854775807:=by omega
 have m63:n2≤9223372036854775807:=by omega
 have t63:n3≤9223372036854775807:=by omega
 have w63:n4≤9223372036854775807:=by omega
 obtain⟨Z,hZ⟩:∃Z,Z=textT S Ls Hs Ts ws:=⟨_,rfl⟩;have HZ:Hid (Z=nlT 10 (swT S :: (Ls.map lnT++(Hs.map hoT++(tbT 0 Ts++ws.map shT))))):=hZ;rw[←hZ];have d0:=dg_size S;have HD0:Hid (LnX (⟨#[115,119,105,116,99,104,101,115,32]⟩++dgS S++⟨#[10]⟩) [swT S]):=lnx_sw HS.out;obtain⟨q0,q1,q2,q3⟩:=hnb;clear hL hH hT hw hn hws ht hS hTb s1 s6 l200 l8 hl hh hb1 hw1 hnn hnn2 hnn3 hnn4 hw8 hZ;go_enter func6,ntmps6;go_upto_region 1 with fail;rw[HW1.out]
 go_wp2_with fail
 refine (digits_any S _ HS.out.1 (by have:=HS.out.2;omega)).mono ?_;rintro e w' ⟨rfl,hw'⟩;have hw'':=hw'.symm;subst hw'';clear hw';obtain⟨X0,hX0⟩:∃X:ByteArray,X=⟨#[115,119,105,116,99,104,101,115,32]⟩++dgS S++⟨#[10]⟩:=⟨_,rfl⟩;have HX0:Hid (LnX X0 [swT S]):=by rw[hX0];exact HD0.out
 go_upto_region 3 with fail;rw[←hX0];clear hX0;go_upto_region 4 with fail;clear q0 q1 q2 q3
 go_loopw [6,7] (fun v i wr=>∃(k:Nat) (X:ByteArray),k≤n∧i=.int i64 (k:Int)∧v=.string X∧LnX X (swT S :: (Ls.take k).map lnT)∧Below w1.heap.size w1 wr) (fun _ i _=>n-(intOf i).toNat)
 case atStart=>exact⟨0,X0,by omega,rfl,rfl,HX0.out,bRQ _ _⟩
 case round =>
  obtain⟨k,X,hk,rfl,rfl,hX,hB⟩:=hrel;obtain⟨wi,hwi⟩:∃Y,Y=wr:=⟨_,rfl⟩;subst hwi;have HX:Hid (LnX X (swT S :: (Ls.take k).map lnT)):=hX;have HB:Hid (Below w1.heap.size w1 wi):=hB;clear hX hB;by_cases hlt:k<n
  ·obtain⟨_,_,_,ee,_,_,_,hat⟩:=(HG.out wi HB.out).1.form;cases ee;obtain⟨g,o,rfl,hga,_⟩:=hat (by omega);obtain⟨x0,x1,x2,x3,hkl,hLk,y0,y1,y2,y3⟩:=lnk_at hga HN.out.1 hlt;have HM:Hid (smP (x0,x1)∧smP (x2,x3)):=by
    have:=HLK.out _ (List.getElem_mem hkl);rw[hLk] at this;exact this
   have HCL:Hid (∀W,Below wi.heap.size wi W→W.cell? ⟨g,o+k*4,none⟩=some (.int i64 x0)∧W.cell? ⟨g,o+k*4+1,none⟩=some (.int i64 x1)∧W.cell? ⟨g,o+k*4+2,none⟩=some (.int i64 x2)∧W.cell? ⟨g,o+k*4+3,none⟩=some (.int i64 x3)):=fun W h=>⟨cell_later h y0,cell_later h y1,cell_later h y2,cell_later h y3⟩
   have HNX:Hid ((Ls.take (k+1)).map lnT=(Ls.take k).map lnT++[lnT ((x0,x1),(x2,x3))]):=by
    show _=_;rw[List.take_succ_eq_append_getElem hkl,hLk,List.map_append];rfl
   have HX2:=lnx_lk HX.out ((x0,x1),(x2,x3));have hz:X.size≤8040:=by
    have h1:=HX.out.z;have h2:=HN.out;simp only[List.length_cons,List.length_map,List.length_take] at h1;omega
   have z1:=sp_size (x0,x1);have z2:=sp_size (x2,x3);have kb0:(0:Int)≤(k:Int):=by omega
   have kb1:(k:Int)<(n:Int):=by omega
   obtain⟨q0,q1,q2,q3⟩:=HNB.out wi HB.out;clear hga hLk hat hkl
   go_wp2_with fail
   refine (rspotT_any x0 x1 wi HM.out.1).mono ?_;rintro e w2 ⟨rfl,hb2⟩;have HB2:Hid (Below w1.heap.size w1 w2):=HB.out.trans (hb2.mono HB.out.size);clear q0 q1 q2 q3 y0 y1 y2 y3;obtain⟨q0,q1,q2,q3⟩:=HNB.out w2 HB2.out;obtain⟨y0,y1,y2,y3⟩:=HCL.out w2 hb2;clear hb2
   go_wp2_with fail
   refine (rspotT_any x2 x3 w2 HM.out.2).mono ?_;rintro e w3 ⟨rfl,hb3⟩;have HB3:Hid (Below w1.heap.size w1 w3):=HB2.out.trans (hb3.mono HB2.out.size);clear q0 q1 q2 q3 y0 y1 y2 y3 hb3;have HX3:Hid (LnX (X++⟨#[108,105,110,107,32]⟩++spT (x0,x1)++⟨#[32]⟩++spT (x2,x3)++⟨#[10]⟩) (swT S :: (Ls.take (k+1)).map lnT)):=by
    rw[HNX.out];exact HX2
   clear HX2;go_wp2;go_roundw
   case rel=>exact⟨k+1,_,by omega,by go_num,rfl,HX3.out,HB3.out⟩
   case measure=>simp[intOf];omega
  obtain rfl:k=n:=by omega
  have hall:Ls.take k=Ls:=by rw[←HN.out.1];exact List.take_length
  rw[hall] at HX;have HBA:Hid (Below w1.heap.size w1 wi):=HB.out;clear HX0 HD0;obtain⟨q0,q1,q2,q3⟩:=HNB.out wi HB.out;go_upto_region 10 with fail;clear q0 q1 q2 q3;obtain⟨wA,hwA⟩:∃Y,Y=wi:=⟨_,rfl⟩;subst hwA;obtain⟨P1,hP1⟩:∃P,P=swT S :: Ls.map lnT:=⟨_,rfl⟩;rw[←hP1] at HX;have HP1:Hid (P1.length≤201∧P1++(Hs.map hoT++(tbT 0 Ts++ws.map shT))=swT S :: (Ls.map lnT++(Hs.map hoT++(tbT 0 Ts++ws.map shT)))):=by
   have:=HN.out;rw[hP1];exact⟨by simp;omega,by simp⟩
  clear hP1 hall
  go_loopw [6,10] (fun v i wr=>∃(j:Nat) (X:ByteArray),j≤n2∧i=.int i64 (j:Int)∧v=.string X∧LnX X (P1++(Hs.take j).map hoT)∧Below w1.heap.size w1 wr) (fun _ i _=>n2-(intOf i).toNat)
  case atStart=>exact⟨0,X,by omega,rfl,rfl,by simpa using HX.out,HBA.out⟩
  case round =>
   obtain⟨j,X2,hj,rfl,rfl,hX2,hB2⟩:=hrel;obtain⟨wj,hwj⟩:∃Y,Y=wr:=⟨_,rfl⟩;subst hwj;have HX2:Hid (LnX X2 (P1++(Hs.take j).map hoT)):=hX2;have HB2:Hid (Below w1.heap.size w1 wj):=hB2;clear hX2 hB2 HX;by_cases hlt2:j<n2
   ·obtain⟨_,_,_,ee,_,_,_,hat⟩:=(HG.out wj HB2.out).2.1.form;cases ee;obtain⟨g,o,rfl,hga,_⟩:=hat (by omega);obtain⟨x0,x1,x2,hkl,hLk,y0,y1,y2⟩:=hst_at hga HN.out.2.1 hlt2;have HM:Hid (nmB x0=true∧smP (x1,x2)):=by
     have:=HHO.out _ (List.getElem_mem hkl);rw[hLk] at this;exact this
    have HCL:Hid (∀W,Below wj.heap.size wj W→W.cell? ⟨g,o+j*3,none⟩=some (.string x0)∧W.cell? ⟨g,o+j*3+1,none⟩=some (.int i64 x1)∧W.cell? ⟨g,o+j*3+2,none⟩=some (.int i64 x2)):=fun W h=>⟨cell_later h y0,cell_later h y1,cell_later h y2⟩
    have HNX:Hid (P1++(Hs.take (j+1)).map hoT=P1++(Hs.take j).map hoT++[hoT (x0,(x1,x2))]):=by
     show _=_;rw[List.take_succ_eq_append_getElem hkl,hLk,List.map_append,List.append_assoc];rfl
    have HX3:Hid (LnX (X2++⟨#[104,111,115,116,32]⟩++x0++⟨#[32]⟩++spT (x1,x2)++⟨#[10]⟩) (P1++(Hs.take (j+1)).map hoT)):=by
     show LnX _ _;rw[HNX.out];exact lnx_ho HX2.out (p:=(x0,(x1,x2))) HM.out.1
    have hz:X2.size≤8400:=by
     have h1:=HX2.out.z;have h2:=HN.out;have h3:=HP1.out.1;simp only[List.length_append,List.length_map,List.length_take] at h1;omega
    have z1:=sp_size (x1,x2);have z2:=nmt_size HM.out.1;have kb0:(0:Int)≤(j:Int):=by omega
    have kb1:(j:Int)<(n2:Int):=by omega
    obtain⟨q0,q1,q2,q3⟩:=HNB.out wj HB2.out;clear hga hLk hat hkl
    go_wp2_with fail
    refine (rspotT_any x1 x2 wj HM.out.2).mono ?_;rintro e w2 ⟨rfl,hb2⟩;have HB3:Hid (Below w1.heap.size w1 w2):=HB2.out.trans (hb2.mono HB2.out.size);clear q0 q1 q2 q3 y0 y1 y2;obtain⟨q0,q1,q2,q3⟩:=HNB.out w2 HB3.out;obtain⟨y0,y1,y2⟩:=HCL.out w2 hb2;clear hb2;go_wp2;go_roundw
    case rel=>exact⟨j+1,_,by omega,by go_num,rfl,HX3.out,HB3.out⟩
    case measure=>simp[intOf];omega
   obtain rfl:j=n2:=by omega
   have hall:Hs.take j=Hs:=by rw[←HN.out.2.1];exact List.take_length
   rw[hall] at HX2;obtain⟨q0,q1,q2,q3⟩:=HNB.out wj HB2.out;go_upto_region 15 with fail;clear q0 q1 q2 q3;obtain⟨P2,hP2⟩:∃P,P=P1++Hs.map hoT:=⟨_,rfl⟩;rw[←hP2] at HX2;have HP2:Hid (P2.length≤209∧P2++(tbT 0 Ts++ws.map shT)=swT S :: (Ls.map lnT++(Hs.map hoT++(tbT 0 Ts++ws.map shT)))):=by
    have h1:=HN.out;have h2:=HP1.out;rw[hP2];exact⟨by simp;omega,by rw[←h2.2];simp⟩
   clear hP2 hall HP1
   go_loopw [6,12] (fun v i wr=>∃(t:Nat) (X:ByteArray),t≤n3∧i=.int i64 (t:Int)∧v=.string X∧LnX X (P2++tbT 0 (Ts.take t))∧Below w1.heap.size w1 wr) (fun _ i _=>n3-(intOf i).toNat)
   case atStart=>exact⟨0,X2,by omega,rfl,rfl,by simpa[tbT] using HX2.out,HB2.out⟩
   case round =>
    obtain⟨t,X3,ht,rfl,rfl,hX3,hB3⟩:=hrel;obtain⟨wt,hwt⟩:∃Y,Y=wr:=⟨_,rfl⟩;subst hwt;have HX3:Hid (LnX X3 (P2++tbT 0 (Ts.take t))):=hX3;have HB3:Hid (Below w1.heap.size w1 wt):=hB3;clear hX3 hB3 HX2;by_cases hlt3:t<n3
    ·obtain⟨_,_,_,ee,_,_,_,hat⟩:=(HG.out wt HB3.out).2.2.1.form;cases ee;obtain⟨g,o,rfl,hga,_⟩:=hat (by omega);have htl:t<Ts.length:=by have:=HN.out;omega
     obtain⟨a8,n8,c8,y0,hSR⟩:=hga t htl;obtain⟨T,hT⟩:∃T,T=Ts[t]:=⟨_,rfl⟩;rw[←hT] at hSR;have HTT:Hid (T.length≤12∧∀r∈T,r.ok=true):=by rw[hT];exact HTB.out _ (List.getElem_mem htl)
     have HTN:Hid (T.length=n8):=by
      obtain⟨_,_,_,e,h,_⟩:=hSR.form;cases e;exact h
     have HTK:Hid (tbT 0 (Ts.take (t+1))=tbT 0 (Ts.take t)++T.map (rlT ((t+1:Nat):Int))):=by
      show _=_;rw[List.take_succ_eq_append_getElem htl,←hT,tb_snoc,List.length_take,show 0+min t Ts.length+1=t+1 by omega]
     have HP3:Hid ((P2++tbT 0 (Ts.take t)).length≤281):=by
      have h1:=tb_few (Ts:=Ts.take t) (k:=0) fun T hm=>(HTB.out T (List.mem_of_mem_take hm)).1
      have h2:=HP2.out.1;have h3:=HN.out;rw[List.length_take] at h1;rw[List.length_append];show _≤_;omega
     have HSR:Hid (∀W,Below wt.heap.size wt W→SR W (.slice a8 n8 c8) T∧W.cell? ⟨g,o+t,none⟩=some (.slice a8 n8 c8)):=fun W h=>⟨hSR.later h,cell_later h y0⟩
     have n8b:n8≤12:=by have:=HTT.out.1;have:=HTN.out;omega
     have kb0:(0:Int)≤(t:Int):=by omega
     have kb1:(t:Int)<(n3:Int):=by omega
     obtain⟨q0,q1,q2,q3⟩:=HNB.out wt HB3.out;clear hga hat hSR hT htl;go_upto_region 18 with fail;clear q0 q1 q2 q3 y0
     go_loopw [6,13] (fun v i wr=>∃(m:Nat) (X:ByteArray),m≤n8∧i=.int i64 (m:Int)∧v=.string X∧LnX X (P2++tbT 0 (Ts.take t)++(T.take m).map (rlT ((t+1:Nat):Int)))∧Below wt.heap.size wt wr) (fun _ i _=>n8-(intOf i).toNat)
     case atStart=>exact⟨0,X3,by omega,rfl,rfl,by simpa using HX3.out,bRQ _ _⟩
     case round =>
      obtain⟨m,X4,hm,rfl,rfl,hX4,hB4⟩:=hrel;obtain⟨wm,hwm⟩:∃Y,Y=wr:=⟨_,rfl⟩;subst hwm;have HX4:Hid (LnX X4 (P2++tbT 0 (Ts.take t)++(T.take m).map (rlT ((t+1:Nat):Int)))):=hX4;have HB4:Hid (Below wt.heap.size wt wm):=hB4;have HB14:Hid (Below w1.heap.size w1 wm):=HB3.out.trans (hB4.mono HB3.out.size);clear hX4 hB4 HX3;obtain⟨hS4,y0⟩:=HSR.out wm HB4.out;obtain⟨q0,q1,q2,q3⟩:=HNB.out wm HB14.out;by_cases hlt4:m<n8
      ·obtain⟨_,_,_,ee,_,_,_,hat⟩:=hS4.form;cases ee;obtain⟨g2,o2,rfl,hra,_⟩:=hat (by omega);have hml:m<T.length:=by have:=HTN.out;omega
       obtain⟨r,hr⟩:∃r,r=T[m]:=⟨_,rfl⟩;have hC:=hra m hml;rw[←hr] at hC;have HRO:Hid (r.ok=true):=by rw[hr];exact HTT.out.2 _ (List.getElem_mem hml)
       have HCL:Hid (∀W,Below wm.heap.size wm W→C6 W g2 (o2+m*6) r):=fun W h=>hC.later h
       have HX5:Hid (LnX (X4++⟨#[114,117,108,101,32]⟩++dgS ((t+1:Nat):Int)++⟨#[32]⟩++rsS r.p r.m r.b r.o r.s r.v++⟨#[10]⟩) (P2++tbT 0 (Ts.take t)++(T.take (m+1)).map (rlT ((t+1:Nat):Int)))):=by
        have h1:=lnx_rl HX4.out ((t+1:Nat):Int) r;have e:P2++tbT 0 (Ts.take t)++(T.take (m+1)).map (rlT ((t+1:Nat):Int))=P2++tbT 0 (Ts.take t)++(T.take m).map (rlT ((t+1:Nat):Int))++[rlT ((t+1:Nat):Int) r]:=by
         rw[List.take_succ_eq_append_getElem hml,←hr,List.map_append];simp
        show LnX _ _;rw[e];exact h1
       have hz:X4.size≤12000:=by
        have h1:=HX4.out.z;have h3:=HP3.out;rw[List.length_append,List.length_map,List.length_take] at h1;omega
       obtain⟨D,hD⟩:∃D,D=dgS ((t+1:Nat):Int):=⟨_,rfl⟩;rw[←hD] at HX5;have HDD:Hid (dgS ((t+1:Nat):Int)=D):=hD.symm;have z1:D.size≤2:=by rw[hD];exact dg_size _
       obtain⟨R,hR⟩:∃R,R=rsS r.p r.m r.b r.o r.s r.v:=⟨_,rfl⟩;rw[←hR] at HX5;have HRR:Hid (rsS r.p r.m r.b r.o r.s r.v=R):=hR.symm;have z2:R.size≤25:=by rw[hR];exact rs_size r
       have mb0:(0:Int)≤(m:Int):=by omega
       have mb1:(m:Int)<(n8:Int):=by omega
       have hwr:IntKind.i64.wrap ((t:Int)+1)=((t+1:Nat):Int):=by rw[IntKind.wrap_i64];have:=HN.out;omega
       have hwr2:wrap64 ((t:Int)+1)=((t+1:Nat):Int):=by unfold wrap64;have:=HN.out;omega
       obtain⟨Y,hY⟩:∃Y:Int,Y=((t+1:Nat):Int):=⟨_,rfl⟩;rw[←hY] at hwr hwr2 HDD;have HY:Hid (0≤Y∧Y<100):=⟨by omega,by have:=HN.out;omega⟩;obtain⟨rp,rm,rb,ro,rs,rv⟩:=r;obtain⟨k0,k1,k2,k3,k4,k5⟩:=hC
       dsimp only at k0 k1 k2 k3 k4 k5 HRR
       clear hra hat hS4 hr hml hD hR hY
       go_wp2_with fail
       refine (digits_any Y _ HY.out.1 HY.out.2).mono ?_;rintro e w' ⟨rfl,hw'⟩;have hw'':=hw'.symm;subst hw'';clear hw';rw[HDD.out]
       go_wp2_with fail
       refine (showRule_any rp rm rb ro rs rv wm HRO.out).mono ?_;rintro e w5 ⟨rfl,hb5⟩;rw[HRR.out];have HB5:Hid (Below wt.heap.size wt w5):=HB4.out.trans (hb5.mono HB4.out.size);clear hb5 q0 q1 q2 q3 y0 k0 k1 k2 k3 k4 k5 hwr hwr2;go_wp2;go_roundw
       case rel=>exact⟨m+1,_,by omega,by go_num,rfl,HX5.out,HB5.out⟩
       case measure=>simp[intOf];omega
      obtain rfl:m=n8:=by omega
      have HX5:Hid (LnX X4 (P2++tbT 0 (Ts.take (t+1)))):=by
       have h1:=HX4.out;rw[show T.take m=T by rw[←HTN.out];exact List.take_length] at h1;show LnX _ _;rw[HTK.out,←List.append_assoc];exact h1
      clear hS4;go_wp2;go_roundw
      case rel=>exact⟨t+1,X4,by omega,by go_num,rfl,HX5.out,HB14.out⟩
      case measure=>simp[intOf];omega
    obtain rfl:t=n3:=by omega
    have hall:Ts.take t=Ts:=by rw[←HN.out.2.2.1];exact List.take_length
    rw[hall] at HX3;obtain⟨q0,q1,q2,q3⟩:=HNB.out wt HB3.out;go_upto_region 24 with fail;clear q0 q1 q2 q3;obtain⟨P3,hP3⟩:∃P,P=P2++tbT 0 Ts:=⟨_,rfl⟩;rw[←hP3] at HX3;have HP3:Hid (P3.length≤281∧P3++ws.map shT=swT S :: (Ls.map lnT++(Hs.map hoT++(tbT 0 Ts++ws.map shT)))):=by
     have h1:=HN.out;have h2:=HP2.out;have h3:=tb_few (Ts:=Ts) (k:=0) fun T hm=>(HTB.out T hm).1
     rw[hP3];exact⟨by rw[List.length_append];omega,by rw[←h2.2];simp⟩
    clear hP3 hall HP2
    go_loopw [6,16] (fun v i wr=>∃(t:Nat) (X:ByteArray),t≤n4∧i=.int i64 (t:Int)∧v=.string X∧LnX X (P3++(ws.take t).map shT)∧Below w1.heap.size w1 wr) (fun _ i _=>n4-(intOf i).toNat)
    case atStart=>exact⟨0,X3,by omega,rfl,rfl,by simpa using HX3.out,HB3.out⟩
    case round =>
     obtain⟨q,X5,hq,rfl,rfl,hX5,hB5⟩:=hrel;obtain⟨wq,hwq⟩:∃Y,Y=wr:=⟨_,rfl⟩;subst hwq;have HX5:Hid (LnX X5 (P3++(ws.take q).map shT)):=hX5;have HB5:Hid (Below w1.heap.size w1 wq):=hB5;clear hX5 hB5 HX3;by_cases hlt5:q<n4
     ·obtain⟨_,_,_,ee,_,_,_,hat⟩:=(HG.out wq HB5.out).2.2.2.form;cases ee;obtain⟨g,o,rfl,hga,_⟩:=hat (by omega);obtain⟨x0,x1,x2,x3,hkl,hLk,y0,y1,y2,y3⟩:=wis_at hga HN.out.2.2.2.1 hlt5;have HSH:Hid (shN ⟨x0,x1,x2,x3⟩=0):=by
       have:=HWS.out _ (List.getElem_mem hkl);rw[hLk] at this;exact this
      obtain⟨R,hR⟩:∃R,R=shT ⟨x0,x1,x2,x3⟩:=⟨_,rfl⟩;have HX6:Hid (LnX (X5++R++⟨#[10]⟩) (P3++(ws.take (q+1)).map shT)):=by
       show LnX _ _;rw[List.take_succ_eq_append_getElem hkl,hLk,List.map_append,←List.append_assoc,hR];exact lnx_wi HX5.out HSH.out
      have HRR:Hid (shV ⟨x0,x1,x2,x3⟩=R):=by rw[hR];exact if_pos HSH.out
      have z1:R.size≤30:=by rw[hR];exact sh_size HSH.out
      have hz:X5.size≤12000:=by
       have h1:=HX5.out.z;have h2:=HN.out;have h3:=HP3.out.1;simp only[List.length_append,List.length_map,List.length_take] at h1;omega
      have kb0:(0:Int)≤(q:Int):=by omega
      have kb1:(q:Int)<(n4:Int):=by omega
      clear hga hLk hat hkl hR
      go_wp2_with fail
      refine (rshow_any x0 x1 x2 x3 wq).mono ?_;rintro e w6 ⟨rfl,hb6⟩;rw[HRR.out,HSH.out];have HB6:Hid (Below w1.heap.size w1 w6):=HB5.out.trans (hb6.mono HB5.out.size);clear hb6 y0 y1 y2 y3;go_wp2;go_roundw
      case rel=>exact⟨q+1,_,by omega,by go_num,rfl,HX6.out,HB6.out⟩
      case measure=>simp[intOf];omega
     obtain rfl:q=n4:=by omega
     have hall:ws.take q=ws:=by rw[←HN.out.2.2.2.1];exact List.take_length
     have hXZ:X5=Z:=by
      rw[HX5.out.e,hall,HZ.out,HP3.out.2]
     have HXZ:Hid (X5=Z):=hXZ;have HBE:Hid (Below w.heap.size w wq):=HB1.out.trans (HB5.out.mono HB1.out.size);clear hXZ hall;go_wp2;go_ret;exact⟨ret_str HXZ.out,HBE.out⟩
theorem hstB_iff (a b:ByteArray×(Int×Int)):hstB a b=true↔a=b:=by
 obtain⟨a0,a1,a2⟩:=a;obtain⟨b0,b1,b2⟩:=b;simp only[hstB,Bool.and_eq_true,beq_iff_eq,Prod.mk.injEq,ba_iff]
def tpB (S S':Int)(Ls Ls':LkQ)(Hs Hs':HoQ):Bool:=decide (S=S')&&(smG lnkB Ls Ls'&&smG hstB Hs Hs')
theorem tpB_iff {S S':Int}{Ls Ls':LkQ}{Hs Hs':HoQ}:tpB S S' Ls Ls' Hs Hs'=true↔S=S'∧Ls=Ls'∧Hs=Hs':=by
 simp only[tpB,Bool.and_eq_true,decide_eq_true_eq,smG_eq lnkB_iff,smG_eq hstB_iff]
def LC (w:World)(B:Nat)(S S':Int)(a1 a2 b1 b2:Value)(g o:Nat)(x0 x1 x2 x3:Int)(g' o':Nat)(y0 y1 y2 y3:Int)(w':World):Prop:=
 Below w.heap.size w w'∧TBox w' B S a1 a2∧TBox w' (B+1) S' b1 b2∧(w'.cell? ⟨g,o,none⟩=some (.int i64 x0)∧w'.cell? ⟨g,o+1,none⟩=some (.int i64 x1)∧w'.cell? ⟨g,o+2,none⟩=some (.int i64 x2)∧w'.cell? ⟨g,o+3,none⟩=some (.int i64 x3)) ∧
  w'.cell? ⟨g',o',none⟩=some (.int i64 y0)∧w'.cell? ⟨g',o'+1,none⟩=some (.int i64 y1)∧w'.cell? ⟨g',o'+2,none⟩=some (.int i64 y2)∧w'.cell? ⟨g',o'+3,none⟩=some (.int i64 y3)
theorem LC.later {w W W':World}{B:Nat}{S S':Int}{a1 a2 b1 b2:Value}{g o:Nat}{x0 x1 x2 x3:Int}{g' o':Nat}{y0 y1 y2 y3:Int}(hb:Below W.heap.size W W')(h:LC w B S S' a1 a2 b1 b2 g o x0 x1 x2 x3 g' o' y0 y1 y2 y3 W):LC w B S S' a1 a2 b1 b2 g o x0 x1 x2 x3 g' o' y0 y1 y2 y3 W':=by
 obtain⟨h0,t1,t2,⟨h1,h2,h3,h4⟩,k1,k2,k3,k4⟩:=h;exact⟨h0.trans (hb.mono h0.size),t1.later hb,t2.later hb,⟨cell_later hb h1,cell_later hb h2,cell_later hb h3,cell_later hb h4⟩,cell_later hb k1,cell_later hb k2,cell_later hb k3,cell_later hb k4⟩
def HC (w:World)(B:Nat)(S S':Int)(a1 a2 b1 b2:Value)(g o:Nat)(x0:ByteArray)(x1 x2:Int)(g' o':Nat)(y0:ByteArray)(y1 y2:Int)(w':World):Prop:=
 Below w.heap.size w w'∧TBox w' B S a1 a2∧TBox w' (B+1) S' b1 b2∧(w'.cell? ⟨g,o,none⟩=some (.string x0)∧w'.cell? ⟨g,o+1,none⟩=some (.int i64 x1)∧w'.cell? ⟨g,o+2,none⟩=some (.int i64 x2)) ∧
  w'.cell? ⟨g',o',none⟩=some (.string y0)∧w'.cell? ⟨g',o'+1,none⟩=some (.int i64 y1)∧w'.cell? ⟨g',o'+2,none⟩=some (.int i64 y2)
theorem HC.later {w W W':World}{B:Nat}{S S':Int}{a1 a2 b1 b2:Value}{g o:Nat}{x0:ByteArray}{x1 x2:Int}{g' o':Nat}{y0:ByteArray}{y1 y2:Int}(hb:Below W.heap.size W W')(h:HC w B S S' a1 a2 b1 b2 g o x0 x1 x2 g' o' y0 y1 y2 W):HC w B S S' a1 a2 b1 b2 g o x0 x1 x2 g' o' y0 y1 y2 W':=by
 obtain⟨h0,t1,t2,⟨h1,h2,h3⟩,k1,k2,k3⟩:=h;exact⟨h0.trans (hb.mono h0.size),t1.later hb,t2.later hb,⟨cell_later hb h1,cell_later hb h2,cell_later hb h3⟩,cell_later hb k1,cell_later hb k2,cell_later hb k3⟩
def TT (W:World)(B:Nat)(S S':Int)(a1 a2 b1 b2:Value):Prop:=TBox W B S a1 a2∧TBox W (B+1) S' b1 b2
theorem tt_new (w:World)(S S':Int)(a1 a2 b1 b2:Value)(t:TypeId):TT ((w.alloc (.cells #[.int i64 S,a1,a2] t)).alloc (.cells #[.int i64 S',b1,b2] t)) w.heap.size S S' a1 a2 b1 b2:=by
 refine⟨(tbox_new w S a1 a2 t).later ((bRQ _ _).alloc (nLQ _) _),?_⟩;have:=tbox_new (w.alloc (.cells #[.int i64 S,a1,a2] t)) S' b1 b2 t;simpa using this
theorem TT.later {W W':World}{B:Nat}{S S':Int}{a1 a2 b1 b2:Value}(h:TT W B S S' a1 a2 b1 b2)(hb:Below W.heap.size W W'):TT W' B S S' a1 a2 b1 b2:=⟨h.1.later hb,h.2.later hb⟩
theorem smTopo_any (S:Int)(ao:AdQ)(n cap:Nat)(ao2:AdQ)(n2 cap2:Nat)(Ls:LkQ)(Hs:HoQ)(S':Int)(bo:AdQ)(m cap3:Nat)(bo2:AdQ)(m2 cap4:Nat)(Ls':LkQ)(Hs':HoQ)(w:World)
 (hL:GS lnkE w (.slice ao n cap) Ls) (hH:GS hstE w (.slice ao2 n2 cap2) Hs) (hL':GS lnkE w (.slice bo m cap3) Ls') (hH':GS hstE w (.slice bo2 m2 cap4) Hs'):
 Calls prog 34 #[.agg #[.int i64 S,.slice ao n cap,.slice ao2 n2 cap2],.agg #[.int i64 S',.slice bo m cap3,.slice bo2 m2 cap4]] w fun e w'=>e=.returned (.bool (tpB S S' Ls Ls' Hs Hs'))∧Below w.heap.size w w':=by
 obtain⟨_,_,_,e,hn,hn2,hn3,ha⟩:=hL.form;cases e;obtain⟨_,_,_,e,hm,hm2,hm3,hb⟩:=hL'.form;cases e;obtain⟨_,_,_,e,gn,gn2,gn3,ga⟩:=hH.form;cases e;obtain⟨_,_,_,e,gm,gm2,gm3,gb⟩:=hH'.form;cases e;have HN1:Hid (Ls.length=n):=hn;have HM1:Hid (Ls'.length=m):=hm;have HN2:Hid (Hs.length=n2):=gn;have HM2:Hid (Hs'.length=m2):=gm;have HA1:Hid (0<n→∃g o,ao=some ⟨g,o,none⟩∧GAt lnkE w g o Ls∧cap≤maxLen):=ha;have HB1:Hid (0<m→∃g o,bo=some ⟨g,o,none⟩∧GAt lnkE w g o Ls'∧cap3≤maxLen):=hb;have HA2:Hid (0<n2→∃g o,ao2=some ⟨g,o,none⟩∧GAt hstE w g o Hs∧cap2≤maxLen):=ga;have HB2:Hid (0<m2→∃g o,bo2=some ⟨g,o,none⟩∧GAt hstE w g o Hs'∧cap4≤maxLen):=gb;have n63:n≤9223372036854775807:=by unfold maxLen at hn2;omega
 have n263:n2≤9223372036854775807:=by unfold maxLen at gn2;omega
 have HT:Hid (TT ((w.alloc (.cells #[.int i64 S,.slice ao n cap,.slice ao2 n2 cap2] 25)).alloc (.cells #[.int i64 S',.slice bo m cap3,.slice bo2 m2 cap4] 25)) w.heap.size S S' (.slice ao n cap) (.slice ao2 n2 cap2) (.slice bo m cap3) (.slice bo2 m2 cap4)):=tt_new w S S' _ _ _ _ 25;have HBW:Hid (Below w.heap.size w ((w.alloc (.cells #[.int i64 S,.slice ao n cap,.slice ao2 n2 cap2] 25)).alloc (.cells #[.int i64 S',.slice bo m cap3,.slice bo2 m2 cap4] 25))):=((bRQ _ _).alloc (nLQ _) _).alloc (by simp) _;clear hL hH hL' hH' hn ha hm hb hn2 hm2 gn ga gm gb gn2 gm2;obtain⟨R,hR⟩:∃R,R=tpB S S' Ls Ls' Hs Hs':=⟨_,rfl⟩;have HR:Hid (R=tpB S S' Ls Ls' Hs Hs'):=hR;rw[←hR];clear hR;by_cases hl:S=S'∧n=m∧n2=m2
 ·obtain⟨rfl,rfl,rfl⟩:=hl;have and_no1:smG lnkB Ls Ls'=false→tpB S S Ls Ls' Hs Hs'=false:=fun h=>by rw[tpB,h];simp
  have and_no2:smG hstB Hs Hs'=false→tpB S S Ls Ls' Hs Hs'=false:=fun h=>by rw[tpB,h];simp
  have e1:(S==S)=true:=by simp
  have e2:((n:Int)==(n:Int))=true:=by simp
  have e3:((n2:Int)==(n2:Int))=true:=by simp
  go_enter func34,ntmps34;go_wp2
  go_loopw [5] (fun i wr=>∃k1:Nat,k1≤n∧i=.int i64 k1∧(∀j,j<k1→∀(h1:j<Ls.length) (h2:j<Ls'.length),lnkB Ls[j] Ls'[j]=true)∧TT wr w.heap.size S S (.slice ao n cap) (.slice ao2 n2 cap2) (.slice bo n cap3) (.slice bo2 n2 cap4)∧Below w.heap.size w wr) (fun i _=>n-(intOf i).toNat)
  case atStart=>exact⟨0,by omega,rfl,fun j hj=>absurd hj (by omega),HT.out,HBW.out⟩
  case round =>
   obtain⟨k1,hk,rfl,hall,hT,hB⟩:=hrel;clear HT HBW;have HB:Hid (Below w.heap.size w wr):=hB;have HT2:Hid (TT wr w.heap.size S S (.slice ao n cap) (.slice ao2 n2 cap2) (.slice bo n cap3) (.slice bo2 n2 cap4)):=hT;have HALL:Hid (∀j,j<k1→∀(h1:j<Ls.length) (h2:j<Ls'.length),lnkB Ls[j] Ls'[j]=true):=hall;obtain⟨⟨p0,p1,p2⟩,s0,s1,s2⟩:=hT;have hlt1:w.heap.size<wr.heap.size:=bLQ _ _ p0;have hlt2:w.heap.size+1<wr.heap.size:=bLQ _ _ s0;clear hall;by_cases hlt:k1<n
   ·obtain⟨g,og,hao,hc,_⟩:=HA1.out (by omega);obtain⟨g2,og2,hao2,hc2,_⟩:=HB1.out (by omega);subst hao hao2;obtain⟨x0,x1,x2,x3,hkl,hLk,q0,q1,q2,q3⟩:=lnk_at (hc.later hB) HN1.out hlt;obtain⟨y0,y1,y2,y3,hkm,hMk,r0,r1,r2,r3⟩:=lnk_at (hc2.later hB) HM1.out hlt;have HCE:Hid (LC w w.heap.size S S (.slice (some ⟨g,og,none⟩) n cap) (.slice ao2 n2 cap2) (.slice (some ⟨g2,og2,none⟩) n cap3) (.slice bo2 n2 cap4) g (og+k1*4) x0 x1 x2 x3 g2 (og2+k1*4) y0 y1 y2 y3 wr):=⟨hB,⟨p0,p1,p2⟩,⟨s0,s1,s2⟩,⟨q0,q1,q2,q3⟩,r0,r1,r2,r3⟩;have HLK:Hid (Ls[k1]=((x0,x1),(x2,x3))∧Ls'[k1]=((y0,y1),(y2,y3))):=⟨hLk,hMk⟩;clear q0 q1 q2 q3 r0 r1 r2 r3 hB hc hc2 hLk hMk HA1 HB1;go_upto_region 6 with fail;have kb0:(0:Int)≤(k1:Int):=by omega
    have kb1:(k1:Int)<(n:Int):=by omega
    clear p0 p1 p2 s0 s1 s2
    go_cut [47] from 30 to 47 (fun c w'=>c=.bool (!lnkB ((x0,x1),(x2,x3)) ((y0,y1),(y2,y3)))∧TT w' w.heap.size S S (.slice (some ⟨g,og,none⟩) n cap) (.slice ao2 n2 cap2) (.slice (some ⟨g2,og2,none⟩) n cap3) (.slice bo2 n2 cap4)∧Below w.heap.size w w')
    case first =>
     as_aux_lemma =>
      refine wp_region_quiet (C:=LC w w.heap.size S S (.slice (some ⟨g,og,none⟩) n cap) (.slice ao2 n2 cap2) (.slice (some ⟨g2,og2,none⟩) n cap3) (.slice bo2 n2 cap4) g (og+k1*4) x0 x1 x2 x3 g2 (og2+k1*4) y0 y1 y2 y3) (by kernel_rfl) (by kernel_rfl) (LC.later (W:=wr) (Below.drew (bRQ _ _)) HCE.out) ?_;simp only[List.toList_toArray];go_big_quiet_want;refine qv (.pointer (some ⟨w.heap.size,1,none⟩)) ?_ ?_
      ·rintro w' ⟨z,⟨t0,t1,t2⟩,⟨s0,s1,s2⟩,⟨z0,z1,z2,z3⟩,u0,u1,u2,u3⟩;go_simp
      simp only[Act.put,AP];go_big_quiet_on;go_big_quiet_want;refine qv (.slice (some ⟨g,og,none⟩) n cap) ?_ ?_
      ·rintro w' ⟨z,⟨t0,t1,t2⟩,⟨s0,s1,s2⟩,⟨z0,z1,z2,z3⟩,u0,u1,u2,u3⟩;go_simp
      simp only[Act.put,AP];go_big_quiet_on;go_big_quiet_want;refine qv (.int i64 (k1:Int)) ?_ ?_
      ·rintro w' ⟨z,⟨t0,t1,t2⟩,⟨s0,s1,s2⟩,⟨z0,z1,z2,z3⟩,u0,u1,u2,u3⟩;go_simp
      simp only[Act.put,AP];go_big_quiet_on;go_big_quiet_want;refine qv (.pointer (some ⟨g,og+k1*4,none⟩)) ?_ ?_
      ·rintro w' ⟨z,⟨t0,t1,t2⟩,⟨s0,s1,s2⟩,⟨z0,z1,z2,z3⟩,u0,u1,u2,u3⟩;go_simp
      simp only[Act.put,AP];go_big_quiet_on;go_big_quiet_want;refine qv (.agg #[.int i64 x0,.int i64 x1,.int i64 x2,.int i64 x3]) ?_ ?_
      ·rintro w' ⟨z,⟨t0,t1,t2⟩,⟨s0,s1,s2⟩,⟨z0,z1,z2,z3⟩,u0,u1,u2,u3⟩;go_simp
      simp only[Act.put,AP];go_big_quiet_on;go_big_quiet_want;refine qv (.pointer (some ⟨w.heap.size+1,1,none⟩)) ?_ ?_
      ·rintro w' ⟨z,⟨t0,t1,t2⟩,⟨s0,s1,s2⟩,⟨z0,z1,z2,z3⟩,u0,u1,u2,u3⟩;go_simp
      simp only[Act.put,AP];go_big_quiet_on;go_big_quiet_want;refine qv (.slice (some ⟨g2,og2,none⟩) n cap3) ?_ ?_
      ·rintro w' ⟨z,⟨t0,t1,t2⟩,⟨s0,s1,s2⟩,⟨z0,z1,z2,z3⟩,u0,u1,u2,u3⟩;go_simp
      simp only[Act.put,AP];go_big_quiet_on;go_big_quiet_want;refine qv (.int i64 (k1:Int)) ?_ ?_
      ·rintro w' ⟨z,⟨t0,t1,t2⟩,⟨s0,s1,s2⟩,⟨z0,z1,z2,z3⟩,u0,u1,u2,u3⟩;go_simp
      simp only[Act.put,AP];go_big_quiet_on;go_big_quiet_want;refine qv (.pointer (some ⟨g2,og2+k1*4,none⟩)) ?_ ?_
      ·rintro w' ⟨z,⟨t0,t1,t2⟩,⟨s0,s1,s2⟩,⟨z0,z1,z2,z3⟩,u0,u1,u2,u3⟩;go_simp
      simp only[Act.put,AP];go_big_quiet_on;go_big_quiet_want;refine qv (.agg #[.int i64 y0,.int i64 y1,.int i64 y2,.int i64 y3]) ?_ ?_
      ·rintro w' ⟨z,⟨t0,t1,t2⟩,⟨s0,s1,s2⟩,⟨z0,z1,z2,z3⟩,u0,u1,u2,u3⟩;go_simp
      simp only[Act.put,AP];go_big_quiet_on;go_big_quiet_want;refine quiet_val (v:=.bool (!lnkB ((x0,x1),(x2,x3)) ((y0,y1),(y2,y3)))) (fun w' hC=>exec_bin rfl (by go_simp) (run_neq_of (lnk_eq x0 x1 x2 x3 y0 y1 y2 y3 w'))) ?_;simp only[Act.put,AP];go_big_quiet_on;refine wpQuiet_nil ?_;intro w' hC
      go_wp2_with fail
      go_meet
      case rel=>exact⟨rfl,⟨hC.2.1,hC.2.2.1⟩,hC.1⟩
    case rest =>
     obtain⟨rfl,hTT,hB2⟩:=hcut;have HB3:Hid (Below w.heap.size w wc):=hB2;have HT3:Hid (TT wc w.heap.size S S (.slice (some ⟨g,og,none⟩) n cap) (.slice ao2 n2 cap2) (.slice (some ⟨g2,og2,none⟩) n cap3) (.slice bo2 n2 cap4)):=hTT;clear HCE hB2 hTT;cases ho:lnkB ((x0,x1),(x2,x3)) ((y0,y1),(y2,y3))
     ·have HF:Hid (R=false):=by
       show R=false;rw[HR.out];exact and_no1 (smG_no hkl hkm (by rw[HLK.out.1,HLK.out.2];exact ho))
      go_wp2;go_ret;exact⟨by rw[HF.out];rfl,HB3.out⟩
     have HAL2:Hid (∀j,j<k1+1→∀(h1:j<Ls.length) (h2:j<Ls'.length),lnkB Ls[j] Ls'[j]=true):=by
      intro j hj h1 h2;by_cases e:j=k1
      ·subst e;rw[HLK.out.1,HLK.out.2];exact ho
      exact HALL.out j (by omega) h1 h2
     clear ho;go_wp2;go_roundw
     case rel=>exact⟨k1+1,by omega,by go_num,HAL2.out,HT3.out,HB3.out⟩
     case measure=>simp[intOf];omega
   obtain rfl:k1=n:=by omega
   have HS1:Hid (smG lnkB Ls Ls'=true):=smG_iff.2 ⟨by rw[HN1.out,HM1.out],fun i h1 h2=>HALL.out i (by rw[HN1.out] at h1;exact h1) h1 h2⟩;clear HALL hlt hB HA1 HB1;go_wp2
   go_loopw [6] (fun i wr=>∃k:Nat,k≤n2∧i=.int i64 k∧(∀j,j<k→∀(h1:j<Hs.length) (h2:j<Hs'.length),hstB Hs[j] Hs'[j]=true)∧TT wr w.heap.size S S (.slice ao k1 cap) (.slice ao2 n2 cap2) (.slice bo k1 cap3) (.slice bo2 n2 cap4)∧Below w.heap.size w wr) (fun i _=>n2-(intOf i).toNat)
   case atStart=>exact⟨0,by omega,rfl,fun j hj=>absurd hj (by omega),HT2.out,HB.out⟩
   case round =>
    obtain⟨k,hk,rfl,hall,hT,hB⟩:=hrel;clear HT2 HB;have HB:Hid (Below w.heap.size w wr):=hB;have HT2:Hid (TT wr w.heap.size S S (.slice ao k1 cap) (.slice ao2 n2 cap2) (.slice bo k1 cap3) (.slice bo2 n2 cap4)):=hT;have HALL:Hid (∀j,j<k→∀(h1:j<Hs.length) (h2:j<Hs'.length),hstB Hs[j] Hs'[j]=true):=hall;obtain⟨⟨p0,p1,p2⟩,s0,s1,s2⟩:=hT;have hlt1:w.heap.size<wr.heap.size:=bLQ _ _ p0;have hlt2:w.heap.size+1<wr.heap.size:=bLQ _ _ s0;clear hall;by_cases hlt:k<n2
    ·obtain⟨g,og,hao,hc,_⟩:=HA2.out (by omega);obtain⟨g2,og2,hao2,hc2,_⟩:=HB2.out (by omega);subst hao hao2;obtain⟨x0,x1,x2,hkl,hLk,q0,q1,q2⟩:=hst_at (hc.later hB) HN2.out hlt;obtain⟨y0,y1,y2,hkm,hMk,r0,r1,r2⟩:=hst_at (hc2.later hB) HM2.out hlt;have HCE:Hid (HC w w.heap.size S S (.slice ao k1 cap) (.slice (some ⟨g,og,none⟩) n2 cap2) (.slice bo k1 cap3) (.slice (some ⟨g2,og2,none⟩) n2 cap4) g (og+k*3) x0 x1 x2 g2 (og2+k*3) y0 y1 y2 wr):=⟨hB,⟨p0,p1,p2⟩,⟨s0,s1,s2⟩,⟨q0,q1,q2⟩,r0,r1,r2⟩;have HLK:Hid (Hs[k]=(x0,(x1,x2))∧Hs'[k]=(y0,(y1,y2))):=⟨hLk,hMk⟩;clear q0 q1 q2 r0 r1 r2 hB hc hc2 hLk hMk HA2 HB2;go_upto_region 11 with fail;have kb0:(0:Int)≤(k:Int):=by omega
     have kb1:(k:Int)<(n2:Int):=by omega
     clear p0 p1 p2 s0 s1 s2
     go_cut [65] from 48 to 65 (fun c w'=>c=.bool (!hstB (x0,(x1,x2)) (y0,(y1,y2)))∧TT w' w.heap.size S S (.slice ao k1 cap) (.slice (some ⟨g,og,none⟩) n2 cap2) (.slice bo k1 cap3) (.slice (some ⟨g2,og2,none⟩) n2 cap4)∧Below w.heap.size w w')
     case first =>
      as_aux_lemma =>
       refine wp_region_quiet (C:=HC w w.heap.size S S (.slice ao k1 cap) (.slice (some ⟨g,og,none⟩) n2 cap2) (.slice bo k1 cap3) (.slice (some ⟨g2,og2,none⟩) n2 cap4) g (og+k*3) x0 x1 x2 g2 (og2+k*3) y0 y1 y2) (by kernel_rfl) (by kernel_rfl) (HC.later (W:=wr) (Below.drew (bRQ _ _)) HCE.out) ?_;simp only[List.toList_toArray];go_big_quiet_want;refine qv (.pointer (some ⟨w.heap.size,2,none⟩)) ?_ ?_
       ·rintro w' ⟨z,⟨t0,t1,t2⟩,⟨s0,s1,s2⟩,⟨z0,z1,z2⟩,u0,u1,u2⟩;go_simp
       simp only[Act.put,AP];go_big_quiet_on;go_big_quiet_want;refine qv (.slice (some ⟨g,og,none⟩) n2 cap2) ?_ ?_
       ·rintro w' ⟨z,⟨t0,t1,t2⟩,⟨s0,s1,s2⟩,⟨z0,z1,z2⟩,u0,u1,u2⟩;go_simp
       simp only[Act.put,AP];go_big_quiet_on;go_big_quiet_want;refine qv (.int i64 (k:Int)) ?_ ?_
       ·rintro w' ⟨z,⟨t0,t1,t2⟩,⟨s0,s1,s2⟩,⟨z0,z1,z2⟩,u0,u1,u2⟩;go_simp
       simp only[Act.put,AP];go_big_quiet_on;go_big_quiet_want;refine qv (.pointer (some ⟨g,og+k*3,none⟩)) ?_ ?_
       ·rintro w' ⟨z,⟨t0,t1,t2⟩,⟨s0,s1,s2⟩,⟨z0,z1,z2⟩,u0,u1,u2⟩;go_simp
       simp only[Act.put,AP];go_big_quiet_on;go_big_quiet_want;refine qv (.agg #[.string x0,.int i64 x1,.int i64 x2]) ?_ ?_
       ·rintro w' ⟨z,⟨t0,t1,t2⟩,⟨s0,s1,s2⟩,⟨z0,z1,z2⟩,u0,u1,u2⟩;go_simp
       simp only[Act.put,AP];go_big_quiet_on;go_big_quiet_want;refine qv (.pointer (some ⟨w.heap.size+1,2,none⟩)) ?_ ?_
       ·rintro w' ⟨z,⟨t0,t1,t2⟩,⟨s0,s1,s2⟩,⟨z0,z1,z2⟩,u0,u1,u2⟩;go_simp
       simp only[Act.put,AP];go_big_quiet_on;go_big_quiet_want;refine qv (.slice (some ⟨g2,og2,none⟩) n2 cap4) ?_ ?_
       ·rintro w' ⟨z,⟨t0,t1,t2⟩,⟨s0,s1,s2⟩,⟨z0,z1,z2⟩,u0,u1,u2⟩;go_simp
       simp only[Act.put,AP];go_big_quiet_on;go_big_quiet_want;refine qv (.int i64 (k:Int)) ?_ ?_
       ·rintro w' ⟨z,⟨t0,t1,t2⟩,⟨s0,s1,s2⟩,⟨z0,z1,z2⟩,u0,u1,u2⟩;go_simp
       simp only[Act.put,AP];go_big_quiet_on;go_big_quiet_want;refine qv (.pointer (some ⟨g2,og2+k*3,none⟩)) ?_ ?_
       ·rintro w' ⟨z,⟨t0,t1,t2⟩,⟨s0,s1,s2⟩,⟨z0,z1,z2⟩,u0,u1,u2⟩;go_simp
       simp only[Act.put,AP];go_big_quiet_on;go_big_quiet_want;refine qv (.agg #[.string y0,.int i64 y1,.int i64 y2]) ?_ ?_
       ·rintro w' ⟨z,⟨t0,t1,t2⟩,⟨s0,s1,s2⟩,⟨z0,z1,z2⟩,u0,u1,u2⟩;go_simp
       simp only[Act.put,AP];go_big_quiet_on;go_big_quiet_want;refine quiet_val (v:=.bool (!hstB (x0,(x1,x2)) (y0,(y1,y2)))) (fun w' hC=>exec_bin rfl (by go_simp) (run_neq_of (hst_eq x0 x1 x2 y0 y1 y2 w'))) ?_;simp only[Act.put,AP];go_big_quiet_on;refine wpQuiet_nil ?_;intro w' hC
       go_wp2_with fail
       go_meet
       case rel=>exact⟨rfl,⟨hC.2.1,hC.2.2.1⟩,hC.1⟩
     case rest =>
      obtain⟨rfl,hTT,hB2⟩:=hcut;have HB3:Hid (Below w.heap.size w wc):=hB2;have HT3:Hid (TT wc w.heap.size S S (.slice ao k1 cap) (.slice (some ⟨g,og,none⟩) n2 cap2) (.slice bo k1 cap3) (.slice (some ⟨g2,og2,none⟩) n2 cap4)):=hTT;clear HCE hB2 hTT;cases ho:hstB (x0,(x1,x2)) (y0,(y1,y2))
      ·have HF:Hid (R=false):=by
        show R=false;rw[HR.out];exact and_no2 (smG_no hkl hkm (by rw[HLK.out.1,HLK.out.2];exact ho))
       go_wp2;go_ret;exact⟨by rw[HF.out];rfl,HB3.out⟩
      have HAL2:Hid (∀j,j<k+1→∀(h1:j<Hs.length) (h2:j<Hs'.length),hstB Hs[j] Hs'[j]=true):=by
       intro j hj h1 h2;by_cases e:j=k
       ·subst e;rw[HLK.out.1,HLK.out.2];exact ho
       exact HALL.out j (by omega) h1 h2
      clear ho;go_wp2;go_roundw
      case rel=>exact⟨k+1,by omega,by go_num,HAL2.out,HT3.out,HB3.out⟩
      case measure=>simp[intOf];omega
    obtain rfl:k=n2:=by omega
    have HS2:Hid (smG hstB Hs Hs'=true):=smG_iff.2 ⟨by rw[HN2.out,HM2.out],fun i h1 h2=>HALL.out i (by rw[HN2.out] at h1;exact h1) h1 h2⟩;clear HALL hlt hB HA2 HB2;have HF:Hid (R=true):=by
     show R=true;rw[HR.out,tpB,HS1.out,HS2.out];simp
    go_wp2;go_ret;exact⟨by rw[HF.out];rfl,HB.out⟩
 have HF:Hid (R=false):=by
  show R=false;rw[HR.out];cases e:tpB S S' Ls Ls' Hs Hs'
  ·rfl
  obtain⟨rfl,rfl,rfl⟩:=tpB_iff.1 e;exact absurd ⟨rfl,by rw[←HN1.out,HM1.out],by rw[←HN2.out,HM2.out]⟩ hl
 by_cases hS:S=S'
 ·subst hS;have e1:(S==S)=true:=by simp
  by_cases h1:n=m
  ·subst h1;have e2:((n:Int)==(n:Int))=true:=by simp
   have e3:((n2:Int)==(m2:Int))=false:=beq_eq_false_iff_ne.2 (fun e=>hl ⟨rfl,rfl,by omega⟩);have e4:((n2:Int) != (m2:Int))=true:=by rw[bne,e3];rfl
   clear hl;go_enter func34,ntmps34;go_wp2;go_ret;exact⟨by rw[HF.out];rfl,HBW.out⟩
  have e3:((n:Int)==(m:Int))=false:=beq_eq_false_iff_ne.2 (by omega);have e4:((n:Int) != (m:Int))=true:=by rw[bne,e3];rfl
  clear hl h1;go_enter func34,ntmps34;go_wp2;go_ret;exact⟨by rw[HF.out];rfl,HBW.out⟩
 have e3:(S==S')=false:=beq_eq_false_iff_ne.2 hS;have e4:(S != S')=true:=by rw[bne,e3];rfl
 clear hl hS;go_enter func34,ntmps34;go_wp2;go_ret;exact⟨by rw[HF.out];rfl,HBW.out⟩
theorem tabs_any (ao:AdQ)(n cap:Nat)(ao2:AdQ)(n2 cap2:Nat)(L:List Ru)(w:World)(hs:SR w (.slice ao n cap) L)(ht:SR w (.slice ao2 n2 cap2) L):
 Calls prog 35 #[.slice ao n cap,.slice ao2 n2 cap2] w fun e w'=>e=.returned (.bool true)∧Below w.heap.size w w':=by
 obtain⟨ao',n',cap',e,hn,hn2,hn3,ha⟩:=hs.form;cases e;obtain⟨ao',n',cap',e,hm,hm2,hm3,hb⟩:=ht.form;cases e;obtain rfl:n=n2:=by omega
 have HN:Hid (L.length=n):=hn;have HA:Hid (0<n→∃g o,ao=some ⟨g,o,none⟩∧RAt w g o L∧cap≤maxLen):=ha;have HA2:Hid (0<n→∃g o,ao2=some ⟨g,o,none⟩∧RAt w g o L∧cap2≤maxLen):=hb;have hn63:n≤9223372036854775807:=by unfold maxLen at hn2;omega
 clear hs ht hn ha hm hb hn2 hm2;go_enter func35,ntmps35;go_wp2
 go_loopw [5] (fun i wr=>∃k:Nat,k≤n∧i=.int i64 k∧Below w.heap.size w wr) (fun i _=>n-(intOf i).toNat)
 case atStart=>exact⟨0,by omega,rfl,bRQ _ _⟩
 case round =>
  obtain⟨k,hk,rfl,hB⟩:=hrel;have HB:Hid (Below w.heap.size w wr):=hB;by_cases hlt:k<n
  ·obtain⟨g,og,hao,hc,_⟩:=HA.out (by omega);obtain⟨g2,og2,hao2,hc2,_⟩:=HA2.out (by omega);subst hao hao2;obtain⟨p,m,b,q,s,v,hkl,hLk,q0,q1,q2,q3,q4,q5⟩:=(hc.later hB).at HN.out hlt;obtain⟨p',m',b',q',s',v',_,hLk2,r0,r1,r2,r3,r4,r5⟩:=(hc2.later hB).at HN.out hlt;rw[hLk] at hLk2;simp only[Ru.mk.injEq] at hLk2;obtain⟨rfl,rfl,rfl,rfl,rfl,rfl⟩:=hLk2;have HCE:Hid (CD w g (og+k*6) p m b q s v g2 (og2+k*6) p m b q s v wr):=⟨hB,⟨q0,q1,q2,q3,q4,q5⟩,r0,r1,r2,r3,r4,r5⟩;clear q0 q1 q2 q3 q4 q5 r0 r1 r2 r3 r4 r5 hB hc hc2 hLk HA HA2;go_upto_region 6 with fail;have kb0:(0:Int)≤(k:Int):=by omega
   have kb1:(k:Int)<(n:Int):=by omega
   go_cut [25] from 11 to 25 (fun c w'=>c=.bool false∧Below w.heap.size w w')
   case first =>
    as_aux_lemma =>
     refine wp_region_quiet (C:=CD w g (og+k*6) p m b q s v g2 (og2+k*6) p m b q s v) (by kernel_rfl) (by kernel_rfl) (CD.later (W:=wr) (Below.drew (bRQ _ _)) HCE.out) ?_;simp only[List.toList_toArray];go_big_quiet_want;refine qv (.slice (some ⟨g,og,none⟩) n cap) ?_ ?_
     ·rintro w' ⟨z0,⟨z1,z2,z3,z4,z5,z6⟩,y1,y2,y3,y4,y5,y6⟩;go_simp
     simp only[Act.put,AP];go_big_quiet_on;go_big_quiet_want;refine qv (.int i64 (k:Int)) ?_ ?_
     ·rintro w' ⟨z0,⟨z1,z2,z3,z4,z5,z6⟩,y1,y2,y3,y4,y5,y6⟩;go_simp
     simp only[Act.put,AP];go_big_quiet_on;go_big_quiet_want;refine qv (.pointer (some ⟨g,og+k*6,none⟩)) ?_ ?_
     ·rintro w' ⟨z0,⟨z1,z2,z3,z4,z5,z6⟩,y1,y2,y3,y4,y5,y6⟩;go_simp
     simp only[Act.put,AP];go_big_quiet_on;go_big_quiet_want;refine qv (.agg #[.int i64 p,.int i64 m,.int i64 b,.int i64 q,.int i64 s,.int i64 v]) ?_ ?_
     ·rintro w' ⟨z0,⟨z1,z2,z3,z4,z5,z6⟩,y1,y2,y3,y4,y5,y6⟩;go_simp
     simp only[Act.put,AP];go_big_quiet_on;go_big_quiet_want;refine qv (.slice (some ⟨g2,og2,none⟩) n cap2) ?_ ?_
     ·rintro w' ⟨z0,⟨z1,z2,z3,z4,z5,z6⟩,y1,y2,y3,y4,y5,y6⟩;go_simp
     simp only[Act.put,AP];go_big_quiet_on;go_big_quiet_want;refine qv (.int i64 (k:Int)) ?_ ?_
     ·rintro w' ⟨z0,⟨z1,z2,z3,z4,z5,z6⟩,y1,y2,y3,y4,y5,y6⟩;go_simp
     simp only[Act.put,AP];go_big_quiet_on;go_big_quiet_want;refine qv (.pointer (some ⟨g2,og2+k*6,none⟩)) ?_ ?_
     ·rintro w' ⟨z0,⟨z1,z2,z3,z4,z5,z6⟩,y1,y2,y3,y4,y5,y6⟩;go_simp
     simp only[Act.put,AP];go_big_quiet_on;go_big_quiet_want;refine qv (.agg #[.int i64 p,.int i64 m,.int i64 b,.int i64 q,.int i64 s,.int i64 v]) ?_ ?_
     ·rintro w' ⟨z0,⟨z1,z2,z3,z4,z5,z6⟩,y1,y2,y3,y4,y5,y6⟩;go_simp
     simp only[Act.put,AP];go_big_quiet_on;go_big_quiet_want;refine qv (.bool false) ?_ ?_
     ·rintro w' ⟨z0,⟨z1,z2,z3,z4,z5,z6⟩,y1,y2,y3,y4,y5,y6⟩;go_simp
     simp only[Act.put,AP];go_big_quiet_on;refine wpQuiet_nil ?_;intro w' hC
     go_wp2_with fail
     go_meet
     case rel=>exact⟨rfl,hC.1⟩
   case rest =>
    obtain⟨rfl,hB2⟩:=hcut;clear HCE;go_wp2;go_roundw
    case rel=>exact⟨k+1,by omega,by go_num,hB2⟩
    case measure=>simp[intOf];omega
  obtain rfl:k=n:=by omega
  go_wp2;go_ret;exact⟨rfl,HB.out⟩
def NN (W:World)(B:Nat)(S:Int)(a1 a2 a3:Value)(S':Int)(b1 b2 b3:Value):Prop:=NeBox W B S a1 a2 a3∧NeBox W (B+1) S' b1 b2 b3
theorem nn_new (w:World)(S:Int)(a1 a2 a3:Value)(S':Int)(b1 b2 b3:Value)(t:TypeId):NN ((w.alloc (.cells #[.int i64 S,a1,a2,a3] t)).alloc (.cells #[.int i64 S',b1,b2,b3] t)) w.heap.size S a1 a2 a3 S' b1 b2 b3:=by
 refine⟨(nebox_new w S a1 a2 a3 t).later ((bRQ _ _).alloc (nLQ _) _),?_⟩;have:=nebox_new (w.alloc (.cells #[.int i64 S,a1,a2,a3] t)) S' b1 b2 b3 t;simpa using this
theorem NN.later {W W':World}{B:Nat}{S:Int}{a1 a2 a3:Value}{S':Int}{b1 b2 b3:Value}(h:NN W B S a1 a2 a3 S' b1 b2 b3)(hb:Below W.heap.size W W'):NN W' B S a1 a2 a3 S' b1 b2 b3:=⟨h.1.later hb,h.2.later hb⟩
theorem NeBox.grown {W W':World}{g:Nat}{S:Int}{v1 v2 v3:Value}{row:Option Nat}(h:NeBox W g S v1 v2 v3)(hg:W.grownBy W' row)(hne:some g≠row):NeBox W' g S v1 v2 v3:=
 ⟨hg.cell h.1 hne,hg.cell h.2.1 hne,hg.cell h.2.2.1 hne,hg.cell h.2.2.2 hne⟩
theorem NN.grown {W W':World}{B:Nat}{S:Int}{a1 a2 a3:Value}{S':Int}{b1 b2 b3:Value}{row:Option Nat}(h:NN W B S a1 a2 a3 S' b1 b2 b3)(hg:W.grownBy W' row)(hr:∀g,row=some g→B+2≤g):NN W' B S a1 a2 a3 S' b1 b2 b3:=
 ⟨h.1.grown hg (fun e=>by have:=hr _ e.symm;omega),h.2.grown hg (fun e=>by have:=hr _ e.symm;omega)⟩
def NC (wr:World)(B:Nat)(S:Int)(a1 a2 a3:Value)(S':Int)(b1 b2 b3:Value)(g q:Nat)(u:Value)(f p:Nat)(v:Value)(L M:List Ru)(w':World):Prop:=
 Below wr.heap.size wr w'∧NN w' B S a1 a2 a3 S' b1 b2 b3∧w'.cell? ⟨g,q,none⟩=some u∧w'.cell? ⟨f,p,none⟩=some v∧SR w' u L∧SR w' v M
theorem NC.later {wr W W':World}{B:Nat}{S:Int}{a1 a2 a3:Value}{S':Int}{b1 b2 b3:Value}{g q:Nat}{u:Value}{f p:Nat}{v:Value}{L M:List Ru}(hb:Below W.heap.size W W')(h:NC wr B S a1 a2 a3 S' b1 b2 b3 g q u f p v L M W):NC wr B S a1 a2 a3 S' b1 b2 b3 g q u f p v L M W':=
 ⟨h.1.trans (hb.mono h.1.size),h.2.1.later hb,cell_later hb h.2.2.1,cell_later hb h.2.2.2.1,h.2.2.2.2.1.later hb,h.2.2.2.2.2.later hb⟩
theorem smNet_any (S:Int)(ao:AdQ)(n cap:Nat)(ao2:AdQ)(n2 cap2:Nat)(ao3:AdQ)(n3 cap3:Nat)(bo:AdQ)(m dap:Nat)(bo2:AdQ)(m2 dap2:Nat)(bo3:AdQ)(m3 dap3:Nat)(Ls:LkQ)(Hs:HoQ)(Ts:TsQ)(w:World)
 (hL:GS lnkE w (.slice ao n cap) Ls) (hH:GS hstE w (.slice ao2 n2 cap2) Hs) (hT:TS w (.slice ao3 n3 cap3) Ts) (hL':GS lnkE w (.slice bo m dap) Ls) (hH':GS hstE w (.slice bo2 m2 dap2) Hs) (hT':TS w (.slice bo3 m3 dap3) Ts):
 Calls prog 11 #[.agg #[.int i64 S,.slice ao n cap,.slice ao2 n2 cap2,.slice ao3 n3 cap3],.agg #[.int i64 S,.slice bo m dap,.slice bo2 m2 dap2,.slice bo3 m3 dap3]] w fun e w'=>e=.returned (.bool true)∧Below w.heap.size w w':=by
 have hb0:Below w.heap.size w ((w.alloc (.cells #[.int i64 S,.slice ao n cap,.slice ao2 n2 cap2,.slice ao3 n3 cap3] 28)).alloc (.cells #[.int i64 S,.slice bo m dap,.slice bo2 m2 dap2,.slice bo3 m3 dap3] 28)):=((bRQ _ _).alloc (nLQ _) _).alloc (by simp) _;have HNN:=nn_new w S (.slice ao n cap) (.slice ao2 n2 cap2) (.slice ao3 n3 cap3) S (.slice bo m dap) (.slice bo2 m2 dap2) (.slice bo3 m3 dap3) 28;have HL1:=hL.later hb0;have HL2:=hL'.later hb0;have HH1:=hH.later hb0;have HH2:=hH'.later hb0;have HT1:Hid (∀W,Below w.heap.size w W→TS W (.slice ao3 n3 cap3) Ts∧TS W (.slice bo3 m3 dap3) Ts):=fun W h=>⟨hT.later h,hT'.later h⟩
 have HB0:Hid (Below w.heap.size w ((w.alloc (.cells #[.int i64 S,.slice ao n cap,.slice ao2 n2 cap2,.slice ao3 n3 cap3] 28)).alloc (.cells #[.int i64 S,.slice bo m dap,.slice bo2 m2 dap2,.slice bo3 m3 dap3] 28))):=hb0;obtain⟨_,_,_,e,hn,hn2,hn3,ha⟩:=hT.form;cases e;obtain⟨_,_,_,e,hm,hm2,hm3,hb⟩:=hT'.form;cases e;obtain rfl:n3=m3:=by omega
 have HN:Hid (Ts.length=n3):=hn;have HA:Hid (0<n3→∃g o,ao3=some ⟨g,o,none⟩∧TAt w g o Ts∧cap3≤maxLen):=ha;have HA2:Hid (0<n3→∃g o,bo3=some ⟨g,o,none⟩∧TAt w g o Ts∧dap3≤maxLen):=hb;have n63:n3≤9223372036854775807:=by unfold maxLen at hn2;omega
 have e3:((n3:Int)==(n3:Int))=true:=by simp
 clear hL hL' hH hH' hT hT' hn ha hm hb hn2 hm2 hb0;go_enter func11,ntmps11
 go_wp2_with fail
 refine (smTopo_any S ao n cap ao2 n2 cap2 Ls Hs S bo m dap bo2 m2 dap2 Ls Hs _ HL1 HH1 HL2 HH2).mono ?_;rintro e w1 ⟨rfl,hb1⟩;rw[tpB_iff.2 ⟨rfl,rfl,rfl⟩];have HB1:Hid (Below w.heap.size w w1):=HB0.out.trans (hb1.mono HB0.out.size);have HN1:Hid (NN w1 w.heap.size S (.slice ao n cap) (.slice ao2 n2 cap2) (.slice ao3 n3 cap3) S (.slice bo m dap) (.slice bo2 m2 dap2) (.slice bo3 n3 dap3)):=HNN.later hb1;obtain⟨⟨p0,p1,p2,p3⟩,s0,s1,s2,s3⟩:=HNN.later hb1;have hlt1:w.heap.size<w1.heap.size:=bLQ _ _ p0;have hlt2:w.heap.size+1<w1.heap.size:=bLQ _ _ s0;clear hb1 HL1 HL2 HH1 HH2 HB0 HNN;go_wp2
 go_loopw [6] (fun i wr=>∃k:Nat,k≤n3∧i=.int i64 k∧NN wr w.heap.size S (.slice ao n cap) (.slice ao2 n2 cap2) (.slice ao3 n3 cap3) S (.slice bo m dap) (.slice bo2 m2 dap2) (.slice bo3 n3 dap3)∧Below w.heap.size w wr) (fun i _=>n3-(intOf i).toNat)
 case atStart=>exact⟨0,by omega,rfl,HN1.out,HB1.out⟩
 case round =>
  obtain⟨k,hk,rfl,hX,hB⟩:=hrel;clear HN1 p0 p1 p2 p3 s0 s1 s2 s3 hlt1 hlt2 HB1;have HB:Hid (Below w.heap.size w wr):=hB;have HX:Hid (NN wr w.heap.size S (.slice ao n cap) (.slice ao2 n2 cap2) (.slice ao3 n3 cap3) S (.slice bo m dap) (.slice bo2 m2 dap2) (.slice bo3 n3 dap3)):=hX;obtain⟨⟨p0,p1,p2,p3⟩,s0,s1,s2,s3⟩:=hX;have hlt1:w.heap.size<wr.heap.size:=bLQ _ _ p0;have hlt2:w.heap.size+1<wr.heap.size:=bLQ _ _ s0;by_cases hlt:k<n3
  ·obtain⟨g,og,hao,hc,_⟩:=HA.out (by omega);obtain⟨f,of,hbo,hd,_⟩:=HA2.out (by omega);subst hao hbo;obtain⟨a3,l3,c3,r0,hG3⟩:=(hc.later hB) k (by rw[HN.out];exact hlt);obtain⟨a4,l4,c4,r1,hG4⟩:=(hd.later hB) k (by rw[HN.out];exact hlt);have HCL:Hid (NC wr w.heap.size S (.slice ao n cap) (.slice ao2 n2 cap2) (.slice (some ⟨g,og,none⟩) n3 cap3) S (.slice bo m dap) (.slice bo2 m2 dap2) (.slice (some ⟨f,of,none⟩) n3 dap3) g (og+k) (.slice a3 l3 c3) f (of+k) (.slice a4 l4 c4) (Ts[k]'(by rw[HN.out];exact hlt)) (Ts[k]'(by rw[HN.out];exact hlt)) wr):=⟨bRQ _ _,HX.out,r0,r1,hG3,hG4⟩;have kb0:(0:Int)≤(k:Int):=by omega
   have kb1:(k:Int)<(n3:Int):=by omega
   clear hc hd hB r0 r1 hG3 hG4;go_upto_region 7 with fail;clear p0 p1 p2 p3 s0 s1 s2 s3;refine wp_region_quiet (C:=NC wr w.heap.size S (.slice ao n cap) (.slice ao2 n2 cap2) (.slice (some ⟨g,og,none⟩) n3 cap3) S (.slice bo m dap) (.slice bo2 m2 dap2) (.slice (some ⟨f,of,none⟩) n3 dap3) g (og+k) (.slice a3 l3 c3) f (of+k) (.slice a4 l4 c4) (Ts[k]'(by rw[HN.out];exact hlt)) (Ts[k]'(by rw[HN.out];exact hlt))) (by kernel_rfl) (by kernel_rfl) (NC.later (W:=wr) (Below.drew (bRQ _ _)) HCL.out) ?_;simp only[List.toList_toArray];go_big_quiet_want;refine qv (.pointer (some ⟨w.heap.size,3,none⟩)) ?_ ?_
   ·rintro w' ⟨z,⟨⟨z0,z1,z2,z3⟩,y0,y1,y2,y3⟩,x0,x1,x2,x3⟩;go_simp
   simp only[Act.put,AP];go_big_quiet_on;go_big_quiet_want;refine qv (.slice (some ⟨g,og,none⟩) n3 cap3) ?_ ?_
   ·rintro w' ⟨z,⟨⟨z0,z1,z2,z3⟩,y0,y1,y2,y3⟩,x0,x1,x2,x3⟩;go_simp
   simp only[Act.put,AP];go_big_quiet_on;go_big_quiet_want;refine qv (.int i64 (k:Int)) ?_ ?_
   ·rintro w' ⟨z,⟨⟨z0,z1,z2,z3⟩,y0,y1,y2,y3⟩,x0,x1,x2,x3⟩;go_simp
   simp only[Act.put,AP];go_big_quiet_on;go_big_quiet_want;refine qv (.pointer (some ⟨g,og+k,none⟩)) ?_ ?_
   ·rintro w' ⟨z,⟨⟨z0,z1,z2,z3⟩,y0,y1,y2,y3⟩,x0,x1,x2,x3⟩;go_simp
   simp only[Act.put,AP];go_big_quiet_on;go_big_quiet_want;refine qv (.slice a3 l3 c3) ?_ ?_
   ·rintro w' ⟨z,⟨⟨z0,z1,z2,z3⟩,y0,y1,y2,y3⟩,x0,x1,x2,x3⟩;go_simp
   simp only[Act.put,AP];go_big_quiet_on;go_big_quiet_want;refine qv (.pointer (some ⟨w.heap.size+1,3,none⟩)) ?_ ?_
   ·rintro w' ⟨z,⟨⟨z0,z1,z2,z3⟩,y0,y1,y2,y3⟩,x0,x1,x2,x3⟩;go_simp
   simp only[Act.put,AP];go_big_quiet_on;go_big_quiet_want;refine qv (.slice (some ⟨f,of,none⟩) n3 dap3) ?_ ?_
   ·rintro w' ⟨z,⟨⟨z0,z1,z2,z3⟩,y0,y1,y2,y3⟩,x0,x1,x2,x3⟩;go_simp
   simp only[Act.put,AP];go_big_quiet_on;go_big_quiet_want;refine qv (.int i64 (k:Int)) ?_ ?_
   ·rintro w' ⟨z,⟨⟨z0,z1,z2,z3⟩,y0,y1,y2,y3⟩,x0,x1,x2,x3⟩;go_simp
   simp only[Act.put,AP];go_big_quiet_on;go_big_quiet_want;refine qv (.pointer (some ⟨f,of+k,none⟩)) ?_ ?_
   ·rintro w' ⟨z,⟨⟨z0,z1,z2,z3⟩,y0,y1,y2,y3⟩,x0,x1,x2,x3⟩;go_simp
   simp only[Act.put,AP];go_big_quiet_on;go_big_quiet_want;refine qv (.slice a4 l4 c4) ?_ ?_
   ·rintro w' ⟨z,⟨⟨z0,z1,z2,z3⟩,y0,y1,y2,y3⟩,x0,x1,x2,x3⟩;go_simp
   simp only[Act.put,AP];go_big_quiet_on;go_big_quiet_want;refine quiet_call (f:=35) (args:=#[.slice a3 l3 c3,.slice a4 l4 c4]) (v:=.bool true) (fun w'=>?_) (fun w' hC=>(tabs_any a3 l3 c3 a4 l4 c4 _ w' hC.2.2.2.2.1 hC.2.2.2.2.2).mono (fun e w2 h2=>⟨h2.1,NC.later h2.2 hC⟩)) ?_
   ·go_simp
   simp only[Act.put,AP];go_big_quiet_on;go_big_quiet_want;refine qv (.bool true) ?_ ?_
   ·rintro w' ⟨z,⟨⟨z0,z1,z2,z3⟩,y0,y1,y2,y3⟩,x0,x1,x2,x3⟩;go_simp
   simp only[Act.put,AP];go_big_quiet_on;refine wpQuiet_nil ?_;intro w' hC;have HBY:Hid (Below wr.heap.size wr w'):=hC.1;have HXY:Hid (NN w' w.heap.size S (.slice ao n cap) (.slice ao2 n2 cap2) (.slice (some ⟨g,og,none⟩) n3 cap3) S (.slice bo m dap) (.slice bo2 m2 dap2) (.slice (some ⟨f,of,none⟩) n3 dap3)):=hC.2.1;clear hC;go_wp2;go_roundw
   case rel=>exact⟨k+1,by omega,by go_num,HXY.out,HB.out.trans (HBY.out.mono HB.out.size)⟩
   case measure=>simp[intOf];omega
  obtain rfl:k=n3:=by omega
  clear hB;go_wp2;go_ret;exact⟨rfl,HB.out⟩
def wisCD (w:World)(g o:Nat)(x0:Int)(x1 x2:ByteArray)(x3:Int)(g' o':Nat)(y0:Int)(y1 y2:ByteArray)(y3:Int)(w':World):Prop:=
 Below w.heap.size w w'∧(w'.cell? ⟨g,o,none⟩=some (.int i64 x0)∧w'.cell? ⟨g,o+1,none⟩=some (.string x1)∧w'.cell? ⟨g,o+2,none⟩=some (.string x2)∧w'.cell? ⟨g,o+3,none⟩=some (.int i64 x3)) ∧
 w'.cell? ⟨g',o',none⟩=some (.int i64 y0)∧w'.cell? ⟨g',o'+1,none⟩=some (.string y1)∧w'.cell? ⟨g',o'+2,none⟩=some (.string y2)∧w'.cell? ⟨g',o'+3,none⟩=some (.int i64 y3)
theorem wisCD.later {w W W':World}{g o:Nat}{x0:Int}{x1 x2:ByteArray}{x3:Int}{g' o':Nat}{y0:Int}{y1 y2:ByteArray}{y3:Int}(hb:Below W.heap.size W W')(h:wisCD w g o x0 x1 x2 x3 g' o' y0 y1 y2 y3 W):wisCD w g o x0 x1 x2 x3 g' o' y0 y1 y2 y3 W':=by
 obtain⟨h0,⟨h1,h2,h3,h4⟩,k1,k2,k3,k4⟩:=h;exact⟨h0.trans (hb.mono h0.size),⟨cell_later hb h1,cell_later hb h2,cell_later hb h3,cell_later hb h4⟩,cell_later hb k1,cell_later hb k2,cell_later hb k3,cell_later hb k4⟩
theorem wis_same (ao:AdQ)(n cap:Nat)(ao2:AdQ)(n2 cap2:Nat)(L M:List (Wi))(w:World)(hs:GS wisE w (.slice ao n cap) L)(ht:GS wisE w (.slice ao2 n2 cap2) M):
 Calls prog 12 #[.slice ao n cap,.slice ao2 n2 cap2] w fun e w'=>e=.returned (.bool (smG wisB L M))∧Below w.heap.size w w':=by
 obtain⟨ao',n',cap',e,hn,hn2,hn3,ha⟩:=hs.form;cases e;obtain⟨ao',n',cap',e,hm,hm2,hm3,hb⟩:=ht.form;cases e;have HN:Hid (L.length=n):=hn;have HM:Hid (M.length=n2):=hm;have HA:Hid (0<n→∃g o,ao=some ⟨g,o,none⟩∧GAt wisE w g o L∧cap≤maxLen):=ha;have HA2:Hid (0<n2→∃g o,ao2=some ⟨g,o,none⟩∧GAt wisE w g o M∧cap2≤maxLen):=hb;have hn63:n≤9223372036854775807:=by unfold maxLen at hn2;omega
 clear hs ht hn ha hm hb hn2 hm2;obtain⟨R,hR⟩:∃R,R=smG wisB L M:=⟨_,rfl⟩;have HR:Hid (R=smG wisB L M):=hR;rw[←hR];clear hR;by_cases hl:n=n2
 ·subst hl;go_enter func12,ntmps12;go_wp2
  go_loopw [5] (fun i wr=>∃k:Nat,k≤n∧i=.int i64 k∧(∀j,j<k→∀(h1:j<L.length) (h2:j<M.length),wisB L[j] M[j]=true)∧Below w.heap.size w wr) (fun i _=>n-(intOf i).toNat)
  case atStart=>exact⟨0,by omega,rfl,fun j hj=>absurd hj (by omega),bRQ _ _⟩
  case round =>
   obtain⟨k,hk,rfl,hall,hB⟩:=hrel;have HB:Hid (Below w.heap.size w wr):=hB;have HALL:Hid (∀j,j<k→∀(h1:j<L.length) (h2:j<M.length),wisB L[j] M[j]=true):=hall;clear hall;by_cases hlt:k<n
   ·obtain⟨g,og,hao,hc,_⟩:=HA.out (by omega);obtain⟨g2,og2,hao2,hc2,_⟩:=HA2.out (by omega);subst hao hao2;obtain⟨x0,x1,x2,x3,hkl,hLk,q0,q1,q2,q3⟩:=wis_at (hc.later hB) HN.out hlt;obtain⟨y0,y1,y2,y3,hkm,hMk,r0,r1,r2,r3⟩:=wis_at (hc2.later hB) HM.out hlt;have HCE:Hid (wisCD w g (og+k*4) x0 x1 x2 x3 g2 (og2+k*4) y0 y1 y2 y3 wr):=⟨hB,⟨q0,q1,q2,q3⟩,r0,r1,r2,r3⟩;have HLK:Hid (L[k]=⟨x0,x1,x2,x3⟩∧M[k]=⟨y0,y1,y2,y3⟩):=⟨hLk,hMk⟩;clear q0 q1 q2 q3 r0 r1 r2 r3 hB hc hc2 hLk hMk HA HA2;go_upto_region 6 with fail;have kb0:(0:Int)≤(k:Int):=by omega
    have kb1:(k:Int)<(n:Int):=by omega
    go_cut [25] from 11 to 25 (fun c w'=>c=.bool (!wisB ⟨x0,x1,x2,x3⟩ ⟨y0,y1,y2,y3⟩)∧Below w.heap.size w w')
    case first =>
     as_aux_lemma =>
      refine wp_region_quiet (C:=wisCD w g (og+k*4) x0 x1 x2 x3 g2 (og2+k*4) y0 y1 y2 y3) (by kernel_rfl) (by kernel_rfl) (wisCD.later (W:=wr) (Below.drew (bRQ _ _)) HCE.out) ?_;simp only[List.toList_toArray];go_big_quiet_want;refine qv (.slice (some ⟨g,og,none⟩) n cap) ?_ ?_
      ·rintro w' ⟨z,⟨z0,z1,z2,z3⟩,u0,u1,u2,u3⟩;go_simp
      simp only[Act.put,AP];go_big_quiet_on;go_big_quiet_want;refine qv (.int i64 (k:Int)) ?_ ?_
      ·rintro w' ⟨z,⟨z0,z1,z2,z3⟩,u0,u1,u2,u3⟩;go_simp
      simp only[Act.put,AP];go_big_quiet_on;go_big_quiet_want;refine qv (.pointer (some ⟨g,og+k*4,none⟩)) ?_ ?_
      ·rintro w' ⟨z,⟨z0,z1,z2,z3⟩,u0,u1,u2,u3⟩;go_simp
      simp only[Act.put,AP];go_big_quiet_on;go_big_quiet_want;refine qv (.agg #[.int i64 x0,.string x1,.string x2,.int i64 x3]) ?_ ?_
      ·rintro w' ⟨z,⟨z0,z1,z2,z3⟩,u0,u1,u2,u3⟩;go_simp
      simp only[Act.put,AP];go_big_quiet_on;go_big_quiet_want;refine qv (.slice (some ⟨g2,og2,none⟩) n cap2) ?_ ?_
      ·rintro w' ⟨z,⟨z0,z1,z2,z3⟩,u0,u1,u2,u3⟩;go_simp
      simp only[Act.put,AP];go_big_quiet_on;go_big_quiet_want;refine qv (.int i64 (k:Int)) ?_ ?_
      ·rintro w' ⟨z,⟨z0,z1,z2,z3⟩,u0,u1,u2,u3⟩;go_simp
      simp only[Act.put,AP];go_big_quiet_on;go_big_quiet_want;refine qv (.pointer (some ⟨g2,og2+k*4,none⟩)) ?_ ?_
      ·rintro w' ⟨z,⟨z0,z1,z2,z3⟩,u0,u1,u2,u3⟩;go_simp
      simp only[Act.put,AP];go_big_quiet_on;go_big_quiet_want;refine qv (.agg #[.int i64 y0,.string y1,.string y2,.int i64 y3]) ?_ ?_
      ·rintro w' ⟨z,⟨z0,z1,z2,z3⟩,u0,u1,u2,u3⟩;go_simp
      simp only[Act.put,AP];go_big_quiet_on;go_big_quiet_want;refine quiet_val (v:=.bool (!wisB ⟨x0,x1,x2,x3⟩ ⟨y0,y1,y2,y3⟩)) (fun w' hC=>exec_bin rfl (by go_simp) (run_neq_of (wis_eq x0 x1 x2 x3 y0 y1 y2 y3 w'))) ?_;simp only[Act.put,AP];go_big_quiet_on;refine wpQuiet_nil ?_;intro w' hC
      go_wp2_with fail
      go_meet
      case rel=>exact⟨rfl,hC.1⟩
    case rest =>
     obtain⟨rfl,hB2⟩:=hcut;have HB2:Hid (Below w.heap.size w wc):=hB2;clear HCE hB2;cases ho:wisB ⟨x0,x1,x2,x3⟩ ⟨y0,y1,y2,y3⟩
     ·have HF:Hid (R=false):=by
       show R=false;rw[HR.out];exact smG_no hkl hkm (by rw[HLK.out.1,HLK.out.2];exact ho)
      go_wp2;go_ret;exact⟨by rw[HF.out];rfl,HB2.out⟩
     have HAL2:Hid (∀j,j<k+1→∀(h1:j<L.length) (h2:j<M.length),wisB L[j] M[j]=true):=by
      intro j hj h1 h2;by_cases e:j=k
      ·subst e;rw[HLK.out.1,HLK.out.2];exact ho
      exact HALL.out j (by omega) h1 h2
     clear ho;go_wp2;go_roundw
     case rel=>exact⟨k+1,by omega,by go_num,HAL2.out,HB2.out⟩
     case measure=>simp[intOf];omega
   obtain rfl:k=n:=by omega
   have HF:Hid (R=true):=by
    show R=true;rw[HR.out];refine smG_iff.2 ⟨by rw[HN.out,HM.out],fun i h1 h2=>HALL.out i (by rw[HN.out] at h1;exact h1) h1 h2⟩
   go_wp2;go_ret;exact⟨by rw[HF.out];rfl,HB.out⟩
 have HF:Hid (R=false):=by
  show R=false;rw[HR.out];exact smG_len (by rw[HN.out,HM.out];exact hl)
 have e1:((n:Int)==(n2:Int))=false:=beq_eq_false_iff_ne.2 (by omega);have e2:((n:Int) != (n2:Int))=true:=by simp;omega
 go_enter func12,ntmps12;go_wp2;go_ret;exact⟨by rw[HF.out];rfl,bRQ _ _⟩
end
section
open Go.RowKit Go.Extern.Stop Go.Stop Go.Extern
def HasErr (w:World):Prop:=w.cell? ⟨1,0,none⟩=some (.iface 172 (.agg #[.pointer (some ⟨10,34,none⟩)]))
theorem HasErr.later {w w':World}(h:HasErr w)(hb:Below w.heap.size w w'):HasErr w':=cell_later hb h
theorem HasErr.alloc {w:World}(h:HasErr w)(o:Obj):HasErr (w.alloc o):=h.later ((bRQ _ _).alloc (nLQ _) _)
theorem vOfP (t:Addr)(w:World):(ReflectliteValue.unpack (.iface 110 (.pointer (some t)))).run prog w
 = .ok (.agg #[.pointer (some ⟨10,110,none⟩),.pointer (some ⟨w.heap.size,0,none⟩),.int .u64 150]) (w.alloc (.cells #[.pointer (some t)] 110)):=by kernel_rfl
theorem typeP (a : Addr)(w : World): (ReflectliteValue.methodAny (ReflectliteValue.valueError "reflectlite.Value.Type" 0) (fun t _ _ _ => ReflectliteType.toType t) #[.agg #[.pointer (some ⟨10, 110, none⟩), .pointer (some a), .int .u64 150]]).run prog w
 = .ok (.iface 172 (.agg #[.pointer (some ⟨10,110,none⟩)])) w:=by kernel_rfl
theorem methKind (h : Value)(w : World): (Go.method 360 172 (.agg #[h]) "Kind").run prog w = .ok (168, h) w := by kernel_rfl
theorem kindP (w:World):((ReflectliteType.abiMethod fun t=>Functor.map (fun a:Nat=>Value.int IntKind.u8 (a:Int)) (Rtype.kind t)) #[.pointer (some ⟨10,110,none⟩)]).run prog w=.ok (.int .u8 22) w:=by kernel_rfl
theorem kindE (w:World):((ReflectliteType.abiMethod fun t=>Functor.map (fun a:Nat=>Value.int IntKind.u8 (a:Int)) (Rtype.kind t)) #[.pointer (some ⟨10,72,none⟩)]).run prog w=.ok (.int .u8 2) w:=by kernel_rfl
theorem partsP (a:Addr)(w:World):(ReflectliteValue.parts (.agg #[.pointer (some ⟨10,110,none⟩),.pointer (some a),.int .u64 150])).run prog w=.ok (some (110,a,150)) w:=by kernel_rfl
theorem isNilP (a p:Addr)(W:World)(ha:W.cell? a=some (.pointer (some p))):
 (ReflectliteValue.method (ReflectliteValue.valueError "reflectlite.Value.IsNil" 0) ReflectliteValue.isNil #[.agg #[.pointer (some ⟨10, 110, none⟩), .pointer (some a), .int .u64 150]]).run prog W = .ok (.bool false) W := by
 change Sem.run _ (ReflectliteValue.parts (.agg #[.pointer (some ⟨10,110,none⟩),.pointer (some a),.int .u64 150]) >>= _) _=_
 rw[Sem.run_bind,partsP];simp only[Result.andThen];simp[ReflectliteValue.isNil,loadVar,isAgg,underlying,underlying110,ha,Result.andThen]
theorem methElem (h : Value)(w : World): (Go.method 360 172 (.agg #[h]) "Elem").run prog w = .ok (179, .agg #[h]) w := by kernel_rfl
theorem methImpl (h : Value)(w : World): (Go.method 360 172 (.agg #[h]) "Implements").run prog w = .ok (180, .agg #[h]) w := by kernel_rfl
theorem methAssign (h : Value)(w : World): (Go.method 360 172 (.agg #[h]) "AssignableTo").run prog w = .ok (177, .agg #[h]) w := by kernel_rfl
theorem elemP (w:World):(ReflectliteType.method ReflectliteType.elem #[.agg #[.pointer (some ⟨10,110,none⟩)]]).run prog w=.ok (.iface 172 (.agg #[.pointer (some ⟨10,72,none⟩)])) w:=by kernel_rfl
theorem implE (w : World): (ReflectliteType.relation "Implements" ReflectliteType.implements_ #[.agg #[.pointer (some ⟨10, 72, none⟩)], .iface 172 (.agg #[.pointer (some ⟨10, 34, none⟩)])]).run prog w = .ok (.bool true) w := by kernel_rfl
theorem typeOfE (v:Value)(w:World):(ReflectliteType.typeOf #[.iface 72 v]).run prog w=.ok (.iface 172 (.agg #[.pointer (some ⟨10,72,none⟩)])) w:=by kernel_rfl
theorem assignE (w : World): (ReflectliteType.relation "AssignableTo" ReflectliteType.assignableTo #[.agg #[.pointer (some ⟨10, 72, none⟩)], .iface 172 (.agg #[.pointer (some ⟨10, 72, none⟩)])]).run prog w = .ok (.bool true) w := by kernel_rfl
theorem vOfE (n:Int)(w:World):(ReflectliteValue.unpack (.iface 72 (.int i64 n))).run prog w
 = .ok (.agg #[.pointer (some ⟨10,72,none⟩),.pointer (some ⟨w.heap.size,0,none⟩),.int .u64 130]) (w.alloc (.cells #[.int i64 n] 72)):=by kernel_rfl
theorem elemOfP (w:World):(Rtype.elem? 110).run prog w=.ok (some 72) w:=by kernel_rfl
theorem mkE (p:Addr)(w:World):(ReflectliteValue.mk 72 p ReflectliteValue.flagAddr).run prog w=.ok (.agg #[.pointer (some ⟨10,72,none⟩),.pointer (some p),.int .u64 386]) w:=by kernel_rfl
theorem elemVP (a p:Addr)(W:World)(ha:W.cell? a=some (.pointer (some p))):
 (ReflectliteValue.method (ReflectliteValue.valueError "reflectlite.Value.Elem" 0) ReflectliteValue.elem #[.agg #[.pointer (some ⟨10, 110, none⟩), .pointer (some a), .int .u64 150]]).run prog W
  = .ok (.agg #[.pointer (some ⟨10,72,none⟩),.pointer (some p),.int .u64 386]) W:=by
 change Sem.run _ (ReflectliteValue.parts (.agg #[.pointer (some ⟨10,110,none⟩),.pointer (some a),.int .u64 150]) >>= _) _=_
 rw[Sem.run_bind,partsP];simp only[Result.andThen];simp[ReflectliteValue.elem,loadVar,isAgg,underlying,underlying110,ha,Result.andThen,elemOfP,mkE]
theorem partsEa (a:Addr)(w:World):(ReflectliteValue.parts (.agg #[.pointer (some ⟨10,72,none⟩),.pointer (some a),.int .u64 386])).run prog w=.ok (some (72,a,386)) w:=by kernel_rfl
theorem partsE (a:Addr)(w:World):(ReflectliteValue.parts (.agg #[.pointer (some ⟨10,72,none⟩),.pointer (some a),.int .u64 130])).run prog w=.ok (some (72,a,130)) w:=by kernel_rfl
theorem directE (w:World):(Rtype.directlyAssignable 72 72).run prog w=.ok true w:=by kernel_rfl
theorem setE (ta b:Addr)(n:Int)(old:Value)(W:World)(hb:W.cell? b=some (.int i64 n))(ht:W.cell? ta=some old)(hf:W.frozen? ta=false):
 (ReflectliteValue.set #[.agg #[.pointer (some ⟨10,72,none⟩),.pointer (some ta),.int .u64 386],.agg #[.pointer (some ⟨10,72,none⟩),.pointer (some b),.int .u64 130]]).run prog W
  = .ok (.tuple #[]) (W.setCell ta (.int i64 n)):=by
 change Sem.run _ (ReflectliteValue.parts (.agg #[.pointer (some ⟨10,72,none⟩),.pointer (some ta),.int .u64 386]) >>= _) _=_
 rw[Sem.run_bind,partsEa];simp only[Result.andThen]
 change Sem.run _ (ReflectliteValue.parts (.agg #[.pointer (some ⟨10,72,none⟩),.pointer (some b),.int .u64 130]) >>= _) _=_
 rw[Sem.run_bind,partsE];simp only[Result.andThen];simp[ReflectliteValue.flagAddr,loadVar,isAgg,underlying,underlying72,hb,Result.andThen,directE,storeVar,Value.cells,storeCells,Addr.add];rw[run_store prog W ta _ _ (by rfl)];simp[ht,hf]
theorem as_hit (n:Int)(t:Addr)(old:Value)(w:World)(hg:HasErr w)(ht0:w.cell? t=some old)(hf0:w.frozen? t=false):
 Calls prog 49 #[.iface 72 (.int i64 n),.iface 110 (.pointer (some t))] w fun ev w'=>ev=.returned (.bool true)∧w'=((((w.alloc (.cells #[.pointer (some t)] 110)).alloc (.cells #[.pointer (some ⟨10,110,none⟩),.pointer (some ⟨w.heap.size,0,none⟩),.int .u64 150] 138)).alloc (.cells #[.pointer (some ⟨10,110,none⟩),.pointer (some ⟨w.heap.size,0,none⟩),.int .u64 150] 138)).alloc (.cells #[.int i64 n] 72)).setCell t (.int i64 n):=by
 unfold HasErr at hg;have h6 := @run_callFunc_extern prog 79 _ (fun args=>ReflectliteValue.unpack (args.getD 0 (.tuple #[]))) func79 (by kernel_rfl) (by kernel_rfl) (by kernel_rfl) (by kernel_rfl);have h7 := @run_callFunc_extern prog 80 _ (ReflectliteValue.methodAny (ReflectliteValue.valueError "reflectlite.Value.Type" 0) (fun t _ _ _ => ReflectliteType.toType t)) func80 (by kernel_rfl) (by kernel_rfl) (by kernel_rfl) (by kernel_rfl)
 have h8 := @run_callFunc_extern prog 81 _ (ReflectliteValue.method (ReflectliteValue.valueError "reflectlite.Value.IsNil" 0) ReflectliteValue.isNil) func81 (by kernel_rfl) (by kernel_rfl) (by kernel_rfl) (by kernel_rfl)
 have h27 := @run_callFunc_extern prog 168 _ (ReflectliteType.abiMethod fun t=>do pure (.int .u8 (←Rtype.kind t))) func168 (by kernel_rfl) (by kernel_rfl) (by kernel_rfl) (by kernel_rfl);have h37 := @run_callFunc_extern prog 179 _ (ReflectliteType.method ReflectliteType.elem) func179 (by kernel_rfl) (by kernel_rfl) (by kernel_rfl) (by kernel_rfl);have h38 := @run_callFunc_extern prog 180 _ (ReflectliteType.relation "Implements" ReflectliteType.implements_) func180 (by kernel_rfl) (by kernel_rfl) (by kernel_rfl) (by kernel_rfl)
 have h10 := @run_callFunc_extern prog 106 _ ReflectliteType.typeOf func106 (by kernel_rfl) (by kernel_rfl) (by kernel_rfl) (by kernel_rfl);have h35 := @run_callFunc_extern prog 177 _ (ReflectliteType.relation "AssignableTo" ReflectliteType.assignableTo) func177 (by kernel_rfl) (by kernel_rfl) (by kernel_rfl) (by kernel_rfl)
 have h11 := @run_callFunc_extern prog 107 _ (ReflectliteValue.method (ReflectliteValue.valueError "reflectlite.Value.Elem" 0) ReflectliteValue.elem) func107 (by kernel_rfl) (by kernel_rfl) (by kernel_rfl) (by kernel_rfl)
 have h12 := @run_callFunc_extern prog 108 _ ReflectliteValue.set func108 (by kernel_rfl) (by kernel_rfl) (by kernel_rfl) (by kernel_rfl);have tO:=typeOfE;have mA:=methAssign;have a25:=assignE;have v25:=vOfE;have f6:=vOfP;have f7:=typeP;have mK:=methKind;have mE:=methElem;have mI:=methImpl;have k27:=kindP;have k25:=kindE;have e27:=elemP;have i25:=implE;have hlt:1<w.heap.size:=bLQ _ _ hg;have htl:t.block<w.heap.size:=bLQ _ _ ht0;have n8:=isNilP ⟨w.heap.size,0,none⟩ t ((w.alloc (.cells #[.pointer (some t)] 110)).alloc (.cells #[.pointer (some ⟨10,110,none⟩),.pointer (some ⟨w.heap.size,0,none⟩),.int .u64 150] 138)) (by simp);have hg2:((w.alloc (.cells #[.pointer (some t)] 110)).alloc (.cells #[.pointer (some ⟨10,110,none⟩),.pointer (some ⟨w.heap.size,0,none⟩),.int .u64 150] 138)).cell? ⟨1,0,none⟩=some (.iface 172 (.agg #[.pointer (some ⟨10,34,none⟩)])):=by
  rw[World.cell?_alloc_lt _ _ ⟨1,0,none⟩ (by simp <;> omega),World.cell?_alloc_lt _ _ ⟨1,0,none⟩ hlt];exact hg
 have el:=elemVP ⟨w.heap.size,0,none⟩ t (((w.alloc (.cells #[.pointer (some t)] 110)).alloc (.cells #[.pointer (some ⟨10,110,none⟩),.pointer (some ⟨w.heap.size,0,none⟩),.int .u64 150] 138)).alloc (.cells #[.pointer (some ⟨10,110,none⟩),.pointer (some ⟨w.heap.size,0,none⟩),.int .u64 150] 138)) (by rw[World.cell?_alloc_lt _ _ ⟨w.heap.size,0,none⟩ (by simp;omega)];simp);have st:=setE t ⟨w.heap.size+1+1+1,0,none⟩ n old ((((w.alloc (.cells #[.pointer (some t)] 110)).alloc (.cells #[.pointer (some ⟨10,110,none⟩),.pointer (some ⟨w.heap.size,0,none⟩),.int .u64 150] 138)).alloc (.cells #[.pointer (some ⟨10,110,none⟩),.pointer (some ⟨w.heap.size,0,none⟩),.int .u64 150] 138)).alloc (.cells #[.int i64 n] 72))
  (by rw[World.cell?_alloc_at _ _ _ _ (by simp)];rfl)
  (by rw[World.cell?_alloc_lt _ _ t (by simp;omega),World.cell?_alloc_lt _ _ t (by simp;omega),World.cell?_alloc_lt _ _ t (by simp;omega),World.cell?_alloc_lt _ _ t htl];exact ht0)
  (by rw[World.frozen?_alloc_old _ _ t (by simp;omega),World.frozen?_alloc_old _ _ t (by simp;omega),World.frozen?_alloc_old _ _ t (by simp;omega),World.frozen?_alloc_old _ _ t (Nat.ne_of_lt htl)];exact hf0)
 go_enter func49,ntmps49;go_wp2;refine wp_loop_rounds 1 ?_;rw[rounds_succ];go_wp2;go_ret;exact⟨rfl,rfl⟩
theorem told_nil (w:World):
 Calls prog 26 #[.nilIface] w fun e w'=>e=.returned (.int i64 0)∧Below w.heap.size w w':=by
 go_enter func26,ntmps26;go_wp2;go_ret;exact⟨rfl,bRQ _ _⟩
theorem told_some (n:Int)(w:World)(hg:HasErr w):
 Calls prog 26 #[.iface 72 (.int i64 n)] w fun e w'=>e=.returned (.int i64 n)∧Below w.heap.size w w':=by
 have HG:Hid (HasErr w):=hg;clear hg;go_enter func26,ntmps26
 go_wp2_with fail
 refine (as_hit n _ (.int i64 0) _ (HG.out.alloc _) (by simp) (by simp)).mono ?_;rintro e w' ⟨rfl,rfl⟩;go_wp2;go_ret;refine⟨rfl,?_⟩;exact ((((((bRQ _ _).alloc (nLQ _) _).alloc (by simp) _).alloc (by simp;omega) _).alloc (by simp;omega) _).alloc (by simp;omega) _)
theorem same_nil (k:Int)(w:World):
 Calls prog 8 #[.nilIface,.int i64 k] w fun e w'=>e=.returned (.bool (0==k))∧Below w.heap.size w w':=by
 go_enter func8,ntmps8
 go_wp2_with fail
 refine (told_nil _).mono ?_;rintro e w' ⟨rfl,hb⟩;go_wp2;go_ret;exact⟨rfl,hb⟩
theorem same_some (n k:Int)(w:World)(hg:HasErr w):
 Calls prog 8 #[.iface 72 (.int i64 n),.int i64 k] w fun e w'=>e=.returned (.bool (n==k))∧Below w.heap.size w w':=by
 have HG:Hid (HasErr w):=hg;clear hg;go_enter func8,ntmps8
 go_wp2_with fail
 refine (told_some n _ HG.out).mono ?_;rintro e w' ⟨rfl,hb⟩;go_wp2;go_ret;exact⟨rfl,hb⟩
end
section
open Go.RowKit
theorem same_noV (n:Int)(w:World)(hg:HasErr w):
 Calls prog 8 #[noV n,.int i64 n] w fun e w'=>e=.returned (.bool true)∧Below w.heap.size w w':=by
 by_cases h:n=0
 ·subst h;refine (same_nil _ w).mono ?_;rintro e w' ⟨rfl,hb⟩;exact⟨by simp,hb⟩
 rw[no_ne h];refine (same_some _ _ w hg).mono ?_;rintro e w' ⟨rfl,hb⟩;exact⟨by simp,hb⟩
end
namespace textTells
open Go.RowKit
theorem by_refl (a:ByteArray):(a==a)=true:=by rw[←beq_turn];simp
theorem wis_refl (l:List Wi):smG wisB l l=true:=smG_iff.2 ⟨rfl,fun i h1 h2=>by unfold wisB;simp[by_refl]⟩
theorem walk (S:Int)(ao:AdQ)(n cap:Nat)(ao2:AdQ)(n2 cap2:Nat)(ao3:AdQ)(n3 cap3:Nat)(a4:AdQ)(n4 c4:Nat)(s:ByteArray)(Ls:LkQ)(Hs:HoQ)(Ts:TsQ)(ws:List Wi)(w:World)
 (hL:GS lnkE w (.slice ao n cap) Ls) (hH:GS hstE w (.slice ao2 n2 cap2) Hs) (hT:TS w (.slice ao3 n3 cap3) Ts) (hW:GS wisE w (.slice a4 n4 c4) ws) (hwd:HasWords w) (hnm:HasNum w) (hg:HasErr w):
 Calls prog 3 #[.agg #[.int i64 S,.slice ao n cap,.slice ao2 n2 cap2,.slice ao3 n3 cap3],.slice a4 n4 c4,.string s] w fun e w'=>e=.returned (.bool true)∧Below w.heap.size w w':=by
 obtain⟨w0,hw0⟩:∃W,W=w.alloc (.cells #[.int i64 S,.slice ao n cap,.slice ao2 n2 cap2,.slice ao3 n3 cap3] 28):=⟨_,rfl⟩;have hb0:Below w.heap.size w w0:=by rw[hw0];exact (bRQ _ _).alloc (nLQ _) _
 have hnb:NeBox w0 w.heap.size S (.slice ao n cap) (.slice ao2 n2 cap2) (.slice ao3 n3 cap3):=by rw[hw0];exact nebox_new w S (.slice ao n cap) (.slice ao2 n2 cap2) (.slice ao3 n3 cap3) 28
 have HB0:Hid (Below w.heap.size w w0):=hb0;have HW0:Hid (w.alloc (.cells #[.int i64 S,.slice ao n cap,.slice ao2 n2 cap2,.slice ao3 n3 cap3] 28)=w0):=hw0.symm;have HNB:Hid (∀W,Below w0.heap.size w0 W→NeBox W w.heap.size S (.slice ao n cap) (.slice ao2 n2 cap2) (.slice ao3 n3 cap3)):=fun W h=>hnb.later h
 have HG:Hid (∀W,Below w0.heap.size w0 W→(GS lnkE W (.slice ao n cap) Ls∧GS hstE W (.slice ao2 n2 cap2) Hs∧TS W (.slice ao3 n3 cap3) Ts∧GS wisE W (.slice a4 n4 c4) ws)∧(HasWords W∧HasNum W∧HasErr W)∧Below w.heap.size w W):=fun W h=>by
  have hb:Below w.heap.size w W:=hb0.trans (h.mono hb0.size);exact⟨⟨hL.later hb,hH.later hb,hT.later hb,hW.later hb⟩,⟨hwd.later hb,hnm.later hb,hg.later hb⟩,hb⟩
 obtain⟨C,hC⟩:∃C,C=ntN S Ls Hs Ts:=⟨_,rfl⟩;obtain⟨X,hX⟩:∃X,X=nwsN S Ls Hs Ts ws:=⟨_,rfl⟩;obtain⟨P,hP⟩:∃P,P=ptS S Ls Hs Ts ws:=⟨_,rfl⟩;have HCX:Hid (ntN S Ls Hs Ts=C∧nwsN S Ls Hs Ts ws=X∧ptS S Ls Hs Ts ws=P):=⟨hC.symm,hX.symm,hP.symm⟩;have HXC:Hid ((C=0→wsN S Ls Hs ws=X)∧(C≠0→C=X)):=by
  rw[hC,hX];unfold nwsN;refine⟨fun h=>by rw[if_pos h],fun h=>by rw[if_neg h]⟩
 have HPX:Hid ((X=0→textT S Ls Hs Ts ws=P∧ntN S Ls Hs Ts=0∧wsN S Ls Hs ws=0)∧(X≠0→P=⟨#[]⟩)):=by
  refine⟨fun h=>?_,fun h=>?_⟩
  ·rw[hX] at h;obtain⟨h1,h2⟩:=nw_0 h;exact⟨by rw[hP,ptS,if_pos h],h1,h2⟩
  rw[hX] at h;rw[hP,ptS,if_neg h];rfl
 obtain⟨K,hK⟩:∃k:Int,k=(rtK s:Int):=⟨_,rfl⟩;obtain⟨N9,hN9⟩:∃k,k=rtN s:=⟨_,rfl⟩;obtain⟨rx,hrx⟩:∃r,r=rxE s:=⟨_,rfl⟩;have HRX:Hid ((rtK s:Int)=K∧rtN s=N9∧rxE s=rx):=⟨hK.symm,hN9.symm,hrx.symm⟩;obtain⟨S9,L9,H9,T9,w9,p9⟩:=rx;clear hL hH hT hW hwd hnm hg hb0 hw0 hC hX hP hK hN9 hrx;go_enter func3,ntmps3;go_upto_region 1 with fail;rw[HW0.out];obtain⟨q0,q1,q2,q3⟩:=hnb
 go_wp2_with fail
 refine (rnet_any S ao n cap ao2 n2 cap2 ao3 n3 cap3 Ls Hs Ts w0 (HG.out w0 (bRQ _ _)).1.1 (HG.out w0 (bRQ _ _)).1.2.1 (HG.out w0 (bRQ _ _)).1.2.2.1).mono ?_;rintro e w1 ⟨rfl,hb1⟩;rw[HCX.out.1];have HB1:Hid (Below w0.heap.size w0 w1):=hb1;clear hb1 q0 q1 q2 q3;obtain⟨q0,q1,q2,q3⟩:=HNB.out w1 HB1.out
 go_upto_if 24 with fail
 go_cut [7] from 24 (fun v w'=>v=.int i64 X∧Below w0.heap.size w0 w')
 case first =>
  by_cases hC:C=0
  ·have HX0:Hid (wsN S Ls Hs ws=X):=HXC.out.1 hC;subst hC
   go_wp2_with fail
   refine (rwishes_any S ao n cap ao2 n2 cap2 a4 n4 c4 Ls Hs ws w1 (HG.out w1 HB1.out).1.1 (HG.out w1 HB1.out).1.2.1 (HG.out w1 HB1.out).1.2.2.2).mono ?_;rintro e w2 ⟨rfl,hb2⟩;rw[HX0.out];have HB2:Hid (Below w0.heap.size w0 w2):=HB1.out.trans (hb2.mono HB1.out.size);clear hb2 q0 q1 q2 q3
   go_wp2_with fail
   go_meet
   exact⟨rfl,HB2.out⟩
  have hC2:(C==0)=false:=by simpa using hC
  have HX0:Hid (C=X):=HXC.out.2 hC
  go_wp2_with fail
  go_meet
  exact⟨by rw[HX0.out],HB1.out⟩
 case rest =>
  obtain⟨rfl,hbc⟩:=hcut;obtain⟨w2,hw2⟩:∃V,V=wc:=⟨_,rfl⟩;subst hw2;have HB2:Hid (Below w0.heap.size w0 w2):=hbc;clear hbc q0 q1 q2 q3;obtain⟨q0,q1,q2,q3⟩:=HNB.out w2 HB2.out
  go_upto_if 30 with fail
  go_cut [8] from 30 (fun v w'=>v=.string P∧Below w0.heap.size w0 w')
  case first =>
   by_cases hX:X=0
   ·have HP0:Hid (textT S Ls Hs Ts ws=P∧ntN S Ls Hs Ts=0∧wsN S Ls Hs ws=0):=HPX.out.1 hX;subst hX
    go_wp2_with fail
    refine (rtext_any S ao n cap ao2 n2 cap2 ao3 n3 cap3 a4 n4 c4 Ls Hs Ts ws w2 (HG.out w2 HB2.out).1.1 (HG.out w2 HB2.out).1.2.1 (HG.out w2 HB2.out).1.2.2.1 (HG.out w2 HB2.out).1.2.2.2 HP0.out.2.1 HP0.out.2.2).mono ?_;rintro e w3 ⟨rfl,hb3⟩;rw[HP0.out.1];have HB3:Hid (Below w0.heap.size w0 w3):=HB2.out.trans (hb3.mono HB2.out.size);clear hb3 q0 q1 q2 q3
    go_wp2_with fail
    go_meet
    exact⟨rfl,HB3.out⟩
   have hX2:(X==0)=false:=by simpa using hX
   have HP0:Hid (P=⟨#[]⟩):=HPX.out.2 hX
   go_wp2_with fail
   go_meet
   exact⟨by rw[HP0.out],HB2.out⟩
  case rest =>
   obtain⟨rfl,hbc⟩:=hcut;obtain⟨w3,hw3⟩:∃V,V=wc:=⟨_,rfl⟩;subst hw3;have HB3:Hid (Below w0.heap.size w0 w3):=hbc;clear hbc q0 q1 q2 q3;obtain⟨q0,q1,q2,q3⟩:=HNB.out w3 HB3.out
   go_wp2_with fail
   refine (tprint_any S ao n cap ao2 n2 cap2 ao3 n3 cap3 a4 n4 c4 Ls Hs Ts ws w3 (HG.out w3 HB3.out).1.1 (HG.out w3 HB3.out).1.2.1 (HG.out w3 HB3.out).1.2.2.1 (HG.out w3 HB3.out).1.2.2.2 (HG.out w3 HB3.out).2.1.1).mono ?_;rintro e w4 ⟨rfl,hb4⟩;rw[HCX.out.2.1,HCX.out.2.2];have HB4:Hid (Below w0.heap.size w0 w4):=HB3.out.trans (hb4.mono HB3.out.size);clear hb4 q0 q1 q2 q3
   go_wp2_with fail
   refine (same_noV X w4 (HG.out w4 HB4.out).2.1.2.2).mono ?_;rintro e w5 ⟨rfl,hb5⟩;have HB5:Hid (Below w0.heap.size w0 w5):=HB4.out.trans (hb5.mono HB4.out.size);clear hb5
   go_wp2_with fail
   refine (rreadN_any s w5).mono ?_;rintro e w6 ⟨x1,x2,x3,x4,rfl,e1,e2,e3,e4,hb6⟩;rw[HRX.out.2.2] at e1 e2 e3 e4;rw[HRX.out.1,HRX.out.2.1,HRX.out.2.2]
   dsimp only at e1 e2 e3 e4 ⊢
   have HB6:Hid (Below w0.heap.size w0 w6):=HB5.out.trans (hb6.mono HB5.out.size);obtain⟨b1,k1,d1,rfl,_⟩:=e1.form;obtain⟨b2,k2,d2,rfl,_⟩:=e2.form;obtain⟨b3,k3,d3,rfl,_⟩:=e3.form;obtain⟨b4,k4,d4,rfl,_⟩:=e4.form;obtain⟨w7,hw7⟩:∃W,W=w6.alloc (.cells #[.int i64 S9,.slice b1 k1 d1,.slice b2 k2 d2,.slice b3 k3 d3] 28):=⟨_,rfl⟩;have hb7:Below w6.heap.size w6 w7:=by rw[hw7];exact (bRQ _ _).alloc (nLQ _) _
   have hn7:NeBox w7 w6.heap.size S9 (.slice b1 k1 d1) (.slice b2 k2 d2) (.slice b3 k3 d3):=by rw[hw7];exact nebox_new w6 S9 (.slice b1 k1 d1) (.slice b2 k2 d2) (.slice b3 k3 d3) 28
   have HE7:Hid (∀W,Below w7.heap.size w7 W→NeBox W w6.heap.size S9 (.slice b1 k1 d1) (.slice b2 k2 d2) (.slice b3 k3 d3)∧GS lnkE W (.slice b1 k1 d1) L9∧GS hstE W (.slice b2 k2 d2) H9∧TS W (.slice b3 k3 d3) T9∧GS wisE W (.slice b4 k4 d4) w9):=fun W h=>⟨hn7.later h,(e1.later hb7).later h,(e2.later hb7).later h,(e3.later hb7).later h,(e4.later hb7).later h⟩
   have HB7:Hid (Below w0.heap.size w0 w7):=HB6.out.trans (hb7.mono HB6.out.size);have HW7:Hid (w6.alloc (.cells #[.int i64 S9,.slice b1 k1 d1,.slice b2 k2 d2,.slice b3 k3 d3] 28)=w7):=hw7.symm;clear e1 e2 e3 e4 hb6 hb7 hn7 hw7;go_upto_region 10 with fail;rw[HW7.out]
   go_wp2_with fail
   refine (tparse_any s w7 (HG.out w7 HB7.out).2.1.1 (HG.out w7 HB7.out).2.1.2.1).mono ?_;rintro e w8 ⟨x1,x2,x3,x4,rfl,e1,e2,e3,e4,hb8⟩;rw[HRX.out.2.2] at e1 e2 e3 e4;rw[HRX.out.1,HRX.out.2.1,HRX.out.2.2]
   dsimp only at e1 e2 e3 e4 ⊢
   have HB8:Hid (Below w7.heap.size w7 w8):=hb8;obtain⟨f1,l1,h1,rfl,_⟩:=e1.form;obtain⟨f2,l2,h2,rfl,_⟩:=e2.form;obtain⟨f3,l3,h3,rfl,_⟩:=e3.form;obtain⟨f4,l4,h4,rfl,_⟩:=e4.form;obtain⟨w10,hw10⟩:∃W,W=w8.alloc (.cells #[.int i64 S9,.slice f1 l1 h1,.slice f2 l2 h2,.slice f3 l3 h3] 28):=⟨_,rfl⟩;have hb10:Below w8.heap.size w8 w10:=by rw[hw10];exact (bRQ _ _).alloc (nLQ _) _
   have hn10:NeBox w10 w8.heap.size S9 (.slice f1 l1 h1) (.slice f2 l2 h2) (.slice f3 l3 h3):=by rw[hw10];exact nebox_new w8 S9 (.slice f1 l1 h1) (.slice f2 l2 h2) (.slice f3 l3 h3) 28
   have HE10:Hid (∀W,Below w10.heap.size w10 W→NeBox W w8.heap.size S9 (.slice f1 l1 h1) (.slice f2 l2 h2) (.slice f3 l3 h3)∧GS lnkE W (.slice f1 l1 h1) L9∧GS hstE W (.slice f2 l2 h2) H9∧TS W (.slice f3 l3 h3) T9∧GS wisE W (.slice f4 l4 h4) w9):=fun W h=>⟨hn10.later h,(e1.later hb10).later h,(e2.later hb10).later h,(e3.later hb10).later h,(e4.later hb10).later h⟩
   have HB10:Hid (Below w7.heap.size w7 w10):=HB8.out.trans (hb10.mono HB8.out.size);have HW10:Hid (w8.alloc (.cells #[.int i64 S9,.slice f1 l1 h1,.slice f2 l2 h2,.slice f3 l3 h3] 28)=w10):=hw10.symm;have HF:Hid (∀W,Below w10.heap.size w10 W→Below w7.heap.size w7 W∧Below w0.heap.size w0 W):=fun W h=>by
    have h1:=HB10.out.trans (h.mono HB10.out.size);exact⟨h1,HB7.out.trans (h1.mono HB7.out.size)⟩
   clear e1 e2 e3 e4 hb8 hb10 hn10 hw10;go_upto_region 11 with fail;rw[HW10.out]
   go_wp2_with fail
   refine (same_noV N9 w10 (HG.out w10 (HF.out _ (bRQ _ _)).2).2.1.2.2).mono ?_;rintro e w11 ⟨rfl,hb11⟩;have HB11:Hid (Below w10.heap.size w10 w11):=hb11;clear hb11;obtain⟨p0,p1,p2,p3⟩:=(HE10.out w11 HB11.out).1;obtain⟨q0,q1,q2,q3⟩:=(HE7.out w11 (HF.out _ HB11.out).1).1
   go_wp2_with fail
   refine (smNet_any S9 f1 l1 h1 f2 l2 h2 f3 l3 h3 b1 k1 d1 b2 k2 d2 b3 k3 d3 L9 H9 T9 w11 (HE10.out w11 HB11.out).2.1 (HE10.out w11 HB11.out).2.2.1 (HE10.out w11 HB11.out).2.2.2.1 (HE7.out w11 (HF.out _ HB11.out).1).2.1 (HE7.out w11 (HF.out _ HB11.out).1).2.2.1 (HE7.out w11 (HF.out _ HB11.out).1).2.2.2.1).mono ?_;rintro e w12 ⟨rfl,hb12⟩;have HB12:Hid (Below w10.heap.size w10 w12):=HB11.out.trans (hb12.mono HB11.out.size);clear hb12 p0 p1 p2 p3 q0 q1 q2 q3
   go_wp2_with fail
   refine (wis_same f4 l4 h4 b4 k4 d4 w9 w9 w12 (HE10.out w12 HB12.out).2.2.2.2 (HE7.out w12 (HF.out _ HB12.out).1).2.2.2.2).mono ?_;rintro e w13 ⟨rfl,hb13⟩;rw[wis_refl];have HBF:Hid (Below w.heap.size w w13):=(HG.out _ (HF.out _ (HB12.out.trans (hb13.mono HB12.out.size))).2).2.2;clear hb13;go_wp2;go_ret;exact⟨rfl,HBF.out⟩
end textTells
section
def cellsOfNums (k:IntKind)(l:List Nat):Array Value:=(l.map fun (n:Nat)=>Value.int k (n:Int)).toArray
def db32:List Nat:=[0,1,28,2,29,14,24,3,30,22,20,15,25,17,4,8,31,27,13,23,21,19,16,7,26,12,18,6,11,5,10,9]
def db64:List Nat:=[0,1,56,2,57,49,28,3,61,58,42,50,38,29,17,4,62,47,59,36,45,43,51,22,53,39,33,30,24,18,12,5,63,55,48,27,60,41,37,16,46,35,44,21,52,32,23,11,54,26,40,15,34,20,31,10,25,14,19,9,13,8,7,6]
def pow10:List Nat:=(List.range 20).map fun (n:Nat)=>10 ^ n
def accepts:List Nat:=[128,191,160,191,128,159,144,191,128,143]++List.replicate 22 0
def lay (cs:Array Value):Obj→Obj
 | .cells _ t frozen=>.cells cs t frozen
 | o=>o
def layTables (h:Array Obj):Array Obj:=
 ((((h.modify 4 (lay (cellsOfNums .u8 db32))).modify 5 (lay (cellsOfNums .u8 db64))).modify 2 (lay (cellsOfNums .u64 pow10))).modify 9 (lay (cellsOfNums .u8 accepts))).modify 8 (lay (cellsOfNums .u8 Go.Pinned.utf8FirstZ))
end
namespace textTells
open Go.ChangeShapes Go.WideShapes Go.ChangeAt Go.RowKit
theorem own:ownKnob Tryz.prog.godebug=none:=by kernel_rfl
theorem laidOut:laidOutB prog=true:=by kernel_rfl
theorem et : Tryz.prog.globalNamed "errors.errorType" = some 1 := by kernel_rfl
theorem oneRow:((List.range 260).filter fun t=>Tryz.prog.rowNamed t [101,114,114,111,114])=[34]:=by kernel_rfl
theorem tsize:Tryz.prog.types.size=260:=by kernel_rfl
theorem handle_of_laid {W:World}(h:laidMetH prog Rows.textTellsRow.laid W):HasErr W:=by
 have h' : laidMet prog (Rows.textTellsRow.laid.filter fun x => x.2.handleName?.isNone) W ∧ handlesMet prog [("errors.errorType", Rows.laid_errors_errorType)] W := h
 obtain⟨name,u,ty,e1,e2,e3,e4,e5⟩:=h'.2 _ (List.mem_singleton.2 rfl);have en:name=[101,114,114,111,114]:=(Option.some.inj e1).symm;subst en;have hu:some u=some 172:=e2.symm.trans (by kernel_rfl);obtain rfl:=Option.some.inj hu;have hm:ty∈(List.range 260).filter fun t=>Tryz.prog.rowNamed t [101,114,114,111,114]:=List.mem_filter.2 ⟨List.mem_range.2 (by rw[←tsize];exact e3),e4⟩
 rw[oneRow] at hm;obtain rfl:=List.mem_singleton.1 hm;have hh:typeHandle prog 34=.pointer (some ⟨10,34,none⟩):=by kernel_rfl
 rw[hh] at e5;unfold HasErr;simpa using World.var?_cell et e5 0
theorem gSyn : Tryz.prog.globalNamed "strconv.ErrSyntax" = some 6 := by kernel_rfl
theorem gRan : Tryz.prog.globalNamed "strconv.ErrRange" = some 7 := by kernel_rfl
theorem gWor : Tryz.prog.globalNamed "railpoint/wish.words" = some 0 := by kernel_rfl
theorem tSyn:(Tryz.prog.globals[6]?).map (·.type)=some 34:=by kernel_rfl
theorem tRan:(Tryz.prog.globals[7]?).map (·.type)=some 34:=by kernel_rfl
theorem tWor:(Tryz.prog.globals[0]?).map (·.type)=some 100:=by kernel_rfl
theorem err_cell {W:World}{n:String}{g:Nat}{cs:Array Value}{fuel:Nat}{nm:String}{d:DataW Unit}{p:List MemPlace}(hg:Tryz.prog.globalNamed n=some g)(hv:W.var? prog n=some cs)
 (h:DataW.trod (fun _=>()) prog W 0 (fun _=>true) false fuel 34 cs.toList=some (.iface nm d,p)):∃ev,W.cell? ⟨g,0,none⟩=some ev∧(ev=.nilIface∨∃te pe,ev=.iface te pe):=by
 obtain⟨_,u,v,e,_,_⟩:=iface_of_trod underlying34 h;obtain⟨l⟩:=cs;simp only at e;subst e;exact⟨.iface u v,by simpa using World.var?_cell hg hv 0,.inr ⟨u,v,rfl⟩⟩
theorem str_cell {W:World}{fuel:Nat}{c:Value}{l:List UInt8}{b:ByteArray}{x:DataW Unit×List MemPlace}(hb:b.data.toList=l)(hx:x.1=.lit (.string l))
 (h:DataW.trod (fun _=>()) prog W 0 (fun _=>true) false fuel 9 [c]=some x):c=.string b:=by
 obtain⟨s,e1,e2,_⟩:=DataW.trod_string underlying9 h;have e3:c=.string s:=by simpa using e1
 rw[e2] at hx;have e4:s.data.toList=l:=by simpa using hx
 rw[e3,wa_ext (e4.trans hb.symm)]
theorem words_cells {W : World}{cs : Array Value}{fuel : Nat}{p : List MemPlace}(hv : W.var? prog "railpoint/wish.words" = some cs)
 (h:DataW.trod (fun _=>()) prog W 0 (fun _=>true) false fuel 100 cs.toList=some (Rows.laid_railpoint_wish_words,p)):HasWords W:=by
 have hC:Tryz.prog.cellsOf 100=5:=by kernel_rfl
 have hS:Tryz.prog.cellsOf 9=1:=by kernel_rfl
 obtain⟨xs,m,_,hx,hl,hn,hi⟩:=DataW.trod_array (n:=5) (e:=9) (by kernel_rfl) h;obtain⟨l⟩:=cs;simp only at hl hi;rw[hC] at hl
 match l,hl with
 | [c0,c1,c2,c3,c4],_ =>
   match xs,hn with
   | [y0,y1,y2,y3,y4],_ =>
     have hx2:([y0.1,y1.1,y2.1,y3.1,y4.1]:List (DataW Unit))=[.lit (.string []),.lit (.string [114,101,97,99,104]),.lit (.string [97,112,97,114,116]),.lit (.string [119,97,121]),.lit (.string [108,111,111,112,115])]:=by
      have:=congrArg Prod.fst hx;simp only[Rows.laid_railpoint_wish_words] at this;have h3:=DataW.agg.inj this;exact h3.symm
     simp only[List.cons.injEq,and_true] at hx2;obtain⟨e0,e1,e2,e3,e4⟩:=hx2;have g0:=hi 0 (by decide);have g1:=hi 1 (by decide);have g2:=hi 2 (by decide);have g3:=hi 3 (by decide);have g4:=hi 4 (by decide);simp[hS] at g0 g1 g2 g3 g4;have k0:=str_cell (b:=⟨#[]⟩) rfl e0 g0;have k1:=str_cell (b:=reaS) rfl e1 g1;have k2:=str_cell (b:=apaS) rfl e2 g2;have k3:=str_cell (b:=wayS) rfl e3 g3;have k4:=str_cell (b:=looS) rfl e4 g4;subst k0;subst k1;subst k2;subst k3;subst k4;exact⟨by simpa using World.var?_cell gWor hv 0,by simpa using World.var?_cell gWor hv 1,by simpa using World.var?_cell gWor hv 2,by simpa using World.var?_cell gWor hv 3,by simpa using World.var?_cell gWor hv 4⟩
theorem vars_of_laid {W:World}(h:laidMetH prog Rows.textTellsRow.laid W):HasWords W∧HasNum W:=by
 have h' : laidMet prog [("math/bits.deBruijn32tab", Rows.laid_math_bits_deBruijn32tab), ("math/bits.deBruijn64tab", Rows.laid_math_bits_deBruijn64tab), ("internal/strconv.uint64pow10", Rows.laid_internal_strconv_uint64pow10), ("unicode/utf8.acceptRanges", Rows.laid_unicode_utf8_acceptRanges), ("strconv.ErrRange", Rows.laid_strconv_ErrRange), ("strconv.ErrSyntax", Rows.laid_strconv_ErrSyntax), ("railpoint/wish.words", Rows.laid_railpoint_wish_words), ("unicode/utf8.first", Rows.laid_unicode_utf8_first)] W ∧ handlesMet prog [("errors.errorType", Rows.laid_errors_errorType)] W := h
 obtain⟨ps,hl,_,_⟩:=h'.1;obtain⟨_,_,_,_,_,_,_,_,_,_,hl,_⟩:=hl;obtain⟨_,_,_,_,_,_,_,_,_,_,hl,_⟩:=hl;obtain⟨_,_,_,_,_,_,_,_,_,_,hl,_⟩:=hl;obtain⟨_,_,_,_,_,_,_,_,_,_,hl,_⟩:=hl;obtain⟨g1,t1,c1,f1,p1,q1,hg1,ht1,hv1,hd1,hl,_⟩:=hl;obtain⟨g2,t2,c2,f2,p2,q2,hg2,ht2,hv2,hd2,hl,_⟩:=hl;obtain⟨g3,t3,c3,f3,p3,q3,hg3,ht3,hv3,hd3,hl,_⟩:=hl;obtain rfl:=Option.some.inj (gRan.symm.trans hg1);obtain rfl:=Option.some.inj (gSyn.symm.trans hg2);obtain rfl:=Option.some.inj (gWor.symm.trans hg3);obtain rfl:=Option.some.inj (tRan.symm.trans ht1);obtain rfl:=Option.some.inj (tSyn.symm.trans ht2);obtain rfl:=Option.some.inj (tWor.symm.trans ht3);exact⟨words_cells hv3 hd3,err_cell gSyn hv2 hd2,err_cell gRan hv1 hd1⟩
def ranS:ByteArray:=⟨#[118,97,108,117,101,32,111,117,116,32,111,102,32,114,97,110,103,101]⟩
def synS:ByteArray:=⟨#[105,110,118,97,108,105,100,32,115,121,110,116,97,120]⟩
def layAll (b:Nat)(h:Array Obj):Array Obj:=
 ((((layTables h).modify 1 (lay #[.iface 172 (.agg #[.pointer (some ⟨10,34,none⟩)])])).modify 0 (lay #[.string ⟨#[]⟩,.string reaS,.string apaS,.string wayS,.string looS])).modify 7 (lay #[.iface 226 (.pointer (some ⟨b,0,none⟩))])).modify 6 (lay #[.iface 226 (.pointer (some ⟨b+1,0,none⟩))])
def errBlocks:Array Obj:=#[.cells #[.string ranS] 228,.cells #[.string synS] 228]
def laidOn (b:Nat)(w:World):World:={ w with heap:=layAll b w.heap }
theorem laid_met (os:Os)(args:Array Value):laidMetH prog Rows.textTellsRow.laid ((laidOn (World.holding prog default ⟨#[],#[],[]⟩).heap.size (World.holding prog os ⟨errBlocks,#[],[]⟩)).forCall (fun _ _=>0) ⟨#[],args,[]⟩).memory:=
 laidMetH_of_parts (laidMet_of_run' 8 (by kernel_rfl) (by kernel_rfl)) (by kernel_rfl)
theorem lifted (os:Os)(started:os.Started)(H:Type)(enc:TypeId×Value→H):
 ReturnsInHanded {} Tryz.checked os 3 .any (fun w args=>(Rows.textTellsSpec.pre enc prog Tryz.f3 [] false w args∧laidMetH prog Rows.textTellsRow.laid w)∧sizedMet enc prog Tryz.f3 (OpenSpec.ofChange Rows.textTellsSpec) false w args)
  (Rows.textTellsSpec.post enc prog Tryz.f3 false true false false):=by
 refine returnsInHanded_of_change_and (C:=Tryz.checked) (X:=fun w _=>laidMetH prog Rows.textTellsRow.laid w) (fun _ _ _ hh h=>h.of_heap hh) own started (by kernel_rfl) func3
  (ChangeSpec.witness_at (enc:=enc) (C:=Tryz.checked) (os:=os) (X:=fun w _=>laidMetH prog Rows.textTellsRow.laid w) false
   (laidOn (World.holding prog default ⟨#[],#[],[]⟩).heap.size (World.holding prog os ⟨errBlocks,#[],[]⟩))
   #[.agg #[.int i64 0,.slice none 0 0,.slice none 0 0,.slice none 0 0],.slice none 0 0,.string ByteArray.empty] 8 rfl (by kernel_rfl) (by kernel_rfl) (by kernel_rfl) (by kernel_rfl) (by kernel_rfl) (laid_met os _)) ?_
 intro W base args ds gs before hval0 hW _ _ hLaid _;have hval:∀(j:Nat) t v,Tryz.f3.params[j]?=some t→args[j]?=some v→Value.okWide prog W .any base t v:=hval0;have hW':=hW;obtain⟨p,q,hA0,hV0,rfl,hfz,hnd⟩:=hW;have hA:DataW.TrodAll enc prog W 0 (fun _=>true) true Tryz.f3.params.toList args.toList ds p:=hA0;have hV:DataW.TrodVars enc prog W (fun _=>true) [] gs q:=hV0;rw[params3] at hA hval;obtain⟨v0,vs0,d0,ds0,p0,q0,hargs,rfl,rfl,h0,r0⟩:=trodAll_cons hA;obtain⟨v1,vs1,d1,ds1,p1,q1,rfl,rfl,rfl,h1,r1⟩:=trodAll_cons r0;obtain⟨v2,vs2,d2,ds2,p2,q2,rfl,rfl,rfl,h2,r2⟩:=trodAll_cons r1;obtain⟨rfl,rfl,rfl⟩:=trodAll_nil r2;obtain rfl:args=#[v0,v1,v2]:=by cases args;simp_all
 have hg:=handle_of_laid hLaid;obtain⟨hwd,hnm⟩:=vars_of_laid hLaid;obtain⟨rfl,rfl⟩:gs=[]∧q=[]:=by
  cases gs with
  | nil=>exact⟨rfl,hV⟩
  | cons g r=>exact absurd hV (by intro h;cases h)
 have k0:=h0;have lt0:∀x∈p0,x.block<W.heap.size:=by obtain⟨m,hm⟩:=k0;exact DataW.trod_lt m _ _ _ hm
 have k1:=h1;have lt1:∀x∈p1,x.block<W.heap.size:=by obtain⟨m,hm⟩:=k1;exact DataW.trod_lt m _ _ _ hm
 have k2:=h2;have lt2:∀x∈p2,x.block<W.heap.size:=by obtain⟨m,hm⟩:=k2;exact DataW.trod_lt m _ _ _ hm
 obtain⟨S,ao,n,cap,ao2,n2,cap2,ao3,n3,cap3,Ls,Hs,Ts,rfl,hL,hH,hT⟩:=net_of (hval 0 28 v0 rfl rfl) h0;obtain⟨l,hl⟩:=wiss_of (hval 1 29 v1 rfl rfl) h1;obtain⟨a4,n4,c4,rfl⟩:=okWide_slice underlying29 (hval 1 29 v1 rfl rfl);obtain⟨m,rfl⟩:=okWide_string underlying9 (hval 2 9 v2 rfl rfl);clear hA0 hval0;refine (walk S ao n cap ao2 n2 cap2 ao3 n3 cap3 a4 n4 c4 m Ls Hs Ts l W hL hH hT hl hwd hnm hg).mono fun e W' ⟨he,bel⟩=>?_
 subst he;exact⟨_,rfl,_,_,_,[],_,[],hW',trodAll_mk1 (shut_bool underlying4 _),(trodAll_cons_mk (Below.trod laidOut (by kernel_rfl) (of_decide_eq_true (by kernel_rfl)) k0 bel lt0) (trodAll_cons_mk (Below.trod laidOut (by kernel_rfl) (of_decide_eq_true (by kernel_rfl)) k1 bel lt1) (trodAll_cons_mk (Below.trod laidOut (by kernel_rfl) (of_decide_eq_true (by kernel_rfl)) k2 bel lt2) trodAll_mk0))),rfl,bel.frame _,fun h=>by cases h⟩
theorem over:Rows.TextTellsSaid:=
 OpenClaim.holds_of_wide 3 Tryz.f3 rfl rfl rfl rfl rfl rfl rfl ⟨rfl,rfl,rfl,rfl,rfl⟩ rfl rfl rfl rfl rfl (by kernel_rfl) func3 (by kernel_rfl)
  (of_decide_eq_true (by kernel_rfl)) (by unfold Func.isWrapper;first | (rw[if_pos (by decide +kernel)];kernel_rfl) | (rw[if_neg (by decide +kernel)];exact⟨rfl,rfl⟩))
  (fun os started H enc _=>lifted os started H enc)
end textTells
end Go.Proofs.YtgddlpcacnolfaaGreatDoor
