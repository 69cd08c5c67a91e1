/- Contracts and facts on the way to AgentOnce, joined into one text: ChangeApply, AsErr, AsErr2, SameNo, GenTake, CutAppend. -/
import Derived.Test.YtcbapfgohocghaaDoorAgentOnceP4
namespace Go.Proofs.YtcbapfgohocghaaDoor
set_option linter.unusedSimpArgs false
set_option linter.unusedVariables false
set_option maxHeartbeats 16000000
set_option maxRecDepth 100000
open Go.Proofs.Tryd
open IntKind (i64)
section
open Go.RowKit
structure LB (W:World)(B:Nat)(S:Int)(v1 v2 v3:Value)(O:Nat)(u1 u2 u3:Value)(Ls:LkQ)(Hs:HoQ)(vs:List SlT)(Ts:TsQ):Prop where
 ab:AB W B S v1 v2 v3
 o:NeBox W O S u1 u2 u3
 tr:TR 23 W 0 (B+2) u3 vs Ts
 ls:W.ownsRow (B+2) 117 4 u1 Ls.length (cellsG lnkE Ls)
 hs:W.ownsRow (B+2) 119 3 u2 Hs.length (cellsG hstE Hs)
 ro:u3.ownBlock≠some O
 bo:B+2≤O
theorem LB.later {W W':World}{B:Nat}{S:Int}{v1 v2 v3:Value}{O:Nat}{u1 u2 u3:Value}{Ls:LkQ}{Hs:HoQ}{vs:List SlT}{Ts:TsQ}(h:LB W B S v1 v2 v3 O u1 u2 u3 Ls Hs vs Ts)(hb:Below W.heap.size W W'):LB W' B S v1 v2 v3 O u1 u2 u3 Ls Hs vs Ts:=
 ⟨h.ab.later hb,h.o.later hb,h.tr.later hb,own_below h.ls hb,own_below h.hs hb,h.ro,h.bo⟩
theorem LB.put {W:World}{B:Nat}{S:Int}{v1 v2 v3:Value}{O:Nat}{u1 u2:Value}{g n cap i:Nat}{Ls:LkQ}{Hs:HoQ}{vs:List SlT}{Ts:TsQ}(h:LB W B S v1 v2 v3 O u1 u2 (.slice (some ⟨g,0,none⟩) n cap) Ls Hs vs Ts){x:SlT}{L:List Ru}(hx:SR W (slV x) L)(hox:offB x g)(hoz:∀b,b<B+2→offB x b):
 LB (W.setCell ⟨g,i,none⟩ (slV x)) B S v1 v2 v3 O u1 u2 (.slice (some ⟨g,0,none⟩) n cap) Ls Hs (vs.set i x) (Ts.set i L):=by
 have hg:=(h.tr.ov.lt g rfl).1;have hgs:=grown_set W g i (slV x);refine⟨h.ab.grown hgs (fun b hb=>by cases hb;exact hg),h.o.grown hgs (fun e=>h.ro e.symm),h.tr.put hx hox (fun b _ hb=>hoz b hb),h.ls.kept hgs ?_,h.hs.kept hgs ?_,h.ro,h.bo⟩
 ·exact own_apart h.ls h.tr.ov (by decide)
 exact own_apart h.hs h.tr.ov (by decide)
structure NA (W:World)(B:Nat)(v1 v2 v3:Value)(Ls:LkQ)(Hs:HoQ)(Ts:TsQ):Prop where
 l:W.ownsRow B 117 4 v1 Ls.length (cellsG lnkE Ls)
 h:W.ownsRow B 119 3 v2 Hs.length (cellsG hstE Hs)
 t:∃vs,TR 23 W 0 B v3 vs Ts
theorem NA.nil (W:World)(B:Nat):NA W B (.slice none 0 0) (.slice none 0 0) (.slice none 0 0) [] [] []:=⟨World.ownsRow_nil _ _ _ _,World.ownsRow_nil _ _ _ _,[],tr_nil _ _ _ _⟩
theorem NA.gs {W:World}{B:Nat}{v1 v2 v3:Value}{Ls:LkQ}{Hs:HoQ}{Ts:TsQ}(h:NA W B v1 v2 v3 Ls Hs Ts):GS lnkE W v1 Ls∧GS hstE W v2 Hs∧TS W v3 Ts:=by
 obtain⟨vs,ht⟩:=h.t;exact⟨own_GS (E:=lnkE) h.l,own_GS (E:=hstE) h.h,ht.ts⟩
theorem NA.put {W W':World}{B b:Nat}{v1 v2 v3:Value}{Ls:LkQ}{Hs:HoQ}{Ts:TsQ}(h:NA W B v1 v2 v3 Ls Hs Ts)(hg:W.grownBy W' (some b))(hb:b<B):NA W' B v1 v2 v3 Ls Hs Ts:=by
 obtain⟨vs,ht⟩:=h.t;exact⟨h.l.kept hg (.inr fun e=>by have:=(h.l.lt _ e).1;omega),h.h.kept hg (.inr fun e=>by have:=(h.h.lt _ e).1;omega),vs,ht.grown hg (Nat.zero_le _) hb⟩
theorem chApply_own (S:Int)(ao:AdQ)(n cap:Nat)(ao2:AdQ)(n2 cap2:Nat)(ao3:AdQ)(n3 cap3:Nat)(a4:AdQ)(n4 c4:Nat)(Ls:LkQ)(Hs:HoQ)(Ts:TsQ)(l:List Op8)(w:World)
 (hL:GS lnkE w (.slice ao n cap) Ls) (hH:GS hstE w (.slice ao2 n2 cap2) Hs) (hT:TS w (.slice ao3 n3 cap3) Ts) (hl:GS opE w (.slice a4 n4 c4) l):
 Calls prog 7 #[.agg #[.int i64 S,.slice ao n cap,.slice ao2 n2 cap2,.slice ao3 n3 cap3],.slice a4 n4 c4] w fun e w'=>∃b1 k1 d1 b2 k2 d2 b3 k3 d3,e=.returned (.tuple #[.agg #[.int i64 (nvS (cgN S Ls Hs Ts l) S),.slice b1 k1 d1,.slice b2 k2 d2,.slice b3 k3 d3],noV (cgN S Ls Hs Ts l)])∧NA w' w.heap.size (.slice b1 k1 d1) (.slice b2 k2 d2) (.slice b3 k3 d3) (nvL (cgN S Ls Hs Ts l) Ls) (nvL (cgN S Ls Hs Ts l) Hs) (nvL (cgN S Ls Hs Ts l) (caT Ts l))∧Below w.heap.size w w':=by
 have hb0:Below w.heap.size w ((w.alloc (.cells #[.int i64 S,.slice ao n cap,.slice ao2 n2 cap2,.slice ao3 n3 cap3] 37)).alloc (.cells #[.int i64 0,.slice none 0 0,.slice none 0 0,.slice none 0 0] 37)):=((bRQ _ _).alloc (nLQ _) _).alloc (by simp) _;have HAB0:=ab_new w S (.slice ao n cap) (.slice ao2 n2 cap2) (.slice ao3 n3 cap3) 37;have HB0:Hid (Below w.heap.size w ((w.alloc (.cells #[.int i64 S,.slice ao n cap,.slice ao2 n2 cap2,.slice ao3 n3 cap3] 37)).alloc (.cells #[.int i64 0,.slice none 0 0,.slice none 0 0,.slice none 0 0] 37))):=hb0;obtain⟨_,_,_,e,hn,hn2,hn3,ha⟩:=hl.form;cases e;have HN:Hid (l.length=n4):=hn;have HA:Hid (0<n4→∃g o,a4=some ⟨g,o,none⟩∧GAt opE w g o l∧c4≤maxLen):=ha;have HLW:Hid (∀W,Below w.heap.size w W→GS lnkE W (.slice ao n cap) Ls∧GS hstE W (.slice ao2 n2 cap2) Hs∧TS W (.slice ao3 n3 cap3) Ts):=fun W h=>⟨hL.later h,hH.later h,hT.later h⟩
 have n63:n4≤9223372036854775807:=by unfold maxLen at hn2;omega
 obtain⟨X,hX⟩:∃X,X=cgN S Ls Hs Ts l:=⟨_,rfl⟩;have HX:Hid (X=cgN S Ls Hs Ts l):=hX;rw[←hX];clear hL hH hT hl hn hn2 ha hb0 hX;go_enter func7,ntmps7
 go_wp2_with fail
 refine (ncheck_any S ao n cap ao2 n2 cap2 ao3 n3 cap3 Ls Hs Ts _ (HLW.out _ HB0.out).1 (HLW.out _ HB0.out).2.1 (HLW.out _ HB0.out).2.2).mono ?_;rintro e w1 ⟨rfl,hb1⟩;obtain⟨C,hC⟩:∃C,C=ntN S Ls Hs Ts:=⟨_,rfl⟩;have HC:Hid (C=ntN S Ls Hs Ts):=hC;rw[←hC];have HB1:Hid (Below w.heap.size w w1):=HB0.out.trans (hb1.mono HB0.out.size);have HAB1:Hid (AB w1 w.heap.size S (.slice ao n cap) (.slice ao2 n2 cap2) (.slice ao3 n3 cap3)):=HAB0.later hb1;clear hC hb1 HAB0 HB0;obtain⟨q0,q1,q2,q3⟩:=HAB1.out.r;obtain⟨p0,p1,p2,p3⟩:=HAB1.out.n;have hlt1:=HAB1.out.lt;have hlt0:w.heap.size<w1.heap.size:=by omega
 have f0:=HAB1.out.f 0;have f1:=HAB1.out.f 1;have f2:=HAB1.out.f 2;have f3:=HAB1.out.f 3;by_cases hC0:C=0
 ·subst hC0;rw[no_ok rfl];by_cases h200:200<n4
  ·have HX4:Hid (X=4):=by
    show _=_;rw[HX.out,cgN,if_pos HC.out.symm,if_pos (by rw[HN.out];exact h200)]
   have e4:decide ((200:Int)<(n4:Int))=true:=by simp;omega
   go_wp2;refine bodyPost_ret (v:=.tuple #[.agg #[.int i64 0,.slice none 0 0,.slice none 0 0,.slice none 0 0],.iface 73 (.int i64 4)]) (by simp[results,results7,go_sem, *]) rfl ?_;rw[HX4.out];exact⟨_,_,_,_,_,_,_,_,_,by rw[nvS,if_neg (by decide)];rfl,by rw[nvL,nvL,nvL,if_neg (by decide),if_neg (by decide),if_neg (by decide)];exact NA.nil _ _,below_pn4 HB1.out (w.heap.size+1) (by omega) _ _ _ _⟩
  have HXC:Hid (X=caN S Ts l):=by
   show _=_;rw[HX.out,cgN,if_pos HC.out.symm,if_neg (by rw[HN.out];exact h200)]
  have e4:decide ((200:Int)<(n4:Int))=false:=by simp;omega
  have HOK:Hid (tsOk Ts):=ok_ts (nt_0 HC.out.symm).2.2;have HSL:Hid ((Ts.length:Int)=S):=(nt_0 HC.out.symm).2.1;have hS6:1≤S∧S≤6:=(tp_0 (nt_0 HC.out.symm).1).1;clear h200
  go_wp2_with fail
  refine (fresh_any S ao n cap ao2 n2 cap2 ao3 n3 cap3 Ls Hs Ts w1 (HLW.out _ HB1.out).1 (HLW.out _ HB1.out).2.1 (HLW.out _ HB1.out).2.2 HC.out.symm).mono ?_;rintro e w2 ⟨b1,k1,d1,b2,k2,d2,b3,k3,d3,vs,rfl,ho1,ho2,hTR,hb2⟩;obtain⟨g,rfl,hk3⟩:∃g,b3=some ⟨g,0,none⟩∧k3=Ts.length:=by
   have hlv:=hTR.lv;have hts:=HSL.out
   rcases hTR.ov.2 with ⟨h,h0⟩ | ⟨g,cap',_,h,_⟩
   ·omega
   simp only[Value.slice.injEq] at h;exact⟨g,h.1,by omega⟩
  have HK3:Hid (k3=Ts.length):=hk3;have HKS:Hid ((k3:Int)=S):=by
   show _=_;rw[hk3];exact HSL.out
  have HO:Hid (w2.heap.size=w2.heap.size):=rfl;have hgl:=hTR.ov.lt g rfl;have HLB:Hid (LB (w2.alloc (.cells #[.int i64 S,.slice b1 k1 d1,.slice b2 k2 d2,.slice (some ⟨g,0,none⟩) k3 d3] 37)) w.heap.size S (.slice ao n cap) (.slice ao2 n2 cap2) (.slice ao3 n3 cap3) w2.heap.size (.slice b1 k1 d1) (.slice b2 k2 d2) (.slice (some ⟨g,0,none⟩) k3 d3) Ls Hs vs Ts):=by
   have hba:Below w2.heap.size w2 (w2.alloc (.cells #[.int i64 S,.slice b1 k1 d1,.slice b2 k2 d2,.slice (some ⟨g,0,none⟩) k3 d3] 37)):=(bRQ _ _).alloc (nLQ _) _;exact⟨(HAB1.out.later hb2).later hba,nebox_new w2 S _ _ _ 37,(hTR.mono hlt1).later hba,own_below (own_mono ho1 hlt1) hba,own_below (own_mono ho2 hlt1) hba,fun e=>by have e2:some g=some w2.heap.size:=e;simp at e2;omega,Nat.le_trans hlt1 hb2.size⟩
  have HBL:Hid (Below w.heap.size w (w2.alloc (.cells #[.int i64 S,.slice b1 k1 d1,.slice b2 k2 d2,.slice (some ⟨g,0,none⟩) k3 d3] 37))):=(HB1.out.trans (hb2.mono HB1.out.size)).alloc (Nat.le_trans HB1.out.size hb2.size) _;have hlt2:w.heap.size+1<w2.heap.size:=Nat.lt_of_lt_of_le hlt1 hb2.size;clear ho1 ho2 hTR hb2 hgl HB1 HAB1 q0 q1 q2 q3 p0 p1 p2 p3 f0 f1 f2 f3 hk3 hlt0 hlt1
  generalize hO:w2.heap.size=O at *
  go_wp2
  go_loopw [27] (fun i wr=>∃(k:Nat) (vs:List SlT),k≤n4∧i=.int i64 k∧caN S Ts (l.take k)=0∧LB wr w.heap.size S (.slice ao n cap) (.slice ao2 n2 cap2) (.slice ao3 n3 cap3) O (.slice b1 k1 d1) (.slice b2 k2 d2) (.slice (some ⟨g,0,none⟩) k3 d3) Ls Hs vs (caT Ts (l.take k))∧Below w.heap.size w wr) (fun i _=>n4-(intOf i).toNat)
  case atStart=>exact⟨0,vs,by omega,rfl,rfl,HLB.out,HBL.out⟩
  case round =>
   obtain⟨k,vs,hk,rfl,hca,hLB,hB⟩:=hrel;clear HLB HBL;have HB:Hid (Below w.heap.size w wr):=hB;have HCA:Hid (caN S Ts (l.take k)=0):=hca;obtain⟨Tk,hTk⟩:∃T,T=caT Ts (l.take k):=⟨_,rfl⟩;have HTK:Hid (Tk=caT Ts (l.take k)):=hTk;rw[←hTk] at hLB;have HLB:Hid (LB wr w.heap.size S (.slice ao n cap) (.slice ao2 n2 cap2) (.slice ao3 n3 cap3) O (.slice b1 k1 d1) (.slice b2 k2 d2) (.slice (some ⟨g,0,none⟩) k3 d3) Ls Hs vs Tk):=hLB;have HTkL:Hid (Tk.length=k3):=by
    show _=_;rw[hTk,ca_len,HK3.out]
   have HOKk:Hid (tsOk Tk):=by
    rw[hTk];exact ca_right HOK.out hca
   have hlt1:=hLB.ab.lt;have hlt0:w.heap.size<wr.heap.size:=by omega
   have hltO:O<wr.heap.size:=bLQ _ _ hLB.o.1;have hneO:O≠w.heap.size+1:=by have:=hLB.bo;omega
   obtain⟨o0,o1,o2,o3⟩:=hLB.o;obtain⟨q0,q1,q2,q3⟩:=hLB.ab.r;have f0:=hLB.ab.f 0;have f1:=hLB.ab.f 1;have f2:=hLB.ab.f 2;have f3:=hLB.ab.f 3;clear hca hTk hLB;by_cases hlt:k<n4
   ·obtain⟨gl,ol,hao,hc,_⟩:=HA.out (by omega);subst hao;obtain⟨y0,ya,p,m,b,q,s,v,hkl,hLk,r0,r1,r2,r3,r4,r5,r6,r7⟩:=op_at (hc.later hB) HN.out hlt;have HLK:Hid (l[k]=⟨y0,ya,⟨p,m,b,q,s,v⟩⟩):=hLk;have HCAT:Hid (caN S Ts l=caN S Tk (⟨y0,ya,⟨p,m,b,q,s,v⟩⟩ :: l.drop (k+1))):=by
     show _=_;rw[HTK.out,←hLk,ca_split hkl HCA.out]
    have kb0:(0:Int)≤(k:Int):=by omega
    have kb1:(k:Int)<(n4:Int):=by omega
    have HOB:=op_new wr y0 ya p m b q s v 43;have HBA:Hid (Below wr.heap.size wr (wr.alloc (.cells #[.int i64 y0,.bool ya,.int i64 p,.int i64 m,.int i64 b,.int i64 q,.int i64 s,.int i64 v] 43))):=(bRQ _ _).alloc (nLQ _) _;clear hLk hB hc
    go_wp2_with fail
    refine (isSwitch_any S y0 _).mono ?_;rintro e wx ⟨rfl,hbx⟩;have HBr:Hid (Below wr.heap.size wr wx):=HBA.out.trans (hbx.mono HBA.out.size);have HBX:Hid (Below w.heap.size w wx):=HB.out.trans (HBr.out.mono HB.out.size);have HLX:Hid (LB wx w.heap.size S (.slice ao n cap) (.slice ao2 n2 cap2) (.slice ao3 n3 cap3) O (.slice b1 k1 d1) (.slice b2 k2 d2) (.slice (some ⟨g,0,none⟩) k3 d3) Ls Hs vs Tk):=HLB.out.later HBr.out;have HOX:Hid (VAt wx wr.heap.size 0 (opE.c ⟨y0,ya,⟨p,m,b,q,s,v⟩⟩)):=HOB.later hbx;have hltw:wr.heap.size<wx.heap.size:=bLQ _ _ (op_cells HOX.out).1;clear hbx HBA HOB q0 q1 q2 q3 f0 f1 f2 f3 o0 o1 o2 o3 r0 r1 r2 r3 r4 r5 r6 r7 HLB HB hlt0 hlt1 hltO;have hlt1:=HLX.out.ab.lt;have hlt0:w.heap.size<wx.heap.size:=by omega
    have hltO:O<wx.heap.size:=bLQ _ _ HLX.out.o.1;obtain⟨o0,o1,o2,o3⟩:=HLX.out.o;obtain⟨q0,q1,q2,q3⟩:=HLX.out.ab.r;have f0:=HLX.out.ab.f 0;have f1:=HLX.out.ab.f 1;have f2:=HLX.out.ab.f 2;have f3:=HLX.out.ab.f 3;cases hsw:swB S y0
    ·have HX1:Hid (X=1):=by
      show _=_;rw[HXC.out,HCAT.out,caN,hsw];rfl
     go_wp2;refine bodyPost_ret (v:=.tuple #[.agg #[.int i64 0,.slice none 0 0,.slice none 0 0,.slice none 0 0],.iface 73 (.int i64 1)]) (by simp[results,results7,go_sem, *]) rfl ?_;rw[HX1.out];exact⟨_,_,_,_,_,_,_,_,_,by rw[nvS,if_neg (by decide)];rfl,by rw[nvL,nvL,nvL,if_neg (by decide),if_neg (by decide),if_neg (by decide)];exact NA.nil _ _,below_pn4 HBX.out (w.heap.size+1) (by omega) _ _ _ _⟩
    have hw:=sw_of.1 hsw;obtain⟨i,hi⟩:∃i:Nat,y0=(i:Int)+1:=⟨(y0-1).toNat,by omega⟩;have HI:Hid (y0=(i:Int)+1):=hi;have hiN:i<k3:=by have:=HKS.out;omega
    have iw:IntKind.i64.wrap (y0-1)=(i:Int):=by rw[IntKind.wrap_i64];omega
    have iw2:wrap64 (y0-1)=(i:Int):=by unfold wrap64;omega
    have ib0:(0:Int)≤(i:Int):=by omega
    have ib1:(i:Int)<(k3:Int):=by omega
    have HTA:Hid (taT Tk y0=Tk.getD i []):=by
     show _=_;rw[taT]
     congr 1
     omega
    have HXI:Hid (X=if doN (taT Tk y0) ya ⟨p,m,b,q,s,v⟩=0 then caN S (Tk.set i (doL (taT Tk y0) ya ⟨p,m,b,q,s,v⟩)) (l.drop (k+1)) else doN (taT Tk y0) ya ⟨p,m,b,q,s,v⟩):=by
     show _=_;have e7:(y0-1).toNat=i:=by have:=HI.out;omega
     rw[HXC.out,HCAT.out,caN,hsw,if_pos rfl,e7]
    obtain⟨x,hx1,hx2,hx3,hx0,hx4,hx5⟩:=HLX.out.tr.at (i:=i) (by rw[HTkL.out];exact hiN);clear hx0;obtain⟨a5,n5,c5⟩:=x;have HSR:Hid (SR wx (.slice a5 n5 c5) (taT Tk y0)):=by
     rw[HTA.out];exact hx2
    have hx1':wx.cell? ⟨g,i,none⟩=some (.slice a5 n5 c5):=hx1;have HDO:Hid (∀W,Below wx.heap.size wx W→Calls prog 29 #[.slice a5 n5 c5,.bool ya,.agg #[.int i64 p,.int i64 m,.int i64 b,.int i64 q,.int i64 s,.int i64 v]] W fun e w'=>∃u,e=.returned (.tuple #[u,noV (doN (taT Tk y0) ya ⟨p,m,b,q,s,v⟩)])∧NR w' wx.heap.size u (doL (taT Tk y0) ya ⟨p,m,b,q,s,v⟩)∧Below wx.heap.size wx w'):=fun W hW=>by
     refine (do_own a5 n5 c5 ya p m b q s v _ W (HSR.out.later hW)).mono ?_;rintro e w' ⟨u,h1,h2,h3⟩;exact⟨u,h1,h2.mono hW.size,hW.trans (h3.mono hW.size)⟩
    have HMK:Hid (∀W,Below wx.heap.size wx W→Below wx.heap.size wx W∧W.cell? ⟨O,3,none⟩=some (.slice (some ⟨g,0,none⟩) k3 d3)∧W.cell? ⟨g,i,none⟩=some (.slice a5 n5 c5)∧W.cell? ⟨wr.heap.size,0,none⟩=some (.int i64 y0)∧W.cell? ⟨wr.heap.size,1,none⟩=some (.bool ya)∧W.cell? ⟨wr.heap.size,2,none⟩=some (.int i64 p)∧W.cell? ⟨wr.heap.size,3,none⟩=some (.int i64 m)∧W.cell? ⟨wr.heap.size,4,none⟩=some (.int i64 b)∧W.cell? ⟨wr.heap.size,5,none⟩=some (.int i64 q)∧W.cell? ⟨wr.heap.size,6,none⟩=some (.int i64 s)∧W.cell? ⟨wr.heap.size,7,none⟩=some (.int i64 v)):=by
     intro W hW;obtain⟨c0,c1,c2,c3,c4,c5,c6,c7⟩:=op_cells (HOX.out.later hW);simp only[Nat.zero_add] at c0 c1 c2 c3 c4 c5 c6 c7;exact⟨hW,cell_later hW HLX.out.o.2.2.2,cell_later hW hx1',c0,c1,c2,c3,c4,c5,c6,c7⟩
    go_upto_region 12 with fail;clear q0 q1 q2 q3 f0 f1 f2 f3 o0 o1 o2 o3 hx1 hx2 hx3 hx4 hlt0 hlt1 hltO hsw hi hw
    go_cut [10,11,27] from 27 to 66 (fun t e ix w'=>ix=.int i64 (k:Int)∧e=noV (doN (taT Tk y0) ya ⟨p,m,b,q,s,v⟩)∧NR w' wx.heap.size t (doL (taT Tk y0) ya ⟨p,m,b,q,s,v⟩)∧Below wx.heap.size wx w')
    case first =>
     go_region_held3 (fun W=>Below wx.heap.size wx W∧W.cell? ⟨O,3,none⟩=some (.slice (some ⟨g,0,none⟩) k3 d3)∧W.cell? ⟨g,i,none⟩=some (.slice a5 n5 c5)∧W.cell? ⟨wr.heap.size,0,none⟩=some (.int i64 y0)∧W.cell? ⟨wr.heap.size,1,none⟩=some (.bool ya)∧W.cell? ⟨wr.heap.size,2,none⟩=some (.int i64 p)∧W.cell? ⟨wr.heap.size,3,none⟩=some (.int i64 m)∧W.cell? ⟨wr.heap.size,4,none⟩=some (.int i64 b)∧W.cell? ⟨wr.heap.size,5,none⟩=some (.int i64 q)∧W.cell? ⟨wr.heap.size,6,none⟩=some (.int i64 s)∧W.cell? ⟨wr.heap.size,7,none⟩=some (.int i64 v))
      (first | assumption | exact HMK.out _ (Below.drew (bRQ _ _)) | exact HMK.out _ HBD.out)
      (first | (go_at_call 29;refine (HDO.out _ (by first | exact Below.drew (bRQ _ _) | exact bRQ _ _)).mono ?_;rintro e w' ⟨u,rfl,hG,hb⟩;have HBD:Hid (Below wx.heap.size wx w'):=hb;have HGD:Hid (NR w' wx.heap.size u (doL (taT Tk y0) ya ⟨p,m,b,q,s,v⟩)):=hG;clear hb hG))
     all_goals (go_wp2_with fail;go_meet)
     all_goals exact⟨rfl,rfl,HGD.out,HBD.out⟩
    case rest =>
     obtain⟨rfl,rfl,hG,hb3⟩:=hcut;have HB3:Hid (Below w.heap.size w wc):=HBX.out.trans (hb3.mono HBX.out.size);have HL3:Hid (LB wc w.heap.size S (.slice ao n cap) (.slice ao2 n2 cap2) (.slice ao3 n3 cap3) O (.slice b1 k1 d1) (.slice b2 k2 d2) (.slice (some ⟨g,0,none⟩) k3 d3) Ls Hs vs Tk):=HLX.out.later hb3;obtain⟨_,_,_,d0,d1_,d2_,d3_,d4,d5,d6,d7⟩:=HMK.out wc hb3;have hltw3:wr.heap.size<wc.heap.size:=bLQ _ _ d0;obtain⟨⟨a6,n6,c6⟩,hx,hoff⟩:=hG.sl
     replace hx:_=Value.slice a6 n6 c6:=hx
     subst hx;have HG3:Hid (SR wc (slV (a6,n6,c6)) (doL (taT Tk y0) ya ⟨p,m,b,q,s,v⟩)):=hG.sr;have HOFF:Hid (∀b,b<wx.heap.size→offB (a6,n6,c6) b):=hoff;obtain⟨D,hD⟩:∃c,c=doN (taT Tk y0) ya ⟨p,m,b,q,s,v⟩:=⟨_,rfl⟩;have HD:Hid (D=doN (taT Tk y0) ya ⟨p,m,b,q,s,v⟩):=hD;rw[←hD];have HWX:Hid (w.heap.size+2≤wx.heap.size):=HLX.out.ab.lt;clear hb3 hG hD hoff HMK HDO HLX HBX;have hlt1:=HL3.out.ab.lt;have hlt0:w.heap.size<wc.heap.size:=by omega
     have hltO:O<wc.heap.size:=bLQ _ _ HL3.out.o.1;obtain⟨o0,o1,o2,o3⟩:=HL3.out.o;obtain⟨q0,q1,q2,q3⟩:=HL3.out.ab.r;have f0:=HL3.out.ab.f 0;have f1:=HL3.out.ab.f 1;have f2:=HL3.out.ab.f 2;have f3:=HL3.out.ab.f 3;by_cases h0:D=0
     ·subst h0;rw[no_ok rfl];obtain⟨yx,hy1,hy2,hy3,hy0,hy4,hy5⟩:=HL3.out.tr.at (i:=i) (by rw[HTkL.out];exact hiN);clear hy0 hy2;have HL4:Hid (LB (wc.setCell ⟨g,i,none⟩ (.slice a6 n6 c6)) w.heap.size S (.slice ao n cap) (.slice ao2 n2 cap2) (.slice ao3 n3 cap3) O (.slice b1 k1 d1) (.slice b2 k2 d2) (.slice (some ⟨g,0,none⟩) k3 d3) Ls Hs (vs.set i (a6,n6,c6)) (caT Ts (l.take (k+1)))):=by
       have:=HL3.out.put (i:=i) (x:=(a6,n6,c6)) HG3.out (HOFF.out g hx5) (fun b h2=>HOFF.out b (by have:=HWX.out;omega));rw[(cs_take hkl HCA.out).2,←HTK.out,HLK.out,caT,caT];have e7:(y0-1).toNat=i:=by have:=HI.out;omega
       rw[e7];exact this
      have HCA4:Hid (caN S Ts (l.take (k+1))=0):=by
       show _=_;rw[(cs_take hkl HCA.out).1,←HTK.out,HLK.out,caN];show (if swB S y0=true then (if doN (taT Tk y0) ya ⟨p,m,b,q,s,v⟩=0 then _ else _) else _)=_;rw[if_pos (sw_of.2 ⟨by have:=HI.out;omega,by have:=HI.out;have:=HKS.out;omega⟩),←HD.out,if_pos rfl,caN]
      have HB4:Hid (Below w.heap.size w (wc.setCell ⟨g,i,none⟩ (.slice a6 n6 c6))):=HB3.out.setCell (p:=⟨g,i,none⟩) (show w.heap.size≤g by omega) _;go_wp2;go_roundw
      case rel=>exact⟨k+1,vs.set i (a6,n6,c6),by omega,by go_num,HCA4.out,HL4.out,HB4.out⟩
      case measure=>simp[intOf];omega
     have HNZ:Hid (D≠0):=h0;have HXD:Hid (X=D):=by
      show _=_;rw[HXI.out,←HD.out,if_neg h0]
     rw[no_ne h0];clear h0;go_wp2;refine bodyPost_ret (v:=.tuple #[.agg #[.int i64 0,.slice none 0 0,.slice none 0 0,.slice none 0 0],.iface 73 (.int i64 D)]) (by simp[results,results7,go_sem, *]) rfl ?_;rw[HXD.out];exact⟨_,_,_,_,_,_,_,_,_,by rw[nvS,if_neg (HNZ.out),no_ne HNZ.out],by rw[nvL,nvL,nvL,if_neg (HNZ.out),if_neg (HNZ.out),if_neg (HNZ.out)];exact NA.nil _ _,below_pn4 HB3.out (w.heap.size+1) (by omega) _ _ _ _⟩
   obtain rfl:k=n4:=by omega
   have HX0:Hid (X=0):=by
    show _=_;have:=HCA.out;rw[←HN.out,List.take_length] at this;rw[HXC.out,this]
   have HTE:Hid (Tk=caT Ts l):=by
    show _=_;rw[HTK.out,←HN.out,List.take_length]
   clear hB;go_wp2;refine bodyPost_ret (v:=.tuple #[.agg #[.int i64 S,.slice b1 k1 d1,.slice b2 k2 d2,.slice (some ⟨g,0,none⟩) k3 d3],.nilIface]) (by simp[results,results7,go_sem, *]) rfl ?_;rw[HX0.out];have hgp:=grown_put4 wr (w.heap.size+1) (.int i64 S) (.slice b1 k1 d1) (.slice b2 k2 d2) (.slice (some ⟨g,0,none⟩) k3 d3);have hBE:=below_pn4 HB.out (w.heap.size+1) (by omega) (.int i64 S) (.slice b1 k1 d1) (.slice b2 k2 d2) (.slice (some ⟨g,0,none⟩) k3 d3);have hTE:=(HLB.out.tr.grown hgp (Nat.zero_le _) (by omega)).mono (B':=w.heap.size) (by omega);rw[HTE.out] at hTE;exact⟨_,_,_,_,_,_,_,_,_,rfl,⟨own_mono (HLB.out.ls.kept hgp (.inr fun e=>by have:=(HLB.out.ls.lt _ e).1;omega)) (by omega),own_mono (HLB.out.hs.kept hgp (.inr fun e=>by have:=(HLB.out.hs.lt _ e).1;omega)) (by omega),vs,hTE⟩,hBE⟩
 have HNZ:Hid (C≠0):=hC0;have HXC:Hid (X=C):=by
  show _=_;rw[HX.out,cgN,←HC.out,if_neg hC0]
 rw[no_ne hC0];clear hC0;go_wp2;refine bodyPost_ret (v:=.tuple #[.agg #[.int i64 0,.slice none 0 0,.slice none 0 0,.slice none 0 0],.iface 73 (.int i64 C)]) (by simp[results,results7,go_sem, *]) rfl ?_;rw[HXC.out];exact⟨_,_,_,_,_,_,_,_,_,by rw[nvS,if_neg (HNZ.out),no_ne HNZ.out],by rw[nvL,nvL,nvL,if_neg (HNZ.out),if_neg (HNZ.out),if_neg (HNZ.out)];exact NA.nil _ _,below_pn4 HB1.out (w.heap.size+1) (by omega) _ _ _ _⟩
end
section
open Go.RowKit Go.Extern.Stop Go.Stop Go.Extern
def HasErr (w:World):Prop:=w.cell? ⟨0,0,none⟩=some (.iface 159 (.agg #[.pointer (some ⟨1,28,none⟩)]))
theorem HasErr.later {w w':World}(h:HasErr w)(hb:Below w.heap.size w w'):HasErr w':=cell_later hb h
theorem HasErr.alloc {w:World}(h:HasErr w)(o:Obj):HasErr (w.alloc o):=h.later ((bRQ _ _).alloc (nLQ _) _)
theorem vOfP (t:Addr)(w:World):(ReflectliteValue.unpack (.iface 126 (.pointer (some t)))).run prog w
 = .ok (.agg #[.pointer (some ⟨1,126,none⟩),.pointer (some ⟨w.heap.size,0,none⟩),.int .u64 150]) (w.alloc (.cells #[.pointer (some t)] 126)):=by kernel_rfl
theorem typeP (a : Addr)(w : World): (ReflectliteValue.methodAny (ReflectliteValue.valueError "reflectlite.Value.Type" 0) (fun t _ _ _ => ReflectliteType.toType t) #[.agg #[.pointer (some ⟨1, 126, none⟩), .pointer (some a), .int .u64 150]]).run prog w
 = .ok (.iface 159 (.agg #[.pointer (some ⟨1,126,none⟩)])) w:=by kernel_rfl
theorem methKind (h : Value)(w : World): (Go.method 303 159 (.agg #[h]) "Kind").run prog w = .ok (99, h) w := by kernel_rfl
theorem kindP (w:World):((ReflectliteType.abiMethod fun t=>Functor.map (fun a:Nat=>Value.int IntKind.u8 (a:Int)) (Rtype.kind t)) #[.pointer (some ⟨1,126,none⟩)]).run prog w=.ok (.int .u8 22) w:=by kernel_rfl
theorem kindE (w:World):((ReflectliteType.abiMethod fun t=>Functor.map (fun a:Nat=>Value.int IntKind.u8 (a:Int)) (Rtype.kind t)) #[.pointer (some ⟨1,73,none⟩)]).run prog w=.ok (.int .u8 2) w:=by kernel_rfl
theorem partsP (a:Addr)(w:World):(ReflectliteValue.parts (.agg #[.pointer (some ⟨1,126,none⟩),.pointer (some a),.int .u64 150])).run prog w=.ok (some (126,a,150)) w:=by kernel_rfl
theorem isNilP (a p:Addr)(W:World)(ha:W.cell? a=some (.pointer (some p))):
 (ReflectliteValue.method (ReflectliteValue.valueError "reflectlite.Value.IsNil" 0) ReflectliteValue.isNil #[.agg #[.pointer (some ⟨1, 126, none⟩), .pointer (some a), .int .u64 150]]).run prog W = .ok (.bool false) W := by
 change Sem.run _ (ReflectliteValue.parts (.agg #[.pointer (some ⟨1,126,none⟩),.pointer (some a),.int .u64 150]) >>= _) _=_
 rw[Sem.run_bind,partsP];simp only[Result.andThen];simp[ReflectliteValue.isNil,loadVar,isAgg,underlying,underlying126,ha,Result.andThen]
theorem methElem (h : Value)(w : World): (Go.method 303 159 (.agg #[h]) "Elem").run prog w = .ok (109, .agg #[h]) w := by kernel_rfl
theorem methImpl (h : Value)(w : World): (Go.method 303 159 (.agg #[h]) "Implements").run prog w = .ok (110, .agg #[h]) w := by kernel_rfl
theorem methAssign (h : Value)(w : World): (Go.method 303 159 (.agg #[h]) "AssignableTo").run prog w = .ok (107, .agg #[h]) w := by kernel_rfl
theorem elemP (w:World):(ReflectliteType.method ReflectliteType.elem #[.agg #[.pointer (some ⟨1,126,none⟩)]]).run prog w=.ok (.iface 159 (.agg #[.pointer (some ⟨1,73,none⟩)])) w:=by kernel_rfl
theorem implE (w : World): (ReflectliteType.relation "Implements" ReflectliteType.implements_ #[.agg #[.pointer (some ⟨1, 73, none⟩)], .iface 159 (.agg #[.pointer (some ⟨1, 28, none⟩)])]).run prog w = .ok (.bool true) w := by kernel_rfl
theorem typeOfE (v:Value)(w:World):(ReflectliteType.typeOf #[.iface 73 v]).run prog w=.ok (.iface 159 (.agg #[.pointer (some ⟨1,73,none⟩)])) w:=by kernel_rfl
theorem assignE (w : World): (ReflectliteType.relation "AssignableTo" ReflectliteType.assignableTo #[.agg #[.pointer (some ⟨1, 73, none⟩)], .iface 159 (.agg #[.pointer (some ⟨1, 73, none⟩)])]).run prog w = .ok (.bool true) w := by kernel_rfl
theorem vOfE (n:Int)(w:World):(ReflectliteValue.unpack (.iface 73 (.int i64 n))).run prog w
 = .ok (.agg #[.pointer (some ⟨1,73,none⟩),.pointer (some ⟨w.heap.size,0,none⟩),.int .u64 130]) (w.alloc (.cells #[.int i64 n] 73)):=by kernel_rfl
theorem elemOfP (w:World):(Rtype.elem? 126).run prog w=.ok (some 73) w:=by kernel_rfl
theorem mkE (p:Addr)(w:World):(ReflectliteValue.mk 73 p ReflectliteValue.flagAddr).run prog w=.ok (.agg #[.pointer (some ⟨1,73,none⟩),.pointer (some p),.int .u64 386]) w:=by kernel_rfl
theorem elemVP (a p:Addr)(W:World)(ha:W.cell? a=some (.pointer (some p))):
 (ReflectliteValue.method (ReflectliteValue.valueError "reflectlite.Value.Elem" 0) ReflectliteValue.elem #[.agg #[.pointer (some ⟨1, 126, none⟩), .pointer (some a), .int .u64 150]]).run prog W
  = .ok (.agg #[.pointer (some ⟨1,73,none⟩),.pointer (some p),.int .u64 386]) W:=by
 change Sem.run _ (ReflectliteValue.parts (.agg #[.pointer (some ⟨1,126,none⟩),.pointer (some a),.int .u64 150]) >>= _) _=_
 rw[Sem.run_bind,partsP];simp only[Result.andThen];simp[ReflectliteValue.elem,loadVar,isAgg,underlying,underlying126,ha,Result.andThen,elemOfP,mkE]
theorem partsEa (a:Addr)(w:World):(ReflectliteValue.parts (.agg #[.pointer (some ⟨1,73,none⟩),.pointer (some a),.int .u64 386])).run prog w=.ok (some (73,a,386)) w:=by kernel_rfl
theorem partsE (a:Addr)(w:World):(ReflectliteValue.parts (.agg #[.pointer (some ⟨1,73,none⟩),.pointer (some a),.int .u64 130])).run prog w=.ok (some (73,a,130)) w:=by kernel_rfl
theorem directE (w:World):(Rtype.directlyAssignable 73 73).run prog w=.ok true w:=by kernel_rfl
theorem setE (ta b:Addr)(n:Int)(old:Value)(W:World)(hb:W.cell? b=some (.int i64 n))(ht:W.cell? ta=some old)(hf:W.frozen? ta=false):
 (ReflectliteValue.set #[.agg #[.pointer (some ⟨1,73,none⟩),.pointer (some ta),.int .u64 386],.agg #[.pointer (some ⟨1,73,none⟩),.pointer (some b),.int .u64 130]]).run prog W
  = .ok (.tuple #[]) (W.setCell ta (.int i64 n)):=by
 change Sem.run _ (ReflectliteValue.parts (.agg #[.pointer (some ⟨1,73,none⟩),.pointer (some ta),.int .u64 386]) >>= _) _=_
 rw[Sem.run_bind,partsEa];simp only[Result.andThen]
 change Sem.run _ (ReflectliteValue.parts (.agg #[.pointer (some ⟨1,73,none⟩),.pointer (some b),.int .u64 130]) >>= _) _=_
 rw[Sem.run_bind,partsE];simp only[Result.andThen];simp[ReflectliteValue.flagAddr,loadVar,isAgg,underlying,underlying73,hb,Result.andThen,directE,storeVar,Value.cells,storeCells,Addr.add];rw[run_store prog W ta _ _ (by rfl)];simp[ht,hf]
theorem as_hit (n:Int)(t:Addr)(old:Value)(w:World)(hg:HasErr w)(ht0:w.cell? t=some old)(hf0:w.frozen? t=false):
 Calls prog 57 #[.iface 73 (.int i64 n),.iface 126 (.pointer (some t))] w fun ev w'=>ev=.returned (.bool true)∧w'=((((w.alloc (.cells #[.pointer (some t)] 126)).alloc (.cells #[.pointer (some ⟨1,126,none⟩),.pointer (some ⟨w.heap.size,0,none⟩),.int .u64 150] 145)).alloc (.cells #[.pointer (some ⟨1,126,none⟩),.pointer (some ⟨w.heap.size,0,none⟩),.int .u64 150] 145)).alloc (.cells #[.int i64 n] 73)).setCell t (.int i64 n):=by
 unfold HasErr at hg;have h6 := @run_callFunc_extern prog 72 _ (fun args=>ReflectliteValue.unpack (args.getD 0 (.tuple #[]))) func72 (by kernel_rfl) (by kernel_rfl) (by kernel_rfl) (by kernel_rfl);have h7 := @run_callFunc_extern prog 73 _ (ReflectliteValue.methodAny (ReflectliteValue.valueError "reflectlite.Value.Type" 0) (fun t _ _ _ => ReflectliteType.toType t)) func73 (by kernel_rfl) (by kernel_rfl) (by kernel_rfl) (by kernel_rfl)
 have h8 := @run_callFunc_extern prog 74 _ (ReflectliteValue.method (ReflectliteValue.valueError "reflectlite.Value.IsNil" 0) ReflectliteValue.isNil) func74 (by kernel_rfl) (by kernel_rfl) (by kernel_rfl) (by kernel_rfl)
 have h27 := @run_callFunc_extern prog 99 _ (ReflectliteType.abiMethod fun t=>do pure (.int .u8 (←Rtype.kind t))) func99 (by kernel_rfl) (by kernel_rfl) (by kernel_rfl) (by kernel_rfl);have h37 := @run_callFunc_extern prog 109 _ (ReflectliteType.method ReflectliteType.elem) func109 (by kernel_rfl) (by kernel_rfl) (by kernel_rfl) (by kernel_rfl);have h38 := @run_callFunc_extern prog 110 _ (ReflectliteType.relation "Implements" ReflectliteType.implements_) func110 (by kernel_rfl) (by kernel_rfl) (by kernel_rfl) (by kernel_rfl)
 have h10 := @run_callFunc_extern prog 79 _ ReflectliteType.typeOf func79 (by kernel_rfl) (by kernel_rfl) (by kernel_rfl) (by kernel_rfl);have h35 := @run_callFunc_extern prog 107 _ (ReflectliteType.relation "AssignableTo" ReflectliteType.assignableTo) func107 (by kernel_rfl) (by kernel_rfl) (by kernel_rfl) (by kernel_rfl)
 have h11 := @run_callFunc_extern prog 80 _ (ReflectliteValue.method (ReflectliteValue.valueError "reflectlite.Value.Elem" 0) ReflectliteValue.elem) func80 (by kernel_rfl) (by kernel_rfl) (by kernel_rfl) (by kernel_rfl)
 have h12 := @run_callFunc_extern prog 81 _ ReflectliteValue.set func81 (by kernel_rfl) (by kernel_rfl) (by kernel_rfl) (by kernel_rfl);have tO:=typeOfE;have mA:=methAssign;have a25:=assignE;have v25:=vOfE;have f6:=vOfP;have f7:=typeP;have mK:=methKind;have mE:=methElem;have mI:=methImpl;have k27:=kindP;have k25:=kindE;have e27:=elemP;have i25:=implE;have hlt:0<w.heap.size:=bLQ _ _ hg;have htl:t.block<w.heap.size:=bLQ _ _ ht0;have n8:=isNilP ⟨w.heap.size,0,none⟩ t ((w.alloc (.cells #[.pointer (some t)] 126)).alloc (.cells #[.pointer (some ⟨1,126,none⟩),.pointer (some ⟨w.heap.size,0,none⟩),.int .u64 150] 145)) (by simp);have hg2:((w.alloc (.cells #[.pointer (some t)] 126)).alloc (.cells #[.pointer (some ⟨1,126,none⟩),.pointer (some ⟨w.heap.size,0,none⟩),.int .u64 150] 145)).cell? ⟨0,0,none⟩=some (.iface 159 (.agg #[.pointer (some ⟨1,28,none⟩)])):=by
  rw[World.cell?_alloc_lt _ _ ⟨0,0,none⟩ (by simp <;> omega),World.cell?_alloc_lt _ _ ⟨0,0,none⟩ hlt];exact hg
 have el:=elemVP ⟨w.heap.size,0,none⟩ t (((w.alloc (.cells #[.pointer (some t)] 126)).alloc (.cells #[.pointer (some ⟨1,126,none⟩),.pointer (some ⟨w.heap.size,0,none⟩),.int .u64 150] 145)).alloc (.cells #[.pointer (some ⟨1,126,none⟩),.pointer (some ⟨w.heap.size,0,none⟩),.int .u64 150] 145)) (by rw[World.cell?_alloc_lt _ _ ⟨w.heap.size,0,none⟩ (by simp;omega)];simp);have st:=setE t ⟨w.heap.size+1+1+1,0,none⟩ n old ((((w.alloc (.cells #[.pointer (some t)] 126)).alloc (.cells #[.pointer (some ⟨1,126,none⟩),.pointer (some ⟨w.heap.size,0,none⟩),.int .u64 150] 145)).alloc (.cells #[.pointer (some ⟨1,126,none⟩),.pointer (some ⟨w.heap.size,0,none⟩),.int .u64 150] 145)).alloc (.cells #[.int i64 n] 73))
  (by rw[World.cell?_alloc_at _ _ _ _ (by simp)];rfl)
  (by rw[World.cell?_alloc_lt _ _ t (by simp;omega),World.cell?_alloc_lt _ _ t (by simp;omega),World.cell?_alloc_lt _ _ t (by simp;omega),World.cell?_alloc_lt _ _ t htl];exact ht0)
  (by rw[World.frozen?_alloc_old _ _ t (by simp;omega),World.frozen?_alloc_old _ _ t (by simp;omega),World.frozen?_alloc_old _ _ t (by simp;omega),World.frozen?_alloc_old _ _ t (Nat.ne_of_lt htl)];exact hf0)
 go_enter func57,ntmps57;go_wp2;refine wp_loop_rounds 1 ?_;rw[rounds_succ];go_wp2;go_ret;exact⟨rfl,rfl⟩
theorem told_nil (w:World):
 Calls prog 39 #[.nilIface] w fun e w'=>e=.returned (.int i64 0)∧Below w.heap.size w w':=by
 go_enter func39,ntmps39;go_wp2;go_ret;exact⟨rfl,bRQ _ _⟩
theorem told_some (n:Int)(w:World)(hg:HasErr w):
 Calls prog 39 #[.iface 73 (.int i64 n)] w fun e w'=>e=.returned (.int i64 n)∧Below w.heap.size w w':=by
 have HG:Hid (HasErr w):=hg;clear hg;go_enter func39,ntmps39
 go_wp2_with fail
 refine (as_hit n _ (.int i64 0) _ (HG.out.alloc _) (by simp) (by simp)).mono ?_;rintro e w' ⟨rfl,rfl⟩;go_wp2;go_ret;refine⟨rfl,?_⟩;exact ((((((bRQ _ _).alloc (nLQ _) _).alloc (by simp) _).alloc (by simp;omega) _).alloc (by simp;omega) _).alloc (by simp;omega) _)
theorem same_nil (k:Int)(w:World):
 Calls prog 14 #[.nilIface,.int i64 k] w fun e w'=>e=.returned (.bool (0==k))∧Below w.heap.size w w':=by
 go_enter func14,ntmps14
 go_wp2_with fail
 refine (told_nil _).mono ?_;rintro e w' ⟨rfl,hb⟩;go_wp2;go_ret;exact⟨rfl,hb⟩
theorem same_some (n k:Int)(w:World)(hg:HasErr w):
 Calls prog 14 #[.iface 73 (.int i64 n),.int i64 k] w fun e w'=>e=.returned (.bool (n==k))∧Below w.heap.size w w':=by
 have HG:Hid (HasErr w):=hg;clear hg;go_enter func14,ntmps14
 go_wp2_with fail
 refine (told_some n _ HG.out).mono ?_;rintro e w' ⟨rfl,hb⟩;go_wp2;go_ret;exact⟨rfl,hb⟩
end
section
open Go.RowKit
theorem same_noV (n:Int)(w:World)(hg:HasErr w):
 Calls prog 14 #[noV n,.int i64 n] w fun e w'=>e=.returned (.bool true)∧Below w.heap.size w w':=by
 by_cases h:n=0
 ·subst h;refine (same_nil _ w).mono ?_;rintro e w' ⟨rfl,hb⟩;exact⟨by simp,hb⟩
 rw[no_ne h];refine (same_some _ _ w hg).mono ?_;rintro e w' ⟨rfl,hb⟩;exact⟨by simp,hb⟩
theorem GS.take {α:Type}{E:Enc α}{W:World}{ao:AdQ}{n cap c:Nat}{L:List α}(h:GS E W (.slice ao n cap) L)(hc:c≤n):GS E W (.slice ao c cap) (L.take c):=by
 rcases h with ⟨ao',cap',e,rfl⟩ | ⟨g,o,cap',e,h1,h2,h3⟩
 ·simp only[Value.slice.injEq] at e;obtain⟨rfl,rfl,rfl⟩:=e;obtain rfl:c=0:=by omega
  exact .inl ⟨_,_,rfl,by simp⟩
 simp only[Value.slice.injEq] at e;obtain⟨rfl,rfl,rfl⟩:=e;have e1:(L.take c).length=c:=by rw[List.length_take];omega
 exact .inr ⟨g,o,cap,by rw[e1],by rw[e1];omega,h2,h3.take c⟩
theorem GS.drop {α:Type}{E:Enc α}{W:World}{g o n cap c:Nat}{L:List α}(h:GS E W (.slice (some ⟨g,o,none⟩) n cap) L)(hc:c≤n):GS E W (.slice (some ⟨g,o+c*E.n,none⟩) (n-c) (cap-c)) (L.drop c):=by
 rcases h with ⟨ao',cap',e,rfl⟩ | ⟨g',o',cap',e,h1,h2,h3⟩
 ·simp only[Value.slice.injEq] at e;obtain⟨rfl,rfl,rfl⟩:=e;obtain rfl:c=0:=by omega
  exact .inl ⟨_,_,rfl,by simp⟩
 simp only[Value.slice.injEq,Option.some.injEq,Addr.mk.injEq,and_true] at e;obtain⟨⟨rfl,rfl⟩,rfl,rfl⟩:=e;have e1:(L.drop c).length=L.length-c:=List.length_drop;exact .inr ⟨g,o+c*E.n,cap-c,by rw[e1],by rw[e1];omega,Nat.le_trans (Nat.sub_le _ _) h2,h3.drop c⟩
theorem gat_cells {α:Type}{E:Enc α}{w:World}{g q:Nat}{A:List α}(h:GAt E w g q A):∀j v,(cellsG E A)[j]?=some v→w.cell? ((⟨g,q,none⟩:Addr).add j)=some v:=h.cells
theorem run_append_full {P:Program}{α:Type}{E:Enc α}(w:World)(t ty e:TypeId)(i:TypeInfo)(z:Value)(bytes:Nat)(ht:P.underlying t=some (.slice e))(hi:P.info? e=some i)(hz:i.zero=some z)
 (hsize:i.size=E.n) (hby:i.bytes=bytes) (hzs:z.cells.size=E.n) (g q kk:Nat) (A:List α) (hA:GAt E w g q A) (hAl:A.length=kk)
 (g2 q2 m c2:Nat) (B:List α) (hB:GAt E w g2 q2 B) (hBl:B.length=m) (h63:kk+m≤maxLen) (hbytes:(kk+m)*bytes≤140737488355328):
 ∃ v' w',(Builtin.append_ #[t,t] ty #[.slice (some ⟨g,q,none⟩) kk kk,.slice (some ⟨g2,q2,none⟩) m c2]).run P w=.ok v' w'∧GS E w' v' (A++B)∧Below w.heap.size w w' ∧
   ∃a n c,v'=.slice a n c∧∀ad,a=some ad→ad.block=g∨ad.block=w.heap.size:=by
 have hlA:(cellsG E A).length=kk*i.size:=by rw[hsize,cellsG_len,hAl]
 have hlB:(cellsG E B).length=m*i.size:=by rw[hsize,cellsG_len,hBl]
 by_cases hm:m=0
 ·subst hm;have hB0:B=[]:=List.length_eq_zero_iff.1 hBl;subst hB0;have hs:Src P i.size t (.slice (some ⟨g2,q2,none⟩) 0 c2) 0 [] w:=Src.ofSlice w ht ⟨g2,q2,none⟩ 0 c2 [] (by simp) (fun j u h=>by simp at h) (fun u h=>by cases h);refine⟨_,w,run_append_nothing w t t ty e i ht hi (some ⟨g,q,none⟩) kk kk (nLQ _) _ hs,?_,bRQ _ _,_,_,_,rfl,fun ad ha=>by cases ha;exact .inl rfl⟩;rw[List.append_nil];subst hAl;exact .inr ⟨g,q,A.length,rfl,nLQ _,by omega,hA⟩
 have hfit:Builtin.nextslicecap (kk+m) kk*i.bytes≤281474976710656:=by
  rw[hby];exact growslice_fits (by omega) hbytes
 have h63':((kk+m:Nat):Int)≤9223372036854775807:=by simp only[maxLen] at h63;omega
 have hr:=run_append_grow (P:=P) w t ty e i z ht hi hz ⟨g,q,none⟩ kk kk (cellsG E A) hlA (gat_cells hA) ⟨g2,q2,none⟩ m c2 (cellsG E B) hlB (gat_cells hB) (by omega) h63' hfit;have hge:=grownCap_ge w (kk+m) kk e;have hcm:grownCap w (kk+m) kk e≤maxLen:=grownCap_le_maxLen w (kk+m) kk e h63;have hbl:Below w.heap.size w (w.drew.alloc (.cells ((cellsG E A).toArray++(cellsG E B).toArray++Builtin.zeroCells z.cells (grownCap w (kk+m) kk e-(kk+m))) e)):=(Below.drew (bRQ _ _)).alloc (nLQ _) _;refine⟨_,_,hr,?_,hbl,_,_,_,rfl,fun ad ha=>by cases ha;exact .inr rfl⟩;have hl:(A++B).length=kk+m:=by rw[List.length_append,hAl,hBl]
 have ho:(w.drew.alloc (.cells ((cellsG E A).toArray++(cellsG E B).toArray++Builtin.zeroCells z.cells (grownCap w (kk+m) kk e-(kk+m))) e)).ownsRow w.heap.size e E.n (.slice (some ⟨w.heap.size,0,none⟩) (A++B).length (grownCap w (kk+m) kk e)) (A++B).length (cellsG E (A++B)):=by
  rw[hl];refine⟨by rw[cellsG_len,hl],.inr ⟨w.heap.size,_,_,rfl,nLQ _,heap_alloc_new w.drew _,hge,hcm,?_,?_⟩⟩
  ·simp only[Array.size_append,List.size_toArray,size_zeroCells,hlA,hlB,hzs,hsize];rw[←Nat.add_mul,←Nat.add_mul]
   congr 1
   omega
  have e1:(cellsG E A++cellsG E B).length=(kk+m)*E.n:=by rw[List.length_append,hlA,hlB,hsize,Nat.add_mul]
  simp only[Array.toList_append,List.toList_toArray];rw[cellsG_app,←e1,List.take_left]
 have:=own_GS ho;rw[hl] at this;exact this
theorem step_append_full {P:Program}{α:Type}{E:Enc α}(w:World){ops:Array Oper}{o:Oper}{a:Act}{K:Act→World→Prop}{Q:Exit→Act→World→Prop}{X:Prop}(hgd:o.guard=none)(s x:Operand)(t e:TypeId)
 (ho:o.op=.call { callee:=.builtin .append,args:=#[s,x],argTypes:=#[t,t] }) (ht:P.underlying t=some (.slice e)) (i:TypeInfo) (z:Value) (bytes:Nat) (hi:P.info? e=some i) (hz:i.zero=some z)
 (hsize:i.size=E.n) (hby:i.bytes=bytes) (hzs:z.cells.size=E.n) (g q kk:Nat) (hs:a.eval s=.slice (some ⟨g,q,none⟩) kk kk) (A:List α) (hA:GAt E w g q A) (hAl:A.length=kk)
 (g2 q2 m c2:Nat) (hx:a.eval x=.slice (some ⟨g2,q2,none⟩) m c2) (B:List α) (hB:GAt E w g2 q2 B) (hBl:B.length=m) (h63:kk+m≤maxLen) (hbytes:(kk+m)*bytes≤140737488355328)
 (h:∀b n c w',GS E w' (.slice b n c) (A++B)→Below w.heap.size w w'→(∀ad,b=some ad→ad.block=g∨ad.block=w.heap.size)→K (a.put o.dst (.slice b n c)) w'):
 if Region.wanted o (yielded ops a.tmps)=true then Oper.wp P o a w K Q else X:=by
 have hw:Region.wanted o (yielded ops a.tmps)=true:=by simp[Region.wanted,hgd]
 rw[if_pos hw];obtain⟨v',w',hr,h2,h3,b,n,c,rfl,h4⟩:=run_append_full (P:=P) w t o.type e i z bytes ht hi hz hsize hby hzs g q kk A hA hAl g2 q2 m c2 B hB hBl h63 hbytes;unfold Oper.wp execOp;simp only[ho,resolve,invoke,builtin,Sem.run_bind,Sem.run_pure,Result.andThen_ok,List.map_toArray,List.map_cons,List.map_nil,hs,hx,hr];exact h b n c w' h2 h3 h4
end
end Go.Proofs.YtcbapfgohocghaaDoor
