/- Contracts and facts on the way to PlanTells, joined into one text: ChangeApply, GenTake, ChangeBN, NetMath2, NetMath3, WishMath, StWish, SlHost, HostHas, WishCon, WishCheck, PlanDiff, PlanMath, PlanMath2, PlanOnly. -/
import Derived.Test.YtiokpmlhmlcojaaGreatDoorPlanTellsP5
namespace Go.Proofs.YtiokpmlhmlcojaaGreatDoor
set_option linter.unusedSimpArgs false
set_option linter.unusedVariables false
set_option maxHeartbeats 16000000
set_option maxRecDepth 100000
section
open Go.RowKit
structure LB (W:World)(B:Nat)(S:Int)(v1 v2 v3:Value)(O:Nat)(u1 u2 u3:Value)(Ls:LkQ)(Hs:HoQ)(vs:List SlT)(Ts:List (List Ru)):Prop where
 ab:AB W B S v1 v2 v3
 o:NeBox W O S u1 u2 u3
 tr:TR 93 W 0 (B+2) u3 vs Ts
 ls:W.ownsRow (B+2) 124 4 u1 Ls.length (cellsG lnkE Ls)
 hs:W.ownsRow (B+2) 77 3 u2 Hs.length (cellsG hstE Hs)
 ro:u3.ownBlock≠some O
 bo:B+2≤O
theorem LB.later {W W':World}{B:Nat}{S:Int}{v1 v2 v3:Value}{O:Nat}{u1 u2 u3:Value}{Ls:LkQ}{Hs:HoQ}{vs:List SlT}{Ts:List (List Ru)}(h:LB W B S v1 v2 v3 O u1 u2 u3 Ls Hs vs Ts)(hb:Below W.heap.size W W'):LB W' B S v1 v2 v3 O u1 u2 u3 Ls Hs vs Ts:=
 ⟨h.ab.later hb,h.o.later hb,h.tr.later hb,own_below h.ls hb,own_below h.hs hb,h.ro,h.bo⟩
theorem LB.put {W:World}{B:Nat}{S:Int}{v1 v2 v3:Value}{O:Nat}{u1 u2:Value}{g n cap i:Nat}{Ls:LkQ}{Hs:HoQ}{vs:List SlT}{Ts:List (List Ru)}(h:LB W B S v1 v2 v3 O u1 u2 (.slice (some ⟨g,0,none⟩) n cap) Ls Hs vs Ts){x:SlT}{L:List Ru}(hx:SR W (slV x) L)(hox:offB x g)(hoz:∀b,b<B+2→offB x b):
 LB (W.setCell ⟨g,i,none⟩ (slV x)) B S v1 v2 v3 O u1 u2 (.slice (some ⟨g,0,none⟩) n cap) Ls Hs (vs.set i x) (Ts.set i L):=by
 have hg:=(h.tr.ov.lt g rfl).1;have hgs:=grown_set W g i (slV x);refine⟨h.ab.grown hgs (fun b hb=>by cases hb;exact hg),h.o.grown hgs (fun e=>h.ro e.symm),h.tr.put hx hox (fun b _ hb=>hoz b hb),h.ls.kept hgs ?_,h.hs.kept hgs ?_,h.ro,h.bo⟩
 ·exact own_apart h.ls h.tr.ov (by decide)
 exact own_apart h.hs h.tr.ov (by decide)
structure NA (W:World)(B:Nat)(v1 v2 v3:Value)(Ls:LkQ)(Hs:HoQ)(Ts:List (List Ru)):Prop where
 l:W.ownsRow B 124 4 v1 Ls.length (cellsG lnkE Ls)
 h:W.ownsRow B 77 3 v2 Hs.length (cellsG hstE Hs)
 t:∃vs,TR 93 W 0 B v3 vs Ts
theorem NA.nil (W:World)(B:Nat):NA W B (.slice none 0 0) (.slice none 0 0) (.slice none 0 0) [] [] []:=⟨World.ownsRow_nil _ _ _ _,World.ownsRow_nil _ _ _ _,[],tr_nil _ _ _ _⟩
theorem NA.gs {W:World}{B:Nat}{v1 v2 v3:Value}{Ls:LkQ}{Hs:HoQ}{Ts:List (List Ru)}(h:NA W B v1 v2 v3 Ls Hs Ts):GS lnkE W v1 Ls∧GS hstE W v2 Hs∧TS W v3 Ts:=by
 obtain⟨vs,ht⟩:=h.t;exact⟨own_GS (E:=lnkE) h.l,own_GS (E:=hstE) h.h,ht.ts⟩
theorem NA.put {W W':World}{B b:Nat}{v1 v2 v3:Value}{Ls:LkQ}{Hs:HoQ}{Ts:List (List Ru)}(h:NA W B v1 v2 v3 Ls Hs Ts)(hg:W.grownBy W' (some b))(hb:b<B):NA W' B v1 v2 v3 Ls Hs Ts:=by
 obtain⟨vs,ht⟩:=h.t;exact⟨h.l.kept hg (.inr fun e=>by have:=(h.l.lt _ e).1;omega),h.h.kept hg (.inr fun e=>by have:=(h.h.lt _ e).1;omega),vs,ht.grown hg (Nat.zero_le _) hb⟩
theorem chApply_own (S:Int)(ao:Option Addr)(n cap:Nat)(ao2:Option Addr)(n2 cap2:Nat)(ao3:Option Addr)(n3 cap3:Nat)(a4:Option Addr)(n4 c4:Nat)(Ls:LkQ)(Hs:HoQ)(Ts:List (List Ru))(l:List Op8)(w:World)
 (hL:GS lnkE w (.slice ao n cap) Ls) (hH:GS hstE w (.slice ao2 n2 cap2) Hs) (hT:TS w (.slice ao3 n3 cap3) Ts) (hl:GS opE w (.slice a4 n4 c4) l):
 Calls Tryz.prog 37 #[.agg #[.int .i64 S,.slice ao n cap,.slice ao2 n2 cap2,.slice ao3 n3 cap3],.slice a4 n4 c4] w fun e w'=>∃b1 k1 d1 b2 k2 d2 b3 k3 d3,e=.returned (.tuple #[.agg #[.int .i64 (nvS (cgN S Ls Hs Ts l) S),.slice b1 k1 d1,.slice b2 k2 d2,.slice b3 k3 d3],noV (cgN S Ls Hs Ts l)])∧NA w' w.heap.size (.slice b1 k1 d1) (.slice b2 k2 d2) (.slice b3 k3 d3) (nvL (cgN S Ls Hs Ts l) Ls) (nvL (cgN S Ls Hs Ts l) Hs) (nvL (cgN S Ls Hs Ts l) (caT Ts l))∧Below w.heap.size w w':=by
 have hb0:Below w.heap.size w ((w.alloc (Obj.cells #[.int .i64 S,.slice ao n cap,.slice ao2 n2 cap2,.slice ao3 n3 cap3] 28)).alloc (Obj.cells #[.int .i64 0,.slice none 0 0,.slice none 0 0,.slice none 0 0] 28)):=((Below.refl _ _).alloc (Nat.le_refl _) _).alloc (by simp) _;have HAB0:=ab_new w S (.slice ao n cap) (.slice ao2 n2 cap2) (.slice ao3 n3 cap3) 28;have HB0:Hid (Below w.heap.size w ((w.alloc (Obj.cells #[.int .i64 S,.slice ao n cap,.slice ao2 n2 cap2,.slice ao3 n3 cap3] 28)).alloc (Obj.cells #[.int .i64 0,.slice none 0 0,.slice none 0 0,.slice none 0 0] 28))):=hb0;obtain⟨_,_,_,e,hn,hn2,hn3,ha⟩:=hl.form;cases e;have HN:Hid (l.length=n4):=hn;have HA:Hid (0<n4→∃g o,a4=some ⟨g,o,none⟩∧GAt opE w g o l∧c4≤maxLen):=ha;have HLW:Hid (∀W,Below w.heap.size w W→GS lnkE W (.slice ao n cap) Ls∧GS hstE W (.slice ao2 n2 cap2) Hs∧TS W (.slice ao3 n3 cap3) Ts):=fun W h=>⟨hL.later h,hH.later h,hT.later h⟩
 have n63:n4≤9223372036854775807:=by unfold maxLen at hn2;omega
 obtain⟨X,hX⟩:∃X,X=cgN S Ls Hs Ts l:=⟨_,rfl⟩;have HX:Hid (X=cgN S Ls Hs Ts l):=hX;rw[←hX];clear hL hH hT hl hn hn2 ha hb0 hX;go_enter Tryz.func37,Tryz.ntmps37
 go_wp2_with fail
 refine (ncheck_any S ao n cap ao2 n2 cap2 ao3 n3 cap3 Ls Hs Ts _ (HLW.out _ HB0.out).1 (HLW.out _ HB0.out).2.1 (HLW.out _ HB0.out).2.2).mono ?_;rintro e w1 ⟨rfl,hb1⟩;obtain⟨C,hC⟩:∃C,C=ntN S Ls Hs Ts:=⟨_,rfl⟩;have HC:Hid (C=ntN S Ls Hs Ts):=hC;rw[←hC];have HB1:Hid (Below w.heap.size w w1):=HB0.out.trans (hb1.mono HB0.out.size);have HAB1:Hid (AB w1 w.heap.size S (.slice ao n cap) (.slice ao2 n2 cap2) (.slice ao3 n3 cap3)):=HAB0.later hb1;clear hC hb1 HAB0 HB0;obtain⟨q0,q1,q2,q3⟩:=HAB1.out.r;obtain⟨p0,p1,p2,p3⟩:=HAB1.out.n;have hlt1:=HAB1.out.lt;have hlt0:w.heap.size<w1.heap.size:=by omega
 have f0:=HAB1.out.f 0;have f1:=HAB1.out.f 1;have f2:=HAB1.out.f 2;have f3:=HAB1.out.f 3;by_cases hC0:C=0
 ·subst hC0;rw[no_ok rfl];by_cases h200:200<n4
  ·have HX4:Hid (X=4):=by
    show _=_;rw[HX.out,cgN,if_pos HC.out.symm,if_pos (by rw[HN.out];exact h200)]
   have e4:decide ((200:Int)<(n4:Int))=true:=by simp;omega
   go_wp2;refine bodyPost_ret (v:=.tuple #[.agg #[.int .i64 0,.slice none 0 0,.slice none 0 0,.slice none 0 0],.iface 68 (.int .i64 4)]) (by simp[results,Tryz.results37,go_sem, *]) rfl ?_;rw[HX4.out];exact⟨_,_,_,_,_,_,_,_,_,by rw[nvS,if_neg (by decide)];rfl,by rw[nvL,nvL,nvL,if_neg (by decide),if_neg (by decide),if_neg (by decide)];exact NA.nil _ _,below_pn4 HB1.out (w.heap.size+1) (by omega) _ _ _ _⟩
  have HXC:Hid (X=caN S Ts l):=by
   show _=_;rw[HX.out,cgN,if_pos HC.out.symm,if_neg (by rw[HN.out];exact h200)]
  have e4:decide ((200:Int)<(n4:Int))=false:=by simp;omega
  have HOK:Hid (tsOk Ts):=ok_ts (nt_0 HC.out.symm).2.2;have HSL:Hid ((Ts.length:Int)=S):=(nt_0 HC.out.symm).2.1;have hS6:1≤S∧S≤6:=(tp_0 (nt_0 HC.out.symm).1).1;clear h200
  go_wp2_with fail
  refine (fresh_any S ao n cap ao2 n2 cap2 ao3 n3 cap3 Ls Hs Ts w1 (HLW.out _ HB1.out).1 (HLW.out _ HB1.out).2.1 (HLW.out _ HB1.out).2.2 HC.out.symm).mono ?_;rintro e w2 ⟨b1,k1,d1,b2,k2,d2,b3,k3,d3,vs,rfl,ho1,ho2,hTR,hb2⟩;obtain⟨g,rfl,hk3⟩:∃g,b3=some ⟨g,0,none⟩∧k3=Ts.length:=by
   have hlv:=hTR.lv;have hts:=HSL.out
   rcases hTR.ov.2 with ⟨h,h0⟩ | ⟨g,cap',_,h,_⟩
   ·omega
   simp only[Value.slice.injEq] at h;exact⟨g,h.1,by omega⟩
  have HK3:Hid (k3=Ts.length):=hk3;have HKS:Hid ((k3:Int)=S):=by
   show _=_;rw[hk3];exact HSL.out
  have HO:Hid (w2.heap.size=w2.heap.size):=rfl;have hgl:=hTR.ov.lt g rfl;have HLB:Hid (LB (w2.alloc (Obj.cells #[.int .i64 S,.slice b1 k1 d1,.slice b2 k2 d2,.slice (some ⟨g,0,none⟩) k3 d3] 28)) w.heap.size S (.slice ao n cap) (.slice ao2 n2 cap2) (.slice ao3 n3 cap3) w2.heap.size (.slice b1 k1 d1) (.slice b2 k2 d2) (.slice (some ⟨g,0,none⟩) k3 d3) Ls Hs vs Ts):=by
   have hba:Below w2.heap.size w2 (w2.alloc (Obj.cells #[.int .i64 S,.slice b1 k1 d1,.slice b2 k2 d2,.slice (some ⟨g,0,none⟩) k3 d3] 28)):=(Below.refl _ _).alloc (Nat.le_refl _) _;exact⟨(HAB1.out.later hb2).later hba,nebox_new w2 S _ _ _ 28,(hTR.mono hlt1).later hba,own_below (own_mono ho1 hlt1) hba,own_below (own_mono ho2 hlt1) hba,fun e=>by have e2:some g=some w2.heap.size:=e;simp at e2;omega,Nat.le_trans hlt1 hb2.size⟩
  have HBL:Hid (Below w.heap.size w (w2.alloc (Obj.cells #[.int .i64 S,.slice b1 k1 d1,.slice b2 k2 d2,.slice (some ⟨g,0,none⟩) k3 d3] 28))):=(HB1.out.trans (hb2.mono HB1.out.size)).alloc (Nat.le_trans HB1.out.size hb2.size) _;have hlt2:w.heap.size+1<w2.heap.size:=Nat.lt_of_lt_of_le hlt1 hb2.size;clear ho1 ho2 hTR hb2 hgl HB1 HAB1 q0 q1 q2 q3 p0 p1 p2 p3 f0 f1 f2 f3 hk3 hlt0 hlt1
  generalize hO:w2.heap.size=O at *
  go_wp2
  go_loopw [27] (fun i wr=>∃(k:Nat) (vs:List SlT),k≤n4∧i=.int .i64 k∧caN S Ts (l.take k)=0∧LB wr w.heap.size S (.slice ao n cap) (.slice ao2 n2 cap2) (.slice ao3 n3 cap3) O (.slice b1 k1 d1) (.slice b2 k2 d2) (.slice (some ⟨g,0,none⟩) k3 d3) Ls Hs vs (caT Ts (l.take k))∧Below w.heap.size w wr) (fun i _=>n4-(intOf i).toNat)
  case atStart=>exact⟨0,vs,by omega,rfl,rfl,HLB.out,HBL.out⟩
  case round =>
   obtain⟨k,vs,hk,rfl,hca,hLB,hB⟩:=hrel;clear HLB HBL;have HB:Hid (Below w.heap.size w wr):=hB;have HCA:Hid (caN S Ts (l.take k)=0):=hca;obtain⟨Tk,hTk⟩:∃T,T=caT Ts (l.take k):=⟨_,rfl⟩;have HTK:Hid (Tk=caT Ts (l.take k)):=hTk;rw[←hTk] at hLB;have HLB:Hid (LB wr w.heap.size S (.slice ao n cap) (.slice ao2 n2 cap2) (.slice ao3 n3 cap3) O (.slice b1 k1 d1) (.slice b2 k2 d2) (.slice (some ⟨g,0,none⟩) k3 d3) Ls Hs vs Tk):=hLB;have HTkL:Hid (Tk.length=k3):=by
    show _=_;rw[hTk,ca_len,HK3.out]
   have HOKk:Hid (tsOk Tk):=by
    rw[hTk];exact ca_right HOK.out hca
   have hlt1:=hLB.ab.lt;have hlt0:w.heap.size<wr.heap.size:=by omega
   have hltO:O<wr.heap.size:=bLQ _ _ hLB.o.1;have hneO:O≠w.heap.size+1:=by have:=hLB.bo;omega
   obtain⟨o0,o1,o2,o3⟩:=hLB.o;obtain⟨q0,q1,q2,q3⟩:=hLB.ab.r;have f0:=hLB.ab.f 0;have f1:=hLB.ab.f 1;have f2:=hLB.ab.f 2;have f3:=hLB.ab.f 3;clear hca hTk hLB;by_cases hlt:k<n4
   ·obtain⟨gl,ol,hao,hc,_⟩:=HA.out (by omega);subst hao;obtain⟨y0,ya,p,m,b,q,s,v,hkl,hLk,r0,r1,r2,r3,r4,r5,r6,r7⟩:=op_at (hc.later hB) HN.out hlt;have HLK:Hid (l[k]=⟨y0,ya,⟨p,m,b,q,s,v⟩⟩):=hLk;have HCAT:Hid (caN S Ts l=caN S Tk (⟨y0,ya,⟨p,m,b,q,s,v⟩⟩ :: l.drop (k+1))):=by
     show _=_;rw[HTK.out,←hLk,ca_split hkl HCA.out]
    have kb0:(0:Int)≤(k:Int):=by omega
    have kb1:(k:Int)<(n4:Int):=by omega
    have HOB:=op_new wr y0 ya p m b q s v 90;have HBA:Hid (Below wr.heap.size wr (wr.alloc (Obj.cells #[.int .i64 y0,.bool ya,.int .i64 p,.int .i64 m,.int .i64 b,.int .i64 q,.int .i64 s,.int .i64 v] 90))):=(Below.refl _ _).alloc (Nat.le_refl _) _;clear hLk hB hc
    go_wp2_with fail
    refine (isSwitch_any S y0 _).mono ?_;rintro e wx ⟨rfl,hbx⟩;have HBr:Hid (Below wr.heap.size wr wx):=HBA.out.trans (hbx.mono HBA.out.size);have HBX:Hid (Below w.heap.size w wx):=HB.out.trans (HBr.out.mono HB.out.size);have HLX:Hid (LB wx w.heap.size S (.slice ao n cap) (.slice ao2 n2 cap2) (.slice ao3 n3 cap3) O (.slice b1 k1 d1) (.slice b2 k2 d2) (.slice (some ⟨g,0,none⟩) k3 d3) Ls Hs vs Tk):=HLB.out.later HBr.out;have HOX:Hid (VAt wx wr.heap.size 0 (opE.c ⟨y0,ya,⟨p,m,b,q,s,v⟩⟩)):=HOB.later hbx;have hltw:wr.heap.size<wx.heap.size:=bLQ _ _ (op_cells HOX.out).1;clear hbx HBA HOB q0 q1 q2 q3 f0 f1 f2 f3 o0 o1 o2 o3 r0 r1 r2 r3 r4 r5 r6 r7 HLB HB hlt0 hlt1 hltO;have hlt1:=HLX.out.ab.lt;have hlt0:w.heap.size<wx.heap.size:=by omega
    have hltO:O<wx.heap.size:=bLQ _ _ HLX.out.o.1;obtain⟨o0,o1,o2,o3⟩:=HLX.out.o;obtain⟨q0,q1,q2,q3⟩:=HLX.out.ab.r;have f0:=HLX.out.ab.f 0;have f1:=HLX.out.ab.f 1;have f2:=HLX.out.ab.f 2;have f3:=HLX.out.ab.f 3;cases hsw:swB S y0
    ·have HX1:Hid (X=1):=by
      show _=_;rw[HXC.out,HCAT.out,caN,hsw];rfl
     go_wp2;refine bodyPost_ret (v:=.tuple #[.agg #[.int .i64 0,.slice none 0 0,.slice none 0 0,.slice none 0 0],.iface 68 (.int .i64 1)]) (by simp[results,Tryz.results37,go_sem, *]) rfl ?_;rw[HX1.out];exact⟨_,_,_,_,_,_,_,_,_,by rw[nvS,if_neg (by decide)];rfl,by rw[nvL,nvL,nvL,if_neg (by decide),if_neg (by decide),if_neg (by decide)];exact NA.nil _ _,below_pn4 HBX.out (w.heap.size+1) (by omega) _ _ _ _⟩
    have hw:=sw_of.1 hsw;obtain⟨i,hi⟩:∃i:Nat,y0=(i:Int)+1:=⟨(y0-1).toNat,by omega⟩;have HI:Hid (y0=(i:Int)+1):=hi;have hiN:i<k3:=by have:=HKS.out;omega
    have iw:IntKind.i64.wrap (y0-1)=(i:Int):=by rw[IntKind.wrap_i64];omega
    have iw2:wrap64 (y0-1)=(i:Int):=by unfold wrap64;omega
    have ib0:(0:Int)≤(i:Int):=by omega
    have ib1:(i:Int)<(k3:Int):=by omega
    have HTA:Hid (taT Tk y0=Tk.getD i []):=by
     show _=_;rw[taT]
     congr 1
     omega
    have HXI:Hid (X=if doN (taT Tk y0) ya ⟨p,m,b,q,s,v⟩=0 then caN S (Tk.set i (doL (taT Tk y0) ya ⟨p,m,b,q,s,v⟩)) (l.drop (k+1)) else doN (taT Tk y0) ya ⟨p,m,b,q,s,v⟩):=by
     show _=_;have e7:(y0-1).toNat=i:=by have:=HI.out;omega
     rw[HXC.out,HCAT.out,caN,hsw,if_pos rfl,e7]
    obtain⟨x,hx1,hx2,hx3,hx0,hx4,hx5⟩:=HLX.out.tr.at (i:=i) (by rw[HTkL.out];exact hiN);clear hx0;obtain⟨a5,n5,c5⟩:=x;have HSR:Hid (SR wx (.slice a5 n5 c5) (taT Tk y0)):=by
     rw[HTA.out];exact hx2
    have hx1':wx.cell? ⟨g,i,none⟩=some (.slice a5 n5 c5):=hx1;have HDO:Hid (∀W,Below wx.heap.size wx W→Calls Tryz.prog 68 #[.slice a5 n5 c5,.bool ya,.agg #[.int .i64 p,.int .i64 m,.int .i64 b,.int .i64 q,.int .i64 s,.int .i64 v]] W fun e w'=>∃u,e=.returned (.tuple #[u,noV (doN (taT Tk y0) ya ⟨p,m,b,q,s,v⟩)])∧NR w' wx.heap.size u (doL (taT Tk y0) ya ⟨p,m,b,q,s,v⟩)∧Below wx.heap.size wx w'):=fun W hW=>by
     refine (do_own a5 n5 c5 ya p m b q s v _ W (HSR.out.later hW)).mono ?_;rintro e w' ⟨u,h1,h2,h3⟩;exact⟨u,h1,h2.mono hW.size,hW.trans (h3.mono hW.size)⟩
    have HMK:Hid (∀W,Below wx.heap.size wx W→Below wx.heap.size wx W∧W.cell? ⟨O,3,none⟩=some (.slice (some ⟨g,0,none⟩) k3 d3)∧W.cell? ⟨g,i,none⟩=some (.slice a5 n5 c5)∧W.cell? ⟨wr.heap.size,0,none⟩=some (.int .i64 y0)∧W.cell? ⟨wr.heap.size,1,none⟩=some (.bool ya)∧W.cell? ⟨wr.heap.size,2,none⟩=some (.int .i64 p)∧W.cell? ⟨wr.heap.size,3,none⟩=some (.int .i64 m)∧W.cell? ⟨wr.heap.size,4,none⟩=some (.int .i64 b)∧W.cell? ⟨wr.heap.size,5,none⟩=some (.int .i64 q)∧W.cell? ⟨wr.heap.size,6,none⟩=some (.int .i64 s)∧W.cell? ⟨wr.heap.size,7,none⟩=some (.int .i64 v)):=by
     intro W hW;obtain⟨c0,c1,c2,c3,c4,c5,c6,c7⟩:=op_cells (HOX.out.later hW);simp only[Nat.zero_add] at c0 c1 c2 c3 c4 c5 c6 c7;exact⟨hW,cell_later hW HLX.out.o.2.2.2,cell_later hW hx1',c0,c1,c2,c3,c4,c5,c6,c7⟩
    go_upto_region 12 with fail;clear q0 q1 q2 q3 f0 f1 f2 f3 o0 o1 o2 o3 hx1 hx2 hx3 hx4 hlt0 hlt1 hltO hsw hi hw
    go_cut [10,11,27] from 27 to 66 (fun t e ix w'=>ix=.int .i64 (k:Int)∧e=noV (doN (taT Tk y0) ya ⟨p,m,b,q,s,v⟩)∧NR w' wx.heap.size t (doL (taT Tk y0) ya ⟨p,m,b,q,s,v⟩)∧Below wx.heap.size wx w')
    case first =>
     go_region_held3 (fun W=>Below wx.heap.size wx W∧W.cell? ⟨O,3,none⟩=some (.slice (some ⟨g,0,none⟩) k3 d3)∧W.cell? ⟨g,i,none⟩=some (.slice a5 n5 c5)∧W.cell? ⟨wr.heap.size,0,none⟩=some (.int .i64 y0)∧W.cell? ⟨wr.heap.size,1,none⟩=some (.bool ya)∧W.cell? ⟨wr.heap.size,2,none⟩=some (.int .i64 p)∧W.cell? ⟨wr.heap.size,3,none⟩=some (.int .i64 m)∧W.cell? ⟨wr.heap.size,4,none⟩=some (.int .i64 b)∧W.cell? ⟨wr.heap.size,5,none⟩=some (.int .i64 q)∧W.cell? ⟨wr.heap.size,6,none⟩=some (.int .i64 s)∧W.cell? ⟨wr.heap.size,7,none⟩=some (.int .i64 v))
      (first | assumption | exact HMK.out _ (Below.drew (Below.refl _ _)) | exact HMK.out _ HBD.out)
      (first | (go_at_call 68;refine (HDO.out _ (by first | exact Below.drew (Below.refl _ _) | exact Below.refl _ _)).mono ?_;rintro e w' ⟨u,rfl,hG,hb⟩;have HBD:Hid (Below wx.heap.size wx w'):=hb;have HGD:Hid (NR w' wx.heap.size u (doL (taT Tk y0) ya ⟨p,m,b,q,s,v⟩)):=hG;clear hb hG))
     all_goals (go_wp2_with fail;go_meet)
     all_goals exact⟨rfl,rfl,HGD.out,HBD.out⟩
    case rest =>
     obtain⟨rfl,rfl,hG,hb3⟩:=hcut;have HB3:Hid (Below w.heap.size w wc):=HBX.out.trans (hb3.mono HBX.out.size);have HL3:Hid (LB wc w.heap.size S (.slice ao n cap) (.slice ao2 n2 cap2) (.slice ao3 n3 cap3) O (.slice b1 k1 d1) (.slice b2 k2 d2) (.slice (some ⟨g,0,none⟩) k3 d3) Ls Hs vs Tk):=HLX.out.later hb3;obtain⟨_,_,_,d0,d1_,d2_,d3_,d4,d5,d6,d7⟩:=HMK.out wc hb3;have hltw3:wr.heap.size<wc.heap.size:=bLQ _ _ d0;obtain⟨⟨a6,n6,c6⟩,hx,hoff⟩:=hG.sl
     replace hx:_=Value.slice a6 n6 c6:=hx
     subst hx;have HG3:Hid (SR wc (slV (a6,n6,c6)) (doL (taT Tk y0) ya ⟨p,m,b,q,s,v⟩)):=hG.sr;have HOFF:Hid (∀b,b<wx.heap.size→offB (a6,n6,c6) b):=hoff;obtain⟨D,hD⟩:∃c,c=doN (taT Tk y0) ya ⟨p,m,b,q,s,v⟩:=⟨_,rfl⟩;have HD:Hid (D=doN (taT Tk y0) ya ⟨p,m,b,q,s,v⟩):=hD;rw[←hD];have HWX:Hid (w.heap.size+2≤wx.heap.size):=HLX.out.ab.lt;clear hb3 hG hD hoff HMK HDO HLX HBX;have hlt1:=HL3.out.ab.lt;have hlt0:w.heap.size<wc.heap.size:=by omega
     have hltO:O<wc.heap.size:=bLQ _ _ HL3.out.o.1;obtain⟨o0,o1,o2,o3⟩:=HL3.out.o;obtain⟨q0,q1,q2,q3⟩:=HL3.out.ab.r;have f0:=HL3.out.ab.f 0;have f1:=HL3.out.ab.f 1;have f2:=HL3.out.ab.f 2;have f3:=HL3.out.ab.f 3;by_cases h0:D=0
     ·subst h0;rw[no_ok rfl];obtain⟨yx,hy1,hy2,hy3,hy0,hy4,hy5⟩:=HL3.out.tr.at (i:=i) (by rw[HTkL.out];exact hiN);clear hy0 hy2;have HL4:Hid (LB (wc.setCell ⟨g,i,none⟩ (.slice a6 n6 c6)) w.heap.size S (.slice ao n cap) (.slice ao2 n2 cap2) (.slice ao3 n3 cap3) O (.slice b1 k1 d1) (.slice b2 k2 d2) (.slice (some ⟨g,0,none⟩) k3 d3) Ls Hs (vs.set i (a6,n6,c6)) (caT Ts (l.take (k+1)))):=by
       have:=HL3.out.put (i:=i) (x:=(a6,n6,c6)) HG3.out (HOFF.out g hx5) (fun b h2=>HOFF.out b (by have:=HWX.out;omega));rw[(cs_take hkl HCA.out).2,←HTK.out,HLK.out,caT,caT];have e7:(y0-1).toNat=i:=by have:=HI.out;omega
       rw[e7];exact this
      have HCA4:Hid (caN S Ts (l.take (k+1))=0):=by
       show _=_;rw[(cs_take hkl HCA.out).1,←HTK.out,HLK.out,caN];show (if swB S y0=true then (if doN (taT Tk y0) ya ⟨p,m,b,q,s,v⟩=0 then _ else _) else _)=_;rw[if_pos (sw_of.2 ⟨by have:=HI.out;omega,by have:=HI.out;have:=HKS.out;omega⟩),←HD.out,if_pos rfl,caN]
      have HB4:Hid (Below w.heap.size w (wc.setCell ⟨g,i,none⟩ (.slice a6 n6 c6))):=HB3.out.setCell (p:=⟨g,i,none⟩) (show w.heap.size≤g by omega) _;go_wp2;go_roundw
      case rel=>exact⟨k+1,vs.set i (a6,n6,c6),by omega,by go_num,HCA4.out,HL4.out,HB4.out⟩
      case measure=>simp[intOf];omega
     have HNZ:Hid (D≠0):=h0;have HXD:Hid (X=D):=by
      show _=_;rw[HXI.out,←HD.out,if_neg h0]
     rw[no_ne h0];clear h0;go_wp2;refine bodyPost_ret (v:=.tuple #[.agg #[.int .i64 0,.slice none 0 0,.slice none 0 0,.slice none 0 0],.iface 68 (.int .i64 D)]) (by simp[results,Tryz.results37,go_sem, *]) rfl ?_;rw[HXD.out];exact⟨_,_,_,_,_,_,_,_,_,by rw[nvS,if_neg (HNZ.out),no_ne HNZ.out],by rw[nvL,nvL,nvL,if_neg (HNZ.out),if_neg (HNZ.out),if_neg (HNZ.out)];exact NA.nil _ _,below_pn4 HB3.out (w.heap.size+1) (by omega) _ _ _ _⟩
   obtain rfl:k=n4:=by omega
   have HX0:Hid (X=0):=by
    show _=_;have:=HCA.out;rw[←HN.out,List.take_length] at this;rw[HXC.out,this]
   have HTE:Hid (Tk=caT Ts l):=by
    show _=_;rw[HTK.out,←HN.out,List.take_length]
   clear hB;go_wp2;refine bodyPost_ret (v:=.tuple #[.agg #[.int .i64 S,.slice b1 k1 d1,.slice b2 k2 d2,.slice (some ⟨g,0,none⟩) k3 d3],.nilIface]) (by simp[results,Tryz.results37,go_sem, *]) rfl ?_;rw[HX0.out];have hgp:=grown_put4 wr (w.heap.size+1) (.int .i64 S) (.slice b1 k1 d1) (.slice b2 k2 d2) (.slice (some ⟨g,0,none⟩) k3 d3);have hBE:=below_pn4 HB.out (w.heap.size+1) (by omega) (.int .i64 S) (.slice b1 k1 d1) (.slice b2 k2 d2) (.slice (some ⟨g,0,none⟩) k3 d3);have hTE:=(HLB.out.tr.grown hgp (Nat.zero_le _) (by omega)).mono (B':=w.heap.size) (by omega);rw[HTE.out] at hTE;exact⟨_,_,_,_,_,_,_,_,_,rfl,⟨own_mono (HLB.out.ls.kept hgp (.inr fun e=>by have:=(HLB.out.ls.lt _ e).1;omega)) (by omega),own_mono (HLB.out.hs.kept hgp (.inr fun e=>by have:=(HLB.out.hs.lt _ e).1;omega)) (by omega),vs,hTE⟩,hBE⟩
 have HNZ:Hid (C≠0):=hC0;have HXC:Hid (X=C):=by
  show _=_;rw[HX.out,cgN,←HC.out,if_neg hC0]
 rw[no_ne hC0];clear hC0;go_wp2;refine bodyPost_ret (v:=.tuple #[.agg #[.int .i64 0,.slice none 0 0,.slice none 0 0,.slice none 0 0],.iface 68 (.int .i64 C)]) (by simp[results,Tryz.results37,go_sem, *]) rfl ?_;rw[HXC.out];exact⟨_,_,_,_,_,_,_,_,_,by rw[nvS,if_neg (HNZ.out),no_ne HNZ.out],by rw[nvL,nvL,nvL,if_neg (HNZ.out),if_neg (HNZ.out),if_neg (HNZ.out)];exact NA.nil _ _,below_pn4 HB1.out (w.heap.size+1) (by omega) _ _ _ _⟩
theorem chApply_any (S:Int)(ao:Option Addr)(n cap:Nat)(ao2:Option Addr)(n2 cap2:Nat)(ao3:Option Addr)(n3 cap3:Nat)(a4:Option Addr)(n4 c4:Nat)(Ls:LkQ)(Hs:HoQ)(Ts:List (List Ru))(l:List Op8)(w:World)
 (hL:GS lnkE w (.slice ao n cap) Ls) (hH:GS hstE w (.slice ao2 n2 cap2) Hs) (hT:TS w (.slice ao3 n3 cap3) Ts) (hl:GS opE w (.slice a4 n4 c4) l):
 Calls Tryz.prog 37 #[.agg #[.int .i64 S,.slice ao n cap,.slice ao2 n2 cap2,.slice ao3 n3 cap3],.slice a4 n4 c4] w fun e w'=>∃b1 k1 d1 b2 k2 d2 b3 k3 d3,e=.returned (.tuple #[.agg #[.int .i64 (nvS (cgN S Ls Hs Ts l) S),.slice b1 k1 d1,.slice b2 k2 d2,.slice b3 k3 d3],noV (cgN S Ls Hs Ts l)])∧GS lnkE w' (.slice b1 k1 d1) (nvL (cgN S Ls Hs Ts l) Ls)∧GS hstE w' (.slice b2 k2 d2) (nvL (cgN S Ls Hs Ts l) Hs)∧TS w' (.slice b3 k3 d3) (nvL (cgN S Ls Hs Ts l) (caT Ts l))∧Below w.heap.size w w':=
 (chApply_own S ao n cap ao2 n2 cap2 ao3 n3 cap3 a4 n4 c4 Ls Hs Ts l w hL hH hT hl).mono fun e w' ⟨b1,k1,d1,b2,k2,d2,b3,k3,d3,e1,e2,e3⟩=>⟨b1,k1,d1,b2,k2,d2,b3,k3,d3,e1,e2.gs.1,e2.gs.2.1,e2.gs.2.2,e3⟩
theorem GS.take {α:Type}{E:Enc α}{W:World}{ao:Option Addr}{n cap c:Nat}{L:List α}(h:GS E W (.slice ao n cap) L)(hc:c≤n):GS E W (.slice ao c cap) (L.take c):=by
 rcases h with ⟨ao',cap',e,rfl⟩ | ⟨g,o,cap',e,h1,h2,h3⟩
 ·simp only[Value.slice.injEq] at e;obtain⟨rfl,rfl,rfl⟩:=e;obtain rfl:c=0:=by omega
  exact .inl ⟨_,_,rfl,by simp⟩
 simp only[Value.slice.injEq] at e;obtain⟨rfl,rfl,rfl⟩:=e;have e1:(L.take c).length=c:=by rw[List.length_take];omega
 exact .inr ⟨g,o,cap,by rw[e1],by rw[e1];omega,h2,h3.take c⟩
theorem GS.drop {α:Type}{E:Enc α}{W:World}{g o n cap c:Nat}{L:List α}(h:GS E W (.slice (some ⟨g,o,none⟩) n cap) L)(hc:c≤n):GS E W (.slice (some ⟨g,o+c*E.n,none⟩) (n-c) (cap-c)) (L.drop c):=by
 rcases h with ⟨ao',cap',e,rfl⟩ | ⟨g',o',cap',e,h1,h2,h3⟩
 ·simp only[Value.slice.injEq] at e;obtain⟨rfl,rfl,rfl⟩:=e;obtain rfl:c=0:=by omega
  exact .inl ⟨_,_,rfl,by simp⟩
 simp only[Value.slice.injEq,Option.some.injEq,Addr.mk.injEq,and_true] at e;obtain⟨⟨rfl,rfl⟩,rfl,rfl⟩:=e;have e1:(L.drop c).length=L.length-c:=List.length_drop;exact .inr ⟨g,o+c*E.n,cap-c,by rw[e1],by rw[e1];omega,Nat.le_trans (Nat.sub_le _ _) h2,h3.drop c⟩
structure BN (W:World)(b:Nat)(S:Int)(v1 v2 v3:Value)(Ls:LkQ)(Hs:HoQ)(Ts:List (List Ru)):Prop where
 c:NeBox W b S v1 v2 v3
 l:GS lnkE W v1 Ls
 h:GS hstE W v2 Hs
 t:TS W v3 Ts
theorem BN.later {W W':World}{b:Nat}{S:Int}{v1 v2 v3:Value}{Ls:LkQ}{Hs:HoQ}{Ts:List (List Ru)}(h:BN W b S v1 v2 v3 Ls Hs Ts)(hb:Below W.heap.size W W'):BN W' b S v1 v2 v3 Ls Hs Ts:=⟨h.c.later hb,h.l.later hb,h.h.later hb,h.t.later hb⟩
theorem BN.lt {W:World}{b:Nat}{S:Int}{v1 v2 v3:Value}{Ls:LkQ}{Hs:HoQ}{Ts:List (List Ru)}(h:BN W b S v1 v2 v3 Ls Hs Ts):b<W.heap.size:=bLQ W ⟨b,0,none⟩ h.c.1
def PN (W:World)(p:Value)(S:Int)(Ls:LkQ)(Hs:HoQ)(Ts:List (List Ru)):Prop:=
 ∃b ao n cap ao2 n2 cap2 ao3 n3 cap3,p=.pointer (some ⟨b,0,none⟩)∧BN W b S (.slice ao n cap) (.slice ao2 n2 cap2) (.slice ao3 n3 cap3) Ls Hs Ts
theorem bn_new {w:World}{S:Int}{v1 v2 v3:Value}{Ls:LkQ}{Hs:HoQ}{Ts:List (List Ru)}(t:TypeId)(h1:GS lnkE w v1 Ls)(h2:GS hstE w v2 Hs)(h3:TS w v3 Ts):BN (w.alloc (Obj.cells #[.int .i64 S,v1,v2,v3] t)) w.heap.size S v1 v2 v3 Ls Hs Ts:=by
 have hb:Below w.heap.size w (w.alloc (Obj.cells #[.int .i64 S,v1,v2,v3] t)):=(Below.refl _ _).alloc (Nat.le_refl _) _;exact⟨nebox_new w S v1 v2 v3 t,h1.later hb,h2.later hb,h3.later hb⟩
theorem balloc4 {w w':World}{a b c d:Value}{t:TypeId}(hb:Below (w.drew.alloc (Obj.cells #[a,b,c,d] t)).heap.size (w.drew.alloc (Obj.cells #[a,b,c,d] t)) w'):(w'.cell? ⟨w.heap.size,0,none⟩=some a∧w'.cell? ⟨w.heap.size,1,none⟩=some b∧w'.cell? ⟨w.heap.size,2,none⟩=some c∧w'.cell? ⟨w.heap.size,3,none⟩=some d)∧∀i,w'.frozen? ⟨w.heap.size,i,none⟩=false:=by
 have h:=vat_new w.drew [a,b,c,d] t;have hl:w.heap.size<(w.drew.alloc (Obj.cells #[a,b,c,d] t)).heap.size:=by simp
 refine⟨⟨cell_later hb (h 0 _ rfl),cell_later hb (h 1 _ rfl),cell_later hb (h 2 _ rfl),cell_later hb (h 3 _ rfl)⟩,fun i=>(hb.frozen (p:=⟨w.heap.size,i,none⟩) hl).trans ?_⟩;have h2:=heap_alloc_new w.drew (Obj.cells #[a,b,c,d] t);have e:w.drew.heap.size=w.heap.size:=rfl;rw[e] at h2;simp only[World.frozen?,h2];simp
theorem put4_cells {W:World}{g:Nat}{a b c d u v x y:Value}(k:W.cell? ⟨g,0,none⟩=some u∧W.cell? ⟨g,1,none⟩=some v∧W.cell? ⟨g,2,none⟩=some x∧W.cell? ⟨g,3,none⟩=some y):(put4 W g a b c d).cell? ⟨g,0,none⟩=some a∧(put4 W g a b c d).cell? ⟨g,1,none⟩=some b∧(put4 W g a b c d).cell? ⟨g,2,none⟩=some c∧(put4 W g a b c d).cell? ⟨g,3,none⟩=some d:=by
 obtain⟨k0,k1,k2,k3⟩:=k;unfold put4;have o:∀(W:World) (i j:Nat) (x:Value),i≠j→(W.setCell ⟨g,i,none⟩ x).cell? ⟨g,j,none⟩=W.cell? ⟨g,j,none⟩:=fun W i j x h=>World.cell?_setCell_other _ _ _ _ (by intro e;exact h (by injection e))
 refine⟨?_,?_,?_,?_⟩
 ·rw[o _ _ _ _ (by decide),o _ _ _ _ (by decide),o _ _ _ _ (by decide)];exact World.cell?_setCell_same _ _ _ k0
 ·rw[o _ _ _ _ (by decide),o _ _ _ _ (by decide)];exact World.cell?_setCell_same _ _ _ (by rw[o _ _ _ _ (by decide)];exact k1)
 ·rw[o _ _ _ _ (by decide)];exact World.cell?_setCell_same _ _ _ (by rw[o _ _ _ _ (by decide),o _ _ _ _ (by decide)];exact k2)
 exact World.cell?_setCell_same _ _ _ (by rw[o _ _ _ _ (by decide),o _ _ _ _ (by decide),o _ _ _ _ (by decide)];exact k3)
theorem pn_new {W:World}{B:Nat}{S:Int}{a1:Option Addr}{k1 d1:Nat}{a2:Option Addr}{k2 d2:Nat}{a3:Option Addr}{k3 d3:Nat}{Ls:LkQ}{Hs:HoQ}{Ts:List (List Ru)}(t:TypeId)(h:NA W B (.slice a1 k1 d1) (.slice a2 k2 d2) (.slice a3 k3 d3) Ls Hs Ts):
 PN (W.alloc (Obj.cells #[.int .i64 S,.slice a1 k1 d1,.slice a2 k2 d2,.slice a3 k3 d3] t)) (.pointer (some ⟨W.heap.size,0,none⟩)) S Ls Hs Ts:=⟨_,_,_,_,_,_,_,_,_,_,rfl,bn_new t h.gs.1 h.gs.2.1 h.gs.2.2⟩
theorem pn_put {W:World}{B g:Nat}{S:Int}{a1:Option Addr}{k1 d1:Nat}{a2:Option Addr}{k2 d2:Nat}{a3:Option Addr}{k3 d3:Nat}{Ls:LkQ}{Hs:HoQ}{Ts:List (List Ru)}{x y z u:Value}(h:NA W B (.slice a1 k1 d1) (.slice a2 k2 d2) (.slice a3 k3 d3) Ls Hs Ts)(hg:g<B)(k:W.cell? ⟨g,0,none⟩=some u∧W.cell? ⟨g,1,none⟩=some x∧W.cell? ⟨g,2,none⟩=some y∧W.cell? ⟨g,3,none⟩=some z):
 PN (put4 W g (.int .i64 S) (.slice a1 k1 d1) (.slice a2 k2 d2) (.slice a3 k3 d3)) (.pointer (some ⟨g,0,none⟩)) S Ls Hs Ts:=by
 have h2:=(h.put (grown_put4 W g (.int .i64 S) (.slice a1 k1 d1) (.slice a2 k2 d2) (.slice a3 k3 d3)) hg).gs;exact⟨_,_,_,_,_,_,_,_,_,_,rfl,put4_cells k,h2.1,h2.2.1,h2.2.2⟩
def ZB (W:World)(g:Nat):Prop:=(W.cell? ⟨g,0,none⟩=some (.int .i64 0)∧W.cell? ⟨g,1,none⟩=some (.slice none 0 0)∧W.cell? ⟨g,2,none⟩=some (.slice none 0 0)∧W.cell? ⟨g,3,none⟩=some (.slice none 0 0))∧∀i,W.frozen? ⟨g,i,none⟩=false
theorem ZB.lt {W:World}{g:Nat}(h:ZB W g):g<W.heap.size:=bLQ W ⟨g,0,none⟩ h.1.1
theorem ZB.later {W W':World}{g:Nat}(h:ZB W g)(hb:Below W.heap.size W W'):ZB W' g:=⟨⟨cell_later hb h.1.1,cell_later hb h.1.2.1,cell_later hb h.1.2.2.1,cell_later hb h.1.2.2.2⟩,fun i=>(hb.frozen (p:=⟨g,i,none⟩) h.lt).trans (h.2 i)⟩
theorem zb_d {w w':World}{t:TypeId}(hb:Below (w.drew.alloc (Obj.cells #[.int .i64 0,.slice none 0 0,.slice none 0 0,.slice none 0 0] t)).heap.size (w.drew.alloc (Obj.cells #[.int .i64 0,.slice none 0 0,.slice none 0 0,.slice none 0 0] t)) w'):ZB w' w.heap.size:=balloc4 hb
theorem zb_a {w w':World}{t:TypeId}(hb:Below (w.alloc (Obj.cells #[.int .i64 0,.slice none 0 0,.slice none 0 0,.slice none 0 0] t)).heap.size (w.alloc (Obj.cells #[.int .i64 0,.slice none 0 0,.slice none 0 0,.slice none 0 0] t)) w'):ZB w' w.heap.size:=
 have h:=wb_new w 0 (.slice none 0 0) (.slice none 0 0) (.slice none 0 0) t
 ZB.later (W:=w.alloc (Obj.cells #[.int .i64 0,.slice none 0 0,.slice none 0 0,.slice none 0 0] t)) ⟨h.c,h.f⟩ hb
section
variable {Ls:LkQ}{Hs:HoQ}{Ts:List (List Ru)}
def NxH (Ls:LkQ)(Hs:HoQ)(Ts:List (List Ru))(p q:(Int×Int)×Int):Prop:=∃o,stO Ts p=some o∧atO Hs o.1=none∧peerO Ls o.1=some q.1∧q.2=o.2
def atH (l:HpQ)(i:Nat):(Int×Int)×Int:=l.getD i zeH
def enE (Ls:LkQ)(Hs:HoQ)(Ts:List (List Ru))(l:HpQ)(p:(Int×Int)×Int):(Int×ByteArray) ⊕ ((Int×Int)×Int):=goE Ls Hs (taT Ts p.1.1) l p
theorem la_at (l:HpQ):laH l=atH l (l.length-1):=rfl
theorem at_app (l:HpQ)(p:(Int×Int)×Int):atH (l++[p]) l.length=p:=by simp[atH,List.getD]
theorem en_r {l:HpQ}{p q:(Int×Int)×Int}(h:enE Ls Hs Ts l p=.inr q):NxH Ls Hs Ts p q∧l.length≠24∧q ∉ l:=by
 unfold enE goE at h;cases hs:stT (taT Ts p.1.1) p with
 | none=>rw[hs] at h;cases h
 | some o =>
   rw[hs] at h;simp only at h;cases ha:atO Hs o.1 with
   | some m=>rw[ha] at h;cases h
   | none =>
     rw[ha] at h;simp only at h;cases hp:peerO Ls o.1 with
     | none=>rw[hp] at h;cases h
     | some s =>
       rw[hp] at h;simp only at h
       split at h
       ·cases h
       next hn =>
       cases h;rw[not_or] at hn;refine⟨⟨o,hs,ha,hp,rfl⟩,hn.1,fun hm=>hn.2 ?_⟩;exact List.any_eq_true.2 ⟨_,hm,(heB_iff _ _).2 rfl⟩
theorem fo_s (n:Nat)(l:HpQ):foF Ls Hs Ts (n+1) l=match enE Ls Hs Ts l (laH l) with | .inl e=>(e.1,e.2,l) | .inr p=>foF Ls Hs Ts n (l++[p]):=rfl
end
theorem aph_fin:∀s v h:Fin 16,(bits .andNot .i64 ((v:Nat):Int) ((s:Nat):Int)==0)=true→hdrB (apV ((s:Nat):Int) ((v:Nat):Int) ((h:Nat):Int))=true:=by decide +kernel
theorem ap_hdr {p m b o s v h:Int}(hr:apN p m b o s v h=0):hdrB (apR p m b o s v h)=true:=by
 obtain⟨h1,h2,_,_⟩:=ap_yes hr;obtain⟨g1,_,g3⟩:=ru_ok h1;obtain⟨_,hs,hv⟩:=ru_in g1;obtain⟨s',rfl⟩:=small hs;obtain⟨v',rfl⟩:=small hv;obtain⟨h',rfl⟩:=small (hdr_of h2);simp only[ruSet,Bool.and_eq_true] at g3;rw[apR,if_pos hr];exact aph_fin s' v' h' g3.1
section
variable {S:Int}{Ls:LkQ}{Hs:HoQ}{Ts:List (List Ru)}
theorem st_hdr {p o:(Int×Int)×Int}(h:stO Ts p=some o):hdrB o.2=true∧o.1.1=p.1.1:=by
 unfold stO stT at h
 split at h
 ·split at h
  ·next hr =>
   cases h;exact⟨ap_hdr hr,rfl⟩
  cases h
 cases h
theorem peer_sp (ht:tpN S Ls Hs=0){s p:Int×Int}(h:peerO Ls s=some p):spB S p=true:=(tp_0 ht).2.2.1 p (peer_in h).2
theorem nx_good (ht:tpN S Ls Hs=0){p q:(Int×Int)×Int}(h:NxH Ls Hs Ts p q):spB S q.1=true∧hdrB q.2=true:=by
 obtain⟨o,h1,_,h3,h4⟩:=h;exact⟨peer_sp ht h3,by rw[h4];exact (st_hdr h1).1⟩
end
structure Wi where
 k:Int
 f:ByteArray
 t:ByteArray
 v:Int
def zeW:Wi:=⟨0,ByteArray.empty,ByteArray.empty,0⟩
def abW (w:Wi)(n:ByteArray):Bool:=(w.k==4) || (w.f==n)
def thW (w:Wi)(F:Int×ByteArray×HpQ):Bool:=(F.1==1)&&(F.2.1==w.t)
def haW (v:Int)(l:HpQ):Bool:=l.any fun h=>h.1.1==v
def fiB (w:Wi)(n:ByteArray)(F:Int×ByteArray×HpQ):Bool:=
 if abW w n then (if w.k=1 then thW w F else if w.k=2 then !thW w F else if w.k=3 then (!thW w F || haW w.v F.2.2) else if w.k=4 then !(F.1==4) else true) else true
def wkB (k:Int):Bool:=decide (1≤k)&&decide (k≤4)
def viB (w:Wi)(S:Int):Bool:=(w.k != 3) || swB S w.v
def nlB (w:Wi):Bool:=(w.f==ByteArray.empty)&&(w.t==ByteArray.empty)
def hoB (Hs:HoQ)(n:ByteArray):Bool:=Hs.any fun h=>h.1==n
def veB (w:Wi):Bool:=(w.k != 3)&&(w.v != 0)
def woN (S:Int)(Hs:HoQ)(w:Wi):Int:=
 if !wkB w.k || (!viB w S || veB w) then 1 else if w.k=4 then (if nlB w then 0 else 3) else if hoB Hs w.f&&hoB Hs w.t then 0 else 5
def wsTo (S:Int)(Hs:HoQ)(l:List Wi):Nat→Int
 | 0=>0
 | k+1=>if wsTo S Hs l k=0 then woN S Hs (l.getD k zeW) else wsTo S Hs l k
def wsN (S:Int)(Ls:LkQ)(Hs:HoQ)(l:List Wi):Int:=
 if tpN S Ls Hs=0 then (if 8<l.length then 4 else wsTo S Hs l l.length) else tpN S Ls Hs
theorem ws_le {S:Int}{Hs:HoQ}{l:List Wi}{k:Nat}(h:wsTo S Hs l k≠0):∀{n:Nat},k≤n→wsTo S Hs l n=wsTo S Hs l k
 | 0,hn=>by
   obtain rfl:k=0:=by omega
   rfl
 | n+1,hn=>by
   by_cases e:k=n+1
   ·subst e;rfl
   have:=ws_le h (show k≤n by omega);rw[wsTo,if_neg (by rw[this];exact h),this]
theorem getW {l:List Wi}{k:Nat}(hk:k<l.length):l.getD k zeW=l[k]:=by simp[List.getD,hk]
section
variable (Ls:LkQ)(Hs:HoQ)(Ts:List (List Ru))
def brB (w:Wi)(x:ByteArray×(Int×Int))(h:Int):Bool := !fiB w x.1 (frF Ls Hs Ts x.2 h)
def brH (w:Wi)(x:ByteArray×(Int×Int)):Nat→Int
 | 0 => -1
 | k+1=>if brH w x k<0 then (if brB Ls Hs Ts w x (k:Int) then (k:Int) else -1) else brH w x k
def zeO:ByteArray×(Int×Int):=(ByteArray.empty,(0,0))
def brX (w:Wi)(Xs:HoQ):Nat→Option (Nat×Int)
 | 0=>none
 | k+1=>match brX w Xs k with
   | some x=>some x
   | none=>if 0≤brH Ls Hs Ts w (Xs.getD k zeO) 16 then some (k,brH Ls Hs Ts w (Xs.getD k zeO) 16) else none
def brW (l:List Wi)(Xs:HoQ):Nat→Option (Nat×Nat×Int)
 | 0=>none
 | k+1=>match brW l Xs k with
   | some x=>some x
   | none=>match brX Ls Hs Ts (l.getD k zeW) Xs Xs.length with
     | some p=>some (k,p.1,p.2)
     | none=>none
end
section
variable {Ls:LkQ}{Hs:HoQ}{Ts:List (List Ru)}
theorem brH_le {w:Wi}{x:ByteArray×(Int×Int)}{k:Nat}(h:0≤brH Ls Hs Ts w x k):∀{n:Nat},k≤n→brH Ls Hs Ts w x n=brH Ls Hs Ts w x k
 | 0,hn=>by
   obtain rfl:k=0:=by omega
   rfl
 | n+1,hn=>by
   by_cases e:k=n+1
   ·subst e;rfl
   have:=brH_le h (show k≤n by omega);rw[brH,if_neg (by rw[this];omega),this]
theorem brH_no {w:Wi}{x:ByteArray×(Int×Int)}{k:Nat}(h:brH Ls Hs Ts w x k<0)(h2:brB Ls Hs Ts w x (k:Int)=false):brH Ls Hs Ts w x (k+1)<0:=by
 rw[brH,if_pos h,h2];simp
theorem brH_yes {w:Wi}{x:ByteArray×(Int×Int)}{k:Nat}(hk:k<16)(h:brH Ls Hs Ts w x k<0)(h2:brB Ls Hs Ts w x (k:Int)=true):brH Ls Hs Ts w x 16=k:=by
 have e:brH Ls Hs Ts w x (k+1)=k:=by
  rw[brH,if_pos h,h2];simp
 rw[brH_le (k:=k+1) (by rw[e];omega) (by omega),e]
variable {Xs:HoQ}
theorem brX_le {w:Wi}{k:Nat}{p:Nat×Int}(h:brX Ls Hs Ts w Xs k=some p):∀{n:Nat},k≤n→brX Ls Hs Ts w Xs n=some p
 | 0,hn=>by
   obtain rfl:k=0:=by omega
   exact h
 | n+1,hn=>by
   by_cases e:k=n+1
   ·subst e;exact h
   rw[brX,brX_le h (show k≤n by omega)]
theorem getO {Xs:HoQ}{k:Nat}(hk:k<Xs.length):Xs.getD k zeO=Xs[k]:=by simp[List.getD,hk]
theorem brX_no {w:Wi}{k:Nat}(hk:k<Xs.length)(h:brX Ls Hs Ts w Xs k=none)(h2:brH Ls Hs Ts w Xs[k] 16<0):brX Ls Hs Ts w Xs (k+1)=none:=by
 rw[brX,h];simp only;rw[getO hk,if_neg (by omega)]
theorem brX_yes {w:Wi}{k:Nat}(hk:k<Xs.length)(h:brX Ls Hs Ts w Xs k=none)(h2:0≤brH Ls Hs Ts w Xs[k] 16):brX Ls Hs Ts w Xs Xs.length=some (k,brH Ls Hs Ts w Xs[k] 16):=by
 refine brX_le (k:=k+1) ?_ (by omega);rw[brX,h];simp only;rw[getO hk,if_pos h2]
variable {l:List Wi}
theorem brW_le {k:Nat}{p:Nat×Nat×Int}(h:brW Ls Hs Ts l Xs k=some p):∀{n:Nat},k≤n→brW Ls Hs Ts l Xs n=some p
 | 0,hn=>by
   obtain rfl:k=0:=by omega
   exact h
 | n+1,hn=>by
   by_cases e:k=n+1
   ·subst e;exact h
   rw[brW,brW_le h (show k≤n by omega)]
theorem brW_no {k:Nat}(hk:k<l.length)(h:brW Ls Hs Ts l Xs k=none)(h2:brX Ls Hs Ts l[k] Xs Xs.length=none):brW Ls Hs Ts l Xs (k+1)=none:=by
 rw[brW,h];simp only;rw[getW hk,h2]
theorem brW_yes {k:Nat}(hk:k<l.length)(h:brW Ls Hs Ts l Xs k=none){p:Nat×Int}(h2:brX Ls Hs Ts l[k] Xs Xs.length=some p):brW Ls Hs Ts l Xs l.length=some (k,p.1,p.2):=by
 refine brW_le (k:=k+1) ?_ (by omega);rw[brW,h];simp only;rw[getW hk,h2]
end
def prV (Hs:HoQ):Option (Nat×Nat×Int)→Int×ByteArray×Int
 | none=>(0,ByteArray.empty,0)
 | some p=>((p.1:Int),(Hs.getD p.2.1 zeO).1,p.2.2)
def wiN (S:Int)(Ls:LkQ)(Hs:HoQ)(Ts:List (List Ru))(l:List Wi):Int:=
 if ntN S Ls Hs Ts=0 then (if wsN S Ls Hs l=0 then (if (brW Ls Hs Ts l Hs l.length).isSome then 9 else 0) else wsN S Ls Hs l) else ntN S Ls Hs Ts
def wiV (S:Int)(Ls:LkQ)(Hs:HoQ)(Ts:List (List Ru))(l:List Wi):Int×ByteArray×Int:=
 if ntN S Ls Hs Ts=0∧wsN S Ls Hs l=0 then prV Hs (brW Ls Hs Ts l Hs l.length) else (0,ByteArray.empty,0)
end
section
open Go.ChangeShapes Go.WideShapes Go.ChangeAt Go.RowKit Go.Joins
def wisE:Enc (Wi) where
 c:=fun x=>[.int .i64 x.k,.string x.f,.string x.t,.int .i64 x.v]
 n:=4
 len:=fun _=>rfl
 pos:=by decide
 one:=by
  intro x u hu;simp at hu
  rcases hu with rfl | rfl | rfl | rfl <;> rfl
theorem wis_cells {w:World}{g o:Nat}{x0:Int}{x1 x2:ByteArray}{x3:Int}(h:VAt w g o (wisE.c ⟨x0,x1,x2,x3⟩)):w.cell? ⟨g,o,none⟩=some (.int .i64 x0)∧w.cell? ⟨g,o+1,none⟩=some (.string x1)∧w.cell? ⟨g,o+2,none⟩=some (.string x2)∧w.cell? ⟨g,o+3,none⟩=some (.int .i64 x3):=
 ⟨h 0 _ rfl,h 1 _ rfl,h 2 _ rfl,h 3 _ rfl⟩
theorem wis_at {w:World}{g o:Nat}{L:List (Wi)}(h:GAt wisE w g o L){n k:Nat}(hn:L.length=n)(hk:k<n):
 ∃(x0:Int) (x1:ByteArray) (x2:ByteArray) (x3:Int) (hl:k<L.length),L[k]=⟨x0,x1,x2,x3⟩∧w.cell? ⟨g,o+k*4,none⟩=some (.int .i64 x0)∧w.cell? ⟨g,o+k*4+1,none⟩=some (.string x1)∧w.cell? ⟨g,o+k*4+2,none⟩=some (.string x2)∧w.cell? ⟨g,o+k*4+3,none⟩=some (.int .i64 x3):=
 have hl:k<L.length:=by omega
 ⟨_,_,_,_,hl,rfl,wis_cells (h k hl)⟩
theorem wis_open {H:Type}{enc:TypeId×Value→H}{W:World}{n:Nat}{cs:List Value}{x:DataW H×List MemPlace}
 (h:DataW.trod enc Tryz.prog W 0 (fun _=>true) true n 80 cs=some x):∃y,cs=wisE.c y:=by
 obtain⟨xs,k,_,_,hl,hlen,hf⟩:=DataW.trod_struct Tryz.underlying80 h;have hC:Tryz.prog.cellsOf 80=4:=by kernel_rfl
 have hT0:Tryz.prog.cellsOf 3=1:=by kernel_rfl
 have hT1:Tryz.prog.cellsOf 9=1:=by kernel_rfl
 rw[hC] at hl
 match cs,hl with
 | [c0,c1,c2,c3],_ =>
   match xs,hlen with
   | [z0,z1,z2,z3],_ =>
     have g0:=hf 0 _ rfl;have g1:=hf 1 _ rfl;have g2:=hf 2 _ rfl;have g3:=hf 3 _ rfl;simp[hT0,hT1] at g0 g1 g2 g3;obtain⟨v0,e0,_,_⟩:=DataW.trod_int Tryz.underlying3 g0;obtain⟨v1,e1,_,_⟩:=DataW.trod_string Tryz.underlying9 g1;obtain⟨v2,e2,_,_⟩:=DataW.trod_string Tryz.underlying9 g2;obtain⟨v3,e3,_,_⟩:=DataW.trod_int Tryz.underlying3 g3;simp[] at e0 e1 e2 e3;refine⟨⟨v0,v1,v2,v3⟩,?_⟩;simp[wisE,e0,e1,e2,e3]
theorem wiss_of {H:Type}{enc:TypeId×Value→H}{W:World}{base:Nat}{v:Value}{d:DataW H}{p:List MemPlace}
 (hv:Value.okWide Tryz.prog W .any base 29 v) (h:DataW.Trod enc Tryz.prog W 0 (fun _=>true) true 29 v d p):∃L,GS wisE W v L:=
 gs_of (E:=wisE) 29 80 Tryz.underlying29 (by kernel_rfl) ⟨0,ByteArray.empty,ByteArray.empty,0⟩ (fun _ _ _ h=>wis_open h) hv h
end
section
open Go.RowKit
def hstAsks (w:World)(f:FuncId)(c:Value)(P:ByteArray×(Int×Int)→Bool):Prop:=
 ∀(x0:ByteArray) (x1:Int) (x2:Int) (W:World),Below w.heap.size w W→Calls Tryz.prog f #[.agg #[.string x0,.int .i64 x1,.int .i64 x2],c] W fun e w'=>e=.returned (.bool (P (x0,(x1,x2))))∧Below W.heap.size W w'
theorem hstAsks.later {w w':World}{f:FuncId}{c:Value}{P:ByteArray×(Int×Int)→Bool}(h:hstAsks w f c P)(hb:Below w.heap.size w w'):hstAsks w' f c P:=
 fun x0 x1 x2 W hW=>h x0 x1 x2 W (hb.trans (hW.mono hb.size))
theorem hst_idxF (ao:Option Addr)(n cap:Nat)(f:FuncId)(c:Value)(P:ByteArray×(Int×Int)→Bool)(L:HoQ)(w:World)(hn:L.length=n)(hn2:n≤maxLen)(ha:0<n→∃g o,ao=some ⟨g,o,none⟩∧GAt hstE w g o L∧cap≤maxLen)(he:∀args w,(callFunc f args).run Tryz.prog w=.ok (.enter f args) w)(hf:hstAsks w f c P):
 Calls Tryz.prog 137 #[.slice ao n cap,.func (Fn.func f) #[] #[c]] w fun e w'=>e=.returned (.int .i64 (ixG P L))∧Below w.heap.size w w':=by
 have HN:Hid (L.length=n):=hn;have HF:Hid (hstAsks w f c P):=hf;have HA:Hid (0<n→∃g o,ao=some ⟨g,o,none⟩∧GAt hstE w g o L∧cap≤maxLen):=ha;unfold maxLen at hn2;clear hn hf ha;go_enter Tryz.func137,Tryz.ntmps137;go_wp2
 go_loopw [8] (fun i wr=>∃k:Nat,k≤n∧i=.int .i64 k∧(L.take k).any P=false∧Below w.heap.size w wr)
  (fun i _=>n-(intOf i).toNat)
 case atStart=>exact⟨0,by omega,rfl,by simp,Below.refl _ _⟩
 case round =>
  obtain⟨k,hk,rfl,hno,hB⟩:=hrel;have HB:Hid (Below w.heap.size w wr):=hB;have HNO:Hid ((L.take k).any P=false):=hno;clear hno;by_cases hlt:k<n
  ·obtain⟨g,o,hao,hc,_⟩:=HA.out (by omega);subst hao;obtain⟨x0,x1,x2,hkl,hL,q0,q1,q2⟩:=hst_at (hc.later hB) HN.out hlt;have HL:Hid (L[k]=(x0,(x1,x2))):=hL;clear hL hB;cases ho:P (x0,(x1,x2))
   ·go_wp2_with fail
    refine (HF.out x0 x1 x2 _ HB.out).mono ?_;rintro e w1 ⟨rfl,hb1⟩;rw[ho];have HB1:=HB.out.trans (hb1.mono HB.out.size);clear hb1;go_wp2;go_roundw
    case rel=>exact⟨k+1,by omega,by go_num,any_nextG hkl HNO.out (by rw[HL.out];exact ho),HB1⟩
    case measure=>simp[intOf];omega
   go_wp2_with fail
   refine (HF.out x0 x1 x2 _ HB.out).mono ?_;rintro e w1 ⟨rfl,hb1⟩;rw[ho];go_wp2;go_ret;exact⟨by rw[ixG_hit hkl HNO.out (by rw[HL.out];exact ho)];rfl,HB.out.trans (hb1.mono HB.out.size)⟩
  obtain rfl:k=n:=by omega
  go_wp2;go_ret;exact⟨by have:=HNO.out;rw[←HN.out,List.take_length] at this;rw[ixG_no this];rfl,HB.out⟩
theorem hst_hasF (ao:Option Addr)(n cap:Nat)(f:FuncId)(c:Value)(P:ByteArray×(Int×Int)→Bool)(L:HoQ)(w:World)(hn:L.length=n)(hn2:n≤maxLen)(ha:0<n→∃g o,ao=some ⟨g,o,none⟩∧GAt hstE w g o L∧cap≤maxLen)(he:∀args w,(callFunc f args).run Tryz.prog w=.ok (.enter f args) w)(hf:hstAsks w f c P):
 Calls Tryz.prog 153 #[.slice ao n cap,.func (Fn.func f) #[] #[c]] w fun e w'=>e=.returned (.bool (L.any P))∧Below w.heap.size w w':=by
 rw[←ixG_any];obtain⟨x,hx⟩:∃x,x=ixG P L:=⟨_,rfl⟩;have HX:Hid (x=ixG P L):=hx;rw[←hx];clear hx;go_enter Tryz.func153,Tryz.ntmps153
 go_wp2_with fail
 refine (hst_idxF ao n cap f c P L _ hn hn2 ha he hf).mono ?_;rintro e w1 ⟨rfl,hb1⟩;rw[←HX.out];go_wp2;go_ret;exact⟨rfl,hb1⟩
theorem emp_lst (s:ByteArray):s.toList.isEmpty=(s==ByteArray.empty):=by
 have e:ByteArray.empty.toList=[]:=by rw[Lib.toList_data];rfl
 rw[beq_toListBytes,e];cases h:s.toList with
 | nil=>rfl
 | cons a l=>rfl
def WiBox (W:World)(g:Nat)(k:Int)(f t:ByteArray)(v:Int):Prop:=W.cell? ⟨g,0,none⟩=some (.int .i64 k)∧W.cell? ⟨g,1,none⟩=some (.string f)∧W.cell? ⟨g,2,none⟩=some (.string t)∧W.cell? ⟨g,3,none⟩=some (.int .i64 v)
theorem wibox_new (w:World)(k:Int)(f t:ByteArray)(v:Int)(T:TypeId):WiBox (w.alloc (Obj.cells #[.int .i64 k,.string f,.string t,.int .i64 v] T)) w.heap.size k f t v:=by
 refine⟨?_,?_,?_,?_⟩ <;> simp
theorem WiBox.later {W W':World}{g:Nat}{k:Int}{f t:ByteArray}{v:Int}(h:WiBox W g k f t v)(hb:Below W.heap.size W W'):WiBox W' g k f t v:=
 ⟨cell_later hb h.1,cell_later hb h.2.1,cell_later hb h.2.2.1,cell_later hb h.2.2.2⟩
theorem WiBox.lt {W:World}{g:Nat}{k:Int}{f t:ByteArray}{v:Int}(h:WiBox W g k f t v):g<W.heap.size:=bLQ _ _ h.1
theorem isWhat_any (k:Int)(w:World):
 Calls Tryz.prog 125 #[.int .i64 k] w fun e w'=>e=.returned (.bool (wkB k))∧Below w.heap.size w w':=by
 by_cases h1:1≤k
 ·by_cases h2:k≤4
  ·have e:wkB k=true:=by simp[wkB,h1,h2]
   rw[e];clear e;go_enter Tryz.func125,Tryz.ntmps125;go_wp2;go_ret;exact⟨rfl,Below.refl _ _⟩
  have e:wkB k=false:=by simp[wkB,h2]
  rw[e];clear e;go_enter Tryz.func125,Tryz.ntmps125;go_wp2;go_ret;exact⟨rfl,Below.refl _ _⟩
 have e:wkB k=false:=by simp[wkB,h1]
 rw[e];clear e;go_enter Tryz.func125,Tryz.ntmps125;go_wp2;go_ret;exact⟨rfl,Below.refl _ _⟩
theorem isAbout_any (k:Int)(f t:ByteArray)(v:Int)(m:ByteArray)(w:World):
 Calls Tryz.prog 93 #[.agg #[.int .i64 k,.string f,.string t,.int .i64 v],.string m] w fun e w'=>e=.returned (.bool (abW ⟨k,f,t,v⟩ m))∧Below w.heap.size w w':=by
 have HB0:Hid (Below w.heap.size w (w.alloc (Obj.cells #[.int .i64 k,Value.string f,Value.string t,.int .i64 v] 80))):=(Below.refl _ _).alloc (Nat.le_refl _) _;by_cases h:k=4
 ·subst h;rw[show abW ⟨4,f,t,v⟩ m=true from rfl];go_enter Tryz.func93,Tryz.ntmps93;go_wp2;go_ret;exact⟨rfl,HB0.out⟩
 have e:abW ⟨k,f,t,v⟩ m=(k==4 || f.toList==m.toList):=by rw[abW,←beq_toListBytes]
 rw[e];clear e;go_enter Tryz.func93,Tryz.ntmps93;go_wp2;go_ret;exact⟨rfl,HB0.out⟩
theorem isNameless_any (k:Int)(f t:ByteArray)(v:Int)(w:World):
 Calls Tryz.prog 127 #[.agg #[.int .i64 k,.string f,.string t,.int .i64 v]] w fun e w'=>e=.returned (.bool (nlB ⟨k,f,t,v⟩))∧Below w.heap.size w w':=by
 have HB0:Hid (Below w.heap.size w (w.alloc (Obj.cells #[.int .i64 k,Value.string f,Value.string t,.int .i64 v] 80))):=(Below.refl _ _).alloc (Nat.le_refl _) _;cases hf:(f==ByteArray.empty)
 ·have e:nlB ⟨k,f,t,v⟩=false:=by simp[nlB,hf]
  rw[e];rw[←emp_lst] at hf;clear e;go_enter Tryz.func127,Tryz.ntmps127;go_wp2;go_ret;exact⟨rfl,HB0.out⟩
 have e:nlB ⟨k,f,t,v⟩=t.toList.isEmpty:=by simp[nlB,hf,emp_lst]
 rw[e];rw[←emp_lst] at hf;clear e;cases ht:t.toList.isEmpty
 ·go_enter Tryz.func127,Tryz.ntmps127;go_wp2;go_ret;exact⟨rfl,HB0.out⟩
 go_enter Tryz.func127,Tryz.ntmps127;go_wp2;go_ret;exact⟨rfl,HB0.out⟩
theorem isVia_any (k:Int)(f t:ByteArray)(v S:Int)(w:World):
 Calls Tryz.prog 126 #[.agg #[.int .i64 k,.string f,.string t,.int .i64 v],.int .i64 S] w fun e w'=>e=.returned (.bool (viB ⟨k,f,t,v⟩ S))∧Below w.heap.size w w':=by
 have HB0:Hid (Below w.heap.size w (w.alloc (Obj.cells #[.int .i64 k,Value.string f,Value.string t,.int .i64 v] 80))):=(Below.refl _ _).alloc (Nat.le_refl _) _;by_cases h:k=3
 ·subst h;rw[show viB ⟨3,f,t,v⟩ S=swB S v from rfl];go_enter Tryz.func126,Tryz.ntmps126
  go_wp2_with fail
  refine (isSwitch_any S v _).mono ?_;rintro e w1 ⟨rfl,hb1⟩;go_wp2;go_ret;exact⟨rfl,HB0.out.trans (hb1.mono HB0.out.size)⟩
 have e:viB ⟨k,f,t,v⟩ S=true:=by simp[viB,h]
 rw[e];clear e;go_enter Tryz.func126,Tryz.ntmps126;go_wp2;go_ret;exact⟨rfl,HB0.out⟩
theorem isHost1_any (n:ByteArray)(x0 x1:Int)(B:Nat)(m:ByteArray)(w:World)(h0:w.cell? ⟨B,0,none⟩=some (.string m)):
 Calls Tryz.prog 154 #[.agg #[.string n,.int .i64 x0,.int .i64 x1],.pointer (some ⟨B,0,none⟩)] w fun e w'=>e=.returned (.bool (n==m))∧Below w.heap.size w w':=by
 have hlt:B<w.heap.size:=bLQ _ _ h0;have HB0:Hid (Below w.heap.size w (w.alloc (Obj.cells #[Value.string n,.int .i64 x0,.int .i64 x1] 77))):=(Below.refl _ _).alloc (Nat.le_refl _) _;rw[beq_toListBytes];go_enter Tryz.func154,Tryz.ntmps154;go_wp2;go_ret;exact⟨rfl,HB0.out⟩
theorem isHost1_asks (B:Nat)(m:ByteArray)(w:World)(h0:w.cell? ⟨B,0,none⟩=some (.string m)):hstAsks w 154 (.pointer (some ⟨B,0,none⟩)) (fun h=>h.1==m):=
 fun n x0 x1 W hW=>isHost1_any n x0 x1 B m W (cell_later hW h0)
theorem isHost_any (S:Int)(v1:Value)(ao2:Option Addr)(n2 cap2:Nat)(Hs:HoQ)(m:ByteArray)(w:World)(hv1:v1.oneCell'=true)(hH:GS hstE w (.slice ao2 n2 cap2) Hs):
 Calls Tryz.prog 128 #[.agg #[.int .i64 S,v1,.slice ao2 n2 cap2],.string m] w fun e w'=>e=.returned (.bool (hoB Hs m))∧Below w.heap.size w w':=by
 have e1:(w.alloc (Obj.cells #[.int .i64 S,v1,.slice ao2 n2 cap2] 25)).heap.size=w.heap.size+1:=by simp
 have hb1:Below w.heap.size w (w.alloc (Obj.cells #[.int .i64 S,v1,.slice ao2 n2 cap2] 25)):=(Below.refl _ _).alloc (Nat.le_refl _) _;have ht:=tbox_new w S v1 (.slice ao2 n2 cap2) 25;obtain⟨w0,hw0⟩:∃W,W=w.alloc (Obj.cells #[.int .i64 S,v1,.slice ao2 n2 cap2] 25):=⟨_,rfl⟩;rw[←hw0] at e1 hb1 ht;have hb2:Below w0.heap.size w0 (w0.alloc (Obj.cells #[.string m] 9)):=(Below.refl _ _).alloc (Nat.le_refl _) _;have hm:=vat_new w0 [.string m] 9;have ht2:=ht.later hb2;have hB2:=hb1.trans (hb2.mono hb1.size);obtain⟨w2,hw2⟩:∃W,W=w0.alloc (Obj.cells #[.string m] 9):=⟨_,rfl⟩;have hm2:VAt w2 w0.heap.size 0 [.string m]:=by rw[hw2];exact hm
 rw[←hw2] at ht2 hB2;rw[e1] at hm2;have m0:w2.cell? ⟨w.heap.size+1,0,none⟩=some (.string m):=hm2 0 _ rfl;obtain⟨b0,b1,b2⟩:=ht2;have HW:Hid ((w.alloc (Obj.cells #[.int .i64 S,v1,.slice ao2 n2 cap2] 25)).alloc (Obj.cells #[.string m] 9)=w2):=by
  show _=_;rw[hw2,hw0]
 have HB2:Hid (Below w.heap.size w w2):=hB2;obtain⟨_,_,_,eH,hHn,hHm,_,hHa⟩:=hH.form;cases eH;have HHN:Hid (Hs.length=n2):=hHn;have HHM:Hid (n2≤maxLen):=hHm;have HHA:Hid (0<n2→∃g o,ao2=some ⟨g,o,none⟩∧GAt hstE w2 g o Hs∧cap2≤maxLen):=fun h=>by
  obtain⟨g,o,k1,k2,k3⟩:=hHa h;exact⟨g,o,k1,k2.later hB2,k3⟩
 have HM0:Hid (w2.cell? ⟨w.heap.size+1,0,none⟩=some (.string m)):=m0;clear hb1 ht hw0 hb2 hm hw2 hm2 hB2 hHn hHm hHa hH e1 m0;go_enter Tryz.func128,Tryz.ntmps128;go_upto_region 1 with fail;rw[HW.out];clear HW
 go_wp2_with fail
 refine (hst_hasF ao2 n2 cap2 _ _ (fun h=>h.1==m) Hs _ HHN.out HHM.out HHA.out (enters_of Tryz.func154 (by kernel_rfl) rfl) (isHost1_asks _ m _ HM0.out)).mono ?_;rintro e w3 ⟨rfl,hb3⟩;rw[show (Hs.any fun h=>h.1==m)=hoB Hs m from rfl];go_wp2;go_ret;exact⟨rfl,HB2.out.trans (hb3.mono HB2.out.size)⟩
structure CBox (w W:World)(S:Int)(v1 v2:Value)(k:Int)(f t:ByteArray)(v:Int):Prop where
 below:Below w.heap.size w W
 b:TBox W w.heap.size S v1 v2
 x:WiBox W (w.heap.size+1) k f t v
theorem cbox_new (w:World)(S:Int)(v1 v2:Value)(k:Int)(f t:ByteArray)(v:Int):CBox w ((w.alloc (Obj.cells #[.int .i64 S,v1,v2] 25)).alloc (Obj.cells #[.int .i64 k,.string f,.string t,.int .i64 v] 80)) S v1 v2 k f t v:=by
 have e1:(w.alloc (Obj.cells #[.int .i64 S,v1,v2] 25)).heap.size=w.heap.size+1:=by simp
 have hb:∀(W:World) (o:Obj),Below W.heap.size W (W.alloc o):=fun W o=>(Below.refl _ _).alloc (Nat.le_refl _) _
 have hn:=(tbox_new w S v1 v2 25).later (hb _ (Obj.cells #[.int .i64 k,.string f,.string t,.int .i64 v] 80));have hB:=((Below.refl w.heap.size w).alloc (Nat.le_refl _) (Obj.cells #[.int .i64 S,v1,v2] 25)).alloc (by rw[e1];omega) (Obj.cells #[.int .i64 k,.string f,.string t,.int .i64 v] 80)
 generalize w.alloc (Obj.cells #[.int .i64 S,v1,v2] 25)=X at e1 hn hB
 have hr:=wibox_new X k f t v 80;rw[e1] at hr;exact⟨hB,hn,hr⟩
theorem CBox.later {w W W':World}{S:Int}{v1 v2:Value}{k:Int}{f t:ByteArray}{v:Int}(h:CBox w W S v1 v2 k f t v)(hb:Below W.heap.size W W'):CBox w W' S v1 v2 k f t v:=
 ⟨h.below.trans (hb.mono h.below.size),h.b.later hb,h.x.later hb⟩
theorem checkOne_any (S:Int)(ao:Option Addr)(n cap:Nat)(ao2:Option Addr)(n2 cap2:Nat)(Hs:HoQ)(k:Int)(f t:ByteArray)(v:Int)(w:World)(hH:GS hstE w (.slice ao2 n2 cap2) Hs):
 Calls Tryz.prog 89 #[.agg #[.int .i64 S,.slice ao n cap,.slice ao2 n2 cap2],.agg #[.int .i64 k,.string f,.string t,.int .i64 v]] w fun e w'=>e=.returned (noV (woN S Hs ⟨k,f,t,v⟩))∧Below w.heap.size w w':=by
 have hX:=cbox_new w S (.slice ao n cap) (.slice ao2 n2 cap2) k f t v;obtain⟨w0,hw0⟩:∃W,(w.alloc (Obj.cells #[.int .i64 S,.slice ao n cap,.slice ao2 n2 cap2] 25)).alloc (Obj.cells #[.int .i64 k,.string f,.string t,.int .i64 v] 80)=W:=⟨_,rfl⟩;rw[hw0] at hX;have HX:Hid (CBox w w0 S (.slice ao n cap) (.slice ao2 n2 cap2) k f t v):=hX;have HW0:Hid ((w.alloc (Obj.cells #[.int .i64 S,.slice ao n cap,.slice ao2 n2 cap2] 25)).alloc (Obj.cells #[.int .i64 k,.string f,.string t,.int .i64 v] 80)=w0):=hw0;have HH:Hid (∀W,Below w.heap.size w W→GS hstE W (.slice ao2 n2 cap2) Hs):=fun W hb=>hH.later hb
 obtain⟨R,hR⟩:∃R,R=woN S Hs ⟨k,f,t,v⟩:=⟨_,rfl⟩;rw[←hR];obtain⟨Q,hQ⟩:∃q,q=(!wkB k || (!viB ⟨k,f,t,v⟩ S || veB ⟨k,f,t,v⟩)):=⟨_,rfl⟩;have HR:Hid (R=if Q then 1 else if k=4 then (if nlB ⟨k,f,t,v⟩ then 0 else 3) else if hoB Hs f&&hoB Hs t then 0 else 5):=by
  show _=_;rw[hR,hQ];rfl
 have HQ:Hid ((!wkB k || (!viB ⟨k,f,t,v⟩ S || veB ⟨k,f,t,v⟩))=Q):=hQ.symm;clear hX hw0 hH hR hQ;go_enter Tryz.func89,Tryz.ntmps89;go_upto_region 1 with fail;rw[HW0.out];obtain⟨_,⟨b0,b1,b2⟩,x0,x1,x2,x3⟩:=HX.out;clear HW0
 go_cut [25] from 5 to 26 (fun c w'=>c=.bool Q∧Below w0.heap.size w0 w')
 case first =>
  go_wp2_with fail
  refine (isWhat_any k _).mono ?_;rintro e w1 ⟨rfl,hb1⟩;obtain⟨WK,hWK⟩:∃q,q=wkB k:=⟨_,rfl⟩;have HQ1:Hid ((!WK || (!viB ⟨k,f,t,v⟩ S || veB ⟨k,f,t,v⟩))=Q):=by
   show _=_;rw[hWK];exact HQ.out
  rw[←hWK];have HB1:Hid (Below w0.heap.size w0 w1):=hb1;have HX1:Hid (CBox w w1 S (.slice ao n cap) (.slice ao2 n2 cap2) k f t v):=HX.out.later hb1;clear hWK hb1 HQ b0 b1 b2 x0 x1 x2 x3;obtain⟨_,⟨b0,b1,b2⟩,x0,x1,x2,x3⟩:=HX1.out;cases WK with
  | false =>
    have hq:=HQ1.out;simp only[Bool.not_false,Bool.true_or] at hq;subst hq
    go_wp2_with fail
    go_meet
    exact⟨rfl,HB1.out⟩
  | true =>
    go_wp2_with fail
    refine (isVia_any k f t v S _).mono ?_;rintro e w2 ⟨rfl,hb2⟩;obtain⟨VI,hVI⟩:∃q,q=viB ⟨k,f,t,v⟩ S:=⟨_,rfl⟩;have HQ2:Hid ((!VI || veB ⟨k,f,t,v⟩)=Q):=by
     show _=_;rw[hVI];have:=HQ1.out;simpa using this
    rw[←hVI];have HB2:Hid (Below w0.heap.size w0 w2):=HB1.out.trans (hb2.mono HB1.out.size);have HX2:Hid (CBox w w2 S (.slice ao n cap) (.slice ao2 n2 cap2) k f t v):=HX1.out.later hb2;clear hVI hb2 HQ1 b0 b1 b2 x0 x1 x2 x3;obtain⟨_,⟨b0,b1,b2⟩,x0,x1,x2,x3⟩:=HX2.out;cases VI with
    | false =>
      have hq:=HQ2.out;simp only[Bool.not_false,Bool.true_or] at hq;subst hq
      go_wp2_with fail
      go_meet
      exact⟨rfl,HB2.out⟩
    | true =>
      by_cases k3:k=3
      ·subst k3;have hq:false=Q:=HQ2.out;subst hq
       go_wp2_with fail
       go_meet
       exact⟨rfl,HB2.out⟩
      have hq:(k != 3&&v != 0)=Q:=HQ2.out;subst hq
      go_wp2_with fail
      go_meet
      exact⟨rfl,HB2.out⟩
 case rest =>
 obtain⟨rfl,hbc⟩:=hcut;have HXc:Hid (CBox w wc S (.slice ao n cap) (.slice ao2 n2 cap2) k f t v):=HX.out.later hbc;clear hbc HX b0 b1 b2 x0 x1 x2 x3;obtain⟨hBc,⟨b0,b1,b2⟩,x0,x1,x2,x3⟩:=HXc.out;have HBc:Hid (Below w.heap.size w wc):=hBc;clear hBc;cases Q with
 | true =>
   have HR1:Hid (R=1):=by
    show _=_;rw[HR.out,if_pos rfl]
   go_wp2;go_ret;exact⟨by rw[HR1.out];rfl,HBc.out⟩
 | false =>
   by_cases k4:k=4
   ·subst k4;obtain⟨NL,hNL⟩:∃q,q=nlB ⟨4,f,t,v⟩:=⟨_,rfl⟩;have HR1:Hid (R=if NL then 0 else 3):=by
     show _=_;rw[HR.out,if_neg (by decide),if_pos rfl,hNL]
    have HNL:Hid (nlB ⟨4,f,t,v⟩=NL):=hNL.symm;clear hNL HR
    go_wp2_with fail
    refine (isNameless_any 4 f t v _).mono ?_;rintro e w2 ⟨rfl,hb2⟩;rw[HNL.out];have HB2:Hid (Below w.heap.size w w2):=HBc.out.trans (hb2.mono HBc.out.size);clear hb2;cases NL with
    | false =>
      go_wp2;go_ret;exact⟨by rw[HR1.out];rfl,HB2.out⟩
    | true =>
      go_wp2;go_ret;exact⟨by rw[HR1.out];rfl,HB2.out⟩
   obtain⟨HF,hHF⟩:∃q,q=hoB Hs f:=⟨_,rfl⟩;obtain⟨HT,hHT⟩:∃q,q=hoB Hs t:=⟨_,rfl⟩;have HR1:Hid (R=if HF&&HT then 0 else 5):=by
    show _=_;rw[HR.out,if_neg (by decide),if_neg k4,hHF,hHT]
   have HHF:Hid (hoB Hs f=HF):=hHF.symm;have HHT:Hid (hoB Hs t=HT):=hHT.symm;clear hHF hHT HR
   go_wp2_with fail
   refine (isHost_any S (.slice ao n cap) ao2 n2 cap2 Hs f _ rfl (HH.out _ HBc.out)).mono ?_;rintro e w2 ⟨rfl,hb2⟩;rw[HHF.out];have HX2:Hid (CBox w w2 S (.slice ao n cap) (.slice ao2 n2 cap2) k f t v):=HXc.out.later hb2;clear hb2 HHF HBc b0 b1 b2 x0 x1 x2 x3;obtain⟨hB2,⟨b0,b1,b2⟩,x0,x1,x2,x3⟩:=HX2.out;have HB2:Hid (Below w.heap.size w w2):=hB2;clear hB2;cases HF with
   | false =>
     go_wp2;go_ret;exact⟨by rw[HR1.out];rfl,HB2.out⟩
   | true =>
     go_wp2_with fail
     refine (isHost_any S (.slice ao n cap) ao2 n2 cap2 Hs t _ rfl (HH.out _ HB2.out)).mono ?_;rintro e w3 ⟨rfl,hb3⟩;rw[HHT.out];have HB3:Hid (Below w.heap.size w w3):=HB2.out.trans (hb3.mono HB2.out.size);clear hb3;cases HT with
     | false =>
       go_wp2;go_ret;exact⟨by rw[HR1.out];rfl,HB3.out⟩
     | true =>
       go_wp2;go_ret;exact⟨by rw[HR1.out];rfl,HB3.out⟩
theorem wcheck_any (S:Int)(ao:Option Addr)(n cap:Nat)(ao2:Option Addr)(n2 cap2:Nat)(a4:Option Addr)(n4 c4:Nat)(Ls:LkQ)(Hs:HoQ)(l:List Wi)(w:World)
 (hL:GS lnkE w (.slice ao n cap) Ls) (hH:GS hstE w (.slice ao2 n2 cap2) Hs) (hl:GS wisE w (.slice a4 n4 c4) l):
 Calls Tryz.prog 57 #[.agg #[.int .i64 S,.slice ao n cap,.slice ao2 n2 cap2],.slice a4 n4 c4] w fun e w'=>e=.returned (noV (wsN S Ls Hs l))∧Below w.heap.size w w':=by
 have hX:=tbox_new w S (.slice ao n cap) (.slice ao2 n2 cap2) 25;have hB0:Below w.heap.size w (w.alloc (Obj.cells #[.int .i64 S,.slice ao n cap,.slice ao2 n2 cap2] 25)):=(Below.refl _ _).alloc (Nat.le_refl _) _;obtain⟨w0,hw0⟩:∃W,w.alloc (Obj.cells #[.int .i64 S,.slice ao n cap,.slice ao2 n2 cap2] 25)=W:=⟨_,rfl⟩;rw[hw0] at hX hB0;have HX:Hid (TBox w0 w.heap.size S (.slice ao n cap) (.slice ao2 n2 cap2)):=hX;have HW0:Hid (w.alloc (Obj.cells #[.int .i64 S,.slice ao n cap,.slice ao2 n2 cap2] 25)=w0):=hw0;have HB0:Hid (Below w.heap.size w w0):=hB0;have HLW:Hid (∀W,Below w.heap.size w W→GS lnkE W (.slice ao n cap) Ls):=fun W hb=>hL.later hb
 have HHW:Hid (∀W,Below w.heap.size w W→GS hstE W (.slice ao2 n2 cap2) Hs):=fun W hb=>hH.later hb
 obtain⟨_,_,_,e5,hGn,hGm,_,hGa⟩:=hl.form;cases e5;have HGN:Hid (l.length=n4):=hGn;have HGA:Hid (0<n4→∃g o,a4=some ⟨g,o,none⟩∧GAt wisE w g o l∧c4≤maxLen):=hGa;obtain⟨R,hR⟩:∃R,R=wsN S Ls Hs l:=⟨_,rfl⟩;have HR:Hid (R=wsN S Ls Hs l):=hR;rw[←hR];have hn4:n4≤maxLen:=hGm;unfold maxLen at hn4;clear hX hB0 hw0 hL hH hl hGn hGm hGa hR;go_enter Tryz.func57,Tryz.ntmps57;go_upto_region 1 with fail;rw[HW0.out];obtain⟨b0,b1,b2⟩:=HX.out;clear HW0
 go_wp2_with fail
 refine (check_any S ao n cap ao2 n2 cap2 Ls Hs _ (HLW.out _ HB0.out) (HHW.out _ HB0.out)).mono ?_;rintro e w1 ⟨rfl,hb1⟩;obtain⟨T,hT⟩:∃T,T=tpN S Ls Hs:=⟨_,rfl⟩;have HT:Hid (T=tpN S Ls Hs):=hT;rw[←hT];have HB1:Hid (Below w.heap.size w w1):=HB0.out.trans (hb1.mono HB0.out.size);have HX1:Hid (TBox w1 w.heap.size S (.slice ao n cap) (.slice ao2 n2 cap2)):=HX.out.later hb1;clear hT hb1 b0 b1 b2 HX;by_cases h0:T=0
 ·have HR1:Hid (R=if 8<l.length then 4 else wsTo S Hs l l.length):=by
   show _=_;rw[HR.out,wsN,if_pos (HT.out.symm.trans h0)]
  subst h0;rw[no_ok rfl];by_cases h8:8<n4
  ·have HR2:Hid (R=4):=by
    show _=_;rw[HR1.out,if_pos (by rw[HGN.out];exact h8)]
   have h8':(8:Int)<(n4:Int):=by omega
   go_wp2;go_ret;exact⟨by rw[HR2.out];rfl,HB1.out⟩
  have HR2:Hid (R=wsTo S Hs l n4):=by
   show _=_;rw[HR1.out,if_neg (by rw[HGN.out];exact h8),HGN.out]
  have h8':¬(8:Int)<(n4:Int):=by omega
  clear HR HR1;go_wp2
  go_loopw [20] (fun i wr=>∃j:Nat,j≤n4∧i=.int .i64 j∧wsTo S Hs l j=0∧Below w1.heap.size w1 wr) (fun i _=>n4-(intOf i).toNat)
  case atStart=>exact⟨0,by omega,rfl,rfl,Below.refl _ _⟩
  case round =>
   obtain⟨j,hj,rfl,hno,hB⟩:=hrel;have HB:Hid (Below w1.heap.size w1 wr):=hB;have HBw:Hid (Below w.heap.size w wr):=HB1.out.trans (hB.mono HB1.out.size);have HNO:Hid (wsTo S Hs l j=0):=hno;have HXr:Hid (TBox wr w.heap.size S (.slice ao n cap) (.slice ao2 n2 cap2)):=HX1.out.later hB;clear hno hB;by_cases hlt:j<n4
   ·obtain⟨g,o,hao,hc,_⟩:=HGA.out (by omega);subst hao;obtain⟨y0,y1,y2,y3,hkl,hLk,q0,q1,q2,q3⟩:=wis_at (hc.later HBw.out) HGN.out hlt;obtain⟨N,hN⟩:∃q,q=woN S Hs ⟨y0,y1,y2,y3⟩:=⟨_,rfl⟩;have HN:Hid (woN S Hs ⟨y0,y1,y2,y3⟩=N):=hN.symm;have HST:Hid (wsTo S Hs l (j+1)=N):=by
     show _=_;rw[wsTo,if_pos HNO.out,getW hkl,hLk,←hN]
    have hba:Below wr.heap.size wr (wr.alloc (Obj.cells #[.int .i64 y0,Value.string y1,Value.string y2,.int .i64 y3] 80)):=(Below.refl _ _).alloc (Nat.le_refl _) _;have HBA:Hid (Below wr.heap.size wr (wr.alloc (Obj.cells #[.int .i64 y0,Value.string y1,Value.string y2,.int .i64 y3] 80))):=hba;obtain⟨b0,b1,b2⟩:=HXr.out;have hlw:w.heap.size<wr.heap.size:=bLQ _ _ b0;clear hc hLk hN hba
    go_wp2_with fail
    refine (checkOne_any S ao n cap ao2 n2 cap2 Hs y0 y1 y2 y3 _ (HHW.out _ (HBw.out.trans (HBA.out.mono HBw.out.size)))).mono ?_;rintro e w3 ⟨rfl,hb3⟩;rw[HN.out];have HB3:Hid (Below w1.heap.size w1 w3):=(HB.out.trans (HBA.out.mono HB.out.size)).trans (hb3.mono (HB.out.trans (HBA.out.mono HB.out.size)).size);clear hb3 HBA b0 b1 b2 q0 q1 q2 q3 hlw HXr HB;by_cases hN0:N=0
    ·subst hN0;rw[no_ok rfl];go_wp2;go_roundw
     case rel=>exact⟨j+1,by omega,by go_num,HST.out,HB3.out⟩
     case measure=>simp[intOf];omega
    rw[no_ne hN0];have HR3:Hid (R=N):=by
     show _=_;rw[HR2.out,ws_le (k:=j+1) (by rw[HST.out];exact hN0) (by omega),HST.out]
    have HNN:Hid (N≠0):=hN0;clear hN0;go_wp2;go_ret;exact⟨by rw[HR3.out,no_ne HNN.out];rfl,HB1.out.trans (HB3.out.mono HB1.out.size)⟩
   obtain rfl:j=n4:=by omega
   have HR3:Hid (R=0):=by
    show _=_;rw[HR2.out,HNO.out]
   go_wp2;go_ret;exact⟨by rw[HR3.out,no_ok rfl];rfl,HBw.out⟩
 rw[no_ne h0];have HR1:Hid (R=T):=by
  show _=_;rw[HR.out,wsN,if_neg (by rw[←HT.out];exact h0),HT.out]
 have HNN:Hid (T≠0):=h0;clear h0;go_wp2;go_ret;exact⟨by rw[HR1.out,no_ne HNN.out];rfl,HB1.out⟩
abbrev LkT:Type:=(Int×Int)×(Int×Int)
abbrev HoT:Type:=ByteArray×(Int×Int)
structure NI (W:World)(v1 v2 v3:Value)(Ls:List LkT)(Hs:List HoT)(Ts:List (List Ru)):Prop where
 l:GS lnkE W v1 Ls
 h:GS hstE W v2 Hs
 t:TS W v3 Ts
theorem NI.later {W W':World}{v1 v2 v3:Value}{Ls:List LkT}{Hs:List HoT}{Ts:List (List Ru)}(h:NI W v1 v2 v3 Ls Hs Ts)(hb:Below W.heap.size W W'):NI W' v1 v2 v3 Ls Hs Ts:=⟨h.l.later hb,h.h.later hb,h.t.later hb⟩
theorem NI.form {W:World}{v1 v2 v3:Value}{Ls:List LkT}{Hs:List HoT}{Ts:List (List Ru)}(h:NI W v1 v2 v3 Ls Hs Ts):∃ao n cap ao2 n2 cap2 ao3 n3 cap3,v1=.slice ao n cap∧v2=.slice ao2 n2 cap2∧v3=.slice ao3 n3 cap3:=by
 obtain⟨ao,n,cap,e,_⟩:=h.l.form;obtain⟨ao2,n2,cap2,e2,_⟩:=h.h.form
 rcases h.t with ⟨ao3,cap3,e3,_⟩ | ⟨g,o,cap3,e3,_⟩
 ·exact⟨ao,n,cap,ao2,n2,cap2,ao3,_,cap3,e,e2,e3⟩
 exact⟨ao,n,cap,ao2,n2,cap2,_,_,cap3,e,e2,e3⟩
theorem ni_bn {W:World}{v1 v2 v3:Value}{Ls:List LkT}{Hs:List HoT}{Ts:List (List Ru)}(h:NI W v1 v2 v3 Ls Hs Ts)(S:Int)(t:TypeId):BN (W.alloc (Obj.cells #[.int .i64 S,v1,v2,v3] t)) W.heap.size S v1 v2 v3 Ls Hs Ts:=bn_new t h.l h.h h.t
theorem BN.ni {W:World}{b:Nat}{S:Int}{v1 v2 v3:Value}{Ls:List LkT}{Hs:List HoT}{Ts:List (List Ru)}(h:BN W b S v1 v2 v3 Ls Hs Ts):NI W v1 v2 v3 Ls Hs Ts:=⟨h.l,h.h,h.t⟩
def pdN (S:Int)(Ls:List LkT)(Hs:List HoT)(Ts:List (List Ru))(S':Int)(Ls':List LkT)(Hs':List HoT)(Ts':List (List Ru))(ws:List Wi):Int:=if diN S Ls Hs Ts S' Ls' Hs' Ts'=0 then wsN S Ls Hs ws else diN S Ls Hs Ts S' Ls' Hs' Ts'
def pdL (S:Int)(Ls:List LkT)(Hs:List HoT)(Ts:List (List Ru))(S':Int)(Ls':List LkT)(Hs':List HoT)(Ts':List (List Ru))(ws:List Wi):List Op8:=if pdN S Ls Hs Ts S' Ls' Hs' Ts' ws=0 then diL S Ls Hs Ts S' Ls' Hs' Ts' else []
theorem pdiff_any (S:Int)(v1 v2 v3:Value)(S':Int)(u1 u2 u3 v4:Value)(Ls:List LkT)(Hs:List HoT)(Ts:List (List Ru))(Ls':List LkT)(Hs':List HoT)(Ts':List (List Ru))(ws:List Wi)(w:World)
 (hN:NI w v1 v2 v3 Ls Hs Ts) (hM:NI w u1 u2 u3 Ls' Hs' Ts') (hw:GS wisE w v4 ws):
 Calls Tryz.prog 34 #[.agg #[.int .i64 S,v1,v2,v3],.agg #[.int .i64 S',u1,u2,u3],v4] w fun e w'=>∃v,e=.returned (.tuple #[v,noV (pdN S Ls Hs Ts S' Ls' Hs' Ts' ws)])∧NO w' w.heap.size v (pdL S Ls Hs Ts S' Ls' Hs' Ts' ws)∧Below w.heap.size w w':=by
 obtain⟨ao,n,cap,ao2,n2,cap2,ao3,n3,cap3,rfl,rfl,rfl⟩:=hN.form;obtain⟨bo,m,dap,bo2,m2,dap2,bo3,m3,dap3,rfl,rfl,rfl⟩:=hM.form;obtain⟨a4,n4,c4,rfl,_⟩:=hw.form;obtain⟨w1,hw1⟩:∃W,W=(w.alloc (Obj.cells #[.int .i64 S,.slice ao n cap,.slice ao2 n2 cap2,.slice ao3 n3 cap3] 28)).alloc (Obj.cells #[.int .i64 S',.slice bo m dap,.slice bo2 m2 dap2,.slice bo3 m3 dap3] 28):=⟨_,rfl⟩;have hb1:Below w.heap.size w w1:=by rw[hw1];exact ((Below.refl _ _).alloc (Nat.le_refl _) _).alloc (by simp) _
 have hbx:NN w1 w.heap.size S (.slice ao n cap) (.slice ao2 n2 cap2) (.slice ao3 n3 cap3) S' (.slice bo m dap) (.slice bo2 m2 dap2) (.slice bo3 m3 dap3):=by rw[hw1];exact nn_new w S _ _ _ S' _ _ _ 28
 have HNW:Hid (∀W,Below w1.heap.size w1 W→NI W (.slice ao n cap) (.slice ao2 n2 cap2) (.slice ao3 n3 cap3) Ls Hs Ts∧NI W (.slice bo m dap) (.slice bo2 m2 dap2) (.slice bo3 m3 dap3) Ls' Hs' Ts'∧GS wisE W (.slice a4 n4 c4) ws):=fun W h=>⟨(hN.later hb1).later h,(hM.later hb1).later h,(hw.later hb1).later h⟩
 have HBX:Hid (NeBox w1 w.heap.size S (.slice ao n cap) (.slice ao2 n2 cap2) (.slice ao3 n3 cap3)):=hbx.1;have HB1:Hid (Below w.heap.size w w1):=hb1;have HW1:Hid (w1=(w.alloc (Obj.cells #[.int .i64 S,.slice ao n cap,.slice ao2 n2 cap2,.slice ao3 n3 cap3] 28)).alloc (Obj.cells #[.int .i64 S',.slice bo m dap,.slice bo2 m2 dap2,.slice bo3 m3 dap3] 28)):=hw1;obtain⟨X,hX⟩:∃q,q=diN S Ls Hs Ts S' Ls' Hs' Ts':=⟨_,rfl⟩;have HX:Hid (diN S Ls Hs Ts S' Ls' Hs' Ts'=X):=hX.symm;obtain⟨U,hU⟩:∃q,q=wsN S Ls Hs ws:=⟨_,rfl⟩;have HU:Hid (wsN S Ls Hs ws=U):=hU.symm;obtain⟨E,hE⟩:∃q,q=pdN S Ls Hs Ts S' Ls' Hs' Ts' ws:=⟨_,rfl⟩;have HE:Hid (E=if X=0 then U else X):=by rw[hE,pdN,hX,hU];exact rfl
 have HPL:Hid (pdL S Ls Hs Ts S' Ls' Hs' Ts' ws=if E=0 then diL S Ls Hs Ts S' Ls' Hs' Ts' else []):=by rw[hE];exact rfl
 rw[←hE];clear hN hM hw hb1 hbx hw1 hX hU hE;go_enter Tryz.func34,Tryz.ntmps34
 go_wp2_with fail
 rw[←HW1.out];refine (chDiff_any S ao n cap ao2 n2 cap2 ao3 n3 cap3 S' bo m dap bo2 m2 dap2 bo3 m3 dap3 Ls Hs Ts Ls' Hs' Ts' w1 (HNW.out _ (Below.refl _ _)).1.l (HNW.out _ (Below.refl _ _)).1.h (HNW.out _ (Below.refl _ _)).1.t (HNW.out _ (Below.refl _ _)).2.1.l (HNW.out _ (Below.refl _ _)).2.1.h (HNW.out _ (Below.refl _ _)).2.1.t).mono ?_;rintro e w2 ⟨v,rfl,hNO,hb2⟩;rw[HX.out];have HB2:Hid (Below w1.heap.size w1 w2):=hb2;have HNO:Hid (∀W,Below w2.heap.size w2 W→NO W w.heap.size v (diL S Ls Hs Ts S' Ls' Hs' Ts')):=fun W h=>(hNO.later h).mono HB1.out.size
 obtain⟨b0,b1,b2,b3⟩:=HBX.out.later hb2;clear hNO hb2 HW1 HBX;by_cases hX0:X=0
 ·subst hX0;rw[no_ok rfl];have hEU:E=U:=HE.out.trans (if_pos rfl);subst hEU
  go_wp2_with fail
  refine (wcheck_any S ao n cap ao2 n2 cap2 a4 n4 c4 Ls Hs ws w2 (HNW.out _ HB2.out).1.l (HNW.out _ HB2.out).1.h (HNW.out _ HB2.out).2.2).mono ?_;rintro e w3 ⟨rfl,hb3⟩;rw[HU.out];have HB3:Hid (Below w2.heap.size w2 w3):=hb3;have HBW:Hid (Below w.heap.size w w3):=HB1.out.trans ((HB2.out.trans (hb3.mono HB2.out.size)).mono HB1.out.size);clear hb3 b0 b1 b2 b3;by_cases hE0:E=0
  ·have HL:Hid (pdL S Ls Hs Ts S' Ls' Hs' Ts' ws=diL S Ls Hs Ts S' Ls' Hs' Ts'):=HPL.out.trans (if_pos hE0);have HE0:Hid (E=0):=hE0;rw[no_ok hE0];clear hE0;go_wp2;refine bodyPost_ret (v:=.tuple #[v,.nilIface]) (by simp[results,Tryz.results34,go_sem, *]) rfl ⟨v,by rw[no_ok HE0.out],by rw[HL.out];exact HNO.out _ HB3.out,HBW.out⟩
  have HL:Hid (pdL S Ls Hs Ts S' Ls' Hs' Ts' ws=[]):=HPL.out.trans (if_neg hE0);have HE0:Hid (E≠0):=hE0;rw[no_ne hE0];clear hE0;go_wp2;refine bodyPost_ret (v:=.tuple #[.slice none 0 0,.iface 68 (.int .i64 E)]) (by simp[results,Tryz.results34,go_sem, *]) rfl ⟨.slice none 0 0,by rw[no_ne HE0.out],by rw[HL.out];exact NO.nil _ _,HBW.out⟩
 have hEX:E=X:=HE.out.trans (if_neg hX0);subst hEX;have HL:Hid (pdL S Ls Hs Ts S' Ls' Hs' Ts' ws=[]):=HPL.out.trans (if_neg hX0);have HE0:Hid (E≠0):=hX0;have HBW:Hid (Below w.heap.size w w2):=HB1.out.trans (HB2.out.mono HB1.out.size);rw[no_ne hX0];clear hX0;go_wp2;refine bodyPost_ret (v:=.tuple #[.slice none 0 0,.iface 68 (.int .i64 E)]) (by simp[results,Tryz.results34,go_sem, *]) rfl ⟨.slice none 0 0,by rw[no_ne HE0.out],by rw[HL.out];exact NO.nil _ _,HBW.out⟩
def inS (s a:Nat):Bool:=s.testBit (6-a)
def onS (a:Nat):Nat:=2 ^ (6-a)
def mnS (s t:Nat):Nat:=s &&& (63 ^^^ t)
theorem in_or (s t a:Nat):inS (s ||| t) a=(inS s a || inS t a):=Nat.testBit_or ..
theorem in_on {a b:Nat}(ha:a≤6)(hb:b≤6):inS (onS b) a=decide (a=b):=by
 rw[inS,onS,Nat.testBit_two_pow];by_cases h:a=b
 ·rw[h];simp
 rw[decide_eq_false h,decide_eq_false (by omega)]
theorem in_mn {s t a:Nat}(h1:1≤a)(h2:a≤6):inS (mnS s t) a=(inS s a && !inS t a):=by
 have e:(63:Nat).testBit (6-a)=true:=by
  have:∀k:Fin 6,(63:Nat).testBit k=true:=by decide
  exact this ⟨6-a,by omega⟩
 rw[mnS,inS,Nat.testBit_and,Nat.testBit_xor,e,Bool.true_xor];rfl
theorem in_0 (a:Nat):inS 0 a=false:=Nat.zero_testBit _
theorem or_lt {s t:Nat}(hs:s<64)(ht:t<64):s ||| t<64:=Nat.or_lt_two_pow (n:=6) hs ht
theorem mn_lt {s t:Nat}(hs:s<64):mnS s t<64:=Nat.lt_of_le_of_lt Nat.and_le_left hs
theorem on_lt {a:Nat}(h:1≤a):onS a<64:=by
 have:onS a≤2 ^ 5:=Nat.pow_le_pow_right (by decide) (by omega);omega
theorem set_ext {s t:Nat}(hs:s<64)(ht:t<64)(h:∀a,1≤a→a≤6→inS s a=inS t a):s=t:=by
 apply Nat.eq_of_testBit_eq
 intro i;by_cases hi:i<6
 ·have:=h (6-i) (by omega) (by omega);unfold inS at this
  rwa [show 6-(6-i)=i by omega] at this
 have two:(2:Nat) ^ 6≤2 ^ i:=Nat.pow_le_pow_right (by decide) (by omega);rw[Nat.testBit_lt_two_pow (by omega),Nat.testBit_lt_two_pow (by omega)]
theorem set_0 {s:Nat}(hs:s<64)(h:∀a,1≤a→a≤6→inS s a=false):s=0:=set_ext hs (by decide) fun a h1 h2=>by rw[h a h1 h2,in_0]
theorem set_some {s:Nat}(hs:s<64)(h:s≠0):∃a,1≤a∧a≤6∧inS s a=true:=by
 by_cases hx:∃a,1≤a∧a≤6∧inS s a=true
 ·exact hx
 exact absurd (set_0 hs fun a h1 h2=>by
  cases e:inS s a
  ·rfl
  exact absurd ⟨a,h1,h2,e⟩ hx) h
theorem on_sub {s a:Nat}(h1:1≤a)(h2:a≤6):(mnS (onS a) s=0)↔inS s a=true:=by
 constructor
 ·intro h;have:=in_mn (s:=onS a) (t:=s) h1 h2;rw[h,in_0,in_on h2 h2] at this;simpa using this.symm
 intro h;refine set_0 (mn_lt (on_lt h1)) fun b k1 k2=>?_
 rw[in_mn k1 k2,in_on k2 h2];by_cases e:b=a
 ·subst e;rw[h];simp
 simp[e]
def opA (D:List Op8)(a:Int):List Op8:=D.filter fun o=>o.w==a
def rnTo (D:List Op8)(s:Nat):Nat→List Op8
 | 0=>[]
 | k+1=>rnTo D s k++(if inS s (k+1)=true then opA D ((k+1:Nat):Int) else [])
def rnL (D:List Op8)(s:Nat):List Op8:=rnTo D s 6
def bkL (As Bs:List (List Ru))(k:Nat):List Op8:=ofS ((k+1:Nat):Int) (dfL (As.getD k []) (Bs.getD k []))
theorem cd_succ (As Bs:List (List Ru))(k:Nat):cdL As Bs (k+1)=cdL As Bs k++bkL As Bs k:=by rw[cdL,bkL];rfl
theorem bk_w {As Bs:List (List Ru)}{k:Nat}:∀o∈bkL As Bs k,o.w=((k+1:Nat):Int):=by
 intro o ho;unfold bkL ofS at ho;obtain⟨x,_,rfl⟩:=List.mem_map.1 ho;rfl
theorem cd_w {As Bs:List (List Ru)}:∀{n:Nat},∀o∈cdL As Bs n,1≤o.w∧o.w≤(n:Int)
 | 0,o,ho=>by cases ho
 | n+1,o,ho=>by
   rw[cd_succ,List.mem_append] at ho
   rcases ho with ho | ho
   ·have:=cd_w o ho;omega
   have:=bk_w o ho;omega
theorem fil_bk (As Bs:List (List Ru))(k:Nat)(p:Int→Bool):(bkL As Bs k).filter (fun o=>p o.w)=if p ((k+1:Nat):Int)=true then bkL As Bs k else []:=by
 by_cases h:p ((k+1:Nat):Int)=true
 ·rw[if_pos h];exact List.filter_eq_self.2 fun o ho=>by rw[bk_w o ho];exact h
 rw[if_neg h];exact List.filter_eq_nil_iff.2 fun o ho=>by rw[bk_w o ho];exact h
theorem opA_cd (As Bs:List (List Ru))(k:Nat):∀n:Nat,opA (cdL As Bs n) ((k+1:Nat):Int)=if k<n then bkL As Bs k else []
 | 0=>rfl
 | n+1=>by
   have h:=opA_cd As Bs k n;unfold opA at h ⊢;rw[cd_succ,List.filter_append,h,fil_bk As Bs n (fun x=>x==((k+1:Nat):Int))];by_cases e:n=k
   ·subst e;simp
   have e2:(((n+1:Nat):Int)==((k+1:Nat):Int))=false:=by
    rw[beq_eq_false_iff_ne];omega
   rw[e2];by_cases h1:k<n
   ·simp[h1,show k<n+1 by omega]
   simp[h1,show ¬k<n+1 by omega]
theorem rd_cd (As Bs:List (List Ru))(n s:Nat):∀k,rnTo (cdL As Bs n) s (k+1)=rnTo (cdL As Bs n) s k++(if inS s (k+1)=true∧k<n then bkL As Bs k else []):=by
 intro k;rw[rnTo,opA_cd];by_cases h1:inS s (k+1)=true
 ·by_cases h2:k<n
  ·simp[h1,h2]
  simp[h1,h2]
 simp[h1]
theorem of_rd {As Bs:List (List Ru)}{n s:Nat}{p:Int→Bool}(hn:n≤6)(hp:∀a:Nat,1≤a→a≤6→p (a:Int)=inS s a):(cdL As Bs n).filter (fun o=>p o.w)=rnL (cdL As Bs n) s:=by
 have h1:∀k,k≤n→(cdL As Bs k).filter (fun o=>p o.w)=rnTo (cdL As Bs n) s k:=by
  intro k
  induction k with
  | zero=>intro _;rfl
  | succ k ih =>
    intro hk;rw[cd_succ,List.filter_append,ih (by omega),fil_bk,rd_cd,hp (k+1) (by omega) (by omega)];by_cases h:inS s (k+1)=true
    ·simp[h,show k<n by omega]
    simp[h]
 have h2:∀k,n≤k→rnTo (cdL As Bs n) s k=rnTo (cdL As Bs n) s n:=by
  intro k hk
  induction k with
  | zero=>rw[show n=0 by omega]
  | succ k ih =>
    by_cases e:n=k+1
    ·rw[e]
    rw[rd_cd,ih (by omega)];simp[show ¬k<n by omega]
 rw[h1 n (Nat.le_refl _),rnL,h2 6 hn]
def nwT (As Bs:List (List Ru))(s:Nat):List (List Ru):=(List.range As.length).map fun k=>if inS s (k+1)=true then alL (As.getD k []) (dfL (As.getD k []) (Bs.getD k [])) else As.getD k []
theorem nw_len (As Bs:List (List Ru))(s:Nat):(nwT As Bs s).length=As.length:=by simp[nwT]
theorem nw_get {As Bs:List (List Ru)}{s k:Nat}(h:k<As.length):(nwT As Bs s).getD k []=if inS s (k+1)=true then alL (As.getD k []) (dfL (As.getD k []) (Bs.getD k [])) else As.getD k []:=by
 simp[nwT,List.getD,h]
theorem nw_0 (As Bs:List (List Ru)):nwT As Bs 0=As:=by
 refine List.ext_getElem (by rw[nw_len]) fun k h1 h2=>?_
 simp[nwT,in_0,h2]
theorem ca_rd {S:Int}{As Bs:List (List Ru)}(hS:(As.length:Int)=S)(h6:As.length≤6)(ht:∀j,j<As.length→twN (As.getD j []) (Bs.getD j [])=0){s t:Nat}(hd:∀a,1≤a→a≤6→inS t a=true→inS s a=false):
 ∀k,k≤As.length→caN S (nwT As Bs s) (rnTo (cdL As Bs As.length) t k)=0∧∀j,(caT (nwT As Bs s) (rnTo (cdL As Bs As.length) t k)).getD j []=if j<k then (nwT As Bs (s ||| t)).getD j [] else (nwT As Bs s).getD j []:=by
 intro k
 induction k with
 | zero=>intro _;exact⟨rfl,fun j=>by simp[rnTo,caT]⟩
 | succ k ih =>
   intro hk;obtain⟨i1,i2⟩:=ih (by omega);rw[rd_cd];by_cases h:inS t (k+1)=true
   ·rw[if_pos ⟨h,by omega⟩];have hsk:inS s (k+1)=false:=hd (k+1) (by omega) (by omega) h;have hlen:((caT (nwT As Bs s) (rnTo (cdL As Bs As.length) t k)).length:Int)=S:=by rw[ca_len,nw_len];exact hS
    have hta:taT (caT (nwT As Bs s) (rnTo (cdL As Bs As.length) t k)) ((k+1:Nat):Int)=As.getD k []:=by
     unfold taT;rw[show (((k+1:Nat):Int)-1).toNat=k by omega,i2 k,if_neg (by omega),nw_get (by omega),if_neg (by rw[hsk];decide)]
    have hal:alN (As.getD k []) (dfL (As.getD k []) (Bs.getD k []))=0:=(al_diff (ht k (by omega))).1;have hsw:swB S ((k+1:Nat):Int)=true:=by simp[swB];omega
    obtain⟨c1,c2⟩:=ca_of hsw (l:=dfL (As.getD k []) (Bs.getD k [])) hlen (by rw[hta];exact hal);refine⟨by rw[ca_app,if_pos i1];exact c1,fun j=>?_⟩;rw[cj_app,bkL,c2,hta,show (((k+1:Nat):Int)-1).toNat=k by omega,getD_set,ca_len,nw_len];by_cases e:j=k
    ·subst e;rw[if_pos ⟨rfl,by omega⟩,if_pos (by omega),nw_get (by omega),if_pos (by rw[in_or,h];simp)]
    rw[if_neg (fun x=>e x.1),i2 j];by_cases h3:j<k
    ·rw[if_pos h3,if_pos (by omega)]
    rw[if_neg h3,if_neg (by omega)]
   rw[if_neg (fun x=>h x.1),List.append_nil];refine⟨i1,fun j=>?_⟩;rw[i2 j];by_cases e:j=k
   ·subst e;rw[if_neg (by omega),if_pos (by omega),nw_get (by omega),nw_get (by omega),in_or];simp only[Bool.not_eq_true] at h;rw[h,Bool.or_false]
   by_cases h3:j<k
   ·rw[if_pos h3,if_pos (by omega)]
   rw[if_neg h3,if_neg (by omega)]
section
variable (sf:Nat→Nat→Bool)(all:Nat)
def fiS (done:Nat):Nat→Nat
 | 0=>0
 | k+1=>if (inS (mnS all done) (k+1)&&sf done (fiS done k ||| onS (k+1)))=true then fiS done k ||| onS (k+1) else fiS done k
theorem fi_lt (done:Nat):∀k,fiS sf all done k<64
 | 0=>by simp[fiS]
 | k+1=>by
   rw[fiS];by_cases h:(inS (mnS all done) (k+1)&&sf done (fiS sf all done k ||| onS (k+1)))=true
   ·rw[if_pos h];exact or_lt (fi_lt done k) (on_lt (by omega))
   rw[if_neg h];exact fi_lt done k
theorem fi_in (done:Nat):∀k,k≤6→∀a,1≤a→a≤6→inS (fiS sf all done k) a=true→inS (mnS all done) a=true∧a≤k
 | 0,_,a,_,_,h=>by rw[fiS,in_0] at h;cases h
 | k+1,hk,a,h1,h2,h=>by
   rw[fiS] at h;by_cases c:(inS (mnS all done) (k+1)&&sf done (fiS sf all done k ||| onS (k+1)))=true
   ·rw[if_pos c,in_or,in_on h2 hk] at h;by_cases e:a=k+1
    ·subst e;simp only[Bool.and_eq_true] at c;exact⟨c.1,Nat.le_refl _⟩
    have:=fi_in done k (by omega) a h1 h2 (by simpa[e] using h);exact⟨this.1,by omega⟩
   rw[if_neg c] at h;have:=fi_in done k (by omega) a h1 h2 h;exact⟨this.1,by omega⟩
def roO (nx:Nat→Nat):Nat→Nat→Option (List Nat)
 | 0,done=>if done=all then some [] else none
 | n+1,done=>if done=all then some [] else if nx done=0 then none else (roO nx n (done ||| nx done)).map (nx done :: ·)
end
def lfN (all done:Nat):Nat:=((List.range 6).filter fun k=>inS (mnS all done) (k+1)).length
theorem lf_le (all done:Nat):lfN all done≤6:=Nat.le_trans (List.length_filter_le _ _) (by simp)
theorem fil_lt {α:Type}{p q:α→Bool}:∀{l:List α} {a:α},(∀x,q x=true→p x=true)→a∈l→p a=true→q a=false→(l.filter q).length<(l.filter p).length
 | x :: l,a,h,ha,h1,h2=>by
   have hle:∀l:List α,(l.filter q).length≤(l.filter p).length:=by
    intro l
    induction l with
    | nil=>exact Nat.le_refl _
    | cons y l ih =>
      rw[List.filter_cons,List.filter_cons];cases hq:q y
      ·cases hp:p y
       ·simpa using ih
       simp;omega
      simp[h y hq];exact ih
   rw[List.filter_cons,List.filter_cons]
   rcases List.mem_cons.1 ha with e | e
   ·subst e;rw[h1,h2];have:=hle l;simp;omega
   have:=fil_lt h e h1 h2;cases hq:q x
   ·cases hp:p x
    ·simpa using this
    simp;omega
   simp[h x hq];exact this
theorem lf_less {all done s:Nat}(hs:s<64)(h0:s≠0)(hsub:∀a,1≤a→a≤6→inS s a=true→inS (mnS all done) a=true):lfN all (done ||| s)<lfN all done:=by
 obtain⟨a,h1,h2,h3⟩:=set_some hs h0;have hin:=hsub a h1 h2 h3;unfold lfN;obtain⟨k,rfl⟩:∃k,a=k+1:=⟨a-1,by omega⟩;have e:∀k,k∈List.range 6→inS (mnS all (done ||| s)) (k+1)=(inS (mnS all done) (k+1) && !inS s (k+1)):=fun k hk=>by
  have:=List.mem_range.1 hk;rw[in_mn (by omega) (by omega),in_mn (by omega) (by omega),in_or];cases inS all (k+1) <;> cases inS done (k+1) <;> cases inS s (k+1) <;> rfl
 rw[List.filter_congr e];exact fil_lt (a:=k) (fun x hx=>by simp only[Bool.and_eq_true] at hx;exact hx.1) (List.mem_range.2 (by omega)) hin (by rw[h3];simp)
def NxOK (all:Nat)(nx:Nat→Nat):Prop:=∀done,nx done<64∧∀a,1≤a→a≤6→inS (nx done) a=true→inS (mnS all done) a=true
theorem nx_fi (sf:Nat→Nat→Bool)(all:Nat):NxOK all fun done=>fiS sf all done 6:=fun done=>⟨fi_lt sf all done 6,fun a h1 h2 h=>(fi_in sf all done 6 (Nat.le_refl _) a h1 h2 h).1⟩
theorem lf_0 {all done:Nat}(ha:all<64)(hd:done<64)(hs:∀a,1≤a→a≤6→inS done a=true→inS all a=true)(h:lfN all done=0):done=all:=by
 refine set_ext hd ha fun a h1 h2=>?_
 have hn:=List.length_eq_zero_iff.1 h;rw[List.filter_eq_nil_iff] at hn;have:=hn (a-1) (List.mem_range.2 (by omega));rw[show a-1+1=a by omega,in_mn h1 h2] at this;cases e1:inS done a
 ·cases e2:inS all a
  ·rfl
  rw[e1,e2] at this;simp at this
 exact (hs a h1 h2 e1).symm
theorem ro_more {all:Nat}{nx:Nat→Nat}(hx:NxOK all nx)(ha:all<64):∀(n m done:Nat),done<64→(∀a,1≤a→a≤6→inS done a=true→inS all a=true)→lfN all done≤n→lfN all done≤m→roO all nx n done=roO all nx m done
 | 0,m,done,hd,hs,hn,hm=>by
   have e:=lf_0 ha hd hs (by omega);cases m <;> simp[roO,e]
 | n+1,0,done,hd,hs,hn,hm=>by
   have e:=lf_0 ha hd hs (by omega);simp[roO,e]
 | n+1,m+1,done,hd,hs,hn,hm=>by
   rw[roO,roO];by_cases e:done=all
   ·rw[if_pos e,if_pos e]
   rw[if_neg e,if_neg e];by_cases e0:nx done=0
   ·rw[if_pos e0,if_pos e0]
   rw[if_neg e0,if_neg e0];have hl:=lf_less (hx done).1 e0 (hx done).2;rw[ro_more hx ha n m (done ||| nx done) (or_lt hd (hx done).1) (fun a h1 h2 h=>by
    rw[in_or] at h;by_cases e1:inS done a=true
    ·exact hs a h1 h2 e1
    have:=(hx done).2 a h1 h2 (by simpa[e1] using h);rw[in_mn h1 h2] at this;simp only[Bool.and_eq_true] at this;exact this.1) (by omega) (by omega)]
def roA (all:Nat)(nx:Nat→Nat)(done:Nat):Option (List Nat):=roO all nx 6 done
theorem ro_end {all:Nat}(nx:Nat→Nat):roA all nx all=some []:=by simp[roA,roO]
theorem ro_none {all done:Nat}{nx:Nat→Nat}(h:done≠all)(h0:nx done=0):roA all nx done=none:=by simp[roA,roO,h,h0]
theorem ro_step {all done:Nat}{nx:Nat→Nat}(hx:NxOK all nx)(ha:all<64)(hd:done<64)(hs:∀a,1≤a→a≤6→inS done a=true→inS all a=true)(h:done≠all)(h0:nx done≠0):roA all nx done=(roA all nx (done ||| nx done)).map (nx done :: ·):=by
 have hl:=lf_less (hx done).1 h0 (hx done).2;have h6:=lf_le all done;have hs':∀a,1≤a→a≤6→inS (done ||| nx done) a=true→inS all a=true:=fun a h1 h2 h=>by
  rw[in_or] at h;by_cases e1:inS done a=true
  ·exact hs a h1 h2 e1
  have:=(hx done).2 a h1 h2 (by simpa[e1] using h);rw[in_mn h1 h2] at this;simp only[Bool.and_eq_true] at this;exact this.1
 rw[roA,roO,if_neg h,if_neg h0,roA,ro_more hx ha 5 6 _ (or_lt hd (hx done).1) hs' (by omega) (by omega)]
theorem ret_num {k:IntKind}{a b:Int}(h:a=b):Ending.returned (.int k a)=.returned (.int k b):=by rw[h]
theorem or_fin:∀s t:Fin 64,bits .or .i64 ((s:Nat):Int) ((t:Nat):Int)=(((s:Nat) ||| (t:Nat):Nat):Int):=by decide +kernel
theorem mn_fin:∀s t:Fin 64,bits .andNot .i64 ((s:Nat):Int) ((t:Nat):Int)=((mnS (s:Nat) (t:Nat):Nat):Int):=by decide +kernel
theorem bits_or {s t:Nat}(hs:s<64)(ht:t<64):bits .or .i64 (s:Int) (t:Int)=((s ||| t:Nat):Int):=or_fin ⟨s,hs⟩ ⟨t,ht⟩
theorem bits_mn {s t:Nat}(hs:s<64)(ht:t<64):bits .andNot .i64 (s:Int) (t:Int)=((mnS s t:Nat):Int):=mn_fin ⟨s,hs⟩ ⟨t,ht⟩
theorem only_any (a:Nat)(w:World)(h1:1≤a)(h2:a≤6):
 Calls Tryz.prog 43 #[.int .i64 (a:Int)] w fun e w'=>e=.returned (.int .i64 (onS a:Int))∧w'=w:=by
 have h0:0≤(a:Int):=by omega
 have h3:(a:Int)≤6:=by omega
 go_enter Tryz.func43,Tryz.ntmps43;go_wp2;go_ret;refine⟨ret_num ?_,rfl⟩
 rcases (by omega:a=1∨a=2∨a=3∨a=4∨a=5∨a=6) with rfl | rfl | rfl | rfl | rfl | rfl <;> decide +kernel
theorem setHas_any (s x:Nat)(w:World)(hs:s<64)(hx:x<64):
 Calls Tryz.prog 45 #[.int .i64 (s:Int),.int .i64 (x:Int)] w fun e w'=>e=.returned (.bool (decide (mnS x s=0)))∧w'=w:=by
 have HE:Hid (bits .andNot .i64 (x:Int) (s:Int)=((mnS x s:Nat):Int)):=bits_mn hx hs;go_enter Tryz.func45,Tryz.ntmps45;go_wp2;go_ret;refine⟨?_,rfl⟩;rw[HE.out];by_cases h:mnS x s=0
 ·rw[h];rfl
 have:(((mnS x s:Nat):Int)==0)=false:=by rw[beq_eq_false_iff_ne];omega
 simp[h,this]
theorem setHas_on (s a:Nat)(w:World)(hs:s<64)(h1:1≤a)(h2:a≤6):
 Calls Tryz.prog 45 #[.int .i64 (s:Int),.int .i64 (onS a:Int)] w fun e w'=>e=.returned (.bool (inS s a))∧w'=w:=by
 refine (setHas_any s (onS a) w hs (on_lt h1)).mono ?_;rintro e w' ⟨rfl,rfl⟩;refine⟨?_,rfl⟩;have h:=on_sub (s:=s) h1 h2;cases hi:inS s a
 ·rw[decide_eq_false (fun h3=>by have:=h.1 h3;rw[hi] at this;cases this)]
 rw[decide_eq_true (h.2 hi)]
end
end Go.Proofs.YtiokpmlhmlcojaaGreatDoor
