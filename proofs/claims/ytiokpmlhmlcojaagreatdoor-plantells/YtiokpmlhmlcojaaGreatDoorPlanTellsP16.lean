/- Contracts and facts on the way to PlanTells, joined into one text: RefReady, RefApply, RefFits, FtsAt, RefFate2, MixHas, RefLess, RefPut. -/
import Derived.Test.YtiokpmlhmlcojaaGreatDoorPlanTellsP15
namespace Go.Proofs.YtiokpmlhmlcojaaGreatDoor
set_option linter.unusedSimpArgs false
set_option linter.unusedVariables false
set_option maxHeartbeats 16000000
set_option maxRecDepth 100000
section
open Go.RowKit
theorem rready_any (S:Int)(v1 v2 v3:Value)(S':Int)(u1 u2 u3 v4:Value)(Ls:List LkT)(Hs:List HoT)(Ts:List (List Ru))(Ls':List LkT)(Hs':List HoT)(Ts':List (List Ru))(ws:List Wi)(w:World)
 (hN:NI w v1 v2 v3 Ls Hs Ts) (hM:NI w u1 u2 u3 Ls' Hs' Ts') (hw:GS wisE w v4 ws):
 Calls Tryz.prog 9 #[.agg #[.int .i64 S,v1,v2,v3],.agg #[.int .i64 S',u1,u2,u3],v4] w fun e w'=>∃v,e=.returned (.tuple #[v,.int .i64 (pdN S Ls Hs Ts S' Ls' Hs' Ts' ws)])∧NO w' w.heap.size v (pdL S Ls Hs Ts S' Ls' Hs' Ts' ws)∧Below w.heap.size w w':=by
 obtain⟨ao,n,cap,ao2,n2,cap2,ao3,n3,cap3,rfl,rfl,rfl⟩:=hN.form;obtain⟨bo,m,dap,bo2,m2,dap2,bo3,m3,dap3,rfl,rfl,rfl⟩:=hM.form;obtain⟨a4,n4,c4,rfl,_⟩:=hw.form;obtain⟨w1,hw1⟩:∃W,W=(w.alloc (Obj.cells #[.int .i64 S,.slice ao n cap,.slice ao2 n2 cap2,.slice ao3 n3 cap3] 28)).alloc (Obj.cells #[.int .i64 S',.slice bo m dap,.slice bo2 m2 dap2,.slice bo3 m3 dap3] 28):=⟨_,rfl⟩;have hb1:Below w.heap.size w w1:=by rw[hw1];exact ((Below.refl _ _).alloc (Nat.le_refl _) _).alloc (by simp) _
 have hnn:NN w1 w.heap.size S (.slice ao n cap) (.slice ao2 n2 cap2) (.slice ao3 n3 cap3) S' (.slice bo m dap) (.slice bo2 m2 dap2) (.slice bo3 m3 dap3):=by rw[hw1];exact nn_new w S _ _ _ S' _ _ _ 28
 have HNW:Hid (∀W,Below w1.heap.size w1 W→NI W (.slice ao n cap) (.slice ao2 n2 cap2) (.slice ao3 n3 cap3) Ls Hs Ts∧NI W (.slice bo m dap) (.slice bo2 m2 dap2) (.slice bo3 m3 dap3) Ls' Hs' Ts'∧GS wisE W (.slice a4 n4 c4) ws):=fun W h=>⟨(hN.later hb1).later h,(hM.later hb1).later h,(hw.later hb1).later h⟩
 have HNB:Hid (∀W,Below w1.heap.size w1 W→NeBox W w.heap.size S (.slice ao n cap) (.slice ao2 n2 cap2) (.slice ao3 n3 cap3)∧NeBox W (w.heap.size+1) S' (.slice bo m dap) (.slice bo2 m2 dap2) (.slice bo3 m3 dap3)):=fun W h=>⟨hnn.1.later h,hnn.2.later h⟩
 have HB1:Hid (Below w.heap.size w w1):=hb1;have HW1:Hid ((w.alloc (Obj.cells #[.int .i64 S,.slice ao n cap,.slice ao2 n2 cap2,.slice ao3 n3 cap3] 28)).alloc (Obj.cells #[.int .i64 S',.slice bo m dap,.slice bo2 m2 dap2,.slice bo3 m3 dap3] 28)=w1):=hw1.symm;obtain⟨E,hE⟩:∃q,q=ntN S Ls Hs Ts:=⟨_,rfl⟩;have HE:Hid (ntN S Ls Hs Ts=E):=hE.symm;obtain⟨Y,hY⟩:∃q,q=nwN S Ls Hs Ts S' Ls' Hs' Ts':=⟨_,rfl⟩;have HY:Hid (nwN S Ls Hs Ts S' Ls' Hs' Ts'=Y):=hY.symm;have HYE:Hid (Y=if E=0 then ntN S' Ls' Hs' Ts' else E):=by rw[hY,hE];exact rfl
 obtain⟨T,hT⟩:∃q,q=tpB S S' Ls Ls' Hs Hs':=⟨_,rfl⟩;have HT:Hid (tpB S S' Ls Ls' Hs Hs'=T):=hT.symm;obtain⟨U,hU⟩:∃q,q=wsN S Ls Hs ws:=⟨_,rfl⟩;have HU:Hid (wsN S Ls Hs ws=U):=hU.symm;obtain⟨X,hX⟩:∃q,q=pdN S Ls Hs Ts S' Ls' Hs' Ts' ws:=⟨_,rfl⟩;have HX:Hid (pdN S Ls Hs Ts S' Ls' Hs' Ts' ws=X):=hX.symm;have HXV:Hid (X=if Y=0 then (if T=true then U else 3) else Y):=by
  show X=_;rw[hX,pdN,diN,←hY,←hT,←hU];by_cases h1:Y=0
  ·by_cases h2:T=true
   ·simp[h1,h2]
   simp[h1,h2]
  simp[h1]
 obtain⟨D,hD⟩:∃q,q=pdL S Ls Hs Ts S' Ls' Hs' Ts' ws:=⟨_,rfl⟩;have HDN:Hid (X≠0→D=[]):=fun h=>by rw[hD,pdL,←hX,if_neg h]
 have HDC:Hid (X=0→D=cdL Ts Ts' Ts.length):=fun h=>by rw[hD];exact (pd_ok (hX.symm.trans h)).1.d
 rw[←hX,←hD];clear hN hM hw hb1 hnn hw1 hE hY hT hU hX hD;go_enter Tryz.func9,Tryz.ntmps9;go_upto_region 1 with fail;rw[HW1.out];clear HW1;obtain⟨⟨q0,q1,q2,q3⟩,r0,r1,r2,r3⟩:=HNB.out w1 (Below.refl _ _)
 go_wp2_with fail
 refine (rnet_any S ao n cap ao2 n2 cap2 ao3 n3 cap3 Ls Hs Ts w1 (HNW.out _ (Below.refl _ _)).1.l (HNW.out _ (Below.refl _ _)).1.h (HNW.out _ (Below.refl _ _)).1.t).mono ?_;rintro e w2 ⟨rfl,hb2⟩;rw[HE.out];have HB2:Hid (Below w1.heap.size w1 w2):=hb2;clear hb2 q0 q1 q2 q3 r0 r1 r2 r3
 go_upto_if 13 with fail
 go_cut [8] from 9 (fun e w'=>e=.int .i64 Y∧Below w2.heap.size w2 w')
 case first =>
  by_cases hE0:E=0
  ·have hY2:ntN S' Ls' Hs' Ts'=Y:=(HYE.out.trans (if_pos hE0)).symm;have HY2:Hid (ntN S' Ls' Hs' Ts'=Y):=hY2;subst hE0;obtain⟨_,r0,r1,r2,r3⟩:=HNB.out w2 HB2.out
   go_wp2_with fail
   refine (rnet_any S' bo m dap bo2 m2 dap2 bo3 m3 dap3 Ls' Hs' Ts' w2 (HNW.out _ HB2.out).2.1.l (HNW.out _ HB2.out).2.1.h (HNW.out _ HB2.out).2.1.t).mono ?_;rintro e w3 ⟨rfl,hb3⟩;rw[HY2.out];have HB3:Hid (Below w2.heap.size w2 w3):=hb3;clear hb3 hY2
   go_wp2_with fail
   go_meet
   case rel=>exact⟨rfl,HB3.out⟩
  have hYE:Y=E:=HYE.out.trans (if_neg hE0);subst hYE;have hq:(Y==0)=false:=by simpa using hE0
  go_wp2_with fail
  go_meet
  case rel=>exact⟨rfl,Below.refl _ _⟩
 case rest =>
 obtain⟨rfl,hb3⟩:=hcut;obtain⟨w3,hw3⟩:∃X,X=wc:=⟨_,rfl⟩;subst hw3;have HB3:Hid (Below w1.heap.size w1 w3):=HB2.out.trans (hb3.mono HB2.out.size);clear hb3;by_cases hY0:Y=0
 ·have HXA:Hid (X=if T=true then U else 3):=HXV.out.trans (if_pos hY0);have HNW0:Hid (nwN S Ls Hs Ts S' Ls' Hs' Ts'=0):=HY.out.trans hY0;subst hY0;obtain⟨⟨q0,q1,q2,q3⟩,r0,r1,r2,r3⟩:=HNB.out w3 HB3.out
  go_wp2_with fail
  refine (refAlike_any S ao n cap ao2 n2 cap2 Ls Hs S' bo m dap bo2 m2 dap2 Ls' Hs' w3 (HNW.out _ HB3.out).1.l (HNW.out _ HB3.out).1.h (HNW.out _ HB3.out).2.1.l (HNW.out _ HB3.out).2.1.h).mono ?_;rintro e w4 ⟨rfl,hb4⟩;rw[HT.out];have HB4:Hid (Below w1.heap.size w1 w4):=HB3.out.trans (hb4.mono HB3.out.size);clear hb4 q0 q1 q2 q3 r0 r1 r2 r3;cases T with
  | false =>
    have hX3:X=3:=HXA.out.trans (by simp);have HX3:Hid (X=3):=hX3;have HDE:Hid (D=[]):=HDN.out (by rw[hX3];decide);have HBW:Hid (Below w.heap.size w w4):=HB1.out.trans (HB4.out.mono HB1.out.size);clear hX3;go_wp2;refine bodyPost_ret (v:=.tuple #[.slice none 0 0,.int .i64 3]) (by simp[results,Tryz.results9,go_sem, *]) rfl ⟨.slice none 0 0,by rw[HX3.out],by rw[HDE.out];exact NO.nil _ _,HBW.out⟩
  | true =>
    have hXU:X=U:=HXA.out.trans (by simp);subst hXU;obtain⟨⟨q0,q1,q2,q3⟩,r0,r1,r2,r3⟩:=HNB.out w4 HB4.out
    go_wp2_with fail
    refine (rwishes_any S ao n cap ao2 n2 cap2 a4 n4 c4 Ls Hs ws w4 (HNW.out _ HB4.out).1.l (HNW.out _ HB4.out).1.h (HNW.out _ HB4.out).2.2).mono ?_;rintro e w5 ⟨rfl,hb5⟩;rw[HU.out];have HB5:Hid (Below w1.heap.size w1 w5):=HB4.out.trans (hb5.mono HB4.out.size);have HBW:Hid (Below w.heap.size w w5):=HB1.out.trans (HB5.out.mono HB1.out.size);clear hb5 q0 q1 q2 q3 r0 r1 r2 r3;by_cases hX0:X=0
    ·have HX0:Hid (X=0):=hX0;obtain⟨hpk,_,_,hlen⟩:=pd_ok (HX.out.trans hX0);have HDE:Hid (D=cdL Ts Ts' Ts.length):=HDC.out hX0;have HCH:Hid (Calls Tryz.prog 13 #[.agg #[.int .i64 S,.slice ao n cap,.slice ao2 n2 cap2,.slice ao3 n3 cap3],.agg #[.int .i64 S',.slice bo m dap,.slice bo2 m2 dap2,.slice bo3 m3 dap3]] w5 fun e w'=>∃v,e=.returned v∧NO w' w5.heap.size v (cdL Ts Ts' Ts.length)∧Below w5.heap.size w5 w'):=refChanges_any S _ _ ao3 n3 cap3 S' _ _ bo3 m3 dap3 Ts Ts' w5 rfl rfl rfl rfl (HNW.out _ HB5.out).1.t (HNW.out _ HB5.out).2.1.t hlen (by have:=hpk.len.2;omega) hpk.tw;subst hX0;obtain⟨⟨q0,q1,q2,q3⟩,r0,r1,r2,r3⟩:=HNB.out w5 HB5.out;clear hpk hlen
     go_wp2_with fail
     refine HCH.out.mono ?_;rintro e w6 ⟨v,rfl,hNO,hb6⟩;have HNO:Hid (NO w6 w.heap.size v D):=by rw[HDE.out];exact hNO.mono HBW.out.size
     have HB6:Hid (Below w.heap.size w w6):=HBW.out.trans (hb6.mono HBW.out.size);clear hNO hb6 q0 q1 q2 q3 r0 r1 r2 r3;go_wp2;refine bodyPost_ret (v:=.tuple #[v,.int .i64 0]) (by simp[results,Tryz.results9,go_sem, *]) rfl ⟨v,rfl,HNO.out,HB6.out⟩
    have HDE:Hid (D=[]):=HDN.out hX0;have hq:(X==0)=false:=by simpa using hX0
    clear hX0;go_wp2;refine bodyPost_ret (v:=.tuple #[.slice none 0 0,.int .i64 X]) (by simp[results,Tryz.results9,go_sem, *]) rfl ⟨.slice none 0 0,rfl,by rw[HDE.out];exact NO.nil _ _,HBW.out⟩
 have hXY:X=Y:=HXV.out.trans (if_neg hY0);subst hXY;have HDE:Hid (D=[]):=HDN.out hY0;have hq:(X==0)=false:=by simpa using hY0
 have HBW:Hid (Below w.heap.size w w3):=HB1.out.trans (HB3.out.mono HB1.out.size);clear hY0;go_wp2;refine bodyPost_ret (v:=.tuple #[.slice none 0 0,.int .i64 X]) (by simp[results,Tryz.results9,go_sem, *]) rfl ⟨.slice none 0 0,rfl,by rw[HDE.out];exact NO.nil _ _,HBW.out⟩
def OffQ (Qp:Nat→Prop)(vs:List SlT):Prop:=∀x∈vs,∀b,Qp b→offB x b
theorem OffQ.set {Qp:Nat→Prop}{vs:List SlT}(h:OffQ Qp vs){i:Nat}{x:SlT}(hx:∀b,Qp b→offB x b):OffQ Qp (vs.set i x):=fun y hy b hb=>by
 rcases List.mem_or_eq_of_mem_set hy with h1 | h1
 ·exact h y h1 b hb
 rw[h1];exact hx b hb
theorem wpList_append_tabs2 (w:World){ops:Array Oper}{rest:List Oper}{o:Oper}{a:Act}{Q:Exit→Act→World→Prop}(hgd:o.guard=none)(s x:Operand)(t:TypeId)
 (ho:o.op=.call { callee:=.builtin .append,args:=#[s,x],argTypes:=#[t,t] }) (ht:Tryz.prog.underlying t=some (.slice 93))
 (hs:a.eval s=.slice none 0 0) (u:Value) (hx:a.eval x=u) (Ts:List (List Ru)) (w0:World) (hM:TS w0 u Ts) (hb:Below w0.heap.size w0 w) (h100:Ts.length≤1000000)
 (h:∀v' w' vs,TR 93 w' w0.heap.size w.heap.size v' vs Ts→w.grownBy w' none→GS slE w0 u vs→wpList Tryz.prog ops Q rest (a.put o.dst v') w'):wpList Tryz.prog ops Q (o :: rest) a w:=by
 obtain⟨i0,hi,hz0,hz1,hz2⟩:=info_parts ta_info;obtain⟨vs,g1,g2,g3⟩:=ts_sl hM;refine wpList_append_GS (E:=slE) w hgd s x t 93 ho ht i0 _ 24 hi hz0 hz1 hz2 ta_zero w.heap.size _ hs [] (World.ownsRow_nil _ _ _ _) u hx vs (g1.later hb) (by unfold maxLen;simp[g2];omega) (by simp[g2];omega) (Nat.le_refl _) ?_;intro v' w' h1 h2;exact h v' w' vs (tr_copy g2 g3 hb h2 hb.size h1) h2 g1
theorem refApply_far (S:Int)(ao:Option Addr)(n cap:Nat)(ao2:Option Addr)(n2 cap2:Nat)(ao3:Option Addr)(n3 cap3:Nat)(a4:Option Addr)(n4 c4:Nat)(Ls:LkQ)(Hs:HoQ)(Ts:List (List Ru))(l:List Op8)(w0 w:World)
 (hT:TS w0 (.slice ao3 n3 cap3) Ts) (hw0:Below w0.heap.size w0 w) (hl:GS opE w (.slice a4 n4 c4) l) (hN:ntN S Ls Hs Ts=0) (Qp:Nat→Prop) (hQ:∀b,Qp b→b<w.heap.size∧∀vs0,GS slE w0 (.slice ao3 n3 cap3) vs0→∀x∈vs0,offB x b):
 Calls Tryz.prog 11 #[.agg #[.int .i64 S,.slice ao n cap,.slice ao2 n2 cap2,.slice ao3 n3 cap3],.slice a4 n4 c4] w fun e w'=>∃b3 k3 d3,e=.returned (.tuple #[.agg #[.int .i64 (nvS (cgN S Ls Hs Ts l) S),nvV (cgN S Ls Hs Ts l) (.slice ao n cap),nvV (cgN S Ls Hs Ts l) (.slice ao2 n2 cap2),.slice b3 k3 d3],.int .i64 (cgN S Ls Hs Ts l)])∧(∃vs,TR 93 w' w0.heap.size w.heap.size (.slice b3 k3 d3) vs (nvL (cgN S Ls Hs Ts l) (caT Ts l))∧OffQ Qp vs)∧Below w.heap.size w w':=by
 have HQ:Hid (∀b,Qp b→b<w.heap.size∧∀vs0,GS slE w0 (.slice ao3 n3 cap3) vs0→∀x∈vs0,offB x b):=hQ;clear hQ;have HW0:Hid (Below w0.heap.size w0 w):=hw0;have hb0:Below w.heap.size w ((w.alloc (Obj.cells #[.int .i64 S,.slice ao n cap,.slice ao2 n2 cap2,.slice ao3 n3 cap3] 28)).alloc (Obj.cells #[.int .i64 0,.slice none 0 0,.slice none 0 0,.slice none 0 0] 28)):=((Below.refl _ _).alloc (Nat.le_refl _) _).alloc (by simp) _;have HAB0:=ab_new w S (.slice ao n cap) (.slice ao2 n2 cap2) (.slice ao3 n3 cap3) 28;have HB0:Hid (Below w.heap.size w ((w.alloc (Obj.cells #[.int .i64 S,.slice ao n cap,.slice ao2 n2 cap2,.slice ao3 n3 cap3] 28)).alloc (Obj.cells #[.int .i64 0,.slice none 0 0,.slice none 0 0,.slice none 0 0] 28))):=hb0;have HT0:=hT;obtain⟨_,_,_,e,hn,hn2,hn3,ha⟩:=hl.form;cases e;have HN:Hid (l.length=n4):=hn;have HA:Hid (0<n4→∃g o,a4=some ⟨g,o,none⟩∧GAt opE w g o l∧c4≤maxLen):=ha;have HNT:Hid (ntN S Ls Hs Ts=0):=hN;obtain⟨t1,t2,t3⟩:=nt_0 hN;have HOK:Hid (tsOk Ts):=ok_ts t3;have HSL:Hid ((Ts.length:Int)=S):=t2;have hS6:1≤S∧S≤1000:=by
  unfold tpN at t1;cases e:(decide (1≤S)&&decide (S≤6))
  ·rw[e] at t1;simp at t1
  simp at e;omega
 have n63:n4≤9223372036854775807:=by unfold maxLen at hn2;omega
 have HTL:Hid (Ts.length≤1000000):=by
  show _≤_;omega
 clear hT hl hN hn hn2 ha hb0 t1 t2 t3 hw0;obtain⟨X,hX⟩:∃X,X=cgN S Ls Hs Ts l:=⟨_,rfl⟩;have HX:Hid (X=if 200<l.length then 4 else caN S Ts l):=by
  show _=_;rw[hX,cgN,if_pos HNT.out]
 rw[←hX];clear hX;by_cases h200:200<n4
 ·have HX4:Hid (X=4):=by
   show _=_;rw[HX.out,if_pos (by rw[HN.out];exact h200)]
  obtain⟨q0,q1,q2,q3⟩:=HAB0.r;have rf:=HAB0.f;have f0:=rf 0;have f1:=rf 1;have f2:=rf 2;have f3:=rf 3;have e4:decide ((200:Int)<(n4:Int))=true:=by simp;omega
  clear rf;go_enter Tryz.func11,Tryz.ntmps11;go_wp2;refine bodyPost_ret (v:=.tuple #[.agg #[.int .i64 0,.slice none 0 0,.slice none 0 0,.slice none 0 0],.int .i64 4]) (by simp[results,Tryz.results11,go_sem, *]) rfl ?_;rw[HX4.out];exact⟨_,_,_,rfl,⟨[],tr_nil _ _ _ _,fun x h=>absurd h (by simp)⟩,HB0.out⟩
 have HXC:Hid (X=caN S Ts l):=by
  show _=_;rw[HX.out,if_neg (by rw[HN.out];exact h200)]
 have e4:decide ((200:Int)<(n4:Int))=false:=by simp;omega
 have HSZ:Hid (((w.alloc (Obj.cells #[.int .i64 S,.slice ao n cap,.slice ao2 n2 cap2,.slice ao3 n3 cap3] 28)).alloc (Obj.cells #[.int .i64 0,.slice none 0 0,.slice none 0 0,.slice none 0 0] 28)).heap.size=w.heap.size+2):=by
  show _=_;simp
 go_enter Tryz.func11,Tryz.ntmps11
 go_wp2_with (at_builtin;refine wpList_append_tabs2 _ rfl _ _ 26 rfl Tryz.underlying26 rfl _ rfl Ts w0 HT0 (HW0.out.trans (HB0.out.mono HW0.out.size)) HTL.out ?_)
 intro v' w1 vs hTR hg hgs;have HVO1:Hid (OffQ Qp vs):=fun x hx b hb=>(HQ.out b hb).2 vs hgs x hx
 clear hgs
 replace hTR:TR 93 w1 w0.heap.size (w.heap.size+2) v' vs Ts:=by first | exact hTR | (have h:=hTR;simp only[World.size_alloc] at h;exact h) | (have h:=hTR;rw[HSZ.out] at h;exact h)
 have HAB1:Hid (AB w1 w.heap.size S (.slice ao n cap) (.slice ao2 n2 cap2) (.slice ao3 n3 cap3)):=HAB0.grown hg (fun g hg=>by cases hg);have HB1:Hid (Below w.heap.size w w1):=HB0.out.grown hg HB0.out.size (fun g hg=>by cases hg);obtain⟨g,cap',rfl⟩:∃g cap',v'=.slice (some ⟨g,0,none⟩) Ts.length cap':=by
  have hlv:=hTR.lv;have hts:=HSL.out
  rcases hTR.ov.2 with ⟨_,h0⟩ | ⟨g,cap',_,rfl,_⟩
  ·omega
  exact⟨g,cap',by rw[hlv]⟩
 have HTR1:Hid (TR 93 w1 w0.heap.size (w.heap.size+2) (.slice (some ⟨g,0,none⟩) Ts.length cap') vs Ts):=hTR;obtain⟨N,hNN⟩:∃N,N=Ts.length:=⟨_,rfl⟩;have HNN:Hid (N=Ts.length):=hNN;have HNS:Hid ((N:Int)=S):=by
  show _=_;rw[hNN];exact HSL.out
 rw[←hNN];rw[←hNN] at HTR1;clear hTR hg HAB0 HB0 HSZ HT0 hNN;go_wp2
 go_loopw [7] (fun i wr=>∃(k:Nat) (vs:List SlT),k≤n4∧i=.int .i64 k∧caN S Ts (l.take k)=0∧TR 93 wr w0.heap.size (w.heap.size+2) (.slice (some ⟨g,0,none⟩) N cap') vs (caT Ts (l.take k))∧OffQ Qp vs∧AB wr w.heap.size S (.slice ao n cap) (.slice ao2 n2 cap2) (.slice ao3 n3 cap3)∧Below w.heap.size w wr) (fun i _=>n4-(intOf i).toNat)
 case atStart=>exact⟨0,vs,by omega,rfl,rfl,HTR1.out,HVO1.out,HAB1.out,HB1.out⟩
 case round =>
  obtain⟨k,vs,hk,rfl,hca,hTR,hVO,hAB,hB⟩:=hrel;have HVO:Hid (OffQ Qp vs):=hVO;clear hVO;clear HTR1 HAB1 HB1;have HB:Hid (Below w.heap.size w wr):=hB;have HCA:Hid (caN S Ts (l.take k)=0):=hca;have HAB:Hid (AB wr w.heap.size S (.slice ao n cap) (.slice ao2 n2 cap2) (.slice ao3 n3 cap3)):=hAB;obtain⟨Tk,hTk⟩:∃T,T=caT Ts (l.take k):=⟨_,rfl⟩;have HTK:Hid (Tk=caT Ts (l.take k)):=hTk;rw[←hTk] at hTR;have HTR:Hid (TR 93 wr w0.heap.size (w.heap.size+2) (.slice (some ⟨g,0,none⟩) N cap') vs Tk):=hTR;have HTkL:Hid (Tk.length=N):=by
   show _=_;rw[hTk,ca_len,HNN.out]
  have HOKk:Hid (tsOk Tk):=by
   rw[hTk];exact ca_right HOK.out hca
  clear hca hTR hTk;by_cases hlt:k<n4
  ·obtain⟨gl,ol,hao,hc,_⟩:=HA.out (by omega);subst hao;obtain⟨y0,ya,p,m,b,q,s,v,hkl,hLk,r0,r1,r2,r3,r4,r5,r6,r7⟩:=op_at (hc.later hB) HN.out hlt;have HLK:Hid (l[k]=⟨y0,ya,⟨p,m,b,q,s,v⟩⟩):=hLk;have HCAT:Hid (caN S Ts l=caN S Tk (⟨y0,ya,⟨p,m,b,q,s,v⟩⟩ :: l.drop (k+1))):=by
    show _=_;rw[HTK.out,←hLk,ca_split hkl HCA.out]
   have hltl:gl<wr.heap.size:=bLQ _ _ r0;obtain⟨q0,q1,q2,q3⟩:=hAB.r;obtain⟨n0,_,_,_⟩:=hAB.n;have hltB:=hAB.lt;have hlt0:w.heap.size<wr.heap.size:=by omega
   have f0:=hAB.f 0;have f1:=hAB.f 1;have f2:=hAB.f 2;have f3:=hAB.f 3;have kb0:(0:Int)≤(k:Int):=by omega
   have kb1:(k:Int)<(n4:Int):=by omega
   clear hLk hB hc hAB;cases hsw:swB S y0
   ·have HX1:Hid (X=1):=by
     show _=_;rw[HXC.out,HCAT.out,caN,hsw];rfl
    by_cases hy:y0<1
    ·have e5:decide (y0<1)=true:=by simpa using hy
     go_wp2;refine bodyPost_ret (v:=.tuple #[.agg #[.int .i64 0,.slice none 0 0,.slice none 0 0,.slice none 0 0],.int .i64 1]) (by simp[results,Tryz.results11,go_sem, *]) rfl ?_;rw[HX1.out];exact⟨_,_,_,by rw[nvS,nvV,nvV,if_neg (by decide),if_neg (by decide),if_neg (by decide)],⟨[],by rw[nvL,if_neg (by decide)];exact⟨tr_nil _ _ _ _,fun x h=>absurd h (by simp)⟩⟩,(below_pn4 HB.out (w.heap.size+1) (by omega) _ _ _ _).alloc (Nat.le_trans HB.out.size (grown_put4 wr (w.heap.size+1) _ _ _ _).size) _⟩
    have e5:decide (y0<1)=false:=by simpa using hy
    have e6:decide (S<y0)=true:=by
     simp only[swB,Bool.and_eq_false_iff,decide_eq_false_iff_not] at hsw;simp;omega
    go_wp2;refine bodyPost_ret (v:=.tuple #[.agg #[.int .i64 0,.slice none 0 0,.slice none 0 0,.slice none 0 0],.int .i64 1]) (by simp[results,Tryz.results11,go_sem, *]) rfl ?_;rw[HX1.out];exact⟨_,_,_,by rw[nvS,nvV,nvV,if_neg (by decide),if_neg (by decide),if_neg (by decide)],⟨[],by rw[nvL,if_neg (by decide)];exact⟨tr_nil _ _ _ _,fun x h=>absurd h (by simp)⟩⟩,(below_pn4 HB.out (w.heap.size+1) (by omega) _ _ _ _).alloc (Nat.le_trans HB.out.size (grown_put4 wr (w.heap.size+1) _ _ _ _).size) _⟩
   have hw:=sw_of.1 hsw;obtain⟨i,hi⟩:∃i:Nat,y0=(i:Int)+1:=⟨(y0-1).toNat,by omega⟩;have HI:Hid (y0=(i:Int)+1):=hi;have hiN:i<N:=by have:=HNS.out;omega
   have e5:decide (y0<1)=false:=by simp;omega
   have e6:decide (S<y0)=false:=by simp;omega
   have iw:IntKind.i64.wrap (y0-1)=(i:Int):=by rw[IntKind.wrap_i64];omega
   have ib0:(0:Int)≤(i:Int):=by omega
   have ib1:(i:Int)<(N:Int):=by omega
   have hBA:Below wr.heap.size wr (wr.alloc (Obj.cells #[.int .i64 y0,.bool ya,.int .i64 p,.int .i64 m,.int .i64 b,.int .i64 q,.int .i64 s,.int .i64 v] 90)):=(Below.refl _ _).alloc (Nat.le_refl _) _;have HBA:Hid (Below wr.heap.size wr (wr.alloc (Obj.cells #[.int .i64 y0,.bool ya,.int .i64 p,.int .i64 m,.int .i64 b,.int .i64 q,.int .i64 s,.int .i64 v] 90))):=hBA;have HOB:=op_new wr y0 ya p m b q s v 90;have HTA:Hid (taT Tk y0=Tk.getD i []):=by
    show _=_;rw[taT]
    congr 1
    omega
   have HTO:Hid (tbN (taT Tk y0)=0):=HOKk.out _ (ta_mem (by omega) (by rw[HTkL.out];have:=HNS.out;omega));have HXI:Hid (X=if doN (taT Tk y0) ya ⟨p,m,b,q,s,v⟩=0 then caN S (Tk.set i (doL (taT Tk y0) ya ⟨p,m,b,q,s,v⟩)) (l.drop (k+1)) else doN (taT Tk y0) ya ⟨p,m,b,q,s,v⟩):=by
    show _=_;have e7:(y0-1).toNat=i:=by have:=HI.out;omega
    rw[HXC.out,HCAT.out,caN,hsw,if_pos rfl,e7]
   clear hBA hsw hw hi
   go_wp2_with fail
   refine (refRule_any _ _ _ _ _ _ _).mono ?_;rintro e w2 ⟨rfl,hb2⟩;obtain⟨RN,hRN⟩:∃r,r=ruN p m b q s v:=⟨_,rfl⟩;have HRN:Hid (RN=ruN p m b q s v):=hRN;rw[←hRN];have HBr:Hid (Below wr.heap.size wr w2):=HBA.out.trans (hb2.mono HBA.out.size);have HB2:Hid (Below w.heap.size w w2):=HB.out.trans (HBr.out.mono HB.out.size);have HAB2:Hid (AB w2 w.heap.size S (.slice ao n cap) (.slice ao2 n2 cap2) (.slice ao3 n3 cap3)):=HAB.out.later HBr.out;have HTR2:Hid (TR 93 w2 w0.heap.size (w.heap.size+2) (.slice (some ⟨g,0,none⟩) N cap') vs Tk):=HTR.out.later HBr.out;have HOB2:Hid (VAt w2 wr.heap.size 0 (opE.c ⟨y0,ya,⟨p,m,b,q,s,v⟩⟩)):=HOB.later hb2;have hltw:wr.heap.size<w2.heap.size:=bLQ _ _ (op_cells HOB2.out).1;clear hb2 hRN HBA HOB q0 q1 q2 q3 f0 f1 f2 f3 n0 r0 r1 r2 r3 r4 r5 r6 r7;obtain⟨q0,q1,q2,q3⟩:=HAB2.out.r;have hltB2:=HAB2.out.lt;have hlt02:w.heap.size<w2.heap.size:=by omega
   have f0:=HAB2.out.f 0;have f1:=HAB2.out.f 1;have f2:=HAB2.out.f 2;have f3:=HAB2.out.f 3;by_cases hR:RN=0
   ·subst hR;have HDN:Hid (doN (taT Tk y0) ya ⟨p,m,b,q,s,v⟩=chN (taT Tk y0) ya ⟨p,m,b,q,s,v⟩∧doL (taT Tk y0) ya ⟨p,m,b,q,s,v⟩=chL (taT Tk y0) ya ⟨p,m,b,q,s,v⟩):=do_ch2 HTO.out HRN.out.symm;obtain⟨x,hx1,hx2,hx3,hx0,hx4,hx5⟩:=HTR2.out.at (i:=i) (by rw[HTkL.out];exact hiN);clear hx0;obtain⟨a5,n5,c5⟩:=x;have HSR:Hid (SR w2 (.slice a5 n5 c5) (taT Tk y0)):=by
     rw[HTA.out];exact hx2
    have hx1':w2.cell? ⟨g,i,none⟩=some (.slice a5 n5 c5):=hx1;have HDO:Hid (∀W,Below w2.heap.size w2 W→Calls Tryz.prog 31 #[.slice a5 n5 c5,.bool ya,.agg #[.int .i64 p,.int .i64 m,.int .i64 b,.int .i64 q,.int .i64 s,.int .i64 v]] W fun e w'=>∃u,e=.returned (.tuple #[u,.int .i64 (chN (taT Tk y0) ya ⟨p,m,b,q,s,v⟩)])∧NR w' w2.heap.size u (chL (taT Tk y0) ya ⟨p,m,b,q,s,v⟩)∧Below w2.heap.size w2 w'):=fun W hW=>by
     refine (refDo_any a5 n5 c5 ya p m b q s v _ W (HSR.out.later hW) HTO.out).mono ?_;rintro e w' ⟨u,h1,h2,h3⟩;exact⟨u,h1,h2.mono hW.size,hW.trans (h3.mono hW.size)⟩
    have HMK:Hid (∀W,Below w2.heap.size w2 W→Below w2.heap.size w2 W∧W.cell? ⟨g,i,none⟩=some (.slice a5 n5 c5)∧W.cell? ⟨wr.heap.size,0,none⟩=some (.int .i64 y0)∧W.cell? ⟨wr.heap.size,1,none⟩=some (.bool ya)∧W.cell? ⟨wr.heap.size,2,none⟩=some (.int .i64 p)∧W.cell? ⟨wr.heap.size,3,none⟩=some (.int .i64 m)∧W.cell? ⟨wr.heap.size,4,none⟩=some (.int .i64 b)∧W.cell? ⟨wr.heap.size,5,none⟩=some (.int .i64 q)∧W.cell? ⟨wr.heap.size,6,none⟩=some (.int .i64 s)∧W.cell? ⟨wr.heap.size,7,none⟩=some (.int .i64 v)):=by
     intro W hW;obtain⟨c0,c1,c2,c3,c4,c5,c6,c7⟩:=op_cells (HOB2.out.later hW);simp only[Nat.zero_add] at c0 c1 c2 c3 c4 c5 c6 c7;exact⟨hW,cell_later hW hx1',c0,c1,c2,c3,c4,c5,c6,c7⟩
    obtain⟨_,_,d0,d1,d2,d3,d4,d5,d6,d7⟩:=HMK.out w2 (Below.refl _ _);go_upto_region 14 with fail;clear q0 q1 q2 q3 f0 f1 f2 f3 hx3 hx4 hltB2 hlt02
    go_cut [9,10] from 19 to 71 (fun e t w'=>e=.int .i64 (chN (taT Tk y0) ya ⟨p,m,b,q,s,v⟩)∧NR w' w2.heap.size t (chL (taT Tk y0) ya ⟨p,m,b,q,s,v⟩)∧Below w2.heap.size w2 w')
    case first =>
     clear HXI HCAT HDN HTO HTA HLK HCA HTK HTR HTR2 HAB HAB2 HB HB2 HOB2 HSR HBr hx1 hx2 hx5
     go_region_held3 (fun W=>Below w2.heap.size w2 W∧W.cell? ⟨g,i,none⟩=some (.slice a5 n5 c5)∧W.cell? ⟨wr.heap.size,0,none⟩=some (.int .i64 y0)∧W.cell? ⟨wr.heap.size,1,none⟩=some (.bool ya)∧W.cell? ⟨wr.heap.size,2,none⟩=some (.int .i64 p)∧W.cell? ⟨wr.heap.size,3,none⟩=some (.int .i64 m)∧W.cell? ⟨wr.heap.size,4,none⟩=some (.int .i64 b)∧W.cell? ⟨wr.heap.size,5,none⟩=some (.int .i64 q)∧W.cell? ⟨wr.heap.size,6,none⟩=some (.int .i64 s)∧W.cell? ⟨wr.heap.size,7,none⟩=some (.int .i64 v))
      (first | assumption | exact HMK.out _ (Below.drew (Below.refl _ _)) | exact HMK.out _ HBX.out)
      (first | (go_at_call 31;refine (HDO.out _ (by first | exact Below.drew (Below.refl _ _) | exact Below.refl _ _)).mono ?_;rintro e w' ⟨u,rfl,hG,hb⟩;have HBX:Hid (Below w2.heap.size w2 w'):=hb;have HGX:Hid (NR w' w2.heap.size u (chL (taT Tk y0) ya ⟨p,m,b,q,s,v⟩)):=hG;clear hb hG))
     all_goals (go_wp2_with fail;go_meet)
     all_goals exact⟨rfl,HGX.out,HBX.out⟩
    case rest =>
     obtain⟨rfl,hG,hb3⟩:=hcut;have HB3:Hid (Below w.heap.size w wc):=HB2.out.trans (hb3.mono HB2.out.size);have HAB3:Hid (AB wc w.heap.size S (.slice ao n cap) (.slice ao2 n2 cap2) (.slice ao3 n3 cap3)):=HAB2.out.later hb3;have HTR3:Hid (TR 93 wc w0.heap.size (w.heap.size+2) (.slice (some ⟨g,0,none⟩) N cap') vs Tk):=HTR2.out.later hb3;obtain⟨_,_,d0,d1,d2,d3,d4,d5,d6,d7⟩:=HMK.out wc hb3;have hltw3:wr.heap.size<wc.heap.size:=bLQ _ _ d0;obtain⟨⟨a6,n6,c6⟩,hx,hoff⟩:=hG.sl
     replace hx:_=Value.slice a6 n6 c6:=hx
     subst hx;have HG3:Hid (SR wc (.slice a6 n6 c6) (chL (taT Tk y0) ya ⟨p,m,b,q,s,v⟩)):=hG.sr;have HOFF:Hid (∀b,b<w2.heap.size→offB (a6,n6,c6) b):=hoff;obtain⟨C,hC⟩:∃c,c=chN (taT Tk y0) ya ⟨p,m,b,q,s,v⟩:=⟨_,rfl⟩;have HC:Hid (C=chN (taT Tk y0) ya ⟨p,m,b,q,s,v⟩):=hC;rw[←hC];clear hb3 hG hC hoff HMK HDO;obtain⟨q0,q1,q2,q3⟩:=HAB3.out.r;have hltB3:=HAB3.out.lt;have hlt03:w.heap.size<wc.heap.size:=by omega
     have f0:=HAB3.out.f 0;have f1:=HAB3.out.f 1;have f2:=HAB3.out.f 2;have f3:=HAB3.out.f 3;by_cases h0:C=0
     ·subst h0;obtain⟨yx,hy1,hy2,hy3,hy0,hy4,hy5⟩:=HTR3.out.at (i:=i) (by rw[HTkL.out];exact hiN);clear hy0 hy2;have HTR4:Hid (TR 93 (wc.setCell ⟨g,i,none⟩ (.slice a6 n6 c6)) w0.heap.size (w.heap.size+2) (.slice (some ⟨g,0,none⟩) N cap') (vs.set i (a6,n6,c6)) (caT Ts (l.take (k+1)))):=by
       have:=HTR3.out.put (i:=i) (x:=(a6,n6,c6)) HG3.out (HOFF.out g hx5) (fun b h1 h2=>HOFF.out b (by omega));rw[(cs_take hkl HCA.out).2,←HTK.out,HLK.out,caT,caT,HDN.out.2];have e7:(y0-1).toNat=i:=by have:=HI.out;omega
       rw[e7];exact this
      have HCA4:Hid (caN S Ts (l.take (k+1))=0):=by
       show _=_;rw[(cs_take hkl HCA.out).1,←HTK.out,HLK.out,caN];show (if swB S y0=true then (if doN (taT Tk y0) ya ⟨p,m,b,q,s,v⟩=0 then _ else _) else _)=_;rw[if_pos (sw_of.2 ⟨by have:=HI.out;omega,by have:=HI.out;have:=HNS.out;omega⟩),HDN.out.1,←HC.out,if_pos rfl,caN]
      have HAB4:Hid (AB (wc.setCell ⟨g,i,none⟩ (.slice a6 n6 c6)) w.heap.size S (.slice ao n cap) (.slice ao2 n2 cap2) (.slice ao3 n3 cap3)):=HAB3.out.grown (grown_set wc g i (.slice a6 n6 c6)) (fun b hb=>by cases hb;exact hy4);have HB4:Hid (Below w.heap.size w (wc.setCell ⟨g,i,none⟩ (.slice a6 n6 c6))):=HB3.out.setCell (p:=⟨g,i,none⟩) (show w.heap.size≤g by omega) _;go_wp2;go_roundw
      case rel=>exact⟨k+1,vs.set i (a6,n6,c6),by omega,by go_num,HCA4.out,HTR4.out,HVO.out.set (fun b hb=>HOFF.out b (by have:=(HQ.out b hb).1;omega)),HAB4.out,HB4.out⟩
      case measure=>simp[intOf];omega
     have HNZ:Hid (C≠0):=h0;have HXC2:Hid (X=C):=by
      show _=_;rw[HXI.out,HDN.out.1,←HC.out,if_neg h0]
     have e9:(C==0)=false:=by simpa using h0
     have e10:(C != 0)=true:=by rw[bne,e9];rfl
     clear h0;go_wp2;refine bodyPost_ret (v:=.tuple #[.agg #[.int .i64 0,.slice none 0 0,.slice none 0 0,.slice none 0 0],.int .i64 C]) (by simp[results,Tryz.results11,go_sem, *]) rfl ?_;rw[HXC2.out];exact⟨_,_,_,by rw[nvS,nvV,nvV,if_neg (HNZ.out),if_neg (HNZ.out),if_neg (HNZ.out)],⟨[],by rw[nvL,if_neg (HNZ.out)];exact⟨tr_nil _ _ _ _,fun x h=>absurd h (by simp)⟩⟩,below_pn4 HB3.out (w.heap.size+1) (by omega) _ _ _ _⟩
   have HNZ:Hid (RN≠0):=hR;have HXC2:Hid (X=RN):=by
    show _=_;have e8:doN (taT Tk y0) ya ⟨p,m,b,q,s,v⟩=RN:=(do_ru2 (r:=⟨p,m,b,q,s,v⟩) HTO.out (show ruN p m b q s v≠0 by rw[←HRN.out];exact hR)).trans HRN.out.symm;rw[HXI.out,e8,if_neg hR]
   have e9:(RN==0)=false:=by simpa using hR
   have e10:(RN != 0)=true:=by rw[bne,e9];rfl
   clear hR;go_wp2;refine bodyPost_ret (v:=.tuple #[.agg #[.int .i64 0,.slice none 0 0,.slice none 0 0,.slice none 0 0],.int .i64 RN]) (by simp[results,Tryz.results11,go_sem, *]) rfl ?_;rw[HXC2.out];exact⟨_,_,_,by rw[nvS,nvV,nvV,if_neg (HNZ.out),if_neg (HNZ.out),if_neg (HNZ.out)],⟨[],by rw[nvL,if_neg (HNZ.out)];exact⟨tr_nil _ _ _ _,fun x h=>absurd h (by simp)⟩⟩,below_pn4 HB2.out (w.heap.size+1) (by omega) _ _ _ _⟩
  obtain rfl:k=n4:=by omega
  have HX0:Hid (X=0):=by
   show _=_;have:=HCA.out;rw[←HN.out,List.take_length] at this;rw[HXC.out,this]
  have HTE:Hid (Tk=caT Ts l):=by
   show _=_;rw[HTK.out,←HN.out,List.take_length]
  obtain⟨q0,q1,q2,q3⟩:=hAB.r;obtain⟨n0,n1,n2_,n3_⟩:=hAB.n;have hltB:=hAB.lt;have hlt0:w.heap.size<wr.heap.size:=by omega
  have f0:=hAB.f 0;have f1:=hAB.f 1;have f2:=hAB.f 2;have f3:=hAB.f 3;clear hB hAB;go_wp2;refine bodyPost_ret (v:=.tuple #[.agg #[.int .i64 S,.slice ao n cap,.slice ao2 n2 cap2,.slice (some ⟨g,0,none⟩) N cap'],.int .i64 0]) (by simp[results,Tryz.results11,go_sem, *]) rfl ?_;rw[HX0.out];have hBE:=below_pn4 HB.out (w.heap.size+1) (by omega) (.int .i64 S) (.slice ao n cap) (.slice ao2 n2 cap2) (.slice (some ⟨g,0,none⟩) N cap');have hTE:=(HTR.out.grown (grown_put4 wr (w.heap.size+1) (.int .i64 S) (.slice ao n cap) (.slice ao2 n2 cap2) (.slice (some ⟨g,0,none⟩) N cap')) (Nat.le_trans HW0.out.size (by omega)) (by omega)).mono (B':=w.heap.size) (by omega);rw[HTE.out] at hTE;exact⟨_,_,_,rfl,⟨vs,hTE,HVO.out⟩,hBE⟩
theorem refApply_own (S:Int)(ao:Option Addr)(n cap:Nat)(ao2:Option Addr)(n2 cap2:Nat)(ao3:Option Addr)(n3 cap3:Nat)(a4:Option Addr)(n4 c4:Nat)(Ls:LkQ)(Hs:HoQ)(Ts:List (List Ru))(l:List Op8)(w0 w:World)
 (hT:TS w0 (.slice ao3 n3 cap3) Ts) (hw0:Below w0.heap.size w0 w) (hl:GS opE w (.slice a4 n4 c4) l) (hN:ntN S Ls Hs Ts=0):
 Calls Tryz.prog 11 #[.agg #[.int .i64 S,.slice ao n cap,.slice ao2 n2 cap2,.slice ao3 n3 cap3],.slice a4 n4 c4] w fun e w'=>∃b3 k3 d3,e=.returned (.tuple #[.agg #[.int .i64 (nvS (cgN S Ls Hs Ts l) S),nvV (cgN S Ls Hs Ts l) (.slice ao n cap),nvV (cgN S Ls Hs Ts l) (.slice ao2 n2 cap2),.slice b3 k3 d3],.int .i64 (cgN S Ls Hs Ts l)])∧(∃vs,TR 93 w' w0.heap.size w.heap.size (.slice b3 k3 d3) vs (nvL (cgN S Ls Hs Ts l) (caT Ts l)))∧Below w.heap.size w w':=by
 refine (refApply_far S ao n cap ao2 n2 cap2 ao3 n3 cap3 a4 n4 c4 Ls Hs Ts l w0 w hT hw0 hl hN (fun _=>False) (fun b h=>h.elim)).mono ?_;rintro e w' ⟨b3,k3,d3,h1,⟨vs,h2,_⟩,h3⟩;exact⟨b3,k3,d3,h1,⟨vs,h2⟩,h3⟩
def CF (w:World)(gw gf:Nat)(v:Int)(c:Value)(g o:Nat)(x:Int)(w':World):Prop:=
 Below w.heap.size w w'∧w'.cell? ⟨gw,3,none⟩=some (.int .i64 v)∧w'.cell? ⟨gf,2,none⟩=some c∧w'.cell? ⟨g,o,none⟩=some (.int .i64 x)
theorem CF.later {w W W':World}{gw gf:Nat}{v:Int}{c:Value}{g o:Nat}{x:Int}(hb:Below W.heap.size W W')(h:CF w gw gf v c g o x W):CF w gw gf v c g o x W':=
 ⟨h.1.trans (hb.mono h.1.size),cell_later hb h.2.1,cell_later hb h.2.2.1,cell_later hb h.2.2.2⟩
theorem rfits_any (k:Int)(f t:ByteArray)(v:Int)(m:ByteArray)(a:Int)(b:ByteArray)(ao:Option Addr)(n cap:Nat)(l:HpQ)(w:World)(hl:GS hopE w (.slice ao n cap) l):
 Calls Tryz.prog 28 #[.agg #[.int .i64 k,.string f,.string t,.int .i64 v],.string m,.agg #[.int .i64 a,.string b,.slice ao n cap]] w fun e w'=>e=.returned (.bool (fiB ⟨k,f,t,v⟩ m (a,b,l)))∧Below w.heap.size w w':=by
 have hX:=gbox_new w k f t v a b (.slice ao n cap);obtain⟨w0,hw0⟩:∃W,(w.alloc (Obj.cells #[.int .i64 k,.string f,.string t,.int .i64 v] 80)).alloc (Obj.cells #[.int .i64 a,.string b,.slice ao n cap] 83)=W:=⟨_,rfl⟩;rw[hw0] at hX;have HX:Hid (GBox w w0 k f t v a b (.slice ao n cap)):=hX;have HW0:Hid ((w.alloc (Obj.cells #[.int .i64 k,.string f,.string t,.int .i64 v] 80)).alloc (Obj.cells #[.int .i64 a,.string b,.slice ao n cap] 83)=w0):=hw0;have HL:Hid (∀W,Below w.heap.size w W→GS hopE W (.slice ao n cap) l):=fun W hb=>hl.later hb
 have HB0:Hid (Below w.heap.size w w0):=hX.below;obtain⟨R,hR⟩:∃R,R=fiB ⟨k,f,t,v⟩ m (a,b,l):=⟨_,rfl⟩;have HR:Hid (R=fiB ⟨k,f,t,v⟩ m (a,b,l)):=hR;rw[←hR];clear hX hw0 hl hR;go_enter Tryz.func28,Tryz.ntmps28;go_upto_region 1 with fail;rw[HW0.out];obtain⟨_,⟨x0,x1,x2,x3⟩,y0,y1,y2⟩:=HX.out;clear HW0;by_cases k4:k=4
 ·subst k4;have HR1:Hid (R = !(a==4)):=by
   show _=_;rw[HR.out,fiB,if_pos (show abW ⟨4,f,t,v⟩ m=true from rfl)];simp
  go_wp2;go_ret;exact⟨by rw[HR1.out];rfl,HB0.out⟩
 obtain⟨AB,hAB⟩:∃q,q=(m.toList==f.toList):=⟨_,rfl⟩;have hab2:abW ⟨k,f,t,v⟩ m=AB:=by
  rw[hAB,abW,←beq_toListBytes];simp only[show (k==4)=false from by simp[k4],Bool.false_or];cases h:(f==m) with
  | true=>rw[ba_eq.1 h];exact (ba_eq.2 rfl).symm
  | false =>
    cases h2:(m==f) with
    | false=>rfl
    | true=>rw[ba_eq.1 h2,ba_eq.2 rfl] at h;cases h
 have hne:(m.toList==f.toList)=AB:=hAB.symm;have HAB:Hid (abW ⟨k,f,t,v⟩ m=AB):=hab2;clear hAB hab2;cases AB with
 | false =>
   have HR1:Hid (R=true):=by
    show _=_;rw[HR.out,fi_off HAB.out]
   have hne2:(m.toList==f.toList)=false:=hne;clear hne;go_wp2;go_ret;exact⟨by rw[HR1.out];rfl,HB0.out⟩
 | true =>
   have hne2:(m.toList==f.toList)=true:=hne;clear hne;obtain⟨TH,hTH⟩:∃q,q=(a==1&&b.toList==t.toList):=⟨_,rfl⟩;have hTW:thW ⟨k,f,t,v⟩ (a,b,l)=TH:=by rw[hTH,thW,←beq_toListBytes]
   have HR1:Hid (R=if k=1 then TH else if k=2 then !TH else if k=3 then (!TH || haW v l) else if k=4 then !(a==4) else true):=by
    show _=_;rw[HR.out,fiB,if_pos HAB.out,hTW]
   have HTH:Hid ((a==1&&b.toList==t.toList)=TH):=hTH.symm;clear hTH hTW HR HAB;go_upto_region 5 with fail;clear hne2;rw[show (k==4)=false from by simp[k4]]
   go_cut [7] from 19 to 29 (fun q w'=>q=.bool TH∧w'=w0)
   case first =>
    by_cases a1:a=1
    ·subst a1;have h2:=HTH.out;rw[show ((1:Int)==1&&b.toList==t.toList)=(b.toList==t.toList) from rfl] at h2
     go_wp2_with fail
     go_meet
     exact⟨by rw[←h2],rfl⟩
    have h2:=HTH.out;rw[show (a==1)=false from by simp[a1],Bool.false_and] at h2;subst h2
    go_wp2_with fail
    go_meet
    exact⟨rfl,rfl⟩
   case rest =>
   obtain⟨rfl,hwc⟩:=hcut;subst hwc;by_cases k1:k=1
   ·subst k1;have HR2:Hid (R=TH):=by
     show _=_;rw[HR1.out,if_pos rfl]
    clear HR1;go_wp2;go_ret;exact⟨by rw[HR2.out];rfl,HB0.out⟩
   by_cases k2:k=2
   ·subst k2;have HR2:Hid (R = !TH):=by
     show _=_;rw[HR1.out,if_neg (by decide),if_pos rfl]
    clear HR1;go_wp2;go_ret;exact⟨by rw[HR2.out];rfl,HB0.out⟩
   by_cases k3:k=3
   ·subst k3;have HR2:Hid (R=(!TH || haW v l)):=by
     show _=_;rw[HR1.out,if_neg (by decide),if_neg (by decide),if_pos rfl]
    clear HR1;cases TH with
    | false =>
      go_wp2;go_ret;exact⟨by rw[HR2.out];rfl,HB0.out⟩
    | true =>
      obtain⟨_,_,_,e5,hGn,hGm,_,hGa⟩:=(HL.out _ HB0.out).form;cases e5;have HGN:Hid (l.length=n):=hGn;have HGA:Hid (0<n→∃g o,ao=some ⟨g,o,none⟩∧GAt hopE wc g o l∧cap≤maxLen):=hGa;have hnm:n≤maxLen:=hGm;unfold maxLen at hnm;clear hGn hGm hGa;go_wp2
      go_loopw [8] (fun i wr=>∃j:Nat,j≤n∧i=.int .i64 j∧(l.take j).any (fun h=>h.1.1==v)=false∧Below wc.heap.size wc wr) (fun i _=>n-(intOf i).toNat)
      case atStart=>exact⟨0,by omega,rfl,by simp,Below.refl _ _⟩
      case round =>
       obtain⟨j,hj,rfl,hno,hB⟩:=hrel;have HB:Hid (Below wc.heap.size wc wr):=hB;have HBw:Hid (Below w.heap.size w wr):=HB0.out.trans (hB.mono HB0.out.size);have HNO:Hid ((l.take j).any (fun h=>h.1.1==v)=false):=hno;clear hno x0 x1 x2 x3 y0 y1 y2;obtain⟨_,⟨x0,x1,x2,x3⟩,y0,y1,y2⟩:=HX.out.later hB;by_cases hlt:j<n
       ·obtain⟨g,o,hao,hc,_⟩:=HGA.out (by omega);subst hao;obtain⟨h1,h2,h3,hkl,hLk,q0,q1,q2⟩:=hop_at (hc.later hB) HGN.out hlt;have HLk:Hid (l[j]=((h1,h2),h3)):=hLk;have HCF:Hid (CF wr w.heap.size (w.heap.size+1) v (.slice (some ⟨g,o,none⟩) n cap) g (o+j*3) h1 wr):=⟨Below.refl _ _,x3,y2,q0⟩;have kb0:(0:Int)≤(j:Int):=by omega
        have kb1:(j:Int)<(n:Int):=by omega
        clear hc hLk hB q0 q1 q2;go_upto_region 15 with fail;clear x0 x1 x2 x3 y0 y1 y2;obtain⟨P,hP⟩:∃q,q=(h1==v):=⟨_,rfl⟩;have HP:Hid ((h1==v)=P):=hP.symm
        go_cut [61] from 52 to 62 (fun q w'=>q=.bool P∧Below wr.heap.size wr w')
        case first =>
         refine wp_region_quiet (C:=CF wr w.heap.size (w.heap.size+1) v (.slice (some ⟨g,o,none⟩) n cap) g (o+j*3) h1) (by kernel_rfl) (by kernel_rfl) (CF.later (W:=wr) (Below.drew (Below.refl _ _)) HCF.out) ?_;simp only[List.toList_toArray];go_big_quiet_want;refine qv (.pointer (some ⟨w.heap.size+1,2,none⟩)) ?_ ?_
         ·rintro w' ⟨z0,z1,z2,z3⟩;go_simp
         simp only[Act.put,AP];go_big_quiet_on;go_big_quiet_want;refine qv (.slice (some ⟨g,o,none⟩) n cap) ?_ ?_
         ·rintro w' ⟨z0,z1,z2,z3⟩;go_simp
         simp only[Act.put,AP];go_big_quiet_on;go_big_quiet_want;refine qv (.int .i64 (j:Int)) ?_ ?_
         ·rintro w' ⟨z0,z1,z2,z3⟩;go_simp
         simp only[Act.put,AP];go_big_quiet_on;go_big_quiet_want;refine qv (.pointer (some ⟨g,o+j*3,none⟩)) ?_ ?_
         ·rintro w' ⟨z0,z1,z2,z3⟩;go_simp
         simp only[Act.put,AP];go_big_quiet_on;go_big_quiet_want;refine qv (.pointer (some ⟨g,o+j*3,none⟩)) ?_ ?_
         ·rintro w' ⟨z0,z1,z2,z3⟩;go_simp
         simp only[Act.put,AP];go_big_quiet_on;go_big_quiet_want;refine qv (.pointer (some ⟨g,o+j*3,none⟩)) ?_ ?_
         ·rintro w' ⟨z0,z1,z2,z3⟩;go_simp
         simp only[Act.put,AP];go_big_quiet_on;go_big_quiet_want;refine qv (.int .i64 h1) ?_ ?_
         ·rintro w' ⟨z0,z1,z2,z3⟩;go_simp
         simp only[Act.put,AP];go_big_quiet_on;go_big_quiet_want;refine qv (.pointer (some ⟨w.heap.size,3,none⟩)) ?_ ?_
         ·rintro w' ⟨z0,z1,z2,z3⟩;go_simp
         simp only[Act.put,AP];go_big_quiet_on;go_big_quiet_want;refine qv (.int .i64 v) ?_ ?_
         ·rintro w' ⟨z0,z1,z2,z3⟩;go_simp
         simp only[Act.put,AP];go_big_quiet_on;go_big_quiet_want;refine qv (.bool (h1==v)) ?_ ?_
         ·rintro w' ⟨z0,z1,z2,z3⟩;go_simp
         simp only[Act.put,AP];go_big_quiet_on;refine wpQuiet_nil ?_;intro w' hC;have HBY:Hid (Below wr.heap.size wr w'):=hC.1;clear hC
         go_wp2_with fail
         go_meet
         exact⟨by rw[hP],HBY.out⟩
        case rest =>
         obtain⟨rfl,hbc⟩:=hcut;have HBd:Hid (Below _ _ wc):=HB.out.trans (hbc.mono HB.out.size);clear hbc hP;cases P with
         | false =>
           go_wp2;go_roundw
           case rel=>exact⟨j+1,by omega,by go_num,any_nextG hkl HNO.out (by rw[HLk.out];exact HP.out),HBd.out⟩
           case measure=>simp[intOf];omega
         | true =>
           have HR3:Hid (R=true):=by
            show _=_;rw[HR2.out];have:haW v l=true:=any_hitG hkl (by rw[HLk.out];exact HP.out);rw[this];rfl
           go_wp2;go_ret;exact⟨by rw[HR3.out];rfl,HB0.out.trans (HBd.out.mono HB0.out.size)⟩
       obtain rfl:j=n:=by omega
       have HR3:Hid (R=false):=by
        show _=_;rw[HR2.out];have h1:=HNO.out;rw[←HGN.out,List.take_length] at h1;have:haW v l=false:=h1;rw[this];rfl
       go_wp2;go_ret;exact⟨by rw[HR3.out];rfl,HBw.out⟩
   have HR2:Hid (R=true):=by
    show _=_;rw[HR1.out,if_neg k1,if_neg k2,if_neg k3,if_neg k4]
   clear HR1;go_wp2;go_ret;exact⟨by rw[HR2.out];rfl,HB0.out⟩
theorem FTs.len {w:World}{ao:Option Addr}{n cap:Nat}{L:List Ft}(h:FTs w (.slice ao n cap) L):L.length=n:=by
 obtain⟨Z,h1,h2,_⟩:=h;rw[←h2,List.length_map];exact h1.len
theorem FTs.form {w:World}{v:Value}{L:List Ft}(h:FTs w v L):∃ao n cap,v=.slice ao n cap∧L.length=n∧n≤maxLen∧n≤cap:=by
 obtain⟨Z,h1,h2,_⟩:=id h;obtain⟨ao,n,cap,rfl,_,h4,h5,_⟩:=h1.form;exact⟨ao,n,cap,rfl,h.len,h4,h5⟩
theorem FTs.at {w:World}{ao:Option Addr}{n cap:Nat}{L:List Ft}(h:FTs w (.slice ao n cap) L){k:Nat}(hk:k<n):∃(g o:Nat) (x:Ft) (a3:Option Addr) (n3 c3:Nat),ao=some ⟨g,o,none⟩∧L[k]?=some x∧w.cell? ⟨g,o+k*3,none⟩=some (.int .i64 x.1)∧w.cell? ⟨g,o+k*3+1,none⟩=some (.string x.2.1)∧w.cell? ⟨g,o+k*3+2,none⟩=some (.slice a3 n3 c3)∧GS hopE w (.slice a3 n3 c3) x.2.2:=by
 obtain⟨Z,h1,h2,h3⟩:=h;obtain⟨_,_,_,e,hn,_,_,ha⟩:=h1.form;cases e;obtain⟨g,o,rfl,hG,_⟩:=ha (by omega);have hkZ:k<Z.length:=by omega
 have hv:=hG k hkZ;refine⟨g,o,Z[k].1,Z[k].2.1,Z[k].2.2.1,Z[k].2.2.2,rfl,?_,hv 0 _ rfl,hv 1 _ rfl,hv 2 _ rfl,h3 _ (List.getElem_mem hkZ)⟩;rw[←h2,List.getElem?_map,List.getElem?_eq_getElem hkZ];rfl
structure FT2 (w W:World)(V1:Int)(V2:ByteArray)(u:Value)(U1:Int)(U2:ByteArray)(v:Value):Prop where
 below:Below w.heap.size w W
 a0:W.cell? ⟨w.heap.size,0,none⟩=some (.int .i64 V1)
 a1:W.cell? ⟨w.heap.size,1,none⟩=some (.string V2)
 a2:W.cell? ⟨w.heap.size,2,none⟩=some u
 b0:W.cell? ⟨w.heap.size+1,0,none⟩=some (.int .i64 U1)
 b1:W.cell? ⟨w.heap.size+1,1,none⟩=some (.string U2)
 b2:W.cell? ⟨w.heap.size+1,2,none⟩=some v
theorem FT2.later {w W W':World}{V1:Int}{V2:ByteArray}{u:Value}{U1:Int}{U2:ByteArray}{v:Value}(h:FT2 w W V1 V2 u U1 U2 v)(hb:Below W.heap.size W W'):FT2 w W' V1 V2 u U1 U2 v:=
 ⟨h.below.trans (hb.mono h.below.size),cell_later hb h.a0,cell_later hb h.a1,cell_later hb h.a2,cell_later hb h.b0,cell_later hb h.b1,cell_later hb h.b2⟩
theorem ft2_new (w:World)(V1:Int)(V2:ByteArray)(u:Value)(U1:Int)(U2:ByteArray)(v:Value):FT2 w ((w.alloc (Obj.cells #[.int .i64 V1,.string V2,u] 83)).alloc (Obj.cells #[.int .i64 U1,.string U2,v] 83)) V1 V2 u U1 U2 v:=by
 have e1:(w.alloc (Obj.cells #[.int .i64 V1,.string V2,u] 83)).heap.size=w.heap.size+1:=by simp
 have hb:∀(W:World) (o:Obj),Below W.heap.size W (W.alloc o):=fun W o=>(Below.refl _ _).alloc (Nat.le_refl _) _
 have ha:=(vat_new w [.int .i64 V1,.string V2,u] 83).later (hb _ (Obj.cells #[.int .i64 U1,.string U2,v] 83));have hs:=vat_new (w.alloc (Obj.cells #[.int .i64 V1,.string V2,u] 83)) [.int .i64 U1,.string U2,v] 83;rw[e1] at hs;exact⟨((Below.refl _ _).alloc (Nat.le_refl _) _).alloc (by rw[e1];omega) _,ha 0 _ rfl,ha 1 _ rfl,ha 2 _ rfl,hs 0 _ rfl,hs 1 _ rfl,hs 2 _ rfl⟩
def CHs (wr:World)(g q:Nat)(x:Ft)(a3:Option Addr)(n3 c3 f:Nat)(y:Ft)(a4:Option Addr)(n4 c4:Nat)(w':World):Prop:=
 Below wr.heap.size wr w'∧w'.cell? ⟨g,q,none⟩=some (.int .i64 x.1)∧w'.cell? ⟨g,q+1,none⟩=some (.string x.2.1)∧w'.cell? ⟨g,q+2,none⟩=some (.slice a3 n3 c3)∧w'.cell? ⟨f,0,none⟩=some (.int .i64 y.1)∧w'.cell? ⟨f,1,none⟩=some (.string y.2.1)∧w'.cell? ⟨f,2,none⟩=some (.slice a4 n4 c4)∧GS hopE w' (.slice a3 n3 c3) x.2.2∧GS hopE w' (.slice a4 n4 c4) y.2.2
theorem CHs.later {wr W W':World}{g q:Nat}{x:Ft}{a3:Option Addr}{n3 c3 f:Nat}{y:Ft}{a4:Option Addr}{n4 c4:Nat}(hb:Below W.heap.size W W')(h:CHs wr g q x a3 n3 c3 f y a4 n4 c4 W):CHs wr g q x a3 n3 c3 f y a4 n4 c4 W':=by
 obtain⟨h0,h1,h2,h3,h4,h5,h6,h7,h8⟩:=h;exact⟨h0.trans (hb.mono h0.size),cell_later hb h1,cell_later hb h2,cell_later hb h3,cell_later hb h4,cell_later hb h5,cell_later hb h6,h7.later hb,h8.later hb⟩
def hpL:((Int×Int)×Int)→((Int×Int)×Int)→Bool:=lexP (lexP (fun (a b:Int)=>decide (a<b)) (fun (a b:Int)=>decide (a<b))) (fun (a b:Int)=>decide (a<b))
theorem fa_1 {V1 U1:Int}{V2 U2:ByteArray}{L M:HpQ}(h:V1≠U1):faL (V1,V2,L) (U1,U2,M)=decide (V1<U1):=by
 show (if V1=U1 then _ else _)=_;rw[if_neg h]
theorem fa_2 {V1:Int}{V2 U2:ByteArray}{L M:HpQ}(h:V2≠U2):faL (V1,V2,L) (V1,U2,M)=Op.bytesLess V2.toList U2.toList:=by
 show (if V1=V1 then (if V2=U2 then _ else _) else _)=_;rw[if_pos rfl,if_neg h];rfl
theorem fa_3 {V1:Int}{V2:ByteArray}{L M:HpQ}:faL (V1,V2,L) (V1,V2,M)=lexL hpL L M:=by
 show (if V1=V1 then (if V2=V2 then _ else _) else _)=_;rw[if_pos rfl,if_pos rfl];rfl
theorem lex_at {L M:HpQ}{k:Nat}(h1:k<L.length)(h2:k<M.length):lexL hpL (L.drop k) (M.drop k)=if L[k]=M[k] then lexL hpL (L.drop (k+1)) (M.drop (k+1)) else hpL L[k] M[k]:=by
 rw[List.drop_eq_getElem_cons h1,List.drop_eq_getElem_cons h2];rfl
theorem lex_end {L M:HpQ}{k:Nat}(h1:k≤L.length)(h2:k≤M.length)(h:k=L.length∨k=M.length):lexL hpL (L.drop k) (M.drop k)=decide (L.length<M.length):=by
 by_cases e:k=M.length
 ·subst e;rw[List.drop_length];have:¬L.length<M.length:=by omega
  simp[lexL,this]
 have e1:k=L.length:=by omega
 subst e1;rw[List.drop_length,List.drop_eq_getElem_cons (by omega)];have:L.length<M.length:=by omega
 simp[lexL,this]
theorem less_any (V1:Int)(V2:ByteArray)(ao:Option Addr)(n cap:Nat)(U1:Int)(U2:ByteArray)(bo:Option Addr)(m cbp:Nat)(L M:HpQ)(w:World)(hn1000:L.length≤1000)
 (h1:GS hopE w (.slice ao n cap) L) (h2:GS hopE w (.slice bo m cbp) M):
 Calls Tryz.prog 120 #[.agg #[.int .i64 V1,.string V2,.slice ao n cap],.agg #[.int .i64 U1,.string U2,.slice bo m cbp]] w fun e w'=>e=.returned (.bool (faL (V1,V2,L) (U1,U2,M)))∧Below w.heap.size w w':=by
 have hn:=h1.len;have hm:=h2.len;obtain⟨_,_,_,e1,_,_,_,ha⟩:=h1.form;cases e1;obtain⟨_,_,_,e2,_,_,_,hb⟩:=h2.form;cases e2;have HN:Hid (L.length=n):=hn;have HM:Hid (M.length=m):=hm;have HA:Hid (0<n→∃g o,ao=some ⟨g,o,none⟩∧GAt hopE w g o L∧cap≤maxLen):=ha;have HB:Hid (0<m→∃g o,bo=some ⟨g,o,none⟩∧GAt hopE w g o M∧cbp≤maxLen):=hb;have hm1000:n≤1000:=by omega
 have hX:=ft2_new w V1 V2 (.slice ao n cap) U1 U2 (.slice bo m cbp);obtain⟨w0,hw0⟩:∃W,(w.alloc (Obj.cells #[.int .i64 V1,.string V2,.slice ao n cap] 83)).alloc (Obj.cells #[.int .i64 U1,.string U2,.slice bo m cbp] 83)=W:=⟨_,rfl⟩;rw[hw0] at hX;have HX:Hid (FT2 w w0 V1 V2 (.slice ao n cap) U1 U2 (.slice bo m cbp)):=hX;have HW0:Hid ((w.alloc (Obj.cells #[.int .i64 V1,.string V2,.slice ao n cap] 83)).alloc (Obj.cells #[.int .i64 U1,.string U2,.slice bo m cbp] 83)=w0):=hw0;obtain⟨R,hR⟩:∃R,R=faL (V1,V2,L) (U1,U2,M):=⟨_,rfl⟩;have HR:Hid (R=faL (V1,V2,L) (U1,U2,M)):=hR;rw[←hR];clear hn hm h1 h2 ha hb hX hw0 hn1000 hR;go_enter Tryz.func120,Tryz.ntmps120;go_upto_region 1 with fail;rw[HW0.out];clear HW0;obtain⟨_,a0,a1,a2,b0,b1,b2⟩:=HX.out;have HB0:Hid (Below w.heap.size w w0):=HX.out.below;by_cases q1:V1=U1
 ·by_cases q2:V2=U2
  ·subst q1;subst q2;have HRS:Hid (R=lexL hpL L M):=HR.out.trans fa_3;go_wp2;clear a0 a1 a2 b0 b1 b2
   go_loopw [5] (fun i wr=>∃k:Nat,(k≤n∧k≤m)∧i=.int .i64 k∧R=lexL hpL (L.drop k) (M.drop k)∧FT2 w wr V1 V2 (.slice ao n cap) V1 V2 (.slice bo m cbp)) (fun i _=>n-(intOf i).toNat)
   case atStart=>exact⟨0,by omega,rfl,HRS.out,HX.out⟩
   case round =>
    obtain⟨k,⟨hk,hk2⟩,rfl,hRk,hF⟩:=hrel;have HRK:Hid (R=lexL hpL (L.drop k) (M.drop k)):=hRk;have HF:Hid (FT2 w wr V1 V2 (.slice ao n cap) V1 V2 (.slice bo m cbp)):=hF;obtain⟨hB,a0,a1,a2,b0,b1,b2⟩:=hF;have HBe:Hid (Below w.heap.size w wr):=hB;clear hRk;by_cases hlt:k<n
    ·by_cases hlm:k<m
     ·obtain⟨g,o,hao,hc,_⟩:=HA.out (by omega);subst hao;obtain⟨g',o',hbo,hd,_⟩:=HB.out (by omega);subst hbo;obtain⟨x0,x1,x2,hkl,hLk,c0,c1,c2⟩:=hop_at (hc.later hB) HN.out hlt;obtain⟨y0,y1,y2,hkm,hMk,d0,d1,d2⟩:=hop_at (hd.later hB) HM.out hlm;have HRX:Hid (R=if ((x0,x1),x2)=((y0,y1),y2) then lexL hpL (L.drop (k+1)) (M.drop (k+1)) else hpL ((x0,x1),x2) ((y0,y1),y2)):=by
       show _=_;rw[HRK.out,lex_at hkl hkm,hLk,hMk]
      have m1:g<wr.heap.size:=bLQ _ _ c0;have m2:g'<wr.heap.size:=bLQ _ _ d0;have m3:w.heap.size<wr.heap.size:=bLQ _ _ a0;have m4:w.heap.size+1<wr.heap.size:=bLQ _ _ b0;have p1:g'≠wr.heap.size:=by omega
      have p2:w.heap.size+1≠wr.heap.size:=by omega
      have p3:g≠wr.heap.size:=by omega
      have kb0:(0:Int)≤(k:Int):=by omega
      have kb1:(k:Int)<(n:Int):=by omega
      have kb2:(k:Int)<(m:Int):=by omega
      have dk1:decide ((k:Int)<(n:Int))=true:=by simp;omega
      have dk2:decide ((k:Int)<(m:Int))=true:=by simp;omega
      have HBA:Hid (∀o o2:Obj,Below wr.heap.size wr ((wr.alloc o).alloc o2)):=fun o o2=>((Below.refl _ _).alloc (Nat.le_refl _) _).alloc (by simp) _
      clear hc hd hLk hMk hB;by_cases e0:x0=y0
      ·by_cases e1:x1=y1
       ·by_cases e2:x2=y2
        ·subst e0;subst e1;subst e2;have HRN:Hid (R=lexL hpL (L.drop (k+1)) (M.drop (k+1))):=by
          show _=_;rw[HRX.out,if_pos rfl]
         go_wp2;go_roundw
         case rel=>exact⟨k+1,by omega,by go_num,HRN.out,HF.out.later (HBA.out _ _)⟩
         case measure=>simp[intOf];omega
        subst e0;subst e1;have HRN:Hid (R=decide (x2<y2)):=by
         show _=_;rw[HRX.out,if_neg (by simp[e2])];simp[hpL,lexP]
        have de:(x2==y2)=false:=by simpa using e2
        go_wp2;go_ret;exact⟨by rw[HRN.out];rfl,HBe.out.trans ((HBA.out _ _).mono HBe.out.size)⟩
       subst e0;have HRN:Hid (R=decide (x1<y1)):=by
        show _=_;rw[HRX.out,if_neg (by simp[e1])];simp[hpL,lexP,e1]
       have de:(x1==y1)=false:=by simpa using e1
       go_wp2;go_ret;exact⟨by rw[HRN.out];rfl,HBe.out.trans ((HBA.out _ _).mono HBe.out.size)⟩
      have HRN:Hid (R=decide (x0<y0)):=by
       show _=_;rw[HRX.out,if_neg (by simp[e0])];simp[hpL,lexP,e0]
      have de:(x0==y0)=false:=by simpa using e0
      go_wp2;go_ret;exact⟨by rw[HRN.out];rfl,HBe.out.trans ((HBA.out _ _).mono HBe.out.size)⟩
     have HRN:Hid (R=decide (n<m)):=by
      show _=_;rw[HRK.out,lex_end (by rw[HN.out];exact hk) (by rw[HM.out];exact hk2) (.inr (by rw[HM.out];omega)),HN.out,HM.out]
     have dk1:decide ((k:Int)<(n:Int))=true:=by simp;omega
     have dk2:decide ((k:Int)<(m:Int))=false:=by simp;omega
     clear hB;go_wp2;go_ret;exact⟨by rw[HRN.out];rfl,HBe.out⟩
    have HRN:Hid (R=decide (n<m)):=by
     show _=_;rw[HRK.out,lex_end (by rw[HN.out];exact hk) (by rw[HM.out];exact hk2) (.inl (by rw[HN.out];omega)),HN.out,HM.out]
    have dk1:decide ((k:Int)<(n:Int))=false:=by simp;omega
    clear hB;go_wp2;go_ret;exact⟨by rw[HRN.out];rfl,HBe.out⟩
  subst q1;have HRN:Hid (R=Op.bytesLess V2.toList U2.toList):=HR.out.trans (fa_2 q2);have d2:(V2.toList==U2.toList)=false:=by
   cases e:(V2.toList==U2.toList)
   ·rfl
   exact absurd (nm_inj (eq_of_beq e)) q2
  go_wp2;go_ret;exact⟨by rw[HRN.out];rfl,HB0.out⟩
 have HRN:Hid (R=decide (V1<U1)):=HR.out.trans (fa_1 q1);have d1:(V1==U1)=false:=by simpa using q1
 go_wp2;go_ret;exact⟨by rw[HRN.out];rfl,HB0.out⟩
theorem fate_zero:(Value.agg #[.int .i64 0,.string ⟨#[]⟩,.slice none 0 0]).cells.size=3:=by simp[Value.cells]
theorem fate_info:(Tryz.prog.info? 83).map (fun i=>(i.zero,i.size,i.bytes))=some (some (.agg #[.int .i64 0,.string ⟨#[]⟩,.slice none 0 0]),3,48):=by kernel_rfl
theorem wpList_append_fts (w:World){ops:Array Oper}{rest:List Oper}{o:Oper}{a:Act}{Q:Exit→Act→World→Prop}(hgd:o.guard=none)(s x:Operand)(t:TypeId)
 (ho:o.op=.call { callee:=.builtin .append,args:=#[s,x],argTypes:=#[t,t] }) (ht:Tryz.prog.underlying t=some (.slice 83)) (base:Nat)
 (v:Value) (hs:a.eval s=v) (L:List (Ft×SlT)) (hown:w.ownsRow base 83 ftE.n v L.length (cellsG ftE L)) (u:Value) (hx:a.eval x=u) (M:List (Ft×SlT)) (hM:GS ftE w u M)
 (h1:L.length+M.length≤100000000) (hbase:base≤w.heap.size)
 (h:∀v' w',w'.ownsRow base 83 ftE.n v' (L++M).length (cellsG ftE (L++M))→w.grownBy w' v.ownBlock→wpList Tryz.prog ops Q rest (a.put o.dst v') w'):wpList Tryz.prog ops Q (o :: rest) a w:=by
 obtain⟨i0,hi,hz0,hz1,hz2⟩:=info_parts fate_info;exact wpList_append_GS (E:=ftE) w hgd s x t 83 ho ht i0 _ 48 hi hz0 hz1 hz2 fate_zero base v hs L hown u hx M hM (by unfold maxLen;omega) (by omega) hbase h
theorem hid_len {α:Type}{l:List α}{x:α}{k:Nat}(h:l.length=k):(l++[x]).length=k+1:=by simp[h]
theorem put_any (ao:Option Addr)(n c:Nat)(y:Ft)(a4:Option Addr)(n4 c4:Nat)(L:List Ft)(w:World)(h1:FTs w (.slice ao n c) L)(h2:GS hopE w (.slice a4 n4 c4) y.2.2)(hR:Ris faL L)(hs:∀x∈L,x.2.2.length≤1000)(hy:y.2.2.length≤1000)(hl:L.length≤50000000)(hao:(ao=none∧n=0∧c=0)∨0<n):
 Calls Tryz.prog 86 #[.slice ao n c,.agg #[.int .i64 y.1,.string y.2.1,.slice a4 n4 c4]] w fun e w'=>∃a5 n5 c5,e=.returned (.slice a5 n5 c5)∧FTs w' (.slice a5 n5 c5) (puR faL y L)∧0<n5∧Below w.heap.size w w':=by
 have hn:=h1.len;obtain⟨_,_,_,e1,_,hn2,_⟩:=h1.form;cases e1;have HX:Hid (L.length=n):=hn;have HS:Hid (∀x∈L,x.2.2.length≤1000):=hs;have HY:Hid (y.2.2.length≤1000):=hy;have HRI:Hid (Ris faL L):=hR;have HLL:Hid (L.length≤50000000):=hl;have hn50:n≤50000000:=by omega
 have hb0:Below w.heap.size w (w.alloc (Obj.cells #[.int .i64 y.1,.string y.2.1,.slice a4 n4 c4] 83)):=(Below.refl _ _).alloc (Nat.le_refl _) _;have HA:Hid (∀W,Below (w.alloc (Obj.cells #[.int .i64 y.1,.string y.2.1,.slice a4 n4 c4] 83)).heap.size (w.alloc (Obj.cells #[.int .i64 y.1,.string y.2.1,.slice a4 n4 c4] 83)) W→FTs W (.slice ao n c) L∧GS hopE W (.slice a4 n4 c4) y.2.2∧VAt W w.heap.size 0 [.int .i64 y.1,.string y.2.1,.slice a4 n4 c4]):=fun W hb=>⟨(h1.later hb0).later hb,(h2.later hb0).later hb,(vat_new w [.int .i64 y.1,.string y.2.1,.slice a4 n4 c4] 83).later hb⟩
 obtain⟨w0,hw0⟩:∃W,w.alloc (Obj.cells #[.int .i64 y.1,.string y.2.1,.slice a4 n4 c4] 83)=W:=⟨_,rfl⟩;have HW0:Hid (w.alloc (Obj.cells #[.int .i64 y.1,.string y.2.1,.slice a4 n4 c4] 83)=w0):=hw0;rw[hw0] at HA hb0;have HB0:Hid (Below w.heap.size w w0):=hb0;unfold maxLen at hn2;clear hn h1 h2 hs hy hR hl hb0 hw0;go_enter Tryz.func86,Tryz.ntmps86
 go_upto_block 0 with fail
 rw[HW0.out];clear HW0
 go_cut [5] from 10 to 23 (fun i w'=>∃k:Nat,k≤n∧i=.int .i64 k∧(∀j x,k≤j→L[j]?=some x→faL y x=true)∧(∀x,0<k→L[k-1]?=some x→faL y x=false)∧Below w0.heap.size w0 w')
 case first =>
  go_wp2_with fail
  go_loopw [5] (fun i wr=>∃k:Nat,k≤n∧i=.int .i64 k∧(∀j x,k≤j→L[j]?=some x→faL y x=true)∧Below w0.heap.size w0 wr) (fun i _=>(intOf i).toNat)
  case atStart=>exact⟨n,Nat.le_refl _,rfl,fun j x hj hx=>by
   have:=(List.getElem?_eq_some_iff.1 hx).1;have:=HX.out;omega,Below.refl _ _⟩
  case round =>
   obtain⟨k,hk,rfl,hall,hB⟩:=hrel;have HB:Hid (Below w0.heap.size w0 wr):=hB;have HALL:Hid (∀j x,k≤j→L[j]?=some x→faL y x=true):=hall;clear hall;obtain⟨hF,hG,hV⟩:=HA.out wr hB;by_cases hk0:0<k
   ·obtain⟨j,rfl⟩:∃j,k=j+1:=⟨k-1,by omega⟩;obtain⟨g,o,x,a3,n3,c3,hao,hx,r0,r1,r2,hG3⟩:=hF.at (k:=j) (by omega);subst hao;have HXJ:Hid (L[j]?=some x):=hx;have HCL:Hid (CHs wr g (o+j*3) x a3 n3 c3 w.heap.size y a4 n4 c4 wr):=⟨Below.refl _ _,r0,r1,r2,hV 0 _ rfl,hV 1 _ rfl,hV 2 _ rfl,hG3,hG⟩;have hsub:IntKind.i64.wrap (((j+1:Nat):Int)-1)=(j:Int):=by rw[IntKind.wrap_i64];omega
    have jb0:(0:Int)≤(j:Int):=by omega
    have jb1:(j:Int)<(n:Int):=by omega
    have kb0:decide ((0:Int)<((j+1:Nat):Int))=true:=by simp
    obtain⟨K,hK⟩:∃K,K=j+1:=⟨_,rfl⟩;rw[←hK] at hsub kb0 hk hk0 ⊢;have HKJ:Hid (K=j+1):=hK;obtain⟨B,hBf⟩:∃B,B=faL y x:=⟨_,rfl⟩;have HBF:Hid (faL y x=B):=hBf.symm;have HBF2:Hid (faL (y.1,y.2.1,y.2.2) (x.1,x.2.1,x.2.2)=B):=hBf.symm;clear hB hx r0 r1 r2 hG3 hF hG hV hK hBf;go_upto_region 2 with fail
    go_cut [20] from 10 to 21 (fun q w'=>q=.bool B∧Below wr.heap.size wr w')
    case first =>
     as_aux_lemma =>
      refine wp_region_quiet (C:=CHs wr g (o+j*3) x a3 n3 c3 w.heap.size y a4 n4 c4) (by kernel_rfl) (by kernel_rfl) (CHs.later (W:=wr) (Below.drew (Below.refl _ _)) HCL.out) ?_;simp only[List.toList_toArray];go_big_quiet_want;refine qv (.int .i64 (K:Int)) ?_ ?_
      ·rintro w' ⟨z0,z1,z2,z3,z4,z5,z6,z7,z8⟩;go_simp
      simp only[Act.put,AP];go_big_quiet_on;go_big_quiet_want;refine qv (.bool true) ?_ ?_
      ·rintro w' ⟨z0,z1,z2,z3,z4,z5,z6,z7,z8⟩;go_simp
      simp only[Act.put,AP];go_big_quiet_on;go_big_quiet_want;refine qv (.bool true) ?_ ?_
      ·rintro w' ⟨z0,z1,z2,z3,z4,z5,z6,z7,z8⟩;go_simp
      simp only[Act.put,AP];go_big_quiet_on;go_big_quiet_want;refine qv (.agg #[.int .i64 y.1,.string y.2.1,.slice a4 n4 c4]) ?_ ?_
      ·rintro w' ⟨z0,z1,z2,z3,z4,z5,z6,z7,z8⟩;go_simp
      simp only[Act.put,AP];go_big_quiet_on;go_big_quiet_want;refine qv (.slice (some ⟨g,o,none⟩) n c) ?_ ?_
      ·rintro w' ⟨z0,z1,z2,z3,z4,z5,z6,z7,z8⟩;go_simp
      simp only[Act.put,AP];go_big_quiet_on;go_big_quiet_want;refine qv (.int .i64 (K:Int)) ?_ ?_
      ·rintro w' ⟨z0,z1,z2,z3,z4,z5,z6,z7,z8⟩;go_simp
      simp only[Act.put,AP];go_big_quiet_on;go_big_quiet_want;refine qv (.int .i64 (j:Int)) ?_ ?_
      ·rintro w' ⟨z0,z1,z2,z3,z4,z5,z6,z7,z8⟩;go_simp
      simp only[Act.put,AP];go_big_quiet_on;go_big_quiet_want;refine qv (.pointer (some ⟨g,o+j*3,none⟩)) ?_ ?_
      ·rintro w' ⟨z0,z1,z2,z3,z4,z5,z6,z7,z8⟩;go_simp
      simp only[Act.put,AP];go_big_quiet_on;go_big_quiet_want;refine qv (.agg #[.int .i64 x.1,.string x.2.1,.slice a3 n3 c3]) ?_ ?_
      ·rintro w' ⟨z0,z1,z2,z3,z4,z5,z6,z7,z8⟩;go_simp
      simp only[Act.put,AP];go_big_quiet_on;go_big_quiet_want;refine quiet_call (f:=120) (args:=#[.agg #[.int .i64 y.1,.string y.2.1,.slice a4 n4 c4],.agg #[.int .i64 x.1,.string x.2.1,.slice a3 n3 c3]]) (v:=.bool B) (fun w'=>?_) (fun w' hC=>(less_any y.1 y.2.1 a4 n4 c4 x.1 x.2.1 a3 n3 c3 y.2.2 x.2.2 w' HY.out hC.2.2.2.2.2.2.2.2 hC.2.2.2.2.2.2.2.1).mono (fun e w2 h2=>⟨by rw[h2.1,HBF2.out],CHs.later h2.2 hC⟩)) ?_
      ·go_simp
      simp only[Act.put,AP];go_big_quiet_on;go_big_quiet_want;refine qv (.bool B) ?_ ?_
      ·rintro w' ⟨z0,z1,z2,z3,z4,z5,z6,z7,z8⟩;go_simp
      simp only[Act.put,AP];go_big_quiet_on;refine wpQuiet_nil ?_;intro w' hC
      go_wp2_with fail
      go_meet
      case rel=>exact⟨rfl,hC.1⟩
    case rest =>
     obtain⟨rfl,hB2⟩:=hcut;have HB2:Hid (Below w0.heap.size w0 wc):=HB.out.trans (hB2.mono HB.out.size);clear HCL hB2;cases B with
     | false =>
       have HE:Hid (∀x,0<K→L[K-1]?=some x→faL y x=false):=fun x' _ hx'=>by
        have e:K-1=j:=by have:=HKJ.out;omega
        rw[e,HXJ.out] at hx';cases hx';exact HBF.out
       go_wp2_with fail
       go_meet
       case rel=>exact⟨K,hk,rfl,fun i x' hi hx'=>HALL.out i x' (by have:=HKJ.out;omega) hx',HE.out,HB2.out⟩
     | true =>
       have HALL2:Hid (∀i x,j≤i→L[i]?=some x→faL y x=true):=fun i x' hi hx'=>by
        by_cases e:i=j
        ·subst e;rw[HXJ.out] at hx';cases hx';exact HBF.out
        exact HALL.out i x' (by have:=HKJ.out;omega) hx'
       go_wp2;go_roundw
       case rel=>exact⟨j,by have:=HKJ.out;omega,by first | rfl | (simp only[hsub]),HALL2.out,HB2.out⟩
       case measure=>simp[intOf,hsub];have:=HKJ.out;omega
   obtain rfl:k=0:=by omega
   have HCL:Hid (Below wr.heap.size wr wr):=Below.refl _ _;have HE:Hid (∀x,0<0→L[0-1]?=some x→faL y x=false):=fun x h=>absurd h (by omega)
   clear hF hG hV hB;go_upto_region 2 with fail
   go_cut [20] from 10 to 21 (fun q w'=>q=.bool false∧Below wr.heap.size wr w')
   case first =>
    as_aux_lemma =>
     refine wp_region_quiet (C:=fun W=>Below wr.heap.size wr W) (by kernel_rfl) (by kernel_rfl) (Below.drew (Below.refl _ _)) ?_;simp only[List.toList_toArray];go_big_quiet_want;refine qv (.int .i64 0) ?_ ?_
     ·rintro w' z0;go_simp
     simp only[Act.put,AP];go_big_quiet_on;go_big_quiet_want;refine qv (.bool false) ?_ ?_
     ·rintro w' z0;go_simp
     simp only[Act.put,AP];go_big_quiet_on;go_big_quiet_want;refine qv (.bool false) ?_ ?_
     ·rintro w' z0;go_simp
     simp only[Act.put,AP];go_big_quiet_on;go_big_quiet_skip;go_big_quiet_skip;go_big_quiet_skip;go_big_quiet_skip;go_big_quiet_skip;go_big_quiet_skip;go_big_quiet_skip;go_big_quiet_want;refine qv (.bool false) ?_ ?_
     ·rintro w' z0;go_simp
     simp only[Act.put,AP];go_big_quiet_on;refine wpQuiet_nil ?_;intro w' hC
     go_wp2_with fail
     go_meet
     case rel=>exact⟨rfl,hC⟩
   case rest =>
    obtain⟨rfl,hB2⟩:=hcut;have HB2:Hid (Below w0.heap.size w0 wc):=HB.out.trans (hB2.mono HB.out.size);clear HCL hB2
    go_wp2_with fail
    go_meet
    case rel=>exact⟨0,by omega,rfl,HALL.out,HE.out,HB2.out⟩
 case rest =>
  obtain⟨k,hk,rfl,hall,hend,hB⟩:=hcut;have HB:Hid (Below w0.heap.size w0 wc):=hB;have HALL:Hid (∀j x,k≤j→L[j]?=some x→faL y x=true):=hall;have HEND:Hid (∀x,0<k→L[k-1]?=some x→faL y x=false):=hend;obtain⟨wz,hwz⟩:∃W,W=wc:=⟨wc,rfl⟩;subst hwz;clear hall hend
  go_upto_if 24 with fail
  go_cut [6] from 23 to 35 (fun _ w'=>(∀j x,j<k→L[j]?=some x→faL x y=true)∧Below wz.heap.size wz w')
  case first =>
   by_cases hk0:0<k
   ·obtain⟨j,hK⟩:∃j,k=j+1:=⟨k-1,by omega⟩;obtain⟨hF,hG,hV⟩:=HA.out wz hB;obtain⟨g,o,x,a3,n3,c3,hao2,hx,r0,r1,r2,hG3⟩:=hF.at (k:=j) (by omega);subst hao2;have HXJ:Hid (L[j]?=some x):=hx;have HSX:Hid (x.2.2.length≤1000):=HS.out x (List.mem_of_getElem? hx);have HCL:Hid (CHs wz g (o+j*3) x a3 n3 c3 w.heap.size y a4 n4 c4 wz):=⟨Below.refl _ _,r0,r1,r2,hV 0 _ rfl,hV 1 _ rfl,hV 2 _ rfl,hG3,hG⟩;have HNF:Hid (faL y x=false):=HEND.out x hk0 (by rw[show k-1=j by omega];exact hx);have HFZ:Hid (∀W,Below wz.heap.size wz W→FTs W (.slice (some ⟨g,o,none⟩) n c) L):=fun W hb=>hF.later hb
    have hsub:IntKind.i64.wrap ((k:Int)-1)=(j:Int):=by rw[IntKind.wrap_i64];omega
    have jb0:(0:Int)≤(j:Int):=by omega
    have jb1:(j:Int)<(n:Int):=by omega
    have kb0:decide ((0:Int)<(k:Int))=true:=by simp;omega
    have HKJ:Hid (k=j+1):=hK;obtain⟨B,hBf⟩:∃B,B=faL x y:=⟨_,rfl⟩;have HBF:Hid (faL x y=B):=hBf.symm;have HBF2:Hid (faL (x.1,x.2.1,x.2.2) (y.1,y.2.1,y.2.2)=B):=hBf.symm;clear hB hx r0 r1 r2 hG3 hF hG hV hK hBf HEND HALL;go_upto_region 5 with fail
    go_cut [6] from 25 to 33 (fun q w'=>q=.bool B∧Below wz.heap.size wz w')
    case first =>
     as_aux_lemma =>
      refine wp_region_quiet (C:=CHs wz g (o+j*3) x a3 n3 c3 w.heap.size y a4 n4 c4) (by kernel_rfl) (by kernel_rfl) (CHs.later (W:=wz) (Below.drew (Below.refl _ _)) HCL.out) ?_;simp only[List.toList_toArray];go_big_quiet_want;refine qv (.slice (some ⟨g,o,none⟩) n c) ?_ ?_
      ·rintro w' ⟨z0,z1,z2,z3,z4,z5,z6,z7,z8⟩;go_simp
      simp only[Act.put,AP];go_big_quiet_on;go_big_quiet_want;refine qv (.int .i64 (k:Int)) ?_ ?_
      ·rintro w' ⟨z0,z1,z2,z3,z4,z5,z6,z7,z8⟩;go_simp
      simp only[Act.put,AP];go_big_quiet_on;go_big_quiet_want;refine qv (.int .i64 (j:Int)) ?_ ?_
      ·rintro w' ⟨z0,z1,z2,z3,z4,z5,z6,z7,z8⟩;go_simp
      simp only[Act.put,AP];go_big_quiet_on;go_big_quiet_want;refine qv (.pointer (some ⟨g,o+j*3,none⟩)) ?_ ?_
      ·rintro w' ⟨z0,z1,z2,z3,z4,z5,z6,z7,z8⟩;go_simp
      simp only[Act.put,AP];go_big_quiet_on;go_big_quiet_want;refine qv (.agg #[.int .i64 x.1,.string x.2.1,.slice a3 n3 c3]) ?_ ?_
      ·rintro w' ⟨z0,z1,z2,z3,z4,z5,z6,z7,z8⟩;go_simp
      simp only[Act.put,AP];go_big_quiet_on;go_big_quiet_want;refine qv (.agg #[.int .i64 y.1,.string y.2.1,.slice a4 n4 c4]) ?_ ?_
      ·rintro w' ⟨z0,z1,z2,z3,z4,z5,z6,z7,z8⟩;go_simp
      simp only[Act.put,AP];go_big_quiet_on;go_big_quiet_want;refine quiet_call (f:=120) (args:=#[.agg #[.int .i64 x.1,.string x.2.1,.slice a3 n3 c3],.agg #[.int .i64 y.1,.string y.2.1,.slice a4 n4 c4]]) (v:=.bool B) (fun w'=>?_) (fun w' hC=>(less_any x.1 x.2.1 a3 n3 c3 y.1 y.2.1 a4 n4 c4 x.2.2 y.2.2 w' HSX.out hC.2.2.2.2.2.2.2.1 hC.2.2.2.2.2.2.2.2).mono (fun e w2 h2=>⟨by rw[h2.1,HBF2.out],CHs.later h2.2 hC⟩)) ?_
      ·go_simp
      simp only[Act.put,AP];go_big_quiet_on;go_big_quiet_want;refine qv (.bool B) ?_ ?_
      ·rintro w' ⟨z0,z1,z2,z3,z4,z5,z6,z7,z8⟩;go_simp
      simp only[Act.put,AP];go_big_quiet_on;refine wpQuiet_nil ?_;intro w' hC
      go_wp2_with fail
      go_meet
      case rel=>exact⟨rfl,hC.1⟩
    case rest =>
     obtain⟨rfl,hB2⟩:=hcut;have HB2:Hid (Below wz.heap.size wz wc):=hB2;clear HCL hB2;cases B with
     | false =>
       have HPU:Hid (puR faL y L=L):=by
        have e:x=y:=lo_fate.tot _ _ HBF.out HNF.out;exact pu_in lo_fate HRI.out (by rw[←e];exact List.mem_of_getElem? HXJ.out)
       have HFW:Hid (FTs wc (.slice (some ⟨g,o,none⟩) n c) L):=HFZ.out _ HB2.out;go_wp2;go_ret;exact⟨some ⟨g,o,none⟩,n,c,rfl,by rw[HPU.out];exact HFW.out,by omega,HB0.out.trans ((HB.out.trans (HB2.out.mono HB.out.size)).mono HB0.out.size)⟩
     | true =>
       have HLT:Hid (∀i x,i<k→L[i]?=some x→faL x y=true):=fun i x' hi hx'=>by
        by_cases e:i=j
        ·subst e;rw[HXJ.out] at hx';cases hx';exact HBF.out
        exact lo_fate.tr _ _ _ (ris_lt lo_fate HRI.out (by have:=HKJ.out;omega) hx' HXJ.out) HBF.out
       go_wp2_with fail
       go_meet
       case rel=>exact⟨HLT.out,HB2.out⟩
   obtain rfl:k=0:=by omega
   clear hB
   go_wp2_with fail
   go_meet
   case rel=>exact⟨fun j x h=>absurd h (by omega),Below.refl _ _⟩
  case rest =>
   obtain⟨hlt,hBc⟩:=hcut;have hw0c:Below w0.heap.size w0 wc:=hB.trans (hBc.mono hB.size);have HPU:Hid (puR faL y L=L.take k++[y]++L.drop k):=pu_at lo_fate HRI.out (by rw[HX.out];exact hk) HALL.out hlt;obtain⟨⟨Z,hZ1,hZ2,hZ3⟩,hG,hV⟩:=HA.out wc hw0c;have HWC:Hid (Below w.heap.size w wc):=HB0.out.trans (hw0c.mono HB0.out.size);have HZ:Hid (GS ftE wc (.slice ao n c) Z∧Z.map Prod.fst=L∧∀z∈Z,GS hopE wc (slV z.2) z.1.2.2):=⟨hZ1,hZ2,hZ3⟩;have HGY:Hid (GS hopE wc (.slice a4 n4 c4) y.2.2):=hG;have HVY:Hid (∀W,Below wc.heap.size wc W→W.cell? ⟨w.heap.size,0,none⟩=some (.int .i64 y.1)∧W.cell? ⟨w.heap.size,1,none⟩=some (.string y.2.1)∧W.cell? ⟨w.heap.size,2,none⟩=some (.slice a4 n4 c4)):=fun W hb=>by
    have q:=hV.later hb;exact⟨q 0 _ rfl,q 1 _ rfl,q 2 _ rfl⟩
   have hZn:Z.length=n:=hZ1.len;obtain⟨Z1,hq1⟩:∃q,q=Z.take k:=⟨_,rfl⟩;obtain⟨Z2,hq2⟩:∃q,q=Z.drop k:=⟨_,rfl⟩;have HZ1L:Hid (Z1.length=k):=show Z1.length=k by rw[hq1,List.length_take];omega
   have HZ2L:Hid (Z2.length=n-k):=show Z2.length=n-k by rw[hq2,List.length_drop];omega
   have HM1:Hid (Z1.map Prod.fst=L.take k):=show Z1.map Prod.fst=L.take k by rw[hq1,List.map_take,hZ2]
   have HM2:Hid (Z2.map Prod.fst=L.drop k):=show Z2.map Prod.fst=L.drop k by rw[hq2,List.map_drop,hZ2]
   have HI1:Hid (∀z∈Z1,z∈Z):=fun z hz=>List.mem_of_mem_take (by rw[hq1] at hz;exact hz)
   have HI2:Hid (∀z∈Z2,z∈Z):=fun z hz=>List.mem_of_mem_drop (by rw[hq2] at hz;exact hz)
   have HT1:Hid (GS ftE wc (.slice ao k c) Z1):=show GS ftE wc (.slice ao k c) Z1 by rw[hq1];exact hZ1.take hk
   have HD:Hid (∀g o,ao=some ⟨g,o,none⟩→GS ftE wc (.slice (some ⟨g,o+k*3,none⟩) (n-k) (c-k)) Z2):=show ∀g o,ao=some ⟨g,o,none⟩→GS ftE wc (.slice (some ⟨g,o+k*3,none⟩) (n-k) (c-k)) Z2 by
    rintro g o rfl;rw[hq2];exact hZ1.drop hk
   clear hB hlt hBc hw0c hZ1 hZ2 hZ3 hG hV HALL HEND HB hq1 hq2 hZn;obtain⟨i0,hi,hz0,hz1,hz2⟩:=info_parts fate_info;cases ao with
   | none =>
     obtain⟨rfl,rfl⟩:n=0∧c=0:=by
      rcases hao with ⟨_,h⟩ | h
      ·exact h
      rcases HZ.out.1 with ⟨_,_,e,_⟩ | ⟨_,_,_,e,_⟩
      ·cases e;omega
      cases e
     obtain rfl:k=0:=by omega
     have HT2:Hid (GS ftE wc (.slice none 0 0) Z2):=.inl ⟨none,0,rfl,List.length_eq_zero_iff.1 (by have:=HZ2L.out;omega)⟩;go_upto_region 9 with fail
     go_wp2_with (at_builtin;refine wpList_append_fts _ rfl _ _ 96 rfl Tryz.underlying96 wc.heap.size (.slice none 0 0) rfl [] (World.ownsRow_nil _ _ _ _) _ rfl Z1 ?a1 ?a2 (Nat.le_refl _) ?_)
     case a1=>exact HT1.out
     case a2=>have:=HZ1L.out;simp;omega
     intro v1 w1 ho1 hg1
     try rw[List.nil_append] at ho1
     have hb1:Below wc.heap.size wc w1:=(Below.refl _ wc).grown hg1 (Nat.le_refl _) (fun g hg=>by cases hg);obtain⟨a1,c1,hv1⟩:=own_form ho1;subst hv1;rw[HZ1L.out] at ho1 ⊢;have HO1:Hid (w1.ownsRow wc.heap.size 83 ftE.n (.slice a1 0 c1) 0 (cellsG ftE Z1)):=ho1;have HB1:Hid (Below wc.heap.size wc w1):=hb1;obtain⟨q0,q1,q2⟩:=HVY.out _ hb1;clear ho1 hg1 hb1;go_upto_region 10 with fail
     go_wp2_with (at_builtin;refine wpList_append_blk (E:=ftE) _ rfl _ _ 96 83 rfl Tryz.underlying96 i0 (.agg #[.int .i64 0,.string ⟨#[]⟩,.slice none 0 0]) 48 hi hz0 hz1 hz2 fate_zero wc.heap.size (.slice a1 0 c1) rfl Z1 ?m0 w1.heap.size 0 1 rfl (y,(a4,n4,c4)) (vat_new w1 [.int .i64 y.1,.string y.2.1,.slice a4 n4 c4] 83) ?m1 ?m2 ?m3 ?_)
     case m0=>rw[HZ1L.out];exact HO1.out.alloc _
     case m1=>rw[HZ1L.out];unfold maxLen;omega
     case m2=>rw[HZ1L.out];omega
     case m3=>have:=HB1.out.size;simp;omega
     intro v2 w2 ho2 hg2 _;have hb2:Below wc.heap.size w1 w2:=((Below.refl _ w1).alloc HB1.out.size _).grown hg2 (by have:=HB1.out.size;simp;omega) (fun g hg=>(HO1.out.lt g hg).1);have HB2:Hid (Below wc.heap.size wc w2):=HB1.out.trans hb2;obtain⟨a2,c2,hv2⟩:=own_form ho2;subst hv2;have HL2:Hid ((Z1++[(y,(a4,n4,c4))]).length=0+1):=hid_len HZ1L.out
     try rw[List.length_append] at ho2 ⊢
     try simp only[List.length_cons,List.length_nil,Nat.zero_add] at ho2 ⊢
     rw[HZ1L.out] at ho2 ⊢;have HO2:Hid (w2.ownsRow wc.heap.size 83 ftE.n (.slice a2 (0+1) c2) (0+1) (cellsG ftE (Z1++[(y,(a4,n4,c4))]))):=ho2;clear ho2 hg2 hb2 q0 q1 q2;go_upto_region 11 with fail
     go_wp2_with (at_builtin;refine wpList_append_fts _ rfl _ _ 96 rfl Tryz.underlying96 wc.heap.size (.slice a2 (0+1) c2) rfl (Z1++[(y,(a4,n4,c4))]) ?b0 _ rfl Z2 ?b1 ?b2 ?b3 ?_)
     case b0=>rw[HL2.out];exact HO2.out
     case b1=>exact HT2.out.later HB2.out
     case b2=>rw[HL2.out,HZ2L.out];omega
     case b3=>exact HB2.out.size
     intro v3 w3 ho3 hg3;have hb3:Below wc.heap.size w2 w3:=(Below.refl _ w2).grown hg3 HB2.out.size (fun g hg=>(HO2.out.lt g hg).1);have HB3:Hid (Below wc.heap.size wc w3):=HB2.out.trans hb3;have hG3:GS ftE w3 v3 (Z1++[(y,(a4,n4,c4))]++Z2):=own_GS (by simpa using ho3);obtain⟨a3,n3,c3,hv3,hn3,_⟩:=hG3.form;subst hv3;have HG3:Hid (GS ftE w3 (.slice a3 n3 c3) (Z1++[(y,(a4,n4,c4))]++Z2)):=hG3;have hn30:0<n3:=by rw[←hn3];simp;omega
     clear ho3 hg3 hb3 hG3 hn3;go_wp2;go_ret;refine⟨a3,n3,c3,rfl,⟨_,HG3.out,?_,?_⟩,hn30,HWC.out.trans (HB3.out.mono HWC.out.size)⟩
     ·rw[HPU.out,List.map_append,List.map_append,HM1.out,HM2.out];rfl
     intro z hz
     rcases List.mem_append.1 hz with hz | hz
     ·rcases List.mem_append.1 hz with hz | hz
      ·exact (HZ.out.2.2 z (HI1.out z hz)).later HB3.out
      obtain rfl:z=(y,(a4,n4,c4)):=by simpa using hz
      exact HGY.out.later HB3.out
     exact (HZ.out.2.2 z (HI2.out z hz)).later HB3.out
   | some ad =>
     obtain⟨g,o,rfl⟩:∃g o,ad=⟨g,o,none⟩:=by
      rcases HZ.out.1 with ⟨_,_,e,_⟩ | ⟨_,_,_,e,_⟩
      ·cases e
       rcases hao with ⟨h,_⟩ | h
       ·cases h
       omega
      cases e;exact⟨_,_,rfl⟩
     by_cases hck:c=k
     ·obtain rfl:n=k:=by omega
      obtain rfl:n=c:=by omega
      have HT2:Hid (GS ftE wc (.slice (some ⟨g,o,none⟩) 0 0) Z2):=.inl ⟨_,_,rfl,List.length_eq_zero_iff.1 (by have:=HZ2L.out;omega)⟩;go_upto_region 9 with fail
      go_wp2_with (at_builtin;refine wpList_append_fts _ rfl _ _ 96 rfl Tryz.underlying96 wc.heap.size (.slice none 0 0) rfl [] (World.ownsRow_nil _ _ _ _) _ rfl Z1 ?a1 ?a2 (Nat.le_refl _) ?_)
      case a1=>exact HT1.out
      case a2=>have:=HZ1L.out;simp;omega
      intro v1 w1 ho1 hg1
      try rw[List.nil_append] at ho1
      have hb1:Below wc.heap.size wc w1:=(Below.refl _ wc).grown hg1 (Nat.le_refl _) (fun g hg=>by cases hg);obtain⟨a1,c1,hv1⟩:=own_form ho1;subst hv1;rw[HZ1L.out] at ho1 ⊢;have HO1:Hid (w1.ownsRow wc.heap.size 83 ftE.n (.slice a1 n c1) n (cellsG ftE Z1)):=ho1;have HB1:Hid (Below wc.heap.size wc w1):=hb1;obtain⟨q0,q1,q2⟩:=HVY.out _ hb1;clear ho1 hg1 hb1;go_upto_region 10 with fail
      go_wp2_with (at_builtin;refine wpList_append_blk (E:=ftE) _ rfl _ _ 96 83 rfl Tryz.underlying96 i0 (.agg #[.int .i64 0,.string ⟨#[]⟩,.slice none 0 0]) 48 hi hz0 hz1 hz2 fate_zero wc.heap.size (.slice a1 n c1) rfl Z1 ?m0 w1.heap.size 0 1 rfl (y,(a4,n4,c4)) (vat_new w1 [.int .i64 y.1,.string y.2.1,.slice a4 n4 c4] 83) ?m1 ?m2 ?m3 ?_)
      case m0=>rw[HZ1L.out];exact HO1.out.alloc _
      case m1=>rw[HZ1L.out];unfold maxLen;omega
      case m2=>rw[HZ1L.out];omega
      case m3=>have:=HB1.out.size;simp;omega
      intro v2 w2 ho2 hg2 _;have hb2:Below wc.heap.size w1 w2:=((Below.refl _ w1).alloc HB1.out.size _).grown hg2 (by have:=HB1.out.size;simp;omega) (fun g hg=>(HO1.out.lt g hg).1);have HB2:Hid (Below wc.heap.size wc w2):=HB1.out.trans hb2;obtain⟨a2,c2,hv2⟩:=own_form ho2;subst hv2;have HL2:Hid ((Z1++[(y,(a4,n4,c4))]).length=n+1):=hid_len HZ1L.out
      try rw[List.length_append] at ho2 ⊢
      try simp only[List.length_cons,List.length_nil,Nat.zero_add] at ho2 ⊢
      rw[HZ1L.out] at ho2 ⊢;have HO2:Hid (w2.ownsRow wc.heap.size 83 ftE.n (.slice a2 (n+1) c2) (n+1) (cellsG ftE (Z1++[(y,(a4,n4,c4))]))):=ho2;clear ho2 hg2 hb2 q0 q1 q2;go_upto_region 11 with fail
      go_wp2_with (at_builtin;refine wpList_append_fts _ rfl _ _ 96 rfl Tryz.underlying96 wc.heap.size (.slice a2 (n+1) c2) rfl (Z1++[(y,(a4,n4,c4))]) ?b0 _ rfl Z2 ?b1 ?b2 ?b3 ?_)
      case b0=>rw[HL2.out];exact HO2.out
      case b1=>exact HT2.out.later HB2.out
      case b2=>rw[HL2.out,HZ2L.out];omega
      case b3=>exact HB2.out.size
      intro v3 w3 ho3 hg3;have hb3:Below wc.heap.size w2 w3:=(Below.refl _ w2).grown hg3 HB2.out.size (fun g hg=>(HO2.out.lt g hg).1);have HB3:Hid (Below wc.heap.size wc w3):=HB2.out.trans hb3;have hG3:GS ftE w3 v3 (Z1++[(y,(a4,n4,c4))]++Z2):=own_GS (by simpa using ho3);obtain⟨a3,n3,c3,hv3,hn3,_⟩:=hG3.form;subst hv3;have HG3:Hid (GS ftE w3 (.slice a3 n3 c3) (Z1++[(y,(a4,n4,c4))]++Z2)):=hG3;have hn30:0<n3:=by rw[←hn3];simp;omega
      clear ho3 hg3 hb3 hG3 hn3;go_wp2;go_ret;refine⟨a3,n3,c3,rfl,⟨_,HG3.out,?_,?_⟩,hn30,HWC.out.trans (HB3.out.mono HWC.out.size)⟩
      ·rw[HPU.out,List.map_append,List.map_append,HM1.out,HM2.out];rfl
      intro z hz
      rcases List.mem_append.1 hz with hz | hz
      ·rcases List.mem_append.1 hz with hz | hz
       ·exact (HZ.out.2.2 z (HI1.out z hz)).later HB3.out
       obtain rfl:z=(y,(a4,n4,c4)):=by simpa using hz
       exact HGY.out.later HB3.out
      exact (HZ.out.2.2 z (HI2.out z hz)).later HB3.out
     have HT2:Hid (GS ftE wc (.slice (some ⟨g,o+k*3,none⟩) (n-k) (c-k)) Z2):=HD.out g o rfl;go_upto_region 9 with fail
     go_wp2_with (at_builtin;refine wpList_append_fts _ rfl _ _ 96 rfl Tryz.underlying96 wc.heap.size (.slice none 0 0) rfl [] (World.ownsRow_nil _ _ _ _) _ rfl Z1 ?a1 ?a2 (Nat.le_refl _) ?_)
     case a1=>exact HT1.out
     case a2=>have:=HZ1L.out;simp;omega
     intro v1 w1 ho1 hg1
     try rw[List.nil_append] at ho1
     have hb1:Below wc.heap.size wc w1:=(Below.refl _ wc).grown hg1 (Nat.le_refl _) (fun g hg=>by cases hg);obtain⟨a1,c1,hv1⟩:=own_form ho1;subst hv1;rw[HZ1L.out] at ho1 ⊢;have HO1:Hid (w1.ownsRow wc.heap.size 83 ftE.n (.slice a1 k c1) k (cellsG ftE Z1)):=ho1;have HB1:Hid (Below wc.heap.size wc w1):=hb1;obtain⟨q0,q1,q2⟩:=HVY.out _ hb1;clear ho1 hg1 hb1;go_upto_region 10 with fail
     go_wp2_with (at_builtin;refine wpList_append_blk (E:=ftE) _ rfl _ _ 96 83 rfl Tryz.underlying96 i0 (.agg #[.int .i64 0,.string ⟨#[]⟩,.slice none 0 0]) 48 hi hz0 hz1 hz2 fate_zero wc.heap.size (.slice a1 k c1) rfl Z1 ?m0 w1.heap.size 0 1 rfl (y,(a4,n4,c4)) (vat_new w1 [.int .i64 y.1,.string y.2.1,.slice a4 n4 c4] 83) ?m1 ?m2 ?m3 ?_)
     case m0=>rw[HZ1L.out];exact HO1.out.alloc _
     case m1=>rw[HZ1L.out];unfold maxLen;omega
     case m2=>rw[HZ1L.out];omega
     case m3=>have:=HB1.out.size;simp;omega
     intro v2 w2 ho2 hg2 _;have hb2:Below wc.heap.size w1 w2:=((Below.refl _ w1).alloc HB1.out.size _).grown hg2 (by have:=HB1.out.size;simp;omega) (fun g hg=>(HO1.out.lt g hg).1);have HB2:Hid (Below wc.heap.size wc w2):=HB1.out.trans hb2;obtain⟨a2,c2,hv2⟩:=own_form ho2;subst hv2;have HL2:Hid ((Z1++[(y,(a4,n4,c4))]).length=k+1):=hid_len HZ1L.out
     try rw[List.length_append] at ho2 ⊢
     try simp only[List.length_cons,List.length_nil,Nat.zero_add] at ho2 ⊢
     rw[HZ1L.out] at ho2 ⊢;have HO2:Hid (w2.ownsRow wc.heap.size 83 ftE.n (.slice a2 (k+1) c2) (k+1) (cellsG ftE (Z1++[(y,(a4,n4,c4))]))):=ho2;clear ho2 hg2 hb2 q0 q1 q2;go_upto_region 11 with fail
     go_wp2_with (at_builtin;refine wpList_append_fts _ rfl _ _ 96 rfl Tryz.underlying96 wc.heap.size (.slice a2 (k+1) c2) rfl (Z1++[(y,(a4,n4,c4))]) ?b0 _ rfl Z2 ?b1 ?b2 ?b3 ?_)
     case b0=>rw[HL2.out];exact HO2.out
     case b1=>exact HT2.out.later HB2.out
     case b2=>rw[HL2.out,HZ2L.out];omega
     case b3=>exact HB2.out.size
     intro v3 w3 ho3 hg3;have hb3:Below wc.heap.size w2 w3:=(Below.refl _ w2).grown hg3 HB2.out.size (fun g hg=>(HO2.out.lt g hg).1);have HB3:Hid (Below wc.heap.size wc w3):=HB2.out.trans hb3;have hG3:GS ftE w3 v3 (Z1++[(y,(a4,n4,c4))]++Z2):=own_GS (by simpa using ho3);obtain⟨a3,n3,c3,hv3,hn3,_⟩:=hG3.form;subst hv3;have HG3:Hid (GS ftE w3 (.slice a3 n3 c3) (Z1++[(y,(a4,n4,c4))]++Z2)):=hG3;have hn30:0<n3:=by rw[←hn3];simp;omega
     clear ho3 hg3 hb3 hG3 hn3;go_wp2;go_ret;refine⟨a3,n3,c3,rfl,⟨_,HG3.out,?_,?_⟩,hn30,HWC.out.trans (HB3.out.mono HWC.out.size)⟩
     ·rw[HPU.out,List.map_append,List.map_append,HM1.out,HM2.out];rfl
     intro z hz
     rcases List.mem_append.1 hz with hz | hz
     ·rcases List.mem_append.1 hz with hz | hz
      ·exact (HZ.out.2.2 z (HI1.out z hz)).later HB3.out
      obtain rfl:z=(y,(a4,n4,c4)):=by simpa using hz
      exact HGY.out.later HB3.out
     exact (HZ.out.2.2 z (HI2.out z hz)).later HB3.out
end
end Go.Proofs.YtiokpmlhmlcojaaGreatDoor
