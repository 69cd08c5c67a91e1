/- Contracts and facts on the way to PlanTells, joined into one text: PlanTells, TopoOf, RoundsOf, NetOf, PlanTellsRow. -/
import Derived.Test.YtiokpmlhmlcojaaGreatDoorPlanTellsP18
namespace Go.Proofs.YtiokpmlhmlcojaaGreatDoor
set_option linter.unusedSimpArgs false
set_option linter.unusedVariables false
set_option maxHeartbeats 16000000
set_option maxRecDepth 100000
namespace planTells
open Go.RowKit
structure OBx (W:World)(g B:Nat)(S:Int)(v1 v2 v3:Value)(Us:List (List Ru)):Prop where
 c:NeBox W g S v1 v2 v3
 t:∃vs,TR 93 W B B v3 vs Us
theorem OBx.later {W W':World}{g B:Nat}{S:Int}{v1 v2 v3:Value}{Us:List (List Ru)}(h:OBx W g B S v1 v2 v3 Us)(hb:Below W.heap.size W W'):OBx W' g B S v1 v2 v3 Us:=by
 obtain⟨vs,ht⟩:=h.t;exact⟨h.c.later hb,vs,ht.later hb⟩
theorem tr_bb {e:TypeId}{W:World}{A B C:Nat}{v:Value}{vs:List SlT}{Us:List (List Ru)}(h:TR e W A B v vs Us)(hC:C≤B):TR e W C C v vs Us:=⟨own_mono h.ov hC,h.lv,h.rv,fun i x _ b h1 h2=>by omega⟩
theorem obx_new {W:World}{A B C:Nat}{S:Int}{v1 v2 v3:Value}{vs:List SlT}{Us:List (List Ru)}(t:TypeId)(h:TR 93 W A B v3 vs Us)(hC:C≤B):OBx (W.alloc (Obj.cells #[.int .i64 S,v1,v2,v3] t)) W.heap.size C S v1 v2 v3 Us:=
 ⟨nebox_new W S v1 v2 v3 t,vs,(tr_bb h hC).later ((Below.refl _ _).alloc (Nat.le_refl _) _)⟩
theorem obx_put {W:World}{A B C g:Nat}{S:Int}{v1 v2 v3:Value}{vs:List SlT}{Us:List (List Ru)}{x y z u:Value}(h:TR 93 W A B v3 vs Us)(h1:A≤g)(h2:g<B)(hC:C≤B)(k:W.cell? ⟨g,0,none⟩=some u∧W.cell? ⟨g,1,none⟩=some x∧W.cell? ⟨g,2,none⟩=some y∧W.cell? ⟨g,3,none⟩=some z):OBx (put4 W g (.int .i64 S) v1 v2 v3) g C S v1 v2 v3 Us:=
 ⟨put4_cells k,vs,tr_bb (h.grown (grown_put4 W g (.int .i64 S) v1 v2 v3) h1 h2) hC⟩
def PBx (W:World)(p:Value)(B:Nat)(C S:Int)(v1 v2:Value)(Us:List (List Ru)):Prop:=∃g,p=.pointer (some ⟨g,0,none⟩)∧(C=0→∃b3 k3 d3,OBx W g B S v1 v2 (.slice b3 k3 d3) Us)
def VfS (vm:Nat→Int)(n5 k:Nat)(F:Int):Prop:=vfF vm k=k∧(F≠0→k<n5∧vm k=F)
theorem walk (S:Int)(ao:Option Addr)(n cap:Nat)(ao2:Option Addr)(n2 cap2:Nat)(ao3:Option Addr)(n3 cap3:Nat)(S':Int)(bo:Option Addr)(m dap:Nat)(bo2:Option Addr)(m2 dap2:Nat)(bo3:Option Addr)(m3 dap3:Nat)(a4:Option Addr)(n4 c4:Nat)(a5:Option Addr)(n5 c5:Nat)(Ls:List LkT)(Hs:List HoT)(Ts:List (List Ru))(Ls':List LkT)(Hs':List HoT)(Ts':List (List Ru))(ws:List Wi)(l:List (List Op8))(w:World)
 (hL:GS lnkE w (.slice ao n cap) Ls) (hH:GS hstE w (.slice ao2 n2 cap2) Hs) (hT:TS w (.slice ao3 n3 cap3) Ts) (hL':GS lnkE w (.slice bo m dap) Ls') (hH':GS hstE w (.slice bo2 m2 dap2) Hs') (hT':TS w (.slice bo3 m3 dap3) Ts') (hw:GS wisE w (.slice a4 n4 c4) ws) (hl:RS w (.slice a5 n5 c5) l) (hg:HasErr w):
 Calls Tryz.prog 3 #[.agg #[.int .i64 S,.slice ao n cap,.slice ao2 n2 cap2,.slice ao3 n3 cap3],.agg #[.int .i64 S',.slice bo m dap,.slice bo2 m2 dap2,.slice bo3 m3 dap3],.slice a4 n4 c4,.slice a5 n5 c5] w fun e w'=>e=.returned (.bool true)∧Below w.heap.size w w':=by
 obtain⟨_,_,_,ee,hl5,hm5,hc5⟩:=hl.form;cases ee;have n63:n5≤9223372036854775807:=by unfold maxLen at hm5;omega
 have HLN:Hid (l.length=n5):=hl5;obtain⟨w1,hw1⟩:∃W,W=(w.alloc (Obj.cells #[.int .i64 S,.slice ao n cap,.slice ao2 n2 cap2,.slice ao3 n3 cap3] 28)).alloc (Obj.cells #[.int .i64 S',.slice bo m dap,.slice bo2 m2 dap2,.slice bo3 m3 dap3] 28):=⟨_,rfl⟩;have hb1:Below w.heap.size w w1:=by rw[hw1];exact ((Below.refl _ _).alloc (Nat.le_refl _) _).alloc (by simp) _
 have hnn:NN w1 w.heap.size S (.slice ao n cap) (.slice ao2 n2 cap2) (.slice ao3 n3 cap3) S' (.slice bo m dap) (.slice bo2 m2 dap2) (.slice bo3 m3 dap3):=by rw[hw1];exact nn_new w S _ _ _ S' _ _ _ 28
 have HNW:Hid (∀W,Below w1.heap.size w1 W→NI W (.slice ao n cap) (.slice ao2 n2 cap2) (.slice ao3 n3 cap3) Ls Hs Ts∧NI W (.slice bo m dap) (.slice bo2 m2 dap2) (.slice bo3 m3 dap3) Ls' Hs' Ts'∧GS wisE W (.slice a4 n4 c4) ws∧RS W (.slice a5 n5 c5) l∧HasErr W):=fun W h=>⟨⟨(hL.later hb1).later h,(hH.later hb1).later h,(hT.later hb1).later h⟩,⟨(hL'.later hb1).later h,(hH'.later hb1).later h,(hT'.later hb1).later h⟩,(hw.later hb1).later h,(hl.later hb1).later h,(hg.later hb1).later h⟩
 have HNB:Hid (∀W,Below w1.heap.size w1 W→NeBox W w.heap.size S (.slice ao n cap) (.slice ao2 n2 cap2) (.slice ao3 n3 cap3)∧NeBox W (w.heap.size+1) S' (.slice bo m dap) (.slice bo2 m2 dap2) (.slice bo3 m3 dap3)):=fun W h=>⟨hnn.1.later h,hnn.2.later h⟩
 have HB1:Hid (Below w.heap.size w w1):=hb1;have HW1:Hid ((w.alloc (Obj.cells #[.int .i64 S,.slice ao n cap,.slice ao2 n2 cap2,.slice ao3 n3 cap3] 28)).alloc (Obj.cells #[.int .i64 S',.slice bo m dap,.slice bo2 m2 dap2,.slice bo3 m3 dap3] 28)=w1):=hw1.symm;obtain⟨N,hN⟩:∃q,q=plN S Ls Hs Ts S' Ls' Hs' Ts' ws:=⟨_,rfl⟩;have HN:Hid (plN S Ls Hs Ts S' Ls' Hs' Ts' ws=N):=hN.symm;obtain⟨L,hLL⟩:∃q,q=plL S Ls Hs Ts S' Ls' Hs' Ts' ws:=⟨_,rfl⟩;have HLL:Hid (plL S Ls Hs Ts S' Ls' Hs' Ts' ws=L):=hLL.symm;obtain⟨X,hX⟩:∃q,q=pdN S Ls Hs Ts S' Ls' Hs' Ts' ws:=⟨_,rfl⟩;have HX:Hid (pdN S Ls Hs Ts S' Ls' Hs' Ts' ws=X):=hX.symm;obtain⟨U,hU⟩:∃q,q=wiN S Ls Hs Ts ws:=⟨_,rfl⟩;have HU:Hid (wiN S Ls Hs Ts ws=U):=hU.symm;obtain⟨N2,hN2⟩:∃q,q=vrN S Ls Hs Ts S' Ls' Hs' Ts' ws l:=⟨_,rfl⟩;have HN2:Hid (vrN S Ls Hs Ts S' Ls' Hs' Ts' ws l=N2):=hN2.symm;obtain⟨K,hK⟩:∃q,q=vrK S Ls Hs Ts S' Ls' Hs' Ts' ws l:=⟨_,rfl⟩;have HK:Hid (vrK S Ls Hs Ts S' Ls' Hs' Ts' ws l=K):=hK.symm;obtain⟨E1,hE1⟩:∃q:Int,q=if X=0 then (if n5≤20 then 0 else 4) else X:=⟨_,rfl⟩
 have HE1:Hid (E1=if X=0 then (if n5≤20 then 0 else 4) else X):=hE1;obtain⟨E2,hE2⟩:∃q:Int,q=if E1=0 then U else E1:=⟨_,rfl⟩
 have HE2:Hid (E2=if E1=0 then U else E1):=hE2;have hfin:(E2≠0→N2=E2∧K=0)∧(E2=0→X=0∧n5≤20∧U=0∧N2=veE S Ls Hs Ts Ts' ws l∧K=vkN S Ls Hs Ts ws l):=by
  rw[hN2,hK,vrN,vrK,←hX,←hU,hl5,hE2,hE1];by_cases h1:X=0
  ·by_cases h2:n5≤20
   ·by_cases h3:U=0
    ·simp[h1,h2,h3]
    simp[h1,h2,h3]
   simp[h1,h2]
  simp[h1]
 have HFIN:Hid ((E2≠0→N2=E2∧K=0)∧(E2=0→X=0∧n5≤20∧U=0∧N2=veE S Ls Hs Ts Ts' ws l∧K=vkN S Ls Hs Ts ws l)):=hfin;clear hfin;clear hL hH hT hL' hH' hT' hw hl hg hb1 hnn hw1 hN hLL hX hU hN2 hK hE1 hE2 hl5 hm5 hc5;go_enter Tryz.func3,Tryz.ntmps3;go_upto_region 1 with fail;rw[HW1.out];clear HW1;obtain⟨⟨q0,q1,q2,q3⟩,r0,r1,r2,r3⟩:=HNB.out w1 (Below.refl _ _)
 go_wp2_with fail
 refine (rplan_any S _ _ _ S' _ _ _ _ Ls Hs Ts Ls' Hs' Ts' ws w1 (HNW.out _ (Below.refl _ _)).1 (HNW.out _ (Below.refl _ _)).2.1 (HNW.out _ (Below.refl _ _)).2.2.1).mono ?_;rintro e w2 ⟨vw,rfl,hR2,hb2⟩;rw[HN.out];rw[HLL.out] at hR2;obtain⟨aw,nw,cw,rfl,_⟩:=hR2.form;have HR2:Hid (∀W,Below w2.heap.size w2 W→RS W (.slice aw nw cw) L):=fun W h=>hR2.later h
 have HB2:Hid (Below w1.heap.size w1 w2):=hb2;clear hR2 hb2 q0 q1 q2 q3 r0 r1 r2 r3;obtain⟨⟨q0,q1,q2,q3⟩,r0,r1,r2,r3⟩:=HNB.out w2 HB2.out
 go_wp2_with fail
 refine (plan_any S _ _ _ S' _ _ _ _ Ls Hs Ts Ls' Hs' Ts' ws w2 (HNW.out _ HB2.out).1 (HNW.out _ HB2.out).2.1 (HNW.out _ HB2.out).2.2.1).mono ?_;rintro e w3 ⟨vg,rfl,hR3,hb3⟩;rw[HN.out];rw[HLL.out] at hR3;obtain⟨ag,ng,cg,rfl,_⟩:=hR3.form;have HR3:Hid (∀W,Below w3.heap.size w3 W→RS W (.slice ag ng cg) L):=fun W h=>hR3.later h
 have HB23:Hid (Below w2.heap.size w2 w3):=hb3;have HB3:Hid (Below w1.heap.size w1 w3):=HB2.out.trans (hb3.mono HB2.out.size);clear hR3 hb3 q0 q1 q2 q3 r0 r1 r2 r3
 go_wp2_with fail
 refine (same_noV N w3 (HNW.out _ HB3.out).2.2.2.2).mono ?_;rintro e w4 ⟨rfl,hb4⟩;have HB34:Hid (Below w3.heap.size w3 w4):=hb4;have HB24:Hid (Below w2.heap.size w2 w4):=HB23.out.trans (hb4.mono HB23.out.size);have HB4:Hid (Below w1.heap.size w1 w4):=HB3.out.trans (hb4.mono HB3.out.size);clear hb4
 go_wp2_with fail
 refine (smrounds_any ag aw ng nw cg cw L w4 (HR3.out _ HB34.out) (HR2.out _ HB24.out)).mono ?_;rintro e w5 ⟨rfl,hb5⟩;have HB5:Hid (Below w1.heap.size w1 w5):=HB4.out.trans (hb5.mono HB4.out.size);clear hb5 HR2 HR3 HB23 HB34 HB24;obtain⟨⟨q0,q1,q2,q3⟩,r0,r1,r2,r3⟩:=HNB.out w5 HB5.out
 go_wp2_with fail
 refine (rready_any S _ _ _ S' _ _ _ _ Ls Hs Ts Ls' Hs' Ts' ws w5 (HNW.out _ HB5.out).1 (HNW.out _ HB5.out).2.1 (HNW.out _ HB5.out).2.2.1).mono ?_;rintro e w6 ⟨vo,rfl,hNO6,hb6⟩;rw[HX.out];have HB6:Hid (Below w1.heap.size w1 w6):=HB5.out.trans (hb6.mono HB5.out.size);obtain⟨ay,ny,cy,rfl,_⟩:=hNO6.gs.form;clear hNO6 hb6 q0 q1 q2 q3 r0 r1 r2 r3;go_upto_region 7 with fail
 go_cut [58] from 52 (fun c w'=>c=.bool (decide (X=0)&&decide (20<n5))∧w'=w6)
 case first =>
  by_cases hX0:X=0
  ·subst hX0;have e20:decide ((20:Int)<(n5:Int))=decide (20<n5):=by simp only[decide_eq_decide];omega
   go_wp2_with fail
   go_meet
   case rel=>exact⟨by simp,rfl⟩
  have hq:(X==0)=false:=by simpa using hX0
  have HX0:Hid (X≠0):=hX0;clear hX0
  go_wp2_with fail
  go_meet
  case rel=>exact⟨by simp[HX0.out],rfl⟩
 case rest =>
 obtain⟨rfl,hw6⟩:=hcut;have hw6:=hw6.symm;subst hw6;obtain⟨CB,hCB⟩:∃c,c=(decide (X=0)&&decide (20<n5)):=⟨_,rfl⟩;have HCB:Hid ((decide (X=0)&&decide (20<n5))=CB):=hCB.symm;rw[←hCB];clear hCB
 go_upto_if 58 with fail
 go_cut [10] from 52 (fun e w'=>e=.int .i64 E1∧w'=w6)
 case first =>
  cases CB with
  | true =>
    have hE:E1=4:=by
     have h:=HCB.out;simp only[Bool.and_eq_true,decide_eq_true_eq] at h;rw[HE1.out,if_pos h.1,if_neg (by omega)]
    have HE:Hid (E1=4):=hE;clear hE
    go_wp2_with fail
    go_meet
    case rel=>exact⟨by rw[HE.out],rfl⟩
  | false =>
    have hE:E1=X:=by
     have h:=HCB.out;rw[HE1.out];by_cases h1:X=0
     ·rw[if_pos h1];simp[h1] at h;rw[if_pos h,h1]
     rw[if_neg h1]
    have HE:Hid (E1=X):=hE;clear hE
    go_wp2_with fail
    go_meet
    case rel=>exact⟨by rw[HE.out],rfl⟩
 case rest =>
 obtain⟨rfl,hw6⟩:=hcut;have hw6:=hw6.symm;subst hw6;clear HCB
 go_upto_if 60 with fail
 go_cut [10,16,17] from 18 (fun e _ _ w'=>e=.int .i64 E2∧Below w6.heap.size w6 w')
 case first =>
  by_cases h1:E1=0
  ·have hX0:X=0:=by
    have h:=HE1.out;rw[h1] at h;by_cases hx:X=0
    ·exact hx
    rw[if_neg hx] at h;exact h.symm
   have HEU:Hid (E2=U):=HE2.out.trans (if_pos h1);have HP:Hid (PlOK S Ls Hs Ts Ts' ws (pdL S Ls Hs Ts S' Ls' Hs' Ts' ws)):=(pd_ok (HX.out.trans hX0)).1;subst h1;obtain⟨⟨q0,q1,q2,q3⟩,_⟩:=HNB.out w6 HB6.out;clear hX0
   go_wp2_with fail
   refine (rholds_any S ao n cap ao2 n2 cap2 ao3 n3 cap3 a4 n4 c4 Ls Hs Ts ws w6 (HNW.out _ HB6.out).1.l (HNW.out _ HB6.out).1.h (HNW.out _ HB6.out).1.t (HNW.out _ HB6.out).2.2.1 HP.out.nt).mono ?_;rintro e w7 ⟨rfl,hb7⟩;obtain⟨BR,hBR⟩:∃q,q=(brW Ls Hs Ts ws Hs ws.length).isNone:=⟨_,rfl⟩;have HUB:Hid (U=if BR then 0 else 9):=by
    show U=_;rw[←HU.out,wiN,if_pos HP.out.nt,if_pos HP.out.ws,hBR];cases brW Ls Hs Ts ws Hs ws.length <;> rfl
   rw[←hBR];obtain⟨P1,P2,P3,hP⟩:∃a b c,prV Hs (brW Ls Hs Ts ws Hs ws.length)=(a,b,c):=⟨_,_,_,rfl⟩;rw[hP];have HB7:Hid (Below w6.heap.size w6 (w7.alloc (Obj.cells #[.int .i64 P1,.string P2,.int .i64 P3] 43))):=hb7.alloc hb7.size _;clear hb7 hBR hP q0 q1 q2 q3;cases BR with
   | true =>
     have HE:Hid (E2=0):=HEU.out.trans (HUB.out.trans (by simp))
     go_wp2_with fail
     go_meet
     case rel=>exact⟨by rw[HE.out],HB7.out⟩
   | false =>
     have HE:Hid (E2=9):=HEU.out.trans (HUB.out.trans (by simp))
     go_wp2_with fail
     go_meet
     case rel=>exact⟨by rw[HE.out],HB7.out⟩
  have HE:Hid (E2=E1):=HE2.out.trans (if_neg h1);have hq:(E1==0)=false:=by simpa using h1
  clear h1
  go_wp2_with fail
  go_meet
  case rel=>exact⟨by rw[HE.out],Below.refl _ _⟩
 case rest =>
 obtain⟨rfl,hb7⟩:=hcut;obtain⟨w7,hw7⟩:∃X,X=wc:=⟨_,rfl⟩;subst hw7;have HB7:Hid (Below w1.heap.size w1 w7):=HB6.out.trans (hb7.mono HB6.out.size);clear hb7 HE1 HE2
 go_upto_if 70 with fail
 go_cut [10,15,18,19,20,21,22] from 23 (fun e ix _ _ _ _ _ w'=>e=.int .i64 N2∧ix=.int .i64 (K:Int)∧Below w7.heap.size w7 w')
 case first =>
  by_cases h2:E2=0
  ·obtain⟨f1,f2,f3,f4,f5⟩:=HFIN.out.2 h2;have HX0:Hid (pdN S Ls Hs Ts S' Ls' Hs' Ts' ws=0):=HX.out.trans f1;have HNV:Hid (N2=veE S Ls Hs Ts Ts' ws l):=f4;have HKV:Hid (K=vkN S Ls Hs Ts ws l):=f5;have HPK:Hid (PlOK S Ls Hs Ts Ts' ws (pdL S Ls Hs Ts S' Ls' Hs' Ts' ws)):=(pd_ok HX0.out).1;clear f1 f2 f3 f4 f5;subst h2;obtain⟨vm,hvm⟩:∃f,f=vmN S Ls Hs Ts ws l:=⟨_,rfl⟩;have HVM:Hid (vmN S Ls Hs Ts ws l=vm):=hvm.symm;obtain⟨⟨q0,q1,q2,q3⟩,_⟩:=HNB.out w7 HB7.out;obtain⟨gn,hgn⟩:∃g,g=w7.heap.size:=⟨_,rfl⟩;obtain⟨w8,hw8⟩:∃W,w7.alloc (Obj.cells #[.int .i64 S,.slice ao n cap,.slice ao2 n2 cap2,.slice ao3 n3 cap3] 28)=W:=⟨_,rfl⟩;have HW8:Hid (w7.alloc (Obj.cells #[.int .i64 S,.slice ao n cap,.slice ao2 n2 cap2,.slice ao3 n3 cap3] 28)=w8):=hw8;have HGN:Hid (w7.heap.size=gn):=hgn.symm;have HNY:Hid (NBy w8 gn S (.slice ao n cap) (.slice ao2 n2 cap2) (.slice ao3 n3 cap3) Ls Hs (vtT Ts l 0)):=by
    rw[vt_0,hgn];refine⟨by rw[←hw8];exact nbx_new (HNW.out _ HB7.out).1 S 28,fun o ho=>?_⟩;rw[←hw8];simp;omega
   have HB78:Hid (Below gn w7 w8):=by rw[←hw8,hgn];exact (Below.refl _ _).alloc (Nat.le_refl _) _
   have HKP:Hid (∀W,Below gn w7 W→NI W (.slice ao n cap) (.slice ao2 n2 cap2) (.slice ao3 n3 cap3) Ls Hs Ts∧NI W (.slice bo m dap) (.slice bo2 m2 dap2) (.slice bo3 m3 dap3) Ls' Hs' Ts'∧GS wisE W (.slice a4 n4 c4) ws∧RS W (.slice a5 n5 c5) l∧NeBox W (w.heap.size+1) S' (.slice bo m dap) (.slice bo2 m2 dap2) (.slice bo3 m3 dap3)∧Below w7.heap.size w7 W):=fun W h=>by
    rw[hgn] at h;have h1:=HB7.out.trans (h.mono HB7.out.size);obtain⟨k1,k2,k3,k4,_⟩:=HNW.out W h1;exact⟨k1,k2,k3,k4,(HNB.out W h1).2,h⟩
   clear hgn hw8 hvm;go_upto_region 15 with fail;rw[HW8.out,HGN.out];clear HW8 q0 q1 q2 q3
   go_loopw [10,15] (fun e i wr=>∃k:Nat,k≤n5∧i=.int .i64 (k:Int)∧(∃F:Int,e=.int .i64 F∧VfS vm n5 k F)∧(∃(b3:Option Addr) (k3 d3:Nat),NBy wr gn S (.slice ao n cap) (.slice ao2 n2 cap2) (.slice b3 k3 d3) Ls Hs (vtT Ts l k))∧Below gn w7 wr) (fun e i _=>2*(n5-(intOf i).toNat)+(if intOf e=0 then 1 else 0))
   case atStart=>exact⟨0,by omega,rfl,⟨0,rfl,rfl,fun h=>absurd rfl h⟩,⟨_,_,_,HNY.out⟩,HB78.out⟩
   case round =>
    obtain⟨k,hk,rfl,⟨F,rfl,hVF⟩,⟨b3,k3,d3,hNY⟩,hB⟩:=hrel;obtain⟨wi,hwi⟩:∃X,X=wr:=⟨_,rfl⟩;subst hwi;have HVF:Hid (VfS vm n5 k F):=hVF;have HNYi:Hid (NBy wi gn S (.slice ao n cap) (.slice ao2 n2 cap2) (.slice b3 k3 d3) Ls Hs (vtT Ts l k)):=hNY;have HB:Hid (Below gn w7 wi):=hB;clear hVF hNY hB HNY HB78;by_cases hF:F=0
    ·subst hF;by_cases hlt:k<n5
     ·obtain⟨g5,o5,r,ar,nr,cr,ha5,hr,hcr,hGr⟩:=(HKP.out wi HB.out).2.2.2.1.at hlt;subst ha5;have HR:Hid (l[k]?=some r):=hr;have HGR:Hid (∀W,Below wi.heap.size wi W→GS opE W (.slice ar nr cr) r):=fun W h=>hGr.later h
      obtain⟨C,hC⟩:∃C,C=cgN S Ls Hs (vtT Ts l k) r:=⟨_,rfl⟩;have HC:Hid (cgN S Ls Hs (vtT Ts l k) r=C):=hC.symm;obtain⟨F,hF⟩:∃F,F=vm k:=⟨_,rfl⟩;have HF:Hid (vm k=F):=hF.symm;have HMF:Hid (F=if C=0 then (if (bsW Ls Hs (vtT Ts l k) (caT (vtT Ts l k) r) ws Hs ws.length).isNone then 0 else 9) else C):=by
       rw[hF,←HVM.out,vmN,List.getD,hr,hC];exact rfl
      obtain⟨hnt,hlen⟩:=vt_right (ws:=ws) (l:=l) HPK.out.nt k (by rw[HLN.out];omega) (by rw[HVM.out];exact HVF.out.1);have HNT:Hid (ntN S Ls Hs (vtT Ts l k)=0):=hnt;have HCB:Hid (∀W,Below wi.heap.size wi W→W.cell? ⟨gn,0,none⟩=some (.int .i64 S)∧W.cell? ⟨gn,1,none⟩=some (.slice ao n cap)∧W.cell? ⟨gn,2,none⟩=some (.slice ao2 n2 cap2)∧W.cell? ⟨gn,3,none⟩=some (.slice b3 k3 d3)∧W.cell? ⟨g5,o5+k,none⟩=some (.slice ar nr cr)):=fun W hW=>by
       obtain⟨c0,c1,c2,c3⟩:=(HNYi.out.later hW).x.b.c;exact⟨c0,c1,c2,c3,cell_later hW hcr⟩
      have HAP:Hid (∀W,Below wi.heap.size wi W→Calls Tryz.prog 11 #[.agg #[.int .i64 S,.slice ao n cap,.slice ao2 n2 cap2,.slice b3 k3 d3],.slice ar nr cr] W fun e w'=>∃x0 x1 x2 x3 x4 x5 x6 t3 t4 t5,e=.returned (.tuple #[.agg #[.int .i64 x0,.slice x1 x2 x3,.slice x4 x5 x6,.slice t3 t4 t5],.int .i64 C])∧(C=0→x0=S∧Value.slice x1 x2 x3=.slice ao n cap∧Value.slice x4 x5 x6=.slice ao2 n2 cap2∧∃vs,TR 93 w' wi.heap.size W.heap.size (.slice t3 t4 t5) vs (caT (vtT Ts l k) r))∧Below W.heap.size W w'):=fun W hW=>by
       refine (refApply_own S ao n cap ao2 n2 cap2 b3 k3 d3 ar nr cr Ls Hs (vtT Ts l k) r wi W HNYi.out.x.b.t hW (HGR.out W hW) HNT.out).mono ?_;rintro e w' ⟨t3,t4,t5,rfl,hTR,hb⟩;rw[HC.out] at hTR ⊢;by_cases hC0:C=0
       ·refine⟨S,ao,n,cap,ao2,n2,cap2,t3,t4,t5,by simp[nvS,nvV,hC0],fun _=>⟨rfl,rfl,rfl,?_⟩,hb⟩;obtain⟨vs,h⟩:=hTR;rw[nvL,if_pos hC0] at h;exact⟨vs,h⟩
       exact⟨0,none,0,0,none,0,0,t3,t4,t5,by simp[nvS,nvV,hC0],fun h=>absurd h hC0,hb⟩
      have kb0:(0:Int)≤(k:Int):=by omega
      have kb1:(k:Int)<(n5:Int):=by omega
      have HLG:Hid (gn<wi.heap.size):=HNYi.out.x.b.lt;clear hr hGr hC hF hnt hlen hcr;go_upto_region 16 with fail
      go_cut [19,20] from 72 to 105 (fun p f w'=>f=.int .i64 C∧PBx w' p wi.heap.size C S (.slice ao n cap) (.slice ao2 n2 cap2) (caT (vtT Ts l k) r)∧Below wi.heap.size wi w')
      case first =>
       go_region_held3 (fun W=>W.cell? ⟨gn,0,none⟩=some (.int .i64 S)∧W.cell? ⟨gn,1,none⟩=some (.slice ao n cap)∧W.cell? ⟨gn,2,none⟩=some (.slice ao2 n2 cap2)∧W.cell? ⟨gn,3,none⟩=some (.slice b3 k3 d3)∧W.cell? ⟨g5,o5+k,none⟩=some (.slice ar nr cr))
        (first | (with_reducible assumption) | (with_reducible exact HCB.out _ (Below.drew (Below.refl _ _))) | (with_reducible exact HCB.out _ (Below.drew ((Below.refl _ _).alloc (Nat.le_refl _) _))) | (with_reducible exact HCB.out _ HBX.out) | (with_reducible exact HCB.out _ (HBX.out.alloc HBX.out.size _)) | (exact HCB.out _ (below_pn4 HBX.out _ (Nat.le_refl _) _ _ _ _)))
        (first
         | (go_at_call 11;refine (HAP.out _ (by first | exact Below.drew (Below.refl _ _) | exact (Below.drew (Below.refl _ _)).alloc (Nat.le_refl _) _)).mono ?_;rintro e w' ⟨x0,x1,x2,x3,x4,x5,x6,t3,t4,t5,rfl,hTX,hb⟩;have HBX:Hid (Below wi.heap.size wi w'):=(by first | exact fdrew hb | exact falloc hb);have HTX:Hid (C=0→x0=S∧Value.slice x1 x2 x3=.slice ao n cap∧Value.slice x4 x5 x6=.slice ao2 n2 cap2∧∃vs,TR 93 w' wi.heap.size _ (.slice t3 t4 t5) vs (caT (vtT Ts l k) r)):=hTX;(try (have hz:=zb_d hb;obtain⟨⟨y0,y1,y2,y3⟩,yf⟩:=hz;have yf0:=yf 0;have yf1:=yf 1;have yf2:=yf 2;have yf3:=yf 3;clear yf));clear hb hTX))
       all_goals (go_wp2_with fail;go_meet)
       all_goals first
        | exact⟨rfl,⟨_,rfl,fun h0=>by
         obtain⟨h1,h2,h3,vs,h4⟩:=HTX.out h0;rw[h1,h2,h3];exact⟨_,_,_,obx_new _ h4 (Nat.le_refl _)⟩⟩,HBX.out.alloc HBX.out.size _⟩
        | exact⟨rfl,⟨_,rfl,fun h0=>by
         obtain⟨h1,h2,h3,vs,h4⟩:=HTX.out h0;rw[h1,h2,h3];exact⟨_,_,_,obx_put h4 (Nat.le_refl _) (by simp) (by simp) ⟨y0,y1,y2,y3⟩⟩⟩,below_pn4 HBX.out _ (Nat.le_refl _) _ _ _ _⟩
      case rest =>
       obtain⟨rfl,⟨go,rfl,hPB⟩,hb10⟩:=hcut;obtain⟨wx,hwx⟩:∃X,X=wc:=⟨_,rfl⟩;subst hwx;have HBX:Hid (Below wi.heap.size wi wx):=hb10;have HBG:Hid (Below gn w7 wx):=HB.out.trans (hb10.mono (Nat.le_of_lt HLG.out));clear hb10 HCB HAP;by_cases hC0:C=0
       ·obtain⟨t3,t4,t5,hOB⟩:=hPB hC0;have HOB:Hid (∀W,Below wx.heap.size wx W→OBx W go wi.heap.size S (.slice ao n cap) (.slice ao2 n2 cap2) (.slice t3 t4 t5) (caT (vtT Ts l k) r)):=fun W h=>hOB.later h
        have HFA:Hid (F=if (bsW Ls Hs (vtT Ts l k) (caT (vtT Ts l k) r) ws Hs ws.length).isNone then 0 else 9):=HMF.out.trans (if_pos hC0);have HC0:Hid (cgN S Ls Hs (vtT Ts l k) r=0):=HC.out.trans hC0;subst hC0;have HWK:Hid (WkE wx (.slice ao n cap) (.slice ao2 n2 cap2) (.slice b3 k3 d3) (.slice t3 t4 t5) Ls Hs (vtT Ts l k) (caT (vtT Ts l k) r)):=by
         have h:=(HNYi.out.later HBX.out).x.b;obtain⟨vs,ht⟩:=hOB.t;exact⟨h.l,h.h,h.t,ht.ts⟩
        obtain⟨x0,x1,x2,x3⟩:=(HNYi.out.later HBX.out).x.b.c;obtain⟨y0,y1,y2,y3⟩:=hOB.c;clear hPB hOB
        go_wp2_with fail
        refine (rsafe_any S ao n cap ao2 n2 cap2 b3 k3 d3 S _ _ t3 t4 t5 a4 n4 c4 Ls Hs (vtT Ts l k) (caT (vtT Ts l k) r) ws wx HWK.out (HKP.out wx HBG.out).2.2.1 HNT.out (nt_ca HNT.out (cg_nt HC0.out).2)).mono ?_;rintro e wy ⟨rfl,hby⟩;obtain⟨BR,hBR⟩:∃q,q=(bsW Ls Hs (vtT Ts l k) (caT (vtT Ts l k) r) ws Hs ws.length).isNone:=⟨_,rfl⟩;rw[←hBR] at HFA ⊢;obtain⟨P1,P2,P3,hP⟩:∃a b c,prV Hs (bsW Ls Hs (vtT Ts l k) (caT (vtT Ts l k) r) ws Hs ws.length)=(a,b,c):=⟨_,_,_,rfl⟩;rw[hP];obtain⟨wz,hwz⟩:∃W,wy.alloc (Obj.cells #[.int .i64 P1,.string P2,.int .i64 P3] 43)=W:=⟨_,rfl⟩;have hbz:Below wx.heap.size wx wz:=by rw[←hwz];exact hby.alloc hby.size _
        have HWZ:Hid (wy.alloc (Obj.cells #[.int .i64 P1,.string P2,.int .i64 P3] 43)=wz):=hwz;have HBZ:Hid (Below wx.heap.size wx wz):=hbz;have HBIZ:Hid (Below wi.heap.size wi wz):=HBX.out.trans (hbz.mono HBX.out.size);have HBGZ:Hid (Below gn w7 wz):=HB.out.trans (HBIZ.out.mono (Nat.le_of_lt HLG.out));clear hBR hP hby hwz hbz x0 x1 x2 x3 y0 y1 y2 y3;go_upto_region 20 with fail;rw[HWZ.out];clear HWZ;cases BR with
        | true =>
          have HF0:Hid (F=0):=HFA.out.trans (by simp);have HVN:Hid (VfS vm n5 (k+1) 0):=⟨vf_ok HVF.out.1 (HF.out.trans HF0.out),fun h=>absurd rfl h⟩;have HNYZ:Hid (NBy wz gn S (.slice ao n cap) (.slice ao2 n2 cap2) (.slice b3 k3 d3) Ls Hs (vtT Ts l k)):=HNYi.out.later HBIZ.out;have HBE:Hid (Below gn w7 (put4 wz gn (.int .i64 S) (.slice ao n cap) (.slice ao2 n2 cap2) (.slice t3 t4 t5))):=below_pn4 HBGZ.out gn (Nat.le_refl _) _ _ _ _;have HNYN:Hid (NBy (put4 wz gn (.int .i64 S) (.slice ao n cap) (.slice ao2 n2 cap2) (.slice t3 t4 t5)) gn S (.slice ao n cap) (.slice ao2 n2 cap2) (.slice t3 t4 t5) Ls Hs (vtT Ts l (k+1))):=by
           obtain⟨vs,ht⟩:=(HOB.out wz HBZ.out).t;rw[vt_next HR.out];exact nby_put ht HLG.out HNYZ.out (HKP.out _ HBE.out).1.l (HKP.out _ HBE.out).1.h
          obtain⟨x0,x1,x2,x3⟩:=HNYZ.out.x.b.c;have xf0:=HNYZ.out.x.f 0;have xf1:=HNYZ.out.x.f 1;have xf2:=HNYZ.out.x.f 2;have xf3:=HNYZ.out.x.f 3;obtain⟨y0,y1,y2,y3⟩:=(HOB.out wz HBZ.out).c;go_wp2;go_roundw
          case rel=>exact⟨k+1,by omega,by go_num,⟨0,rfl,HVN.out⟩,⟨t3,t4,t5,HNYN.out⟩,HBE.out⟩
          case measure=>simp[intOf];omega
        | false =>
          have HF9:Hid (F=9):=HFA.out.trans (by simp);have HVN:Hid (VfS vm n5 k 9):=⟨HVF.out.1,fun _=>⟨hlt,HF.out.trans HF9.out⟩⟩;go_wp2;go_roundw
          case rel=>exact⟨k,by omega,rfl,⟨9,rfl,HVN.out⟩,⟨b3,k3,d3,HNYi.out.later HBIZ.out⟩,HBGZ.out⟩
          case measure=>simp[intOf]
       have hq:(C==0)=false:=by simpa using hC0
       have HFC:Hid (F=C):=HMF.out.trans (if_neg hC0);have HVN:Hid (VfS vm n5 k C):=⟨HVF.out.1,fun _=>⟨hlt,HF.out.trans HFC.out⟩⟩;have HCN:Hid (C≠0):=hC0;clear hPB hC0;go_wp2;go_roundw
       case rel=>exact⟨k,by omega,rfl,⟨C,rfl,HVN.out⟩,⟨b3,k3,d3,HNYi.out.later HBX.out⟩,HBG.out⟩
       case measure=>have:=HCN.out;simp[intOf,this]
     obtain rfl:k=n5:=by omega
     obtain⟨hnt,hlen⟩:=vt_right (ws:=ws) (l:=l) HPK.out.nt l.length (Nat.le_refl _) (by rw[HLN.out,HVM.out];exact HVF.out.1);obtain⟨s1,_⟩:=vt_same HX0.out hnt hlen;rw[HLN.out] at hlen s1;have hTsl:Ts.length=Ts'.length:=(pd_ok HX0.out).2.2.2;have HCH:Hid (Calls Tryz.prog 13 #[.agg #[.int .i64 S,.slice ao n cap,.slice ao2 n2 cap2,.slice b3 k3 d3],.agg #[.int .i64 S',.slice bo m dap,.slice bo2 m2 dap2,.slice bo3 m3 dap3]] wi fun e w'=>∃v,e=.returned v∧NO w' wi.heap.size v (cdL (vtT Ts l k) Ts' (vtT Ts l k).length)∧Below wi.heap.size wi w'):=refChanges_any S _ _ b3 k3 d3 S' _ _ bo3 m3 dap3 (vtT Ts l k) Ts' wi rfl rfl rfl rfl HNYi.out.x.b.t (HKP.out wi HB.out).2.1.t (by omega) (by have:=HPK.out.len.2;omega) (tw_any s1 (by omega));have HLT:Hid ((vtT Ts l k).length=Ts.length):=hlen;have HVN:Hid (vkN S Ls Hs Ts ws l=k):=by
      have h:=HVF.out.1;show vfF (vmN S Ls Hs Ts ws l) l.length=k;rw[HVM.out,HLN.out];exact h
     have HKE:Hid (K=k):=HKV.out.trans HVN.out;have HNE:Hid (N2=if (cdL (vtT Ts l k) Ts' Ts.length).length=0 then 0 else 6):=by
      have h:=HNV.out;unfold veE at h;rw[HVN.out,HLN.out,if_neg (by omega)] at h;exact h
     obtain⟨x0,x1,x2,x3⟩:=HNYi.out.x.b.c;obtain⟨y0,y1,y2,y3⟩:=(HKP.out wi HB.out).2.2.2.2.1;clear hnt hlen s1 hTsl
     go_wp2_with fail
     refine HCH.out.mono ?_;rintro e wx ⟨v,rfl,hNO,hbx⟩;obtain⟨av,nv,cv,rfl,hnv,_⟩:=hNO.gs.form;have HNV2:Hid ((cdL (vtT Ts l k) Ts' Ts.length).length=nv):=by rw[←HLT.out];exact hnv
     have HBE:Hid (Below w7.heap.size w7 wx):=(HKP.out wx (HB.out.trans (hbx.mono (Nat.le_of_lt HNYi.out.x.b.lt)))).2.2.2.2.2;clear hNO hbx hnv x0 x1 x2 x3 y0 y1 y2 y3;by_cases h0:nv=0
     ·have HNE2:Hid (N2=0):=HNE.out.trans (if_pos (HNV2.out.trans h0));subst h0;go_wp2
      go_meet
      case rel=>exact⟨by rw[HNE2.out],by rw[HKE.out],HBE.out⟩
     have HNE2:Hid (N2=6):=HNE.out.trans (if_neg (by rw[HNV2.out];exact h0));have dpos:(0:Int)<(nv:Int):=by omega
     clear h0;go_wp2
     go_meet
     case rel=>exact⟨by rw[HNE2.out],by rw[HKE.out],HBE.out⟩
    have HLT:Hid (k<n5∧vm k=F):=HVF.out.2 hF;have dlt:(k:Int)<(n5:Int):=by have:=HLT.out.1;omega
    have hq:(F==0)=false:=by simpa using hF
    have HVN:Hid (vkN S Ls Hs Ts ws l=k):=vf_no (by rw[HVM.out];exact HVF.out.1) (by rw[HVM.out,HLT.out.2];exact hF) l.length (by rw[HLN.out];exact HLT.out.1);have HKE:Hid (K=k):=HKV.out.trans HVN.out;have HNE:Hid (N2=F):=by
     have h:=HNV.out;unfold veE at h;rw[HVN.out,if_pos (by rw[HLN.out];exact HLT.out.1),HVM.out,HLT.out.2] at h;exact h
    have HBE:Hid (Below w7.heap.size w7 wi):=(HKP.out wi HB.out).2.2.2.2.2;clear hF;go_wp2
    go_meet
    case rel=>exact⟨by rw[HNE.out],by rw[HKE.out],HBE.out⟩
  obtain⟨f1,f2⟩:=HFIN.out.1 h2;have HNE:Hid (N2=E2∧K=0):=⟨f1,f2⟩;have hq:(E2==0)=false:=by simpa using h2
  clear h2 f1 f2
  go_wp2_with fail
  go_meet
  case rel=>exact⟨by rw[HNE.out.1],by rw[HNE.out.2];rfl,Below.refl _ _⟩
 case rest =>
 obtain⟨rfl,rfl,hb9⟩:=hcut;obtain⟨w9,hw9⟩:∃X,X=wc:=⟨_,rfl⟩;subst hw9;have HB9:Hid (Below w1.heap.size w1 w9):=HB7.out.trans (hb9.mono HB7.out.size);clear hb9 HFIN;obtain⟨⟨q0,q1,q2,q3⟩,r0,r1,r2,r3⟩:=HNB.out w9 HB9.out
 go_wp2_with fail
 refine (verify_any S _ _ _ S' _ _ _ _ _ Ls Hs Ts Ls' Hs' Ts' ws l w9 (HNW.out _ HB9.out).1 (HNW.out _ HB9.out).2.1 (HNW.out _ HB9.out).2.2.1 (HNW.out _ HB9.out).2.2.2.1).mono ?_;rintro e w10 ⟨rfl,hb10⟩;rw[HN2.out,HK.out];have HB10:Hid (Below w1.heap.size w1 w10):=HB9.out.trans (hb10.mono HB9.out.size);clear hb10 q0 q1 q2 q3 r0 r1 r2 r3
 go_wp2_with fail
 refine (same_noV N2 w10 (HNW.out _ HB10.out).2.2.2.2).mono ?_;rintro e w11 ⟨rfl,hb11⟩;have HBE:Hid (Below w.heap.size w w11):=HB1.out.trans ((HB10.out.trans (hb11.mono HB10.out.size)).mono HB1.out.size);clear hb11;go_wp2;go_ret;exact⟨rfl,HBE.out⟩
end planTells
section
open Go.ChangeShapes Go.WideShapes Go.ChangeAt Go.RowKit Go.Joins
section
variable {P:Program}{α:Type}{E:Enc α}
theorem gs_open {H:Type}{enc:TypeId×Value→H}{W:World}{fuel:Nat}{cs:List Value}{x:DataW H×List MemPlace}(ts te:TypeId)(hu:P.underlying ts=some (.slice te))(hC:P.cellsOf te=E.n)(x0:α)
 (hel:∀(n:Nat) (cs:List Value) (x:DataW H×List MemPlace),DataW.trod enc P W 0 (fun _=>true) true n te cs=some x→∃y,cs=E.c y)
 (hf2:DataW.trod enc P W 0 (fun _=>true) true fuel ts cs=some x):∃ao n cap L,cs=[.slice ao n cap]∧GS E W (.slice ao n cap) L:=by
 obtain⟨d,p⟩:=x
 rcases Go.Deep.open_slice hu hf2 with ⟨hc,hx⟩ | ⟨a,len0,cap,m,k,D,Pl,hc,_,hl,hm,hmm,hx,hall⟩
 ·exact⟨_,_,_,[],hc,.inl ⟨none,0,rfl,rfl⟩⟩
 simp only[if_true] at hmm;subst hmm
 rcases Nat.eq_zero_or_pos len0 with h0 | h0
 ·subst h0;exact⟨_,_,_,[],hc,.inl ⟨_,_,rfl,rfl⟩⟩
 have each:∀i,i<m→∃y:α,∀j,j<E.n→W.cell? (a.add (i*E.n+j))=(E.c y)[j]?:=by
  intro i hi;obtain⟨cs,h1,h2⟩:=hall i hi;rw[hC] at h1;obtain⟨_,hlen,hcell⟩:=World.cells?_some h1;obtain⟨y,rfl⟩:=hel _ _ _ h2;refine⟨y,fun j hj=>?_⟩;have:=hcell j (by omega);rw[Go.Deep.add_add] at this;exact this
 have iR:Inhabited α:=⟨x0⟩;obtain⟨R,hR⟩:=Go.Deep.choose_lt each;obtain⟨sb,so,spot⟩:=a;have hspot:spot=none:=by
  have h1:=hR 0 (by omega) 0 E.pos;have h2:(E.c (R 0))[0]?.isSome=true:=by
   rw[List.getElem?_eq_getElem (by rw[E.len];exact E.pos)];rfl
  obtain⟨u,hu2⟩:=Option.isSome_iff_exists.1 h2;rw[hu2] at h1;simpa[Addr.add] using World.cell?_spot h1
 subst hspot;have hadd:∀j,(⟨sb,so,none⟩:Addr).add j=⟨sb,so+j,none⟩:=by
  intro j;simp only[Addr.add]
  first
   | rfl
   | (split
      ·next h0=>rw[h0];rfl
      rfl)
 refine⟨_,_,_,(List.range len0).map R,hc,.inr ⟨sb,so,_,by simp,by simpa using hl,hm,fun i hi j u hu2=>?_⟩⟩;have hi2:i<len0:=by simpa using hi
 have e:((List.range len0).map R)[i]=R i:=by simp
 rw[e] at hu2;have hj:j<E.n:=by
  have:=(List.getElem?_eq_some_iff.1 hu2).1;rw[E.len] at this;exact this
 have hc:=hR i (by omega) j hj;rw[hadd,hu2,←Nat.add_assoc] at hc;exact hc
end
theorem topo_open {H:Type}{enc:TypeId×Value→H}{W:World}{n:Nat}{cs:List Value}{x:DataW H×List MemPlace}
 (h:DataW.trod enc Tryz.prog W 0 (fun _=>true) true n 25 cs=some x):∃S ao n cap ao2 n2 cap2 Ls Hs,cs=[.int .i64 S,.slice ao n cap,.slice ao2 n2 cap2]∧GS lnkE W (.slice ao n cap) Ls∧GS hstE W (.slice ao2 n2 cap2) Hs:=by
 obtain⟨xs,k,_,_,hl,hlen,hf⟩:=DataW.trod_struct Tryz.underlying25 h;have hC:Tryz.prog.cellsOf 25=3:=by kernel_rfl
 have hT0:Tryz.prog.cellsOf 3=1:=by kernel_rfl
 have hT1:Tryz.prog.cellsOf 22=1:=by kernel_rfl
 have hT2:Tryz.prog.cellsOf 23=1:=by kernel_rfl
 rw[hC] at hl
 match cs,hl with
 | [c0,c1,c2],_ =>
   match xs,hlen with
   | [z0,z1,z2],_ =>
     have g0:=hf 0 _ rfl;have g1:=hf 1 _ rfl;have g2:=hf 2 _ rfl;simp[hT0,hT1,hT2] at g0 g1 g2;obtain⟨v0,e0,_,_⟩:=DataW.trod_int Tryz.underlying3 g0;obtain⟨ao,n,cap,Ls,e1,hL⟩:=gs_open (E:=lnkE) 22 124 Tryz.underlying22 (by kernel_rfl) ((0,0),(0,0)) (fun _ _ _ h=>lnk_open h) g1;obtain⟨ao2,n2,cap2,Hs,e2,hH⟩:=gs_open (E:=hstE) 23 77 Tryz.underlying23 (by kernel_rfl) (ByteArray.empty,(0,0)) (fun _ _ _ h=>hst_open h) g2;simp at e0 e1 e2;exact⟨v0,ao,n,cap,ao2,n2,cap2,Ls,Hs,by simp[e0,e1,e2],hL,hH⟩
theorem round_open {H:Type}{enc:TypeId×Value→H}{W:World}{fuel:Nat}{cs:List Value}{x:DataW H×List MemPlace}
 (h:DataW.trod enc Tryz.prog W 0 (fun _=>true) true fuel 48 cs=some x):∃ao n cap L,cs=[.slice ao n cap]∧GS opE W (.slice ao n cap) L:=
 gs_open (E:=opE) 48 90 Tryz.underlying48 (by kernel_rfl) ⟨0,false,⟨0,0,0,0,0,0⟩⟩ (fun _ _ _ h=>op_open h) h
theorem rounds_open {H:Type}{enc:TypeId×Value→H}{W:World}{fuel:Nat}{cs:List Value}{x:DataW H×List MemPlace}
 (hf2:DataW.trod enc Tryz.prog W 0 (fun _=>true) true fuel 30 cs=some x):∃ao n cap Rs,cs=[.slice ao n cap]∧RS W (.slice ao n cap) Rs:=by
 obtain⟨d,p⟩:=x;have hC:Tryz.prog.cellsOf 48=1:=by kernel_rfl
 rcases Go.Deep.open_slice Tryz.underlying30 hf2 with ⟨hc,hx⟩ | ⟨a,len0,cap,m,k,D,Pl,hc,_,hl,hm,hmm,hx,hall⟩
 ·exact⟨_,_,_,[],hc,[],.inl ⟨none,0,rfl,rfl⟩,rfl,fun i x L h=>by simp at h⟩
 simp only[if_true] at hmm;subst hmm
 rcases Nat.eq_zero_or_pos len0 with h0 | h0
 ·subst h0;exact⟨_,_,_,[],hc,[],.inl ⟨_,_,rfl,rfl⟩,rfl,fun i x L h=>by simp at h⟩
 have each:∀i,i<m→∃q:SlT×List Op8,W.cell? (a.add i)=some (slV q.1)∧GS opE W (slV q.1) q.2:=by
  intro i hi;obtain⟨cs,h1,h2⟩:=hall i hi;rw[hC] at h1;obtain⟨_,hlen,hcell⟩:=World.cells?_some h1;obtain⟨ao,n,cap,L,rfl,hL⟩:=round_open h2;refine⟨((ao,n,cap),L),?_,hL⟩;have:=hcell 0 (by simp);rw[Go.Deep.add_add] at this;simpa[slV] using this
 have iR:Inhabited (SlT×List Op8):=⟨((none,0,0),[])⟩;obtain⟨R,hR⟩:=Go.Deep.choose_lt each;obtain⟨sb,so,spot⟩:=a;have hspot:spot=none:=by
  obtain⟨h1,_⟩:=hR 0 (by omega);simpa[Addr.add] using World.cell?_spot h1
 subst hspot;have hadd:∀j,(⟨sb,so,none⟩:Addr).add j=⟨sb,so+j,none⟩:=by
  intro j;simp only[Addr.add]
  first
   | rfl
   | (split
      ·next h0=>rw[h0];rfl
      rfl)
 refine⟨_,_,_,(List.range len0).map fun i=>(R i).2,hc,(List.range len0).map fun i=>(R i).1,.inr ⟨sb,so,_,by simp,by simpa using hl,hm,fun i hi j u hu=>?_⟩,by simp,fun i x L c1 c2=>?_⟩
 ·have hi2:i<len0:=by simpa using hi
  have e1:((List.range len0).map fun i=>(R i).1)[i]=(R i).1:=by simp
  rw[e1] at hu;obtain rfl:j=0:=by
   have:=(List.getElem?_eq_some_iff.1 hu).1;rw[slE.len] at this;have e2:slE.n=1:=rfl;omega
  have e3:so+i*slE.n+0=so+i:=by show so+i*1+0=so+i;omega
  have e4:slV (R i).1=u:=Option.some.inj hu;rw[e3,←e4];have:=(hR i (by omega)).1;rw[hadd] at this;exact this
 have hi:i<len0:=by
  have:=(List.getElem?_eq_some_iff.1 c1).1;simpa using this
 have e1:(R i).1=x:=by simpa[hi] using c1
 have e2:(R i).2=L:=by simpa[hi] using c2
 rw[←e1,←e2];exact (hR i (by omega)).2
theorem rounds_of {H:Type}{enc:TypeId×Value→H}{W:World}{base:Nat}{v:Value}{d:DataW H}{p:List MemPlace}
 (hv:Value.okWide Tryz.prog W .any base 30 v) (h:DataW.Trod enc Tryz.prog W 0 (fun _=>true) true 30 v d p):∃ao n cap Rs,v=.slice ao n cap∧RS W (.slice ao n cap) Rs:=by
 obtain⟨a0,n0,c0,rfl⟩:=okWide_slice Tryz.underlying30 hv;obtain⟨fuel,hf⟩:=h;have hf2:DataW.trod enc Tryz.prog W 0 (fun _=>true) true fuel 30 [.slice a0 n0 c0]=some (d,p):=hf;obtain⟨ao,n,cap,Ls,e,hL⟩:=rounds_open hf2;simp only[List.cons.injEq,and_true,Value.slice.injEq] at e;obtain⟨rfl,rfl,rfl⟩:=e;exact⟨_,_,_,Ls,rfl,hL⟩
theorem gs_SR {w:World}{v:Value}{L:List Ru}(h:GS rlE w v L):SR w v L:=by
 rcases h with h | ⟨g,o,cap,h1,h2,h3,h4⟩
 ·exact .inl h
 refine .inr ⟨g,o,cap,h1,h2,h3,fun i hi=>?_⟩;have hv:=h4 i hi
 generalize L[i]=r at hv
 obtain⟨p,m,b,q,s,x⟩:=r;obtain⟨q0,q1,q2,q3,q4,q5⟩:=rl_cells hv;exact⟨q0,q1,q2,q3,q4,q5⟩
theorem table_open {H:Type}{enc:TypeId×Value→H}{W:World}{fuel:Nat}{cs:List Value}{x:DataW H×List MemPlace}
 (h:DataW.trod enc Tryz.prog W 0 (fun _=>true) true fuel 93 cs=some x):∃ao n cap L,cs=[.slice ao n cap]∧SR W (.slice ao n cap) L:=by
 obtain⟨ao,n,cap,L,e,hL⟩:=gs_open (E:=rlE) 93 88 Tryz.underlying93 (by kernel_rfl) zeR (fun _ _ _ h=>rl_open h) h;exact⟨ao,n,cap,L,e,gs_SR hL⟩
theorem tables_open {H:Type}{enc:TypeId×Value→H}{W:World}{fuel:Nat}{cs:List Value}{x:DataW H×List MemPlace}
 (hf2:DataW.trod enc Tryz.prog W 0 (fun _=>true) true fuel 26 cs=some x):∃ao n cap Ts,cs=[.slice ao n cap]∧TS W (.slice ao n cap) Ts:=by
 obtain⟨d,p⟩:=x;have hC:Tryz.prog.cellsOf 93=1:=by kernel_rfl
 rcases Go.Deep.open_slice Tryz.underlying26 hf2 with ⟨hc,hx⟩ | ⟨a,len0,cap,m,k,D,Pl,hc,_,hl,hm,hmm,hx,hall⟩
 ·exact⟨_,_,_,[],hc,.inl ⟨none,0,rfl,rfl⟩⟩
 simp only[if_true] at hmm;subst hmm
 rcases Nat.eq_zero_or_pos len0 with h0 | h0
 ·subst h0;exact⟨_,_,_,[],hc,.inl ⟨_,_,rfl,rfl⟩⟩
 have each:∀i,i<m→∃L:List Ru,∃ao n cap,W.cell? (a.add i)=some (.slice ao n cap)∧SR W (.slice ao n cap) L:=by
  intro i hi;obtain⟨cs,h1,h2⟩:=hall i hi;rw[hC] at h1;obtain⟨_,hlen,hcell⟩:=World.cells?_some h1;obtain⟨ao,n,cap,L,rfl,hL⟩:=table_open h2;refine⟨L,ao,n,cap,?_,hL⟩;have:=hcell 0 (by simp);rw[Go.Deep.add_add] at this;simpa using this
 obtain⟨R,hR⟩:=Go.Deep.choose_lt each;obtain⟨sb,so,spot⟩:=a;have hspot:spot=none:=by
  obtain⟨ao,n,cap,h1,_⟩:=hR 0 (by omega);simpa[Addr.add] using World.cell?_spot h1
 subst hspot;have hadd:∀j,(⟨sb,so,none⟩:Addr).add j=⟨sb,so+j,none⟩:=by
  intro j;simp only[Addr.add]
  first
   | rfl
   | (split
      ·next h0=>rw[h0];rfl
      rfl)
 refine⟨_,_,_,(List.range len0).map R,hc,.inr ⟨sb,so,_,by simp,by simpa using hl,hm,fun i hi=>?_⟩⟩;have hi2:i<len0:=by simpa using hi
 have e:((List.range len0).map R)[i]=R i:=by simp
 rw[e];obtain⟨ao,n,cap,h1,h2⟩:=hR i (by omega);rw[hadd] at h1;exact⟨ao,n,cap,h1,h2⟩
theorem net_open {H:Type}{enc:TypeId×Value→H}{W:World}{n:Nat}{cs:List Value}{x:DataW H×List MemPlace}
 (h:DataW.trod enc Tryz.prog W 0 (fun _=>true) true n 28 cs=some x):∃S ao n cap ao2 n2 cap2 ao3 n3 cap3 Ls Hs Ts,cs=[.int .i64 S,.slice ao n cap,.slice ao2 n2 cap2,.slice ao3 n3 cap3]∧GS lnkE W (.slice ao n cap) Ls∧GS hstE W (.slice ao2 n2 cap2) Hs∧TS W (.slice ao3 n3 cap3) Ts:=by
 obtain⟨xs,k,_,_,hl,hlen,hf⟩:=DataW.trod_struct Tryz.underlying28 h;have hC:Tryz.prog.cellsOf 28=4:=by kernel_rfl
 have hT0:Tryz.prog.cellsOf 25=3:=by kernel_rfl
 have hT1:Tryz.prog.cellsOf 26=1:=by kernel_rfl
 rw[hC] at hl
 match cs,hl with
 | [c0,c1,c2,c3],_ =>
   match xs,hlen with
   | [z0,z1],_ =>
     have g0:=hf 0 _ rfl;have g1:=hf 1 _ rfl;simp[hT0,hT1] at g0 g1;obtain⟨S,ao,n,cap,ao2,n2,cap2,Ls,Hs,e0,hL,hH⟩:=topo_open g0;obtain⟨ao3,n3,cap3,Ts,e1,hT⟩:=tables_open g1;simp at e0 e1;exact⟨S,ao,n,cap,ao2,n2,cap2,ao3,n3,cap3,Ls,Hs,Ts,by simp[e0,e1],hL,hH,hT⟩
theorem net_of {H:Type}{enc:TypeId×Value→H}{W:World}{base:Nat}{v:Value}{d:DataW H}{p:List MemPlace}
 (hv:Value.okWide Tryz.prog W .any base 28 v) (h:DataW.Trod enc Tryz.prog W 0 (fun _=>true) true 28 v d p):∃S ao n cap ao2 n2 cap2 ao3 n3 cap3 Ls Hs Ts,v=.agg #[.int .i64 S,.slice ao n cap,.slice ao2 n2 cap2,.slice ao3 n3 cap3]∧GS lnkE W (.slice ao n cap) Ls∧GS hstE W (.slice ao2 n2 cap2) Hs∧TS W (.slice ao3 n3 cap3) Ts:=by
 obtain⟨cs,rfl,hsz⟩:=okWide_struct Tryz.underlying28 hv;obtain⟨n,hn⟩:=h;obtain⟨S,ao,n,cap,ao2,n2,cap2,ao3,n3,cap3,Ls,Hs,Ts,e,h1,h2,h3⟩:=net_open hn;refine⟨S,ao,n,cap,ao2,n2,cap2,ao3,n3,cap3,Ls,Hs,Ts,?_,h1,h2,h3⟩;simp only[Value.cells] at e;rw[←Array.toArray_toList (xs:=cs),e]
end
namespace planTells
open Go.ChangeShapes Go.WideShapes Go.ChangeAt Go.RowKit
theorem own:ownKnob Tryz.prog.godebug=none:=by kernel_rfl
theorem laidOut:laidOutB Tryz.prog=true:=by kernel_rfl
theorem et : Tryz.prog.globalNamed "errors.errorType" = some 0 := by kernel_rfl
theorem oneRow:((List.range 302).filter fun t=>Tryz.prog.rowNamed t [101,114,114,111,114])=[34]:=by kernel_rfl
theorem tsize:Tryz.prog.types.size=302:=by kernel_rfl
theorem handle_of_laid {W:World}(h:laidMetH Tryz.prog Rows.planTellsRow.laid W):HasErr W:=by
 have h':laidMet Tryz.prog [] W∧handlesMet Tryz.prog Rows.planTellsRow.laid W:=h;obtain⟨name,u,ty,e1,e2,e3,e4,e5⟩:=h'.2 _ (List.mem_singleton.2 rfl);have en:name=[101,114,114,111,114]:=(Option.some.inj e1).symm;subst en;have hu:some u=some 215:=e2.symm.trans (by kernel_rfl);obtain rfl:=Option.some.inj hu;have hm:ty∈(List.range 302).filter fun t=>Tryz.prog.rowNamed t [101,114,114,111,114]:=List.mem_filter.2 ⟨List.mem_range.2 (by rw[←tsize];exact e3),e4⟩
 rw[oneRow] at hm;obtain rfl:=List.mem_singleton.1 hm;have hh:typeHandle Tryz.prog 34=.pointer (some ⟨1,34,none⟩):=by kernel_rfl
 rw[hh] at e5;unfold HasErr;simpa using World.var?_cell et e5 0
theorem lifted (os:Os)(started:os.Started)(H:Type)(enc:TypeId×Value→H):
 ReturnsInHanded {} Tryz.checked os 3 .any (fun w args=>(Rows.planTellsSpec.pre enc Tryz.prog Tryz.f3 [] false w args∧laidMetH Tryz.prog Rows.planTellsRow.laid w)∧sizedMet enc Tryz.prog Tryz.f3 (OpenSpec.ofChange Rows.planTellsSpec) false w args)
  (Rows.planTellsSpec.post enc Tryz.prog Tryz.f3 false true false false):=by
 refine returnsInHanded_of_change_and (C:=Tryz.checked) (X:=fun w _=>laidMetH Tryz.prog Rows.planTellsRow.laid w) (fun _ _ _ hh h=>h.of_heap hh) own started (by kernel_rfl) Tryz.func3
  (ChangeSpec.witness_at (enc:=enc) (C:=Tryz.checked) (os:=os) (X:=fun w _=>laidMetH Tryz.prog Rows.planTellsRow.laid w) false
   { World.holding Tryz.prog os ⟨#[],#[],[]⟩ with heap:=(World.holding Tryz.prog os ⟨#[],#[],[]⟩).heap.modify 0 fun
    | .cells _ t frozen=>.cells #[.iface 215 (.agg #[.pointer (some ⟨1,34,none⟩)])] t frozen
    | o=>o }
   #[.agg #[.int .i64 0,.slice none 0 0,.slice none 0 0,.slice none 0 0],.agg #[.int .i64 0,.slice none 0 0,.slice none 0 0,.slice none 0 0],.slice none 0 0,.slice none 0 0] 8 rfl (by kernel_rfl) (by kernel_rfl) (by kernel_rfl) (by kernel_rfl) (by kernel_rfl) (laidMetH_of_parts (laidMet_nil _ _) (by kernel_rfl))) ?_
 intro W base args ds gs before hval0 hW _ _ hLaid _;have hval:∀(j:Nat) t v,Tryz.f3.params[j]?=some t→args[j]?=some v→Value.okWide Tryz.prog W .any base t v:=hval0;have hW':=hW;obtain⟨p,q,hA0,hV0,rfl,hfz,hnd⟩:=hW;have hA:DataW.TrodAll enc Tryz.prog W 0 (fun _=>true) true Tryz.f3.params.toList args.toList ds p:=hA0;have hV:DataW.TrodVars enc Tryz.prog W (fun _=>true) [] gs q:=hV0;rw[Tryz.params3] at hA hval;obtain⟨v0,vs0,d0,ds0,p0,q0,hargs,rfl,rfl,h0,r0⟩:=trodAll_cons hA;obtain⟨v1,vs1,d1,ds1,p1,q1,rfl,rfl,rfl,h1,r1⟩:=trodAll_cons r0;obtain⟨v2,vs2,d2,ds2,p2,q2,rfl,rfl,rfl,h2,r2⟩:=trodAll_cons r1;obtain⟨v3,vs3,d3,ds3,p3,q3,rfl,rfl,rfl,h3,r3⟩:=trodAll_cons r2;obtain⟨rfl,rfl,rfl⟩:=trodAll_nil r3;obtain rfl:args=#[v0,v1,v2,v3]:=by cases args;simp_all
 have hg:=handle_of_laid hLaid;obtain⟨rfl,rfl⟩:gs=[]∧q=[]:=by
  cases gs with
  | nil=>exact⟨rfl,hV⟩
  | cons g r=>exact absurd hV (by intro h;cases h)
 have k0:=h0;have lt0:∀x∈p0,x.block<W.heap.size:=by obtain⟨m,hm⟩:=k0;exact DataW.trod_lt m _ _ _ hm
 have k1:=h1;have lt1:∀x∈p1,x.block<W.heap.size:=by obtain⟨m,hm⟩:=k1;exact DataW.trod_lt m _ _ _ hm
 have k2:=h2;have lt2:∀x∈p2,x.block<W.heap.size:=by obtain⟨m,hm⟩:=k2;exact DataW.trod_lt m _ _ _ hm
 have k3:=h3;have lt3:∀x∈p3,x.block<W.heap.size:=by obtain⟨m,hm⟩:=k3;exact DataW.trod_lt m _ _ _ hm
 obtain⟨S,ao,n,cap,ao2,n2,cap2,ao3,n3,cap3,Ls,Hs,Ts,rfl,hL,hH,hT⟩:=net_of (hval 0 28 v0 rfl rfl) h0;obtain⟨S2,bo,m,dap,bo2,m2,dap2,bo3,m3,dap3,Ls2,Hs2,Ts2,rfl,hL2,hH2,hT2⟩:=net_of (hval 1 28 v1 rfl rfl) h1;obtain⟨ws,hw⟩:=wiss_of (hval 2 29 v2 rfl rfl) h2;obtain⟨a5,n5,c5,rfl⟩:=okWide_slice Tryz.underlying29 (hval 2 29 v2 rfl rfl);obtain⟨a6,n6,c6,lr,rfl,hlr⟩:=rounds_of (hval 3 30 v3 rfl rfl) h3;clear hA0 hval0;refine (walk S ao n cap ao2 n2 cap2 ao3 n3 cap3 S2 bo m dap bo2 m2 dap2 bo3 m3 dap3 a5 n5 c5 a6 n6 c6 Ls Hs Ts Ls2 Hs2 Ts2 ws lr W hL hH hT hL2 hH2 hT2 hw hlr hg).mono fun e W' ⟨he,bel⟩=>?_
 subst he;exact⟨_,rfl,_,_,_,[],_,[],hW',trodAll_mk1 (shut_bool Tryz.underlying4 _),(trodAll_cons_mk (Below.trod laidOut (by kernel_rfl) (of_decide_eq_true (by kernel_rfl)) k0 bel lt0) (trodAll_cons_mk (Below.trod laidOut (by kernel_rfl) (of_decide_eq_true (by kernel_rfl)) k1 bel lt1) (trodAll_cons_mk (Below.trod laidOut (by kernel_rfl) (of_decide_eq_true (by kernel_rfl)) k2 bel lt2) (trodAll_cons_mk (Below.trod laidOut (by kernel_rfl) (of_decide_eq_true (by kernel_rfl)) k3 bel lt3) trodAll_mk0)))),rfl,bel.frame _,fun h=>by cases h⟩
theorem over:Rows.PlanTellsSaid:=
 OpenClaim.holds_of_wide 3 Tryz.f3 rfl rfl rfl rfl rfl rfl rfl ⟨rfl,rfl,rfl,rfl,rfl⟩ rfl rfl rfl rfl rfl (by kernel_rfl) Tryz.func3 (by kernel_rfl)
  (of_decide_eq_true (by kernel_rfl)) (by unfold Func.isWrapper;first | (rw[if_pos (by decide +kernel)];kernel_rfl) | (rw[if_neg (by decide +kernel)];exact⟨rfl,rfl⟩))
  (fun os started H enc _=>lifted os started H enc)
end planTells
end Go.Proofs.YtiokpmlhmlcojaaGreatDoor
