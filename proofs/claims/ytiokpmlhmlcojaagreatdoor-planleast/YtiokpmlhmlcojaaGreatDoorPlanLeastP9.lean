/- Contracts and facts on the way to PlanLeast, joined into one text: PlanBegin, PlanMem, PlanRoundsA, PlanPlan, PlanVerMath, PlanHoldsMath, PlanLeastA, PlanLeastB, GenRows, RefLeastMath, RefPlanMath, RefDo, RefDiff, RefChanges, RefAlike, RefName. -/
import Derived.Test.YtiokpmlhmlcojaaGreatDoorPlanLeastP8
namespace Go.Proofs.YtiokpmlhmlcojaaGreatDoor
set_option linter.unusedSimpArgs false
set_option linter.unusedVariables false
set_option maxHeartbeats 16000000
set_option maxRecDepth 100000
open Go.Proofs.Tryz
open IntKind (i64)
section
open Go.RowKit
def pbN (S:Int)(Ls:List LkT)(Hs:List HoT)(Ts:TsQ)(S':Int)(Ls':List LkT)(Hs':List HoT)(Ts':TsQ)(ws:List Wi):Int:=if pdN S Ls Hs Ts S' Ls' Hs' Ts' ws=0 then wiN S Ls Hs Ts ws else pdN S Ls Hs Ts S' Ls' Hs' Ts' ws
theorem run_map_later {W W':World}{bm:Nat}{M:List (Int×SlT)}(h:MAt intKey slV W bm M)(hb:Below W.heap.size W W')(a:Int):(Instr.lookup 60 (.map (some bm)) (.int i64 a) false).run prog W'=.ok (slV (mgD M a)) W':=by
 have hlk:=run_lookup_M (h.later hb) 60 48 underlying60 (.slice none 0 0) (fun w=>by kernel_rfl) a false;rw[getV_sl] at hlk;exact hlk
structure BeL (w5:World)(bm:Nat)(wr:World)(S:Int)(v1 v2 v3 v4:Value)(M:List (Int×SlT))(D:List Op8):Prop where
 b:Below bm w5 wr
 t:TkB wr (bm+1) S v1 v2 v3 v4 (.map (some bm)) (alS D:Int)
 g:GM wr bm (bm+1+1) M D
theorem cells_later {W W':World}{g:Nat}{x0:Int}{x1:Bool}{x2 x3 x4 x5 x6 x7:Int}(h:W.cell? ⟨g,0,none⟩=some (.int i64 x0)∧W.cell? ⟨g,1,none⟩=some (.bool x1)∧W.cell? ⟨g,2,none⟩=some (.int i64 x2)∧W.cell? ⟨g,3,none⟩=some (.int i64 x3)∧W.cell? ⟨g,4,none⟩=some (.int i64 x4)∧W.cell? ⟨g,5,none⟩=some (.int i64 x5)∧W.cell? ⟨g,6,none⟩=some (.int i64 x6)∧W.cell? ⟨g,7,none⟩=some (.int i64 x7)){row:Option Nat}(hg:W.grownBy W' row)(hne:some g≠row):W'.cell? ⟨g,0,none⟩=some (.int i64 x0)∧W'.cell? ⟨g,1,none⟩=some (.bool x1)∧W'.cell? ⟨g,2,none⟩=some (.int i64 x2)∧W'.cell? ⟨g,3,none⟩=some (.int i64 x3)∧W'.cell? ⟨g,4,none⟩=some (.int i64 x4)∧W'.cell? ⟨g,5,none⟩=some (.int i64 x5)∧W'.cell? ⟨g,6,none⟩=some (.int i64 x6)∧W'.cell? ⟨g,7,none⟩=some (.int i64 x7):=by
 obtain⟨h0,h1,h2,h3,h4,h5,h6,h7⟩:=h;exact⟨hg.cell h0 hne,hg.cell h1 hne,hg.cell h2 hne,hg.cell h3 hne,hg.cell h4 hne,hg.cell h5 hne,hg.cell h6 hne,hg.cell h7 hne⟩
def put7 (W:World)(g:Nat)(a0 a1 a2 a3 a4 a5 a6:Value):World:=((((((W.setCell ⟨g,0,none⟩ a0).setCell ⟨g,1,none⟩ a1).setCell ⟨g,2,none⟩ a2).setCell ⟨g,3,none⟩ a3).setCell ⟨g,4,none⟩ a4).setCell ⟨g,5,none⟩ a5).setCell ⟨g,6,none⟩ a6
theorem below_put7 {B:Nat}{a W:World}(h:Below B a W)(g:Nat)(hg:B≤g)(a0 a1 a2 a3 a4 a5 a6:Value):Below B a (put7 W g a0 a1 a2 a3 a4 a5 a6):=((((((h.setCell (p:=⟨g,0,none⟩) hg _).setCell (p:=⟨g,1,none⟩) hg _).setCell (p:=⟨g,2,none⟩) hg _).setCell (p:=⟨g,3,none⟩) hg _).setCell (p:=⟨g,4,none⟩) hg _).setCell (p:=⟨g,5,none⟩) hg _).setCell (p:=⟨g,6,none⟩) hg _
theorem grown_again {A B C:World}{g:Nat}(h1:A.grownBy B (some g))(h2:B.grownBy C (some g)):A.grownBy C (some g):=
 ⟨h2.os.trans h1.os,h2.tape.trans h1.tape,h2.output.trans h1.output,Nat.le_trans h1.size h2.size,fun j hj hne=>by rw[h2.block j (Nat.lt_of_lt_of_le hj h1.size) hne,h1.block j hj hne]⟩
theorem grown_put7 (W:World)(g:Nat)(a0 a1 a2 a3 a4 a5 a6:Value):W.grownBy (put7 W g a0 a1 a2 a3 a4 a5 a6) (some g):=
 grown_again (grown_again (grown_again (grown_again (grown_again (grown_again (grown_set W g 0 a0) (grown_set _ g 1 a1)) (grown_set _ g 2 a2)) (grown_set _ g 3 a3)) (grown_set _ g 4 a4)) (grown_set _ g 5 a5)) (grown_set _ g 6 a6)
theorem begin_any (S:Int)(v1 v2 v3:Value)(S':Int)(u1 u2 u3 v4:Value)(Ls:List LkT)(Hs:List HoT)(Ts:TsQ)(Ls':List LkT)(Hs':List HoT)(Ts':TsQ)(ws:List Wi)(w:World)
 (hN:NI w v1 v2 v3 Ls Hs Ts) (hM:NI w u1 u2 u3 Ls' Hs' Ts') (hw:GS wisE w v4 ws) (h6:∀o∈pdL S Ls Hs Ts S' Ls' Hs' Ts' ws,1≤o.w∧o.w≤6) (h144:(pdL S Ls Hs Ts S' Ls' Hs' Ts' ws).length≤1000):
 Calls prog 20 #[.agg #[.int i64 S,v1,v2,v3],.agg #[.int i64 S',u1,u2,u3],v4] w fun e w'=>∃t0 t1 t2 t3 t4 t5 t6,e=.returned (.tuple #[.agg #[t0,t1,t2,t3,t4,t5,t6],noV (pbN S Ls Hs Ts S' Ls' Hs' Ts' ws)])∧(pbN S Ls Hs Ts S' Ls' Hs' Ts' ws=0→∃bm,t0=.int i64 S∧t1=v1∧t2=v2∧t3=v3∧t4=v4∧t5=.map (some bm)∧t6=.int i64 (alS (pdL S Ls Hs Ts S' Ls' Hs' Ts' ws):Int)∧TskOK w' v1 v2 v3 v4 bm Ls Hs Ts ws (pdL S Ls Hs Ts S' Ls' Hs' Ts' ws))∧(pbN S Ls Hs Ts S' Ls' Hs' Ts' ws≠0→t0=.int i64 0∧t1=.slice none 0 0∧t2=.slice none 0 0∧t3=.slice none 0 0∧t4=.slice none 0 0∧t5=.map none∧t6=.int i64 0)∧Below w.heap.size w w':=by
 obtain⟨ao,n,cap,ao2,n2,cap2,ao3,n3,cap3,rfl,rfl,rfl⟩:=hN.form;obtain⟨bo,m,dap,bo2,m2,dap2,bo3,m3,dap3,rfl,rfl,rfl⟩:=hM.form;obtain⟨a4,n4,c4,rfl,_⟩:=hw.form;obtain⟨wp,hwp⟩:∃W,W=(w.alloc (.cells #[.int i64 S,.slice ao n cap,.slice ao2 n2 cap2,.slice ao3 n3 cap3] 28)).alloc (.cells #[.int i64 S',.slice bo m dap,.slice bo2 m2 dap2,.slice bo3 m3 dap3] 28):=⟨_,rfl⟩;obtain⟨w1,hw1⟩:∃W,W=wp.alloc (.cells #[.int i64 0,.slice none 0 0,.slice none 0 0,.slice none 0 0,.slice none 0 0,.map none,.int i64 0] 63):=⟨_,rfl⟩;have hbp:Below w.heap.size w wp:=by rw[hwp];exact ((bRQ _ _).alloc (nLQ _) _).alloc (by simp) _
 have hsp:wp.heap.size=w.heap.size+1+1:=by rw[hwp];simp
 have hp1:Below wp.heap.size wp w1:=by rw[hw1];exact (bRQ _ _).alloc (nLQ _) _
 have hb1:Below w.heap.size w w1:=hbp.trans (hp1.mono hbp.size);have hnn:NN w1 w.heap.size S (.slice ao n cap) (.slice ao2 n2 cap2) (.slice ao3 n3 cap3) S' (.slice bo m dap) (.slice bo2 m2 dap2) (.slice bo3 m3 dap3):=by
  have h:=nn_new w S (.slice ao n cap) (.slice ao2 n2 cap2) (.slice ao3 n3 cap3) S' (.slice bo m dap) (.slice bo2 m2 dap2) (.slice bo3 m3 dap3) 28;rw[←hwp] at h;exact⟨h.1.later hp1,h.2.later hp1⟩
 have htb:TkB w1 (w.heap.size+1+1) 0 (.slice none 0 0) (.slice none 0 0) (.slice none 0 0) (.slice none 0 0) (.map none) 0:=by
  have h:=tkb_new wp 0 (.slice none 0 0) (.slice none 0 0) (.slice none 0 0) (.slice none 0 0) (.map none) 0 63;rw[←hw1,hsp] at h;exact h
 have HNW:Hid (∀W,Below w1.heap.size w1 W→NI W (.slice ao n cap) (.slice ao2 n2 cap2) (.slice ao3 n3 cap3) Ls Hs Ts∧NI W (.slice bo m dap) (.slice bo2 m2 dap2) (.slice bo3 m3 dap3) Ls' Hs' Ts'∧GS wisE W (.slice a4 n4 c4) ws):=fun W h=>⟨(hN.later hb1).later h,(hM.later hb1).later h,(hw.later hb1).later h⟩
 have HN0:Hid (∀W,Below w.heap.size w W→NI W (.slice ao n cap) (.slice ao2 n2 cap2) (.slice ao3 n3 cap3) Ls Hs Ts∧GS wisE W (.slice a4 n4 c4) ws):=fun W h=>⟨hN.later h,hw.later h⟩
 have HNB:Hid (∀W,Below w1.heap.size w1 W→NeBox W w.heap.size S (.slice ao n cap) (.slice ao2 n2 cap2) (.slice ao3 n3 cap3)∧NeBox W (w.heap.size+1) S' (.slice bo m dap) (.slice bo2 m2 dap2) (.slice bo3 m3 dap3)):=fun W h=>⟨hnn.1.later h,hnn.2.later h⟩
 have HTB:Hid (∀W,Below w1.heap.size w1 W→TkB W (w.heap.size+1+1) 0 (.slice none 0 0) (.slice none 0 0) (.slice none 0 0) (.slice none 0 0) (.map none) 0):=fun W h=>htb.later h
 have HB1:Hid (Below w.heap.size w w1):=hb1;have HW1:Hid (((w.alloc (.cells #[.int i64 S,.slice ao n cap,.slice ao2 n2 cap2,.slice ao3 n3 cap3] 28)).alloc (.cells #[.int i64 S',.slice bo m dap,.slice bo2 m2 dap2,.slice bo3 m3 dap3] 28)).alloc (.cells #[.int i64 0,.slice none 0 0,.slice none 0 0,.slice none 0 0,.slice none 0 0,.map none,.int i64 0] 63)=w1):=by rw[hw1,hwp];exact rfl
 obtain⟨D,hD⟩:∃D,D=pdL S Ls Hs Ts S' Ls' Hs' Ts' ws:=⟨_,rfl⟩;rw[←hD] at h6 h144 ⊢;have HD:Hid (pdL S Ls Hs Ts S' Ls' Hs' Ts' ws=D):=hD.symm;have H6:Hid (∀o∈D,1≤o.w∧o.w≤6):=h6;have H144:Hid (D.length≤1000):=h144;obtain⟨X,hX⟩:∃q,q=pdN S Ls Hs Ts S' Ls' Hs' Ts' ws:=⟨_,rfl⟩;have HX:Hid (pdN S Ls Hs Ts S' Ls' Hs' Ts' ws=X):=hX.symm;obtain⟨U,hU⟩:∃q,q=wiN S Ls Hs Ts ws:=⟨_,rfl⟩;have HU:Hid (wiN S Ls Hs Ts ws=U):=hU.symm;obtain⟨E,hE⟩:∃q,q=pbN S Ls Hs Ts S' Ls' Hs' Ts' ws:=⟨_,rfl⟩;have HE:Hid (E=if X=0 then U else X):=by rw[hE,pbN,hX,hU];exact rfl
 rw[←hE];obtain⟨P1,hP1⟩:∃q,q=(wiV S Ls Hs Ts ws).1:=⟨_,rfl⟩;obtain⟨P2,hP2⟩:∃q,q=(wiV S Ls Hs Ts ws).2.1:=⟨_,rfl⟩;obtain⟨P3,hP3⟩:∃q,q=(wiV S Ls Hs Ts ws).2.2:=⟨_,rfl⟩;have HPV:Hid ((wiV S Ls Hs Ts ws).1=P1∧(wiV S Ls Hs Ts ws).2.1=P2∧(wiV S Ls Hs Ts ws).2.2=P3):=⟨hP1.symm,hP2.symm,hP3.symm⟩;clear hN hM hw hbp hsp hp1 hb1 hnn htb hw1 hwp hD h6 h144 hX hU hE hP1 hP2 hP3;go_enter func20,ntmps20;go_upto_region 1 with fail;rw[HW1.out];clear HW1;obtain⟨⟨q0,q1,q2,q3⟩,r0,r1,r2,r3⟩:=HNB.out w1 (bRQ _ _)
 go_wp2_with fail
 refine (pdiff_any S _ _ _ S' _ _ _ _ Ls Hs Ts Ls' Hs' Ts' ws w1 (HNW.out _ (bRQ _ _)).1 (HNW.out _ (bRQ _ _)).2.1 (HNW.out _ (bRQ _ _)).2.2).mono ?_;rintro e w2 ⟨v,rfl,hNO,hb2⟩;rw[HX.out];rw[HD.out] at hNO;obtain⟨ad,nd,cd,hv,_⟩:=hNO.gs.form;subst hv;have HNO:Hid (∀W,Below w2.heap.size w2 W→GS opE W (.slice ad nd cd) D):=fun W h=>(hNO.later h).gs
 have HB2:Hid (Below w1.heap.size w1 w2):=hb2;clear hNO hb2 q0 q1 q2 q3 r0 r1 r2 r3;by_cases hX0:X=0
 ·have hEU:E=U:=HE.out.trans (if_pos hX0);subst hX0;subst hEU;rw[no_ok rfl];obtain⟨⟨q0,q1,q2,q3⟩,_⟩:=HNB.out w2 HB2.out
  go_wp2_with fail
  refine (holds_any S ao n cap ao2 n2 cap2 ao3 n3 cap3 a4 n4 c4 Ls Hs Ts ws w2 (HNW.out _ HB2.out).1.l (HNW.out _ HB2.out).1.h (HNW.out _ HB2.out).1.t (HNW.out _ HB2.out).2.2).mono ?_;rintro e w3 ⟨rfl,hb3⟩;rw[HU.out,HPV.out.1,HPV.out.2.1,HPV.out.2.2];obtain⟨w4,hw4⟩:∃W,w3.alloc (.cells #[.int i64 P1,.string P2,.int i64 P3] 43)=W:=⟨_,rfl⟩;have hb4:Below w3.heap.size w3 w4:=by rw[←hw4];exact (bRQ _ _).alloc (nLQ _) _
  have h24:Below w2.heap.size w2 w4:=hb3.trans (hb4.mono hb3.size);have HB24:Hid (Below w2.heap.size w2 w4):=h24;have HB4:Hid (Below w1.heap.size w1 w4):=HB2.out.trans (h24.mono HB2.out.size);have HW4:Hid (w3.alloc (.cells #[.int i64 P1,.string P2,.int i64 P3] 43)=w4):=hw4;clear hb3 hb4 h24 hw4 q0 q1 q2 q3;go_upto_region 5 with fail;rw[HW4.out];clear HW4;by_cases hE0:E=0
  ·have HE0:Hid (E=0):=hE0;rw[no_ok hE0];clear hE0;obtain⟨bm,hbm⟩:∃q,q=w4.heap.size:=⟨_,rfl⟩;obtain⟨w5,hw5⟩:∃W,(w4.alloc (.map #[] 0)).alloc (.cells #[.int i64 S,.slice ao n cap,.slice ao2 n2 cap2,.slice ao3 n3 cap3,.slice a4 n4 c4,.map (some bm),.int i64 0] 63)=W:=⟨_,rfl⟩;have hm0:MAt intKey slV (w4.alloc (.map #[] 0)) bm []:=by rw[hbm];exact mat_new intKey slV w4
   have hsm:(w4.alloc (.map #[] 0)).heap.size=bm+1:=by rw[hbm];simp
   have hb5:Below (w4.alloc (.map #[] 0)).heap.size (w4.alloc (.map #[] 0)) w5:=by rw[←hw5];exact (bRQ _ _).alloc (nLQ _) _
   have hb45:Below w4.heap.size w4 w5:=((bRQ _ _).alloc (nLQ _) _).trans (hb5.mono (by simp));have ht5:TkB w5 (bm+1) S (.slice ao n cap) (.slice ao2 n2 cap2) (.slice ao3 n3 cap3) (.slice a4 n4 c4) (.map (some bm)) 0:=by
    have h:=tkb_new (w4.alloc (.map #[] 0)) S (.slice ao n cap) (.slice ao2 n2 cap2) (.slice ao3 n3 cap3) (.slice a4 n4 c4) (.map (some bm)) 0 63;rw[hw5,hsm] at h;exact h
   have HBE:Hid (BeL w4 bm w5 S (.slice ao n cap) (.slice ao2 n2 cap2) (.slice ao3 n3 cap3) (.slice a4 n4 c4) [] []):=⟨by rw[hbm];exact hb45,ht5,gm_new _ _ _ (hm0.later hb5)⟩;have HW5:Hid ((w4.alloc (.map #[] 0)).alloc (.cells #[.int i64 S,.slice ao n cap,.slice ao2 n2 cap2,.slice ao3 n3 cap3,.slice a4 n4 c4,.map (some bm),.int i64 0] 63)=w5):=hw5;have HBM:Hid (w4.heap.size=bm):=hbm.symm;have HNK:Hid (∀W,Below bm w4 W→GS opE W (.slice ad nd cd) D∧NI W (.slice ao n cap) (.slice ao2 n2 cap2) (.slice ao3 n3 cap3) Ls Hs Ts∧GS wisE W (.slice a4 n4 c4) ws∧TkB W (w.heap.size+1+1) 0 (.slice none 0 0) (.slice none 0 0) (.slice none 0 0) (.slice none 0 0) (.map none) 0):=fun W h=>by
    rw[hbm] at h;have h2:=HB24.out.trans (h.mono HB24.out.size);have h1:=HB4.out.trans (h.mono HB4.out.size);exact⟨HNO.out W h2,(HNW.out W h1).1,(HNW.out W h1).2.2,HTB.out W h1⟩
   have hnd:D.length=nd:=by
    obtain⟨_,_,_,e,hn,_⟩:=(HNO.out w2 (bRQ _ _)).form;cases e;exact hn
   have HND:Hid (D.length=nd):=hnd;have n63:nd≤9223372036854775807:=by have:=H144.out;omega
   have HLW:Hid (w.heap.size+1+1<bm):=by
    have:=(HTB.out w4 HB4.out).lt;rw[hbm];exact this
   obtain⟨q0,q1,q2,q3⟩:=(HNB.out w4 HB4.out).1;have hmk:=run_makeMap (P:=prog) 60 w4;clear hbm hw5 hm0 hsm hb5 hb45 ht5 hnd;go_upto_region 7 with fail;go_wp2;rw[HBM.out,HW5.out];clear HW5 q0 q1 q2 q3 hmk
   go_loopw [42] (fun i wr=>∃(k:Nat) (M:List (Int×SlT)),k≤nd∧i=.int i64 (k:Int)∧BeL w4 bm wr S (.slice ao n cap) (.slice ao2 n2 cap2) (.slice ao3 n3 cap3) (.slice a4 n4 c4) M (D.take k)) (fun i _=>nd-(intOf i).toNat)
   case atStart=>exact⟨0,[],by omega,rfl,HBE.out⟩
   case round =>
    obtain⟨k,M,hk,rfl,hBE⟩:=hrel;have HBK:Hid (BeL w4 bm wr S (.slice ao n cap) (.slice ao2 n2 cap2) (.slice ao3 n3 cap3) (.slice a4 n4 c4) M (D.take k)):=hBE;clear hBE HBE;by_cases hlt:k<nd
    ·obtain⟨_,_,_,ee,_,_,_,hat⟩:=(HNK.out wr HBK.out.b).1.form;cases ee;obtain⟨gd,od,had,hga,_⟩:=hat (by omega);subst had;obtain⟨x0,x1,x2,x3,x4,x5,x6,x7,hkl,hLk,y0,y1,y2,y3,y4,y5,y6,y7⟩:=op_at hga HND.out hlt;have HOPK:Hid (D.take (k+1)=D.take k++[⟨x0,x1,⟨x2,x3,x4,x5,x6,x7⟩⟩]):=show _=_ by rw[List.take_succ_eq_append_getElem hkl,hLk]
     have hx6:1≤x0∧x0≤6:=by
      have:=H6.out _ (List.getElem_mem hkl);rw[hLk] at this;exact this
     obtain⟨s,hs⟩:∃s:Nat,x0=(s:Int):=⟨x0.toNat,by omega⟩;subst hs;have hs1:1≤s:=by omega
     have hs6:s≤6:=by omega
     clear hx6 hga;obtain⟨g0,hg0⟩:∃q,q=wr.heap.size:=⟨_,rfl⟩;obtain⟨wi,hwi⟩:∃W,wr.alloc (.cells #[.int i64 (s:Int),.bool x1,.int i64 x2,.int i64 x3,.int i64 x4,.int i64 x5,.int i64 x6,.int i64 x7] 90)=W:=⟨_,rfl⟩;have hbi:Below wr.heap.size wr wi:=by rw[←hwi];exact (bRQ _ _).alloc (nLQ _) _
     have hci:wi.cell? ⟨g0,0,none⟩=some (.int i64 (s:Int))∧wi.cell? ⟨g0,1,none⟩=some (.bool x1)∧wi.cell? ⟨g0,2,none⟩=some (.int i64 x2)∧wi.cell? ⟨g0,3,none⟩=some (.int i64 x3)∧wi.cell? ⟨g0,4,none⟩=some (.int i64 x4)∧wi.cell? ⟨g0,5,none⟩=some (.int i64 x5)∧wi.cell? ⟨g0,6,none⟩=some (.int i64 x6)∧wi.cell? ⟨g0,7,none⟩=some (.int i64 x7):=by
      rw[←hwi,hg0];have h:=op_cells (op_new wr (s:Int) x1 x2 x3 x4 x5 x6 x7 90);simp only[Nat.zero_add] at h;exact h
     have HG0:Hid (wr.heap.size=g0):=hg0.symm;have HWI:Hid (wr.alloc (.cells #[.int i64 (s:Int),.bool x1,.int i64 x2,.int i64 x3,.int i64 x4,.int i64 x5,.int i64 x6,.int i64 x7] 90)=wi):=hwi;have HCI:Hid (wi.cell? ⟨g0,0,none⟩=some (.int i64 (s:Int))∧wi.cell? ⟨g0,1,none⟩=some (.bool x1)∧wi.cell? ⟨g0,2,none⟩=some (.int i64 x2)∧wi.cell? ⟨g0,3,none⟩=some (.int i64 x3)∧wi.cell? ⟨g0,4,none⟩=some (.int i64 x4)∧wi.cell? ⟨g0,5,none⟩=some (.int i64 x5)∧wi.cell? ⟨g0,6,none⟩=some (.int i64 x6)∧wi.cell? ⟨g0,7,none⟩=some (.int i64 x7)):=hci;have HBI:Hid (BeL w4 bm wi S (.slice ao n cap) (.slice ao2 n2 cap2) (.slice ao3 n3 cap3) (.slice a4 n4 c4) M (D.take k)):=⟨HBK.out.b.trans (hbi.mono (by have:=HBK.out.t.lt;omega)),HBK.out.t.later hbi,HBK.out.g.grown (grown_below hbi) (fun b hb=>by cases hb)⟩;have HG0L:Hid (bm+1<g0∧g0<wi.heap.size):=by
      have h1:=HBK.out.t.lt;rw[←hg0] at h1;exact⟨h1,bLQ wi ⟨g0,0,none⟩ hci.1⟩
     have HOB:Hid (∀a b,(slV (mgD M a)).ownBlock=some b→b<g0):=fun a b hb=>by rw[hg0];exact ((HBK.out.g.o a).lt b hb).2
     clear hbi hci hwi hg0;have kb0:(0:Int)≤(k:Int):=by omega
     have kb1:(k:Int)<(nd:Int):=by omega
     go_upto_region 11 with fail;rw[HWI.out,HG0.out];clear HWI y0 y1 y2 y3 y4 y5 y6 y7
     go_cut [57] from 46 to 57 (fun c w'=>∃M',TkB w' (bm+1) S (.slice ao n cap) (.slice ao2 n2 cap2) (.slice ao3 n3 cap3) (.slice a4 n4 c4) (.map (some bm)) (alS (D.take k):Int)∧GM w' bm (bm+1+1) M' (D.take (k+1))∧Below bm w4 w'∧w'.cell? ⟨g0,0,none⟩=some (.int i64 (s:Int)))
     case first =>
      obtain⟨y,hy⟩:∃y,y=mgD M (s:Int):=⟨_,rfl⟩;obtain⟨ay,ny,cy⟩:=y;have hys:slV (mgD M (s:Int))=.slice ay ny cy:=by rw[←hy];rfl
      obtain⟨WA,hWA⟩:∃W,(wi.alloc (.cells #[.int i64 (s:Int),.bool x1,.int i64 x2,.int i64 x3,.int i64 x4,.int i64 x5,.int i64 x6,.int i64 x7] 90)).drew=W:=⟨_,rfl⟩;have hdr:Below wi.heap.size wi wi.drew:=Below.drew (bRQ _ _);have hba:Below wi.heap.size wi WA:=by rw[←hWA];exact Below.drew ((bRQ _ _).alloc (nLQ _) _)
      have hlk1:(Instr.lookup 60 (.map (some bm)) (.int i64 (s:Int)) false).run prog wi.drew=.ok (.slice ay ny cy) wi.drew:=by rw[←hys];exact run_map_later HBI.out.g.m hdr _
      have hlk2:(Instr.lookup 60 (.map (some bm)) (.int i64 (s:Int)) false).run prog WA=.ok (.slice ay ny cy) WA:=by rw[←hys];exact run_map_later HBI.out.g.m hba _
      have HSW:Hid (∀W row,wi.grownBy W row→(∀b,row=some b→b≠bm+1∧b≠g0)→W.cell? ⟨bm+1,5,none⟩=some (.map (some bm))∧W.cell? ⟨g0,0,none⟩=some (.int i64 (s:Int))∧W.cell? ⟨g0,1,none⟩=some (.bool x1)∧W.cell? ⟨g0,2,none⟩=some (.int i64 x2)∧W.cell? ⟨g0,3,none⟩=some (.int i64 x3)∧W.cell? ⟨g0,4,none⟩=some (.int i64 x4)∧W.cell? ⟨g0,5,none⟩=some (.int i64 x5)∧W.cell? ⟨g0,6,none⟩=some (.int i64 x6)∧W.cell? ⟨g0,7,none⟩=some (.int i64 x7)):=fun W row hg hr=>⟨hg.cell HBI.out.t.c5 (fun e=>(hr _ e.symm).1 rfl),cells_later HCI.out hg (fun e=>(hr _ e.symm).2 rfl)⟩
      have HOW:Hid (NO WA (bm+1+1) (.slice ay ny cy) (opA (D.take k) (s:Int))):=by
       have h:=(HBI.out.g.o (s:Int)).later hba;rw[hys] at h;exact h
      have HVA:Hid (VAt WA wi.heap.size 0 (opE.c (⟨(s:Int),x1,⟨x2,x3,x4,x5,x6,x7⟩⟩:Op8))):=by
       rw[←hWA];exact (op_new wi (s:Int) x1 x2 x3 x4 x5 x6 x7 90).later (Below.drew (bRQ _ _))
      have HBA:Hid (Below wi.heap.size wi WA):=hba;have HYS:Hid (slV (mgD M (s:Int))=.slice ay ny cy):=hys;have HLL:Hid ((opA (D.take k) (s:Int)).length≤1000):=by
       have h1:(opA (D.take k) (s:Int)).length≤(D.take k).length:=List.length_filter_le _ _;have h2:(D.take k).length≤D.length:=by rw[List.length_take];omega
       have h3:=H144.out;show _≤_;omega
      have HL1:Hid ((opA (D.take k) (s:Int)).length+1≤maxLen):=by have:=HLL.out;show _≤_;unfold maxLen;omega
      have HL2:Hid (((opA (D.take k) (s:Int)).length+1)*64≤140737488355328):=by have:=HLL.out;show _≤_;omega
      have HBS:Hid (bm+1+1≤WA.heap.size):=by have h1:=HG0L.out;have h2:=hba.size;show _≤_;omega
      have HPUSH:Hid (∀v5 w5,w5.ownsRow (bm+1+1) 90 8 v5 (opA (D.take k) (s:Int)++[(⟨(s:Int),x1,⟨x2,x3,x4,x5,x6,x7⟩⟩:Op8)]).length (cellsG opE (opA (D.take k) (s:Int)++[(⟨(s:Int),x1,⟨x2,x3,x4,x5,x6,x7⟩⟩:Op8)]))→WA.grownBy w5 (Value.slice ay ny cy).ownBlock→(v5.ownBlock=(Value.slice ay ny cy).ownBlock∨v5.ownBlock=some WA.heap.size)→∃a5 n5 c5 w6,v5=.slice a5 n5 c5∧(Instr.mapUpdate 60 (.map (some bm)) (.int i64 (s:Int)) (.slice a5 n5 c5)).run prog w5=.ok () w6∧(w5.cell? ⟨bm+1,5,none⟩=some (.map (some bm))∧w5.cell? ⟨g0,0,none⟩=some (.int i64 (s:Int))∧w5.cell? ⟨g0,1,none⟩=some (.bool x1)∧w5.cell? ⟨g0,2,none⟩=some (.int i64 x2)∧w5.cell? ⟨g0,3,none⟩=some (.int i64 x3)∧w5.cell? ⟨g0,4,none⟩=some (.int i64 x4)∧w5.cell? ⟨g0,5,none⟩=some (.int i64 x5)∧w5.cell? ⟨g0,6,none⟩=some (.int i64 x6)∧w5.cell? ⟨g0,7,none⟩=some (.int i64 x7))∧(w6.cell? ⟨bm+1,5,none⟩=some (.map (some bm))∧w6.cell? ⟨g0,0,none⟩=some (.int i64 (s:Int))∧w6.cell? ⟨g0,1,none⟩=some (.bool x1)∧w6.cell? ⟨g0,2,none⟩=some (.int i64 x2)∧w6.cell? ⟨g0,3,none⟩=some (.int i64 x3)∧w6.cell? ⟨g0,4,none⟩=some (.int i64 x4)∧w6.cell? ⟨g0,5,none⟩=some (.int i64 x5)∧w6.cell? ⟨g0,6,none⟩=some (.int i64 x6)∧w6.cell? ⟨g0,7,none⟩=some (.int i64 x7))∧TkB w6 (bm+1) S (.slice ao n cap) (.slice ao2 n2 cap2) (.slice ao3 n3 cap3) (.slice a4 n4 c4) (.map (some bm)) (alS (D.take k):Int)∧GM w6 bm (bm+1+1) (mput intKey.q (s:Int) (a5,n5,c5) M) (D.take (k+1))∧Below bm w4 w6):=by
       intro v5 w5 ho hg hl;obtain⟨⟨a5,n5,c5⟩,hv⟩:=NO.sl (L:=opA (D.take k) (s:Int)++[(⟨(s:Int),x1,⟨x2,x3,x4,x5,x6,x7⟩⟩:Op8)]) ho
       replace hv:v5=.slice a5 n5 c5:=hv
       subst hv;have hrow:∀b,(Value.slice ay ny cy).ownBlock=some b→bm+1<b∧b<g0:=fun b hb=>by
        rw[←hys] at hb;exact⟨((HBI.out.g.o (s:Int)).lt b hb).1,HOB.out _ b hb⟩
       have hg1:wi.grownBy WA none:=grown_below hba;have hg5:wi.grownBy w5 (Value.slice ay ny cy).ownBlock:=by
        refine⟨hg.os.trans hg1.os,hg.tape.trans hg1.tape,hg.output.trans hg1.output,Nat.le_trans hg1.size hg.size,fun j hj hne=>?_⟩;rw[hg.block j (Nat.lt_of_lt_of_le hj hg1.size) hne,hg1.block j hj (by simp)]
       have hM5:MAt intKey slV w5 bm M:=HBI.out.g.m.kept hg5 (fun e=>by have:=(hrow bm e.symm).1;omega);obtain⟨w6,hup,hM6,hg6⟩:=run_update_M hM5 60 48 underlying60 (s:Int) (a5,n5,c5);have hS5:=HSW.out w5 _ hg5 (fun b hb=>by have:=hrow b hb;omega);have hgm:GM w6 bm (bm+1+1) (mput intKey.q (s:Int) (a5,n5,c5) M) (D.take k++[(⟨(s:Int),x1,⟨x2,x3,x4,x5,x6,x7⟩⟩:Op8)]):=GM.push HBI.out.g (by omega) (x:=(⟨(s:Int),x1,⟨x2,x3,x4,x5,x6,x7⟩⟩:Op8)) (y:=(a5,n5,c5)) hg1 ho (by show WA.grownBy w5 (slV (mgD M (s:Int))).ownBlock;rw[hys];exact hg) (by show (Value.slice a5 n5 c5).ownBlock=(slV (mgD M (s:Int))).ownBlock∨_;rw[hys];exact hl) hM6 hg6;refine⟨a5,n5,c5,w6,rfl,hup,hS5,⟨hg6.cell hS5.1 (by simp),cells_later hS5.2 hg6 (by have:=HG0L.out;simp;omega)⟩,(HBI.out.t.grown hg5 (fun e=>by have:=(hrow _ e.symm).1;omega)).grown hg6 (by simp),by rw[HOPK.out];exact hgm,?_⟩;have hlt5:bm≤wi.heap.size:=by have:=HG0L.out;omega
       exact HBI.out.b.trans ((below_grown hg5 hlt5 (fun b hb=>by have:=(hrow b hb).1;omega)).trans (below_grown hg6 (Nat.le_trans hlt5 hg5.size) (fun b hb=>by cases hb;exact nLQ _)))
      obtain⟨i0,hi,hz0,hz1,hz2⟩:=info_parts op_info;have HSD:Hid (wi.drew.cell? ⟨bm+1,5,none⟩=some (.map (some bm))∧wi.drew.cell? ⟨g0,0,none⟩=some (.int i64 (s:Int))∧wi.drew.cell? ⟨g0,1,none⟩=some (.bool x1)∧wi.drew.cell? ⟨g0,2,none⟩=some (.int i64 x2)∧wi.drew.cell? ⟨g0,3,none⟩=some (.int i64 x3)∧wi.drew.cell? ⟨g0,4,none⟩=some (.int i64 x4)∧wi.drew.cell? ⟨g0,5,none⟩=some (.int i64 x5)∧wi.drew.cell? ⟨g0,6,none⟩=some (.int i64 x6)∧wi.drew.cell? ⟨g0,7,none⟩=some (.int i64 x7)):=HSW.out _ none (grown_below hdr) (fun b hb=>by cases hb);have HSA:Hid (WA.cell? ⟨bm+1,5,none⟩=some (.map (some bm))∧WA.cell? ⟨g0,0,none⟩=some (.int i64 (s:Int))∧WA.cell? ⟨g0,1,none⟩=some (.bool x1)∧WA.cell? ⟨g0,2,none⟩=some (.int i64 x2)∧WA.cell? ⟨g0,3,none⟩=some (.int i64 x3)∧WA.cell? ⟨g0,4,none⟩=some (.int i64 x4)∧WA.cell? ⟨g0,5,none⟩=some (.int i64 x5)∧WA.cell? ⟨g0,6,none⟩=some (.int i64 x6)∧WA.cell? ⟨g0,7,none⟩=some (.int i64 x7)):=HSW.out _ none (grown_below hba) (fun b hb=>by cases hb);have HWA:Hid ((wi.alloc (.cells #[.int i64 (s:Int),.bool x1,.int i64 x2,.int i64 x3,.int i64 x4,.int i64 x5,.int i64 x6,.int i64 x7] 90)).drew=WA):=hWA;have HWS:Hid (wi.drew.heap.size=wi.heap.size):=rfl;clear hys hy hdr hba hWA;refine wp_region_held_drew (S:=fun W=>W.cell? ⟨bm+1,5,none⟩=some (.map (some bm))∧W.cell? ⟨g0,0,none⟩=some (.int i64 (s:Int))∧W.cell? ⟨g0,1,none⟩=some (.bool x1)∧W.cell? ⟨g0,2,none⟩=some (.int i64 x2)∧W.cell? ⟨g0,3,none⟩=some (.int i64 x3)∧W.cell? ⟨g0,4,none⟩=some (.int i64 x4)∧W.cell? ⟨g0,5,none⟩=some (.int i64 x5)∧W.cell? ⟨g0,6,none⟩=some (.int i64 x6)∧W.cell? ⟨g0,7,none⟩=some (.int i64 x7)) (by kernel_rfl) HSD.out (fun hHeld=>?_);refine wpAnyH_take (i:=0) (v:=.pointer (some ⟨bm+1,5,none⟩)) rfl (by kernel_rfl) (by kernel_rfl) (by kernel_rfl) (fun _ _ _ h=>h) (Or.inl ⟨by rfl,?_⟩) hHeld ?_
      ·intro V hV;obtain⟨v0,v1,v2,v3,v4,v5,v6,v7,v8⟩:=hV;go_simp
      try simp only[Act.put,AP]
      refine wpAnyH_take (i:=1) (v:=.map (some bm)) rfl (by kernel_rfl) (by kernel_rfl) (by kernel_rfl) (fun _ _ _ h=>h) (Or.inl ⟨by rfl,?_⟩) hHeld ?_
      ·intro V hV;obtain⟨v0,v1,v2,v3,v4,v5,v6,v7,v8⟩:=hV;go_simp
      try simp only[Act.put,AP]
      refine wpAnyH_take (i:=2) (v:=.pointer (some ⟨g0,0,none⟩)) rfl (by kernel_rfl) (by kernel_rfl) (by kernel_rfl) (fun _ _ _ h=>h) (Or.inl ⟨by rfl,?_⟩) hHeld ?_
      ·intro V hV;obtain⟨v0,v1,v2,v3,v4,v5,v6,v7,v8⟩:=hV;go_simp
      try simp only[Act.put,AP]
      refine wpAnyH_take (i:=3) (v:=.int i64 (s:Int)) rfl (by kernel_rfl) (by kernel_rfl) (by kernel_rfl) (fun _ _ _ h=>h) (Or.inl ⟨by rfl,?_⟩) hHeld ?_
      ·intro V hV;obtain⟨v0,v1,v2,v3,v4,v5,v6,v7,v8⟩:=hV;go_simp
      try simp only[Act.put,AP]
      refine wpAnyH_take (i:=4) (v:=.pointer (some ⟨bm+1,5,none⟩)) rfl (by kernel_rfl) (by kernel_rfl) (by kernel_rfl) (fun _ _ _ h=>h) (Or.inl ⟨by rfl,?_⟩) hHeld ?_
      ·intro V hV;obtain⟨v0,v1,v2,v3,v4,v5,v6,v7,v8⟩:=hV;go_simp
      try simp only[Act.put,AP]
      refine wpAnyH_take (i:=5) (v:=.map (some bm)) rfl (by kernel_rfl) (by kernel_rfl) (by kernel_rfl) (fun _ _ _ h=>h) (Or.inl ⟨by rfl,?_⟩) hHeld ?_
      ·intro V hV;obtain⟨v0,v1,v2,v3,v4,v5,v6,v7,v8⟩:=hV;go_simp
      try simp only[Act.put,AP]
      refine wpAnyH_take (i:=6) (v:=.pointer (some ⟨g0,0,none⟩)) rfl (by kernel_rfl) (by kernel_rfl) (by kernel_rfl) (fun _ _ _ h=>h) (Or.inl ⟨by rfl,?_⟩) hHeld ?_
      ·intro V hV;obtain⟨v0,v1,v2,v3,v4,v5,v6,v7,v8⟩:=hV;go_simp
      try simp only[Act.put,AP]
      refine wpAnyH_take (i:=7) (v:=.int i64 (s:Int)) rfl (by kernel_rfl) (by kernel_rfl) (by kernel_rfl) (fun _ _ _ h=>h) (Or.inl ⟨by rfl,?_⟩) hHeld ?_
      ·intro V hV;obtain⟨v0,v1,v2,v3,v4,v5,v6,v7,v8⟩:=hV;go_simp
      try simp only[Act.put,AP]
      refine wpAnyH_take (i:=9) (v:=.agg #[.int i64 (s:Int),.bool x1,.int i64 x2,.int i64 x3,.int i64 x4,.int i64 x5,.int i64 x6,.int i64 x7]) rfl (by kernel_rfl) (by kernel_rfl) (by kernel_rfl) (fun _ _ _ h=>h) (Or.inl ⟨by rfl,?_⟩) hHeld ?_
      ·intro V hV;obtain⟨v0,v1,v2,v3,v4,v5,v6,v7,v8⟩:=hV;go_simp
      try simp only[Act.put,AP]
      refine wpAnyH_ready (rs:=[8,10]) (by kernel_rfl) (by simp) ?_;refine (AllReadyH.cons rfl (fun K hK=>?_) (AllReadyH.cons rfl (fun K hK=>?_) AllReadyH.nil));go_simp;refine hK.out _ _ hHeld (fun hHeld=>?_);clear hK K;refine wpAnyH_ready (rs:=[10]) (by kernel_rfl) (by simp) ?_;refine (AllReadyH.cons rfl (fun K hK=>?_) AllReadyH.nil);go_simp;rw[HWA.out];refine hK.out _ _ HSA.out (fun hHeld=>?_);clear hK K
      rotate_left
      go_simp;rw[HWA.out];refine hK.out _ _ HSA.out (fun hHeld=>?_);clear hK K;refine wpAnyH_ready (rs:=[8]) (by kernel_rfl) (by simp) ?_;refine (AllReadyH.cons rfl (fun K hK=>?_) AllReadyH.nil);go_simp;refine hK.out _ _ hHeld (fun hHeld=>?_);clear hK K
      all_goals clear hlk1 hlk2
      all_goals
       refine wpAnyH_ready (rs:=[11]) (by kernel_rfl) (by simp) ?_;refine (AllReadyH.cons rfl (fun K hK=>?_) AllReadyH.nil);refine step_append_blk (E:=opE) _ (by rfl) _ _ 48 90 (by rfl) underlying48 i0 _ 64 hi hz0 hz1 hz2 op_zero (bm+1+1) (.slice ay ny cy) (by rfl) (opA (D.take k) (s:Int)) HOW.out wi.heap.size 0 1 (by rfl) (⟨(s:Int),x1,⟨x2,x3,x4,x5,x6,x7⟩⟩:Op8) HVA.out HL1.out HL2.out HBS.out ?_;intro v5 w5 ho5 hg5 hl5;obtain⟨a5,n5,c5,w6,hv5,hup,hS5,hS6,hT6,hG6,hB6⟩:=HPUSH.out v5 w5 ho5 hg5 hl5;subst hv5;have HT6:Hid (TkB w6 (bm+1) S (.slice ao n cap) (.slice ao2 n2 cap2) (.slice ao3 n3 cap3) (.slice a4 n4 c4) (.map (some bm)) (alS (D.take k):Int)):=hT6;have HG6:Hid (GM w6 bm (bm+1+1) (mput intKey.q (s:Int) (a5,n5,c5) M) (D.take (k+1))):=hG6;have HB6:Hid (Below bm w4 w6):=hB6;have HS6:Hid (w6.cell? ⟨bm+1,5,none⟩=some (.map (some bm))∧w6.cell? ⟨g0,0,none⟩=some (.int i64 (s:Int))∧w6.cell? ⟨g0,1,none⟩=some (.bool x1)∧w6.cell? ⟨g0,2,none⟩=some (.int i64 x2)∧w6.cell? ⟨g0,3,none⟩=some (.int i64 x3)∧w6.cell? ⟨g0,4,none⟩=some (.int i64 x4)∧w6.cell? ⟨g0,5,none⟩=some (.int i64 x5)∧w6.cell? ⟨g0,6,none⟩=some (.int i64 x6)∧w6.cell? ⟨g0,7,none⟩=some (.int i64 x7)):=hS6;refine hK.out _ _ hS5 (fun hHeld=>?_);clear hK K ho5 hg5 hl5 hS5 hS6 hT6 hG6 hB6;refine wpAnyH_ready (rs:=[12]) (by kernel_rfl) (by simp) ?_;refine (AllReadyH.cons rfl (fun K hK=>?_) AllReadyH.nil);go_simp;refine hK.out _ _ HS6.out (fun hHeld=>?_);clear hK K hup;refine wpAnyH_done (by kernel_rfl) ?_ _
       go_wp2_with fail
       go_meet
       exact⟨_,HT6.out,HG6.out,HB6.out,HS6.out.2.1⟩
     case rest =>
      obtain⟨M2,hT2,hG2,hB2,hc2⟩:=hcut;obtain⟨wz,hwz⟩:∃X,X=wc:=⟨_,rfl⟩;subst hwz;have HT2:Hid (TkB wz (bm+1) S (.slice ao n cap) (.slice ao2 n2 cap2) (.slice ao3 n3 cap3) (.slice a4 n4 c4) (.map (some bm)) (alS (D.take k):Int)):=hT2;have HG2:Hid (GM wz bm (bm+1+1) M2 (D.take (k+1))):=hG2;have HBZ:Hid (Below bm w4 wz):=hB2;have HAL:Hid (alS (D.take (k+1))=alS (D.take k) ||| onS s):=show _=_ by
       rw[al_next hkl,hLk];rfl
      obtain⟨A0,hA0⟩:∃A,A=alS (D.take k):=⟨_,rfl⟩;obtain⟨O,hO⟩:∃O,O=onS s:=⟨_,rfl⟩;obtain⟨A1,hA1⟩:∃A,A=alS (D.take (k+1)):=⟨_,rfl⟩;have hor:bits .or .i64 (A0:Int) (O:Int)=(A1:Int):=by
       rw[hA1,HAL.out,hA0,hO];exact bits_or (al_lt (fun o ho=>H6.out o (List.mem_of_mem_take ho))) (on_lt hs1)
      have HON:Hid (∀W,Calls prog 43 #[.int i64 (s:Int)] W fun e w'=>e=.returned (.int i64 (O:Int))∧w'=W):=fun W=>by rw[hO];exact only_any s W hs1 hs6
      have HA1:Hid (A1=alS (D.take (k+1))):=hA1;rw[←hA0] at HT2;have hdr:Below wz.heap.size wz wz.drew:=Below.drew (bRQ _ _);have hq6:wz.drew.cell? ⟨bm+1,6,none⟩=some (.int i64 (A0:Int)):=cell_later hdr HT2.out.c6;have hf6:wz.drew.frozen? ⟨bm+1,6,none⟩=false:=by
       have:=frozLater HT2.out.f HT2.out.c0 hdr;exact this 6
      have HSZ:Hid (wz.drew.cell? ⟨g0,0,none⟩=some (.int i64 (s:Int))):=cell_later hdr hc2;have HNE:Hid (g0≠bm+1):=by have:=HG0L.out;show _≠_;omega
      have HFIN:Hid (BeL w4 bm (wz.drew.setCell ⟨bm+1,6,none⟩ (.int i64 (A1:Int))) S (.slice ao n cap) (.slice ao2 n2 cap2) (.slice ao3 n3 cap3) (.slice a4 n4 c4) M2 (D.take (k+1))):=by
       have hg:wz.grownBy (wz.drew.setCell ⟨bm+1,6,none⟩ (.int i64 (A1:Int))) (some (bm+1)):=by
        have h1:=grown_below hdr;have h2:=grown_set wz.drew (bm+1) 6 (.int i64 (A1:Int));refine⟨h2.os.trans h1.os,h2.tape.trans h1.tape,h2.output.trans h1.output,Nat.le_trans h1.size h2.size,fun j hj hne=>?_⟩;rw[h2.block j (Nat.lt_of_lt_of_le hj h1.size) hne,h1.block j hj (by simp)]
       have hlt:bm≤wz.heap.size:=by have:=HT2.out.lt;omega
       refine⟨HBZ.out.trans (below_grown hg hlt (fun b hb=>by cases hb;omega)),?_,HG2.out.grown hg (fun b hb=>?_)⟩
       ·rw[←hA1];exact (HT2.out.later hdr).put (A1:Int)
       cases hb;refine⟨by omega,fun a e=>?_⟩;have:=((HG2.out.o a).lt _ e).1;omega
      clear hT2 hG2 hB2 hc2 hA0 hO hA1 hdr hLk;go_upto_region 12 with fail;refine wp_region_held_drew (S:=fun W=>W.cell? ⟨g0,0,none⟩=some (.int i64 (s:Int))) (by kernel_rfl) HSZ.out (fun hHeld=>?_);refine wpAnyH_take (i:=0) (v:=.pointer (some ⟨bm+1,6,none⟩)) rfl (by kernel_rfl) (by kernel_rfl) (by kernel_rfl) (fun _ _ _ h=>h) (Or.inl ⟨by rfl,?_⟩) hHeld ?_
      ·intro V hV;obtain v0:=hV;go_simp
      try simp only[Act.put,AP]
      refine wpAnyH_take (i:=2) (v:=.pointer (some ⟨g0,0,none⟩)) rfl (by kernel_rfl) (by kernel_rfl) (by kernel_rfl) (fun _ _ _ h=>h) (Or.inl ⟨by rfl,?_⟩) hHeld ?_
      ·intro V hV;obtain v0:=hV;go_simp
      try simp only[Act.put,AP]
      refine wpAnyH_take (i:=3) (v:=.int i64 (s:Int)) rfl (by kernel_rfl) (by kernel_rfl) (by kernel_rfl) (fun _ _ _ h=>h) (Or.inl ⟨by rfl,?_⟩) hHeld ?_
      ·intro V hV;obtain v0:=hV;go_simp
      try simp only[Act.put,AP]
      refine wpAnyH_ready (rs:=[1,4]) (by kernel_rfl) (by simp) ?_;refine (AllReadyH.cons rfl (fun K hK=>?_) (AllReadyH.cons rfl (fun K hK=>?_) AllReadyH.nil));go_simp;refine hK.out _ _ hHeld (fun hHeld=>?_);clear hK K;refine wpAnyH_ready (rs:=[4]) (by kernel_rfl) (by simp) ?_;refine (AllReadyH.cons rfl (fun K hK=>?_) AllReadyH.nil);go_simp;refine (HON.out _).mono ?_;rintro e w' ⟨rfl,hw'⟩;subst hw';refine hK.out _ _ hHeld (fun hHeld=>?_);clear hK K
      rotate_left
      go_simp;refine (HON.out _).mono ?_;rintro e w' ⟨rfl,hw'⟩;subst hw';refine hK.out _ _ hHeld (fun hHeld=>?_);clear hK K;refine wpAnyH_ready (rs:=[1]) (by kernel_rfl) (by simp) ?_;refine (AllReadyH.cons rfl (fun K hK=>?_) AllReadyH.nil);go_simp;refine hK.out _ _ hHeld (fun hHeld=>?_);clear hK K
      all_goals
       refine wpAnyH_take (i:=5) (v:=.int i64 (A1:Int)) rfl (by kernel_rfl) (by kernel_rfl) (by kernel_rfl) (fun _ _ _ h=>h) (Or.inl ⟨by rfl,?_⟩) hHeld ?_
       ·intro V hV;obtain v0:=hV;go_simp
       try simp only[Act.put,AP]
       refine wpAnyH_take (i:=6) (v:=.pointer (some ⟨bm+1,6,none⟩)) rfl (by kernel_rfl) (by kernel_rfl) (by kernel_rfl) (fun _ _ _ h=>h) (Or.inl ⟨by rfl,?_⟩) hHeld ?_
       ·intro V hV;obtain v0:=hV;go_simp
       try simp only[Act.put,AP]
       refine wpAnyH_ready (rs:=[7]) (by kernel_rfl) (by simp) ?_;refine (AllReadyH.cons rfl (fun K hK=>?_) AllReadyH.nil);go_simp;refine hK.out _ _ ?_ (fun hHeld=>?_);exact (World.cell?_setCell_other _ _ _ _ (by have:=HNE.out;simp[this])).trans HSZ.out;clear hK K;refine wpAnyH_done (by kernel_rfl) ?_ _
       try simp only[Act.put,List.setIfInBounds_toArray,List.set_cons_zero,List.set_cons_succ,List.getElem_toArray,List.getElem_cons_zero,List.getElem_cons_succ]
       clear hq6 hf6 HSZ hHeld;go_wp2;go_roundw
       case rel=>exact⟨k+1,M2,by omega,by go_num,HFIN.out⟩
       case measure=>simp[intOf];omega
    obtain rfl:k=nd:=by omega
    have hall:D.take k=D:=by rw[←HND.out];exact List.take_length
    rw[hall] at HBK;obtain⟨t0,t1,t2,t3,t4,t5,t6,tf⟩:=HBK.out.t;obtain⟨z0,z1,z2,z3,z4,z5,z6,zf⟩:=(HNK.out wr HBK.out.b).2.2.2;have zf0:=zf 0;have zf1:=zf 1;have zf2:=zf 2;have zf3:=zf 3;have zf4:=zf 4;have zf5:=zf 5;have zf6:=zf 6;obtain⟨AL,hAL⟩:∃A,A=alS D:=⟨_,rfl⟩;rw[←hAL] at t6;have HAL:Hid (AL=alS D):=hAL;have HNE:Hid (w.heap.size+1+1≠bm+1):=by have:=HLW.out;show _≠_;omega
    have HBW:Hid (Below w.heap.size w wr):=by
     have h1:=HB1.out.trans (HB4.out.mono HB1.out.size);have h2:=HBM.out;exact h1.trans (HBK.out.b.mono (by have:=h1.size;omega))
    have HTK:Hid (TskOK (put7 wr (w.heap.size+1+1) (.int i64 S) (.slice ao n cap) (.slice ao2 n2 cap2) (.slice ao3 n3 cap3) (.slice a4 n4 c4) (.map (some bm)) (.int i64 (AL:Int))) (.slice ao n cap) (.slice ao2 n2 cap2) (.slice ao3 n3 cap3) (.slice a4 n4 c4) bm Ls Hs Ts ws D):=by
     have hb:=below_put7 HBW.out (w.heap.size+1+1) (by omega) (.int i64 S) (.slice ao n cap) (.slice ao2 n2 cap2) (.slice ao3 n3 cap3) (.slice a4 n4 c4) (.map (some bm)) (.int i64 (AL:Int));have hg:=HBK.out.g.grown (grown_put7 wr (w.heap.size+1+1) (.int i64 S) (.slice ao n cap) (.slice ao2 n2 cap2) (.slice ao3 n3 cap3) (.slice a4 n4 c4) (.map (some bm)) (.int i64 (AL:Int))) (fun b hb=>by
      cases hb;have h1:=HLW.out;refine⟨by omega,fun a e=>?_⟩;have:=((HBK.out.g.o a).lt _ e).1;omega)
     exact⟨(HN0.out _ hb).1,(HN0.out _ hb).2,M,hg.m,fun a=>(hg.o a).gs⟩
    clear hall tf zf hAL;go_wp2;refine bodyPost_ret (v:=.tuple #[.agg #[.int i64 S,.slice ao n cap,.slice ao2 n2 cap2,.slice ao3 n3 cap3,.slice a4 n4 c4,.map (some bm),.int i64 (AL:Int)],.nilIface]) (by simp[results,results20,go_sem, *]) rfl ⟨_,_,_,_,_,_,_,by rw[HE0.out,no_ok rfl],fun _=>⟨bm,rfl,rfl,rfl,rfl,rfl,rfl,by rw[HAL.out],HTK.out⟩,fun h=>absurd HE0.out h,below_put7 HBW.out (w.heap.size+1+1) (by omega) _ _ _ _ _ _ _⟩
  obtain⟨z0,z1,z2,z3,z4,z5,z6,zf⟩:=HTB.out w4 HB4.out;have zf0:=zf 0;have zf1:=zf 1;have zf2:=zf 2;have zf3:=zf 3;have zf4:=zf 4;have zf5:=zf 5;have zf6:=zf 6;have HE0:Hid (E≠0):=hE0;rw[no_ne hE0];have HBW:Hid (∀a0 a1 a2 a3 a4 a5 a6,Below w.heap.size w (put7 w4 (w.heap.size+1+1) a0 a1 a2 a3 a4 a5 a6)):=fun a0 a1 a2 a3 a4 a5 a6=>below_put7 (HB1.out.trans (HB4.out.mono HB1.out.size)) (w.heap.size+1+1) (by omega) _ _ _ _ _ _ _
  clear zf hE0;go_wp2;refine bodyPost_ret (v:=.tuple #[.agg #[.int i64 0,.slice none 0 0,.slice none 0 0,.slice none 0 0,.slice none 0 0,.map none,.int i64 0],.iface 68 (.int i64 E)]) (by simp[results,results20,go_sem, *]) rfl ⟨_,_,_,_,_,_,_,by rw[no_ne HE0.out],fun h=>absurd h HE0.out,fun _=>⟨rfl,rfl,rfl,rfl,rfl,rfl,rfl⟩,HBW.out _ _ _ _ _ _ _⟩
 have hEX:E=X:=HE.out.trans (if_neg hX0);obtain⟨z0,z1,z2,z3,z4,z5,z6,zf⟩:=HTB.out w2 HB2.out;have zf0:=zf 0;have zf1:=zf 1;have zf2:=zf 2;have zf3:=zf 3;have zf4:=zf 4;have zf5:=zf 5;have zf6:=zf 6;have HE0:Hid (E≠0):=by rw[hEX];exact hX0
 subst hEX;rw[no_ne hX0];have HBW:Hid (∀a0 a1 a2 a3 a4 a5 a6,Below w.heap.size w (put7 w2 (w.heap.size+1+1) a0 a1 a2 a3 a4 a5 a6)):=fun a0 a1 a2 a3 a4 a5 a6=>below_put7 (HB1.out.trans (HB2.out.mono HB1.out.size)) (w.heap.size+1+1) (by omega) _ _ _ _ _ _ _
 clear zf hX0;go_wp2;refine bodyPost_ret (v:=.tuple #[.agg #[.int i64 0,.slice none 0 0,.slice none 0 0,.slice none 0 0,.slice none 0 0,.map none,.int i64 0],.iface 68 (.int i64 E)]) (by simp[results,results20,go_sem, *]) rfl ⟨_,_,_,_,_,_,_,by rw[no_ne HE0.out],fun h=>absurd h HE0.out,fun _=>⟨rfl,rfl,rfl,rfl,rfl,rfl,rfl⟩,HBW.out _ _ _ _ _ _ _⟩
theorem GS.off {α:Type}{E:Enc α}{w:World}{x:SlT}{L:List α}(h:GS E w (slV x) L){b:Nat}(hb:w.heap.size≤b):offB x b:=by
 obtain⟨ao,n,cap⟩:=x
 rcases h with ⟨ao',cap',e,rfl⟩ | ⟨g,o,cap',e,h1,h2,h3⟩
 ·simp only[slV,Value.slice.injEq] at e;exact .inl e.2.1
 simp only[slV,Value.slice.injEq] at e;obtain⟨rfl,rfl,rfl⟩:=e;by_cases h0:L.length=0
 ·exact .inl h0
 refine .inr fun a ha=>?_
 cases ha;have hp:=E.pos;have hl:=E.len L[0];have hc:=h3 0 (by omega) 0 _ (List.getElem?_eq_getElem (by rw[hl];exact hp));have:=bLQ _ _ hc;show g≠b;have:g<w.heap.size:=this;omega
theorem GS.grown {α:Type}{E:Enc α}{w w':World}{x:SlT}{L:List α}{row:Option Nat}(h:GS E w (slV x) L)(hg:w.grownBy w' row)(ho:∀b,row=some b→offB x b):GS E w' (slV x) L:=by
 obtain⟨ao,n,cap⟩:=x
 rcases h with ⟨ao',cap',e,rfl⟩ | ⟨g,o,cap',e,h1,h2,h3⟩
 ·exact .inl ⟨ao',cap',e,rfl⟩
 simp only[slV,Value.slice.injEq] at e;obtain⟨rfl,rfl,rfl⟩:=e;by_cases h0:L.length=0
 ·exact .inl ⟨_,_,by rw[slV,h0],List.length_eq_zero_iff.1 h0⟩
 have hne:some g≠row:=by
  intro e
  rcases ho g e.symm with h4 | h4
  ·exact h0 h4
  exact h4 _ rfl rfl
 exact .inr ⟨g,o,cap,rfl,h1,h2,fun i hi j u hu=>hg.cell (h3 i hi j u hu) hne⟩
def RS (w:World)(v:Value)(Rs:List (List Op8)):Prop:=∃vs:List SlT,GS slE w v vs∧vs.length=Rs.length∧∀(i:Nat) (x:SlT) (L:List Op8),vs[i]?=some x→Rs[i]?=some L→GS opE w (slV x) L
theorem RS.later {w w':World}{v:Value}{Rs:List (List Op8)}(h:RS w v Rs)(hb:Below w.heap.size w w'):RS w' v Rs:=by
 obtain⟨vs,h1,h2,h3⟩:=h;exact⟨vs,h1.later hb,h2,fun i x L a b=>(h3 i x L a b).later hb⟩
theorem RS.nil (w:World):RS w (.slice none 0 0) []:=⟨[],GS.nil _,rfl,fun i x L h=>by simp at h⟩
theorem RS.at {w:World}{ao:AdQ}{n cap:Nat}{Rs:List (List Op8)}(h:RS w (.slice ao n cap) Rs){i:Nat}(hi:i<n):∃(g o:Nat) (L:List Op8) (a1:AdQ) (n1 c1:Nat),ao=some ⟨g,o,none⟩∧Rs[i]?=some L∧w.cell? ⟨g,o+i,none⟩=some (.slice a1 n1 c1)∧GS opE w (.slice a1 n1 c1) L:=by
 obtain⟨vs,h1,h2,h3⟩:=h;obtain⟨_,_,_,e,hn,_,_,ha⟩:=h1.form;cases e;obtain⟨g,o,rfl,hat,_⟩:=ha (by omega);have hv:i<vs.length:=by omega
 have hr:i<Rs.length:=by omega
 have hc:=hat i hv 0 _ rfl;have e2:o+i*slE.n+0=o+i:=by show o+i*1+0=o+i;omega
 rw[e2] at hc;exact⟨g,o,Rs[i],vs[i].1,vs[i].2.1,vs[i].2.2,rfl,List.getElem?_eq_getElem hr,hc,h3 i vs[i] Rs[i] (List.getElem?_eq_getElem hv) (List.getElem?_eq_getElem hr)⟩
theorem RS.len {w:World}{ao:AdQ}{n cap:Nat}{Rs:List (List Op8)}(h:RS w (.slice ao n cap) Rs):Rs.length=n:=by
 obtain⟨vs,h1,h2,_⟩:=h;obtain⟨_,_,_,e,hn,_⟩:=h1.form;cases e;omega
theorem RS.form {w:World}{v:Value}{Rs:List (List Op8)}(h:RS w v Rs):∃ao n cap,v=.slice ao n cap∧Rs.length=n∧n≤maxLen∧n≤cap:=by
 obtain⟨vs,h1,h2,_⟩:=h;obtain⟨ao,n,cap,e,hn,h3,h4,_⟩:=h1.form;exact⟨ao,n,cap,e,by omega,h3,h4⟩
structure OR (w:World)(B:Nat)(v:Value)(vs:List SlT)(Rs:List (List Op8)):Prop where
 ov:w.ownsRow B 48 slE.n v vs.length (cellsG slE vs)
 lv:vs.length=Rs.length
 rv:∀(i:Nat) (x:SlT) (L:List Op8),vs[i]?=some x→Rs[i]?=some L→GS opE w (slV x) L∧∀b,v.ownBlock=some b→offB x b
section
variable {w w':World}{B:Nat}{v:Value}{vs:List SlT}{Rs:List (List Op8)}
theorem or_nil (w:World)(B:Nat):OR w B (.slice none 0 0) [] []:=⟨World.ownsRow_nil w B _ slE.n,rfl,fun i x L h=>by simp at h⟩
theorem OR.later (h:OR w B v vs Rs)(hb:Below w.heap.size w w'):OR w' B v vs Rs:=
 ⟨h.ov.kept (grown_below hb) (none_or _),h.lv,fun i x L h1 h2=>⟨(h.rv i x L h1 h2).1.later hb,(h.rv i x L h1 h2).2⟩⟩
theorem OR.rs (h:OR w B v vs Rs):RS w v Rs:=⟨vs,own_GS h.ov,h.lv,fun i x L a b=>(h.rv i x L a b).1⟩
theorem OR.push (h:OR w B v vs Rs){x:SlT}{L:List Op8}(hx:GS opE w (slV x) L){v':Value}(hox:∀b,v.ownBlock=some b→offB x b)
 (hg:w.grownBy w' v.ownBlock) (ho:w'.ownsRow B 48 slE.n v' (vs++[x]).length (cellsG slE (vs++[x]))) (hb:v'.ownBlock=v.ownBlock∨v'.ownBlock=some w.heap.size):OR w' B v' (vs++[x]) (Rs++[L]):=by
 have one:∀{y:SlT} {M:List Op8},GS opE w (slV y) M→(∀b,v.ownBlock=some b→offB y b)→GS opE w' (slV y) M∧∀b,v'.ownBlock=some b→offB y b:=by
  intro y M h1 h2;refine⟨h1.grown hg h2,fun b hv=>?_⟩
  rcases hb with hb | hb
  ·exact h2 b (by rw[←hb];exact hv)
  rw[hb] at hv;cases hv;exact h1.off (nLQ _)
 refine⟨ho,by simp[h.lv],fun i y M h1 h2=>?_⟩;by_cases hi:i<vs.length
 ·rw[List.getElem?_append_left hi] at h1;rw[List.getElem?_append_left (by rw[←h.lv];exact hi)] at h2;obtain⟨a1,a2⟩:=h.rv i y M h1 h2;exact one a1 a2
 have hi2:i=vs.length:=by
  have:=(List.getElem?_eq_some_iff.1 h1).1;simp at this;omega
 subst hi2;simp at h1;rw[h.lv] at h2;simp at h2;subst h1 h2;exact one hx hox
theorem NO.sl2 {w:World}{B:Nat}{v:Value}{L:List Op8}(h:NO w B v L):∃x:SlT,v=slV x∧∀b,b<B→offB x b:=by
 rcases h.2 with ⟨h3,_⟩ | ⟨g,cap,cur,h3,hb,_⟩
 ·exact⟨(none,0,0),h3,fun b _=>.inl rfl⟩
 refine⟨(some ⟨g,0,none⟩,L.length,cap),h3,fun b hlt=>.inr fun a ha=>?_⟩;cases ha;show g≠b;omega
end
theorem rd_info:(Tryz.prog.info? 48).map (fun i=>(i.zero,i.size,i.bytes))=some (some (.slice none 0 0),1,24):=by kernel_rfl
def rsN (o:Option (List Nat)):Int:=if o.isNone then 9 else 0
def rsL (D:List Op8)(o:Option (List Nat)):List (List Op8):=(o.getD []).map (rnL D)
section
variable {S:Int}{Ls:List LkT}{Hs:List HoT}{Ts:TsQ}{S':Int}{Ls':List LkT}{Hs':List HoT}{Ts':TsQ}{ws:List Wi}
theorem tw_any (h:nwN S Ls Hs Ts S' Ls' Hs' Ts'=0)(hl:Ts.length=Ts'.length)(j:Nat):twN (Ts.getD j []) (Ts'.getD j [])=0:=by
 by_cases hj:j<Ts.length
 ·exact nw_tw h j hj (by omega)
 have e1:Ts.getD j []=[]:=by simp[List.getD,List.getElem?_eq_none (show Ts.length≤j by omega)]
 have e2:Ts'.getD j []=[]:=by simp[List.getD,List.getElem?_eq_none (show Ts'.length≤j by omega)]
 rw[e1,e2];rfl
theorem pd_ok (h:pdN S Ls Hs Ts S' Ls' Hs' Ts' ws=0):PlOK S Ls Hs Ts Ts' ws (pdL S Ls Hs Ts S' Ls' Hs' Ts' ws)∧nwN S Ls Hs Ts S' Ls' Hs' Ts'=0∧tpB S S' Ls Ls' Hs Hs'=true∧Ts.length=Ts'.length:=by
 have h1:=h;unfold pdN at h1;by_cases hd:diN S Ls Hs Ts S' Ls' Hs' Ts'=0
 ·rw[if_pos hd] at h1;have hd2:=hd;unfold diN at hd2;by_cases hn:nwN S Ls Hs Ts S' Ls' Hs' Ts'=0
  ·rw[if_pos hn] at hd2;by_cases ht:tpB S S' Ls Ls' Hs Hs'=true
   ·have hl:Ts.length=Ts'.length:=by
     have a:=(nt_0 (nw_two hn).1).2.1;have b:=(nt_0 (nw_two hn).2).2.1;have c:=(tpB_iff.1 ht).1;omega
    refine⟨⟨(nw_two hn).1,tw_any hn hl,h1,?_⟩,hn,ht,hl⟩;unfold pdL;rw[if_pos h];unfold diL;rw[if_pos hd]
   rw[if_neg ht] at hd2;cases hd2
  rw[if_neg hn] at hd2;exact absurd hd2 hn
 rw[if_neg hd] at h1;exact absurd h1 hd
theorem pd_few:(∀o∈pdL S Ls Hs Ts S' Ls' Hs' Ts' ws,1≤o.w∧o.w≤6)∧(pdL S Ls Hs Ts S' Ls' Hs' Ts' ws).length≤1000:=by
 by_cases h:pdN S Ls Hs Ts S' Ls' Hs' Ts' ws=0
 ·have k:=(pd_ok h).1;exact⟨k.w,by have:=k.few;omega⟩
 unfold pdL;rw[if_neg h];exact⟨(fun o ho=>absurd ho (by simp)),by simp⟩
theorem pb_pd (h:pbN S Ls Hs Ts S' Ls' Hs' Ts' ws=0):pdN S Ls Hs Ts S' Ls' Hs' Ts' ws=0∧wiN S Ls Hs Ts ws=0:=by
 unfold pbN at h;by_cases hd:pdN S Ls Hs Ts S' Ls' Hs' Ts' ws=0
 ·rw[if_pos hd] at h;exact⟨hd,h⟩
 rw[if_neg hd] at h;exact absurd h hd
end
def mfN (S:Int)(Ls:List LkT)(Hs:List HoT)(Ts:TsQ)(o:List Op8)(l:List Wi):Int:=
 if cgN S Ls Hs Ts o=0 then (if (bsW Ls Hs Ts (caT Ts o) l Hs l.length).isNone then 0 else 9) else cgN S Ls Hs Ts o
section
variable (S:Int)(Ls:List LkT)(Hs:List HoT)(Ts:TsQ)(S':Int)(Ls':List LkT)(Hs':List HoT)(Ts':TsQ)(ws:List Wi)(l:List (List Op8))
end
section
variable {S:Int}{Ls:List LkT}{Hs:List HoT}{Ts:TsQ}{S':Int}{Ls':List LkT}{Hs':List HoT}{Ts':TsQ}{ws:List Wi}{l:List (List Op8)}
end
section
variable {sf:Nat→Nat→Bool}{all:Nat}
end
section
variable {S:Int}{Ls:List LkT}{Hs:List HoT}{As Bs:TsQ}{S':Int}{Ls':List LkT}{Hs':List HoT}{ws:List Wi}{D:List Op8}
def leO (Ls:List LkT)(Hs:List HoT)(As Bs:TsQ)(ws:List Wi)(D:List Op8):Option (List Nat):=roA (alS D) (fun done=>(shC (sfB Ls Hs As Bs ws) (alS D) done).2) 0
def leN (S:Int)(Ls:List LkT)(Hs:List HoT)(Ts:TsQ)(S':Int)(Ls':List LkT)(Hs':List HoT)(Ts':TsQ)(ws:List Wi):Int:=if pbN S Ls Hs Ts S' Ls' Hs' Ts' ws=0 then rsN (leO Ls Hs Ts Ts' ws (pdL S Ls Hs Ts S' Ls' Hs' Ts' ws)) else pbN S Ls Hs Ts S' Ls' Hs' Ts' ws
def leL (S:Int)(Ls:List LkT)(Hs:List HoT)(Ts:TsQ)(S':Int)(Ls':List LkT)(Hs':List HoT)(Ts':TsQ)(ws:List Wi):List (List Op8):=if pbN S Ls Hs Ts S' Ls' Hs' Ts' ws=0 then rsL (pdL S Ls Hs Ts S' Ls' Hs' Ts' ws) (leO Ls Hs Ts Ts' ws (pdL S Ls Hs Ts S' Ls' Hs' Ts' ws)) else []
end
end
section
open Go.RowKit Go.Shelf
theorem kb_grown {bk:Nat}{W W':World}(h:Kb (fun x=>x≠bk) W W'):W.grownBy W' (some bk):=⟨h.os,h.tape,h.output,h.size,fun k hk hne=>h.block k hk (fun e=>hne (by rw[e]))⟩
theorem GS.offm {α:Type}{E:Enc α}{w:World}{x:SlT}{L:List α}(h:GS E w (slV x) L){b:Nat}{es:Array MapEntry}{cl:Nat}(hb:w.heap[b]?=some (.map es cl)):offB x b:=by
 obtain⟨ao,n,cap⟩:=x
 rcases h with ⟨ao',cap',e,rfl⟩ | ⟨g,o,cap',e,h1,h2,h3⟩
 ·simp only[slV,Value.slice.injEq] at e;exact .inl e.2.1
 simp only[slV,Value.slice.injEq] at e;obtain⟨rfl,rfl,rfl⟩:=e;by_cases h0:L.length=0
 ·exact .inl h0
 refine .inr fun a ha=>?_
 cases ha;have hp:=E.pos;have hl:=E.len L[0];have hc:=h3 0 (by omega) 0 _ (List.getElem?_eq_getElem (by rw[hl];exact hp));show g≠b;intro e;subst e;simp[World.cell?,hb] at hc
theorem OR.map {w w':World}{B bk:Nat}{v:Value}{vs:List SlT}{Rs:List (List Op8)}(h:OR w B v vs Rs)(hk:Kb (fun x=>x≠bk) w w')(hbk:bk<B){es:Array MapEntry}{cl:Nat}(hm:w.heap[bk]?=some (.map es cl)):OR w' B v vs Rs:=
 ⟨own_kb h.ov hk (fun g e=>by have:=(h.ov.lt g e).1;show g≠bk;omega),h.lv,fun i x L h1 h2=>⟨(h.rv i x L h1 h2).1.grown (kb_grown hk) (fun b e=>by cases e;exact (h.rv i x L h1 h2).1.offm hm),(h.rv i x L h1 h2).2⟩⟩
section
variable {w0:World}{bk:Nat}{S:Int}{v1 v2 v3 v4:Value}{bm all:Nat}{Ls:List LkT}{Hs:List HoT}{As Bs:TsQ}{ws:List Wi}{D:List Op8}
theorem short_any (hT:TskOK w0 v1 v2 v3 v4 bm Ls Hs As ws D)(hP:PlOK S Ls Hs As Bs ws D)(ha:all<64)(h0:w0.heap.size≤bk):∀(n done:Nat),DnOK all done→lfN all done≤n→∀W,Below w0.heap.size w0 W→KN (sfB Ls Hs As Bs ws) all bk W →
 Calls prog 41 #[.agg #[.int i64 S,v1,v2,v3,v4,.map (some bm),.int i64 (all:Int)],.int i64 (done:Int),.map (some bk)] W fun e W'=>e=.returned (crV (shC (sfB Ls Hs As Bs ws) all done))∧KN (sfB Ls Hs As Bs ws) all bk W'∧Kb (fun x=>x≠bk) W W'
 | 0,done,hd,hn,W,hW,hK=>short_step hT hP ha h0 done hd (fun d _ hl=>absurd hl (by omega)) W hW hK
 | n+1,done,hd,hn,W,hW,hK=>short_step hT hP ha h0 done hd (fun d hd' hl W' hW' hK'=>short_any hT hP ha h0 n d hd' (by omega) W' hW' hK') W hW hK
structure LeC (bk gt gk:Nat)(S:Int)(v1 v2 v3 v4 v5:Value)(all:Nat)(W:World):Prop where
 tk:TkB W gt S v1 v2 v3 v4 v5 (all:Int)
 kc:W.cell? ⟨gk,0,none⟩=some (.map (some bk))
 g1:gt≠bk
 g2:gk≠bk
theorem LeC.kb {bk gt gk:Nat}{S:Int}{v1 v2 v3 v4 v5:Value}{all:Nat}{W W':World}(h:LeC bk gt gk S v1 v2 v3 v4 v5 all W)(hk:Kb (fun x=>x≠bk) W W'):LeC bk gt gk S v1 v2 v3 v4 v5 all W':=
 ⟨h.tk.kb hk h.g1,hk.at h.kc h.g2,h.g1,h.g2⟩
theorem least1_any (hT:TskOK w0 v1 v2 v3 v4 bm Ls Hs As ws D)(hP:PlOK S Ls Hs As Bs ws D)(ha:all<64)(h0:w0.heap.size≤bk){gt gk done:Nat}(hd:DnOK all done){W:World}(hL:LeC bk gt gk S v1 v2 v3 v4 (.map (some bm)) all W)(hW:Below w0.heap.size w0 W)(hK:KN (sfB Ls Hs As Bs ws) all bk W):
 Calls prog 40 #[.int i64 (done:Int),.pointer (some ⟨gt,0,none⟩),.pointer (some ⟨gk,0,none⟩)] W fun e W'=>e=.returned (.int i64 ((shC (sfB Ls Hs As Bs ws) all done).2:Int))∧KN (sfB Ls Hs As Bs ws) all bk W'∧Kb (fun x=>x≠bk) W W':=by
 obtain⟨ao,n,cap,ao2,n2,cap2,ao3,n3,cap3,rfl,rfl,rfl⟩:=hT.n.form;obtain⟨a4,n4,c4,rfl,_⟩:=hT.w.form;have HS:Hid (Calls prog 41 #[.agg #[.int i64 S,.slice ao n cap,.slice ao2 n2 cap2,.slice ao3 n3 cap3,.slice a4 n4 c4,.map (some bm),.int i64 (all:Int)],.int i64 (done:Int),.map (some bk)] W fun e W'=>e=.returned (crV (shC (sfB Ls Hs As Bs ws) all done))∧KN (sfB Ls Hs As Bs ws) all bk W'∧Kb (fun x=>x≠bk) W W'):=short_any hT hP ha h0 6 done hd (lf_le _ _) W hW hK;obtain⟨r1,r2,hr⟩:∃r1 r2,shC (sfB Ls Hs As Bs ws) all done=(r1,r2):=⟨_,_,rfl⟩;rw[hr] at HS ⊢;obtain⟨⟨x0,x1,x2,x3,x4,x5,x6,_⟩,x7,_,_⟩:=hL
 generalize sfB Ls Hs As Bs ws=sf at *
 clear hT hP hW hK hr hd
 dsimp only
 go_enter func40,ntmps40
 go_wp2_with fail
 refine HS.out.mono ?_;rintro e W' ⟨rfl,h1,h2⟩;unfold crV
 dsimp only
 have HK:Hid (KN sf all bk W'∧Kb (fun x=>x≠bk) W W'):=⟨h1,h2⟩;have hfd:∀w,(Instr.field 112 (.agg #[.int i64 (r1:Int),.int i64 (r2:Int)]) 1).run prog w=.ok (.int i64 (r2:Int)) w:=fun w=>by kernel_rfl
 clear h1 h2 x0 x1 x2 x3 x4 x5 x6 x7;go_wp2;go_ret;exact⟨rfl,HK.out⟩
theorem rounds_least (hT:TskOK w0 v1 v2 v3 v4 bm Ls Hs As ws D)(hP:PlOK S Ls Hs As Bs ws D)(ha:all<64)(h0:w0.heap.size≤bk){gt gk:Nat}(w:World)(hL:LeC bk gt gk S v1 v2 v3 v4 (.map (some bm)) all w)(hW:Below w0.heap.size w0 w)(hK:KN (sfB Ls Hs As Bs ws) all bk w):
 Calls prog 21 #[.agg #[.int i64 S,v1,v2,v3,v4,.map (some bm),.int i64 (all:Int)],.func (Fn.func 40) #[] #[.pointer (some ⟨gt,0,none⟩),.pointer (some ⟨gk,0,none⟩)]] w fun e w'=>∃v,e=.returned (.tuple #[v,noV (rsN (roA all (fun done=>(shC (sfB Ls Hs As Bs ws) all done).2) 0))])∧RS w' v (rsL D (roA all (fun done=>(shC (sfB Ls Hs As Bs ws) all done).2) 0))∧Kb (fun x=>x≠bk) w w':=by
 obtain⟨ao,n,cap,ao2,n2,cap2,ao3,n3,cap3,rfl,rfl,rfl⟩:=hT.n.form;obtain⟨a4,n4,c4,rfl,_⟩:=hT.w.form;have hbk:bk<w.heap.size:=hK.lt;obtain⟨w1,hw1⟩:∃W,W=w.alloc (.cells #[.int i64 S,.slice ao n cap,.slice ao2 n2 cap2,.slice ao3 n3 cap3,.slice a4 n4 c4,.map (some bm),.int i64 (all:Int)] 63):=⟨_,rfl⟩;have hb1:Below w.heap.size w w1:=by rw[hw1];exact (bRQ _ _).alloc (nLQ _) _
 have hk1:Kb (fun x=>x≠bk) w w1:=Kb.of_below hb1 fun _ h _=>h
 have hbx:TkB w1 w.heap.size S (.slice ao n cap) (.slice ao2 n2 cap2) (.slice ao3 n3 cap3) (.slice a4 n4 c4) (.map (some bm)) (all:Int):=by rw[hw1];exact tkb_new w S _ _ _ _ _ _ 63
 have HW1:Hid (w1=w.alloc (.cells #[.int i64 S,.slice ao n cap,.slice ao2 n2 cap2,.slice ao3 n3 cap3,.slice a4 n4 c4,.map (some bm),.int i64 (all:Int)] 63)):=hw1;have HK1:Hid (Kb (fun x=>x≠bk) w w1∧bk<w.heap.size∧bk<w1.heap.size):=⟨hk1,hbk,Nat.lt_of_lt_of_le hbk hk1.size⟩;have HB0:Hid (∀W,Kb (fun x=>x≠bk) w1 W→Below w0.heap.size w0 W):=fun W h=>hW.trans ((hk1.trans h).below hW.size fun b hb=>by show b≠bk;omega)
 have HTK:Hid (∀W,Kb (fun x=>x≠bk) w1 W→TskOK W (.slice ao n cap) (.slice ao2 n2 cap2) (.slice ao3 n3 cap3) (.slice a4 n4 c4) bm Ls Hs As ws D):=fun W h=>hT.later (HB0.out W h)
 have HBX:Hid (∀W,Kb (fun x=>x≠bk) w1 W→TkB W w.heap.size S (.slice ao n cap) (.slice ao2 n2 cap2) (.slice ao3 n3 cap3) (.slice a4 n4 c4) (.map (some bm)) (all:Int)):=fun W h=>hbx.kb h (show _≠_ by omega)
 have HKN1:Hid (KN (sfB Ls Hs As Bs ws) all bk w1):=hK.kb (p:=fun _=>True) (Kb.of_below hb1 fun _ h _=>h) trivial;have HFEW:Hid (D.length≤144):=hP.few;obtain⟨nx,hnx⟩:∃f:Nat→Nat,f=fun done=>(shC (sfB Ls Hs As Bs ws) all done).2:=⟨_,rfl⟩
 have HOK:Hid (NxOK all nx):=by show NxOK all nx;rw[hnx];exact nx_sh
 have HFC:Hid (∀W (done:Nat),done<64→(∀a,1≤a→a≤6→inS done a=true→inS all a=true)→Kb (fun x=>x≠bk) w1 W→KN (sfB Ls Hs As Bs ws) all bk W→Calls prog 40 #[.int i64 (done:Int),.pointer (some ⟨gt,0,none⟩),.pointer (some ⟨gk,0,none⟩)] W fun e w'=>e=.returned (.int i64 (nx done:Int))∧KN (sfB Ls Hs As Bs ws) all bk w'∧Kb (fun x=>x≠bk) W w'):=fun W done hd hs hW' hK'=>by
  rw[hnx];exact least1_any hT hP ha h0 ⟨hd,hs⟩ (hL.kb (hk1.trans hW')) (HB0.out W hW') hK'
 generalize sfB Ls Hs As Bs ws=sf at *
 rw[←hnx];obtain⟨RO,hRO⟩:∃R,R=roA all nx 0:=⟨_,rfl⟩;have HRO:Hid (roA all nx 0=RO):=hRO.symm;rw[←hRO];have HA:Hid (all<64):=ha;obtain⟨i0,hi,hz0,hz1,hz2⟩:=info_parts rd_info;have HI:Hid (Tryz.prog.info? 48=some i0∧i0.zero=some (.slice none 0 0)∧i0.size=slE.n∧i0.bytes=24):=⟨hi,hz0,hz1,hz2⟩;clear hT hb1 hbx hw1 hP ha hnx hRO hi hz0 hz1 hz2 hk1 hbk hL hW hK h0;go_enter func21,ntmps21;go_wp2;rw[←HW1.out]
 go_loopw [6,7] (fun v i wr=>∃(done:Nat) (L:List Nat) (vs:List SlT),done<64∧(∀a,1≤a→a≤6→inS done a=true→inS all a=true)∧L.length+lfN all done≤6∧RO=(roA all nx done).map (L++·)∧i=.int i64 (done:Int)∧OR wr w1.heap.size v vs (L.map (rnL D))∧Kb (fun x=>x≠bk) w1 wr∧KN sf all bk wr) (fun _ i _=>lfN all (intOf i).toNat)
 case atStart=>exact⟨0,[],[],by omega,(fun a _ _ h=>absurd h (by rw[in_0];decide)),(by have:=lf_le all 0;simpa using this),by rw[←HRO.out];simp,rfl,or_nil _ _,Kb.refl _ _,HKN1.out⟩
 case round =>
  obtain⟨done,L,vs,hd,hsub,hlen,hro,rfl,hOR,hB,hKN⟩:=hrel;obtain⟨wi,hwi⟩:∃X,X=wr:=⟨_,rfl⟩;subst hwi;have HB:Hid (Kb (fun x=>x≠bk) w1 wi):=hB;have HKN:Hid (KN sf all bk wi):=hKN;have HOR:Hid (OR wi w1.heap.size u6 vs (L.map (rnL D))):=hOR;have HSUB:Hid (∀a,1≤a→a≤6→inS done a=true→inS all a=true):=hsub;have HLEN:Hid (L.length+lfN all done≤6):=hlen;have HRL:Hid (RO=(roA all nx done).map (L++·)):=hro;have HD:Hid (done<64):=hd;have c6:=(HBX.out wi hB).c6;clear hB hOR hsub hlen hro hd hKN;by_cases hda:done=all
  ·have hq:((done:Int)==(all:Int))=true:=by rw[hda];simp
   have HBW:Hid (Kb (fun x=>x≠bk) w wi):=HK1.out.1.trans HB.out;have HRE:Hid (RO=some L):=by
    have h:=HRL.out;rw[hda,ro_end] at h;show RO=some L;simpa using h
   clear hda;go_wp2;refine bodyPost_ret (v:=.tuple #[u6,.nilIface]) (by simp[results,results21,go_sem, *]) rfl ⟨u6,by rw[HRE.out];rfl,by rw[HRE.out];exact HOR.out.rs,HBW.out⟩
  have hq:((done:Int)==(all:Int))=false:=by rw[beq_eq_false_iff_ne];omega
  have HNE:Hid (done≠all):=hda;clear hda
  go_wp2_with fail
  refine (HFC.out wi done HD.out HSUB.out HB.out HKN.out).mono ?_;rintro e w2 ⟨rfl,hkn2,hk2⟩;obtain⟨s,hs⟩:∃s,s=nx done:=⟨_,rfl⟩;rw[←hs];have HS:Hid (nx done=s):=hs.symm;have HS64:Hid (s<64):=by show _<_;rw[hs];exact (HOK.out done).1
  have HB12:Hid (Kb (fun x=>x≠bk) w1 w2):=HB.out.trans hk2;have HKN2:Hid (KN sf all bk w2):=hkn2;have HOR2:Hid (OR w2 w1.heap.size u6 vs (L.map (rnL D))):=by
   obtain⟨M,⟨es,cl,h1,_⟩,_⟩:=HKN.out;exact HOR.out.map hk2 HK1.out.2.2 h1
  clear hk2 hkn2 hs c6;by_cases h0:s=0
  ·have HRE:Hid (RO=none):=by
    have h:=HRL.out;rw[ro_none HNE.out (HS.out.trans h0)] at h;exact h
   have HBW:Hid (Kb (fun x=>x≠bk) w w2):=HK1.out.1.trans HB12.out;subst h0;go_wp2;refine bodyPost_ret (v:=.tuple #[.slice none 0 0,.iface 68 (.int i64 9)]) (by simp[results,results21,go_sem, *]) rfl ⟨.slice none 0 0,by rw[HRE.out];rfl,by rw[HRE.out];exact RS.nil _,HBW.out⟩
  have hq0:((s:Int)==0)=false:=by rw[beq_eq_false_iff_ne];omega
  have HN0:Hid (s≠0):=h0;have HRD:Hid (Calls prog 44 #[.agg #[.int i64 S,.slice ao n cap,.slice ao2 n2 cap2,.slice ao3 n3 cap3,.slice a4 n4 c4,.map (some bm),.int i64 (all:Int)],.int i64 (s:Int)] w2 fun e w'=>∃v,e=.returned v∧NO w' w2.heap.size v (rnL D s)∧Below w2.heap.size w2 w'):=pround_any S _ _ _ _ bm (all:Int) s Ls Hs As ws D w2 (HTK.out w2 HB12.out) HS64.out (by have:=HFEW.out;omega);obtain⟨x0,x1,x2,x3,x4,x5,x6,_⟩:=HBX.out w2 HB12.out;clear h0
  go_wp2_with fail
  refine HRD.out.mono ?_;rintro e w3 ⟨v,rfl,hNO,hb3⟩;obtain⟨⟨a5,n5,c5⟩,hv,hoff⟩:=hNO.sl2
  replace hv:v=.slice a5 n5 c5:=hv
  subst hv;have hal:Below w3.heap.size w3 (w3.alloc (.cells #[.slice a5 n5 c5] 48)):=(bRQ _ _).alloc (nLQ _) _;have h2a:Below w2.heap.size w2 (w3.alloc (.cells #[.slice a5 n5 c5] 48)):=hb3.trans (hal.mono hb3.size);have HB4:Hid (Kb (fun x=>x≠bk) w1 (w3.alloc (.cells #[.slice a5 n5 c5] 48))):=HB12.out.trans (Kb.of_below h2a fun _ h _=>h);have HKN4:Hid (KN sf all bk (w3.alloc (.cells #[.slice a5 n5 c5] 48))):=HKN2.out.kb (p:=fun _=>True) (Kb.of_below h2a fun _ h _=>h) trivial;have HOR4:Hid (OR (w3.alloc (.cells #[.slice a5 n5 c5] 48)) w1.heap.size u6 vs (L.map (rnL D))):=HOR2.out.later h2a;have HGX:Hid (GS opE (w3.alloc (.cells #[.slice a5 n5 c5] 48)) (slV (a5,n5,c5)) (rnL D s)):=(hNO.later hal).gs;have HOX:Hid (∀b,u6.ownBlock=some b→offB (a5,n5,c5) b):=fun b hb=>hoff b (HOR2.out.ov.lt b hb).2
  have HVA:Hid (VAt (w3.alloc (.cells #[.slice a5 n5 c5] 48)) w3.heap.size 0 (slE.c (a5,n5,c5))):=vat_new w3 [.slice a5 n5 c5] 48;have HV6:Hid (vs.length≤6):=by
   have h1:=HOR.out.lv;have h2:=HLEN.out;rw[List.length_map] at h1;show _≤_;omega
  have HL1:Hid (vs.length+1≤maxLen):=by have:=HV6.out;show _≤_;unfold maxLen;omega
  have HL2:Hid ((vs.length+1)*24≤140737488355328):=by have:=HV6.out;show _≤_;omega
  clear hNO hb3 hoff hal h2a x0 x1 x2 x3 x4 x5 x6
  go_wp2_with (at_builtin;refine wpList_append_blk (E:=slE) _ rfl _ _ 30 48 rfl underlying30 i0 (.slice none 0 0) 24 HI.out.1 HI.out.2.1 HI.out.2.2.1 HI.out.2.2.2 rfl w1.heap.size u6 rfl vs HOR4.out.ov w3.heap.size 0 1 rfl (a5,n5,c5) HVA.out HL1.out HL2.out HB4.out.size ?_)
  intro v5 w5 ho5 hg5 hl5;have HOR5:Hid (OR w5 w1.heap.size v5 (vs++[(a5,n5,c5)]) ((L++[s]).map (rnL D))):=by
   rw[List.map_append];exact HOR4.out.push HGX.out HOX.out hg5 (by rw[List.length_append];exact ho5) (by simpa using hl5)
  have HKG:Hid (∀p:Nat→Prop,(∀b,u6.ownBlock=some b→¬p b)→Kb p (w3.alloc (.cells #[.slice a5 n5 c5] 48)) w5):=fun p hp=>(Kb.refl _ _).grown hg5 fun r e _=>hp r e
  have hrow:∀b,u6.ownBlock=some b→w1.heap.size≤b:=fun b hb=>(HOR2.out.ov.lt b hb).1
  have HB5:Hid (Kb (fun x=>x≠bk) w1 w5):=by
   have h2:=HKG.out (fun x=>x<w1.heap.size) fun b e hx=>by have:=hrow b e;omega
   have h4:=HB4.out;exact⟨h2.os.trans h4.os,h2.tape.trans h4.tape,h2.output.trans h4.output,Nat.le_trans h4.size h2.size,fun k hk hx=>(h2.block k (Nat.lt_of_lt_of_le hk h4.size) hk).trans (h4.block k hk hx)⟩
  have HKN5:Hid (KN sf all bk w5):=HKN4.out.kb (HKG.out (fun x=>x=bk) fun b e hx=>by have:=hrow b e;have:=HK1.out.2.2;omega) rfl;obtain⟨X,hX⟩:∃X,X=done ||| s:=⟨_,rfl⟩
  have hor:bits .or .i64 (done:Int) (s:Int)=(X:Int):=by rw[hX];exact bits_or HD.out HS64.out
  have HX:Hid (X=done ||| s):=hX;clear ho5 hg5 hl5 hX hrow;go_wp2;go_roundw
  case rel =>
   have hin:∀a,1≤a→a≤6→inS s a=true→inS (mnS all done) a=true:=fun a h1 h2 h3=>(HOK.out done).2 a h1 h2 (by rw[HS.out];exact h3)
   have hless:=lf_less (all:=all) (done:=done) HS64.out HN0.out hin;refine⟨X,L++[s],vs++[(a5,n5,c5)],by rw[HX.out];exact or_lt HD.out HS64.out,fun a h1 h2 h3=>?_,?_,?_,rfl,HOR5.out,HB5.out,HKN5.out⟩
   ·rw[HX.out,in_or,Bool.or_eq_true] at h3
    rcases h3 with h3 | h3
    ·exact HSUB.out a h1 h2 h3
    have h4:=hin a h1 h2 h3;rw[in_mn h1 h2] at h4;simp only[Bool.and_eq_true] at h4;exact h4.1
   ·have:=HLEN.out;rw[List.length_append,HX.out];simp only[List.length_cons,List.length_nil];omega
   rw[HRL.out,ro_step HOK.out HA.out HD.out HSUB.out HNE.out (by rw[HS.out];exact HN0.out),HS.out,HX.out,Option.map_map]
   congr 1
   funext l
   simp
  case measure =>
   have hin:∀a,1≤a→a≤6→inS s a=true→inS (mnS all done) a=true:=fun a h1 h2 h3=>(HOK.out done).2 a h1 h2 (by rw[HS.out];exact h3)
   have hless:=lf_less (all:=all) (done:=done) HS64.out HN0.out hin;simp only[intOf,Int.toNat_natCast];rw[HX.out];exact hless
end
theorem kn_new (sf:Nat→Nat→Bool)(all:Nat)(W:World):KN sf all W.heap.size (W.alloc (.map #[] 0)):=⟨[],mat_new setKey crV W,fun d _ c hc=>by cases hc⟩
theorem least_any (S:Int)(v1 v2 v3:Value)(S':Int)(u1 u2 u3 v4:Value)(Ls:List LkT)(Hs:List HoT)(Ts:TsQ)(Ls':List LkT)(Hs':List HoT)(Ts':TsQ)(ws:List Wi)(w:World)
 (hN:NI w v1 v2 v3 Ls Hs Ts) (hM:NI w u1 u2 u3 Ls' Hs' Ts') (hw:GS wisE w v4 ws):
 Calls prog 17 #[.agg #[.int i64 S,v1,v2,v3],.agg #[.int i64 S',u1,u2,u3],v4] w fun e w'=>∃v,e=.returned (.tuple #[v,noV (leN S Ls Hs Ts S' Ls' Hs' Ts' ws)])∧RS w' v (leL S Ls Hs Ts S' Ls' Hs' Ts' ws)∧Below w.heap.size w w':=by
 obtain⟨ao,n,cap,ao2,n2,cap2,ao3,n3,cap3,rfl,rfl,rfl⟩:=hN.form;obtain⟨bo,m,dap,bo2,m2,dap2,bo3,m3,dap3,rfl,rfl,rfl⟩:=hM.form;obtain⟨a4,n4,c4,rfl,_⟩:=hw.form;obtain⟨w1,hw1⟩:∃W,W=(w.alloc (.cells #[.int i64 S,.slice ao n cap,.slice ao2 n2 cap2,.slice ao3 n3 cap3] 28)).alloc (.cells #[.int i64 S',.slice bo m dap,.slice bo2 m2 dap2,.slice bo3 m3 dap3] 28):=⟨_,rfl⟩;have hb1:Below w.heap.size w w1:=by rw[hw1];exact ((bRQ _ _).alloc (nLQ _) _).alloc (by simp) _
 have hnn:NN w1 w.heap.size S (.slice ao n cap) (.slice ao2 n2 cap2) (.slice ao3 n3 cap3) S' (.slice bo m dap) (.slice bo2 m2 dap2) (.slice bo3 m3 dap3):=by rw[hw1];exact nn_new w S _ _ _ S' _ _ _ 28
 have HNW:Hid (NI w1 (.slice ao n cap) (.slice ao2 n2 cap2) (.slice ao3 n3 cap3) Ls Hs Ts∧NI w1 (.slice bo m dap) (.slice bo2 m2 dap2) (.slice bo3 m3 dap3) Ls' Hs' Ts'∧GS wisE w1 (.slice a4 n4 c4) ws):=⟨hN.later hb1,hM.later hb1,hw.later hb1⟩;have HB1:Hid (Below w.heap.size w w1):=hb1;have HW1:Hid ((w.alloc (.cells #[.int i64 S,.slice ao n cap,.slice ao2 n2 cap2,.slice ao3 n3 cap3] 28)).alloc (.cells #[.int i64 S',.slice bo m dap,.slice bo2 m2 dap2,.slice bo3 m3 dap3] 28)=w1):=hw1.symm;obtain⟨D,hD⟩:∃D,D=pdL S Ls Hs Ts S' Ls' Hs' Ts' ws:=⟨_,rfl⟩;obtain⟨X,hX⟩:∃q,q=pbN S Ls Hs Ts S' Ls' Hs' Ts' ws:=⟨_,rfl⟩;have HPK:Hid (X=0→PlOK S Ls Hs Ts Ts' ws D):=fun h=>by
  rw[hD];exact (pd_ok (pb_pd (hX.symm.trans h)).1).1
 obtain⟨N,hNN⟩:∃q,q=leN S Ls Hs Ts S' Ls' Hs' Ts' ws:=⟨_,rfl⟩;have HN:Hid (N=if X=0 then rsN (leO Ls Hs Ts Ts' ws D) else X):=by rw[hNN,hX,hD];exact rfl
 obtain⟨L,hL⟩:∃q,q=leL S Ls Hs Ts S' Ls' Hs' Ts' ws:=⟨_,rfl⟩;have HL:Hid (L=if X=0 then rsL D (leO Ls Hs Ts Ts' ws D) else []):=by rw[hL,hX,hD];exact rfl
 rw[←hNN,←hL];have HD:Hid (pdL S Ls Hs Ts S' Ls' Hs' Ts' ws=D):=hD.symm;have HX:Hid (pbN S Ls Hs Ts S' Ls' Hs' Ts' ws=X):=hX.symm;have HAL:Hid (alS D<64):=by show _<_;rw[hD];exact al_lt pd_few.1
 obtain⟨⟨q0,q1,q2,q3⟩,r0,r1,r2,r3⟩:=hnn;clear hN hM hw hb1 hw1 hD hX hNN hL;go_enter func17,ntmps17;go_upto_region 1 with fail;rw[HW1.out]
 go_wp2_with fail
 refine (begin_any S (.slice ao n cap) (.slice ao2 n2 cap2) (.slice ao3 n3 cap3) S' (.slice bo m dap) (.slice bo2 m2 dap2) (.slice bo3 m3 dap3) (.slice a4 n4 c4) Ls Hs Ts Ls' Hs' Ts' ws w1 HNW.out.1 HNW.out.2.1 HNW.out.2.2 pd_few.1 pd_few.2).mono ?_;rintro e w2 ⟨t0,t1,t2,t3,t4,t5,t6,rfl,hOK,hNO,hb2⟩;rw[HX.out];rw[HX.out,HD.out] at hOK;rw[HX.out] at hNO;have HB2:Hid (Below w.heap.size w w2):=HB1.out.trans (hb2.mono HB1.out.size);by_cases hX0:X=0
 ·obtain⟨bm,rfl,rfl,rfl,rfl,rfl,rfl,rfl,hT⟩:=hOK hX0;rw[no_ok hX0];have HN2:Hid (N=rsN (leO Ls Hs Ts Ts' ws D)):=HN.out.trans (if_pos hX0);have HL2:Hid (L=rsL D (leO Ls Hs Ts Ts' ws D)):=HL.out.trans (if_pos hX0);have HP:Hid (PlOK S Ls Hs Ts Ts' ws D):=HPK.out hX0;have HT2:Hid (TskOK w2 (.slice ao n cap) (.slice ao2 n2 cap2) (.slice ao3 n3 cap3) (.slice a4 n4 c4) bm Ls Hs Ts ws D):=hT;obtain⟨w3,hw3⟩:∃W,w2.alloc (.cells #[.int i64 S,.slice ao n cap,.slice ao2 n2 cap2,.slice ao3 n3 cap3,.slice a4 n4 c4,.map (some bm),.int i64 (alS D:Int)] 63)=W:=⟨_,rfl⟩;have hb3:Below w2.heap.size w2 w3:=by rw[←hw3];exact (bRQ _ _).alloc (nLQ _) _
  have hs3:w3.heap.size=w2.heap.size+1:=by rw[←hw3];simp
  have htb:TkB w3 w2.heap.size S (.slice ao n cap) (.slice ao2 n2 cap2) (.slice ao3 n3 cap3) (.slice a4 n4 c4) (.map (some bm)) (alS D:Int):=by rw[←hw3];exact tkb_new w2 S _ _ _ _ _ _ 63
  have HW3:Hid (w2.alloc (.cells #[.int i64 S,.slice ao n cap,.slice ao2 n2 cap2,.slice ao3 n3 cap3,.slice a4 n4 c4,.map (some bm),.int i64 (alS D:Int)] 63)=w3):=hw3;obtain⟨bk,hbk⟩:∃q,w3.heap.size=q:=⟨_,rfl⟩;obtain⟨w4,hw4⟩:∃W,(w3.alloc (.map #[] 0)).alloc (.cells #[.map (some bk)] 110)=W:=⟨_,rfl⟩;have hbm:Below w3.heap.size w3 (w3.alloc (.map #[] 0)):=(bRQ _ _).alloc (nLQ _) _;have hsm:(w3.alloc (.map #[] 0)).heap.size=bk+1:=by rw[←hbk];simp
  have hbc:Below (w3.alloc (.map #[] 0)).heap.size (w3.alloc (.map #[] 0)) w4:=by rw[←hw4];exact (bRQ _ _).alloc (nLQ _) _
  have hb34:Below w3.heap.size w3 w4:=hbm.trans (hbc.mono (by simp));have HBK:Hid (w3.heap.size=bk):=hbk;have HW4:Hid ((w3.alloc (.map #[] 0)).alloc (.cells #[.map (some bk)] 110)=w4):=hw4;have HLC:Hid (LeC bk w2.heap.size (bk+1) S (.slice ao n cap) (.slice ao2 n2 cap2) (.slice ao3 n3 cap3) (.slice a4 n4 c4) (.map (some bm)) (alS D) w4):=by
   refine⟨htb.later hb34,?_,by omega,by omega⟩;rw[←hw4,←hsm];simp
  have HB24:Hid (Below w2.heap.size w2 w4):=hb3.trans (hb34.mono hb3.size);have HK4:Hid (KN (sfB Ls Hs Ts Ts' ws) (alS D) bk w4):=by
   have h:=kn_new (sfB Ls Hs Ts Ts' ws) (alS D) w3;rw[hbk] at h;exact h.kb (p:=fun _=>True) (Kb.of_below hbc fun _ h _=>h) trivial
  have HBL:Hid (w2.heap.size≤bk∧w.heap.size≤bk):=⟨by omega,by have:=HB2.out.size;omega⟩;obtain⟨x0,x1,x2,x3,x4,x5,x6,_⟩:=HLC.out.tk;have hmk:=run_makeMap (P:=prog) 110 w3;clear hOK hNO hb2 hX0 hT hw3 hb3 q0 q1 q2 q3 r0 r1 r2 r3 hs3 htb hbk hw4 hbm hsm hbc hb34;go_upto_region 4 with fail;rw[HW3.out];go_upto_region 5 with fail;rw[HBK.out,HW4.out]
  go_wp2_with fail
  refine (rounds_least HT2.out HP.out HAL.out HBL.out.1 w4 HLC.out HB24.out HK4.out).mono ?_;rintro e w5 ⟨v,rfl,hR,hk5⟩;have HR:Hid (RS w5 v L):=by rw[HL2.out];exact hR
  have HB5:Hid (Below w.heap.size w w5):=(HB2.out.trans (HB24.out.mono HB2.out.size)).trans (hk5.below (Nat.le_trans HB2.out.size HB24.out.size) fun b hb=>by show b≠bk;have:=HBL.out.2;omega);obtain⟨er,her⟩:∃er,er=noV (rsN (roA (alS D) (fun done=>(shC (sfB Ls Hs Ts Ts' ws) (alS D) done).2) 0)):=⟨_,rfl⟩;rw[←her];have HER:Hid (er=noV N):=by rw[her,HN2.out];exact rfl
  clear hR hk5 her x0 x1 x2 x3 x4 x5 x6 hmk;go_wp2;refine bodyPost_ret (v:=.tuple #[v,er]) (by simp[results,results17,go_sem, *]) rfl ⟨v,by rw[HER.out],HR.out,HB5.out⟩
 obtain⟨rfl,rfl,rfl,rfl,rfl,rfl,rfl⟩:=hNO hX0;rw[no_ne hX0];have HN2:Hid (N=X):=HN.out.trans (if_neg hX0);have HL2:Hid (L=[]):=HL.out.trans (if_neg hX0);have HX0:Hid (X≠0):=hX0;have HB3:Hid (Below w.heap.size w (w2.alloc (.cells #[.int i64 0,.slice none 0 0,.slice none 0 0,.slice none 0 0,.slice none 0 0,.map none,.int i64 0] 63))):=HB2.out.alloc HB2.out.size _;clear hX0 hOK hNO hb2 q0 q1 q2 q3 r0 r1 r2 r3;go_wp2;refine bodyPost_ret (v:=.tuple #[.slice none 0 0,.iface 68 (.int i64 X)]) (by simp[results,results17,go_sem, *]) rfl ⟨.slice none 0 0,by rw[HN2.out,no_ne HX0.out],by rw[HL2.out];exact RS.nil _,HB3.out⟩
end
section
open Go.RowKit
section
variable {α:Type}{E:Enc α}
def RG (E:Enc α)(w:World)(v:Value)(Rs:List (List α)):Prop:=∃vs:List SlT,GS slE w v vs∧vs.length=Rs.length∧∀(i:Nat) (x:SlT) (L:List α),vs[i]?=some x→Rs[i]?=some L→GS E w (slV x) L
theorem RG.later {w w':World}{v:Value}{Rs:List (List α)}(h:RG E w v Rs)(hb:Below w.heap.size w w'):RG E w' v Rs:=by
 obtain⟨vs,h1,h2,h3⟩:=h;exact⟨vs,h1.later hb,h2,fun i x L a b=>(h3 i x L a b).later hb⟩
theorem RG.nil (w:World):RG E w (.slice none 0 0) []:=⟨[],GS.nil _,rfl,fun i x L h=>by simp at h⟩
theorem RG.at {w:World}{ao:AdQ}{n cap:Nat}{Rs:List (List α)}(h:RG E w (.slice ao n cap) Rs){i:Nat}(hi:i<n):∃(g o:Nat) (L:List α) (a1:AdQ) (n1 c1:Nat),ao=some ⟨g,o,none⟩∧Rs[i]?=some L∧w.cell? ⟨g,o+i,none⟩=some (.slice a1 n1 c1)∧GS E w (.slice a1 n1 c1) L:=by
 obtain⟨vs,h1,h2,h3⟩:=h;obtain⟨_,_,_,e,hn,_,_,ha⟩:=h1.form;cases e;obtain⟨g,o,rfl,hat,_⟩:=ha (by omega);have hv:i<vs.length:=by omega
 have hr:i<Rs.length:=by omega
 have hc:=hat i hv 0 _ rfl;have e2:o+i*slE.n+0=o+i:=by show o+i*1+0=o+i;omega
 rw[e2] at hc;exact⟨g,o,Rs[i],vs[i].1,vs[i].2.1,vs[i].2.2,rfl,List.getElem?_eq_getElem hr,hc,h3 i vs[i] Rs[i] (List.getElem?_eq_getElem hv) (List.getElem?_eq_getElem hr)⟩
theorem RG.form {w:World}{v:Value}{Rs:List (List α)}(h:RG E w v Rs):∃ao n cap,v=.slice ao n cap∧Rs.length=n∧n≤maxLen∧n≤cap:=by
 obtain⟨vs,h1,h2,_⟩:=h;obtain⟨ao,n,cap,e,hn,h3,h4,_⟩:=h1.form;exact⟨ao,n,cap,e,by omega,h3,h4⟩
structure OG (E:Enc α)(ty:TypeId)(w:World)(B:Nat)(v:Value)(vs:List SlT)(Rs:List (List α)):Prop where
 ov:w.ownsRow B ty slE.n v vs.length (cellsG slE vs)
 lv:vs.length=Rs.length
 rv:∀(i:Nat) (x:SlT) (L:List α),vs[i]?=some x→Rs[i]?=some L→GS E w (slV x) L∧∀b,v.ownBlock=some b→offB x b
variable {ty:TypeId}{w w':World}{B:Nat}{v:Value}{vs:List SlT}{Rs:List (List α)}
theorem og_nil (w:World)(B:Nat):OG E ty w B (.slice none 0 0) [] []:=⟨World.ownsRow_nil w B _ slE.n,rfl,fun i x L h=>by simp at h⟩
theorem OG.later (h:OG E ty w B v vs Rs)(hb:Below w.heap.size w w'):OG E ty w' B v vs Rs:=
 ⟨h.ov.kept (grown_below hb) (none_or _),h.lv,fun i x L h1 h2=>⟨(h.rv i x L h1 h2).1.later hb,(h.rv i x L h1 h2).2⟩⟩
theorem OG.push (h:OG E ty w B v vs Rs){x:SlT}{L:List α}(hx:GS E w (slV x) L){v':Value}(hox:∀b,v.ownBlock=some b→offB x b)
 (hg:w.grownBy w' v.ownBlock) (ho:w'.ownsRow B ty slE.n v' (vs++[x]).length (cellsG slE (vs++[x]))) (hb:v'.ownBlock=v.ownBlock∨v'.ownBlock=some w.heap.size):OG E ty w' B v' (vs++[x]) (Rs++[L]):=by
 have one:∀{y:SlT} {M:List α},GS E w (slV y) M→(∀b,v.ownBlock=some b→offB y b)→GS E w' (slV y) M∧∀b,v'.ownBlock=some b→offB y b:=by
  intro y M h1 h2;refine⟨h1.grown hg h2,fun b hv=>?_⟩
  rcases hb with hb | hb
  ·exact h2 b (by rw[←hb];exact hv)
  rw[hb] at hv;cases hv;exact h1.off (nLQ _)
 refine⟨ho,by simp[h.lv],fun i y M h1 h2=>?_⟩;by_cases hi:i<vs.length
 ·rw[List.getElem?_append_left hi] at h1;rw[List.getElem?_append_left (by rw[←h.lv];exact hi)] at h2;obtain⟨a1,a2⟩:=h.rv i y M h1 h2;exact one a1 a2
 have hi2:i=vs.length:=by
  have:=(List.getElem?_eq_some_iff.1 h1).1;simp at this;omega
 subst hi2;simp at h1;rw[h.lv] at h2;simp at h2;subst h1 h2;exact one hx hox
theorem OG.app (h:OG E ty w B v vs Rs){us:List SlT}{Qs:List (List α)}(hu:us.length=Qs.length)(hq:∀(i:Nat) (x:SlT) (L:List α),us[i]?=some x→Qs[i]?=some L→GS E w (slV x) L∧∀b,v.ownBlock=some b→offB x b){v':Value}
 (hg:w.grownBy w' v.ownBlock) (ho:w'.ownsRow B ty slE.n v' (vs++us).length (cellsG slE (vs++us))):RG E w' v' (Rs++Qs):=by
 refine⟨vs++us,own_GS ho,by simp[h.lv,hu],fun i y M h1 h2=>?_⟩;by_cases hi:i<vs.length
 ·rw[List.getElem?_append_left hi] at h1;rw[List.getElem?_append_left (by rw[←h.lv];exact hi)] at h2;exact (h.rv i y M h1 h2).1.grown hg (h.rv i y M h1 h2).2
 rw[List.getElem?_append_right (by omega)] at h1;rw[List.getElem?_append_right (by rw[←h.lv];omega),←h.lv] at h2;exact (hq _ y M h1 h2).1.grown hg (hq _ y M h1 h2).2
theorem og_one {x:SlT}{L:List α}(hx:GS E w (slV x) L)(hB:B≤w.heap.size)(ty:TypeId):OG E ty (w.alloc (.cells #[slV x] ty)) B (.slice (some ⟨w.heap.size,0,none⟩) 1 1) [x] [L]:=by
 refine⟨World.ownsRow_lit w #[slV x] 1 hB (by unfold maxLen;omega) rfl,rfl,fun i y M h1 h2=>?_⟩;have hi:i=0:=by
  have:=(List.getElem?_eq_some_iff.1 h1).1;simp at this;omega
 subst hi;simp at h1 h2;subst h1 h2;exact⟨hx.later ((bRQ _ _).alloc (nLQ _) _),fun b e=>by cases e;exact hx.off (nLQ _)⟩
end
def stI:List Int→List (List Int)
 | []=>[]
 | a :: l=>((stI l).map fun s=>a :: s)++[[a]]++stI l
def sbB (t s:Nat):Bool:=decide (s≠0)&&decide (s &&& t=s)
def stS (t:Nat):List Nat:=seqL (sbB t) 64
theorem st_all:((List.range 64).all fun t=>decide (stI (lsS t)=(stS t).map lsS))=true:=by decide +kernel
theorem st_ls {t:Nat}(h:t<64):stI (lsS t)=(stS t).map lsS:=of_decide_eq_true (List.all_eq_true.1 st_all t (List.mem_range.2 h))
def wtI (l m:List Int):List Int:=l.filter fun x => !(m.any fun y=>y==x)
theorem wt_all:((List.range 64).all fun t=>(List.range 64).all fun s=>decide (wtI (lsS t) (lsS s)=lsS (mnS t s)))=true:=by decide +kernel
theorem wt_ls {t s:Nat}(h:t<64)(h2:s<64):wtI (lsS t) (lsS s)=lsS (mnS t s):=of_decide_eq_true (List.all_eq_true.1 (List.all_eq_true.1 wt_all t (List.mem_range.2 h)) s (List.mem_range.2 h2))
theorem seq_and (p q:Nat→Bool):∀n,seqL (fun s=>p s&&q s) n=(seqL p n).filter q
 | 0=>rfl
 | n+1=>by
   rw[seqL,seqL,seq_and p q n];cases hp:p n
   ·simp
   cases hq:q n
   ·simp[hq]
   simp[hq]
section
variable (sf:Nat→Nat→Bool)(all:Nat)
def fwS (done:Nat)(f:Nat→Option (List Nat)):List Nat→Option (List Nat)
 | []=>none
 | s :: l=>if sf done s=true then (match f (done ||| s) with | some cs=>some (s :: cs) | none=>fwS done f l) else fwS done f l
def fwO:Nat→Nat→Option (List Nat)
 | 0,done=>if done=all then some [] else none
 | m+1,done=>if done=all then some [] else fwS sf done (fwO m) (stS (mnS all done))
variable {sf all}
theorem ys_st (done:Nat):ysL sf all done=(stS (mnS all done)).filter (sf done):=by
 have e:ysB sf all done=fun s=>sbB (mnS all done) s&&sf done s:=rfl
 rw[ysL,e,seq_and];rfl
theorem fw_filter (done:Nat)(f:Nat→Option (List Nat)):∀l:List Nat,fwS sf done f l=fwS sf done f (l.filter (sf done))
 | []=>rfl
 | s :: l=>by
   rw[fwS,List.filter_cons,fw_filter done f l];cases h:sf done s
   ·simp
   simp only[if_true];rw[fwS,if_pos h]
theorem fw_none_of {done:Nat}{f:Nat→Option (List Nat)}:∀{l:List Nat},(∀s∈l,sf done s=true→f (done ||| s)=none)→fwS sf done f l=none
 | [],_=>rfl
 | s :: l,h=>by
   have ih:=fw_none_of (l:=l) fun x hx=>h x (List.mem_cons_of_mem _ hx)
   rw[fwS];by_cases c:sf done s=true
   ·rw[if_pos c,h s (List.mem_cons_self ..) c];exact ih
   rw[if_neg c];exact ih
theorem fw_pre {done:Nat}{f:Nat→Option (List Nat)}{s:Nat}{post cs:List Nat}(hs:sf done s=true)(hf:f (done ||| s)=some cs):∀{pre:List Nat},(∀x∈pre,f (done ||| x)=none)→fwS sf done f (pre++s :: post)=some (s :: cs)
 | [],_=>by rw[List.nil_append,fwS,if_pos hs,hf]
 | x :: pre,h=>by
   have ih:=fw_pre (post:=post) hs hf (pre:=pre) fun y hy=>h y (List.mem_cons_of_mem _ hy)
   rw[List.cons_append,fwS];by_cases c:sf done x=true
   ·rw[if_pos c,h x (List.mem_cons_self ..)];exact ih
   rw[if_neg c];exact ih
theorem fw_less (ha:all<64):∀(m:Nat) {done:Nat},DnOK all done→m<(shC sf all done).1→fwO sf all m done=none
 | 0,done,hd,h=>by
   rw[fwO,if_neg];intro e;rw[e,sh_all] at h;exact absurd h (by decide)
 | m+1,done,hd,h=>by
   have hne:done≠all:=fun e=>by
    rw[e,sh_all] at h;exact absurd h (by simp)
   rw[fwO,if_neg hne,fw_filter,←ys_st];refine fw_none_of fun s hs _=>?_
   have:=(sh_spec ha hd hne).1 s hs;exact fw_less ha m (hd.next hs) (by omega)
theorem fw_least (ha:all<64):∀(m:Nat) {done:Nat},DnOK all done→(shC sf all done).1=m→m<7→fwO sf all m done=roA all (fun d=>(shC sf all d).2) done
 | 0,done,hd,h,hm=>by
   by_cases e:done=all
   ·subst e;rw[fwO,if_pos rfl];exact (ro_end _).symm
   have:=sh_pos (sf:=sf) ha hd e;omega
 | m+1,done,hd,h,hm=>by
   have hne:done≠all:=fun e=>by
    rw[e,sh_all] at h;exact absurd h (by show ¬(0=m+1);omega)
   obtain⟨_,_,h3⟩:=sh_spec (sf:=sf) ha hd hne
   rcases h3 with h3 | ⟨pre,s,post,j1,j2,j3,j4⟩
   ·rw[h3] at h;exact absurd h (by show ¬(7=m+1);omega)
   have hs:s∈ysL sf all done:=by rw[j1];simp
   have e2:(shC sf all done).2=s:=by rw[j2]
   have e1:(shC sf all (done ||| s)).1=m:=by
    rw[j2] at h;have:(shC sf all (done ||| s)).1+1=m+1:=h;omega
   obtain⟨cs,i1,_,_⟩:=sh_course (sf:=sf) ha m (hd.next hs) e1 (by omega);have i2:=fw_least ha m (hd.next hs) e1 (by omega);rw[i1] at i2;rw[fwO,if_neg hne,fw_filter,←ys_st,j1,fw_pre (ys_mem.1 hs).2.2.2 i2 fun x hx=>?_]
   ·have hstep:=ro_step (nx:=fun d=>(shC sf all d).2) nx_sh ha hd.1 hd.2 hne (by show (shC sf all done).2≠0;rw[e2];exact (ys_mem.1 hs).2.1);rw[hstep];show _=(roA all (fun d=>(shC sf all d).2) (done ||| (shC sf all done).2)).map ((shC sf all done).2 :: ·);rw[e2,i1];rfl
   have hx2:x∈ysL sf all done:=by rw[j1];exact List.mem_append.2 (.inl hx)
   have:=j4 x hx;exact fw_less ha m (hd.next hx2) (by omega)
end
theorem ls_lf_all:((List.range 64).all fun t=>decide ((lsS t).length=lfN t 0))=true:=by decide +kernel
theorem ls_lf {t:Nat}(h:t<64):(lsS t).length=lfN t 0:=of_decide_eq_true (List.all_eq_true.1 ls_lf_all t (List.mem_range.2 h))
theorem le_at {sf:Nat→Nat→Bool}{all:Nat}(ha:all<64):(∀m,m<(shC sf all 0).1→fwO sf all m 0=none)∧((shC sf all 0).1<7→(shC sf all 0).1≤(lsS all).length∧fwO sf all (shC sf all 0).1 0=roA all (fun d=>(shC sf all d).2) 0∧∃cs,roA all (fun d=>(shC sf all d).2) 0=some cs)∧(¬(shC sf all 0).1<7→(lsS all).length<(shC sf all 0).1∧roA all (fun d=>(shC sf all d).2) 0=none):=by
 refine⟨fun m h=>fw_less ha m dn_0 h,fun h=>?_,fun h=>?_⟩
 ·obtain⟨cs,h1,h2,h3⟩:=sh_course (sf:=sf) ha _ dn_0 rfl h;refine⟨?_,fw_least ha _ dn_0 rfl h,cs,h1⟩;rw[ls_lf ha,←h3];exact cr_len h2
 have h6:=lf_le all 0;exact⟨by rw[ls_lf ha];omega,sh_none (sf:=sf) ha dn_0 (by omega)⟩
theorem any_has (l:List Int)(x:Int):(l.any fun y=>y==x)=l.contains x:=by
 rw[Bool.eq_iff_iff,List.any_eq_true,List.contains_iff_mem];constructor
 ·rintro⟨y,h1,h2⟩;rw[←eq_of_beq h2];exact h1
 intro h;exact⟨x,h,by simp⟩
section
variable {S:Int}{Ls:List LkT}{Hs:List HoT}{As Bs:TsQ}{ws:List Wi}{D:List Op8}
theorem PlOK.mf (h:PlOK S Ls Hs As Bs ws D){done t:Nat}(hd:∀a,1≤a→a≤6→inS t a=true→inS done a=false):decide (mfN S Ls Hs (nwT As Bs done) (rnL D t) ws=0)=sfB Ls Hs As Bs ws done t:=by
 rw[mfN,if_pos (h.cg hd),(h.ca hd).2,sfB];cases (bsW Ls Hs (nwT As Bs done) (nwT As Bs (done ||| t)) ws Hs ws.length).isNone <;> simp
theorem PlOK.of (h:PlOK S Ls Hs As Bs ws D){t:Nat}{l:List Int}(hl:∀a:Nat,1≤a→a≤6→l.contains (a:Int)=inS t a):(D.filter fun o=>l.any fun y=>y==o.w)=rnL D t:=by
 have e:(fun o:Op8=>l.any fun y=>y==o.w)=fun o:Op8=>(fun a:Int=>l.contains a) o.w:=by
  funext o
  exact any_has l o.w
 rw[e,h.d];exact of_rd h.len.2 hl
end
theorem gs_sl_one {W:World}{v:Value}{vs us:List SlT}(h1:GS slE W v vs)(h2:GS slE W v us):vs=us:=by
 obtain⟨ao,n,cap,rfl,hn,_,_,ha⟩:=h1.form;obtain⟨_,_,_,e,hm,_,_,hb⟩:=h2.form;cases e;refine List.ext_getElem (by omega) fun i k1 k2=>?_
 obtain⟨g,o,rfl,hat,_⟩:=ha (by omega);obtain⟨g',o',e2,hbt,_⟩:=hb (by omega);cases e2;have c1:=hat i k1 0 _ rfl;have c2:=hbt i k2 0 _ rfl;rw[c1] at c2;have e3:slV vs[i]=slV us[i]:=Option.some.inj c2;have inj:∀a b:SlT,slV a=slV b→a=b:=fun ⟨a1,a2,a3⟩ ⟨b1,b2,b3⟩ h=>by
  simp only[slV,Value.slice.injEq] at h;obtain⟨rfl,rfl,rfl⟩:=h;rfl
 exact inj _ _ e3
theorem eqR_sy (a b:Ru):eqR a b=eqR b a:=by
 cases h:eqR b a
 ·exact eq_no.2 (fun e=>(eq_no.1 h) e.symm)
 exact eq_R.2 (eq_R.1 h).symm
theorem refIn_any (ao:AdQ)(n cap:Nat)(p m b o s v:Int)(L:List Ru)(w:World)(hs:SR w (.slice ao n cap) L):
 Calls prog 55 #[.slice ao n cap,.agg #[.int i64 p,.int i64 m,.int i64 b,.int i64 o,.int i64 s,.int i64 v]] w fun e w'=>e=.returned (.bool (inB L ⟨p,m,b,o,s,v⟩))∧Below w.heap.size w w':=by
 obtain⟨ao',n',cap',e,hn,hn2,hn3,ha⟩:=hs.form;cases e;have HN:Hid (L.length=n):=hn;have HA:Hid (0<n→∃g o,ao=some ⟨g,o,none⟩∧RAt w g o L∧cap≤maxLen):=ha;have HC0:=C6.new w p m b o s v 88;have HB0:Hid (Below w.heap.size w (w.alloc (.cells #[.int i64 p,.int i64 m,.int i64 b,.int i64 o,.int i64 s,.int i64 v] 88))):=(bRQ _ _).alloc (nLQ _) _;unfold maxLen at hn2;clear hn ha hs;go_enter func55,ntmps55;go_wp2
 go_loopw [5] (fun i wr=>∃k:Nat,k≤n∧i=.int i64 k∧(L.take k).any (fun a=>eqR ⟨p,m,b,o,s,v⟩ a)=false∧Below w.heap.size w wr∧C6 wr w.heap.size 0 ⟨p,m,b,o,s,v⟩)
  (fun i _=>n-(intOf i).toNat)
 case atStart=>exact⟨0,by omega,rfl,by simp,HB0.out,HC0⟩
 case round =>
  obtain⟨k,hk,rfl,hno,hB,hC⟩:=hrel;have HB:Hid (Below w.heap.size w wr):=hB;have HC:Hid (C6 wr w.heap.size 0 ⟨p,m,b,o,s,v⟩):=hC;have HNO:Hid ((L.take k).any (fun a=>eqR ⟨p,m,b,o,s,v⟩ a)=false):=hno;clear hno HC0 HB0;by_cases hlt:k<n
  ·obtain⟨g,og,hao,hc,_⟩:=HA.out (by omega);subst hao;obtain⟨p',m',b',o',s',v',hkl,hL,q0,q1,q2,q3,q4,q5⟩:=(hc.later hB).at HN.out hlt;have HL:Hid (L[k]=⟨p',m',b',o',s',v'⟩):=hL;obtain⟨r0,r1,r2,r3,r4,r5⟩:=hC;simp only[Nat.zero_add] at r0 r1 r2 r3 r4 r5;have HCE:Hid (CI wr w.heap.size p m b o s v g (og+k*6) p' m' b' o' s' v' wr):=⟨bRQ _ _,⟨r0,r1,r2,r3,r4,r5⟩,q0,q1,q2,q3,q4,q5⟩;clear hL hB HA q0 q1 q2 q3 q4 q5 r0 r1 r2 r3 r4 r5;go_upto_region 4 with fail;have kb0:(0:Int)≤(k:Int):=by omega
   have kb1:(k:Int)<(n:Int):=by omega
   go_cut [17] from 6 to 17 (fun c w'=>c=.bool (eqR ⟨p',m',b',o',s',v'⟩ ⟨p,m,b,o,s,v⟩)∧Below wr.heap.size wr w')
   case first =>
    as_aux_lemma =>
     refine wp_region_quiet (C:=CI wr w.heap.size p m b o s v g (og+k*6) p' m' b' o' s' v') (by kernel_rfl) (by kernel_rfl) (CI.later (W:=wr) (Below.drew (bRQ _ _)) HCE.out) ?_;simp only[List.toList_toArray];go_big_quiet_want;refine qv (.slice (some ⟨g,og,none⟩) n cap) ?_ ?_
     ·rintro w' ⟨z0,⟨z1,z2,z3,z4,z5,z6⟩,y1,y2,y3,y4,y5,y6⟩;go_simp
     simp only[Act.put,AP];go_big_quiet_on;go_big_quiet_want;refine qv (.int i64 (k:Int)) ?_ ?_
     ·rintro w' ⟨z0,⟨z1,z2,z3,z4,z5,z6⟩,y1,y2,y3,y4,y5,y6⟩;go_simp
     simp only[Act.put,AP];go_big_quiet_on;go_big_quiet_want;refine qv (.pointer (some ⟨g,og+k*6,none⟩)) ?_ ?_
     ·rintro w' ⟨z0,⟨z1,z2,z3,z4,z5,z6⟩,y1,y2,y3,y4,y5,y6⟩;go_simp
     simp only[Act.put,AP];go_big_quiet_on;go_big_quiet_want;refine qv (.agg #[.int i64 p',.int i64 m',.int i64 b',.int i64 o',.int i64 s',.int i64 v']) ?_ ?_
     ·rintro w' ⟨z0,⟨z1,z2,z3,z4,z5,z6⟩,y1,y2,y3,y4,y5,y6⟩;go_simp
     simp only[Act.put,AP];go_big_quiet_on;go_big_quiet_want;refine qv (.agg #[.int i64 p,.int i64 m,.int i64 b,.int i64 o,.int i64 s,.int i64 v]) ?_ ?_
     ·rintro w' ⟨z0,⟨z1,z2,z3,z4,z5,z6⟩,y1,y2,y3,y4,y5,y6⟩;go_simp
     simp only[Act.put,AP];go_big_quiet_on;go_big_quiet_want;refine quiet_val (v:=.bool (eqR ⟨p',m',b',o',s',v'⟩ ⟨p,m,b,o,s,v⟩)) (fun w' hC=>exec_bin rfl (by go_simp) (run_eqlR p' m' b' o' s' v' p m b o s v w')) ?_;simp only[Act.put,AP];go_big_quiet_on;refine wpQuiet_nil ?_;intro w' hC
     go_wp2_with fail
     go_meet
     case rel=>exact⟨rfl,hC.1⟩
   case rest =>
    obtain⟨rfl,hB2⟩:=hcut;have HB2:Hid (Below w.heap.size w wc):=HB.out.trans (hB2.mono HB.out.size);have HC2:Hid (C6 wc w.heap.size 0 ⟨p,m,b,o,s,v⟩):=HC.out.later hB2;clear hB2;cases ho:eqR ⟨p',m',b',o',s',v'⟩ ⟨p,m,b,o,s,v⟩
    ·go_wp2;go_roundw
     case rel=>exact⟨k+1,by omega,by go_num,any_nextR hkl HNO.out (by rw[HL.out,eqR_sy];exact ho),HB2.out,HC2.out⟩
     case measure=>simp[intOf];omega
    go_wp2;go_ret;exact⟨by rw[inB,any_hitR hkl (by rw[HL.out,eqR_sy];exact ho)];rfl,HB2.out⟩
  obtain rfl:k=n:=by omega
  go_wp2;go_ret;exact⟨by have:=HNO.out;rw[←HN.out,List.take_length] at this;rw[inB,this];rfl,HB.out⟩
def atTo (L:List Ru)(r:Ru)(k:Nat):Int:=if inB (L.take k) r then (ixN L r:Int) else -1
theorem at_0 (L:List Ru)(r:Ru):atTo L r 0 = -1:=by simp[atTo,inB]
theorem at_no {L:List Ru}{r x:Ru}{k:Nat}(hk:k<L.length)(hx:L[k]=x)(h:eqR x r=false):atTo L r (k+1)=atTo L r k:=by
 have e:inB (L.take (k+1)) r=inB (L.take k) r:=by
  rw[List.take_succ_eq_append_getElem hk,hx];simp[inB,eqR_sy r x,h]
 rw[atTo,atTo,e]
theorem at_yes {L:List Ru}{r x:Ru}{k:Nat}(hk:k<L.length)(hx:L[k]=x)(hL:tbN L=0)(h:eqR x r=true):atTo L r (k+1)=(k:Int):=by
 obtain rfl:=eq_R.1 h;have e:inB (L.take (k+1)) x=true:=in_iff.2 (by rw[List.take_succ_eq_append_getElem hk,hx];simp);have hn:=tb_nodup hL;have hsp:L=L.take k++x :: L.drop (k+1):=by
  rw[←hx];simp
 have hno:x ∉ L.take k:=by
  intro hm;rw[hsp,List.nodup_append] at hn;exact hn.2.2 x hm x (by simp) rfl
 rw[atTo,e,if_pos rfl];have:=ix_split (M:=L.drop (k+1)) hno;rw[←hsp] at this;rw[this,List.length_take];omega
theorem key_of_eq {a b:Ru}(h:keyB a b=false):eqR a b=false:=by
 cases e:eqR a b
 ·rfl
 rw[eq_R.1 e,key_rf] at h;cases h
theorem at_all {L:List Ru}{r:Ru}:atTo L r L.length=if inB L r then (ixN L r:Int) else -1:=by rw[atTo,List.take_length]
theorem any_step {L:List Ru}{f:Ru→Bool}{k:Nat}{x:Ru}(hk:k<L.length)(hx:L[k]=x):(L.take (k+1)).any f=((L.take k).any f || f x):=by
 rw[List.take_succ_eq_append_getElem hk,hx];simp
theorem SR.later' {w w':World}{v:Value}{L:List Ru}(h:SR w v L)(hb:Below w.heap.size w w'):SR w' v L:=h.later hb
theorem append_le {L:List Ru}{n:Nat}(h:L.length=n)(h2:tbN L=0):n≤12:=by
 have:=(tb_iff.1 h2).1;omega
theorem refDo_any (ao:AdQ)(n cap:Nat)(a:Bool)(p m b o s v:Int)(L:List Ru)(w:World)(hs:SR w (.slice ao n cap) L)(h0:tbN L=0):
 Calls prog 31 #[.slice ao n cap,.bool a,.agg #[.int i64 p,.int i64 m,.int i64 b,.int i64 o,.int i64 s,.int i64 v]] w fun e w'=>∃u,e=.returned (.tuple #[u,.int i64 (chN L a ⟨p,m,b,o,s,v⟩)])∧NR w' w.heap.size u (chL L a ⟨p,m,b,o,s,v⟩)∧Below w.heap.size w w':=by
 obtain⟨ao',n',cap',e,hn,hn2,hn3,ha⟩:=hs.form;cases e;have HN:Hid (L.length=n):=hn;have HA:Hid (0<n→∃g o,ao=some ⟨g,o,none⟩∧RAt w g o L∧cap≤maxLen):=ha;have H0:Hid (tbN L=0):=h0;have HS:Hid (SR w (.slice ao n cap) L):=hs;have hn12:=append_le hn h0;have HC0:=C6.new w p m b o s v 88;have HB0:Hid (Below w.heap.size w (w.alloc (.cells #[.int i64 p,.int i64 m,.int i64 b,.int i64 o,.int i64 s,.int i64 v] 88))):=(bRQ _ _).alloc (nLQ _) _;clear hn ha hs hn2 h0;go_enter func31,ntmps31;go_wp2
 go_loopw [8,9,10] (fun x y i wr=>∃k:Nat,k≤n∧i=.int i64 k∧x=.int i64 (atTo L ⟨p,m,b,o,s,v⟩ k)∧y=.bool ((L.take k).any fun a=>keyB a ⟨p,m,b,o,s,v⟩)∧Below w.heap.size w wr∧C6 wr w.heap.size 0 ⟨p,m,b,o,s,v⟩)
  (fun x y i _=>n-(intOf i).toNat)
 case atStart=>exact⟨0,by omega,rfl,by rw[at_0],by simp,HB0.out,HC0⟩
 case round =>
  obtain⟨k,hk,rfl,rfl,rfl,hB,hC⟩:=hrel;have HB:Hid (Below w.heap.size w wr):=hB;have HC:Hid (C6 wr w.heap.size 0 ⟨p,m,b,o,s,v⟩):=hC;clear HC0 HB0;by_cases hlt:k<n
  ·obtain⟨g,og,hao,hc,_⟩:=HA.out (by omega);subst hao;obtain⟨p',m',b',o',s',v',hkl,hL,q0,q1,q2,q3,q4,q5⟩:=(hc.later hB).at HN.out hlt;have HL:Hid (L[k]=⟨p',m',b',o',s',v'⟩):=hL;obtain⟨r0,r1,r2,r3,r4,r5⟩:=hC;simp only[Nat.zero_add] at r0 r1 r2 r3 r4 r5;have HCE:Hid (CI wr w.heap.size p m b o s v g (og+k*6) p' m' b' o' s' v' wr):=⟨bRQ _ _,⟨r0,r1,r2,r3,r4,r5⟩,q0,q1,q2,q3,q4,q5⟩;obtain⟨X,hX⟩:∃X,X=atTo L ⟨p,m,b,o,s,v⟩ k:=⟨_,rfl⟩;obtain⟨Y,hY⟩:∃Y,Y=((L.take k).any fun a=>keyB a ⟨p,m,b,o,s,v⟩):=⟨_,rfl⟩;have HX:Hid (X=atTo L ⟨p,m,b,o,s,v⟩ k):=hX;have HY:Hid (Y=((L.take k).any fun a=>keyB a ⟨p,m,b,o,s,v⟩)):=hY;rw[←hX,←hY];clear hX hY hL hB HA q0 q1 q2 q3 q4 q5 r0 r1 r2 r3 r4 r5;go_upto_region 6 with fail;have kb0:(0:Int)≤(k:Int):=by omega
   have kb1:(k:Int)<(n:Int):=by omega
   go_cut [35] from 12 to 42 (fun c w'=>c=.bool (keyB ⟨p',m',b',o',s',v'⟩ ⟨p,m,b,o,s,v⟩)∧Below wr.heap.size wr w')
   case first =>
    as_aux_lemma =>
     by_cases e1:p'=p
     ·have f1:(p'==p)=true:=by simpa using e1
      by_cases e2:m'=m
      ·have f2:(m'==m)=true:=by simpa using e2
       by_cases e3:b'=b
       ·have f3:(b'==b)=true:=by simpa using e3
        have hky:keyB ⟨p',m',b',o',s',v'⟩ ⟨p,m,b,o,s,v⟩=true:=by rw[key_eq];simp[e1,e2,e3]
        clear e1 e2 e3;refine wp_region_quiet (C:=CI wr w.heap.size p m b o s v g (og+k*6) p' m' b' o' s' v') (by kernel_rfl) (by kernel_rfl) (CI.later (W:=wr) (Below.drew (bRQ _ _)) HCE.out) ?_;simp only[List.toList_toArray];go_big_quiet_want;refine qv (.slice (some ⟨g,og,none⟩) n cap) ?_ ?_
        ·rintro w' ⟨z0,⟨z1,z2,z3,z4,z5,z6⟩,y1,y2,y3,y4,y5,y6⟩;go_simp
        simp only[Act.put,AP];go_big_quiet_on;go_big_quiet_want;refine qv (.int i64 (k:Int)) ?_ ?_
        ·rintro w' ⟨z0,⟨z1,z2,z3,z4,z5,z6⟩,y1,y2,y3,y4,y5,y6⟩;go_simp
        simp only[Act.put,AP];go_big_quiet_on;go_big_quiet_want;refine qv (.pointer (some ⟨g,og+k*6,none⟩)) ?_ ?_
        ·rintro w' ⟨z0,⟨z1,z2,z3,z4,z5,z6⟩,y1,y2,y3,y4,y5,y6⟩;go_simp
        simp only[Act.put,AP];go_big_quiet_on;go_big_quiet_want;refine qv (.pointer (some ⟨g,og+k*6,none⟩)) ?_ ?_
        ·rintro w' ⟨z0,⟨z1,z2,z3,z4,z5,z6⟩,y1,y2,y3,y4,y5,y6⟩;go_simp
        simp only[Act.put,AP];go_big_quiet_on;go_big_quiet_want;refine qv (.int i64 p') ?_ ?_
        ·rintro w' ⟨z0,⟨z1,z2,z3,z4,z5,z6⟩,y1,y2,y3,y4,y5,y6⟩;go_simp
        simp only[Act.put,AP];go_big_quiet_on;go_big_quiet_want;refine qv (.pointer (some ⟨w.heap.size,0,none⟩)) ?_ ?_
        ·rintro w' ⟨z0,⟨z1,z2,z3,z4,z5,z6⟩,y1,y2,y3,y4,y5,y6⟩;go_simp
        simp only[Act.put,AP];go_big_quiet_on;go_big_quiet_want;refine qv (.int i64 p) ?_ ?_
        ·rintro w' ⟨z0,⟨z1,z2,z3,z4,z5,z6⟩,y1,y2,y3,y4,y5,y6⟩;go_simp
        simp only[Act.put,AP];go_big_quiet_on;go_big_quiet_want;refine qv (.bool true) ?_ ?_
        ·rintro w' ⟨z0,⟨z1,z2,z3,z4,z5,z6⟩,y1,y2,y3,y4,y5,y6⟩;go_simp
        simp only[Act.put,AP];go_big_quiet_on;go_big_quiet_want;refine qv (.bool true) ?_ ?_
        ·rintro w' ⟨z0,⟨z1,z2,z3,z4,z5,z6⟩,y1,y2,y3,y4,y5,y6⟩;go_simp
        simp only[Act.put,AP];go_big_quiet_on;go_big_quiet_want;refine qv (.slice (some ⟨g,og,none⟩) n cap) ?_ ?_
        ·rintro w' ⟨z0,⟨z1,z2,z3,z4,z5,z6⟩,y1,y2,y3,y4,y5,y6⟩;go_simp
        simp only[Act.put,AP];go_big_quiet_on;go_big_quiet_want;refine qv (.int i64 (k:Int)) ?_ ?_
        ·rintro w' ⟨z0,⟨z1,z2,z3,z4,z5,z6⟩,y1,y2,y3,y4,y5,y6⟩;go_simp
        simp only[Act.put,AP];go_big_quiet_on;go_big_quiet_want;refine qv (.pointer (some ⟨g,og+k*6,none⟩)) ?_ ?_
        ·rintro w' ⟨z0,⟨z1,z2,z3,z4,z5,z6⟩,y1,y2,y3,y4,y5,y6⟩;go_simp
        simp only[Act.put,AP];go_big_quiet_on;go_big_quiet_want;refine qv (.pointer (some ⟨g,og+k*6+1,none⟩)) ?_ ?_
        ·rintro w' ⟨z0,⟨z1,z2,z3,z4,z5,z6⟩,y1,y2,y3,y4,y5,y6⟩;go_simp
        simp only[Act.put,AP];go_big_quiet_on;go_big_quiet_want;refine qv (.agg #[.int i64 m',.int i64 b']) ?_ ?_
        ·rintro w' ⟨z0,⟨z1,z2,z3,z4,z5,z6⟩,y1,y2,y3,y4,y5,y6⟩;go_simp
        simp only[Act.put,AP];go_big_quiet_on;go_big_quiet_want;refine qv (.pointer (some ⟨w.heap.size,1,none⟩)) ?_ ?_
        ·rintro w' ⟨z0,⟨z1,z2,z3,z4,z5,z6⟩,y1,y2,y3,y4,y5,y6⟩;go_simp
        simp only[Act.put,AP];go_big_quiet_on;go_big_quiet_want;refine qv (.agg #[.int i64 m,.int i64 b]) ?_ ?_
        ·rintro w' ⟨z0,⟨z1,z2,z3,z4,z5,z6⟩,y1,y2,y3,y4,y5,y6⟩;go_simp
        simp only[Act.put,AP];go_big_quiet_on;go_big_quiet_want;refine qv (.bool true) ?_ ?_
        ·rintro w' ⟨z0,⟨z1,z2,z3,z4,z5,z6⟩,y1,y2,y3,y4,y5,y6⟩;go_simp
        simp only[Act.put,AP];go_big_quiet_on;go_big_quiet_want;refine qv (.bool true) ?_ ?_
        ·rintro w' ⟨z0,⟨z1,z2,z3,z4,z5,z6⟩,y1,y2,y3,y4,y5,y6⟩;go_simp
        simp only[Act.put,AP];go_big_quiet_on;refine wpQuiet_nil ?_;intro w' hC
        go_wp2_with fail
        go_meet
        case rel=>exact⟨by rw[hky],hC.1⟩
       have f3:(b'==b)=false:=by simpa using e3
       have hky:keyB ⟨p',m',b',o',s',v'⟩ ⟨p,m,b,o,s,v⟩=false:=by rw[key_eq];simp[e1,e2,e3]
       clear e1 e2 e3;refine wp_region_quiet (C:=CI wr w.heap.size p m b o s v g (og+k*6) p' m' b' o' s' v') (by kernel_rfl) (by kernel_rfl) (CI.later (W:=wr) (Below.drew (bRQ _ _)) HCE.out) ?_;simp only[List.toList_toArray];go_big_quiet_want;refine qv (.slice (some ⟨g,og,none⟩) n cap) ?_ ?_
       ·rintro w' ⟨z0,⟨z1,z2,z3,z4,z5,z6⟩,y1,y2,y3,y4,y5,y6⟩;go_simp
       simp only[Act.put,AP];go_big_quiet_on;go_big_quiet_want;refine qv (.int i64 (k:Int)) ?_ ?_
       ·rintro w' ⟨z0,⟨z1,z2,z3,z4,z5,z6⟩,y1,y2,y3,y4,y5,y6⟩;go_simp
       simp only[Act.put,AP];go_big_quiet_on;go_big_quiet_want;refine qv (.pointer (some ⟨g,og+k*6,none⟩)) ?_ ?_
       ·rintro w' ⟨z0,⟨z1,z2,z3,z4,z5,z6⟩,y1,y2,y3,y4,y5,y6⟩;go_simp
       simp only[Act.put,AP];go_big_quiet_on;go_big_quiet_want;refine qv (.pointer (some ⟨g,og+k*6,none⟩)) ?_ ?_
       ·rintro w' ⟨z0,⟨z1,z2,z3,z4,z5,z6⟩,y1,y2,y3,y4,y5,y6⟩;go_simp
       simp only[Act.put,AP];go_big_quiet_on;go_big_quiet_want;refine qv (.int i64 p') ?_ ?_
       ·rintro w' ⟨z0,⟨z1,z2,z3,z4,z5,z6⟩,y1,y2,y3,y4,y5,y6⟩;go_simp
       simp only[Act.put,AP];go_big_quiet_on;go_big_quiet_want;refine qv (.pointer (some ⟨w.heap.size,0,none⟩)) ?_ ?_
       ·rintro w' ⟨z0,⟨z1,z2,z3,z4,z5,z6⟩,y1,y2,y3,y4,y5,y6⟩;go_simp
       simp only[Act.put,AP];go_big_quiet_on;go_big_quiet_want;refine qv (.int i64 p) ?_ ?_
       ·rintro w' ⟨z0,⟨z1,z2,z3,z4,z5,z6⟩,y1,y2,y3,y4,y5,y6⟩;go_simp
       simp only[Act.put,AP];go_big_quiet_on;go_big_quiet_want;refine qv (.bool true) ?_ ?_
       ·rintro w' ⟨z0,⟨z1,z2,z3,z4,z5,z6⟩,y1,y2,y3,y4,y5,y6⟩;go_simp
       simp only[Act.put,AP];go_big_quiet_on;go_big_quiet_want;refine qv (.bool true) ?_ ?_
       ·rintro w' ⟨z0,⟨z1,z2,z3,z4,z5,z6⟩,y1,y2,y3,y4,y5,y6⟩;go_simp
       simp only[Act.put,AP];go_big_quiet_on;go_big_quiet_want;refine qv (.slice (some ⟨g,og,none⟩) n cap) ?_ ?_
       ·rintro w' ⟨z0,⟨z1,z2,z3,z4,z5,z6⟩,y1,y2,y3,y4,y5,y6⟩;go_simp
       simp only[Act.put,AP];go_big_quiet_on;go_big_quiet_want;refine qv (.int i64 (k:Int)) ?_ ?_
       ·rintro w' ⟨z0,⟨z1,z2,z3,z4,z5,z6⟩,y1,y2,y3,y4,y5,y6⟩;go_simp
       simp only[Act.put,AP];go_big_quiet_on;go_big_quiet_want;refine qv (.pointer (some ⟨g,og+k*6,none⟩)) ?_ ?_
       ·rintro w' ⟨z0,⟨z1,z2,z3,z4,z5,z6⟩,y1,y2,y3,y4,y5,y6⟩;go_simp
       simp only[Act.put,AP];go_big_quiet_on;go_big_quiet_want;refine qv (.pointer (some ⟨g,og+k*6+1,none⟩)) ?_ ?_
       ·rintro w' ⟨z0,⟨z1,z2,z3,z4,z5,z6⟩,y1,y2,y3,y4,y5,y6⟩;go_simp
       simp only[Act.put,AP];go_big_quiet_on;go_big_quiet_want;refine qv (.agg #[.int i64 m',.int i64 b']) ?_ ?_
       ·rintro w' ⟨z0,⟨z1,z2,z3,z4,z5,z6⟩,y1,y2,y3,y4,y5,y6⟩;go_simp
       simp only[Act.put,AP];go_big_quiet_on;go_big_quiet_want;refine qv (.pointer (some ⟨w.heap.size,1,none⟩)) ?_ ?_
       ·rintro w' ⟨z0,⟨z1,z2,z3,z4,z5,z6⟩,y1,y2,y3,y4,y5,y6⟩;go_simp
       simp only[Act.put,AP];go_big_quiet_on;go_big_quiet_want;refine qv (.agg #[.int i64 m,.int i64 b]) ?_ ?_
       ·rintro w' ⟨z0,⟨z1,z2,z3,z4,z5,z6⟩,y1,y2,y3,y4,y5,y6⟩;go_simp
       simp only[Act.put,AP];go_big_quiet_on;go_big_quiet_want;refine qv (.bool false) ?_ ?_
       ·rintro w' ⟨z0,⟨z1,z2,z3,z4,z5,z6⟩,y1,y2,y3,y4,y5,y6⟩;go_simp
       simp only[Act.put,AP];go_big_quiet_on;go_big_quiet_want;refine qv (.bool false) ?_ ?_
       ·rintro w' ⟨z0,⟨z1,z2,z3,z4,z5,z6⟩,y1,y2,y3,y4,y5,y6⟩;go_simp
       simp only[Act.put,AP];go_big_quiet_on;refine wpQuiet_nil ?_;intro w' hC
       go_wp2_with fail
       go_meet
       case rel=>exact⟨by rw[hky],hC.1⟩
      have f2:(m'==m)=false:=by simpa using e2
      have hky:keyB ⟨p',m',b',o',s',v'⟩ ⟨p,m,b,o,s,v⟩=false:=by rw[key_eq];simp[e1,e2]
      clear e1 e2;refine wp_region_quiet (C:=CI wr w.heap.size p m b o s v g (og+k*6) p' m' b' o' s' v') (by kernel_rfl) (by kernel_rfl) (CI.later (W:=wr) (Below.drew (bRQ _ _)) HCE.out) ?_;simp only[List.toList_toArray];go_big_quiet_want;refine qv (.slice (some ⟨g,og,none⟩) n cap) ?_ ?_
      ·rintro w' ⟨z0,⟨z1,z2,z3,z4,z5,z6⟩,y1,y2,y3,y4,y5,y6⟩;go_simp
      simp only[Act.put,AP];go_big_quiet_on;go_big_quiet_want;refine qv (.int i64 (k:Int)) ?_ ?_
      ·rintro w' ⟨z0,⟨z1,z2,z3,z4,z5,z6⟩,y1,y2,y3,y4,y5,y6⟩;go_simp
      simp only[Act.put,AP];go_big_quiet_on;go_big_quiet_want;refine qv (.pointer (some ⟨g,og+k*6,none⟩)) ?_ ?_
      ·rintro w' ⟨z0,⟨z1,z2,z3,z4,z5,z6⟩,y1,y2,y3,y4,y5,y6⟩;go_simp
      simp only[Act.put,AP];go_big_quiet_on;go_big_quiet_want;refine qv (.pointer (some ⟨g,og+k*6,none⟩)) ?_ ?_
      ·rintro w' ⟨z0,⟨z1,z2,z3,z4,z5,z6⟩,y1,y2,y3,y4,y5,y6⟩;go_simp
      simp only[Act.put,AP];go_big_quiet_on;go_big_quiet_want;refine qv (.int i64 p') ?_ ?_
      ·rintro w' ⟨z0,⟨z1,z2,z3,z4,z5,z6⟩,y1,y2,y3,y4,y5,y6⟩;go_simp
      simp only[Act.put,AP];go_big_quiet_on;go_big_quiet_want;refine qv (.pointer (some ⟨w.heap.size,0,none⟩)) ?_ ?_
      ·rintro w' ⟨z0,⟨z1,z2,z3,z4,z5,z6⟩,y1,y2,y3,y4,y5,y6⟩;go_simp
      simp only[Act.put,AP];go_big_quiet_on;go_big_quiet_want;refine qv (.int i64 p) ?_ ?_
      ·rintro w' ⟨z0,⟨z1,z2,z3,z4,z5,z6⟩,y1,y2,y3,y4,y5,y6⟩;go_simp
      simp only[Act.put,AP];go_big_quiet_on;go_big_quiet_want;refine qv (.bool true) ?_ ?_
      ·rintro w' ⟨z0,⟨z1,z2,z3,z4,z5,z6⟩,y1,y2,y3,y4,y5,y6⟩;go_simp
      simp only[Act.put,AP];go_big_quiet_on;go_big_quiet_want;refine qv (.bool true) ?_ ?_
      ·rintro w' ⟨z0,⟨z1,z2,z3,z4,z5,z6⟩,y1,y2,y3,y4,y5,y6⟩;go_simp
      simp only[Act.put,AP];go_big_quiet_on;go_big_quiet_want;refine qv (.slice (some ⟨g,og,none⟩) n cap) ?_ ?_
      ·rintro w' ⟨z0,⟨z1,z2,z3,z4,z5,z6⟩,y1,y2,y3,y4,y5,y6⟩;go_simp
      simp only[Act.put,AP];go_big_quiet_on;go_big_quiet_want;refine qv (.int i64 (k:Int)) ?_ ?_
      ·rintro w' ⟨z0,⟨z1,z2,z3,z4,z5,z6⟩,y1,y2,y3,y4,y5,y6⟩;go_simp
      simp only[Act.put,AP];go_big_quiet_on;go_big_quiet_want;refine qv (.pointer (some ⟨g,og+k*6,none⟩)) ?_ ?_
      ·rintro w' ⟨z0,⟨z1,z2,z3,z4,z5,z6⟩,y1,y2,y3,y4,y5,y6⟩;go_simp
      simp only[Act.put,AP];go_big_quiet_on;go_big_quiet_want;refine qv (.pointer (some ⟨g,og+k*6+1,none⟩)) ?_ ?_
      ·rintro w' ⟨z0,⟨z1,z2,z3,z4,z5,z6⟩,y1,y2,y3,y4,y5,y6⟩;go_simp
      simp only[Act.put,AP];go_big_quiet_on;go_big_quiet_want;refine qv (.agg #[.int i64 m',.int i64 b']) ?_ ?_
      ·rintro w' ⟨z0,⟨z1,z2,z3,z4,z5,z6⟩,y1,y2,y3,y4,y5,y6⟩;go_simp
      simp only[Act.put,AP];go_big_quiet_on;go_big_quiet_want;refine qv (.pointer (some ⟨w.heap.size,1,none⟩)) ?_ ?_
      ·rintro w' ⟨z0,⟨z1,z2,z3,z4,z5,z6⟩,y1,y2,y3,y4,y5,y6⟩;go_simp
      simp only[Act.put,AP];go_big_quiet_on;go_big_quiet_want;refine qv (.agg #[.int i64 m,.int i64 b]) ?_ ?_
      ·rintro w' ⟨z0,⟨z1,z2,z3,z4,z5,z6⟩,y1,y2,y3,y4,y5,y6⟩;go_simp
      simp only[Act.put,AP];go_big_quiet_on;go_big_quiet_want;refine qv (.bool false) ?_ ?_
      ·rintro w' ⟨z0,⟨z1,z2,z3,z4,z5,z6⟩,y1,y2,y3,y4,y5,y6⟩;go_simp
      simp only[Act.put,AP];go_big_quiet_on;go_big_quiet_want;refine qv (.bool false) ?_ ?_
      ·rintro w' ⟨z0,⟨z1,z2,z3,z4,z5,z6⟩,y1,y2,y3,y4,y5,y6⟩;go_simp
      simp only[Act.put,AP];go_big_quiet_on;refine wpQuiet_nil ?_;intro w' hC
      go_wp2_with fail
      go_meet
      case rel=>exact⟨by rw[hky],hC.1⟩
     have f1:(p'==p)=false:=by simpa using e1
     have hky:keyB ⟨p',m',b',o',s',v'⟩ ⟨p,m,b,o,s,v⟩=false:=by rw[key_eq];simp[e1]
     clear e1;refine wp_region_quiet (C:=CI wr w.heap.size p m b o s v g (og+k*6) p' m' b' o' s' v') (by kernel_rfl) (by kernel_rfl) (CI.later (W:=wr) (Below.drew (bRQ _ _)) HCE.out) ?_;simp only[List.toList_toArray];go_big_quiet_want;refine qv (.slice (some ⟨g,og,none⟩) n cap) ?_ ?_
     ·rintro w' ⟨z0,⟨z1,z2,z3,z4,z5,z6⟩,y1,y2,y3,y4,y5,y6⟩;go_simp
     simp only[Act.put,AP];go_big_quiet_on;go_big_quiet_want;refine qv (.int i64 (k:Int)) ?_ ?_
     ·rintro w' ⟨z0,⟨z1,z2,z3,z4,z5,z6⟩,y1,y2,y3,y4,y5,y6⟩;go_simp
     simp only[Act.put,AP];go_big_quiet_on;go_big_quiet_want;refine qv (.pointer (some ⟨g,og+k*6,none⟩)) ?_ ?_
     ·rintro w' ⟨z0,⟨z1,z2,z3,z4,z5,z6⟩,y1,y2,y3,y4,y5,y6⟩;go_simp
     simp only[Act.put,AP];go_big_quiet_on;go_big_quiet_want;refine qv (.pointer (some ⟨g,og+k*6,none⟩)) ?_ ?_
     ·rintro w' ⟨z0,⟨z1,z2,z3,z4,z5,z6⟩,y1,y2,y3,y4,y5,y6⟩;go_simp
     simp only[Act.put,AP];go_big_quiet_on;go_big_quiet_want;refine qv (.int i64 p') ?_ ?_
     ·rintro w' ⟨z0,⟨z1,z2,z3,z4,z5,z6⟩,y1,y2,y3,y4,y5,y6⟩;go_simp
     simp only[Act.put,AP];go_big_quiet_on;go_big_quiet_want;refine qv (.pointer (some ⟨w.heap.size,0,none⟩)) ?_ ?_
     ·rintro w' ⟨z0,⟨z1,z2,z3,z4,z5,z6⟩,y1,y2,y3,y4,y5,y6⟩;go_simp
     simp only[Act.put,AP];go_big_quiet_on;go_big_quiet_want;refine qv (.int i64 p) ?_ ?_
     ·rintro w' ⟨z0,⟨z1,z2,z3,z4,z5,z6⟩,y1,y2,y3,y4,y5,y6⟩;go_simp
     simp only[Act.put,AP];go_big_quiet_on;go_big_quiet_want;refine qv (.bool false) ?_ ?_
     ·rintro w' ⟨z0,⟨z1,z2,z3,z4,z5,z6⟩,y1,y2,y3,y4,y5,y6⟩;go_simp
     simp only[Act.put,AP];go_big_quiet_on;go_big_quiet_want;refine qv (.bool false) ?_ ?_
     ·rintro w' ⟨z0,⟨z1,z2,z3,z4,z5,z6⟩,y1,y2,y3,y4,y5,y6⟩;go_simp
     simp only[Act.put,AP];go_big_quiet_on;go_big_quiet_skip;go_big_quiet_skip;go_big_quiet_skip;go_big_quiet_skip;go_big_quiet_skip;go_big_quiet_skip;go_big_quiet_skip;go_big_quiet_skip;go_big_quiet_want;refine qv (.bool false) ?_ ?_
     ·rintro w' ⟨z0,⟨z1,z2,z3,z4,z5,z6⟩,y1,y2,y3,y4,y5,y6⟩;go_simp
     simp only[Act.put,AP];go_big_quiet_on;refine wpQuiet_nil ?_;intro w' hC
     go_wp2_with fail
     go_meet
     case rel=>exact⟨by rw[hky],hC.1⟩
   case rest =>
    obtain⟨rfl,hB2⟩:=hcut;have HBk:Hid (Below wr.heap.size wr wc):=hB2;have HB2:Hid (Below w.heap.size w wc):=HB.out.trans (hB2.mono HB.out.size);have HC2:Hid (C6 wc w.heap.size 0 ⟨p,m,b,o,s,v⟩):=HC.out.later hB2;have HCE2:Hid (CI wr w.heap.size p m b o s v g (og+k*6) p' m' b' o' s' v' wc):=CI.later hB2 HCE.out;clear hB2 HCE;cases hky:keyB ⟨p',m',b',o',s',v'⟩ ⟨p,m,b,o,s,v⟩
    ·go_wp2;go_roundw
     case rel=>exact⟨k+1,by omega,by go_num,by rw[HX.out,at_no hkl HL.out (key_of_eq hky)],by rw[HY.out,any_step hkl HL.out,hky,Bool.or_false],HB2.out,HC2.out⟩
     case measure=>simp[intOf];omega
    go_upto_region 8 with fail
    go_cut [41] from 12 to 42 (fun c w'=>c=.bool (eqR ⟨p',m',b',o',s',v'⟩ ⟨p,m,b,o,s,v⟩)∧Below wr.heap.size wr w')
    case first =>
     as_aux_lemma =>
      refine wp_region_quiet (C:=CI wr w.heap.size p m b o s v g (og+k*6) p' m' b' o' s' v') (by kernel_rfl) (by kernel_rfl) (CI.later (W:=wc) (Below.drew (bRQ _ _)) HCE2.out) ?_;simp only[List.toList_toArray];go_big_quiet_want;refine qv (.slice (some ⟨g,og,none⟩) n cap) ?_ ?_
      ·rintro w' ⟨z0,⟨z1,z2,z3,z4,z5,z6⟩,y1,y2,y3,y4,y5,y6⟩;go_simp
      simp only[Act.put,AP];go_big_quiet_on;go_big_quiet_want;refine qv (.int i64 (k:Int)) ?_ ?_
      ·rintro w' ⟨z0,⟨z1,z2,z3,z4,z5,z6⟩,y1,y2,y3,y4,y5,y6⟩;go_simp
      simp only[Act.put,AP];go_big_quiet_on;go_big_quiet_want;refine qv (.pointer (some ⟨g,og+k*6,none⟩)) ?_ ?_
      ·rintro w' ⟨z0,⟨z1,z2,z3,z4,z5,z6⟩,y1,y2,y3,y4,y5,y6⟩;go_simp
      simp only[Act.put,AP];go_big_quiet_on;go_big_quiet_want;refine qv (.agg #[.int i64 p',.int i64 m',.int i64 b',.int i64 o',.int i64 s',.int i64 v']) ?_ ?_
      ·rintro w' ⟨z0,⟨z1,z2,z3,z4,z5,z6⟩,y1,y2,y3,y4,y5,y6⟩;go_simp
      simp only[Act.put,AP];go_big_quiet_on;go_big_quiet_want;refine qv (.agg #[.int i64 p,.int i64 m,.int i64 b,.int i64 o,.int i64 s,.int i64 v]) ?_ ?_
      ·rintro w' ⟨z0,⟨z1,z2,z3,z4,z5,z6⟩,y1,y2,y3,y4,y5,y6⟩;go_simp
      simp only[Act.put,AP];go_big_quiet_on;go_big_quiet_want;refine quiet_val (v:=.bool (eqR ⟨p',m',b',o',s',v'⟩ ⟨p,m,b,o,s,v⟩)) (fun w' hC=>exec_bin rfl (by go_simp) (run_eqlR p' m' b' o' s' v' p m b o s v w')) ?_;simp only[Act.put,AP];go_big_quiet_on;refine wpQuiet_nil ?_;intro w' hC
      go_wp2_with fail
      go_meet
      case rel=>exact⟨rfl,hC.1⟩
    case rest =>
     obtain⟨rfl,hB3⟩:=hcut;have HB3:Hid (Below w.heap.size w wc):=HB.out.trans (hB3.mono HB.out.size);have HC3:Hid (C6 wc w.heap.size 0 ⟨p,m,b,o,s,v⟩):=HC.out.later hB3;clear hB3 HCE2 HBk HB2 HC2;cases ho:eqR ⟨p',m',b',o',s',v'⟩ ⟨p,m,b,o,s,v⟩
     ·go_wp2;go_roundw
      case rel=>exact⟨k+1,by omega,by go_num,by rw[HX.out,at_no hkl HL.out ho],by rw[any_step hkl HL.out,hky,Bool.or_true],HB3.out,HC3.out⟩
      case measure=>simp[intOf];omega
     go_wp2;go_roundw
     case rel=>exact⟨k+1,by omega,by go_num,by rw[at_yes hkl HL.out H0.out ho],by rw[any_step hkl HL.out,hky,Bool.or_true],HB3.out,HC3.out⟩
     case measure=>simp[intOf];omega
  obtain rfl:k=n:=by omega
  have HS1:Hid (SR wr (.slice ao k cap) L):=HS.out.later' HB.out;obtain⟨X,hX⟩:∃X,X=atTo L ⟨p,m,b,o,s,v⟩ k:=⟨_,rfl⟩;have HX:Hid (X=if inB L ⟨p,m,b,o,s,v⟩ then (ixN L ⟨p,m,b,o,s,v⟩:Int) else -1):=by
   show _=_;rw[hX,←HN.out,at_all]
  have hY:((L.take k).any fun a=>keyB a ⟨p,m,b,o,s,v⟩)=hitB L ⟨p,m,b,o,s,v⟩:=by rw[←HN.out,List.take_length];rfl
  rw[←hX,hY];obtain⟨r0,r1,r2,r3,r4,r5⟩:=hC;simp only[Nat.zero_add] at r0 r1 r2 r3 r4 r5;have hlt0:w.heap.size<wr.heap.size:=bLQ _ _ r0;clear hX hY hB hlt;cases a with
  | true =>
    cases hh:hitB L ⟨p,m,b,o,s,v⟩
    ·by_cases h12:12≤k
     ·have HCN:Hid (chN L true ⟨p,m,b,o,s,v⟩=4):=ch_full hh (by rw[HN.out];exact h12);have HCL:Hid (chL L true ⟨p,m,b,o,s,v⟩=[]):=chL_ne (by rw[ch_full hh (by rw[HN.out];exact h12)];decide);clear hh;go_wp2;refine bodyPost_ret (v:=.tuple #[.slice none 0 0,.int i64 4]) (by simp[results,results31,go_sem]) rfl ⟨_,by rw[HCN.out],by rw[HCL.out];exact NR.nil _ _,HB.out⟩
     have HCN:Hid (chN L true ⟨p,m,b,o,s,v⟩=0):=ch_add hh (by rw[HN.out];exact h12);have HCL:Hid (chL L true ⟨p,m,b,o,s,v⟩=L++[⟨p,m,b,o,s,v⟩]):=chL_add (ch_add hh (by rw[HN.out];exact h12));clear hh
     go_wp2_with (at_builtin;refine wpList_append_SR _ rfl _ _ 93 rfl underlying93 w.heap.size _ rfl [] (World.ownsRow_nil _ _ _ _) _ rfl _ HS1.out (by simp[HN.out];omega) HB.out.size ?_)
     intro v1 w1 hown1 hg1;have HB1:Hid (Below w.heap.size w w1):=HB.out.grown hg1 HB.out.size (fun g hg=>by cases hg);have hBr:Below wr.heap.size wr w1:=(bRQ _ _).grown hg1 (nLQ _) (fun g hg=>by cases hg);have HO1:Hid (w1.ownsRow w.heap.size 88 6 v1 L.length (cellsR L)):=hown1;obtain⟨d0,d1,d2,d3,d4,d5⟩:=HC.out.later hBr;simp only[Nat.zero_add] at d0 d1 d2 d3 d4 d5;have hlt1:w.heap.size<w1.heap.size:=bLQ _ _ d0;have hBB:Below w1.heap.size w1 (w1.alloc (.cells #[.int i64 p,.int i64 m,.int i64 b,.int i64 o,.int i64 s,.int i64 v] 88)):=(bRQ _ _).alloc (nLQ _) _;have HSO:=sr_one w1 p m b o s v 88;clear hown1 hg1 hBr r0 r1 r2 r3 r4 r5
     go_wp2_with (at_builtin;refine wpList_append_SR _ rfl _ _ 93 rfl underlying93 w.heap.size _ rfl L (own_below HO1.out hBB) _ rfl [⟨p,m,b,o,s,v⟩] HSO (by simp[HN.out];omega) (HB1.out.trans (hBB.mono HB1.out.size)).size ?_)
     intro v2 w2 hown2 hg2;have HO2:Hid (NR w2 w.heap.size v2 (L++[⟨p,m,b,o,s,v⟩])):=NR.ofn hown2 (by simp);have HB2:Hid (Below w.heap.size w w2):=(HB1.out.trans (hBB.mono HB1.out.size)).grown hg2 (HB1.out.trans (hBB.mono HB1.out.size)).size (fun g hg=>((own_below HO1.out hBB).lt g hg).1);clear hown2 hg2 hBB HSO d0 d1 d2 d3 d4 d5;go_wp2;refine bodyPost_ret (v:=.tuple #[v2,.int i64 0]) (by simp[results,results31,go_sem]) rfl ⟨_,by rw[HCN.out],by rw[HCL.out];exact HO2.out,HB2.out⟩
    have HCN:Hid (chN L true ⟨p,m,b,o,s,v⟩=7):=ch_hit hh;have HCL:Hid (chL L true ⟨p,m,b,o,s,v⟩=[]):=chL_ne (by rw[ch_hit hh];decide);clear hh;go_wp2;refine bodyPost_ret (v:=.tuple #[.slice none 0 0,.int i64 7]) (by simp[results,results31,go_sem]) rfl ⟨_,by rw[HCN.out],by rw[HCL.out];exact NR.nil _ _,HB.out⟩
  | false =>
    generalize hitB L ⟨p,m,b,o,s,v⟩=Y
    cases hh:inB L ⟨p,m,b,o,s,v⟩
    ·have HCN:Hid (chN L false ⟨p,m,b,o,s,v⟩=5):=ch_none hh;have HCL:Hid (chL L false ⟨p,m,b,o,s,v⟩=[]):=chL_ne (by rw[ch_none hh];decide);obtain rfl:X = -1:=by rw[HX.out,hh];rfl
     clear hh HX;go_wp2;refine bodyPost_ret (v:=.tuple #[.slice none 0 0,.int i64 5]) (by simp[results,results31,go_sem]) rfl ⟨_,by rw[HCN.out],by rw[HCL.out];exact NR.nil _ _,HB.out⟩
    have HCN:Hid (chN L false ⟨p,m,b,o,s,v⟩=0):=ch_take hh;have HCL:Hid (chL L false ⟨p,m,b,o,s,v⟩=L.take (ixN L ⟨p,m,b,o,s,v⟩)++L.drop (ixN L ⟨p,m,b,o,s,v⟩+1)):=chL_take (ch_take hh);obtain rfl:X=(ixN L ⟨p,m,b,o,s,v⟩:Int):=by rw[HX.out,hh,if_pos rfl]
    have hi:ixN L ⟨p,m,b,o,s,v⟩<k:=by
     have:=ix_lt hh;rw[HN.out] at this;exact this
    obtain⟨g,og,hao,hRA,hcm⟩:=HA.out (by omega);subst hao
    generalize ixN L ⟨p,m,b,o,s,v⟩=i at *
    have HRA:Hid (RAt wr g og L):=hRA.later HB.out;have HCM:Hid (cap≤maxLen):=hcm;have hc63:(cap:Int)≤9223372036854775807:=by unfold maxLen at hcm;omega
    clear hh hRA hcm HA HX;have i0:¬((i:Int)<0):=by omega
    have i01:(0:Int)≤(i:Int):=by omega
    have i1:(i:Int)≤(cap:Int):=by omega
    have i2:((i+1:Nat):Int)≤(k:Int):=by omega
    have i21:(0:Int)≤((i+1:Nat):Int):=by omega
    have i3:IntKind.i64.wrap ((i:Int)+1)=((i+1:Nat):Int):=by rw[IntKind.wrap_i64];omega
    have HT1:Hid (SR wr (.slice (some ⟨g,og,none⟩) i cap) (L.take i)):=by
     have e1:(L.take i).length=i:=by rw[List.length_take,HN.out];omega
     exact .inr ⟨g,og,cap,by rw[e1],by rw[e1];omega,HCM.out,HRA.out.take i⟩
    have HL1:Hid ((L.take i).length≤12):=by
     show _≤_;rw[List.length_take];omega
    have HL2:Hid ((L.drop (i+1)).length≤12):=by
     show _≤_;rw[List.length_drop,HN.out];omega
    go_wp2_with (at_builtin;refine wpList_append_SR _ rfl _ _ 93 rfl underlying93 w.heap.size _ rfl [] (World.ownsRow_nil _ _ _ _) _ rfl _ HT1.out (by have:=HL1.out;simp at this ⊢;omega) HB.out.size ?_)
    intro v1 w1 hown1 hg1;have HB1:Hid (Below w.heap.size w w1):=HB.out.grown hg1 HB.out.size (fun g hg=>by cases hg);have hBr:Below wr.heap.size wr w1:=(bRQ _ _).grown hg1 (nLQ _) (fun g hg=>by cases hg);have HO1:Hid (w1.ownsRow w.heap.size 88 6 v1 (L.take i).length (cellsR (L.take i))):=NR.ofn hown1 (by simp);have HR1:Hid (RAt w1 g og L):=HRA.out.later hBr;clear hown1 hg1 hBr r0 r1 r2 r3 r4 r5;by_cases hcj:cap=i+1
    ·have HT2:Hid (SR w1 (.slice (some ⟨g,og,none⟩) 0 0) (L.drop (i+1))):=.inl ⟨_,_,rfl,List.drop_eq_nil_of_le (by rw[HN.out];omega)⟩;have hkj:k=i+1:=by omega
     generalize hj:i+1=j at i2 i21 i3 hcj hkj HT2 HL2
     subst hcj
     go_wp2_with (at_builtin;refine wpList_append_SR _ rfl _ _ 93 rfl underlying93 w.heap.size _ rfl _ HO1.out _ rfl _ HT2.out (by have:=HL1.out;have:=HL2.out;omega) HB1.out.size ?_)
     intro v2 w2 hown2 hg2;have HO2:Hid (NR w2 w.heap.size v2 (L.take i++L.drop (i+1))):=by
      rw[hj];exact NR.ofn hown2 (by simp)
     have HB2:Hid (Below w.heap.size w w2):=HB1.out.grown hg2 HB1.out.size (fun g hg=>(HO1.out.lt g hg).1);clear hown2 hg2;go_wp2;refine bodyPost_ret (v:=.tuple #[v2,.int i64 0]) (by simp[results,results31,go_sem]) rfl ⟨_,by rw[HCN.out],by rw[HCL.out];exact HO2.out,HB2.out⟩
    have HT2:Hid (SR w1 (.slice (some ⟨g,og+(i+1)*6,none⟩) (k-(i+1)) (cap-(i+1))) (L.drop (i+1))):=by
     have e1:(L.drop (i+1)).length=k-(i+1):=by rw[List.length_drop,HN.out]
     exact .inr ⟨g,og+(i+1)*6,cap-(i+1),by rw[e1],by rw[e1];omega,Nat.le_trans (Nat.sub_le _ _) HCM.out,HR1.out.drop (i+1)⟩
    generalize hj:i+1=j at i2 i21 i3 hcj HT2 HL2
    go_wp2_with (at_builtin;refine wpList_append_SR _ rfl _ _ 93 rfl underlying93 w.heap.size _ rfl _ HO1.out _ rfl _ HT2.out (by have:=HL1.out;have:=HL2.out;omega) HB1.out.size ?_)
    intro v2 w2 hown2 hg2;have HO2:Hid (NR w2 w.heap.size v2 (L.take i++L.drop (i+1))):=by
     rw[hj];exact NR.ofn hown2 (by simp)
    have HB2:Hid (Below w.heap.size w w2):=HB1.out.grown hg2 HB1.out.size (fun g hg=>(HO1.out.lt g hg).1);clear hown2 hg2;go_wp2;refine bodyPost_ret (v:=.tuple #[v2,.int i64 0]) (by simp[results,results31,go_sem]) rfl ⟨_,by rw[HCN.out],by rw[HCL.out];exact HO2.out,HB2.out⟩
theorem bey_no {A B:List Ru}{k:Nat}{r:Ru}(hk:k<A.length)(hr:A[k]=r)(h:inB B r=true):bey (A.take (k+1)) B=bey (A.take k) B:=by
 rw[List.take_succ_eq_append_getElem hk,hr];simp[bey,h]
theorem bey_yes {A B:List Ru}{k:Nat}{r:Ru}(hk:k<A.length)(hr:A[k]=r)(h:inB B r=false):bey (A.take (k+1)) B=bey (A.take k) B++[r]:=by
 rw[List.take_succ_eq_append_getElem hk,hr];simp[bey,h]
def opsS (s:Int)(a:Bool)(L:List Ru):List Op8:=L.map fun r=>⟨s,a,r⟩
theorem ops_app (s:Int)(a:Bool)(L:List Ru)(r:Ru):opsS s a (L++[r])=opsS s a L++[⟨s,a,r⟩]:=by simp[opsS]
theorem ops_len (s:Int)(a:Bool)(L:List Ru):(opsS s a L).length=L.length:=by simp[opsS]
theorem opsS_of {A B:List Ru}(s:Int)(h:twN A B=0):opsS s false (bey A B)++opsS s true (bey B A)=ofS s (dfL A B):=by
 rw[dfL,if_pos h];simp only[opsS,ofS,taken,added,List.map_append,List.map_map];rfl
theorem bey_few (A B:List Ru)(k:Nat):(bey (A.take k) B).length≤A.length:=by
 have h1:(bey (A.take k) B).length≤(A.take k).length:=List.length_filter_le _ _;have h2:=List.length_take_le' k A;omega
theorem refDiff_any (ao:AdQ)(n cap:Nat)(ao2:AdQ)(n2 cap2:Nat)(s:Int)(A B:List Ru)(w:World)(hA:SR w (.slice ao n cap) A)(hB:SR w (.slice ao2 n2 cap2) B)(h1:A.length≤12)(h2:B.length≤12):
 Calls prog 33 #[.slice ao n cap,.slice ao2 n2 cap2,.int i64 s] w fun e w'=>∃v,e=.returned v∧NO w' w.heap.size v (opsS s false (bey A B)++opsS s true (bey B A))∧Below w.heap.size w w':=by
 obtain⟨ao',n',cap',e,hn,hn2,hn3,ha⟩:=hA.form;cases e;obtain⟨ao',n',cap',e,hm,hm2,hm3,hb⟩:=hB.form;cases e;have HN:Hid (A.length=n):=hn;have HM:Hid (B.length=n2):=hm;have HA:Hid (0<n→∃g o,ao=some ⟨g,o,none⟩∧RAt w g o A∧cap≤maxLen):=ha;have HA2:Hid (0<n2→∃g o,ao2=some ⟨g,o,none⟩∧RAt w g o B∧cap2≤maxLen):=hb;have HSA:Hid (SR w (.slice ao n cap) A):=hA;have HSB:Hid (SR w (.slice ao2 n2 cap2) B):=hB;have n12:n≤12:=by omega
 have m12:n2≤12:=by omega
 clear hn ha hm hb hA hB hn2 hm2 h1 h2;go_enter func33,ntmps33;go_wp2
 go_loopw [7,8] (fun x i wr=>∃k:Nat,k≤n∧i=.int i64 k∧NO wr w.heap.size x (opsS s false (bey (A.take k) B))∧Below w.heap.size w wr) (fun x i _=>n-(intOf i).toNat)
 case atStart=>exact⟨0,by omega,rfl,NO.nil _ _,bRQ _ _⟩
 case round =>
  obtain⟨k,hk,rfl,hO,hB⟩:=hrel;have HB:Hid (Below w.heap.size w wr):=hB;have HO:Hid (NO wr w.heap.size u7 (opsS s false (bey (A.take k) B))):=hO;clear hO;by_cases hlt:k<n
  ·obtain⟨g,og,hao,hc,_⟩:=HA.out (by omega);subst hao;have HCk:Hid (RAt w g og A):=hc;obtain⟨p,m,b,q,t,v,hkl,hL,q0,q1,q2,q3,q4,q5⟩:=(hc.later hB).at HN.out hlt;have HL:Hid (A[k]=⟨p,m,b,q,t,v⟩):=hL;have hlt0:g<wr.heap.size:=bLQ _ _ q0;clear hL hB hc
   go_wp2_with fail
   refine (refIn_any ao2 n2 cap2 p m b q t v B _ (HSB.out.later HB.out)).mono ?_;rintro e w1 ⟨rfl,hb1⟩;have HB1:Hid (Below w.heap.size w w1):=HB.out.trans (hb1.mono HB.out.size);have HO1:Hid (NO w1 w.heap.size u7 (opsS s false (bey (A.take k) B))):=HO.out.later hb1;clear hb1 q0 q1 q2 q3 q4 q5;cases hi:inB B ⟨p,m,b,q,t,v⟩
   ·obtain⟨p',m',b',q',t',v',_,hL2,q0,q1,q2,q3,q4,q5⟩:=(HCk.out.later HB1.out).at HN.out hlt;rw[HL.out] at hL2;simp only[Ru.mk.injEq] at hL2;obtain⟨rfl,rfl,rfl,rfl,rfl,rfl⟩:=hL2;have hBB:Below w1.heap.size w1 (w1.alloc (.cells #[.int i64 s,.bool false,.int i64 p,.int i64 m,.int i64 b,.int i64 q,.int i64 t,.int i64 v] 90)):=(bRQ _ _).alloc (nLQ _) _;have HRW:=op_row w1 s false p m b q t v 90;have HLN:Hid ((opsS s false (bey (A.take k) B)).length≤12):=by
     have:=bey_few A B k;show _≤_;rw[ops_len];have:=HN.out;omega
    go_wp2_with (at_builtin;refine wpList_append_ops _ rfl _ _ 39 rfl underlying39 w.heap.size _ rfl _ (HO1.out.later hBB) _ rfl _ HRW (by have:=HLN.out;simp at this ⊢;omega) (HB1.out.trans (hBB.mono HB1.out.size)).size ?_)
    intro v' w3 hown3 hgrow;have HO3:Hid (NO w3 w.heap.size v' (opsS s false (bey (A.take (k+1)) B))):=by
     show NO _ _ _ _;rw[bey_yes hkl HL.out hi,ops_app];exact hown3
    have HB3:Hid (Below w.heap.size w w3):=(HB1.out.trans (hBB.mono HB1.out.size)).grown hgrow (HB1.out.trans (hBB.mono HB1.out.size)).size (fun g hg=>((HO1.out.later hBB).lt g hg).1);clear hown3 hgrow hBB HRW q0 q1 q2 q3 q4 q5;go_wp2;go_roundw
    case rel=>exact⟨k+1,by omega,by go_num,HO3.out,HB3.out⟩
    case measure=>simp[intOf];omega
   go_wp2;go_roundw
   case rel=>exact⟨k+1,by omega,by go_num,by rw[bey_no hkl HL.out hi];exact HO1.out,HB1.out⟩
   case measure=>simp[intOf];omega
  obtain rfl:k=n:=by omega
  have HO2:Hid (NO wr w.heap.size u7 (opsS s false (bey A B))):=by
   have:=HO.out;rw[←HN.out,List.take_length] at this;exact this
  clear HO hB HA hlt;go_wp2
  go_loopw [7,10] (fun x i w2=>∃j:Nat,j≤n2∧i=.int i64 j∧NO w2 w.heap.size x (opsS s false (bey A B)++opsS s true (bey (B.take j) A))∧Below w.heap.size w w2) (fun x i _=>n2-(intOf i).toNat)
  case atStart=>exact⟨0,by omega,rfl,by simpa[opsS,bey] using HO2.out,HB.out⟩
  case round =>
   obtain⟨j,hj,rfl,hO,hB⟩:=hrel;clear HB HO2;have HB:Hid (Below w.heap.size w wr):=hB;have HO:Hid (NO wr w.heap.size u7 (opsS s false (bey A B)++opsS s true (bey (B.take j) A))):=hO;clear hO;by_cases hlt:j<n2
   ·obtain⟨g,og,hao,hc,_⟩:=HA2.out (by omega);subst hao;have HCk:Hid (RAt w g og B):=hc;obtain⟨p,m,b,q,t,v,hkl,hL,q0,q1,q2,q3,q4,q5⟩:=(hc.later hB).at HM.out hlt;have HL:Hid (B[j]=⟨p,m,b,q,t,v⟩):=hL;clear hL hB hc
    go_wp2_with fail
    refine (refIn_any ao k cap p m b q t v A _ (HSA.out.later HB.out)).mono ?_;rintro e w1 ⟨rfl,hb1⟩;have HB1:Hid (Below w.heap.size w w1):=HB.out.trans (hb1.mono HB.out.size);have HO1:Hid (NO w1 w.heap.size u7 (opsS s false (bey A B)++opsS s true (bey (B.take j) A))):=HO.out.later hb1;clear hb1 q0 q1 q2 q3 q4 q5;cases hi:inB A ⟨p,m,b,q,t,v⟩
    ·obtain⟨p',m',b',q',t',v',_,hL2,q0,q1,q2,q3,q4,q5⟩:=(HCk.out.later HB1.out).at HM.out hlt;rw[HL.out] at hL2;simp only[Ru.mk.injEq] at hL2;obtain⟨rfl,rfl,rfl,rfl,rfl,rfl⟩:=hL2;have hBB:Below w1.heap.size w1 (w1.alloc (.cells #[.int i64 s,.bool true,.int i64 p,.int i64 m,.int i64 b,.int i64 q,.int i64 t,.int i64 v] 90)):=(bRQ _ _).alloc (nLQ _) _;have HRW:=op_row w1 s true p m b q t v 90;have HLN:Hid ((opsS s false (bey A B)++opsS s true (bey (B.take j) A)).length≤24):=by
      have h1:=bey_few B A j;have h2:(bey A B).length≤A.length:=List.length_filter_le _ _;show _≤_;rw[List.length_append,ops_len,ops_len];have:=HN.out;have:=HM.out;omega
     go_wp2_with (at_builtin;refine wpList_append_ops _ rfl _ _ 39 rfl underlying39 w.heap.size _ rfl _ (HO1.out.later hBB) _ rfl _ HRW (by have:=HLN.out;simp at this ⊢;omega) (HB1.out.trans (hBB.mono HB1.out.size)).size ?_)
     intro v' w3 hown3 hgrow;have HO3:Hid (NO w3 w.heap.size v' (opsS s false (bey A B)++opsS s true (bey (B.take (j+1)) A))):=by
      show NO _ _ _ _;rw[bey_yes hkl HL.out hi,ops_app];exact hown3
     have HB3:Hid (Below w.heap.size w w3):=(HB1.out.trans (hBB.mono HB1.out.size)).grown hgrow (HB1.out.trans (hBB.mono HB1.out.size)).size (fun g hg=>((HO1.out.later hBB).lt g hg).1);clear hown3 hgrow hBB HRW q0 q1 q2 q3 q4 q5;go_wp2;go_roundw
     case rel=>exact⟨j+1,by omega,by go_num,HO3.out,HB3.out⟩
     case measure=>simp[intOf];omega
    go_wp2;go_roundw
    case rel=>exact⟨j+1,by omega,by go_num,by rw[bey_no hkl HL.out hi];exact HO1.out,HB1.out⟩
    case measure=>simp[intOf];omega
   obtain rfl:j=n2:=by omega
   have HO2:Hid (NO wr w.heap.size u7 (opsS s false (bey A B)++opsS s true (bey B A))):=by
    have:=HO.out;rw[←HM.out,List.take_length] at this;exact this
   clear HO hB hlt;go_wp2;go_ret;exact⟨_,rfl,HO2.out,HB.out⟩
theorem cd_next {As Bs:TsQ}{k:Nat}(h:twN (As.getD k []) (Bs.getD k [])=0):cdL As Bs k++(opsS ((k+1:Nat):Int) false (bey (As.getD k []) (Bs.getD k []))++opsS ((k+1:Nat):Int) true (bey (Bs.getD k []) (As.getD k [])))=cdL As Bs (k+1):=by
 rw[opsS_of _ h,cdL];rfl
theorem refChanges_any (S:Int)(v1 v2:Value)(ao3:AdQ)(n3 cap3:Nat)(S':Int)(u1 u2:Value)(bo3:AdQ)(m3 dap3:Nat)(As Bs:TsQ)(w:World)(h1:v1.oneCell'=true)(h2:v2.oneCell'=true)(h3:u1.oneCell'=true)(h4:u2.oneCell'=true)
 (hT:TS w (.slice ao3 n3 cap3) As) (hT':TS w (.slice bo3 m3 dap3) Bs) (hl:As.length=Bs.length) (h8:As.length≤1000) (ht:∀j,twN (As.getD j []) (Bs.getD j [])=0):
 Calls prog 13 #[.agg #[.int i64 S,v1,v2,.slice ao3 n3 cap3],.agg #[.int i64 S',u1,u2,.slice bo3 m3 dap3]] w fun e w'=>∃v,e=.returned v∧NO w' w.heap.size v (cdL As Bs As.length)∧Below w.heap.size w w':=by
 have hb0:Below w.heap.size w ((w.alloc (.cells #[.int i64 S,v1,v2,.slice ao3 n3 cap3] 28)).alloc (.cells #[.int i64 S',u1,u2,.slice bo3 m3 dap3] 28)):=((bRQ _ _).alloc (nLQ _) _).alloc (by simp) _;have HNN:=nn_new w S v1 v2 (.slice ao3 n3 cap3) S' u1 u2 (.slice bo3 m3 dap3) 28;have HB0:Hid (Below w.heap.size w ((w.alloc (.cells #[.int i64 S,v1,v2,.slice ao3 n3 cap3] 28)).alloc (.cells #[.int i64 S',u1,u2,.slice bo3 m3 dap3] 28))):=hb0;obtain⟨_,_,_,e,hn,hn2,hn3,ha⟩:=hT.form;cases e;obtain⟨_,_,_,e,hm,hm2,hm3,hb⟩:=hT'.form;cases e;obtain rfl:n3=m3:=by omega
 have HN:Hid (As.length=n3):=hn;have HM:Hid (Bs.length=n3):=hm;have HA:Hid (0<n3→∃g o,ao3=some ⟨g,o,none⟩∧TAt w g o As∧cap3≤maxLen):=ha;have HA2:Hid (0<n3→∃g o,bo3=some ⟨g,o,none⟩∧TAt w g o Bs∧dap3≤maxLen):=hb;have HTW:Hid (∀j,twN (As.getD j []) (Bs.getD j [])=0):=ht;have n1000:n3≤1000:=by omega
 clear hT hT' hn ha hm hb hn2 hm2 hb0 ht hl h8;go_enter func13,ntmps13;go_wp2
 go_loopw [5,6] (fun x i wr=>∃k:Nat,k≤n3∧i=.int i64 k∧NO wr (w.heap.size+2) x (cdL As Bs k)∧NN wr w.heap.size S v1 v2 (.slice ao3 n3 cap3) S' u1 u2 (.slice bo3 n3 dap3)∧Below w.heap.size w wr) (fun x i _=>n3-(intOf i).toNat)
 case atStart=>exact⟨0,by omega,rfl,NO.nil _ _,HNN,HB0.out⟩
 case round =>
  obtain⟨k,hk,rfl,hO,hX,hB⟩:=hrel;clear HNN HB0;have HB:Hid (Below w.heap.size w wr):=hB;have HO:Hid (NO wr (w.heap.size+2) u5 (cdL As Bs k)):=hO;have HX:Hid (NN wr w.heap.size S v1 v2 (.slice ao3 n3 cap3) S' u1 u2 (.slice bo3 n3 dap3)):=hX;obtain⟨⟨p0,p1,p2,p3⟩,s0,s1,s2,s3⟩:=hX;have hlt1:w.heap.size<wr.heap.size:=bLQ _ _ p0;have hlt2:w.heap.size+1<wr.heap.size:=bLQ _ _ s0;clear hO;by_cases hlt:k<n3
  ·obtain⟨g,og,hao,hc,_⟩:=HA.out (by omega);obtain⟨f,of,hbo,hd,_⟩:=HA2.out (by omega);subst hao hbo;obtain⟨a3,l3,c3,r0,hG3⟩:=(hc.later hB) k (by rw[HN.out];exact hlt);obtain⟨a4,l4,c4,r1,hG4⟩:=(hd.later hB) k (by rw[HM.out];exact hlt);have HG3:Hid (SR wr (.slice a3 l3 c3) (As.getD k [])):=by
    show SR _ _ _;rw[getT (by rw[HN.out];exact hlt)];exact hG3
   have HG4:Hid (SR wr (.slice a4 l4 c4) (Bs.getD k [])):=by
    show SR _ _ _;rw[getT (by rw[HM.out];exact hlt)];exact hG4
   have kb0:(0:Int)≤(k:Int):=by omega
   have kb1:(k:Int)<(n3:Int):=by omega
   have kw:IntKind.i64.wrap ((k:Int)+1)=((k+1:Nat):Int):=by rw[IntKind.wrap_i64];omega
   have HDF:Hid (∀W,Below wr.heap.size wr W→Calls prog 33 #[.slice a3 l3 c3,.slice a4 l4 c4,.int i64 ((k+1:Nat):Int)] W fun e w'=>∃v,e=.returned v∧NO w' wr.heap.size v (opsS ((k+1:Nat):Int) false (bey (As.getD k []) (Bs.getD k []))++opsS ((k+1:Nat):Int) true (bey (Bs.getD k []) (As.getD k [])))∧Below wr.heap.size wr w'):=fun W hW=>by
    have hw0:=tw_two (HTW.out k);refine (refDiff_any a3 l3 c3 a4 l4 c4 _ _ _ W (HG3.out.later hW) (HG4.out.later hW) (tb_iff.1 hw0.1).1 (tb_iff.1 hw0.2).1).mono ?_;rintro e w' ⟨v,e1,e2,e3⟩;exact⟨v,e1,e2.mono hW.size,hW.trans (e3.mono hW.size)⟩
   have HMK:Hid (∀W,Below wr.heap.size wr W→Below wr.heap.size wr W∧W.cell? ⟨w.heap.size,3,none⟩=some (.slice (some ⟨g,og,none⟩) n3 cap3)∧W.cell? ⟨w.heap.size+1,3,none⟩=some (.slice (some ⟨f,of,none⟩) n3 dap3)∧W.cell? ⟨g,og+k,none⟩=some (.slice a3 l3 c3)∧W.cell? ⟨f,of+k,none⟩=some (.slice a4 l4 c4)):=by
    intro W hW;obtain⟨⟨_,_,_,c1⟩,_,_,_,c2⟩:=HX.out.later hW;exact⟨hW,c1,c2,cell_later hW r0,cell_later hW r1⟩
   have HLN:Hid ((cdL As Bs k).length≤24000∧(opsS ((k+1:Nat):Int) false (bey (As.getD k []) (Bs.getD k []))++opsS ((k+1:Nat):Int) true (bey (Bs.getD k []) (As.getD k []))).length≤24000):=by
    have h1:=cd_few HTW.out k;have h2:=cd_few HTW.out (k+1);rw[←cd_next (HTW.out k),List.length_append] at h2;constructor <;> omega
   clear hc hd hB hG3 hG4;go_upto_region 5 with fail
   go_cut [7] from 8 to 30 (fun v w'=>NO w' wr.heap.size v (opsS ((k+1:Nat):Int) false (bey (As.getD k []) (Bs.getD k []))++opsS ((k+1:Nat):Int) true (bey (Bs.getD k []) (As.getD k [])))∧Below wr.heap.size wr w')
   case first =>
    go_region_held3 (fun W=>Below wr.heap.size wr W∧W.cell? ⟨w.heap.size,3,none⟩=some (.slice (some ⟨g,og,none⟩) n3 cap3)∧W.cell? ⟨w.heap.size+1,3,none⟩=some (.slice (some ⟨f,of,none⟩) n3 dap3)∧W.cell? ⟨g,og+k,none⟩=some (.slice a3 l3 c3)∧W.cell? ⟨f,of+k,none⟩=some (.slice a4 l4 c4))
     (first | assumption | exact HMK.out _ (Below.drew (bRQ _ _)) | exact HMK.out _ HBX.out)
     (first | (go_at_call 33;refine (HDF.out _ (by first | exact Below.drew (bRQ _ _) | exact bRQ _ _)).mono ?_;rintro e w' ⟨v,rfl,hG,hb⟩;have HBX:Hid (Below wr.heap.size wr w'):=hb;have HGX:Hid (NO w' wr.heap.size v (opsS ((k+1:Nat):Int) false (bey (As.getD k []) (Bs.getD k []))++opsS ((k+1:Nat):Int) true (bey (Bs.getD k []) (As.getD k [])))):=hG;clear hb hG))
    all_goals (go_wp2_with fail;go_meet)
    all_goals exact⟨HGX.out,HBX.out⟩
   case rest =>
    obtain⟨hG,hb⟩:=hcut;have HBc:Hid (Below w.heap.size w wc):=HB.out.trans (hb.mono HB.out.size);have HOc:Hid (NO wc (w.heap.size+2) u5 (cdL As Bs k)):=HO.out.later hb;have HXc:Hid (NN wc w.heap.size S v1 v2 (.slice (some ⟨g,og,none⟩) n3 cap3) S' u1 u2 (.slice (some ⟨f,of,none⟩) n3 dap3)):=HX.out.later hb;have HGc:=hG.gs;have HSZ:Hid (w.heap.size+2≤wc.heap.size):=Nat.le_trans (by omega) hb.size;clear hG hb HDF HMK r0 r1 p0 p1 p2 p3 s0 s1 s2 s3
    go_wp2_with (at_builtin;refine wpList_append_ops _ rfl _ _ 39 rfl underlying39 (w.heap.size+2) _ rfl _ HOc.out _ rfl _ HGc (by have:=HLN.out;omega) HSZ.out ?_)
    intro v' w3 hown3 hgrow;have HO3:Hid (NO w3 (w.heap.size+2) v' (cdL As Bs (k+1))):=by
     show NO _ _ _ _;rw[←cd_next (HTW.out k)];exact hown3
    have HB3:Hid (Below w.heap.size w w3):=HBc.out.grown hgrow HBc.out.size (fun g hg=>by have:=(HOc.out.lt g hg).1;omega);have HX3:Hid (NN w3 w.heap.size S v1 v2 (.slice (some ⟨g,og,none⟩) n3 cap3) S' u1 u2 (.slice (some ⟨f,of,none⟩) n3 dap3)):=HXc.out.grown hgrow (fun g hg=>(HOc.out.lt g hg).1);clear hown3 hgrow HGc;go_wp2;go_roundw
    case rel=>exact⟨k+1,by omega,by go_num,HO3.out,HX3.out,HB3.out⟩
    case measure=>simp[intOf];omega
  obtain rfl:k=n3:=by omega
  have HO2:Hid (NO wr w.heap.size u5 (cdL As Bs As.length)):=by
   show NO _ _ _ _;rw[HN.out];exact HO.out.mono (by omega)
  clear hB;go_wp2;go_ret;exact⟨_,rfl,HO2.out,HB.out⟩
theorem refAlike_any (S:Int)(ao:AdQ)(n cap:Nat)(ao2:AdQ)(n2 cap2:Nat)(Ls:LkQ)(Hs:HoQ)(S':Int)(bo:AdQ)(m cap3:Nat)(bo2:AdQ)(m2 cap4:Nat)(Ls':LkQ)(Hs':HoQ)(w:World)
 (hL:GS lnkE w (.slice ao n cap) Ls) (hH:GS hstE w (.slice ao2 n2 cap2) Hs) (hL':GS lnkE w (.slice bo m cap3) Ls') (hH':GS hstE w (.slice bo2 m2 cap4) Hs'):
 Calls prog 26 #[.agg #[.int i64 S,.slice ao n cap,.slice ao2 n2 cap2],.agg #[.int i64 S',.slice bo m cap3,.slice bo2 m2 cap4]] w fun e w'=>e=.returned (.bool (tpB S S' Ls Ls' Hs Hs'))∧Below w.heap.size w w':=by
 obtain⟨_,_,_,e,hn,hn2,hn3,ha⟩:=hL.form;cases e;obtain⟨_,_,_,e,hm,hm2,hm3,hb⟩:=hL'.form;cases e;obtain⟨_,_,_,e,gn,gn2,gn3,ga⟩:=hH.form;cases e;obtain⟨_,_,_,e,gm,gm2,gm3,gb⟩:=hH'.form;cases e;have HN1:Hid (Ls.length=n):=hn;have HM1:Hid (Ls'.length=m):=hm;have HN2:Hid (Hs.length=n2):=gn;have HM2:Hid (Hs'.length=m2):=gm;have HA1:Hid (0<n→∃g o,ao=some ⟨g,o,none⟩∧GAt lnkE w g o Ls∧cap≤maxLen):=ha;have HB1:Hid (0<m→∃g o,bo=some ⟨g,o,none⟩∧GAt lnkE w g o Ls'∧cap3≤maxLen):=hb;have HA2:Hid (0<n2→∃g o,ao2=some ⟨g,o,none⟩∧GAt hstE w g o Hs∧cap2≤maxLen):=ga;have HB2:Hid (0<m2→∃g o,bo2=some ⟨g,o,none⟩∧GAt hstE w g o Hs'∧cap4≤maxLen):=gb;have n63:n≤9223372036854775807:=by unfold maxLen at hn2;omega
 have n263:n2≤9223372036854775807:=by unfold maxLen at gn2;omega
 have HT:Hid (TT ((w.alloc (.cells #[.int i64 S,.slice ao n cap,.slice ao2 n2 cap2] 25)).alloc (.cells #[.int i64 S',.slice bo m cap3,.slice bo2 m2 cap4] 25)) w.heap.size S S' (.slice ao n cap) (.slice ao2 n2 cap2) (.slice bo m cap3) (.slice bo2 m2 cap4)):=tt_new w S S' _ _ _ _ 25;have HBW:Hid (Below w.heap.size w ((w.alloc (.cells #[.int i64 S,.slice ao n cap,.slice ao2 n2 cap2] 25)).alloc (.cells #[.int i64 S',.slice bo m cap3,.slice bo2 m2 cap4] 25))):=((bRQ _ _).alloc (nLQ _) _).alloc (by simp) _;clear hL hH hL' hH' hn ha hm hb hn2 hm2 gn ga gm gb gn2 gm2;obtain⟨R,hR⟩:∃R,R=tpB S S' Ls Ls' Hs Hs':=⟨_,rfl⟩;have HR:Hid (R=tpB S S' Ls Ls' Hs Hs'):=hR;rw[←hR];clear hR;by_cases hl:S=S'∧n=m∧n2=m2
 ·obtain⟨rfl,rfl,rfl⟩:=hl;have and_no1:smG lnkB Ls Ls'=false→tpB S S Ls Ls' Hs Hs'=false:=fun h=>by rw[tpB,h];simp
  have and_no2:smG hstB Hs Hs'=false→tpB S S Ls Ls' Hs Hs'=false:=fun h=>by rw[tpB,h];simp
  have e1:(S==S)=true:=by simp
  have e2:((n:Int)==(n:Int))=true:=by simp
  have e3:((n2:Int)==(n2:Int))=true:=by simp
  go_enter func26,ntmps26;go_wp2
  go_loopw [5] (fun i wr=>∃k1:Nat,k1≤n∧i=.int i64 k1∧(∀j,j<k1→∀(h1:j<Ls.length) (h2:j<Ls'.length),lnkB Ls[j] Ls'[j]=true)∧TT wr w.heap.size S S (.slice ao n cap) (.slice ao2 n2 cap2) (.slice bo n cap3) (.slice bo2 n2 cap4)∧Below w.heap.size w wr) (fun i _=>n-(intOf i).toNat)
  case atStart=>exact⟨0,by omega,rfl,fun j hj=>absurd hj (by omega),HT.out,HBW.out⟩
  case round =>
   obtain⟨k1,hk,rfl,hall,hT,hB⟩:=hrel;clear HT HBW;have HB:Hid (Below w.heap.size w wr):=hB;have HT2:Hid (TT wr w.heap.size S S (.slice ao n cap) (.slice ao2 n2 cap2) (.slice bo n cap3) (.slice bo2 n2 cap4)):=hT;have HALL:Hid (∀j,j<k1→∀(h1:j<Ls.length) (h2:j<Ls'.length),lnkB Ls[j] Ls'[j]=true):=hall;obtain⟨⟨p0,p1,p2⟩,s0,s1,s2⟩:=hT;have hlt1:w.heap.size<wr.heap.size:=bLQ _ _ p0;have hlt2:w.heap.size+1<wr.heap.size:=bLQ _ _ s0;clear hall;by_cases hlt:k1<n
   ·obtain⟨g,og,hao,hc,_⟩:=HA1.out (by omega);obtain⟨g2,og2,hao2,hc2,_⟩:=HB1.out (by omega);subst hao hao2;obtain⟨x0,x1,x2,x3,hkl,hLk,q0,q1,q2,q3⟩:=lnk_at (hc.later hB) HN1.out hlt;obtain⟨y0,y1,y2,y3,hkm,hMk,r0,r1,r2,r3⟩:=lnk_at (hc2.later hB) HM1.out hlt;have HCE:Hid (LC w w.heap.size S S (.slice (some ⟨g,og,none⟩) n cap) (.slice ao2 n2 cap2) (.slice (some ⟨g2,og2,none⟩) n cap3) (.slice bo2 n2 cap4) g (og+k1*4) x0 x1 x2 x3 g2 (og2+k1*4) y0 y1 y2 y3 wr):=⟨hB,⟨p0,p1,p2⟩,⟨s0,s1,s2⟩,⟨q0,q1,q2,q3⟩,r0,r1,r2,r3⟩;have HLK:Hid (Ls[k1]=((x0,x1),(x2,x3))∧Ls'[k1]=((y0,y1),(y2,y3))):=⟨hLk,hMk⟩;clear q0 q1 q2 q3 r0 r1 r2 r3 hB hc hc2 hLk hMk HA1 HB1;go_upto_region 6 with fail;have kb0:(0:Int)≤(k1:Int):=by omega
    have kb1:(k1:Int)<(n:Int):=by omega
    clear p0 p1 p2 s0 s1 s2
    go_cut [47] from 30 to 47 (fun c w'=>c=.bool (!lnkB ((x0,x1),(x2,x3)) ((y0,y1),(y2,y3)))∧TT w' w.heap.size S S (.slice (some ⟨g,og,none⟩) n cap) (.slice ao2 n2 cap2) (.slice (some ⟨g2,og2,none⟩) n cap3) (.slice bo2 n2 cap4)∧Below w.heap.size w w')
    case first =>
     as_aux_lemma =>
      refine wp_region_quiet (C:=LC w w.heap.size S S (.slice (some ⟨g,og,none⟩) n cap) (.slice ao2 n2 cap2) (.slice (some ⟨g2,og2,none⟩) n cap3) (.slice bo2 n2 cap4) g (og+k1*4) x0 x1 x2 x3 g2 (og2+k1*4) y0 y1 y2 y3) (by kernel_rfl) (by kernel_rfl) (LC.later (W:=wr) (Below.drew (bRQ _ _)) HCE.out) ?_;simp only[List.toList_toArray];go_big_quiet_want;refine qv (.pointer (some ⟨w.heap.size,1,none⟩)) ?_ ?_
      ·rintro w' ⟨z,⟨t0,t1,t2⟩,⟨s0,s1,s2⟩,⟨z0,z1,z2,z3⟩,u0,u1,u2,u3⟩;go_simp
      simp only[Act.put,AP];go_big_quiet_on;go_big_quiet_want;refine qv (.slice (some ⟨g,og,none⟩) n cap) ?_ ?_
      ·rintro w' ⟨z,⟨t0,t1,t2⟩,⟨s0,s1,s2⟩,⟨z0,z1,z2,z3⟩,u0,u1,u2,u3⟩;go_simp
      simp only[Act.put,AP];go_big_quiet_on;go_big_quiet_want;refine qv (.int i64 (k1:Int)) ?_ ?_
      ·rintro w' ⟨z,⟨t0,t1,t2⟩,⟨s0,s1,s2⟩,⟨z0,z1,z2,z3⟩,u0,u1,u2,u3⟩;go_simp
      simp only[Act.put,AP];go_big_quiet_on;go_big_quiet_want;refine qv (.pointer (some ⟨g,og+k1*4,none⟩)) ?_ ?_
      ·rintro w' ⟨z,⟨t0,t1,t2⟩,⟨s0,s1,s2⟩,⟨z0,z1,z2,z3⟩,u0,u1,u2,u3⟩;go_simp
      simp only[Act.put,AP];go_big_quiet_on;go_big_quiet_want;refine qv (.agg #[.int i64 x0,.int i64 x1,.int i64 x2,.int i64 x3]) ?_ ?_
      ·rintro w' ⟨z,⟨t0,t1,t2⟩,⟨s0,s1,s2⟩,⟨z0,z1,z2,z3⟩,u0,u1,u2,u3⟩;go_simp
      simp only[Act.put,AP];go_big_quiet_on;go_big_quiet_want;refine qv (.pointer (some ⟨w.heap.size+1,1,none⟩)) ?_ ?_
      ·rintro w' ⟨z,⟨t0,t1,t2⟩,⟨s0,s1,s2⟩,⟨z0,z1,z2,z3⟩,u0,u1,u2,u3⟩;go_simp
      simp only[Act.put,AP];go_big_quiet_on;go_big_quiet_want;refine qv (.slice (some ⟨g2,og2,none⟩) n cap3) ?_ ?_
      ·rintro w' ⟨z,⟨t0,t1,t2⟩,⟨s0,s1,s2⟩,⟨z0,z1,z2,z3⟩,u0,u1,u2,u3⟩;go_simp
      simp only[Act.put,AP];go_big_quiet_on;go_big_quiet_want;refine qv (.int i64 (k1:Int)) ?_ ?_
      ·rintro w' ⟨z,⟨t0,t1,t2⟩,⟨s0,s1,s2⟩,⟨z0,z1,z2,z3⟩,u0,u1,u2,u3⟩;go_simp
      simp only[Act.put,AP];go_big_quiet_on;go_big_quiet_want;refine qv (.pointer (some ⟨g2,og2+k1*4,none⟩)) ?_ ?_
      ·rintro w' ⟨z,⟨t0,t1,t2⟩,⟨s0,s1,s2⟩,⟨z0,z1,z2,z3⟩,u0,u1,u2,u3⟩;go_simp
      simp only[Act.put,AP];go_big_quiet_on;go_big_quiet_want;refine qv (.agg #[.int i64 y0,.int i64 y1,.int i64 y2,.int i64 y3]) ?_ ?_
      ·rintro w' ⟨z,⟨t0,t1,t2⟩,⟨s0,s1,s2⟩,⟨z0,z1,z2,z3⟩,u0,u1,u2,u3⟩;go_simp
      simp only[Act.put,AP];go_big_quiet_on;go_big_quiet_want;refine quiet_val (v:=.bool (!lnkB ((x0,x1),(x2,x3)) ((y0,y1),(y2,y3)))) (fun w' hC=>exec_bin rfl (by go_simp) (run_neq_of (lnk_eq x0 x1 x2 x3 y0 y1 y2 y3 w'))) ?_;simp only[Act.put,AP];go_big_quiet_on;refine wpQuiet_nil ?_;intro w' hC
      go_wp2_with fail
      go_meet
      case rel=>exact⟨rfl,⟨hC.2.1,hC.2.2.1⟩,hC.1⟩
    case rest =>
     obtain⟨rfl,hTT,hB2⟩:=hcut;have HB3:Hid (Below w.heap.size w wc):=hB2;have HT3:Hid (TT wc w.heap.size S S (.slice (some ⟨g,og,none⟩) n cap) (.slice ao2 n2 cap2) (.slice (some ⟨g2,og2,none⟩) n cap3) (.slice bo2 n2 cap4)):=hTT;clear HCE hB2 hTT;cases ho:lnkB ((x0,x1),(x2,x3)) ((y0,y1),(y2,y3))
     ·have HF:Hid (R=false):=by
       show R=false;rw[HR.out];exact and_no1 (smG_no hkl hkm (by rw[HLK.out.1,HLK.out.2];exact ho))
      go_wp2;go_ret;exact⟨by rw[HF.out];rfl,HB3.out⟩
     have HAL2:Hid (∀j,j<k1+1→∀(h1:j<Ls.length) (h2:j<Ls'.length),lnkB Ls[j] Ls'[j]=true):=by
      intro j hj h1 h2;by_cases e:j=k1
      ·subst e;rw[HLK.out.1,HLK.out.2];exact ho
      exact HALL.out j (by omega) h1 h2
     clear ho;go_wp2;go_roundw
     case rel=>exact⟨k1+1,by omega,by go_num,HAL2.out,HT3.out,HB3.out⟩
     case measure=>simp[intOf];omega
   obtain rfl:k1=n:=by omega
   have HS1:Hid (smG lnkB Ls Ls'=true):=smG_iff.2 ⟨by rw[HN1.out,HM1.out],fun i h1 h2=>HALL.out i (by rw[HN1.out] at h1;exact h1) h1 h2⟩;clear HALL hlt hB HA1 HB1;go_wp2
   go_loopw [6] (fun i wr=>∃k:Nat,k≤n2∧i=.int i64 k∧(∀j,j<k→∀(h1:j<Hs.length) (h2:j<Hs'.length),hstB Hs[j] Hs'[j]=true)∧TT wr w.heap.size S S (.slice ao k1 cap) (.slice ao2 n2 cap2) (.slice bo k1 cap3) (.slice bo2 n2 cap4)∧Below w.heap.size w wr) (fun i _=>n2-(intOf i).toNat)
   case atStart=>exact⟨0,by omega,rfl,fun j hj=>absurd hj (by omega),HT2.out,HB.out⟩
   case round =>
    obtain⟨k,hk,rfl,hall,hT,hB⟩:=hrel;clear HT2 HB;have HB:Hid (Below w.heap.size w wr):=hB;have HT2:Hid (TT wr w.heap.size S S (.slice ao k1 cap) (.slice ao2 n2 cap2) (.slice bo k1 cap3) (.slice bo2 n2 cap4)):=hT;have HALL:Hid (∀j,j<k→∀(h1:j<Hs.length) (h2:j<Hs'.length),hstB Hs[j] Hs'[j]=true):=hall;obtain⟨⟨p0,p1,p2⟩,s0,s1,s2⟩:=hT;have hlt1:w.heap.size<wr.heap.size:=bLQ _ _ p0;have hlt2:w.heap.size+1<wr.heap.size:=bLQ _ _ s0;clear hall;by_cases hlt:k<n2
    ·obtain⟨g,og,hao,hc,_⟩:=HA2.out (by omega);obtain⟨g2,og2,hao2,hc2,_⟩:=HB2.out (by omega);subst hao hao2;obtain⟨x0,x1,x2,hkl,hLk,q0,q1,q2⟩:=hst_at (hc.later hB) HN2.out hlt;obtain⟨y0,y1,y2,hkm,hMk,r0,r1,r2⟩:=hst_at (hc2.later hB) HM2.out hlt;have HCE:Hid (HC w w.heap.size S S (.slice ao k1 cap) (.slice (some ⟨g,og,none⟩) n2 cap2) (.slice bo k1 cap3) (.slice (some ⟨g2,og2,none⟩) n2 cap4) g (og+k*3) x0 x1 x2 g2 (og2+k*3) y0 y1 y2 wr):=⟨hB,⟨p0,p1,p2⟩,⟨s0,s1,s2⟩,⟨q0,q1,q2⟩,r0,r1,r2⟩;have HLK:Hid (Hs[k]=(x0,(x1,x2))∧Hs'[k]=(y0,(y1,y2))):=⟨hLk,hMk⟩;clear q0 q1 q2 r0 r1 r2 hB hc hc2 hLk hMk HA2 HB2;go_upto_region 11 with fail;have kb0:(0:Int)≤(k:Int):=by omega
     have kb1:(k:Int)<(n2:Int):=by omega
     clear p0 p1 p2 s0 s1 s2
     go_cut [65] from 48 to 65 (fun c w'=>c=.bool (!hstB (x0,(x1,x2)) (y0,(y1,y2)))∧TT w' w.heap.size S S (.slice ao k1 cap) (.slice (some ⟨g,og,none⟩) n2 cap2) (.slice bo k1 cap3) (.slice (some ⟨g2,og2,none⟩) n2 cap4)∧Below w.heap.size w w')
     case first =>
      as_aux_lemma =>
       refine wp_region_quiet (C:=HC w w.heap.size S S (.slice ao k1 cap) (.slice (some ⟨g,og,none⟩) n2 cap2) (.slice bo k1 cap3) (.slice (some ⟨g2,og2,none⟩) n2 cap4) g (og+k*3) x0 x1 x2 g2 (og2+k*3) y0 y1 y2) (by kernel_rfl) (by kernel_rfl) (HC.later (W:=wr) (Below.drew (bRQ _ _)) HCE.out) ?_;simp only[List.toList_toArray];go_big_quiet_want;refine qv (.pointer (some ⟨w.heap.size,2,none⟩)) ?_ ?_
       ·rintro w' ⟨z,⟨t0,t1,t2⟩,⟨s0,s1,s2⟩,⟨z0,z1,z2⟩,u0,u1,u2⟩;go_simp
       simp only[Act.put,AP];go_big_quiet_on;go_big_quiet_want;refine qv (.slice (some ⟨g,og,none⟩) n2 cap2) ?_ ?_
       ·rintro w' ⟨z,⟨t0,t1,t2⟩,⟨s0,s1,s2⟩,⟨z0,z1,z2⟩,u0,u1,u2⟩;go_simp
       simp only[Act.put,AP];go_big_quiet_on;go_big_quiet_want;refine qv (.int i64 (k:Int)) ?_ ?_
       ·rintro w' ⟨z,⟨t0,t1,t2⟩,⟨s0,s1,s2⟩,⟨z0,z1,z2⟩,u0,u1,u2⟩;go_simp
       simp only[Act.put,AP];go_big_quiet_on;go_big_quiet_want;refine qv (.pointer (some ⟨g,og+k*3,none⟩)) ?_ ?_
       ·rintro w' ⟨z,⟨t0,t1,t2⟩,⟨s0,s1,s2⟩,⟨z0,z1,z2⟩,u0,u1,u2⟩;go_simp
       simp only[Act.put,AP];go_big_quiet_on;go_big_quiet_want;refine qv (.agg #[.string x0,.int i64 x1,.int i64 x2]) ?_ ?_
       ·rintro w' ⟨z,⟨t0,t1,t2⟩,⟨s0,s1,s2⟩,⟨z0,z1,z2⟩,u0,u1,u2⟩;go_simp
       simp only[Act.put,AP];go_big_quiet_on;go_big_quiet_want;refine qv (.pointer (some ⟨w.heap.size+1,2,none⟩)) ?_ ?_
       ·rintro w' ⟨z,⟨t0,t1,t2⟩,⟨s0,s1,s2⟩,⟨z0,z1,z2⟩,u0,u1,u2⟩;go_simp
       simp only[Act.put,AP];go_big_quiet_on;go_big_quiet_want;refine qv (.slice (some ⟨g2,og2,none⟩) n2 cap4) ?_ ?_
       ·rintro w' ⟨z,⟨t0,t1,t2⟩,⟨s0,s1,s2⟩,⟨z0,z1,z2⟩,u0,u1,u2⟩;go_simp
       simp only[Act.put,AP];go_big_quiet_on;go_big_quiet_want;refine qv (.int i64 (k:Int)) ?_ ?_
       ·rintro w' ⟨z,⟨t0,t1,t2⟩,⟨s0,s1,s2⟩,⟨z0,z1,z2⟩,u0,u1,u2⟩;go_simp
       simp only[Act.put,AP];go_big_quiet_on;go_big_quiet_want;refine qv (.pointer (some ⟨g2,og2+k*3,none⟩)) ?_ ?_
       ·rintro w' ⟨z,⟨t0,t1,t2⟩,⟨s0,s1,s2⟩,⟨z0,z1,z2⟩,u0,u1,u2⟩;go_simp
       simp only[Act.put,AP];go_big_quiet_on;go_big_quiet_want;refine qv (.agg #[.string y0,.int i64 y1,.int i64 y2]) ?_ ?_
       ·rintro w' ⟨z,⟨t0,t1,t2⟩,⟨s0,s1,s2⟩,⟨z0,z1,z2⟩,u0,u1,u2⟩;go_simp
       simp only[Act.put,AP];go_big_quiet_on;go_big_quiet_want;refine quiet_val (v:=.bool (!hstB (x0,(x1,x2)) (y0,(y1,y2)))) (fun w' hC=>exec_bin rfl (by go_simp) (run_neq_of (hst_eq x0 x1 x2 y0 y1 y2 w'))) ?_;simp only[Act.put,AP];go_big_quiet_on;refine wpQuiet_nil ?_;intro w' hC
       go_wp2_with fail
       go_meet
       case rel=>exact⟨rfl,⟨hC.2.1,hC.2.2.1⟩,hC.1⟩
     case rest =>
      obtain⟨rfl,hTT,hB2⟩:=hcut;have HB3:Hid (Below w.heap.size w wc):=hB2;have HT3:Hid (TT wc w.heap.size S S (.slice ao k1 cap) (.slice (some ⟨g,og,none⟩) n2 cap2) (.slice bo k1 cap3) (.slice (some ⟨g2,og2,none⟩) n2 cap4)):=hTT;clear HCE hB2 hTT;cases ho:hstB (x0,(x1,x2)) (y0,(y1,y2))
      ·have HF:Hid (R=false):=by
        show R=false;rw[HR.out];exact and_no2 (smG_no hkl hkm (by rw[HLK.out.1,HLK.out.2];exact ho))
       go_wp2;go_ret;exact⟨by rw[HF.out];rfl,HB3.out⟩
      have HAL2:Hid (∀j,j<k+1→∀(h1:j<Hs.length) (h2:j<Hs'.length),hstB Hs[j] Hs'[j]=true):=by
       intro j hj h1 h2;by_cases e:j=k
       ·subst e;rw[HLK.out.1,HLK.out.2];exact ho
       exact HALL.out j (by omega) h1 h2
      clear ho;go_wp2;go_roundw
      case rel=>exact⟨k+1,by omega,by go_num,HAL2.out,HT3.out,HB3.out⟩
      case measure=>simp[intOf];omega
    obtain rfl:k=n2:=by omega
    have HS2:Hid (smG hstB Hs Hs'=true):=smG_iff.2 ⟨by rw[HN2.out,HM2.out],fun i h1 h2=>HALL.out i (by rw[HN2.out] at h1;exact h1) h1 h2⟩;clear HALL hlt hB HA2 HB2;have HF:Hid (R=true):=by
     show R=true;rw[HR.out,tpB,HS1.out,HS2.out];simp
    go_wp2;go_ret;exact⟨by rw[HF.out];rfl,HB.out⟩
 have HF:Hid (R=false):=by
  show R=false;rw[HR.out];cases e:tpB S S' Ls Ls' Hs Hs'
  ·rfl
  obtain⟨rfl,rfl,rfl⟩:=tpB_iff.1 e;exact absurd ⟨rfl,by rw[←HN1.out,HM1.out],by rw[←HN2.out,HM2.out]⟩ hl
 by_cases hS:S=S'
 ·subst hS;have e1:(S==S)=true:=by simp
  by_cases h1:n=m
  ·subst h1;have e2:((n:Int)==(n:Int))=true:=by simp
   have e3:((n2:Int)==(m2:Int))=false:=beq_eq_false_iff_ne.2 (fun e=>hl ⟨rfl,rfl,by omega⟩);have e4:((n2:Int) != (m2:Int))=true:=by rw[bne,e3];rfl
   clear hl;go_enter func26,ntmps26;go_wp2;go_ret;exact⟨by rw[HF.out];rfl,HBW.out⟩
  have e3:((n:Int)==(m:Int))=false:=beq_eq_false_iff_ne.2 (by omega);have e4:((n:Int) != (m:Int))=true:=by rw[bne,e3];rfl
  clear hl h1;go_enter func26,ntmps26;go_wp2;go_ret;exact⟨by rw[HF.out];rfl,HBW.out⟩
 have e3:(S==S')=false:=beq_eq_false_iff_ne.2 hS;have e4:(S != S')=true:=by rw[bne,e3];rfl
 clear hl hS;go_enter func26,ntmps26;go_wp2;go_ret;exact⟨by rw[HF.out];rfl,HBW.out⟩
theorem byte_lst (s:ByteArray):s.toList=s.data.toList:=by rw[Lib.toList_data]
theorem size_lst (s:ByteArray):s.data.toList.length=s.size:=by simp
def ltB (c:UInt8):Bool:=decide (97≤c.toNat)&&decide (c.toNat≤122)
theorem lt_at (s:ByteArray)(k:Nat)(h:k<s.size):s.data.toList[k]'(by simpa using h)=s[k]:=by simp[ByteArray.getElem_eq_getElem_data]
theorem rnm_eq (s:ByteArray):nmB s=(decide (1≤s.size)&&(decide (s.size≤6)&&s.data.toList.all ltB)):=rfl
theorem rname_any (s:ByteArray)(w:World):
 Calls prog 81 #[.string s] w fun e w'=>e=.returned (.bool (nmB s))∧w'=w:=by
 by_cases h0:s.size=0
 ·have e0:s.toList.isEmpty=true:=by
   rw[byte_lst,List.isEmpty_iff,←List.length_eq_zero_iff,size_lst,h0]
  have HR:Hid (nmB s=false):=by
   show _=_;rw[rnm_eq,h0];rfl
  rw[HR.out];go_enter func81,ntmps81;go_wp2;go_ret;exact⟨rfl,rfl⟩
 have e0:s.toList.isEmpty=false:=by
  rw[byte_lst,←Bool.not_eq_true,List.isEmpty_iff,←List.length_eq_zero_iff,size_lst];exact h0
 by_cases h6:6<s.size
 ·have e6:decide ((6:Int)<(s.size:Int))=true:=by simp;omega
  have HR:Hid (nmB s=false):=by
   show _=_;have:¬s.size≤6:=by omega
   rw[rnm_eq];simp[this]
  rw[HR.out];go_enter func81,ntmps81;go_wp2;go_ret;exact⟨rfl,rfl⟩
 have e6:decide ((6:Int)<(s.size:Int))=false:=by simp;omega
 have HR:Hid (nmB s=s.data.toList.all ltB):=by
  show _=_;have h1:1≤s.size:=by omega
  have h2:s.size≤6:=by omega
  rw[rnm_eq];simp[h1,h2]
 obtain⟨R,hR⟩:∃R,R=nmB s:=⟨_,rfl⟩;have HRR:Hid (R=nmB s):=hR;rw[←hR];clear hR;go_enter func81,ntmps81;go_wp2
 go_loopw [3] (fun i wr=>∃k:Nat,k≤s.size∧i=.int i64 k∧(s.data.toList.take k).all ltB=true∧wr=w) (fun i _=>s.size-(intOf i).toNat)
 case atStart=>exact⟨0,by omega,rfl,by simp,rfl⟩
 case round =>
  obtain⟨k,hk,rfl,hall,rfl⟩:=hrel;have HALL:Hid ((s.data.toList.take k).all ltB=true):=hall;clear hall;by_cases hlt:k<s.size
  ·have HNX:Hid (ltB s[k]=true→(s.data.toList.take (k+1)).all ltB=true):=fun hy=>by
    have hk2:k<s.data.toList.length:=by simpa using hlt
    rw[List.take_succ_eq_append_getElem hk2,List.all_append,HALL.out,lt_at s k hlt];simp[hy]
   have HNO:Hid (ltB s[k]=false→R=false):=fun hn=>by
    rw[HRR.out,HR.out];cases ha:s.data.toList.all ltB
    ·rfl
    have hk2:k<s.data.toList.length:=by simpa using hlt
    have:=List.all_eq_true.1 ha _ (List.getElem_mem hk2);rw[lt_at s k hlt,hn] at this;cases this
   by_cases g1:s[k].toNat<97
   ·have d1:decide ((s[k].toNat:Int)<97)=true:=by simp;omega
    have HF:Hid (R=false):=HNO.out (by unfold ltB;simp;omega);go_wp2;go_ret;exact⟨by rw[HF.out];rfl,rfl⟩
   have d1:decide ((s[k].toNat:Int)<97)=false:=by simp;omega
   by_cases g2:122<s[k].toNat
   ·have d2:decide (122<(s[k].toNat:Int))=true:=by simp;omega
    have HF:Hid (R=false):=HNO.out (by unfold ltB;simp;omega);go_wp2;go_ret;exact⟨by rw[HF.out];rfl,rfl⟩
   have d2:decide (122<(s[k].toNat:Int))=false:=by simp;omega
   have HY:Hid ((s.data.toList.take (k+1)).all ltB=true):=HNX.out (by unfold ltB;simp;omega);go_wp2;go_roundw
   case rel=>exact⟨k+1,by omega,by go_num,HY.out,by first | rfl | trivial⟩
   case measure=>simp[intOf];omega
  obtain rfl:k=s.size:=by omega
  have HF:Hid (R=true):=by
   show _=_;have h1:=HALL.out;rw[←size_lst,List.take_length] at h1;rw[HRR.out,HR.out,h1]
  go_wp2;go_ret;exact⟨by rw[HF.out];rfl,rfl⟩
end
end Go.Proofs.YtiokpmlhmlcojaaGreatDoor
