/- Contracts and facts on the way to PlanLeast, joined into one text: RuleLook, RuleApply, NetStep1, NetLegMath, TopoPeers, TopoPeer, SlHop, HopHas, NetLeg, NetFollow, RefGo. -/
import Derived.Test.YtiokpmlhmlcojaaGreatDoorPlanLeastP4
namespace Go.Proofs.YtiokpmlhmlcojaaGreatDoor
set_option linter.unusedSimpArgs false
set_option linter.unusedVariables false
set_option maxHeartbeats 16000000
set_option maxRecDepth 100000
open Go.Proofs.Tryz
open IntKind (i64)
section
open Go.RowKit
def CA (w:World)(g:Nat)(p m b o s v:Int)(w':World):Prop:=
 Below w.heap.size w w'∧w'.cell? ⟨g,0,none⟩=some (.int i64 p)∧w'.cell? ⟨g,1,none⟩=some (.int i64 m)∧w'.cell? ⟨g,2,none⟩=some (.int i64 b) ∧
  w'.cell? ⟨g,3,none⟩=some (.int i64 o)∧w'.cell? ⟨g,4,none⟩=some (.int i64 s)∧w'.cell? ⟨g,5,none⟩=some (.int i64 v)
theorem CA.later {w W W':World}{g:Nat}{p m b o s v:Int}(hb:Below W.heap.size W W')(h:CA w g p m b o s v W):CA w g p m b o s v W':=by
 obtain⟨h0,h1,h2,h3,h4,h5,h6⟩:=h;exact⟨h0.trans (hb.mono h0.size),cell_later hb h1,cell_later hb h2,cell_later hb h3,cell_later hb h4,cell_later hb h5,cell_later hb h6⟩
def CB (w:World)(g:Nat)(p m b o s v:Int)(g' o':Nat)(p' m' b' q' s' v':Int)(w':World):Prop:=
 (Below w.heap.size w w'∧w'.cell? ⟨g,0,none⟩=some (.int i64 p)∧w'.cell? ⟨g,1,none⟩=some (.int i64 m)∧w'.cell? ⟨g,2,none⟩=some (.int i64 b) ∧
  w'.cell? ⟨g,3,none⟩=some (.int i64 o)∧w'.cell? ⟨g,4,none⟩=some (.int i64 s)∧w'.cell? ⟨g,5,none⟩=some (.int i64 v)) ∧
 w'.cell? ⟨g',o',none⟩=some (.int i64 p')∧w'.cell? ⟨g',o'+1,none⟩=some (.int i64 m')∧w'.cell? ⟨g',o'+2,none⟩=some (.int i64 b') ∧
  w'.cell? ⟨g',o'+3,none⟩=some (.int i64 q')∧w'.cell? ⟨g',o'+4,none⟩=some (.int i64 s')∧w'.cell? ⟨g',o'+5,none⟩=some (.int i64 v')
theorem CB.later {w W W':World}{g:Nat}{p m b o s v:Int}{g' o':Nat}{p' m' b' q' s' v':Int}(hb:Below W.heap.size W W')(h:CB w g p m b o s v g' o' p' m' b' q' s' v' W):CB w g p m b o s v g' o' p' m' b' q' s' v' W':=by
 obtain⟨h0,h1,h2,h3,h4,h5,h6⟩:=h;exact⟨CA.later hb h0,cell_later hb h1,cell_later hb h2,cell_later hb h3,cell_later hb h4,cell_later hb h5,cell_later hb h6⟩
def cntB (m b h x y:Int):Bool:=hasB m b h&&(decide (x<0) || decide (0<y))
theorem be_next {L:List Ru}{h:Int}{k:Nat}(x:Int)(hx:x=beTo L h k)(y:Bool)(hy:((L.getD k zeR).has h&&(decide (x<0) || decide (0<ordR (L.getD k zeR) (L.getD x.toNat zeR))))=y):beTo L h (k+1)=if y then (k:Int) else x:=by
 subst hx;rw[beTo,hy]
theorem counting_some (g o cap n:Nat)(h:Int)(L:List Ru)(w:World)(hc:RAt w g o L)(hn:L.length=n)(hcap2:n≤maxLen):
 Calls prog 158 #[.slice (some ⟨g,o,none⟩) n cap,.int i64 h] w fun e w'=>e=.returned (.int i64 (beTo L h n))∧Below w.heap.size w w':=by
 have HN:Hid (L.length=n):=hn;unfold maxLen at hcap2;clear hn;go_enter func158,ntmps158;go_wp2
 go_loopw [5,10] (fun x i wr=>∃k:Nat,k≤n∧x=.int i64 (beTo L h k)∧i=.int i64 k∧Below w.heap.size w wr) (fun _ i _=>n-(intOf i).toNat)
 case atStart=>exact⟨0,by omega,rfl,rfl,bRQ _ _⟩
 case round =>
  obtain⟨k,hk,rfl,rfl,hB⟩:=hrel;have hbd:=be_bd L h k
  generalize hx:beTo L h k=x at *
  have HX:Hid (x=beTo L h k):=hx.symm;obtain⟨x0,x1⟩:=hbd;clear hx;have HB:Hid (Below w.heap.size w wr):=hB;by_cases hlt:k<n
  ·obtain⟨p,m,b,q,s,v,hkl,hL,q0,q1,q2,q3,q4,q5⟩:=(hc.later hB).at HN.out hlt;have HK:Hid (L.getD k zeR=⟨p,m,b,q,s,v⟩):=(getD_at hkl).trans hL;have HA:Hid (CA wr wr.heap.size p m b q s v (wr.alloc (.cells #[.int i64 p,.int i64 m,.int i64 b,.int i64 q,.int i64 s,.int i64 v] 88))):=by
    refine⟨(bRQ _ _).alloc (nLQ _) _,?_,?_,?_,?_,?_,?_⟩ <;> simp
   have HCC:Hid (RAt wr g o L):=hc.later hB;clear hL hB;go_upto_region 5 with fail;clear q0 q1 q2 q3 q4 q5
   go_cut [10,31] from 10 to 33 (fun i c w'=>i=.int i64 k∧c=.bool (cntB m b h x (ordR ⟨p,m,b,q,s,v⟩ (L.getD x.toNat zeR)))∧Below wr.heap.size wr w')
   case first =>
    have hS0:=HA.out;clear HA;have HW0:Hid (Below wr.heap.size wr (wr.alloc (.cells #[.int i64 p,.int i64 m,.int i64 b,.int i64 q,.int i64 s,.int i64 v] 88))):=(bRQ _ _).alloc (nLQ _) _;have HW0:Hid (Below wr.heap.size wr (wr.alloc (.cells #[.int i64 p,.int i64 m,.int i64 b,.int i64 q,.int i64 s,.int i64 v] 88))):=(bRQ _ _).alloc (nLQ _) _
    generalize (wr.alloc (.cells #[.int i64 p,.int i64 m,.int i64 b,.int i64 q,.int i64 s,.int i64 v] 88))=W0 at *
    cases hh:hasB m b h
    ·refine wp_region_quiet (C:=CA wr wr.heap.size p m b q s v) (by kernel_rfl) (by kernel_rfl) (CA.later (W:=W0) (Below.drew (bRQ _ _)) hS0) ?_;simp only[List.toList_toArray];go_big_quiet_want;refine qv (.pointer (some ⟨wr.heap.size,1,none⟩)) ?_ ?_
     ·rintro w' ⟨z0,z1,z2,z3,z4,z5,z6⟩;go_simp
     simp only[Act.put,AP];go_big_quiet_on;go_big_quiet_want;refine qv (.agg #[.int i64 m,.int i64 b]) ?_ ?_
     ·rintro w' ⟨z0,z1,z2,z3,z4,z5,z6⟩;go_simp
     simp only[Act.put,AP];go_big_quiet_on;go_big_quiet_want;refine qv (.int i64 h) ?_ ?_
     ·rintro w' ⟨z0,z1,z2,z3,z4,z5,z6⟩;go_simp
     simp only[Act.put,AP];go_big_quiet_on;go_big_quiet_want;refine quiet_call (f:=164) (args:=#[.agg #[.int i64 m,.int i64 b],.int i64 h]) (v:=.bool false) (fun w'=>?_) (fun w' hC=>(has_any m b h w').mono (fun e w2 h2=>⟨by rw[h2.1,hh],CA.later h2.2 hC⟩)) ?_
     ·go_simp
     simp only[Act.put,AP];go_big_quiet_on;go_big_quiet_want;refine qv (.bool false) ?_ ?_
     ·rintro w' ⟨z0,z1,z2,z3,z4,z5,z6⟩;go_simp
     simp only[Act.put,AP];go_big_quiet_on;go_big_quiet_skip;go_big_quiet_skip;go_big_quiet_skip;go_big_quiet_skip;go_big_quiet_skip;go_big_quiet_skip;go_big_quiet_skip;go_big_quiet_skip;go_big_quiet_skip;go_big_quiet_skip;go_big_quiet_skip;go_big_quiet_want;refine qv (.bool false) ?_ ?_
     ·rintro w' ⟨z0,z1,z2,z3,z4,z5,z6⟩;go_simp
     simp only[Act.put,AP];go_big_quiet_on;refine wpQuiet_nil ?_;intro w' hC
     go_wp2_with fail
     go_meet
     case rel=>exact⟨rfl,by simp[cntB,hh],hC.1⟩
    by_cases hx0:x<0
    ·have hx1:decide (x<0)=true:=by simpa using hx0
     refine wp_region_quiet (C:=CA wr wr.heap.size p m b q s v) (by kernel_rfl) (by kernel_rfl) (CA.later (W:=W0) (Below.drew (bRQ _ _)) hS0) ?_;simp only[List.toList_toArray];go_big_quiet_want;refine qv (.pointer (some ⟨wr.heap.size,1,none⟩)) ?_ ?_
     ·rintro w' ⟨z0,z1,z2,z3,z4,z5,z6⟩;go_simp
     simp only[Act.put,AP];go_big_quiet_on;go_big_quiet_want;refine qv (.agg #[.int i64 m,.int i64 b]) ?_ ?_
     ·rintro w' ⟨z0,z1,z2,z3,z4,z5,z6⟩;go_simp
     simp only[Act.put,AP];go_big_quiet_on;go_big_quiet_want;refine qv (.int i64 h) ?_ ?_
     ·rintro w' ⟨z0,z1,z2,z3,z4,z5,z6⟩;go_simp
     simp only[Act.put,AP];go_big_quiet_on;go_big_quiet_want;refine quiet_call (f:=164) (args:=#[.agg #[.int i64 m,.int i64 b],.int i64 h]) (v:=.bool true) (fun w'=>?_) (fun w' hC=>(has_any m b h w').mono (fun e w2 h2=>⟨by rw[h2.1,hh],CA.later h2.2 hC⟩)) ?_
     ·go_simp
     simp only[Act.put,AP];go_big_quiet_on;go_big_quiet_want;refine qv (.bool true) ?_ ?_
     ·rintro w' ⟨z0,z1,z2,z3,z4,z5,z6⟩;go_simp
     simp only[Act.put,AP];go_big_quiet_on;go_big_quiet_want;refine qv (.int i64 x) ?_ ?_
     ·rintro w' ⟨z0,z1,z2,z3,z4,z5,z6⟩;go_simp
     simp only[Act.put,AP];go_big_quiet_on;go_big_quiet_want;refine qv (.bool true) ?_ ?_
     ·rintro w' ⟨z0,z1,z2,z3,z4,z5,z6⟩;go_simp
     simp only[Act.put,AP];go_big_quiet_on;go_big_quiet_want;refine qv (.bool true) ?_ ?_
     ·rintro w' ⟨z0,z1,z2,z3,z4,z5,z6⟩;go_simp
     simp only[Act.put,AP];go_big_quiet_on;go_big_quiet_skip;go_big_quiet_skip;go_big_quiet_skip;go_big_quiet_skip;go_big_quiet_skip;go_big_quiet_skip;go_big_quiet_skip;go_big_quiet_want;refine qv (.bool true) ?_ ?_
     ·rintro w' ⟨z0,z1,z2,z3,z4,z5,z6⟩;go_simp
     simp only[Act.put,AP];go_big_quiet_on;go_big_quiet_want;refine qv (.bool true) ?_ ?_
     ·rintro w' ⟨z0,z1,z2,z3,z4,z5,z6⟩;go_simp
     simp only[Act.put,AP];go_big_quiet_on;refine wpQuiet_nil ?_;intro w' hC
     go_wp2_with fail
     go_meet
     case rel=>exact⟨rfl,by simp[cntB,hh,hx0],hC.1⟩
    obtain⟨y,hy⟩:∃y:Nat,x=(y:Int):=⟨x.toNat,by omega⟩;have hx2:decide ((y:Int)<0)=false:=by simp
    subst hy;obtain⟨p2,m2,b2,q2,s2,v2,hyl,hLy,y0,y1,y2,y3,y4,y5⟩:=HCC.out.at HN.out (show y<n by omega);have HYL:Hid (L.getD ((y:Nat):Int).toNat zeR=⟨p2,m2,b2,q2,s2,v2⟩):=by
     show L.getD ((y:Nat):Int).toNat zeR=_;rw[Int.toNat_natCast,getD_at hyl,hLy]
    have yb0:(0:Int)≤(y:Int):=by omega
    have yb1:((y:Int))<(n:Int):=by omega
    have hS1:CB wr wr.heap.size p m b q s v g (o+y*6) p2 m2 b2 q2 s2 v2 W0:=⟨hS0,cell_later HW0.out y0,cell_later HW0.out y1,cell_later HW0.out y2,cell_later HW0.out y3,cell_later HW0.out y4,cell_later HW0.out y5⟩;clear y0 y1 y2 y3 y4 y5 hLy hS0;have hS0:=hS1;clear hS1;refine wp_region_quiet (C:=CB wr wr.heap.size p m b q s v g (o+y*6) p2 m2 b2 q2 s2 v2) (by kernel_rfl) (by kernel_rfl) (CB.later (W:=W0) (Below.drew (bRQ _ _)) hS0) ?_;simp only[List.toList_toArray];go_big_quiet_want;refine qv (.pointer (some ⟨wr.heap.size,1,none⟩)) ?_ ?_
    ·rintro w' ⟨⟨z0,z1,z2,z3,z4,z5,z6⟩,y1,y2,y3,y4,y5,y6⟩;go_simp
    simp only[Act.put,AP];go_big_quiet_on;go_big_quiet_want;refine qv (.agg #[.int i64 m,.int i64 b]) ?_ ?_
    ·rintro w' ⟨⟨z0,z1,z2,z3,z4,z5,z6⟩,y1,y2,y3,y4,y5,y6⟩;go_simp
    simp only[Act.put,AP];go_big_quiet_on;go_big_quiet_want;refine qv (.int i64 h) ?_ ?_
    ·rintro w' ⟨⟨z0,z1,z2,z3,z4,z5,z6⟩,y1,y2,y3,y4,y5,y6⟩;go_simp
    simp only[Act.put,AP];go_big_quiet_on;go_big_quiet_want;refine quiet_call (f:=164) (args:=#[.agg #[.int i64 m,.int i64 b],.int i64 h]) (v:=.bool true) (fun w'=>?_) (fun w' hC=>(has_any m b h w').mono (fun e w2 h2=>⟨by rw[h2.1,hh],CB.later h2.2 hC⟩)) ?_
    ·go_simp
    simp only[Act.put,AP];go_big_quiet_on;go_big_quiet_want;refine qv (.bool true) ?_ ?_
    ·rintro w' ⟨⟨z0,z1,z2,z3,z4,z5,z6⟩,y1,y2,y3,y4,y5,y6⟩;go_simp
    simp only[Act.put,AP];go_big_quiet_on;go_big_quiet_want;refine qv (.int i64 (y:Int)) ?_ ?_
    ·rintro w' ⟨⟨z0,z1,z2,z3,z4,z5,z6⟩,y1,y2,y3,y4,y5,y6⟩;go_simp
    simp only[Act.put,AP];go_big_quiet_on;go_big_quiet_want;refine qv (.bool false) ?_ ?_
    ·rintro w' ⟨⟨z0,z1,z2,z3,z4,z5,z6⟩,y1,y2,y3,y4,y5,y6⟩;go_simp
    simp only[Act.put,AP];go_big_quiet_on;go_big_quiet_want;refine qv (.bool false) ?_ ?_
    ·rintro w' ⟨⟨z0,z1,z2,z3,z4,z5,z6⟩,y1,y2,y3,y4,y5,y6⟩;go_simp
    simp only[Act.put,AP];go_big_quiet_on;go_big_quiet_want;refine qv (.agg #[.int i64 p,.int i64 m,.int i64 b,.int i64 q,.int i64 s,.int i64 v]) ?_ ?_
    ·rintro w' ⟨⟨z0,z1,z2,z3,z4,z5,z6⟩,y1,y2,y3,y4,y5,y6⟩;go_simp
    simp only[Act.put,AP];go_big_quiet_on;go_big_quiet_want;refine qv (.slice (some ⟨g,o,none⟩) n cap) ?_ ?_
    ·rintro w' ⟨⟨z0,z1,z2,z3,z4,z5,z6⟩,y1,y2,y3,y4,y5,y6⟩;go_simp
    simp only[Act.put,AP];go_big_quiet_on;go_big_quiet_want;refine qv (.int i64 (y:Int)) ?_ ?_
    ·rintro w' ⟨⟨z0,z1,z2,z3,z4,z5,z6⟩,y1,y2,y3,y4,y5,y6⟩;go_simp
    simp only[Act.put,AP];go_big_quiet_on;go_big_quiet_want;refine qv (.pointer (some ⟨g,o+y*6,none⟩)) ?_ ?_
    ·rintro w' ⟨⟨z0,z1,z2,z3,z4,z5,z6⟩,y1,y2,y3,y4,y5,y6⟩;go_simp
    simp only[Act.put,AP];go_big_quiet_on;go_big_quiet_want;refine qv (.agg #[.int i64 p2,.int i64 m2,.int i64 b2,.int i64 q2,.int i64 s2,.int i64 v2]) ?_ ?_
    ·rintro w' ⟨⟨z0,z1,z2,z3,z4,z5,z6⟩,y1,y2,y3,y4,y5,y6⟩;go_simp
    simp only[Act.put,AP];go_big_quiet_on;go_big_quiet_want;refine quiet_call (f:=165) (args:=#[.agg #[.int i64 p,.int i64 m,.int i64 b,.int i64 q,.int i64 s,.int i64 v],.agg #[.int i64 p2,.int i64 m2,.int i64 b2,.int i64 q2,.int i64 s2,.int i64 v2]]) (v:=.int i64 (ordN p m b p2 m2 b2)) (fun w'=>?_) (fun w' hC=>(order_any p m b q s v p2 m2 b2 q2 s2 v2 w').mono (fun e w2 h2=>⟨h2.1,CB.later h2.2 hC⟩)) ?_
    ·go_simp
    simp only[Act.put,AP];go_big_quiet_on;go_big_quiet_want;refine qv (.bool (decide (0<ordN p m b p2 m2 b2))) ?_ ?_
    ·rintro w' ⟨⟨z0,z1,z2,z3,z4,z5,z6⟩,y1,y2,y3,y4,y5,y6⟩;go_simp
    simp only[Act.put,AP];go_big_quiet_on;go_big_quiet_want;refine qv (.bool (decide (0<ordN p m b p2 m2 b2))) ?_ ?_
    ·rintro w' ⟨⟨z0,z1,z2,z3,z4,z5,z6⟩,y1,y2,y3,y4,y5,y6⟩;go_simp
    simp only[Act.put,AP];go_big_quiet_on;go_big_quiet_want;refine qv (.bool (decide (0<ordN p m b p2 m2 b2))) ?_ ?_
    ·rintro w' ⟨⟨z0,z1,z2,z3,z4,z5,z6⟩,y1,y2,y3,y4,y5,y6⟩;go_simp
    simp only[Act.put,AP];go_big_quiet_on;refine wpQuiet_nil ?_;intro w' hC
    go_wp2_with fail
    go_meet
    case rel=>exact⟨rfl,by rw[HYL.out];simp[cntB,hh,hx2,ordR];first | rfl | exact decide_eq_decide.2 Iff.rfl,hC.1.1⟩
   case rest =>
    obtain⟨rfl,hc2,hB2⟩:=hcut;have HB1:=HB.out.trans (hB2.mono HB.out.size);have HY:=be_next (L:=L) (h:=h) (k:=k) x HX.out _ rfl;rw[HK.out] at HY;have HYY:Hid (beTo L h (k+1)=if cntB m b h x (ordR ⟨p,m,b,q,s,v⟩ (L.getD x.toNat zeR)) then (k:Int) else x):=HY;clear HY hB2 HA HCC
    generalize cntB m b h x (ordR ⟨p,m,b,q,s,v⟩ (L.getD x.toNat zeR))=Y at *
    subst hc2;cases Y
    ·go_wp2;go_roundw
     case rel=>exact⟨k+1,by omega,by rw[HYY.out];rfl,by go_num,HB1⟩
     case measure=>simp[intOf];omega
    go_wp2;go_roundw
    case rel=>exact⟨k+1,by omega,by rw[HYY.out];rfl,by go_num,HB1⟩
    case measure=>simp[intOf];omega
  obtain rfl:k=n:=by omega
  go_wp2;go_ret;exact⟨by rw[←HX.out];rfl,HB.out⟩
theorem counting_nil (ao:AdQ)(cap:Nat)(h:Int)(w:World):
 Calls prog 158 #[.slice ao 0 cap,.int i64 h] w fun e w'=>e=.returned (.int i64 (-1))∧Below w.heap.size w w':=by
 go_enter func158,ntmps158;go_wp2
 go_loopw [5,10] (fun x i wr=>x=.int i64 (-1)∧i=.int i64 0∧wr=w) (fun _ i _=>0)
 case atStart=>exact⟨rfl,rfl,rfl⟩
 case round =>
  obtain⟨rfl,rfl,rfl⟩:=hrel;go_wp2;go_ret;exact⟨rfl,bRQ _ _⟩
theorem counting_any (x:Value)(L:List Ru)(h:Int)(w:World)(hs:SR w x L):
 Calls prog 158 #[x,.int i64 h] w fun e w'=>e=.returned (.int i64 (beTo L h L.length))∧Below w.heap.size w w':=by
 rcases hs with ⟨ao,cap,rfl,rfl⟩ | ⟨g,o,cap,rfl,h1,h2,hc⟩
 ·exact counting_nil ao cap h w
 exact counting_some g o cap _ h L w hc rfl (Nat.le_trans h1 h2)
theorem apply_any (p m b o s v h:Int)(w:World):
 Calls prog 159 #[.agg #[.int i64 p,.int i64 m,.int i64 b,.int i64 o,.int i64 s,.int i64 v],.int i64 h] w fun e w'=>e=.returned (.tuple #[.int i64 (apR p m b o s v h),noV (apN p m b o s v h)])∧Below w.heap.size w w':=by
 cases hr:ruOk p m b o s v
 ·have hn:=ruN_ne hr;rw[apR_bad (by rw[apN_bad h hr];exact hn),apN_bad h hr,no_ne hn];go_enter func159,ntmps159
  go_wp2_with fail
  refine (ruCheck_any _ _ _ _ _ _ _).mono ?_;rintro e w1 ⟨rfl,hb1⟩;rw[no_ne hn];go_wp2;refine bodyPost_ret (v:=.tuple #[.int i64 0,.iface 68 (.int i64 (ruN p m b o s v))]) (by simp[results,results159,go_sem]) rfl ⟨rfl,?_⟩;exact ((bRQ _ _).alloc (nLQ _) _).trans (hb1.mono (by simp))
 have hn:=ruN_ok hr;cases hh:hdrB h
 ·have e:apN p m b o s v h=1:=by simp[apN,hr,hh]
  rw[apR_bad (by rw[e];decide),e];clear e;go_enter func159,ntmps159
  go_wp2_with fail
  refine (ruCheck_any _ _ _ _ _ _ _).mono ?_;rintro e w1 ⟨rfl,hb1⟩;rw[no_ok hn]
  go_wp2_with fail
  refine (isHeader_no _ _ hh).mono ?_;rintro e w' ⟨rfl,rfl⟩;go_wp2;refine bodyPost_ret (v:=.tuple #[.int i64 0,.iface 68 (.int i64 1)]) (by simp[results,results159,go_sem]) rfl ⟨rfl,?_⟩;exact ((bRQ _ _).alloc (nLQ _) _).trans (hb1.mono (by simp))
 have hlt:w.heap.size<(w.alloc (.cells #[.int i64 p,.int i64 m,.int i64 b,.int i64 o,.int i64 s,.int i64 v] 88)).heap.size:=by simp
 cases ha:hasB m b h
 ·have e:apN p m b o s v h=5:=by simp[apN,hr,hh,ha]
  rw[apR_bad (by rw[e];decide),e];clear e;go_enter func159,ntmps159
  go_wp2_with fail
  refine (ruCheck_any _ _ _ _ _ _ _).mono ?_;rintro e w1 ⟨rfl,hb1⟩;rw[no_ok hn];obtain⟨hc1,hf1⟩:=bcell hb1;have hB:=((Below.refl w.heap.size w).alloc (nLQ _) (Obj.cells #[.int i64 p,.int i64 m,.int i64 b,.int i64 o,.int i64 s,.int i64 v] 88)).trans (hb1.mono (by simp));have hlt2:w.heap.size<w1.heap.size:=by have:=hb1.size;omega
  clear hb1
  go_wp2_with fail
  refine (isHeader_yes _ _ hh).mono ?_;rintro e w' ⟨rfl,rfl⟩
  go_wp2_with fail
  refine (has_any _ _ _ _).mono ?_;rintro e w2 ⟨rfl,hb2⟩;rw[ha];obtain⟨hc2,hf2⟩:=bcell hb2;have hB2:=hB.trans (hb2.mono (by omega));clear hb2 hB;go_wp2;refine bodyPost_ret (v:=.tuple #[.int i64 0,.iface 68 (.int i64 5)]) (by simp[results,results159,go_sem]) rfl ⟨rfl,?_⟩;exact hB2
 cases ho:(o==0)
 ·have e:apN p m b o s v h=0:=by simp[apN,hr,hh,ha,ho]
  have e2:apR p m b o s v h=apV s v h:=by simp[apR,e]
  rw[e2,e];clear e e2;go_enter func159,ntmps159
  go_wp2_with fail
  refine (ruCheck_any _ _ _ _ _ _ _).mono ?_;rintro e w1 ⟨rfl,hb1⟩;rw[no_ok hn];obtain⟨hc1,hf1⟩:=bcell hb1;have hB:=((Below.refl w.heap.size w).alloc (nLQ _) (Obj.cells #[.int i64 p,.int i64 m,.int i64 b,.int i64 o,.int i64 s,.int i64 v] 88)).trans (hb1.mono (by simp));have hlt2:w.heap.size<w1.heap.size:=by have:=hb1.size;omega
  clear hb1
  go_wp2_with fail
  refine (isHeader_yes _ _ hh).mono ?_;rintro e w' ⟨rfl,rfl⟩
  go_wp2_with fail
  refine (has_any _ _ _ _).mono ?_;rintro e w2 ⟨rfl,hb2⟩;rw[ha];obtain⟨hc2,hf2⟩:=bcell hb2;have hB2:=hB.trans (hb2.mono (by omega));clear hb2 hB;go_wp2;refine bodyPost_ret (v:=.tuple #[.int i64 (apV s v h),.nilIface]) (by simp[results,results159,go_sem,apV]) rfl ⟨rfl,?_⟩;exact hB2
 have e:apN p m b o s v h=5:=by simp[apN,hr,hh,ha,ho]
 rw[apR_bad (by rw[e];decide),e];clear e;go_enter func159,ntmps159
 go_wp2_with fail
 refine (ruCheck_any _ _ _ _ _ _ _).mono ?_;rintro e w1 ⟨rfl,hb1⟩;rw[no_ok hn];obtain⟨hc1,hf1⟩:=bcell hb1;have hB:=((Below.refl w.heap.size w).alloc (nLQ _) (Obj.cells #[.int i64 p,.int i64 m,.int i64 b,.int i64 o,.int i64 s,.int i64 v] 88)).trans (hb1.mono (by simp));have hlt2:w.heap.size<w1.heap.size:=by have:=hb1.size;omega
 clear hb1
 go_wp2_with fail
 refine (isHeader_yes _ _ hh).mono ?_;rintro e w' ⟨rfl,rfl⟩
 go_wp2_with fail
 refine (has_any _ _ _ _).mono ?_;rintro e w2 ⟨rfl,hb2⟩;rw[ha];obtain⟨hc2,hf2⟩:=bcell hb2;have hB2:=hB.trans (hb2.mono (by omega));clear hb2 hB;go_wp2;refine bodyPost_ret (v:=.tuple #[.int i64 0,.iface 68 (.int i64 5)]) (by simp[results,results159,go_sem]) rfl ⟨rfl,?_⟩;exact hB2
theorem st_a {t:List Ru}{x y h:Int}(e:luN t h≠0):stT t ((x,y),h)=none:=if_neg e
theorem st_b {t:List Ru}{x y h p m b o s v:Int}(e:luN t h=0)(hr:roR t h=⟨p,m,b,o,s,v⟩)(ha:apN p m b o s v h≠0):stT t ((x,y),h)=none:=by
 unfold stT;simp only;rw[if_pos e,hr];exact if_neg ha
theorem st_c {t:List Ru}{x y h p m b o s v:Int}(e:luN t h=0)(hr:roR t h=⟨p,m,b,o,s,v⟩)(ha:apN p m b o s v h=0):stT t ((x,y),h)=some ((x,o),apR p m b o s v h):=by
 unfold stT;simp only;rw[if_pos e,hr];exact if_pos ha
def sbox (w:World)(S:Int)(v1 v2 v3:Value)(x y h:Int):World:=((w.alloc (.cells #[.int i64 S,v1,v2,v3] 28)).alloc (.cells #[.int i64 x,.int i64 y,.int i64 h] 127)).alloc (.cells #[.int i64 0,.int i64 0,.int i64 0] 127)
structure SBox (w W:World)(S:Int)(v1 v2 v3:Value)(x y h:Int):Prop where
 below:Below w.heap.size w W
 n:NeBox W w.heap.size S v1 v2 v3
 i0:W.cell? ⟨w.heap.size+1,0,none⟩=some (.int i64 x)
 i1:W.cell? ⟨w.heap.size+1,1,none⟩=some (.int i64 y)
 i2:W.cell? ⟨w.heap.size+1,2,none⟩=some (.int i64 h)
 r0:W.cell? ⟨w.heap.size+1+1,0,none⟩=some (.int i64 0)
 r1:W.cell? ⟨w.heap.size+1+1,1,none⟩=some (.int i64 0)
 r2:W.cell? ⟨w.heap.size+1+1,2,none⟩=some (.int i64 0)
 f:∀i,W.frozen? ⟨w.heap.size+1+1,i,none⟩=false
theorem sbox_new (w:World)(S:Int)(v1 v2 v3:Value)(x y h:Int):SBox w (sbox w S v1 v2 v3 x y h) S v1 v2 v3 x y h:=by
 have e1:(w.alloc (.cells #[.int i64 S,v1,v2,v3] 28)).heap.size=w.heap.size+1:=by simp
 have e2:((w.alloc (.cells #[.int i64 S,v1,v2,v3] 28)).alloc (.cells #[.int i64 x,.int i64 y,.int i64 h] 127)).heap.size=w.heap.size+1+1:=by simp
 have hb:∀(W:World) (o:Obj),Below W.heap.size W (W.alloc o):=fun W o=>(bRQ _ _).alloc (nLQ _) _
 have hs:=(vat_new (w.alloc (.cells #[.int i64 S,v1,v2,v3] 28)) [.int i64 x,.int i64 y,.int i64 h] 127).later (hb _ (Obj.cells #[.int i64 0,.int i64 0,.int i64 0] 127));rw[e1] at hs;have hr:=vat_new ((w.alloc (.cells #[.int i64 S,v1,v2,v3] 28)).alloc (.cells #[.int i64 x,.int i64 y,.int i64 h] 127)) [.int i64 0,.int i64 0,.int i64 0] 127;rw[e2] at hr;have hf:∀k,(sbox w S v1 v2 v3 x y h).frozen? ⟨((w.alloc (.cells #[.int i64 S,v1,v2,v3] 28)).alloc (.cells #[.int i64 x,.int i64 y,.int i64 h] 127)).heap.size,k,none⟩=false:=fun k=>by
  unfold sbox
  generalize (w.alloc (.cells #[.int i64 S,v1,v2,v3] 28)).alloc (.cells #[.int i64 x,.int i64 y,.int i64 h] 127)=X
  simp
 rw[e2] at hf;exact⟨(((bRQ _ _).alloc (nLQ _) _).alloc (by rw[e1];omega) _).alloc (by rw[e2];omega) _,((nebox_new w S v1 v2 v3 28).later (hb _ _)).later (hb _ _),hs 0 _ rfl,hs 1 _ rfl,hs 2 _ rfl,hr 0 _ rfl,hr 1 _ rfl,hr 2 _ rfl,hf⟩
theorem SBox.later {w W W':World}{S:Int}{v1 v2 v3:Value}{x y h:Int}(k:SBox w W S v1 v2 v3 x y h)(hb:Below W.heap.size W W'):SBox w W' S v1 v2 v3 x y h:=
 ⟨k.below.trans (hb.mono k.below.size),k.n.later hb,cell_later hb k.i0,cell_later hb k.i1,cell_later hb k.i2,cell_later hb k.r0,cell_later hb k.r1,cell_later hb k.r2,fun i=>(hb.frozen (p:=⟨w.heap.size+1+1,i,none⟩) (show (⟨w.heap.size+1+1,0,none⟩:Addr).block<W.heap.size from bLQ W ⟨w.heap.size+1+1,0,none⟩ k.r0)).trans (k.f i)⟩
theorem below_three {w W:World}(h:Below w.heap.size w W)(g:Nat)(hg:w.heap.size≤g)(u v x:Value):Below w.heap.size w (((W.setCell ⟨g,0,none⟩ u).setCell ⟨g,1,none⟩ v).setCell ⟨g,2,none⟩ x):=((h.setCell (p:=⟨g,0,none⟩) hg u).setCell (p:=⟨g,1,none⟩) hg v).setCell (p:=⟨g,2,none⟩) hg x
theorem step_any (S:Int)(ao:AdQ)(n cap:Nat)(ao2:AdQ)(n2 cap2:Nat)(ao3:AdQ)(n3 cap3:Nat)(Ts:TsQ)(x y h:Int)(w:World)
 (hT:TS w (.slice ao3 n3 cap3) Ts) (hG:∀k,k<Ts.length→tbN (Ts.getD k [])=0) (h1:1≤x) (h2:x≤(n3:Int)) (h6:n3≤6):
 Calls prog 136 #[.agg #[.int i64 S,.slice ao n cap,.slice ao2 n2 cap2,.slice ao3 n3 cap3],.agg #[.int i64 x,.int i64 y,.int i64 h]] w fun e w'=>e=.returned (.tuple #[.agg #[.int i64 ((stO Ts ((x,y),h)).getD zeH).1.1,.int i64 ((stO Ts ((x,y),h)).getD zeH).1.2,.int i64 ((stO Ts ((x,y),h)).getD zeH).2],.bool (stO Ts ((x,y),h)).isSome])∧Below w.heap.size w w':=by
 obtain⟨k,rfl⟩:∃k:Nat,x=(k:Int)+1:=⟨(x-1).toNat,by omega⟩;have hk:k<n3:=by omega
 obtain⟨_,_,_,e1,hTn,hTm,_,hTa⟩:=hT.form;cases e1;obtain⟨g,o,rfl,hc,_⟩:=hTa (by omega);have hX:=sbox_new w S (.slice ao n cap) (.slice ao2 n2 cap2) (.slice (some ⟨g,o,none⟩) n3 cap3) ((k:Int)+1) y h;obtain⟨a4,n4,c4,q0,hs⟩:=(hc.later hX.below) k (by rw[hTn];exact hk);obtain⟨t,ht⟩:∃t,t=Ts.getD k []:=⟨_,rfl⟩;have hs2:SR (sbox w S (.slice ao n cap) (.slice ao2 n2 cap2) (.slice (some ⟨g,o,none⟩) n3 cap3) ((k:Int)+1) y h) (.slice a4 n4 c4) t:=by
  rw[ht,getT (by rw[hTn];exact hk)];exact hs
 have HTB:Hid (tbN t=0):=by
  show _=_;rw[ht];exact hG k (by rw[hTn];exact hk)
 have HST:Hid (stO Ts (((k:Int)+1,y),h)=stT t (((k:Int)+1,y),h)):=by
  show _=_;unfold stO taT;simp only;rw[ht]
  congr 2
  omega
 obtain⟨A,hA⟩:∃A,A=stO Ts (((k:Int)+1,y),h):=⟨_,rfl⟩;have HA:Hid (A=stT t (((k:Int)+1,y),h)):=hA.trans HST.out;rw[←hA];obtain⟨w0,hw0⟩:∃W,W=sbox w S (.slice ao n cap) (.slice ao2 n2 cap2) (.slice (some ⟨g,o,none⟩) n3 cap3) ((k:Int)+1) y h:=⟨_,rfl⟩;rw[←hw0] at hX q0 hs2;have HX:Hid (SBox w w0 S (.slice ao n cap) (.slice ao2 n2 cap2) (.slice (some ⟨g,o,none⟩) n3 cap3) ((k:Int)+1) y h):=hX;have HS:Hid (SR w0 (.slice a4 n4 c4) t):=hs2;have HW0:Hid (((w.alloc (.cells #[.int i64 S,.slice ao n cap,.slice ao2 n2 cap2,.slice (some ⟨g,o,none⟩) n3 cap3] 28)).alloc (.cells #[.int i64 ((k:Int)+1),.int i64 y,.int i64 h] 127)).alloc (.cells #[.int i64 0,.int i64 0,.int i64 0] 127)=w0):=hw0.symm;have hw:IntKind.i64.wrap ((k:Int)+1-1)=(k:Int):=by rw[show (k:Int)+1-1=(k:Int) from by omega];exact wrap_small (by omega) (by omega)
 have kb0:(0:Int)≤(k:Int):=by omega
 have kb1:(k:Int)<(n3:Int):=by omega
 clear hT hTn hTm hTa hc hs hs2 hX hA HST hw0 ht hG;go_enter func136,ntmps136;go_upto_region 1 with fail;rw[HW0.out];obtain⟨_,⟨b0,b1,b2,b3⟩,i0,i1,i2,r0,r1,r2,f⟩:=HX.out;clear HW0 f r0 r1 r2
 go_wp2_with fail
 refine (counting_any (.slice a4 n4 c4) t h _ HS.out).mono ?_;rintro e w1 ⟨rfl,hb1⟩;have HX1:Hid (SBox w w1 S (.slice ao n cap) (.slice ao2 n2 cap2) (.slice (some ⟨g,o,none⟩) n3 cap3) ((k:Int)+1) y h):=HX.out.later hb1;have HS1:Hid (SR w1 (.slice a4 n4 c4) t):=HS.out.later hb1;obtain⟨I,hI⟩:∃I,I=beTo t h t.length:=⟨_,rfl⟩;have HI:Hid (I=beTo t h t.length):=hI;rw[←hI];clear hI hb1 HX HS b0 b1 b2 b3 i0 i1 i2 q0;by_cases h0:I<0
 ·have HA2:Hid (A=none):=by
   show _=_;rw[HA.out,st_a (fun e=>by have:=(lu_0.1 e).2.2;rw[←HI.out] at this;omega)]
  obtain⟨hB2,⟨b0,b1,b2,b3⟩,i0,i1,i2,r0,r1,r2,f⟩:=HX1.out;have HB2:Hid (Below w.heap.size w w1):=hB2;have f0:=f 0;have f1:=f 1;have f2:=f 2;clear f hB2;go_wp2;refine bodyPost_ret (v:=.tuple #[.agg #[.int i64 0,.int i64 0,.int i64 0],.bool false]) (by simp[results,results136,go_sem, *]) rfl ⟨by rw[HA2.out];rfl,below_three HB2.out _ (by omega) _ _ _⟩
 have hbd:=be_bd t h t.length;obtain⟨j,rfl⟩:∃j:Nat,I=(j:Int):=⟨I.toNat,by omega⟩;have hjl:j<t.length:=by
  have:=HI.out;omega
 obtain⟨_,_,_,e4,hn4,hm4,_,ha4⟩:=HS1.out.form;cases e4;obtain⟨g4,o4,rfl,hc4,_⟩:=ha4 (by omega);have hjn:j<n4:=by omega
 obtain⟨p,m,b,q,s,v,hl,hLj,c0,c1,c2,c3,c4',c5⟩:=hc4.at hn4 hjn;have HRO:Hid (luN t h=0→roR t h=⟨p,m,b,q,s,v⟩):=by
  intro e;rw[roR,luI,if_pos e,←HI.out,Int.toNat_natCast,getD_at hjl,hLj]
 have HLT:Hid (hdrB h=true→luN t h=0):=fun e=>lu_0.2 ⟨HTB.out,e,by rw[←HI.out];omega⟩
 have HC4:Hid (RAt w1 g4 o4 t):=hc4;have HN4:Hid (t.length=n4):=hn4;have HLJ:Hid (t[j]=⟨p,m,b,q,s,v⟩):=hLj;have jb0:(0:Int)≤(j:Int):=by omega
 have jb1:(j:Int)<(n4:Int):=by omega
 obtain⟨_,⟨b0,b1,b2,b3⟩,i0,i1,i2,r0,r1,r2,f⟩:=HX1.out;have hlt4:g4<w1.heap.size:=bLQ _ _ c0;have hlt1:w.heap.size+1<w1.heap.size:=bLQ _ _ i0;obtain⟨V,hV⟩:∃V,V=apR p m b q s v h:=⟨_,rfl⟩;obtain⟨N,hN⟩:∃N,N=apN p m b q s v h:=⟨_,rfl⟩;have HV:Hid (V=apR p m b q s v h):=hV;have HN:Hid (N=apN p m b q s v h):=hN;clear hV hN h0 hbd hn4 hm4 ha4 hc4 hLj f HI HTB r0 r1 r2;go_upto_region 5 with fail
 go_cut [8,9] from 26 to 35 (fun hd er w'=>hd=.int i64 V∧er=noV N∧Below w1.heap.size w1 w')
 case first =>
  go_region_with (go_at_call 159;refine (apply_any p m b q s v h _).mono ?_;rintro e w' ⟨rfl,hb⟩;rw[←HV.out,←HN.out];have HBX:Hid (Below w1.heap.size w1 w'):=(Below.drew (bRQ _ _)).trans (hb.mono (by simp));clear hb)
  all_goals (go_wp2_with fail;go_meet)
  all_goals exact⟨rfl,rfl,HBX.out⟩
 case rest =>
  obtain⟨rfl,rfl,hbw⟩:=hcut;have HX2:Hid (SBox w wc S (.slice ao n cap) (.slice ao2 n2 cap2) (.slice (some ⟨g,o,none⟩) n3 cap3) ((k:Int)+1) y h):=HX1.out.later hbw;obtain⟨p',m',b',q',s',v',hl',hLj',c0,c1,c2,c3,c4',c5⟩:=(HC4.out.later hbw).at HN4.out hjn;rw[HLJ.out] at hLj';cases hLj';obtain⟨hB2,⟨b0,b1,b2,b3⟩,i0,i1,i2,r0,r1,r2,f⟩:=HX2.out;have HB2:Hid (Below w.heap.size w wc):=hB2;have hlt4:g4<wc.heap.size:=bLQ _ _ c0;have hlt1:w.heap.size+1<wc.heap.size:=bLQ _ _ i0;have hlt2:w.heap.size+1+1<wc.heap.size:=bLQ _ _ r0;have f0:=f 0;have f1:=f 1;have f2:=f 2;clear hbw f hB2 HX1 HC4;by_cases h5:N=0
  ·subst h5;rw[no_ok rfl];have HA2:Hid (A=some (((k:Int)+1,q),V)):=by
    show _=_;have hl:=HLT.out (ap_yes HN.out.symm).2.1;rw[HA.out,st_c hl (HRO.out hl) HN.out.symm,HV.out]
   go_upto_region 8 with fail
   go_region
   all_goals
    go_wp2;refine bodyPost_ret (v:=.tuple #[.agg #[.int i64 ((k:Int)+1),.int i64 q,.int i64 V],.bool true]) (by simp[results,results136,go_sem, *]) rfl ⟨by rw[HA2.out];rfl,?_⟩
    first
     | exact below_three (HB2.out.trans ((Below.drew (bRQ _ _)).mono HB2.out.size)) _ (by omega) _ _ _
  rw[no_ne h5];have HA2:Hid (A=none):=by
   show _=_;by_cases hl:luN t h=0
   ·rw[HA.out,st_b hl (HRO.out hl) (by rw[←HN.out];exact h5)]
   rw[HA.out,st_a hl]
  clear h5;go_wp2;refine bodyPost_ret (v:=.tuple #[.agg #[.int i64 0,.int i64 0,.int i64 0],.bool false]) (by simp[results,results136,go_sem, *]) rfl ⟨by rw[HA2.out];rfl,below_three HB2.out _ (by omega) _ _ _⟩
abbrev Lg:=Int×ByteArray×((Int×Int)×Int)
def lgT (Ls:LkQ)(Hs:HoQ)(t:List Ru)(p:(Int×Int)×Int):Lg:=
 match stT t p with
 | none=>(2,ByteArray.empty,zeH)
 | some q=>match atO Hs q.1 with
   | some m=>(1,m,zeH)
   | none=>match peerO Ls q.1 with
     | none=>(3,ByteArray.empty,zeH)
     | some s=>(0,ByteArray.empty,(s,q.2))
def afB (g:Lg)(l:HpQ):Bool:=(g.1==0)&&((l.length==24) || (l.any fun x=>heB g.2.2 x))
def afL (g:Lg)(l:HpQ):Lg:=if afB g l=true then (4,ByteArray.empty,zeH) else g
def lgE (g:Lg):(Int×ByteArray) ⊕ ((Int×Int)×Int):=if g.1=0 then .inr g.2.2 else .inl (g.1,g.2.1)
section
variable {Ls:LkQ}{Hs:HoQ}{t:List Ru}{p:(Int×Int)×Int}{l:HpQ}
theorem lg_2 (h:stT t p=none):lgT Ls Hs t p=(2,ByteArray.empty,zeH):=by
 unfold lgT;rw[h]
theorem lg_1 {q:(Int×Int)×Int}(h:stT t p=some q){m:ByteArray}(ha:atO Hs q.1=some m):lgT Ls Hs t p=(1,m,zeH):=by
 unfold lgT;rw[h];simp only[ha]
theorem lg_3 {q:(Int×Int)×Int}(h:stT t p=some q)(ha:atO Hs q.1=none)(hp:peerO Ls q.1=none):lgT Ls Hs t p=(3,ByteArray.empty,zeH):=by
 unfold lgT;rw[h];simp only[ha,hp]
theorem lg_0 {q:(Int×Int)×Int}(h:stT t p=some q)(ha:atO Hs q.1=none){s:Int×Int}(hp:peerO Ls q.1=some s):lgT Ls Hs t p=(0,ByteArray.empty,(s,q.2)):=by
 unfold lgT;rw[h];simp only[ha,hp]
theorem af_ne {g:Lg}(h:g.1≠0):afL g l=g:=by
 unfold afL afB;rw[if_neg (by simp[h])]
theorem af_0 {g:Lg}(h:(afL g l).1=0):afL g l=g∧g.1=0∧l.length≠24∧(l.any fun x=>heB g.2.2 x)=false:=by
 by_cases e:afB g l=true
 ·rw[afL,if_pos e] at h;cases h
 have e1:afL g l=g:=by rw[afL,if_neg e]
 rw[e1] at h;refine⟨e1,h,?_,?_⟩
 ·intro h24;exact e (by simp[afB,h,h24])
 cases hx:l.any fun x=>heB g.2.2 x with
 | false=>rfl
 | true=>exact absurd (by simp only[afB,h,hx];simp) e
theorem go_lg:goE Ls Hs t l p=lgE (afL (lgT Ls Hs t p) l):=by
 unfold goE;cases h:stT t p with
 | none=>simp only[lg_2 h,af_ne (l:=l) (g:=(2,ByteArray.empty,zeH)) (by simp)];rfl
 | some q =>
   cases ha:atO Hs q.1 with
   | some m=>simp only[ha,lg_1 (Ls:=Ls) h ha,af_ne (l:=l) (g:=(1,m,zeH)) (by simp)];rfl
   | none =>
     cases hp:peerO Ls q.1 with
     | none=>simp only[ha,hp,lg_3 h ha hp,af_ne (l:=l) (g:=(3,ByteArray.empty,zeH)) (by simp)];rfl
     | some s =>
       simp only[ha,hp,lg_0 h ha hp];by_cases e:l.length=24∨l.any (fun x=>heB (s,q.2) x)=true
       ·rw[if_pos e,afL,if_pos]
        ·rfl
        rcases e with e | e
        ·simp[afB,e]
        simp only[afB,e];simp
       rw[if_neg e,afL,if_neg]
       ·rfl
       rw[not_or] at e;simp only[afB,Bool.and_eq_true,Bool.or_eq_true,beq_iff_eq];exact fun h=>h.2.elim e.1 e.2
end
section
variable {S:Int}{Ls:LkQ}{Hs:HoQ}{Ts:TsQ}{l:HpQ}
theorem fo_end (h:l.length≤24){g:Lg}(hg:g=afL (lgT Ls Hs (taT Ts (laH l).1.1) (laH l)) l)(h0:g.1≠0):foF Ls Hs Ts (25-l.length) l=(g.1,g.2.1,l):=by
 have e:enE Ls Hs Ts l (laH l)=.inl (g.1,g.2.1):=by
  show goE _ _ _ _ _=_;rw[go_lg,←hg,lgE,if_neg h0]
 rw[fo_r h,e]
theorem fo_on (h:l.length≤24){g:Lg}(hg:g=afL (lgT Ls Hs (taT Ts (laH l).1.1) (laH l)) l)(h0:g.1=0):foF Ls Hs Ts (25-l.length) l=foF Ls Hs Ts (25-(l++[g.2.2]).length) (l++[g.2.2]):=by
 have e:enE Ls Hs Ts l (laH l)=.inr g.2.2:=by
  show goE _ _ _ _ _=_;rw[go_lg,←hg,lgE,if_pos h0]
 rw[fo_r h,e];simp only[List.length_append,List.length_cons,List.length_nil];rw[show 24-l.length=25-(l.length+(0+1)) by omega]
theorem lg_sp (ht:tpN S Ls Hs=0){t:List Ru}{p:(Int×Int)×Int}(h:(lgT Ls Hs t p).1=0):spB S (lgT Ls Hs t p).2.2.1=true:=by
 cases h1:stT t p with
 | none=>rw[lg_2 h1] at h;cases h
 | some q =>
   cases ha:atO Hs q.1 with
   | some m=>rw[lg_1 h1 ha] at h;cases h
   | none =>
     cases hp:peerO Ls q.1 with
     | none=>rw[lg_3 h1 ha hp] at h;cases h
     | some s =>
       rw[lg_0 h1 ha hp];exact peer_sp ht hp
theorem lg_name (ht:tpN S Ls Hs=0)(t:List Ru)(p:(Int×Int)×Int):(lgT Ls Hs t p).2.1.size≤1000000:=by
 cases h1:stT t p with
 | none=>rw[lg_2 h1];decide
 | some q =>
   cases ha:atO Hs q.1 with
   | some m =>
     rw[lg_1 h1 ha]
     rcases at_ix Hs q.1 with ⟨_,ho⟩ | ⟨k,hk,_,ho⟩
     ·rw[ha] at ho;cases ho
     rw[ha] at ho;cases ho;have h:=(tp_0 ht).2.2.2.2.1 Hs[k] (List.getElem_mem hk);have h2:=h.1;simp only[nmB,Bool.and_eq_true,decide_eq_true_eq] at h2;show Hs[k].1.size≤_;omega
   | none =>
     cases hp:peerO Ls q.1 with
     | none=>rw[lg_3 h1 ha hp];decide
     | some s =>
       rw[lg_0 h1 ha hp];show ByteArray.empty.size≤1000000;decide
theorem af_name {g:Lg}(h:g.2.1.size≤1000000):(afL g l).2.1.size≤1000000:=by
 unfold afL;by_cases e:afB g l=true
 ·rw[if_pos e];decide
 rw[if_neg e];exact h
end
def veS (p:Int×Int):Value:=.agg #[.int i64 p.1,.int i64 p.2]
theorem peers_any (ao:AdQ)(n cap:Nat)(Ls:LkQ)(w:World)(hL:GS lnkE w (.slice ao n cap) Ls)(hd:(spsL Ls).Nodup)(h1000:n≤1000):
 Calls prog 97 #[.slice ao n cap] w fun e w'=>∃B M,e=.returned (.map (some B))∧MAt spotKey veS w' B M∧PM M Ls∧Below w.heap.size w w':=by
 obtain⟨_,_,_,e1,hLn,hLm,_,hLa⟩:=hL.form;cases e1;have HLN:Hid (Ls.length=n):=hLn;have HLA:Hid (0<n→∃g o,ao=some ⟨g,o,none⟩∧GAt lnkE w g o Ls∧cap≤maxLen):=hLa;have HND:Hid ((spsL Ls).Nodup):=hd;have hmk:=run_makeMap (P:=prog) 195 w;have HM1:Hid (MAt spotKey veS (w.alloc (.map #[] 0)) w.heap.size []):=mat_new spotKey veS w;clear hL hLn hLm hLa hd;go_enter func97,ntmps97;go_wp2;obtain⟨B,hB⟩:∃x,w.heap.size=x:=⟨_,rfl⟩;have HB:Hid (w.heap.size=B):=hB
 go_loopw [9] (fun i wr=>∃k:Nat,k≤n∧i=.int i64 k∧(∃M,MAt spotKey veS wr w.heap.size M∧PM M (Ls.take k))∧Below w.heap.size w wr) (fun i _=>n-(intOf i).toNat)
 case atStart=>exact⟨0,by omega,rfl,⟨[],HM1.out,by simpa using pm_nil⟩,(bRQ _ _).alloc (nLQ _) _⟩
 case round =>
  obtain⟨k,hk,rfl,⟨M,hM,hP⟩,hBw⟩:=hrel;have HM:Hid (MAt spotKey veS wr w.heap.size M):=hM;have HP:Hid (PM M (Ls.take k)):=hP;have HBw:Hid (Below w.heap.size w wr):=hBw;clear hB;by_cases hlt:k<n
  ·obtain⟨g,o,hao,hc,_⟩:=HLA.out (by omega);subst hao;obtain⟨x0,x1,x2,x3,hkl,hLk,q0,q1,q2,q3⟩:=lnk_at (hc.later hBw) HLN.out hlt;have HLk:Hid (Ls[k]=((x0,x1),(x2,x3))):=hLk;obtain⟨W0,hW0⟩:∃W0,wr.alloc (.cells #[.int i64 x0,.int i64 x1,.int i64 x2,.int i64 x3] 124)=W0:=⟨_,rfl⟩;have hBA:Below wr.heap.size wr W0:=by
    rw[←hW0];exact (bRQ _ _).alloc (nLQ _) _
   obtain⟨c0,c1,c2,c3⟩:=lnk_cells (lnk_new wr x0 x1 x2 x3 124);simp only[Nat.zero_add] at c0 c1 c2 c3;rw[hW0] at c0 c1 c2 c3;have hM0:MAt spotKey veS W0.drew w.heap.size M:=hM.later hBA.drew;obtain⟨w3,hu1,hM3,hg3⟩:=run_update_M hM0 195 75 underlying195 (x0,x1) (x2,x3);obtain⟨w4,hu2,hM4,hg4⟩:=run_update_M hM3 195 75 underlying195 (x2,x3) (x0,x1);have hlw:w.heap.size<wr.heap.size:=hM.lt;have hlW:wr.heap.size<W0.drew.heap.size:=bLQ _ _ c0;have hk3:∀i,w3.cell? ⟨wr.heap.size,i,none⟩=W0.cell? ⟨wr.heap.size,i,none⟩:=fun i=>World.cell?_of_block (w:=W0) (a:=⟨wr.heap.size,i,none⟩) (hg3.block wr.heap.size hlW (fun e=>by simp only[Option.some.injEq] at e;omega))
   have d0:=(hk3 0).trans c0;have d1:=(hk3 1).trans c1;have d2:=(hk3 2).trans c2;have d3:=(hk3 3).trans c3;have v1:(Instr.mapUpdate 195 (.map (some w.heap.size)) (.agg #[.int i64 x0,.int i64 x1]) (.agg #[.int i64 x2,.int i64 x3])).run prog W0.drew=.ok () w3:=hu1;have v2:(Instr.mapUpdate 195 (.map (some w.heap.size)) (.agg #[.int i64 x2,.int i64 x3]) (.agg #[.int i64 x0,.int i64 x1])).run prog w3=.ok () w4:=hu2;have HM4:Hid (MAt spotKey veS w4 w.heap.size (mput sq (x2,x3) (x0,x1) (mput sq (x0,x1) (x2,x3) M))):=hM4;have HP4:Hid (PM (mput sq (x2,x3) (x0,x1) (mput sq (x0,x1) (x2,x3) M)) (Ls.take (k+1))):=by
    have e:Ls.take (k+1)=Ls.take k++[((x0,x1),(x2,x3))]:=by rw[List.take_succ_eq_append_getElem hkl,hLk]
    show PM _ _;rw[e];refine pm_put hP ?_;rw[←e];exact sps_nd HND.out _
   have HB4:Hid (Below w.heap.size w w4):=by
    have h0:Below w.heap.size w W0.drew:=(hBw.trans (hBA.mono hBw.size)).drew;exact (h0.grown hg3 h0.size (fun j e=>by cases e;exact nLQ _)).grown hg4 (Nat.le_trans h0.size hg3.size) (fun j e=>by cases e;exact nLQ _)
   have kb0:(0:Int)≤(k:Int):=by omega
   have kb1:(k:Int)<(n:Int):=by omega
   clear hk3 hlw hlW hu1 hu2 hM3 hM4 hg3 hg4 hM0 hM hP hc hLk hBw hBA;go_upto_region 5 with fail;clear q0 q1 q2 q3
   go_region
   go_wp2;go_roundw
   case rel=>exact⟨k+1,by omega,by go_num,⟨_,HM4.out,HP4.out⟩,HB4.out⟩
   case measure=>simp[intOf];omega
  obtain rfl:k=n:=by omega
  clear hM hP hBw;go_wp2;go_ret;exact⟨_,M,rfl,HM.out,by have:=HP.out;rw[←HLN.out,List.take_length] at this;exact this,HBw.out⟩
theorem froz_new2 (w:World)(cs:Array Value)(t:TypeId)(k:Nat):(w.alloc (.cells cs t)).frozen? ⟨w.heap.size,k,none⟩=false:=by simp
theorem bdrew {w w':World}(hb:Below w.drew.heap.size w.drew w'):Below w.heap.size w w':=(Below.drew (bRQ _ _)).trans hb
theorem balloc {w w':World}{o:Obj}(hb:Below (w.drew.alloc o).heap.size (w.drew.alloc o) w'):Below w.heap.size w w':=((Below.drew (bRQ _ _)).alloc (nLQ _) o).trans (hb.mono (by simp))
theorem peer_look {W:World}{B:Nat}{M Ls:LkQ}(hM:MAt spotKey veS W B M)(hP:PM M Ls)(x y:Int):
 (Instr.lookup 195 (.map (some B)) (.agg #[.int i64 x,.int i64 y]) true).run prog W=.ok (.tuple #[.agg #[.int i64 ((peerO Ls (x,y)).getD (0,0)).1,.int i64 ((peerO Ls (x,y)).getD (0,0)).2],.bool (peerO Ls (x,y)).isSome]) W:=by
 have h:=run_lookup_M hM 195 75 underlying195 (.agg #[.int i64 0,.int i64 0]) (fun w=>by kernel_rfl) (x,y) true;rw[show mget spotKey.q (x,y) M=peerO Ls (x,y) from hP (x,y)] at h;simp only[if_true] at h;cases hp:peerO Ls (x,y) with
 | none=>rw[hp] at h;exact h
 | some p=>rw[hp] at h;exact h
def hopCI (w:World)(B:Nat)(x0 x1 x2:Int)(g o:Nat)(y0 y1 y2:Int)(w':World):Prop:=
 Below w.heap.size w w'∧(w'.cell? ⟨B,0,none⟩=some (.int i64 x0)∧w'.cell? ⟨B,1,none⟩=some (.int i64 x1)∧w'.cell? ⟨B,2,none⟩=some (.int i64 x2)) ∧
 w'.cell? ⟨g,o,none⟩=some (.int i64 y0)∧w'.cell? ⟨g,o+1,none⟩=some (.int i64 y1)∧w'.cell? ⟨g,o+2,none⟩=some (.int i64 y2)
theorem hopCI.later {w W W':World}{B:Nat}{x0 x1 x2:Int}{g o:Nat}{y0 y1 y2:Int}(hb:Below W.heap.size W W')(h:hopCI w B x0 x1 x2 g o y0 y1 y2 W):hopCI w B x0 x1 x2 g o y0 y1 y2 W':=by
 obtain⟨h0,⟨h1,h2,h3⟩,k1,k2,k3⟩:=h;exact⟨h0.trans (hb.mono h0.size),⟨cell_later hb h1,cell_later hb h2,cell_later hb h3⟩,cell_later hb k1,cell_later hb k2,cell_later hb k3⟩
theorem hop_idx (ao:AdQ)(n cap:Nat)(x0 x1 x2:Int)(L:HpQ)(w:World)(hn:L.length=n)(hn2:n≤maxLen)(ha:0<n→∃g o,ao=some ⟨g,o,none⟩∧GAt hopE w g o L∧cap≤maxLen):
 Calls prog 160 #[.slice ao n cap,.agg #[.int i64 x0,.int i64 x1,.int i64 x2]] w fun e w'=>e=.returned (.int i64 (ixG (fun a=>hopB ((x0,x1),x2) a) L))∧Below w.heap.size w w':=by
 have HN:Hid (L.length=n):=hn;have HA:Hid (0<n→∃g o,ao=some ⟨g,o,none⟩∧GAt hopE w g o L∧cap≤maxLen):=ha;have HC0:=hop_new w x0 x1 x2 127;have HB0:Hid (Below w.heap.size w (w.alloc (.cells #[.int i64 x0,.int i64 x1,.int i64 x2] 127))):=(bRQ _ _).alloc (nLQ _) _;unfold maxLen at hn2;clear hn ha;go_enter func160,ntmps160;go_wp2
 go_loopw [8] (fun i wr=>∃k:Nat,k≤n∧i=.int i64 k∧(L.take k).any (fun a=>hopB ((x0,x1),x2) a)=false∧Below w.heap.size w wr∧VAt wr w.heap.size 0 (hopE.c ((x0,x1),x2)))
  (fun i _=>n-(intOf i).toNat)
 case atStart=>exact⟨0,by omega,rfl,by simp,HB0.out,HC0⟩
 case round =>
  obtain⟨k,hk,rfl,hno,hB,hC⟩:=hrel;have HB:Hid (Below w.heap.size w wr):=hB;have HC:Hid (VAt wr w.heap.size 0 (hopE.c ((x0,x1),x2))):=hC;have HNO:Hid ((L.take k).any (fun a=>hopB ((x0,x1),x2) a)=false):=hno;clear hno HC0 HB0;by_cases hlt:k<n
  ·obtain⟨g,og,hao,hc,_⟩:=HA.out (by omega);subst hao;obtain⟨y0,y1,y2,hkl,hL,q0,q1,q2⟩:=hop_at (hc.later hB) HN.out hlt;have HL:Hid (L[k]=((y0,y1),y2)):=hL;obtain⟨r0,r1,r2⟩:=hop_cells hC;simp only[Nat.zero_add] at r0 r1 r2;have HCE:Hid (hopCI wr w.heap.size x0 x1 x2 g (og+k*3) y0 y1 y2 wr):=⟨bRQ _ _,⟨r0,r1,r2⟩,q0,q1,q2⟩;clear hL hB hC HA q0 q1 q2 r0 r1 r2;go_upto_region 4 with fail;have kb0:(0:Int)≤(k:Int):=by omega
   have kb1:(k:Int)<(n:Int):=by omega
   go_cut [16] from 9 to 18 (fun c w'=>c=.bool (hopB ((x0,x1),x2) ((y0,y1),y2))∧Below wr.heap.size wr w')
   case first =>
    as_aux_lemma =>
     refine wp_region_quiet (C:=hopCI wr w.heap.size x0 x1 x2 g (og+k*3) y0 y1 y2) (by kernel_rfl) (by kernel_rfl) (hopCI.later (W:=wr) (Below.drew (bRQ _ _)) HCE.out) ?_;simp only[List.toList_toArray];go_big_quiet_want;refine qv (.agg #[.int i64 x0,.int i64 x1,.int i64 x2]) ?_ ?_
     ·rintro w' ⟨z,⟨z0,z1,z2⟩,u0,u1,u2⟩;go_simp
     simp only[Act.put,AP];go_big_quiet_on;go_big_quiet_want;refine qv (.slice (some ⟨g,og,none⟩) n cap) ?_ ?_
     ·rintro w' ⟨z,⟨z0,z1,z2⟩,u0,u1,u2⟩;go_simp
     simp only[Act.put,AP];go_big_quiet_on;go_big_quiet_want;refine qv (.int i64 (k:Int)) ?_ ?_
     ·rintro w' ⟨z,⟨z0,z1,z2⟩,u0,u1,u2⟩;go_simp
     simp only[Act.put,AP];go_big_quiet_on;go_big_quiet_want;refine qv (.pointer (some ⟨g,og+k*3,none⟩)) ?_ ?_
     ·rintro w' ⟨z,⟨z0,z1,z2⟩,u0,u1,u2⟩;go_simp
     simp only[Act.put,AP];go_big_quiet_on;go_big_quiet_want;refine qv (.agg #[.int i64 y0,.int i64 y1,.int i64 y2]) ?_ ?_
     ·rintro w' ⟨z,⟨z0,z1,z2⟩,u0,u1,u2⟩;go_simp
     simp only[Act.put,AP];go_big_quiet_on;go_big_quiet_want;refine quiet_val (v:=.bool (hopB ((x0,x1),x2) ((y0,y1),y2))) (fun w' hC=>exec_bin rfl (by go_simp) (run_eql_of (hop_eq x0 x1 x2 y0 y1 y2 w'))) ?_;simp only[Act.put,AP];go_big_quiet_on;refine wpQuiet_nil ?_;intro w' hC
     go_wp2_with fail
     go_meet
     case rel=>exact⟨rfl,hC.1⟩
   case rest =>
    obtain⟨rfl,hB2⟩:=hcut;have HB2:Hid (Below w.heap.size w wc):=HB.out.trans (hB2.mono HB.out.size);have HC2:Hid (VAt wc w.heap.size 0 (hopE.c ((x0,x1),x2))):=HC.out.later hB2;clear hB2;cases ho:hopB ((x0,x1),x2) ((y0,y1),y2)
    ·go_wp2;go_roundw
     case rel=>exact⟨k+1,by omega,by go_num,any_nextG hkl HNO.out (by rw[HL.out];exact ho),HB2.out,HC2.out⟩
     case measure=>simp[intOf];omega
    go_wp2;go_ret;exact⟨by rw[ixG_hit hkl HNO.out (by rw[HL.out];exact ho)];rfl,HB2.out⟩
  obtain rfl:k=n:=by omega
  go_wp2;go_ret;exact⟨by have:=HNO.out;rw[←HN.out,List.take_length] at this;rw[ixG_no this];rfl,HB.out⟩
theorem hop_has (ao:AdQ)(n cap:Nat)(x y h:Int)(L:HpQ)(w:World)(hs:GS hopE w (.slice ao n cap) L):
 Calls prog 139 #[.slice ao n cap,.agg #[.int i64 x,.int i64 y,.int i64 h]] w fun e w'=>e=.returned (.bool (L.any fun a=>hopB ((x,y),h) a))∧Below w.heap.size w w':=by
 obtain⟨ao',n',cap',e,hn,hn2,hn3,ha⟩:=hs.form;cases e;have HN:Hid (L.length=n):=hn;have hB0:Below w.heap.size w (w.alloc (.cells #[.int i64 x,.int i64 y,.int i64 h] 127)):=(bRQ _ _).alloc (nLQ _) _;have HA:Hid (0<n→∃g o,ao=some ⟨g,o,none⟩∧GAt hopE w g o L∧cap≤maxLen):=ha;have HB0:Hid (Below w.heap.size w (w.alloc (.cells #[.int i64 x,.int i64 y,.int i64 h] 127))):=hB0;have HM:Hid (n≤maxLen):=hn2;have HX:Hid ((L.any fun a=>hopB ((x,y),h) a)=decide (0≤ixG (fun a=>hopB ((x,y),h) a) L)):=(ixG_any L (fun a=>hopB ((x,y),h) a)).symm;rw[HX.out];clear hn ha hs hn2 hB0 HX;obtain⟨z,hz⟩:∃z,z=ixG (fun a=>hopB ((x,y),h) a) L:=⟨_,rfl⟩;rw[←hz];have HX:Hid (z=ixG (fun a=>hopB ((x,y),h) a) L):=hz;clear hz;go_enter func139,ntmps139
 go_wp2_with fail
 refine (hop_idx ao n cap x y h L _ HN.out HM.out (fun h0=>by
  obtain⟨g,o,e1,e2,e3⟩:=HA.out h0;exact⟨g,o,e1,e2.later HB0.out,e3⟩)).mono ?_
 rintro e w2 ⟨rfl,hb2⟩;have HB2:Hid (Below w.heap.size w w2):=HB0.out.trans (hb2.mono HB0.out.size);rw[←HX.out];clear hb2;go_wp2;go_ret;exact⟨rfl,HB2.out⟩
def legV (g:Lg):Value:=.agg #[.int i64 g.1,.string g.2.1,.int i64 g.2.2.1.1,.int i64 g.2.2.1.2,.int i64 g.2.2.2]
theorem leg1_any (n:ByteArray)(x0 x1:Int)(B:Nat)(x y:Int)(w:World)(h0:w.cell? ⟨B,0,none⟩=some (.int i64 x))(h1:w.cell? ⟨B,1,none⟩=some (.int i64 y)):
 Calls prog 138 #[.agg #[.string n,.int i64 x0,.int i64 x1],.pointer (some ⟨B,0,none⟩)] w fun e w'=>e=.returned (.bool (sq (x0,x1) (x,y)))∧Below w.heap.size w w':=by
 have hlt:B<w.heap.size:=bLQ _ _ h0;have HB0:Hid (Below w.heap.size w (w.alloc (.cells #[Value.string n,.int i64 x0,.int i64 x1] 77))):=(bRQ _ _).alloc (nLQ _) _;have hr:sq (x0,x1) (x,y)=(x0==x&&x1==y):=rfl;rw[hr];clear hr;cases g1:(x0==x) <;> cases g2:(x1==y)
 all_goals
  simp only[Bool.and_true,Bool.and_false,Bool.and_self];go_enter func138,ntmps138;go_wp2;go_ret;exact⟨rfl,HB0.out⟩
theorem leg1_asks (B:Nat)(x y:Int)(w:World)(h0:w.cell? ⟨B,0,none⟩=some (.int i64 x))(h1:w.cell? ⟨B,1,none⟩=some (.int i64 y)):hstAsks w 138 (.pointer (some ⟨B,0,none⟩)) (fun h=>sq h.2 (x,y)):=
 fun n x0 x1 W hW=>leg1_any n x0 x1 B x y W (cell_later hW h0) (cell_later hW h1)
def put5 (W:World)(g:Nat)(a b c d e:Value):World:=((((W.setCell ⟨g,0,none⟩ a).setCell ⟨g,1,none⟩ b).setCell ⟨g,2,none⟩ c).setCell ⟨g,3,none⟩ d).setCell ⟨g,4,none⟩ e
theorem below_put5 {B:Nat}{w W:World}(h:Below B w W)(g:Nat)(hg:B≤g)(a b c d e:Value):Below B w (put5 W g a b c d e):=((((h.setCell (p:=⟨g,0,none⟩) hg a).setCell (p:=⟨g,1,none⟩) hg b).setCell (p:=⟨g,2,none⟩) hg c).setCell (p:=⟨g,3,none⟩) hg d).setCell (p:=⟨g,4,none⟩) hg e
def lgbox (w:World)(S:Int)(v1 v2 v3:Value)(x y h:Int):World:=((w.alloc (.cells #[.int i64 S,v1,v2,v3] 28)).alloc (.cells #[.int i64 x,.int i64 y,.int i64 h] 127)).alloc (.cells #[.int i64 0,.string ⟨#[]⟩,.int i64 0,.int i64 0,.int i64 0] 198)
structure LgBox (w W:World)(S:Int)(v1 v2 v3:Value)(x y h:Int):Prop where
 below:Below w.heap.size w W
 n:NeBox W w.heap.size S v1 v2 v3
 i0:W.cell? ⟨w.heap.size+1,0,none⟩=some (.int i64 x)
 i1:W.cell? ⟨w.heap.size+1,1,none⟩=some (.int i64 y)
 i2:W.cell? ⟨w.heap.size+1,2,none⟩=some (.int i64 h)
 r0:W.cell? ⟨w.heap.size+1+1,0,none⟩=some (.int i64 0)
 r1:W.cell? ⟨w.heap.size+1+1,1,none⟩=some (.string ⟨#[]⟩)
 r2:W.cell? ⟨w.heap.size+1+1,2,none⟩=some (.int i64 0)
 r3:W.cell? ⟨w.heap.size+1+1,3,none⟩=some (.int i64 0)
 r4:W.cell? ⟨w.heap.size+1+1,4,none⟩=some (.int i64 0)
 f:∀i,W.frozen? ⟨w.heap.size+1+1,i,none⟩=false
theorem lgbox_new (w:World)(S:Int)(v1 v2 v3:Value)(x y h:Int):LgBox w (lgbox w S v1 v2 v3 x y h) S v1 v2 v3 x y h:=by
 have e1:(w.alloc (.cells #[.int i64 S,v1,v2,v3] 28)).heap.size=w.heap.size+1:=by simp
 have e2:((w.alloc (.cells #[.int i64 S,v1,v2,v3] 28)).alloc (.cells #[.int i64 x,.int i64 y,.int i64 h] 127)).heap.size=w.heap.size+1+1:=by simp
 have hb:∀(W:World) (o:Obj),Below W.heap.size W (W.alloc o):=fun W o=>(bRQ _ _).alloc (nLQ _) _
 have hs:=(vat_new (w.alloc (.cells #[.int i64 S,v1,v2,v3] 28)) [.int i64 x,.int i64 y,.int i64 h] 127).later (hb _ (Obj.cells #[.int i64 0,.string ⟨#[]⟩,.int i64 0,.int i64 0,.int i64 0] 198));rw[e1] at hs;have hr:=vat_new ((w.alloc (.cells #[.int i64 S,v1,v2,v3] 28)).alloc (.cells #[.int i64 x,.int i64 y,.int i64 h] 127)) [.int i64 0,.string ⟨#[]⟩,.int i64 0,.int i64 0,.int i64 0] 198;rw[e2] at hr;have hf:∀k,(lgbox w S v1 v2 v3 x y h).frozen? ⟨((w.alloc (.cells #[.int i64 S,v1,v2,v3] 28)).alloc (.cells #[.int i64 x,.int i64 y,.int i64 h] 127)).heap.size,k,none⟩=false:=fun k=>by
  unfold lgbox
  generalize (w.alloc (.cells #[.int i64 S,v1,v2,v3] 28)).alloc (.cells #[.int i64 x,.int i64 y,.int i64 h] 127)=X
  simp
 rw[e2] at hf;exact⟨(((bRQ _ _).alloc (nLQ _) _).alloc (by rw[e1];omega) _).alloc (by rw[e2];omega) _,((nebox_new w S v1 v2 v3 28).later (hb _ _)).later (hb _ _),hs 0 _ rfl,hs 1 _ rfl,hs 2 _ rfl,hr 0 _ rfl,hr 1 _ rfl,hr 2 _ rfl,hr 3 _ rfl,hr 4 _ rfl,hf⟩
theorem LgBox.later {w W W':World}{S:Int}{v1 v2 v3:Value}{x y h:Int}(k:LgBox w W S v1 v2 v3 x y h)(hb:Below W.heap.size W W'):LgBox w W' S v1 v2 v3 x y h:=
 ⟨k.below.trans (hb.mono k.below.size),k.n.later hb,cell_later hb k.i0,cell_later hb k.i1,cell_later hb k.i2,cell_later hb k.r0,cell_later hb k.r1,cell_later hb k.r2,cell_later hb k.r3,cell_later hb k.r4,fun i=>(hb.frozen (p:=⟨w.heap.size+1+1,i,none⟩) (show (⟨w.heap.size+1+1,0,none⟩:Addr).block<W.heap.size from bLQ W ⟨w.heap.size+1+1,0,none⟩ k.r0)).trans (k.f i)⟩
theorem leg_any (S:Int)(ao:AdQ)(n cap:Nat)(ao2:AdQ)(n2 cap2:Nat)(ao3:AdQ)(n3 cap3:Nat)(Ls:LkQ)(Hs:HoQ)(Ts:TsQ)(B:Nat)(M:LkQ)(x y h:Int)(w:World)
 (hH:GS hstE w (.slice ao2 n2 cap2) Hs) (hT:TS w (.slice ao3 n3 cap3) Ts) (hM:MAt spotKey veS w B M) (hPM:PM M Ls) (hG:∀k,k<Ts.length→tbN (Ts.getD k [])=0) (h1:1≤x) (h2:x≤(n3:Int)) (h6:n3≤6):
 Calls prog 98 #[.agg #[.int i64 S,.slice ao n cap,.slice ao2 n2 cap2,.slice ao3 n3 cap3],.map (some B),.agg #[.int i64 x,.int i64 y,.int i64 h]] w fun e w'=>e=.returned (legV (lgT Ls Hs (taT Ts x) ((x,y),h)))∧Below w.heap.size w w':=by
 obtain⟨G,hGd⟩:∃G,G=lgT Ls Hs (taT Ts x) ((x,y),h):=⟨_,rfl⟩;have HG:Hid (G=lgT Ls Hs (taT Ts x) ((x,y),h)):=hGd;rw[←hGd];have HHW:Hid (∀W,Below w.heap.size w W→GS hstE W (.slice ao2 n2 cap2) Hs):=fun W hb=>hH.later hb
 have HTW:Hid (∀W,Below w.heap.size w W→TS W (.slice ao3 n3 cap3) Ts):=fun W hb=>hT.later hb
 have HMW:Hid (∀W,Below w.heap.size w W→MAt spotKey veS W B M):=fun W hb=>hM.later hb
 have HPM:Hid (PM M Ls):=hPM;have HTT:Hid (∀k,k<Ts.length→tbN (Ts.getD k [])=0):=hG;have HS1:Hid (1≤x):=h1;have HS2:Hid (x≤(n3:Int)):=h2;have H36:Hid (n3≤6):=h6;have hX:=lgbox_new w S (.slice ao n cap) (.slice ao2 n2 cap2) (.slice ao3 n3 cap3) x y h;obtain⟨w0,hw0⟩:∃W,W=lgbox w S (.slice ao n cap) (.slice ao2 n2 cap2) (.slice ao3 n3 cap3) x y h:=⟨_,rfl⟩;rw[←hw0] at hX;have HX:Hid (LgBox w w0 S (.slice ao n cap) (.slice ao2 n2 cap2) (.slice ao3 n3 cap3) x y h):=hX;have HW0:Hid (((w.alloc (.cells #[.int i64 S,.slice ao n cap,.slice ao2 n2 cap2,.slice ao3 n3 cap3] 28)).alloc (.cells #[.int i64 x,.int i64 y,.int i64 h] 127)).alloc (.cells #[.int i64 0,.string ⟨#[]⟩,.int i64 0,.int i64 0,.int i64 0] 198)=w0):=hw0.symm;clear hH hT hM hPM hG h1 h2 h6 hGd hX hw0;go_enter func98,ntmps98;go_upto_region 1 with fail;rw[HW0.out];obtain⟨_,⟨b0,b1,b2,b3⟩,i0,i1,i2,r0,r1,r2,r3,r4,f⟩:=HX.out;clear HW0 f r0 r1 r2 r3 r4
 go_wp2_with fail
 refine (step_any S ao n cap ao2 n2 cap2 ao3 n3 cap3 Ts x y h _ (HTW.out _ HX.out.below) HTT.out HS1.out HS2.out H36.out).mono ?_;rintro e w1 ⟨rfl,hb1⟩;obtain⟨A,hA⟩:∃A,A=stO Ts ((x,y),h):=⟨_,rfl⟩;have HA:Hid (stT (taT Ts x) ((x,y),h)=A):=hA.symm;rw[←hA];obtain⟨Q1,hQ1⟩:∃q,q=(A.getD zeH).1.1:=⟨_,rfl⟩;obtain⟨Q2,hQ2⟩:∃q,q=(A.getD zeH).1.2:=⟨_,rfl⟩;obtain⟨Q3,hQ3⟩:∃q,q=(A.getD zeH).2:=⟨_,rfl⟩;obtain⟨okb,hokb⟩:∃q,q=A.isSome:=⟨_,rfl⟩;have HQ1:Hid ((A.getD zeH).1.1=Q1):=hQ1.symm;have HQ2:Hid ((A.getD zeH).1.2=Q2):=hQ2.symm;have HQ3:Hid ((A.getD zeH).2=Q3):=hQ3.symm;have HOKB:Hid (A.isSome=okb):=hokb.symm;rw[←hQ1,←hQ2,←hQ3,←hokb];have hal:Below w1.heap.size w1 (w1.alloc (.cells #[.int i64 Q1,.int i64 Q2,.int i64 Q3] 127)):=(bRQ _ _).alloc (nLQ _) _;have hXa:=(HX.out.later hb1).later hal;have hva:=hop_new w1 Q1 Q2 Q3 127;obtain⟨w2,hw2⟩:∃W,w1.alloc (.cells #[.int i64 Q1,.int i64 Q2,.int i64 Q3] 127)=W:=⟨_,rfl⟩;obtain⟨g,hg⟩:∃g,w1.heap.size=g:=⟨_,rfl⟩;rw[hw2] at hXa hva;rw[hg] at hva;have HD:Hid (VAt w2 g 0 (hopE.c ((Q1,Q2),Q3))):=hva;have HX2:Hid (LgBox w w2 S (.slice ao n cap) (.slice ao2 n2 cap2) (.slice ao3 n3 cap3) x y h):=hXa;have HW2:Hid (w1.alloc (.cells #[.int i64 Q1,.int i64 Q2,.int i64 Q3] 127)=w2):=hw2;have HGG:Hid (w1.heap.size=g):=hg;obtain⟨d0,d1,d2⟩:=hop_cells HD.out;simp only[Nat.zero_add] at d0 d1 d2;obtain⟨hB2,⟨b0,b1,b2,b3⟩,i0,i1,i2,r0,r1,r2,r3,r4,f⟩:=HX2.out;have HB2:Hid (Below w.heap.size w w2):=hB2;have f0:=f 0;have f1:=f 1;have f2:=f 2;have f3:=f 3;have f4:=f 4;clear hb1 hA hQ1 hQ2 hQ3 hokb hal hXa hva hw2 hg HX f hB2;go_upto_region 2 with fail;rw[HW2.out,HGG.out];clear HW2 HGG;cases okb with
 | false =>
   have HF2:Hid (G=(2,ByteArray.empty,zeH)):=by
    show _=_;rw[HG.out];refine lg_2 ?_;rw[HA.out];have:=HOKB.out;cases A with
    | none=>rfl
    | some _=>cases this
   go_wp2;refine bodyPost_ret (v:=.agg #[.int i64 2,.string ⟨#[]⟩,.int i64 0,.int i64 0,.int i64 0]) (by simp[results,results98,go_sem, *]) rfl ⟨by rw[HF2.out];rfl,below_put5 HB2.out _ (by omega) _ _ _ _ _⟩
 | true =>
   have HAS:Hid (A=some ((Q1,Q2),Q3)):=by
    show _=_;have h1:=HOKB.out;have h2:=HQ1.out;have h3:=HQ2.out;have h4:=HQ3.out;cases A with
    | none=>cases h1
    | some q =>
      obtain⟨⟨q1,q2⟩,q3⟩:=q;simp only[Option.getD_some] at h2 h3 h4;rw[h2,h3,h4]
   have HK:Hid (hstAsks w2 138 (.pointer (some ⟨g,0,none⟩)) (fun h=>sq h.2 (Q1,Q2))):=leg1_asks g Q1 Q2 w2 d0 d1;obtain⟨_,_,_,e6,hHn,hHm,_,hHa⟩:=(HHW.out _ HB2.out).form;cases e6;have HHN:Hid (Hs.length=n2):=hHn;have HHM:Hid (n2≤maxLen):=hHm;have HHA:Hid (0<n2→∃g o,ao2=some ⟨g,o,none⟩∧GAt hstE w2 g o Hs∧cap2≤maxLen):=hHa;clear hHn hHm hHa r0 r1 r2 r3 r4 f0 f1 f2 f3 f4
   go_wp2_with fail
   refine (hst_idxF ao2 n2 cap2 _ _ (fun h=>sq h.2 (Q1,Q2)) Hs _ HHN.out HHM.out HHA.out (enters_of func138 (by kernel_rfl) rfl) HK.out).mono ?_;rintro e w3 ⟨rfl,hb3⟩;have HX3:Hid (LgBox w w3 S (.slice ao n cap) (.slice ao2 n2 cap2) (.slice ao3 n3 cap3) x y h):=HX2.out.later hb3;have HHA3:Hid (0<n2→∃g o,ao2=some ⟨g,o,none⟩∧GAt hstE w3 g o Hs∧cap2≤maxLen):=fun h=>by
    obtain⟨g,o,e1,e2,e3⟩:=HHA.out h;exact⟨g,o,e1,e2.later hb3,e3⟩
   have HD3:Hid (VAt w3 g 0 (hopE.c ((Q1,Q2),Q3))):=HD.out.later hb3;obtain⟨d0,d1,d2⟩:=hop_cells HD3.out;simp only[Nat.zero_add] at d0 d1 d2;obtain⟨hB3,⟨b0,b1,b2,b3⟩,i0,i1,i2,r0,r1,r2,r3,r4,f⟩:=HX3.out;have HB3:Hid (Below w.heap.size w w3):=hB3;have f0:=f 0;have f1:=f 1;have f2:=f 2;have f3:=f 3;have f4:=f 4;have hlg:g<w3.heap.size:=bLQ _ _ d0;have hlr:w.heap.size+1+1<w3.heap.size:=bLQ _ _ r0;have hlw:w.heap.size<w3.heap.size:=bLQ _ _ b0;clear hb3 f hB3 HX2 HHA HK HD HB2
   rcases at_ix Hs (Q1,Q2) with ⟨hi,ho⟩ | ⟨k,hk,hi,ho⟩
   ·rw[hi];have HAT:Hid (atO Hs (Q1,Q2)=none):=ho;have hlk:=peer_look (HMW.out _ HB3.out) HPM.out Q1 Q2;obtain⟨P,hP⟩:∃P,P=peerO Ls (Q1,Q2):=⟨_,rfl⟩;have HP:Hid (peerO Ls (Q1,Q2)=P):=hP.symm;rw[←hP] at hlk;clear hi ho hP;cases P with
    | none =>
      have HF2:Hid (G=(3,ByteArray.empty,zeH)):=by
       show _=_;rw[HG.out];exact lg_3 (HA.out.trans HAS.out) HAT.out HP.out
      simp only[Option.getD_none,Option.isSome_none] at hlk;have hlr3:w.heap.size+1+1<w3.heap.size+1:=by omega
      go_wp2;refine bodyPost_ret (v:=.agg #[.int i64 3,.string ⟨#[]⟩,.int i64 0,.int i64 0,.int i64 0]) (by simp[results,results98,go_sem, *]) rfl ⟨by rw[HF2.out];rfl,(below_put5 HB3.out _ (by omega) _ _ _ _ _).alloc (below_put5 HB3.out _ (by omega) _ _ _ _ _).size _⟩
    | some s =>
      obtain⟨P1,P2⟩:=s;have HF2:Hid (G=(0,ByteArray.empty,((P1,P2),Q3))):=by
       show _=_;rw[HG.out];exact lg_0 (HA.out.trans HAS.out) HAT.out HP.out
      simp only[Option.getD_some,Option.isSome_some] at hlk;have hlr3:w.heap.size+1+1<w3.heap.size+1:=by omega
      go_wp2;refine bodyPost_ret (v:=.agg #[.int i64 0,.string ⟨#[]⟩,.int i64 P1,.int i64 P2,.int i64 Q3]) (by simp[results,results98,go_sem, *]) rfl ⟨by rw[HF2.out];rfl,(below_put5 HB3.out _ (by omega) _ _ _ _ _).alloc (below_put5 HB3.out _ (by omega) _ _ _ _ _).size _⟩
   rw[hi];have hlt:k<n2:=by rw[←HHN.out];exact hk
   obtain⟨gh,oh,hao,hc,_⟩:=HHA3.out (by omega);subst hao;obtain⟨y0,y1,y2,hkl,hHk,q0,q1,q2⟩:=hst_at hc HHN.out hlt;have HF2:Hid (G=(1,y0,zeH)):=by
    show _=_;rw[HG.out];refine lg_1 (HA.out.trans HAS.out) ?_;rw[ho,hHk]
   have kb0:(0:Int)≤(k:Int):=by omega
   have kb1:(k:Int)<(n2:Int):=by omega
   clear hi ho hHk hc HHA3;go_wp2;refine bodyPost_ret (v:=.agg #[.int i64 1,.string y0,.int i64 0,.int i64 0,.int i64 0]) (by simp[results,results98,go_sem, *]) rfl ⟨by rw[HF2.out];rfl,below_put5 HB3.out _ (by omega) _ _ _ _ _⟩
structure ABox (w W:World)(a:Int)(b:ByteArray)(c d e:Int):Prop where
 below:Below w.heap.size w W
 i0:W.cell? ⟨w.heap.size,0,none⟩=some (.int i64 a)
 i1:W.cell? ⟨w.heap.size,1,none⟩=some (.string b)
 i2:W.cell? ⟨w.heap.size,2,none⟩=some (.int i64 c)
 i3:W.cell? ⟨w.heap.size,3,none⟩=some (.int i64 d)
 i4:W.cell? ⟨w.heap.size,4,none⟩=some (.int i64 e)
 r0:W.cell? ⟨w.heap.size+1,0,none⟩=some (.int i64 0)
 r1:W.cell? ⟨w.heap.size+1,1,none⟩=some (.string ⟨#[]⟩)
 r2:W.cell? ⟨w.heap.size+1,2,none⟩=some (.int i64 0)
 r3:W.cell? ⟨w.heap.size+1,3,none⟩=some (.int i64 0)
 r4:W.cell? ⟨w.heap.size+1,4,none⟩=some (.int i64 0)
 f:∀i,W.frozen? ⟨w.heap.size+1,i,none⟩=false
theorem abox_new (w:World)(a:Int)(b:ByteArray)(c d e:Int):ABox w ((w.alloc (.cells #[.int i64 a,.string b,.int i64 c,.int i64 d,.int i64 e] 198)).alloc (.cells #[.int i64 0,.string ⟨#[]⟩,.int i64 0,.int i64 0,.int i64 0] 198)) a b c d e:=by
 have e1:(w.alloc (.cells #[.int i64 a,.string b,.int i64 c,.int i64 d,.int i64 e] 198)).heap.size=w.heap.size+1:=by simp
 have hb:∀(W:World) (o:Obj),Below W.heap.size W (W.alloc o):=fun W o=>(bRQ _ _).alloc (nLQ _) _
 have hs:=(vat_new w [.int i64 a,.string b,.int i64 c,.int i64 d,.int i64 e] 198).later (hb _ (Obj.cells #[.int i64 0,.string ⟨#[]⟩,.int i64 0,.int i64 0,.int i64 0] 198));have hB:=((Below.refl w.heap.size w).alloc (nLQ _) (Obj.cells #[.int i64 a,.string b,.int i64 c,.int i64 d,.int i64 e] 198)).alloc (by rw[e1];omega) (Obj.cells #[.int i64 0,.string ⟨#[]⟩,.int i64 0,.int i64 0,.int i64 0] 198);have h0:=hs 0 _ rfl;have h1:=hs 1 _ rfl;have h2:=hs 2 _ rfl;have h3:=hs 3 _ rfl;have h4:=hs 4 _ rfl;clear hs
 generalize w.alloc (.cells #[.int i64 a,.string b,.int i64 c,.int i64 d,.int i64 e] 198)=X at e1 h0 h1 h2 h3 h4 hB
 have hr:=vat_new X [.int i64 0,.string ⟨#[]⟩,.int i64 0,.int i64 0,.int i64 0] 198;have hf:=froz_new2 X #[.int i64 0,.string ⟨#[]⟩,.int i64 0,.int i64 0,.int i64 0] 198;rw[e1] at hr hf;exact⟨hB,h0,h1,h2,h3,h4,hr 0 _ rfl,hr 1 _ rfl,hr 2 _ rfl,hr 3 _ rfl,hr 4 _ rfl,hf⟩
theorem ABox.later {w W W':World}{a:Int}{b:ByteArray}{c d e:Int}(k:ABox w W a b c d e)(hb:Below W.heap.size W W'):ABox w W' a b c d e:=
 ⟨k.below.trans (hb.mono k.below.size),cell_later hb k.i0,cell_later hb k.i1,cell_later hb k.i2,cell_later hb k.i3,cell_later hb k.i4,cell_later hb k.r0,cell_later hb k.r1,cell_later hb k.r2,cell_later hb k.r3,cell_later hb k.r4,fun i=>(hb.frozen (p:=⟨w.heap.size+1,i,none⟩) (show (⟨w.heap.size+1,0,none⟩:Addr).block<W.heap.size from bLQ W ⟨w.heap.size+1,0,none⟩ k.r0)).trans (k.f i)⟩
theorem after_any (g:Lg)(ao:AdQ)(n cap:Nat)(l:HpQ)(w:World)(hl:GS hopE w (.slice ao n cap) l):
 Calls prog 99 #[legV g,.slice ao n cap] w fun e w'=>e=.returned (legV (afL g l))∧Below w.heap.size w w':=by
 have hn:=hl.len;obtain⟨G,hG⟩:∃G,G=afL g l:=⟨_,rfl⟩;have HG:Hid (G=afL g l):=hG;rw[←hG];clear hG;obtain⟨a,b,⟨c,d⟩,e⟩:=g;have HL:Hid (GS hopE w (.slice ao n cap) l):=hl;have HN:Hid (l.length=n):=by
  show _=_
  first | exact hn | exact hn.symm
 have hX:=abox_new w a b c d e;obtain⟨w0,hw0⟩:∃W,(w.alloc (.cells #[.int i64 a,.string b,.int i64 c,.int i64 d,.int i64 e] 198)).alloc (.cells #[.int i64 0,.string ⟨#[]⟩,.int i64 0,.int i64 0,.int i64 0] 198)=W:=⟨_,rfl⟩;rw[hw0] at hX;have HX:Hid (ABox w w0 a b c d e):=hX;have HW0:Hid ((w.alloc (.cells #[.int i64 a,.string b,.int i64 c,.int i64 d,.int i64 e] 198)).alloc (.cells #[.int i64 0,.string ⟨#[]⟩,.int i64 0,.int i64 0,.int i64 0] 198)=w0):=hw0;unfold legV
 dsimp only
 clear hl hn hX hw0;go_enter func99,ntmps99;go_upto_region 1 with fail;rw[HW0.out];obtain⟨hB0,i0,i1,i2,i3,i4,r0,r1,r2,r3,r4,f⟩:=HX.out;have HB0:Hid (Below w.heap.size w w0):=hB0;have f0:=f 0;have f1:=f 1;have f2:=f 2;have f3:=f 3;have f4:=f 4;clear HW0 f hB0;by_cases ha:a=0
 ·subst ha;by_cases h24:n=24
  ·have HF:Hid (G=(4,ByteArray.empty,zeH)):=by
    show _=_;rw[HG.out,afL,if_pos];simp[afB,HN.out,h24]
   have e24:((n:Int)==24)=true:=by simp[h24]
   clear h24;go_wp2;refine bodyPost_ret (v:=.agg #[.int i64 4,.string ⟨#[]⟩,.int i64 0,.int i64 0,.int i64 0]) (by simp[results,results99,go_sem, *]) rfl ⟨by rw[HF.out];rfl,below_put5 HB0.out _ (by omega) _ _ _ _ _⟩
  have e24:((n:Int)==24)=false:=by simp;omega
  have HN24:Hid (l.length≠24):=by
   show _≠_;rw[HN.out];exact h24
  clear h24 r0 r1 r2 r3 r4 f0 f1 f2 f3 f4
  go_wp2_with fail
  refine (hop_has ao n cap c d e l _ (HL.out.later HB0.out)).mono ?_;rintro e5 w1 ⟨rfl,hb1⟩;obtain⟨q,hq⟩:∃q,q=l.any fun x=>hopB ((c,d),e) x:=⟨_,rfl⟩
  have HQ:Hid ((l.any fun x=>heB ((c,d),e) x)=q):=hq.symm;rw[←hq];have HX1:Hid (ABox w w1 0 b c d e):=HX.out.later hb1;obtain⟨hB1,i0,i1,i2,i3,i4,r0,r1,r2,r3,r4,f⟩:=HX1.out;have HB1:Hid (Below w.heap.size w w1):=hB1;have f0:=f 0;have f1:=f 1;have f2:=f 2;have f3:=f 3;have f4:=f 4;clear hq hb1 f hB1;cases q with
  | true =>
    have HF:Hid (G=(4,ByteArray.empty,zeH)):=by
     show _=_;rw[HG.out,afL,if_pos];simp only[afB,HQ.out];simp
    go_wp2;refine bodyPost_ret (v:=.agg #[.int i64 4,.string ⟨#[]⟩,.int i64 0,.int i64 0,.int i64 0]) (by simp[results,results99,go_sem, *]) rfl ⟨by rw[HF.out];rfl,below_put5 HB1.out _ (by omega) _ _ _ _ _⟩
  | false =>
    have HF:Hid (G=(0,b,((c,d),e))):=by
     show _=_;rw[HG.out,afL,if_neg];simp only[afB,HQ.out];simp[HN24.out]
    go_wp2;refine bodyPost_ret (v:=.agg #[.int i64 0,.string b,.int i64 c,.int i64 d,.int i64 e]) (by simp[results,results99,go_sem, *]) rfl ⟨by rw[HF.out],below_put5 HB1.out _ (by omega) _ _ _ _ _⟩
 have HF:Hid (G=(a,b,((c,d),e))):=by
  show _=_;rw[HG.out,afL,if_neg];simp[afB,ha]
 have ea:(a==0)=false:=by simp[ha]
 clear ha;go_wp2;refine bodyPost_ret (v:=.agg #[.int i64 a,.string b,.int i64 c,.int i64 d,.int i64 e]) (by simp[results,results99,go_sem, *]) rfl ⟨by rw[HF.out],below_put5 HB0.out _ (by omega) _ _ _ _ _⟩
def fbox (w:World)(S:Int)(v1 v2 v3:Value)(x y h:Int):World:=((w.alloc (.cells #[.int i64 S,v1,v2,v3] 28)).alloc (.cells #[.int i64 x,.int i64 y,.int i64 h] 127)).alloc (.cells #[.int i64 0,.string ⟨#[]⟩,.slice none 0 0] 83)
structure FBox (w W:World)(S:Int)(v1 v2 v3:Value)(x y h:Int):Prop where
 below:Below w.heap.size w W
 n:NeBox W w.heap.size S v1 v2 v3
 i0:W.cell? ⟨w.heap.size+1,0,none⟩=some (.int i64 x)
 i1:W.cell? ⟨w.heap.size+1,1,none⟩=some (.int i64 y)
 i2:W.cell? ⟨w.heap.size+1,2,none⟩=some (.int i64 h)
 r0:W.cell? ⟨w.heap.size+1+1,0,none⟩=some (.int i64 0)
 r1:W.cell? ⟨w.heap.size+1+1,1,none⟩=some (.string ⟨#[]⟩)
 r2:W.cell? ⟨w.heap.size+1+1,2,none⟩=some (.slice none 0 0)
 f:∀i,W.frozen? ⟨w.heap.size+1+1,i,none⟩=false
theorem fbox_new (w:World)(S:Int)(v1 v2 v3:Value)(x y h:Int):FBox w (fbox w S v1 v2 v3 x y h) S v1 v2 v3 x y h:=by
 have e1:(w.alloc (.cells #[.int i64 S,v1,v2,v3] 28)).heap.size=w.heap.size+1:=by simp
 have e2:((w.alloc (.cells #[.int i64 S,v1,v2,v3] 28)).alloc (.cells #[.int i64 x,.int i64 y,.int i64 h] 127)).heap.size=w.heap.size+1+1:=by simp
 have hb:∀(W:World) (o:Obj),Below W.heap.size W (W.alloc o):=fun W o=>(bRQ _ _).alloc (nLQ _) _
 have hs:=(vat_new (w.alloc (.cells #[.int i64 S,v1,v2,v3] 28)) [.int i64 x,.int i64 y,.int i64 h] 127).later (hb _ (Obj.cells #[.int i64 0,.string ⟨#[]⟩,.slice none 0 0] 83));rw[e1] at hs;have hr:=vat_new ((w.alloc (.cells #[.int i64 S,v1,v2,v3] 28)).alloc (.cells #[.int i64 x,.int i64 y,.int i64 h] 127)) [.int i64 0,.string ⟨#[]⟩,.slice none 0 0] 83;rw[e2] at hr;have hf:∀k,(fbox w S v1 v2 v3 x y h).frozen? ⟨((w.alloc (.cells #[.int i64 S,v1,v2,v3] 28)).alloc (.cells #[.int i64 x,.int i64 y,.int i64 h] 127)).heap.size,k,none⟩=false:=fun k=>by
  unfold fbox
  generalize (w.alloc (.cells #[.int i64 S,v1,v2,v3] 28)).alloc (.cells #[.int i64 x,.int i64 y,.int i64 h] 127)=X
  simp
 rw[e2] at hf;exact⟨(((bRQ _ _).alloc (nLQ _) _).alloc (by rw[e1];omega) _).alloc (by rw[e2];omega) _,((nebox_new w S v1 v2 v3 28).later (hb _ _)).later (hb _ _),hs 0 _ rfl,hs 1 _ rfl,hs 2 _ rfl,hr 0 _ rfl,hr 1 _ rfl,hr 2 _ rfl,hf⟩
theorem FBox.lt {w W:World}{S:Int}{v1 v2 v3:Value}{x y h:Int}(k:FBox w W S v1 v2 v3 x y h):w.heap.size+3≤W.heap.size:=bLQ W ⟨w.heap.size+1+1,0,none⟩ k.r0
theorem FBox.later {w W W':World}{S:Int}{v1 v2 v3:Value}{x y h:Int}(k:FBox w W S v1 v2 v3 x y h){B:Nat}(hB:w.heap.size+3≤B)(hb:Below B W W'):FBox w W' S v1 v2 v3 x y h:=
 have hc:∀(g i:Nat) (x:Value),g<w.heap.size+3→W.cell? ⟨g,i,none⟩=some x→W'.cell? ⟨g,i,none⟩=some x:=fun g i x hg e=>(hb.cell (p:=⟨g,i,none⟩) (show g<B by omega)).trans e
 ⟨k.below.trans (hb.mono (by omega)),⟨hc _ _ _ (by omega) k.n.1,hc _ _ _ (by omega) k.n.2.1,hc _ _ _ (by omega) k.n.2.2.1,hc _ _ _ (by omega) k.n.2.2.2⟩,hc _ _ _ (by omega) k.i0,hc _ _ _ (by omega) k.i1,hc _ _ _ (by omega) k.i2,hc _ _ _ (by omega) k.r0,hc _ _ _ (by omega) k.r1,hc _ _ _ (by omega) k.r2,fun i=>(hb.frozen (p:=⟨w.heap.size+1+1,i,none⟩) (show w.heap.size+1+1<B by omega)).trans (k.f i)⟩
theorem ballocD {w w':World}{a b c:Value}{t:TypeId}(hb:Below (w.drew.alloc (.cells #[a,b,c] t)).heap.size (w.drew.alloc (.cells #[a,b,c] t)) w'):(w'.cell? ⟨w.heap.size,0,none⟩=some a∧w'.cell? ⟨w.heap.size,1,none⟩=some b∧w'.cell? ⟨w.heap.size,2,none⟩=some c)∧w'.frozen? ⟨w.heap.size,0,none⟩=false∧w'.frozen? ⟨w.heap.size,1,none⟩=false∧w'.frozen? ⟨w.heap.size,2,none⟩=false:=by
 have h:=vat_new w.drew [a,b,c] t;have hl:w.heap.size<(w.drew.alloc (.cells #[a,b,c] t)).heap.size:=by simp
 exact⟨⟨cell_later hb (h 0 _ rfl),cell_later hb (h 1 _ rfl),cell_later hb (h 2 _ rfl)⟩,(hb.frozen (p:=⟨w.heap.size,0,none⟩) hl).trans (froz_new2 w.drew #[a,b,c] t 0),(hb.frozen (p:=⟨w.heap.size,1,none⟩) hl).trans (froz_new2 w.drew #[a,b,c] t 1),(hb.frozen (p:=⟨w.heap.size,2,none⟩) hl).trans (froz_new2 w.drew #[a,b,c] t 2)⟩
def put3 (W:World)(g:Nat)(u v x:Value):World:=((W.setCell ⟨g,0,none⟩ u).setCell ⟨g,1,none⟩ v).setCell ⟨g,2,none⟩ x
theorem put3_cells {W:World}{g:Nat}{a b c u v x:Value}(k:W.cell? ⟨g,0,none⟩=some u∧W.cell? ⟨g,1,none⟩=some v∧W.cell? ⟨g,2,none⟩=some x):(put3 W g a b c).cell? ⟨g,0,none⟩=some a∧(put3 W g a b c).cell? ⟨g,1,none⟩=some b∧(put3 W g a b c).cell? ⟨g,2,none⟩=some c:=by
 unfold put3;have h1:(W.setCell ⟨g,0,none⟩ a).cell? ⟨g,1,none⟩=some v:=by
  rw[World.cell?_setCell_other _ _ _ _ (by simp)];exact k.2.1
 have h2:((W.setCell ⟨g,0,none⟩ a).setCell ⟨g,1,none⟩ b).cell? ⟨g,2,none⟩=some x:=by
  rw[World.cell?_setCell_other _ _ _ _ (by simp),World.cell?_setCell_other _ _ _ _ (by simp)];exact k.2.2
 refine⟨?_,?_,World.cell?_setCell_same _ _ _ h2⟩
 ·rw[World.cell?_setCell_other _ _ _ _ (by simp),World.cell?_setCell_other _ _ _ _ (by simp)];exact World.cell?_setCell_same _ _ _ k.1
 rw[World.cell?_setCell_other _ _ _ _ (by simp)];exact World.cell?_setCell_same _ _ _ h1
theorem below_put3 {B:Nat}{w W:World}(h:Below B w W)(g:Nat)(hg:B≤g)(u v x:Value):Below B w (put3 W g u v x):=((h.setCell (p:=⟨g,0,none⟩) hg u).setCell (p:=⟨g,1,none⟩) hg v).setCell (p:=⟨g,2,none⟩) hg x
theorem own_put3 {W:World}{B e size n:Nat}{v:Value}{xs:List Value}(h:W.ownsRow B e size v n xs)(g:Nat)(hg:g<B)(a b c:Value):(put3 W g a b c).ownsRow B e size v n xs:=ownsRow_setCell_below (ownsRow_setCell_below (ownsRow_setCell_below h hg _) hg _) hg _
def LegAt (W:World)(g:Nat)(a:Int)(b:ByteArray)(c d e:Int):Prop:=W.cell? ⟨g,0,none⟩=some (.int i64 a)∧W.cell? ⟨g,1,none⟩=some (.string b)∧W.cell? ⟨g,2,none⟩=some (.int i64 c)∧W.cell? ⟨g,3,none⟩=some (.int i64 d)∧W.cell? ⟨g,4,none⟩=some (.int i64 e)
theorem lat_of {W:World}{g:Nat}{a:Int}{b:ByteArray}{c d e:Int}(h0:W.cell? ⟨g,0,none⟩=some (.int i64 a))(h1:W.cell? ⟨g,1,none⟩=some (.string b))(h2:W.cell? ⟨g,2,none⟩=some (.int i64 c))(h3:W.cell? ⟨g,3,none⟩=some (.int i64 d))(h4:W.cell? ⟨g,4,none⟩=some (.int i64 e)):LegAt W g a b c d e:=⟨h0,h1,h2,h3,h4⟩
theorem LegAt.later {W W':World}{g:Nat}{a:Int}{b:ByteArray}{c d e:Int}(h:LegAt W g a b c d e)(hb:Below W.heap.size W W'):LegAt W' g a b c d e:=⟨cell_later hb h.1,cell_later hb h.2.1,cell_later hb h.2.2.1,cell_later hb h.2.2.2.1,cell_later hb h.2.2.2.2⟩
theorem lat_new (W:World)(a:Int)(b:ByteArray)(c d e:Int)(t:TypeId):LegAt (W.alloc (.cells #[.int i64 a,.string b,.int i64 c,.int i64 d,.int i64 e] t)) W.heap.size a b c d e:=
 have h:=vat_new W [.int i64 a,.string b,.int i64 c,.int i64 d,.int i64 e] t
 ⟨h 0 _ rfl,h 1 _ rfl,h 2 _ rfl,h 3 _ rfl,h 4 _ rfl⟩
theorem lat_put5 {W:World}{g:Nat}{a':Int}{b':ByteArray}{c' d' e':Int}(k:LegAt W g a' b' c' d' e')(a:Int)(b:ByteArray)(c d e:Int):LegAt (put5 W g (.int i64 a) (.string b) (.int i64 c) (.int i64 d) (.int i64 e)) g a b c d e:=by
 obtain⟨k0,k1,k2,k3,k4⟩:=k;unfold put5;have o:∀(W:World) (i j:Nat) (x:Value),i≠j→(W.setCell ⟨g,i,none⟩ x).cell? ⟨g,j,none⟩=W.cell? ⟨g,j,none⟩:=fun W i j x h=>World.cell?_setCell_other _ _ _ _ (by intro e;exact h (by injection e))
 refine⟨?_,?_,?_,?_,?_⟩
 ·rw[o _ _ _ _ (by decide),o _ _ _ _ (by decide),o _ _ _ _ (by decide),o _ _ _ _ (by decide)];exact World.cell?_setCell_same _ _ _ k0
 ·rw[o _ _ _ _ (by decide),o _ _ _ _ (by decide),o _ _ _ _ (by decide)];exact World.cell?_setCell_same _ _ _ (by rw[o _ _ _ _ (by decide)];exact k1)
 ·rw[o _ _ _ _ (by decide),o _ _ _ _ (by decide)];exact World.cell?_setCell_same _ _ _ (by rw[o _ _ _ _ (by decide),o _ _ _ _ (by decide)];exact k2)
 ·rw[o _ _ _ _ (by decide)];exact World.cell?_setCell_same _ _ _ (by rw[o _ _ _ _ (by decide),o _ _ _ _ (by decide),o _ _ _ _ (by decide)];exact k3)
 exact World.cell?_setCell_same _ _ _ (by rw[o _ _ _ _ (by decide),o _ _ _ _ (by decide),o _ _ _ _ (by decide),o _ _ _ _ (by decide)];exact k4)
theorem below_5 {B:Nat}{w W:World}(h:Below B w W)(g:Nat)(hg:B≤g)(a b c d e:Value):Below B w (((((W.setCell ⟨g,0,none⟩ a).setCell ⟨g,1,none⟩ b).setCell ⟨g,2,none⟩ c).setCell ⟨g,3,none⟩ d).setCell ⟨g,4,none⟩ e):=below_put5 h g hg a b c d e
theorem lat_5 {W:World}{g:Nat}{a':Int}{b':ByteArray}{c' d' e':Int}(k:LegAt W g a' b' c' d' e')(a:Int)(b:ByteArray)(c d e:Int):LegAt (((((W.setCell ⟨g,0,none⟩ (.int i64 a)).setCell ⟨g,1,none⟩ (.string b)).setCell ⟨g,2,none⟩ (.int i64 c)).setCell ⟨g,3,none⟩ (.int i64 d)).setCell ⟨g,4,none⟩ (.int i64 e)) g a b c d e:=lat_put5 k a b c d e
def ZL (W:World)(g:Nat):Prop:=LegAt W g 0 ⟨#[]⟩ 0 0 0∧∀i,W.frozen? ⟨g,i,none⟩=false
theorem ZL.lt {W:World}{g:Nat}(h:ZL W g):g<W.heap.size:=bLQ W ⟨g,0,none⟩ h.1.1
theorem ZL.later {W W':World}{g:Nat}(h:ZL W g)(hb:Below W.heap.size W W'):ZL W' g:=⟨h.1.later hb,fun i=>(hb.frozen (p:=⟨g,i,none⟩) h.lt).trans (h.2 i)⟩
theorem zl_new (W:World)(t:TypeId):ZL (W.alloc (.cells #[.int i64 0,.string ⟨#[]⟩,.int i64 0,.int i64 0,.int i64 0] t)) W.heap.size:=⟨lat_new W 0 ⟨#[]⟩ 0 0 0 t,froz_new2 W _ t⟩
theorem zl_a {W W':World}{t:TypeId}(hb:Below (W.alloc (.cells #[.int i64 0,.string ⟨#[]⟩,.int i64 0,.int i64 0,.int i64 0] t)).heap.size (W.alloc (.cells #[.int i64 0,.string ⟨#[]⟩,.int i64 0,.int i64 0,.int i64 0] t)) W'):ZL W' W.heap.size:=(zl_new W t).later hb
theorem zl_d {W W':World}{t:TypeId}(hb:Below (W.drew.alloc (.cells #[.int i64 0,.string ⟨#[]⟩,.int i64 0,.int i64 0,.int i64 0] t)).heap.size (W.drew.alloc (.cells #[.int i64 0,.string ⟨#[]⟩,.int i64 0,.int i64 0,.int i64 0] t)) W'):ZL W' W.heap.size:=(zl_new W.drew t).later hb
def sliL:Value→Nat
 | .slice _ n _=>n
 | _=>0
theorem follow_any (S:Int)(ao:AdQ)(n cap:Nat)(ao2:AdQ)(n2 cap2:Nat)(ao3:AdQ)(n3 cap3:Nat)(Ls:LkQ)(Hs:HoQ)(Ts:TsQ)(x y h:Int)(w:World)
 (hL:GS lnkE w (.slice ao n cap) Ls) (hH:GS hstE w (.slice ao2 n2 cap2) Hs) (hT:TS w (.slice ao3 n3 cap3) Ts) (hN:ntN S Ls Hs Ts=0) (hx:spB S (x,y)=true):
 Calls prog 62 #[.agg #[.int i64 S,.slice ao n cap,.slice ao2 n2 cap2,.slice ao3 n3 cap3],.agg #[.int i64 x,.int i64 y,.int i64 h]] w fun e w'=>∃ao4 n4 cap4,e=.returned (.agg #[.int i64 (frF Ls Hs Ts (x,y) h).1,.string (frF Ls Hs Ts (x,y) h).2.1,.slice ao4 n4 cap4])∧w'.ownsRow w.heap.size 127 3 (.slice ao4 n4 cap4) (frF Ls Hs Ts (x,y) h).2.2.length (cellsG hopE (frF Ls Hs Ts (x,y) h).2.2)∧Below w.heap.size w w':=by
 obtain⟨hTP,hTL,hTT⟩:=nt_0 hN;have hS:=(tp_0 hTP).1;have hnd:=(tp_0 hTP).2.2.2.1;have hTn:=hT.len;have hLn:=hL.len;have hl2:=(tp_0 hTP).2.1;have HTP:Hid (tpN S Ls Hs=0):=hTP;have HND:Hid ((spsL Ls).Nodup):=hnd;have HN1:Hid (n≤1000):=by show _≤_;omega
 have HTT:Hid (∀k,k<Ts.length→tbN (Ts.getD k [])=0):=hTT;have H36:Hid (n3≤6):=by show _≤_;omega
 have H3S:Hid ((n3:Int)=S):=by show _=_;omega
 have HLW:Hid (∀W,Below w.heap.size w W→GS lnkE W (.slice ao n cap) Ls):=fun W hb=>hL.later hb
 have HHW:Hid (∀W,Below w.heap.size w W→GS hstE W (.slice ao2 n2 cap2) Hs):=fun W hb=>hH.later hb
 have HTW:Hid (∀W,Below w.heap.size w W→TS W (.slice ao3 n3 cap3) Ts):=fun W hb=>hT.later hb
 obtain⟨F,hF⟩:∃F,F=frF Ls Hs Ts (x,y) h:=⟨_,rfl⟩;have HF:Hid (F=foF Ls Hs Ts 24 [((x,y),h)]):=hF;rw[←hF];have hX:=fbox_new w S (.slice ao n cap) (.slice ao2 n2 cap2) (.slice ao3 n3 cap3) x y h;obtain⟨w0,hw0⟩:∃W,W=fbox w S (.slice ao n cap) (.slice ao2 n2 cap2) (.slice ao3 n3 cap3) x y h:=⟨_,rfl⟩;rw[←hw0] at hX;have HX:Hid (FBox w w0 S (.slice ao n cap) (.slice ao2 n2 cap2) (.slice ao3 n3 cap3) x y h):=hX;have HW0:Hid (((w.alloc (.cells #[.int i64 S,.slice ao n cap,.slice ao2 n2 cap2,.slice ao3 n3 cap3] 28)).alloc (.cells #[.int i64 x,.int i64 y,.int i64 h] 127)).alloc (.cells #[.int i64 0,.string ⟨#[]⟩,.slice none 0 0] 83)=w0):=hw0.symm;have HXX:Hid (spB S (x,y)=true):=hx;clear hL hH hT hN hTP hTL hTT hS hnd hTn hLn hl2 hF hX hw0 hx;go_enter func62,ntmps62;go_upto_region 1 with fail;rw[HW0.out];obtain⟨_,⟨b0,b1,b2,b3⟩,i0,i1,i2,r0,r1,r2,f⟩:=HX.out;clear HW0 f
 go_wp2_with fail
 refine (peers_any ao n cap Ls _ (HLW.out _ HX.out.below) HND.out HN1.out).mono ?_;rintro e w1 ⟨B,M,rfl,hM,hPM,hb1⟩;have HM:Hid (MAt spotKey veS w1 B M):=hM;have HPM:Hid (PM M Ls):=hPM;have HX1:Hid (FBox w w1 S (.slice ao n cap) (.slice ao2 n2 cap2) (.slice ao3 n3 cap3) x y h):=HX.out.later HX.out.lt hb1;have hlB:B<w1.heap.size:=hM.lt;obtain⟨_,⟨b0,b1,b2,b3⟩,i0,i1,i2,r0,r1,r2,f⟩:=HX1.out;clear f hM hPM hb1 HX;go_wp2;have HLW1:Hid (w.heap.size+3≤w1.heap.size):=HX1.out.lt;have HO1:Hid ((w1.alloc (.cells #[.int i64 x,.int i64 y,.int i64 h] 127)).ownsRow w1.heap.size 127 3 (.slice (some ⟨w1.heap.size,0,none⟩) 1 1) ([((x,y),h)]:HpQ).length (cellsG hopE [((x,y),h)])):=
  World.ownsRow_lit (base:=w1.heap.size) (e:=127) (size:=3) w1 #[.int i64 x,.int i64 y,.int i64 h] 1 (nLQ _) (by decide) rfl
 clear b0 b1 b2 b3 i0 i1 i2 r0 r1 r2
 go_loopw [6] (fun v wr=>∃l:HpQ,(0<l.length∧l.length≤24)∧wr.ownsRow w1.heap.size 127 3 v l.length (cellsG hopE l)∧F=foF Ls Hs Ts (25-l.length) l∧spB S (laH l).1=true∧Below w1.heap.size w1 wr) (fun v _=>25-sliL v)
 case atStart=>exact⟨[((x,y),h)],by simp,HO1.out,HF.out,HXX.out,(bRQ _ _).alloc (nLQ _) _⟩
 case round =>
  obtain⟨l,⟨hl0,hl24⟩,hown,hFl,hsp,hBr⟩:=hrel;obtain⟨ao5,cap5,rfl⟩:=own_form hown;obtain⟨wo,hwo⟩:∃X,X=wr:=⟨_,rfl⟩;subst hwo;obtain⟨m,hm⟩:∃m,m=l.length:=⟨_,rfl⟩;have HML:Hid (l.length=m):=hm.symm;rw[←hm] at hown hl0 hl24 hFl;rw[←hm];have HOWN:Hid (wo.ownsRow w1.heap.size 127 3 (.slice ao5 m cap5) m (cellsG hopE l)):=hown;have HFL:Hid (F=foF Ls Hs Ts (25-l.length) l):=by
   show _=_;rw[←hm];exact hFl
  have HL24:Hid (l.length≤24):=by
   show _≤_;omega
  have HBr:Hid (Below w1.heap.size w1 wo):=hBr;have HXo:Hid (FBox w wo S (.slice ao n cap) (.slice ao2 n2 cap2) (.slice ao3 n3 cap3) x y h):=HX1.out.later HX1.out.lt hBr;have HMo:Hid (MAt spotKey veS wo B M):=HM.out.later hBr;obtain⟨_,_,_,e5,hGn,hGm,_,hGa⟩:=(own_GS (E:=hopE) (L:=l) (by rw[←hm];exact hown):GS hopE wo (.slice ao5 m cap5) l).form;cases e5;obtain⟨g5,o5,hao5,hc5,_⟩:=hGa hl0;subst hao5;obtain⟨p0,p1,p2,hkl,hLk,c0,c1,c2⟩:=hop_at hc5 HML.out (show m-1<m by omega);have hla:laH l=((p0,p1),p2):=by
   have e:laH l=l[m-1]:=by
    unfold laH;rw[←hm];simp[List.getD,hkl]
   rw[e,hLk]
  have HLA:Hid (laH l=((p0,p1),p2)):=hla;rw[hla] at hsp;have hsp2:=sp_of hsp;simp only at hsp2;have HS1:Hid (1≤p0):=hsp2.1;have HS2:Hid (p0≤(n3:Int)):=by
   show _≤_;rw[H3S.out];exact hsp2.2.1
  obtain⟨G0,hG0⟩:∃G,G=lgT Ls Hs (taT Ts p0) ((p0,p1),p2):=⟨_,rfl⟩;obtain⟨G,hG⟩:∃G,G=afL G0 l:=⟨_,rfl⟩;have HGL:Hid (G=afL (lgT Ls Hs (taT Ts (laH l).1.1) (laH l)) l):=by
   show _=_;rw[hG,hG0,hla]
  have HGN:Hid (G.2.1.size≤1000000):=by
   show _≤_;rw[hG,hG0];exact af_name (lg_name HTP.out _ _)
  have HLEG:Hid (∀W,Below wo.heap.size wo W→Calls prog 98 #[.agg #[.int i64 S,.slice ao n cap,.slice ao2 n2 cap2,.slice ao3 n3 cap3],.map (some B),.agg #[.int i64 p0,.int i64 p1,.int i64 p2]] W fun e w'=>e=.returned (legV G0)∧Below W.heap.size W w'):=fun W hW=>by
   have hx:=HXo.out.below.trans (hW.mono HXo.out.below.size);rw[hG0];exact leg_any S ao n cap ao2 n2 cap2 ao3 n3 cap3 Ls Hs Ts B M p0 p1 p2 W (HHW.out W hx) (HTW.out W hx) (HMo.out.later hW) HPM.out HTT.out HS1.out HS2.out H36.out
  have HAFT:Hid (∀W,Below wo.heap.size wo W→Calls prog 99 #[legV G0,.slice (some ⟨g5,o5,none⟩) m cap5] W fun e w'=>e=.returned (legV G)∧Below W.heap.size W w'):=fun W hW=>by
   rw[hG];exact after_any G0 (some ⟨g5,o5,none⟩) m cap5 l W ((own_GS (E:=hopE) (L:=l) (by rw[HML.out];exact HOWN.out):GS hopE wo (.slice (some ⟨g5,o5,none⟩) m cap5) l).later hW)
  clear hG hG0;obtain⟨a0,a1,⟨a2,a3⟩,a4⟩:=G0;obtain⟨k0,k1,⟨k2,k3⟩,k4⟩:=G;unfold legV at HLEG HAFT
  dsimp only at HLEG HAFT HGN
  have hmi:IntKind.i64.wrap ((m:Int)-1)=((m-1:Nat):Int):=by
   rw[show (m:Int)-1=((m-1:Nat):Int) by omega];exact wrap_small (by omega) (by omega)
  have mb0:(0:Int)≤((m-1:Nat):Int):=by omega
  have mb1:((m-1:Nat):Int)<(m:Int):=by omega
  obtain⟨_,⟨b0,b1,b2,b3⟩,i0,i1,i2,r0,r1,r2,f⟩:=HXo.out;have hlw:w.heap.size<wo.heap.size:=bLQ _ _ b0;have hlg:g5<wo.heap.size:=bLQ _ _ c0;have HSW:Hid (∀W,Below wo.heap.size wo W→W.cell? ⟨w.heap.size,0,none⟩=some (.int i64 S)∧W.cell? ⟨w.heap.size,1,none⟩=some (.slice ao n cap)∧W.cell? ⟨w.heap.size,2,none⟩=some (.slice ao2 n2 cap2)∧W.cell? ⟨w.heap.size,3,none⟩=some (.slice ao3 n3 cap3)∧W.cell? ⟨g5,o5+(m-1)*3,none⟩=some (.int i64 p0)∧W.cell? ⟨g5,o5+(m-1)*3+1,none⟩=some (.int i64 p1)∧W.cell? ⟨g5,o5+(m-1)*3+2,none⟩=some (.int i64 p2)):=fun W hW=>⟨cell_later hW b0,cell_later hW b1,cell_later hW b2,cell_later hW b3,cell_later hW c0,cell_later hW c1,cell_later hW c2⟩
  clear hown hFl hsp hBr hm hGn hGm hGa hc5 hLk hla hsp2 f HO1 HF HXX HX1 HM i0 i1 i2 r0 r1 r2;go_upto_region 3 with fail
  go_cut [7] from 14 to 39 (fun p w'=>∃g,p=.pointer (some ⟨g,0,none⟩)∧(LegAt w' g k0 k1 k2 k3 k4∧wo.heap.size≤g)∧Below wo.heap.size wo w')
  case first =>
   go_region_held3 (fun W=>W.cell? ⟨w.heap.size,0,none⟩=some (.int i64 S)∧W.cell? ⟨w.heap.size,1,none⟩=some (.slice ao n cap)∧W.cell? ⟨w.heap.size,2,none⟩=some (.slice ao2 n2 cap2)∧W.cell? ⟨w.heap.size,3,none⟩=some (.slice ao3 n3 cap3)∧W.cell? ⟨g5,o5+(m-1)*3,none⟩=some (.int i64 p0)∧W.cell? ⟨g5,o5+(m-1)*3+1,none⟩=some (.int i64 p1)∧W.cell? ⟨g5,o5+(m-1)*3+2,none⟩=some (.int i64 p2))
    (first | (with_reducible assumption) | (with_reducible exact HSW.out _ (Below.drew (bRQ _ _))) | (with_reducible exact HSW.out _ ((Below.drew (bRQ _ _)).alloc (nLQ _) _)) | (with_reducible exact HSW.out _ ((bRQ _ _).alloc (nLQ _) _).drew) | (with_reducible exact HSW.out _ HBX.out) | (with_reducible exact HSW.out _ (HBX.out.alloc HBX.out.size _)) | (with_reducible exact HSW.out _ HBY.out) | (with_reducible exact HSW.out _ (HBY.out.alloc HBY.out.size _)) | (with_reducible exact HSW.out _ (below_5 HBY.out _ (nLQ _) _ _ _ _ _)) | (with_reducible exact HSW.out _ (below_5 HBY.out _ HBX.out.size _ _ _ _ _)))
    (first
     | (go_at_call 98;refine (HLEG.out _ (by first | exact Below.drew (bRQ _ _) | exact (Below.drew (bRQ _ _)).alloc (nLQ _) _)).mono ?_;rintro e w' ⟨rfl,hb⟩;have HBX:Hid (Below wo.heap.size wo w'):=(by first | exact bdrew hb | exact balloc hb);(try (have HZ:Hid (ZL w' wo.heap.size):=zl_d hb));clear hb)
     | (go_at_call 99;refine (HAFT.out _ (by first | exact HBX.out | exact HBX.out.alloc HBX.out.size _)).mono ?_;rintro e w'' ⟨rfl,hb⟩;have HBY:Hid (Below wo.heap.size wo w''):=(by first | exact HBX.out.trans (hb.mono HBX.out.size) | exact (HBX.out.alloc HBX.out.size _).trans (hb.mono (HBX.out.alloc HBX.out.size _).size));(try (have hbc:=HZ.out.later hb;obtain⟨⟨y0,y1,y2,y3,y4⟩,yf⟩:=hbc;have yf0:=yf 0;have yf1:=yf 1;have yf2:=yf 2;have yf3:=yf 3;have yf4:=yf 4;clear yf));(try (have hbc:=zl_a hb;obtain⟨⟨y0,y1,y2,y3,y4⟩,yf⟩:=hbc;have yf0:=yf 0;have yf1:=yf 1;have yf2:=yf 2;have yf3:=yf 3;have yf4:=yf 4;clear yf));clear hb))
   all_goals (go_wp2_with fail;go_meet)
   all_goals refine⟨_,rfl,?_⟩
   all_goals first
    | (with_reducible exact⟨⟨lat_new _ _ _ _ _ _ _,HBY.out.size⟩,HBY.out.alloc HBY.out.size _⟩)
    | (with_reducible exact⟨⟨lat_5 (lat_of y0 y1 y2 y3 y4) _ _ _ _ _,nLQ _⟩,below_5 HBY.out _ (nLQ _) _ _ _ _ _⟩)
    | (with_reducible exact⟨⟨lat_5 (lat_of y0 y1 y2 y3 y4) _ _ _ _ _,HBX.out.size⟩,below_5 HBY.out _ HBX.out.size _ _ _ _ _⟩)
  case rest =>
   obtain⟨g,rfl,⟨⟨d0,d1,d2,d3,d4⟩,hgo⟩,hbw⟩:=hcut;have HXc:Hid (FBox w wc S (.slice ao n cap) (.slice ao2 n2 cap2) (.slice ao3 n3 cap3) x y h):=HXo.out.later HXo.out.lt hbw;have HOc:Hid (wc.ownsRow w1.heap.size 127 3 (.slice (some ⟨g5,o5,none⟩) m cap5) m (cellsG hopE l)):=own_below HOWN.out hbw;have HBc:Hid (Below w1.heap.size w1 wc):=HBr.out.trans (hbw.mono HBr.out.size);obtain⟨hBw,⟨b0,b1,b2,b3⟩,i0,i1,i2,r0,r1,r2,f⟩:=HXc.out;have HBw:Hid (Below w.heap.size w wc):=hBw;have f0:=f 0;have f1:=f 1;have f2:=f 2;have hlw1:w.heap.size+3≤w1.heap.size:=HLW1.out;have hs1c:w1.heap.size≤wc.heap.size:=HBc.out.size;have HLT:Hid (LegAt wc g k0 k1 k2 k3 k4):=⟨d0,d1,d2,d3,d4⟩;clear hbw f hBw HXo HOWN HMo HBr HSW HLEG HAFT hgo c0 c1 c2;by_cases hk:k0=0
   ·subst hk;have HFN:Hid (F=foF Ls Hs Ts (25-(l++[((k2,k3),k4)]).length) (l++[((k2,k3),k4)])):=by
     show _=_;rw[HFL.out];exact fo_on HL24.out HGL.out rfl
    have HG4:Hid (afL (lgT Ls Hs (taT Ts (laH l).1.1) (laH l)) l=lgT Ls Hs (taT Ts (laH l).1.1) (laH l)∧(lgT Ls Hs (taT Ts (laH l).1.1) (laH l)).1=0∧l.length≠24):=by
     have h:=af_0 (g:=lgT Ls Hs (taT Ts (laH l).1.1) (laH l)) (l:=l) (by rw[←HGL.out]);exact⟨h.1,h.2.1,h.2.2.1⟩
    have HSPN:Hid (spB S (laH (l++[((k2,k3),k4)])).1=true):=by
     show _=_;rw[la_app];have h2:=lg_sp HTP.out HG4.out.2.1;rw[←HG4.out.1,←HGL.out] at h2;exact h2
    have hm23:m≤23:=by
     have h1:=HG4.out.2.2;rw[HML.out] at h1;omega
    obtain⟨j0,hj,hy0,hy1,hy2⟩:=info_parts hop_info;have hlgc:g<wc.heap.size:=bLQ _ _ d0;clear r0 r1 r2 f0 f1 f2 HG4
    go_wp2_with (at_builtin;refine wpList_append_own _ rfl _ _ 81 rfl w1.heap.size 127 j0 (.agg #[.int i64 0,.int i64 0,.int i64 0]) 3 24 underlying81 hj hy0 hy1 hy2 hop_zero (by decide) _ _ _ rfl (HOc.out.alloc _) ⟨wc.heap.size,0,none⟩ 1 1 [.int i64 k2,.int i64 k3,.int i64 k4] rfl rfl ?m1 ?m2 ?m3 ?m4 ?m5 ?_)
    case m1 =>
     intro j u hj
     match j,hj with
     | 0,hj=>simp at hj;subst hj;simp[Addr.add]
     | 1,hj=>simp at hj;subst hj;simp[Addr.add]
     | 2,hj=>simp at hj;subst hj;simp[Addr.add]
    case m2=>intro u hu;simp at hu;rcases hu with rfl | rfl | rfl <;> rfl
    case m3=>unfold maxLen;omega
    case m4=>omega
    case m5=>simp;omega
    intro v5 w5 hown5 hgrow5 _;obtain⟨ao6,cap6,rfl⟩:=own_form hown5;have hb5:Below w1.heap.size wc w5:=((Below.refl _ wc).alloc hs1c _).grown hgrow5 (by simp;omega) (fun g hg=>(HOc.out.lt g hg).1);have HB5:Hid (Below w1.heap.size w1 w5):=HBc.out.trans hb5;have HO5:Hid (w5.ownsRow w1.heap.size 127 3 (.slice ao6 (m+1) cap6) (l++[((k2,k3),k4)]).length (cellsG hopE (l++[((k2,k3),k4)]))):=by
     show World.ownsRow _ _ _ _ _ _ _;rw[List.length_append,HML.out,cellsG_app,cellsG_one];exact hown5
    have HLL:Hid (0<(l++[((k2,k3),k4)]).length∧(l++[((k2,k3),k4)]).length≤24):=by
     rw[List.length_append,HML.out];exact⟨by simp,by simp;omega⟩
    clear hb5 hgrow5 hown5;go_wp2;go_roundw
    case rel=>exact⟨l++[((k2,k3),k4)],HLL.out,HO5.out,HFN.out,HSPN.out,HB5.out⟩
    case measure=>simp[sliL];omega
   have HF2:Hid (F=(k0,k1,l)):=by
    show _=_;rw[HFL.out];exact fo_end HL24.out HGL.out hk
   have ek:(k0 != 0)=true:=by simp[hk]
   have hlgc:g<wc.heap.size:=bLQ _ _ d0;clear hk d2 d3 d4 r0 r1 r2 f0 f1 f2;go_upto_region 5 with fail
   go_region_with (go_at_call 95;refine (clone_any k1 _ HGN.out).mono ?_;rintro e w3 ⟨rfl,hb3⟩;have hbz:=bdrew hb3;have HO3:Hid (w3.ownsRow w1.heap.size 127 3 (.slice (some ⟨g5,o5,none⟩) m cap5) m (cellsG hopE l)):=own_below HOc.out hbz;have HX3:Hid (FBox w w3 S (.slice ao n cap) (.slice ao2 n2 cap2) (.slice ao3 n3 cap3) x y h):=HXc.out.later HXc.out.lt hbz;have hld:=HLT.out.later hbz;obtain⟨d0,d1,d2,d3,d4⟩:=hld;obtain⟨hBw3,⟨b0,b1,b2,b3⟩,i0,i1,i2,r0,r1,r2,f⟩:=HX3.out;have HBw3:Hid (Below w.heap.size w w3):=hBw3;have f0:=f 0;have f1:=f 1;have f2:=f 2;clear hb3 hbz f hBw3)
   all_goals
    go_wp2;refine bodyPost_ret (v:=.agg #[.int i64 k0,.string k1,.slice (some ⟨g5,o5,none⟩) m cap5]) (by simp[results,results62,go_sem, *]) rfl ⟨_,_,_,by rw[HF2.out],?_,below_put3 HBw3.out _ (by omega) _ _ _⟩;rw[HF2.out];exact own_mono (B:=w1.heap.size) (by rw[HML.out];exact own_put3 HO3.out _ (by omega) _ _ _) (by have:=HLW1.out;omega)
theorem go_drewN (w:World)(n:Nat):Below w.heap.size w (w.drewN n):=⟨rfl,rfl,rfl,nLQ _,fun _ _=>rfl⟩
def gnF (Ls:LkQ)(Hs:HoQ)(t:List Ru)(l:HpQ):(Int×ByteArray×HpQ)×Bool:=
 match goE Ls Hs t l (laH l) with
 | .inl e=>((e.1,e.2,l),false)
 | .inr q=>((0,ByteArray.empty,l++[q]),true)
section
variable {Ls:LkQ}{Hs:HoQ}{t:List Ru}{l:HpQ}{q:(Int×Int)×Int}
theorem gn_2 (h:stT t (laH l)=none):gnF Ls Hs t l=((2,ByteArray.empty,l),false):=by
 have e:goE Ls Hs t l (laH l)=.inl (2,ByteArray.empty):=by
  unfold goE;rw[h]
 unfold gnF;rw[e]
theorem gn_1 (h:stT t (laH l)=some q){m:ByteArray}(ha:atO Hs q.1=some m):gnF Ls Hs t l=((1,m,l),false):=by
 have e:goE Ls Hs t l (laH l)=.inl (1,m):=by
  unfold goE;rw[h];simp only[ha]
 unfold gnF;rw[e]
theorem gn_3 (h:stT t (laH l)=some q)(ha:atO Hs q.1=none)(hp:peerO Ls q.1=none):gnF Ls Hs t l=((3,ByteArray.empty,l),false):=by
 have e:goE Ls Hs t l (laH l)=.inl (3,ByteArray.empty):=by
  unfold goE;rw[h];simp only[ha,hp]
 unfold gnF;rw[e]
theorem gn_4 (h:stT t (laH l)=some q)(ha:atO Hs q.1=none){s:Int×Int}(hp:peerO Ls q.1=some s)(h4:l.length=24∨(l.any fun x=>heB (s,q.2) x)=true):gnF Ls Hs t l=((4,ByteArray.empty,l),false):=by
 have e:goE Ls Hs t l (laH l)=.inl (4,ByteArray.empty):=by
  unfold goE;rw[h];simp only[ha,hp];rw[if_pos h4]
 unfold gnF;rw[e]
theorem gn_n (h:stT t (laH l)=some q)(ha:atO Hs q.1=none){s:Int×Int}(hp:peerO Ls q.1=some s)(h4:l.length≠24)(h5:(l.any fun x=>heB (s,q.2) x)=false):gnF Ls Hs t l=((0,ByteArray.empty,l++[(s,q.2)]),true):=by
 have e:goE Ls Hs t l (laH l)=.inr (s,q.2):=by
  unfold goE;rw[h];simp only[ha,hp];rw[if_neg];rw[not_or,h5];exact⟨h4,by simp⟩
 unfold gnF;rw[e]
end
theorem he_sy (a b:(Int×Int)×Int):heB a b=hopB b a:=by
 rw[Bool.eq_iff_iff,heB_iff,hopB_iff];exact eq_comm
structure GB (w W:World)(S:Int)(v1 v2 u:Value):Prop where
 below:Below w.heap.size w W
 t:TBox W w.heap.size S v1 v2
 f0:W.cell? ⟨w.heap.size+1,0,none⟩=some (.int i64 0)
 f1:W.cell? ⟨w.heap.size+1,1,none⟩=some (.string ⟨#[]⟩)
 f2:W.cell? ⟨w.heap.size+1,2,none⟩=some u
 ff:∀i,W.frozen? ⟨w.heap.size+1,i,none⟩=false
 r0:W.cell? ⟨w.heap.size+1+1,0,none⟩=some (.int i64 0)
 r1:W.cell? ⟨w.heap.size+1+1,1,none⟩=some (.string ⟨#[]⟩)
 r2:W.cell? ⟨w.heap.size+1+1,2,none⟩=some (.slice none 0 0)
 rf:∀i,W.frozen? ⟨w.heap.size+1+1,i,none⟩=false
theorem GB.lt {w W:World}{S:Int}{v1 v2 u:Value}(k:GB w W S v1 v2 u):w.heap.size+3≤W.heap.size:=bLQ W ⟨w.heap.size+1+1,0,none⟩ k.r0
theorem GB.later {w W W':World}{S:Int}{v1 v2 u:Value}(k:GB w W S v1 v2 u){B:Nat}(hB:w.heap.size+3≤B)(hb:Below B W W'):GB w W' S v1 v2 u:=
 have hc:∀(g i:Nat) (x:Value),g<w.heap.size+3→W.cell? ⟨g,i,none⟩=some x→W'.cell? ⟨g,i,none⟩=some x:=fun g i x hg e=>(hb.cell (p:=⟨g,i,none⟩) (show g<B by omega)).trans e
 ⟨k.below.trans (hb.mono (by omega)),⟨hc _ _ _ (by omega) k.t.1,hc _ _ _ (by omega) k.t.2.1,hc _ _ _ (by omega) k.t.2.2⟩,hc _ _ _ (by omega) k.f0,hc _ _ _ (by omega) k.f1,hc _ _ _ (by omega) k.f2,fun i=>(hb.frozen (p:=⟨w.heap.size+1,i,none⟩) (show w.heap.size+1<B by omega)).trans (k.ff i),hc _ _ _ (by omega) k.r0,hc _ _ _ (by omega) k.r1,hc _ _ _ (by omega) k.r2,fun i=>(hb.frozen (p:=⟨w.heap.size+1+1,i,none⟩) (show w.heap.size+1+1<B by omega)).trans (k.rf i)⟩
theorem gb_new (w:World)(S:Int)(v1 v2 u:Value):GB w (((w.alloc (.cells #[.int i64 S,v1,v2] 25)).alloc (.cells #[.int i64 0,.string ⟨#[]⟩,u] 83)).alloc (.cells #[.int i64 0,.string ⟨#[]⟩,.slice none 0 0] 83)) S v1 v2 u:=by
 have hb:∀(W:World) (o:Obj),Below W.heap.size W (W.alloc o):=fun W o=>(bRQ _ _).alloc (nLQ _) _
 have ht:=tbox_new w S v1 v2 25;have e1:(w.alloc (.cells #[.int i64 S,v1,v2] 25)).heap.size=w.heap.size+1:=by simp
 have b1:=hb w (Obj.cells #[.int i64 S,v1,v2] 25)
 generalize w.alloc (.cells #[.int i64 S,v1,v2] 25)=A at ht e1 b1
 have hf:=vat_new A [.int i64 0,.string ⟨#[]⟩,u] 83;have zf:=froz_new2 A #[.int i64 0,.string ⟨#[]⟩,u] 83;have e2:(A.alloc (.cells #[.int i64 0,.string ⟨#[]⟩,u] 83)).heap.size=w.heap.size+1+1:=by simp[e1]
 have b2:=hb A (Obj.cells #[.int i64 0,.string ⟨#[]⟩,u] 83);rw[e1] at hf zf
 generalize A.alloc (.cells #[.int i64 0,.string ⟨#[]⟩,u] 83)=C at hf zf e2 b2
 have hr:=vat_new C [.int i64 0,.string ⟨#[]⟩,.slice none 0 0] 83;have zr:=froz_new2 C #[.int i64 0,.string ⟨#[]⟩,.slice none 0 0] 83;have b3:=hb C (Obj.cells #[.int i64 0,.string ⟨#[]⟩,.slice none 0 0] 83);rw[e2] at hr zr;have hf':=hf.later b3;exact⟨(b1.trans (b2.mono (by omega))).trans (b3.mono (by omega)),(ht.later b2).later b3,hf' 0 _ rfl,hf' 1 _ rfl,hf' 2 _ rfl,fun i=>(b3.frozen (p:=⟨w.heap.size+1,i,none⟩) (show w.heap.size+1<C.heap.size by omega)).trans (zf i),hr 0 _ rfl,hr 1 _ rfl,hr 2 _ rfl,zr⟩
theorem rgo_any (S:Int)(ao:AdQ)(n cap:Nat)(ao2:AdQ)(n2 cap2:Nat)(a4:AdQ)(n4 c4:Nat)(ao5:AdQ)(m cap5:Nat)(Ls:LkQ)(Hs:HoQ)(t:List Ru)(l:HpQ)(w:World)
 (hL:GS lnkE w (.slice ao n cap) Ls) (hH:GS hstE w (.slice ao2 n2 cap2) Hs) (hS:SR w (.slice a4 n4 c4) t) (hG:GS hopE w (.slice ao5 m cap5) l) (ht:tbN t=0) (hh:hdrB (laH l).2=true) (hl0:0<m) (hl24:m≤24):
 Calls prog 51 #[.agg #[.int i64 S,.slice ao n cap,.slice ao2 n2 cap2],.slice a4 n4 c4,.agg #[.int i64 0,.string ⟨#[]⟩,.slice ao5 m cap5]] w fun e w'=>∃ao6 n6 cap6,e=.returned (.tuple #[.agg #[.int i64 (gnF Ls Hs t l).1.1,.string (gnF Ls Hs t l).1.2.1,.slice ao6 n6 cap6],.bool (gnF Ls Hs t l).2])∧GS hopE w' (.slice ao6 n6 cap6) (gnF Ls Hs t l).1.2.2∧Below w.heap.size w w'∧(ao6=ao5∨∀g o,ao6=some ⟨g,o,none⟩→w.heap.size≤g):=by
 have hm:=hG.len;have HML:Hid (l.length=m):=hm;have HLW:Hid (∀W,Below w.heap.size w W→GS lnkE W (.slice ao n cap) Ls):=fun W hb=>hL.later hb
 have HHW:Hid (∀W,Below w.heap.size w W→GS hstE W (.slice ao2 n2 cap2) Hs):=fun W hb=>hH.later hb
 have HSW:Hid (∀W,Below w.heap.size w W→SR W (.slice a4 n4 c4) t):=fun W hb=>hS.later hb
 have HGW:Hid (∀W,Below w.heap.size w W→GS hopE W (.slice ao5 m cap5) l):=fun W hb=>hG.later hb
 have HTB:Hid (tbN t=0):=ht;have HHB:Hid (∀g o,0<n2→ao2=some ⟨g,o,none⟩→g<w.heap.size):=fun g o h1 h2=>by
  obtain⟨_,_,_,e7,h3,_,_,h4⟩:=hH.form;cases e7;obtain⟨g',o',e8,h5,_⟩:=h4 h1;rw[h2] at e8;cases e8;obtain⟨_,_,_,_,_,k0,_,_⟩:=hst_at h5 h3 h1;exact bLQ _ _ k0
 obtain⟨F,hF⟩:∃F,F=gnF Ls Hs t l:=⟨_,rfl⟩;have HF:Hid (F=gnF Ls Hs t l):=hF;rw[←hF];obtain⟨_,_,_,e5,_,_,_,hGa⟩:=hG.form;cases e5;obtain⟨g5,o5,hao5,hc5,_⟩:=hGa hl0;subst hao5;have HC5:Hid (∀W,Below w.heap.size w W→GAt hopE W g5 o5 l):=fun W hb=>hc5.later hb
 have hX:=gb_new w S (.slice ao n cap) (.slice ao2 n2 cap2) (.slice (some ⟨g5,o5,none⟩) m cap5);obtain⟨w0,hw0⟩:∃W,((w.alloc (.cells #[.int i64 S,.slice ao n cap,.slice ao2 n2 cap2] 25)).alloc (.cells #[.int i64 0,.string ⟨#[]⟩,.slice (some ⟨g5,o5,none⟩) m cap5] 83)).alloc (.cells #[.int i64 0,.string ⟨#[]⟩,.slice none 0 0] 83)=W:=⟨_,rfl⟩;rw[hw0] at hX;have HX:Hid (GB w w0 S (.slice ao n cap) (.slice ao2 n2 cap2) (.slice (some ⟨g5,o5,none⟩) m cap5)):=hX;have HW0:Hid (((w.alloc (.cells #[.int i64 S,.slice ao n cap,.slice ao2 n2 cap2] 25)).alloc (.cells #[.int i64 0,.string ⟨#[]⟩,.slice (some ⟨g5,o5,none⟩) m cap5] 83)).alloc (.cells #[.int i64 0,.string ⟨#[]⟩,.slice none 0 0] 83)=w0):=hw0;obtain⟨p0,p1,p2,hkl,hLk,_,_,_⟩:=hop_at hc5 hm (show m-1<m by omega);have hla:laH l=((p0,p1),p2):=by
  have e:laH l=l[m-1]:=by
   unfold laH;rw[hm];simp[List.getD,hkl]
  rw[e,hLk]
 have HLA:Hid (laH l=((p0,p1),p2)):=hla;rw[hla] at hh;have HH:Hid (hdrB p2=true):=hh;have hmi:IntKind.i64.wrap ((m:Int)-1)=((m-1:Nat):Int):=by
  rw[show (m:Int)-1=((m-1:Nat):Int) by omega];exact wrap_small (by omega) (by omega)
 have mb0:(0:Int)≤((m-1:Nat):Int):=by omega
 have mb1:((m-1:Nat):Int)<(m:Int):=by omega
 obtain⟨p0',p1',p2',hkl',hLk',c0,c1,c2⟩:=hop_at (HC5.out _ hX.below) hm (show m-1<m by omega);rw[hLk] at hLk';cases hLk';obtain⟨w1,hw1⟩:∃W,w0.alloc (.cells #[.int i64 p0,.int i64 p1,.int i64 p2] 127)=W:=⟨_,rfl⟩;obtain⟨g1,hg1⟩:∃g,w0.heap.size=g:=⟨_,rfl⟩;have hb1:Below w0.heap.size w0 w1:=by
  rw[←hw1];exact (bRQ _ _).alloc (nLQ _) _
 have hv1:=hop_new w0 p0 p1 p2 127;rw[hw1,hg1] at hv1;have HX1:Hid (GB w w1 S (.slice ao n cap) (.slice ao2 n2 cap2) (.slice (some ⟨g5,o5,none⟩) m cap5)):=hX.later hX.lt hb1;have HV1:Hid (VAt w1 g1 0 (hopE.c ((p0,p1),p2))):=hv1;have HW1:Hid (w0.alloc (.cells #[.int i64 p0,.int i64 p1,.int i64 p2] 127)=w1):=hw1;have HG1:Hid (w0.heap.size=g1):=hg1;clear hL hH hS hG ht hF hGa hc5 hw0 hkl hLk hla hh hkl' hw1 hg1 hb1 hv1 hm;obtain⟨_,⟨b0,b1,b2⟩,f0,f1,f2,_,_,_,_,_⟩:=hX;go_enter func51,ntmps51;go_upto_region 1 with fail;rw[HW0.out];go_upto_region 2 with fail;rw[HW1.out,HG1.out];obtain⟨t0,t1,t2⟩:=hop_cells HV1.out;simp only[Nat.zero_add] at t0 t1 t2;clear HW0 HW1 HG1 b0 b1 b2 f0 f1 f2 c0 c1 c2 HX
 go_wp2_with fail
 refine (find_any (.slice a4 n4 c4) t p2 _ (HSW.out _ HX1.out.below)).mono ?_;rintro e w2 ⟨rfl,hb2⟩;have HX2:Hid (GB w w2 S (.slice ao n cap) (.slice ao2 n2 cap2) (.slice (some ⟨g5,o5,none⟩) m cap5)):=HX1.out.later HX1.out.lt hb2;have HV2:Hid (VAt w2 g1 0 (hopE.c ((p0,p1),p2))):=HV1.out.later hb2;obtain⟨I,hI⟩:∃I,I=beTo t p2 t.length:=⟨_,rfl⟩;have HI:Hid (beTo t p2 t.length=I):=hI.symm;rw[←hI];obtain⟨t0,t1,t2⟩:=hop_cells HV2.out;simp only[Nat.zero_add] at t0 t1 t2;clear hb2 hI HX1 HV1;by_cases hneg:I<0
 ·have e1:decide (I<0)=true:=by simpa using hneg
  have HF2:Hid (F=((2,ByteArray.empty,l),false)):=by
   show _=_;rw[HF.out];refine gn_2 ?_;rw[HLA.out];exact st_no HTB.out HH.out (by rw[HI.out];exact hneg)
  obtain⟨hBw,⟨b0,b1,b2⟩,f0,f1,f2,ff,r0,r1,r2,rf⟩:=HX2.out;have HBw:Hid (Below w.heap.size w w2):=hBw;have ff0:=ff 0;have rf0:=rf 0;have rf1:=rf 1;have rf2:=rf 2;clear ff rf hBw;go_wp2;have HBE:Hid (∀u a b c,Below w.heap.size w (put3 (w2.setCell ⟨w.heap.size+1,0,none⟩ u) (w.heap.size+1+1) a b c)):=fun u a b c=>below_put3 (HBw.out.setCell (p:=⟨w.heap.size+1,0,none⟩) (show w.heap.size≤w.heap.size+1 by omega) u) _ (by omega) _ _ _
  refine bodyPost_ret (v:=.tuple #[.agg #[.int i64 2,.string ⟨#[]⟩,.slice (some ⟨g5,o5,none⟩) m cap5],.bool false]) (by simp[results,results51,go_sem, *]) rfl ⟨_,_,_,by rw[HF2.out];rfl,?_,HBE.out _ _ _ _,.inl rfl⟩;rw[HF2.out];exact HGW.out _ (HBE.out _ _ _ _)
 have e1:decide (I<0)=false:=by simpa using hneg
 have hbd:=be_bd t p2 t.length;rw[HI.out] at hbd;obtain⟨j,rfl⟩:∃j:Nat,I=(j:Int):=⟨I.toNat,by omega⟩;have hjl:j<t.length:=by omega
 obtain⟨_,_,_,e4,hn4,hm4,_,ha4⟩:=(HSW.out _ HX2.out.below).form;cases e4;obtain⟨g4,o4,hao4,hc4,_⟩:=ha4 (by omega);subst hao4;have hjn:j<n4:=by omega
 obtain⟨rp,rm,rb,ro,rs,rv,hl,hLj,q0,q1,q2,q3,q4,q5⟩:=hc4.at hn4 hjn;have hbe:beR t p2=⟨rp,rm,rb,ro,rs,rv⟩:=by
  rw[beR,HI.out,Int.toNat_natCast,getD_at hjl,hLj]
 have HBE:Hid (beR t p2=⟨rp,rm,rb,ro,rs,rv⟩):=hbe;have HLJ:Hid (t[j]=⟨rp,rm,rb,ro,rs,rv⟩):=hLj;have HN4:Hid (t.length=n4):=hn4;have HB0:Hid (0≤beTo t p2 t.length):=by
  show _≤_;rw[HI.out];omega
 have jb0:(0:Int)≤(j:Int):=by omega
 have jb1:(j:Int)<(n4:Int):=by omega
 have hj0:¬(j:Int)<0:=by omega
 clear hneg hbd hn4 hm4 ha4 hc4 hLj hbe;by_cases ho:ro=0
 ·have e2:(ro==0)=true:=by simp[ho]
  have HF2:Hid (F=((2,ByteArray.empty,l),false)):=by
   show _=_;rw[HF.out];refine gn_2 ?_;rw[HLA.out];exact st_drop HTB.out HH.out HB0.out (by rw[HBE.out];exact ho)
  clear ho;obtain⟨hBw,⟨b0,b1,b2⟩,f0,f1,f2,ff,r0,r1,r2,rf⟩:=HX2.out;have HBw:Hid (Below w.heap.size w w2):=hBw;have ff0:=ff 0;have rf0:=rf 0;have rf1:=rf 1;have rf2:=rf 2;clear ff rf hBw;go_wp2;have HBE:Hid (∀u a b c,Below w.heap.size w (put3 (w2.setCell ⟨w.heap.size+1,0,none⟩ u) (w.heap.size+1+1) a b c)):=fun u a b c=>below_put3 (HBw.out.setCell (p:=⟨w.heap.size+1,0,none⟩) (show w.heap.size≤w.heap.size+1 by omega) u) _ (by omega) _ _ _
  refine bodyPost_ret (v:=.tuple #[.agg #[.int i64 2,.string ⟨#[]⟩,.slice (some ⟨g5,o5,none⟩) m cap5],.bool false]) (by simp[results,results51,go_sem, *]) rfl ⟨_,_,_,by rw[HF2.out];rfl,?_,HBE.out _ _ _ _,.inl rfl⟩;rw[HF2.out];exact HGW.out _ (HBE.out _ _ _ _)
 have e2:(ro==0)=false:=by simpa using ho
 obtain⟨k1,k2,k3⟩:=st_yes (p:=((p0,p1),p2)) HTB.out HH.out HB0.out (by rw[HBE.out];exact ho);rw[HBE.out] at k1 k2 k3;simp only at k1 k2 k3;obtain⟨TU,hTU⟩:∃u,u=tuTo rs rv p2 4:=⟨_,rfl⟩;have HTU:Hid (tuTo rs rv p2 4=TU):=hTU.symm;rw[←hTU] at k1;have HST:Hid (stT t (laH l)=some ((p0,ro),TU)):=by
  show _=_;rw[HLA.out];exact k1
 have HRS:Hid (0≤rs∧rs<16):=k2;have HRV:Hid (0≤rv∧rv<16):=k3;have y1:g1<w2.heap.size:=bLQ _ _ t0;have y4:g4<w2.heap.size:=bLQ _ _ q0;clear ho k1 k2 k3 hTU;go_upto_region 6 with fail
 go_cut [10] from 42 to 50 (fun p w'=>∃g,p=.pointer (some ⟨g,0,none⟩)∧(w'.cell? ⟨g,0,none⟩=some (.int i64 p0)∧w'.cell? ⟨g,1,none⟩=some (.int i64 ro))∧Below w2.heap.size w2 w')
 case first =>
  as_aux_lemma =>
   go_region
   all_goals (go_wp2_with fail;go_meet)
   all_goals exact⟨_,rfl,⟨by simp,by simp⟩,(Below.drew (bRQ _ _)).alloc (nLQ _) _⟩
 case rest =>
  obtain⟨gs,rfl,⟨d0,d1⟩,hb3⟩:=hcut;have HX3:Hid (GB w wc S (.slice ao n cap) (.slice ao2 n2 cap2) (.slice (some ⟨g5,o5,none⟩) m cap5)):=HX2.out.later HX2.out.lt hb3;have HV3:Hid (VAt wc g1 0 (hopE.c ((p0,p1),p2))):=HV2.out.later hb3;have HD3:Hid (VAt wc gs 0 [.int i64 p0,.int i64 ro]):=by
   intro j u hu
   match j,hu with
   | 0,hu=>cases hu;exact d0
   | 1,hu=>cases hu;exact d1
  obtain⟨w3,hw3⟩:∃X,X=wc:=⟨_,rfl⟩;subst hw3;obtain⟨_,⟨b0,b1,b2⟩,f0,f1,f2,_,_,_,_,_⟩:=HX3.out;clear hb3 HX2 HV2 t0 t1 t2 q0 q1 q2 q3 q4 q5 y1 y4
  go_wp2_with fail
  refine (rhost_any S ao n cap ao2 n2 cap2 Hs p0 ro _ (HHW.out _ HX3.out.below)).mono ?_;rintro e w5 ⟨rfl,hb5⟩;have HX5:Hid (GB w w5 S (.slice ao n cap) (.slice ao2 n2 cap2) (.slice (some ⟨g5,o5,none⟩) m cap5)):=HX3.out.later HX3.out.lt hb5;have HV5:Hid (VAt w5 g1 0 (hopE.c ((p0,p1),p2))):=HV3.out.later hb5;have HD5:Hid (VAt w5 gs 0 [.int i64 p0,.int i64 ro]):=HD3.out.later hb5;clear hb5 HX3 HV3 HD3 b0 b1 b2 f0 f1 f2 d0 d1
  rcases at_ix Hs (p0,ro) with ⟨hi,hat⟩ | ⟨k,hk,hi,hat⟩
  ·rw[show atN Hs (p0,ro) = -1 from hi];have HAT:Hid (atO Hs (p0,ro)=none):=hat;obtain⟨_,⟨b0,b1,b2⟩,f0,f1,f2,_,_,_,_,_⟩:=HX5.out;have d0:w5.cell? ⟨gs,0,none⟩=some (.int i64 p0):=HD5.out 0 _ rfl;have d1:w5.cell? ⟨gs,1,none⟩=some (.int i64 ro):=HD5.out 1 _ rfl;clear hi hat
   go_wp2_with fail
   refine (rpeer_any S ao n cap ao2 n2 cap2 Ls p0 ro _ (HLW.out _ HX5.out.below)).mono ?_;rintro e w6 ⟨rfl,hb6⟩;obtain⟨P,hP⟩:∃P,P=peerO Ls (p0,ro):=⟨_,rfl⟩;have HP:Hid (peerO Ls (p0,ro)=P):=hP.symm;rw[←hP];have HX6:Hid (GB w w6 S (.slice ao n cap) (.slice ao2 n2 cap2) (.slice (some ⟨g5,o5,none⟩) m cap5)):=HX5.out.later HX5.out.lt hb6;have HV6:Hid (VAt w6 g1 0 (hopE.c ((p0,p1),p2))):=HV5.out.later hb6;clear hb6 hP HX5 HV5 HD5 b0 b1 b2 f0 f1 f2 d0 d1;cases P with
   | none =>
     have HF2:Hid (F=((3,ByteArray.empty,l),false)):=by
      show _=_;rw[HF.out];exact gn_3 HST.out HAT.out HP.out
     simp only[Option.getD_none,Option.isSome_none];have b7:Below w6.heap.size w6 (w6.alloc (.cells #[.int i64 0,.int i64 0] 75)):=(bRQ _ _).alloc (nLQ _) _;obtain⟨w7,hw7⟩:∃W,w6.alloc (.cells #[.int i64 0,.int i64 0] 75)=W:=⟨_,rfl⟩;rw[hw7] at b7;have HX7:Hid (GB w w7 S (.slice ao n cap) (.slice ao2 n2 cap2) (.slice (some ⟨g5,o5,none⟩) m cap5)):=HX6.out.later HX6.out.lt b7;have HW7:Hid (w6.alloc (.cells #[.int i64 0,.int i64 0] 75)=w7):=hw7;clear b7 hw7;go_upto_region 13 with fail;rw[HW7.out];clear HW7;obtain⟨hBw,⟨b0,b1,b2⟩,f0,f1,f2,ff,r0,r1,r2,rf⟩:=HX7.out;have HBw:Hid (Below w.heap.size w w7):=hBw;have ff0:=ff 0;have rf0:=rf 0;have rf1:=rf 1;have rf2:=rf 2;clear ff rf hBw;go_wp2;have HBE:Hid (∀u a b c,Below w.heap.size w (put3 (w7.setCell ⟨w.heap.size+1,0,none⟩ u) (w.heap.size+1+1) a b c)):=fun u a b c=>below_put3 (HBw.out.setCell (p:=⟨w.heap.size+1,0,none⟩) (show w.heap.size≤w.heap.size+1 by omega) u) _ (by omega) _ _ _
     refine bodyPost_ret (v:=.tuple #[.agg #[.int i64 3,.string ⟨#[]⟩,.slice (some ⟨g5,o5,none⟩) m cap5],.bool false]) (by simp[results,results51,go_sem, *]) rfl ⟨_,_,_,by rw[HF2.out];rfl,?_,HBE.out _ _ _ _,.inl rfl⟩;rw[HF2.out];exact HGW.out _ (HBE.out _ _ _ _)
   | some s =>
     obtain⟨s1,s2⟩:=s;simp only[Option.getD_some,Option.isSome_some];have b7:Below w6.heap.size w6 (w6.alloc (.cells #[.int i64 s1,.int i64 s2] 75)):=(bRQ _ _).alloc (nLQ _) _;have v7:=vat_new w6 [.int i64 s1,.int i64 s2] 75;obtain⟨w7,hw7⟩:∃W,w6.alloc (.cells #[.int i64 s1,.int i64 s2] 75)=W:=⟨_,rfl⟩;obtain⟨g7,hg7⟩:∃g,w6.heap.size=g:=⟨_,rfl⟩;have v7':VAt w7 g7 0 [.int i64 s1,.int i64 s2]:=by
      rw[←hw7,←hg7];exact v7
     rw[hw7] at b7;have HX7:Hid (GB w w7 S (.slice ao n cap) (.slice ao2 n2 cap2) (.slice (some ⟨g5,o5,none⟩) m cap5)):=HX6.out.later HX6.out.lt b7;have HV7:Hid (VAt w7 g1 0 (hopE.c ((p0,p1),p2))):=HV6.out.later b7;have HW7:Hid (w6.alloc (.cells #[.int i64 s1,.int i64 s2] 75)=w7):=hw7;have HG7:Hid (w6.heap.size=g7):=hg7;have d0:w7.cell? ⟨g7,0,none⟩=some (.int i64 s1):=v7' 0 _ rfl;have d1:w7.cell? ⟨g7,1,none⟩=some (.int i64 s2):=v7' 1 _ rfl;obtain⟨t0,t1,t2⟩:=hop_cells HV7.out;simp only[Nat.zero_add] at t0 t1 t2;obtain⟨_,_,_,e4,_,_,_,ha4⟩:=(HSW.out _ HX7.out.below).form;cases e4;obtain⟨g4',o4',hao4,hc4,_⟩:=ha4 (by omega);cases hao4;obtain⟨rp',rm',rb',ro',rs',rv',hl',hLj',q0,q1,q2,q3,q4,q5⟩:=hc4.at HN4.out hjn;rw[HLJ.out] at hLj';cases hLj';have y1:g1<w7.heap.size:=bLQ _ _ t0;have y4:g4<w7.heap.size:=bLQ _ _ q0;have y7:g7<w7.heap.size:=bLQ _ _ d0;have h16:=hdr_of HH.out;have HH16:Hid (0≤p2∧p2<16):=h16;clear b7 v7 hw7 hg7 v7' ha4 hc4 HX6 HV6 h16;go_upto_region 13 with fail;rw[HW7.out,HG7.out];clear HW7 HG7;go_upto_region 16 with fail
     go_cut [14] from 75 to 83 (fun p w'=>∃g,p=.pointer (some ⟨g,0,none⟩)∧(w'.cell? ⟨g,0,none⟩=some (.int i64 s1)∧w'.cell? ⟨g,1,none⟩=some (.int i64 s2)∧w'.cell? ⟨g,2,none⟩=some (.int i64 TU))∧Below w7.heap.size w7 w')
     case first =>
      as_aux_lemma =>
       have HMK:Hid (∀W,Below w7.heap.size w7 W→(fun w'=>Below w7.heap.size w7 w'∧w'.cell? ⟨g7,0,none⟩=some (.int i64 s1)∧w'.cell? ⟨g7,1,none⟩=some (.int i64 s2)∧w'.cell? ⟨g4,o4+j*6,none⟩=some (.int i64 rp)∧w'.cell? ⟨g4,o4+j*6+1,none⟩=some (.int i64 rm)∧w'.cell? ⟨g4,o4+j*6+2,none⟩=some (.int i64 rb)∧w'.cell? ⟨g4,o4+j*6+3,none⟩=some (.int i64 ro)∧w'.cell? ⟨g4,o4+j*6+4,none⟩=some (.int i64 rs)∧w'.cell? ⟨g4,o4+j*6+5,none⟩=some (.int i64 rv)∧w'.cell? ⟨g1,2,none⟩=some (.int i64 p2)) W):=fun W hb=>⟨hb,cell_later hb d0,cell_later hb d1,cell_later hb q0,cell_later hb q1,cell_later hb q2,cell_later hb q3,cell_later hb q4,cell_later hb q5,cell_later hb t2⟩
       go_region_held3 (fun w'=>Below w7.heap.size w7 w'∧w'.cell? ⟨g7,0,none⟩=some (.int i64 s1)∧w'.cell? ⟨g7,1,none⟩=some (.int i64 s2)∧w'.cell? ⟨g4,o4+j*6,none⟩=some (.int i64 rp)∧w'.cell? ⟨g4,o4+j*6+1,none⟩=some (.int i64 rm)∧w'.cell? ⟨g4,o4+j*6+2,none⟩=some (.int i64 rb)∧w'.cell? ⟨g4,o4+j*6+3,none⟩=some (.int i64 ro)∧w'.cell? ⟨g4,o4+j*6+4,none⟩=some (.int i64 rs)∧w'.cell? ⟨g4,o4+j*6+5,none⟩=some (.int i64 rv)∧w'.cell? ⟨g1,2,none⟩=some (.int i64 p2))
        (first | assumption | exact HMK.out _ (Below.drew (bRQ _ _)) | exact HMK.out _ ((Below.drew (bRQ _ _)).alloc (nLQ _) _) | exact HMK.out _ HBX.out | exact HMK.out _ (HBX.out.alloc HBX.out.size _) | exact HMK.out _ (below_put3 HBX.out _ (nLQ _) _ _ _) | exact HMK.out _ (below_put3 (HBX.out.alloc HBX.out.size _) _ HBX.out.size _ _ _))
        (first | (go_at_call 85;refine (turned_any rp rm rb ro rs rv p2 _ HRS.out HRV.out HH16.out).mono ?_;rintro e w' ⟨rfl,hb⟩;rw[HTU.out];have HBX:Hid (Below w7.heap.size w7 w'):=(by first | exact bdrew hb | exact balloc hb);try (have hbc:=ballocD hb;obtain⟨kc,kf0,kf1,kf2⟩:=hbc;obtain⟨k0,k1,k2⟩:=kc);clear hb))
       all_goals (go_wp2_with fail;go_meet)
       all_goals first
        | exact⟨_,rfl,⟨by simp,by simp,by simp⟩,HBX.out.alloc HBX.out.size _⟩
        | exact⟨_,rfl,put3_cells ⟨k0,k1,k2⟩,below_put3 HBX.out _ (nLQ _) _ _ _⟩
     case rest =>
      obtain⟨gn,rfl,⟨x0,x1,x2⟩,hb8⟩:=hcut;have HX8:Hid (GB w wc S (.slice ao n cap) (.slice ao2 n2 cap2) (.slice (some ⟨g5,o5,none⟩) m cap5)):=HX7.out.later HX7.out.lt hb8;have HN8:Hid (VAt wc gn 0 (hopE.c ((s1,s2),TU))):=by
       intro j u hu
       match j,hu with
       | 0,hu=>cases hu;exact x0
       | 1,hu=>cases hu;exact x1
       | 2,hu=>cases hu;exact x2
      obtain⟨w8,hw8⟩:∃X,X=wc:=⟨_,rfl⟩;subst hw8;obtain⟨_,⟨b0,b1,b2⟩,f0,f1,f2,_,_,_,_,_⟩:=HX8.out;clear hb8 HX7 HV7 t0 t1 t2 d0 d1 q0 q1 q2 q3 q4 q5 y1 y4 y7 x0 x1 x2;go_wp2;clear b0 b1 b2 f0 f1 f2
      go_loopw [15,16] (fun a i wr=>∃k:Nat,k≤m∧i=.int i64 k∧a=.bool (decide ((24:Int)≤(m:Int)) || (l.take k).any (fun x=>hopB x ((s1,s2),TU)))∧Below w8.heap.size w8 wr) (fun _ i _=>m-(intOf i).toNat)
      case atStart=>exact⟨0,by omega,rfl,by simp,bRQ _ _⟩
      case round =>
       obtain⟨k,hk,rfl,rfl,hBr⟩:=hrel;have HXr:Hid (GB w wr S (.slice ao n cap) (.slice ao2 n2 cap2) (.slice (some ⟨g5,o5,none⟩) m cap5)):=HX8.out.later HX8.out.lt hBr;have HNr:Hid (VAt wr gn 0 (hopE.c ((s1,s2),TU))):=HN8.out.later hBr;have HBr:Hid (Below w8.heap.size w8 wr):=hBr;obtain⟨B,hB⟩:∃B,B=(decide ((24:Int)≤(m:Int)) || (l.take k).any (fun x=>hopB x ((s1,s2),TU))):=⟨_,rfl⟩;have HB:Hid ((decide ((24:Int)≤(m:Int)) || (l.take k).any (fun x=>hopB x ((s1,s2),TU)))=B):=hB.symm;rw[←hB];clear hBr hB;by_cases hlt:k<m
       ·obtain⟨_,⟨b0,b1,b2⟩,f0,f1,f2,_,_,_,_,_⟩:=HXr.out;obtain⟨x0,x1,x2⟩:=hop_cells HNr.out;simp only[Nat.zero_add] at x0 x1 x2;obtain⟨y0,y1,y2,hkl,hLk,c0,c1,c2⟩:=hop_at (HC5.out _ HXr.out.below) HML.out hlt;have HNX:Hid ((decide ((24:Int)≤(m:Int)) || (l.take (k+1)).any (fun x=>hopB x ((s1,s2),TU)))=(B || hopB ((y0,y1),y2) ((s1,s2),TU))):=by
         show _=_;rw[←HB.out,List.take_succ_eq_append_getElem hkl,List.any_append,hLk,Bool.or_assoc];simp
        have z1:g5<wr.heap.size:=bLQ _ _ c0;have z2:gn<wr.heap.size:=bLQ _ _ x0;have z3:w.heap.size+1<wr.heap.size:=bLQ _ _ f0;have kb0:(0:Int)≤(k:Int):=by omega
        have kb1:(k:Int)<(m:Int):=by omega
        clear hLk;cases B with
        | true =>
          go_wp2_with fail
          go_quiet (fail)
          go_wp2;go_roundw
          case rel=>exact⟨k+1,by omega,by go_num,by rw[HNX.out];rfl,HBr.out.trans ((go_drewN _ _).mono HBr.out.size)⟩
          case measure=>simp[intOf];omega
        | false =>
          rcases hop_ways y0 y1 y2 s1 s2 TU with ⟨e0,e⟩ | ⟨e0,e4,e⟩ | ⟨e0,e4,e5,e⟩ | ⟨e0,e4,e5,e⟩
          all_goals
           have HE:=e;clear e;rw[HE] at HNX;clear HE
           go_wp2_with fail
           go_quiet (fail)
           go_wp2;go_roundw
           case rel=>exact⟨k+1,by omega,by go_num,by rw[HNX.out];rfl,HBr.out.trans ((go_drewN _ _).mono HBr.out.size)⟩
           case measure=>simp[intOf];omega
       obtain rfl:k=m:=by omega
       have hany:(l.take k).any (fun x=>hopB x ((s1,s2),TU))=(l.any fun x=>heB ((s1,s2),TU) x):=by
        rw[←HML.out,List.take_length]
        congr 1
        funext x
        exact (he_sy _ _).symm
       have hB2:=HB.out;rw[hany] at hB2;have HB2:Hid ((decide ((24:Int)≤(k:Int)) || (l.any fun x=>heB ((s1,s2),TU) x))=B):=hB2;clear hany hB2;obtain⟨_,⟨b0,b1,b2⟩,f0,f1,f2,_,_,_,_,_⟩:=HXr.out;cases B with
       | true =>
         have HF2:Hid (F=((4,ByteArray.empty,l),false)):=by
          show _=_;rw[HF.out];refine gn_4 HST.out HAT.out HP.out ?_;have h1:=HB2.out;rw[Bool.or_eq_true,decide_eq_true_eq] at h1
          rcases h1 with h1 | h1
          ·left;rw[HML.out];omega
          exact .inr h1
         clear b0 b1 b2 f0 f1 f2;obtain⟨hBw,⟨b0,b1,b2⟩,f0,f1,f2,ff,r0,r1,r2,rf⟩:=HXr.out;have HBw:Hid (Below w.heap.size w wr):=hBw;have ff0:=ff 0;have rf0:=rf 0;have rf1:=rf 1;have rf2:=rf 2;clear ff rf hBw;go_wp2;have HBE:Hid (∀u a b c,Below w.heap.size w (put3 (wr.setCell ⟨w.heap.size+1,0,none⟩ u) (w.heap.size+1+1) a b c)):=fun u a b c=>below_put3 (HBw.out.setCell (p:=⟨w.heap.size+1,0,none⟩) (show w.heap.size≤w.heap.size+1 by omega) u) _ (by omega) _ _ _
         refine bodyPost_ret (v:=.tuple #[.agg #[.int i64 4,.string ⟨#[]⟩,.slice (some ⟨g5,o5,none⟩) k cap5],.bool false]) (by simp[results,results51,go_sem, *]) rfl ⟨_,_,_,by rw[HF2.out];rfl,?_,HBE.out _ _ _ _,.inl rfl⟩;rw[HF2.out];exact HGW.out _ (HBE.out _ _ _ _)
       | false =>
         have h1:=HB2.out;rw[Bool.or_eq_false_iff,decide_eq_false_iff_not] at h1;have hk23:k≤23:=by omega
         have HF2:Hid (F=((0,ByteArray.empty,l++[((s1,s2),TU)]),true)):=by
          show _=_;rw[HF.out];exact gn_n HST.out HAT.out HP.out (by rw[HML.out];omega) h1.2
         obtain⟨j0,hj,hy0,hy1,hy2⟩:=info_parts hop_info;clear h1;go_upto_region 26 with fail
         go_wp2_with (at_builtin;refine wpList_append_GS (E:=hopE) _ rfl _ _ 81 127 rfl underlying81 j0 (.agg #[.int i64 0,.int i64 0,.int i64 0]) 24 hj hy0 hy1 hy2 hop_zero wr.heap.size (.slice none 0 0) rfl [] (World.ownsRow_nil _ _ _ _) _ rfl l (HGW.out _ HXr.out.below) ?a1 ?a2 ?a3 ?_)
         case a1=>rw[HML.out];unfold maxLen;simp;omega
         case a2=>rw[HML.out];simp;omega
         case a3=>exact nLQ _
         intro v6 w6 hown6 hgrow6;obtain⟨ao6,cap6,rfl⟩:=own_form hown6;have hb6:Below wr.heap.size wr w6:=(Below.refl _ wr).grown hgrow6 (nLQ _) (fun g hg=>by cases hg);have HX6:Hid (GB w w6 S (.slice ao n cap) (.slice ao2 n2 cap2) (.slice (some ⟨g5,o5,none⟩) k cap5)):=HXr.out.later HXr.out.lt hb6;have HN6:Hid (VAt w6 gn 0 (hopE.c ((s1,s2),TU))):=HNr.out.later hb6;have HO6:Hid (w6.ownsRow wr.heap.size 127 3 (.slice ao6 k cap6) k (cellsG hopE l)):=hown6;have HB6:Hid (Below wr.heap.size wr w6):=hb6;have hs6:wr.heap.size≤w6.heap.size:=hb6.size;have hr3:w.heap.size+3≤wr.heap.size:=HXr.out.lt;obtain⟨_,⟨b0,b1,b2⟩,f0,f1,f2,_,_,_,_,_⟩:=HX6.out;obtain⟨x0,x1,x2⟩:=hop_cells HN6.out;simp only[Nat.zero_add] at x0 x1 x2;clear hb6 hgrow6 hown6;go_upto_region 27 with fail
         go_wp2_with (at_builtin;refine wpList_append_own _ rfl _ _ 81 rfl wr.heap.size 127 j0 (.agg #[.int i64 0,.int i64 0,.int i64 0]) 3 24 underlying81 hj hy0 hy1 hy2 hop_zero (by decide) _ _ _ rfl (HO6.out.alloc _) ⟨w6.heap.size,0,none⟩ 1 1 [.int i64 s1,.int i64 s2,.int i64 TU] rfl rfl ?m1 ?m2 ?m3 ?m4 ?m5 ?_)
         case m1 =>
          intro j u hj
          match j,hj with
          | 0,hj=>simp at hj;subst hj;simp[Addr.add]
          | 1,hj=>simp at hj;subst hj;simp[Addr.add]
          | 2,hj=>simp at hj;subst hj;simp[Addr.add]
         case m2=>intro u hu;simp at hu;rcases hu with rfl | rfl | rfl <;> rfl
         case m3=>unfold maxLen;omega
         case m4=>omega
         case m5=>simp;omega
         intro v9 w9 hown9 hgrow9 _;obtain⟨ao9,cap9,rfl⟩:=own_form hown9;have hb9:Below wr.heap.size w6 w9:=((Below.refl _ w6).alloc hs6 _).grown hgrow9 (by simp;omega) (fun g hg=>(HO6.out.lt g hg).1);have hB9:Below wr.heap.size wr w9:=HB6.out.trans hb9;have HO9:Hid (w9.ownsRow wr.heap.size 127 3 (.slice ao9 (k+1) cap9) (l++[((s1,s2),TU)]).length (cellsG hopE (l++[((s1,s2),TU)]))):=by
          show World.ownsRow _ _ _ _ _ _ _;rw[List.length_append,HML.out,cellsG_app,cellsG_one];exact hown9
         have HX9:Hid (GB w w9 S (.slice ao n cap) (.slice ao2 n2 cap2) (.slice (some ⟨g5,o5,none⟩) k cap5)):=HXr.out.later HXr.out.lt hB9;obtain⟨hBw,⟨b0,b1,b2⟩,f0,f1,f2,ff,r0,r1,r2,rf⟩:=HX9.out;have HBw:Hid (Below w.heap.size w w9):=hBw;have ff2:=ff 2;have rf0:=rf 0;have rf1:=rf 1;have rf2:=rf 2;clear ff rf hBw hb9 hB9 hgrow9 hown9 x0 x1 x2;go_wp2;have HBE:Hid (∀u a b c,Below w.heap.size w (put3 (w9.setCell ⟨w.heap.size+1,2,none⟩ u) (w.heap.size+1+1) a b c)):=fun u a b c=>below_put3 (HBw.out.setCell (p:=⟨w.heap.size+1,2,none⟩) (show w.heap.size≤w.heap.size+1 by omega) u) _ (by omega) _ _ _
         have HOE:Hid (∀u a b c,(put3 (w9.setCell ⟨w.heap.size+1,2,none⟩ u) (w.heap.size+1+1) a b c).ownsRow wr.heap.size 127 3 (.slice ao9 (k+1) cap9) (l++[((s1,s2),TU)]).length (cellsG hopE (l++[((s1,s2),TU)]))):=fun u a b c=>own_put3 (ownsRow_setCell_below HO9.out (show w.heap.size+1<wr.heap.size by omega) _) _ (by omega) _ _ _
         refine bodyPost_ret (v:=.tuple #[.agg #[.int i64 0,.string ⟨#[]⟩,.slice ao9 (k+1) cap9],.bool true]) (by simp[results,results51,go_sem, *]) rfl ⟨_,_,_,by rw[HF2.out];rfl,?_,HBE.out _ _ _ _,.inr fun g o e=>?_⟩
         ·rw[HF2.out];exact own_GS (HOE.out _ _ _ _)
         subst e;exact Nat.le_trans (by omega) (HO9.out.lt g rfl).1
  rw[show atN Hs (p0,ro)=(k:Int) from hi];have hlt:k<n2:=by
   have:=(HHW.out _ HX5.out.below).len;omega
  obtain⟨_,_,_,e6,hHn,_,_,hHa⟩:=(HHW.out _ HX5.out.below).form;cases e6;obtain⟨gh,oh,hao,hc,_⟩:=hHa (by omega);subst hao;obtain⟨y0,y1,y2,hkl,hHk,c0,c1,c2⟩:=hst_at hc hHn hlt;have HF2:Hid (F=((1,y0,l),false)):=by
   show _=_;rw[HF.out];refine gn_1 HST.out ?_;rw[hat,hHk]
  have kb0:(0:Int)≤(k:Int):=by omega
  have kb1:(k:Int)<(n2:Int):=by omega
  obtain⟨hBw,⟨b0,b1,b2⟩,f0,f1,f2,ff,r0,r1,r2,rf⟩:=HX5.out;have HBw:Hid (Below w.heap.size w w5):=hBw;have ff0:=ff 0;have ff1:=ff 1;have rf0:=rf 0;have rf1:=rf 1;have rf2:=rf 2;have hgl:gh<w5.heap.size:=bLQ _ _ c0;have hgw:gh<w.heap.size:=HHB.out gh oh (by omega) rfl;have hne1:gh≠w.heap.size+1:=by omega
  clear ff rf hBw hi hat hHn hHa hc hHk;go_wp2;have HBE:Hid (∀u v a b c,Below w.heap.size w (put3 ((w5.setCell ⟨w.heap.size+1,0,none⟩ u).setCell ⟨w.heap.size+1,1,none⟩ v) (w.heap.size+1+1) a b c)):=fun u v a b c=>below_put3 ((HBw.out.setCell (p:=⟨w.heap.size+1,0,none⟩) (show w.heap.size≤w.heap.size+1 by omega) u).setCell (p:=⟨w.heap.size+1,1,none⟩) (show w.heap.size≤w.heap.size+1 by omega) v) _ (by omega) _ _ _
  refine bodyPost_ret (v:=.tuple #[.agg #[.int i64 1,.string y0,.slice (some ⟨g5,o5,none⟩) m cap5],.bool false]) (by simp[results,results51,go_sem, *]) rfl ⟨_,_,_,by rw[HF2.out],?_,HBE.out _ _ _ _ _,.inl rfl⟩;rw[HF2.out];exact HGW.out _ (HBE.out _ _ _ _ _)
end
end Go.Proofs.YtiokpmlhmlcojaaGreatDoor
