/- Contracts and facts on the way to TopWire, joined into one text: RuleLook, RuleApply, StHop, NetStep1, NetMath2, NetMath3, NetMath4, NetLegMath, TopoPeers, TopoPeer, SlHop, HopHas, SlHost, OwnRow, OwnInts, NetLeg, StrClone. -/
import Derived.Test.YtpgjkmefomldfaaGreatTopWireP2
namespace Go.Proofs.YtpgjkmefomldfaaGreat
set_option linter.unusedSimpArgs false
set_option linter.unusedVariables false
set_option maxHeartbeats 16000000
set_option maxRecDepth 100000
open Go.Proofs.Tryz
open IntKind (i64)
section
open Go.RowKit
def CA (w:World)(g:Nat)(p m b o s v:Int)(w':World):Prop:=
 Below w.heap.size w w'∧w'.cell? ⟨g,0,none⟩=some (.int i64 p)∧w'.cell? ⟨g,1,none⟩=some (.int i64 m)∧w'.cell? ⟨g,2,none⟩=some (.int i64 b) ∧
  w'.cell? ⟨g,3,none⟩=some (.int i64 o)∧w'.cell? ⟨g,4,none⟩=some (.int i64 s)∧w'.cell? ⟨g,5,none⟩=some (.int i64 v)
theorem CA.later {w W W':World}{g:Nat}{p m b o s v:Int}(hb:Below W.heap.size W W')(h:CA w g p m b o s v W):CA w g p m b o s v W':=by
 obtain⟨h0,h1,h2,h3,h4,h5,h6⟩:=h;exact⟨h0.trans (hb.mono h0.size),cell_later hb h1,cell_later hb h2,cell_later hb h3,cell_later hb h4,cell_later hb h5,cell_later hb h6⟩
def CB (w:World)(g:Nat)(p m b o s v:Int)(g' o':Nat)(p' m' b' q' s' v':Int)(w':World):Prop:=
 (Below w.heap.size w w'∧w'.cell? ⟨g,0,none⟩=some (.int i64 p)∧w'.cell? ⟨g,1,none⟩=some (.int i64 m)∧w'.cell? ⟨g,2,none⟩=some (.int i64 b) ∧
  w'.cell? ⟨g,3,none⟩=some (.int i64 o)∧w'.cell? ⟨g,4,none⟩=some (.int i64 s)∧w'.cell? ⟨g,5,none⟩=some (.int i64 v)) ∧
 w'.cell? ⟨g',o',none⟩=some (.int i64 p')∧w'.cell? ⟨g',o'+1,none⟩=some (.int i64 m')∧w'.cell? ⟨g',o'+2,none⟩=some (.int i64 b') ∧
  w'.cell? ⟨g',o'+3,none⟩=some (.int i64 q')∧w'.cell? ⟨g',o'+4,none⟩=some (.int i64 s')∧w'.cell? ⟨g',o'+5,none⟩=some (.int i64 v')
theorem CB.later {w W W':World}{g:Nat}{p m b o s v:Int}{g' o':Nat}{p' m' b' q' s' v':Int}(hb:Below W.heap.size W W')(h:CB w g p m b o s v g' o' p' m' b' q' s' v' W):CB w g p m b o s v g' o' p' m' b' q' s' v' W':=by
 obtain⟨h0,h1,h2,h3,h4,h5,h6⟩:=h;exact⟨CA.later hb h0,cell_later hb h1,cell_later hb h2,cell_later hb h3,cell_later hb h4,cell_later hb h5,cell_later hb h6⟩
def cntB (m b h x y:Int):Bool:=hasB m b h&&(decide (x<0) || decide (0<y))
theorem be_next {L:List Ru}{h:Int}{k:Nat}(x:Int)(hx:x=beTo L h k)(y:Bool)(hy:((L.getD k zeR).has h&&(decide (x<0) || decide (0<ordR (L.getD k zeR) (L.getD x.toNat zeR))))=y):beTo L h (k+1)=if y then (k:Int) else x:=by
 subst hx;rw[beTo,hy]
theorem counting_some (g o cap n:Nat)(h:Int)(L:List Ru)(w:World)(hc:RAt w g o L)(hn:L.length=n)(hcap2:n≤maxLen):
 Calls prog 117 #[.slice (some ⟨g,o,none⟩) n cap,.int i64 h] w fun e w'=>e=.returned (.int i64 (beTo L h n))∧Below w.heap.size w w':=by
 have HN:Hid (L.length=n):=hn;unfold maxLen at hcap2;clear hn;go_enter func117,ntmps117;go_wp2
 go_loopw [5,10] (fun x i wr=>∃k:Nat,k≤n∧x=.int i64 (beTo L h k)∧i=.int i64 k∧Below w.heap.size w wr) (fun _ i _=>n-(intOf i).toNat)
 case atStart=>exact⟨0,by omega,rfl,rfl,bRQ _ _⟩
 case round =>
  obtain⟨k,hk,rfl,rfl,hB⟩:=hrel;have hbd:=be_bd L h k
  generalize hx:beTo L h k=x at *
  have HX:Hid (x=beTo L h k):=hx.symm;obtain⟨x0,x1⟩:=hbd;clear hx;have HB:Hid (Below w.heap.size w wr):=hB;by_cases hlt:k<n
  ·obtain⟨p,m,b,q,s,v,hkl,hL,q0,q1,q2,q3,q4,q5⟩:=(hc.later hB).at HN.out hlt;have HK:Hid (L.getD k zeR=⟨p,m,b,q,s,v⟩):=(getD_at hkl).trans hL;have HA:Hid (CA wr wr.heap.size p m b q s v (wr.alloc (.cells #[.int i64 p,.int i64 m,.int i64 b,.int i64 q,.int i64 s,.int i64 v] 47))):=by
    refine⟨(bRQ _ _).alloc (nLQ _) _,?_,?_,?_,?_,?_,?_⟩ <;> simp
   have HCC:Hid (RAt wr g o L):=hc.later hB;clear hL hB;go_upto_region 5 with fail;clear q0 q1 q2 q3 q4 q5
   go_cut [10,31] from 10 to 33 (fun i c w'=>i=.int i64 k∧c=.bool (cntB m b h x (ordR ⟨p,m,b,q,s,v⟩ (L.getD x.toNat zeR)))∧Below wr.heap.size wr w')
   case first =>
    have hS0:=HA.out;clear HA;have HW0:Hid (Below wr.heap.size wr (wr.alloc (.cells #[.int i64 p,.int i64 m,.int i64 b,.int i64 q,.int i64 s,.int i64 v] 47))):=(bRQ _ _).alloc (nLQ _) _;have HW0:Hid (Below wr.heap.size wr (wr.alloc (.cells #[.int i64 p,.int i64 m,.int i64 b,.int i64 q,.int i64 s,.int i64 v] 47))):=(bRQ _ _).alloc (nLQ _) _
    generalize (wr.alloc (.cells #[.int i64 p,.int i64 m,.int i64 b,.int i64 q,.int i64 s,.int i64 v] 47))=W0 at *
    cases hh:hasB m b h
    ·refine wp_region_quiet (C:=CA wr wr.heap.size p m b q s v) (by kernel_rfl) (by kernel_rfl) (CA.later (W:=W0) (Below.drew (bRQ _ _)) hS0) ?_;simp only[List.toList_toArray];go_big_quiet_want;refine qv (.pointer (some ⟨wr.heap.size,1,none⟩)) ?_ ?_
     ·rintro w' ⟨z0,z1,z2,z3,z4,z5,z6⟩;go_simp
     simp only[Act.put,AP];go_big_quiet_on;go_big_quiet_want;refine qv (.agg #[.int i64 m,.int i64 b]) ?_ ?_
     ·rintro w' ⟨z0,z1,z2,z3,z4,z5,z6⟩;go_simp
     simp only[Act.put,AP];go_big_quiet_on;go_big_quiet_want;refine qv (.int i64 h) ?_ ?_
     ·rintro w' ⟨z0,z1,z2,z3,z4,z5,z6⟩;go_simp
     simp only[Act.put,AP];go_big_quiet_on;go_big_quiet_want;refine quiet_call (f:=132) (args:=#[.agg #[.int i64 m,.int i64 b],.int i64 h]) (v:=.bool false) (fun w'=>?_) (fun w' hC=>(has_any m b h w').mono (fun e w2 h2=>⟨by rw[h2.1,hh],CA.later h2.2 hC⟩)) ?_
     ·go_simp
     simp only[Act.put,AP];go_big_quiet_on;go_big_quiet_want;refine qv (.bool false) ?_ ?_
     ·rintro w' ⟨z0,z1,z2,z3,z4,z5,z6⟩;go_simp
     simp only[Act.put,AP];go_big_quiet_on;go_big_quiet_skip;go_big_quiet_skip;go_big_quiet_skip;go_big_quiet_skip;go_big_quiet_skip;go_big_quiet_skip;go_big_quiet_skip;go_big_quiet_skip;go_big_quiet_skip;go_big_quiet_skip;go_big_quiet_skip;go_big_quiet_want;refine qv (.bool false) ?_ ?_
     ·rintro w' ⟨z0,z1,z2,z3,z4,z5,z6⟩;go_simp
     simp only[Act.put,AP];go_big_quiet_on;refine wpQuiet_nil ?_;intro w' hC
     go_wp2_with fail
     go_meet
     case rel=>exact⟨rfl,by simp[cntB,hh],hC.1⟩
    by_cases hx0:x<0
    ·have hx1:decide (x<0)=true:=by simpa using hx0
     refine wp_region_quiet (C:=CA wr wr.heap.size p m b q s v) (by kernel_rfl) (by kernel_rfl) (CA.later (W:=W0) (Below.drew (bRQ _ _)) hS0) ?_;simp only[List.toList_toArray];go_big_quiet_want;refine qv (.pointer (some ⟨wr.heap.size,1,none⟩)) ?_ ?_
     ·rintro w' ⟨z0,z1,z2,z3,z4,z5,z6⟩;go_simp
     simp only[Act.put,AP];go_big_quiet_on;go_big_quiet_want;refine qv (.agg #[.int i64 m,.int i64 b]) ?_ ?_
     ·rintro w' ⟨z0,z1,z2,z3,z4,z5,z6⟩;go_simp
     simp only[Act.put,AP];go_big_quiet_on;go_big_quiet_want;refine qv (.int i64 h) ?_ ?_
     ·rintro w' ⟨z0,z1,z2,z3,z4,z5,z6⟩;go_simp
     simp only[Act.put,AP];go_big_quiet_on;go_big_quiet_want;refine quiet_call (f:=132) (args:=#[.agg #[.int i64 m,.int i64 b],.int i64 h]) (v:=.bool true) (fun w'=>?_) (fun w' hC=>(has_any m b h w').mono (fun e w2 h2=>⟨by rw[h2.1,hh],CA.later h2.2 hC⟩)) ?_
     ·go_simp
     simp only[Act.put,AP];go_big_quiet_on;go_big_quiet_want;refine qv (.bool true) ?_ ?_
     ·rintro w' ⟨z0,z1,z2,z3,z4,z5,z6⟩;go_simp
     simp only[Act.put,AP];go_big_quiet_on;go_big_quiet_want;refine qv (.int i64 x) ?_ ?_
     ·rintro w' ⟨z0,z1,z2,z3,z4,z5,z6⟩;go_simp
     simp only[Act.put,AP];go_big_quiet_on;go_big_quiet_want;refine qv (.bool true) ?_ ?_
     ·rintro w' ⟨z0,z1,z2,z3,z4,z5,z6⟩;go_simp
     simp only[Act.put,AP];go_big_quiet_on;go_big_quiet_want;refine qv (.bool true) ?_ ?_
     ·rintro w' ⟨z0,z1,z2,z3,z4,z5,z6⟩;go_simp
     simp only[Act.put,AP];go_big_quiet_on;go_big_quiet_skip;go_big_quiet_skip;go_big_quiet_skip;go_big_quiet_skip;go_big_quiet_skip;go_big_quiet_skip;go_big_quiet_skip;go_big_quiet_want;refine qv (.bool true) ?_ ?_
     ·rintro w' ⟨z0,z1,z2,z3,z4,z5,z6⟩;go_simp
     simp only[Act.put,AP];go_big_quiet_on;go_big_quiet_want;refine qv (.bool true) ?_ ?_
     ·rintro w' ⟨z0,z1,z2,z3,z4,z5,z6⟩;go_simp
     simp only[Act.put,AP];go_big_quiet_on;refine wpQuiet_nil ?_;intro w' hC
     go_wp2_with fail
     go_meet
     case rel=>exact⟨rfl,by simp[cntB,hh,hx0],hC.1⟩
    obtain⟨y,hy⟩:∃y:Nat,x=(y:Int):=⟨x.toNat,by omega⟩;have hx2:decide ((y:Int)<0)=false:=by simp
    subst hy;obtain⟨p2,m2,b2,q2,s2,v2,hyl,hLy,y0,y1,y2,y3,y4,y5⟩:=HCC.out.at HN.out (show y<n by omega);have HYL:Hid (L.getD ((y:Nat):Int).toNat zeR=⟨p2,m2,b2,q2,s2,v2⟩):=by
     show L.getD ((y:Nat):Int).toNat zeR=_;rw[Int.toNat_natCast,getD_at hyl,hLy]
    have yb0:(0:Int)≤(y:Int):=by omega
    have yb1:((y:Int))<(n:Int):=by omega
    have hS1:CB wr wr.heap.size p m b q s v g (o+y*6) p2 m2 b2 q2 s2 v2 W0:=⟨hS0,cell_later HW0.out y0,cell_later HW0.out y1,cell_later HW0.out y2,cell_later HW0.out y3,cell_later HW0.out y4,cell_later HW0.out y5⟩;clear y0 y1 y2 y3 y4 y5 hLy hS0;have hS0:=hS1;clear hS1;refine wp_region_quiet (C:=CB wr wr.heap.size p m b q s v g (o+y*6) p2 m2 b2 q2 s2 v2) (by kernel_rfl) (by kernel_rfl) (CB.later (W:=W0) (Below.drew (bRQ _ _)) hS0) ?_;simp only[List.toList_toArray];go_big_quiet_want;refine qv (.pointer (some ⟨wr.heap.size,1,none⟩)) ?_ ?_
    ·rintro w' ⟨⟨z0,z1,z2,z3,z4,z5,z6⟩,y1,y2,y3,y4,y5,y6⟩;go_simp
    simp only[Act.put,AP];go_big_quiet_on;go_big_quiet_want;refine qv (.agg #[.int i64 m,.int i64 b]) ?_ ?_
    ·rintro w' ⟨⟨z0,z1,z2,z3,z4,z5,z6⟩,y1,y2,y3,y4,y5,y6⟩;go_simp
    simp only[Act.put,AP];go_big_quiet_on;go_big_quiet_want;refine qv (.int i64 h) ?_ ?_
    ·rintro w' ⟨⟨z0,z1,z2,z3,z4,z5,z6⟩,y1,y2,y3,y4,y5,y6⟩;go_simp
    simp only[Act.put,AP];go_big_quiet_on;go_big_quiet_want;refine quiet_call (f:=132) (args:=#[.agg #[.int i64 m,.int i64 b],.int i64 h]) (v:=.bool true) (fun w'=>?_) (fun w' hC=>(has_any m b h w').mono (fun e w2 h2=>⟨by rw[h2.1,hh],CB.later h2.2 hC⟩)) ?_
    ·go_simp
    simp only[Act.put,AP];go_big_quiet_on;go_big_quiet_want;refine qv (.bool true) ?_ ?_
    ·rintro w' ⟨⟨z0,z1,z2,z3,z4,z5,z6⟩,y1,y2,y3,y4,y5,y6⟩;go_simp
    simp only[Act.put,AP];go_big_quiet_on;go_big_quiet_want;refine qv (.int i64 (y:Int)) ?_ ?_
    ·rintro w' ⟨⟨z0,z1,z2,z3,z4,z5,z6⟩,y1,y2,y3,y4,y5,y6⟩;go_simp
    simp only[Act.put,AP];go_big_quiet_on;go_big_quiet_want;refine qv (.bool false) ?_ ?_
    ·rintro w' ⟨⟨z0,z1,z2,z3,z4,z5,z6⟩,y1,y2,y3,y4,y5,y6⟩;go_simp
    simp only[Act.put,AP];go_big_quiet_on;go_big_quiet_want;refine qv (.bool false) ?_ ?_
    ·rintro w' ⟨⟨z0,z1,z2,z3,z4,z5,z6⟩,y1,y2,y3,y4,y5,y6⟩;go_simp
    simp only[Act.put,AP];go_big_quiet_on;go_big_quiet_want;refine qv (.agg #[.int i64 p,.int i64 m,.int i64 b,.int i64 q,.int i64 s,.int i64 v]) ?_ ?_
    ·rintro w' ⟨⟨z0,z1,z2,z3,z4,z5,z6⟩,y1,y2,y3,y4,y5,y6⟩;go_simp
    simp only[Act.put,AP];go_big_quiet_on;go_big_quiet_want;refine qv (.slice (some ⟨g,o,none⟩) n cap) ?_ ?_
    ·rintro w' ⟨⟨z0,z1,z2,z3,z4,z5,z6⟩,y1,y2,y3,y4,y5,y6⟩;go_simp
    simp only[Act.put,AP];go_big_quiet_on;go_big_quiet_want;refine qv (.int i64 (y:Int)) ?_ ?_
    ·rintro w' ⟨⟨z0,z1,z2,z3,z4,z5,z6⟩,y1,y2,y3,y4,y5,y6⟩;go_simp
    simp only[Act.put,AP];go_big_quiet_on;go_big_quiet_want;refine qv (.pointer (some ⟨g,o+y*6,none⟩)) ?_ ?_
    ·rintro w' ⟨⟨z0,z1,z2,z3,z4,z5,z6⟩,y1,y2,y3,y4,y5,y6⟩;go_simp
    simp only[Act.put,AP];go_big_quiet_on;go_big_quiet_want;refine qv (.agg #[.int i64 p2,.int i64 m2,.int i64 b2,.int i64 q2,.int i64 s2,.int i64 v2]) ?_ ?_
    ·rintro w' ⟨⟨z0,z1,z2,z3,z4,z5,z6⟩,y1,y2,y3,y4,y5,y6⟩;go_simp
    simp only[Act.put,AP];go_big_quiet_on;go_big_quiet_want;refine quiet_call (f:=133) (args:=#[.agg #[.int i64 p,.int i64 m,.int i64 b,.int i64 q,.int i64 s,.int i64 v],.agg #[.int i64 p2,.int i64 m2,.int i64 b2,.int i64 q2,.int i64 s2,.int i64 v2]]) (v:=.int i64 (ordN p m b p2 m2 b2)) (fun w'=>?_) (fun w' hC=>(order_any p m b q s v p2 m2 b2 q2 s2 v2 w').mono (fun e w2 h2=>⟨h2.1,CB.later h2.2 hC⟩)) ?_
    ·go_simp
    simp only[Act.put,AP];go_big_quiet_on;go_big_quiet_want;refine qv (.bool (decide (0<ordN p m b p2 m2 b2))) ?_ ?_
    ·rintro w' ⟨⟨z0,z1,z2,z3,z4,z5,z6⟩,y1,y2,y3,y4,y5,y6⟩;go_simp
    simp only[Act.put,AP];go_big_quiet_on;go_big_quiet_want;refine qv (.bool (decide (0<ordN p m b p2 m2 b2))) ?_ ?_
    ·rintro w' ⟨⟨z0,z1,z2,z3,z4,z5,z6⟩,y1,y2,y3,y4,y5,y6⟩;go_simp
    simp only[Act.put,AP];go_big_quiet_on;go_big_quiet_want;refine qv (.bool (decide (0<ordN p m b p2 m2 b2))) ?_ ?_
    ·rintro w' ⟨⟨z0,z1,z2,z3,z4,z5,z6⟩,y1,y2,y3,y4,y5,y6⟩;go_simp
    simp only[Act.put,AP];go_big_quiet_on;refine wpQuiet_nil ?_;intro w' hC
    go_wp2_with fail
    go_meet
    case rel=>exact⟨rfl,by rw[HYL.out];simp[cntB,hh,hx2,ordR];first | rfl | exact decide_eq_decide.2 Iff.rfl,hC.1.1⟩
   case rest =>
    obtain⟨rfl,hc2,hB2⟩:=hcut;have HB1:=HB.out.trans (hB2.mono HB.out.size);have HY:=be_next (L:=L) (h:=h) (k:=k) x HX.out _ rfl;rw[HK.out] at HY;have HYY:Hid (beTo L h (k+1)=if cntB m b h x (ordR ⟨p,m,b,q,s,v⟩ (L.getD x.toNat zeR)) then (k:Int) else x):=HY;clear HY hB2 HA HCC
    generalize cntB m b h x (ordR ⟨p,m,b,q,s,v⟩ (L.getD x.toNat zeR))=Y at *
    subst hc2;cases Y
    ·go_wp2;go_roundw
     case rel=>exact⟨k+1,by omega,by rw[HYY.out];rfl,by go_num,HB1⟩
     case measure=>simp[intOf];omega
    go_wp2;go_roundw
    case rel=>exact⟨k+1,by omega,by rw[HYY.out];rfl,by go_num,HB1⟩
    case measure=>simp[intOf];omega
  obtain rfl:k=n:=by omega
  go_wp2;go_ret;exact⟨by rw[←HX.out];rfl,HB.out⟩
theorem counting_nil (ao:AdQ)(cap:Nat)(h:Int)(w:World):
 Calls prog 117 #[.slice ao 0 cap,.int i64 h] w fun e w'=>e=.returned (.int i64 (-1))∧Below w.heap.size w w':=by
 go_enter func117,ntmps117;go_wp2
 go_loopw [5,10] (fun x i wr=>x=.int i64 (-1)∧i=.int i64 0∧wr=w) (fun _ i _=>0)
 case atStart=>exact⟨rfl,rfl,rfl⟩
 case round =>
  obtain⟨rfl,rfl,rfl⟩:=hrel;go_wp2;go_ret;exact⟨rfl,bRQ _ _⟩
theorem counting_any (x:Value)(L:List Ru)(h:Int)(w:World)(hs:SR w x L):
 Calls prog 117 #[x,.int i64 h] w fun e w'=>e=.returned (.int i64 (beTo L h L.length))∧Below w.heap.size w w':=by
 rcases hs with ⟨ao,cap,rfl,rfl⟩ | ⟨g,o,cap,rfl,h1,h2,hc⟩
 ·exact counting_nil ao cap h w
 exact counting_some g o cap _ h L w hc rfl (Nat.le_trans h1 h2)
theorem apply_any (p m b o s v h:Int)(w:World):
 Calls prog 118 #[.agg #[.int i64 p,.int i64 m,.int i64 b,.int i64 o,.int i64 s,.int i64 v],.int i64 h] w fun e w'=>e=.returned (.tuple #[.int i64 (apR p m b o s v h),noV (apN p m b o s v h)])∧Below w.heap.size w w':=by
 cases hr:ruOk p m b o s v
 ·have hn:=ruN_ne hr;rw[apR_bad (by rw[apN_bad h hr];exact hn),apN_bad h hr,no_ne hn];go_enter func118,ntmps118
  go_wp2_with fail
  refine (ruCheck_any _ _ _ _ _ _ _).mono ?_;rintro e w1 ⟨rfl,hb1⟩;rw[no_ne hn];go_wp2;refine bodyPost_ret (v:=.tuple #[.int i64 0,.iface 81 (.int i64 (ruN p m b o s v))]) (by simp[results,results118,go_sem]) rfl ⟨rfl,?_⟩;exact ((bRQ _ _).alloc (nLQ _) _).trans (hb1.mono (by simp))
 have hn:=ruN_ok hr;cases hh:hdrB h
 ·have e:apN p m b o s v h=1:=by simp[apN,hr,hh]
  rw[apR_bad (by rw[e];decide),e];clear e;go_enter func118,ntmps118
  go_wp2_with fail
  refine (ruCheck_any _ _ _ _ _ _ _).mono ?_;rintro e w1 ⟨rfl,hb1⟩;rw[no_ok hn]
  go_wp2_with fail
  refine (isHeader_no _ _ hh).mono ?_;rintro e w' ⟨rfl,rfl⟩;go_wp2;refine bodyPost_ret (v:=.tuple #[.int i64 0,.iface 81 (.int i64 1)]) (by simp[results,results118,go_sem]) rfl ⟨rfl,?_⟩;exact ((bRQ _ _).alloc (nLQ _) _).trans (hb1.mono (by simp))
 have hlt:w.heap.size<(w.alloc (.cells #[.int i64 p,.int i64 m,.int i64 b,.int i64 o,.int i64 s,.int i64 v] 47)).heap.size:=by simp
 cases ha:hasB m b h
 ·have e:apN p m b o s v h=5:=by simp[apN,hr,hh,ha]
  rw[apR_bad (by rw[e];decide),e];clear e;go_enter func118,ntmps118
  go_wp2_with fail
  refine (ruCheck_any _ _ _ _ _ _ _).mono ?_;rintro e w1 ⟨rfl,hb1⟩;rw[no_ok hn];obtain⟨hc1,hf1⟩:=bcell hb1;have hB:=((Below.refl w.heap.size w).alloc (nLQ _) (Obj.cells #[.int i64 p,.int i64 m,.int i64 b,.int i64 o,.int i64 s,.int i64 v] 47)).trans (hb1.mono (by simp));have hlt2:w.heap.size<w1.heap.size:=by have:=hb1.size;omega
  clear hb1
  go_wp2_with fail
  refine (isHeader_yes _ _ hh).mono ?_;rintro e w' ⟨rfl,rfl⟩
  go_wp2_with fail
  refine (has_any _ _ _ _).mono ?_;rintro e w2 ⟨rfl,hb2⟩;rw[ha];obtain⟨hc2,hf2⟩:=bcell hb2;have hB2:=hB.trans (hb2.mono (by omega));clear hb2 hB;go_wp2;refine bodyPost_ret (v:=.tuple #[.int i64 0,.iface 81 (.int i64 5)]) (by simp[results,results118,go_sem]) rfl ⟨rfl,?_⟩;exact hB2
 cases ho:(o==0)
 ·have e:apN p m b o s v h=0:=by simp[apN,hr,hh,ha,ho]
  have e2:apR p m b o s v h=apV s v h:=by simp[apR,e]
  rw[e2,e];clear e e2;go_enter func118,ntmps118
  go_wp2_with fail
  refine (ruCheck_any _ _ _ _ _ _ _).mono ?_;rintro e w1 ⟨rfl,hb1⟩;rw[no_ok hn];obtain⟨hc1,hf1⟩:=bcell hb1;have hB:=((Below.refl w.heap.size w).alloc (nLQ _) (Obj.cells #[.int i64 p,.int i64 m,.int i64 b,.int i64 o,.int i64 s,.int i64 v] 47)).trans (hb1.mono (by simp));have hlt2:w.heap.size<w1.heap.size:=by have:=hb1.size;omega
  clear hb1
  go_wp2_with fail
  refine (isHeader_yes _ _ hh).mono ?_;rintro e w' ⟨rfl,rfl⟩
  go_wp2_with fail
  refine (has_any _ _ _ _).mono ?_;rintro e w2 ⟨rfl,hb2⟩;rw[ha];obtain⟨hc2,hf2⟩:=bcell hb2;have hB2:=hB.trans (hb2.mono (by omega));clear hb2 hB;go_wp2;refine bodyPost_ret (v:=.tuple #[.int i64 (apV s v h),.nilIface]) (by simp[results,results118,go_sem,apV]) rfl ⟨rfl,?_⟩;exact hB2
 have e:apN p m b o s v h=5:=by simp[apN,hr,hh,ha,ho]
 rw[apR_bad (by rw[e];decide),e];clear e;go_enter func118,ntmps118
 go_wp2_with fail
 refine (ruCheck_any _ _ _ _ _ _ _).mono ?_;rintro e w1 ⟨rfl,hb1⟩;rw[no_ok hn];obtain⟨hc1,hf1⟩:=bcell hb1;have hB:=((Below.refl w.heap.size w).alloc (nLQ _) (Obj.cells #[.int i64 p,.int i64 m,.int i64 b,.int i64 o,.int i64 s,.int i64 v] 47)).trans (hb1.mono (by simp));have hlt2:w.heap.size<w1.heap.size:=by have:=hb1.size;omega
 clear hb1
 go_wp2_with fail
 refine (isHeader_yes _ _ hh).mono ?_;rintro e w' ⟨rfl,rfl⟩
 go_wp2_with fail
 refine (has_any _ _ _ _).mono ?_;rintro e w2 ⟨rfl,hb2⟩;rw[ha];obtain⟨hc2,hf2⟩:=bcell hb2;have hB2:=hB.trans (hb2.mono (by omega));clear hb2 hB;go_wp2;refine bodyPost_ret (v:=.tuple #[.int i64 0,.iface 81 (.int i64 5)]) (by simp[results,results118,go_sem]) rfl ⟨rfl,?_⟩;exact hB2
end
section
open Go.ChangeShapes Go.WideShapes Go.ChangeAt Go.RowKit Go.Joins
def hopE:Enc ((Int×Int)×Int) where
 c:=fun x=>[.int i64 x.1.1,.int i64 x.1.2,.int i64 x.2]
 n:=3
 len:=fun _=>rfl
 pos:=by decide
 one:=by
  intro x u hu;simp at hu
  rcases hu with rfl | rfl | rfl <;> rfl
theorem hop_cells {w:World}{g o:Nat}{x0 x1 x2:Int}(h:VAt w g o (hopE.c ((x0,x1),x2))):w.cell? ⟨g,o,none⟩=some (.int i64 x0)∧w.cell? ⟨g,o+1,none⟩=some (.int i64 x1)∧w.cell? ⟨g,o+2,none⟩=some (.int i64 x2):=
 ⟨h 0 _ rfl,h 1 _ rfl,h 2 _ rfl⟩
theorem hop_at {w:World}{g o:Nat}{L:HpQ}(h:GAt hopE w g o L){n k:Nat}(hn:L.length=n)(hk:k<n):
 ∃(x0:Int) (x1:Int) (x2:Int) (hl:k<L.length),L[k]=((x0,x1),x2)∧w.cell? ⟨g,o+k*3,none⟩=some (.int i64 x0)∧w.cell? ⟨g,o+k*3+1,none⟩=some (.int i64 x1)∧w.cell? ⟨g,o+k*3+2,none⟩=some (.int i64 x2):=
 have hl:k<L.length:=by omega
 ⟨_,_,_,hl,rfl,hop_cells (h k hl)⟩
theorem hop_new (w:World)(x0 x1 x2:Int)(t:TypeId):VAt (w.alloc (.cells #[.int i64 x0,.int i64 x1,.int i64 x2] t)) w.heap.size 0 (hopE.c ((x0,x1),x2)):=vat_new w [.int i64 x0,.int i64 x1,.int i64 x2] t
def hopB (a b:(Int×Int)×Int):Bool:=(a.1.1==b.1.1)&&((a.1.2==b.1.2)&&((a.2==b.2)))
theorem hop_ways (x0 x1 x2 y0 y1 y2:Int):
 ((x0==y0)=false∧hopB ((x0,x1),x2) ((y0,y1),y2)=false) ∨
 ((x0==y0)=true∧(x1==y1)=false∧hopB ((x0,x1),x2) ((y0,y1),y2)=false) ∨
 ((x0==y0)=true∧(x1==y1)=true∧(x2==y2)=false∧hopB ((x0,x1),x2) ((y0,y1),y2)=false) ∨
 ((x0==y0)=true∧(x1==y1)=true∧(x2==y2)=true∧hopB ((x0,x1),x2) ((y0,y1),y2)=true):=by
 have e:hopB ((x0,x1),x2) ((y0,y1),y2)=((x0==y0)&&((x1==y1)&&((x2==y2)))):=rfl;rw[e];cases h0:(x0==y0)
 ·simp
 skip;cases h1:(x1==y1)
 ·simp
 skip;cases h2:(x2==y2)
 ·simp
 skip;simp
theorem hop_eq (x0 x1 x2 y0 y1 y2:Int)(w:World):(Op.equal 122 (.agg #[.int i64 x0,.int i64 x1,.int i64 x2]) (.agg #[.int i64 y0,.int i64 y1,.int i64 y2])).run prog w=.ok (hopB ((x0,x1),x2) ((y0,y1),y2)) w:=by
 unfold Op.equal Op.maxDepth;rw[run_equalIn_struct w 9999 _ _ _ (by kernel_rfl) (by kernel_rfl)]
 rcases hop_ways x0 x1 x2 y0 y1 y2 with ⟨e0,e⟩ | ⟨e0,e1,e⟩ | ⟨e0,e1,e2,e⟩ | ⟨e0,e1,e2,e⟩
 all_goals
  rw[e];go_simp
theorem hop_info:(Tryz.prog.info? 122).map (fun i=>(i.zero,i.size,i.bytes))=some (some (.agg #[.int i64 0,.int i64 0,.int i64 0]),3,24):=by kernel_rfl
theorem hop_zero:(Value.agg #[.int i64 0,.int i64 0,.int i64 0]).cells.size=3:=by simp[Value.cells]
end
section
open Go.RowKit
theorem st_a {t:List Ru}{x y h:Int}(e:luN t h≠0):stT t ((x,y),h)=none:=if_neg e
theorem st_b {t:List Ru}{x y h p m b o s v:Int}(e:luN t h=0)(hr:roR t h=⟨p,m,b,o,s,v⟩)(ha:apN p m b o s v h≠0):stT t ((x,y),h)=none:=by
 unfold stT;simp only;rw[if_pos e,hr];exact if_neg ha
theorem st_c {t:List Ru}{x y h p m b o s v:Int}(e:luN t h=0)(hr:roR t h=⟨p,m,b,o,s,v⟩)(ha:apN p m b o s v h=0):stT t ((x,y),h)=some ((x,o),apR p m b o s v h):=by
 unfold stT;simp only;rw[if_pos e,hr];exact if_pos ha
def sbox (w:World)(S:Int)(v1 v2 v3:Value)(x y h:Int):World:=((w.alloc (.cells #[.int i64 S,v1,v2,v3] 28)).alloc (.cells #[.int i64 x,.int i64 y,.int i64 h] 122)).alloc (.cells #[.int i64 0,.int i64 0,.int i64 0] 122)
structure SBox (w W:World)(S:Int)(v1 v2 v3:Value)(x y h:Int):Prop where
 below:Below w.heap.size w W
 n:NeBox W w.heap.size S v1 v2 v3
 i0:W.cell? ⟨w.heap.size+1,0,none⟩=some (.int i64 x)
 i1:W.cell? ⟨w.heap.size+1,1,none⟩=some (.int i64 y)
 i2:W.cell? ⟨w.heap.size+1,2,none⟩=some (.int i64 h)
 r0:W.cell? ⟨w.heap.size+1+1,0,none⟩=some (.int i64 0)
 r1:W.cell? ⟨w.heap.size+1+1,1,none⟩=some (.int i64 0)
 r2:W.cell? ⟨w.heap.size+1+1,2,none⟩=some (.int i64 0)
 f:∀i,W.frozen? ⟨w.heap.size+1+1,i,none⟩=false
theorem sbox_new (w:World)(S:Int)(v1 v2 v3:Value)(x y h:Int):SBox w (sbox w S v1 v2 v3 x y h) S v1 v2 v3 x y h:=by
 have e1:(w.alloc (.cells #[.int i64 S,v1,v2,v3] 28)).heap.size=w.heap.size+1:=by simp
 have e2:((w.alloc (.cells #[.int i64 S,v1,v2,v3] 28)).alloc (.cells #[.int i64 x,.int i64 y,.int i64 h] 122)).heap.size=w.heap.size+1+1:=by simp
 have hb:∀(W:World) (o:Obj),Below W.heap.size W (W.alloc o):=fun W o=>(bRQ _ _).alloc (nLQ _) _
 have hs:=(vat_new (w.alloc (.cells #[.int i64 S,v1,v2,v3] 28)) [.int i64 x,.int i64 y,.int i64 h] 122).later (hb _ (Obj.cells #[.int i64 0,.int i64 0,.int i64 0] 122));rw[e1] at hs;have hr:=vat_new ((w.alloc (.cells #[.int i64 S,v1,v2,v3] 28)).alloc (.cells #[.int i64 x,.int i64 y,.int i64 h] 122)) [.int i64 0,.int i64 0,.int i64 0] 122;rw[e2] at hr;have hf:∀k,(sbox w S v1 v2 v3 x y h).frozen? ⟨((w.alloc (.cells #[.int i64 S,v1,v2,v3] 28)).alloc (.cells #[.int i64 x,.int i64 y,.int i64 h] 122)).heap.size,k,none⟩=false:=fun k=>by
  unfold sbox
  generalize (w.alloc (.cells #[.int i64 S,v1,v2,v3] 28)).alloc (.cells #[.int i64 x,.int i64 y,.int i64 h] 122)=X
  simp
 rw[e2] at hf;exact⟨(((bRQ _ _).alloc (nLQ _) _).alloc (by rw[e1];omega) _).alloc (by rw[e2];omega) _,((nebox_new w S v1 v2 v3 28).later (hb _ _)).later (hb _ _),hs 0 _ rfl,hs 1 _ rfl,hs 2 _ rfl,hr 0 _ rfl,hr 1 _ rfl,hr 2 _ rfl,hf⟩
theorem SBox.later {w W W':World}{S:Int}{v1 v2 v3:Value}{x y h:Int}(k:SBox w W S v1 v2 v3 x y h)(hb:Below W.heap.size W W'):SBox w W' S v1 v2 v3 x y h:=
 ⟨k.below.trans (hb.mono k.below.size),k.n.later hb,cell_later hb k.i0,cell_later hb k.i1,cell_later hb k.i2,cell_later hb k.r0,cell_later hb k.r1,cell_later hb k.r2,fun i=>(hb.frozen (p:=⟨w.heap.size+1+1,i,none⟩) (show (⟨w.heap.size+1+1,0,none⟩:Addr).block<W.heap.size from bLQ W ⟨w.heap.size+1+1,0,none⟩ k.r0)).trans (k.f i)⟩
theorem below_three {w W:World}(h:Below w.heap.size w W)(g:Nat)(hg:w.heap.size≤g)(u v x:Value):Below w.heap.size w (((W.setCell ⟨g,0,none⟩ u).setCell ⟨g,1,none⟩ v).setCell ⟨g,2,none⟩ x):=((h.setCell (p:=⟨g,0,none⟩) hg u).setCell (p:=⟨g,1,none⟩) hg v).setCell (p:=⟨g,2,none⟩) hg x
theorem step_any (S:Int)(ao:AdQ)(n cap:Nat)(ao2:AdQ)(n2 cap2:Nat)(ao3:AdQ)(n3 cap3:Nat)(Ts:TsQ)(x y h:Int)(w:World)
 (hT:TS w (.slice ao3 n3 cap3) Ts) (hG:∀k,k<Ts.length→tbN (Ts.getD k [])=0) (h1:1≤x) (h2:x≤(n3:Int)) (h6:n3≤6):
 Calls prog 94 #[.agg #[.int i64 S,.slice ao n cap,.slice ao2 n2 cap2,.slice ao3 n3 cap3],.agg #[.int i64 x,.int i64 y,.int i64 h]] w fun e w'=>e=.returned (.tuple #[.agg #[.int i64 ((stO Ts ((x,y),h)).getD zeH).1.1,.int i64 ((stO Ts ((x,y),h)).getD zeH).1.2,.int i64 ((stO Ts ((x,y),h)).getD zeH).2],.bool (stO Ts ((x,y),h)).isSome])∧Below w.heap.size w w':=by
 obtain⟨k,rfl⟩:∃k:Nat,x=(k:Int)+1:=⟨(x-1).toNat,by omega⟩;have hk:k<n3:=by omega
 obtain⟨_,_,_,e1,hTn,hTm,_,hTa⟩:=hT.form;cases e1;obtain⟨g,o,rfl,hc,_⟩:=hTa (by omega);have hX:=sbox_new w S (.slice ao n cap) (.slice ao2 n2 cap2) (.slice (some ⟨g,o,none⟩) n3 cap3) ((k:Int)+1) y h;obtain⟨a4,n4,c4,q0,hs⟩:=(hc.later hX.below) k (by rw[hTn];exact hk);obtain⟨t,ht⟩:∃t,t=Ts.getD k []:=⟨_,rfl⟩;have hs2:SR (sbox w S (.slice ao n cap) (.slice ao2 n2 cap2) (.slice (some ⟨g,o,none⟩) n3 cap3) ((k:Int)+1) y h) (.slice a4 n4 c4) t:=by
  rw[ht,getT (by rw[hTn];exact hk)];exact hs
 have HTB:Hid (tbN t=0):=by
  show _=_;rw[ht];exact hG k (by rw[hTn];exact hk)
 have HST:Hid (stO Ts (((k:Int)+1,y),h)=stT t (((k:Int)+1,y),h)):=by
  show _=_;unfold stO taT;simp only;rw[ht]
  congr 2
  omega
 obtain⟨A,hA⟩:∃A,A=stO Ts (((k:Int)+1,y),h):=⟨_,rfl⟩;have HA:Hid (A=stT t (((k:Int)+1,y),h)):=hA.trans HST.out;rw[←hA];obtain⟨w0,hw0⟩:∃W,W=sbox w S (.slice ao n cap) (.slice ao2 n2 cap2) (.slice (some ⟨g,o,none⟩) n3 cap3) ((k:Int)+1) y h:=⟨_,rfl⟩;rw[←hw0] at hX q0 hs2;have HX:Hid (SBox w w0 S (.slice ao n cap) (.slice ao2 n2 cap2) (.slice (some ⟨g,o,none⟩) n3 cap3) ((k:Int)+1) y h):=hX;have HS:Hid (SR w0 (.slice a4 n4 c4) t):=hs2;have HW0:Hid (((w.alloc (.cells #[.int i64 S,.slice ao n cap,.slice ao2 n2 cap2,.slice (some ⟨g,o,none⟩) n3 cap3] 28)).alloc (.cells #[.int i64 ((k:Int)+1),.int i64 y,.int i64 h] 122)).alloc (.cells #[.int i64 0,.int i64 0,.int i64 0] 122)=w0):=hw0.symm;have hw:IntKind.i64.wrap ((k:Int)+1-1)=(k:Int):=by rw[show (k:Int)+1-1=(k:Int) from by omega];exact wrap_small (by omega) (by omega)
 have kb0:(0:Int)≤(k:Int):=by omega
 have kb1:(k:Int)<(n3:Int):=by omega
 clear hT hTn hTm hTa hc hs hs2 hX hA HST hw0 ht hG;go_enter func94,ntmps94;go_upto_region 1 with fail;rw[HW0.out];obtain⟨_,⟨b0,b1,b2,b3⟩,i0,i1,i2,r0,r1,r2,f⟩:=HX.out;clear HW0 f r0 r1 r2
 go_wp2_with fail
 refine (counting_any (.slice a4 n4 c4) t h _ HS.out).mono ?_;rintro e w1 ⟨rfl,hb1⟩;have HX1:Hid (SBox w w1 S (.slice ao n cap) (.slice ao2 n2 cap2) (.slice (some ⟨g,o,none⟩) n3 cap3) ((k:Int)+1) y h):=HX.out.later hb1;have HS1:Hid (SR w1 (.slice a4 n4 c4) t):=HS.out.later hb1;obtain⟨I,hI⟩:∃I,I=beTo t h t.length:=⟨_,rfl⟩;have HI:Hid (I=beTo t h t.length):=hI;rw[←hI];clear hI hb1 HX HS b0 b1 b2 b3 i0 i1 i2 q0;by_cases h0:I<0
 ·have HA2:Hid (A=none):=by
   show _=_;rw[HA.out,st_a (fun e=>by have:=(lu_0.1 e).2.2;rw[←HI.out] at this;omega)]
  obtain⟨hB2,⟨b0,b1,b2,b3⟩,i0,i1,i2,r0,r1,r2,f⟩:=HX1.out;have HB2:Hid (Below w.heap.size w w1):=hB2;have f0:=f 0;have f1:=f 1;have f2:=f 2;clear f hB2;go_wp2;refine bodyPost_ret (v:=.tuple #[.agg #[.int i64 0,.int i64 0,.int i64 0],.bool false]) (by simp[results,results94,go_sem, *]) rfl ⟨by rw[HA2.out];rfl,below_three HB2.out _ (by omega) _ _ _⟩
 have hbd:=be_bd t h t.length;obtain⟨j,rfl⟩:∃j:Nat,I=(j:Int):=⟨I.toNat,by omega⟩;have hjl:j<t.length:=by
  have:=HI.out;omega
 obtain⟨_,_,_,e4,hn4,hm4,_,ha4⟩:=HS1.out.form;cases e4;obtain⟨g4,o4,rfl,hc4,_⟩:=ha4 (by omega);have hjn:j<n4:=by omega
 obtain⟨p,m,b,q,s,v,hl,hLj,c0,c1,c2,c3,c4',c5⟩:=hc4.at hn4 hjn;have HRO:Hid (luN t h=0→roR t h=⟨p,m,b,q,s,v⟩):=by
  intro e;rw[roR,luI,if_pos e,←HI.out,Int.toNat_natCast,getD_at hjl,hLj]
 have HLT:Hid (hdrB h=true→luN t h=0):=fun e=>lu_0.2 ⟨HTB.out,e,by rw[←HI.out];omega⟩
 have HC4:Hid (RAt w1 g4 o4 t):=hc4;have HN4:Hid (t.length=n4):=hn4;have HLJ:Hid (t[j]=⟨p,m,b,q,s,v⟩):=hLj;have jb0:(0:Int)≤(j:Int):=by omega
 have jb1:(j:Int)<(n4:Int):=by omega
 obtain⟨_,⟨b0,b1,b2,b3⟩,i0,i1,i2,r0,r1,r2,f⟩:=HX1.out;have hlt4:g4<w1.heap.size:=bLQ _ _ c0;have hlt1:w.heap.size+1<w1.heap.size:=bLQ _ _ i0;obtain⟨V,hV⟩:∃V,V=apR p m b q s v h:=⟨_,rfl⟩;obtain⟨N,hN⟩:∃N,N=apN p m b q s v h:=⟨_,rfl⟩;have HV:Hid (V=apR p m b q s v h):=hV;have HN:Hid (N=apN p m b q s v h):=hN;clear hV hN h0 hbd hn4 hm4 ha4 hc4 hLj f HI HTB r0 r1 r2;go_upto_region 5 with fail
 go_cut [8,9] from 26 to 35 (fun hd er w'=>hd=.int i64 V∧er=noV N∧Below w1.heap.size w1 w')
 case first =>
  go_region_with (go_at_call 118;refine (apply_any p m b q s v h _).mono ?_;rintro e w' ⟨rfl,hb⟩;rw[←HV.out,←HN.out];have HBX:Hid (Below w1.heap.size w1 w'):=(Below.drew (bRQ _ _)).trans (hb.mono (by simp));clear hb)
  all_goals (go_wp2_with fail;go_meet)
  all_goals exact⟨rfl,rfl,HBX.out⟩
 case rest =>
  obtain⟨rfl,rfl,hbw⟩:=hcut;have HX2:Hid (SBox w wc S (.slice ao n cap) (.slice ao2 n2 cap2) (.slice (some ⟨g,o,none⟩) n3 cap3) ((k:Int)+1) y h):=HX1.out.later hbw;obtain⟨p',m',b',q',s',v',hl',hLj',c0,c1,c2,c3,c4',c5⟩:=(HC4.out.later hbw).at HN4.out hjn;rw[HLJ.out] at hLj';cases hLj';obtain⟨hB2,⟨b0,b1,b2,b3⟩,i0,i1,i2,r0,r1,r2,f⟩:=HX2.out;have HB2:Hid (Below w.heap.size w wc):=hB2;have hlt4:g4<wc.heap.size:=bLQ _ _ c0;have hlt1:w.heap.size+1<wc.heap.size:=bLQ _ _ i0;have hlt2:w.heap.size+1+1<wc.heap.size:=bLQ _ _ r0;have f0:=f 0;have f1:=f 1;have f2:=f 2;clear hbw f hB2 HX1 HC4;by_cases h5:N=0
  ·subst h5;rw[no_ok rfl];have HA2:Hid (A=some (((k:Int)+1,q),V)):=by
    show _=_;have hl:=HLT.out (ap_yes HN.out.symm).2.1;rw[HA.out,st_c hl (HRO.out hl) HN.out.symm,HV.out]
   go_upto_region 8 with fail
   go_region
   all_goals
    go_wp2;refine bodyPost_ret (v:=.tuple #[.agg #[.int i64 ((k:Int)+1),.int i64 q,.int i64 V],.bool true]) (by simp[results,results94,go_sem, *]) rfl ⟨by rw[HA2.out];rfl,?_⟩
    first
     | exact below_three (HB2.out.trans ((Below.drew (bRQ _ _)).mono HB2.out.size)) _ (by omega) _ _ _
  rw[no_ne h5];have HA2:Hid (A=none):=by
   show _=_;by_cases hl:luN t h=0
   ·rw[HA.out,st_b hl (HRO.out hl) (by rw[←HN.out];exact h5)]
   rw[HA.out,st_a hl]
  clear h5;go_wp2;refine bodyPost_ret (v:=.tuple #[.agg #[.int i64 0,.int i64 0,.int i64 0],.bool false]) (by simp[results,results94,go_sem, *]) rfl ⟨by rw[HA2.out];rfl,below_three HB2.out _ (by omega) _ _ _⟩
section
variable {Ls:LkQ}{Hs:HoQ}{Ts:TsQ}
def atH (l:HpQ)(i:Nat):(Int×Int)×Int:=l.getD i zeH
def enE (Ls:LkQ)(Hs:HoQ)(Ts:TsQ)(l:HpQ)(p:(Int×Int)×Int):(Int×ByteArray) ⊕ ((Int×Int)×Int):=goE Ls Hs (taT Ts p.1.1) l p
theorem la_at (l:HpQ):laH l=atH l (l.length-1):=rfl
theorem at_app (l:HpQ)(p:(Int×Int)×Int):atH (l++[p]) l.length=p:=by simp[atH,List.getD]
theorem fo_s (n:Nat)(l:HpQ):foF Ls Hs Ts (n+1) l=match enE Ls Hs Ts l (laH l) with | .inl e=>(e.1,e.2,l) | .inr p=>foF Ls Hs Ts n (l++[p]):=rfl
end
section
variable {S:Int}{Ls:LkQ}{Hs:HoQ}{Ts:TsQ}
theorem peer_sp (ht:tpN S Ls Hs=0){s p:Int×Int}(h:peerO Ls s=some p):spB S p=true:=(tp_0 ht).2.2.1 p (peer_in h).2
theorem where_sp (ht:tpN S Ls Hs=0){n:ByteArray}{p:Int×Int}(h:whereO Hs n=some p):spB S p=true:=by
 rcases where_ix Hs n with ⟨_,h0⟩ | ⟨k,hk,_,h1⟩
 ·rw[h] at h0;cases h0
 rw[h] at h1;cases h1;exact ((tp_0 ht).2.2.2.2.1 _ (List.getElem_mem hk)).2
end
section
variable {Ls:LkQ}{Hs:HoQ}{Ts:TsQ}{l:HpQ}{q:(Int×Int)×Int}
theorem fo_r (h:l.length≤24):foF Ls Hs Ts (25-l.length) l=match enE Ls Hs Ts l (laH l) with | .inl e=>(e.1,e.2,l) | .inr p=>foF Ls Hs Ts (24-l.length) (l++[p]):=by
 have e:25-l.length=(24-l.length)+1:=by omega
 rw[e];exact fo_s _ _
theorem la_app (l:HpQ)(p:(Int×Int)×Int):laH (l++[p])=p:=by
 rw[la_at];simp only[List.length_append,List.length_cons,List.length_nil,Nat.add_sub_cancel,Nat.zero_add];exact at_app l p
end
abbrev Lg:=Int×ByteArray×((Int×Int)×Int)
def lgT (Ls:LkQ)(Hs:HoQ)(t:List Ru)(p:(Int×Int)×Int):Lg:=
 match stT t p with
 | none=>(2,ByteArray.empty,zeH)
 | some q=>match atO Hs q.1 with
   | some m=>(1,m,zeH)
   | none=>match peerO Ls q.1 with
     | none=>(3,ByteArray.empty,zeH)
     | some s=>(0,ByteArray.empty,(s,q.2))
def afB (g:Lg)(l:HpQ):Bool:=(g.1==0)&&((l.length==24) || (l.any fun x=>heB g.2.2 x))
def afL (g:Lg)(l:HpQ):Lg:=if afB g l=true then (4,ByteArray.empty,zeH) else g
def lgE (g:Lg):(Int×ByteArray) ⊕ ((Int×Int)×Int):=if g.1=0 then .inr g.2.2 else .inl (g.1,g.2.1)
section
variable {Ls:LkQ}{Hs:HoQ}{t:List Ru}{p:(Int×Int)×Int}{l:HpQ}
theorem lg_2 (h:stT t p=none):lgT Ls Hs t p=(2,ByteArray.empty,zeH):=by
 unfold lgT;rw[h]
theorem lg_1 {q:(Int×Int)×Int}(h:stT t p=some q){m:ByteArray}(ha:atO Hs q.1=some m):lgT Ls Hs t p=(1,m,zeH):=by
 unfold lgT;rw[h];simp only[ha]
theorem lg_3 {q:(Int×Int)×Int}(h:stT t p=some q)(ha:atO Hs q.1=none)(hp:peerO Ls q.1=none):lgT Ls Hs t p=(3,ByteArray.empty,zeH):=by
 unfold lgT;rw[h];simp only[ha,hp]
theorem lg_0 {q:(Int×Int)×Int}(h:stT t p=some q)(ha:atO Hs q.1=none){s:Int×Int}(hp:peerO Ls q.1=some s):lgT Ls Hs t p=(0,ByteArray.empty,(s,q.2)):=by
 unfold lgT;rw[h];simp only[ha,hp]
theorem af_ne {g:Lg}(h:g.1≠0):afL g l=g:=by
 unfold afL afB;rw[if_neg (by simp[h])]
theorem af_0 {g:Lg}(h:(afL g l).1=0):afL g l=g∧g.1=0∧l.length≠24∧(l.any fun x=>heB g.2.2 x)=false:=by
 by_cases e:afB g l=true
 ·rw[afL,if_pos e] at h;cases h
 have e1:afL g l=g:=by rw[afL,if_neg e]
 rw[e1] at h;refine⟨e1,h,?_,?_⟩
 ·intro h24;exact e (by simp[afB,h,h24])
 cases hx:l.any fun x=>heB g.2.2 x with
 | false=>rfl
 | true=>exact absurd (by simp only[afB,h,hx];simp) e
theorem go_lg:goE Ls Hs t l p=lgE (afL (lgT Ls Hs t p) l):=by
 unfold goE;cases h:stT t p with
 | none=>simp only[lg_2 h,af_ne (l:=l) (g:=(2,ByteArray.empty,zeH)) (by simp)];rfl
 | some q =>
   cases ha:atO Hs q.1 with
   | some m=>simp only[ha,lg_1 (Ls:=Ls) h ha,af_ne (l:=l) (g:=(1,m,zeH)) (by simp)];rfl
   | none =>
     cases hp:peerO Ls q.1 with
     | none=>simp only[ha,hp,lg_3 h ha hp,af_ne (l:=l) (g:=(3,ByteArray.empty,zeH)) (by simp)];rfl
     | some s =>
       simp only[ha,hp,lg_0 h ha hp];by_cases e:l.length=24∨l.any (fun x=>heB (s,q.2) x)=true
       ·rw[if_pos e,afL,if_pos]
        ·rfl
        rcases e with e | e
        ·simp[afB,e]
        simp only[afB,e];simp
       rw[if_neg e,afL,if_neg]
       ·rfl
       rw[not_or] at e;simp only[afB,Bool.and_eq_true,Bool.or_eq_true,beq_iff_eq];exact fun h=>h.2.elim e.1 e.2
end
section
variable {S:Int}{Ls:LkQ}{Hs:HoQ}{Ts:TsQ}{l:HpQ}
theorem fo_end (h:l.length≤24){g:Lg}(hg:g=afL (lgT Ls Hs (taT Ts (laH l).1.1) (laH l)) l)(h0:g.1≠0):foF Ls Hs Ts (25-l.length) l=(g.1,g.2.1,l):=by
 have e:enE Ls Hs Ts l (laH l)=.inl (g.1,g.2.1):=by
  show goE _ _ _ _ _=_;rw[go_lg,←hg,lgE,if_neg h0]
 rw[fo_r h,e]
theorem fo_on (h:l.length≤24){g:Lg}(hg:g=afL (lgT Ls Hs (taT Ts (laH l).1.1) (laH l)) l)(h0:g.1=0):foF Ls Hs Ts (25-l.length) l=foF Ls Hs Ts (25-(l++[g.2.2]).length) (l++[g.2.2]):=by
 have e:enE Ls Hs Ts l (laH l)=.inr g.2.2:=by
  show goE _ _ _ _ _=_;rw[go_lg,←hg,lgE,if_pos h0]
 rw[fo_r h,e];simp only[List.length_append,List.length_cons,List.length_nil];rw[show 24-l.length=25-(l.length+(0+1)) by omega]
theorem lg_sp (ht:tpN S Ls Hs=0){t:List Ru}{p:(Int×Int)×Int}(h:(lgT Ls Hs t p).1=0):spB S (lgT Ls Hs t p).2.2.1=true:=by
 cases h1:stT t p with
 | none=>rw[lg_2 h1] at h;cases h
 | some q =>
   cases ha:atO Hs q.1 with
   | some m=>rw[lg_1 h1 ha] at h;cases h
   | none =>
     cases hp:peerO Ls q.1 with
     | none=>rw[lg_3 h1 ha hp] at h;cases h
     | some s =>
       rw[lg_0 h1 ha hp];exact peer_sp ht hp
theorem lg_name (ht:tpN S Ls Hs=0)(t:List Ru)(p:(Int×Int)×Int):(lgT Ls Hs t p).2.1.size≤1000000:=by
 cases h1:stT t p with
 | none=>rw[lg_2 h1];decide
 | some q =>
   cases ha:atO Hs q.1 with
   | some m =>
     rw[lg_1 h1 ha]
     rcases at_ix Hs q.1 with ⟨_,ho⟩ | ⟨k,hk,_,ho⟩
     ·rw[ha] at ho;cases ho
     rw[ha] at ho;cases ho;have h:=(tp_0 ht).2.2.2.2.1 Hs[k] (List.getElem_mem hk);have h2:=h.1;simp only[nmB,Bool.and_eq_true,decide_eq_true_eq] at h2;show Hs[k].1.size≤_;omega
   | none =>
     cases hp:peerO Ls q.1 with
     | none=>rw[lg_3 h1 ha hp];decide
     | some s =>
       rw[lg_0 h1 ha hp];show ByteArray.empty.size≤1000000;decide
theorem af_name {g:Lg}(h:g.2.1.size≤1000000):(afL g l).2.1.size≤1000000:=by
 unfold afL;by_cases e:afB g l=true
 ·rw[if_pos e];decide
 rw[if_neg e];exact h
end
def veS (p:Int×Int):Value:=.agg #[.int i64 p.1,.int i64 p.2]
theorem peers_any (ao:AdQ)(n cap:Nat)(Ls:LkQ)(w:World)(hL:GS lnkE w (.slice ao n cap) Ls)(hd:(spsL Ls).Nodup)(h1000:n≤1000):
 Calls prog 74 #[.slice ao n cap] w fun e w'=>∃B M,e=.returned (.map (some B))∧MAt spotKey veS w' B M∧PM M Ls∧Below w.heap.size w w':=by
 obtain⟨_,_,_,e1,hLn,hLm,_,hLa⟩:=hL.form;cases e1;have HLN:Hid (Ls.length=n):=hLn;have HLA:Hid (0<n→∃g o,ao=some ⟨g,o,none⟩∧GAt lnkE w g o Ls∧cap≤maxLen):=hLa;have HND:Hid ((spsL Ls).Nodup):=hd;have hmk:=run_makeMap (P:=prog) 156 w;have HM1:Hid (MAt spotKey veS (w.alloc (.map #[] 0)) w.heap.size []):=mat_new spotKey veS w;clear hL hLn hLm hLa hd;go_enter func74,ntmps74;go_wp2;obtain⟨B,hB⟩:∃x,w.heap.size=x:=⟨_,rfl⟩;have HB:Hid (w.heap.size=B):=hB
 go_loopw [9] (fun i wr=>∃k:Nat,k≤n∧i=.int i64 k∧(∃M,MAt spotKey veS wr w.heap.size M∧PM M (Ls.take k))∧Below w.heap.size w wr) (fun i _=>n-(intOf i).toNat)
 case atStart=>exact⟨0,by omega,rfl,⟨[],HM1.out,by simpa using pm_nil⟩,(bRQ _ _).alloc (nLQ _) _⟩
 case round =>
  obtain⟨k,hk,rfl,⟨M,hM,hP⟩,hBw⟩:=hrel;have HM:Hid (MAt spotKey veS wr w.heap.size M):=hM;have HP:Hid (PM M (Ls.take k)):=hP;have HBw:Hid (Below w.heap.size w wr):=hBw;clear hB;by_cases hlt:k<n
  ·obtain⟨g,o,hao,hc,_⟩:=HLA.out (by omega);subst hao;obtain⟨x0,x1,x2,x3,hkl,hLk,q0,q1,q2,q3⟩:=lnk_at (hc.later hBw) HLN.out hlt;have HLk:Hid (Ls[k]=((x0,x1),(x2,x3))):=hLk;obtain⟨W0,hW0⟩:∃W0,wr.alloc (.cells #[.int i64 x0,.int i64 x1,.int i64 x2,.int i64 x3] 134)=W0:=⟨_,rfl⟩;have hBA:Below wr.heap.size wr W0:=by
    rw[←hW0];exact (bRQ _ _).alloc (nLQ _) _
   obtain⟨c0,c1,c2,c3⟩:=lnk_cells (lnk_new wr x0 x1 x2 x3 134);simp only[Nat.zero_add] at c0 c1 c2 c3;rw[hW0] at c0 c1 c2 c3;have hM0:MAt spotKey veS W0.drew w.heap.size M:=hM.later hBA.drew;obtain⟨w3,hu1,hM3,hg3⟩:=run_update_M hM0 156 65 underlying156 (x0,x1) (x2,x3);obtain⟨w4,hu2,hM4,hg4⟩:=run_update_M hM3 156 65 underlying156 (x2,x3) (x0,x1);have hlw:w.heap.size<wr.heap.size:=hM.lt;have hlW:wr.heap.size<W0.drew.heap.size:=bLQ _ _ c0;have hk3:∀i,w3.cell? ⟨wr.heap.size,i,none⟩=W0.cell? ⟨wr.heap.size,i,none⟩:=fun i=>World.cell?_of_block (w:=W0) (a:=⟨wr.heap.size,i,none⟩) (hg3.block wr.heap.size hlW (fun e=>by simp only[Option.some.injEq] at e;omega))
   have d0:=(hk3 0).trans c0;have d1:=(hk3 1).trans c1;have d2:=(hk3 2).trans c2;have d3:=(hk3 3).trans c3;have v1:(Instr.mapUpdate 156 (.map (some w.heap.size)) (.agg #[.int i64 x0,.int i64 x1]) (.agg #[.int i64 x2,.int i64 x3])).run prog W0.drew=.ok () w3:=hu1;have v2:(Instr.mapUpdate 156 (.map (some w.heap.size)) (.agg #[.int i64 x2,.int i64 x3]) (.agg #[.int i64 x0,.int i64 x1])).run prog w3=.ok () w4:=hu2;have HM4:Hid (MAt spotKey veS w4 w.heap.size (mput sq (x2,x3) (x0,x1) (mput sq (x0,x1) (x2,x3) M))):=hM4;have HP4:Hid (PM (mput sq (x2,x3) (x0,x1) (mput sq (x0,x1) (x2,x3) M)) (Ls.take (k+1))):=by
    have e:Ls.take (k+1)=Ls.take k++[((x0,x1),(x2,x3))]:=by rw[List.take_succ_eq_append_getElem hkl,hLk]
    show PM _ _;rw[e];refine pm_put hP ?_;rw[←e];exact sps_nd HND.out _
   have HB4:Hid (Below w.heap.size w w4):=by
    have h0:Below w.heap.size w W0.drew:=(hBw.trans (hBA.mono hBw.size)).drew;exact (h0.grown hg3 h0.size (fun j e=>by cases e;exact nLQ _)).grown hg4 (Nat.le_trans h0.size hg3.size) (fun j e=>by cases e;exact nLQ _)
   have kb0:(0:Int)≤(k:Int):=by omega
   have kb1:(k:Int)<(n:Int):=by omega
   clear hk3 hlw hlW hu1 hu2 hM3 hM4 hg3 hg4 hM0 hM hP hc hLk hBw hBA;go_upto_region 5 with fail;clear q0 q1 q2 q3
   go_region
   go_wp2;go_roundw
   case rel=>exact⟨k+1,by omega,by go_num,⟨_,HM4.out,HP4.out⟩,HB4.out⟩
   case measure=>simp[intOf];omega
  obtain rfl:k=n:=by omega
  clear hM hP hBw;go_wp2;go_ret;exact⟨_,M,rfl,HM.out,by have:=HP.out;rw[←HLN.out,List.take_length] at this;exact this,HBw.out⟩
theorem froz_new2 (w:World)(cs:Array Value)(t:TypeId)(k:Nat):(w.alloc (.cells cs t)).frozen? ⟨w.heap.size,k,none⟩=false:=by simp
theorem bdrew {w w':World}(hb:Below w.drew.heap.size w.drew w'):Below w.heap.size w w':=(Below.drew (bRQ _ _)).trans hb
theorem balloc {w w':World}{o:Obj}(hb:Below (w.drew.alloc o).heap.size (w.drew.alloc o) w'):Below w.heap.size w w':=((Below.drew (bRQ _ _)).alloc (nLQ _) o).trans (hb.mono (by simp))
theorem peer_look {W:World}{B:Nat}{M Ls:LkQ}(hM:MAt spotKey veS W B M)(hP:PM M Ls)(x y:Int):
 (Instr.lookup 156 (.map (some B)) (.agg #[.int i64 x,.int i64 y]) true).run prog W=.ok (.tuple #[.agg #[.int i64 ((peerO Ls (x,y)).getD (0,0)).1,.int i64 ((peerO Ls (x,y)).getD (0,0)).2],.bool (peerO Ls (x,y)).isSome]) W:=by
 have h:=run_lookup_M hM 156 65 underlying156 (.agg #[.int i64 0,.int i64 0]) (fun w=>by kernel_rfl) (x,y) true;rw[show mget spotKey.q (x,y) M=peerO Ls (x,y) from hP (x,y)] at h;simp only[if_true] at h;cases hp:peerO Ls (x,y) with
 | none=>rw[hp] at h;exact h
 | some p=>rw[hp] at h;exact h
def hopCI (w:World)(B:Nat)(x0 x1 x2:Int)(g o:Nat)(y0 y1 y2:Int)(w':World):Prop:=
 Below w.heap.size w w'∧(w'.cell? ⟨B,0,none⟩=some (.int i64 x0)∧w'.cell? ⟨B,1,none⟩=some (.int i64 x1)∧w'.cell? ⟨B,2,none⟩=some (.int i64 x2)) ∧
 w'.cell? ⟨g,o,none⟩=some (.int i64 y0)∧w'.cell? ⟨g,o+1,none⟩=some (.int i64 y1)∧w'.cell? ⟨g,o+2,none⟩=some (.int i64 y2)
theorem hopCI.later {w W W':World}{B:Nat}{x0 x1 x2:Int}{g o:Nat}{y0 y1 y2:Int}(hb:Below W.heap.size W W')(h:hopCI w B x0 x1 x2 g o y0 y1 y2 W):hopCI w B x0 x1 x2 g o y0 y1 y2 W':=by
 obtain⟨h0,⟨h1,h2,h3⟩,k1,k2,k3⟩:=h;exact⟨h0.trans (hb.mono h0.size),⟨cell_later hb h1,cell_later hb h2,cell_later hb h3⟩,cell_later hb k1,cell_later hb k2,cell_later hb k3⟩
theorem hop_idx (ao:AdQ)(n cap:Nat)(x0 x1 x2:Int)(L:HpQ)(w:World)(hn:L.length=n)(hn2:n≤maxLen)(ha:0<n→∃g o,ao=some ⟨g,o,none⟩∧GAt hopE w g o L∧cap≤maxLen):
 Calls prog 119 #[.slice ao n cap,.agg #[.int i64 x0,.int i64 x1,.int i64 x2]] w fun e w'=>e=.returned (.int i64 (ixG (fun a=>hopB ((x0,x1),x2) a) L))∧Below w.heap.size w w':=by
 have HN:Hid (L.length=n):=hn;have HA:Hid (0<n→∃g o,ao=some ⟨g,o,none⟩∧GAt hopE w g o L∧cap≤maxLen):=ha;have HC0:=hop_new w x0 x1 x2 122;have HB0:Hid (Below w.heap.size w (w.alloc (.cells #[.int i64 x0,.int i64 x1,.int i64 x2] 122))):=(bRQ _ _).alloc (nLQ _) _;unfold maxLen at hn2;clear hn ha;go_enter func119,ntmps119;go_wp2
 go_loopw [8] (fun i wr=>∃k:Nat,k≤n∧i=.int i64 k∧(L.take k).any (fun a=>hopB ((x0,x1),x2) a)=false∧Below w.heap.size w wr∧VAt wr w.heap.size 0 (hopE.c ((x0,x1),x2)))
  (fun i _=>n-(intOf i).toNat)
 case atStart=>exact⟨0,by omega,rfl,by simp,HB0.out,HC0⟩
 case round =>
  obtain⟨k,hk,rfl,hno,hB,hC⟩:=hrel;have HB:Hid (Below w.heap.size w wr):=hB;have HC:Hid (VAt wr w.heap.size 0 (hopE.c ((x0,x1),x2))):=hC;have HNO:Hid ((L.take k).any (fun a=>hopB ((x0,x1),x2) a)=false):=hno;clear hno HC0 HB0;by_cases hlt:k<n
  ·obtain⟨g,og,hao,hc,_⟩:=HA.out (by omega);subst hao;obtain⟨y0,y1,y2,hkl,hL,q0,q1,q2⟩:=hop_at (hc.later hB) HN.out hlt;have HL:Hid (L[k]=((y0,y1),y2)):=hL;obtain⟨r0,r1,r2⟩:=hop_cells hC;simp only[Nat.zero_add] at r0 r1 r2;have HCE:Hid (hopCI wr w.heap.size x0 x1 x2 g (og+k*3) y0 y1 y2 wr):=⟨bRQ _ _,⟨r0,r1,r2⟩,q0,q1,q2⟩;clear hL hB hC HA q0 q1 q2 r0 r1 r2;go_upto_region 4 with fail;have kb0:(0:Int)≤(k:Int):=by omega
   have kb1:(k:Int)<(n:Int):=by omega
   go_cut [16] from 9 to 18 (fun c w'=>c=.bool (hopB ((x0,x1),x2) ((y0,y1),y2))∧Below wr.heap.size wr w')
   case first =>
    as_aux_lemma =>
     refine wp_region_quiet (C:=hopCI wr w.heap.size x0 x1 x2 g (og+k*3) y0 y1 y2) (by kernel_rfl) (by kernel_rfl) (hopCI.later (W:=wr) (Below.drew (bRQ _ _)) HCE.out) ?_;simp only[List.toList_toArray];go_big_quiet_want;refine qv (.agg #[.int i64 x0,.int i64 x1,.int i64 x2]) ?_ ?_
     ·rintro w' ⟨z,⟨z0,z1,z2⟩,u0,u1,u2⟩;go_simp
     simp only[Act.put,AP];go_big_quiet_on;go_big_quiet_want;refine qv (.slice (some ⟨g,og,none⟩) n cap) ?_ ?_
     ·rintro w' ⟨z,⟨z0,z1,z2⟩,u0,u1,u2⟩;go_simp
     simp only[Act.put,AP];go_big_quiet_on;go_big_quiet_want;refine qv (.int i64 (k:Int)) ?_ ?_
     ·rintro w' ⟨z,⟨z0,z1,z2⟩,u0,u1,u2⟩;go_simp
     simp only[Act.put,AP];go_big_quiet_on;go_big_quiet_want;refine qv (.pointer (some ⟨g,og+k*3,none⟩)) ?_ ?_
     ·rintro w' ⟨z,⟨z0,z1,z2⟩,u0,u1,u2⟩;go_simp
     simp only[Act.put,AP];go_big_quiet_on;go_big_quiet_want;refine qv (.agg #[.int i64 y0,.int i64 y1,.int i64 y2]) ?_ ?_
     ·rintro w' ⟨z,⟨z0,z1,z2⟩,u0,u1,u2⟩;go_simp
     simp only[Act.put,AP];go_big_quiet_on;go_big_quiet_want;refine quiet_val (v:=.bool (hopB ((x0,x1),x2) ((y0,y1),y2))) (fun w' hC=>exec_bin rfl (by go_simp) (run_eql_of (hop_eq x0 x1 x2 y0 y1 y2 w'))) ?_;simp only[Act.put,AP];go_big_quiet_on;refine wpQuiet_nil ?_;intro w' hC
     go_wp2_with fail
     go_meet
     case rel=>exact⟨rfl,hC.1⟩
   case rest =>
    obtain⟨rfl,hB2⟩:=hcut;have HB2:Hid (Below w.heap.size w wc):=HB.out.trans (hB2.mono HB.out.size);have HC2:Hid (VAt wc w.heap.size 0 (hopE.c ((x0,x1),x2))):=HC.out.later hB2;clear hB2;cases ho:hopB ((x0,x1),x2) ((y0,y1),y2)
    ·go_wp2;go_roundw
     case rel=>exact⟨k+1,by omega,by go_num,any_nextG hkl HNO.out (by rw[HL.out];exact ho),HB2.out,HC2.out⟩
     case measure=>simp[intOf];omega
    go_wp2;go_ret;exact⟨by rw[ixG_hit hkl HNO.out (by rw[HL.out];exact ho)];rfl,HB2.out⟩
  obtain rfl:k=n:=by omega
  go_wp2;go_ret;exact⟨by have:=HNO.out;rw[←HN.out,List.take_length] at this;rw[ixG_no this];rfl,HB.out⟩
theorem hop_has (ao:AdQ)(n cap:Nat)(x y h:Int)(L:HpQ)(w:World)(hs:GS hopE w (.slice ao n cap) L):
 Calls prog 96 #[.slice ao n cap,.agg #[.int i64 x,.int i64 y,.int i64 h]] w fun e w'=>e=.returned (.bool (L.any fun a=>hopB ((x,y),h) a))∧Below w.heap.size w w':=by
 obtain⟨ao',n',cap',e,hn,hn2,hn3,ha⟩:=hs.form;cases e;have HN:Hid (L.length=n):=hn;have hB0:Below w.heap.size w (w.alloc (.cells #[.int i64 x,.int i64 y,.int i64 h] 122)):=(bRQ _ _).alloc (nLQ _) _;have HA:Hid (0<n→∃g o,ao=some ⟨g,o,none⟩∧GAt hopE w g o L∧cap≤maxLen):=ha;have HB0:Hid (Below w.heap.size w (w.alloc (.cells #[.int i64 x,.int i64 y,.int i64 h] 122))):=hB0;have HM:Hid (n≤maxLen):=hn2;have HX:Hid ((L.any fun a=>hopB ((x,y),h) a)=decide (0≤ixG (fun a=>hopB ((x,y),h) a) L)):=(ixG_any L (fun a=>hopB ((x,y),h) a)).symm;rw[HX.out];clear hn ha hs hn2 hB0 HX;obtain⟨z,hz⟩:∃z,z=ixG (fun a=>hopB ((x,y),h) a) L:=⟨_,rfl⟩;rw[←hz];have HX:Hid (z=ixG (fun a=>hopB ((x,y),h) a) L):=hz;clear hz;go_enter func96,ntmps96
 go_wp2_with fail
 refine (hop_idx ao n cap x y h L _ HN.out HM.out (fun h0=>by
  obtain⟨g,o,e1,e2,e3⟩:=HA.out h0;exact⟨g,o,e1,e2.later HB0.out,e3⟩)).mono ?_
 rintro e w2 ⟨rfl,hb2⟩;have HB2:Hid (Below w.heap.size w w2):=HB0.out.trans (hb2.mono HB0.out.size);rw[←HX.out];clear hb2;go_wp2;go_ret;exact⟨rfl,HB2.out⟩
def hstAsks (w:World)(f:FuncId)(c:Value)(P:ByteArray×(Int×Int)→Bool):Prop:=
 ∀(x0:ByteArray) (x1:Int) (x2:Int) (W:World),Below w.heap.size w W→Calls prog f #[.agg #[.string x0,.int i64 x1,.int i64 x2],c] W fun e w'=>e=.returned (.bool (P (x0,(x1,x2))))∧Below W.heap.size W w'
theorem hstAsks.later {w w':World}{f:FuncId}{c:Value}{P:ByteArray×(Int×Int)→Bool}(h:hstAsks w f c P)(hb:Below w.heap.size w w'):hstAsks w' f c P:=
 fun x0 x1 x2 W hW=>h x0 x1 x2 W (hb.trans (hW.mono hb.size))
theorem hst_idxF (ao:AdQ)(n cap:Nat)(f:FuncId)(c:Value)(P:ByteArray×(Int×Int)→Bool)(L:HoQ)(w:World)(hn:L.length=n)(hn2:n≤maxLen)(ha:0<n→∃g o,ao=some ⟨g,o,none⟩∧GAt hstE w g o L∧cap≤maxLen)(he:∀args w,(callFunc f args).run prog w=.ok (.enter f args) w)(hf:hstAsks w f c P):
 Calls prog 72 #[.slice ao n cap,.func (Fn.func f) #[] #[c]] w fun e w'=>e=.returned (.int i64 (ixG P L))∧Below w.heap.size w w':=by
 have HN:Hid (L.length=n):=hn;have HF:Hid (hstAsks w f c P):=hf;have HA:Hid (0<n→∃g o,ao=some ⟨g,o,none⟩∧GAt hstE w g o L∧cap≤maxLen):=ha;unfold maxLen at hn2;clear hn hf ha;go_enter func72,ntmps72;go_wp2
 go_loopw [8] (fun i wr=>∃k:Nat,k≤n∧i=.int i64 k∧(L.take k).any P=false∧Below w.heap.size w wr)
  (fun i _=>n-(intOf i).toNat)
 case atStart=>exact⟨0,by omega,rfl,by simp,bRQ _ _⟩
 case round =>
  obtain⟨k,hk,rfl,hno,hB⟩:=hrel;have HB:Hid (Below w.heap.size w wr):=hB;have HNO:Hid ((L.take k).any P=false):=hno;clear hno;by_cases hlt:k<n
  ·obtain⟨g,o,hao,hc,_⟩:=HA.out (by omega);subst hao;obtain⟨x0,x1,x2,hkl,hL,q0,q1,q2⟩:=hst_at (hc.later hB) HN.out hlt;have HL:Hid (L[k]=(x0,(x1,x2))):=hL;clear hL hB;cases ho:P (x0,(x1,x2))
   ·go_wp2_with fail
    refine (HF.out x0 x1 x2 _ HB.out).mono ?_;rintro e w1 ⟨rfl,hb1⟩;rw[ho];have HB1:=HB.out.trans (hb1.mono HB.out.size);clear hb1;go_wp2;go_roundw
    case rel=>exact⟨k+1,by omega,by go_num,any_nextG hkl HNO.out (by rw[HL.out];exact ho),HB1⟩
    case measure=>simp[intOf];omega
   go_wp2_with fail
   refine (HF.out x0 x1 x2 _ HB.out).mono ?_;rintro e w1 ⟨rfl,hb1⟩;rw[ho];go_wp2;go_ret;exact⟨by rw[ixG_hit hkl HNO.out (by rw[HL.out];exact ho)];rfl,HB.out.trans (hb1.mono HB.out.size)⟩
  obtain rfl:k=n:=by omega
  go_wp2;go_ret;exact⟨by have:=HNO.out;rw[←HN.out,List.take_length] at this;rw[ixG_no this];rfl,HB.out⟩
theorem own_below {w w':World}{B e size n:Nat}{v:Value}{xs:List Value}(h:w.ownsRow B e size v n xs)(hb:Below w.heap.size w w'):w'.ownsRow B e size v n xs:=by
 obtain⟨h1,h2 | ⟨g,cap,cur,hv,hB,hg,h3⟩⟩:=h
 ·exact⟨h1,.inl h2⟩
 have hlt:g<w.heap.size:=by
  rcases Nat.lt_or_ge g w.heap.size with h | h
  ·exact h
  rw[Array.getElem?_eq_none h] at hg;cases hg
 exact⟨h1,.inr ⟨g,cap,cur,hv,hB,(hb.block g hlt).trans hg,h3⟩⟩
theorem own_mono {w:World}{B B' e size n:Nat}{v:Value}{xs:List Value}(h:w.ownsRow B e size v n xs)(hB:B'≤B):w.ownsRow B' e size v n xs:=by
 obtain⟨h1,h2 | ⟨g,cap,cur,hv,hb,h3⟩⟩:=h
 ·exact⟨h1,.inl h2⟩
 exact⟨h1,.inr ⟨g,cap,cur,hv,Nat.le_trans hB hb,h3⟩⟩
theorem infoInt:(Tryz.prog.info? 3).map (fun i=>(i.zero,i.size,i.bytes))=some (some (.int i64 0),1,8):=by kernel_rfl
theorem own_form {w:World}{B e size n:Nat}{v:Value}{xs:List Value}(h:w.ownsRow B e size v n xs):∃ao cap,v=.slice ao n cap:=by
 rcases h.2 with ⟨rfl,rfl⟩ | ⟨g,cap,cur,rfl,_⟩
 ·exact⟨none,0,rfl⟩
 exact⟨_,cap,rfl⟩
def legV (g:Lg):Value:=.agg #[.int i64 g.1,.string g.2.1,.int i64 g.2.2.1.1,.int i64 g.2.2.1.2,.int i64 g.2.2.2]
theorem leg1_any (n:ByteArray)(x0 x1:Int)(B:Nat)(x y:Int)(w:World)(h0:w.cell? ⟨B,0,none⟩=some (.int i64 x))(h1:w.cell? ⟨B,1,none⟩=some (.int i64 y)):
 Calls prog 95 #[.agg #[.string n,.int i64 x0,.int i64 x1],.pointer (some ⟨B,0,none⟩)] w fun e w'=>e=.returned (.bool (sq (x0,x1) (x,y)))∧Below w.heap.size w w':=by
 have hlt:B<w.heap.size:=bLQ _ _ h0;have HB0:Hid (Below w.heap.size w (w.alloc (.cells #[Value.string n,.int i64 x0,.int i64 x1] 67))):=(bRQ _ _).alloc (nLQ _) _;have hr:sq (x0,x1) (x,y)=(x0==x&&x1==y):=rfl;rw[hr];clear hr;cases g1:(x0==x) <;> cases g2:(x1==y)
 all_goals
  simp only[Bool.and_true,Bool.and_false,Bool.and_self];go_enter func95,ntmps95;go_wp2;go_ret;exact⟨rfl,HB0.out⟩
theorem leg1_asks (B:Nat)(x y:Int)(w:World)(h0:w.cell? ⟨B,0,none⟩=some (.int i64 x))(h1:w.cell? ⟨B,1,none⟩=some (.int i64 y)):hstAsks w 95 (.pointer (some ⟨B,0,none⟩)) (fun h=>sq h.2 (x,y)):=
 fun n x0 x1 W hW=>leg1_any n x0 x1 B x y W (cell_later hW h0) (cell_later hW h1)
def put5 (W:World)(g:Nat)(a b c d e:Value):World:=((((W.setCell ⟨g,0,none⟩ a).setCell ⟨g,1,none⟩ b).setCell ⟨g,2,none⟩ c).setCell ⟨g,3,none⟩ d).setCell ⟨g,4,none⟩ e
theorem below_put5 {B:Nat}{w W:World}(h:Below B w W)(g:Nat)(hg:B≤g)(a b c d e:Value):Below B w (put5 W g a b c d e):=((((h.setCell (p:=⟨g,0,none⟩) hg a).setCell (p:=⟨g,1,none⟩) hg b).setCell (p:=⟨g,2,none⟩) hg c).setCell (p:=⟨g,3,none⟩) hg d).setCell (p:=⟨g,4,none⟩) hg e
def lgbox (w:World)(S:Int)(v1 v2 v3:Value)(x y h:Int):World:=((w.alloc (.cells #[.int i64 S,v1,v2,v3] 28)).alloc (.cells #[.int i64 x,.int i64 y,.int i64 h] 122)).alloc (.cells #[.int i64 0,.string ⟨#[]⟩,.int i64 0,.int i64 0,.int i64 0] 159)
structure LgBox (w W:World)(S:Int)(v1 v2 v3:Value)(x y h:Int):Prop where
 below:Below w.heap.size w W
 n:NeBox W w.heap.size S v1 v2 v3
 i0:W.cell? ⟨w.heap.size+1,0,none⟩=some (.int i64 x)
 i1:W.cell? ⟨w.heap.size+1,1,none⟩=some (.int i64 y)
 i2:W.cell? ⟨w.heap.size+1,2,none⟩=some (.int i64 h)
 r0:W.cell? ⟨w.heap.size+1+1,0,none⟩=some (.int i64 0)
 r1:W.cell? ⟨w.heap.size+1+1,1,none⟩=some (.string ⟨#[]⟩)
 r2:W.cell? ⟨w.heap.size+1+1,2,none⟩=some (.int i64 0)
 r3:W.cell? ⟨w.heap.size+1+1,3,none⟩=some (.int i64 0)
 r4:W.cell? ⟨w.heap.size+1+1,4,none⟩=some (.int i64 0)
 f:∀i,W.frozen? ⟨w.heap.size+1+1,i,none⟩=false
theorem lgbox_new (w:World)(S:Int)(v1 v2 v3:Value)(x y h:Int):LgBox w (lgbox w S v1 v2 v3 x y h) S v1 v2 v3 x y h:=by
 have e1:(w.alloc (.cells #[.int i64 S,v1,v2,v3] 28)).heap.size=w.heap.size+1:=by simp
 have e2:((w.alloc (.cells #[.int i64 S,v1,v2,v3] 28)).alloc (.cells #[.int i64 x,.int i64 y,.int i64 h] 122)).heap.size=w.heap.size+1+1:=by simp
 have hb:∀(W:World) (o:Obj),Below W.heap.size W (W.alloc o):=fun W o=>(bRQ _ _).alloc (nLQ _) _
 have hs:=(vat_new (w.alloc (.cells #[.int i64 S,v1,v2,v3] 28)) [.int i64 x,.int i64 y,.int i64 h] 122).later (hb _ (Obj.cells #[.int i64 0,.string ⟨#[]⟩,.int i64 0,.int i64 0,.int i64 0] 159));rw[e1] at hs;have hr:=vat_new ((w.alloc (.cells #[.int i64 S,v1,v2,v3] 28)).alloc (.cells #[.int i64 x,.int i64 y,.int i64 h] 122)) [.int i64 0,.string ⟨#[]⟩,.int i64 0,.int i64 0,.int i64 0] 159;rw[e2] at hr;have hf:∀k,(lgbox w S v1 v2 v3 x y h).frozen? ⟨((w.alloc (.cells #[.int i64 S,v1,v2,v3] 28)).alloc (.cells #[.int i64 x,.int i64 y,.int i64 h] 122)).heap.size,k,none⟩=false:=fun k=>by
  unfold lgbox
  generalize (w.alloc (.cells #[.int i64 S,v1,v2,v3] 28)).alloc (.cells #[.int i64 x,.int i64 y,.int i64 h] 122)=X
  simp
 rw[e2] at hf;exact⟨(((bRQ _ _).alloc (nLQ _) _).alloc (by rw[e1];omega) _).alloc (by rw[e2];omega) _,((nebox_new w S v1 v2 v3 28).later (hb _ _)).later (hb _ _),hs 0 _ rfl,hs 1 _ rfl,hs 2 _ rfl,hr 0 _ rfl,hr 1 _ rfl,hr 2 _ rfl,hr 3 _ rfl,hr 4 _ rfl,hf⟩
theorem LgBox.later {w W W':World}{S:Int}{v1 v2 v3:Value}{x y h:Int}(k:LgBox w W S v1 v2 v3 x y h)(hb:Below W.heap.size W W'):LgBox w W' S v1 v2 v3 x y h:=
 ⟨k.below.trans (hb.mono k.below.size),k.n.later hb,cell_later hb k.i0,cell_later hb k.i1,cell_later hb k.i2,cell_later hb k.r0,cell_later hb k.r1,cell_later hb k.r2,cell_later hb k.r3,cell_later hb k.r4,fun i=>(hb.frozen (p:=⟨w.heap.size+1+1,i,none⟩) (show (⟨w.heap.size+1+1,0,none⟩:Addr).block<W.heap.size from bLQ W ⟨w.heap.size+1+1,0,none⟩ k.r0)).trans (k.f i)⟩
theorem leg_any (S:Int)(ao:AdQ)(n cap:Nat)(ao2:AdQ)(n2 cap2:Nat)(ao3:AdQ)(n3 cap3:Nat)(Ls:LkQ)(Hs:HoQ)(Ts:TsQ)(B:Nat)(M:LkQ)(x y h:Int)(w:World)
 (hH:GS hstE w (.slice ao2 n2 cap2) Hs) (hT:TS w (.slice ao3 n3 cap3) Ts) (hM:MAt spotKey veS w B M) (hPM:PM M Ls) (hG:∀k,k<Ts.length→tbN (Ts.getD k [])=0) (h1:1≤x) (h2:x≤(n3:Int)) (h6:n3≤6):
 Calls prog 75 #[.agg #[.int i64 S,.slice ao n cap,.slice ao2 n2 cap2,.slice ao3 n3 cap3],.map (some B),.agg #[.int i64 x,.int i64 y,.int i64 h]] w fun e w'=>e=.returned (legV (lgT Ls Hs (taT Ts x) ((x,y),h)))∧Below w.heap.size w w':=by
 obtain⟨G,hGd⟩:∃G,G=lgT Ls Hs (taT Ts x) ((x,y),h):=⟨_,rfl⟩;have HG:Hid (G=lgT Ls Hs (taT Ts x) ((x,y),h)):=hGd;rw[←hGd];have HHW:Hid (∀W,Below w.heap.size w W→GS hstE W (.slice ao2 n2 cap2) Hs):=fun W hb=>hH.later hb
 have HTW:Hid (∀W,Below w.heap.size w W→TS W (.slice ao3 n3 cap3) Ts):=fun W hb=>hT.later hb
 have HMW:Hid (∀W,Below w.heap.size w W→MAt spotKey veS W B M):=fun W hb=>hM.later hb
 have HPM:Hid (PM M Ls):=hPM;have HTT:Hid (∀k,k<Ts.length→tbN (Ts.getD k [])=0):=hG;have HS1:Hid (1≤x):=h1;have HS2:Hid (x≤(n3:Int)):=h2;have H36:Hid (n3≤6):=h6;have hX:=lgbox_new w S (.slice ao n cap) (.slice ao2 n2 cap2) (.slice ao3 n3 cap3) x y h;obtain⟨w0,hw0⟩:∃W,W=lgbox w S (.slice ao n cap) (.slice ao2 n2 cap2) (.slice ao3 n3 cap3) x y h:=⟨_,rfl⟩;rw[←hw0] at hX;have HX:Hid (LgBox w w0 S (.slice ao n cap) (.slice ao2 n2 cap2) (.slice ao3 n3 cap3) x y h):=hX;have HW0:Hid (((w.alloc (.cells #[.int i64 S,.slice ao n cap,.slice ao2 n2 cap2,.slice ao3 n3 cap3] 28)).alloc (.cells #[.int i64 x,.int i64 y,.int i64 h] 122)).alloc (.cells #[.int i64 0,.string ⟨#[]⟩,.int i64 0,.int i64 0,.int i64 0] 159)=w0):=hw0.symm;clear hH hT hM hPM hG h1 h2 h6 hGd hX hw0;go_enter func75,ntmps75;go_upto_region 1 with fail;rw[HW0.out];obtain⟨_,⟨b0,b1,b2,b3⟩,i0,i1,i2,r0,r1,r2,r3,r4,f⟩:=HX.out;clear HW0 f r0 r1 r2 r3 r4
 go_wp2_with fail
 refine (step_any S ao n cap ao2 n2 cap2 ao3 n3 cap3 Ts x y h _ (HTW.out _ HX.out.below) HTT.out HS1.out HS2.out H36.out).mono ?_;rintro e w1 ⟨rfl,hb1⟩;obtain⟨A,hA⟩:∃A,A=stO Ts ((x,y),h):=⟨_,rfl⟩;have HA:Hid (stT (taT Ts x) ((x,y),h)=A):=hA.symm;rw[←hA];obtain⟨Q1,hQ1⟩:∃q,q=(A.getD zeH).1.1:=⟨_,rfl⟩;obtain⟨Q2,hQ2⟩:∃q,q=(A.getD zeH).1.2:=⟨_,rfl⟩;obtain⟨Q3,hQ3⟩:∃q,q=(A.getD zeH).2:=⟨_,rfl⟩;obtain⟨okb,hokb⟩:∃q,q=A.isSome:=⟨_,rfl⟩;have HQ1:Hid ((A.getD zeH).1.1=Q1):=hQ1.symm;have HQ2:Hid ((A.getD zeH).1.2=Q2):=hQ2.symm;have HQ3:Hid ((A.getD zeH).2=Q3):=hQ3.symm;have HOKB:Hid (A.isSome=okb):=hokb.symm;rw[←hQ1,←hQ2,←hQ3,←hokb];have hal:Below w1.heap.size w1 (w1.alloc (.cells #[.int i64 Q1,.int i64 Q2,.int i64 Q3] 122)):=(bRQ _ _).alloc (nLQ _) _;have hXa:=(HX.out.later hb1).later hal;have hva:=hop_new w1 Q1 Q2 Q3 122;obtain⟨w2,hw2⟩:∃W,w1.alloc (.cells #[.int i64 Q1,.int i64 Q2,.int i64 Q3] 122)=W:=⟨_,rfl⟩;obtain⟨g,hg⟩:∃g,w1.heap.size=g:=⟨_,rfl⟩;rw[hw2] at hXa hva;rw[hg] at hva;have HD:Hid (VAt w2 g 0 (hopE.c ((Q1,Q2),Q3))):=hva;have HX2:Hid (LgBox w w2 S (.slice ao n cap) (.slice ao2 n2 cap2) (.slice ao3 n3 cap3) x y h):=hXa;have HW2:Hid (w1.alloc (.cells #[.int i64 Q1,.int i64 Q2,.int i64 Q3] 122)=w2):=hw2;have HGG:Hid (w1.heap.size=g):=hg;obtain⟨d0,d1,d2⟩:=hop_cells HD.out;simp only[Nat.zero_add] at d0 d1 d2;obtain⟨hB2,⟨b0,b1,b2,b3⟩,i0,i1,i2,r0,r1,r2,r3,r4,f⟩:=HX2.out;have HB2:Hid (Below w.heap.size w w2):=hB2;have f0:=f 0;have f1:=f 1;have f2:=f 2;have f3:=f 3;have f4:=f 4;clear hb1 hA hQ1 hQ2 hQ3 hokb hal hXa hva hw2 hg HX f hB2;go_upto_region 2 with fail;rw[HW2.out,HGG.out];clear HW2 HGG;cases okb with
 | false =>
   have HF2:Hid (G=(2,ByteArray.empty,zeH)):=by
    show _=_;rw[HG.out];refine lg_2 ?_;rw[HA.out];have:=HOKB.out;cases A with
    | none=>rfl
    | some _=>cases this
   go_wp2;refine bodyPost_ret (v:=.agg #[.int i64 2,.string ⟨#[]⟩,.int i64 0,.int i64 0,.int i64 0]) (by simp[results,results75,go_sem, *]) rfl ⟨by rw[HF2.out];rfl,below_put5 HB2.out _ (by omega) _ _ _ _ _⟩
 | true =>
   have HAS:Hid (A=some ((Q1,Q2),Q3)):=by
    show _=_;have h1:=HOKB.out;have h2:=HQ1.out;have h3:=HQ2.out;have h4:=HQ3.out;cases A with
    | none=>cases h1
    | some q =>
      obtain⟨⟨q1,q2⟩,q3⟩:=q;simp only[Option.getD_some] at h2 h3 h4;rw[h2,h3,h4]
   have HK:Hid (hstAsks w2 95 (.pointer (some ⟨g,0,none⟩)) (fun h=>sq h.2 (Q1,Q2))):=leg1_asks g Q1 Q2 w2 d0 d1;obtain⟨_,_,_,e6,hHn,hHm,_,hHa⟩:=(HHW.out _ HB2.out).form;cases e6;have HHN:Hid (Hs.length=n2):=hHn;have HHM:Hid (n2≤maxLen):=hHm;have HHA:Hid (0<n2→∃g o,ao2=some ⟨g,o,none⟩∧GAt hstE w2 g o Hs∧cap2≤maxLen):=hHa;clear hHn hHm hHa r0 r1 r2 r3 r4 f0 f1 f2 f3 f4
   go_wp2_with fail
   refine (hst_idxF ao2 n2 cap2 _ _ (fun h=>sq h.2 (Q1,Q2)) Hs _ HHN.out HHM.out HHA.out (enters_of func95 (by kernel_rfl) rfl) HK.out).mono ?_;rintro e w3 ⟨rfl,hb3⟩;have HX3:Hid (LgBox w w3 S (.slice ao n cap) (.slice ao2 n2 cap2) (.slice ao3 n3 cap3) x y h):=HX2.out.later hb3;have HHA3:Hid (0<n2→∃g o,ao2=some ⟨g,o,none⟩∧GAt hstE w3 g o Hs∧cap2≤maxLen):=fun h=>by
    obtain⟨g,o,e1,e2,e3⟩:=HHA.out h;exact⟨g,o,e1,e2.later hb3,e3⟩
   have HD3:Hid (VAt w3 g 0 (hopE.c ((Q1,Q2),Q3))):=HD.out.later hb3;obtain⟨d0,d1,d2⟩:=hop_cells HD3.out;simp only[Nat.zero_add] at d0 d1 d2;obtain⟨hB3,⟨b0,b1,b2,b3⟩,i0,i1,i2,r0,r1,r2,r3,r4,f⟩:=HX3.out;have HB3:Hid (Below w.heap.size w w3):=hB3;have f0:=f 0;have f1:=f 1;have f2:=f 2;have f3:=f 3;have f4:=f 4;have hlg:g<w3.heap.size:=bLQ _ _ d0;have hlr:w.heap.size+1+1<w3.heap.size:=bLQ _ _ r0;have hlw:w.heap.size<w3.heap.size:=bLQ _ _ b0;clear hb3 f hB3 HX2 HHA HK HD HB2
   rcases at_ix Hs (Q1,Q2) with ⟨hi,ho⟩ | ⟨k,hk,hi,ho⟩
   ·rw[hi];have HAT:Hid (atO Hs (Q1,Q2)=none):=ho;have hlk:=peer_look (HMW.out _ HB3.out) HPM.out Q1 Q2;obtain⟨P,hP⟩:∃P,P=peerO Ls (Q1,Q2):=⟨_,rfl⟩;have HP:Hid (peerO Ls (Q1,Q2)=P):=hP.symm;rw[←hP] at hlk;clear hi ho hP;cases P with
    | none =>
      have HF2:Hid (G=(3,ByteArray.empty,zeH)):=by
       show _=_;rw[HG.out];exact lg_3 (HA.out.trans HAS.out) HAT.out HP.out
      simp only[Option.getD_none,Option.isSome_none] at hlk;have hlr3:w.heap.size+1+1<w3.heap.size+1:=by omega
      go_wp2;refine bodyPost_ret (v:=.agg #[.int i64 3,.string ⟨#[]⟩,.int i64 0,.int i64 0,.int i64 0]) (by simp[results,results75,go_sem, *]) rfl ⟨by rw[HF2.out];rfl,(below_put5 HB3.out _ (by omega) _ _ _ _ _).alloc (below_put5 HB3.out _ (by omega) _ _ _ _ _).size _⟩
    | some s =>
      obtain⟨P1,P2⟩:=s;have HF2:Hid (G=(0,ByteArray.empty,((P1,P2),Q3))):=by
       show _=_;rw[HG.out];exact lg_0 (HA.out.trans HAS.out) HAT.out HP.out
      simp only[Option.getD_some,Option.isSome_some] at hlk;have hlr3:w.heap.size+1+1<w3.heap.size+1:=by omega
      go_wp2;refine bodyPost_ret (v:=.agg #[.int i64 0,.string ⟨#[]⟩,.int i64 P1,.int i64 P2,.int i64 Q3]) (by simp[results,results75,go_sem, *]) rfl ⟨by rw[HF2.out];rfl,(below_put5 HB3.out _ (by omega) _ _ _ _ _).alloc (below_put5 HB3.out _ (by omega) _ _ _ _ _).size _⟩
   rw[hi];have hlt:k<n2:=by rw[←HHN.out];exact hk
   obtain⟨gh,oh,hao,hc,_⟩:=HHA3.out (by omega);subst hao;obtain⟨y0,y1,y2,hkl,hHk,q0,q1,q2⟩:=hst_at hc HHN.out hlt;have HF2:Hid (G=(1,y0,zeH)):=by
    show _=_;rw[HG.out];refine lg_1 (HA.out.trans HAS.out) ?_;rw[ho,hHk]
   have kb0:(0:Int)≤(k:Int):=by omega
   have kb1:(k:Int)<(n2:Int):=by omega
   clear hi ho hHk hc HHA3;go_wp2;refine bodyPost_ret (v:=.agg #[.int i64 1,.string y0,.int i64 0,.int i64 0,.int i64 0]) (by simp[results,results75,go_sem, *]) rfl ⟨by rw[HF2.out];rfl,below_put5 HB3.out _ (by omega) _ _ _ _ _⟩
structure ABox (w W:World)(a:Int)(b:ByteArray)(c d e:Int):Prop where
 below:Below w.heap.size w W
 i0:W.cell? ⟨w.heap.size,0,none⟩=some (.int i64 a)
 i1:W.cell? ⟨w.heap.size,1,none⟩=some (.string b)
 i2:W.cell? ⟨w.heap.size,2,none⟩=some (.int i64 c)
 i3:W.cell? ⟨w.heap.size,3,none⟩=some (.int i64 d)
 i4:W.cell? ⟨w.heap.size,4,none⟩=some (.int i64 e)
 r0:W.cell? ⟨w.heap.size+1,0,none⟩=some (.int i64 0)
 r1:W.cell? ⟨w.heap.size+1,1,none⟩=some (.string ⟨#[]⟩)
 r2:W.cell? ⟨w.heap.size+1,2,none⟩=some (.int i64 0)
 r3:W.cell? ⟨w.heap.size+1,3,none⟩=some (.int i64 0)
 r4:W.cell? ⟨w.heap.size+1,4,none⟩=some (.int i64 0)
 f:∀i,W.frozen? ⟨w.heap.size+1,i,none⟩=false
theorem abox_new (w:World)(a:Int)(b:ByteArray)(c d e:Int):ABox w ((w.alloc (.cells #[.int i64 a,.string b,.int i64 c,.int i64 d,.int i64 e] 159)).alloc (.cells #[.int i64 0,.string ⟨#[]⟩,.int i64 0,.int i64 0,.int i64 0] 159)) a b c d e:=by
 have e1:(w.alloc (.cells #[.int i64 a,.string b,.int i64 c,.int i64 d,.int i64 e] 159)).heap.size=w.heap.size+1:=by simp
 have hb:∀(W:World) (o:Obj),Below W.heap.size W (W.alloc o):=fun W o=>(bRQ _ _).alloc (nLQ _) _
 have hs:=(vat_new w [.int i64 a,.string b,.int i64 c,.int i64 d,.int i64 e] 159).later (hb _ (Obj.cells #[.int i64 0,.string ⟨#[]⟩,.int i64 0,.int i64 0,.int i64 0] 159));have hB:=((Below.refl w.heap.size w).alloc (nLQ _) (Obj.cells #[.int i64 a,.string b,.int i64 c,.int i64 d,.int i64 e] 159)).alloc (by rw[e1];omega) (Obj.cells #[.int i64 0,.string ⟨#[]⟩,.int i64 0,.int i64 0,.int i64 0] 159);have h0:=hs 0 _ rfl;have h1:=hs 1 _ rfl;have h2:=hs 2 _ rfl;have h3:=hs 3 _ rfl;have h4:=hs 4 _ rfl;clear hs
 generalize w.alloc (.cells #[.int i64 a,.string b,.int i64 c,.int i64 d,.int i64 e] 159)=X at e1 h0 h1 h2 h3 h4 hB
 have hr:=vat_new X [.int i64 0,.string ⟨#[]⟩,.int i64 0,.int i64 0,.int i64 0] 159;have hf:=froz_new2 X #[.int i64 0,.string ⟨#[]⟩,.int i64 0,.int i64 0,.int i64 0] 159;rw[e1] at hr hf;exact⟨hB,h0,h1,h2,h3,h4,hr 0 _ rfl,hr 1 _ rfl,hr 2 _ rfl,hr 3 _ rfl,hr 4 _ rfl,hf⟩
theorem ABox.later {w W W':World}{a:Int}{b:ByteArray}{c d e:Int}(k:ABox w W a b c d e)(hb:Below W.heap.size W W'):ABox w W' a b c d e:=
 ⟨k.below.trans (hb.mono k.below.size),cell_later hb k.i0,cell_later hb k.i1,cell_later hb k.i2,cell_later hb k.i3,cell_later hb k.i4,cell_later hb k.r0,cell_later hb k.r1,cell_later hb k.r2,cell_later hb k.r3,cell_later hb k.r4,fun i=>(hb.frozen (p:=⟨w.heap.size+1,i,none⟩) (show (⟨w.heap.size+1,0,none⟩:Addr).block<W.heap.size from bLQ W ⟨w.heap.size+1,0,none⟩ k.r0)).trans (k.f i)⟩
theorem after_any (g:Lg)(ao:AdQ)(n cap:Nat)(l:HpQ)(w:World)(hl:GS hopE w (.slice ao n cap) l):
 Calls prog 76 #[legV g,.slice ao n cap] w fun e w'=>e=.returned (legV (afL g l))∧Below w.heap.size w w':=by
 have hn:=hl.len;obtain⟨G,hG⟩:∃G,G=afL g l:=⟨_,rfl⟩;have HG:Hid (G=afL g l):=hG;rw[←hG];clear hG;obtain⟨a,b,⟨c,d⟩,e⟩:=g;have HL:Hid (GS hopE w (.slice ao n cap) l):=hl;have HN:Hid (l.length=n):=by
  show _=_
  first | exact hn | exact hn.symm
 have hX:=abox_new w a b c d e;obtain⟨w0,hw0⟩:∃W,(w.alloc (.cells #[.int i64 a,.string b,.int i64 c,.int i64 d,.int i64 e] 159)).alloc (.cells #[.int i64 0,.string ⟨#[]⟩,.int i64 0,.int i64 0,.int i64 0] 159)=W:=⟨_,rfl⟩;rw[hw0] at hX;have HX:Hid (ABox w w0 a b c d e):=hX;have HW0:Hid ((w.alloc (.cells #[.int i64 a,.string b,.int i64 c,.int i64 d,.int i64 e] 159)).alloc (.cells #[.int i64 0,.string ⟨#[]⟩,.int i64 0,.int i64 0,.int i64 0] 159)=w0):=hw0;unfold legV
 dsimp only
 clear hl hn hX hw0;go_enter func76,ntmps76;go_upto_region 1 with fail;rw[HW0.out];obtain⟨hB0,i0,i1,i2,i3,i4,r0,r1,r2,r3,r4,f⟩:=HX.out;have HB0:Hid (Below w.heap.size w w0):=hB0;have f0:=f 0;have f1:=f 1;have f2:=f 2;have f3:=f 3;have f4:=f 4;clear HW0 f hB0;by_cases ha:a=0
 ·subst ha;by_cases h24:n=24
  ·have HF:Hid (G=(4,ByteArray.empty,zeH)):=by
    show _=_;rw[HG.out,afL,if_pos];simp[afB,HN.out,h24]
   have e24:((n:Int)==24)=true:=by simp[h24]
   clear h24;go_wp2;refine bodyPost_ret (v:=.agg #[.int i64 4,.string ⟨#[]⟩,.int i64 0,.int i64 0,.int i64 0]) (by simp[results,results76,go_sem, *]) rfl ⟨by rw[HF.out];rfl,below_put5 HB0.out _ (by omega) _ _ _ _ _⟩
  have e24:((n:Int)==24)=false:=by simp;omega
  have HN24:Hid (l.length≠24):=by
   show _≠_;rw[HN.out];exact h24
  clear h24 r0 r1 r2 r3 r4 f0 f1 f2 f3 f4
  go_wp2_with fail
  refine (hop_has ao n cap c d e l _ (HL.out.later HB0.out)).mono ?_;rintro e5 w1 ⟨rfl,hb1⟩;obtain⟨q,hq⟩:∃q,q=l.any fun x=>hopB ((c,d),e) x:=⟨_,rfl⟩
  have HQ:Hid ((l.any fun x=>heB ((c,d),e) x)=q):=hq.symm;rw[←hq];have HX1:Hid (ABox w w1 0 b c d e):=HX.out.later hb1;obtain⟨hB1,i0,i1,i2,i3,i4,r0,r1,r2,r3,r4,f⟩:=HX1.out;have HB1:Hid (Below w.heap.size w w1):=hB1;have f0:=f 0;have f1:=f 1;have f2:=f 2;have f3:=f 3;have f4:=f 4;clear hq hb1 f hB1;cases q with
  | true =>
    have HF:Hid (G=(4,ByteArray.empty,zeH)):=by
     show _=_;rw[HG.out,afL,if_pos];simp only[afB,HQ.out];simp
    go_wp2;refine bodyPost_ret (v:=.agg #[.int i64 4,.string ⟨#[]⟩,.int i64 0,.int i64 0,.int i64 0]) (by simp[results,results76,go_sem, *]) rfl ⟨by rw[HF.out];rfl,below_put5 HB1.out _ (by omega) _ _ _ _ _⟩
  | false =>
    have HF:Hid (G=(0,b,((c,d),e))):=by
     show _=_;rw[HG.out,afL,if_neg];simp only[afB,HQ.out];simp[HN24.out]
    go_wp2;refine bodyPost_ret (v:=.agg #[.int i64 0,.string b,.int i64 c,.int i64 d,.int i64 e]) (by simp[results,results76,go_sem, *]) rfl ⟨by rw[HF.out],below_put5 HB1.out _ (by omega) _ _ _ _ _⟩
 have HF:Hid (G=(a,b,((c,d),e))):=by
  show _=_;rw[HG.out,afL,if_neg];simp[afB,ha]
 have ea:(a==0)=false:=by simp[ha]
 clear ha;go_wp2;refine bodyPost_ret (v:=.agg #[.int i64 a,.string b,.int i64 c,.int i64 d,.int i64 e]) (by simp[results,results76,go_sem, *]) rfl ⟨by rw[HF.out],below_put5 HB0.out _ (by omega) _ _ _ _ _⟩
theorem infoByte:(Tryz.prog.info? 5).map (fun i=>(i.zero,i.size,i.bytes))=some (some (.int .u8 0),1,1):=by kernel_rfl
theorem liteClone (s:ByteArray)(w:World)(hlim:s.size≤1000000):
 Calls prog 64 #[.string s] w fun e w'=>e=.returned (.string s)∧Below w.heap.size w w':=by
 by_cases h0:s.size=0
 ·have hs:s=⟨#[]⟩:=by
   apply ByteArray.ext
   exact Array.eq_empty_of_size_eq_zero h0
  subst hs;go_enter func64,ntmps64;go_wp2;go_ret;exact⟨rfl,bRQ _ _⟩
 obtain⟨i0,hi,hz0,hz1,hz2⟩:=info_parts infoByte;have hinfo:(Tryz.prog.info? 5).map (·.size)=some 1:=by rw[hi];simp[hz1]
 have hco:Tryz.prog.cellsOf 5=1:=by simp[Program.cellsOf,hi,hz1]
 obtain⟨M,hM⟩:∃M,M=madeCells (Value.int .u8 0).cells (((s.size:Nat):Int).toNat*i0.size):=⟨_,rfl⟩;have hMs:M.size=s.size:=by rw[hM,size_madeCells,hz1];simp
 have hmk:(Instr.makeSlice 95 (.int i64 (s.size:Int)) (.int i64 (s.size:Int))).run prog w=.ok (.slice (some ⟨w.heap.size,0,none⟩) s.size s.size) (w.alloc (.cells M 5)):=by
  have h:=run_make (P:=prog) w 95 5 i0 (.int .u8 0) underlying95 hi hz0 .i64 .i64 (s.size:Int) (s.size:Int) (by omega) (by omega) (by rw[hz2];omega) (by omega);rw[←hM] at h;simpa using h
 clear hM;have hcp:=Lib.run_copy_row_string (P:=prog) (w.alloc (.cells M 5)) 95 9 3 5 w.heap.size 0 s.size s.size s M 5 underlying95 hinfo (heap_alloc_new w _) (nLQ _) (by omega);obtain⟨Y,hY⟩:∃Y,Y=(M.toList.take 0++Lib.byteCells s.data.toList++M.toList.drop (0+s.size)).toArray:=⟨_,rfl⟩;rw[←hY] at hcp;have hYl:Y.toList=Lib.byteCells s.data.toList:=by
  rw[hY,List.toList_toArray,List.take_zero,List.nil_append,List.drop_of_length_le (by rw[Array.length_toList];omega),List.append_nil]
 have hYs:Y.size=s.size:=by rw[←Array.length_toList,hYl,Lib.byteCells_length,←Lib.size_eq]
 have hgY:((w.alloc (.cells M 5)).setRow w.heap.size Y).heap[w.heap.size]?=some (.cells Y 5 (0,0)):=setRow_heap _ _ M _ 5 (0,0) (heap_alloc_new w _);have hne:s.data.toList≠[]:=fun e=>h0 (by rw[Lib.size_eq,e];rfl)
 have hUS:=Lib.run_unsafeString_row (P:=prog) ((w.alloc (.cells M 5)).setRow w.heap.size Y) 181 3 9 5 underlying181 hco w.heap.size Y.size (by unfold World.shape?;rw[hgY]) s.data.toList hne (by rw[←Lib.size_eq];omega) (by rw[←Lib.size_eq];omega)
  (fun j x hx=>Lib.cells_of_row hgY Y.size j _ (by rw[List.take_of_length_le (by rw[Array.length_toList];exact nLQ _),hYl];simp[Lib.byteCells,hx]))
 rw[←Lib.size_eq] at hUS;clear hY;go_enter func64,ntmps64;go_wp2;go_ret;have hb1:Below w.heap.size w (w.alloc (.cells M 5)):=(Below.refl _ w).alloc (nLQ _) _;have hb2:Below w.heap.size (w.alloc (.cells M 5)) ((w.alloc (.cells M 5)).setRow w.heap.size Y):=⟨rfl,rfl,rfl,by simp,fun k hk=>setRow_other _ _ _ _ (by omega)⟩;exact⟨rfl,Lib.below_freeze (hb1.trans hb2) (p:=⟨w.heap.size,0,none⟩) (nLQ _) _⟩
theorem clone_any (s:ByteArray)(w:World)(hlim:s.size≤1000000):
 Calls prog 31 #[.string s] w fun e w'=>e=.returned (.string s)∧Below w.heap.size w w':=by
 go_enter func31,ntmps31
 go_wp2_with fail
 refine (liteClone s _ hlim).mono ?_;rintro e w1 ⟨rfl,hb1⟩;go_wp2;go_ret;exact⟨rfl,hb1⟩
end
end Go.Proofs.YtpgjkmefomldfaaGreat
