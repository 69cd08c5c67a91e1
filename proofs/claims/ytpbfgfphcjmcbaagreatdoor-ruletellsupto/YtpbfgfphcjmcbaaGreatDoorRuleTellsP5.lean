/- Contracts and facts on the way to RuleTells, joined into one text: RuleTab2, RuleLook, RuleShad, AsErr, AsErr2, SameNo, RuleTellsCon, RuleTellsLaw, RuleOf, RuleOwn. -/
import Derived.Test.YtpbfgfphcjmcbaaGreatDoorRuleTellsP4
namespace Go.Proofs.YtpbfgfphcjmcbaaGreatDoor
set_option linter.unusedSimpArgs false
set_option linter.unusedVariables false
set_option maxHeartbeats 16000000
set_option maxRecDepth 100000
open Go.Proofs.Tryz
open IntKind (i64)
section
open Go.RowKit
theorem tb_long {L:List Ru}(h:12<L.length):tbN L=4:=by simp[tbN,h]
theorem tb_at {L:List Ru}(h:L.length≤12){k:Nat}(hk:k<L.length){x:Int}(h1:tbTo L (k+1)=x)(h2:x≠0):tbN L=x:=by
 subst h1;rw[tbN,if_neg (by omega)];exact to_le h2 hk
theorem to_bad {L:List Ru}{k:Nat}{r:Ru}(hk:k<L.length)(hr:L[k]=r)(h:tbTo L k=0)(h2:r.n≠0):tbTo L (k+1)=r.n:=by
 rw[tbTo,if_pos h,getD_at hk,hr,if_neg h2]
theorem to_clash {L:List Ru}{k:Nat}{r:Ru}(hk:k<L.length)(hr:L[k]=r)(h:tbTo L k=0)(h2:r.n=0)(h3:(L.take k).any (fun a=>keyB a r)=true):tbTo L (k+1)=7:=by
 rw[tbTo,if_pos h,getD_at hk,hr,if_pos h2,h3];rfl
theorem to_next {L:List Ru}{k:Nat}{r:Ru}(hk:k<L.length)(hr:L[k]=r)(h:tbTo L k=0)(h2:r.n=0)(h3:(L.take k).any (fun a=>keyB a r)=false):tbTo L (k+1)=0:=by
 rw[tbTo,if_pos h,getD_at hk,hr,if_pos h2,h3];rfl
theorem table_some (g o cap n:Nat)(L:List Ru)(w:World)(hc:RAt w g o L)(hn:L.length=n)(hl:n≤12)(hcap:n≤cap)(hcap2:cap≤maxLen):
 Calls prog 16 #[.slice (some ⟨g,o,none⟩) n cap] w fun e w'=>e=.returned (noV (tbN L))∧Below w.heap.size w w':=by
 have HN:Hid (L.length=n):=hn;unfold maxLen at hcap2;clear hn;go_enter func16,ntmps16;go_wp2
 go_loopw [12] (fun i wr=>∃k:Nat,k≤n∧i=.int i64 k∧tbTo L k=0∧Below w.heap.size w wr) (fun i _=>n-(intOf i).toNat)
 case atStart=>exact⟨0,by omega,rfl,rfl,bRQ _ _⟩
 case round =>
  obtain⟨k,hk,rfl,hno,hB⟩:=hrel;have HB:Hid (Below w.heap.size w wr):=hB;have HNO:Hid (tbTo L k=0):=hno;clear hno;by_cases hlt:k<n
  ·obtain⟨p,m,b,q,s,v,hkl,hL,q0,q1,q2,q3,q4,q5⟩:=(hc.later hB).at HN.out hlt;have HL:Hid (L[k]=⟨p,m,b,q,s,v⟩):=hL;have HC6:=C6.new wr p m b q s v 25;have HRT:=((hc.later hB).later ((bRQ _ _).alloc (nLQ _) (Obj.cells #[.int i64 p,.int i64 m,.int i64 b,.int i64 q,.int i64 s,.int i64 v] 25))).take k;have HTL:Hid ((L.take k).length=k):=by show (L.take k).length=k;simp;omega
   have hk2:k≤cap:=by omega
   clear hL hB;by_cases ho:ruN p m b q s v=0
   ·go_wp2_with fail
    refine (ruCheck_any _ _ _ _ _ _ _).mono ?_;rintro e w1 ⟨rfl,hb1⟩;rw[no_ok ho];have HB1:=HB.out.trans (((bRQ _ _).alloc (nLQ _) _).trans (hb1.mono (by simp)) |>.mono HB.out.size);have HC7:=HC6.later hb1;have HR7:=HRT.later hb1;clear hb1 HC6 HRT;cases ho2:(L.take k).any (fun a=>keyB a ⟨p,m,b,q,s,v⟩)
    ·go_wp2_with fail
     refine (containsR_any _ _ _ k _ ⟨p,m,b,q,s,v⟩ (L.take k) _ HR7 HTL.out (by unfold maxLen;omega) (by unfold maxLen;omega) HC7).mono ?_;rintro e w2 ⟨rfl,hb2⟩;rw[ho2];have HB2:=HB1.trans (hb2.mono HB1.size);clear hb2;go_wp2;go_roundw
     case rel=>exact⟨k+1,by omega,by go_num,to_next hkl HL.out HNO.out ho ho2,HB2⟩
     case measure=>simp[intOf];omega
    go_wp2_with fail
    refine (containsR_any _ _ _ k _ ⟨p,m,b,q,s,v⟩ (L.take k) _ HR7 HTL.out (by unfold maxLen;omega) (by unfold maxLen;omega) HC7).mono ?_;rintro e w2 ⟨rfl,hb2⟩;rw[ho2];have HB2:=HB1.trans (hb2.mono HB1.size);clear hb2;go_wp2;go_ret;refine⟨?_,HB2⟩;rw[tb_at (by rw[HN.out];exact hl) hkl (to_clash hkl HL.out HNO.out ho ho2) (by decide)];rfl
   go_wp2_with fail
   refine (ruCheck_any _ _ _ _ _ _ _).mono ?_;rintro e w1 ⟨rfl,hb1⟩;rw[no_ne ho];have HB1:=HB.out.trans (((bRQ _ _).alloc (nLQ _) _).trans (hb1.mono (by simp)) |>.mono HB.out.size);clear hb1;go_wp2;go_ret;refine⟨?_,HB1⟩;rw[tb_at (by rw[HN.out];exact hl) hkl (to_bad hkl HL.out HNO.out ho) ho,no_ne (show Ru.n ⟨p,m,b,q,s,v⟩≠0 from ho)];rfl
  obtain rfl:k=n:=by omega
  go_wp2;go_ret;refine⟨?_,HB.out⟩;have e1:tbN L=0:=by
   rw[tbN,if_neg (by rw[HN.out];omega),HN.out];exact HNO.out
  rw[e1];rfl
theorem table_long (ao:AdQ)(cap n:Nat)(w:World)(hl:12<n):
 Calls prog 16 #[.slice ao n cap] w fun e w'=>e=.returned (.iface 55 (.int i64 4))∧Below w.heap.size w w':=by
 go_enter func16,ntmps16;go_wp2;go_ret;exact⟨rfl,bRQ _ _⟩
theorem table_nil (ao:AdQ)(cap:Nat)(w:World):
 Calls prog 16 #[.slice ao 0 cap] w fun e w'=>e=.returned .nilIface∧Below w.heap.size w w':=by
 go_enter func16,ntmps16;go_wp2
 go_loopw [12] (fun i wr=>i=.int i64 0∧wr=w) (fun i _=>0)
 case atStart=>exact⟨rfl,rfl⟩
 case round =>
  obtain⟨rfl,rfl⟩:=hrel;go_wp2;go_ret;exact⟨rfl,bRQ _ _⟩
theorem table_any (v:Value)(L:List Ru)(w:World)(h:SR w v L):
 Calls prog 16 #[v] w fun e w'=>e=.returned (noV (tbN L))∧Below w.heap.size w w':=by
 rcases h with ⟨ao,cap,rfl,rfl⟩ | ⟨g,o,cap,rfl,h1,h2,hc⟩
 ·exact table_nil ao cap w
 by_cases h12:12<L.length
 ·rw[tb_long h12];exact table_long _ _ _ _ h12
 exact table_some _ _ _ _ L w hc rfl (by omega) h1 h2
def CA (w:World)(g:Nat)(p m b o s v:Int)(w':World):Prop:=
 Below w.heap.size w w'∧w'.cell? ⟨g,0,none⟩=some (.int i64 p)∧w'.cell? ⟨g,1,none⟩=some (.int i64 m)∧w'.cell? ⟨g,2,none⟩=some (.int i64 b) ∧
  w'.cell? ⟨g,3,none⟩=some (.int i64 o)∧w'.cell? ⟨g,4,none⟩=some (.int i64 s)∧w'.cell? ⟨g,5,none⟩=some (.int i64 v)
theorem CA.later {w W W':World}{g:Nat}{p m b o s v:Int}(hb:Below W.heap.size W W')(h:CA w g p m b o s v W):CA w g p m b o s v W':=by
 obtain⟨h0,h1,h2,h3,h4,h5,h6⟩:=h;exact⟨h0.trans (hb.mono h0.size),cell_later hb h1,cell_later hb h2,cell_later hb h3,cell_later hb h4,cell_later hb h5,cell_later hb h6⟩
def CB (w:World)(g:Nat)(p m b o s v:Int)(g' o':Nat)(p' m' b' q' s' v':Int)(w':World):Prop:=
 (Below w.heap.size w w'∧w'.cell? ⟨g,0,none⟩=some (.int i64 p)∧w'.cell? ⟨g,1,none⟩=some (.int i64 m)∧w'.cell? ⟨g,2,none⟩=some (.int i64 b) ∧
  w'.cell? ⟨g,3,none⟩=some (.int i64 o)∧w'.cell? ⟨g,4,none⟩=some (.int i64 s)∧w'.cell? ⟨g,5,none⟩=some (.int i64 v)) ∧
 w'.cell? ⟨g',o',none⟩=some (.int i64 p')∧w'.cell? ⟨g',o'+1,none⟩=some (.int i64 m')∧w'.cell? ⟨g',o'+2,none⟩=some (.int i64 b') ∧
  w'.cell? ⟨g',o'+3,none⟩=some (.int i64 q')∧w'.cell? ⟨g',o'+4,none⟩=some (.int i64 s')∧w'.cell? ⟨g',o'+5,none⟩=some (.int i64 v')
theorem CB.later {w W W':World}{g:Nat}{p m b o s v:Int}{g' o':Nat}{p' m' b' q' s' v':Int}(hb:Below W.heap.size W W')(h:CB w g p m b o s v g' o' p' m' b' q' s' v' W):CB w g p m b o s v g' o' p' m' b' q' s' v' W':=by
 obtain⟨h0,h1,h2,h3,h4,h5,h6⟩:=h;exact⟨CA.later hb h0,cell_later hb h1,cell_later hb h2,cell_later hb h3,cell_later hb h4,cell_later hb h5,cell_later hb h6⟩
def cntB (m b h x y:Int):Bool:=hasB m b h&&(decide (x<0) || decide (0<y))
theorem be_next {L:List Ru}{h:Int}{k:Nat}(x:Int)(hx:x=beTo L h k)(y:Bool)(hy:((L.getD k zeR).has h&&(decide (x<0) || decide (0<ordR (L.getD k zeR) (L.getD x.toNat zeR))))=y):beTo L h (k+1)=if y then (k:Int) else x:=by
 subst hx;rw[beTo,hy]
theorem counting_some (g o cap n:Nat)(h:Int)(L:List Ru)(w:World)(hc:RAt w g o L)(hn:L.length=n)(hcap2:n≤maxLen):
 Calls prog 42 #[.slice (some ⟨g,o,none⟩) n cap,.int i64 h] w fun e w'=>e=.returned (.int i64 (beTo L h n))∧Below w.heap.size w w':=by
 have HN:Hid (L.length=n):=hn;unfold maxLen at hcap2;clear hn;go_enter func42,ntmps42;go_wp2
 go_loopw [5,10] (fun x i wr=>∃k:Nat,k≤n∧x=.int i64 (beTo L h k)∧i=.int i64 k∧Below w.heap.size w wr) (fun _ i _=>n-(intOf i).toNat)
 case atStart=>exact⟨0,by omega,rfl,rfl,bRQ _ _⟩
 case round =>
  obtain⟨k,hk,rfl,rfl,hB⟩:=hrel;have hbd:=be_bd L h k
  generalize hx:beTo L h k=x at *
  have HX:Hid (x=beTo L h k):=hx.symm;obtain⟨x0,x1⟩:=hbd;clear hx;have HB:Hid (Below w.heap.size w wr):=hB;by_cases hlt:k<n
  ·obtain⟨p,m,b,q,s,v,hkl,hL,q0,q1,q2,q3,q4,q5⟩:=(hc.later hB).at HN.out hlt;have HK:Hid (L.getD k zeR=⟨p,m,b,q,s,v⟩):=(getD_at hkl).trans hL;have HA:Hid (CA wr wr.heap.size p m b q s v (wr.alloc (.cells #[.int i64 p,.int i64 m,.int i64 b,.int i64 q,.int i64 s,.int i64 v] 25))):=by
    refine⟨(bRQ _ _).alloc (nLQ _) _,?_,?_,?_,?_,?_,?_⟩ <;> simp
   have HCC:Hid (RAt wr g o L):=hc.later hB;clear hL hB;go_upto_region 5 with fail;clear q0 q1 q2 q3 q4 q5
   go_cut [10,31] from 10 to 33 (fun i c w'=>i=.int i64 k∧c=.bool (cntB m b h x (ordR ⟨p,m,b,q,s,v⟩ (L.getD x.toNat zeR)))∧Below wr.heap.size wr w')
   case first =>
    have hS0:=HA.out;clear HA;have HW0:Hid (Below wr.heap.size wr (wr.alloc (.cells #[.int i64 p,.int i64 m,.int i64 b,.int i64 q,.int i64 s,.int i64 v] 25))):=(bRQ _ _).alloc (nLQ _) _;have HW0:Hid (Below wr.heap.size wr (wr.alloc (.cells #[.int i64 p,.int i64 m,.int i64 b,.int i64 q,.int i64 s,.int i64 v] 25))):=(bRQ _ _).alloc (nLQ _) _
    generalize (wr.alloc (.cells #[.int i64 p,.int i64 m,.int i64 b,.int i64 q,.int i64 s,.int i64 v] 25))=W0 at *
    cases hh:hasB m b h
    ·refine wp_region_quiet (C:=CA wr wr.heap.size p m b q s v) (by kernel_rfl) (by kernel_rfl) (CA.later (W:=W0) (Below.drew (bRQ _ _)) hS0) ?_;simp only[List.toList_toArray];go_big_quiet_want;refine qv (.pointer (some ⟨wr.heap.size,1,none⟩)) ?_ ?_
     ·rintro w' ⟨z0,z1,z2,z3,z4,z5,z6⟩;go_simp
     simp only[Act.put,AP];go_big_quiet_on;go_big_quiet_want;refine qv (.agg #[.int i64 m,.int i64 b]) ?_ ?_
     ·rintro w' ⟨z0,z1,z2,z3,z4,z5,z6⟩;go_simp
     simp only[Act.put,AP];go_big_quiet_on;go_big_quiet_want;refine qv (.int i64 h) ?_ ?_
     ·rintro w' ⟨z0,z1,z2,z3,z4,z5,z6⟩;go_simp
     simp only[Act.put,AP];go_big_quiet_on;go_big_quiet_want;refine quiet_call (f:=37) (args:=#[.agg #[.int i64 m,.int i64 b],.int i64 h]) (v:=.bool false) (fun w'=>?_) (fun w' hC=>(has_any m b h w').mono (fun e w2 h2=>⟨by rw[h2.1,hh],CA.later h2.2 hC⟩)) ?_
     ·go_simp
     simp only[Act.put,AP];go_big_quiet_on;go_big_quiet_want;refine qv (.bool false) ?_ ?_
     ·rintro w' ⟨z0,z1,z2,z3,z4,z5,z6⟩;go_simp
     simp only[Act.put,AP];go_big_quiet_on;go_big_quiet_skip;go_big_quiet_skip;go_big_quiet_skip;go_big_quiet_skip;go_big_quiet_skip;go_big_quiet_skip;go_big_quiet_skip;go_big_quiet_skip;go_big_quiet_skip;go_big_quiet_skip;go_big_quiet_skip;go_big_quiet_want;refine qv (.bool false) ?_ ?_
     ·rintro w' ⟨z0,z1,z2,z3,z4,z5,z6⟩;go_simp
     simp only[Act.put,AP];go_big_quiet_on;refine wpQuiet_nil ?_;intro w' hC
     go_wp2_with fail
     go_meet
     case rel=>exact⟨rfl,by simp[cntB,hh],hC.1⟩
    by_cases hx0:x<0
    ·have hx1:decide (x<0)=true:=by simpa using hx0
     refine wp_region_quiet (C:=CA wr wr.heap.size p m b q s v) (by kernel_rfl) (by kernel_rfl) (CA.later (W:=W0) (Below.drew (bRQ _ _)) hS0) ?_;simp only[List.toList_toArray];go_big_quiet_want;refine qv (.pointer (some ⟨wr.heap.size,1,none⟩)) ?_ ?_
     ·rintro w' ⟨z0,z1,z2,z3,z4,z5,z6⟩;go_simp
     simp only[Act.put,AP];go_big_quiet_on;go_big_quiet_want;refine qv (.agg #[.int i64 m,.int i64 b]) ?_ ?_
     ·rintro w' ⟨z0,z1,z2,z3,z4,z5,z6⟩;go_simp
     simp only[Act.put,AP];go_big_quiet_on;go_big_quiet_want;refine qv (.int i64 h) ?_ ?_
     ·rintro w' ⟨z0,z1,z2,z3,z4,z5,z6⟩;go_simp
     simp only[Act.put,AP];go_big_quiet_on;go_big_quiet_want;refine quiet_call (f:=37) (args:=#[.agg #[.int i64 m,.int i64 b],.int i64 h]) (v:=.bool true) (fun w'=>?_) (fun w' hC=>(has_any m b h w').mono (fun e w2 h2=>⟨by rw[h2.1,hh],CA.later h2.2 hC⟩)) ?_
     ·go_simp
     simp only[Act.put,AP];go_big_quiet_on;go_big_quiet_want;refine qv (.bool true) ?_ ?_
     ·rintro w' ⟨z0,z1,z2,z3,z4,z5,z6⟩;go_simp
     simp only[Act.put,AP];go_big_quiet_on;go_big_quiet_want;refine qv (.int i64 x) ?_ ?_
     ·rintro w' ⟨z0,z1,z2,z3,z4,z5,z6⟩;go_simp
     simp only[Act.put,AP];go_big_quiet_on;go_big_quiet_want;refine qv (.bool true) ?_ ?_
     ·rintro w' ⟨z0,z1,z2,z3,z4,z5,z6⟩;go_simp
     simp only[Act.put,AP];go_big_quiet_on;go_big_quiet_want;refine qv (.bool true) ?_ ?_
     ·rintro w' ⟨z0,z1,z2,z3,z4,z5,z6⟩;go_simp
     simp only[Act.put,AP];go_big_quiet_on;go_big_quiet_skip;go_big_quiet_skip;go_big_quiet_skip;go_big_quiet_skip;go_big_quiet_skip;go_big_quiet_skip;go_big_quiet_skip;go_big_quiet_want;refine qv (.bool true) ?_ ?_
     ·rintro w' ⟨z0,z1,z2,z3,z4,z5,z6⟩;go_simp
     simp only[Act.put,AP];go_big_quiet_on;go_big_quiet_want;refine qv (.bool true) ?_ ?_
     ·rintro w' ⟨z0,z1,z2,z3,z4,z5,z6⟩;go_simp
     simp only[Act.put,AP];go_big_quiet_on;refine wpQuiet_nil ?_;intro w' hC
     go_wp2_with fail
     go_meet
     case rel=>exact⟨rfl,by simp[cntB,hh,hx0],hC.1⟩
    obtain⟨y,hy⟩:∃y:Nat,x=(y:Int):=⟨x.toNat,by omega⟩;have hx2:decide ((y:Int)<0)=false:=by simp
    subst hy;obtain⟨p2,m2,b2,q2,s2,v2,hyl,hLy,y0,y1,y2,y3,y4,y5⟩:=HCC.out.at HN.out (show y<n by omega);have HYL:Hid (L.getD ((y:Nat):Int).toNat zeR=⟨p2,m2,b2,q2,s2,v2⟩):=by
     show L.getD ((y:Nat):Int).toNat zeR=_;rw[Int.toNat_natCast,getD_at hyl,hLy]
    have yb0:(0:Int)≤(y:Int):=by omega
    have yb1:((y:Int))<(n:Int):=by omega
    have hS1:CB wr wr.heap.size p m b q s v g (o+y*6) p2 m2 b2 q2 s2 v2 W0:=⟨hS0,cell_later HW0.out y0,cell_later HW0.out y1,cell_later HW0.out y2,cell_later HW0.out y3,cell_later HW0.out y4,cell_later HW0.out y5⟩;clear y0 y1 y2 y3 y4 y5 hLy hS0;have hS0:=hS1;clear hS1;refine wp_region_quiet (C:=CB wr wr.heap.size p m b q s v g (o+y*6) p2 m2 b2 q2 s2 v2) (by kernel_rfl) (by kernel_rfl) (CB.later (W:=W0) (Below.drew (bRQ _ _)) hS0) ?_;simp only[List.toList_toArray];go_big_quiet_want;refine qv (.pointer (some ⟨wr.heap.size,1,none⟩)) ?_ ?_
    ·rintro w' ⟨⟨z0,z1,z2,z3,z4,z5,z6⟩,y1,y2,y3,y4,y5,y6⟩;go_simp
    simp only[Act.put,AP];go_big_quiet_on;go_big_quiet_want;refine qv (.agg #[.int i64 m,.int i64 b]) ?_ ?_
    ·rintro w' ⟨⟨z0,z1,z2,z3,z4,z5,z6⟩,y1,y2,y3,y4,y5,y6⟩;go_simp
    simp only[Act.put,AP];go_big_quiet_on;go_big_quiet_want;refine qv (.int i64 h) ?_ ?_
    ·rintro w' ⟨⟨z0,z1,z2,z3,z4,z5,z6⟩,y1,y2,y3,y4,y5,y6⟩;go_simp
    simp only[Act.put,AP];go_big_quiet_on;go_big_quiet_want;refine quiet_call (f:=37) (args:=#[.agg #[.int i64 m,.int i64 b],.int i64 h]) (v:=.bool true) (fun w'=>?_) (fun w' hC=>(has_any m b h w').mono (fun e w2 h2=>⟨by rw[h2.1,hh],CB.later h2.2 hC⟩)) ?_
    ·go_simp
    simp only[Act.put,AP];go_big_quiet_on;go_big_quiet_want;refine qv (.bool true) ?_ ?_
    ·rintro w' ⟨⟨z0,z1,z2,z3,z4,z5,z6⟩,y1,y2,y3,y4,y5,y6⟩;go_simp
    simp only[Act.put,AP];go_big_quiet_on;go_big_quiet_want;refine qv (.int i64 (y:Int)) ?_ ?_
    ·rintro w' ⟨⟨z0,z1,z2,z3,z4,z5,z6⟩,y1,y2,y3,y4,y5,y6⟩;go_simp
    simp only[Act.put,AP];go_big_quiet_on;go_big_quiet_want;refine qv (.bool false) ?_ ?_
    ·rintro w' ⟨⟨z0,z1,z2,z3,z4,z5,z6⟩,y1,y2,y3,y4,y5,y6⟩;go_simp
    simp only[Act.put,AP];go_big_quiet_on;go_big_quiet_want;refine qv (.bool false) ?_ ?_
    ·rintro w' ⟨⟨z0,z1,z2,z3,z4,z5,z6⟩,y1,y2,y3,y4,y5,y6⟩;go_simp
    simp only[Act.put,AP];go_big_quiet_on;go_big_quiet_want;refine qv (.agg #[.int i64 p,.int i64 m,.int i64 b,.int i64 q,.int i64 s,.int i64 v]) ?_ ?_
    ·rintro w' ⟨⟨z0,z1,z2,z3,z4,z5,z6⟩,y1,y2,y3,y4,y5,y6⟩;go_simp
    simp only[Act.put,AP];go_big_quiet_on;go_big_quiet_want;refine qv (.slice (some ⟨g,o,none⟩) n cap) ?_ ?_
    ·rintro w' ⟨⟨z0,z1,z2,z3,z4,z5,z6⟩,y1,y2,y3,y4,y5,y6⟩;go_simp
    simp only[Act.put,AP];go_big_quiet_on;go_big_quiet_want;refine qv (.int i64 (y:Int)) ?_ ?_
    ·rintro w' ⟨⟨z0,z1,z2,z3,z4,z5,z6⟩,y1,y2,y3,y4,y5,y6⟩;go_simp
    simp only[Act.put,AP];go_big_quiet_on;go_big_quiet_want;refine qv (.pointer (some ⟨g,o+y*6,none⟩)) ?_ ?_
    ·rintro w' ⟨⟨z0,z1,z2,z3,z4,z5,z6⟩,y1,y2,y3,y4,y5,y6⟩;go_simp
    simp only[Act.put,AP];go_big_quiet_on;go_big_quiet_want;refine qv (.agg #[.int i64 p2,.int i64 m2,.int i64 b2,.int i64 q2,.int i64 s2,.int i64 v2]) ?_ ?_
    ·rintro w' ⟨⟨z0,z1,z2,z3,z4,z5,z6⟩,y1,y2,y3,y4,y5,y6⟩;go_simp
    simp only[Act.put,AP];go_big_quiet_on;go_big_quiet_want;refine quiet_call (f:=50) (args:=#[.agg #[.int i64 p,.int i64 m,.int i64 b,.int i64 q,.int i64 s,.int i64 v],.agg #[.int i64 p2,.int i64 m2,.int i64 b2,.int i64 q2,.int i64 s2,.int i64 v2]]) (v:=.int i64 (ordN p m b p2 m2 b2)) (fun w'=>?_) (fun w' hC=>(order_any p m b q s v p2 m2 b2 q2 s2 v2 w').mono (fun e w2 h2=>⟨h2.1,CB.later h2.2 hC⟩)) ?_
    ·go_simp
    simp only[Act.put,AP];go_big_quiet_on;go_big_quiet_want;refine qv (.bool (decide (0<ordN p m b p2 m2 b2))) ?_ ?_
    ·rintro w' ⟨⟨z0,z1,z2,z3,z4,z5,z6⟩,y1,y2,y3,y4,y5,y6⟩;go_simp
    simp only[Act.put,AP];go_big_quiet_on;go_big_quiet_want;refine qv (.bool (decide (0<ordN p m b p2 m2 b2))) ?_ ?_
    ·rintro w' ⟨⟨z0,z1,z2,z3,z4,z5,z6⟩,y1,y2,y3,y4,y5,y6⟩;go_simp
    simp only[Act.put,AP];go_big_quiet_on;go_big_quiet_want;refine qv (.bool (decide (0<ordN p m b p2 m2 b2))) ?_ ?_
    ·rintro w' ⟨⟨z0,z1,z2,z3,z4,z5,z6⟩,y1,y2,y3,y4,y5,y6⟩;go_simp
    simp only[Act.put,AP];go_big_quiet_on;refine wpQuiet_nil ?_;intro w' hC
    go_wp2_with fail
    go_meet
    case rel=>exact⟨rfl,by rw[HYL.out];simp[cntB,hh,hx2,ordR];first | rfl | exact decide_eq_decide.2 Iff.rfl,hC.1.1⟩
   case rest =>
    obtain⟨rfl,hc2,hB2⟩:=hcut;have HB1:=HB.out.trans (hB2.mono HB.out.size);have HY:=be_next (L:=L) (h:=h) (k:=k) x HX.out _ rfl;rw[HK.out] at HY;have HYY:Hid (beTo L h (k+1)=if cntB m b h x (ordR ⟨p,m,b,q,s,v⟩ (L.getD x.toNat zeR)) then (k:Int) else x):=HY;clear HY hB2 HA HCC
    generalize cntB m b h x (ordR ⟨p,m,b,q,s,v⟩ (L.getD x.toNat zeR))=Y at *
    subst hc2;cases Y
    ·go_wp2;go_roundw
     case rel=>exact⟨k+1,by omega,by rw[HYY.out];rfl,by go_num,HB1⟩
     case measure=>simp[intOf];omega
    go_wp2;go_roundw
    case rel=>exact⟨k+1,by omega,by rw[HYY.out];rfl,by go_num,HB1⟩
    case measure=>simp[intOf];omega
  obtain rfl:k=n:=by omega
  go_wp2;go_ret;exact⟨by rw[←HX.out];rfl,HB.out⟩
theorem counting_nil (ao:AdQ)(cap:Nat)(h:Int)(w:World):
 Calls prog 42 #[.slice ao 0 cap,.int i64 h] w fun e w'=>e=.returned (.int i64 (-1))∧Below w.heap.size w w':=by
 go_enter func42,ntmps42;go_wp2
 go_loopw [5,10] (fun x i wr=>x=.int i64 (-1)∧i=.int i64 0∧wr=w) (fun _ i _=>0)
 case atStart=>exact⟨rfl,rfl,rfl⟩
 case round =>
  obtain⟨rfl,rfl,rfl⟩:=hrel;go_wp2;go_ret;exact⟨rfl,bRQ _ _⟩
theorem counting_any (x:Value)(L:List Ru)(h:Int)(w:World)(hs:SR w x L):
 Calls prog 42 #[x,.int i64 h] w fun e w'=>e=.returned (.int i64 (beTo L h L.length))∧Below w.heap.size w w':=by
 rcases hs with ⟨ao,cap,rfl,rfl⟩ | ⟨g,o,cap,rfl,h1,h2,hc⟩
 ·exact counting_nil ao cap h w
 exact counting_some g o cap _ h L w hc rfl (Nat.le_trans h1 h2)
theorem lookup_any (x:Value)(L:List Ru)(h:Int)(w:World)(hs:SR w x L):
 Calls prog 20 #[x,.int i64 h] w fun e w'=>e=.returned (.tuple #[.int i64 (luI L h),noV (luN L h)])∧Below w.heap.size w w':=by
 by_cases ht:tbN L=0
 ·cases hh:hdrB h
  ·have e1:luN L h=1:=by simp[luN,ht,hh]
   have e2:luI L h=0:=by simp[luI,e1]
   rw[e2,e1];clear e1 e2;go_enter func20,ntmps20
   go_wp2_with fail
   refine (table_any x L _ hs).mono ?_;rintro e w1 ⟨rfl,hb1⟩;rw[no_ok ht]
   go_wp2_with fail
   refine (isHeader_no _ _ hh).mono ?_;rintro e w' ⟨rfl,rfl⟩;go_wp2;refine bodyPost_ret (v:=.tuple #[.int i64 0,.iface 55 (.int i64 1)]) (by simp[results,results20,go_sem]) rfl ⟨rfl,?_⟩;exact hb1
  by_cases hb:beTo L h L.length<0
  ·have e1:luN L h=5:=by simp[luN,ht,hh,hb]
   have e2:luI L h=0:=by simp[luI,e1]
   rw[e2,e1];clear e1 e2;have hb3:decide (0≤beTo L h L.length)=false:=by simp;omega
   go_enter func20,ntmps20
   go_wp2_with fail
   refine (table_any x L _ hs).mono ?_;rintro e w1 ⟨rfl,hb1⟩;rw[no_ok ht];have hs1:=hs.later hb1
   go_wp2_with fail
   refine (isHeader_yes _ _ hh).mono ?_;rintro e w' ⟨rfl,rfl⟩
   go_wp2_with fail
   refine (counting_any x L h _ hs1).mono ?_;rintro e w2 ⟨rfl,hb2⟩;go_wp2;refine bodyPost_ret (v:=.tuple #[.int i64 0,.iface 55 (.int i64 5)]) (by simp[results,results20,go_sem]) rfl ⟨rfl,?_⟩;exact hb1.trans (hb2.mono hb1.size)
  have e1:luN L h=0:=by simp[luN,ht,hh,hb]
  have e2:luI L h=beTo L h L.length:=by simp[luI,e1]
  rw[e2,e1];clear e1 e2;have hb3:decide (0≤beTo L h L.length)=true:=by simp;omega
  go_enter func20,ntmps20
  go_wp2_with fail
  refine (table_any x L _ hs).mono ?_;rintro e w1 ⟨rfl,hb1⟩;rw[no_ok ht];have hs1:=hs.later hb1
  go_wp2_with fail
  refine (isHeader_yes _ _ hh).mono ?_;rintro e w' ⟨rfl,rfl⟩
  go_wp2_with fail
  refine (counting_any x L h _ hs1).mono ?_;rintro e w2 ⟨rfl,hb2⟩;go_wp2;refine bodyPost_ret (v:=.tuple #[.int i64 (beTo L h L.length),.nilIface]) (by simp[results,results20,go_sem]) rfl ⟨rfl,?_⟩;exact hb1.trans (hb2.mono hb1.size)
 have e1:luN L h=tbN L:=by simp[luN,ht]
 have e2:luI L h=0:=by simp[luI,e1,ht]
 rw[e2,e1,no_ne ht];clear e1 e2;go_enter func20,ntmps20
 go_wp2_with fail
 refine (table_any x L _ hs).mono ?_;rintro e w1 ⟨rfl,hb1⟩;rw[no_ne ht];go_wp2;refine bodyPost_ret (v:=.tuple #[.int i64 0,.iface 55 (.int i64 (tbN L))]) (by simp[results,results20,go_sem]) rfl ⟨rfl,?_⟩;exact hb1
structure CN (w:World)(B:Nat)(L:List Ru)(k:Nat)(w':World):Prop where
 below:Below w.heap.size w w'
 le:w.heap.size≤B
 lt:B<w'.heap.size
 c:∀j,j<12→w'.cell? ⟨B,j,none⟩=some (.bool (shB L j k))
 f:∀j,w'.frozen? ⟨B,j,none⟩=false
theorem CN.later {w w1 w2:World}{B k:Nat}{L:List Ru}(h:CN w B L k w1)(hb:Below w1.heap.size w1 w2):CN w B L k w2:=
 ⟨h.below.trans (hb.mono h.below.size),h.le,Nat.lt_of_lt_of_le h.lt hb.size,fun j hj=>cell_later hb (h.c j hj),fun j=>(hb.frozen (p:=⟨B,j,none⟩) h.lt).trans (h.f j)⟩
theorem CN.grow {w w1 w2:World}{B k:Nat}{L:List Ru}(h:CN w B L k w1)(hb:Below (B+1) w1 w2):CN w B L k w2:=
 ⟨h.below.trans (hb.mono (by have:=h.le;omega)),h.le,Nat.lt_of_lt_of_le h.lt hb.size,fun j hj=>(hb.cell (p:=⟨B,j,none⟩) (by simp)).trans (h.c j hj),fun j=>(hb.frozen (p:=⟨B,j,none⟩) (by simp)).trans (h.f j)⟩
theorem CN.next {w w1:World}{B k:Nat}{L:List Ru}(h:CN w B L k w1)(hb:beTo L (k:Int) L.length<0):CN w B L (k+1) w1:=
 ⟨h.below,h.le,h.lt,fun j hj=>by
  rw[h.c j hj,shB_next,show (beTo L (k:Int) L.length==(j:Int))=false by simp;omega,Bool.or_false],h.f⟩
theorem CN.set {w w1:World}{B k y:Nat}{L:List Ru}(h:CN w B L k w1)(hb:beTo L (k:Int) L.length=(y:Int))(hy:y<12):CN w B L (k+1) (w1.setCell ⟨B,y,none⟩ (.bool true)):=by
 refine⟨h.below.setCell (by simpa using h.le) _,h.le,by simpa using h.lt,fun j hj=>?_,fun j=>by simpa using h.f j⟩;rw[shB_next,hb];by_cases e:j=y
 ·subst e;rw[World.cell?_setCell_same _ _ _ (h.c j hj)];simp
 rw[World.cell?_setCell_other _ _ _ _ (by first | (simp;done) | (simp;omega)),h.c j hj];rw[show (((y:Nat):Int)==(j:Int))=false by simp;omega,Bool.or_false]
theorem SR.shape {w:World}{v:Value}{L:List Ru}(h:SR w v L):∃ao cap,v=.slice ao L.length cap:=by
 rcases h with ⟨ao,cap,rfl,rfl⟩ | ⟨g,o,cap,rfl,_⟩
 ·exact⟨ao,cap,rfl⟩
 exact⟨_,cap,rfl⟩
theorem CN.start {w w1:World}(L:List Ru)(t:TypeId)(hb:Below w.heap.size w w1):
 CN w w1.heap.size L 0 (w1.alloc (.cells #[.bool false,.bool false,.bool false,.bool false,.bool false,.bool false,.bool false,.bool false,.bool false,.bool false,.bool false,.bool false] t)):=by
 refine⟨hb.alloc hb.size _,hb.size,by simp,fun j hj=>?_,fun j=>by simp⟩
 rcases (by omega:j=0∨j=1∨j=2∨j=3∨j=4∨j=5∨j=6∨j=7∨j=8∨j=9∨j=10∨j=11) with rfl | rfl | rfl | rfl | rfl | rfl | rfl | rfl | rfl | rfl | rfl | rfl <;> simp[sh_0]
theorem de_hit {L:List Ru}{k:Nat}(h:shB L k 16=true):deTo L (k+1)=deTo L k:=by rw[deTo,if_pos h]
theorem de_miss {L:List Ru}{k:Nat}(h:shB L k 16=false):deTo L (k+1)=deTo L k++[(k:Int)]:=by rw[deTo,if_neg (by rw[h];exact Bool.false_ne_true)]
theorem shadowed_any (x:Value)(L:List Ru)(w:World)(hs:SR w x L):
 Calls prog 18 #[x] w fun e w'=>∃v,e=.returned (.tuple #[v,noV (tbN L)])∧w'.ownsRow w.heap.size 3 1 v (deadL L).length ((deadL L).map (Value.int i64))∧Below w.heap.size w w':=by
 obtain⟨i0,hi,hz0,hz1,hz2⟩:=info_parts infoInt;have HS:Hid (SR w x L):=hs;by_cases ht:tbN L=0
 ·have HD:Hid (deadL L=deTo L L.length):=by show deadL L=deTo L L.length;simp[deadL,ht]
  have hl12:=tb_le ht;obtain⟨ao,cap,rfl⟩:=hs.shape;rw[HD.out,no_ok ht]
  generalize hn:L.length=n at *
  have HN:Hid (L.length=n):=hn;clear hn;go_enter func18,ntmps18
  go_wp2_with fail
  refine (table_any _ L _ HS.out).mono ?_;rintro e w1 ⟨rfl,hb1⟩;rw[no_ok ht];have HC0:Hid (CN w w1.heap.size L 0 (w1.alloc (.cells #[.bool false,.bool false,.bool false,.bool false,.bool false,.bool false,.bool false,.bool false,.bool false,.bool false,.bool false,.bool false] 76))):=CN.start L _ hb1;have hsz0:=hb1.size;clear hb1 hs ht;go_wp2
  go_loopw [15] (fun i wr=>∃k:Nat,k≤16∧i=.int i64 k∧CN w w1.heap.size L k wr) (fun i _=>16-(intOf i).toNat)
  case atStart=>exact⟨0,by omega,rfl,HC0.out⟩
  case round =>
   obtain⟨k,hk,rfl,hC⟩:=hrel;have HC:Hid (CN w w1.heap.size L k wr):=hC;clear hC HC0;by_cases hlt:k<16
   ·go_wp2_with fail
    refine (counting_any _ L _ _ (HS.out.later HC.out.below)).mono ?_;rintro e w2 ⟨rfl,hb2⟩;have hC2:=HC.out.later hb2;have hbd:=be_bd L (k:Int) L.length;clear hb2;by_cases h0:beTo L (k:Int) L.length<0
    ·have hd:decide (0≤beTo L (k:Int) L.length)=false:=by simp;omega
     have HC3:Hid (CN w w1.heap.size L (k+1) w2):=hC2.next h0;clear hC2
     generalize beTo L (k:Int) L.length=X at *
     go_wp2;go_roundw
     case rel=>exact⟨k+1,by omega,by go_num,HC3.out⟩
     case measure=>simp[intOf];omega
    obtain⟨y,hy⟩:∃y:Nat,beTo L (k:Int) L.length=(y:Int):=⟨(beTo L (k:Int) L.length).toNat,by omega⟩;have hN:=HN.out;have hy12:y<12:=by omega
    have hyb:(y:Int)<12:=by omega
    have HC3:Hid (CN w w1.heap.size L (k+1) (w2.setCell ⟨w1.heap.size,y,none⟩ (.bool true))):=hC2.set hy hy12;have qc:=hC2.c y hy12;have qf:=hC2.f y;rw[hy];clear hC2 hy h0 hbd hN;go_wp2;go_roundw
    case rel=>exact⟨k+1,by omega,by go_num,HC3.out⟩
    case measure=>simp[intOf];omega
   have HC16:Hid (CN w w1.heap.size L 16 wr):=by
    have e16:k=16:=by omega
    have:=HC.out;rw[e16] at this;exact this
   have hltB:=HC.out.lt;clear HC;go_wp2
   go_loopw [8,28] (fun v i wz=>∃q:Nat,q≤n∧i=.int i64 q∧wz.ownsRow (w1.heap.size+1) 3 1 v (deTo L q).length ((deTo L q).map (Value.int i64))∧CN w w1.heap.size L 16 wz) (fun _ i _=>n-(intOf i).toNat)
   case atStart=>exact⟨0,by omega,rfl,World.ownsRow_nil _ _ _ _,HC16.out⟩
   case round =>
    obtain⟨q,hq,rfl,hown,hC⟩:=hrel;have HCQ:Hid (CN w w1.heap.size L 16 wr):=hC;have HOWN:Hid (wr.ownsRow (w1.heap.size+1) 3 1 u8 (deTo L q).length ((deTo L q).map (Value.int i64))):=hown;have hltQ:=hC.lt;clear hown;by_cases hlt:q<n
    ·have qc:=hC.c q (by omega);have hq12:(q:Int)<12:=by omega
     have hle:=deTo_len L q;clear hC;cases hsb:shB L q 16
     ·have HSB:Hid (shB L q 16=false):=hsb;rw[hsb] at qc;clear hsb
      go_wp2_with (at_builtin;refine wpList_append_own _ rfl _ _ 47 rfl (w1.heap.size+1) 3 i0 (.int i64 0) 1 8 underlying47 hi hz0 hz1 hz2 rfl (by decide) _ _ _ rfl (HOWN.out.alloc _) ⟨wr.heap.size,0,none⟩ 1 1 [.int i64 q] rfl rfl ?c1 ?c2 ?c3 ?c4 ?c5 ?_)
      case c1 =>
       intro j u hj
       match j,hj with
       | 0,hj=>simp at hj;subst hj;simp[Addr.add]
      case c2=>intro u hu;simp at hu;subst hu;rfl
      case c3=>unfold maxLen;omega
      case c4=>omega
      case c5=>simp;omega
      intro v' w3 hown3 hgrow _;have HC3:Hid (CN w w1.heap.size L 16 w3):=HCQ.out.grow (((bRQ _ _).alloc (by omega) _).grown hgrow (by simp;omega) (fun g hg=>(HOWN.out.lt g hg).1));clear hgrow;go_wp2;go_roundw
      case rel=>exact⟨q+1,by omega,by go_num,by rw[de_miss HSB.out];simpa using hown3,HC3.out⟩
      case measure=>simp[intOf];omega
     have HSB:Hid (shB L q 16=true):=hsb;rw[hsb] at qc;clear hsb;go_wp2;go_roundw
     case rel=>exact⟨q+1,by omega,by go_num,by rw[de_hit HSB.out];exact HOWN.out,HCQ.out⟩
     case measure=>simp[intOf];omega
    obtain rfl:q=n:=by omega
    clear hC;go_wp2;refine bodyPost_ret (v:=.tuple #[u8,.nilIface]) (by simp[results,results18,go_sem]) rfl ⟨u8,rfl,own_mono HOWN.out (by omega),HCQ.out.below⟩
 have HD:Hid (deadL L=[]):=by show deadL L=[];simp[deadL,ht]
 rw[HD.out,no_ne ht];go_enter func18,ntmps18
 go_wp2_with fail
 refine (table_any _ L _ HS.out).mono ?_;rintro e w1 ⟨rfl,hb1⟩;rw[no_ne ht];go_wp2;refine bodyPost_ret (v:=.tuple #[.slice none 0 0,.iface 55 (.int i64 (tbN L))]) (by simp[results,results18,go_sem]) rfl ⟨_,rfl,World.ownsRow_nil _ _ _ _,hb1⟩
end
section
open Go.RowKit Go.Extern.Stop Go.Stop Go.Extern
def HasErr (w:World):Prop:=w.cell? ⟨0,0,none⟩=some (.iface 106 (.agg #[.pointer (some ⟨7,31,none⟩)]))
theorem HasErr.later {w w':World}(h:HasErr w)(hb:Below w.heap.size w w'):HasErr w':=cell_later hb h
theorem HasErr.alloc {w:World}(h:HasErr w)(o:Obj):HasErr (w.alloc o):=h.later ((bRQ _ _).alloc (nLQ _) _)
theorem vOfP (t:Addr)(w:World):(ReflectliteValue.unpack (.iface 78 (.pointer (some t)))).run prog w
 = .ok (.agg #[.pointer (some ⟨7,78,none⟩),.pointer (some ⟨w.heap.size,0,none⟩),.int .u64 150]) (w.alloc (.cells #[.pointer (some t)] 78)):=by kernel_rfl
theorem typeP (a : Addr)(w : World): (ReflectliteValue.methodAny (ReflectliteValue.valueError "reflectlite.Value.Type" 0) (fun t _ _ _ => ReflectliteType.toType t) #[.agg #[.pointer (some ⟨7, 78, none⟩), .pointer (some a), .int .u64 150]]).run prog w
 = .ok (.iface 106 (.agg #[.pointer (some ⟨7,78,none⟩)])) w:=by kernel_rfl
theorem methKind (h : Value)(w : World): (Go.method 273 106 (.agg #[h]) "Kind").run prog w = .ok (101, h) w := by kernel_rfl
theorem kindP (w:World):((ReflectliteType.abiMethod fun t=>Functor.map (fun a:Nat=>Value.int IntKind.u8 (a:Int)) (Rtype.kind t)) #[.pointer (some ⟨7,78,none⟩)]).run prog w=.ok (.int .u8 22) w:=by kernel_rfl
theorem kindE (w:World):((ReflectliteType.abiMethod fun t=>Functor.map (fun a:Nat=>Value.int IntKind.u8 (a:Int)) (Rtype.kind t)) #[.pointer (some ⟨7,55,none⟩)]).run prog w=.ok (.int .u8 2) w:=by kernel_rfl
theorem partsP (a:Addr)(w:World):(ReflectliteValue.parts (.agg #[.pointer (some ⟨7,78,none⟩),.pointer (some a),.int .u64 150])).run prog w=.ok (some (78,a,150)) w:=by kernel_rfl
theorem isNilP (a p:Addr)(W:World)(ha:W.cell? a=some (.pointer (some p))):
 (ReflectliteValue.method (ReflectliteValue.valueError "reflectlite.Value.IsNil" 0) ReflectliteValue.isNil #[.agg #[.pointer (some ⟨7, 78, none⟩), .pointer (some a), .int .u64 150]]).run prog W = .ok (.bool false) W := by
 change Sem.run _ (ReflectliteValue.parts (.agg #[.pointer (some ⟨7,78,none⟩),.pointer (some a),.int .u64 150]) >>= _) _=_
 rw[Sem.run_bind,partsP];simp only[Result.andThen];simp[ReflectliteValue.isNil,loadVar,isAgg,underlying,underlying78,ha,Result.andThen]
theorem methElem (h : Value)(w : World): (Go.method 273 106 (.agg #[h]) "Elem").run prog w = .ok (111, .agg #[h]) w := by kernel_rfl
theorem methImpl (h : Value)(w : World): (Go.method 273 106 (.agg #[h]) "Implements").run prog w = .ok (112, .agg #[h]) w := by kernel_rfl
theorem methAssign (h : Value)(w : World): (Go.method 273 106 (.agg #[h]) "AssignableTo").run prog w = .ok (109, .agg #[h]) w := by kernel_rfl
theorem elemP (w:World):(ReflectliteType.method ReflectliteType.elem #[.agg #[.pointer (some ⟨7,78,none⟩)]]).run prog w=.ok (.iface 106 (.agg #[.pointer (some ⟨7,55,none⟩)])) w:=by kernel_rfl
theorem implE (w : World): (ReflectliteType.relation "Implements" ReflectliteType.implements_ #[.agg #[.pointer (some ⟨7, 55, none⟩)], .iface 106 (.agg #[.pointer (some ⟨7, 31, none⟩)])]).run prog w = .ok (.bool true) w := by kernel_rfl
theorem typeOfE (v:Value)(w:World):(ReflectliteType.typeOf #[.iface 55 v]).run prog w=.ok (.iface 106 (.agg #[.pointer (some ⟨7,55,none⟩)])) w:=by kernel_rfl
theorem assignE (w : World): (ReflectliteType.relation "AssignableTo" ReflectliteType.assignableTo #[.agg #[.pointer (some ⟨7, 55, none⟩)], .iface 106 (.agg #[.pointer (some ⟨7, 55, none⟩)])]).run prog w = .ok (.bool true) w := by kernel_rfl
theorem vOfE (n:Int)(w:World):(ReflectliteValue.unpack (.iface 55 (.int i64 n))).run prog w
 = .ok (.agg #[.pointer (some ⟨7,55,none⟩),.pointer (some ⟨w.heap.size,0,none⟩),.int .u64 130]) (w.alloc (.cells #[.int i64 n] 55)):=by kernel_rfl
theorem elemOfP (w:World):(Rtype.elem? 78).run prog w=.ok (some 55) w:=by kernel_rfl
theorem mkE (p:Addr)(w:World):(ReflectliteValue.mk 55 p ReflectliteValue.flagAddr).run prog w=.ok (.agg #[.pointer (some ⟨7,55,none⟩),.pointer (some p),.int .u64 386]) w:=by kernel_rfl
theorem elemVP (a p:Addr)(W:World)(ha:W.cell? a=some (.pointer (some p))):
 (ReflectliteValue.method (ReflectliteValue.valueError "reflectlite.Value.Elem" 0) ReflectliteValue.elem #[.agg #[.pointer (some ⟨7, 78, none⟩), .pointer (some a), .int .u64 150]]).run prog W
  = .ok (.agg #[.pointer (some ⟨7,55,none⟩),.pointer (some p),.int .u64 386]) W:=by
 change Sem.run _ (ReflectliteValue.parts (.agg #[.pointer (some ⟨7,78,none⟩),.pointer (some a),.int .u64 150]) >>= _) _=_
 rw[Sem.run_bind,partsP];simp only[Result.andThen];simp[ReflectliteValue.elem,loadVar,isAgg,underlying,underlying78,ha,Result.andThen,elemOfP,mkE]
theorem partsEa (a:Addr)(w:World):(ReflectliteValue.parts (.agg #[.pointer (some ⟨7,55,none⟩),.pointer (some a),.int .u64 386])).run prog w=.ok (some (55,a,386)) w:=by kernel_rfl
theorem partsE (a:Addr)(w:World):(ReflectliteValue.parts (.agg #[.pointer (some ⟨7,55,none⟩),.pointer (some a),.int .u64 130])).run prog w=.ok (some (55,a,130)) w:=by kernel_rfl
theorem directE (w:World):(Rtype.directlyAssignable 55 55).run prog w=.ok true w:=by kernel_rfl
theorem setE (ta b:Addr)(n:Int)(old:Value)(W:World)(hb:W.cell? b=some (.int i64 n))(ht:W.cell? ta=some old)(hf:W.frozen? ta=false):
 (ReflectliteValue.set #[.agg #[.pointer (some ⟨7,55,none⟩),.pointer (some ta),.int .u64 386],.agg #[.pointer (some ⟨7,55,none⟩),.pointer (some b),.int .u64 130]]).run prog W
  = .ok (.tuple #[]) (W.setCell ta (.int i64 n)):=by
 change Sem.run _ (ReflectliteValue.parts (.agg #[.pointer (some ⟨7,55,none⟩),.pointer (some ta),.int .u64 386]) >>= _) _=_
 rw[Sem.run_bind,partsEa];simp only[Result.andThen]
 change Sem.run _ (ReflectliteValue.parts (.agg #[.pointer (some ⟨7,55,none⟩),.pointer (some b),.int .u64 130]) >>= _) _=_
 rw[Sem.run_bind,partsE];simp only[Result.andThen];simp[ReflectliteValue.flagAddr,loadVar,isAgg,underlying,underlying55,hb,Result.andThen,directE,storeVar,Value.cells,storeCells,Addr.add];rw[run_store prog W ta _ _ (by rfl)];simp[ht,hf]
theorem as_hit (n:Int)(t:Addr)(old:Value)(w:World)(hg:HasErr w)(ht0:w.cell? t=some old)(hf0:w.frozen? t=false):
 Calls prog 43 #[.iface 55 (.int i64 n),.iface 78 (.pointer (some t))] w fun ev w'=>ev=.returned (.bool true)∧w'=((((w.alloc (.cells #[.pointer (some t)] 78)).alloc (.cells #[.pointer (some ⟨7,78,none⟩),.pointer (some ⟨w.heap.size,0,none⟩),.int .u64 150] 90)).alloc (.cells #[.pointer (some ⟨7,78,none⟩),.pointer (some ⟨w.heap.size,0,none⟩),.int .u64 150] 90)).alloc (.cells #[.int i64 n] 55)).setCell t (.int i64 n):=by
 unfold HasErr at hg;have h6 := @run_callFunc_extern prog 51 _ (fun args=>ReflectliteValue.unpack (args.getD 0 (.tuple #[]))) func51 (by kernel_rfl) (by kernel_rfl) (by kernel_rfl) (by kernel_rfl);have h7 := @run_callFunc_extern prog 52 _ (ReflectliteValue.methodAny (ReflectliteValue.valueError "reflectlite.Value.Type" 0) (fun t _ _ _ => ReflectliteType.toType t)) func52 (by kernel_rfl) (by kernel_rfl) (by kernel_rfl) (by kernel_rfl)
 have h8 := @run_callFunc_extern prog 53 _ (ReflectliteValue.method (ReflectliteValue.valueError "reflectlite.Value.IsNil" 0) ReflectliteValue.isNil) func53 (by kernel_rfl) (by kernel_rfl) (by kernel_rfl) (by kernel_rfl)
 have h27 := @run_callFunc_extern prog 101 _ (ReflectliteType.abiMethod fun t=>do pure (.int .u8 (←Rtype.kind t))) func101 (by kernel_rfl) (by kernel_rfl) (by kernel_rfl) (by kernel_rfl);have h37 := @run_callFunc_extern prog 111 _ (ReflectliteType.method ReflectliteType.elem) func111 (by kernel_rfl) (by kernel_rfl) (by kernel_rfl) (by kernel_rfl);have h38 := @run_callFunc_extern prog 112 _ (ReflectliteType.relation "Implements" ReflectliteType.implements_) func112 (by kernel_rfl) (by kernel_rfl) (by kernel_rfl) (by kernel_rfl)
 have h10 := @run_callFunc_extern prog 61 _ ReflectliteType.typeOf func61 (by kernel_rfl) (by kernel_rfl) (by kernel_rfl) (by kernel_rfl);have h35 := @run_callFunc_extern prog 109 _ (ReflectliteType.relation "AssignableTo" ReflectliteType.assignableTo) func109 (by kernel_rfl) (by kernel_rfl) (by kernel_rfl) (by kernel_rfl)
 have h11 := @run_callFunc_extern prog 62 _ (ReflectliteValue.method (ReflectliteValue.valueError "reflectlite.Value.Elem" 0) ReflectliteValue.elem) func62 (by kernel_rfl) (by kernel_rfl) (by kernel_rfl) (by kernel_rfl)
 have h12 := @run_callFunc_extern prog 63 _ ReflectliteValue.set func63 (by kernel_rfl) (by kernel_rfl) (by kernel_rfl) (by kernel_rfl);have tO:=typeOfE;have mA:=methAssign;have a25:=assignE;have v25:=vOfE;have f6:=vOfP;have f7:=typeP;have mK:=methKind;have mE:=methElem;have mI:=methImpl;have k27:=kindP;have k25:=kindE;have e27:=elemP;have i25:=implE;have hlt:0<w.heap.size:=bLQ _ _ hg;have htl:t.block<w.heap.size:=bLQ _ _ ht0;have n8:=isNilP ⟨w.heap.size,0,none⟩ t ((w.alloc (.cells #[.pointer (some t)] 78)).alloc (.cells #[.pointer (some ⟨7,78,none⟩),.pointer (some ⟨w.heap.size,0,none⟩),.int .u64 150] 90)) (by simp);have hg2:((w.alloc (.cells #[.pointer (some t)] 78)).alloc (.cells #[.pointer (some ⟨7,78,none⟩),.pointer (some ⟨w.heap.size,0,none⟩),.int .u64 150] 90)).cell? ⟨0,0,none⟩=some (.iface 106 (.agg #[.pointer (some ⟨7,31,none⟩)])):=by
  rw[World.cell?_alloc_lt _ _ ⟨0,0,none⟩ (by simp <;> omega),World.cell?_alloc_lt _ _ ⟨0,0,none⟩ hlt];exact hg
 have el:=elemVP ⟨w.heap.size,0,none⟩ t (((w.alloc (.cells #[.pointer (some t)] 78)).alloc (.cells #[.pointer (some ⟨7,78,none⟩),.pointer (some ⟨w.heap.size,0,none⟩),.int .u64 150] 90)).alloc (.cells #[.pointer (some ⟨7,78,none⟩),.pointer (some ⟨w.heap.size,0,none⟩),.int .u64 150] 90)) (by rw[World.cell?_alloc_lt _ _ ⟨w.heap.size,0,none⟩ (by simp;omega)];simp);have st:=setE t ⟨w.heap.size+1+1+1,0,none⟩ n old ((((w.alloc (.cells #[.pointer (some t)] 78)).alloc (.cells #[.pointer (some ⟨7,78,none⟩),.pointer (some ⟨w.heap.size,0,none⟩),.int .u64 150] 90)).alloc (.cells #[.pointer (some ⟨7,78,none⟩),.pointer (some ⟨w.heap.size,0,none⟩),.int .u64 150] 90)).alloc (.cells #[.int i64 n] 55))
  (by rw[World.cell?_alloc_at _ _ _ _ (by simp)];rfl)
  (by rw[World.cell?_alloc_lt _ _ t (by simp;omega),World.cell?_alloc_lt _ _ t (by simp;omega),World.cell?_alloc_lt _ _ t (by simp;omega),World.cell?_alloc_lt _ _ t htl];exact ht0)
  (by rw[World.frozen?_alloc_old _ _ t (by simp;omega),World.frozen?_alloc_old _ _ t (by simp;omega),World.frozen?_alloc_old _ _ t (by simp;omega),World.frozen?_alloc_old _ _ t (Nat.ne_of_lt htl)];exact hf0)
 go_enter func43,ntmps43;go_wp2;refine wp_loop_rounds 1 ?_;rw[rounds_succ];go_wp2;go_ret;exact⟨rfl,rfl⟩
theorem told_nil (w:World):
 Calls prog 22 #[.nilIface] w fun e w'=>e=.returned (.int i64 0)∧Below w.heap.size w w':=by
 go_enter func22,ntmps22;go_wp2;go_ret;exact⟨rfl,bRQ _ _⟩
theorem told_some (n:Int)(w:World)(hg:HasErr w):
 Calls prog 22 #[.iface 55 (.int i64 n)] w fun e w'=>e=.returned (.int i64 n)∧Below w.heap.size w w':=by
 have HG:Hid (HasErr w):=hg;clear hg;go_enter func22,ntmps22
 go_wp2_with fail
 refine (as_hit n _ (.int i64 0) _ (HG.out.alloc _) (by simp) (by simp)).mono ?_;rintro e w' ⟨rfl,rfl⟩;go_wp2;go_ret;refine⟨rfl,?_⟩;exact ((((((bRQ _ _).alloc (nLQ _) _).alloc (by simp) _).alloc (by simp;omega) _).alloc (by simp;omega) _).alloc (by simp;omega) _)
theorem same_nil (k:Int)(w:World):
 Calls prog 5 #[.nilIface,.int i64 k] w fun e w'=>e=.returned (.bool (0==k))∧Below w.heap.size w w':=by
 go_enter func5,ntmps5
 go_wp2_with fail
 refine (told_nil _).mono ?_;rintro e w' ⟨rfl,hb⟩;go_wp2;go_ret;exact⟨rfl,hb⟩
theorem same_some (n k:Int)(w:World)(hg:HasErr w):
 Calls prog 5 #[.iface 55 (.int i64 n),.int i64 k] w fun e w'=>e=.returned (.bool (n==k))∧Below w.heap.size w w':=by
 have HG:Hid (HasErr w):=hg;clear hg;go_enter func5,ntmps5
 go_wp2_with fail
 refine (told_some n _ HG.out).mono ?_;rintro e w' ⟨rfl,hb⟩;go_wp2;go_ret;exact⟨rfl,hb⟩
end
section
open Go.RowKit
theorem same_noV (n:Int)(w:World)(hg:HasErr w):
 Calls prog 5 #[noV n,.int i64 n] w fun e w'=>e=.returned (.bool true)∧Below w.heap.size w w':=by
 by_cases h:n=0
 ·subst h;refine (same_nil _ w).mono ?_;rintro e w' ⟨rfl,hb⟩;exact⟨by simp,hb⟩
 rw[no_ne h];refine (same_some _ _ w hg).mono ?_;rintro e w' ⟨rfl,hb⟩;exact⟨by simp,hb⟩
def wtS (p m b o s v:Int):ByteArray:=if ruN p m b o s v=0 then rsS p m b o s v else ⟨#[]⟩
theorem ok_of_n {p m b o s v:Int}(h:ruN p m b o s v=0):ruOk p m b o s v=true:=by
 cases e:ruOk p m b o s v
 ·exact absurd h (ruN_ne e)
 rfl
theorem print_any (p m b o s v:Int)(w:World):
 Calls prog 8 #[.agg #[.int i64 p,.int i64 m,.int i64 b,.int i64 o,.int i64 s,.int i64 v]] w fun e w'=>e=.returned (.tuple #[.string (wtS p m b o s v),noV (ruN p m b o s v)])∧Below w.heap.size w w':=by
 by_cases h:ruN p m b o s v=0
 ·rw[no_ok h,show wtS p m b o s v=rsS p m b o s v from if_pos h];exact ruPrint_ok _ _ _ _ _ _ w (ok_of_n h)
 rw[no_ne h,show wtS p m b o s v=⟨#[]⟩ from if_neg h];refine ruPrint_bad _ _ _ _ _ _ w ?_;cases e:ruOk p m b o s v
 ·rfl
 exact absurd (ruN_ok e) h
theorem parse_all (s:ByteArray)(w:World)(hs:s.size≤1048576):
 Calls prog 10 #[.string s] w fun e w'=>e=.returned (.tuple #[paV (cutA s),noV (paN (cutA s))])∧Below w.heap.size w w':=by
 obtain⟨h1,h2⟩:=pa_cut s;rw[←h1,←h2];exact ruParse_any s w (by omega)
theorem paV_six (ws:List ByteArray):∃r:Ru,paV ws=.agg #[.int i64 r.p,.int i64 r.m,.int i64 r.b,.int i64 r.o,.int i64 r.s,.int i64 r.v]:=by
 by_cases h:paN ws=0
 ·exact⟨⟨_,_,_,_,_,_⟩,paV_yes h⟩
 exact⟨⟨_,_,_,_,_,_⟩,paV_no h⟩
theorem apN_ne {p m b o s v:Int}(h:Int)(hr:ruN p m b o s v≠0):apN p m b o s v h=ruN p m b o s v:=by
 refine apN_bad h ?_;cases e:ruOk p m b o s v
 ·rfl
 exact absurd (ruN_ok e) hr
theorem apN_hdr {p m b o s v:Int}(h:Int)(hr:ruN p m b o s v=0)(hh:hdrB h=false):apN p m b o s v h=1:=by simp[apN,ok_of_n hr,hh]
theorem apN_none {p m b o s v:Int}(h:Int)(hr:ruN p m b o s v=0)(hh:hdrB h=true)(hx:(hasB m b h && !(o==0))=false):apN p m b o s v h=5:=by simp[apN,ok_of_n hr,hh,hx]
theorem apN_yes {p m b o s v:Int}(h:Int)(hr:ruN p m b o s v=0)(hh:hdrB h=true)(hx:(hasB m b h && !(o==0))=true):apN p m b o s v h=0:=by simp[apN,ok_of_n hr,hh,hx]
theorem tu_apR {p m b o s v h:Int}(h0:apN p m b o s v h=0):(0≤s∧s<16)∧(0≤v∧v<16)∧(0≤h∧h<16)∧tuTo s v h 4=apR p m b o s v h:=by
 obtain⟨h1,h2,_,_⟩:=ap_yes h0;obtain⟨g1,_,g3⟩:=ru_ok h1;obtain⟨_,hs,hv⟩:=ru_in g1;have hh:=hdr_of h2;simp only[ruSet,Bool.and_eq_true] at g3;refine⟨hs,hv,hh,?_⟩;rw[apR,if_pos h0];exact tu_ap hs hv hh g3.1
structure KB (w W:World)(r:Ru):Prop where
 below:Below w.heap.size w W
 lt:w.heap.size<W.heap.size
 c:C6 W w.heap.size 0 r
theorem KB.grow {w W W':World}{r:Ru}(h:KB w W r)(hb:Below (w.heap.size+1) W W'):KB w W' r:=by
 have hc:∀k u,W.cell? ⟨w.heap.size,k,none⟩=some u→W'.cell? ⟨w.heap.size,k,none⟩=some u:=fun k u e=>(hb.cell (p:=⟨w.heap.size,k,none⟩) (by simp)).trans e
 exact⟨h.below.trans (hb.mono (by omega)),Nat.lt_of_lt_of_le h.lt hb.size,⟨hc _ _ h.c.c0,hc _ _ h.c.c1,hc _ _ h.c.c2,hc _ _ h.c.c3,hc _ _ h.c.c4,hc _ _ h.c.c5⟩⟩
theorem KB.later {w W W':World}{r:Ru}(h:KB w W r)(hb:Below W.heap.size W W'):KB w W' r:=h.grow (hb.mono (by have:=h.lt;omega))
theorem KB.alloc {w W:World}{r:Ru}(h:KB w W r)(o:Obj):KB w (W.alloc o) r:=h.later ((bRQ _ _).alloc (nLQ _) o)
structure KX (w W:World)(r x:Ru)(X Y:Nat):Prop where
 kb:KB w W r
 cx:C6 W X 0 x
 cy:C6 W Y 0 x
theorem KX.later {w W W':World}{r x:Ru}{X Y:Nat}(h:KX w W r x X Y)(hb:Below W.heap.size W W'):KX w W' r x X Y:=⟨h.kb.later hb,h.cx.later hb,h.cy.later hb⟩
theorem C6.lt {w:World}{g:Nat}{r:Ru}(h:C6 w g 0 r):g<w.heap.size:=bLQ _ _ h.c0
theorem C6.grow {w w':World}{g B:Nat}{r:Ru}(h:C6 w g 0 r)(hb:Below B w w')(hg:g<B):C6 w' g 0 r:=
 have e:∀k u,w.cell? ⟨g,k,none⟩=some u→w'.cell? ⟨g,k,none⟩=some u:=fun k u e=>(hb.cell (p:=⟨g,k,none⟩) (by simpa using hg)).trans e
 ⟨e _ _ h.c0,e _ _ h.c1,e _ _ h.c2,e _ _ h.c3,e _ _ h.c4,e _ _ h.c5⟩
theorem KX.grow {w W W':World}{r x:Ru}{X Y B:Nat}(h:KX w W r x X Y)(hb:Below B W W')(h0:w.heap.size<B)(hx:X<B)(hy:Y<B):KX w W' r x X Y:=
 ⟨h.kb.grow (hb.mono (by omega)),h.cx.grow hb hx,h.cy.grow hb hy⟩
end
namespace ruleTells
open Go.RowKit
theorem sh_stop {L:List Ru}{i k:Nat}{x:Int}(hx:beTo L (k:Int) L.length=x)(y:Bool)(hy:(x==(i:Int))=y):shB L i (k+1)=(shB L i k || y):=by
 rw[shB_next,hx,hy]
theorem walk (p m b o s v h:Int)(t:ByteArray)(ao:AdQ)(n cap:Nat)(L:List Ru)(w:World)(hs:SR w (.slice ao n cap) L)(ht:t.size≤1048576)(hg:HasErr w):
 Calls prog 3 #[.agg #[.int i64 p,.int i64 m,.int i64 b,.int i64 o,.int i64 s,.int i64 v],.string t,.int i64 h,.slice ao n cap] w fun e w'=>e=.returned (.bool true)∧Below w.heap.size w w':=by
 have HG:Hid (HasErr w):=hg;have HS:Hid (SR w (.slice ao n cap) L):=hs;have HN:Hid (L.length=n):=by
  show L.length=n
  rcases hs with ⟨_,_,e,rfl⟩ | ⟨_,_,_,e,_⟩
  ·simp at e;simp[e]
  simp at e;exact e.2.1.symm
 obtain⟨x6,hx6⟩:=paV_six (cutA t);have HX6:Hid (paV (cutA t)=.agg #[.int i64 x6.p,.int i64 x6.m,.int i64 x6.b,.int i64 x6.o,.int i64 x6.s,.int i64 x6.v]):=hx6;clear hs hg hx6;go_enter func3,ntmps3
 go_wp2_with fail
 refine (refRule_any _ _ _ _ _ _ _).mono ?_;rintro e w1 ⟨rfl,hb1⟩
 generalize hNr:ruN p m b o s v=N
 have HNr:Hid (ruN p m b o s v=N):=hNr;clear hNr;have HK1:Hid (KB w w1 ⟨p,m,b,o,s,v⟩):=
  KB.later (W:=w.alloc (.cells #[.int i64 p,.int i64 m,.int i64 b,.int i64 o,.int i64 s,.int i64 v] 25))
   ⟨(bRQ _ _).alloc (nLQ _) _,by simp,C6.new w p m b o s v _⟩ hb1
 clear hb1;obtain⟨_,lt1,q0,q1,q2,q3,q4,q5⟩:=HK1.out;simp only[Nat.zero_add] at q0 q1 q2 q3 q4 q5
 go_wp2_with fail
 refine (ruCheck_any _ _ _ _ _ _ _).mono ?_;rintro e w2 ⟨rfl,hb2⟩;rw[HNr.out];have HK2:Hid (KB w w2 ⟨p,m,b,o,s,v⟩):=HK1.out.later hb2;clear hb2 lt1 q0 q1 q2 q3 q4 q5
 go_wp2_with fail
 refine (same_noV _ _ (HG.out.later HK2.out.below)).mono ?_;rintro e w3 ⟨rfl,hb3⟩;have HK3:Hid (KB w w3 ⟨p,m,b,o,s,v⟩):=HK2.out.later hb3;clear hb3 HK1 HK2
 go_upto_if 42 with fail
 go_cut [11] from 35 (fun y w'=>y=.string (wtS p m b o s v)∧KB w w' ⟨p,m,b,o,s,v⟩)
 case first =>
  as_aux_lemma =>
   obtain⟨_,lt1,q0,q1,q2,q3,q4,q5⟩:=HK3.out;simp only[Nat.zero_add] at q0 q1 q2 q3 q4 q5;by_cases hN:N=0
   ·subst hN;have HW:Hid (wtS p m b o s v=rsS p m b o s v):=if_pos HNr.out;have HO:Hid (ruOk p m b o s v=true):=ok_of_n HNr.out
    go_wp2_with fail
    refine (showRule_any _ _ _ _ _ _ _ HO.out).mono ?_;rintro e w4 ⟨rfl,hb4⟩;have HK4:Hid (KB w w4 ⟨p,m,b,o,s,v⟩):=HK3.out.later hb4;clear hb4 lt1 q0 q1 q2 q3 q4 q5
    go_wp2_with fail
    go_meet
    case rel=>exact⟨by rw[HW.out],HK4.out⟩
   have HW:Hid (wtS p m b o s v=⟨#[]⟩):=if_neg (by rw[HNr.out];exact hN);have hN2:(N==0)=false:=by simpa using hN
   clear lt1 q0 q1 q2 q3 q4 q5 hN
   go_wp2_with fail
   go_meet
   case rel=>exact⟨by rw[HW.out],HK3.out⟩
 case rest =>
  obtain⟨rfl,hK⟩:=hcut;have HK4:Hid (KB w wc ⟨p,m,b,o,s,v⟩):=hK;clear hK HK3;obtain⟨_,lt1,q0,q1,q2,q3,q4,q5⟩:=HK4.out;simp only[Nat.zero_add] at q0 q1 q2 q3 q4 q5
  go_wp2_with fail
  refine (print_any _ _ _ _ _ _ _).mono ?_;rintro e w5 ⟨rfl,hb5⟩;rw[HNr.out];have HK5:Hid (KB w w5 ⟨p,m,b,o,s,v⟩):=HK4.out.later hb5;clear hb5 lt1 q0 q1 q2 q3 q4 q5
  go_wp2_with fail
  refine (same_noV _ _ (HG.out.later HK5.out.below)).mono ?_;rintro e w6 ⟨rfl,hb6⟩;have HK6:Hid (KB w w6 ⟨p,m,b,o,s,v⟩):=HK5.out.later hb6;clear hb6 HK4 HK5
  go_wp2_with fail
  refine (readRule_any _ _ ht).mono ?_;rintro e w7 ⟨rfl,hb7⟩;rw[HX6.out];have HK7:Hid (KB w w7 ⟨p,m,b,o,s,v⟩):=HK6.out.later hb7;clear hb7 HK6
  go_wp2_with fail
  refine (parse_all _ _ ht).mono ?_;rintro e w8 ⟨rfl,hb8⟩;rw[HX6.out];have HK8:Hid (KX w (w8.alloc (.cells #[.int i64 x6.p,.int i64 x6.m,.int i64 x6.b,.int i64 x6.o,.int i64 x6.s,.int i64 x6.v] 25)) ⟨p,m,b,o,s,v⟩ x6 w7.heap.size w8.heap.size):=
   ⟨((HK7.out.alloc _).later hb8).alloc _,((C6.new w7 x6.p x6.m x6.b x6.o x6.s x6.v _).later hb8).later ((bRQ _ _).alloc (nLQ _) _),C6.new w8 x6.p x6.m x6.b x6.o x6.s x6.v _⟩
  clear hb8 HK7;go_upto_region 10 with fail
  generalize w8.alloc (.cells #[.int i64 x6.p,.int i64 x6.m,.int i64 x6.b,.int i64 x6.o,.int i64 x6.s,.int i64 x6.v] 25)=W8 at *
  generalize w7.heap.size=X at *
  generalize w8.heap.size=Y at *
  go_wp2_with fail
  refine (same_noV _ _ (HG.out.later HK8.out.kb.below)).mono ?_;rintro e w9 ⟨rfl,hb9⟩;have HK9:Hid (KX w w9 ⟨p,m,b,o,s,v⟩ x6 X Y):=HK8.out.later hb9;clear hb9 HK8
  go_wp2_with fail
  refine (header_any _ _).mono ?_;rintro e w' ⟨rfl,hw'⟩
  replace hw':=hw'.symm
  subst hw'
  generalize hH:hdrB h=Hh
  have HH:Hid (hdrB h=Hh):=hH;clear hH;obtain⟨_,lt1,q0,q1,q2,q3,q4,q5⟩:=HK9.out.kb;simp only[Nat.zero_add] at q0 q1 q2 q3 q4 q5
  go_wp2_with fail
  refine (refHas_any _ _ _ _).mono ?_;rintro e w10 ⟨rfl,hb10⟩
  generalize hHb:hasB m b h=Hb
  have HHb:Hid (hasB m b h=Hb):=hHb;clear hHb;have HK10:Hid (KX w w10 ⟨p,m,b,o,s,v⟩ x6 X Y):=HK9.out.later hb10;clear hb10 lt1 q0 q1 q2 q3 q4 q5 HK9;go_upto_region 13 with fail
  go_cut [77] from 35 (fun c w'=>c=.bool ((N==0) && !Hh)∧KX w w' ⟨p,m,b,o,s,v⟩ x6 X Y)
  case first =>
   as_aux_lemma =>
    by_cases hN:N=0
    ·subst hN;cases Hh
     ·go_wp2_with fail
      go_meet
      case rel=>exact⟨rfl,HK10.out⟩
     go_wp2_with fail
     go_meet
     case rel=>exact⟨rfl,HK10.out⟩
    have hN2:(N==0)=false:=by simpa using hN
    clear hN
    go_wp2_with fail
    go_meet
    case rel=>exact⟨by rw[hN2];rfl,HK10.out⟩
  case rest =>
   obtain⟨rfl,hK⟩:=hcut;have HK11:Hid (KX w wc ⟨p,m,b,o,s,v⟩ x6 X Y):=hK;clear hK HK10
   go_upto_if 77 with fail
   go_cut [9] from 35 (fun e w'=>e=.int i64 (apN p m b o s v h)∧KX w w' ⟨p,m,b,o,s,v⟩ x6 X Y)
   case first =>
    as_aux_lemma =>
     obtain⟨_,lt1,q0,q1,q2,q3,q4,q5⟩:=HK11.out.kb;simp only[Nat.zero_add] at q0 q1 q2 q3 q4 q5;by_cases hN:N=0
     ·subst hN;cases Hh
      ·have HA:Hid (apN p m b o s v h=1):=apN_hdr h HNr.out HH.out;clear lt1 q0 q1 q2 q3 q4 q5
       go_wp2_with fail
       go_meet
       case rel=>exact⟨by rw[HA.out],HK11.out⟩
      cases Hb
      ·have HA:Hid (apN p m b o s v h=5):=apN_none h HNr.out HH.out (by rw[HHb.out];rfl)
       go_wp2_with fail
       go_meet
       case rel=>exact⟨by rw[HA.out],HK11.out⟩
      cases ho:(o==0)
      ·have HA:Hid (apN p m b o s v h=0):=apN_yes h HNr.out HH.out (by rw[HHb.out,ho];rfl)
       go_wp2_with fail
       go_meet
       case rel=>exact⟨by rw[HA.out],HK11.out⟩
      have HA:Hid (apN p m b o s v h=5):=apN_none h HNr.out HH.out (by rw[HHb.out,ho];rfl)
      go_wp2_with fail
      go_meet
      case rel=>exact⟨by rw[HA.out],HK11.out⟩
     have hN2:(N==0)=false:=by simpa using hN
     have HA:Hid (apN p m b o s v h=N):=by
      show apN p m b o s v h=N;rw[apN_ne h (by rw[HNr.out];exact hN),HNr.out]
     clear lt1 q0 q1 q2 q3 q4 q5 hN;simp only[hN2,Bool.false_and]
     go_wp2_with fail
     go_meet
     case rel=>exact⟨by rw[HA.out],HK11.out⟩
   case rest =>
    obtain⟨rfl,hK⟩:=hcut;have HK12:Hid (KX w wc ⟨p,m,b,o,s,v⟩ x6 X Y):=hK;clear hK HK11
    generalize hAr:apN p m b o s v h=A
    have HAr:Hid (apN p m b o s v h=A):=hAr;clear hAr
    go_upto_if 90 with fail
    go_cut [21] from 35 (fun y w'=>y=.int i64 (apR p m b o s v h)∧KX w w' ⟨p,m,b,o,s,v⟩ x6 X Y)
    case first =>
     as_aux_lemma =>
      obtain⟨_,lt1,q0,q1,q2,q3,q4,q5⟩:=HK12.out.kb;simp only[Nat.zero_add] at q0 q1 q2 q3 q4 q5;by_cases hA:A=0
      ·subst hA;obtain⟨g1,g2,g3,g4⟩:=tu_apR HAr.out;have HT:Hid (tuTo s v h 4=apR p m b o s v h):=g4;clear g4
       go_wp2_with fail
       refine (turned_any _ _ _ _ _ _ _ _ g1 g2 g3).mono ?_;rintro e w13 ⟨rfl,hb13⟩;rw[HT.out];have HK13:Hid (KX w w13 ⟨p,m,b,o,s,v⟩ x6 X Y):=HK12.out.later hb13;clear hb13 lt1 q0 q1 q2 q3 q4 q5
       go_wp2_with fail
       go_meet
       case rel=>exact⟨rfl,HK13.out⟩
      have hA2:(A==0)=false:=by simpa using hA
      have HR:Hid (apR p m b o s v h=0):=apR_bad (by rw[HAr.out];exact hA);clear lt1 q0 q1 q2 q3 q4 q5 hA
      go_wp2_with fail
      go_meet
      case rel=>exact⟨by rw[HR.out],HK12.out⟩
    case rest =>
     obtain⟨rfl,hK⟩:=hcut;have HK13:Hid (KX w wc ⟨p,m,b,o,s,v⟩ x6 X Y):=hK;clear hK HK12;obtain⟨_,lt1,q0,q1,q2,q3,q4,q5⟩:=HK13.out.kb;simp only[Nat.zero_add] at q0 q1 q2 q3 q4 q5
     go_wp2_with fail
     refine (apply_any _ _ _ _ _ _ _ _).mono ?_;rintro e w14 ⟨rfl,hb14⟩;rw[HAr.out];have HK14:Hid (KX w w14 ⟨p,m,b,o,s,v⟩ x6 X Y):=HK13.out.later hb14;clear hb14 lt1 q0 q1 q2 q3 q4 q5 HK13
     go_wp2_with fail
     refine (same_noV _ _ (HG.out.later HK14.out.kb.below)).mono ?_;rintro e w15 ⟨rfl,hb15⟩;have HK15:Hid (KX w w15 ⟨p,m,b,o,s,v⟩ x6 X Y):=HK14.out.later hb15;clear hb15 HK14
     go_wp2_with fail
     refine (refTable_any _ L _ (HS.out.later HK15.out.kb.below)).mono ?_;rintro e w16 ⟨rfl,hb16⟩
     generalize hTr:tbN L=T
     have HTr:Hid (tbN L=T):=hTr;clear hTr;have HK16:Hid (KX w w16 ⟨p,m,b,o,s,v⟩ x6 X Y):=HK15.out.later hb16;clear hb16 HK15
     go_wp2_with fail
     refine (table_any _ L _ (HS.out.later HK16.out.kb.below)).mono ?_;rintro e w17 ⟨rfl,hb17⟩;rw[HTr.out];have HK17:Hid (KX w w17 ⟨p,m,b,o,s,v⟩ x6 X Y):=HK16.out.later hb17;clear hb17 HK16
     go_wp2_with fail
     refine (same_noV _ _ (HG.out.later HK17.out.kb.below)).mono ?_;rintro e w18 ⟨rfl,hb18⟩;have HK18:Hid (KX w w18 ⟨p,m,b,o,s,v⟩ x6 X Y):=HK17.out.later hb18;clear hb18 HK17;have hltB:w.heap.size<w18.heap.size:=HK18.out.kb.lt;have hXB:X<w18.heap.size:=HK18.out.cx.lt;have hYB:Y<w18.heap.size:=HK18.out.cy.lt
     go_upto_block 0 with fail
     go_cut [25] from 35 (fun y w'=>w'.ownsRow w18.heap.size 3 1 y (deadL L).length ((deadL L).map (Value.int i64))∧KX w w' ⟨p,m,b,o,s,v⟩ x6 X Y)
     case first =>
      by_cases hT:T=0
      ·subst hT;have HD:Hid (deadL L=deTo L n):=by
        show deadL L=deTo L n;rw[deadL,if_pos HTr.out,HN.out]
       have hl12:n≤12:=by have:=tb_le HTr.out;rw[HN.out] at this;exact this
       obtain⟨i0,hi,hz0,hz1,hz2⟩:=info_parts infoInt;go_wp2
       go_loopw [25,26] (fun y i wr=>∃q:Nat,q≤n∧i=.int i64 q∧wr.ownsRow w18.heap.size 3 1 y (deTo L q).length ((deTo L q).map (Value.int i64))∧KX w wr ⟨p,m,b,o,s,v⟩ x6 X Y∧w18.heap.size≤wr.heap.size) (fun _ i _=>n-(intOf i).toNat)
       case atStart=>exact⟨0,by omega,rfl,World.ownsRow_nil _ _ _ _,HK18.out,nLQ _⟩
       case round =>
        obtain⟨q,hq,rfl,hown,hK,hsz⟩:=hrel;have HKQ:Hid (KX w wr ⟨p,m,b,o,s,v⟩ x6 X Y):=hK;have HOWN:Hid (wr.ownsRow w18.heap.size 3 1 u25 (deTo L q).length ((deTo L q).map (Value.int i64))):=hown;clear hK hown;by_cases hlt:q<n
        ·go_wp2
         go_loopw [27,28] (fun c i wz=>∃k:Nat,k≤16∧i=.int i64 k∧c=.bool (!shB L q k)∧wz.ownsRow w18.heap.size 3 1 u25 (deTo L q).length ((deTo L q).map (Value.int i64))∧KX w wz ⟨p,m,b,o,s,v⟩ x6 X Y∧w18.heap.size≤wz.heap.size) (fun _ i _=>16-(intOf i).toNat)
         case atStart=>exact⟨0,by omega,rfl,rfl,HOWN.out,HKQ.out,hsz⟩
         case round =>
          obtain⟨k,hk,rfl,rfl,hown,hK,hsz2⟩:=hrel;have HKR:Hid (KX w wr ⟨p,m,b,o,s,v⟩ x6 X Y):=hK;have HOWR:Hid (wr.ownsRow w18.heap.size 3 1 u25 (deTo L q).length ((deTo L q).map (Value.int i64))):=hown;clear hK hown;by_cases hk16:k<16
          ·go_wp2_with fail
           refine (find_any _ L _ _ (HS.out.later HKR.out.kb.below)).mono ?_;rintro e wf ⟨rfl,hbf⟩;have HKF:Hid (KX w wf ⟨p,m,b,o,s,v⟩ x6 X Y):=HKR.out.later hbf;have HOWF:Hid (wf.ownsRow w18.heap.size 3 1 u25 (deTo L q).length ((deTo L q).map (Value.int i64))):=own_below HOWR.out hbf;have hszf:w18.heap.size≤wf.heap.size:=Nat.le_trans hsz2 hbf.size;clear hbf;cases hy:(beTo L (k:Int) L.length==(q:Int))
           ·have HSH:Hid (shB L q (k+1)=shB L q k):=by
             show shB L q (k+1)=shB L q k;rw[sh_stop rfl _ hy,Bool.or_false]
            go_wp2;go_roundw
            case rel=>exact⟨k+1,by omega,by go_num,by rw[HSH.out],HOWF.out,HKF.out,hszf⟩
            case measure=>simp[intOf];omega
           have HSH:Hid (shB L q (k+1)=true):=by
            show shB L q (k+1)=true;rw[sh_stop rfl _ hy,Bool.or_true]
           go_wp2;go_roundw
           case rel=>exact⟨k+1,by omega,by go_num,by rw[HSH.out];rfl,HOWF.out,HKF.out,hszf⟩
           case measure=>simp[intOf];omega
          have HS16:Hid (shB L q k=shB L q 16):=by
           show shB L q k=shB L q 16;rw[show k=16 by omega]
          rw[HS16.out];have hle:=deTo_len L q;cases hsb:shB L q 16
          ·have HSB:Hid (shB L q 16=false):=hsb;clear hsb
           go_wp2_with (at_builtin;refine wpList_append_own _ rfl _ _ 47 rfl w18.heap.size 3 i0 (.int i64 0) 1 8 underlying47 hi hz0 hz1 hz2 rfl (by decide) _ _ _ rfl (HOWR.out.alloc _) ⟨wr.heap.size,0,none⟩ 1 1 [.int i64 q] rfl rfl ?c1 ?c2 ?c3 ?c4 ?c5 ?_)
           case c1 =>
            intro j u hj
            match j,hj with
            | 0,hj=>simp at hj;subst hj;simp[Addr.add]
           case c2=>intro u hu;simp at hu;subst hu;rfl
           case c3=>unfold maxLen;omega
           case c4=>omega
           case c5=>simp;omega
           intro v' w3 hown3 hgrow _;have HK3':Hid (KX w w3 ⟨p,m,b,o,s,v⟩ x6 X Y):=HKR.out.grow (((bRQ _ _).alloc hsz2 _).grown hgrow (by simp;omega) (fun g hg=>(HOWR.out.lt g hg).1)) hltB hXB hYB;have hsz3:w18.heap.size≤w3.heap.size:=Nat.le_trans hsz2 (((Below.refl w18.heap.size wr).alloc hsz2 _).grown hgrow (by simp;omega) (fun g hg=>(HOWR.out.lt g hg).1)).size;clear hgrow;go_wp2;go_roundw
           case rel=>exact⟨q+1,by omega,by go_num,by rw[de_miss HSB.out];simpa using hown3,HK3'.out,hsz3⟩
           case measure=>simp[intOf];omega
          have HSB:Hid (shB L q 16=true):=hsb;clear hsb;go_wp2;go_roundw
          case rel=>exact⟨q+1,by omega,by go_num,by rw[de_hit HSB.out];exact HOWR.out,HKR.out,hsz2⟩
          case measure=>simp[intOf];omega
        have HEQ:Hid (deTo L q=deadL L):=by
         show deTo L q=deadL L;rw[HD.out,show q=n by omega]
        go_wp2_with fail
        go_meet
        case rel =>
         have:=HOWN.out;rw[HEQ.out] at this;exact⟨this,HKQ.out⟩
      have HD:Hid (deadL L=[]):=if_neg (by rw[HTr.out];exact hT);have hT2:(T==0)=false:=by simpa using hT
      clear hT;go_wp2
      go_loopw [25,26] (fun y i wr=>i=.int i64 0∧y=.slice none 0 0∧wr=w18) (fun _ i _=>0)
      case atStart=>exact⟨rfl,rfl,rfl⟩
      case round =>
       obtain⟨rfl,rfl,rfl⟩:=hrel;by_cases hn0:(0:Int)<(n:Int)
       ·go_wp2_with fail
        go_meet
        case rel=>exact⟨by rw[HD.out];exact World.ownsRow_nil _ _ _ _,HK18.out⟩
       go_wp2_with fail
       go_meet
       case rel=>exact⟨by rw[HD.out];exact World.ownsRow_nil _ _ _ _,HK18.out⟩
     case rest =>
      obtain⟨hown,hK⟩:=hcut;have HK19:Hid (KX w wc ⟨p,m,b,o,s,v⟩ x6 X Y):=hK;have HOD:Hid (wc.ownsRow w18.heap.size 3 1 u25 (deadL L).length ((deadL L).map (Value.int i64))):=hown;clear hK hown HK18
      go_wp2_with fail
      refine (shadowed_any _ L _ (HS.out.later HK19.out.kb.below)).mono ?_;rintro e w20 ⟨l,rfl,hownL,hb20⟩;rw[HTr.out];have HK20:Hid (KX w w20 ⟨p,m,b,o,s,v⟩ x6 X Y):=HK19.out.later hb20;have HOD2:Hid (w20.ownsRow w18.heap.size 3 1 u25 (deadL L).length ((deadL L).map (Value.int i64))):=own_below HOD.out hb20;have HOL2:Hid (w20.ownsRow wc.heap.size 3 1 l (deadL L).length ((deadL L).map (Value.int i64))):=hownL;clear hb20 hownL HK19 HOD
      go_wp2_with fail
      refine (same_noV _ _ (HG.out.later HK20.out.kb.below)).mono ?_;rintro e w21 ⟨rfl,hb21⟩;have HK21:Hid (KX w w21 ⟨p,m,b,o,s,v⟩ x6 X Y):=HK20.out.later hb21;have HOD3:Hid (w21.ownsRow w18.heap.size 3 1 u25 (deadL L).length ((deadL L).map (Value.int i64))):=own_below HOD2.out hb21;have HOL3:Hid (w21.ownsRow wc.heap.size 3 1 l (deadL L).length ((deadL L).map (Value.int i64))):=own_below HOL2.out hb21;clear hb21 HK20 HOD2 HOL2
      go_wp2_with fail
      refine (ints_any _ _ _ _ _ _ _ _ (by have:=dead_len L;omega) HOL3.out HOD3.out).mono ?_;rintro e w22 ⟨rfl,hb22⟩;rw[beq_self_eq_true];have HK22:Hid (KX w w22 ⟨p,m,b,o,s,v⟩ x6 X Y):=HK21.out.later hb22;clear hb22 HK21 HOD3 HOL3;go_upto_region 40 with fail
      go_cut [149] from 35 (fun c w'=>c=.bool ((T==0) && !Hh)∧KX w w' ⟨p,m,b,o,s,v⟩ x6 X Y)
      case first =>
       as_aux_lemma =>
        by_cases hT:T=0
        ·subst hT;cases Hh
         ·go_wp2_with fail
          go_meet
          case rel=>exact⟨rfl,HK22.out⟩
         go_wp2_with fail
         go_meet
         case rel=>exact⟨rfl,HK22.out⟩
        have hN2:(T==0)=false:=by simpa using hT
        clear hT
        go_wp2_with fail
        go_meet
        case rel=>exact⟨by rw[hN2];rfl,HK22.out⟩
      case rest =>
       obtain⟨rfl,hK⟩:=hcut;have HK23:Hid (KX w wc ⟨p,m,b,o,s,v⟩ x6 X Y):=hK;clear hK HK22
       go_upto_if 149 with fail
       go_cut [9] from 35 (fun e w'=>e=.int i64 (if T=0 then (if Hh then 0 else 1) else T)∧KX w w' ⟨p,m,b,o,s,v⟩ x6 X Y)
       case first =>
        as_aux_lemma =>
         by_cases hT:T=0
         ·subst hT;cases Hh
          ·go_wp2_with fail
           go_meet
           case rel=>exact⟨rfl,HK23.out⟩
          go_wp2_with fail
          go_meet
          case rel=>exact⟨rfl,HK23.out⟩
         have hN2:(T==0)=false:=by simpa using hT
         have HTN:Hid (¬T=0):=hT;clear hT;simp only[hN2,Bool.false_and]
         go_wp2_with fail
         go_meet
         case rel=>exact⟨by rw[if_neg HTN.out],HK23.out⟩
       case rest =>
        obtain⟨rfl,hK⟩:=hcut;have HK24:Hid (KX w wc ⟨p,m,b,o,s,v⟩ x6 X Y):=hK;clear hK HK23
        generalize hE:(if T=0 then (if Hh then (0:Int) else 1) else T)=E
        have HE:Hid ((if tbN L=0 then (if hdrB h then (0:Int) else 1) else tbN L)=E):=by
         show (if tbN L=0 then (if hdrB h then (0:Int) else 1) else tbN L)=E;rw[HTr.out,HH.out];exact hE
        clear hE
        go_upto_if 151 with fail
        go_cut [9,32] from 35 (fun e y w'=>e=.int i64 (luN L h)∧y=.int i64 (luI L h)∧KX w w' ⟨p,m,b,o,s,v⟩ x6 X Y)
        case first =>
         as_aux_lemma =>
          by_cases hE0:E=0
          ·have hT:tbN L=0:=by
            by_cases hT:tbN L=0
            ·exact hT
            have:=HE.out;rw[if_neg hT] at this;omega
           have hh:hdrB h=true:=by
            cases hh:hdrB h
            ·have:=HE.out;rw[if_pos hT,hh] at this;simp at this;omega
            rfl
           subst hE0
           go_wp2_with fail
           refine (find_any _ L _ _ (HS.out.later HK24.out.kb.below)).mono ?_;rintro e w25 ⟨rfl,hb25⟩;have HX:Hid (hdrB h=true∧tbN L=0):=⟨hh,hT⟩;clear hh hT;have HK25:Hid (KX w w25 ⟨p,m,b,o,s,v⟩ x6 X Y):=HK24.out.later hb25;clear hb25;by_cases hb:beTo L h L.length<0
           ·have HL1:Hid (luN L h=5):=by show luN L h=5;simp[luN,HX.out.1,HX.out.2,hb]
            have HL2:Hid (luI L h=0):=by show luI L h=0;simp[luI,HL1.out]
            have hb2:decide (beTo L h L.length<0)=true:=by simpa using hb
            clear hb
            go_wp2_with fail
            go_meet
            case rel=>exact⟨by rw[HL1.out],by rw[HL2.out],HK25.out⟩
           have HL1:Hid (luN L h=0):=by show luN L h=0;simp[luN,HX.out.1,HX.out.2,hb]
           have HL2:Hid (luI L h=beTo L h L.length):=by show luI L h=beTo L h L.length;simp[luI,HL1.out]
           have hb2:decide (beTo L h L.length<0)=false:=by simpa using hb
           clear hb
           go_wp2_with fail
           go_meet
           case rel=>exact⟨by rw[HL1.out],by rw[HL2.out],HK25.out⟩
          have HL1:Hid (luN L h=E):=by
           show luN L h=E;rw[←HE.out];by_cases hT:tbN L=0
           ·cases hh:hdrB h
            ·simp[luN,hT,hh]
            exfalso
            have:=HE.out;rw[if_pos hT,hh] at this;exact hE0 this.symm
           simp[luN,hT]
          have HL2:Hid (luI L h=0):=by
           show luI L h=0;rw[luI,HL1.out,if_neg hE0]
          have hE2:(E==0)=false:=by simpa using hE0
          clear hE0
          go_wp2_with fail
          go_meet
          case rel=>exact⟨by rw[HL1.out],by rw[HL2.out],HK24.out⟩
        case rest =>
         obtain⟨rfl,rfl,hK⟩:=hcut;have HK26:Hid (KX w wc ⟨p,m,b,o,s,v⟩ x6 X Y):=hK;clear hK HK24
         go_wp2_with fail
         refine (lookup_any _ L _ _ (HS.out.later HK26.out.kb.below)).mono ?_;rintro e w27 ⟨rfl,hb27⟩;have HK27:Hid (KX w w27 ⟨p,m,b,o,s,v⟩ x6 X Y):=HK26.out.later hb27;clear hb27 HK26
         go_wp2_with fail
         refine (same_noV _ _ (HG.out.later HK27.out.kb.below)).mono ?_;rintro e w28 ⟨rfl,hb28⟩;have HK28:Hid (KX w w28 ⟨p,m,b,o,s,v⟩ x6 X Y):=HK27.out.later hb28;clear hb28 HK27;obtain⟨_,⟨x0,x1,x2,x3,x4,x5⟩,y0,y1,y2,y3,y4,y5⟩:=HK28.out;simp only[Nat.zero_add] at x0 x1 x2 x3 x4 x5 y0 y1 y2 y3 y4 y5;have HB:Hid (Below w.heap.size w w28):=HK28.out.kb.below;go_wp2;go_ret;exact⟨rfl,HB.out⟩
end ruleTells
section
open Go.ChangeShapes Go.WideShapes Go.ChangeAt Go.RowKit Go.Joins
theorem array6 {α:Type}{cs:Array α}(h:cs.size=6):∃c0 c1 c2 c3 c4 c5,cs=#[c0,c1,c2,c3,c4,c5]:=by
 obtain⟨l⟩:=cs
 match l,h with
 | [c0,c1,c2,c3,c4,c5],_=>exact⟨c0,c1,c2,c3,c4,c5,rfl⟩
theorem rule_cells {H:Type}{enc:TypeId×Value→H}{W:World}{n:Nat}{cs:List Value}{x:DataW H×List MemPlace}
 (h:DataW.trod enc prog W 0 (fun _=>true) true n 25 cs=some x):∃p m b o s v:Int,cs=[.int i64 p,.int i64 m,.int i64 b,.int i64 o,.int i64 s,.int i64 v]:=by
 obtain⟨xs,k,_,_,hl,hlen,hf⟩:=DataW.trod_struct underlying25 h;have hC:Tryz.prog.cellsOf 25=6:=by kernel_rfl
 have hI:Tryz.prog.cellsOf 3=1:=by kernel_rfl
 have hK:Tryz.prog.cellsOf 23=2:=by kernel_rfl
 rw[hC] at hl;obtain⟨c0,c1,c2,c3,c4,c5,e⟩:=array6 (cs:=cs.toArray) (by simpa using hl);have e':cs=[c0,c1,c2,c3,c4,c5]:=by simpa using congrArg Array.toList e
 subst e'
 match xs,hlen with
 | [y0,y1,y2,y3,y4],_ =>
   have g0:=hf 0 _ rfl;have g1:=hf 1 _ rfl;have g2:=hf 2 _ rfl;have g3:=hf 3 _ rfl;have g4:=hf 4 _ rfl;simp[hI,hK] at g0 g1 g2 g3 g4;obtain⟨p,e0,_,_⟩:=DataW.trod_int underlying3 g0;obtain⟨z0,z1,k1,_,_,f0,f1⟩:=trod_struct2 underlying23 g1;simp[hI] at f0 f1;obtain⟨m,e1,_,_⟩:=DataW.trod_int underlying3 f0;obtain⟨b,e2,_,_⟩:=DataW.trod_int underlying3 f1;obtain⟨o,e3,_,_⟩:=DataW.trod_int underlying3 g2;obtain⟨s,e4,_,_⟩:=DataW.trod_int underlying3 g3;obtain⟨v,e5,_,_⟩:=DataW.trod_int underlying3 g4;simp at e0 e1 e2 e3 e4 e5;subst e0 e1 e2 e3 e4 e5;exact⟨p,m,b,o,s,v,rfl⟩
theorem rule_of {H:Type}{enc:TypeId×Value→H}{W:World}{base:Nat}{v:Value}{d:DataW H}{p:List MemPlace}
 (hv:Value.okWide prog W .any base 25 v) (h:DataW.Trod enc prog W 0 (fun _=>true) true 25 v d p):
 ∃q m b o s x:Int,v=.agg #[.int i64 q,.int i64 m,.int i64 b,.int i64 o,.int i64 s,.int i64 x]:=by
 obtain⟨cs,rfl,hsz⟩:=okWide_struct underlying25 hv;obtain⟨n,hn⟩:=h;obtain⟨q,m,b,o,s,x,e⟩:=rule_cells hn;refine⟨q,m,b,o,s,x,?_⟩;have e2:cs=#[.int i64 q,.int i64 m,.int i64 b,.int i64 o,.int i64 s,.int i64 x]:=by
  simp only[Value.cells] at e;rw[←Array.toArray_toList (xs:=cs),e]
 rw[e2]
end
section
open Go.ChangeShapes Go.WideShapes Go.ChangeAt Go.RowKit
def cellsR (L:List Ru):List Value:=L.flatMap fun r=>[.int i64 r.p,.int i64 r.m,.int i64 r.b,.int i64 r.o,.int i64 r.s,.int i64 r.v]
theorem rules_of {H:Type}{enc:TypeId×Value→H}{W:World}{base:Nat}{v:Value}{d:DataW H}{p:List MemPlace}
 (hv:Value.okWide prog W .any base 27 v) (h:DataW.Trod enc prog W 0 (fun _=>true) true 27 v d p):∃L,SR W v L:=by
 obtain⟨a0,len0,cap0,rfl⟩:=okWide_slice underlying27 hv;obtain⟨fuel,hf⟩:=h;have hf2:DataW.trod enc prog W 0 (fun _=>true) true fuel 27 [.slice a0 len0 cap0]=some (d,p):=hf
 rcases Go.Deep.open_slice underlying27 hf2 with ⟨hc,hx⟩ | ⟨a,len,cap,m,k,D,Pl,hc,_,hl,hm,hmm,hx,hall⟩
 ·simp only[List.cons.injEq,and_true,Value.slice.injEq] at hc;obtain⟨rfl,rfl,rfl⟩:=hc;exact⟨[],.inl ⟨none,0,rfl,rfl⟩⟩
 simp only[List.cons.injEq,and_true,Value.slice.injEq] at hc;obtain⟨rfl,rfl,rfl⟩:=hc;simp only[if_true] at hmm;subst hmm;have hC:Tryz.prog.cellsOf 25=6:=by kernel_rfl
 rcases Nat.eq_zero_or_pos len0 with h0 | h0
 ·subst h0;exact⟨[],.inl ⟨_,_,rfl,rfl⟩⟩
 have each:∀i,i<m→∃r:Ru,∀j,j<6→W.cell? (a.add (i*6+j))=(cellsR [r])[j]?:=by
  intro i hi;obtain⟨cs,h1,h2⟩:=hall i hi;rw[hC] at h1;obtain⟨_,hlen,hcell⟩:=World.cells?_some h1;obtain⟨q,n,b,o,s,x,rfl⟩:=rule_cells h2;refine⟨⟨q,n,b,o,s,x⟩,fun j hj=>?_⟩;have:=hcell j (by omega);rw[Go.Deep.add_add] at this;rw[this]
  rcases (by omega:j=0∨j=1∨j=2∨j=3∨j=4∨j=5) with rfl | rfl | rfl | rfl | rfl | rfl <;> simp[cellsR]
 have iR:Inhabited Ru:=⟨zeR⟩;obtain⟨R,hR⟩:=Go.Deep.choose_lt each;obtain⟨sb,so,spot⟩:=a;have hspot:spot=none:=by
  have:=hR 0 (by omega) 0 (by omega);have h2:W.cell? ((⟨sb,so,spot⟩:Addr).add (0*6+0))=some (.int i64 (R 0).p):=by rw[this];simp[cellsR]
  simpa[Addr.add] using World.cell?_spot h2
 subst hspot;have hadd:∀j,(⟨sb,so,none⟩:Addr).add j=⟨sb,so+j,none⟩:=by
  intro j;simp only[Addr.add]
  first
   | rfl
   | (split
      ·next h0=>rw[h0];rfl
      rfl)
 refine⟨(List.range len0).map R,.inr ⟨sb,so,_,by simp,by simpa using hl,hm,fun i hi=>?_⟩⟩;have hi2:i<len0:=by simpa using hi
 have hc:=hR i (by omega);simp only[hadd] at hc;have e:((List.range len0).map R)[i]=R i:=by simp
 rw[e];refine⟨?_,?_,?_,?_,?_,?_⟩
 ·have:=hc 0 (by omega);simpa[cellsR] using this
 ·have:=hc 1 (by omega);simpa[cellsR,Nat.add_assoc] using this
 ·have:=hc 2 (by omega);simpa[cellsR,Nat.add_assoc] using this
 ·have:=hc 3 (by omega);simpa[cellsR,Nat.add_assoc] using this
 ·have:=hc 4 (by omega);simpa[cellsR,Nat.add_assoc] using this
 have:=hc 5 (by omega);simpa[cellsR,Nat.add_assoc] using this
end
end Go.Proofs.YtpbfgfphcjmcbaaGreatDoor
