/- Contracts and facts on the way to PlanHolds, joined into one text: RuleCon, RuleTab, OwnRow, RuleOwn, TableApp, TableConcat, TableIdx, RuleTab2, TableDo, TableDo2. -/
import Derived.Test.YtiokpmlhmlcojaaGreatPlanHoldsP2
namespace Go.Proofs.YtiokpmlhmlcojaaGreat
set_option linter.unusedSimpArgs false
set_option linter.unusedVariables false
set_option maxHeartbeats 16000000
set_option maxRecDepth 100000
section
open Go.RowKit
theorem check_no (m b:Int)(w:World):
 Calls Tryz.prog 94 #[.agg #[.int .i64 m,.int .i64 b]] w fun e w'=>e=.returned (noV (refN m b))∧Below w.heap.size w w':=by
 cases hr:rngB m b
 ·have e:noV (refN m b)=.iface 63 (.int .i64 1):=by rw[refN_range hr];rfl
  rw[e];exact check_range m b w hr
 cases ho:okB m b
 ·have e:noV (refN m b)=.iface 63 (.int .i64 3):=by rw[refN_shape ho hr];rfl
  rw[e];exact check_shape m b w hr ho
 have e:noV (refN m b)=.nilIface:=by rw[refN_ok ho];rfl
 rw[e];exact check_ok m b w ho
theorem ruCheck_prio (p m b o s v:Int)(w:World)(h:ruP p o=false):
 Calls Tryz.prog 63 #[.agg #[.int .i64 p,.int .i64 m,.int .i64 b,.int .i64 o,.int .i64 s,.int .i64 v]] w fun e w'=>e=.returned (.iface 63 (.int .i64 1))∧Below w.heap.size w w':=by
 have hc:p<0∨(0≤p∧99<p)∨((0≤p∧p≤99)∧o<0)∨((0≤p∧p≤99)∧(0≤o∧4<o)):=by
  simp[ruP] at h;omega
 clear h
 rcases hc with h1 | ⟨h1,h2⟩ | ⟨⟨h1,h2⟩,h3⟩ | ⟨⟨h1,h2⟩,h3,h4⟩
 ·have e1:decide (p<0)=true:=by simp;omega
  go_enter Tryz.func63,Tryz.ntmps63;go_wp2;go_ret;exact⟨rfl,(Below.refl _ _).alloc (Nat.le_refl _) _⟩
 ·have e1:decide (p<0)=false:=by simp;omega
  have e2:decide (99<p)=true:=by simp;omega
  go_enter Tryz.func63,Tryz.ntmps63;go_wp2;go_ret;exact⟨rfl,(Below.refl _ _).alloc (Nat.le_refl _) _⟩
 ·have e1:decide (p<0)=false:=by simp;omega
  have e2:decide (99<p)=false:=by simp;omega
  have e3:decide (o<0)=true:=by simp;omega
  go_enter Tryz.func63,Tryz.ntmps63;go_wp2;go_ret;exact⟨rfl,(Below.refl _ _).alloc (Nat.le_refl _) _⟩
 have e1:decide (p<0)=false:=by simp;omega
 have e2:decide (99<p)=false:=by simp;omega
 have e3:decide (o<0)=false:=by simp;omega
 have e4:decide (4<o)=true:=by simp;omega
 go_enter Tryz.func63,Tryz.ntmps63;go_wp2;go_ret;exact⟨rfl,(Below.refl _ _).alloc (Nat.le_refl _) _⟩
theorem ruP_of {p o:Int}(h:ruP p o=true):decide (p<0)=false∧decide (99<p)=false∧decide (o<0)=false∧decide (4<o)=false:=by
 simp only[ruP,Bool.and_eq_true,decide_eq_true_eq] at h;refine⟨?_,?_,?_,?_⟩ <;> simp <;> omega
theorem ruCheck_set (p m b o s v:Int)(w:World)(h:ruP p o=true)(h2:rngB s v=false):
 Calls Tryz.prog 63 #[.agg #[.int .i64 p,.int .i64 m,.int .i64 b,.int .i64 o,.int .i64 s,.int .i64 v]] w fun e w'=>e=.returned (.iface 63 (.int .i64 1))∧Below w.heap.size w w':=by
 obtain⟨e1,e2,e3,e4⟩:=ruP_of h;clear h;cases hs:hdrB s
 ·clear h2;go_enter Tryz.func63,Tryz.ntmps63
  go_wp2_with fail
  refine (isHeader_no _ _ hs).mono ?_;rintro e w' ⟨rfl,rfl⟩;go_wp2;go_ret;exact⟨rfl,(Below.refl _ _).alloc (Nat.le_refl _) _⟩
 have hv:hdrB v=false:=by simpa[rngB,hs] using h2
 clear h2;go_enter Tryz.func63,Tryz.ntmps63
 go_wp2_with fail
 refine (isHeader_yes _ _ hs).mono ?_;rintro e w' ⟨rfl,rfl⟩
 go_wp2_with fail
 refine (isHeader_no _ _ hv).mono ?_;rintro e w' ⟨rfl,rfl⟩;go_wp2;go_ret;exact⟨rfl,(Below.refl _ _).alloc (Nat.le_refl _) _⟩
theorem ruCheck_cube (p m b o s v:Int)(w:World)(h:ruP p o=true)(h2:rngB s v=true)(h3:okB m b=false):
 Calls Tryz.prog 63 #[.agg #[.int .i64 p,.int .i64 m,.int .i64 b,.int .i64 o,.int .i64 s,.int .i64 v]] w fun e w'=>e=.returned (.iface 63 (.int .i64 (refN m b)))∧Below w.heap.size w w':=by
 obtain⟨e1,e2,e3,e4⟩:=ruP_of h;have hs:hdrB s=true:=by simp only[rngB,Bool.and_eq_true] at h2;exact h2.1
 have hv:hdrB v=true:=by simp only[rngB,Bool.and_eq_true] at h2;exact h2.2
 have hn:refN m b≠0:=by have:=ok_refN m b;rw[h3] at this;simpa using this
 clear h h2 h3;go_enter Tryz.func63,Tryz.ntmps63
 go_wp2_with fail
 refine (isHeader_yes _ _ hs).mono ?_;rintro e w' ⟨rfl,rfl⟩
 go_wp2_with fail
 refine (isHeader_yes _ _ hv).mono ?_;rintro e w' ⟨rfl,rfl⟩
 go_wp2_with fail
 refine (check_no _ _ _).mono ?_;rintro e w1 ⟨rfl,hb1⟩;rw[no_ne hn];go_wp2;go_ret;exact⟨rfl,((Below.refl _ _).alloc (Nat.le_refl _) _).trans (hb1.mono (by simp))⟩
theorem ruCheck_end (p m b o s v:Int)(w:World)(h:ruP p o=true)(h2:rngB s v=true)(h3:okB m b=true):
 Calls Tryz.prog 63 #[.agg #[.int .i64 p,.int .i64 m,.int .i64 b,.int .i64 o,.int .i64 s,.int .i64 v]] w fun e w'=>e=.returned (if ruSet o s v then .nilIface else .iface 63 (.int .i64 3))∧Below w.heap.size w w':=by
 obtain⟨e1,e2,e3,e4⟩:=ruP_of h;have hs:hdrB s=true:=by simp only[rngB,Bool.and_eq_true] at h2;exact h2.1
 have hv:hdrB v=true:=by simp only[rngB,Bool.and_eq_true] at h2;exact h2.2
 have hn:refN m b=0:=refN_ok h3;have hlt:w.heap.size<(w.alloc (Obj.cells #[.int .i64 p,.int .i64 m,.int .i64 b,.int .i64 o,.int .i64 s,.int .i64 v] 37)).heap.size:=by simp
 clear h h2 h3;cases ha:(bits .andNot .i64 v s==0)
 ·have e:ruSet o s v=false:=by simp[ruSet,ha]
  rw[e];clear e;simp only[Bool.false_eq_true,if_false];have ha2:(bits .andNot .i64 v s != 0)=true:=by simpa using ha
  go_enter Tryz.func63,Tryz.ntmps63
  go_wp2_with fail
  refine (isHeader_yes _ _ hs).mono ?_;rintro e w' ⟨rfl,rfl⟩
  go_wp2_with fail
  refine (isHeader_yes _ _ hv).mono ?_;rintro e w' ⟨rfl,rfl⟩
  go_wp2_with fail
  refine (check_no _ _ _).mono ?_;rintro e w1 ⟨rfl,hb1⟩;rw[no_ok hn];obtain⟨hc1,hf1⟩:=bcell hb1;have hB:=((Below.refl w.heap.size w).alloc (Nat.le_refl _) (Obj.cells #[.int .i64 p,.int .i64 m,.int .i64 b,.int .i64 o,.int .i64 s,.int .i64 v] 37)).trans (hb1.mono (by simp));clear hb1;go_wp2;go_ret;exact⟨rfl,hB⟩
 cases ho:(o==0)
 ·have e:ruSet o s v=true:=by simp[ruSet,ha,ho]
  rw[e];clear e;simp only[if_true];have ha2:(bits .andNot .i64 v s != 0)=false:=by simpa using ha
  go_enter Tryz.func63,Tryz.ntmps63
  go_wp2_with fail
  refine (isHeader_yes _ _ hs).mono ?_;rintro e w' ⟨rfl,rfl⟩
  go_wp2_with fail
  refine (isHeader_yes _ _ hv).mono ?_;rintro e w' ⟨rfl,rfl⟩
  go_wp2_with fail
  refine (check_no _ _ _).mono ?_;rintro e w1 ⟨rfl,hb1⟩;rw[no_ok hn];obtain⟨hc1,hf1⟩:=bcell hb1;have hB:=((Below.refl w.heap.size w).alloc (Nat.le_refl _) (Obj.cells #[.int .i64 p,.int .i64 m,.int .i64 b,.int .i64 o,.int .i64 s,.int .i64 v] 37)).trans (hb1.mono (by simp));clear hb1;go_wp2;go_ret;exact⟨rfl,hB⟩
 cases hz:(s==0)
 ·have e:ruSet o s v=false:=by simp[ruSet,ha,ho,hz]
  rw[e];clear e;simp only[Bool.false_eq_true,if_false];have ha2:(bits .andNot .i64 v s != 0)=false:=by simpa using ha
  go_enter Tryz.func63,Tryz.ntmps63
  go_wp2_with fail
  refine (isHeader_yes _ _ hs).mono ?_;rintro e w' ⟨rfl,rfl⟩
  go_wp2_with fail
  refine (isHeader_yes _ _ hv).mono ?_;rintro e w' ⟨rfl,rfl⟩
  go_wp2_with fail
  refine (check_no _ _ _).mono ?_;rintro e w1 ⟨rfl,hb1⟩;rw[no_ok hn];obtain⟨hc1,hf1⟩:=bcell hb1;have hB:=((Below.refl w.heap.size w).alloc (Nat.le_refl _) (Obj.cells #[.int .i64 p,.int .i64 m,.int .i64 b,.int .i64 o,.int .i64 s,.int .i64 v] 37)).trans (hb1.mono (by simp));clear hb1;go_wp2;go_ret;exact⟨rfl,hB⟩
 have e:ruSet o s v=true:=by simp[ruSet,ha,ho,hz]
 rw[e];clear e;simp only[if_true];have ha2:(bits .andNot .i64 v s != 0)=false:=by simpa using ha
 go_enter Tryz.func63,Tryz.ntmps63
 go_wp2_with fail
 refine (isHeader_yes _ _ hs).mono ?_;rintro e w' ⟨rfl,rfl⟩
 go_wp2_with fail
 refine (isHeader_yes _ _ hv).mono ?_;rintro e w' ⟨rfl,rfl⟩
 go_wp2_with fail
 refine (check_no _ _ _).mono ?_;rintro e w1 ⟨rfl,hb1⟩;rw[no_ok hn];obtain⟨hc1,hf1⟩:=bcell hb1;have hB:=((Below.refl w.heap.size w).alloc (Nat.le_refl _) (Obj.cells #[.int .i64 p,.int .i64 m,.int .i64 b,.int .i64 o,.int .i64 s,.int .i64 v] 37)).trans (hb1.mono (by simp));clear hb1;go_wp2;go_ret;exact⟨rfl,hB⟩
theorem ruCheck_any (p m b o s v:Int)(w:World):
 Calls Tryz.prog 63 #[.agg #[.int .i64 p,.int .i64 m,.int .i64 b,.int .i64 o,.int .i64 s,.int .i64 v]] w fun e w'=>e=.returned (noV (ruN p m b o s v))∧Below w.heap.size w w':=by
 cases h1:ruP p o
 ·have e:noV (ruN p m b o s v)=.iface 63 (.int .i64 1):=by simp[ruN,ruIn,h1,noV]
  rw[e];exact ruCheck_prio p m b o s v w h1
 cases h2:rngB s v
 ·have e:noV (ruN p m b o s v)=.iface 63 (.int .i64 1):=by simp[ruN,ruIn,h2,noV]
  rw[e];exact ruCheck_set p m b o s v w h1 h2
 cases h3:okB m b
 ·have hn:refN m b≠0:=by have:=ok_refN m b;rw[h3] at this;simpa using this
  have e:noV (ruN p m b o s v)=.iface 63 (.int .i64 (refN m b)):=by simp[ruN,ruIn,h1,h2,h3,noV,hn]
  rw[e];exact ruCheck_cube p m b o s v w h1 h2 h3
 have e:noV (ruN p m b o s v)=(if ruSet o s v then .nilIface else .iface 63 (.int .i64 3)):=by
  cases h4:ruSet o s v <;> simp[ruN,ruIn,h1,h2,h3,noV,h4]
 rw[e];exact ruCheck_end p m b o s v w h1 h2 h3
structure C6 (w:World)(g o:Nat)(r:Ru):Prop where
 c0:w.cell? ⟨g,o,none⟩=some (.int .i64 r.p)
 c1:w.cell? ⟨g,o+1,none⟩=some (.int .i64 r.m)
 c2:w.cell? ⟨g,o+2,none⟩=some (.int .i64 r.b)
 c3:w.cell? ⟨g,o+3,none⟩=some (.int .i64 r.o)
 c4:w.cell? ⟨g,o+4,none⟩=some (.int .i64 r.s)
 c5:w.cell? ⟨g,o+5,none⟩=some (.int .i64 r.v)
theorem C6.later {w w':World}{g o:Nat}{r:Ru}(h:C6 w g o r)(hb:Below w.heap.size w w'):C6 w' g o r:=
 ⟨cell_later hb h.c0,cell_later hb h.c1,cell_later hb h.c2,cell_later hb h.c3,cell_later hb h.c4,cell_later hb h.c5⟩
theorem C6.new (w:World)(p m b o s v:Int)(t:TypeId):C6 (w.alloc (Obj.cells #[.int .i64 p,.int .i64 m,.int .i64 b,.int .i64 o,.int .i64 s,.int .i64 v] t)) w.heap.size 0 ⟨p,m,b,o,s,v⟩:=by
 refine⟨?_,?_,?_,?_,?_,?_⟩ <;> simp
def RAt (w:World)(g o:Nat)(L:List Ru):Prop:=∀i (h:i<L.length),C6 w g (o+i*6) L[i]
theorem RAt.later {w w':World}{g o:Nat}{L:List Ru}(h:RAt w g o L)(hb:Below w.heap.size w w'):RAt w' g o L:=fun i hi=>(h i hi).later hb
theorem RAt.take {w:World}{g o:Nat}{L:List Ru}(h:RAt w g o L)(k:Nat):RAt w g o (L.take k):=by
 intro i hi;rw[List.getElem_take];exact h i (by simp at hi;omega)
def SR (w:World)(v:Value)(L:List Ru):Prop:=
 (∃ao cap,v=.slice ao 0 cap∧L=[])∨∃g o cap,v=.slice (some ⟨g,o,none⟩) L.length cap∧L.length≤cap∧cap≤maxLen∧RAt w g o L
theorem SR.later {w w':World}{v:Value}{L:List Ru}(h:SR w v L)(hb:Below w.heap.size w w'):SR w' v L:=by
 rcases h with h | ⟨g,o,cap,h1,h2,h3,h4⟩
 ·exact .inl h
 exact .inr ⟨g,o,cap,h1,h2,h3,h4.later hb⟩
theorem RAt.at {w:World}{g o:Nat}{L:List Ru}(h:RAt w g o L){n k:Nat}(hn:L.length=n)(hk:k<n):
 ∃ (p m b q s v:Int) (hl:k<L.length),L[k]=⟨p,m,b,q,s,v⟩∧(w.cell? ⟨g,o+k*6,none⟩=some (.int .i64 p)∧w.cell? ⟨g,o+k*6+1,none⟩=some (.int .i64 m)∧w.cell? ⟨g,o+k*6+2,none⟩=some (.int .i64 b) ∧
   w.cell? ⟨g,o+k*6+3,none⟩=some (.int .i64 q)∧w.cell? ⟨g,o+k*6+4,none⟩=some (.int .i64 s)∧w.cell? ⟨g,o+k*6+5,none⟩=some (.int .i64 v)):=
 have hl:k<L.length:=by omega
 have c:=h k hl
 ⟨_,_,_,_,_,_,hl,rfl,c.c0,c.c1,c.c2,c.c3,c.c4,c.c5⟩
theorem key_ways (p m b o s v p' m' b' o' s' v':Int):
 ((p==p')=false∧keyB ⟨p,m,b,o,s,v⟩ ⟨p',m',b',o',s',v'⟩=false)∨((p==p')=true∧(m==m')=false∧keyB ⟨p,m,b,o,s,v⟩ ⟨p',m',b',o',s',v'⟩=false) ∨
 ((p==p')=true∧(m==m')=true∧(b==b')=false∧keyB ⟨p,m,b,o,s,v⟩ ⟨p',m',b',o',s',v'⟩=false)∨((p==p')=true∧(m==m')=true∧(b==b')=true∧keyB ⟨p,m,b,o,s,v⟩ ⟨p',m',b',o',s',v'⟩=true):=by
 rw[key_eq];by_cases h1:p=p' <;> by_cases h2:m=m' <;> by_cases h3:b=b' <;> simp[h1,h2,h3]
theorem clash_any (p m b o s v p' m' b' o' s' v':Int)(w:World):
 Calls Tryz.prog 81 #[.agg #[.int .i64 p,.int .i64 m,.int .i64 b,.int .i64 o,.int .i64 s,.int .i64 v],.agg #[.int .i64 p',.int .i64 m',.int .i64 b',.int .i64 o',.int .i64 s',.int .i64 v']] w fun e w'=>e=.returned (.bool (keyB ⟨p,m,b,o,s,v⟩ ⟨p',m',b',o',s',v'⟩))∧Below w.heap.size w w':=by
 have HB:Hid (∀o1 o2,Below w.heap.size w ((w.alloc o1).alloc o2)):=fun o1 o2=>((Below.refl _ _).alloc (Nat.le_refl _) o1).alloc (by simp) o2
 rcases key_ways p m b o s v p' m' b' o' s' v' with ⟨e1,e⟩ | ⟨e1,e2,e⟩ | ⟨e1,e2,e3,e⟩ | ⟨e1,e2,e3,e⟩
 all_goals
  rw[e];clear e;go_enter Tryz.func81,Tryz.ntmps81;go_wp2;go_ret;exact⟨rfl,HB.out _ _⟩
def Asks (w:World)(f:FuncId)(c:Value)(P:Ru→Bool):Prop:=
 ∀ (p m b o s v:Int) (W:World),Below w.heap.size w W →
   Calls Tryz.prog f #[.agg #[.int .i64 p,.int .i64 m,.int .i64 b,.int .i64 o,.int .i64 s,.int .i64 v],c] W fun e w'=>e=.returned (.bool (P ⟨p,m,b,o,s,v⟩))∧Below W.heap.size W w'
theorem Asks.later {w w':World}{f:FuncId}{c:Value}{P:Ru→Bool}(h:Asks w f c P)(hb:Below w.heap.size w w'):Asks w' f c P:=
 fun p m b o s v W hW=>h p m b o s v W (hb.trans (hW.mono hb.size))
theorem table1_any (p m b o s v:Int)(r:Ru)(B:Nat)(w:World)(hc:C6 w B 0 r):
 Calls Tryz.prog 80 #[.agg #[.int .i64 p,.int .i64 m,.int .i64 b,.int .i64 o,.int .i64 s,.int .i64 v],.pointer (some ⟨B,0,none⟩)] w fun e w'=>e=.returned (.bool (keyB ⟨p,m,b,o,s,v⟩ r))∧Below w.heap.size w w':=by
 obtain⟨p',m',b',o',s',v'⟩:=r;obtain⟨c0,c1,c2,c3,c4,c5⟩:=hc;simp only[Nat.zero_add] at c0 c1 c2 c3 c4 c5;have hlt:B<w.heap.size:=bLQ _ _ c0;go_enter Tryz.func80,Tryz.ntmps80
 go_wp2_with fail
 refine (clash_any _ _ _ _ _ _ _ _ _ _ _ _ _).mono ?_;rintro e w1 ⟨rfl,hb1⟩;go_wp2;go_ret;exact⟨rfl,((Below.refl _ _).alloc (Nat.le_refl _) _).trans (hb1.mono (by simp))⟩
theorem table1_asks (r:Ru)(B:Nat)(w:World)(hc:C6 w B 0 r):Asks w 80 (.pointer (some ⟨B,0,none⟩)) (fun a=>keyB a r):=
 fun p m b o s v W hW=>table1_any p m b o s v r B W (hc.later hW)
theorem any_nextR {L:List Ru}{f:Ru→Bool}{k:Nat}(hk:k<L.length)(h:(L.take k).any f=false)(h2:f L[k]=false):(L.take (k+1)).any f=false:=by
 rw[List.take_succ_eq_append_getElem hk];simp only[List.any_append,h,List.any_cons,List.any_nil,h2,Bool.or_false]
theorem any_hitR {L:List Ru}{f:Ru→Bool}{k:Nat}(hk:k<L.length)(h2:f L[k]=true):L.any f=true:=List.any_eq_true.2 ⟨_,List.getElem_mem hk,h2⟩
def ixP (f:Ru→Bool)(L:List Ru):Int:=if L.any f then (L.findIdx f:Int) else -1
theorem ixP_hit {L:List Ru}{f:Ru→Bool}{k:Nat}(hk:k<L.length)(h:(L.take k).any f=false)(h2:f L[k]=true):ixP f L=k:=by
 rw[ixP,any_hitR hk h2,if_pos rfl]
 congr 1
 rw[List.findIdx_eq hk];refine⟨h2,fun j hj=>?_⟩;rw[List.any_eq_false] at h;have:=h L[j] (by rw[List.mem_take_iff_getElem];exact⟨j,by omega,rfl⟩);simpa using this
theorem ixP_no {L:List Ru}{f:Ru→Bool}(h:L.any f=false):ixP f L = -1:=by simp[ixP,h]
theorem ixP_any (L:List Ru)(f:Ru→Bool):decide (0≤ixP f L)=L.any f:=by
 unfold ixP;cases L.any f
 ·simp
 simp
theorem SR.form {w:World}{v:Value}{L:List Ru}(h:SR w v L):∃ao n cap,v=.slice ao n cap∧L.length=n∧n≤maxLen∧n≤cap∧(0<n→∃g o,ao=some ⟨g,o,none⟩∧RAt w g o L∧cap≤maxLen):=by
 rcases h with ⟨ao,cap,rfl,rfl⟩ | ⟨g,o,cap,rfl,h1,h2,h3⟩
 ·exact⟨ao,0,cap,rfl,rfl,Nat.zero_le _,Nat.zero_le _,fun h=>absurd h (by omega)⟩
 exact⟨_,_,cap,rfl,rfl,Nat.le_trans h1 h2,h1,fun _=>⟨g,o,rfl,h3,h2⟩⟩
theorem idxF (ao:Option Addr)(n cap:Nat)(f:FuncId)(c:Value)(P:Ru→Bool)(L:List Ru)(w:World)(hn:L.length=n)(hn2:n≤maxLen)(ha:0<n→∃g o,ao=some ⟨g,o,none⟩∧RAt w g o L∧cap≤maxLen)(he:∀args w,(callFunc f args).run Tryz.prog w=.ok (.enter f args) w)(hf:Asks w f c P):
 Calls Tryz.prog 98 #[.slice ao n cap,.func (Fn.func f) #[] #[c]] w fun e w'=>e=.returned (.int .i64 (ixP P L))∧Below w.heap.size w w':=by
 have HN:Hid (L.length=n):=hn;have HF:Hid (Asks w f c P):=hf;have HA:Hid (0<n→∃g o,ao=some ⟨g,o,none⟩∧RAt w g o L∧cap≤maxLen):=ha;unfold maxLen at hn2;clear hn hf ha;go_enter Tryz.func98,Tryz.ntmps98;go_wp2
 go_loopw [8] (fun i wr=>∃k:Nat,k≤n∧i=.int .i64 k∧(L.take k).any P=false∧Below w.heap.size w wr)
  (fun i _=>n-(intOf i).toNat)
 case atStart=>exact⟨0,by omega,rfl,by simp,Below.refl _ _⟩
 case round =>
  obtain⟨k,hk,rfl,hno,hB⟩:=hrel;have HB:Hid (Below w.heap.size w wr):=hB;have HNO:Hid ((L.take k).any P=false):=hno;clear hno;by_cases hlt:k<n
  ·obtain⟨g,o,hao,hc,_⟩:=HA.out (by omega);subst hao;obtain⟨p,m,b,q,s,v,hkl,hL,q0,q1,q2,q3,q4,q5⟩:=(hc.later hB).at HN.out hlt;have HL:Hid (L[k]=⟨p,m,b,q,s,v⟩):=hL;clear hL hB;cases ho:P ⟨p,m,b,q,s,v⟩
   ·go_wp2_with fail
    refine (HF.out p m b q s v _ HB.out).mono ?_;rintro e w1 ⟨rfl,hb1⟩;rw[ho];have HB1:=HB.out.trans (hb1.mono HB.out.size);clear hb1;go_wp2;go_roundw
    case rel=>exact⟨k+1,by omega,by go_num,any_nextR hkl HNO.out (by rw[HL.out];exact ho),HB1⟩
    case measure=>simp[intOf];omega
   go_wp2_with fail
   refine (HF.out p m b q s v _ HB.out).mono ?_;rintro e w1 ⟨rfl,hb1⟩;rw[ho];go_wp2;go_ret;exact⟨by rw[ixP_hit hkl HNO.out (by rw[HL.out];exact ho)];rfl,HB.out.trans (hb1.mono HB.out.size)⟩
  obtain rfl:k=n:=by omega
  go_wp2;go_ret;exact⟨by have:=HNO.out;rw[←HN.out,List.take_length] at this;rw[ixP_no this];rfl,HB.out⟩
theorem containsF (ao:Option Addr)(n cap:Nat)(f:FuncId)(c:Value)(P:Ru→Bool)(L:List Ru)(w:World)(hn:L.length=n)(hn2:n≤maxLen)(ha:0<n→∃g o,ao=some ⟨g,o,none⟩∧RAt w g o L∧cap≤maxLen)(he:∀args w,(callFunc f args).run Tryz.prog w=.ok (.enter f args) w)(hf:Asks w f c P):
 Calls Tryz.prog 79 #[.slice ao n cap,.func (Fn.func f) #[] #[c]] w fun e w'=>e=.returned (.bool (L.any P))∧Below w.heap.size w w':=by
 rw[←ixP_any];obtain⟨x,hx⟩:∃x,x=ixP P L:=⟨_,rfl⟩;have HX:Hid (x=ixP P L):=hx;rw[←hx];clear hx;go_enter Tryz.func79,Tryz.ntmps79
 go_wp2_with fail
 refine (idxF ao n cap f c P L _ hn hn2 ha he hf).mono ?_;rintro e w1 ⟨rfl,hb1⟩;rw[←HX.out];go_wp2;go_ret;exact⟨rfl,hb1⟩
theorem containsR_any (g o cap n B:Nat)(r:Ru)(L:List Ru)(w:World)(hc:RAt w g o L)(hn:L.length=n)(hn2:n≤maxLen)(hcap:cap≤maxLen)(hr:C6 w B 0 r):
 Calls Tryz.prog 79 #[.slice (some ⟨g,o,none⟩) n cap,.func (Fn.func 80) #[] #[.pointer (some ⟨B,0,none⟩)]] w fun e w'=>e=.returned (.bool (L.any (fun a=>keyB a r)))∧Below w.heap.size w w':=
 containsF _ n cap _ _ _ L w hn hn2 (fun _=>⟨g,o,rfl,hc,hcap⟩) (enters_of Tryz.func80 (by kernel_rfl) rfl) (table1_asks r B w hr)
theorem own_below {w w':World}{B e size n:Nat}{v:Value}{xs:List Value}(h:w.ownsRow B e size v n xs)(hb:Below w.heap.size w w'):w'.ownsRow B e size v n xs:=by
 obtain⟨h1,h2 | ⟨g,cap,cur,hv,hB,hg,h3⟩⟩:=h
 ·exact⟨h1,.inl h2⟩
 have hlt:g<w.heap.size:=by
  rcases Nat.lt_or_ge g w.heap.size with h | h
  ·exact h
  rw[Array.getElem?_eq_none h] at hg;cases hg
 exact⟨h1,.inr ⟨g,cap,cur,hv,hB,(hb.block g hlt).trans hg,h3⟩⟩
theorem own_mono {w:World}{B B' e size n:Nat}{v:Value}{xs:List Value}(h:w.ownsRow B e size v n xs)(hB:B'≤B):w.ownsRow B' e size v n xs:=by
 obtain⟨h1,h2 | ⟨g,cap,cur,hv,hb,h3⟩⟩:=h
 ·exact⟨h1,.inl h2⟩
 exact⟨h1,.inr ⟨g,cap,cur,hv,Nat.le_trans hB hb,h3⟩⟩
end
section
open Go.ChangeShapes Go.WideShapes Go.ChangeAt Go.RowKit
def cellsR (L:List Ru):List Value:=L.flatMap fun r=>[.int .i64 r.p,.int .i64 r.m,.int .i64 r.b,.int .i64 r.o,.int .i64 r.s,.int .i64 r.v]
theorem cellsR_len (L:List Ru):(cellsR L).length=L.length*6:=by
 induction L with
 | nil=>rfl
 | cons p r ih=>simp only[cellsR,List.flatMap_cons,List.length_append,List.length_cons,List.length_nil] at *;omega
theorem cellsR_app (L M:List Ru):cellsR (L++M)=cellsR L++cellsR M:=by simp[cellsR]
theorem cellsR_at (L:List Ru)(i:Nat)(h:i<L.length):(cellsR L)[i*6]?=some (.int .i64 (L[i]).p)∧(cellsR L)[i*6+1]?=some (.int .i64 (L[i]).m)∧(cellsR L)[i*6+2]?=some (.int .i64 (L[i]).b) ∧
 (cellsR L)[i*6+3]?=some (.int .i64 (L[i]).o)∧(cellsR L)[i*6+4]?=some (.int .i64 (L[i]).s)∧(cellsR L)[i*6+5]?=some (.int .i64 (L[i]).v):=by
 induction L generalizing i with
 | nil=>simp at h
 | cons p r ih =>
   cases i with
   | zero=>simp[cellsR]
   | succ i =>
     have:=ih i (by simpa using h);have e1:(i+1)*6=i*6+1+1+1+1+1+1:=by omega
     simpa[cellsR,e1] using this
theorem cellsR_one (L:List Ru):∀u∈cellsR L,u.oneCell'=true:=by
 intro u hu;simp only[cellsR,List.mem_flatMap] at hu;obtain⟨p,_,hp⟩:=hu;simp at hp
 rcases hp with rfl | rfl | rfl | rfl | rfl | rfl <;> rfl
theorem own_SR {w:World}{B e:Nat}{v:Value}{L:List Ru}(h:w.ownsRow B e 6 v L.length (cellsR L)):SR w v L:=by
 rcases h.2 with ⟨rfl,h0⟩ | ⟨g,cap,cur,rfl,_,_,h1,h2,_⟩
 ·exact .inl ⟨none,0,rfl,List.length_eq_zero_iff.1 h0⟩
 refine .inr ⟨g,0,cap,rfl,h1,h2,fun i hi=>?_⟩;obtain⟨a0,a1,a2,a3,a4,a5⟩:=cellsR_at L i hi;refine⟨?_,?_,?_,?_,?_,?_⟩
 ·have:=h.cellAt (i*6) (by omega);rw[a0] at this;simpa using this
 ·have:=h.cellAt (i*6+1) (by omega);rw[a1] at this;simpa using this
 ·have:=h.cellAt (i*6+2) (by omega);rw[a2] at this;simpa using this
 ·have:=h.cellAt (i*6+3) (by omega);rw[a3] at this;simpa using this
 ·have:=h.cellAt (i*6+4) (by omega);rw[a4] at this;simpa using this
 have:=h.cellAt (i*6+5) (by omega);rw[a5] at this;simpa using this
theorem infoRule:(Tryz.prog.info? 37).map (fun i=>(i.zero,i.size,i.bytes))=some (some (.agg #[.int .i64 0,.int .i64 0,.int .i64 0,.int .i64 0,.int .i64 0,.int .i64 0]),6,48):=by kernel_rfl
theorem sixCells:(Value.agg #[.int .i64 0,.int .i64 0,.int .i64 0,.int .i64 0,.int .i64 0,.int .i64 0]).cells.size=6:=by simp[Value.cells]
end
section
open Go.RowKit
theorem addr_add (g o j:Nat):(⟨g,o,none⟩:Addr).add j=⟨g,o+j,none⟩:=by
 simp only[Addr.add]
 first
  | rfl
  | (split
     ·next h0=>rw[h0];rfl
     rfl)
theorem RAt.cells {w:World}{g o:Nat}{M:List Ru}(h:RAt w g o M):∀j u,(cellsR M)[j]?=some u→w.cell? ((⟨g,o,none⟩:Addr).add j)=some u:=by
 intro j u hu;have hj:j<M.length*6:=by
  have:=(List.getElem?_eq_some_iff.1 hu).1;rw[cellsR_len] at this;exact this
 rw[addr_add];have hi:j / 6<M.length:=by omega
 obtain⟨c0,c1,c2,c3,c4,c5⟩:=h (j / 6) hi;obtain⟨a0,a1,a2,a3,a4,a5⟩:=cellsR_at M (j / 6) hi;have h6:j=j / 6*6∨j=j / 6*6+1∨j=j / 6*6+2∨j=j / 6*6+3∨j=j / 6*6+4∨j=j / 6*6+5:=by omega
 generalize j / 6=i at *
 rcases h6 with e | e | e | e | e | e
 ·subst e;rw[a0] at hu;cases hu;exact c0
 ·subst e;rw[a1] at hu;cases hu;rw[←Nat.add_assoc];exact c1
 ·subst e;rw[a2] at hu;cases hu;rw[←Nat.add_assoc];exact c2
 ·subst e;rw[a3] at hu;cases hu;rw[←Nat.add_assoc];exact c3
 ·subst e;rw[a4] at hu;cases hu;rw[←Nat.add_assoc];exact c4
 subst e;rw[a5] at hu;cases hu;rw[←Nat.add_assoc];exact c5
theorem run_append_own_none {w:World}(base:Nat)(t ty e:TypeId)(i:TypeInfo)(size cap2:Nat)(ht:Tryz.prog.underlying t=some (.slice e))(hi:Tryz.prog.info? e=some i)
 (v:Value) (n:Nat) (xs:List Value) (hown:w.ownsRow base e size v n xs):
 (Builtin.append_ #[t,t] ty #[v,.slice none 0 cap2]).run Tryz.prog w=.ok v w:=by
 rcases hown.2 with ⟨rfl,rfl⟩ | ⟨g,cap,cur,rfl,_,_,hnc,_⟩
 ·simp[Builtin.append_,run_underlying ht,sizeOf,typeInfo,hi,Builtin.lenOf,Builtin.firstCells]
 simp[Builtin.append_,run_underlying ht,sizeOf,typeInfo,hi,Builtin.lenOf,Builtin.firstCells,hnc,storeCells]
theorem wpList_append_SR (w:World){ops:Array Oper}{rest:List Oper}{o:Oper}{a:Act}{Q:Exit→Act→World→Prop}(hgd:o.guard=none)(s x:Operand)(t:TypeId)
 (ho:o.op=.call { callee:=.builtin .append,args:=#[s,x],argTypes:=#[t,t] }) (ht:Tryz.prog.underlying t=some (.slice 37)) (base:Nat)
 (v:Value) (hs:a.eval s=v) (L:List Ru) (hown:w.ownsRow base 37 6 v L.length (cellsR L)) (u:Value) (hx:a.eval x=u) (M:List Ru) (hM:SR w u M)
 (h100:L.length+M.length≤1000) (hbase:base≤w.heap.size)
 (h:∀v' w',w'.ownsRow base 37 6 v' (L++M).length (cellsR (L++M))→w.grownBy w' v.ownBlock→wpList Tryz.prog ops Q rest (a.put o.dst v') w'):wpList Tryz.prog ops Q (o :: rest) a w:=by
 obtain⟨i0,hi,hz0,hz1,hz2⟩:=info_parts infoRule;have key:∀(ad:Addr) (m c:Nat) (news:List Value),a.eval x=.slice (some ad) m c→news.length=m*6→(∀j u,news[j]?=some u→w.cell? (ad.add j)=some u)→(∀u∈news,u.oneCell'=true)→m=M.length→news=cellsR M→wpList Tryz.prog ops Q (o :: rest) a w:=by
  intro ad m c news e1 e2 e3 e4 e5 e6;refine wpList_append_own w hgd s x t ho base 37 i0 (.agg #[.int .i64 0,.int .i64 0,.int .i64 0,.int .i64 0,.int .i64 0,.int .i64 0]) 6 48 ht hi hz0 hz1 hz2 sixCells (by decide) v _ _ hs hown ad m c news e1 e2 e3 e4 (by unfold maxLen;omega) (by omega) hbase ?_;intro v' w' h1 h2 _;refine h v' w' ?_ h2;rw[List.length_append,cellsR_app,←e5,←e6];exact h1
 rcases hM with ⟨ao,cap,rfl,rfl⟩ | ⟨g,q,cap,rfl,h1,h2,h3⟩
 ·cases ao with
  | none =>
    refine wpList_plain hgd fun K hK=>?_
    have hrun:=run_append_own_none (w:=w) base t o.type 37 i0 6 cap ht hi v _ _ hown;unfold Oper.wp;simp[execOp,ho,resolve,invoke,builtin,hs,hx,hrun,Result.andThen];exact hK _ _ (h v w (by rw[List.append_nil];exact hown) ⟨rfl,rfl,rfl,Nat.le_refl _,fun _ _ _=>rfl⟩)
  | some ad=>exact key ad 0 cap [] hx rfl (by intro j u hu;simp at hu) (by intro u hu;cases hu) rfl rfl
 exact key ⟨g,q,none⟩ M.length cap (cellsR M) hx (cellsR_len M) h3.cells (cellsR_one M) rfl rfl
theorem own_cut {w:World}{base e g n cap i:Nat}{xs:List Value}(h:w.ownsRow base e 6 (.slice (some ⟨g,0,none⟩) n cap) n xs)(hi:i≤n):w.ownsRow base e 6 (.slice (some ⟨g,0,none⟩) i cap) i (xs.take (i*6)):=by
 rcases h.2 with ⟨h',_⟩ | ⟨g',cap',cur,h',hb,hg,hnc,hcm,hcs,htake⟩
 ·simp at h'
 simp only[Value.slice.injEq,Option.some.injEq,Addr.mk.injEq,and_true,true_and] at h';obtain⟨rfl,rfl⟩:=h';refine⟨by rw[List.length_take,h.1];omega,.inr ⟨g,cap,cur,rfl,hb,hg,by omega,hcm,hcs,?_⟩⟩;rw[←htake,List.take_take,Nat.min_eq_left (by omega)]
theorem own_behind {base e g cap i:Nat}:∀(vs:List Value) (o:Nat) (w:World) (xs:List Value),w.ownsRow base e 6 (.slice (some ⟨g,0,none⟩) i cap) i xs→i*6≤o →
 (w.setCells g o vs).ownsRow base e 6 (.slice (some ⟨g,0,none⟩) i cap) i xs∧w.grownBy (w.setCells g o vs) (some g)
 | [],o,w,xs,h,_=>⟨h,rfl,rfl,rfl,Nat.le_refl _,fun _ _ _=>rfl⟩
 | v :: vs,o,w,xs,h,ho=>by
   have h1:=h.stored o v;have e1:xs.set o v=xs:=List.set_eq_of_length_le (by rw[h.1];exact ho);rw[e1] at h1;have h2:=own_behind vs (o+1) _ xs h1.1 (by omega);refine⟨h2.1,?_⟩;exact⟨h2.2.os.trans h1.2.os,h2.2.tape.trans h1.2.tape,h2.2.output.trans h1.2.output,Nat.le_trans h1.2.size h2.2.size,fun k hk hne=>(h2.2.block k (Nat.lt_of_lt_of_le hk h1.2.size) hne).trans (h1.2.block k hk hne)⟩
theorem grow_nil (n:Nat)(w:World)(hn:n≤1000):
 Calls Tryz.prog 92 #[.slice none 0 0,.int .i64 n] w fun e w'=>∃v,e=.returned v∧w'.ownsRow w.heap.size 37 6 v 0 []∧Below w.heap.size w w':=by
 have h1:¬((n:Int)<0):=by omega
 by_cases h0:n=0
 ·subst h0;go_enter Tryz.func92,Tryz.ntmps92;go_wp2;go_ret;exact⟨_,rfl,World.ownsRow_nil _ _ _ _,Below.refl _ _⟩
 obtain⟨i0,hi,hz0,hz1,hz2⟩:=info_parts infoRule;have h3:wrap64 ((n:Int)-0)=(n:Int):=by unfold wrap64;omega
 have h4:(n:Int) > 0:=by omega
 have hrz:∀ty,(Builtin.append_ #[39,3] ty #[.slice none 0 0,.int .i64 n]).run Tryz.prog w =
  .ok (.slice (some ⟨w.heap.size,0,none⟩) n (grownCap w n 0 37)) (w.drew.alloc (.cells (Builtin.zeroCells (Value.agg #[.int .i64 0,.int .i64 0,.int .i64 0,.int .i64 0,.int .i64 0,.int .i64 0]).cells n++Builtin.zeroCells (Value.agg #[.int .i64 0,.int .i64 0,.int .i64 0,.int .i64 0,.int .i64 0,.int .i64 0]).cells (grownCap w n 0 37-n)) 37)):=fun ty =>
  Lib.run_append_nil_zeros w 39 3 ty 37 i0 _ .i64 .i64 Tryz.underlying39 Tryz.underlying3 hi hz0 n (by omega) (by rw[hz1];decide) (by omega) (by rw[hz2];omega)
 have hGn:n≤grownCap w n 0 37:=grownCap_ge w _ _ _;have hGm:grownCap w n 0 37≤maxLen:=grownCap_le_maxLen w n 0 37 (by unfold maxLen;omega)
 generalize grownCap w n 0 37=G at *
 have HM:Hid (G≤maxLen):=hGm;have hG63:G≤9223372036854775807:=by unfold maxLen at hGm;omega
 have HO:Hid ((w.drew.alloc (.cells (Builtin.zeroCells (Value.agg #[.int .i64 0,.int .i64 0,.int .i64 0,.int .i64 0,.int .i64 0,.int .i64 0]).cells n++Builtin.zeroCells (Value.agg #[.int .i64 0,.int .i64 0,.int .i64 0,.int .i64 0,.int .i64 0,.int .i64 0]).cells (G-n)) 37)).ownsRow w.heap.size 37 6 (.slice (some ⟨w.heap.size,0,none⟩) 0 G) 0 []):=
  World.ownsRow_made w.drew _ G (Nat.le_refl _) HM.out (by
   simp only[Array.size_append,size_zeroCells,sixCells,←Nat.add_mul]
   congr 1
   omega)
 clear hGm;go_enter Tryz.func92,Tryz.ntmps92
 go_wp2_with (at_builtin;refine Lib.wpList_append_run _ rfl _ _ _ _ rfl _ _ rfl rfl _ _ (hrz _) ?_)
 all_goals (go_ret;exact⟨_,rfl,HO.out,((Below.refl _ _).drew).alloc (Nat.le_refl _) _⟩)
def PAt (w:World)(g o:Nat)(Ls:List (List Ru)):Prop:=∀i (h:i<Ls.length),∃ao n cap,w.cell? ⟨g,o+i,none⟩=some (.slice ao n cap)∧SR w (.slice ao n cap) Ls[i]
theorem PAt.later {w w':World}{g o:Nat}{Ls:List (List Ru)}(h:PAt w g o Ls)(hb:Below w.heap.size w w'):PAt w' g o Ls:=fun i hi=>by
 obtain⟨ao,n,cap,h1,h2⟩:=h i hi;exact⟨ao,n,cap,cell_later hb h1,h2.later hb⟩
theorem SR.len {w:World}{ao:Option Addr}{n cap:Nat}{L:List Ru}(h:SR w (.slice ao n cap) L):L.length=n:=by
 rcases h with ⟨_,_,e,rfl⟩ | ⟨_,_,_,e,_⟩
 ·simp at e;simp[e]
 simp at e;exact e.2.1.symm
theorem flat_next {Ls:List (List Ru)}{k:Nat}(hk:k<Ls.length):(Ls.take (k+1)).flatten=(Ls.take k).flatten++Ls[k]:=by
 rw[List.take_succ_eq_append_getElem hk];simp only[List.flatten_append,List.flatten_cons,List.flatten_nil,List.append_nil]
theorem flat_le {Ls:List (List Ru)}(k:Nat):(Ls.take k).flatten.length≤Ls.flatten.length:=by
 have:Ls.flatten=(Ls.take k).flatten++(Ls.drop k).flatten:=by rw[←List.flatten_append,List.take_append_drop]
 rw[this,List.length_append];omega
theorem concat_any (g o m cap:Nat)(Ls:List (List Ru))(w:World)(hm:Ls.length=m)(hm2:m≤1000)(hc:PAt w g o Ls)(hs:Ls.flatten.length≤1000):
 Calls Tryz.prog 62 #[.slice (some ⟨g,o,none⟩) m cap] w fun e w'=>∃v,e=.returned v∧w'.ownsRow w.heap.size 37 6 v Ls.flatten.length (cellsR Ls.flatten)∧Below w.heap.size w w':=by
 have HM:Hid (Ls.length=m):=hm;have HC:Hid (PAt w g o Ls):=hc;have HS:Hid (Ls.flatten.length≤1000):=hs;obtain⟨N,hN⟩:∃N,N=Ls.flatten.length:=⟨_,rfl⟩;have HN:Hid (N=Ls.flatten.length):=hN;have hN2:N≤1000:=by omega
 clear hm hc hs hN;go_enter Tryz.func62,Tryz.ntmps62
 go_upto_block 0 with fail
 go_cut [3] from 3 (fun z w'=>z=.int .i64 (N:Int)∧w'=w)
 case first =>
  go_wp2
  go_loopw [3,11] (fun z i wr=>∃k:Nat,k≤m∧i=.int .i64 k∧z=.int .i64 ((Ls.take k).flatten.length:Int)∧wr=w) (fun _ i _=>m-(intOf i).toNat)
  case atStart=>exact⟨0,by omega,rfl,rfl,rfl⟩
  case round =>
   obtain⟨k,hk,rfl,rfl,rfl⟩:=hrel;by_cases hlt:k<m
   ·have hkl:k<Ls.length:=by rw[HM.out];exact hlt
    obtain⟨ao,n,cap2,q0,hsr⟩:=HC.out k hkl;have HT:Hid ((Ls.take (k+1)).flatten.length=(Ls.take k).flatten.length+n):=by
     show _=_;rw[flat_next hkl,List.length_append,hsr.len]
    have hb1:(Ls.take k).flatten.length+n≤1000:=by
     have h1:=flat_le (Ls:=Ls) (k+1);have h2:=HS.out;have h3:=HT.out;omega
    generalize (Ls.take k).flatten.length=z at *
    clear hsr;go_wp2;go_roundw
    case rel=>exact⟨k+1,by omega,by go_num,by rw[HT.out];go_num,by simp⟩
    case measure=>simp[intOf];omega
   obtain rfl:k=m:=by omega
   go_wp2_with fail
   go_meet
   case rel=>exact⟨by rw[←HM.out,List.take_length,HN.out],rfl⟩
 case rest =>
  obtain⟨rfl,rfl⟩:=hcut
  go_wp2_with fail
  refine (grow_nil N _ hN2).mono ?_;rintro e w1 ⟨v,rfl,hown,hB⟩;have HO:Hid (w1.ownsRow wc.heap.size 37 6 v 0 []):=hown;have HB:Hid (Below wc.heap.size wc w1):=hB;clear hown hB;go_wp2
  go_loopw [6,27] (fun u i wr=>∃k:Nat,k≤m∧i=.int .i64 k∧wr.ownsRow wc.heap.size 37 6 u (Ls.take k).flatten.length (cellsR (Ls.take k).flatten)∧Below wc.heap.size wc wr) (fun _ i _=>m-(intOf i).toNat)
  case atStart=>exact⟨0,by omega,rfl,HO.out,HB.out⟩
  case round =>
   obtain⟨k,hk,rfl,hown,hB⟩:=hrel;have HOW:Hid (wr.ownsRow wc.heap.size 37 6 u6 (Ls.take k).flatten.length (cellsR (Ls.take k).flatten)):=hown;have HBW:Hid (Below wc.heap.size wc wr):=hB;clear hown;by_cases hlt:k<m
   ·have hkl:k<Ls.length:=by rw[HM.out];exact hlt
    obtain⟨ao,n,cap2,q0,hsr⟩:=(HC.out.later hB) k hkl;have HSR:Hid (SR wr (.slice ao n cap2) Ls[k]):=hsr;have HL1:Hid ((Ls.take k).flatten.length+Ls[k].length≤1000):=by
     have h1:=flat_le (Ls:=Ls) (k+1);rw[flat_next hkl,List.length_append] at h1;have h2:=HS.out;show _≤_;omega
    clear hsr hB
    go_wp2_with (at_builtin;refine wpList_append_SR _ rfl _ _ 39 rfl Tryz.underlying39 wc.heap.size _ rfl _ HOW.out _ rfl _ HSR.out HL1.out HBW.out.size ?_)
    intro v' w3 hown3 hgrow;have HO5:Hid (w3.ownsRow wc.heap.size 37 6 v' (Ls.take (k+1)).flatten.length (cellsR (Ls.take (k+1)).flatten)):=by
     show w3.ownsRow _ _ _ _ _ _;rw[flat_next hkl,show ((Ls.take k).flatten++Ls[k]).length=(List.take k (List.map List.length Ls)).sum+Ls[k].length by simp];exact hown3
    have HB5:Hid (Below wc.heap.size wc w3):=HBW.out.grown hgrow HBW.out.size (fun g hg=>(HOW.out.lt g hg).1);clear hown3 hgrow q0;go_wp2;go_roundw
    case rel=>exact⟨k+1,by omega,by go_num,HO5.out,HB5.out⟩
    case measure=>simp[intOf];omega
   obtain rfl:k=m:=by omega
   go_wp2;go_ret;refine⟨_,rfl,?_,HBW.out⟩;have:=HOW.out;rw[←HM.out,List.take_length] at this;exact this
theorem eq_ways (p m b o s v p' m' b' o' s' v':Int):
 ((p==p')=false∧eqR ⟨p,m,b,o,s,v⟩ ⟨p',m',b',o',s',v'⟩=false) ∨
 ((p==p')=true∧(m==m')=false∧eqR ⟨p,m,b,o,s,v⟩ ⟨p',m',b',o',s',v'⟩=false) ∨
 ((p==p')=true∧(m==m')=true∧(b==b')=false∧eqR ⟨p,m,b,o,s,v⟩ ⟨p',m',b',o',s',v'⟩=false) ∨
 ((p==p')=true∧(m==m')=true∧(b==b')=true∧(o==o')=false∧eqR ⟨p,m,b,o,s,v⟩ ⟨p',m',b',o',s',v'⟩=false) ∨
 ((p==p')=true∧(m==m')=true∧(b==b')=true∧(o==o')=true∧(s==s')=false∧eqR ⟨p,m,b,o,s,v⟩ ⟨p',m',b',o',s',v'⟩=false) ∨
 ((p==p')=true∧(m==m')=true∧(b==b')=true∧(o==o')=true∧(s==s')=true∧(v==v')=false∧eqR ⟨p,m,b,o,s,v⟩ ⟨p',m',b',o',s',v'⟩=false) ∨
 ((p==p')=true∧(m==m')=true∧(b==b')=true∧(o==o')=true∧(s==s')=true∧(v==v')=true∧eqR ⟨p,m,b,o,s,v⟩ ⟨p',m',b',o',s',v'⟩=true):=by
 unfold eqR;by_cases h1:p=p'
 ·by_cases h2:m=m'
  ·by_cases h3:b=b'
   ·by_cases h4:o=o'
    ·by_cases h5:s=s'
     ·by_cases h6:v=v'
      ·simp[h1,h2,h3,h4,h5,h6]
      simp[h1,h2,h3,h4,h5,h6]
     simp[h1,h2,h3,h4,h5]
    simp[h1,h2,h3,h4]
   simp[h1,h2,h3]
  simp[h1,h2]
 simp[h1]
theorem run_eqlR (p m b o s v p' m' b' o' s' v':Int)(w:World):(binOp .eql 37 (.agg #[.int .i64 p,.int .i64 m,.int .i64 b,.int .i64 o,.int .i64 s,.int .i64 v]) (.agg #[.int .i64 p',.int .i64 m',.int .i64 b',.int .i64 o',.int .i64 s',.int .i64 v'])).run Tryz.prog w=.ok (.bool (eqR ⟨p,m,b,o,s,v⟩ ⟨p',m',b',o',s',v'⟩)) w:=by
 rcases eq_ways p m b o s v p' m' b' o' s' v' with ⟨e1,e⟩ | ⟨e1,e2,e⟩ | ⟨e1,e2,e3,e⟩ | ⟨e1,e2,e3,e4,e⟩ | ⟨e1,e2,e3,e4,e5,e⟩ | ⟨e1,e2,e3,e4,e5,e6,e⟩ | ⟨e1,e2,e3,e4,e5,e6,e⟩
 all_goals
  rw[e];go_simp
def CI (w:World)(B:Nat)(p m b q s v:Int)(g o:Nat)(p' m' b' q' s' v':Int)(w':World):Prop:=
 Below w.heap.size w w'∧(w'.cell? ⟨B,0,none⟩=some (.int .i64 p)∧w'.cell? ⟨B,1,none⟩=some (.int .i64 m)∧w'.cell? ⟨B,2,none⟩=some (.int .i64 b) ∧
  w'.cell? ⟨B,3,none⟩=some (.int .i64 q)∧w'.cell? ⟨B,4,none⟩=some (.int .i64 s)∧w'.cell? ⟨B,5,none⟩=some (.int .i64 v)) ∧
 w'.cell? ⟨g,o,none⟩=some (.int .i64 p')∧w'.cell? ⟨g,o+1,none⟩=some (.int .i64 m')∧w'.cell? ⟨g,o+2,none⟩=some (.int .i64 b') ∧
  w'.cell? ⟨g,o+3,none⟩=some (.int .i64 q')∧w'.cell? ⟨g,o+4,none⟩=some (.int .i64 s')∧w'.cell? ⟨g,o+5,none⟩=some (.int .i64 v')
theorem CI.later {w W W':World}{B:Nat}{p m b q s v:Int}{g o:Nat}{p' m' b' q' s' v':Int}(hb:Below W.heap.size W W')(h:CI w B p m b q s v g o p' m' b' q' s' v' W):CI w B p m b q s v g o p' m' b' q' s' v' W':=by
 obtain⟨h0,⟨h1,h2,h3,h4,h5,h6⟩,k1,k2,k3,k4,k5,k6⟩:=h;exact⟨h0.trans (hb.mono h0.size),⟨cell_later hb h1,cell_later hb h2,cell_later hb h3,cell_later hb h4,cell_later hb h5,cell_later hb h6⟩,cell_later hb k1,cell_later hb k2,cell_later hb k3,cell_later hb k4,cell_later hb k5,cell_later hb k6⟩
theorem index_any (ao:Option Addr)(n cap:Nat)(p m b o s v:Int)(L:List Ru)(w:World)(hn:L.length=n)(hn2:n≤maxLen)(ha:0<n→∃g o,ao=some ⟨g,o,none⟩∧RAt w g o L∧cap≤maxLen):
 Calls Tryz.prog 96 #[.slice ao n cap,.agg #[.int .i64 p,.int .i64 m,.int .i64 b,.int .i64 o,.int .i64 s,.int .i64 v]] w fun e w'=>e=.returned (.int .i64 (ixP (fun a=>eqR ⟨p,m,b,o,s,v⟩ a) L))∧Below w.heap.size w w':=by
 have HN:Hid (L.length=n):=hn;have HA:Hid (0<n→∃g o,ao=some ⟨g,o,none⟩∧RAt w g o L∧cap≤maxLen):=ha;have HC0:=C6.new w p m b o s v 37;have HB0:Hid (Below w.heap.size w (w.alloc (Obj.cells #[.int .i64 p,.int .i64 m,.int .i64 b,.int .i64 o,.int .i64 s,.int .i64 v] 37))):=(Below.refl _ _).alloc (Nat.le_refl _) _;unfold maxLen at hn2;clear hn ha;go_enter Tryz.func96,Tryz.ntmps96;go_wp2
 go_loopw [8] (fun i wr=>∃k:Nat,k≤n∧i=.int .i64 k∧(L.take k).any (fun a=>eqR ⟨p,m,b,o,s,v⟩ a)=false∧Below w.heap.size w wr∧C6 wr w.heap.size 0 ⟨p,m,b,o,s,v⟩)
  (fun i _=>n-(intOf i).toNat)
 case atStart=>exact⟨0,by omega,rfl,by simp,HB0.out,HC0⟩
 case round =>
  obtain⟨k,hk,rfl,hno,hB,hC⟩:=hrel;have HB:Hid (Below w.heap.size w wr):=hB;have HC:Hid (C6 wr w.heap.size 0 ⟨p,m,b,o,s,v⟩):=hC;have HNO:Hid ((L.take k).any (fun a=>eqR ⟨p,m,b,o,s,v⟩ a)=false):=hno;clear hno HC0 HB0;by_cases hlt:k<n
  ·obtain⟨g,og,hao,hc,_⟩:=HA.out (by omega);subst hao;obtain⟨p',m',b',o',s',v',hkl,hL,q0,q1,q2,q3,q4,q5⟩:=(hc.later hB).at HN.out hlt;have HL:Hid (L[k]=⟨p',m',b',o',s',v'⟩):=hL;obtain⟨r0,r1,r2,r3,r4,r5⟩:=hC;simp only[Nat.zero_add] at r0 r1 r2 r3 r4 r5;have HCE:Hid (CI wr w.heap.size p m b o s v g (og+k*6) p' m' b' o' s' v' wr):=⟨Below.refl _ _,⟨r0,r1,r2,r3,r4,r5⟩,q0,q1,q2,q3,q4,q5⟩;clear hL hB HA q0 q1 q2 q3 q4 q5 r0 r1 r2 r3 r4 r5;go_upto_region 4 with fail;have kb0:(0:Int)≤(k:Int):=by omega
   have kb1:(k:Int)<(n:Int):=by omega
   go_cut [16] from 9 to 18 (fun c w'=>c=.bool (eqR ⟨p,m,b,o,s,v⟩ ⟨p',m',b',o',s',v'⟩)∧Below wr.heap.size wr w')
   case first =>
    as_aux_lemma =>
     refine wp_region_quiet (C:=CI wr w.heap.size p m b o s v g (og+k*6) p' m' b' o' s' v') (by kernel_rfl) (by kernel_rfl) (CI.later (W:=wr) (Below.drew (Below.refl _ _)) HCE.out) ?_;simp only[List.toList_toArray];go_big_quiet_want;refine qv (.agg #[.int .i64 p,.int .i64 m,.int .i64 b,.int .i64 o,.int .i64 s,.int .i64 v]) ?_ ?_
     ·rintro w' ⟨z0,⟨z1,z2,z3,z4,z5,z6⟩,y1,y2,y3,y4,y5,y6⟩;go_simp
     simp only[Act.put,AP];go_big_quiet_on;go_big_quiet_want;refine qv (.slice (some ⟨g,og,none⟩) n cap) ?_ ?_
     ·rintro w' ⟨z0,⟨z1,z2,z3,z4,z5,z6⟩,y1,y2,y3,y4,y5,y6⟩;go_simp
     simp only[Act.put,AP];go_big_quiet_on;go_big_quiet_want;refine qv (.int .i64 (k:Int)) ?_ ?_
     ·rintro w' ⟨z0,⟨z1,z2,z3,z4,z5,z6⟩,y1,y2,y3,y4,y5,y6⟩;go_simp
     simp only[Act.put,AP];go_big_quiet_on;go_big_quiet_want;refine qv (.pointer (some ⟨g,og+k*6,none⟩)) ?_ ?_
     ·rintro w' ⟨z0,⟨z1,z2,z3,z4,z5,z6⟩,y1,y2,y3,y4,y5,y6⟩;go_simp
     simp only[Act.put,AP];go_big_quiet_on;go_big_quiet_want;refine qv (.agg #[.int .i64 p',.int .i64 m',.int .i64 b',.int .i64 o',.int .i64 s',.int .i64 v']) ?_ ?_
     ·rintro w' ⟨z0,⟨z1,z2,z3,z4,z5,z6⟩,y1,y2,y3,y4,y5,y6⟩;go_simp
     simp only[Act.put,AP];go_big_quiet_on;go_big_quiet_want;refine quiet_val (v:=.bool (eqR ⟨p,m,b,o,s,v⟩ ⟨p',m',b',o',s',v'⟩)) (fun w' hC=>exec_bin rfl (by go_simp) (run_eqlR p m b o s v p' m' b' o' s' v' w')) ?_;simp only[Act.put,AP];go_big_quiet_on;refine wpQuiet_nil ?_;intro w' hC
     go_wp2_with fail
     go_meet
     case rel=>exact⟨rfl,hC.1⟩
   case rest =>
    obtain⟨rfl,hB2⟩:=hcut;have HB2:Hid (Below w.heap.size w wc):=HB.out.trans (hB2.mono HB.out.size);have HC2:Hid (C6 wc w.heap.size 0 ⟨p,m,b,o,s,v⟩):=HC.out.later hB2;clear hB2;cases ho:eqR ⟨p,m,b,o,s,v⟩ ⟨p',m',b',o',s',v'⟩
    ·go_wp2;go_roundw
     case rel=>exact⟨k+1,by omega,by go_num,any_nextR hkl HNO.out (by rw[HL.out];exact ho),HB2.out,HC2.out⟩
     case measure=>simp[intOf];omega
    go_wp2;go_ret;exact⟨by rw[ixP_hit hkl HNO.out (by rw[HL.out];exact ho)];rfl,HB2.out⟩
  obtain rfl:k=n:=by omega
  go_wp2;go_ret;exact⟨by have:=HNO.out;rw[←HN.out,List.take_length] at this;rw[ixP_no this];rfl,HB.out⟩
theorem tb_long {L:List Ru}(h:12<L.length):tbN L=4:=by simp[tbN,h]
theorem tb_at {L:List Ru}(h:L.length≤12){k:Nat}(hk:k<L.length){x:Int}(h1:tbTo L (k+1)=x)(h2:x≠0):tbN L=x:=by
 subst h1;rw[tbN,if_neg (by omega)];exact to_le h2 hk
theorem to_bad {L:List Ru}{k:Nat}{r:Ru}(hk:k<L.length)(hr:L[k]=r)(h:tbTo L k=0)(h2:r.n≠0):tbTo L (k+1)=r.n:=by
 rw[tbTo,if_pos h,getD_at hk,hr,if_neg h2]
theorem to_clash {L:List Ru}{k:Nat}{r:Ru}(hk:k<L.length)(hr:L[k]=r)(h:tbTo L k=0)(h2:r.n=0)(h3:(L.take k).any (fun a=>keyB a r)=true):tbTo L (k+1)=7:=by
 rw[tbTo,if_pos h,getD_at hk,hr,if_pos h2,h3];rfl
theorem to_next {L:List Ru}{k:Nat}{r:Ru}(hk:k<L.length)(hr:L[k]=r)(h:tbTo L k=0)(h2:r.n=0)(h3:(L.take k).any (fun a=>keyB a r)=false):tbTo L (k+1)=0:=by
 rw[tbTo,if_pos h,getD_at hk,hr,if_pos h2,h3];rfl
theorem table_some (g o cap n:Nat)(L:List Ru)(w:World)(hc:RAt w g o L)(hn:L.length=n)(hl:n≤12)(hcap:n≤cap)(hcap2:cap≤maxLen):
 Calls Tryz.prog 48 #[.slice (some ⟨g,o,none⟩) n cap] w fun e w'=>e=.returned (noV (tbN L))∧Below w.heap.size w w':=by
 have HN:Hid (L.length=n):=hn;unfold maxLen at hcap2;clear hn;go_enter Tryz.func48,Tryz.ntmps48;go_wp2
 go_loopw [12] (fun i wr=>∃k:Nat,k≤n∧i=.int .i64 k∧tbTo L k=0∧Below w.heap.size w wr) (fun i _=>n-(intOf i).toNat)
 case atStart=>exact⟨0,by omega,rfl,rfl,Below.refl _ _⟩
 case round =>
  obtain⟨k,hk,rfl,hno,hB⟩:=hrel;have HB:Hid (Below w.heap.size w wr):=hB;have HNO:Hid (tbTo L k=0):=hno;clear hno;by_cases hlt:k<n
  ·obtain⟨p,m,b,q,s,v,hkl,hL,q0,q1,q2,q3,q4,q5⟩:=(hc.later hB).at HN.out hlt;have HL:Hid (L[k]=⟨p,m,b,q,s,v⟩):=hL;have HC6:=C6.new wr p m b q s v 37;have HRT:=((hc.later hB).later ((Below.refl _ _).alloc (Nat.le_refl _) (Obj.cells #[.int .i64 p,.int .i64 m,.int .i64 b,.int .i64 q,.int .i64 s,.int .i64 v] 37))).take k;have HTL:Hid ((L.take k).length=k):=by show (L.take k).length=k;simp;omega
   have hk2:k≤cap:=by omega
   clear hL hB;by_cases ho:ruN p m b q s v=0
   ·go_wp2_with fail
    refine (ruCheck_any _ _ _ _ _ _ _).mono ?_;rintro e w1 ⟨rfl,hb1⟩;rw[no_ok ho];have HB1:=HB.out.trans (((Below.refl _ _).alloc (Nat.le_refl _) _).trans (hb1.mono (by simp)) |>.mono HB.out.size);have HC7:=HC6.later hb1;have HR7:=HRT.later hb1;clear hb1 HC6 HRT;cases ho2:(L.take k).any (fun a=>keyB a ⟨p,m,b,q,s,v⟩)
    ·go_wp2_with fail
     refine (containsR_any _ _ _ k _ ⟨p,m,b,q,s,v⟩ (L.take k) _ HR7 HTL.out (by unfold maxLen;omega) (by unfold maxLen;omega) HC7).mono ?_;rintro e w2 ⟨rfl,hb2⟩;rw[ho2];have HB2:=HB1.trans (hb2.mono HB1.size);clear hb2;go_wp2;go_roundw
     case rel=>exact⟨k+1,by omega,by go_num,to_next hkl HL.out HNO.out ho ho2,HB2⟩
     case measure=>simp[intOf];omega
    go_wp2_with fail
    refine (containsR_any _ _ _ k _ ⟨p,m,b,q,s,v⟩ (L.take k) _ HR7 HTL.out (by unfold maxLen;omega) (by unfold maxLen;omega) HC7).mono ?_;rintro e w2 ⟨rfl,hb2⟩;rw[ho2];have HB2:=HB1.trans (hb2.mono HB1.size);clear hb2;go_wp2;go_ret;refine⟨?_,HB2⟩;rw[tb_at (by rw[HN.out];exact hl) hkl (to_clash hkl HL.out HNO.out ho ho2) (by decide)];rfl
   go_wp2_with fail
   refine (ruCheck_any _ _ _ _ _ _ _).mono ?_;rintro e w1 ⟨rfl,hb1⟩;rw[no_ne ho];have HB1:=HB.out.trans (((Below.refl _ _).alloc (Nat.le_refl _) _).trans (hb1.mono (by simp)) |>.mono HB.out.size);clear hb1;go_wp2;go_ret;refine⟨?_,HB1⟩;rw[tb_at (by rw[HN.out];exact hl) hkl (to_bad hkl HL.out HNO.out ho) ho,no_ne (show Ru.n ⟨p,m,b,q,s,v⟩≠0 from ho)];rfl
  obtain rfl:k=n:=by omega
  go_wp2;go_ret;refine⟨?_,HB.out⟩;have e1:tbN L=0:=by
   rw[tbN,if_neg (by rw[HN.out];omega),HN.out];exact HNO.out
  rw[e1];rfl
theorem table_long (ao:Option Addr)(cap n:Nat)(w:World)(hl:12<n):
 Calls Tryz.prog 48 #[.slice ao n cap] w fun e w'=>e=.returned (.iface 63 (.int .i64 4))∧Below w.heap.size w w':=by
 go_enter Tryz.func48,Tryz.ntmps48;go_wp2;go_ret;exact⟨rfl,Below.refl _ _⟩
theorem table_nil (ao:Option Addr)(cap:Nat)(w:World):
 Calls Tryz.prog 48 #[.slice ao 0 cap] w fun e w'=>e=.returned .nilIface∧Below w.heap.size w w':=by
 go_enter Tryz.func48,Tryz.ntmps48;go_wp2
 go_loopw [12] (fun i wr=>i=.int .i64 0∧wr=w) (fun i _=>0)
 case atStart=>exact⟨rfl,rfl⟩
 case round =>
  obtain⟨rfl,rfl⟩:=hrel;go_wp2;go_ret;exact⟨rfl,Below.refl _ _⟩
theorem table_any (v:Value)(L:List Ru)(w:World)(h:SR w v L):
 Calls Tryz.prog 48 #[v] w fun e w'=>e=.returned (noV (tbN L))∧Below w.heap.size w w':=by
 rcases h with ⟨ao,cap,rfl,rfl⟩ | ⟨g,o,cap,rfl,h1,h2,hc⟩
 ·exact table_nil ao cap w
 by_cases h12:12<L.length
 ·rw[tb_long h12];exact table_long _ _ _ _ h12
 exact table_some _ _ _ _ L w hc rfl (by omega) h1 h2
theorem with1_any (p m b o s v:Int)(r:Ru)(B:Nat)(w:World)(hc:C6 w B 0 r):
 Calls Tryz.prog 95 #[.agg #[.int .i64 p,.int .i64 m,.int .i64 b,.int .i64 o,.int .i64 s,.int .i64 v],.pointer (some ⟨B,0,none⟩)] w fun e w'=>e=.returned (.bool (keyB ⟨p,m,b,o,s,v⟩ r))∧Below w.heap.size w w':=by
 obtain⟨p',m',b',o',s',v'⟩:=r;obtain⟨c0,c1,c2,c3,c4,c5⟩:=hc;simp only[Nat.zero_add] at c0 c1 c2 c3 c4 c5;have hlt:B<w.heap.size:=bLQ _ _ c0;go_enter Tryz.func95,Tryz.ntmps95
 go_wp2_with fail
 refine (clash_any _ _ _ _ _ _ _ _ _ _ _ _ _).mono ?_;rintro e w1 ⟨rfl,hb1⟩;go_wp2;go_ret;exact⟨rfl,((Below.refl _ _).alloc (Nat.le_refl _) _).trans (hb1.mono (by simp))⟩
theorem with1_asks (r:Ru)(B:Nat)(w:World)(hc:C6 w B 0 r):Asks w 95 (.pointer (some ⟨B,0,none⟩)) (fun a=>keyB a r):=
 fun p m b o s v W hW=>with1_any p m b o s v r B W (hc.later hW)
theorem SR.nil (w:World):SR w (.slice none 0 0) []:=.inl ⟨none,0,rfl,rfl⟩
def NR (w:World)(B:Nat)(v:Value)(L:List Ru):Prop:=w.ownsRow B 37 6 v L.length (cellsR L)
theorem NR.sr {w:World}{B:Nat}{v:Value}{L:List Ru}(h:NR w B v L):SR w v L:=own_SR h
theorem NR.nil (w:World)(B:Nat):NR w B (.slice none 0 0) []:=World.ownsRow_nil w B _ 6
theorem NR.mono {w:World}{B B':Nat}{v:Value}{L:List Ru}(h:NR w B v L)(hB:B'≤B):NR w B' v L:=by
 obtain⟨h1,h2 | ⟨g,cap,cur,hv,hb,h3⟩⟩:=h
 ·exact⟨h1,.inl h2⟩
 exact⟨h1,.inr ⟨g,cap,cur,hv,Nat.le_trans hB hb,h3⟩⟩
theorem NR.later {w w':World}{B:Nat}{v:Value}{L:List Ru}(h:NR w B v L)(hb:Below w.heap.size w w'):NR w' B v L:=h.kept ⟨hb.os,hb.tape,hb.output,hb.size,fun k hk _=>hb.block k hk⟩ (Classical.em _)
theorem NR.of {w:World}{B:Nat}{v:Value}{L M:List Ru}(h:w.ownsRow B 37 6 v L.length (cellsR L))(e:L=M):NR w B v M:=by subst e;exact h
theorem sr_one (w:World)(p m b o s v:Int)(t:TypeId):SR (w.alloc (.cells #[.int .i64 p,.int .i64 m,.int .i64 b,.int .i64 o,.int .i64 s,.int .i64 v] t)) (.slice (some ⟨w.heap.size,0,none⟩) 1 1) [⟨p,m,b,o,s,v⟩]:=by
 refine .inr ⟨w.heap.size,0,1,rfl,Nat.le_refl _,by unfold maxLen;omega,fun i hi=>?_⟩;obtain rfl:i=0:=by simp at hi;omega
 have h:=C6.new w p m b o s v t;simp only[Nat.zero_mul,Nat.add_zero,List.getElem_cons_zero];exact h
theorem pat2 {W:World}{a1 a2:Option Addr}{n1 c1 n2 c2:Nat}{L1 L2:List Ru}(t:TypeId)(h1:SR W (.slice a1 n1 c1) L1)(h2:SR W (.slice a2 n2 c2) L2):
 PAt (W.alloc (.cells #[.slice a1 n1 c1,.slice a2 n2 c2] t)) W.heap.size 0 [L1,L2]:=by
 have hb:Below W.heap.size W (W.alloc (.cells #[.slice a1 n1 c1,.slice a2 n2 c2] t)):=(Below.refl _ _).alloc (Nat.le_refl _) _;intro i hi
 match i,hi with
 | 0,_=>exact⟨a1,n1,c1,by simp,h1.later hb⟩
 | 1,_=>exact⟨a2,n2,c2,by simp,h2.later hb⟩
theorem RAt.drop {w:World}{g o:Nat}{L:List Ru}(h:RAt w g o L)(k:Nat):RAt w g (o+k*6) (L.drop k):=by
 intro i hi;have hi2:k+i<L.length:=by simp at hi;omega
 have:=h (k+i) hi2;rw[List.getElem_drop];have e:o+(k+i)*6=o+k*6+i*6:=by omega
 rw[←e];exact this
theorem ch_hit {L:List Ru}{r:Ru}(h:hitB L r=true):chN L true r=7:=by simp[chN,h]
theorem ch_full {L:List Ru}{r:Ru}(h:hitB L r=false)(h2:12≤L.length):chN L true r=4:=by simp[chN,h,h2]
theorem ch_add {L:List Ru}{r:Ru}(h:hitB L r=false)(h2:¬12≤L.length):chN L true r=0:=by simp[chN,h,h2]
theorem chL_ne {L:List Ru}{a:Bool}{r:Ru}(h:chN L a r≠0):chL L a r=[]:=by simp[chL,h]
theorem chL_add {L:List Ru}{r:Ru}(h:chN L true r=0):chL L true r=L++[r]:=by simp[chL,h]
theorem ch_none {L:List Ru}{r:Ru}(h:inB L r=false):chN L false r=5:=by simp[chN,h]
theorem ch_take {L:List Ru}{r:Ru}(h:inB L r=true):chN L false r=0:=by simp[chN,h]
theorem chL_take {L:List Ru}{r:Ru}(h:chN L false r=0):chL L false r=L.take (ixN L r)++L.drop (ixN L r+1):=by simp[chL,h]
theorem with_any (ao:Option Addr)(n cap:Nat)(p m b o s v:Int)(L:List Ru)(w:World)(hs:SR w (.slice ao n cap) L):
 Calls Tryz.prog 64 #[.slice ao n cap,.agg #[.int .i64 p,.int .i64 m,.int .i64 b,.int .i64 o,.int .i64 s,.int .i64 v]] w fun e w'=>∃u,e=.returned (.tuple #[u,noV (chN L true ⟨p,m,b,o,s,v⟩)])∧NR w' w.heap.size u (chL L true ⟨p,m,b,o,s,v⟩)∧Below w.heap.size w w':=by
 obtain⟨ao',n',cap',e,hn,hn2,hn3,ha⟩:=hs.form;cases e;have HN:Hid (L.length=n):=hn;have HC0:=C6.new w p m b o s v 37;have hB0:Below w.heap.size w (w.alloc (Obj.cells #[.int .i64 p,.int .i64 m,.int .i64 b,.int .i64 o,.int .i64 s,.int .i64 v] 37)):=(Below.refl _ _).alloc (Nat.le_refl _) _;have HS0:Hid (SR (w.alloc (Obj.cells #[.int .i64 p,.int .i64 m,.int .i64 b,.int .i64 o,.int .i64 s,.int .i64 v] 37)) (.slice ao n cap) L):=hs.later hB0;have HA:Hid (0<n→∃g o,ao=some ⟨g,o,none⟩∧RAt w g o L∧cap≤maxLen):=ha;have HB0:Hid (Below w.heap.size w (w.alloc (Obj.cells #[.int .i64 p,.int .i64 m,.int .i64 b,.int .i64 o,.int .i64 s,.int .i64 v] 37))):=hB0;have HM:Hid (n≤maxLen):=hn2;have hn63:n≤9223372036854775807:=by unfold maxLen at hn2;omega
 clear hn ha hs hn2 hB0;cases hh:hitB L ⟨p,m,b,o,s,v⟩
 ·have HH:Hid (L.any (fun a=>keyB a ⟨p,m,b,o,s,v⟩)=false):=hh;by_cases h12:12≤n
  ·rw[ch_full hh (by rw[HN.out];exact h12),chL_ne (by rw[ch_full hh (by rw[HN.out];exact h12)];decide)];clear hh;go_enter Tryz.func64,Tryz.ntmps64
   go_wp2_with fail
   refine (containsF ao n cap _ _ _ L _ HN.out HM.out (fun h=>by obtain⟨g,o,e1,e2,e3⟩:=HA.out h;exact⟨g,o,e1,e2.later HB0.out,e3⟩) (enters_of Tryz.func95 (by kernel_rfl) rfl) (with1_asks ⟨p,m,b,o,s,v⟩ _ _ HC0)).mono ?_;rintro e w1 ⟨rfl,hb1⟩;rw[HH.out];have HB1:Hid (Below w.heap.size w w1):=HB0.out.trans (hb1.mono HB0.out.size);clear hb1;go_wp2;refine bodyPost_ret (v:=.tuple #[.slice none 0 0,.iface 63 (.int .i64 4)]) (by simp[results,Tryz.results64,go_sem]) rfl ⟨_,rfl,NR.nil _ _,HB1.out⟩
  rw[ch_add hh (by rw[HN.out];exact h12),chL_add (ch_add hh (by rw[HN.out];exact h12))];clear hh;go_enter Tryz.func64,Tryz.ntmps64
  go_wp2_with fail
  refine (containsF ao n cap _ _ _ L _ HN.out HM.out (fun h=>by obtain⟨g,o,e1,e2,e3⟩:=HA.out h;exact⟨g,o,e1,e2.later HB0.out,e3⟩) (enters_of Tryz.func95 (by kernel_rfl) rfl) (with1_asks ⟨p,m,b,o,s,v⟩ _ _ HC0)).mono ?_;rintro e w1 ⟨rfl,hb1⟩;rw[HH.out];have HB1:Hid (Below w.heap.size w w1):=HB0.out.trans (hb1.mono HB0.out.size);have HS1:Hid (SR w1 (.slice ao n cap) L):=HS0.out.later hb1;obtain⟨c0,c1,c2,c3,c4,c5⟩:=HC0.later hb1;simp only[Nat.zero_add] at c0 c1 c2 c3 c4 c5;have hlt:w.heap.size<w1.heap.size:=bLQ _ _ c0;clear hb1
  go_wp2_with fail
  have hB2:Below w1.heap.size w1 (w1.alloc (Obj.cells #[.int .i64 p,.int .i64 m,.int .i64 b,.int .i64 o,.int .i64 s,.int .i64 v] 37)):=(Below.refl _ _).alloc (Nat.le_refl _) _;have hp:=pat2 39 (HS1.out.later hB2) (sr_one w1 p m b o s v 37);have hB3:=hB2.trans (((Below.refl _ _).alloc (Nat.le_refl _) (.cells #[.slice ao n cap,.slice (some ⟨w1.heap.size,0,none⟩) 1 1] 39)).mono hB2.size);simp only[World.size_alloc] at hp;refine (concat_any _ 0 2 2 [L,[⟨p,m,b,o,s,v⟩]] _ rfl (by omega) hp (by simp[HN.out];omega)).mono ?_;rintro e w2 ⟨u,rfl,hown,hb2⟩;have HB2:Hid (Below w.heap.size w w2):=HB1.out.trans ((hB3.trans (hb2.mono hB3.size)).mono HB1.out.size);have HO:Hid (NR w2 w.heap.size u (L++[⟨p,m,b,o,s,v⟩])):=(NR.of hown (by simp)).mono (by have:=HB1.out.size;simp;omega);clear hb2 hown hp hB2 hB3;go_wp2;refine bodyPost_ret (v:=.tuple #[u,.nilIface]) (by simp[results,Tryz.results64,go_sem]) rfl ⟨_,rfl,HO.out,HB2.out⟩
 have HH:Hid (L.any (fun a=>keyB a ⟨p,m,b,o,s,v⟩)=true):=hh;rw[ch_hit hh,chL_ne (by rw[ch_hit hh];decide)];clear hh;go_enter Tryz.func64,Tryz.ntmps64
 go_wp2_with fail
 refine (containsF ao n cap _ _ _ L _ HN.out HM.out (fun h=>by obtain⟨g,o,e1,e2,e3⟩:=HA.out h;exact⟨g,o,e1,e2.later HB0.out,e3⟩) (enters_of Tryz.func95 (by kernel_rfl) rfl) (with1_asks ⟨p,m,b,o,s,v⟩ _ _ HC0)).mono ?_;rintro e w1 ⟨rfl,hb1⟩;rw[HH.out];have HB1:Hid (Below w.heap.size w w1):=HB0.out.trans (hb1.mono HB0.out.size);clear hb1;go_wp2;refine bodyPost_ret (v:=.tuple #[.slice none 0 0,.iface 63 (.int .i64 7)]) (by simp[results,Tryz.results64,go_sem]) rfl ⟨_,rfl,NR.nil _ _,HB1.out⟩
theorem keepQ {w1 W W':World}(hb:Below W.heap.size W W')(h:Below w1.heap.size w1 W):Below w1.heap.size w1 W':=h.trans (hb.mono h.size)
theorem ix_no {L:List Ru}{r:Ru}(h:inB L r=false):ixP (fun a=>eqR r a) L = -1:=ixP_no h
theorem ix_yes {L:List Ru}{r:Ru}(h:inB L r=true):ixP (fun a=>eqR r a) L=(ixN L r:Int):=by
 unfold ixP;rw[if_pos (show L.any (fun a=>eqR r a)=true from h)];rfl
theorem ix_lt {L:List Ru}{r:Ru}(h:inB L r=true):ixN L r<L.length:=by
 unfold ixN;rw[List.findIdx_lt_length];simpa[inB] using h
theorem without_any (ao:Option Addr)(n cap:Nat)(p m b o s v:Int)(L:List Ru)(w:World)(hs:SR w (.slice ao n cap) L)(h1000:n≤1000):
 Calls Tryz.prog 65 #[.slice ao n cap,.agg #[.int .i64 p,.int .i64 m,.int .i64 b,.int .i64 o,.int .i64 s,.int .i64 v]] w fun e w'=>∃u,e=.returned (.tuple #[u,noV (chN L false ⟨p,m,b,o,s,v⟩)])∧NR w' w.heap.size u (chL L false ⟨p,m,b,o,s,v⟩)∧Below w.heap.size w w':=by
 obtain⟨ao',n',cap',e,hn,hn2,hn3,ha⟩:=hs.form;cases e;have HN:Hid (L.length=n):=hn;have hB0:Below w.heap.size w (w.alloc (Obj.cells #[.int .i64 p,.int .i64 m,.int .i64 b,.int .i64 o,.int .i64 s,.int .i64 v] 37)):=(Below.refl _ _).alloc (Nat.le_refl _) _;have HA:Hid (0<n→∃g o,ao=some ⟨g,o,none⟩∧RAt w g o L∧cap≤maxLen):=ha;have HB0:Hid (Below w.heap.size w (w.alloc (Obj.cells #[.int .i64 p,.int .i64 m,.int .i64 b,.int .i64 o,.int .i64 s,.int .i64 v] 37))):=hB0;have HM:Hid (n≤maxLen):=hn2;clear hn ha hs hn2 hB0;cases hh:inB L ⟨p,m,b,o,s,v⟩
 ·rw[ch_none hh,chL_ne (by rw[ch_none hh];decide)];have HH:Hid (ixP (fun a=>eqR ⟨p,m,b,o,s,v⟩ a) L = -1):=ix_no hh;clear hh;go_enter Tryz.func65,Tryz.ntmps65
  go_wp2_with fail
  refine (index_any ao n cap p m b o s v L _ HN.out HM.out (fun h=>by obtain⟨g,o,e1,e2,e3⟩:=HA.out h;exact⟨g,o,e1,e2.later HB0.out,e3⟩)).mono ?_;rintro e w1 ⟨rfl,hb1⟩;rw[HH.out];have HB1:Hid (Below w.heap.size w w1):=HB0.out.trans (hb1.mono HB0.out.size);clear hb1;go_wp2;refine bodyPost_ret (v:=.tuple #[.slice none 0 0,.iface 63 (.int .i64 5)]) (by simp[results,Tryz.results65,go_sem]) rfl ⟨_,rfl,NR.nil _ _,HB1.out⟩
 rw[ch_take hh,chL_take (ch_take hh)];have HH:Hid (ixP (fun a=>eqR ⟨p,m,b,o,s,v⟩ a) L=(ixN L ⟨p,m,b,o,s,v⟩:Int)):=ix_yes hh;have hi:ixN L ⟨p,m,b,o,s,v⟩<n:=by
  have:=ix_lt hh;rw[HN.out] at this;exact this
 obtain⟨g,og,hao,hRA,hcm⟩:=HA.out (by omega);subst hao
 generalize ixN L ⟨p,m,b,o,s,v⟩=i at *
 have HRA:Hid (RAt w g og L):=hRA;have HCM:Hid (cap≤maxLen):=hcm;have hc63:(cap:Int)≤9223372036854775807:=by unfold maxLen at hcm;omega
 clear hh hRA hcm HA;go_enter Tryz.func65,Tryz.ntmps65
 go_wp2_with fail
 refine (index_any _ n cap p m b o s v L _ HN.out HM.out (fun h=>⟨g,og,rfl,HRA.out.later HB0.out,HCM.out⟩)).mono ?_;rintro e w1 ⟨rfl,hb1⟩;rw[HH.out];have HB1:Hid (Below w.heap.size w w1):=HB0.out.trans (hb1.mono HB0.out.size);have HR1:Hid (RAt w1 g og L):=(HRA.out.later HB0.out).later hb1;clear hb1;have i0:¬((i:Int)<0):=by omega
 have i01:(0:Int)≤(i:Int):=by omega
 have i1:(i:Int)≤(cap:Int):=by omega
 have i2:((i+1:Nat):Int)≤(n:Int):=by omega
 have i21:(0:Int)≤((i+1:Nat):Int):=by omega
 have i3:IntKind.i64.wrap ((i:Int)+1)=((i+1:Nat):Int):=by rw[IntKind.wrap_i64];omega
 have HT1:Hid (SR w1 (.slice (some ⟨g,og,none⟩) i cap) (L.take i)):=by
  have e1:(L.take i).length=i:=by rw[List.length_take,HN.out];omega
  exact .inr ⟨g,og,cap,by rw[e1],by rw[e1];omega,HCM.out,HR1.out.take i⟩
 have HLEN:Hid ([L.take i,L.drop (i+1)].flatten.length≤1000):=by
  show _≤1000;simp only[List.flatten_cons,List.flatten_nil,List.append_nil,List.length_append,List.length_take,List.length_drop,HN.out];omega
 by_cases hcj:cap=i+1
 ·have HT2:Hid (SR w1 (.slice (some ⟨g,og,none⟩) 0 0) (L.drop (i+1))):=.inl ⟨_,_,rfl,List.drop_eq_nil_of_le (by rw[HN.out];omega)⟩
  generalize hj:i+1=j at i2 i21 i3 hcj
  subst hcj;go_wp2
  go_region_held3 (fun w'=>Below w1.heap.size w1 w') (first | assumption | exact Below.drew (Below.refl _ _) | exact keepQ (by assumption) (by assumption) | exact keepQ (Below.drew (Below.refl _ _)) (by assumption) | exact keepQ (Below.alloc (Below.refl _ _) (Nat.le_refl _) _) (by assumption))
   (first | (go_at_call 62;refine (concat_any _ 0 2 2 [L.take i,L.drop (i+1)] _ rfl (by omega) ((pat2 _ HT1.out HT2.out).later (Below.drew (Below.refl _ _))) HLEN.out).mono ?_;rintro e w' ⟨u,rfl,hown,hb⟩))
  have HO:Hid (NR w' w.heap.size u (L.take i++L.drop (i+1))):=(NR.of hown (by simp)).mono (by have:=HB1.out.size;simp;omega);have HB2:Hid (Below w.heap.size w w'):=HB1.out.trans ((‹Below w1.heap.size w1 w'›).mono HB1.out.size);clear hown;go_wp2;refine bodyPost_ret (v:=.tuple #[u,.nilIface]) (by simp[results,Tryz.results65,go_sem]) rfl ⟨_,rfl,HO.out,HB2.out⟩
 have HT2:Hid (SR w1 (.slice (some ⟨g,og+(i+1)*6,none⟩) (n-(i+1)) (cap-(i+1))) (L.drop (i+1))):=by
  have e1:(L.drop (i+1)).length=n-(i+1):=by rw[List.length_drop,HN.out]
  exact .inr ⟨g,og+(i+1)*6,cap-(i+1),by rw[e1],by rw[e1];omega,Nat.le_trans (Nat.sub_le _ _) HCM.out,HR1.out.drop (i+1)⟩
 generalize hj:i+1=j at i2 i21 i3 hcj HT2 HLEN
 go_wp2
 go_region_held3 (fun w'=>Below w1.heap.size w1 w') (first | assumption | exact Below.drew (Below.refl _ _) | exact keepQ (by assumption) (by assumption) | exact keepQ (Below.drew (Below.refl _ _)) (by assumption) | exact keepQ (Below.alloc (Below.refl _ _) (Nat.le_refl _) _) (by assumption))
  (first | (go_at_call 62;refine (concat_any _ 0 2 2 [L.take i,L.drop j] _ rfl (by omega) ((pat2 _ HT1.out HT2.out).later (Below.drew (Below.refl _ _))) HLEN.out).mono ?_;rintro e w' ⟨u,rfl,hown,hb⟩))
 have HO:Hid (NR w' w.heap.size u (L.take i++L.drop (i+1))):=(NR.of hown (by rw[hj];simp)).mono (by have:=HB1.out.size;simp;omega);have HB2:Hid (Below w.heap.size w w'):=HB1.out.trans ((‹Below w1.heap.size w1 w'›).mono HB1.out.size);clear hown;go_wp2;refine bodyPost_ret (v:=.tuple #[u,.nilIface]) (by simp[results,Tryz.results65,go_sem]) rfl ⟨_,rfl,HO.out,HB2.out⟩
theorem do_tb {L:List Ru}{a:Bool}{r:Ru}(h:tbN L≠0):doN L a r=tbN L∧doL L a r=[]:=by
 have e:doN L a r=tbN L:=by simp[doN,h]
 exact⟨e,by rw[doL,e,if_neg h]⟩
theorem do_ru {L:List Ru}{a:Bool}{r:Ru}(h:tbN L=0)(h2:r.n≠0):doN L a r=r.n∧doL L a r=[]:=by
 have e:doN L a r=r.n:=by simp[doN,h,h2]
 exact⟨e,by rw[doL,e,if_neg h2]⟩
theorem do_ch {L:List Ru}{a:Bool}{r:Ru}(h:tbN L=0)(h2:r.n=0):doN L a r=chN L a r∧doL L a r=chL L a r:=by
 have e:doN L a r=chN L a r:=by simp[doN,h,h2]
 refine⟨e,?_⟩;by_cases h3:chN L a r=0
 ·rw[doL,e,if_pos h3]
 rw[doL,e,if_neg h3,chL_ne h3]
theorem do_own (ao:Option Addr)(n cap:Nat)(a:Bool)(p m b o s v:Int)(L:List Ru)(w:World)(hs:SR w (.slice ao n cap) L):
 Calls Tryz.prog 38 #[.slice ao n cap,.bool a,.agg #[.int .i64 p,.int .i64 m,.int .i64 b,.int .i64 o,.int .i64 s,.int .i64 v]] w fun e w'=>∃u,e=.returned (.tuple #[u,noV (doN L a ⟨p,m,b,o,s,v⟩)])∧NR w' w.heap.size u (doL L a ⟨p,m,b,o,s,v⟩)∧Below w.heap.size w w':=by
 have hB0:Below w.heap.size w (w.alloc (Obj.cells #[.int .i64 p,.int .i64 m,.int .i64 b,.int .i64 o,.int .i64 s,.int .i64 v] 37)):=(Below.refl _ _).alloc (Nat.le_refl _) _;have HC0:=C6.new w p m b o s v 37;have HS0:Hid (SR (w.alloc (Obj.cells #[.int .i64 p,.int .i64 m,.int .i64 b,.int .i64 o,.int .i64 s,.int .i64 v] 37)) (.slice ao n cap) L):=hs.later hB0;have HB0:Hid (Below w.heap.size w (w.alloc (Obj.cells #[.int .i64 p,.int .i64 m,.int .i64 b,.int .i64 o,.int .i64 s,.int .i64 v] 37))):=hB0;have HLN:Hid (L.length=n):=hs.len;clear hs hB0;by_cases h1:tbN L=0
 ·have HT:Hid (tbN L=0):=h1;by_cases h2:(⟨p,m,b,o,s,v⟩:Ru).n=0
  ·have HR:Hid (ruN p m b o s v=0):=h2;have HN1:Hid (n≤1000):=by
    have:=(tb_iff.1 h1).1;have:=HLN.out;show n≤1000;omega
   rw[(do_ch h1 h2).1,(do_ch h1 h2).2];clear h1 h2;cases a
   ·go_enter Tryz.func38,Tryz.ntmps38
    go_wp2_with fail
    refine (table_any _ L _ HS0.out).mono ?_;rintro e w1 ⟨rfl,hb1⟩;rw[no_ok HT.out];have HB1:Hid (Below w.heap.size w w1):=HB0.out.trans (hb1.mono HB0.out.size);have HS1:Hid (SR w1 (.slice ao n cap) L):=HS0.out.later hb1;have HC1:Hid (C6 w1 w.heap.size 0 ⟨p,m,b,o,s,v⟩):=HC0.later hb1;obtain⟨c0,c1,c2,c3,c4,c5⟩:=HC0.later hb1;simp only[Nat.zero_add] at c0 c1 c2 c3 c4 c5;have hlt:w.heap.size<w1.heap.size:=bLQ _ _ c0;clear hb1
    go_wp2_with fail
    refine (ruCheck_any _ _ _ _ _ _ _).mono ?_;rintro e w2 ⟨rfl,hb2⟩;rw[no_ok HR.out];have HB2:Hid (Below w.heap.size w w2):=HB1.out.trans (hb2.mono HB1.out.size);have HS2:Hid (SR w2 (.slice ao n cap) L):=HS1.out.later hb2;obtain⟨d0,d1,d2,d3,d4,d5⟩:=HC1.out.later hb2;simp only[Nat.zero_add] at d0 d1 d2 d3 d4 d5;have hlt2:w.heap.size<w2.heap.size:=bLQ _ _ d0;clear hb2 c0 c1 c2 c3 c4 c5
    go_wp2_with fail
    refine (without_any ao n cap p m b o s v L _ HS2.out HN1.out).mono ?_;rintro e w3 ⟨u,rfl,hsr,hb3⟩;have HB3:Hid (Below w.heap.size w w3):=HB2.out.trans (hb3.mono HB2.out.size);have HO:Hid (NR w3 w.heap.size u (chL L false ⟨p,m,b,o,s,v⟩)):=hsr.mono HB2.out.size;clear hb3 hsr d0 d1 d2 d3 d4 d5
    generalize hE:noV (chN L false ⟨p,m,b,o,s,v⟩)=E
    have HE:Hid (noV (chN L false ⟨p,m,b,o,s,v⟩)=E):=hE;clear hE;go_wp2;refine bodyPost_ret (v:=.tuple #[u,E]) (by simp[results,Tryz.results38,go_sem]) rfl ⟨_,by rw[HE.out],HO.out,HB3.out⟩
   go_enter Tryz.func38,Tryz.ntmps38
   go_wp2_with fail
   refine (table_any _ L _ HS0.out).mono ?_;rintro e w1 ⟨rfl,hb1⟩;rw[no_ok HT.out];have HB1:Hid (Below w.heap.size w w1):=HB0.out.trans (hb1.mono HB0.out.size);have HS1:Hid (SR w1 (.slice ao n cap) L):=HS0.out.later hb1;have HC1:Hid (C6 w1 w.heap.size 0 ⟨p,m,b,o,s,v⟩):=HC0.later hb1;obtain⟨c0,c1,c2,c3,c4,c5⟩:=HC0.later hb1;simp only[Nat.zero_add] at c0 c1 c2 c3 c4 c5;have hlt:w.heap.size<w1.heap.size:=bLQ _ _ c0;clear hb1
   go_wp2_with fail
   refine (ruCheck_any _ _ _ _ _ _ _).mono ?_;rintro e w2 ⟨rfl,hb2⟩;rw[no_ok HR.out];have HB2:Hid (Below w.heap.size w w2):=HB1.out.trans (hb2.mono HB1.out.size);have HS2:Hid (SR w2 (.slice ao n cap) L):=HS1.out.later hb2;obtain⟨d0,d1,d2,d3,d4,d5⟩:=HC1.out.later hb2;simp only[Nat.zero_add] at d0 d1 d2 d3 d4 d5;have hlt2:w.heap.size<w2.heap.size:=bLQ _ _ d0;clear hb2 c0 c1 c2 c3 c4 c5
   go_wp2_with fail
   refine (with_any ao n cap p m b o s v L _ HS2.out).mono ?_;rintro e w3 ⟨u,rfl,hsr,hb3⟩;have HB3:Hid (Below w.heap.size w w3):=HB2.out.trans (hb3.mono HB2.out.size);have HO:Hid (NR w3 w.heap.size u (chL L true ⟨p,m,b,o,s,v⟩)):=hsr.mono HB2.out.size;clear hb3 hsr d0 d1 d2 d3 d4 d5
   generalize hE:noV (chN L true ⟨p,m,b,o,s,v⟩)=E
   have HE:Hid (noV (chN L true ⟨p,m,b,o,s,v⟩)=E):=hE;clear hE;go_wp2;refine bodyPost_ret (v:=.tuple #[u,E]) (by simp[results,Tryz.results38,go_sem]) rfl ⟨_,by rw[HE.out],HO.out,HB3.out⟩
  have HR:Hid (ruN p m b o s v≠0):=h2;rw[(do_ru h1 h2).1,(do_ru h1 h2).2];have HRV:Hid (noV (Ru.n ⟨p,m,b,o,s,v⟩)=.iface 63 (.int .i64 (ruN p m b o s v))):=no_ne h2;clear h1 h2;go_enter Tryz.func38,Tryz.ntmps38
  go_wp2_with fail
  refine (table_any _ L _ HS0.out).mono ?_;rintro e w1 ⟨rfl,hb1⟩;rw[no_ok HT.out];have HB1:Hid (Below w.heap.size w w1):=HB0.out.trans (hb1.mono HB0.out.size);obtain⟨c0,c1,c2,c3,c4,c5⟩:=HC0.later hb1;simp only[Nat.zero_add] at c0 c1 c2 c3 c4 c5;have hlt:w.heap.size<w1.heap.size:=bLQ _ _ c0;clear hb1
  go_wp2_with fail
  refine (ruCheck_any _ _ _ _ _ _ _).mono ?_;rintro e w2 ⟨rfl,hb2⟩;rw[no_ne HR.out];have HB2:Hid (Below w.heap.size w w2):=HB1.out.trans (hb2.mono HB1.out.size);clear hb2 c0 c1 c2 c3 c4 c5;go_wp2;refine bodyPost_ret (v:=.tuple #[.slice none 0 0,.iface 63 (.int .i64 (ruN p m b o s v))]) (by simp[results,Tryz.results38,go_sem]) rfl ⟨_,by rw[HRV.out],NR.nil _ _,HB2.out⟩
 have HT:Hid (tbN L≠0):=h1;rw[(do_tb h1).1,(do_tb h1).2,no_ne h1];clear h1;go_enter Tryz.func38,Tryz.ntmps38
 go_wp2_with fail
 refine (table_any _ L _ HS0.out).mono ?_;rintro e w1 ⟨rfl,hb1⟩;rw[no_ne HT.out];have HB1:Hid (Below w.heap.size w w1):=HB0.out.trans (hb1.mono HB0.out.size);clear hb1;go_wp2;refine bodyPost_ret (v:=.tuple #[.slice none 0 0,.iface 63 (.int .i64 (tbN L))]) (by simp[results,Tryz.results38,go_sem]) rfl ⟨_,rfl,NR.nil _ _,HB1.out⟩
end
end Go.Proofs.YtiokpmlhmlcojaaGreat
