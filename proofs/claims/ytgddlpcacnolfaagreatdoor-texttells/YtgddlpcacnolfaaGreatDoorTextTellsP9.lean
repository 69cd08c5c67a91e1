/- Contracts and facts on the way to TextTells, joined into one text: RefReadRule. -/
import Derived.Test.YtgddlpcacnolfaaGreatDoorTextTellsP8
namespace Go.Proofs.YtgddlpcacnolfaaGreatDoor
set_option linter.unusedSimpArgs false
set_option linter.unusedVariables false
set_option maxHeartbeats 16000000
set_option maxRecDepth 100000
open Go.Proofs.Tryz
open IntKind (i64)
section
open Go.RowKit
theorem PaK.from {w w1:World}{g:Nat}{ws:List ByteArray}{o:Obj}(ho:o=Obj.cells #[.int i64 0,.int i64 0,.int i64 0,.int i64 0,.int i64 0,.int i64 0] 64)
 (hb:Below (w.alloc o).heap.size (w.alloc o) w1) (hg:(w.alloc o).heap.size≤g) (hW:WAt w1 g 0 ws) (h1:1≤ws.length):PaK w g ws w1:=by
 have hs:(w.alloc o).heap.size=w.heap.size+1:=by simp
 have hlt:g<w1.heap.size:=bLQ _ _ (hW 0 (by omega));subst ho;refine⟨below_new _ hb,by have:=hb.size;omega,by omega,hlt,fun k hk=>?_,fun k=>?_,hW⟩
 ·rw[hb.cell (p:=⟨w.heap.size,k,none⟩) (by simp)]
  rcases (by omega:k=0∨k=1∨k=2∨k=3∨k=4∨k=5) with rfl | rfl | rfl | rfl | rfl | rfl <;> simp
 rw[hb.frozen (p:=⟨w.heap.size,k,none⟩) (by simp)];simp
theorem PaK.set {w w1:World}{g R j:Nat}{ws:List ByteArray}(h:PaK w g ws w1)(hR:w.heap.size<R)(hg:g≠R)(x:Value):PaK w g ws (w1.setCell ⟨R,j,none⟩ x):=
 ⟨h.below.setCell (by simp;omega) _,by simpa using h.lt,h.gt,by simpa using h.ltB,fun k hk=>by rw[World.cell?_setCell_other _ _ _ _ (by first | (simp;done) | (simp;omega))];exact h.c k hk,fun k=>by simpa using h.f k,
  fun i hi=>by rw[World.cell?_setCell_other _ _ _ _ (by first | (simp;done) | (simp;omega))];exact h.words i hi⟩
theorem rd_len0 (s:ByteArray)(w:World)(hs:s.size≤1048576)(n:Nat)(hn:(cutA s).length=n)(h3:¬n=3)(h4:¬n=4)(h6:¬n=6):
 Calls prog 30 #[.string s] w fun e w'=>e=.returned (.tuple #[.agg #[.int i64 0,.int i64 0,.int i64 0,.int i64 0,.int i64 0,.int i64 0],.int i64 2])∧Below w.heap.size w w':=by
 have h1:=(cutA_len s).1;go_enter func30,ntmps30
 go_wp2_with fail
 refine (cut_any s _ hs).mono ?_;rintro e w1 ⟨v,rfl,hown,hb1⟩;obtain⟨g,cap,rfl,hg,hcap,hcap2,hW⟩:=own_words hown h1;have hK:=PaK.from rfl hb1 hg hW h1;rw[hn];have HK:Hid (PaK w g (cutA s) w1):=hK;have lt1:=hK.lt;have q0:=hK.c 0 (by omega);have q1:=hK.c 1 (by omega);have q2:=hK.c 2 (by omega);have q3:=hK.c 3 (by omega);have q4:=hK.c 4 (by omega);have q5:=hK.c 5 (by omega);have qf:=hK.f;have e3:(((n:Nat):Int) != 3)=true:=by simp;omega
 have e4:(((n:Nat):Int) != 4)=true:=by simp;omega
 have e6:(((n:Nat):Int) != 6)=true:=by simp;omega
 clear hown hb1 hg hW hcap hn hK h1 h3 h4 h6;go_wp2;refine bodyPost_ret (v:=.tuple #[.agg #[.int i64 0,.int i64 0,.int i64 0,.int i64 0,.int i64 0,.int i64 0],.int i64 2]) (by simp[results,results30,go_sem, *]) rfl ⟨rfl,?_⟩;exact six HK.out.below (nLQ _) _ _ _ _ _ _
theorem rd_num3 (s:ByteArray)(w:World)(hs:s.size≤1048576)(a b c:ByteArray)(hws:cutA s=[a,b,c])(h1:dcOk a=false):
 Calls prog 30 #[.string s] w fun e w'=>e=.returned (.tuple #[.agg #[.int i64 0,.int i64 0,.int i64 0,.int i64 0,.int i64 0,.int i64 0],.int i64 2])∧Below w.heap.size w w':=by
 have hln:(cutA s).length=3:=by rw[hws];rfl
 go_enter func30,ntmps30
 go_wp2_with fail
 refine (cut_any s _ hs).mono ?_;rintro e w1 ⟨v,rfl,hown,hb1⟩;obtain⟨g,cap,rfl,hg,hcap,hcap2,hW⟩:=own_words hown (by omega);have hK:=PaK.from rfl hb1 hg hW (by omega);rw[hln];rw[hws] at hK;clear hown hb1 hg hW hcap hln hws;have HK:Hid (PaK w g [a,b,c] w1):=hK;have lt1:=HK.out.lt;have ltB:=HK.out.ltB;have gt1:=HK.out.gt;have q0:=HK.out.c 0 (by omega);have q1:=HK.out.c 1 (by omega);have q2:=HK.out.c 2 (by omega);have q3:=HK.out.c 3 (by omega);have q4:=HK.out.c 4 (by omega);have q5:=HK.out.c 5 (by omega);have qf:=HK.out.f;have k0:w1.cell? ⟨g,0,none⟩=some (.string a):=by simpa using HK.out.words 0 (by simp)
 have k1:w1.cell? ⟨g,1,none⟩=some (.string b):=by simpa using HK.out.words 1 (by simp)
 have k2:w1.cell? ⟨g,2,none⟩=some (.string c):=by simpa using HK.out.words 2 (by simp)
 clear hK
 go_wp2_with fail
 refine (num_any _ _).mono ?_;rintro e w' ⟨rfl,hw'⟩
 replace hw':=hw'.symm
 subst hw';rw[h1];cases h2:psOk b
 ·go_wp2_with fail
  refine (refRead_any _ _).mono ?_;rintro e w2 ⟨rfl,hb2⟩;rw[h2];have HK2:Hid (PaK w g [a,b,c] (w2.alloc (.cells #[.int i64 (psM b),.int i64 (psB b)] 62))):=(HK.out.later hb2).alloc _;have o0:(w2.alloc (.cells #[.int i64 (psM b),.int i64 (psB b)] 62)).cell? ⟨w2.heap.size,0,none⟩=some (.int i64 (psM b)):=by simp
  have o1:(w2.alloc (.cells #[.int i64 (psM b),.int i64 (psB b)] 62)).cell? ⟨w2.heap.size,1,none⟩=some (.int i64 (psB b)):=by simp
  have ltO:w2.heap.size<(w2.alloc (.cells #[.int i64 (psM b),.int i64 (psB b)] 62)).heap.size:=by simp
  have geO:w.heap.size<w2.heap.size:=(HK.out.later hb2).lt;have neO:g≠w2.heap.size:=Nat.ne_of_lt (HK.out.later hb2).ltB;clear hb2;clear lt1 ltB gt1 q0 q1 q2 q3 q4 q5 qf k0 k1 k2;go_upto_region 7 with fail
  generalize w2.alloc (.cells #[.int i64 (psM b),.int i64 (psB b)] 62)=W2 at *
  generalize w2.heap.size=C at *
  have lt1:=HK2.out.lt;have ltB:=HK2.out.ltB;have gt1:=HK2.out.gt;have q0:=HK2.out.c 0 (by omega);have q1:=HK2.out.c 1 (by omega);have q2:=HK2.out.c 2 (by omega);have q3:=HK2.out.c 3 (by omega);have q4:=HK2.out.c 4 (by omega);have q5:=HK2.out.c 5 (by omega);have qf:=HK2.out.f;have k0:W2.cell? ⟨g,0,none⟩=some (.string a):=by simpa using HK2.out.words 0 (by simp)
  have k1:W2.cell? ⟨g,1,none⟩=some (.string b):=by simpa using HK2.out.words 1 (by simp)
  have k2:W2.cell? ⟨g,2,none⟩=some (.string c):=by simpa using HK2.out.words 2 (by simp)
  go_wp2;refine bodyPost_ret (v:=.tuple #[.agg #[.int i64 0,.int i64 0,.int i64 0,.int i64 0,.int i64 0,.int i64 0],.int i64 2]) (by simp[results,results30,go_sem, *]) rfl ⟨rfl,?_⟩;exact six HK2.out.below (nLQ _) _ _ _ _ _ _
 go_wp2_with fail
 refine (refRead_any _ _).mono ?_;rintro e w2 ⟨rfl,hb2⟩;rw[h2];have HK2:Hid (PaK w g [a,b,c] (w2.alloc (.cells #[.int i64 (psM b),.int i64 (psB b)] 62))):=(HK.out.later hb2).alloc _;have o0:(w2.alloc (.cells #[.int i64 (psM b),.int i64 (psB b)] 62)).cell? ⟨w2.heap.size,0,none⟩=some (.int i64 (psM b)):=by simp
 have o1:(w2.alloc (.cells #[.int i64 (psM b),.int i64 (psB b)] 62)).cell? ⟨w2.heap.size,1,none⟩=some (.int i64 (psB b)):=by simp
 have ltO:w2.heap.size<(w2.alloc (.cells #[.int i64 (psM b),.int i64 (psB b)] 62)).heap.size:=by simp
 have geO:w.heap.size<w2.heap.size:=(HK.out.later hb2).lt;have neO:g≠w2.heap.size:=Nat.ne_of_lt (HK.out.later hb2).ltB;clear hb2;clear lt1 ltB gt1 q0 q1 q2 q3 q4 q5 qf k0 k1 k2;go_upto_region 7 with fail
 generalize w2.alloc (.cells #[.int i64 (psM b),.int i64 (psB b)] 62)=W2 at *
 generalize w2.heap.size=C at *
 have lt1:=HK2.out.lt;have ltB:=HK2.out.ltB;have gt1:=HK2.out.gt;have q0:=HK2.out.c 0 (by omega);have q1:=HK2.out.c 1 (by omega);have q2:=HK2.out.c 2 (by omega);have q3:=HK2.out.c 3 (by omega);have q4:=HK2.out.c 4 (by omega);have q5:=HK2.out.c 5 (by omega);have qf:=HK2.out.f;have k0:W2.cell? ⟨g,0,none⟩=some (.string a):=by simpa using HK2.out.words 0 (by simp)
 have k1:W2.cell? ⟨g,1,none⟩=some (.string b):=by simpa using HK2.out.words 1 (by simp)
 have k2:W2.cell? ⟨g,2,none⟩=some (.string c):=by simpa using HK2.out.words 2 (by simp)
 go_wp2;refine bodyPost_ret (v:=.tuple #[.agg #[.int i64 0,.int i64 0,.int i64 0,.int i64 0,.int i64 0,.int i64 0],.int i64 2]) (by simp[results,results30,go_sem, *]) rfl ⟨rfl,?_⟩;exact six HK2.out.below (nLQ _) _ _ _ _ _ _
theorem rd_cube3 (s:ByteArray)(w:World)(hs:s.size≤1048576)(a b c:ByteArray)(hws:cutA s=[a,b,c])(h1:dcOk a=true)(h2:psOk b=false):
 Calls prog 30 #[.string s] w fun e w'=>e=.returned (.tuple #[.agg #[.int i64 0,.int i64 0,.int i64 0,.int i64 0,.int i64 0,.int i64 0],.int i64 2])∧Below w.heap.size w w':=by
 have hln:(cutA s).length=3:=by rw[hws];rfl
 go_enter func30,ntmps30
 go_wp2_with fail
 refine (cut_any s _ hs).mono ?_;rintro e w1 ⟨v,rfl,hown,hb1⟩;obtain⟨g,cap,rfl,hg,hcap,hcap2,hW⟩:=own_words hown (by omega);have hK:=PaK.from rfl hb1 hg hW (by omega);rw[hln];rw[hws] at hK;clear hown hb1 hg hW hcap hln hws;have HK:Hid (PaK w g [a,b,c] w1):=hK;have lt1:=HK.out.lt;have ltB:=HK.out.ltB;have gt1:=HK.out.gt;have q0:=HK.out.c 0 (by omega);have q1:=HK.out.c 1 (by omega);have q2:=HK.out.c 2 (by omega);have q3:=HK.out.c 3 (by omega);have q4:=HK.out.c 4 (by omega);have q5:=HK.out.c 5 (by omega);have qf:=HK.out.f;have k0:w1.cell? ⟨g,0,none⟩=some (.string a):=by simpa using HK.out.words 0 (by simp)
 have k1:w1.cell? ⟨g,1,none⟩=some (.string b):=by simpa using HK.out.words 1 (by simp)
 have k2:w1.cell? ⟨g,2,none⟩=some (.string c):=by simpa using HK.out.words 2 (by simp)
 clear hK
 go_wp2_with fail
 refine (num_any _ _).mono ?_;rintro e w' ⟨rfl,hw'⟩
 replace hw':=hw'.symm
 subst hw';rw[h1]
 go_wp2_with fail
 refine (refRead_any _ _).mono ?_;rintro e w2 ⟨rfl,hb2⟩;rw[h2];have HK2:Hid (PaK w g [a,b,c] (w2.alloc (.cells #[.int i64 (psM b),.int i64 (psB b)] 62))):=(HK.out.later hb2).alloc _;have o0:(w2.alloc (.cells #[.int i64 (psM b),.int i64 (psB b)] 62)).cell? ⟨w2.heap.size,0,none⟩=some (.int i64 (psM b)):=by simp
 have o1:(w2.alloc (.cells #[.int i64 (psM b),.int i64 (psB b)] 62)).cell? ⟨w2.heap.size,1,none⟩=some (.int i64 (psB b)):=by simp
 have ltO:w2.heap.size<(w2.alloc (.cells #[.int i64 (psM b),.int i64 (psB b)] 62)).heap.size:=by simp
 have geO:w.heap.size<w2.heap.size:=(HK.out.later hb2).lt;have neO:g≠w2.heap.size:=Nat.ne_of_lt (HK.out.later hb2).ltB;clear hb2;clear lt1 ltB gt1 q0 q1 q2 q3 q4 q5 qf k0 k1 k2;go_upto_region 7 with fail
 generalize w2.alloc (.cells #[.int i64 (psM b),.int i64 (psB b)] 62)=W2 at *
 generalize w2.heap.size=C at *
 have lt1:=HK2.out.lt;have ltB:=HK2.out.ltB;have gt1:=HK2.out.gt;have q0:=HK2.out.c 0 (by omega);have q1:=HK2.out.c 1 (by omega);have q2:=HK2.out.c 2 (by omega);have q3:=HK2.out.c 3 (by omega);have q4:=HK2.out.c 4 (by omega);have q5:=HK2.out.c 5 (by omega);have qf:=HK2.out.f;have k0:W2.cell? ⟨g,0,none⟩=some (.string a):=by simpa using HK2.out.words 0 (by simp)
 have k1:W2.cell? ⟨g,1,none⟩=some (.string b):=by simpa using HK2.out.words 1 (by simp)
 have k2:W2.cell? ⟨g,2,none⟩=some (.string c):=by simpa using HK2.out.words 2 (by simp)
 go_wp2;refine bodyPost_ret (v:=.tuple #[.agg #[.int i64 0,.int i64 0,.int i64 0,.int i64 0,.int i64 0,.int i64 0],.int i64 2]) (by simp[results,results30,go_sem, *]) rfl ⟨rfl,?_⟩;exact six HK2.out.below (nLQ _) _ _ _ _ _ _
theorem rd_drop3 (s:ByteArray)(w:World)(hs:s.size≤1048576)(a b c:ByteArray)(hws:cutA s=[a,b,c])(h1:dcOk a=true)(h2:psOk b=true)(h3:(c.toList==[100,114,111,112])=false):
 Calls prog 30 #[.string s] w fun e w'=>e=.returned (.tuple #[.agg #[.int i64 0,.int i64 0,.int i64 0,.int i64 0,.int i64 0,.int i64 0],.int i64 2])∧Below w.heap.size w w':=by
 have hln:(cutA s).length=3:=by rw[hws];rfl
 go_enter func30,ntmps30
 go_wp2_with fail
 refine (cut_any s _ hs).mono ?_;rintro e w1 ⟨v,rfl,hown,hb1⟩;obtain⟨g,cap,rfl,hg,hcap,hcap2,hW⟩:=own_words hown (by omega);have hK:=PaK.from rfl hb1 hg hW (by omega);rw[hln];rw[hws] at hK;clear hown hb1 hg hW hcap hln hws;have HK:Hid (PaK w g [a,b,c] w1):=hK;have lt1:=HK.out.lt;have ltB:=HK.out.ltB;have gt1:=HK.out.gt;have q0:=HK.out.c 0 (by omega);have q1:=HK.out.c 1 (by omega);have q2:=HK.out.c 2 (by omega);have q3:=HK.out.c 3 (by omega);have q4:=HK.out.c 4 (by omega);have q5:=HK.out.c 5 (by omega);have qf:=HK.out.f;have k0:w1.cell? ⟨g,0,none⟩=some (.string a):=by simpa using HK.out.words 0 (by simp)
 have k1:w1.cell? ⟨g,1,none⟩=some (.string b):=by simpa using HK.out.words 1 (by simp)
 have k2:w1.cell? ⟨g,2,none⟩=some (.string c):=by simpa using HK.out.words 2 (by simp)
 clear hK
 go_wp2_with fail
 refine (num_any _ _).mono ?_;rintro e w' ⟨rfl,hw'⟩
 replace hw':=hw'.symm
 subst hw';rw[h1]
 go_wp2_with fail
 refine (refRead_any _ _).mono ?_;rintro e w2 ⟨rfl,hb2⟩;rw[h2];have HK2:Hid (PaK w g [a,b,c] (w2.alloc (.cells #[.int i64 (psM b),.int i64 (psB b)] 62))):=(HK.out.later hb2).alloc _;have o0:(w2.alloc (.cells #[.int i64 (psM b),.int i64 (psB b)] 62)).cell? ⟨w2.heap.size,0,none⟩=some (.int i64 (psM b)):=by simp
 have o1:(w2.alloc (.cells #[.int i64 (psM b),.int i64 (psB b)] 62)).cell? ⟨w2.heap.size,1,none⟩=some (.int i64 (psB b)):=by simp
 have ltO:w2.heap.size<(w2.alloc (.cells #[.int i64 (psM b),.int i64 (psB b)] 62)).heap.size:=by simp
 have geO:w.heap.size<w2.heap.size:=(HK.out.later hb2).lt;have neO:g≠w2.heap.size:=Nat.ne_of_lt (HK.out.later hb2).ltB;clear hb2;clear lt1 ltB gt1 q0 q1 q2 q3 q4 q5 qf k0 k1 k2;go_upto_region 7 with fail
 generalize w2.alloc (.cells #[.int i64 (psM b),.int i64 (psB b)] 62)=W2 at *
 generalize w2.heap.size=C at *
 have lt1:=HK2.out.lt;have ltB:=HK2.out.ltB;have gt1:=HK2.out.gt;have q0:=HK2.out.c 0 (by omega);have q1:=HK2.out.c 1 (by omega);have q2:=HK2.out.c 2 (by omega);have q3:=HK2.out.c 3 (by omega);have q4:=HK2.out.c 4 (by omega);have q5:=HK2.out.c 5 (by omega);have qf:=HK2.out.f;have k0:W2.cell? ⟨g,0,none⟩=some (.string a):=by simpa using HK2.out.words 0 (by simp)
 have k1:W2.cell? ⟨g,1,none⟩=some (.string b):=by simpa using HK2.out.words 1 (by simp)
 have k2:W2.cell? ⟨g,2,none⟩=some (.string c):=by simpa using HK2.out.words 2 (by simp)
 go_upto_region 10 with fail;have HK3:Hid (PaK w g [a,b,c] (W2.alloc (.cells #[.int i64 (dcN a),.int i64 (psM b),.int i64 (psB b),.int i64 0,.int i64 0,.int i64 0] 64))):=HK2.out.alloc _;have r0:(W2.alloc (.cells #[.int i64 (dcN a),.int i64 (psM b),.int i64 (psB b),.int i64 0,.int i64 0,.int i64 0] 64)).cell? ⟨W2.heap.size,0,none⟩=some (.int i64 (dcN a)):=by simp
 have r1:(W2.alloc (.cells #[.int i64 (dcN a),.int i64 (psM b),.int i64 (psB b),.int i64 0,.int i64 0,.int i64 0] 64)).cell? ⟨W2.heap.size,1,none⟩=some (.int i64 (psM b)):=by simp
 have r2:(W2.alloc (.cells #[.int i64 (dcN a),.int i64 (psM b),.int i64 (psB b),.int i64 0,.int i64 0,.int i64 0] 64)).cell? ⟨W2.heap.size,2,none⟩=some (.int i64 (psB b)):=by simp
 have r3:(W2.alloc (.cells #[.int i64 (dcN a),.int i64 (psM b),.int i64 (psB b),.int i64 0,.int i64 0,.int i64 0] 64)).cell? ⟨W2.heap.size,3,none⟩=some (.int i64 0):=by simp
 have r4:(W2.alloc (.cells #[.int i64 (dcN a),.int i64 (psM b),.int i64 (psB b),.int i64 0,.int i64 0,.int i64 0] 64)).cell? ⟨W2.heap.size,4,none⟩=some (.int i64 0):=by simp
 have r5:(W2.alloc (.cells #[.int i64 (dcN a),.int i64 (psM b),.int i64 (psB b),.int i64 0,.int i64 0,.int i64 0] 64)).cell? ⟨W2.heap.size,5,none⟩=some (.int i64 0):=by simp
 have rf:∀k,(W2.alloc (.cells #[.int i64 (dcN a),.int i64 (psM b),.int i64 (psB b),.int i64 0,.int i64 0,.int i64 0] 64)).frozen? ⟨W2.heap.size,k,none⟩=false:=by intro k;simp
 have ltR:W2.heap.size<(W2.alloc (.cells #[.int i64 (dcN a),.int i64 (psM b),.int i64 (psB b),.int i64 0,.int i64 0,.int i64 0] 64)).heap.size:=by simp
 have geR:w.heap.size<W2.heap.size:=HK2.out.lt;have neR:g≠W2.heap.size:=Nat.ne_of_lt HK2.out.ltB;clear lt1 ltB gt1 q0 q1 q2 q3 q4 q5 qf k0 k1 k2;clear o0 o1 ltO geO neO
 generalize W2.alloc (.cells #[.int i64 (dcN a),.int i64 (psM b),.int i64 (psB b),.int i64 0,.int i64 0,.int i64 0] 64)=W3 at *
 generalize W2.heap.size=R at *
 clear HK2;have lt1:=HK3.out.lt;have ltB:=HK3.out.ltB;have gt1:=HK3.out.gt;have q0:=HK3.out.c 0 (by omega);have q1:=HK3.out.c 1 (by omega);have q2:=HK3.out.c 2 (by omega);have q3:=HK3.out.c 3 (by omega);have q4:=HK3.out.c 4 (by omega);have q5:=HK3.out.c 5 (by omega);have qf:=HK3.out.f;have k0:W3.cell? ⟨g,0,none⟩=some (.string a):=by simpa using HK3.out.words 0 (by simp)
 have k1:W3.cell? ⟨g,1,none⟩=some (.string b):=by simpa using HK3.out.words 1 (by simp)
 have k2:W3.cell? ⟨g,2,none⟩=some (.string c):=by simpa using HK3.out.words 2 (by simp)
 have h3n:(c.toList != [100,114,111,112])=true:=by rw[bne,h3];rfl
 go_wp2;refine bodyPost_ret (v:=.tuple #[.agg #[.int i64 0,.int i64 0,.int i64 0,.int i64 0,.int i64 0,.int i64 0],.int i64 2]) (by simp[results,results30,go_sem, *]) rfl ⟨rfl,?_⟩;exact six HK3.out.below (nLQ _) _ _ _ _ _ _
theorem rd_range3 (s:ByteArray)(w:World)(hs:s.size≤1048576)(a b c:ByteArray)(hws:cutA s=[a,b,c])(h1:dcOk a=true)(h2:psOk b=true)(h3:(c.toList==[100,114,111,112])=true)(h9:(ruN (dcN a) (psM b) (psB b) 0 0 0 != 0)=true):
 Calls prog 30 #[.string s] w fun e w'=>e=.returned (.tuple #[.agg #[.int i64 0,.int i64 0,.int i64 0,.int i64 0,.int i64 0,.int i64 0],.int i64 (ruN (dcN a) (psM b) (psB b) 0 0 0)])∧Below w.heap.size w w':=by
 have hln:(cutA s).length=3:=by rw[hws];rfl
 go_enter func30,ntmps30
 go_wp2_with fail
 refine (cut_any s _ hs).mono ?_;rintro e w1 ⟨v,rfl,hown,hb1⟩;obtain⟨g,cap,rfl,hg,hcap,hcap2,hW⟩:=own_words hown (by omega);have hK:=PaK.from rfl hb1 hg hW (by omega);rw[hln];rw[hws] at hK;clear hown hb1 hg hW hcap hln hws;have HK:Hid (PaK w g [a,b,c] w1):=hK;have lt1:=HK.out.lt;have ltB:=HK.out.ltB;have gt1:=HK.out.gt;have q0:=HK.out.c 0 (by omega);have q1:=HK.out.c 1 (by omega);have q2:=HK.out.c 2 (by omega);have q3:=HK.out.c 3 (by omega);have q4:=HK.out.c 4 (by omega);have q5:=HK.out.c 5 (by omega);have qf:=HK.out.f;have k0:w1.cell? ⟨g,0,none⟩=some (.string a):=by simpa using HK.out.words 0 (by simp)
 have k1:w1.cell? ⟨g,1,none⟩=some (.string b):=by simpa using HK.out.words 1 (by simp)
 have k2:w1.cell? ⟨g,2,none⟩=some (.string c):=by simpa using HK.out.words 2 (by simp)
 clear hK
 go_wp2_with fail
 refine (num_any _ _).mono ?_;rintro e w' ⟨rfl,hw'⟩
 replace hw':=hw'.symm
 subst hw';rw[h1]
 go_wp2_with fail
 refine (refRead_any _ _).mono ?_;rintro e w2 ⟨rfl,hb2⟩;rw[h2];have HK2:Hid (PaK w g [a,b,c] (w2.alloc (.cells #[.int i64 (psM b),.int i64 (psB b)] 62))):=(HK.out.later hb2).alloc _;have o0:(w2.alloc (.cells #[.int i64 (psM b),.int i64 (psB b)] 62)).cell? ⟨w2.heap.size,0,none⟩=some (.int i64 (psM b)):=by simp
 have o1:(w2.alloc (.cells #[.int i64 (psM b),.int i64 (psB b)] 62)).cell? ⟨w2.heap.size,1,none⟩=some (.int i64 (psB b)):=by simp
 have ltO:w2.heap.size<(w2.alloc (.cells #[.int i64 (psM b),.int i64 (psB b)] 62)).heap.size:=by simp
 have geO:w.heap.size<w2.heap.size:=(HK.out.later hb2).lt;have neO:g≠w2.heap.size:=Nat.ne_of_lt (HK.out.later hb2).ltB;clear hb2;clear lt1 ltB gt1 q0 q1 q2 q3 q4 q5 qf k0 k1 k2;go_upto_region 7 with fail
 generalize w2.alloc (.cells #[.int i64 (psM b),.int i64 (psB b)] 62)=W2 at *
 generalize w2.heap.size=C at *
 have lt1:=HK2.out.lt;have ltB:=HK2.out.ltB;have gt1:=HK2.out.gt;have q0:=HK2.out.c 0 (by omega);have q1:=HK2.out.c 1 (by omega);have q2:=HK2.out.c 2 (by omega);have q3:=HK2.out.c 3 (by omega);have q4:=HK2.out.c 4 (by omega);have q5:=HK2.out.c 5 (by omega);have qf:=HK2.out.f;have k0:W2.cell? ⟨g,0,none⟩=some (.string a):=by simpa using HK2.out.words 0 (by simp)
 have k1:W2.cell? ⟨g,1,none⟩=some (.string b):=by simpa using HK2.out.words 1 (by simp)
 have k2:W2.cell? ⟨g,2,none⟩=some (.string c):=by simpa using HK2.out.words 2 (by simp)
 go_upto_region 10 with fail;have HK3:Hid (PaK w g [a,b,c] (W2.alloc (.cells #[.int i64 (dcN a),.int i64 (psM b),.int i64 (psB b),.int i64 0,.int i64 0,.int i64 0] 64))):=HK2.out.alloc _;have r0:(W2.alloc (.cells #[.int i64 (dcN a),.int i64 (psM b),.int i64 (psB b),.int i64 0,.int i64 0,.int i64 0] 64)).cell? ⟨W2.heap.size,0,none⟩=some (.int i64 (dcN a)):=by simp
 have r1:(W2.alloc (.cells #[.int i64 (dcN a),.int i64 (psM b),.int i64 (psB b),.int i64 0,.int i64 0,.int i64 0] 64)).cell? ⟨W2.heap.size,1,none⟩=some (.int i64 (psM b)):=by simp
 have r2:(W2.alloc (.cells #[.int i64 (dcN a),.int i64 (psM b),.int i64 (psB b),.int i64 0,.int i64 0,.int i64 0] 64)).cell? ⟨W2.heap.size,2,none⟩=some (.int i64 (psB b)):=by simp
 have r3:(W2.alloc (.cells #[.int i64 (dcN a),.int i64 (psM b),.int i64 (psB b),.int i64 0,.int i64 0,.int i64 0] 64)).cell? ⟨W2.heap.size,3,none⟩=some (.int i64 0):=by simp
 have r4:(W2.alloc (.cells #[.int i64 (dcN a),.int i64 (psM b),.int i64 (psB b),.int i64 0,.int i64 0,.int i64 0] 64)).cell? ⟨W2.heap.size,4,none⟩=some (.int i64 0):=by simp
 have r5:(W2.alloc (.cells #[.int i64 (dcN a),.int i64 (psM b),.int i64 (psB b),.int i64 0,.int i64 0,.int i64 0] 64)).cell? ⟨W2.heap.size,5,none⟩=some (.int i64 0):=by simp
 have rf:∀k,(W2.alloc (.cells #[.int i64 (dcN a),.int i64 (psM b),.int i64 (psB b),.int i64 0,.int i64 0,.int i64 0] 64)).frozen? ⟨W2.heap.size,k,none⟩=false:=by intro k;simp
 have ltR:W2.heap.size<(W2.alloc (.cells #[.int i64 (dcN a),.int i64 (psM b),.int i64 (psB b),.int i64 0,.int i64 0,.int i64 0] 64)).heap.size:=by simp
 have geR:w.heap.size<W2.heap.size:=HK2.out.lt;have neR:g≠W2.heap.size:=Nat.ne_of_lt HK2.out.ltB;clear lt1 ltB gt1 q0 q1 q2 q3 q4 q5 qf k0 k1 k2;clear o0 o1 ltO geO neO
 generalize W2.alloc (.cells #[.int i64 (dcN a),.int i64 (psM b),.int i64 (psB b),.int i64 0,.int i64 0,.int i64 0] 64)=W3 at *
 generalize W2.heap.size=R at *
 clear HK2;have lt1:=HK3.out.lt;have ltB:=HK3.out.ltB;have gt1:=HK3.out.gt;have q0:=HK3.out.c 0 (by omega);have q1:=HK3.out.c 1 (by omega);have q2:=HK3.out.c 2 (by omega);have q3:=HK3.out.c 3 (by omega);have q4:=HK3.out.c 4 (by omega);have q5:=HK3.out.c 5 (by omega);have qf:=HK3.out.f;have k0:W3.cell? ⟨g,0,none⟩=some (.string a):=by simpa using HK3.out.words 0 (by simp)
 have k1:W3.cell? ⟨g,1,none⟩=some (.string b):=by simpa using HK3.out.words 1 (by simp)
 have k2:W3.cell? ⟨g,2,none⟩=some (.string c):=by simpa using HK3.out.words 2 (by simp)
 have h3n:(c.toList != [100,114,111,112])=false:=by rw[bne,h3];rfl
 go_wp2_with fail
 refine (refRule_any _ _ _ _ _ _ _).mono ?_;rintro e w5 ⟨rfl,hb5⟩;have HK5:Hid (PaK w g [a,b,c] w5):=HK3.out.later hb5;clear lt1 ltB gt1 q0 q1 q2 q3 q4 q5 qf k0 k1 k2;have t0:=cell_later hb5 r0;have t1:=cell_later hb5 r1;have t2:=cell_later hb5 r2;have t3:=cell_later hb5 r3;have t4:=cell_later hb5 r4;have t5:=cell_later hb5 r5;have ltT:R<w5.heap.size:=Nat.lt_of_lt_of_le ltR hb5.size;clear hb5 r0 r1 r2 r3 r4 r5 rf ltR;have lt1:=HK5.out.lt;have ltB:=HK5.out.ltB;have gt1:=HK5.out.gt;have q0:=HK5.out.c 0 (by omega);have q1:=HK5.out.c 1 (by omega);have q2:=HK5.out.c 2 (by omega);have q3:=HK5.out.c 3 (by omega);have q4:=HK5.out.c 4 (by omega);have q5:=HK5.out.c 5 (by omega);have qf:=HK5.out.f;have k0:w5.cell? ⟨g,0,none⟩=some (.string a):=by simpa using HK5.out.words 0 (by simp)
 have k1:w5.cell? ⟨g,1,none⟩=some (.string b):=by simpa using HK5.out.words 1 (by simp)
 have k2:w5.cell? ⟨g,2,none⟩=some (.string c):=by simpa using HK5.out.words 2 (by simp)
 go_wp2;refine bodyPost_ret (v:=.tuple #[.agg #[.int i64 0,.int i64 0,.int i64 0,.int i64 0,.int i64 0,.int i64 0],.int i64 (ruN (dcN a) (psM b) (psB b) 0 0 0)]) (by simp[results,results30,go_sem, *]) rfl ⟨rfl,?_⟩;exact six HK5.out.below (nLQ _) _ _ _ _ _ _
theorem rd_good3 (s:ByteArray)(w:World)(hs:s.size≤1048576)(a b c:ByteArray)(hws:cutA s=[a,b,c])(h1:dcOk a=true)(h2:psOk b=true)(h3:(c.toList==[100,114,111,112])=true)(h9:ruN (dcN a) (psM b) (psB b) 0 0 0=0):
 Calls prog 30 #[.string s] w fun e w'=>e=.returned (.tuple #[.agg #[.int i64 (dcN a),.int i64 (psM b),.int i64 (psB b),.int i64 0,.int i64 0,.int i64 0],.int i64 0])∧Below w.heap.size w w':=by
 have hln:(cutA s).length=3:=by rw[hws];rfl
 go_enter func30,ntmps30
 go_wp2_with fail
 refine (cut_any s _ hs).mono ?_;rintro e w1 ⟨v,rfl,hown,hb1⟩;obtain⟨g,cap,rfl,hg,hcap,hcap2,hW⟩:=own_words hown (by omega);have hK:=PaK.from rfl hb1 hg hW (by omega);rw[hln];rw[hws] at hK;clear hown hb1 hg hW hcap hln hws;have HK:Hid (PaK w g [a,b,c] w1):=hK;have lt1:=HK.out.lt;have ltB:=HK.out.ltB;have gt1:=HK.out.gt;have q0:=HK.out.c 0 (by omega);have q1:=HK.out.c 1 (by omega);have q2:=HK.out.c 2 (by omega);have q3:=HK.out.c 3 (by omega);have q4:=HK.out.c 4 (by omega);have q5:=HK.out.c 5 (by omega);have qf:=HK.out.f;have k0:w1.cell? ⟨g,0,none⟩=some (.string a):=by simpa using HK.out.words 0 (by simp)
 have k1:w1.cell? ⟨g,1,none⟩=some (.string b):=by simpa using HK.out.words 1 (by simp)
 have k2:w1.cell? ⟨g,2,none⟩=some (.string c):=by simpa using HK.out.words 2 (by simp)
 clear hK
 go_wp2_with fail
 refine (num_any _ _).mono ?_;rintro e w' ⟨rfl,hw'⟩
 replace hw':=hw'.symm
 subst hw';rw[h1]
 go_wp2_with fail
 refine (refRead_any _ _).mono ?_;rintro e w2 ⟨rfl,hb2⟩;rw[h2];have HK2:Hid (PaK w g [a,b,c] (w2.alloc (.cells #[.int i64 (psM b),.int i64 (psB b)] 62))):=(HK.out.later hb2).alloc _;have o0:(w2.alloc (.cells #[.int i64 (psM b),.int i64 (psB b)] 62)).cell? ⟨w2.heap.size,0,none⟩=some (.int i64 (psM b)):=by simp
 have o1:(w2.alloc (.cells #[.int i64 (psM b),.int i64 (psB b)] 62)).cell? ⟨w2.heap.size,1,none⟩=some (.int i64 (psB b)):=by simp
 have ltO:w2.heap.size<(w2.alloc (.cells #[.int i64 (psM b),.int i64 (psB b)] 62)).heap.size:=by simp
 have geO:w.heap.size<w2.heap.size:=(HK.out.later hb2).lt;have neO:g≠w2.heap.size:=Nat.ne_of_lt (HK.out.later hb2).ltB;clear hb2;clear lt1 ltB gt1 q0 q1 q2 q3 q4 q5 qf k0 k1 k2;go_upto_region 7 with fail
 generalize w2.alloc (.cells #[.int i64 (psM b),.int i64 (psB b)] 62)=W2 at *
 generalize w2.heap.size=C at *
 have lt1:=HK2.out.lt;have ltB:=HK2.out.ltB;have gt1:=HK2.out.gt;have q0:=HK2.out.c 0 (by omega);have q1:=HK2.out.c 1 (by omega);have q2:=HK2.out.c 2 (by omega);have q3:=HK2.out.c 3 (by omega);have q4:=HK2.out.c 4 (by omega);have q5:=HK2.out.c 5 (by omega);have qf:=HK2.out.f;have k0:W2.cell? ⟨g,0,none⟩=some (.string a):=by simpa using HK2.out.words 0 (by simp)
 have k1:W2.cell? ⟨g,1,none⟩=some (.string b):=by simpa using HK2.out.words 1 (by simp)
 have k2:W2.cell? ⟨g,2,none⟩=some (.string c):=by simpa using HK2.out.words 2 (by simp)
 go_upto_region 10 with fail;have HK3:Hid (PaK w g [a,b,c] (W2.alloc (.cells #[.int i64 (dcN a),.int i64 (psM b),.int i64 (psB b),.int i64 0,.int i64 0,.int i64 0] 64))):=HK2.out.alloc _;have r0:(W2.alloc (.cells #[.int i64 (dcN a),.int i64 (psM b),.int i64 (psB b),.int i64 0,.int i64 0,.int i64 0] 64)).cell? ⟨W2.heap.size,0,none⟩=some (.int i64 (dcN a)):=by simp
 have r1:(W2.alloc (.cells #[.int i64 (dcN a),.int i64 (psM b),.int i64 (psB b),.int i64 0,.int i64 0,.int i64 0] 64)).cell? ⟨W2.heap.size,1,none⟩=some (.int i64 (psM b)):=by simp
 have r2:(W2.alloc (.cells #[.int i64 (dcN a),.int i64 (psM b),.int i64 (psB b),.int i64 0,.int i64 0,.int i64 0] 64)).cell? ⟨W2.heap.size,2,none⟩=some (.int i64 (psB b)):=by simp
 have r3:(W2.alloc (.cells #[.int i64 (dcN a),.int i64 (psM b),.int i64 (psB b),.int i64 0,.int i64 0,.int i64 0] 64)).cell? ⟨W2.heap.size,3,none⟩=some (.int i64 0):=by simp
 have r4:(W2.alloc (.cells #[.int i64 (dcN a),.int i64 (psM b),.int i64 (psB b),.int i64 0,.int i64 0,.int i64 0] 64)).cell? ⟨W2.heap.size,4,none⟩=some (.int i64 0):=by simp
 have r5:(W2.alloc (.cells #[.int i64 (dcN a),.int i64 (psM b),.int i64 (psB b),.int i64 0,.int i64 0,.int i64 0] 64)).cell? ⟨W2.heap.size,5,none⟩=some (.int i64 0):=by simp
 have rf:∀k,(W2.alloc (.cells #[.int i64 (dcN a),.int i64 (psM b),.int i64 (psB b),.int i64 0,.int i64 0,.int i64 0] 64)).frozen? ⟨W2.heap.size,k,none⟩=false:=by intro k;simp
 have ltR:W2.heap.size<(W2.alloc (.cells #[.int i64 (dcN a),.int i64 (psM b),.int i64 (psB b),.int i64 0,.int i64 0,.int i64 0] 64)).heap.size:=by simp
 have geR:w.heap.size<W2.heap.size:=HK2.out.lt;have neR:g≠W2.heap.size:=Nat.ne_of_lt HK2.out.ltB;clear lt1 ltB gt1 q0 q1 q2 q3 q4 q5 qf k0 k1 k2;clear o0 o1 ltO geO neO
 generalize W2.alloc (.cells #[.int i64 (dcN a),.int i64 (psM b),.int i64 (psB b),.int i64 0,.int i64 0,.int i64 0] 64)=W3 at *
 generalize W2.heap.size=R at *
 clear HK2;have lt1:=HK3.out.lt;have ltB:=HK3.out.ltB;have gt1:=HK3.out.gt;have q0:=HK3.out.c 0 (by omega);have q1:=HK3.out.c 1 (by omega);have q2:=HK3.out.c 2 (by omega);have q3:=HK3.out.c 3 (by omega);have q4:=HK3.out.c 4 (by omega);have q5:=HK3.out.c 5 (by omega);have qf:=HK3.out.f;have k0:W3.cell? ⟨g,0,none⟩=some (.string a):=by simpa using HK3.out.words 0 (by simp)
 have k1:W3.cell? ⟨g,1,none⟩=some (.string b):=by simpa using HK3.out.words 1 (by simp)
 have k2:W3.cell? ⟨g,2,none⟩=some (.string c):=by simpa using HK3.out.words 2 (by simp)
 have h3n:(c.toList != [100,114,111,112])=false:=by rw[bne,h3];rfl
 go_wp2_with fail
 refine (refRule_any _ _ _ _ _ _ _).mono ?_;rintro e w5 ⟨rfl,hb5⟩;have HK5:Hid (PaK w g [a,b,c] w5):=HK3.out.later hb5;clear lt1 ltB gt1 q0 q1 q2 q3 q4 q5 qf k0 k1 k2;have t0:=cell_later hb5 r0;have t1:=cell_later hb5 r1;have t2:=cell_later hb5 r2;have t3:=cell_later hb5 r3;have t4:=cell_later hb5 r4;have t5:=cell_later hb5 r5;have ltT:R<w5.heap.size:=Nat.lt_of_lt_of_le ltR hb5.size;clear hb5 r0 r1 r2 r3 r4 r5 rf ltR;have lt1:=HK5.out.lt;have ltB:=HK5.out.ltB;have gt1:=HK5.out.gt;have q0:=HK5.out.c 0 (by omega);have q1:=HK5.out.c 1 (by omega);have q2:=HK5.out.c 2 (by omega);have q3:=HK5.out.c 3 (by omega);have q4:=HK5.out.c 4 (by omega);have q5:=HK5.out.c 5 (by omega);have qf:=HK5.out.f;have k0:w5.cell? ⟨g,0,none⟩=some (.string a):=by simpa using HK5.out.words 0 (by simp)
 have k1:w5.cell? ⟨g,1,none⟩=some (.string b):=by simpa using HK5.out.words 1 (by simp)
 have k2:w5.cell? ⟨g,2,none⟩=some (.string c):=by simpa using HK5.out.words 2 (by simp)
 rw[h9];go_wp2;refine bodyPost_ret (v:=.tuple #[.agg #[.int i64 (dcN a),.int i64 (psM b),.int i64 (psB b),.int i64 0,.int i64 0,.int i64 0],.int i64 0]) (by simp[results,results30,go_sem, *]) rfl ⟨rfl,?_⟩;exact six HK5.out.below (nLQ _) _ _ _ _ _ _
theorem rd_num4 (s:ByteArray)(w:World)(hs:s.size≤1048576)(a b c d:ByteArray)(hws:cutA s=[a,b,c,d])(h1:dcOk a=false):
 Calls prog 30 #[.string s] w fun e w'=>e=.returned (.tuple #[.agg #[.int i64 0,.int i64 0,.int i64 0,.int i64 0,.int i64 0,.int i64 0],.int i64 2])∧Below w.heap.size w w':=by
 have hln:(cutA s).length=4:=by rw[hws];rfl
 go_enter func30,ntmps30
 go_wp2_with fail
 refine (cut_any s _ hs).mono ?_;rintro e w1 ⟨v,rfl,hown,hb1⟩;obtain⟨g,cap,rfl,hg,hcap,hcap2,hW⟩:=own_words hown (by omega);have hK:=PaK.from rfl hb1 hg hW (by omega);rw[hln];rw[hws] at hK;clear hown hb1 hg hW hcap hln hws;have HK:Hid (PaK w g [a,b,c,d] w1):=hK;have lt1:=HK.out.lt;have ltB:=HK.out.ltB;have gt1:=HK.out.gt;have q0:=HK.out.c 0 (by omega);have q1:=HK.out.c 1 (by omega);have q2:=HK.out.c 2 (by omega);have q3:=HK.out.c 3 (by omega);have q4:=HK.out.c 4 (by omega);have q5:=HK.out.c 5 (by omega);have qf:=HK.out.f;have k0:w1.cell? ⟨g,0,none⟩=some (.string a):=by simpa using HK.out.words 0 (by simp)
 have k1:w1.cell? ⟨g,1,none⟩=some (.string b):=by simpa using HK.out.words 1 (by simp)
 have k2:w1.cell? ⟨g,2,none⟩=some (.string c):=by simpa using HK.out.words 2 (by simp)
 have k3:w1.cell? ⟨g,3,none⟩=some (.string d):=by simpa using HK.out.words 3 (by simp)
 clear hK
 go_wp2_with fail
 refine (num_any _ _).mono ?_;rintro e w' ⟨rfl,hw'⟩
 replace hw':=hw'.symm
 subst hw';rw[h1];cases h2:psOk b
 ·go_wp2_with fail
  refine (refRead_any _ _).mono ?_;rintro e w2 ⟨rfl,hb2⟩;rw[h2];have HK2:Hid (PaK w g [a,b,c,d] (w2.alloc (.cells #[.int i64 (psM b),.int i64 (psB b)] 62))):=(HK.out.later hb2).alloc _;have o0:(w2.alloc (.cells #[.int i64 (psM b),.int i64 (psB b)] 62)).cell? ⟨w2.heap.size,0,none⟩=some (.int i64 (psM b)):=by simp
  have o1:(w2.alloc (.cells #[.int i64 (psM b),.int i64 (psB b)] 62)).cell? ⟨w2.heap.size,1,none⟩=some (.int i64 (psB b)):=by simp
  have ltO:w2.heap.size<(w2.alloc (.cells #[.int i64 (psM b),.int i64 (psB b)] 62)).heap.size:=by simp
  have geO:w.heap.size<w2.heap.size:=(HK.out.later hb2).lt;have neO:g≠w2.heap.size:=Nat.ne_of_lt (HK.out.later hb2).ltB;clear hb2;clear lt1 ltB gt1 q0 q1 q2 q3 q4 q5 qf k0 k1 k2 k3;go_upto_region 7 with fail
  generalize w2.alloc (.cells #[.int i64 (psM b),.int i64 (psB b)] 62)=W2 at *
  generalize w2.heap.size=C at *
  have lt1:=HK2.out.lt;have ltB:=HK2.out.ltB;have gt1:=HK2.out.gt;have q0:=HK2.out.c 0 (by omega);have q1:=HK2.out.c 1 (by omega);have q2:=HK2.out.c 2 (by omega);have q3:=HK2.out.c 3 (by omega);have q4:=HK2.out.c 4 (by omega);have q5:=HK2.out.c 5 (by omega);have qf:=HK2.out.f;have k0:W2.cell? ⟨g,0,none⟩=some (.string a):=by simpa using HK2.out.words 0 (by simp)
  have k1:W2.cell? ⟨g,1,none⟩=some (.string b):=by simpa using HK2.out.words 1 (by simp)
  have k2:W2.cell? ⟨g,2,none⟩=some (.string c):=by simpa using HK2.out.words 2 (by simp)
  have k3:W2.cell? ⟨g,3,none⟩=some (.string d):=by simpa using HK2.out.words 3 (by simp)
  go_wp2;refine bodyPost_ret (v:=.tuple #[.agg #[.int i64 0,.int i64 0,.int i64 0,.int i64 0,.int i64 0,.int i64 0],.int i64 2]) (by simp[results,results30,go_sem, *]) rfl ⟨rfl,?_⟩;exact six HK2.out.below (nLQ _) _ _ _ _ _ _
 go_wp2_with fail
 refine (refRead_any _ _).mono ?_;rintro e w2 ⟨rfl,hb2⟩;rw[h2];have HK2:Hid (PaK w g [a,b,c,d] (w2.alloc (.cells #[.int i64 (psM b),.int i64 (psB b)] 62))):=(HK.out.later hb2).alloc _;have o0:(w2.alloc (.cells #[.int i64 (psM b),.int i64 (psB b)] 62)).cell? ⟨w2.heap.size,0,none⟩=some (.int i64 (psM b)):=by simp
 have o1:(w2.alloc (.cells #[.int i64 (psM b),.int i64 (psB b)] 62)).cell? ⟨w2.heap.size,1,none⟩=some (.int i64 (psB b)):=by simp
 have ltO:w2.heap.size<(w2.alloc (.cells #[.int i64 (psM b),.int i64 (psB b)] 62)).heap.size:=by simp
 have geO:w.heap.size<w2.heap.size:=(HK.out.later hb2).lt;have neO:g≠w2.heap.size:=Nat.ne_of_lt (HK.out.later hb2).ltB;clear hb2;clear lt1 ltB gt1 q0 q1 q2 q3 q4 q5 qf k0 k1 k2 k3;go_upto_region 7 with fail
 generalize w2.alloc (.cells #[.int i64 (psM b),.int i64 (psB b)] 62)=W2 at *
 generalize w2.heap.size=C at *
 have lt1:=HK2.out.lt;have ltB:=HK2.out.ltB;have gt1:=HK2.out.gt;have q0:=HK2.out.c 0 (by omega);have q1:=HK2.out.c 1 (by omega);have q2:=HK2.out.c 2 (by omega);have q3:=HK2.out.c 3 (by omega);have q4:=HK2.out.c 4 (by omega);have q5:=HK2.out.c 5 (by omega);have qf:=HK2.out.f;have k0:W2.cell? ⟨g,0,none⟩=some (.string a):=by simpa using HK2.out.words 0 (by simp)
 have k1:W2.cell? ⟨g,1,none⟩=some (.string b):=by simpa using HK2.out.words 1 (by simp)
 have k2:W2.cell? ⟨g,2,none⟩=some (.string c):=by simpa using HK2.out.words 2 (by simp)
 have k3:W2.cell? ⟨g,3,none⟩=some (.string d):=by simpa using HK2.out.words 3 (by simp)
 go_wp2;refine bodyPost_ret (v:=.tuple #[.agg #[.int i64 0,.int i64 0,.int i64 0,.int i64 0,.int i64 0,.int i64 0],.int i64 2]) (by simp[results,results30,go_sem, *]) rfl ⟨rfl,?_⟩;exact six HK2.out.below (nLQ _) _ _ _ _ _ _
theorem rd_cube4 (s:ByteArray)(w:World)(hs:s.size≤1048576)(a b c d:ByteArray)(hws:cutA s=[a,b,c,d])(h1:dcOk a=true)(h2:psOk b=false):
 Calls prog 30 #[.string s] w fun e w'=>e=.returned (.tuple #[.agg #[.int i64 0,.int i64 0,.int i64 0,.int i64 0,.int i64 0,.int i64 0],.int i64 2])∧Below w.heap.size w w':=by
 have hln:(cutA s).length=4:=by rw[hws];rfl
 go_enter func30,ntmps30
 go_wp2_with fail
 refine (cut_any s _ hs).mono ?_;rintro e w1 ⟨v,rfl,hown,hb1⟩;obtain⟨g,cap,rfl,hg,hcap,hcap2,hW⟩:=own_words hown (by omega);have hK:=PaK.from rfl hb1 hg hW (by omega);rw[hln];rw[hws] at hK;clear hown hb1 hg hW hcap hln hws;have HK:Hid (PaK w g [a,b,c,d] w1):=hK;have lt1:=HK.out.lt;have ltB:=HK.out.ltB;have gt1:=HK.out.gt;have q0:=HK.out.c 0 (by omega);have q1:=HK.out.c 1 (by omega);have q2:=HK.out.c 2 (by omega);have q3:=HK.out.c 3 (by omega);have q4:=HK.out.c 4 (by omega);have q5:=HK.out.c 5 (by omega);have qf:=HK.out.f;have k0:w1.cell? ⟨g,0,none⟩=some (.string a):=by simpa using HK.out.words 0 (by simp)
 have k1:w1.cell? ⟨g,1,none⟩=some (.string b):=by simpa using HK.out.words 1 (by simp)
 have k2:w1.cell? ⟨g,2,none⟩=some (.string c):=by simpa using HK.out.words 2 (by simp)
 have k3:w1.cell? ⟨g,3,none⟩=some (.string d):=by simpa using HK.out.words 3 (by simp)
 clear hK
 go_wp2_with fail
 refine (num_any _ _).mono ?_;rintro e w' ⟨rfl,hw'⟩
 replace hw':=hw'.symm
 subst hw';rw[h1]
 go_wp2_with fail
 refine (refRead_any _ _).mono ?_;rintro e w2 ⟨rfl,hb2⟩;rw[h2];have HK2:Hid (PaK w g [a,b,c,d] (w2.alloc (.cells #[.int i64 (psM b),.int i64 (psB b)] 62))):=(HK.out.later hb2).alloc _;have o0:(w2.alloc (.cells #[.int i64 (psM b),.int i64 (psB b)] 62)).cell? ⟨w2.heap.size,0,none⟩=some (.int i64 (psM b)):=by simp
 have o1:(w2.alloc (.cells #[.int i64 (psM b),.int i64 (psB b)] 62)).cell? ⟨w2.heap.size,1,none⟩=some (.int i64 (psB b)):=by simp
 have ltO:w2.heap.size<(w2.alloc (.cells #[.int i64 (psM b),.int i64 (psB b)] 62)).heap.size:=by simp
 have geO:w.heap.size<w2.heap.size:=(HK.out.later hb2).lt;have neO:g≠w2.heap.size:=Nat.ne_of_lt (HK.out.later hb2).ltB;clear hb2;clear lt1 ltB gt1 q0 q1 q2 q3 q4 q5 qf k0 k1 k2 k3;go_upto_region 7 with fail
 generalize w2.alloc (.cells #[.int i64 (psM b),.int i64 (psB b)] 62)=W2 at *
 generalize w2.heap.size=C at *
 have lt1:=HK2.out.lt;have ltB:=HK2.out.ltB;have gt1:=HK2.out.gt;have q0:=HK2.out.c 0 (by omega);have q1:=HK2.out.c 1 (by omega);have q2:=HK2.out.c 2 (by omega);have q3:=HK2.out.c 3 (by omega);have q4:=HK2.out.c 4 (by omega);have q5:=HK2.out.c 5 (by omega);have qf:=HK2.out.f;have k0:W2.cell? ⟨g,0,none⟩=some (.string a):=by simpa using HK2.out.words 0 (by simp)
 have k1:W2.cell? ⟨g,1,none⟩=some (.string b):=by simpa using HK2.out.words 1 (by simp)
 have k2:W2.cell? ⟨g,2,none⟩=some (.string c):=by simpa using HK2.out.words 2 (by simp)
 have k3:W2.cell? ⟨g,3,none⟩=some (.string d):=by simpa using HK2.out.words 3 (by simp)
 go_wp2;refine bodyPost_ret (v:=.tuple #[.agg #[.int i64 0,.int i64 0,.int i64 0,.int i64 0,.int i64 0,.int i64 0],.int i64 2]) (by simp[results,results30,go_sem, *]) rfl ⟨rfl,?_⟩;exact six HK2.out.below (nLQ _) _ _ _ _ _ _
theorem rd_out4 (s:ByteArray)(w:World)(hs:s.size≤1048576)(a b c d:ByteArray)(hws:cutA s=[a,b,c,d])(h1:dcOk a=true)(h2:psOk b=true)(h3:(c.toList==[111,117,116])=false):
 Calls prog 30 #[.string s] w fun e w'=>e=.returned (.tuple #[.agg #[.int i64 0,.int i64 0,.int i64 0,.int i64 0,.int i64 0,.int i64 0],.int i64 2])∧Below w.heap.size w w':=by
 have hln:(cutA s).length=4:=by rw[hws];rfl
 go_enter func30,ntmps30
 go_wp2_with fail
 refine (cut_any s _ hs).mono ?_;rintro e w1 ⟨v,rfl,hown,hb1⟩;obtain⟨g,cap,rfl,hg,hcap,hcap2,hW⟩:=own_words hown (by omega);have hK:=PaK.from rfl hb1 hg hW (by omega);rw[hln];rw[hws] at hK;clear hown hb1 hg hW hcap hln hws;have HK:Hid (PaK w g [a,b,c,d] w1):=hK;have lt1:=HK.out.lt;have ltB:=HK.out.ltB;have gt1:=HK.out.gt;have q0:=HK.out.c 0 (by omega);have q1:=HK.out.c 1 (by omega);have q2:=HK.out.c 2 (by omega);have q3:=HK.out.c 3 (by omega);have q4:=HK.out.c 4 (by omega);have q5:=HK.out.c 5 (by omega);have qf:=HK.out.f;have k0:w1.cell? ⟨g,0,none⟩=some (.string a):=by simpa using HK.out.words 0 (by simp)
 have k1:w1.cell? ⟨g,1,none⟩=some (.string b):=by simpa using HK.out.words 1 (by simp)
 have k2:w1.cell? ⟨g,2,none⟩=some (.string c):=by simpa using HK.out.words 2 (by simp)
 have k3:w1.cell? ⟨g,3,none⟩=some (.string d):=by simpa using HK.out.words 3 (by simp)
 clear hK
 go_wp2_with fail
 refine (num_any _ _).mono ?_;rintro e w' ⟨rfl,hw'⟩
 replace hw':=hw'.symm
 subst hw';rw[h1]
 go_wp2_with fail
 refine (refRead_any _ _).mono ?_;rintro e w2 ⟨rfl,hb2⟩;rw[h2];have HK2:Hid (PaK w g [a,b,c,d] (w2.alloc (.cells #[.int i64 (psM b),.int i64 (psB b)] 62))):=(HK.out.later hb2).alloc _;have o0:(w2.alloc (.cells #[.int i64 (psM b),.int i64 (psB b)] 62)).cell? ⟨w2.heap.size,0,none⟩=some (.int i64 (psM b)):=by simp
 have o1:(w2.alloc (.cells #[.int i64 (psM b),.int i64 (psB b)] 62)).cell? ⟨w2.heap.size,1,none⟩=some (.int i64 (psB b)):=by simp
 have ltO:w2.heap.size<(w2.alloc (.cells #[.int i64 (psM b),.int i64 (psB b)] 62)).heap.size:=by simp
 have geO:w.heap.size<w2.heap.size:=(HK.out.later hb2).lt;have neO:g≠w2.heap.size:=Nat.ne_of_lt (HK.out.later hb2).ltB;clear hb2;clear lt1 ltB gt1 q0 q1 q2 q3 q4 q5 qf k0 k1 k2 k3;go_upto_region 7 with fail
 generalize w2.alloc (.cells #[.int i64 (psM b),.int i64 (psB b)] 62)=W2 at *
 generalize w2.heap.size=C at *
 have lt1:=HK2.out.lt;have ltB:=HK2.out.ltB;have gt1:=HK2.out.gt;have q0:=HK2.out.c 0 (by omega);have q1:=HK2.out.c 1 (by omega);have q2:=HK2.out.c 2 (by omega);have q3:=HK2.out.c 3 (by omega);have q4:=HK2.out.c 4 (by omega);have q5:=HK2.out.c 5 (by omega);have qf:=HK2.out.f;have k0:W2.cell? ⟨g,0,none⟩=some (.string a):=by simpa using HK2.out.words 0 (by simp)
 have k1:W2.cell? ⟨g,1,none⟩=some (.string b):=by simpa using HK2.out.words 1 (by simp)
 have k2:W2.cell? ⟨g,2,none⟩=some (.string c):=by simpa using HK2.out.words 2 (by simp)
 have k3:W2.cell? ⟨g,3,none⟩=some (.string d):=by simpa using HK2.out.words 3 (by simp)
 go_upto_region 10 with fail;have HK3:Hid (PaK w g [a,b,c,d] (W2.alloc (.cells #[.int i64 (dcN a),.int i64 (psM b),.int i64 (psB b),.int i64 0,.int i64 0,.int i64 0] 64))):=HK2.out.alloc _;have r0:(W2.alloc (.cells #[.int i64 (dcN a),.int i64 (psM b),.int i64 (psB b),.int i64 0,.int i64 0,.int i64 0] 64)).cell? ⟨W2.heap.size,0,none⟩=some (.int i64 (dcN a)):=by simp
 have r1:(W2.alloc (.cells #[.int i64 (dcN a),.int i64 (psM b),.int i64 (psB b),.int i64 0,.int i64 0,.int i64 0] 64)).cell? ⟨W2.heap.size,1,none⟩=some (.int i64 (psM b)):=by simp
 have r2:(W2.alloc (.cells #[.int i64 (dcN a),.int i64 (psM b),.int i64 (psB b),.int i64 0,.int i64 0,.int i64 0] 64)).cell? ⟨W2.heap.size,2,none⟩=some (.int i64 (psB b)):=by simp
 have r3:(W2.alloc (.cells #[.int i64 (dcN a),.int i64 (psM b),.int i64 (psB b),.int i64 0,.int i64 0,.int i64 0] 64)).cell? ⟨W2.heap.size,3,none⟩=some (.int i64 0):=by simp
 have r4:(W2.alloc (.cells #[.int i64 (dcN a),.int i64 (psM b),.int i64 (psB b),.int i64 0,.int i64 0,.int i64 0] 64)).cell? ⟨W2.heap.size,4,none⟩=some (.int i64 0):=by simp
 have r5:(W2.alloc (.cells #[.int i64 (dcN a),.int i64 (psM b),.int i64 (psB b),.int i64 0,.int i64 0,.int i64 0] 64)).cell? ⟨W2.heap.size,5,none⟩=some (.int i64 0):=by simp
 have rf:∀k,(W2.alloc (.cells #[.int i64 (dcN a),.int i64 (psM b),.int i64 (psB b),.int i64 0,.int i64 0,.int i64 0] 64)).frozen? ⟨W2.heap.size,k,none⟩=false:=by intro k;simp
 have ltR:W2.heap.size<(W2.alloc (.cells #[.int i64 (dcN a),.int i64 (psM b),.int i64 (psB b),.int i64 0,.int i64 0,.int i64 0] 64)).heap.size:=by simp
 have geR:w.heap.size<W2.heap.size:=HK2.out.lt;have neR:g≠W2.heap.size:=Nat.ne_of_lt HK2.out.ltB;clear lt1 ltB gt1 q0 q1 q2 q3 q4 q5 qf k0 k1 k2 k3;clear o0 o1 ltO geO neO
 generalize W2.alloc (.cells #[.int i64 (dcN a),.int i64 (psM b),.int i64 (psB b),.int i64 0,.int i64 0,.int i64 0] 64)=W3 at *
 generalize W2.heap.size=R at *
 clear HK2;have lt1:=HK3.out.lt;have ltB:=HK3.out.ltB;have gt1:=HK3.out.gt;have q0:=HK3.out.c 0 (by omega);have q1:=HK3.out.c 1 (by omega);have q2:=HK3.out.c 2 (by omega);have q3:=HK3.out.c 3 (by omega);have q4:=HK3.out.c 4 (by omega);have q5:=HK3.out.c 5 (by omega);have qf:=HK3.out.f;have k0:W3.cell? ⟨g,0,none⟩=some (.string a):=by simpa using HK3.out.words 0 (by simp)
 have k1:W3.cell? ⟨g,1,none⟩=some (.string b):=by simpa using HK3.out.words 1 (by simp)
 have k2:W3.cell? ⟨g,2,none⟩=some (.string c):=by simpa using HK3.out.words 2 (by simp)
 have k3:W3.cell? ⟨g,3,none⟩=some (.string d):=by simpa using HK3.out.words 3 (by simp)
 have h3n:(c.toList != [111,117,116])=true:=by rw[bne,h3];rfl
 go_wp2_with fail
 refine (num_any _ _).mono ?_;rintro e w' ⟨rfl,hw'⟩
 replace hw':=hw'.symm
 subst hw';go_wp2;refine bodyPost_ret (v:=.tuple #[.agg #[.int i64 0,.int i64 0,.int i64 0,.int i64 0,.int i64 0,.int i64 0],.int i64 2]) (by simp[results,results30,go_sem, *]) rfl ⟨rfl,?_⟩;exact six HK3.out.below (nLQ _) _ _ _ _ _ _
theorem rd_port4 (s:ByteArray)(w:World)(hs:s.size≤1048576)(a b c d:ByteArray)(hws:cutA s=[a,b,c,d])(h1:dcOk a=true)(h2:psOk b=true)(h3:(c.toList==[111,117,116])=true)(h5:dcOk d=false):
 Calls prog 30 #[.string s] w fun e w'=>e=.returned (.tuple #[.agg #[.int i64 0,.int i64 0,.int i64 0,.int i64 0,.int i64 0,.int i64 0],.int i64 2])∧Below w.heap.size w w':=by
 have hln:(cutA s).length=4:=by rw[hws];rfl
 go_enter func30,ntmps30
 go_wp2_with fail
 refine (cut_any s _ hs).mono ?_;rintro e w1 ⟨v,rfl,hown,hb1⟩;obtain⟨g,cap,rfl,hg,hcap,hcap2,hW⟩:=own_words hown (by omega);have hK:=PaK.from rfl hb1 hg hW (by omega);rw[hln];rw[hws] at hK;clear hown hb1 hg hW hcap hln hws;have HK:Hid (PaK w g [a,b,c,d] w1):=hK;have lt1:=HK.out.lt;have ltB:=HK.out.ltB;have gt1:=HK.out.gt;have q0:=HK.out.c 0 (by omega);have q1:=HK.out.c 1 (by omega);have q2:=HK.out.c 2 (by omega);have q3:=HK.out.c 3 (by omega);have q4:=HK.out.c 4 (by omega);have q5:=HK.out.c 5 (by omega);have qf:=HK.out.f;have k0:w1.cell? ⟨g,0,none⟩=some (.string a):=by simpa using HK.out.words 0 (by simp)
 have k1:w1.cell? ⟨g,1,none⟩=some (.string b):=by simpa using HK.out.words 1 (by simp)
 have k2:w1.cell? ⟨g,2,none⟩=some (.string c):=by simpa using HK.out.words 2 (by simp)
 have k3:w1.cell? ⟨g,3,none⟩=some (.string d):=by simpa using HK.out.words 3 (by simp)
 clear hK
 go_wp2_with fail
 refine (num_any _ _).mono ?_;rintro e w' ⟨rfl,hw'⟩
 replace hw':=hw'.symm
 subst hw';rw[h1]
 go_wp2_with fail
 refine (refRead_any _ _).mono ?_;rintro e w2 ⟨rfl,hb2⟩;rw[h2];have HK2:Hid (PaK w g [a,b,c,d] (w2.alloc (.cells #[.int i64 (psM b),.int i64 (psB b)] 62))):=(HK.out.later hb2).alloc _;have o0:(w2.alloc (.cells #[.int i64 (psM b),.int i64 (psB b)] 62)).cell? ⟨w2.heap.size,0,none⟩=some (.int i64 (psM b)):=by simp
 have o1:(w2.alloc (.cells #[.int i64 (psM b),.int i64 (psB b)] 62)).cell? ⟨w2.heap.size,1,none⟩=some (.int i64 (psB b)):=by simp
 have ltO:w2.heap.size<(w2.alloc (.cells #[.int i64 (psM b),.int i64 (psB b)] 62)).heap.size:=by simp
 have geO:w.heap.size<w2.heap.size:=(HK.out.later hb2).lt;have neO:g≠w2.heap.size:=Nat.ne_of_lt (HK.out.later hb2).ltB;clear hb2;clear lt1 ltB gt1 q0 q1 q2 q3 q4 q5 qf k0 k1 k2 k3;go_upto_region 7 with fail
 generalize w2.alloc (.cells #[.int i64 (psM b),.int i64 (psB b)] 62)=W2 at *
 generalize w2.heap.size=C at *
 have lt1:=HK2.out.lt;have ltB:=HK2.out.ltB;have gt1:=HK2.out.gt;have q0:=HK2.out.c 0 (by omega);have q1:=HK2.out.c 1 (by omega);have q2:=HK2.out.c 2 (by omega);have q3:=HK2.out.c 3 (by omega);have q4:=HK2.out.c 4 (by omega);have q5:=HK2.out.c 5 (by omega);have qf:=HK2.out.f;have k0:W2.cell? ⟨g,0,none⟩=some (.string a):=by simpa using HK2.out.words 0 (by simp)
 have k1:W2.cell? ⟨g,1,none⟩=some (.string b):=by simpa using HK2.out.words 1 (by simp)
 have k2:W2.cell? ⟨g,2,none⟩=some (.string c):=by simpa using HK2.out.words 2 (by simp)
 have k3:W2.cell? ⟨g,3,none⟩=some (.string d):=by simpa using HK2.out.words 3 (by simp)
 go_upto_region 10 with fail;have HK3:Hid (PaK w g [a,b,c,d] (W2.alloc (.cells #[.int i64 (dcN a),.int i64 (psM b),.int i64 (psB b),.int i64 0,.int i64 0,.int i64 0] 64))):=HK2.out.alloc _;have r0:(W2.alloc (.cells #[.int i64 (dcN a),.int i64 (psM b),.int i64 (psB b),.int i64 0,.int i64 0,.int i64 0] 64)).cell? ⟨W2.heap.size,0,none⟩=some (.int i64 (dcN a)):=by simp
 have r1:(W2.alloc (.cells #[.int i64 (dcN a),.int i64 (psM b),.int i64 (psB b),.int i64 0,.int i64 0,.int i64 0] 64)).cell? ⟨W2.heap.size,1,none⟩=some (.int i64 (psM b)):=by simp
 have r2:(W2.alloc (.cells #[.int i64 (dcN a),.int i64 (psM b),.int i64 (psB b),.int i64 0,.int i64 0,.int i64 0] 64)).cell? ⟨W2.heap.size,2,none⟩=some (.int i64 (psB b)):=by simp
 have r3:(W2.alloc (.cells #[.int i64 (dcN a),.int i64 (psM b),.int i64 (psB b),.int i64 0,.int i64 0,.int i64 0] 64)).cell? ⟨W2.heap.size,3,none⟩=some (.int i64 0):=by simp
 have r4:(W2.alloc (.cells #[.int i64 (dcN a),.int i64 (psM b),.int i64 (psB b),.int i64 0,.int i64 0,.int i64 0] 64)).cell? ⟨W2.heap.size,4,none⟩=some (.int i64 0):=by simp
 have r5:(W2.alloc (.cells #[.int i64 (dcN a),.int i64 (psM b),.int i64 (psB b),.int i64 0,.int i64 0,.int i64 0] 64)).cell? ⟨W2.heap.size,5,none⟩=some (.int i64 0):=by simp
 have rf:∀k,(W2.alloc (.cells #[.int i64 (dcN a),.int i64 (psM b),.int i64 (psB b),.int i64 0,.int i64 0,.int i64 0] 64)).frozen? ⟨W2.heap.size,k,none⟩=false:=by intro k;simp
 have ltR:W2.heap.size<(W2.alloc (.cells #[.int i64 (dcN a),.int i64 (psM b),.int i64 (psB b),.int i64 0,.int i64 0,.int i64 0] 64)).heap.size:=by simp
 have geR:w.heap.size<W2.heap.size:=HK2.out.lt;have neR:g≠W2.heap.size:=Nat.ne_of_lt HK2.out.ltB;clear lt1 ltB gt1 q0 q1 q2 q3 q4 q5 qf k0 k1 k2 k3;clear o0 o1 ltO geO neO
 generalize W2.alloc (.cells #[.int i64 (dcN a),.int i64 (psM b),.int i64 (psB b),.int i64 0,.int i64 0,.int i64 0] 64)=W3 at *
 generalize W2.heap.size=R at *
 clear HK2;have lt1:=HK3.out.lt;have ltB:=HK3.out.ltB;have gt1:=HK3.out.gt;have q0:=HK3.out.c 0 (by omega);have q1:=HK3.out.c 1 (by omega);have q2:=HK3.out.c 2 (by omega);have q3:=HK3.out.c 3 (by omega);have q4:=HK3.out.c 4 (by omega);have q5:=HK3.out.c 5 (by omega);have qf:=HK3.out.f;have k0:W3.cell? ⟨g,0,none⟩=some (.string a):=by simpa using HK3.out.words 0 (by simp)
 have k1:W3.cell? ⟨g,1,none⟩=some (.string b):=by simpa using HK3.out.words 1 (by simp)
 have k2:W3.cell? ⟨g,2,none⟩=some (.string c):=by simpa using HK3.out.words 2 (by simp)
 have k3:W3.cell? ⟨g,3,none⟩=some (.string d):=by simpa using HK3.out.words 3 (by simp)
 have h3n:(c.toList != [111,117,116])=false:=by rw[bne,h3];rfl
 go_wp2_with fail
 refine (num_any _ _).mono ?_;rintro e w' ⟨rfl,hw'⟩
 replace hw':=hw'.symm
 subst hw';rw[h5];go_wp2;refine bodyPost_ret (v:=.tuple #[.agg #[.int i64 0,.int i64 0,.int i64 0,.int i64 0,.int i64 0,.int i64 0],.int i64 2]) (by simp[results,results30,go_sem, *]) rfl ⟨rfl,?_⟩;exact six HK3.out.below (nLQ _) _ _ _ _ _ _
theorem rd_zero4 (s:ByteArray)(w:World)(hs:s.size≤1048576)(a b c d:ByteArray)(hws:cutA s=[a,b,c,d])(h1:dcOk a=true)(h2:psOk b=true)(h3:(c.toList==[111,117,116])=true)(h5:dcOk d=true)(h6:(dcN d==0)=true):
 Calls prog 30 #[.string s] w fun e w'=>e=.returned (.tuple #[.agg #[.int i64 0,.int i64 0,.int i64 0,.int i64 0,.int i64 0,.int i64 0],.int i64 2])∧Below w.heap.size w w':=by
 have hln:(cutA s).length=4:=by rw[hws];rfl
 go_enter func30,ntmps30
 go_wp2_with fail
 refine (cut_any s _ hs).mono ?_;rintro e w1 ⟨v,rfl,hown,hb1⟩;obtain⟨g,cap,rfl,hg,hcap,hcap2,hW⟩:=own_words hown (by omega);have hK:=PaK.from rfl hb1 hg hW (by omega);rw[hln];rw[hws] at hK;clear hown hb1 hg hW hcap hln hws;have HK:Hid (PaK w g [a,b,c,d] w1):=hK;have lt1:=HK.out.lt;have ltB:=HK.out.ltB;have gt1:=HK.out.gt;have q0:=HK.out.c 0 (by omega);have q1:=HK.out.c 1 (by omega);have q2:=HK.out.c 2 (by omega);have q3:=HK.out.c 3 (by omega);have q4:=HK.out.c 4 (by omega);have q5:=HK.out.c 5 (by omega);have qf:=HK.out.f;have k0:w1.cell? ⟨g,0,none⟩=some (.string a):=by simpa using HK.out.words 0 (by simp)
 have k1:w1.cell? ⟨g,1,none⟩=some (.string b):=by simpa using HK.out.words 1 (by simp)
 have k2:w1.cell? ⟨g,2,none⟩=some (.string c):=by simpa using HK.out.words 2 (by simp)
 have k3:w1.cell? ⟨g,3,none⟩=some (.string d):=by simpa using HK.out.words 3 (by simp)
 clear hK
 go_wp2_with fail
 refine (num_any _ _).mono ?_;rintro e w' ⟨rfl,hw'⟩
 replace hw':=hw'.symm
 subst hw';rw[h1]
 go_wp2_with fail
 refine (refRead_any _ _).mono ?_;rintro e w2 ⟨rfl,hb2⟩;rw[h2];have HK2:Hid (PaK w g [a,b,c,d] (w2.alloc (.cells #[.int i64 (psM b),.int i64 (psB b)] 62))):=(HK.out.later hb2).alloc _;have o0:(w2.alloc (.cells #[.int i64 (psM b),.int i64 (psB b)] 62)).cell? ⟨w2.heap.size,0,none⟩=some (.int i64 (psM b)):=by simp
 have o1:(w2.alloc (.cells #[.int i64 (psM b),.int i64 (psB b)] 62)).cell? ⟨w2.heap.size,1,none⟩=some (.int i64 (psB b)):=by simp
 have ltO:w2.heap.size<(w2.alloc (.cells #[.int i64 (psM b),.int i64 (psB b)] 62)).heap.size:=by simp
 have geO:w.heap.size<w2.heap.size:=(HK.out.later hb2).lt;have neO:g≠w2.heap.size:=Nat.ne_of_lt (HK.out.later hb2).ltB;clear hb2;clear lt1 ltB gt1 q0 q1 q2 q3 q4 q5 qf k0 k1 k2 k3;go_upto_region 7 with fail
 generalize w2.alloc (.cells #[.int i64 (psM b),.int i64 (psB b)] 62)=W2 at *
 generalize w2.heap.size=C at *
 have lt1:=HK2.out.lt;have ltB:=HK2.out.ltB;have gt1:=HK2.out.gt;have q0:=HK2.out.c 0 (by omega);have q1:=HK2.out.c 1 (by omega);have q2:=HK2.out.c 2 (by omega);have q3:=HK2.out.c 3 (by omega);have q4:=HK2.out.c 4 (by omega);have q5:=HK2.out.c 5 (by omega);have qf:=HK2.out.f;have k0:W2.cell? ⟨g,0,none⟩=some (.string a):=by simpa using HK2.out.words 0 (by simp)
 have k1:W2.cell? ⟨g,1,none⟩=some (.string b):=by simpa using HK2.out.words 1 (by simp)
 have k2:W2.cell? ⟨g,2,none⟩=some (.string c):=by simpa using HK2.out.words 2 (by simp)
 have k3:W2.cell? ⟨g,3,none⟩=some (.string d):=by simpa using HK2.out.words 3 (by simp)
 go_upto_region 10 with fail;have HK3:Hid (PaK w g [a,b,c,d] (W2.alloc (.cells #[.int i64 (dcN a),.int i64 (psM b),.int i64 (psB b),.int i64 0,.int i64 0,.int i64 0] 64))):=HK2.out.alloc _;have r0:(W2.alloc (.cells #[.int i64 (dcN a),.int i64 (psM b),.int i64 (psB b),.int i64 0,.int i64 0,.int i64 0] 64)).cell? ⟨W2.heap.size,0,none⟩=some (.int i64 (dcN a)):=by simp
 have r1:(W2.alloc (.cells #[.int i64 (dcN a),.int i64 (psM b),.int i64 (psB b),.int i64 0,.int i64 0,.int i64 0] 64)).cell? ⟨W2.heap.size,1,none⟩=some (.int i64 (psM b)):=by simp
 have r2:(W2.alloc (.cells #[.int i64 (dcN a),.int i64 (psM b),.int i64 (psB b),.int i64 0,.int i64 0,.int i64 0] 64)).cell? ⟨W2.heap.size,2,none⟩=some (.int i64 (psB b)):=by simp
 have r3:(W2.alloc (.cells #[.int i64 (dcN a),.int i64 (psM b),.int i64 (psB b),.int i64 0,.int i64 0,.int i64 0] 64)).cell? ⟨W2.heap.size,3,none⟩=some (.int i64 0):=by simp
 have r4:(W2.alloc (.cells #[.int i64 (dcN a),.int i64 (psM b),.int i64 (psB b),.int i64 0,.int i64 0,.int i64 0] 64)).cell? ⟨W2.heap.size,4,none⟩=some (.int i64 0):=by simp
 have r5:(W2.alloc (.cells #[.int i64 (dcN a),.int i64 (psM b),.int i64 (psB b),.int i64 0,.int i64 0,.int i64 0] 64)).cell? ⟨W2.heap.size,5,none⟩=some (.int i64 0):=by simp
 have rf:∀k,(W2.alloc (.cells #[.int i64 (dcN a),.int i64 (psM b),.int i64 (psB b),.int i64 0,.int i64 0,.int i64 0] 64)).frozen? ⟨W2.heap.size,k,none⟩=false:=by intro k;simp
 have ltR:W2.heap.size<(W2.alloc (.cells #[.int i64 (dcN a),.int i64 (psM b),.int i64 (psB b),.int i64 0,.int i64 0,.int i64 0] 64)).heap.size:=by simp
 have geR:w.heap.size<W2.heap.size:=HK2.out.lt;have neR:g≠W2.heap.size:=Nat.ne_of_lt HK2.out.ltB;clear lt1 ltB gt1 q0 q1 q2 q3 q4 q5 qf k0 k1 k2 k3;clear o0 o1 ltO geO neO
 generalize W2.alloc (.cells #[.int i64 (dcN a),.int i64 (psM b),.int i64 (psB b),.int i64 0,.int i64 0,.int i64 0] 64)=W3 at *
 generalize W2.heap.size=R at *
 clear HK2;have lt1:=HK3.out.lt;have ltB:=HK3.out.ltB;have gt1:=HK3.out.gt;have q0:=HK3.out.c 0 (by omega);have q1:=HK3.out.c 1 (by omega);have q2:=HK3.out.c 2 (by omega);have q3:=HK3.out.c 3 (by omega);have q4:=HK3.out.c 4 (by omega);have q5:=HK3.out.c 5 (by omega);have qf:=HK3.out.f;have k0:W3.cell? ⟨g,0,none⟩=some (.string a):=by simpa using HK3.out.words 0 (by simp)
 have k1:W3.cell? ⟨g,1,none⟩=some (.string b):=by simpa using HK3.out.words 1 (by simp)
 have k2:W3.cell? ⟨g,2,none⟩=some (.string c):=by simpa using HK3.out.words 2 (by simp)
 have k3:W3.cell? ⟨g,3,none⟩=some (.string d):=by simpa using HK3.out.words 3 (by simp)
 have h3n:(c.toList != [111,117,116])=false:=by rw[bne,h3];rfl
 go_wp2_with fail
 refine (num_any _ _).mono ?_;rintro e w' ⟨rfl,hw'⟩
 replace hw':=hw'.symm
 subst hw';rw[h5];go_wp2;refine bodyPost_ret (v:=.tuple #[.agg #[.int i64 0,.int i64 0,.int i64 0,.int i64 0,.int i64 0,.int i64 0],.int i64 2]) (by simp[results,results30,go_sem, *]) rfl ⟨rfl,?_⟩;exact six HK3.out.below (nLQ _) _ _ _ _ _ _
theorem rd_range4 (s:ByteArray)(w:World)(hs:s.size≤1048576)(a b c d:ByteArray)(hws:cutA s=[a,b,c,d])(h1:dcOk a=true)(h2:psOk b=true)(h3:(c.toList==[111,117,116])=true)(h5:dcOk d=true)(h6:(dcN d==0)=false)(h9:(ruN (dcN a) (psM b) (psB b) (dcN d) 0 0 != 0)=true):
 Calls prog 30 #[.string s] w fun e w'=>e=.returned (.tuple #[.agg #[.int i64 0,.int i64 0,.int i64 0,.int i64 0,.int i64 0,.int i64 0],.int i64 (ruN (dcN a) (psM b) (psB b) (dcN d) 0 0)])∧Below w.heap.size w w':=by
 have hln:(cutA s).length=4:=by rw[hws];rfl
 go_enter func30,ntmps30
 go_wp2_with fail
 refine (cut_any s _ hs).mono ?_;rintro e w1 ⟨v,rfl,hown,hb1⟩;obtain⟨g,cap,rfl,hg,hcap,hcap2,hW⟩:=own_words hown (by omega);have hK:=PaK.from rfl hb1 hg hW (by omega);rw[hln];rw[hws] at hK;clear hown hb1 hg hW hcap hln hws;have HK:Hid (PaK w g [a,b,c,d] w1):=hK;have lt1:=HK.out.lt;have ltB:=HK.out.ltB;have gt1:=HK.out.gt;have q0:=HK.out.c 0 (by omega);have q1:=HK.out.c 1 (by omega);have q2:=HK.out.c 2 (by omega);have q3:=HK.out.c 3 (by omega);have q4:=HK.out.c 4 (by omega);have q5:=HK.out.c 5 (by omega);have qf:=HK.out.f;have k0:w1.cell? ⟨g,0,none⟩=some (.string a):=by simpa using HK.out.words 0 (by simp)
 have k1:w1.cell? ⟨g,1,none⟩=some (.string b):=by simpa using HK.out.words 1 (by simp)
 have k2:w1.cell? ⟨g,2,none⟩=some (.string c):=by simpa using HK.out.words 2 (by simp)
 have k3:w1.cell? ⟨g,3,none⟩=some (.string d):=by simpa using HK.out.words 3 (by simp)
 clear hK
 go_wp2_with fail
 refine (num_any _ _).mono ?_;rintro e w' ⟨rfl,hw'⟩
 replace hw':=hw'.symm
 subst hw';rw[h1]
 go_wp2_with fail
 refine (refRead_any _ _).mono ?_;rintro e w2 ⟨rfl,hb2⟩;rw[h2];have HK2:Hid (PaK w g [a,b,c,d] (w2.alloc (.cells #[.int i64 (psM b),.int i64 (psB b)] 62))):=(HK.out.later hb2).alloc _;have o0:(w2.alloc (.cells #[.int i64 (psM b),.int i64 (psB b)] 62)).cell? ⟨w2.heap.size,0,none⟩=some (.int i64 (psM b)):=by simp
 have o1:(w2.alloc (.cells #[.int i64 (psM b),.int i64 (psB b)] 62)).cell? ⟨w2.heap.size,1,none⟩=some (.int i64 (psB b)):=by simp
 have ltO:w2.heap.size<(w2.alloc (.cells #[.int i64 (psM b),.int i64 (psB b)] 62)).heap.size:=by simp
 have geO:w.heap.size<w2.heap.size:=(HK.out.later hb2).lt;have neO:g≠w2.heap.size:=Nat.ne_of_lt (HK.out.later hb2).ltB;clear hb2;clear lt1 ltB gt1 q0 q1 q2 q3 q4 q5 qf k0 k1 k2 k3;go_upto_region 7 with fail
 generalize w2.alloc (.cells #[.int i64 (psM b),.int i64 (psB b)] 62)=W2 at *
 generalize w2.heap.size=C at *
 have lt1:=HK2.out.lt;have ltB:=HK2.out.ltB;have gt1:=HK2.out.gt;have q0:=HK2.out.c 0 (by omega);have q1:=HK2.out.c 1 (by omega);have q2:=HK2.out.c 2 (by omega);have q3:=HK2.out.c 3 (by omega);have q4:=HK2.out.c 4 (by omega);have q5:=HK2.out.c 5 (by omega);have qf:=HK2.out.f;have k0:W2.cell? ⟨g,0,none⟩=some (.string a):=by simpa using HK2.out.words 0 (by simp)
 have k1:W2.cell? ⟨g,1,none⟩=some (.string b):=by simpa using HK2.out.words 1 (by simp)
 have k2:W2.cell? ⟨g,2,none⟩=some (.string c):=by simpa using HK2.out.words 2 (by simp)
 have k3:W2.cell? ⟨g,3,none⟩=some (.string d):=by simpa using HK2.out.words 3 (by simp)
 go_upto_region 10 with fail;have HK3:Hid (PaK w g [a,b,c,d] (W2.alloc (.cells #[.int i64 (dcN a),.int i64 (psM b),.int i64 (psB b),.int i64 0,.int i64 0,.int i64 0] 64))):=HK2.out.alloc _;have r0:(W2.alloc (.cells #[.int i64 (dcN a),.int i64 (psM b),.int i64 (psB b),.int i64 0,.int i64 0,.int i64 0] 64)).cell? ⟨W2.heap.size,0,none⟩=some (.int i64 (dcN a)):=by simp
 have r1:(W2.alloc (.cells #[.int i64 (dcN a),.int i64 (psM b),.int i64 (psB b),.int i64 0,.int i64 0,.int i64 0] 64)).cell? ⟨W2.heap.size,1,none⟩=some (.int i64 (psM b)):=by simp
 have r2:(W2.alloc (.cells #[.int i64 (dcN a),.int i64 (psM b),.int i64 (psB b),.int i64 0,.int i64 0,.int i64 0] 64)).cell? ⟨W2.heap.size,2,none⟩=some (.int i64 (psB b)):=by simp
 have r3:(W2.alloc (.cells #[.int i64 (dcN a),.int i64 (psM b),.int i64 (psB b),.int i64 0,.int i64 0,.int i64 0] 64)).cell? ⟨W2.heap.size,3,none⟩=some (.int i64 0):=by simp
 have r4:(W2.alloc (.cells #[.int i64 (dcN a),.int i64 (psM b),.int i64 (psB b),.int i64 0,.int i64 0,.int i64 0] 64)).cell? ⟨W2.heap.size,4,none⟩=some (.int i64 0):=by simp
 have r5:(W2.alloc (.cells #[.int i64 (dcN a),.int i64 (psM b),.int i64 (psB b),.int i64 0,.int i64 0,.int i64 0] 64)).cell? ⟨W2.heap.size,5,none⟩=some (.int i64 0):=by simp
 have rf:∀k,(W2.alloc (.cells #[.int i64 (dcN a),.int i64 (psM b),.int i64 (psB b),.int i64 0,.int i64 0,.int i64 0] 64)).frozen? ⟨W2.heap.size,k,none⟩=false:=by intro k;simp
 have ltR:W2.heap.size<(W2.alloc (.cells #[.int i64 (dcN a),.int i64 (psM b),.int i64 (psB b),.int i64 0,.int i64 0,.int i64 0] 64)).heap.size:=by simp
 have geR:w.heap.size<W2.heap.size:=HK2.out.lt;have neR:g≠W2.heap.size:=Nat.ne_of_lt HK2.out.ltB;clear lt1 ltB gt1 q0 q1 q2 q3 q4 q5 qf k0 k1 k2 k3;clear o0 o1 ltO geO neO
 generalize W2.alloc (.cells #[.int i64 (dcN a),.int i64 (psM b),.int i64 (psB b),.int i64 0,.int i64 0,.int i64 0] 64)=W3 at *
 generalize W2.heap.size=R at *
 clear HK2;have lt1:=HK3.out.lt;have ltB:=HK3.out.ltB;have gt1:=HK3.out.gt;have q0:=HK3.out.c 0 (by omega);have q1:=HK3.out.c 1 (by omega);have q2:=HK3.out.c 2 (by omega);have q3:=HK3.out.c 3 (by omega);have q4:=HK3.out.c 4 (by omega);have q5:=HK3.out.c 5 (by omega);have qf:=HK3.out.f;have k0:W3.cell? ⟨g,0,none⟩=some (.string a):=by simpa using HK3.out.words 0 (by simp)
 have k1:W3.cell? ⟨g,1,none⟩=some (.string b):=by simpa using HK3.out.words 1 (by simp)
 have k2:W3.cell? ⟨g,2,none⟩=some (.string c):=by simpa using HK3.out.words 2 (by simp)
 have k3:W3.cell? ⟨g,3,none⟩=some (.string d):=by simpa using HK3.out.words 3 (by simp)
 have h3n:(c.toList != [111,117,116])=false:=by rw[bne,h3];rfl
 go_wp2_with fail
 refine (num_any _ _).mono ?_;rintro e w' ⟨rfl,hw'⟩
 replace hw':=hw'.symm
 subst hw';rw[h5];go_upto_region 17 with fail;have HK4:Hid (PaK w g [a,b,c,d] (W3.setCell ⟨R,3,none⟩ (.int i64 (dcN d)))):=HK3.out.set geR neR _;have s0:(W3.setCell ⟨R,3,none⟩ (.int i64 (dcN d))).cell? ⟨R,0,none⟩=some (.int i64 (dcN a)):=(World.cell?_setCell_other _ _ _ _ (by simp)).trans r0;have s1:(W3.setCell ⟨R,3,none⟩ (.int i64 (dcN d))).cell? ⟨R,1,none⟩=some (.int i64 (psM b)):=(World.cell?_setCell_other _ _ _ _ (by simp)).trans r1;have s2:(W3.setCell ⟨R,3,none⟩ (.int i64 (dcN d))).cell? ⟨R,2,none⟩=some (.int i64 (psB b)):=(World.cell?_setCell_other _ _ _ _ (by simp)).trans r2;have s3:(W3.setCell ⟨R,3,none⟩ (.int i64 (dcN d))).cell? ⟨R,3,none⟩=some (.int i64 (dcN d)):=World.cell?_setCell_same _ _ _ r3;have s4:(W3.setCell ⟨R,3,none⟩ (.int i64 (dcN d))).cell? ⟨R,4,none⟩=some (.int i64 0):=(World.cell?_setCell_other _ _ _ _ (by simp)).trans r4;have s5:(W3.setCell ⟨R,3,none⟩ (.int i64 (dcN d))).cell? ⟨R,5,none⟩=some (.int i64 0):=(World.cell?_setCell_other _ _ _ _ (by simp)).trans r5;have sf:∀k,(W3.setCell ⟨R,3,none⟩ (.int i64 (dcN d))).frozen? ⟨R,k,none⟩=false:=by intro k;simpa using rf k
 have ltS:R<(W3.setCell ⟨R,3,none⟩ (.int i64 (dcN d))).heap.size:=by simpa using ltR
 clear lt1 ltB gt1 q0 q1 q2 q3 q4 q5 qf k0 k1 k2 k3;clear r0 r1 r2 r3 r4 r5 rf ltR
 generalize (W3.setCell ⟨R,3,none⟩ (.int i64 (dcN d)))=W4 at *
 clear HK3;have r0:=s0;have r1:=s1;have r2:=s2;have r3:=s3;have r4:=s4;have r5:=s5;have rf:=sf;have ltR:=ltS;clear s0 s1 s2 s3 s4 s5 sf ltS;have lt1:=HK4.out.lt;have ltB:=HK4.out.ltB;have gt1:=HK4.out.gt;have q0:=HK4.out.c 0 (by omega);have q1:=HK4.out.c 1 (by omega);have q2:=HK4.out.c 2 (by omega);have q3:=HK4.out.c 3 (by omega);have q4:=HK4.out.c 4 (by omega);have q5:=HK4.out.c 5 (by omega);have qf:=HK4.out.f;have k0:W4.cell? ⟨g,0,none⟩=some (.string a):=by simpa using HK4.out.words 0 (by simp)
 have k1:W4.cell? ⟨g,1,none⟩=some (.string b):=by simpa using HK4.out.words 1 (by simp)
 have k2:W4.cell? ⟨g,2,none⟩=some (.string c):=by simpa using HK4.out.words 2 (by simp)
 have k3:W4.cell? ⟨g,3,none⟩=some (.string d):=by simpa using HK4.out.words 3 (by simp)
 go_wp2_with fail
 refine (refRule_any _ _ _ _ _ _ _).mono ?_;rintro e w5 ⟨rfl,hb5⟩;have HK5:Hid (PaK w g [a,b,c,d] w5):=HK4.out.later hb5;clear lt1 ltB gt1 q0 q1 q2 q3 q4 q5 qf k0 k1 k2 k3;have t0:=cell_later hb5 r0;have t1:=cell_later hb5 r1;have t2:=cell_later hb5 r2;have t3:=cell_later hb5 r3;have t4:=cell_later hb5 r4;have t5:=cell_later hb5 r5;have ltT:R<w5.heap.size:=Nat.lt_of_lt_of_le ltR hb5.size;clear hb5 r0 r1 r2 r3 r4 r5 rf ltR;have lt1:=HK5.out.lt;have ltB:=HK5.out.ltB;have gt1:=HK5.out.gt;have q0:=HK5.out.c 0 (by omega);have q1:=HK5.out.c 1 (by omega);have q2:=HK5.out.c 2 (by omega);have q3:=HK5.out.c 3 (by omega);have q4:=HK5.out.c 4 (by omega);have q5:=HK5.out.c 5 (by omega);have qf:=HK5.out.f;have k0:w5.cell? ⟨g,0,none⟩=some (.string a):=by simpa using HK5.out.words 0 (by simp)
 have k1:w5.cell? ⟨g,1,none⟩=some (.string b):=by simpa using HK5.out.words 1 (by simp)
 have k2:w5.cell? ⟨g,2,none⟩=some (.string c):=by simpa using HK5.out.words 2 (by simp)
 have k3:w5.cell? ⟨g,3,none⟩=some (.string d):=by simpa using HK5.out.words 3 (by simp)
 go_wp2;refine bodyPost_ret (v:=.tuple #[.agg #[.int i64 0,.int i64 0,.int i64 0,.int i64 0,.int i64 0,.int i64 0],.int i64 (ruN (dcN a) (psM b) (psB b) (dcN d) 0 0)]) (by simp[results,results30,go_sem, *]) rfl ⟨rfl,?_⟩;exact six HK5.out.below (nLQ _) _ _ _ _ _ _
theorem rd_good4 (s:ByteArray)(w:World)(hs:s.size≤1048576)(a b c d:ByteArray)(hws:cutA s=[a,b,c,d])(h1:dcOk a=true)(h2:psOk b=true)(h3:(c.toList==[111,117,116])=true)(h5:dcOk d=true)(h6:(dcN d==0)=false)(h9:ruN (dcN a) (psM b) (psB b) (dcN d) 0 0=0):
 Calls prog 30 #[.string s] w fun e w'=>e=.returned (.tuple #[.agg #[.int i64 (dcN a),.int i64 (psM b),.int i64 (psB b),.int i64 (dcN d),.int i64 0,.int i64 0],.int i64 0])∧Below w.heap.size w w':=by
 have hln:(cutA s).length=4:=by rw[hws];rfl
 go_enter func30,ntmps30
 go_wp2_with fail
 refine (cut_any s _ hs).mono ?_;rintro e w1 ⟨v,rfl,hown,hb1⟩;obtain⟨g,cap,rfl,hg,hcap,hcap2,hW⟩:=own_words hown (by omega);have hK:=PaK.from rfl hb1 hg hW (by omega);rw[hln];rw[hws] at hK;clear hown hb1 hg hW hcap hln hws;have HK:Hid (PaK w g [a,b,c,d] w1):=hK;have lt1:=HK.out.lt;have ltB:=HK.out.ltB;have gt1:=HK.out.gt;have q0:=HK.out.c 0 (by omega);have q1:=HK.out.c 1 (by omega);have q2:=HK.out.c 2 (by omega);have q3:=HK.out.c 3 (by omega);have q4:=HK.out.c 4 (by omega);have q5:=HK.out.c 5 (by omega);have qf:=HK.out.f;have k0:w1.cell? ⟨g,0,none⟩=some (.string a):=by simpa using HK.out.words 0 (by simp)
 have k1:w1.cell? ⟨g,1,none⟩=some (.string b):=by simpa using HK.out.words 1 (by simp)
 have k2:w1.cell? ⟨g,2,none⟩=some (.string c):=by simpa using HK.out.words 2 (by simp)
 have k3:w1.cell? ⟨g,3,none⟩=some (.string d):=by simpa using HK.out.words 3 (by simp)
 clear hK
 go_wp2_with fail
 refine (num_any _ _).mono ?_;rintro e w' ⟨rfl,hw'⟩
 replace hw':=hw'.symm
 subst hw';rw[h1]
 go_wp2_with fail
 refine (refRead_any _ _).mono ?_;rintro e w2 ⟨rfl,hb2⟩;rw[h2];have HK2:Hid (PaK w g [a,b,c,d] (w2.alloc (.cells #[.int i64 (psM b),.int i64 (psB b)] 62))):=(HK.out.later hb2).alloc _;have o0:(w2.alloc (.cells #[.int i64 (psM b),.int i64 (psB b)] 62)).cell? ⟨w2.heap.size,0,none⟩=some (.int i64 (psM b)):=by simp
 have o1:(w2.alloc (.cells #[.int i64 (psM b),.int i64 (psB b)] 62)).cell? ⟨w2.heap.size,1,none⟩=some (.int i64 (psB b)):=by simp
 have ltO:w2.heap.size<(w2.alloc (.cells #[.int i64 (psM b),.int i64 (psB b)] 62)).heap.size:=by simp
 have geO:w.heap.size<w2.heap.size:=(HK.out.later hb2).lt;have neO:g≠w2.heap.size:=Nat.ne_of_lt (HK.out.later hb2).ltB;clear hb2;clear lt1 ltB gt1 q0 q1 q2 q3 q4 q5 qf k0 k1 k2 k3;go_upto_region 7 with fail
 generalize w2.alloc (.cells #[.int i64 (psM b),.int i64 (psB b)] 62)=W2 at *
 generalize w2.heap.size=C at *
 have lt1:=HK2.out.lt;have ltB:=HK2.out.ltB;have gt1:=HK2.out.gt;have q0:=HK2.out.c 0 (by omega);have q1:=HK2.out.c 1 (by omega);have q2:=HK2.out.c 2 (by omega);have q3:=HK2.out.c 3 (by omega);have q4:=HK2.out.c 4 (by omega);have q5:=HK2.out.c 5 (by omega);have qf:=HK2.out.f;have k0:W2.cell? ⟨g,0,none⟩=some (.string a):=by simpa using HK2.out.words 0 (by simp)
 have k1:W2.cell? ⟨g,1,none⟩=some (.string b):=by simpa using HK2.out.words 1 (by simp)
 have k2:W2.cell? ⟨g,2,none⟩=some (.string c):=by simpa using HK2.out.words 2 (by simp)
 have k3:W2.cell? ⟨g,3,none⟩=some (.string d):=by simpa using HK2.out.words 3 (by simp)
 go_upto_region 10 with fail;have HK3:Hid (PaK w g [a,b,c,d] (W2.alloc (.cells #[.int i64 (dcN a),.int i64 (psM b),.int i64 (psB b),.int i64 0,.int i64 0,.int i64 0] 64))):=HK2.out.alloc _;have r0:(W2.alloc (.cells #[.int i64 (dcN a),.int i64 (psM b),.int i64 (psB b),.int i64 0,.int i64 0,.int i64 0] 64)).cell? ⟨W2.heap.size,0,none⟩=some (.int i64 (dcN a)):=by simp
 have r1:(W2.alloc (.cells #[.int i64 (dcN a),.int i64 (psM b),.int i64 (psB b),.int i64 0,.int i64 0,.int i64 0] 64)).cell? ⟨W2.heap.size,1,none⟩=some (.int i64 (psM b)):=by simp
 have r2:(W2.alloc (.cells #[.int i64 (dcN a),.int i64 (psM b),.int i64 (psB b),.int i64 0,.int i64 0,.int i64 0] 64)).cell? ⟨W2.heap.size,2,none⟩=some (.int i64 (psB b)):=by simp
 have r3:(W2.alloc (.cells #[.int i64 (dcN a),.int i64 (psM b),.int i64 (psB b),.int i64 0,.int i64 0,.int i64 0] 64)).cell? ⟨W2.heap.size,3,none⟩=some (.int i64 0):=by simp
 have r4:(W2.alloc (.cells #[.int i64 (dcN a),.int i64 (psM b),.int i64 (psB b),.int i64 0,.int i64 0,.int i64 0] 64)).cell? ⟨W2.heap.size,4,none⟩=some (.int i64 0):=by simp
 have r5:(W2.alloc (.cells #[.int i64 (dcN a),.int i64 (psM b),.int i64 (psB b),.int i64 0,.int i64 0,.int i64 0] 64)).cell? ⟨W2.heap.size,5,none⟩=some (.int i64 0):=by simp
 have rf:∀k,(W2.alloc (.cells #[.int i64 (dcN a),.int i64 (psM b),.int i64 (psB b),.int i64 0,.int i64 0,.int i64 0] 64)).frozen? ⟨W2.heap.size,k,none⟩=false:=by intro k;simp
 have ltR:W2.heap.size<(W2.alloc (.cells #[.int i64 (dcN a),.int i64 (psM b),.int i64 (psB b),.int i64 0,.int i64 0,.int i64 0] 64)).heap.size:=by simp
 have geR:w.heap.size<W2.heap.size:=HK2.out.lt;have neR:g≠W2.heap.size:=Nat.ne_of_lt HK2.out.ltB;clear lt1 ltB gt1 q0 q1 q2 q3 q4 q5 qf k0 k1 k2 k3;clear o0 o1 ltO geO neO
 generalize W2.alloc (.cells #[.int i64 (dcN a),.int i64 (psM b),.int i64 (psB b),.int i64 0,.int i64 0,.int i64 0] 64)=W3 at *
 generalize W2.heap.size=R at *
 clear HK2;have lt1:=HK3.out.lt;have ltB:=HK3.out.ltB;have gt1:=HK3.out.gt;have q0:=HK3.out.c 0 (by omega);have q1:=HK3.out.c 1 (by omega);have q2:=HK3.out.c 2 (by omega);have q3:=HK3.out.c 3 (by omega);have q4:=HK3.out.c 4 (by omega);have q5:=HK3.out.c 5 (by omega);have qf:=HK3.out.f;have k0:W3.cell? ⟨g,0,none⟩=some (.string a):=by simpa using HK3.out.words 0 (by simp)
 have k1:W3.cell? ⟨g,1,none⟩=some (.string b):=by simpa using HK3.out.words 1 (by simp)
 have k2:W3.cell? ⟨g,2,none⟩=some (.string c):=by simpa using HK3.out.words 2 (by simp)
 have k3:W3.cell? ⟨g,3,none⟩=some (.string d):=by simpa using HK3.out.words 3 (by simp)
 have h3n:(c.toList != [111,117,116])=false:=by rw[bne,h3];rfl
 go_wp2_with fail
 refine (num_any _ _).mono ?_;rintro e w' ⟨rfl,hw'⟩
 replace hw':=hw'.symm
 subst hw';rw[h5];go_upto_region 17 with fail;have HK4:Hid (PaK w g [a,b,c,d] (W3.setCell ⟨R,3,none⟩ (.int i64 (dcN d)))):=HK3.out.set geR neR _;have s0:(W3.setCell ⟨R,3,none⟩ (.int i64 (dcN d))).cell? ⟨R,0,none⟩=some (.int i64 (dcN a)):=(World.cell?_setCell_other _ _ _ _ (by simp)).trans r0;have s1:(W3.setCell ⟨R,3,none⟩ (.int i64 (dcN d))).cell? ⟨R,1,none⟩=some (.int i64 (psM b)):=(World.cell?_setCell_other _ _ _ _ (by simp)).trans r1;have s2:(W3.setCell ⟨R,3,none⟩ (.int i64 (dcN d))).cell? ⟨R,2,none⟩=some (.int i64 (psB b)):=(World.cell?_setCell_other _ _ _ _ (by simp)).trans r2;have s3:(W3.setCell ⟨R,3,none⟩ (.int i64 (dcN d))).cell? ⟨R,3,none⟩=some (.int i64 (dcN d)):=World.cell?_setCell_same _ _ _ r3;have s4:(W3.setCell ⟨R,3,none⟩ (.int i64 (dcN d))).cell? ⟨R,4,none⟩=some (.int i64 0):=(World.cell?_setCell_other _ _ _ _ (by simp)).trans r4;have s5:(W3.setCell ⟨R,3,none⟩ (.int i64 (dcN d))).cell? ⟨R,5,none⟩=some (.int i64 0):=(World.cell?_setCell_other _ _ _ _ (by simp)).trans r5;have sf:∀k,(W3.setCell ⟨R,3,none⟩ (.int i64 (dcN d))).frozen? ⟨R,k,none⟩=false:=by intro k;simpa using rf k
 have ltS:R<(W3.setCell ⟨R,3,none⟩ (.int i64 (dcN d))).heap.size:=by simpa using ltR
 clear lt1 ltB gt1 q0 q1 q2 q3 q4 q5 qf k0 k1 k2 k3;clear r0 r1 r2 r3 r4 r5 rf ltR
 generalize (W3.setCell ⟨R,3,none⟩ (.int i64 (dcN d)))=W4 at *
 clear HK3;have r0:=s0;have r1:=s1;have r2:=s2;have r3:=s3;have r4:=s4;have r5:=s5;have rf:=sf;have ltR:=ltS;clear s0 s1 s2 s3 s4 s5 sf ltS;have lt1:=HK4.out.lt;have ltB:=HK4.out.ltB;have gt1:=HK4.out.gt;have q0:=HK4.out.c 0 (by omega);have q1:=HK4.out.c 1 (by omega);have q2:=HK4.out.c 2 (by omega);have q3:=HK4.out.c 3 (by omega);have q4:=HK4.out.c 4 (by omega);have q5:=HK4.out.c 5 (by omega);have qf:=HK4.out.f;have k0:W4.cell? ⟨g,0,none⟩=some (.string a):=by simpa using HK4.out.words 0 (by simp)
 have k1:W4.cell? ⟨g,1,none⟩=some (.string b):=by simpa using HK4.out.words 1 (by simp)
 have k2:W4.cell? ⟨g,2,none⟩=some (.string c):=by simpa using HK4.out.words 2 (by simp)
 have k3:W4.cell? ⟨g,3,none⟩=some (.string d):=by simpa using HK4.out.words 3 (by simp)
 go_wp2_with fail
 refine (refRule_any _ _ _ _ _ _ _).mono ?_;rintro e w5 ⟨rfl,hb5⟩;have HK5:Hid (PaK w g [a,b,c,d] w5):=HK4.out.later hb5;clear lt1 ltB gt1 q0 q1 q2 q3 q4 q5 qf k0 k1 k2 k3;have t0:=cell_later hb5 r0;have t1:=cell_later hb5 r1;have t2:=cell_later hb5 r2;have t3:=cell_later hb5 r3;have t4:=cell_later hb5 r4;have t5:=cell_later hb5 r5;have ltT:R<w5.heap.size:=Nat.lt_of_lt_of_le ltR hb5.size;clear hb5 r0 r1 r2 r3 r4 r5 rf ltR;have lt1:=HK5.out.lt;have ltB:=HK5.out.ltB;have gt1:=HK5.out.gt;have q0:=HK5.out.c 0 (by omega);have q1:=HK5.out.c 1 (by omega);have q2:=HK5.out.c 2 (by omega);have q3:=HK5.out.c 3 (by omega);have q4:=HK5.out.c 4 (by omega);have q5:=HK5.out.c 5 (by omega);have qf:=HK5.out.f;have k0:w5.cell? ⟨g,0,none⟩=some (.string a):=by simpa using HK5.out.words 0 (by simp)
 have k1:w5.cell? ⟨g,1,none⟩=some (.string b):=by simpa using HK5.out.words 1 (by simp)
 have k2:w5.cell? ⟨g,2,none⟩=some (.string c):=by simpa using HK5.out.words 2 (by simp)
 have k3:w5.cell? ⟨g,3,none⟩=some (.string d):=by simpa using HK5.out.words 3 (by simp)
 rw[h9];go_wp2;refine bodyPost_ret (v:=.tuple #[.agg #[.int i64 (dcN a),.int i64 (psM b),.int i64 (psB b),.int i64 (dcN d),.int i64 0,.int i64 0],.int i64 0]) (by simp[results,results30,go_sem, *]) rfl ⟨rfl,?_⟩;exact six HK5.out.below (nLQ _) _ _ _ _ _ _
theorem rd_num6 (s:ByteArray)(w:World)(hs:s.size≤1048576)(a b c d e f:ByteArray)(hws:cutA s=[a,b,c,d,e,f])(h1:dcOk a=false):
 Calls prog 30 #[.string s] w fun e w'=>e=.returned (.tuple #[.agg #[.int i64 0,.int i64 0,.int i64 0,.int i64 0,.int i64 0,.int i64 0],.int i64 2])∧Below w.heap.size w w':=by
 have hln:(cutA s).length=6:=by rw[hws];rfl
 go_enter func30,ntmps30
 go_wp2_with fail
 refine (cut_any s _ hs).mono ?_;rintro e w1 ⟨v,rfl,hown,hb1⟩;obtain⟨g,cap,rfl,hg,hcap,hcap2,hW⟩:=own_words hown (by omega);have hK:=PaK.from rfl hb1 hg hW (by omega);rw[hln];rw[hws] at hK;clear hown hb1 hg hW hcap hln hws;have HK:Hid (PaK w g [a,b,c,d,e,f] w1):=hK;have lt1:=HK.out.lt;have ltB:=HK.out.ltB;have gt1:=HK.out.gt;have q0:=HK.out.c 0 (by omega);have q1:=HK.out.c 1 (by omega);have q2:=HK.out.c 2 (by omega);have q3:=HK.out.c 3 (by omega);have q4:=HK.out.c 4 (by omega);have q5:=HK.out.c 5 (by omega);have qf:=HK.out.f;have k0:w1.cell? ⟨g,0,none⟩=some (.string a):=by simpa using HK.out.words 0 (by simp)
 have k1:w1.cell? ⟨g,1,none⟩=some (.string b):=by simpa using HK.out.words 1 (by simp)
 have k2:w1.cell? ⟨g,2,none⟩=some (.string c):=by simpa using HK.out.words 2 (by simp)
 have k3:w1.cell? ⟨g,3,none⟩=some (.string d):=by simpa using HK.out.words 3 (by simp)
 have k4:w1.cell? ⟨g,4,none⟩=some (.string e):=by simpa using HK.out.words 4 (by simp)
 have k5:w1.cell? ⟨g,5,none⟩=some (.string f):=by simpa using HK.out.words 5 (by simp)
 clear hK
 go_wp2_with fail
 refine (num_any _ _).mono ?_;rintro e w' ⟨rfl,hw'⟩
 replace hw':=hw'.symm
 subst hw';rw[h1];cases h2:psOk b
 ·go_wp2_with fail
  refine (refRead_any _ _).mono ?_;rintro e w2 ⟨rfl,hb2⟩;rw[h2];have HK2:Hid (PaK w g [a,b,c,d,e,f] (w2.alloc (.cells #[.int i64 (psM b),.int i64 (psB b)] 62))):=(HK.out.later hb2).alloc _;have o0:(w2.alloc (.cells #[.int i64 (psM b),.int i64 (psB b)] 62)).cell? ⟨w2.heap.size,0,none⟩=some (.int i64 (psM b)):=by simp
  have o1:(w2.alloc (.cells #[.int i64 (psM b),.int i64 (psB b)] 62)).cell? ⟨w2.heap.size,1,none⟩=some (.int i64 (psB b)):=by simp
  have ltO:w2.heap.size<(w2.alloc (.cells #[.int i64 (psM b),.int i64 (psB b)] 62)).heap.size:=by simp
  have geO:w.heap.size<w2.heap.size:=(HK.out.later hb2).lt;have neO:g≠w2.heap.size:=Nat.ne_of_lt (HK.out.later hb2).ltB;clear hb2;clear lt1 ltB gt1 q0 q1 q2 q3 q4 q5 qf k0 k1 k2 k3 k4 k5;go_upto_region 7 with fail
  generalize w2.alloc (.cells #[.int i64 (psM b),.int i64 (psB b)] 62)=W2 at *
  generalize w2.heap.size=C at *
  have lt1:=HK2.out.lt;have ltB:=HK2.out.ltB;have gt1:=HK2.out.gt;have q0:=HK2.out.c 0 (by omega);have q1:=HK2.out.c 1 (by omega);have q2:=HK2.out.c 2 (by omega);have q3:=HK2.out.c 3 (by omega);have q4:=HK2.out.c 4 (by omega);have q5:=HK2.out.c 5 (by omega);have qf:=HK2.out.f;have k0:W2.cell? ⟨g,0,none⟩=some (.string a):=by simpa using HK2.out.words 0 (by simp)
  have k1:W2.cell? ⟨g,1,none⟩=some (.string b):=by simpa using HK2.out.words 1 (by simp)
  have k2:W2.cell? ⟨g,2,none⟩=some (.string c):=by simpa using HK2.out.words 2 (by simp)
  have k3:W2.cell? ⟨g,3,none⟩=some (.string d):=by simpa using HK2.out.words 3 (by simp)
  have k4:W2.cell? ⟨g,4,none⟩=some (.string e):=by simpa using HK2.out.words 4 (by simp)
  have k5:W2.cell? ⟨g,5,none⟩=some (.string f):=by simpa using HK2.out.words 5 (by simp)
  go_wp2;refine bodyPost_ret (v:=.tuple #[.agg #[.int i64 0,.int i64 0,.int i64 0,.int i64 0,.int i64 0,.int i64 0],.int i64 2]) (by simp[results,results30,go_sem, *]) rfl ⟨rfl,?_⟩;exact six HK2.out.below (nLQ _) _ _ _ _ _ _
 go_wp2_with fail
 refine (refRead_any _ _).mono ?_;rintro e w2 ⟨rfl,hb2⟩;rw[h2];have HK2:Hid (PaK w g [a,b,c,d,e,f] (w2.alloc (.cells #[.int i64 (psM b),.int i64 (psB b)] 62))):=(HK.out.later hb2).alloc _;have o0:(w2.alloc (.cells #[.int i64 (psM b),.int i64 (psB b)] 62)).cell? ⟨w2.heap.size,0,none⟩=some (.int i64 (psM b)):=by simp
 have o1:(w2.alloc (.cells #[.int i64 (psM b),.int i64 (psB b)] 62)).cell? ⟨w2.heap.size,1,none⟩=some (.int i64 (psB b)):=by simp
 have ltO:w2.heap.size<(w2.alloc (.cells #[.int i64 (psM b),.int i64 (psB b)] 62)).heap.size:=by simp
 have geO:w.heap.size<w2.heap.size:=(HK.out.later hb2).lt;have neO:g≠w2.heap.size:=Nat.ne_of_lt (HK.out.later hb2).ltB;clear hb2;clear lt1 ltB gt1 q0 q1 q2 q3 q4 q5 qf k0 k1 k2 k3 k4 k5;go_upto_region 7 with fail
 generalize w2.alloc (.cells #[.int i64 (psM b),.int i64 (psB b)] 62)=W2 at *
 generalize w2.heap.size=C at *
 have lt1:=HK2.out.lt;have ltB:=HK2.out.ltB;have gt1:=HK2.out.gt;have q0:=HK2.out.c 0 (by omega);have q1:=HK2.out.c 1 (by omega);have q2:=HK2.out.c 2 (by omega);have q3:=HK2.out.c 3 (by omega);have q4:=HK2.out.c 4 (by omega);have q5:=HK2.out.c 5 (by omega);have qf:=HK2.out.f;have k0:W2.cell? ⟨g,0,none⟩=some (.string a):=by simpa using HK2.out.words 0 (by simp)
 have k1:W2.cell? ⟨g,1,none⟩=some (.string b):=by simpa using HK2.out.words 1 (by simp)
 have k2:W2.cell? ⟨g,2,none⟩=some (.string c):=by simpa using HK2.out.words 2 (by simp)
 have k3:W2.cell? ⟨g,3,none⟩=some (.string d):=by simpa using HK2.out.words 3 (by simp)
 have k4:W2.cell? ⟨g,4,none⟩=some (.string e):=by simpa using HK2.out.words 4 (by simp)
 have k5:W2.cell? ⟨g,5,none⟩=some (.string f):=by simpa using HK2.out.words 5 (by simp)
 go_wp2;refine bodyPost_ret (v:=.tuple #[.agg #[.int i64 0,.int i64 0,.int i64 0,.int i64 0,.int i64 0,.int i64 0],.int i64 2]) (by simp[results,results30,go_sem, *]) rfl ⟨rfl,?_⟩;exact six HK2.out.below (nLQ _) _ _ _ _ _ _
theorem rd_cube6 (s:ByteArray)(w:World)(hs:s.size≤1048576)(a b c d e f:ByteArray)(hws:cutA s=[a,b,c,d,e,f])(h1:dcOk a=true)(h2:psOk b=false):
 Calls prog 30 #[.string s] w fun e w'=>e=.returned (.tuple #[.agg #[.int i64 0,.int i64 0,.int i64 0,.int i64 0,.int i64 0,.int i64 0],.int i64 2])∧Below w.heap.size w w':=by
 have hln:(cutA s).length=6:=by rw[hws];rfl
 go_enter func30,ntmps30
 go_wp2_with fail
 refine (cut_any s _ hs).mono ?_;rintro e w1 ⟨v,rfl,hown,hb1⟩;obtain⟨g,cap,rfl,hg,hcap,hcap2,hW⟩:=own_words hown (by omega);have hK:=PaK.from rfl hb1 hg hW (by omega);rw[hln];rw[hws] at hK;clear hown hb1 hg hW hcap hln hws;have HK:Hid (PaK w g [a,b,c,d,e,f] w1):=hK;have lt1:=HK.out.lt;have ltB:=HK.out.ltB;have gt1:=HK.out.gt;have q0:=HK.out.c 0 (by omega);have q1:=HK.out.c 1 (by omega);have q2:=HK.out.c 2 (by omega);have q3:=HK.out.c 3 (by omega);have q4:=HK.out.c 4 (by omega);have q5:=HK.out.c 5 (by omega);have qf:=HK.out.f;have k0:w1.cell? ⟨g,0,none⟩=some (.string a):=by simpa using HK.out.words 0 (by simp)
 have k1:w1.cell? ⟨g,1,none⟩=some (.string b):=by simpa using HK.out.words 1 (by simp)
 have k2:w1.cell? ⟨g,2,none⟩=some (.string c):=by simpa using HK.out.words 2 (by simp)
 have k3:w1.cell? ⟨g,3,none⟩=some (.string d):=by simpa using HK.out.words 3 (by simp)
 have k4:w1.cell? ⟨g,4,none⟩=some (.string e):=by simpa using HK.out.words 4 (by simp)
 have k5:w1.cell? ⟨g,5,none⟩=some (.string f):=by simpa using HK.out.words 5 (by simp)
 clear hK
 go_wp2_with fail
 refine (num_any _ _).mono ?_;rintro e w' ⟨rfl,hw'⟩
 replace hw':=hw'.symm
 subst hw';rw[h1]
 go_wp2_with fail
 refine (refRead_any _ _).mono ?_;rintro e w2 ⟨rfl,hb2⟩;rw[h2];have HK2:Hid (PaK w g [a,b,c,d,e,f] (w2.alloc (.cells #[.int i64 (psM b),.int i64 (psB b)] 62))):=(HK.out.later hb2).alloc _;have o0:(w2.alloc (.cells #[.int i64 (psM b),.int i64 (psB b)] 62)).cell? ⟨w2.heap.size,0,none⟩=some (.int i64 (psM b)):=by simp
 have o1:(w2.alloc (.cells #[.int i64 (psM b),.int i64 (psB b)] 62)).cell? ⟨w2.heap.size,1,none⟩=some (.int i64 (psB b)):=by simp
 have ltO:w2.heap.size<(w2.alloc (.cells #[.int i64 (psM b),.int i64 (psB b)] 62)).heap.size:=by simp
 have geO:w.heap.size<w2.heap.size:=(HK.out.later hb2).lt;have neO:g≠w2.heap.size:=Nat.ne_of_lt (HK.out.later hb2).ltB;clear hb2;clear lt1 ltB gt1 q0 q1 q2 q3 q4 q5 qf k0 k1 k2 k3 k4 k5;go_upto_region 7 with fail
 generalize w2.alloc (.cells #[.int i64 (psM b),.int i64 (psB b)] 62)=W2 at *
 generalize w2.heap.size=C at *
 have lt1:=HK2.out.lt;have ltB:=HK2.out.ltB;have gt1:=HK2.out.gt;have q0:=HK2.out.c 0 (by omega);have q1:=HK2.out.c 1 (by omega);have q2:=HK2.out.c 2 (by omega);have q3:=HK2.out.c 3 (by omega);have q4:=HK2.out.c 4 (by omega);have q5:=HK2.out.c 5 (by omega);have qf:=HK2.out.f;have k0:W2.cell? ⟨g,0,none⟩=some (.string a):=by simpa using HK2.out.words 0 (by simp)
 have k1:W2.cell? ⟨g,1,none⟩=some (.string b):=by simpa using HK2.out.words 1 (by simp)
 have k2:W2.cell? ⟨g,2,none⟩=some (.string c):=by simpa using HK2.out.words 2 (by simp)
 have k3:W2.cell? ⟨g,3,none⟩=some (.string d):=by simpa using HK2.out.words 3 (by simp)
 have k4:W2.cell? ⟨g,4,none⟩=some (.string e):=by simpa using HK2.out.words 4 (by simp)
 have k5:W2.cell? ⟨g,5,none⟩=some (.string f):=by simpa using HK2.out.words 5 (by simp)
 go_wp2;refine bodyPost_ret (v:=.tuple #[.agg #[.int i64 0,.int i64 0,.int i64 0,.int i64 0,.int i64 0,.int i64 0],.int i64 2]) (by simp[results,results30,go_sem, *]) rfl ⟨rfl,?_⟩;exact six HK2.out.below (nLQ _) _ _ _ _ _ _
theorem rd_out6 (s:ByteArray)(w:World)(hs:s.size≤1048576)(a b c d e f:ByteArray)(hws:cutA s=[a,b,c,d,e,f])(h1:dcOk a=true)(h2:psOk b=true)(h3:(c.toList==[111,117,116])=false):
 Calls prog 30 #[.string s] w fun e w'=>e=.returned (.tuple #[.agg #[.int i64 0,.int i64 0,.int i64 0,.int i64 0,.int i64 0,.int i64 0],.int i64 2])∧Below w.heap.size w w':=by
 have hln:(cutA s).length=6:=by rw[hws];rfl
 go_enter func30,ntmps30
 go_wp2_with fail
 refine (cut_any s _ hs).mono ?_;rintro e w1 ⟨v,rfl,hown,hb1⟩;obtain⟨g,cap,rfl,hg,hcap,hcap2,hW⟩:=own_words hown (by omega);have hK:=PaK.from rfl hb1 hg hW (by omega);rw[hln];rw[hws] at hK;clear hown hb1 hg hW hcap hln hws;have HK:Hid (PaK w g [a,b,c,d,e,f] w1):=hK;have lt1:=HK.out.lt;have ltB:=HK.out.ltB;have gt1:=HK.out.gt;have q0:=HK.out.c 0 (by omega);have q1:=HK.out.c 1 (by omega);have q2:=HK.out.c 2 (by omega);have q3:=HK.out.c 3 (by omega);have q4:=HK.out.c 4 (by omega);have q5:=HK.out.c 5 (by omega);have qf:=HK.out.f;have k0:w1.cell? ⟨g,0,none⟩=some (.string a):=by simpa using HK.out.words 0 (by simp)
 have k1:w1.cell? ⟨g,1,none⟩=some (.string b):=by simpa using HK.out.words 1 (by simp)
 have k2:w1.cell? ⟨g,2,none⟩=some (.string c):=by simpa using HK.out.words 2 (by simp)
 have k3:w1.cell? ⟨g,3,none⟩=some (.string d):=by simpa using HK.out.words 3 (by simp)
 have k4:w1.cell? ⟨g,4,none⟩=some (.string e):=by simpa using HK.out.words 4 (by simp)
 have k5:w1.cell? ⟨g,5,none⟩=some (.string f):=by simpa using HK.out.words 5 (by simp)
 clear hK
 go_wp2_with fail
 refine (num_any _ _).mono ?_;rintro e w' ⟨rfl,hw'⟩
 replace hw':=hw'.symm
 subst hw';rw[h1]
 go_wp2_with fail
 refine (refRead_any _ _).mono ?_;rintro e w2 ⟨rfl,hb2⟩;rw[h2];have HK2:Hid (PaK w g [a,b,c,d,e,f] (w2.alloc (.cells #[.int i64 (psM b),.int i64 (psB b)] 62))):=(HK.out.later hb2).alloc _;have o0:(w2.alloc (.cells #[.int i64 (psM b),.int i64 (psB b)] 62)).cell? ⟨w2.heap.size,0,none⟩=some (.int i64 (psM b)):=by simp
 have o1:(w2.alloc (.cells #[.int i64 (psM b),.int i64 (psB b)] 62)).cell? ⟨w2.heap.size,1,none⟩=some (.int i64 (psB b)):=by simp
 have ltO:w2.heap.size<(w2.alloc (.cells #[.int i64 (psM b),.int i64 (psB b)] 62)).heap.size:=by simp
 have geO:w.heap.size<w2.heap.size:=(HK.out.later hb2).lt;have neO:g≠w2.heap.size:=Nat.ne_of_lt (HK.out.later hb2).ltB;clear hb2;clear lt1 ltB gt1 q0 q1 q2 q3 q4 q5 qf k0 k1 k2 k3 k4 k5;go_upto_region 7 with fail
 generalize w2.alloc (.cells #[.int i64 (psM b),.int i64 (psB b)] 62)=W2 at *
 generalize w2.heap.size=C at *
 have lt1:=HK2.out.lt;have ltB:=HK2.out.ltB;have gt1:=HK2.out.gt;have q0:=HK2.out.c 0 (by omega);have q1:=HK2.out.c 1 (by omega);have q2:=HK2.out.c 2 (by omega);have q3:=HK2.out.c 3 (by omega);have q4:=HK2.out.c 4 (by omega);have q5:=HK2.out.c 5 (by omega);have qf:=HK2.out.f;have k0:W2.cell? ⟨g,0,none⟩=some (.string a):=by simpa using HK2.out.words 0 (by simp)
 have k1:W2.cell? ⟨g,1,none⟩=some (.string b):=by simpa using HK2.out.words 1 (by simp)
 have k2:W2.cell? ⟨g,2,none⟩=some (.string c):=by simpa using HK2.out.words 2 (by simp)
 have k3:W2.cell? ⟨g,3,none⟩=some (.string d):=by simpa using HK2.out.words 3 (by simp)
 have k4:W2.cell? ⟨g,4,none⟩=some (.string e):=by simpa using HK2.out.words 4 (by simp)
 have k5:W2.cell? ⟨g,5,none⟩=some (.string f):=by simpa using HK2.out.words 5 (by simp)
 go_upto_region 10 with fail;have HK3:Hid (PaK w g [a,b,c,d,e,f] (W2.alloc (.cells #[.int i64 (dcN a),.int i64 (psM b),.int i64 (psB b),.int i64 0,.int i64 0,.int i64 0] 64))):=HK2.out.alloc _;have r0:(W2.alloc (.cells #[.int i64 (dcN a),.int i64 (psM b),.int i64 (psB b),.int i64 0,.int i64 0,.int i64 0] 64)).cell? ⟨W2.heap.size,0,none⟩=some (.int i64 (dcN a)):=by simp
 have r1:(W2.alloc (.cells #[.int i64 (dcN a),.int i64 (psM b),.int i64 (psB b),.int i64 0,.int i64 0,.int i64 0] 64)).cell? ⟨W2.heap.size,1,none⟩=some (.int i64 (psM b)):=by simp
 have r2:(W2.alloc (.cells #[.int i64 (dcN a),.int i64 (psM b),.int i64 (psB b),.int i64 0,.int i64 0,.int i64 0] 64)).cell? ⟨W2.heap.size,2,none⟩=some (.int i64 (psB b)):=by simp
 have r3:(W2.alloc (.cells #[.int i64 (dcN a),.int i64 (psM b),.int i64 (psB b),.int i64 0,.int i64 0,.int i64 0] 64)).cell? ⟨W2.heap.size,3,none⟩=some (.int i64 0):=by simp
 have r4:(W2.alloc (.cells #[.int i64 (dcN a),.int i64 (psM b),.int i64 (psB b),.int i64 0,.int i64 0,.int i64 0] 64)).cell? ⟨W2.heap.size,4,none⟩=some (.int i64 0):=by simp
 have r5:(W2.alloc (.cells #[.int i64 (dcN a),.int i64 (psM b),.int i64 (psB b),.int i64 0,.int i64 0,.int i64 0] 64)).cell? ⟨W2.heap.size,5,none⟩=some (.int i64 0):=by simp
 have rf:∀k,(W2.alloc (.cells #[.int i64 (dcN a),.int i64 (psM b),.int i64 (psB b),.int i64 0,.int i64 0,.int i64 0] 64)).frozen? ⟨W2.heap.size,k,none⟩=false:=by intro k;simp
 have ltR:W2.heap.size<(W2.alloc (.cells #[.int i64 (dcN a),.int i64 (psM b),.int i64 (psB b),.int i64 0,.int i64 0,.int i64 0] 64)).heap.size:=by simp
 have geR:w.heap.size<W2.heap.size:=HK2.out.lt;have neR:g≠W2.heap.size:=Nat.ne_of_lt HK2.out.ltB;clear lt1 ltB gt1 q0 q1 q2 q3 q4 q5 qf k0 k1 k2 k3 k4 k5;clear o0 o1 ltO geO neO
 generalize W2.alloc (.cells #[.int i64 (dcN a),.int i64 (psM b),.int i64 (psB b),.int i64 0,.int i64 0,.int i64 0] 64)=W3 at *
 generalize W2.heap.size=R at *
 clear HK2;have lt1:=HK3.out.lt;have ltB:=HK3.out.ltB;have gt1:=HK3.out.gt;have q0:=HK3.out.c 0 (by omega);have q1:=HK3.out.c 1 (by omega);have q2:=HK3.out.c 2 (by omega);have q3:=HK3.out.c 3 (by omega);have q4:=HK3.out.c 4 (by omega);have q5:=HK3.out.c 5 (by omega);have qf:=HK3.out.f;have k0:W3.cell? ⟨g,0,none⟩=some (.string a):=by simpa using HK3.out.words 0 (by simp)
 have k1:W3.cell? ⟨g,1,none⟩=some (.string b):=by simpa using HK3.out.words 1 (by simp)
 have k2:W3.cell? ⟨g,2,none⟩=some (.string c):=by simpa using HK3.out.words 2 (by simp)
 have k3:W3.cell? ⟨g,3,none⟩=some (.string d):=by simpa using HK3.out.words 3 (by simp)
 have k4:W3.cell? ⟨g,4,none⟩=some (.string e):=by simpa using HK3.out.words 4 (by simp)
 have k5:W3.cell? ⟨g,5,none⟩=some (.string f):=by simpa using HK3.out.words 5 (by simp)
 have h3n:(c.toList != [111,117,116])=true:=by rw[bne,h3];rfl
 go_wp2_with fail
 refine (num_any _ _).mono ?_;rintro e w' ⟨rfl,hw'⟩
 replace hw':=hw'.symm
 subst hw';go_wp2;refine bodyPost_ret (v:=.tuple #[.agg #[.int i64 0,.int i64 0,.int i64 0,.int i64 0,.int i64 0,.int i64 0],.int i64 2]) (by simp[results,results30,go_sem, *]) rfl ⟨rfl,?_⟩;exact six HK3.out.below (nLQ _) _ _ _ _ _ _
theorem rd_port6 (s:ByteArray)(w:World)(hs:s.size≤1048576)(a b c d e f:ByteArray)(hws:cutA s=[a,b,c,d,e,f])(h1:dcOk a=true)(h2:psOk b=true)(h3:(c.toList==[111,117,116])=true)(h5:dcOk d=false):
 Calls prog 30 #[.string s] w fun e w'=>e=.returned (.tuple #[.agg #[.int i64 0,.int i64 0,.int i64 0,.int i64 0,.int i64 0,.int i64 0],.int i64 2])∧Below w.heap.size w w':=by
 have hln:(cutA s).length=6:=by rw[hws];rfl
 go_enter func30,ntmps30
 go_wp2_with fail
 refine (cut_any s _ hs).mono ?_;rintro e w1 ⟨v,rfl,hown,hb1⟩;obtain⟨g,cap,rfl,hg,hcap,hcap2,hW⟩:=own_words hown (by omega);have hK:=PaK.from rfl hb1 hg hW (by omega);rw[hln];rw[hws] at hK;clear hown hb1 hg hW hcap hln hws;have HK:Hid (PaK w g [a,b,c,d,e,f] w1):=hK;have lt1:=HK.out.lt;have ltB:=HK.out.ltB;have gt1:=HK.out.gt;have q0:=HK.out.c 0 (by omega);have q1:=HK.out.c 1 (by omega);have q2:=HK.out.c 2 (by omega);have q3:=HK.out.c 3 (by omega);have q4:=HK.out.c 4 (by omega);have q5:=HK.out.c 5 (by omega);have qf:=HK.out.f;have k0:w1.cell? ⟨g,0,none⟩=some (.string a):=by simpa using HK.out.words 0 (by simp)
 have k1:w1.cell? ⟨g,1,none⟩=some (.string b):=by simpa using HK.out.words 1 (by simp)
 have k2:w1.cell? ⟨g,2,none⟩=some (.string c):=by simpa using HK.out.words 2 (by simp)
 have k3:w1.cell? ⟨g,3,none⟩=some (.string d):=by simpa using HK.out.words 3 (by simp)
 have k4:w1.cell? ⟨g,4,none⟩=some (.string e):=by simpa using HK.out.words 4 (by simp)
 have k5:w1.cell? ⟨g,5,none⟩=some (.string f):=by simpa using HK.out.words 5 (by simp)
 clear hK
 go_wp2_with fail
 refine (num_any _ _).mono ?_;rintro e w' ⟨rfl,hw'⟩
 replace hw':=hw'.symm
 subst hw';rw[h1]
 go_wp2_with fail
 refine (refRead_any _ _).mono ?_;rintro e w2 ⟨rfl,hb2⟩;rw[h2];have HK2:Hid (PaK w g [a,b,c,d,e,f] (w2.alloc (.cells #[.int i64 (psM b),.int i64 (psB b)] 62))):=(HK.out.later hb2).alloc _;have o0:(w2.alloc (.cells #[.int i64 (psM b),.int i64 (psB b)] 62)).cell? ⟨w2.heap.size,0,none⟩=some (.int i64 (psM b)):=by simp
 have o1:(w2.alloc (.cells #[.int i64 (psM b),.int i64 (psB b)] 62)).cell? ⟨w2.heap.size,1,none⟩=some (.int i64 (psB b)):=by simp
 have ltO:w2.heap.size<(w2.alloc (.cells #[.int i64 (psM b),.int i64 (psB b)] 62)).heap.size:=by simp
 have geO:w.heap.size<w2.heap.size:=(HK.out.later hb2).lt;have neO:g≠w2.heap.size:=Nat.ne_of_lt (HK.out.later hb2).ltB;clear hb2;clear lt1 ltB gt1 q0 q1 q2 q3 q4 q5 qf k0 k1 k2 k3 k4 k5;go_upto_region 7 with fail
 generalize w2.alloc (.cells #[.int i64 (psM b),.int i64 (psB b)] 62)=W2 at *
 generalize w2.heap.size=C at *
 have lt1:=HK2.out.lt;have ltB:=HK2.out.ltB;have gt1:=HK2.out.gt;have q0:=HK2.out.c 0 (by omega);have q1:=HK2.out.c 1 (by omega);have q2:=HK2.out.c 2 (by omega);have q3:=HK2.out.c 3 (by omega);have q4:=HK2.out.c 4 (by omega);have q5:=HK2.out.c 5 (by omega);have qf:=HK2.out.f;have k0:W2.cell? ⟨g,0,none⟩=some (.string a):=by simpa using HK2.out.words 0 (by simp)
 have k1:W2.cell? ⟨g,1,none⟩=some (.string b):=by simpa using HK2.out.words 1 (by simp)
 have k2:W2.cell? ⟨g,2,none⟩=some (.string c):=by simpa using HK2.out.words 2 (by simp)
 have k3:W2.cell? ⟨g,3,none⟩=some (.string d):=by simpa using HK2.out.words 3 (by simp)
 have k4:W2.cell? ⟨g,4,none⟩=some (.string e):=by simpa using HK2.out.words 4 (by simp)
 have k5:W2.cell? ⟨g,5,none⟩=some (.string f):=by simpa using HK2.out.words 5 (by simp)
 go_upto_region 10 with fail;have HK3:Hid (PaK w g [a,b,c,d,e,f] (W2.alloc (.cells #[.int i64 (dcN a),.int i64 (psM b),.int i64 (psB b),.int i64 0,.int i64 0,.int i64 0] 64))):=HK2.out.alloc _;have r0:(W2.alloc (.cells #[.int i64 (dcN a),.int i64 (psM b),.int i64 (psB b),.int i64 0,.int i64 0,.int i64 0] 64)).cell? ⟨W2.heap.size,0,none⟩=some (.int i64 (dcN a)):=by simp
 have r1:(W2.alloc (.cells #[.int i64 (dcN a),.int i64 (psM b),.int i64 (psB b),.int i64 0,.int i64 0,.int i64 0] 64)).cell? ⟨W2.heap.size,1,none⟩=some (.int i64 (psM b)):=by simp
 have r2:(W2.alloc (.cells #[.int i64 (dcN a),.int i64 (psM b),.int i64 (psB b),.int i64 0,.int i64 0,.int i64 0] 64)).cell? ⟨W2.heap.size,2,none⟩=some (.int i64 (psB b)):=by simp
 have r3:(W2.alloc (.cells #[.int i64 (dcN a),.int i64 (psM b),.int i64 (psB b),.int i64 0,.int i64 0,.int i64 0] 64)).cell? ⟨W2.heap.size,3,none⟩=some (.int i64 0):=by simp
 have r4:(W2.alloc (.cells #[.int i64 (dcN a),.int i64 (psM b),.int i64 (psB b),.int i64 0,.int i64 0,.int i64 0] 64)).cell? ⟨W2.heap.size,4,none⟩=some (.int i64 0):=by simp
 have r5:(W2.alloc (.cells #[.int i64 (dcN a),.int i64 (psM b),.int i64 (psB b),.int i64 0,.int i64 0,.int i64 0] 64)).cell? ⟨W2.heap.size,5,none⟩=some (.int i64 0):=by simp
 have rf:∀k,(W2.alloc (.cells #[.int i64 (dcN a),.int i64 (psM b),.int i64 (psB b),.int i64 0,.int i64 0,.int i64 0] 64)).frozen? ⟨W2.heap.size,k,none⟩=false:=by intro k;simp
 have ltR:W2.heap.size<(W2.alloc (.cells #[.int i64 (dcN a),.int i64 (psM b),.int i64 (psB b),.int i64 0,.int i64 0,.int i64 0] 64)).heap.size:=by simp
 have geR:w.heap.size<W2.heap.size:=HK2.out.lt;have neR:g≠W2.heap.size:=Nat.ne_of_lt HK2.out.ltB;clear lt1 ltB gt1 q0 q1 q2 q3 q4 q5 qf k0 k1 k2 k3 k4 k5;clear o0 o1 ltO geO neO
 generalize W2.alloc (.cells #[.int i64 (dcN a),.int i64 (psM b),.int i64 (psB b),.int i64 0,.int i64 0,.int i64 0] 64)=W3 at *
 generalize W2.heap.size=R at *
 clear HK2;have lt1:=HK3.out.lt;have ltB:=HK3.out.ltB;have gt1:=HK3.out.gt;have q0:=HK3.out.c 0 (by omega);have q1:=HK3.out.c 1 (by omega);have q2:=HK3.out.c 2 (by omega);have q3:=HK3.out.c 3 (by omega);have q4:=HK3.out.c 4 (by omega);have q5:=HK3.out.c 5 (by omega);have qf:=HK3.out.f;have k0:W3.cell? ⟨g,0,none⟩=some (.string a):=by simpa using HK3.out.words 0 (by simp)
 have k1:W3.cell? ⟨g,1,none⟩=some (.string b):=by simpa using HK3.out.words 1 (by simp)
 have k2:W3.cell? ⟨g,2,none⟩=some (.string c):=by simpa using HK3.out.words 2 (by simp)
 have k3:W3.cell? ⟨g,3,none⟩=some (.string d):=by simpa using HK3.out.words 3 (by simp)
 have k4:W3.cell? ⟨g,4,none⟩=some (.string e):=by simpa using HK3.out.words 4 (by simp)
 have k5:W3.cell? ⟨g,5,none⟩=some (.string f):=by simpa using HK3.out.words 5 (by simp)
 have h3n:(c.toList != [111,117,116])=false:=by rw[bne,h3];rfl
 go_wp2_with fail
 refine (num_any _ _).mono ?_;rintro e w' ⟨rfl,hw'⟩
 replace hw':=hw'.symm
 subst hw';rw[h5];go_wp2;refine bodyPost_ret (v:=.tuple #[.agg #[.int i64 0,.int i64 0,.int i64 0,.int i64 0,.int i64 0,.int i64 0],.int i64 2]) (by simp[results,results30,go_sem, *]) rfl ⟨rfl,?_⟩;exact six HK3.out.below (nLQ _) _ _ _ _ _ _
theorem rd_zero6 (s:ByteArray)(w:World)(hs:s.size≤1048576)(a b c d e f:ByteArray)(hws:cutA s=[a,b,c,d,e,f])(h1:dcOk a=true)(h2:psOk b=true)(h3:(c.toList==[111,117,116])=true)(h5:dcOk d=true)(h6:(dcN d==0)=true):
 Calls prog 30 #[.string s] w fun e w'=>e=.returned (.tuple #[.agg #[.int i64 0,.int i64 0,.int i64 0,.int i64 0,.int i64 0,.int i64 0],.int i64 2])∧Below w.heap.size w w':=by
 have hln:(cutA s).length=6:=by rw[hws];rfl
 go_enter func30,ntmps30
 go_wp2_with fail
 refine (cut_any s _ hs).mono ?_;rintro e w1 ⟨v,rfl,hown,hb1⟩;obtain⟨g,cap,rfl,hg,hcap,hcap2,hW⟩:=own_words hown (by omega);have hK:=PaK.from rfl hb1 hg hW (by omega);rw[hln];rw[hws] at hK;clear hown hb1 hg hW hcap hln hws;have HK:Hid (PaK w g [a,b,c,d,e,f] w1):=hK;have lt1:=HK.out.lt;have ltB:=HK.out.ltB;have gt1:=HK.out.gt;have q0:=HK.out.c 0 (by omega);have q1:=HK.out.c 1 (by omega);have q2:=HK.out.c 2 (by omega);have q3:=HK.out.c 3 (by omega);have q4:=HK.out.c 4 (by omega);have q5:=HK.out.c 5 (by omega);have qf:=HK.out.f;have k0:w1.cell? ⟨g,0,none⟩=some (.string a):=by simpa using HK.out.words 0 (by simp)
 have k1:w1.cell? ⟨g,1,none⟩=some (.string b):=by simpa using HK.out.words 1 (by simp)
 have k2:w1.cell? ⟨g,2,none⟩=some (.string c):=by simpa using HK.out.words 2 (by simp)
 have k3:w1.cell? ⟨g,3,none⟩=some (.string d):=by simpa using HK.out.words 3 (by simp)
 have k4:w1.cell? ⟨g,4,none⟩=some (.string e):=by simpa using HK.out.words 4 (by simp)
 have k5:w1.cell? ⟨g,5,none⟩=some (.string f):=by simpa using HK.out.words 5 (by simp)
 clear hK
 go_wp2_with fail
 refine (num_any _ _).mono ?_;rintro e w' ⟨rfl,hw'⟩
 replace hw':=hw'.symm
 subst hw';rw[h1]
 go_wp2_with fail
 refine (refRead_any _ _).mono ?_;rintro e w2 ⟨rfl,hb2⟩;rw[h2];have HK2:Hid (PaK w g [a,b,c,d,e,f] (w2.alloc (.cells #[.int i64 (psM b),.int i64 (psB b)] 62))):=(HK.out.later hb2).alloc _;have o0:(w2.alloc (.cells #[.int i64 (psM b),.int i64 (psB b)] 62)).cell? ⟨w2.heap.size,0,none⟩=some (.int i64 (psM b)):=by simp
 have o1:(w2.alloc (.cells #[.int i64 (psM b),.int i64 (psB b)] 62)).cell? ⟨w2.heap.size,1,none⟩=some (.int i64 (psB b)):=by simp
 have ltO:w2.heap.size<(w2.alloc (.cells #[.int i64 (psM b),.int i64 (psB b)] 62)).heap.size:=by simp
 have geO:w.heap.size<w2.heap.size:=(HK.out.later hb2).lt;have neO:g≠w2.heap.size:=Nat.ne_of_lt (HK.out.later hb2).ltB;clear hb2;clear lt1 ltB gt1 q0 q1 q2 q3 q4 q5 qf k0 k1 k2 k3 k4 k5;go_upto_region 7 with fail
 generalize w2.alloc (.cells #[.int i64 (psM b),.int i64 (psB b)] 62)=W2 at *
 generalize w2.heap.size=C at *
 have lt1:=HK2.out.lt;have ltB:=HK2.out.ltB;have gt1:=HK2.out.gt;have q0:=HK2.out.c 0 (by omega);have q1:=HK2.out.c 1 (by omega);have q2:=HK2.out.c 2 (by omega);have q3:=HK2.out.c 3 (by omega);have q4:=HK2.out.c 4 (by omega);have q5:=HK2.out.c 5 (by omega);have qf:=HK2.out.f;have k0:W2.cell? ⟨g,0,none⟩=some (.string a):=by simpa using HK2.out.words 0 (by simp)
 have k1:W2.cell? ⟨g,1,none⟩=some (.string b):=by simpa using HK2.out.words 1 (by simp)
 have k2:W2.cell? ⟨g,2,none⟩=some (.string c):=by simpa using HK2.out.words 2 (by simp)
 have k3:W2.cell? ⟨g,3,none⟩=some (.string d):=by simpa using HK2.out.words 3 (by simp)
 have k4:W2.cell? ⟨g,4,none⟩=some (.string e):=by simpa using HK2.out.words 4 (by simp)
 have k5:W2.cell? ⟨g,5,none⟩=some (.string f):=by simpa using HK2.out.words 5 (by simp)
 go_upto_region 10 with fail;have HK3:Hid (PaK w g [a,b,c,d,e,f] (W2.alloc (.cells #[.int i64 (dcN a),.int i64 (psM b),.int i64 (psB b),.int i64 0,.int i64 0,.int i64 0] 64))):=HK2.out.alloc _;have r0:(W2.alloc (.cells #[.int i64 (dcN a),.int i64 (psM b),.int i64 (psB b),.int i64 0,.int i64 0,.int i64 0] 64)).cell? ⟨W2.heap.size,0,none⟩=some (.int i64 (dcN a)):=by simp
 have r1:(W2.alloc (.cells #[.int i64 (dcN a),.int i64 (psM b),.int i64 (psB b),.int i64 0,.int i64 0,.int i64 0] 64)).cell? ⟨W2.heap.size,1,none⟩=some (.int i64 (psM b)):=by simp
 have r2:(W2.alloc (.cells #[.int i64 (dcN a),.int i64 (psM b),.int i64 (psB b),.int i64 0,.int i64 0,.int i64 0] 64)).cell? ⟨W2.heap.size,2,none⟩=some (.int i64 (psB b)):=by simp
 have r3:(W2.alloc (.cells #[.int i64 (dcN a),.int i64 (psM b),.int i64 (psB b),.int i64 0,.int i64 0,.int i64 0] 64)).cell? ⟨W2.heap.size,3,none⟩=some (.int i64 0):=by simp
 have r4:(W2.alloc (.cells #[.int i64 (dcN a),.int i64 (psM b),.int i64 (psB b),.int i64 0,.int i64 0,.int i64 0] 64)).cell? ⟨W2.heap.size,4,none⟩=some (.int i64 0):=by simp
 have r5:(W2.alloc (.cells #[.int i64 (dcN a),.int i64 (psM b),.int i64 (psB b),.int i64 0,.int i64 0,.int i64 0] 64)).cell? ⟨W2.heap.size,5,none⟩=some (.int i64 0):=by simp
 have rf:∀k,(W2.alloc (.cells #[.int i64 (dcN a),.int i64 (psM b),.int i64 (psB b),.int i64 0,.int i64 0,.int i64 0] 64)).frozen? ⟨W2.heap.size,k,none⟩=false:=by intro k;simp
 have ltR:W2.heap.size<(W2.alloc (.cells #[.int i64 (dcN a),.int i64 (psM b),.int i64 (psB b),.int i64 0,.int i64 0,.int i64 0] 64)).heap.size:=by simp
 have geR:w.heap.size<W2.heap.size:=HK2.out.lt;have neR:g≠W2.heap.size:=Nat.ne_of_lt HK2.out.ltB;clear lt1 ltB gt1 q0 q1 q2 q3 q4 q5 qf k0 k1 k2 k3 k4 k5;clear o0 o1 ltO geO neO
 generalize W2.alloc (.cells #[.int i64 (dcN a),.int i64 (psM b),.int i64 (psB b),.int i64 0,.int i64 0,.int i64 0] 64)=W3 at *
 generalize W2.heap.size=R at *
 clear HK2;have lt1:=HK3.out.lt;have ltB:=HK3.out.ltB;have gt1:=HK3.out.gt;have q0:=HK3.out.c 0 (by omega);have q1:=HK3.out.c 1 (by omega);have q2:=HK3.out.c 2 (by omega);have q3:=HK3.out.c 3 (by omega);have q4:=HK3.out.c 4 (by omega);have q5:=HK3.out.c 5 (by omega);have qf:=HK3.out.f;have k0:W3.cell? ⟨g,0,none⟩=some (.string a):=by simpa using HK3.out.words 0 (by simp)
 have k1:W3.cell? ⟨g,1,none⟩=some (.string b):=by simpa using HK3.out.words 1 (by simp)
 have k2:W3.cell? ⟨g,2,none⟩=some (.string c):=by simpa using HK3.out.words 2 (by simp)
 have k3:W3.cell? ⟨g,3,none⟩=some (.string d):=by simpa using HK3.out.words 3 (by simp)
 have k4:W3.cell? ⟨g,4,none⟩=some (.string e):=by simpa using HK3.out.words 4 (by simp)
 have k5:W3.cell? ⟨g,5,none⟩=some (.string f):=by simpa using HK3.out.words 5 (by simp)
 have h3n:(c.toList != [111,117,116])=false:=by rw[bne,h3];rfl
 go_wp2_with fail
 refine (num_any _ _).mono ?_;rintro e w' ⟨rfl,hw'⟩
 replace hw':=hw'.symm
 subst hw';rw[h5];go_wp2;refine bodyPost_ret (v:=.tuple #[.agg #[.int i64 0,.int i64 0,.int i64 0,.int i64 0,.int i64 0,.int i64 0],.int i64 2]) (by simp[results,results30,go_sem, *]) rfl ⟨rfl,?_⟩;exact six HK3.out.below (nLQ _) _ _ _ _ _ _
theorem rd_set6 (s:ByteArray)(w:World)(hs:s.size≤1048576)(a b c d e f:ByteArray)(hws:cutA s=[a,b,c,d,e,f])(h1:dcOk a=true)(h2:psOk b=true)(h3:(c.toList==[111,117,116])=true)(h5:dcOk d=true)(h6:(dcN d==0)=false)(h7:(e.toList==[115,101,116])=false):
 Calls prog 30 #[.string s] w fun e w'=>e=.returned (.tuple #[.agg #[.int i64 0,.int i64 0,.int i64 0,.int i64 0,.int i64 0,.int i64 0],.int i64 2])∧Below w.heap.size w w':=by
 have hln:(cutA s).length=6:=by rw[hws];rfl
 go_enter func30,ntmps30
 go_wp2_with fail
 refine (cut_any s _ hs).mono ?_;rintro e w1 ⟨v,rfl,hown,hb1⟩;obtain⟨g,cap,rfl,hg,hcap,hcap2,hW⟩:=own_words hown (by omega);have hK:=PaK.from rfl hb1 hg hW (by omega);rw[hln];rw[hws] at hK;clear hown hb1 hg hW hcap hln hws;have HK:Hid (PaK w g [a,b,c,d,e,f] w1):=hK;have lt1:=HK.out.lt;have ltB:=HK.out.ltB;have gt1:=HK.out.gt;have q0:=HK.out.c 0 (by omega);have q1:=HK.out.c 1 (by omega);have q2:=HK.out.c 2 (by omega);have q3:=HK.out.c 3 (by omega);have q4:=HK.out.c 4 (by omega);have q5:=HK.out.c 5 (by omega);have qf:=HK.out.f;have k0:w1.cell? ⟨g,0,none⟩=some (.string a):=by simpa using HK.out.words 0 (by simp)
 have k1:w1.cell? ⟨g,1,none⟩=some (.string b):=by simpa using HK.out.words 1 (by simp)
 have k2:w1.cell? ⟨g,2,none⟩=some (.string c):=by simpa using HK.out.words 2 (by simp)
 have k3:w1.cell? ⟨g,3,none⟩=some (.string d):=by simpa using HK.out.words 3 (by simp)
 have k4:w1.cell? ⟨g,4,none⟩=some (.string e):=by simpa using HK.out.words 4 (by simp)
 have k5:w1.cell? ⟨g,5,none⟩=some (.string f):=by simpa using HK.out.words 5 (by simp)
 clear hK
 go_wp2_with fail
 refine (num_any _ _).mono ?_;rintro e w' ⟨rfl,hw'⟩
 replace hw':=hw'.symm
 subst hw';rw[h1]
 go_wp2_with fail
 refine (refRead_any _ _).mono ?_;rintro e w2 ⟨rfl,hb2⟩;rw[h2];have HK2:Hid (PaK w g [a,b,c,d,e,f] (w2.alloc (.cells #[.int i64 (psM b),.int i64 (psB b)] 62))):=(HK.out.later hb2).alloc _;have o0:(w2.alloc (.cells #[.int i64 (psM b),.int i64 (psB b)] 62)).cell? ⟨w2.heap.size,0,none⟩=some (.int i64 (psM b)):=by simp
 have o1:(w2.alloc (.cells #[.int i64 (psM b),.int i64 (psB b)] 62)).cell? ⟨w2.heap.size,1,none⟩=some (.int i64 (psB b)):=by simp
 have ltO:w2.heap.size<(w2.alloc (.cells #[.int i64 (psM b),.int i64 (psB b)] 62)).heap.size:=by simp
 have geO:w.heap.size<w2.heap.size:=(HK.out.later hb2).lt;have neO:g≠w2.heap.size:=Nat.ne_of_lt (HK.out.later hb2).ltB;clear hb2;clear lt1 ltB gt1 q0 q1 q2 q3 q4 q5 qf k0 k1 k2 k3 k4 k5;go_upto_region 7 with fail
 generalize w2.alloc (.cells #[.int i64 (psM b),.int i64 (psB b)] 62)=W2 at *
 generalize w2.heap.size=C at *
 have lt1:=HK2.out.lt;have ltB:=HK2.out.ltB;have gt1:=HK2.out.gt;have q0:=HK2.out.c 0 (by omega);have q1:=HK2.out.c 1 (by omega);have q2:=HK2.out.c 2 (by omega);have q3:=HK2.out.c 3 (by omega);have q4:=HK2.out.c 4 (by omega);have q5:=HK2.out.c 5 (by omega);have qf:=HK2.out.f;have k0:W2.cell? ⟨g,0,none⟩=some (.string a):=by simpa using HK2.out.words 0 (by simp)
 have k1:W2.cell? ⟨g,1,none⟩=some (.string b):=by simpa using HK2.out.words 1 (by simp)
 have k2:W2.cell? ⟨g,2,none⟩=some (.string c):=by simpa using HK2.out.words 2 (by simp)
 have k3:W2.cell? ⟨g,3,none⟩=some (.string d):=by simpa using HK2.out.words 3 (by simp)
 have k4:W2.cell? ⟨g,4,none⟩=some (.string e):=by simpa using HK2.out.words 4 (by simp)
 have k5:W2.cell? ⟨g,5,none⟩=some (.string f):=by simpa using HK2.out.words 5 (by simp)
 go_upto_region 10 with fail;have HK3:Hid (PaK w g [a,b,c,d,e,f] (W2.alloc (.cells #[.int i64 (dcN a),.int i64 (psM b),.int i64 (psB b),.int i64 0,.int i64 0,.int i64 0] 64))):=HK2.out.alloc _;have r0:(W2.alloc (.cells #[.int i64 (dcN a),.int i64 (psM b),.int i64 (psB b),.int i64 0,.int i64 0,.int i64 0] 64)).cell? ⟨W2.heap.size,0,none⟩=some (.int i64 (dcN a)):=by simp
 have r1:(W2.alloc (.cells #[.int i64 (dcN a),.int i64 (psM b),.int i64 (psB b),.int i64 0,.int i64 0,.int i64 0] 64)).cell? ⟨W2.heap.size,1,none⟩=some (.int i64 (psM b)):=by simp
 have r2:(W2.alloc (.cells #[.int i64 (dcN a),.int i64 (psM b),.int i64 (psB b),.int i64 0,.int i64 0,.int i64 0] 64)).cell? ⟨W2.heap.size,2,none⟩=some (.int i64 (psB b)):=by simp
 have r3:(W2.alloc (.cells #[.int i64 (dcN a),.int i64 (psM b),.int i64 (psB b),.int i64 0,.int i64 0,.int i64 0] 64)).cell? ⟨W2.heap.size,3,none⟩=some (.int i64 0):=by simp
 have r4:(W2.alloc (.cells #[.int i64 (dcN a),.int i64 (psM b),.int i64 (psB b),.int i64 0,.int i64 0,.int i64 0] 64)).cell? ⟨W2.heap.size,4,none⟩=some (.int i64 0):=by simp
 have r5:(W2.alloc (.cells #[.int i64 (dcN a),.int i64 (psM b),.int i64 (psB b),.int i64 0,.int i64 0,.int i64 0] 64)).cell? ⟨W2.heap.size,5,none⟩=some (.int i64 0):=by simp
 have rf:∀k,(W2.alloc (.cells #[.int i64 (dcN a),.int i64 (psM b),.int i64 (psB b),.int i64 0,.int i64 0,.int i64 0] 64)).frozen? ⟨W2.heap.size,k,none⟩=false:=by intro k;simp
 have ltR:W2.heap.size<(W2.alloc (.cells #[.int i64 (dcN a),.int i64 (psM b),.int i64 (psB b),.int i64 0,.int i64 0,.int i64 0] 64)).heap.size:=by simp
 have geR:w.heap.size<W2.heap.size:=HK2.out.lt;have neR:g≠W2.heap.size:=Nat.ne_of_lt HK2.out.ltB;clear lt1 ltB gt1 q0 q1 q2 q3 q4 q5 qf k0 k1 k2 k3 k4 k5;clear o0 o1 ltO geO neO
 generalize W2.alloc (.cells #[.int i64 (dcN a),.int i64 (psM b),.int i64 (psB b),.int i64 0,.int i64 0,.int i64 0] 64)=W3 at *
 generalize W2.heap.size=R at *
 clear HK2;have lt1:=HK3.out.lt;have ltB:=HK3.out.ltB;have gt1:=HK3.out.gt;have q0:=HK3.out.c 0 (by omega);have q1:=HK3.out.c 1 (by omega);have q2:=HK3.out.c 2 (by omega);have q3:=HK3.out.c 3 (by omega);have q4:=HK3.out.c 4 (by omega);have q5:=HK3.out.c 5 (by omega);have qf:=HK3.out.f;have k0:W3.cell? ⟨g,0,none⟩=some (.string a):=by simpa using HK3.out.words 0 (by simp)
 have k1:W3.cell? ⟨g,1,none⟩=some (.string b):=by simpa using HK3.out.words 1 (by simp)
 have k2:W3.cell? ⟨g,2,none⟩=some (.string c):=by simpa using HK3.out.words 2 (by simp)
 have k3:W3.cell? ⟨g,3,none⟩=some (.string d):=by simpa using HK3.out.words 3 (by simp)
 have k4:W3.cell? ⟨g,4,none⟩=some (.string e):=by simpa using HK3.out.words 4 (by simp)
 have k5:W3.cell? ⟨g,5,none⟩=some (.string f):=by simpa using HK3.out.words 5 (by simp)
 have h3n:(c.toList != [111,117,116])=false:=by rw[bne,h3];rfl
 go_wp2_with fail
 refine (num_any _ _).mono ?_;rintro e w' ⟨rfl,hw'⟩
 replace hw':=hw'.symm
 subst hw';rw[h5];go_upto_region 17 with fail;have HK4:Hid (PaK w g [a,b,c,d,e,f] (W3.setCell ⟨R,3,none⟩ (.int i64 (dcN d)))):=HK3.out.set geR neR _;have s0:(W3.setCell ⟨R,3,none⟩ (.int i64 (dcN d))).cell? ⟨R,0,none⟩=some (.int i64 (dcN a)):=(World.cell?_setCell_other _ _ _ _ (by simp)).trans r0;have s1:(W3.setCell ⟨R,3,none⟩ (.int i64 (dcN d))).cell? ⟨R,1,none⟩=some (.int i64 (psM b)):=(World.cell?_setCell_other _ _ _ _ (by simp)).trans r1;have s2:(W3.setCell ⟨R,3,none⟩ (.int i64 (dcN d))).cell? ⟨R,2,none⟩=some (.int i64 (psB b)):=(World.cell?_setCell_other _ _ _ _ (by simp)).trans r2;have s3:(W3.setCell ⟨R,3,none⟩ (.int i64 (dcN d))).cell? ⟨R,3,none⟩=some (.int i64 (dcN d)):=World.cell?_setCell_same _ _ _ r3;have s4:(W3.setCell ⟨R,3,none⟩ (.int i64 (dcN d))).cell? ⟨R,4,none⟩=some (.int i64 0):=(World.cell?_setCell_other _ _ _ _ (by simp)).trans r4;have s5:(W3.setCell ⟨R,3,none⟩ (.int i64 (dcN d))).cell? ⟨R,5,none⟩=some (.int i64 0):=(World.cell?_setCell_other _ _ _ _ (by simp)).trans r5;have sf:∀k,(W3.setCell ⟨R,3,none⟩ (.int i64 (dcN d))).frozen? ⟨R,k,none⟩=false:=by intro k;simpa using rf k
 have ltS:R<(W3.setCell ⟨R,3,none⟩ (.int i64 (dcN d))).heap.size:=by simpa using ltR
 clear lt1 ltB gt1 q0 q1 q2 q3 q4 q5 qf k0 k1 k2 k3 k4 k5;clear r0 r1 r2 r3 r4 r5 rf ltR
 generalize (W3.setCell ⟨R,3,none⟩ (.int i64 (dcN d)))=W4 at *
 clear HK3;have r0:=s0;have r1:=s1;have r2:=s2;have r3:=s3;have r4:=s4;have r5:=s5;have rf:=sf;have ltR:=ltS;clear s0 s1 s2 s3 s4 s5 sf ltS;have lt1:=HK4.out.lt;have ltB:=HK4.out.ltB;have gt1:=HK4.out.gt;have q0:=HK4.out.c 0 (by omega);have q1:=HK4.out.c 1 (by omega);have q2:=HK4.out.c 2 (by omega);have q3:=HK4.out.c 3 (by omega);have q4:=HK4.out.c 4 (by omega);have q5:=HK4.out.c 5 (by omega);have qf:=HK4.out.f;have k0:W4.cell? ⟨g,0,none⟩=some (.string a):=by simpa using HK4.out.words 0 (by simp)
 have k1:W4.cell? ⟨g,1,none⟩=some (.string b):=by simpa using HK4.out.words 1 (by simp)
 have k2:W4.cell? ⟨g,2,none⟩=some (.string c):=by simpa using HK4.out.words 2 (by simp)
 have k3:W4.cell? ⟨g,3,none⟩=some (.string d):=by simpa using HK4.out.words 3 (by simp)
 have k4:W4.cell? ⟨g,4,none⟩=some (.string e):=by simpa using HK4.out.words 4 (by simp)
 have k5:W4.cell? ⟨g,5,none⟩=some (.string f):=by simpa using HK4.out.words 5 (by simp)
 have h7n:(e.toList != [115,101,116])=true:=by rw[bne,h7];rfl
 go_wp2_with fail
 refine (refRead_any _ _).mono ?_;rintro e w6 ⟨rfl,hb6⟩;have HK6:Hid (PaK w g [a,b,c,d,e,f] (w6.alloc (.cells #[.int i64 (psM f),.int i64 (psB f)] 62))):=(HK4.out.later hb6).alloc _;have t0:(w6.alloc (.cells #[.int i64 (psM f),.int i64 (psB f)] 62)).cell? ⟨R,0,none⟩=some (.int i64 (dcN a)):=cell_later ((bRQ _ _).alloc (nLQ _) _) (cell_later hb6 r0);have t1:(w6.alloc (.cells #[.int i64 (psM f),.int i64 (psB f)] 62)).cell? ⟨R,1,none⟩=some (.int i64 (psM b)):=cell_later ((bRQ _ _).alloc (nLQ _) _) (cell_later hb6 r1);have t2:(w6.alloc (.cells #[.int i64 (psM f),.int i64 (psB f)] 62)).cell? ⟨R,2,none⟩=some (.int i64 (psB b)):=cell_later ((bRQ _ _).alloc (nLQ _) _) (cell_later hb6 r2);have t3:(w6.alloc (.cells #[.int i64 (psM f),.int i64 (psB f)] 62)).cell? ⟨R,3,none⟩=some (.int i64 (dcN d)):=cell_later ((bRQ _ _).alloc (nLQ _) _) (cell_later hb6 r3);have t4:(w6.alloc (.cells #[.int i64 (psM f),.int i64 (psB f)] 62)).cell? ⟨R,4,none⟩=some (.int i64 0):=cell_later ((bRQ _ _).alloc (nLQ _) _) (cell_later hb6 r4);have t5:(w6.alloc (.cells #[.int i64 (psM f),.int i64 (psB f)] 62)).cell? ⟨R,5,none⟩=some (.int i64 0):=cell_later ((bRQ _ _).alloc (nLQ _) _) (cell_later hb6 r5);have tf:∀k,(w6.alloc (.cells #[.int i64 (psM f),.int i64 (psB f)] 62)).frozen? ⟨R,k,none⟩=false:=by intro k;rw[((Below.refl w6.heap.size w6).alloc (nLQ _) _).frozen (p:=⟨R,k,none⟩) (Nat.lt_of_lt_of_le ltR hb6.size),hb6.frozen (p:=⟨R,k,none⟩) ltR];exact rf k
 have ltT:R<(w6.alloc (.cells #[.int i64 (psM f),.int i64 (psB f)] 62)).heap.size:=by have:=hb6.size;simp;omega
 have x0:(w6.alloc (.cells #[.int i64 (psM f),.int i64 (psB f)] 62)).cell? ⟨w6.heap.size,0,none⟩=some (.int i64 (psM f)):=by simp
 have x1:(w6.alloc (.cells #[.int i64 (psM f),.int i64 (psB f)] 62)).cell? ⟨w6.heap.size,1,none⟩=some (.int i64 (psB f)):=by simp
 have ltX:w6.heap.size<(w6.alloc (.cells #[.int i64 (psM f),.int i64 (psB f)] 62)).heap.size:=by simp
 have neX:R≠w6.heap.size:=by have:=hb6.size;omega
 clear hb6;clear lt1 ltB gt1 q0 q1 q2 q3 q4 q5 qf k0 k1 k2 k3 k4 k5;clear r0 r1 r2 r3 r4 r5 rf ltR;go_upto_region 19 with fail
 generalize w6.alloc (.cells #[.int i64 (psM f),.int i64 (psB f)] 62)=W6 at *
 generalize w6.heap.size=X at *
 clear HK4;have r0:=t0;have r1:=t1;have r2:=t2;have r3:=t3;have r4:=t4;have r5:=t5;have rf:=tf;have ltR:=ltT;clear t0 t1 t2 t3 t4 t5 tf ltT;have lt1:=HK6.out.lt;have ltB:=HK6.out.ltB;have gt1:=HK6.out.gt;have q0:=HK6.out.c 0 (by omega);have q1:=HK6.out.c 1 (by omega);have q2:=HK6.out.c 2 (by omega);have q3:=HK6.out.c 3 (by omega);have q4:=HK6.out.c 4 (by omega);have q5:=HK6.out.c 5 (by omega);have qf:=HK6.out.f;have k0:W6.cell? ⟨g,0,none⟩=some (.string a):=by simpa using HK6.out.words 0 (by simp)
 have k1:W6.cell? ⟨g,1,none⟩=some (.string b):=by simpa using HK6.out.words 1 (by simp)
 have k2:W6.cell? ⟨g,2,none⟩=some (.string c):=by simpa using HK6.out.words 2 (by simp)
 have k3:W6.cell? ⟨g,3,none⟩=some (.string d):=by simpa using HK6.out.words 3 (by simp)
 have k4:W6.cell? ⟨g,4,none⟩=some (.string e):=by simpa using HK6.out.words 4 (by simp)
 have k5:W6.cell? ⟨g,5,none⟩=some (.string f):=by simpa using HK6.out.words 5 (by simp)
 go_wp2;refine bodyPost_ret (v:=.tuple #[.agg #[.int i64 0,.int i64 0,.int i64 0,.int i64 0,.int i64 0,.int i64 0],.int i64 2]) (by simp[results,results30,go_sem, *]) rfl ⟨rfl,?_⟩;exact six HK6.out.below (nLQ _) _ _ _ _ _ _
theorem rd_what6 (s:ByteArray)(w:World)(hs:s.size≤1048576)(a b c d e f:ByteArray)(hws:cutA s=[a,b,c,d,e,f])(h1:dcOk a=true)(h2:psOk b=true)(h3:(c.toList==[111,117,116])=true)(h5:dcOk d=true)(h6:(dcN d==0)=false)(h7:(e.toList==[115,101,116])=true)(h8:psOk f=false):
 Calls prog 30 #[.string s] w fun e w'=>e=.returned (.tuple #[.agg #[.int i64 0,.int i64 0,.int i64 0,.int i64 0,.int i64 0,.int i64 0],.int i64 2])∧Below w.heap.size w w':=by
 have hln:(cutA s).length=6:=by rw[hws];rfl
 go_enter func30,ntmps30
 go_wp2_with fail
 refine (cut_any s _ hs).mono ?_;rintro e w1 ⟨v,rfl,hown,hb1⟩;obtain⟨g,cap,rfl,hg,hcap,hcap2,hW⟩:=own_words hown (by omega);have hK:=PaK.from rfl hb1 hg hW (by omega);rw[hln];rw[hws] at hK;clear hown hb1 hg hW hcap hln hws;have HK:Hid (PaK w g [a,b,c,d,e,f] w1):=hK;have lt1:=HK.out.lt;have ltB:=HK.out.ltB;have gt1:=HK.out.gt;have q0:=HK.out.c 0 (by omega);have q1:=HK.out.c 1 (by omega);have q2:=HK.out.c 2 (by omega);have q3:=HK.out.c 3 (by omega);have q4:=HK.out.c 4 (by omega);have q5:=HK.out.c 5 (by omega);have qf:=HK.out.f;have k0:w1.cell? ⟨g,0,none⟩=some (.string a):=by simpa using HK.out.words 0 (by simp)
 have k1:w1.cell? ⟨g,1,none⟩=some (.string b):=by simpa using HK.out.words 1 (by simp)
 have k2:w1.cell? ⟨g,2,none⟩=some (.string c):=by simpa using HK.out.words 2 (by simp)
 have k3:w1.cell? ⟨g,3,none⟩=some (.string d):=by simpa using HK.out.words 3 (by simp)
 have k4:w1.cell? ⟨g,4,none⟩=some (.string e):=by simpa using HK.out.words 4 (by simp)
 have k5:w1.cell? ⟨g,5,none⟩=some (.string f):=by simpa using HK.out.words 5 (by simp)
 clear hK
 go_wp2_with fail
 refine (num_any _ _).mono ?_;rintro e w' ⟨rfl,hw'⟩
 replace hw':=hw'.symm
 subst hw';rw[h1]
 go_wp2_with fail
 refine (refRead_any _ _).mono ?_;rintro e w2 ⟨rfl,hb2⟩;rw[h2];have HK2:Hid (PaK w g [a,b,c,d,e,f] (w2.alloc (.cells #[.int i64 (psM b),.int i64 (psB b)] 62))):=(HK.out.later hb2).alloc _;have o0:(w2.alloc (.cells #[.int i64 (psM b),.int i64 (psB b)] 62)).cell? ⟨w2.heap.size,0,none⟩=some (.int i64 (psM b)):=by simp
 have o1:(w2.alloc (.cells #[.int i64 (psM b),.int i64 (psB b)] 62)).cell? ⟨w2.heap.size,1,none⟩=some (.int i64 (psB b)):=by simp
 have ltO:w2.heap.size<(w2.alloc (.cells #[.int i64 (psM b),.int i64 (psB b)] 62)).heap.size:=by simp
 have geO:w.heap.size<w2.heap.size:=(HK.out.later hb2).lt;have neO:g≠w2.heap.size:=Nat.ne_of_lt (HK.out.later hb2).ltB;clear hb2;clear lt1 ltB gt1 q0 q1 q2 q3 q4 q5 qf k0 k1 k2 k3 k4 k5;go_upto_region 7 with fail
 generalize w2.alloc (.cells #[.int i64 (psM b),.int i64 (psB b)] 62)=W2 at *
 generalize w2.heap.size=C at *
 have lt1:=HK2.out.lt;have ltB:=HK2.out.ltB;have gt1:=HK2.out.gt;have q0:=HK2.out.c 0 (by omega);have q1:=HK2.out.c 1 (by omega);have q2:=HK2.out.c 2 (by omega);have q3:=HK2.out.c 3 (by omega);have q4:=HK2.out.c 4 (by omega);have q5:=HK2.out.c 5 (by omega);have qf:=HK2.out.f;have k0:W2.cell? ⟨g,0,none⟩=some (.string a):=by simpa using HK2.out.words 0 (by simp)
 have k1:W2.cell? ⟨g,1,none⟩=some (.string b):=by simpa using HK2.out.words 1 (by simp)
 have k2:W2.cell? ⟨g,2,none⟩=some (.string c):=by simpa using HK2.out.words 2 (by simp)
 have k3:W2.cell? ⟨g,3,none⟩=some (.string d):=by simpa using HK2.out.words 3 (by simp)
 have k4:W2.cell? ⟨g,4,none⟩=some (.string e):=by simpa using HK2.out.words 4 (by simp)
 have k5:W2.cell? ⟨g,5,none⟩=some (.string f):=by simpa using HK2.out.words 5 (by simp)
 go_upto_region 10 with fail;have HK3:Hid (PaK w g [a,b,c,d,e,f] (W2.alloc (.cells #[.int i64 (dcN a),.int i64 (psM b),.int i64 (psB b),.int i64 0,.int i64 0,.int i64 0] 64))):=HK2.out.alloc _;have r0:(W2.alloc (.cells #[.int i64 (dcN a),.int i64 (psM b),.int i64 (psB b),.int i64 0,.int i64 0,.int i64 0] 64)).cell? ⟨W2.heap.size,0,none⟩=some (.int i64 (dcN a)):=by simp
 have r1:(W2.alloc (.cells #[.int i64 (dcN a),.int i64 (psM b),.int i64 (psB b),.int i64 0,.int i64 0,.int i64 0] 64)).cell? ⟨W2.heap.size,1,none⟩=some (.int i64 (psM b)):=by simp
 have r2:(W2.alloc (.cells #[.int i64 (dcN a),.int i64 (psM b),.int i64 (psB b),.int i64 0,.int i64 0,.int i64 0] 64)).cell? ⟨W2.heap.size,2,none⟩=some (.int i64 (psB b)):=by simp
 have r3:(W2.alloc (.cells #[.int i64 (dcN a),.int i64 (psM b),.int i64 (psB b),.int i64 0,.int i64 0,.int i64 0] 64)).cell? ⟨W2.heap.size,3,none⟩=some (.int i64 0):=by simp
 have r4:(W2.alloc (.cells #[.int i64 (dcN a),.int i64 (psM b),.int i64 (psB b),.int i64 0,.int i64 0,.int i64 0] 64)).cell? ⟨W2.heap.size,4,none⟩=some (.int i64 0):=by simp
 have r5:(W2.alloc (.cells #[.int i64 (dcN a),.int i64 (psM b),.int i64 (psB b),.int i64 0,.int i64 0,.int i64 0] 64)).cell? ⟨W2.heap.size,5,none⟩=some (.int i64 0):=by simp
 have rf:∀k,(W2.alloc (.cells #[.int i64 (dcN a),.int i64 (psM b),.int i64 (psB b),.int i64 0,.int i64 0,.int i64 0] 64)).frozen? ⟨W2.heap.size,k,none⟩=false:=by intro k;simp
 have ltR:W2.heap.size<(W2.alloc (.cells #[.int i64 (dcN a),.int i64 (psM b),.int i64 (psB b),.int i64 0,.int i64 0,.int i64 0] 64)).heap.size:=by simp
 have geR:w.heap.size<W2.heap.size:=HK2.out.lt;have neR:g≠W2.heap.size:=Nat.ne_of_lt HK2.out.ltB;clear lt1 ltB gt1 q0 q1 q2 q3 q4 q5 qf k0 k1 k2 k3 k4 k5;clear o0 o1 ltO geO neO
 generalize W2.alloc (.cells #[.int i64 (dcN a),.int i64 (psM b),.int i64 (psB b),.int i64 0,.int i64 0,.int i64 0] 64)=W3 at *
 generalize W2.heap.size=R at *
 clear HK2;have lt1:=HK3.out.lt;have ltB:=HK3.out.ltB;have gt1:=HK3.out.gt;have q0:=HK3.out.c 0 (by omega);have q1:=HK3.out.c 1 (by omega);have q2:=HK3.out.c 2 (by omega);have q3:=HK3.out.c 3 (by omega);have q4:=HK3.out.c 4 (by omega);have q5:=HK3.out.c 5 (by omega);have qf:=HK3.out.f;have k0:W3.cell? ⟨g,0,none⟩=some (.string a):=by simpa using HK3.out.words 0 (by simp)
 have k1:W3.cell? ⟨g,1,none⟩=some (.string b):=by simpa using HK3.out.words 1 (by simp)
 have k2:W3.cell? ⟨g,2,none⟩=some (.string c):=by simpa using HK3.out.words 2 (by simp)
 have k3:W3.cell? ⟨g,3,none⟩=some (.string d):=by simpa using HK3.out.words 3 (by simp)
 have k4:W3.cell? ⟨g,4,none⟩=some (.string e):=by simpa using HK3.out.words 4 (by simp)
 have k5:W3.cell? ⟨g,5,none⟩=some (.string f):=by simpa using HK3.out.words 5 (by simp)
 have h3n:(c.toList != [111,117,116])=false:=by rw[bne,h3];rfl
 go_wp2_with fail
 refine (num_any _ _).mono ?_;rintro e w' ⟨rfl,hw'⟩
 replace hw':=hw'.symm
 subst hw';rw[h5];go_upto_region 17 with fail;have HK4:Hid (PaK w g [a,b,c,d,e,f] (W3.setCell ⟨R,3,none⟩ (.int i64 (dcN d)))):=HK3.out.set geR neR _;have s0:(W3.setCell ⟨R,3,none⟩ (.int i64 (dcN d))).cell? ⟨R,0,none⟩=some (.int i64 (dcN a)):=(World.cell?_setCell_other _ _ _ _ (by simp)).trans r0;have s1:(W3.setCell ⟨R,3,none⟩ (.int i64 (dcN d))).cell? ⟨R,1,none⟩=some (.int i64 (psM b)):=(World.cell?_setCell_other _ _ _ _ (by simp)).trans r1;have s2:(W3.setCell ⟨R,3,none⟩ (.int i64 (dcN d))).cell? ⟨R,2,none⟩=some (.int i64 (psB b)):=(World.cell?_setCell_other _ _ _ _ (by simp)).trans r2;have s3:(W3.setCell ⟨R,3,none⟩ (.int i64 (dcN d))).cell? ⟨R,3,none⟩=some (.int i64 (dcN d)):=World.cell?_setCell_same _ _ _ r3;have s4:(W3.setCell ⟨R,3,none⟩ (.int i64 (dcN d))).cell? ⟨R,4,none⟩=some (.int i64 0):=(World.cell?_setCell_other _ _ _ _ (by simp)).trans r4;have s5:(W3.setCell ⟨R,3,none⟩ (.int i64 (dcN d))).cell? ⟨R,5,none⟩=some (.int i64 0):=(World.cell?_setCell_other _ _ _ _ (by simp)).trans r5;have sf:∀k,(W3.setCell ⟨R,3,none⟩ (.int i64 (dcN d))).frozen? ⟨R,k,none⟩=false:=by intro k;simpa using rf k
 have ltS:R<(W3.setCell ⟨R,3,none⟩ (.int i64 (dcN d))).heap.size:=by simpa using ltR
 clear lt1 ltB gt1 q0 q1 q2 q3 q4 q5 qf k0 k1 k2 k3 k4 k5;clear r0 r1 r2 r3 r4 r5 rf ltR
 generalize (W3.setCell ⟨R,3,none⟩ (.int i64 (dcN d)))=W4 at *
 clear HK3;have r0:=s0;have r1:=s1;have r2:=s2;have r3:=s3;have r4:=s4;have r5:=s5;have rf:=sf;have ltR:=ltS;clear s0 s1 s2 s3 s4 s5 sf ltS;have lt1:=HK4.out.lt;have ltB:=HK4.out.ltB;have gt1:=HK4.out.gt;have q0:=HK4.out.c 0 (by omega);have q1:=HK4.out.c 1 (by omega);have q2:=HK4.out.c 2 (by omega);have q3:=HK4.out.c 3 (by omega);have q4:=HK4.out.c 4 (by omega);have q5:=HK4.out.c 5 (by omega);have qf:=HK4.out.f;have k0:W4.cell? ⟨g,0,none⟩=some (.string a):=by simpa using HK4.out.words 0 (by simp)
 have k1:W4.cell? ⟨g,1,none⟩=some (.string b):=by simpa using HK4.out.words 1 (by simp)
 have k2:W4.cell? ⟨g,2,none⟩=some (.string c):=by simpa using HK4.out.words 2 (by simp)
 have k3:W4.cell? ⟨g,3,none⟩=some (.string d):=by simpa using HK4.out.words 3 (by simp)
 have k4:W4.cell? ⟨g,4,none⟩=some (.string e):=by simpa using HK4.out.words 4 (by simp)
 have k5:W4.cell? ⟨g,5,none⟩=some (.string f):=by simpa using HK4.out.words 5 (by simp)
 have h7n:(e.toList != [115,101,116])=false:=by rw[bne,h7];rfl
 go_wp2_with fail
 refine (refRead_any _ _).mono ?_;rintro e w6 ⟨rfl,hb6⟩;rw[h8];have HK6:Hid (PaK w g [a,b,c,d,e,f] (w6.alloc (.cells #[.int i64 (psM f),.int i64 (psB f)] 62))):=(HK4.out.later hb6).alloc _;have t0:(w6.alloc (.cells #[.int i64 (psM f),.int i64 (psB f)] 62)).cell? ⟨R,0,none⟩=some (.int i64 (dcN a)):=cell_later ((bRQ _ _).alloc (nLQ _) _) (cell_later hb6 r0);have t1:(w6.alloc (.cells #[.int i64 (psM f),.int i64 (psB f)] 62)).cell? ⟨R,1,none⟩=some (.int i64 (psM b)):=cell_later ((bRQ _ _).alloc (nLQ _) _) (cell_later hb6 r1);have t2:(w6.alloc (.cells #[.int i64 (psM f),.int i64 (psB f)] 62)).cell? ⟨R,2,none⟩=some (.int i64 (psB b)):=cell_later ((bRQ _ _).alloc (nLQ _) _) (cell_later hb6 r2);have t3:(w6.alloc (.cells #[.int i64 (psM f),.int i64 (psB f)] 62)).cell? ⟨R,3,none⟩=some (.int i64 (dcN d)):=cell_later ((bRQ _ _).alloc (nLQ _) _) (cell_later hb6 r3);have t4:(w6.alloc (.cells #[.int i64 (psM f),.int i64 (psB f)] 62)).cell? ⟨R,4,none⟩=some (.int i64 0):=cell_later ((bRQ _ _).alloc (nLQ _) _) (cell_later hb6 r4);have t5:(w6.alloc (.cells #[.int i64 (psM f),.int i64 (psB f)] 62)).cell? ⟨R,5,none⟩=some (.int i64 0):=cell_later ((bRQ _ _).alloc (nLQ _) _) (cell_later hb6 r5);have tf:∀k,(w6.alloc (.cells #[.int i64 (psM f),.int i64 (psB f)] 62)).frozen? ⟨R,k,none⟩=false:=by intro k;rw[((Below.refl w6.heap.size w6).alloc (nLQ _) _).frozen (p:=⟨R,k,none⟩) (Nat.lt_of_lt_of_le ltR hb6.size),hb6.frozen (p:=⟨R,k,none⟩) ltR];exact rf k
 have ltT:R<(w6.alloc (.cells #[.int i64 (psM f),.int i64 (psB f)] 62)).heap.size:=by have:=hb6.size;simp;omega
 have x0:(w6.alloc (.cells #[.int i64 (psM f),.int i64 (psB f)] 62)).cell? ⟨w6.heap.size,0,none⟩=some (.int i64 (psM f)):=by simp
 have x1:(w6.alloc (.cells #[.int i64 (psM f),.int i64 (psB f)] 62)).cell? ⟨w6.heap.size,1,none⟩=some (.int i64 (psB f)):=by simp
 have ltX:w6.heap.size<(w6.alloc (.cells #[.int i64 (psM f),.int i64 (psB f)] 62)).heap.size:=by simp
 have neX:R≠w6.heap.size:=by have:=hb6.size;omega
 clear hb6;clear lt1 ltB gt1 q0 q1 q2 q3 q4 q5 qf k0 k1 k2 k3 k4 k5;clear r0 r1 r2 r3 r4 r5 rf ltR;go_upto_region 19 with fail
 generalize w6.alloc (.cells #[.int i64 (psM f),.int i64 (psB f)] 62)=W6 at *
 generalize w6.heap.size=X at *
 clear HK4;have r0:=t0;have r1:=t1;have r2:=t2;have r3:=t3;have r4:=t4;have r5:=t5;have rf:=tf;have ltR:=ltT;clear t0 t1 t2 t3 t4 t5 tf ltT;have lt1:=HK6.out.lt;have ltB:=HK6.out.ltB;have gt1:=HK6.out.gt;have q0:=HK6.out.c 0 (by omega);have q1:=HK6.out.c 1 (by omega);have q2:=HK6.out.c 2 (by omega);have q3:=HK6.out.c 3 (by omega);have q4:=HK6.out.c 4 (by omega);have q5:=HK6.out.c 5 (by omega);have qf:=HK6.out.f;have k0:W6.cell? ⟨g,0,none⟩=some (.string a):=by simpa using HK6.out.words 0 (by simp)
 have k1:W6.cell? ⟨g,1,none⟩=some (.string b):=by simpa using HK6.out.words 1 (by simp)
 have k2:W6.cell? ⟨g,2,none⟩=some (.string c):=by simpa using HK6.out.words 2 (by simp)
 have k3:W6.cell? ⟨g,3,none⟩=some (.string d):=by simpa using HK6.out.words 3 (by simp)
 have k4:W6.cell? ⟨g,4,none⟩=some (.string e):=by simpa using HK6.out.words 4 (by simp)
 have k5:W6.cell? ⟨g,5,none⟩=some (.string f):=by simpa using HK6.out.words 5 (by simp)
 go_wp2;refine bodyPost_ret (v:=.tuple #[.agg #[.int i64 0,.int i64 0,.int i64 0,.int i64 0,.int i64 0,.int i64 0],.int i64 2]) (by simp[results,results30,go_sem, *]) rfl ⟨rfl,?_⟩;exact six HK6.out.below (nLQ _) _ _ _ _ _ _
theorem rd_none6 (s:ByteArray)(w:World)(hs:s.size≤1048576)(a b c d e f:ByteArray)(hws:cutA s=[a,b,c,d,e,f])(h1:dcOk a=true)(h2:psOk b=true)(h3:(c.toList==[111,117,116])=true)(h5:dcOk d=true)(h6:(dcN d==0)=false)(h7:(e.toList==[115,101,116])=true)(h8:psOk f=true)(h10:(psM f==0)=true):
 Calls prog 30 #[.string s] w fun e w'=>e=.returned (.tuple #[.agg #[.int i64 0,.int i64 0,.int i64 0,.int i64 0,.int i64 0,.int i64 0],.int i64 2])∧Below w.heap.size w w':=by
 have hln:(cutA s).length=6:=by rw[hws];rfl
 go_enter func30,ntmps30
 go_wp2_with fail
 refine (cut_any s _ hs).mono ?_;rintro e w1 ⟨v,rfl,hown,hb1⟩;obtain⟨g,cap,rfl,hg,hcap,hcap2,hW⟩:=own_words hown (by omega);have hK:=PaK.from rfl hb1 hg hW (by omega);rw[hln];rw[hws] at hK;clear hown hb1 hg hW hcap hln hws;have HK:Hid (PaK w g [a,b,c,d,e,f] w1):=hK;have lt1:=HK.out.lt;have ltB:=HK.out.ltB;have gt1:=HK.out.gt;have q0:=HK.out.c 0 (by omega);have q1:=HK.out.c 1 (by omega);have q2:=HK.out.c 2 (by omega);have q3:=HK.out.c 3 (by omega);have q4:=HK.out.c 4 (by omega);have q5:=HK.out.c 5 (by omega);have qf:=HK.out.f;have k0:w1.cell? ⟨g,0,none⟩=some (.string a):=by simpa using HK.out.words 0 (by simp)
 have k1:w1.cell? ⟨g,1,none⟩=some (.string b):=by simpa using HK.out.words 1 (by simp)
 have k2:w1.cell? ⟨g,2,none⟩=some (.string c):=by simpa using HK.out.words 2 (by simp)
 have k3:w1.cell? ⟨g,3,none⟩=some (.string d):=by simpa using HK.out.words 3 (by simp)
 have k4:w1.cell? ⟨g,4,none⟩=some (.string e):=by simpa using HK.out.words 4 (by simp)
 have k5:w1.cell? ⟨g,5,none⟩=some (.string f):=by simpa using HK.out.words 5 (by simp)
 clear hK
 go_wp2_with fail
 refine (num_any _ _).mono ?_;rintro e w' ⟨rfl,hw'⟩
 replace hw':=hw'.symm
 subst hw';rw[h1]
 go_wp2_with fail
 refine (refRead_any _ _).mono ?_;rintro e w2 ⟨rfl,hb2⟩;rw[h2];have HK2:Hid (PaK w g [a,b,c,d,e,f] (w2.alloc (.cells #[.int i64 (psM b),.int i64 (psB b)] 62))):=(HK.out.later hb2).alloc _;have o0:(w2.alloc (.cells #[.int i64 (psM b),.int i64 (psB b)] 62)).cell? ⟨w2.heap.size,0,none⟩=some (.int i64 (psM b)):=by simp
 have o1:(w2.alloc (.cells #[.int i64 (psM b),.int i64 (psB b)] 62)).cell? ⟨w2.heap.size,1,none⟩=some (.int i64 (psB b)):=by simp
 have ltO:w2.heap.size<(w2.alloc (.cells #[.int i64 (psM b),.int i64 (psB b)] 62)).heap.size:=by simp
 have geO:w.heap.size<w2.heap.size:=(HK.out.later hb2).lt;have neO:g≠w2.heap.size:=Nat.ne_of_lt (HK.out.later hb2).ltB;clear hb2;clear lt1 ltB gt1 q0 q1 q2 q3 q4 q5 qf k0 k1 k2 k3 k4 k5;go_upto_region 7 with fail
 generalize w2.alloc (.cells #[.int i64 (psM b),.int i64 (psB b)] 62)=W2 at *
 generalize w2.heap.size=C at *
 have lt1:=HK2.out.lt;have ltB:=HK2.out.ltB;have gt1:=HK2.out.gt;have q0:=HK2.out.c 0 (by omega);have q1:=HK2.out.c 1 (by omega);have q2:=HK2.out.c 2 (by omega);have q3:=HK2.out.c 3 (by omega);have q4:=HK2.out.c 4 (by omega);have q5:=HK2.out.c 5 (by omega);have qf:=HK2.out.f;have k0:W2.cell? ⟨g,0,none⟩=some (.string a):=by simpa using HK2.out.words 0 (by simp)
 have k1:W2.cell? ⟨g,1,none⟩=some (.string b):=by simpa using HK2.out.words 1 (by simp)
 have k2:W2.cell? ⟨g,2,none⟩=some (.string c):=by simpa using HK2.out.words 2 (by simp)
 have k3:W2.cell? ⟨g,3,none⟩=some (.string d):=by simpa using HK2.out.words 3 (by simp)
 have k4:W2.cell? ⟨g,4,none⟩=some (.string e):=by simpa using HK2.out.words 4 (by simp)
 have k5:W2.cell? ⟨g,5,none⟩=some (.string f):=by simpa using HK2.out.words 5 (by simp)
 go_upto_region 10 with fail;have HK3:Hid (PaK w g [a,b,c,d,e,f] (W2.alloc (.cells #[.int i64 (dcN a),.int i64 (psM b),.int i64 (psB b),.int i64 0,.int i64 0,.int i64 0] 64))):=HK2.out.alloc _;have r0:(W2.alloc (.cells #[.int i64 (dcN a),.int i64 (psM b),.int i64 (psB b),.int i64 0,.int i64 0,.int i64 0] 64)).cell? ⟨W2.heap.size,0,none⟩=some (.int i64 (dcN a)):=by simp
 have r1:(W2.alloc (.cells #[.int i64 (dcN a),.int i64 (psM b),.int i64 (psB b),.int i64 0,.int i64 0,.int i64 0] 64)).cell? ⟨W2.heap.size,1,none⟩=some (.int i64 (psM b)):=by simp
 have r2:(W2.alloc (.cells #[.int i64 (dcN a),.int i64 (psM b),.int i64 (psB b),.int i64 0,.int i64 0,.int i64 0] 64)).cell? ⟨W2.heap.size,2,none⟩=some (.int i64 (psB b)):=by simp
 have r3:(W2.alloc (.cells #[.int i64 (dcN a),.int i64 (psM b),.int i64 (psB b),.int i64 0,.int i64 0,.int i64 0] 64)).cell? ⟨W2.heap.size,3,none⟩=some (.int i64 0):=by simp
 have r4:(W2.alloc (.cells #[.int i64 (dcN a),.int i64 (psM b),.int i64 (psB b),.int i64 0,.int i64 0,.int i64 0] 64)).cell? ⟨W2.heap.size,4,none⟩=some (.int i64 0):=by simp
 have r5:(W2.alloc (.cells #[.int i64 (dcN a),.int i64 (psM b),.int i64 (psB b),.int i64 0,.int i64 0,.int i64 0] 64)).cell? ⟨W2.heap.size,5,none⟩=some (.int i64 0):=by simp
 have rf:∀k,(W2.alloc (.cells #[.int i64 (dcN a),.int i64 (psM b),.int i64 (psB b),.int i64 0,.int i64 0,.int i64 0] 64)).frozen? ⟨W2.heap.size,k,none⟩=false:=by intro k;simp
 have ltR:W2.heap.size<(W2.alloc (.cells #[.int i64 (dcN a),.int i64 (psM b),.int i64 (psB b),.int i64 0,.int i64 0,.int i64 0] 64)).heap.size:=by simp
 have geR:w.heap.size<W2.heap.size:=HK2.out.lt;have neR:g≠W2.heap.size:=Nat.ne_of_lt HK2.out.ltB;clear lt1 ltB gt1 q0 q1 q2 q3 q4 q5 qf k0 k1 k2 k3 k4 k5;clear o0 o1 ltO geO neO
 generalize W2.alloc (.cells #[.int i64 (dcN a),.int i64 (psM b),.int i64 (psB b),.int i64 0,.int i64 0,.int i64 0] 64)=W3 at *
 generalize W2.heap.size=R at *
 clear HK2;have lt1:=HK3.out.lt;have ltB:=HK3.out.ltB;have gt1:=HK3.out.gt;have q0:=HK3.out.c 0 (by omega);have q1:=HK3.out.c 1 (by omega);have q2:=HK3.out.c 2 (by omega);have q3:=HK3.out.c 3 (by omega);have q4:=HK3.out.c 4 (by omega);have q5:=HK3.out.c 5 (by omega);have qf:=HK3.out.f;have k0:W3.cell? ⟨g,0,none⟩=some (.string a):=by simpa using HK3.out.words 0 (by simp)
 have k1:W3.cell? ⟨g,1,none⟩=some (.string b):=by simpa using HK3.out.words 1 (by simp)
 have k2:W3.cell? ⟨g,2,none⟩=some (.string c):=by simpa using HK3.out.words 2 (by simp)
 have k3:W3.cell? ⟨g,3,none⟩=some (.string d):=by simpa using HK3.out.words 3 (by simp)
 have k4:W3.cell? ⟨g,4,none⟩=some (.string e):=by simpa using HK3.out.words 4 (by simp)
 have k5:W3.cell? ⟨g,5,none⟩=some (.string f):=by simpa using HK3.out.words 5 (by simp)
 have h3n:(c.toList != [111,117,116])=false:=by rw[bne,h3];rfl
 go_wp2_with fail
 refine (num_any _ _).mono ?_;rintro e w' ⟨rfl,hw'⟩
 replace hw':=hw'.symm
 subst hw';rw[h5];go_upto_region 17 with fail;have HK4:Hid (PaK w g [a,b,c,d,e,f] (W3.setCell ⟨R,3,none⟩ (.int i64 (dcN d)))):=HK3.out.set geR neR _;have s0:(W3.setCell ⟨R,3,none⟩ (.int i64 (dcN d))).cell? ⟨R,0,none⟩=some (.int i64 (dcN a)):=(World.cell?_setCell_other _ _ _ _ (by simp)).trans r0;have s1:(W3.setCell ⟨R,3,none⟩ (.int i64 (dcN d))).cell? ⟨R,1,none⟩=some (.int i64 (psM b)):=(World.cell?_setCell_other _ _ _ _ (by simp)).trans r1;have s2:(W3.setCell ⟨R,3,none⟩ (.int i64 (dcN d))).cell? ⟨R,2,none⟩=some (.int i64 (psB b)):=(World.cell?_setCell_other _ _ _ _ (by simp)).trans r2;have s3:(W3.setCell ⟨R,3,none⟩ (.int i64 (dcN d))).cell? ⟨R,3,none⟩=some (.int i64 (dcN d)):=World.cell?_setCell_same _ _ _ r3;have s4:(W3.setCell ⟨R,3,none⟩ (.int i64 (dcN d))).cell? ⟨R,4,none⟩=some (.int i64 0):=(World.cell?_setCell_other _ _ _ _ (by simp)).trans r4;have s5:(W3.setCell ⟨R,3,none⟩ (.int i64 (dcN d))).cell? ⟨R,5,none⟩=some (.int i64 0):=(World.cell?_setCell_other _ _ _ _ (by simp)).trans r5;have sf:∀k,(W3.setCell ⟨R,3,none⟩ (.int i64 (dcN d))).frozen? ⟨R,k,none⟩=false:=by intro k;simpa using rf k
 have ltS:R<(W3.setCell ⟨R,3,none⟩ (.int i64 (dcN d))).heap.size:=by simpa using ltR
 clear lt1 ltB gt1 q0 q1 q2 q3 q4 q5 qf k0 k1 k2 k3 k4 k5;clear r0 r1 r2 r3 r4 r5 rf ltR
 generalize (W3.setCell ⟨R,3,none⟩ (.int i64 (dcN d)))=W4 at *
 clear HK3;have r0:=s0;have r1:=s1;have r2:=s2;have r3:=s3;have r4:=s4;have r5:=s5;have rf:=sf;have ltR:=ltS;clear s0 s1 s2 s3 s4 s5 sf ltS;have lt1:=HK4.out.lt;have ltB:=HK4.out.ltB;have gt1:=HK4.out.gt;have q0:=HK4.out.c 0 (by omega);have q1:=HK4.out.c 1 (by omega);have q2:=HK4.out.c 2 (by omega);have q3:=HK4.out.c 3 (by omega);have q4:=HK4.out.c 4 (by omega);have q5:=HK4.out.c 5 (by omega);have qf:=HK4.out.f;have k0:W4.cell? ⟨g,0,none⟩=some (.string a):=by simpa using HK4.out.words 0 (by simp)
 have k1:W4.cell? ⟨g,1,none⟩=some (.string b):=by simpa using HK4.out.words 1 (by simp)
 have k2:W4.cell? ⟨g,2,none⟩=some (.string c):=by simpa using HK4.out.words 2 (by simp)
 have k3:W4.cell? ⟨g,3,none⟩=some (.string d):=by simpa using HK4.out.words 3 (by simp)
 have k4:W4.cell? ⟨g,4,none⟩=some (.string e):=by simpa using HK4.out.words 4 (by simp)
 have k5:W4.cell? ⟨g,5,none⟩=some (.string f):=by simpa using HK4.out.words 5 (by simp)
 have h7n:(e.toList != [115,101,116])=false:=by rw[bne,h7];rfl
 go_wp2_with fail
 refine (refRead_any _ _).mono ?_;rintro e w6 ⟨rfl,hb6⟩;rw[h8];have HK6:Hid (PaK w g [a,b,c,d,e,f] (w6.alloc (.cells #[.int i64 (psM f),.int i64 (psB f)] 62))):=(HK4.out.later hb6).alloc _;have t0:(w6.alloc (.cells #[.int i64 (psM f),.int i64 (psB f)] 62)).cell? ⟨R,0,none⟩=some (.int i64 (dcN a)):=cell_later ((bRQ _ _).alloc (nLQ _) _) (cell_later hb6 r0);have t1:(w6.alloc (.cells #[.int i64 (psM f),.int i64 (psB f)] 62)).cell? ⟨R,1,none⟩=some (.int i64 (psM b)):=cell_later ((bRQ _ _).alloc (nLQ _) _) (cell_later hb6 r1);have t2:(w6.alloc (.cells #[.int i64 (psM f),.int i64 (psB f)] 62)).cell? ⟨R,2,none⟩=some (.int i64 (psB b)):=cell_later ((bRQ _ _).alloc (nLQ _) _) (cell_later hb6 r2);have t3:(w6.alloc (.cells #[.int i64 (psM f),.int i64 (psB f)] 62)).cell? ⟨R,3,none⟩=some (.int i64 (dcN d)):=cell_later ((bRQ _ _).alloc (nLQ _) _) (cell_later hb6 r3);have t4:(w6.alloc (.cells #[.int i64 (psM f),.int i64 (psB f)] 62)).cell? ⟨R,4,none⟩=some (.int i64 0):=cell_later ((bRQ _ _).alloc (nLQ _) _) (cell_later hb6 r4);have t5:(w6.alloc (.cells #[.int i64 (psM f),.int i64 (psB f)] 62)).cell? ⟨R,5,none⟩=some (.int i64 0):=cell_later ((bRQ _ _).alloc (nLQ _) _) (cell_later hb6 r5);have tf:∀k,(w6.alloc (.cells #[.int i64 (psM f),.int i64 (psB f)] 62)).frozen? ⟨R,k,none⟩=false:=by intro k;rw[((Below.refl w6.heap.size w6).alloc (nLQ _) _).frozen (p:=⟨R,k,none⟩) (Nat.lt_of_lt_of_le ltR hb6.size),hb6.frozen (p:=⟨R,k,none⟩) ltR];exact rf k
 have ltT:R<(w6.alloc (.cells #[.int i64 (psM f),.int i64 (psB f)] 62)).heap.size:=by have:=hb6.size;simp;omega
 have x0:(w6.alloc (.cells #[.int i64 (psM f),.int i64 (psB f)] 62)).cell? ⟨w6.heap.size,0,none⟩=some (.int i64 (psM f)):=by simp
 have x1:(w6.alloc (.cells #[.int i64 (psM f),.int i64 (psB f)] 62)).cell? ⟨w6.heap.size,1,none⟩=some (.int i64 (psB f)):=by simp
 have ltX:w6.heap.size<(w6.alloc (.cells #[.int i64 (psM f),.int i64 (psB f)] 62)).heap.size:=by simp
 have neX:R≠w6.heap.size:=by have:=hb6.size;omega
 clear hb6;clear lt1 ltB gt1 q0 q1 q2 q3 q4 q5 qf k0 k1 k2 k3 k4 k5;clear r0 r1 r2 r3 r4 r5 rf ltR;go_upto_region 19 with fail
 generalize w6.alloc (.cells #[.int i64 (psM f),.int i64 (psB f)] 62)=W6 at *
 generalize w6.heap.size=X at *
 clear HK4;have r0:=t0;have r1:=t1;have r2:=t2;have r3:=t3;have r4:=t4;have r5:=t5;have rf:=tf;have ltR:=ltT;clear t0 t1 t2 t3 t4 t5 tf ltT;have lt1:=HK6.out.lt;have ltB:=HK6.out.ltB;have gt1:=HK6.out.gt;have q0:=HK6.out.c 0 (by omega);have q1:=HK6.out.c 1 (by omega);have q2:=HK6.out.c 2 (by omega);have q3:=HK6.out.c 3 (by omega);have q4:=HK6.out.c 4 (by omega);have q5:=HK6.out.c 5 (by omega);have qf:=HK6.out.f;have k0:W6.cell? ⟨g,0,none⟩=some (.string a):=by simpa using HK6.out.words 0 (by simp)
 have k1:W6.cell? ⟨g,1,none⟩=some (.string b):=by simpa using HK6.out.words 1 (by simp)
 have k2:W6.cell? ⟨g,2,none⟩=some (.string c):=by simpa using HK6.out.words 2 (by simp)
 have k3:W6.cell? ⟨g,3,none⟩=some (.string d):=by simpa using HK6.out.words 3 (by simp)
 have k4:W6.cell? ⟨g,4,none⟩=some (.string e):=by simpa using HK6.out.words 4 (by simp)
 have k5:W6.cell? ⟨g,5,none⟩=some (.string f):=by simpa using HK6.out.words 5 (by simp)
 go_wp2;refine bodyPost_ret (v:=.tuple #[.agg #[.int i64 0,.int i64 0,.int i64 0,.int i64 0,.int i64 0,.int i64 0],.int i64 2]) (by simp[results,results30,go_sem, *]) rfl ⟨rfl,?_⟩;exact six HK6.out.below (nLQ _) _ _ _ _ _ _
theorem rd_range6 (s:ByteArray)(w:World)(hs:s.size≤1048576)(a b c d e f:ByteArray)(hws:cutA s=[a,b,c,d,e,f])(h1:dcOk a=true)(h2:psOk b=true)(h3:(c.toList==[111,117,116])=true)(h5:dcOk d=true)(h6:(dcN d==0)=false)(h7:(e.toList==[115,101,116])=true)(h8:psOk f=true)(h10:(psM f==0)=false)(h9:(ruN (dcN a) (psM b) (psB b) (dcN d) (psM f) (psB f) != 0)=true):
 Calls prog 30 #[.string s] w fun e w'=>e=.returned (.tuple #[.agg #[.int i64 0,.int i64 0,.int i64 0,.int i64 0,.int i64 0,.int i64 0],.int i64 (ruN (dcN a) (psM b) (psB b) (dcN d) (psM f) (psB f))])∧Below w.heap.size w w':=by
 have hln:(cutA s).length=6:=by rw[hws];rfl
 go_enter func30,ntmps30
 go_wp2_with fail
 refine (cut_any s _ hs).mono ?_;rintro e w1 ⟨v,rfl,hown,hb1⟩;obtain⟨g,cap,rfl,hg,hcap,hcap2,hW⟩:=own_words hown (by omega);have hK:=PaK.from rfl hb1 hg hW (by omega);rw[hln];rw[hws] at hK;clear hown hb1 hg hW hcap hln hws;have HK:Hid (PaK w g [a,b,c,d,e,f] w1):=hK;have lt1:=HK.out.lt;have ltB:=HK.out.ltB;have gt1:=HK.out.gt;have q0:=HK.out.c 0 (by omega);have q1:=HK.out.c 1 (by omega);have q2:=HK.out.c 2 (by omega);have q3:=HK.out.c 3 (by omega);have q4:=HK.out.c 4 (by omega);have q5:=HK.out.c 5 (by omega);have qf:=HK.out.f;have k0:w1.cell? ⟨g,0,none⟩=some (.string a):=by simpa using HK.out.words 0 (by simp)
 have k1:w1.cell? ⟨g,1,none⟩=some (.string b):=by simpa using HK.out.words 1 (by simp)
 have k2:w1.cell? ⟨g,2,none⟩=some (.string c):=by simpa using HK.out.words 2 (by simp)
 have k3:w1.cell? ⟨g,3,none⟩=some (.string d):=by simpa using HK.out.words 3 (by simp)
 have k4:w1.cell? ⟨g,4,none⟩=some (.string e):=by simpa using HK.out.words 4 (by simp)
 have k5:w1.cell? ⟨g,5,none⟩=some (.string f):=by simpa using HK.out.words 5 (by simp)
 clear hK
 go_wp2_with fail
 refine (num_any _ _).mono ?_;rintro e w' ⟨rfl,hw'⟩
 replace hw':=hw'.symm
 subst hw';rw[h1]
 go_wp2_with fail
 refine (refRead_any _ _).mono ?_;rintro e w2 ⟨rfl,hb2⟩;rw[h2];have HK2:Hid (PaK w g [a,b,c,d,e,f] (w2.alloc (.cells #[.int i64 (psM b),.int i64 (psB b)] 62))):=(HK.out.later hb2).alloc _;have o0:(w2.alloc (.cells #[.int i64 (psM b),.int i64 (psB b)] 62)).cell? ⟨w2.heap.size,0,none⟩=some (.int i64 (psM b)):=by simp
 have o1:(w2.alloc (.cells #[.int i64 (psM b),.int i64 (psB b)] 62)).cell? ⟨w2.heap.size,1,none⟩=some (.int i64 (psB b)):=by simp
 have ltO:w2.heap.size<(w2.alloc (.cells #[.int i64 (psM b),.int i64 (psB b)] 62)).heap.size:=by simp
 have geO:w.heap.size<w2.heap.size:=(HK.out.later hb2).lt;have neO:g≠w2.heap.size:=Nat.ne_of_lt (HK.out.later hb2).ltB;clear hb2;clear lt1 ltB gt1 q0 q1 q2 q3 q4 q5 qf k0 k1 k2 k3 k4 k5;go_upto_region 7 with fail
 generalize w2.alloc (.cells #[.int i64 (psM b),.int i64 (psB b)] 62)=W2 at *
 generalize w2.heap.size=C at *
 have lt1:=HK2.out.lt;have ltB:=HK2.out.ltB;have gt1:=HK2.out.gt;have q0:=HK2.out.c 0 (by omega);have q1:=HK2.out.c 1 (by omega);have q2:=HK2.out.c 2 (by omega);have q3:=HK2.out.c 3 (by omega);have q4:=HK2.out.c 4 (by omega);have q5:=HK2.out.c 5 (by omega);have qf:=HK2.out.f;have k0:W2.cell? ⟨g,0,none⟩=some (.string a):=by simpa using HK2.out.words 0 (by simp)
 have k1:W2.cell? ⟨g,1,none⟩=some (.string b):=by simpa using HK2.out.words 1 (by simp)
 have k2:W2.cell? ⟨g,2,none⟩=some (.string c):=by simpa using HK2.out.words 2 (by simp)
 have k3:W2.cell? ⟨g,3,none⟩=some (.string d):=by simpa using HK2.out.words 3 (by simp)
 have k4:W2.cell? ⟨g,4,none⟩=some (.string e):=by simpa using HK2.out.words 4 (by simp)
 have k5:W2.cell? ⟨g,5,none⟩=some (.string f):=by simpa using HK2.out.words 5 (by simp)
 go_upto_region 10 with fail;have HK3:Hid (PaK w g [a,b,c,d,e,f] (W2.alloc (.cells #[.int i64 (dcN a),.int i64 (psM b),.int i64 (psB b),.int i64 0,.int i64 0,.int i64 0] 64))):=HK2.out.alloc _;have r0:(W2.alloc (.cells #[.int i64 (dcN a),.int i64 (psM b),.int i64 (psB b),.int i64 0,.int i64 0,.int i64 0] 64)).cell? ⟨W2.heap.size,0,none⟩=some (.int i64 (dcN a)):=by simp
 have r1:(W2.alloc (.cells #[.int i64 (dcN a),.int i64 (psM b),.int i64 (psB b),.int i64 0,.int i64 0,.int i64 0] 64)).cell? ⟨W2.heap.size,1,none⟩=some (.int i64 (psM b)):=by simp
 have r2:(W2.alloc (.cells #[.int i64 (dcN a),.int i64 (psM b),.int i64 (psB b),.int i64 0,.int i64 0,.int i64 0] 64)).cell? ⟨W2.heap.size,2,none⟩=some (.int i64 (psB b)):=by simp
 have r3:(W2.alloc (.cells #[.int i64 (dcN a),.int i64 (psM b),.int i64 (psB b),.int i64 0,.int i64 0,.int i64 0] 64)).cell? ⟨W2.heap.size,3,none⟩=some (.int i64 0):=by simp
 have r4:(W2.alloc (.cells #[.int i64 (dcN a),.int i64 (psM b),.int i64 (psB b),.int i64 0,.int i64 0,.int i64 0] 64)).cell? ⟨W2.heap.size,4,none⟩=some (.int i64 0):=by simp
 have r5:(W2.alloc (.cells #[.int i64 (dcN a),.int i64 (psM b),.int i64 (psB b),.int i64 0,.int i64 0,.int i64 0] 64)).cell? ⟨W2.heap.size,5,none⟩=some (.int i64 0):=by simp
 have rf:∀k,(W2.alloc (.cells #[.int i64 (dcN a),.int i64 (psM b),.int i64 (psB b),.int i64 0,.int i64 0,.int i64 0] 64)).frozen? ⟨W2.heap.size,k,none⟩=false:=by intro k;simp
 have ltR:W2.heap.size<(W2.alloc (.cells #[.int i64 (dcN a),.int i64 (psM b),.int i64 (psB b),.int i64 0,.int i64 0,.int i64 0] 64)).heap.size:=by simp
 have geR:w.heap.size<W2.heap.size:=HK2.out.lt;have neR:g≠W2.heap.size:=Nat.ne_of_lt HK2.out.ltB;clear lt1 ltB gt1 q0 q1 q2 q3 q4 q5 qf k0 k1 k2 k3 k4 k5;clear o0 o1 ltO geO neO
 generalize W2.alloc (.cells #[.int i64 (dcN a),.int i64 (psM b),.int i64 (psB b),.int i64 0,.int i64 0,.int i64 0] 64)=W3 at *
 generalize W2.heap.size=R at *
 clear HK2;have lt1:=HK3.out.lt;have ltB:=HK3.out.ltB;have gt1:=HK3.out.gt;have q0:=HK3.out.c 0 (by omega);have q1:=HK3.out.c 1 (by omega);have q2:=HK3.out.c 2 (by omega);have q3:=HK3.out.c 3 (by omega);have q4:=HK3.out.c 4 (by omega);have q5:=HK3.out.c 5 (by omega);have qf:=HK3.out.f;have k0:W3.cell? ⟨g,0,none⟩=some (.string a):=by simpa using HK3.out.words 0 (by simp)
 have k1:W3.cell? ⟨g,1,none⟩=some (.string b):=by simpa using HK3.out.words 1 (by simp)
 have k2:W3.cell? ⟨g,2,none⟩=some (.string c):=by simpa using HK3.out.words 2 (by simp)
 have k3:W3.cell? ⟨g,3,none⟩=some (.string d):=by simpa using HK3.out.words 3 (by simp)
 have k4:W3.cell? ⟨g,4,none⟩=some (.string e):=by simpa using HK3.out.words 4 (by simp)
 have k5:W3.cell? ⟨g,5,none⟩=some (.string f):=by simpa using HK3.out.words 5 (by simp)
 have h3n:(c.toList != [111,117,116])=false:=by rw[bne,h3];rfl
 go_wp2_with fail
 refine (num_any _ _).mono ?_;rintro e w' ⟨rfl,hw'⟩
 replace hw':=hw'.symm
 subst hw';rw[h5];go_upto_region 17 with fail;have HK4:Hid (PaK w g [a,b,c,d,e,f] (W3.setCell ⟨R,3,none⟩ (.int i64 (dcN d)))):=HK3.out.set geR neR _;have s0:(W3.setCell ⟨R,3,none⟩ (.int i64 (dcN d))).cell? ⟨R,0,none⟩=some (.int i64 (dcN a)):=(World.cell?_setCell_other _ _ _ _ (by simp)).trans r0;have s1:(W3.setCell ⟨R,3,none⟩ (.int i64 (dcN d))).cell? ⟨R,1,none⟩=some (.int i64 (psM b)):=(World.cell?_setCell_other _ _ _ _ (by simp)).trans r1;have s2:(W3.setCell ⟨R,3,none⟩ (.int i64 (dcN d))).cell? ⟨R,2,none⟩=some (.int i64 (psB b)):=(World.cell?_setCell_other _ _ _ _ (by simp)).trans r2;have s3:(W3.setCell ⟨R,3,none⟩ (.int i64 (dcN d))).cell? ⟨R,3,none⟩=some (.int i64 (dcN d)):=World.cell?_setCell_same _ _ _ r3;have s4:(W3.setCell ⟨R,3,none⟩ (.int i64 (dcN d))).cell? ⟨R,4,none⟩=some (.int i64 0):=(World.cell?_setCell_other _ _ _ _ (by simp)).trans r4;have s5:(W3.setCell ⟨R,3,none⟩ (.int i64 (dcN d))).cell? ⟨R,5,none⟩=some (.int i64 0):=(World.cell?_setCell_other _ _ _ _ (by simp)).trans r5;have sf:∀k,(W3.setCell ⟨R,3,none⟩ (.int i64 (dcN d))).frozen? ⟨R,k,none⟩=false:=by intro k;simpa using rf k
 have ltS:R<(W3.setCell ⟨R,3,none⟩ (.int i64 (dcN d))).heap.size:=by simpa using ltR
 clear lt1 ltB gt1 q0 q1 q2 q3 q4 q5 qf k0 k1 k2 k3 k4 k5;clear r0 r1 r2 r3 r4 r5 rf ltR
 generalize (W3.setCell ⟨R,3,none⟩ (.int i64 (dcN d)))=W4 at *
 clear HK3;have r0:=s0;have r1:=s1;have r2:=s2;have r3:=s3;have r4:=s4;have r5:=s5;have rf:=sf;have ltR:=ltS;clear s0 s1 s2 s3 s4 s5 sf ltS;have lt1:=HK4.out.lt;have ltB:=HK4.out.ltB;have gt1:=HK4.out.gt;have q0:=HK4.out.c 0 (by omega);have q1:=HK4.out.c 1 (by omega);have q2:=HK4.out.c 2 (by omega);have q3:=HK4.out.c 3 (by omega);have q4:=HK4.out.c 4 (by omega);have q5:=HK4.out.c 5 (by omega);have qf:=HK4.out.f;have k0:W4.cell? ⟨g,0,none⟩=some (.string a):=by simpa using HK4.out.words 0 (by simp)
 have k1:W4.cell? ⟨g,1,none⟩=some (.string b):=by simpa using HK4.out.words 1 (by simp)
 have k2:W4.cell? ⟨g,2,none⟩=some (.string c):=by simpa using HK4.out.words 2 (by simp)
 have k3:W4.cell? ⟨g,3,none⟩=some (.string d):=by simpa using HK4.out.words 3 (by simp)
 have k4:W4.cell? ⟨g,4,none⟩=some (.string e):=by simpa using HK4.out.words 4 (by simp)
 have k5:W4.cell? ⟨g,5,none⟩=some (.string f):=by simpa using HK4.out.words 5 (by simp)
 have h7n:(e.toList != [115,101,116])=false:=by rw[bne,h7];rfl
 go_wp2_with fail
 refine (refRead_any _ _).mono ?_;rintro e w6 ⟨rfl,hb6⟩;rw[h8];have HK6:Hid (PaK w g [a,b,c,d,e,f] (w6.alloc (.cells #[.int i64 (psM f),.int i64 (psB f)] 62))):=(HK4.out.later hb6).alloc _;have t0:(w6.alloc (.cells #[.int i64 (psM f),.int i64 (psB f)] 62)).cell? ⟨R,0,none⟩=some (.int i64 (dcN a)):=cell_later ((bRQ _ _).alloc (nLQ _) _) (cell_later hb6 r0);have t1:(w6.alloc (.cells #[.int i64 (psM f),.int i64 (psB f)] 62)).cell? ⟨R,1,none⟩=some (.int i64 (psM b)):=cell_later ((bRQ _ _).alloc (nLQ _) _) (cell_later hb6 r1);have t2:(w6.alloc (.cells #[.int i64 (psM f),.int i64 (psB f)] 62)).cell? ⟨R,2,none⟩=some (.int i64 (psB b)):=cell_later ((bRQ _ _).alloc (nLQ _) _) (cell_later hb6 r2);have t3:(w6.alloc (.cells #[.int i64 (psM f),.int i64 (psB f)] 62)).cell? ⟨R,3,none⟩=some (.int i64 (dcN d)):=cell_later ((bRQ _ _).alloc (nLQ _) _) (cell_later hb6 r3);have t4:(w6.alloc (.cells #[.int i64 (psM f),.int i64 (psB f)] 62)).cell? ⟨R,4,none⟩=some (.int i64 0):=cell_later ((bRQ _ _).alloc (nLQ _) _) (cell_later hb6 r4);have t5:(w6.alloc (.cells #[.int i64 (psM f),.int i64 (psB f)] 62)).cell? ⟨R,5,none⟩=some (.int i64 0):=cell_later ((bRQ _ _).alloc (nLQ _) _) (cell_later hb6 r5);have tf:∀k,(w6.alloc (.cells #[.int i64 (psM f),.int i64 (psB f)] 62)).frozen? ⟨R,k,none⟩=false:=by intro k;rw[((Below.refl w6.heap.size w6).alloc (nLQ _) _).frozen (p:=⟨R,k,none⟩) (Nat.lt_of_lt_of_le ltR hb6.size),hb6.frozen (p:=⟨R,k,none⟩) ltR];exact rf k
 have ltT:R<(w6.alloc (.cells #[.int i64 (psM f),.int i64 (psB f)] 62)).heap.size:=by have:=hb6.size;simp;omega
 have x0:(w6.alloc (.cells #[.int i64 (psM f),.int i64 (psB f)] 62)).cell? ⟨w6.heap.size,0,none⟩=some (.int i64 (psM f)):=by simp
 have x1:(w6.alloc (.cells #[.int i64 (psM f),.int i64 (psB f)] 62)).cell? ⟨w6.heap.size,1,none⟩=some (.int i64 (psB f)):=by simp
 have ltX:w6.heap.size<(w6.alloc (.cells #[.int i64 (psM f),.int i64 (psB f)] 62)).heap.size:=by simp
 have neX:R≠w6.heap.size:=by have:=hb6.size;omega
 clear hb6;clear lt1 ltB gt1 q0 q1 q2 q3 q4 q5 qf k0 k1 k2 k3 k4 k5;clear r0 r1 r2 r3 r4 r5 rf ltR;go_upto_region 19 with fail
 generalize w6.alloc (.cells #[.int i64 (psM f),.int i64 (psB f)] 62)=W6 at *
 generalize w6.heap.size=X at *
 clear HK4;have r0:=t0;have r1:=t1;have r2:=t2;have r3:=t3;have r4:=t4;have r5:=t5;have rf:=tf;have ltR:=ltT;clear t0 t1 t2 t3 t4 t5 tf ltT;have lt1:=HK6.out.lt;have ltB:=HK6.out.ltB;have gt1:=HK6.out.gt;have q0:=HK6.out.c 0 (by omega);have q1:=HK6.out.c 1 (by omega);have q2:=HK6.out.c 2 (by omega);have q3:=HK6.out.c 3 (by omega);have q4:=HK6.out.c 4 (by omega);have q5:=HK6.out.c 5 (by omega);have qf:=HK6.out.f;have k0:W6.cell? ⟨g,0,none⟩=some (.string a):=by simpa using HK6.out.words 0 (by simp)
 have k1:W6.cell? ⟨g,1,none⟩=some (.string b):=by simpa using HK6.out.words 1 (by simp)
 have k2:W6.cell? ⟨g,2,none⟩=some (.string c):=by simpa using HK6.out.words 2 (by simp)
 have k3:W6.cell? ⟨g,3,none⟩=some (.string d):=by simpa using HK6.out.words 3 (by simp)
 have k4:W6.cell? ⟨g,4,none⟩=some (.string e):=by simpa using HK6.out.words 4 (by simp)
 have k5:W6.cell? ⟨g,5,none⟩=some (.string f):=by simpa using HK6.out.words 5 (by simp)
 go_upto_region 22 with fail;have HK7:Hid (PaK w g [a,b,c,d,e,f] (W6.setCell ⟨R,4,none⟩ (.int i64 (psM f)))):=HK6.out.set geR neR _;have s0:(W6.setCell ⟨R,4,none⟩ (.int i64 (psM f))).cell? ⟨R,0,none⟩=some (.int i64 (dcN a)):=(World.cell?_setCell_other _ _ _ _ (by simp)).trans r0;have s1:(W6.setCell ⟨R,4,none⟩ (.int i64 (psM f))).cell? ⟨R,1,none⟩=some (.int i64 (psM b)):=(World.cell?_setCell_other _ _ _ _ (by simp)).trans r1;have s2:(W6.setCell ⟨R,4,none⟩ (.int i64 (psM f))).cell? ⟨R,2,none⟩=some (.int i64 (psB b)):=(World.cell?_setCell_other _ _ _ _ (by simp)).trans r2;have s3:(W6.setCell ⟨R,4,none⟩ (.int i64 (psM f))).cell? ⟨R,3,none⟩=some (.int i64 (dcN d)):=(World.cell?_setCell_other _ _ _ _ (by simp)).trans r3;have s4:(W6.setCell ⟨R,4,none⟩ (.int i64 (psM f))).cell? ⟨R,4,none⟩=some (.int i64 (psM f)):=World.cell?_setCell_same _ _ _ r4;have s5:(W6.setCell ⟨R,4,none⟩ (.int i64 (psM f))).cell? ⟨R,5,none⟩=some (.int i64 0):=(World.cell?_setCell_other _ _ _ _ (by simp)).trans r5;have sf:∀k,(W6.setCell ⟨R,4,none⟩ (.int i64 (psM f))).frozen? ⟨R,k,none⟩=false:=by intro k;simpa using rf k
 have ltS:R<(W6.setCell ⟨R,4,none⟩ (.int i64 (psM f))).heap.size:=by simpa using ltR
 clear lt1 ltB gt1 q0 q1 q2 q3 q4 q5 qf k0 k1 k2 k3 k4 k5;clear r0 r1 r2 r3 r4 r5 rf ltR;have y1:(W6.setCell ⟨R,4,none⟩ (.int i64 (psM f))).cell? ⟨X,1,none⟩=some (.int i64 (psB f)):=(World.cell?_setCell_other _ _ _ _ (by first | (simp;done) | (simp;omega))).trans x1;have ltY:X<(W6.setCell ⟨R,4,none⟩ (.int i64 (psM f))).heap.size:=by simpa using ltX
 clear x0 x1 ltX
 generalize (W6.setCell ⟨R,4,none⟩ (.int i64 (psM f)))=W7 at *
 clear HK6;have r0:=s0;have r1:=s1;have r2:=s2;have r3:=s3;have r4:=s4;have r5:=s5;have rf:=sf;have ltR:=ltS;clear s0 s1 s2 s3 s4 s5 sf ltS;have lt1:=HK7.out.lt;have ltB:=HK7.out.ltB;have gt1:=HK7.out.gt;have q0:=HK7.out.c 0 (by omega);have q1:=HK7.out.c 1 (by omega);have q2:=HK7.out.c 2 (by omega);have q3:=HK7.out.c 3 (by omega);have q4:=HK7.out.c 4 (by omega);have q5:=HK7.out.c 5 (by omega);have qf:=HK7.out.f;have k0:W7.cell? ⟨g,0,none⟩=some (.string a):=by simpa using HK7.out.words 0 (by simp)
 have k1:W7.cell? ⟨g,1,none⟩=some (.string b):=by simpa using HK7.out.words 1 (by simp)
 have k2:W7.cell? ⟨g,2,none⟩=some (.string c):=by simpa using HK7.out.words 2 (by simp)
 have k3:W7.cell? ⟨g,3,none⟩=some (.string d):=by simpa using HK7.out.words 3 (by simp)
 have k4:W7.cell? ⟨g,4,none⟩=some (.string e):=by simpa using HK7.out.words 4 (by simp)
 have k5:W7.cell? ⟨g,5,none⟩=some (.string f):=by simpa using HK7.out.words 5 (by simp)
 go_upto_region 23 with fail;have HK8:Hid (PaK w g [a,b,c,d,e,f] (W7.setCell ⟨R,5,none⟩ (.int i64 (psB f)))):=HK7.out.set geR neR _;have s0:(W7.setCell ⟨R,5,none⟩ (.int i64 (psB f))).cell? ⟨R,0,none⟩=some (.int i64 (dcN a)):=(World.cell?_setCell_other _ _ _ _ (by simp)).trans r0;have s1:(W7.setCell ⟨R,5,none⟩ (.int i64 (psB f))).cell? ⟨R,1,none⟩=some (.int i64 (psM b)):=(World.cell?_setCell_other _ _ _ _ (by simp)).trans r1;have s2:(W7.setCell ⟨R,5,none⟩ (.int i64 (psB f))).cell? ⟨R,2,none⟩=some (.int i64 (psB b)):=(World.cell?_setCell_other _ _ _ _ (by simp)).trans r2;have s3:(W7.setCell ⟨R,5,none⟩ (.int i64 (psB f))).cell? ⟨R,3,none⟩=some (.int i64 (dcN d)):=(World.cell?_setCell_other _ _ _ _ (by simp)).trans r3;have s4:(W7.setCell ⟨R,5,none⟩ (.int i64 (psB f))).cell? ⟨R,4,none⟩=some (.int i64 (psM f)):=(World.cell?_setCell_other _ _ _ _ (by simp)).trans r4;have s5:(W7.setCell ⟨R,5,none⟩ (.int i64 (psB f))).cell? ⟨R,5,none⟩=some (.int i64 (psB f)):=World.cell?_setCell_same _ _ _ r5;have sf:∀k,(W7.setCell ⟨R,5,none⟩ (.int i64 (psB f))).frozen? ⟨R,k,none⟩=false:=by intro k;simpa using rf k
 have ltS:R<(W7.setCell ⟨R,5,none⟩ (.int i64 (psB f))).heap.size:=by simpa using ltR
 clear lt1 ltB gt1 q0 q1 q2 q3 q4 q5 qf k0 k1 k2 k3 k4 k5;clear r0 r1 r2 r3 r4 r5 rf ltR;clear y1 ltY
 generalize (W7.setCell ⟨R,5,none⟩ (.int i64 (psB f)))=W8 at *
 clear HK7;have r0:=s0;have r1:=s1;have r2:=s2;have r3:=s3;have r4:=s4;have r5:=s5;have rf:=sf;have ltR:=ltS;clear s0 s1 s2 s3 s4 s5 sf ltS;have lt1:=HK8.out.lt;have ltB:=HK8.out.ltB;have gt1:=HK8.out.gt;have q0:=HK8.out.c 0 (by omega);have q1:=HK8.out.c 1 (by omega);have q2:=HK8.out.c 2 (by omega);have q3:=HK8.out.c 3 (by omega);have q4:=HK8.out.c 4 (by omega);have q5:=HK8.out.c 5 (by omega);have qf:=HK8.out.f;have k0:W8.cell? ⟨g,0,none⟩=some (.string a):=by simpa using HK8.out.words 0 (by simp)
 have k1:W8.cell? ⟨g,1,none⟩=some (.string b):=by simpa using HK8.out.words 1 (by simp)
 have k2:W8.cell? ⟨g,2,none⟩=some (.string c):=by simpa using HK8.out.words 2 (by simp)
 have k3:W8.cell? ⟨g,3,none⟩=some (.string d):=by simpa using HK8.out.words 3 (by simp)
 have k4:W8.cell? ⟨g,4,none⟩=some (.string e):=by simpa using HK8.out.words 4 (by simp)
 have k5:W8.cell? ⟨g,5,none⟩=some (.string f):=by simpa using HK8.out.words 5 (by simp)
 go_wp2_with fail
 refine (refRule_any _ _ _ _ _ _ _).mono ?_;rintro e w5 ⟨rfl,hb5⟩;have HK5:Hid (PaK w g [a,b,c,d,e,f] w5):=HK8.out.later hb5;clear lt1 ltB gt1 q0 q1 q2 q3 q4 q5 qf k0 k1 k2 k3 k4 k5;have t0:=cell_later hb5 r0;have t1:=cell_later hb5 r1;have t2:=cell_later hb5 r2;have t3:=cell_later hb5 r3;have t4:=cell_later hb5 r4;have t5:=cell_later hb5 r5;have ltT:R<w5.heap.size:=Nat.lt_of_lt_of_le ltR hb5.size;clear hb5 r0 r1 r2 r3 r4 r5 rf ltR;have lt1:=HK5.out.lt;have ltB:=HK5.out.ltB;have gt1:=HK5.out.gt;have q0:=HK5.out.c 0 (by omega);have q1:=HK5.out.c 1 (by omega);have q2:=HK5.out.c 2 (by omega);have q3:=HK5.out.c 3 (by omega);have q4:=HK5.out.c 4 (by omega);have q5:=HK5.out.c 5 (by omega);have qf:=HK5.out.f;have k0:w5.cell? ⟨g,0,none⟩=some (.string a):=by simpa using HK5.out.words 0 (by simp)
 have k1:w5.cell? ⟨g,1,none⟩=some (.string b):=by simpa using HK5.out.words 1 (by simp)
 have k2:w5.cell? ⟨g,2,none⟩=some (.string c):=by simpa using HK5.out.words 2 (by simp)
 have k3:w5.cell? ⟨g,3,none⟩=some (.string d):=by simpa using HK5.out.words 3 (by simp)
 have k4:w5.cell? ⟨g,4,none⟩=some (.string e):=by simpa using HK5.out.words 4 (by simp)
 have k5:w5.cell? ⟨g,5,none⟩=some (.string f):=by simpa using HK5.out.words 5 (by simp)
 go_wp2;refine bodyPost_ret (v:=.tuple #[.agg #[.int i64 0,.int i64 0,.int i64 0,.int i64 0,.int i64 0,.int i64 0],.int i64 (ruN (dcN a) (psM b) (psB b) (dcN d) (psM f) (psB f))]) (by simp[results,results30,go_sem, *]) rfl ⟨rfl,?_⟩;exact six HK5.out.below (nLQ _) _ _ _ _ _ _
theorem rd_good6 (s:ByteArray)(w:World)(hs:s.size≤1048576)(a b c d e f:ByteArray)(hws:cutA s=[a,b,c,d,e,f])(h1:dcOk a=true)(h2:psOk b=true)(h3:(c.toList==[111,117,116])=true)(h5:dcOk d=true)(h6:(dcN d==0)=false)(h7:(e.toList==[115,101,116])=true)(h8:psOk f=true)(h10:(psM f==0)=false)(h9:ruN (dcN a) (psM b) (psB b) (dcN d) (psM f) (psB f)=0):
 Calls prog 30 #[.string s] w fun e w'=>e=.returned (.tuple #[.agg #[.int i64 (dcN a),.int i64 (psM b),.int i64 (psB b),.int i64 (dcN d),.int i64 (psM f),.int i64 (psB f)],.int i64 0])∧Below w.heap.size w w':=by
 have hln:(cutA s).length=6:=by rw[hws];rfl
 go_enter func30,ntmps30
 go_wp2_with fail
 refine (cut_any s _ hs).mono ?_;rintro e w1 ⟨v,rfl,hown,hb1⟩;obtain⟨g,cap,rfl,hg,hcap,hcap2,hW⟩:=own_words hown (by omega);have hK:=PaK.from rfl hb1 hg hW (by omega);rw[hln];rw[hws] at hK;clear hown hb1 hg hW hcap hln hws;have HK:Hid (PaK w g [a,b,c,d,e,f] w1):=hK;have lt1:=HK.out.lt;have ltB:=HK.out.ltB;have gt1:=HK.out.gt;have q0:=HK.out.c 0 (by omega);have q1:=HK.out.c 1 (by omega);have q2:=HK.out.c 2 (by omega);have q3:=HK.out.c 3 (by omega);have q4:=HK.out.c 4 (by omega);have q5:=HK.out.c 5 (by omega);have qf:=HK.out.f;have k0:w1.cell? ⟨g,0,none⟩=some (.string a):=by simpa using HK.out.words 0 (by simp)
 have k1:w1.cell? ⟨g,1,none⟩=some (.string b):=by simpa using HK.out.words 1 (by simp)
 have k2:w1.cell? ⟨g,2,none⟩=some (.string c):=by simpa using HK.out.words 2 (by simp)
 have k3:w1.cell? ⟨g,3,none⟩=some (.string d):=by simpa using HK.out.words 3 (by simp)
 have k4:w1.cell? ⟨g,4,none⟩=some (.string e):=by simpa using HK.out.words 4 (by simp)
 have k5:w1.cell? ⟨g,5,none⟩=some (.string f):=by simpa using HK.out.words 5 (by simp)
 clear hK
 go_wp2_with fail
 refine (num_any _ _).mono ?_;rintro e w' ⟨rfl,hw'⟩
 replace hw':=hw'.symm
 subst hw';rw[h1]
 go_wp2_with fail
 refine (refRead_any _ _).mono ?_;rintro e w2 ⟨rfl,hb2⟩;rw[h2];have HK2:Hid (PaK w g [a,b,c,d,e,f] (w2.alloc (.cells #[.int i64 (psM b),.int i64 (psB b)] 62))):=(HK.out.later hb2).alloc _;have o0:(w2.alloc (.cells #[.int i64 (psM b),.int i64 (psB b)] 62)).cell? ⟨w2.heap.size,0,none⟩=some (.int i64 (psM b)):=by simp
 have o1:(w2.alloc (.cells #[.int i64 (psM b),.int i64 (psB b)] 62)).cell? ⟨w2.heap.size,1,none⟩=some (.int i64 (psB b)):=by simp
 have ltO:w2.heap.size<(w2.alloc (.cells #[.int i64 (psM b),.int i64 (psB b)] 62)).heap.size:=by simp
 have geO:w.heap.size<w2.heap.size:=(HK.out.later hb2).lt;have neO:g≠w2.heap.size:=Nat.ne_of_lt (HK.out.later hb2).ltB;clear hb2;clear lt1 ltB gt1 q0 q1 q2 q3 q4 q5 qf k0 k1 k2 k3 k4 k5;go_upto_region 7 with fail
 generalize w2.alloc (.cells #[.int i64 (psM b),.int i64 (psB b)] 62)=W2 at *
 generalize w2.heap.size=C at *
 have lt1:=HK2.out.lt;have ltB:=HK2.out.ltB;have gt1:=HK2.out.gt;have q0:=HK2.out.c 0 (by omega);have q1:=HK2.out.c 1 (by omega);have q2:=HK2.out.c 2 (by omega);have q3:=HK2.out.c 3 (by omega);have q4:=HK2.out.c 4 (by omega);have q5:=HK2.out.c 5 (by omega);have qf:=HK2.out.f;have k0:W2.cell? ⟨g,0,none⟩=some (.string a):=by simpa using HK2.out.words 0 (by simp)
 have k1:W2.cell? ⟨g,1,none⟩=some (.string b):=by simpa using HK2.out.words 1 (by simp)
 have k2:W2.cell? ⟨g,2,none⟩=some (.string c):=by simpa using HK2.out.words 2 (by simp)
 have k3:W2.cell? ⟨g,3,none⟩=some (.string d):=by simpa using HK2.out.words 3 (by simp)
 have k4:W2.cell? ⟨g,4,none⟩=some (.string e):=by simpa using HK2.out.words 4 (by simp)
 have k5:W2.cell? ⟨g,5,none⟩=some (.string f):=by simpa using HK2.out.words 5 (by simp)
 go_upto_region 10 with fail;have HK3:Hid (PaK w g [a,b,c,d,e,f] (W2.alloc (.cells #[.int i64 (dcN a),.int i64 (psM b),.int i64 (psB b),.int i64 0,.int i64 0,.int i64 0] 64))):=HK2.out.alloc _;have r0:(W2.alloc (.cells #[.int i64 (dcN a),.int i64 (psM b),.int i64 (psB b),.int i64 0,.int i64 0,.int i64 0] 64)).cell? ⟨W2.heap.size,0,none⟩=some (.int i64 (dcN a)):=by simp
 have r1:(W2.alloc (.cells #[.int i64 (dcN a),.int i64 (psM b),.int i64 (psB b),.int i64 0,.int i64 0,.int i64 0] 64)).cell? ⟨W2.heap.size,1,none⟩=some (.int i64 (psM b)):=by simp
 have r2:(W2.alloc (.cells #[.int i64 (dcN a),.int i64 (psM b),.int i64 (psB b),.int i64 0,.int i64 0,.int i64 0] 64)).cell? ⟨W2.heap.size,2,none⟩=some (.int i64 (psB b)):=by simp
 have r3:(W2.alloc (.cells #[.int i64 (dcN a),.int i64 (psM b),.int i64 (psB b),.int i64 0,.int i64 0,.int i64 0] 64)).cell? ⟨W2.heap.size,3,none⟩=some (.int i64 0):=by simp
 have r4:(W2.alloc (.cells #[.int i64 (dcN a),.int i64 (psM b),.int i64 (psB b),.int i64 0,.int i64 0,.int i64 0] 64)).cell? ⟨W2.heap.size,4,none⟩=some (.int i64 0):=by simp
 have r5:(W2.alloc (.cells #[.int i64 (dcN a),.int i64 (psM b),.int i64 (psB b),.int i64 0,.int i64 0,.int i64 0] 64)).cell? ⟨W2.heap.size,5,none⟩=some (.int i64 0):=by simp
 have rf:∀k,(W2.alloc (.cells #[.int i64 (dcN a),.int i64 (psM b),.int i64 (psB b),.int i64 0,.int i64 0,.int i64 0] 64)).frozen? ⟨W2.heap.size,k,none⟩=false:=by intro k;simp
 have ltR:W2.heap.size<(W2.alloc (.cells #[.int i64 (dcN a),.int i64 (psM b),.int i64 (psB b),.int i64 0,.int i64 0,.int i64 0] 64)).heap.size:=by simp
 have geR:w.heap.size<W2.heap.size:=HK2.out.lt;have neR:g≠W2.heap.size:=Nat.ne_of_lt HK2.out.ltB;clear lt1 ltB gt1 q0 q1 q2 q3 q4 q5 qf k0 k1 k2 k3 k4 k5;clear o0 o1 ltO geO neO
 generalize W2.alloc (.cells #[.int i64 (dcN a),.int i64 (psM b),.int i64 (psB b),.int i64 0,.int i64 0,.int i64 0] 64)=W3 at *
 generalize W2.heap.size=R at *
 clear HK2;have lt1:=HK3.out.lt;have ltB:=HK3.out.ltB;have gt1:=HK3.out.gt;have q0:=HK3.out.c 0 (by omega);have q1:=HK3.out.c 1 (by omega);have q2:=HK3.out.c 2 (by omega);have q3:=HK3.out.c 3 (by omega);have q4:=HK3.out.c 4 (by omega);have q5:=HK3.out.c 5 (by omega);have qf:=HK3.out.f;have k0:W3.cell? ⟨g,0,none⟩=some (.string a):=by simpa using HK3.out.words 0 (by simp)
 have k1:W3.cell? ⟨g,1,none⟩=some (.string b):=by simpa using HK3.out.words 1 (by simp)
 have k2:W3.cell? ⟨g,2,none⟩=some (.string c):=by simpa using HK3.out.words 2 (by simp)
 have k3:W3.cell? ⟨g,3,none⟩=some (.string d):=by simpa using HK3.out.words 3 (by simp)
 have k4:W3.cell? ⟨g,4,none⟩=some (.string e):=by simpa using HK3.out.words 4 (by simp)
 have k5:W3.cell? ⟨g,5,none⟩=some (.string f):=by simpa using HK3.out.words 5 (by simp)
 have h3n:(c.toList != [111,117,116])=false:=by rw[bne,h3];rfl
 go_wp2_with fail
 refine (num_any _ _).mono ?_;rintro e w' ⟨rfl,hw'⟩
 replace hw':=hw'.symm
 subst hw';rw[h5];go_upto_region 17 with fail;have HK4:Hid (PaK w g [a,b,c,d,e,f] (W3.setCell ⟨R,3,none⟩ (.int i64 (dcN d)))):=HK3.out.set geR neR _;have s0:(W3.setCell ⟨R,3,none⟩ (.int i64 (dcN d))).cell? ⟨R,0,none⟩=some (.int i64 (dcN a)):=(World.cell?_setCell_other _ _ _ _ (by simp)).trans r0;have s1:(W3.setCell ⟨R,3,none⟩ (.int i64 (dcN d))).cell? ⟨R,1,none⟩=some (.int i64 (psM b)):=(World.cell?_setCell_other _ _ _ _ (by simp)).trans r1;have s2:(W3.setCell ⟨R,3,none⟩ (.int i64 (dcN d))).cell? ⟨R,2,none⟩=some (.int i64 (psB b)):=(World.cell?_setCell_other _ _ _ _ (by simp)).trans r2;have s3:(W3.setCell ⟨R,3,none⟩ (.int i64 (dcN d))).cell? ⟨R,3,none⟩=some (.int i64 (dcN d)):=World.cell?_setCell_same _ _ _ r3;have s4:(W3.setCell ⟨R,3,none⟩ (.int i64 (dcN d))).cell? ⟨R,4,none⟩=some (.int i64 0):=(World.cell?_setCell_other _ _ _ _ (by simp)).trans r4;have s5:(W3.setCell ⟨R,3,none⟩ (.int i64 (dcN d))).cell? ⟨R,5,none⟩=some (.int i64 0):=(World.cell?_setCell_other _ _ _ _ (by simp)).trans r5;have sf:∀k,(W3.setCell ⟨R,3,none⟩ (.int i64 (dcN d))).frozen? ⟨R,k,none⟩=false:=by intro k;simpa using rf k
 have ltS:R<(W3.setCell ⟨R,3,none⟩ (.int i64 (dcN d))).heap.size:=by simpa using ltR
 clear lt1 ltB gt1 q0 q1 q2 q3 q4 q5 qf k0 k1 k2 k3 k4 k5;clear r0 r1 r2 r3 r4 r5 rf ltR
 generalize (W3.setCell ⟨R,3,none⟩ (.int i64 (dcN d)))=W4 at *
 clear HK3;have r0:=s0;have r1:=s1;have r2:=s2;have r3:=s3;have r4:=s4;have r5:=s5;have rf:=sf;have ltR:=ltS;clear s0 s1 s2 s3 s4 s5 sf ltS;have lt1:=HK4.out.lt;have ltB:=HK4.out.ltB;have gt1:=HK4.out.gt;have q0:=HK4.out.c 0 (by omega);have q1:=HK4.out.c 1 (by omega);have q2:=HK4.out.c 2 (by omega);have q3:=HK4.out.c 3 (by omega);have q4:=HK4.out.c 4 (by omega);have q5:=HK4.out.c 5 (by omega);have qf:=HK4.out.f;have k0:W4.cell? ⟨g,0,none⟩=some (.string a):=by simpa using HK4.out.words 0 (by simp)
 have k1:W4.cell? ⟨g,1,none⟩=some (.string b):=by simpa using HK4.out.words 1 (by simp)
 have k2:W4.cell? ⟨g,2,none⟩=some (.string c):=by simpa using HK4.out.words 2 (by simp)
 have k3:W4.cell? ⟨g,3,none⟩=some (.string d):=by simpa using HK4.out.words 3 (by simp)
 have k4:W4.cell? ⟨g,4,none⟩=some (.string e):=by simpa using HK4.out.words 4 (by simp)
 have k5:W4.cell? ⟨g,5,none⟩=some (.string f):=by simpa using HK4.out.words 5 (by simp)
 have h7n:(e.toList != [115,101,116])=false:=by rw[bne,h7];rfl
 go_wp2_with fail
 refine (refRead_any _ _).mono ?_;rintro e w6 ⟨rfl,hb6⟩;rw[h8];have HK6:Hid (PaK w g [a,b,c,d,e,f] (w6.alloc (.cells #[.int i64 (psM f),.int i64 (psB f)] 62))):=(HK4.out.later hb6).alloc _;have t0:(w6.alloc (.cells #[.int i64 (psM f),.int i64 (psB f)] 62)).cell? ⟨R,0,none⟩=some (.int i64 (dcN a)):=cell_later ((bRQ _ _).alloc (nLQ _) _) (cell_later hb6 r0);have t1:(w6.alloc (.cells #[.int i64 (psM f),.int i64 (psB f)] 62)).cell? ⟨R,1,none⟩=some (.int i64 (psM b)):=cell_later ((bRQ _ _).alloc (nLQ _) _) (cell_later hb6 r1);have t2:(w6.alloc (.cells #[.int i64 (psM f),.int i64 (psB f)] 62)).cell? ⟨R,2,none⟩=some (.int i64 (psB b)):=cell_later ((bRQ _ _).alloc (nLQ _) _) (cell_later hb6 r2);have t3:(w6.alloc (.cells #[.int i64 (psM f),.int i64 (psB f)] 62)).cell? ⟨R,3,none⟩=some (.int i64 (dcN d)):=cell_later ((bRQ _ _).alloc (nLQ _) _) (cell_later hb6 r3);have t4:(w6.alloc (.cells #[.int i64 (psM f),.int i64 (psB f)] 62)).cell? ⟨R,4,none⟩=some (.int i64 0):=cell_later ((bRQ _ _).alloc (nLQ _) _) (cell_later hb6 r4);have t5:(w6.alloc (.cells #[.int i64 (psM f),.int i64 (psB f)] 62)).cell? ⟨R,5,none⟩=some (.int i64 0):=cell_later ((bRQ _ _).alloc (nLQ _) _) (cell_later hb6 r5);have tf:∀k,(w6.alloc (.cells #[.int i64 (psM f),.int i64 (psB f)] 62)).frozen? ⟨R,k,none⟩=false:=by intro k;rw[((Below.refl w6.heap.size w6).alloc (nLQ _) _).frozen (p:=⟨R,k,none⟩) (Nat.lt_of_lt_of_le ltR hb6.size),hb6.frozen (p:=⟨R,k,none⟩) ltR];exact rf k
 have ltT:R<(w6.alloc (.cells #[.int i64 (psM f),.int i64 (psB f)] 62)).heap.size:=by have:=hb6.size;simp;omega
 have x0:(w6.alloc (.cells #[.int i64 (psM f),.int i64 (psB f)] 62)).cell? ⟨w6.heap.size,0,none⟩=some (.int i64 (psM f)):=by simp
 have x1:(w6.alloc (.cells #[.int i64 (psM f),.int i64 (psB f)] 62)).cell? ⟨w6.heap.size,1,none⟩=some (.int i64 (psB f)):=by simp
 have ltX:w6.heap.size<(w6.alloc (.cells #[.int i64 (psM f),.int i64 (psB f)] 62)).heap.size:=by simp
 have neX:R≠w6.heap.size:=by have:=hb6.size;omega
 clear hb6;clear lt1 ltB gt1 q0 q1 q2 q3 q4 q5 qf k0 k1 k2 k3 k4 k5;clear r0 r1 r2 r3 r4 r5 rf ltR;go_upto_region 19 with fail
 generalize w6.alloc (.cells #[.int i64 (psM f),.int i64 (psB f)] 62)=W6 at *
 generalize w6.heap.size=X at *
 clear HK4;have r0:=t0;have r1:=t1;have r2:=t2;have r3:=t3;have r4:=t4;have r5:=t5;have rf:=tf;have ltR:=ltT;clear t0 t1 t2 t3 t4 t5 tf ltT;have lt1:=HK6.out.lt;have ltB:=HK6.out.ltB;have gt1:=HK6.out.gt;have q0:=HK6.out.c 0 (by omega);have q1:=HK6.out.c 1 (by omega);have q2:=HK6.out.c 2 (by omega);have q3:=HK6.out.c 3 (by omega);have q4:=HK6.out.c 4 (by omega);have q5:=HK6.out.c 5 (by omega);have qf:=HK6.out.f;have k0:W6.cell? ⟨g,0,none⟩=some (.string a):=by simpa using HK6.out.words 0 (by simp)
 have k1:W6.cell? ⟨g,1,none⟩=some (.string b):=by simpa using HK6.out.words 1 (by simp)
 have k2:W6.cell? ⟨g,2,none⟩=some (.string c):=by simpa using HK6.out.words 2 (by simp)
 have k3:W6.cell? ⟨g,3,none⟩=some (.string d):=by simpa using HK6.out.words 3 (by simp)
 have k4:W6.cell? ⟨g,4,none⟩=some (.string e):=by simpa using HK6.out.words 4 (by simp)
 have k5:W6.cell? ⟨g,5,none⟩=some (.string f):=by simpa using HK6.out.words 5 (by simp)
 go_upto_region 22 with fail;have HK7:Hid (PaK w g [a,b,c,d,e,f] (W6.setCell ⟨R,4,none⟩ (.int i64 (psM f)))):=HK6.out.set geR neR _;have s0:(W6.setCell ⟨R,4,none⟩ (.int i64 (psM f))).cell? ⟨R,0,none⟩=some (.int i64 (dcN a)):=(World.cell?_setCell_other _ _ _ _ (by simp)).trans r0;have s1:(W6.setCell ⟨R,4,none⟩ (.int i64 (psM f))).cell? ⟨R,1,none⟩=some (.int i64 (psM b)):=(World.cell?_setCell_other _ _ _ _ (by simp)).trans r1;have s2:(W6.setCell ⟨R,4,none⟩ (.int i64 (psM f))).cell? ⟨R,2,none⟩=some (.int i64 (psB b)):=(World.cell?_setCell_other _ _ _ _ (by simp)).trans r2;have s3:(W6.setCell ⟨R,4,none⟩ (.int i64 (psM f))).cell? ⟨R,3,none⟩=some (.int i64 (dcN d)):=(World.cell?_setCell_other _ _ _ _ (by simp)).trans r3;have s4:(W6.setCell ⟨R,4,none⟩ (.int i64 (psM f))).cell? ⟨R,4,none⟩=some (.int i64 (psM f)):=World.cell?_setCell_same _ _ _ r4;have s5:(W6.setCell ⟨R,4,none⟩ (.int i64 (psM f))).cell? ⟨R,5,none⟩=some (.int i64 0):=(World.cell?_setCell_other _ _ _ _ (by simp)).trans r5;have sf:∀k,(W6.setCell ⟨R,4,none⟩ (.int i64 (psM f))).frozen? ⟨R,k,none⟩=false:=by intro k;simpa using rf k
 have ltS:R<(W6.setCell ⟨R,4,none⟩ (.int i64 (psM f))).heap.size:=by simpa using ltR
 clear lt1 ltB gt1 q0 q1 q2 q3 q4 q5 qf k0 k1 k2 k3 k4 k5;clear r0 r1 r2 r3 r4 r5 rf ltR;have y1:(W6.setCell ⟨R,4,none⟩ (.int i64 (psM f))).cell? ⟨X,1,none⟩=some (.int i64 (psB f)):=(World.cell?_setCell_other _ _ _ _ (by first | (simp;done) | (simp;omega))).trans x1;have ltY:X<(W6.setCell ⟨R,4,none⟩ (.int i64 (psM f))).heap.size:=by simpa using ltX
 clear x0 x1 ltX
 generalize (W6.setCell ⟨R,4,none⟩ (.int i64 (psM f)))=W7 at *
 clear HK6;have r0:=s0;have r1:=s1;have r2:=s2;have r3:=s3;have r4:=s4;have r5:=s5;have rf:=sf;have ltR:=ltS;clear s0 s1 s2 s3 s4 s5 sf ltS;have lt1:=HK7.out.lt;have ltB:=HK7.out.ltB;have gt1:=HK7.out.gt;have q0:=HK7.out.c 0 (by omega);have q1:=HK7.out.c 1 (by omega);have q2:=HK7.out.c 2 (by omega);have q3:=HK7.out.c 3 (by omega);have q4:=HK7.out.c 4 (by omega);have q5:=HK7.out.c 5 (by omega);have qf:=HK7.out.f;have k0:W7.cell? ⟨g,0,none⟩=some (.string a):=by simpa using HK7.out.words 0 (by simp)
 have k1:W7.cell? ⟨g,1,none⟩=some (.string b):=by simpa using HK7.out.words 1 (by simp)
 have k2:W7.cell? ⟨g,2,none⟩=some (.string c):=by simpa using HK7.out.words 2 (by simp)
 have k3:W7.cell? ⟨g,3,none⟩=some (.string d):=by simpa using HK7.out.words 3 (by simp)
 have k4:W7.cell? ⟨g,4,none⟩=some (.string e):=by simpa using HK7.out.words 4 (by simp)
 have k5:W7.cell? ⟨g,5,none⟩=some (.string f):=by simpa using HK7.out.words 5 (by simp)
 go_upto_region 23 with fail;have HK8:Hid (PaK w g [a,b,c,d,e,f] (W7.setCell ⟨R,5,none⟩ (.int i64 (psB f)))):=HK7.out.set geR neR _;have s0:(W7.setCell ⟨R,5,none⟩ (.int i64 (psB f))).cell? ⟨R,0,none⟩=some (.int i64 (dcN a)):=(World.cell?_setCell_other _ _ _ _ (by simp)).trans r0;have s1:(W7.setCell ⟨R,5,none⟩ (.int i64 (psB f))).cell? ⟨R,1,none⟩=some (.int i64 (psM b)):=(World.cell?_setCell_other _ _ _ _ (by simp)).trans r1;have s2:(W7.setCell ⟨R,5,none⟩ (.int i64 (psB f))).cell? ⟨R,2,none⟩=some (.int i64 (psB b)):=(World.cell?_setCell_other _ _ _ _ (by simp)).trans r2;have s3:(W7.setCell ⟨R,5,none⟩ (.int i64 (psB f))).cell? ⟨R,3,none⟩=some (.int i64 (dcN d)):=(World.cell?_setCell_other _ _ _ _ (by simp)).trans r3;have s4:(W7.setCell ⟨R,5,none⟩ (.int i64 (psB f))).cell? ⟨R,4,none⟩=some (.int i64 (psM f)):=(World.cell?_setCell_other _ _ _ _ (by simp)).trans r4;have s5:(W7.setCell ⟨R,5,none⟩ (.int i64 (psB f))).cell? ⟨R,5,none⟩=some (.int i64 (psB f)):=World.cell?_setCell_same _ _ _ r5;have sf:∀k,(W7.setCell ⟨R,5,none⟩ (.int i64 (psB f))).frozen? ⟨R,k,none⟩=false:=by intro k;simpa using rf k
 have ltS:R<(W7.setCell ⟨R,5,none⟩ (.int i64 (psB f))).heap.size:=by simpa using ltR
 clear lt1 ltB gt1 q0 q1 q2 q3 q4 q5 qf k0 k1 k2 k3 k4 k5;clear r0 r1 r2 r3 r4 r5 rf ltR;clear y1 ltY
 generalize (W7.setCell ⟨R,5,none⟩ (.int i64 (psB f)))=W8 at *
 clear HK7;have r0:=s0;have r1:=s1;have r2:=s2;have r3:=s3;have r4:=s4;have r5:=s5;have rf:=sf;have ltR:=ltS;clear s0 s1 s2 s3 s4 s5 sf ltS;have lt1:=HK8.out.lt;have ltB:=HK8.out.ltB;have gt1:=HK8.out.gt;have q0:=HK8.out.c 0 (by omega);have q1:=HK8.out.c 1 (by omega);have q2:=HK8.out.c 2 (by omega);have q3:=HK8.out.c 3 (by omega);have q4:=HK8.out.c 4 (by omega);have q5:=HK8.out.c 5 (by omega);have qf:=HK8.out.f;have k0:W8.cell? ⟨g,0,none⟩=some (.string a):=by simpa using HK8.out.words 0 (by simp)
 have k1:W8.cell? ⟨g,1,none⟩=some (.string b):=by simpa using HK8.out.words 1 (by simp)
 have k2:W8.cell? ⟨g,2,none⟩=some (.string c):=by simpa using HK8.out.words 2 (by simp)
 have k3:W8.cell? ⟨g,3,none⟩=some (.string d):=by simpa using HK8.out.words 3 (by simp)
 have k4:W8.cell? ⟨g,4,none⟩=some (.string e):=by simpa using HK8.out.words 4 (by simp)
 have k5:W8.cell? ⟨g,5,none⟩=some (.string f):=by simpa using HK8.out.words 5 (by simp)
 go_wp2_with fail
 refine (refRule_any _ _ _ _ _ _ _).mono ?_;rintro e w5 ⟨rfl,hb5⟩;have HK5:Hid (PaK w g [a,b,c,d,e,f] w5):=HK8.out.later hb5;clear lt1 ltB gt1 q0 q1 q2 q3 q4 q5 qf k0 k1 k2 k3 k4 k5;have t0:=cell_later hb5 r0;have t1:=cell_later hb5 r1;have t2:=cell_later hb5 r2;have t3:=cell_later hb5 r3;have t4:=cell_later hb5 r4;have t5:=cell_later hb5 r5;have ltT:R<w5.heap.size:=Nat.lt_of_lt_of_le ltR hb5.size;clear hb5 r0 r1 r2 r3 r4 r5 rf ltR;have lt1:=HK5.out.lt;have ltB:=HK5.out.ltB;have gt1:=HK5.out.gt;have q0:=HK5.out.c 0 (by omega);have q1:=HK5.out.c 1 (by omega);have q2:=HK5.out.c 2 (by omega);have q3:=HK5.out.c 3 (by omega);have q4:=HK5.out.c 4 (by omega);have q5:=HK5.out.c 5 (by omega);have qf:=HK5.out.f;have k0:w5.cell? ⟨g,0,none⟩=some (.string a):=by simpa using HK5.out.words 0 (by simp)
 have k1:w5.cell? ⟨g,1,none⟩=some (.string b):=by simpa using HK5.out.words 1 (by simp)
 have k2:w5.cell? ⟨g,2,none⟩=some (.string c):=by simpa using HK5.out.words 2 (by simp)
 have k3:w5.cell? ⟨g,3,none⟩=some (.string d):=by simpa using HK5.out.words 3 (by simp)
 have k4:w5.cell? ⟨g,4,none⟩=some (.string e):=by simpa using HK5.out.words 4 (by simp)
 have k5:w5.cell? ⟨g,5,none⟩=some (.string f):=by simpa using HK5.out.words 5 (by simp)
 rw[h9];go_wp2;refine bodyPost_ret (v:=.tuple #[.agg #[.int i64 (dcN a),.int i64 (psM b),.int i64 (psB b),.int i64 (dcN d),.int i64 (psM f),.int i64 (psB f)],.int i64 0]) (by simp[results,results30,go_sem, *]) rfl ⟨rfl,?_⟩;exact six HK5.out.below (nLQ _) _ _ _ _ _ _
end
end Go.Proofs.YtgddlpcacnolfaaGreatDoor
