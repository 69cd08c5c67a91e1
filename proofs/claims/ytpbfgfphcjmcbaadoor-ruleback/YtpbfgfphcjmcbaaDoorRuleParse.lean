/- What Parse of package rule answers, called with any text. -/
import Derived.Test.YtpbfgfphcjmcbaaDoorRuleDeed2
import Derived.Test.YtpbfgfphcjmcbaaDoorRuleCon
namespace Go.Proofs.YtpbfgfphcjmcbaaDoor
open Go.RowKit
set_option linter.unusedSimpArgs false

/-- Are these a rule's words, but for how great its numbers are? -/
def rdW : List ByteArray → Bool
  | a :: b :: c :: r => dcOk a && (psOk b && deOk (c :: r))
  | _ => false
def rP (ws : List ByteArray) : Int := dcN (ws.getD 0 ByteArray.empty)
def rM (ws : List ByteArray) : Int := psM (ws.getD 1 ByteArray.empty)
def rB (ws : List ByteArray) : Int := psB (ws.getD 1 ByteArray.empty)
def rO (ws : List ByteArray) : Int := deO (ws.drop 2)
def rS (ws : List ByteArray) : Int := deM (ws.drop 2)
def rV (ws : List ByteArray) : Int := deB (ws.drop 2)
/-- The fault's number of a rule's words. -/
def paN (ws : List ByteArray) : Int := if rdW ws then ruN (rP ws) (rM ws) (rB ws) (rO ws) (rS ws) (rV ws) else 2
theorem paN_no {ws : List ByteArray} (h : rdW ws = false) : paN ws = 2 := by simp [paN, h]
theorem paN_yes {ws : List ByteArray} (h : rdW ws = true) : paN ws = ruN (rP ws) (rM ws) (rB ws) (rO ws) (rS ws) (rV ws) := by simp [paN, h]

/-- The rule that a text is read as: none where it is faulty. -/
def paV (ws : List ByteArray) : Value :=
  if paN ws = 0 then .agg #[.int .i64 (rP ws), .int .i64 (rM ws), .int .i64 (rB ws), .int .i64 (rO ws), .int .i64 (rS ws), .int .i64 (rV ws)] else .agg #[.int .i64 0, .int .i64 0, .int .i64 0, .int .i64 0, .int .i64 0, .int .i64 0]
theorem paV_no {ws : List ByteArray} (h : paN ws ≠ 0) : paV ws = .agg #[.int .i64 0, .int .i64 0, .int .i64 0, .int .i64 0, .int .i64 0, .int .i64 0] := by simp [paV, h]
theorem paV_yes {ws : List ByteArray} (h : paN ws = 0) : paV ws = .agg #[.int .i64 (rP ws), .int .i64 (rM ws), .int .i64 (rB ws), .int .i64 (rO ws), .int .i64 (rS ws), .int .i64 (rV ws)] := by simp [paV, h]

/-- The world of Parse: its result's block, the words behind it. -/
structure PaK (w : World) (B : Nat) (ws : List ByteArray) (w' : World) : Prop where
  below : Below w.heap.size w w'
  lt : w.heap.size < w'.heap.size
  gt : w.heap.size < B
  ltB : B < w'.heap.size
  c : ∀ k, k < 6 → w'.cell? ⟨w.heap.size, k, none⟩ = some (.int .i64 0)
  f : ∀ k, w'.frozen? ⟨w.heap.size, k, none⟩ = false
  words : WAt w' B 0 ws
theorem PaK.later {w w1 w2 : World} {B : Nat} {ws : List ByteArray} (h : PaK w B ws w1) (hb : Below w1.heap.size w1 w2) : PaK w B ws w2 :=
  ⟨h.below.trans (hb.mono h.below.size), Nat.lt_of_lt_of_le h.lt hb.size, h.gt, Nat.lt_of_lt_of_le h.ltB hb.size, fun k hk => cell_later hb (h.c k hk), fun k => (hb.frozen (p := ⟨w.heap.size, k, none⟩) h.lt).trans (h.f k), h.words.later hb⟩
theorem PaK.alloc {w w1 : World} {B : Nat} {ws : List ByteArray} (h : PaK w B ws w1) (o : Obj) : PaK w B ws (w1.alloc o) := h.later ((Below.refl _ _).alloc (Nat.le_refl _) o)
theorem PaK.start (s : ByteArray) (w w1 : World) {o : Obj} (ho : o = Obj.cells #[Value.int IntKind.i64 0, Value.int IntKind.i64 0, Value.int IntKind.i64 0, Value.int IntKind.i64 0, Value.int IntKind.i64 0, Value.int IntKind.i64 0] 25)
    (hb : Below (w.alloc o).heap.size (w.alloc o) w1) (hlt : (w.alloc o).heap.size < w1.heap.size) (hW : WAt w1 (w.alloc o).heap.size 0 (cutB 6 s)) : PaK w (w.heap.size + 1) (cutB 6 s) w1 := by
  have hs : (w.alloc o).heap.size = w.heap.size + 1 := by simp
  subst ho
  refine ⟨below_new _ hb, by omega, by omega, by omega, fun k hk => ?_, fun k => ?_, by rw [hs] at hW; exact hW⟩
  · rw [hb.cell (p := ⟨w.heap.size, k, none⟩) (by simp)]
    rcases (by omega : k = 0 ∨ k = 1 ∨ k = 2 ∨ k = 3 ∨ k = 4 ∨ k = 5) with rfl | rfl | rfl | rfl | rfl | rfl <;> simp
  · rw [hb.frozen (p := ⟨w.heap.size, k, none⟩) (by simp)]
    simp

theorem six {B b : Nat} {w w1 : World} (h : Below B w w1) (hb : B ≤ b) (v0 v1 v2 v3 v4 v5 : Value) :
    Below B w ((((((w1.setCell ⟨b, 0, none⟩ v0).setCell ⟨b, 1, none⟩ v1).setCell ⟨b, 2, none⟩ v2).setCell ⟨b, 3, none⟩ v3).setCell ⟨b, 4, none⟩ v4).setCell ⟨b, 5, none⟩ v5) :=
  (((((h.setCell (by simpa using hb) _).setCell (by simpa using hb) _).setCell (by simpa using hb) _).setCell (by simpa using hb) _).setCell (by simpa using hb) _).setCell (by simpa using hb) _

set_option maxHeartbeats 1000000 in
theorem ruParse_short (s : ByteArray) (w : World) (hs : s.size < 4611686018427387904) (ws : List ByteArray) (n : Nat) (hws : cutB 6 s = ws) (hn : ws.length = n) (h1 : 1 ≤ n) (h2 : n < 3) :
    Calls Tryd.prog 4 #[.string s] w fun e w' => e = .returned (.tuple #[.agg #[.int .i64 0, .int .i64 0, .int .i64 0, .int .i64 0, .int .i64 0, .int .i64 0], .iface 40 (.int .i64 2)]) ∧ Below w.heap.size w w' := by
  go_enter Tryd.func4, Tryd.ntmps4
  go_wp2_with fail
  refine (splitN_any s _ hs).mono ?_
  rintro e w1 ⟨cap, rfl, hcap, hcap7, hW, hb1⟩
  have hlt1 : (w.alloc (Obj.cells #[Value.int IntKind.i64 0, Value.int IntKind.i64 0, Value.int IntKind.i64 0, Value.int IntKind.i64 0, Value.int IntKind.i64 0, Value.int IntKind.i64 0] 25)).heap.size < w1.heap.size :=
    World.block_lt_of_cell? _ _ (hW 0 (by rw [hws, hn]; omega))
  have hK := PaK.start s w w1 rfl hb1 hlt1 hW
  rw [hws] at hcap hK ⊢
  rw [hn] at hcap ⊢
  have ek : (w.alloc (Obj.cells #[Value.int IntKind.i64 0, Value.int IntKind.i64 0, Value.int IntKind.i64 0, Value.int IntKind.i64 0, Value.int IntKind.i64 0, Value.int IntKind.i64 0] 25)).heap.size = w.heap.size + 1 := by simp
  rw [ek]
  clear hW hb1 hlt1 ek
  have HK : Hid (PaK w (w.heap.size + 1) ws w1) := hK
  have lt1 := hK.lt
  have q0 := hK.c 0 (by omega)
  have q1 := hK.c 1 (by omega)
  have q2 := hK.c 2 (by omega)
  have q3 := hK.c 3 (by omega)
  have q4 := hK.c 4 (by omega)
  have q5 := hK.c 5 (by omega)
  have qf := hK.f
  have e3 : decide ((n : Int) < 3) = true := by simp; omega
  clear hK hws hn
  go_wp2
  refine bodyPost_ret (v := .tuple #[.agg #[.int .i64 0, .int .i64 0, .int .i64 0, .int .i64 0, .int .i64 0, .int .i64 0], .iface 40 (.int .i64 2)]) (by simp [results, Tryd.results4, go_sem, *]) rfl ⟨rfl, ?_⟩
  exact six HK.out.below (Nat.le_refl _) _ _ _ _ _ _

set_option maxHeartbeats 1000000 in
theorem ruParse_num (s : ByteArray) (w : World) (hs : s.size < 4611686018427387904) (a b c : ByteArray) (r : List ByteArray) (n : Nat) (hws : cutB 6 s = a :: b :: c :: r) (hn : r.length = n) (h1 : dcOk a = false) :
    Calls Tryd.prog 4 #[.string s] w fun e w' => e = .returned (.tuple #[.agg #[.int .i64 0, .int .i64 0, .int .i64 0, .int .i64 0, .int .i64 0, .int .i64 0], .iface 40 (.int .i64 2)]) ∧ Below w.heap.size w w' := by
  go_enter Tryd.func4, Tryd.ntmps4
  go_wp2_with fail
  refine (splitN_any s _ hs).mono ?_
  rintro e w1 ⟨cap, rfl, hcap, hcap7, hW, hb1⟩
  have hlt1 : (w.alloc (Obj.cells #[Value.int IntKind.i64 0, Value.int IntKind.i64 0, Value.int IntKind.i64 0, Value.int IntKind.i64 0, Value.int IntKind.i64 0, Value.int IntKind.i64 0] 25)).heap.size < w1.heap.size :=
    World.block_lt_of_cell? _ _ (hW 0 (by rw [hws]; simp))
  have hK := PaK.start s w w1 rfl hb1 hlt1 hW
  rw [hws] at hcap hK ⊢
  have ek : (w.alloc (Obj.cells #[Value.int IntKind.i64 0, Value.int IntKind.i64 0, Value.int IntKind.i64 0, Value.int IntKind.i64 0, Value.int IntKind.i64 0, Value.int IntKind.i64 0] 25)).heap.size = w.heap.size + 1 := by simp
  rw [ek]
  clear hW hb1 hlt1 ek
  have hln : (a :: b :: c :: r).length = n + 3 := by simp [hn]
  rw [hln] at hcap ⊢
  have HK : Hid (PaK w (w.heap.size + 1) (a :: b :: c :: r) w1) := hK
  have lt1 := hK.lt
  have q0 := hK.c 0 (by omega)
  have q1 := hK.c 1 (by omega)
  have q2 := hK.c 2 (by omega)
  have q3 := hK.c 3 (by omega)
  have q4 := hK.c 4 (by omega)
  have q5 := hK.c 5 (by omega)
  have qf := hK.f
  have k0 := hK.words.head
  have k1 := hK.words.tail.head
  have ltB := hK.ltB
  clear hws hln
  have e3 : decide ((n : Int) + 3 < 3) = false := by simp; omega
  clear hK
  go_wp2_with fail
  refine (dec_any _ _).mono ?_
  rintro e w' ⟨rfl, rfl⟩
  rw [h1]
  go_wp2
  refine bodyPost_ret (v := .tuple #[.agg #[.int .i64 0, .int .i64 0, .int .i64 0, .int .i64 0, .int .i64 0, .int .i64 0], .iface 40 (.int .i64 2)]) (by simp [results, Tryd.results4, go_sem, *]) rfl ⟨rfl, ?_⟩
  exact six HK.out.below (Nat.le_refl _) _ _ _ _ _ _

set_option maxHeartbeats 1000000 in
theorem ruParse_cube (s : ByteArray) (w : World) (hs : s.size < 4611686018427387904) (a b c : ByteArray) (r : List ByteArray) (n : Nat) (hws : cutB 6 s = a :: b :: c :: r) (hn : r.length = n) (h1 : dcOk a = true) (h2 : psOk b = false) :
    Calls Tryd.prog 4 #[.string s] w fun e w' => e = .returned (.tuple #[.agg #[.int .i64 0, .int .i64 0, .int .i64 0, .int .i64 0, .int .i64 0, .int .i64 0], .iface 40 (.int .i64 2)]) ∧ Below w.heap.size w w' := by
  go_enter Tryd.func4, Tryd.ntmps4
  go_wp2_with fail
  refine (splitN_any s _ hs).mono ?_
  rintro e w1 ⟨cap, rfl, hcap, hcap7, hW, hb1⟩
  have hlt1 : (w.alloc (Obj.cells #[Value.int IntKind.i64 0, Value.int IntKind.i64 0, Value.int IntKind.i64 0, Value.int IntKind.i64 0, Value.int IntKind.i64 0, Value.int IntKind.i64 0] 25)).heap.size < w1.heap.size :=
    World.block_lt_of_cell? _ _ (hW 0 (by rw [hws]; simp))
  have hK := PaK.start s w w1 rfl hb1 hlt1 hW
  rw [hws] at hcap hK ⊢
  have ek : (w.alloc (Obj.cells #[Value.int IntKind.i64 0, Value.int IntKind.i64 0, Value.int IntKind.i64 0, Value.int IntKind.i64 0, Value.int IntKind.i64 0, Value.int IntKind.i64 0] 25)).heap.size = w.heap.size + 1 := by simp
  rw [ek]
  clear hW hb1 hlt1 ek
  have hln : (a :: b :: c :: r).length = n + 3 := by simp [hn]
  rw [hln] at hcap ⊢
  have HK : Hid (PaK w (w.heap.size + 1) (a :: b :: c :: r) w1) := hK
  have lt1 := hK.lt
  have q0 := hK.c 0 (by omega)
  have q1 := hK.c 1 (by omega)
  have q2 := hK.c 2 (by omega)
  have q3 := hK.c 3 (by omega)
  have q4 := hK.c 4 (by omega)
  have q5 := hK.c 5 (by omega)
  have qf := hK.f
  have k0 := hK.words.head
  have k1 := hK.words.tail.head
  have ltB := hK.ltB
  clear hws hln
  have e3 : decide ((n : Int) + 3 < 3) = false := by simp; omega
  clear hK
  go_wp2_with fail
  refine (dec_any _ _).mono ?_
  rintro e w' ⟨rfl, rfl⟩
  rw [h1]
  go_wp2_with fail
  refine (parse_no _ _ h2).mono ?_
  rintro e w2 ⟨rfl, hb2⟩
  have HK2 : Hid (PaK w (w.heap.size + 1) (a :: b :: c :: r) w2) := HK.out.later hb2
  clear hb2
  clear q0 q1 q2 q3 q4 q5 qf
  have lt2 := HK2.out.lt
  have q0 := HK2.out.c 0 (by omega)
  have q1 := HK2.out.c 1 (by omega)
  have q2 := HK2.out.c 2 (by omega)
  have q3 := HK2.out.c 3 (by omega)
  have q4 := HK2.out.c 4 (by omega)
  have q5 := HK2.out.c 5 (by omega)
  have qf := HK2.out.f
  go_wp2
  refine bodyPost_ret (v := .tuple #[.agg #[.int .i64 0, .int .i64 0, .int .i64 0, .int .i64 0, .int .i64 0, .int .i64 0], .iface 40 (.int .i64 2)]) (by simp [results, Tryd.results4, go_sem, *]) rfl ⟨rfl, ?_⟩
  exact Below.alloc (six HK2.out.below (Nat.le_refl _) _ _ _ _ _ _) (by simp <;> omega) _

set_option maxHeartbeats 1000000 in
theorem ruParse_deed (s : ByteArray) (w : World) (hs : s.size < 4611686018427387904) (a b c : ByteArray) (r : List ByteArray) (n : Nat) (hws : cutB 6 s = a :: b :: c :: r) (hn : r.length = n) (h1 : dcOk a = true) (h2 : psOk b = true) (h3 : deOk (c :: r) = false) :
    Calls Tryd.prog 4 #[.string s] w fun e w' => e = .returned (.tuple #[.agg #[.int .i64 0, .int .i64 0, .int .i64 0, .int .i64 0, .int .i64 0, .int .i64 0], .iface 40 (.int .i64 2)]) ∧ Below w.heap.size w w' := by
  go_enter Tryd.func4, Tryd.ntmps4
  go_wp2_with fail
  refine (splitN_any s _ hs).mono ?_
  rintro e w1 ⟨cap, rfl, hcap, hcap7, hW, hb1⟩
  have hlt1 : (w.alloc (Obj.cells #[Value.int IntKind.i64 0, Value.int IntKind.i64 0, Value.int IntKind.i64 0, Value.int IntKind.i64 0, Value.int IntKind.i64 0, Value.int IntKind.i64 0] 25)).heap.size < w1.heap.size :=
    World.block_lt_of_cell? _ _ (hW 0 (by rw [hws]; simp))
  have hK := PaK.start s w w1 rfl hb1 hlt1 hW
  rw [hws] at hcap hK ⊢
  have ek : (w.alloc (Obj.cells #[Value.int IntKind.i64 0, Value.int IntKind.i64 0, Value.int IntKind.i64 0, Value.int IntKind.i64 0, Value.int IntKind.i64 0, Value.int IntKind.i64 0] 25)).heap.size = w.heap.size + 1 := by simp
  rw [ek]
  clear hW hb1 hlt1 ek
  have hln : (a :: b :: c :: r).length = n + 3 := by simp [hn]
  rw [hln] at hcap ⊢
  have HK : Hid (PaK w (w.heap.size + 1) (a :: b :: c :: r) w1) := hK
  have lt1 := hK.lt
  have q0 := hK.c 0 (by omega)
  have q1 := hK.c 1 (by omega)
  have q2 := hK.c 2 (by omega)
  have q3 := hK.c 3 (by omega)
  have q4 := hK.c 4 (by omega)
  have q5 := hK.c 5 (by omega)
  have qf := hK.f
  have k0 := hK.words.head
  have k1 := hK.words.tail.head
  have ltB := hK.ltB
  clear hws hln
  have e3 : decide ((n : Int) + 3 < 3) = false := by simp; omega
  have hdW : WAt w1 (w.heap.size + 1) (0 + 1 + 1) (c :: r) := hK.words.tail.tail
  have hdl : (c :: r).length = n + 1 := by simp [hn]
  clear hK
  go_wp2_with fail
  refine (dec_any _ _).mono ?_
  rintro e w' ⟨rfl, rfl⟩
  rw [h1]
  go_wp2_with fail
  refine (parse_yes _ _ h2).mono ?_
  rintro e w2 ⟨rfl, hb2⟩
  have hdW2 := (hdW.later hb2).later ((Below.refl _ _).alloc (Nat.le_refl _) (Obj.cells #[Value.int IntKind.i64 (psM b), Value.int IntKind.i64 (psB b)] 23))
  have HK2 : Hid (PaK w (w.heap.size + 1) (a :: b :: c :: r) w2) := HK.out.later hb2
  have lt2 := HK2.out.lt
  clear hb2 hdW
  go_wp2_with fail
  refine (deed_any (c :: r) (n + 1) _ _ _ _ hdW2 hdl (by omega)).mono ?_
  rintro e w3 ⟨⟨x, m, y, rfl, hv⟩, hb3⟩
  have HK3 : Hid (PaK w (w.heap.size + 1) (a :: b :: c :: r) w3) := (HK2.out.alloc _).later hb3
  have o0 : w3.cell? ⟨w2.heap.size, 0, none⟩ = some (.int .i64 (psM b)) := cell_later hb3 (by simp)
  have o1 : w3.cell? ⟨w2.heap.size, 1, none⟩ = some (.int .i64 (psB b)) := cell_later hb3 (by simp)
  have ltO : w2.heap.size < w3.heap.size := by have := hb3.size; simp at this; omega
  clear hb3 hdW2 hdl
  rw [h3]
  clear q0 q1 q2 q3 q4 q5 qf
  have lt3 := HK3.out.lt
  have q0 := HK3.out.c 0 (by omega)
  have q1 := HK3.out.c 1 (by omega)
  have q2 := HK3.out.c 2 (by omega)
  have q3 := HK3.out.c 3 (by omega)
  have q4 := HK3.out.c 4 (by omega)
  have q5 := HK3.out.c 5 (by omega)
  have qf := HK3.out.f
  clear hv o0 o1
  go_wp2
  refine bodyPost_ret (v := .tuple #[.agg #[.int .i64 0, .int .i64 0, .int .i64 0, .int .i64 0, .int .i64 0, .int .i64 0], .iface 40 (.int .i64 2)]) (by simp [results, Tryd.results4, go_sem, *]) rfl ⟨rfl, ?_⟩
  exact Below.alloc (six HK3.out.below (Nat.le_refl _) _ _ _ _ _ _) (by simp <;> omega) _

set_option maxHeartbeats 1000000 in
theorem ruParse_range (s : ByteArray) (w : World) (hs : s.size < 4611686018427387904) (a b c : ByteArray) (r : List ByteArray) (n : Nat) (hws : cutB 6 s = a :: b :: c :: r) (hn : r.length = n) (h1 : dcOk a = true) (h2 : psOk b = true) (h3 : deOk (c :: r) = true) (h4 : ruN (dcN a) (psM b) (psB b) (deO (c :: r)) (deM (c :: r)) (deB (c :: r)) ≠ 0) :
    Calls Tryd.prog 4 #[.string s] w fun e w' => e = .returned (.tuple #[.agg #[.int .i64 0, .int .i64 0, .int .i64 0, .int .i64 0, .int .i64 0, .int .i64 0], .iface 40 (.int .i64 (ruN (dcN a) (psM b) (psB b) (deO (c :: r)) (deM (c :: r)) (deB (c :: r))))]) ∧ Below w.heap.size w w' := by
  go_enter Tryd.func4, Tryd.ntmps4
  go_wp2_with fail
  refine (splitN_any s _ hs).mono ?_
  rintro e w1 ⟨cap, rfl, hcap, hcap7, hW, hb1⟩
  have hlt1 : (w.alloc (Obj.cells #[Value.int IntKind.i64 0, Value.int IntKind.i64 0, Value.int IntKind.i64 0, Value.int IntKind.i64 0, Value.int IntKind.i64 0, Value.int IntKind.i64 0] 25)).heap.size < w1.heap.size :=
    World.block_lt_of_cell? _ _ (hW 0 (by rw [hws]; simp))
  have hK := PaK.start s w w1 rfl hb1 hlt1 hW
  rw [hws] at hcap hK ⊢
  have ek : (w.alloc (Obj.cells #[Value.int IntKind.i64 0, Value.int IntKind.i64 0, Value.int IntKind.i64 0, Value.int IntKind.i64 0, Value.int IntKind.i64 0, Value.int IntKind.i64 0] 25)).heap.size = w.heap.size + 1 := by simp
  rw [ek]
  clear hW hb1 hlt1 ek
  have hln : (a :: b :: c :: r).length = n + 3 := by simp [hn]
  rw [hln] at hcap ⊢
  have HK : Hid (PaK w (w.heap.size + 1) (a :: b :: c :: r) w1) := hK
  have lt1 := hK.lt
  have q0 := hK.c 0 (by omega)
  have q1 := hK.c 1 (by omega)
  have q2 := hK.c 2 (by omega)
  have q3 := hK.c 3 (by omega)
  have q4 := hK.c 4 (by omega)
  have q5 := hK.c 5 (by omega)
  have qf := hK.f
  have k0 := hK.words.head
  have k1 := hK.words.tail.head
  have ltB := hK.ltB
  clear hws hln
  have e3 : decide ((n : Int) + 3 < 3) = false := by simp; omega
  have hdW : WAt w1 (w.heap.size + 1) (0 + 1 + 1) (c :: r) := hK.words.tail.tail
  have hdl : (c :: r).length = n + 1 := by simp [hn]
  clear hK
  go_wp2_with fail
  refine (dec_any _ _).mono ?_
  rintro e w' ⟨rfl, rfl⟩
  rw [h1]
  go_wp2_with fail
  refine (parse_yes _ _ h2).mono ?_
  rintro e w2 ⟨rfl, hb2⟩
  have hdW2 := (hdW.later hb2).later ((Below.refl _ _).alloc (Nat.le_refl _) (Obj.cells #[Value.int IntKind.i64 (psM b), Value.int IntKind.i64 (psB b)] 23))
  have HK2 : Hid (PaK w (w.heap.size + 1) (a :: b :: c :: r) w2) := HK.out.later hb2
  have lt2 := HK2.out.lt
  clear hb2 hdW
  go_wp2_with fail
  refine (deed_any (c :: r) (n + 1) _ _ _ _ hdW2 hdl (by omega)).mono ?_
  rintro e w3 ⟨⟨x, m, y, rfl, hv⟩, hb3⟩
  have HK3 : Hid (PaK w (w.heap.size + 1) (a :: b :: c :: r) w3) := (HK2.out.alloc _).later hb3
  have o0 : w3.cell? ⟨w2.heap.size, 0, none⟩ = some (.int .i64 (psM b)) := cell_later hb3 (by simp)
  have o1 : w3.cell? ⟨w2.heap.size, 1, none⟩ = some (.int .i64 (psB b)) := cell_later hb3 (by simp)
  have ltO : w2.heap.size < w3.heap.size := by have := hb3.size; simp at this; omega
  clear hb3 hdW2 hdl
  rw [h3]
  clear q0 q1 q2 q3 q4 q5 qf
  have lt3 := HK3.out.lt
  have q0 := HK3.out.c 0 (by omega)
  have q1 := HK3.out.c 1 (by omega)
  have q2 := HK3.out.c 2 (by omega)
  have q3 := HK3.out.c 3 (by omega)
  have q4 := HK3.out.c 4 (by omega)
  have q5 := HK3.out.c 5 (by omega)
  have qf := HK3.out.f
  obtain ⟨rfl, rfl, rfl⟩ := hv h3
  go_wp2_with fail
  refine (ruCheck_any _ _ _ _ _ _ _).mono ?_
  rintro e w4 ⟨rfl, hb4⟩
  rw [no_ne h4]
  have HK4 : Hid (PaK w (w.heap.size + 1) (a :: b :: c :: r) w4) := ((HK3.out.alloc _).alloc _).later hb4
  have n0 : w4.cell? ⟨w3.heap.size + 1, 0, none⟩ = some (.int .i64 (dcN a)) := cell_later hb4 (by simp)
  have n1 : w4.cell? ⟨w3.heap.size + 1, 1, none⟩ = some (.int .i64 (psM b)) := cell_later hb4 (by simp)
  have n2 : w4.cell? ⟨w3.heap.size + 1, 2, none⟩ = some (.int .i64 (psB b)) := cell_later hb4 (by simp)
  have n3 : w4.cell? ⟨w3.heap.size + 1, 3, none⟩ = some (.int .i64 (deO (c :: r))) := cell_later hb4 (by simp)
  have n4 : w4.cell? ⟨w3.heap.size + 1, 4, none⟩ = some (.int .i64 (deM (c :: r))) := cell_later hb4 (by simp)
  have n5 : w4.cell? ⟨w3.heap.size + 1, 5, none⟩ = some (.int .i64 (deB (c :: r))) := cell_later hb4 (by simp)
  have ltN : w3.heap.size + 1 < w4.heap.size := by have := hb4.size; simp at this; omega
  clear hb4 o0 o1
  clear q0 q1 q2 q3 q4 q5 qf
  have lt4 := HK4.out.lt
  have q0 := HK4.out.c 0 (by omega)
  have q1 := HK4.out.c 1 (by omega)
  have q2 := HK4.out.c 2 (by omega)
  have q3 := HK4.out.c 3 (by omega)
  have q4 := HK4.out.c 4 (by omega)
  have q5 := HK4.out.c 5 (by omega)
  have qf := HK4.out.f
  go_wp2
  refine bodyPost_ret (v := .tuple #[.agg #[.int .i64 0, .int .i64 0, .int .i64 0, .int .i64 0, .int .i64 0, .int .i64 0], .iface 40 (.int .i64 (ruN (dcN a) (psM b) (psB b) (deO (c :: r)) (deM (c :: r)) (deB (c :: r))))]) (by simp [results, Tryd.results4, go_sem, *]) rfl ⟨rfl, ?_⟩
  exact six HK4.out.below (Nat.le_refl _) _ _ _ _ _ _

set_option maxHeartbeats 1000000 in
theorem ruParse_good (s : ByteArray) (w : World) (hs : s.size < 4611686018427387904) (a b c : ByteArray) (r : List ByteArray) (n : Nat) (hws : cutB 6 s = a :: b :: c :: r) (hn : r.length = n) (h1 : dcOk a = true) (h2 : psOk b = true) (h3 : deOk (c :: r) = true) (h4 : ruN (dcN a) (psM b) (psB b) (deO (c :: r)) (deM (c :: r)) (deB (c :: r)) = 0) :
    Calls Tryd.prog 4 #[.string s] w fun e w' => e = .returned (.tuple #[.agg #[.int .i64 (dcN a), .int .i64 (psM b), .int .i64 (psB b), .int .i64 (deO (c :: r)), .int .i64 (deM (c :: r)), .int .i64 (deB (c :: r))], .nilIface]) ∧ Below w.heap.size w w' := by
  go_enter Tryd.func4, Tryd.ntmps4
  go_wp2_with fail
  refine (splitN_any s _ hs).mono ?_
  rintro e w1 ⟨cap, rfl, hcap, hcap7, hW, hb1⟩
  have hlt1 : (w.alloc (Obj.cells #[Value.int IntKind.i64 0, Value.int IntKind.i64 0, Value.int IntKind.i64 0, Value.int IntKind.i64 0, Value.int IntKind.i64 0, Value.int IntKind.i64 0] 25)).heap.size < w1.heap.size :=
    World.block_lt_of_cell? _ _ (hW 0 (by rw [hws]; simp))
  have hK := PaK.start s w w1 rfl hb1 hlt1 hW
  rw [hws] at hcap hK ⊢
  have ek : (w.alloc (Obj.cells #[Value.int IntKind.i64 0, Value.int IntKind.i64 0, Value.int IntKind.i64 0, Value.int IntKind.i64 0, Value.int IntKind.i64 0, Value.int IntKind.i64 0] 25)).heap.size = w.heap.size + 1 := by simp
  rw [ek]
  clear hW hb1 hlt1 ek
  have hln : (a :: b :: c :: r).length = n + 3 := by simp [hn]
  rw [hln] at hcap ⊢
  have HK : Hid (PaK w (w.heap.size + 1) (a :: b :: c :: r) w1) := hK
  have lt1 := hK.lt
  have q0 := hK.c 0 (by omega)
  have q1 := hK.c 1 (by omega)
  have q2 := hK.c 2 (by omega)
  have q3 := hK.c 3 (by omega)
  have q4 := hK.c 4 (by omega)
  have q5 := hK.c 5 (by omega)
  have qf := hK.f
  have k0 := hK.words.head
  have k1 := hK.words.tail.head
  have ltB := hK.ltB
  clear hws hln
  have e3 : decide ((n : Int) + 3 < 3) = false := by simp; omega
  have hdW : WAt w1 (w.heap.size + 1) (0 + 1 + 1) (c :: r) := hK.words.tail.tail
  have hdl : (c :: r).length = n + 1 := by simp [hn]
  clear hK
  go_wp2_with fail
  refine (dec_any _ _).mono ?_
  rintro e w' ⟨rfl, rfl⟩
  rw [h1]
  go_wp2_with fail
  refine (parse_yes _ _ h2).mono ?_
  rintro e w2 ⟨rfl, hb2⟩
  have hdW2 := (hdW.later hb2).later ((Below.refl _ _).alloc (Nat.le_refl _) (Obj.cells #[Value.int IntKind.i64 (psM b), Value.int IntKind.i64 (psB b)] 23))
  have HK2 : Hid (PaK w (w.heap.size + 1) (a :: b :: c :: r) w2) := HK.out.later hb2
  have lt2 := HK2.out.lt
  clear hb2 hdW
  go_wp2_with fail
  refine (deed_any (c :: r) (n + 1) _ _ _ _ hdW2 hdl (by omega)).mono ?_
  rintro e w3 ⟨⟨x, m, y, rfl, hv⟩, hb3⟩
  have HK3 : Hid (PaK w (w.heap.size + 1) (a :: b :: c :: r) w3) := (HK2.out.alloc _).later hb3
  have o0 : w3.cell? ⟨w2.heap.size, 0, none⟩ = some (.int .i64 (psM b)) := cell_later hb3 (by simp)
  have o1 : w3.cell? ⟨w2.heap.size, 1, none⟩ = some (.int .i64 (psB b)) := cell_later hb3 (by simp)
  have ltO : w2.heap.size < w3.heap.size := by have := hb3.size; simp at this; omega
  clear hb3 hdW2 hdl
  rw [h3]
  clear q0 q1 q2 q3 q4 q5 qf
  have lt3 := HK3.out.lt
  have q0 := HK3.out.c 0 (by omega)
  have q1 := HK3.out.c 1 (by omega)
  have q2 := HK3.out.c 2 (by omega)
  have q3 := HK3.out.c 3 (by omega)
  have q4 := HK3.out.c 4 (by omega)
  have q5 := HK3.out.c 5 (by omega)
  have qf := HK3.out.f
  obtain ⟨rfl, rfl, rfl⟩ := hv h3
  go_wp2_with fail
  refine (ruCheck_any _ _ _ _ _ _ _).mono ?_
  rintro e w4 ⟨rfl, hb4⟩
  rw [no_ok h4]
  have HK4 : Hid (PaK w (w.heap.size + 1) (a :: b :: c :: r) w4) := ((HK3.out.alloc _).alloc _).later hb4
  have n0 : w4.cell? ⟨w3.heap.size + 1, 0, none⟩ = some (.int .i64 (dcN a)) := cell_later hb4 (by simp)
  have n1 : w4.cell? ⟨w3.heap.size + 1, 1, none⟩ = some (.int .i64 (psM b)) := cell_later hb4 (by simp)
  have n2 : w4.cell? ⟨w3.heap.size + 1, 2, none⟩ = some (.int .i64 (psB b)) := cell_later hb4 (by simp)
  have n3 : w4.cell? ⟨w3.heap.size + 1, 3, none⟩ = some (.int .i64 (deO (c :: r))) := cell_later hb4 (by simp)
  have n4 : w4.cell? ⟨w3.heap.size + 1, 4, none⟩ = some (.int .i64 (deM (c :: r))) := cell_later hb4 (by simp)
  have n5 : w4.cell? ⟨w3.heap.size + 1, 5, none⟩ = some (.int .i64 (deB (c :: r))) := cell_later hb4 (by simp)
  have ltN : w3.heap.size + 1 < w4.heap.size := by have := hb4.size; simp at this; omega
  clear hb4 o0 o1
  clear q0 q1 q2 q3 q4 q5 qf
  have lt4 := HK4.out.lt
  have q0 := HK4.out.c 0 (by omega)
  have q1 := HK4.out.c 1 (by omega)
  have q2 := HK4.out.c 2 (by omega)
  have q3 := HK4.out.c 3 (by omega)
  have q4 := HK4.out.c 4 (by omega)
  have q5 := HK4.out.c 5 (by omega)
  have qf := HK4.out.f
  go_wp2
  refine bodyPost_ret (v := .tuple #[.agg #[.int .i64 (dcN a), .int .i64 (psM b), .int .i64 (psB b), .int .i64 (deO (c :: r)), .int .i64 (deM (c :: r)), .int .i64 (deB (c :: r))], .nilIface]) (by simp [results, Tryd.results4, go_sem, *]) rfl ⟨rfl, ?_⟩
  exact six HK4.out.below (Nat.le_refl _) _ _ _ _ _ _

theorem ruParse_any (s : ByteArray) (w : World) (hs : s.size < 4611686018427387904) :
    Calls Tryd.prog 4 #[.string s] w fun e w' => e = .returned (.tuple #[paV (cutB 6 s), noV (paN (cutB 6 s))]) ∧ Below w.heap.size w w' := by
  have hl := (cut_len 6 s).2
  have bad : rdW (cutB 6 s) = false → paV (cutB 6 s) = .agg #[.int .i64 0, .int .i64 0, .int .i64 0, .int .i64 0, .int .i64 0, .int .i64 0] ∧ noV (paN (cutB 6 s)) = .iface 40 (.int .i64 2) := fun h => by
    have e := paN_no h
    exact ⟨paV_no (by rw [e]; decide), by rw [e]; rfl⟩
  match hws : cutB 6 s with
  | [] => rw [hws] at hl; simp at hl
  | [a] =>
    rw [hws] at bad
    obtain ⟨e1, e2⟩ := bad rfl
    rw [e1, e2]
    exact ruParse_short s w hs [a] 1 hws rfl (by omega) (by omega)
  | [a, b] =>
    rw [hws] at bad
    obtain ⟨e1, e2⟩ := bad rfl
    rw [e1, e2]
    exact ruParse_short s w hs [a, b] 2 hws rfl (by omega) (by omega)
  | a :: b :: c :: r =>
    rw [hws] at bad
    cases h1 : dcOk a
    · obtain ⟨e1, e2⟩ := bad (by simp [rdW, h1])
      rw [e1, e2]
      exact ruParse_num s w hs a b c r _ hws rfl h1
    · cases h2 : psOk b
      · obtain ⟨e1, e2⟩ := bad (by simp [rdW, h2])
        rw [e1, e2]
        exact ruParse_cube s w hs a b c r _ hws rfl h1 h2
      · cases h3 : deOk (c :: r)
        · obtain ⟨e1, e2⟩ := bad (by simp [rdW, h3])
          rw [e1, e2]
          exact ruParse_deed s w hs a b c r _ hws rfl h1 h2 h3
        · have e : paN (a :: b :: c :: r) = ruN (dcN a) (psM b) (psB b) (deO (c :: r)) (deM (c :: r)) (deB (c :: r)) := paN_yes (by simp [rdW, h1, h2, h3])
          by_cases h4 : ruN (dcN a) (psM b) (psB b) (deO (c :: r)) (deM (c :: r)) (deB (c :: r)) = 0
          · rw [paV_yes (by rw [e]; exact h4), e, no_ok h4]
            exact ruParse_good s w hs a b c r _ hws rfl h1 h2 h3 h4
          · rw [paV_no (by rw [e]; exact h4), e, no_ne h4]
            exact ruParse_range s w hs a b c r _ hws rfl h1 h2 h3 h4
end Go.Proofs.YtpbfgfphcjmcbaaDoor
