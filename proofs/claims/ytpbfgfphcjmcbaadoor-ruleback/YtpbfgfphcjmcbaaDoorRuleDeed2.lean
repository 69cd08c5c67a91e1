/- What deed of package rule answers, called with any words. -/
import Derived.Test.YtpbfgfphcjmcbaaDoorRuleDeed
namespace Go.Proofs.YtpbfgfphcjmcbaaDoor
open Go.RowKit
set_option linter.unusedSimpArgs false

/-- Are these the words behind a rule's cube? -/
def deOk : List ByteArray → Bool
  | [a] => a.toList == [100, 114, 111, 112]
  | [a, b] => (a.toList == [111, 117, 116]) && (dcOk b && !(dcN b == 0))
  | [a, b, c, d] => (a.toList == [111, 117, 116]) && ((dcOk b && !(dcN b == 0)) && ((c.toList == [115, 101, 116]) && (psOk d && !(psM d == 0))))
  | _ => false
def deO : List ByteArray → Int
  | _ :: b :: _ => dcN b
  | _ => 0
def deM : List ByteArray → Int
  | [_, _, _, d] => psM d
  | _ => 0
def deB : List ByteArray → Int
  | [_, _, _, d] => psB d
  | _ => 0

/-- What a call of deed answers. -/
def DeP (ws : List ByteArray) (w : World) (e : Ending) (w' : World) : Prop :=
  (∃ x m b : Int, e = .returned (.tuple #[.int .i64 x, .agg #[.int .i64 m, .int .i64 b], .bool (deOk ws)]) ∧ (deOk ws = true → x = deO ws ∧ m = deM ws ∧ b = deB ws)) ∧ Below w.heap.size w w'

set_option maxHeartbeats 1000000 in
theorem deed_1 (a : ByteArray) (b o cap : Nat) (w : World) (h : WAt w b o [a]) :
    Calls Tryd.prog 11 #[.slice (some ⟨b, o, none⟩) 1 cap] w (DeP [a] w) := by
  have c0 := h.head
  have hlt : b < w.heap.size := World.block_lt_of_cell? _ _ c0
  have e1 : deOk [a] = (a.toList == [100, 114, 111, 112]) := rfl
  clear h
  go_enter Tryd.func11, Tryd.ntmps11
  go_wp2
  go_region
  all_goals
    go_wp2
    refine bodyPost_ret (v := .tuple #[.int .i64 0, .agg #[.int .i64 0, .int .i64 0], .bool (a.toList == [100, 114, 111, 112])]) (by simp [results, Tryd.results11, go_sem]) rfl ⟨⟨0, 0, 0, by rw [e1], fun _ => ⟨rfl, rfl, rfl⟩⟩, ?_⟩
    repeat (first | exact (Below.refl _ _).alloc (Nat.le_refl _) _ | apply Below.drew)

/-- A world with one block more, behind calls that leave it. -/
theorem below_new {w w1 : World} (o : Obj) (hb : Below (w.alloc o).heap.size (w.alloc o) w1) : Below w.heap.size w w1 :=
  ((Below.refl _ _).alloc (Nat.le_refl _) _).trans (hb.mono (by simp))

/-- The words from the second on, where they are no rule's. -/
theorem de_no {a b : ByteArray} {r : List ByteArray} (h : (a.toList == [111, 117, 116]) = false ∨ dcOk b = false ∨ (dcN b == 0) = true) : deOk (a :: b :: r) = false := by
  match r with
  | [] => rcases h with h | h | h <;> simp [deOk, h]
  | [c] => rfl
  | [c, d] => rcases h with h | h | h <;> simp [deOk, h]
  | c :: d :: x :: y => rfl

set_option maxHeartbeats 1000000 in
theorem deed_out (a b : ByteArray) (r : List ByteArray) (n g o cap : Nat) (w : World) (h : WAt w g o (a :: b :: r)) (hn : r.length = n)
    (h1 : (a.toList == [111, 117, 116]) = false) :
    Calls Tryd.prog 11 #[.slice (some ⟨g, o, none⟩) (n + 2) cap] w (DeP (a :: b :: r) w) := by
  have c0 := h.head
  have hlt : g < w.heap.size := World.block_lt_of_cell? _ _ c0
  have HD : Hid (deOk (a :: b :: r) = false) := de_no (.inl h1)
  have en : (((n : Int) + 2) == 1) = false := by simp; omega
  clear h hn
  go_enter Tryd.func11, Tryd.ntmps11
  go_wp2
  refine bodyPost_ret (v := .tuple #[.int .i64 0, .agg #[.int .i64 0, .int .i64 0], .bool false]) (by simp [results, Tryd.results11, go_sem]) rfl ⟨⟨0, 0, 0, by rw [HD.out], fun h => by rw [HD.out] at h; cases h⟩, ?_⟩
  exact (Below.refl _ _).alloc (Nat.le_refl _) _

set_option maxHeartbeats 1000000 in
theorem deed_num (a b : ByteArray) (r : List ByteArray) (n g o cap : Nat) (w : World) (h : WAt w g o (a :: b :: r)) (hn : r.length = n)
    (h1 : (a.toList == [111, 117, 116]) = true) (h2 : dcOk b = false ∨ dcOk b = true ∧ (dcN b == 0) = true) :
    Calls Tryd.prog 11 #[.slice (some ⟨g, o, none⟩) (n + 2) cap] w (DeP (a :: b :: r) w) := by
  have c0 := h.head
  have c1 := h.tail.head
  have hlt : g < w.heap.size := World.block_lt_of_cell? _ _ c0
  have HD : Hid (deOk (a :: b :: r) = false) := de_no (.inr (by rcases h2 with h2 | h2; exact .inl h2; exact .inr h2.2))
  have en : (((n : Int) + 2) == 1) = false := by simp; omega
  clear h hn
  rcases h2 with h2 | ⟨h2, h3⟩
  · go_enter Tryd.func11, Tryd.ntmps11
    go_wp2_with fail
    refine (dec_any _ _).mono ?_
    rintro e w1 ⟨rfl, rfl⟩
    rw [h2]
    go_wp2
    refine bodyPost_ret (v := .tuple #[.int .i64 0, .agg #[.int .i64 0, .int .i64 0], .bool false]) (by simp [results, Tryd.results11, go_sem]) rfl ⟨⟨0, 0, 0, by rw [HD.out], fun h => by rw [HD.out] at h; cases h⟩, ?_⟩
    exact (Below.refl _ _).alloc (Nat.le_refl _) _
  · go_enter Tryd.func11, Tryd.ntmps11
    go_wp2_with fail
    refine (dec_any _ _).mono ?_
    rintro e w1 ⟨rfl, rfl⟩
    rw [h2]
    go_wp2
    refine bodyPost_ret (v := .tuple #[.int .i64 0, .agg #[.int .i64 0, .int .i64 0], .bool false]) (by simp [results, Tryd.results11, go_sem]) rfl ⟨⟨0, 0, 0, by rw [HD.out], fun h => by rw [HD.out] at h; cases h⟩, ?_⟩
    exact (Below.refl _ _).alloc (Nat.le_refl _) _

set_option maxHeartbeats 1000000 in
theorem deed_2 (a b : ByteArray) (g o cap : Nat) (w : World) (h : WAt w g o [a, b])
    (h1 : (a.toList == [111, 117, 116]) = true) (h2 : dcOk b = true) (h3 : (dcN b == 0) = false) :
    Calls Tryd.prog 11 #[.slice (some ⟨g, o, none⟩) 2 cap] w (DeP [a, b] w) := by
  have c0 := h.head
  have c1 := h.tail.head
  have hlt : g < w.heap.size := World.block_lt_of_cell? _ _ c0
  have HD : Hid (deOk [a, b] = true) := by show deOk [a, b] = true; simp [deOk, h1, h2, h3]
  clear h
  go_enter Tryd.func11, Tryd.ntmps11
  go_wp2_with fail
  refine (dec_any _ _).mono ?_
  rintro e w1 ⟨rfl, rfl⟩
  rw [h2]
  go_wp2
  refine bodyPost_ret (v := .tuple #[.int .i64 (dcN b), .agg #[.int .i64 0, .int .i64 0], .bool true]) (by simp [results, Tryd.results11, go_sem]) rfl ⟨⟨dcN b, 0, 0, by rw [HD.out], fun _ => ⟨rfl, rfl, rfl⟩⟩, ?_⟩
  exact (Below.refl _ _).alloc (Nat.le_refl _) _

set_option maxHeartbeats 1000000 in
theorem deed_long (a b : ByteArray) (r : List ByteArray) (n g o cap : Nat) (w : World) (h : WAt w g o (a :: b :: r)) (hn : r.length = n)
    (h1 : (a.toList == [111, 117, 116]) = true) (h2 : dcOk b = true) (h3 : (dcN b == 0) = false) (h4 : n ≠ 0 ∧ n ≠ 2) :
    Calls Tryd.prog 11 #[.slice (some ⟨g, o, none⟩) (n + 2) cap] w (DeP (a :: b :: r) w) := by
  have c0 := h.head
  have c1 := h.tail.head
  have hlt : g < w.heap.size := World.block_lt_of_cell? _ _ c0
  have HD : Hid (deOk (a :: b :: r) = false) := by
    show deOk (a :: b :: r) = false
    match r, hn with
    | [], hn => simp at hn; omega
    | [c], _ => rfl
    | [c, d], hn => simp at hn; omega
    | c :: d :: x :: y, _ => rfl
  have en : (((n : Int) + 2) == 1) = false := by simp; omega
  have en2 : (((n : Int) + 2) == 2) = false := by simp; omega
  have en4 : (((n : Int) + 2) == 4) = false := by simp; omega
  have en5 : (((n : Int) + 2) != 4) = true := by simp; omega
  clear h hn h4
  go_enter Tryd.func11, Tryd.ntmps11
  go_wp2_with fail
  refine (dec_any _ _).mono ?_
  rintro e w1 ⟨rfl, rfl⟩
  rw [h2]
  go_wp2
  refine bodyPost_ret (v := .tuple #[.int .i64 0, .agg #[.int .i64 0, .int .i64 0], .bool false]) (by simp [results, Tryd.results11, go_sem]) rfl ⟨⟨0, 0, 0, by rw [HD.out], fun h => by rw [HD.out] at h; cases h⟩, ?_⟩
  exact (Below.refl _ _).alloc (Nat.le_refl _) _

set_option maxHeartbeats 1000000 in
theorem deed_4 (a b c d : ByteArray) (g o cap : Nat) (w : World) (h : WAt w g o [a, b, c, d])
    (h1 : (a.toList == [111, 117, 116]) = true) (h2 : dcOk b = true) (h3 : (dcN b == 0) = false) :
    Calls Tryd.prog 11 #[.slice (some ⟨g, o, none⟩) 4 cap] w (DeP [a, b, c, d] w) := by
  have c0 := h.head
  have c1 := h.tail.head
  have c2 := h.tail.tail.head
  have c3 := h.tail.tail.tail.head
  have hlt : g < w.heap.size := World.block_lt_of_cell? _ _ c0
  clear h
  cases h4 : (c.toList == [115, 101, 116])
  · have HD : Hid (deOk [a, b, c, d] = false) := by show deOk [a, b, c, d] = false; simp [deOk, h4]
    go_enter Tryd.func11, Tryd.ntmps11
    go_wp2_with fail
    refine (dec_any _ _).mono ?_
    rintro e w1 ⟨rfl, rfl⟩
    rw [h2]
    go_wp2
    refine bodyPost_ret (v := .tuple #[.int .i64 0, .agg #[.int .i64 0, .int .i64 0], .bool false]) (by simp [results, Tryd.results11, go_sem]) rfl ⟨⟨0, 0, 0, by rw [HD.out], fun h => by rw [HD.out] at h; cases h⟩, ?_⟩
    exact (Below.refl _ _).alloc (Nat.le_refl _) _
  · cases h5 : psOk d
    · have HD : Hid (deOk [a, b, c, d] = false) := by show deOk [a, b, c, d] = false; simp [deOk, h5]
      go_enter Tryd.func11, Tryd.ntmps11
      go_wp2_with fail
      refine (dec_any _ _).mono ?_
      rintro e w1 ⟨rfl, rfl⟩
      rw [h2]
      go_wp2_with fail
      refine (parse_no _ _ h5).mono ?_
      rintro e w1 ⟨rfl, hb1⟩
      obtain ⟨hc1, hf1⟩ := bcell hb1
      have hlt2 : w.heap.size < (w.alloc (Obj.cells #[Value.int IntKind.i64 0, Value.int IntKind.i64 0] 23)).heap.size := by simp
      have hlt3 : w.heap.size < w1.heap.size := Nat.lt_of_lt_of_le hlt2 hb1.size
      have hB := below_new _ hb1
      clear hb1
      go_wp2
      go_region
      all_goals
        go_wp2
        refine bodyPost_ret (v := .tuple #[.int .i64 (dcN b), .agg #[.int .i64 0, .int .i64 0], .bool false]) (by simp [results, Tryd.results11, go_sem, *]) rfl ⟨⟨dcN b, 0, 0, by rw [HD.out], fun h => by rw [HD.out] at h; cases h⟩, ?_⟩
        repeat (first | exact hB | apply Below.drew | refine Below.alloc ?_ (by simp <;> omega) _ | refine Below.setCell ?_ (by simp) _)
    · cases h6 : (psM d == 0)
      · have HD : Hid (deOk [a, b, c, d] = true) := by show deOk [a, b, c, d] = true; simp [deOk, h1, h2, h3, h4, h5, h6]
        have h7 : (psM d != 0) = true := by simpa using h6
        go_enter Tryd.func11, Tryd.ntmps11
        go_wp2_with fail
        refine (dec_any _ _).mono ?_
        rintro e w1 ⟨rfl, rfl⟩
        rw [h2]
        go_wp2_with fail
        refine (parse_yes _ _ h5).mono ?_
        rintro e w1 ⟨rfl, hb1⟩
        obtain ⟨hc1, hf1⟩ := bcell hb1
        have hlt2 : w.heap.size < (w.alloc (Obj.cells #[Value.int IntKind.i64 0, Value.int IntKind.i64 0] 23)).heap.size := by simp
        have hlt3 : w.heap.size < w1.heap.size := Nat.lt_of_lt_of_le hlt2 hb1.size
        have hB := below_new _ hb1
        clear hb1
        go_wp2
        go_region
        all_goals
          go_wp2
          refine bodyPost_ret (v := .tuple #[.int .i64 (dcN b), .agg #[.int .i64 (psM d), .int .i64 (psB d)], .bool true]) (by simp [results, Tryd.results11, go_sem, *]) rfl ⟨⟨dcN b, psM d, psB d, by rw [HD.out], fun _ => ⟨rfl, rfl, rfl⟩⟩, ?_⟩
          repeat (first | exact hB | apply Below.drew | refine Below.alloc ?_ (by simp <;> omega) _ | refine Below.setCell ?_ (by simp) _)
      · have HD : Hid (deOk [a, b, c, d] = false) := by show deOk [a, b, c, d] = false; simp [deOk, h6]
        have h7 : (psM d != 0) = false := by simpa using h6
        go_enter Tryd.func11, Tryd.ntmps11
        go_wp2_with fail
        refine (dec_any _ _).mono ?_
        rintro e w1 ⟨rfl, rfl⟩
        rw [h2]
        go_wp2_with fail
        refine (parse_yes _ _ h5).mono ?_
        rintro e w1 ⟨rfl, hb1⟩
        obtain ⟨hc1, hf1⟩ := bcell hb1
        have hlt2 : w.heap.size < (w.alloc (Obj.cells #[Value.int IntKind.i64 0, Value.int IntKind.i64 0] 23)).heap.size := by simp
        have hlt3 : w.heap.size < w1.heap.size := Nat.lt_of_lt_of_le hlt2 hb1.size
        have hB := below_new _ hb1
        clear hb1
        go_wp2
        go_region
        all_goals
          go_wp2
          refine bodyPost_ret (v := .tuple #[.int .i64 (dcN b), .agg #[.int .i64 (psM d), .int .i64 (psB d)], .bool false]) (by simp [results, Tryd.results11, go_sem, *]) rfl ⟨⟨dcN b, psM d, psB d, by rw [HD.out], fun h => by rw [HD.out] at h; cases h⟩, ?_⟩
          repeat (first | exact hB | apply Below.drew | refine Below.alloc ?_ (by simp <;> omega) _ | refine Below.setCell ?_ (by simp) _)

theorem deed_any (ws : List ByteArray) (n g o cap : Nat) (w : World) (h : WAt w g o ws) (hn : ws.length = n) (h1 : 1 ≤ n) :
    Calls Tryd.prog 11 #[.slice (some ⟨g, o, none⟩) n cap] w (DeP ws w) := by
  match ws, hn with
  | [], hn => simp at hn; omega
  | [a], hn =>
    obtain rfl : n = 1 := by simpa using hn.symm
    exact deed_1 a g o cap w h
  | a :: b :: r, hn =>
    obtain rfl : n = r.length + 2 := by simpa using hn.symm
    cases e1 : (a.toList == [111, 117, 116])
    · exact deed_out a b r _ g o cap w h rfl e1
    · cases e2 : dcOk b
      · exact deed_num a b r _ g o cap w h rfl e1 (.inl e2)
      · cases e3 : (dcN b == 0)
        · match r with
          | [] => exact deed_2 a b g o cap w h e1 e2 e3
          | [c] => exact deed_long a b [c] _ g o cap w h rfl e1 e2 e3 ⟨by simp, by simp⟩
          | [c, d] => exact deed_4 a b c d g o cap w h e1 e2 e3
          | c :: d :: x :: y => exact deed_long a b _ _ g o cap w h rfl e1 e2 e3 ⟨by simp, by simp⟩
        · exact deed_num a b r _ g o cap w h rfl e1 (.inr ⟨e2, e3⟩)
end Go.Proofs.YtpbfgfphcjmcbaaDoor
