/- What railsame.Ints answers of two rows of numbers that a call owns. -/
import Derived.Test.YtfbocionnjlilacDoorOwnInts
import Derived.WalkKit
import Derived.WalkSpells
import Derived.Below
import Derived.BigQuiet
import Derived.Deep.QuietTactic
namespace Go.Proofs.YtfbocionnjlilacDoor
open Go.RowKit
set_option linter.unusedSimpArgs false

set_option maxHeartbeats 1000000 in
theorem ints_len (ao bo : Option Addr) (n k c d : Nat) (w : World) (h : n ≠ k) :
    Calls Tryd.prog 19 #[.slice ao n c, .slice bo k d] w fun e w' => e = .returned (.bool false) ∧ Below w.heap.size w w' := by
  have h2 : (n : Int) ≠ (k : Int) := by omega
  go_enter Tryd.func19, Tryd.ntmps19
  go_wp2
  go_ret
  exact ⟨rfl, Below.refl _ _⟩

set_option maxHeartbeats 1000000 in
theorem ints_nil (w : World) (ao bo : Option Addr) (c d : Nat) :
    Calls Tryd.prog 19 #[.slice ao 0 c, .slice bo 0 d] w fun e w' => e = .returned (.bool true) ∧ Below w.heap.size w w' := by
  go_enter Tryd.func19, Tryd.ntmps19
  go_wp2
  go_loopw [5] (fun i wr => i = .int .i64 0 ∧ wr = w) (fun i _ => 0)
  case atStart => exact ⟨rfl, rfl⟩
  case round =>
    obtain ⟨rfl, rfl⟩ := hrel
    go_wp2
    go_ret
    exact ⟨rfl, Below.refl _ _⟩

set_option maxHeartbeats 2000000 in
theorem ints_some (g f n c d : Nat) (xs ys : List Int) (w : World) (hx : xs.length = n) (hy : ys.length = n) (hn : n ≤ 16)
    (h1 : ∀ i (hi : i < xs.length), w.cell? ⟨g, i, none⟩ = some (.int .i64 xs[i])) (h2 : ∀ i (hi : i < ys.length), w.cell? ⟨f, i, none⟩ = some (.int .i64 ys[i])) :
    Calls Tryd.prog 19 #[.slice (some ⟨g, 0, none⟩) n c, .slice (some ⟨f, 0, none⟩) n d] w fun e w' => e = .returned (.bool (xs == ys)) ∧ Below w.heap.size w w' := by
  have HX : Hid (xs.length = n) := hx
  have HY : Hid (ys.length = n) := hy
  clear hx hy
  go_enter Tryd.func19, Tryd.ntmps19
  go_wp2
  go_loopw [5] (fun i wr => ∃ k : Nat, k ≤ n ∧ i = .int .i64 k ∧ eqTo xs ys k = true ∧ Below w.heap.size w wr)
    (fun i _ => n - (intOf i).toNat)
  case atStart => exact ⟨0, by omega, rfl, by simp [eqTo], Below.refl _ _⟩
  case round =>
    obtain ⟨k, hk, rfl, he, hB⟩ := hrel
    have HB : Hid (Below w.heap.size w wr) := hB
    have HE : Hid (eqTo xs ys k = true) := he
    clear he
    by_cases hlt : k < n
    · have hkx : k < xs.length := by rw [HX.out]; exact hlt
      have hky : k < ys.length := by rw [HY.out]; exact hlt
      have q0 := h1 k hkx
      have q1 := h2 k hky
      have r0 := hB.cell (World.block_lt_of_cell? _ _ q0)
      have r1 := hB.cell (World.block_lt_of_cell? _ _ q1)
      rw [q0] at r0
      rw [q1] at r1
      obtain ⟨x, hxk⟩ : ∃ x, x = xs[k] := ⟨_, rfl⟩
      obtain ⟨y, hyk⟩ : ∃ y, y = ys[k] := ⟨_, rfl⟩
      rw [← hxk] at r0
      rw [← hyk] at r1
      have HXK : Hid (x = xs[k]) := hxk
      have HYK : Hid (y = ys[k]) := hyk
      clear hxk hyk q0 q1 h1 h2 hB
      by_cases hne : x = y
      · have HXY : Hid (x = y) := hne
        subst hne
        go_wp2
        go_quiet (fail)
        go_wp2
        go_roundw
        case rel => exact ⟨k + 1, by omega, by go_num, by
          have := HE.out
          simp only [eqTo, List.take_succ_eq_append_getElem hkx, List.take_succ_eq_append_getElem hky, beq_iff_eq] at *
          rw [this, ← HXK.out, ← HYK.out], HB.out.trans ⟨rfl, rfl, rfl, Nat.le_refl _, fun _ _ => rfl⟩⟩
        case measure => simp [intOf]; omega
      · go_wp2
        go_quiet (fail)
        go_wp2
        go_ret
        exact ⟨by
          have : (xs == ys) = false := by
            simp only [beq_eq_false_iff_ne, ne_eq]
            intro h; subst h
            exact hne (HXK.out.trans HYK.out.symm)
          rw [this]; rfl, HB.out.trans ⟨rfl, rfl, rfl, Nat.le_refl _, fun _ _ => rfl⟩⟩
    · obtain rfl : k = n := by omega
      go_wp2
      go_ret
      exact ⟨by
        have := HE.out
        have h1 := List.take_length (l := xs)
        have h2 := List.take_length (l := ys)
        rw [HX.out] at h1
        rw [HY.out] at h2
        rw [eqTo, h1, h2] at this
        rw [this]; rfl, HB.out⟩

theorem ints_any (u v : Value) (xs ys : List Int) (w : World) (B C e : Nat) (hx : xs.length ≤ 16)
    (h1 : w.ownsRow B e 1 u xs.length (xs.map (Value.int .i64))) (h2 : w.ownsRow C e 1 v ys.length (ys.map (Value.int .i64))) :
    Calls Tryd.prog 19 #[u, v] w fun e w' => e = .returned (.bool (xs == ys)) ∧ Below w.heap.size w w' := by
  by_cases hl : xs.length = ys.length
  · rcases own_ints h1 with ⟨rfl, rfl⟩ | ⟨g, c, rfl, q1⟩
    · obtain rfl : ys = [] := List.length_eq_zero_iff.1 hl.symm
      obtain ⟨ao, d, rfl⟩ := own_form h2
      exact ints_nil w _ _ _ _
    · rcases own_ints h2 with ⟨rfl, rfl⟩ | ⟨f, d, rfl, q2⟩
      · obtain rfl : xs = [] := List.length_eq_zero_iff.1 hl
        exact ints_nil w _ _ _ _
      · have := ints_some g f xs.length c d xs ys w rfl hl.symm hx q1 q2
        rw [← hl]
        exact this
  · have e : (xs == ys) = false := by
      simp only [beq_eq_false_iff_ne, ne_eq]
      intro h; subst h; exact hl rfl
    rw [e]
    obtain ⟨ao, c, rfl⟩ := own_form h1
    obtain ⟨bo, d, rfl⟩ := own_form h2
    exact ints_len _ _ _ _ _ _ w hl


end Go.Proofs.YtfbocionnjlilacDoor
