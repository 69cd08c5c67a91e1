/- What slices.Equal answers of two slices of numbers, whoever made them. -/
import Derived.Test.YtfbocionnjliladClassMem
import Derived.Test.YtfbocionnjliladRows
import Derived.WalkKit
import Derived.WalkSpells
import Derived.Below
import Derived.BigQuiet
import Derived.Deep.QuietTactic
namespace Go.Proofs.Ytfbocionnjlilad
open Go.RowKit
set_option linter.unusedSimpArgs false
set_option linter.unusedVariables false

theorem eqlL_next {xs ys : List Int} {k : Nat} (h : xs.take k = ys.take k) (hx : k < xs.length) (hy : k < ys.length) (he : xs[k] = ys[k]) : xs.take (k + 1) = ys.take (k + 1) := by
  rw [List.take_succ_eq_append_getElem hx, List.take_succ_eq_append_getElem hy, h, he]
set_option maxHeartbeats 2000000 in
theorem sleq_any (ao bo : Option Addr) (n m c d : Nat) (xs ys : List Int) (w : World) (h1 : GS inE w (.slice ao n c) xs) (h2 : GS inE w (.slice bo m d) ys) :
    Calls Try.prog 26 #[.slice ao n c, .slice bo m d] w fun e w' => e = .returned (.bool (xs == ys)) ∧ Below w.heap.size w w' := by
  obtain ⟨_, _, _, e1, hn, hn2, _, ha⟩ := h1.form
  cases e1
  obtain ⟨_, _, _, e2, hm, hm2, _, hb⟩ := h2.form
  cases e2
  by_cases hl : n = m
  · subst hl
    have HX : Hid (xs.length = n) := hn
    have HY : Hid (ys.length = n) := hm
    have HA : Hid (0 < n → ∃ g o, ao = some ⟨g, o, none⟩ ∧ GAt inE w g o xs ∧ c ≤ maxLen) := ha
    have HB2 : Hid (0 < n → ∃ g o, bo = some ⟨g, o, none⟩ ∧ GAt inE w g o ys ∧ d ≤ maxLen) := hb
    unfold maxLen at hn2
    clear hn hm hm2 ha hb h1 h2
    go_enter Try.func26, Try.ntmps26
    go_wp2
    go_loopw [13] (fun i wr => ∃ k : Nat, k ≤ n ∧ i = .int .i64 k ∧ xs.take k = ys.take k ∧ Below w.heap.size w wr) (fun i _ => n - (intOf i).toNat)
    case atStart => exact ⟨0, by omega, rfl, by simp, Below.refl _ _⟩
    case round =>
      obtain ⟨k, hk, rfl, he, hB⟩ := hrel
      have HB : Hid (Below w.heap.size w wr) := hB
      have HE : Hid (xs.take k = ys.take k) := he
      clear he
      by_cases hlt : k < n
      · obtain ⟨g, o, hao, hc, _⟩ := HA.out (by omega)
        obtain ⟨f, q, hbo, hd, _⟩ := HB2.out (by omega)
        subst hao hbo
        obtain ⟨x, hkx, hxk, r0⟩ := in_at (hc.later hB) HX.out hlt
        obtain ⟨y, hky, hyk, r1⟩ := in_at (hd.later hB) HY.out hlt
        have HXK : Hid (xs[k] = x) := hxk
        have HYK : Hid (ys[k] = y) := hyk
        clear hxk hyk hc hd hB
        by_cases hne : x = y
        · subst hne
          go_wp2
          go_quiet (fail)
          go_wp2
          go_roundw
          case rel => exact ⟨k + 1, by omega, by go_num, eqlL_next HE.out hkx hky (HXK.out.trans HYK.out.symm), HB.out.trans ⟨rfl, rfl, rfl, Nat.le_refl _, fun _ _ => rfl⟩⟩
          case measure => simp [intOf]; omega
        · go_wp2
          go_quiet (fail)
          go_wp2
          go_ret
          exact ⟨by
            have : (xs == ys) = false := by
              simp only [beq_eq_false_iff_ne, ne_eq]
              intro h; subst h
              exact hne (HXK.out.symm.trans HYK.out)
            rw [this]; rfl, HB.out.trans ⟨rfl, rfl, rfl, Nat.le_refl _, fun _ _ => rfl⟩⟩
      · obtain rfl : k = n := by omega
        go_wp2
        go_ret
        exact ⟨by
          have h3 := HE.out
          rw [List.take_of_length_le (by rw [HX.out]; exact Nat.le_refl _), List.take_of_length_le (by rw [HY.out]; exact Nat.le_refl _)] at h3
          rw [h3]; simp, HB.out⟩
  · have e : (xs == ys) = false := by
      simp only [beq_eq_false_iff_ne, ne_eq]
      intro h; subst h; exact hl (hn.symm.trans hm)
    rw [e]
    have h3 : (n : Int) ≠ (m : Int) := by omega
    clear e ha hb h1 h2
    go_enter Try.func26, Try.ntmps26
    go_wp2
    go_ret
    exact ⟨rfl, Below.refl _ _⟩
end Go.Proofs.Ytfbocionnjlilad
