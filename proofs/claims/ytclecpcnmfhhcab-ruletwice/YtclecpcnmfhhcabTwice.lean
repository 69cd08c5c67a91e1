/- The walk of RuleTwice: it answers true, whatever rule and header it is called with. -/
import Derived.Test.YtclecpcnmfhhcabRuleCon
import Derived.ProofKit
import Derived.OpenShut
namespace Go.Proofs.Ytclecpcnmfhhcab.twice
open Go.ChangeShapes Go.WideShapes Go.ChangeAt Go.RowKit
set_option linter.unusedVariables false
set_option linter.unusedSimpArgs false

theorem facts_fin : ∀ s v h : Fin 16, (bits .andNot .i64 ((v : Nat) : Int) ((s : Nat) : Int) == 0) = true →
    (0 ≤ apV ((s : Nat) : Int) ((v : Nat) : Int) ((h : Nat) : Int) ∧ apV ((s : Nat) : Int) ((v : Nat) : Int) ((h : Nat) : Int) < 16) ∧
    apV ((s : Nat) : Int) ((v : Nat) : Int) (apV ((s : Nat) : Int) ((v : Nat) : Int) ((h : Nat) : Int)) = apV ((s : Nat) : Int) ((v : Nat) : Int) ((h : Nat) : Int) := by
  decide +kernel
theorem facts {p m b o s v h : Int} (hr : apN p m b o s v h = 0) : (0 ≤ apV s v h ∧ apV s v h < 16) ∧ apV s v (apV s v h) = apV s v h := by
  obtain ⟨h1, h2, _, _⟩ := ap_yes hr
  obtain ⟨g1, _, g3⟩ := ru_ok h1
  obtain ⟨_, hs, hv⟩ := ru_in g1
  obtain ⟨s', rfl⟩ := small hs
  obtain ⟨v', rfl⟩ := small hv
  obtain ⟨h', rfl⟩ := small (hdr_of h2)
  simp only [ruSet, Bool.and_eq_true] at g3
  exact facts_fin s' v' h' g3.1
theorem fact1 : apN 1 0 0 1 3 1 14 = 0 ∧ apR 1 0 0 1 3 1 14 = 13 := by decide +kernel

set_option maxHeartbeats 1000000 in
theorem walk (p m b o s v h : Int) (w : World) :
    Calls Try.prog 3 #[.agg #[.int .i64 p, .int .i64 m, .int .i64 b, .int .i64 o, .int .i64 s, .int .i64 v], .int .i64 h] w fun e w' => e = .returned (.bool true) ∧ Below w.heap.size w w' := by
  by_cases hr : apN p m b o s v h = 0
  · obtain ⟨⟨f1, f2⟩, f3⟩ := facts hr
    have hR : apR p m b o s v h = apV s v h := by simp [apR, hr]
    have hR2 : Hid (apN p m b o s v (apV s v h) = 0 → apR p m b o s v (apV s v h) = apV s v h) := by
      intro h0
      rw [apR, if_pos h0, f3]
    clear f3
    go_enter Try.func3, Try.ntmps3
    go_wp2_with fail
    refine (apply_any _ _ _ _ _ _ _ _).mono ?_
    rintro e w1 ⟨rfl, hb1⟩
    rw [fact1.2, no_ok fact1.1]
    have hlt : w.heap.size < w1.heap.size := by have := hb1.size; simp at this; omega
    have hB : Below w.heap.size w w1 := ((Below.refl _ _).alloc (Nat.le_refl _) _).trans (hb1.mono (by simp))
    obtain ⟨hc1, hf1⟩ := bcellB (hb1.mono (show w.heap.size + 1 ≤ _ by simp))
    have c0 : ∀ k < 6, w1.cell? ⟨w.heap.size, k, none⟩ = some ((#[Value.int IntKind.i64 p, Value.int IntKind.i64 m, Value.int IntKind.i64 b, Value.int IntKind.i64 o, Value.int IntKind.i64 s, Value.int IntKind.i64 v] : Array Value).getD k .nilIface) := by
      intro k hk
      rw [hc1 _ _ (by omega)]
      rcases (by omega : k = 0 ∨ k = 1 ∨ k = 2 ∨ k = 3 ∨ k = 4 ∨ k = 5) with rfl | rfl | rfl | rfl | rfl | rfl <;> simp
    have q0 := c0 0 (by omega)
    have q1 := c0 1 (by omega)
    have q2 := c0 2 (by omega)
    have q3 := c0 3 (by omega)
    have q4 := c0 4 (by omega)
    have q5 := c0 5 (by omega)
    simp only [List.size_toArray, List.length_cons, List.length_nil, Array.getD, List.getElem_toArray, List.getElem_cons_zero, List.getElem_cons_succ, Nat.reduceLT, Nat.reduceAdd, dite_true] at q0 q1 q2 q3 q4 q5
    clear c0 hc1 hf1 hb1
    go_wp2_with fail
    refine (apply_any _ _ _ _ _ _ _ _).mono ?_
    rintro e w2 ⟨rfl, hb2⟩
    rw [hR, no_ok hr]
    have hB2 := hB.trans (hb2.mono (by omega))
    have z0 := cell_later hb2 q0
    have z1 := cell_later hb2 q1
    have z2 := cell_later hb2 q2
    have z3 := cell_later hb2 q3
    have z4 := cell_later hb2 q4
    have z5 := cell_later hb2 q5
    have hlt2 : w.heap.size < w2.heap.size := Nat.lt_of_lt_of_le hlt hb2.size
    clear q0 q1 q2 q3 q4 q5 hb2 hB hlt
    go_wp2_with fail
    refine (apply_any _ _ _ _ _ _ _ _).mono ?_
    rintro e w3 ⟨rfl, hb3⟩
    have hB3 := hB2.trans (hb3.mono (by omega))
    clear hb3 hB2 z0 z1 z2 z3 z4 z5
    by_cases h2 : apN p m b o s v (apV s v h) = 0
    · rw [hR2.out h2, no_ok h2]
      clear hR2 h2
      go_wp2
      go_ret
      exact ⟨rfl, hB3⟩
    · rw [apR_bad h2, no_ne h2]
      clear hR2
      go_wp2
      go_ret
      exact ⟨rfl, hB3⟩
  · go_enter Try.func3, Try.ntmps3
    go_wp2_with fail
    refine (apply_any _ _ _ _ _ _ _ _).mono ?_
    rintro e w1 ⟨rfl, hb1⟩
    rw [fact1.2, no_ok fact1.1]
    have hlt : w.heap.size < w1.heap.size := by have := hb1.size; simp at this; omega
    have hB : Below w.heap.size w w1 := ((Below.refl _ _).alloc (Nat.le_refl _) _).trans (hb1.mono (by simp))
    obtain ⟨hc1, hf1⟩ := bcellB (hb1.mono (show w.heap.size + 1 ≤ _ by simp))
    have c0 : ∀ k < 6, w1.cell? ⟨w.heap.size, k, none⟩ = some ((#[Value.int IntKind.i64 p, Value.int IntKind.i64 m, Value.int IntKind.i64 b, Value.int IntKind.i64 o, Value.int IntKind.i64 s, Value.int IntKind.i64 v] : Array Value).getD k .nilIface) := by
      intro k hk
      rw [hc1 _ _ (by omega)]
      rcases (by omega : k = 0 ∨ k = 1 ∨ k = 2 ∨ k = 3 ∨ k = 4 ∨ k = 5) with rfl | rfl | rfl | rfl | rfl | rfl <;> simp
    have q0 := c0 0 (by omega)
    have q1 := c0 1 (by omega)
    have q2 := c0 2 (by omega)
    have q3 := c0 3 (by omega)
    have q4 := c0 4 (by omega)
    have q5 := c0 5 (by omega)
    simp only [List.size_toArray, List.length_cons, List.length_nil, Array.getD, List.getElem_toArray, List.getElem_cons_zero, List.getElem_cons_succ, Nat.reduceLT, Nat.reduceAdd, dite_true] at q0 q1 q2 q3 q4 q5
    clear c0 hc1 hf1 hb1
    go_wp2_with fail
    refine (apply_any _ _ _ _ _ _ _ _).mono ?_
    rintro e w2 ⟨rfl, hb2⟩
    rw [apR_bad hr, no_ne hr]
    go_wp2
    go_ret
    exact ⟨rfl, hB.trans (hb2.mono (by omega))⟩
end Go.Proofs.Ytclecpcnmfhhcab.twice
