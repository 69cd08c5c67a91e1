/- The walk of CubeHalves: it answers true, whatever cube and bit it is called with. -/
import Derived.Test.YtclecpcnmfhhcaaCubeCon3
import Derived.Test.YtclecpcnmfhhcaaCubeFirst
import Derived.ProofKit
import Derived.OpenShut
import Derived.Deep.RegionHeld3
namespace Go.Proofs.Ytclecpcnmfhhcaa.halves
open Go.ChangeShapes Go.WideShapes Go.ChangeAt Go.RowKit
set_option linter.unusedVariables false
set_option linter.unusedSimpArgs false

theorem cnt00 : cntN 0 0 = 16 := by decide +kernel

theorem facts_fin : ∀ (m b : Fin 16) (k : Fin 4), okB ((m : Nat) : Int) ((b : Nat) : Int) = true → ((m : Nat) : Int) / 2 ^ (k : Nat) % 2 ≠ 1 →
    mtOk (((m : Nat) : Int) + 2 ^ (k : Nat)) ((b : Nat) : Int) (((m : Nat) : Int) + 2 ^ (k : Nat)) (((b : Nat) : Int) + 2 ^ (k : Nat)) = false ∧
    insB (((m : Nat) : Int) + 2 ^ (k : Nat)) ((b : Nat) : Int) ((m : Nat) : Int) ((b : Nat) : Int) = true ∧
    insB (((m : Nat) : Int) + 2 ^ (k : Nat)) (((b : Nat) : Int) + 2 ^ (k : Nat)) ((m : Nat) : Int) ((b : Nat) : Int) = true ∧
    cntN (((m : Nat) : Int) + 2 ^ (k : Nat)) (((b : Nat) : Int) + 2 ^ (k : Nat)) = cntN (((m : Nat) : Int) + 2 ^ (k : Nat)) ((b : Nat) : Int) ∧
    cntN ((m : Nat) : Int) ((b : Nat) : Int) = 2 * cntN (((m : Nat) : Int) + 2 ^ (k : Nat)) ((b : Nat) : Int) ∧
    fstN (((m : Nat) : Int) + 2 ^ (k : Nat)) ((b : Nat) : Int) = fstN ((m : Nat) : Int) ((b : Nat) : Int) := by
  decide +kernel

theorem facts (m b B : Int) (k : Nat) (hk : k ≤ 3) (hB : B = 2 ^ k) (h : okB m b = true) (h2 : m / B % 2 ≠ 1) :
    mtOk (m + B) b (m + B) (b + B) = false ∧ insB (m + B) b m b = true ∧ insB (m + B) (b + B) m b = true ∧
    cntN (m + B) (b + B) = cntN (m + B) b ∧ cntN m b = 2 * cntN (m + B) b ∧ fstN (m + B) b = fstN m b := by
  obtain ⟨x, rfl⟩ := small (ok_of h).1
  obtain ⟨y, rfl⟩ := small (ok_of h).2
  subst hB
  exact facts_fin x y ⟨k, by omega⟩ h h2

theorem cnt_bd (m b : Int) : 0 ≤ cntN m b ∧ cntN m b ≤ 16 := by
  unfold cntN
  split
  · rename_i h
    obtain ⟨x, rfl⟩ := small (ok_of h).1
    clear h
    revert x
    decide +kernel
  · omega

theorem wrap_id (n : Int) (h0 : 0 ≤ n) (h1 : n < 1000) : IntKind.i64.wrap n = n := by
  simp [IntKind.wrap, IntKind.bits, IntKind.signed]; omega

theorem pow_bd (k : Nat) (hk : k ≤ 3) : (1 : Int) ≤ 2 ^ k ∧ (2 : Int) ^ k ≤ 8 := by
  rcases (by omega : k = 0 ∨ k = 1 ∨ k = 2 ∨ k = 3) with rfl | rfl | rfl | rfl <;> decide

theorem keep6 {w W w' : World} {a1 a2 a3 a4 a5 a6 : Addr} {v1 v2 v3 v4 v5 v6 : Value} (hb : Below W.heap.size W w')
    (h : Below w.heap.size w W ∧ W.cell? a1 = some v1 ∧ W.cell? a2 = some v2 ∧ W.cell? a3 = some v3 ∧ W.cell? a4 = some v4 ∧ W.cell? a5 = some v5 ∧ W.cell? a6 = some v6) :
    Below w.heap.size w w' ∧ w'.cell? a1 = some v1 ∧ w'.cell? a2 = some v2 ∧ w'.cell? a3 = some v3 ∧ w'.cell? a4 = some v4 ∧ w'.cell? a5 = some v5 ∧ w'.cell? a6 = some v6 := by
  obtain ⟨h0, h1, h2, h3, h4, h5, h6⟩ := h
  exact ⟨h0.trans (hb.mono h0.size), cell_later hb h1, cell_later hb h2, cell_later hb h3, cell_later hb h4, cell_later hb h5, cell_later hb h6⟩

set_option maxHeartbeats 1000000 in
theorem walk_bad (m b t : Int) (w : World) (h : okB m b = false) :
    Calls Try.prog 5 #[.agg #[.int .i64 m, .int .i64 b], .int .i64 t] w fun e w' => e = .returned (.bool true) ∧ Below w.heap.size w w' := by
  cases hr : rngB m b
  all_goals
    go_enter Try.func5, Try.ntmps5
    go_wp2_with fail
    refine (count_any _ _ _).mono ?_
    rintro e w1 ⟨rfl, hb1⟩
    rw [cnt00]
    obtain ⟨hc1, hf1⟩ := bcell hb1
    go_wp2_with fail
    first
      | refine (check_range _ _ _ hr).mono ?_
      | refine (check_shape _ _ _ hr h).mono ?_
    rintro e w2 ⟨rfl, hb2⟩
    go_wp2_with fail
    refine (count_any _ _ _).mono ?_
    rintro e w3 ⟨rfl, hb3⟩
    rw [cnt00]
    go_wp2
    go_ret
    refine ⟨rfl, ?_⟩
    have s1 := hb1.size
    have s2 := hb2.size
    simp at s1
    exact ((((Below.refl _ _).alloc (Nat.le_refl _) _).trans (hb1.mono (by simp))).trans (hb2.mono (by omega))).trans (hb3.mono (by omega))

set_option maxHeartbeats 1000000 in
theorem walk_bit (m b t : Int) (w : World) (h : okB m b = true) (ht : t < 0 ∨ 3 < t) :
    Calls Try.prog 5 #[.agg #[.int .i64 m, .int .i64 b], .int .i64 t] w fun e w' => e = .returned (.bool true) ∧ Below w.heap.size w w' := by
  rcases ht with ht | ht
  · have hd : decide (t < 0) = true := by simp; omega
    go_enter Try.func5, Try.ntmps5
    go_wp2_with fail
    refine (count_any _ _ _).mono ?_
    rintro e w1 ⟨rfl, hb1⟩
    rw [cnt00]
    obtain ⟨hc1, hf1⟩ := bcell hb1
    go_wp2_with fail
    refine (check_ok _ _ _ h).mono ?_
    rintro e w2 ⟨rfl, hb2⟩
    go_wp2_with fail
    refine (count_any _ _ _).mono ?_
    rintro e w3 ⟨rfl, hb3⟩
    rw [cnt00]
    go_wp2
    go_ret
    refine ⟨rfl, ?_⟩
    have s1 := hb1.size
    have s2 := hb2.size
    simp at s1
    exact ((((Below.refl _ _).alloc (Nat.le_refl _) _).trans (hb1.mono (by simp))).trans (hb2.mono (by omega))).trans (hb3.mono (by omega))
  · have hd : decide (t < 0) = false := by simp; omega
    have hd2 : decide (3 < t) = true := by simp; omega
    go_enter Try.func5, Try.ntmps5
    go_wp2_with fail
    refine (count_any _ _ _).mono ?_
    rintro e w1 ⟨rfl, hb1⟩
    rw [cnt00]
    obtain ⟨hc1, hf1⟩ := bcell hb1
    go_wp2_with fail
    refine (check_ok _ _ _ h).mono ?_
    rintro e w2 ⟨rfl, hb2⟩
    go_wp2_with fail
    refine (count_any _ _ _).mono ?_
    rintro e w3 ⟨rfl, hb3⟩
    rw [cnt00]
    go_wp2
    go_ret
    refine ⟨rfl, ?_⟩
    have s1 := hb1.size
    have s2 := hb2.size
    simp at s1
    exact ((((Below.refl _ _).alloc (Nat.le_refl _) _).trans (hb1.mono (by simp))).trans (hb2.mono (by omega))).trans (hb3.mono (by omega))

set_option maxHeartbeats 1000000 in
theorem walk_ok (m b t : Int) (w : World) (h : okB m b = true) (ht0 : 0 ≤ t) (ht3 : t ≤ 3) :
    Calls Try.prog 5 #[.agg #[.int .i64 m, .int .i64 b], .int .i64 t] w fun e w' => e = .returned (.bool true) ∧ Below w.heap.size w w' := by
  have hd : decide (t < 0) = false := by simp; omega
  have hd2 : decide (3 < t) = false := by simp; omega
  obtain ⟨⟨hm0, hm1⟩, ⟨hb0, hb1⟩⟩ := ok_of h
  have H : Hid (okB m b = true) := h
  go_enter Try.func5, Try.ntmps5
  go_wp2_with fail
  refine (count_any _ _ _).mono ?_
  rintro e w1 ⟨rfl, hw1⟩
  rw [cnt00]
  obtain ⟨hc1, hf1⟩ := bcell hw1
  go_wp2_with fail
  refine (check_ok _ _ _ H.out).mono ?_
  rintro e w2 ⟨rfl, hw2⟩
  have s1 := hw1.size
  have s2 := hw2.size
  simp at s1
  obtain ⟨hc2, hf2⟩ := bcellB (hw2.mono (show w.heap.size + 1 ≤ _ by omega))
  clear hd hd2 h
  go_wp2
  go_loop [5, 6] (fun p i => ∃ k : Nat, (k : Int) ≤ t ∧ i = .int .i64 k ∧ p = .int .i64 (2 ^ k)) (fun _ i => (t - intOf i).toNat)
  case atStart => exact ⟨0, by omega, rfl, rfl⟩
  case round =>
    obtain ⟨k, hk, rfl, rfl⟩ := hrel
    obtain ⟨hp1, hp2⟩ := pow_bd k (by omega)
    by_cases hlt : (k : Int) < t
    · go_wp2
      go_round
      case rel => exact ⟨k + 1, by omega, by go_num, by rw [Int.pow_succ]⟩
      case measure => simp [intOf]; omega
    · generalize hB : (2 : Int) ^ k = B at *
      have HB2 : Hid ((2 : Int) ^ k = B) := hB
      clear hB
      have hz0 : w.heap.size < w2.heap.size := by omega
      by_cases hq : (m / B).tmod 2 = 1
      · have hq' : ((m / B).tmod 2 == 1) = true := by simp [hq]
        clear hq
        go_wp2
        go_ret
        exact ⟨rfl, (((Below.refl _ _).alloc (Nat.le_refl _) _).trans (hw1.mono (by simp))).trans (hw2.mono (by omega))⟩
      · have hq' : ((m / B).tmod 2 == 1) = false := by simp [hq]
        have FF := facts m b B k (by omega) HB2.out.symm H.out (by rwa [Int.tmod_eq_emod_of_nonneg (Int.ediv_nonneg hm0 (by omega))] at hq)
        have F1 : Hid (_ = _) := FF.1
        have F2 : Hid (_ = _) := FF.2.1
        have F3 : Hid (_ = _) := FF.2.2.1
        have F4 : Hid (_ = _) := FF.2.2.2.1
        have F5 : Hid (_ = _) := FF.2.2.2.2.1
        have F6 : Hid (_ = _) := FF.2.2.2.2.2
        clear FF
        clear hq
        go_wp2_with fail
        refine (meet_any _ _ _ _ _).mono ?_
        rintro e w3 ⟨rfl, hw3⟩
        rw [F1.out]
        have s3 := hw3.size
        simp at s3
        have hS : Below w.heap.size w w3 ∧ w3.cell? ⟨w.heap.size, 0, none⟩ = some (.int .i64 m) ∧ w3.cell? ⟨w.heap.size, 1, none⟩ = some (.int .i64 b) ∧
            w3.cell? ⟨w2.heap.size, 0, none⟩ = some (.int .i64 (m + B)) ∧ w3.cell? ⟨w2.heap.size, 1, none⟩ = some (.int .i64 b) ∧
            w3.cell? ⟨w2.heap.size + 1, 0, none⟩ = some (.int .i64 (m + B)) ∧ w3.cell? ⟨w2.heap.size + 1, 1, none⟩ = some (.int .i64 (b + B)) := by
          obtain ⟨hc3, hf3⟩ := bcell hw3
          refine ⟨((((((Below.refl _ _).alloc (Nat.le_refl _) _).trans (hw1.mono (by simp))).trans (hw2.mono (by omega))).alloc (by omega) _).alloc (by simp; omega) _).trans (hw3.mono (by simp; omega)), ?_, ?_, ?_, ?_, ?_, ?_⟩
          · rw [hc3 _ _ (by simp; omega), World.cell?_alloc_past _ _ _ (by simp; omega), World.cell?_alloc_past _ _ _ (by omega), hc2 _ _ (by omega), hc1 _ _ (by simp)]
            simp
          · rw [hc3 _ _ (by simp; omega), World.cell?_alloc_past _ _ _ (by simp; omega), World.cell?_alloc_past _ _ _ (by omega), hc2 _ _ (by omega), hc1 _ _ (by simp)]
            simp
          · rw [hc3 _ _ (by simp <;> omega), World.cell?_alloc_past _ _ _ (by simp)]
            simp
          · rw [hc3 _ _ (by simp <;> omega), World.cell?_alloc_past _ _ _ (by simp)]
            simp
          · rw [hc3 _ _ (by simp)]
            simp
          · rw [hc3 _ _ (by simp)]
            simp
        obtain ⟨k1, k2⟩ := cnt_bd (m + B) b
        have k3 := wrap_id (2 * cntN (m + B) b) (by omega) (by omega)
        clear hw1 hw2 hw3 hc1 hf1 hc2 hf2 s1 s2 H HB2 hq'
        go_wp2
        have hb4 : Below w3.heap.size w3 (w3.alloc (Obj.cells #[Value.int IntKind.i64 (mtM (m + B) b (m + B) (b + B)), Value.int IntKind.i64 (mtB (m + B) b (m + B) (b + B))] 27)) :=
          (Below.refl _ _).alloc (Nat.le_refl _) _
        have hS4 := keep6 hb4 hS
        generalize w3.alloc (Obj.cells #[Value.int IntKind.i64 (mtM (m + B) b (m + B) (b + B)), Value.int IntKind.i64 (mtB (m + B) b (m + B) (b + B))] 27) = W4 at *
        clear hb4 hS s3
        go_region_held3 (fun w' => Below w.heap.size w w' ∧ w'.cell? ⟨w.heap.size, 0, none⟩ = some (.int .i64 m) ∧ w'.cell? ⟨w.heap.size, 1, none⟩ = some (.int .i64 b) ∧
            w'.cell? ⟨w2.heap.size, 0, none⟩ = some (.int .i64 (m + B)) ∧ w'.cell? ⟨w2.heap.size, 1, none⟩ = some (.int .i64 b) ∧
            w'.cell? ⟨w2.heap.size + 1, 0, none⟩ = some (.int .i64 (m + B)) ∧ w'.cell? ⟨w2.heap.size + 1, 1, none⟩ = some (.int .i64 (b + B)))
          (first | exact keep6 (by assumption) (by assumption) | exact keep6 (Below.drew (Below.refl _ _)) (by assumption))
          (first
            | (go_at_call 12; refine (inside_any _ _ _ _ _).mono ?_; rintro e w' ⟨rfl, hb⟩; first | rw [F2.out] | rw [F3.out])
            | (go_at_call 11; refine (count_any _ _ _).mono ?_; rintro e w' ⟨rfl, hb⟩; try (first | rw [F4.out] | rw [F5.out]))
            | (go_at_call 14; refine (first_any _ _ _).mono ?_; rintro e w' ⟨rfl, hb⟩; try rw [F6.out]))
        go_wp2
        go_ret
        refine ⟨rfl, ?_⟩
        first
          | exact (‹Below w.heap.size w _ ∧ _›).1
          | exact (‹Below w.heap.size w _ ∧ _›).1.drew

theorem walk (m b t : Int) (w : World) :
    Calls Try.prog 5 #[.agg #[.int .i64 m, .int .i64 b], .int .i64 t] w fun e w' => e = .returned (.bool true) ∧ Below w.heap.size w w' := by
  cases h : okB m b
  · exact walk_bad m b t w h
  · by_cases ht : t < 0 ∨ 3 < t
    · exact walk_bit m b t w h ht
    · exact walk_ok m b t w h (by omega) (by omega)

end Go.Proofs.Ytclecpcnmfhhcaa.halves
