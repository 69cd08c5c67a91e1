/- What the functions of package cube that reckon answer, called with any cubes: contracts for the walks above them. -/
import Derived.Test.YtclecpcnmfhhcaaDoorCubeBit
namespace Go.Proofs.YtclecpcnmfhhcaaDoor
open Go.RowKit
set_option linter.unusedSimpArgs false

set_option maxHeartbeats 400000 in
theorem ones64_any (m : Int) (w : World) (h : 0 ≤ m ∧ m < 16) :
    Calls Tryd.prog 44 #[.int .u64 m] w fun e w' => e = .returned (.int .i64 (pop m)) ∧ w' = w := by
  obtain ⟨k, rfl⟩ := small h
  clear h
  go_enter Tryd.func44, Tryd.ntmps44
  go_wp2
  go_ret
  refine ⟨ret_int ?_, rfl⟩
  revert k
  decide +kernel

set_option maxHeartbeats 400000 in
theorem ones_any (m : Int) (w : World) (h : 0 ≤ m ∧ m < 16) :
    Calls Tryd.prog 37 #[.int .u64 m] w fun e w' => e = .returned (.int .i64 (pop m)) ∧ w' = w := by
  go_enter Tryd.func37, Tryd.ntmps37
  go_wp2_with fail
  refine (ones64_any _ _ h).mono ?_
  rintro e w' ⟨rfl, rfl⟩
  go_wp2
  go_ret
  exact ⟨rfl, rfl⟩

set_option maxHeartbeats 400000 in
theorem count_any (m b : Int) (w : World) :
    Calls Tryd.prog 16 #[.agg #[.int .i64 m, .int .i64 b]] w fun e w' => e = .returned (.int .i64 (cntN m b)) ∧ Below w.heap.size w w' := by
  cases ho : okB m b
  · have hf : cntN m b = 0 := by simp [cntN, ho]
    rw [hf]
    clear hf
    go_enter Tryd.func16, Tryd.ntmps16
    go_wp2_with fail
    refine (isRight_any _ _ _).mono ?_
    rintro e w' ⟨rfl, hb⟩
    go_wp2
    go_ret
    exact ⟨rfl, ((Below.refl _ _).alloc (Nat.le_refl _) _).trans (hb.mono (by simp))⟩
  · have hf : cntN m b = 2 ^ (4 - pop m).toNat := by simp [cntN, ho]
    rw [hf]
    clear hf
    have hm := (ok_of ho).1
    obtain ⟨hm1, hm2⟩ := hm
    obtain ⟨hp1, hp2⟩ := pop_le m
    go_enter Tryd.func16, Tryd.ntmps16
    go_wp2_with fail
    refine (isRight_any _ _ _).mono ?_
    rintro e w' ⟨rfl, hb⟩
    obtain ⟨hc, hf⟩ := bcell hb
    go_wp2_with fail
    refine (ones_any _ _ ⟨hm1, hm2⟩).mono ?_
    rintro e w' ⟨rfl, rfl⟩
    go_wp2
    go_ret
    refine ⟨ret_int ?_, ((Below.refl _ _).alloc (Nat.le_refl _) _).trans (hb.mono (by simp))⟩
    clear hb hc hf
    obtain ⟨k, rfl⟩ := small ⟨hm1, hm2⟩
    clear hm1 hm2 hp1 hp2 ho
    revert k
    decide +kernel

theorem meetBelow (w : World) (x y z : Obj) (w1 : World) (h : Below (((w.alloc x).alloc y).alloc z).heap.size (((w.alloc x).alloc y).alloc z) w1) : Below w.heap.size w w1 :=
  ((((Below.refl _ _).alloc (Nat.le_refl _) _).alloc (by simp <;> omega) _).alloc (by simp <;> omega) _).trans (h.mono (by simp <;> omega))

set_option maxHeartbeats 400000 in
theorem meet_bad1 (m b n c : Int) (w : World) (h : okB m b = false) :
    Calls Tryd.prog 14 #[.agg #[.int .i64 m, .int .i64 b], .agg #[.int .i64 n, .int .i64 c]] w fun e w' => e = .returned (.tuple #[.agg #[.int .i64 0, .int .i64 0], .bool false]) ∧ Below w.heap.size w w' := by
  go_enter Tryd.func14, Tryd.ntmps14
  go_wp2_with fail
  refine (isRight_any _ _ _).mono ?_
  rintro e w1 ⟨rfl, hb1⟩
  obtain ⟨hc1, hf1⟩ := bcell hb1
  have hz1 : w.heap.size + 2 < w1.heap.size := by have := hb1.size; simp at this; omega
  go_wp2
  refine bodyPost_ret (v := .tuple #[.agg #[.int .i64 0, .int .i64 0], .bool false]) (by simp [results, Tryd.results14, go_sem, hc1]) rfl ⟨rfl, ?_⟩
  exact (meetBelow w _ _ _ _ hb1).setCell (by simp <;> omega) _ |>.setCell (by simp <;> omega) _

set_option maxHeartbeats 400000 in
theorem meet_bad2 (m b n c : Int) (w : World) (h : okB m b = true) (h2 : okB n c = false) :
    Calls Tryd.prog 14 #[.agg #[.int .i64 m, .int .i64 b], .agg #[.int .i64 n, .int .i64 c]] w fun e w' => e = .returned (.tuple #[.agg #[.int .i64 0, .int .i64 0], .bool false]) ∧ Below w.heap.size w w' := by
  go_enter Tryd.func14, Tryd.ntmps14
  go_wp2_with fail
  refine (isRight_any _ _ _).mono ?_
  rintro e w1 ⟨rfl, hb1⟩
  obtain ⟨hc1, hf1⟩ := bcell hb1
  have hz1 : w.heap.size + 2 < w1.heap.size := by have := hb1.size; simp at this; omega
  go_wp2_with fail
  refine (isRight_any _ _ _).mono ?_
  rintro e w2 ⟨rfl, hb2⟩
  have hz2 : w.heap.size + 2 < w2.heap.size := by have := hb2.size; omega
  obtain ⟨hc2, hf2⟩ := bcellB (hb2.mono (show w.heap.size + 3 ≤ _ by omega))
  go_wp2
  refine bodyPost_ret (v := .tuple #[.agg #[.int .i64 0, .int .i64 0], .bool false]) (by simp [results, Tryd.results14, go_sem, hc1, hc2, hz1]) rfl ⟨rfl, ?_⟩
  exact ((meetBelow w _ _ _ _ hb1).trans (hb2.mono (by omega))).setCell (by simp <;> omega) _ |>.setCell (by simp <;> omega) _

set_option maxHeartbeats 400000 in
theorem meet_no (m b n c : Int) (w : World) (h : okB m b = true) (h2 : okB n c = true) (h3 : (bits .and .i64 (bits .and .i64 (bits .xor .i64 b c) m) n == 0) = false) :
    Calls Tryd.prog 14 #[.agg #[.int .i64 m, .int .i64 b], .agg #[.int .i64 n, .int .i64 c]] w fun e w' => e = .returned (.tuple #[.agg #[.int .i64 0, .int .i64 0], .bool false]) ∧ Below w.heap.size w w' := by
  go_enter Tryd.func14, Tryd.ntmps14
  go_wp2_with fail
  refine (isRight_any _ _ _).mono ?_
  rintro e w1 ⟨rfl, hb1⟩
  obtain ⟨hc1, hf1⟩ := bcell hb1
  have hz1 : w.heap.size + 2 < w1.heap.size := by have := hb1.size; simp at this; omega
  go_wp2_with fail
  refine (isRight_any _ _ _).mono ?_
  rintro e w2 ⟨rfl, hb2⟩
  have hz2 : w.heap.size + 2 < w2.heap.size := by have := hb2.size; omega
  obtain ⟨hc2, hf2⟩ := bcellB (hb2.mono (show w.heap.size + 3 ≤ _ by omega))
  go_wp2
  refine bodyPost_ret (v := .tuple #[.agg #[.int .i64 0, .int .i64 0], .bool false]) (by simp [results, Tryd.results14, go_sem, hc1, hc2, hz1]) rfl ⟨rfl, ?_⟩
  exact ((meetBelow w _ _ _ _ hb1).trans (hb2.mono (by omega))).setCell (by simp <;> omega) _ |>.setCell (by simp <;> omega) _

set_option maxHeartbeats 400000 in
theorem meet_yes (m b n c : Int) (w : World) (h : okB m b = true) (h2 : okB n c = true) (h3 : (bits .and .i64 (bits .and .i64 (bits .xor .i64 b c) m) n == 0) = true) :
    Calls Tryd.prog 14 #[.agg #[.int .i64 m, .int .i64 b], .agg #[.int .i64 n, .int .i64 c]] w fun e w' => e = .returned (.tuple #[.agg #[.int .i64 (bits .or .i64 m n), .int .i64 (bits .or .i64 b c)], .bool true]) ∧ Below w.heap.size w w' := by
  go_enter Tryd.func14, Tryd.ntmps14
  go_wp2_with fail
  refine (isRight_any _ _ _).mono ?_
  rintro e w1 ⟨rfl, hb1⟩
  obtain ⟨hc1, hf1⟩ := bcell hb1
  have hz1 : w.heap.size + 2 < w1.heap.size := by have := hb1.size; simp at this; omega
  go_wp2_with fail
  refine (isRight_any _ _ _).mono ?_
  rintro e w2 ⟨rfl, hb2⟩
  have hz2 : w.heap.size + 2 < w2.heap.size := by have := hb2.size; omega
  obtain ⟨hc2, hf2⟩ := bcellB (hb2.mono (show w.heap.size + 3 ≤ _ by omega))
  go_wp2
  refine bodyPost_ret (v := .tuple #[.agg #[.int .i64 (bits .or .i64 m n), .int .i64 (bits .or .i64 b c)], .bool true]) (by simp [results, Tryd.results14, go_sem, hc1, hc2, hz1]) rfl ⟨rfl, ?_⟩
  exact ((meetBelow w _ _ _ _ hb1).trans (hb2.mono (by omega))).setCell (by simp <;> omega) _ |>.setCell (by simp <;> omega) _

theorem meet_any (m b n c : Int) (w : World) :
    Calls Tryd.prog 14 #[.agg #[.int .i64 m, .int .i64 b], .agg #[.int .i64 n, .int .i64 c]] w fun e w' => e = .returned (.tuple #[.agg #[.int .i64 (mtM m b n c), .int .i64 (mtB m b n c)], .bool (mtOk m b n c)]) ∧ Below w.heap.size w w' := by
  cases h1 : okB m b
  · have e : mtOk m b n c = false := by simp [mtOk, h1]
    have e1 : mtM m b n c = 0 := by simp [mtM, e]
    have e2 : mtB m b n c = 0 := by simp [mtB, e]
    rw [e, e1, e2]; exact meet_bad1 m b n c w h1
  · cases h2 : okB n c
    · have e : mtOk m b n c = false := by simp [mtOk, h2]
      have e1 : mtM m b n c = 0 := by simp [mtM, e]
      have e2 : mtB m b n c = 0 := by simp [mtB, e]
      rw [e, e1, e2]; exact meet_bad2 m b n c w h1 h2
    · cases h3 : (bits .and .i64 (bits .and .i64 (bits .xor .i64 b c) m) n == 0)
      · have e : mtOk m b n c = false := by simp only [mtOk, h1, h2, h3, Bool.and_false]
        have e1 : mtM m b n c = 0 := by simp [mtM, e]
        have e2 : mtB m b n c = 0 := by simp [mtB, e]
        rw [e, e1, e2]; exact meet_no m b n c w h1 h2 h3
      · have e : mtOk m b n c = true := by simp only [mtOk, h1, h2, h3, Bool.and_true]
        have e1 : mtM m b n c = bits .or .i64 m n := by simp [mtM, e]
        have e2 : mtB m b n c = bits .or .i64 b c := by simp [mtB, e]
        rw [e, e1, e2]; exact meet_yes m b n c w h1 h2 h3

end Go.Proofs.YtclecpcnmfhhcaaDoor
