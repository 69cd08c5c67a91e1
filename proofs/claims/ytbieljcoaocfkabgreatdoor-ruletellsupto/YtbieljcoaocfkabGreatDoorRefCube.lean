/- What the document's own functions on one cube answer: contracts for the walks above them. -/
import Derived.Test.YtbieljcoaocfkabGreatDoorCubeHas
namespace Go.Proofs.YtbieljcoaocfkabGreatDoor
open Go.RowKit
set_option linter.unusedSimpArgs false

set_option maxHeartbeats 400000 in
theorem header_yes (n : Int) (w : World) (h : hdrB n = true) :
    Calls Tryz.prog 11 #[.int .i64 n] w fun e w' => e = .returned (.bool true) ∧ w' = w := by
  obtain ⟨h1, h2⟩ := hdr_of h
  clear h
  go_enter Tryz.func11, Tryz.ntmps11
  go_wp2
  go_ret
  exact ⟨rfl, rfl⟩

set_option maxHeartbeats 400000 in
theorem header_no (n : Int) (w : World) (h : hdrB n = false) :
    Calls Tryz.prog 11 #[.int .i64 n] w fun e w' => e = .returned (.bool false) ∧ w' = w := by
  rcases hdr_no h with h1 | h1
  · clear h
    go_enter Tryz.func11, Tryz.ntmps11
    go_wp2
    go_ret
    exact ⟨rfl, rfl⟩
  · have h2 : 0 ≤ n := by omega
    have h3 : decide (n < 16) = false := by simp; omega
    clear h
    go_enter Tryz.func11, Tryz.ntmps11
    go_wp2
    go_ret
    exact ⟨rfl, rfl⟩

theorem header_any (n : Int) (w : World) :
    Calls Tryz.prog 11 #[.int .i64 n] w fun e w' => e = .returned (.bool (hdrB n)) ∧ w' = w := by
  cases h : hdrB n
  · exact header_no n w h
  · exact header_yes n w h

set_option maxHeartbeats 400000 in
theorem refCube_any (m b : Int) (w : World) :
    Calls Tryz.prog 21 #[.agg #[.int .i64 m, .int .i64 b]] w fun e w' => e = .returned (.int .i64 (refN m b)) ∧ Below w.heap.size w w' := by
  cases hr : rngB m b
  · rw [refN_range hr]
    have HH : hdrB m = false ∨ (hdrB m = true ∧ hdrB b = false) := by
      cases h1 : hdrB m
      · exact .inl rfl
      · exact .inr ⟨rfl, by simpa [rngB, h1] using hr⟩
    rcases HH with hm | ⟨hm, hb⟩
    all_goals
      clear hr
      go_enter Tryz.func21, Tryz.ntmps21
      go_wp2_with fail
      refine (header_any _ _).mono ?_
      rintro e w' ⟨rfl, rfl⟩
      go_wp2_with fail
      refine (header_any _ _).mono ?_
      rintro e w' ⟨rfl, rfl⟩
      go_wp2
      go_ret
      exact ⟨rfl, (Below.refl _ _).alloc (Nat.le_refl _) _⟩
  · have hm : hdrB m = true := hdr_mk (rng_of hr).1
    have hb : hdrB b = true := hdr_mk (rng_of hr).2
    cases ho : okB m b
    · rw [refN_shape ho hr]
      have hz : (bits .and .i64 b m == b) = false := by rw [andEq hr, ho]
      clear hr ho
      go_enter Tryz.func21, Tryz.ntmps21
      go_wp2_with fail
      refine (header_any _ _).mono ?_
      rintro e w' ⟨rfl, rfl⟩
      go_wp2_with fail
      refine (header_any _ _).mono ?_
      rintro e w' ⟨rfl, rfl⟩
      go_wp2
      go_ret
      exact ⟨rfl, (Below.refl _ _).alloc (Nat.le_refl _) _⟩
    · rw [refN_ok ho]
      have hz : (bits .and .i64 b m == b) = true := by rw [andEq hr, ho]
      clear hr ho
      go_enter Tryz.func21, Tryz.ntmps21
      go_wp2_with fail
      refine (header_any _ _).mono ?_
      rintro e w' ⟨rfl, rfl⟩
      go_wp2_with fail
      refine (header_any _ _).mono ?_
      rintro e w' ⟨rfl, rfl⟩
      go_wp2
      go_ret
      exact ⟨rfl, (Below.refl _ _).alloc (Nat.le_refl _) _⟩

set_option maxHeartbeats 400000 in
theorem refHas_any (m b h : Int) (w : World) :
    Calls Tryz.prog 12 #[.agg #[.int .i64 m, .int .i64 b], .int .i64 h] w fun e w' => e = .returned (.bool (hasB m b h)) ∧ Below w.heap.size w w' := by
  cases hh : hdrB h
  · have e : hasB m b h = false := by simp [hasB, hh]
    rw [e]; clear e
    go_enter Tryz.func12, Tryz.ntmps12
    go_wp2_with fail
    refine (header_any _ _).mono ?_
    rintro e w' ⟨rfl, rfl⟩
    go_wp2
    go_ret
    exact ⟨rfl, (Below.refl _ _).alloc (Nat.le_refl _) _⟩
  · cases ho : okB m b
    · have e : hasB m b h = false := by simp [hasB, ho]
      have hz : (refN m b == 0) = false := by rw [ok_refN, ho]
      rw [e]; clear e ho
      go_enter Tryz.func12, Tryz.ntmps12
      go_wp2_with fail
      refine (header_any _ _).mono ?_
      rintro e w' ⟨rfl, rfl⟩
      go_wp2_with fail
      refine (refCube_any _ _ _).mono ?_
      rintro e w1 ⟨rfl, hb1⟩
      go_wp2
      go_ret
      exact ⟨rfl, ((Below.refl _ _).alloc (Nat.le_refl _) _).trans (hb1.mono (by simp))⟩
    · have e : hasB m b h = (bits .and .i64 h m == b) := by simp [hasB, hh, ho]
      rw [e, ]; clear e
      go_enter Tryz.func12, Tryz.ntmps12
      go_wp2_with fail
      refine (header_any _ _).mono ?_
      rintro e w' ⟨rfl, rfl⟩
      go_wp2_with fail
      refine (refCube_any _ _ _).mono ?_
      rintro e w1 ⟨rfl, hb1⟩
      rw [refN_ok ho]
      obtain ⟨hc1, hf1⟩ := bcell hb1
      go_wp2
      go_ret
      exact ⟨rfl, ((Below.refl _ _).alloc (Nat.le_refl _) _).trans (hb1.mono (by simp))⟩

end Go.Proofs.YtbieljcoaocfkabGreatDoor
