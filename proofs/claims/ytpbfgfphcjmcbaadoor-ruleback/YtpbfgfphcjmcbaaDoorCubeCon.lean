/- What each function of package cube answers, called with any cubes: contracts for the walks above them. -/
import Derived.Test.YtpbfgfphcjmcbaaDoorRows
import Derived.Test.YtpbfgfphcjmcbaaDoorCubeMath
import Derived.WalkKit
import Derived.WalkSpells
import Derived.Below
namespace Go.Proofs.YtpbfgfphcjmcbaaDoor
open Go.RowKit
set_option linter.unusedSimpArgs false

theorem bcell {W w1 : World} (hb : Below W.heap.size W w1) : (∀ b o, b < W.heap.size → w1.cell? ⟨b, o, none⟩ = W.cell? ⟨b, o, none⟩) ∧ (∀ b o, b < W.heap.size → w1.frozen? ⟨b, o, none⟩ = W.frozen? ⟨b, o, none⟩) :=
  ⟨fun b o h => hb.cell (p := ⟨b, o, none⟩) h, fun b o h => hb.frozen (p := ⟨b, o, none⟩) h⟩

/-- What a call left alone below B: cells and marks. -/
theorem bcellB {B : Nat} {W w1 : World} (hb : Below B W w1) : (∀ b o, b < B → w1.cell? ⟨b, o, none⟩ = W.cell? ⟨b, o, none⟩) ∧ (∀ b o, b < B → w1.frozen? ⟨b, o, none⟩ = W.frozen? ⟨b, o, none⟩) :=
  ⟨fun b o h => hb.cell (p := ⟨b, o, none⟩) h, fun b o h => hb.frozen (p := ⟨b, o, none⟩) h⟩

set_option maxHeartbeats 400000 in
theorem isHeader_yes (n : Int) (w : World) (h : hdrB n = true) :
    Calls Tryd.prog 16 #[.int .i64 n] w fun e w' => e = .returned (.bool true) ∧ w' = w := by
  obtain ⟨h1, h2⟩ := hdr_of h
  clear h
  go_enter Tryd.func16, Tryd.ntmps16
  go_wp2
  go_ret
  exact ⟨rfl, rfl⟩

set_option maxHeartbeats 400000 in
theorem isHeader_no (n : Int) (w : World) (h : hdrB n = false) :
    Calls Tryd.prog 16 #[.int .i64 n] w fun e w' => e = .returned (.bool false) ∧ w' = w := by
  rcases hdr_no h with h1 | h1
  · clear h
    go_enter Tryd.func16, Tryd.ntmps16
    go_wp2
    go_ret
    exact ⟨rfl, rfl⟩
  · have h2 : 0 ≤ n := by omega
    have h3 : decide (n < 16) = false := by simp; omega
    clear h
    go_enter Tryd.func16, Tryd.ntmps16
    go_wp2
    go_ret
    exact ⟨rfl, rfl⟩

set_option maxHeartbeats 400000 in
theorem check_range (m b : Int) (w : World) (h : rngB m b = false) :
    Calls Tryd.prog 21 #[.agg #[.int .i64 m, .int .i64 b]] w fun e w' => e = .returned (.iface 40 (.int .i64 1)) ∧ Below w.heap.size w w' := by
  by_cases hm : hdrB m = true
  · have hb : hdrB b = false := by simpa [rngB, hm] using h
    clear h
    go_enter Tryd.func21, Tryd.ntmps21
    go_wp2_with fail
    refine (isHeader_yes _ _ hm).mono ?_
    rintro e w' ⟨rfl, rfl⟩
    go_wp2_with fail
    refine (isHeader_no _ _ hb).mono ?_
    rintro e w' ⟨rfl, rfl⟩
    go_wp2
    go_ret
    exact ⟨rfl, (Below.refl _ _).alloc (Nat.le_refl _) _⟩
  · have hm' : hdrB m = false := by simpa using hm
    clear h hm
    go_enter Tryd.func21, Tryd.ntmps21
    go_wp2_with fail
    refine (isHeader_no _ _ hm').mono ?_
    rintro e w' ⟨rfl, rfl⟩
    go_wp2
    go_ret
    exact ⟨rfl, (Below.refl _ _).alloc (Nat.le_refl _) _⟩

set_option maxHeartbeats 400000 in
theorem check_shape (m b : Int) (w : World) (h : rngB m b = true) (h2 : okB m b = false) :
    Calls Tryd.prog 21 #[.agg #[.int .i64 m, .int .i64 b]] w fun e w' => e = .returned (.iface 40 (.int .i64 3)) ∧ Below w.heap.size w w' := by
  have hm : hdrB m = true := by simp only [rngB, Bool.and_eq_true] at h; exact h.1
  have hb : hdrB b = true := by simp only [rngB, Bool.and_eq_true] at h; exact h.2
  have hz : (bits .andNot .i64 b m == 0) = false := by simpa [okB, h] using h2
  clear h h2
  go_enter Tryd.func21, Tryd.ntmps21
  go_wp2_with fail
  refine (isHeader_yes _ _ hm).mono ?_
  rintro e w' ⟨rfl, rfl⟩
  go_wp2_with fail
  refine (isHeader_yes _ _ hb).mono ?_
  rintro e w' ⟨rfl, rfl⟩
  go_wp2
  go_ret
  exact ⟨rfl, (Below.refl _ _).alloc (Nat.le_refl _) _⟩

set_option maxHeartbeats 400000 in
theorem check_ok (m b : Int) (w : World) (h : okB m b = true) :
    Calls Tryd.prog 21 #[.agg #[.int .i64 m, .int .i64 b]] w fun e w' => e = .returned .nilIface ∧ Below w.heap.size w w' := by
  have hm : hdrB m = true := hdr_mk (ok_of h).1
  have hb : hdrB b = true := hdr_mk (ok_of h).2
  have hz : (bits .andNot .i64 b m == 0) = true := by simp only [okB, Bool.and_eq_true] at h; exact h.2
  clear h
  go_enter Tryd.func21, Tryd.ntmps21
  go_wp2_with fail
  refine (isHeader_yes _ _ hm).mono ?_
  rintro e w' ⟨rfl, rfl⟩
  go_wp2_with fail
  refine (isHeader_yes _ _ hb).mono ?_
  rintro e w' ⟨rfl, rfl⟩
  go_wp2
  go_ret
  exact ⟨rfl, (Below.refl _ _).alloc (Nat.le_refl _) _⟩

set_option maxHeartbeats 400000 in
theorem isRight_any (m b : Int) (w : World) :
    Calls Tryd.prog 18 #[.agg #[.int .i64 m, .int .i64 b]] w fun e w' => e = .returned (.bool (okB m b)) ∧ Below w.heap.size w w' := by
  cases hr : rngB m b
  · have ho : okB m b = false := by simp [okB, hr]
    rw [ho]
    clear ho
    go_enter Tryd.func18, Tryd.ntmps18
    go_wp2_with fail
    refine (check_range _ _ _ hr).mono ?_
    rintro e w' ⟨rfl, hb⟩
    go_wp2
    go_ret
    exact ⟨rfl, ((Below.refl _ _).alloc (Nat.le_refl _) _).trans (hb.mono (by simp))⟩
  · cases ho : okB m b
    · go_enter Tryd.func18, Tryd.ntmps18
      go_wp2_with fail
      refine (check_shape _ _ _ hr ho).mono ?_
      rintro e w' ⟨rfl, hb⟩
      go_wp2
      go_ret
      exact ⟨rfl, ((Below.refl _ _).alloc (Nat.le_refl _) _).trans (hb.mono (by simp))⟩
    · go_enter Tryd.func18, Tryd.ntmps18
      go_wp2_with fail
      refine (check_ok _ _ _ ho).mono ?_
      rintro e w' ⟨rfl, hb⟩
      go_wp2
      go_ret
      exact ⟨rfl, ((Below.refl _ _).alloc (Nat.le_refl _) _).trans (hb.mono (by simp))⟩

end Go.Proofs.YtpbfgfphcjmcbaaDoor
