/- What the document's own functions on several cubes answer, and when an error is the one told. -/
import Derived.Test.YtclecpcnmfhhcaaDoorCubesHas
import Derived.Test.YtclecpcnmfhhcaaDoorRefCube
import Derived.Test.YtclecpcnmfhhcaaDoorAsErr2
namespace Go.Proofs.YtclecpcnmfhhcaaDoor
open Go.RowKit
set_option linter.unusedSimpArgs false

/-- The error of a number. -/
def errOf (n : Int) : Value := if n = 0 then .nilIface else .iface 59 (.int .i64 n)
theorem csV_errOf (L : List (Int × Int)) : csV L = errOf (fcN L) := rfl
theorem ceV_errOf (m b : Int) : ceV m b = errOf (refN m b) := by
  cases h : okB m b
  · rw [ce_no h]; simp [errOf, ref_ne h]
  · rw [ce_ok h, refN_ok h]; rfl
theorem same_errOf (n : Int) (w : World) (hg : HasErr w) :
    Calls Tryd.prog 6 #[errOf n, .int .i64 n] w fun e w' => e = .returned (.bool true) ∧ Below w.heap.size w w' := by
  by_cases h : n = 0
  · subst h
    refine (same_nil _ w).mono ?_
    rintro e w' ⟨rfl, hb⟩
    exact ⟨by simp, hb⟩
  · have e : errOf n = .iface 59 (.int .i64 n) := by simp [errOf, h]
    rw [e]
    refine (same_some _ _ w hg).mono ?_
    rintro e w' ⟨rfl, hb⟩
    exact ⟨by simp, hb⟩
theorem fc_ok {L : List (Int × Int)} (h : L.length ≤ 40) (h2 : okL L = true) : fcN L = 0 := by
  have : ¬ 40 < L.length := by omega
  simp [fcN, this, faN_ok h2]
theorem fc_at {L : List (Int × Int)} (h : L.length ≤ 40) {k : Nat} (hk : k < L.length) {m c : Int} (hL : L[k] = (m, c)) (h1 : okL (L.take k) = true) (h2 : okB m c = false) : fcN L = refN m c := by
  have h3 : ¬ 40 < L.length := by omega
  have h4 := (faN_at hk h1 (by rw [hL]; exact h2)).1
  rw [hL] at h4
  simp [fcN, h3, h4]

set_option maxHeartbeats 1000000 in
theorem refCubes_some (b o cap n : Nat) (L : List (Int × Int)) (w : World) (hc : CAt w b o L) (hn : L.length = n) (hl : n ≤ 40) :
    Calls Tryd.prog 19 #[.slice (some ⟨b, o, none⟩) n cap] w fun e w' => e = .returned (.int .i64 (fcN L)) ∧ Below w.heap.size w w' := by
  have HN : Hid (L.length = n) := hn
  clear hn
  go_enter Tryd.func19, Tryd.ntmps19
  go_wp2
  go_loopw [3] (fun i wr => ∃ k : Nat, k ≤ n ∧ i = .int .i64 k ∧ okL (L.take k) = true ∧ Below w.heap.size w wr)
    (fun i _ => n - (intOf i).toNat)
  case atStart => exact ⟨0, by omega, rfl, by simp [okL], Below.refl _ _⟩
  case round =>
    obtain ⟨k, hk, rfl, hok, hB⟩ := hrel
    have HB : Hid (Below w.heap.size w wr) := hB
    have HOK : Hid (okL (L.take k) = true) := hok
    clear hok
    by_cases hlt : k < n
    · obtain ⟨m, c, hkl, hL, q0, q1⟩ := (hc.later hB).at HN.out hlt
      have HL : Hid (L[k] = (m, c)) := hL
      clear hL hB
      cases ho : okB m c
      · have hz : refN m c ≠ 0 := ref_ne ho
        go_wp2_with fail
        refine (refCube_any _ _ _).mono ?_
        rintro e w1 ⟨rfl, hb1⟩
        go_wp2
        go_ret
        exact ⟨by rw [fc_at (by rw [HN.out]; exact hl) hkl HL.out HOK.out ho]; rfl, HB.out.trans (hb1.mono HB.out.size)⟩
      · go_wp2_with fail
        refine (refCube_any _ _ _).mono ?_
        rintro e w1 ⟨rfl, hb1⟩
        rw [refN_ok ho]
        have HB1 := HB.out.trans (hb1.mono HB.out.size)
        clear hb1
        go_wp2
        go_roundw
        case rel => exact ⟨k + 1, by omega, by go_num, okL_next hkl HOK.out (by rw [HL.out]; exact ho), HB1⟩
        case measure => simp [intOf]; omega
    · obtain rfl : k = n := by omega
      go_wp2
      go_ret
      exact ⟨by rw [fc_ok (by rw [HN.out]; exact hl) (by have := HOK.out; rw [← HN.out, List.take_length] at this; exact this)]; rfl, HB.out⟩

set_option maxHeartbeats 1000000 in
theorem refCubes_long (ao : Option Addr) (cap n : Nat) (w : World) (hl : 40 < n) :
    Calls Tryd.prog 19 #[.slice ao n cap] w fun e w' => e = .returned (.int .i64 4) ∧ Below w.heap.size w w' := by
  go_enter Tryd.func19, Tryd.ntmps19
  go_wp2
  go_ret
  exact ⟨rfl, Below.refl _ _⟩

set_option maxHeartbeats 1000000 in
theorem refCubes_nil (ao : Option Addr) (cap : Nat) (w : World) :
    Calls Tryd.prog 19 #[.slice ao 0 cap] w fun e w' => e = .returned (.int .i64 0) ∧ Below w.heap.size w w' := by
  go_enter Tryd.func19, Tryd.ntmps19
  go_wp2
  go_loopw [3] (fun i wr => i = .int .i64 0 ∧ wr = w) (fun i _ => 0)
  case atStart => exact ⟨rfl, rfl⟩
  case round =>
    obtain ⟨rfl, rfl⟩ := hrel
    go_wp2
    go_ret
    exact ⟨rfl, Below.refl _ _⟩

theorem refCubes_any (v : Value) (L : List (Int × Int)) (w : World) (h : SL w v L) :
    Calls Tryd.prog 19 #[v] w fun e w' => e = .returned (.int .i64 (fcN L)) ∧ Below w.heap.size w w' := by
  rcases h with ⟨ao, cap, rfl, rfl⟩ | ⟨b, o, cap, rfl, _, _, hc⟩
  · exact refCubes_nil ao cap w
  · by_cases h40 : 40 < L.length
    · have e : fcN L = 4 := by simp [fcN, h40]
      rw [e]; exact refCubes_long _ _ _ _ h40
    · exact refCubes_some _ _ _ _ L w hc rfl (by omega)

set_option maxHeartbeats 1000000 in
theorem refAny_some (b o cap n : Nat) (h : Int) (L : List (Int × Int)) (w : World) (hc : CAt w b o L) (hn : L.length = n) (hn2 : n ≤ maxLen) :
    Calls Tryd.prog 21 #[.slice (some ⟨b, o, none⟩) n cap, .int .i64 h] w fun e w' => e = .returned (.bool (anyB L h)) ∧ Below w.heap.size w w' := by
  have HN : Hid (L.length = n) := hn
  unfold maxLen at hn2
  clear hn
  go_enter Tryd.func21, Tryd.ntmps21
  go_wp2
  go_loopw [5] (fun i wr => ∃ k : Nat, k ≤ n ∧ i = .int .i64 k ∧ anyB (L.take k) h = false ∧ Below w.heap.size w wr)
    (fun i _ => n - (intOf i).toNat)
  case atStart => exact ⟨0, by omega, rfl, by simp [anyB], Below.refl _ _⟩
  case round =>
    obtain ⟨k, hk, rfl, hno, hB⟩ := hrel
    have HB : Hid (Below w.heap.size w wr) := hB
    have HNO : Hid (anyB (L.take k) h = false) := hno
    clear hno
    by_cases hlt : k < n
    · obtain ⟨m, c, hkl, hL, q0, q1⟩ := (hc.later hB).at HN.out hlt
      have HL : Hid (L[k] = (m, c)) := hL
      clear hL hB
      cases ho : hasB m c h
      · go_wp2_with fail
        refine (refHas_any _ _ _ _).mono ?_
        rintro e w1 ⟨rfl, hb1⟩
        rw [ho]
        have HB1 := HB.out.trans (hb1.mono HB.out.size)
        clear hb1
        go_wp2
        go_roundw
        case rel => exact ⟨k + 1, by omega, by go_num, any_next hkl HNO.out (by rw [HL.out]; exact ho), HB1⟩
        case measure => simp [intOf]; omega
      · go_wp2_with fail
        refine (refHas_any _ _ _ _).mono ?_
        rintro e w1 ⟨rfl, hb1⟩
        rw [ho]
        go_wp2
        go_ret
        exact ⟨by rw [any_hit hkl (by rw [HL.out]; exact ho)]; rfl, HB.out.trans (hb1.mono HB.out.size)⟩
    · obtain rfl : k = n := by omega
      go_wp2
      go_ret
      exact ⟨by have := HNO.out; rw [← HN.out, List.take_length] at this; rw [this]; rfl, HB.out⟩

set_option maxHeartbeats 1000000 in
theorem refAny_nil (ao : Option Addr) (cap : Nat) (h : Int) (w : World) :
    Calls Tryd.prog 21 #[.slice ao 0 cap, .int .i64 h] w fun e w' => e = .returned (.bool false) ∧ Below w.heap.size w w' := by
  go_enter Tryd.func21, Tryd.ntmps21
  go_wp2
  go_loopw [5] (fun i wr => i = .int .i64 0 ∧ wr = w) (fun i _ => 0)
  case atStart => exact ⟨rfl, rfl⟩
  case round =>
    obtain ⟨rfl, rfl⟩ := hrel
    go_wp2
    go_ret
    exact ⟨rfl, Below.refl _ _⟩

theorem refAny_any (v : Value) (L : List (Int × Int)) (h : Int) (w : World) (hs : SL w v L) :
    Calls Tryd.prog 21 #[v, .int .i64 h] w fun e w' => e = .returned (.bool (anyB L h)) ∧ Below w.heap.size w w' := by
  rcases hs with ⟨ao, cap, rfl, rfl⟩ | ⟨b, o, cap, rfl, h1, h2, hc⟩
  · exact refAny_nil ao cap h w
  · exact refAny_some _ _ _ _ _ L w hc rfl (by omega)
end Go.Proofs.YtclecpcnmfhhcaaDoor
