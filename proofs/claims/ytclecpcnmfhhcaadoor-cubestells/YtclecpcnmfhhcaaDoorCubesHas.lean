/- What Has and Headers of package cubes answer: contracts for the walks above them. -/
import Derived.Test.YtclecpcnmfhhcaaDoorCubesCon
namespace Go.Proofs.YtclecpcnmfhhcaaDoor
open Go.RowKit
set_option linter.unusedSimpArgs false

set_option maxHeartbeats 1000000 in
theorem idx_some (b o cap n B : Nat) (h : Int) (L : List (Int × Int)) (w : World) (hc : CAt w b o L) (hn : L.length = n) (hn2 : n ≤ maxLen) (hB0 : w.cell? ⟨B, 0, none⟩ = some (.int .i64 h)) :
    Calls Tryd.prog 45 #[.slice (some ⟨b, o, none⟩) n cap, .func (Fn.func 39) #[] #[.pointer (some ⟨B, 0, none⟩)]] w fun e w' => (∃ r, e = .returned (.int .i64 r) ∧ decide (0 ≤ r) = anyB L h) ∧ Below w.heap.size w w' := by
  have HN : Hid (L.length = n) := hn
  have hB1 : B < w.heap.size := World.block_lt_of_cell? _ _ hB0
  unfold maxLen at hn2
  clear hn
  go_enter Tryd.func45, Tryd.ntmps45
  go_wp2
  go_loopw [8] (fun i wr => ∃ k : Nat, k ≤ n ∧ i = .int .i64 k ∧ anyB (L.take k) h = false ∧ Below w.heap.size w wr)
    (fun i _ => n - (intOf i).toNat)
  case atStart => exact ⟨0, by omega, rfl, by simp [anyB], Below.refl _ _⟩
  case round =>
    obtain ⟨k, hk, rfl, hno, hB⟩ := hrel
    have HB : Hid (Below w.heap.size w wr) := hB
    have HNO : Hid (anyB (L.take k) h = false) := hno
    clear hno
    by_cases hlt : k < n
    · obtain ⟨m, c, hkl, hL, q0, q1⟩ := (hc.later hB).at HN.out hlt
      have qB := hB.cell (p := ⟨B, 0, none⟩) hB1
      rw [hB0] at qB
      have HL : Hid (L[k] = (m, c)) := hL
      clear hL hB
      cases ho : hasB m c h
      · go_wp2_with fail
        refine (has1_any _ _ _ _ _ qB).mono ?_
        rintro e w1 ⟨rfl, hb1⟩
        rw [ho]
        have HB1 := HB.out.trans (hb1.mono HB.out.size)
        clear hb1
        go_wp2
        go_roundw
        case rel => exact ⟨k + 1, by omega, by go_num, any_next hkl HNO.out (by rw [HL.out]; exact ho), HB1⟩
        case measure => simp [intOf]; omega
      · go_wp2_with fail
        refine (has1_any _ _ _ _ _ qB).mono ?_
        rintro e w1 ⟨rfl, hb1⟩
        rw [ho]
        go_wp2
        go_ret
        exact ⟨⟨_, rfl, by rw [any_hit hkl (by rw [HL.out]; exact ho)]; simp⟩, HB.out.trans (hb1.mono HB.out.size)⟩
    · obtain rfl : k = n := by omega
      go_wp2
      go_ret
      exact ⟨⟨_, rfl, by have := HNO.out; rw [← HN.out, List.take_length] at this; rw [this]; simp⟩, HB.out⟩

set_option maxHeartbeats 1000000 in
theorem idx_nil (ao : Option Addr) (cap : Nat) (B : Nat) (w : World) :
    Calls Tryd.prog 45 #[.slice ao 0 cap, .func (Fn.func 39) #[] #[.pointer (some ⟨B, 0, none⟩)]] w fun e w' => (∃ r, e = .returned (.int .i64 r) ∧ decide (0 ≤ r) = false) ∧ Below w.heap.size w w' := by
  go_enter Tryd.func45, Tryd.ntmps45
  go_wp2
  go_loopw [8] (fun i wr => i = .int .i64 0 ∧ wr = w) (fun i _ => 0)
  case atStart => exact ⟨rfl, rfl⟩
  case round =>
    obtain ⟨rfl, rfl⟩ := hrel
    go_wp2
    go_ret
    exact ⟨⟨_, rfl, by simp⟩, Below.refl _ _⟩

theorem idx_any (v : Value) (B : Nat) (h : Int) (L : List (Int × Int)) (w : World) (hs : SL w v L) (hB0 : w.cell? ⟨B, 0, none⟩ = some (.int .i64 h)) :
    Calls Tryd.prog 45 #[v, .func (Fn.func 39) #[] #[.pointer (some ⟨B, 0, none⟩)]] w fun e w' => (∃ r, e = .returned (.int .i64 r) ∧ decide (0 ≤ r) = anyB L h) ∧ Below w.heap.size w w' := by
  rcases hs with ⟨ao, cap, rfl, rfl⟩ | ⟨b, o, cap, rfl, h1, h2, hc⟩
  · exact idx_nil ao cap B w
  · exact idx_some _ _ _ _ _ _ L w hc rfl (by omega) hB0

set_option maxHeartbeats 1000000 in
theorem contains_any (v : Value) (B : Nat) (h : Int) (L : List (Int × Int)) (w : World) (hs : SL w v L) (hB0 : w.cell? ⟨B, 0, none⟩ = some (.int .i64 h)) :
    Calls Tryd.prog 38 #[v, .func (Fn.func 39) #[] #[.pointer (some ⟨B, 0, none⟩)]] w fun e w' => e = .returned (.bool (anyB L h)) ∧ Below w.heap.size w w' := by
  go_enter Tryd.func38, Tryd.ntmps38
  go_wp2_with fail
  refine (idx_any v B h L _ hs hB0).mono ?_
  rintro e w1 ⟨⟨r, rfl, hr⟩, hb1⟩
  have HR : Hid (decide (0 ≤ r) = anyB L h) := hr
  clear hr
  go_wp2
  go_ret
  exact ⟨by rw [← HR.out]; rfl, hb1⟩

set_option maxHeartbeats 1000000 in
theorem csHas_any (v : Value) (L : List (Int × Int)) (h : Int) (w : World) (hs : SL w v L) :
    Calls Tryd.prog 25 #[v, .int .i64 h] w fun e w' => e = .returned (.bool (anyB L h)) ∧ Below w.heap.size w w' := by
  go_enter Tryd.func25, Tryd.ntmps25
  go_wp2_with fail
  refine (contains_any v w.heap.size h L _ (hs.later ((Below.refl _ _).alloc (Nat.le_refl _) _)) (by simp)).mono ?_
  rintro e w1 ⟨rfl, hb1⟩
  go_wp2
  go_ret
  exact ⟨rfl, ((Below.refl _ _).alloc (Nat.le_refl _) _).trans (hb1.mono (by simp))⟩
end Go.Proofs.YtclecpcnmfhhcaaDoor
