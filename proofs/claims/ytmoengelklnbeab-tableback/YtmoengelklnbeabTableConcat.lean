/- What slices.Grow, slices.Concat, slices.Index answer at tables. -/
import Derived.Test.YtmoengelklnbeabTableApp
import Derived.Test.YtmoengelklnbeabTableMath
import Derived.Deep.CutRange
import Derived.Deep.CutBlock
namespace Go.Proofs.Ytmoengelklnbeab
open Go.RowKit
set_option linter.unusedSimpArgs false
set_option linter.unusedVariables false

set_option maxHeartbeats 2000000 in
set_option maxRecDepth 100000 in
/-- Grow of nil: a row of the call's own, with nothing in it. -/
theorem grow_nil (n : Nat) (w : World) (hn : n ≤ 1000) :
    Calls Try.prog 30 #[.slice none 0 0, .int .i64 n] w fun e w' => ∃ v, e = .returned v ∧ w'.ownsRow w.heap.size 25 6 v 0 [] ∧ Below w.heap.size w w' := by
  have h1 : ¬ ((n : Int) < 0) := by omega
  by_cases h0 : n = 0
  · subst h0
    go_enter Try.func30, Try.ntmps30
    go_wp2
    go_ret
    exact ⟨_, rfl, World.ownsRow_nil _ _ _ _, Below.refl _ _⟩
  · obtain ⟨i0, hi, hz0, hz1, hz2⟩ := info_parts infoRule
    have h3 : wrap64 ((n : Int) - 0) = (n : Int) := by unfold wrap64; omega
    have h4 : (n : Int) > 0 := by omega
    have hrz : ∀ ty, (Builtin.append_ #[32, 3] ty #[.slice none 0 0, .int .i64 n]).run Try.prog w =
        .ok (.slice (some ⟨w.heap.size, 0, none⟩) n (grownCap w n 0 25)) (w.drew.alloc (.cells (Builtin.zeroCells (Value.agg #[.int .i64 0, .int .i64 0, .int .i64 0, .int .i64 0, .int .i64 0, .int .i64 0]).cells n ++ Builtin.zeroCells (Value.agg #[.int .i64 0, .int .i64 0, .int .i64 0, .int .i64 0, .int .i64 0, .int .i64 0]).cells (grownCap w n 0 25 - n)) 25)) := fun ty =>
      Lib.run_append_nil_zeros w 32 3 ty 25 i0 _ .i64 .i64 Try.underlying32 Try.underlying3 hi hz0 n (by omega) (by rw [hz1]; decide) (by omega) (by rw [hz2]; omega)
    have hGn : n ≤ grownCap w n 0 25 := grownCap_ge w _ _ _
    have hGm : grownCap w n 0 25 ≤ maxLen := grownCap_le_maxLen w n 0 25 (by unfold maxLen; omega)
    generalize grownCap w n 0 25 = G at *
    have HM : Hid (G ≤ maxLen) := hGm
    have hG63 : G ≤ 9223372036854775807 := by unfold maxLen at hGm; omega
    have HO : Hid ((w.drew.alloc (.cells (Builtin.zeroCells (Value.agg #[.int .i64 0, .int .i64 0, .int .i64 0, .int .i64 0, .int .i64 0, .int .i64 0]).cells n ++ Builtin.zeroCells (Value.agg #[.int .i64 0, .int .i64 0, .int .i64 0, .int .i64 0, .int .i64 0, .int .i64 0]).cells (G - n)) 25)).ownsRow w.heap.size 25 6 (.slice (some ⟨w.heap.size, 0, none⟩) 0 G) 0 []) :=
      World.ownsRow_made w.drew _ G (Nat.le_refl _) HM.out (by
        simp only [Array.size_append, size_zeroCells, sixCells, ← Nat.add_mul]
        congr 1
        omega)
    clear hGm
    go_enter Try.func30, Try.ntmps30
    go_wp2_with (at_builtin; refine Lib.wpList_append_run _ rfl _ _ _ _ rfl _ _ rfl rfl _ _ (hrz _) ?_)
    all_goals (go_ret; exact ⟨_, rfl, HO.out, ((Below.refl _ _).drew).alloc (Nat.le_refl _) _⟩)

/-- These slices of rules lie one behind the other. -/
def PAt (w : World) (g o : Nat) (Ls : List (List Ru)) : Prop := ∀ i (h : i < Ls.length), ∃ ao n cap, w.cell? ⟨g, o + i, none⟩ = some (.slice ao n cap) ∧ SR w (.slice ao n cap) Ls[i]
theorem PAt.later {w w' : World} {g o : Nat} {Ls : List (List Ru)} (h : PAt w g o Ls) (hb : Below w.heap.size w w') : PAt w' g o Ls := fun i hi => by
  obtain ⟨ao, n, cap, h1, h2⟩ := h i hi
  exact ⟨ao, n, cap, cell_later hb h1, h2.later hb⟩
theorem SR.len {w : World} {ao : Option Addr} {n cap : Nat} {L : List Ru} (h : SR w (.slice ao n cap) L) : L.length = n := by
  rcases h with ⟨_, _, e, rfl⟩ | ⟨_, _, _, e, _⟩
  · simp at e; simp [e]
  · simp at e; exact e.2.1.symm
theorem flat_next {Ls : List (List Ru)} {k : Nat} (hk : k < Ls.length) : (Ls.take (k + 1)).flatten = (Ls.take k).flatten ++ Ls[k] := by
  rw [List.take_succ_eq_append_getElem hk]
  simp only [List.flatten_append, List.flatten_cons, List.flatten_nil, List.append_nil]
theorem flat_le {Ls : List (List Ru)} (k : Nat) : (Ls.take k).flatten.length ≤ Ls.flatten.length := by
  have : Ls.flatten = (Ls.take k).flatten ++ (Ls.drop k).flatten := by rw [← List.flatten_append, List.take_append_drop]
  rw [this, List.length_append]
  omega

set_option maxHeartbeats 4000000 in
set_option maxRecDepth 100000 in
theorem concat_any (g o m cap : Nat) (Ls : List (List Ru)) (w : World) (hm : Ls.length = m) (hm2 : m ≤ 1000) (hc : PAt w g o Ls) (hs : Ls.flatten.length ≤ 1000) :
    Calls Try.prog 19 #[.slice (some ⟨g, o, none⟩) m cap] w fun e w' => ∃ v, e = .returned v ∧ w'.ownsRow w.heap.size 25 6 v Ls.flatten.length (cellsR Ls.flatten) ∧ Below w.heap.size w w' := by
  have HM : Hid (Ls.length = m) := hm
  have HC : Hid (PAt w g o Ls) := hc
  have HS : Hid (Ls.flatten.length ≤ 1000) := hs
  obtain ⟨N, hN⟩ : ∃ N, N = Ls.flatten.length := ⟨_, rfl⟩
  have HN : Hid (N = Ls.flatten.length) := hN
  have hN2 : N ≤ 1000 := by omega
  clear hm hc hs hN
  go_enter Try.func19, Try.ntmps19
  go_upto_block 0 with fail
  go_cut [3] from 3 (fun z w' => z = .int .i64 (N : Int) ∧ w' = w)
  case first =>
    go_wp2
    go_loopw [3, 11] (fun z i wr => ∃ k : Nat, k ≤ m ∧ i = .int .i64 k ∧ z = .int .i64 ((Ls.take k).flatten.length : Int) ∧ wr = w) (fun _ i _ => m - (intOf i).toNat)
    case atStart => exact ⟨0, by omega, rfl, rfl, rfl⟩
    case round =>
      obtain ⟨k, hk, rfl, rfl, rfl⟩ := hrel
      by_cases hlt : k < m
      · have hkl : k < Ls.length := by rw [HM.out]; exact hlt
        obtain ⟨ao, n, cap2, q0, hsr⟩ := HC.out k hkl
        have HT : Hid ((Ls.take (k + 1)).flatten.length = (Ls.take k).flatten.length + n) := by
          show _ = _
          rw [flat_next hkl, List.length_append, hsr.len]
        have hb1 : (Ls.take k).flatten.length + n ≤ 1000 := by
          have h1 := flat_le (Ls := Ls) (k + 1)
          have h2 := HS.out
          have h3 := HT.out
          omega
        generalize (Ls.take k).flatten.length = z at *
        clear hsr
        go_wp2
        go_roundw
        case rel => exact ⟨k + 1, by omega, by go_num, by rw [HT.out]; go_num, by simp⟩
        case measure => simp [intOf]; omega
      · obtain rfl : k = m := by omega
        go_wp2_with fail
        go_meet
        case rel => exact ⟨by rw [← HM.out, List.take_length, HN.out], rfl⟩
  case rest =>
    obtain ⟨rfl, rfl⟩ := hcut
    go_wp2_with fail
    refine (grow_nil N _ hN2).mono ?_
    rintro e w1 ⟨v, rfl, hown, hB⟩
    have HO : Hid (w1.ownsRow wc.heap.size 25 6 v 0 []) := hown
    have HB : Hid (Below wc.heap.size wc w1) := hB
    clear hown hB
    go_wp2
    go_loopw [6, 27] (fun u i wr => ∃ k : Nat, k ≤ m ∧ i = .int .i64 k ∧ wr.ownsRow wc.heap.size 25 6 u (Ls.take k).flatten.length (cellsR (Ls.take k).flatten) ∧ Below wc.heap.size wc wr) (fun _ i _ => m - (intOf i).toNat)
    case atStart => exact ⟨0, by omega, rfl, HO.out, HB.out⟩
    case round =>
      obtain ⟨k, hk, rfl, hown, hB⟩ := hrel
      have HOW : Hid (wr.ownsRow wc.heap.size 25 6 u6 (Ls.take k).flatten.length (cellsR (Ls.take k).flatten)) := hown
      have HBW : Hid (Below wc.heap.size wc wr) := hB
      clear hown
      by_cases hlt : k < m
      · have hkl : k < Ls.length := by rw [HM.out]; exact hlt
        obtain ⟨ao, n, cap2, q0, hsr⟩ := (HC.out.later hB) k hkl
        have HSR : Hid (SR wr (.slice ao n cap2) Ls[k]) := hsr
        have HL1 : Hid ((Ls.take k).flatten.length + Ls[k].length ≤ 1000) := by
          have h1 := flat_le (Ls := Ls) (k + 1)
          rw [flat_next hkl, List.length_append] at h1
          have h2 := HS.out
          show _ ≤ _
          omega
        clear hsr hB
        go_wp2_with (at_builtin; refine wpList_append_SR _ rfl _ _ 32 rfl Try.underlying32 wc.heap.size _ rfl _ HOW.out _ rfl _ HSR.out HL1.out HBW.out.size ?_)
        intro v' w3 hown3 hgrow
        have HO5 : Hid (w3.ownsRow wc.heap.size 25 6 v' (Ls.take (k + 1)).flatten.length (cellsR (Ls.take (k + 1)).flatten)) := by
          show w3.ownsRow _ _ _ _ _ _
          rw [flat_next hkl, show ((Ls.take k).flatten ++ Ls[k]).length = (List.take k (List.map List.length Ls)).sum + Ls[k].length by simp]
          exact hown3
        have HB5 : Hid (Below wc.heap.size wc w3) := HBW.out.grown hgrow HBW.out.size (fun g hg => (HOW.out.lt g hg).1)
        clear hown3 hgrow q0
        go_wp2
        go_roundw
        case rel => exact ⟨k + 1, by omega, by go_num, HO5.out, HB5.out⟩
        case measure => simp [intOf]; omega
      · obtain rfl : k = m := by omega
        go_wp2
        go_ret
        refine ⟨_, rfl, ?_, HBW.out⟩
        have := HOW.out
        rw [← HM.out, List.take_length] at this
        exact this
end Go.Proofs.Ytmoengelklnbeab
