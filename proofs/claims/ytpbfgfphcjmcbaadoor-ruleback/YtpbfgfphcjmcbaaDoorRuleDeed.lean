/- What SplitN hands back as words, and what deed of package rule answers, called with any words. -/
import Derived.Test.YtpbfgfphcjmcbaaDoorRuleDec
namespace Go.Proofs.YtpbfgfphcjmcbaaDoor
open Go.RowKit
set_option linter.unusedSimpArgs false

theorem cut_less : ∀ (k : Nat) (s : ByteArray), s.size ≤ k → cutB (k + 1) s = cutB k s
  | 0, s, h => by
    rcases bl_cases s with e | ⟨i, _, e⟩
    · rw [cut_miss _ e, cut_miss _ e]
    · omega
  | k + 1, s, h => by
    rcases bl_cases s with e | ⟨i, e, hi⟩
    · rw [cut_miss _ e, cut_miss _ e]
    · rw [cut_hit _ e, cut_hit _ e, cut_less k _ (by rw [ByteArray.size_extract]; omega)]
theorem cut_all (s : ByteArray) : ∀ (j k : Nat), s.size ≤ k → cutB (k + j) s = cutB k s
  | 0, _, _ => rfl
  | j + 1, k, h => by rw [← Nat.add_assoc, cut_less _ _ (by omega), cut_all s j k h]
theorem cut_six (s : ByteArray) {N : Nat} (hN : (N : Int) = min 7 ((s.size : Int) + 1)) : cutB (N - 1) s = cutB 6 s := by
  by_cases h : s.size ≤ 6
  · obtain rfl : N = s.size + 1 := by omega
    have := cut_all s (6 - s.size) s.size (Nat.le_refl _)
    rw [show s.size + (6 - s.size) = 6 by omega] at this
    exact this.symm
  · obtain rfl : N = 7 := by omega
    rfl

/-- These words lie from an address on. -/
def WAt (w : World) (b o : Nat) (ws : List ByteArray) : Prop := ∀ i (h : i < ws.length), w.cell? ⟨b, o + i, none⟩ = some (.string ws[i])
theorem WAt.later {w w' : World} {b o : Nat} {ws : List ByteArray} (h : WAt w b o ws) (hb : Below w.heap.size w w') : WAt w' b o ws :=
  fun i hi => (hb.cell (World.block_lt_of_cell? _ _ (h i hi))).trans (h i hi)
theorem WAt.tail {w : World} {b o : Nat} {a : ByteArray} {ws : List ByteArray} (h : WAt w b o (a :: ws)) : WAt w b (o + 1) ws := by
  intro i hi
  have := h (i + 1) (by simp; omega)
  rw [show o + (i + 1) = o + 1 + i by omega] at this
  simpa using this
theorem WAt.head {w : World} {b o : Nat} {a : ByteArray} {ws : List ByteArray} (h : WAt w b o (a :: ws)) : w.cell? ⟨b, o, none⟩ = some (.string a) := by
  have := h 0 (by simp)
  simpa using this

set_option maxHeartbeats 1000000 in
theorem splitN_any (s : ByteArray) (w : World) (hs : s.size < 4611686018427387904) :
    Calls Tryd.prog 8 #[.string s, .string ⟨#[32]⟩, .int .i64 7] w fun e w' =>
      ∃ cap, e = .returned (.slice (some ⟨w.heap.size, 0, none⟩) (cutB 6 s).length cap) ∧ (cutB 6 s).length ≤ cap ∧ cap ≤ 7 ∧ WAt w' w.heap.size 0 (cutB 6 s) ∧ Below w.heap.size w w' := by
  obtain ⟨N, hN⟩ : ∃ N : Nat, (N : Int) = min 7 ((s.size : Int) + 1) := ⟨(min 7 ((s.size : Int) + 1)).toNat, by omega⟩
  have hc := cut_six s hN
  have hl := cut_len (N - 1) s
  rw [hc] at hl
  go_enter Tryd.func8, Tryd.ntmps8
  go_wp2_with fail
  refine (genSplit_any s N _ hs hN).mono ?_
  rintro e w1 ⟨rfl, rfl⟩
  rw [hc]
  have hW : WAt (w.alloc (.cells (Lib.cellsOf (cutB 6 s) N) 9)) w.heap.size 0 (cutB 6 s) := by
    intro i hi
    simp only [World.cell?_alloc_new, Nat.zero_add, Lib.cellsOf]
    rw [List.getElem?_toArray, List.getElem?_append_left (by simpa using hi)]
    simp [hi]
  clear hc
  go_wp2
  go_ret
  exact ⟨N, rfl, by omega, by omega, hW, (Below.refl _ _).alloc (Nat.le_refl _) _⟩
end Go.Proofs.YtpbfgfphcjmcbaaDoor
