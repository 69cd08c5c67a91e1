/- What strings.SplitN answers at a blank and 7: a text cut at its first six blanks. -/
import Derived.Test.YtpbfgfphcjmcbaaDoorRuleItoa
import Derived.Deep.LoopGhost
import Derived.Deep.OwnRows
import Derived.Laws.Strings3
import Derived.Lib.Split
import Derived.Deep.CutRange
import Derived.Deep.CutBlock
namespace Go.Proofs.YtpbfgfphcjmcbaaDoor
open Go.RowKit
set_option linter.unusedSimpArgs false

theorem infoStr : (Tryd.prog.info? 9).map (fun i => (i.zero, i.size, i.bytes)) = some (some (.string ByteArray.empty), 1, 16) := by kernel_rfl

set_option maxHeartbeats 4000000 in
set_option maxRecDepth 1000000 in
theorem genSplit_any (s : ByteArray) (N : Nat) (w : World) (hs : s.size < 4611686018427387904) (hN : (N : Int) = min 7 ((s.size : Int) + 1)) :
    Calls Tryd.prog 19 #[.string s, .string ⟨#[32]⟩, .int .i64 0, .int .i64 7] w fun e w' =>
      e = .returned (.slice (some ⟨w.heap.size, 0, none⟩) (cutB (N - 1) s).length N) ∧ w' = w.alloc (.cells (Lib.cellsOf (cutB (N - 1) s) N) 9) := by
  have hNs : (N : Int) ≤ (s.size : Int) + 1 := by omega
  have hN1 : (1 : Int) ≤ (N : Int) := by omega
  have hmk := run_make_row' (P := Tryd.prog) 38 9 (.string ByteArray.empty) 16 Tryd.underlying38 infoStr rfl .i64 .i64 N (by omega) (by omega)
  have hmin : min (7 : Int) ((s.size : Int) + 1) = (N : Int) := hN.symm
  clear hN
  go_enter Tryd.func19, Tryd.ntmps19
  go_upto_region 7 with fail
  go_cut [3] from 9 (fun v w' => v = .int .i64 N ∧ w' = w)
  case first =>
    clear hmk
    by_cases h7 : (7 : Int) ≤ (s.size : Int) + 1
    · have e : (N : Int) = 7 := by omega
      go_wp2
      go_meet
      case rel => exact ⟨by rw [e], rfl⟩
    · have e : (N : Int) = (s.size : Int) + 1 := by omega
      go_wp2
      go_meet
      case rel => exact ⟨by rw [e], rfl⟩
  obtain ⟨rfl, hw⟩ := hcut
  replace hw := hw.symm
  subst hw
  go_wp2_with fail
  clear hmk
  go_loopg [0, 10] (N - 1) (fun g s0 s10 wr => ∃ (done : List ByteArray) (rest : ByteArray), s0 = .string rest ∧ s10 = .int .i64 done.length ∧ done.length ≤ N - 1 ∧ g = N - 1 - done.length ∧ rest.size ≤ s.size ∧
      wr = w.alloc (.cells (Lib.cellsOf done N) 9) ∧ done ++ cutB (N - 1 - done.length) rest = cutB (N - 1) s)
  case atStart => exact ⟨[], s, rfl, rfl, Nat.zero_le _, rfl, Nat.le_refl _, by rw [Lib.cellsOf_nil], rfl⟩
  case round =>
    obtain ⟨done, rest, rfl, rfl, hd, rfl, hrs, rfl, hsp⟩ := hrel
    have hnext : (Lib.cellsOf done N)[done.length]? = some (.string ByteArray.empty) := Lib.cellsOf_next (by omega)
    have HS : Hid (done ++ cutB (N - 1 - done.length) rest = cutB (N - 1) s) := hsp
    clear hsp
    have fin : cutB (N - 1 - done.length) rest = [rest] → (cutB (N - 1) s).length = done.length + 1 ∧ (Lib.cellsOf done N).setIfInBounds done.length (.string rest) = Lib.cellsOf (cutB (N - 1) s) N := fun h => by
      have e := HS.out
      rw [h] at e
      rw [← e]
      exact ⟨by simp, Lib.cellsOf_set (by omega) rest⟩
    by_cases hlt : done.length < N - 1
    · have hltz : ((done.length : Nat) : Int) < (N : Int) - 1 := by omega
      rcases bl_cases rest with hix | ⟨i, hix, hroom⟩
      · go_wp2_with fail
        refine (sindex_any _ _).mono ?_
        rintro e w' ⟨rfl, rfl⟩
        rw [hix]
        go_wp2
        go_ret
        obtain ⟨f1, f2⟩ := fin (cut_miss _ hix)
        rw [f1, ← f2]
        exact ⟨by first | rfl | (congr 2 <;> omega), rfl⟩
      · have c0 : ¬ ((i : Int) < 0) := by omega
        have c1 : (0 : Int) ≤ ↑i + 0 := by omega
        have c2 : (↑i + 0 : Int) ≤ ↑rest.size := by omega
        have c3 : (0 : Int) ≤ ↑i + 1 := by omega
        have c4 : (↑i + 1 : Int) ≤ ↑rest.size := by omega
        go_wp2_with fail
        refine (sindex_any _ _).mono ?_
        rintro e w' ⟨rfl, rfl⟩
        rw [hix]
        go_wp2
        go_roundg (N - 1 - (done.length + 1))
        case measure => omega
        case rel =>
          refine ⟨done ++ [rest.extract 0 i], rest.extract (i + 1) rest.size, rfl, by simp, by simp; omega, by simp, by rw [ByteArray.size_extract]; omega, by rw [← Lib.cellsOf_set (by omega)], ?_⟩
          rw [← HS.out, show N - 1 - done.length = (N - 1 - (done.length + 1)) + 1 by omega, cut_hit _ hix]
          simp
    · have hltz : ¬ (((done.length : Nat) : Int) < (N : Int) - 1) := by omega
      go_wp2
      go_ret
      obtain ⟨f1, f2⟩ := fin (by rw [show N - 1 - done.length = 0 by omega]; rfl)
      rw [f1, ← f2]
      exact ⟨by first | rfl | (congr 2 <;> omega), rfl⟩
end Go.Proofs.YtpbfgfphcjmcbaaDoor
