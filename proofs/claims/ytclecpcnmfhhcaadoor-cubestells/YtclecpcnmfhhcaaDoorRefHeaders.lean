/- What the document's own list of a cube's headers is. -/
import Derived.Test.YtclecpcnmfhhcaaDoorRefCube
import Derived.Test.YtclecpcnmfhhcaaDoorOwnRow
import Derived.Deep.AppendLies
namespace Go.Proofs.YtclecpcnmfhhcaaDoor
open Go.RowKit
set_option linter.unusedSimpArgs false

/-- The headers below k that a cube has. -/
def hdTo (m b : Int) (k : Nat) : List Int := ((List.range k).filter fun (h : Nat) => hasB m b (h : Int)).map fun (h : Nat) => (h : Int)
theorem hd_hit {m b : Int} {k : Nat} (h : hasB m b (k : Int) = true) : hdTo m b (k + 1) = hdTo m b k ++ [(k : Int)] := by
  simp [hdTo, List.range_succ, List.filter_append, h]
theorem hd_miss {m b : Int} {k : Nat} (h : hasB m b (k : Int) = false) : hdTo m b (k + 1) = hdTo m b k := by
  simp [hdTo, List.range_succ, List.filter_append, h]
theorem hd_le (m b : Int) (k : Nat) : (hdTo m b k).length ≤ k := by
  have := List.length_filter_le (fun (h : Nat) => hasB m b (h : Int)) (List.range k)
  simp only [hdTo, List.length_map]; simpa using this

set_option maxRecDepth 100000 in
set_option maxHeartbeats 1000000 in
theorem refHeaders_any (m b : Int) (w : World) :
    Calls Tryd.prog 13 #[.agg #[.int .i64 m, .int .i64 b]] w fun e w' => ∃ v, e = .returned v ∧ w'.ownsRow w.heap.size 3 1 v (hdTo m b 16).length ((hdTo m b 16).map (Value.int .i64)) ∧ Below w.heap.size w w' := by
  obtain ⟨i0, hi, hz0, hz1, hz2⟩ := info_parts infoInt
  go_enter Tryd.func13, Tryd.ntmps13
  go_wp2
  have hW : Below (w.heap.size + 1) (w.alloc (.cells #[.int .i64 m, .int .i64 b] 23)) (w.alloc (.cells #[.int .i64 m, .int .i64 b] 23)) := Below.refl _ _
  go_loopw [3, 4] (fun v i wr => ∃ k : Nat, k ≤ 16 ∧ i = .int .i64 k ∧ wr.ownsRow (w.heap.size + 1) 3 1 v (hdTo m b k).length ((hdTo m b k).map (Value.int .i64)) ∧ Below (w.heap.size + 1) (w.alloc (.cells #[.int .i64 m, .int .i64 b] 23)) wr)
    (fun _ i _ => 16 - (intOf i).toNat)
  case atStart => exact ⟨0, by omega, rfl, World.ownsRow_nil _ _ _ _, hW⟩
  case round =>
    clear hW
    obtain ⟨k, hk, rfl, hown, hB⟩ := hrel
    have hsz : w.heap.size + 1 ≤ wr.heap.size := by have := hB.size; simpa using this
    have q0 : wr.cell? ⟨w.heap.size, 0, none⟩ = some (.int .i64 m) := by rw [hB.cell (p := ⟨w.heap.size, 0, none⟩) (by simp)]; simp
    have q1 : wr.cell? ⟨w.heap.size, 1, none⟩ = some (.int .i64 b) := by rw [hB.cell (p := ⟨w.heap.size, 1, none⟩) (by simp)]; simp
    have HB : Hid (Below (w.heap.size + 1) (w.alloc (.cells #[.int .i64 m, .int .i64 b] 23)) wr) := hB
    have HOWN : Hid (wr.ownsRow (w.heap.size + 1) 3 1 u3 (hdTo m b k).length ((hdTo m b k).map (Value.int .i64))) := hown
    clear hB hown
    by_cases hlt : k < 16
    · go_wp2_with fail
      refine (refHas_any _ _ _ _).mono ?_
      rintro e w1 ⟨rfl, hb1⟩
      have hB1 := HB.out.trans (hb1.mono hsz)
      have HOWN1 := own_below HOWN.out hb1
      have hle := hd_le m b k
      have hsz1 : w.heap.size + 1 ≤ w1.heap.size := Nat.le_trans hsz hb1.size
      cases hh : hasB m b (k : Int)
      · clear q0 q1 hb1
        go_wp2
        go_roundw
        case rel => exact ⟨k + 1, by omega, by go_num, by rw [hd_miss hh]; exact HOWN1, hB1⟩
        case measure => simp [intOf]; omega
      · clear q0 q1 hb1
        have HH : Hid (hasB m b (k : Int) = true) := hh
        have HB1 : Hid (Below (w.heap.size + 1) (w.alloc (.cells #[.int .i64 m, .int .i64 b] 23)) w1) := hB1
        clear hh hB1
        go_wp2_with (at_builtin; refine wpList_append_own _ rfl _ _ 37 rfl (w.heap.size + 1) 3 i0 (.int .i64 0) 1 8 Tryd.underlying37 hi hz0 hz1 hz2 rfl (by decide) _ _ _ rfl (HOWN1.alloc _) ⟨w1.heap.size, 0, none⟩ 1 1 [.int .i64 k] rfl rfl ?c1 ?c2 ?c3 ?c4 ?c5 ?_)
        case c1 =>
          intro j u hj
          match j, hj with
          | 0, hj => simp at hj; subst hj; simp [Addr.add]
        case c2 => intro u hu; simp at hu; subst hu; rfl
        case c3 => unfold maxLen; omega
        case c4 => omega
        case c5 => simp; omega
        intro v' w2 hown2 hgrow _
        have hB2 : Below (w.heap.size + 1) (w.alloc (.cells #[.int .i64 m, .int .i64 b] 23)) w2 := (HB1.out.alloc hsz1 _).grown hgrow (by simp; omega) (fun g hg => (HOWN1.lt g hg).1)
        clear hgrow
        go_wp2
        go_roundw
        case rel => exact ⟨k + 1, by omega, by go_num, by rw [hd_hit HH.out]; simpa using hown2, hB2⟩
        case measure => simp [intOf]; omega
    · obtain rfl : k = 16 := by omega
      go_wp2
      go_ret
      exact ⟨_, rfl, own_mono HOWN.out (by omega), ((Below.refl _ _).alloc (Nat.le_refl _) _).trans (HB.out.mono (by omega))⟩
end Go.Proofs.YtclecpcnmfhhcaaDoor
