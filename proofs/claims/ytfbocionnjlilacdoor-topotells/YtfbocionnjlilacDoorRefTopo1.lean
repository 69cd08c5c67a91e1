/- What railref1.Spot, Host, Named, Peer, Joined answer: contracts for the walks above them. -/
import Derived.Test.YtfbocionnjlilacDoorTopoMath2
import Derived.Test.YtfbocionnjlilacDoorTopoCheck
import Derived.Test.YtfbocionnjlilacDoorStSpot
namespace Go.Proofs.YtfbocionnjlilacDoor
open Go.RowKit
set_option linter.unusedSimpArgs false
set_option linter.unusedVariables false

/-- Two boxes: a topology, a spot. -/
structure B2 (w W : World) (S : Int) (v1 v2 : Value) (x y : Int) : Prop where
  below : Below w.heap.size w W
  t : TBox W w.heap.size S v1 v2
  s0 : W.cell? ⟨w.heap.size + 1, 0, none⟩ = some (.int .i64 x)
  s1 : W.cell? ⟨w.heap.size + 1, 1, none⟩ = some (.int .i64 y)
theorem B2.later {w W W' : World} {S : Int} {v1 v2 : Value} {x y : Int} (h : B2 w W S v1 v2 x y) (hb : Below W.heap.size W W') : B2 w W' S v1 v2 x y :=
  ⟨h.below.trans (hb.mono h.below.size), h.t.later hb, cell_later hb h.s0, cell_later hb h.s1⟩
theorem b2_new (w : World) (S : Int) (v1 v2 : Value) (x y : Int) : B2 w ((w.alloc (Obj.cells #[.int .i64 S, v1, v2] 25)).alloc (Obj.cells #[.int .i64 x, .int .i64 y] 27)) S v1 v2 x y := by
  have hb1 : Below w.heap.size w (w.alloc (Obj.cells #[.int .i64 S, v1, v2] 25)) := (Below.refl _ _).alloc (Nat.le_refl _) _
  have h := spo_new (w.alloc (Obj.cells #[.int .i64 S, v1, v2] 25)) x y 27
  have e1 : (w.alloc (Obj.cells #[.int .i64 S, v1, v2] 25)).heap.size = w.heap.size + 1 := by simp
  rw [e1] at h
  obtain ⟨s0, s1⟩ := spo_cells h
  exact ⟨hb1.alloc hb1.size _, (tbox_new w S v1 v2 25).later ((Below.refl _ _).alloc (Nat.le_refl _) _), s0, s1⟩

set_option maxHeartbeats 1000000 in
set_option maxRecDepth 100000 in
theorem rspot_any (S : Int) (ao : Option Addr) (n cap : Nat) (ao2 : Option Addr) (n2 cap2 : Nat) (x y : Int) (w : World) :
    Calls Tryd.prog 10 #[.agg #[.int .i64 S, .slice ao n cap, .slice ao2 n2 cap2], .agg #[.int .i64 x, .int .i64 y]] w fun e w' => e = .returned (.bool (spB S (x, y))) ∧ Below w.heap.size w w' := by
  have HB : Hid (Below w.heap.size w ((w.alloc (Obj.cells #[.int .i64 S, .slice ao n cap, .slice ao2 n2 cap2] 25)).alloc (Obj.cells #[.int .i64 x, .int .i64 y] 27))) := (b2_new w S _ _ x y).below
  have hr : spB S (x, y) = (decide (1 ≤ x) && (decide (x ≤ S) && (decide (1 ≤ y) && decide (y ≤ 4)))) := rfl
  rw [hr]
  clear hr
  cases g1 : decide (1 ≤ x)
  · simp only [Bool.false_and]
    go_enter Tryd.func10, Tryd.ntmps10
    go_wp2
    go_ret
    exact ⟨rfl, HB.out⟩
  · cases g2 : decide (x ≤ S)
    · simp only [Bool.false_and, Bool.and_false]
      go_enter Tryd.func10, Tryd.ntmps10
      go_wp2
      go_ret
      exact ⟨rfl, HB.out⟩
    · cases g3 : decide (1 ≤ y)
      · simp only [Bool.false_and, Bool.and_false]
        go_enter Tryd.func10, Tryd.ntmps10
        go_wp2
        go_ret
        exact ⟨rfl, HB.out⟩
      · simp only [Bool.true_and]
        obtain ⟨r, hr⟩ : ∃ r, r = decide (y ≤ 4) := ⟨_, rfl⟩
        go_enter Tryd.func10, Tryd.ntmps10
        go_wp2
        go_ret
        exact ⟨rfl, HB.out⟩

set_option maxHeartbeats 2000000 in
set_option maxRecDepth 100000 in
theorem rhost_any (S : Int) (ao : Option Addr) (n cap : Nat) (ao2 : Option Addr) (n2 cap2 : Nat) (Hs : List (ByteArray × (Int × Int))) (x y : Int) (w : World) (hH : GS hstE w (.slice ao2 n2 cap2) Hs) :
    Calls Tryd.prog 12 #[.agg #[.int .i64 S, .slice ao n cap, .slice ao2 n2 cap2], .agg #[.int .i64 x, .int .i64 y]] w fun e w' => e = .returned (.int .i64 (atN Hs (x, y))) ∧ Below w.heap.size w w' := by
  obtain ⟨_, _, _, e1, hHn, hHm, _, hHa⟩ := hH.form
  cases e1
  have HHN : Hid (Hs.length = n2) := hHn
  have n63 : n2 ≤ 9223372036854775807 := by unfold maxLen at hHm; omega
  have HHA : Hid (0 < n2 → ∃ g o, ao2 = some ⟨g, o, none⟩ ∧ GAt hstE w g o Hs ∧ cap2 ≤ maxLen) := hHa
  have hX := b2_new w S (.slice ao n cap) (.slice ao2 n2 cap2) x y
  obtain ⟨w0, hw0⟩ : ∃ W, (w.alloc (Obj.cells #[.int .i64 S, .slice ao n cap, .slice ao2 n2 cap2] 25)).alloc (Obj.cells #[.int .i64 x, .int .i64 y] 27) = W := ⟨_, rfl⟩
  rw [hw0] at hX
  have HX : Hid (B2 w w0 S (.slice ao n cap) (.slice ao2 n2 cap2) x y) := hX
  have HW0 : Hid ((w.alloc (Obj.cells #[.int .i64 S, .slice ao n cap, .slice ao2 n2 cap2] 25)).alloc (Obj.cells #[.int .i64 x, .int .i64 y] 27) = w0) := hw0
  clear hH hHn hHm hHa hX hw0
  go_enter Tryd.func12, Tryd.ntmps12
  go_wp2
  rw [HW0.out]
  go_loopw [5] (fun i wr => ∃ k : Nat, k ≤ n2 ∧ i = .int .i64 k ∧ (Hs.take k).any (fun h => sq h.2 (x, y)) = false ∧ B2 w wr S (.slice ao n cap) (.slice ao2 n2 cap2) x y) (fun i _ => n2 - (intOf i).toNat)
  case atStart => exact ⟨0, by omega, rfl, by simp, HX.out⟩
  case round =>
    obtain ⟨k, hk, rfl, hno, hXr⟩ := hrel
    have HX2 : Hid (B2 w wr S (.slice ao n cap) (.slice ao2 n2 cap2) x y) := hXr
    have HNO : Hid ((Hs.take k).any (fun h => sq h.2 (x, y)) = false) := hno
    obtain ⟨_, ⟨b0, b1, b2⟩, s0, s1⟩ := hXr
    have hlt1 : w.heap.size < wr.heap.size := World.block_lt_of_cell? _ _ b0
    have hlt2 : w.heap.size + 1 < wr.heap.size := World.block_lt_of_cell? _ _ s0
    clear hno HW0 HX
    by_cases hlt : k < n2
    · obtain ⟨g, o, hao, hc, _⟩ := HHA.out (by omega)
      subst hao
      obtain ⟨y0, y1, y2, hkl, hHk, q0, q1, q2⟩ := hst_at (hc.later HX2.out.below) HHN.out hlt
      have HHK : Hid (Hs[k] = (y0, (y1, y2))) := hHk
      have hr : sq (y1, y2) (x, y) = (y1 == x && y2 == y) := rfl
      clear hHk hc
      cases ho : sq (y1, y2) (x, y)
      · rw [hr] at ho
        have HN1 : Hid ((Hs.take (k + 1)).any (fun h => sq h.2 (x, y)) = false) := any_nextG hkl HNO.out (by rw [HHK.out]; exact ho)
        cases g1 : (y1 == x) <;> cases g2 : (y2 == y)
        · clear ho hr
          go_wp2_with fail
          go_region
          go_wp2
          go_roundw
          case rel => exact ⟨k + 1, by omega, by go_num, HN1.out, HX2.out.later (Below.drew (Below.refl _ _))⟩
          case measure => simp [intOf]; omega
        · clear ho hr
          go_wp2_with fail
          go_region
          go_wp2
          go_roundw
          case rel => exact ⟨k + 1, by omega, by go_num, HN1.out, HX2.out.later (Below.drew (Below.refl _ _))⟩
          case measure => simp [intOf]; omega
        · clear ho hr
          go_wp2_with fail
          go_region
          go_wp2
          go_roundw
          case rel => exact ⟨k + 1, by omega, by go_num, HN1.out, HX2.out.later (Below.drew (Below.refl _ _))⟩
          case measure => simp [intOf]; omega
        · rw [g1, g2] at ho
          cases ho
      · have HR : Hid (atN Hs (x, y) = k) := ixG_hit hkl HNO.out (by rw [HHK.out]; exact ho)
        rw [hr, Bool.and_eq_true] at ho
        obtain ⟨g1, g2⟩ := ho
        clear hr
        go_wp2_with fail
        go_region
        go_wp2
        go_ret
        exact ⟨by rw [HR.out]; rfl, (HX2.out.later (Below.drew (Below.refl _ _))).below⟩
    · obtain rfl : k = n2 := by omega
      have HR : Hid (atN Hs (x, y) = -1) := by
        have := HNO.out
        rw [← HHN.out, List.take_length] at this
        exact ixG_no this
      go_wp2
      go_ret
      exact ⟨by rw [HR.out]; rfl, HX2.out.below⟩
end Go.Proofs.YtfbocionnjlilacDoor
