/- What Print of package cube answers, called with any cube. -/
import Derived.Test.YtpbfgfphcjmcbaaDoorCubeBit
import Derived.Deep.RegionHeld3
namespace Go.Proofs.YtpbfgfphcjmcbaaDoor
open Go.RowKit
set_option linter.unusedSimpArgs false

set_option maxHeartbeats 400000 in
theorem letter_any (m b x : Int) (w : World) :
    Calls Tryd.prog 22 #[.agg #[.int .i64 m, .int .i64 b], .int .i64 x] w fun e w' => e = .returned (.int .u8 (ltr m b x)) ∧ Below w.heap.size w w' := by
  cases h1 : (bits .and .i64 m x == 0)
  · cases h2 : (bits .and .i64 b x == 0)
    · have e : ltr m b x = 49 := by simp only [ltr, h1, h2]; rfl
      rw [e]; clear e
      go_enter Tryd.func22, Tryd.ntmps22
      go_wp2
      go_ret
      exact ⟨rfl, (Below.refl _ _).alloc (Nat.le_refl _) _⟩
    · have e : ltr m b x = 48 := by simp only [ltr, h1, h2]; rfl
      rw [e]; clear e
      go_enter Tryd.func22, Tryd.ntmps22
      go_wp2
      go_ret
      exact ⟨rfl, (Below.refl _ _).alloc (Nat.le_refl _) _⟩
  · have e : ltr m b x = 42 := by simp only [ltr, h1]; rfl
    rw [e]; clear e
    go_enter Tryd.func22, Tryd.ntmps22
    go_wp2
    go_ret
    exact ⟨rfl, (Below.refl _ _).alloc (Nat.le_refl _) _⟩

set_option maxHeartbeats 400000 in
theorem print_range (m b : Int) (w : World) (h : rngB m b = false) :
    Calls Tryd.prog 13 #[.agg #[.int .i64 m, .int .i64 b]] w fun e w' => e = .returned (.tuple #[.string ⟨#[]⟩, .iface 40 (.int .i64 1)]) ∧ Below w.heap.size w w' := by
  go_enter Tryd.func13, Tryd.ntmps13
  go_wp2_with fail
  refine (check_range _ _ _ h).mono ?_
  rintro e w1 ⟨rfl, hb1⟩
  go_wp2
  go_ret2
  exact ⟨rfl, ((Below.refl _ _).alloc (Nat.le_refl _) _).trans (hb1.mono (by simp))⟩

set_option maxHeartbeats 400000 in
theorem print_shape (m b : Int) (w : World) (h : rngB m b = true) (h2 : okB m b = false) :
    Calls Tryd.prog 13 #[.agg #[.int .i64 m, .int .i64 b]] w fun e w' => e = .returned (.tuple #[.string ⟨#[]⟩, .iface 40 (.int .i64 3)]) ∧ Below w.heap.size w w' := by
  go_enter Tryd.func13, Tryd.ntmps13
  go_wp2_with fail
  refine (check_shape _ _ _ h h2).mono ?_
  rintro e w1 ⟨rfl, hb1⟩
  go_wp2
  go_ret2
  exact ⟨rfl, ((Below.refl _ _).alloc (Nat.le_refl _) _).trans (hb1.mono (by simp))⟩

/-- What holds behind k rounds of Print's loop: B is the block of the text. -/
def PrInv (m b : Int) (w : World) (B k : Nat) (w' : World) : Prop :=
  Below w.heap.size w w' ∧ w.heap.size < B ∧ B < w'.heap.size ∧
      w'.cell? ⟨w.heap.size, 0, none⟩ = some (.int .i64 m) ∧ w'.cell? ⟨w.heap.size, 1, none⟩ = some (.int .i64 b) ∧
      (w'.cell? ⟨B, 0, none⟩ = some (.int .u8 (ltrTo m b k 0)) ∧ w'.cell? ⟨B, 1, none⟩ = some (.int .u8 (ltrTo m b k 1)) ∧
      w'.cell? ⟨B, 2, none⟩ = some (.int .u8 (ltrTo m b k 2)) ∧ w'.cell? ⟨B, 3, none⟩ = some (.int .u8 (ltrTo m b k 3))) ∧
      (w'.frozen? ⟨B, 0, none⟩ = false ∧ w'.frozen? ⟨B, 1, none⟩ = false ∧ w'.frozen? ⟨B, 2, none⟩ = false ∧ w'.frozen? ⟨B, 3, none⟩ = false)

theorem PrInv.later {m b : Int} {w W w' : World} {B k : Nat} (h : PrInv m b w B k W) (hb : Below W.heap.size W w') : PrInv m b w B k w' := by
  obtain ⟨hB, h0, hsz, hm, hb', ⟨c0, c1, c2, c3⟩, ⟨f0, f1, f2, f3⟩⟩ := h
  have fz : ∀ o, w'.frozen? ⟨B, o, none⟩ = W.frozen? ⟨B, o, none⟩ := fun o => hb.frozen (p := ⟨B, o, none⟩) hsz
  exact ⟨hB.trans (hb.mono hB.size), h0, Nat.lt_of_lt_of_le hsz hb.size, cell_later hb hm, cell_later hb hb', ⟨cell_later hb c0, cell_later hb c1, cell_later hb c2, cell_later hb c3⟩,
    ⟨(fz 0).trans f0, (fz 1).trans f1, (fz 2).trans f2, (fz 3).trans f3⟩⟩

theorem ltrTo_lt {m b : Int} {k j : Nat} (h : j < k) : ltrTo m b k j = ltrAt m b j := by simp [ltrTo, h]
theorem ltrTo_ne {m b : Int} {k j : Nat} (h : j ≠ k) : ltrTo m b (k + 1) j = ltrTo m b k j := by
  unfold ltrTo
  by_cases hj : j < k
  · rw [if_pos hj, if_pos (by omega)]
  · rw [if_neg hj, if_neg (by omega)]

theorem PrInv.step {m b : Int} {w w' : World} {B k : Nat} (h : PrInv m b w B k w') (x : Int) (hx : x = bitN k) : PrInv m b w B (k + 1) (w'.setCell ⟨B, k, none⟩ (.int .u8 (ltr m b x))) := by
  obtain ⟨hB, h0, hsz, hm, hb', ⟨c0, c1, c2, c3⟩, ⟨f0, f1, f2, f3⟩⟩ := h
  subst hx
  have hc : ∀ j, w'.cell? ⟨B, j, none⟩ = some (.int .u8 (ltrTo m b k j)) → (w'.setCell ⟨B, k, none⟩ (.int .u8 (ltr m b (bitN k)))).cell? ⟨B, j, none⟩ = some (.int .u8 (ltrTo m b (k + 1) j)) := by
    intro j hcj
    by_cases e : j = k
    · subst e
      rw [World.cell?_setCell_same _ _ _ hcj, ltrTo_lt (by omega)]
      rfl
    · rw [World.cell?_setCell_other _ _ _ _ (by simp <;> omega), hcj, ltrTo_ne e]
  refine ⟨hB.setCell (by simp; omega) _, h0, by simpa using hsz, ?_, ?_, ⟨hc 0 c0, hc 1 c1, hc 2 c2, hc 3 c3⟩, ⟨?_, ?_, ?_, ?_⟩⟩
  · rw [World.cell?_setCell_other _ _ _ _ (by simp <;> omega), hm]
  · rw [World.cell?_setCell_other _ _ _ _ (by simp <;> omega), hb']
  all_goals simp [*]

set_option maxHeartbeats 1000000 in
theorem print_ok (m b : Int) (w : World) (h : okB m b = true) :
    Calls Tryd.prog 13 #[.agg #[.int .i64 m, .int .i64 b]] w fun e w' => e = .returned (.tuple #[.string (prS m b), .nilIface]) ∧ Below w.heap.size w w' := by
  go_enter Tryd.func13, Tryd.ntmps13
  go_wp2_with fail
  refine (check_ok _ _ _ h).mono ?_
  rintro e w1 ⟨rfl, hb1⟩
  obtain ⟨hc1, hf1⟩ := bcell hb1
  have hz1 : w.heap.size < w1.heap.size := by have := hb1.size; simp at this; omega
  go_wp2
  have hI : PrInv m b w w1.heap.size 0 (w1.alloc (Obj.cells #[Value.int IntKind.u8 0, Value.int IntKind.u8 0, Value.int IntKind.u8 0, Value.int IntKind.u8 0] 57)) := by
    refine ⟨((((Below.refl _ _).alloc (Nat.le_refl _) _).trans (hb1.mono (by simp))).alloc (by omega) _), hz1, by simp, ?_, ?_, ⟨?_, ?_, ?_, ?_⟩, ⟨?_, ?_, ?_, ?_⟩⟩
    · rw [World.cell?_alloc_past _ _ _ hz1, hc1 _ _ (by simp)]; simp
    · rw [World.cell?_alloc_past _ _ _ hz1, hc1 _ _ (by simp)]; simp
    all_goals simp [ltrTo]
  clear hb1 hc1 hf1 hz1
  generalize w1.alloc (Obj.cells #[Value.int IntKind.u8 0, Value.int IntKind.u8 0, Value.int IntKind.u8 0, Value.int IntKind.u8 0] 57) = W1 at *
  generalize w1.heap.size = B at *
  clear w1
  go_loopw [12] (fun i w' => ∃ k : Nat, k ≤ 4 ∧ i = .int .i64 k ∧ PrInv m b w B k w') (fun i _ => 4 - (intOf i).toNat)
  case atStart => exact ⟨0, by omega, rfl, hI⟩
  case round =>
    obtain ⟨k, hk, rfl, hI'⟩ := hrel
    clear hI
    obtain ⟨hB, h0, hsz, hm, hb, ⟨c0, c1, c2, c3⟩, ⟨f0, f1, f2, f3⟩⟩ := id hI'
    have HI : Hid (PrInv m b w B k wr) := hI'
    clear hI'
    rcases (by omega : k = 0 ∨ k = 1 ∨ k = 2 ∨ k = 3 ∨ k = 4) with rfl | rfl | rfl | rfl | rfl
    · go_wp2
      go_region_with (first | (go_at_call 20; refine (bitAt_any _ _ (by decide) (by decide)).mono ?_; rintro e w' ⟨rfl, rfl⟩) | (go_at_call 22; refine (letter_any _ _ _ _).mono ?_; rintro e w' ⟨rfl, hb⟩; have HI2 := HI.out.later (((Below.refl _ wr).drew).trans hb); obtain ⟨hB', h0', hsz', hm', hb', ⟨c0', c1', c2', c3'⟩, ⟨f0', f1', f2', f3'⟩⟩ := id HI2; replace HI2 : Hid (PrInv m b w B 0 w') := HI2))
      all_goals
        go_wp2
        go_roundw
        case rel => exact ⟨1, by omega, rfl, HI2.out.step _ (by decide)⟩
        case measure => simp [intOf]
    · go_wp2
      go_region_with (first | (go_at_call 20; refine (bitAt_any _ _ (by decide) (by decide)).mono ?_; rintro e w' ⟨rfl, rfl⟩) | (go_at_call 22; refine (letter_any _ _ _ _).mono ?_; rintro e w' ⟨rfl, hb⟩; have HI2 := HI.out.later (((Below.refl _ wr).drew).trans hb); obtain ⟨hB', h0', hsz', hm', hb', ⟨c0', c1', c2', c3'⟩, ⟨f0', f1', f2', f3'⟩⟩ := id HI2; replace HI2 : Hid (PrInv m b w B 1 w') := HI2))
      all_goals
        go_wp2
        go_roundw
        case rel => exact ⟨2, by omega, rfl, HI2.out.step _ (by decide)⟩
        case measure => simp [intOf]
    · go_wp2
      go_region_with (first | (go_at_call 20; refine (bitAt_any _ _ (by decide) (by decide)).mono ?_; rintro e w' ⟨rfl, rfl⟩) | (go_at_call 22; refine (letter_any _ _ _ _).mono ?_; rintro e w' ⟨rfl, hb⟩; have HI2 := HI.out.later (((Below.refl _ wr).drew).trans hb); obtain ⟨hB', h0', hsz', hm', hb', ⟨c0', c1', c2', c3'⟩, ⟨f0', f1', f2', f3'⟩⟩ := id HI2; replace HI2 : Hid (PrInv m b w B 2 w') := HI2))
      all_goals
        go_wp2
        go_roundw
        case rel => exact ⟨3, by omega, rfl, HI2.out.step _ (by decide)⟩
        case measure => simp [intOf]
    · go_wp2
      go_region_with (first | (go_at_call 20; refine (bitAt_any _ _ (by decide) (by decide)).mono ?_; rintro e w' ⟨rfl, rfl⟩) | (go_at_call 22; refine (letter_any _ _ _ _).mono ?_; rintro e w' ⟨rfl, hb⟩; have HI2 := HI.out.later (((Below.refl _ wr).drew).trans hb); obtain ⟨hB', h0', hsz', hm', hb', ⟨c0', c1', c2', c3'⟩, ⟨f0', f1', f2', f3'⟩⟩ := id HI2; replace HI2 : Hid (PrInv m b w B 3 w') := HI2))
      all_goals
        go_wp2
        go_roundw
        case rel => exact ⟨4, by omega, rfl, HI2.out.step _ (by decide)⟩
        case measure => simp [intOf]
    · have hconv := run_convert_bytes_arg (P := Tryd.prog) wr 59 5 Tryd.underlying59 Tryd.underlying5 B 0 4 4 [ltrAt m b 0, ltrAt m b 1, ltrAt m b 2, ltrAt m b 3] rfl (by
          intro i hi
          rcases (by omega : i = 0 ∨ i = 1 ∨ i = 2 ∨ i = 3) with rfl | rfl | rfl | rfl <;> simp [*, ltrTo]) 9 Tryd.underlying9
      clear c0 c1 c2 c3 f0 f1 f2 f3 hm hb
      go_wp2
      go_ret2
      exact ⟨rfl, hB⟩
end Go.Proofs.YtpbfgfphcjmcbaaDoor
