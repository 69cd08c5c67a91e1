/- Contracts and facts on the way to RuleTells, joined into one text: RefReadAny, CubePrint, RulePrint, RefShow, RuleTabMath, RuleRefMath, RuleTab, RefTurned, RuleTwo, Quiet, RefFind, RefTable, OwnInts. -/
import Derived.Test.YtfbocionnjlilabGreatDoorRuleTellsP3
import Derived.Test.YtfbocionnjlilabGreatDoorRuleTellsP1
import Derived.Test.YtfbocionnjlilabGreatDoorRuleTellsP2
import Derived.Deep.RegionHeld3
import Derived.Shelf.Abstract
import Derived.WalkKit
import Derived.WalkSpells
import Derived.Below
import Derived.BigQuiet
import Derived.Deep.QuietTactic
import Derived.Deep.CutRange
import Derived.Deep.CutBlock
/- What the document's own ReadRule answers, called with any text of at most 2^20 bytes: all ways in one. -/
namespace Go.Proofs.YtfbocionnjlilabGreatDoor
open Go.RowKit

theorem ne_true {x : Int} (h : x ≠ 0) : (x != 0) = true := by simpa using h
theorem pa_no {ws : List ByteArray} (h : rdW ws = false) : paV ws = .agg #[.int .i64 0, .int .i64 0, .int .i64 0, .int .i64 0, .int .i64 0, .int .i64 0] ∧ paN ws = 2 :=
  ⟨paV_no (by rw [paN_no h]; decide), paN_no h⟩

theorem readRule_any (s : ByteArray) (w : World) (hs : s.size ≤ 1048576) :
    Calls Tryz.prog 9 #[.string s] w fun e w' => e = .returned (.tuple #[paV (cutA s), .int .i64 (paN (cutA s))]) ∧ Below w.heap.size w w' := by
  have bad : ∀ {P : Value → Int → Prop}, rdW (cutA s) = false → P (.agg #[.int .i64 0, .int .i64 0, .int .i64 0, .int .i64 0, .int .i64 0, .int .i64 0]) 2 → P (paV (cutA s)) (paN (cutA s)) := fun {P} h hp => by
    obtain ⟨e1, e2⟩ := pa_no h
    rw [e1, e2]
    exact hp
  by_cases hl : (cutA s).length = 3 ∨ (cutA s).length = 4 ∨ (cutA s).length = 6
  · match hws : cutA s with
    | [] => rw [hws] at hl; simp at hl
    | [_] => rw [hws] at hl; simp at hl
    | [_, _] => rw [hws] at hl; simp at hl
    | [a, b, c] =>
      rw [hws] at bad
      cases h1 : dcOk a
      · exact bad (P := fun V N => Calls Tryz.prog 9 #[.string s] w fun e w' => e = .returned (.tuple #[V, .int .i64 N]) ∧ Below w.heap.size w w') (by simp [rdW, h1]) (rd_num3 s w hs a b c hws h1)
      · cases h2 : psOk b
        · exact bad (P := fun V N => Calls Tryz.prog 9 #[.string s] w fun e w' => e = .returned (.tuple #[V, .int .i64 N]) ∧ Below w.heap.size w w') (by simp [rdW, h2]) (rd_cube3 s w hs a b c hws h1 h2)
        · cases h3 : (c.toList == [100, 114, 111, 112])
          · exact bad (P := fun V N => Calls Tryz.prog 9 #[.string s] w fun e w' => e = .returned (.tuple #[V, .int .i64 N]) ∧ Below w.heap.size w w') (by simp [rdW, deOk, h3]) (rd_drop3 s w hs a b c hws h1 h2 h3)
          · have e : paN [a, b, c] = ruN (dcN a) (psM b) (psB b) 0 0 0 := paN_yes (by simp [rdW, deOk, h1, h2, h3])
            by_cases h9 : ruN (dcN a) (psM b) (psB b) 0 0 0 = 0
            · rw [paV_yes (by rw [e]; exact h9), e, h9]
              exact rd_good3 s w hs a b c hws h1 h2 h3 h9
            · rw [paV_no (by rw [e]; exact h9), e]
              exact rd_range3 s w hs a b c hws h1 h2 h3 (ne_true h9)
    | [a, b, c, d] =>
      rw [hws] at bad
      cases h1 : dcOk a
      · exact bad (P := fun V N => Calls Tryz.prog 9 #[.string s] w fun e w' => e = .returned (.tuple #[V, .int .i64 N]) ∧ Below w.heap.size w w') (by simp [rdW, h1]) (rd_num4 s w hs a b c d hws h1)
      · cases h2 : psOk b
        · exact bad (P := fun V N => Calls Tryz.prog 9 #[.string s] w fun e w' => e = .returned (.tuple #[V, .int .i64 N]) ∧ Below w.heap.size w w') (by simp [rdW, h2]) (rd_cube4 s w hs a b c d hws h1 h2)
        · cases h3 : (c.toList == [111, 117, 116])
          · exact bad (P := fun V N => Calls Tryz.prog 9 #[.string s] w fun e w' => e = .returned (.tuple #[V, .int .i64 N]) ∧ Below w.heap.size w w') (by simp [rdW, deOk, h3]) (rd_out4 s w hs a b c d hws h1 h2 h3)
          · cases h5 : dcOk d
            · exact bad (P := fun V N => Calls Tryz.prog 9 #[.string s] w fun e w' => e = .returned (.tuple #[V, .int .i64 N]) ∧ Below w.heap.size w w') (by simp [rdW, deOk, h5]) (rd_port4 s w hs a b c d hws h1 h2 h3 h5)
            · cases h6 : (dcN d == 0)
              · have e : paN [a, b, c, d] = ruN (dcN a) (psM b) (psB b) (dcN d) 0 0 := paN_yes (by simp only [rdW, deOk, h1, h2, h3, h5, h6]; rfl)
                by_cases h9 : ruN (dcN a) (psM b) (psB b) (dcN d) 0 0 = 0
                · rw [paV_yes (by rw [e]; exact h9), e, h9]
                  exact rd_good4 s w hs a b c d hws h1 h2 h3 h5 h6 h9
                · rw [paV_no (by rw [e]; exact h9), e]
                  exact rd_range4 s w hs a b c d hws h1 h2 h3 h5 h6 (ne_true h9)
              · exact bad (P := fun V N => Calls Tryz.prog 9 #[.string s] w fun e w' => e = .returned (.tuple #[V, .int .i64 N]) ∧ Below w.heap.size w w') (by simp only [rdW, deOk, h1, h2, h3, h5, h6]; rfl) (rd_zero4 s w hs a b c d hws h1 h2 h3 h5 h6)
    | [_, _, _, _, _] => rw [hws] at hl; simp at hl
    | [a, b, c, d, e, f] =>
      rw [hws] at bad
      cases h1 : dcOk a
      · exact bad (P := fun V N => Calls Tryz.prog 9 #[.string s] w fun e w' => e = .returned (.tuple #[V, .int .i64 N]) ∧ Below w.heap.size w w') (by simp [rdW, h1]) (rd_num6 s w hs a b c d e f hws h1)
      · cases h2 : psOk b
        · exact bad (P := fun V N => Calls Tryz.prog 9 #[.string s] w fun e w' => e = .returned (.tuple #[V, .int .i64 N]) ∧ Below w.heap.size w w') (by simp [rdW, h2]) (rd_cube6 s w hs a b c d e f hws h1 h2)
        · cases h3 : (c.toList == [111, 117, 116])
          · exact bad (P := fun V N => Calls Tryz.prog 9 #[.string s] w fun e w' => e = .returned (.tuple #[V, .int .i64 N]) ∧ Below w.heap.size w w') (by simp only [rdW, deOk, h1, h2, h3]; rfl) (rd_out6 s w hs a b c d e f hws h1 h2 h3)
          · cases h5 : dcOk d
            · exact bad (P := fun V N => Calls Tryz.prog 9 #[.string s] w fun e w' => e = .returned (.tuple #[V, .int .i64 N]) ∧ Below w.heap.size w w') (by simp only [rdW, deOk, h1, h2, h3, h5]; rfl) (rd_port6 s w hs a b c d e f hws h1 h2 h3 h5)
            · cases h6 : (dcN d == 0)
              · cases h7 : (e.toList == [115, 101, 116])
                · exact bad (P := fun V N => Calls Tryz.prog 9 #[.string s] w fun e w' => e = .returned (.tuple #[V, .int .i64 N]) ∧ Below w.heap.size w w') (by simp only [rdW, deOk, h1, h2, h3, h5, h6, h7]; rfl) (rd_set6 s w hs a b c d e f hws h1 h2 h3 h5 h6 h7)
                · cases h8 : psOk f
                  · exact bad (P := fun V N => Calls Tryz.prog 9 #[.string s] w fun e w' => e = .returned (.tuple #[V, .int .i64 N]) ∧ Below w.heap.size w w') (by simp only [rdW, deOk, h1, h2, h3, h5, h6, h7, h8]; rfl) (rd_what6 s w hs a b c d e f hws h1 h2 h3 h5 h6 h7 h8)
                  · cases h10 : (psM f == 0)
                    · have ee : paN [a, b, c, d, e, f] = ruN (dcN a) (psM b) (psB b) (dcN d) (psM f) (psB f) := paN_yes (by simp only [rdW, deOk, h1, h2, h3, h5, h6, h7, h8, h10]; rfl)
                      by_cases h9 : ruN (dcN a) (psM b) (psB b) (dcN d) (psM f) (psB f) = 0
                      · rw [paV_yes (by rw [ee]; exact h9), ee, h9]
                        exact rd_good6 s w hs a b c d e f hws h1 h2 h3 h5 h6 h7 h8 h10 h9
                      · rw [paV_no (by rw [ee]; exact h9), ee]
                        exact rd_range6 s w hs a b c d e f hws h1 h2 h3 h5 h6 h7 h8 h10 (ne_true h9)
                    · exact bad (P := fun V N => Calls Tryz.prog 9 #[.string s] w fun e w' => e = .returned (.tuple #[V, .int .i64 N]) ∧ Below w.heap.size w w') (by simp only [rdW, deOk, h1, h2, h3, h5, h6, h7, h8, h10]; rfl) (rd_none6 s w hs a b c d e f hws h1 h2 h3 h5 h6 h7 h8 h10)
              · exact bad (P := fun V N => Calls Tryz.prog 9 #[.string s] w fun e w' => e = .returned (.tuple #[V, .int .i64 N]) ∧ Below w.heap.size w w') (by simp only [rdW, deOk, h1, h2, h3, h5, h6]; rfl) (rd_zero6 s w hs a b c d e f hws h1 h2 h3 h5 h6)
    | _ :: _ :: _ :: _ :: _ :: _ :: _ :: _ => rw [hws] at hl; simp at hl
  · refine bad (P := fun V N => Calls Tryz.prog 9 #[.string s] w fun e w' => e = .returned (.tuple #[V, .int .i64 N]) ∧ Below w.heap.size w w') (rd_no hl) ?_
    exact rd_len0 s w hs _ rfl (fun h => hl (.inl h)) (fun h => hl (.inr (.inl h))) (fun h => hl (.inr (.inr h)))
end Go.Proofs.YtfbocionnjlilabGreatDoor
/- What Print of package cube answers, called with any cube. -/
namespace Go.Proofs.YtfbocionnjlilabGreatDoor
open Go.RowKit
set_option linter.unusedSimpArgs false

set_option maxHeartbeats 400000 in
theorem letter_any (m b x : Int) (w : World) :
    Calls Tryz.prog 44 #[.agg #[.int .i64 m, .int .i64 b], .int .i64 x] w fun e w' => e = .returned (.int .u8 (ltr m b x)) ∧ Below w.heap.size w w' := by
  cases h1 : (bits .and .i64 m x == 0)
  · cases h2 : (bits .and .i64 b x == 0)
    · have e : ltr m b x = 49 := by simp only [ltr, h1, h2]; rfl
      rw [e]; clear e
      go_enter Tryz.func44, Tryz.ntmps44
      go_wp2
      go_ret
      exact ⟨rfl, (Below.refl _ _).alloc (Nat.le_refl _) _⟩
    · have e : ltr m b x = 48 := by simp only [ltr, h1, h2]; rfl
      rw [e]; clear e
      go_enter Tryz.func44, Tryz.ntmps44
      go_wp2
      go_ret
      exact ⟨rfl, (Below.refl _ _).alloc (Nat.le_refl _) _⟩
  · have e : ltr m b x = 42 := by simp only [ltr, h1]; rfl
    rw [e]; clear e
    go_enter Tryz.func44, Tryz.ntmps44
    go_wp2
    go_ret
    exact ⟨rfl, (Below.refl _ _).alloc (Nat.le_refl _) _⟩

set_option maxHeartbeats 400000 in
theorem print_range (m b : Int) (w : World) (h : rngB m b = false) :
    Calls Tryz.prog 27 #[.agg #[.int .i64 m, .int .i64 b]] w fun e w' => e = .returned (.tuple #[.string ⟨#[]⟩, .iface 55 (.int .i64 1)]) ∧ Below w.heap.size w w' := by
  go_enter Tryz.func27, Tryz.ntmps27
  go_wp2_with fail
  refine (check_range _ _ _ h).mono ?_
  rintro e w1 ⟨rfl, hb1⟩
  go_wp2
  go_ret2
  exact ⟨rfl, ((Below.refl _ _).alloc (Nat.le_refl _) _).trans (hb1.mono (by simp))⟩

set_option maxHeartbeats 400000 in
theorem print_shape (m b : Int) (w : World) (h : rngB m b = true) (h2 : okB m b = false) :
    Calls Tryz.prog 27 #[.agg #[.int .i64 m, .int .i64 b]] w fun e w' => e = .returned (.tuple #[.string ⟨#[]⟩, .iface 55 (.int .i64 3)]) ∧ Below w.heap.size w w' := by
  go_enter Tryz.func27, Tryz.ntmps27
  go_wp2_with fail
  refine (check_shape _ _ _ h h2).mono ?_
  rintro e w1 ⟨rfl, hb1⟩
  go_wp2
  go_ret2
  exact ⟨rfl, ((Below.refl _ _).alloc (Nat.le_refl _) _).trans (hb1.mono (by simp))⟩

/-- What holds behind k rounds of Print's loop: B is the block of the text. -/
def PrInv (m b : Int) (w : World) (B k : Nat) (w' : World) : Prop :=
  Below w.heap.size w w' ∧ w.heap.size < B ∧ B < w'.heap.size ∧
      w'.cell? ⟨w.heap.size, 0, none⟩ = some (.int .i64 m) ∧ w'.cell? ⟨w.heap.size, 1, none⟩ = some (.int .i64 b) ∧
      (w'.cell? ⟨B, 0, none⟩ = some (.int .u8 (ltrTo m b k 0)) ∧ w'.cell? ⟨B, 1, none⟩ = some (.int .u8 (ltrTo m b k 1)) ∧
      w'.cell? ⟨B, 2, none⟩ = some (.int .u8 (ltrTo m b k 2)) ∧ w'.cell? ⟨B, 3, none⟩ = some (.int .u8 (ltrTo m b k 3))) ∧
      (w'.frozen? ⟨B, 0, none⟩ = false ∧ w'.frozen? ⟨B, 1, none⟩ = false ∧ w'.frozen? ⟨B, 2, none⟩ = false ∧ w'.frozen? ⟨B, 3, none⟩ = false)

theorem PrInv.later {m b : Int} {w W w' : World} {B k : Nat} (h : PrInv m b w B k W) (hb : Below W.heap.size W w') : PrInv m b w B k w' := by
  obtain ⟨hB, h0, hsz, hm, hb', ⟨c0, c1, c2, c3⟩, ⟨f0, f1, f2, f3⟩⟩ := h
  have fz : ∀ o, w'.frozen? ⟨B, o, none⟩ = W.frozen? ⟨B, o, none⟩ := fun o => hb.frozen (p := ⟨B, o, none⟩) hsz
  exact ⟨hB.trans (hb.mono hB.size), h0, Nat.lt_of_lt_of_le hsz hb.size, cell_later hb hm, cell_later hb hb', ⟨cell_later hb c0, cell_later hb c1, cell_later hb c2, cell_later hb c3⟩,
    ⟨(fz 0).trans f0, (fz 1).trans f1, (fz 2).trans f2, (fz 3).trans f3⟩⟩

theorem ltrTo_lt {m b : Int} {k j : Nat} (h : j < k) : ltrTo m b k j = ltrAt m b j := by simp [ltrTo, h]
theorem ltrTo_ne {m b : Int} {k j : Nat} (h : j ≠ k) : ltrTo m b (k + 1) j = ltrTo m b k j := by
  unfold ltrTo
  by_cases hj : j < k
  · rw [if_pos hj, if_pos (by omega)]
  · rw [if_neg hj, if_neg (by omega)]

theorem PrInv.step {m b : Int} {w w' : World} {B k : Nat} (h : PrInv m b w B k w') (x : Int) (hx : x = bitN k) : PrInv m b w B (k + 1) (w'.setCell ⟨B, k, none⟩ (.int .u8 (ltr m b x))) := by
  obtain ⟨hB, h0, hsz, hm, hb', ⟨c0, c1, c2, c3⟩, ⟨f0, f1, f2, f3⟩⟩ := h
  subst hx
  have hc : ∀ j, w'.cell? ⟨B, j, none⟩ = some (.int .u8 (ltrTo m b k j)) → (w'.setCell ⟨B, k, none⟩ (.int .u8 (ltr m b (bitN k)))).cell? ⟨B, j, none⟩ = some (.int .u8 (ltrTo m b (k + 1) j)) := by
    intro j hcj
    by_cases e : j = k
    · subst e
      rw [World.cell?_setCell_same _ _ _ hcj, ltrTo_lt (by omega)]
      rfl
    · rw [World.cell?_setCell_other _ _ _ _ (by simp <;> omega), hcj, ltrTo_ne e]
  refine ⟨hB.setCell (by simp; omega) _, h0, by simpa using hsz, ?_, ?_, ⟨hc 0 c0, hc 1 c1, hc 2 c2, hc 3 c3⟩, ⟨?_, ?_, ?_, ?_⟩⟩
  · rw [World.cell?_setCell_other _ _ _ _ (by simp <;> omega), hm]
  · rw [World.cell?_setCell_other _ _ _ _ (by simp <;> omega), hb']
  all_goals simp [*]

set_option maxHeartbeats 1000000 in
theorem print_ok (m b : Int) (w : World) (h : okB m b = true) :
    Calls Tryz.prog 27 #[.agg #[.int .i64 m, .int .i64 b]] w fun e w' => e = .returned (.tuple #[.string (prS m b), .nilIface]) ∧ Below w.heap.size w w' := by
  go_enter Tryz.func27, Tryz.ntmps27
  go_wp2_with fail
  refine (check_ok _ _ _ h).mono ?_
  rintro e w1 ⟨rfl, hb1⟩
  obtain ⟨hc1, hf1⟩ := bcell hb1
  have hz1 : w.heap.size < w1.heap.size := by have := hb1.size; simp at this; omega
  go_wp2
  have hI : PrInv m b w w1.heap.size 0 (w1.alloc (Obj.cells #[Value.int IntKind.u8 0, Value.int IntKind.u8 0, Value.int IntKind.u8 0, Value.int IntKind.u8 0] 79)) := by
    refine ⟨((((Below.refl _ _).alloc (Nat.le_refl _) _).trans (hb1.mono (by simp))).alloc (by omega) _), hz1, by simp, ?_, ?_, ⟨?_, ?_, ?_, ?_⟩, ⟨?_, ?_, ?_, ?_⟩⟩
    · rw [World.cell?_alloc_past _ _ _ hz1, hc1 _ _ (by simp)]; simp
    · rw [World.cell?_alloc_past _ _ _ hz1, hc1 _ _ (by simp)]; simp
    all_goals simp [ltrTo]
  clear hb1 hc1 hf1 hz1
  generalize w1.alloc (Obj.cells #[Value.int IntKind.u8 0, Value.int IntKind.u8 0, Value.int IntKind.u8 0, Value.int IntKind.u8 0] 79) = W1 at *
  generalize w1.heap.size = B at *
  clear w1
  go_loopw [12] (fun i w' => ∃ k : Nat, k ≤ 4 ∧ i = .int .i64 k ∧ PrInv m b w B k w') (fun i _ => 4 - (intOf i).toNat)
  case atStart => exact ⟨0, by omega, rfl, hI⟩
  case round =>
    obtain ⟨k, hk, rfl, hI'⟩ := hrel
    clear hI
    obtain ⟨hB, h0, hsz, hm, hb, ⟨c0, c1, c2, c3⟩, ⟨f0, f1, f2, f3⟩⟩ := id hI'
    have HI : Hid (PrInv m b w B k wr) := hI'
    clear hI'
    rcases (by omega : k = 0 ∨ k = 1 ∨ k = 2 ∨ k = 3 ∨ k = 4) with rfl | rfl | rfl | rfl | rfl
    · go_wp2
      go_region_with (first | (go_at_call 45; refine (bitAt_any _ _ (by decide) (by decide)).mono ?_; rintro e w' ⟨rfl, rfl⟩) | (go_at_call 44; refine (letter_any _ _ _ _).mono ?_; rintro e w' ⟨rfl, hb⟩; have HI2 := HI.out.later (((Below.refl _ wr).drew).trans hb); obtain ⟨hB', h0', hsz', hm', hb', ⟨c0', c1', c2', c3'⟩, ⟨f0', f1', f2', f3'⟩⟩ := id HI2; replace HI2 : Hid (PrInv m b w B 0 w') := HI2))
      all_goals
        go_wp2
        go_roundw
        case rel => exact ⟨1, by omega, rfl, HI2.out.step _ (by decide)⟩
        case measure => simp [intOf]
    · go_wp2
      go_region_with (first | (go_at_call 45; refine (bitAt_any _ _ (by decide) (by decide)).mono ?_; rintro e w' ⟨rfl, rfl⟩) | (go_at_call 44; refine (letter_any _ _ _ _).mono ?_; rintro e w' ⟨rfl, hb⟩; have HI2 := HI.out.later (((Below.refl _ wr).drew).trans hb); obtain ⟨hB', h0', hsz', hm', hb', ⟨c0', c1', c2', c3'⟩, ⟨f0', f1', f2', f3'⟩⟩ := id HI2; replace HI2 : Hid (PrInv m b w B 1 w') := HI2))
      all_goals
        go_wp2
        go_roundw
        case rel => exact ⟨2, by omega, rfl, HI2.out.step _ (by decide)⟩
        case measure => simp [intOf]
    · go_wp2
      go_region_with (first | (go_at_call 45; refine (bitAt_any _ _ (by decide) (by decide)).mono ?_; rintro e w' ⟨rfl, rfl⟩) | (go_at_call 44; refine (letter_any _ _ _ _).mono ?_; rintro e w' ⟨rfl, hb⟩; have HI2 := HI.out.later (((Below.refl _ wr).drew).trans hb); obtain ⟨hB', h0', hsz', hm', hb', ⟨c0', c1', c2', c3'⟩, ⟨f0', f1', f2', f3'⟩⟩ := id HI2; replace HI2 : Hid (PrInv m b w B 2 w') := HI2))
      all_goals
        go_wp2
        go_roundw
        case rel => exact ⟨3, by omega, rfl, HI2.out.step _ (by decide)⟩
        case measure => simp [intOf]
    · go_wp2
      go_region_with (first | (go_at_call 45; refine (bitAt_any _ _ (by decide) (by decide)).mono ?_; rintro e w' ⟨rfl, rfl⟩) | (go_at_call 44; refine (letter_any _ _ _ _).mono ?_; rintro e w' ⟨rfl, hb⟩; have HI2 := HI.out.later (((Below.refl _ wr).drew).trans hb); obtain ⟨hB', h0', hsz', hm', hb', ⟨c0', c1', c2', c3'⟩, ⟨f0', f1', f2', f3'⟩⟩ := id HI2; replace HI2 : Hid (PrInv m b w B 3 w') := HI2))
      all_goals
        go_wp2
        go_roundw
        case rel => exact ⟨4, by omega, rfl, HI2.out.step _ (by decide)⟩
        case measure => simp [intOf]
    · have hconv := run_convert_bytes_arg (P := Tryz.prog) wr 82 5 Tryz.underlying82 Tryz.underlying5 B 0 4 4 [ltrAt m b 0, ltrAt m b 1, ltrAt m b 2, ltrAt m b 3] rfl (by
          intro i hi
          rcases (by omega : i = 0 ∨ i = 1 ∨ i = 2 ∨ i = 3) with rfl | rfl | rfl | rfl <;> simp [*, ltrTo]) 9 Tryz.underlying9
      clear c0 c1 c2 c3 f0 f1 f2 f3 hm hb
      go_wp2
      go_ret2
      exact ⟨rfl, hB⟩
end Go.Proofs.YtfbocionnjlilabGreatDoor
/- What Print of package rule answers, called with any rule. -/
namespace Go.Proofs.YtfbocionnjlilabGreatDoor
open Go.RowKit
set_option linter.unusedSimpArgs false

/-- A rule as text. -/
def rsH (p m b : Int) : ByteArray := dgS p ++ ⟨#[32]⟩ ++ prS m b
def rsO (p m b o : Int) : ByteArray := rsH p m b ++ (⟨#[32, 111, 117, 116, 32]⟩ ++ dgS o)
def rsS (p m b o s v : Int) : ByteArray :=
  if o = 0 then rsH p m b ++ ⟨#[32, 100, 114, 111, 112]⟩ else if s = 0 then rsO p m b o else rsO p m b o ++ (⟨#[32, 115, 101, 116, 32]⟩ ++ prS s v)

theorem dg_size (p : Int) : (dgS p).size ≤ 2 := by
  unfold dgS
  split
  · exact Nat.le_succ 1
  · exact Nat.le_refl 2
theorem pr_size (m b : Int) : (prS m b).size = 4 := rfl
theorem set_ok {p o s v : Int} (h1 : ruIn p o s v = true) (h2 : ruSet o s v = true) : okB s v = true := by
  simp only [ruIn, Bool.and_eq_true] at h1
  simp only [ruSet, Bool.and_eq_true] at h2
  simp [okB, h1.2, h2.1]

theorem cells6 {w w1 : World} {p m b o s v : Int} (hb : Below (w.alloc (Obj.cells #[Value.int IntKind.i64 p, Value.int IntKind.i64 m, Value.int IntKind.i64 b, Value.int IntKind.i64 o, Value.int IntKind.i64 s, Value.int IntKind.i64 v] 25)).heap.size (w.alloc (Obj.cells #[Value.int IntKind.i64 p, Value.int IntKind.i64 m, Value.int IntKind.i64 b, Value.int IntKind.i64 o, Value.int IntKind.i64 s, Value.int IntKind.i64 v] 25)) w1) :
    (w1.cell? ⟨w.heap.size, 0, none⟩ = some (.int .i64 p) ∧ w1.cell? ⟨w.heap.size, 1, none⟩ = some (.int .i64 m) ∧ w1.cell? ⟨w.heap.size, 2, none⟩ = some (.int .i64 b) ∧ w1.cell? ⟨w.heap.size, 3, none⟩ = some (.int .i64 o) ∧ w1.cell? ⟨w.heap.size, 4, none⟩ = some (.int .i64 s) ∧ w1.cell? ⟨w.heap.size, 5, none⟩ = some (.int .i64 v)) ∧ w.heap.size < w1.heap.size := by
  have hs := hb.size
  simp at hs
  refine ⟨⟨?_, ?_, ?_, ?_, ?_, ?_⟩, by omega⟩ <;> (rw [hb.cell (p := ⟨w.heap.size, _, none⟩) (by simp)]; simp)

theorem below_one {w w1 : World} {o : Obj} (hb : Below (w.alloc o).heap.size (w.alloc o) w1) : Below w.heap.size w w1 :=
  ((Below.refl _ _).alloc (Nat.le_refl _) _).trans (hb.mono (by simp))

set_option maxHeartbeats 1000000 in
theorem ruPrint_bad (p m b o s v : Int) (w : World) (h : ruOk p m b o s v = false) :
    Calls Tryz.prog 8 #[.agg #[.int .i64 p, .int .i64 m, .int .i64 b, .int .i64 o, .int .i64 s, .int .i64 v]] w fun e w' => e = .returned (.tuple #[.string ⟨#[]⟩, .iface 55 (.int .i64 (ruN p m b o s v))]) ∧ Below w.heap.size w w' := by
  have hn := ruN_ne h
  go_enter Tryz.func8, Tryz.ntmps8
  go_wp2_with fail
  refine (ruCheck_any _ _ _ _ _ _ _).mono ?_
  rintro e w1 ⟨rfl, hb1⟩
  rw [no_ne hn]
  go_wp2
  refine bodyPost_ret (v := .tuple #[.string ⟨#[]⟩, .iface 55 (.int .i64 (ruN p m b o s v))]) (by simp [results, Tryz.results8, go_sem]) rfl ⟨rfl, ?_⟩
  exact ((Below.refl _ _).alloc (Nat.le_refl _) _).trans (hb1.mono (by simp))

set_option maxHeartbeats 1000000 in
theorem ruPrint_ok (p m b o s v : Int) (w : World) (h : ruOk p m b o s v = true) :
    Calls Tryz.prog 8 #[.agg #[.int .i64 p, .int .i64 m, .int .i64 b, .int .i64 o, .int .i64 s, .int .i64 v]] w fun e w' => e = .returned (.tuple #[.string (rsS p m b o s v), .nilIface]) ∧ Below w.heap.size w w' := by
  have hn := ruN_ok h
  obtain ⟨g1, g2, g3⟩ := ru_ok h
  have g4 := set_ok g1 g3
  obtain ⟨⟨⟨p0, p1⟩, ⟨o0, o1⟩⟩, _⟩ := ru_in g1
  have d1 := dg_size p
  have d2 := dg_size o
  have d3 := pr_size m b
  have d4 := pr_size s v
  by_cases ho : o = 0
  · have e : rsS p m b o s v = rsH p m b ++ ⟨#[32, 100, 114, 111, 112]⟩ := by simp [rsS, ho]
    rw [e]
    clear e h g1 g3
    have ho2 : (o == 0) = true := by simpa using ho
    clear ho
    go_enter Tryz.func8, Tryz.ntmps8
    go_wp2_with fail
    refine (ruCheck_any _ _ _ _ _ _ _).mono ?_
    rintro e w1 ⟨rfl, hb1⟩
    rw [no_ok hn]
    obtain ⟨⟨q0, q1, q2, q3, q4, q5⟩, lt1⟩ := cells6 hb1
    have hB := below_one hb1
    clear hb1
    go_wp2_with fail
    refine (print_ok _ _ _ g2).mono ?_
    rintro e w2 ⟨rfl, hb2⟩
    have r0 := cell_later hb2 q0
    have r3 := cell_later hb2 q3
    have hB2 := hB.trans (hb2.mono hB.size)
    have lt2 := Nat.lt_of_lt_of_le lt1 hb2.size
    clear hb2 q0 q1 q2 q3 q4 q5 hB
    go_wp2_with fail
    refine (itoa_any _ _ p0 (by omega)).mono ?_
    rintro e w' ⟨rfl, rfl⟩
    go_wp2
    refine bodyPost_ret (v := .tuple #[.string (rsH p m b ++ ⟨#[32, 100, 114, 111, 112]⟩), .nilIface]) (by simp [results, Tryz.results8, go_sem, rsH]) rfl ⟨rfl, ?_⟩
    exact hB2
  · have ho2 : (o == 0) = false := by simpa using ho
    by_cases hz : s = 0
    · have e : rsS p m b o s v = rsO p m b o := by simp [rsS, ho, hz]
      rw [e]
      have hz2 : (s == 0) = true := by simpa using hz
      have hz3 : (s != 0) = false := by simpa using hz
      clear e h g1 g3 ho hz
      go_enter Tryz.func8, Tryz.ntmps8
      go_wp2_with fail
      refine (ruCheck_any _ _ _ _ _ _ _).mono ?_
      rintro e w1 ⟨rfl, hb1⟩
      rw [no_ok hn]
      obtain ⟨⟨q0, q1, q2, q3, q4, q5⟩, lt1⟩ := cells6 hb1
      have hB := below_one hb1
      clear hb1
      go_wp2_with fail
      refine (print_ok _ _ _ g2).mono ?_
      rintro e w2 ⟨rfl, hb2⟩
      have r0 := cell_later hb2 q0
      have r3 := cell_later hb2 q3
      have r4 := cell_later hb2 q4
      have hB2 := hB.trans (hb2.mono hB.size)
      have lt2 := Nat.lt_of_lt_of_le lt1 hb2.size
      clear hb2 q0 q1 q2 q3 q4 q5 hB
      go_wp2_with fail
      refine (itoa_any _ _ p0 (by omega)).mono ?_
      rintro e w' ⟨rfl, rfl⟩
      go_wp2_with fail
      refine (itoa_any _ _ o0 (by omega)).mono ?_
      rintro e w' ⟨rfl, rfl⟩
      go_wp2
      refine bodyPost_ret (v := .tuple #[.string (rsO p m b o), .nilIface]) (by simp [results, Tryz.results8, go_sem, rsH, rsO]) rfl ⟨rfl, ?_⟩
      exact hB2
    · have e : rsS p m b o s v = rsO p m b o ++ (⟨#[32, 115, 101, 116, 32]⟩ ++ prS s v) := by simp [rsS, ho, hz]
      rw [e]
      have hz2 : (s == 0) = false := by simpa using hz
      have hz3 : (s != 0) = true := by simpa using hz
      clear e h g1 g3 ho hz
      go_enter Tryz.func8, Tryz.ntmps8
      go_wp2_with fail
      refine (ruCheck_any _ _ _ _ _ _ _).mono ?_
      rintro e w1 ⟨rfl, hb1⟩
      rw [no_ok hn]
      obtain ⟨⟨q0, q1, q2, q3, q4, q5⟩, lt1⟩ := cells6 hb1
      have hB := below_one hb1
      clear hb1
      go_wp2_with fail
      refine (print_ok _ _ _ g2).mono ?_
      rintro e w2 ⟨rfl, hb2⟩
      have r0 := cell_later hb2 q0
      have r3 := cell_later hb2 q3
      have r4 := cell_later hb2 q4
      have r5 := cell_later hb2 q5
      have hB2 := hB.trans (hb2.mono hB.size)
      have lt2 := Nat.lt_of_lt_of_le lt1 hb2.size
      clear hb2 q0 q1 q2 q3 q4 q5 hB
      go_wp2_with fail
      refine (itoa_any _ _ p0 (by omega)).mono ?_
      rintro e w' ⟨rfl, rfl⟩
      go_wp2_with fail
      refine (itoa_any _ _ o0 (by omega)).mono ?_
      rintro e w' ⟨rfl, rfl⟩
      go_wp2_with fail
      refine (print_ok _ _ _ g4).mono ?_
      rintro e w3 ⟨rfl, hb3⟩
      have hB3 := hB2.trans (hb3.mono hB2.size)
      clear hb3 hB2
      go_wp2
      refine bodyPost_ret (v := .tuple #[.string (rsO p m b o ++ (⟨#[32, 115, 101, 116, 32]⟩ ++ prS s v)), .nilIface]) (by simp [results, Tryz.results8, go_sem, rsH, rsO]) rfl ⟨rfl, ?_⟩
      exact hB3
end Go.Proofs.YtfbocionnjlilabGreatDoor
/- What the document's own Digits and ShowRule answer, of numbers from 0 to 99 and of rules that are right. -/
namespace Go.Proofs.YtfbocionnjlilabGreatDoor
open Go.RowKit
set_option linter.unusedSimpArgs false

theorem dig1 : ∀ k : Fin 10, (⟨#[48, 49, 50, 51, 52, 53, 54, 55, 56, 57]⟩ : ByteArray).extract ((k : Nat) : Int).toNat (((k : Nat) : Int) + 1).toNat = dgS ((k : Nat) : Int) := by
  decide +kernel
set_option maxRecDepth 100000 in
theorem dig2 : ∀ k : Fin 100, 10 ≤ k.val → dgS (((k : Nat) : Int) / 10) ++ (⟨#[48, 49, 50, 51, 52, 53, 54, 55, 56, 57]⟩ : ByteArray).extract (((k : Nat) : Int) % 10).toNat ((((k : Nat) : Int) % 10) + 1).toNat = dgS ((k : Nat) : Int) := by
  decide +kernel

set_option maxRecDepth 100000 in
set_option maxHeartbeats 1000000 in
theorem digits_lo (p : Int) (w : World) (h0 : 0 ≤ p) (h1 : p < 10) :
    Calls Tryz.prog 25 #[.int .i64 p] w fun e w' => e = .returned (.string (dgS p)) ∧ w' = w := by
  have e1 : decide (p < 10) = true := by simpa using h1
  go_enter Tryz.func25, Tryz.ntmps25
  go_wp2
  go_ret
  refine ⟨ret_str ?_, rfl⟩
  obtain ⟨k, rfl⟩ : ∃ k : Fin 10, p = ((k : Nat) : Int) := ⟨⟨p.toNat, by omega⟩, by simp; omega⟩
  exact dig1 k

set_option maxRecDepth 100000 in
set_option maxHeartbeats 1000000 in
theorem digits_any (p : Int) (w : World) (h0 : 0 ≤ p) (h1 : p < 100) :
    Calls Tryz.prog 25 #[.int .i64 p] w fun e w' => e = .returned (.string (dgS p)) ∧ w' = w := by
  by_cases h : p < 10
  · exact digits_lo p w h0 h
  · have e1 : decide (p < 10) = false := by simpa using h
    have hd := dg_size (p / 10)
    have r0 : 0 ≤ p % 10 := Int.emod_nonneg _ (by decide)
    have r1 : p % 10 < 10 := Int.emod_lt_of_pos _ (by decide)
    go_enter Tryz.func25, Tryz.ntmps25
    go_wp2_with fail
    refine (digits_lo _ _ (by omega) (by omega)).mono ?_
    rintro e w' ⟨rfl, rfl⟩
    go_wp2
    go_ret
    refine ⟨ret_str ?_, rfl⟩
    obtain ⟨k, rfl⟩ : ∃ k : Fin 100, p = ((k : Nat) : Int) := ⟨⟨p.toNat, by omega⟩, by simp; omega⟩
    exact dig2 k (by omega)

theorem ap_as (a b c : ByteArray) : a ++ (b ++ c) = a ++ b ++ c := ByteArray.append_assoc.symm

set_option maxHeartbeats 2000000 in
theorem showRule_any (p m b o s v : Int) (w : World) (h : ruOk p m b o s v = true) :
    Calls Tryz.prog 7 #[.agg #[.int .i64 p, .int .i64 m, .int .i64 b, .int .i64 o, .int .i64 s, .int .i64 v]] w fun e w' => e = .returned (.string (rsS p m b o s v)) ∧ Below w.heap.size w w' := by
  obtain ⟨g1, g2, g3⟩ := ru_ok h
  have g4 := set_ok g1 g3
  obtain ⟨⟨⟨p0, p1⟩, ⟨o0, o1⟩⟩, ⟨s0, s1⟩, _⟩ := ru_in g1
  have d1 := dg_size p
  have d2 := dg_size o
  have d3 := pr_size m b
  have d4 := pr_size s v
  by_cases ho : o = 0
  · have e : rsS p m b o s v = dgS p ++ ⟨#[32]⟩ ++ prS m b ++ ⟨#[32, 100, 114, 111, 112]⟩ := by simp [rsS, rsH, ho]
    rw [e]
    have ho2 : (o == 0) = true := by simpa using ho
    clear e h g1 g3 ho
    go_enter Tryz.func7, Tryz.ntmps7
    go_wp2_with fail
    refine (digits_any _ _ p0 (by omega)).mono ?_
    rintro e w' ⟨rfl, rfl⟩
    go_wp2_with fail
    refine (refShow_any _ _ _ g2).mono ?_
    rintro e w2 ⟨rfl, hb2⟩
    obtain ⟨⟨q0, q1, q2, q3, q4, q5⟩, lt1⟩ := cells6 hb2
    have hB := below_one hb2
    clear hb2
    go_wp2
    go_ret
    exact ⟨rfl, hB⟩
  · have ho2 : (o == 0) = false := by simpa using ho
    by_cases hz : s = 0
    · have e : rsS p m b o s v = dgS p ++ ⟨#[32]⟩ ++ prS m b ++ ⟨#[32, 111, 117, 116, 32]⟩ ++ dgS o := by simp only [rsS, rsO, rsH, if_neg ho, if_pos hz, ap_as]
      rw [e]
      have hz2 : decide (0 < s) = false := by simp; omega
      clear e h g1 g3 ho
      go_enter Tryz.func7, Tryz.ntmps7
      go_wp2_with fail
      refine (digits_any _ _ p0 (by omega)).mono ?_
      rintro e w' ⟨rfl, rfl⟩
      go_wp2_with fail
      refine (refShow_any _ _ _ g2).mono ?_
      rintro e w2 ⟨rfl, hb2⟩
      obtain ⟨⟨q0, q1, q2, q3, q4, q5⟩, lt1⟩ := cells6 hb2
      have hB := below_one hb2
      clear hb2
      go_wp2_with fail
      refine (digits_any _ _ o0 (by omega)).mono ?_
      rintro e w' ⟨rfl, rfl⟩
      go_wp2
      go_ret
      exact ⟨rfl, hB⟩
    · have e : rsS p m b o s v = dgS p ++ ⟨#[32]⟩ ++ prS m b ++ ⟨#[32, 111, 117, 116, 32]⟩ ++ dgS o ++ ⟨#[32, 115, 101, 116, 32]⟩ ++ prS s v := by simp only [rsS, rsO, rsH, if_neg ho, if_neg hz, ap_as]
      rw [e]
      have hz2 : decide (0 < s) = true := by simp; omega
      clear e h g1 g3 ho hz
      go_enter Tryz.func7, Tryz.ntmps7
      go_wp2_with fail
      refine (digits_any _ _ p0 (by omega)).mono ?_
      rintro e w' ⟨rfl, rfl⟩
      go_wp2_with fail
      refine (refShow_any _ _ _ g2).mono ?_
      rintro e w2 ⟨rfl, hb2⟩
      obtain ⟨⟨q0, q1, q2, q3, q4, q5⟩, lt1⟩ := cells6 hb2
      have hB := below_one hb2
      clear hb2
      go_wp2_with fail
      refine (digits_any _ _ o0 (by omega)).mono ?_
      rintro e w' ⟨rfl, rfl⟩
      go_wp2_with fail
      refine (refShow_any _ _ _ g4).mono ?_
      rintro e w3 ⟨rfl, hb3⟩
      have hB3 := hB.trans (hb3.mono hB.size)
      clear hb3 hB
      go_wp2
      go_ret
      exact ⟨rfl, hB3⟩
end Go.Proofs.YtfbocionnjlilabGreatDoor
/- Tables of rules in plain lists: what is wrong with one, which rule counts. No program in it. -/
namespace Go.Proofs.YtfbocionnjlilabGreatDoor
open Go.RowKit

/-- -1, 0 or 1: is the one below, as great as, above the other? -/
def cmpN (a b : Int) : Int := if a < b then -1 else if b < a then 1 else 0
/-- The first of three numbers that is not 0. -/
def orN (x y z : Int) : Int := if x = 0 then (if y = 0 then z else y) else x
/-- Above 0: the one counts ahead of the other; 0: they have one Prio and one Cube. -/
def ordN (p m b p' m' b' : Int) : Int := orN (cmpN p p') (cmpN m m') (cmpN b b')

structure Ru where
  p : Int
  m : Int
  b : Int
  o : Int
  s : Int
  v : Int

def Ru.n (r : Ru) : Int := ruN r.p r.m r.b r.o r.s r.v
def Ru.ok (r : Ru) : Bool := ruOk r.p r.m r.b r.o r.s r.v
def Ru.has (r : Ru) (h : Int) : Bool := hasB r.m r.b h
def ordR (a b : Ru) : Int := ordN a.p a.m a.b b.p b.m b.b
/-- Have two rules one Prio and one Cube? -/
def keyB (a b : Ru) : Bool := ordR a b == 0
def zeR : Ru := ⟨0, 0, 0, 0, 0, 0⟩

theorem cmp_0 {a b : Int} : cmpN a b = 0 ↔ a = b := by unfold cmpN; split <;> (try split) <;> omega
theorem ord_0 {a b : Ru} : ordR a b = 0 ↔ a.p = b.p ∧ a.m = b.m ∧ a.b = b.b := by
  unfold ordR ordN orN
  by_cases h1 : a.p = b.p
  · rw [if_pos (cmp_0.2 h1)]
    by_cases h2 : a.m = b.m
    · rw [if_pos (cmp_0.2 h2), cmp_0]
      exact ⟨fun h => ⟨h1, h2, h⟩, fun h => h.2.2⟩
    · rw [if_neg (fun h => h2 (cmp_0.1 h)), cmp_0]
      exact ⟨fun h => absurd h h2, fun h => h.2.1⟩
  · rw [if_neg (fun h => h1 (cmp_0.1 h)), cmp_0]
    exact ⟨fun h => absurd h h1, fun h => h.1⟩
theorem ord_le {a b : Ru} : ordR a b ≤ 0 ↔ (a.p < b.p ∨ a.p = b.p ∧ (a.m < b.m ∨ a.m = b.m ∧ a.b ≤ b.b)) := by
  unfold ordR ordN orN cmpN
  split <;> split <;> (try split) <;> (try split) <;> (try split) <;> (try split) <;> omega
theorem ord_tr {a b c : Ru} (h1 : ordR a b ≤ 0) (h2 : 0 < ordR c b) : ordR a c ≤ 0 := by
  have h3 : ¬ ordR c b ≤ 0 := by omega
  rw [ord_le] at h1 h3 ⊢
  omega
theorem ord_as {a b : Ru} (h1 : ordR a b ≤ 0) (h2 : ordR b a ≤ 0) : ordR a b = 0 := by
  rw [ord_le] at h1 h2
  rw [ord_0]
  omega
theorem ord_rf (a : Ru) : ordR a a = 0 := ord_0.2 ⟨rfl, rfl, rfl⟩
theorem key_sym {a b : Ru} (h : keyB a b = false) : keyB b a = false := by
  simp only [keyB, beq_eq_false_iff_ne, ne_eq, ord_0] at h ⊢
  exact fun h' => h ⟨h'.1.symm, h'.2.1.symm, h'.2.2.symm⟩

theorem key_eq (a b : Ru) : keyB a b = (decide (a.p = b.p) && (decide (a.m = b.m) && decide (a.b = b.b))) := by
  rw [Bool.eq_iff_iff, keyB, beq_iff_eq, ord_0]
  simp

/-- Is there one among the first k that has the Prio and the Cube of one ahead? -/
def clTo (L : List Ru) : Nat → Bool
  | 0 => false
  | k + 1 => clTo L k || (L.take k).any (fun a => keyB a (L.getD k zeR))
def okR (L : List Ru) : Bool := L.all Ru.ok
/-- The fault of the first k rules: what is wrong with the first that has a fault: by itself, or that it has the Prio and the Cube of one ahead. -/
def tbTo (L : List Ru) : Nat → Int
  | 0 => 0
  | k + 1 => if tbTo L k = 0 then (if (L.getD k zeR).n = 0 then (if (L.take k).any (fun a => keyB a (L.getD k zeR)) then 7 else 0) else (L.getD k zeR).n) else tbTo L k
/-- The fault of a table. -/
def tbN (L : List Ru) : Int := if 12 < L.length then 4 else tbTo L L.length

theorem n_ne {r : Ru} (h : r.ok = false) : r.n ≠ 0 := ruN_ne h
theorem n_ok {r : Ru} (h : r.ok = true) : r.n = 0 := ruN_ok h
theorem ok_n {r : Ru} (h : r.n = 0) : r.ok = true := by
  cases e : r.ok
  · exact absurd h (n_ne e)
  · rfl
theorem okR_next {L : List Ru} {k : Nat} (hk : k < L.length) (h : okR (L.take k) = true) (h2 : (L[k]).ok = true) : okR (L.take (k + 1)) = true := by
  rw [List.take_succ_eq_append_getElem hk]
  simp only [okR, List.all_append, List.all_cons, List.all_nil, Bool.and_true, Bool.and_eq_true]
  exact ⟨h, h2⟩
/-- A fault among the first ones is the table's. -/
theorem to_le {L : List Ru} {k : Nat} (h : tbTo L k ≠ 0) : ∀ {n : Nat}, k ≤ n → tbTo L n = tbTo L k
  | 0, hn => by
    obtain rfl : k = 0 := by omega
    rfl
  | n + 1, hn => by
    by_cases e : k = n + 1
    · subst e; rfl
    · have := to_le h (show k ≤ n by omega)
      rw [tbTo, if_neg (by rw [this]; exact h), this]
theorem getD_at {L : List Ru} {k : Nat} (hk : k < L.length) : L.getD k zeR = L[k] := by simp [List.getD, hk]

theorem cl_le {L : List Ru} : ∀ {k n : Nat}, k ≤ n → clTo L n = false → clTo L k = false
  | k, 0, h, hc => by
    obtain rfl : k = 0 := by omega
    exact hc
  | k, n + 1, h, hc => by
    by_cases e : k = n + 1
    · subst e; exact hc
    · simp only [clTo, Bool.or_eq_false_iff] at hc
      exact cl_le (by omega) hc.1
theorem cl_hit {L : List Ru} {k : Nat} (hk : k < L.length) (h : (L.take k).any (fun a => keyB a (L.getD k zeR)) = true) : clTo L L.length = true := by
  cases e : clTo L L.length
  · have := cl_le (show k + 1 ≤ L.length by omega) e
    simp only [clTo, h, Bool.or_true] at this
    cases this
  · rfl
/-- No clash: no two have one Prio and one Cube. -/
theorem cl_no {L : List Ru} : clTo L L.length = false ↔ ∀ i j, i < j → j < L.length → keyB (L.getD i zeR) (L.getD j zeR) = false := by
  constructor
  · intro h i j hij hj
    have := cl_le (show j + 1 ≤ L.length by omega) h
    simp only [clTo, Bool.or_eq_false_iff] at this
    have h2 := this.2
    rw [List.any_eq_false] at h2
    have hm : L.getD i zeR ∈ L.take j := by
      rw [getD_at (by omega)]
      rw [List.mem_take_iff_getElem]
      exact ⟨i, by omega, rfl⟩
    simpa using h2 _ hm
  · intro h
    have : ∀ n, n ≤ L.length → clTo L n = false := by
      intro n
      induction n with
      | zero => intro _; rfl
      | succ n ih =>
        intro hn
        simp only [clTo, Bool.or_eq_false_iff]
        refine ⟨ih (by omega), ?_⟩
        rw [List.any_eq_false]
        intro a ha
        rw [List.mem_take_iff_getElem] at ha
        obtain ⟨i, hi, rfl⟩ := ha
        have := h i n (by omega) (by omega)
        rw [getD_at (by omega)] at this
        simpa using this
    exact this _ (Nat.le_refl _)
theorem to_0 {L : List Ru} : ∀ {k : Nat}, k ≤ L.length → (tbTo L k = 0 ↔ okR (L.take k) = true ∧ clTo L k = false)
  | 0, _ => by simp [tbTo, okR, clTo]
  | k + 1, hk => by
    have ih := to_0 (show k ≤ L.length by omega)
    have hl : k < L.length := by omega
    rw [tbTo, clTo]
    by_cases h1 : tbTo L k = 0
    · obtain ⟨i1, i2⟩ := ih.1 h1
      rw [if_pos h1, i2, Bool.false_or]
      by_cases h2 : (L.getD k zeR).n = 0
      · rw [if_pos h2]
        have h3 := okR_next hl i1 (by rw [← getD_at hl]; exact ok_n h2)
        cases h4 : (L.take k).any (fun a => keyB a (L.getD k zeR))
        · simp [h3]
        · simp
      · rw [if_neg h2]
        refine ⟨fun h => absurd h h2, fun h => ?_⟩
        exfalso
        have h5 := h.1
        rw [okR, List.all_eq_true] at h5
        exact h2 (n_ok (by rw [getD_at hl]; exact h5 _ (by rw [List.mem_take_iff_getElem]; exact ⟨k, by omega, rfl⟩)))
    · rw [if_neg h1]
      refine ⟨fun h => absurd h h1, fun h => ?_⟩
      exfalso
      obtain ⟨h5, h6⟩ := h
      simp only [Bool.or_eq_false_iff] at h6
      refine h1 (ih.2 ⟨?_, h6.1⟩)
      rw [okR, List.all_eq_true] at h5 ⊢
      intro x hx
      refine h5 x ?_
      rw [List.mem_take_iff_getElem] at hx ⊢
      obtain ⟨i, hi, e⟩ := hx
      exact ⟨i, by omega, e⟩
/-- A table that is right. -/
theorem tb_0 {L : List Ru} : tbN L = 0 ↔ L.length ≤ 12 ∧ okR L = true ∧ clTo L L.length = false := by
  unfold tbN
  by_cases h1 : 12 < L.length
  · rw [if_pos h1]
    constructor
    · intro h; cases h
    · intro h; omega
  · rw [if_neg h1, to_0 (Nat.le_refl _), List.take_length]
    exact ⟨fun h => ⟨by omega, h⟩, fun h => h.2⟩

theorem rev_at {L : List Ru} {i : Nat} (h : i < L.length) : L.reverse.getD i zeR = L.getD (L.length - 1 - i) zeR := by
  rw [getD_at (by simpa using h), getD_at (by omega), List.getElem_reverse]
theorem tb_rev {L : List Ru} (h : tbN L = 0) : tbN L.reverse = 0 := by
  rw [tb_0] at h ⊢
  obtain ⟨h1, h2, h3⟩ := h
  refine ⟨by simpa using h1, by simpa [okR] using h2, ?_⟩
  rw [cl_no] at h3 ⊢
  intro i j hij hj
  rw [List.length_reverse] at hj
  rw [rev_at (by omega), rev_at hj]
  exact key_sym (h3 _ _ (by omega) (by omega))

/-- The place of the rule that counts among the first k; -1: none. -/
def beTo (L : List Ru) (h : Int) : Nat → Int
  | 0 => -1
  | k + 1 => if ((L.getD k zeR).has h && (decide (beTo L h k < 0) || decide (0 < ordR (L.getD k zeR) (L.getD (beTo L h k).toNat zeR)))) = true then (k : Int) else beTo L h k
theorem be_bd (L : List Ru) (h : Int) : ∀ k : Nat, -1 ≤ beTo L h k ∧ beTo L h k < k
  | 0 => by simp [beTo]
  | k + 1 => by
    have := be_bd L h k
    unfold beTo
    split <;> omega
theorem be_no {L : List Ru} {h : Int} : ∀ {k : Nat}, beTo L h k < 0 → ∀ j, j < k → (L.getD j zeR).has h = false
  | 0, _, j, hj => by omega
  | k + 1, hb, j, hj => by
    unfold beTo at hb
    split at hb
    · omega
    · next hn =>
      by_cases e : j = k
      · subst e
        cases hh : (L.getD j zeR).has h
        · rfl
        · exact absurd (by rw [hh]; simp [hb]) hn
      · exact be_no hb j (by omega)
theorem be_yes {L : List Ru} {h : Int} : ∀ {k : Nat}, 0 ≤ beTo L h k → (L.getD (beTo L h k).toNat zeR).has h = true ∧ ∀ j, j < k → (L.getD j zeR).has h = true → ordR (L.getD j zeR) (L.getD (beTo L h k).toNat zeR) ≤ 0
  | 0, hb => by simp [beTo] at hb
  | k + 1, hb => by
    unfold beTo at hb ⊢
    split
    · next hy =>
      simp only [Bool.and_eq_true, Bool.or_eq_true, decide_eq_true_eq] at hy
      obtain ⟨y1, y2⟩ := hy
      simp only [Int.toNat_natCast]
      refine ⟨y1, fun j hj hh => ?_⟩
      by_cases e : j = k
      · subst e
        rw [ord_rf]
        exact Int.le_refl _
      · rcases y2 with y2 | y2
        · rw [be_no y2 j (by omega)] at hh
          cases hh
        · have h0 : 0 ≤ beTo L h k := by
            rcases Int.lt_or_le (beTo L h k) 0 with h' | h'
            · rw [be_no h' j (by omega)] at hh
              cases hh
            · exact h'
          exact ord_tr ((be_yes h0).2 j (by omega) hh) y2
    · next hn =>
      rw [if_neg hn] at hb
      obtain ⟨i1, i2⟩ := be_yes hb
      refine ⟨i1, fun j hj hh => ?_⟩
      by_cases e : j = k
      · subst e
        rw [hh] at hn
        simp only [Bool.true_and, Bool.or_eq_true, decide_eq_true_eq, not_or] at hn
        omega
      · exact i2 j (by omega) hh

/-- The fault of a look into a table, and the place. -/
def luN (L : List Ru) (h : Int) : Int := if tbN L = 0 then (if hdrB h then (if beTo L h L.length < 0 then 5 else 0) else 1) else tbN L
def luI (L : List Ru) (h : Int) : Int := if luN L h = 0 then beTo L h L.length else 0
theorem lu_0 {L : List Ru} {h : Int} : luN L h = 0 ↔ tbN L = 0 ∧ hdrB h = true ∧ 0 ≤ beTo L h L.length := by
  unfold luN
  by_cases h1 : tbN L = 0
  · rw [if_pos h1]
    cases h2 : hdrB h
    · simp
    · by_cases h3 : beTo L h L.length < 0
      · simp [h1, h3] <;> omega
      · simp [h1, h3] <;> omega
  · rw [if_neg h1]
    simp [h1]
theorem lu_rev {L : List Ru} {h : Int} (h0 : luN L h = 0) : luN L.reverse h = 0 := by
  rw [lu_0] at h0 ⊢
  obtain ⟨h1, h2, h3⟩ := h0
  refine ⟨tb_rev h1, h2, ?_⟩
  rcases Int.lt_or_le (beTo L.reverse h L.reverse.length) 0 with h' | h'
  · exfalso
    have hb := be_bd L h L.length
    have := be_no h' (L.length - 1 - (beTo L h L.length).toNat) (by rw [List.length_reverse]; omega)
    rw [rev_at (by omega), show L.length - 1 - (L.length - 1 - (beTo L h L.length).toNat) = (beTo L h L.length).toNat by omega, (be_yes h3).1] at this
    cases this
  · exact h'
theorem lu_iff {L : List Ru} {h : Int} : luN L.reverse h = 0 ↔ luN L h = 0 :=
  ⟨fun e => by have := lu_rev e; rwa [List.reverse_reverse] at this, lu_rev⟩
/-- However a table stands, the same rule counts. -/
theorem lu_same {L : List Ru} {h : Int} (h0 : luN L h = 0) : L.reverse.getD (luI L.reverse h).toNat zeR = L.getD (luI L h).toNat zeR ∧ (luI L.reverse h).toNat < L.length ∧ (luI L h).toNat < L.length ∧ 0 ≤ luI L.reverse h ∧ 0 ≤ luI L h := by
  have h1 := lu_rev h0
  have e1 : luI L h = beTo L h L.length := by simp [luI, h0]
  have e2 : luI L.reverse h = beTo L.reverse h L.reverse.length := by rw [luI, if_pos h1]
  rw [e1, e2]
  obtain ⟨a1, _, a3⟩ := lu_0.1 h0
  obtain ⟨_, _, b3⟩ := lu_0.1 h1
  have c1 := be_bd L h L.length
  have c2 := be_bd L.reverse h L.reverse.length
  rw [List.length_reverse] at *
  obtain ⟨d1, d2⟩ := be_yes a3
  obtain ⟨f1, f2⟩ := be_yes b3
  generalize hi : (beTo L h L.length).toNat = i at *
  generalize hk : (beTo L.reverse h L.length).toNat = k at *
  have hil : i < L.length := by omega
  have hkl : k < L.length := by omega
  refine ⟨?_, hkl, hil, b3, a3⟩
  rw [rev_at hkl] at f1 f2 ⊢
  have g1 := d2 (L.length - 1 - k) (by omega) f1
  have g2 := f2 (L.length - 1 - i) (by omega) (by rw [rev_at (by omega), show L.length - 1 - (L.length - 1 - i) = i by omega]; exact d1)
  rw [rev_at (by omega), show L.length - 1 - (L.length - 1 - i) = i by omega] at g2
  have g3 := ord_as g2 g1
  have hc := cl_no.1 (tb_0.1 a1).2.2
  rcases Nat.lt_trichotomy i (L.length - 1 - k) with h' | h' | h'
  · have := hc _ _ h' (by omega)
    rw [keyB, g3] at this
    cases this
  · rw [← h']
  · have := key_sym (hc _ _ h' hil)
    rw [keyB, g3] at this
    cases this
/-- The rule that counts has the header, and none that has it has a greater Prio. -/
theorem lu_top {L : List Ru} {h : Int} (h0 : luN L h = 0) : (L.getD (luI L h).toNat zeR).has h = true ∧ ∀ j, j < L.length → (L.getD j zeR).has h = true → (L.getD j zeR).p ≤ (L.getD (luI L h).toNat zeR).p := by
  have e1 : luI L h = beTo L h L.length := by simp [luI, h0]
  rw [e1]
  obtain ⟨d1, d2⟩ := be_yes (lu_0.1 h0).2.2
  refine ⟨d1, fun j hj hh => ?_⟩
  have := d2 j hj hh
  rw [ord_le] at this
  omega
end Go.Proofs.YtfbocionnjlilabGreatDoor
/- What the document's own functions on rules and tables come to, in plain numbers: no program in it. -/
namespace Go.Proofs.YtfbocionnjlilabGreatDoor
open Go.RowKit

/-- Is the i-th bit of what a rule makes of a header set? -/
def tuB (s v h : Int) (i : Nat) : Bool := bitB s i && bitB v i || !bitB s i && bitB h i
/-- The upper k bits of it. -/
def tuTo (s v h : Int) : Nat → Int
  | 0 => 0
  | k + 1 => if tuB s v h (3 - k) then tuTo s v h k * 2 + 1 else tuTo s v h k * 2
theorem tu_bd (s v h : Int) : ∀ k, 0 ≤ tuTo s v h k ∧ tuTo s v h k < 2 ^ k
  | 0 => by simp [tuTo]
  | k + 1 => by
    have := tu_bd s v h k
    have e : (2 : Int) ^ (k + 1) = 2 ^ k * 2 := Int.pow_succ ..
    unfold tuTo
    split <;> omega
set_option maxRecDepth 100000 in
theorem tu_fin : ∀ (s v h : Fin 16), ((bits .andNot .i64 ((v : Nat) : Int) ((s : Nat) : Int) == 0) && !(tuTo ((s : Nat) : Int) ((v : Nat) : Int) ((h : Nat) : Int) 4 == apV ((s : Nat) : Int) ((v : Nat) : Int) ((h : Nat) : Int))) = false := by decide +kernel
theorem fin16 {x : Int} (h : 0 ≤ x ∧ x < 16) : ∃ i : Fin 16, x = ((i : Nat) : Int) := ⟨⟨x.toNat, by omega⟩, by simp; omega⟩
/-- Bit by bit it is what the program reckons at once. -/
theorem tu_ap {s v h : Int} (hs : 0 ≤ s ∧ s < 16) (hv : 0 ≤ v ∧ v < 16) (hh : 0 ≤ h ∧ h < 16) (hz : (bits .andNot .i64 v s == 0) = true) : tuTo s v h 4 = apV s v h := by
  obtain ⟨a, rfl⟩ := fin16 hs
  obtain ⟨b, rfl⟩ := fin16 hv
  obtain ⟨c, rfl⟩ := fin16 hh
  have := tu_fin a b c
  rw [hz] at this
  simpa using this
/-- Does a header count for the rule at a place, among the first k headers? -/
def shB (L : List Ru) (i k : Nat) : Bool := (List.range k).any fun h => beTo L (h : Int) L.length == (i : Int)
theorem sh_0 (L : List Ru) (i : Nat) : shB L i 0 = false := rfl
theorem shB_next (L : List Ru) (i k : Nat) : shB L i (k + 1) = (shB L i k || (beTo L (k : Int) L.length == (i : Int))) := by
  simp [shB, List.range_succ]
/-- The places of rules among the first k that count for no header. -/
def deTo (L : List Ru) : Nat → List Int
  | 0 => []
  | k + 1 => if shB L k 16 then deTo L k else deTo L k ++ [(k : Int)]
theorem deTo_len (L : List Ru) : ∀ k, (deTo L k).length ≤ k
  | 0 => by simp [deTo]
  | k + 1 => by
    have := deTo_len L k
    unfold deTo
    split
    · omega
    · simp; omega
def deadL (L : List Ru) : List Int := if tbN L = 0 then deTo L L.length else []
theorem tb_le {L : List Ru} (h : tbN L = 0) : L.length ≤ 12 := (tb_0.1 h).1
theorem dead_len (L : List Ru) : (deadL L).length ≤ 12 := by
  unfold deadL
  split
  · next h => exact Nat.le_trans (deTo_len L _) (tb_le h)
  · simp
/-- Does a rule count ahead of another one, in the document's words? -/
def abB (a b : Ru) : Bool := if a.p = b.p then (if a.m = b.m then decide (b.b < a.b) else decide (b.m < a.m)) else decide (b.p < a.p)
theorem ab_ord (a b : Ru) : abB a b = decide (0 < ordR a b) := by
  have h : ordR a b ≤ 0 ↔ _ := ord_le (a := a) (b := b)
  unfold abB
  split
  · split <;> (rw [decide_eq_decide]; omega)
  · rw [decide_eq_decide]; omega
end Go.Proofs.YtfbocionnjlilabGreatDoor
/- What Table of package rule answers, called with any table. -/
namespace Go.Proofs.YtfbocionnjlilabGreatDoor
open Go.RowKit
set_option linter.unusedSimpArgs false

/-- A rule lies at an address. -/
structure C6 (w : World) (g o : Nat) (r : Ru) : Prop where
  c0 : w.cell? ⟨g, o, none⟩ = some (.int .i64 r.p)
  c1 : w.cell? ⟨g, o + 1, none⟩ = some (.int .i64 r.m)
  c2 : w.cell? ⟨g, o + 2, none⟩ = some (.int .i64 r.b)
  c3 : w.cell? ⟨g, o + 3, none⟩ = some (.int .i64 r.o)
  c4 : w.cell? ⟨g, o + 4, none⟩ = some (.int .i64 r.s)
  c5 : w.cell? ⟨g, o + 5, none⟩ = some (.int .i64 r.v)
theorem C6.later {w w' : World} {g o : Nat} {r : Ru} (h : C6 w g o r) (hb : Below w.heap.size w w') : C6 w' g o r :=
  ⟨cell_later hb h.c0, cell_later hb h.c1, cell_later hb h.c2, cell_later hb h.c3, cell_later hb h.c4, cell_later hb h.c5⟩
theorem C6.new (w : World) (p m b o s v : Int) (t : TypeId) : C6 (w.alloc (Obj.cells #[Value.int IntKind.i64 p, Value.int IntKind.i64 m, Value.int IntKind.i64 b, Value.int IntKind.i64 o, Value.int IntKind.i64 s, Value.int IntKind.i64 v] t)) w.heap.size 0 ⟨p, m, b, o, s, v⟩ := by
  refine ⟨?_, ?_, ?_, ?_, ?_, ?_⟩ <;> simp
/-- These rules lie from an address on. -/
def RAt (w : World) (g o : Nat) (L : List Ru) : Prop := ∀ i (h : i < L.length), C6 w g (o + i * 6) L[i]
theorem RAt.later {w w' : World} {g o : Nat} {L : List Ru} (h : RAt w g o L) (hb : Below w.heap.size w w') : RAt w' g o L := fun i hi => (h i hi).later hb
theorem RAt.take {w : World} {g o : Nat} {L : List Ru} (h : RAt w g o L) (k : Nat) : RAt w g o (L.take k) := by
  intro i hi
  rw [List.getElem_take]
  exact h i (by simp at hi; omega)
/-- A value is a slice of these rules. -/
def SR (w : World) (v : Value) (L : List Ru) : Prop :=
  (∃ ao cap, v = .slice ao 0 cap ∧ L = []) ∨ ∃ g o cap, v = .slice (some ⟨g, o, none⟩) L.length cap ∧ L.length ≤ cap ∧ cap ≤ maxLen ∧ RAt w g o L
theorem SR.later {w w' : World} {v : Value} {L : List Ru} (h : SR w v L) (hb : Below w.heap.size w w') : SR w' v L := by
  rcases h with h | ⟨g, o, cap, h1, h2, h3, h4⟩
  · exact .inl h
  · exact .inr ⟨g, o, cap, h1, h2, h3, h4.later hb⟩
/-- The rule at a place, in letters. -/
theorem RAt.at {w : World} {g o : Nat} {L : List Ru} (h : RAt w g o L) {n k : Nat} (hn : L.length = n) (hk : k < n) :
    ∃ (p m b q s v : Int) (hl : k < L.length), L[k] = ⟨p, m, b, q, s, v⟩ ∧ (w.cell? ⟨g, o + k * 6, none⟩ = some (.int .i64 p) ∧ w.cell? ⟨g, o + k * 6 + 1, none⟩ = some (.int .i64 m) ∧ w.cell? ⟨g, o + k * 6 + 2, none⟩ = some (.int .i64 b) ∧
      w.cell? ⟨g, o + k * 6 + 3, none⟩ = some (.int .i64 q) ∧ w.cell? ⟨g, o + k * 6 + 4, none⟩ = some (.int .i64 s) ∧ w.cell? ⟨g, o + k * 6 + 5, none⟩ = some (.int .i64 v)) :=
  have hl : k < L.length := by omega
  have c := h k hl
  ⟨_, _, _, _, _, _, hl, rfl, c.c0, c.c1, c.c2, c.c3, c.c4, c.c5⟩

theorem key_ways (p m b o s v p' m' b' o' s' v' : Int) :
    ((p == p') = false ∧ keyB ⟨p, m, b, o, s, v⟩ ⟨p', m', b', o', s', v'⟩ = false) ∨ ((p == p') = true ∧ (m == m') = false ∧ keyB ⟨p, m, b, o, s, v⟩ ⟨p', m', b', o', s', v'⟩ = false) ∨
    ((p == p') = true ∧ (m == m') = true ∧ (b == b') = false ∧ keyB ⟨p, m, b, o, s, v⟩ ⟨p', m', b', o', s', v'⟩ = false) ∨ ((p == p') = true ∧ (m == m') = true ∧ (b == b') = true ∧ keyB ⟨p, m, b, o, s, v⟩ ⟨p', m', b', o', s', v'⟩ = true) := by
  rw [key_eq]
  by_cases h1 : p = p' <;> by_cases h2 : m = m' <;> by_cases h3 : b = b' <;> simp [h1, h2, h3]
set_option maxHeartbeats 1000000 in
theorem clash_any (p m b o s v p' m' b' o' s' v' : Int) (w : World) :
    Calls Tryz.prog 40 #[.agg #[.int .i64 p, .int .i64 m, .int .i64 b, .int .i64 o, .int .i64 s, .int .i64 v], .agg #[.int .i64 p', .int .i64 m', .int .i64 b', .int .i64 o', .int .i64 s', .int .i64 v']] w fun e w' => e = .returned (.bool (keyB ⟨p, m, b, o, s, v⟩ ⟨p', m', b', o', s', v'⟩)) ∧ Below w.heap.size w w' := by
  have HB : Hid (∀ o1 o2, Below w.heap.size w ((w.alloc o1).alloc o2)) := fun o1 o2 => ((Below.refl _ _).alloc (Nat.le_refl _) o1).alloc (by simp) o2
  rcases key_ways p m b o s v p' m' b' o' s' v' with ⟨e1, e⟩ | ⟨e1, e2, e⟩ | ⟨e1, e2, e3, e⟩ | ⟨e1, e2, e3, e⟩
  all_goals
    rw [e]
    clear e
    go_enter Tryz.func40, Tryz.ntmps40
    go_wp2
    go_ret
    exact ⟨rfl, HB.out _ _⟩

/-- A closure that asks something of a rule, in whatever world behind this one. -/
def Asks (w : World) (f : FuncId) (c : Value) (P : Ru → Bool) : Prop :=
  ∀ (p m b o s v : Int) (W : World), Below w.heap.size w W →
    Calls Tryz.prog f #[.agg #[.int .i64 p, .int .i64 m, .int .i64 b, .int .i64 o, .int .i64 s, .int .i64 v], c] W fun e w' => e = .returned (.bool (P ⟨p, m, b, o, s, v⟩)) ∧ Below W.heap.size W w'
theorem Asks.later {w w' : World} {f : FuncId} {c : Value} {P : Ru → Bool} (h : Asks w f c P) (hb : Below w.heap.size w w') : Asks w' f c P :=
  fun p m b o s v W hW => h p m b o s v W (hb.trans (hW.mono hb.size))

set_option maxHeartbeats 1000000 in
theorem table1_any (p m b o s v : Int) (r : Ru) (B : Nat) (w : World) (hc : C6 w B 0 r) :
    Calls Tryz.prog 39 #[.agg #[.int .i64 p, .int .i64 m, .int .i64 b, .int .i64 o, .int .i64 s, .int .i64 v], .pointer (some ⟨B, 0, none⟩)] w fun e w' => e = .returned (.bool (keyB ⟨p, m, b, o, s, v⟩ r)) ∧ Below w.heap.size w w' := by
  obtain ⟨p', m', b', o', s', v'⟩ := r
  obtain ⟨c0, c1, c2, c3, c4, c5⟩ := hc
  simp only [Nat.zero_add] at c0 c1 c2 c3 c4 c5
  have hlt : B < w.heap.size := World.block_lt_of_cell? _ _ c0
  go_enter Tryz.func39, Tryz.ntmps39
  go_wp2_with fail
  refine (clash_any _ _ _ _ _ _ _ _ _ _ _ _ _).mono ?_
  rintro e w1 ⟨rfl, hb1⟩
  go_wp2
  go_ret
  exact ⟨rfl, ((Below.refl _ _).alloc (Nat.le_refl _) _).trans (hb1.mono (by simp))⟩
theorem table1_asks (r : Ru) (B : Nat) (w : World) (hc : C6 w B 0 r) : Asks w 39 (.pointer (some ⟨B, 0, none⟩)) (fun a => keyB a r) :=
  fun p m b o s v W hW => table1_any p m b o s v r B W (hc.later hW)

theorem any_nextR {L : List Ru} {f : Ru → Bool} {k : Nat} (hk : k < L.length) (h : (L.take k).any f = false) (h2 : f L[k] = false) : (L.take (k + 1)).any f = false := by
  rw [List.take_succ_eq_append_getElem hk]
  simp only [List.any_append, h, List.any_cons, List.any_nil, h2, Bool.or_false]
theorem any_hitR {L : List Ru} {f : Ru → Bool} {k : Nat} (hk : k < L.length) (h2 : f L[k] = true) : L.any f = true := List.any_eq_true.2 ⟨_, List.getElem_mem hk, h2⟩
/-- The first place where something is so, or -1. -/
def ixP (f : Ru → Bool) (L : List Ru) : Int := if L.any f then (L.findIdx f : Int) else -1
theorem ixP_hit {L : List Ru} {f : Ru → Bool} {k : Nat} (hk : k < L.length) (h : (L.take k).any f = false) (h2 : f L[k] = true) : ixP f L = k := by
  rw [ixP, any_hitR hk h2, if_pos rfl]
  congr 1
  rw [List.findIdx_eq hk]
  refine ⟨h2, fun j hj => ?_⟩
  rw [List.any_eq_false] at h
  have := h L[j] (by rw [List.mem_take_iff_getElem]; exact ⟨j, by omega, rfl⟩)
  simpa using this
theorem ixP_no {L : List Ru} {f : Ru → Bool} (h : L.any f = false) : ixP f L = -1 := by simp [ixP, h]
theorem ixP_any (L : List Ru) (f : Ru → Bool) : decide (0 ≤ ixP f L) = L.any f := by
  unfold ixP
  cases L.any f
  · simp
  · simp
theorem SR.form {w : World} {v : Value} {L : List Ru} (h : SR w v L) : ∃ ao n cap, v = .slice ao n cap ∧ L.length = n ∧ n ≤ maxLen ∧ n ≤ cap ∧ (0 < n → ∃ g o, ao = some ⟨g, o, none⟩ ∧ RAt w g o L ∧ cap ≤ maxLen) := by
  rcases h with ⟨ao, cap, rfl, rfl⟩ | ⟨g, o, cap, rfl, h1, h2, h3⟩
  · exact ⟨ao, 0, cap, rfl, rfl, Nat.zero_le _, Nat.zero_le _, fun h => absurd h (by omega)⟩
  · exact ⟨_, _, cap, rfl, rfl, Nat.le_trans h1 h2, h1, fun _ => ⟨g, o, rfl, h3, h2⟩⟩

set_option maxHeartbeats 1000000 in
theorem idxF (ao : Option Addr) (n cap : Nat) (f : FuncId) (c : Value) (P : Ru → Bool) (L : List Ru) (w : World) (hn : L.length = n) (hn2 : n ≤ maxLen) (ha : 0 < n → ∃ g o, ao = some ⟨g, o, none⟩ ∧ RAt w g o L ∧ cap ≤ maxLen) (he : ∀ args w, (callFunc f args).run Tryz.prog w = .ok (.enter f args) w) (hf : Asks w f c P) :
    Calls Tryz.prog 49 #[.slice ao n cap, .func (Fn.func f) #[] #[c]] w fun e w' => e = .returned (.int .i64 (ixP P L)) ∧ Below w.heap.size w w' := by
  have HN : Hid (L.length = n) := hn
  have HF : Hid (Asks w f c P) := hf
  have HA : Hid (0 < n → ∃ g o, ao = some ⟨g, o, none⟩ ∧ RAt w g o L ∧ cap ≤ maxLen) := ha
  unfold maxLen at hn2
  clear hn hf ha
  go_enter Tryz.func49, Tryz.ntmps49
  go_wp2
  go_loopw [8] (fun i wr => ∃ k : Nat, k ≤ n ∧ i = .int .i64 k ∧ (L.take k).any P = false ∧ Below w.heap.size w wr)
    (fun i _ => n - (intOf i).toNat)
  case atStart => exact ⟨0, by omega, rfl, by simp, Below.refl _ _⟩
  case round =>
    obtain ⟨k, hk, rfl, hno, hB⟩ := hrel
    have HB : Hid (Below w.heap.size w wr) := hB
    have HNO : Hid ((L.take k).any P = false) := hno
    clear hno
    by_cases hlt : k < n
    · obtain ⟨g, o, hao, hc, _⟩ := HA.out (by omega)
      subst hao
      obtain ⟨p, m, b, q, s, v, hkl, hL, q0, q1, q2, q3, q4, q5⟩ := (hc.later hB).at HN.out hlt
      have HL : Hid (L[k] = ⟨p, m, b, q, s, v⟩) := hL
      clear hL hB
      cases ho : P ⟨p, m, b, q, s, v⟩
      · go_wp2_with fail
        refine (HF.out p m b q s v _ HB.out).mono ?_
        rintro e w1 ⟨rfl, hb1⟩
        rw [ho]
        have HB1 := HB.out.trans (hb1.mono HB.out.size)
        clear hb1
        go_wp2
        go_roundw
        case rel => exact ⟨k + 1, by omega, by go_num, any_nextR hkl HNO.out (by rw [HL.out]; exact ho), HB1⟩
        case measure => simp [intOf]; omega
      · go_wp2_with fail
        refine (HF.out p m b q s v _ HB.out).mono ?_
        rintro e w1 ⟨rfl, hb1⟩
        rw [ho]
        go_wp2
        go_ret
        exact ⟨by rw [ixP_hit hkl HNO.out (by rw [HL.out]; exact ho)]; rfl, HB.out.trans (hb1.mono HB.out.size)⟩
    · obtain rfl : k = n := by omega
      go_wp2
      go_ret
      exact ⟨by have := HNO.out; rw [← HN.out, List.take_length] at this; rw [ixP_no this]; rfl, HB.out⟩

set_option maxHeartbeats 1000000 in
theorem containsF (ao : Option Addr) (n cap : Nat) (f : FuncId) (c : Value) (P : Ru → Bool) (L : List Ru) (w : World) (hn : L.length = n) (hn2 : n ≤ maxLen) (ha : 0 < n → ∃ g o, ao = some ⟨g, o, none⟩ ∧ RAt w g o L ∧ cap ≤ maxLen) (he : ∀ args w, (callFunc f args).run Tryz.prog w = .ok (.enter f args) w) (hf : Asks w f c P) :
    Calls Tryz.prog 38 #[.slice ao n cap, .func (Fn.func f) #[] #[c]] w fun e w' => e = .returned (.bool (L.any P)) ∧ Below w.heap.size w w' := by
  rw [← ixP_any]
  obtain ⟨x, hx⟩ : ∃ x, x = ixP P L := ⟨_, rfl⟩
  have HX : Hid (x = ixP P L) := hx
  rw [← hx]
  clear hx
  go_enter Tryz.func38, Tryz.ntmps38
  go_wp2_with fail
  refine (idxF ao n cap f c P L _ hn hn2 ha he hf).mono ?_
  rintro e w1 ⟨rfl, hb1⟩
  rw [← HX.out]
  go_wp2
  go_ret
  exact ⟨rfl, hb1⟩
theorem containsR_any (g o cap n B : Nat) (r : Ru) (L : List Ru) (w : World) (hc : RAt w g o L) (hn : L.length = n) (hn2 : n ≤ maxLen) (hcap : cap ≤ maxLen) (hr : C6 w B 0 r) :
    Calls Tryz.prog 38 #[.slice (some ⟨g, o, none⟩) n cap, .func (Fn.func 39) #[] #[.pointer (some ⟨B, 0, none⟩)]] w fun e w' => e = .returned (.bool (L.any (fun a => keyB a r))) ∧ Below w.heap.size w w' :=
  containsF _ n cap _ _ _ L w hn hn2 (fun _ => ⟨g, o, rfl, hc, hcap⟩) (enters_of Tryz.func39 (by kernel_rfl) rfl) (table1_asks r B w hr)
end Go.Proofs.YtfbocionnjlilabGreatDoor
/- What the document's own Turned answers, of a rule and a header that are right. -/
namespace Go.Proofs.YtfbocionnjlilabGreatDoor
open Go.RowKit
set_option linter.unusedSimpArgs false

set_option maxHeartbeats 2000000 in
theorem turned_any (p m b o s v h : Int) (w : World) (hs : 0 ≤ s ∧ s < 16) (hv : 0 ≤ v ∧ v < 16) (hh : 0 ≤ h ∧ h < 16) :
    Calls Tryz.prog 13 #[.agg #[.int .i64 p, .int .i64 m, .int .i64 b, .int .i64 o, .int .i64 s, .int .i64 v], .int .i64 h] w fun e w' => e = .returned (.int .i64 (tuTo s v h 4)) ∧ Below w.heap.size w w' := by
  go_enter Tryz.func13, Tryz.ntmps13
  go_wp2
  go_loop [5, 6] (fun t i => ∃ k : Nat, k ≤ 4 ∧ i = .int .i64 (3 - k) ∧ t = .int .i64 (tuTo s v h k)) (fun _ i => (intOf i + 1).toNat)
  case atStart => exact ⟨0, by omega, rfl, rfl⟩
  case round =>
    obtain ⟨k, hk, rfl, rfl⟩ := hrel
    have hbd := tu_bd s v h k
    have hp : (2 : Int) ^ k ≤ 16 := by
      rcases (by omega : k = 0 ∨ k = 1 ∨ k = 2 ∨ k = 3 ∨ k = 4) with rfl | rfl | rfl | rfl | rfl <;> decide
    have b0 := hbd.1
    have b1 : tuTo s v h k < 16 := Int.lt_of_lt_of_le hbd.2 hp
    clear hp hbd
    by_cases hlt : k < 4
    · have hi : (3 - (k : Int)).toNat = 3 - k := by omega
      have HI : Hid ((3 - (k : Int)).toNat = 3 - k) := hi
      have HT : Hid (tuTo s v h (k + 1) = if (bitB s (3 - k) && bitB v (3 - k) || !bitB s (3 - k) && bitB h (3 - k)) then tuTo s v h k * 2 + 1 else tuTo s v h k * 2) := by
        show tuTo s v h (k + 1) = _
        rfl
      clear hi
      generalize tuTo s v h k = T at *
      go_wp2_with fail
      refine (refBit_any _ _ _ hs (by omega)).mono ?_
      rintro e w' ⟨rfl, rfl⟩
      rw [HI.out]
      go_wp2_with fail
      refine (refBit_any _ _ _ hv (by omega)).mono ?_
      rintro e w' ⟨rfl, rfl⟩
      rw [HI.out]
      go_wp2_with fail
      refine (refBit_any _ _ _ hh (by omega)).mono ?_
      rintro e w' ⟨rfl, rfl⟩
      rw [HI.out]
      generalize bitB s (3 - k) = X at *
      generalize bitB v (3 - k) = Y at *
      generalize bitB h (3 - k) = Z at *
      cases X <;> cases Y <;> cases Z
      all_goals
        go_wp2
        go_round
        case rel => exact ⟨k + 1, by omega, by go_num, by rw [HT.out]; rfl⟩
        case measure => simp [intOf]; omega
    · obtain rfl : k = 4 := by omega
      go_wp2
      go_ret
      exact ⟨rfl, (Below.refl _ _).alloc (Nat.le_refl _) _⟩
end Go.Proofs.YtfbocionnjlilabGreatDoor
/- Two rules at two addresses: a class of worlds. -/
namespace Go.Proofs.YtfbocionnjlilabGreatDoor
open Go.RowKit

/-- Two rules at two addresses. -/
def CD (w : World) (g o : Nat) (p m b q s v : Int) (g' o' : Nat) (p' m' b' q' s' v' : Int) (w' : World) : Prop :=
  Below w.heap.size w w' ∧ (w'.cell? ⟨g, o, none⟩ = some (.int .i64 p) ∧ w'.cell? ⟨g, o + 1, none⟩ = some (.int .i64 m) ∧ w'.cell? ⟨g, o + 2, none⟩ = some (.int .i64 b) ∧
    w'.cell? ⟨g, o + 3, none⟩ = some (.int .i64 q) ∧ w'.cell? ⟨g, o + 4, none⟩ = some (.int .i64 s) ∧ w'.cell? ⟨g, o + 5, none⟩ = some (.int .i64 v)) ∧
  w'.cell? ⟨g', o', none⟩ = some (.int .i64 p') ∧ w'.cell? ⟨g', o' + 1, none⟩ = some (.int .i64 m') ∧ w'.cell? ⟨g', o' + 2, none⟩ = some (.int .i64 b') ∧
    w'.cell? ⟨g', o' + 3, none⟩ = some (.int .i64 q') ∧ w'.cell? ⟨g', o' + 4, none⟩ = some (.int .i64 s') ∧ w'.cell? ⟨g', o' + 5, none⟩ = some (.int .i64 v')
theorem CD.later {w W W' : World} {g o : Nat} {p m b q s v : Int} {g' o' : Nat} {p' m' b' q' s' v' : Int} (hb : Below W.heap.size W W') (h : CD w g o p m b q s v g' o' p' m' b' q' s' v' W) : CD w g o p m b q s v g' o' p' m' b' q' s' v' W' := by
  obtain ⟨h0, ⟨h1, h2, h3, h4, h5, h6⟩, k1, k2, k3, k4, k5, k6⟩ := h
  exact ⟨h0.trans (hb.mono h0.size), ⟨cell_later hb h1, cell_later hb h2, cell_later hb h3, cell_later hb h4, cell_later hb h5, cell_later hb h6⟩, cell_later hb k1, cell_later hb k2, cell_later hb k3, cell_later hb k4, cell_later hb k5, cell_later hb k6⟩

end Go.Proofs.YtfbocionnjlilabGreatDoor
/- A region that draws its order and only reads, in a class of worlds: its operations, one by one, in the order of the text. -/
namespace Go.Proofs.YtfbocionnjlilabGreatDoor
open Go.RowKit

theorem quiet_val {P : Program} {o : Oper} {a : Act} {C : World → Prop} {K : Act → Prop} {v : Value}
    (hy : ∀ w, C w → (execOp a.eval o).run P w = .ok (.value v) w) (h : K (a.put o.dst v)) : o.quiet P a C K :=
  ⟨v, fun w hC => by unfold Oper.quietAt; rw [hy w hC]; exact ⟨rfl, rfl⟩, h⟩
theorem quiet_call {P : Program} {o : Oper} {a : Act} {C : World → Prop} {K : Act → Prop} {v : Value} {f : FuncId} {args : Array Value}
    (he : ∀ w, (execOp a.eval o).run P w = .ok (.enter f args) w) (hc : ∀ w, C w → Calls P f args w fun e w'' => e = .returned v ∧ C w'') (h : K (a.put o.dst v)) : o.quiet P a C K :=
  ⟨v, fun w hC => by unfold Oper.quietAt; rw [he w]; exact ⟨rfl, hc w hC⟩, h⟩
theorem q_want {P : Program} {ops : Array Oper} {C : World → Prop} {Q : Act → Prop} {a : Act} {o : Oper} {rest : List Oper} (hw : Region.wanted o (yielded ops a.tmps) = true)
    (h : ∀ K : Act → Prop, (∀ a, wpQuiet P ops C Q rest a → K a) → o.quiet P a C K) : wpQuiet P ops C Q (o :: rest) a :=
  wpQuiet_step (fun K hK => by rw [if_pos hw]; exact h K hK)
theorem q_skip {P : Program} {ops : Array Oper} {C : World → Prop} {Q : Act → Prop} {a : Act} {o : Oper} {rest : List Oper} (hw : Region.wanted o (yielded ops a.tmps) = false)
    (h : wpQuiet P ops C Q rest (a.put o.dst undef)) : wpQuiet P ops C Q (o :: rest) a := by
  unfold wpQuiet
  rw [if_neg (by rw [hw]; exact Bool.false_ne_true)]
  exact h
/-- An operation on two values whose run is known. -/
theorem exec_bin {P : Program} {o : Oper} {a : Act} {w : World} {op : BinOp} {t t2 : TypeId} {x y : Operand} {v : Value} (ho : o.op = .binOp op t x y t2) (hg : (eqGuard op t x y (a.eval x) (a.eval y)).run P w = .ok () w)
    (h : (binOp op t (a.eval x) (a.eval y)).run P w = .ok v w) : (execOp a.eval o).run P w = .ok (.value v) w := by
  simp [execOp, ho, hg, h, Result.andThen]
theorem run_eql_of {P : Program} {w : World} {t : TypeId} {x y : Array Value} {b : Bool} (h : (Op.equal t (.agg x) (.agg y)).run P w = .ok b w) : (binOp .eql t (.agg x) (.agg y)).run P w = .ok (.bool b) w := by
  simp [binOp, h]
theorem run_neq_of {P : Program} {w : World} {t : TypeId} {x y : Array Value} {b : Bool} (h : (Op.equal t (.agg x) (.agg y)).run P w = .ok b w) : (binOp .neq t (.agg x) (.agg y)).run P w = .ok (.bool (!b)) w := by
  simp [binOp, h]
end Go.Proofs.YtfbocionnjlilabGreatDoor
/- What the document's own above and Find answer, called with any rules and any table. -/
namespace Go.Proofs.YtfbocionnjlilabGreatDoor
open Go.RowKit
set_option linter.unusedSimpArgs false

set_option maxHeartbeats 1000000 in
theorem above_abB (p m b o s v p' m' b' o' s' v' : Int) (w : World) :
    Calls Tryz.prog 41 #[.agg #[.int .i64 p, .int .i64 m, .int .i64 b, .int .i64 o, .int .i64 s, .int .i64 v], .agg #[.int .i64 p', .int .i64 m', .int .i64 b', .int .i64 o', .int .i64 s', .int .i64 v']] w fun e w' => e = .returned (.bool (abB ⟨p, m, b, o, s, v⟩ ⟨p', m', b', o', s', v'⟩)) ∧ Below w.heap.size w w' := by
  by_cases h1 : p = p'
  · subst h1
    by_cases h2 : m = m'
    · subst h2
      have e : abB ⟨p, m, b, o, s, v⟩ ⟨p, m, b', o', s', v'⟩ = decide (b' < b) := by simp [abB]
      rw [e]; clear e
      go_enter Tryz.func41, Tryz.ntmps41
      go_wp2
      go_ret
      exact ⟨rfl, ((Below.refl _ _).alloc (Nat.le_refl _) _).alloc (by simp) _⟩
    · have e : abB ⟨p, m, b, o, s, v⟩ ⟨p, m', b', o', s', v'⟩ = decide (m' < m) := by simp [abB, h2]
      have h3 : (m != m') = true := by simpa using h2
      rw [e]; clear e
      go_enter Tryz.func41, Tryz.ntmps41
      go_wp2
      go_ret
      exact ⟨rfl, ((Below.refl _ _).alloc (Nat.le_refl _) _).alloc (by simp) _⟩
  · have e : abB ⟨p, m, b, o, s, v⟩ ⟨p', m', b', o', s', v'⟩ = decide (p' < p) := by simp [abB, h1]
    have h3 : (p != p') = true := by simpa using h1
    rw [e]; clear e
    go_enter Tryz.func41, Tryz.ntmps41
    go_wp2
    go_ret
    exact ⟨rfl, ((Below.refl _ _).alloc (Nat.le_refl _) _).alloc (by simp) _⟩

theorem above_any (p m b o s v p' m' b' o' s' v' : Int) (w : World) :
    Calls Tryz.prog 41 #[.agg #[.int .i64 p, .int .i64 m, .int .i64 b, .int .i64 o, .int .i64 s, .int .i64 v], .agg #[.int .i64 p', .int .i64 m', .int .i64 b', .int .i64 o', .int .i64 s', .int .i64 v']] w fun e w' => e = .returned (.bool (decide (0 < ordR ⟨p, m, b, o, s, v⟩ ⟨p', m', b', o', s', v'⟩))) ∧ Below w.heap.size w w' :=
  (above_abB p m b o s v p' m' b' o' s' v' w).mono fun e w' h => ⟨by rw [h.1, ab_ord], h.2⟩

theorem be_nextF {L : List Ru} {h : Int} {k : Nat} (x : Int) (hx : x = beTo L h k) (y : Bool) (hy : ((L.getD k zeR).has h && (decide (x < 0) || decide (0 < ordR (L.getD k zeR) (L.getD x.toNat zeR)))) = y) : beTo L h (k + 1) = if y then (k : Int) else x := by
  subst hx
  rw [beTo, hy]

set_option maxHeartbeats 1000000 in
theorem find_some (g o cap n : Nat) (h : Int) (L : List Ru) (w : World) (hc : RAt w g o L) (hn : L.length = n) (hcap2 : n ≤ maxLen) :
    Calls Tryz.prog 17 #[.slice (some ⟨g, o, none⟩) n cap, .int .i64 h] w fun e w' => e = .returned (.int .i64 (beTo L h n)) ∧ Below w.heap.size w w' := by
  have HN : Hid (L.length = n) := hn
  unfold maxLen at hcap2
  clear hn
  go_enter Tryz.func17, Tryz.ntmps17
  go_wp2
  go_loopw [5, 6] (fun x i wr => ∃ k : Nat, k ≤ n ∧ x = .int .i64 (beTo L h k) ∧ i = .int .i64 k ∧ Below w.heap.size w wr) (fun _ i _ => n - (intOf i).toNat)
  case atStart => exact ⟨0, by omega, rfl, rfl, Below.refl _ _⟩
  case round =>
    obtain ⟨k, hk, rfl, rfl, hB⟩ := hrel
    have hbd := be_bd L h k
    generalize hx : beTo L h k = x at *
    have HX : Hid (x = beTo L h k) := hx.symm
    obtain ⟨x0, x1⟩ := hbd
    clear hx
    have HB : Hid (Below w.heap.size w wr) := hB
    by_cases hlt : k < n
    · obtain ⟨p, m, b, q, s, v, hkl, hL, q0, q1, q2, q3, q4, q5⟩ := (hc.later hB).at HN.out hlt
      have HK : Hid (L.getD k zeR = ⟨p, m, b, q, s, v⟩) := (getD_at hkl).trans hL
      have HCC : Hid (RAt wr g o L) := hc.later hB
      clear hL hB
      go_wp2_with fail
      refine (refHas_any _ _ _ _).mono ?_
      rintro e w1 ⟨rfl, hb1⟩
      have HCC1 : Hid (RAt w1 g o L) := HCC.out.later hb1
      have HB1 : Hid (Below w.heap.size w w1) := HB.out.trans (hb1.mono HB.out.size)
      clear hb1 q0 q1 q2 q3 q4 q5 HCC
      generalize hY : hasB m b h = Y
      have HY : Hid (hasB m b h = Y) := hY
      clear hY
      go_upto_region 6 with fail
      have kb0 : (0 : Int) ≤ (k : Int) := by omega
      have kb1 : (k : Int) < (n : Int) := by omega
      go_cut [36] from 8 to 37 (fun c w' => c = .bool (Y && (decide (x < 0) || decide (0 < ordR (L.getD k zeR) (L.getD x.toNat zeR)))) ∧ Below w.heap.size w w')
      case first =>
        cases Y
        · refine wp_region_quiet (C := fun w' => Below w.heap.size w w') (by kernel_rfl) (by kernel_rfl) (Below.drew HB1.out) ?_
          simp only [List.toList_toArray]
          go_big_quiet_want
          refine quiet_val (v := .bool false) (fun w' hC => ?_) ?_
          · obtain z0 := hC
            go_simp
          simp only [Act.put, List.setIfInBounds_toArray, List.set_cons_zero, List.set_cons_succ]
          go_big_quiet_on
          go_big_quiet_want
          refine quiet_val (v := .bool false) (fun w' hC => ?_) ?_
          · obtain z0 := hC
            go_simp
          simp only [Act.put, List.setIfInBounds_toArray, List.set_cons_zero, List.set_cons_succ]
          go_big_quiet_on
          go_big_quiet_skip
          go_big_quiet_skip
          go_big_quiet_skip
          go_big_quiet_skip
          go_big_quiet_skip
          go_big_quiet_skip
          go_big_quiet_skip
          go_big_quiet_skip
          go_big_quiet_skip
          go_big_quiet_skip
          go_big_quiet_skip
          go_big_quiet_skip
          go_big_quiet_skip
          go_big_quiet_want
          refine quiet_val (v := .bool false) (fun w' hC => ?_) ?_
          · obtain z0 := hC
            go_simp
          simp only [Act.put, List.setIfInBounds_toArray, List.set_cons_zero, List.set_cons_succ]
          go_big_quiet_on
          refine wpQuiet_nil ?_
          intro w' hC
          go_wp2_with fail
          go_meet
          case rel => exact ⟨rfl, hC⟩
        · by_cases hx0 : x < 0
          · have hx1 : decide (x < 0) = true := by simpa using hx0
            refine wp_region_quiet (C := fun w' => Below w.heap.size w w') (by kernel_rfl) (by kernel_rfl) (Below.drew HB1.out) ?_
            simp only [List.toList_toArray]
            go_big_quiet_want
            refine quiet_val (v := .bool true) (fun w' hC => ?_) ?_
            · obtain z0 := hC
              go_simp
            simp only [Act.put, List.setIfInBounds_toArray, List.set_cons_zero, List.set_cons_succ]
            go_big_quiet_on
            go_big_quiet_want
            refine quiet_val (v := .bool true) (fun w' hC => ?_) ?_
            · obtain z0 := hC
              go_simp
            simp only [Act.put, List.setIfInBounds_toArray, List.set_cons_zero, List.set_cons_succ]
            go_big_quiet_on
            go_big_quiet_want
            refine quiet_val (v := .int .i64 x) (fun w' hC => ?_) ?_
            · obtain z0 := hC
              go_simp
            simp only [Act.put, List.setIfInBounds_toArray, List.set_cons_zero, List.set_cons_succ]
            go_big_quiet_on
            go_big_quiet_want
            refine quiet_val (v := .bool true) (fun w' hC => ?_) ?_
            · obtain z0 := hC
              go_simp
            simp only [Act.put, List.setIfInBounds_toArray, List.set_cons_zero, List.set_cons_succ]
            go_big_quiet_on
            go_big_quiet_want
            refine quiet_val (v := .bool true) (fun w' hC => ?_) ?_
            · obtain z0 := hC
              go_simp
            simp only [Act.put, List.setIfInBounds_toArray, List.set_cons_zero, List.set_cons_succ]
            go_big_quiet_on
            go_big_quiet_skip
            go_big_quiet_skip
            go_big_quiet_skip
            go_big_quiet_skip
            go_big_quiet_skip
            go_big_quiet_skip
            go_big_quiet_skip
            go_big_quiet_skip
            go_big_quiet_skip
            go_big_quiet_want
            refine quiet_val (v := .bool true) (fun w' hC => ?_) ?_
            · obtain z0 := hC
              go_simp
            simp only [Act.put, List.setIfInBounds_toArray, List.set_cons_zero, List.set_cons_succ]
            go_big_quiet_on
            go_big_quiet_want
            refine quiet_val (v := .bool true) (fun w' hC => ?_) ?_
            · obtain z0 := hC
              go_simp
            simp only [Act.put, List.setIfInBounds_toArray, List.set_cons_zero, List.set_cons_succ]
            go_big_quiet_on
            refine wpQuiet_nil ?_
            intro w' hC
            go_wp2_with fail
            go_meet
            case rel => exact ⟨by rw [hx1]; rfl, hC⟩
          · obtain ⟨y, hy⟩ : ∃ y : Nat, x = (y : Int) := ⟨x.toNat, by omega⟩
            have hx2 : decide ((y : Int) < 0) = false := by simp
            subst hy
            obtain ⟨p2, m2, b2, q2, s2, v2, hyl, hLy, y0, y1, y2, y3, y4, y5⟩ := HCC1.out.at HN.out (show y < n by omega)
            obtain ⟨p1, m1, b1, q1, s1, v1, hkl1, hLk, r0, r1, r2, r3, r4, r5⟩ := HCC1.out.at HN.out hlt
            have E := HK.out
            rw [getD_at hkl1, hLk] at E
            simp only [Ru.mk.injEq] at E
            obtain ⟨rfl, rfl, rfl, rfl, rfl, rfl⟩ := E
            have HYL : Hid (L.getD ((y : Nat) : Int).toNat zeR = ⟨p2, m2, b2, q2, s2, v2⟩) := by
              show L.getD ((y : Nat) : Int).toNat zeR = _
              rw [Int.toNat_natCast, getD_at hyl, hLy]
            have yb0 : (0 : Int) ≤ (y : Int) := by omega
            have yb1 : ((y : Int)) < (n : Int) := by omega
            have hS0 : CD w g (o + k * 6) p1 m1 b1 q1 s1 v1 g (o + y * 6) p2 m2 b2 q2 s2 v2 w1 := ⟨HB1.out, ⟨r0, r1, r2, r3, r4, r5⟩, y0, y1, y2, y3, y4, y5⟩
            clear y0 y1 y2 y3 y4 y5 r0 r1 r2 r3 r4 r5 hLy hLk
            refine wp_region_quiet (C := CD w g (o + k * 6) p1 m1 b1 q1 s1 v1 g (o + y * 6) p2 m2 b2 q2 s2 v2) (by kernel_rfl) (by kernel_rfl) (CD.later (W := w1) (Below.drew (Below.refl _ _)) hS0) ?_
            simp only [List.toList_toArray]
            go_big_quiet_want
            refine quiet_val (v := .bool true) (fun w' hC => ?_) ?_
            · obtain ⟨z0, ⟨z1, z2, z3, z4, z5, z6⟩, y1, y2, y3, y4, y5, y6⟩ := hC
              go_simp
            simp only [Act.put, List.setIfInBounds_toArray, List.set_cons_zero, List.set_cons_succ]
            go_big_quiet_on
            go_big_quiet_want
            refine quiet_val (v := .bool true) (fun w' hC => ?_) ?_
            · obtain ⟨z0, ⟨z1, z2, z3, z4, z5, z6⟩, y1, y2, y3, y4, y5, y6⟩ := hC
              go_simp
            simp only [Act.put, List.setIfInBounds_toArray, List.set_cons_zero, List.set_cons_succ]
            go_big_quiet_on
            go_big_quiet_want
            refine quiet_val (v := .int .i64 (y : Int)) (fun w' hC => ?_) ?_
            · obtain ⟨z0, ⟨z1, z2, z3, z4, z5, z6⟩, y1, y2, y3, y4, y5, y6⟩ := hC
              go_simp
            simp only [Act.put, List.setIfInBounds_toArray, List.set_cons_zero, List.set_cons_succ]
            go_big_quiet_on
            go_big_quiet_want
            refine quiet_val (v := .bool false) (fun w' hC => ?_) ?_
            · obtain ⟨z0, ⟨z1, z2, z3, z4, z5, z6⟩, y1, y2, y3, y4, y5, y6⟩ := hC
              go_simp
            simp only [Act.put, List.setIfInBounds_toArray, List.set_cons_zero, List.set_cons_succ]
            go_big_quiet_on
            go_big_quiet_want
            refine quiet_val (v := .bool false) (fun w' hC => ?_) ?_
            · obtain ⟨z0, ⟨z1, z2, z3, z4, z5, z6⟩, y1, y2, y3, y4, y5, y6⟩ := hC
              go_simp
            simp only [Act.put, List.setIfInBounds_toArray, List.set_cons_zero, List.set_cons_succ]
            go_big_quiet_on
            go_big_quiet_want
            refine quiet_val (v := .slice (some ⟨g, o, none⟩) n cap) (fun w' hC => ?_) ?_
            · obtain ⟨z0, ⟨z1, z2, z3, z4, z5, z6⟩, y1, y2, y3, y4, y5, y6⟩ := hC
              go_simp
            simp only [Act.put, List.setIfInBounds_toArray, List.set_cons_zero, List.set_cons_succ]
            go_big_quiet_on
            go_big_quiet_want
            refine quiet_val (v := .int .i64 (k : Int)) (fun w' hC => ?_) ?_
            · obtain ⟨z0, ⟨z1, z2, z3, z4, z5, z6⟩, y1, y2, y3, y4, y5, y6⟩ := hC
              go_simp
            simp only [Act.put, List.setIfInBounds_toArray, List.set_cons_zero, List.set_cons_succ]
            go_big_quiet_on
            go_big_quiet_want
            refine quiet_val (v := .pointer (some ⟨g, o + k * 6, none⟩)) (fun w' hC => ?_) ?_
            · obtain ⟨z0, ⟨z1, z2, z3, z4, z5, z6⟩, y1, y2, y3, y4, y5, y6⟩ := hC
              go_simp
            simp only [Act.put, List.setIfInBounds_toArray, List.set_cons_zero, List.set_cons_succ]
            go_big_quiet_on
            go_big_quiet_want
            refine quiet_val (v := .agg #[.int .i64 p1, .int .i64 m1, .int .i64 b1, .int .i64 q1, .int .i64 s1, .int .i64 v1]) (fun w' hC => ?_) ?_
            · obtain ⟨z0, ⟨z1, z2, z3, z4, z5, z6⟩, y1, y2, y3, y4, y5, y6⟩ := hC
              go_simp
            simp only [Act.put, List.setIfInBounds_toArray, List.set_cons_zero, List.set_cons_succ]
            go_big_quiet_on
            go_big_quiet_want
            refine quiet_val (v := .slice (some ⟨g, o, none⟩) n cap) (fun w' hC => ?_) ?_
            · obtain ⟨z0, ⟨z1, z2, z3, z4, z5, z6⟩, y1, y2, y3, y4, y5, y6⟩ := hC
              go_simp
            simp only [Act.put, List.setIfInBounds_toArray, List.set_cons_zero, List.set_cons_succ]
            go_big_quiet_on
            go_big_quiet_want
            refine quiet_val (v := .int .i64 (y : Int)) (fun w' hC => ?_) ?_
            · obtain ⟨z0, ⟨z1, z2, z3, z4, z5, z6⟩, y1, y2, y3, y4, y5, y6⟩ := hC
              go_simp
            simp only [Act.put, List.setIfInBounds_toArray, List.set_cons_zero, List.set_cons_succ]
            go_big_quiet_on
            go_big_quiet_want
            refine quiet_val (v := .pointer (some ⟨g, o + y * 6, none⟩)) (fun w' hC => ?_) ?_
            · obtain ⟨z0, ⟨z1, z2, z3, z4, z5, z6⟩, y1, y2, y3, y4, y5, y6⟩ := hC
              go_simp
            simp only [Act.put, List.setIfInBounds_toArray, List.set_cons_zero, List.set_cons_succ]
            go_big_quiet_on
            go_big_quiet_want
            refine quiet_val (v := .agg #[.int .i64 p2, .int .i64 m2, .int .i64 b2, .int .i64 q2, .int .i64 s2, .int .i64 v2]) (fun w' hC => ?_) ?_
            · obtain ⟨z0, ⟨z1, z2, z3, z4, z5, z6⟩, y1, y2, y3, y4, y5, y6⟩ := hC
              go_simp
            simp only [Act.put, List.setIfInBounds_toArray, List.set_cons_zero, List.set_cons_succ]
            go_big_quiet_on
            go_big_quiet_want
            refine quiet_call (f := 41) (args := #[.agg #[.int .i64 p1, .int .i64 m1, .int .i64 b1, .int .i64 q1, .int .i64 s1, .int .i64 v1], .agg #[.int .i64 p2, .int .i64 m2, .int .i64 b2, .int .i64 q2, .int .i64 s2, .int .i64 v2]]) (v := .bool (decide (0 < ordR ⟨p1, m1, b1, q1, s1, v1⟩ ⟨p2, m2, b2, q2, s2, v2⟩))) (fun w' => ?_) (fun w' hC => (above_any p1 m1 b1 q1 s1 v1 p2 m2 b2 q2 s2 v2 w').mono (fun e w2 h2 => ⟨h2.1, CD.later h2.2 hC⟩)) ?_
            · go_simp
            simp only [Act.put, List.setIfInBounds_toArray, List.set_cons_zero, List.set_cons_succ]
            go_big_quiet_on
            go_big_quiet_want
            refine quiet_val (v := .bool (decide (0 < ordR ⟨p1, m1, b1, q1, s1, v1⟩ ⟨p2, m2, b2, q2, s2, v2⟩))) (fun w' hC => ?_) ?_
            · obtain ⟨z0, ⟨z1, z2, z3, z4, z5, z6⟩, y1, y2, y3, y4, y5, y6⟩ := hC
              go_simp
            simp only [Act.put, List.setIfInBounds_toArray, List.set_cons_zero, List.set_cons_succ]
            go_big_quiet_on
            go_big_quiet_want
            refine quiet_val (v := .bool (decide (0 < ordR ⟨p1, m1, b1, q1, s1, v1⟩ ⟨p2, m2, b2, q2, s2, v2⟩))) (fun w' hC => ?_) ?_
            · obtain ⟨z0, ⟨z1, z2, z3, z4, z5, z6⟩, y1, y2, y3, y4, y5, y6⟩ := hC
              go_simp
            simp only [Act.put, List.setIfInBounds_toArray, List.set_cons_zero, List.set_cons_succ]
            go_big_quiet_on
            refine wpQuiet_nil ?_
            intro w' hC
            go_wp2_with fail
            go_meet
            case rel => exact ⟨by rw [HYL.out, HK.out, hx2]; rfl, hC.1⟩
      case rest =>
        obtain ⟨hc2, hB2⟩ := hcut
        have HYY : Hid (beTo L h (k + 1) = if (Y && (decide (x < 0) || decide (0 < ordR (L.getD k zeR) (L.getD x.toNat zeR)))) then (k : Int) else x) := be_nextF x HX.out _ (by rw [HK.out, ← HY.out]; rfl)
        clear HCC1
        generalize (Y && (decide (x < 0) || decide (0 < ordR (L.getD k zeR) (L.getD x.toNat zeR)))) = Z at *
        subst hc2
        cases Z
        · go_wp2
          go_roundw
          case rel => exact ⟨k + 1, by omega, by rw [HYY.out]; rfl, by go_num, hB2⟩
          case measure => simp [intOf]; omega
        · go_wp2
          go_roundw
          case rel => exact ⟨k + 1, by omega, by rw [HYY.out]; rfl, by go_num, hB2⟩
          case measure => simp [intOf]; omega
    · obtain rfl : k = n := by omega
      go_wp2
      go_ret
      exact ⟨by rw [← HX.out]; rfl, HB.out⟩

set_option maxHeartbeats 1000000 in
theorem find_nil (ao : Option Addr) (cap : Nat) (h : Int) (w : World) :
    Calls Tryz.prog 17 #[.slice ao 0 cap, .int .i64 h] w fun e w' => e = .returned (.int .i64 (-1)) ∧ Below w.heap.size w w' := by
  go_enter Tryz.func17, Tryz.ntmps17
  go_wp2
  go_loopw [5, 6] (fun x i wr => x = .int .i64 (-1) ∧ i = .int .i64 0 ∧ wr = w) (fun _ i _ => 0)
  case atStart => exact ⟨rfl, rfl, rfl⟩
  case round =>
    obtain ⟨rfl, rfl, rfl⟩ := hrel
    go_wp2
    go_ret
    exact ⟨rfl, Below.refl _ _⟩

theorem find_any (x : Value) (L : List Ru) (h : Int) (w : World) (hs : SR w x L) :
    Calls Tryz.prog 17 #[x, .int .i64 h] w fun e w' => e = .returned (.int .i64 (beTo L h L.length)) ∧ Below w.heap.size w w' := by
  rcases hs with ⟨ao, cap, rfl, rfl⟩ | ⟨g, o, cap, rfl, h1, h2, hc⟩
  · exact find_nil ao cap h w
  · exact find_some g o cap _ h L w hc rfl (Nat.le_trans h1 h2)
end Go.Proofs.YtfbocionnjlilabGreatDoor
/- What the document's own Table answers, called with any table. -/
namespace Go.Proofs.YtfbocionnjlilabGreatDoor
open Go.RowKit
set_option linter.unusedSimpArgs false

theorem to_badF {L : List Ru} {k : Nat} {r : Ru} (hk : k < L.length) (hr : L[k] = r) (h : tbTo L k = 0) (h2 : r.n ≠ 0) (h12 : L.length ≤ 12) : tbN L = r.n := by
  have e : tbTo L (k + 1) = r.n := by rw [tbTo, if_pos h, getD_at hk, hr, if_neg h2]
  rw [tbN, if_neg (by omega), ← e]
  exact to_le (by rw [e]; exact h2) hk
theorem to_clashF {L : List Ru} {k : Nat} {r : Ru} (hk : k < L.length) (hr : L[k] = r) (h : tbTo L k = 0) (h2 : r.n = 0) (h3 : (L.take k).any (fun a => keyB a r) = true) (h12 : L.length ≤ 12) : tbN L = 7 := by
  have e : tbTo L (k + 1) = 7 := by
    rw [tbTo, if_pos h, getD_at hk, hr, if_pos h2, h3]
    rfl
  rw [tbN, if_neg (by omega), ← e]
  exact to_le (by rw [e]; decide) hk
theorem to_nextF {L : List Ru} {k : Nat} {r : Ru} (hk : k < L.length) (hr : L[k] = r) (h : tbTo L k = 0) (h2 : r.n = 0) (h3 : (L.take k).any (fun a => keyB a r) = false) : tbTo L (k + 1) = 0 := by
  rw [tbTo, if_pos h, getD_at hk, hr, if_pos h2, h3]
  rfl
theorem tab_take {L : List Ru} {f : Ru → Bool} {q k : Nat} (hq : q < k) (hk : q < L.length) (h : f L[q] = true) : (L.take k).any f = true :=
  List.any_eq_true.2 ⟨_, List.mem_take_iff_getElem.2 ⟨q, by omega, rfl⟩, h⟩

set_option maxRecDepth 100000 in
set_option maxHeartbeats 4000000 in
theorem refTable_some (g o cap n : Nat) (L : List Ru) (w : World) (hc : RAt w g o L) (hn : L.length = n) (hl : n ≤ 12) :
    Calls Tryz.prog 15 #[.slice (some ⟨g, o, none⟩) n cap] w fun e w' => e = .returned (.int .i64 (tbN L)) ∧ Below w.heap.size w w' := by
  have HN : Hid (L.length = n) := hn
  clear hn
  go_enter Tryz.func15, Tryz.ntmps15
  go_wp2
  go_loopw [3] (fun i wr => ∃ k : Nat, k ≤ n ∧ i = .int .i64 k ∧ tbTo L k = 0 ∧ Below w.heap.size w wr) (fun i _ => n - (intOf i).toNat)
  case atStart => exact ⟨0, by omega, rfl, rfl, Below.refl _ _⟩
  case round =>
    obtain ⟨k, hk, rfl, hno, hB⟩ := hrel
    have HB : Hid (Below w.heap.size w wr) := hB
    have HNO : Hid (tbTo L k = 0) := hno
    clear hno
    by_cases hlt : k < n
    · obtain ⟨p, m, b, q, s, v, hkl, hL, q0, q1, q2, q3, q4, q5⟩ := (hc.later hB).at HN.out hlt
      have HL : Hid (L[k] = ⟨p, m, b, q, s, v⟩) := hL
      clear hL hB
      by_cases ho : ruN p m b q s v = 0
      · have HO : Hid (ruN p m b q s v = 0) := ho
        go_wp2_with fail
        refine (refRule_any _ _ _ _ _ _ _).mono ?_
        rintro e w1 ⟨rfl, hb1⟩
        rw [HO.out]
        have HB1 : Hid (Below w.heap.size w w1) := HB.out.trans (hb1.mono HB.out.size)
        clear hb1 q0 q1 q2 q3 q4 q5 ho
        go_wp2
        go_loopw [5] (fun j w2 => ∃ t : Nat, t ≤ k ∧ j = .int .i64 t ∧ (L.take t).any (fun a => keyB a ⟨p, m, b, q, s, v⟩) = false ∧ Below w.heap.size w w2) (fun j _ => k - (intOf j).toNat)
        case atStart => exact ⟨0, by omega, rfl, by simp, HB1.out⟩
        case round =>
          obtain ⟨t, ht, rfl, hany, hB2⟩ := hrel
          have HANY : Hid ((L.take t).any (fun a => keyB a ⟨p, m, b, q, s, v⟩) = false) := hany
          have HB2 : Hid (Below w.heap.size w wr) := hB2
          clear hany
          by_cases hq : t < k
          · obtain ⟨p4, m4, b4, o4, s4, v4, htl, hLt, y0, y1, y2, y3, y4, y5⟩ := (hc.later hB2).at HN.out (show t < n by omega)
            obtain ⟨p5, m5, b5, o5, s5, v5, _, hLk, r0, r1, r2, r3, r4, r5⟩ := (hc.later hB2).at HN.out hlt
            rw [HL.out] at hLk
            simp only [Ru.mk.injEq] at hLk
            obtain ⟨rfl, rfl, rfl, rfl, rfl, rfl⟩ := hLk
            have HLT : Hid (L[t] = ⟨p4, m4, b4, o4, s4, v4⟩) := hLt
            have HCE : Hid (CD w g (o + t * 6) p4 m4 b4 o4 s4 v4 g (o + k * 6) p m b q s v wr) := ⟨hB2, ⟨y0, y1, y2, y3, y4, y5⟩, r0, r1, r2, r3, r4, r5⟩
            clear y0 y1 y2 y3 y4 y5 r0 r1 r2 r3 r4 r5 hLt hB2
            go_upto_region 12 with fail
            have tb0 : (0 : Int) ≤ (t : Int) := by omega
            have tb1 : (t : Int) < (n : Int) := by omega
            have kb0 : (0 : Int) ≤ (k : Int) := by omega
            have kb1 : (k : Int) < (n : Int) := by omega
            go_cut [51] from 23 to 51 (fun c w' => c = .bool (keyB ⟨p4, m4, b4, o4, s4, v4⟩ ⟨p, m, b, q, s, v⟩) ∧ Below w.heap.size w w')
            case first =>
              as_aux_lemma =>
                by_cases e1 : p4 = p
                · have f1 : (p4 == p) = true := by simpa using e1
                  by_cases e2 : m4 = m ∧ b4 = b
                  · obtain ⟨e2, e3⟩ := e2
                    have hky : keyB ⟨p4, m4, b4, o4, s4, v4⟩ ⟨p, m, b, q, s, v⟩ = true := by rw [key_eq]; simp [e1, e2, e3]
                    have f2 : (m4 == m) = true := by simpa using e2
                    have f3 : (b4 == b) = true := by simpa using e3
                    have hC0 := HCE.out
                    clear e1 e2 e3
                    refine wp_region_quiet (C := CD w g (o + t * 6) p4 m4 b4 o4 s4 v4 g (o + k * 6) p m b q s v) (by kernel_rfl) (by kernel_rfl) (CD.later (W := wr) (Below.drew (Below.refl _ _)) hC0) ?_
                    simp only [List.toList_toArray]
                    go_big_quiet_want
                    refine quiet_val (v := .slice (some ⟨g, o, none⟩) n cap) (fun w' hC => ?_) ?_
                    · obtain ⟨z0, ⟨z1, z2, z3, z4, z5, z6⟩, y1, y2, y3, y4, y5, y6⟩ := hC
                      go_simp
                    simp only [Act.put, List.setIfInBounds_toArray, List.set_cons_zero, List.set_cons_succ]
                    go_big_quiet_on
                    go_big_quiet_want
                    refine quiet_val (v := .int .i64 (t : Int)) (fun w' hC => ?_) ?_
                    · obtain ⟨z0, ⟨z1, z2, z3, z4, z5, z6⟩, y1, y2, y3, y4, y5, y6⟩ := hC
                      go_simp
                    simp only [Act.put, List.setIfInBounds_toArray, List.set_cons_zero, List.set_cons_succ]
                    go_big_quiet_on
                    go_big_quiet_want
                    refine quiet_val (v := .pointer (some ⟨g, o + t * 6, none⟩)) (fun w' hC => ?_) ?_
                    · obtain ⟨z0, ⟨z1, z2, z3, z4, z5, z6⟩, y1, y2, y3, y4, y5, y6⟩ := hC
                      go_simp
                    simp only [Act.put, List.setIfInBounds_toArray, List.set_cons_zero, List.set_cons_succ]
                    go_big_quiet_on
                    go_big_quiet_want
                    refine quiet_val (v := .pointer (some ⟨g, o + t * 6, none⟩)) (fun w' hC => ?_) ?_
                    · obtain ⟨z0, ⟨z1, z2, z3, z4, z5, z6⟩, y1, y2, y3, y4, y5, y6⟩ := hC
                      go_simp
                    simp only [Act.put, List.setIfInBounds_toArray, List.set_cons_zero, List.set_cons_succ]
                    go_big_quiet_on
                    go_big_quiet_want
                    refine quiet_val (v := .int .i64 p4) (fun w' hC => ?_) ?_
                    · obtain ⟨z0, ⟨z1, z2, z3, z4, z5, z6⟩, y1, y2, y3, y4, y5, y6⟩ := hC
                      go_simp
                    simp only [Act.put, List.setIfInBounds_toArray, List.set_cons_zero, List.set_cons_succ]
                    go_big_quiet_on
                    go_big_quiet_want
                    refine quiet_val (v := .slice (some ⟨g, o, none⟩) n cap) (fun w' hC => ?_) ?_
                    · obtain ⟨z0, ⟨z1, z2, z3, z4, z5, z6⟩, y1, y2, y3, y4, y5, y6⟩ := hC
                      go_simp
                    simp only [Act.put, List.setIfInBounds_toArray, List.set_cons_zero, List.set_cons_succ]
                    go_big_quiet_on
                    go_big_quiet_want
                    refine quiet_val (v := .int .i64 (k : Int)) (fun w' hC => ?_) ?_
                    · obtain ⟨z0, ⟨z1, z2, z3, z4, z5, z6⟩, y1, y2, y3, y4, y5, y6⟩ := hC
                      go_simp
                    simp only [Act.put, List.setIfInBounds_toArray, List.set_cons_zero, List.set_cons_succ]
                    go_big_quiet_on
                    go_big_quiet_want
                    refine quiet_val (v := .pointer (some ⟨g, o + k * 6, none⟩)) (fun w' hC => ?_) ?_
                    · obtain ⟨z0, ⟨z1, z2, z3, z4, z5, z6⟩, y1, y2, y3, y4, y5, y6⟩ := hC
                      go_simp
                    simp only [Act.put, List.setIfInBounds_toArray, List.set_cons_zero, List.set_cons_succ]
                    go_big_quiet_on
                    go_big_quiet_want
                    refine quiet_val (v := .pointer (some ⟨g, o + k * 6, none⟩)) (fun w' hC => ?_) ?_
                    · obtain ⟨z0, ⟨z1, z2, z3, z4, z5, z6⟩, y1, y2, y3, y4, y5, y6⟩ := hC
                      go_simp
                    simp only [Act.put, List.setIfInBounds_toArray, List.set_cons_zero, List.set_cons_succ]
                    go_big_quiet_on
                    go_big_quiet_want
                    refine quiet_val (v := .int .i64 p) (fun w' hC => ?_) ?_
                    · obtain ⟨z0, ⟨z1, z2, z3, z4, z5, z6⟩, y1, y2, y3, y4, y5, y6⟩ := hC
                      go_simp
                    simp only [Act.put, List.setIfInBounds_toArray, List.set_cons_zero, List.set_cons_succ]
                    go_big_quiet_on
                    go_big_quiet_want
                    refine quiet_val (v := .bool true) (fun w' hC => ?_) ?_
                    · obtain ⟨z0, ⟨z1, z2, z3, z4, z5, z6⟩, y1, y2, y3, y4, y5, y6⟩ := hC
                      go_simp
                    simp only [Act.put, List.setIfInBounds_toArray, List.set_cons_zero, List.set_cons_succ]
                    go_big_quiet_on
                    go_big_quiet_want
                    refine quiet_val (v := .bool true) (fun w' hC => ?_) ?_
                    · obtain ⟨z0, ⟨z1, z2, z3, z4, z5, z6⟩, y1, y2, y3, y4, y5, y6⟩ := hC
                      go_simp
                    simp only [Act.put, List.setIfInBounds_toArray, List.set_cons_zero, List.set_cons_succ]
                    go_big_quiet_on
                    go_big_quiet_want
                    refine quiet_val (v := .slice (some ⟨g, o, none⟩) n cap) (fun w' hC => ?_) ?_
                    · obtain ⟨z0, ⟨z1, z2, z3, z4, z5, z6⟩, y1, y2, y3, y4, y5, y6⟩ := hC
                      go_simp
                    simp only [Act.put, List.setIfInBounds_toArray, List.set_cons_zero, List.set_cons_succ]
                    go_big_quiet_on
                    go_big_quiet_want
                    refine quiet_val (v := .int .i64 (t : Int)) (fun w' hC => ?_) ?_
                    · obtain ⟨z0, ⟨z1, z2, z3, z4, z5, z6⟩, y1, y2, y3, y4, y5, y6⟩ := hC
                      go_simp
                    simp only [Act.put, List.setIfInBounds_toArray, List.set_cons_zero, List.set_cons_succ]
                    go_big_quiet_on
                    go_big_quiet_want
                    refine quiet_val (v := .pointer (some ⟨g, o + t * 6, none⟩)) (fun w' hC => ?_) ?_
                    · obtain ⟨z0, ⟨z1, z2, z3, z4, z5, z6⟩, y1, y2, y3, y4, y5, y6⟩ := hC
                      go_simp
                    simp only [Act.put, List.setIfInBounds_toArray, List.set_cons_zero, List.set_cons_succ]
                    go_big_quiet_on
                    go_big_quiet_want
                    refine quiet_val (v := .pointer (some ⟨g, o + t * 6 + 1, none⟩)) (fun w' hC => ?_) ?_
                    · obtain ⟨z0, ⟨z1, z2, z3, z4, z5, z6⟩, y1, y2, y3, y4, y5, y6⟩ := hC
                      go_simp
                    simp only [Act.put, List.setIfInBounds_toArray, List.set_cons_zero, List.set_cons_succ]
                    go_big_quiet_on
                    go_big_quiet_want
                    refine quiet_val (v := .agg #[.int .i64 m4, .int .i64 b4]) (fun w' hC => ?_) ?_
                    · obtain ⟨z0, ⟨z1, z2, z3, z4, z5, z6⟩, y1, y2, y3, y4, y5, y6⟩ := hC
                      go_simp
                    simp only [Act.put, List.setIfInBounds_toArray, List.set_cons_zero, List.set_cons_succ]
                    go_big_quiet_on
                    go_big_quiet_want
                    refine quiet_val (v := .slice (some ⟨g, o, none⟩) n cap) (fun w' hC => ?_) ?_
                    · obtain ⟨z0, ⟨z1, z2, z3, z4, z5, z6⟩, y1, y2, y3, y4, y5, y6⟩ := hC
                      go_simp
                    simp only [Act.put, List.setIfInBounds_toArray, List.set_cons_zero, List.set_cons_succ]
                    go_big_quiet_on
                    go_big_quiet_want
                    refine quiet_val (v := .int .i64 (k : Int)) (fun w' hC => ?_) ?_
                    · obtain ⟨z0, ⟨z1, z2, z3, z4, z5, z6⟩, y1, y2, y3, y4, y5, y6⟩ := hC
                      go_simp
                    simp only [Act.put, List.setIfInBounds_toArray, List.set_cons_zero, List.set_cons_succ]
                    go_big_quiet_on
                    go_big_quiet_want
                    refine quiet_val (v := .pointer (some ⟨g, o + k * 6, none⟩)) (fun w' hC => ?_) ?_
                    · obtain ⟨z0, ⟨z1, z2, z3, z4, z5, z6⟩, y1, y2, y3, y4, y5, y6⟩ := hC
                      go_simp
                    simp only [Act.put, List.setIfInBounds_toArray, List.set_cons_zero, List.set_cons_succ]
                    go_big_quiet_on
                    go_big_quiet_want
                    refine quiet_val (v := .pointer (some ⟨g, o + k * 6 + 1, none⟩)) (fun w' hC => ?_) ?_
                    · obtain ⟨z0, ⟨z1, z2, z3, z4, z5, z6⟩, y1, y2, y3, y4, y5, y6⟩ := hC
                      go_simp
                    simp only [Act.put, List.setIfInBounds_toArray, List.set_cons_zero, List.set_cons_succ]
                    go_big_quiet_on
                    go_big_quiet_want
                    refine quiet_val (v := .agg #[.int .i64 m, .int .i64 b]) (fun w' hC => ?_) ?_
                    · obtain ⟨z0, ⟨z1, z2, z3, z4, z5, z6⟩, y1, y2, y3, y4, y5, y6⟩ := hC
                      go_simp
                    simp only [Act.put, List.setIfInBounds_toArray, List.set_cons_zero, List.set_cons_succ]
                    go_big_quiet_on
                    go_big_quiet_want
                    refine quiet_val (v := .bool true) (fun w' hC => ?_) ?_
                    · obtain ⟨z0, ⟨z1, z2, z3, z4, z5, z6⟩, y1, y2, y3, y4, y5, y6⟩ := hC
                      go_simp
                    simp only [Act.put, List.setIfInBounds_toArray, List.set_cons_zero, List.set_cons_succ]
                    go_big_quiet_on
                    go_big_quiet_want
                    refine quiet_val (v := .bool true) (fun w' hC => ?_) ?_
                    · obtain ⟨z0, ⟨z1, z2, z3, z4, z5, z6⟩, y1, y2, y3, y4, y5, y6⟩ := hC
                      go_simp
                    simp only [Act.put, List.setIfInBounds_toArray, List.set_cons_zero, List.set_cons_succ]
                    go_big_quiet_on
                    refine wpQuiet_nil ?_
                    intro w' hC
                    go_wp2_with fail
                    go_meet
                    case rel => exact ⟨by rw [hky], hC.1⟩
                  · have hky : keyB ⟨p4, m4, b4, o4, s4, v4⟩ ⟨p, m, b, q, s, v⟩ = false := by
                      rw [key_eq]
                      simp only [e1, decide_true, Bool.true_and, Bool.and_eq_false_iff, decide_eq_false_iff_not]
                      by_cases e3 : m4 = m
                      · exact .inr fun e4 => e2 ⟨e3, e4⟩
                      · exact .inl e3
                    by_cases e3 : m4 = m
                    · have f3 : ¬ b4 = b := fun e4 => e2 ⟨e3, e4⟩
                      have f2 : (m4 == m) = true := by simpa using e3
                      have f4 : (b4 == b) = false := by simpa using f3
                      clear e2
                      have hC0 := HCE.out
                      clear e1
                      refine wp_region_quiet (C := CD w g (o + t * 6) p4 m4 b4 o4 s4 v4 g (o + k * 6) p m b q s v) (by kernel_rfl) (by kernel_rfl) (CD.later (W := wr) (Below.drew (Below.refl _ _)) hC0) ?_
                      simp only [List.toList_toArray]
                      go_big_quiet_want
                      refine quiet_val (v := .slice (some ⟨g, o, none⟩) n cap) (fun w' hC => ?_) ?_
                      · obtain ⟨z0, ⟨z1, z2, z3, z4, z5, z6⟩, y1, y2, y3, y4, y5, y6⟩ := hC
                        go_simp
                      simp only [Act.put, List.setIfInBounds_toArray, List.set_cons_zero, List.set_cons_succ]
                      go_big_quiet_on
                      go_big_quiet_want
                      refine quiet_val (v := .int .i64 (t : Int)) (fun w' hC => ?_) ?_
                      · obtain ⟨z0, ⟨z1, z2, z3, z4, z5, z6⟩, y1, y2, y3, y4, y5, y6⟩ := hC
                        go_simp
                      simp only [Act.put, List.setIfInBounds_toArray, List.set_cons_zero, List.set_cons_succ]
                      go_big_quiet_on
                      go_big_quiet_want
                      refine quiet_val (v := .pointer (some ⟨g, o + t * 6, none⟩)) (fun w' hC => ?_) ?_
                      · obtain ⟨z0, ⟨z1, z2, z3, z4, z5, z6⟩, y1, y2, y3, y4, y5, y6⟩ := hC
                        go_simp
                      simp only [Act.put, List.setIfInBounds_toArray, List.set_cons_zero, List.set_cons_succ]
                      go_big_quiet_on
                      go_big_quiet_want
                      refine quiet_val (v := .pointer (some ⟨g, o + t * 6, none⟩)) (fun w' hC => ?_) ?_
                      · obtain ⟨z0, ⟨z1, z2, z3, z4, z5, z6⟩, y1, y2, y3, y4, y5, y6⟩ := hC
                        go_simp
                      simp only [Act.put, List.setIfInBounds_toArray, List.set_cons_zero, List.set_cons_succ]
                      go_big_quiet_on
                      go_big_quiet_want
                      refine quiet_val (v := .int .i64 p4) (fun w' hC => ?_) ?_
                      · obtain ⟨z0, ⟨z1, z2, z3, z4, z5, z6⟩, y1, y2, y3, y4, y5, y6⟩ := hC
                        go_simp
                      simp only [Act.put, List.setIfInBounds_toArray, List.set_cons_zero, List.set_cons_succ]
                      go_big_quiet_on
                      go_big_quiet_want
                      refine quiet_val (v := .slice (some ⟨g, o, none⟩) n cap) (fun w' hC => ?_) ?_
                      · obtain ⟨z0, ⟨z1, z2, z3, z4, z5, z6⟩, y1, y2, y3, y4, y5, y6⟩ := hC
                        go_simp
                      simp only [Act.put, List.setIfInBounds_toArray, List.set_cons_zero, List.set_cons_succ]
                      go_big_quiet_on
                      go_big_quiet_want
                      refine quiet_val (v := .int .i64 (k : Int)) (fun w' hC => ?_) ?_
                      · obtain ⟨z0, ⟨z1, z2, z3, z4, z5, z6⟩, y1, y2, y3, y4, y5, y6⟩ := hC
                        go_simp
                      simp only [Act.put, List.setIfInBounds_toArray, List.set_cons_zero, List.set_cons_succ]
                      go_big_quiet_on
                      go_big_quiet_want
                      refine quiet_val (v := .pointer (some ⟨g, o + k * 6, none⟩)) (fun w' hC => ?_) ?_
                      · obtain ⟨z0, ⟨z1, z2, z3, z4, z5, z6⟩, y1, y2, y3, y4, y5, y6⟩ := hC
                        go_simp
                      simp only [Act.put, List.setIfInBounds_toArray, List.set_cons_zero, List.set_cons_succ]
                      go_big_quiet_on
                      go_big_quiet_want
                      refine quiet_val (v := .pointer (some ⟨g, o + k * 6, none⟩)) (fun w' hC => ?_) ?_
                      · obtain ⟨z0, ⟨z1, z2, z3, z4, z5, z6⟩, y1, y2, y3, y4, y5, y6⟩ := hC
                        go_simp
                      simp only [Act.put, List.setIfInBounds_toArray, List.set_cons_zero, List.set_cons_succ]
                      go_big_quiet_on
                      go_big_quiet_want
                      refine quiet_val (v := .int .i64 p) (fun w' hC => ?_) ?_
                      · obtain ⟨z0, ⟨z1, z2, z3, z4, z5, z6⟩, y1, y2, y3, y4, y5, y6⟩ := hC
                        go_simp
                      simp only [Act.put, List.setIfInBounds_toArray, List.set_cons_zero, List.set_cons_succ]
                      go_big_quiet_on
                      go_big_quiet_want
                      refine quiet_val (v := .bool true) (fun w' hC => ?_) ?_
                      · obtain ⟨z0, ⟨z1, z2, z3, z4, z5, z6⟩, y1, y2, y3, y4, y5, y6⟩ := hC
                        go_simp
                      simp only [Act.put, List.setIfInBounds_toArray, List.set_cons_zero, List.set_cons_succ]
                      go_big_quiet_on
                      go_big_quiet_want
                      refine quiet_val (v := .bool true) (fun w' hC => ?_) ?_
                      · obtain ⟨z0, ⟨z1, z2, z3, z4, z5, z6⟩, y1, y2, y3, y4, y5, y6⟩ := hC
                        go_simp
                      simp only [Act.put, List.setIfInBounds_toArray, List.set_cons_zero, List.set_cons_succ]
                      go_big_quiet_on
                      go_big_quiet_want
                      refine quiet_val (v := .slice (some ⟨g, o, none⟩) n cap) (fun w' hC => ?_) ?_
                      · obtain ⟨z0, ⟨z1, z2, z3, z4, z5, z6⟩, y1, y2, y3, y4, y5, y6⟩ := hC
                        go_simp
                      simp only [Act.put, List.setIfInBounds_toArray, List.set_cons_zero, List.set_cons_succ]
                      go_big_quiet_on
                      go_big_quiet_want
                      refine quiet_val (v := .int .i64 (t : Int)) (fun w' hC => ?_) ?_
                      · obtain ⟨z0, ⟨z1, z2, z3, z4, z5, z6⟩, y1, y2, y3, y4, y5, y6⟩ := hC
                        go_simp
                      simp only [Act.put, List.setIfInBounds_toArray, List.set_cons_zero, List.set_cons_succ]
                      go_big_quiet_on
                      go_big_quiet_want
                      refine quiet_val (v := .pointer (some ⟨g, o + t * 6, none⟩)) (fun w' hC => ?_) ?_
                      · obtain ⟨z0, ⟨z1, z2, z3, z4, z5, z6⟩, y1, y2, y3, y4, y5, y6⟩ := hC
                        go_simp
                      simp only [Act.put, List.setIfInBounds_toArray, List.set_cons_zero, List.set_cons_succ]
                      go_big_quiet_on
                      go_big_quiet_want
                      refine quiet_val (v := .pointer (some ⟨g, o + t * 6 + 1, none⟩)) (fun w' hC => ?_) ?_
                      · obtain ⟨z0, ⟨z1, z2, z3, z4, z5, z6⟩, y1, y2, y3, y4, y5, y6⟩ := hC
                        go_simp
                      simp only [Act.put, List.setIfInBounds_toArray, List.set_cons_zero, List.set_cons_succ]
                      go_big_quiet_on
                      go_big_quiet_want
                      refine quiet_val (v := .agg #[.int .i64 m4, .int .i64 b4]) (fun w' hC => ?_) ?_
                      · obtain ⟨z0, ⟨z1, z2, z3, z4, z5, z6⟩, y1, y2, y3, y4, y5, y6⟩ := hC
                        go_simp
                      simp only [Act.put, List.setIfInBounds_toArray, List.set_cons_zero, List.set_cons_succ]
                      go_big_quiet_on
                      go_big_quiet_want
                      refine quiet_val (v := .slice (some ⟨g, o, none⟩) n cap) (fun w' hC => ?_) ?_
                      · obtain ⟨z0, ⟨z1, z2, z3, z4, z5, z6⟩, y1, y2, y3, y4, y5, y6⟩ := hC
                        go_simp
                      simp only [Act.put, List.setIfInBounds_toArray, List.set_cons_zero, List.set_cons_succ]
                      go_big_quiet_on
                      go_big_quiet_want
                      refine quiet_val (v := .int .i64 (k : Int)) (fun w' hC => ?_) ?_
                      · obtain ⟨z0, ⟨z1, z2, z3, z4, z5, z6⟩, y1, y2, y3, y4, y5, y6⟩ := hC
                        go_simp
                      simp only [Act.put, List.setIfInBounds_toArray, List.set_cons_zero, List.set_cons_succ]
                      go_big_quiet_on
                      go_big_quiet_want
                      refine quiet_val (v := .pointer (some ⟨g, o + k * 6, none⟩)) (fun w' hC => ?_) ?_
                      · obtain ⟨z0, ⟨z1, z2, z3, z4, z5, z6⟩, y1, y2, y3, y4, y5, y6⟩ := hC
                        go_simp
                      simp only [Act.put, List.setIfInBounds_toArray, List.set_cons_zero, List.set_cons_succ]
                      go_big_quiet_on
                      go_big_quiet_want
                      refine quiet_val (v := .pointer (some ⟨g, o + k * 6 + 1, none⟩)) (fun w' hC => ?_) ?_
                      · obtain ⟨z0, ⟨z1, z2, z3, z4, z5, z6⟩, y1, y2, y3, y4, y5, y6⟩ := hC
                        go_simp
                      simp only [Act.put, List.setIfInBounds_toArray, List.set_cons_zero, List.set_cons_succ]
                      go_big_quiet_on
                      go_big_quiet_want
                      refine quiet_val (v := .agg #[.int .i64 m, .int .i64 b]) (fun w' hC => ?_) ?_
                      · obtain ⟨z0, ⟨z1, z2, z3, z4, z5, z6⟩, y1, y2, y3, y4, y5, y6⟩ := hC
                        go_simp
                      simp only [Act.put, List.setIfInBounds_toArray, List.set_cons_zero, List.set_cons_succ]
                      go_big_quiet_on
                      go_big_quiet_want
                      refine quiet_val (v := .bool false) (fun w' hC => ?_) ?_
                      · obtain ⟨z0, ⟨z1, z2, z3, z4, z5, z6⟩, y1, y2, y3, y4, y5, y6⟩ := hC
                        go_simp
                      simp only [Act.put, List.setIfInBounds_toArray, List.set_cons_zero, List.set_cons_succ]
                      go_big_quiet_on
                      go_big_quiet_want
                      refine quiet_val (v := .bool false) (fun w' hC => ?_) ?_
                      · obtain ⟨z0, ⟨z1, z2, z3, z4, z5, z6⟩, y1, y2, y3, y4, y5, y6⟩ := hC
                        go_simp
                      simp only [Act.put, List.setIfInBounds_toArray, List.set_cons_zero, List.set_cons_succ]
                      go_big_quiet_on
                      refine wpQuiet_nil ?_
                      intro w' hC
                      go_wp2_with fail
                      go_meet
                      case rel => exact ⟨by rw [hky], hC.1⟩
                    · have f2 : (m4 == m) = false := by simpa using e3
                      clear e2
                      have hC0 := HCE.out
                      clear e1
                      refine wp_region_quiet (C := CD w g (o + t * 6) p4 m4 b4 o4 s4 v4 g (o + k * 6) p m b q s v) (by kernel_rfl) (by kernel_rfl) (CD.later (W := wr) (Below.drew (Below.refl _ _)) hC0) ?_
                      simp only [List.toList_toArray]
                      go_big_quiet_want
                      refine quiet_val (v := .slice (some ⟨g, o, none⟩) n cap) (fun w' hC => ?_) ?_
                      · obtain ⟨z0, ⟨z1, z2, z3, z4, z5, z6⟩, y1, y2, y3, y4, y5, y6⟩ := hC
                        go_simp
                      simp only [Act.put, List.setIfInBounds_toArray, List.set_cons_zero, List.set_cons_succ]
                      go_big_quiet_on
                      go_big_quiet_want
                      refine quiet_val (v := .int .i64 (t : Int)) (fun w' hC => ?_) ?_
                      · obtain ⟨z0, ⟨z1, z2, z3, z4, z5, z6⟩, y1, y2, y3, y4, y5, y6⟩ := hC
                        go_simp
                      simp only [Act.put, List.setIfInBounds_toArray, List.set_cons_zero, List.set_cons_succ]
                      go_big_quiet_on
                      go_big_quiet_want
                      refine quiet_val (v := .pointer (some ⟨g, o + t * 6, none⟩)) (fun w' hC => ?_) ?_
                      · obtain ⟨z0, ⟨z1, z2, z3, z4, z5, z6⟩, y1, y2, y3, y4, y5, y6⟩ := hC
                        go_simp
                      simp only [Act.put, List.setIfInBounds_toArray, List.set_cons_zero, List.set_cons_succ]
                      go_big_quiet_on
                      go_big_quiet_want
                      refine quiet_val (v := .pointer (some ⟨g, o + t * 6, none⟩)) (fun w' hC => ?_) ?_
                      · obtain ⟨z0, ⟨z1, z2, z3, z4, z5, z6⟩, y1, y2, y3, y4, y5, y6⟩ := hC
                        go_simp
                      simp only [Act.put, List.setIfInBounds_toArray, List.set_cons_zero, List.set_cons_succ]
                      go_big_quiet_on
                      go_big_quiet_want
                      refine quiet_val (v := .int .i64 p4) (fun w' hC => ?_) ?_
                      · obtain ⟨z0, ⟨z1, z2, z3, z4, z5, z6⟩, y1, y2, y3, y4, y5, y6⟩ := hC
                        go_simp
                      simp only [Act.put, List.setIfInBounds_toArray, List.set_cons_zero, List.set_cons_succ]
                      go_big_quiet_on
                      go_big_quiet_want
                      refine quiet_val (v := .slice (some ⟨g, o, none⟩) n cap) (fun w' hC => ?_) ?_
                      · obtain ⟨z0, ⟨z1, z2, z3, z4, z5, z6⟩, y1, y2, y3, y4, y5, y6⟩ := hC
                        go_simp
                      simp only [Act.put, List.setIfInBounds_toArray, List.set_cons_zero, List.set_cons_succ]
                      go_big_quiet_on
                      go_big_quiet_want
                      refine quiet_val (v := .int .i64 (k : Int)) (fun w' hC => ?_) ?_
                      · obtain ⟨z0, ⟨z1, z2, z3, z4, z5, z6⟩, y1, y2, y3, y4, y5, y6⟩ := hC
                        go_simp
                      simp only [Act.put, List.setIfInBounds_toArray, List.set_cons_zero, List.set_cons_succ]
                      go_big_quiet_on
                      go_big_quiet_want
                      refine quiet_val (v := .pointer (some ⟨g, o + k * 6, none⟩)) (fun w' hC => ?_) ?_
                      · obtain ⟨z0, ⟨z1, z2, z3, z4, z5, z6⟩, y1, y2, y3, y4, y5, y6⟩ := hC
                        go_simp
                      simp only [Act.put, List.setIfInBounds_toArray, List.set_cons_zero, List.set_cons_succ]
                      go_big_quiet_on
                      go_big_quiet_want
                      refine quiet_val (v := .pointer (some ⟨g, o + k * 6, none⟩)) (fun w' hC => ?_) ?_
                      · obtain ⟨z0, ⟨z1, z2, z3, z4, z5, z6⟩, y1, y2, y3, y4, y5, y6⟩ := hC
                        go_simp
                      simp only [Act.put, List.setIfInBounds_toArray, List.set_cons_zero, List.set_cons_succ]
                      go_big_quiet_on
                      go_big_quiet_want
                      refine quiet_val (v := .int .i64 p) (fun w' hC => ?_) ?_
                      · obtain ⟨z0, ⟨z1, z2, z3, z4, z5, z6⟩, y1, y2, y3, y4, y5, y6⟩ := hC
                        go_simp
                      simp only [Act.put, List.setIfInBounds_toArray, List.set_cons_zero, List.set_cons_succ]
                      go_big_quiet_on
                      go_big_quiet_want
                      refine quiet_val (v := .bool true) (fun w' hC => ?_) ?_
                      · obtain ⟨z0, ⟨z1, z2, z3, z4, z5, z6⟩, y1, y2, y3, y4, y5, y6⟩ := hC
                        go_simp
                      simp only [Act.put, List.setIfInBounds_toArray, List.set_cons_zero, List.set_cons_succ]
                      go_big_quiet_on
                      go_big_quiet_want
                      refine quiet_val (v := .bool true) (fun w' hC => ?_) ?_
                      · obtain ⟨z0, ⟨z1, z2, z3, z4, z5, z6⟩, y1, y2, y3, y4, y5, y6⟩ := hC
                        go_simp
                      simp only [Act.put, List.setIfInBounds_toArray, List.set_cons_zero, List.set_cons_succ]
                      go_big_quiet_on
                      go_big_quiet_want
                      refine quiet_val (v := .slice (some ⟨g, o, none⟩) n cap) (fun w' hC => ?_) ?_
                      · obtain ⟨z0, ⟨z1, z2, z3, z4, z5, z6⟩, y1, y2, y3, y4, y5, y6⟩ := hC
                        go_simp
                      simp only [Act.put, List.setIfInBounds_toArray, List.set_cons_zero, List.set_cons_succ]
                      go_big_quiet_on
                      go_big_quiet_want
                      refine quiet_val (v := .int .i64 (t : Int)) (fun w' hC => ?_) ?_
                      · obtain ⟨z0, ⟨z1, z2, z3, z4, z5, z6⟩, y1, y2, y3, y4, y5, y6⟩ := hC
                        go_simp
                      simp only [Act.put, List.setIfInBounds_toArray, List.set_cons_zero, List.set_cons_succ]
                      go_big_quiet_on
                      go_big_quiet_want
                      refine quiet_val (v := .pointer (some ⟨g, o + t * 6, none⟩)) (fun w' hC => ?_) ?_
                      · obtain ⟨z0, ⟨z1, z2, z3, z4, z5, z6⟩, y1, y2, y3, y4, y5, y6⟩ := hC
                        go_simp
                      simp only [Act.put, List.setIfInBounds_toArray, List.set_cons_zero, List.set_cons_succ]
                      go_big_quiet_on
                      go_big_quiet_want
                      refine quiet_val (v := .pointer (some ⟨g, o + t * 6 + 1, none⟩)) (fun w' hC => ?_) ?_
                      · obtain ⟨z0, ⟨z1, z2, z3, z4, z5, z6⟩, y1, y2, y3, y4, y5, y6⟩ := hC
                        go_simp
                      simp only [Act.put, List.setIfInBounds_toArray, List.set_cons_zero, List.set_cons_succ]
                      go_big_quiet_on
                      go_big_quiet_want
                      refine quiet_val (v := .agg #[.int .i64 m4, .int .i64 b4]) (fun w' hC => ?_) ?_
                      · obtain ⟨z0, ⟨z1, z2, z3, z4, z5, z6⟩, y1, y2, y3, y4, y5, y6⟩ := hC
                        go_simp
                      simp only [Act.put, List.setIfInBounds_toArray, List.set_cons_zero, List.set_cons_succ]
                      go_big_quiet_on
                      go_big_quiet_want
                      refine quiet_val (v := .slice (some ⟨g, o, none⟩) n cap) (fun w' hC => ?_) ?_
                      · obtain ⟨z0, ⟨z1, z2, z3, z4, z5, z6⟩, y1, y2, y3, y4, y5, y6⟩ := hC
                        go_simp
                      simp only [Act.put, List.setIfInBounds_toArray, List.set_cons_zero, List.set_cons_succ]
                      go_big_quiet_on
                      go_big_quiet_want
                      refine quiet_val (v := .int .i64 (k : Int)) (fun w' hC => ?_) ?_
                      · obtain ⟨z0, ⟨z1, z2, z3, z4, z5, z6⟩, y1, y2, y3, y4, y5, y6⟩ := hC
                        go_simp
                      simp only [Act.put, List.setIfInBounds_toArray, List.set_cons_zero, List.set_cons_succ]
                      go_big_quiet_on
                      go_big_quiet_want
                      refine quiet_val (v := .pointer (some ⟨g, o + k * 6, none⟩)) (fun w' hC => ?_) ?_
                      · obtain ⟨z0, ⟨z1, z2, z3, z4, z5, z6⟩, y1, y2, y3, y4, y5, y6⟩ := hC
                        go_simp
                      simp only [Act.put, List.setIfInBounds_toArray, List.set_cons_zero, List.set_cons_succ]
                      go_big_quiet_on
                      go_big_quiet_want
                      refine quiet_val (v := .pointer (some ⟨g, o + k * 6 + 1, none⟩)) (fun w' hC => ?_) ?_
                      · obtain ⟨z0, ⟨z1, z2, z3, z4, z5, z6⟩, y1, y2, y3, y4, y5, y6⟩ := hC
                        go_simp
                      simp only [Act.put, List.setIfInBounds_toArray, List.set_cons_zero, List.set_cons_succ]
                      go_big_quiet_on
                      go_big_quiet_want
                      refine quiet_val (v := .agg #[.int .i64 m, .int .i64 b]) (fun w' hC => ?_) ?_
                      · obtain ⟨z0, ⟨z1, z2, z3, z4, z5, z6⟩, y1, y2, y3, y4, y5, y6⟩ := hC
                        go_simp
                      simp only [Act.put, List.setIfInBounds_toArray, List.set_cons_zero, List.set_cons_succ]
                      go_big_quiet_on
                      go_big_quiet_want
                      refine quiet_val (v := .bool false) (fun w' hC => ?_) ?_
                      · obtain ⟨z0, ⟨z1, z2, z3, z4, z5, z6⟩, y1, y2, y3, y4, y5, y6⟩ := hC
                        go_simp
                      simp only [Act.put, List.setIfInBounds_toArray, List.set_cons_zero, List.set_cons_succ]
                      go_big_quiet_on
                      go_big_quiet_want
                      refine quiet_val (v := .bool false) (fun w' hC => ?_) ?_
                      · obtain ⟨z0, ⟨z1, z2, z3, z4, z5, z6⟩, y1, y2, y3, y4, y5, y6⟩ := hC
                        go_simp
                      simp only [Act.put, List.setIfInBounds_toArray, List.set_cons_zero, List.set_cons_succ]
                      go_big_quiet_on
                      refine wpQuiet_nil ?_
                      intro w' hC
                      go_wp2_with fail
                      go_meet
                      case rel => exact ⟨by rw [hky], hC.1⟩
                · have hky : keyB ⟨p4, m4, b4, o4, s4, v4⟩ ⟨p, m, b, q, s, v⟩ = false := by rw [key_eq]; simp [e1]
                  have f1 : (p4 == p) = false := by simpa using e1
                  have hC0 := HCE.out
                  clear e1
                  refine wp_region_quiet (C := CD w g (o + t * 6) p4 m4 b4 o4 s4 v4 g (o + k * 6) p m b q s v) (by kernel_rfl) (by kernel_rfl) (CD.later (W := wr) (Below.drew (Below.refl _ _)) hC0) ?_
                  simp only [List.toList_toArray]
                  go_big_quiet_want
                  refine quiet_val (v := .slice (some ⟨g, o, none⟩) n cap) (fun w' hC => ?_) ?_
                  · obtain ⟨z0, ⟨z1, z2, z3, z4, z5, z6⟩, y1, y2, y3, y4, y5, y6⟩ := hC
                    go_simp
                  simp only [Act.put, List.setIfInBounds_toArray, List.set_cons_zero, List.set_cons_succ]
                  go_big_quiet_on
                  go_big_quiet_want
                  refine quiet_val (v := .int .i64 (t : Int)) (fun w' hC => ?_) ?_
                  · obtain ⟨z0, ⟨z1, z2, z3, z4, z5, z6⟩, y1, y2, y3, y4, y5, y6⟩ := hC
                    go_simp
                  simp only [Act.put, List.setIfInBounds_toArray, List.set_cons_zero, List.set_cons_succ]
                  go_big_quiet_on
                  go_big_quiet_want
                  refine quiet_val (v := .pointer (some ⟨g, o + t * 6, none⟩)) (fun w' hC => ?_) ?_
                  · obtain ⟨z0, ⟨z1, z2, z3, z4, z5, z6⟩, y1, y2, y3, y4, y5, y6⟩ := hC
                    go_simp
                  simp only [Act.put, List.setIfInBounds_toArray, List.set_cons_zero, List.set_cons_succ]
                  go_big_quiet_on
                  go_big_quiet_want
                  refine quiet_val (v := .pointer (some ⟨g, o + t * 6, none⟩)) (fun w' hC => ?_) ?_
                  · obtain ⟨z0, ⟨z1, z2, z3, z4, z5, z6⟩, y1, y2, y3, y4, y5, y6⟩ := hC
                    go_simp
                  simp only [Act.put, List.setIfInBounds_toArray, List.set_cons_zero, List.set_cons_succ]
                  go_big_quiet_on
                  go_big_quiet_want
                  refine quiet_val (v := .int .i64 p4) (fun w' hC => ?_) ?_
                  · obtain ⟨z0, ⟨z1, z2, z3, z4, z5, z6⟩, y1, y2, y3, y4, y5, y6⟩ := hC
                    go_simp
                  simp only [Act.put, List.setIfInBounds_toArray, List.set_cons_zero, List.set_cons_succ]
                  go_big_quiet_on
                  go_big_quiet_want
                  refine quiet_val (v := .slice (some ⟨g, o, none⟩) n cap) (fun w' hC => ?_) ?_
                  · obtain ⟨z0, ⟨z1, z2, z3, z4, z5, z6⟩, y1, y2, y3, y4, y5, y6⟩ := hC
                    go_simp
                  simp only [Act.put, List.setIfInBounds_toArray, List.set_cons_zero, List.set_cons_succ]
                  go_big_quiet_on
                  go_big_quiet_want
                  refine quiet_val (v := .int .i64 (k : Int)) (fun w' hC => ?_) ?_
                  · obtain ⟨z0, ⟨z1, z2, z3, z4, z5, z6⟩, y1, y2, y3, y4, y5, y6⟩ := hC
                    go_simp
                  simp only [Act.put, List.setIfInBounds_toArray, List.set_cons_zero, List.set_cons_succ]
                  go_big_quiet_on
                  go_big_quiet_want
                  refine quiet_val (v := .pointer (some ⟨g, o + k * 6, none⟩)) (fun w' hC => ?_) ?_
                  · obtain ⟨z0, ⟨z1, z2, z3, z4, z5, z6⟩, y1, y2, y3, y4, y5, y6⟩ := hC
                    go_simp
                  simp only [Act.put, List.setIfInBounds_toArray, List.set_cons_zero, List.set_cons_succ]
                  go_big_quiet_on
                  go_big_quiet_want
                  refine quiet_val (v := .pointer (some ⟨g, o + k * 6, none⟩)) (fun w' hC => ?_) ?_
                  · obtain ⟨z0, ⟨z1, z2, z3, z4, z5, z6⟩, y1, y2, y3, y4, y5, y6⟩ := hC
                    go_simp
                  simp only [Act.put, List.setIfInBounds_toArray, List.set_cons_zero, List.set_cons_succ]
                  go_big_quiet_on
                  go_big_quiet_want
                  refine quiet_val (v := .int .i64 p) (fun w' hC => ?_) ?_
                  · obtain ⟨z0, ⟨z1, z2, z3, z4, z5, z6⟩, y1, y2, y3, y4, y5, y6⟩ := hC
                    go_simp
                  simp only [Act.put, List.setIfInBounds_toArray, List.set_cons_zero, List.set_cons_succ]
                  go_big_quiet_on
                  go_big_quiet_want
                  refine quiet_val (v := .bool false) (fun w' hC => ?_) ?_
                  · obtain ⟨z0, ⟨z1, z2, z3, z4, z5, z6⟩, y1, y2, y3, y4, y5, y6⟩ := hC
                    go_simp
                  simp only [Act.put, List.setIfInBounds_toArray, List.set_cons_zero, List.set_cons_succ]
                  go_big_quiet_on
                  go_big_quiet_want
                  refine quiet_val (v := .bool false) (fun w' hC => ?_) ?_
                  · obtain ⟨z0, ⟨z1, z2, z3, z4, z5, z6⟩, y1, y2, y3, y4, y5, y6⟩ := hC
                    go_simp
                  simp only [Act.put, List.setIfInBounds_toArray, List.set_cons_zero, List.set_cons_succ]
                  go_big_quiet_on
                  go_big_quiet_skip
                  go_big_quiet_skip
                  go_big_quiet_skip
                  go_big_quiet_skip
                  go_big_quiet_skip
                  go_big_quiet_skip
                  go_big_quiet_skip
                  go_big_quiet_skip
                  go_big_quiet_skip
                  go_big_quiet_skip
                  go_big_quiet_skip
                  go_big_quiet_want
                  refine quiet_val (v := .bool false) (fun w' hC => ?_) ?_
                  · obtain ⟨z0, ⟨z1, z2, z3, z4, z5, z6⟩, y1, y2, y3, y4, y5, y6⟩ := hC
                    go_simp
                  simp only [Act.put, List.setIfInBounds_toArray, List.set_cons_zero, List.set_cons_succ]
                  go_big_quiet_on
                  refine wpQuiet_nil ?_
                  intro w' hC
                  go_wp2_with fail
                  go_meet
                  case rel => exact ⟨by rw [hky], hC.1⟩
            case rest =>
              obtain ⟨hc2, hB3⟩ := hcut
              clear HCE
              cases hky : keyB ⟨p4, m4, b4, o4, s4, v4⟩ ⟨p, m, b, q, s, v⟩
              · rw [hky] at hc2
                subst hc2
                go_wp2
                go_roundw
                case rel => exact ⟨t + 1, by omega, by go_num, any_nextR htl HANY.out (by rw [HLT.out]; exact hky), hB3⟩
                case measure => simp [intOf]; omega
              · rw [hky] at hc2
                subst hc2
                have HT : Hid (tbN L = 7) := to_clashF hkl HL.out HNO.out HO.out (tab_take hq htl (by rw [HLT.out]; exact hky)) (by rw [HN.out]; exact hl)
                go_wp2
                go_ret
                exact ⟨by rw [HT.out]; rfl, hB3⟩
          · obtain rfl : t = k := by omega
            clear hB2
            go_wp2
            go_roundw
            case rel => exact ⟨t + 1, by omega, by go_num, to_nextF hkl HL.out HNO.out HO.out HANY.out, HB2.out⟩
            case measure => simp [intOf]; omega
      · have HT : Hid (tbN L = ruN p m b q s v) := to_badF hkl HL.out HNO.out ho (by rw [HN.out]; exact hl)
        have ho2 : (ruN p m b q s v != 0) = true := by simpa using ho
        clear ho
        go_wp2_with fail
        refine (refRule_any _ _ _ _ _ _ _).mono ?_
        rintro e w1 ⟨rfl, hb1⟩
        have HB1 := HB.out.trans (hb1.mono HB.out.size)
        clear hb1
        go_wp2
        go_ret
        exact ⟨by rw [HT.out]; rfl, HB1⟩
    · obtain rfl : k = n := by omega
      go_wp2
      go_ret
      refine ⟨?_, HB.out⟩
      have e1 : tbN L = 0 := by
        rw [tbN, if_neg (by rw [HN.out]; omega), HN.out]
        exact HNO.out
      rw [e1]
      rfl

set_option maxHeartbeats 1000000 in
theorem refTable_long (ao : Option Addr) (cap n : Nat) (w : World) (hl : 12 < n) :
    Calls Tryz.prog 15 #[.slice ao n cap] w fun e w' => e = .returned (.int .i64 4) ∧ Below w.heap.size w w' := by
  go_enter Tryz.func15, Tryz.ntmps15
  go_wp2
  go_ret
  exact ⟨rfl, Below.refl _ _⟩

set_option maxHeartbeats 1000000 in
theorem refTable_nil (ao : Option Addr) (cap : Nat) (w : World) :
    Calls Tryz.prog 15 #[.slice ao 0 cap] w fun e w' => e = .returned (.int .i64 0) ∧ Below w.heap.size w w' := by
  go_enter Tryz.func15, Tryz.ntmps15
  go_wp2
  go_loopw [3] (fun i wr => i = .int .i64 0 ∧ wr = w) (fun i _ => 0)
  case atStart => exact ⟨rfl, rfl⟩
  case round =>
    obtain ⟨rfl, rfl⟩ := hrel
    go_wp2
    go_ret
    exact ⟨rfl, Below.refl _ _⟩

theorem refTable_any (v : Value) (L : List Ru) (w : World) (h : SR w v L) :
    Calls Tryz.prog 15 #[v] w fun e w' => e = .returned (.int .i64 (tbN L)) ∧ Below w.heap.size w w' := by
  rcases h with ⟨ao, cap, rfl, rfl⟩ | ⟨g, o, cap, rfl, h1, h2, hc⟩
  · exact refTable_nil ao cap w
  · by_cases h12 : 12 < L.length
    · have e : tbN L = 4 := by simp [tbN, h12]
      rw [e]; exact refTable_long _ _ _ _ h12
    · exact refTable_some _ _ _ _ L w hc rfl (by omega)
end Go.Proofs.YtfbocionnjlilabGreatDoor
/- Rows of numbers that a call owns. -/
namespace Go.Proofs.YtfbocionnjlilabGreatDoor
open Go.RowKit

/-- The length of a row that a call owns. -/
theorem own_form {w : World} {B e size n : Nat} {v : Value} {xs : List Value} (h : w.ownsRow B e size v n xs) : ∃ ao cap, v = .slice ao n cap := by
  rcases h.2 with ⟨rfl, rfl⟩ | ⟨g, cap, cur, rfl, _⟩
  · exact ⟨none, 0, rfl⟩
  · exact ⟨_, cap, rfl⟩

/-- These numbers lie where a value says. -/
theorem own_ints {w : World} {B e : Nat} {v : Value} {xs : List Int} (h : w.ownsRow B e 1 v xs.length (xs.map (Value.int .i64))) :
    (v = .slice none 0 0 ∧ xs = []) ∨ ∃ g cap, v = .slice (some ⟨g, 0, none⟩) xs.length cap ∧ ∀ i (hi : i < xs.length), w.cell? ⟨g, i, none⟩ = some (.int .i64 xs[i]) := by
  rcases h.2 with ⟨rfl, h0⟩ | ⟨g, cap, cur, rfl, _⟩
  · exact .inl ⟨rfl, List.length_eq_zero_iff.1 h0⟩
  · refine .inr ⟨g, cap, rfl, fun i hi => ?_⟩
    rw [h.cellAt i (by omega)]
    simp [hi]

/-- Are two lists of numbers alike up to a place? -/
def eqTo (a b : List Int) (k : Nat) : Bool := a.take k == b.take k

end Go.Proofs.YtfbocionnjlilabGreatDoor
