/- What raillaw4.line answers: a contract for the walks above it. -/
import Derived.Test.YtfbocionnjlilacDoorLineMath
import Derived.Test.YtfbocionnjlilacDoorTopoOf
import Derived.Test.YtfbocionnjlilacDoorTopoCheck
import Derived.Test.YtfbocionnjlilacDoorOwnRow
import Derived.Test.YtfbocionnjlilacDoorOwnInts
namespace Go.Proofs.YtfbocionnjlilacDoor
open Go.RowKit
set_option linter.unusedSimpArgs false
set_option linter.unusedVariables false

/-- What holds all along: the answer's block, the topology's box, the links. -/
structure LN (w W : World) (n : Int) (v u : Value) (k : Nat) : Prop where
  below : Below w.heap.size w W
  r0 : W.cell? ⟨w.heap.size, 0, none⟩ = some (.int .i64 0)
  r1 : W.cell? ⟨w.heap.size, 1, none⟩ = some (.slice none 0 0)
  r2 : W.cell? ⟨w.heap.size, 2, none⟩ = some (.slice none 0 0)
  rf : ∀ i, W.frozen? ⟨w.heap.size, i, none⟩ = false
  c0 : W.cell? ⟨w.heap.size + 1, 0, none⟩ = some (.int .i64 n)
  c1 : W.cell? ⟨w.heap.size + 1, 1, none⟩ = some v
  c2 : W.cell? ⟨w.heap.size + 1, 2, none⟩ = some u
  cf : ∀ i, W.frozen? ⟨w.heap.size + 1, i, none⟩ = false
  lt : w.heap.size + 2 ≤ W.heap.size
  own : W.ownsRow (w.heap.size + 2) 83 4 v (lnTo k).length (cellsG lnkE (lnTo k))
theorem LN.low {w W W' : World} {n : Int} {v u : Value} {k : Nat} (h : LN w W n v u k) (hb : Below (w.heap.size + 2) W W') {v' : Value} {k' : Nat} (hv : v' = v) (ho : W'.ownsRow (w.heap.size + 2) 83 4 v' (lnTo k').length (cellsG lnkE (lnTo k'))) : LN w W' n v u k' := by
  subst hv
  have hc : ∀ (g i : Nat) (x : Value), g < w.heap.size + 2 → W.cell? ⟨g, i, none⟩ = some x → W'.cell? ⟨g, i, none⟩ = some x := fun g i x hg e => (hb.cell (p := ⟨g, i, none⟩) hg).trans e
  have hf : ∀ (g i : Nat), g < w.heap.size + 2 → W.frozen? ⟨g, i, none⟩ = false → W'.frozen? ⟨g, i, none⟩ = false := fun g i hg e => (hb.frozen (p := ⟨g, i, none⟩) hg).trans e
  exact ⟨h.below.trans (hb.mono (by omega)), hc _ _ _ (by omega) h.r0, hc _ _ _ (by omega) h.r1, hc _ _ _ (by omega) h.r2, fun i => hf _ _ (by omega) (h.rf i), hc _ _ _ (by omega) h.c0, hc _ _ _ (by omega) h.c1, hc _ _ _ (by omega) h.c2, fun i => hf _ _ (by omega) (h.cf i), Nat.le_trans h.lt hb.size, ho⟩
theorem LN.put1 {w W W2 : World} {n : Int} {v u v' : Value} {k : Nat} (h : LN w W n v u k) (hb : Below (w.heap.size + 2) W W2) (ho : W2.ownsRow (w.heap.size + 2) 83 4 v' (lnTo (k + 1)).length (cellsG lnkE (lnTo (k + 1)))) : LN w (W2.setCell ⟨w.heap.size + 1, 1, none⟩ v') n v' u (k + 1) := by
  have hc : ∀ (g i : Nat) (x : Value), g < w.heap.size + 2 → ¬ (g = w.heap.size + 1 ∧ i = 1) → W.cell? ⟨g, i, none⟩ = some x → (W2.setCell ⟨w.heap.size + 1, 1, none⟩ v').cell? ⟨g, i, none⟩ = some x := fun g i x hg hn e => by
    rw [World.cell?_setCell_other _ _ _ _ (fun e2 => by simp only [Addr.mk.injEq, and_true] at e2; exact hn ⟨e2.1.symm, e2.2.symm⟩)]
    exact (hb.cell (p := ⟨g, i, none⟩) hg).trans e
  have hf : ∀ (g i : Nat), g < w.heap.size + 2 → W.frozen? ⟨g, i, none⟩ = false → (W2.setCell ⟨w.heap.size + 1, 1, none⟩ v').frozen? ⟨g, i, none⟩ = false := fun g i hg e => by
    have h2 := (hb.frozen (p := ⟨g, i, none⟩) hg).trans e
    simpa using h2
  have h1 := (hb.cell (p := ⟨w.heap.size + 1, 1, none⟩) (by simp)).trans h.c1
  exact ⟨(h.below.trans (hb.mono (by omega))).setCell (p := ⟨w.heap.size + 1, 1, none⟩) (by simp) _, hc _ _ _ (by omega) (by omega) h.r0, hc _ _ _ (by omega) (by omega) h.r1, hc _ _ _ (by omega) (by omega) h.r2, fun i => hf _ _ (by omega) (h.rf i), hc _ _ _ (by omega) (by omega) h.c0, World.cell?_setCell_same _ _ _ h1, hc _ _ _ (by omega) (by omega) h.c2, fun i => hf _ _ (by omega) (h.cf i), by
    have := h.lt
    have h3 := hb.size
    simp
    omega, ownsRow_setCell_below ho (by simp) _⟩
theorem LN.put2 {w W W2 : World} {n : Int} {v u u' : Value} {k : Nat} (h : LN w W n v u k) (hb : Below (w.heap.size + 2) W W2) (ho : W2.ownsRow (w.heap.size + 2) 83 4 v (lnTo k).length (cellsG lnkE (lnTo k))) : LN w (W2.setCell ⟨w.heap.size + 1, 2, none⟩ u') n v u' k := by
  have hc : ∀ (g i : Nat) (x : Value), g < w.heap.size + 2 → ¬ (g = w.heap.size + 1 ∧ i = 2) → W.cell? ⟨g, i, none⟩ = some x → (W2.setCell ⟨w.heap.size + 1, 2, none⟩ u').cell? ⟨g, i, none⟩ = some x := fun g i x hg hn e => by
    rw [World.cell?_setCell_other _ _ _ _ (fun e2 => by simp only [Addr.mk.injEq, and_true] at e2; exact hn ⟨e2.1.symm, e2.2.symm⟩)]
    exact (hb.cell (p := ⟨g, i, none⟩) hg).trans e
  have hf : ∀ (g i : Nat), g < w.heap.size + 2 → W.frozen? ⟨g, i, none⟩ = false → (W2.setCell ⟨w.heap.size + 1, 2, none⟩ u').frozen? ⟨g, i, none⟩ = false := fun g i hg e => by
    have h2 := (hb.frozen (p := ⟨g, i, none⟩) hg).trans e
    simpa using h2
  have h1 := (hb.cell (p := ⟨w.heap.size + 1, 2, none⟩) (by simp)).trans h.c2
  exact ⟨(h.below.trans (hb.mono (by omega))).setCell (p := ⟨w.heap.size + 1, 2, none⟩) (by simp) _, hc _ _ _ (by omega) (by omega) h.r0, hc _ _ _ (by omega) (by omega) h.r1, hc _ _ _ (by omega) (by omega) h.r2, fun i => hf _ _ (by omega) (h.rf i), hc _ _ _ (by omega) (by omega) h.c0, hc _ _ _ (by omega) (by omega) h.c1, World.cell?_setCell_same _ _ _ h1, fun i => hf _ _ (by omega) (h.cf i), by
    have := h.lt
    have h3 := hb.size
    simp
    omega, ownsRow_setCell_below ho (by simp) _⟩
theorem ln_start (w : World) (n : Int) (w0 : World) (hw : (w.alloc (Obj.cells #[.int .i64 0, .slice none 0 0, .slice none 0 0] 25)).alloc (Obj.cells #[.int .i64 n, .slice none 0 0, .slice none 0 0] 25) = w0) : LN w w0 n (.slice none 0 0) (.slice none 0 0) 0 := by
  subst hw
  have e1 : (w.alloc (Obj.cells #[.int .i64 0, .slice none 0 0, .slice none 0 0] 25)).heap.size = w.heap.size + 1 := by simp
  have hb : ∀ (W : World) (o : Obj), Below W.heap.size W (W.alloc o) := fun W o => (Below.refl _ _).alloc (Nat.le_refl _) _
  have hr := (vat_new w [.int .i64 0, .slice none 0 0, .slice none 0 0] 25).later (hb _ (Obj.cells #[.int .i64 n, .slice none 0 0, .slice none 0 0] 25))
  have hs := vat_new (w.alloc (Obj.cells #[.int .i64 0, .slice none 0 0, .slice none 0 0] 25)) [.int .i64 n, .slice none 0 0, .slice none 0 0] 25
  have hg : ∀ (W : World) (cs : Array Value) (t : TypeId) (i : Nat), (W.alloc (.cells cs t)).frozen? ⟨W.heap.size, i, none⟩ = false := fun W cs t i => by simp
  have hf2 := hg (w.alloc (Obj.cells #[.int .i64 0, .slice none 0 0, .slice none 0 0] 25)) #[.int .i64 n, .slice none 0 0, .slice none 0 0] 25
  rw [e1] at hs hf2
  refine ⟨((Below.refl _ _).alloc (Nat.le_refl _) _).alloc (by rw [e1]; omega) _, hr 0 _ rfl, hr 1 _ rfl, hr 2 _ rfl, fun i => ?_, hs 0 _ rfl, hs 1 _ rfl, hs 2 _ rfl, hf2, by simp, World.ownsRow_nil _ _ _ _⟩
  exact ((hb _ _).frozen (p := ⟨w.heap.size, i, none⟩) (by simp)).trans (hg w _ _ i)

theorem ln_apart {w : World} {b1 e1 s1 n1 b2 e2 s2 n2 : Nat} {v1 v2 : Value} {x1 x2 : List Value} (h1 : w.ownsRow b1 e1 s1 v1 n1 x1) (h2 : w.ownsRow b2 e2 s2 v2 n2 x2) (he : e1 ≠ e2) : v1.ownBlock = none ∨ v1.ownBlock ≠ v2.ownBlock := by
  rcases h1.2 with ⟨rfl, _⟩ | ⟨g, cap, cur, rfl, _, hg, _⟩
  · exact .inl rfl
  · refine .inr ?_
    rcases h2.2 with ⟨rfl, _⟩ | ⟨g2, cap2, cur2, rfl, _, hg2, _⟩
    · exact fun h => by cases h
    · intro h
      simp only [Value.ownBlock, Option.some.injEq] at h
      subst h
      rw [hg] at hg2
      simp only [Option.some.injEq, Obj.cells.injEq] at hg2
      exact he hg2.2.1
/-- Three cells of one block are set. -/
def set3 (W : World) (g : Nat) (u v x : Value) : World := ((W.setCell ⟨g, 0, none⟩ u).setCell ⟨g, 1, none⟩ v).setCell ⟨g, 2, none⟩ x
theorem below3 {w W : World} (h : Below w.heap.size w W) (g : Nat) (hg : w.heap.size ≤ g) (u v x : Value) : Below w.heap.size w (set3 W g u v x) := ((h.setCell (p := ⟨g, 0, none⟩) hg u).setCell (p := ⟨g, 1, none⟩) hg v).setCell (p := ⟨g, 2, none⟩) hg x
theorem own_set3 {W : World} {B e size n : Nat} {v : Value} {xs : List Value} (h : W.ownsRow B e size v n xs) (g : Nat) (hg : g < B) (a b c : Value) : (set3 W g a b c).ownsRow B e size v n xs := ownsRow_setCell_below (ownsRow_setCell_below (ownsRow_setCell_below h hg _) hg _) hg _

set_option maxHeartbeats 2000000 in
set_option maxRecDepth 100000 in
theorem line_any (N : Nat) (w : World) (h1 : 1 ≤ N) (h7 : N ≤ 7) :
    Calls Tryd.prog 22 #[.int .i64 (N : Int)] w fun e w' => ∃ ao n cap ao2 n2 cap2, e = .returned (.agg #[.int .i64 (N : Int), .slice ao n cap, .slice ao2 n2 cap2]) ∧ GS lnkE w' (.slice ao n cap) (lnTo (N - 1)) ∧ GS hstE w' (.slice ao2 n2 cap2) (lnH (N : Int)) ∧ Below w.heap.size w w' := by
  obtain ⟨i0, hi, hz0, hz1, hz2⟩ := info_parts lnk_info
  obtain ⟨j0, hj, hy0, hy1, hy2⟩ := info_parts hst_info
  obtain ⟨wa, hwa⟩ : ∃ W, w.alloc (Obj.cells #[.int .i64 0, .slice none 0 0, .slice none 0 0] 25) = W := ⟨_, rfl⟩
  obtain ⟨w0, hw0⟩ : ∃ W, wa.alloc (Obj.cells #[.int .i64 (N : Int), .slice none 0 0, .slice none 0 0] 25) = W := ⟨_, rfl⟩
  have HS : Hid (LN w w0 (N : Int) (.slice none 0 0) (.slice none 0 0) 0) := ln_start w _ w0 (by rw [hwa]; exact hw0)
  have HSZ : Hid (wa.heap.size = w.heap.size + 1) := by
    show _ = _
    rw [← hwa]
    simp
  have HW0 : Hid (wa.alloc (Obj.cells #[.int .i64 (N : Int), .slice none 0 0, .slice none 0 0] 25) = w0) := hw0
  clear hw0
  go_enter Tryd.func22, Tryd.ntmps22
  go_wp2
  rw [HW0.out, HSZ.out]
  go_loopw [4] (fun i wr => ∃ (k : Nat) (v : Value), k + 1 ≤ N ∧ i = .int .i64 ((k : Int) + 1) ∧ LN w wr (N : Int) v (.slice none 0 0) k) (fun i _ => N - (intOf i).toNat)
  case atStart => exact ⟨0, _, h1, rfl, HS.out⟩
  case round =>
    obtain ⟨k, v, hk, rfl, hL⟩ := hrel
    have HL : Hid (LN w wr (N : Int) v (.slice none 0 0) k) := hL
    obtain ⟨_, r0, r1, r2, rf, c0, c1, c2, cf, hlt, hown⟩ := hL
    have f1 := cf 1
    have f2 := cf 2
    clear HS HW0 hwa
    by_cases hlt2 : k + 1 < N
    · have hl : (k : Int) + 1 < (N : Int) := by omega
      have hw2 : IntKind.i64.wrap ((k : Int) + 1 + 1) = (k : Int) + 1 + 1 := wrap_small (by omega) (by omega)
      have hlen := ln_len k
      have HOWN : Hid (wr.ownsRow (w.heap.size + 2) 83 4 v (lnTo k).length (cellsG lnkE (lnTo k))) := hown
      clear hown rf cf
      go_wp2_with (at_builtin; refine wpList_append_own _ rfl _ _ 22 rfl (w.heap.size + 2) 83 i0 (.agg #[.int .i64 0, .int .i64 0, .int .i64 0, .int .i64 0]) 4 32 Tryd.underlying22 hi hz0 hz1 hz2 lnk_zero (by decide) _ _ _ rfl (HOWN.out.alloc _) ⟨wr.heap.size, 0, none⟩ 1 1 [.int .i64 ((k : Int) + 1), .int .i64 2, .int .i64 ((k : Int) + 1 + 1), .int .i64 1] rfl rfl ?c1 ?c2 ?c3 ?c4 ?c5 ?_)
      case c1 =>
        intro j u hj
        match j, hj with
        | 0, hj => simp at hj; subst hj; simp [Addr.add]
        | 1, hj => simp at hj; subst hj; simp [Addr.add]
        | 2, hj => simp at hj; subst hj; simp [Addr.add]
        | 3, hj => simp at hj; subst hj; simp [Addr.add]
      case c2 => intro u hu; simp at hu; rcases hu with rfl | rfl | rfl | rfl <;> rfl
      case c3 => unfold maxLen; omega
      case c4 => omega
      case c5 => simp; omega
      intro v' w3 hown3 hgrow _
      obtain ⟨ao3, cap3, rfl⟩ := own_form hown3
      have hb3 : Below (w.heap.size + 2) wr w3 := ((Below.refl _ wr).alloc (by omega) _).grown hgrow (by simp; omega) (fun g hg => (HOWN.out.lt g hg).1)
      have HN : Hid (LN w (w3.setCell ⟨w.heap.size + 1, 1, none⟩ (.slice ao3 (k + 1) cap3)) (N : Int) (.slice ao3 (k + 1) cap3) (.slice none 0 0) (k + 1)) := by
        refine HL.out.put1 hb3 ?_
        have e : lnTo (k + 1) = lnTo k ++ [(((k : Int) + 1, 2), ((k : Int) + 1 + 1, 1))] := rfl
        rw [ln_len, e, cellsG_app, cellsG_one]
        have h3 := hown3
        try rw [ln_len] at h3
        exact h3
      have d1 := (hb3.cell (p := ⟨w.heap.size + 1, 1, none⟩) (by simp)).trans c1
      have d0 := (hb3.cell (p := ⟨w.heap.size + 1, 0, none⟩) (by simp)).trans c0
      have g1 := (hb3.frozen (p := ⟨w.heap.size + 1, 1, none⟩) (by simp)).trans f1
      clear hb3 hgrow hown3
      go_wp2
      go_roundw
      case rel => exact ⟨k + 1, _, by omega, by go_num, HN.out⟩
      case measure => simp [intOf]; omega
    · obtain rfl : N = k + 1 := by omega
      have hl : ¬ ((k : Int) + 1 < ((k + 1 : Nat) : Int)) := by omega
      have HOWN : Hid (wr.ownsRow (w.heap.size + 2) 83 4 v (lnTo k).length (cellsG lnkE (lnTo k))) := hown
      clear hown rf cf
      go_wp2_with (at_builtin; refine wpList_append_own _ rfl _ _ 23 rfl (w.heap.size + 2) 38 j0 (.agg #[.string ByteArray.empty, .int .i64 0, .int .i64 0]) 3 32 Tryd.underlying23 hj hy0 hy1 hy2 hst_zero (by decide) _ _ _ rfl (World.ownsRow_nil _ _ _ _) ⟨wr.heap.size, 0, none⟩ 1 1 [.string ⟨#[97]⟩, .int .i64 1, .int .i64 3] rfl rfl ?c1 ?c2 ?c3 ?c4 ?c5 ?_)
      case c2 => first | exact ⟨rfl, rfl, rfl⟩ | (intro u hu; simp at hu; rcases hu with rfl | rfl | rfl <;> rfl)
      case c3 => unfold maxLen; omega
      case c5 => first | omega | (simp; omega)
      intro v3 w3 hown3 hgrow _
      obtain ⟨ao3, cap3, rfl⟩ := own_form hown3
      have hb3 : Below (w.heap.size + 2) wr w3 := ((Below.refl _ wr).alloc (by omega) _).grown hgrow (by simp; omega) (fun g hg => by cases hg)
      have hk3 : w3.ownsRow (w.heap.size + 2) 83 4 v (lnTo k).length (cellsG lnkE (lnTo k)) := (HOWN.out.alloc _).kept hgrow (by cases hv : v.ownBlock <;> simp [Value.ownBlock])
      have hN3 : LN w (w3.setCell ⟨w.heap.size + 1, 2, none⟩ (.slice ao3 1 cap3)) ((k + 1 : Nat) : Int) v (.slice ao3 1 cap3) k := HL.out.put2 hb3 hk3
      have hO3 : (w3.setCell ⟨w.heap.size + 1, 2, none⟩ (.slice ao3 1 cap3)).ownsRow (w.heap.size + 2) 38 3 (.slice ao3 1 cap3) 1 [.string ⟨#[97]⟩, .int .i64 1, .int .i64 3] := ownsRow_setCell_below hown3 (by simp) _
      have d2 := (hb3.cell (p := ⟨w.heap.size + 1, 2, none⟩) (by simp)).trans c2
      have g2 := (hb3.frozen (p := ⟨w.heap.size + 1, 2, none⟩) (by simp)).trans f2
      obtain ⟨w4, hw4⟩ : ∃ W, w3.setCell ⟨w.heap.size + 1, 2, none⟩ (.slice ao3 1 cap3) = W := ⟨_, rfl⟩
      rw [hw4] at hN3 hO3
      have HN3 : Hid (LN w w4 ((k + 1 : Nat) : Int) v (.slice ao3 1 cap3) k) := hN3
      have HO3 : Hid (w4.ownsRow (w.heap.size + 2) 38 3 (.slice ao3 1 cap3) 1 [.string ⟨#[97]⟩, .int .i64 1, .int .i64 3]) := hO3
      have HW4 : Hid (w3.setCell ⟨w.heap.size + 1, 2, none⟩ (.slice ao3 1 cap3) = w4) := hw4
      have e2 := hN3.c2
      have f2' := hN3.cf 2
      have hlt4 := hN3.lt
      clear hb3 hk3 hN3 hO3 hgrow hown3 hw4 r0 r1 r2 c0 c1 c2 f1 f2 HOWN
      go_upto_region 7 with fail
      rw [HW4.out]
      clear d2 g2
      go_wp2_with (at_builtin; refine wpList_append_own _ rfl _ _ 23 rfl (w.heap.size + 2) 38 j0 (.agg #[.string ByteArray.empty, .int .i64 0, .int .i64 0]) 3 32 Tryd.underlying23 hj hy0 hy1 hy2 hst_zero (by decide) _ _ _ rfl (HO3.out.alloc _) ⟨w4.heap.size, 0, none⟩ 1 1 [.string ⟨#[98]⟩, .int .i64 ((k : Int) + 1), .int .i64 4] rfl rfl ?m1 ?m2 ?m3 ?m4 ?m5 ?_)
      case m1 =>
        intro j u hj
        match j, hj with
        | 0, hj => simp at hj; subst hj; simp [Addr.add]
        | 1, hj => simp at hj; subst hj; simp [Addr.add]
        | 2, hj => simp at hj; subst hj; simp [Addr.add]
      case m2 => intro u hu; simp at hu; rcases hu with rfl | rfl | rfl <;> rfl
      case m3 => unfold maxLen; omega
      case m4 => omega
      case m5 => simp; omega
      intro v5 w5 hown5 hgrow5 _
      obtain ⟨ao5, cap5, rfl⟩ := own_form hown5
      have hb5 : Below (w.heap.size + 2) w4 w5 := ((Below.refl _ w4).alloc (by omega) _).grown hgrow5 (by simp; omega) (fun g hg => (HO3.out.lt g hg).1)
      have hk5 : w5.ownsRow (w.heap.size + 2) 83 4 v (lnTo k).length (cellsG lnkE (lnTo k)) := (HN3.out.own.alloc _).kept hgrow5 (ln_apart HN3.out.own HO3.out (by decide))
      have hN5 : LN w (w5.setCell ⟨w.heap.size + 1, 2, none⟩ (.slice ao5 2 cap5)) ((k + 1 : Nat) : Int) v (.slice ao5 2 cap5) k := HN3.out.put2 hb5 hk5
      have hO5 : (w5.setCell ⟨w.heap.size + 1, 2, none⟩ (.slice ao5 2 cap5)).ownsRow (w.heap.size + 2) 38 3 (.slice ao5 2 cap5) (lnH ((k + 1 : Nat) : Int)).length (cellsG hstE (lnH ((k + 1 : Nat) : Int))) := ownsRow_setCell_below hown5 (by simp) _
      have d2 := (hb5.cell (p := ⟨w.heap.size + 1, 2, none⟩) (by simp)).trans e2
      have g2 := (hb5.frozen (p := ⟨w.heap.size + 1, 2, none⟩) (by simp)).trans f2'
      obtain ⟨w6, hw6⟩ : ∃ W, w5.setCell ⟨w.heap.size + 1, 2, none⟩ (.slice ao5 2 cap5) = W := ⟨_, rfl⟩
      rw [hw6] at hN5 hO5
      have HN5 : Hid (LN w w6 ((k + 1 : Nat) : Int) v (.slice ao5 2 cap5) k) := hN5
      have HGH : Hid (∀ a b c, GS hstE (set3 w6 w.heap.size a b c) (.slice ao5 2 cap5) (lnH ((k + 1 : Nat) : Int))) := fun a b c => own_GS (own_set3 hO5 _ (by omega) a b c)
      have HGL : Hid (∀ a b c, GS lnkE (set3 w6 w.heap.size a b c) v (lnTo k)) := fun a b c => own_GS (own_set3 hN5.own _ (by omega) a b c)
      have HW6 : Hid (w5.setCell ⟨w.heap.size + 1, 2, none⟩ (.slice ao5 2 cap5) = w6) := hw6
      obtain ⟨aoL, capL, hvL⟩ := own_form hN5.own
      have HVL : Hid (v = .slice aoL (lnTo k).length capL) := hvL
      clear hb5 hk5 hN5 hO5 hgrow5 hown5 hw6 e2 f2' HN3 HO3 hvL
      go_upto_region 8 with fail
      rw [HW6.out]
      obtain ⟨hB6, r0, r1, r2, rf, c0, c1, c2, _, hlt6, _⟩ := HN5.out
      rw [HVL.out] at c1
      have rf0 := rf 0
      have rf1 := rf 1
      have rf2 := rf 2
      have HB6 : Hid (Below w.heap.size w w6) := hB6
      clear d2 g2 rf hB6 HW6
      go_wp2
      have e0 : k + 1 - 1 = k := by omega
      refine bodyPost_ret (v := .agg #[.int .i64 ((k + 1 : Nat) : Int), .slice aoL (lnTo k).length capL, .slice ao5 2 cap5]) (by simp [results, Tryd.results22, go_sem, *]) rfl ⟨aoL, _, capL, ao5, 2, cap5, rfl, ?_, ?_, below3 HB6.out _ (Nat.le_refl _) _ _ _⟩
      · rw [e0, ← HVL.out]
        exact HGL.out _ _ _
      · exact HGH.out _ _ _
end Go.Proofs.YtfbocionnjlilacDoor
