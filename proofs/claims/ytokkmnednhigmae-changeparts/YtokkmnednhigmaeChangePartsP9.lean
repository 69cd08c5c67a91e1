/- Contracts and facts on the way to ChangeParts, joined into one text: TopoLine1, ChangeParts, NetOf. -/
import Derived.Test.YtokkmnednhigmaeChangePartsP8
import Derived.Test.YtokkmnednhigmaeChangePartsP4
import Derived.Test.YtokkmnednhigmaeChangePartsP1
import Derived.Test.YtokkmnednhigmaeChangePartsP5
import Derived.Test.YtokkmnednhigmaeChangePartsP2
/- What raillaw4.line answers: a contract for the walks above it. -/
namespace Go.Proofs.Ytokkmnednhigmae
open Go.RowKit
set_option linter.unusedSimpArgs false
set_option linter.unusedVariables false

/-- What holds all along: the answer's block, the topology's box, the links. -/
structure LN (w W : World) (n : Int) (v u : Value) (k : Nat) : Prop where
  below : Below w.heap.size w W
  r0 : W.cell? ⟨w.heap.size, 0, none⟩ = some (.int .i64 0)
  r1 : W.cell? ⟨w.heap.size, 1, none⟩ = some (.slice none 0 0)
  r2 : W.cell? ⟨w.heap.size, 2, none⟩ = some (.slice none 0 0)
  rf : ∀ i, W.frozen? ⟨w.heap.size, i, none⟩ = false
  c0 : W.cell? ⟨w.heap.size + 1, 0, none⟩ = some (.int .i64 n)
  c1 : W.cell? ⟨w.heap.size + 1, 1, none⟩ = some v
  c2 : W.cell? ⟨w.heap.size + 1, 2, none⟩ = some u
  cf : ∀ i, W.frozen? ⟨w.heap.size + 1, i, none⟩ = false
  lt : w.heap.size + 2 ≤ W.heap.size
  own : W.ownsRow (w.heap.size + 2) 68 4 v (lnTo k).length (cellsG lnkE (lnTo k))
theorem LN.low {w W W' : World} {n : Int} {v u : Value} {k : Nat} (h : LN w W n v u k) (hb : Below (w.heap.size + 2) W W') {v' : Value} {k' : Nat} (hv : v' = v) (ho : W'.ownsRow (w.heap.size + 2) 68 4 v' (lnTo k').length (cellsG lnkE (lnTo k'))) : LN w W' n v u k' := by
  subst hv
  have hc : ∀ (g i : Nat) (x : Value), g < w.heap.size + 2 → W.cell? ⟨g, i, none⟩ = some x → W'.cell? ⟨g, i, none⟩ = some x := fun g i x hg e => (hb.cell (p := ⟨g, i, none⟩) hg).trans e
  have hf : ∀ (g i : Nat), g < w.heap.size + 2 → W.frozen? ⟨g, i, none⟩ = false → W'.frozen? ⟨g, i, none⟩ = false := fun g i hg e => (hb.frozen (p := ⟨g, i, none⟩) hg).trans e
  exact ⟨h.below.trans (hb.mono (by omega)), hc _ _ _ (by omega) h.r0, hc _ _ _ (by omega) h.r1, hc _ _ _ (by omega) h.r2, fun i => hf _ _ (by omega) (h.rf i), hc _ _ _ (by omega) h.c0, hc _ _ _ (by omega) h.c1, hc _ _ _ (by omega) h.c2, fun i => hf _ _ (by omega) (h.cf i), Nat.le_trans h.lt hb.size, ho⟩
theorem LN.put1 {w W W2 : World} {n : Int} {v u v' : Value} {k : Nat} (h : LN w W n v u k) (hb : Below (w.heap.size + 2) W W2) (ho : W2.ownsRow (w.heap.size + 2) 68 4 v' (lnTo (k + 1)).length (cellsG lnkE (lnTo (k + 1)))) : LN w (W2.setCell ⟨w.heap.size + 1, 1, none⟩ v') n v' u (k + 1) := by
  have hc : ∀ (g i : Nat) (x : Value), g < w.heap.size + 2 → ¬ (g = w.heap.size + 1 ∧ i = 1) → W.cell? ⟨g, i, none⟩ = some x → (W2.setCell ⟨w.heap.size + 1, 1, none⟩ v').cell? ⟨g, i, none⟩ = some x := fun g i x hg hn e => by
    rw [World.cell?_setCell_other _ _ _ _ (fun e2 => by simp only [Addr.mk.injEq, and_true] at e2; exact hn ⟨e2.1.symm, e2.2.symm⟩)]
    exact (hb.cell (p := ⟨g, i, none⟩) hg).trans e
  have hf : ∀ (g i : Nat), g < w.heap.size + 2 → W.frozen? ⟨g, i, none⟩ = false → (W2.setCell ⟨w.heap.size + 1, 1, none⟩ v').frozen? ⟨g, i, none⟩ = false := fun g i hg e => by
    have h2 := (hb.frozen (p := ⟨g, i, none⟩) hg).trans e
    simpa using h2
  have h1 := (hb.cell (p := ⟨w.heap.size + 1, 1, none⟩) (by simp)).trans h.c1
  exact ⟨(h.below.trans (hb.mono (by omega))).setCell (p := ⟨w.heap.size + 1, 1, none⟩) (by simp) _, hc _ _ _ (by omega) (by omega) h.r0, hc _ _ _ (by omega) (by omega) h.r1, hc _ _ _ (by omega) (by omega) h.r2, fun i => hf _ _ (by omega) (h.rf i), hc _ _ _ (by omega) (by omega) h.c0, World.cell?_setCell_same _ _ _ h1, hc _ _ _ (by omega) (by omega) h.c2, fun i => hf _ _ (by omega) (h.cf i), by
    have := h.lt
    have h3 := hb.size
    simp
    omega, ownsRow_setCell_below ho (by simp) _⟩
theorem LN.put2 {w W W2 : World} {n : Int} {v u u' : Value} {k : Nat} (h : LN w W n v u k) (hb : Below (w.heap.size + 2) W W2) (ho : W2.ownsRow (w.heap.size + 2) 68 4 v (lnTo k).length (cellsG lnkE (lnTo k))) : LN w (W2.setCell ⟨w.heap.size + 1, 2, none⟩ u') n v u' k := by
  have hc : ∀ (g i : Nat) (x : Value), g < w.heap.size + 2 → ¬ (g = w.heap.size + 1 ∧ i = 2) → W.cell? ⟨g, i, none⟩ = some x → (W2.setCell ⟨w.heap.size + 1, 2, none⟩ u').cell? ⟨g, i, none⟩ = some x := fun g i x hg hn e => by
    rw [World.cell?_setCell_other _ _ _ _ (fun e2 => by simp only [Addr.mk.injEq, and_true] at e2; exact hn ⟨e2.1.symm, e2.2.symm⟩)]
    exact (hb.cell (p := ⟨g, i, none⟩) hg).trans e
  have hf : ∀ (g i : Nat), g < w.heap.size + 2 → W.frozen? ⟨g, i, none⟩ = false → (W2.setCell ⟨w.heap.size + 1, 2, none⟩ u').frozen? ⟨g, i, none⟩ = false := fun g i hg e => by
    have h2 := (hb.frozen (p := ⟨g, i, none⟩) hg).trans e
    simpa using h2
  have h1 := (hb.cell (p := ⟨w.heap.size + 1, 2, none⟩) (by simp)).trans h.c2
  exact ⟨(h.below.trans (hb.mono (by omega))).setCell (p := ⟨w.heap.size + 1, 2, none⟩) (by simp) _, hc _ _ _ (by omega) (by omega) h.r0, hc _ _ _ (by omega) (by omega) h.r1, hc _ _ _ (by omega) (by omega) h.r2, fun i => hf _ _ (by omega) (h.rf i), hc _ _ _ (by omega) (by omega) h.c0, hc _ _ _ (by omega) (by omega) h.c1, World.cell?_setCell_same _ _ _ h1, fun i => hf _ _ (by omega) (h.cf i), by
    have := h.lt
    have h3 := hb.size
    simp
    omega, ownsRow_setCell_below ho (by simp) _⟩
theorem ln_start (w : World) (n : Int) (w0 : World) (hw : (w.alloc (Obj.cells #[.int .i64 0, .slice none 0 0, .slice none 0 0] 25)).alloc (Obj.cells #[.int .i64 n, .slice none 0 0, .slice none 0 0] 25) = w0) : LN w w0 n (.slice none 0 0) (.slice none 0 0) 0 := by
  subst hw
  have e1 : (w.alloc (Obj.cells #[.int .i64 0, .slice none 0 0, .slice none 0 0] 25)).heap.size = w.heap.size + 1 := by simp
  have hb : ∀ (W : World) (o : Obj), Below W.heap.size W (W.alloc o) := fun W o => (Below.refl _ _).alloc (Nat.le_refl _) _
  have hr := (vat_new w [.int .i64 0, .slice none 0 0, .slice none 0 0] 25).later (hb _ (Obj.cells #[.int .i64 n, .slice none 0 0, .slice none 0 0] 25))
  have hs := vat_new (w.alloc (Obj.cells #[.int .i64 0, .slice none 0 0, .slice none 0 0] 25)) [.int .i64 n, .slice none 0 0, .slice none 0 0] 25
  have hg : ∀ (W : World) (cs : Array Value) (t : TypeId) (i : Nat), (W.alloc (.cells cs t)).frozen? ⟨W.heap.size, i, none⟩ = false := fun W cs t i => by simp
  have hf2 := hg (w.alloc (Obj.cells #[.int .i64 0, .slice none 0 0, .slice none 0 0] 25)) #[.int .i64 n, .slice none 0 0, .slice none 0 0] 25
  rw [e1] at hs hf2
  refine ⟨((Below.refl _ _).alloc (Nat.le_refl _) _).alloc (by rw [e1]; omega) _, hr 0 _ rfl, hr 1 _ rfl, hr 2 _ rfl, fun i => ?_, hs 0 _ rfl, hs 1 _ rfl, hs 2 _ rfl, hf2, by simp, World.ownsRow_nil _ _ _ _⟩
  exact ((hb _ _).frozen (p := ⟨w.heap.size, i, none⟩) (by simp)).trans (hg w _ _ i)

theorem ln_apart {w : World} {b1 e1 s1 n1 b2 e2 s2 n2 : Nat} {v1 v2 : Value} {x1 x2 : List Value} (h1 : w.ownsRow b1 e1 s1 v1 n1 x1) (h2 : w.ownsRow b2 e2 s2 v2 n2 x2) (he : e1 ≠ e2) : v1.ownBlock = none ∨ v1.ownBlock ≠ v2.ownBlock := by
  rcases h1.2 with ⟨rfl, _⟩ | ⟨g, cap, cur, rfl, _, hg, _⟩
  · exact .inl rfl
  · refine .inr ?_
    rcases h2.2 with ⟨rfl, _⟩ | ⟨g2, cap2, cur2, rfl, _, hg2, _⟩
    · exact fun h => by cases h
    · intro h
      simp only [Value.ownBlock, Option.some.injEq] at h
      subst h
      rw [hg] at hg2
      simp only [Option.some.injEq, Obj.cells.injEq] at hg2
      exact he hg2.2.1
/-- Three cells of one block are set. -/
def set3 (W : World) (g : Nat) (u v x : Value) : World := ((W.setCell ⟨g, 0, none⟩ u).setCell ⟨g, 1, none⟩ v).setCell ⟨g, 2, none⟩ x
theorem below3 {w W : World} (h : Below w.heap.size w W) (g : Nat) (hg : w.heap.size ≤ g) (u v x : Value) : Below w.heap.size w (set3 W g u v x) := ((h.setCell (p := ⟨g, 0, none⟩) hg u).setCell (p := ⟨g, 1, none⟩) hg v).setCell (p := ⟨g, 2, none⟩) hg x
theorem own_set3 {W : World} {B e size n : Nat} {v : Value} {xs : List Value} (h : W.ownsRow B e size v n xs) (g : Nat) (hg : g < B) (a b c : Value) : (set3 W g a b c).ownsRow B e size v n xs := ownsRow_setCell_below (ownsRow_setCell_below (ownsRow_setCell_below h hg _) hg _) hg _

set_option maxHeartbeats 2000000 in
set_option maxRecDepth 100000 in
theorem line_any (N : Nat) (w : World) (h1 : 1 ≤ N) (h7 : N ≤ 7) :
    Calls Try.prog 9 #[.int .i64 (N : Int)] w fun e w' => ∃ ao n cap ao2 n2 cap2, e = .returned (.agg #[.int .i64 (N : Int), .slice ao n cap, .slice ao2 n2 cap2]) ∧ GS lnkE w' (.slice ao n cap) (lnTo (N - 1)) ∧ GS hstE w' (.slice ao2 n2 cap2) (lnH (N : Int)) ∧ Below w.heap.size w w' := by
  obtain ⟨i0, hi, hz0, hz1, hz2⟩ := info_parts lnk_info
  obtain ⟨j0, hj, hy0, hy1, hy2⟩ := info_parts hst_info
  obtain ⟨wa, hwa⟩ : ∃ W, w.alloc (Obj.cells #[.int .i64 0, .slice none 0 0, .slice none 0 0] 25) = W := ⟨_, rfl⟩
  obtain ⟨w0, hw0⟩ : ∃ W, wa.alloc (Obj.cells #[.int .i64 (N : Int), .slice none 0 0, .slice none 0 0] 25) = W := ⟨_, rfl⟩
  have HS : Hid (LN w w0 (N : Int) (.slice none 0 0) (.slice none 0 0) 0) := ln_start w _ w0 (by rw [hwa]; exact hw0)
  have HSZ : Hid (wa.heap.size = w.heap.size + 1) := by
    show _ = _
    rw [← hwa]
    simp
  have HW0 : Hid (wa.alloc (Obj.cells #[.int .i64 (N : Int), .slice none 0 0, .slice none 0 0] 25) = w0) := hw0
  clear hw0
  go_enter Try.func9, Try.ntmps9
  go_wp2
  rw [HW0.out, HSZ.out]
  go_loopw [4] (fun i wr => ∃ (k : Nat) (v : Value), k + 1 ≤ N ∧ i = .int .i64 ((k : Int) + 1) ∧ LN w wr (N : Int) v (.slice none 0 0) k) (fun i _ => N - (intOf i).toNat)
  case atStart => exact ⟨0, _, h1, rfl, HS.out⟩
  case round =>
    obtain ⟨k, v, hk, rfl, hL⟩ := hrel
    have HL : Hid (LN w wr (N : Int) v (.slice none 0 0) k) := hL
    obtain ⟨_, r0, r1, r2, rf, c0, c1, c2, cf, hlt, hown⟩ := hL
    have f1 := cf 1
    have f2 := cf 2
    clear HS HW0 hwa
    by_cases hlt2 : k + 1 < N
    · have hl : (k : Int) + 1 < (N : Int) := by omega
      have hw2 : IntKind.i64.wrap ((k : Int) + 1 + 1) = (k : Int) + 1 + 1 := wrap_small (by omega) (by omega)
      have hlen := ln_len k
      have HOWN : Hid (wr.ownsRow (w.heap.size + 2) 68 4 v (lnTo k).length (cellsG lnkE (lnTo k))) := hown
      clear hown rf cf
      go_wp2_with (at_builtin; refine wpList_append_own _ rfl _ _ 22 rfl (w.heap.size + 2) 68 i0 (.agg #[.int .i64 0, .int .i64 0, .int .i64 0, .int .i64 0]) 4 32 Try.underlying22 hi hz0 hz1 hz2 lnk_zero (by decide) _ _ _ rfl (HOWN.out.alloc _) ⟨wr.heap.size, 0, none⟩ 1 1 [.int .i64 ((k : Int) + 1), .int .i64 2, .int .i64 ((k : Int) + 1 + 1), .int .i64 1] rfl rfl ?c1 ?c2 ?c3 ?c4 ?c5 ?_)
      case c1 =>
        intro j u hj
        match j, hj with
        | 0, hj => simp at hj; subst hj; simp [Addr.add]
        | 1, hj => simp at hj; subst hj; simp [Addr.add]
        | 2, hj => simp at hj; subst hj; simp [Addr.add]
        | 3, hj => simp at hj; subst hj; simp [Addr.add]
      case c2 => intro u hu; simp at hu; rcases hu with rfl | rfl | rfl | rfl <;> rfl
      case c3 => unfold maxLen; omega
      case c4 => omega
      case c5 => simp; omega
      intro v' w3 hown3 hgrow _
      obtain ⟨ao3, cap3, rfl⟩ := own_form hown3
      have hb3 : Below (w.heap.size + 2) wr w3 := ((Below.refl _ wr).alloc (by omega) _).grown hgrow (by simp; omega) (fun g hg => (HOWN.out.lt g hg).1)
      have HN : Hid (LN w (w3.setCell ⟨w.heap.size + 1, 1, none⟩ (.slice ao3 (k + 1) cap3)) (N : Int) (.slice ao3 (k + 1) cap3) (.slice none 0 0) (k + 1)) := by
        refine HL.out.put1 hb3 ?_
        have e : lnTo (k + 1) = lnTo k ++ [(((k : Int) + 1, 2), ((k : Int) + 1 + 1, 1))] := rfl
        rw [ln_len, e, cellsG_app, cellsG_one]
        have h3 := hown3
        try rw [ln_len] at h3
        exact h3
      have d1 := (hb3.cell (p := ⟨w.heap.size + 1, 1, none⟩) (by simp)).trans c1
      have d0 := (hb3.cell (p := ⟨w.heap.size + 1, 0, none⟩) (by simp)).trans c0
      have g1 := (hb3.frozen (p := ⟨w.heap.size + 1, 1, none⟩) (by simp)).trans f1
      clear hb3 hgrow hown3
      go_wp2
      go_roundw
      case rel => exact ⟨k + 1, _, by omega, by go_num, HN.out⟩
      case measure => simp [intOf]; omega
    · obtain rfl : N = k + 1 := by omega
      have hl : ¬ ((k : Int) + 1 < ((k + 1 : Nat) : Int)) := by omega
      have HOWN : Hid (wr.ownsRow (w.heap.size + 2) 68 4 v (lnTo k).length (cellsG lnkE (lnTo k))) := hown
      clear hown rf cf
      go_wp2_with (at_builtin; refine wpList_append_own _ rfl _ _ 23 rfl (w.heap.size + 2) 70 j0 (.agg #[.string ByteArray.empty, .int .i64 0, .int .i64 0]) 3 32 Try.underlying23 hj hy0 hy1 hy2 hst_zero (by decide) _ _ _ rfl (World.ownsRow_nil _ _ _ _) ⟨wr.heap.size, 0, none⟩ 1 1 [.string ⟨#[97]⟩, .int .i64 1, .int .i64 3] rfl rfl ?c1 ?c2 ?c3 ?c4 ?c5 ?_)
      case c2 => first | exact ⟨rfl, rfl, rfl⟩ | (intro u hu; simp at hu; rcases hu with rfl | rfl | rfl <;> rfl)
      case c3 => unfold maxLen; omega
      case c5 => first | omega | (simp; omega)
      intro v3 w3 hown3 hgrow _
      obtain ⟨ao3, cap3, rfl⟩ := own_form hown3
      have hb3 : Below (w.heap.size + 2) wr w3 := ((Below.refl _ wr).alloc (by omega) _).grown hgrow (by simp; omega) (fun g hg => by cases hg)
      have hk3 : w3.ownsRow (w.heap.size + 2) 68 4 v (lnTo k).length (cellsG lnkE (lnTo k)) := (HOWN.out.alloc _).kept hgrow (by cases hv : v.ownBlock <;> simp [Value.ownBlock])
      have hN3 : LN w (w3.setCell ⟨w.heap.size + 1, 2, none⟩ (.slice ao3 1 cap3)) ((k + 1 : Nat) : Int) v (.slice ao3 1 cap3) k := HL.out.put2 hb3 hk3
      have hO3 : (w3.setCell ⟨w.heap.size + 1, 2, none⟩ (.slice ao3 1 cap3)).ownsRow (w.heap.size + 2) 70 3 (.slice ao3 1 cap3) 1 [.string ⟨#[97]⟩, .int .i64 1, .int .i64 3] := ownsRow_setCell_below hown3 (by simp) _
      have d2 := (hb3.cell (p := ⟨w.heap.size + 1, 2, none⟩) (by simp)).trans c2
      have g2 := (hb3.frozen (p := ⟨w.heap.size + 1, 2, none⟩) (by simp)).trans f2
      obtain ⟨w4, hw4⟩ : ∃ W, w3.setCell ⟨w.heap.size + 1, 2, none⟩ (.slice ao3 1 cap3) = W := ⟨_, rfl⟩
      rw [hw4] at hN3 hO3
      have HN3 : Hid (LN w w4 ((k + 1 : Nat) : Int) v (.slice ao3 1 cap3) k) := hN3
      have HO3 : Hid (w4.ownsRow (w.heap.size + 2) 70 3 (.slice ao3 1 cap3) 1 [.string ⟨#[97]⟩, .int .i64 1, .int .i64 3]) := hO3
      have HW4 : Hid (w3.setCell ⟨w.heap.size + 1, 2, none⟩ (.slice ao3 1 cap3) = w4) := hw4
      have e2 := hN3.c2
      have f2' := hN3.cf 2
      have hlt4 := hN3.lt
      clear hb3 hk3 hN3 hO3 hgrow hown3 hw4 r0 r1 r2 c0 c1 c2 f1 f2 HOWN
      go_upto_region 7 with fail
      rw [HW4.out]
      clear d2 g2
      go_wp2_with (at_builtin; refine wpList_append_own _ rfl _ _ 23 rfl (w.heap.size + 2) 70 j0 (.agg #[.string ByteArray.empty, .int .i64 0, .int .i64 0]) 3 32 Try.underlying23 hj hy0 hy1 hy2 hst_zero (by decide) _ _ _ rfl (HO3.out.alloc _) ⟨w4.heap.size, 0, none⟩ 1 1 [.string ⟨#[98]⟩, .int .i64 ((k : Int) + 1), .int .i64 4] rfl rfl ?m1 ?m2 ?m3 ?m4 ?m5 ?_)
      case m1 =>
        intro j u hj
        match j, hj with
        | 0, hj => simp at hj; subst hj; simp [Addr.add]
        | 1, hj => simp at hj; subst hj; simp [Addr.add]
        | 2, hj => simp at hj; subst hj; simp [Addr.add]
      case m2 => intro u hu; simp at hu; rcases hu with rfl | rfl | rfl <;> rfl
      case m3 => unfold maxLen; omega
      case m4 => omega
      case m5 => simp; omega
      intro v5 w5 hown5 hgrow5 _
      obtain ⟨ao5, cap5, rfl⟩ := own_form hown5
      have hb5 : Below (w.heap.size + 2) w4 w5 := ((Below.refl _ w4).alloc (by omega) _).grown hgrow5 (by simp; omega) (fun g hg => (HO3.out.lt g hg).1)
      have hk5 : w5.ownsRow (w.heap.size + 2) 68 4 v (lnTo k).length (cellsG lnkE (lnTo k)) := (HN3.out.own.alloc _).kept hgrow5 (ln_apart HN3.out.own HO3.out (by decide))
      have hN5 : LN w (w5.setCell ⟨w.heap.size + 1, 2, none⟩ (.slice ao5 2 cap5)) ((k + 1 : Nat) : Int) v (.slice ao5 2 cap5) k := HN3.out.put2 hb5 hk5
      have hO5 : (w5.setCell ⟨w.heap.size + 1, 2, none⟩ (.slice ao5 2 cap5)).ownsRow (w.heap.size + 2) 70 3 (.slice ao5 2 cap5) (lnH ((k + 1 : Nat) : Int)).length (cellsG hstE (lnH ((k + 1 : Nat) : Int))) := ownsRow_setCell_below hown5 (by simp) _
      have d2 := (hb5.cell (p := ⟨w.heap.size + 1, 2, none⟩) (by simp)).trans e2
      have g2 := (hb5.frozen (p := ⟨w.heap.size + 1, 2, none⟩) (by simp)).trans f2'
      obtain ⟨w6, hw6⟩ : ∃ W, w5.setCell ⟨w.heap.size + 1, 2, none⟩ (.slice ao5 2 cap5) = W := ⟨_, rfl⟩
      rw [hw6] at hN5 hO5
      have HN5 : Hid (LN w w6 ((k + 1 : Nat) : Int) v (.slice ao5 2 cap5) k) := hN5
      have HGH : Hid (∀ a b c, GS hstE (set3 w6 w.heap.size a b c) (.slice ao5 2 cap5) (lnH ((k + 1 : Nat) : Int))) := fun a b c => own_GS (own_set3 hO5 _ (by omega) a b c)
      have HGL : Hid (∀ a b c, GS lnkE (set3 w6 w.heap.size a b c) v (lnTo k)) := fun a b c => own_GS (own_set3 hN5.own _ (by omega) a b c)
      have HW6 : Hid (w5.setCell ⟨w.heap.size + 1, 2, none⟩ (.slice ao5 2 cap5) = w6) := hw6
      obtain ⟨aoL, capL, hvL⟩ := own_form hN5.own
      have HVL : Hid (v = .slice aoL (lnTo k).length capL) := hvL
      clear hb5 hk5 hN5 hO5 hgrow5 hown5 hw6 e2 f2' HN3 HO3 hvL
      go_upto_region 8 with fail
      rw [HW6.out]
      obtain ⟨hB6, r0, r1, r2, rf, c0, c1, c2, _, hlt6, _⟩ := HN5.out
      rw [HVL.out] at c1
      have rf0 := rf 0
      have rf1 := rf 1
      have rf2 := rf 2
      have HB6 : Hid (Below w.heap.size w w6) := hB6
      clear d2 g2 rf hB6 HW6
      go_wp2
      have e0 : k + 1 - 1 = k := by omega
      refine bodyPost_ret (v := .agg #[.int .i64 ((k + 1 : Nat) : Int), .slice aoL (lnTo k).length capL, .slice ao5 2 cap5]) (by simp [results, Try.results9, go_sem, *]) rfl ⟨aoL, _, capL, ao5, 2, cap5, rfl, ?_, ?_, below3 HB6.out _ (Nat.le_refl _) _ _ _⟩
      · rw [e0, ← HVL.out]
        exact HGL.out _ _ _
      · exact HGH.out _ _ _
end Go.Proofs.Ytokkmnednhigmae
/- What raillaw4.ChangeParts answers: true, of any net, ops and cut. -/
namespace Go.Proofs.Ytokkmnednhigmae.changeParts
open Go.RowKit
set_option linter.unusedSimpArgs false
set_option linter.unusedVariables false

theorem line_one (w : World) : Calls Try.prog 9 #[.int .i64 1] w fun e w' => ∃ ao n cap ao2 n2 cap2, e = .returned (.agg #[.int .i64 1, .slice ao n cap, .slice ao2 n2 cap2]) ∧ GS lnkE w' (.slice ao n cap) [] ∧ GS hstE w' (.slice ao2 n2 cap2) (lnH 1) ∧ Below w.heap.size w w' := line_any 1 w (by decide) (by decide)
theorem one_ok : cgN 1 [] (lnH 1) [[]] [⟨1, true, ⟨2, 0, 0, 4, 0, 0⟩⟩] = 0 := by decide +kernel
theorem one_T : caT [[]] [⟨1, true, ⟨2, 0, 0, 4, 0, 0⟩⟩] = [[⟨2, 0, 0, 4, 0, 0⟩]] := by rfl
theorem ts_one {w : World} (t : TypeId) : TS (w.alloc (Obj.cells #[.slice none 0 0] t)) (.slice (some ⟨w.heap.size, 0, none⟩) 1 1) [[]] := by
  refine .inr ⟨w.heap.size, 0, 1, rfl, by simp, by unfold maxLen; omega, fun i hi => ?_⟩
  obtain rfl : i = 0 := by simp at hi; omega
  exact ⟨none, 0, 0, by simp, .inl ⟨_, _, rfl, rfl⟩⟩

set_option maxHeartbeats 8000000 in
set_option maxRecDepth 100000 in
theorem walk (S : Int) (ao : Option Addr) (n cap : Nat) (ao2 : Option Addr) (n2 cap2 : Nat) (ao3 : Option Addr) (n3 cap3 : Nat) (a4 : Option Addr) (n4 c4 : Nat) (cut : Int) (Ls : List ((Int × Int) × (Int × Int))) (Hs : List (ByteArray × (Int × Int))) (Ts : List (List Ru)) (l : List Op8) (w : World)
    (hL : GS lnkE w (.slice ao n cap) Ls) (hH : GS hstE w (.slice ao2 n2 cap2) Hs) (hT : TS w (.slice ao3 n3 cap3) Ts) (hl : GS opE w (.slice a4 n4 c4) l) :
    Calls Try.prog 4 #[.agg #[.int .i64 S, .slice ao n cap, .slice ao2 n2 cap2, .slice ao3 n3 cap3], .slice a4 n4 c4, .int .i64 cut] w fun e w' => e = .returned (.bool true) ∧ Below w.heap.size w w' := by
  obtain ⟨w1, hw1⟩ : ∃ W, W = w.alloc (Obj.cells #[.int .i64 S, .slice ao n cap, .slice ao2 n2 cap2, .slice ao3 n3 cap3] 28) := ⟨_, rfl⟩
  have hb1 : Below w.heap.size w w1 := by rw [hw1]; exact (Below.refl _ _).alloc (Nat.le_refl _) _
  have hbn : BN w1 w.heap.size S (.slice ao n cap) (.slice ao2 n2 cap2) (.slice ao3 n3 cap3) Ls Hs Ts := by rw [hw1]; exact bn_new 28 hL hH hT
  have HBN : Hid (∀ W, Below w1.heap.size w1 W → BN W w.heap.size S (.slice ao n cap) (.slice ao2 n2 cap2) (.slice ao3 n3 cap3) Ls Hs Ts) := fun W h => hbn.later h
  have HOP : Hid (∀ W, Below w1.heap.size w1 W → GS opE W (.slice a4 n4 c4) l) := fun W h => (hl.later hb1).later h
  have HB1 : Hid (Below w.heap.size w w1) := hb1
  have HW1 : Hid (w1 = w.alloc (Obj.cells #[.int .i64 S, .slice ao n cap, .slice ao2 n2 cap2, .slice ao3 n3 cap3] 28)) := hw1
  obtain ⟨_, _, _, e, hn, hn2, hn3, ha⟩ := hl.form
  cases e
  have HN : Hid (l.length = n4) := hn
  have HA : Hid (0 < n4 → ∃ g o, a4 = some ⟨g, o, none⟩ ∧ GAt opE w g o l ∧ c4 ≤ maxLen) := ha
  clear hL hH hT hl hb1 hbn hw1 hn ha
  go_enter Try.func4, Try.ntmps4
  go_wp2_with fail
  rw [← HW1.out]
  refine (line_one w1).mono ?_
  rintro e w2 ⟨b1, k1, d1, b2, k2, d2, rfl, g1, g2, hb2⟩
  have HB2 : Hid (Below w1.heap.size w1 w2) := hb2
  have hx3 : Below w2.heap.size w2 (((w2.alloc (Obj.cells #[.slice none 0 0] 41)).alloc (Obj.cells #[.int .i64 1, .slice b1 k1 d1, .slice b2 k2 d2, .slice (some ⟨w2.heap.size, 0, none⟩) 1 1] 28)).alloc (Obj.cells #[.int .i64 1, .bool true, .int .i64 2, .int .i64 0, .int .i64 0, .int .i64 4, .int .i64 0, .int .i64 0] 39)) := (((Below.refl _ _).alloc (Nat.le_refl _) _).alloc (by simp) _).alloc (by simp; omega) _
  have HX3 : Hid (GS lnkE (((w2.alloc (Obj.cells #[.slice none 0 0] 41)).alloc (Obj.cells #[.int .i64 1, .slice b1 k1 d1, .slice b2 k2 d2, .slice (some ⟨w2.heap.size, 0, none⟩) 1 1] 28)).alloc (Obj.cells #[.int .i64 1, .bool true, .int .i64 2, .int .i64 0, .int .i64 0, .int .i64 4, .int .i64 0, .int .i64 0] 39)) (.slice b1 k1 d1) [] ∧ GS hstE (((w2.alloc (Obj.cells #[.slice none 0 0] 41)).alloc (Obj.cells #[.int .i64 1, .slice b1 k1 d1, .slice b2 k2 d2, .slice (some ⟨w2.heap.size, 0, none⟩) 1 1] 28)).alloc (Obj.cells #[.int .i64 1, .bool true, .int .i64 2, .int .i64 0, .int .i64 0, .int .i64 4, .int .i64 0, .int .i64 0] 39)) (.slice b2 k2 d2) (lnH 1) ∧ TS (((w2.alloc (Obj.cells #[.slice none 0 0] 41)).alloc (Obj.cells #[.int .i64 1, .slice b1 k1 d1, .slice b2 k2 d2, .slice (some ⟨w2.heap.size, 0, none⟩) 1 1] 28)).alloc (Obj.cells #[.int .i64 1, .bool true, .int .i64 2, .int .i64 0, .int .i64 0, .int .i64 4, .int .i64 0, .int .i64 0] 39)) (.slice (some ⟨w2.heap.size, 0, none⟩) 1 1) [[]] ∧ GS opE (((w2.alloc (Obj.cells #[.slice none 0 0] 41)).alloc (Obj.cells #[.int .i64 1, .slice b1 k1 d1, .slice b2 k2 d2, .slice (some ⟨w2.heap.size, 0, none⟩) 1 1] 28)).alloc (Obj.cells #[.int .i64 1, .bool true, .int .i64 2, .int .i64 0, .int .i64 0, .int .i64 4, .int .i64 0, .int .i64 0] 39)) (.slice (some ⟨w2.heap.size + 1 + 1, 0, none⟩) 1 1) [⟨1, true, ⟨2, 0, 0, 4, 0, 0⟩⟩] ∧ Below w2.heap.size w2 (((w2.alloc (Obj.cells #[.slice none 0 0] 41)).alloc (Obj.cells #[.int .i64 1, .slice b1 k1 d1, .slice b2 k2 d2, .slice (some ⟨w2.heap.size, 0, none⟩) 1 1] 28)).alloc (Obj.cells #[.int .i64 1, .bool true, .int .i64 2, .int .i64 0, .int .i64 0, .int .i64 4, .int .i64 0, .int .i64 0] 39))) := by
    refine ⟨g1.later hx3, g2.later hx3, ((ts_one (w := w2) 41).later ((Below.refl _ _).alloc (Nat.le_refl _) _)).later ((Below.refl _ _).alloc (Nat.le_refl _) _), ?_, hx3⟩
    have h := op_row ((w2.alloc (Obj.cells #[.slice none 0 0] 41)).alloc (Obj.cells #[.int .i64 1, .slice b1 k1 d1, .slice b2 k2 d2, .slice (some ⟨w2.heap.size, 0, none⟩) 1 1] 28)) 1 true 2 0 0 4 0 0 39
    simp only [World.size_alloc] at h
    exact h
  clear hb2 g1 g2 hx3
  go_wp2_with fail
  refine (chApply_any 1 b1 k1 d1 b2 k2 d2 (some ⟨w2.heap.size, 0, none⟩) 1 1 (some ⟨w2.heap.size + 1 + 1, 0, none⟩) 1 1 [] (lnH 1) [[]] [⟨1, true, ⟨2, 0, 0, 4, 0, 0⟩⟩] _ HX3.out.1 HX3.out.2.1 HX3.out.2.2.1 HX3.out.2.2.2.1).mono ?_
  rintro e w3 ⟨p1, j1, f1, p2, j2, f2, p3, j3, f3, rfl, g1, g2, g3, hb3⟩
  rw [one_ok] at g1 g2 g3 ⊢
  rw [one_T] at g3
  replace g3 : TS w3 (.slice p3 j3 f3) [[⟨2, 0, 0, 4, 0, 0⟩]] := g3
  have HB3 : Hid (Below w1.heap.size w1 w3) := HB2.out.trans ((HX3.out.2.2.2.2.trans (hb3.mono HX3.out.2.2.2.2.size)).mono HB2.out.size)
  obtain ⟨gt, ot, rfl, hTA⟩ : ∃ g o, p3 = some ⟨g, o, none⟩ ∧ TAt w3 g o [[⟨2, 0, 0, 4, 0, 0⟩]] := by
    obtain ⟨_, _, _, e, h1, h2, h3, h4⟩ := g3.form
    cases e
    obtain ⟨g, o, h5, h6, _⟩ := h4 (by rw [← h1]; simp)
    exact ⟨g, o, h5, h6⟩
  have hj3 : j3 = 1 := by have := g3.len; simpa using this.symm
  subst hj3
  obtain ⟨a8, n8, c8, t0, t1⟩ := hTA 0 (by simp)
  have hn8 : n8 = 1 := by have := t1.len; simpa using this.symm
  subst hn8
  have htl : gt < w3.heap.size := World.block_lt_of_cell? _ _ t0
  simp only [Nat.add_zero] at t0
  rw [no_ok rfl]
  simp only [nvS, if_true]
  clear g1 g2 g3 hb3 HX3 HB2 hTA t1
  obtain ⟨e0, e1, e2, e3⟩ := (HBN.out w3 HB3.out).c
  have hl0 : w.heap.size < w3.heap.size := World.block_lt_of_cell? _ _ e0
  go_wp2_with fail
  have HB4 : Hid (Below w1.heap.size w1 (w3.alloc (Obj.cells #[.int .i64 1, .slice p1 j1 f1, .slice p2 j2 f2, .slice (some ⟨gt, ot, none⟩) 1 f3] 28))) := HB3.out.alloc HB3.out.size _
  refine (chApply_any S ao n cap ao2 n2 cap2 ao3 n3 cap3 a4 n4 c4 Ls Hs Ts l _ (HBN.out _ HB4.out).l (HBN.out _ HB4.out).h (HBN.out _ HB4.out).t (HOP.out _ HB4.out)).mono ?_
  rintro e w4 ⟨p1, j1, f1, p2, j2, f2, p3, j3, f3, rfl, g1, g2, g3, hb4⟩
  obtain ⟨X, hX⟩ : ∃ X, X = cgN S Ls Hs Ts l := ⟨_, rfl⟩
  rw [← hX] at g1 g2 g3 ⊢
  have HX : Hid (X = cgN S Ls Hs Ts l) := hX
  have HB5 : Hid (Below w1.heap.size w1 w4) := HB4.out.trans (hb4.mono HB4.out.size)
  have HG : Hid (GS lnkE w4 (.slice p1 j1 f1) (nvL X Ls) ∧ GS hstE w4 (.slice p2 j2 f2) (nvL X Hs) ∧ TS w4 (.slice p3 j3 f3) (nvL X (caT Ts l))) := ⟨g1, g2, g3⟩
  clear hX hb4 g1 g2 g3 HB3 HB4 t0 htl hl0 e0 e1 e2 e3
  by_cases h0 : X = 0
  · subst h0
    rw [no_ok rfl]
    simp only [nvS, if_true]
    obtain ⟨w5, hw5⟩ : ∃ W, W = w4.alloc (Obj.cells #[.int .i64 S, .slice p1 j1 f1, .slice p2 j2 f2, .slice p3 j3 f3] 28) := ⟨_, rfl⟩
    have hb5 : Below w4.heap.size w4 w5 := by rw [hw5]; exact (Below.refl _ _).alloc (Nat.le_refl _) _
    have HB6 : Hid (Below w1.heap.size w1 w5) := HB5.out.trans (hb5.mono HB5.out.size)
    have hall : BN w5 w4.heap.size S (.slice p1 j1 f1) (.slice p2 j2 f2) (.slice p3 j3 f3) Ls Hs (caT Ts l) := by
      have h := HG.out
      simp only [nvL, if_true] at h
      rw [hw5]
      exact bn_new 28 h.1 h.2.1 h.2.2
    have HALL : Hid (∀ W, Below w5.heap.size w5 W → BN W w4.heap.size S (.slice p1 j1 f1) (.slice p2 j2 f2) (.slice p3 j3 f3) Ls Hs (caT Ts l)) := fun W h => hall.later h
    have HW5 : Hid (w5 = w4.alloc (Obj.cells #[.int .i64 S, .slice p1 j1 f1, .slice p2 j2 f2, .slice p3 j3 f3] 28)) := hw5
    clear hw5 hb5 hall HG
    by_cases hc0 : cut < 0
    · have dc0 : decide (cut < 0) = true := by simpa using hc0
      go_wp2
      go_ret
      exact ⟨rfl, HB1.out.trans ((by rw [← HW5.out]; exact HB6.out.mono HB1.out.size))⟩
    · by_cases hc1 : cut > (n4 : Int)
      · have dc0 : decide (cut < 0) = false := by simpa using hc0
        have dc1 : decide ((n4 : Int) < cut) = true := by simpa using hc1
        go_wp2
        go_ret
        exact ⟨rfl, HB1.out.trans ((by rw [← HW5.out]; exact HB6.out.mono HB1.out.size))⟩
      · obtain ⟨c, rfl⟩ : ∃ c : Nat, cut = (c : Int) := ⟨cut.toNat, by omega⟩
        have hcn : c ≤ n4 := by omega
        have hcc : c ≤ c4 := by omega
        have dc0 : decide ((c : Int) < 0) = false := by simp
        have dc1 : decide ((n4 : Int) < (c : Int)) = false := by simpa using hc1
        have HPA : Hid (cgN S Ls Hs Ts (l.take c) = 0 ∧ cgN S Ls Hs (caT Ts (l.take c)) (l.drop c) = 0 ∧ caT (caT Ts (l.take c)) (l.drop c) = caT Ts l) := by
          have h := HX.out
          have e : l.take c ++ l.drop c = l := List.take_append_drop c l
          have h2 := cg_parts (a := l.take c) (b := l.drop c) (S := S) (Ls := Ls) (Hs := Hs) (Ts := Ts) (by rw [e]; exact h.symm)
          exact ⟨h2.1, h2.2, by rw [← cj_app, e]⟩
        have kc0 : (0 : Int) ≤ (c : Int) := by omega
        have kc1 : (c : Int) ≤ (c4 : Int) := by omega
        have kc2 : (c : Int) ≤ (n4 : Int) := by omega
        have HAP : Hid (∀ W, Below w5.heap.size w5 W → Calls Try.prog 5 #[.agg #[.int .i64 S, .slice ao n cap, .slice ao2 n2 cap2, .slice ao3 n3 cap3], .slice a4 c c4] W fun e w' => ∃ b1 k1 d1 b2 k2 d2 b3 k3 d3, e = .returned (.tuple #[.agg #[.int .i64 S, .slice b1 k1 d1, .slice b2 k2 d2, .slice b3 k3 d3], .nilIface]) ∧ NA w' W.heap.size (.slice b1 k1 d1) (.slice b2 k2 d2) (.slice b3 k3 d3) Ls Hs (caT Ts (l.take c)) ∧ Below W.heap.size W w') := fun W hW => by
          have hx := HB6.out.trans (hW.mono HB6.out.size)
          have h := chApply_own S ao n cap ao2 n2 cap2 ao3 n3 cap3 a4 c c4 Ls Hs Ts (l.take c) W (HBN.out W hx).l (HBN.out W hx).h (HBN.out W hx).t ((HOP.out W hx).take hcn)
          rw [HPA.out.1] at h
          exact h
        have HCB : Hid (∀ W, Below w5.heap.size w5 W → W.cell? ⟨w.heap.size, 0, none⟩ = some (.int .i64 S) ∧ W.cell? ⟨w.heap.size, 1, none⟩ = some (.slice ao n cap) ∧ W.cell? ⟨w.heap.size, 2, none⟩ = some (.slice ao2 n2 cap2) ∧ W.cell? ⟨w.heap.size, 3, none⟩ = some (.slice ao3 n3 cap3)) := fun W hW => (HBN.out W (HB6.out.trans (hW.mono HB6.out.size))).c
        clear hc0 hc1
        go_upto_region 8 with fail
        rw [← HW5.out]
        go_cut [12, 13] from 16 (fun p e w' => e = .nilIface ∧ PN w' p S Ls Hs (caT Ts (l.take c)) ∧ Below w5.heap.size w5 w')
        case first =>
          go_region_held3 (fun W => W.cell? ⟨w.heap.size, 0, none⟩ = some (.int .i64 S) ∧ W.cell? ⟨w.heap.size, 1, none⟩ = some (.slice ao n cap) ∧ W.cell? ⟨w.heap.size, 2, none⟩ = some (.slice ao2 n2 cap2) ∧ W.cell? ⟨w.heap.size, 3, none⟩ = some (.slice ao3 n3 cap3))
            (first | assumption | exact HCB.out _ (Below.drew (Below.refl _ _)) | exact HCB.out _ ((Below.drew (Below.refl _ _)).alloc (Nat.le_refl _) _) | exact HCB.out _ HBX.out | exact HCB.out _ (HBX.out.alloc HBX.out.size _) | exact HCB.out _ (below_put4 HBX.out _ (Nat.le_refl _) _ _ _ _))
            (first | (go_at_call 5; refine (HAP.out _ (by first | exact Below.drew (Below.refl _ _) | exact (Below.drew (Below.refl _ _)).alloc (Nat.le_refl _) _)).mono ?_; rintro e w' ⟨b1, k1, d1, b2, k2, d2, b3, k3, d3, rfl, hG, hb⟩; have HBX : Hid (Below w5.heap.size w5 w') := (by first | exact fdrew hb | exact falloc hb); have HGX : Hid (NA w' _ (.slice b1 k1 d1) (.slice b2 k2 d2) (.slice b3 k3 d3) Ls Hs (caT Ts (l.take c))) := hG; try (have hbc := balloc4 hb; obtain ⟨⟨y0, y1, y2, y3⟩, yf⟩ := hbc; have yf0 := yf 0; have yf1 := yf 1; have yf2 := yf 2; have yf3 := yf 3; clear yf); clear hb hG))
          all_goals (go_wp2_with fail; go_meet)
          all_goals first
            | exact ⟨rfl, pn_new _ HGX.out, HBX.out.alloc HBX.out.size _⟩
            | exact ⟨rfl, pn_put HGX.out (by simp) ⟨y0, y1, y2, y3⟩, below_put4 HBX.out _ (Nat.le_refl _) _ _ _ _⟩
        case rest =>
          obtain ⟨rfl, ⟨ba, b1, k1, d1, b2, k2, d2, b3, k3, d3, rfl, hba⟩, hbw⟩ := hcut
          have HB7 : Hid (Below w1.heap.size w1 wc) := HB6.out.trans (hbw.mono HB6.out.size)
          have HBA : Hid (∀ W, Below wc.heap.size wc W → BN W ba S (.slice b1 k1 d1) (.slice b2 k2 d2) (.slice b3 k3 d3) Ls Hs (caT Ts (l.take c))) := fun W h => hba.later h
          have HAL2 : Hid (∀ W, Below wc.heap.size wc W → BN W w4.heap.size S (.slice p1 j1 f1) (.slice p2 j2 f2) (.slice p3 j3 f3) Ls Hs (caT Ts l)) := fun W h => HALL.out W (hbw.trans (h.mono hbw.size))
          have HCB2 : Hid (∀ W, Below wc.heap.size wc W → W.cell? ⟨ba, 0, none⟩ = some (.int .i64 S) ∧ W.cell? ⟨ba, 1, none⟩ = some (.slice b1 k1 d1) ∧ W.cell? ⟨ba, 2, none⟩ = some (.slice b2 k2 d2) ∧ W.cell? ⟨ba, 3, none⟩ = some (.slice b3 k3 d3)) := fun W hW => (hba.later hW).c
          have HRE : Hid (∀ v, (∃ a' m' d', v = Value.slice a' m' d' ∧ ∀ W, Below wc.heap.size wc W → GS opE W (.slice a' m' d') (l.drop c)) → ∀ W, Below wc.heap.size wc W → Calls Try.prog 5 #[.agg #[.int .i64 S, .slice b1 k1 d1, .slice b2 k2 d2, .slice b3 k3 d3], v] W fun e w' => ∃ b1 k1 d1 b2 k2 d2 b3 k3 d3, e = .returned (.tuple #[.agg #[.int .i64 S, .slice b1 k1 d1, .slice b2 k2 d2, .slice b3 k3 d3], .nilIface]) ∧ NA w' W.heap.size (.slice b1 k1 d1) (.slice b2 k2 d2) (.slice b3 k3 d3) Ls Hs (caT Ts l) ∧ Below W.heap.size W w') := by
            rintro v ⟨a', m', d', rfl, hv⟩ W hW
            have h := chApply_own S b1 k1 d1 b2 k2 d2 b3 k3 d3 a' m' d' Ls Hs (caT Ts (l.take c)) (l.drop c) W (hba.later hW).l (hba.later hW).h (hba.later hW).t (hv W hW)
            rw [HPA.out.2.1] at h
            simp only [nvS, nvL, if_true, HPA.out.2.2] at h
            exact h
          have HOPc : Hid (∀ W, Below wc.heap.size wc W → GS opE W (.slice a4 n4 c4) l) := fun W h => HOP.out W (HB7.out.trans (h.mono HB7.out.size))
          clear hba hbw HBN HOP HALL HCB HAP HB6
          go_upto_region 11 with fail
          go_cut [14, 13] from 16 (fun p e w' => e = .nilIface ∧ PN w' p S Ls Hs (caT Ts l) ∧ Below wc.heap.size wc w')
          case first =>
            rcases Nat.eq_zero_or_pos n4 with hz | hz
            · subst hz
              obtain rfl : c = 0 := by omega
              have hl0 : l = [] := List.length_eq_zero_iff.1 HN.out
              have HV0 : Hid (∀ (a' : Option Addr) (d' : Nat) (W : World), Below wc.heap.size wc W → GS opE W (.slice a' 0 d') (l.drop 0)) := fun a' d' W _ => .inl ⟨_, _, rfl, by rw [hl0]; rfl⟩
              clear hl0
              go_region_held3 (fun W => W.cell? ⟨ba, 0, none⟩ = some (.int .i64 S) ∧ W.cell? ⟨ba, 1, none⟩ = some (.slice b1 k1 d1) ∧ W.cell? ⟨ba, 2, none⟩ = some (.slice b2 k2 d2) ∧ W.cell? ⟨ba, 3, none⟩ = some (.slice b3 k3 d3))
                (first | assumption | exact HCB2.out _ (Below.drew (Below.refl _ _)) | exact HCB2.out _ ((Below.drew (Below.refl _ _)).alloc (Nat.le_refl _) _) | exact HCB2.out _ HBX.out | exact HCB2.out _ (HBX.out.alloc HBX.out.size _) | exact HCB2.out _ (below_put4 HBX.out _ (Nat.le_refl _) _ _ _ _))
                (first | (go_at_call 5; refine (HRE.out _ ⟨_, _, _, rfl, HV0.out _ _⟩ _ (by first | exact Below.drew (Below.refl _ _) | exact (Below.drew (Below.refl _ _)).alloc (Nat.le_refl _) _)).mono ?_; rintro e w' ⟨b1, k1, d1, b2, k2, d2, b3, k3, d3, rfl, hG, hb⟩; have HBX : Hid (Below wc.heap.size wc w') := (by first | exact fdrew hb | exact falloc hb); have HGX : Hid (NA w' _ (.slice b1 k1 d1) (.slice b2 k2 d2) (.slice b3 k3 d3) Ls Hs (caT Ts l)) := hG; try (have hbc := balloc4 hb; obtain ⟨⟨y0, y1, y2, y3⟩, yf⟩ := hbc; have yf0 := yf 0; have yf1 := yf 1; have yf2 := yf 2; have yf3 := yf 3; clear yf); clear hb hG))
              all_goals (go_wp2_with fail; go_meet)
              all_goals first
                | exact ⟨rfl, pn_new _ HGX.out, HBX.out.alloc HBX.out.size _⟩
                | exact ⟨rfl, pn_put HGX.out (by simp) ⟨y0, y1, y2, y3⟩, below_put4 HBX.out _ (Nat.le_refl _) _ _ _ _⟩
            · obtain ⟨gl, ol, hao, hc, hc4⟩ := HA.out hz
              subst hao
              by_cases hcc4 : c4 = c
              · have HV : Hid (∀ (W : World), Below wc.heap.size wc W → GS opE W (.slice (some ⟨gl, ol, none⟩) 0 0) (l.drop c)) := fun W _ => .inl ⟨_, _, rfl, List.drop_eq_nil_of_le (by rw [HN.out]; omega)⟩
                subst hcc4
                obtain rfl : n4 = c4 := by omega
                go_region_held3 (fun W => W.cell? ⟨ba, 0, none⟩ = some (.int .i64 S) ∧ W.cell? ⟨ba, 1, none⟩ = some (.slice b1 k1 d1) ∧ W.cell? ⟨ba, 2, none⟩ = some (.slice b2 k2 d2) ∧ W.cell? ⟨ba, 3, none⟩ = some (.slice b3 k3 d3))
                  (first | assumption | exact HCB2.out _ (Below.drew (Below.refl _ _)) | exact HCB2.out _ ((Below.drew (Below.refl _ _)).alloc (Nat.le_refl _) _) | exact HCB2.out _ HBX.out | exact HCB2.out _ (HBX.out.alloc HBX.out.size _) | exact HCB2.out _ (below_put4 HBX.out _ (Nat.le_refl _) _ _ _ _))
                  (first | (go_at_call 5; refine (HRE.out _ ⟨_, _, _, rfl, HV.out⟩ _ (by first | exact Below.drew (Below.refl _ _) | exact (Below.drew (Below.refl _ _)).alloc (Nat.le_refl _) _)).mono ?_; rintro e w' ⟨b1, k1, d1, b2, k2, d2, b3, k3, d3, rfl, hG, hb⟩; have HBX : Hid (Below wc.heap.size wc w') := (by first | exact fdrew hb | exact falloc hb); have HGX : Hid (NA w' _ (.slice b1 k1 d1) (.slice b2 k2 d2) (.slice b3 k3 d3) Ls Hs (caT Ts l)) := hG; try (have hbc := balloc4 hb; obtain ⟨⟨y0, y1, y2, y3⟩, yf⟩ := hbc; have yf0 := yf 0; have yf1 := yf 1; have yf2 := yf 2; have yf3 := yf 3; clear yf); clear hb hG))
                all_goals (go_wp2_with fail; go_meet)
                all_goals first
                  | exact ⟨rfl, pn_new _ HGX.out, HBX.out.alloc HBX.out.size _⟩
                  | exact ⟨rfl, pn_put HGX.out (by simp) ⟨y0, y1, y2, y3⟩, below_put4 HBX.out _ (Nat.le_refl _) _ _ _ _⟩
              · have HV : Hid (∀ (W : World), Below wc.heap.size wc W → GS opE W (.slice (some ⟨gl, ol + c * 8, none⟩) (n4 - c) (c4 - c)) (l.drop c)) := fun W h => (HOPc.out W h).drop hcn
                go_region_held3 (fun W => W.cell? ⟨ba, 0, none⟩ = some (.int .i64 S) ∧ W.cell? ⟨ba, 1, none⟩ = some (.slice b1 k1 d1) ∧ W.cell? ⟨ba, 2, none⟩ = some (.slice b2 k2 d2) ∧ W.cell? ⟨ba, 3, none⟩ = some (.slice b3 k3 d3))
                  (first | assumption | exact HCB2.out _ (Below.drew (Below.refl _ _)) | exact HCB2.out _ ((Below.drew (Below.refl _ _)).alloc (Nat.le_refl _) _) | exact HCB2.out _ HBX.out | exact HCB2.out _ (HBX.out.alloc HBX.out.size _) | exact HCB2.out _ (below_put4 HBX.out _ (Nat.le_refl _) _ _ _ _))
                  (first | (go_at_call 5; refine (HRE.out _ ⟨_, _, _, rfl, HV.out⟩ _ (by first | exact Below.drew (Below.refl _ _) | exact (Below.drew (Below.refl _ _)).alloc (Nat.le_refl _) _)).mono ?_; rintro e w' ⟨b1, k1, d1, b2, k2, d2, b3, k3, d3, rfl, hG, hb⟩; have HBX : Hid (Below wc.heap.size wc w') := (by first | exact fdrew hb | exact falloc hb); have HGX : Hid (NA w' _ (.slice b1 k1 d1) (.slice b2 k2 d2) (.slice b3 k3 d3) Ls Hs (caT Ts l)) := hG; try (have hbc := balloc4 hb; obtain ⟨⟨y0, y1, y2, y3⟩, yf⟩ := hbc; have yf0 := yf 0; have yf1 := yf 1; have yf2 := yf 2; have yf3 := yf 3; clear yf); clear hb hG))
                all_goals (go_wp2_with fail; go_meet)
                all_goals first
                  | exact ⟨rfl, pn_new _ HGX.out, HBX.out.alloc HBX.out.size _⟩
                  | exact ⟨rfl, pn_put HGX.out (by simp) ⟨y0, y1, y2, y3⟩, below_put4 HBX.out _ (Nat.le_refl _) _ _ _ _⟩
          case rest =>
            obtain ⟨rfl, ⟨bb, e1, m1, r1, e2, m2, r2, e3, m3, r3, rfl, hbb⟩, hbw⟩ := hcut
            have HB8 : Hid (Below w1.heap.size w1 wc) := HB7.out.trans (hbw.mono HB7.out.size)
            have hal := HAL2.out wc hbw
            obtain ⟨u0, u1, u2, u3⟩ := hbb.c
            obtain ⟨v0, v1, v2, v3⟩ := hal.c
            have HBB : Hid (BN wc bb S (.slice e1 m1 r1) (.slice e2 m2 r2) (.slice e3 m3 r3) Ls Hs (caT Ts l)) := hbb
            have HAL : Hid (BN wc w4.heap.size S (.slice p1 j1 f1) (.slice p2 j2 f2) (.slice p3 j3 f3) Ls Hs (caT Ts l)) := hal
            clear hbw HAL2 HBA HCB2 HRE HOPc hbb hal
            go_wp2_with fail
            refine (smNet_any S e1 m1 r1 e2 m2 r2 e3 m3 r3 p1 j1 f1 p2 j2 f2 p3 j3 f3 Ls Hs (caT Ts l) wc HBB.out.l HBB.out.h HBB.out.t HAL.out.l HAL.out.h HAL.out.t).mono ?_
            rintro e w6 ⟨rfl, hb6⟩
            have HB9 : Hid (Below w1.heap.size w1 w6) := HB8.out.trans (hb6.mono HB8.out.size)
            clear hb6 u0 u1 u2 u3 v0 v1 v2 v3
            go_wp2
            go_ret
            exact ⟨rfl, HB1.out.trans (HB9.out.mono HB1.out.size)⟩
  · have HNZ : Hid (X ≠ 0) := h0
    rw [no_ne h0]
    clear h0
    go_wp2
    go_ret
    exact ⟨rfl, HB1.out.trans ((HB5.out.alloc HB5.out.size _).mono HB1.out.size)⟩
end Go.Proofs.Ytokkmnednhigmae.changeParts
/- A net that came in: its topology, its tables. -/
namespace Go.Proofs.Ytokkmnednhigmae
open Go.ChangeShapes Go.WideShapes Go.ChangeAt Go.RowKit Go.Joins
set_option linter.unusedSimpArgs false
set_option linter.unusedVariables false
set_option maxRecDepth 100000

theorem gs_SR {w : World} {v : Value} {L : List Ru} (h : GS rlE w v L) : SR w v L := by
  rcases h with h | ⟨g, o, cap, h1, h2, h3, h4⟩
  · exact .inl h
  · refine .inr ⟨g, o, cap, h1, h2, h3, fun i hi => ?_⟩
    have hv := h4 i hi
    generalize L[i] = r at hv
    obtain ⟨p, m, b, q, s, x⟩ := r
    obtain ⟨q0, q1, q2, q3, q4, q5⟩ := rl_cells hv
    exact ⟨q0, q1, q2, q3, q4, q5⟩
set_option maxRecDepth 100000 in
theorem table_open {H : Type} {enc : TypeId × Value → H} {W : World} {fuel : Nat} {cs : List Value} {x : DataW H × List MemPlace}
    (h : DataW.trod enc Try.prog W 0 (fun _ => true) true fuel 41 cs = some x) : ∃ ao n cap L, cs = [.slice ao n cap] ∧ SR W (.slice ao n cap) L := by
  obtain ⟨ao, n, cap, L, e, hL⟩ := gs_open (E := rlE) 41 37 Try.underlying41 (by kernel_rfl) zeR (fun _ _ _ h => rl_open h) h
  exact ⟨ao, n, cap, L, e, gs_SR hL⟩
set_option maxRecDepth 100000 in
theorem tables_open {H : Type} {enc : TypeId × Value → H} {W : World} {fuel : Nat} {cs : List Value} {x : DataW H × List MemPlace}
    (hf2 : DataW.trod enc Try.prog W 0 (fun _ => true) true fuel 26 cs = some x) : ∃ ao n cap Ts, cs = [.slice ao n cap] ∧ TS W (.slice ao n cap) Ts := by
  obtain ⟨d, p⟩ := x
  have hC : Try.prog.cellsOf 41 = 1 := by kernel_rfl
  rcases Go.Deep.open_slice Try.underlying26 hf2 with ⟨hc, hx⟩ | ⟨a, len0, cap, m, k, D, Pl, hc, _, hl, hm, hmm, hx, hall⟩
  · exact ⟨_, _, _, [], hc, .inl ⟨none, 0, rfl, rfl⟩⟩
  · simp only [if_true] at hmm
    subst hmm
    rcases Nat.eq_zero_or_pos len0 with h0 | h0
    · subst h0
      exact ⟨_, _, _, [], hc, .inl ⟨_, _, rfl, rfl⟩⟩
    · have each : ∀ i, i < m → ∃ L : List Ru, ∃ ao n cap, W.cell? (a.add i) = some (.slice ao n cap) ∧ SR W (.slice ao n cap) L := by
        intro i hi
        obtain ⟨cs, h1, h2⟩ := hall i hi
        rw [hC] at h1
        obtain ⟨_, hlen, hcell⟩ := World.cells?_some h1
        obtain ⟨ao, n, cap, L, rfl, hL⟩ := table_open h2
        refine ⟨L, ao, n, cap, ?_, hL⟩
        have := hcell 0 (by simp)
        rw [Go.Deep.add_add] at this
        simpa using this
      obtain ⟨R, hR⟩ := Go.Deep.choose_lt each
      obtain ⟨sb, so, spot⟩ := a
      have hspot : spot = none := by
        obtain ⟨ao, n, cap, h1, _⟩ := hR 0 (by omega)
        simpa [Addr.add] using World.cell?_spot h1
      subst hspot
      have hadd : ∀ j, (⟨sb, so, none⟩ : Addr).add j = ⟨sb, so + j, none⟩ := by
        intro j
        simp only [Addr.add]
        first
          | rfl
          | (split
             · next h0 => rw [h0]; rfl
             · rfl)
      refine ⟨_, _, _, (List.range len0).map R, hc, .inr ⟨sb, so, _, by simp, by simpa using hl, hm, fun i hi => ?_⟩⟩
      have hi2 : i < len0 := by simpa using hi
      have e : ((List.range len0).map R)[i] = R i := by simp
      rw [e]
      obtain ⟨ao, n, cap, h1, h2⟩ := hR i (by omega)
      rw [hadd] at h1
      exact ⟨ao, n, cap, h1, h2⟩
set_option maxRecDepth 100000 in
/-- One that came in. -/
theorem net_open {H : Type} {enc : TypeId × Value → H} {W : World} {n : Nat} {cs : List Value} {x : DataW H × List MemPlace}
    (h : DataW.trod enc Try.prog W 0 (fun _ => true) true n 28 cs = some x) : ∃ S ao n cap ao2 n2 cap2 ao3 n3 cap3 Ls Hs Ts, cs = [.int .i64 S, .slice ao n cap, .slice ao2 n2 cap2, .slice ao3 n3 cap3] ∧ GS lnkE W (.slice ao n cap) Ls ∧ GS hstE W (.slice ao2 n2 cap2) Hs ∧ TS W (.slice ao3 n3 cap3) Ts := by
  obtain ⟨xs, k, _, _, hl, hlen, hf⟩ := DataW.trod_struct Try.underlying28 h
  have hC : Try.prog.cellsOf 28 = 4 := by kernel_rfl
  have hT0 : Try.prog.cellsOf 25 = 3 := by kernel_rfl
  have hT1 : Try.prog.cellsOf 26 = 1 := by kernel_rfl
  rw [hC] at hl
  match cs, hl with
  | [c0, c1, c2, c3], _ =>
    match xs, hlen with
    | [z0, z1], _ =>
      have g0 := hf 0 _ rfl
      have g1 := hf 1 _ rfl
      simp [hT0, hT1] at g0 g1
      obtain ⟨S, ao, n, cap, ao2, n2, cap2, Ls, Hs, e0, hL, hH⟩ := topo_open g0
      obtain ⟨ao3, n3, cap3, Ts, e1, hT⟩ := tables_open g1
      simp at e0 e1
      exact ⟨S, ao, n, cap, ao2, n2, cap2, ao3, n3, cap3, Ls, Hs, Ts, by simp [e0, e1], hL, hH, hT⟩
theorem net_of {H : Type} {enc : TypeId × Value → H} {W : World} {base : Nat} {v : Value} {d : DataW H} {p : List MemPlace}
    (hv : Value.okWide Try.prog W .any base 28 v) (h : DataW.Trod enc Try.prog W 0 (fun _ => true) true 28 v d p) : ∃ S ao n cap ao2 n2 cap2 ao3 n3 cap3 Ls Hs Ts, v = .agg #[.int .i64 S, .slice ao n cap, .slice ao2 n2 cap2, .slice ao3 n3 cap3] ∧ GS lnkE W (.slice ao n cap) Ls ∧ GS hstE W (.slice ao2 n2 cap2) Hs ∧ TS W (.slice ao3 n3 cap3) Ts := by
  obtain ⟨cs, rfl, hsz⟩ := okWide_struct Try.underlying28 hv
  obtain ⟨n, hn⟩ := h
  obtain ⟨S, ao, n, cap, ao2, n2, cap2, ao3, n3, cap3, Ls, Hs, Ts, e, h1, h2, h3⟩ := net_open hn
  refine ⟨S, ao, n, cap, ao2, n2, cap2, ao3, n3, cap3, Ls, Hs, Ts, ?_, h1, h2, h3⟩
  simp only [Value.cells] at e
  rw [← Array.toArray_toList (xs := cs), e]
end Go.Proofs.Ytokkmnednhigmae
