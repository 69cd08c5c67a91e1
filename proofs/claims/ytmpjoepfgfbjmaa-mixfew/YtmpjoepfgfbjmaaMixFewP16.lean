/- Contracts and facts on the way to MixFew, joined into one text: TopoLine1, NetOf, MixFew. -/
import Derived.Test.YtmpjoepfgfbjmaaMixFewP3
import Derived.Test.YtmpjoepfgfbjmaaMixFewP15
import Derived.Test.YtmpjoepfgfbjmaaMixFewP4
import Derived.Test.YtmpjoepfgfbjmaaMixFewP6
import Derived.Test.YtmpjoepfgfbjmaaMixFewP5
import Derived.Test.YtmpjoepfgfbjmaaMixFewP8
/- What raillaw4.line answers: a contract for the walks above it. -/
namespace Go.Proofs.Ytmpjoepfgfbjmaa
open Go.RowKit
set_option linter.unusedSimpArgs false
set_option linter.unusedVariables false

/-- What holds all along: the answer's block, the topology's box, the links. -/
structure LN (w W : World) (n : Int) (v u : Value) (k : Nat) : Prop where
  below : Below w.heap.size w W
  r0 : W.cell? ⟨w.heap.size, 0, none⟩ = some (.int .i64 0)
  r1 : W.cell? ⟨w.heap.size, 1, none⟩ = some (.slice none 0 0)
  r2 : W.cell? ⟨w.heap.size, 2, none⟩ = some (.slice none 0 0)
  rf : ∀ i, W.frozen? ⟨w.heap.size, i, none⟩ = false
  c0 : W.cell? ⟨w.heap.size + 1, 0, none⟩ = some (.int .i64 n)
  c1 : W.cell? ⟨w.heap.size + 1, 1, none⟩ = some v
  c2 : W.cell? ⟨w.heap.size + 1, 2, none⟩ = some u
  cf : ∀ i, W.frozen? ⟨w.heap.size + 1, i, none⟩ = false
  lt : w.heap.size + 2 ≤ W.heap.size
  own : W.ownsRow (w.heap.size + 2) 58 4 v (lnTo k).length (cellsG lnkE (lnTo k))
theorem LN.low {w W W' : World} {n : Int} {v u : Value} {k : Nat} (h : LN w W n v u k) (hb : Below (w.heap.size + 2) W W') {v' : Value} {k' : Nat} (hv : v' = v) (ho : W'.ownsRow (w.heap.size + 2) 58 4 v' (lnTo k').length (cellsG lnkE (lnTo k'))) : LN w W' n v u k' := by
  subst hv
  have hc : ∀ (g i : Nat) (x : Value), g < w.heap.size + 2 → W.cell? ⟨g, i, none⟩ = some x → W'.cell? ⟨g, i, none⟩ = some x := fun g i x hg e => (hb.cell (p := ⟨g, i, none⟩) hg).trans e
  have hf : ∀ (g i : Nat), g < w.heap.size + 2 → W.frozen? ⟨g, i, none⟩ = false → W'.frozen? ⟨g, i, none⟩ = false := fun g i hg e => (hb.frozen (p := ⟨g, i, none⟩) hg).trans e
  exact ⟨h.below.trans (hb.mono (by omega)), hc _ _ _ (by omega) h.r0, hc _ _ _ (by omega) h.r1, hc _ _ _ (by omega) h.r2, fun i => hf _ _ (by omega) (h.rf i), hc _ _ _ (by omega) h.c0, hc _ _ _ (by omega) h.c1, hc _ _ _ (by omega) h.c2, fun i => hf _ _ (by omega) (h.cf i), Nat.le_trans h.lt hb.size, ho⟩
theorem LN.put1 {w W W2 : World} {n : Int} {v u v' : Value} {k : Nat} (h : LN w W n v u k) (hb : Below (w.heap.size + 2) W W2) (ho : W2.ownsRow (w.heap.size + 2) 58 4 v' (lnTo (k + 1)).length (cellsG lnkE (lnTo (k + 1)))) : LN w (W2.setCell ⟨w.heap.size + 1, 1, none⟩ v') n v' u (k + 1) := by
  have hc : ∀ (g i : Nat) (x : Value), g < w.heap.size + 2 → ¬ (g = w.heap.size + 1 ∧ i = 1) → W.cell? ⟨g, i, none⟩ = some x → (W2.setCell ⟨w.heap.size + 1, 1, none⟩ v').cell? ⟨g, i, none⟩ = some x := fun g i x hg hn e => by
    rw [World.cell?_setCell_other _ _ _ _ (fun e2 => by simp only [Addr.mk.injEq, and_true] at e2; exact hn ⟨e2.1.symm, e2.2.symm⟩)]
    exact (hb.cell (p := ⟨g, i, none⟩) hg).trans e
  have hf : ∀ (g i : Nat), g < w.heap.size + 2 → W.frozen? ⟨g, i, none⟩ = false → (W2.setCell ⟨w.heap.size + 1, 1, none⟩ v').frozen? ⟨g, i, none⟩ = false := fun g i hg e => by
    have h2 := (hb.frozen (p := ⟨g, i, none⟩) hg).trans e
    simpa using h2
  have h1 := (hb.cell (p := ⟨w.heap.size + 1, 1, none⟩) (by simp)).trans h.c1
  exact ⟨(h.below.trans (hb.mono (by omega))).setCell (p := ⟨w.heap.size + 1, 1, none⟩) (by simp) _, hc _ _ _ (by omega) (by omega) h.r0, hc _ _ _ (by omega) (by omega) h.r1, hc _ _ _ (by omega) (by omega) h.r2, fun i => hf _ _ (by omega) (h.rf i), hc _ _ _ (by omega) (by omega) h.c0, World.cell?_setCell_same _ _ _ h1, hc _ _ _ (by omega) (by omega) h.c2, fun i => hf _ _ (by omega) (h.cf i), by
    have := h.lt
    have h3 := hb.size
    simp
    omega, ownsRow_setCell_below ho (by simp) _⟩
theorem LN.put2 {w W W2 : World} {n : Int} {v u u' : Value} {k : Nat} (h : LN w W n v u k) (hb : Below (w.heap.size + 2) W W2) (ho : W2.ownsRow (w.heap.size + 2) 58 4 v (lnTo k).length (cellsG lnkE (lnTo k))) : LN w (W2.setCell ⟨w.heap.size + 1, 2, none⟩ u') n v u' k := by
  have hc : ∀ (g i : Nat) (x : Value), g < w.heap.size + 2 → ¬ (g = w.heap.size + 1 ∧ i = 2) → W.cell? ⟨g, i, none⟩ = some x → (W2.setCell ⟨w.heap.size + 1, 2, none⟩ u').cell? ⟨g, i, none⟩ = some x := fun g i x hg hn e => by
    rw [World.cell?_setCell_other _ _ _ _ (fun e2 => by simp only [Addr.mk.injEq, and_true] at e2; exact hn ⟨e2.1.symm, e2.2.symm⟩)]
    exact (hb.cell (p := ⟨g, i, none⟩) hg).trans e
  have hf : ∀ (g i : Nat), g < w.heap.size + 2 → W.frozen? ⟨g, i, none⟩ = false → (W2.setCell ⟨w.heap.size + 1, 2, none⟩ u').frozen? ⟨g, i, none⟩ = false := fun g i hg e => by
    have h2 := (hb.frozen (p := ⟨g, i, none⟩) hg).trans e
    simpa using h2
  have h1 := (hb.cell (p := ⟨w.heap.size + 1, 2, none⟩) (by simp)).trans h.c2
  exact ⟨(h.below.trans (hb.mono (by omega))).setCell (p := ⟨w.heap.size + 1, 2, none⟩) (by simp) _, hc _ _ _ (by omega) (by omega) h.r0, hc _ _ _ (by omega) (by omega) h.r1, hc _ _ _ (by omega) (by omega) h.r2, fun i => hf _ _ (by omega) (h.rf i), hc _ _ _ (by omega) (by omega) h.c0, hc _ _ _ (by omega) (by omega) h.c1, World.cell?_setCell_same _ _ _ h1, fun i => hf _ _ (by omega) (h.cf i), by
    have := h.lt
    have h3 := hb.size
    simp
    omega, ownsRow_setCell_below ho (by simp) _⟩
theorem ln_start (w : World) (n : Int) (w0 : World) (hw : (w.alloc (Obj.cells #[.int .i64 0, .slice none 0 0, .slice none 0 0] 25)).alloc (Obj.cells #[.int .i64 n, .slice none 0 0, .slice none 0 0] 25) = w0) : LN w w0 n (.slice none 0 0) (.slice none 0 0) 0 := by
  subst hw
  have e1 : (w.alloc (Obj.cells #[.int .i64 0, .slice none 0 0, .slice none 0 0] 25)).heap.size = w.heap.size + 1 := by simp
  have hb : ∀ (W : World) (o : Obj), Below W.heap.size W (W.alloc o) := fun W o => (Below.refl _ _).alloc (Nat.le_refl _) _
  have hr := (vat_new w [.int .i64 0, .slice none 0 0, .slice none 0 0] 25).later (hb _ (Obj.cells #[.int .i64 n, .slice none 0 0, .slice none 0 0] 25))
  have hs := vat_new (w.alloc (Obj.cells #[.int .i64 0, .slice none 0 0, .slice none 0 0] 25)) [.int .i64 n, .slice none 0 0, .slice none 0 0] 25
  have hg : ∀ (W : World) (cs : Array Value) (t : TypeId) (i : Nat), (W.alloc (.cells cs t)).frozen? ⟨W.heap.size, i, none⟩ = false := fun W cs t i => by simp
  have hf2 := hg (w.alloc (Obj.cells #[.int .i64 0, .slice none 0 0, .slice none 0 0] 25)) #[.int .i64 n, .slice none 0 0, .slice none 0 0] 25
  rw [e1] at hs hf2
  refine ⟨((Below.refl _ _).alloc (Nat.le_refl _) _).alloc (by rw [e1]; omega) _, hr 0 _ rfl, hr 1 _ rfl, hr 2 _ rfl, fun i => ?_, hs 0 _ rfl, hs 1 _ rfl, hs 2 _ rfl, hf2, by simp, World.ownsRow_nil _ _ _ _⟩
  exact ((hb _ _).frozen (p := ⟨w.heap.size, i, none⟩) (by simp)).trans (hg w _ _ i)

theorem ln_apart {w : World} {b1 e1 s1 n1 b2 e2 s2 n2 : Nat} {v1 v2 : Value} {x1 x2 : List Value} (h1 : w.ownsRow b1 e1 s1 v1 n1 x1) (h2 : w.ownsRow b2 e2 s2 v2 n2 x2) (he : e1 ≠ e2) : v1.ownBlock = none ∨ v1.ownBlock ≠ v2.ownBlock := by
  rcases h1.2 with ⟨rfl, _⟩ | ⟨g, cap, cur, rfl, _, hg, _⟩
  · exact .inl rfl
  · refine .inr ?_
    rcases h2.2 with ⟨rfl, _⟩ | ⟨g2, cap2, cur2, rfl, _, hg2, _⟩
    · exact fun h => by cases h
    · intro h
      simp only [Value.ownBlock, Option.some.injEq] at h
      subst h
      rw [hg] at hg2
      simp only [Option.some.injEq, Obj.cells.injEq] at hg2
      exact he hg2.2.1
/-- Three cells of one block are set. -/
def set3 (W : World) (g : Nat) (u v x : Value) : World := ((W.setCell ⟨g, 0, none⟩ u).setCell ⟨g, 1, none⟩ v).setCell ⟨g, 2, none⟩ x
theorem below3 {w W : World} (h : Below w.heap.size w W) (g : Nat) (hg : w.heap.size ≤ g) (u v x : Value) : Below w.heap.size w (set3 W g u v x) := ((h.setCell (p := ⟨g, 0, none⟩) hg u).setCell (p := ⟨g, 1, none⟩) hg v).setCell (p := ⟨g, 2, none⟩) hg x
theorem own_set3 {W : World} {B e size n : Nat} {v : Value} {xs : List Value} (h : W.ownsRow B e size v n xs) (g : Nat) (hg : g < B) (a b c : Value) : (set3 W g a b c).ownsRow B e size v n xs := ownsRow_setCell_below (ownsRow_setCell_below (ownsRow_setCell_below h hg _) hg _) hg _

set_option maxHeartbeats 2000000 in
set_option maxRecDepth 100000 in
theorem line_any (N : Nat) (w : World) (h1 : 1 ≤ N) (h7 : N ≤ 7) :
    Calls Try.prog 4 #[.int .i64 (N : Int)] w fun e w' => ∃ ao n cap ao2 n2 cap2, e = .returned (.agg #[.int .i64 (N : Int), .slice ao n cap, .slice ao2 n2 cap2]) ∧ GS lnkE w' (.slice ao n cap) (lnTo (N - 1)) ∧ GS hstE w' (.slice ao2 n2 cap2) (lnH (N : Int)) ∧ Below w.heap.size w w' := by
  obtain ⟨i0, hi, hz0, hz1, hz2⟩ := info_parts lnk_info
  obtain ⟨j0, hj, hy0, hy1, hy2⟩ := info_parts hst_info
  obtain ⟨wa, hwa⟩ : ∃ W, w.alloc (Obj.cells #[.int .i64 0, .slice none 0 0, .slice none 0 0] 25) = W := ⟨_, rfl⟩
  obtain ⟨w0, hw0⟩ : ∃ W, wa.alloc (Obj.cells #[.int .i64 (N : Int), .slice none 0 0, .slice none 0 0] 25) = W := ⟨_, rfl⟩
  have HS : Hid (LN w w0 (N : Int) (.slice none 0 0) (.slice none 0 0) 0) := ln_start w _ w0 (by rw [hwa]; exact hw0)
  have HSZ : Hid (wa.heap.size = w.heap.size + 1) := by
    show _ = _
    rw [← hwa]
    simp
  have HW0 : Hid (wa.alloc (Obj.cells #[.int .i64 (N : Int), .slice none 0 0, .slice none 0 0] 25) = w0) := hw0
  clear hw0
  go_enter Try.func4, Try.ntmps4
  go_wp2
  rw [HW0.out, HSZ.out]
  go_loopw [4] (fun i wr => ∃ (k : Nat) (v : Value), k + 1 ≤ N ∧ i = .int .i64 ((k : Int) + 1) ∧ LN w wr (N : Int) v (.slice none 0 0) k) (fun i _ => N - (intOf i).toNat)
  case atStart => exact ⟨0, _, h1, rfl, HS.out⟩
  case round =>
    obtain ⟨k, v, hk, rfl, hL⟩ := hrel
    have HL : Hid (LN w wr (N : Int) v (.slice none 0 0) k) := hL
    obtain ⟨_, r0, r1, r2, rf, c0, c1, c2, cf, hlt, hown⟩ := hL
    have f1 := cf 1
    have f2 := cf 2
    clear HS HW0 hwa
    by_cases hlt2 : k + 1 < N
    · have hl : (k : Int) + 1 < (N : Int) := by omega
      have hw2 : IntKind.i64.wrap ((k : Int) + 1 + 1) = (k : Int) + 1 + 1 := wrap_small (by omega) (by omega)
      have hlen := ln_len k
      have HOWN : Hid (wr.ownsRow (w.heap.size + 2) 58 4 v (lnTo k).length (cellsG lnkE (lnTo k))) := hown
      clear hown rf cf
      go_wp2_with (at_builtin; refine wpList_append_own _ rfl _ _ 22 rfl (w.heap.size + 2) 58 i0 (.agg #[.int .i64 0, .int .i64 0, .int .i64 0, .int .i64 0]) 4 32 Try.underlying22 hi hz0 hz1 hz2 lnk_zero (by decide) _ _ _ rfl (HOWN.out.alloc _) ⟨wr.heap.size, 0, none⟩ 1 1 [.int .i64 ((k : Int) + 1), .int .i64 2, .int .i64 ((k : Int) + 1 + 1), .int .i64 1] rfl rfl ?c1 ?c2 ?c3 ?c4 ?c5 ?_)
      case c1 =>
        intro j u hj
        match j, hj with
        | 0, hj => simp at hj; subst hj; simp [Addr.add]
        | 1, hj => simp at hj; subst hj; simp [Addr.add]
        | 2, hj => simp at hj; subst hj; simp [Addr.add]
        | 3, hj => simp at hj; subst hj; simp [Addr.add]
      case c2 => intro u hu; simp at hu; rcases hu with rfl | rfl | rfl | rfl <;> rfl
      case c3 => unfold maxLen; omega
      case c4 => omega
      case c5 => simp; omega
      intro v' w3 hown3 hgrow _
      obtain ⟨ao3, cap3, rfl⟩ := own_form hown3
      have hb3 : Below (w.heap.size + 2) wr w3 := ((Below.refl _ wr).alloc (by omega) _).grown hgrow (by simp; omega) (fun g hg => (HOWN.out.lt g hg).1)
      have HN : Hid (LN w (w3.setCell ⟨w.heap.size + 1, 1, none⟩ (.slice ao3 (k + 1) cap3)) (N : Int) (.slice ao3 (k + 1) cap3) (.slice none 0 0) (k + 1)) := by
        refine HL.out.put1 hb3 ?_
        have e : lnTo (k + 1) = lnTo k ++ [(((k : Int) + 1, 2), ((k : Int) + 1 + 1, 1))] := rfl
        rw [ln_len, e, cellsG_app, cellsG_one]
        have h3 := hown3
        try rw [ln_len] at h3
        exact h3
      have d1 := (hb3.cell (p := ⟨w.heap.size + 1, 1, none⟩) (by simp)).trans c1
      have d0 := (hb3.cell (p := ⟨w.heap.size + 1, 0, none⟩) (by simp)).trans c0
      have g1 := (hb3.frozen (p := ⟨w.heap.size + 1, 1, none⟩) (by simp)).trans f1
      clear hb3 hgrow hown3
      go_wp2
      go_roundw
      case rel => exact ⟨k + 1, _, by omega, by go_num, HN.out⟩
      case measure => simp [intOf]; omega
    · obtain rfl : N = k + 1 := by omega
      have hl : ¬ ((k : Int) + 1 < ((k + 1 : Nat) : Int)) := by omega
      have HOWN : Hid (wr.ownsRow (w.heap.size + 2) 58 4 v (lnTo k).length (cellsG lnkE (lnTo k))) := hown
      clear hown rf cf
      go_wp2_with (at_builtin; refine wpList_append_own _ rfl _ _ 23 rfl (w.heap.size + 2) 47 j0 (.agg #[.string ByteArray.empty, .int .i64 0, .int .i64 0]) 3 32 Try.underlying23 hj hy0 hy1 hy2 hst_zero (by decide) _ _ _ rfl (World.ownsRow_nil _ _ _ _) ⟨wr.heap.size, 0, none⟩ 1 1 [.string ⟨#[97]⟩, .int .i64 1, .int .i64 3] rfl rfl ?c1 ?c2 ?c3 ?c4 ?c5 ?_)
      case c2 => first | exact ⟨rfl, rfl, rfl⟩ | (intro u hu; simp at hu; rcases hu with rfl | rfl | rfl <;> rfl)
      case c3 => unfold maxLen; omega
      case c5 => first | omega | (simp; omega)
      intro v3 w3 hown3 hgrow _
      obtain ⟨ao3, cap3, rfl⟩ := own_form hown3
      have hb3 : Below (w.heap.size + 2) wr w3 := ((Below.refl _ wr).alloc (by omega) _).grown hgrow (by simp; omega) (fun g hg => by cases hg)
      have hk3 : w3.ownsRow (w.heap.size + 2) 58 4 v (lnTo k).length (cellsG lnkE (lnTo k)) := (HOWN.out.alloc _).kept hgrow (by cases hv : v.ownBlock <;> simp [Value.ownBlock])
      have hN3 : LN w (w3.setCell ⟨w.heap.size + 1, 2, none⟩ (.slice ao3 1 cap3)) ((k + 1 : Nat) : Int) v (.slice ao3 1 cap3) k := HL.out.put2 hb3 hk3
      have hO3 : (w3.setCell ⟨w.heap.size + 1, 2, none⟩ (.slice ao3 1 cap3)).ownsRow (w.heap.size + 2) 47 3 (.slice ao3 1 cap3) 1 [.string ⟨#[97]⟩, .int .i64 1, .int .i64 3] := ownsRow_setCell_below hown3 (by simp) _
      have d2 := (hb3.cell (p := ⟨w.heap.size + 1, 2, none⟩) (by simp)).trans c2
      have g2 := (hb3.frozen (p := ⟨w.heap.size + 1, 2, none⟩) (by simp)).trans f2
      obtain ⟨w4, hw4⟩ : ∃ W, w3.setCell ⟨w.heap.size + 1, 2, none⟩ (.slice ao3 1 cap3) = W := ⟨_, rfl⟩
      rw [hw4] at hN3 hO3
      have HN3 : Hid (LN w w4 ((k + 1 : Nat) : Int) v (.slice ao3 1 cap3) k) := hN3
      have HO3 : Hid (w4.ownsRow (w.heap.size + 2) 47 3 (.slice ao3 1 cap3) 1 [.string ⟨#[97]⟩, .int .i64 1, .int .i64 3]) := hO3
      have HW4 : Hid (w3.setCell ⟨w.heap.size + 1, 2, none⟩ (.slice ao3 1 cap3) = w4) := hw4
      have e2 := hN3.c2
      have f2' := hN3.cf 2
      have hlt4 := hN3.lt
      clear hb3 hk3 hN3 hO3 hgrow hown3 hw4 r0 r1 r2 c0 c1 c2 f1 f2 HOWN
      go_upto_region 7 with fail
      rw [HW4.out]
      clear d2 g2
      go_wp2_with (at_builtin; refine wpList_append_own _ rfl _ _ 23 rfl (w.heap.size + 2) 47 j0 (.agg #[.string ByteArray.empty, .int .i64 0, .int .i64 0]) 3 32 Try.underlying23 hj hy0 hy1 hy2 hst_zero (by decide) _ _ _ rfl (HO3.out.alloc _) ⟨w4.heap.size, 0, none⟩ 1 1 [.string ⟨#[98]⟩, .int .i64 ((k : Int) + 1), .int .i64 4] rfl rfl ?m1 ?m2 ?m3 ?m4 ?m5 ?_)
      case m1 =>
        intro j u hj
        match j, hj with
        | 0, hj => simp at hj; subst hj; simp [Addr.add]
        | 1, hj => simp at hj; subst hj; simp [Addr.add]
        | 2, hj => simp at hj; subst hj; simp [Addr.add]
      case m2 => intro u hu; simp at hu; rcases hu with rfl | rfl | rfl <;> rfl
      case m3 => unfold maxLen; omega
      case m4 => omega
      case m5 => simp; omega
      intro v5 w5 hown5 hgrow5 _
      obtain ⟨ao5, cap5, rfl⟩ := own_form hown5
      have hb5 : Below (w.heap.size + 2) w4 w5 := ((Below.refl _ w4).alloc (by omega) _).grown hgrow5 (by simp; omega) (fun g hg => (HO3.out.lt g hg).1)
      have hk5 : w5.ownsRow (w.heap.size + 2) 58 4 v (lnTo k).length (cellsG lnkE (lnTo k)) := (HN3.out.own.alloc _).kept hgrow5 (ln_apart HN3.out.own HO3.out (by decide))
      have hN5 : LN w (w5.setCell ⟨w.heap.size + 1, 2, none⟩ (.slice ao5 2 cap5)) ((k + 1 : Nat) : Int) v (.slice ao5 2 cap5) k := HN3.out.put2 hb5 hk5
      have hO5 : (w5.setCell ⟨w.heap.size + 1, 2, none⟩ (.slice ao5 2 cap5)).ownsRow (w.heap.size + 2) 47 3 (.slice ao5 2 cap5) (lnH ((k + 1 : Nat) : Int)).length (cellsG hstE (lnH ((k + 1 : Nat) : Int))) := ownsRow_setCell_below hown5 (by simp) _
      have d2 := (hb5.cell (p := ⟨w.heap.size + 1, 2, none⟩) (by simp)).trans e2
      have g2 := (hb5.frozen (p := ⟨w.heap.size + 1, 2, none⟩) (by simp)).trans f2'
      obtain ⟨w6, hw6⟩ : ∃ W, w5.setCell ⟨w.heap.size + 1, 2, none⟩ (.slice ao5 2 cap5) = W := ⟨_, rfl⟩
      rw [hw6] at hN5 hO5
      have HN5 : Hid (LN w w6 ((k + 1 : Nat) : Int) v (.slice ao5 2 cap5) k) := hN5
      have HGH : Hid (∀ a b c, GS hstE (set3 w6 w.heap.size a b c) (.slice ao5 2 cap5) (lnH ((k + 1 : Nat) : Int))) := fun a b c => own_GS (own_set3 hO5 _ (by omega) a b c)
      have HGL : Hid (∀ a b c, GS lnkE (set3 w6 w.heap.size a b c) v (lnTo k)) := fun a b c => own_GS (own_set3 hN5.own _ (by omega) a b c)
      have HW6 : Hid (w5.setCell ⟨w.heap.size + 1, 2, none⟩ (.slice ao5 2 cap5) = w6) := hw6
      obtain ⟨aoL, capL, hvL⟩ := own_form hN5.own
      have HVL : Hid (v = .slice aoL (lnTo k).length capL) := hvL
      clear hb5 hk5 hN5 hO5 hgrow5 hown5 hw6 e2 f2' HN3 HO3 hvL
      go_upto_region 8 with fail
      rw [HW6.out]
      obtain ⟨hB6, r0, r1, r2, rf, c0, c1, c2, _, hlt6, _⟩ := HN5.out
      rw [HVL.out] at c1
      have rf0 := rf 0
      have rf1 := rf 1
      have rf2 := rf 2
      have HB6 : Hid (Below w.heap.size w w6) := hB6
      clear d2 g2 rf hB6 HW6
      go_wp2
      have e0 : k + 1 - 1 = k := by omega
      refine bodyPost_ret (v := .agg #[.int .i64 ((k + 1 : Nat) : Int), .slice aoL (lnTo k).length capL, .slice ao5 2 cap5]) (by simp [results, Try.results4, go_sem, *]) rfl ⟨aoL, _, capL, ao5, 2, cap5, rfl, ?_, ?_, below3 HB6.out _ (Nat.le_refl _) _ _ _⟩
      · rw [e0, ← HVL.out]
        exact HGL.out _ _ _
      · exact HGH.out _ _ _
end Go.Proofs.Ytmpjoepfgfbjmaa
/- A net that came in: its topology, its tables. -/
namespace Go.Proofs.Ytmpjoepfgfbjmaa
open Go.ChangeShapes Go.WideShapes Go.ChangeAt Go.RowKit Go.Joins
set_option linter.unusedSimpArgs false
set_option linter.unusedVariables false
set_option maxRecDepth 100000

theorem gs_SR {w : World} {v : Value} {L : List Ru} (h : GS rlE w v L) : SR w v L := by
  rcases h with h | ⟨g, o, cap, h1, h2, h3, h4⟩
  · exact .inl h
  · refine .inr ⟨g, o, cap, h1, h2, h3, fun i hi => ?_⟩
    have hv := h4 i hi
    generalize L[i] = r at hv
    obtain ⟨p, m, b, q, s, x⟩ := r
    obtain ⟨q0, q1, q2, q3, q4, q5⟩ := rl_cells hv
    exact ⟨q0, q1, q2, q3, q4, q5⟩
set_option maxRecDepth 100000 in
theorem table_open {H : Type} {enc : TypeId × Value → H} {W : World} {fuel : Nat} {cs : List Value} {x : DataW H × List MemPlace}
    (h : DataW.trod enc Try.prog W 0 (fun _ => true) true fuel 35 cs = some x) : ∃ ao n cap L, cs = [.slice ao n cap] ∧ SR W (.slice ao n cap) L := by
  obtain ⟨ao, n, cap, L, e, hL⟩ := gs_open (E := rlE) 35 32 Try.underlying35 (by kernel_rfl) zeR (fun _ _ _ h => rl_open h) h
  exact ⟨ao, n, cap, L, e, gs_SR hL⟩
set_option maxRecDepth 100000 in
theorem tables_open {H : Type} {enc : TypeId × Value → H} {W : World} {fuel : Nat} {cs : List Value} {x : DataW H × List MemPlace}
    (hf2 : DataW.trod enc Try.prog W 0 (fun _ => true) true fuel 26 cs = some x) : ∃ ao n cap Ts, cs = [.slice ao n cap] ∧ TS W (.slice ao n cap) Ts := by
  obtain ⟨d, p⟩ := x
  have hC : Try.prog.cellsOf 35 = 1 := by kernel_rfl
  rcases Go.Deep.open_slice Try.underlying26 hf2 with ⟨hc, hx⟩ | ⟨a, len0, cap, m, k, D, Pl, hc, _, hl, hm, hmm, hx, hall⟩
  · exact ⟨_, _, _, [], hc, .inl ⟨none, 0, rfl, rfl⟩⟩
  · simp only [if_true] at hmm
    subst hmm
    rcases Nat.eq_zero_or_pos len0 with h0 | h0
    · subst h0
      exact ⟨_, _, _, [], hc, .inl ⟨_, _, rfl, rfl⟩⟩
    · have each : ∀ i, i < m → ∃ L : List Ru, ∃ ao n cap, W.cell? (a.add i) = some (.slice ao n cap) ∧ SR W (.slice ao n cap) L := by
        intro i hi
        obtain ⟨cs, h1, h2⟩ := hall i hi
        rw [hC] at h1
        obtain ⟨_, hlen, hcell⟩ := World.cells?_some h1
        obtain ⟨ao, n, cap, L, rfl, hL⟩ := table_open h2
        refine ⟨L, ao, n, cap, ?_, hL⟩
        have := hcell 0 (by simp)
        rw [Go.Deep.add_add] at this
        simpa using this
      obtain ⟨R, hR⟩ := Go.Deep.choose_lt each
      obtain ⟨sb, so, spot⟩ := a
      have hspot : spot = none := by
        obtain ⟨ao, n, cap, h1, _⟩ := hR 0 (by omega)
        simpa [Addr.add] using World.cell?_spot h1
      subst hspot
      have hadd : ∀ j, (⟨sb, so, none⟩ : Addr).add j = ⟨sb, so + j, none⟩ := by
        intro j
        simp only [Addr.add]
        first
          | rfl
          | (split
             · next h0 => rw [h0]; rfl
             · rfl)
      refine ⟨_, _, _, (List.range len0).map R, hc, .inr ⟨sb, so, _, by simp, by simpa using hl, hm, fun i hi => ?_⟩⟩
      have hi2 : i < len0 := by simpa using hi
      have e : ((List.range len0).map R)[i] = R i := by simp
      rw [e]
      obtain ⟨ao, n, cap, h1, h2⟩ := hR i (by omega)
      rw [hadd] at h1
      exact ⟨ao, n, cap, h1, h2⟩
set_option maxRecDepth 100000 in
/-- One that came in. -/
theorem net_open {H : Type} {enc : TypeId × Value → H} {W : World} {n : Nat} {cs : List Value} {x : DataW H × List MemPlace}
    (h : DataW.trod enc Try.prog W 0 (fun _ => true) true n 28 cs = some x) : ∃ S ao n cap ao2 n2 cap2 ao3 n3 cap3 Ls Hs Ts, cs = [.int .i64 S, .slice ao n cap, .slice ao2 n2 cap2, .slice ao3 n3 cap3] ∧ GS lnkE W (.slice ao n cap) Ls ∧ GS hstE W (.slice ao2 n2 cap2) Hs ∧ TS W (.slice ao3 n3 cap3) Ts := by
  obtain ⟨xs, k, _, _, hl, hlen, hf⟩ := DataW.trod_struct Try.underlying28 h
  have hC : Try.prog.cellsOf 28 = 4 := by kernel_rfl
  have hT0 : Try.prog.cellsOf 25 = 3 := by kernel_rfl
  have hT1 : Try.prog.cellsOf 26 = 1 := by kernel_rfl
  rw [hC] at hl
  match cs, hl with
  | [c0, c1, c2, c3], _ =>
    match xs, hlen with
    | [z0, z1], _ =>
      have g0 := hf 0 _ rfl
      have g1 := hf 1 _ rfl
      simp [hT0, hT1] at g0 g1
      obtain ⟨S, ao, n, cap, ao2, n2, cap2, Ls, Hs, e0, hL, hH⟩ := topo_open g0
      obtain ⟨ao3, n3, cap3, Ts, e1, hT⟩ := tables_open g1
      simp at e0 e1
      exact ⟨S, ao, n, cap, ao2, n2, cap2, ao3, n3, cap3, Ls, Hs, Ts, by simp [e0, e1], hL, hH, hT⟩
theorem net_of {H : Type} {enc : TypeId × Value → H} {W : World} {base : Nat} {v : Value} {d : DataW H} {p : List MemPlace}
    (hv : Value.okWide Try.prog W .any base 28 v) (h : DataW.Trod enc Try.prog W 0 (fun _ => true) true 28 v d p) : ∃ S ao n cap ao2 n2 cap2 ao3 n3 cap3 Ls Hs Ts, v = .agg #[.int .i64 S, .slice ao n cap, .slice ao2 n2 cap2, .slice ao3 n3 cap3] ∧ GS lnkE W (.slice ao n cap) Ls ∧ GS hstE W (.slice ao2 n2 cap2) Hs ∧ TS W (.slice ao3 n3 cap3) Ts := by
  obtain ⟨cs, rfl, hsz⟩ := okWide_struct Try.underlying28 hv
  obtain ⟨n, hn⟩ := h
  obtain ⟨S, ao, n, cap, ao2, n2, cap2, ao3, n3, cap3, Ls, Hs, Ts, e, h1, h2, h3⟩ := net_open hn
  refine ⟨S, ao, n, cap, ao2, n2, cap2, ao3, n3, cap3, Ls, Hs, Ts, ?_, h1, h2, h3⟩
  simp only [Value.cells] at e
  rw [← Array.toArray_toList (xs := cs), e]
end Go.Proofs.Ytmpjoepfgfbjmaa
/- What raillaw4.MixFew answers: true, of any net, rule, switch and header. -/
namespace Go.Proofs.Ytmpjoepfgfbjmaa.mixFew
open Go.RowKit
set_option linter.unusedSimpArgs false
set_option linter.unusedVariables false

theorem line_one (w : World) : Calls Try.prog 4 #[.int .i64 1] w fun e w' => ∃ ao n cap ao2 n2 cap2, e = .returned (.agg #[.int .i64 1, .slice ao n cap, .slice ao2 n2 cap2]) ∧ GS lnkE w' (.slice ao n cap) [] ∧ GS hstE w' (.slice ao2 n2 cap2) (lnH 1) ∧ Below w.heap.size w w' := line_any 1 w (by decide) (by decide)
/-- A table of one rule, in a row of one. -/
theorem ts_rule (w : World) : TS ((w.alloc (Obj.cells #[.int .i64 1, .int .i64 0, .int .i64 0, .int .i64 4, .int .i64 0, .int .i64 0] 32)).alloc (Obj.cells #[.slice (some ⟨w.heap.size, 0, none⟩) 1 1] 35)) (.slice (some ⟨w.heap.size + 1, 0, none⟩) 1 1) [[⟨1, 0, 0, 4, 0, 0⟩]] := by
  refine .inr ⟨w.heap.size + 1, 0, 1, rfl, by simp, by unfold maxLen; omega, fun i hi => ?_⟩
  obtain rfl : i = 0 := by simp at hi; omega
  refine ⟨some ⟨w.heap.size, 0, none⟩, 1, 1, ?_, ?_⟩
  · have h := vat_new (w.alloc (Obj.cells #[.int .i64 1, .int .i64 0, .int .i64 0, .int .i64 4, .int .i64 0, .int .i64 0] 32)) [.slice (some ⟨w.heap.size, 0, none⟩) 1 1] 35
    rw [World.size_alloc] at h
    exact h 0 _ rfl
  · exact gs_SR ((gs_one (E := rlE) w ⟨1, 0, 0, 4, 0, 0⟩ 32 (vs := [.int .i64 1, .int .i64 0, .int .i64 0, .int .i64 4, .int .i64 0, .int .i64 0]) rfl).later ((Below.refl _ _).alloc (Nat.le_refl _) _))
/-- One fate in a row of its own. -/
theorem ft_one (w : World) (a : Int) (b : ByteArray) (ao : Option Addr) (n cap : Nat) (L : List ((Int × Int) × Int)) (hL : GS hopE w (.slice ao n cap) L) : FTs (w.alloc (Obj.cells #[.int .i64 a, .string b, .slice ao n cap] 43)) (.slice (some ⟨w.heap.size, 0, none⟩) 1 1) [(a, b, L)] := by
  refine ⟨[((a, b, L), (ao, n, cap))], gs_one (E := ftE) w ((a, b, L), (ao, n, cap)) 43 (vs := [.int .i64 a, .string b, .slice ao n cap]) rfl, rfl, fun z hz => ?_⟩
  obtain rfl : z = ((a, b, L), (ao, n, cap)) := by simpa using hz
  exact hL.later ((Below.refl _ _).alloc (Nat.le_refl _) _)
theorem see_small {S : Int} {Ls : List ((Int × Int) × (Int × Int))} {Hs : List (ByteArray × (Int × Int))} {Ts : List (List Ru)} {l : List Op8} {m : ByteArray} {h : Int} : ∀ x ∈ snL S Ls Hs Ts l m h, x.2.2.length < 25 := by
  intro x hx
  by_cases h0 : snN S Ls Hs Ts l m h = 0
  · obtain ⟨e1, e2, e3⟩ := sn_parts h0
    rw [(sn_0 e1 e2 e3).2] at hx
    obtain ⟨ht, hS, hA, hB⟩ := cg_ok e1
    exact (ps_small ht ((ps_mem ht hA hB (we_sp ht e2) h x).2 hx)).2.1
  · unfold snL at hx
    rw [if_neg h0] at hx
    cases hx
/-- Does each of these meet the switch once at most? -/
def onB (s : Int) (L : List Ft) : Bool := L.all fun x => decide (cnS s x.2.2 ≤ 1)
theorem on_next {s : Int} {L : List Ft} {j : Nat} {x : Ft} (hx : L[j]? = some x) : onB s (L.take (j + 1)) = (onB s (L.take j) && decide (cnS s x.2.2 ≤ 1)) := by
  unfold onB
  rw [List.take_add_one, hx, List.all_append]
  simp
set_option maxHeartbeats 8000000 in
set_option maxRecDepth 100000 in
theorem walk (S : Int) (ao : Option Addr) (n cap : Nat) (ao2 : Option Addr) (n2 cap2 : Nat) (ao3 : Option Addr) (n3 cap3 : Nat) (r1 r2 r3 r4 r5 r6 : Int) (s h : Int) (Ls : List ((Int × Int) × (Int × Int))) (Hs : List (ByteArray × (Int × Int))) (Ts : List (List Ru)) (w : World)
    (hL : GS lnkE w (.slice ao n cap) Ls) (hH : GS hstE w (.slice ao2 n2 cap2) Hs) (hT : TS w (.slice ao3 n3 cap3) Ts) :
    Calls Try.prog 3 #[.agg #[.int .i64 S, .slice ao n cap, .slice ao2 n2 cap2, .slice ao3 n3 cap3], .agg #[.int .i64 r1, .int .i64 r2, .int .i64 r3, .int .i64 r4, .int .i64 r5, .int .i64 r6], .int .i64 s, .int .i64 h] w fun e w' => e = .returned (.bool true) ∧ Below w.heap.size w w' := by
  obtain ⟨w1, hw1⟩ : ∃ W, W = (w.alloc (Obj.cells #[.int .i64 S, .slice ao n cap, .slice ao2 n2 cap2, .slice ao3 n3 cap3] 28)).alloc (Obj.cells #[.int .i64 r1, .int .i64 r2, .int .i64 r3, .int .i64 r4, .int .i64 r5, .int .i64 r6] 32) := ⟨_, rfl⟩
  have hal : ∀ (W : World) (o : Obj), Below W.heap.size W (W.alloc o) := fun W o => (Below.refl _ _).alloc (Nat.le_refl _) _
  have hb1 : Below w.heap.size w w1 := by rw [hw1]; exact ((Below.refl _ _).alloc (Nat.le_refl _) _).alloc (by simp) _
  have hbn : BN w1 w.heap.size S (.slice ao n cap) (.slice ao2 n2 cap2) (.slice ao3 n3 cap3) Ls Hs Ts := by rw [hw1]; exact (bn_new 28 hL hH hT).later (hal _ _)
  have hrv : VAt w1 (w.heap.size + 1) 0 [.int .i64 r1, .int .i64 r2, .int .i64 r3, .int .i64 r4, .int .i64 r5, .int .i64 r6] := by
    have h := vat_new (w.alloc (Obj.cells #[.int .i64 S, .slice ao n cap, .slice ao2 n2 cap2, .slice ao3 n3 cap3] 28)) [.int .i64 r1, .int .i64 r2, .int .i64 r3, .int .i64 r4, .int .i64 r5, .int .i64 r6] 32
    rw [World.size_alloc] at h
    rw [hw1]
    exact h
  have HBN : Hid (∀ W, Below w1.heap.size w1 W → BN W w.heap.size S (.slice ao n cap) (.slice ao2 n2 cap2) (.slice ao3 n3 cap3) Ls Hs Ts) := fun W h => hbn.later h
  have HRV : Hid (∀ W, Below w1.heap.size w1 W → W.cell? ⟨w.heap.size + 1, 0, none⟩ = some (.int .i64 r1) ∧ W.cell? ⟨w.heap.size + 1, 1, none⟩ = some (.int .i64 r2) ∧ W.cell? ⟨w.heap.size + 1, 2, none⟩ = some (.int .i64 r3) ∧ W.cell? ⟨w.heap.size + 1, 3, none⟩ = some (.int .i64 r4) ∧ W.cell? ⟨w.heap.size + 1, 4, none⟩ = some (.int .i64 r5) ∧ W.cell? ⟨w.heap.size + 1, 5, none⟩ = some (.int .i64 r6)) := fun W h => by
    have k := hrv.later h
    exact ⟨k 0 _ rfl, k 1 _ rfl, k 2 _ rfl, k 3 _ rfl, k 4 _ rfl, k 5 _ rfl⟩
  have HB1 : Hid (Below w.heap.size w w1) := hb1
  have HW1 : Hid (w1 = (w.alloc (Obj.cells #[.int .i64 S, .slice ao n cap, .slice ao2 n2 cap2, .slice ao3 n3 cap3] 28)).alloc (Obj.cells #[.int .i64 r1, .int .i64 r2, .int .i64 r3, .int .i64 r4, .int .i64 r5, .int .i64 r6] 32)) := hw1
  have HLH : Hid (GS hstE w (.slice ao2 n2 cap2) Hs) := hH
  have hn2m : n2 ≤ maxLen := by
    obtain ⟨_, _, _, e, _, h2, _⟩ := hH.form
    cases e
    exact h2
  unfold maxLen at hn2m
  clear hL hH hT hb1 hbn hw1 hrv hal
  go_enter Try.func3, Try.ntmps3
  go_wp2_with fail
  rw [← HW1.out]
  refine (line_one w1).mono ?_
  rintro e w2 ⟨b1, k1, d1, b2, k2, d2, rfl, g1, g2, hb2⟩
  have HB2 : Hid (Below w1.heap.size w1 w2) := hb2
  have hx3 : Below w2.heap.size w2 (((w2.alloc (Obj.cells #[.int .i64 1, .int .i64 0, .int .i64 0, .int .i64 4, .int .i64 0, .int .i64 0] 32)).alloc (Obj.cells #[.slice (some ⟨w2.heap.size, 0, none⟩) 1 1] 35)).alloc (Obj.cells #[.int .i64 1, .slice b1 k1 d1, .slice b2 k2 d2, .slice (some ⟨w2.heap.size + 1, 0, none⟩) 1 1] 28)) := (((Below.refl _ _).alloc (Nat.le_refl _) _).alloc (by simp) _).alloc (by simp; omega) _
  have hts := (ts_rule w2).later ((Below.refl _ _).alloc (Nat.le_refl _) (Obj.cells #[.int .i64 1, .slice b1 k1 d1, .slice b2 k2 d2, .slice (some ⟨w2.heap.size + 1, 0, none⟩) 1 1] 28))
  have HG1 := g1.later hx3
  have HG2 := g2.later hx3
  obtain ⟨wx, hwx⟩ : ∃ W, ((w2.alloc (Obj.cells #[.int .i64 1, .int .i64 0, .int .i64 0, .int .i64 4, .int .i64 0, .int .i64 0] 32)).alloc (Obj.cells #[.slice (some ⟨w2.heap.size, 0, none⟩) 1 1] 35)).alloc (Obj.cells #[.int .i64 1, .slice b1 k1 d1, .slice b2 k2 d2, .slice (some ⟨w2.heap.size + 1, 0, none⟩) 1 1] 28) = W := ⟨_, rfl⟩
  rw [hwx] at hx3 hts HG1 HG2
  have HGX : Hid (GS lnkE wx (.slice b1 k1 d1) [] ∧ GS hstE wx (.slice b2 k2 d2) (lnH 1) ∧ TS wx (.slice (some ⟨w2.heap.size + 1, 0, none⟩) 1 1) [[⟨1, 0, 0, 4, 0, 0⟩]]) := ⟨HG1, HG2, hts⟩
  have HBX : Hid (Below w1.heap.size w1 wx) := HB2.out.trans (hx3.mono HB2.out.size)
  have HWX : Hid (((w2.alloc (Obj.cells #[.int .i64 1, .int .i64 0, .int .i64 0, .int .i64 4, .int .i64 0, .int .i64 0] 32)).alloc (Obj.cells #[.slice (some ⟨w2.heap.size, 0, none⟩) 1 1] 35)).alloc (Obj.cells #[.int .i64 1, .slice b1 k1 d1, .slice b2 k2 d2, .slice (some ⟨w2.heap.size + 1, 0, none⟩) 1 1] 28) = wx) := hwx
  clear hb2 g1 g2 hx3 hts HG1 HG2 hwx HB2
  go_wp2_with fail
  rw [HWX.out]
  refine (seen_any 1 b1 k1 d1 b2 k2 d2 (some ⟨w2.heap.size + 1, 0, none⟩) 1 1 none 0 0 [] (lnH 1) [[⟨1, 0, 0, 4, 0, 0⟩]] [] ⟨#[97]⟩ h wx HGX.out.1 HGX.out.2.1 HGX.out.2.2 (GS.nil _)).mono ?_
  rintro e w3 ⟨a5, n5, c5, rfl, hF5, hb3⟩
  have HB3 : Hid (Below w1.heap.size w1 w3) := HBX.out.trans (hb3.mono HBX.out.size)
  obtain ⟨N, hN⟩ : ∃ N, N = snN 1 [] (lnH 1) [[⟨1, 0, 0, 4, 0, 0⟩]] [] ⟨#[97]⟩ h := ⟨_, rfl⟩
  rw [← hN]
  have HN : Hid (N = snN 1 [] (lnH 1) [[⟨1, 0, 0, 4, 0, 0⟩]] [] ⟨#[97]⟩ h) := hN
  have HF5 : Hid (FTs w3 (.slice a5 n5 c5) (snL 1 [] (lnH 1) [[⟨1, 0, 0, 4, 0, 0⟩]] [] ⟨#[97]⟩ h)) := hF5
  obtain ⟨er, her⟩ : ∃ er, er = noV N := ⟨_, rfl⟩
  rw [← her]
  have HER : Hid (er = noV N) := her
  clear hN hF5 hb3 HGX HBX HWX her
  go_upto_region 3 with fail
  go_cut [56] from 35 to 57 (fun c w' => c = .bool false ∧ w' = w3)
  case first =>
    cases hh : hdrB h with
    | true =>
      obtain ⟨e1, a, L, e2⟩ := one_seen hh
      have hF := HF5.out
      rw [e2] at hF
      have hn5 := hF.len
      simp only [List.length_singleton] at hn5
      subst hn5
      obtain ⟨g, o, x, a3, n3', c3, hao, hx, c0, c1, c2, _⟩ := hF.at (k := 0) (by omega)
      subst hao
      have hxe : x = (a, ⟨#[98]⟩, L) := by simpa using hx.symm
      subst hxe
      have k1 : er = .nilIface := by rw [HER.out, HN.out, e1, no_ok rfl]
      subst k1
      simp only [Nat.zero_mul, Nat.add_zero] at c0 c1 c2
      have h16 : 0 ≤ h ∧ h < 16 := by unfold hdrB at hh; simpa using hh
      have d0 : decide (0 ≤ h) = true := by simp; omega
      have d1 : decide (h < 16) = true := by simp; omega
      clear hh hF hx HER HN HF5 e1 e2
      go_wp2_with fail
      go_meet
      exact ⟨rfl, rfl⟩
    | false =>
      have h16 : ¬ (0 ≤ h ∧ h < 16) := by
        intro h2
        unfold hdrB at hh
        simp at hh
        omega
      by_cases h0 : 0 ≤ h
      · have d0 : decide (0 ≤ h) = true := by simp; omega
        have d1 : decide (h < 16) = false := by simp; omega
        clear hh HER HN HF5
        go_wp2_with fail
        go_meet
        exact ⟨rfl, rfl⟩
      · have d0 : decide (0 ≤ h) = false := by simp; omega
        clear hh HER HN HF5
        go_wp2_with fail
        go_meet
        exact ⟨rfl, rfl⟩
  case rest =>
    obtain ⟨rfl, rfl⟩ := hcut
    clear HER HN HF5
    go_wp2_with fail
    go_loopw [12] (fun i wr => ∃ k : Nat, k ≤ n2 ∧ i = .int .i64 k ∧ Below w1.heap.size w1 wr) (fun i _ => n2 - (intOf i).toNat)
    case atStart => exact ⟨0, by omega, rfl, HB3.out⟩
    case round =>
      obtain ⟨k, hk, rfl, hB⟩ := hrel
      have HB : Hid (Below w1.heap.size w1 wr) := hB
      obtain ⟨q0, q1, q2, q3⟩ := (HBN.out wr hB).c
      clear HB3
      by_cases hlt : k < n2
      · by_cases h8 : k < 8
        · have hHr := (HBN.out wr hB).h
          obtain ⟨_, _, _, e9, hHn, _, _, hHa⟩ := hHr.form
          cases e9
          obtain ⟨g2, o2, hao2, hGA, _⟩ := hHa (by omega)
          subst hao2
          obtain ⟨x0, x1, x2, hkl, hLk, c0, c1, c2⟩ := hst_at hGA hHn hlt
          have kb0 : (0 : Int) ≤ (k : Int) := by omega
          have kb1 : (k : Int) < (n2 : Int) := by omega
          have kb2 : decide ((k : Int) < 8) = true := by simp; omega
          clear hHr hHn hHa hGA hB c1 c2 hLk
          go_wp2_with fail
          refine (seen_any S ao n cap (some ⟨g2, o2, none⟩) n2 cap2 ao3 n3 cap3 none 0 0 Ls Hs Ts [] x0 h wr (HBN.out _ HB.out).l (HBN.out _ HB.out).h (HBN.out _ HB.out).t (GS.nil _)).mono ?_
          rintro e w4 ⟨a6, n6, c6, rfl, hF6, hb4⟩
          have HB4 : Hid (Below w1.heap.size w1 w4) := HB.out.trans (hb4.mono HB.out.size)
          obtain ⟨N, hN⟩ : ∃ N, N = snN S Ls Hs Ts [] x0 h := ⟨_, rfl⟩
          rw [← hN]
          have HN : Hid (snN S Ls Hs Ts [] x0 h = N) := hN.symm
          have HF6 : Hid (FTs w4 (.slice a6 n6 c6) (snL S Ls Hs Ts [] x0 h)) := hF6
          clear hN hF6 hb4 q0 q1 q2 q3 c0
          by_cases h0 : N = 0
          · subst h0
            rw [no_ok rfl]
            obtain ⟨e1, e2⟩ := few_one HN.out
            have HSE : Hid (seN S Ls Hs Ts x0 h = 0) := e1
            have HF7 : Hid (FTs w4 (.slice a6 n6 c6) [seV S Ls Hs Ts x0 h]) := by
              show FTs _ _ _
              rw [← e2]
              exact HF6.out
            have HSV : Hid ((seV S Ls Hs Ts x0 h).2.2.length ≤ 1000) := by
              show _ ≤ _
              have := see_small (seV S Ls Hs Ts x0 h) (by rw [e2]; exact List.mem_singleton.2 rfl)
              omega
            obtain ⟨q0, q1, q2, q3⟩ := (HBN.out w4 HB4.out).c
            clear e1 e2 HF6 HN
            go_wp2_with fail
            refine (send_any S ao n cap (some ⟨g2, o2, none⟩) n2 cap2 ao3 n3 cap3 Ls Hs Ts x0 h w4 (HBN.out _ HB4.out).l (HBN.out _ HB4.out).h (HBN.out _ HB4.out).t).mono ?_
            rintro e w5 ⟨a7, n7, c7, rfl, ho7, hb5⟩
            rw [no_ok HSE.out]
            obtain ⟨⟨V1, V2, V3⟩, hV⟩ : ∃ V, V = seV S Ls Hs Ts x0 h := ⟨_, rfl⟩
            rw [← hV] at ho7 ⊢
            have HB5 : Hid (Below w1.heap.size w1 w5) := HB4.out.trans (hb5.mono HB4.out.size)
            have HF8 : Hid (FTs w5 (.slice a6 n6 c6) [(V1, V2, V3)]) := by
              show FTs _ _ _
              rw [hV]
              exact HF7.out.later hb5
            have HSV2 : Hid (V3.length ≤ 1000) := by
              have := HSV.out
              rw [← hV] at this
              exact this
            have HG7 : Hid (GS hopE w5 (.slice a7 n7 c7) V3) := own_GS (E := hopE) ho7
            clear hV ho7 hb5 q0 q1 q2 q3 HF7 HSV HSE
            dsimp only
            go_wp2_with fail
            have hal : ∀ (W : World) (o : Obj), Below W.heap.size W (W.alloc o) := fun W o => (Below.refl _ _).alloc (Nat.le_refl _) _
            have hft := ft_one (w5.alloc (Obj.cells #[.int .i64 V1, .string V2, .slice a7 n7 c7] 43)) V1 V2 a7 n7 c7 V3 (HG7.out.later (hal _ _))
            rw [World.size_alloc] at hft
            have hbb : Below w5.heap.size w5 ((w5.alloc (Obj.cells #[.int .i64 V1, .string V2, .slice a7 n7 c7] 43)).alloc (Obj.cells #[.int .i64 V1, .string V2, .slice a7 n7 c7] 43)) := ((Below.refl _ _).alloc (Nat.le_refl _) _).alloc (by simp) _
            have HF9 := HF8.out.later hbb
            obtain ⟨w6, hw6⟩ : ∃ W, (w5.alloc (Obj.cells #[.int .i64 V1, .string V2, .slice a7 n7 c7] 43)).alloc (Obj.cells #[.int .i64 V1, .string V2, .slice a7 n7 c7] 43) = W := ⟨_, rfl⟩
            rw [hw6] at hft hbb HF9 ⊢
            refine (smfates_any a6 (some ⟨w5.heap.size + 1, 0, none⟩) n6 1 c6 1 [(V1, V2, V3)] w6 HF9 hft (fun x hx => by
              obtain rfl : x = (V1, V2, V3) := by simpa using hx
              exact HSV2.out)).mono ?_
            rintro e w7 ⟨rfl, hb7⟩
            have HB7 : Hid (Below w1.heap.size w1 w7) := (HB5.out.trans (hbb.mono HB5.out.size)).trans (hb7.mono (Nat.le_trans HB5.out.size hbb.size))
            clear hal hft hbb HF9 hw6 hb7 HF8 HSV2 HG7 HB5 HB4 HB
            obtain ⟨q0, q1, q2, q3⟩ := (HBN.out w7 HB7.out).c
            obtain ⟨u0, u1, u2, u3, u4, u5⟩ := HRV.out w7 HB7.out
            go_wp2_with fail
            have hop := op_row w7 s true r1 r2 r3 r4 r5 r6 52
            have hb8 : Below w7.heap.size w7 (w7.alloc (Obj.cells #[.int .i64 s, .bool true, .int .i64 r1, .int .i64 r2, .int .i64 r3, .int .i64 r4, .int .i64 r5, .int .i64 r6] 52)) := (Below.refl _ _).alloc (Nat.le_refl _) _
            have HB8 : Hid (Below w1.heap.size w1 (w7.alloc (Obj.cells #[.int .i64 s, .bool true, .int .i64 r1, .int .i64 r2, .int .i64 r3, .int .i64 r4, .int .i64 r5, .int .i64 r6] 52))) := HB7.out.trans (hb8.mono HB7.out.size)
            refine (seen_any S ao n cap (some ⟨g2, o2, none⟩) n2 cap2 ao3 n3 cap3 (some ⟨w7.heap.size, 0, none⟩) 1 1 Ls Hs Ts [⟨s, true, ⟨r1, r2, r3, r4, r5, r6⟩⟩] x0 h _ (HBN.out _ HB8.out).l (HBN.out _ HB8.out).h (HBN.out _ HB8.out).t hop).mono ?_
            rintro e w8 ⟨a8, n8, c8, rfl, hF8, hb9⟩
            have HB9 : Hid (Below w1.heap.size w1 w8) := HB8.out.trans (hb9.mono HB8.out.size)
            obtain ⟨N, hN⟩ : ∃ N, N = snN S Ls Hs Ts [⟨s, true, ⟨r1, r2, r3, r4, r5, r6⟩⟩] x0 h := ⟨_, rfl⟩
            rw [← hN]
            have HN : Hid (snN S Ls Hs Ts [⟨s, true, ⟨r1, r2, r3, r4, r5, r6⟩⟩] x0 h = N) := hN.symm
            have hsm := see_small (S := S) (Ls := Ls) (Hs := Hs) (Ts := Ts) (l := [⟨s, true, ⟨r1, r2, r3, r4, r5, r6⟩⟩]) (m := x0) (h := h)
            have hft := few_two (S := S) (Ls := Ls) (Hs := Hs) (Ts := Ts) (m := x0) (h := h) (s := s) (r := ⟨r1, r2, r3, r4, r5, r6⟩)
            rw [← hN] at hft
            obtain ⟨L2, hL2⟩ : ∃ L2, L2 = snL S Ls Hs Ts [⟨s, true, ⟨r1, r2, r3, r4, r5, r6⟩⟩] x0 h := ⟨_, rfl⟩
            rw [← hL2] at hF8 hsm hft
            have HF8 : Hid (FTs w8 (.slice a8 n8 c8) L2) := hF8
            have HSM : Hid (∀ x ∈ L2, x.2.2.length < 25) := hsm
            have HFT : Hid (N = 0 → 1 ≤ L2.length ∧ ((∀ x ∈ L2, cnS s x.2.2 ≤ 1) → L2.length ≤ 2)) := hft
            have HLN : Hid (L2.length = n8) := hF8.len
            have hn8 : n8 ≤ maxLen ∧ n8 ≤ c8 := by
              obtain ⟨_, _, _, e, _, h2, h3⟩ := hF8.form
              cases e
              exact ⟨h2, h3⟩
            unfold maxLen at hn8
            obtain ⟨hn8, hn8c⟩ := hn8
            clear hN hF8 hsm hft hL2 hop hb8 hb9 q0 q1 q2 q3 u0 u1 u2 u3 u4 u5 HB8 HB7
            by_cases h0 : N = 0
            · subst h0
              rw [no_ok rfl]
              obtain ⟨hf1, hf2⟩ := HFT.out rfl
              have HFB : Hid (1 ≤ n8 ∧ (onB s L2 = true → n8 ≤ 2)) := by
                show _ ∧ _
                rw [← HLN.out]
                exact ⟨hf1, fun h => hf2 (fun x hx => by
                  have := List.all_eq_true.1 h x hx
                  simpa using this)⟩
              clear hf1 hf2 HFT HN
              go_wp2_with fail
              go_loopw [20, 21] (fun c i wz => ∃ j : Nat, j ≤ n8 ∧ i = .int .i64 j ∧ c = .bool (onB s (L2.take j)) ∧ wz = w8) (fun _ i _ => n8 - (intOf i).toNat)
              case atStart => exact ⟨0, by omega, rfl, rfl, rfl⟩
              case round =>
                obtain ⟨j, hj, rfl, rfl, hwz⟩ := hrel
                have hwy := hwz.symm
                subst hwy
                clear hwz
                by_cases hjn : j < n8
                · obtain ⟨g, o, x, a9, n9, c9, ha8, hx, z0, z1, z2, hG9⟩ := HF8.out.at hjn
                  subst ha8
                  have hx25 := HSM.out x (List.mem_of_getElem? hx)
                  obtain ⟨_, _, _, e9, hxn, _, _, hxa⟩ := hG9.form
                  cases e9
                  have HON : Hid (onB s (L2.take (j + 1)) = (onB s (L2.take j) && decide (cnS s x.2.2 ≤ 1))) := on_next hx
                  have HXN : Hid (x.2.2.length = n9) := hxn
                  have HXA : Hid (0 < n9 → ∃ g o, a9 = some ⟨g, o, none⟩ ∧ GAt hopE w8 g o x.2.2 ∧ c9 ≤ maxLen) := hxa
                  have hn9 : n9 < 25 := by omega
                  obtain ⟨BO, hBO⟩ : ∃ BO, BO = onB s (L2.take j) := ⟨_, rfl⟩
                  rw [← hBO]
                  have HBO : Hid (onB s (L2.take j) = BO) := hBO.symm
                  have jb0 : (0 : Int) ≤ (j : Int) := by omega
                  have jb1 : (j : Int) < (n8 : Int) := by omega
                  clear hBO hG9 hxn hxa hx25 hx
                  go_wp2_with fail
                  go_loopw [22, 23] (fun t i wy => ∃ q : Nat, q ≤ n9 ∧ i = .int .i64 q ∧ t = .int .i64 (cnS s (x.2.2.take q) : Nat) ∧ wy = w8) (fun _ i _ => n9 - (intOf i).toNat)
                  case atStart => exact ⟨0, by omega, rfl, rfl, rfl⟩
                  case round =>
                    obtain ⟨q, hq, rfl, rfl, hwz⟩ := hrel
                    have hwy := hwz.symm
                    subst hwy
                    clear hwz
                    have hcq : cnS s (x.2.2.take q) ≤ q := by
                      unfold cnS
                      exact Nat.le_trans (List.length_filter_le _ _) (by rw [List.length_take]; omega)
                    by_cases hqn : q < n9
                    · obtain ⟨g9, o9, ha9, hGA, _⟩ := HXA.out (by omega)
                      subst ha9
                      obtain ⟨y0, y1, y2, hkl9, hLk9, y3, y4, y5⟩ := hop_at hGA HXN.out hqn
                      have HCN : Hid (cnS s (x.2.2.take (q + 1)) = cnS s (x.2.2.take q) + if y0 = s then 1 else 0) := by
                        show _ = _
                        rw [List.take_add_one, List.getElem?_eq_getElem hkl9, hLk9]
                        exact cn_app s _ _
                      obtain ⟨C, hC⟩ : ∃ C, C = cnS s (x.2.2.take q) := ⟨_, rfl⟩
                      rw [← hC] at hcq ⊢
                      have HC : Hid (cnS s (x.2.2.take q) = C) := hC.symm
                      have qb0 : (0 : Int) ≤ (q : Int) := by omega
                      have qb1 : (q : Int) < (n9 : Int) := by omega
                      clear hC hGA hLk9 y4 y5
                      by_cases hys : y0 = s
                      · subst hys
                        go_wp2
                        go_roundw
                        case rel => exact ⟨q + 1, by omega, by go_num, by rw [HCN.out, HC.out, if_pos rfl]; go_num, by first | rfl | trivial⟩
                        case measure => simp [intOf]; omega
                      · have dys : (y0 == s) = false := by simpa using hys
                        go_wp2
                        go_roundw
                        case rel => exact ⟨q + 1, by omega, by go_num, by rw [HCN.out, HC.out, if_neg hys]; rfl, by first | rfl | trivial⟩
                        case measure => simp [intOf]; omega
                    · obtain rfl : q = n9 := by omega
                      have hall : x.2.2.take q = x.2.2 := by rw [← HXN.out]; exact List.take_length
                      rw [hall] at hcq ⊢
                      have HCB : Hid (onB s (L2.take (j + 1)) = (BO && decide (cnS s x.2.2 ≤ 1))) := by
                        show _ = _
                        rw [HON.out, HBO.out]
                      obtain ⟨C, hC⟩ : ∃ C, C = cnS s x.2.2 := ⟨_, rfl⟩
                      rw [← hC] at hcq ⊢
                      have HC : Hid (cnS s x.2.2 = C) := hC.symm
                      clear hC hall
                      cases BO with
                      | false =>
                        go_wp2
                        go_roundw
                        case rel => exact ⟨j + 1, by omega, by go_num, by rw [HCB.out]; rfl, by first | rfl | trivial⟩
                        case measure => simp [intOf]; omega
                      | true =>
                        go_wp2
                        go_roundw
                        case rel => exact ⟨j + 1, by omega, by go_num, by rw [HCB.out, HC.out, Bool.true_and]; first | rfl | (congr 1; simp; omega), by first | rfl | trivial⟩
                        case measure => simp [intOf]; omega
                · obtain rfl : j = n8 := by omega
                  have hall : L2.take j = L2 := by rw [← HLN.out]; exact List.take_length
                  rw [hall]
                  obtain ⟨hf1, hf2⟩ := HFB.out
                  cases hon : onB s L2 with
                  | false =>
                    have m1 : decide ((j : Int) < 1) = false := by simp; omega
                    go_wp2
                    go_roundw
                    case rel => exact ⟨k + 1, by omega, by go_num, HB9.out⟩
                    case measure => simp [intOf]; omega
                  | true =>
                    have hf3 := hf2 hon
                    have m1 : decide ((j : Int) < 1) = false := by simp; omega
                    have m2 : decide ((2 : Int) < (j : Int)) = false := by simp; omega
                    go_wp2
                    go_roundw
                    case rel => exact ⟨k + 1, by omega, by go_num, HB9.out⟩
                    case measure => simp [intOf]; omega
            · rw [no_ne h0]
              clear h0 HFT HN
              go_wp2
              go_roundw
              case rel => exact ⟨k + 1, by omega, by go_num, HB9.out⟩
              case measure => simp [intOf]; omega
          · rw [no_ne h0]
            clear h0
            go_wp2
            go_ret
            exact ⟨rfl, HB1.out.trans (HB4.out.mono HB1.out.size)⟩
        · have kb2 : decide ((k : Int) < 8) = false := by simp; omega
          have kb1 : decide ((k : Int) < (n2 : Int)) = true := by simp; omega
          clear hB
          go_wp2
          go_ret
          exact ⟨rfl, HB1.out.trans (HB.out.mono HB1.out.size)⟩
      · obtain rfl : k = n2 := by omega
        clear hB
        go_wp2
        go_ret
        exact ⟨rfl, HB1.out.trans (HB.out.mono HB1.out.size)⟩
end Go.Proofs.Ytmpjoepfgfbjmaa.mixFew
