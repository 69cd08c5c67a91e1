/- Contracts and facts on the way to NetTurns, joined into one text: TopoLine1, AsErr, AsErr2, SameNo, NetTurns, NetTurnsRow. -/
import Derived.Test.YtpmcjelihdlfeaaDoorNetTurnsP4
import Derived.Test.YtpmcjelihdlfeaaDoorNetTurnsP5
import Derived.Test.YtpmcjelihdlfeaaDoorNetTurnsP2
import Derived.Test.YtpmcjelihdlfeaaDoorRows
import Derived.WalkSpells
import Derived.Below
import Derived.WalkKit
import Derived.LaidEql
import Derived.Stop.Asserts
import Derived.RowKitTokens
import Derived.ProofKit
import Derived.OpenShut
import Derived.ChangeOld
import Derived.Lib.SmallJoins
import Derived.ChangeSame
import Derived.ChangeVars
import Derived.JoinedOf
import Derived.RowKit
import Derived.LaidLaws
import Derived.LaidHandle
import Derived.Stop.Joined
/- What raillaw4.line answers: a contract for the walks above it. -/
namespace Go.Proofs.YtpmcjelihdlfeaaDoor
open Go.RowKit
set_option linter.unusedSimpArgs false
set_option linter.unusedVariables false

/-- What holds all along: the answer's block, the topology's box, the links. -/
structure LN (w W : World) (n : Int) (v u : Value) (k : Nat) : Prop where
  below : Below w.heap.size w W
  r0 : W.cell? ⟨w.heap.size, 0, none⟩ = some (.int .i64 0)
  r1 : W.cell? ⟨w.heap.size, 1, none⟩ = some (.slice none 0 0)
  r2 : W.cell? ⟨w.heap.size, 2, none⟩ = some (.slice none 0 0)
  rf : ∀ i, W.frozen? ⟨w.heap.size, i, none⟩ = false
  c0 : W.cell? ⟨w.heap.size + 1, 0, none⟩ = some (.int .i64 n)
  c1 : W.cell? ⟨w.heap.size + 1, 1, none⟩ = some v
  c2 : W.cell? ⟨w.heap.size + 1, 2, none⟩ = some u
  cf : ∀ i, W.frozen? ⟨w.heap.size + 1, i, none⟩ = false
  lt : w.heap.size + 2 ≤ W.heap.size
  own : W.ownsRow (w.heap.size + 2) 91 4 v (lnTo k).length (cellsG lnkE (lnTo k))
theorem LN.low {w W W' : World} {n : Int} {v u : Value} {k : Nat} (h : LN w W n v u k) (hb : Below (w.heap.size + 2) W W') {v' : Value} {k' : Nat} (hv : v' = v) (ho : W'.ownsRow (w.heap.size + 2) 91 4 v' (lnTo k').length (cellsG lnkE (lnTo k'))) : LN w W' n v u k' := by
  subst hv
  have hc : ∀ (g i : Nat) (x : Value), g < w.heap.size + 2 → W.cell? ⟨g, i, none⟩ = some x → W'.cell? ⟨g, i, none⟩ = some x := fun g i x hg e => (hb.cell (p := ⟨g, i, none⟩) hg).trans e
  have hf : ∀ (g i : Nat), g < w.heap.size + 2 → W.frozen? ⟨g, i, none⟩ = false → W'.frozen? ⟨g, i, none⟩ = false := fun g i hg e => (hb.frozen (p := ⟨g, i, none⟩) hg).trans e
  exact ⟨h.below.trans (hb.mono (by omega)), hc _ _ _ (by omega) h.r0, hc _ _ _ (by omega) h.r1, hc _ _ _ (by omega) h.r2, fun i => hf _ _ (by omega) (h.rf i), hc _ _ _ (by omega) h.c0, hc _ _ _ (by omega) h.c1, hc _ _ _ (by omega) h.c2, fun i => hf _ _ (by omega) (h.cf i), Nat.le_trans h.lt hb.size, ho⟩
theorem LN.put1 {w W W2 : World} {n : Int} {v u v' : Value} {k : Nat} (h : LN w W n v u k) (hb : Below (w.heap.size + 2) W W2) (ho : W2.ownsRow (w.heap.size + 2) 91 4 v' (lnTo (k + 1)).length (cellsG lnkE (lnTo (k + 1)))) : LN w (W2.setCell ⟨w.heap.size + 1, 1, none⟩ v') n v' u (k + 1) := by
  have hc : ∀ (g i : Nat) (x : Value), g < w.heap.size + 2 → ¬ (g = w.heap.size + 1 ∧ i = 1) → W.cell? ⟨g, i, none⟩ = some x → (W2.setCell ⟨w.heap.size + 1, 1, none⟩ v').cell? ⟨g, i, none⟩ = some x := fun g i x hg hn e => by
    rw [World.cell?_setCell_other _ _ _ _ (fun e2 => by simp only [Addr.mk.injEq, and_true] at e2; exact hn ⟨e2.1.symm, e2.2.symm⟩)]
    exact (hb.cell (p := ⟨g, i, none⟩) hg).trans e
  have hf : ∀ (g i : Nat), g < w.heap.size + 2 → W.frozen? ⟨g, i, none⟩ = false → (W2.setCell ⟨w.heap.size + 1, 1, none⟩ v').frozen? ⟨g, i, none⟩ = false := fun g i hg e => by
    have h2 := (hb.frozen (p := ⟨g, i, none⟩) hg).trans e
    simpa using h2
  have h1 := (hb.cell (p := ⟨w.heap.size + 1, 1, none⟩) (by simp)).trans h.c1
  exact ⟨(h.below.trans (hb.mono (by omega))).setCell (p := ⟨w.heap.size + 1, 1, none⟩) (by simp) _, hc _ _ _ (by omega) (by omega) h.r0, hc _ _ _ (by omega) (by omega) h.r1, hc _ _ _ (by omega) (by omega) h.r2, fun i => hf _ _ (by omega) (h.rf i), hc _ _ _ (by omega) (by omega) h.c0, World.cell?_setCell_same _ _ _ h1, hc _ _ _ (by omega) (by omega) h.c2, fun i => hf _ _ (by omega) (h.cf i), by
    have := h.lt
    have h3 := hb.size
    simp
    omega, ownsRow_setCell_below ho (by simp) _⟩
theorem LN.put2 {w W W2 : World} {n : Int} {v u u' : Value} {k : Nat} (h : LN w W n v u k) (hb : Below (w.heap.size + 2) W W2) (ho : W2.ownsRow (w.heap.size + 2) 91 4 v (lnTo k).length (cellsG lnkE (lnTo k))) : LN w (W2.setCell ⟨w.heap.size + 1, 2, none⟩ u') n v u' k := by
  have hc : ∀ (g i : Nat) (x : Value), g < w.heap.size + 2 → ¬ (g = w.heap.size + 1 ∧ i = 2) → W.cell? ⟨g, i, none⟩ = some x → (W2.setCell ⟨w.heap.size + 1, 2, none⟩ u').cell? ⟨g, i, none⟩ = some x := fun g i x hg hn e => by
    rw [World.cell?_setCell_other _ _ _ _ (fun e2 => by simp only [Addr.mk.injEq, and_true] at e2; exact hn ⟨e2.1.symm, e2.2.symm⟩)]
    exact (hb.cell (p := ⟨g, i, none⟩) hg).trans e
  have hf : ∀ (g i : Nat), g < w.heap.size + 2 → W.frozen? ⟨g, i, none⟩ = false → (W2.setCell ⟨w.heap.size + 1, 2, none⟩ u').frozen? ⟨g, i, none⟩ = false := fun g i hg e => by
    have h2 := (hb.frozen (p := ⟨g, i, none⟩) hg).trans e
    simpa using h2
  have h1 := (hb.cell (p := ⟨w.heap.size + 1, 2, none⟩) (by simp)).trans h.c2
  exact ⟨(h.below.trans (hb.mono (by omega))).setCell (p := ⟨w.heap.size + 1, 2, none⟩) (by simp) _, hc _ _ _ (by omega) (by omega) h.r0, hc _ _ _ (by omega) (by omega) h.r1, hc _ _ _ (by omega) (by omega) h.r2, fun i => hf _ _ (by omega) (h.rf i), hc _ _ _ (by omega) (by omega) h.c0, hc _ _ _ (by omega) (by omega) h.c1, World.cell?_setCell_same _ _ _ h1, fun i => hf _ _ (by omega) (h.cf i), by
    have := h.lt
    have h3 := hb.size
    simp
    omega, ownsRow_setCell_below ho (by simp) _⟩
theorem ln_start (w : World) (n : Int) (w0 : World) (hw : (w.alloc (Obj.cells #[.int .i64 0, .slice none 0 0, .slice none 0 0] 25)).alloc (Obj.cells #[.int .i64 n, .slice none 0 0, .slice none 0 0] 25) = w0) : LN w w0 n (.slice none 0 0) (.slice none 0 0) 0 := by
  subst hw
  have e1 : (w.alloc (Obj.cells #[.int .i64 0, .slice none 0 0, .slice none 0 0] 25)).heap.size = w.heap.size + 1 := by simp
  have hb : ∀ (W : World) (o : Obj), Below W.heap.size W (W.alloc o) := fun W o => (Below.refl _ _).alloc (Nat.le_refl _) _
  have hr := (vat_new w [.int .i64 0, .slice none 0 0, .slice none 0 0] 25).later (hb _ (Obj.cells #[.int .i64 n, .slice none 0 0, .slice none 0 0] 25))
  have hs := vat_new (w.alloc (Obj.cells #[.int .i64 0, .slice none 0 0, .slice none 0 0] 25)) [.int .i64 n, .slice none 0 0, .slice none 0 0] 25
  have hg : ∀ (W : World) (cs : Array Value) (t : TypeId) (i : Nat), (W.alloc (.cells cs t)).frozen? ⟨W.heap.size, i, none⟩ = false := fun W cs t i => by simp
  have hf2 := hg (w.alloc (Obj.cells #[.int .i64 0, .slice none 0 0, .slice none 0 0] 25)) #[.int .i64 n, .slice none 0 0, .slice none 0 0] 25
  rw [e1] at hs hf2
  refine ⟨((Below.refl _ _).alloc (Nat.le_refl _) _).alloc (by rw [e1]; omega) _, hr 0 _ rfl, hr 1 _ rfl, hr 2 _ rfl, fun i => ?_, hs 0 _ rfl, hs 1 _ rfl, hs 2 _ rfl, hf2, by simp, World.ownsRow_nil _ _ _ _⟩
  exact ((hb _ _).frozen (p := ⟨w.heap.size, i, none⟩) (by simp)).trans (hg w _ _ i)

theorem ln_apart {w : World} {b1 e1 s1 n1 b2 e2 s2 n2 : Nat} {v1 v2 : Value} {x1 x2 : List Value} (h1 : w.ownsRow b1 e1 s1 v1 n1 x1) (h2 : w.ownsRow b2 e2 s2 v2 n2 x2) (he : e1 ≠ e2) : v1.ownBlock = none ∨ v1.ownBlock ≠ v2.ownBlock := by
  rcases h1.2 with ⟨rfl, _⟩ | ⟨g, cap, cur, rfl, _, hg, _⟩
  · exact .inl rfl
  · refine .inr ?_
    rcases h2.2 with ⟨rfl, _⟩ | ⟨g2, cap2, cur2, rfl, _, hg2, _⟩
    · exact fun h => by cases h
    · intro h
      simp only [Value.ownBlock, Option.some.injEq] at h
      subst h
      rw [hg] at hg2
      simp only [Option.some.injEq, Obj.cells.injEq] at hg2
      exact he hg2.2.1
/-- Three cells of one block are set. -/
def set3 (W : World) (g : Nat) (u v x : Value) : World := ((W.setCell ⟨g, 0, none⟩ u).setCell ⟨g, 1, none⟩ v).setCell ⟨g, 2, none⟩ x
theorem below3 {w W : World} (h : Below w.heap.size w W) (g : Nat) (hg : w.heap.size ≤ g) (u v x : Value) : Below w.heap.size w (set3 W g u v x) := ((h.setCell (p := ⟨g, 0, none⟩) hg u).setCell (p := ⟨g, 1, none⟩) hg v).setCell (p := ⟨g, 2, none⟩) hg x
theorem own_set3 {W : World} {B e size n : Nat} {v : Value} {xs : List Value} (h : W.ownsRow B e size v n xs) (g : Nat) (hg : g < B) (a b c : Value) : (set3 W g a b c).ownsRow B e size v n xs := ownsRow_setCell_below (ownsRow_setCell_below (ownsRow_setCell_below h hg _) hg _) hg _

set_option maxHeartbeats 2000000 in
set_option maxRecDepth 100000 in
theorem line_any (N : Nat) (w : World) (h1 : 1 ≤ N) (h7 : N ≤ 7) :
    Calls Tryd.prog 20 #[.int .i64 (N : Int)] w fun e w' => ∃ ao n cap ao2 n2 cap2, e = .returned (.agg #[.int .i64 (N : Int), .slice ao n cap, .slice ao2 n2 cap2]) ∧ GS lnkE w' (.slice ao n cap) (lnTo (N - 1)) ∧ GS hstE w' (.slice ao2 n2 cap2) (lnH (N : Int)) ∧ Below w.heap.size w w' := by
  obtain ⟨i0, hi, hz0, hz1, hz2⟩ := info_parts lnk_info
  obtain ⟨j0, hj, hy0, hy1, hy2⟩ := info_parts hst_info
  obtain ⟨wa, hwa⟩ : ∃ W, w.alloc (Obj.cells #[.int .i64 0, .slice none 0 0, .slice none 0 0] 25) = W := ⟨_, rfl⟩
  obtain ⟨w0, hw0⟩ : ∃ W, wa.alloc (Obj.cells #[.int .i64 (N : Int), .slice none 0 0, .slice none 0 0] 25) = W := ⟨_, rfl⟩
  have HS : Hid (LN w w0 (N : Int) (.slice none 0 0) (.slice none 0 0) 0) := ln_start w _ w0 (by rw [hwa]; exact hw0)
  have HSZ : Hid (wa.heap.size = w.heap.size + 1) := by
    show _ = _
    rw [← hwa]
    simp
  have HW0 : Hid (wa.alloc (Obj.cells #[.int .i64 (N : Int), .slice none 0 0, .slice none 0 0] 25) = w0) := hw0
  clear hw0
  go_enter Tryd.func20, Tryd.ntmps20
  go_wp2
  rw [HW0.out, HSZ.out]
  go_loopw [4] (fun i wr => ∃ (k : Nat) (v : Value), k + 1 ≤ N ∧ i = .int .i64 ((k : Int) + 1) ∧ LN w wr (N : Int) v (.slice none 0 0) k) (fun i _ => N - (intOf i).toNat)
  case atStart => exact ⟨0, _, h1, rfl, HS.out⟩
  case round =>
    obtain ⟨k, v, hk, rfl, hL⟩ := hrel
    have HL : Hid (LN w wr (N : Int) v (.slice none 0 0) k) := hL
    obtain ⟨_, r0, r1, r2, rf, c0, c1, c2, cf, hlt, hown⟩ := hL
    have f1 := cf 1
    have f2 := cf 2
    clear HS HW0 hwa
    by_cases hlt2 : k + 1 < N
    · have hl : (k : Int) + 1 < (N : Int) := by omega
      have hw2 : IntKind.i64.wrap ((k : Int) + 1 + 1) = (k : Int) + 1 + 1 := wrap_small (by omega) (by omega)
      have hlen := ln_len k
      have HOWN : Hid (wr.ownsRow (w.heap.size + 2) 91 4 v (lnTo k).length (cellsG lnkE (lnTo k))) := hown
      clear hown rf cf
      go_wp2_with (at_builtin; refine wpList_append_own _ rfl _ _ 22 rfl (w.heap.size + 2) 91 i0 (.agg #[.int .i64 0, .int .i64 0, .int .i64 0, .int .i64 0]) 4 32 Tryd.underlying22 hi hz0 hz1 hz2 lnk_zero (by decide) _ _ _ rfl (HOWN.out.alloc _) ⟨wr.heap.size, 0, none⟩ 1 1 [.int .i64 ((k : Int) + 1), .int .i64 2, .int .i64 ((k : Int) + 1 + 1), .int .i64 1] rfl rfl ?c1 ?c2 ?c3 ?c4 ?c5 ?_)
      case c1 =>
        intro j u hj
        match j, hj with
        | 0, hj => simp at hj; subst hj; simp [Addr.add]
        | 1, hj => simp at hj; subst hj; simp [Addr.add]
        | 2, hj => simp at hj; subst hj; simp [Addr.add]
        | 3, hj => simp at hj; subst hj; simp [Addr.add]
      case c2 => intro u hu; simp at hu; rcases hu with rfl | rfl | rfl | rfl <;> rfl
      case c3 => unfold maxLen; omega
      case c4 => omega
      case c5 => simp; omega
      intro v' w3 hown3 hgrow _
      obtain ⟨ao3, cap3, rfl⟩ := own_form hown3
      have hb3 : Below (w.heap.size + 2) wr w3 := ((Below.refl _ wr).alloc (by omega) _).grown hgrow (by simp; omega) (fun g hg => (HOWN.out.lt g hg).1)
      have HN : Hid (LN w (w3.setCell ⟨w.heap.size + 1, 1, none⟩ (.slice ao3 (k + 1) cap3)) (N : Int) (.slice ao3 (k + 1) cap3) (.slice none 0 0) (k + 1)) := by
        refine HL.out.put1 hb3 ?_
        have e : lnTo (k + 1) = lnTo k ++ [(((k : Int) + 1, 2), ((k : Int) + 1 + 1, 1))] := rfl
        rw [ln_len, e, cellsG_app, cellsG_one]
        have h3 := hown3
        try rw [ln_len] at h3
        exact h3
      have d1 := (hb3.cell (p := ⟨w.heap.size + 1, 1, none⟩) (by simp)).trans c1
      have d0 := (hb3.cell (p := ⟨w.heap.size + 1, 0, none⟩) (by simp)).trans c0
      have g1 := (hb3.frozen (p := ⟨w.heap.size + 1, 1, none⟩) (by simp)).trans f1
      clear hb3 hgrow hown3
      go_wp2
      go_roundw
      case rel => exact ⟨k + 1, _, by omega, by go_num, HN.out⟩
      case measure => simp [intOf]; omega
    · obtain rfl : N = k + 1 := by omega
      have hl : ¬ ((k : Int) + 1 < ((k + 1 : Nat) : Int)) := by omega
      have HOWN : Hid (wr.ownsRow (w.heap.size + 2) 91 4 v (lnTo k).length (cellsG lnkE (lnTo k))) := hown
      clear hown rf cf
      go_wp2_with (at_builtin; refine wpList_append_own _ rfl _ _ 23 rfl (w.heap.size + 2) 57 j0 (.agg #[.string ByteArray.empty, .int .i64 0, .int .i64 0]) 3 32 Tryd.underlying23 hj hy0 hy1 hy2 hst_zero (by decide) _ _ _ rfl (World.ownsRow_nil _ _ _ _) ⟨wr.heap.size, 0, none⟩ 1 1 [.string ⟨#[97]⟩, .int .i64 1, .int .i64 3] rfl rfl ?c1 ?c2 ?c3 ?c4 ?c5 ?_)
      case c2 => first | exact ⟨rfl, rfl, rfl⟩ | (intro u hu; simp at hu; rcases hu with rfl | rfl | rfl <;> rfl)
      case c3 => unfold maxLen; omega
      case c5 => first | omega | (simp; omega)
      intro v3 w3 hown3 hgrow _
      obtain ⟨ao3, cap3, rfl⟩ := own_form hown3
      have hb3 : Below (w.heap.size + 2) wr w3 := ((Below.refl _ wr).alloc (by omega) _).grown hgrow (by simp; omega) (fun g hg => by cases hg)
      have hk3 : w3.ownsRow (w.heap.size + 2) 91 4 v (lnTo k).length (cellsG lnkE (lnTo k)) := (HOWN.out.alloc _).kept hgrow (by cases hv : v.ownBlock <;> simp [Value.ownBlock])
      have hN3 : LN w (w3.setCell ⟨w.heap.size + 1, 2, none⟩ (.slice ao3 1 cap3)) ((k + 1 : Nat) : Int) v (.slice ao3 1 cap3) k := HL.out.put2 hb3 hk3
      have hO3 : (w3.setCell ⟨w.heap.size + 1, 2, none⟩ (.slice ao3 1 cap3)).ownsRow (w.heap.size + 2) 57 3 (.slice ao3 1 cap3) 1 [.string ⟨#[97]⟩, .int .i64 1, .int .i64 3] := ownsRow_setCell_below hown3 (by simp) _
      have d2 := (hb3.cell (p := ⟨w.heap.size + 1, 2, none⟩) (by simp)).trans c2
      have g2 := (hb3.frozen (p := ⟨w.heap.size + 1, 2, none⟩) (by simp)).trans f2
      obtain ⟨w4, hw4⟩ : ∃ W, w3.setCell ⟨w.heap.size + 1, 2, none⟩ (.slice ao3 1 cap3) = W := ⟨_, rfl⟩
      rw [hw4] at hN3 hO3
      have HN3 : Hid (LN w w4 ((k + 1 : Nat) : Int) v (.slice ao3 1 cap3) k) := hN3
      have HO3 : Hid (w4.ownsRow (w.heap.size + 2) 57 3 (.slice ao3 1 cap3) 1 [.string ⟨#[97]⟩, .int .i64 1, .int .i64 3]) := hO3
      have HW4 : Hid (w3.setCell ⟨w.heap.size + 1, 2, none⟩ (.slice ao3 1 cap3) = w4) := hw4
      have e2 := hN3.c2
      have f2' := hN3.cf 2
      have hlt4 := hN3.lt
      clear hb3 hk3 hN3 hO3 hgrow hown3 hw4 r0 r1 r2 c0 c1 c2 f1 f2 HOWN
      go_upto_region 7 with fail
      rw [HW4.out]
      clear d2 g2
      go_wp2_with (at_builtin; refine wpList_append_own _ rfl _ _ 23 rfl (w.heap.size + 2) 57 j0 (.agg #[.string ByteArray.empty, .int .i64 0, .int .i64 0]) 3 32 Tryd.underlying23 hj hy0 hy1 hy2 hst_zero (by decide) _ _ _ rfl (HO3.out.alloc _) ⟨w4.heap.size, 0, none⟩ 1 1 [.string ⟨#[98]⟩, .int .i64 ((k : Int) + 1), .int .i64 4] rfl rfl ?m1 ?m2 ?m3 ?m4 ?m5 ?_)
      case m1 =>
        intro j u hj
        match j, hj with
        | 0, hj => simp at hj; subst hj; simp [Addr.add]
        | 1, hj => simp at hj; subst hj; simp [Addr.add]
        | 2, hj => simp at hj; subst hj; simp [Addr.add]
      case m2 => intro u hu; simp at hu; rcases hu with rfl | rfl | rfl <;> rfl
      case m3 => unfold maxLen; omega
      case m4 => omega
      case m5 => simp; omega
      intro v5 w5 hown5 hgrow5 _
      obtain ⟨ao5, cap5, rfl⟩ := own_form hown5
      have hb5 : Below (w.heap.size + 2) w4 w5 := ((Below.refl _ w4).alloc (by omega) _).grown hgrow5 (by simp; omega) (fun g hg => (HO3.out.lt g hg).1)
      have hk5 : w5.ownsRow (w.heap.size + 2) 91 4 v (lnTo k).length (cellsG lnkE (lnTo k)) := (HN3.out.own.alloc _).kept hgrow5 (ln_apart HN3.out.own HO3.out (by decide))
      have hN5 : LN w (w5.setCell ⟨w.heap.size + 1, 2, none⟩ (.slice ao5 2 cap5)) ((k + 1 : Nat) : Int) v (.slice ao5 2 cap5) k := HN3.out.put2 hb5 hk5
      have hO5 : (w5.setCell ⟨w.heap.size + 1, 2, none⟩ (.slice ao5 2 cap5)).ownsRow (w.heap.size + 2) 57 3 (.slice ao5 2 cap5) (lnH ((k + 1 : Nat) : Int)).length (cellsG hstE (lnH ((k + 1 : Nat) : Int))) := ownsRow_setCell_below hown5 (by simp) _
      have d2 := (hb5.cell (p := ⟨w.heap.size + 1, 2, none⟩) (by simp)).trans e2
      have g2 := (hb5.frozen (p := ⟨w.heap.size + 1, 2, none⟩) (by simp)).trans f2'
      obtain ⟨w6, hw6⟩ : ∃ W, w5.setCell ⟨w.heap.size + 1, 2, none⟩ (.slice ao5 2 cap5) = W := ⟨_, rfl⟩
      rw [hw6] at hN5 hO5
      have HN5 : Hid (LN w w6 ((k + 1 : Nat) : Int) v (.slice ao5 2 cap5) k) := hN5
      have HGH : Hid (∀ a b c, GS hstE (set3 w6 w.heap.size a b c) (.slice ao5 2 cap5) (lnH ((k + 1 : Nat) : Int))) := fun a b c => own_GS (own_set3 hO5 _ (by omega) a b c)
      have HGL : Hid (∀ a b c, GS lnkE (set3 w6 w.heap.size a b c) v (lnTo k)) := fun a b c => own_GS (own_set3 hN5.own _ (by omega) a b c)
      have HW6 : Hid (w5.setCell ⟨w.heap.size + 1, 2, none⟩ (.slice ao5 2 cap5) = w6) := hw6
      obtain ⟨aoL, capL, hvL⟩ := own_form hN5.own
      have HVL : Hid (v = .slice aoL (lnTo k).length capL) := hvL
      clear hb5 hk5 hN5 hO5 hgrow5 hown5 hw6 e2 f2' HN3 HO3 hvL
      go_upto_region 8 with fail
      rw [HW6.out]
      obtain ⟨hB6, r0, r1, r2, rf, c0, c1, c2, _, hlt6, _⟩ := HN5.out
      rw [HVL.out] at c1
      have rf0 := rf 0
      have rf1 := rf 1
      have rf2 := rf 2
      have HB6 : Hid (Below w.heap.size w w6) := hB6
      clear d2 g2 rf hB6 HW6
      go_wp2
      have e0 : k + 1 - 1 = k := by omega
      refine bodyPost_ret (v := .agg #[.int .i64 ((k + 1 : Nat) : Int), .slice aoL (lnTo k).length capL, .slice ao5 2 cap5]) (by simp [results, Tryd.results20, go_sem, *]) rfl ⟨aoL, _, capL, ao5, 2, cap5, rfl, ?_, ?_, below3 HB6.out _ (Nat.le_refl _) _ _ _⟩
      · rw [e0, ← HVL.out]
        exact HGL.out _ _ _
      · exact HGH.out _ _ _
end Go.Proofs.YtpmcjelihdlfeaaDoor
/- What errors.As, plain.Told and railsame.Error answer for no error and for an Errno: contracts for the walks above them. -/
namespace Go.Proofs.YtpmcjelihdlfeaaDoor
open Go.RowKit Go.Extern.Stop Go.Stop Go.Extern
set_option linter.unusedSimpArgs false

/-- What package errors' variable holds: the handle of the type error. -/
def HasErr (w : World) : Prop := w.cell? ⟨0, 0, none⟩ = some (.iface 158 (.agg #[.pointer (some ⟨1, 34, none⟩)]))
theorem HasErr.later {w w' : World} (h : HasErr w) (hb : Below w.heap.size w w') : HasErr w' := cell_later hb h
theorem HasErr.alloc {w : World} (h : HasErr w) (o : Obj) : HasErr (w.alloc o) := h.later ((Below.refl _ _).alloc (Nat.le_refl _) _)

theorem vOfP (t : Addr) (w : World) : (ReflectliteValue.unpack (.iface 109 (.pointer (some t)))).run Tryd.prog w
    = .ok (.agg #[.pointer (some ⟨1, 109, none⟩), .pointer (some ⟨w.heap.size, 0, none⟩), .int .u64 150]) (w.alloc (.cells #[.pointer (some t)] 109)) := by kernel_rfl
theorem typeP (a : Addr) (w : World) : (ReflectliteValue.methodAny (ReflectliteValue.valueError "reflectlite.Value.Type" 0) (fun t _ _ _ => ReflectliteType.toType t) #[.agg #[.pointer (some ⟨1, 109, none⟩), .pointer (some a), .int .u64 150]]).run Tryd.prog w
    = .ok (.iface 158 (.agg #[.pointer (some ⟨1, 109, none⟩)])) w := by kernel_rfl
theorem methKind (h : Value) (w : World) : (Go.method 311 158 (.agg #[h]) "Kind").run Tryd.prog w = .ok (117, h) w := by kernel_rfl
theorem kindP (w : World) : ((ReflectliteType.abiMethod fun t => Functor.map (fun a : Nat => Value.int IntKind.u8 (a : Int)) (Rtype.kind t)) #[.pointer (some ⟨1, 109, none⟩)]).run Tryd.prog w = .ok (.int .u8 22) w := by kernel_rfl
theorem kindE (w : World) : ((ReflectliteType.abiMethod fun t => Functor.map (fun a : Nat => Value.int IntKind.u8 (a : Int)) (Rtype.kind t)) #[.pointer (some ⟨1, 75, none⟩)]).run Tryd.prog w = .ok (.int .u8 2) w := by kernel_rfl
theorem partsP (a : Addr) (w : World) : (ReflectliteValue.parts (.agg #[.pointer (some ⟨1, 109, none⟩), .pointer (some a), .int .u64 150])).run Tryd.prog w = .ok (some (109, a, 150)) w := by kernel_rfl
theorem isNilP (a p : Addr) (W : World) (ha : W.cell? a = some (.pointer (some p))) :
    (ReflectliteValue.method (ReflectliteValue.valueError "reflectlite.Value.IsNil" 0) ReflectliteValue.isNil #[.agg #[.pointer (some ⟨1, 109, none⟩), .pointer (some a), .int .u64 150]]).run Tryd.prog W = .ok (.bool false) W := by
  change Sem.run _ (ReflectliteValue.parts (.agg #[.pointer (some ⟨1, 109, none⟩), .pointer (some a), .int .u64 150]) >>= _) _ = _
  rw [Sem.run_bind, partsP]
  simp only [Result.andThen]
  simp [ReflectliteValue.isNil, loadVar, isAgg, underlying, Tryd.underlying109, ha, Result.andThen]
theorem methElem (h : Value) (w : World) : (Go.method 311 158 (.agg #[h]) "Elem").run Tryd.prog w = .ok (127, .agg #[h]) w := by kernel_rfl
theorem methImpl (h : Value) (w : World) : (Go.method 311 158 (.agg #[h]) "Implements").run Tryd.prog w = .ok (128, .agg #[h]) w := by kernel_rfl
theorem methAssign (h : Value) (w : World) : (Go.method 311 158 (.agg #[h]) "AssignableTo").run Tryd.prog w = .ok (125, .agg #[h]) w := by kernel_rfl
theorem elemP (w : World) : (ReflectliteType.method ReflectliteType.elem #[.agg #[.pointer (some ⟨1, 109, none⟩)]]).run Tryd.prog w = .ok (.iface 158 (.agg #[.pointer (some ⟨1, 75, none⟩)])) w := by kernel_rfl
theorem implE (w : World) : (ReflectliteType.relation "Implements" ReflectliteType.implements_ #[.agg #[.pointer (some ⟨1, 75, none⟩)], .iface 158 (.agg #[.pointer (some ⟨1, 34, none⟩)])]).run Tryd.prog w = .ok (.bool true) w := by kernel_rfl
theorem typeOfE (v : Value) (w : World) : (ReflectliteType.typeOf #[.iface 75 v]).run Tryd.prog w = .ok (.iface 158 (.agg #[.pointer (some ⟨1, 75, none⟩)])) w := by kernel_rfl
theorem assignE (w : World) : (ReflectliteType.relation "AssignableTo" ReflectliteType.assignableTo #[.agg #[.pointer (some ⟨1, 75, none⟩)], .iface 158 (.agg #[.pointer (some ⟨1, 75, none⟩)])]).run Tryd.prog w = .ok (.bool true) w := by kernel_rfl
theorem vOfE (n : Int) (w : World) : (ReflectliteValue.unpack (.iface 75 (.int .i64 n))).run Tryd.prog w
    = .ok (.agg #[.pointer (some ⟨1, 75, none⟩), .pointer (some ⟨w.heap.size, 0, none⟩), .int .u64 130]) (w.alloc (.cells #[.int .i64 n] 75)) := by kernel_rfl
theorem elemOfP (w : World) : (Rtype.elem? 109).run Tryd.prog w = .ok (some 75) w := by kernel_rfl
theorem mkE (p : Addr) (w : World) : (ReflectliteValue.mk 75 p ReflectliteValue.flagAddr).run Tryd.prog w = .ok (.agg #[.pointer (some ⟨1, 75, none⟩), .pointer (some p), .int .u64 386]) w := by kernel_rfl
theorem elemVP (a p : Addr) (W : World) (ha : W.cell? a = some (.pointer (some p))) :
    (ReflectliteValue.method (ReflectliteValue.valueError "reflectlite.Value.Elem" 0) ReflectliteValue.elem #[.agg #[.pointer (some ⟨1, 109, none⟩), .pointer (some a), .int .u64 150]]).run Tryd.prog W
      = .ok (.agg #[.pointer (some ⟨1, 75, none⟩), .pointer (some p), .int .u64 386]) W := by
  change Sem.run _ (ReflectliteValue.parts (.agg #[.pointer (some ⟨1, 109, none⟩), .pointer (some a), .int .u64 150]) >>= _) _ = _
  rw [Sem.run_bind, partsP]
  simp only [Result.andThen]
  simp [ReflectliteValue.elem, loadVar, isAgg, underlying, Tryd.underlying109, ha, Result.andThen, elemOfP, mkE]
theorem partsEa (a : Addr) (w : World) : (ReflectliteValue.parts (.agg #[.pointer (some ⟨1, 75, none⟩), .pointer (some a), .int .u64 386])).run Tryd.prog w = .ok (some (75, a, 386)) w := by kernel_rfl
theorem partsE (a : Addr) (w : World) : (ReflectliteValue.parts (.agg #[.pointer (some ⟨1, 75, none⟩), .pointer (some a), .int .u64 130])).run Tryd.prog w = .ok (some (75, a, 130)) w := by kernel_rfl
theorem directE (w : World) : (Rtype.directlyAssignable 75 75).run Tryd.prog w = .ok true w := by kernel_rfl
/-- Set: the Errno variable at 'ta' gets what the Value's own variable 'b' holds. -/
theorem setE (ta b : Addr) (n : Int) (old : Value) (W : World) (hb : W.cell? b = some (.int .i64 n)) (ht : W.cell? ta = some old) (hf : W.frozen? ta = false) :
    (ReflectliteValue.set #[.agg #[.pointer (some ⟨1, 75, none⟩), .pointer (some ta), .int .u64 386], .agg #[.pointer (some ⟨1, 75, none⟩), .pointer (some b), .int .u64 130]]).run Tryd.prog W
      = .ok (.tuple #[]) (W.setCell ta (.int .i64 n)) := by
  change Sem.run _ (ReflectliteValue.parts (.agg #[.pointer (some ⟨1, 75, none⟩), .pointer (some ta), .int .u64 386]) >>= _) _ = _
  rw [Sem.run_bind, partsEa]
  simp only [Result.andThen]
  change Sem.run _ (ReflectliteValue.parts (.agg #[.pointer (some ⟨1, 75, none⟩), .pointer (some b), .int .u64 130]) >>= _) _ = _
  rw [Sem.run_bind, partsE]
  simp only [Result.andThen]
  simp [ReflectliteValue.flagAddr, loadVar, isAgg, underlying, Tryd.underlying75, hb, Result.andThen, directE, storeVar, Value.cells, storeCells, Addr.add]
  rw [run_store Tryd.prog W ta _ _ (by rfl)]
  simp [ht, hf]
end Go.Proofs.YtpmcjelihdlfeaaDoor
/- What errors.As, plain.Told and railsame.Error answer for no error and for an Errno: the walks. -/
namespace Go.Proofs.YtpmcjelihdlfeaaDoor
open Go.RowKit Go.Extern.Stop Go.Stop Go.Extern
set_option linter.unusedSimpArgs false

set_option maxHeartbeats 4000000 in
theorem as_hit (n : Int) (t : Addr) (old : Value) (w : World) (hg : HasErr w) (ht0 : w.cell? t = some old) (hf0 : w.frozen? t = false) :
    Calls Tryd.prog 48 #[.iface 75 (.int .i64 n), .iface 109 (.pointer (some t))] w fun ev w' => ev = .returned (.bool true) ∧ w' = ((((w.alloc (.cells #[.pointer (some t)] 109)).alloc (.cells #[.pointer (some ⟨1, 109, none⟩), .pointer (some ⟨w.heap.size, 0, none⟩), .int .u64 150] 140)).alloc (.cells #[.pointer (some ⟨1, 109, none⟩), .pointer (some ⟨w.heap.size, 0, none⟩), .int .u64 150] 140)).alloc (.cells #[.int .i64 n] 75)).setCell t (.int .i64 n) := by
  unfold HasErr at hg
  have h6 := @run_callFunc_extern Tryd.prog 71 _ (fun args => ReflectliteValue.unpack (args.getD 0 (.tuple #[]))) Tryd.func71 (by kernel_rfl) (by kernel_rfl) (by kernel_rfl) (by kernel_rfl)
  have h7 := @run_callFunc_extern Tryd.prog 72 _ (ReflectliteValue.methodAny (ReflectliteValue.valueError "reflectlite.Value.Type" 0) (fun t _ _ _ => ReflectliteType.toType t)) Tryd.func72 (by kernel_rfl) (by kernel_rfl) (by kernel_rfl) (by kernel_rfl)
  have h8 := @run_callFunc_extern Tryd.prog 73 _ (ReflectliteValue.method (ReflectliteValue.valueError "reflectlite.Value.IsNil" 0) ReflectliteValue.isNil) Tryd.func73 (by kernel_rfl) (by kernel_rfl) (by kernel_rfl) (by kernel_rfl)
  have h27 := @run_callFunc_extern Tryd.prog 117 _ (ReflectliteType.abiMethod fun t => do pure (.int .u8 (← Rtype.kind t))) Tryd.func117 (by kernel_rfl) (by kernel_rfl) (by kernel_rfl) (by kernel_rfl)
  have h37 := @run_callFunc_extern Tryd.prog 127 _ (ReflectliteType.method ReflectliteType.elem) Tryd.func127 (by kernel_rfl) (by kernel_rfl) (by kernel_rfl) (by kernel_rfl)
  have h38 := @run_callFunc_extern Tryd.prog 128 _ (ReflectliteType.relation "Implements" ReflectliteType.implements_) Tryd.func128 (by kernel_rfl) (by kernel_rfl) (by kernel_rfl) (by kernel_rfl)
  have h10 := @run_callFunc_extern Tryd.prog 90 _ ReflectliteType.typeOf Tryd.func90 (by kernel_rfl) (by kernel_rfl) (by kernel_rfl) (by kernel_rfl)
  have h35 := @run_callFunc_extern Tryd.prog 125 _ (ReflectliteType.relation "AssignableTo" ReflectliteType.assignableTo) Tryd.func125 (by kernel_rfl) (by kernel_rfl) (by kernel_rfl) (by kernel_rfl)
  have h11 := @run_callFunc_extern Tryd.prog 91 _ (ReflectliteValue.method (ReflectliteValue.valueError "reflectlite.Value.Elem" 0) ReflectliteValue.elem) Tryd.func91 (by kernel_rfl) (by kernel_rfl) (by kernel_rfl) (by kernel_rfl)
  have h12 := @run_callFunc_extern Tryd.prog 92 _ ReflectliteValue.set Tryd.func92 (by kernel_rfl) (by kernel_rfl) (by kernel_rfl) (by kernel_rfl)
  have tO := typeOfE
  have mA := methAssign
  have a25 := assignE
  have v25 := vOfE
  have f6 := vOfP
  have f7 := typeP
  have mK := methKind
  have mE := methElem
  have mI := methImpl
  have k27 := kindP
  have k25 := kindE
  have e27 := elemP
  have i25 := implE
  have hlt : 0 < w.heap.size := World.block_lt_of_cell? _ _ hg
  have htl : t.block < w.heap.size := World.block_lt_of_cell? _ _ ht0
  have n8 := isNilP ⟨w.heap.size, 0, none⟩ t ((w.alloc (.cells #[.pointer (some t)] 109)).alloc (.cells #[.pointer (some ⟨1, 109, none⟩), .pointer (some ⟨w.heap.size, 0, none⟩), .int .u64 150] 140)) (by simp)
  have hg2 : ((w.alloc (.cells #[.pointer (some t)] 109)).alloc (.cells #[.pointer (some ⟨1, 109, none⟩), .pointer (some ⟨w.heap.size, 0, none⟩), .int .u64 150] 140)).cell? ⟨0, 0, none⟩ = some (.iface 158 (.agg #[.pointer (some ⟨1, 34, none⟩)])) := by
    rw [World.cell?_alloc_lt _ _ ⟨0, 0, none⟩ (by simp <;> omega), World.cell?_alloc_lt _ _ ⟨0, 0, none⟩ hlt]; exact hg
  have el := elemVP ⟨w.heap.size, 0, none⟩ t (((w.alloc (.cells #[.pointer (some t)] 109)).alloc (.cells #[.pointer (some ⟨1, 109, none⟩), .pointer (some ⟨w.heap.size, 0, none⟩), .int .u64 150] 140)).alloc (.cells #[.pointer (some ⟨1, 109, none⟩), .pointer (some ⟨w.heap.size, 0, none⟩), .int .u64 150] 140)) (by rw [World.cell?_alloc_lt _ _ ⟨w.heap.size, 0, none⟩ (by simp; omega)]; simp)
  have st := setE t ⟨w.heap.size + 1 + 1 + 1, 0, none⟩ n old ((((w.alloc (.cells #[.pointer (some t)] 109)).alloc (.cells #[.pointer (some ⟨1, 109, none⟩), .pointer (some ⟨w.heap.size, 0, none⟩), .int .u64 150] 140)).alloc (.cells #[.pointer (some ⟨1, 109, none⟩), .pointer (some ⟨w.heap.size, 0, none⟩), .int .u64 150] 140)).alloc (.cells #[.int .i64 n] 75))
    (by rw [World.cell?_alloc_at _ _ _ _ (by simp)]; rfl)
    (by rw [World.cell?_alloc_lt _ _ t (by simp; omega), World.cell?_alloc_lt _ _ t (by simp; omega), World.cell?_alloc_lt _ _ t (by simp; omega), World.cell?_alloc_lt _ _ t htl]; exact ht0)
    (by rw [World.frozen?_alloc_old _ _ t (by simp; omega), World.frozen?_alloc_old _ _ t (by simp; omega), World.frozen?_alloc_old _ _ t (by simp; omega), World.frozen?_alloc_old _ _ t (Nat.ne_of_lt htl)]; exact hf0)
  go_enter Tryd.func48, Tryd.ntmps48
  go_wp2
  refine wp_loop_rounds 1 ?_
  rw [rounds_succ]
  go_wp2
  go_ret
  exact ⟨rfl, rfl⟩

set_option maxHeartbeats 1000000 in
theorem told_nil (w : World) :
    Calls Tryd.prog 26 #[.nilIface] w fun e w' => e = .returned (.int .i64 0) ∧ Below w.heap.size w w' := by
  go_enter Tryd.func26, Tryd.ntmps26
  go_wp2
  go_ret
  exact ⟨rfl, Below.refl _ _⟩

set_option maxHeartbeats 1000000 in
theorem told_some (n : Int) (w : World) (hg : HasErr w) :
    Calls Tryd.prog 26 #[.iface 75 (.int .i64 n)] w fun e w' => e = .returned (.int .i64 n) ∧ Below w.heap.size w w' := by
  have HG : Hid (HasErr w) := hg
  clear hg
  go_enter Tryd.func26, Tryd.ntmps26
  go_wp2_with fail
  refine (as_hit n _ (.int .i64 0) _ (HG.out.alloc _) (by simp) (by simp)).mono ?_
  rintro e w' ⟨rfl, rfl⟩
  go_wp2
  go_ret
  refine ⟨rfl, ?_⟩
  exact ((((((Below.refl _ _).alloc (Nat.le_refl _) _).alloc (by simp) _).alloc (by simp; omega) _).alloc (by simp; omega) _).alloc (by simp; omega) _)

set_option maxHeartbeats 1000000 in
theorem same_nil (k : Int) (w : World) :
    Calls Tryd.prog 8 #[.nilIface, .int .i64 k] w fun e w' => e = .returned (.bool (0 == k)) ∧ Below w.heap.size w w' := by
  go_enter Tryd.func8, Tryd.ntmps8
  go_wp2_with fail
  refine (told_nil _).mono ?_
  rintro e w' ⟨rfl, hb⟩
  go_wp2
  go_ret
  exact ⟨rfl, hb⟩

set_option maxHeartbeats 1000000 in
theorem same_some (n k : Int) (w : World) (hg : HasErr w) :
    Calls Tryd.prog 8 #[.iface 75 (.int .i64 n), .int .i64 k] w fun e w' => e = .returned (.bool (n == k)) ∧ Below w.heap.size w w' := by
  have HG : Hid (HasErr w) := hg
  clear hg
  go_enter Tryd.func8, Tryd.ntmps8
  go_wp2_with fail
  refine (told_some n _ HG.out).mono ?_
  rintro e w' ⟨rfl, hb⟩
  go_wp2
  go_ret
  exact ⟨rfl, hb⟩
end Go.Proofs.YtpmcjelihdlfeaaDoor
/- What railsame.Error answers at the error of a number and this number. -/
namespace Go.Proofs.YtpmcjelihdlfeaaDoor
open Go.RowKit

theorem same_noV (n : Int) (w : World) (hg : HasErr w) :
    Calls Tryd.prog 8 #[noV n, .int .i64 n] w fun e w' => e = .returned (.bool true) ∧ Below w.heap.size w w' := by
  by_cases h : n = 0
  · subst h
    refine (same_nil _ w).mono ?_
    rintro e w' ⟨rfl, hb⟩
    exact ⟨by simp, hb⟩
  · rw [no_ne h]
    refine (same_some _ _ w hg).mono ?_
    rintro e w' ⟨rfl, hb⟩
    exact ⟨by simp, hb⟩
end Go.Proofs.YtpmcjelihdlfeaaDoor
/- The walk of NetTurns: it answers true, whatever number it is called with. -/
namespace Go.Proofs.YtpmcjelihdlfeaaDoor.netTurns
open Go.RowKit
set_option linter.unusedSimpArgs false
set_option linter.unusedVariables false

theorem line_2 (w : World) : Calls Tryd.prog 20 #[.int .i64 2] w fun e w' => ∃ ao n cap ao2 n2 cap2, e = .returned (.agg #[.int .i64 2, .slice ao n cap, .slice ao2 n2 cap2]) ∧ GS lnkE w' (.slice ao n cap) (lnTo 1) ∧ GS hstE w' (.slice ao2 n2 cap2) (lnH 2) ∧ Below w.heap.size w w' :=
  line_any 2 w (by decide) (by decide)
theorem ts_two {W : World} {a1 a2 : Option Addr} {n1 c1 n2 c2 : Nat} {L1 L2 : List Ru} (t : TypeId) (h1 : SR W (.slice a1 n1 c1) L1) (h2 : SR W (.slice a2 n2 c2) L2) :
    TS (W.alloc (.cells #[.slice a1 n1 c1, .slice a2 n2 c2] t)) (.slice (some ⟨W.heap.size, 0, none⟩) 2 2) [L1, L2] := by
  have hb : Below W.heap.size W (W.alloc (.cells #[.slice a1 n1 c1, .slice a2 n2 c2] t)) := (Below.refl _ _).alloc (Nat.le_refl _) _
  refine .inr ⟨W.heap.size, 0, 2, rfl, Nat.le_refl _, by unfold maxLen; omega, ?_⟩
  intro i hi
  match i, hi with
  | 0, _ => exact ⟨a1, n1, c1, by simp, h1.later hb⟩
  | 1, _ => exact ⟨a2, n2, c2, by simp, h2.later hb⟩
theorem sr_one (W : World) (p m b o s v : Int) (t : TypeId) : SR (W.alloc (.cells #[.int .i64 p, .int .i64 m, .int .i64 b, .int .i64 o, .int .i64 s, .int .i64 v] t)) (.slice (some ⟨W.heap.size, 0, none⟩) 1 1) [⟨p, m, b, o, s, v⟩] := by
  refine .inr ⟨W.heap.size, 0, 1, rfl, Nat.le_refl _, by unfold maxLen; omega, ?_⟩
  intro i hi
  match i, hi with
  | 0, _ =>
    have h := vat_new W [.int .i64 p, .int .i64 m, .int .i64 b, .int .i64 o, .int .i64 s, .int .i64 v] t
    exact ⟨h 0 _ rfl, h 1 _ rfl, h 2 _ rfl, h 3 _ rfl, h 4 _ rfl, h 5 _ rfl⟩
theorem sr_two (W : World) (p m b o s v p' m' b' o' s' v' : Int) (t : TypeId) : SR (W.alloc (.cells #[.int .i64 p, .int .i64 m, .int .i64 b, .int .i64 o, .int .i64 s, .int .i64 v, .int .i64 p', .int .i64 m', .int .i64 b', .int .i64 o', .int .i64 s', .int .i64 v'] t)) (.slice (some ⟨W.heap.size, 0, none⟩) 2 2) [⟨p, m, b, o, s, v⟩, ⟨p', m', b', o', s', v'⟩] := by
  refine .inr ⟨W.heap.size, 0, 2, rfl, Nat.le_refl _, by unfold maxLen; omega, ?_⟩
  intro i hi
  have h := vat_new W [.int .i64 p, .int .i64 m, .int .i64 b, .int .i64 o, .int .i64 s, .int .i64 v, .int .i64 p', .int .i64 m', .int .i64 b', .int .i64 o', .int .i64 s', .int .i64 v'] t
  match i, hi with
  | 0, _ => exact ⟨h 0 _ rfl, h 1 _ rfl, h 2 _ rfl, h 3 _ rfl, h 4 _ rfl, h 5 _ rfl⟩
  | 1, _ => exact ⟨h 6 _ rfl, h 7 _ rfl, h 8 _ rfl, h 9 _ rfl, h 10 _ rfl, h 11 _ rfl⟩
theorem ts_nil (W : World) (t : TypeId) : TS (W.alloc (.cells #[.slice none 0 0, .slice none 0 0] t)) (.slice (some ⟨W.heap.size, 0, none⟩) 2 2) [[], []] := ts_two t (.inl ⟨none, 0, rfl, rfl⟩) (.inl ⟨none, 0, rfl, rfl⟩)

set_option maxRecDepth 100000 in
set_option maxHeartbeats 4000000 in
theorem out (h : Int) (hh : hdrB h = false) (w : World) (hg : HasErr w) :
    Calls Tryd.prog 4 #[.int .i64 h] w fun e w' => e = .returned (.bool true) ∧ Below w.heap.size w w' := by
  have HG : Hid (HasErr w) := hg
  have HH : Hid (hdrB h = false) := hh
  have hno := hdr_no hh
  clear hg hh
  by_cases h1 : h < 0
  · have e1 : decide (h < 0) = true := by simpa using h1
    clear hno
    go_enter Tryd.func4, Tryd.ntmps4
    go_wp2_with fail
    refine (line_2 _).mono ?_
    rintro e w1 ⟨ao, n, cap, ao2, n2, cap2, rfl, hL, hH, hb1⟩
    have hal : Below w1.heap.size w1 (w1.alloc (.cells #[.slice none 0 0, .slice none 0 0] 42)) := (Below.refl _ _).alloc (Nat.le_refl _) _
    have HTS := ts_nil w1 42
    have HL : Hid (GS lnkE (w1.alloc (.cells #[.slice none 0 0, .slice none 0 0] 42)) (.slice ao n cap) (lnTo 1)) := hL.later hal
    have HHS : Hid (GS hstE (w1.alloc (.cells #[.slice none 0 0, .slice none 0 0] 42)) (.slice ao2 n2 cap2) (lnH 2)) := hH.later hal
    have HT : Hid (TS (w1.alloc (.cells #[.slice none 0 0, .slice none 0 0] 42)) (.slice (some ⟨w1.heap.size, 0, none⟩) 2 2) [[], []]) := HTS
    have HB1 : Hid (Below w.heap.size w (w1.alloc (.cells #[.slice none 0 0, .slice none 0 0] 42))) := hb1.trans (hal.mono hb1.size)
    clear hal HTS hL hH hb1
    go_wp2_with fail
    refine (send_any 2 ao n cap ao2 n2 cap2 _ 2 2 (lnTo 1) (lnH 2) [[], []] ⟨#[97]⟩ h _ HL.out HHS.out HT.out).mono ?_
    rintro e w2 ⟨ao4, n4, cap4, rfl, _, hb2⟩
    rw [show seN 2 (lnTo 1) (lnH 2) [[], []] ⟨#[97]⟩ h = 1 from turn3 HH.out]
    generalize seV 2 (lnTo 1) (lnH 2) [[], []] ⟨#[97]⟩ h = V
    obtain ⟨V1, V2, V3⟩ := V
    have HB2 : Hid (Below w.heap.size w (w2.alloc (Obj.cells #[.int .i64 V1, .string V2, .slice ao4 n4 cap4] 40))) := (HB1.out.trans (hb2.mono HB1.out.size)).alloc (HB1.out.trans (hb2.mono HB1.out.size)).size _
    have HG2 : Hid (HasErr (w2.alloc (Obj.cells #[.int .i64 V1, .string V2, .slice ao4 n4 cap4] 40))) := HG.out.later HB2.out
    clear hb2
    go_wp2_with fail
    refine (same_noV 1 _ HG2.out).mono ?_
    rintro e w3 ⟨rfl, hb3⟩
    have HB3 : Hid (Below w.heap.size w w3) := HB2.out.trans (hb3.mono HB2.out.size)
    clear hb3
    go_wp2
    go_ret
    exact ⟨rfl, HB3.out⟩
  · have e1 : decide (h < 0) = false := by simpa using h1
    have e2 : decide (15 < h) = true := by simp; omega
    clear hno
    go_enter Tryd.func4, Tryd.ntmps4
    go_wp2_with fail
    refine (line_2 _).mono ?_
    rintro e w1 ⟨ao, n, cap, ao2, n2, cap2, rfl, hL, hH, hb1⟩
    have hal : Below w1.heap.size w1 (w1.alloc (.cells #[.slice none 0 0, .slice none 0 0] 42)) := (Below.refl _ _).alloc (Nat.le_refl _) _
    have HTS := ts_nil w1 42
    have HL : Hid (GS lnkE (w1.alloc (.cells #[.slice none 0 0, .slice none 0 0] 42)) (.slice ao n cap) (lnTo 1)) := hL.later hal
    have HHS : Hid (GS hstE (w1.alloc (.cells #[.slice none 0 0, .slice none 0 0] 42)) (.slice ao2 n2 cap2) (lnH 2)) := hH.later hal
    have HT : Hid (TS (w1.alloc (.cells #[.slice none 0 0, .slice none 0 0] 42)) (.slice (some ⟨w1.heap.size, 0, none⟩) 2 2) [[], []]) := HTS
    have HB1 : Hid (Below w.heap.size w (w1.alloc (.cells #[.slice none 0 0, .slice none 0 0] 42))) := hb1.trans (hal.mono hb1.size)
    clear hal HTS hL hH hb1
    go_wp2_with fail
    refine (send_any 2 ao n cap ao2 n2 cap2 _ 2 2 (lnTo 1) (lnH 2) [[], []] ⟨#[97]⟩ h _ HL.out HHS.out HT.out).mono ?_
    rintro e w2 ⟨ao4, n4, cap4, rfl, _, hb2⟩
    rw [show seN 2 (lnTo 1) (lnH 2) [[], []] ⟨#[97]⟩ h = 1 from turn3 HH.out]
    generalize seV 2 (lnTo 1) (lnH 2) [[], []] ⟨#[97]⟩ h = V
    obtain ⟨V1, V2, V3⟩ := V
    have HB2 : Hid (Below w.heap.size w (w2.alloc (Obj.cells #[.int .i64 V1, .string V2, .slice ao4 n4 cap4] 40))) := (HB1.out.trans (hb2.mono HB1.out.size)).alloc (HB1.out.trans (hb2.mono HB1.out.size)).size _
    have HG2 : Hid (HasErr (w2.alloc (Obj.cells #[.int .i64 V1, .string V2, .slice ao4 n4 cap4] 40))) := HG.out.later HB2.out
    clear hb2
    go_wp2_with fail
    refine (same_noV 1 _ HG2.out).mono ?_
    rintro e w3 ⟨rfl, hb3⟩
    have HB3 : Hid (Below w.heap.size w w3) := HB2.out.trans (hb3.mono HB2.out.size)
    clear hb3
    go_wp2
    go_ret
    exact ⟨rfl, HB3.out⟩
theorem al (X : World) (o : Obj) : ∃ Y, X.alloc o = Y ∧ Below X.heap.size X Y ∧ Y.heap.size = X.heap.size + 1 := ⟨_, rfl, (Below.refl _ _).alloc (Nat.le_refl _) _, by simp⟩
set_option maxRecDepth 100000 in
set_option maxHeartbeats 8000000 in
theorem inn (h : Int) (hh : hdrB h = true) (w : World) :
    Calls Tryd.prog 4 #[.int .i64 h] w fun e w' => e = .returned (.bool true) ∧ Below w.heap.size w w' := by
  have HH : Hid (hdrB h = true) := hh
  have hin := hdr_of hh
  have e1 : decide (h < 0) = false := by simp; omega
  have e2 : decide (15 < h) = false := by simp; omega
  clear hh hin
  go_enter Tryd.func4, Tryd.ntmps4
  go_wp2_with fail
  refine (line_2 _).mono ?_
  rintro e w1 ⟨ao, n, cap, ao2, n2, cap2, rfl, hL, hH, hb1⟩
  have HLW : Hid (∀ W, Below w1.heap.size w1 W → GS lnkE W (.slice ao n cap) (lnTo 1)) := fun W hb => hL.later hb
  have HHW : Hid (∀ W, Below w1.heap.size w1 W → GS hstE W (.slice ao2 n2 cap2) (lnH 2)) := fun W hb => hH.later hb
  have HB1 : Hid (Below w.heap.size w w1) := hb1
  clear hL hH hb1
  obtain ⟨A1, h1, b1, s1⟩ := al w1 (Obj.cells #[.int .i64 2, .slice ao n cap, .slice ao2 n2 cap2] 25)
  obtain ⟨A2, h2, b2, s2⟩ := al A1 (Obj.cells #[.int .i64 1, .int .i64 0, .int .i64 0, .int .i64 2, .int .i64 0, .int .i64 0] 47)
  have v2 := vat_new A1 [.int .i64 1, .int .i64 0, .int .i64 0, .int .i64 2, .int .i64 0, .int .i64 0] 47
  obtain ⟨A3, h3, b3, s3⟩ := al A2 (Obj.cells #[.int .i64 1, .int .i64 0, .int .i64 0, .int .i64 1, .int .i64 0, .int .i64 0] 47)
  have v3 := vat_new A2 [.int .i64 1, .int .i64 0, .int .i64 0, .int .i64 1, .int .i64 0, .int .i64 0] 47
  obtain ⟨A4, h4, b4, s4⟩ := al A3 (Obj.cells #[.int .i64 1, .int .i64 0, .int .i64 0, .int .i64 2, .int .i64 0, .int .i64 0] 47)
  have r4 := sr_one A3 1 0 0 2 0 0 47
  obtain ⟨A5, h5, b5, s5⟩ := al A4 (Obj.cells #[.int .i64 1, .int .i64 0, .int .i64 0, .int .i64 1, .int .i64 0, .int .i64 0] 47)
  have r5 := sr_one A4 1 0 0 1 0 0 47
  rw [s1] at s2
  rw [s2] at s3
  rw [s3] at s4
  rw [s4] at s5
  rw [h4, s3] at r4
  rw [h5, s4] at r5
  rw [h2, s1] at v2
  rw [h3, s2] at v3
  obtain ⟨A6, h6, b6, s6⟩ := al A5 (Obj.cells #[.slice (some ⟨w1.heap.size + 1 + 1 + 1, 0, none⟩) 1 1, .slice (some ⟨w1.heap.size + 1 + 1 + 1 + 1, 0, none⟩) 1 1] 42)
  have r6 := ts_two 42 (r4.later b5) r5
  rw [h6, s5] at r6
  rw [s5] at s6
  obtain ⟨A7, h7, b7, s7⟩ := al A6 (Obj.cells #[.int .i64 2, .slice ao n cap, .slice ao2 n2 cap2, .slice (some ⟨w1.heap.size + 1 + 1 + 1 + 1 + 1, 0, none⟩) 2 2] 28)
  have n7 := nebox_new A6 2 (.slice ao n cap) (.slice ao2 n2 cap2) (.slice (some ⟨w1.heap.size + 1 + 1 + 1 + 1 + 1, 0, none⟩) 2 2) 28
  have z7 := froz_new2 A6 #[.int .i64 2, .slice ao n cap, .slice ao2 n2 cap2, .slice (some ⟨w1.heap.size + 1 + 1 + 1 + 1 + 1, 0, none⟩) 2 2] 28 3
  rw [h7, s6] at n7 z7
  rw [s6] at s7
  have HT7 : Hid (TS A7 (.slice (some ⟨w1.heap.size + 1 + 1 + 1 + 1 + 1, 0, none⟩) 2 2) [[ruG], [ruK]]) := r6.later b7
  have HV2 : Hid (VAt A7 (w1.heap.size + 1) 0 [.int .i64 1, .int .i64 0, .int .i64 0, .int .i64 2, .int .i64 0, .int .i64 0]) := ((((v2.later b3).later b4).later b5).later b6).later b7
  have HV3 : Hid (VAt A7 (w1.heap.size + 1 + 1) 0 [.int .i64 1, .int .i64 0, .int .i64 0, .int .i64 1, .int .i64 0, .int .i64 0]) := (((v3.later b4).later b5).later b6).later b7
  have HN7 : Hid (NeBox A7 (w1.heap.size + 1 + 1 + 1 + 1 + 1 + 1) 2 (.slice ao n cap) (.slice ao2 n2 cap2) (.slice (some ⟨w1.heap.size + 1 + 1 + 1 + 1 + 1, 0, none⟩) 2 2)) := n7
  have HZ7 : Hid (A7.frozen? ⟨w1.heap.size + 1 + 1 + 1 + 1 + 1 + 1, 3, none⟩ = false) := z7
  have HB7 : Hid (Below w1.heap.size w1 A7) := (((((b1.trans (b2.mono (by omega))).trans (b3.mono (by omega))).trans (b4.mono (by omega))).trans (b5.mono (by omega))).trans (b6.mono (by omega))).trans (b7.mono (by omega))
  have H1 : Hid (w1.alloc (Obj.cells #[.int .i64 2, .slice ao n cap, .slice ao2 n2 cap2] 25) = A1) := h1
  have H2 : Hid (A1.alloc (Obj.cells #[.int .i64 1, .int .i64 0, .int .i64 0, .int .i64 2, .int .i64 0, .int .i64 0] 47) = A2) := h2
  have H3 : Hid (A2.alloc (Obj.cells #[.int .i64 1, .int .i64 0, .int .i64 0, .int .i64 1, .int .i64 0, .int .i64 0] 47) = A3) := h3
  have H4 : Hid (A3.alloc (Obj.cells #[.int .i64 1, .int .i64 0, .int .i64 0, .int .i64 2, .int .i64 0, .int .i64 0] 47) = A4) := h4
  have H5 : Hid (A4.alloc (Obj.cells #[.int .i64 1, .int .i64 0, .int .i64 0, .int .i64 1, .int .i64 0, .int .i64 0] 47) = A5) := h5
  have H6 : Hid (A5.alloc (Obj.cells #[.slice (some ⟨w1.heap.size + 1 + 1 + 1, 0, none⟩) 1 1, .slice (some ⟨w1.heap.size + 1 + 1 + 1 + 1, 0, none⟩) 1 1] 42) = A6) := h6
  have H7 : Hid (A6.alloc (Obj.cells #[.int .i64 2, .slice ao n cap, .slice ao2 n2 cap2, .slice (some ⟨w1.heap.size + 1 + 1 + 1 + 1 + 1, 0, none⟩) 2 2] 28) = A7) := h7
  have HS7 : Hid (A7.heap.size = w1.heap.size + 1 + 1 + 1 + 1 + 1 + 1 + 1) := s7
  clear h1 h2 h3 h4 h5 h6 h7 b1 b2 b3 b4 b5 b6 b7 s1 s2 s3 s4 s5 s6 s7 v2 v3 r4 r5 r6 n7 z7
  go_wp2_with fail
  rw [H1.out, H2.out, H3.out, H4.out, H5.out, H6.out, H7.out]
  refine (send_any 2 ao n cap ao2 n2 cap2 _ 2 2 (lnTo 1) (lnH 2) [[ruG], [ruK]] ⟨#[97]⟩ h _ (HLW.out _ HB7.out) (HHW.out _ HB7.out) HT7.out).mono ?_
  rintro e w9 ⟨ao4, n4, cap4, rfl, hown, hb9⟩
  obtain ⟨t1, t2, t3⟩ := turn1 HH.out
  have hn4 : n4 = 3 := by
    have h1 := (own_GS (E := hopE) hown).len
    rw [← h1]
    exact t3
  subst hn4
  rw [show seN 2 (lnTo 1) (lnH 2) [[ruG], [ruK]] ⟨#[97]⟩ h = 0 from t1, no_ok rfl, show (seV 2 (lnTo 1) (lnH 2) [[ruG], [ruK]] ⟨#[97]⟩ h).1 = 4 from t2]
  generalize (seV 2 (lnTo 1) (lnH 2) [[ruG], [ruK]] ⟨#[97]⟩ h).2.1 = nm
  obtain ⟨c0, c1, c2, c3⟩ := HN7.out.later hb9
  have z3 := (hb9.frozen (p := ⟨w1.heap.size + 1 + 1 + 1 + 1 + 1 + 1, 3, none⟩) (show w1.heap.size + 1 + 1 + 1 + 1 + 1 + 1 < A7.heap.size by rw [HS7.out]; omega)).trans HZ7.out
  have v2 := HV2.out.later hb9
  have v3 := HV3.out.later hb9
  have p0 : w9.cell? ⟨w1.heap.size + 1, 0, none⟩ = _ := v2 0 _ rfl
  have p1 : w9.cell? ⟨w1.heap.size + 1, 1, none⟩ = _ := v2 1 _ rfl
  have p2 : w9.cell? ⟨w1.heap.size + 1, 2, none⟩ = _ := v2 2 _ rfl
  have p3 : w9.cell? ⟨w1.heap.size + 1, 3, none⟩ = _ := v2 3 _ rfl
  have p4 : w9.cell? ⟨w1.heap.size + 1, 4, none⟩ = _ := v2 4 _ rfl
  have p5 : w9.cell? ⟨w1.heap.size + 1, 5, none⟩ = _ := v2 5 _ rfl
  have q0 : w9.cell? ⟨w1.heap.size + 1 + 1, 0, none⟩ = _ := v3 0 _ rfl
  have q1 : w9.cell? ⟨w1.heap.size + 1 + 1, 1, none⟩ = _ := v3 1 _ rfl
  have q2 : w9.cell? ⟨w1.heap.size + 1 + 1, 2, none⟩ = _ := v3 2 _ rfl
  have q3 : w9.cell? ⟨w1.heap.size + 1 + 1, 3, none⟩ = _ := v3 3 _ rfl
  have q4 : w9.cell? ⟨w1.heap.size + 1 + 1, 4, none⟩ = _ := v3 4 _ rfl
  have q5 : w9.cell? ⟨w1.heap.size + 1 + 1, 5, none⟩ = _ := v3 5 _ rfl
  have HB9 : Hid (Below w1.heap.size w1 w9) := HB7.out.trans (hb9.mono HB7.out.size)
  have HS9 : Hid (w1.heap.size + 1 + 1 + 1 + 1 + 1 + 1 + 1 ≤ w9.heap.size) := by
    show _ ≤ _
    rw [← HS7.out]
    exact hb9.size
  have hs9 := HS9.out
  have y1 : w1.heap.size + 1 < w9.heap.size := by omega
  have y2 : w1.heap.size + 1 + 1 < w9.heap.size := by omega
  have y3 : w1.heap.size + 1 + 1 + 1 + 1 + 1 + 1 < w9.heap.size := by omega
  obtain ⟨g8, hg8⟩ : ∃ g, w1.heap.size + 1 + 1 + 1 + 1 + 1 + 1 = g := ⟨_, rfl⟩
  obtain ⟨g6, hg6⟩ : ∃ g, w1.heap.size + 1 = g := ⟨_, rfl⟩
  obtain ⟨g7, hg7⟩ : ∃ g, g6 + 1 = g := ⟨_, rfl⟩
  have HG8 : Hid (w1.heap.size ≤ g8 ∧ g8 ≠ g6 ∧ g8 ≠ g7) := ⟨by omega, by omega, by omega⟩
  rw [hg8] at c0 c1 c2 c3 z3 y3 ⊢
  rw [hg6] at p0 p1 p2 p3 p4 p5 q0 q1 q2 q3 q4 q5 y1 y2 ⊢
  rw [hg7] at q0 q1 q2 q3 q4 q5 y2 ⊢
  clear hown hb9 t1 t2 t3 v2 v3 hs9 HT7 HV2 HV3 HN7 HZ7 H1 H2 H3 H4 H5 H6 H7 hg8 hg6 hg7 HB7
  go_upto_region 11 with fail
  obtain ⟨D1, hD1, bD, sD⟩ := al w9 (Obj.cells #[.int .i64 4, .string nm, .slice ao4 3 cap4] 40)
  rw [hD1]
  replace p0 := cell_later bD p0
  replace p1 := cell_later bD p1
  replace p2 := cell_later bD p2
  replace p3 := cell_later bD p3
  replace p4 := cell_later bD p4
  replace p5 := cell_later bD p5
  replace q0 := cell_later bD q0
  replace q1 := cell_later bD q1
  replace q2 := cell_later bD q2
  replace q3 := cell_later bD q3
  replace q4 := cell_later bD q4
  replace q5 := cell_later bD q5
  replace c0 := cell_later bD c0
  replace c1 := cell_later bD c1
  replace c2 := cell_later bD c2
  replace c3 := cell_later bD c3
  replace z3 := (bD.frozen (p := ⟨g8, 3, none⟩) y3).trans z3
  replace y1 : g6 < D1.heap.size := by omega
  replace y2 : g7 < D1.heap.size := by omega
  replace y3 : g8 < D1.heap.size := by omega
  have x6 : g6 < D1.heap.size + 1 := by omega
  have x7 : g7 < D1.heap.size + 1 := by omega
  have x7' : g7 < D1.heap.size + 1 + 1 := by omega
  have x8 : g8 < D1.heap.size + 1 := by omega
  have x8' : g8 < D1.heap.size + 1 + 1 := by omega
  have x8'' : g8 < D1.heap.size + 1 + 1 + 1 := by omega
  have hBD : Below w1.heap.size w1 D1 := HB9.out.trans (bD.mono HB9.out.size)
  obtain ⟨E0, hE0⟩ : ∃ E, D1.setCell ⟨g8, 3, none⟩ (.slice (some ⟨D1.heap.size + 1 + 1 + 1, 0, none⟩) 2 2) = E := ⟨_, rfl⟩
  have hBE0 : Below w1.heap.size w1 E0 := by
    rw [← hE0]
    exact hBD.setCell (p := ⟨g8, 3, none⟩) HG8.out.1 _
  have sE0 : E0.heap.size = D1.heap.size := by
    rw [← hE0]
    simp
  have d0 : E0.cell? ⟨g8, 0, none⟩ = some (.int .i64 2) := by
    rw [← hE0, World.cell?_setCell_other _ _ _ _ (by simp)]
    exact c0
  have d1 : E0.cell? ⟨g8, 1, none⟩ = some (.slice ao n cap) := by
    rw [← hE0, World.cell?_setCell_other _ _ _ _ (by simp)]
    exact c1
  have d2 : E0.cell? ⟨g8, 2, none⟩ = some (.slice ao2 n2 cap2) := by
    rw [← hE0, World.cell?_setCell_other _ _ _ _ (by simp)]
    exact c2
  have d3 : E0.cell? ⟨g8, 3, none⟩ = some (.slice (some ⟨D1.heap.size + 1 + 1 + 1, 0, none⟩) 2 2) := by
    rw [← hE0]
    exact World.cell?_setCell_same _ _ _ c3
  obtain ⟨E1, h1, b1, s1⟩ := al E0 (Obj.cells #[.int .i64 5, .int .i64 15, .int .i64 h, .int .i64 0, .int .i64 0, .int .i64 0] 47)
  rw [sE0] at s1
  obtain ⟨E2, h2, b2, s2⟩ := al E1 (Obj.cells #[.int .i64 1, .int .i64 0, .int .i64 0, .int .i64 2, .int .i64 0, .int .i64 0] 47)
  have r2 := sr_one E1 1 0 0 2 0 0 47
  rw [h2, s1] at r2
  rw [s1] at s2
  obtain ⟨E3, h3, b3, s3⟩ := al E2 (Obj.cells #[.int .i64 5, .int .i64 15, .int .i64 h, .int .i64 0, .int .i64 0, .int .i64 0, .int .i64 1, .int .i64 0, .int .i64 0, .int .i64 1, .int .i64 0, .int .i64 0] 47)
  have r3 := sr_two E2 5 15 h 0 0 0 1 0 0 1 0 0 47
  rw [h3, s2] at r3
  rw [s2] at s3
  obtain ⟨E4, h4, b4, s4⟩ := al E3 (Obj.cells #[.slice (some ⟨D1.heap.size + 1, 0, none⟩) 1 1, .slice (some ⟨D1.heap.size + 1 + 1, 0, none⟩) 2 2] 42)
  have r4 := ts_two 42 (r2.later b3) r3
  rw [h4, s3] at r4
  have HT4 : Hid (TS E4 (.slice (some ⟨D1.heap.size + 1 + 1 + 1, 0, none⟩) 2 2) [[ruG], [ruD h, ruK]]) := r4
  have HB4 : Hid (Below w1.heap.size w1 E4) := (((hBE0.trans (b1.mono hBE0.size)).trans (b2.mono (hBE0.trans (b1.mono hBE0.size)).size)).trans (b3.mono ((hBE0.trans (b1.mono hBE0.size)).trans (b2.mono (hBE0.trans (b1.mono hBE0.size)).size)).size)).trans (b4.mono (((hBE0.trans (b1.mono hBE0.size)).trans (b2.mono (hBE0.trans (b1.mono hBE0.size)).size)).trans (b3.mono ((hBE0.trans (b1.mono hBE0.size)).trans (b2.mono (hBE0.trans (b1.mono hBE0.size)).size)).size)).size)
  have HD0 : Hid (E4.cell? ⟨g8, 0, none⟩ = some (.int .i64 2)) := cell_later b4 (cell_later b3 (cell_later b2 (cell_later b1 d0)))
  have HD1 : Hid (E4.cell? ⟨g8, 1, none⟩ = some (.slice ao n cap)) := cell_later b4 (cell_later b3 (cell_later b2 (cell_later b1 d1)))
  have HD2 : Hid (E4.cell? ⟨g8, 2, none⟩ = some (.slice ao2 n2 cap2)) := cell_later b4 (cell_later b3 (cell_later b2 (cell_later b1 d2)))
  have HD3 : Hid (E4.cell? ⟨g8, 3, none⟩ = some (.slice (some ⟨D1.heap.size + 1 + 1 + 1, 0, none⟩) 2 2)) := cell_later b4 (cell_later b3 (cell_later b2 (cell_later b1 d3)))
  have H0 : Hid (D1.setCell ⟨g8, 3, none⟩ (.slice (some ⟨D1.heap.size + 1 + 1 + 1, 0, none⟩) 2 2) = E0) := hE0
  have H1 : Hid (E0.alloc (Obj.cells #[.int .i64 5, .int .i64 15, .int .i64 h, .int .i64 0, .int .i64 0, .int .i64 0] 47) = E1) := h1
  have H2 : Hid (E1.alloc (Obj.cells #[.int .i64 1, .int .i64 0, .int .i64 0, .int .i64 2, .int .i64 0, .int .i64 0] 47) = E2) := h2
  have H3 : Hid (E2.alloc (Obj.cells #[.int .i64 5, .int .i64 15, .int .i64 h, .int .i64 0, .int .i64 0, .int .i64 0, .int .i64 1, .int .i64 0, .int .i64 0, .int .i64 1, .int .i64 0, .int .i64 0] 47) = E3) := h3
  have H4 : Hid (E3.alloc (Obj.cells #[.slice (some ⟨D1.heap.size + 1, 0, none⟩) 1 1, .slice (some ⟨D1.heap.size + 1 + 1, 0, none⟩) 2 2] 42) = E4) := h4
  clear hD1 bD sD hBD hE0 hBE0 sE0 d0 d1 d2 d3 h1 h2 h3 h4 b1 b2 b3 b4 s1 s2 s3 s4 r2 r3 r4 HB9 HS9 HS7
  go_upto_region 13 with fail
  rw [H0.out, H1.out, H2.out, H3.out, H4.out]
  have e0 := HD0.out
  have e3 := HD1.out
  have e4 := HD2.out
  have e5 := HD3.out
  clear c0 c1 c2 c3 z3 p0 p1 p2 p3 p4 p5 q0 q1 q2 q3 q4 q5 H0 H1 H2 H3 H4
  go_wp2_with fail
  refine (send_any 2 ao n cap ao2 n2 cap2 _ 2 2 (lnTo 1) (lnH 2) [[ruG], [ruD h, ruK]] ⟨#[97]⟩ h _ (HLW.out _ HB4.out) (HHW.out _ HB4.out) HT4.out).mono ?_
  rintro e wE ⟨ao5, n5, cap5, rfl, hown, hbE⟩
  obtain ⟨t1, t2, t3⟩ := turn2 HH.out
  have hn5 : n5 = 2 := by
    have h1 := (own_GS (E := hopE) hown).len
    rw [← h1]
    exact t3
  subst hn5
  rw [show seN 2 (lnTo 1) (lnH 2) [[ruG], [ruD h, ruK]] ⟨#[97]⟩ h = 0 from t1, no_ok rfl, show (seV 2 (lnTo 1) (lnH 2) [[ruG], [ruD h, ruK]] ⟨#[97]⟩ h).1 = 2 from t2]
  generalize (seV 2 (lnTo 1) (lnH 2) [[ruG], [ruD h, ruK]] ⟨#[97]⟩ h).2.1 = nm2
  have hBE : Below w1.heap.size w1 wE := HB4.out.trans (hbE.mono HB4.out.size)
  have hBF : Below w.heap.size w wE := HB1.out.trans (hBE.mono HB1.out.size)
  have HBE : Hid (Below w.heap.size w (wE.alloc (Obj.cells #[.int .i64 2, .string nm2, .slice ao5 2 cap5] 40))) := hBF.alloc hBF.size _
  clear hown hbE t1 t2 t3 hBE hBF e0 e3 e4 e5
  go_wp2
  go_ret
  exact ⟨rfl, HBE.out⟩
theorem walk (h : Int) (w : World) (hg : HasErr w) :
    Calls Tryd.prog 4 #[.int .i64 h] w fun e w' => e = .returned (.bool true) ∧ Below w.heap.size w w' := by
  cases hh : hdrB h
  · exact out h hh w hg
  · exact inn h hh w
end Go.Proofs.YtpmcjelihdlfeaaDoor.netTurns
/- The row of NetTurns: it answers true, whatever number it is called with; the variable errorType of package errors is as the program's text lays it. -/
namespace Go.Proofs.YtpmcjelihdlfeaaDoor.netTurns
open Go.ChangeShapes Go.WideShapes Go.ChangeAt Go.RowKit
set_option linter.unusedVariables false
set_option linter.unusedSimpArgs false

theorem own : ownKnob Tryd.prog.godebug = none := by kernel_rfl
theorem laidOut : laidOutB Tryd.prog = true := by kernel_rfl
theorem et : Tryd.prog.globalNamed "errors.errorType" = some 0 := by kernel_rfl
theorem oneRow : ((List.range 211).filter fun t => Tryd.prog.rowNamed t [101, 114, 114, 111, 114]) = [34] := by kernel_rfl
theorem tsize : Tryd.prog.types.size = 211 := by kernel_rfl

theorem handle_of_laid {W : World} (h : laidMetH Tryd.prog Rows.netTurnsRow.laid W) : HasErr W := by
  have h' : laidMet Tryd.prog [] W ∧ handlesMet Tryd.prog Rows.netTurnsRow.laid W := h
  obtain ⟨name, u, ty, e1, e2, e3, e4, e5⟩ := h'.2 _ (List.mem_singleton.2 rfl)
  have en : name = [101, 114, 114, 111, 114] := (Option.some.inj e1).symm
  subst en
  have hu : some u = some 158 := e2.symm.trans (by kernel_rfl)
  obtain rfl := Option.some.inj hu
  have hm : ty ∈ (List.range 211).filter fun t => Tryd.prog.rowNamed t [101, 114, 114, 111, 114] := List.mem_filter.2 ⟨List.mem_range.2 (by rw [← tsize]; exact e3), e4⟩
  rw [oneRow] at hm
  obtain rfl := List.mem_singleton.1 hm
  have hh : typeHandle Tryd.prog 34 = .pointer (some ⟨1, 34, none⟩) := by kernel_rfl
  rw [hh] at e5
  unfold HasErr
  simpa using World.var?_cell et e5 0

set_option maxRecDepth 100000 in
theorem lifted (os : Os) (started : os.Started) (H : Type) (enc : TypeId × Value → H) :
    ReturnsInHanded {} Tryd.checked os 4 .any (fun w args => (Rows.netTurnsSpec.pre enc Tryd.prog Tryd.f4 [] false w args ∧ laidMetH Tryd.prog Rows.netTurnsRow.laid w) ∧ sizedMet enc Tryd.prog Tryd.f4 (OpenSpec.ofChange Rows.netTurnsSpec) false w args)
      (Rows.netTurnsSpec.post enc Tryd.prog Tryd.f4 false true false false) := by
  refine returnsInHanded_of_change_and (C := Tryd.checked) (X := fun w _ => laidMetH Tryd.prog Rows.netTurnsRow.laid w) (fun _ _ _ hh h => h.of_heap hh) own started (by kernel_rfl) Tryd.func4
    (ChangeSpec.witness_at (enc := enc) (C := Tryd.checked) (os := os) (X := fun w _ => laidMetH Tryd.prog Rows.netTurnsRow.laid w) false
      { World.holding Tryd.prog os ⟨#[], #[], []⟩ with heap := (World.holding Tryd.prog os ⟨#[], #[], []⟩).heap.modify 0 fun
          | .cells _ t frozen => .cells #[.iface 158 (.agg #[.pointer (some ⟨1, 34, none⟩)])] t frozen
          | o => o }
      #[.int .i64 0] 8 rfl (by kernel_rfl) (by kernel_rfl) (by kernel_rfl) (by kernel_rfl) (by kernel_rfl) (laidMetH_of_parts (laidMet_nil _ _) (by kernel_rfl))) ?_
  intro W base args ds gs before hval0 hW _ _ hL _
  have hval : ∀ (j : Nat) t v, Tryd.f4.params[j]? = some t → args[j]? = some v → Value.okWide Tryd.prog W .any base t v := hval0
  have hW' := hW
  obtain ⟨p, q, hA0, hV0, rfl, hfz, hnd⟩ := hW
  have hA : DataW.TrodAll enc Tryd.prog W 0 (fun _ => true) true Tryd.f4.params.toList args.toList ds p := hA0
  have hV : DataW.TrodVars enc Tryd.prog W (fun _ => true) [] gs q := hV0
  rw [Tryd.params4] at hA hval
  obtain ⟨v0, vs0, d0, ds0, p0, q0, hargs, rfl, rfl, h0, r0⟩ := trodAll_cons hA
  obtain ⟨rfl, rfl, rfl⟩ := trodAll_nil r0
  obtain rfl : args = #[v0] := by cases args; simp_all
  have hg := handle_of_laid hL
  obtain ⟨rfl, rfl⟩ : gs = [] ∧ q = [] := by
    cases gs with
    | nil => exact ⟨rfl, hV⟩
    | cons g r => exact absurd hV (by intro h; cases h)
  obtain ⟨n, rfl, rfl, rfl, wn⟩ := open_int Tryd.underlying3 (hval 0 3 v0 rfl rfl) h0
  clear hA0 hval0
  refine (walk n W hg).mono fun e W' ⟨he, bel⟩ => ?_
  subst he
  exact ⟨_, rfl, _, _, _, [], _, [], hW', trodAll_mk1 (shut_bool Tryd.underlying4 _), (trodAll_cons_mk (shut_int Tryd.underlying3 wn) trodAll_mk0), rfl, bel.frame _, fun h => by cases h⟩

theorem over : Rows.NetTurnsSaid :=
  OpenClaim.holds_of_wide 4 Tryd.f4 rfl rfl rfl rfl rfl rfl rfl ⟨rfl, rfl, rfl, rfl, rfl⟩ rfl rfl rfl rfl rfl (by kernel_rfl) Tryd.func4 (by kernel_rfl)
    (of_decide_eq_true (by kernel_rfl)) (by unfold Func.isWrapper; first | (rw [if_pos (by decide +kernel)]; kernel_rfl) | (rw [if_neg (by decide +kernel)]; exact ⟨rfl, rfl⟩))
    (fun os started H enc _ => lifted os started H enc)
end Go.Proofs.YtpmcjelihdlfeaaDoor.netTurns
