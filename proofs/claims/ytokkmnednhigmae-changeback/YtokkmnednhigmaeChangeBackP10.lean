/- Contracts and facts on the way to ChangeBack, joined into one text: ChangeBack, TopoOf, NetOf. -/
import Derived.Test.YtokkmnednhigmaeChangeBackP8
import Derived.Test.YtokkmnednhigmaeChangeBackP9
import Derived.Test.YtokkmnednhigmaeChangeBackP1
import Derived.Test.YtokkmnednhigmaeChangeBackP4
import Derived.Test.YtokkmnednhigmaeChangeBackP5
import Derived.Test.YtokkmnednhigmaeChangeBackP2
/- What raillaw1.ChangeBack answers: true, of any two nets and ops. -/
namespace Go.Proofs.Ytokkmnednhigmae
open Go.RowKit
set_option linter.unusedSimpArgs false
set_option linter.unusedVariables false
/-- An empty net in its box. -/
def ZB (W : World) (g : Nat) : Prop := (W.cell? ⟨g, 0, none⟩ = some (.int .i64 0) ∧ W.cell? ⟨g, 1, none⟩ = some (.slice none 0 0) ∧ W.cell? ⟨g, 2, none⟩ = some (.slice none 0 0) ∧ W.cell? ⟨g, 3, none⟩ = some (.slice none 0 0)) ∧ ∀ i, W.frozen? ⟨g, i, none⟩ = false
theorem ZB.lt {W : World} {g : Nat} (h : ZB W g) : g < W.heap.size := World.block_lt_of_cell? W ⟨g, 0, none⟩ h.1.1
theorem ZB.later {W W' : World} {g : Nat} (h : ZB W g) (hb : Below W.heap.size W W') : ZB W' g := ⟨⟨cell_later hb h.1.1, cell_later hb h.1.2.1, cell_later hb h.1.2.2.1, cell_later hb h.1.2.2.2⟩, fun i => (hb.frozen (p := ⟨g, i, none⟩) h.lt).trans (h.2 i)⟩
theorem zb_d {w w' : World} {t : TypeId} (hb : Below (w.drew.alloc (Obj.cells #[.int .i64 0, .slice none 0 0, .slice none 0 0, .slice none 0 0] t)).heap.size (w.drew.alloc (Obj.cells #[.int .i64 0, .slice none 0 0, .slice none 0 0, .slice none 0 0] t)) w') : ZB w' w.heap.size := balloc4 hb
theorem zb_a {w w' : World} {t : TypeId} (hb : Below (w.alloc (Obj.cells #[.int .i64 0, .slice none 0 0, .slice none 0 0, .slice none 0 0] t)).heap.size (w.alloc (Obj.cells #[.int .i64 0, .slice none 0 0, .slice none 0 0, .slice none 0 0] t)) w') : ZB w' w.heap.size :=
  have h := wb_new w 0 (.slice none 0 0) (.slice none 0 0) (.slice none 0 0) t
  ZB.later (W := w.alloc (Obj.cells #[.int .i64 0, .slice none 0 0, .slice none 0 0, .slice none 0 0] t)) ⟨h.c, h.f⟩ hb
theorem ns_of {S : Int} {Ls : List ((Int × Int) × (Int × Int))} {Hs : List (ByteArray × (Int × Int))} {As Bs : List (List Ru)} (h1 : ntN S Ls Hs As = 0) (h2 : ntN S Ls Hs Bs = 0) {k : Nat} (hk : (k : Int) = S) (h3 : csB As Bs k = true) : nwN S Ls Hs As S Ls Hs Bs = 0 ∧ nsB S Ls Hs As S Ls Hs Bs = true := by
  have e : nwN S Ls Hs As S Ls Hs Bs = 0 := by rw [nwN, if_pos h1, h2]
  refine ⟨e, ?_⟩
  have a := (nt_0 h1).2.1
  have b := (nt_0 h2).2.1
  have e1 : As.length = k := by omega
  have e2 : Bs.length = k := by omega
  rw [nsB, e, tpB_iff.2 ⟨rfl, rfl, rfl⟩, etB, e1, e2, h3]
  simp
end Go.Proofs.Ytokkmnednhigmae
namespace Go.Proofs.Ytokkmnednhigmae.changeBack
open Go.RowKit
set_option linter.unusedSimpArgs false
set_option linter.unusedVariables false

theorem one_ok : cgN 1 [] [] [[]] [⟨1, true, ⟨2, 0, 0, 1, 0, 0⟩⟩] = 0 := by decide +kernel
theorem one_T : caT [[]] [⟨1, true, ⟨2, 0, 0, 1, 0, 0⟩⟩] = [[⟨2, 0, 0, 1, 0, 0⟩]] := by rfl
theorem ts_one {w : World} (t : TypeId) : TS (w.alloc (Obj.cells #[.slice none 0 0] t)) (.slice (some ⟨w.heap.size, 0, none⟩) 1 1) [[]] := by
  refine .inr ⟨w.heap.size, 0, 1, rfl, by simp, by unfold maxLen; omega, fun i hi => ?_⟩
  obtain rfl : i = 0 := by simp at hi; omega
  exact ⟨none, 0, 0, by simp, .inl ⟨_, _, rfl, rfl⟩⟩

set_option maxHeartbeats 8000000 in
set_option maxRecDepth 100000 in
theorem walk (S : Int) (ao : Option Addr) (n cap : Nat) (ao2 : Option Addr) (n2 cap2 : Nat) (ao3 : Option Addr) (n3 cap3 : Nat) (S' : Int) (bo : Option Addr) (m dap : Nat) (bo2 : Option Addr) (m2 dap2 : Nat) (bo3 : Option Addr) (m3 dap3 : Nat) (a4 : Option Addr) (n4 c4 : Nat) (Ls : List ((Int × Int) × (Int × Int))) (Hs : List (ByteArray × (Int × Int))) (Ts : List (List Ru)) (Ls' : List ((Int × Int) × (Int × Int))) (Hs' : List (ByteArray × (Int × Int))) (Ts' : List (List Ru)) (l : List Op8) (w : World)
    (hL : GS lnkE w (.slice ao n cap) Ls) (hH : GS hstE w (.slice ao2 n2 cap2) Hs) (hT : TS w (.slice ao3 n3 cap3) Ts) (hL' : GS lnkE w (.slice bo m dap) Ls') (hH' : GS hstE w (.slice bo2 m2 dap2) Hs') (hT' : TS w (.slice bo3 m3 dap3) Ts') (hl : GS opE w (.slice a4 n4 c4) l) :
    Calls Try.prog 3 #[.agg #[.int .i64 S, .slice ao n cap, .slice ao2 n2 cap2, .slice ao3 n3 cap3], .agg #[.int .i64 S', .slice bo m dap, .slice bo2 m2 dap2, .slice bo3 m3 dap3], .slice a4 n4 c4] w fun e w' => e = .returned (.bool true) ∧ Below w.heap.size w w' := by
  obtain ⟨w1, hw1⟩ : ∃ W, W = (w.alloc (Obj.cells #[.int .i64 S, .slice ao n cap, .slice ao2 n2 cap2, .slice ao3 n3 cap3] 28)).alloc (Obj.cells #[.int .i64 S', .slice bo m dap, .slice bo2 m2 dap2, .slice bo3 m3 dap3] 28) := ⟨_, rfl⟩
  have hb1 : Below w.heap.size w w1 := by rw [hw1]; exact ((Below.refl _ _).alloc (Nat.le_refl _) _).alloc (by simp) _
  obtain ⟨hx1, hx2⟩ : BN w1 w.heap.size S (.slice ao n cap) (.slice ao2 n2 cap2) (.slice ao3 n3 cap3) Ls Hs Ts ∧ BN w1 (w.heap.size + 1) S' (.slice bo m dap) (.slice bo2 m2 dap2) (.slice bo3 m3 dap3) Ls' Hs' Ts' := by
    have h := nn_new w S (.slice ao n cap) (.slice ao2 n2 cap2) (.slice ao3 n3 cap3) S' (.slice bo m dap) (.slice bo2 m2 dap2) (.slice bo3 m3 dap3) 28
    rw [← hw1] at h
    exact ⟨⟨h.1, hL.later hb1, hH.later hb1, hT.later hb1⟩, ⟨h.2, hL'.later hb1, hH'.later hb1, hT'.later hb1⟩⟩
  have HBN : Hid (∀ W, Below w1.heap.size w1 W → BN W w.heap.size S (.slice ao n cap) (.slice ao2 n2 cap2) (.slice ao3 n3 cap3) Ls Hs Ts ∧ BN W (w.heap.size + 1) S' (.slice bo m dap) (.slice bo2 m2 dap2) (.slice bo3 m3 dap3) Ls' Hs' Ts') := fun W h => ⟨hx1.later h, hx2.later h⟩
  have HOP : Hid (∀ W, Below w1.heap.size w1 W → GS opE W (.slice a4 n4 c4) l) := fun W h => (hl.later hb1).later h
  have HB1 : Hid (Below w.heap.size w w1) := hb1
  have HW1 : Hid (w1 = (w.alloc (Obj.cells #[.int .i64 S, .slice ao n cap, .slice ao2 n2 cap2, .slice ao3 n3 cap3] 28)).alloc (Obj.cells #[.int .i64 S', .slice bo m dap, .slice bo2 m2 dap2, .slice bo3 m3 dap3] 28)) := hw1
  have hx3 : Below w1.heap.size w1 (((w1.alloc (Obj.cells #[.slice none 0 0] 41)).alloc (Obj.cells #[.int .i64 1, .slice none 0 0, .slice none 0 0, .slice (some ⟨w1.heap.size, 0, none⟩) 1 1] 28)).alloc (Obj.cells #[.int .i64 1, .bool true, .int .i64 2, .int .i64 0, .int .i64 0, .int .i64 1, .int .i64 0, .int .i64 0] 39)) := (((Below.refl _ _).alloc (Nat.le_refl _) _).alloc (by simp) _).alloc (by simp; omega) _
  have HX3 : Hid (TS (((w1.alloc (Obj.cells #[.slice none 0 0] 41)).alloc (Obj.cells #[.int .i64 1, .slice none 0 0, .slice none 0 0, .slice (some ⟨w1.heap.size, 0, none⟩) 1 1] 28)).alloc (Obj.cells #[.int .i64 1, .bool true, .int .i64 2, .int .i64 0, .int .i64 0, .int .i64 1, .int .i64 0, .int .i64 0] 39)) (.slice (some ⟨w1.heap.size, 0, none⟩) 1 1) [[]] ∧ GS opE (((w1.alloc (Obj.cells #[.slice none 0 0] 41)).alloc (Obj.cells #[.int .i64 1, .slice none 0 0, .slice none 0 0, .slice (some ⟨w1.heap.size, 0, none⟩) 1 1] 28)).alloc (Obj.cells #[.int .i64 1, .bool true, .int .i64 2, .int .i64 0, .int .i64 0, .int .i64 1, .int .i64 0, .int .i64 0] 39)) (.slice (some ⟨w1.heap.size + 1 + 1, 0, none⟩) 1 1) [⟨1, true, ⟨2, 0, 0, 1, 0, 0⟩⟩] ∧ Below w1.heap.size w1 (((w1.alloc (Obj.cells #[.slice none 0 0] 41)).alloc (Obj.cells #[.int .i64 1, .slice none 0 0, .slice none 0 0, .slice (some ⟨w1.heap.size, 0, none⟩) 1 1] 28)).alloc (Obj.cells #[.int .i64 1, .bool true, .int .i64 2, .int .i64 0, .int .i64 0, .int .i64 1, .int .i64 0, .int .i64 0] 39))) := by
    refine ⟨((ts_one (w := w1) 41).later ((Below.refl _ _).alloc (Nat.le_refl _) _)).later ((Below.refl _ _).alloc (Nat.le_refl _) _), ?_, hx3⟩
    have h := op_row ((w1.alloc (Obj.cells #[.slice none 0 0] 41)).alloc (Obj.cells #[.int .i64 1, .slice none 0 0, .slice none 0 0, .slice (some ⟨w1.heap.size, 0, none⟩) 1 1] 28)) 1 true 2 0 0 1 0 0 39
    simp only [World.size_alloc] at h
    exact h
  have HSZ1 : Hid (w.heap.size + 1 + 1 = w1.heap.size) := by
    show _ = _
    rw [hw1]
    simp
  clear hL hH hT hL' hH' hT' hl hb1 hx1 hx2 hw1 hx3
  go_enter Try.func3, Try.ntmps3
  go_wp2_with fail
  rw [← HW1.out, HSZ1.out]
  refine (chApply_any 1 none 0 0 none 0 0 (some ⟨w1.heap.size, 0, none⟩) 1 1 (some ⟨w1.heap.size + 1 + 1, 0, none⟩) 1 1 [] [] [[]] [⟨1, true, ⟨2, 0, 0, 1, 0, 0⟩⟩] _ (GS.nil _) (GS.nil _) HX3.out.1 HX3.out.2.1).mono ?_
  rintro e w3 ⟨p1, j1, f1, p2, j2, f2, p3, j3, f3, rfl, g1, g2, g3, hb3⟩
  rw [one_ok] at g1 g2 g3 ⊢
  rw [one_T] at g3
  replace g3 : TS w3 (.slice p3 j3 f3) [[⟨2, 0, 0, 1, 0, 0⟩]] := g3
  have HB3 : Hid (Below w1.heap.size w1 w3) := HX3.out.2.2.trans (hb3.mono HX3.out.2.2.size)
  obtain ⟨gt, ot, rfl, hTA⟩ : ∃ g o, p3 = some ⟨g, o, none⟩ ∧ TAt w3 g o [[⟨2, 0, 0, 1, 0, 0⟩]] := by
    obtain ⟨_, _, _, e, h1, h2, h3, h4⟩ := g3.form
    cases e
    obtain ⟨g, o, h5, h6, _⟩ := h4 (by rw [← h1]; simp)
    exact ⟨g, o, h5, h6⟩
  have hj3 : j3 = 1 := by have := g3.len; simpa using this.symm
  subst hj3
  obtain ⟨a8, n8, c8, t0, t1⟩ := hTA 0 (by simp)
  have hn8 : n8 = 1 := by have := t1.len; simpa using this.symm
  subst hn8
  have htl : gt < w3.heap.size := World.block_lt_of_cell? _ _ t0
  simp only [Nat.add_zero] at t0
  rw [no_ok rfl]
  simp only [nvS, if_true]
  clear g1 g2 g3 hb3 HX3 hTA t1
  obtain ⟨e0, e1, e2, e3⟩ := (HBN.out w3 HB3.out).1.c
  obtain ⟨i0, i1, i2, i3⟩ := (HBN.out w3 HB3.out).2.c
  have hl0 : w.heap.size < w3.heap.size := World.block_lt_of_cell? _ _ e0
  have hl1 : w.heap.size + 1 < w3.heap.size := World.block_lt_of_cell? _ _ i0
  have HB4 : Hid (Below w1.heap.size w1 (w3.alloc (Obj.cells #[.int .i64 1, .slice p1 j1 f1, .slice p2 j2 f2, .slice (some ⟨gt, ot, none⟩) 1 f3] 28))) := HB3.out.alloc HB3.out.size _
  go_wp2_with fail
  refine (chDiff_any S ao n cap ao2 n2 cap2 ao3 n3 cap3 S' bo m dap bo2 m2 dap2 bo3 m3 dap3 Ls Hs Ts Ls' Hs' Ts' _ (HBN.out _ HB4.out).1.l (HBN.out _ HB4.out).1.h (HBN.out _ HB4.out).1.t (HBN.out _ HB4.out).2.l (HBN.out _ HB4.out).2.h (HBN.out _ HB4.out).2.t).mono ?_
  rintro e w4 ⟨v5, rfl, hNO, hb4⟩
  have HB5 : Hid (Below w1.heap.size w1 w4) := HB4.out.trans (hb4.mono HB4.out.size)
  obtain ⟨X, hX⟩ : ∃ X, X = diN S Ls Hs Ts S' Ls' Hs' Ts' := ⟨_, rfl⟩
  have HX : Hid (X = diN S Ls Hs Ts S' Ls' Hs' Ts') := hX
  obtain ⟨D, hD⟩ : ∃ X, X = diL S Ls Hs Ts S' Ls' Hs' Ts' := ⟨_, rfl⟩
  have HD : Hid (D = diL S Ls Hs Ts S' Ls' Hs' Ts') := hD
  rw [← hD] at hNO
  rw [← hX]
  obtain ⟨a5, n5, c5, rfl⟩ : ∃ b1 m1 d1, v5 = .slice b1 m1 d1 := by
    obtain ⟨a, c, h⟩ := own_form hNO
    exact ⟨a, _, c, h⟩
  have HDN : Hid (D.length = n5) := hNO.gs.len
  have HDG : Hid (∀ W, Below w4.heap.size w4 W → GS opE W (.slice a5 n5 c5) D) := fun W h => hNO.gs.later h
  clear hX hD hNO hb4 t0 htl e0 e1 e2 e3 i0 i1 i2 i3 hl0 hl1 HB3 HB4
  obtain ⟨bb, hbb⟩ : ∃ b, b = (decide (X = 0) && decide (n5 ≤ 200)) := ⟨_, rfl⟩
  have HBB : Hid (bb = (decide (X = 0) && decide (n5 ≤ 200))) := hbb
  clear hbb
  have HD0 : Hid (X = 0 → (ntN S Ls Hs Ts = 0 ∧ ntN S Ls Hs Ts' = 0 ∧ S = S' ∧ Ls = Ls' ∧ Hs = Hs') ∧ D = cdL Ts Ts' Ts.length) := by
    intro h
    have h1 := HX.out
    rw [h] at h1
    have h2 := HD.out
    rw [diL, if_pos h1.symm] at h2
    unfold diN at h1
    by_cases hz : nwN S Ls Hs Ts S' Ls' Hs' Ts' = 0
    · rw [if_pos hz] at h1
      by_cases hz2 : tpB S S' Ls Ls' Hs Hs' = true
      · obtain ⟨q1, q2, q3⟩ := tpB_iff.1 hz2
        obtain ⟨q4, q5⟩ := nw_two hz
        subst q1 q2 q3
        exact ⟨⟨q4, q5, rfl, rfl, rfl⟩, h2⟩
      · rw [if_neg hz2] at h1; omega
    · rw [if_neg hz] at h1; exact absurd h1.symm hz
  go_upto_region 6 with fail
  go_cut [64, 10] from 7 (fun c d w' => c = .bool bb ∧ d = .slice a5 n5 c5 ∧ w' = w4)
  case first =>
    by_cases h0 : X = 0
    · subst h0
      rw [no_ok rfl]
      go_wp2_with fail
      go_meet
      case rel => exact ⟨by rw [HBB.out]; simp; omega, rfl, rfl⟩
    · rw [no_ne h0]
      have HF : Hid (bb = false) := by
        show _ = _
        rw [HBB.out]
        simp [h0]
      clear h0
      go_wp2_with fail
      go_meet
      case rel => exact ⟨by rw [HF.out], rfl, rfl⟩
  case rest =>
    obtain ⟨rfl, rfl, hw4⟩ := hcut
    replace hw4 := hw4.symm
    subst hw4
    go_upto_if 64 with fail
    go_cut [12] from 7 (fun _ w' => Below w4.heap.size w4 w')
    case first =>
      cases bb with
      | false =>
        go_wp2_with fail
        go_meet
        case rel => exact Below.refl _ _
      | true =>
        obtain ⟨h0, h200⟩ : X = 0 ∧ n5 ≤ 200 := by
          have h := HBB.out
          simpa using h.symm
        obtain ⟨⟨hA, hBn, hS, hLs, hHs⟩, hD⟩ := HD0.out h0
        subst hS hLs hHs h0
        have HLEN : Hid (D.length ≤ 200) := by
          show _ ≤ _
          rw [HDN.out]
          exact h200
        have HTL : Hid ((Ts.length : Int) = S) := (nt_0 hA).2.1
        have HM1 : Hid (cgN S Ls Hs Ts D = 0 ∧ csB (caT Ts D) Ts' Ts.length = true) := by
          rw [hD]
          exact cg_diff hA hBn (by rw [← hD]; exact HLEN.out)
        have HM2 : Hid (ntN S Ls Hs (caT Ts D) = 0 ∧ cgN S Ls Hs (caT Ts D) (tuL D) = 0 ∧ ntN S Ls Hs (caT (caT Ts D) (tuL D)) = 0 ∧ csB (caT (caT Ts D) (tuL D)) Ts Ts.length = true) := cg_back HM1.out.1
        have HS1 : Hid (nwN S Ls Hs (caT Ts D) S Ls Hs Ts' = 0 ∧ nsB S Ls Hs (caT Ts D) S Ls Hs Ts' = true) := ns_of HM2.out.1 hBn HTL.out HM1.out.2
        have HS2 : Hid (nwN S Ls Hs (caT (caT Ts D) (tuL D)) S Ls Hs Ts = 0 ∧ nsB S Ls Hs (caT (caT Ts D) (tuL D)) S Ls Hs Ts = true) := ns_of HM2.out.2.2.1 hA HTL.out HM2.out.2.2.2
        obtain ⟨e0, e1, e2, e3⟩ := (HBN.out w4 HB5.out).1.c
        have hl0 : w.heap.size < w4.heap.size := World.block_lt_of_cell? _ _ e0
        clear hA hBn hD h200 HBB HD0
        go_wp2_with fail
        refine (chApply_own S ao n cap ao2 n2 cap2 ao3 n3 cap3 a5 n5 c5 Ls Hs Ts D w4 (HBN.out _ HB5.out).1.l (HBN.out _ HB5.out).1.h (HBN.out _ HB5.out).1.t (HDG.out _ (Below.refl _ _))).mono ?_
        rintro e w5 ⟨b1, k1, d1, b2, k2, d2, b3, k3, d3, rfl, hNA, hb5⟩
        rw [HM1.out.1] at hNA ⊢
        rw [no_ok rfl]
        simp only [nvS, if_true]
        simp only [nvL, if_true] at hNA
        obtain ⟨w6, hw6⟩ : ∃ W, W = w5.alloc (Obj.cells #[.int .i64 S, .slice b1 k1 d1, .slice b2 k2 d2, .slice b3 k3 d3] 28) := ⟨_, rfl⟩
        have HW6 : Hid (w6 = w5.alloc (Obj.cells #[.int .i64 S, .slice b1 k1 d1, .slice b2 k2 d2, .slice b3 k3 d3] 28)) := hw6
        have hbx : BN w6 w5.heap.size S (.slice b1 k1 d1) (.slice b2 k2 d2) (.slice b3 k3 d3) Ls Hs (caT Ts D) := by
          rw [hw6]
          exact bn_new 28 hNA.gs.1 hNA.gs.2.1 hNA.gs.2.2
        have hb6 : Below w4.heap.size w4 w6 := by
          rw [hw6]
          exact hb5.alloc hb5.size _
        have HB6 : Hid (Below w4.heap.size w4 w6) := hb6
        have HXB : Hid (∀ W, Below w6.heap.size w6 W → BN W w5.heap.size S (.slice b1 k1 d1) (.slice b2 k2 d2) (.slice b3 k3 d3) Ls Hs (caT Ts D)) := fun W h => hbx.later h
        have hoB := (HBN.out w5 (HB5.out.trans (hb5.mono HB5.out.size))).2
        obtain ⟨i0, i1, i2, i3⟩ := hoB.c
        have hl1 : w.heap.size + 1 < w5.heap.size := World.block_lt_of_cell? _ _ i0
        have HB16 : Hid (Below w1.heap.size w1 w6) := HB5.out.trans (hb6.mono HB5.out.size)
        clear hNA hb5 hw6 hbx hb6 hoB e0 e1 e2 e3 hl0
        go_wp2_with fail
        rw [← HW6.out]
        refine (chSame_any S b1 k1 d1 b2 k2 d2 b3 k3 d3 S bo m dap bo2 m2 dap2 bo3 m3 dap3 Ls Hs (caT Ts D) Ls Hs Ts' w6 (HXB.out _ (Below.refl _ _)).l (HXB.out _ (Below.refl _ _)).h (HXB.out _ (Below.refl _ _)).t (HBN.out _ HB16.out).2.l (HBN.out _ HB16.out).2.h (HBN.out _ HB16.out).2.t).mono ?_
        rintro e w7 ⟨rfl, hb7⟩
        rw [HS1.out.1, HS1.out.2, no_ok rfl]
        have HB7 : Hid (Below w4.heap.size w4 w7) := HB6.out.trans (hb7.mono HB6.out.size)
        have HB17 : Hid (Below w1.heap.size w1 w7) := HB16.out.trans (hb7.mono HB16.out.size)
        have HCX : Hid (∀ W, Below w7.heap.size w7 W → W.cell? ⟨w5.heap.size, 0, none⟩ = some (.int .i64 S) ∧ W.cell? ⟨w5.heap.size, 1, none⟩ = some (.slice b1 k1 d1) ∧ W.cell? ⟨w5.heap.size, 2, none⟩ = some (.slice b2 k2 d2) ∧ W.cell? ⟨w5.heap.size, 3, none⟩ = some (.slice b3 k3 d3)) := fun W h => (HXB.out W (hb7.trans (h.mono hb7.size))).c
        have HXW : Hid (∀ W, Below w7.heap.size w7 W → BN W w5.heap.size S (.slice b1 k1 d1) (.slice b2 k2 d2) (.slice b3 k3 d3) Ls Hs (caT Ts D)) := fun W h => HXB.out W (hb7.trans (h.mono hb7.size))
        have HTU : Hid (∀ W, Below w7.heap.size w7 W → Calls Try.prog 8 #[.slice a5 n5 c5] W fun e w' => ∃ a6 m6 c6, e = .returned (.slice a6 m6 c6) ∧ GS opE w' (.slice a6 m6 c6) (tuL D) ∧ Below W.heap.size W w') := fun W h => by
          refine (turn_any a5 n5 c5 D W (by have := HLEN.out; omega) (HDG.out W (HB7.out.trans (h.mono HB7.out.size)))).mono ?_
          rintro e w' ⟨v, q1, q2, q3⟩
          obtain ⟨a, c, h⟩ := own_form q2
          subst h
          exact ⟨a, _, c, q1, q2.gs, q3⟩
        have HAP : Hid (∀ (a6 : Option Addr) (m6 c6 : Nat) (W : World), Below w7.heap.size w7 W → GS opE W (.slice a6 m6 c6) (tuL D) → Calls Try.prog 5 #[.agg #[.int .i64 S, .slice b1 k1 d1, .slice b2 k2 d2, .slice b3 k3 d3], .slice a6 m6 c6] W fun e w' => ∃ b1 k1 d1 b2 k2 d2 b3 k3 d3, e = .returned (.tuple #[.agg #[.int .i64 S, .slice b1 k1 d1, .slice b2 k2 d2, .slice b3 k3 d3], .nilIface]) ∧ NA w' W.heap.size (.slice b1 k1 d1) (.slice b2 k2 d2) (.slice b3 k3 d3) Ls Hs (caT (caT Ts D) (tuL D)) ∧ Below W.heap.size W w') := fun a6 m6 c6 W h hg => by
          have q := chApply_own S b1 k1 d1 b2 k2 d2 b3 k3 d3 a6 m6 c6 Ls Hs (caT Ts D) (tuL D) W (HXW.out W h).l (HXW.out W h).h (HXW.out W h).t hg
          rw [HM2.out.2.1] at q
          exact q
        clear hb7 i0 i1 i2 i3 hl1
        go_upto_region 9 with fail
        go_cut [16, 17] from 25 (fun p e w' => e = .nilIface ∧ PN w' p S Ls Hs (caT (caT Ts D) (tuL D)) ∧ Below w7.heap.size w7 w')
        case first =>
          go_region_held3 (fun W => W.cell? ⟨w5.heap.size, 0, none⟩ = some (.int .i64 S) ∧ W.cell? ⟨w5.heap.size, 1, none⟩ = some (.slice b1 k1 d1) ∧ W.cell? ⟨w5.heap.size, 2, none⟩ = some (.slice b2 k2 d2) ∧ W.cell? ⟨w5.heap.size, 3, none⟩ = some (.slice b3 k3 d3))
            (first | assumption | exact HCX.out _ (Below.drew (Below.refl _ _)) | exact HCX.out _ ((Below.drew (Below.refl _ _)).alloc (Nat.le_refl _) _) | exact HCX.out _ HBX.out | exact HCX.out _ (HBX.out.alloc HBX.out.size _) | exact HCX.out _ (below_put4 HBX.out _ (by first | exact Nat.le_refl _ | exact HBT.out.size) _ _ _ _) | exact HCX.out _ HBT.out | exact HCX.out _ (HBT.out.alloc HBT.out.size _))
            (first
              | (go_at_call 8; refine (HTU.out _ (by first | exact Below.drew (Below.refl _ _) | exact (Below.drew (Below.refl _ _)).alloc (Nat.le_refl _) _)).mono ?_; rintro e w' ⟨a6, m6, c6, rfl, hG, hb⟩; have HBT : Hid (Below w7.heap.size w7 w') := (by first | exact fdrew hb | exact falloc hb); have HGT : Hid (GS opE w' (.slice a6 m6 c6) (tuL D)) := hG; (try (have HZ : Hid (ZB w' w7.heap.size) := zb_d hb)); clear hb hG)
              | (go_at_call 5; refine (HAP.out _ _ _ _ (by first | exact HBT.out | exact HBT.out.alloc HBT.out.size _) (by first | exact HGT.out | exact HGT.out.later ((Below.refl _ _).alloc (Nat.le_refl _) _))).mono ?_; rintro e w'' ⟨e1, m1, r1, e2, m2, r2, e3, m3, r3, rfl, hG, hb⟩; have HBX : Hid (Below w7.heap.size w7 w'') := (by first | exact HBT.out.trans (hb.mono HBT.out.size) | exact (HBT.out.alloc HBT.out.size _).trans (hb.mono (HBT.out.alloc HBT.out.size _).size)); have HGX : Hid (NA w'' _ (.slice e1 m1 r1) (.slice e2 m2 r2) (.slice e3 m3 r3) Ls Hs (caT (caT Ts D) (tuL D))) := hG; (try (have hz := HZ.out.later hb; obtain ⟨⟨y0, y1, y2, y3⟩, yf⟩ := hz; have yf0 := yf 0; have yf1 := yf 1; have yf2 := yf 2; have yf3 := yf 3; have HLT : Hid (w7.heap.size < w'.heap.size) := HZ.out.lt; clear yf)); (try (have hz := zb_a hb; obtain ⟨⟨y0, y1, y2, y3⟩, yf⟩ := hz; have yf0 := yf 0; have yf1 := yf 1; have yf2 := yf 2; have yf3 := yf 3; clear yf)); clear hb hG))
          all_goals (go_wp2_with fail; go_meet)
          all_goals first
            | exact ⟨rfl, pn_new _ HGX.out, HBX.out.alloc HBX.out.size _⟩
            | exact ⟨rfl, pn_put HGX.out HLT.out ⟨y0, y1, y2, y3⟩, below_put4 HBX.out _ (Nat.le_refl _) _ _ _ _⟩
            | exact ⟨rfl, pn_put HGX.out (by simp) ⟨y0, y1, y2, y3⟩, below_put4 HBX.out _ HBT.out.size _ _ _ _⟩
        case rest =>
          obtain ⟨rfl, ⟨y', q1, q2, q3, q4, q5, q6, q7, q8, q9, rfl, hby⟩, hbw⟩ := hcut
          have HB8 : Hid (Below w4.heap.size w4 wc) := HB7.out.trans (hbw.mono HB7.out.size)
          have HB18 : Hid (Below w1.heap.size w1 wc) := HB17.out.trans (hbw.mono HB17.out.size)
          have HBY : Hid (BN wc y' S (.slice q1 q2 q3) (.slice q4 q5 q6) (.slice q7 q8 q9) Ls Hs (caT (caT Ts D) (tuL D))) := hby
          obtain ⟨u0, u1, u2, u3⟩ := hby.c
          obtain ⟨e0, e1, e2, e3⟩ := (HBN.out wc HB18.out).1.c
          clear hby hbw HCX HXW HTU HAP HXB HB7 HB17
          go_wp2_with fail
          refine (chSame_any S q1 q2 q3 q4 q5 q6 q7 q8 q9 S ao n cap ao2 n2 cap2 ao3 n3 cap3 Ls Hs (caT (caT Ts D) (tuL D)) Ls Hs Ts wc HBY.out.l HBY.out.h HBY.out.t (HBN.out _ HB18.out).1.l (HBN.out _ HB18.out).1.h (HBN.out _ HB18.out).1.t).mono ?_
          rintro e w8 ⟨rfl, hb8⟩
          rw [HS2.out.1, HS2.out.2, no_ok rfl]
          have HB9 : Hid (Below w4.heap.size w4 w8) := HB8.out.trans (hb8.mono HB8.out.size)
          clear hb8 u0 u1 u2 u3 e0 e1 e2 e3
          go_wp2_with fail
          go_meet
          case rel => exact HB9.out
    case rest =>
      rename World => w9
      have HB9 : Hid (Below w1.heap.size w1 w9) := HB5.out.trans (hcut.mono HB5.out.size)
      obtain ⟨e0, e1, e2, e3⟩ := (HBN.out w9 HB9.out).1.c
      have hl0 : w.heap.size < w9.heap.size := World.block_lt_of_cell? _ _ e0
      clear hcut HDG HDN HD0 HBB HD HX
      go_wp2_with fail
      refine (chApply_own S ao n cap ao2 n2 cap2 ao3 n3 cap3 a4 n4 c4 Ls Hs Ts l w9 (HBN.out _ HB9.out).1.l (HBN.out _ HB9.out).1.h (HBN.out _ HB9.out).1.t (HOP.out _ HB9.out)).mono ?_
      rintro e w5 ⟨b1, k1, d1, b2, k2, d2, b3, k3, d3, rfl, hNA, hb5⟩
      obtain ⟨Y, hY⟩ : ∃ X, X = cgN S Ls Hs Ts l := ⟨_, rfl⟩
      have HY : Hid (Y = cgN S Ls Hs Ts l) := hY
      rw [← hY] at hNA ⊢
      have HB10 : Hid (Below w1.heap.size w1 w5) := HB9.out.trans (hb5.mono HB9.out.size)
      clear hY hb5 e0 e1 e2 e3 hl0
      by_cases h0 : Y = 0
      · subst h0
        rw [no_ok rfl]
        simp only [nvS, if_true]
        simp only [nvL, if_true] at hNA
        have HM2 : Hid (ntN S Ls Hs (caT Ts l) = 0 ∧ cgN S Ls Hs (caT Ts l) (tuL l) = 0 ∧ ntN S Ls Hs (caT (caT Ts l) (tuL l)) = 0 ∧ csB (caT (caT Ts l) (tuL l)) Ts Ts.length = true) := cg_back HY.out.symm
        have HC0 : Hid (ntN S Ls Hs Ts = 0 ∧ l.length ≤ 200) := ⟨(cg_0 HY.out.symm).1, (cg_0 HY.out.symm).2.1⟩
        have HS2 : Hid (nwN S Ls Hs (caT (caT Ts l) (tuL l)) S Ls Hs Ts = 0 ∧ nsB S Ls Hs (caT (caT Ts l) (tuL l)) S Ls Hs Ts = true) := ns_of HM2.out.2.2.1 HC0.out.1 (nt_0 HC0.out.1).2.1 HM2.out.2.2.2
        obtain ⟨w7, hw7⟩ : ∃ W, W = w5.alloc (Obj.cells #[.int .i64 S, .slice b1 k1 d1, .slice b2 k2 d2, .slice b3 k3 d3] 28) := ⟨_, rfl⟩
        have HW7 : Hid (w7 = w5.alloc (Obj.cells #[.int .i64 S, .slice b1 k1 d1, .slice b2 k2 d2, .slice b3 k3 d3] 28)) := hw7
        have hbx : BN w7 w5.heap.size S (.slice b1 k1 d1) (.slice b2 k2 d2) (.slice b3 k3 d3) Ls Hs (caT Ts l) := by
          rw [hw7]
          exact bn_new 28 hNA.gs.1 hNA.gs.2.1 hNA.gs.2.2
        have HB17 : Hid (Below w1.heap.size w1 w7) := by
          rw [hw7]
          exact HB10.out.alloc HB10.out.size _
        have HXW : Hid (∀ W, Below w7.heap.size w7 W → BN W w5.heap.size S (.slice b1 k1 d1) (.slice b2 k2 d2) (.slice b3 k3 d3) Ls Hs (caT Ts l)) := fun W h => hbx.later h
        have HCX : Hid (∀ W, Below w7.heap.size w7 W → W.cell? ⟨w5.heap.size, 0, none⟩ = some (.int .i64 S) ∧ W.cell? ⟨w5.heap.size, 1, none⟩ = some (.slice b1 k1 d1) ∧ W.cell? ⟨w5.heap.size, 2, none⟩ = some (.slice b2 k2 d2) ∧ W.cell? ⟨w5.heap.size, 3, none⟩ = some (.slice b3 k3 d3)) := fun W h => (HXW.out W h).c
        have HTU : Hid (∀ W, Below w7.heap.size w7 W → Calls Try.prog 8 #[.slice a4 n4 c4] W fun e w' => ∃ a6 m6 c6, e = .returned (.slice a6 m6 c6) ∧ GS opE w' (.slice a6 m6 c6) (tuL l) ∧ Below W.heap.size W w') := fun W h => by
          refine (turn_any a4 n4 c4 l W (by have := HC0.out.2; omega) (HOP.out W (HB17.out.trans (h.mono HB17.out.size)))).mono ?_
          rintro e w' ⟨v, q1, q2, q3⟩
          obtain ⟨a, c, h⟩ := own_form q2
          subst h
          exact ⟨a, _, c, q1, q2.gs, q3⟩
        have HAP : Hid (∀ (a6 : Option Addr) (m6 c6 : Nat) (W : World), Below w7.heap.size w7 W → GS opE W (.slice a6 m6 c6) (tuL l) → Calls Try.prog 5 #[.agg #[.int .i64 S, .slice b1 k1 d1, .slice b2 k2 d2, .slice b3 k3 d3], .slice a6 m6 c6] W fun e w' => ∃ b1 k1 d1 b2 k2 d2 b3 k3 d3, e = .returned (.tuple #[.agg #[.int .i64 S, .slice b1 k1 d1, .slice b2 k2 d2, .slice b3 k3 d3], .nilIface]) ∧ NA w' W.heap.size (.slice b1 k1 d1) (.slice b2 k2 d2) (.slice b3 k3 d3) Ls Hs (caT (caT Ts l) (tuL l)) ∧ Below W.heap.size W w') := fun a6 m6 c6 W h hg => by
          have q := chApply_own S b1 k1 d1 b2 k2 d2 b3 k3 d3 a6 m6 c6 Ls Hs (caT Ts l) (tuL l) W (HXW.out W h).l (HXW.out W h).h (HXW.out W h).t hg
          rw [HM2.out.2.1] at q
          exact q
        clear hNA hw7 hbx
        go_upto_region 16 with fail
        rw [← HW7.out]
        go_cut [21, 22] from 25 (fun p e w' => e = .nilIface ∧ PN w' p S Ls Hs (caT (caT Ts l) (tuL l)) ∧ Below w7.heap.size w7 w')
        case first =>
          go_region_held3 (fun W => W.cell? ⟨w5.heap.size, 0, none⟩ = some (.int .i64 S) ∧ W.cell? ⟨w5.heap.size, 1, none⟩ = some (.slice b1 k1 d1) ∧ W.cell? ⟨w5.heap.size, 2, none⟩ = some (.slice b2 k2 d2) ∧ W.cell? ⟨w5.heap.size, 3, none⟩ = some (.slice b3 k3 d3))
            (first | assumption | exact HCX.out _ (Below.drew (Below.refl _ _)) | exact HCX.out _ ((Below.drew (Below.refl _ _)).alloc (Nat.le_refl _) _) | exact HCX.out _ HBX.out | exact HCX.out _ (HBX.out.alloc HBX.out.size _) | exact HCX.out _ (below_put4 HBX.out _ (by first | exact Nat.le_refl _ | exact HBT.out.size) _ _ _ _) | exact HCX.out _ HBT.out | exact HCX.out _ (HBT.out.alloc HBT.out.size _))
            (first
              | (go_at_call 8; refine (HTU.out _ (by first | exact Below.drew (Below.refl _ _) | exact (Below.drew (Below.refl _ _)).alloc (Nat.le_refl _) _)).mono ?_; rintro e w' ⟨a6, m6, c6, rfl, hG, hb⟩; have HBT : Hid (Below w7.heap.size w7 w') := (by first | exact fdrew hb | exact falloc hb); have HGT : Hid (GS opE w' (.slice a6 m6 c6) (tuL l)) := hG; (try (have HZ : Hid (ZB w' w7.heap.size) := zb_d hb)); clear hb hG)
              | (go_at_call 5; refine (HAP.out _ _ _ _ (by first | exact HBT.out | exact HBT.out.alloc HBT.out.size _) (by first | exact HGT.out | exact HGT.out.later ((Below.refl _ _).alloc (Nat.le_refl _) _))).mono ?_; rintro e w'' ⟨e1, m1, r1, e2, m2, r2, e3, m3, r3, rfl, hG, hb⟩; have HBX : Hid (Below w7.heap.size w7 w'') := (by first | exact HBT.out.trans (hb.mono HBT.out.size) | exact (HBT.out.alloc HBT.out.size _).trans (hb.mono (HBT.out.alloc HBT.out.size _).size)); have HGX : Hid (NA w'' _ (.slice e1 m1 r1) (.slice e2 m2 r2) (.slice e3 m3 r3) Ls Hs (caT (caT Ts l) (tuL l))) := hG; (try (have hz := HZ.out.later hb; obtain ⟨⟨y0, y1, y2, y3⟩, yf⟩ := hz; have yf0 := yf 0; have yf1 := yf 1; have yf2 := yf 2; have yf3 := yf 3; have HLT : Hid (w7.heap.size < w'.heap.size) := HZ.out.lt; clear yf)); (try (have hz := zb_a hb; obtain ⟨⟨y0, y1, y2, y3⟩, yf⟩ := hz; have yf0 := yf 0; have yf1 := yf 1; have yf2 := yf 2; have yf3 := yf 3; clear yf)); clear hb hG))
          all_goals (go_wp2_with fail; go_meet)
          all_goals first
            | exact ⟨rfl, pn_new _ HGX.out, HBX.out.alloc HBX.out.size _⟩
            | exact ⟨rfl, pn_put HGX.out HLT.out ⟨y0, y1, y2, y3⟩, below_put4 HBX.out _ (Nat.le_refl _) _ _ _ _⟩
            | exact ⟨rfl, pn_put HGX.out (by simp) ⟨y0, y1, y2, y3⟩, below_put4 HBX.out _ HBT.out.size _ _ _ _⟩
        case rest =>
          obtain ⟨rfl, ⟨y', q1, q2, q3, q4, q5, q6, q7, q8, q9, rfl, hby⟩, hbw⟩ := hcut
          have HB18 : Hid (Below w1.heap.size w1 wc) := HB17.out.trans (hbw.mono HB17.out.size)
          have HBY : Hid (BN wc y' S (.slice q1 q2 q3) (.slice q4 q5 q6) (.slice q7 q8 q9) Ls Hs (caT (caT Ts l) (tuL l))) := hby
          obtain ⟨u0, u1, u2, u3⟩ := hby.c
          obtain ⟨e0, e1, e2, e3⟩ := (HBN.out wc HB18.out).1.c
          clear hby hbw HCX HXW HTU HAP HB17
          go_wp2_with fail
          refine (chSame_any S q1 q2 q3 q4 q5 q6 q7 q8 q9 S ao n cap ao2 n2 cap2 ao3 n3 cap3 Ls Hs (caT (caT Ts l) (tuL l)) Ls Hs Ts wc HBY.out.l HBY.out.h HBY.out.t (HBN.out _ HB18.out).1.l (HBN.out _ HB18.out).1.h (HBN.out _ HB18.out).1.t).mono ?_
          rintro e w8 ⟨rfl, hb8⟩
          rw [HS2.out.1, HS2.out.2, no_ok rfl]
          have HBE : Hid (Below w1.heap.size w1 w8) := HB18.out.trans (hb8.mono HB18.out.size)
          clear hb8 u0 u1 u2 u3 e0 e1 e2 e3
          go_wp2
          go_ret
          exact ⟨rfl, HB1.out.trans (HBE.out.mono HB1.out.size)⟩
      · have HNZ : Hid (Y ≠ 0) := h0
        rw [no_ne h0]
        clear h0
        go_wp2
        go_ret
        exact ⟨rfl, HB1.out.trans ((HB10.out.alloc HB10.out.size _).mono HB1.out.size)⟩
end Go.Proofs.Ytokkmnednhigmae.changeBack
/- A topology that came in: its number of switches, its links, its hosts. -/
namespace Go.Proofs.Ytokkmnednhigmae
open Go.ChangeShapes Go.WideShapes Go.ChangeAt Go.RowKit Go.Joins
set_option linter.unusedSimpArgs false
set_option linter.unusedVariables false
set_option maxRecDepth 100000

section
variable {P : Program} {α : Type} {E : Enc α}
set_option maxRecDepth 100000 in
/-- A cell that reads as a slice lies where it says. -/
theorem gs_open {H : Type} {enc : TypeId × Value → H} {W : World} {fuel : Nat} {cs : List Value} {x : DataW H × List MemPlace} (ts te : TypeId) (hu : P.underlying ts = some (.slice te)) (hC : P.cellsOf te = E.n) (x0 : α)
    (hel : ∀ (n : Nat) (cs : List Value) (x : DataW H × List MemPlace), DataW.trod enc P W 0 (fun _ => true) true n te cs = some x → ∃ y, cs = E.c y)
    (hf2 : DataW.trod enc P W 0 (fun _ => true) true fuel ts cs = some x) : ∃ ao n cap L, cs = [.slice ao n cap] ∧ GS E W (.slice ao n cap) L := by
  obtain ⟨d, p⟩ := x
  rcases Go.Deep.open_slice hu hf2 with ⟨hc, hx⟩ | ⟨a, len0, cap, m, k, D, Pl, hc, _, hl, hm, hmm, hx, hall⟩
  · exact ⟨_, _, _, [], hc, .inl ⟨none, 0, rfl, rfl⟩⟩
  · simp only [if_true] at hmm
    subst hmm
    rcases Nat.eq_zero_or_pos len0 with h0 | h0
    · subst h0
      exact ⟨_, _, _, [], hc, .inl ⟨_, _, rfl, rfl⟩⟩
    · have each : ∀ i, i < m → ∃ y : α, ∀ j, j < E.n → W.cell? (a.add (i * E.n + j)) = (E.c y)[j]? := by
        intro i hi
        obtain ⟨cs, h1, h2⟩ := hall i hi
        rw [hC] at h1
        obtain ⟨_, hlen, hcell⟩ := World.cells?_some h1
        obtain ⟨y, rfl⟩ := hel _ _ _ h2
        refine ⟨y, fun j hj => ?_⟩
        have := hcell j (by omega)
        rw [Go.Deep.add_add] at this
        exact this
      have iR : Inhabited α := ⟨x0⟩
      obtain ⟨R, hR⟩ := Go.Deep.choose_lt each
      obtain ⟨sb, so, spot⟩ := a
      have hspot : spot = none := by
        have h1 := hR 0 (by omega) 0 E.pos
        have h2 : (E.c (R 0))[0]?.isSome = true := by
          rw [List.getElem?_eq_getElem (by rw [E.len]; exact E.pos)]
          rfl
        obtain ⟨u, hu2⟩ := Option.isSome_iff_exists.1 h2
        rw [hu2] at h1
        simpa [Addr.add] using World.cell?_spot h1
      subst hspot
      have hadd : ∀ j, (⟨sb, so, none⟩ : Addr).add j = ⟨sb, so + j, none⟩ := by
        intro j
        simp only [Addr.add]
        first
          | rfl
          | (split
             · next h0 => rw [h0]; rfl
             · rfl)
      refine ⟨_, _, _, (List.range len0).map R, hc, .inr ⟨sb, so, _, by simp, by simpa using hl, hm, fun i hi j u hu2 => ?_⟩⟩
      have hi2 : i < len0 := by simpa using hi
      have e : ((List.range len0).map R)[i] = R i := by simp
      rw [e] at hu2
      have hj : j < E.n := by
        have := (List.getElem?_eq_some_iff.1 hu2).1
        rw [E.len] at this
        exact this
      have hc := hR i (by omega) j hj
      rw [hadd, hu2, ← Nat.add_assoc] at hc
      exact hc
end
set_option maxRecDepth 100000 in
/-- One that came in. -/
theorem topo_open {H : Type} {enc : TypeId × Value → H} {W : World} {n : Nat} {cs : List Value} {x : DataW H × List MemPlace}
    (h : DataW.trod enc Try.prog W 0 (fun _ => true) true n 25 cs = some x) : ∃ S ao n cap ao2 n2 cap2 Ls Hs, cs = [.int .i64 S, .slice ao n cap, .slice ao2 n2 cap2] ∧ GS lnkE W (.slice ao n cap) Ls ∧ GS hstE W (.slice ao2 n2 cap2) Hs := by
  obtain ⟨xs, k, _, _, hl, hlen, hf⟩ := DataW.trod_struct Try.underlying25 h
  have hC : Try.prog.cellsOf 25 = 3 := by kernel_rfl
  have hT0 : Try.prog.cellsOf 3 = 1 := by kernel_rfl
  have hT1 : Try.prog.cellsOf 22 = 1 := by kernel_rfl
  have hT2 : Try.prog.cellsOf 23 = 1 := by kernel_rfl
  rw [hC] at hl
  match cs, hl with
  | [c0, c1, c2], _ =>
    match xs, hlen with
    | [z0, z1, z2], _ =>
      have g0 := hf 0 _ rfl
      have g1 := hf 1 _ rfl
      have g2 := hf 2 _ rfl
      simp [hT0, hT1, hT2] at g0 g1 g2
      obtain ⟨v0, e0, _, _⟩ := DataW.trod_int Try.underlying3 g0
      obtain ⟨ao, n, cap, Ls, e1, hL⟩ := gs_open (E := lnkE) 22 68 Try.underlying22 (by kernel_rfl) ((0, 0), (0, 0)) (fun _ _ _ h => lnk_open h) g1
      obtain ⟨ao2, n2, cap2, Hs, e2, hH⟩ := gs_open (E := hstE) 23 70 Try.underlying23 (by kernel_rfl) (ByteArray.empty, (0, 0)) (fun _ _ _ h => hst_open h) g2
      simp at e0 e1 e2
      exact ⟨v0, ao, n, cap, ao2, n2, cap2, Ls, Hs, by simp [e0, e1, e2], hL, hH⟩
theorem topo_of {H : Type} {enc : TypeId × Value → H} {W : World} {base : Nat} {v : Value} {d : DataW H} {p : List MemPlace}
    (hv : Value.okWide Try.prog W .any base 25 v) (h : DataW.Trod enc Try.prog W 0 (fun _ => true) true 25 v d p) : ∃ S ao n cap ao2 n2 cap2 Ls Hs, v = .agg #[.int .i64 S, .slice ao n cap, .slice ao2 n2 cap2] ∧ GS lnkE W (.slice ao n cap) Ls ∧ GS hstE W (.slice ao2 n2 cap2) Hs := by
  obtain ⟨cs, rfl, hsz⟩ := okWide_struct Try.underlying25 hv
  obtain ⟨n, hn⟩ := h
  obtain ⟨S, ao, n, cap, ao2, n2, cap2, Ls, Hs, e, h1, h2⟩ := topo_open hn
  refine ⟨S, ao, n, cap, ao2, n2, cap2, Ls, Hs, ?_, h1, h2⟩
  simp only [Value.cells] at e
  rw [← Array.toArray_toList (xs := cs), e]
end Go.Proofs.Ytokkmnednhigmae
/- A net that came in: its topology, its tables. -/
namespace Go.Proofs.Ytokkmnednhigmae
open Go.ChangeShapes Go.WideShapes Go.ChangeAt Go.RowKit Go.Joins
set_option linter.unusedSimpArgs false
set_option linter.unusedVariables false
set_option maxRecDepth 100000

theorem gs_SR {w : World} {v : Value} {L : List Ru} (h : GS rlE w v L) : SR w v L := by
  rcases h with h | ⟨g, o, cap, h1, h2, h3, h4⟩
  · exact .inl h
  · refine .inr ⟨g, o, cap, h1, h2, h3, fun i hi => ?_⟩
    have hv := h4 i hi
    generalize L[i] = r at hv
    obtain ⟨p, m, b, q, s, x⟩ := r
    obtain ⟨q0, q1, q2, q3, q4, q5⟩ := rl_cells hv
    exact ⟨q0, q1, q2, q3, q4, q5⟩
set_option maxRecDepth 100000 in
theorem table_open {H : Type} {enc : TypeId × Value → H} {W : World} {fuel : Nat} {cs : List Value} {x : DataW H × List MemPlace}
    (h : DataW.trod enc Try.prog W 0 (fun _ => true) true fuel 41 cs = some x) : ∃ ao n cap L, cs = [.slice ao n cap] ∧ SR W (.slice ao n cap) L := by
  obtain ⟨ao, n, cap, L, e, hL⟩ := gs_open (E := rlE) 41 37 Try.underlying41 (by kernel_rfl) zeR (fun _ _ _ h => rl_open h) h
  exact ⟨ao, n, cap, L, e, gs_SR hL⟩
set_option maxRecDepth 100000 in
theorem tables_open {H : Type} {enc : TypeId × Value → H} {W : World} {fuel : Nat} {cs : List Value} {x : DataW H × List MemPlace}
    (hf2 : DataW.trod enc Try.prog W 0 (fun _ => true) true fuel 26 cs = some x) : ∃ ao n cap Ts, cs = [.slice ao n cap] ∧ TS W (.slice ao n cap) Ts := by
  obtain ⟨d, p⟩ := x
  have hC : Try.prog.cellsOf 41 = 1 := by kernel_rfl
  rcases Go.Deep.open_slice Try.underlying26 hf2 with ⟨hc, hx⟩ | ⟨a, len0, cap, m, k, D, Pl, hc, _, hl, hm, hmm, hx, hall⟩
  · exact ⟨_, _, _, [], hc, .inl ⟨none, 0, rfl, rfl⟩⟩
  · simp only [if_true] at hmm
    subst hmm
    rcases Nat.eq_zero_or_pos len0 with h0 | h0
    · subst h0
      exact ⟨_, _, _, [], hc, .inl ⟨_, _, rfl, rfl⟩⟩
    · have each : ∀ i, i < m → ∃ L : List Ru, ∃ ao n cap, W.cell? (a.add i) = some (.slice ao n cap) ∧ SR W (.slice ao n cap) L := by
        intro i hi
        obtain ⟨cs, h1, h2⟩ := hall i hi
        rw [hC] at h1
        obtain ⟨_, hlen, hcell⟩ := World.cells?_some h1
        obtain ⟨ao, n, cap, L, rfl, hL⟩ := table_open h2
        refine ⟨L, ao, n, cap, ?_, hL⟩
        have := hcell 0 (by simp)
        rw [Go.Deep.add_add] at this
        simpa using this
      obtain ⟨R, hR⟩ := Go.Deep.choose_lt each
      obtain ⟨sb, so, spot⟩ := a
      have hspot : spot = none := by
        obtain ⟨ao, n, cap, h1, _⟩ := hR 0 (by omega)
        simpa [Addr.add] using World.cell?_spot h1
      subst hspot
      have hadd : ∀ j, (⟨sb, so, none⟩ : Addr).add j = ⟨sb, so + j, none⟩ := by
        intro j
        simp only [Addr.add]
        first
          | rfl
          | (split
             · next h0 => rw [h0]; rfl
             · rfl)
      refine ⟨_, _, _, (List.range len0).map R, hc, .inr ⟨sb, so, _, by simp, by simpa using hl, hm, fun i hi => ?_⟩⟩
      have hi2 : i < len0 := by simpa using hi
      have e : ((List.range len0).map R)[i] = R i := by simp
      rw [e]
      obtain ⟨ao, n, cap, h1, h2⟩ := hR i (by omega)
      rw [hadd] at h1
      exact ⟨ao, n, cap, h1, h2⟩
set_option maxRecDepth 100000 in
/-- One that came in. -/
theorem net_open {H : Type} {enc : TypeId × Value → H} {W : World} {n : Nat} {cs : List Value} {x : DataW H × List MemPlace}
    (h : DataW.trod enc Try.prog W 0 (fun _ => true) true n 28 cs = some x) : ∃ S ao n cap ao2 n2 cap2 ao3 n3 cap3 Ls Hs Ts, cs = [.int .i64 S, .slice ao n cap, .slice ao2 n2 cap2, .slice ao3 n3 cap3] ∧ GS lnkE W (.slice ao n cap) Ls ∧ GS hstE W (.slice ao2 n2 cap2) Hs ∧ TS W (.slice ao3 n3 cap3) Ts := by
  obtain ⟨xs, k, _, _, hl, hlen, hf⟩ := DataW.trod_struct Try.underlying28 h
  have hC : Try.prog.cellsOf 28 = 4 := by kernel_rfl
  have hT0 : Try.prog.cellsOf 25 = 3 := by kernel_rfl
  have hT1 : Try.prog.cellsOf 26 = 1 := by kernel_rfl
  rw [hC] at hl
  match cs, hl with
  | [c0, c1, c2, c3], _ =>
    match xs, hlen with
    | [z0, z1], _ =>
      have g0 := hf 0 _ rfl
      have g1 := hf 1 _ rfl
      simp [hT0, hT1] at g0 g1
      obtain ⟨S, ao, n, cap, ao2, n2, cap2, Ls, Hs, e0, hL, hH⟩ := topo_open g0
      obtain ⟨ao3, n3, cap3, Ts, e1, hT⟩ := tables_open g1
      simp at e0 e1
      exact ⟨S, ao, n, cap, ao2, n2, cap2, ao3, n3, cap3, Ls, Hs, Ts, by simp [e0, e1], hL, hH, hT⟩
theorem net_of {H : Type} {enc : TypeId × Value → H} {W : World} {base : Nat} {v : Value} {d : DataW H} {p : List MemPlace}
    (hv : Value.okWide Try.prog W .any base 28 v) (h : DataW.Trod enc Try.prog W 0 (fun _ => true) true 28 v d p) : ∃ S ao n cap ao2 n2 cap2 ao3 n3 cap3 Ls Hs Ts, v = .agg #[.int .i64 S, .slice ao n cap, .slice ao2 n2 cap2, .slice ao3 n3 cap3] ∧ GS lnkE W (.slice ao n cap) Ls ∧ GS hstE W (.slice ao2 n2 cap2) Hs ∧ TS W (.slice ao3 n3 cap3) Ts := by
  obtain ⟨cs, rfl, hsz⟩ := okWide_struct Try.underlying28 hv
  obtain ⟨n, hn⟩ := h
  obtain ⟨S, ao, n, cap, ao2, n2, cap2, ao3, n3, cap3, Ls, Hs, Ts, e, h1, h2, h3⟩ := net_open hn
  refine ⟨S, ao, n, cap, ao2, n2, cap2, ao3, n3, cap3, Ls, Hs, Ts, ?_, h1, h2, h3⟩
  simp only [Value.cells] at e
  rw [← Array.toArray_toList (xs := cs), e]
end Go.Proofs.Ytokkmnednhigmae
