/- The walk of TopoTells: it answers true, whatever topology, spot, name and two numbers it is called with. -/
import Derived.Test.YtfbocionnjlilacDoorRefTopo
import Derived.Test.YtfbocionnjlilacDoorRefPeer
import Derived.Test.YtfbocionnjlilacDoorRefNamed
import Derived.Test.YtfbocionnjlilacDoorRefFar
import Derived.Test.YtfbocionnjlilacDoorRefInts
import Derived.Test.YtfbocionnjlilacDoorTopoTellsMath
import Derived.Test.YtfbocionnjlilacDoorTopoPeer
import Derived.Test.YtfbocionnjlilacDoorTopoAt
import Derived.Test.YtfbocionnjlilacDoorTopoWhere
import Derived.Test.YtfbocionnjlilacDoorTopoNearA
import Derived.Test.YtfbocionnjlilacDoorTopoFar
import Derived.Test.YtfbocionnjlilacDoorSameNo
import Derived.Deep.CutRange
import Derived.Deep.CutBlock
namespace Go.Proofs.YtfbocionnjlilacDoor.topoTells
open Go.RowKit
set_option linter.unusedSimpArgs false
set_option linter.unusedVariables false

/-- Two numbers lie in a box behind the first two ones. -/
structure PB (w W : World) (g : Nat) (a b : Int) : Prop where
  c0 : W.cell? ⟨g, 0, none⟩ = some (.int .i64 a)
  c1 : W.cell? ⟨g, 1, none⟩ = some (.int .i64 b)
  f0 : W.frozen? ⟨g, 0, none⟩ = false
  f1 : W.frozen? ⟨g, 1, none⟩ = false
  ge : w.heap.size + 2 ≤ g
theorem PB.later {w W W' : World} {g : Nat} {a b : Int} (h : PB w W g a b) (hb : Below W.heap.size W W') : PB w W' g a b :=
  have hl : (⟨g, 0, none⟩ : Addr).block < W.heap.size := World.block_lt_of_cell? W ⟨g, 0, none⟩ h.c0
  ⟨cell_later hb h.c0, cell_later hb h.c1, (hb.frozen (p := ⟨g, 0, none⟩) hl).trans h.f0, (hb.frozen (p := ⟨g, 1, none⟩) hl).trans h.f1, h.ge⟩
theorem pb_new (w W : World) (a b : Int) (t : TypeId) (h : w.heap.size + 2 ≤ W.heap.size) : PB w (W.alloc (Obj.cells #[.int .i64 a, .int .i64 b] t)) W.heap.size a b := ⟨by simp, by simp, by simp, by simp, h⟩
/-- Two cells are set. -/
def st2 (W : World) (g : Nat) (a b : Int) : World := (W.setCell ⟨g, 0, none⟩ (.int .i64 a)).setCell ⟨g, 1, none⟩ (.int .i64 b)
theorem PB.set {w W : World} {g : Nat} {a b : Int} (h : PB w W g a b) (c d : Int) : PB w (st2 W g c d) g c d := by
  refine ⟨?_, ?_, by simpa [st2] using h.f0, by simpa [st2] using h.f1, h.ge⟩
  · unfold st2
    rw [World.cell?_setCell_other _ _ _ _ (fun e => by simp at e)]
    exact World.cell?_setCell_same _ _ _ h.c0
  · unfold st2
    have h1 : (W.setCell ⟨g, 0, none⟩ (.int .i64 c)).cell? ⟨g, 1, none⟩ = some (.int .i64 b) := by
      rw [World.cell?_setCell_other _ _ _ _ (fun e => by simp at e)]
      exact h.c1
    exact World.cell?_setCell_same _ _ _ h1
theorem PB.other {w W : World} {g g' : Nat} {a b : Int} (h : PB w W g a b) (hn : g' ≠ g) (c d : Int) : PB w (st2 W g' c d) g a b := by
  refine ⟨?_, ?_, by simpa [st2] using h.f0, by simpa [st2] using h.f1, h.ge⟩
  · unfold st2
    rw [World.cell?_setCell_other _ _ _ _ (fun e => by simp only [Addr.mk.injEq] at e; exact hn e.1), World.cell?_setCell_other _ _ _ _ (fun e => by simp only [Addr.mk.injEq] at e; exact hn e.1)]
    exact h.c0
  · unfold st2
    rw [World.cell?_setCell_other _ _ _ _ (fun e => by simp only [Addr.mk.injEq] at e; exact hn e.1), World.cell?_setCell_other _ _ _ _ (fun e => by simp only [Addr.mk.injEq] at e; exact hn e.1)]
    exact h.c1
theorem b2_set {w W : World} {S : Int} {v1 v2 : Value} {x y : Int} (h : B2 w W S v1 v2 x y) (g : Nat) (hg : w.heap.size + 2 ≤ g) (c d : Int) : B2 w (st2 W g c d) S v1 v2 x y := by
  have ho : ∀ (k i : Nat), k < w.heap.size + 2 → (st2 W g c d).cell? ⟨k, i, none⟩ = W.cell? ⟨k, i, none⟩ := fun k i hk => by
    unfold st2
    rw [World.cell?_setCell_other _ _ _ _ (fun e => by simp only [Addr.mk.injEq] at e; omega), World.cell?_setCell_other _ _ _ _ (fun e => by simp only [Addr.mk.injEq] at e; omega)]
  refine ⟨(h.below.setCell (p := ⟨g, 0, none⟩) (show w.heap.size ≤ g by omega) _).setCell (p := ⟨g, 1, none⟩) (show w.heap.size ≤ g by omega) _, ⟨?_, ?_, ?_⟩, ?_, ?_⟩
  · rw [ho _ _ (by omega)]; exact h.t.1
  · rw [ho _ _ (by omega)]; exact h.t.2.1
  · rw [ho _ _ (by omega)]; exact h.t.2.2
  · rw [ho _ _ (by omega)]; exact h.s0
  · rw [ho _ _ (by omega)]; exact h.s1
theorem b2_alloc {w W : World} {S : Int} {v1 v2 : Value} {x y : Int} (h : B2 w W S v1 v2 x y) (o : Obj) : B2 w (W.alloc o) S v1 v2 x y := h.later ((Below.refl _ _).alloc (Nat.le_refl _) o)
theorem b2_lt {w W : World} {S : Int} {v1 v2 : Value} {x y : Int} (h : B2 w W S v1 v2 x y) : w.heap.size + 2 ≤ W.heap.size := World.block_lt_of_cell? _ _ h.s0

set_option maxHeartbeats 8000000 in
set_option maxRecDepth 100000 in
theorem walk (S : Int) (ao : Option Addr) (n cap : Nat) (ao2 : Option Addr) (n2 cap2 : Nat) (Ls : List ((Int × Int) × (Int × Int))) (Hs : List (ByteArray × (Int × Int))) (x y : Int) (m : ByteArray) (a b : Int) (w : World)
    (hL : GS lnkE w (.slice ao n cap) Ls) (hH : GS hstE w (.slice ao2 n2 cap2) Hs) (hg : HasErr w) :
    Calls Tryd.prog 3 #[.agg #[.int .i64 S, .slice ao n cap, .slice ao2 n2 cap2], .agg #[.int .i64 x, .int .i64 y], .string m, .int .i64 a, .int .i64 b] w fun e w' => e = .returned (.bool true) ∧ Below w.heap.size w w' := by
  have HG : Hid (∀ W, Below w.heap.size w W → HasErr W) := fun W hb => hg.later hb
  have HLW : Hid (∀ W, Below w.heap.size w W → GS lnkE W (.slice ao n cap) Ls) := fun W hb => hL.later hb
  have HHW : Hid (∀ W, Below w.heap.size w W → GS hstE W (.slice ao2 n2 cap2) Hs) := fun W hb => hH.later hb
  obtain ⟨w0, hw0⟩ : ∃ W, (w.alloc (Obj.cells #[.int .i64 S, .slice ao n cap, .slice ao2 n2 cap2] 25)).alloc (Obj.cells #[.int .i64 x, .int .i64 y] 27) = W := ⟨_, rfl⟩
  have hK := b2_new w S (.slice ao n cap) (.slice ao2 n2 cap2) x y
  rw [hw0] at hK
  have HK : Hid (B2 w w0 S (.slice ao n cap) (.slice ao2 n2 cap2) x y) := hK
  have HW0 : Hid ((w.alloc (Obj.cells #[.int .i64 S, .slice ao n cap, .slice ao2 n2 cap2] 25)).alloc (Obj.cells #[.int .i64 x, .int .i64 y] 27) = w0) := hw0
  obtain ⟨T, hT⟩ : ∃ T, T = tpN S Ls Hs := ⟨_, rfl⟩
  obtain ⟨C, hC⟩ : ∃ C, C = csN S Ls Hs (x, y) := ⟨_, rfl⟩
  have HT : Hid (T = tpN S Ls Hs) := hT
  have HC : Hid (C = csN S Ls Hs (x, y)) := hC
  clear hL hH hK hw0 hg hT hC
  go_enter Tryd.func3, Tryd.ntmps3
  go_upto_region 1 with fail
  rw [HW0.out]
  obtain ⟨_, ⟨b0, b1, b2⟩, s0, s1⟩ := HK.out
  clear HW0
  go_wp2_with fail
  refine (rtopo_any S ao n cap ao2 n2 cap2 Ls Hs _ (HLW.out _ HK.out.below) (HHW.out _ HK.out.below)).mono ?_
  rintro e w1 ⟨rfl, hb1⟩
  rw [← HT.out]
  have HK1 : Hid (B2 w w1 S (.slice ao n cap) (.slice ao2 n2 cap2) x y) := HK.out.later hb1
  obtain ⟨_, ⟨b0, b1, b2⟩, s0, s1⟩ := HK1.out
  clear hb1 HK
  go_wp2_with fail
  refine (check_any S ao n cap ao2 n2 cap2 Ls Hs _ (HLW.out _ HK1.out.below) (HHW.out _ HK1.out.below)).mono ?_
  rintro e w2 ⟨rfl, hb2⟩
  rw [← HT.out]
  have HK2 : Hid (B2 w w2 S (.slice ao n cap) (.slice ao2 n2 cap2) x y) := HK1.out.later hb2
  clear hb2 HK1 b0 b1 b2 s0 s1
  go_wp2_with fail
  refine (same_noV T _ (HG.out _ HK2.out.below)).mono ?_
  rintro e w3 ⟨rfl, hb3⟩
  have HK3 : Hid (B2 w w3 S (.slice ao n cap) (.slice ao2 n2 cap2) x y) := HK2.out.later hb3
  obtain ⟨_, ⟨b0, b1, b2⟩, s0, s1⟩ := HK3.out
  clear hb3 HK2
  go_wp2_with fail
  refine (rspot_any S ao n cap ao2 n2 cap2 x y _).mono ?_
  rintro e w4 ⟨rfl, hb4⟩
  have HK4 : Hid (B2 w w4 S (.slice ao n cap) (.slice ao2 n2 cap2) x y) := HK3.out.later hb4
  clear hb4 HK3 b0 b1 b2 s0 s1
  obtain ⟨ok, hok⟩ : ∃ q, q = spB S (x, y) := ⟨_, rfl⟩
  have HOK : Hid (ok = spB S (x, y)) := hok
  rw [← hok]
  clear hok
  go_upto_region 5 with fail
  go_cut [54] from 39 (fun c w' => c = .bool (decide (T = 0) && !ok) ∧ w' = w4)
  case first =>
    as_aux_lemma =>
      by_cases h0 : T = 0
      · subst h0
        cases ok
        · go_wp2_with fail
          go_meet
          case rel => exact ⟨rfl, rfl⟩
        · go_wp2_with fail
          go_meet
          case rel => exact ⟨rfl, rfl⟩
      · have e1 : (T == 0) = false := by simpa using h0
        have e2 : decide (T = 0) = false := by simpa using h0
        have E2 : Hid (decide (T = 0) = false) := e2
        clear h0 e2
        go_wp2_with fail
        go_meet
        case rel => exact ⟨by rw [E2.out]; rfl, rfl⟩
  obtain ⟨rfl, hwc⟩ := hcut
  subst hwc
  go_upto_if 54 with fail
  go_cut [13] from 39 (fun f w' => f = .int .i64 C ∧ w' = wc)
  case first =>
    as_aux_lemma =>
      by_cases h0 : T = 0
      · have HTT : Hid (tpN S Ls Hs = 0) := HT.out.symm.trans h0
        subst h0
        cases ok
        · have HC1 : Hid (C = 1) := HC.out.trans (cs_1 HTT.out HOK.out.symm)
          go_wp2_with fail
          go_meet
          case rel => exact ⟨by rw [HC1.out], rfl⟩
        · have HC1 : Hid (C = 0) := HC.out.trans (cs_0 HTT.out HOK.out.symm)
          go_wp2_with fail
          go_meet
          case rel => exact ⟨by rw [HC1.out], rfl⟩
      · have HTT : Hid (C = T) := by
          show _ = _
          rw [HC.out, HT.out]
          exact cs_T (by rw [← HT.out]; exact h0)
        have e2 : (decide (T = 0) && !ok) = false := by simp [h0]
        clear h0
        rw [e2]
        go_wp2_with fail
        go_meet
        case rel => exact ⟨by rw [HTT.out], rfl⟩
  case rest =>
    obtain ⟨rfl, hwd⟩ := hcut
    rename_i wd
    subst hwd
    have hlt0 := b2_lt HK4.out
    have HP0 := pb_new w wc 0 0 27 hlt0
    have hK5 := b2_alloc HK4.out (Obj.cells #[.int .i64 0, .int .i64 0] 27)
    obtain ⟨w5, hw5⟩ : ∃ W, wc.alloc (Obj.cells #[.int .i64 0, .int .i64 0] 27) = W := ⟨_, rfl⟩
    obtain ⟨g5, hg5⟩ : ∃ g, wc.heap.size = g := ⟨_, rfl⟩
    rw [hw5, hg5] at HP0
    rw [hw5] at hK5
    have HPB : Hid (PB w w5 g5 0 0) := HP0
    have HK5 : Hid (B2 w w5 S (.slice ao n cap) (.slice ao2 n2 cap2) x y) := hK5
    have HW5 : Hid (wc.alloc (Obj.cells #[.int .i64 0, .int .i64 0] 27) = w5) := hw5
    have HG5 : Hid (wc.heap.size = g5) := hg5
    clear HP0 hK5 hw5 hg5 hlt0
    go_upto_if 57 with fail
    rw [HW5.out, HG5.out]
    clear HW5 HG5 HK4
    obtain ⟨P1, hP1⟩ : ∃ q, q = (peV S Ls Hs (x, y)).1 := ⟨_, rfl⟩
    obtain ⟨P2, hP2⟩ : ∃ q, q = (peV S Ls Hs (x, y)).2 := ⟨_, rfl⟩
    obtain ⟨PN, hPN⟩ : ∃ q, q = peN S Ls Hs (x, y) := ⟨_, rfl⟩
    obtain ⟨AN, hAN⟩ : ∃ q, q = asN S Ls Hs (x, y) := ⟨_, rfl⟩
    obtain ⟨AV, hAV⟩ : ∃ q, q = asV S Ls Hs (x, y) := ⟨_, rfl⟩
    have HP1 : Hid (P1 = (peV S Ls Hs (x, y)).1) := hP1
    have HP2 : Hid (P2 = (peV S Ls Hs (x, y)).2) := hP2
    have HPN : Hid (PN = peN S Ls Hs (x, y)) := hPN
    have HAN : Hid (AN = asN S Ls Hs (x, y)) := hAN
    have HAV : Hid (AV = asV S Ls Hs (x, y)) := hAV
    clear hP1 hP2 hPN hAN hAV
    go_cut [13, 15, 17, 18, 19, 20] from 39 (fun f g h _ _ _ w' => f = .int .i64 PN ∧ g = .int .i64 AN ∧ h = .string AV ∧ B2 w w' S (.slice ao n cap) (.slice ao2 n2 cap2) x y ∧ PB w w' g5 P1 P2)
    case first =>
      as_aux_lemma =>
        by_cases h0 : C = 0
        · have HCC : Hid (csN S Ls Hs (x, y) = 0) := HC.out.symm.trans h0
          subst h0
          obtain ⟨_, ⟨b0, b1, b2⟩, s0, s1⟩ := HK5.out
          have hP := pe_yes HCC.out
          have HPY : Hid (PN = if (peerO Ls (x, y)).isSome then 0 else 5) := HPN.out.trans hP.1
          have HPV1 : Hid (((peerO Ls (x, y)).getD (0, 0)).1 = P1) := by
            show _ = _
            rw [HP1.out, hP.2]
          have HPV2 : Hid (((peerO Ls (x, y)).getD (0, 0)).2 = P2) := by
            show _ = _
            rw [HP2.out, hP.2]
          clear hP
          go_wp2_with fail
          refine (rpeer_any S ao n cap ao2 n2 cap2 Ls x y _ (HLW.out _ HK5.out.below)).mono ?_
          rintro e w6 ⟨rfl, hb6⟩
          obtain ⟨is, his⟩ : ∃ q, q = (peerO Ls (x, y)).isSome := ⟨_, rfl⟩
          have HIS : Hid (PN = if is then 0 else 5) := by
            show _ = _
            rw [HPY.out, his]
          rw [← his, HPV1.out, HPV2.out]
          have hK6 := HK5.out.later hb6
          have hB6 := HPB.out.later hb6
          have hK7 : B2 w ((st2 w6 g5 P1 P2).alloc (Obj.cells #[.int .i64 P1, .int .i64 P2] 27)) S (.slice ao n cap) (.slice ao2 n2 cap2) x y := b2_alloc (b2_set hK6 g5 hB6.ge P1 P2) _
          have hB7 : PB w ((st2 w6 g5 P1 P2).alloc (Obj.cells #[.int .i64 P1, .int .i64 P2] 27)) g5 P1 P2 := (hB6.set P1 P2).later ((Below.refl _ _).alloc (Nat.le_refl _) _)
          obtain ⟨w7, hw7⟩ : ∃ W, (st2 w6 g5 P1 P2).alloc (Obj.cells #[.int .i64 P1, .int .i64 P2] 27) = W := ⟨_, rfl⟩
          rw [hw7] at hK7 hB7
          have HK7 : Hid (B2 w w7 S (.slice ao n cap) (.slice ao2 n2 cap2) x y) := hK7
          have HB7 : Hid (PB w w7 g5 P1 P2) := hB7
          have HW7 : Hid (((w6.setCell ⟨g5, 0, none⟩ (.int .i64 P1)).setCell ⟨g5, 1, none⟩ (.int .i64 P2)).alloc (Obj.cells #[.int .i64 P1, .int .i64 P2] 27) = w7) := hw7
          have hgl : g5 < w6.heap.size := World.block_lt_of_cell? _ _ hB6.c0
          obtain ⟨c0, c1, f0, f1, _⟩ := hB6
          clear hb6 hw7 hK7 hB7 his b0 b1 b2 s0 s1 hK6
          cases is
          all_goals
            go_upto_region 15 with fail
            rw [HW7.out]
            obtain ⟨_, ⟨b0, b1, b2⟩, s0, s1⟩ := HK7.out
            clear c0 c1 f0 f1 hgl
            go_wp2_with fail
            refine (rhost_any S ao n cap ao2 n2 cap2 Hs x y _ (HHW.out _ HK7.out.below)).mono ?_
            rintro e w8 ⟨rfl, hb8⟩
            have HK8 : Hid (B2 w w8 S (.slice ao n cap) (.slice ao2 n2 cap2) x y) := HK7.out.later hb8
            have HB8 : Hid (PB w w8 g5 P1 P2) := HB7.out.later hb8
            obtain ⟨_, ⟨b0, b1, b2⟩, s0, s1⟩ := HK8.out
            clear hb8
            rcases as_yes HCC.out with ⟨k1, k2, k3⟩ | ⟨k, hk, k1, k2, k3⟩
            · rw [k1]
              have HA1 : Hid (AN = 5) := HAN.out.trans k2
              have HA2 : Hid (AV = ByteArray.empty) := HAV.out.trans k3
              clear k1 k2 k3
              go_wp2_with fail
              go_meet
              case rel => exact ⟨by rw [HIS.out]; rfl, by rw [HA1.out], by rw [HA2.out]; rfl, HK8.out, HB8.out⟩
            · rw [k1]
              have HA1 : Hid (AN = 0) := HAN.out.trans k2
              obtain ⟨_, _, _, e5, hHn, hHm, _, hHa⟩ := (HHW.out _ HK8.out.below).form
              cases e5
              obtain ⟨gh, oh, hao, hc, _⟩ := hHa (by omega)
              subst hao
              obtain ⟨z0, z1, z2, hkl, hHk, p0, p1, p2⟩ := hst_at hc hHn (show k < n2 by omega)
              have HA2 : Hid (AV = z0) := by
                show _ = _
                rw [HAV.out, k3, hHk]
              have kb0 : (0 : Int) ≤ (k : Int) := by omega
              have kb1 : (k : Int) < (n2 : Int) := by omega
              have hk0 : ¬ (k : Int) < 0 := by omega
              clear k1 k2 k3 hc hHn hHm hHa hHk
              go_wp2_with fail
              go_meet
              case rel => exact ⟨by rw [HIS.out]; rfl, by rw [HA1.out], by rw [HA2.out], HK8.out, HB8.out⟩
        · have e1 : (C == 0) = false := by simpa using h0
          have hn : csN S Ls Hs (x, y) ≠ 0 := by rw [← HC.out]; exact h0
          obtain ⟨k1, k2⟩ := pe_no hn
          obtain ⟨k3, k4⟩ := as_no hn
          have H1 : Hid (PN = C) := by show _ = _; rw [HPN.out, k1, HC.out]
          have H2 : Hid (AN = C) := by show _ = _; rw [HAN.out, k3, HC.out]
          have H3 : Hid (AV = ByteArray.empty) := HAV.out.trans k4
          have H4 : Hid (P1 = 0) := by show _ = _; rw [HP1.out, k2]
          have H5 : Hid (P2 = 0) := by show _ = _; rw [HP2.out, k2]
          clear h0 hn k1 k2 k3 k4
          go_wp2_with fail
          go_meet
          case rel => exact ⟨by rw [H1.out], by rw [H2.out], by rw [H3.out]; rfl, HK5.out, by rw [H4.out, H5.out]; exact HPB.out⟩
    case rest =>
      obtain ⟨rfl, rfl, rfl, hK, hB⟩ := hcut
      have HK6 : Hid (B2 w wc S (.slice ao n cap) (.slice ao2 n2 cap2) x y) := hK
      have HB6 : Hid (PB w wc g5 P1 P2) := hB
      clear hK hB HK5 HPB
      obtain ⟨_, ⟨b0, b1, b2⟩, s0, s1⟩ := HK6.out
      go_wp2_with fail
      refine (peer_any S ao n cap ao2 n2 cap2 Ls Hs x y _ (HLW.out _ HK6.out.below) (HHW.out _ HK6.out.below)).mono ?_
      rintro e w7 ⟨rfl, hb7⟩
      rw [← HP1.out, ← HP2.out, ← HPN.out]
      have hK7 := HK6.out.later hb7
      have hQ8 := pb_new w w7 P1 P2 27 (b2_lt hK7)
      have hK8 := b2_alloc hK7 (Obj.cells #[.int .i64 P1, .int .i64 P2] 27)
      have hB8 := (HB6.out.later hb7).later ((Below.refl _ w7).alloc (Nat.le_refl _) (Obj.cells #[.int .i64 P1, .int .i64 P2] 27))
      obtain ⟨w8, hw8⟩ : ∃ W, w7.alloc (Obj.cells #[.int .i64 P1, .int .i64 P2] 27) = W := ⟨_, rfl⟩
      obtain ⟨g8, hg8⟩ : ∃ g, w7.heap.size = g := ⟨_, rfl⟩
      rw [hw8, hg8] at hQ8
      rw [hw8] at hK8 hB8
      have HQ8 : Hid (PB w w8 g8 P1 P2) := hQ8
      have HK8 : Hid (B2 w w8 S (.slice ao n cap) (.slice ao2 n2 cap2) x y) := hK8
      have HB8 : Hid (PB w w8 g5 P1 P2) := hB8
      have HW8 : Hid (w7.alloc (Obj.cells #[.int .i64 P1, .int .i64 P2] 27) = w8) := hw8
      have HG8 : Hid (w7.heap.size = g8) := hg8
      clear hb7 hK7 hQ8 hK8 hB8 hw8 hg8 b0 b1 b2 s0 s1 HK6 HB6
      go_wp2_with fail
      rw [HW8.out, HG8.out]
      refine (same_noV PN _ (HG.out _ HK8.out.below)).mono ?_
      rintro e w9 ⟨rfl, hb9⟩
      have HK9 : Hid (B2 w w9 S (.slice ao n cap) (.slice ao2 n2 cap2) x y) := HK8.out.later hb9
      have HB9 : Hid (PB w w9 g5 P1 P2) := HB8.out.later hb9
      have HQ9 : Hid (PB w w9 g8 P1 P2) := HQ8.out.later hb9
      obtain ⟨_, ⟨b0, b1, b2⟩, s0, s1⟩ := HK9.out
      clear hb9 HK8 HB8 HQ8 HW8 HG8
      go_wp2_with fail
      refine (at_any S ao n cap ao2 n2 cap2 Ls Hs x y _ (HLW.out _ HK9.out.below) (HHW.out _ HK9.out.below)).mono ?_
      rintro e wA ⟨rfl, hbA⟩
      rw [← HAV.out, ← HAN.out]
      have HKA : Hid (B2 w wA S (.slice ao n cap) (.slice ao2 n2 cap2) x y) := HK9.out.later hbA
      have HBA : Hid (PB w wA g5 P1 P2) := HB9.out.later hbA
      have HQA : Hid (PB w wA g8 P1 P2) := HQ9.out.later hbA
      clear hbA HK9 HB9 HQ9 b0 b1 b2 s0 s1
      go_wp2_with fail
      refine (same_noV AN _ (HG.out _ HKA.out.below)).mono ?_
      rintro e wB ⟨rfl, hbB⟩
      have hKB := HKA.out.later hbB
      have hRB := pb_new w wB 0 0 27 (b2_lt hKB)
      have hKC := b2_alloc hKB (Obj.cells #[.int .i64 0, .int .i64 0] 27)
      have hBC := (HBA.out.later hbB).later ((Below.refl _ wB).alloc (Nat.le_refl _) (Obj.cells #[.int .i64 0, .int .i64 0] 27))
      have hQC := (HQA.out.later hbB).later ((Below.refl _ wB).alloc (Nat.le_refl _) (Obj.cells #[.int .i64 0, .int .i64 0] 27))
      have hqe : g8 ≠ wB.heap.size := by
        have := World.block_lt_of_cell? _ _ (HQA.out.later hbB).c0
        exact fun e => by simp only at this; omega
      have hbe : g5 ≠ wB.heap.size := by
        have := World.block_lt_of_cell? _ _ (HBA.out.later hbB).c0
        exact fun e => by simp only at this; omega
      obtain ⟨wC, hwC⟩ : ∃ W, wB.alloc (Obj.cells #[.int .i64 0, .int .i64 0] 27) = W := ⟨_, rfl⟩
      obtain ⟨gC, hgC⟩ : ∃ g, wB.heap.size = g := ⟨_, rfl⟩
      rw [hwC, hgC] at hRB
      rw [hwC] at hKC hBC hQC
      rw [hgC] at hqe hbe
      have HRC : Hid (PB w wC gC 0 0) := hRB
      have HKC : Hid (B2 w wC S (.slice ao n cap) (.slice ao2 n2 cap2) x y) := hKC
      have HBC : Hid (PB w wC g5 P1 P2) := hBC
      have HQC : Hid (PB w wC g8 P1 P2) := hQC
      have HQE : Hid (gC ≠ g8) := fun e => hqe e.symm
      have HBE : Hid (gC ≠ g5) := fun e => hbe e.symm
      have HWC : Hid (wB.alloc (Obj.cells #[.int .i64 0, .int .i64 0] 27) = wC) := hwC
      have HGC : Hid (wB.heap.size = gC) := hgC
      clear hbB hKB hRB hKC hBC hQC hqe hbe hwC hgC HKA HBA HQA HPN HAN HAV HP1 HP2 HC HOK
      go_upto_if 98 with fail
      rw [HWC.out, HGC.out]
      clear HWC HGC
      obtain ⟨W1, hW1⟩ : ∃ q, q = (weV S Ls Hs m).1 := ⟨_, rfl⟩
      obtain ⟨W2, hW2⟩ : ∃ q, q = (weV S Ls Hs m).2 := ⟨_, rfl⟩
      obtain ⟨WN, hWN⟩ : ∃ q, q = weN S Ls Hs m := ⟨_, rfl⟩
      have HW1 : Hid (W1 = (weV S Ls Hs m).1) := hW1
      have HW2 : Hid (W2 = (weV S Ls Hs m).2) := hW2
      have HWN : Hid (WN = weN S Ls Hs m) := hWN
      clear hW1 hW2 hWN
      go_cut [13, 27] from 39 (fun f _ w' => f = .int .i64 WN ∧ B2 w w' S (.slice ao n cap) (.slice ao2 n2 cap2) x y ∧ PB w w' g5 P1 P2 ∧ PB w w' g8 P1 P2 ∧ PB w w' gC W1 W2)
      case first =>
        as_aux_lemma =>
          by_cases h0 : T = 0
          · have HTT : Hid (tpN S Ls Hs = 0) := HT.out.symm.trans h0
            subst h0
            obtain ⟨_, ⟨b0, b1, b2⟩, s0, s1⟩ := HKC.out
            go_wp2_with fail
            refine (rnamed_any S ao n cap ao2 n2 cap2 Hs m _ (HHW.out _ HKC.out.below)).mono ?_
            rintro e wD ⟨rfl, hbD⟩
            have HKD : Hid (B2 w wD S (.slice ao n cap) (.slice ao2 n2 cap2) x y) := HKC.out.later hbD
            have HBD : Hid (PB w wD g5 P1 P2) := HBC.out.later hbD
            have HQD : Hid (PB w wD g8 P1 P2) := HQC.out.later hbD
            have HRD : Hid (PB w wD gC 0 0) := HRC.out.later hbD
            obtain ⟨_, ⟨b0, b1, b2⟩, s0, s1⟩ := HKD.out
            clear hbD
            rcases we_yes (m := m) HTT.out with ⟨k1, k2, k3⟩ | ⟨k, hk, k1, k2, k3⟩
            · rw [k1]
              have HA1 : Hid (WN = 5) := HWN.out.trans k2
              have HA2 : Hid (W1 = 0 ∧ W2 = 0) := ⟨by rw [HW1.out, k3], by rw [HW2.out, k3]⟩
              clear k1 k2 k3
              go_wp2_with fail
              go_meet
              case rel => exact ⟨by rw [HA1.out], HKD.out, HBD.out, HQD.out, by rw [HA2.out.1, HA2.out.2]; exact HRD.out⟩
            · rw [k1]
              have HA1 : Hid (WN = 0) := HWN.out.trans k2
              obtain ⟨_, _, _, e5, hHn, hHm, _, hHa⟩ := (HHW.out _ HKD.out.below).form
              cases e5
              obtain ⟨gh, oh, hao, hc, _⟩ := hHa (by omega)
              subst hao
              obtain ⟨z0, z1, z2, hkl, hHk, p0, p1, p2⟩ := hst_at hc hHn (show k < n2 by omega)
              have HA2 : Hid (W1 = z1 ∧ W2 = z2) := ⟨by rw [HW1.out, k3, hHk], by rw [HW2.out, k3, hHk]⟩
              have kb0 : (0 : Int) ≤ (k : Int) := by omega
              have kb1 : (k : Int) < (n2 : Int) := by omega
              have hk0 : ¬ (k : Int) < 0 := by omega
              obtain ⟨c0, c1, f0, f1, _⟩ := HRD.out
              clear k1 k2 k3 hc hHn hHm hHa hHk
              go_wp2_with fail
              go_meet
              case rel => exact ⟨by rw [HA1.out], b2_set HKD.out gC HRD.out.ge _ _, HBD.out.other HBE.out _ _, HQD.out.other HQE.out _ _, by rw [HA2.out.1, HA2.out.2]; exact HRD.out.set _ _⟩
          · have e1 : (T == 0) = false := by simpa using h0
            obtain ⟨k1, k2⟩ := we_no (m := m) (show tpN S Ls Hs ≠ 0 by rw [← HT.out]; exact h0)
            have H1 : Hid (WN = T) := by show _ = _; rw [HWN.out, k1, HT.out]
            have HA2 : Hid (W1 = 0 ∧ W2 = 0) := ⟨by rw [HW1.out, k2], by rw [HW2.out, k2]⟩
            clear h0 k1 k2
            go_wp2_with fail
            go_meet
            case rel => exact ⟨by rw [H1.out], HKC.out, HBC.out, HQC.out, by rw [HA2.out.1, HA2.out.2]; exact HRC.out⟩
      case rest =>
        obtain ⟨rfl, hK, hB, hQ, hR⟩ := hcut
        have HKE : Hid (B2 w wc S (.slice ao n cap) (.slice ao2 n2 cap2) x y) := hK
        have HBE2 : Hid (PB w wc g5 P1 P2) := hB
        have HQE2 : Hid (PB w wc g8 P1 P2) := hQ
        have HRE : Hid (PB w wc gC W1 W2) := hR
        clear hK hB hQ hR HKC HBC HQC HRC
        obtain ⟨_, ⟨b0, b1, b2⟩, s0, s1⟩ := HKE.out
        go_wp2_with fail
        refine (where_any S ao n cap ao2 n2 cap2 Ls Hs m _ (HLW.out _ HKE.out.below) (HHW.out _ HKE.out.below)).mono ?_
        rintro e wF ⟨rfl, hbF⟩
        rw [← HW1.out, ← HW2.out, ← HWN.out]
        have hKF := HKE.out.later hbF
        have hal : Below wF.heap.size wF (wF.alloc (Obj.cells #[.int .i64 W1, .int .i64 W2] 27)) := (Below.refl _ _).alloc (Nat.le_refl _) _
        have hSG := pb_new w wF W1 W2 27 (b2_lt hKF)
        have hKG := hKF.later hal
        have hBG := (HBE2.out.later hbF).later hal
        have hQG := (HQE2.out.later hbF).later hal
        have hRG := (HRE.out.later hbF).later hal
        obtain ⟨wG, hwG⟩ : ∃ W, wF.alloc (Obj.cells #[.int .i64 W1, .int .i64 W2] 27) = W := ⟨_, rfl⟩
        obtain ⟨gG, hgG⟩ : ∃ g, wF.heap.size = g := ⟨_, rfl⟩
        rw [hwG, hgG] at hSG
        rw [hwG] at hKG hBG hQG hRG
        have HSG : Hid (PB w wG gG W1 W2) := hSG
        have HKG : Hid (B2 w wG S (.slice ao n cap) (.slice ao2 n2 cap2) x y) := hKG
        have HBG : Hid (PB w wG g5 P1 P2) := hBG
        have HQG : Hid (PB w wG g8 P1 P2) := hQG
        have HRG : Hid (PB w wG gC W1 W2) := hRG
        have HWG : Hid (wF.alloc (Obj.cells #[.int .i64 W1, .int .i64 W2] 27) = wG) := hwG
        have HGG : Hid (wF.heap.size = gG) := hgG
        clear hbF hKF hal hSG hKG hBG hQG hRG hwG hgG b0 b1 b2 s0 s1 HKE HBE2 HQE2 HRE
        go_wp2_with fail
        rw [HWG.out, HGG.out]
        refine (same_noV WN _ (HG.out _ HKG.out.below)).mono ?_
        rintro e wH ⟨rfl, hbH⟩
        have HKH : Hid (B2 w wH S (.slice ao n cap) (.slice ao2 n2 cap2) x y) := HKG.out.later hbH
        have HBH : Hid (PB w wH g5 P1 P2) := HBG.out.later hbH
        have HQH : Hid (PB w wH g8 P1 P2) := HQG.out.later hbH
        have HRH : Hid (PB w wH gC W1 W2) := HRG.out.later hbH
        have HSH : Hid (PB w wH gG W1 W2) := HSG.out.later hbH
        clear hbH HKG HBG HQG HRG HSG HWG HGG HW1 HW2 HWN HQE HBE
        go_upto_region 33 with fail
        go_cut [131] from 39 (fun c w' => c = .bool (decide (T = 0) && (decide (a < 1) || decide (S < a))) ∧ w' = wH)
        case first =>
          as_aux_lemma =>
            obtain ⟨_, ⟨b0, b1, b2⟩, s0, s1⟩ := HKH.out
            by_cases h0 : T = 0
            · subst h0
              by_cases h1 : a < 1
              · have e1 : decide (a < 1) = true := by simpa using h1
                have E1 : Hid (decide (a < 1) = true) := e1
                go_wp2_with fail
                go_meet
                case rel => exact ⟨by rw [E1.out]; rfl, rfl⟩
              · have e1 : decide (a < 1) = false := by simpa using h1
                have E1 : Hid (decide (a < 1) = false) := e1
                clear h1
                obtain ⟨c, hc⟩ : ∃ c, decide (S < a) = c := ⟨_, rfl⟩
                have HC2 : Hid (decide (S < a) = c) := hc
                cases c
                · go_wp2_with fail
                  go_meet
                  case rel => exact ⟨by rw [E1.out, HC2.out]; rfl, rfl⟩
                · go_wp2_with fail
                  go_meet
                  case rel => exact ⟨by rw [E1.out, HC2.out]; rfl, rfl⟩
            · have e1 : (T == 0) = false := by simpa using h0
              have E2 : Hid (decide (T = 0) = false) := by
                show _ = _
                simpa using h0
              clear h0
              go_wp2_with fail
              go_meet
              case rel => exact ⟨by rw [E2.out]; rfl, rfl⟩
        case rest =>
          obtain ⟨rfl, hwI⟩ := hcut
          subst hwI
          go_upto_if 131 with fail
          obtain ⟨CN, hCN⟩ : ∃ q, q = cwN S Ls Hs [a] := ⟨_, rfl⟩
          have HCN : Hid (CN = cwN S Ls Hs [a]) := hCN
          clear hCN
          go_cut [13] from 39 (fun f w' => f = .int .i64 CN ∧ w' = wc)
          case first =>
            as_aux_lemma =>
              by_cases h0 : T = 0
              · have HTT : Hid (tpN S Ls Hs = 0) := HT.out.symm.trans h0
                subst h0
                by_cases h1 : 1 ≤ a ∧ a ≤ S
                · have HCC : Hid (CN = 0) := HCN.out.trans (cw1_yes HTT.out h1)
                  have e1 : (decide ((0 : Int) = 0) && (decide (a < 1) || decide (S < a))) = false := by simp; omega
                  rw [e1]
                  clear e1 h1
                  go_wp2_with fail
                  go_meet
                  case rel => exact ⟨by rw [HCC.out], rfl⟩
                · have HCC : Hid (CN = 1) := HCN.out.trans (cw1_no HTT.out h1)
                  have e1 : (decide ((0 : Int) = 0) && (decide (a < 1) || decide (S < a))) = true := by simp; omega
                  rw [e1]
                  clear e1 h1
                  go_wp2_with fail
                  go_meet
                  case rel => exact ⟨by rw [HCC.out], rfl⟩
              · have HCC : Hid (CN = T) := by
                  show _ = _
                  rw [HCN.out, cw_T (by rw [← HT.out]; exact h0), HT.out]
                have e1 : (decide (T = 0) && (decide (a < 1) || decide (S < a))) = false := by simp [h0]
                rw [e1]
                clear e1 h0
                go_wp2_with fail
                go_meet
                case rel => exact ⟨by rw [HCC.out], rfl⟩
          case rest =>
            obtain ⟨rfl, hwI⟩ := hcut
            rename_i wI
            subst hwI
            go_upto_block 0 with fail
            obtain ⟨NL, hNL⟩ : ∃ q, q = neL S Ls Hs a := ⟨_, rfl⟩
            have HNL : Hid (NL = neL S Ls Hs a) := hNL
            clear hNL
            obtain ⟨wV, hwV⟩ : ∃ X, X = wc := ⟨_, rfl⟩
            subst hwV
            go_cut [30, 31, 32] from 39 (fun u _ _ w' => w'.ownsRow wV.heap.size 3 1 u NL.length (NL.map (Value.int .i64)) ∧ Below wV.heap.size wV w')
            case first =>
              obtain ⟨i0, hi, hz0, hz1, hz2⟩ := info_parts infoInt
              by_cases h0 : CN = 0
              · have HC0 : Hid (cwN S Ls Hs [a] = 0) := HCN.out.symm.trans h0
                have HNY : Hid (NL = nrTo Ls a 6) := HNL.out.trans (ne_yes HC0.out)
                subst h0
                go_wp2
                go_loopw [30, 31] (fun u i wr => ∃ k : Nat, k ≤ 6 ∧ i = .int .i64 ((k : Int) + 1) ∧ wr.ownsRow wV.heap.size 3 1 u (nrTo Ls a k).length ((nrTo Ls a k).map (Value.int .i64)) ∧ Below wV.heap.size wV wr) (fun _ i _ => 7 - (intOf i).toNat)
                case atStart => exact ⟨0, by omega, rfl, World.ownsRow_nil _ _ _ _, Below.refl _ _⟩
                case round =>
                  obtain ⟨k, hk, rfl, hown, hBr⟩ := hrel
                  obtain ⟨aou, capu, rfl⟩ := own_form hown
                  have HKr : Hid (B2 w wr S (.slice ao n cap) (.slice ao2 n2 cap2) x y) := HKH.out.later hBr
                  have HBr : Hid (Below wV.heap.size wV wr) := hBr
                  have HOWN : Hid (wr.ownsRow wV.heap.size 3 1 (.slice aou (nrTo Ls a k).length capu) (nrTo Ls a k).length ((nrTo Ls a k).map (Value.int .i64))) := hown
                  have hll := nrTo_len Ls a k
                  have HNX : Hid (nrTo Ls a (k + 1) = nrTo Ls a k ++ (if joinB Ls a ((k : Int) + 1) then [(k : Int) + 1] else [])) := nr_next Ls a k
                  obtain ⟨q, hq⟩ : ∃ q, q = (nrTo Ls a k).length := ⟨_, rfl⟩
                  have HQL : Hid ((nrTo Ls a k).length = q) := hq.symm
                  rw [← hq] at HOWN hll
                  rw [← hq]
                  clear hown hBr hq
                  by_cases hk6 : k < 6
                  · have k6 : (k : Int) + 1 ≤ 6 := by omega
                    obtain ⟨_, ⟨b0, b1, b2⟩, s0, s1⟩ := HKr.out
                    go_wp2_with fail
                    refine (rjoined_any S ao n cap ao2 n2 cap2 Ls a ((k : Int) + 1) _ (HLW.out _ HKr.out.below)).mono ?_
                    rintro e w5 ⟨rfl, hb5⟩
                    have HB5 : Hid (Below wV.heap.size wV w5) := HBr.out.trans (hb5.mono HBr.out.size)
                    have HO5 : Hid (w5.ownsRow wV.heap.size 3 1 (.slice aou q capu) q ((nrTo Ls a k).map (Value.int .i64))) := own_below HOWN.out hb5
                    have hs5 : wV.heap.size ≤ w5.heap.size := HB5.out.size
                    clear hb5 b0 b1 b2 s0 s1
                    cases hj : joinB Ls a ((k : Int) + 1)
                    · have HO6 : Hid (w5.ownsRow wV.heap.size 3 1 (.slice aou q capu) (nrTo Ls a (k + 1)).length ((nrTo Ls a (k + 1)).map (Value.int .i64))) := by
                        show World.ownsRow _ _ _ _ _ _ _
                        rw [HNX.out, hj]
                        simpa [HQL.out] using HO5.out
                      go_wp2
                      go_roundw
                      case rel => exact ⟨k + 1, by omega, by go_num, HO6.out, HB5.out⟩
                      case measure => simp [intOf]; omega
                    · have HNX2 : Hid (nrTo Ls a (k + 1) = nrTo Ls a k ++ [(k : Int) + 1]) := by
                        show _ = _
                        rw [HNX.out, hj]
                        rfl
                      go_wp2_with (at_builtin; refine wpList_append_own _ rfl _ _ 45 rfl wV.heap.size 3 i0 (.int .i64 0) 1 8 Tryd.underlying45 hi hz0 hz1 hz2 (by simp [Value.cells]) (by decide) _ _ _ rfl (HO5.out.alloc _) ⟨w5.heap.size, 0, none⟩ 1 1 [.int .i64 ((k : Int) + 1)] rfl rfl ?m1 ?m2 ?m3 ?m4 ?m5 ?_)
                      case m1 =>
                        intro j u hj
                        match j, hj with
                        | 0, hj => simp at hj; subst hj; simp [Addr.add]
                      case m2 => intro u hu; simp at hu; subst hu; rfl
                      case m3 => unfold maxLen; omega
                      case m4 => omega
                      case m5 => simp; omega
                      intro v6 w6 hown6 hgrow6 _
                      obtain ⟨ao6, cap6, rfl⟩ := own_form hown6
                      have hb6 : Below wV.heap.size w5 w6 := ((Below.refl _ w5).alloc hs5 _).grown hgrow6 (by simp; omega) (fun g hg => (HO5.out.lt g hg).1)
                      have HB6 : Hid (Below wV.heap.size wV w6) := HB5.out.trans hb6
                      have HO6 : Hid (w6.ownsRow wV.heap.size 3 1 (.slice ao6 (q + 1) cap6) (nrTo Ls a (k + 1)).length ((nrTo Ls a (k + 1)).map (Value.int .i64))) := by
                        show World.ownsRow _ _ _ _ _ _ _
                        rw [HNX2.out, List.length_append, HQL.out, List.map_append]
                        exact hown6
                      clear hb6 hgrow6 hown6
                      go_wp2
                      go_roundw
                      case rel => exact ⟨k + 1, by omega, by go_num, HO6.out, HB6.out⟩
                      case measure => simp [intOf]; omega
                  · obtain rfl : k = 6 := by omega
                    go_wp2_with fail
                    go_meet
                    case rel => exact ⟨by rw [HNY.out, HQL.out]; exact HOWN.out, HBr.out⟩
              · have e1 : (CN == 0) = false := by simpa using h0
                have HNN : Hid (NL = []) := HNL.out.trans (ne_no (by rw [← HCN.out]; exact h0))
                clear h0
                go_wp2
                go_loopw [30, 31] (fun u i wr => u = .slice none 0 0 ∧ i = .int .i64 1 ∧ wr = wV) (fun _ i _ => 0)
                case atStart => exact ⟨rfl, rfl, rfl⟩
                case round =>
                  obtain ⟨rfl, rfl, rfl⟩ := hrel
                  go_wp2_with fail
                  go_meet
                  case rel => exact ⟨by rw [HNN.out]; exact World.ownsRow_nil _ _ _ _, Below.refl _ _⟩
            case rest =>
              obtain ⟨hown, hBI⟩ := hcut
              obtain ⟨aoN, capN, rfl⟩ := own_form hown
              have HKI : Hid (B2 w wc S (.slice ao n cap) (.slice ao2 n2 cap2) x y) := HKH.out.later hBI
              have HBI : Hid (PB w wc g5 P1 P2) := HBH.out.later hBI
              have HQI : Hid (PB w wc g8 P1 P2) := HQH.out.later hBI
              have HRI : Hid (PB w wc gC W1 W2) := HRH.out.later hBI
              have HSI : Hid (PB w wc gG W1 W2) := HSH.out.later hBI
              have HOI : Hid (wc.ownsRow wV.heap.size 3 1 (.slice aoN NL.length capN) NL.length (NL.map (Value.int .i64))) := hown
              obtain ⟨_, ⟨b0, b1, b2⟩, s0, s1⟩ := HKI.out
              clear hown hBI HKH HBH HQH HRH HSH
              go_wp2_with fail
              refine (nearA_any S ao n cap ao2 n2 cap2 Ls Hs a _ (HLW.out _ HKI.out.below) (HHW.out _ HKI.out.below)).mono ?_
              rintro e wJ ⟨v, rfl, hownJ, hbJ⟩
              rw [← HCN.out]
              rw [← HNL.out] at hownJ
              obtain ⟨aoJ, capJ, rfl⟩ := own_form hownJ
              have HKJ : Hid (B2 w wJ S (.slice ao n cap) (.slice ao2 n2 cap2) x y) := HKI.out.later hbJ
              have HBJ : Hid (PB w wJ g5 P1 P2) := HBI.out.later hbJ
              have HQJ : Hid (PB w wJ g8 P1 P2) := HQI.out.later hbJ
              have HRJ : Hid (PB w wJ gC W1 W2) := HRI.out.later hbJ
              have HSJ : Hid (PB w wJ gG W1 W2) := HSI.out.later hbJ
              have HOJ : Hid (wJ.ownsRow wV.heap.size 3 1 (.slice aoN NL.length capN) NL.length (NL.map (Value.int .i64))) := own_below HOI.out hbJ
              have HOK2 : Hid (wJ.ownsRow wc.heap.size 3 1 (.slice aoJ NL.length capJ) NL.length (NL.map (Value.int .i64))) := hownJ
              clear hbJ hownJ b0 b1 b2 s0 s1 HKI HBI HQI HRI HSI HOI
              go_wp2_with fail
              refine (same_noV CN _ (HG.out _ HKJ.out.below)).mono ?_
              rintro e wL ⟨rfl, hbL⟩
              have HKL : Hid (B2 w wL S (.slice ao n cap) (.slice ao2 n2 cap2) x y) := HKJ.out.later hbL
              have HBL : Hid (PB w wL g5 P1 P2) := HBJ.out.later hbL
              have HQL : Hid (PB w wL g8 P1 P2) := HQJ.out.later hbL
              have HRL : Hid (PB w wL gC W1 W2) := HRJ.out.later hbL
              have HSL : Hid (PB w wL gG W1 W2) := HSJ.out.later hbL
              have HOL : Hid (wL.ownsRow wV.heap.size 3 1 (.slice aoN NL.length capN) NL.length (NL.map (Value.int .i64))) := own_below HOJ.out hbL
              have HOL2 : Hid (wL.ownsRow wc.heap.size 3 1 (.slice aoJ NL.length capJ) NL.length (NL.map (Value.int .i64))) := own_below HOK2.out hbL
              have HNL6 : Hid (NL.length ≤ 16) := by
                show _ ≤ _
                rw [HNL.out]
                exact Nat.le_trans neL_len (by omega)
              clear hbL HKJ HBJ HQJ HRJ HSJ HOJ HOK2
              go_wp2_with fail
              refine (ints_any _ _ NL NL _ _ _ _ HNL6.out HOL2.out HOL.out).mono ?_
              rintro e wM ⟨rfl, hbM⟩
              rw [show (NL == NL) = true from by simp]
              have HKM : Hid (B2 w wM S (.slice ao n cap) (.slice ao2 n2 cap2) x y) := HKL.out.later hbM
              have HBM : Hid (PB w wM g5 P1 P2) := HBL.out.later hbM
              have HQM : Hid (PB w wM g8 P1 P2) := HQL.out.later hbM
              have HRM : Hid (PB w wM gC W1 W2) := HRL.out.later hbM
              have HSM : Hid (PB w wM gG W1 W2) := HSL.out.later hbM
              clear hbM HKL HBL HQL HRL HSL HOL HOL2 HNL6 HNL
              generalize NL.length = NN
              go_upto_region 45 with fail
              go_cut [172] from 39 (fun c w' => c = .bool (decide (CN = 0) && (decide (b < 1) || decide (S < b))) ∧ w' = wM)
              case first =>
                as_aux_lemma =>
                  obtain ⟨_, ⟨b0, b1, b2⟩, s0, s1⟩ := HKM.out
                  by_cases h0 : CN = 0
                  · subst h0
                    by_cases h1 : b < 1
                    · have e1 : decide (b < 1) = true := by simpa using h1
                      have E1 : Hid (decide (b < 1) = true) := e1
                      go_wp2_with fail
                      go_meet
                      case rel => exact ⟨by rw [E1.out]; rfl, rfl⟩
                    · have e1 : decide (b < 1) = false := by simpa using h1
                      have E1 : Hid (decide (b < 1) = false) := e1
                      clear h1
                      obtain ⟨c, hc⟩ : ∃ c, decide (S < b) = c := ⟨_, rfl⟩
                      have HC2 : Hid (decide (S < b) = c) := hc
                      cases c
                      · go_wp2_with fail
                        go_meet
                        case rel => exact ⟨by rw [E1.out, HC2.out]; rfl, rfl⟩
                      · go_wp2_with fail
                        go_meet
                        case rel => exact ⟨by rw [E1.out, HC2.out]; rfl, rfl⟩
                  · have e1 : (CN == 0) = false := by simpa using h0
                    have E2 : Hid (decide (CN = 0) = false) := by
                      show _ = _
                      simpa using h0
                    clear h0
                    go_wp2_with fail
                    go_meet
                    case rel => exact ⟨by rw [E2.out]; rfl, rfl⟩
              case rest =>
                obtain ⟨rfl, hwN⟩ := hcut
                subst hwN
                obtain ⟨wN, hwN2⟩ : ∃ X, X = wc := ⟨_, rfl⟩
                subst hwN2
                go_upto_if 172 with fail
                obtain ⟨C2, hC2⟩ : ∃ q, q = cwN S Ls Hs [a, b] := ⟨_, rfl⟩
                have HC2 : Hid (C2 = cwN S Ls Hs [a, b]) := hC2
                clear hC2
                go_cut [13] from 39 (fun f w' => f = .int .i64 C2 ∧ w' = wN)
                case first =>
                  as_aux_lemma =>
                    by_cases h0 : CN = 0
                    · have HC0 : Hid (cwN S Ls Hs [a] = 0) := HCN.out.symm.trans h0
                      subst h0
                      by_cases h1 : 1 ≤ b ∧ b ≤ S
                      · have HCC : Hid (C2 = 0) := HC2.out.trans (cw2_yes HC0.out h1)
                        have e1 : (decide ((0 : Int) = 0) && (decide (b < 1) || decide (S < b))) = false := by simp; omega
                        rw [e1]
                        clear e1 h1
                        go_wp2_with fail
                        go_meet
                        case rel => exact ⟨by rw [HCC.out], rfl⟩
                      · have HCC : Hid (C2 = 1) := HC2.out.trans (cw2_no2 HC0.out h1)
                        have e1 : (decide ((0 : Int) = 0) && (decide (b < 1) || decide (S < b))) = true := by simp; omega
                        rw [e1]
                        clear e1 h1
                        go_wp2_with fail
                        go_meet
                        case rel => exact ⟨by rw [HCC.out], rfl⟩
                    · have HCC : Hid (C2 = CN) := by
                        show _ = _
                        rw [HC2.out, cw2_no1 (by rw [← HCN.out]; exact h0), HCN.out]
                      have e1 : (decide (CN = 0) && (decide (b < 1) || decide (S < b))) = false := by simp [h0]
                      rw [e1]
                      clear e1 h0
                      go_wp2_with fail
                      go_meet
                      case rel => exact ⟨by rw [HCC.out], rfl⟩
                case rest =>
                  obtain ⟨rfl, hwO⟩ := hcut
                  subst hwO
                  obtain ⟨wO, hwO2⟩ : ∃ X, X = wc := ⟨_, rfl⟩
                  subst hwO2
                  go_upto_if 174 with fail
                  obtain ⟨FN, hFN⟩ : ∃ q, q = fsN S Ls Hs a b := ⟨_, rfl⟩
                  obtain ⟨FV, hFV⟩ : ∃ q, q = fsV S Ls Hs a b := ⟨_, rfl⟩
                  have HFN : Hid (FN = fsN S Ls Hs a b) := hFN
                  have HFV : Hid (FV = fsV S Ls Hs a b) := hFV
                  clear hFN hFV
                  go_cut [13, 36] from 39 (fun f u w' => f = .int .i64 FN ∧ u = .int .i64 FV ∧ Below wO.heap.size wO w')
                  case first =>
                    as_aux_lemma =>
                      by_cases h0 : C2 = 0
                      · have HC0 : Hid (cwN S Ls Hs [a, b] = 0) := HC2.out.symm.trans h0
                        obtain ⟨ht, hab⟩ := cw_0.1 HC0.out
                        have ha := hab a (by simp)
                        have hb := hab b (by simp)
                        have hS := (tp_0 ht).1
                        have hrf := rfar_any S.toNat a.toNat b.toNat ao n cap ao2 n2 cap2 Ls wO (HLW.out _ HKM.out.below) (by omega) (by omega) (by omega) (by omega) (by omega) (by omega)
                        rw [Int.toNat_of_nonneg (show 0 ≤ S by omega), Int.toNat_of_nonneg (show 0 ≤ a by omega), Int.toNat_of_nonneg (show 0 ≤ b by omega)] at hrf
                        have HRF : Hid (Calls Tryd.prog 20 #[.agg #[.int .i64 S, .slice ao n cap, .slice ao2 n2 cap2], .int .i64 a, .int .i64 b] wO fun e w' => e = .returned (.int .i64 (faN S Ls a b)) ∧ Below wO.heap.size wO w') := hrf
                        obtain ⟨f1, f2⟩ := fs_at0 HC0.out
                        have HF1 : Hid (faN S Ls a b < 0 → fsN S Ls Hs a b = 5 ∧ fsV S Ls Hs a b = 0) := f1
                        have HF2 : Hid (0 ≤ faN S Ls a b → fsN S Ls Hs a b = 0 ∧ fsV S Ls Hs a b = faN S Ls a b) := f2
                        obtain ⟨_, ⟨b0, b1, b2⟩, s0, s1⟩ := HKM.out
                        subst h0
                        clear ht hab ha hb hS hrf f1 f2
                        go_wp2_with fail
                        refine HRF.out.mono ?_
                        rintro e wP ⟨rfl, hbP⟩
                        have HBP : Hid (Below wO.heap.size wO wP) := hbP
                        clear hbP
                        by_cases hn : faN S Ls a b < 0
                        · obtain ⟨z1, z2⟩ := HF1.out hn
                          have Z1 : Hid (FN = 5) := HFN.out.trans z1
                          have Z2 : Hid (FV = 0) := HFV.out.trans z2
                          have hn2 : decide (faN S Ls a b < 0) = true := by simpa using hn
                          clear z1 z2 hn
                          go_wp2_with fail
                          go_meet
                          case rel => exact ⟨by rw [Z1.out], by rw [Z2.out], HBP.out⟩
                        · obtain ⟨z1, z2⟩ := HF2.out (by omega)
                          have Z1 : Hid (FN = 0) := HFN.out.trans z1
                          have Z2 : Hid (FV = faN S Ls a b) := HFV.out.trans z2
                          have hn2 : decide (faN S Ls a b < 0) = false := by simpa using hn
                          clear z1 z2 hn
                          go_wp2_with fail
                          go_meet
                          case rel => exact ⟨by rw [Z1.out], by rw [Z2.out], HBP.out⟩
                      · have e1 : (C2 == 0) = false := by simpa using h0
                        obtain ⟨z1, z2⟩ := fs_C (show cwN S Ls Hs [a, b] ≠ 0 by rw [← HC2.out]; exact h0)
                        have Z1 : Hid (FN = C2) := by
                          show _ = _
                          rw [HFN.out, z1, HC2.out]
                        have Z2 : Hid (FV = 0) := HFV.out.trans z2
                        clear z1 z2 h0
                        go_wp2_with fail
                        go_meet
                        case rel => exact ⟨by rw [Z1.out], by rw [Z2.out], Below.refl _ _⟩
                  case rest =>
                    obtain ⟨rfl, rfl, hbQ⟩ := hcut
                    have HKQ : Hid (B2 w wc S (.slice ao n cap) (.slice ao2 n2 cap2) x y) := HKM.out.later hbQ
                    have HBQ : Hid (PB w wc g5 P1 P2) := HBM.out.later hbQ
                    have HQQ : Hid (PB w wc g8 P1 P2) := HQM.out.later hbQ
                    have HRQ : Hid (PB w wc gC W1 W2) := HRM.out.later hbQ
                    have HSQ : Hid (PB w wc gG W1 W2) := HSM.out.later hbQ
                    obtain ⟨_, ⟨b0, b1, b2⟩, s0, s1⟩ := HKQ.out
                    clear hbQ HKM HBM HQM HRM HSM HC2 HCN
                    go_wp2_with fail
                    refine (far_any S ao n cap ao2 n2 cap2 Ls Hs a b _ (HLW.out _ HKQ.out.below) (HHW.out _ HKQ.out.below)).mono ?_
                    rintro e wR ⟨rfl, hbR⟩
                    rw [← HFV.out, ← HFN.out]
                    have HKR : Hid (B2 w wR S (.slice ao n cap) (.slice ao2 n2 cap2) x y) := HKQ.out.later hbR
                    have HBR : Hid (PB w wR g5 P1 P2) := HBQ.out.later hbR
                    have HQR : Hid (PB w wR g8 P1 P2) := HQQ.out.later hbR
                    have HRR : Hid (PB w wR gC W1 W2) := HRQ.out.later hbR
                    have HSR : Hid (PB w wR gG W1 W2) := HSQ.out.later hbR
                    clear hbR b0 b1 b2 s0 s1 HKQ HBQ HQQ HRQ HSQ
                    go_wp2_with fail
                    refine (same_noV FN _ (HG.out _ HKR.out.below)).mono ?_
                    rintro e wT ⟨rfl, hbT⟩
                    have HBT : Hid (Below w.heap.size w wT) := (HKR.out.later hbT).below
                    obtain ⟨c0, c1, _, _, _⟩ := HBR.out.later hbT
                    obtain ⟨c2, c3, _, _, _⟩ := HQR.out.later hbT
                    obtain ⟨c4, c5, _, _, _⟩ := HRR.out.later hbT
                    obtain ⟨c6, c7, _, _, _⟩ := HSR.out.later hbT
                    clear hbT HKR HBR HQR HRR HSR
                    go_wp2
                    go_ret
                    exact ⟨rfl, HBT.out⟩
end Go.Proofs.YtfbocionnjlilacDoor.topoTells
