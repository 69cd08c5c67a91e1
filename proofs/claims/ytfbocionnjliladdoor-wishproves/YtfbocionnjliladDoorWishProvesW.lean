/- The walk of WishProves: it answers true, whatever net, wishes, name and header it is called with. -/
import Derived.Test.YtfbocionnjliladDoorWishBasePCard
import Derived.Deep.QuietTactic
import Derived.BigQuiet
import Derived.Deep.CutRange
import Derived.Deep.CutBlock
namespace Go.Proofs.YtfbocionnjliladDoor.wishProves
open Go.RowKit
set_option linter.unusedSimpArgs false
set_option linter.unusedVariables false

theorem al (X : World) (o : Obj) : ∃ Y, X.alloc o = Y ∧ Below X.heap.size X Y ∧ Y.heap.size = X.heap.size + 1 := ⟨_, rfl, (Below.refl _ _).alloc (Nat.le_refl _) _, by simp⟩
theorem ts_nil (W : World) (t : TypeId) : TS (W.alloc (.cells #[.slice none 0 0] t)) (.slice (some ⟨W.heap.size, 0, none⟩) 1 1) [[]] := by
  refine .inr ⟨W.heap.size, 0, 1, rfl, Nat.le_refl _, by unfold maxLen; omega, ?_⟩
  intro i hi
  match i, hi with
  | 0, _ => exact ⟨none, 0, 0, by simp, .inl ⟨none, 0, rfl, rfl⟩⟩
/-- A fate in its box, a wish at an address: a class of worlds. -/
def CV (w : World) (gF : Nat) (F1 : Int) (F2 : ByteArray) (c : Value) (l : List ((Int × Int) × Int)) (g o : Nat) (y0 : Int) (y1 y2 : ByteArray) (y3 : Int) (w' : World) : Prop :=
  Below w.heap.size w w' ∧ w'.cell? ⟨gF, 0, none⟩ = some (.int .i64 F1) ∧ w'.cell? ⟨gF, 1, none⟩ = some (.string F2) ∧ w'.cell? ⟨gF, 2, none⟩ = some c ∧
    w'.cell? ⟨g, o, none⟩ = some (.int .i64 y0) ∧ w'.cell? ⟨g, o + 1, none⟩ = some (.string y1) ∧ w'.cell? ⟨g, o + 2, none⟩ = some (.string y2) ∧ w'.cell? ⟨g, o + 3, none⟩ = some (.int .i64 y3) ∧ GS hopE w' c l
theorem CV.later {w W W' : World} {gF : Nat} {F1 : Int} {F2 : ByteArray} {c : Value} {l : List ((Int × Int) × Int)} {g o : Nat} {y0 : Int} {y1 y2 : ByteArray} {y3 : Int} (hb : Below W.heap.size W W') (h : CV w gF F1 F2 c l g o y0 y1 y2 y3 W) : CV w gF F1 F2 c l g o y0 y1 y2 y3 W' := by
  obtain ⟨h0, h1, h2, h3, h4, h5, h6, h7, h8⟩ := h
  exact ⟨h0.trans (hb.mono h0.size), cell_later hb h1, cell_later hb h2, cell_later hb h3, cell_later hb h4, cell_later hb h5, cell_later hb h6, cell_later hb h7, h8.later hb⟩
/-- With a proof in its box. -/
def CX (w : World) (gP : Nat) (i : Int) (V2 : ByteArray) (gF : Nat) (F1 : Int) (F2 : ByteArray) (c : Value) (l : List ((Int × Int) × Int)) (g o : Nat) (y0 : Int) (y1 y2 : ByteArray) (y3 : Int) (w' : World) : Prop :=
  CV w gF F1 F2 c l g o y0 y1 y2 y3 w' ∧ w'.cell? ⟨gP, 0, none⟩ = some (.int .i64 i) ∧ w'.cell? ⟨gP, 1, none⟩ = some (.string V2)
theorem CX.later {w W W' : World} {gP : Nat} {i : Int} {V2 : ByteArray} {gF : Nat} {F1 : Int} {F2 : ByteArray} {c : Value} {l : List ((Int × Int) × Int)} {g o : Nat} {y0 : Int} {y1 y2 : ByteArray} {y3 : Int} (hb : Below W.heap.size W W') (h : CX w gP i V2 gF F1 F2 c l g o y0 y1 y2 y3 W) : CX w gP i V2 gF F1 F2 c l g o y0 y1 y2 y3 W' :=
  ⟨CV.later hb h.1, cell_later hb h.2.1, cell_later hb h.2.2⟩
/-- The box of the net. -/
structure NB (w W : World) (S : Int) (v1 v2 v3 : Value) : Prop where
  below : Below w.heap.size w W
  n : NeBox W w.heap.size S v1 v2 v3
theorem NB.later {w W W' : World} {S : Int} {v1 v2 v3 : Value} (k : NB w W S v1 v2 v3) (hb : Below W.heap.size W W') : NB w W' S v1 v2 v3 := ⟨k.below.trans (hb.mono k.below.size), k.n.later hb⟩

set_option maxHeartbeats 16000000 in
set_option maxRecDepth 100000 in
theorem walk (S : Int) (ao : Option Addr) (n cap : Nat) (ao2 : Option Addr) (n2 cap2 : Nat) (ao3 : Option Addr) (n3 cap3 : Nat) (Ls : List ((Int × Int) × (Int × Int))) (Hs : List (ByteArray × (Int × Int))) (Ts : List (List Ru)) (a4 : Option Addr) (n4 c4 : Nat) (l : List Wi) (m : ByteArray) (h : Int) (w : World)
    (hL : GS lnkE w (.slice ao n cap) Ls) (hH : GS hstE w (.slice ao2 n2 cap2) Hs) (hT : TS w (.slice ao3 n3 cap3) Ts) (hl : GS wisE w (.slice a4 n4 c4) l) (hg : HasErr w) :
    Calls Tryd.prog 4 #[.agg #[.int .i64 S, .slice ao n cap, .slice ao2 n2 cap2, .slice ao3 n3 cap3], .slice a4 n4 c4, .string m, .int .i64 h] w fun e w' => e = .returned (.bool true) ∧ Below w.heap.size w w' := by
  have HLW : Hid (∀ W, Below w.heap.size w W → GS lnkE W (.slice ao n cap) Ls) := fun W hb => hL.later hb
  have HHW : Hid (∀ W, Below w.heap.size w W → GS hstE W (.slice ao2 n2 cap2) Hs) := fun W hb => hH.later hb
  have HTW : Hid (∀ W, Below w.heap.size w W → TS W (.slice ao3 n3 cap3) Ts) := fun W hb => hT.later hb
  have HlW : Hid (∀ W, Below w.heap.size w W → GS wisE W (.slice a4 n4 c4) l) := fun W hb => hl.later hb
  have HGW : Hid (∀ W, Below w.heap.size w W → HasErr W) := fun W hb => hg.later hb
  have hn4 : n4 ≤ maxLen := by
    obtain ⟨_, _, _, e5, _, hm, _, _⟩ := hl.form
    cases e5
    exact hm
  unfold maxLen at hn4
  obtain ⟨w0, hw0, c0, t0⟩ := al w (Obj.cells #[.int .i64 S, .slice ao n cap, .slice ao2 n2 cap2, .slice ao3 n3 cap3] 28)
  have hX0 : NB w w0 S (.slice ao n cap) (.slice ao2 n2 cap2) (.slice ao3 n3 cap3) := ⟨c0, by rw [← hw0]; exact nebox_new w S _ _ _ 28⟩
  have HW0 : Hid (w.alloc (Obj.cells #[.int .i64 S, .slice ao n cap, .slice ao2 n2 cap2, .slice ao3 n3 cap3] 28) = w0) := hw0
  obtain ⟨E1, h1, b1, s1⟩ := al w0 (Obj.cells #[.string ⟨#[97]⟩, .int .i64 1, .int .i64 2] 55)
  have r1 := hst_row w0 ⟨#[97]⟩ 1 2 55
  rw [h1] at r1
  obtain ⟨E2, h2, b2, s2⟩ := al E1 (Obj.cells #[.slice none 0 0] 30)
  have r2 := ts_nil E1 30
  rw [h2, s1] at r2
  rw [s1] at s2
  obtain ⟨E3, h3, b3, s3⟩ := al E2 (Obj.cells #[.int .i64 1, .slice none 0 0, .slice (some ⟨w0.heap.size, 0, none⟩) 1 1, .slice (some ⟨w0.heap.size + 1, 0, none⟩) 1 1] 28)
  have k3 := nebox_new E2 1 (.slice none 0 0) (.slice (some ⟨w0.heap.size, 0, none⟩) 1 1) (.slice (some ⟨w0.heap.size + 1, 0, none⟩) 1 1) 28
  rw [h3, s2] at k3
  rw [s2] at s3
  obtain ⟨E4, h4, b4, s4⟩ := al E3 (Obj.cells #[.int .i64 1, .string ⟨#[97]⟩, .string ⟨#[97]⟩, .int .i64 0] 61)
  have r4 := wis_row E3 1 ⟨#[97]⟩ ⟨#[97]⟩ 0 61
  rw [h4, s3] at r4
  have HN3 : Hid (NeBox E3 (w0.heap.size + 1 + 1) 1 (.slice none 0 0) (.slice (some ⟨w0.heap.size, 0, none⟩) 1 1) (.slice (some ⟨w0.heap.size + 1, 0, none⟩) 1 1)) := k3
  have HT4 : Hid (TS E4 (.slice (some ⟨w0.heap.size + 1, 0, none⟩) 1 1) [[]]) := (r2.later b3).later b4
  have HH4 : Hid (GS hstE E4 (.slice (some ⟨w0.heap.size, 0, none⟩) 1 1) [(⟨#[97]⟩, (1, 2))]) := ((r1.later b2).later b3).later b4
  have Hl4 : Hid (GS wisE E4 (.slice (some ⟨w0.heap.size + 1 + 1 + 1, 0, none⟩) 1 1) [⟨1, ⟨#[97]⟩, ⟨#[97]⟩, 0⟩]) := r4
  have HX4 : Hid (NB w E4 S (.slice ao n cap) (.slice ao2 n2 cap2) (.slice ao3 n3 cap3)) := (((hX0.later b1).later b2).later b3).later b4
  have H1 : Hid (w0.alloc (Obj.cells #[.string ⟨#[97]⟩, .int .i64 1, .int .i64 2] 55) = E1) := h1
  have H2 : Hid (E1.alloc (Obj.cells #[.slice none 0 0] 30) = E2) := h2
  have H3 : Hid (E2.alloc (Obj.cells #[.int .i64 1, .slice none 0 0, .slice (some ⟨w0.heap.size, 0, none⟩) 1 1, .slice (some ⟨w0.heap.size + 1, 0, none⟩) 1 1] 28) = E3) := h3
  have H4 : Hid (E3.alloc (Obj.cells #[.int .i64 1, .string ⟨#[97]⟩, .string ⟨#[97]⟩, .int .i64 0] 61) = E4) := h4
  have H3S : Hid (E3.heap.size = w0.heap.size + 1 + 1 + 1) := s3
  clear hL hH hT hl hg hX0 hw0 h1 h2 h3 h4 b1 b2 b3 b4 s1 s2 s3 s4 r1 r2 r4 k3 c0 t0
  go_enter Tryd.func4, Tryd.ntmps4
  go_upto_region 1 with fail
  rw [HW0.out]
  clear HW0
  go_upto_region 2 with fail
  rw [H1.out, H2.out, H3.out]
  clear H1 H2 H3
  obtain ⟨a0, a1, a2, a3⟩ := HN3.out
  go_wp2_with fail
  rw [H4.out, H3S.out]
  clear H4 H3S
  refine (holds_any 1 none 0 0 _ 1 1 _ 1 1 _ 1 1 [] [(⟨#[97]⟩, (1, 2))] [[]] [⟨1, ⟨#[97]⟩, ⟨#[97]⟩, 0⟩] _ (GS.nil _) HH4.out HT4.out Hl4.out).mono ?_
  rintro e wS ⟨rfl, hbS⟩
  obtain ⟨u1, u2, u3⟩ := wish_one
  have u2' : (wiV 1 [] [(⟨#[97]⟩, (1, 2))] [[]] [⟨1, ⟨#[97]⟩, ⟨#[97]⟩, 0⟩]).2.1 = ⟨#[97]⟩ := by
    have : ∀ b : ByteArray, b.data = #[97] → b = ⟨#[97]⟩ := fun b hb => by cases b; simp at hb; rw [hb]
    exact this _ u2
  rw [u1, no_ne (by decide), u2', u3]
  generalize (wiV 1 [] [(⟨#[97]⟩, (1, 2))] [[]] [⟨1, ⟨#[97]⟩, ⟨#[97]⟩, 0⟩]).1 = P1
  obtain ⟨wT, hwT, bT, sT⟩ := al wS (Obj.cells #[.int .i64 P1, .string ⟨#[97]⟩, .int .i64 0] 57)
  have hpT := prbox_new wS w P1 ⟨#[97]⟩ 0
  rw [hwT] at hpT
  obtain ⟨gT, hgT⟩ : ∃ q, q = wS.heap.size := ⟨_, rfl⟩
  rw [← hgT] at hpT
  have HXT : Hid (NB w wT S (.slice ao n cap) (.slice ao2 n2 cap2) (.slice ao3 n3 cap3)) := (HX4.out.later hbS).later bT
  have HPT : Hid (PrBox w wT gT P1 ⟨#[97]⟩ 0) := hpT
  have HWT : Hid (wS.alloc (Obj.cells #[.int .i64 P1, .string ⟨#[97]⟩, .int .i64 0] 57) = wT) := hwT
  have HGT : Hid (wS.heap.size = gT) := hgT.symm
  clear hwT bT sT hpT hgT hbS u1 u2 u2' u3 a0 a1 a2 a3 HN3 HT4 HH4 Hl4 HX4
  go_upto_region 3 with fail
  rw [HWT.out, HGT.out]
  clear HWT HGT
  go_wp2_with fail
  refine (same_some 9 9 _ (HGW.out _ HXT.out.below)).mono ?_
  rintro e wU ⟨rfl, hbU⟩
  rw [show ((9 : Int) == 9) = true from rfl]
  have HXU : Hid (NB w wU S (.slice ao n cap) (.slice ao2 n2 cap2) (.slice ao3 n3 cap3)) := HXT.out.later hbU
  obtain ⟨p0, p1, p2, _⟩ := HPT.out.later hbU
  clear hbU HXT HPT
  go_upto_region 6 with fail
  clear p0 p1 p2
  obtain ⟨_, b0, b1, b2, b3⟩ := HXU.out
  go_wp2_with fail
  refine (holds_any S ao n cap ao2 n2 cap2 ao3 n3 cap3 a4 n4 c4 Ls Hs Ts l _ (HLW.out _ HXU.out.below) (HHW.out _ HXU.out.below) (HTW.out _ HXU.out.below) (HlW.out _ HXU.out.below)).mono ?_
  rintro e w1 ⟨rfl, hb1⟩
  obtain ⟨N, hN⟩ : ∃ q, q = wiN S Ls Hs Ts l := ⟨_, rfl⟩
  have HN : Hid (wiN S Ls Hs Ts l = N) := hN.symm
  obtain ⟨V1, hV1⟩ : ∃ q, q = (wiV S Ls Hs Ts l).1 := ⟨_, rfl⟩
  obtain ⟨V2, hV2⟩ : ∃ q, q = (wiV S Ls Hs Ts l).2.1 := ⟨_, rfl⟩
  obtain ⟨V3, hV3⟩ : ∃ q, q = (wiV S Ls Hs Ts l).2.2 := ⟨_, rfl⟩
  have HVV : Hid ((wiV S Ls Hs Ts l).1 = V1 ∧ (wiV S Ls Hs Ts l).2.1 = V2 ∧ (wiV S Ls Hs Ts l).2.2 = V3) := ⟨hV1.symm, hV2.symm, hV3.symm⟩
  rw [← hN, ← hV1, ← hV2, ← hV3]
  obtain ⟨w2, hw2, d2, t2⟩ := al w1 (Obj.cells #[.int .i64 V1, .string V2, .int .i64 V3] 57)
  have hp2 := prbox_new w1 w V1 V2 V3
  rw [hw2] at hp2
  obtain ⟨gP, hgP⟩ : ∃ q, q = w1.heap.size := ⟨_, rfl⟩
  rw [← hgP] at hp2
  have HX2 : Hid (NB w w2 S (.slice ao n cap) (.slice ao2 n2 cap2) (.slice ao3 n3 cap3)) := (HXU.out.later hb1).later d2
  have HP2 : Hid (PrBox w w2 gP V1 V2 V3) := hp2
  have HW2 : Hid (w1.alloc (Obj.cells #[.int .i64 V1, .string V2, .int .i64 V3] 57) = w2) := hw2
  have HGP : Hid (w1.heap.size = gP) := hgP.symm
  clear hN hV1 hV2 hV3 hb1 hw2 d2 t2 hp2 hgP HXU b0 b1 b2 b3
  go_upto_region 7 with fail
  rw [HW2.out, HGP.out]
  clear HW2 HGP
  by_cases h0 : N = 0
  · have HN0 : Hid (wiN S Ls Hs Ts l = 0) := HN.out.trans h0
    subst h0
    rw [no_ok rfl]
    obtain ⟨_, b0, b1, b2, b3⟩ := HX2.out
    go_wp2_with fail
    refine (send_any S ao n cap ao2 n2 cap2 ao3 n3 cap3 Ls Hs Ts m h _ (HLW.out _ HX2.out.below) (HHW.out _ HX2.out.below) (HTW.out _ HX2.out.below)).mono ?_
    rintro e w3 ⟨ao5, n5, cap5, rfl, hown, hb3⟩
    obtain ⟨F, hF⟩ : ∃ F, F = seV S Ls Hs Ts m h := ⟨_, rfl⟩
    obtain ⟨K, hK⟩ : ∃ K, K = seN S Ls Hs Ts m h := ⟨_, rfl⟩
    have HFI : Hid (K = 0 → ∀ i : Nat, i < l.length → fiB (l.getD i zeW) m F = true) := fun hk => by
      rw [hF]
      exact wish_all HN0.out (hK.symm.trans hk)
    rw [← hF] at hown
    rw [← hF, ← hK]
    have hG3 : GS hopE w3 (.slice ao5 n5 cap5) F.2.2 := own_GS (E := hopE) hown
    obtain ⟨F1, hF1⟩ : ∃ q, q = F.1 := ⟨_, rfl⟩
    obtain ⟨F2, hF2⟩ : ∃ q, q = F.2.1 := ⟨_, rfl⟩
    have HFV : Hid (F = (F1, F2, F.2.2)) := by
      show _ = _
      rw [hF1, hF2]
    rw [← hF1, ← hF2]
    obtain ⟨w4, hw4, d4, t4⟩ := al w3 (Obj.cells #[.int .i64 F1, .string F2, .slice ao5 n5 cap5] 64)
    have hf4 := fabox_new w3 F1 F2 (.slice ao5 n5 cap5) 64
    rw [hw4] at hf4
    obtain ⟨gF, hgF⟩ : ∃ q, q = w3.heap.size := ⟨_, rfl⟩
    rw [← hgF] at hf4
    have HX4 : Hid (NB w w4 S (.slice ao n cap) (.slice ao2 n2 cap2) (.slice ao3 n3 cap3)) := (HX2.out.later hb3).later d4
    have HF4 : Hid (FaBox w4 gF F1 F2 (.slice ao5 n5 cap5)) := hf4
    have HG4 : Hid (GS hopE w4 (.slice ao5 n5 cap5) F.2.2) := hG3.later d4
    have HW4 : Hid (w3.alloc (Obj.cells #[.int .i64 F1, .string F2, .slice ao5 n5 cap5] 64) = w4) := hw4
    have HGF : Hid (w3.heap.size = gF) := hgF.symm
    clear hF hK hown hG3 hF1 hF2 hw4 d4 t4 hf4 hgF hb3 b0 b1 b2 b3 HX2 HN HVV HN0 HP2
    go_upto_region 14 with fail
    rw [HW4.out, HGF.out]
    clear HW4 HGF
    by_cases hk : K = 0
    · have HFA : Hid (∀ i : Nat, i < l.length → fiB (l.getD i zeW) m F = true) := HFI.out hk
      subst hk
      rw [no_ok rfl]
      clear HFI
      go_wp2
      go_loopw [19] (fun i wr => ∃ j : Nat, j ≤ n4 ∧ i = .int .i64 j ∧ Below w4.heap.size w4 wr) (fun i _ => n4 - (intOf i).toNat)
      case atStart => exact ⟨0, by omega, rfl, Below.refl _ _⟩
      case round =>
        obtain ⟨j, hj, rfl, hB⟩ := hrel
        have HB : Hid (Below w4.heap.size w4 wr) := hB
        have HBw : Hid (Below w.heap.size w wr) := HX4.out.below.trans (hB.mono HX4.out.below.size)
        by_cases hlt : j < n4
        · obtain ⟨_, _, _, e5, hln, _, _, hGa⟩ := (HlW.out _ HBw.out).form
          cases e5
          obtain ⟨g1, o1, hao, hc, _⟩ := hGa (by omega)
          subst hao
          obtain ⟨y0, y1, y2, y3, hkl, hLk, q0, q1, q2, q3⟩ := wis_at hc hln hlt
          obtain ⟨z0, z1, z2⟩ := HF4.out.later hB
          have HCV : Hid (CV wr gF F1 F2 (.slice ao5 n5 cap5) F.2.2 g1 (o1 + j * 4) y0 y1 y2 y3 wr) := ⟨Below.refl _ _, z0, z1, z2, q0, q1, q2, q3, HG4.out.later hB⟩
          have HFT : Hid (fiB ⟨y0, y1, y2, y3⟩ m (F1, F2, F.2.2) = true) := by
            show _ = _
            have := HFA.out j hkl
            rw [getW hkl, hLk] at this
            rw [← HFV.out]
            exact this
          have kb0 : (0 : Int) ≤ (j : Int) := by omega
          have kb1 : (j : Int) < (n4 : Int) := by omega
          clear hB hc hln hGa hLk q0 q1 q2 q3 z0 z1 z2
          go_upto_region 17 with fail
          refine wp_region_quiet (C := CV wr gF F1 F2 (.slice ao5 n5 cap5) F.2.2 g1 (o1 + j * 4) y0 y1 y2 y3) (by kernel_rfl) (by kernel_rfl) (CV.later (W := wr) (Below.drew (Below.refl _ _)) HCV.out) ?_
          simp only [List.toList_toArray]
          go_big_quiet_want
          refine quiet_val (v := .slice (some ⟨g1, o1, none⟩) n4 c4) (fun w' hC => ?_) ?_
          · obtain ⟨e0, e1, e2, e3, e4, e5, e6, e7, e8⟩ := hC
            go_simp
          simp only [Act.put, List.setIfInBounds_toArray, List.set_cons_zero, List.set_cons_succ]
          go_big_quiet_on
          go_big_quiet_want
          refine quiet_val (v := .int .i64 (j : Int)) (fun w' hC => ?_) ?_
          · obtain ⟨e0, e1, e2, e3, e4, e5, e6, e7, e8⟩ := hC
            go_simp
          simp only [Act.put, List.setIfInBounds_toArray, List.set_cons_zero, List.set_cons_succ]
          go_big_quiet_on
          go_big_quiet_want
          refine quiet_val (v := .pointer (some ⟨g1, o1 + j * 4, none⟩)) (fun w' hC => ?_) ?_
          · obtain ⟨e0, e1, e2, e3, e4, e5, e6, e7, e8⟩ := hC
            go_simp
          simp only [Act.put, List.setIfInBounds_toArray, List.set_cons_zero, List.set_cons_succ]
          go_big_quiet_on
          go_big_quiet_want
          refine quiet_val (v := .agg #[.int .i64 y0, .string y1, .string y2, .int .i64 y3]) (fun w' hC => ?_) ?_
          · obtain ⟨e0, e1, e2, e3, e4, e5, e6, e7, e8⟩ := hC
            go_simp
          simp only [Act.put, List.setIfInBounds_toArray, List.set_cons_zero, List.set_cons_succ]
          go_big_quiet_on
          go_big_quiet_want
          refine quiet_val (v := .string m) (fun w' hC => ?_) ?_
          · obtain ⟨e0, e1, e2, e3, e4, e5, e6, e7, e8⟩ := hC
            go_simp
          simp only [Act.put, List.setIfInBounds_toArray, List.set_cons_zero, List.set_cons_succ]
          go_big_quiet_on
          go_big_quiet_want
          refine quiet_val (v := .agg #[.int .i64 F1, .string F2, .slice ao5 n5 cap5]) (fun w' hC => ?_) ?_
          · obtain ⟨e0, e1, e2, e3, e4, e5, e6, e7, e8⟩ := hC
            go_simp
          simp only [Act.put, List.setIfInBounds_toArray, List.set_cons_zero, List.set_cons_succ]
          go_big_quiet_on
          go_big_quiet_want
          refine quiet_call (f := 20) (args := #[.agg #[.int .i64 y0, .string y1, .string y2, .int .i64 y3], .string m, .agg #[.int .i64 F1, .string F2, .slice ao5 n5 cap5]]) (v := .bool true) (fun w' => ?_) (fun w' hC => (fits_any y0 y1 y2 y3 m F1 F2 ao5 n5 cap5 F.2.2 w' hC.2.2.2.2.2.2.2.2).mono (fun e w2 h2 => ⟨by rw [h2.1, HFT.out], CV.later h2.2 hC⟩)) ?_
          · go_simp
          simp only [Act.put, List.setIfInBounds_toArray, List.set_cons_zero, List.set_cons_succ]
          go_big_quiet_on
          go_big_quiet_want
          refine quiet_val (v := .bool false) (fun w' hC => ?_) ?_
          · obtain ⟨e0, e1, e2, e3, e4, e5, e6, e7, e8⟩ := hC
            go_simp
          simp only [Act.put, List.setIfInBounds_toArray, List.set_cons_zero, List.set_cons_succ]
          go_big_quiet_on
          refine wpQuiet_nil ?_
          intro w' hC
          have HBY : Hid (Below wr.heap.size wr w') := hC.1
          clear hC
          go_wp2
          go_roundw
          case rel => exact ⟨j + 1, by omega, by go_num, HB.out.trans (HBY.out.mono HB.out.size)⟩
          case measure => simp [intOf]; omega
        · have kb1 : ¬ (j : Int) < (n4 : Int) := by omega
          clear hB
          go_wp2
          go_ret
          exact ⟨rfl, HBw.out⟩
    · rw [no_ne hk]
      clear hk HFI
      go_wp2
      go_loopw [19] (fun i wr => i = .int .i64 0 ∧ Below w4.heap.size w4 wr) (fun _ _ => 0)
      case atStart => exact ⟨rfl, Below.refl _ _⟩
      case round =>
        obtain ⟨rfl, hB⟩ := hrel
        have HBw : Hid (Below w.heap.size w wr) := HX4.out.below.trans (hB.mono HX4.out.below.size)
        clear hB
        by_cases hz : (0 : Int) < (n4 : Int)
        · go_wp2
          go_ret
          exact ⟨rfl, HBw.out⟩
        · go_wp2
          go_ret
          exact ⟨rfl, HBw.out⟩
  · rw [no_ne h0]
    go_wp2_with fail
    refine (same_some N 9 _ (HGW.out _ HX2.out.below)).mono ?_
    rintro e w3 ⟨rfl, hb3⟩
    have HX3 : Hid (NB w w3 S (.slice ao n cap) (.slice ao2 n2 cap2) (.slice ao3 n3 cap3)) := HX2.out.later hb3
    have HP3 : Hid (PrBox w w3 gP V1 V2 V3) := HP2.out.later hb3
    clear hb3 HX2 HP2
    by_cases h9 : N = 9
    · have HN9 : Hid (wiN S Ls Hs Ts l = 9) := HN.out.trans h9
      subst h9
      rw [show ((9 : Int) == 9) = true from rfl]
      obtain ⟨i, hi, i1, i2, i3⟩ := wish_shown HN9.out
      obtain ⟨v1, v2, v3⟩ := HVV.out
      rw [v1] at i1
      rw [v2, v3] at i2 i3
      subst i1
      have HS0 : Hid (seN S Ls Hs Ts V2 V3 = 0) := i2
      have HFB : Hid (fiB (l.getD i zeW) V2 (seV S Ls Hs Ts V2 V3) = false) := i3
      have HIL : Hid (i < l.length) := hi
      obtain ⟨_, b0, b1, b2, b3⟩ := HX3.out
      obtain ⟨p0, p1, p2, _⟩ := HP3.out
      clear v1 v2 v3 i2 i3 hi h0 HN HVV HN9
      go_wp2_with fail
      refine (send_any S ao n cap ao2 n2 cap2 ao3 n3 cap3 Ls Hs Ts V2 V3 _ (HLW.out _ HX3.out.below) (HHW.out _ HX3.out.below) (HTW.out _ HX3.out.below)).mono ?_
      rintro e w4 ⟨ao5, n5, cap5, rfl, hown, hb4⟩
      rw [HS0.out, no_ok rfl]
      obtain ⟨F, hF⟩ : ∃ F, F = seV S Ls Hs Ts V2 V3 := ⟨_, rfl⟩
      have HFC : Hid (fiB (l.getD i zeW) V2 F = false) := by
        show _ = _
        rw [hF]
        exact HFB.out
      rw [← hF] at hown
      rw [← hF]
      have hG4 : GS hopE w4 (.slice ao5 n5 cap5) F.2.2 := own_GS (E := hopE) hown
      obtain ⟨F1, hF1⟩ : ∃ q, q = F.1 := ⟨_, rfl⟩
      obtain ⟨F2, hF2⟩ : ∃ q, q = F.2.1 := ⟨_, rfl⟩
      have HFV : Hid (F = (F1, F2, F.2.2)) := by
        show _ = _
        rw [hF1, hF2]
      rw [← hF1, ← hF2]
      obtain ⟨w5, hw5, d5, t5⟩ := al w4 (Obj.cells #[.int .i64 F1, .string F2, .slice ao5 n5 cap5] 64)
      have hf5 := fabox_new w4 F1 F2 (.slice ao5 n5 cap5) 64
      rw [hw5] at hf5
      obtain ⟨gF, hgF⟩ : ∃ q, q = w4.heap.size := ⟨_, rfl⟩
      rw [← hgF] at hf5
      have hX5 : NB w w5 S (.slice ao n cap) (.slice ao2 n2 cap2) (.slice ao3 n3 cap3) := (HX3.out.later hb4).later d5
      have hP5 := (HP3.out.later hb4).later d5
      have hG5 := hG4.later d5
      have HW5 : Hid (w4.alloc (Obj.cells #[.int .i64 F1, .string F2, .slice ao5 n5 cap5] 64) = w5) := hw5
      have HGF : Hid (w4.heap.size = gF) := hgF.symm
      have HB5 : Hid (Below w.heap.size w w5) := hX5.below
      obtain ⟨_, _, _, e5, hln, _, _, hGa⟩ := (HlW.out _ HB5.out).form
      cases e5
      have hi4 : i < n4 := by rw [← hln]; exact HIL.out
      obtain ⟨g1, o1, hao, hc, _⟩ := hGa (by omega)
      subst hao
      obtain ⟨y0, y1, y2, y3, hkl, hLk, q0, q1, q2, q3⟩ := wis_at hc hln hi4
      obtain ⟨z0, z1, z2⟩ := hf5
      have HCX : Hid (CX w5 gP (i : Int) V2 gF F1 F2 (.slice ao5 n5 cap5) F.2.2 g1 (o1 + i * 4) y0 y1 y2 y3 w5) := ⟨⟨Below.refl _ _, z0, z1, z2, q0, q1, q2, q3, hG5⟩, hP5.c0, hP5.c1⟩
      have HFT : Hid (fiB ⟨y0, y1, y2, y3⟩ V2 (F1, F2, F.2.2) = false) := by
        show _ = _
        have := HFC.out
        rw [getW hkl, hLk] at this
        rw [← HFV.out]
        exact this
      have kb0 : (0 : Int) ≤ (i : Int) := by omega
      have kb1 : (i : Int) < (n4 : Int) := by omega
      clear hF hown hG4 hF1 hF2 hw5 d5 t5 hgF hX5 hP5 hG5 hln hGa hc hLk q0 q1 q2 q3 z0 z1 z2 hb4 b0 b1 b2 b3 p0 p1 p2 HX3 HP3 HFC HFB HS0
      go_upto_region 12 with fail
      rw [HW5.out, HGF.out]
      clear HW5 HGF
      refine wp_region_quiet (C := CX w5 gP (i : Int) V2 gF F1 F2 (.slice ao5 n5 cap5) F.2.2 g1 (o1 + i * 4) y0 y1 y2 y3) (by kernel_rfl) (by kernel_rfl) (CX.later (W := w5) (Below.drew (Below.refl _ _)) HCX.out) ?_
      simp only [List.toList_toArray]
      go_big_quiet_want
      refine quiet_val (v := .nilIface) (fun w' hC => ?_) ?_
      · obtain ⟨⟨e0, e1, e2, e3, e4, e5, e6, e7, e8⟩, e9, e10⟩ := hC
        go_simp
      simp only [Act.put, List.setIfInBounds_toArray, List.set_cons_zero, List.set_cons_succ]
      go_big_quiet_on
      go_big_quiet_want
      refine quiet_val (v := .bool true) (fun w' hC => ?_) ?_
      · obtain ⟨⟨e0, e1, e2, e3, e4, e5, e6, e7, e8⟩, e9, e10⟩ := hC
        go_simp
      simp only [Act.put, List.setIfInBounds_toArray, List.set_cons_zero, List.set_cons_succ]
      go_big_quiet_on
      go_big_quiet_want
      refine quiet_val (v := .bool true) (fun w' hC => ?_) ?_
      · obtain ⟨⟨e0, e1, e2, e3, e4, e5, e6, e7, e8⟩, e9, e10⟩ := hC
        go_simp
      simp only [Act.put, List.setIfInBounds_toArray, List.set_cons_zero, List.set_cons_succ]
      go_big_quiet_on
      go_big_quiet_want
      refine quiet_val (v := .pointer (some ⟨gP, 0, none⟩)) (fun w' hC => ?_) ?_
      · obtain ⟨⟨e0, e1, e2, e3, e4, e5, e6, e7, e8⟩, e9, e10⟩ := hC
        go_simp
      simp only [Act.put, List.setIfInBounds_toArray, List.set_cons_zero, List.set_cons_succ]
      go_big_quiet_on
      go_big_quiet_want
      refine quiet_val (v := .int .i64 (i : Int)) (fun w' hC => ?_) ?_
      · obtain ⟨⟨e0, e1, e2, e3, e4, e5, e6, e7, e8⟩, e9, e10⟩ := hC
        go_simp
      simp only [Act.put, List.setIfInBounds_toArray, List.set_cons_zero, List.set_cons_succ]
      go_big_quiet_on
      go_big_quiet_want
      refine quiet_val (v := .bool true) (fun w' hC => ?_) ?_
      · obtain ⟨⟨e0, e1, e2, e3, e4, e5, e6, e7, e8⟩, e9, e10⟩ := hC
        go_simp
      simp only [Act.put, List.setIfInBounds_toArray, List.set_cons_zero, List.set_cons_succ]
      go_big_quiet_on
      go_big_quiet_want
      refine quiet_val (v := .bool true) (fun w' hC => ?_) ?_
      · obtain ⟨⟨e0, e1, e2, e3, e4, e5, e6, e7, e8⟩, e9, e10⟩ := hC
        go_simp
      simp only [Act.put, List.setIfInBounds_toArray, List.set_cons_zero, List.set_cons_succ]
      go_big_quiet_on
      go_big_quiet_want
      refine quiet_val (v := .bool true) (fun w' hC => ?_) ?_
      · obtain ⟨⟨e0, e1, e2, e3, e4, e5, e6, e7, e8⟩, e9, e10⟩ := hC
        go_simp
      simp only [Act.put, List.setIfInBounds_toArray, List.set_cons_zero, List.set_cons_succ]
      go_big_quiet_on
      go_big_quiet_want
      refine quiet_val (v := .pointer (some ⟨gP, 0, none⟩)) (fun w' hC => ?_) ?_
      · obtain ⟨⟨e0, e1, e2, e3, e4, e5, e6, e7, e8⟩, e9, e10⟩ := hC
        go_simp
      simp only [Act.put, List.setIfInBounds_toArray, List.set_cons_zero, List.set_cons_succ]
      go_big_quiet_on
      go_big_quiet_want
      refine quiet_val (v := .int .i64 (i : Int)) (fun w' hC => ?_) ?_
      · obtain ⟨⟨e0, e1, e2, e3, e4, e5, e6, e7, e8⟩, e9, e10⟩ := hC
        go_simp
      simp only [Act.put, List.setIfInBounds_toArray, List.set_cons_zero, List.set_cons_succ]
      go_big_quiet_on
      go_big_quiet_want
      refine quiet_val (v := .slice (some ⟨g1, o1, none⟩) n4 c4) (fun w' hC => ?_) ?_
      · obtain ⟨⟨e0, e1, e2, e3, e4, e5, e6, e7, e8⟩, e9, e10⟩ := hC
        go_simp
      simp only [Act.put, List.setIfInBounds_toArray, List.set_cons_zero, List.set_cons_succ]
      go_big_quiet_on
      go_big_quiet_want
      refine quiet_val (v := .int .i64 (n4 : Int)) (fun w' hC => ?_) ?_
      · obtain ⟨⟨e0, e1, e2, e3, e4, e5, e6, e7, e8⟩, e9, e10⟩ := hC
        go_simp
      simp only [Act.put, List.setIfInBounds_toArray, List.set_cons_zero, List.set_cons_succ]
      go_big_quiet_on
      go_big_quiet_want
      refine quiet_val (v := .bool true) (fun w' hC => ?_) ?_
      · obtain ⟨⟨e0, e1, e2, e3, e4, e5, e6, e7, e8⟩, e9, e10⟩ := hC
        go_simp
      simp only [Act.put, List.setIfInBounds_toArray, List.set_cons_zero, List.set_cons_succ]
      go_big_quiet_on
      go_big_quiet_want
      refine quiet_val (v := .bool true) (fun w' hC => ?_) ?_
      · obtain ⟨⟨e0, e1, e2, e3, e4, e5, e6, e7, e8⟩, e9, e10⟩ := hC
        go_simp
      simp only [Act.put, List.setIfInBounds_toArray, List.set_cons_zero, List.set_cons_succ]
      go_big_quiet_on
      go_big_quiet_want
      refine quiet_val (v := .bool true) (fun w' hC => ?_) ?_
      · obtain ⟨⟨e0, e1, e2, e3, e4, e5, e6, e7, e8⟩, e9, e10⟩ := hC
        go_simp
      simp only [Act.put, List.setIfInBounds_toArray, List.set_cons_zero, List.set_cons_succ]
      go_big_quiet_on
      go_big_quiet_want
      refine quiet_val (v := .slice (some ⟨g1, o1, none⟩) n4 c4) (fun w' hC => ?_) ?_
      · obtain ⟨⟨e0, e1, e2, e3, e4, e5, e6, e7, e8⟩, e9, e10⟩ := hC
        go_simp
      simp only [Act.put, List.setIfInBounds_toArray, List.set_cons_zero, List.set_cons_succ]
      go_big_quiet_on
      go_big_quiet_want
      refine quiet_val (v := .pointer (some ⟨gP, 0, none⟩)) (fun w' hC => ?_) ?_
      · obtain ⟨⟨e0, e1, e2, e3, e4, e5, e6, e7, e8⟩, e9, e10⟩ := hC
        go_simp
      simp only [Act.put, List.setIfInBounds_toArray, List.set_cons_zero, List.set_cons_succ]
      go_big_quiet_on
      go_big_quiet_want
      refine quiet_val (v := .int .i64 (i : Int)) (fun w' hC => ?_) ?_
      · obtain ⟨⟨e0, e1, e2, e3, e4, e5, e6, e7, e8⟩, e9, e10⟩ := hC
        go_simp
      simp only [Act.put, List.setIfInBounds_toArray, List.set_cons_zero, List.set_cons_succ]
      go_big_quiet_on
      go_big_quiet_want
      refine quiet_val (v := .pointer (some ⟨g1, o1 + i * 4, none⟩)) (fun w' hC => ?_) ?_
      · obtain ⟨⟨e0, e1, e2, e3, e4, e5, e6, e7, e8⟩, e9, e10⟩ := hC
        go_simp
      simp only [Act.put, List.setIfInBounds_toArray, List.set_cons_zero, List.set_cons_succ]
      go_big_quiet_on
      go_big_quiet_want
      refine quiet_val (v := .agg #[.int .i64 y0, .string y1, .string y2, .int .i64 y3]) (fun w' hC => ?_) ?_
      · obtain ⟨⟨e0, e1, e2, e3, e4, e5, e6, e7, e8⟩, e9, e10⟩ := hC
        go_simp
      simp only [Act.put, List.setIfInBounds_toArray, List.set_cons_zero, List.set_cons_succ]
      go_big_quiet_on
      go_big_quiet_want
      refine quiet_val (v := .pointer (some ⟨gP, 1, none⟩)) (fun w' hC => ?_) ?_
      · obtain ⟨⟨e0, e1, e2, e3, e4, e5, e6, e7, e8⟩, e9, e10⟩ := hC
        go_simp
      simp only [Act.put, List.setIfInBounds_toArray, List.set_cons_zero, List.set_cons_succ]
      go_big_quiet_on
      go_big_quiet_want
      refine quiet_val (v := .string V2) (fun w' hC => ?_) ?_
      · obtain ⟨⟨e0, e1, e2, e3, e4, e5, e6, e7, e8⟩, e9, e10⟩ := hC
        go_simp
      simp only [Act.put, List.setIfInBounds_toArray, List.set_cons_zero, List.set_cons_succ]
      go_big_quiet_on
      go_big_quiet_want
      refine quiet_val (v := .agg #[.int .i64 F1, .string F2, .slice ao5 n5 cap5]) (fun w' hC => ?_) ?_
      · obtain ⟨⟨e0, e1, e2, e3, e4, e5, e6, e7, e8⟩, e9, e10⟩ := hC
        go_simp
      simp only [Act.put, List.setIfInBounds_toArray, List.set_cons_zero, List.set_cons_succ]
      go_big_quiet_on
      go_big_quiet_want
      refine quiet_call (f := 20) (args := #[.agg #[.int .i64 y0, .string y1, .string y2, .int .i64 y3], .string V2, .agg #[.int .i64 F1, .string F2, .slice ao5 n5 cap5]]) (v := .bool false) (fun w' => ?_) (fun w' hC => (fits_any y0 y1 y2 y3 V2 F1 F2 ao5 n5 cap5 F.2.2 w' hC.1.2.2.2.2.2.2.2.2).mono (fun e w2 h2 => ⟨by rw [h2.1, HFT.out], CX.later h2.2 hC⟩)) ?_
      · go_simp
      simp only [Act.put, List.setIfInBounds_toArray, List.set_cons_zero, List.set_cons_succ]
      go_big_quiet_on
      go_big_quiet_want
      refine quiet_val (v := .bool true) (fun w' hC => ?_) ?_
      · obtain ⟨⟨e0, e1, e2, e3, e4, e5, e6, e7, e8⟩, e9, e10⟩ := hC
        go_simp
      simp only [Act.put, List.setIfInBounds_toArray, List.set_cons_zero, List.set_cons_succ]
      go_big_quiet_on
      go_big_quiet_want
      refine quiet_val (v := .bool true) (fun w' hC => ?_) ?_
      · obtain ⟨⟨e0, e1, e2, e3, e4, e5, e6, e7, e8⟩, e9, e10⟩ := hC
        go_simp
      simp only [Act.put, List.setIfInBounds_toArray, List.set_cons_zero, List.set_cons_succ]
      go_big_quiet_on
      go_big_quiet_want
      refine quiet_val (v := .bool true) (fun w' hC => ?_) ?_
      · obtain ⟨⟨e0, e1, e2, e3, e4, e5, e6, e7, e8⟩, e9, e10⟩ := hC
        go_simp
      simp only [Act.put, List.setIfInBounds_toArray, List.set_cons_zero, List.set_cons_succ]
      go_big_quiet_on
      refine wpQuiet_nil ?_
      intro w' hC
      have HBY : Hid (Below w5.heap.size w5 w') := hC.1.1
      clear hC
      go_wp2
      go_ret
      exact ⟨rfl, HB5.out.trans (HBY.out.mono HB5.out.size)⟩
    · rw [show (N == 9) = false from by simp [h9]]
      clear h9 h0
      go_wp2
      go_ret
      exact ⟨rfl, HX3.out.below⟩
end Go.Proofs.YtfbocionnjliladDoor.wishProves
