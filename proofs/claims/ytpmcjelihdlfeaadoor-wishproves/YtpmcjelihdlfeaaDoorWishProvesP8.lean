/- Contracts and facts on the way to WishProves, joined into one text: WishProves, TopoOf, StCube, StRule, NetOf, WishProvesRow. -/
import Derived.Test.YtpmcjelihdlfeaaDoorWishProvesP2
import Derived.Test.YtpmcjelihdlfeaaDoorWishProvesP7
import Derived.Test.YtpmcjelihdlfeaaDoorWishProvesP3
import Derived.Test.YtpmcjelihdlfeaaDoorWishProvesP1
import Derived.Test.YtpmcjelihdlfeaaDoorWishProvesP5
import Derived.Deep.QuietTactic
import Derived.BigQuiet
import Derived.Deep.CutRange
import Derived.Deep.CutBlock
import Derived.Test.YtpmcjelihdlfeaaDoorRows
import Derived.Lib.SmallJoins
import Derived.Laws.StructEq
import Derived.Maps.OwnOps
import Derived.ProofKit
import Derived.OpenShut
import Derived.ChangeOld
import Derived.Below
import Derived.ChangeSame
import Derived.ChangeVars
import Derived.JoinedOf
import Derived.RowKit
import Derived.RowKitTokens
import Derived.LaidLaws
import Derived.LaidHandle
import Derived.Stop.Joined
/- The walk of WishProves: it answers true, whatever net, wishes, name and header it is called with. -/
namespace Go.Proofs.YtpmcjelihdlfeaaDoor.wishProves
open Go.RowKit
set_option linter.unusedSimpArgs false
set_option linter.unusedVariables false

theorem al (X : World) (o : Obj) : ∃ Y, X.alloc o = Y ∧ Below X.heap.size X Y ∧ Y.heap.size = X.heap.size + 1 := ⟨_, rfl, (Below.refl _ _).alloc (Nat.le_refl _) _, by simp⟩
theorem ts_nil (W : World) (t : TypeId) : TS (W.alloc (.cells #[.slice none 0 0] t)) (.slice (some ⟨W.heap.size, 0, none⟩) 1 1) [[]] := by
  refine .inr ⟨W.heap.size, 0, 1, rfl, Nat.le_refl _, by unfold maxLen; omega, ?_⟩
  intro i hi
  match i, hi with
  | 0, _ => exact ⟨none, 0, 0, by simp, .inl ⟨none, 0, rfl, rfl⟩⟩
/-- A fate in its box, a wish at an address: a class of worlds. -/
def CV (w : World) (gF : Nat) (F1 : Int) (F2 : ByteArray) (c : Value) (l : List ((Int × Int) × Int)) (g o : Nat) (y0 : Int) (y1 y2 : ByteArray) (y3 : Int) (w' : World) : Prop :=
  Below w.heap.size w w' ∧ w'.cell? ⟨gF, 0, none⟩ = some (.int .i64 F1) ∧ w'.cell? ⟨gF, 1, none⟩ = some (.string F2) ∧ w'.cell? ⟨gF, 2, none⟩ = some c ∧
    w'.cell? ⟨g, o, none⟩ = some (.int .i64 y0) ∧ w'.cell? ⟨g, o + 1, none⟩ = some (.string y1) ∧ w'.cell? ⟨g, o + 2, none⟩ = some (.string y2) ∧ w'.cell? ⟨g, o + 3, none⟩ = some (.int .i64 y3) ∧ GS hopE w' c l
theorem CV.later {w W W' : World} {gF : Nat} {F1 : Int} {F2 : ByteArray} {c : Value} {l : List ((Int × Int) × Int)} {g o : Nat} {y0 : Int} {y1 y2 : ByteArray} {y3 : Int} (hb : Below W.heap.size W W') (h : CV w gF F1 F2 c l g o y0 y1 y2 y3 W) : CV w gF F1 F2 c l g o y0 y1 y2 y3 W' := by
  obtain ⟨h0, h1, h2, h3, h4, h5, h6, h7, h8⟩ := h
  exact ⟨h0.trans (hb.mono h0.size), cell_later hb h1, cell_later hb h2, cell_later hb h3, cell_later hb h4, cell_later hb h5, cell_later hb h6, cell_later hb h7, h8.later hb⟩
/-- With a proof in its box. -/
def CX (w : World) (gP : Nat) (i : Int) (V2 : ByteArray) (gF : Nat) (F1 : Int) (F2 : ByteArray) (c : Value) (l : List ((Int × Int) × Int)) (g o : Nat) (y0 : Int) (y1 y2 : ByteArray) (y3 : Int) (w' : World) : Prop :=
  CV w gF F1 F2 c l g o y0 y1 y2 y3 w' ∧ w'.cell? ⟨gP, 0, none⟩ = some (.int .i64 i) ∧ w'.cell? ⟨gP, 1, none⟩ = some (.string V2)
theorem CX.later {w W W' : World} {gP : Nat} {i : Int} {V2 : ByteArray} {gF : Nat} {F1 : Int} {F2 : ByteArray} {c : Value} {l : List ((Int × Int) × Int)} {g o : Nat} {y0 : Int} {y1 y2 : ByteArray} {y3 : Int} (hb : Below W.heap.size W W') (h : CX w gP i V2 gF F1 F2 c l g o y0 y1 y2 y3 W) : CX w gP i V2 gF F1 F2 c l g o y0 y1 y2 y3 W' :=
  ⟨CV.later hb h.1, cell_later hb h.2.1, cell_later hb h.2.2⟩
/-- The box of the net. -/
structure NB (w W : World) (S : Int) (v1 v2 v3 : Value) : Prop where
  below : Below w.heap.size w W
  n : NeBox W w.heap.size S v1 v2 v3
theorem NB.later {w W W' : World} {S : Int} {v1 v2 v3 : Value} (k : NB w W S v1 v2 v3) (hb : Below W.heap.size W W') : NB w W' S v1 v2 v3 := ⟨k.below.trans (hb.mono k.below.size), k.n.later hb⟩

set_option maxHeartbeats 16000000 in
set_option maxRecDepth 100000 in
theorem walk (S : Int) (ao : Option Addr) (n cap : Nat) (ao2 : Option Addr) (n2 cap2 : Nat) (ao3 : Option Addr) (n3 cap3 : Nat) (Ls : List ((Int × Int) × (Int × Int))) (Hs : List (ByteArray × (Int × Int))) (Ts : List (List Ru)) (a4 : Option Addr) (n4 c4 : Nat) (l : List Wi) (m : ByteArray) (h : Int) (w : World)
    (hL : GS lnkE w (.slice ao n cap) Ls) (hH : GS hstE w (.slice ao2 n2 cap2) Hs) (hT : TS w (.slice ao3 n3 cap3) Ts) (hl : GS wisE w (.slice a4 n4 c4) l) (hg : HasErr w) :
    Calls Tryd.prog 5 #[.agg #[.int .i64 S, .slice ao n cap, .slice ao2 n2 cap2, .slice ao3 n3 cap3], .slice a4 n4 c4, .string m, .int .i64 h] w fun e w' => e = .returned (.bool true) ∧ Below w.heap.size w w' := by
  have HLW : Hid (∀ W, Below w.heap.size w W → GS lnkE W (.slice ao n cap) Ls) := fun W hb => hL.later hb
  have HHW : Hid (∀ W, Below w.heap.size w W → GS hstE W (.slice ao2 n2 cap2) Hs) := fun W hb => hH.later hb
  have HTW : Hid (∀ W, Below w.heap.size w W → TS W (.slice ao3 n3 cap3) Ts) := fun W hb => hT.later hb
  have HlW : Hid (∀ W, Below w.heap.size w W → GS wisE W (.slice a4 n4 c4) l) := fun W hb => hl.later hb
  have HGW : Hid (∀ W, Below w.heap.size w W → HasErr W) := fun W hb => hg.later hb
  have hn4 : n4 ≤ maxLen := by
    obtain ⟨_, _, _, e5, _, hm, _, _⟩ := hl.form
    cases e5
    exact hm
  unfold maxLen at hn4
  obtain ⟨w0, hw0, c0, t0⟩ := al w (Obj.cells #[.int .i64 S, .slice ao n cap, .slice ao2 n2 cap2, .slice ao3 n3 cap3] 28)
  have hX0 : NB w w0 S (.slice ao n cap) (.slice ao2 n2 cap2) (.slice ao3 n3 cap3) := ⟨c0, by rw [← hw0]; exact nebox_new w S _ _ _ 28⟩
  have HW0 : Hid (w.alloc (Obj.cells #[.int .i64 S, .slice ao n cap, .slice ao2 n2 cap2, .slice ao3 n3 cap3] 28) = w0) := hw0
  obtain ⟨E1, h1, b1, s1⟩ := al w0 (Obj.cells #[.string ⟨#[97]⟩, .int .i64 1, .int .i64 2] 57)
  have r1 := hst_row w0 ⟨#[97]⟩ 1 2 57
  rw [h1] at r1
  obtain ⟨E2, h2, b2, s2⟩ := al E1 (Obj.cells #[.slice none 0 0] 42)
  have r2 := ts_nil E1 42
  rw [h2, s1] at r2
  rw [s1] at s2
  obtain ⟨E3, h3, b3, s3⟩ := al E2 (Obj.cells #[.int .i64 1, .slice none 0 0, .slice (some ⟨w0.heap.size, 0, none⟩) 1 1, .slice (some ⟨w0.heap.size + 1, 0, none⟩) 1 1] 28)
  have k3 := nebox_new E2 1 (.slice none 0 0) (.slice (some ⟨w0.heap.size, 0, none⟩) 1 1) (.slice (some ⟨w0.heap.size + 1, 0, none⟩) 1 1) 28
  rw [h3, s2] at k3
  rw [s2] at s3
  obtain ⟨E4, h4, b4, s4⟩ := al E3 (Obj.cells #[.int .i64 1, .string ⟨#[97]⟩, .string ⟨#[97]⟩, .int .i64 0] 67)
  have r4 := wis_row E3 1 ⟨#[97]⟩ ⟨#[97]⟩ 0 67
  rw [h4, s3] at r4
  have HN3 : Hid (NeBox E3 (w0.heap.size + 1 + 1) 1 (.slice none 0 0) (.slice (some ⟨w0.heap.size, 0, none⟩) 1 1) (.slice (some ⟨w0.heap.size + 1, 0, none⟩) 1 1)) := k3
  have HT4 : Hid (TS E4 (.slice (some ⟨w0.heap.size + 1, 0, none⟩) 1 1) [[]]) := (r2.later b3).later b4
  have HH4 : Hid (GS hstE E4 (.slice (some ⟨w0.heap.size, 0, none⟩) 1 1) [(⟨#[97]⟩, (1, 2))]) := ((r1.later b2).later b3).later b4
  have Hl4 : Hid (GS wisE E4 (.slice (some ⟨w0.heap.size + 1 + 1 + 1, 0, none⟩) 1 1) [⟨1, ⟨#[97]⟩, ⟨#[97]⟩, 0⟩]) := r4
  have HX4 : Hid (NB w E4 S (.slice ao n cap) (.slice ao2 n2 cap2) (.slice ao3 n3 cap3)) := (((hX0.later b1).later b2).later b3).later b4
  have H1 : Hid (w0.alloc (Obj.cells #[.string ⟨#[97]⟩, .int .i64 1, .int .i64 2] 57) = E1) := h1
  have H2 : Hid (E1.alloc (Obj.cells #[.slice none 0 0] 42) = E2) := h2
  have H3 : Hid (E2.alloc (Obj.cells #[.int .i64 1, .slice none 0 0, .slice (some ⟨w0.heap.size, 0, none⟩) 1 1, .slice (some ⟨w0.heap.size + 1, 0, none⟩) 1 1] 28) = E3) := h3
  have H4 : Hid (E3.alloc (Obj.cells #[.int .i64 1, .string ⟨#[97]⟩, .string ⟨#[97]⟩, .int .i64 0] 67) = E4) := h4
  have H3S : Hid (E3.heap.size = w0.heap.size + 1 + 1 + 1) := s3
  clear hL hH hT hl hg hX0 hw0 h1 h2 h3 h4 b1 b2 b3 b4 s1 s2 s3 s4 r1 r2 r4 k3 c0 t0
  go_enter Tryd.func5, Tryd.ntmps5
  go_upto_region 1 with fail
  rw [HW0.out]
  clear HW0
  go_upto_region 2 with fail
  rw [H1.out, H2.out, H3.out]
  clear H1 H2 H3
  obtain ⟨a0, a1, a2, a3⟩ := HN3.out
  go_wp2_with fail
  rw [H4.out, H3S.out]
  clear H4 H3S
  refine (holds_any 1 none 0 0 _ 1 1 _ 1 1 _ 1 1 [] [(⟨#[97]⟩, (1, 2))] [[]] [⟨1, ⟨#[97]⟩, ⟨#[97]⟩, 0⟩] _ (GS.nil _) HH4.out HT4.out Hl4.out).mono ?_
  rintro e wS ⟨rfl, hbS⟩
  obtain ⟨u1, u2, u3⟩ := wish_one
  have u2' : (wiV 1 [] [(⟨#[97]⟩, (1, 2))] [[]] [⟨1, ⟨#[97]⟩, ⟨#[97]⟩, 0⟩]).2.1 = ⟨#[97]⟩ := by
    have : ∀ b : ByteArray, b.data = #[97] → b = ⟨#[97]⟩ := fun b hb => by cases b; simp at hb; rw [hb]
    exact this _ u2
  rw [u1, no_ne (by decide), u2', u3]
  generalize (wiV 1 [] [(⟨#[97]⟩, (1, 2))] [[]] [⟨1, ⟨#[97]⟩, ⟨#[97]⟩, 0⟩]).1 = P1
  obtain ⟨wT, hwT, bT, sT⟩ := al wS (Obj.cells #[.int .i64 P1, .string ⟨#[97]⟩, .int .i64 0] 63)
  have hpT := prbox_new wS w P1 ⟨#[97]⟩ 0
  rw [hwT] at hpT
  obtain ⟨gT, hgT⟩ : ∃ q, q = wS.heap.size := ⟨_, rfl⟩
  rw [← hgT] at hpT
  have HXT : Hid (NB w wT S (.slice ao n cap) (.slice ao2 n2 cap2) (.slice ao3 n3 cap3)) := (HX4.out.later hbS).later bT
  have HPT : Hid (PrBox w wT gT P1 ⟨#[97]⟩ 0) := hpT
  have HWT : Hid (wS.alloc (Obj.cells #[.int .i64 P1, .string ⟨#[97]⟩, .int .i64 0] 63) = wT) := hwT
  have HGT : Hid (wS.heap.size = gT) := hgT.symm
  clear hwT bT sT hpT hgT hbS u1 u2 u2' u3 a0 a1 a2 a3 HN3 HT4 HH4 Hl4 HX4
  go_upto_region 3 with fail
  rw [HWT.out, HGT.out]
  clear HWT HGT
  go_wp2_with fail
  refine (same_some 9 9 _ (HGW.out _ HXT.out.below)).mono ?_
  rintro e wU ⟨rfl, hbU⟩
  rw [show ((9 : Int) == 9) = true from rfl]
  have HXU : Hid (NB w wU S (.slice ao n cap) (.slice ao2 n2 cap2) (.slice ao3 n3 cap3)) := HXT.out.later hbU
  obtain ⟨p0, p1, p2, _⟩ := HPT.out.later hbU
  clear hbU HXT HPT
  go_upto_region 6 with fail
  clear p0 p1 p2
  obtain ⟨_, b0, b1, b2, b3⟩ := HXU.out
  go_wp2_with fail
  refine (holds_any S ao n cap ao2 n2 cap2 ao3 n3 cap3 a4 n4 c4 Ls Hs Ts l _ (HLW.out _ HXU.out.below) (HHW.out _ HXU.out.below) (HTW.out _ HXU.out.below) (HlW.out _ HXU.out.below)).mono ?_
  rintro e w1 ⟨rfl, hb1⟩
  obtain ⟨N, hN⟩ : ∃ q, q = wiN S Ls Hs Ts l := ⟨_, rfl⟩
  have HN : Hid (wiN S Ls Hs Ts l = N) := hN.symm
  obtain ⟨V1, hV1⟩ : ∃ q, q = (wiV S Ls Hs Ts l).1 := ⟨_, rfl⟩
  obtain ⟨V2, hV2⟩ : ∃ q, q = (wiV S Ls Hs Ts l).2.1 := ⟨_, rfl⟩
  obtain ⟨V3, hV3⟩ : ∃ q, q = (wiV S Ls Hs Ts l).2.2 := ⟨_, rfl⟩
  have HVV : Hid ((wiV S Ls Hs Ts l).1 = V1 ∧ (wiV S Ls Hs Ts l).2.1 = V2 ∧ (wiV S Ls Hs Ts l).2.2 = V3) := ⟨hV1.symm, hV2.symm, hV3.symm⟩
  rw [← hN, ← hV1, ← hV2, ← hV3]
  obtain ⟨w2, hw2, d2, t2⟩ := al w1 (Obj.cells #[.int .i64 V1, .string V2, .int .i64 V3] 63)
  have hp2 := prbox_new w1 w V1 V2 V3
  rw [hw2] at hp2
  obtain ⟨gP, hgP⟩ : ∃ q, q = w1.heap.size := ⟨_, rfl⟩
  rw [← hgP] at hp2
  have HX2 : Hid (NB w w2 S (.slice ao n cap) (.slice ao2 n2 cap2) (.slice ao3 n3 cap3)) := (HXU.out.later hb1).later d2
  have HP2 : Hid (PrBox w w2 gP V1 V2 V3) := hp2
  have HW2 : Hid (w1.alloc (Obj.cells #[.int .i64 V1, .string V2, .int .i64 V3] 63) = w2) := hw2
  have HGP : Hid (w1.heap.size = gP) := hgP.symm
  clear hN hV1 hV2 hV3 hb1 hw2 d2 t2 hp2 hgP HXU b0 b1 b2 b3
  go_upto_region 7 with fail
  rw [HW2.out, HGP.out]
  clear HW2 HGP
  by_cases h0 : N = 0
  · have HN0 : Hid (wiN S Ls Hs Ts l = 0) := HN.out.trans h0
    subst h0
    rw [no_ok rfl]
    obtain ⟨_, b0, b1, b2, b3⟩ := HX2.out
    go_wp2_with fail
    refine (send_any S ao n cap ao2 n2 cap2 ao3 n3 cap3 Ls Hs Ts m h _ (HLW.out _ HX2.out.below) (HHW.out _ HX2.out.below) (HTW.out _ HX2.out.below)).mono ?_
    rintro e w3 ⟨ao5, n5, cap5, rfl, hown, hb3⟩
    obtain ⟨F, hF⟩ : ∃ F, F = seV S Ls Hs Ts m h := ⟨_, rfl⟩
    obtain ⟨K, hK⟩ : ∃ K, K = seN S Ls Hs Ts m h := ⟨_, rfl⟩
    have HFI : Hid (K = 0 → ∀ i : Nat, i < l.length → fiB (l.getD i zeW) m F = true) := fun hk => by
      rw [hF]
      exact wish_all HN0.out (hK.symm.trans hk)
    rw [← hF] at hown
    rw [← hF, ← hK]
    have hG3 : GS hopE w3 (.slice ao5 n5 cap5) F.2.2 := own_GS (E := hopE) hown
    obtain ⟨F1, hF1⟩ : ∃ q, q = F.1 := ⟨_, rfl⟩
    obtain ⟨F2, hF2⟩ : ∃ q, q = F.2.1 := ⟨_, rfl⟩
    have HFV : Hid (F = (F1, F2, F.2.2)) := by
      show _ = _
      rw [hF1, hF2]
    rw [← hF1, ← hF2]
    obtain ⟨w4, hw4, d4, t4⟩ := al w3 (Obj.cells #[.int .i64 F1, .string F2, .slice ao5 n5 cap5] 40)
    have hf4 := fabox_new w3 F1 F2 (.slice ao5 n5 cap5) 40
    rw [hw4] at hf4
    obtain ⟨gF, hgF⟩ : ∃ q, q = w3.heap.size := ⟨_, rfl⟩
    rw [← hgF] at hf4
    have HX4 : Hid (NB w w4 S (.slice ao n cap) (.slice ao2 n2 cap2) (.slice ao3 n3 cap3)) := (HX2.out.later hb3).later d4
    have HF4 : Hid (FaBox w4 gF F1 F2 (.slice ao5 n5 cap5)) := hf4
    have HG4 : Hid (GS hopE w4 (.slice ao5 n5 cap5) F.2.2) := hG3.later d4
    have HW4 : Hid (w3.alloc (Obj.cells #[.int .i64 F1, .string F2, .slice ao5 n5 cap5] 40) = w4) := hw4
    have HGF : Hid (w3.heap.size = gF) := hgF.symm
    clear hF hK hown hG3 hF1 hF2 hw4 d4 t4 hf4 hgF hb3 b0 b1 b2 b3 HX2 HN HVV HN0 HP2
    go_upto_region 14 with fail
    rw [HW4.out, HGF.out]
    clear HW4 HGF
    by_cases hk : K = 0
    · have HFA : Hid (∀ i : Nat, i < l.length → fiB (l.getD i zeW) m F = true) := HFI.out hk
      subst hk
      rw [no_ok rfl]
      clear HFI
      go_wp2
      go_loopw [19] (fun i wr => ∃ j : Nat, j ≤ n4 ∧ i = .int .i64 j ∧ Below w4.heap.size w4 wr) (fun i _ => n4 - (intOf i).toNat)
      case atStart => exact ⟨0, by omega, rfl, Below.refl _ _⟩
      case round =>
        obtain ⟨j, hj, rfl, hB⟩ := hrel
        have HB : Hid (Below w4.heap.size w4 wr) := hB
        have HBw : Hid (Below w.heap.size w wr) := HX4.out.below.trans (hB.mono HX4.out.below.size)
        by_cases hlt : j < n4
        · obtain ⟨_, _, _, e5, hln, _, _, hGa⟩ := (HlW.out _ HBw.out).form
          cases e5
          obtain ⟨g1, o1, hao, hc, _⟩ := hGa (by omega)
          subst hao
          obtain ⟨y0, y1, y2, y3, hkl, hLk, q0, q1, q2, q3⟩ := wis_at hc hln hlt
          obtain ⟨z0, z1, z2⟩ := HF4.out.later hB
          have HCV : Hid (CV wr gF F1 F2 (.slice ao5 n5 cap5) F.2.2 g1 (o1 + j * 4) y0 y1 y2 y3 wr) := ⟨Below.refl _ _, z0, z1, z2, q0, q1, q2, q3, HG4.out.later hB⟩
          have HFT : Hid (fiB ⟨y0, y1, y2, y3⟩ m (F1, F2, F.2.2) = true) := by
            show _ = _
            have := HFA.out j hkl
            rw [getW hkl, hLk] at this
            rw [← HFV.out]
            exact this
          have kb0 : (0 : Int) ≤ (j : Int) := by omega
          have kb1 : (j : Int) < (n4 : Int) := by omega
          clear hB hc hln hGa hLk q0 q1 q2 q3 z0 z1 z2
          go_upto_region 17 with fail
          refine wp_region_quiet (C := CV wr gF F1 F2 (.slice ao5 n5 cap5) F.2.2 g1 (o1 + j * 4) y0 y1 y2 y3) (by kernel_rfl) (by kernel_rfl) (CV.later (W := wr) (Below.drew (Below.refl _ _)) HCV.out) ?_
          simp only [List.toList_toArray]
          go_big_quiet_want
          refine quiet_val (v := .slice (some ⟨g1, o1, none⟩) n4 c4) (fun w' hC => ?_) ?_
          · obtain ⟨e0, e1, e2, e3, e4, e5, e6, e7, e8⟩ := hC
            go_simp
          simp only [Act.put, List.setIfInBounds_toArray, List.set_cons_zero, List.set_cons_succ]
          go_big_quiet_on
          go_big_quiet_want
          refine quiet_val (v := .int .i64 (j : Int)) (fun w' hC => ?_) ?_
          · obtain ⟨e0, e1, e2, e3, e4, e5, e6, e7, e8⟩ := hC
            go_simp
          simp only [Act.put, List.setIfInBounds_toArray, List.set_cons_zero, List.set_cons_succ]
          go_big_quiet_on
          go_big_quiet_want
          refine quiet_val (v := .pointer (some ⟨g1, o1 + j * 4, none⟩)) (fun w' hC => ?_) ?_
          · obtain ⟨e0, e1, e2, e3, e4, e5, e6, e7, e8⟩ := hC
            go_simp
          simp only [Act.put, List.setIfInBounds_toArray, List.set_cons_zero, List.set_cons_succ]
          go_big_quiet_on
          go_big_quiet_want
          refine quiet_val (v := .agg #[.int .i64 y0, .string y1, .string y2, .int .i64 y3]) (fun w' hC => ?_) ?_
          · obtain ⟨e0, e1, e2, e3, e4, e5, e6, e7, e8⟩ := hC
            go_simp
          simp only [Act.put, List.setIfInBounds_toArray, List.set_cons_zero, List.set_cons_succ]
          go_big_quiet_on
          go_big_quiet_want
          refine quiet_val (v := .string m) (fun w' hC => ?_) ?_
          · obtain ⟨e0, e1, e2, e3, e4, e5, e6, e7, e8⟩ := hC
            go_simp
          simp only [Act.put, List.setIfInBounds_toArray, List.set_cons_zero, List.set_cons_succ]
          go_big_quiet_on
          go_big_quiet_want
          refine quiet_val (v := .agg #[.int .i64 F1, .string F2, .slice ao5 n5 cap5]) (fun w' hC => ?_) ?_
          · obtain ⟨e0, e1, e2, e3, e4, e5, e6, e7, e8⟩ := hC
            go_simp
          simp only [Act.put, List.setIfInBounds_toArray, List.set_cons_zero, List.set_cons_succ]
          go_big_quiet_on
          go_big_quiet_want
          refine quiet_call (f := 22) (args := #[.agg #[.int .i64 y0, .string y1, .string y2, .int .i64 y3], .string m, .agg #[.int .i64 F1, .string F2, .slice ao5 n5 cap5]]) (v := .bool true) (fun w' => ?_) (fun w' hC => (fits_any y0 y1 y2 y3 m F1 F2 ao5 n5 cap5 F.2.2 w' hC.2.2.2.2.2.2.2.2).mono (fun e w2 h2 => ⟨by rw [h2.1, HFT.out], CV.later h2.2 hC⟩)) ?_
          · go_simp
          simp only [Act.put, List.setIfInBounds_toArray, List.set_cons_zero, List.set_cons_succ]
          go_big_quiet_on
          go_big_quiet_want
          refine quiet_val (v := .bool false) (fun w' hC => ?_) ?_
          · obtain ⟨e0, e1, e2, e3, e4, e5, e6, e7, e8⟩ := hC
            go_simp
          simp only [Act.put, List.setIfInBounds_toArray, List.set_cons_zero, List.set_cons_succ]
          go_big_quiet_on
          refine wpQuiet_nil ?_
          intro w' hC
          have HBY : Hid (Below wr.heap.size wr w') := hC.1
          clear hC
          go_wp2
          go_roundw
          case rel => exact ⟨j + 1, by omega, by go_num, HB.out.trans (HBY.out.mono HB.out.size)⟩
          case measure => simp [intOf]; omega
        · have kb1 : ¬ (j : Int) < (n4 : Int) := by omega
          clear hB
          go_wp2
          go_ret
          exact ⟨rfl, HBw.out⟩
    · rw [no_ne hk]
      clear hk HFI
      go_wp2
      go_loopw [19] (fun i wr => i = .int .i64 0 ∧ Below w4.heap.size w4 wr) (fun _ _ => 0)
      case atStart => exact ⟨rfl, Below.refl _ _⟩
      case round =>
        obtain ⟨rfl, hB⟩ := hrel
        have HBw : Hid (Below w.heap.size w wr) := HX4.out.below.trans (hB.mono HX4.out.below.size)
        clear hB
        by_cases hz : (0 : Int) < (n4 : Int)
        · go_wp2
          go_ret
          exact ⟨rfl, HBw.out⟩
        · go_wp2
          go_ret
          exact ⟨rfl, HBw.out⟩
  · rw [no_ne h0]
    go_wp2_with fail
    refine (same_some N 9 _ (HGW.out _ HX2.out.below)).mono ?_
    rintro e w3 ⟨rfl, hb3⟩
    have HX3 : Hid (NB w w3 S (.slice ao n cap) (.slice ao2 n2 cap2) (.slice ao3 n3 cap3)) := HX2.out.later hb3
    have HP3 : Hid (PrBox w w3 gP V1 V2 V3) := HP2.out.later hb3
    clear hb3 HX2 HP2
    by_cases h9 : N = 9
    · have HN9 : Hid (wiN S Ls Hs Ts l = 9) := HN.out.trans h9
      subst h9
      rw [show ((9 : Int) == 9) = true from rfl]
      obtain ⟨i, hi, i1, i2, i3⟩ := wish_shown HN9.out
      obtain ⟨v1, v2, v3⟩ := HVV.out
      rw [v1] at i1
      rw [v2, v3] at i2 i3
      subst i1
      have HS0 : Hid (seN S Ls Hs Ts V2 V3 = 0) := i2
      have HFB : Hid (fiB (l.getD i zeW) V2 (seV S Ls Hs Ts V2 V3) = false) := i3
      have HIL : Hid (i < l.length) := hi
      obtain ⟨_, b0, b1, b2, b3⟩ := HX3.out
      obtain ⟨p0, p1, p2, _⟩ := HP3.out
      clear v1 v2 v3 i2 i3 hi h0 HN HVV HN9
      go_wp2_with fail
      refine (send_any S ao n cap ao2 n2 cap2 ao3 n3 cap3 Ls Hs Ts V2 V3 _ (HLW.out _ HX3.out.below) (HHW.out _ HX3.out.below) (HTW.out _ HX3.out.below)).mono ?_
      rintro e w4 ⟨ao5, n5, cap5, rfl, hown, hb4⟩
      rw [HS0.out, no_ok rfl]
      obtain ⟨F, hF⟩ : ∃ F, F = seV S Ls Hs Ts V2 V3 := ⟨_, rfl⟩
      have HFC : Hid (fiB (l.getD i zeW) V2 F = false) := by
        show _ = _
        rw [hF]
        exact HFB.out
      rw [← hF] at hown
      rw [← hF]
      have hG4 : GS hopE w4 (.slice ao5 n5 cap5) F.2.2 := own_GS (E := hopE) hown
      obtain ⟨F1, hF1⟩ : ∃ q, q = F.1 := ⟨_, rfl⟩
      obtain ⟨F2, hF2⟩ : ∃ q, q = F.2.1 := ⟨_, rfl⟩
      have HFV : Hid (F = (F1, F2, F.2.2)) := by
        show _ = _
        rw [hF1, hF2]
      rw [← hF1, ← hF2]
      obtain ⟨w5, hw5, d5, t5⟩ := al w4 (Obj.cells #[.int .i64 F1, .string F2, .slice ao5 n5 cap5] 40)
      have hf5 := fabox_new w4 F1 F2 (.slice ao5 n5 cap5) 40
      rw [hw5] at hf5
      obtain ⟨gF, hgF⟩ : ∃ q, q = w4.heap.size := ⟨_, rfl⟩
      rw [← hgF] at hf5
      have hX5 : NB w w5 S (.slice ao n cap) (.slice ao2 n2 cap2) (.slice ao3 n3 cap3) := (HX3.out.later hb4).later d5
      have hP5 := (HP3.out.later hb4).later d5
      have hG5 := hG4.later d5
      have HW5 : Hid (w4.alloc (Obj.cells #[.int .i64 F1, .string F2, .slice ao5 n5 cap5] 40) = w5) := hw5
      have HGF : Hid (w4.heap.size = gF) := hgF.symm
      have HB5 : Hid (Below w.heap.size w w5) := hX5.below
      obtain ⟨_, _, _, e5, hln, _, _, hGa⟩ := (HlW.out _ HB5.out).form
      cases e5
      have hi4 : i < n4 := by rw [← hln]; exact HIL.out
      obtain ⟨g1, o1, hao, hc, _⟩ := hGa (by omega)
      subst hao
      obtain ⟨y0, y1, y2, y3, hkl, hLk, q0, q1, q2, q3⟩ := wis_at hc hln hi4
      obtain ⟨z0, z1, z2⟩ := hf5
      have HCX : Hid (CX w5 gP (i : Int) V2 gF F1 F2 (.slice ao5 n5 cap5) F.2.2 g1 (o1 + i * 4) y0 y1 y2 y3 w5) := ⟨⟨Below.refl _ _, z0, z1, z2, q0, q1, q2, q3, hG5⟩, hP5.c0, hP5.c1⟩
      have HFT : Hid (fiB ⟨y0, y1, y2, y3⟩ V2 (F1, F2, F.2.2) = false) := by
        show _ = _
        have := HFC.out
        rw [getW hkl, hLk] at this
        rw [← HFV.out]
        exact this
      have kb0 : (0 : Int) ≤ (i : Int) := by omega
      have kb1 : (i : Int) < (n4 : Int) := by omega
      clear hF hown hG4 hF1 hF2 hw5 d5 t5 hgF hX5 hP5 hG5 hln hGa hc hLk q0 q1 q2 q3 z0 z1 z2 hb4 b0 b1 b2 b3 p0 p1 p2 HX3 HP3 HFC HFB HS0
      go_upto_region 12 with fail
      rw [HW5.out, HGF.out]
      clear HW5 HGF
      refine wp_region_quiet (C := CX w5 gP (i : Int) V2 gF F1 F2 (.slice ao5 n5 cap5) F.2.2 g1 (o1 + i * 4) y0 y1 y2 y3) (by kernel_rfl) (by kernel_rfl) (CX.later (W := w5) (Below.drew (Below.refl _ _)) HCX.out) ?_
      simp only [List.toList_toArray]
      go_big_quiet_want
      refine quiet_val (v := .nilIface) (fun w' hC => ?_) ?_
      · obtain ⟨⟨e0, e1, e2, e3, e4, e5, e6, e7, e8⟩, e9, e10⟩ := hC
        go_simp
      simp only [Act.put, List.setIfInBounds_toArray, List.set_cons_zero, List.set_cons_succ]
      go_big_quiet_on
      go_big_quiet_want
      refine quiet_val (v := .bool true) (fun w' hC => ?_) ?_
      · obtain ⟨⟨e0, e1, e2, e3, e4, e5, e6, e7, e8⟩, e9, e10⟩ := hC
        go_simp
      simp only [Act.put, List.setIfInBounds_toArray, List.set_cons_zero, List.set_cons_succ]
      go_big_quiet_on
      go_big_quiet_want
      refine quiet_val (v := .bool true) (fun w' hC => ?_) ?_
      · obtain ⟨⟨e0, e1, e2, e3, e4, e5, e6, e7, e8⟩, e9, e10⟩ := hC
        go_simp
      simp only [Act.put, List.setIfInBounds_toArray, List.set_cons_zero, List.set_cons_succ]
      go_big_quiet_on
      go_big_quiet_want
      refine quiet_val (v := .pointer (some ⟨gP, 0, none⟩)) (fun w' hC => ?_) ?_
      · obtain ⟨⟨e0, e1, e2, e3, e4, e5, e6, e7, e8⟩, e9, e10⟩ := hC
        go_simp
      simp only [Act.put, List.setIfInBounds_toArray, List.set_cons_zero, List.set_cons_succ]
      go_big_quiet_on
      go_big_quiet_want
      refine quiet_val (v := .int .i64 (i : Int)) (fun w' hC => ?_) ?_
      · obtain ⟨⟨e0, e1, e2, e3, e4, e5, e6, e7, e8⟩, e9, e10⟩ := hC
        go_simp
      simp only [Act.put, List.setIfInBounds_toArray, List.set_cons_zero, List.set_cons_succ]
      go_big_quiet_on
      go_big_quiet_want
      refine quiet_val (v := .bool true) (fun w' hC => ?_) ?_
      · obtain ⟨⟨e0, e1, e2, e3, e4, e5, e6, e7, e8⟩, e9, e10⟩ := hC
        go_simp
      simp only [Act.put, List.setIfInBounds_toArray, List.set_cons_zero, List.set_cons_succ]
      go_big_quiet_on
      go_big_quiet_want
      refine quiet_val (v := .bool true) (fun w' hC => ?_) ?_
      · obtain ⟨⟨e0, e1, e2, e3, e4, e5, e6, e7, e8⟩, e9, e10⟩ := hC
        go_simp
      simp only [Act.put, List.setIfInBounds_toArray, List.set_cons_zero, List.set_cons_succ]
      go_big_quiet_on
      go_big_quiet_want
      refine quiet_val (v := .bool true) (fun w' hC => ?_) ?_
      · obtain ⟨⟨e0, e1, e2, e3, e4, e5, e6, e7, e8⟩, e9, e10⟩ := hC
        go_simp
      simp only [Act.put, List.setIfInBounds_toArray, List.set_cons_zero, List.set_cons_succ]
      go_big_quiet_on
      go_big_quiet_want
      refine quiet_val (v := .pointer (some ⟨gP, 0, none⟩)) (fun w' hC => ?_) ?_
      · obtain ⟨⟨e0, e1, e2, e3, e4, e5, e6, e7, e8⟩, e9, e10⟩ := hC
        go_simp
      simp only [Act.put, List.setIfInBounds_toArray, List.set_cons_zero, List.set_cons_succ]
      go_big_quiet_on
      go_big_quiet_want
      refine quiet_val (v := .int .i64 (i : Int)) (fun w' hC => ?_) ?_
      · obtain ⟨⟨e0, e1, e2, e3, e4, e5, e6, e7, e8⟩, e9, e10⟩ := hC
        go_simp
      simp only [Act.put, List.setIfInBounds_toArray, List.set_cons_zero, List.set_cons_succ]
      go_big_quiet_on
      go_big_quiet_want
      refine quiet_val (v := .slice (some ⟨g1, o1, none⟩) n4 c4) (fun w' hC => ?_) ?_
      · obtain ⟨⟨e0, e1, e2, e3, e4, e5, e6, e7, e8⟩, e9, e10⟩ := hC
        go_simp
      simp only [Act.put, List.setIfInBounds_toArray, List.set_cons_zero, List.set_cons_succ]
      go_big_quiet_on
      go_big_quiet_want
      refine quiet_val (v := .int .i64 (n4 : Int)) (fun w' hC => ?_) ?_
      · obtain ⟨⟨e0, e1, e2, e3, e4, e5, e6, e7, e8⟩, e9, e10⟩ := hC
        go_simp
      simp only [Act.put, List.setIfInBounds_toArray, List.set_cons_zero, List.set_cons_succ]
      go_big_quiet_on
      go_big_quiet_want
      refine quiet_val (v := .bool true) (fun w' hC => ?_) ?_
      · obtain ⟨⟨e0, e1, e2, e3, e4, e5, e6, e7, e8⟩, e9, e10⟩ := hC
        go_simp
      simp only [Act.put, List.setIfInBounds_toArray, List.set_cons_zero, List.set_cons_succ]
      go_big_quiet_on
      go_big_quiet_want
      refine quiet_val (v := .bool true) (fun w' hC => ?_) ?_
      · obtain ⟨⟨e0, e1, e2, e3, e4, e5, e6, e7, e8⟩, e9, e10⟩ := hC
        go_simp
      simp only [Act.put, List.setIfInBounds_toArray, List.set_cons_zero, List.set_cons_succ]
      go_big_quiet_on
      go_big_quiet_want
      refine quiet_val (v := .bool true) (fun w' hC => ?_) ?_
      · obtain ⟨⟨e0, e1, e2, e3, e4, e5, e6, e7, e8⟩, e9, e10⟩ := hC
        go_simp
      simp only [Act.put, List.setIfInBounds_toArray, List.set_cons_zero, List.set_cons_succ]
      go_big_quiet_on
      go_big_quiet_want
      refine quiet_val (v := .slice (some ⟨g1, o1, none⟩) n4 c4) (fun w' hC => ?_) ?_
      · obtain ⟨⟨e0, e1, e2, e3, e4, e5, e6, e7, e8⟩, e9, e10⟩ := hC
        go_simp
      simp only [Act.put, List.setIfInBounds_toArray, List.set_cons_zero, List.set_cons_succ]
      go_big_quiet_on
      go_big_quiet_want
      refine quiet_val (v := .pointer (some ⟨gP, 0, none⟩)) (fun w' hC => ?_) ?_
      · obtain ⟨⟨e0, e1, e2, e3, e4, e5, e6, e7, e8⟩, e9, e10⟩ := hC
        go_simp
      simp only [Act.put, List.setIfInBounds_toArray, List.set_cons_zero, List.set_cons_succ]
      go_big_quiet_on
      go_big_quiet_want
      refine quiet_val (v := .int .i64 (i : Int)) (fun w' hC => ?_) ?_
      · obtain ⟨⟨e0, e1, e2, e3, e4, e5, e6, e7, e8⟩, e9, e10⟩ := hC
        go_simp
      simp only [Act.put, List.setIfInBounds_toArray, List.set_cons_zero, List.set_cons_succ]
      go_big_quiet_on
      go_big_quiet_want
      refine quiet_val (v := .pointer (some ⟨g1, o1 + i * 4, none⟩)) (fun w' hC => ?_) ?_
      · obtain ⟨⟨e0, e1, e2, e3, e4, e5, e6, e7, e8⟩, e9, e10⟩ := hC
        go_simp
      simp only [Act.put, List.setIfInBounds_toArray, List.set_cons_zero, List.set_cons_succ]
      go_big_quiet_on
      go_big_quiet_want
      refine quiet_val (v := .agg #[.int .i64 y0, .string y1, .string y2, .int .i64 y3]) (fun w' hC => ?_) ?_
      · obtain ⟨⟨e0, e1, e2, e3, e4, e5, e6, e7, e8⟩, e9, e10⟩ := hC
        go_simp
      simp only [Act.put, List.setIfInBounds_toArray, List.set_cons_zero, List.set_cons_succ]
      go_big_quiet_on
      go_big_quiet_want
      refine quiet_val (v := .pointer (some ⟨gP, 1, none⟩)) (fun w' hC => ?_) ?_
      · obtain ⟨⟨e0, e1, e2, e3, e4, e5, e6, e7, e8⟩, e9, e10⟩ := hC
        go_simp
      simp only [Act.put, List.setIfInBounds_toArray, List.set_cons_zero, List.set_cons_succ]
      go_big_quiet_on
      go_big_quiet_want
      refine quiet_val (v := .string V2) (fun w' hC => ?_) ?_
      · obtain ⟨⟨e0, e1, e2, e3, e4, e5, e6, e7, e8⟩, e9, e10⟩ := hC
        go_simp
      simp only [Act.put, List.setIfInBounds_toArray, List.set_cons_zero, List.set_cons_succ]
      go_big_quiet_on
      go_big_quiet_want
      refine quiet_val (v := .agg #[.int .i64 F1, .string F2, .slice ao5 n5 cap5]) (fun w' hC => ?_) ?_
      · obtain ⟨⟨e0, e1, e2, e3, e4, e5, e6, e7, e8⟩, e9, e10⟩ := hC
        go_simp
      simp only [Act.put, List.setIfInBounds_toArray, List.set_cons_zero, List.set_cons_succ]
      go_big_quiet_on
      go_big_quiet_want
      refine quiet_call (f := 22) (args := #[.agg #[.int .i64 y0, .string y1, .string y2, .int .i64 y3], .string V2, .agg #[.int .i64 F1, .string F2, .slice ao5 n5 cap5]]) (v := .bool false) (fun w' => ?_) (fun w' hC => (fits_any y0 y1 y2 y3 V2 F1 F2 ao5 n5 cap5 F.2.2 w' hC.1.2.2.2.2.2.2.2.2).mono (fun e w2 h2 => ⟨by rw [h2.1, HFT.out], CX.later h2.2 hC⟩)) ?_
      · go_simp
      simp only [Act.put, List.setIfInBounds_toArray, List.set_cons_zero, List.set_cons_succ]
      go_big_quiet_on
      go_big_quiet_want
      refine quiet_val (v := .bool true) (fun w' hC => ?_) ?_
      · obtain ⟨⟨e0, e1, e2, e3, e4, e5, e6, e7, e8⟩, e9, e10⟩ := hC
        go_simp
      simp only [Act.put, List.setIfInBounds_toArray, List.set_cons_zero, List.set_cons_succ]
      go_big_quiet_on
      go_big_quiet_want
      refine quiet_val (v := .bool true) (fun w' hC => ?_) ?_
      · obtain ⟨⟨e0, e1, e2, e3, e4, e5, e6, e7, e8⟩, e9, e10⟩ := hC
        go_simp
      simp only [Act.put, List.setIfInBounds_toArray, List.set_cons_zero, List.set_cons_succ]
      go_big_quiet_on
      go_big_quiet_want
      refine quiet_val (v := .bool true) (fun w' hC => ?_) ?_
      · obtain ⟨⟨e0, e1, e2, e3, e4, e5, e6, e7, e8⟩, e9, e10⟩ := hC
        go_simp
      simp only [Act.put, List.setIfInBounds_toArray, List.set_cons_zero, List.set_cons_succ]
      go_big_quiet_on
      refine wpQuiet_nil ?_
      intro w' hC
      have HBY : Hid (Below w5.heap.size w5 w') := hC.1.1
      clear hC
      go_wp2
      go_ret
      exact ⟨rfl, HB5.out.trans (HBY.out.mono HB5.out.size)⟩
    · rw [show (N == 9) = false from by simp [h9]]
      clear h9 h0
      go_wp2
      go_ret
      exact ⟨rfl, HX3.out.below⟩
end Go.Proofs.YtpmcjelihdlfeaaDoor.wishProves
/- A topology that came in: its number of switches, its links, its hosts. -/
namespace Go.Proofs.YtpmcjelihdlfeaaDoor
open Go.ChangeShapes Go.WideShapes Go.ChangeAt Go.RowKit Go.Joins
set_option linter.unusedSimpArgs false
set_option linter.unusedVariables false
set_option maxRecDepth 100000

section
variable {P : Program} {α : Type} {E : Enc α}
set_option maxRecDepth 100000 in
/-- A cell that reads as a slice lies where it says. -/
theorem gs_open {H : Type} {enc : TypeId × Value → H} {W : World} {fuel : Nat} {cs : List Value} {x : DataW H × List MemPlace} (ts te : TypeId) (hu : P.underlying ts = some (.slice te)) (hC : P.cellsOf te = E.n) (x0 : α)
    (hel : ∀ (n : Nat) (cs : List Value) (x : DataW H × List MemPlace), DataW.trod enc P W 0 (fun _ => true) true n te cs = some x → ∃ y, cs = E.c y)
    (hf2 : DataW.trod enc P W 0 (fun _ => true) true fuel ts cs = some x) : ∃ ao n cap L, cs = [.slice ao n cap] ∧ GS E W (.slice ao n cap) L := by
  obtain ⟨d, p⟩ := x
  rcases Go.Deep.open_slice hu hf2 with ⟨hc, hx⟩ | ⟨a, len0, cap, m, k, D, Pl, hc, _, hl, hm, hmm, hx, hall⟩
  · exact ⟨_, _, _, [], hc, .inl ⟨none, 0, rfl, rfl⟩⟩
  · simp only [if_true] at hmm
    subst hmm
    rcases Nat.eq_zero_or_pos len0 with h0 | h0
    · subst h0
      exact ⟨_, _, _, [], hc, .inl ⟨_, _, rfl, rfl⟩⟩
    · have each : ∀ i, i < m → ∃ y : α, ∀ j, j < E.n → W.cell? (a.add (i * E.n + j)) = (E.c y)[j]? := by
        intro i hi
        obtain ⟨cs, h1, h2⟩ := hall i hi
        rw [hC] at h1
        obtain ⟨_, hlen, hcell⟩ := World.cells?_some h1
        obtain ⟨y, rfl⟩ := hel _ _ _ h2
        refine ⟨y, fun j hj => ?_⟩
        have := hcell j (by omega)
        rw [Go.Deep.add_add] at this
        exact this
      have iR : Inhabited α := ⟨x0⟩
      obtain ⟨R, hR⟩ := Go.Deep.choose_lt each
      obtain ⟨sb, so, spot⟩ := a
      have hspot : spot = none := by
        have h1 := hR 0 (by omega) 0 E.pos
        have h2 : (E.c (R 0))[0]?.isSome = true := by
          rw [List.getElem?_eq_getElem (by rw [E.len]; exact E.pos)]
          rfl
        obtain ⟨u, hu2⟩ := Option.isSome_iff_exists.1 h2
        rw [hu2] at h1
        simpa [Addr.add] using World.cell?_spot h1
      subst hspot
      have hadd : ∀ j, (⟨sb, so, none⟩ : Addr).add j = ⟨sb, so + j, none⟩ := by
        intro j
        simp only [Addr.add]
        first
          | rfl
          | (split
             · next h0 => rw [h0]; rfl
             · rfl)
      refine ⟨_, _, _, (List.range len0).map R, hc, .inr ⟨sb, so, _, by simp, by simpa using hl, hm, fun i hi j u hu2 => ?_⟩⟩
      have hi2 : i < len0 := by simpa using hi
      have e : ((List.range len0).map R)[i] = R i := by simp
      rw [e] at hu2
      have hj : j < E.n := by
        have := (List.getElem?_eq_some_iff.1 hu2).1
        rw [E.len] at this
        exact this
      have hc := hR i (by omega) j hj
      rw [hadd, hu2, ← Nat.add_assoc] at hc
      exact hc
end
set_option maxRecDepth 100000 in
/-- One that came in. -/
theorem topo_open {H : Type} {enc : TypeId × Value → H} {W : World} {n : Nat} {cs : List Value} {x : DataW H × List MemPlace}
    (h : DataW.trod enc Tryd.prog W 0 (fun _ => true) true n 25 cs = some x) : ∃ S ao n cap ao2 n2 cap2 Ls Hs, cs = [.int .i64 S, .slice ao n cap, .slice ao2 n2 cap2] ∧ GS lnkE W (.slice ao n cap) Ls ∧ GS hstE W (.slice ao2 n2 cap2) Hs := by
  obtain ⟨xs, k, _, _, hl, hlen, hf⟩ := DataW.trod_struct Tryd.underlying25 h
  have hC : Tryd.prog.cellsOf 25 = 3 := by kernel_rfl
  have hT0 : Tryd.prog.cellsOf 3 = 1 := by kernel_rfl
  have hT1 : Tryd.prog.cellsOf 22 = 1 := by kernel_rfl
  have hT2 : Tryd.prog.cellsOf 23 = 1 := by kernel_rfl
  rw [hC] at hl
  match cs, hl with
  | [c0, c1, c2], _ =>
    match xs, hlen with
    | [z0, z1, z2], _ =>
      have g0 := hf 0 _ rfl
      have g1 := hf 1 _ rfl
      have g2 := hf 2 _ rfl
      simp [hT0, hT1, hT2] at g0 g1 g2
      obtain ⟨v0, e0, _, _⟩ := DataW.trod_int Tryd.underlying3 g0
      obtain ⟨ao, n, cap, Ls, e1, hL⟩ := gs_open (E := lnkE) 22 91 Tryd.underlying22 (by kernel_rfl) ((0, 0), (0, 0)) (fun _ _ _ h => lnk_open h) g1
      obtain ⟨ao2, n2, cap2, Hs, e2, hH⟩ := gs_open (E := hstE) 23 57 Tryd.underlying23 (by kernel_rfl) (ByteArray.empty, (0, 0)) (fun _ _ _ h => hst_open h) g2
      simp at e0 e1 e2
      exact ⟨v0, ao, n, cap, ao2, n2, cap2, Ls, Hs, by simp [e0, e1, e2], hL, hH⟩
theorem topo_of {H : Type} {enc : TypeId × Value → H} {W : World} {base : Nat} {v : Value} {d : DataW H} {p : List MemPlace}
    (hv : Value.okWide Tryd.prog W .any base 25 v) (h : DataW.Trod enc Tryd.prog W 0 (fun _ => true) true 25 v d p) : ∃ S ao n cap ao2 n2 cap2 Ls Hs, v = .agg #[.int .i64 S, .slice ao n cap, .slice ao2 n2 cap2] ∧ GS lnkE W (.slice ao n cap) Ls ∧ GS hstE W (.slice ao2 n2 cap2) Hs := by
  obtain ⟨cs, rfl, hsz⟩ := okWide_struct Tryd.underlying25 hv
  obtain ⟨n, hn⟩ := h
  obtain ⟨S, ao, n, cap, ao2, n2, cap2, Ls, Hs, e, h1, h2⟩ := topo_open hn
  refine ⟨S, ao, n, cap, ao2, n2, cap2, Ls, Hs, ?_, h1, h2⟩
  simp only [Value.cells] at e
  rw [← Array.toArray_toList (xs := cs), e]
end Go.Proofs.YtpmcjelihdlfeaaDoor
/- The struct api.Cube: its cells, slices of them, == of two, such that came in. Written by mk/struct.py. -/
namespace Go.Proofs.YtpmcjelihdlfeaaDoor
open Go.ChangeShapes Go.WideShapes Go.ChangeAt Go.RowKit Go.Joins
set_option linter.unusedSimpArgs false
set_option linter.unusedVariables false
set_option maxRecDepth 100000

def cuE : Enc (Int × Int) where
  c := fun x => [.int .i64 x.1, .int .i64 x.2]
  n := 2
  len := fun _ => rfl
  pos := by decide
  one := by
    intro x u hu
    simp at hu
    rcases hu with rfl | rfl <;> rfl
theorem cu_cells {w : World} {g o : Nat} {x0 : Int} {x1 : Int} (h : VAt w g o (cuE.c (x0, x1))) : w.cell? ⟨g, o, none⟩ = some (.int .i64 x0) ∧ w.cell? ⟨g, o + 1, none⟩ = some (.int .i64 x1) :=
  ⟨h 0 _ rfl, h 1 _ rfl⟩
theorem cu_at {w : World} {g o : Nat} {L : List (Int × Int)} (h : GAt cuE w g o L) {n k : Nat} (hn : L.length = n) (hk : k < n) :
    ∃ (x0 : Int) (x1 : Int) (hl : k < L.length), L[k] = (x0, x1) ∧ w.cell? ⟨g, o + k * 2, none⟩ = some (.int .i64 x0) ∧ w.cell? ⟨g, o + k * 2 + 1, none⟩ = some (.int .i64 x1) :=
  have hl : k < L.length := by omega
  ⟨_, _, hl, rfl, cu_cells (h k hl)⟩
theorem cu_new (w : World) (x0 : Int) (x1 : Int) (t : TypeId) : VAt (w.alloc (Obj.cells #[.int .i64 x0, .int .i64 x1] t)) w.heap.size 0 (cuE.c (x0, x1)) := vat_new w [.int .i64 x0, .int .i64 x1] t
theorem cu_row (w : World) (x0 : Int) (x1 : Int) (t : TypeId) : GS cuE (w.alloc (Obj.cells #[.int .i64 x0, .int .i64 x1] t)) (.slice (some ⟨w.heap.size, 0, none⟩) 1 1) [(x0, x1)] := gs_one (E := cuE) w (x0, x1) t (vs := [.int .i64 x0, .int .i64 x1]) rfl
/-- Are two the same? -/
def cuB (a b : Int × Int) : Bool := (a.1 == b.1) && ((a.2 == b.2))
theorem cuB_iff (a b : Int × Int) : cuB a b = true ↔ a = b := by
  have e : cuB a b = ((a.1 == b.1) && ((a.2 == b.2))) := rfl
  rw [e]
  simp only [Bool.and_eq_true, beq_iff_eq]
  constructor
  · intro h
    obtain ⟨a0, a1⟩ := a; obtain ⟨b0, b1⟩ := b; simp at h ⊢; simp [h]
  · intro h
    subst h
    simp
theorem cu_ways (x0 : Int) (x1 : Int) (y0 : Int) (y1 : Int) :
    ((x0 == y0) = false ∧ cuB (x0, x1) (y0, y1) = false) ∨
    ((x0 == y0) = true ∧ (x1 == y1) = false ∧ cuB (x0, x1) (y0, y1) = false) ∨
    ((x0 == y0) = true ∧ (x1 == y1) = true ∧ cuB (x0, x1) (y0, y1) = true) := by
  have e : cuB (x0, x1) (y0, y1) = ((x0 == y0) && ((x1 == y1))) := rfl
  rw [e]
  cases h0 : (x0 == y0)
  · simp
  · skip
    cases h1 : (x1 == y1)
    · simp
    · skip
      simp
set_option maxRecDepth 100000 in
theorem cu_eq (x0 : Int) (x1 : Int) (y0 : Int) (y1 : Int) (w : World) : (Op.equal 45 (.agg #[.int .i64 x0, .int .i64 x1]) (.agg #[.int .i64 y0, .int .i64 y1])).run Tryd.prog w = .ok (cuB (x0, x1) (y0, y1)) w := by
  unfold Op.equal Op.maxDepth
  rw [run_equalIn_struct w 9999 _ _ _ (by kernel_rfl) (by kernel_rfl)]
  rcases cu_ways x0 x1 y0 y1 with ⟨e0, e⟩ | ⟨e0, e1, e⟩ | ⟨e0, e1, e⟩
  all_goals
    rw [e]
    go_simp
theorem cu_info : (Tryd.prog.info? 45).map (fun i => (i.zero, i.size, i.bytes)) = some (some (.agg #[.int .i64 0, .int .i64 0]), 2, 16) := by kernel_rfl
theorem cu_zero : (Value.agg #[.int .i64 0, .int .i64 0]).cells.size = 2 := by simp [Value.cells]
/-- Cells that read as one. -/
theorem cu_open {H : Type} {enc : TypeId × Value → H} {W : World} {n : Nat} {cs : List Value} {x : DataW H × List MemPlace}
    (h : DataW.trod enc Tryd.prog W 0 (fun _ => true) true n 45 cs = some x) : ∃ y, cs = cuE.c y := by
  obtain ⟨xs, k, _, _, hl, hlen, hf⟩ := DataW.trod_struct Tryd.underlying45 h
  have hC : Tryd.prog.cellsOf 45 = 2 := by kernel_rfl
  have hT0 : Tryd.prog.cellsOf 3 = 1 := by kernel_rfl
  rw [hC] at hl
  match cs, hl with
  | [c0, c1], _ =>
    match xs, hlen with
    | [z0, z1], _ =>
      have g0 := hf 0 _ rfl
      have g1 := hf 1 _ rfl
      simp [hT0] at g0 g1
      obtain ⟨v0, e0, _, _⟩ := DataW.trod_int Tryd.underlying3 g0
      obtain ⟨v1, e1, _, _⟩ := DataW.trod_int Tryd.underlying3 g1
      simp [] at e0 e1
      refine ⟨(v0, v1), ?_⟩
      simp [cuE, e0, e1]
set_option maxRecDepth 100000 in
/-- One that came in. -/
theorem cu_of {H : Type} {enc : TypeId × Value → H} {W : World} {base : Nat} {v : Value} {d : DataW H} {p : List MemPlace}
    (hv : Value.okWide Tryd.prog W .any base 45 v) (h : DataW.Trod enc Tryd.prog W 0 (fun _ => true) true 45 v d p) : ∃ (x0 : Int) (x1 : Int), v = .agg #[.int .i64 x0, .int .i64 x1] := by
  obtain ⟨cs, rfl, hsz⟩ := okWide_struct Tryd.underlying45 hv
  obtain ⟨n, hn⟩ := h
  obtain ⟨y, e⟩ := cu_open hn
  refine ⟨y.1, y.2, ?_⟩
  simp only [Value.cells] at e
  have e2 : cs = #[.int .i64 y.1, .int .i64 y.2] := by
    rw [← Array.toArray_toList (xs := cs), e]
    rfl
  rw [e2]
end Go.Proofs.YtpmcjelihdlfeaaDoor
/- The struct api.Rule: its cells, slices of them, == of two, such that came in. Written by mk/struct.py. -/
namespace Go.Proofs.YtpmcjelihdlfeaaDoor
open Go.ChangeShapes Go.WideShapes Go.ChangeAt Go.RowKit Go.Joins
set_option linter.unusedSimpArgs false
set_option linter.unusedVariables false
set_option maxRecDepth 100000

def rlE : Enc (Ru) where
  c := fun x => [.int .i64 x.p, .int .i64 x.m, .int .i64 x.b, .int .i64 x.o, .int .i64 x.s, .int .i64 x.v]
  n := 6
  len := fun _ => rfl
  pos := by decide
  one := by
    intro x u hu
    simp at hu
    rcases hu with rfl | rfl | rfl | rfl | rfl | rfl <;> rfl
theorem rl_cells {w : World} {g o : Nat} {x0 : Int} {x1 : Int} {x2 : Int} {x3 : Int} {x4 : Int} {x5 : Int} (h : VAt w g o (rlE.c ⟨x0, x1, x2, x3, x4, x5⟩)) : w.cell? ⟨g, o, none⟩ = some (.int .i64 x0) ∧ w.cell? ⟨g, o + 1, none⟩ = some (.int .i64 x1) ∧ w.cell? ⟨g, o + 2, none⟩ = some (.int .i64 x2) ∧ w.cell? ⟨g, o + 3, none⟩ = some (.int .i64 x3) ∧ w.cell? ⟨g, o + 4, none⟩ = some (.int .i64 x4) ∧ w.cell? ⟨g, o + 5, none⟩ = some (.int .i64 x5) :=
  ⟨h 0 _ rfl, h 1 _ rfl, h 2 _ rfl, h 3 _ rfl, h 4 _ rfl, h 5 _ rfl⟩
theorem rl_at {w : World} {g o : Nat} {L : List (Ru)} (h : GAt rlE w g o L) {n k : Nat} (hn : L.length = n) (hk : k < n) :
    ∃ (x0 : Int) (x1 : Int) (x2 : Int) (x3 : Int) (x4 : Int) (x5 : Int) (hl : k < L.length), L[k] = ⟨x0, x1, x2, x3, x4, x5⟩ ∧ w.cell? ⟨g, o + k * 6, none⟩ = some (.int .i64 x0) ∧ w.cell? ⟨g, o + k * 6 + 1, none⟩ = some (.int .i64 x1) ∧ w.cell? ⟨g, o + k * 6 + 2, none⟩ = some (.int .i64 x2) ∧ w.cell? ⟨g, o + k * 6 + 3, none⟩ = some (.int .i64 x3) ∧ w.cell? ⟨g, o + k * 6 + 4, none⟩ = some (.int .i64 x4) ∧ w.cell? ⟨g, o + k * 6 + 5, none⟩ = some (.int .i64 x5) :=
  have hl : k < L.length := by omega
  ⟨_, _, _, _, _, _, hl, rfl, rl_cells (h k hl)⟩
theorem rl_new (w : World) (x0 : Int) (x1 : Int) (x2 : Int) (x3 : Int) (x4 : Int) (x5 : Int) (t : TypeId) : VAt (w.alloc (Obj.cells #[.int .i64 x0, .int .i64 x1, .int .i64 x2, .int .i64 x3, .int .i64 x4, .int .i64 x5] t)) w.heap.size 0 (rlE.c ⟨x0, x1, x2, x3, x4, x5⟩) := vat_new w [.int .i64 x0, .int .i64 x1, .int .i64 x2, .int .i64 x3, .int .i64 x4, .int .i64 x5] t
theorem rl_row (w : World) (x0 : Int) (x1 : Int) (x2 : Int) (x3 : Int) (x4 : Int) (x5 : Int) (t : TypeId) : GS rlE (w.alloc (Obj.cells #[.int .i64 x0, .int .i64 x1, .int .i64 x2, .int .i64 x3, .int .i64 x4, .int .i64 x5] t)) (.slice (some ⟨w.heap.size, 0, none⟩) 1 1) [⟨x0, x1, x2, x3, x4, x5⟩] := gs_one (E := rlE) w ⟨x0, x1, x2, x3, x4, x5⟩ t (vs := [.int .i64 x0, .int .i64 x1, .int .i64 x2, .int .i64 x3, .int .i64 x4, .int .i64 x5]) rfl
/-- Are two the same? -/
def rlB (a b : Ru) : Bool := (a.p == b.p) && ((a.m == b.m) && ((a.b == b.b) && ((a.o == b.o) && ((a.s == b.s) && ((a.v == b.v))))))
theorem rlB_iff (a b : Ru) : rlB a b = true ↔ a = b := by
  have e : rlB a b = ((a.p == b.p) && ((a.m == b.m) && ((a.b == b.b) && ((a.o == b.o) && ((a.s == b.s) && ((a.v == b.v))))))) := rfl
  rw [e]
  simp only [Bool.and_eq_true, beq_iff_eq]
  constructor
  · intro h
    obtain ⟨a0, a1, a2, a3, a4, a5⟩ := a; obtain ⟨b0, b1, b2, b3, b4, b5⟩ := b; simp at h ⊢; simp [h]
  · intro h
    subst h
    simp
theorem rl_ways (x0 : Int) (x1 : Int) (x2 : Int) (x3 : Int) (x4 : Int) (x5 : Int) (y0 : Int) (y1 : Int) (y2 : Int) (y3 : Int) (y4 : Int) (y5 : Int) :
    ((x0 == y0) = false ∧ rlB ⟨x0, x1, x2, x3, x4, x5⟩ ⟨y0, y1, y2, y3, y4, y5⟩ = false) ∨
    ((x0 == y0) = true ∧ (x1 == y1) = false ∧ rlB ⟨x0, x1, x2, x3, x4, x5⟩ ⟨y0, y1, y2, y3, y4, y5⟩ = false) ∨
    ((x0 == y0) = true ∧ (x1 == y1) = true ∧ (x2 == y2) = false ∧ rlB ⟨x0, x1, x2, x3, x4, x5⟩ ⟨y0, y1, y2, y3, y4, y5⟩ = false) ∨
    ((x0 == y0) = true ∧ (x1 == y1) = true ∧ (x2 == y2) = true ∧ (x3 == y3) = false ∧ rlB ⟨x0, x1, x2, x3, x4, x5⟩ ⟨y0, y1, y2, y3, y4, y5⟩ = false) ∨
    ((x0 == y0) = true ∧ (x1 == y1) = true ∧ (x2 == y2) = true ∧ (x3 == y3) = true ∧ (x4 == y4) = false ∧ rlB ⟨x0, x1, x2, x3, x4, x5⟩ ⟨y0, y1, y2, y3, y4, y5⟩ = false) ∨
    ((x0 == y0) = true ∧ (x1 == y1) = true ∧ (x2 == y2) = true ∧ (x3 == y3) = true ∧ (x4 == y4) = true ∧ (x5 == y5) = false ∧ rlB ⟨x0, x1, x2, x3, x4, x5⟩ ⟨y0, y1, y2, y3, y4, y5⟩ = false) ∨
    ((x0 == y0) = true ∧ (x1 == y1) = true ∧ (x2 == y2) = true ∧ (x3 == y3) = true ∧ (x4 == y4) = true ∧ (x5 == y5) = true ∧ rlB ⟨x0, x1, x2, x3, x4, x5⟩ ⟨y0, y1, y2, y3, y4, y5⟩ = true) := by
  have e : rlB ⟨x0, x1, x2, x3, x4, x5⟩ ⟨y0, y1, y2, y3, y4, y5⟩ = ((x0 == y0) && ((x1 == y1) && ((x2 == y2) && ((x3 == y3) && ((x4 == y4) && ((x5 == y5))))))) := rfl
  rw [e]
  cases h0 : (x0 == y0)
  · simp
  · skip
    cases h1 : (x1 == y1)
    · simp
    · skip
      cases h2 : (x2 == y2)
      · simp
      · skip
        cases h3 : (x3 == y3)
        · simp
        · skip
          cases h4 : (x4 == y4)
          · simp
          · skip
            cases h5 : (x5 == y5)
            · simp
            · skip
              simp
set_option maxRecDepth 100000 in
theorem rl_eq (x0 : Int) (x1 : Int) (x2 : Int) (x3 : Int) (x4 : Int) (x5 : Int) (y0 : Int) (y1 : Int) (y2 : Int) (y3 : Int) (y4 : Int) (y5 : Int) (w : World) : (Op.equal 47 (.agg #[.int .i64 x0, .int .i64 x1, .int .i64 x2, .int .i64 x3, .int .i64 x4, .int .i64 x5]) (.agg #[.int .i64 y0, .int .i64 y1, .int .i64 y2, .int .i64 y3, .int .i64 y4, .int .i64 y5])).run Tryd.prog w = .ok (rlB ⟨x0, x1, x2, x3, x4, x5⟩ ⟨y0, y1, y2, y3, y4, y5⟩) w := by
  unfold Op.equal Op.maxDepth
  rw [run_equalIn_struct w 9999 _ _ _ (by kernel_rfl) (by kernel_rfl)]
  rcases rl_ways x0 x1 x2 x3 x4 x5 y0 y1 y2 y3 y4 y5 with ⟨e0, e⟩ | ⟨e0, e1, e⟩ | ⟨e0, e1, e2, e⟩ | ⟨e0, e1, e2, e3, e⟩ | ⟨e0, e1, e2, e3, e4, e⟩ | ⟨e0, e1, e2, e3, e4, e5, e⟩ | ⟨e0, e1, e2, e3, e4, e5, e⟩
  all_goals
    rw [e]
    go_simp
theorem rl_info : (Tryd.prog.info? 47).map (fun i => (i.zero, i.size, i.bytes)) = some (some (.agg #[.int .i64 0, .int .i64 0, .int .i64 0, .int .i64 0, .int .i64 0, .int .i64 0]), 6, 48) := by kernel_rfl
theorem rl_zero : (Value.agg #[.int .i64 0, .int .i64 0, .int .i64 0, .int .i64 0, .int .i64 0, .int .i64 0]).cells.size = 6 := by simp [Value.cells]
/-- Cells that read as one. -/
theorem rl_open {H : Type} {enc : TypeId × Value → H} {W : World} {n : Nat} {cs : List Value} {x : DataW H × List MemPlace}
    (h : DataW.trod enc Tryd.prog W 0 (fun _ => true) true n 47 cs = some x) : ∃ y, cs = rlE.c y := by
  obtain ⟨xs, k, _, _, hl, hlen, hf⟩ := DataW.trod_struct Tryd.underlying47 h
  have hC : Tryd.prog.cellsOf 47 = 6 := by kernel_rfl
  have hT0 : Tryd.prog.cellsOf 3 = 1 := by kernel_rfl
  have hT1 : Tryd.prog.cellsOf 45 = 2 := by kernel_rfl
  rw [hC] at hl
  match cs, hl with
  | [c0, c1, c2, c3, c4, c5], _ =>
    match xs, hlen with
    | [z0, z1, z2, z3, z4], _ =>
      have g0 := hf 0 _ rfl
      have g1 := hf 1 _ rfl
      have g2 := hf 2 _ rfl
      have g3 := hf 3 _ rfl
      have g4 := hf 4 _ rfl
      simp [hT0, hT1] at g0 g1 g2 g3 g4
      obtain ⟨v0, e0, _, _⟩ := DataW.trod_int Tryd.underlying3 g0
      obtain ⟨s1, e1⟩ := cu_open g1
      obtain ⟨v3, e2, _, _⟩ := DataW.trod_int Tryd.underlying3 g2
      obtain ⟨v4, e3, _, _⟩ := DataW.trod_int Tryd.underlying3 g3
      obtain ⟨v5, e4, _, _⟩ := DataW.trod_int Tryd.underlying3 g4
      simp [cuE] at e0 e1 e2 e3 e4
      refine ⟨⟨v0, s1.1, s1.2, v3, v4, v5⟩, ?_⟩
      simp [rlE, e0, e1, e2, e3, e4]
set_option maxRecDepth 100000 in
/-- One that came in. -/
theorem rl_of {H : Type} {enc : TypeId × Value → H} {W : World} {base : Nat} {v : Value} {d : DataW H} {p : List MemPlace}
    (hv : Value.okWide Tryd.prog W .any base 47 v) (h : DataW.Trod enc Tryd.prog W 0 (fun _ => true) true 47 v d p) : ∃ (x0 : Int) (x1 : Int) (x2 : Int) (x3 : Int) (x4 : Int) (x5 : Int), v = .agg #[.int .i64 x0, .int .i64 x1, .int .i64 x2, .int .i64 x3, .int .i64 x4, .int .i64 x5] := by
  obtain ⟨cs, rfl, hsz⟩ := okWide_struct Tryd.underlying47 hv
  obtain ⟨n, hn⟩ := h
  obtain ⟨y, e⟩ := rl_open hn
  refine ⟨y.p, y.m, y.b, y.o, y.s, y.v, ?_⟩
  simp only [Value.cells] at e
  have e2 : cs = #[.int .i64 y.p, .int .i64 y.m, .int .i64 y.b, .int .i64 y.o, .int .i64 y.s, .int .i64 y.v] := by
    rw [← Array.toArray_toList (xs := cs), e]
    rfl
  rw [e2]
/-- A slice of them that came in. -/
theorem rls_of {H : Type} {enc : TypeId × Value → H} {W : World} {base : Nat} {v : Value} {d : DataW H} {p : List MemPlace}
    (hv : Value.okWide Tryd.prog W .any base 42 v) (h : DataW.Trod enc Tryd.prog W 0 (fun _ => true) true 42 v d p) : ∃ L, GS rlE W v L :=
  gs_of (E := rlE) 42 47 Tryd.underlying42 (by kernel_rfl) ⟨0, 0, 0, 0, 0, 0⟩ (fun _ _ _ h => rl_open h) hv h
end Go.Proofs.YtpmcjelihdlfeaaDoor
/- A net that came in: its topology, its tables. -/
namespace Go.Proofs.YtpmcjelihdlfeaaDoor
open Go.ChangeShapes Go.WideShapes Go.ChangeAt Go.RowKit Go.Joins
set_option linter.unusedSimpArgs false
set_option linter.unusedVariables false
set_option maxRecDepth 100000

theorem gs_SR {w : World} {v : Value} {L : List Ru} (h : GS rlE w v L) : SR w v L := by
  rcases h with h | ⟨g, o, cap, h1, h2, h3, h4⟩
  · exact .inl h
  · refine .inr ⟨g, o, cap, h1, h2, h3, fun i hi => ?_⟩
    have hv := h4 i hi
    generalize L[i] = r at hv
    obtain ⟨p, m, b, q, s, x⟩ := r
    obtain ⟨q0, q1, q2, q3, q4, q5⟩ := rl_cells hv
    exact ⟨q0, q1, q2, q3, q4, q5⟩
set_option maxRecDepth 100000 in
theorem table_open {H : Type} {enc : TypeId × Value → H} {W : World} {fuel : Nat} {cs : List Value} {x : DataW H × List MemPlace}
    (h : DataW.trod enc Tryd.prog W 0 (fun _ => true) true fuel 42 cs = some x) : ∃ ao n cap L, cs = [.slice ao n cap] ∧ SR W (.slice ao n cap) L := by
  obtain ⟨ao, n, cap, L, e, hL⟩ := gs_open (E := rlE) 42 47 Tryd.underlying42 (by kernel_rfl) zeR (fun _ _ _ h => rl_open h) h
  exact ⟨ao, n, cap, L, e, gs_SR hL⟩
set_option maxRecDepth 100000 in
theorem tables_open {H : Type} {enc : TypeId × Value → H} {W : World} {fuel : Nat} {cs : List Value} {x : DataW H × List MemPlace}
    (hf2 : DataW.trod enc Tryd.prog W 0 (fun _ => true) true fuel 26 cs = some x) : ∃ ao n cap Ts, cs = [.slice ao n cap] ∧ TS W (.slice ao n cap) Ts := by
  obtain ⟨d, p⟩ := x
  have hC : Tryd.prog.cellsOf 42 = 1 := by kernel_rfl
  rcases Go.Deep.open_slice Tryd.underlying26 hf2 with ⟨hc, hx⟩ | ⟨a, len0, cap, m, k, D, Pl, hc, _, hl, hm, hmm, hx, hall⟩
  · exact ⟨_, _, _, [], hc, .inl ⟨none, 0, rfl, rfl⟩⟩
  · simp only [if_true] at hmm
    subst hmm
    rcases Nat.eq_zero_or_pos len0 with h0 | h0
    · subst h0
      exact ⟨_, _, _, [], hc, .inl ⟨_, _, rfl, rfl⟩⟩
    · have each : ∀ i, i < m → ∃ L : List Ru, ∃ ao n cap, W.cell? (a.add i) = some (.slice ao n cap) ∧ SR W (.slice ao n cap) L := by
        intro i hi
        obtain ⟨cs, h1, h2⟩ := hall i hi
        rw [hC] at h1
        obtain ⟨_, hlen, hcell⟩ := World.cells?_some h1
        obtain ⟨ao, n, cap, L, rfl, hL⟩ := table_open h2
        refine ⟨L, ao, n, cap, ?_, hL⟩
        have := hcell 0 (by simp)
        rw [Go.Deep.add_add] at this
        simpa using this
      obtain ⟨R, hR⟩ := Go.Deep.choose_lt each
      obtain ⟨sb, so, spot⟩ := a
      have hspot : spot = none := by
        obtain ⟨ao, n, cap, h1, _⟩ := hR 0 (by omega)
        simpa [Addr.add] using World.cell?_spot h1
      subst hspot
      have hadd : ∀ j, (⟨sb, so, none⟩ : Addr).add j = ⟨sb, so + j, none⟩ := by
        intro j
        simp only [Addr.add]
        first
          | rfl
          | (split
             · next h0 => rw [h0]; rfl
             · rfl)
      refine ⟨_, _, _, (List.range len0).map R, hc, .inr ⟨sb, so, _, by simp, by simpa using hl, hm, fun i hi => ?_⟩⟩
      have hi2 : i < len0 := by simpa using hi
      have e : ((List.range len0).map R)[i] = R i := by simp
      rw [e]
      obtain ⟨ao, n, cap, h1, h2⟩ := hR i (by omega)
      rw [hadd] at h1
      exact ⟨ao, n, cap, h1, h2⟩
set_option maxRecDepth 100000 in
/-- One that came in. -/
theorem net_open {H : Type} {enc : TypeId × Value → H} {W : World} {n : Nat} {cs : List Value} {x : DataW H × List MemPlace}
    (h : DataW.trod enc Tryd.prog W 0 (fun _ => true) true n 28 cs = some x) : ∃ S ao n cap ao2 n2 cap2 ao3 n3 cap3 Ls Hs Ts, cs = [.int .i64 S, .slice ao n cap, .slice ao2 n2 cap2, .slice ao3 n3 cap3] ∧ GS lnkE W (.slice ao n cap) Ls ∧ GS hstE W (.slice ao2 n2 cap2) Hs ∧ TS W (.slice ao3 n3 cap3) Ts := by
  obtain ⟨xs, k, _, _, hl, hlen, hf⟩ := DataW.trod_struct Tryd.underlying28 h
  have hC : Tryd.prog.cellsOf 28 = 4 := by kernel_rfl
  have hT0 : Tryd.prog.cellsOf 25 = 3 := by kernel_rfl
  have hT1 : Tryd.prog.cellsOf 26 = 1 := by kernel_rfl
  rw [hC] at hl
  match cs, hl with
  | [c0, c1, c2, c3], _ =>
    match xs, hlen with
    | [z0, z1], _ =>
      have g0 := hf 0 _ rfl
      have g1 := hf 1 _ rfl
      simp [hT0, hT1] at g0 g1
      obtain ⟨S, ao, n, cap, ao2, n2, cap2, Ls, Hs, e0, hL, hH⟩ := topo_open g0
      obtain ⟨ao3, n3, cap3, Ts, e1, hT⟩ := tables_open g1
      simp at e0 e1
      exact ⟨S, ao, n, cap, ao2, n2, cap2, ao3, n3, cap3, Ls, Hs, Ts, by simp [e0, e1], hL, hH, hT⟩
theorem net_of {H : Type} {enc : TypeId × Value → H} {W : World} {base : Nat} {v : Value} {d : DataW H} {p : List MemPlace}
    (hv : Value.okWide Tryd.prog W .any base 28 v) (h : DataW.Trod enc Tryd.prog W 0 (fun _ => true) true 28 v d p) : ∃ S ao n cap ao2 n2 cap2 ao3 n3 cap3 Ls Hs Ts, v = .agg #[.int .i64 S, .slice ao n cap, .slice ao2 n2 cap2, .slice ao3 n3 cap3] ∧ GS lnkE W (.slice ao n cap) Ls ∧ GS hstE W (.slice ao2 n2 cap2) Hs ∧ TS W (.slice ao3 n3 cap3) Ts := by
  obtain ⟨cs, rfl, hsz⟩ := okWide_struct Tryd.underlying28 hv
  obtain ⟨n, hn⟩ := h
  obtain ⟨S, ao, n, cap, ao2, n2, cap2, ao3, n3, cap3, Ls, Hs, Ts, e, h1, h2, h3⟩ := net_open hn
  refine ⟨S, ao, n, cap, ao2, n2, cap2, ao3, n3, cap3, Ls, Hs, Ts, ?_, h1, h2, h3⟩
  simp only [Value.cells] at e
  rw [← Array.toArray_toList (xs := cs), e]
end Go.Proofs.YtpmcjelihdlfeaaDoor
/- The row of WishProves: it answers true, whatever net, wishes, name and number it is called with; the variable errorType of package errors is as the program's text lays it. -/
namespace Go.Proofs.YtpmcjelihdlfeaaDoor.wishProves
open Go.ChangeShapes Go.WideShapes Go.ChangeAt Go.RowKit
set_option linter.unusedVariables false
set_option linter.unusedSimpArgs false

theorem own : ownKnob Tryd.prog.godebug = none := by kernel_rfl
theorem laidOut : laidOutB Tryd.prog = true := by kernel_rfl
theorem et : Tryd.prog.globalNamed "errors.errorType" = some 0 := by kernel_rfl
theorem oneRow : ((List.range 211).filter fun t => Tryd.prog.rowNamed t [101, 114, 114, 111, 114]) = [34] := by kernel_rfl
theorem tsize : Tryd.prog.types.size = 211 := by kernel_rfl

theorem handle_of_laid {W : World} (h : laidMetH Tryd.prog Rows.wishProvesRow.laid W) : HasErr W := by
  have h' : laidMet Tryd.prog [] W ∧ handlesMet Tryd.prog Rows.wishProvesRow.laid W := h
  obtain ⟨name, u, ty, e1, e2, e3, e4, e5⟩ := h'.2 _ (List.mem_singleton.2 rfl)
  have en : name = [101, 114, 114, 111, 114] := (Option.some.inj e1).symm
  subst en
  have hu : some u = some 158 := e2.symm.trans (by kernel_rfl)
  obtain rfl := Option.some.inj hu
  have hm : ty ∈ (List.range 211).filter fun t => Tryd.prog.rowNamed t [101, 114, 114, 111, 114] := List.mem_filter.2 ⟨List.mem_range.2 (by rw [← tsize]; exact e3), e4⟩
  rw [oneRow] at hm
  obtain rfl := List.mem_singleton.1 hm
  have hh : typeHandle Tryd.prog 34 = .pointer (some ⟨1, 34, none⟩) := by kernel_rfl
  rw [hh] at e5
  unfold HasErr
  simpa using World.var?_cell et e5 0

set_option maxRecDepth 100000 in
theorem lifted (os : Os) (started : os.Started) (H : Type) (enc : TypeId × Value → H) :
    ReturnsInHanded {} Tryd.checked os 5 .any (fun w args => (Rows.wishProvesSpec.pre enc Tryd.prog Tryd.f5 [] false w args ∧ laidMetH Tryd.prog Rows.wishProvesRow.laid w) ∧ sizedMet enc Tryd.prog Tryd.f5 (OpenSpec.ofChange Rows.wishProvesSpec) false w args)
      (Rows.wishProvesSpec.post enc Tryd.prog Tryd.f5 false true false false) := by
  refine returnsInHanded_of_change_and (C := Tryd.checked) (X := fun w _ => laidMetH Tryd.prog Rows.wishProvesRow.laid w) (fun _ _ _ hh h => h.of_heap hh) own started (by kernel_rfl) Tryd.func5
    (ChangeSpec.witness_at (enc := enc) (C := Tryd.checked) (os := os) (X := fun w _ => laidMetH Tryd.prog Rows.wishProvesRow.laid w) false
      { World.holding Tryd.prog os ⟨#[], #[], []⟩ with heap := (World.holding Tryd.prog os ⟨#[], #[], []⟩).heap.modify 0 fun
          | .cells _ t frozen => .cells #[.iface 158 (.agg #[.pointer (some ⟨1, 34, none⟩)])] t frozen
          | o => o }
      #[.agg #[.int .i64 0, .slice none 0 0, .slice none 0 0, .slice none 0 0], .slice none 0 0, .string ByteArray.empty, .int .i64 0] 8 rfl (by kernel_rfl) (by kernel_rfl) (by kernel_rfl) (by kernel_rfl) (by kernel_rfl) (laidMetH_of_parts (laidMet_nil _ _) (by kernel_rfl))) ?_
  intro W base args ds gs before hval0 hW _ _ hLaid _
  have hval : ∀ (j : Nat) t v, Tryd.f5.params[j]? = some t → args[j]? = some v → Value.okWide Tryd.prog W .any base t v := hval0
  have hW' := hW
  obtain ⟨p, q, hA0, hV0, rfl, hfz, hnd⟩ := hW
  have hA : DataW.TrodAll enc Tryd.prog W 0 (fun _ => true) true Tryd.f5.params.toList args.toList ds p := hA0
  have hV : DataW.TrodVars enc Tryd.prog W (fun _ => true) [] gs q := hV0
  rw [Tryd.params5] at hA hval
  obtain ⟨v0, vs0, d0, ds0, p0, q0, hargs, rfl, rfl, h0, r0⟩ := trodAll_cons hA
  obtain ⟨v1, vs1, d1, ds1, p1, q1, rfl, rfl, rfl, h1, r1⟩ := trodAll_cons r0
  obtain ⟨v2, vs2, d2, ds2, p2, q2, rfl, rfl, rfl, h2, r2⟩ := trodAll_cons r1
  obtain ⟨v3, vs3, d3, ds3, p3, q3, rfl, rfl, rfl, h3, r3⟩ := trodAll_cons r2
  obtain ⟨rfl, rfl, rfl⟩ := trodAll_nil r3
  obtain rfl : args = #[v0, v1, v2, v3] := by cases args; simp_all
  have hg := handle_of_laid hLaid
  obtain ⟨rfl, rfl⟩ : gs = [] ∧ q = [] := by
    cases gs with
    | nil => exact ⟨rfl, hV⟩
    | cons g r => exact absurd hV (by intro h; cases h)
  have k0 := h0
  have lt0 : ∀ x ∈ p0, x.block < W.heap.size := by obtain ⟨m, hm⟩ := k0; exact DataW.trod_lt m _ _ _ hm
  have k1 := h1
  have lt1 : ∀ x ∈ p1, x.block < W.heap.size := by obtain ⟨m, hm⟩ := k1; exact DataW.trod_lt m _ _ _ hm
  have k2 := h2
  have lt2 : ∀ x ∈ p2, x.block < W.heap.size := by obtain ⟨m, hm⟩ := k2; exact DataW.trod_lt m _ _ _ hm
  have k3 := h3
  have lt3 : ∀ x ∈ p3, x.block < W.heap.size := by obtain ⟨m, hm⟩ := k3; exact DataW.trod_lt m _ _ _ hm
  obtain ⟨S, ao, n, cap, ao2, n2, cap2, ao3, n3, cap3, Ls, Hs, Ts, rfl, hL, hH, hT⟩ := net_of (hval 0 28 v0 rfl rfl) h0
  obtain ⟨l, hl⟩ := wiss_of (hval 1 61 v1 rfl rfl) h1
  obtain ⟨a4, n4, c4, rfl⟩ := okWide_slice Tryd.underlying61 (hval 1 61 v1 rfl rfl)
  obtain ⟨m, rfl⟩ := okWide_string Tryd.underlying9 (hval 2 9 v2 rfl rfl)
  obtain ⟨a, rfl⟩ := okWide_int Tryd.underlying3 (hval 3 3 v3 rfl rfl)
  clear hA0 hval0
  refine (walk S ao n cap ao2 n2 cap2 ao3 n3 cap3 Ls Hs Ts a4 n4 c4 l m a W hL hH hT hl hg).mono fun e W' ⟨he, bel⟩ => ?_
  subst he
  exact ⟨_, rfl, _, _, _, [], _, [], hW', trodAll_mk1 (shut_bool Tryd.underlying4 _), (trodAll_cons_mk (Below.trod laidOut (by kernel_rfl) (of_decide_eq_true (by kernel_rfl)) k0 bel lt0) (trodAll_cons_mk (Below.trod laidOut (by kernel_rfl) (of_decide_eq_true (by kernel_rfl)) k1 bel lt1) (trodAll_cons_mk (Below.trod laidOut (by kernel_rfl) (of_decide_eq_true (by kernel_rfl)) k2 bel lt2) (trodAll_cons_mk (Below.trod laidOut (by kernel_rfl) (of_decide_eq_true (by kernel_rfl)) k3 bel lt3) trodAll_mk0)))), rfl, bel.frame _, fun h => by cases h⟩

theorem over : Rows.WishProvesSaid :=
  OpenClaim.holds_of_wide 5 Tryd.f5 rfl rfl rfl rfl rfl rfl rfl ⟨rfl, rfl, rfl, rfl, rfl⟩ rfl rfl rfl rfl rfl (by kernel_rfl) Tryd.func5 (by kernel_rfl)
    (of_decide_eq_true (by kernel_rfl)) (by unfold Func.isWrapper; first | (rw [if_pos (by decide +kernel)]; kernel_rfl) | (rw [if_neg (by decide +kernel)]; exact ⟨rfl, rfl⟩))
    (fun os started H enc _ => lifted os started H enc)
end Go.Proofs.YtpmcjelihdlfeaaDoor.wishProves
