/- Contracts and facts on the way to NetWalks, joined into one text: NetWalks, TopoOf, StCube, StRule, NetOf. -/
import Derived.Test.YtpmcjelihdlfeaaNetWalksP6
import Derived.Test.YtpmcjelihdlfeaaNetWalksP5
import Derived.Test.YtpmcjelihdlfeaaNetWalksP2
import Derived.Test.YtpmcjelihdlfeaaNetWalksP1
import Derived.Test.YtpmcjelihdlfeaaNetWalksP3
import Derived.Test.YtpmcjelihdlfeaaNetWalksP4
import Derived.Deep.QuietTactic
import Derived.BigQuiet
import Derived.BigRegion
import Derived.Deep.RegionWith
import Derived.Deep.RegionHeld3
import Derived.Deep.CutRange
import Derived.Deep.CutBlock
import Derived.Test.YtpmcjelihdlfeaaRows
import Derived.Lib.SmallJoins
import Derived.Laws.StructEq
import Derived.Maps.OwnOps
/- The walk of NetWalks: it answers true, whatever net, spot, header and place it is called with. -/
namespace Go.Proofs.Ytpmcjelihdlfeaa.netWalks
open Go.RowKit
set_option linter.unusedSimpArgs false
set_option linter.unusedVariables false

theorem al (X : World) (o : Obj) : ∃ Y, X.alloc o = Y ∧ Below X.heap.size X Y ∧ Y.heap.size = X.heap.size + 1 := ⟨_, rfl, (Below.refl _ _).alloc (Nat.le_refl _) _, by simp⟩
theorem below_drewN (w : World) (n : Nat) : Below w.heap.size w (w.drewN n) := ⟨rfl, rfl, rfl, Nat.le_refl _, fun _ _ => rfl⟩
theorem sr_one (W : World) (p m b o s v : Int) (t : TypeId) : SR (W.alloc (.cells #[.int .i64 p, .int .i64 m, .int .i64 b, .int .i64 o, .int .i64 s, .int .i64 v] t)) (.slice (some ⟨W.heap.size, 0, none⟩) 1 1) [⟨p, m, b, o, s, v⟩] := by
  refine .inr ⟨W.heap.size, 0, 1, rfl, Nat.le_refl _, by unfold maxLen; omega, ?_⟩
  intro i hi
  match i, hi with
  | 0, _ =>
    have h := vat_new W [.int .i64 p, .int .i64 m, .int .i64 b, .int .i64 o, .int .i64 s, .int .i64 v] t
    exact ⟨h 0 _ rfl, h 1 _ rfl, h 2 _ rfl, h 3 _ rfl, h 4 _ rfl, h 5 _ rfl⟩
theorem ts_one {W : World} {a1 : Option Addr} {n1 c1 : Nat} {L1 : List Ru} (t : TypeId) (h1 : SR W (.slice a1 n1 c1) L1) :
    TS (W.alloc (.cells #[.slice a1 n1 c1] t)) (.slice (some ⟨W.heap.size, 0, none⟩) 1 1) [L1] := by
  have hb : Below W.heap.size W (W.alloc (.cells #[.slice a1 n1 c1] t)) := (Below.refl _ _).alloc (Nat.le_refl _) _
  refine .inr ⟨W.heap.size, 0, 1, rfl, Nat.le_refl _, by unfold maxLen; omega, ?_⟩
  intro i hi
  match i, hi with
  | 0, _ => exact ⟨a1, n1, c1, by simp, h1.later hb⟩
/-- What holds all along: the net and the spot in their boxes, a fate in its box, its hops. -/
structure WK (w W : World) (S : Int) (v1 v2 v3 : Value) (x y : Int) (gF : Nat) (V1 : Int) (V2 : ByteArray) (g5 o5 n5 c5 : Nat) (L : List ((Int × Int) × Int)) : Prop where
  o : OBox w W S v1 v2 v3 x y
  f0 : W.cell? ⟨gF, 0, none⟩ = some (.int .i64 V1)
  f1 : W.cell? ⟨gF, 1, none⟩ = some (.string V2)
  f2 : W.cell? ⟨gF, 2, none⟩ = some (.slice (some ⟨g5, o5, none⟩) n5 c5)
  l : GAt hopE W g5 o5 L
theorem WK.later {w W W' : World} {S : Int} {v1 v2 v3 : Value} {x y : Int} {gF : Nat} {V1 : Int} {V2 : ByteArray} {g5 o5 n5 c5 : Nat} {L : List ((Int × Int) × Int)} (k : WK w W S v1 v2 v3 x y gF V1 V2 g5 o5 n5 c5 L) (hb : Below W.heap.size W W') : WK w W' S v1 v2 v3 x y gF V1 V2 g5 o5 n5 c5 L :=
  ⟨k.o.later hb, cell_later hb k.f0, cell_later hb k.f1, cell_later hb k.f2, k.l.later hb⟩
theorem new2 (W : World) (a b : Value) (t : TypeId) : (W.alloc (Obj.cells #[a, b] t)).cell? ⟨W.heap.size, 0, none⟩ = some a ∧ (W.alloc (Obj.cells #[a, b] t)).cell? ⟨W.heap.size, 1, none⟩ = some b := ⟨by simp, by simp⟩
theorem new3 (W : World) (a b c : Value) (t : TypeId) : (W.alloc (Obj.cells #[a, b, c] t)).cell? ⟨W.heap.size, 0, none⟩ = some a ∧ (W.alloc (Obj.cells #[a, b, c] t)).cell? ⟨W.heap.size, 1, none⟩ = some b ∧ (W.alloc (Obj.cells #[a, b, c] t)).cell? ⟨W.heap.size, 2, none⟩ = some c := ⟨by simp, by simp, by simp⟩
theorem byte_empty {s : ByteArray} (h : s.toList.isEmpty = true) : s = ByteArray.empty := by
  have h1 : s.toList = s.data.toList := by rw [Lib.toList_data]
  rw [h1, List.isEmpty_iff] at h
  apply ByteArray.ext
  show s.data = #[]
  rw [← Array.toList_inj]
  exact h
theorem at_get {L : List ((Int × Int) × Int)} {k : Nat} (hk : k < L.length) : atH L k = L[k] := by simp [atH, List.getD, hk]

set_option maxHeartbeats 16000000 in
set_option maxRecDepth 100000 in
theorem walk (S : Int) (ao : Option Addr) (n cap : Nat) (ao2 : Option Addr) (n2 cap2 : Nat) (ao3 : Option Addr) (n3 cap3 : Nat) (Ls : List ((Int × Int) × (Int × Int))) (Hs : List (ByteArray × (Int × Int))) (Ts : List (List Ru)) (x y h c : Int) (w : World)
    (hL : GS lnkE w (.slice ao n cap) Ls) (hH : GS hstE w (.slice ao2 n2 cap2) Hs) (hT : TS w (.slice ao3 n3 cap3) Ts) :
    Calls Try.prog 3 #[.agg #[.int .i64 S, .slice ao n cap, .slice ao2 n2 cap2, .slice ao3 n3 cap3], .agg #[.int .i64 x, .int .i64 y], .int .i64 h, .int .i64 c] w fun e w' => e = .returned (.bool true) ∧ Below w.heap.size w w' := by
  have HLW : Hid (∀ W, Below w.heap.size w W → GS lnkE W (.slice ao n cap) Ls) := fun W hb => hL.later hb
  have HHW : Hid (∀ W, Below w.heap.size w W → GS hstE W (.slice ao2 n2 cap2) Hs) := fun W hb => hH.later hb
  have HTW : Hid (∀ W, Below w.heap.size w W → TS W (.slice ao3 n3 cap3) Ts) := fun W hb => hT.later hb
  have hX := obox_new w S (.slice ao n cap) (.slice ao2 n2 cap2) (.slice ao3 n3 cap3) x y
  obtain ⟨w0, hw0⟩ : ∃ W, (w.alloc (Obj.cells #[.int .i64 S, .slice ao n cap, .slice ao2 n2 cap2, .slice ao3 n3 cap3] 28)).alloc (Obj.cells #[.int .i64 x, .int .i64 y] 30) = W := ⟨_, rfl⟩
  rw [hw0] at hX
  have HX : Hid (OBox w w0 S (.slice ao n cap) (.slice ao2 n2 cap2) (.slice ao3 n3 cap3) x y) := hX
  have HW0 : Hid ((w.alloc (Obj.cells #[.int .i64 S, .slice ao n cap, .slice ao2 n2 cap2, .slice ao3 n3 cap3] 28)).alloc (Obj.cells #[.int .i64 x, .int .i64 y] 30) = w0) := hw0
  obtain ⟨E1, h1, b1, s1⟩ := al w0 (Obj.cells #[.string ⟨#[97]⟩, .int .i64 1, .int .i64 2] 32)
  have r1 := hst_row w0 ⟨#[97]⟩ 1 2 32
  rw [h1] at r1
  obtain ⟨E2, h2, b2, s2⟩ := al E1 (Obj.cells #[.int .i64 1, .int .i64 0, .int .i64 0, .int .i64 2, .int .i64 0, .int .i64 0] 36)
  have r2 := sr_one E1 1 0 0 2 0 0 36
  rw [h2, s1] at r2
  rw [s1] at s2
  obtain ⟨E3, h3, b3, s3⟩ := al E2 (Obj.cells #[.slice (some ⟨w0.heap.size + 1, 0, none⟩) 1 1] 38)
  have r3 := ts_one 38 r2
  rw [h3, s2] at r3
  rw [s2] at s3
  obtain ⟨E4, h4, b4, s4⟩ := al E3 (Obj.cells #[.int .i64 1, .slice none 0 0, .slice (some ⟨w0.heap.size, 0, none⟩) 1 1, .slice (some ⟨w0.heap.size + 1 + 1, 0, none⟩) 1 1] 28)
  have n4 := nebox_new E3 1 (.slice none 0 0) (.slice (some ⟨w0.heap.size, 0, none⟩) 1 1) (.slice (some ⟨w0.heap.size + 1 + 1, 0, none⟩) 1 1) 28
  rw [h4, s3] at n4
  have HN4 : Hid (NeBox E4 (w0.heap.size + 1 + 1 + 1) 1 (.slice none 0 0) (.slice (some ⟨w0.heap.size, 0, none⟩) 1 1) (.slice (some ⟨w0.heap.size + 1 + 1, 0, none⟩) 1 1)) := n4
  have HT4 : Hid (TS E4 (.slice (some ⟨w0.heap.size + 1 + 1, 0, none⟩) 1 1) [[⟨1, 0, 0, 2, 0, 0⟩]]) := r3.later b4
  have HH4 : Hid (GS hstE E4 (.slice (some ⟨w0.heap.size, 0, none⟩) 1 1) [(⟨#[97]⟩, (1, 2))]) := ((r1.later b2).later b3).later b4
  have HX4 : Hid (OBox w E4 S (.slice ao n cap) (.slice ao2 n2 cap2) (.slice ao3 n3 cap3) x y) := (((hX.later b1).later b2).later b3).later b4
  have H1 : Hid (w0.alloc (Obj.cells #[.string ⟨#[97]⟩, .int .i64 1, .int .i64 2] 32) = E1) := h1
  have H2 : Hid (E1.alloc (Obj.cells #[.int .i64 1, .int .i64 0, .int .i64 0, .int .i64 2, .int .i64 0, .int .i64 0] 36) = E2) := h2
  have H3 : Hid (E2.alloc (Obj.cells #[.slice (some ⟨w0.heap.size + 1, 0, none⟩) 1 1] 38) = E3) := h3
  have H4 : Hid (E3.alloc (Obj.cells #[.int .i64 1, .slice none 0 0, .slice (some ⟨w0.heap.size, 0, none⟩) 1 1, .slice (some ⟨w0.heap.size + 1 + 1, 0, none⟩) 1 1] 28) = E4) := h4
  clear hL hH hT hX hw0 h1 h2 h3 h4 b1 b2 b3 b4 s1 s2 s3 s4 r1 r2 r3 n4 HX
  go_enter Try.func3, Try.ntmps3
  go_upto_region 1 with fail
  rw [HW0.out]
  clear HW0
  go_upto_region 2 with fail
  rw [H1.out, H2.out, H3.out, H4.out]
  clear H1 H2 H3 H4
  obtain ⟨a0, a1, a2, a3⟩ := HN4.out
  go_wp2_with fail
  refine (send_any 1 none 0 0 _ 1 1 _ 1 1 [] [(⟨#[97]⟩, (1, 2))] [[⟨1, 0, 0, 2, 0, 0⟩]] ⟨#[97]⟩ 5 _ (GS.nil _) HH4.out HT4.out).mono ?_
  rintro e wS ⟨ao4, n4, cap4, rfl, hown, hbS⟩
  obtain ⟨t1, t2, t3, t4⟩ := walks_one
  have hn4 : n4 = 1 := by
    have h1 := (own_GS (E := hopE) hown).len
    rw [← h1]
    exact t4
  subst hn4
  rw [t1, no_ok rfl, t2]
  have t3' : (seV 1 [] [(⟨#[97]⟩, (1, 2))] [[⟨1, 0, 0, 2, 0, 0⟩]] ⟨#[97]⟩ 5).2.1 = ⟨#[97]⟩ := by
    have : ∀ b : ByteArray, b.data = #[97] → b = ⟨#[97]⟩ := fun b hb => by cases b; simp at hb; rw [hb]
    exact this _ t3
  rw [t3']
  have HXS : Hid (OBox w wS S (.slice ao n cap) (.slice ao2 n2 cap2) (.slice ao3 n3 cap3) x y) := HX4.out.later hbS
  clear hown hbS t1 t2 t3 t3' t4 a0 a1 a2 a3 HN4 HT4 HH4 HX4
  obtain ⟨wT, hwT, bT, sT⟩ := al wS (Obj.cells #[.int .i64 1, .string ⟨#[97]⟩, .slice ao4 1 cap4] 41)
  have HXT : Hid (OBox w wT S (.slice ao n cap) (.slice ao2 n2 cap2) (.slice ao3 n3 cap3) x y) := HXS.out.later bT
  have HWT : Hid (wS.alloc (Obj.cells #[.int .i64 1, .string ⟨#[97]⟩, .slice ao4 1 cap4] 41) = wT) := hwT
  clear hwT bT sT HXS
  go_upto_region 5 with fail
  rw [HWT.out]
  clear HWT
  obtain ⟨_, ⟨b0, b1, b2, b3⟩, s0, s1, _⟩ := HXT.out
  go_wp2_with fail
  refine (from_any S ao n cap ao2 n2 cap2 ao3 n3 cap3 Ls Hs Ts x y h _ (HLW.out _ HXT.out.below) (HHW.out _ HXT.out.below) (HTW.out _ HXT.out.below)).mono ?_
  rintro e w1 ⟨ao5, n5, cap5, rfl, hown, hb1⟩
  obtain ⟨R, hR⟩ : ∃ R, R = cpN S Ls Hs Ts (x, y) h := ⟨_, rfl⟩
  obtain ⟨V, hV⟩ : ∃ V, V = frV S Ls Hs Ts (x, y) h := ⟨_, rfl⟩
  have HR : Hid (R = cpN S Ls Hs Ts (x, y) h) := hR
  have HV : Hid (V = frV S Ls Hs Ts (x, y) h) := hV
  rw [← hV] at hown
  rw [← hR, ← hV]
  have HX1 : Hid (OBox w w1 S (.slice ao n cap) (.slice ao2 n2 cap2) (.slice ao3 n3 cap3) x y) := HXT.out.later hb1
  have hn5 := (own_GS (E := hopE) hown).len
  have HGS : Hid (GS hopE w1 (.slice ao5 n5 cap5) V.2.2) := own_GS (E := hopE) hown
  have HN5 : Hid (V.2.2.length = n5) := hn5
  obtain ⟨V1, hV1⟩ : ∃ q, q = V.1 := ⟨_, rfl⟩
  obtain ⟨V2, hV2⟩ : ∃ q, q = V.2.1 := ⟨_, rfl⟩
  have HV1 : Hid (V.1 = V1) := hV1.symm
  have HV2 : Hid (V.2.1 = V2) := hV2.symm
  rw [← hV1, ← hV2]
  obtain ⟨wF, hwF, bF, sF⟩ := al w1 (Obj.cells #[.int .i64 V1, .string V2, .slice ao5 n5 cap5] 41)
  have vF := vat_new w1 [.int .i64 V1, .string V2, .slice ao5 n5 cap5] 41
  obtain ⟨gF, hgF⟩ : ∃ g, w1.heap.size = g := ⟨_, rfl⟩
  have vF2 : VAt wF gF 0 [.int .i64 V1, .string V2, .slice ao5 n5 cap5] := by
    rw [← hwF, ← hgF]
    exact vF
  have HXF : Hid (OBox w wF S (.slice ao n cap) (.slice ao2 n2 cap2) (.slice ao3 n3 cap3) x y) := HX1.out.later bF
  have HVF : Hid (VAt wF gF 0 [.int .i64 V1, .string V2, .slice ao5 n5 cap5]) := vF2
  have HGF : Hid (GS hopE wF (.slice ao5 n5 cap5) V.2.2) := HGS.out.later bF
  have HWF : Hid (w1.alloc (Obj.cells #[.int .i64 V1, .string V2, .slice ao5 n5 cap5] 41) = wF) := hwF
  have HgF : Hid (w1.heap.size = gF) := hgF
  clear hown hb1 hR hV hn5 hV1 hV2 hwF bF sF vF hgF vF2 HX1 HGS HXT b0 b1 b2 b3 s0 s1
  go_upto_region 6 with fail
  rw [HWF.out, HgF.out]
  clear HWF HgF
  by_cases h0 : R = 0
  · have HC0 : Hid (cpN S Ls Hs Ts (x, y) h = 0) := HR.out.symm.trans h0
    have hVF : V = frF Ls Hs Ts (x, y) h := by rw [HV.out, frV, if_pos HC0.out]
    have hWFx := wf_of HC0.out
    rw [← hVF] at hWFx
    have HWF : Hid (WF S Ls Hs Ts (x, y) h V) := hWFx
    have HN0 : Hid (ntN S Ls Hs Ts = 0) := (cp_0 HC0.out).1
    have hl1 := hWFx.l1
    have hl24 := hWFx.l24
    rw [HN5.out] at hl1 hl24
    obtain ⟨_, _, _, e6, _, _, _, hGa⟩ := HGF.out.form
    cases e6
    obtain ⟨g5, o5, hao5, hG5, _⟩ := hGa hl1
    subst hao5
    have hK : WK w wF S (.slice ao n cap) (.slice ao2 n2 cap2) (.slice ao3 n3 cap3) x y gF V1 V2 g5 o5 n5 cap5 V.2.2 := ⟨HXF.out, HVF.out 0 _ rfl, HVF.out 1 _ rfl, HVF.out 2 _ rfl, hG5⟩
    have HK : Hid (WK w wF S (.slice ao n cap) (.slice ao2 n2 cap2) (.slice ao3 n3 cap3) x y gF V1 V2 g5 o5 n5 cap5 V.2.2) := hK
    subst h0
    rw [no_ok rfl]
    clear hVF hWFx hGa hG5 hK HXF HVF HGF HR HV
    go_upto_region 8 with fail
    go_cut [99] from 23 (fun q w' => q = .bool false ∧ Below wF.heap.size wF w')
    case first =>
      as_aux_lemma =>
        obtain ⟨⟨_, ⟨b0, b1, b2, b3⟩, s0, s1, _⟩, f0, f1, f2, hl⟩ := HK.out
        have hla := (wf_last HWF.out HN0.out).2
        rw [HV1.out, HV2.out] at hla
        have hat := HWF.out.at0
        rw [at_get (by rw [HN5.out]; exact hl1)] at hat
        have hc := hl 0 (by rw [HN5.out]; exact hl1)
        rw [hat] at hc
        obtain ⟨c0, c1, c2⟩ := hop_cells hc
        simp only [Nat.zero_mul, Nat.add_zero] at c0 c1 c2
        have d1 : decide ((n5 : Int) < 1) = false := by simp; omega
        have d2 : decide (24 < (n5 : Int)) = false := by simp; omega
        have d3 : (0 : Int) < (n5 : Int) := by omega
        have m1 : gF < wF.heap.size := World.block_lt_of_cell? _ _ f0
        have m2 : g5 < wF.heap.size := World.block_lt_of_cell? _ _ c0
        have m3 : w.heap.size + 1 < wF.heap.size := World.block_lt_of_cell? _ _ s0
        by_cases h1 : V1 = 1
        · have e1 : (V1 == 1) = true := by simp [h1]
          have e2 : V2.toList.isEmpty = false := by
            have hne := hla.1 h1
            cases hV : V2.toList.isEmpty
            · rfl
            · exact absurd (byte_empty hV) hne
          clear hla hat hc hl h1
          go_wp2_with fail
          go_quiet (fail)
          go_wp2_with fail
          go_meet
          case rel => exact ⟨rfl, below_drewN _ _⟩
        · have e1 : (V1 == 1) = false := by simpa using h1
          have e2 : V2.toList.isEmpty = true := by
            have hne : V2 = ByteArray.empty := Classical.byContradiction fun hn => h1 (hla.2 hn)
            rw [hne, Lib.toList_data]
            rfl
          clear hla hat hc hl h1
          go_wp2_with fail
          go_quiet (fail)
          go_wp2_with fail
          go_meet
          case rel => exact ⟨rfl, below_drewN _ _⟩
    case rest =>
      obtain ⟨rfl, hbG⟩ := hcut
      have HKG : Hid (WK w wc S (.slice ao n cap) (.slice ao2 n2 cap2) (.slice ao3 n3 cap3) x y gF V1 V2 g5 o5 n5 cap5 V.2.2) := HK.out.later hbG
      clear hbG HK
      go_upto_block 0 with fail
      obtain ⟨wG, hwG⟩ : ∃ X, X = wc := ⟨_, rfl⟩
      subst hwG
      go_cut [14, 15, 16, 17, 18, 19, 20] from 23 (fun _ _ _ _ _ _ _ w' => Below wG.heap.size wG w')
      case first =>
        go_wp2
        go_loopw [14] (fun i wr => ∃ k : Nat, k ≤ n5 ∧ i = .int .i64 k ∧ Below wG.heap.size wG wr) (fun i _ => n5 - (intOf i).toNat)
        case atStart => exact ⟨0, by omega, rfl, Below.refl _ _⟩
        case round =>
          obtain ⟨k, hk, rfl, hBr⟩ := hrel
          obtain ⟨wo, hwo⟩ : ∃ X, X = wr := ⟨_, rfl⟩
          subst hwo
          have HKo : Hid (WK w wo S (.slice ao n cap) (.slice ao2 n2 cap2) (.slice ao3 n3 cap3) x y gF V1 V2 g5 o5 n5 cap5 V.2.2) := HKG.out.later hBr
          have HBo : Hid (Below wG.heap.size wG wo) := hBr
          clear hBr
          by_cases hlt : k < n5
          · obtain ⟨⟨_, ⟨b0, b1, b2, b3⟩, s0, s1, _⟩, f0, f1, f2, hl⟩ := HKo.out
            obtain ⟨p0, p1, p2, hkl, hLk, c0, c1, c2⟩ := hop_at hl HN5.out hlt
            have HLK : Hid (V.2.2[k] = ((p0, p1), p2)) := hLk
            have HAT : Hid (atH V.2.2 k = ((p0, p1), p2)) := (at_get hkl).trans hLk
            have HL : Hid (GAt hopE wo g5 o5 V.2.2) := hl
            have m1 : gF < wo.heap.size := World.block_lt_of_cell? _ _ f0
            have m2 : g5 < wo.heap.size := World.block_lt_of_cell? _ _ c0
            have m3 : w.heap.size < wo.heap.size := World.block_lt_of_cell? _ _ b0
            have kb0 : (0 : Int) ≤ (k : Int) := by omega
            have kb1 : (k : Int) < (n5 : Int) := by omega
            clear hl hLk
            go_wp2
            go_loopw [15] (fun j wz => ∃ q : Nat, q ≤ k ∧ j = .int .i64 q ∧ Below wo.heap.size wo wz) (fun j _ => k - (intOf j).toNat)
            case atStart => exact ⟨0, by omega, rfl, Below.refl _ _⟩
            case round =>
              obtain ⟨q, hq, rfl, hBz⟩ := hrel
              have HBz : Hid (Below wo.heap.size wo wr) := hBz
              have HKz : Hid (WK w wr S (.slice ao n cap) (.slice ao2 n2 cap2) (.slice ao3 n3 cap3) x y gF V1 V2 g5 o5 n5 cap5 V.2.2) := HKo.out.later hBz
              obtain ⟨⟨_, ⟨b0, b1, b2, b3⟩, s0, s1, _⟩, f0, f1, f2, hl⟩ := HKz.out
              obtain ⟨p0', p1', p2', hkl', hLk', c0, c1, c2⟩ := hop_at hl HN5.out hlt
              rw [HLK.out] at hLk'
              cases hLk'
              have m1 : gF < wr.heap.size := World.block_lt_of_cell? _ _ f0
              have m2 : g5 < wr.heap.size := World.block_lt_of_cell? _ _ c0
              have m3 : w.heap.size < wr.heap.size := World.block_lt_of_cell? _ _ b0
              clear hBz
              by_cases hqk : q < k
              · obtain ⟨v0, v1, v2, hql, hLq, d0, d1, d2⟩ := hop_at hl HN5.out (show q < n5 by omega)
                have hne : ¬ ((v0, v1), v2) = ((p0, p1), p2) := by
                  rw [← hLq, ← HLK.out]
                  intro e
                  have := (List.getElem_inj HWF.out.nd).1 e
                  omega
                have qb0 : (0 : Int) ≤ (q : Int) := by omega
                have qb1 : (q : Int) < (n5 : Int) := by omega
                have hw3 : (v0 == p0) = false ∨ ((v0 == p0) = true ∧ (v1 == p1) = false) ∨ ((v0 == p0) = true ∧ (v1 == p1) = true ∧ (v2 == p2) = false) := by
                  cases z0 : (v0 == p0)
                  · exact .inl rfl
                  · cases z1 : (v1 == p1)
                    · exact .inr (.inl ⟨rfl, rfl⟩)
                    · refine .inr (.inr ⟨rfl, rfl, ?_⟩)
                      cases z2 : (v2 == p2)
                      · rfl
                      · simp only [beq_iff_eq] at z0 z1 z2
                        exact absurd (by rw [z0, z1, z2]) hne
                clear hne hl hLq
                rcases hw3 with z0 | ⟨z0, z1⟩ | ⟨z0, z1, z2⟩
                · as_aux_lemma =>
                    go_wp2_with fail
                    go_quiet (fail)
                    go_wp2
                    go_roundw
                    case rel => exact ⟨q + 1, by omega, by go_num, HBz.out.trans ((below_drewN _ _).mono HBz.out.size)⟩
                    case measure => simp [intOf]; omega
                · as_aux_lemma =>
                    go_wp2_with fail
                    go_quiet (fail)
                    go_wp2
                    go_roundw
                    case rel => exact ⟨q + 1, by omega, by go_num, HBz.out.trans ((below_drewN _ _).mono HBz.out.size)⟩
                    case measure => simp [intOf]; omega
                · as_aux_lemma =>
                    go_wp2_with fail
                    go_quiet (fail)
                    go_wp2
                    go_roundw
                    case rel => exact ⟨q + 1, by omega, by go_num, HBz.out.trans ((below_drewN _ _).mono HBz.out.size)⟩
                    case measure => simp [intOf]; omega
              · obtain rfl : q = k := by omega
                clear hl
                obtain ⟨SN, hSN⟩ : ∃ u, u = spN S Ls Hs Ts (p0, p1) p2 := ⟨_, rfl⟩
                obtain ⟨T1, hT1⟩ : ∃ u, u = (spV S Ls Hs Ts (p0, p1) p2).1.1 := ⟨_, rfl⟩
                obtain ⟨T2, hT2⟩ : ∃ u, u = (spV S Ls Hs Ts (p0, p1) p2).1.2 := ⟨_, rfl⟩
                obtain ⟨T3, hT3⟩ : ∃ u, u = (spV S Ls Hs Ts (p0, p1) p2).2 := ⟨_, rfl⟩
                have HSN : Hid (spN S Ls Hs Ts (p0, p1) p2 = SN) := hSN.symm
                have HT1 : Hid ((spV S Ls Hs Ts (p0, p1) p2).1.1 = T1) := hT1.symm
                have HT2 : Hid ((spV S Ls Hs Ts (p0, p1) p2).1.2 = T2) := hT2.symm
                have HT3 : Hid ((spV S Ls Hs Ts (p0, p1) p2).2 = T3) := hT3.symm
                clear hSN hT1 hT2 hT3
                obtain ⟨wi, hwi⟩ : ∃ X, X = wr := ⟨_, rfl⟩
                subst hwi
                go_upto_region 18 with fail
                go_cut [16, 17, 18] from 123 to 140 (fun p u er w' => ∃ g, p = .pointer (some ⟨g, 0, none⟩) ∧ u = .int .i64 T3 ∧ er = noV SN ∧ (w'.cell? ⟨g, 0, none⟩ = some (.int .i64 T1) ∧ w'.cell? ⟨g, 1, none⟩ = some (.int .i64 T2)) ∧ Below wi.heap.size wi w')
                case first =>
                  as_aux_lemma =>
                    have HMK : Hid (∀ W, Below wi.heap.size wi W → (fun w' => Below wi.heap.size wi w' ∧ w'.cell? ⟨w.heap.size, 0, none⟩ = some (.int .i64 S) ∧ w'.cell? ⟨w.heap.size, 1, none⟩ = some (.slice ao n cap) ∧ w'.cell? ⟨w.heap.size, 2, none⟩ = some (.slice ao2 n2 cap2) ∧ w'.cell? ⟨w.heap.size, 3, none⟩ = some (.slice ao3 n3 cap3) ∧ w'.cell? ⟨gF, 2, none⟩ = some (.slice (some ⟨g5, o5, none⟩) n5 cap5) ∧ w'.cell? ⟨g5, o5 + q * 3, none⟩ = some (.int .i64 p0) ∧ w'.cell? ⟨g5, o5 + q * 3 + 1, none⟩ = some (.int .i64 p1) ∧ w'.cell? ⟨g5, o5 + q * 3 + 2, none⟩ = some (.int .i64 p2)) W) := fun W hb => ⟨hb, cell_later hb b0, cell_later hb b1, cell_later hb b2, cell_later hb b3, cell_later hb f2, cell_later hb c0, cell_later hb c1, cell_later hb c2⟩
                    have HFR : ∀ W, Below wi.heap.size wi W → Calls Try.prog 6 #[.agg #[.int .i64 S, .slice ao n cap, .slice ao2 n2 cap2, .slice ao3 n3 cap3], .agg #[.int .i64 p0, .int .i64 p1], .int .i64 p2] W fun e w' => e = .returned (.tuple #[.agg #[.int .i64 T1, .int .i64 T2], .int .i64 T3, noV SN]) ∧ Below W.heap.size W w' := by
                      intro W hb
                      have hB := HKz.out.o.below.trans (Below.mono hb HKz.out.o.below.size)
                      refine (stepA_any S ao n cap ao2 n2 cap2 ao3 n3 cap3 Ls Hs Ts p0 p1 p2 W (HLW.out _ hB) (HHW.out _ hB) (HTW.out _ hB)).mono ?_
                      rintro e w' ⟨he, hb⟩
                      rw [HSN.out, HT1.out, HT2.out, HT3.out] at he
                      exact ⟨he, hb⟩
                    have HFA : Hid (Calls Try.prog 6 #[.agg #[.int .i64 S, .slice ao n cap, .slice ao2 n2 cap2, .slice ao3 n3 cap3], .agg #[.int .i64 p0, .int .i64 p1], .int .i64 p2] wi.drew fun e w' => e = .returned (.tuple #[.agg #[.int .i64 T1, .int .i64 T2], .int .i64 T3, noV SN]) ∧ Below wi.heap.size wi w') := by
                      refine (HFR _ (Below.drew (Below.refl _ _))).mono ?_
                      rintro e w' ⟨he, hb⟩
                      exact ⟨he, bdrew hb⟩
                    have HFB : Hid (∀ (a b : Value) (t : TypeId), Calls Try.prog 6 #[.agg #[.int .i64 S, .slice ao n cap, .slice ao2 n2 cap2, .slice ao3 n3 cap3], .agg #[.int .i64 p0, .int .i64 p1], .int .i64 p2] (wi.drew.alloc (Obj.cells #[a, b] t)) fun e w' => e = .returned (.tuple #[.agg #[.int .i64 T1, .int .i64 T2], .int .i64 T3, noV SN]) ∧ Below wi.heap.size wi w' ∧ w'.cell? ⟨wi.heap.size, 0, none⟩ = some a ∧ w'.cell? ⟨wi.heap.size, 1, none⟩ = some b ∧ w'.frozen? ⟨wi.heap.size, 0, none⟩ = false ∧ w'.frozen? ⟨wi.heap.size, 1, none⟩ = false) := by
                      intro a b t
                      refine (HFR _ ((Below.drew (Below.refl _ _)).alloc (Nat.le_refl _) _)).mono ?_
                      rintro e w' ⟨he, hb⟩
                      exact ⟨he, balloc hb, ballocC hb⟩
                    clear HFR
                    go_region_held3 (fun w' => Below wi.heap.size wi w' ∧ w'.cell? ⟨w.heap.size, 0, none⟩ = some (.int .i64 S) ∧ w'.cell? ⟨w.heap.size, 1, none⟩ = some (.slice ao n cap) ∧ w'.cell? ⟨w.heap.size, 2, none⟩ = some (.slice ao2 n2 cap2) ∧ w'.cell? ⟨w.heap.size, 3, none⟩ = some (.slice ao3 n3 cap3) ∧ w'.cell? ⟨gF, 2, none⟩ = some (.slice (some ⟨g5, o5, none⟩) n5 cap5) ∧ w'.cell? ⟨g5, o5 + q * 3, none⟩ = some (.int .i64 p0) ∧ w'.cell? ⟨g5, o5 + q * 3 + 1, none⟩ = some (.int .i64 p1) ∧ w'.cell? ⟨g5, o5 + q * 3 + 2, none⟩ = some (.int .i64 p2))
                      (first | assumption | exact HMK.out _ (Below.drew (Below.refl _ _)) | exact HMK.out _ ((Below.drew (Below.refl _ _)).alloc (Nat.le_refl _) _) | exact HMK.out _ HBX.out | exact HMK.out _ (HBX.out.alloc HBX.out.size _) | exact HMK.out _ ((HBX.out.setCell (p := ⟨wi.heap.size, 0, none⟩) (Nat.le_refl _) _).setCell (p := ⟨wi.heap.size, 1, none⟩) (Nat.le_refl _) _) | exact HMK.out _ (((HBX.out.alloc HBX.out.size _).setCell (p := ⟨w'.heap.size, 0, none⟩) HBX.out.size _).setCell (p := ⟨w'.heap.size, 1, none⟩) HBX.out.size _))
                      (first | (go_at_call 6; refine HFA.out.mono ?_; rintro e w' ⟨rfl, hb⟩; have HBX : Hid (Below wi.heap.size wi w') := hb; clear hb) | (go_at_call 6; refine (HFB.out _ _ _).mono ?_; rintro e w' ⟨rfl, hb, k0, k1, kf0, kf1⟩; have HBX : Hid (Below wi.heap.size wi w') := hb; clear hb))
                    all_goals (go_wp2_with fail; go_meet)
                    · exact ⟨w'.heap.size, rfl, rfl, rfl, new2 _ _ _ _, HBX.out.alloc HBX.out.size _⟩
                    · exact ⟨wi.heap.size, rfl, rfl, rfl, two_cells k0 k1 rfl rfl, (HBX.out.setCell (p := ⟨wi.heap.size, 0, none⟩) (Nat.le_refl _) _).setCell (p := ⟨wi.heap.size, 1, none⟩) (Nat.le_refl _) _⟩
                case rest =>
                  obtain ⟨g, rfl, rfl, rfl, ⟨t0, t1⟩, hbw⟩ := hcut
                  have HKc : Hid (WK w wc S (.slice ao n cap) (.slice ao2 n2 cap2) (.slice ao3 n3 cap3) x y gF V1 V2 g5 o5 n5 cap5 V.2.2) := HKz.out.later hbw
                  have HBc : Hid (Below wG.heap.size wG wc) := HBo.out.trans (((HBz.out.trans (hbw.mono HBz.out.size))).mono HBo.out.size)
                  obtain ⟨⟨_, ⟨b0, b1, b2, b3⟩, s0, s1, _⟩, f0, f1, f2, hl⟩ := HKc.out
                  have m1 : gF < wc.heap.size := World.block_lt_of_cell? _ _ f0
                  have m4 : g < wc.heap.size := World.block_lt_of_cell? _ _ t0
                  clear hbw c0 c1 c2 m2 m3
                  by_cases hlast : q + 1 = n5
                  · have hmi : IntKind.i64.wrap ((n5 : Int) - 1) = (q : Int) := by
                      rw [show (n5 : Int) - 1 = (q : Int) by omega]
                      exact wrap_small (by omega) (by omega)
                    have hla := (wf_last HWF.out HN0.out).1
                    have e0 : laH V.2.2 = ((p0, p1), p2) := by
                      rw [la_at, HN5.out, show n5 - 1 = q by omega]
                      exact HAT.out
                    rw [e0, HV1.out] at hla
                    simp only at hla
                    rw [HSN.out] at hla
                    clear hl e0
                    by_cases hz : SN = 0
                    · as_aux_lemma =>
                        have e2 : (V1 == 2) = false := by
                          have hn : ¬ V1 = 2 := fun e => hla.2 e hz
                          simpa using hn
                        clear hla
                        subst hz
                        rw [no_ok rfl]
                        go_wp2_with fail
                        go_quiet (fail)
                        go_wp2_with fail
                        go_meet
                        case rel => exact HBc.out.trans ((below_drewN _ _).mono HBc.out.size)
                    · as_aux_lemma =>
                        have e2 : (V1 == 2) = true := by
                          have hn : V1 = 2 := hla.1 hz
                          simpa using hn
                        clear hla
                        rw [no_ne hz]
                        clear hz
                        go_wp2_with fail
                        go_quiet (fail)
                        go_wp2_with fail
                        go_meet
                        case rel => exact HBc.out.trans ((below_drewN _ _).mono HBc.out.size)
                  · as_aux_lemma =>
                      have hnx : q + 1 < n5 := by omega
                      have hmi : IntKind.i64.wrap ((n5 : Int) - 1) = (n5 : Int) - 1 := wrap_small (by omega) (by omega)
                      have hmj : ((q : Int) == (n5 : Int) - 1) = false := by simp; omega
                      obtain ⟨k1, k2, k3, k4⟩ := wf_next HWF.out HN0.out (i := q) (by rw [HN5.out]; exact hnx)
                      rw [HAT.out] at k1 k2 k3 k4
                      simp only at k1 k2 k3 k4
                      obtain ⟨u0, u1, u2, hul, hLu, d0, d1, d2⟩ := hop_at hl HN5.out hnx
                      have hAu : atH V.2.2 (q + 1) = ((u0, u1), u2) := (at_get hul).trans hLu
                      rw [hAu] at k3 k4
                      simp only at k3 k4
                      have hT : (spV S Ls Hs Ts (p0, p1) p2).1 = (T1, T2) := by rw [← HT1.out, ← HT2.out]
                      rw [hT] at k2 k3
                      rw [HSN.out] at k1
                      rw [HT3.out] at k4
                      have HK2 : Hid (peN S Ls Hs (T1, T2) = 0) := k2
                      have HK3 : Hid (peV S Ls Hs (T1, T2) = (u0, u1)) := k3
                      have HLu : Hid (V.2.2[q + 1] = ((u0, u1), u2)) := hLu
                      subst k1
                      subst k4
                      rw [no_ok rfl]
                      clear hl hLu hAu hT k2 k3 d0 d1 d2
                      go_wp2_with fail
                      refine (peer_any S ao n cap ao2 n2 cap2 Ls Hs T1 T2 _ (HLW.out _ HKc.out.o.below) (HHW.out _ HKc.out.o.below)).mono ?_
                      rintro e w5 ⟨rfl, hb5⟩
                      rw [HK2.out, HK3.out, no_ok rfl]
                      simp only
                      obtain ⟨w6, hw6, b6, s6⟩ := al w5 (Obj.cells #[.int .i64 u0, .int .i64 u1] 30)
                      have v6 := vat_new w5 [.int .i64 u0, .int .i64 u1] 30
                      obtain ⟨g6, hg6⟩ : ∃ g, w5.heap.size = g := ⟨_, rfl⟩
                      have v6' : VAt w6 g6 0 [.int .i64 u0, .int .i64 u1] := by
                        rw [← hw6, ← hg6]
                        exact v6
                      have HK6 : Hid (WK w w6 S (.slice ao n cap) (.slice ao2 n2 cap2) (.slice ao3 n3 cap3) x y gF V1 V2 g5 o5 n5 cap5 V.2.2) := (HKc.out.later hb5).later b6
                      have HB6 : Hid (Below wG.heap.size wG w6) := (HBc.out.trans (hb5.mono HBc.out.size)).trans (b6.mono (HBc.out.trans (hb5.mono HBc.out.size)).size)
                      have HW6 : Hid (w5.alloc (Obj.cells #[.int .i64 u0, .int .i64 u1] 30) = w6) := hw6
                      have Hg6 : Hid (w5.heap.size = g6) := hg6
                      have x0 : w6.cell? ⟨g6, 0, none⟩ = some (.int .i64 u0) := v6' 0 _ rfl
                      have x1 : w6.cell? ⟨g6, 1, none⟩ = some (.int .i64 u1) := v6' 1 _ rfl
                      obtain ⟨⟨_, ⟨b0, b1, b2, b3⟩, s0, s1, _⟩, f0, f1, f2, hl⟩ := HK6.out
                      obtain ⟨u0', u1', u2', hul', hLu', d0, d1, d2⟩ := hop_at hl HN5.out hnx
                      rw [HLu.out] at hLu'
                      cases hLu'
                      have m1 : gF < w6.heap.size := World.block_lt_of_cell? _ _ f0
                      have m2 : g5 < w6.heap.size := World.block_lt_of_cell? _ _ d0
                      have m6 : g6 < w6.heap.size := World.block_lt_of_cell? _ _ x0
                      have qw : IntKind.i64.wrap ((q : Int) + 1) = ((q + 1 : Nat) : Int) := by
                        rw [show (q : Int) + 1 = ((q + 1 : Nat) : Int) by omega]
                        exact wrap_small (by omega) (by omega)
                      have qb0 : (0 : Int) ≤ ((q + 1 : Nat) : Int) := by omega
                      have qb1 : ((q + 1 : Nat) : Int) < (n5 : Int) := by omega
                      clear hb5 hw6 b6 s6 v6 hg6 v6' hl t0 t1 m4
                      go_upto_region 23 with fail
                      rw [HW6.out, Hg6.out]
                      go_quiet (fail)
                      go_wp2
                      go_roundw
                      case rel => exact ⟨q + 1, by omega, by go_num, HB6.out.trans ((below_drewN _ _).mono HB6.out.size)⟩
                      case measure => simp [intOf]; omega
          · as_aux_lemma =>
              obtain rfl : k = n5 := by omega
              obtain ⟨⟨_, ⟨b0, b1, b2, b3⟩, s0, s1, _⟩, f0, f1, f2, hl⟩ := HKo.out
              clear hl
              go_wp2_with fail
              go_meet
              case rel => exact HBo.out
      case rest =>
        have HKH : Hid (WK w wc S (.slice ao n cap) (.slice ao2 n2 cap2) (.slice ao3 n3 cap3) x y gF V1 V2 g5 o5 n5 cap5 V.2.2) := HKG.out.later hcut
        have HBH : Hid (Below w.heap.size w wc) := HKH.out.o.below
        clear hcut HKG
        obtain ⟨⟨_, ⟨b0, b1, b2, b3⟩, s0, s1, _⟩, f0, f1, f2, _⟩ := HKH.out
        by_cases hc0 : c < 0
        · as_aux_lemma =>
            have e1 : decide (c < 0) = true := by simpa using hc0
            go_wp2
            go_ret
            exact ⟨rfl, HBH.out⟩
        · have e1 : decide (c < 0) = false := by simpa using hc0
          obtain ⟨k, rfl⟩ : ∃ k : Nat, c = (k : Int) := ⟨c.toNat, by omega⟩
          by_cases hc1 : n5 ≤ k
          · as_aux_lemma =>
              have e2 : decide ((n5 : Int) ≤ (k : Int)) = true := by simp; omega
              go_wp2
              go_ret
              exact ⟨rfl, HBH.out⟩
          · have e2 : decide ((n5 : Int) ≤ (k : Int)) = false := by simp; omega
            by_cases h4 : V1 = 4
            · as_aux_lemma =>
                have e3 : (V1 == 4) = true := by simp [h4]
                clear h4
                go_wp2
                go_ret
                exact ⟨rfl, HBH.out⟩
            · as_aux_lemma =>
                have e3 : (V1 == 4) = false := by simpa using h4
                obtain ⟨z1, z2, z3⟩ := wf_cut HWF.out (k := k) (by rw [HV1.out]; exact h4) (by rw [HN5.out]; omega)
                have hgk := HWF.out.good k (by rw [HN5.out]; omega)
                have hkn : k < n5 := by omega
                obtain ⟨p0, p1, p2, hkl, hLk, c0, c1, c2⟩ := hop_at HKH.out.l HN5.out hkn
                have hat : atH V.2.2 k = ((p0, p1), p2) := (at_get hkl).trans hLk
                rw [hat] at z1 z2 z3 hgk
                simp only at z1 z2 z3 hgk
                rw [HV1.out] at z1
                rw [HV2.out] at z2
                rw [HN5.out] at z3
                have HZ1 : Hid ((frV S Ls Hs Ts (p0, p1) p2).1 = V1) := z1
                have HZ2 : Hid ((frV S Ls Hs Ts (p0, p1) p2).2.1 = V2) := z2
                have HZ3 : Hid ((frV S Ls Hs Ts (p0, p1) p2).2.2.length = n5 - k) := z3
                have HGK : Hid (cpN S Ls Hs Ts (p0, p1) p2 = 0) := hgk
                have kb0 : (0 : Int) ≤ (k : Int) := by omega
                have kb1 : (k : Int) < (n5 : Int) := by omega
                have hmk : IntKind.i64.wrap ((n5 : Int) - (k : Int)) = ((n5 - k : Nat) : Int) := by
                  rw [show (n5 : Int) - (k : Int) = ((n5 - k : Nat) : Int) by omega]
                  exact wrap_small (by omega) (by omega)
                have m1 : gF < wc.heap.size := World.block_lt_of_cell? _ _ f0
                have m2 : g5 < wc.heap.size := World.block_lt_of_cell? _ _ c0
                have m3 : w.heap.size < wc.heap.size := World.block_lt_of_cell? _ _ b0
                clear h4 z1 z2 z3 hgk hLk hat
                obtain ⟨wH, hwH⟩ : ∃ X, X = wc := ⟨_, rfl⟩
                subst hwH
                go_upto_region 27 with fail
                go_cut [21, 22] from 23 (fun p er w' => ∃ g ao6 cap6, p = .pointer (some ⟨g, 0, none⟩) ∧ er = .nilIface ∧ (w'.cell? ⟨g, 0, none⟩ = some (.int .i64 V1) ∧ w'.cell? ⟨g, 1, none⟩ = some (.string V2) ∧ w'.cell? ⟨g, 2, none⟩ = some (.slice ao6 (n5 - k) cap6)) ∧ Below wH.heap.size wH w')
                case first =>
                  as_aux_lemma =>
                    have HMK : Hid (∀ W, Below wH.heap.size wH W → (fun w' => Below wH.heap.size wH w' ∧ w'.cell? ⟨w.heap.size, 0, none⟩ = some (.int .i64 S) ∧ w'.cell? ⟨w.heap.size, 1, none⟩ = some (.slice ao n cap) ∧ w'.cell? ⟨w.heap.size, 2, none⟩ = some (.slice ao2 n2 cap2) ∧ w'.cell? ⟨w.heap.size, 3, none⟩ = some (.slice ao3 n3 cap3) ∧ w'.cell? ⟨gF, 2, none⟩ = some (.slice (some ⟨g5, o5, none⟩) n5 cap5) ∧ w'.cell? ⟨g5, o5 + k * 3, none⟩ = some (.int .i64 p0) ∧ w'.cell? ⟨g5, o5 + k * 3 + 1, none⟩ = some (.int .i64 p1) ∧ w'.cell? ⟨g5, o5 + k * 3 + 2, none⟩ = some (.int .i64 p2)) W) := fun W hb => ⟨hb, cell_later hb b0, cell_later hb b1, cell_later hb b2, cell_later hb b3, cell_later hb f2, cell_later hb c0, cell_later hb c1, cell_later hb c2⟩
                    have HFR : ∀ W, Below wH.heap.size wH W → Calls Try.prog 5 #[.agg #[.int .i64 S, .slice ao n cap, .slice ao2 n2 cap2, .slice ao3 n3 cap3], .agg #[.int .i64 p0, .int .i64 p1], .int .i64 p2] W fun e w' => ∃ ao6 cap6, e = .returned (.tuple #[.agg #[.int .i64 V1, .string V2, .slice ao6 (n5 - k) cap6], .nilIface]) ∧ Below W.heap.size W w' := by
                      intro W hb
                      have hB := HKH.out.o.below.trans (Below.mono hb HKH.out.o.below.size)
                      refine (from_any S ao n cap ao2 n2 cap2 ao3 n3 cap3 Ls Hs Ts p0 p1 p2 W (HLW.out _ hB) (HHW.out _ hB) (HTW.out _ hB)).mono ?_
                      rintro e w' ⟨ao6, n6, cap6, he, hown, hb⟩
                      have hn6 := (own_GS (E := hopE) hown).len
                      rw [HZ3.out] at hn6
                      rw [HZ1.out, HZ2.out, HGK.out, no_ok rfl, ← hn6] at he
                      exact ⟨ao6, cap6, he, hb⟩
                    have HFA : Hid (Calls Try.prog 5 #[.agg #[.int .i64 S, .slice ao n cap, .slice ao2 n2 cap2, .slice ao3 n3 cap3], .agg #[.int .i64 p0, .int .i64 p1], .int .i64 p2] wH.drew fun e w' => ∃ ao6 cap6, e = .returned (.tuple #[.agg #[.int .i64 V1, .string V2, .slice ao6 (n5 - k) cap6], .nilIface]) ∧ Below wH.heap.size wH w') := by
                      refine (HFR _ (Below.drew (Below.refl _ _))).mono ?_
                      rintro e w' ⟨ao6, cap6, he, hb⟩
                      exact ⟨ao6, cap6, he, bdrew hb⟩
                    have HFB : Hid (∀ (a b c : Value) (t : TypeId), Calls Try.prog 5 #[.agg #[.int .i64 S, .slice ao n cap, .slice ao2 n2 cap2, .slice ao3 n3 cap3], .agg #[.int .i64 p0, .int .i64 p1], .int .i64 p2] (wH.drew.alloc (Obj.cells #[a, b, c] t)) fun e w' => ∃ ao6 cap6, e = .returned (.tuple #[.agg #[.int .i64 V1, .string V2, .slice ao6 (n5 - k) cap6], .nilIface]) ∧ Below wH.heap.size wH w' ∧ (w'.cell? ⟨wH.heap.size, 0, none⟩ = some a ∧ w'.cell? ⟨wH.heap.size, 1, none⟩ = some b ∧ w'.cell? ⟨wH.heap.size, 2, none⟩ = some c) ∧ w'.frozen? ⟨wH.heap.size, 0, none⟩ = false ∧ w'.frozen? ⟨wH.heap.size, 1, none⟩ = false ∧ w'.frozen? ⟨wH.heap.size, 2, none⟩ = false) := by
                      intro a b c t
                      refine (HFR _ ((Below.drew (Below.refl _ _)).alloc (Nat.le_refl _) _)).mono ?_
                      rintro e w' ⟨ao6, cap6, he, hb⟩
                      exact ⟨ao6, cap6, he, balloc hb, ballocD hb⟩
                    clear HFR
                    go_region_held3 (fun w' => Below wH.heap.size wH w' ∧ w'.cell? ⟨w.heap.size, 0, none⟩ = some (.int .i64 S) ∧ w'.cell? ⟨w.heap.size, 1, none⟩ = some (.slice ao n cap) ∧ w'.cell? ⟨w.heap.size, 2, none⟩ = some (.slice ao2 n2 cap2) ∧ w'.cell? ⟨w.heap.size, 3, none⟩ = some (.slice ao3 n3 cap3) ∧ w'.cell? ⟨gF, 2, none⟩ = some (.slice (some ⟨g5, o5, none⟩) n5 cap5) ∧ w'.cell? ⟨g5, o5 + k * 3, none⟩ = some (.int .i64 p0) ∧ w'.cell? ⟨g5, o5 + k * 3 + 1, none⟩ = some (.int .i64 p1) ∧ w'.cell? ⟨g5, o5 + k * 3 + 2, none⟩ = some (.int .i64 p2))
                      (first | assumption | exact HMK.out _ (Below.drew (Below.refl _ _)) | exact HMK.out _ ((Below.drew (Below.refl _ _)).alloc (Nat.le_refl _) _) | exact HMK.out _ HBX.out | exact HMK.out _ (HBX.out.alloc HBX.out.size _) | exact HMK.out _ (below_put3 HBX.out _ (Nat.le_refl _) _ _ _) | exact HMK.out _ (below_put3 (HBX.out.alloc HBX.out.size _) _ HBX.out.size _ _ _))
                      (first | (go_at_call 5; refine HFA.out.mono ?_; rintro e w' ⟨ao6, cap6, rfl, hb⟩; have HBX : Hid (Below wH.heap.size wH w') := hb; clear hb) | (go_at_call 5; refine (HFB.out _ _ _ _).mono ?_; rintro e w' ⟨ao6, cap6, rfl, hb, ⟨k0, k1, k2⟩, kf0, kf1, kf2⟩; have HBX : Hid (Below wH.heap.size wH w') := hb; clear hb))
                    all_goals (go_wp2_with fail; go_meet)
                    · exact ⟨w'.heap.size, ao6, cap6, rfl, rfl, new3 _ _ _ _ _, HBX.out.alloc HBX.out.size _⟩
                    · exact ⟨wH.heap.size, ao6, cap6, rfl, rfl, put3_cells ⟨k0, k1, k2⟩, below_put3 HBX.out _ (Nat.le_refl _) _ _ _⟩
                case rest =>
                  obtain ⟨g, ao6, cap6, rfl, rfl, ⟨t0, t1, t2⟩, hbw⟩ := hcut
                  obtain ⟨⟨hBB, ⟨b0, b1, b2, b3⟩, s0, s1, _⟩, f0, f1, f2, _⟩ := HKH.out.later hbw
                  have HBB : Hid (Below w.heap.size w wc) := hBB
                  clear hbw hBB
                  go_wp2
                  go_ret
                  exact ⟨rfl, HBB.out⟩
  · as_aux_lemma =>
      rw [no_ne h0]
      have HBF : Hid (Below w.heap.size w wF) := HXF.out.below
      clear h0
      go_wp2
      go_ret
      exact ⟨rfl, HBF.out⟩
end Go.Proofs.Ytpmcjelihdlfeaa.netWalks
/- A topology that came in: its number of switches, its links, its hosts. -/
namespace Go.Proofs.Ytpmcjelihdlfeaa
open Go.ChangeShapes Go.WideShapes Go.ChangeAt Go.RowKit Go.Joins
set_option linter.unusedSimpArgs false
set_option linter.unusedVariables false
set_option maxRecDepth 100000

section
variable {P : Program} {α : Type} {E : Enc α}
set_option maxRecDepth 100000 in
/-- A cell that reads as a slice lies where it says. -/
theorem gs_open {H : Type} {enc : TypeId × Value → H} {W : World} {fuel : Nat} {cs : List Value} {x : DataW H × List MemPlace} (ts te : TypeId) (hu : P.underlying ts = some (.slice te)) (hC : P.cellsOf te = E.n) (x0 : α)
    (hel : ∀ (n : Nat) (cs : List Value) (x : DataW H × List MemPlace), DataW.trod enc P W 0 (fun _ => true) true n te cs = some x → ∃ y, cs = E.c y)
    (hf2 : DataW.trod enc P W 0 (fun _ => true) true fuel ts cs = some x) : ∃ ao n cap L, cs = [.slice ao n cap] ∧ GS E W (.slice ao n cap) L := by
  obtain ⟨d, p⟩ := x
  rcases Go.Deep.open_slice hu hf2 with ⟨hc, hx⟩ | ⟨a, len0, cap, m, k, D, Pl, hc, _, hl, hm, hmm, hx, hall⟩
  · exact ⟨_, _, _, [], hc, .inl ⟨none, 0, rfl, rfl⟩⟩
  · simp only [if_true] at hmm
    subst hmm
    rcases Nat.eq_zero_or_pos len0 with h0 | h0
    · subst h0
      exact ⟨_, _, _, [], hc, .inl ⟨_, _, rfl, rfl⟩⟩
    · have each : ∀ i, i < m → ∃ y : α, ∀ j, j < E.n → W.cell? (a.add (i * E.n + j)) = (E.c y)[j]? := by
        intro i hi
        obtain ⟨cs, h1, h2⟩ := hall i hi
        rw [hC] at h1
        obtain ⟨_, hlen, hcell⟩ := World.cells?_some h1
        obtain ⟨y, rfl⟩ := hel _ _ _ h2
        refine ⟨y, fun j hj => ?_⟩
        have := hcell j (by omega)
        rw [Go.Deep.add_add] at this
        exact this
      have iR : Inhabited α := ⟨x0⟩
      obtain ⟨R, hR⟩ := Go.Deep.choose_lt each
      obtain ⟨sb, so, spot⟩ := a
      have hspot : spot = none := by
        have h1 := hR 0 (by omega) 0 E.pos
        have h2 : (E.c (R 0))[0]?.isSome = true := by
          rw [List.getElem?_eq_getElem (by rw [E.len]; exact E.pos)]
          rfl
        obtain ⟨u, hu2⟩ := Option.isSome_iff_exists.1 h2
        rw [hu2] at h1
        simpa [Addr.add] using World.cell?_spot h1
      subst hspot
      have hadd : ∀ j, (⟨sb, so, none⟩ : Addr).add j = ⟨sb, so + j, none⟩ := by
        intro j
        simp only [Addr.add]
        first
          | rfl
          | (split
             · next h0 => rw [h0]; rfl
             · rfl)
      refine ⟨_, _, _, (List.range len0).map R, hc, .inr ⟨sb, so, _, by simp, by simpa using hl, hm, fun i hi j u hu2 => ?_⟩⟩
      have hi2 : i < len0 := by simpa using hi
      have e : ((List.range len0).map R)[i] = R i := by simp
      rw [e] at hu2
      have hj : j < E.n := by
        have := (List.getElem?_eq_some_iff.1 hu2).1
        rw [E.len] at this
        exact this
      have hc := hR i (by omega) j hj
      rw [hadd, hu2, ← Nat.add_assoc] at hc
      exact hc
end
set_option maxRecDepth 100000 in
/-- One that came in. -/
theorem topo_open {H : Type} {enc : TypeId × Value → H} {W : World} {n : Nat} {cs : List Value} {x : DataW H × List MemPlace}
    (h : DataW.trod enc Try.prog W 0 (fun _ => true) true n 25 cs = some x) : ∃ S ao n cap ao2 n2 cap2 Ls Hs, cs = [.int .i64 S, .slice ao n cap, .slice ao2 n2 cap2] ∧ GS lnkE W (.slice ao n cap) Ls ∧ GS hstE W (.slice ao2 n2 cap2) Hs := by
  obtain ⟨xs, k, _, _, hl, hlen, hf⟩ := DataW.trod_struct Try.underlying25 h
  have hC : Try.prog.cellsOf 25 = 3 := by kernel_rfl
  have hT0 : Try.prog.cellsOf 3 = 1 := by kernel_rfl
  have hT1 : Try.prog.cellsOf 22 = 1 := by kernel_rfl
  have hT2 : Try.prog.cellsOf 23 = 1 := by kernel_rfl
  rw [hC] at hl
  match cs, hl with
  | [c0, c1, c2], _ =>
    match xs, hlen with
    | [z0, z1, z2], _ =>
      have g0 := hf 0 _ rfl
      have g1 := hf 1 _ rfl
      have g2 := hf 2 _ rfl
      simp [hT0, hT1, hT2] at g0 g1 g2
      obtain ⟨v0, e0, _, _⟩ := DataW.trod_int Try.underlying3 g0
      obtain ⟨ao, n, cap, Ls, e1, hL⟩ := gs_open (E := lnkE) 22 80 Try.underlying22 (by kernel_rfl) ((0, 0), (0, 0)) (fun _ _ _ h => lnk_open h) g1
      obtain ⟨ao2, n2, cap2, Hs, e2, hH⟩ := gs_open (E := hstE) 23 32 Try.underlying23 (by kernel_rfl) (ByteArray.empty, (0, 0)) (fun _ _ _ h => hst_open h) g2
      simp at e0 e1 e2
      exact ⟨v0, ao, n, cap, ao2, n2, cap2, Ls, Hs, by simp [e0, e1, e2], hL, hH⟩
theorem topo_of {H : Type} {enc : TypeId × Value → H} {W : World} {base : Nat} {v : Value} {d : DataW H} {p : List MemPlace}
    (hv : Value.okWide Try.prog W .any base 25 v) (h : DataW.Trod enc Try.prog W 0 (fun _ => true) true 25 v d p) : ∃ S ao n cap ao2 n2 cap2 Ls Hs, v = .agg #[.int .i64 S, .slice ao n cap, .slice ao2 n2 cap2] ∧ GS lnkE W (.slice ao n cap) Ls ∧ GS hstE W (.slice ao2 n2 cap2) Hs := by
  obtain ⟨cs, rfl, hsz⟩ := okWide_struct Try.underlying25 hv
  obtain ⟨n, hn⟩ := h
  obtain ⟨S, ao, n, cap, ao2, n2, cap2, Ls, Hs, e, h1, h2⟩ := topo_open hn
  refine ⟨S, ao, n, cap, ao2, n2, cap2, Ls, Hs, ?_, h1, h2⟩
  simp only [Value.cells] at e
  rw [← Array.toArray_toList (xs := cs), e]
end Go.Proofs.Ytpmcjelihdlfeaa
/- The struct api.Cube: its cells, slices of them, == of two, such that came in. Written by mk/struct.py. -/
namespace Go.Proofs.Ytpmcjelihdlfeaa
open Go.ChangeShapes Go.WideShapes Go.ChangeAt Go.RowKit Go.Joins
set_option linter.unusedSimpArgs false
set_option linter.unusedVariables false
set_option maxRecDepth 100000

def cuE : Enc (Int × Int) where
  c := fun x => [.int .i64 x.1, .int .i64 x.2]
  n := 2
  len := fun _ => rfl
  pos := by decide
  one := by
    intro x u hu
    simp at hu
    rcases hu with rfl | rfl <;> rfl
theorem cu_cells {w : World} {g o : Nat} {x0 : Int} {x1 : Int} (h : VAt w g o (cuE.c (x0, x1))) : w.cell? ⟨g, o, none⟩ = some (.int .i64 x0) ∧ w.cell? ⟨g, o + 1, none⟩ = some (.int .i64 x1) :=
  ⟨h 0 _ rfl, h 1 _ rfl⟩
theorem cu_at {w : World} {g o : Nat} {L : List (Int × Int)} (h : GAt cuE w g o L) {n k : Nat} (hn : L.length = n) (hk : k < n) :
    ∃ (x0 : Int) (x1 : Int) (hl : k < L.length), L[k] = (x0, x1) ∧ w.cell? ⟨g, o + k * 2, none⟩ = some (.int .i64 x0) ∧ w.cell? ⟨g, o + k * 2 + 1, none⟩ = some (.int .i64 x1) :=
  have hl : k < L.length := by omega
  ⟨_, _, hl, rfl, cu_cells (h k hl)⟩
theorem cu_new (w : World) (x0 : Int) (x1 : Int) (t : TypeId) : VAt (w.alloc (Obj.cells #[.int .i64 x0, .int .i64 x1] t)) w.heap.size 0 (cuE.c (x0, x1)) := vat_new w [.int .i64 x0, .int .i64 x1] t
theorem cu_row (w : World) (x0 : Int) (x1 : Int) (t : TypeId) : GS cuE (w.alloc (Obj.cells #[.int .i64 x0, .int .i64 x1] t)) (.slice (some ⟨w.heap.size, 0, none⟩) 1 1) [(x0, x1)] := gs_one (E := cuE) w (x0, x1) t (vs := [.int .i64 x0, .int .i64 x1]) rfl
/-- Are two the same? -/
def cuB (a b : Int × Int) : Bool := (a.1 == b.1) && ((a.2 == b.2))
theorem cuB_iff (a b : Int × Int) : cuB a b = true ↔ a = b := by
  have e : cuB a b = ((a.1 == b.1) && ((a.2 == b.2))) := rfl
  rw [e]
  simp only [Bool.and_eq_true, beq_iff_eq]
  constructor
  · intro h
    obtain ⟨a0, a1⟩ := a; obtain ⟨b0, b1⟩ := b; simp at h ⊢; simp [h]
  · intro h
    subst h
    simp
theorem cu_ways (x0 : Int) (x1 : Int) (y0 : Int) (y1 : Int) :
    ((x0 == y0) = false ∧ cuB (x0, x1) (y0, y1) = false) ∨
    ((x0 == y0) = true ∧ (x1 == y1) = false ∧ cuB (x0, x1) (y0, y1) = false) ∨
    ((x0 == y0) = true ∧ (x1 == y1) = true ∧ cuB (x0, x1) (y0, y1) = true) := by
  have e : cuB (x0, x1) (y0, y1) = ((x0 == y0) && ((x1 == y1))) := rfl
  rw [e]
  cases h0 : (x0 == y0)
  · simp
  · skip
    cases h1 : (x1 == y1)
    · simp
    · skip
      simp
set_option maxRecDepth 100000 in
theorem cu_eq (x0 : Int) (x1 : Int) (y0 : Int) (y1 : Int) (w : World) : (Op.equal 34 (.agg #[.int .i64 x0, .int .i64 x1]) (.agg #[.int .i64 y0, .int .i64 y1])).run Try.prog w = .ok (cuB (x0, x1) (y0, y1)) w := by
  unfold Op.equal Op.maxDepth
  rw [run_equalIn_struct w 9999 _ _ _ (by kernel_rfl) (by kernel_rfl)]
  rcases cu_ways x0 x1 y0 y1 with ⟨e0, e⟩ | ⟨e0, e1, e⟩ | ⟨e0, e1, e⟩
  all_goals
    rw [e]
    go_simp
theorem cu_info : (Try.prog.info? 34).map (fun i => (i.zero, i.size, i.bytes)) = some (some (.agg #[.int .i64 0, .int .i64 0]), 2, 16) := by kernel_rfl
theorem cu_zero : (Value.agg #[.int .i64 0, .int .i64 0]).cells.size = 2 := by simp [Value.cells]
/-- Cells that read as one. -/
theorem cu_open {H : Type} {enc : TypeId × Value → H} {W : World} {n : Nat} {cs : List Value} {x : DataW H × List MemPlace}
    (h : DataW.trod enc Try.prog W 0 (fun _ => true) true n 34 cs = some x) : ∃ y, cs = cuE.c y := by
  obtain ⟨xs, k, _, _, hl, hlen, hf⟩ := DataW.trod_struct Try.underlying34 h
  have hC : Try.prog.cellsOf 34 = 2 := by kernel_rfl
  have hT0 : Try.prog.cellsOf 3 = 1 := by kernel_rfl
  rw [hC] at hl
  match cs, hl with
  | [c0, c1], _ =>
    match xs, hlen with
    | [z0, z1], _ =>
      have g0 := hf 0 _ rfl
      have g1 := hf 1 _ rfl
      simp [hT0] at g0 g1
      obtain ⟨v0, e0, _, _⟩ := DataW.trod_int Try.underlying3 g0
      obtain ⟨v1, e1, _, _⟩ := DataW.trod_int Try.underlying3 g1
      simp [] at e0 e1
      refine ⟨(v0, v1), ?_⟩
      simp [cuE, e0, e1]
set_option maxRecDepth 100000 in
/-- One that came in. -/
theorem cu_of {H : Type} {enc : TypeId × Value → H} {W : World} {base : Nat} {v : Value} {d : DataW H} {p : List MemPlace}
    (hv : Value.okWide Try.prog W .any base 34 v) (h : DataW.Trod enc Try.prog W 0 (fun _ => true) true 34 v d p) : ∃ (x0 : Int) (x1 : Int), v = .agg #[.int .i64 x0, .int .i64 x1] := by
  obtain ⟨cs, rfl, hsz⟩ := okWide_struct Try.underlying34 hv
  obtain ⟨n, hn⟩ := h
  obtain ⟨y, e⟩ := cu_open hn
  refine ⟨y.1, y.2, ?_⟩
  simp only [Value.cells] at e
  have e2 : cs = #[.int .i64 y.1, .int .i64 y.2] := by
    rw [← Array.toArray_toList (xs := cs), e]
    rfl
  rw [e2]
end Go.Proofs.Ytpmcjelihdlfeaa
/- The struct api.Rule: its cells, slices of them, == of two, such that came in. Written by mk/struct.py. -/
namespace Go.Proofs.Ytpmcjelihdlfeaa
open Go.ChangeShapes Go.WideShapes Go.ChangeAt Go.RowKit Go.Joins
set_option linter.unusedSimpArgs false
set_option linter.unusedVariables false
set_option maxRecDepth 100000

def rlE : Enc (Ru) where
  c := fun x => [.int .i64 x.p, .int .i64 x.m, .int .i64 x.b, .int .i64 x.o, .int .i64 x.s, .int .i64 x.v]
  n := 6
  len := fun _ => rfl
  pos := by decide
  one := by
    intro x u hu
    simp at hu
    rcases hu with rfl | rfl | rfl | rfl | rfl | rfl <;> rfl
theorem rl_cells {w : World} {g o : Nat} {x0 : Int} {x1 : Int} {x2 : Int} {x3 : Int} {x4 : Int} {x5 : Int} (h : VAt w g o (rlE.c ⟨x0, x1, x2, x3, x4, x5⟩)) : w.cell? ⟨g, o, none⟩ = some (.int .i64 x0) ∧ w.cell? ⟨g, o + 1, none⟩ = some (.int .i64 x1) ∧ w.cell? ⟨g, o + 2, none⟩ = some (.int .i64 x2) ∧ w.cell? ⟨g, o + 3, none⟩ = some (.int .i64 x3) ∧ w.cell? ⟨g, o + 4, none⟩ = some (.int .i64 x4) ∧ w.cell? ⟨g, o + 5, none⟩ = some (.int .i64 x5) :=
  ⟨h 0 _ rfl, h 1 _ rfl, h 2 _ rfl, h 3 _ rfl, h 4 _ rfl, h 5 _ rfl⟩
theorem rl_at {w : World} {g o : Nat} {L : List (Ru)} (h : GAt rlE w g o L) {n k : Nat} (hn : L.length = n) (hk : k < n) :
    ∃ (x0 : Int) (x1 : Int) (x2 : Int) (x3 : Int) (x4 : Int) (x5 : Int) (hl : k < L.length), L[k] = ⟨x0, x1, x2, x3, x4, x5⟩ ∧ w.cell? ⟨g, o + k * 6, none⟩ = some (.int .i64 x0) ∧ w.cell? ⟨g, o + k * 6 + 1, none⟩ = some (.int .i64 x1) ∧ w.cell? ⟨g, o + k * 6 + 2, none⟩ = some (.int .i64 x2) ∧ w.cell? ⟨g, o + k * 6 + 3, none⟩ = some (.int .i64 x3) ∧ w.cell? ⟨g, o + k * 6 + 4, none⟩ = some (.int .i64 x4) ∧ w.cell? ⟨g, o + k * 6 + 5, none⟩ = some (.int .i64 x5) :=
  have hl : k < L.length := by omega
  ⟨_, _, _, _, _, _, hl, rfl, rl_cells (h k hl)⟩
theorem rl_new (w : World) (x0 : Int) (x1 : Int) (x2 : Int) (x3 : Int) (x4 : Int) (x5 : Int) (t : TypeId) : VAt (w.alloc (Obj.cells #[.int .i64 x0, .int .i64 x1, .int .i64 x2, .int .i64 x3, .int .i64 x4, .int .i64 x5] t)) w.heap.size 0 (rlE.c ⟨x0, x1, x2, x3, x4, x5⟩) := vat_new w [.int .i64 x0, .int .i64 x1, .int .i64 x2, .int .i64 x3, .int .i64 x4, .int .i64 x5] t
theorem rl_row (w : World) (x0 : Int) (x1 : Int) (x2 : Int) (x3 : Int) (x4 : Int) (x5 : Int) (t : TypeId) : GS rlE (w.alloc (Obj.cells #[.int .i64 x0, .int .i64 x1, .int .i64 x2, .int .i64 x3, .int .i64 x4, .int .i64 x5] t)) (.slice (some ⟨w.heap.size, 0, none⟩) 1 1) [⟨x0, x1, x2, x3, x4, x5⟩] := gs_one (E := rlE) w ⟨x0, x1, x2, x3, x4, x5⟩ t (vs := [.int .i64 x0, .int .i64 x1, .int .i64 x2, .int .i64 x3, .int .i64 x4, .int .i64 x5]) rfl
/-- Are two the same? -/
def rlB (a b : Ru) : Bool := (a.p == b.p) && ((a.m == b.m) && ((a.b == b.b) && ((a.o == b.o) && ((a.s == b.s) && ((a.v == b.v))))))
theorem rlB_iff (a b : Ru) : rlB a b = true ↔ a = b := by
  have e : rlB a b = ((a.p == b.p) && ((a.m == b.m) && ((a.b == b.b) && ((a.o == b.o) && ((a.s == b.s) && ((a.v == b.v))))))) := rfl
  rw [e]
  simp only [Bool.and_eq_true, beq_iff_eq]
  constructor
  · intro h
    obtain ⟨a0, a1, a2, a3, a4, a5⟩ := a; obtain ⟨b0, b1, b2, b3, b4, b5⟩ := b; simp at h ⊢; simp [h]
  · intro h
    subst h
    simp
theorem rl_ways (x0 : Int) (x1 : Int) (x2 : Int) (x3 : Int) (x4 : Int) (x5 : Int) (y0 : Int) (y1 : Int) (y2 : Int) (y3 : Int) (y4 : Int) (y5 : Int) :
    ((x0 == y0) = false ∧ rlB ⟨x0, x1, x2, x3, x4, x5⟩ ⟨y0, y1, y2, y3, y4, y5⟩ = false) ∨
    ((x0 == y0) = true ∧ (x1 == y1) = false ∧ rlB ⟨x0, x1, x2, x3, x4, x5⟩ ⟨y0, y1, y2, y3, y4, y5⟩ = false) ∨
    ((x0 == y0) = true ∧ (x1 == y1) = true ∧ (x2 == y2) = false ∧ rlB ⟨x0, x1, x2, x3, x4, x5⟩ ⟨y0, y1, y2, y3, y4, y5⟩ = false) ∨
    ((x0 == y0) = true ∧ (x1 == y1) = true ∧ (x2 == y2) = true ∧ (x3 == y3) = false ∧ rlB ⟨x0, x1, x2, x3, x4, x5⟩ ⟨y0, y1, y2, y3, y4, y5⟩ = false) ∨
    ((x0 == y0) = true ∧ (x1 == y1) = true ∧ (x2 == y2) = true ∧ (x3 == y3) = true ∧ (x4 == y4) = false ∧ rlB ⟨x0, x1, x2, x3, x4, x5⟩ ⟨y0, y1, y2, y3, y4, y5⟩ = false) ∨
    ((x0 == y0) = true ∧ (x1 == y1) = true ∧ (x2 == y2) = true ∧ (x3 == y3) = true ∧ (x4 == y4) = true ∧ (x5 == y5) = false ∧ rlB ⟨x0, x1, x2, x3, x4, x5⟩ ⟨y0, y1, y2, y3, y4, y5⟩ = false) ∨
    ((x0 == y0) = true ∧ (x1 == y1) = true ∧ (x2 == y2) = true ∧ (x3 == y3) = true ∧ (x4 == y4) = true ∧ (x5 == y5) = true ∧ rlB ⟨x0, x1, x2, x3, x4, x5⟩ ⟨y0, y1, y2, y3, y4, y5⟩ = true) := by
  have e : rlB ⟨x0, x1, x2, x3, x4, x5⟩ ⟨y0, y1, y2, y3, y4, y5⟩ = ((x0 == y0) && ((x1 == y1) && ((x2 == y2) && ((x3 == y3) && ((x4 == y4) && ((x5 == y5))))))) := rfl
  rw [e]
  cases h0 : (x0 == y0)
  · simp
  · skip
    cases h1 : (x1 == y1)
    · simp
    · skip
      cases h2 : (x2 == y2)
      · simp
      · skip
        cases h3 : (x3 == y3)
        · simp
        · skip
          cases h4 : (x4 == y4)
          · simp
          · skip
            cases h5 : (x5 == y5)
            · simp
            · skip
              simp
set_option maxRecDepth 100000 in
theorem rl_eq (x0 : Int) (x1 : Int) (x2 : Int) (x3 : Int) (x4 : Int) (x5 : Int) (y0 : Int) (y1 : Int) (y2 : Int) (y3 : Int) (y4 : Int) (y5 : Int) (w : World) : (Op.equal 36 (.agg #[.int .i64 x0, .int .i64 x1, .int .i64 x2, .int .i64 x3, .int .i64 x4, .int .i64 x5]) (.agg #[.int .i64 y0, .int .i64 y1, .int .i64 y2, .int .i64 y3, .int .i64 y4, .int .i64 y5])).run Try.prog w = .ok (rlB ⟨x0, x1, x2, x3, x4, x5⟩ ⟨y0, y1, y2, y3, y4, y5⟩) w := by
  unfold Op.equal Op.maxDepth
  rw [run_equalIn_struct w 9999 _ _ _ (by kernel_rfl) (by kernel_rfl)]
  rcases rl_ways x0 x1 x2 x3 x4 x5 y0 y1 y2 y3 y4 y5 with ⟨e0, e⟩ | ⟨e0, e1, e⟩ | ⟨e0, e1, e2, e⟩ | ⟨e0, e1, e2, e3, e⟩ | ⟨e0, e1, e2, e3, e4, e⟩ | ⟨e0, e1, e2, e3, e4, e5, e⟩ | ⟨e0, e1, e2, e3, e4, e5, e⟩
  all_goals
    rw [e]
    go_simp
theorem rl_info : (Try.prog.info? 36).map (fun i => (i.zero, i.size, i.bytes)) = some (some (.agg #[.int .i64 0, .int .i64 0, .int .i64 0, .int .i64 0, .int .i64 0, .int .i64 0]), 6, 48) := by kernel_rfl
theorem rl_zero : (Value.agg #[.int .i64 0, .int .i64 0, .int .i64 0, .int .i64 0, .int .i64 0, .int .i64 0]).cells.size = 6 := by simp [Value.cells]
/-- Cells that read as one. -/
theorem rl_open {H : Type} {enc : TypeId × Value → H} {W : World} {n : Nat} {cs : List Value} {x : DataW H × List MemPlace}
    (h : DataW.trod enc Try.prog W 0 (fun _ => true) true n 36 cs = some x) : ∃ y, cs = rlE.c y := by
  obtain ⟨xs, k, _, _, hl, hlen, hf⟩ := DataW.trod_struct Try.underlying36 h
  have hC : Try.prog.cellsOf 36 = 6 := by kernel_rfl
  have hT0 : Try.prog.cellsOf 3 = 1 := by kernel_rfl
  have hT1 : Try.prog.cellsOf 34 = 2 := by kernel_rfl
  rw [hC] at hl
  match cs, hl with
  | [c0, c1, c2, c3, c4, c5], _ =>
    match xs, hlen with
    | [z0, z1, z2, z3, z4], _ =>
      have g0 := hf 0 _ rfl
      have g1 := hf 1 _ rfl
      have g2 := hf 2 _ rfl
      have g3 := hf 3 _ rfl
      have g4 := hf 4 _ rfl
      simp [hT0, hT1] at g0 g1 g2 g3 g4
      obtain ⟨v0, e0, _, _⟩ := DataW.trod_int Try.underlying3 g0
      obtain ⟨s1, e1⟩ := cu_open g1
      obtain ⟨v3, e2, _, _⟩ := DataW.trod_int Try.underlying3 g2
      obtain ⟨v4, e3, _, _⟩ := DataW.trod_int Try.underlying3 g3
      obtain ⟨v5, e4, _, _⟩ := DataW.trod_int Try.underlying3 g4
      simp [cuE] at e0 e1 e2 e3 e4
      refine ⟨⟨v0, s1.1, s1.2, v3, v4, v5⟩, ?_⟩
      simp [rlE, e0, e1, e2, e3, e4]
set_option maxRecDepth 100000 in
/-- One that came in. -/
theorem rl_of {H : Type} {enc : TypeId × Value → H} {W : World} {base : Nat} {v : Value} {d : DataW H} {p : List MemPlace}
    (hv : Value.okWide Try.prog W .any base 36 v) (h : DataW.Trod enc Try.prog W 0 (fun _ => true) true 36 v d p) : ∃ (x0 : Int) (x1 : Int) (x2 : Int) (x3 : Int) (x4 : Int) (x5 : Int), v = .agg #[.int .i64 x0, .int .i64 x1, .int .i64 x2, .int .i64 x3, .int .i64 x4, .int .i64 x5] := by
  obtain ⟨cs, rfl, hsz⟩ := okWide_struct Try.underlying36 hv
  obtain ⟨n, hn⟩ := h
  obtain ⟨y, e⟩ := rl_open hn
  refine ⟨y.p, y.m, y.b, y.o, y.s, y.v, ?_⟩
  simp only [Value.cells] at e
  have e2 : cs = #[.int .i64 y.p, .int .i64 y.m, .int .i64 y.b, .int .i64 y.o, .int .i64 y.s, .int .i64 y.v] := by
    rw [← Array.toArray_toList (xs := cs), e]
    rfl
  rw [e2]
/-- A slice of them that came in. -/
theorem rls_of {H : Type} {enc : TypeId × Value → H} {W : World} {base : Nat} {v : Value} {d : DataW H} {p : List MemPlace}
    (hv : Value.okWide Try.prog W .any base 38 v) (h : DataW.Trod enc Try.prog W 0 (fun _ => true) true 38 v d p) : ∃ L, GS rlE W v L :=
  gs_of (E := rlE) 38 36 Try.underlying38 (by kernel_rfl) ⟨0, 0, 0, 0, 0, 0⟩ (fun _ _ _ h => rl_open h) hv h
end Go.Proofs.Ytpmcjelihdlfeaa
/- A net that came in: its topology, its tables. -/
namespace Go.Proofs.Ytpmcjelihdlfeaa
open Go.ChangeShapes Go.WideShapes Go.ChangeAt Go.RowKit Go.Joins
set_option linter.unusedSimpArgs false
set_option linter.unusedVariables false
set_option maxRecDepth 100000

theorem gs_SR {w : World} {v : Value} {L : List Ru} (h : GS rlE w v L) : SR w v L := by
  rcases h with h | ⟨g, o, cap, h1, h2, h3, h4⟩
  · exact .inl h
  · refine .inr ⟨g, o, cap, h1, h2, h3, fun i hi => ?_⟩
    have hv := h4 i hi
    generalize L[i] = r at hv
    obtain ⟨p, m, b, q, s, x⟩ := r
    obtain ⟨q0, q1, q2, q3, q4, q5⟩ := rl_cells hv
    exact ⟨q0, q1, q2, q3, q4, q5⟩
set_option maxRecDepth 100000 in
theorem table_open {H : Type} {enc : TypeId × Value → H} {W : World} {fuel : Nat} {cs : List Value} {x : DataW H × List MemPlace}
    (h : DataW.trod enc Try.prog W 0 (fun _ => true) true fuel 38 cs = some x) : ∃ ao n cap L, cs = [.slice ao n cap] ∧ SR W (.slice ao n cap) L := by
  obtain ⟨ao, n, cap, L, e, hL⟩ := gs_open (E := rlE) 38 36 Try.underlying38 (by kernel_rfl) zeR (fun _ _ _ h => rl_open h) h
  exact ⟨ao, n, cap, L, e, gs_SR hL⟩
set_option maxRecDepth 100000 in
theorem tables_open {H : Type} {enc : TypeId × Value → H} {W : World} {fuel : Nat} {cs : List Value} {x : DataW H × List MemPlace}
    (hf2 : DataW.trod enc Try.prog W 0 (fun _ => true) true fuel 26 cs = some x) : ∃ ao n cap Ts, cs = [.slice ao n cap] ∧ TS W (.slice ao n cap) Ts := by
  obtain ⟨d, p⟩ := x
  have hC : Try.prog.cellsOf 38 = 1 := by kernel_rfl
  rcases Go.Deep.open_slice Try.underlying26 hf2 with ⟨hc, hx⟩ | ⟨a, len0, cap, m, k, D, Pl, hc, _, hl, hm, hmm, hx, hall⟩
  · exact ⟨_, _, _, [], hc, .inl ⟨none, 0, rfl, rfl⟩⟩
  · simp only [if_true] at hmm
    subst hmm
    rcases Nat.eq_zero_or_pos len0 with h0 | h0
    · subst h0
      exact ⟨_, _, _, [], hc, .inl ⟨_, _, rfl, rfl⟩⟩
    · have each : ∀ i, i < m → ∃ L : List Ru, ∃ ao n cap, W.cell? (a.add i) = some (.slice ao n cap) ∧ SR W (.slice ao n cap) L := by
        intro i hi
        obtain ⟨cs, h1, h2⟩ := hall i hi
        rw [hC] at h1
        obtain ⟨_, hlen, hcell⟩ := World.cells?_some h1
        obtain ⟨ao, n, cap, L, rfl, hL⟩ := table_open h2
        refine ⟨L, ao, n, cap, ?_, hL⟩
        have := hcell 0 (by simp)
        rw [Go.Deep.add_add] at this
        simpa using this
      obtain ⟨R, hR⟩ := Go.Deep.choose_lt each
      obtain ⟨sb, so, spot⟩ := a
      have hspot : spot = none := by
        obtain ⟨ao, n, cap, h1, _⟩ := hR 0 (by omega)
        simpa [Addr.add] using World.cell?_spot h1
      subst hspot
      have hadd : ∀ j, (⟨sb, so, none⟩ : Addr).add j = ⟨sb, so + j, none⟩ := by
        intro j
        simp only [Addr.add]
        first
          | rfl
          | (split
             · next h0 => rw [h0]; rfl
             · rfl)
      refine ⟨_, _, _, (List.range len0).map R, hc, .inr ⟨sb, so, _, by simp, by simpa using hl, hm, fun i hi => ?_⟩⟩
      have hi2 : i < len0 := by simpa using hi
      have e : ((List.range len0).map R)[i] = R i := by simp
      rw [e]
      obtain ⟨ao, n, cap, h1, h2⟩ := hR i (by omega)
      rw [hadd] at h1
      exact ⟨ao, n, cap, h1, h2⟩
set_option maxRecDepth 100000 in
/-- One that came in. -/
theorem net_open {H : Type} {enc : TypeId × Value → H} {W : World} {n : Nat} {cs : List Value} {x : DataW H × List MemPlace}
    (h : DataW.trod enc Try.prog W 0 (fun _ => true) true n 28 cs = some x) : ∃ S ao n cap ao2 n2 cap2 ao3 n3 cap3 Ls Hs Ts, cs = [.int .i64 S, .slice ao n cap, .slice ao2 n2 cap2, .slice ao3 n3 cap3] ∧ GS lnkE W (.slice ao n cap) Ls ∧ GS hstE W (.slice ao2 n2 cap2) Hs ∧ TS W (.slice ao3 n3 cap3) Ts := by
  obtain ⟨xs, k, _, _, hl, hlen, hf⟩ := DataW.trod_struct Try.underlying28 h
  have hC : Try.prog.cellsOf 28 = 4 := by kernel_rfl
  have hT0 : Try.prog.cellsOf 25 = 3 := by kernel_rfl
  have hT1 : Try.prog.cellsOf 26 = 1 := by kernel_rfl
  rw [hC] at hl
  match cs, hl with
  | [c0, c1, c2, c3], _ =>
    match xs, hlen with
    | [z0, z1], _ =>
      have g0 := hf 0 _ rfl
      have g1 := hf 1 _ rfl
      simp [hT0, hT1] at g0 g1
      obtain ⟨S, ao, n, cap, ao2, n2, cap2, Ls, Hs, e0, hL, hH⟩ := topo_open g0
      obtain ⟨ao3, n3, cap3, Ts, e1, hT⟩ := tables_open g1
      simp at e0 e1
      exact ⟨S, ao, n, cap, ao2, n2, cap2, ao3, n3, cap3, Ls, Hs, Ts, by simp [e0, e1], hL, hH, hT⟩
theorem net_of {H : Type} {enc : TypeId × Value → H} {W : World} {base : Nat} {v : Value} {d : DataW H} {p : List MemPlace}
    (hv : Value.okWide Try.prog W .any base 28 v) (h : DataW.Trod enc Try.prog W 0 (fun _ => true) true 28 v d p) : ∃ S ao n cap ao2 n2 cap2 ao3 n3 cap3 Ls Hs Ts, v = .agg #[.int .i64 S, .slice ao n cap, .slice ao2 n2 cap2, .slice ao3 n3 cap3] ∧ GS lnkE W (.slice ao n cap) Ls ∧ GS hstE W (.slice ao2 n2 cap2) Hs ∧ TS W (.slice ao3 n3 cap3) Ts := by
  obtain ⟨cs, rfl, hsz⟩ := okWide_struct Try.underlying28 hv
  obtain ⟨n, hn⟩ := h
  obtain ⟨S, ao, n, cap, ao2, n2, cap2, ao3, n3, cap3, Ls, Hs, Ts, e, h1, h2, h3⟩ := net_open hn
  refine ⟨S, ao, n, cap, ao2, n2, cap2, ao3, n3, cap3, Ls, Hs, Ts, ?_, h1, h2, h3⟩
  simp only [Value.cells] at e
  rw [← Array.toArray_toList (xs := cs), e]
end Go.Proofs.Ytpmcjelihdlfeaa
