/- The walk of NetWalks: it answers true, whatever net, spot, header and place it is called with. -/
import Derived.Test.YtfbocionnjlilacNetFrom
import Derived.Test.YtfbocionnjlilacNetSend
import Derived.Test.YtfbocionnjlilacNetWalksMath
import Derived.Test.YtfbocionnjlilacTopoPeer
import Derived.Deep.QuietTactic
import Derived.BigQuiet
import Derived.BigRegion
import Derived.Deep.RegionWith
import Derived.Deep.RegionHeld3
import Derived.Deep.CutRange
import Derived.Deep.CutBlock
namespace Go.Proofs.Ytfbocionnjlilac.netWalks
open Go.RowKit
set_option linter.unusedSimpArgs false
set_option linter.unusedVariables false

theorem al (X : World) (o : Obj) : ∃ Y, X.alloc o = Y ∧ Below X.heap.size X Y ∧ Y.heap.size = X.heap.size + 1 := ⟨_, rfl, (Below.refl _ _).alloc (Nat.le_refl _) _, by simp⟩
theorem below_drewN (w : World) (n : Nat) : Below w.heap.size w (w.drewN n) := ⟨rfl, rfl, rfl, Nat.le_refl _, fun _ _ => rfl⟩
theorem sr_one (W : World) (p m b o s v : Int) (t : TypeId) : SR (W.alloc (.cells #[.int .i64 p, .int .i64 m, .int .i64 b, .int .i64 o, .int .i64 s, .int .i64 v] t)) (.slice (some ⟨W.heap.size, 0, none⟩) 1 1) [⟨p, m, b, o, s, v⟩] := by
  refine .inr ⟨W.heap.size, 0, 1, rfl, Nat.le_refl _, by unfold maxLen; omega, ?_⟩
  intro i hi
  match i, hi with
  | 0, _ =>
    have h := vat_new W [.int .i64 p, .int .i64 m, .int .i64 b, .int .i64 o, .int .i64 s, .int .i64 v] t
    exact ⟨h 0 _ rfl, h 1 _ rfl, h 2 _ rfl, h 3 _ rfl, h 4 _ rfl, h 5 _ rfl⟩
theorem ts_one {W : World} {a1 : Option Addr} {n1 c1 : Nat} {L1 : List Ru} (t : TypeId) (h1 : SR W (.slice a1 n1 c1) L1) :
    TS (W.alloc (.cells #[.slice a1 n1 c1] t)) (.slice (some ⟨W.heap.size, 0, none⟩) 1 1) [L1] := by
  have hb : Below W.heap.size W (W.alloc (.cells #[.slice a1 n1 c1] t)) := (Below.refl _ _).alloc (Nat.le_refl _) _
  refine .inr ⟨W.heap.size, 0, 1, rfl, Nat.le_refl _, by unfold maxLen; omega, ?_⟩
  intro i hi
  match i, hi with
  | 0, _ => exact ⟨a1, n1, c1, by simp, h1.later hb⟩
/-- What holds all along: the net and the spot in their boxes, a fate in its box, its hops. -/
structure WK (w W : World) (S : Int) (v1 v2 v3 : Value) (x y : Int) (gF : Nat) (V1 : Int) (V2 : ByteArray) (g5 o5 n5 c5 : Nat) (L : List ((Int × Int) × Int)) : Prop where
  o : OBox w W S v1 v2 v3 x y
  f0 : W.cell? ⟨gF, 0, none⟩ = some (.int .i64 V1)
  f1 : W.cell? ⟨gF, 1, none⟩ = some (.string V2)
  f2 : W.cell? ⟨gF, 2, none⟩ = some (.slice (some ⟨g5, o5, none⟩) n5 c5)
  l : GAt hopE W g5 o5 L
theorem WK.later {w W W' : World} {S : Int} {v1 v2 v3 : Value} {x y : Int} {gF : Nat} {V1 : Int} {V2 : ByteArray} {g5 o5 n5 c5 : Nat} {L : List ((Int × Int) × Int)} (k : WK w W S v1 v2 v3 x y gF V1 V2 g5 o5 n5 c5 L) (hb : Below W.heap.size W W') : WK w W' S v1 v2 v3 x y gF V1 V2 g5 o5 n5 c5 L :=
  ⟨k.o.later hb, cell_later hb k.f0, cell_later hb k.f1, cell_later hb k.f2, k.l.later hb⟩
theorem new2 (W : World) (a b : Value) (t : TypeId) : (W.alloc (Obj.cells #[a, b] t)).cell? ⟨W.heap.size, 0, none⟩ = some a ∧ (W.alloc (Obj.cells #[a, b] t)).cell? ⟨W.heap.size, 1, none⟩ = some b := ⟨by simp, by simp⟩
theorem new3 (W : World) (a b c : Value) (t : TypeId) : (W.alloc (Obj.cells #[a, b, c] t)).cell? ⟨W.heap.size, 0, none⟩ = some a ∧ (W.alloc (Obj.cells #[a, b, c] t)).cell? ⟨W.heap.size, 1, none⟩ = some b ∧ (W.alloc (Obj.cells #[a, b, c] t)).cell? ⟨W.heap.size, 2, none⟩ = some c := ⟨by simp, by simp, by simp⟩
theorem byte_empty {s : ByteArray} (h : s.toList.isEmpty = true) : s = ByteArray.empty := by
  have h1 : s.toList = s.data.toList := by rw [Lib.toList_data]
  rw [h1, List.isEmpty_iff] at h
  apply ByteArray.ext
  show s.data = #[]
  rw [← Array.toList_inj]
  exact h
theorem at_get {L : List ((Int × Int) × Int)} {k : Nat} (hk : k < L.length) : atH L k = L[k] := by simp [atH, List.getD, hk]

set_option maxHeartbeats 16000000 in
set_option maxRecDepth 100000 in
theorem walk (S : Int) (ao : Option Addr) (n cap : Nat) (ao2 : Option Addr) (n2 cap2 : Nat) (ao3 : Option Addr) (n3 cap3 : Nat) (Ls : List ((Int × Int) × (Int × Int))) (Hs : List (ByteArray × (Int × Int))) (Ts : List (List Ru)) (x y h c : Int) (w : World)
    (hL : GS lnkE w (.slice ao n cap) Ls) (hH : GS hstE w (.slice ao2 n2 cap2) Hs) (hT : TS w (.slice ao3 n3 cap3) Ts) :
    Calls Try.prog 4 #[.agg #[.int .i64 S, .slice ao n cap, .slice ao2 n2 cap2, .slice ao3 n3 cap3], .agg #[.int .i64 x, .int .i64 y], .int .i64 h, .int .i64 c] w fun e w' => e = .returned (.bool true) ∧ Below w.heap.size w w' := by
  have HLW : Hid (∀ W, Below w.heap.size w W → GS lnkE W (.slice ao n cap) Ls) := fun W hb => hL.later hb
  have HHW : Hid (∀ W, Below w.heap.size w W → GS hstE W (.slice ao2 n2 cap2) Hs) := fun W hb => hH.later hb
  have HTW : Hid (∀ W, Below w.heap.size w W → TS W (.slice ao3 n3 cap3) Ts) := fun W hb => hT.later hb
  have hX := obox_new w S (.slice ao n cap) (.slice ao2 n2 cap2) (.slice ao3 n3 cap3) x y
  obtain ⟨w0, hw0⟩ : ∃ W, (w.alloc (Obj.cells #[.int .i64 S, .slice ao n cap, .slice ao2 n2 cap2, .slice ao3 n3 cap3] 42)).alloc (Obj.cells #[.int .i64 x, .int .i64 y] 27) = W := ⟨_, rfl⟩
  rw [hw0] at hX
  have HX : Hid (OBox w w0 S (.slice ao n cap) (.slice ao2 n2 cap2) (.slice ao3 n3 cap3) x y) := hX
  have HW0 : Hid ((w.alloc (Obj.cells #[.int .i64 S, .slice ao n cap, .slice ao2 n2 cap2, .slice ao3 n3 cap3] 42)).alloc (Obj.cells #[.int .i64 x, .int .i64 y] 27) = w0) := hw0
  obtain ⟨E1, h1, b1, s1⟩ := al w0 (Obj.cells #[.string ⟨#[97]⟩, .int .i64 1, .int .i64 2] 44)
  have r1 := hst_row w0 ⟨#[97]⟩ 1 2 44
  rw [h1] at r1
  obtain ⟨E2, h2, b2, s2⟩ := al E1 (Obj.cells #[.int .i64 1, .int .i64 0, .int .i64 0, .int .i64 2, .int .i64 0, .int .i64 0] 48)
  have r2 := sr_one E1 1 0 0 2 0 0 48
  rw [h2, s1] at r2
  rw [s1] at s2
  obtain ⟨E3, h3, b3, s3⟩ := al E2 (Obj.cells #[.slice (some ⟨w0.heap.size + 1, 0, none⟩) 1 1] 50)
  have r3 := ts_one 50 r2
  rw [h3, s2] at r3
  rw [s2] at s3
  obtain ⟨E4, h4, b4, s4⟩ := al E3 (Obj.cells #[.int .i64 1, .slice none 0 0, .slice (some ⟨w0.heap.size, 0, none⟩) 1 1, .slice (some ⟨w0.heap.size + 1 + 1, 0, none⟩) 1 1] 42)
  have n4 := nebox_new E3 1 (.slice none 0 0) (.slice (some ⟨w0.heap.size, 0, none⟩) 1 1) (.slice (some ⟨w0.heap.size + 1 + 1, 0, none⟩) 1 1) 42
  rw [h4, s3] at n4
  have HN4 : Hid (NeBox E4 (w0.heap.size + 1 + 1 + 1) 1 (.slice none 0 0) (.slice (some ⟨w0.heap.size, 0, none⟩) 1 1) (.slice (some ⟨w0.heap.size + 1 + 1, 0, none⟩) 1 1)) := n4
  have HT4 : Hid (TS E4 (.slice (some ⟨w0.heap.size + 1 + 1, 0, none⟩) 1 1) [[⟨1, 0, 0, 2, 0, 0⟩]]) := r3.later b4
  have HH4 : Hid (GS hstE E4 (.slice (some ⟨w0.heap.size, 0, none⟩) 1 1) [(⟨#[97]⟩, (1, 2))]) := ((r1.later b2).later b3).later b4
  have HX4 : Hid (OBox w E4 S (.slice ao n cap) (.slice ao2 n2 cap2) (.slice ao3 n3 cap3) x y) := (((hX.later b1).later b2).later b3).later b4
  have H1 : Hid (w0.alloc (Obj.cells #[.string ⟨#[97]⟩, .int .i64 1, .int .i64 2] 44) = E1) := h1
  have H2 : Hid (E1.alloc (Obj.cells #[.int .i64 1, .int .i64 0, .int .i64 0, .int .i64 2, .int .i64 0, .int .i64 0] 48) = E2) := h2
  have H3 : Hid (E2.alloc (Obj.cells #[.slice (some ⟨w0.heap.size + 1, 0, none⟩) 1 1] 50) = E3) := h3
  have H4 : Hid (E3.alloc (Obj.cells #[.int .i64 1, .slice none 0 0, .slice (some ⟨w0.heap.size, 0, none⟩) 1 1, .slice (some ⟨w0.heap.size + 1 + 1, 0, none⟩) 1 1] 42) = E4) := h4
  clear hL hH hT hX hw0 h1 h2 h3 h4 b1 b2 b3 b4 s1 s2 s3 s4 r1 r2 r3 n4 HX
  go_enter Try.func4, Try.ntmps4
  go_upto_region 1 with fail
  rw [HW0.out]
  clear HW0
  go_upto_region 2 with fail
  rw [H1.out, H2.out, H3.out, H4.out]
  clear H1 H2 H3 H4
  obtain ⟨a0, a1, a2, a3⟩ := HN4.out
  go_wp2_with fail
  refine (send_any 1 none 0 0 _ 1 1 _ 1 1 [] [(⟨#[97]⟩, (1, 2))] [[⟨1, 0, 0, 2, 0, 0⟩]] ⟨#[97]⟩ 5 _ (GS.nil _) HH4.out HT4.out).mono ?_
  rintro e wS ⟨ao4, n4, cap4, rfl, hown, hbS⟩
  obtain ⟨t1, t2, t3, t4⟩ := walks_one
  have hn4 : n4 = 1 := by
    have h1 := (own_GS (E := hopE) hown).len
    rw [← h1]
    exact t4
  subst hn4
  rw [t1, no_ok rfl, t2]
  have t3' : (seV 1 [] [(⟨#[97]⟩, (1, 2))] [[⟨1, 0, 0, 2, 0, 0⟩]] ⟨#[97]⟩ 5).2.1 = ⟨#[97]⟩ := by
    have : ∀ b : ByteArray, b.data = #[97] → b = ⟨#[97]⟩ := fun b hb => by cases b; simp at hb; rw [hb]
    exact this _ t3
  rw [t3']
  have HXS : Hid (OBox w wS S (.slice ao n cap) (.slice ao2 n2 cap2) (.slice ao3 n3 cap3) x y) := HX4.out.later hbS
  clear hown hbS t1 t2 t3 t3' t4 a0 a1 a2 a3 HN4 HT4 HH4 HX4
  obtain ⟨wT, hwT, bT, sT⟩ := al wS (Obj.cells #[.int .i64 1, .string ⟨#[97]⟩, .slice ao4 1 cap4] 53)
  have HXT : Hid (OBox w wT S (.slice ao n cap) (.slice ao2 n2 cap2) (.slice ao3 n3 cap3) x y) := HXS.out.later bT
  have HWT : Hid (wS.alloc (Obj.cells #[.int .i64 1, .string ⟨#[97]⟩, .slice ao4 1 cap4] 53) = wT) := hwT
  clear hwT bT sT HXS
  go_upto_region 5 with fail
  rw [HWT.out]
  clear HWT
  obtain ⟨_, ⟨b0, b1, b2, b3⟩, s0, s1, _⟩ := HXT.out
  go_wp2_with fail
  refine (from_any S ao n cap ao2 n2 cap2 ao3 n3 cap3 Ls Hs Ts x y h _ (HLW.out _ HXT.out.below) (HHW.out _ HXT.out.below) (HTW.out _ HXT.out.below)).mono ?_
  rintro e w1 ⟨ao5, n5, cap5, rfl, hown, hb1⟩
  obtain ⟨R, hR⟩ : ∃ R, R = cpN S Ls Hs Ts (x, y) h := ⟨_, rfl⟩
  obtain ⟨V, hV⟩ : ∃ V, V = frV S Ls Hs Ts (x, y) h := ⟨_, rfl⟩
  have HR : Hid (R = cpN S Ls Hs Ts (x, y) h) := hR
  have HV : Hid (V = frV S Ls Hs Ts (x, y) h) := hV
  rw [← hV] at hown
  rw [← hR, ← hV]
  have HX1 : Hid (OBox w w1 S (.slice ao n cap) (.slice ao2 n2 cap2) (.slice ao3 n3 cap3) x y) := HXT.out.later hb1
  have hn5 := (own_GS (E := hopE) hown).len
  have HGS : Hid (GS hopE w1 (.slice ao5 n5 cap5) V.2.2) := own_GS (E := hopE) hown
  have HN5 : Hid (V.2.2.length = n5) := hn5
  obtain ⟨V1, hV1⟩ : ∃ q, q = V.1 := ⟨_, rfl⟩
  obtain ⟨V2, hV2⟩ : ∃ q, q = V.2.1 := ⟨_, rfl⟩
  have HV1 : Hid (V.1 = V1) := hV1.symm
  have HV2 : Hid (V.2.1 = V2) := hV2.symm
  rw [← hV1, ← hV2]
  obtain ⟨wF, hwF, bF, sF⟩ := al w1 (Obj.cells #[.int .i64 V1, .string V2, .slice ao5 n5 cap5] 53)
  have vF := vat_new w1 [.int .i64 V1, .string V2, .slice ao5 n5 cap5] 53
  obtain ⟨gF, hgF⟩ : ∃ g, w1.heap.size = g := ⟨_, rfl⟩
  have vF2 : VAt wF gF 0 [.int .i64 V1, .string V2, .slice ao5 n5 cap5] := by
    rw [← hwF, ← hgF]
    exact vF
  have HXF : Hid (OBox w wF S (.slice ao n cap) (.slice ao2 n2 cap2) (.slice ao3 n3 cap3) x y) := HX1.out.later bF
  have HVF : Hid (VAt wF gF 0 [.int .i64 V1, .string V2, .slice ao5 n5 cap5]) := vF2
  have HGF : Hid (GS hopE wF (.slice ao5 n5 cap5) V.2.2) := HGS.out.later bF
  have HWF : Hid (w1.alloc (Obj.cells #[.int .i64 V1, .string V2, .slice ao5 n5 cap5] 53) = wF) := hwF
  have HgF : Hid (w1.heap.size = gF) := hgF
  clear hown hb1 hR hV hn5 hV1 hV2 hwF bF sF vF hgF vF2 HX1 HGS HXT b0 b1 b2 b3 s0 s1
  go_upto_region 6 with fail
  rw [HWF.out, HgF.out]
  clear HWF HgF
  by_cases h0 : R = 0
  · have HC0 : Hid (cpN S Ls Hs Ts (x, y) h = 0) := HR.out.symm.trans h0
    have hVF : V = frF Ls Hs Ts (x, y) h := by rw [HV.out, frV, if_pos HC0.out]
    have hWFx := wf_of HC0.out
    rw [← hVF] at hWFx
    have HWF : Hid (WF S Ls Hs Ts (x, y) h V) := hWFx
    have HN0 : Hid (ntN S Ls Hs Ts = 0) := (cp_0 HC0.out).1
    have hl1 := hWFx.l1
    have hl24 := hWFx.l24
    rw [HN5.out] at hl1 hl24
    obtain ⟨_, _, _, e6, _, _, _, hGa⟩ := HGF.out.form
    cases e6
    obtain ⟨g5, o5, hao5, hG5, _⟩ := hGa hl1
    subst hao5
    have hK : WK w wF S (.slice ao n cap) (.slice ao2 n2 cap2) (.slice ao3 n3 cap3) x y gF V1 V2 g5 o5 n5 cap5 V.2.2 := ⟨HXF.out, HVF.out 0 _ rfl, HVF.out 1 _ rfl, HVF.out 2 _ rfl, hG5⟩
    have HK : Hid (WK w wF S (.slice ao n cap) (.slice ao2 n2 cap2) (.slice ao3 n3 cap3) x y gF V1 V2 g5 o5 n5 cap5 V.2.2) := hK
    subst h0
    rw [no_ok rfl]
    clear hVF hWFx hGa hG5 hK HXF HVF HGF HR HV
    go_upto_region 8 with fail
    go_cut [99] from 23 (fun q w' => q = .bool false ∧ Below wF.heap.size wF w')
    case first =>
      as_aux_lemma =>
        obtain ⟨⟨_, ⟨b0, b1, b2, b3⟩, s0, s1, _⟩, f0, f1, f2, hl⟩ := HK.out
        have hla := (wf_last HWF.out HN0.out).2
        rw [HV1.out, HV2.out] at hla
        have hat := HWF.out.at0
        rw [at_get (by rw [HN5.out]; exact hl1)] at hat
        have hc := hl 0 (by rw [HN5.out]; exact hl1)
        rw [hat] at hc
        obtain ⟨c0, c1, c2⟩ := hop_cells hc
        simp only [Nat.zero_mul, Nat.add_zero] at c0 c1 c2
        have d1 : decide ((n5 : Int) < 1) = false := by simp; omega
        have d2 : decide (24 < (n5 : Int)) = false := by simp; omega
        have d3 : (0 : Int) < (n5 : Int) := by omega
        have m1 : gF < wF.heap.size := World.block_lt_of_cell? _ _ f0
        have m2 : g5 < wF.heap.size := World.block_lt_of_cell? _ _ c0
        have m3 : w.heap.size + 1 < wF.heap.size := World.block_lt_of_cell? _ _ s0
        by_cases h1 : V1 = 1
        · have e1 : (V1 == 1) = true := by simp [h1]
          have e2 : V2.toList.isEmpty = false := by
            have hne := hla.1 h1
            cases hV : V2.toList.isEmpty
            · rfl
            · exact absurd (byte_empty hV) hne
          clear hla hat hc hl h1
          go_wp2_with fail
          go_quiet (fail)
          go_wp2_with fail
          go_meet
          case rel => exact ⟨rfl, below_drewN _ _⟩
        · have e1 : (V1 == 1) = false := by simpa using h1
          have e2 : V2.toList.isEmpty = true := by
            have hne : V2 = ByteArray.empty := Classical.byContradiction fun hn => h1 (hla.2 hn)
            rw [hne, Lib.toList_data]
            rfl
          clear hla hat hc hl h1
          go_wp2_with fail
          go_quiet (fail)
          go_wp2_with fail
          go_meet
          case rel => exact ⟨rfl, below_drewN _ _⟩
    case rest =>
      obtain ⟨rfl, hbG⟩ := hcut
      have HKG : Hid (WK w wc S (.slice ao n cap) (.slice ao2 n2 cap2) (.slice ao3 n3 cap3) x y gF V1 V2 g5 o5 n5 cap5 V.2.2) := HK.out.later hbG
      clear hbG HK
      go_upto_block 0 with fail
      obtain ⟨wG, hwG⟩ : ∃ X, X = wc := ⟨_, rfl⟩
      subst hwG
      go_cut [14, 15, 16, 17, 18, 19, 20] from 23 (fun _ _ _ _ _ _ _ w' => Below wG.heap.size wG w')
      case first =>
        go_wp2
        go_loopw [14] (fun i wr => ∃ k : Nat, k ≤ n5 ∧ i = .int .i64 k ∧ Below wG.heap.size wG wr) (fun i _ => n5 - (intOf i).toNat)
        case atStart => exact ⟨0, by omega, rfl, Below.refl _ _⟩
        case round =>
          obtain ⟨k, hk, rfl, hBr⟩ := hrel
          obtain ⟨wo, hwo⟩ : ∃ X, X = wr := ⟨_, rfl⟩
          subst hwo
          have HKo : Hid (WK w wo S (.slice ao n cap) (.slice ao2 n2 cap2) (.slice ao3 n3 cap3) x y gF V1 V2 g5 o5 n5 cap5 V.2.2) := HKG.out.later hBr
          have HBo : Hid (Below wG.heap.size wG wo) := hBr
          clear hBr
          by_cases hlt : k < n5
          · obtain ⟨⟨_, ⟨b0, b1, b2, b3⟩, s0, s1, _⟩, f0, f1, f2, hl⟩ := HKo.out
            obtain ⟨p0, p1, p2, hkl, hLk, c0, c1, c2⟩ := hop_at hl HN5.out hlt
            have HLK : Hid (V.2.2[k] = ((p0, p1), p2)) := hLk
            have HAT : Hid (atH V.2.2 k = ((p0, p1), p2)) := (at_get hkl).trans hLk
            have HL : Hid (GAt hopE wo g5 o5 V.2.2) := hl
            have m1 : gF < wo.heap.size := World.block_lt_of_cell? _ _ f0
            have m2 : g5 < wo.heap.size := World.block_lt_of_cell? _ _ c0
            have m3 : w.heap.size < wo.heap.size := World.block_lt_of_cell? _ _ b0
            have kb0 : (0 : Int) ≤ (k : Int) := by omega
            have kb1 : (k : Int) < (n5 : Int) := by omega
            clear hl hLk
            go_wp2
            go_loopw [15] (fun j wz => ∃ q : Nat, q ≤ k ∧ j = .int .i64 q ∧ Below wo.heap.size wo wz) (fun j _ => k - (intOf j).toNat)
            case atStart => exact ⟨0, by omega, rfl, Below.refl _ _⟩
            case round =>
              obtain ⟨q, hq, rfl, hBz⟩ := hrel
              have HBz : Hid (Below wo.heap.size wo wr) := hBz
              have HKz : Hid (WK w wr S (.slice ao n cap) (.slice ao2 n2 cap2) (.slice ao3 n3 cap3) x y gF V1 V2 g5 o5 n5 cap5 V.2.2) := HKo.out.later hBz
              obtain ⟨⟨_, ⟨b0, b1, b2, b3⟩, s0, s1, _⟩, f0, f1, f2, hl⟩ := HKz.out
              obtain ⟨p0', p1', p2', hkl', hLk', c0, c1, c2⟩ := hop_at hl HN5.out hlt
              rw [HLK.out] at hLk'
              cases hLk'
              have m1 : gF < wr.heap.size := World.block_lt_of_cell? _ _ f0
              have m2 : g5 < wr.heap.size := World.block_lt_of_cell? _ _ c0
              have m3 : w.heap.size < wr.heap.size := World.block_lt_of_cell? _ _ b0
              clear hBz
              by_cases hqk : q < k
              · obtain ⟨v0, v1, v2, hql, hLq, d0, d1, d2⟩ := hop_at hl HN5.out (show q < n5 by omega)
                have hne : ¬ ((v0, v1), v2) = ((p0, p1), p2) := by
                  rw [← hLq, ← HLK.out]
                  intro e
                  have := (List.getElem_inj HWF.out.nd).1 e
                  omega
                have qb0 : (0 : Int) ≤ (q : Int) := by omega
                have qb1 : (q : Int) < (n5 : Int) := by omega
                have hw3 : (v0 == p0) = false ∨ ((v0 == p0) = true ∧ (v1 == p1) = false) ∨ ((v0 == p0) = true ∧ (v1 == p1) = true ∧ (v2 == p2) = false) := by
                  cases z0 : (v0 == p0)
                  · exact .inl rfl
                  · cases z1 : (v1 == p1)
                    · exact .inr (.inl ⟨rfl, rfl⟩)
                    · refine .inr (.inr ⟨rfl, rfl, ?_⟩)
                      cases z2 : (v2 == p2)
                      · rfl
                      · simp only [beq_iff_eq] at z0 z1 z2
                        exact absurd (by rw [z0, z1, z2]) hne
                clear hne hl hLq
                rcases hw3 with z0 | ⟨z0, z1⟩ | ⟨z0, z1, z2⟩
                · as_aux_lemma =>
                    go_wp2_with fail
                    go_quiet (fail)
                    go_wp2
                    go_roundw
                    case rel => exact ⟨q + 1, by omega, by go_num, HBz.out.trans ((below_drewN _ _).mono HBz.out.size)⟩
                    case measure => simp [intOf]; omega
                · as_aux_lemma =>
                    go_wp2_with fail
                    go_quiet (fail)
                    go_wp2
                    go_roundw
                    case rel => exact ⟨q + 1, by omega, by go_num, HBz.out.trans ((below_drewN _ _).mono HBz.out.size)⟩
                    case measure => simp [intOf]; omega
                · as_aux_lemma =>
                    go_wp2_with fail
                    go_quiet (fail)
                    go_wp2
                    go_roundw
                    case rel => exact ⟨q + 1, by omega, by go_num, HBz.out.trans ((below_drewN _ _).mono HBz.out.size)⟩
                    case measure => simp [intOf]; omega
              · obtain rfl : q = k := by omega
                clear hl
                obtain ⟨SN, hSN⟩ : ∃ u, u = spN S Ls Hs Ts (p0, p1) p2 := ⟨_, rfl⟩
                obtain ⟨T1, hT1⟩ : ∃ u, u = (spV S Ls Hs Ts (p0, p1) p2).1.1 := ⟨_, rfl⟩
                obtain ⟨T2, hT2⟩ : ∃ u, u = (spV S Ls Hs Ts (p0, p1) p2).1.2 := ⟨_, rfl⟩
                obtain ⟨T3, hT3⟩ : ∃ u, u = (spV S Ls Hs Ts (p0, p1) p2).2 := ⟨_, rfl⟩
                have HSN : Hid (spN S Ls Hs Ts (p0, p1) p2 = SN) := hSN.symm
                have HT1 : Hid ((spV S Ls Hs Ts (p0, p1) p2).1.1 = T1) := hT1.symm
                have HT2 : Hid ((spV S Ls Hs Ts (p0, p1) p2).1.2 = T2) := hT2.symm
                have HT3 : Hid ((spV S Ls Hs Ts (p0, p1) p2).2 = T3) := hT3.symm
                clear hSN hT1 hT2 hT3
                obtain ⟨wi, hwi⟩ : ∃ X, X = wr := ⟨_, rfl⟩
                subst hwi
                go_upto_region 18 with fail
                go_cut [16, 17, 18] from 123 to 140 (fun p u er w' => ∃ g, p = .pointer (some ⟨g, 0, none⟩) ∧ u = .int .i64 T3 ∧ er = noV SN ∧ (w'.cell? ⟨g, 0, none⟩ = some (.int .i64 T1) ∧ w'.cell? ⟨g, 1, none⟩ = some (.int .i64 T2)) ∧ Below wi.heap.size wi w')
                case first =>
                  as_aux_lemma =>
                    have HMK : Hid (∀ W, Below wi.heap.size wi W → (fun w' => Below wi.heap.size wi w' ∧ w'.cell? ⟨w.heap.size, 0, none⟩ = some (.int .i64 S) ∧ w'.cell? ⟨w.heap.size, 1, none⟩ = some (.slice ao n cap) ∧ w'.cell? ⟨w.heap.size, 2, none⟩ = some (.slice ao2 n2 cap2) ∧ w'.cell? ⟨w.heap.size, 3, none⟩ = some (.slice ao3 n3 cap3) ∧ w'.cell? ⟨gF, 2, none⟩ = some (.slice (some ⟨g5, o5, none⟩) n5 cap5) ∧ w'.cell? ⟨g5, o5 + q * 3, none⟩ = some (.int .i64 p0) ∧ w'.cell? ⟨g5, o5 + q * 3 + 1, none⟩ = some (.int .i64 p1) ∧ w'.cell? ⟨g5, o5 + q * 3 + 2, none⟩ = some (.int .i64 p2)) W) := fun W hb => ⟨hb, cell_later hb b0, cell_later hb b1, cell_later hb b2, cell_later hb b3, cell_later hb f2, cell_later hb c0, cell_later hb c1, cell_later hb c2⟩
                    have HFR : ∀ W, Below wi.heap.size wi W → Calls Try.prog 11 #[.agg #[.int .i64 S, .slice ao n cap, .slice ao2 n2 cap2, .slice ao3 n3 cap3], .agg #[.int .i64 p0, .int .i64 p1], .int .i64 p2] W fun e w' => e = .returned (.tuple #[.agg #[.int .i64 T1, .int .i64 T2], .int .i64 T3, noV SN]) ∧ Below W.heap.size W w' := by
                      intro W hb
                      have hB := HKz.out.o.below.trans (Below.mono hb HKz.out.o.below.size)
                      refine (stepA_any S ao n cap ao2 n2 cap2 ao3 n3 cap3 Ls Hs Ts p0 p1 p2 W (HLW.out _ hB) (HHW.out _ hB) (HTW.out _ hB)).mono ?_
                      rintro e w' ⟨he, hb⟩
                      rw [HSN.out, HT1.out, HT2.out, HT3.out] at he
                      exact ⟨he, hb⟩
                    have HFA : Hid (Calls Try.prog 11 #[.agg #[.int .i64 S, .slice ao n cap, .slice ao2 n2 cap2, .slice ao3 n3 cap3], .agg #[.int .i64 p0, .int .i64 p1], .int .i64 p2] wi.drew fun e w' => e = .returned (.tuple #[.agg #[.int .i64 T1, .int .i64 T2], .int .i64 T3, noV SN]) ∧ Below wi.heap.size wi w') := by
                      refine (HFR _ (Below.drew (Below.refl _ _))).mono ?_
                      rintro e w' ⟨he, hb⟩
                      exact ⟨he, bdrew hb⟩
                    have HFB : Hid (∀ (a b : Value) (t : TypeId), Calls Try.prog 11 #[.agg #[.int .i64 S, .slice ao n cap, .slice ao2 n2 cap2, .slice ao3 n3 cap3], .agg #[.int .i64 p0, .int .i64 p1], .int .i64 p2] (wi.drew.alloc (Obj.cells #[a, b] t)) fun e w' => e = .returned (.tuple #[.agg #[.int .i64 T1, .int .i64 T2], .int .i64 T3, noV SN]) ∧ Below wi.heap.size wi w' ∧ w'.cell? ⟨wi.heap.size, 0, none⟩ = some a ∧ w'.cell? ⟨wi.heap.size, 1, none⟩ = some b ∧ w'.frozen? ⟨wi.heap.size, 0, none⟩ = false ∧ w'.frozen? ⟨wi.heap.size, 1, none⟩ = false) := by
                      intro a b t
                      refine (HFR _ ((Below.drew (Below.refl _ _)).alloc (Nat.le_refl _) _)).mono ?_
                      rintro e w' ⟨he, hb⟩
                      exact ⟨he, balloc hb, ballocC hb⟩
                    clear HFR
                    go_region_held3 (fun w' => Below wi.heap.size wi w' ∧ w'.cell? ⟨w.heap.size, 0, none⟩ = some (.int .i64 S) ∧ w'.cell? ⟨w.heap.size, 1, none⟩ = some (.slice ao n cap) ∧ w'.cell? ⟨w.heap.size, 2, none⟩ = some (.slice ao2 n2 cap2) ∧ w'.cell? ⟨w.heap.size, 3, none⟩ = some (.slice ao3 n3 cap3) ∧ w'.cell? ⟨gF, 2, none⟩ = some (.slice (some ⟨g5, o5, none⟩) n5 cap5) ∧ w'.cell? ⟨g5, o5 + q * 3, none⟩ = some (.int .i64 p0) ∧ w'.cell? ⟨g5, o5 + q * 3 + 1, none⟩ = some (.int .i64 p1) ∧ w'.cell? ⟨g5, o5 + q * 3 + 2, none⟩ = some (.int .i64 p2))
                      (first | assumption | exact HMK.out _ (Below.drew (Below.refl _ _)) | exact HMK.out _ ((Below.drew (Below.refl _ _)).alloc (Nat.le_refl _) _) | exact HMK.out _ HBX.out | exact HMK.out _ (HBX.out.alloc HBX.out.size _) | exact HMK.out _ ((HBX.out.setCell (p := ⟨wi.heap.size, 0, none⟩) (Nat.le_refl _) _).setCell (p := ⟨wi.heap.size, 1, none⟩) (Nat.le_refl _) _) | exact HMK.out _ (((HBX.out.alloc HBX.out.size _).setCell (p := ⟨w'.heap.size, 0, none⟩) HBX.out.size _).setCell (p := ⟨w'.heap.size, 1, none⟩) HBX.out.size _))
                      (first | (go_at_call 11; refine HFA.out.mono ?_; rintro e w' ⟨rfl, hb⟩; have HBX : Hid (Below wi.heap.size wi w') := hb; clear hb) | (go_at_call 11; refine (HFB.out _ _ _).mono ?_; rintro e w' ⟨rfl, hb, k0, k1, kf0, kf1⟩; have HBX : Hid (Below wi.heap.size wi w') := hb; clear hb))
                    all_goals (go_wp2_with fail; go_meet)
                    · exact ⟨w'.heap.size, rfl, rfl, rfl, new2 _ _ _ _, HBX.out.alloc HBX.out.size _⟩
                    · exact ⟨wi.heap.size, rfl, rfl, rfl, two_cells k0 k1 rfl rfl, (HBX.out.setCell (p := ⟨wi.heap.size, 0, none⟩) (Nat.le_refl _) _).setCell (p := ⟨wi.heap.size, 1, none⟩) (Nat.le_refl _) _⟩
                case rest =>
                  obtain ⟨g, rfl, rfl, rfl, ⟨t0, t1⟩, hbw⟩ := hcut
                  have HKc : Hid (WK w wc S (.slice ao n cap) (.slice ao2 n2 cap2) (.slice ao3 n3 cap3) x y gF V1 V2 g5 o5 n5 cap5 V.2.2) := HKz.out.later hbw
                  have HBc : Hid (Below wG.heap.size wG wc) := HBo.out.trans (((HBz.out.trans (hbw.mono HBz.out.size))).mono HBo.out.size)
                  obtain ⟨⟨_, ⟨b0, b1, b2, b3⟩, s0, s1, _⟩, f0, f1, f2, hl⟩ := HKc.out
                  have m1 : gF < wc.heap.size := World.block_lt_of_cell? _ _ f0
                  have m4 : g < wc.heap.size := World.block_lt_of_cell? _ _ t0
                  clear hbw c0 c1 c2 m2 m3
                  by_cases hlast : q + 1 = n5
                  · have hmi : IntKind.i64.wrap ((n5 : Int) - 1) = (q : Int) := by
                      rw [show (n5 : Int) - 1 = (q : Int) by omega]
                      exact wrap_small (by omega) (by omega)
                    have hla := (wf_last HWF.out HN0.out).1
                    have e0 : laH V.2.2 = ((p0, p1), p2) := by
                      rw [la_at, HN5.out, show n5 - 1 = q by omega]
                      exact HAT.out
                    rw [e0, HV1.out] at hla
                    simp only at hla
                    rw [HSN.out] at hla
                    clear hl e0
                    by_cases hz : SN = 0
                    · as_aux_lemma =>
                        have e2 : (V1 == 2) = false := by
                          have hn : ¬ V1 = 2 := fun e => hla.2 e hz
                          simpa using hn
                        clear hla
                        subst hz
                        rw [no_ok rfl]
                        go_wp2_with fail
                        go_quiet (fail)
                        go_wp2_with fail
                        go_meet
                        case rel => exact HBc.out.trans ((below_drewN _ _).mono HBc.out.size)
                    · as_aux_lemma =>
                        have e2 : (V1 == 2) = true := by
                          have hn : V1 = 2 := hla.1 hz
                          simpa using hn
                        clear hla
                        rw [no_ne hz]
                        clear hz
                        go_wp2_with fail
                        go_quiet (fail)
                        go_wp2_with fail
                        go_meet
                        case rel => exact HBc.out.trans ((below_drewN _ _).mono HBc.out.size)
                  · as_aux_lemma =>
                      have hnx : q + 1 < n5 := by omega
                      have hmi : IntKind.i64.wrap ((n5 : Int) - 1) = (n5 : Int) - 1 := wrap_small (by omega) (by omega)
                      have hmj : ((q : Int) == (n5 : Int) - 1) = false := by simp; omega
                      obtain ⟨k1, k2, k3, k4⟩ := wf_next HWF.out HN0.out (i := q) (by rw [HN5.out]; exact hnx)
                      rw [HAT.out] at k1 k2 k3 k4
                      simp only at k1 k2 k3 k4
                      obtain ⟨u0, u1, u2, hul, hLu, d0, d1, d2⟩ := hop_at hl HN5.out hnx
                      have hAu : atH V.2.2 (q + 1) = ((u0, u1), u2) := (at_get hul).trans hLu
                      rw [hAu] at k3 k4
                      simp only at k3 k4
                      have hT : (spV S Ls Hs Ts (p0, p1) p2).1 = (T1, T2) := by rw [← HT1.out, ← HT2.out]
                      rw [hT] at k2 k3
                      rw [HSN.out] at k1
                      rw [HT3.out] at k4
                      have HK2 : Hid (peN S Ls Hs (T1, T2) = 0) := k2
                      have HK3 : Hid (peV S Ls Hs (T1, T2) = (u0, u1)) := k3
                      have HLu : Hid (V.2.2[q + 1] = ((u0, u1), u2)) := hLu
                      subst k1
                      subst k4
                      rw [no_ok rfl]
                      clear hl hLu hAu hT k2 k3 d0 d1 d2
                      go_wp2_with fail
                      refine (peer_any S ao n cap ao2 n2 cap2 Ls Hs T1 T2 _ (HLW.out _ HKc.out.o.below) (HHW.out _ HKc.out.o.below)).mono ?_
                      rintro e w5 ⟨rfl, hb5⟩
                      rw [HK2.out, HK3.out, no_ok rfl]
                      simp only
                      obtain ⟨w6, hw6, b6, s6⟩ := al w5 (Obj.cells #[.int .i64 u0, .int .i64 u1] 27)
                      have v6 := vat_new w5 [.int .i64 u0, .int .i64 u1] 27
                      obtain ⟨g6, hg6⟩ : ∃ g, w5.heap.size = g := ⟨_, rfl⟩
                      have v6' : VAt w6 g6 0 [.int .i64 u0, .int .i64 u1] := by
                        rw [← hw6, ← hg6]
                        exact v6
                      have HK6 : Hid (WK w w6 S (.slice ao n cap) (.slice ao2 n2 cap2) (.slice ao3 n3 cap3) x y gF V1 V2 g5 o5 n5 cap5 V.2.2) := (HKc.out.later hb5).later b6
                      have HB6 : Hid (Below wG.heap.size wG w6) := (HBc.out.trans (hb5.mono HBc.out.size)).trans (b6.mono (HBc.out.trans (hb5.mono HBc.out.size)).size)
                      have HW6 : Hid (w5.alloc (Obj.cells #[.int .i64 u0, .int .i64 u1] 27) = w6) := hw6
                      have Hg6 : Hid (w5.heap.size = g6) := hg6
                      have x0 : w6.cell? ⟨g6, 0, none⟩ = some (.int .i64 u0) := v6' 0 _ rfl
                      have x1 : w6.cell? ⟨g6, 1, none⟩ = some (.int .i64 u1) := v6' 1 _ rfl
                      obtain ⟨⟨_, ⟨b0, b1, b2, b3⟩, s0, s1, _⟩, f0, f1, f2, hl⟩ := HK6.out
                      obtain ⟨u0', u1', u2', hul', hLu', d0, d1, d2⟩ := hop_at hl HN5.out hnx
                      rw [HLu.out] at hLu'
                      cases hLu'
                      have m1 : gF < w6.heap.size := World.block_lt_of_cell? _ _ f0
                      have m2 : g5 < w6.heap.size := World.block_lt_of_cell? _ _ d0
                      have m6 : g6 < w6.heap.size := World.block_lt_of_cell? _ _ x0
                      have qw : IntKind.i64.wrap ((q : Int) + 1) = ((q + 1 : Nat) : Int) := by
                        rw [show (q : Int) + 1 = ((q + 1 : Nat) : Int) by omega]
                        exact wrap_small (by omega) (by omega)
                      have qb0 : (0 : Int) ≤ ((q + 1 : Nat) : Int) := by omega
                      have qb1 : ((q + 1 : Nat) : Int) < (n5 : Int) := by omega
                      clear hb5 hw6 b6 s6 v6 hg6 v6' hl t0 t1 m4
                      go_upto_region 23 with fail
                      rw [HW6.out, Hg6.out]
                      go_quiet (fail)
                      go_wp2
                      go_roundw
                      case rel => exact ⟨q + 1, by omega, by go_num, HB6.out.trans ((below_drewN _ _).mono HB6.out.size)⟩
                      case measure => simp [intOf]; omega
          · as_aux_lemma =>
              obtain rfl : k = n5 := by omega
              obtain ⟨⟨_, ⟨b0, b1, b2, b3⟩, s0, s1, _⟩, f0, f1, f2, hl⟩ := HKo.out
              clear hl
              go_wp2_with fail
              go_meet
              case rel => exact HBo.out
      case rest =>
        have HKH : Hid (WK w wc S (.slice ao n cap) (.slice ao2 n2 cap2) (.slice ao3 n3 cap3) x y gF V1 V2 g5 o5 n5 cap5 V.2.2) := HKG.out.later hcut
        have HBH : Hid (Below w.heap.size w wc) := HKH.out.o.below
        clear hcut HKG
        obtain ⟨⟨_, ⟨b0, b1, b2, b3⟩, s0, s1, _⟩, f0, f1, f2, _⟩ := HKH.out
        by_cases hc0 : c < 0
        · as_aux_lemma =>
            have e1 : decide (c < 0) = true := by simpa using hc0
            go_wp2
            go_ret
            exact ⟨rfl, HBH.out⟩
        · have e1 : decide (c < 0) = false := by simpa using hc0
          obtain ⟨k, rfl⟩ : ∃ k : Nat, c = (k : Int) := ⟨c.toNat, by omega⟩
          by_cases hc1 : n5 ≤ k
          · as_aux_lemma =>
              have e2 : decide ((n5 : Int) ≤ (k : Int)) = true := by simp; omega
              go_wp2
              go_ret
              exact ⟨rfl, HBH.out⟩
          · have e2 : decide ((n5 : Int) ≤ (k : Int)) = false := by simp; omega
            by_cases h4 : V1 = 4
            · as_aux_lemma =>
                have e3 : (V1 == 4) = true := by simp [h4]
                clear h4
                go_wp2
                go_ret
                exact ⟨rfl, HBH.out⟩
            · as_aux_lemma =>
                have e3 : (V1 == 4) = false := by simpa using h4
                obtain ⟨z1, z2, z3⟩ := wf_cut HWF.out (k := k) (by rw [HV1.out]; exact h4) (by rw [HN5.out]; omega)
                have hgk := HWF.out.good k (by rw [HN5.out]; omega)
                have hkn : k < n5 := by omega
                obtain ⟨p0, p1, p2, hkl, hLk, c0, c1, c2⟩ := hop_at HKH.out.l HN5.out hkn
                have hat : atH V.2.2 k = ((p0, p1), p2) := (at_get hkl).trans hLk
                rw [hat] at z1 z2 z3 hgk
                simp only at z1 z2 z3 hgk
                rw [HV1.out] at z1
                rw [HV2.out] at z2
                rw [HN5.out] at z3
                have HZ1 : Hid ((frV S Ls Hs Ts (p0, p1) p2).1 = V1) := z1
                have HZ2 : Hid ((frV S Ls Hs Ts (p0, p1) p2).2.1 = V2) := z2
                have HZ3 : Hid ((frV S Ls Hs Ts (p0, p1) p2).2.2.length = n5 - k) := z3
                have HGK : Hid (cpN S Ls Hs Ts (p0, p1) p2 = 0) := hgk
                have kb0 : (0 : Int) ≤ (k : Int) := by omega
                have kb1 : (k : Int) < (n5 : Int) := by omega
                have hmk : IntKind.i64.wrap ((n5 : Int) - (k : Int)) = ((n5 - k : Nat) : Int) := by
                  rw [show (n5 : Int) - (k : Int) = ((n5 - k : Nat) : Int) by omega]
                  exact wrap_small (by omega) (by omega)
                have m1 : gF < wc.heap.size := World.block_lt_of_cell? _ _ f0
                have m2 : g5 < wc.heap.size := World.block_lt_of_cell? _ _ c0
                have m3 : w.heap.size < wc.heap.size := World.block_lt_of_cell? _ _ b0
                clear h4 z1 z2 z3 hgk hLk hat
                obtain ⟨wH, hwH⟩ : ∃ X, X = wc := ⟨_, rfl⟩
                subst hwH
                go_upto_region 27 with fail
                go_cut [21, 22] from 23 (fun p er w' => ∃ g ao6 cap6, p = .pointer (some ⟨g, 0, none⟩) ∧ er = .nilIface ∧ (w'.cell? ⟨g, 0, none⟩ = some (.int .i64 V1) ∧ w'.cell? ⟨g, 1, none⟩ = some (.string V2) ∧ w'.cell? ⟨g, 2, none⟩ = some (.slice ao6 (n5 - k) cap6)) ∧ Below wH.heap.size wH w')
                case first =>
                  as_aux_lemma =>
                    have HMK : Hid (∀ W, Below wH.heap.size wH W → (fun w' => Below wH.heap.size wH w' ∧ w'.cell? ⟨w.heap.size, 0, none⟩ = some (.int .i64 S) ∧ w'.cell? ⟨w.heap.size, 1, none⟩ = some (.slice ao n cap) ∧ w'.cell? ⟨w.heap.size, 2, none⟩ = some (.slice ao2 n2 cap2) ∧ w'.cell? ⟨w.heap.size, 3, none⟩ = some (.slice ao3 n3 cap3) ∧ w'.cell? ⟨gF, 2, none⟩ = some (.slice (some ⟨g5, o5, none⟩) n5 cap5) ∧ w'.cell? ⟨g5, o5 + k * 3, none⟩ = some (.int .i64 p0) ∧ w'.cell? ⟨g5, o5 + k * 3 + 1, none⟩ = some (.int .i64 p1) ∧ w'.cell? ⟨g5, o5 + k * 3 + 2, none⟩ = some (.int .i64 p2)) W) := fun W hb => ⟨hb, cell_later hb b0, cell_later hb b1, cell_later hb b2, cell_later hb b3, cell_later hb f2, cell_later hb c0, cell_later hb c1, cell_later hb c2⟩
                    have HFR : ∀ W, Below wH.heap.size wH W → Calls Try.prog 10 #[.agg #[.int .i64 S, .slice ao n cap, .slice ao2 n2 cap2, .slice ao3 n3 cap3], .agg #[.int .i64 p0, .int .i64 p1], .int .i64 p2] W fun e w' => ∃ ao6 cap6, e = .returned (.tuple #[.agg #[.int .i64 V1, .string V2, .slice ao6 (n5 - k) cap6], .nilIface]) ∧ Below W.heap.size W w' := by
                      intro W hb
                      have hB := HKH.out.o.below.trans (Below.mono hb HKH.out.o.below.size)
                      refine (from_any S ao n cap ao2 n2 cap2 ao3 n3 cap3 Ls Hs Ts p0 p1 p2 W (HLW.out _ hB) (HHW.out _ hB) (HTW.out _ hB)).mono ?_
                      rintro e w' ⟨ao6, n6, cap6, he, hown, hb⟩
                      have hn6 := (own_GS (E := hopE) hown).len
                      rw [HZ3.out] at hn6
                      rw [HZ1.out, HZ2.out, HGK.out, no_ok rfl, ← hn6] at he
                      exact ⟨ao6, cap6, he, hb⟩
                    have HFA : Hid (Calls Try.prog 10 #[.agg #[.int .i64 S, .slice ao n cap, .slice ao2 n2 cap2, .slice ao3 n3 cap3], .agg #[.int .i64 p0, .int .i64 p1], .int .i64 p2] wH.drew fun e w' => ∃ ao6 cap6, e = .returned (.tuple #[.agg #[.int .i64 V1, .string V2, .slice ao6 (n5 - k) cap6], .nilIface]) ∧ Below wH.heap.size wH w') := by
                      refine (HFR _ (Below.drew (Below.refl _ _))).mono ?_
                      rintro e w' ⟨ao6, cap6, he, hb⟩
                      exact ⟨ao6, cap6, he, bdrew hb⟩
                    have HFB : Hid (∀ (a b c : Value) (t : TypeId), Calls Try.prog 10 #[.agg #[.int .i64 S, .slice ao n cap, .slice ao2 n2 cap2, .slice ao3 n3 cap3], .agg #[.int .i64 p0, .int .i64 p1], .int .i64 p2] (wH.drew.alloc (Obj.cells #[a, b, c] t)) fun e w' => ∃ ao6 cap6, e = .returned (.tuple #[.agg #[.int .i64 V1, .string V2, .slice ao6 (n5 - k) cap6], .nilIface]) ∧ Below wH.heap.size wH w' ∧ (w'.cell? ⟨wH.heap.size, 0, none⟩ = some a ∧ w'.cell? ⟨wH.heap.size, 1, none⟩ = some b ∧ w'.cell? ⟨wH.heap.size, 2, none⟩ = some c) ∧ w'.frozen? ⟨wH.heap.size, 0, none⟩ = false ∧ w'.frozen? ⟨wH.heap.size, 1, none⟩ = false ∧ w'.frozen? ⟨wH.heap.size, 2, none⟩ = false) := by
                      intro a b c t
                      refine (HFR _ ((Below.drew (Below.refl _ _)).alloc (Nat.le_refl _) _)).mono ?_
                      rintro e w' ⟨ao6, cap6, he, hb⟩
                      exact ⟨ao6, cap6, he, balloc hb, ballocD hb⟩
                    clear HFR
                    go_region_held3 (fun w' => Below wH.heap.size wH w' ∧ w'.cell? ⟨w.heap.size, 0, none⟩ = some (.int .i64 S) ∧ w'.cell? ⟨w.heap.size, 1, none⟩ = some (.slice ao n cap) ∧ w'.cell? ⟨w.heap.size, 2, none⟩ = some (.slice ao2 n2 cap2) ∧ w'.cell? ⟨w.heap.size, 3, none⟩ = some (.slice ao3 n3 cap3) ∧ w'.cell? ⟨gF, 2, none⟩ = some (.slice (some ⟨g5, o5, none⟩) n5 cap5) ∧ w'.cell? ⟨g5, o5 + k * 3, none⟩ = some (.int .i64 p0) ∧ w'.cell? ⟨g5, o5 + k * 3 + 1, none⟩ = some (.int .i64 p1) ∧ w'.cell? ⟨g5, o5 + k * 3 + 2, none⟩ = some (.int .i64 p2))
                      (first | assumption | exact HMK.out _ (Below.drew (Below.refl _ _)) | exact HMK.out _ ((Below.drew (Below.refl _ _)).alloc (Nat.le_refl _) _) | exact HMK.out _ HBX.out | exact HMK.out _ (HBX.out.alloc HBX.out.size _) | exact HMK.out _ (below_put3 HBX.out _ (Nat.le_refl _) _ _ _) | exact HMK.out _ (below_put3 (HBX.out.alloc HBX.out.size _) _ HBX.out.size _ _ _))
                      (first | (go_at_call 10; refine HFA.out.mono ?_; rintro e w' ⟨ao6, cap6, rfl, hb⟩; have HBX : Hid (Below wH.heap.size wH w') := hb; clear hb) | (go_at_call 10; refine (HFB.out _ _ _ _).mono ?_; rintro e w' ⟨ao6, cap6, rfl, hb, ⟨k0, k1, k2⟩, kf0, kf1, kf2⟩; have HBX : Hid (Below wH.heap.size wH w') := hb; clear hb))
                    all_goals (go_wp2_with fail; go_meet)
                    · exact ⟨w'.heap.size, ao6, cap6, rfl, rfl, new3 _ _ _ _ _, HBX.out.alloc HBX.out.size _⟩
                    · exact ⟨wH.heap.size, ao6, cap6, rfl, rfl, put3_cells ⟨k0, k1, k2⟩, below_put3 HBX.out _ (Nat.le_refl _) _ _ _⟩
                case rest =>
                  obtain ⟨g, ao6, cap6, rfl, rfl, ⟨t0, t1, t2⟩, hbw⟩ := hcut
                  obtain ⟨⟨hBB, ⟨b0, b1, b2, b3⟩, s0, s1, _⟩, f0, f1, f2, _⟩ := HKH.out.later hbw
                  have HBB : Hid (Below w.heap.size w wc) := hBB
                  clear hbw hBB
                  go_wp2
                  go_ret
                  exact ⟨rfl, HBB.out⟩
  · as_aux_lemma =>
      rw [no_ne h0]
      have HBF : Hid (Below w.heap.size w wF) := HXF.out.below
      clear h0
      go_wp2
      go_ret
      exact ⟨rfl, HBF.out⟩
end Go.Proofs.Ytfbocionnjlilac.netWalks
