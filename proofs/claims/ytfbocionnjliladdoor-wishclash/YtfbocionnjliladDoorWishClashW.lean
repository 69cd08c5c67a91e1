/- The walk of WishClash: it answers true, whatever net and two names it is called with. -/
import Derived.Test.YtfbocionnjliladDoorWishBasePCard
namespace Go.Proofs.YtfbocionnjliladDoor.wishClash
open Go.RowKit
set_option linter.unusedSimpArgs false
set_option linter.unusedVariables false

/-- The boxes: a net, two wishes, a fate. -/
structure QBox (w W : World) (S : Int) (v1 v2 v3 : Value) (f t : ByteArray) : Prop where
  below : Below w.heap.size w W
  n : NeBox W w.heap.size S v1 v2 v3
  a : WiBox W (w.heap.size + 1) 1 f t 0
  b : WiBox W (w.heap.size + 1 + 1) 2 f t 0
  c : FaBox W (w.heap.size + 1 + 1 + 1) 1 t (.slice none 0 0)
theorem QBox.later {w W W' : World} {S : Int} {v1 v2 v3 : Value} {f t : ByteArray} (k : QBox w W S v1 v2 v3 f t) (hb : Below W.heap.size W W') : QBox w W' S v1 v2 v3 f t :=
  ⟨k.below.trans (hb.mono k.below.size), k.n.later hb, k.a.later hb, k.b.later hb, k.c.later hb⟩
theorem qbox_new (w : World) (S : Int) (v1 v2 v3 : Value) (f t : ByteArray) : QBox w ((((w.alloc (Obj.cells #[.int .i64 S, v1, v2, v3] 28)).alloc (Obj.cells #[.int .i64 1, .string f, .string t, .int .i64 0] 61)).alloc (Obj.cells #[.int .i64 2, .string f, .string t, .int .i64 0] 61)).alloc (Obj.cells #[.int .i64 1, .string t, .slice none 0 0] 64)) S v1 v2 v3 f t := by
  have hb : ∀ (W : World) (o : Obj), Below W.heap.size W (W.alloc o) := fun W o => (Below.refl _ _).alloc (Nat.le_refl _) _
  have hn := nebox_new w S v1 v2 v3 28
  have h0 := hb w (Obj.cells #[.int .i64 S, v1, v2, v3] 28)
  have e0 : (w.alloc (Obj.cells #[.int .i64 S, v1, v2, v3] 28)).heap.size = w.heap.size + 1 := by simp
  generalize w.alloc (Obj.cells #[.int .i64 S, v1, v2, v3] 28) = A at hn h0 e0 ⊢
  have ha := wibox_new A 1 f t 0 61
  have h1 := hb A (Obj.cells #[.int .i64 1, .string f, .string t, .int .i64 0] 61)
  have e1 : (A.alloc (Obj.cells #[.int .i64 1, .string f, .string t, .int .i64 0] 61)).heap.size = A.heap.size + 1 := by simp
  generalize A.alloc (Obj.cells #[.int .i64 1, .string f, .string t, .int .i64 0] 61) = B at ha h1 e1 ⊢
  have hc := wibox_new B 2 f t 0 61
  have h2 := hb B (Obj.cells #[.int .i64 2, .string f, .string t, .int .i64 0] 61)
  have e2 : (B.alloc (Obj.cells #[.int .i64 2, .string f, .string t, .int .i64 0] 61)).heap.size = B.heap.size + 1 := by simp
  generalize B.alloc (Obj.cells #[.int .i64 2, .string f, .string t, .int .i64 0] 61) = C at hc h2 e2 ⊢
  have hd := fabox_new C 1 t (.slice none 0 0) 64
  have h3 := hb C (Obj.cells #[.int .i64 1, .string t, .slice none 0 0] 64)
  generalize C.alloc (Obj.cells #[.int .i64 1, .string t, .slice none 0 0] 64) = D at hd h3 ⊢
  have f1 := h0.trans (h1.mono h0.size)
  have f2 := f1.trans (h2.mono f1.size)
  have f3 := f2.trans (h3.mono f2.size)
  rw [e0] at ha
  rw [e1, e0] at hc
  rw [e2, e1, e0] at hd
  exact ⟨f3, ((hn.later h1).later h2).later h3, (ha.later h2).later h3, hc.later h3, hd⟩

set_option maxHeartbeats 8000000 in
set_option maxRecDepth 100000 in
theorem walk (S : Int) (ao : Option Addr) (n cap : Nat) (ao2 : Option Addr) (n2 cap2 : Nat) (ao3 : Option Addr) (n3 cap3 : Nat) (Ls : List ((Int × Int) × (Int × Int))) (Hs : List (ByteArray × (Int × Int))) (Ts : List (List Ru)) (f t : ByteArray) (w : World)
    (hL : GS lnkE w (.slice ao n cap) Ls) (hH : GS hstE w (.slice ao2 n2 cap2) Hs) (hT : TS w (.slice ao3 n3 cap3) Ts) (hg : HasErr w) :
    Calls Tryd.prog 5 #[.agg #[.int .i64 S, .slice ao n cap, .slice ao2 n2 cap2, .slice ao3 n3 cap3], .string f, .string t] w fun e w' => e = .returned (.bool true) ∧ Below w.heap.size w w' := by
  have HLW : Hid (∀ W, Below w.heap.size w W → GS lnkE W (.slice ao n cap) Ls) := fun W hb => hL.later hb
  have HHW : Hid (∀ W, Below w.heap.size w W → GS hstE W (.slice ao2 n2 cap2) Hs) := fun W hb => hH.later hb
  have HTW : Hid (∀ W, Below w.heap.size w W → TS W (.slice ao3 n3 cap3) Ts) := fun W hb => hT.later hb
  have HGW : Hid (∀ W, Below w.heap.size w W → HasErr W) := fun W hb => hg.later hb
  have hX := qbox_new w S (.slice ao n cap) (.slice ao2 n2 cap2) (.slice ao3 n3 cap3) f t
  obtain ⟨w0, hw0⟩ : ∃ W, ((((w.alloc (Obj.cells #[.int .i64 S, .slice ao n cap, .slice ao2 n2 cap2, .slice ao3 n3 cap3] 28)).alloc (Obj.cells #[.int .i64 1, .string f, .string t, .int .i64 0] 61)).alloc (Obj.cells #[.int .i64 2, .string f, .string t, .int .i64 0] 61)).alloc (Obj.cells #[.int .i64 1, .string t, .slice none 0 0] 64)) = W := ⟨_, rfl⟩
  rw [hw0] at hX
  have HX : Hid (QBox w w0 S (.slice ao n cap) (.slice ao2 n2 cap2) (.slice ao3 n3 cap3) f t) := hX
  have HW0 : Hid (((((w.alloc (Obj.cells #[.int .i64 S, .slice ao n cap, .slice ao2 n2 cap2, .slice ao3 n3 cap3] 28)).alloc (Obj.cells #[.int .i64 1, .string f, .string t, .int .i64 0] 61)).alloc (Obj.cells #[.int .i64 2, .string f, .string t, .int .i64 0] 61)).alloc (Obj.cells #[.int .i64 1, .string t, .slice none 0 0] 64)) = w0) := hw0
  clear hL hH hT hg hX hw0
  go_enter Tryd.func5, Tryd.ntmps5
  go_upto_region 4 with fail
  rw [HW0.out]
  clear HW0
  obtain ⟨_, ⟨b0, b1, b2, b3⟩, ⟨x0, x1, x2, x3⟩, ⟨y0, y1, y2, y3⟩, z0, z1, z2⟩ := HX.out
  go_wp2_with fail
  refine (fits_any 1 f t 0 f 1 t none 0 0 [] _ (GS.nil _)).mono ?_
  rintro e w1 ⟨rfl, hb1⟩
  rw [(clash_one f t).1]
  have HX1 : Hid (QBox w w1 S (.slice ao n cap) (.slice ao2 n2 cap2) (.slice ao3 n3 cap3) f t) := HX.out.later hb1
  clear hb1 HX b0 b1 b2 b3 x0 x1 x2 x3 y0 y1 y2 y3 z0 z1 z2
  obtain ⟨_, ⟨b0, b1, b2, b3⟩, ⟨x0, x1, x2, x3⟩, ⟨y0, y1, y2, y3⟩, z0, z1, z2⟩ := HX1.out
  go_wp2_with fail
  refine (fits_any 2 f t 0 f 1 t none 0 0 [] _ (GS.nil _)).mono ?_
  rintro e w2 ⟨rfl, hb2⟩
  rw [(clash_one f t).2]
  have HX2 : Hid (QBox w w2 S (.slice ao n cap) (.slice ao2 n2 cap2) (.slice ao3 n3 cap3) f t) := HX1.out.later hb2
  clear hb2 HX1 b0 b1 b2 b3 x0 x1 x2 x3 y0 y1 y2 y3 z0 z1 z2
  obtain ⟨_, ⟨b0, b1, b2, b3⟩, ⟨x0, x1, x2, x3⟩, ⟨y0, y1, y2, y3⟩, z0, z1, z2⟩ := HX2.out
  have hr1 := wis_row w2 1 f t 0 61
  have ha1 : Below w2.heap.size w2 (w2.alloc (Obj.cells #[.int .i64 1, .string f, .string t, .int .i64 0] 61)) := (Below.refl _ _).alloc (Nat.le_refl _) _
  have HR1 : Hid (GS wisE (w2.alloc (Obj.cells #[.int .i64 1, .string f, .string t, .int .i64 0] 61)) (.slice (some ⟨w2.heap.size, 0, none⟩) 1 1) [⟨1, f, t, 0⟩]) := hr1
  have HA1 : Hid (Below w2.heap.size w2 (w2.alloc (Obj.cells #[.int .i64 1, .string f, .string t, .int .i64 0] 61))) := ha1
  have HXA : Hid (QBox w (w2.alloc (Obj.cells #[.int .i64 1, .string f, .string t, .int .i64 0] 61)) S (.slice ao n cap) (.slice ao2 n2 cap2) (.slice ao3 n3 cap3) f t) := HX2.out.later ha1
  clear hr1 ha1
  go_wp2_with fail
  refine (holds_any S ao n cap ao2 n2 cap2 ao3 n3 cap3 _ 1 1 Ls Hs Ts [⟨1, f, t, 0⟩] _ (HLW.out _ HXA.out.below) (HHW.out _ HXA.out.below) (HTW.out _ HXA.out.below) HR1.out).mono ?_
  rintro e w3 ⟨rfl, hb3⟩
  obtain ⟨N1, hN1⟩ : ∃ q, q = wiN S Ls Hs Ts [⟨1, f, t, 0⟩] := ⟨_, rfl⟩
  have HN1 : Hid (N1 = wiN S Ls Hs Ts [⟨1, f, t, 0⟩]) := hN1
  rw [← hN1]
  generalize wiV S Ls Hs Ts [⟨1, f, t, 0⟩] = V1
  obtain ⟨p1, p2, p3⟩ := V1
  have hX3 := HXA.out.later hb3
  have ha3 : Below w3.heap.size w3 (w3.alloc (Obj.cells #[.int .i64 p1, .string p2, .int .i64 p3] 57)) := (Below.refl _ _).alloc (Nat.le_refl _) _
  have hX4 := hX3.later ha3
  obtain ⟨w4, hw4⟩ : ∃ W, w3.alloc (Obj.cells #[.int .i64 p1, .string p2, .int .i64 p3] 57) = W := ⟨_, rfl⟩
  rw [hw4] at hX4
  have HW4 : Hid (w3.alloc (Obj.cells #[.int .i64 p1, .string p2, .int .i64 p3] 57) = w4) := hw4
  have HX4 : Hid (QBox w w4 S (.slice ao n cap) (.slice ao2 n2 cap2) (.slice ao3 n3 cap3) f t) := hX4
  clear hN1 hb3 HR1 HA1 HXA HX2 hX3 ha3 hX4 hw4 b0 b1 b2 b3 x0 x1 x2 x3 y0 y1 y2 y3 z0 z1 z2
  go_upto_region 7 with fail
  rw [HW4.out]
  clear HW4
  obtain ⟨_, ⟨b0, b1, b2, b3⟩, ⟨x0, x1, x2, x3⟩, ⟨y0, y1, y2, y3⟩, z0, z1, z2⟩ := HX4.out
  have hr1 := wis_row w4 2 f t 0 61
  have ha1 : Below w4.heap.size w4 (w4.alloc (Obj.cells #[.int .i64 2, .string f, .string t, .int .i64 0] 61)) := (Below.refl _ _).alloc (Nat.le_refl _) _
  have HR1 : Hid (GS wisE (w4.alloc (Obj.cells #[.int .i64 2, .string f, .string t, .int .i64 0] 61)) (.slice (some ⟨w4.heap.size, 0, none⟩) 1 1) [⟨2, f, t, 0⟩]) := hr1
  have HXA : Hid (QBox w (w4.alloc (Obj.cells #[.int .i64 2, .string f, .string t, .int .i64 0] 61)) S (.slice ao n cap) (.slice ao2 n2 cap2) (.slice ao3 n3 cap3) f t) := HX4.out.later ha1
  clear hr1 ha1
  go_wp2_with fail
  refine (holds_any S ao n cap ao2 n2 cap2 ao3 n3 cap3 _ 1 1 Ls Hs Ts [⟨2, f, t, 0⟩] _ (HLW.out _ HXA.out.below) (HHW.out _ HXA.out.below) (HTW.out _ HXA.out.below) HR1.out).mono ?_
  rintro e w5 ⟨rfl, hb5⟩
  obtain ⟨N2, hN2⟩ : ∃ q, q = wiN S Ls Hs Ts [⟨2, f, t, 0⟩] := ⟨_, rfl⟩
  have HNB : Hid (¬ (N1 = 0 ∧ N2 = 0)) := by
    show ¬ _
    rintro ⟨h1, h2⟩
    exact wish_both (HN1.out.symm.trans h1) (hN2.symm.trans h2)
  rw [← hN2]
  generalize wiV S Ls Hs Ts [⟨2, f, t, 0⟩] = V2
  obtain ⟨q1, q2, q3⟩ := V2
  have hX5 := HXA.out.later hb5
  have ha5 : Below w5.heap.size w5 (w5.alloc (Obj.cells #[.int .i64 q1, .string q2, .int .i64 q3] 57)) := (Below.refl _ _).alloc (Nat.le_refl _) _
  have hX6 := hX5.later ha5
  obtain ⟨w6, hw6⟩ : ∃ W, w5.alloc (Obj.cells #[.int .i64 q1, .string q2, .int .i64 q3] 57) = W := ⟨_, rfl⟩
  rw [hw6] at hX6
  have HW6 : Hid (w5.alloc (Obj.cells #[.int .i64 q1, .string q2, .int .i64 q3] 57) = w6) := hw6
  have HX6 : Hid (QBox w w6 S (.slice ao n cap) (.slice ao2 n2 cap2) (.slice ao3 n3 cap3) f t) := hX6
  clear hN2 hb5 HR1 HXA HX4 hX5 ha5 hX6 hw6 b0 b1 b2 b3 x0 x1 x2 x3 y0 y1 y2 y3 z0 z1 z2 HN1
  go_upto_region 8 with fail
  rw [HW6.out]
  clear HW6
  obtain ⟨e1, he1⟩ : ∃ e, e = noV N1 := ⟨_, rfl⟩
  obtain ⟨e2, he2⟩ : ∃ e, e = noV N2 := ⟨_, rfl⟩
  rw [← he1, ← he2]
  have HE1 : Hid (e1 = noV N1) := he1
  have HE2 : Hid (e2 = noV N2) := he2
  clear he1 he2
  go_cut [54] from 49 to 55 (fun c w' => c = .bool false ∧ w' = w6)
  case first =>
    by_cases h1 : N1 = 0
    · have h2 : N2 ≠ 0 := fun h => HNB.out ⟨h1, h⟩
      have k1 : e1 = .nilIface := by rw [HE1.out, h1, no_ok rfl]
      have k2 : e2 = .iface 78 (.int .i64 N2) := by rw [HE2.out, no_ne h2]
      subst k1
      subst k2
      clear h1 h2 HE1 HE2
      go_wp2_with fail
      go_meet
      exact ⟨rfl, rfl⟩
    · have k1 : e1 = .iface 78 (.int .i64 N1) := by rw [HE1.out, no_ne h1]
      subst k1
      clear h1 HE1
      go_wp2_with fail
      go_meet
      exact ⟨rfl, rfl⟩
  case rest =>
  obtain ⟨rfl, hwc⟩ := hcut
  subst hwc
  obtain ⟨hB6, ⟨b0, b1, b2, b3⟩, _, _, _⟩ := HX6.out
  have HB6 : Hid (Below w.heap.size w wc) := hB6
  clear hB6 HNB HE1 HE2
  go_wp2_with fail
  refine (where_any S ao n cap ao2 n2 cap2 Ls Hs f _ (HLW.out _ HB6.out) (HHW.out _ HB6.out)).mono ?_
  rintro e w7 ⟨rfl, hb7⟩
  obtain ⟨WN, hWN⟩ : ∃ q, q = weN S Ls Hs f := ⟨_, rfl⟩
  obtain ⟨X1, hX1⟩ : ∃ q, q = (weV S Ls Hs f).1 := ⟨_, rfl⟩
  obtain ⟨X2, hX2⟩ : ∃ q, q = (weV S Ls Hs f).2 := ⟨_, rfl⟩
  have HWN : Hid (WN = weN S Ls Hs f) := hWN
  have HX1 : Hid ((weV S Ls Hs f).1 = X1) := hX1.symm
  rw [← hWN, ← hX1, ← hX2]
  have hX7 := HX6.out.later hb7
  have ha7 : Below w7.heap.size w7 (w7.alloc (Obj.cells #[.int .i64 X1, .int .i64 X2] 53)) := (Below.refl _ _).alloc (Nat.le_refl _) _
  have hva := vat_new w7 [.int .i64 X1, .int .i64 X2] 53
  have hX8 := hX7.later ha7
  obtain ⟨w8, hw8⟩ : ∃ W, w7.alloc (Obj.cells #[.int .i64 X1, .int .i64 X2] 53) = W := ⟨_, rfl⟩
  obtain ⟨g8, hg8⟩ : ∃ g, w7.heap.size = g := ⟨_, rfl⟩
  have hva2 : VAt w8 g8 0 [.int .i64 X1, .int .i64 X2] := by
    rw [← hw8, ← hg8]
    exact hva
  rw [hw8] at hX8
  have HW8 : Hid (w7.alloc (Obj.cells #[.int .i64 X1, .int .i64 X2] 53) = w8) := hw8
  have HG8 : Hid (w7.heap.size = g8) := hg8
  have HX8 : Hid (QBox w w8 S (.slice ao n cap) (.slice ao2 n2 cap2) (.slice ao3 n3 cap3) f t) := hX8
  have s0 : w8.cell? ⟨g8, 0, none⟩ = some (.int .i64 X1) := hva2 0 _ rfl
  have s1 : w8.cell? ⟨g8, 1, none⟩ = some (.int .i64 X2) := hva2 1 _ rfl
  clear hWN hX1 hX2 hb7 hX7 ha7 hva hX8 hva2 hw8 hg8 b0 b1 b2 b3 HX6 HB6
  go_upto_region 11 with fail
  rw [HW8.out, HG8.out]
  clear HW8 HG8
  obtain ⟨hB8, ⟨b0, b1, b2, b3⟩, _, _, _⟩ := HX8.out
  have HB8 : Hid (Below w.heap.size w w8) := hB8
  clear hB8
  by_cases h5 : WN = 0
  · have HW0 : Hid (weN S Ls Hs f = 0) := HWN.out.symm.trans h5
    subst h5
    rw [no_ok rfl]
    have hr1 := wis_row w8 3 f t X1 61
    have ha1 : Below w8.heap.size w8 (w8.alloc (Obj.cells #[.int .i64 3, .string f, .string t, .int .i64 X1] 61)) := (Below.refl _ _).alloc (Nat.le_refl _) _
    have HR1 : Hid (GS wisE (w8.alloc (Obj.cells #[.int .i64 3, .string f, .string t, .int .i64 X1] 61)) (.slice (some ⟨w8.heap.size, 0, none⟩) 1 1) [⟨3, f, t, X1⟩]) := hr1
    have HBA : Hid (Below w.heap.size w (w8.alloc (Obj.cells #[.int .i64 3, .string f, .string t, .int .i64 X1] 61))) := HB8.out.trans (ha1.mono HB8.out.size)
    clear hr1 ha1
    go_wp2_with fail
    refine (holds_any S ao n cap ao2 n2 cap2 ao3 n3 cap3 _ 1 1 Ls Hs Ts [⟨3, f, t, X1⟩] _ (HLW.out _ HBA.out) (HHW.out _ HBA.out) (HTW.out _ HBA.out) HR1.out).mono ?_
    rintro e w9 ⟨rfl, hb9⟩
    obtain ⟨N3, hN3⟩ : ∃ q, q = wiN S Ls Hs Ts [⟨3, f, t, X1⟩] := ⟨_, rfl⟩
    have HN9 : Hid (N3 ≠ 9) := by
      show N3 ≠ 9
      rw [hN3, ← HX1.out]
      exact wish_way HW0.out
    rw [← hN3]
    generalize wiV S Ls Hs Ts [⟨3, f, t, X1⟩] = V3
    obtain ⟨r1, r2, r3⟩ := V3
    have HB9 : Hid (Below w.heap.size w w9) := HBA.out.trans (hb9.mono HBA.out.size)
    clear hN3 hb9 HR1 HBA HX1 HWN HW0 b0 b1 b2 b3 s0 s1
    by_cases h3 : N3 = 0
    · subst h3
      rw [no_ok rfl]
      go_wp2
      go_ret
      exact ⟨rfl, HB9.out⟩
    · rw [no_ne h3]
      have HNE : Hid (N3 ≠ 0) := h3
      clear h3
      go_wp2_with fail
      refine (same_some N3 9 _ (HGW.out _ HB9.out)).mono ?_
      rintro e w10 ⟨rfl, hb10⟩
      rw [show (N3 == 9) = false from by have := HN9.out; simp [this]]
      have HB10 : Hid (Below w.heap.size w w10) := HB9.out.trans (hb10.mono HB9.out.size)
      clear hb10
      go_wp2
      go_ret
      exact ⟨rfl, HB10.out⟩
  · rw [no_ne h5]
    clear h5
    go_wp2
    go_ret
    exact ⟨rfl, HB8.out⟩
end Go.Proofs.YtfbocionnjliladDoor.wishClash
