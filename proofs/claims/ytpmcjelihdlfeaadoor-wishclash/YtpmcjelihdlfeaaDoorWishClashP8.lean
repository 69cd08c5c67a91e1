/- Contracts and facts on the way to WishClash, joined into one text: WishClash, TopoOf, StCube, StRule, NetOf, WishClashRow. -/
import Derived.Test.YtpmcjelihdlfeaaDoorWishClashP2
import Derived.Test.YtpmcjelihdlfeaaDoorWishClashP7
import Derived.Test.YtpmcjelihdlfeaaDoorWishClashP3
import Derived.Test.YtpmcjelihdlfeaaDoorWishClashP1
import Derived.Test.YtpmcjelihdlfeaaDoorWishClashP5
import Derived.Test.YtpmcjelihdlfeaaDoorRows
import Derived.Lib.SmallJoins
import Derived.Laws.StructEq
import Derived.Maps.OwnOps
import Derived.ProofKit
import Derived.OpenShut
import Derived.ChangeOld
import Derived.Below
import Derived.ChangeSame
import Derived.ChangeVars
import Derived.JoinedOf
import Derived.RowKit
import Derived.RowKitTokens
import Derived.LaidLaws
import Derived.LaidHandle
import Derived.Stop.Joined
/- The walk of WishClash: it answers true, whatever net and two names it is called with. -/
namespace Go.Proofs.YtpmcjelihdlfeaaDoor.wishClash
open Go.RowKit
set_option linter.unusedSimpArgs false
set_option linter.unusedVariables false

/-- The boxes: a net, two wishes, a fate. -/
structure QBox (w W : World) (S : Int) (v1 v2 v3 : Value) (f t : ByteArray) : Prop where
  below : Below w.heap.size w W
  n : NeBox W w.heap.size S v1 v2 v3
  a : WiBox W (w.heap.size + 1) 1 f t 0
  b : WiBox W (w.heap.size + 1 + 1) 2 f t 0
  c : FaBox W (w.heap.size + 1 + 1 + 1) 1 t (.slice none 0 0)
theorem QBox.later {w W W' : World} {S : Int} {v1 v2 v3 : Value} {f t : ByteArray} (k : QBox w W S v1 v2 v3 f t) (hb : Below W.heap.size W W') : QBox w W' S v1 v2 v3 f t :=
  ⟨k.below.trans (hb.mono k.below.size), k.n.later hb, k.a.later hb, k.b.later hb, k.c.later hb⟩
theorem qbox_new (w : World) (S : Int) (v1 v2 v3 : Value) (f t : ByteArray) : QBox w ((((w.alloc (Obj.cells #[.int .i64 S, v1, v2, v3] 28)).alloc (Obj.cells #[.int .i64 1, .string f, .string t, .int .i64 0] 67)).alloc (Obj.cells #[.int .i64 2, .string f, .string t, .int .i64 0] 67)).alloc (Obj.cells #[.int .i64 1, .string t, .slice none 0 0] 40)) S v1 v2 v3 f t := by
  have hb : ∀ (W : World) (o : Obj), Below W.heap.size W (W.alloc o) := fun W o => (Below.refl _ _).alloc (Nat.le_refl _) _
  have hn := nebox_new w S v1 v2 v3 28
  have h0 := hb w (Obj.cells #[.int .i64 S, v1, v2, v3] 28)
  have e0 : (w.alloc (Obj.cells #[.int .i64 S, v1, v2, v3] 28)).heap.size = w.heap.size + 1 := by simp
  generalize w.alloc (Obj.cells #[.int .i64 S, v1, v2, v3] 28) = A at hn h0 e0 ⊢
  have ha := wibox_new A 1 f t 0 67
  have h1 := hb A (Obj.cells #[.int .i64 1, .string f, .string t, .int .i64 0] 67)
  have e1 : (A.alloc (Obj.cells #[.int .i64 1, .string f, .string t, .int .i64 0] 67)).heap.size = A.heap.size + 1 := by simp
  generalize A.alloc (Obj.cells #[.int .i64 1, .string f, .string t, .int .i64 0] 67) = B at ha h1 e1 ⊢
  have hc := wibox_new B 2 f t 0 67
  have h2 := hb B (Obj.cells #[.int .i64 2, .string f, .string t, .int .i64 0] 67)
  have e2 : (B.alloc (Obj.cells #[.int .i64 2, .string f, .string t, .int .i64 0] 67)).heap.size = B.heap.size + 1 := by simp
  generalize B.alloc (Obj.cells #[.int .i64 2, .string f, .string t, .int .i64 0] 67) = C at hc h2 e2 ⊢
  have hd := fabox_new C 1 t (.slice none 0 0) 40
  have h3 := hb C (Obj.cells #[.int .i64 1, .string t, .slice none 0 0] 40)
  generalize C.alloc (Obj.cells #[.int .i64 1, .string t, .slice none 0 0] 40) = D at hd h3 ⊢
  have f1 := h0.trans (h1.mono h0.size)
  have f2 := f1.trans (h2.mono f1.size)
  have f3 := f2.trans (h3.mono f2.size)
  rw [e0] at ha
  rw [e1, e0] at hc
  rw [e2, e1, e0] at hd
  exact ⟨f3, ((hn.later h1).later h2).later h3, (ha.later h2).later h3, hc.later h3, hd⟩

set_option maxHeartbeats 8000000 in
set_option maxRecDepth 100000 in
theorem walk (S : Int) (ao : Option Addr) (n cap : Nat) (ao2 : Option Addr) (n2 cap2 : Nat) (ao3 : Option Addr) (n3 cap3 : Nat) (Ls : List ((Int × Int) × (Int × Int))) (Hs : List (ByteArray × (Int × Int))) (Ts : List (List Ru)) (f t : ByteArray) (w : World)
    (hL : GS lnkE w (.slice ao n cap) Ls) (hH : GS hstE w (.slice ao2 n2 cap2) Hs) (hT : TS w (.slice ao3 n3 cap3) Ts) (hg : HasErr w) :
    Calls Tryd.prog 6 #[.agg #[.int .i64 S, .slice ao n cap, .slice ao2 n2 cap2, .slice ao3 n3 cap3], .string f, .string t] w fun e w' => e = .returned (.bool true) ∧ Below w.heap.size w w' := by
  have HLW : Hid (∀ W, Below w.heap.size w W → GS lnkE W (.slice ao n cap) Ls) := fun W hb => hL.later hb
  have HHW : Hid (∀ W, Below w.heap.size w W → GS hstE W (.slice ao2 n2 cap2) Hs) := fun W hb => hH.later hb
  have HTW : Hid (∀ W, Below w.heap.size w W → TS W (.slice ao3 n3 cap3) Ts) := fun W hb => hT.later hb
  have HGW : Hid (∀ W, Below w.heap.size w W → HasErr W) := fun W hb => hg.later hb
  have hX := qbox_new w S (.slice ao n cap) (.slice ao2 n2 cap2) (.slice ao3 n3 cap3) f t
  obtain ⟨w0, hw0⟩ : ∃ W, ((((w.alloc (Obj.cells #[.int .i64 S, .slice ao n cap, .slice ao2 n2 cap2, .slice ao3 n3 cap3] 28)).alloc (Obj.cells #[.int .i64 1, .string f, .string t, .int .i64 0] 67)).alloc (Obj.cells #[.int .i64 2, .string f, .string t, .int .i64 0] 67)).alloc (Obj.cells #[.int .i64 1, .string t, .slice none 0 0] 40)) = W := ⟨_, rfl⟩
  rw [hw0] at hX
  have HX : Hid (QBox w w0 S (.slice ao n cap) (.slice ao2 n2 cap2) (.slice ao3 n3 cap3) f t) := hX
  have HW0 : Hid (((((w.alloc (Obj.cells #[.int .i64 S, .slice ao n cap, .slice ao2 n2 cap2, .slice ao3 n3 cap3] 28)).alloc (Obj.cells #[.int .i64 1, .string f, .string t, .int .i64 0] 67)).alloc (Obj.cells #[.int .i64 2, .string f, .string t, .int .i64 0] 67)).alloc (Obj.cells #[.int .i64 1, .string t, .slice none 0 0] 40)) = w0) := hw0
  clear hL hH hT hg hX hw0
  go_enter Tryd.func6, Tryd.ntmps6
  go_upto_region 4 with fail
  rw [HW0.out]
  clear HW0
  obtain ⟨_, ⟨b0, b1, b2, b3⟩, ⟨x0, x1, x2, x3⟩, ⟨y0, y1, y2, y3⟩, z0, z1, z2⟩ := HX.out
  go_wp2_with fail
  refine (fits_any 1 f t 0 f 1 t none 0 0 [] _ (GS.nil _)).mono ?_
  rintro e w1 ⟨rfl, hb1⟩
  rw [(clash_one f t).1]
  have HX1 : Hid (QBox w w1 S (.slice ao n cap) (.slice ao2 n2 cap2) (.slice ao3 n3 cap3) f t) := HX.out.later hb1
  clear hb1 HX b0 b1 b2 b3 x0 x1 x2 x3 y0 y1 y2 y3 z0 z1 z2
  obtain ⟨_, ⟨b0, b1, b2, b3⟩, ⟨x0, x1, x2, x3⟩, ⟨y0, y1, y2, y3⟩, z0, z1, z2⟩ := HX1.out
  go_wp2_with fail
  refine (fits_any 2 f t 0 f 1 t none 0 0 [] _ (GS.nil _)).mono ?_
  rintro e w2 ⟨rfl, hb2⟩
  rw [(clash_one f t).2]
  have HX2 : Hid (QBox w w2 S (.slice ao n cap) (.slice ao2 n2 cap2) (.slice ao3 n3 cap3) f t) := HX1.out.later hb2
  clear hb2 HX1 b0 b1 b2 b3 x0 x1 x2 x3 y0 y1 y2 y3 z0 z1 z2
  obtain ⟨_, ⟨b0, b1, b2, b3⟩, ⟨x0, x1, x2, x3⟩, ⟨y0, y1, y2, y3⟩, z0, z1, z2⟩ := HX2.out
  have hr1 := wis_row w2 1 f t 0 67
  have ha1 : Below w2.heap.size w2 (w2.alloc (Obj.cells #[.int .i64 1, .string f, .string t, .int .i64 0] 67)) := (Below.refl _ _).alloc (Nat.le_refl _) _
  have HR1 : Hid (GS wisE (w2.alloc (Obj.cells #[.int .i64 1, .string f, .string t, .int .i64 0] 67)) (.slice (some ⟨w2.heap.size, 0, none⟩) 1 1) [⟨1, f, t, 0⟩]) := hr1
  have HA1 : Hid (Below w2.heap.size w2 (w2.alloc (Obj.cells #[.int .i64 1, .string f, .string t, .int .i64 0] 67))) := ha1
  have HXA : Hid (QBox w (w2.alloc (Obj.cells #[.int .i64 1, .string f, .string t, .int .i64 0] 67)) S (.slice ao n cap) (.slice ao2 n2 cap2) (.slice ao3 n3 cap3) f t) := HX2.out.later ha1
  clear hr1 ha1
  go_wp2_with fail
  refine (holds_any S ao n cap ao2 n2 cap2 ao3 n3 cap3 _ 1 1 Ls Hs Ts [⟨1, f, t, 0⟩] _ (HLW.out _ HXA.out.below) (HHW.out _ HXA.out.below) (HTW.out _ HXA.out.below) HR1.out).mono ?_
  rintro e w3 ⟨rfl, hb3⟩
  obtain ⟨N1, hN1⟩ : ∃ q, q = wiN S Ls Hs Ts [⟨1, f, t, 0⟩] := ⟨_, rfl⟩
  have HN1 : Hid (N1 = wiN S Ls Hs Ts [⟨1, f, t, 0⟩]) := hN1
  rw [← hN1]
  generalize wiV S Ls Hs Ts [⟨1, f, t, 0⟩] = V1
  obtain ⟨p1, p2, p3⟩ := V1
  have hX3 := HXA.out.later hb3
  have ha3 : Below w3.heap.size w3 (w3.alloc (Obj.cells #[.int .i64 p1, .string p2, .int .i64 p3] 63)) := (Below.refl _ _).alloc (Nat.le_refl _) _
  have hX4 := hX3.later ha3
  obtain ⟨w4, hw4⟩ : ∃ W, w3.alloc (Obj.cells #[.int .i64 p1, .string p2, .int .i64 p3] 63) = W := ⟨_, rfl⟩
  rw [hw4] at hX4
  have HW4 : Hid (w3.alloc (Obj.cells #[.int .i64 p1, .string p2, .int .i64 p3] 63) = w4) := hw4
  have HX4 : Hid (QBox w w4 S (.slice ao n cap) (.slice ao2 n2 cap2) (.slice ao3 n3 cap3) f t) := hX4
  clear hN1 hb3 HR1 HA1 HXA HX2 hX3 ha3 hX4 hw4 b0 b1 b2 b3 x0 x1 x2 x3 y0 y1 y2 y3 z0 z1 z2
  go_upto_region 7 with fail
  rw [HW4.out]
  clear HW4
  obtain ⟨_, ⟨b0, b1, b2, b3⟩, ⟨x0, x1, x2, x3⟩, ⟨y0, y1, y2, y3⟩, z0, z1, z2⟩ := HX4.out
  have hr1 := wis_row w4 2 f t 0 67
  have ha1 : Below w4.heap.size w4 (w4.alloc (Obj.cells #[.int .i64 2, .string f, .string t, .int .i64 0] 67)) := (Below.refl _ _).alloc (Nat.le_refl _) _
  have HR1 : Hid (GS wisE (w4.alloc (Obj.cells #[.int .i64 2, .string f, .string t, .int .i64 0] 67)) (.slice (some ⟨w4.heap.size, 0, none⟩) 1 1) [⟨2, f, t, 0⟩]) := hr1
  have HXA : Hid (QBox w (w4.alloc (Obj.cells #[.int .i64 2, .string f, .string t, .int .i64 0] 67)) S (.slice ao n cap) (.slice ao2 n2 cap2) (.slice ao3 n3 cap3) f t) := HX4.out.later ha1
  clear hr1 ha1
  go_wp2_with fail
  refine (holds_any S ao n cap ao2 n2 cap2 ao3 n3 cap3 _ 1 1 Ls Hs Ts [⟨2, f, t, 0⟩] _ (HLW.out _ HXA.out.below) (HHW.out _ HXA.out.below) (HTW.out _ HXA.out.below) HR1.out).mono ?_
  rintro e w5 ⟨rfl, hb5⟩
  obtain ⟨N2, hN2⟩ : ∃ q, q = wiN S Ls Hs Ts [⟨2, f, t, 0⟩] := ⟨_, rfl⟩
  have HNB : Hid (¬ (N1 = 0 ∧ N2 = 0)) := by
    show ¬ _
    rintro ⟨h1, h2⟩
    exact wish_both (HN1.out.symm.trans h1) (hN2.symm.trans h2)
  rw [← hN2]
  generalize wiV S Ls Hs Ts [⟨2, f, t, 0⟩] = V2
  obtain ⟨q1, q2, q3⟩ := V2
  have hX5 := HXA.out.later hb5
  have ha5 : Below w5.heap.size w5 (w5.alloc (Obj.cells #[.int .i64 q1, .string q2, .int .i64 q3] 63)) := (Below.refl _ _).alloc (Nat.le_refl _) _
  have hX6 := hX5.later ha5
  obtain ⟨w6, hw6⟩ : ∃ W, w5.alloc (Obj.cells #[.int .i64 q1, .string q2, .int .i64 q3] 63) = W := ⟨_, rfl⟩
  rw [hw6] at hX6
  have HW6 : Hid (w5.alloc (Obj.cells #[.int .i64 q1, .string q2, .int .i64 q3] 63) = w6) := hw6
  have HX6 : Hid (QBox w w6 S (.slice ao n cap) (.slice ao2 n2 cap2) (.slice ao3 n3 cap3) f t) := hX6
  clear hN2 hb5 HR1 HXA HX4 hX5 ha5 hX6 hw6 b0 b1 b2 b3 x0 x1 x2 x3 y0 y1 y2 y3 z0 z1 z2 HN1
  go_upto_region 8 with fail
  rw [HW6.out]
  clear HW6
  obtain ⟨e1, he1⟩ : ∃ e, e = noV N1 := ⟨_, rfl⟩
  obtain ⟨e2, he2⟩ : ∃ e, e = noV N2 := ⟨_, rfl⟩
  rw [← he1, ← he2]
  have HE1 : Hid (e1 = noV N1) := he1
  have HE2 : Hid (e2 = noV N2) := he2
  clear he1 he2
  go_cut [54] from 49 to 55 (fun c w' => c = .bool false ∧ w' = w6)
  case first =>
    by_cases h1 : N1 = 0
    · have h2 : N2 ≠ 0 := fun h => HNB.out ⟨h1, h⟩
      have k1 : e1 = .nilIface := by rw [HE1.out, h1, no_ok rfl]
      have k2 : e2 = .iface 75 (.int .i64 N2) := by rw [HE2.out, no_ne h2]
      subst k1
      subst k2
      clear h1 h2 HE1 HE2
      go_wp2_with fail
      go_meet
      exact ⟨rfl, rfl⟩
    · have k1 : e1 = .iface 75 (.int .i64 N1) := by rw [HE1.out, no_ne h1]
      subst k1
      clear h1 HE1
      go_wp2_with fail
      go_meet
      exact ⟨rfl, rfl⟩
  case rest =>
  obtain ⟨rfl, hwc⟩ := hcut
  subst hwc
  obtain ⟨hB6, ⟨b0, b1, b2, b3⟩, _, _, _⟩ := HX6.out
  have HB6 : Hid (Below w.heap.size w wc) := hB6
  clear hB6 HNB HE1 HE2
  go_wp2_with fail
  refine (where_any S ao n cap ao2 n2 cap2 Ls Hs f _ (HLW.out _ HB6.out) (HHW.out _ HB6.out)).mono ?_
  rintro e w7 ⟨rfl, hb7⟩
  obtain ⟨WN, hWN⟩ : ∃ q, q = weN S Ls Hs f := ⟨_, rfl⟩
  obtain ⟨X1, hX1⟩ : ∃ q, q = (weV S Ls Hs f).1 := ⟨_, rfl⟩
  obtain ⟨X2, hX2⟩ : ∃ q, q = (weV S Ls Hs f).2 := ⟨_, rfl⟩
  have HWN : Hid (WN = weN S Ls Hs f) := hWN
  have HX1 : Hid ((weV S Ls Hs f).1 = X1) := hX1.symm
  rw [← hWN, ← hX1, ← hX2]
  have hX7 := HX6.out.later hb7
  have ha7 : Below w7.heap.size w7 (w7.alloc (Obj.cells #[.int .i64 X1, .int .i64 X2] 30)) := (Below.refl _ _).alloc (Nat.le_refl _) _
  have hva := vat_new w7 [.int .i64 X1, .int .i64 X2] 30
  have hX8 := hX7.later ha7
  obtain ⟨w8, hw8⟩ : ∃ W, w7.alloc (Obj.cells #[.int .i64 X1, .int .i64 X2] 30) = W := ⟨_, rfl⟩
  obtain ⟨g8, hg8⟩ : ∃ g, w7.heap.size = g := ⟨_, rfl⟩
  have hva2 : VAt w8 g8 0 [.int .i64 X1, .int .i64 X2] := by
    rw [← hw8, ← hg8]
    exact hva
  rw [hw8] at hX8
  have HW8 : Hid (w7.alloc (Obj.cells #[.int .i64 X1, .int .i64 X2] 30) = w8) := hw8
  have HG8 : Hid (w7.heap.size = g8) := hg8
  have HX8 : Hid (QBox w w8 S (.slice ao n cap) (.slice ao2 n2 cap2) (.slice ao3 n3 cap3) f t) := hX8
  have s0 : w8.cell? ⟨g8, 0, none⟩ = some (.int .i64 X1) := hva2 0 _ rfl
  have s1 : w8.cell? ⟨g8, 1, none⟩ = some (.int .i64 X2) := hva2 1 _ rfl
  clear hWN hX1 hX2 hb7 hX7 ha7 hva hX8 hva2 hw8 hg8 b0 b1 b2 b3 HX6 HB6
  go_upto_region 11 with fail
  rw [HW8.out, HG8.out]
  clear HW8 HG8
  obtain ⟨hB8, ⟨b0, b1, b2, b3⟩, _, _, _⟩ := HX8.out
  have HB8 : Hid (Below w.heap.size w w8) := hB8
  clear hB8
  by_cases h5 : WN = 0
  · have HW0 : Hid (weN S Ls Hs f = 0) := HWN.out.symm.trans h5
    subst h5
    rw [no_ok rfl]
    have hr1 := wis_row w8 3 f t X1 67
    have ha1 : Below w8.heap.size w8 (w8.alloc (Obj.cells #[.int .i64 3, .string f, .string t, .int .i64 X1] 67)) := (Below.refl _ _).alloc (Nat.le_refl _) _
    have HR1 : Hid (GS wisE (w8.alloc (Obj.cells #[.int .i64 3, .string f, .string t, .int .i64 X1] 67)) (.slice (some ⟨w8.heap.size, 0, none⟩) 1 1) [⟨3, f, t, X1⟩]) := hr1
    have HBA : Hid (Below w.heap.size w (w8.alloc (Obj.cells #[.int .i64 3, .string f, .string t, .int .i64 X1] 67))) := HB8.out.trans (ha1.mono HB8.out.size)
    clear hr1 ha1
    go_wp2_with fail
    refine (holds_any S ao n cap ao2 n2 cap2 ao3 n3 cap3 _ 1 1 Ls Hs Ts [⟨3, f, t, X1⟩] _ (HLW.out _ HBA.out) (HHW.out _ HBA.out) (HTW.out _ HBA.out) HR1.out).mono ?_
    rintro e w9 ⟨rfl, hb9⟩
    obtain ⟨N3, hN3⟩ : ∃ q, q = wiN S Ls Hs Ts [⟨3, f, t, X1⟩] := ⟨_, rfl⟩
    have HN9 : Hid (N3 ≠ 9) := by
      show N3 ≠ 9
      rw [hN3, ← HX1.out]
      exact wish_way HW0.out
    rw [← hN3]
    generalize wiV S Ls Hs Ts [⟨3, f, t, X1⟩] = V3
    obtain ⟨r1, r2, r3⟩ := V3
    have HB9 : Hid (Below w.heap.size w w9) := HBA.out.trans (hb9.mono HBA.out.size)
    clear hN3 hb9 HR1 HBA HX1 HWN HW0 b0 b1 b2 b3 s0 s1
    by_cases h3 : N3 = 0
    · subst h3
      rw [no_ok rfl]
      go_wp2
      go_ret
      exact ⟨rfl, HB9.out⟩
    · rw [no_ne h3]
      have HNE : Hid (N3 ≠ 0) := h3
      clear h3
      go_wp2_with fail
      refine (same_some N3 9 _ (HGW.out _ HB9.out)).mono ?_
      rintro e w10 ⟨rfl, hb10⟩
      rw [show (N3 == 9) = false from by have := HN9.out; simp [this]]
      have HB10 : Hid (Below w.heap.size w w10) := HB9.out.trans (hb10.mono HB9.out.size)
      clear hb10
      go_wp2
      go_ret
      exact ⟨rfl, HB10.out⟩
  · rw [no_ne h5]
    clear h5
    go_wp2
    go_ret
    exact ⟨rfl, HB8.out⟩
end Go.Proofs.YtpmcjelihdlfeaaDoor.wishClash
/- A topology that came in: its number of switches, its links, its hosts. -/
namespace Go.Proofs.YtpmcjelihdlfeaaDoor
open Go.ChangeShapes Go.WideShapes Go.ChangeAt Go.RowKit Go.Joins
set_option linter.unusedSimpArgs false
set_option linter.unusedVariables false
set_option maxRecDepth 100000

section
variable {P : Program} {α : Type} {E : Enc α}
set_option maxRecDepth 100000 in
/-- A cell that reads as a slice lies where it says. -/
theorem gs_open {H : Type} {enc : TypeId × Value → H} {W : World} {fuel : Nat} {cs : List Value} {x : DataW H × List MemPlace} (ts te : TypeId) (hu : P.underlying ts = some (.slice te)) (hC : P.cellsOf te = E.n) (x0 : α)
    (hel : ∀ (n : Nat) (cs : List Value) (x : DataW H × List MemPlace), DataW.trod enc P W 0 (fun _ => true) true n te cs = some x → ∃ y, cs = E.c y)
    (hf2 : DataW.trod enc P W 0 (fun _ => true) true fuel ts cs = some x) : ∃ ao n cap L, cs = [.slice ao n cap] ∧ GS E W (.slice ao n cap) L := by
  obtain ⟨d, p⟩ := x
  rcases Go.Deep.open_slice hu hf2 with ⟨hc, hx⟩ | ⟨a, len0, cap, m, k, D, Pl, hc, _, hl, hm, hmm, hx, hall⟩
  · exact ⟨_, _, _, [], hc, .inl ⟨none, 0, rfl, rfl⟩⟩
  · simp only [if_true] at hmm
    subst hmm
    rcases Nat.eq_zero_or_pos len0 with h0 | h0
    · subst h0
      exact ⟨_, _, _, [], hc, .inl ⟨_, _, rfl, rfl⟩⟩
    · have each : ∀ i, i < m → ∃ y : α, ∀ j, j < E.n → W.cell? (a.add (i * E.n + j)) = (E.c y)[j]? := by
        intro i hi
        obtain ⟨cs, h1, h2⟩ := hall i hi
        rw [hC] at h1
        obtain ⟨_, hlen, hcell⟩ := World.cells?_some h1
        obtain ⟨y, rfl⟩ := hel _ _ _ h2
        refine ⟨y, fun j hj => ?_⟩
        have := hcell j (by omega)
        rw [Go.Deep.add_add] at this
        exact this
      have iR : Inhabited α := ⟨x0⟩
      obtain ⟨R, hR⟩ := Go.Deep.choose_lt each
      obtain ⟨sb, so, spot⟩ := a
      have hspot : spot = none := by
        have h1 := hR 0 (by omega) 0 E.pos
        have h2 : (E.c (R 0))[0]?.isSome = true := by
          rw [List.getElem?_eq_getElem (by rw [E.len]; exact E.pos)]
          rfl
        obtain ⟨u, hu2⟩ := Option.isSome_iff_exists.1 h2
        rw [hu2] at h1
        simpa [Addr.add] using World.cell?_spot h1
      subst hspot
      have hadd : ∀ j, (⟨sb, so, none⟩ : Addr).add j = ⟨sb, so + j, none⟩ := by
        intro j
        simp only [Addr.add]
        first
          | rfl
          | (split
             · next h0 => rw [h0]; rfl
             · rfl)
      refine ⟨_, _, _, (List.range len0).map R, hc, .inr ⟨sb, so, _, by simp, by simpa using hl, hm, fun i hi j u hu2 => ?_⟩⟩
      have hi2 : i < len0 := by simpa using hi
      have e : ((List.range len0).map R)[i] = R i := by simp
      rw [e] at hu2
      have hj : j < E.n := by
        have := (List.getElem?_eq_some_iff.1 hu2).1
        rw [E.len] at this
        exact this
      have hc := hR i (by omega) j hj
      rw [hadd, hu2, ← Nat.add_assoc] at hc
      exact hc
end
set_option maxRecDepth 100000 in
/-- One that came in. -/
theorem topo_open {H : Type} {enc : TypeId × Value → H} {W : World} {n : Nat} {cs : List Value} {x : DataW H × List MemPlace}
    (h : DataW.trod enc Tryd.prog W 0 (fun _ => true) true n 25 cs = some x) : ∃ S ao n cap ao2 n2 cap2 Ls Hs, cs = [.int .i64 S, .slice ao n cap, .slice ao2 n2 cap2] ∧ GS lnkE W (.slice ao n cap) Ls ∧ GS hstE W (.slice ao2 n2 cap2) Hs := by
  obtain ⟨xs, k, _, _, hl, hlen, hf⟩ := DataW.trod_struct Tryd.underlying25 h
  have hC : Tryd.prog.cellsOf 25 = 3 := by kernel_rfl
  have hT0 : Tryd.prog.cellsOf 3 = 1 := by kernel_rfl
  have hT1 : Tryd.prog.cellsOf 22 = 1 := by kernel_rfl
  have hT2 : Tryd.prog.cellsOf 23 = 1 := by kernel_rfl
  rw [hC] at hl
  match cs, hl with
  | [c0, c1, c2], _ =>
    match xs, hlen with
    | [z0, z1, z2], _ =>
      have g0 := hf 0 _ rfl
      have g1 := hf 1 _ rfl
      have g2 := hf 2 _ rfl
      simp [hT0, hT1, hT2] at g0 g1 g2
      obtain ⟨v0, e0, _, _⟩ := DataW.trod_int Tryd.underlying3 g0
      obtain ⟨ao, n, cap, Ls, e1, hL⟩ := gs_open (E := lnkE) 22 91 Tryd.underlying22 (by kernel_rfl) ((0, 0), (0, 0)) (fun _ _ _ h => lnk_open h) g1
      obtain ⟨ao2, n2, cap2, Hs, e2, hH⟩ := gs_open (E := hstE) 23 57 Tryd.underlying23 (by kernel_rfl) (ByteArray.empty, (0, 0)) (fun _ _ _ h => hst_open h) g2
      simp at e0 e1 e2
      exact ⟨v0, ao, n, cap, ao2, n2, cap2, Ls, Hs, by simp [e0, e1, e2], hL, hH⟩
theorem topo_of {H : Type} {enc : TypeId × Value → H} {W : World} {base : Nat} {v : Value} {d : DataW H} {p : List MemPlace}
    (hv : Value.okWide Tryd.prog W .any base 25 v) (h : DataW.Trod enc Tryd.prog W 0 (fun _ => true) true 25 v d p) : ∃ S ao n cap ao2 n2 cap2 Ls Hs, v = .agg #[.int .i64 S, .slice ao n cap, .slice ao2 n2 cap2] ∧ GS lnkE W (.slice ao n cap) Ls ∧ GS hstE W (.slice ao2 n2 cap2) Hs := by
  obtain ⟨cs, rfl, hsz⟩ := okWide_struct Tryd.underlying25 hv
  obtain ⟨n, hn⟩ := h
  obtain ⟨S, ao, n, cap, ao2, n2, cap2, Ls, Hs, e, h1, h2⟩ := topo_open hn
  refine ⟨S, ao, n, cap, ao2, n2, cap2, Ls, Hs, ?_, h1, h2⟩
  simp only [Value.cells] at e
  rw [← Array.toArray_toList (xs := cs), e]
end Go.Proofs.YtpmcjelihdlfeaaDoor
/- The struct api.Cube: its cells, slices of them, == of two, such that came in. Written by mk/struct.py. -/
namespace Go.Proofs.YtpmcjelihdlfeaaDoor
open Go.ChangeShapes Go.WideShapes Go.ChangeAt Go.RowKit Go.Joins
set_option linter.unusedSimpArgs false
set_option linter.unusedVariables false
set_option maxRecDepth 100000

def cuE : Enc (Int × Int) where
  c := fun x => [.int .i64 x.1, .int .i64 x.2]
  n := 2
  len := fun _ => rfl
  pos := by decide
  one := by
    intro x u hu
    simp at hu
    rcases hu with rfl | rfl <;> rfl
theorem cu_cells {w : World} {g o : Nat} {x0 : Int} {x1 : Int} (h : VAt w g o (cuE.c (x0, x1))) : w.cell? ⟨g, o, none⟩ = some (.int .i64 x0) ∧ w.cell? ⟨g, o + 1, none⟩ = some (.int .i64 x1) :=
  ⟨h 0 _ rfl, h 1 _ rfl⟩
theorem cu_at {w : World} {g o : Nat} {L : List (Int × Int)} (h : GAt cuE w g o L) {n k : Nat} (hn : L.length = n) (hk : k < n) :
    ∃ (x0 : Int) (x1 : Int) (hl : k < L.length), L[k] = (x0, x1) ∧ w.cell? ⟨g, o + k * 2, none⟩ = some (.int .i64 x0) ∧ w.cell? ⟨g, o + k * 2 + 1, none⟩ = some (.int .i64 x1) :=
  have hl : k < L.length := by omega
  ⟨_, _, hl, rfl, cu_cells (h k hl)⟩
theorem cu_new (w : World) (x0 : Int) (x1 : Int) (t : TypeId) : VAt (w.alloc (Obj.cells #[.int .i64 x0, .int .i64 x1] t)) w.heap.size 0 (cuE.c (x0, x1)) := vat_new w [.int .i64 x0, .int .i64 x1] t
theorem cu_row (w : World) (x0 : Int) (x1 : Int) (t : TypeId) : GS cuE (w.alloc (Obj.cells #[.int .i64 x0, .int .i64 x1] t)) (.slice (some ⟨w.heap.size, 0, none⟩) 1 1) [(x0, x1)] := gs_one (E := cuE) w (x0, x1) t (vs := [.int .i64 x0, .int .i64 x1]) rfl
/-- Are two the same? -/
def cuB (a b : Int × Int) : Bool := (a.1 == b.1) && ((a.2 == b.2))
theorem cuB_iff (a b : Int × Int) : cuB a b = true ↔ a = b := by
  have e : cuB a b = ((a.1 == b.1) && ((a.2 == b.2))) := rfl
  rw [e]
  simp only [Bool.and_eq_true, beq_iff_eq]
  constructor
  · intro h
    obtain ⟨a0, a1⟩ := a; obtain ⟨b0, b1⟩ := b; simp at h ⊢; simp [h]
  · intro h
    subst h
    simp
theorem cu_ways (x0 : Int) (x1 : Int) (y0 : Int) (y1 : Int) :
    ((x0 == y0) = false ∧ cuB (x0, x1) (y0, y1) = false) ∨
    ((x0 == y0) = true ∧ (x1 == y1) = false ∧ cuB (x0, x1) (y0, y1) = false) ∨
    ((x0 == y0) = true ∧ (x1 == y1) = true ∧ cuB (x0, x1) (y0, y1) = true) := by
  have e : cuB (x0, x1) (y0, y1) = ((x0 == y0) && ((x1 == y1))) := rfl
  rw [e]
  cases h0 : (x0 == y0)
  · simp
  · skip
    cases h1 : (x1 == y1)
    · simp
    · skip
      simp
set_option maxRecDepth 100000 in
theorem cu_eq (x0 : Int) (x1 : Int) (y0 : Int) (y1 : Int) (w : World) : (Op.equal 45 (.agg #[.int .i64 x0, .int .i64 x1]) (.agg #[.int .i64 y0, .int .i64 y1])).run Tryd.prog w = .ok (cuB (x0, x1) (y0, y1)) w := by
  unfold Op.equal Op.maxDepth
  rw [run_equalIn_struct w 9999 _ _ _ (by kernel_rfl) (by kernel_rfl)]
  rcases cu_ways x0 x1 y0 y1 with ⟨e0, e⟩ | ⟨e0, e1, e⟩ | ⟨e0, e1, e⟩
  all_goals
    rw [e]
    go_simp
theorem cu_info : (Tryd.prog.info? 45).map (fun i => (i.zero, i.size, i.bytes)) = some (some (.agg #[.int .i64 0, .int .i64 0]), 2, 16) := by kernel_rfl
theorem cu_zero : (Value.agg #[.int .i64 0, .int .i64 0]).cells.size = 2 := by simp [Value.cells]
/-- Cells that read as one. -/
theorem cu_open {H : Type} {enc : TypeId × Value → H} {W : World} {n : Nat} {cs : List Value} {x : DataW H × List MemPlace}
    (h : DataW.trod enc Tryd.prog W 0 (fun _ => true) true n 45 cs = some x) : ∃ y, cs = cuE.c y := by
  obtain ⟨xs, k, _, _, hl, hlen, hf⟩ := DataW.trod_struct Tryd.underlying45 h
  have hC : Tryd.prog.cellsOf 45 = 2 := by kernel_rfl
  have hT0 : Tryd.prog.cellsOf 3 = 1 := by kernel_rfl
  rw [hC] at hl
  match cs, hl with
  | [c0, c1], _ =>
    match xs, hlen with
    | [z0, z1], _ =>
      have g0 := hf 0 _ rfl
      have g1 := hf 1 _ rfl
      simp [hT0] at g0 g1
      obtain ⟨v0, e0, _, _⟩ := DataW.trod_int Tryd.underlying3 g0
      obtain ⟨v1, e1, _, _⟩ := DataW.trod_int Tryd.underlying3 g1
      simp [] at e0 e1
      refine ⟨(v0, v1), ?_⟩
      simp [cuE, e0, e1]
set_option maxRecDepth 100000 in
/-- One that came in. -/
theorem cu_of {H : Type} {enc : TypeId × Value → H} {W : World} {base : Nat} {v : Value} {d : DataW H} {p : List MemPlace}
    (hv : Value.okWide Tryd.prog W .any base 45 v) (h : DataW.Trod enc Tryd.prog W 0 (fun _ => true) true 45 v d p) : ∃ (x0 : Int) (x1 : Int), v = .agg #[.int .i64 x0, .int .i64 x1] := by
  obtain ⟨cs, rfl, hsz⟩ := okWide_struct Tryd.underlying45 hv
  obtain ⟨n, hn⟩ := h
  obtain ⟨y, e⟩ := cu_open hn
  refine ⟨y.1, y.2, ?_⟩
  simp only [Value.cells] at e
  have e2 : cs = #[.int .i64 y.1, .int .i64 y.2] := by
    rw [← Array.toArray_toList (xs := cs), e]
    rfl
  rw [e2]
end Go.Proofs.YtpmcjelihdlfeaaDoor
/- The struct api.Rule: its cells, slices of them, == of two, such that came in. Written by mk/struct.py. -/
namespace Go.Proofs.YtpmcjelihdlfeaaDoor
open Go.ChangeShapes Go.WideShapes Go.ChangeAt Go.RowKit Go.Joins
set_option linter.unusedSimpArgs false
set_option linter.unusedVariables false
set_option maxRecDepth 100000

def rlE : Enc (Ru) where
  c := fun x => [.int .i64 x.p, .int .i64 x.m, .int .i64 x.b, .int .i64 x.o, .int .i64 x.s, .int .i64 x.v]
  n := 6
  len := fun _ => rfl
  pos := by decide
  one := by
    intro x u hu
    simp at hu
    rcases hu with rfl | rfl | rfl | rfl | rfl | rfl <;> rfl
theorem rl_cells {w : World} {g o : Nat} {x0 : Int} {x1 : Int} {x2 : Int} {x3 : Int} {x4 : Int} {x5 : Int} (h : VAt w g o (rlE.c ⟨x0, x1, x2, x3, x4, x5⟩)) : w.cell? ⟨g, o, none⟩ = some (.int .i64 x0) ∧ w.cell? ⟨g, o + 1, none⟩ = some (.int .i64 x1) ∧ w.cell? ⟨g, o + 2, none⟩ = some (.int .i64 x2) ∧ w.cell? ⟨g, o + 3, none⟩ = some (.int .i64 x3) ∧ w.cell? ⟨g, o + 4, none⟩ = some (.int .i64 x4) ∧ w.cell? ⟨g, o + 5, none⟩ = some (.int .i64 x5) :=
  ⟨h 0 _ rfl, h 1 _ rfl, h 2 _ rfl, h 3 _ rfl, h 4 _ rfl, h 5 _ rfl⟩
theorem rl_at {w : World} {g o : Nat} {L : List (Ru)} (h : GAt rlE w g o L) {n k : Nat} (hn : L.length = n) (hk : k < n) :
    ∃ (x0 : Int) (x1 : Int) (x2 : Int) (x3 : Int) (x4 : Int) (x5 : Int) (hl : k < L.length), L[k] = ⟨x0, x1, x2, x3, x4, x5⟩ ∧ w.cell? ⟨g, o + k * 6, none⟩ = some (.int .i64 x0) ∧ w.cell? ⟨g, o + k * 6 + 1, none⟩ = some (.int .i64 x1) ∧ w.cell? ⟨g, o + k * 6 + 2, none⟩ = some (.int .i64 x2) ∧ w.cell? ⟨g, o + k * 6 + 3, none⟩ = some (.int .i64 x3) ∧ w.cell? ⟨g, o + k * 6 + 4, none⟩ = some (.int .i64 x4) ∧ w.cell? ⟨g, o + k * 6 + 5, none⟩ = some (.int .i64 x5) :=
  have hl : k < L.length := by omega
  ⟨_, _, _, _, _, _, hl, rfl, rl_cells (h k hl)⟩
theorem rl_new (w : World) (x0 : Int) (x1 : Int) (x2 : Int) (x3 : Int) (x4 : Int) (x5 : Int) (t : TypeId) : VAt (w.alloc (Obj.cells #[.int .i64 x0, .int .i64 x1, .int .i64 x2, .int .i64 x3, .int .i64 x4, .int .i64 x5] t)) w.heap.size 0 (rlE.c ⟨x0, x1, x2, x3, x4, x5⟩) := vat_new w [.int .i64 x0, .int .i64 x1, .int .i64 x2, .int .i64 x3, .int .i64 x4, .int .i64 x5] t
theorem rl_row (w : World) (x0 : Int) (x1 : Int) (x2 : Int) (x3 : Int) (x4 : Int) (x5 : Int) (t : TypeId) : GS rlE (w.alloc (Obj.cells #[.int .i64 x0, .int .i64 x1, .int .i64 x2, .int .i64 x3, .int .i64 x4, .int .i64 x5] t)) (.slice (some ⟨w.heap.size, 0, none⟩) 1 1) [⟨x0, x1, x2, x3, x4, x5⟩] := gs_one (E := rlE) w ⟨x0, x1, x2, x3, x4, x5⟩ t (vs := [.int .i64 x0, .int .i64 x1, .int .i64 x2, .int .i64 x3, .int .i64 x4, .int .i64 x5]) rfl
/-- Are two the same? -/
def rlB (a b : Ru) : Bool := (a.p == b.p) && ((a.m == b.m) && ((a.b == b.b) && ((a.o == b.o) && ((a.s == b.s) && ((a.v == b.v))))))
theorem rlB_iff (a b : Ru) : rlB a b = true ↔ a = b := by
  have e : rlB a b = ((a.p == b.p) && ((a.m == b.m) && ((a.b == b.b) && ((a.o == b.o) && ((a.s == b.s) && ((a.v == b.v))))))) := rfl
  rw [e]
  simp only [Bool.and_eq_true, beq_iff_eq]
  constructor
  · intro h
    obtain ⟨a0, a1, a2, a3, a4, a5⟩ := a; obtain ⟨b0, b1, b2, b3, b4, b5⟩ := b; simp at h ⊢; simp [h]
  · intro h
    subst h
    simp
theorem rl_ways (x0 : Int) (x1 : Int) (x2 : Int) (x3 : Int) (x4 : Int) (x5 : Int) (y0 : Int) (y1 : Int) (y2 : Int) (y3 : Int) (y4 : Int) (y5 : Int) :
    ((x0 == y0) = false ∧ rlB ⟨x0, x1, x2, x3, x4, x5⟩ ⟨y0, y1, y2, y3, y4, y5⟩ = false) ∨
    ((x0 == y0) = true ∧ (x1 == y1) = false ∧ rlB ⟨x0, x1, x2, x3, x4, x5⟩ ⟨y0, y1, y2, y3, y4, y5⟩ = false) ∨
    ((x0 == y0) = true ∧ (x1 == y1) = true ∧ (x2 == y2) = false ∧ rlB ⟨x0, x1, x2, x3, x4, x5⟩ ⟨y0, y1, y2, y3, y4, y5⟩ = false) ∨
    ((x0 == y0) = true ∧ (x1 == y1) = true ∧ (x2 == y2) = true ∧ (x3 == y3) = false ∧ rlB ⟨x0, x1, x2, x3, x4, x5⟩ ⟨y0, y1, y2, y3, y4, y5⟩ = false) ∨
    ((x0 == y0) = true ∧ (x1 == y1) = true ∧ (x2 == y2) = true ∧ (x3 == y3) = true ∧ (x4 == y4) = false ∧ rlB ⟨x0, x1, x2, x3, x4, x5⟩ ⟨y0, y1, y2, y3, y4, y5⟩ = false) ∨
    ((x0 == y0) = true ∧ (x1 == y1) = true ∧ (x2 == y2) = true ∧ (x3 == y3) = true ∧ (x4 == y4) = true ∧ (x5 == y5) = false ∧ rlB ⟨x0, x1, x2, x3, x4, x5⟩ ⟨y0, y1, y2, y3, y4, y5⟩ = false) ∨
    ((x0 == y0) = true ∧ (x1 == y1) = true ∧ (x2 == y2) = true ∧ (x3 == y3) = true ∧ (x4 == y4) = true ∧ (x5 == y5) = true ∧ rlB ⟨x0, x1, x2, x3, x4, x5⟩ ⟨y0, y1, y2, y3, y4, y5⟩ = true) := by
  have e : rlB ⟨x0, x1, x2, x3, x4, x5⟩ ⟨y0, y1, y2, y3, y4, y5⟩ = ((x0 == y0) && ((x1 == y1) && ((x2 == y2) && ((x3 == y3) && ((x4 == y4) && ((x5 == y5))))))) := rfl
  rw [e]
  cases h0 : (x0 == y0)
  · simp
  · skip
    cases h1 : (x1 == y1)
    · simp
    · skip
      cases h2 : (x2 == y2)
      · simp
      · skip
        cases h3 : (x3 == y3)
        · simp
        · skip
          cases h4 : (x4 == y4)
          · simp
          · skip
            cases h5 : (x5 == y5)
            · simp
            · skip
              simp
set_option maxRecDepth 100000 in
theorem rl_eq (x0 : Int) (x1 : Int) (x2 : Int) (x3 : Int) (x4 : Int) (x5 : Int) (y0 : Int) (y1 : Int) (y2 : Int) (y3 : Int) (y4 : Int) (y5 : Int) (w : World) : (Op.equal 47 (.agg #[.int .i64 x0, .int .i64 x1, .int .i64 x2, .int .i64 x3, .int .i64 x4, .int .i64 x5]) (.agg #[.int .i64 y0, .int .i64 y1, .int .i64 y2, .int .i64 y3, .int .i64 y4, .int .i64 y5])).run Tryd.prog w = .ok (rlB ⟨x0, x1, x2, x3, x4, x5⟩ ⟨y0, y1, y2, y3, y4, y5⟩) w := by
  unfold Op.equal Op.maxDepth
  rw [run_equalIn_struct w 9999 _ _ _ (by kernel_rfl) (by kernel_rfl)]
  rcases rl_ways x0 x1 x2 x3 x4 x5 y0 y1 y2 y3 y4 y5 with ⟨e0, e⟩ | ⟨e0, e1, e⟩ | ⟨e0, e1, e2, e⟩ | ⟨e0, e1, e2, e3, e⟩ | ⟨e0, e1, e2, e3, e4, e⟩ | ⟨e0, e1, e2, e3, e4, e5, e⟩ | ⟨e0, e1, e2, e3, e4, e5, e⟩
  all_goals
    rw [e]
    go_simp
theorem rl_info : (Tryd.prog.info? 47).map (fun i => (i.zero, i.size, i.bytes)) = some (some (.agg #[.int .i64 0, .int .i64 0, .int .i64 0, .int .i64 0, .int .i64 0, .int .i64 0]), 6, 48) := by kernel_rfl
theorem rl_zero : (Value.agg #[.int .i64 0, .int .i64 0, .int .i64 0, .int .i64 0, .int .i64 0, .int .i64 0]).cells.size = 6 := by simp [Value.cells]
/-- Cells that read as one. -/
theorem rl_open {H : Type} {enc : TypeId × Value → H} {W : World} {n : Nat} {cs : List Value} {x : DataW H × List MemPlace}
    (h : DataW.trod enc Tryd.prog W 0 (fun _ => true) true n 47 cs = some x) : ∃ y, cs = rlE.c y := by
  obtain ⟨xs, k, _, _, hl, hlen, hf⟩ := DataW.trod_struct Tryd.underlying47 h
  have hC : Tryd.prog.cellsOf 47 = 6 := by kernel_rfl
  have hT0 : Tryd.prog.cellsOf 3 = 1 := by kernel_rfl
  have hT1 : Tryd.prog.cellsOf 45 = 2 := by kernel_rfl
  rw [hC] at hl
  match cs, hl with
  | [c0, c1, c2, c3, c4, c5], _ =>
    match xs, hlen with
    | [z0, z1, z2, z3, z4], _ =>
      have g0 := hf 0 _ rfl
      have g1 := hf 1 _ rfl
      have g2 := hf 2 _ rfl
      have g3 := hf 3 _ rfl
      have g4 := hf 4 _ rfl
      simp [hT0, hT1] at g0 g1 g2 g3 g4
      obtain ⟨v0, e0, _, _⟩ := DataW.trod_int Tryd.underlying3 g0
      obtain ⟨s1, e1⟩ := cu_open g1
      obtain ⟨v3, e2, _, _⟩ := DataW.trod_int Tryd.underlying3 g2
      obtain ⟨v4, e3, _, _⟩ := DataW.trod_int Tryd.underlying3 g3
      obtain ⟨v5, e4, _, _⟩ := DataW.trod_int Tryd.underlying3 g4
      simp [cuE] at e0 e1 e2 e3 e4
      refine ⟨⟨v0, s1.1, s1.2, v3, v4, v5⟩, ?_⟩
      simp [rlE, e0, e1, e2, e3, e4]
set_option maxRecDepth 100000 in
/-- One that came in. -/
theorem rl_of {H : Type} {enc : TypeId × Value → H} {W : World} {base : Nat} {v : Value} {d : DataW H} {p : List MemPlace}
    (hv : Value.okWide Tryd.prog W .any base 47 v) (h : DataW.Trod enc Tryd.prog W 0 (fun _ => true) true 47 v d p) : ∃ (x0 : Int) (x1 : Int) (x2 : Int) (x3 : Int) (x4 : Int) (x5 : Int), v = .agg #[.int .i64 x0, .int .i64 x1, .int .i64 x2, .int .i64 x3, .int .i64 x4, .int .i64 x5] := by
  obtain ⟨cs, rfl, hsz⟩ := okWide_struct Tryd.underlying47 hv
  obtain ⟨n, hn⟩ := h
  obtain ⟨y, e⟩ := rl_open hn
  refine ⟨y.p, y.m, y.b, y.o, y.s, y.v, ?_⟩
  simp only [Value.cells] at e
  have e2 : cs = #[.int .i64 y.p, .int .i64 y.m, .int .i64 y.b, .int .i64 y.o, .int .i64 y.s, .int .i64 y.v] := by
    rw [← Array.toArray_toList (xs := cs), e]
    rfl
  rw [e2]
/-- A slice of them that came in. -/
theorem rls_of {H : Type} {enc : TypeId × Value → H} {W : World} {base : Nat} {v : Value} {d : DataW H} {p : List MemPlace}
    (hv : Value.okWide Tryd.prog W .any base 42 v) (h : DataW.Trod enc Tryd.prog W 0 (fun _ => true) true 42 v d p) : ∃ L, GS rlE W v L :=
  gs_of (E := rlE) 42 47 Tryd.underlying42 (by kernel_rfl) ⟨0, 0, 0, 0, 0, 0⟩ (fun _ _ _ h => rl_open h) hv h
end Go.Proofs.YtpmcjelihdlfeaaDoor
/- A net that came in: its topology, its tables. -/
namespace Go.Proofs.YtpmcjelihdlfeaaDoor
open Go.ChangeShapes Go.WideShapes Go.ChangeAt Go.RowKit Go.Joins
set_option linter.unusedSimpArgs false
set_option linter.unusedVariables false
set_option maxRecDepth 100000

theorem gs_SR {w : World} {v : Value} {L : List Ru} (h : GS rlE w v L) : SR w v L := by
  rcases h with h | ⟨g, o, cap, h1, h2, h3, h4⟩
  · exact .inl h
  · refine .inr ⟨g, o, cap, h1, h2, h3, fun i hi => ?_⟩
    have hv := h4 i hi
    generalize L[i] = r at hv
    obtain ⟨p, m, b, q, s, x⟩ := r
    obtain ⟨q0, q1, q2, q3, q4, q5⟩ := rl_cells hv
    exact ⟨q0, q1, q2, q3, q4, q5⟩
set_option maxRecDepth 100000 in
theorem table_open {H : Type} {enc : TypeId × Value → H} {W : World} {fuel : Nat} {cs : List Value} {x : DataW H × List MemPlace}
    (h : DataW.trod enc Tryd.prog W 0 (fun _ => true) true fuel 42 cs = some x) : ∃ ao n cap L, cs = [.slice ao n cap] ∧ SR W (.slice ao n cap) L := by
  obtain ⟨ao, n, cap, L, e, hL⟩ := gs_open (E := rlE) 42 47 Tryd.underlying42 (by kernel_rfl) zeR (fun _ _ _ h => rl_open h) h
  exact ⟨ao, n, cap, L, e, gs_SR hL⟩
set_option maxRecDepth 100000 in
theorem tables_open {H : Type} {enc : TypeId × Value → H} {W : World} {fuel : Nat} {cs : List Value} {x : DataW H × List MemPlace}
    (hf2 : DataW.trod enc Tryd.prog W 0 (fun _ => true) true fuel 26 cs = some x) : ∃ ao n cap Ts, cs = [.slice ao n cap] ∧ TS W (.slice ao n cap) Ts := by
  obtain ⟨d, p⟩ := x
  have hC : Tryd.prog.cellsOf 42 = 1 := by kernel_rfl
  rcases Go.Deep.open_slice Tryd.underlying26 hf2 with ⟨hc, hx⟩ | ⟨a, len0, cap, m, k, D, Pl, hc, _, hl, hm, hmm, hx, hall⟩
  · exact ⟨_, _, _, [], hc, .inl ⟨none, 0, rfl, rfl⟩⟩
  · simp only [if_true] at hmm
    subst hmm
    rcases Nat.eq_zero_or_pos len0 with h0 | h0
    · subst h0
      exact ⟨_, _, _, [], hc, .inl ⟨_, _, rfl, rfl⟩⟩
    · have each : ∀ i, i < m → ∃ L : List Ru, ∃ ao n cap, W.cell? (a.add i) = some (.slice ao n cap) ∧ SR W (.slice ao n cap) L := by
        intro i hi
        obtain ⟨cs, h1, h2⟩ := hall i hi
        rw [hC] at h1
        obtain ⟨_, hlen, hcell⟩ := World.cells?_some h1
        obtain ⟨ao, n, cap, L, rfl, hL⟩ := table_open h2
        refine ⟨L, ao, n, cap, ?_, hL⟩
        have := hcell 0 (by simp)
        rw [Go.Deep.add_add] at this
        simpa using this
      obtain ⟨R, hR⟩ := Go.Deep.choose_lt each
      obtain ⟨sb, so, spot⟩ := a
      have hspot : spot = none := by
        obtain ⟨ao, n, cap, h1, _⟩ := hR 0 (by omega)
        simpa [Addr.add] using World.cell?_spot h1
      subst hspot
      have hadd : ∀ j, (⟨sb, so, none⟩ : Addr).add j = ⟨sb, so + j, none⟩ := by
        intro j
        simp only [Addr.add]
        first
          | rfl
          | (split
             · next h0 => rw [h0]; rfl
             · rfl)
      refine ⟨_, _, _, (List.range len0).map R, hc, .inr ⟨sb, so, _, by simp, by simpa using hl, hm, fun i hi => ?_⟩⟩
      have hi2 : i < len0 := by simpa using hi
      have e : ((List.range len0).map R)[i] = R i := by simp
      rw [e]
      obtain ⟨ao, n, cap, h1, h2⟩ := hR i (by omega)
      rw [hadd] at h1
      exact ⟨ao, n, cap, h1, h2⟩
set_option maxRecDepth 100000 in
/-- One that came in. -/
theorem net_open {H : Type} {enc : TypeId × Value → H} {W : World} {n : Nat} {cs : List Value} {x : DataW H × List MemPlace}
    (h : DataW.trod enc Tryd.prog W 0 (fun _ => true) true n 28 cs = some x) : ∃ S ao n cap ao2 n2 cap2 ao3 n3 cap3 Ls Hs Ts, cs = [.int .i64 S, .slice ao n cap, .slice ao2 n2 cap2, .slice ao3 n3 cap3] ∧ GS lnkE W (.slice ao n cap) Ls ∧ GS hstE W (.slice ao2 n2 cap2) Hs ∧ TS W (.slice ao3 n3 cap3) Ts := by
  obtain ⟨xs, k, _, _, hl, hlen, hf⟩ := DataW.trod_struct Tryd.underlying28 h
  have hC : Tryd.prog.cellsOf 28 = 4 := by kernel_rfl
  have hT0 : Tryd.prog.cellsOf 25 = 3 := by kernel_rfl
  have hT1 : Tryd.prog.cellsOf 26 = 1 := by kernel_rfl
  rw [hC] at hl
  match cs, hl with
  | [c0, c1, c2, c3], _ =>
    match xs, hlen with
    | [z0, z1], _ =>
      have g0 := hf 0 _ rfl
      have g1 := hf 1 _ rfl
      simp [hT0, hT1] at g0 g1
      obtain ⟨S, ao, n, cap, ao2, n2, cap2, Ls, Hs, e0, hL, hH⟩ := topo_open g0
      obtain ⟨ao3, n3, cap3, Ts, e1, hT⟩ := tables_open g1
      simp at e0 e1
      exact ⟨S, ao, n, cap, ao2, n2, cap2, ao3, n3, cap3, Ls, Hs, Ts, by simp [e0, e1], hL, hH, hT⟩
theorem net_of {H : Type} {enc : TypeId × Value → H} {W : World} {base : Nat} {v : Value} {d : DataW H} {p : List MemPlace}
    (hv : Value.okWide Tryd.prog W .any base 28 v) (h : DataW.Trod enc Tryd.prog W 0 (fun _ => true) true 28 v d p) : ∃ S ao n cap ao2 n2 cap2 ao3 n3 cap3 Ls Hs Ts, v = .agg #[.int .i64 S, .slice ao n cap, .slice ao2 n2 cap2, .slice ao3 n3 cap3] ∧ GS lnkE W (.slice ao n cap) Ls ∧ GS hstE W (.slice ao2 n2 cap2) Hs ∧ TS W (.slice ao3 n3 cap3) Ts := by
  obtain ⟨cs, rfl, hsz⟩ := okWide_struct Tryd.underlying28 hv
  obtain ⟨n, hn⟩ := h
  obtain ⟨S, ao, n, cap, ao2, n2, cap2, ao3, n3, cap3, Ls, Hs, Ts, e, h1, h2, h3⟩ := net_open hn
  refine ⟨S, ao, n, cap, ao2, n2, cap2, ao3, n3, cap3, Ls, Hs, Ts, ?_, h1, h2, h3⟩
  simp only [Value.cells] at e
  rw [← Array.toArray_toList (xs := cs), e]
end Go.Proofs.YtpmcjelihdlfeaaDoor
/- The row of WishClash: it answers true, whatever net and two names it is called with; the variable errorType of package errors is as the program's text lays it. -/
namespace Go.Proofs.YtpmcjelihdlfeaaDoor.wishClash
open Go.ChangeShapes Go.WideShapes Go.ChangeAt Go.RowKit
set_option linter.unusedVariables false
set_option linter.unusedSimpArgs false

theorem own : ownKnob Tryd.prog.godebug = none := by kernel_rfl
theorem laidOut : laidOutB Tryd.prog = true := by kernel_rfl
theorem et : Tryd.prog.globalNamed "errors.errorType" = some 0 := by kernel_rfl
theorem oneRow : ((List.range 211).filter fun t => Tryd.prog.rowNamed t [101, 114, 114, 111, 114]) = [34] := by kernel_rfl
theorem tsize : Tryd.prog.types.size = 211 := by kernel_rfl

theorem handle_of_laid {W : World} (h : laidMetH Tryd.prog Rows.wishClashRow.laid W) : HasErr W := by
  have h' : laidMet Tryd.prog [] W ∧ handlesMet Tryd.prog Rows.wishClashRow.laid W := h
  obtain ⟨name, u, ty, e1, e2, e3, e4, e5⟩ := h'.2 _ (List.mem_singleton.2 rfl)
  have en : name = [101, 114, 114, 111, 114] := (Option.some.inj e1).symm
  subst en
  have hu : some u = some 158 := e2.symm.trans (by kernel_rfl)
  obtain rfl := Option.some.inj hu
  have hm : ty ∈ (List.range 211).filter fun t => Tryd.prog.rowNamed t [101, 114, 114, 111, 114] := List.mem_filter.2 ⟨List.mem_range.2 (by rw [← tsize]; exact e3), e4⟩
  rw [oneRow] at hm
  obtain rfl := List.mem_singleton.1 hm
  have hh : typeHandle Tryd.prog 34 = .pointer (some ⟨1, 34, none⟩) := by kernel_rfl
  rw [hh] at e5
  unfold HasErr
  simpa using World.var?_cell et e5 0

set_option maxRecDepth 100000 in
theorem lifted (os : Os) (started : os.Started) (H : Type) (enc : TypeId × Value → H) :
    ReturnsInHanded {} Tryd.checked os 6 .any (fun w args => (Rows.wishClashSpec.pre enc Tryd.prog Tryd.f6 [] false w args ∧ laidMetH Tryd.prog Rows.wishClashRow.laid w) ∧ sizedMet enc Tryd.prog Tryd.f6 (OpenSpec.ofChange Rows.wishClashSpec) false w args)
      (Rows.wishClashSpec.post enc Tryd.prog Tryd.f6 false true false false) := by
  refine returnsInHanded_of_change_and (C := Tryd.checked) (X := fun w _ => laidMetH Tryd.prog Rows.wishClashRow.laid w) (fun _ _ _ hh h => h.of_heap hh) own started (by kernel_rfl) Tryd.func6
    (ChangeSpec.witness_at (enc := enc) (C := Tryd.checked) (os := os) (X := fun w _ => laidMetH Tryd.prog Rows.wishClashRow.laid w) false
      { World.holding Tryd.prog os ⟨#[], #[], []⟩ with heap := (World.holding Tryd.prog os ⟨#[], #[], []⟩).heap.modify 0 fun
          | .cells _ t frozen => .cells #[.iface 158 (.agg #[.pointer (some ⟨1, 34, none⟩)])] t frozen
          | o => o }
      #[.agg #[.int .i64 0, .slice none 0 0, .slice none 0 0, .slice none 0 0], .string ByteArray.empty, .string ByteArray.empty] 8 rfl (by kernel_rfl) (by kernel_rfl) (by kernel_rfl) (by kernel_rfl) (by kernel_rfl) (laidMetH_of_parts (laidMet_nil _ _) (by kernel_rfl))) ?_
  intro W base args ds gs before hval0 hW _ _ hLaid _
  have hval : ∀ (j : Nat) t v, Tryd.f6.params[j]? = some t → args[j]? = some v → Value.okWide Tryd.prog W .any base t v := hval0
  have hW' := hW
  obtain ⟨p, q, hA0, hV0, rfl, hfz, hnd⟩ := hW
  have hA : DataW.TrodAll enc Tryd.prog W 0 (fun _ => true) true Tryd.f6.params.toList args.toList ds p := hA0
  have hV : DataW.TrodVars enc Tryd.prog W (fun _ => true) [] gs q := hV0
  rw [Tryd.params6] at hA hval
  obtain ⟨v0, vs0, d0, ds0, p0, q0, hargs, rfl, rfl, h0, r0⟩ := trodAll_cons hA
  obtain ⟨v1, vs1, d1, ds1, p1, q1, rfl, rfl, rfl, h1, r1⟩ := trodAll_cons r0
  obtain ⟨v2, vs2, d2, ds2, p2, q2, rfl, rfl, rfl, h2, r2⟩ := trodAll_cons r1
  obtain ⟨rfl, rfl, rfl⟩ := trodAll_nil r2
  obtain rfl : args = #[v0, v1, v2] := by cases args; simp_all
  have hg := handle_of_laid hLaid
  obtain ⟨rfl, rfl⟩ : gs = [] ∧ q = [] := by
    cases gs with
    | nil => exact ⟨rfl, hV⟩
    | cons g r => exact absurd hV (by intro h; cases h)
  have k0 := h0
  have lt0 : ∀ x ∈ p0, x.block < W.heap.size := by obtain ⟨m, hm⟩ := k0; exact DataW.trod_lt m _ _ _ hm
  have k1 := h1
  have lt1 : ∀ x ∈ p1, x.block < W.heap.size := by obtain ⟨m, hm⟩ := k1; exact DataW.trod_lt m _ _ _ hm
  have k2 := h2
  have lt2 : ∀ x ∈ p2, x.block < W.heap.size := by obtain ⟨m, hm⟩ := k2; exact DataW.trod_lt m _ _ _ hm
  obtain ⟨S, ao, n, cap, ao2, n2, cap2, ao3, n3, cap3, Ls, Hs, Ts, rfl, hL, hH, hT⟩ := net_of (hval 0 28 v0 rfl rfl) h0
  obtain ⟨m, rfl⟩ := okWide_string Tryd.underlying9 (hval 1 9 v1 rfl rfl)
  obtain ⟨m2, rfl⟩ := okWide_string Tryd.underlying9 (hval 2 9 v2 rfl rfl)
  clear hA0 hval0
  refine (walk S ao n cap ao2 n2 cap2 ao3 n3 cap3 Ls Hs Ts m m2 W hL hH hT hg).mono fun e W' ⟨he, bel⟩ => ?_
  subst he
  exact ⟨_, rfl, _, _, _, [], _, [], hW', trodAll_mk1 (shut_bool Tryd.underlying4 _), (trodAll_cons_mk (Below.trod laidOut (by kernel_rfl) (of_decide_eq_true (by kernel_rfl)) k0 bel lt0) (trodAll_cons_mk (Below.trod laidOut (by kernel_rfl) (of_decide_eq_true (by kernel_rfl)) k1 bel lt1) (trodAll_cons_mk (Below.trod laidOut (by kernel_rfl) (of_decide_eq_true (by kernel_rfl)) k2 bel lt2) trodAll_mk0))), rfl, bel.frame _, fun h => by cases h⟩

theorem over : Rows.WishClashSaid :=
  OpenClaim.holds_of_wide 6 Tryd.f6 rfl rfl rfl rfl rfl rfl rfl ⟨rfl, rfl, rfl, rfl, rfl⟩ rfl rfl rfl rfl rfl (by kernel_rfl) Tryd.func6 (by kernel_rfl)
    (of_decide_eq_true (by kernel_rfl)) (by unfold Func.isWrapper; first | (rw [if_pos (by decide +kernel)]; kernel_rfl) | (rw [if_neg (by decide +kernel)]; exact ⟨rfl, rfl⟩))
    (fun os started H enc _ => lifted os started H enc)
end Go.Proofs.YtpmcjelihdlfeaaDoor.wishClash
