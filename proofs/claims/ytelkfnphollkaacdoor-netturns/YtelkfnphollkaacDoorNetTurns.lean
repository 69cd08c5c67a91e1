/- The walk of NetTurns: it answers true, whatever number it is called with. -/
import Derived.Test.YtelkfnphollkaacDoorNetSend
import Derived.Test.YtelkfnphollkaacDoorTopoLine1
import Derived.Test.YtelkfnphollkaacDoorSameNo
namespace Go.Proofs.YtelkfnphollkaacDoor.netTurns
open Go.RowKit
set_option linter.unusedSimpArgs false
set_option linter.unusedVariables false

theorem line_2 (w : World) : Calls Tryd.prog 22 #[.int .i64 2] w fun e w' => ∃ ao n cap ao2 n2 cap2, e = .returned (.agg #[.int .i64 2, .slice ao n cap, .slice ao2 n2 cap2]) ∧ GS lnkE w' (.slice ao n cap) (lnTo 1) ∧ GS hstE w' (.slice ao2 n2 cap2) (lnH 2) ∧ Below w.heap.size w w' :=
  line_any 2 w (by decide) (by decide)
theorem ts_two {W : World} {a1 a2 : Option Addr} {n1 c1 n2 c2 : Nat} {L1 L2 : List Ru} (t : TypeId) (h1 : SR W (.slice a1 n1 c1) L1) (h2 : SR W (.slice a2 n2 c2) L2) :
    TS (W.alloc (.cells #[.slice a1 n1 c1, .slice a2 n2 c2] t)) (.slice (some ⟨W.heap.size, 0, none⟩) 2 2) [L1, L2] := by
  have hb : Below W.heap.size W (W.alloc (.cells #[.slice a1 n1 c1, .slice a2 n2 c2] t)) := (Below.refl _ _).alloc (Nat.le_refl _) _
  refine .inr ⟨W.heap.size, 0, 2, rfl, Nat.le_refl _, by unfold maxLen; omega, ?_⟩
  intro i hi
  match i, hi with
  | 0, _ => exact ⟨a1, n1, c1, by simp, h1.later hb⟩
  | 1, _ => exact ⟨a2, n2, c2, by simp, h2.later hb⟩
theorem sr_one (W : World) (p m b o s v : Int) (t : TypeId) : SR (W.alloc (.cells #[.int .i64 p, .int .i64 m, .int .i64 b, .int .i64 o, .int .i64 s, .int .i64 v] t)) (.slice (some ⟨W.heap.size, 0, none⟩) 1 1) [⟨p, m, b, o, s, v⟩] := by
  refine .inr ⟨W.heap.size, 0, 1, rfl, Nat.le_refl _, by unfold maxLen; omega, ?_⟩
  intro i hi
  match i, hi with
  | 0, _ =>
    have h := vat_new W [.int .i64 p, .int .i64 m, .int .i64 b, .int .i64 o, .int .i64 s, .int .i64 v] t
    exact ⟨h 0 _ rfl, h 1 _ rfl, h 2 _ rfl, h 3 _ rfl, h 4 _ rfl, h 5 _ rfl⟩
theorem sr_two (W : World) (p m b o s v p' m' b' o' s' v' : Int) (t : TypeId) : SR (W.alloc (.cells #[.int .i64 p, .int .i64 m, .int .i64 b, .int .i64 o, .int .i64 s, .int .i64 v, .int .i64 p', .int .i64 m', .int .i64 b', .int .i64 o', .int .i64 s', .int .i64 v'] t)) (.slice (some ⟨W.heap.size, 0, none⟩) 2 2) [⟨p, m, b, o, s, v⟩, ⟨p', m', b', o', s', v'⟩] := by
  refine .inr ⟨W.heap.size, 0, 2, rfl, Nat.le_refl _, by unfold maxLen; omega, ?_⟩
  intro i hi
  have h := vat_new W [.int .i64 p, .int .i64 m, .int .i64 b, .int .i64 o, .int .i64 s, .int .i64 v, .int .i64 p', .int .i64 m', .int .i64 b', .int .i64 o', .int .i64 s', .int .i64 v'] t
  match i, hi with
  | 0, _ => exact ⟨h 0 _ rfl, h 1 _ rfl, h 2 _ rfl, h 3 _ rfl, h 4 _ rfl, h 5 _ rfl⟩
  | 1, _ => exact ⟨h 6 _ rfl, h 7 _ rfl, h 8 _ rfl, h 9 _ rfl, h 10 _ rfl, h 11 _ rfl⟩
theorem ts_nil (W : World) (t : TypeId) : TS (W.alloc (.cells #[.slice none 0 0, .slice none 0 0] t)) (.slice (some ⟨W.heap.size, 0, none⟩) 2 2) [[], []] := ts_two t (.inl ⟨none, 0, rfl, rfl⟩) (.inl ⟨none, 0, rfl, rfl⟩)

set_option maxRecDepth 100000 in
set_option maxHeartbeats 4000000 in
theorem out (h : Int) (hh : hdrB h = false) (w : World) (hg : HasErr w) :
    Calls Tryd.prog 6 #[.int .i64 h] w fun e w' => e = .returned (.bool true) ∧ Below w.heap.size w w' := by
  have HG : Hid (HasErr w) := hg
  have HH : Hid (hdrB h = false) := hh
  have hno := hdr_no hh
  clear hg hh
  by_cases h1 : h < 0
  · have e1 : decide (h < 0) = true := by simpa using h1
    clear hno
    go_enter Tryd.func6, Tryd.ntmps6
    go_wp2_with fail
    refine (line_2 _).mono ?_
    rintro e w1 ⟨ao, n, cap, ao2, n2, cap2, rfl, hL, hH, hb1⟩
    have hal : Below w1.heap.size w1 (w1.alloc (.cells #[.slice none 0 0, .slice none 0 0] 66)) := (Below.refl _ _).alloc (Nat.le_refl _) _
    have HTS := ts_nil w1 66
    have HL : Hid (GS lnkE (w1.alloc (.cells #[.slice none 0 0, .slice none 0 0] 66)) (.slice ao n cap) (lnTo 1)) := hL.later hal
    have HHS : Hid (GS hstE (w1.alloc (.cells #[.slice none 0 0, .slice none 0 0] 66)) (.slice ao2 n2 cap2) (lnH 2)) := hH.later hal
    have HT : Hid (TS (w1.alloc (.cells #[.slice none 0 0, .slice none 0 0] 66)) (.slice (some ⟨w1.heap.size, 0, none⟩) 2 2) [[], []]) := HTS
    have HB1 : Hid (Below w.heap.size w (w1.alloc (.cells #[.slice none 0 0, .slice none 0 0] 66))) := hb1.trans (hal.mono hb1.size)
    clear hal HTS hL hH hb1
    go_wp2_with fail
    refine (send_any 2 ao n cap ao2 n2 cap2 _ 2 2 (lnTo 1) (lnH 2) [[], []] ⟨#[97]⟩ h _ HL.out HHS.out HT.out).mono ?_
    rintro e w2 ⟨ao4, n4, cap4, rfl, _, hb2⟩
    rw [show seN 2 (lnTo 1) (lnH 2) [[], []] ⟨#[97]⟩ h = 1 from turn3 HH.out]
    generalize seV 2 (lnTo 1) (lnH 2) [[], []] ⟨#[97]⟩ h = V
    obtain ⟨V1, V2, V3⟩ := V
    have HB2 : Hid (Below w.heap.size w (w2.alloc (Obj.cells #[.int .i64 V1, .string V2, .slice ao4 n4 cap4] 64))) := (HB1.out.trans (hb2.mono HB1.out.size)).alloc (HB1.out.trans (hb2.mono HB1.out.size)).size _
    have HG2 : Hid (HasErr (w2.alloc (Obj.cells #[.int .i64 V1, .string V2, .slice ao4 n4 cap4] 64))) := HG.out.later HB2.out
    clear hb2
    go_wp2_with fail
    refine (same_noV 1 _ HG2.out).mono ?_
    rintro e w3 ⟨rfl, hb3⟩
    have HB3 : Hid (Below w.heap.size w w3) := HB2.out.trans (hb3.mono HB2.out.size)
    clear hb3
    go_wp2
    go_ret
    exact ⟨rfl, HB3.out⟩
  · have e1 : decide (h < 0) = false := by simpa using h1
    have e2 : decide (15 < h) = true := by simp; omega
    clear hno
    go_enter Tryd.func6, Tryd.ntmps6
    go_wp2_with fail
    refine (line_2 _).mono ?_
    rintro e w1 ⟨ao, n, cap, ao2, n2, cap2, rfl, hL, hH, hb1⟩
    have hal : Below w1.heap.size w1 (w1.alloc (.cells #[.slice none 0 0, .slice none 0 0] 66)) := (Below.refl _ _).alloc (Nat.le_refl _) _
    have HTS := ts_nil w1 66
    have HL : Hid (GS lnkE (w1.alloc (.cells #[.slice none 0 0, .slice none 0 0] 66)) (.slice ao n cap) (lnTo 1)) := hL.later hal
    have HHS : Hid (GS hstE (w1.alloc (.cells #[.slice none 0 0, .slice none 0 0] 66)) (.slice ao2 n2 cap2) (lnH 2)) := hH.later hal
    have HT : Hid (TS (w1.alloc (.cells #[.slice none 0 0, .slice none 0 0] 66)) (.slice (some ⟨w1.heap.size, 0, none⟩) 2 2) [[], []]) := HTS
    have HB1 : Hid (Below w.heap.size w (w1.alloc (.cells #[.slice none 0 0, .slice none 0 0] 66))) := hb1.trans (hal.mono hb1.size)
    clear hal HTS hL hH hb1
    go_wp2_with fail
    refine (send_any 2 ao n cap ao2 n2 cap2 _ 2 2 (lnTo 1) (lnH 2) [[], []] ⟨#[97]⟩ h _ HL.out HHS.out HT.out).mono ?_
    rintro e w2 ⟨ao4, n4, cap4, rfl, _, hb2⟩
    rw [show seN 2 (lnTo 1) (lnH 2) [[], []] ⟨#[97]⟩ h = 1 from turn3 HH.out]
    generalize seV 2 (lnTo 1) (lnH 2) [[], []] ⟨#[97]⟩ h = V
    obtain ⟨V1, V2, V3⟩ := V
    have HB2 : Hid (Below w.heap.size w (w2.alloc (Obj.cells #[.int .i64 V1, .string V2, .slice ao4 n4 cap4] 64))) := (HB1.out.trans (hb2.mono HB1.out.size)).alloc (HB1.out.trans (hb2.mono HB1.out.size)).size _
    have HG2 : Hid (HasErr (w2.alloc (Obj.cells #[.int .i64 V1, .string V2, .slice ao4 n4 cap4] 64))) := HG.out.later HB2.out
    clear hb2
    go_wp2_with fail
    refine (same_noV 1 _ HG2.out).mono ?_
    rintro e w3 ⟨rfl, hb3⟩
    have HB3 : Hid (Below w.heap.size w w3) := HB2.out.trans (hb3.mono HB2.out.size)
    clear hb3
    go_wp2
    go_ret
    exact ⟨rfl, HB3.out⟩
theorem al (X : World) (o : Obj) : ∃ Y, X.alloc o = Y ∧ Below X.heap.size X Y ∧ Y.heap.size = X.heap.size + 1 := ⟨_, rfl, (Below.refl _ _).alloc (Nat.le_refl _) _, by simp⟩
set_option maxRecDepth 100000 in
set_option maxHeartbeats 8000000 in
theorem inn (h : Int) (hh : hdrB h = true) (w : World) :
    Calls Tryd.prog 6 #[.int .i64 h] w fun e w' => e = .returned (.bool true) ∧ Below w.heap.size w w' := by
  have HH : Hid (hdrB h = true) := hh
  have hin := hdr_of hh
  have e1 : decide (h < 0) = false := by simp; omega
  have e2 : decide (15 < h) = false := by simp; omega
  clear hh hin
  go_enter Tryd.func6, Tryd.ntmps6
  go_wp2_with fail
  refine (line_2 _).mono ?_
  rintro e w1 ⟨ao, n, cap, ao2, n2, cap2, rfl, hL, hH, hb1⟩
  have HLW : Hid (∀ W, Below w1.heap.size w1 W → GS lnkE W (.slice ao n cap) (lnTo 1)) := fun W hb => hL.later hb
  have HHW : Hid (∀ W, Below w1.heap.size w1 W → GS hstE W (.slice ao2 n2 cap2) (lnH 2)) := fun W hb => hH.later hb
  have HB1 : Hid (Below w.heap.size w w1) := hb1
  clear hL hH hb1
  obtain ⟨A1, h1, b1, s1⟩ := al w1 (Obj.cells #[.int .i64 2, .slice ao n cap, .slice ao2 n2 cap2] 25)
  obtain ⟨A2, h2, b2, s2⟩ := al A1 (Obj.cells #[.int .i64 1, .int .i64 0, .int .i64 0, .int .i64 2, .int .i64 0, .int .i64 0] 71)
  have v2 := vat_new A1 [.int .i64 1, .int .i64 0, .int .i64 0, .int .i64 2, .int .i64 0, .int .i64 0] 71
  obtain ⟨A3, h3, b3, s3⟩ := al A2 (Obj.cells #[.int .i64 1, .int .i64 0, .int .i64 0, .int .i64 1, .int .i64 0, .int .i64 0] 71)
  have v3 := vat_new A2 [.int .i64 1, .int .i64 0, .int .i64 0, .int .i64 1, .int .i64 0, .int .i64 0] 71
  obtain ⟨A4, h4, b4, s4⟩ := al A3 (Obj.cells #[.int .i64 1, .int .i64 0, .int .i64 0, .int .i64 2, .int .i64 0, .int .i64 0] 71)
  have r4 := sr_one A3 1 0 0 2 0 0 71
  obtain ⟨A5, h5, b5, s5⟩ := al A4 (Obj.cells #[.int .i64 1, .int .i64 0, .int .i64 0, .int .i64 1, .int .i64 0, .int .i64 0] 71)
  have r5 := sr_one A4 1 0 0 1 0 0 71
  rw [s1] at s2
  rw [s2] at s3
  rw [s3] at s4
  rw [s4] at s5
  rw [h4, s3] at r4
  rw [h5, s4] at r5
  rw [h2, s1] at v2
  rw [h3, s2] at v3
  obtain ⟨A6, h6, b6, s6⟩ := al A5 (Obj.cells #[.slice (some ⟨w1.heap.size + 1 + 1 + 1, 0, none⟩) 1 1, .slice (some ⟨w1.heap.size + 1 + 1 + 1 + 1, 0, none⟩) 1 1] 66)
  have r6 := ts_two 66 (r4.later b5) r5
  rw [h6, s5] at r6
  rw [s5] at s6
  obtain ⟨A7, h7, b7, s7⟩ := al A6 (Obj.cells #[.int .i64 2, .slice ao n cap, .slice ao2 n2 cap2, .slice (some ⟨w1.heap.size + 1 + 1 + 1 + 1 + 1, 0, none⟩) 2 2] 58)
  have n7 := nebox_new A6 2 (.slice ao n cap) (.slice ao2 n2 cap2) (.slice (some ⟨w1.heap.size + 1 + 1 + 1 + 1 + 1, 0, none⟩) 2 2) 58
  have z7 := froz_new2 A6 #[.int .i64 2, .slice ao n cap, .slice ao2 n2 cap2, .slice (some ⟨w1.heap.size + 1 + 1 + 1 + 1 + 1, 0, none⟩) 2 2] 58 3
  rw [h7, s6] at n7 z7
  rw [s6] at s7
  have HT7 : Hid (TS A7 (.slice (some ⟨w1.heap.size + 1 + 1 + 1 + 1 + 1, 0, none⟩) 2 2) [[ruG], [ruK]]) := r6.later b7
  have HV2 : Hid (VAt A7 (w1.heap.size + 1) 0 [.int .i64 1, .int .i64 0, .int .i64 0, .int .i64 2, .int .i64 0, .int .i64 0]) := ((((v2.later b3).later b4).later b5).later b6).later b7
  have HV3 : Hid (VAt A7 (w1.heap.size + 1 + 1) 0 [.int .i64 1, .int .i64 0, .int .i64 0, .int .i64 1, .int .i64 0, .int .i64 0]) := (((v3.later b4).later b5).later b6).later b7
  have HN7 : Hid (NeBox A7 (w1.heap.size + 1 + 1 + 1 + 1 + 1 + 1) 2 (.slice ao n cap) (.slice ao2 n2 cap2) (.slice (some ⟨w1.heap.size + 1 + 1 + 1 + 1 + 1, 0, none⟩) 2 2)) := n7
  have HZ7 : Hid (A7.frozen? ⟨w1.heap.size + 1 + 1 + 1 + 1 + 1 + 1, 3, none⟩ = false) := z7
  have HB7 : Hid (Below w1.heap.size w1 A7) := (((((b1.trans (b2.mono (by omega))).trans (b3.mono (by omega))).trans (b4.mono (by omega))).trans (b5.mono (by omega))).trans (b6.mono (by omega))).trans (b7.mono (by omega))
  have H1 : Hid (w1.alloc (Obj.cells #[.int .i64 2, .slice ao n cap, .slice ao2 n2 cap2] 25) = A1) := h1
  have H2 : Hid (A1.alloc (Obj.cells #[.int .i64 1, .int .i64 0, .int .i64 0, .int .i64 2, .int .i64 0, .int .i64 0] 71) = A2) := h2
  have H3 : Hid (A2.alloc (Obj.cells #[.int .i64 1, .int .i64 0, .int .i64 0, .int .i64 1, .int .i64 0, .int .i64 0] 71) = A3) := h3
  have H4 : Hid (A3.alloc (Obj.cells #[.int .i64 1, .int .i64 0, .int .i64 0, .int .i64 2, .int .i64 0, .int .i64 0] 71) = A4) := h4
  have H5 : Hid (A4.alloc (Obj.cells #[.int .i64 1, .int .i64 0, .int .i64 0, .int .i64 1, .int .i64 0, .int .i64 0] 71) = A5) := h5
  have H6 : Hid (A5.alloc (Obj.cells #[.slice (some ⟨w1.heap.size + 1 + 1 + 1, 0, none⟩) 1 1, .slice (some ⟨w1.heap.size + 1 + 1 + 1 + 1, 0, none⟩) 1 1] 66) = A6) := h6
  have H7 : Hid (A6.alloc (Obj.cells #[.int .i64 2, .slice ao n cap, .slice ao2 n2 cap2, .slice (some ⟨w1.heap.size + 1 + 1 + 1 + 1 + 1, 0, none⟩) 2 2] 58) = A7) := h7
  have HS7 : Hid (A7.heap.size = w1.heap.size + 1 + 1 + 1 + 1 + 1 + 1 + 1) := s7
  clear h1 h2 h3 h4 h5 h6 h7 b1 b2 b3 b4 b5 b6 b7 s1 s2 s3 s4 s5 s6 s7 v2 v3 r4 r5 r6 n7 z7
  go_wp2_with fail
  rw [H1.out, H2.out, H3.out, H4.out, H5.out, H6.out, H7.out]
  refine (send_any 2 ao n cap ao2 n2 cap2 _ 2 2 (lnTo 1) (lnH 2) [[ruG], [ruK]] ⟨#[97]⟩ h _ (HLW.out _ HB7.out) (HHW.out _ HB7.out) HT7.out).mono ?_
  rintro e w9 ⟨ao4, n4, cap4, rfl, hown, hb9⟩
  obtain ⟨t1, t2, t3⟩ := turn1 HH.out
  have hn4 : n4 = 3 := by
    have h1 := (own_GS (E := hopE) hown).len
    rw [← h1]
    exact t3
  subst hn4
  rw [show seN 2 (lnTo 1) (lnH 2) [[ruG], [ruK]] ⟨#[97]⟩ h = 0 from t1, no_ok rfl, show (seV 2 (lnTo 1) (lnH 2) [[ruG], [ruK]] ⟨#[97]⟩ h).1 = 4 from t2]
  generalize (seV 2 (lnTo 1) (lnH 2) [[ruG], [ruK]] ⟨#[97]⟩ h).2.1 = nm
  obtain ⟨c0, c1, c2, c3⟩ := HN7.out.later hb9
  have z3 := (hb9.frozen (p := ⟨w1.heap.size + 1 + 1 + 1 + 1 + 1 + 1, 3, none⟩) (show w1.heap.size + 1 + 1 + 1 + 1 + 1 + 1 < A7.heap.size by rw [HS7.out]; omega)).trans HZ7.out
  have v2 := HV2.out.later hb9
  have v3 := HV3.out.later hb9
  have p0 : w9.cell? ⟨w1.heap.size + 1, 0, none⟩ = _ := v2 0 _ rfl
  have p1 : w9.cell? ⟨w1.heap.size + 1, 1, none⟩ = _ := v2 1 _ rfl
  have p2 : w9.cell? ⟨w1.heap.size + 1, 2, none⟩ = _ := v2 2 _ rfl
  have p3 : w9.cell? ⟨w1.heap.size + 1, 3, none⟩ = _ := v2 3 _ rfl
  have p4 : w9.cell? ⟨w1.heap.size + 1, 4, none⟩ = _ := v2 4 _ rfl
  have p5 : w9.cell? ⟨w1.heap.size + 1, 5, none⟩ = _ := v2 5 _ rfl
  have q0 : w9.cell? ⟨w1.heap.size + 1 + 1, 0, none⟩ = _ := v3 0 _ rfl
  have q1 : w9.cell? ⟨w1.heap.size + 1 + 1, 1, none⟩ = _ := v3 1 _ rfl
  have q2 : w9.cell? ⟨w1.heap.size + 1 + 1, 2, none⟩ = _ := v3 2 _ rfl
  have q3 : w9.cell? ⟨w1.heap.size + 1 + 1, 3, none⟩ = _ := v3 3 _ rfl
  have q4 : w9.cell? ⟨w1.heap.size + 1 + 1, 4, none⟩ = _ := v3 4 _ rfl
  have q5 : w9.cell? ⟨w1.heap.size + 1 + 1, 5, none⟩ = _ := v3 5 _ rfl
  have HB9 : Hid (Below w1.heap.size w1 w9) := HB7.out.trans (hb9.mono HB7.out.size)
  have HS9 : Hid (w1.heap.size + 1 + 1 + 1 + 1 + 1 + 1 + 1 ≤ w9.heap.size) := by
    show _ ≤ _
    rw [← HS7.out]
    exact hb9.size
  have hs9 := HS9.out
  have y1 : w1.heap.size + 1 < w9.heap.size := by omega
  have y2 : w1.heap.size + 1 + 1 < w9.heap.size := by omega
  have y3 : w1.heap.size + 1 + 1 + 1 + 1 + 1 + 1 < w9.heap.size := by omega
  obtain ⟨g8, hg8⟩ : ∃ g, w1.heap.size + 1 + 1 + 1 + 1 + 1 + 1 = g := ⟨_, rfl⟩
  obtain ⟨g6, hg6⟩ : ∃ g, w1.heap.size + 1 = g := ⟨_, rfl⟩
  obtain ⟨g7, hg7⟩ : ∃ g, g6 + 1 = g := ⟨_, rfl⟩
  have HG8 : Hid (w1.heap.size ≤ g8 ∧ g8 ≠ g6 ∧ g8 ≠ g7) := ⟨by omega, by omega, by omega⟩
  rw [hg8] at c0 c1 c2 c3 z3 y3 ⊢
  rw [hg6] at p0 p1 p2 p3 p4 p5 q0 q1 q2 q3 q4 q5 y1 y2 ⊢
  rw [hg7] at q0 q1 q2 q3 q4 q5 y2 ⊢
  clear hown hb9 t1 t2 t3 v2 v3 hs9 HT7 HV2 HV3 HN7 HZ7 H1 H2 H3 H4 H5 H6 H7 hg8 hg6 hg7 HB7
  go_upto_region 11 with fail
  obtain ⟨D1, hD1, bD, sD⟩ := al w9 (Obj.cells #[.int .i64 4, .string nm, .slice ao4 3 cap4] 64)
  rw [hD1]
  replace p0 := cell_later bD p0
  replace p1 := cell_later bD p1
  replace p2 := cell_later bD p2
  replace p3 := cell_later bD p3
  replace p4 := cell_later bD p4
  replace p5 := cell_later bD p5
  replace q0 := cell_later bD q0
  replace q1 := cell_later bD q1
  replace q2 := cell_later bD q2
  replace q3 := cell_later bD q3
  replace q4 := cell_later bD q4
  replace q5 := cell_later bD q5
  replace c0 := cell_later bD c0
  replace c1 := cell_later bD c1
  replace c2 := cell_later bD c2
  replace c3 := cell_later bD c3
  replace z3 := (bD.frozen (p := ⟨g8, 3, none⟩) y3).trans z3
  replace y1 : g6 < D1.heap.size := by omega
  replace y2 : g7 < D1.heap.size := by omega
  replace y3 : g8 < D1.heap.size := by omega
  have x6 : g6 < D1.heap.size + 1 := by omega
  have x7 : g7 < D1.heap.size + 1 := by omega
  have x7' : g7 < D1.heap.size + 1 + 1 := by omega
  have x8 : g8 < D1.heap.size + 1 := by omega
  have x8' : g8 < D1.heap.size + 1 + 1 := by omega
  have x8'' : g8 < D1.heap.size + 1 + 1 + 1 := by omega
  have hBD : Below w1.heap.size w1 D1 := HB9.out.trans (bD.mono HB9.out.size)
  obtain ⟨E0, hE0⟩ : ∃ E, D1.setCell ⟨g8, 3, none⟩ (.slice (some ⟨D1.heap.size + 1 + 1 + 1, 0, none⟩) 2 2) = E := ⟨_, rfl⟩
  have hBE0 : Below w1.heap.size w1 E0 := by
    rw [← hE0]
    exact hBD.setCell (p := ⟨g8, 3, none⟩) HG8.out.1 _
  have sE0 : E0.heap.size = D1.heap.size := by
    rw [← hE0]
    simp
  have d0 : E0.cell? ⟨g8, 0, none⟩ = some (.int .i64 2) := by
    rw [← hE0, World.cell?_setCell_other _ _ _ _ (by simp)]
    exact c0
  have d1 : E0.cell? ⟨g8, 1, none⟩ = some (.slice ao n cap) := by
    rw [← hE0, World.cell?_setCell_other _ _ _ _ (by simp)]
    exact c1
  have d2 : E0.cell? ⟨g8, 2, none⟩ = some (.slice ao2 n2 cap2) := by
    rw [← hE0, World.cell?_setCell_other _ _ _ _ (by simp)]
    exact c2
  have d3 : E0.cell? ⟨g8, 3, none⟩ = some (.slice (some ⟨D1.heap.size + 1 + 1 + 1, 0, none⟩) 2 2) := by
    rw [← hE0]
    exact World.cell?_setCell_same _ _ _ c3
  obtain ⟨E1, h1, b1, s1⟩ := al E0 (Obj.cells #[.int .i64 5, .int .i64 15, .int .i64 h, .int .i64 0, .int .i64 0, .int .i64 0] 71)
  rw [sE0] at s1
  obtain ⟨E2, h2, b2, s2⟩ := al E1 (Obj.cells #[.int .i64 1, .int .i64 0, .int .i64 0, .int .i64 2, .int .i64 0, .int .i64 0] 71)
  have r2 := sr_one E1 1 0 0 2 0 0 71
  rw [h2, s1] at r2
  rw [s1] at s2
  obtain ⟨E3, h3, b3, s3⟩ := al E2 (Obj.cells #[.int .i64 5, .int .i64 15, .int .i64 h, .int .i64 0, .int .i64 0, .int .i64 0, .int .i64 1, .int .i64 0, .int .i64 0, .int .i64 1, .int .i64 0, .int .i64 0] 71)
  have r3 := sr_two E2 5 15 h 0 0 0 1 0 0 1 0 0 71
  rw [h3, s2] at r3
  rw [s2] at s3
  obtain ⟨E4, h4, b4, s4⟩ := al E3 (Obj.cells #[.slice (some ⟨D1.heap.size + 1, 0, none⟩) 1 1, .slice (some ⟨D1.heap.size + 1 + 1, 0, none⟩) 2 2] 66)
  have r4 := ts_two 66 (r2.later b3) r3
  rw [h4, s3] at r4
  have HT4 : Hid (TS E4 (.slice (some ⟨D1.heap.size + 1 + 1 + 1, 0, none⟩) 2 2) [[ruG], [ruD h, ruK]]) := r4
  have HB4 : Hid (Below w1.heap.size w1 E4) := (((hBE0.trans (b1.mono hBE0.size)).trans (b2.mono (hBE0.trans (b1.mono hBE0.size)).size)).trans (b3.mono ((hBE0.trans (b1.mono hBE0.size)).trans (b2.mono (hBE0.trans (b1.mono hBE0.size)).size)).size)).trans (b4.mono (((hBE0.trans (b1.mono hBE0.size)).trans (b2.mono (hBE0.trans (b1.mono hBE0.size)).size)).trans (b3.mono ((hBE0.trans (b1.mono hBE0.size)).trans (b2.mono (hBE0.trans (b1.mono hBE0.size)).size)).size)).size)
  have HD0 : Hid (E4.cell? ⟨g8, 0, none⟩ = some (.int .i64 2)) := cell_later b4 (cell_later b3 (cell_later b2 (cell_later b1 d0)))
  have HD1 : Hid (E4.cell? ⟨g8, 1, none⟩ = some (.slice ao n cap)) := cell_later b4 (cell_later b3 (cell_later b2 (cell_later b1 d1)))
  have HD2 : Hid (E4.cell? ⟨g8, 2, none⟩ = some (.slice ao2 n2 cap2)) := cell_later b4 (cell_later b3 (cell_later b2 (cell_later b1 d2)))
  have HD3 : Hid (E4.cell? ⟨g8, 3, none⟩ = some (.slice (some ⟨D1.heap.size + 1 + 1 + 1, 0, none⟩) 2 2)) := cell_later b4 (cell_later b3 (cell_later b2 (cell_later b1 d3)))
  have H0 : Hid (D1.setCell ⟨g8, 3, none⟩ (.slice (some ⟨D1.heap.size + 1 + 1 + 1, 0, none⟩) 2 2) = E0) := hE0
  have H1 : Hid (E0.alloc (Obj.cells #[.int .i64 5, .int .i64 15, .int .i64 h, .int .i64 0, .int .i64 0, .int .i64 0] 71) = E1) := h1
  have H2 : Hid (E1.alloc (Obj.cells #[.int .i64 1, .int .i64 0, .int .i64 0, .int .i64 2, .int .i64 0, .int .i64 0] 71) = E2) := h2
  have H3 : Hid (E2.alloc (Obj.cells #[.int .i64 5, .int .i64 15, .int .i64 h, .int .i64 0, .int .i64 0, .int .i64 0, .int .i64 1, .int .i64 0, .int .i64 0, .int .i64 1, .int .i64 0, .int .i64 0] 71) = E3) := h3
  have H4 : Hid (E3.alloc (Obj.cells #[.slice (some ⟨D1.heap.size + 1, 0, none⟩) 1 1, .slice (some ⟨D1.heap.size + 1 + 1, 0, none⟩) 2 2] 66) = E4) := h4
  clear hD1 bD sD hBD hE0 hBE0 sE0 d0 d1 d2 d3 h1 h2 h3 h4 b1 b2 b3 b4 s1 s2 s3 s4 r2 r3 r4 HB9 HS9 HS7
  go_upto_region 13 with fail
  rw [H0.out, H1.out, H2.out, H3.out, H4.out]
  have e0 := HD0.out
  have e3 := HD1.out
  have e4 := HD2.out
  have e5 := HD3.out
  clear c0 c1 c2 c3 z3 p0 p1 p2 p3 p4 p5 q0 q1 q2 q3 q4 q5 H0 H1 H2 H3 H4
  go_wp2_with fail
  refine (send_any 2 ao n cap ao2 n2 cap2 _ 2 2 (lnTo 1) (lnH 2) [[ruG], [ruD h, ruK]] ⟨#[97]⟩ h _ (HLW.out _ HB4.out) (HHW.out _ HB4.out) HT4.out).mono ?_
  rintro e wE ⟨ao5, n5, cap5, rfl, hown, hbE⟩
  obtain ⟨t1, t2, t3⟩ := turn2 HH.out
  have hn5 : n5 = 2 := by
    have h1 := (own_GS (E := hopE) hown).len
    rw [← h1]
    exact t3
  subst hn5
  rw [show seN 2 (lnTo 1) (lnH 2) [[ruG], [ruD h, ruK]] ⟨#[97]⟩ h = 0 from t1, no_ok rfl, show (seV 2 (lnTo 1) (lnH 2) [[ruG], [ruD h, ruK]] ⟨#[97]⟩ h).1 = 2 from t2]
  generalize (seV 2 (lnTo 1) (lnH 2) [[ruG], [ruD h, ruK]] ⟨#[97]⟩ h).2.1 = nm2
  have hBE : Below w1.heap.size w1 wE := HB4.out.trans (hbE.mono HB4.out.size)
  have hBF : Below w.heap.size w wE := HB1.out.trans (hBE.mono HB1.out.size)
  have HBE : Hid (Below w.heap.size w (wE.alloc (Obj.cells #[.int .i64 2, .string nm2, .slice ao5 2 cap5] 64))) := hBF.alloc hBF.size _
  clear hown hbE t1 t2 t3 hBE hBF e0 e3 e4 e5
  go_wp2
  go_ret
  exact ⟨rfl, HBE.out⟩
theorem walk (h : Int) (w : World) (hg : HasErr w) :
    Calls Tryd.prog 6 #[.int .i64 h] w fun e w' => e = .returned (.bool true) ∧ Below w.heap.size w w' := by
  cases hh : hdrB h
  · exact out h hh w hg
  · exact inn h hh w
end Go.Proofs.YtelkfnphollkaacDoor.netTurns
