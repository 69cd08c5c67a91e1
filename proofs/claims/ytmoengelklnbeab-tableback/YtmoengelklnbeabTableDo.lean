/- What table.Do answers, called with any table, and any rule to be added or taken away. -/
import Derived.Test.YtmoengelklnbeabTableConcat
import Derived.Test.YtmoengelklnbeabTableIdx
import Derived.Test.YtmoengelklnbeabRuleTab2
import Derived.Deep.RegionHeld3
namespace Go.Proofs.Ytmoengelklnbeab
open Go.RowKit
set_option linter.unusedSimpArgs false
set_option linter.unusedVariables false

set_option maxHeartbeats 1000000 in
theorem with1_any (p m b o s v : Int) (r : Ru) (B : Nat) (w : World) (hc : C6 w B 0 r) :
    Calls Try.prog 25 #[.agg #[.int .i64 p, .int .i64 m, .int .i64 b, .int .i64 o, .int .i64 s, .int .i64 v], .pointer (some ⟨B, 0, none⟩)] w fun e w' => e = .returned (.bool (keyB ⟨p, m, b, o, s, v⟩ r)) ∧ Below w.heap.size w w' := by
  obtain ⟨p', m', b', o', s', v'⟩ := r
  obtain ⟨c0, c1, c2, c3, c4, c5⟩ := hc
  simp only [Nat.zero_add] at c0 c1 c2 c3 c4 c5
  have hlt : B < w.heap.size := World.block_lt_of_cell? _ _ c0
  go_enter Try.func25, Try.ntmps25
  go_wp2_with fail
  refine (clash_any _ _ _ _ _ _ _ _ _ _ _ _ _).mono ?_
  rintro e w1 ⟨rfl, hb1⟩
  go_wp2
  go_ret
  exact ⟨rfl, ((Below.refl _ _).alloc (Nat.le_refl _) _).trans (hb1.mono (by simp))⟩
theorem with1_asks (r : Ru) (B : Nat) (w : World) (hc : C6 w B 0 r) : Asks w 25 (.pointer (some ⟨B, 0, none⟩)) (fun a => keyB a r) :=
  fun p m b o s v W hW => with1_any p m b o s v r B W (hc.later hW)

theorem SR.nil (w : World) : SR w (.slice none 0 0) [] := .inl ⟨none, 0, rfl, rfl⟩
theorem sr_one (w : World) (p m b o s v : Int) (t : TypeId) : SR (w.alloc (.cells #[.int .i64 p, .int .i64 m, .int .i64 b, .int .i64 o, .int .i64 s, .int .i64 v] t)) (.slice (some ⟨w.heap.size, 0, none⟩) 1 1) [⟨p, m, b, o, s, v⟩] := by
  refine .inr ⟨w.heap.size, 0, 1, rfl, Nat.le_refl _, by unfold maxLen; omega, fun i hi => ?_⟩
  obtain rfl : i = 0 := by simp at hi; omega
  have h := C6.new w p m b o s v t
  simp only [Nat.zero_mul, Nat.add_zero, List.getElem_cons_zero]
  exact h
/-- Two slices of rules in a new row. -/
theorem pat2 {W : World} {a1 a2 : Option Addr} {n1 c1 n2 c2 : Nat} {L1 L2 : List Ru} (t : TypeId) (h1 : SR W (.slice a1 n1 c1) L1) (h2 : SR W (.slice a2 n2 c2) L2) :
    PAt (W.alloc (.cells #[.slice a1 n1 c1, .slice a2 n2 c2] t)) W.heap.size 0 [L1, L2] := by
  have hb : Below W.heap.size W (W.alloc (.cells #[.slice a1 n1 c1, .slice a2 n2 c2] t)) := (Below.refl _ _).alloc (Nat.le_refl _) _
  intro i hi
  match i, hi with
  | 0, _ => exact ⟨a1, n1, c1, by simp, h1.later hb⟩
  | 1, _ => exact ⟨a2, n2, c2, by simp, h2.later hb⟩
theorem RAt.drop {w : World} {g o : Nat} {L : List Ru} (h : RAt w g o L) (k : Nat) : RAt w g (o + k * 6) (L.drop k) := by
  intro i hi
  have hi2 : k + i < L.length := by simp at hi; omega
  have := h (k + i) hi2
  rw [List.getElem_drop]
  have e : o + (k + i) * 6 = o + k * 6 + i * 6 := by omega
  rw [← e]
  exact this
theorem ch_hit {L : List Ru} {r : Ru} (h : hitB L r = true) : chN L true r = 7 := by simp [chN, h]
theorem ch_full {L : List Ru} {r : Ru} (h : hitB L r = false) (h2 : 12 ≤ L.length) : chN L true r = 4 := by simp [chN, h, h2]
theorem ch_add {L : List Ru} {r : Ru} (h : hitB L r = false) (h2 : ¬ 12 ≤ L.length) : chN L true r = 0 := by simp [chN, h, h2]
theorem chL_ne {L : List Ru} {a : Bool} {r : Ru} (h : chN L a r ≠ 0) : chL L a r = [] := by simp [chL, h]
theorem chL_add {L : List Ru} {r : Ru} (h : chN L true r = 0) : chL L true r = L ++ [r] := by simp [chL, h]
theorem ch_none {L : List Ru} {r : Ru} (h : inB L r = false) : chN L false r = 5 := by simp [chN, h]
theorem ch_take {L : List Ru} {r : Ru} (h : inB L r = true) : chN L false r = 0 := by simp [chN, h]
theorem chL_take {L : List Ru} {r : Ru} (h : chN L false r = 0) : chL L false r = L.take (ixN L r) ++ L.drop (ixN L r + 1) := by simp [chL, h]

set_option maxHeartbeats 2000000 in
set_option maxRecDepth 100000 in
theorem with_any (ao : Option Addr) (n cap : Nat) (p m b o s v : Int) (L : List Ru) (w : World) (hs : SR w (.slice ao n cap) L) :
    Calls Try.prog 15 #[.slice ao n cap, .agg #[.int .i64 p, .int .i64 m, .int .i64 b, .int .i64 o, .int .i64 s, .int .i64 v]] w fun e w' => ∃ u, e = .returned (.tuple #[u, noV (chN L true ⟨p, m, b, o, s, v⟩)]) ∧ SR w' u (chL L true ⟨p, m, b, o, s, v⟩) ∧ Below w.heap.size w w' := by
  obtain ⟨ao', n', cap', e, hn, hn2, hn3, ha⟩ := hs.form
  cases e
  have HN : Hid (L.length = n) := hn
  have HC0 := C6.new w p m b o s v 25
  have hB0 : Below w.heap.size w (w.alloc (Obj.cells #[Value.int IntKind.i64 p, Value.int IntKind.i64 m, Value.int IntKind.i64 b, Value.int IntKind.i64 o, Value.int IntKind.i64 s, Value.int IntKind.i64 v] 25)) := (Below.refl _ _).alloc (Nat.le_refl _) _
  have HS0 : Hid (SR (w.alloc (Obj.cells #[Value.int IntKind.i64 p, Value.int IntKind.i64 m, Value.int IntKind.i64 b, Value.int IntKind.i64 o, Value.int IntKind.i64 s, Value.int IntKind.i64 v] 25)) (.slice ao n cap) L) := hs.later hB0
  have HA : Hid (0 < n → ∃ g o, ao = some ⟨g, o, none⟩ ∧ RAt w g o L ∧ cap ≤ maxLen) := ha
  have HB0 : Hid (Below w.heap.size w (w.alloc (Obj.cells #[Value.int IntKind.i64 p, Value.int IntKind.i64 m, Value.int IntKind.i64 b, Value.int IntKind.i64 o, Value.int IntKind.i64 s, Value.int IntKind.i64 v] 25))) := hB0
  have HM : Hid (n ≤ maxLen) := hn2
  have hn63 : n ≤ 9223372036854775807 := by unfold maxLen at hn2; omega
  clear hn ha hs hn2 hB0
  cases hh : hitB L ⟨p, m, b, o, s, v⟩
  · have HH : Hid (L.any (fun a => keyB a ⟨p, m, b, o, s, v⟩) = false) := hh
    by_cases h12 : 12 ≤ n
    · rw [ch_full hh (by rw [HN.out]; exact h12), chL_ne (by rw [ch_full hh (by rw [HN.out]; exact h12)]; decide)]
      clear hh
      go_enter Try.func15, Try.ntmps15
      go_wp2_with fail
      refine (containsF ao n cap _ _ _ L _ HN.out HM.out (fun h => by obtain ⟨g, o, e1, e2, e3⟩ := HA.out h; exact ⟨g, o, e1, e2.later HB0.out, e3⟩) (enters_of Try.func25 (by kernel_rfl) rfl) (with1_asks ⟨p, m, b, o, s, v⟩ _ _ HC0)).mono ?_
      rintro e w1 ⟨rfl, hb1⟩
      rw [HH.out]
      have HB1 : Hid (Below w.heap.size w w1) := HB0.out.trans (hb1.mono HB0.out.size)
      clear hb1
      go_wp2
      refine bodyPost_ret (v := .tuple #[.slice none 0 0, .iface 45 (.int .i64 4)]) (by simp [results, Try.results15, go_sem]) rfl ⟨_, rfl, SR.nil _, HB1.out⟩
    · rw [ch_add hh (by rw [HN.out]; exact h12), chL_add (ch_add hh (by rw [HN.out]; exact h12))]
      clear hh
      go_enter Try.func15, Try.ntmps15
      go_wp2_with fail
      refine (containsF ao n cap _ _ _ L _ HN.out HM.out (fun h => by obtain ⟨g, o, e1, e2, e3⟩ := HA.out h; exact ⟨g, o, e1, e2.later HB0.out, e3⟩) (enters_of Try.func25 (by kernel_rfl) rfl) (with1_asks ⟨p, m, b, o, s, v⟩ _ _ HC0)).mono ?_
      rintro e w1 ⟨rfl, hb1⟩
      rw [HH.out]
      have HB1 : Hid (Below w.heap.size w w1) := HB0.out.trans (hb1.mono HB0.out.size)
      have HS1 : Hid (SR w1 (.slice ao n cap) L) := HS0.out.later hb1
      obtain ⟨c0, c1, c2, c3, c4, c5⟩ := HC0.later hb1
      simp only [Nat.zero_add] at c0 c1 c2 c3 c4 c5
      have hlt : w.heap.size < w1.heap.size := World.block_lt_of_cell? _ _ c0
      clear hb1
      go_wp2_with fail
      have hB2 : Below w1.heap.size w1 (w1.alloc (Obj.cells #[Value.int IntKind.i64 p, Value.int IntKind.i64 m, Value.int IntKind.i64 b, Value.int IntKind.i64 o, Value.int IntKind.i64 s, Value.int IntKind.i64 v] 25)) := (Below.refl _ _).alloc (Nat.le_refl _) _
      have hp := pat2 32 (HS1.out.later hB2) (sr_one w1 p m b o s v 25)
      have hB3 := hB2.trans (((Below.refl _ _).alloc (Nat.le_refl _) (.cells #[.slice ao n cap, .slice (some ⟨w1.heap.size, 0, none⟩) 1 1] 32)).mono hB2.size)
      simp only [World.size_alloc] at hp
      refine (concat_any _ 0 2 2 [L, [⟨p, m, b, o, s, v⟩]] _ rfl (by omega) hp (by simp [HN.out]; omega)).mono ?_
      rintro e w2 ⟨u, rfl, hown, hb2⟩
      have HB2 : Hid (Below w.heap.size w w2) := HB1.out.trans ((hB3.trans (hb2.mono hB3.size)).mono HB1.out.size)
      have HO : Hid (SR w2 u (L ++ [⟨p, m, b, o, s, v⟩])) := by
        have := own_SR hown
        show SR w2 u (L ++ [⟨p, m, b, o, s, v⟩])
        simpa using this
      clear hb2 hown hp hB2 hB3
      go_wp2
      refine bodyPost_ret (v := .tuple #[u, .nilIface]) (by simp [results, Try.results15, go_sem]) rfl ⟨_, rfl, HO.out, HB2.out⟩
  · have HH : Hid (L.any (fun a => keyB a ⟨p, m, b, o, s, v⟩) = true) := hh
    rw [ch_hit hh, chL_ne (by rw [ch_hit hh]; decide)]
    clear hh
    go_enter Try.func15, Try.ntmps15
    go_wp2_with fail
    refine (containsF ao n cap _ _ _ L _ HN.out HM.out (fun h => by obtain ⟨g, o, e1, e2, e3⟩ := HA.out h; exact ⟨g, o, e1, e2.later HB0.out, e3⟩) (enters_of Try.func25 (by kernel_rfl) rfl) (with1_asks ⟨p, m, b, o, s, v⟩ _ _ HC0)).mono ?_
    rintro e w1 ⟨rfl, hb1⟩
    rw [HH.out]
    have HB1 : Hid (Below w.heap.size w w1) := HB0.out.trans (hb1.mono HB0.out.size)
    clear hb1
    go_wp2
    refine bodyPost_ret (v := .tuple #[.slice none 0 0, .iface 45 (.int .i64 7)]) (by simp [results, Try.results15, go_sem]) rfl ⟨_, rfl, SR.nil _, HB1.out⟩

theorem keepQ {w1 W W' : World} (hb : Below W.heap.size W W') (h : Below w1.heap.size w1 W) : Below w1.heap.size w1 W' := h.trans (hb.mono h.size)
theorem ix_no {L : List Ru} {r : Ru} (h : inB L r = false) : ixP (fun a => eqR r a) L = -1 := ixP_no h
theorem ix_yes {L : List Ru} {r : Ru} (h : inB L r = true) : ixP (fun a => eqR r a) L = (ixN L r : Int) := by
  unfold ixP
  rw [if_pos (show L.any (fun a => eqR r a) = true from h)]
  rfl
theorem ix_lt {L : List Ru} {r : Ru} (h : inB L r = true) : ixN L r < L.length := by
  unfold ixN
  rw [List.findIdx_lt_length]
  simpa [inB] using h

set_option maxHeartbeats 2000000 in
set_option maxRecDepth 100000 in
theorem without_any (ao : Option Addr) (n cap : Nat) (p m b o s v : Int) (L : List Ru) (w : World) (hs : SR w (.slice ao n cap) L) (h1000 : n ≤ 1000) :
    Calls Try.prog 16 #[.slice ao n cap, .agg #[.int .i64 p, .int .i64 m, .int .i64 b, .int .i64 o, .int .i64 s, .int .i64 v]] w fun e w' => ∃ u, e = .returned (.tuple #[u, noV (chN L false ⟨p, m, b, o, s, v⟩)]) ∧ SR w' u (chL L false ⟨p, m, b, o, s, v⟩) ∧ Below w.heap.size w w' := by
  obtain ⟨ao', n', cap', e, hn, hn2, hn3, ha⟩ := hs.form
  cases e
  have HN : Hid (L.length = n) := hn
  have hB0 : Below w.heap.size w (w.alloc (Obj.cells #[Value.int IntKind.i64 p, Value.int IntKind.i64 m, Value.int IntKind.i64 b, Value.int IntKind.i64 o, Value.int IntKind.i64 s, Value.int IntKind.i64 v] 25)) := (Below.refl _ _).alloc (Nat.le_refl _) _
  have HA : Hid (0 < n → ∃ g o, ao = some ⟨g, o, none⟩ ∧ RAt w g o L ∧ cap ≤ maxLen) := ha
  have HB0 : Hid (Below w.heap.size w (w.alloc (Obj.cells #[Value.int IntKind.i64 p, Value.int IntKind.i64 m, Value.int IntKind.i64 b, Value.int IntKind.i64 o, Value.int IntKind.i64 s, Value.int IntKind.i64 v] 25))) := hB0
  have HM : Hid (n ≤ maxLen) := hn2
  clear hn ha hs hn2 hB0
  cases hh : inB L ⟨p, m, b, o, s, v⟩
  · rw [ch_none hh, chL_ne (by rw [ch_none hh]; decide)]
    have HH : Hid (ixP (fun a => eqR ⟨p, m, b, o, s, v⟩ a) L = -1) := ix_no hh
    clear hh
    go_enter Try.func16, Try.ntmps16
    go_wp2_with fail
    refine (index_any ao n cap p m b o s v L _ HN.out HM.out (fun h => by obtain ⟨g, o, e1, e2, e3⟩ := HA.out h; exact ⟨g, o, e1, e2.later HB0.out, e3⟩)).mono ?_
    rintro e w1 ⟨rfl, hb1⟩
    rw [HH.out]
    have HB1 : Hid (Below w.heap.size w w1) := HB0.out.trans (hb1.mono HB0.out.size)
    clear hb1
    go_wp2
    refine bodyPost_ret (v := .tuple #[.slice none 0 0, .iface 45 (.int .i64 5)]) (by simp [results, Try.results16, go_sem]) rfl ⟨_, rfl, SR.nil _, HB1.out⟩
  · rw [ch_take hh, chL_take (ch_take hh)]
    have HH : Hid (ixP (fun a => eqR ⟨p, m, b, o, s, v⟩ a) L = (ixN L ⟨p, m, b, o, s, v⟩ : Int)) := ix_yes hh
    have hi : ixN L ⟨p, m, b, o, s, v⟩ < n := by
      have := ix_lt hh
      rw [HN.out] at this
      exact this
    obtain ⟨g, og, hao, hRA, hcm⟩ := HA.out (by omega)
    subst hao
    generalize ixN L ⟨p, m, b, o, s, v⟩ = i at *
    have HRA : Hid (RAt w g og L) := hRA
    have HCM : Hid (cap ≤ maxLen) := hcm
    have hc63 : (cap : Int) ≤ 9223372036854775807 := by unfold maxLen at hcm; omega
    clear hh hRA hcm HA
    go_enter Try.func16, Try.ntmps16
    go_wp2_with fail
    refine (index_any _ n cap p m b o s v L _ HN.out HM.out (fun h => ⟨g, og, rfl, HRA.out.later HB0.out, HCM.out⟩)).mono ?_
    rintro e w1 ⟨rfl, hb1⟩
    rw [HH.out]
    have HB1 : Hid (Below w.heap.size w w1) := HB0.out.trans (hb1.mono HB0.out.size)
    have HR1 : Hid (RAt w1 g og L) := (HRA.out.later HB0.out).later hb1
    clear hb1
    have i0 : ¬ ((i : Int) < 0) := by omega
    have i01 : (0 : Int) ≤ (i : Int) := by omega
    have i1 : (i : Int) ≤ (cap : Int) := by omega
    have i2 : ((i + 1 : Nat) : Int) ≤ (n : Int) := by omega
    have i21 : (0 : Int) ≤ ((i + 1 : Nat) : Int) := by omega
    have i3 : IntKind.i64.wrap ((i : Int) + 1) = ((i + 1 : Nat) : Int) := by rw [IntKind.wrap_i64]; omega
    have HT1 : Hid (SR w1 (.slice (some ⟨g, og, none⟩) i cap) (L.take i)) := by
      have e1 : (L.take i).length = i := by rw [List.length_take, HN.out]; omega
      exact .inr ⟨g, og, cap, by rw [e1], by rw [e1]; omega, HCM.out, HR1.out.take i⟩
    have HLEN : Hid ([L.take i, L.drop (i + 1)].flatten.length ≤ 1000) := by
      show _ ≤ 1000
      simp only [List.flatten_cons, List.flatten_nil, List.append_nil, List.length_append, List.length_take, List.length_drop, HN.out]
      omega
    by_cases hcj : cap = i + 1
    · have HT2 : Hid (SR w1 (.slice (some ⟨g, og, none⟩) 0 0) (L.drop (i + 1))) := .inl ⟨_, _, rfl, List.drop_eq_nil_of_le (by rw [HN.out]; omega)⟩
      generalize hj : i + 1 = j at i2 i21 i3 hcj
      subst hcj
      go_wp2
      go_region_held3 (fun w' => Below w1.heap.size w1 w') (first | assumption | exact Below.drew (Below.refl _ _) | exact keepQ (by assumption) (by assumption) | exact keepQ (Below.drew (Below.refl _ _)) (by assumption) | exact keepQ (Below.alloc (Below.refl _ _) (Nat.le_refl _) _) (by assumption))
        (first | (go_at_call 19; refine (concat_any _ 0 2 2 [L.take i, L.drop (i + 1)] _ rfl (by omega) ((pat2 _ HT1.out HT2.out).later (Below.drew (Below.refl _ _))) HLEN.out).mono ?_; rintro e w' ⟨u, rfl, hown, hb⟩))
      have HO : Hid (SR w' u (L.take i ++ L.drop (i + 1))) := by
        have := own_SR hown
        show SR w' u (L.take i ++ L.drop (i + 1))
        simpa using this
      have HB2 : Hid (Below w.heap.size w w') := HB1.out.trans ((‹Below w1.heap.size w1 w'›).mono HB1.out.size)
      clear hown
      go_wp2
      refine bodyPost_ret (v := .tuple #[u, .nilIface]) (by simp [results, Try.results16, go_sem]) rfl ⟨_, rfl, HO.out, HB2.out⟩
      
    · have HT2 : Hid (SR w1 (.slice (some ⟨g, og + (i + 1) * 6, none⟩) (n - (i + 1)) (cap - (i + 1))) (L.drop (i + 1))) := by
        have e1 : (L.drop (i + 1)).length = n - (i + 1) := by rw [List.length_drop, HN.out]
        exact .inr ⟨g, og + (i + 1) * 6, cap - (i + 1), by rw [e1], by rw [e1]; omega, Nat.le_trans (Nat.sub_le _ _) HCM.out, HR1.out.drop (i + 1)⟩
      generalize hj : i + 1 = j at i2 i21 i3 hcj HT2 HLEN
      go_wp2
      go_region_held3 (fun w' => Below w1.heap.size w1 w') (first | assumption | exact Below.drew (Below.refl _ _) | exact keepQ (by assumption) (by assumption) | exact keepQ (Below.drew (Below.refl _ _)) (by assumption) | exact keepQ (Below.alloc (Below.refl _ _) (Nat.le_refl _) _) (by assumption))
        (first | (go_at_call 19; refine (concat_any _ 0 2 2 [L.take i, L.drop j] _ rfl (by omega) ((pat2 _ HT1.out HT2.out).later (Below.drew (Below.refl _ _))) HLEN.out).mono ?_; rintro e w' ⟨u, rfl, hown, hb⟩))
      have HO : Hid (SR w' u (L.take i ++ L.drop (i + 1))) := by
        have := own_SR hown
        rw [← hj] at this
        show SR w' u (L.take i ++ L.drop (i + 1))
        simpa using this
      have HB2 : Hid (Below w.heap.size w w') := HB1.out.trans ((‹Below w1.heap.size w1 w'›).mono HB1.out.size)
      clear hown
      go_wp2
      refine bodyPost_ret (v := .tuple #[u, .nilIface]) (by simp [results, Try.results16, go_sem]) rfl ⟨_, rfl, HO.out, HB2.out⟩
      
end Go.Proofs.Ytmoengelklnbeab
