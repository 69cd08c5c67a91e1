/- Contracts and facts on the way to MixTells, joined into one text: TableDo, TableDo2, TableBey, MixLegs, CcLink, StCube, StRule, StOp. -/
import Derived.Test.YtglnnoglbieaeaaGreatDoorMixTellsP5
import Derived.Test.YtglnnoglbieaeaaGreatDoorMixTellsP4
import Derived.Test.YtglnnoglbieaeaaGreatDoorMixTellsP3
import Derived.Test.YtglnnoglbieaeaaGreatDoorMixTellsP1
import Derived.Test.YtglnnoglbieaeaaGreatDoorMixTellsP2
import Derived.Deep.RegionHeld3
import Derived.Deep.CutRange
import Derived.Deep.CutBlock
import Derived.Test.YtglnnoglbieaeaaGreatDoorRows
import Derived.Lib.SmallJoins
import Derived.Laws.StructEq
import Derived.Maps.OwnOps
/- What table.Do answers, called with any table, and any rule to be added or taken away. -/
namespace Go.Proofs.YtglnnoglbieaeaaGreatDoor
open Go.RowKit
set_option linter.unusedSimpArgs false
set_option linter.unusedVariables false

set_option maxHeartbeats 1000000 in
theorem with1_any (p m b o s v : Int) (r : Ru) (B : Nat) (w : World) (hc : C6 w B 0 r) :
    Calls Tryz.prog 151 #[.agg #[.int .i64 p, .int .i64 m, .int .i64 b, .int .i64 o, .int .i64 s, .int .i64 v], .pointer (some ⟨B, 0, none⟩)] w fun e w' => e = .returned (.bool (keyB ⟨p, m, b, o, s, v⟩ r)) ∧ Below w.heap.size w w' := by
  obtain ⟨p', m', b', o', s', v'⟩ := r
  obtain ⟨c0, c1, c2, c3, c4, c5⟩ := hc
  simp only [Nat.zero_add] at c0 c1 c2 c3 c4 c5
  have hlt : B < w.heap.size := World.block_lt_of_cell? _ _ c0
  go_enter Tryz.func151, Tryz.ntmps151
  go_wp2_with fail
  refine (clash_any _ _ _ _ _ _ _ _ _ _ _ _ _).mono ?_
  rintro e w1 ⟨rfl, hb1⟩
  go_wp2
  go_ret
  exact ⟨rfl, ((Below.refl _ _).alloc (Nat.le_refl _) _).trans (hb1.mono (by simp))⟩
theorem with1_asks (r : Ru) (B : Nat) (w : World) (hc : C6 w B 0 r) : Asks w 151 (.pointer (some ⟨B, 0, none⟩)) (fun a => keyB a r) :=
  fun p m b o s v W hW => with1_any p m b o s v r B W (hc.later hW)

theorem SR.nil (w : World) : SR w (.slice none 0 0) [] := .inl ⟨none, 0, rfl, rfl⟩
/-- A row of these rules that lies in a new block. -/
def NR (w : World) (B : Nat) (v : Value) (L : List Ru) : Prop := w.ownsRow B 66 6 v L.length (cellsR L)
theorem NR.sr {w : World} {B : Nat} {v : Value} {L : List Ru} (h : NR w B v L) : SR w v L := own_SR h
theorem NR.nil (w : World) (B : Nat) : NR w B (.slice none 0 0) [] := World.ownsRow_nil w B _ 6
theorem NR.mono {w : World} {B B' : Nat} {v : Value} {L : List Ru} (h : NR w B v L) (hB : B' ≤ B) : NR w B' v L := by
  obtain ⟨h1, h2 | ⟨g, cap, cur, hv, hb, h3⟩⟩ := h
  · exact ⟨h1, .inl h2⟩
  · exact ⟨h1, .inr ⟨g, cap, cur, hv, Nat.le_trans hB hb, h3⟩⟩
theorem NR.later {w w' : World} {B : Nat} {v : Value} {L : List Ru} (h : NR w B v L) (hb : Below w.heap.size w w') : NR w' B v L := h.kept ⟨hb.os, hb.tape, hb.output, hb.size, fun k hk _ => hb.block k hk⟩ (Classical.em _)
theorem NR.of {w : World} {B : Nat} {v : Value} {L M : List Ru} (h : w.ownsRow B 66 6 v L.length (cellsR L)) (e : L = M) : NR w B v M := by subst e; exact h
theorem sr_one (w : World) (p m b o s v : Int) (t : TypeId) : SR (w.alloc (.cells #[.int .i64 p, .int .i64 m, .int .i64 b, .int .i64 o, .int .i64 s, .int .i64 v] t)) (.slice (some ⟨w.heap.size, 0, none⟩) 1 1) [⟨p, m, b, o, s, v⟩] := by
  refine .inr ⟨w.heap.size, 0, 1, rfl, Nat.le_refl _, by unfold maxLen; omega, fun i hi => ?_⟩
  obtain rfl : i = 0 := by simp at hi; omega
  have h := C6.new w p m b o s v t
  simp only [Nat.zero_mul, Nat.add_zero, List.getElem_cons_zero]
  exact h
/-- Two slices of rules in a new row. -/
theorem pat2 {W : World} {a1 a2 : Option Addr} {n1 c1 n2 c2 : Nat} {L1 L2 : List Ru} (t : TypeId) (h1 : SR W (.slice a1 n1 c1) L1) (h2 : SR W (.slice a2 n2 c2) L2) :
    PAt (W.alloc (.cells #[.slice a1 n1 c1, .slice a2 n2 c2] t)) W.heap.size 0 [L1, L2] := by
  have hb : Below W.heap.size W (W.alloc (.cells #[.slice a1 n1 c1, .slice a2 n2 c2] t)) := (Below.refl _ _).alloc (Nat.le_refl _) _
  intro i hi
  match i, hi with
  | 0, _ => exact ⟨a1, n1, c1, by simp, h1.later hb⟩
  | 1, _ => exact ⟨a2, n2, c2, by simp, h2.later hb⟩
theorem RAt.drop {w : World} {g o : Nat} {L : List Ru} (h : RAt w g o L) (k : Nat) : RAt w g (o + k * 6) (L.drop k) := by
  intro i hi
  have hi2 : k + i < L.length := by simp at hi; omega
  have := h (k + i) hi2
  rw [List.getElem_drop]
  have e : o + (k + i) * 6 = o + k * 6 + i * 6 := by omega
  rw [← e]
  exact this
theorem ch_hit {L : List Ru} {r : Ru} (h : hitB L r = true) : chN L true r = 7 := by simp [chN, h]
theorem ch_full {L : List Ru} {r : Ru} (h : hitB L r = false) (h2 : 12 ≤ L.length) : chN L true r = 4 := by simp [chN, h, h2]
theorem ch_add {L : List Ru} {r : Ru} (h : hitB L r = false) (h2 : ¬ 12 ≤ L.length) : chN L true r = 0 := by simp [chN, h, h2]
theorem chL_ne {L : List Ru} {a : Bool} {r : Ru} (h : chN L a r ≠ 0) : chL L a r = [] := by simp [chL, h]
theorem chL_add {L : List Ru} {r : Ru} (h : chN L true r = 0) : chL L true r = L ++ [r] := by simp [chL, h]
theorem ch_none {L : List Ru} {r : Ru} (h : inB L r = false) : chN L false r = 5 := by simp [chN, h]
theorem ch_take {L : List Ru} {r : Ru} (h : inB L r = true) : chN L false r = 0 := by simp [chN, h]
theorem chL_take {L : List Ru} {r : Ru} (h : chN L false r = 0) : chL L false r = L.take (ixN L r) ++ L.drop (ixN L r + 1) := by simp [chL, h]

set_option maxHeartbeats 2000000 in
set_option maxRecDepth 100000 in
theorem with_any (ao : Option Addr) (n cap : Nat) (p m b o s v : Int) (L : List Ru) (w : World) (hs : SR w (.slice ao n cap) L) :
    Calls Tryz.prog 123 #[.slice ao n cap, .agg #[.int .i64 p, .int .i64 m, .int .i64 b, .int .i64 o, .int .i64 s, .int .i64 v]] w fun e w' => ∃ u, e = .returned (.tuple #[u, noV (chN L true ⟨p, m, b, o, s, v⟩)]) ∧ NR w' w.heap.size u (chL L true ⟨p, m, b, o, s, v⟩) ∧ Below w.heap.size w w' := by
  obtain ⟨ao', n', cap', e, hn, hn2, hn3, ha⟩ := hs.form
  cases e
  have HN : Hid (L.length = n) := hn
  have HC0 := C6.new w p m b o s v 66
  have hB0 : Below w.heap.size w (w.alloc (Obj.cells #[Value.int IntKind.i64 p, Value.int IntKind.i64 m, Value.int IntKind.i64 b, Value.int IntKind.i64 o, Value.int IntKind.i64 s, Value.int IntKind.i64 v] 66)) := (Below.refl _ _).alloc (Nat.le_refl _) _
  have HS0 : Hid (SR (w.alloc (Obj.cells #[Value.int IntKind.i64 p, Value.int IntKind.i64 m, Value.int IntKind.i64 b, Value.int IntKind.i64 o, Value.int IntKind.i64 s, Value.int IntKind.i64 v] 66)) (.slice ao n cap) L) := hs.later hB0
  have HA : Hid (0 < n → ∃ g o, ao = some ⟨g, o, none⟩ ∧ RAt w g o L ∧ cap ≤ maxLen) := ha
  have HB0 : Hid (Below w.heap.size w (w.alloc (Obj.cells #[Value.int IntKind.i64 p, Value.int IntKind.i64 m, Value.int IntKind.i64 b, Value.int IntKind.i64 o, Value.int IntKind.i64 s, Value.int IntKind.i64 v] 66))) := hB0
  have HM : Hid (n ≤ maxLen) := hn2
  have hn63 : n ≤ 9223372036854775807 := by unfold maxLen at hn2; omega
  clear hn ha hs hn2 hB0
  cases hh : hitB L ⟨p, m, b, o, s, v⟩
  · have HH : Hid (L.any (fun a => keyB a ⟨p, m, b, o, s, v⟩) = false) := hh
    by_cases h12 : 12 ≤ n
    · rw [ch_full hh (by rw [HN.out]; exact h12), chL_ne (by rw [ch_full hh (by rw [HN.out]; exact h12)]; decide)]
      clear hh
      go_enter Tryz.func123, Tryz.ntmps123
      go_wp2_with fail
      refine (containsF ao n cap _ _ _ L _ HN.out HM.out (fun h => by obtain ⟨g, o, e1, e2, e3⟩ := HA.out h; exact ⟨g, o, e1, e2.later HB0.out, e3⟩) (enters_of Tryz.func151 (by kernel_rfl) rfl) (with1_asks ⟨p, m, b, o, s, v⟩ _ _ HC0)).mono ?_
      rintro e w1 ⟨rfl, hb1⟩
      rw [HH.out]
      have HB1 : Hid (Below w.heap.size w w1) := HB0.out.trans (hb1.mono HB0.out.size)
      clear hb1
      go_wp2
      refine bodyPost_ret (v := .tuple #[.slice none 0 0, .iface 85 (.int .i64 4)]) (by simp [results, Tryz.results123, go_sem]) rfl ⟨_, rfl, NR.nil _ _, HB1.out⟩
    · rw [ch_add hh (by rw [HN.out]; exact h12), chL_add (ch_add hh (by rw [HN.out]; exact h12))]
      clear hh
      go_enter Tryz.func123, Tryz.ntmps123
      go_wp2_with fail
      refine (containsF ao n cap _ _ _ L _ HN.out HM.out (fun h => by obtain ⟨g, o, e1, e2, e3⟩ := HA.out h; exact ⟨g, o, e1, e2.later HB0.out, e3⟩) (enters_of Tryz.func151 (by kernel_rfl) rfl) (with1_asks ⟨p, m, b, o, s, v⟩ _ _ HC0)).mono ?_
      rintro e w1 ⟨rfl, hb1⟩
      rw [HH.out]
      have HB1 : Hid (Below w.heap.size w w1) := HB0.out.trans (hb1.mono HB0.out.size)
      have HS1 : Hid (SR w1 (.slice ao n cap) L) := HS0.out.later hb1
      obtain ⟨c0, c1, c2, c3, c4, c5⟩ := HC0.later hb1
      simp only [Nat.zero_add] at c0 c1 c2 c3 c4 c5
      have hlt : w.heap.size < w1.heap.size := World.block_lt_of_cell? _ _ c0
      clear hb1
      go_wp2_with fail
      have hB2 : Below w1.heap.size w1 (w1.alloc (Obj.cells #[Value.int IntKind.i64 p, Value.int IntKind.i64 m, Value.int IntKind.i64 b, Value.int IntKind.i64 o, Value.int IntKind.i64 s, Value.int IntKind.i64 v] 66)) := (Below.refl _ _).alloc (Nat.le_refl _) _
      have hp := pat2 62 (HS1.out.later hB2) (sr_one w1 p m b o s v 66)
      have hB3 := hB2.trans (((Below.refl _ _).alloc (Nat.le_refl _) (.cells #[.slice ao n cap, .slice (some ⟨w1.heap.size, 0, none⟩) 1 1] 62)).mono hB2.size)
      simp only [World.size_alloc] at hp
      refine (concat_any _ 0 2 2 [L, [⟨p, m, b, o, s, v⟩]] _ rfl (by omega) hp (by simp [HN.out]; omega)).mono ?_
      rintro e w2 ⟨u, rfl, hown, hb2⟩
      have HB2 : Hid (Below w.heap.size w w2) := HB1.out.trans ((hB3.trans (hb2.mono hB3.size)).mono HB1.out.size)
      have HO : Hid (NR w2 w.heap.size u (L ++ [⟨p, m, b, o, s, v⟩])) := (NR.of hown (by simp)).mono (by have := HB1.out.size; simp; omega)
      clear hb2 hown hp hB2 hB3
      go_wp2
      refine bodyPost_ret (v := .tuple #[u, .nilIface]) (by simp [results, Tryz.results123, go_sem]) rfl ⟨_, rfl, HO.out, HB2.out⟩
  · have HH : Hid (L.any (fun a => keyB a ⟨p, m, b, o, s, v⟩) = true) := hh
    rw [ch_hit hh, chL_ne (by rw [ch_hit hh]; decide)]
    clear hh
    go_enter Tryz.func123, Tryz.ntmps123
    go_wp2_with fail
    refine (containsF ao n cap _ _ _ L _ HN.out HM.out (fun h => by obtain ⟨g, o, e1, e2, e3⟩ := HA.out h; exact ⟨g, o, e1, e2.later HB0.out, e3⟩) (enters_of Tryz.func151 (by kernel_rfl) rfl) (with1_asks ⟨p, m, b, o, s, v⟩ _ _ HC0)).mono ?_
    rintro e w1 ⟨rfl, hb1⟩
    rw [HH.out]
    have HB1 : Hid (Below w.heap.size w w1) := HB0.out.trans (hb1.mono HB0.out.size)
    clear hb1
    go_wp2
    refine bodyPost_ret (v := .tuple #[.slice none 0 0, .iface 85 (.int .i64 7)]) (by simp [results, Tryz.results123, go_sem]) rfl ⟨_, rfl, NR.nil _ _, HB1.out⟩

theorem keepQ {w1 W W' : World} (hb : Below W.heap.size W W') (h : Below w1.heap.size w1 W) : Below w1.heap.size w1 W' := h.trans (hb.mono h.size)
theorem ix_no {L : List Ru} {r : Ru} (h : inB L r = false) : ixP (fun a => eqR r a) L = -1 := ixP_no h
theorem ix_yes {L : List Ru} {r : Ru} (h : inB L r = true) : ixP (fun a => eqR r a) L = (ixN L r : Int) := by
  unfold ixP
  rw [if_pos (show L.any (fun a => eqR r a) = true from h)]
  rfl
theorem ix_lt {L : List Ru} {r : Ru} (h : inB L r = true) : ixN L r < L.length := by
  unfold ixN
  rw [List.findIdx_lt_length]
  simpa [inB] using h

set_option maxHeartbeats 2000000 in
set_option maxRecDepth 100000 in
theorem without_any (ao : Option Addr) (n cap : Nat) (p m b o s v : Int) (L : List Ru) (w : World) (hs : SR w (.slice ao n cap) L) (h1000 : n ≤ 1000) :
    Calls Tryz.prog 124 #[.slice ao n cap, .agg #[.int .i64 p, .int .i64 m, .int .i64 b, .int .i64 o, .int .i64 s, .int .i64 v]] w fun e w' => ∃ u, e = .returned (.tuple #[u, noV (chN L false ⟨p, m, b, o, s, v⟩)]) ∧ NR w' w.heap.size u (chL L false ⟨p, m, b, o, s, v⟩) ∧ Below w.heap.size w w' := by
  obtain ⟨ao', n', cap', e, hn, hn2, hn3, ha⟩ := hs.form
  cases e
  have HN : Hid (L.length = n) := hn
  have hB0 : Below w.heap.size w (w.alloc (Obj.cells #[Value.int IntKind.i64 p, Value.int IntKind.i64 m, Value.int IntKind.i64 b, Value.int IntKind.i64 o, Value.int IntKind.i64 s, Value.int IntKind.i64 v] 66)) := (Below.refl _ _).alloc (Nat.le_refl _) _
  have HA : Hid (0 < n → ∃ g o, ao = some ⟨g, o, none⟩ ∧ RAt w g o L ∧ cap ≤ maxLen) := ha
  have HB0 : Hid (Below w.heap.size w (w.alloc (Obj.cells #[Value.int IntKind.i64 p, Value.int IntKind.i64 m, Value.int IntKind.i64 b, Value.int IntKind.i64 o, Value.int IntKind.i64 s, Value.int IntKind.i64 v] 66))) := hB0
  have HM : Hid (n ≤ maxLen) := hn2
  clear hn ha hs hn2 hB0
  cases hh : inB L ⟨p, m, b, o, s, v⟩
  · rw [ch_none hh, chL_ne (by rw [ch_none hh]; decide)]
    have HH : Hid (ixP (fun a => eqR ⟨p, m, b, o, s, v⟩ a) L = -1) := ix_no hh
    clear hh
    go_enter Tryz.func124, Tryz.ntmps124
    go_wp2_with fail
    refine (index_any ao n cap p m b o s v L _ HN.out HM.out (fun h => by obtain ⟨g, o, e1, e2, e3⟩ := HA.out h; exact ⟨g, o, e1, e2.later HB0.out, e3⟩)).mono ?_
    rintro e w1 ⟨rfl, hb1⟩
    rw [HH.out]
    have HB1 : Hid (Below w.heap.size w w1) := HB0.out.trans (hb1.mono HB0.out.size)
    clear hb1
    go_wp2
    refine bodyPost_ret (v := .tuple #[.slice none 0 0, .iface 85 (.int .i64 5)]) (by simp [results, Tryz.results124, go_sem]) rfl ⟨_, rfl, NR.nil _ _, HB1.out⟩
  · rw [ch_take hh, chL_take (ch_take hh)]
    have HH : Hid (ixP (fun a => eqR ⟨p, m, b, o, s, v⟩ a) L = (ixN L ⟨p, m, b, o, s, v⟩ : Int)) := ix_yes hh
    have hi : ixN L ⟨p, m, b, o, s, v⟩ < n := by
      have := ix_lt hh
      rw [HN.out] at this
      exact this
    obtain ⟨g, og, hao, hRA, hcm⟩ := HA.out (by omega)
    subst hao
    generalize ixN L ⟨p, m, b, o, s, v⟩ = i at *
    have HRA : Hid (RAt w g og L) := hRA
    have HCM : Hid (cap ≤ maxLen) := hcm
    have hc63 : (cap : Int) ≤ 9223372036854775807 := by unfold maxLen at hcm; omega
    clear hh hRA hcm HA
    go_enter Tryz.func124, Tryz.ntmps124
    go_wp2_with fail
    refine (index_any _ n cap p m b o s v L _ HN.out HM.out (fun h => ⟨g, og, rfl, HRA.out.later HB0.out, HCM.out⟩)).mono ?_
    rintro e w1 ⟨rfl, hb1⟩
    rw [HH.out]
    have HB1 : Hid (Below w.heap.size w w1) := HB0.out.trans (hb1.mono HB0.out.size)
    have HR1 : Hid (RAt w1 g og L) := (HRA.out.later HB0.out).later hb1
    clear hb1
    have i0 : ¬ ((i : Int) < 0) := by omega
    have i01 : (0 : Int) ≤ (i : Int) := by omega
    have i1 : (i : Int) ≤ (cap : Int) := by omega
    have i2 : ((i + 1 : Nat) : Int) ≤ (n : Int) := by omega
    have i21 : (0 : Int) ≤ ((i + 1 : Nat) : Int) := by omega
    have i3 : IntKind.i64.wrap ((i : Int) + 1) = ((i + 1 : Nat) : Int) := by rw [IntKind.wrap_i64]; omega
    have HT1 : Hid (SR w1 (.slice (some ⟨g, og, none⟩) i cap) (L.take i)) := by
      have e1 : (L.take i).length = i := by rw [List.length_take, HN.out]; omega
      exact .inr ⟨g, og, cap, by rw [e1], by rw [e1]; omega, HCM.out, HR1.out.take i⟩
    have HLEN : Hid ([L.take i, L.drop (i + 1)].flatten.length ≤ 1000) := by
      show _ ≤ 1000
      simp only [List.flatten_cons, List.flatten_nil, List.append_nil, List.length_append, List.length_take, List.length_drop, HN.out]
      omega
    by_cases hcj : cap = i + 1
    · have HT2 : Hid (SR w1 (.slice (some ⟨g, og, none⟩) 0 0) (L.drop (i + 1))) := .inl ⟨_, _, rfl, List.drop_eq_nil_of_le (by rw [HN.out]; omega)⟩
      generalize hj : i + 1 = j at i2 i21 i3 hcj
      subst hcj
      go_wp2
      go_region_held3 (fun w' => Below w1.heap.size w1 w') (first | assumption | exact Below.drew (Below.refl _ _) | exact keepQ (by assumption) (by assumption) | exact keepQ (Below.drew (Below.refl _ _)) (by assumption) | exact keepQ (Below.alloc (Below.refl _ _) (Nat.le_refl _) _) (by assumption))
        (first | (go_at_call 121; refine (concat_any _ 0 2 2 [L.take i, L.drop (i + 1)] _ rfl (by omega) ((pat2 _ HT1.out HT2.out).later (Below.drew (Below.refl _ _))) HLEN.out).mono ?_; rintro e w' ⟨u, rfl, hown, hb⟩))
      have HO : Hid (NR w' w.heap.size u (L.take i ++ L.drop (i + 1))) := (NR.of hown (by simp)).mono (by have := HB1.out.size; simp; omega)
      have HB2 : Hid (Below w.heap.size w w') := HB1.out.trans ((‹Below w1.heap.size w1 w'›).mono HB1.out.size)
      clear hown
      go_wp2
      refine bodyPost_ret (v := .tuple #[u, .nilIface]) (by simp [results, Tryz.results124, go_sem]) rfl ⟨_, rfl, HO.out, HB2.out⟩
      
    · have HT2 : Hid (SR w1 (.slice (some ⟨g, og + (i + 1) * 6, none⟩) (n - (i + 1)) (cap - (i + 1))) (L.drop (i + 1))) := by
        have e1 : (L.drop (i + 1)).length = n - (i + 1) := by rw [List.length_drop, HN.out]
        exact .inr ⟨g, og + (i + 1) * 6, cap - (i + 1), by rw [e1], by rw [e1]; omega, Nat.le_trans (Nat.sub_le _ _) HCM.out, HR1.out.drop (i + 1)⟩
      generalize hj : i + 1 = j at i2 i21 i3 hcj HT2 HLEN
      go_wp2
      go_region_held3 (fun w' => Below w1.heap.size w1 w') (first | assumption | exact Below.drew (Below.refl _ _) | exact keepQ (by assumption) (by assumption) | exact keepQ (Below.drew (Below.refl _ _)) (by assumption) | exact keepQ (Below.alloc (Below.refl _ _) (Nat.le_refl _) _) (by assumption))
        (first | (go_at_call 121; refine (concat_any _ 0 2 2 [L.take i, L.drop j] _ rfl (by omega) ((pat2 _ HT1.out HT2.out).later (Below.drew (Below.refl _ _))) HLEN.out).mono ?_; rintro e w' ⟨u, rfl, hown, hb⟩))
      have HO : Hid (NR w' w.heap.size u (L.take i ++ L.drop (i + 1))) := (NR.of hown (by rw [hj]; simp)).mono (by have := HB1.out.size; simp; omega)
      have HB2 : Hid (Below w.heap.size w w') := HB1.out.trans ((‹Below w1.heap.size w1 w'›).mono HB1.out.size)
      clear hown
      go_wp2
      refine bodyPost_ret (v := .tuple #[u, .nilIface]) (by simp [results, Tryz.results124, go_sem]) rfl ⟨_, rfl, HO.out, HB2.out⟩
      
end Go.Proofs.YtglnnoglbieaeaaGreatDoor
/- What table.Do answers, called with any table, and any rule to be added or taken away. -/
namespace Go.Proofs.YtglnnoglbieaeaaGreatDoor
open Go.RowKit
set_option linter.unusedSimpArgs false
set_option linter.unusedVariables false

theorem do_tb {L : List Ru} {a : Bool} {r : Ru} (h : tbN L ≠ 0) : doN L a r = tbN L ∧ doL L a r = [] := by
  have e : doN L a r = tbN L := by simp [doN, h]
  exact ⟨e, by rw [doL, e, if_neg h]⟩
theorem do_ru {L : List Ru} {a : Bool} {r : Ru} (h : tbN L = 0) (h2 : r.n ≠ 0) : doN L a r = r.n ∧ doL L a r = [] := by
  have e : doN L a r = r.n := by simp [doN, h, h2]
  exact ⟨e, by rw [doL, e, if_neg h2]⟩
theorem do_ch {L : List Ru} {a : Bool} {r : Ru} (h : tbN L = 0) (h2 : r.n = 0) : doN L a r = chN L a r ∧ doL L a r = chL L a r := by
  have e : doN L a r = chN L a r := by simp [doN, h, h2]
  refine ⟨e, ?_⟩
  by_cases h3 : chN L a r = 0
  · rw [doL, e, if_pos h3]
  · rw [doL, e, if_neg h3, chL_ne h3]

set_option maxHeartbeats 2000000 in
set_option maxRecDepth 100000 in
theorem do_own (ao : Option Addr) (n cap : Nat) (a : Bool) (p m b o s v : Int) (L : List Ru) (w : World) (hs : SR w (.slice ao n cap) L) :
    Calls Tryz.prog 77 #[.slice ao n cap, .bool a, .agg #[.int .i64 p, .int .i64 m, .int .i64 b, .int .i64 o, .int .i64 s, .int .i64 v]] w fun e w' => ∃ u, e = .returned (.tuple #[u, noV (doN L a ⟨p, m, b, o, s, v⟩)]) ∧ NR w' w.heap.size u (doL L a ⟨p, m, b, o, s, v⟩) ∧ Below w.heap.size w w' := by
  have hB0 : Below w.heap.size w (w.alloc (Obj.cells #[Value.int IntKind.i64 p, Value.int IntKind.i64 m, Value.int IntKind.i64 b, Value.int IntKind.i64 o, Value.int IntKind.i64 s, Value.int IntKind.i64 v] 66)) := (Below.refl _ _).alloc (Nat.le_refl _) _
  have HC0 := C6.new w p m b o s v 66
  have HS0 : Hid (SR (w.alloc (Obj.cells #[Value.int IntKind.i64 p, Value.int IntKind.i64 m, Value.int IntKind.i64 b, Value.int IntKind.i64 o, Value.int IntKind.i64 s, Value.int IntKind.i64 v] 66)) (.slice ao n cap) L) := hs.later hB0
  have HB0 : Hid (Below w.heap.size w (w.alloc (Obj.cells #[Value.int IntKind.i64 p, Value.int IntKind.i64 m, Value.int IntKind.i64 b, Value.int IntKind.i64 o, Value.int IntKind.i64 s, Value.int IntKind.i64 v] 66))) := hB0
  have HLN : Hid (L.length = n) := hs.len
  clear hs hB0
  by_cases h1 : tbN L = 0
  · have HT : Hid (tbN L = 0) := h1
    by_cases h2 : (⟨p, m, b, o, s, v⟩ : Ru).n = 0
    · have HR : Hid (ruN p m b o s v = 0) := h2
      have HN1 : Hid (n ≤ 1000) := by
        have := (tb_iff.1 h1).1
        have := HLN.out
        show n ≤ 1000
        omega
      rw [(do_ch h1 h2).1, (do_ch h1 h2).2]
      clear h1 h2
      cases a
      · go_enter Tryz.func77, Tryz.ntmps77
        go_wp2_with fail
        refine (table_any _ L _ HS0.out).mono ?_
        rintro e w1 ⟨rfl, hb1⟩
        rw [no_ok HT.out]
        have HB1 : Hid (Below w.heap.size w w1) := HB0.out.trans (hb1.mono HB0.out.size)
        have HS1 : Hid (SR w1 (.slice ao n cap) L) := HS0.out.later hb1
        have HC1 : Hid (C6 w1 w.heap.size 0 ⟨p, m, b, o, s, v⟩) := HC0.later hb1
        obtain ⟨c0, c1, c2, c3, c4, c5⟩ := HC0.later hb1
        simp only [Nat.zero_add] at c0 c1 c2 c3 c4 c5
        have hlt : w.heap.size < w1.heap.size := World.block_lt_of_cell? _ _ c0
        clear hb1
        go_wp2_with fail
        refine (ruCheck_any _ _ _ _ _ _ _).mono ?_
        rintro e w2 ⟨rfl, hb2⟩
        rw [no_ok HR.out]
        have HB2 : Hid (Below w.heap.size w w2) := HB1.out.trans (hb2.mono HB1.out.size)
        have HS2 : Hid (SR w2 (.slice ao n cap) L) := HS1.out.later hb2
        obtain ⟨d0, d1, d2, d3, d4, d5⟩ := HC1.out.later hb2
        simp only [Nat.zero_add] at d0 d1 d2 d3 d4 d5
        have hlt2 : w.heap.size < w2.heap.size := World.block_lt_of_cell? _ _ d0
        clear hb2 c0 c1 c2 c3 c4 c5
        go_wp2_with fail
        refine (without_any ao n cap p m b o s v L _ HS2.out HN1.out).mono ?_
        rintro e w3 ⟨u, rfl, hsr, hb3⟩
        have HB3 : Hid (Below w.heap.size w w3) := HB2.out.trans (hb3.mono HB2.out.size)
        have HO : Hid (NR w3 w.heap.size u (chL L false ⟨p, m, b, o, s, v⟩)) := hsr.mono HB2.out.size
        clear hb3 hsr d0 d1 d2 d3 d4 d5
        generalize hE : noV (chN L false ⟨p, m, b, o, s, v⟩) = E
        have HE : Hid (noV (chN L false ⟨p, m, b, o, s, v⟩) = E) := hE
        clear hE
        go_wp2
        refine bodyPost_ret (v := .tuple #[u, E]) (by simp [results, Tryz.results77, go_sem]) rfl ⟨_, by rw [HE.out], HO.out, HB3.out⟩
      · go_enter Tryz.func77, Tryz.ntmps77
        go_wp2_with fail
        refine (table_any _ L _ HS0.out).mono ?_
        rintro e w1 ⟨rfl, hb1⟩
        rw [no_ok HT.out]
        have HB1 : Hid (Below w.heap.size w w1) := HB0.out.trans (hb1.mono HB0.out.size)
        have HS1 : Hid (SR w1 (.slice ao n cap) L) := HS0.out.later hb1
        have HC1 : Hid (C6 w1 w.heap.size 0 ⟨p, m, b, o, s, v⟩) := HC0.later hb1
        obtain ⟨c0, c1, c2, c3, c4, c5⟩ := HC0.later hb1
        simp only [Nat.zero_add] at c0 c1 c2 c3 c4 c5
        have hlt : w.heap.size < w1.heap.size := World.block_lt_of_cell? _ _ c0
        clear hb1
        go_wp2_with fail
        refine (ruCheck_any _ _ _ _ _ _ _).mono ?_
        rintro e w2 ⟨rfl, hb2⟩
        rw [no_ok HR.out]
        have HB2 : Hid (Below w.heap.size w w2) := HB1.out.trans (hb2.mono HB1.out.size)
        have HS2 : Hid (SR w2 (.slice ao n cap) L) := HS1.out.later hb2
        obtain ⟨d0, d1, d2, d3, d4, d5⟩ := HC1.out.later hb2
        simp only [Nat.zero_add] at d0 d1 d2 d3 d4 d5
        have hlt2 : w.heap.size < w2.heap.size := World.block_lt_of_cell? _ _ d0
        clear hb2 c0 c1 c2 c3 c4 c5
        go_wp2_with fail
        refine (with_any ao n cap p m b o s v L _ HS2.out).mono ?_
        rintro e w3 ⟨u, rfl, hsr, hb3⟩
        have HB3 : Hid (Below w.heap.size w w3) := HB2.out.trans (hb3.mono HB2.out.size)
        have HO : Hid (NR w3 w.heap.size u (chL L true ⟨p, m, b, o, s, v⟩)) := hsr.mono HB2.out.size
        clear hb3 hsr d0 d1 d2 d3 d4 d5
        generalize hE : noV (chN L true ⟨p, m, b, o, s, v⟩) = E
        have HE : Hid (noV (chN L true ⟨p, m, b, o, s, v⟩) = E) := hE
        clear hE
        go_wp2
        refine bodyPost_ret (v := .tuple #[u, E]) (by simp [results, Tryz.results77, go_sem]) rfl ⟨_, by rw [HE.out], HO.out, HB3.out⟩
    · have HR : Hid (ruN p m b o s v ≠ 0) := h2
      rw [(do_ru h1 h2).1, (do_ru h1 h2).2]
      have HRV : Hid (noV (Ru.n ⟨p, m, b, o, s, v⟩) = .iface 85 (.int .i64 (ruN p m b o s v))) := no_ne h2
      clear h1 h2
      go_enter Tryz.func77, Tryz.ntmps77
      go_wp2_with fail
      refine (table_any _ L _ HS0.out).mono ?_
      rintro e w1 ⟨rfl, hb1⟩
      rw [no_ok HT.out]
      have HB1 : Hid (Below w.heap.size w w1) := HB0.out.trans (hb1.mono HB0.out.size)
      obtain ⟨c0, c1, c2, c3, c4, c5⟩ := HC0.later hb1
      simp only [Nat.zero_add] at c0 c1 c2 c3 c4 c5
      have hlt : w.heap.size < w1.heap.size := World.block_lt_of_cell? _ _ c0
      clear hb1
      go_wp2_with fail
      refine (ruCheck_any _ _ _ _ _ _ _).mono ?_
      rintro e w2 ⟨rfl, hb2⟩
      rw [no_ne HR.out]
      have HB2 : Hid (Below w.heap.size w w2) := HB1.out.trans (hb2.mono HB1.out.size)
      clear hb2 c0 c1 c2 c3 c4 c5
      go_wp2
      refine bodyPost_ret (v := .tuple #[.slice none 0 0, .iface 85 (.int .i64 (ruN p m b o s v))]) (by simp [results, Tryz.results77, go_sem]) rfl ⟨_, by rw [HRV.out], NR.nil _ _, HB2.out⟩
  · have HT : Hid (tbN L ≠ 0) := h1
    rw [(do_tb h1).1, (do_tb h1).2, no_ne h1]
    clear h1
    go_enter Tryz.func77, Tryz.ntmps77
    go_wp2_with fail
    refine (table_any _ L _ HS0.out).mono ?_
    rintro e w1 ⟨rfl, hb1⟩
    rw [no_ne HT.out]
    have HB1 : Hid (Below w.heap.size w w1) := HB0.out.trans (hb1.mono HB0.out.size)
    clear hb1
    go_wp2
    refine bodyPost_ret (v := .tuple #[.slice none 0 0, .iface 85 (.int .i64 (tbN L))]) (by simp [results, Tryz.results77, go_sem]) rfl ⟨_, rfl, NR.nil _ _, HB1.out⟩
theorem do_any (ao : Option Addr) (n cap : Nat) (a : Bool) (p m b o s v : Int) (L : List Ru) (w : World) (hs : SR w (.slice ao n cap) L) :
    Calls Tryz.prog 77 #[.slice ao n cap, .bool a, .agg #[.int .i64 p, .int .i64 m, .int .i64 b, .int .i64 o, .int .i64 s, .int .i64 v]] w fun e w' => ∃ u, e = .returned (.tuple #[u, noV (doN L a ⟨p, m, b, o, s, v⟩)]) ∧ SR w' u (doL L a ⟨p, m, b, o, s, v⟩) ∧ Below w.heap.size w w' :=
  (do_own ao n cap a p m b o s v L w hs).mono fun _ _ ⟨u, h1, h2, h3⟩ => ⟨u, h1, h2.sr, h3⟩
end Go.Proofs.YtglnnoglbieaeaaGreatDoor
/- What slices.Contains, slices.DeleteFunc and table.beyond answer at tables. -/
namespace Go.Proofs.YtglnnoglbieaeaaGreatDoor
open Go.RowKit
set_option linter.unusedSimpArgs false
set_option linter.unusedVariables false

/-- What is left of the first j rules lies at the first i places, the others are as they were. -/
structure KI (f : Ru → Bool) (L : List Ru) (j i : Nat) (X : List Ru) : Prop where
  len : X.length = L.length
  lt : i < j
  low : X.take i = (L.take j).filter (fun a => !f a)
  high : X.drop j = L.drop j
theorem KI.start {f : Ru → Bool} {L : List Ru} {k : Nat} (hk : k < L.length) (h : (L.take k).any f = false) (h2 : f L[k] = true) : KI f L (k + 1) k L := by
  refine ⟨rfl, by omega, ?_, rfl⟩
  rw [List.take_succ_eq_append_getElem hk, List.filter_append]
  have e1 : (L.take k).filter (fun a => !f a) = L.take k := by
    rw [List.filter_eq_self]
    intro a ha
    rw [List.any_eq_false] at h
    simpa using h a ha
  rw [e1]
  simp [h2]
theorem KI.skip {f : Ru → Bool} {L X : List Ru} {j i : Nat} (h : KI f L j i X) (hj : j < L.length) (h2 : f L[j] = true) : KI f L (j + 1) i X := by
  refine ⟨h.len, by have := h.lt; omega, ?_, ?_⟩
  · rw [List.take_succ_eq_append_getElem hj, List.filter_append, ← h.low]
    simp [h2]
  · have := congrArg (List.drop 1) h.high
    simpa [List.drop_drop, Nat.add_comm] using this
theorem KI.at {f : Ru → Bool} {L X : List Ru} {j i : Nat} (h : KI f L j i X) (hj : j < L.length) : X[j]'(by rw [h.len]; exact hj) = L[j] := by
  have e1 := congrArg (fun l => l[0]?) h.high
  simp only [List.getElem?_drop, Nat.add_zero] at e1
  rw [List.getElem?_eq_getElem (by rw [h.len]; exact hj), List.getElem?_eq_getElem hj] at e1
  exact Option.some.inj e1
theorem KI.keep {f : Ru → Bool} {L X : List Ru} {j i : Nat} (h : KI f L j i X) (hj : j < L.length) (h2 : f L[j] = false) : KI f L (j + 1) (i + 1) (X.set i L[j]) := by
  have hlt := h.lt
  have hl := h.len
  refine ⟨by rw [List.length_set]; exact h.len, by omega, ?_, ?_⟩
  · rw [List.take_succ_eq_append_getElem hj, List.filter_append, ← h.low]
    have hi : i < (X.set i L[j]).length := by rw [List.length_set]; omega
    rw [List.take_succ_eq_append_getElem hi, List.take_set_of_le (Nat.le_refl _)]
    simp [h2]
  · rw [List.drop_set_of_lt (by omega)]
    have := congrArg (List.drop 1) h.high
    simpa [List.drop_drop, Nat.add_comm] using this
theorem KI.done {f : Ru → Bool} {L X : List Ru} {i : Nat} (h : KI f L L.length i X) : X.take i = L.filter (fun a => !f a) := by
  have := h.low
  rw [List.take_length] at this
  exact this

/-- A rule that is stored in a row. -/
theorem cellsR_set (X : List Ru) (i : Nat) (p m b o s v : Int) (hi : i < X.length) : cellsR (X.set i ⟨p, m, b, o, s, v⟩) = ((((((cellsR X).set (i * 6) (.int .i64 p)).set (i * 6 + 1) (.int .i64 m)).set (i * 6 + 2) (.int .i64 b)).set (i * 6 + 3) (.int .i64 o)).set (i * 6 + 4) (.int .i64 s)).set (i * 6 + 5) (.int .i64 v) := by
  induction X generalizing i with
  | nil => simp at hi
  | cons x X ih =>
    cases i with
    | zero => simp [cellsR]
    | succ i =>
      have := ih i (by simpa using hi)
      have e1 : (i + 1) * 6 = i * 6 + 1 + 1 + 1 + 1 + 1 + 1 := by omega
      simp only [cellsR, List.flatMap_cons, List.set_cons_succ] at this ⊢
      rw [this]
      simp [e1]
theorem own_set {w : World} {base e g n cap i : Nat} {X : List Ru} (h : w.ownsRow base e 6 (.slice (some ⟨g, 0, none⟩) n cap) n (cellsR X)) (hi : i < X.length) (p m b o s v : Int) :
    ((((((w.setCell ⟨g, i * 6, none⟩ (.int .i64 p)).setCell ⟨g, i * 6 + 1, none⟩ (.int .i64 m)).setCell ⟨g, i * 6 + 2, none⟩ (.int .i64 b)).setCell ⟨g, i * 6 + 3, none⟩ (.int .i64 o)).setCell ⟨g, i * 6 + 4, none⟩ (.int .i64 s)).setCell ⟨g, i * 6 + 5, none⟩ (.int .i64 v)).ownsRow base e 6 (.slice (some ⟨g, 0, none⟩) n cap) n (cellsR (X.set i ⟨p, m, b, o, s, v⟩)) := by
  rw [cellsR_set X i p m b o s v hi]
  exact ((((((h.stored _ _).1.stored _ _).1.stored _ _).1.stored _ _).1.stored _ _).1.stored _ _).1
theorem below_six {B : Nat} {a w : World} {g i : Nat} (h : Below B a w) (hg : B ≤ g) (p m b o s v : Value) :
    Below B a ((((((w.setCell ⟨g, i * 6, none⟩ p).setCell ⟨g, i * 6 + 1, none⟩ m).setCell ⟨g, i * 6 + 2, none⟩ b).setCell ⟨g, i * 6 + 3, none⟩ o).setCell ⟨g, i * 6 + 4, none⟩ s).setCell ⟨g, i * 6 + 5, none⟩ v) :=
  (((((h.setCell hg _).setCell hg _).setCell hg _).setCell hg _).setCell hg _).setCell hg _
/-- The cells of an own row's rule, none of them frozen. -/
theorem own_at {w : World} {base e g n cap i : Nat} {X : List Ru} (h : w.ownsRow base e 6 (.slice (some ⟨g, 0, none⟩) n cap) n (cellsR X)) (hn : X.length = n) (hi : i < n) :
    C6 w g (i * 6) (X[i]'(by omega)) ∧ (∀ c, w.frozen? ⟨g, c, none⟩ = false) := by
  subst hn
  obtain ⟨a0, a1, a2, a3, a4, a5⟩ := cellsR_at X i hi
  refine ⟨⟨?_, ?_, ?_, ?_, ?_, ?_⟩, fun c => h.frozenAt c⟩
  · rw [h.cellAt _ (by omega)]; exact a0
  · rw [h.cellAt _ (by omega)]; exact a1
  · rw [h.cellAt _ (by omega)]; exact a2
  · rw [h.cellAt _ (by omega)]; exact a3
  · rw [h.cellAt _ (by omega)]; exact a4
  · rw [h.cellAt _ (by omega)]; exact a5

theorem run_clear_of (w w' : World) (t e ty : TypeId) (ht : Tryz.prog.underlying t = some (.slice e)) (b o n c : Nat) (hn : 0 < n) (z : Value) (hv : ∀ w, (zeroValue e).run Tryz.prog w = .ok z w) (Z : List Value)
    (hZ : (Builtin.zeroCells z.cells n).toList = Z) (hst : (storeCells ⟨b, o, none⟩ Z 0).run Tryz.prog w = .ok () w') : (Builtin.clear_ #[t] ty #[.slice (some ⟨b, o, none⟩) n c]).run Tryz.prog w = .ok (.tuple #[]) w' := by
  obtain ⟨m, rfl⟩ : ∃ m, n = m + 1 := ⟨n - 1, by omega⟩
  simp [Builtin.clear_, run_underlying ht, hv, hZ, hst]
theorem cellsR_take (X : List Ru) (i : Nat) : (cellsR X).take (i * 6) = cellsR (X.take i) := by
  induction X generalizing i with
  | nil => simp [cellsR]
  | cons x X ih =>
    cases i with
    | zero => simp [cellsR]
    | succ i =>
      have := ih i
      have e1 : (i + 1) * 6 = i * 6 + 1 + 1 + 1 + 1 + 1 + 1 := by omega
      simp only [cellsR] at this
      simp [cellsR, e1, this]
/-- Clearing rules of a row. -/
theorem run_clear6 (w : World) (t ty : TypeId) (ht : Tryz.prog.underlying t = some (.slice 66)) (b o n c : Nat) (hn : 0 < n)
    (hc : ∀ j, j < n * 6 → (w.cell? ⟨b, o + j, none⟩).isSome = true) (hf : ∀ j, w.frozen? ⟨b, j, none⟩ = false) :
    (Builtin.clear_ #[t] ty #[.slice (some ⟨b, o, none⟩) n c]).run Tryz.prog w = .ok (.tuple #[]) (w.setCells b o (Builtin.zeroCells (Value.agg #[.int .i64 0, .int .i64 0, .int .i64 0, .int .i64 0, .int .i64 0, .int .i64 0]).cells n).toList) := by
  obtain ⟨i0, hi, hz0, hz1, hz2⟩ := info_parts infoRule
  have hv : ∀ w, (zeroValue 66).run Tryz.prog w = .ok (.agg #[.int .i64 0, .int .i64 0, .int .i64 0, .int .i64 0, .int .i64 0, .int .i64 0]) w := fun w => by simp [zeroValue, typeInfo, hi, hz0]
  have hl : (Builtin.zeroCells (Value.agg #[.int .i64 0, .int .i64 0, .int .i64 0, .int .i64 0, .int .i64 0, .int .i64 0]).cells n).toList.length = n * 6 := by rw [Array.length_toList, size_zeroCells, sixCells]
  have h1 : ∀ u ∈ (Builtin.zeroCells (Value.agg #[.int .i64 0, .int .i64 0, .int .i64 0, .int .i64 0, .int .i64 0, .int .i64 0]).cells n).toList, u.oneCell' = true := by
    intro u hu
    simp only [Builtin.zeroCells, Array.toList_map, List.mem_map] at hu
    obtain ⟨i, _, rfl⟩ := hu
    rw [sixCells]
    have h6 : i % 6 < 6 := Nat.mod_lt _ (by omega)
    generalize i % 6 = j at h6
    rcases (by omega : j = 0 ∨ j = 1 ∨ j = 2 ∨ j = 3 ∨ j = 4 ∨ j = 5) with rfl | rfl | rfl | rfl | rfl | rfl <;> rfl
  have hst := run_storeCells_cells (P := Tryz.prog) b o (Builtin.zeroCells (Value.agg #[.int .i64 0, .int .i64 0, .int .i64 0, .int .i64 0, .int .i64 0, .int .i64 0]).cells n).toList 0 w (by rw [hl]; simpa using hc) (fun j _ => hf _) h1
  simp only [Nat.add_zero] at hst
  exact run_clear_of w _ t _ ty ht b o n c hn _ hv _ rfl hst

/-- Two rows of two kinds lie in two blocks. -/
theorem own_apart {w : World} {b1 e1 s1 n1 b2 e2 s2 n2 : Nat} {v1 v2 : Value} {x1 x2 : List Value} (h1 : w.ownsRow b1 e1 s1 v1 n1 x1) (h2 : w.ownsRow b2 e2 s2 v2 n2 x2) (he : e1 ≠ e2) : v1.ownBlock = none ∨ v1.ownBlock ≠ v2.ownBlock := by
  rcases h1.2 with ⟨rfl, _⟩ | ⟨g, cap, cur, rfl, _, hg, _⟩
  · exact .inl rfl
  · refine .inr ?_
    rcases h2.2 with ⟨rfl, _⟩ | ⟨g2, cap2, cur2, rfl, _, hg2, _⟩
    · exact fun h => by cases h
    · intro h
      simp only [Value.ownBlock, Option.some.injEq] at h
      subst h
      rw [hg] at hg2
      simp only [Option.some.injEq, Obj.cells.injEq] at hg2
      exact he hg2.2.1
/-- One slice of rules in a new row. -/
theorem pat1 {W : World} {a1 : Option Addr} {n1 c1 : Nat} {L1 : List Ru} (t : TypeId) (h1 : SR W (.slice a1 n1 c1) L1) :
    PAt (W.alloc (.cells #[.slice a1 n1 c1] t)) W.heap.size 0 [L1] := by
  have hb : Below W.heap.size W (W.alloc (.cells #[.slice a1 n1 c1] t)) := (Below.refl _ _).alloc (Nat.le_refl _) _
  intro i hi
  match i, hi with
  | 0, _ => exact ⟨a1, n1, c1, by simp, h1.later hb⟩

end Go.Proofs.YtglnnoglbieaeaaGreatDoor
/- What net.Legs answers: rows of legs that a call has made. -/
namespace Go.Proofs.YtglnnoglbieaeaaGreatDoor
open Go.RowKit
set_option linter.unusedSimpArgs false
set_option linter.unusedVariables false

/-- Rows of sixteen legs, k of them. -/
def LGs (W : World) (B : Nat) (v : Value) (f : Nat → Nat → Lg) (k : Nat) : Prop :=
  ∃ vs : List Value, W.ownsRow B 153 1 v k vs ∧ ∀ i, i < k → ∃ u, vs[i]? = some u ∧ W.ownsRow B 155 5 u 16 (cellsG legE ((List.range 16).map (f i)))
theorem LGs.later {W W' : World} {B : Nat} {v : Value} {f : Nat → Nat → Lg} {k : Nat} (h : LGs W B v f k) (hb : Below W.heap.size W W') : LGs W' B v f k := by
  obtain ⟨vs, h1, h2⟩ := h
  refine ⟨vs, own_below h1 hb, fun i hi => ?_⟩
  obtain ⟨u, e, h3⟩ := h2 i hi
  exact ⟨u, e, own_below h3 hb⟩
theorem LGs.mono {W : World} {B B' : Nat} {v : Value} {f : Nat → Nat → Lg} {k : Nat} (h : LGs W B v f k) (hB : B' ≤ B) : LGs W B' v f k := by
  obtain ⟨vs, h1, h2⟩ := h
  refine ⟨vs, own_mono h1 hB, fun i hi => ?_⟩
  obtain ⟨u, e, h3⟩ := h2 i hi
  exact ⟨u, e, own_mono h3 hB⟩
theorem lgs_nil (W : World) (B : Nat) (f : Nat → Nat → Lg) : LGs W B (.slice none 0 0) f 0 := ⟨[], World.ownsRow_nil _ _ _ _, fun i hi => by omega⟩
theorem LGs.push {W W' : World} {B : Nat} {v v' u : Value} {f : Nat → Nat → Lg} {k : Nat} (h : LGs W B v f k) (hu : W.ownsRow B 155 5 u 16 (cellsG legE ((List.range 16).map (f k)))) (hg : W.grownBy W' v.ownBlock) (hv : ∀ vs, W.ownsRow B 153 1 v k vs → W'.ownsRow B 153 1 v' (k + 1) (vs ++ [u])) : LGs W' B v' f (k + 1) := by
  obtain ⟨vs, h1, h2⟩ := h
  have hl : vs.length = k := by simpa using h1.1
  refine ⟨vs ++ [u], hv vs h1, fun i hi => ?_⟩
  by_cases e : i = k
  · subst e
    refine ⟨u, by rw [List.getElem?_append_right (by omega), hl]; simp, hu.kept hg ?_⟩
    exact own_apart hu h1 (by decide)
  · obtain ⟨y, e1, h3⟩ := h2 i (by omega)
    refine ⟨y, by rw [List.getElem?_append_left (by omega)]; exact e1, h3.kept hg ?_⟩
    exact own_apart h3 h1 (by decide)
theorem own_uniq {W : World} {B B' e size n : Nat} {v : Value} {xs ys : List Value} (h : W.ownsRow B e size v n xs) (k : W.ownsRow B' e size v n ys) : xs = ys := by
  rcases h.2 with ⟨rfl, rfl⟩ | ⟨g, cap, cur, rfl, _, hg, _, _, _, ht⟩
  · have h1 := h.1
    have h2 := k.1
    simp at h1 h2
    rw [h1, h2]
  · rcases k.2 with ⟨h, _⟩ | ⟨g', cap', cur', e, _, hg', _, _, _, ht'⟩
    · simp at h
    · simp only [Value.slice.injEq, Option.some.injEq, Addr.mk.injEq, and_true, true_and] at e
      obtain ⟨rfl, rfl⟩ := e
      rw [hg] at hg'
      cases hg'
      rw [← ht, ← ht']
theorem legs_info : (Tryz.prog.info? 153).map (fun i => (i.zero, i.size, i.bytes)) = some (some (.slice none 0 0), 1, 24) := by kernel_rfl
theorem range_succ_map {α : Type} (f : Nat → α) (h : Nat) : (List.range (h + 1)).map f = (List.range h).map f ++ [f h] := by simp [List.range_succ]

set_option maxHeartbeats 8000000 in
set_option maxRecDepth 100000 in
theorem legs_any (S : Int) (ao : Option Addr) (n cap : Nat) (ao2 : Option Addr) (n2 cap2 : Nat) (ao3 : Option Addr) (n3 cap3 : Nat) (Ls : List ((Int × Int) × (Int × Int))) (Hs : List (ByteArray × (Int × Int))) (Ts : List (List Ru)) (w : World)
    (hL : GS lnkE w (.slice ao n cap) Ls) (hH : GS hstE w (.slice ao2 n2 cap2) Hs) (hT : TS w (.slice ao3 n3 cap3) Ts) (hN : ntN S Ls Hs Ts = 0) :
    Calls Tryz.prog 47 #[.agg #[.int .i64 S, .slice ao n cap, .slice ao2 n2 cap2, .slice ao3 n3 cap3]] w fun e w' => ∃ v, e = .returned v ∧ LGs w' w.heap.size v (fun (a h : Nat) => lgT Ls Hs (taT Ts ((a : Int) + 1)) (((a : Int) + 1, 0), (h : Int))) n3 ∧ Below w.heap.size w w' := by
  obtain ⟨hTP, hTL, hTT⟩ := nt_0 hN
  have hS := (tp_0 hTP).1
  have hnd := (tp_0 hTP).2.2.2.1
  have hTn := hT.len
  have hLn := hL.len
  have hl2 := (tp_0 hTP).2.1
  have H36 : Hid (n3 ≤ 6) := by show _ ≤ _; omega
  have h36 : n3 ≤ 6 := H36.out
  obtain rfl : S = (n3 : Int) := by omega
  have HND : Hid ((spsL Ls).Nodup) := hnd
  have HN1 : Hid (n ≤ 1000) := by show _ ≤ _; omega
  have HTT : Hid (∀ k, k < Ts.length → tbN (Ts.getD k []) = 0) := hTT
  have HLW : Hid (∀ W, Below w.heap.size w W → GS lnkE W (.slice ao n cap) Ls) := fun W hb => hL.later hb
  have HHW : Hid (∀ W, Below w.heap.size w W → GS hstE W (.slice ao2 n2 cap2) Hs) := fun W hb => hH.later hb
  have HTW : Hid (∀ W, Below w.heap.size w W → TS W (.slice ao3 n3 cap3) Ts) := fun W hb => hT.later hb
  obtain ⟨f, hf⟩ : ∃ f : Nat → Nat → Lg, f = fun (a h : Nat) => lgT Ls Hs (taT Ts ((a : Int) + 1)) (((a : Int) + 1, 0), (h : Int)) := ⟨_, rfl⟩
  have HF : Hid (∀ a h : Nat, lgT Ls Hs (taT Ts ((a : Int) + 1)) (((a : Int) + 1, 0), (h : Int)) = f a h) := fun a h => by rw [hf]
  rw [← hf]
  have hX := nebox_new w (n3 : Int) (.slice ao n cap) (.slice ao2 n2 cap2) (.slice ao3 n3 cap3) 28
  have hB0 : Below w.heap.size w (w.alloc (Obj.cells #[.int .i64 (n3 : Int), .slice ao n cap, .slice ao2 n2 cap2, .slice ao3 n3 cap3] 28)) := (Below.refl _ _).alloc (Nat.le_refl _) _
  obtain ⟨w0, hw0⟩ : ∃ W, w.alloc (Obj.cells #[.int .i64 (n3 : Int), .slice ao n cap, .slice ao2 n2 cap2, .slice ao3 n3 cap3] 28) = W := ⟨_, rfl⟩
  rw [hw0] at hX hB0
  have HX : Hid (NeBox w0 w.heap.size (n3 : Int) (.slice ao n cap) (.slice ao2 n2 cap2) (.slice ao3 n3 cap3)) := hX
  have HB0 : Hid (Below w.heap.size w w0) := hB0
  have HW0 : Hid (w.alloc (Obj.cells #[.int .i64 (n3 : Int), .slice ao n cap, .slice ao2 n2 cap2, .slice ao3 n3 cap3] 28) = w0) := hw0
  clear hL hH hT hN hTP hTL hTT hS hnd hTn hLn hl2 hf hX hB0 hw0
  go_enter Tryz.func47, Tryz.ntmps47
  go_upto_region 1 with fail
  rw [HW0.out]
  clear HW0
  obtain ⟨b0, b1, b2, b3⟩ := HX.out
  go_wp2_with fail
  refine (peers_any ao n cap Ls _ (HLW.out _ HB0.out) HND.out HN1.out).mono ?_
  rintro e w1 ⟨B, M, rfl, hM, hPM, hb1⟩
  have HM : Hid (MAt spotKey veS w1 B M) := hM
  have HPM : Hid (PM M Ls) := hPM
  have HX1 : Hid (NeBox w1 w.heap.size (n3 : Int) (.slice ao n cap) (.slice ao2 n2 cap2) (.slice ao3 n3 cap3)) := HX.out.later hb1
  have HB1 : Hid (Below w.heap.size w w1) := HB0.out.trans (hb1.mono HB0.out.size)
  clear hM hPM hb1 HX HB0 b0 b1 b2 b3
  go_wp2
  go_loopw [4, 5] (fun v i wr => ∃ k : Nat, k ≤ n3 ∧ i = .int .i64 ((k : Int) + 1) ∧ LGs wr w1.heap.size v f k ∧ Below w1.heap.size w1 wr) (fun _ i _ => n3 + 1 - (intOf i).toNat)
  case atStart => exact ⟨0, by omega, rfl, lgs_nil _ _ _, Below.refl _ _⟩
  case round =>
    obtain ⟨k, hk, rfl, hG, hB⟩ := hrel
    obtain ⟨v4, hv4⟩ : ∃ X, X = u4 := ⟨_, rfl⟩
    subst hv4
    obtain ⟨wo, hwo⟩ : ∃ X, X = wr := ⟨_, rfl⟩
    subst hwo
    have HG : Hid (LGs wo w1.heap.size v4 f k) := hG
    have HB : Hid (Below w1.heap.size w1 wo) := hB
    have HBw : Hid (Below w.heap.size w wo) := HB1.out.trans (hB.mono HB1.out.size)
    have HXr : Hid (NeBox wo w.heap.size (n3 : Int) (.slice ao n cap) (.slice ao2 n2 cap2) (.slice ao3 n3 cap3)) := HX1.out.later hB
    have HMr : Hid (MAt spotKey veS wo B M) := HM.out.later hB
    obtain ⟨b0, b1, b2, b3⟩ := HXr.out
    clear hG hB
    by_cases hlt : k < n3
    · have dk : decide (((k : Int) + 1) ≤ (n3 : Int)) = true := by simp; omega
      have hle : (k : Int) + 1 ≤ (n3 : Int) := by omega
      go_upto_region 7 with fail
      clear dk hle
      go_wp2
      go_loopw [6, 19] (fun u i W => ∃ h : Nat, h ≤ 16 ∧ i = .int .i64 h ∧ W.ownsRow wo.heap.size 155 5 u h (cellsG legE ((List.range h).map (f k))) ∧ Below wo.heap.size wo W) (fun _ i _ => 16 - (intOf i).toNat)
      case atStart => exact ⟨0, by omega, rfl, World.ownsRow_nil _ _ _ _, Below.refl _ _⟩
      case round =>
        obtain ⟨h, hh, rfl, hown, hBi⟩ := hrel
        obtain ⟨ao6, cap6, rfl⟩ := own_form hown
        have HOWN : Hid (wr.ownsRow wo.heap.size 155 5 (.slice ao6 h cap6) h (cellsG legE ((List.range h).map (f k)))) := hown
        have HBi : Hid (Below wo.heap.size wo wr) := hBi
        have HBw2 : Hid (Below w.heap.size w wr) := HBw.out.trans (hBi.mono HBw.out.size)
        obtain ⟨b0, b1, b2, b3⟩ := HXr.out.later hBi
        clear hown
        by_cases hlt16 : h < 16
        · obtain ⟨G, hG⟩ : ∃ G, G = f k h := ⟨_, rfl⟩
          have HLEG : Hid (Calls Tryz.prog 79 #[.agg #[.int .i64 (n3 : Int), .slice ao n cap, .slice ao2 n2 cap2, .slice ao3 n3 cap3], .map (some B), .agg #[.int .i64 ((k : Int) + 1), .int .i64 0, .int .i64 (h : Int)]] wr fun e w' => e = .returned (legV G) ∧ Below wr.heap.size wr w') := by
            have h := leg_any (n3 : Int) ao n cap ao2 n2 cap2 ao3 n3 cap3 Ls Hs Ts B M ((k : Int) + 1) 0 (h : Int) wr (HHW.out _ HBw2.out) (HTW.out _ HBw2.out) (HMr.out.later hBi) HPM.out HTT.out (by omega) (by omega) H36.out
            rw [HF.out, ← hG] at h
            exact h
          have HG5 : Hid ((List.range (h + 1)).map (f k) = (List.range h).map (f k) ++ [G]) := by
            show _ = _
            rw [range_succ_map, hG]
          clear hBi hG
          obtain ⟨x0, x1, ⟨x2, x3⟩, x4⟩ := G
          unfold legV at HLEG
          dsimp only at HLEG
          go_wp2_with fail
          refine HLEG.out.mono ?_
          rintro e w3 ⟨rfl, hb3⟩
          have HO3 : Hid (w3.ownsRow wo.heap.size 155 5 (.slice ao6 h cap6) h (cellsG legE ((List.range h).map (f k)))) := own_below HOWN.out hb3
          have HB3 : Hid (Below wo.heap.size wo w3) := HBi.out.trans (hb3.mono HBi.out.size)
          have hs3 : wo.heap.size ≤ w3.heap.size := HB3.out.size
          obtain ⟨j0, hj, hy0, hy1, hy2⟩ := info_parts leg_info
          clear hb3 b0 b1 b2 b3 HLEG
          go_wp2_with (at_builtin; refine wpList_append_own _ rfl _ _ 153 rfl wo.heap.size 155 j0 (.agg #[.int .i64 0, .string ByteArray.empty, .int .i64 0, .int .i64 0, .int .i64 0]) 5 48 Tryz.underlying153 hj hy0 hy1 hy2 leg_zero (by decide) _ _ _ rfl (HO3.out.alloc _) ⟨w3.heap.size, 0, none⟩ 1 1 [.int .i64 x0, .string x1, .int .i64 x2, .int .i64 x3, .int .i64 x4] rfl rfl ?m1 ?m2 ?m3 ?m4 ?m5 ?_)
          case m1 =>
            intro j u hj
            match j, hj with
            | 0, hj => simp at hj; subst hj; simp [Addr.add]
            | 1, hj => simp at hj; subst hj; simp [Addr.add]
            | 2, hj => simp at hj; subst hj; simp [Addr.add]
            | 3, hj => simp at hj; subst hj; simp [Addr.add]
            | 4, hj => simp at hj; subst hj; simp [Addr.add]
          case m2 => intro u hu; simp at hu; rcases hu with rfl | rfl | rfl | rfl | rfl <;> rfl
          case m3 => unfold maxLen; omega
          case m4 => omega
          case m5 => simp; omega
          intro v5 w5 hown5 hgrow5 _
          obtain ⟨ao7, cap7, rfl⟩ := own_form hown5
          have hb5 : Below wo.heap.size w3 w5 := ((Below.refl _ w3).alloc hs3 _).grown hgrow5 (by simp; omega) (fun g hg => (HO3.out.lt g hg).1)
          have HB5 : Hid (Below wo.heap.size wo w5) := HB3.out.trans hb5
          have HO5 : Hid (w5.ownsRow wo.heap.size 155 5 (.slice ao7 (h + 1) cap7) (h + 1) (cellsG legE ((List.range (h + 1)).map (f k)))) := by
            show World.ownsRow _ _ _ _ _ _ _
            rw [HG5.out, cellsG_app, cellsG_one]
            exact hown5
          clear hb5 hgrow5 hown5
          go_wp2
          go_roundw
          case rel => exact ⟨h + 1, by omega, by go_num, HO5.out, HB5.out⟩
          case measure => simp [intOf]; omega
        · obtain rfl : h = 16 := by omega
          have HG3 : Hid (LGs wr w1.heap.size v4 f k) := HG.out.later hBi
          have HU3 : Hid (wr.ownsRow w1.heap.size 155 5 (.slice ao6 16 cap6) 16 (cellsG legE ((List.range 16).map (f k)))) := own_mono HOWN.out HB.out.size
          have HB3 : Hid (Below w1.heap.size w1 wr) := HB.out.trans (hBi.mono HB.out.size)
          have hs3 : w1.heap.size ≤ wr.heap.size := HB3.out.size
          obtain ⟨vs, hvs, _⟩ := HG3.out
          have HVS : Hid (wr.ownsRow w1.heap.size 153 1 v4 k vs) := hvs
          obtain ⟨ao8, cap8, rfl⟩ := own_form hvs
          obtain ⟨j0, hj, hy0, hy1, hy2⟩ := info_parts legs_info
          clear hBi hvs b0 b1 b2 b3
          go_wp2_with (at_builtin; refine wpList_append_own _ rfl _ _ 78 rfl w1.heap.size 153 j0 (.slice none 0 0) 1 24 Tryz.underlying78 hj hy0 hy1 hy2 rfl (by decide) _ _ _ rfl (HVS.out.alloc _) ⟨wr.heap.size, 0, none⟩ 1 1 [.slice ao6 16 cap6] rfl rfl ?n1 ?n2 ?n3 ?n4 ?n5 ?_)
          case n1 =>
            intro j u hj
            match j, hj with
            | 0, hj => simp at hj; subst hj; simp [Addr.add]
          case n2 => intro u hu; simp at hu; subst hu; rfl
          case n3 => unfold maxLen; omega
          case n4 => omega
          case n5 => simp; omega
          intro v5 w5 hown5 hgrow5 _
          obtain ⟨ao7, cap7, rfl⟩ := own_form hown5
          have hal : Below wr.heap.size wr (wr.alloc (Obj.cells #[.slice ao6 16 cap6] 153)) := (Below.refl _ _).alloc (Nat.le_refl _) _
          have hb5 : Below w1.heap.size wr w5 := ((Below.refl _ wr).alloc hs3 _).grown hgrow5 (by simp; omega) (fun g hg => (HVS.out.lt g hg).1)
          have HB5 : Hid (Below w1.heap.size w1 w5) := HB3.out.trans hb5
          have HG5 : Hid (LGs w5 w1.heap.size (.slice ao7 (k + 1) cap7) f (k + 1)) := by
            refine LGs.push (HG3.out.later hal) (own_below HU3.out hal) hgrow5 (fun vs' h' => ?_)
            have e : vs' = vs := by
              have h2 := own_below HVS.out hal
              exact own_uniq h' h2
            rw [e]
            exact hown5
          clear hb5 hgrow5 hown5 hal
          go_wp2
          go_roundw
          case rel => exact ⟨k + 1, by omega, by go_num, HG5.out, HB5.out⟩
          case measure => simp [intOf]; omega
    · obtain rfl : k = n3 := by omega
      have dk : decide (((k : Int) + 1) ≤ (k : Int)) = false := by simp; omega
      have hle : ¬ ((k : Int) + 1 ≤ (k : Int)) := by omega
      go_wp2
      go_ret
      exact ⟨_, rfl, HG.out.mono HB1.out.size, HB1.out.trans (HB.out.mono HB1.out.size)⟩
end Go.Proofs.YtglnnoglbieaeaaGreatDoor
/- What slices.Grow of nil and slices.Concat answer at []api.Link. Written by mk/concat.py. -/
namespace Go.Proofs.YtglnnoglbieaeaaGreatDoor
open Go.RowKit
set_option linter.unusedSimpArgs false
set_option linter.unusedVariables false

set_option maxHeartbeats 2000000 in
set_option maxRecDepth 100000 in
/-- Grow of nil: a row of the call's own, with nothing in it. -/
theorem lnk_grow_nil (n : Nat) (w : World) (hn : n ≤ 1000) :
    Calls Tryz.prog 148 #[.slice none 0 0, .int .i64 n] w fun e w' => ∃ v, e = .returned v ∧ w'.ownsRow w.heap.size 105 4 v 0 [] ∧ Below w.heap.size w w' := by
  have h1 : ¬ ((n : Int) < 0) := by omega
  by_cases h0 : n = 0
  · subst h0
    go_enter Tryz.func148, Tryz.ntmps148
    go_wp2
    go_ret
    exact ⟨_, rfl, World.ownsRow_nil _ _ _ _, Below.refl _ _⟩
  · obtain ⟨i0, hi, hz0, hz1, hz2⟩ := info_parts lnk_info
    have h3 : wrap64 ((n : Int) - 0) = (n : Int) := by unfold wrap64; omega
    have h4 : (n : Int) > 0 := by omega
    have hrz : ∀ ty, (Builtin.append_ #[22, 3] ty #[.slice none 0 0, .int .i64 n]).run Tryz.prog w =
        .ok (.slice (some ⟨w.heap.size, 0, none⟩) n (grownCap w n 0 105)) (w.drew.alloc (.cells (Builtin.zeroCells (Value.agg #[.int .i64 0, .int .i64 0, .int .i64 0, .int .i64 0]).cells n ++ Builtin.zeroCells (Value.agg #[.int .i64 0, .int .i64 0, .int .i64 0, .int .i64 0]).cells (grownCap w n 0 105 - n)) 105)) := fun ty =>
      Lib.run_append_nil_zeros w 22 3 ty 105 i0 _ .i64 .i64 Tryz.underlying22 Tryz.underlying3 hi hz0 n (by omega) (by rw [hz1]; decide) (by omega) (by rw [hz2]; omega)
    have hGn : n ≤ grownCap w n 0 105 := grownCap_ge w _ _ _
    have hGm : grownCap w n 0 105 ≤ maxLen := grownCap_le_maxLen w n 0 105 (by unfold maxLen; omega)
    generalize grownCap w n 0 105 = G at *
    have HM : Hid (G ≤ maxLen) := hGm
    have hG63 : G ≤ 9223372036854775807 := by unfold maxLen at hGm; omega
    have HO : Hid ((w.drew.alloc (.cells (Builtin.zeroCells (Value.agg #[.int .i64 0, .int .i64 0, .int .i64 0, .int .i64 0]).cells n ++ Builtin.zeroCells (Value.agg #[.int .i64 0, .int .i64 0, .int .i64 0, .int .i64 0]).cells (G - n)) 105)).ownsRow w.heap.size 105 4 (.slice (some ⟨w.heap.size, 0, none⟩) 0 G) 0 []) :=
      World.ownsRow_made w.drew _ G (Nat.le_refl _) HM.out (by
        simp only [Array.size_append, size_zeroCells, lnk_zero, ← Nat.add_mul]
        congr 1
        omega)
    clear hGm
    go_enter Tryz.func148, Tryz.ntmps148
    go_wp2_with (at_builtin; refine Lib.wpList_append_run _ rfl _ _ _ _ rfl _ _ rfl rfl _ _ (hrz _) ?_)
    all_goals (go_ret; exact ⟨_, rfl, HO.out, ((Below.refl _ _).drew).alloc (Nat.le_refl _) _⟩)

/-- These slices lie one behind the other. -/
def lnkPt (w : World) (g o : Nat) (Ls : List (List ((Int × Int) × (Int × Int)))) : Prop := ∀ i (h : i < Ls.length), ∃ ao n cap, w.cell? ⟨g, o + i, none⟩ = some (.slice ao n cap) ∧ GS lnkE w (.slice ao n cap) Ls[i]
theorem lnkPt.later {w w' : World} {g o : Nat} {Ls : List (List ((Int × Int) × (Int × Int)))} (h : lnkPt w g o Ls) (hb : Below w.heap.size w w') : lnkPt w' g o Ls := fun i hi => by
  obtain ⟨ao, n, cap, h1, h2⟩ := h i hi
  exact ⟨ao, n, cap, cell_later hb h1, h2.later hb⟩
theorem lnk_flat_next {Ls : List (List ((Int × Int) × (Int × Int)))} {k : Nat} (hk : k < Ls.length) : (Ls.take (k + 1)).flatten = (Ls.take k).flatten ++ Ls[k] := by
  rw [List.take_succ_eq_append_getElem hk]
  simp only [List.flatten_append, List.flatten_cons, List.flatten_nil, List.append_nil]
theorem lnk_flat_le {Ls : List (List ((Int × Int) × (Int × Int)))} (k : Nat) : (Ls.take k).flatten.length ≤ Ls.flatten.length := by
  have : Ls.flatten = (Ls.take k).flatten ++ (Ls.drop k).flatten := by rw [← List.flatten_append, List.take_append_drop]
  rw [this, List.length_append]
  omega
/-- Appending to a row that a call owns. -/
theorem lnk_append (w : World) {ops : Array Oper} {rest : List Oper} {o : Oper} {a : Act} {Q : Exit → Act → World → Prop} (hgd : o.guard = none) (s x : Operand) (t : TypeId)
    (ho : o.op = .call { callee := .builtin .append, args := #[s, x], argTypes := #[t, t] }) (ht : Tryz.prog.underlying t = some (.slice 105)) (base : Nat)
    (v : Value) (hs : a.eval s = v) (L : List ((Int × Int) × (Int × Int))) (hown : w.ownsRow base 105 4 v L.length (cellsG lnkE L)) (u : Value) (hx : a.eval x = u) (M : List ((Int × Int) × (Int × Int))) (hM : GS lnkE w u M)
    (h100 : L.length + M.length ≤ 1000000) (hbase : base ≤ w.heap.size)
    (h : ∀ v' w', w'.ownsRow base 105 4 v' (L ++ M).length (cellsG lnkE (L ++ M)) → w.grownBy w' v.ownBlock → wpList Tryz.prog ops Q rest (a.put o.dst v') w') : wpList Tryz.prog ops Q (o :: rest) a w := by
  obtain ⟨i0, hi, hz0, hz1, hz2⟩ := info_parts lnk_info
  exact wpList_append_GS (E := lnkE) w hgd s x t 105 ho ht i0 _ 32 hi hz0 hz1 hz2 lnk_zero base v hs L hown u hx M hM (by unfold maxLen; omega) (by omega) hbase h

set_option maxHeartbeats 4000000 in
set_option maxRecDepth 100000 in
theorem lnk_concat (g o m cap : Nat) (Ls : List (List ((Int × Int) × (Int × Int)))) (w : World) (hm : Ls.length = m) (hm2 : m ≤ 1000) (hc : lnkPt w g o Ls) (hs : Ls.flatten.length ≤ 1000) :
    Calls Tryz.prog 120 #[.slice (some ⟨g, o, none⟩) m cap] w fun e w' => ∃ v, e = .returned v ∧ w'.ownsRow w.heap.size 105 4 v Ls.flatten.length (cellsG lnkE Ls.flatten) ∧ Below w.heap.size w w' := by
  have HM : Hid (Ls.length = m) := hm
  have HC : Hid (lnkPt w g o Ls) := hc
  have HS : Hid (Ls.flatten.length ≤ 1000) := hs
  obtain ⟨N, hN⟩ : ∃ N, N = Ls.flatten.length := ⟨_, rfl⟩
  have HN : Hid (N = Ls.flatten.length) := hN
  have hN2 : N ≤ 1000 := by omega
  clear hm hc hs hN
  go_enter Tryz.func120, Tryz.ntmps120
  go_upto_block 0 with fail
  go_cut [3] from 3 (fun z w' => z = .int .i64 (N : Int) ∧ w' = w)
  case first =>
    go_wp2
    go_loopw [3, 11] (fun z i wr => ∃ k : Nat, k ≤ m ∧ i = .int .i64 k ∧ z = .int .i64 ((Ls.take k).flatten.length : Int) ∧ wr = w) (fun _ i _ => m - (intOf i).toNat)
    case atStart => exact ⟨0, by omega, rfl, rfl, rfl⟩
    case round =>
      obtain ⟨k, hk, rfl, rfl, rfl⟩ := hrel
      by_cases hlt : k < m
      · have hkl : k < Ls.length := by rw [HM.out]; exact hlt
        obtain ⟨ao, n, cap2, q0, hsr⟩ := HC.out k hkl
        have HT : Hid ((Ls.take (k + 1)).flatten.length = (Ls.take k).flatten.length + n) := by
          show _ = _
          rw [lnk_flat_next hkl, List.length_append, hsr.len]
        have hb1 : (Ls.take k).flatten.length + n ≤ 1000 := by
          have h1 := lnk_flat_le (Ls := Ls) (k + 1)
          have h2 := HS.out
          have h3 := HT.out
          omega
        generalize (Ls.take k).flatten.length = z at *
        clear hsr
        go_wp2
        go_roundw
        case rel => exact ⟨k + 1, by omega, by go_num, by rw [HT.out]; go_num, by simp⟩
        case measure => simp [intOf]; omega
      · obtain rfl : k = m := by omega
        go_wp2_with fail
        go_meet
        case rel => exact ⟨by rw [← HM.out, List.take_length, HN.out], rfl⟩
  case rest =>
    obtain ⟨rfl, rfl⟩ := hcut
    go_wp2_with fail
    refine (lnk_grow_nil N _ hN2).mono ?_
    rintro e w1 ⟨v, rfl, hown, hB⟩
    have HO : Hid (w1.ownsRow wc.heap.size 105 4 v 0 []) := hown
    have HB : Hid (Below wc.heap.size wc w1) := hB
    clear hown hB
    go_wp2
    go_loopw [6, 27] (fun u i wr => ∃ k : Nat, k ≤ m ∧ i = .int .i64 k ∧ wr.ownsRow wc.heap.size 105 4 u (Ls.take k).flatten.length (cellsG lnkE (Ls.take k).flatten) ∧ Below wc.heap.size wc wr) (fun _ i _ => m - (intOf i).toNat)
    case atStart => exact ⟨0, by omega, rfl, HO.out, HB.out⟩
    case round =>
      obtain ⟨k, hk, rfl, hown, hB⟩ := hrel
      have HOW : Hid (wr.ownsRow wc.heap.size 105 4 u6 (Ls.take k).flatten.length (cellsG lnkE (Ls.take k).flatten)) := hown
      have HBW : Hid (Below wc.heap.size wc wr) := hB
      clear hown
      by_cases hlt : k < m
      · have hkl : k < Ls.length := by rw [HM.out]; exact hlt
        obtain ⟨ao, n, cap2, q0, hsr⟩ := (HC.out.later hB) k hkl
        have HSR : Hid (GS lnkE wr (.slice ao n cap2) Ls[k]) := hsr
        have HL1 : Hid ((Ls.take k).flatten.length + Ls[k].length ≤ 1000000) := by
          have h1 := lnk_flat_le (Ls := Ls) (k + 1)
          rw [lnk_flat_next hkl, List.length_append] at h1
          have h2 := HS.out
          show _ ≤ _
          omega
        clear hsr hB
        go_wp2_with (at_builtin; refine lnk_append _ rfl _ _ 22 rfl Tryz.underlying22 wc.heap.size _ rfl _ HOW.out _ rfl _ HSR.out HL1.out HBW.out.size ?_)
        intro v' w3 hown3 hgrow
        have HO5 : Hid (w3.ownsRow wc.heap.size 105 4 v' (Ls.take (k + 1)).flatten.length (cellsG lnkE (Ls.take (k + 1)).flatten)) := by
          show w3.ownsRow _ _ _ _ _ _
          rw [lnk_flat_next hkl, show ((Ls.take k).flatten ++ Ls[k]).length = (List.take k (List.map List.length Ls)).sum + Ls[k].length by simp]
          exact hown3
        have HB5 : Hid (Below wc.heap.size wc w3) := HBW.out.grown hgrow HBW.out.size (fun g hg => (HOW.out.lt g hg).1)
        clear hown3 hgrow q0
        go_wp2
        go_roundw
        case rel => exact ⟨k + 1, by omega, by go_num, HO5.out, HB5.out⟩
        case measure => simp [intOf]; omega
      · obtain rfl : k = m := by omega
        go_wp2
        go_ret
        refine ⟨_, rfl, ?_, HBW.out⟩
        have := HOW.out
        rw [← HM.out, List.take_length] at this
        exact this
end Go.Proofs.YtglnnoglbieaeaaGreatDoor
/- The struct api.Cube: its cells, slices of them, == of two, such that came in. Written by mk/struct.py. -/
namespace Go.Proofs.YtglnnoglbieaeaaGreatDoor
open Go.ChangeShapes Go.WideShapes Go.ChangeAt Go.RowKit Go.Joins
set_option linter.unusedSimpArgs false
set_option linter.unusedVariables false
set_option maxRecDepth 100000

def cuE : Enc (Int × Int) where
  c := fun x => [.int .i64 x.1, .int .i64 x.2]
  n := 2
  len := fun _ => rfl
  pos := by decide
  one := by
    intro x u hu
    simp at hu
    rcases hu with rfl | rfl <;> rfl
theorem cu_cells {w : World} {g o : Nat} {x0 : Int} {x1 : Int} (h : VAt w g o (cuE.c (x0, x1))) : w.cell? ⟨g, o, none⟩ = some (.int .i64 x0) ∧ w.cell? ⟨g, o + 1, none⟩ = some (.int .i64 x1) :=
  ⟨h 0 _ rfl, h 1 _ rfl⟩
theorem cu_at {w : World} {g o : Nat} {L : List (Int × Int)} (h : GAt cuE w g o L) {n k : Nat} (hn : L.length = n) (hk : k < n) :
    ∃ (x0 : Int) (x1 : Int) (hl : k < L.length), L[k] = (x0, x1) ∧ w.cell? ⟨g, o + k * 2, none⟩ = some (.int .i64 x0) ∧ w.cell? ⟨g, o + k * 2 + 1, none⟩ = some (.int .i64 x1) :=
  have hl : k < L.length := by omega
  ⟨_, _, hl, rfl, cu_cells (h k hl)⟩
theorem cu_new (w : World) (x0 : Int) (x1 : Int) (t : TypeId) : VAt (w.alloc (Obj.cells #[.int .i64 x0, .int .i64 x1] t)) w.heap.size 0 (cuE.c (x0, x1)) := vat_new w [.int .i64 x0, .int .i64 x1] t
theorem cu_row (w : World) (x0 : Int) (x1 : Int) (t : TypeId) : GS cuE (w.alloc (Obj.cells #[.int .i64 x0, .int .i64 x1] t)) (.slice (some ⟨w.heap.size, 0, none⟩) 1 1) [(x0, x1)] := gs_one (E := cuE) w (x0, x1) t (vs := [.int .i64 x0, .int .i64 x1]) rfl
/-- Are two the same? -/
def cuB (a b : Int × Int) : Bool := (a.1 == b.1) && ((a.2 == b.2))
theorem cuB_iff (a b : Int × Int) : cuB a b = true ↔ a = b := by
  have e : cuB a b = ((a.1 == b.1) && ((a.2 == b.2))) := rfl
  rw [e]
  simp only [Bool.and_eq_true, beq_iff_eq]
  constructor
  · intro h
    obtain ⟨a0, a1⟩ := a; obtain ⟨b0, b1⟩ := b; simp at h ⊢; simp [h]
  · intro h
    subst h
    simp
theorem cu_ways (x0 : Int) (x1 : Int) (y0 : Int) (y1 : Int) :
    ((x0 == y0) = false ∧ cuB (x0, x1) (y0, y1) = false) ∨
    ((x0 == y0) = true ∧ (x1 == y1) = false ∧ cuB (x0, x1) (y0, y1) = false) ∨
    ((x0 == y0) = true ∧ (x1 == y1) = true ∧ cuB (x0, x1) (y0, y1) = true) := by
  have e : cuB (x0, x1) (y0, y1) = ((x0 == y0) && ((x1 == y1))) := rfl
  rw [e]
  cases h0 : (x0 == y0)
  · simp
  · skip
    cases h1 : (x1 == y1)
    · simp
    · skip
      simp
set_option maxRecDepth 100000 in
theorem cu_eq (x0 : Int) (x1 : Int) (y0 : Int) (y1 : Int) (w : World) : (Op.equal 64 (.agg #[.int .i64 x0, .int .i64 x1]) (.agg #[.int .i64 y0, .int .i64 y1])).run Tryz.prog w = .ok (cuB (x0, x1) (y0, y1)) w := by
  unfold Op.equal Op.maxDepth
  rw [run_equalIn_struct w 9999 _ _ _ (by kernel_rfl) (by kernel_rfl)]
  rcases cu_ways x0 x1 y0 y1 with ⟨e0, e⟩ | ⟨e0, e1, e⟩ | ⟨e0, e1, e⟩
  all_goals
    rw [e]
    go_simp
theorem cu_info : (Tryz.prog.info? 64).map (fun i => (i.zero, i.size, i.bytes)) = some (some (.agg #[.int .i64 0, .int .i64 0]), 2, 16) := by kernel_rfl
theorem cu_zero : (Value.agg #[.int .i64 0, .int .i64 0]).cells.size = 2 := by simp [Value.cells]
/-- Cells that read as one. -/
theorem cu_open {H : Type} {enc : TypeId × Value → H} {W : World} {n : Nat} {cs : List Value} {x : DataW H × List MemPlace}
    (h : DataW.trod enc Tryz.prog W 0 (fun _ => true) true n 64 cs = some x) : ∃ y, cs = cuE.c y := by
  obtain ⟨xs, k, _, _, hl, hlen, hf⟩ := DataW.trod_struct Tryz.underlying64 h
  have hC : Tryz.prog.cellsOf 64 = 2 := by kernel_rfl
  have hT0 : Tryz.prog.cellsOf 3 = 1 := by kernel_rfl
  rw [hC] at hl
  match cs, hl with
  | [c0, c1], _ =>
    match xs, hlen with
    | [z0, z1], _ =>
      have g0 := hf 0 _ rfl
      have g1 := hf 1 _ rfl
      simp [hT0] at g0 g1
      obtain ⟨v0, e0, _, _⟩ := DataW.trod_int Tryz.underlying3 g0
      obtain ⟨v1, e1, _, _⟩ := DataW.trod_int Tryz.underlying3 g1
      simp [] at e0 e1
      refine ⟨(v0, v1), ?_⟩
      simp [cuE, e0, e1]
set_option maxRecDepth 100000 in
/-- One that came in. -/
theorem cu_of {H : Type} {enc : TypeId × Value → H} {W : World} {base : Nat} {v : Value} {d : DataW H} {p : List MemPlace}
    (hv : Value.okWide Tryz.prog W .any base 64 v) (h : DataW.Trod enc Tryz.prog W 0 (fun _ => true) true 64 v d p) : ∃ (x0 : Int) (x1 : Int), v = .agg #[.int .i64 x0, .int .i64 x1] := by
  obtain ⟨cs, rfl, hsz⟩ := okWide_struct Tryz.underlying64 hv
  obtain ⟨n, hn⟩ := h
  obtain ⟨y, e⟩ := cu_open hn
  refine ⟨y.1, y.2, ?_⟩
  simp only [Value.cells] at e
  have e2 : cs = #[.int .i64 y.1, .int .i64 y.2] := by
    rw [← Array.toArray_toList (xs := cs), e]
    rfl
  rw [e2]
end Go.Proofs.YtglnnoglbieaeaaGreatDoor
/- The struct api.Rule: its cells, slices of them, == of two, such that came in. Written by mk/struct.py. -/
namespace Go.Proofs.YtglnnoglbieaeaaGreatDoor
open Go.ChangeShapes Go.WideShapes Go.ChangeAt Go.RowKit Go.Joins
set_option linter.unusedSimpArgs false
set_option linter.unusedVariables false
set_option maxRecDepth 100000

def rlE : Enc (Ru) where
  c := fun x => [.int .i64 x.p, .int .i64 x.m, .int .i64 x.b, .int .i64 x.o, .int .i64 x.s, .int .i64 x.v]
  n := 6
  len := fun _ => rfl
  pos := by decide
  one := by
    intro x u hu
    simp at hu
    rcases hu with rfl | rfl | rfl | rfl | rfl | rfl <;> rfl
theorem rl_cells {w : World} {g o : Nat} {x0 : Int} {x1 : Int} {x2 : Int} {x3 : Int} {x4 : Int} {x5 : Int} (h : VAt w g o (rlE.c ⟨x0, x1, x2, x3, x4, x5⟩)) : w.cell? ⟨g, o, none⟩ = some (.int .i64 x0) ∧ w.cell? ⟨g, o + 1, none⟩ = some (.int .i64 x1) ∧ w.cell? ⟨g, o + 2, none⟩ = some (.int .i64 x2) ∧ w.cell? ⟨g, o + 3, none⟩ = some (.int .i64 x3) ∧ w.cell? ⟨g, o + 4, none⟩ = some (.int .i64 x4) ∧ w.cell? ⟨g, o + 5, none⟩ = some (.int .i64 x5) :=
  ⟨h 0 _ rfl, h 1 _ rfl, h 2 _ rfl, h 3 _ rfl, h 4 _ rfl, h 5 _ rfl⟩
theorem rl_at {w : World} {g o : Nat} {L : List (Ru)} (h : GAt rlE w g o L) {n k : Nat} (hn : L.length = n) (hk : k < n) :
    ∃ (x0 : Int) (x1 : Int) (x2 : Int) (x3 : Int) (x4 : Int) (x5 : Int) (hl : k < L.length), L[k] = ⟨x0, x1, x2, x3, x4, x5⟩ ∧ w.cell? ⟨g, o + k * 6, none⟩ = some (.int .i64 x0) ∧ w.cell? ⟨g, o + k * 6 + 1, none⟩ = some (.int .i64 x1) ∧ w.cell? ⟨g, o + k * 6 + 2, none⟩ = some (.int .i64 x2) ∧ w.cell? ⟨g, o + k * 6 + 3, none⟩ = some (.int .i64 x3) ∧ w.cell? ⟨g, o + k * 6 + 4, none⟩ = some (.int .i64 x4) ∧ w.cell? ⟨g, o + k * 6 + 5, none⟩ = some (.int .i64 x5) :=
  have hl : k < L.length := by omega
  ⟨_, _, _, _, _, _, hl, rfl, rl_cells (h k hl)⟩
theorem rl_new (w : World) (x0 : Int) (x1 : Int) (x2 : Int) (x3 : Int) (x4 : Int) (x5 : Int) (t : TypeId) : VAt (w.alloc (Obj.cells #[.int .i64 x0, .int .i64 x1, .int .i64 x2, .int .i64 x3, .int .i64 x4, .int .i64 x5] t)) w.heap.size 0 (rlE.c ⟨x0, x1, x2, x3, x4, x5⟩) := vat_new w [.int .i64 x0, .int .i64 x1, .int .i64 x2, .int .i64 x3, .int .i64 x4, .int .i64 x5] t
theorem rl_row (w : World) (x0 : Int) (x1 : Int) (x2 : Int) (x3 : Int) (x4 : Int) (x5 : Int) (t : TypeId) : GS rlE (w.alloc (Obj.cells #[.int .i64 x0, .int .i64 x1, .int .i64 x2, .int .i64 x3, .int .i64 x4, .int .i64 x5] t)) (.slice (some ⟨w.heap.size, 0, none⟩) 1 1) [⟨x0, x1, x2, x3, x4, x5⟩] := gs_one (E := rlE) w ⟨x0, x1, x2, x3, x4, x5⟩ t (vs := [.int .i64 x0, .int .i64 x1, .int .i64 x2, .int .i64 x3, .int .i64 x4, .int .i64 x5]) rfl
/-- Are two the same? -/
def rlB (a b : Ru) : Bool := (a.p == b.p) && ((a.m == b.m) && ((a.b == b.b) && ((a.o == b.o) && ((a.s == b.s) && ((a.v == b.v))))))
theorem rlB_iff (a b : Ru) : rlB a b = true ↔ a = b := by
  have e : rlB a b = ((a.p == b.p) && ((a.m == b.m) && ((a.b == b.b) && ((a.o == b.o) && ((a.s == b.s) && ((a.v == b.v))))))) := rfl
  rw [e]
  simp only [Bool.and_eq_true, beq_iff_eq]
  constructor
  · intro h
    obtain ⟨a0, a1, a2, a3, a4, a5⟩ := a; obtain ⟨b0, b1, b2, b3, b4, b5⟩ := b; simp at h ⊢; simp [h]
  · intro h
    subst h
    simp
theorem rl_ways (x0 : Int) (x1 : Int) (x2 : Int) (x3 : Int) (x4 : Int) (x5 : Int) (y0 : Int) (y1 : Int) (y2 : Int) (y3 : Int) (y4 : Int) (y5 : Int) :
    ((x0 == y0) = false ∧ rlB ⟨x0, x1, x2, x3, x4, x5⟩ ⟨y0, y1, y2, y3, y4, y5⟩ = false) ∨
    ((x0 == y0) = true ∧ (x1 == y1) = false ∧ rlB ⟨x0, x1, x2, x3, x4, x5⟩ ⟨y0, y1, y2, y3, y4, y5⟩ = false) ∨
    ((x0 == y0) = true ∧ (x1 == y1) = true ∧ (x2 == y2) = false ∧ rlB ⟨x0, x1, x2, x3, x4, x5⟩ ⟨y0, y1, y2, y3, y4, y5⟩ = false) ∨
    ((x0 == y0) = true ∧ (x1 == y1) = true ∧ (x2 == y2) = true ∧ (x3 == y3) = false ∧ rlB ⟨x0, x1, x2, x3, x4, x5⟩ ⟨y0, y1, y2, y3, y4, y5⟩ = false) ∨
    ((x0 == y0) = true ∧ (x1 == y1) = true ∧ (x2 == y2) = true ∧ (x3 == y3) = true ∧ (x4 == y4) = false ∧ rlB ⟨x0, x1, x2, x3, x4, x5⟩ ⟨y0, y1, y2, y3, y4, y5⟩ = false) ∨
    ((x0 == y0) = true ∧ (x1 == y1) = true ∧ (x2 == y2) = true ∧ (x3 == y3) = true ∧ (x4 == y4) = true ∧ (x5 == y5) = false ∧ rlB ⟨x0, x1, x2, x3, x4, x5⟩ ⟨y0, y1, y2, y3, y4, y5⟩ = false) ∨
    ((x0 == y0) = true ∧ (x1 == y1) = true ∧ (x2 == y2) = true ∧ (x3 == y3) = true ∧ (x4 == y4) = true ∧ (x5 == y5) = true ∧ rlB ⟨x0, x1, x2, x3, x4, x5⟩ ⟨y0, y1, y2, y3, y4, y5⟩ = true) := by
  have e : rlB ⟨x0, x1, x2, x3, x4, x5⟩ ⟨y0, y1, y2, y3, y4, y5⟩ = ((x0 == y0) && ((x1 == y1) && ((x2 == y2) && ((x3 == y3) && ((x4 == y4) && ((x5 == y5))))))) := rfl
  rw [e]
  cases h0 : (x0 == y0)
  · simp
  · skip
    cases h1 : (x1 == y1)
    · simp
    · skip
      cases h2 : (x2 == y2)
      · simp
      · skip
        cases h3 : (x3 == y3)
        · simp
        · skip
          cases h4 : (x4 == y4)
          · simp
          · skip
            cases h5 : (x5 == y5)
            · simp
            · skip
              simp
set_option maxRecDepth 100000 in
theorem rl_eq (x0 : Int) (x1 : Int) (x2 : Int) (x3 : Int) (x4 : Int) (x5 : Int) (y0 : Int) (y1 : Int) (y2 : Int) (y3 : Int) (y4 : Int) (y5 : Int) (w : World) : (Op.equal 66 (.agg #[.int .i64 x0, .int .i64 x1, .int .i64 x2, .int .i64 x3, .int .i64 x4, .int .i64 x5]) (.agg #[.int .i64 y0, .int .i64 y1, .int .i64 y2, .int .i64 y3, .int .i64 y4, .int .i64 y5])).run Tryz.prog w = .ok (rlB ⟨x0, x1, x2, x3, x4, x5⟩ ⟨y0, y1, y2, y3, y4, y5⟩) w := by
  unfold Op.equal Op.maxDepth
  rw [run_equalIn_struct w 9999 _ _ _ (by kernel_rfl) (by kernel_rfl)]
  rcases rl_ways x0 x1 x2 x3 x4 x5 y0 y1 y2 y3 y4 y5 with ⟨e0, e⟩ | ⟨e0, e1, e⟩ | ⟨e0, e1, e2, e⟩ | ⟨e0, e1, e2, e3, e⟩ | ⟨e0, e1, e2, e3, e4, e⟩ | ⟨e0, e1, e2, e3, e4, e5, e⟩ | ⟨e0, e1, e2, e3, e4, e5, e⟩
  all_goals
    rw [e]
    go_simp
theorem rl_info : (Tryz.prog.info? 66).map (fun i => (i.zero, i.size, i.bytes)) = some (some (.agg #[.int .i64 0, .int .i64 0, .int .i64 0, .int .i64 0, .int .i64 0, .int .i64 0]), 6, 48) := by kernel_rfl
theorem rl_zero : (Value.agg #[.int .i64 0, .int .i64 0, .int .i64 0, .int .i64 0, .int .i64 0, .int .i64 0]).cells.size = 6 := by simp [Value.cells]
/-- Cells that read as one. -/
theorem rl_open {H : Type} {enc : TypeId × Value → H} {W : World} {n : Nat} {cs : List Value} {x : DataW H × List MemPlace}
    (h : DataW.trod enc Tryz.prog W 0 (fun _ => true) true n 66 cs = some x) : ∃ y, cs = rlE.c y := by
  obtain ⟨xs, k, _, _, hl, hlen, hf⟩ := DataW.trod_struct Tryz.underlying66 h
  have hC : Tryz.prog.cellsOf 66 = 6 := by kernel_rfl
  have hT0 : Tryz.prog.cellsOf 3 = 1 := by kernel_rfl
  have hT1 : Tryz.prog.cellsOf 64 = 2 := by kernel_rfl
  rw [hC] at hl
  match cs, hl with
  | [c0, c1, c2, c3, c4, c5], _ =>
    match xs, hlen with
    | [z0, z1, z2, z3, z4], _ =>
      have g0 := hf 0 _ rfl
      have g1 := hf 1 _ rfl
      have g2 := hf 2 _ rfl
      have g3 := hf 3 _ rfl
      have g4 := hf 4 _ rfl
      simp [hT0, hT1] at g0 g1 g2 g3 g4
      obtain ⟨v0, e0, _, _⟩ := DataW.trod_int Tryz.underlying3 g0
      obtain ⟨s1, e1⟩ := cu_open g1
      obtain ⟨v3, e2, _, _⟩ := DataW.trod_int Tryz.underlying3 g2
      obtain ⟨v4, e3, _, _⟩ := DataW.trod_int Tryz.underlying3 g3
      obtain ⟨v5, e4, _, _⟩ := DataW.trod_int Tryz.underlying3 g4
      simp [cuE] at e0 e1 e2 e3 e4
      refine ⟨⟨v0, s1.1, s1.2, v3, v4, v5⟩, ?_⟩
      simp [rlE, e0, e1, e2, e3, e4]
set_option maxRecDepth 100000 in
/-- One that came in. -/
theorem rl_of {H : Type} {enc : TypeId × Value → H} {W : World} {base : Nat} {v : Value} {d : DataW H} {p : List MemPlace}
    (hv : Value.okWide Tryz.prog W .any base 66 v) (h : DataW.Trod enc Tryz.prog W 0 (fun _ => true) true 66 v d p) : ∃ (x0 : Int) (x1 : Int) (x2 : Int) (x3 : Int) (x4 : Int) (x5 : Int), v = .agg #[.int .i64 x0, .int .i64 x1, .int .i64 x2, .int .i64 x3, .int .i64 x4, .int .i64 x5] := by
  obtain ⟨cs, rfl, hsz⟩ := okWide_struct Tryz.underlying66 hv
  obtain ⟨n, hn⟩ := h
  obtain ⟨y, e⟩ := rl_open hn
  refine ⟨y.p, y.m, y.b, y.o, y.s, y.v, ?_⟩
  simp only [Value.cells] at e
  have e2 : cs = #[.int .i64 y.p, .int .i64 y.m, .int .i64 y.b, .int .i64 y.o, .int .i64 y.s, .int .i64 y.v] := by
    rw [← Array.toArray_toList (xs := cs), e]
    rfl
  rw [e2]
/-- A slice of them that came in. -/
theorem rls_of {H : Type} {enc : TypeId × Value → H} {W : World} {base : Nat} {v : Value} {d : DataW H} {p : List MemPlace}
    (hv : Value.okWide Tryz.prog W .any base 62 v) (h : DataW.Trod enc Tryz.prog W 0 (fun _ => true) true 62 v d p) : ∃ L, GS rlE W v L :=
  gs_of (E := rlE) 62 66 Tryz.underlying62 (by kernel_rfl) ⟨0, 0, 0, 0, 0, 0⟩ (fun _ _ _ h => rl_open h) hv h
end Go.Proofs.YtglnnoglbieaeaaGreatDoor
/- The struct api.Op: its cells, slices of them, == of two, such that came in. Written by mk/struct.py. -/
namespace Go.Proofs.YtglnnoglbieaeaaGreatDoor
open Go.ChangeShapes Go.WideShapes Go.ChangeAt Go.RowKit Go.Joins
set_option linter.unusedSimpArgs false
set_option linter.unusedVariables false
set_option maxRecDepth 100000

def opE : Enc (Op8) where
  c := fun x => [.int .i64 x.w, .bool x.a, .int .i64 x.r.p, .int .i64 x.r.m, .int .i64 x.r.b, .int .i64 x.r.o, .int .i64 x.r.s, .int .i64 x.r.v]
  n := 8
  len := fun _ => rfl
  pos := by decide
  one := by
    intro x u hu
    simp at hu
    rcases hu with rfl | rfl | rfl | rfl | rfl | rfl | rfl | rfl <;> rfl
theorem op_cells {w : World} {g o : Nat} {x0 : Int} {x1 : Bool} {x2 : Int} {x3 : Int} {x4 : Int} {x5 : Int} {x6 : Int} {x7 : Int} (h : VAt w g o (opE.c ⟨x0, x1, ⟨x2, x3, x4, x5, x6, x7⟩⟩)) : w.cell? ⟨g, o, none⟩ = some (.int .i64 x0) ∧ w.cell? ⟨g, o + 1, none⟩ = some (.bool x1) ∧ w.cell? ⟨g, o + 2, none⟩ = some (.int .i64 x2) ∧ w.cell? ⟨g, o + 3, none⟩ = some (.int .i64 x3) ∧ w.cell? ⟨g, o + 4, none⟩ = some (.int .i64 x4) ∧ w.cell? ⟨g, o + 5, none⟩ = some (.int .i64 x5) ∧ w.cell? ⟨g, o + 6, none⟩ = some (.int .i64 x6) ∧ w.cell? ⟨g, o + 7, none⟩ = some (.int .i64 x7) :=
  ⟨h 0 _ rfl, h 1 _ rfl, h 2 _ rfl, h 3 _ rfl, h 4 _ rfl, h 5 _ rfl, h 6 _ rfl, h 7 _ rfl⟩
theorem op_at {w : World} {g o : Nat} {L : List (Op8)} (h : GAt opE w g o L) {n k : Nat} (hn : L.length = n) (hk : k < n) :
    ∃ (x0 : Int) (x1 : Bool) (x2 : Int) (x3 : Int) (x4 : Int) (x5 : Int) (x6 : Int) (x7 : Int) (hl : k < L.length), L[k] = ⟨x0, x1, ⟨x2, x3, x4, x5, x6, x7⟩⟩ ∧ w.cell? ⟨g, o + k * 8, none⟩ = some (.int .i64 x0) ∧ w.cell? ⟨g, o + k * 8 + 1, none⟩ = some (.bool x1) ∧ w.cell? ⟨g, o + k * 8 + 2, none⟩ = some (.int .i64 x2) ∧ w.cell? ⟨g, o + k * 8 + 3, none⟩ = some (.int .i64 x3) ∧ w.cell? ⟨g, o + k * 8 + 4, none⟩ = some (.int .i64 x4) ∧ w.cell? ⟨g, o + k * 8 + 5, none⟩ = some (.int .i64 x5) ∧ w.cell? ⟨g, o + k * 8 + 6, none⟩ = some (.int .i64 x6) ∧ w.cell? ⟨g, o + k * 8 + 7, none⟩ = some (.int .i64 x7) :=
  have hl : k < L.length := by omega
  ⟨_, _, _, _, _, _, _, _, hl, rfl, op_cells (h k hl)⟩
theorem op_new (w : World) (x0 : Int) (x1 : Bool) (x2 : Int) (x3 : Int) (x4 : Int) (x5 : Int) (x6 : Int) (x7 : Int) (t : TypeId) : VAt (w.alloc (Obj.cells #[.int .i64 x0, .bool x1, .int .i64 x2, .int .i64 x3, .int .i64 x4, .int .i64 x5, .int .i64 x6, .int .i64 x7] t)) w.heap.size 0 (opE.c ⟨x0, x1, ⟨x2, x3, x4, x5, x6, x7⟩⟩) := vat_new w [.int .i64 x0, .bool x1, .int .i64 x2, .int .i64 x3, .int .i64 x4, .int .i64 x5, .int .i64 x6, .int .i64 x7] t
theorem op_row (w : World) (x0 : Int) (x1 : Bool) (x2 : Int) (x3 : Int) (x4 : Int) (x5 : Int) (x6 : Int) (x7 : Int) (t : TypeId) : GS opE (w.alloc (Obj.cells #[.int .i64 x0, .bool x1, .int .i64 x2, .int .i64 x3, .int .i64 x4, .int .i64 x5, .int .i64 x6, .int .i64 x7] t)) (.slice (some ⟨w.heap.size, 0, none⟩) 1 1) [⟨x0, x1, ⟨x2, x3, x4, x5, x6, x7⟩⟩] := gs_one (E := opE) w ⟨x0, x1, ⟨x2, x3, x4, x5, x6, x7⟩⟩ t (vs := [.int .i64 x0, .bool x1, .int .i64 x2, .int .i64 x3, .int .i64 x4, .int .i64 x5, .int .i64 x6, .int .i64 x7]) rfl
/-- Are two the same? -/
def opB (a b : Op8) : Bool := (a.w == b.w) && ((a.a == b.a) && ((a.r.p == b.r.p) && ((a.r.m == b.r.m) && ((a.r.b == b.r.b) && ((a.r.o == b.r.o) && ((a.r.s == b.r.s) && ((a.r.v == b.r.v))))))))
theorem opB_iff (a b : Op8) : opB a b = true ↔ a = b := by
  have e : opB a b = ((a.w == b.w) && ((a.a == b.a) && ((a.r.p == b.r.p) && ((a.r.m == b.r.m) && ((a.r.b == b.r.b) && ((a.r.o == b.r.o) && ((a.r.s == b.r.s) && ((a.r.v == b.r.v))))))))) := rfl
  rw [e]
  simp only [Bool.and_eq_true, beq_iff_eq]
  constructor
  · intro h
    obtain ⟨a0, a1, ⟨a2, a3, a4, a5, a6, a7⟩⟩ := a; obtain ⟨b0, b1, ⟨b2, b3, b4, b5, b6, b7⟩⟩ := b; simp at h ⊢; simp [h]
  · intro h
    subst h
    simp
theorem op_ways (x0 : Int) (x1 : Bool) (x2 : Int) (x3 : Int) (x4 : Int) (x5 : Int) (x6 : Int) (x7 : Int) (y0 : Int) (y1 : Bool) (y2 : Int) (y3 : Int) (y4 : Int) (y5 : Int) (y6 : Int) (y7 : Int) :
    ((x0 == y0) = false ∧ opB ⟨x0, x1, ⟨x2, x3, x4, x5, x6, x7⟩⟩ ⟨y0, y1, ⟨y2, y3, y4, y5, y6, y7⟩⟩ = false) ∨
    ((x0 == y0) = true ∧ (x1 == y1) = false ∧ opB ⟨x0, x1, ⟨x2, x3, x4, x5, x6, x7⟩⟩ ⟨y0, y1, ⟨y2, y3, y4, y5, y6, y7⟩⟩ = false) ∨
    ((x0 == y0) = true ∧ (x1 == y1) = true ∧ (x2 == y2) = false ∧ opB ⟨x0, x1, ⟨x2, x3, x4, x5, x6, x7⟩⟩ ⟨y0, y1, ⟨y2, y3, y4, y5, y6, y7⟩⟩ = false) ∨
    ((x0 == y0) = true ∧ (x1 == y1) = true ∧ (x2 == y2) = true ∧ (x3 == y3) = false ∧ opB ⟨x0, x1, ⟨x2, x3, x4, x5, x6, x7⟩⟩ ⟨y0, y1, ⟨y2, y3, y4, y5, y6, y7⟩⟩ = false) ∨
    ((x0 == y0) = true ∧ (x1 == y1) = true ∧ (x2 == y2) = true ∧ (x3 == y3) = true ∧ (x4 == y4) = false ∧ opB ⟨x0, x1, ⟨x2, x3, x4, x5, x6, x7⟩⟩ ⟨y0, y1, ⟨y2, y3, y4, y5, y6, y7⟩⟩ = false) ∨
    ((x0 == y0) = true ∧ (x1 == y1) = true ∧ (x2 == y2) = true ∧ (x3 == y3) = true ∧ (x4 == y4) = true ∧ (x5 == y5) = false ∧ opB ⟨x0, x1, ⟨x2, x3, x4, x5, x6, x7⟩⟩ ⟨y0, y1, ⟨y2, y3, y4, y5, y6, y7⟩⟩ = false) ∨
    ((x0 == y0) = true ∧ (x1 == y1) = true ∧ (x2 == y2) = true ∧ (x3 == y3) = true ∧ (x4 == y4) = true ∧ (x5 == y5) = true ∧ (x6 == y6) = false ∧ opB ⟨x0, x1, ⟨x2, x3, x4, x5, x6, x7⟩⟩ ⟨y0, y1, ⟨y2, y3, y4, y5, y6, y7⟩⟩ = false) ∨
    ((x0 == y0) = true ∧ (x1 == y1) = true ∧ (x2 == y2) = true ∧ (x3 == y3) = true ∧ (x4 == y4) = true ∧ (x5 == y5) = true ∧ (x6 == y6) = true ∧ (x7 == y7) = false ∧ opB ⟨x0, x1, ⟨x2, x3, x4, x5, x6, x7⟩⟩ ⟨y0, y1, ⟨y2, y3, y4, y5, y6, y7⟩⟩ = false) ∨
    ((x0 == y0) = true ∧ (x1 == y1) = true ∧ (x2 == y2) = true ∧ (x3 == y3) = true ∧ (x4 == y4) = true ∧ (x5 == y5) = true ∧ (x6 == y6) = true ∧ (x7 == y7) = true ∧ opB ⟨x0, x1, ⟨x2, x3, x4, x5, x6, x7⟩⟩ ⟨y0, y1, ⟨y2, y3, y4, y5, y6, y7⟩⟩ = true) := by
  have e : opB ⟨x0, x1, ⟨x2, x3, x4, x5, x6, x7⟩⟩ ⟨y0, y1, ⟨y2, y3, y4, y5, y6, y7⟩⟩ = ((x0 == y0) && ((x1 == y1) && ((x2 == y2) && ((x3 == y3) && ((x4 == y4) && ((x5 == y5) && ((x6 == y6) && ((x7 == y7))))))))) := rfl
  rw [e]
  cases h0 : (x0 == y0)
  · simp
  · skip
    cases h1 : (x1 == y1)
    · simp
    · skip
      cases h2 : (x2 == y2)
      · simp
      · skip
        cases h3 : (x3 == y3)
        · simp
        · skip
          cases h4 : (x4 == y4)
          · simp
          · skip
            cases h5 : (x5 == y5)
            · simp
            · skip
              cases h6 : (x6 == y6)
              · simp
              · skip
                cases h7 : (x7 == y7)
                · simp
                · skip
                  simp
set_option maxRecDepth 100000 in
theorem op_eq (x0 : Int) (x1 : Bool) (x2 : Int) (x3 : Int) (x4 : Int) (x5 : Int) (x6 : Int) (x7 : Int) (y0 : Int) (y1 : Bool) (y2 : Int) (y3 : Int) (y4 : Int) (y5 : Int) (y6 : Int) (y7 : Int) (w : World) : (Op.equal 68 (.agg #[.int .i64 x0, .bool x1, .int .i64 x2, .int .i64 x3, .int .i64 x4, .int .i64 x5, .int .i64 x6, .int .i64 x7]) (.agg #[.int .i64 y0, .bool y1, .int .i64 y2, .int .i64 y3, .int .i64 y4, .int .i64 y5, .int .i64 y6, .int .i64 y7])).run Tryz.prog w = .ok (opB ⟨x0, x1, ⟨x2, x3, x4, x5, x6, x7⟩⟩ ⟨y0, y1, ⟨y2, y3, y4, y5, y6, y7⟩⟩) w := by
  unfold Op.equal Op.maxDepth
  rw [run_equalIn_struct w 9999 _ _ _ (by kernel_rfl) (by kernel_rfl)]
  rcases op_ways x0 x1 x2 x3 x4 x5 x6 x7 y0 y1 y2 y3 y4 y5 y6 y7 with ⟨e0, e⟩ | ⟨e0, e1, e⟩ | ⟨e0, e1, e2, e⟩ | ⟨e0, e1, e2, e3, e⟩ | ⟨e0, e1, e2, e3, e4, e⟩ | ⟨e0, e1, e2, e3, e4, e5, e⟩ | ⟨e0, e1, e2, e3, e4, e5, e6, e⟩ | ⟨e0, e1, e2, e3, e4, e5, e6, e7, e⟩ | ⟨e0, e1, e2, e3, e4, e5, e6, e7, e⟩
  all_goals
    rw [e]
    go_simp
theorem op_info : (Tryz.prog.info? 68).map (fun i => (i.zero, i.size, i.bytes)) = some (some (.agg #[.int .i64 0, .bool false, .int .i64 0, .int .i64 0, .int .i64 0, .int .i64 0, .int .i64 0, .int .i64 0]), 8, 64) := by kernel_rfl
theorem op_zero : (Value.agg #[.int .i64 0, .bool false, .int .i64 0, .int .i64 0, .int .i64 0, .int .i64 0, .int .i64 0, .int .i64 0]).cells.size = 8 := by simp [Value.cells]
/-- Cells that read as one. -/
theorem op_open {H : Type} {enc : TypeId × Value → H} {W : World} {n : Nat} {cs : List Value} {x : DataW H × List MemPlace}
    (h : DataW.trod enc Tryz.prog W 0 (fun _ => true) true n 68 cs = some x) : ∃ y, cs = opE.c y := by
  obtain ⟨xs, k, _, _, hl, hlen, hf⟩ := DataW.trod_struct Tryz.underlying68 h
  have hC : Tryz.prog.cellsOf 68 = 8 := by kernel_rfl
  have hT0 : Tryz.prog.cellsOf 3 = 1 := by kernel_rfl
  have hT1 : Tryz.prog.cellsOf 4 = 1 := by kernel_rfl
  have hT2 : Tryz.prog.cellsOf 66 = 6 := by kernel_rfl
  rw [hC] at hl
  match cs, hl with
  | [c0, c1, c2, c3, c4, c5, c6, c7], _ =>
    match xs, hlen with
    | [z0, z1, z2], _ =>
      have g0 := hf 0 _ rfl
      have g1 := hf 1 _ rfl
      have g2 := hf 2 _ rfl
      simp [hT0, hT1, hT2] at g0 g1 g2
      obtain ⟨v0, e0, _, _⟩ := DataW.trod_int Tryz.underlying3 g0
      obtain ⟨v1, e1, _⟩ := DataW.trod_bool Tryz.underlying4 g1
      obtain ⟨s2, e2⟩ := rl_open g2
      simp [rlE] at e0 e1 e2
      refine ⟨⟨v0, v1, ⟨s2.p, s2.m, s2.b, s2.o, s2.s, s2.v⟩⟩, ?_⟩
      simp [opE, e0, e1, e2]
set_option maxRecDepth 100000 in
/-- One that came in. -/
theorem op_of {H : Type} {enc : TypeId × Value → H} {W : World} {base : Nat} {v : Value} {d : DataW H} {p : List MemPlace}
    (hv : Value.okWide Tryz.prog W .any base 68 v) (h : DataW.Trod enc Tryz.prog W 0 (fun _ => true) true 68 v d p) : ∃ (x0 : Int) (x1 : Bool) (x2 : Int) (x3 : Int) (x4 : Int) (x5 : Int) (x6 : Int) (x7 : Int), v = .agg #[.int .i64 x0, .bool x1, .int .i64 x2, .int .i64 x3, .int .i64 x4, .int .i64 x5, .int .i64 x6, .int .i64 x7] := by
  obtain ⟨cs, rfl, hsz⟩ := okWide_struct Tryz.underlying68 hv
  obtain ⟨n, hn⟩ := h
  obtain ⟨y, e⟩ := op_open hn
  refine ⟨y.w, y.a, y.r.p, y.r.m, y.r.b, y.r.o, y.r.s, y.r.v, ?_⟩
  simp only [Value.cells] at e
  have e2 : cs = #[.int .i64 y.w, .bool y.a, .int .i64 y.r.p, .int .i64 y.r.m, .int .i64 y.r.b, .int .i64 y.r.o, .int .i64 y.r.s, .int .i64 y.r.v] := by
    rw [← Array.toArray_toList (xs := cs), e]
    rfl
  rw [e2]
/-- A slice of them that came in. -/
theorem ops_of {H : Type} {enc : TypeId × Value → H} {W : World} {base : Nat} {v : Value} {d : DataW H} {p : List MemPlace}
    (hv : Value.okWide Tryz.prog W .any base 29 v) (h : DataW.Trod enc Tryz.prog W 0 (fun _ => true) true 29 v d p) : ∃ L, GS opE W v L :=
  gs_of (E := opE) 29 68 Tryz.underlying29 (by kernel_rfl) ⟨0, false, ⟨0, 0, 0, 0, 0, 0⟩⟩ (fun _ _ _ h => op_open h) hv h
end Go.Proofs.YtglnnoglbieaeaaGreatDoor
