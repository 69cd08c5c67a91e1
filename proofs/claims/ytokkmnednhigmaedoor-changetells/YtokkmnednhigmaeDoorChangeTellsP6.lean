/- Contracts and facts on the way to ChangeTells, joined into one text: TableBey, TableOps, TableDiff, TableDiff2, RuleTwo, TableSame, SmNet, ChangeMath. -/
import Derived.Test.YtokkmnednhigmaeDoorChangeTellsP5
import Derived.Test.YtokkmnednhigmaeDoorChangeTellsP1
import Derived.Test.YtokkmnednhigmaeDoorChangeTellsP4
import Derived.Test.YtokkmnednhigmaeDoorChangeTellsP2
/- What slices.Contains, slices.DeleteFunc and table.beyond answer at tables. -/
namespace Go.Proofs.YtokkmnednhigmaeDoor
open Go.RowKit
set_option linter.unusedSimpArgs false
set_option linter.unusedVariables false

set_option maxHeartbeats 2000000 in
set_option maxRecDepth 100000 in
theorem contains_any (ao : Option Addr) (n cap : Nat) (p m b o s v : Int) (L : List Ru) (w : World) (hs : SR w (.slice ao n cap) L) :
    Calls Tryd.prog 72 #[.slice ao n cap, .agg #[.int .i64 p, .int .i64 m, .int .i64 b, .int .i64 o, .int .i64 s, .int .i64 v]] w fun e w' => e = .returned (.bool (inB L ⟨p, m, b, o, s, v⟩)) ∧ Below w.heap.size w w' := by
  obtain ⟨ao', n', cap', e, hn, hn2, hn3, ha⟩ := hs.form
  cases e
  have HN : Hid (L.length = n) := hn
  have hB0 : Below w.heap.size w (w.alloc (Obj.cells #[Value.int IntKind.i64 p, Value.int IntKind.i64 m, Value.int IntKind.i64 b, Value.int IntKind.i64 o, Value.int IntKind.i64 s, Value.int IntKind.i64 v] 51)) := (Below.refl _ _).alloc (Nat.le_refl _) _
  have HA : Hid (0 < n → ∃ g o, ao = some ⟨g, o, none⟩ ∧ RAt w g o L ∧ cap ≤ maxLen) := ha
  have HB0 : Hid (Below w.heap.size w (w.alloc (Obj.cells #[Value.int IntKind.i64 p, Value.int IntKind.i64 m, Value.int IntKind.i64 b, Value.int IntKind.i64 o, Value.int IntKind.i64 s, Value.int IntKind.i64 v] 51))) := hB0
  have HM : Hid (n ≤ maxLen) := hn2
  have HX : Hid (inB L ⟨p, m, b, o, s, v⟩ = decide (0 ≤ ixP (fun a => eqR ⟨p, m, b, o, s, v⟩ a) L)) := (ixP_any L (fun a => eqR ⟨p, m, b, o, s, v⟩ a)).symm
  rw [HX.out]
  clear hn ha hs hn2 hB0 HX
  obtain ⟨x, hx⟩ : ∃ x, x = ixP (fun a => eqR ⟨p, m, b, o, s, v⟩ a) L := ⟨_, rfl⟩
  rw [← hx]
  have HX : Hid (x = ixP (fun a => eqR ⟨p, m, b, o, s, v⟩ a) L) := hx
  clear hx
  go_enter Tryd.func72, Tryd.ntmps72
  go_wp2_with fail
  refine (index_any ao n cap p m b o s v L _ HN.out HM.out (fun h => by obtain ⟨g, o, e1, e2, e3⟩ := HA.out h; exact ⟨g, o, e1, e2.later HB0.out, e3⟩)).mono ?_
  rintro e w1 ⟨rfl, hb1⟩
  rw [← HX.out]
  have HB1 : Hid (Below w.heap.size w w1) := HB0.out.trans (hb1.mono HB0.out.size)
  clear hb1
  go_wp2
  go_ret
  exact ⟨rfl, HB1.out⟩

set_option maxHeartbeats 1000000 in
set_option maxRecDepth 100000 in
theorem beyond1_any (p m b o s v : Int) (ao : Option Addr) (n cap : Nat) (L : List Ru) (B : Nat) (w : World) (hc : w.cell? ⟨B, 0, none⟩ = some (.slice ao n cap)) (hs : SR w (.slice ao n cap) L) :
    Calls Tryd.prog 71 #[.agg #[.int .i64 p, .int .i64 m, .int .i64 b, .int .i64 o, .int .i64 s, .int .i64 v], .pointer (some ⟨B, 0, none⟩)] w fun e w' => e = .returned (.bool (inB L ⟨p, m, b, o, s, v⟩)) ∧ Below w.heap.size w w' := by
  have hlt : B < w.heap.size := World.block_lt_of_cell? _ _ hc
  have hB0 : Below w.heap.size w (w.alloc (Obj.cells #[Value.int IntKind.i64 p, Value.int IntKind.i64 m, Value.int IntKind.i64 b, Value.int IntKind.i64 o, Value.int IntKind.i64 s, Value.int IntKind.i64 v] 51)) := (Below.refl _ _).alloc (Nat.le_refl _) _
  have HS0 : Hid (SR (w.alloc (Obj.cells #[Value.int IntKind.i64 p, Value.int IntKind.i64 m, Value.int IntKind.i64 b, Value.int IntKind.i64 o, Value.int IntKind.i64 s, Value.int IntKind.i64 v] 51)) (.slice ao n cap) L) := hs.later hB0
  clear hs hB0
  go_enter Tryd.func71, Tryd.ntmps71
  go_wp2_with fail
  refine (contains_any ao n cap p m b o s v L _ HS0.out).mono ?_
  rintro e w1 ⟨rfl, hb1⟩
  go_wp2
  go_ret
  exact ⟨rfl, ((Below.refl _ _).alloc (Nat.le_refl _) _).trans (hb1.mono (by simp))⟩
theorem beyond1_asks (ao : Option Addr) (n cap : Nat) (L : List Ru) (B : Nat) (w : World) (hc : w.cell? ⟨B, 0, none⟩ = some (.slice ao n cap)) (hs : SR w (.slice ao n cap) L) : Asks w 71 (.pointer (some ⟨B, 0, none⟩)) (fun a => inB L a) :=
  fun p m b o s v W hW => beyond1_any p m b o s v ao n cap L B W (cell_later hW hc) (hs.later hW)

/-- What is left of the first j rules lies at the first i places, the others are as they were. -/
structure KI (f : Ru → Bool) (L : List Ru) (j i : Nat) (X : List Ru) : Prop where
  len : X.length = L.length
  lt : i < j
  low : X.take i = (L.take j).filter (fun a => !f a)
  high : X.drop j = L.drop j
theorem KI.start {f : Ru → Bool} {L : List Ru} {k : Nat} (hk : k < L.length) (h : (L.take k).any f = false) (h2 : f L[k] = true) : KI f L (k + 1) k L := by
  refine ⟨rfl, by omega, ?_, rfl⟩
  rw [List.take_succ_eq_append_getElem hk, List.filter_append]
  have e1 : (L.take k).filter (fun a => !f a) = L.take k := by
    rw [List.filter_eq_self]
    intro a ha
    rw [List.any_eq_false] at h
    simpa using h a ha
  rw [e1]
  simp [h2]
theorem KI.skip {f : Ru → Bool} {L X : List Ru} {j i : Nat} (h : KI f L j i X) (hj : j < L.length) (h2 : f L[j] = true) : KI f L (j + 1) i X := by
  refine ⟨h.len, by have := h.lt; omega, ?_, ?_⟩
  · rw [List.take_succ_eq_append_getElem hj, List.filter_append, ← h.low]
    simp [h2]
  · have := congrArg (List.drop 1) h.high
    simpa [List.drop_drop, Nat.add_comm] using this
theorem KI.at {f : Ru → Bool} {L X : List Ru} {j i : Nat} (h : KI f L j i X) (hj : j < L.length) : X[j]'(by rw [h.len]; exact hj) = L[j] := by
  have e1 := congrArg (fun l => l[0]?) h.high
  simp only [List.getElem?_drop, Nat.add_zero] at e1
  rw [List.getElem?_eq_getElem (by rw [h.len]; exact hj), List.getElem?_eq_getElem hj] at e1
  exact Option.some.inj e1
theorem KI.keep {f : Ru → Bool} {L X : List Ru} {j i : Nat} (h : KI f L j i X) (hj : j < L.length) (h2 : f L[j] = false) : KI f L (j + 1) (i + 1) (X.set i L[j]) := by
  have hlt := h.lt
  have hl := h.len
  refine ⟨by rw [List.length_set]; exact h.len, by omega, ?_, ?_⟩
  · rw [List.take_succ_eq_append_getElem hj, List.filter_append, ← h.low]
    have hi : i < (X.set i L[j]).length := by rw [List.length_set]; omega
    rw [List.take_succ_eq_append_getElem hi, List.take_set_of_le (Nat.le_refl _)]
    simp [h2]
  · rw [List.drop_set_of_lt (by omega)]
    have := congrArg (List.drop 1) h.high
    simpa [List.drop_drop, Nat.add_comm] using this
theorem KI.done {f : Ru → Bool} {L X : List Ru} {i : Nat} (h : KI f L L.length i X) : X.take i = L.filter (fun a => !f a) := by
  have := h.low
  rw [List.take_length] at this
  exact this

/-- A rule that is stored in a row. -/
theorem cellsR_set (X : List Ru) (i : Nat) (p m b o s v : Int) (hi : i < X.length) : cellsR (X.set i ⟨p, m, b, o, s, v⟩) = ((((((cellsR X).set (i * 6) (.int .i64 p)).set (i * 6 + 1) (.int .i64 m)).set (i * 6 + 2) (.int .i64 b)).set (i * 6 + 3) (.int .i64 o)).set (i * 6 + 4) (.int .i64 s)).set (i * 6 + 5) (.int .i64 v) := by
  induction X generalizing i with
  | nil => simp at hi
  | cons x X ih =>
    cases i with
    | zero => simp [cellsR]
    | succ i =>
      have := ih i (by simpa using hi)
      have e1 : (i + 1) * 6 = i * 6 + 1 + 1 + 1 + 1 + 1 + 1 := by omega
      simp only [cellsR, List.flatMap_cons, List.set_cons_succ] at this ⊢
      rw [this]
      simp [e1]
theorem own_set {w : World} {base e g n cap i : Nat} {X : List Ru} (h : w.ownsRow base e 6 (.slice (some ⟨g, 0, none⟩) n cap) n (cellsR X)) (hi : i < X.length) (p m b o s v : Int) :
    ((((((w.setCell ⟨g, i * 6, none⟩ (.int .i64 p)).setCell ⟨g, i * 6 + 1, none⟩ (.int .i64 m)).setCell ⟨g, i * 6 + 2, none⟩ (.int .i64 b)).setCell ⟨g, i * 6 + 3, none⟩ (.int .i64 o)).setCell ⟨g, i * 6 + 4, none⟩ (.int .i64 s)).setCell ⟨g, i * 6 + 5, none⟩ (.int .i64 v)).ownsRow base e 6 (.slice (some ⟨g, 0, none⟩) n cap) n (cellsR (X.set i ⟨p, m, b, o, s, v⟩)) := by
  rw [cellsR_set X i p m b o s v hi]
  exact ((((((h.stored _ _).1.stored _ _).1.stored _ _).1.stored _ _).1.stored _ _).1.stored _ _).1
theorem below_six {B : Nat} {a w : World} {g i : Nat} (h : Below B a w) (hg : B ≤ g) (p m b o s v : Value) :
    Below B a ((((((w.setCell ⟨g, i * 6, none⟩ p).setCell ⟨g, i * 6 + 1, none⟩ m).setCell ⟨g, i * 6 + 2, none⟩ b).setCell ⟨g, i * 6 + 3, none⟩ o).setCell ⟨g, i * 6 + 4, none⟩ s).setCell ⟨g, i * 6 + 5, none⟩ v) :=
  (((((h.setCell hg _).setCell hg _).setCell hg _).setCell hg _).setCell hg _).setCell hg _
/-- The cells of an own row's rule, none of them frozen. -/
theorem own_at {w : World} {base e g n cap i : Nat} {X : List Ru} (h : w.ownsRow base e 6 (.slice (some ⟨g, 0, none⟩) n cap) n (cellsR X)) (hn : X.length = n) (hi : i < n) :
    C6 w g (i * 6) (X[i]'(by omega)) ∧ (∀ c, w.frozen? ⟨g, c, none⟩ = false) := by
  subst hn
  obtain ⟨a0, a1, a2, a3, a4, a5⟩ := cellsR_at X i hi
  refine ⟨⟨?_, ?_, ?_, ?_, ?_, ?_⟩, fun c => h.frozenAt c⟩
  · rw [h.cellAt _ (by omega)]; exact a0
  · rw [h.cellAt _ (by omega)]; exact a1
  · rw [h.cellAt _ (by omega)]; exact a2
  · rw [h.cellAt _ (by omega)]; exact a3
  · rw [h.cellAt _ (by omega)]; exact a4
  · rw [h.cellAt _ (by omega)]; exact a5

theorem run_clear_of (w w' : World) (t e ty : TypeId) (ht : Tryd.prog.underlying t = some (.slice e)) (b o n c : Nat) (hn : 0 < n) (z : Value) (hv : ∀ w, (zeroValue e).run Tryd.prog w = .ok z w) (Z : List Value)
    (hZ : (Builtin.zeroCells z.cells n).toList = Z) (hst : (storeCells ⟨b, o, none⟩ Z 0).run Tryd.prog w = .ok () w') : (Builtin.clear_ #[t] ty #[.slice (some ⟨b, o, none⟩) n c]).run Tryd.prog w = .ok (.tuple #[]) w' := by
  obtain ⟨m, rfl⟩ : ∃ m, n = m + 1 := ⟨n - 1, by omega⟩
  simp [Builtin.clear_, run_underlying ht, hv, hZ, hst]
theorem cellsR_take (X : List Ru) (i : Nat) : (cellsR X).take (i * 6) = cellsR (X.take i) := by
  induction X generalizing i with
  | nil => simp [cellsR]
  | cons x X ih =>
    cases i with
    | zero => simp [cellsR]
    | succ i =>
      have := ih i
      have e1 : (i + 1) * 6 = i * 6 + 1 + 1 + 1 + 1 + 1 + 1 := by omega
      simp only [cellsR] at this
      simp [cellsR, e1, this]
/-- Clearing rules of a row. -/
theorem run_clear6 (w : World) (t ty : TypeId) (ht : Tryd.prog.underlying t = some (.slice 51)) (b o n c : Nat) (hn : 0 < n)
    (hc : ∀ j, j < n * 6 → (w.cell? ⟨b, o + j, none⟩).isSome = true) (hf : ∀ j, w.frozen? ⟨b, j, none⟩ = false) :
    (Builtin.clear_ #[t] ty #[.slice (some ⟨b, o, none⟩) n c]).run Tryd.prog w = .ok (.tuple #[]) (w.setCells b o (Builtin.zeroCells (Value.agg #[.int .i64 0, .int .i64 0, .int .i64 0, .int .i64 0, .int .i64 0, .int .i64 0]).cells n).toList) := by
  obtain ⟨i0, hi, hz0, hz1, hz2⟩ := info_parts infoRule
  have hv : ∀ w, (zeroValue 51).run Tryd.prog w = .ok (.agg #[.int .i64 0, .int .i64 0, .int .i64 0, .int .i64 0, .int .i64 0, .int .i64 0]) w := fun w => by simp [zeroValue, typeInfo, hi, hz0]
  have hl : (Builtin.zeroCells (Value.agg #[.int .i64 0, .int .i64 0, .int .i64 0, .int .i64 0, .int .i64 0, .int .i64 0]).cells n).toList.length = n * 6 := by rw [Array.length_toList, size_zeroCells, sixCells]
  have h1 : ∀ u ∈ (Builtin.zeroCells (Value.agg #[.int .i64 0, .int .i64 0, .int .i64 0, .int .i64 0, .int .i64 0, .int .i64 0]).cells n).toList, u.oneCell' = true := by
    intro u hu
    simp only [Builtin.zeroCells, Array.toList_map, List.mem_map] at hu
    obtain ⟨i, _, rfl⟩ := hu
    rw [sixCells]
    have h6 : i % 6 < 6 := Nat.mod_lt _ (by omega)
    generalize i % 6 = j at h6
    rcases (by omega : j = 0 ∨ j = 1 ∨ j = 2 ∨ j = 3 ∨ j = 4 ∨ j = 5) with rfl | rfl | rfl | rfl | rfl | rfl <;> rfl
  have hst := run_storeCells_cells (P := Tryd.prog) b o (Builtin.zeroCells (Value.agg #[.int .i64 0, .int .i64 0, .int .i64 0, .int .i64 0, .int .i64 0, .int .i64 0]).cells n).toList 0 w (by rw [hl]; simpa using hc) (fun j _ => hf _) h1
  simp only [Nat.add_zero] at hst
  exact run_clear_of w _ t _ ty ht b o n c hn _ hv _ rfl hst

set_option maxHeartbeats 4000000 in
set_option maxRecDepth 100000 in
/-- DeleteFunc, at a row that the caller owns. -/
theorem delete_some (g n cap : Nat) (f : FuncId) (c : Value) (P : Ru → Bool) (L : List Ru) (w0 w : World) (hn : L.length = n) (hB : Below w0.heap.size w0 w) (ho : w.ownsRow w0.heap.size 51 6 (.slice (some ⟨g, 0, none⟩) n cap) n (cellsR L))
    (he : ∀ args w, (callFunc f args).run Tryd.prog w = .ok (.enter f args) w) (hf : Asks w0 f c P) (h1000 : n ≤ 1000) :
    Calls Tryd.prog 70 #[.slice (some ⟨g, 0, none⟩) n cap, .func (Fn.func f) #[] #[c]] w fun e w' => ∃ u, e = .returned u ∧ w'.ownsRow w0.heap.size 51 6 u (L.filter (fun a => !P a)).length (cellsR (L.filter (fun a => !P a))) ∧ Below w0.heap.size w0 w' := by
  have HN : Hid (L.length = n) := hn
  have HB : Hid (Below w0.heap.size w0 w) := hB
  have HO : Hid (w.ownsRow w0.heap.size 51 6 (.slice (some ⟨g, 0, none⟩) n cap) n (cellsR L)) := ho
  have HF : Hid (Asks w0 f c P) := hf
  have hgb : w0.heap.size ≤ g ∧ n ≤ cap ∧ cap ≤ maxLen := by
    rcases ho.2 with ⟨h', _⟩ | ⟨g', cap', cur, h', hb, _, h1, h2, _⟩
    · simp at h'
    · simp only [Value.slice.injEq, Option.some.injEq, Addr.mk.injEq, and_true, true_and] at h'
      obtain ⟨rfl, rfl⟩ := h'
      exact ⟨hb, h1, h2⟩
  obtain ⟨hg0, hncap, hcm⟩ := hgb
  have HCM : Hid (cap ≤ maxLen) := hcm
  have hsr : SR w (.slice (some ⟨g, 0, none⟩) n cap) L := own_SR (by subst hn; exact ho)
  have HSR : Hid (SR w (.slice (some ⟨g, 0, none⟩) n cap) L) := hsr
  have hc63 : (cap : Int) ≤ 9223372036854775807 := by unfold maxLen at hcm; omega
  clear hn hB ho hf hsr hcm
  have HNM : Hid (n ≤ maxLen ∧ (0 < n → ∃ g' o', some (⟨g, 0, none⟩ : Addr) = some ⟨g', o', none⟩ ∧ RAt w g' o' L ∧ cap ≤ maxLen)) := by
    obtain ⟨ao', n', cap', e, hn, hn2, hn3, ha⟩ := HSR.out.form
    cases e
    exact ⟨hn2, ha⟩
  cases hany : L.any P
  · have HX : Hid (ixP P L = -1) := ixP_no hany
    have HFL : Hid (L.filter (fun a => !P a) = L) := by
      show L.filter (fun a => !P a) = L
      rw [List.filter_eq_self]
      intro a ha
      rw [List.any_eq_false] at hany
      simpa using hany a ha
    clear hany
    go_enter Tryd.func70, Tryd.ntmps70
    go_wp2_with fail
    refine (idxF _ n cap f c P L _ HN.out HNM.out.1 HNM.out.2 he (HF.out.later HB.out)).mono ?_
    rintro e w1 ⟨rfl, hb1⟩
    rw [HX.out]
    have HO1 : Hid (w1.ownsRow w0.heap.size 51 6 (.slice (some ⟨g, 0, none⟩) n cap) n (cellsR L)) := own_below HO.out hb1
    have HB1 : Hid (Below w0.heap.size w0 w1) := HB.out.trans (hb1.mono HB.out.size)
    clear hb1
    go_wp2
    go_ret
    refine ⟨_, rfl, ?_, HB1.out⟩
    rw [HFL.out, HN.out]
    exact HO1.out
  · obtain ⟨k, hk, hno, hyes⟩ : ∃ k, ∃ hk : k < L.length, (L.take k).any P = false ∧ P L[k] = true := by
      have h1 : L.findIdx P < L.length := List.findIdx_lt_length.2 (by simpa using hany)
      refine ⟨L.findIdx P, h1, ?_, List.findIdx_getElem (w := h1)⟩
      rw [List.any_eq_false]
      intro a ha
      rw [List.mem_take_iff_getElem] at ha
      obtain ⟨i, hi, rfl⟩ := ha
      have := List.not_of_lt_findIdx (p := P) (xs := L) (i := i) (by omega)
      simpa using this
    have HX : Hid (ixP P L = (k : Int)) := ixP_hit hk hno hyes
    have HK : Hid (KI P L (k + 1) k L) := KI.start hk hno hyes
    have hkn : k < n := by rw [HN.out] at hk; exact hk
    have kne : ((k : Int) == -1) = false := beq_eq_false_iff_ne.2 (by omega)
    clear hany hno hyes hk
    go_enter Tryd.func70, Tryd.ntmps70
    go_wp2_with fail
    refine (idxF _ n cap f c P L _ HN.out HNM.out.1 HNM.out.2 he (HF.out.later HB.out)).mono ?_
    rintro e w1 ⟨rfl, hb1⟩
    rw [HX.out]
    have HO1 : Hid (w1.ownsRow w0.heap.size 51 6 (.slice (some ⟨g, 0, none⟩) n cap) n (cellsR L)) := own_below HO.out hb1
    have HB1 : Hid (Below w0.heap.size w0 w1) := HB.out.trans (hb1.mono HB.out.size)
    clear hb1 HO HNM HSR
    go_wp2
    go_loopw [5, 6] (fun a b wr => ∃ i j : Nat, ∃ X, a = .int .i64 i ∧ b = .int .i64 j ∧ j ≤ n ∧ KI P L j i X ∧ wr.ownsRow w0.heap.size 51 6 (.slice (some ⟨g, 0, none⟩) n cap) n (cellsR X) ∧ Below w0.heap.size w0 wr) (fun _ b _ => n - (intOf b).toNat)
    case atStart => exact ⟨k, k + 1, L, rfl, by go_num, by omega, HK.out, HO1.out, HB1.out⟩
    case round =>
      obtain ⟨i, j, X, rfl, rfl, hj, hK, hown, hBr⟩ := hrel
      have HKR : Hid (KI P L j i X) := hK
      have HOR : Hid (wr.ownsRow w0.heap.size 51 6 (.slice (some ⟨g, 0, none⟩) n cap) n (cellsR X)) := hown
      have HBR : Hid (Below w0.heap.size w0 wr) := hBr
      have hij : i < j := hK.lt
      have HXL : Hid (X.length = n) := by have := hK.len; rw [HN.out] at this; exact this
      clear HO1 HB1 HK HX
      by_cases hlt : j < n
      · have hjl : j < L.length := by rw [HN.out]; exact hlt
        obtain ⟨hCj, hfz⟩ := own_at hown HXL.out hlt
        rw [hK.at hjl] at hCj
        have HKK : Hid (P L[j] = false → KI P L (j + 1) (i + 1) (X.set i L[j])) := fun h => hK.keep hjl h
        have HKS : Hid (P L[j] = true → KI P L (j + 1) i X) := fun h => hK.skip hjl h
        rcases hLj : L[j] with ⟨p, m, b, o, s, v⟩
        rw [hLj] at hCj HKK HKS
        obtain ⟨q0, q1, q2, q3, q4, q5⟩ := hCj
        have HC6 := C6.new wr p m b o s v 51
        have hBA : Below wr.heap.size wr (wr.alloc (Obj.cells #[Value.int IntKind.i64 p, Value.int IntKind.i64 m, Value.int IntKind.i64 b, Value.int IntKind.i64 o, Value.int IntKind.i64 s, Value.int IntKind.i64 v] 51)) := (Below.refl _ _).alloc (Nat.le_refl _) _
        have HBA : Hid (Below w0.heap.size w0 (wr.alloc (Obj.cells #[Value.int IntKind.i64 p, Value.int IntKind.i64 m, Value.int IntKind.i64 b, Value.int IntKind.i64 o, Value.int IntKind.i64 s, Value.int IntKind.i64 v] 51))) := hBr.trans (hBA.mono hBr.size)
        have HOA : Hid ((wr.alloc (Obj.cells #[Value.int IntKind.i64 p, Value.int IntKind.i64 m, Value.int IntKind.i64 b, Value.int IntKind.i64 o, Value.int IntKind.i64 s, Value.int IntKind.i64 v] 51)).ownsRow w0.heap.size 51 6 (.slice (some ⟨g, 0, none⟩) n cap) n (cellsR X)) := own_below hown hBA
        clear hown hBr hK hLj hfz hBA
        cases hP : P ⟨p, m, b, o, s, v⟩
        · go_wp2_with fail
          refine (HF.out p m b o s v _ HBA.out).mono ?_
          rintro e w2 ⟨rfl, hb2⟩
          rw [hP]
          have hO2 := own_below HOA.out hb2
          have HO2 : Hid (w2.ownsRow w0.heap.size 51 6 (.slice (some ⟨g, 0, none⟩) n cap) n (cellsR X)) := hO2
          have HB2 : Hid (Below w0.heap.size w0 w2) := HBA.out.trans (hb2.mono HBA.out.size)
          obtain ⟨d0, d1, d2, d3, d4, d5⟩ := HC6.later hb2
          simp only [Nat.zero_add] at d0 d1 d2 d3 d4 d5
          obtain ⟨hCi, hfz⟩ := own_at hO2 HXL.out (show i < n by omega)
          generalize X[i]'(by have := HXL.out; omega) = r at hCi
          obtain ⟨rp, rm, rb, ro, rs, rv⟩ := r
          obtain ⟨i0, i1, i2, i3, i4, i5⟩ := hCi
          have f0 := hfz (i * 6)
          have f1 := hfz (i * 6 + 1)
          have f2 := hfz (i * 6 + 2)
          have f3 := hfz (i * 6 + 3)
          have f4 := hfz (i * 6 + 4)
          have f5 := hfz (i * 6 + 5)
          have hgl : g < w2.heap.size := World.block_lt_of_cell? _ _ i0
          have hwl : wr.heap.size < w2.heap.size := World.block_lt_of_cell? _ _ d0
          have b0 : (0 : Int) ≤ (i : Int) := by omega
          have b1 : (i : Int) < (n : Int) := by omega
          clear hb2 hO2 q0 q1 q2 q3 q4 q5 hfz
          go_wp2
          exact ⟨⟨i + 1, j + 1, _, by go_num, by go_num, by omega, HKK.out hP, own_set HO2.out (by rw [HXL.out]; omega) p m b o s v, below_six HB2.out hg0 _ _ _ _ _ _⟩, by simp [intOf]; omega⟩
        · go_wp2_with fail
          refine (HF.out p m b o s v _ HBA.out).mono ?_
          rintro e w2 ⟨rfl, hb2⟩
          rw [hP]
          have HO2 : Hid (w2.ownsRow w0.heap.size 51 6 (.slice (some ⟨g, 0, none⟩) n cap) n (cellsR X)) := own_below HOA.out hb2
          have HB2 : Hid (Below w0.heap.size w0 w2) := HBA.out.trans (hb2.mono HBA.out.size)
          clear hb2 q0 q1 q2 q3 q4 q5
          go_wp2
          go_roundw
          case rel => exact ⟨i, j + 1, X, rfl, by go_num, by omega, HKS.out hP, HO2.out, HB2.out⟩
          case measure => simp [intOf]; omega
      · obtain rfl : j = n := by omega
        have b0 : (0 : Int) ≤ (i : Int) := by omega
        have b1 : (i : Int) ≤ (j : Int) := by omega
        have b2 : (i : Int) ≤ (cap : Int) := by omega
        have b3 : ¬ cap = i := by omega
        have HZ : Hid (∀ ty, (Builtin.clear_ #[58] ty #[.slice (some ⟨g, i * 6, none⟩) (j - i) (cap - i)]).run Tryd.prog wr = .ok (.tuple #[]) (wr.setCells g (i * 6) (Builtin.zeroCells (Value.agg #[.int .i64 0, .int .i64 0, .int .i64 0, .int .i64 0, .int .i64 0, .int .i64 0]).cells (j - i)).toList)) := fun ty =>
          run_clear6 wr _ ty Tryd.underlying58 g (i * 6) (j - i) (cap - i) (by omega) (fun t ht => by
            rw [hown.cellAt _ (by omega)]
            have h1 : i * 6 + t < (cellsR X).length := by rw [cellsR_len, HXL.out]; omega
            rw [List.getElem?_eq_getElem h1]
            rfl) (fun t => hown.frozenAt t)
        have hcl := HZ.out
        generalize (Builtin.zeroCells (Value.agg #[.int .i64 0, .int .i64 0, .int .i64 0, .int .i64 0, .int .i64 0, .int .i64 0]).cells (j - i)).toList = Z at hcl
        have hoc := own_behind Z (i * 6) wr _ (own_cut hown (show i ≤ j by omega)) (Nat.le_refl _)
        have HE : Hid (X.take i = L.filter (fun a => !P a)) := by
          have := hK
          rw [← HN.out] at this
          exact this.done
        have HOE : Hid ((wr.setCells g (i * 6) Z).ownsRow w0.heap.size 51 6 (.slice (some ⟨g, 0, none⟩) i cap) (L.filter (fun a => !P a)).length (cellsR (L.filter (fun a => !P a)))) := by
          have h1 := hoc.1
          rw [cellsR_take, HE.out] at h1
          have e1 : (L.filter (fun a => !P a)).length = i := by
            rw [← HE.out, List.length_take, HXL.out]
            omega
          show World.ownsRow _ _ _ _ _ _ _
          rw [e1]
          exact h1
        have HBE : Hid (Below w0.heap.size w0 (wr.setCells g (i * 6) Z)) := hBr.grown hoc.2 hBr.size (fun k hk => by cases hk; exact hg0)
        clear hown hBr hK hoc HZ
        go_wp2
        go_ret
        exact ⟨_, rfl, HOE.out, HBE.out⟩

set_option maxHeartbeats 1000000 in
set_option maxRecDepth 100000 in
theorem delete_nil (f : FuncId) (c : Value) (P : Ru → Bool) (w : World) (he : ∀ args w, (callFunc f args).run Tryd.prog w = .ok (.enter f args) w) (hf : Asks w f c P) :
    Calls Tryd.prog 70 #[.slice none 0 0, .func (Fn.func f) #[] #[c]] w fun e w' => e = .returned (.slice none 0 0) ∧ Below w.heap.size w w' := by
  have HX : Hid (ixP P [] = -1) := rfl
  have HF : Hid (Asks w f c P) := hf
  clear hf
  go_enter Tryd.func70, Tryd.ntmps70
  go_wp2_with fail
  refine (idxF none 0 0 f c P [] _ rfl (Nat.zero_le _) (fun h => absurd h (by omega)) he HF.out).mono ?_
  rintro e w1 ⟨rfl, hb1⟩
  rw [HX.out]
  go_wp2
  go_ret
  exact ⟨rfl, hb1⟩
theorem delete_any (v : Value) (f : FuncId) (c : Value) (P : Ru → Bool) (L : List Ru) (w0 w : World) (hB : Below w0.heap.size w0 w) (ho : w.ownsRow w0.heap.size 51 6 v L.length (cellsR L))
    (he : ∀ args w, (callFunc f args).run Tryd.prog w = .ok (.enter f args) w) (hf : Asks w0 f c P) (h1000 : L.length ≤ 1000) :
    Calls Tryd.prog 70 #[v, .func (Fn.func f) #[] #[c]] w fun e w' => ∃ u, e = .returned u ∧ w'.ownsRow w0.heap.size 51 6 u (L.filter (fun a => !P a)).length (cellsR (L.filter (fun a => !P a))) ∧ Below w0.heap.size w0 w' := by
  rcases ho.2 with ⟨rfl, h0⟩ | ⟨g, cap, cur, rfl, _⟩
  · obtain rfl : L = [] := List.length_eq_zero_iff.1 h0
    refine (delete_nil f c P w he (hf.later hB)).mono ?_
    rintro e w' ⟨rfl, hb⟩
    exact ⟨_, rfl, World.ownsRow_nil _ _ _ _, hB.trans (hb.mono hB.size)⟩
  · refine (delete_some g L.length cap f c P L w0 w rfl hB ho he hf h1000).mono ?_
    rintro e w' ⟨u, rfl, h1, h2⟩
    exact ⟨u, rfl, h1, h2⟩
/-- Two rows of two kinds lie in two blocks. -/
theorem own_apart {w : World} {b1 e1 s1 n1 b2 e2 s2 n2 : Nat} {v1 v2 : Value} {x1 x2 : List Value} (h1 : w.ownsRow b1 e1 s1 v1 n1 x1) (h2 : w.ownsRow b2 e2 s2 v2 n2 x2) (he : e1 ≠ e2) : v1.ownBlock = none ∨ v1.ownBlock ≠ v2.ownBlock := by
  rcases h1.2 with ⟨rfl, _⟩ | ⟨g, cap, cur, rfl, _, hg, _⟩
  · exact .inl rfl
  · refine .inr ?_
    rcases h2.2 with ⟨rfl, _⟩ | ⟨g2, cap2, cur2, rfl, _, hg2, _⟩
    · exact fun h => by cases h
    · intro h
      simp only [Value.ownBlock, Option.some.injEq] at h
      subst h
      rw [hg] at hg2
      simp only [Option.some.injEq, Obj.cells.injEq] at hg2
      exact he hg2.2.1
/-- One slice of rules in a new row. -/
theorem pat1 {W : World} {a1 : Option Addr} {n1 c1 : Nat} {L1 : List Ru} (t : TypeId) (h1 : SR W (.slice a1 n1 c1) L1) :
    PAt (W.alloc (.cells #[.slice a1 n1 c1] t)) W.heap.size 0 [L1] := by
  have hb : Below W.heap.size W (W.alloc (.cells #[.slice a1 n1 c1] t)) := (Below.refl _ _).alloc (Nat.le_refl _) _
  intro i hi
  match i, hi with
  | 0, _ => exact ⟨a1, n1, c1, by simp, h1.later hb⟩

set_option maxHeartbeats 2000000 in
set_option maxRecDepth 100000 in
theorem beyond_any (ao : Option Addr) (n cap : Nat) (ao2 : Option Addr) (n2 cap2 : Nat) (L M : List Ru) (w : World) (hs : SR w (.slice ao n cap) L) (ht : SR w (.slice ao2 n2 cap2) M) (h1000 : L.length ≤ 1000) :
    Calls Tryd.prog 51 #[.slice ao n cap, .slice ao2 n2 cap2] w fun e w' => ∃ ao3 n3 cap3, e = .returned (.slice ao3 n3 cap3) ∧ n3 = (bey L M).length ∧ w'.ownsRow w.heap.size 51 6 (.slice ao3 n3 cap3) (bey L M).length (cellsR (bey L M)) ∧ Below w.heap.size w w' := by
  have hB0 : Below w.heap.size w (w.alloc (Obj.cells #[.slice ao2 n2 cap2] 58)) := (Below.refl _ _).alloc (Nat.le_refl _) _
  have HAS : Hid (Asks (w.alloc (Obj.cells #[.slice ao2 n2 cap2] 58)) 71 (.pointer (some ⟨w.heap.size, 0, none⟩)) (fun a => inB M a)) :=
    beyond1_asks ao2 n2 cap2 M w.heap.size _ (by simp) (ht.later hB0)
  have hp := pat1 58 (hs.later hB0)
  have hB1 : Below (w.alloc (Obj.cells #[.slice ao2 n2 cap2] 58)).heap.size (w.alloc (Obj.cells #[.slice ao2 n2 cap2] 58)) ((w.alloc (Obj.cells #[.slice ao2 n2 cap2] 58)).alloc (.cells #[.slice ao n cap] 58)) := (Below.refl _ _).alloc (Nat.le_refl _) _
  have HP : Hid (PAt ((w.alloc (Obj.cells #[.slice ao2 n2 cap2] 58)).alloc (.cells #[.slice ao n cap] 58)) (w.heap.size + 1) 0 [L]) := by
    show PAt _ _ _ _
    simpa using hp
  have HB0 : Hid (Below w.heap.size w (w.alloc (Obj.cells #[.slice ao2 n2 cap2] 58))) := hB0
  have HB1 : Hid (Below (w.alloc (Obj.cells #[.slice ao2 n2 cap2] 58)).heap.size (w.alloc (Obj.cells #[.slice ao2 n2 cap2] 58)) ((w.alloc (Obj.cells #[.slice ao2 n2 cap2] 58)).alloc (.cells #[.slice ao n cap] 58))) := hB1
  have HL : Hid (L.length ≤ 1000) := h1000
  have HL2 : Hid ([L].flatten.length ≤ 1000) := by show _ ≤ 1000; simpa using h1000
  clear hs ht hB0 hp hB1 h1000
  go_enter Tryd.func51, Tryd.ntmps51
  go_wp2_with fail
  refine (concat_any _ 0 1 1 [L] _ rfl (by omega) HP.out HL2.out).mono ?_
  rintro e w1 ⟨u, rfl, hown, hb1⟩
  have HB2 : Hid (Below (w.alloc (Obj.cells #[.slice ao2 n2 cap2] 58)).heap.size (w.alloc (Obj.cells #[.slice ao2 n2 cap2] 58)) w1) := HB1.out.trans (hb1.mono HB1.out.size)
  have HO : Hid (w1.ownsRow (w.alloc (Obj.cells #[.slice ao2 n2 cap2] 58)).heap.size 51 6 u L.length (cellsR L)) := by
    show World.ownsRow _ _ _ _ _ _ _
    have h1 := own_mono hown HB1.out.size
    have e1 : [L].flatten = L := by simp
    rw [e1] at h1
    exact h1
  clear hown hb1
  go_wp2_with fail
  refine (delete_any u _ _ (fun a => inB M a) L _ _ HB2.out HO.out (enters_of Tryd.func71 (by kernel_rfl) rfl) HAS.out HL.out).mono ?_
  rintro e w2 ⟨u2, rfl, hsr, hb2⟩
  obtain ⟨ao3, n3, cap3, rfl, hn3, _⟩ := (own_SR hsr).form
  have HSR : Hid (w2.ownsRow w.heap.size 51 6 (.slice ao3 n3 cap3) (bey L M).length (cellsR (bey L M))) := own_mono hsr HB0.out.size
  have HN3 : Hid (n3 = (bey L M).length) := hn3.symm
  have HB3 : Hid (Below w.heap.size w w2) := HB0.out.trans (hb2.mono HB0.out.size)
  clear hsr hb2 hn3
  go_wp2
  go_ret
  exact ⟨_, _, _, rfl, HN3.out, HSR.out, HB3.out⟩
end Go.Proofs.YtokkmnednhigmaeDoor
/- Slices of ops: where they lie, rows of them that a call owns. -/
namespace Go.Proofs.YtokkmnednhigmaeDoor
open Go.RowKit
set_option linter.unusedSimpArgs false
set_option linter.unusedVariables false

/-- An op lies at an address. -/
structure C8 (w : World) (g o : Nat) (x : Op8) : Prop where
  c0 : w.cell? ⟨g, o, none⟩ = some (.int .i64 x.w)
  c1 : w.cell? ⟨g, o + 1, none⟩ = some (.bool x.a)
  c2 : w.cell? ⟨g, o + 2, none⟩ = some (.int .i64 x.r.p)
  c3 : w.cell? ⟨g, o + 3, none⟩ = some (.int .i64 x.r.m)
  c4 : w.cell? ⟨g, o + 4, none⟩ = some (.int .i64 x.r.b)
  c5 : w.cell? ⟨g, o + 5, none⟩ = some (.int .i64 x.r.o)
  c6 : w.cell? ⟨g, o + 6, none⟩ = some (.int .i64 x.r.s)
  c7 : w.cell? ⟨g, o + 7, none⟩ = some (.int .i64 x.r.v)
theorem C8.later {w w' : World} {g o : Nat} {x : Op8} (h : C8 w g o x) (hb : Below w.heap.size w w') : C8 w' g o x :=
  ⟨cell_later hb h.c0, cell_later hb h.c1, cell_later hb h.c2, cell_later hb h.c3, cell_later hb h.c4, cell_later hb h.c5, cell_later hb h.c6, cell_later hb h.c7⟩
theorem C8.new (w : World) (y : Int) (a : Bool) (p m b o s v : Int) (t : TypeId) : C8 (w.alloc (Obj.cells #[Value.int IntKind.i64 y, Value.bool a, Value.int IntKind.i64 p, Value.int IntKind.i64 m, Value.int IntKind.i64 b, Value.int IntKind.i64 o, Value.int IntKind.i64 s, Value.int IntKind.i64 v] t)) w.heap.size 0 ⟨y, a, ⟨p, m, b, o, s, v⟩⟩ := by
  refine ⟨?_, ?_, ?_, ?_, ?_, ?_, ?_, ?_⟩ <;> simp
/-- These ops lie from an address on. -/
def OAt (w : World) (g o : Nat) (L : List Op8) : Prop := ∀ i (h : i < L.length), C8 w g (o + i * 8) L[i]
theorem OAt.later {w w' : World} {g o : Nat} {L : List Op8} (h : OAt w g o L) (hb : Below w.heap.size w w') : OAt w' g o L := fun i hi => (h i hi).later hb
/-- A value is a slice of these ops. -/
def SO (w : World) (v : Value) (L : List Op8) : Prop :=
  (∃ ao cap, v = .slice ao 0 cap ∧ L = []) ∨ ∃ g o cap, v = .slice (some ⟨g, o, none⟩) L.length cap ∧ L.length ≤ cap ∧ cap ≤ maxLen ∧ OAt w g o L
theorem SO.later {w w' : World} {v : Value} {L : List Op8} (h : SO w v L) (hb : Below w.heap.size w w') : SO w' v L := by
  rcases h with h | ⟨g, o, cap, h1, h2, h3, h4⟩
  · exact .inl h
  · exact .inr ⟨g, o, cap, h1, h2, h3, h4.later hb⟩
theorem SO.form {w : World} {v : Value} {L : List Op8} (h : SO w v L) : ∃ ao n cap, v = .slice ao n cap ∧ L.length = n ∧ n ≤ maxLen ∧ n ≤ cap ∧ (0 < n → ∃ g o, ao = some ⟨g, o, none⟩ ∧ OAt w g o L ∧ cap ≤ maxLen) := by
  rcases h with ⟨ao, cap, rfl, rfl⟩ | ⟨g, o, cap, rfl, h1, h2, h3⟩
  · exact ⟨ao, 0, cap, rfl, rfl, Nat.zero_le _, Nat.zero_le _, fun h => absurd h (by omega)⟩
  · exact ⟨_, _, cap, rfl, rfl, Nat.le_trans h1 h2, h1, fun _ => ⟨g, o, rfl, h3, h2⟩⟩
theorem SO.nil (w : World) : SO w (.slice none 0 0) [] := .inl ⟨none, 0, rfl, rfl⟩
/-- The op at a place, in letters. -/
theorem OAt.at {w : World} {g o : Nat} {L : List Op8} (h : OAt w g o L) {n k : Nat} (hn : L.length = n) (hk : k < n) :
    ∃ (y : Int) (a : Bool) (p m b q s v : Int) (hl : k < L.length), L[k] = ⟨y, a, ⟨p, m, b, q, s, v⟩⟩ ∧ (w.cell? ⟨g, o + k * 8, none⟩ = some (.int .i64 y) ∧ w.cell? ⟨g, o + k * 8 + 1, none⟩ = some (.bool a) ∧ w.cell? ⟨g, o + k * 8 + 2, none⟩ = some (.int .i64 p) ∧ w.cell? ⟨g, o + k * 8 + 3, none⟩ = some (.int .i64 m) ∧ w.cell? ⟨g, o + k * 8 + 4, none⟩ = some (.int .i64 b) ∧
      w.cell? ⟨g, o + k * 8 + 5, none⟩ = some (.int .i64 q) ∧ w.cell? ⟨g, o + k * 8 + 6, none⟩ = some (.int .i64 s) ∧ w.cell? ⟨g, o + k * 8 + 7, none⟩ = some (.int .i64 v)) :=
  have hl : k < L.length := by omega
  have c := h k hl
  ⟨_, _, _, _, _, _, _, _, hl, rfl, c.c0, c.c1, c.c2, c.c3, c.c4, c.c5, c.c6, c.c7⟩
/-- The cells of ops. -/
def cellsO (L : List Op8) : List Value := L.flatMap fun x => [.int .i64 x.w, .bool x.a, .int .i64 x.r.p, .int .i64 x.r.m, .int .i64 x.r.b, .int .i64 x.r.o, .int .i64 x.r.s, .int .i64 x.r.v]
theorem cellsO_app (L M : List Op8) : cellsO (L ++ M) = cellsO L ++ cellsO M := by simp [cellsO]
theorem cellsO_at (L : List Op8) (i : Nat) (h : i < L.length) : (cellsO L)[i * 8]? = some (.int .i64 (L[i]).w) ∧ (cellsO L)[i * 8 + 1]? = some (.bool (L[i]).a) ∧ (cellsO L)[i * 8 + 2]? = some (.int .i64 (L[i]).r.p) ∧ (cellsO L)[i * 8 + 3]? = some (.int .i64 (L[i]).r.m) ∧
    (cellsO L)[i * 8 + 4]? = some (.int .i64 (L[i]).r.b) ∧ (cellsO L)[i * 8 + 5]? = some (.int .i64 (L[i]).r.o) ∧ (cellsO L)[i * 8 + 6]? = some (.int .i64 (L[i]).r.s) ∧ (cellsO L)[i * 8 + 7]? = some (.int .i64 (L[i]).r.v) := by
  induction L generalizing i with
  | nil => simp at h
  | cons p r ih =>
    cases i with
    | zero => simp [cellsO]
    | succ i =>
      have := ih i (by simpa using h)
      have e1 : (i + 1) * 8 = i * 8 + 1 + 1 + 1 + 1 + 1 + 1 + 1 + 1 := by omega
      simpa [cellsO, e1] using this
/-- What a call owns may be read. -/
theorem own_SO {w : World} {B e : Nat} {v : Value} {L : List Op8} (h : w.ownsRow B e 8 v L.length (cellsO L)) : SO w v L := by
  rcases h.2 with ⟨rfl, h0⟩ | ⟨g, cap, cur, rfl, _, _, h1, h2, _⟩
  · exact .inl ⟨none, 0, rfl, List.length_eq_zero_iff.1 h0⟩
  · refine .inr ⟨g, 0, cap, rfl, h1, h2, fun i hi => ?_⟩
    obtain ⟨a0, a1, a2, a3, a4, a5, a6, a7⟩ := cellsO_at L i hi
    rw [Nat.zero_add]
    refine ⟨?_, ?_, ?_, ?_, ?_, ?_, ?_, ?_⟩
    · rw [h.cellAt _ (by omega)]; exact a0
    · rw [h.cellAt _ (by omega)]; exact a1
    · rw [h.cellAt _ (by omega)]; exact a2
    · rw [h.cellAt _ (by omega)]; exact a3
    · rw [h.cellAt _ (by omega)]; exact a4
    · rw [h.cellAt _ (by omega)]; exact a5
    · rw [h.cellAt _ (by omega)]; exact a6
    · rw [h.cellAt _ (by omega)]; exact a7
theorem infoOp : (Tryd.prog.info? 53).map (fun i => (i.zero, i.size, i.bytes)) = some (some (.agg #[.int .i64 0, .bool false, .int .i64 0, .int .i64 0, .int .i64 0, .int .i64 0, .int .i64 0, .int .i64 0]), 8, 64) := by kernel_rfl
theorem eightCells : (Value.agg #[.int .i64 0, .bool false, .int .i64 0, .int .i64 0, .int .i64 0, .int .i64 0, .int .i64 0, .int .i64 0]).cells.size = 8 := by simp [Value.cells]

/-- Appending one op, in a new row, to a row of ops that a call owns. -/
theorem wpList_append_op (w : World) {ops : Array Oper} {rest : List Oper} {o : Oper} {a : Act} {Q : Exit → Act → World → Prop} (hgd : o.guard = none) (s x : Operand) (t : TypeId)
    (ho : o.op = .call { callee := .builtin .append, args := #[s, x], argTypes := #[t, t] }) (ht : Tryd.prog.underlying t = some (.slice 53)) (base : Nat)
    (v : Value) (hs : a.eval s = v) (L : List Op8) (hown : w.ownsRow base 53 8 v L.length (cellsO L)) (B : Nat) (hx : a.eval x = .slice (some ⟨B, 0, none⟩) 1 1) (y : Op8) (hM : C8 w B 0 y)
    (h100 : L.length ≤ 1000) (hbase : base ≤ w.heap.size)
    (h : ∀ v' w', w'.ownsRow base 53 8 v' (L ++ [y]).length (cellsO (L ++ [y])) → w.grownBy w' v.ownBlock → wpList Tryd.prog ops Q rest (a.put o.dst v') w') : wpList Tryd.prog ops Q (o :: rest) a w := by
  obtain ⟨i0, hi, hz0, hz1, hz2⟩ := info_parts infoOp
  refine wpList_append_own w hgd s x t ho base 53 i0 (.agg #[.int .i64 0, .bool false, .int .i64 0, .int .i64 0, .int .i64 0, .int .i64 0, .int .i64 0, .int .i64 0]) 8 64 ht hi hz0 hz1 hz2 eightCells (by decide) v _ _ hs hown ⟨B, 0, none⟩ 1 1 (cellsO [y]) hx rfl ?_ ?_ (by unfold maxLen; omega) (by omega) hbase ?_
  · intro j u hj
    rw [addr_add, Nat.zero_add]
    obtain ⟨c0, c1, c2, c3, c4, c5, c6, c7⟩ := hM
    match j, hj with
    | 0, hj => simp [cellsO] at hj; subst hj; exact c0
    | 1, hj => simp [cellsO] at hj; subst hj; exact c1
    | 2, hj => simp [cellsO] at hj; subst hj; exact c2
    | 3, hj => simp [cellsO] at hj; subst hj; exact c3
    | 4, hj => simp [cellsO] at hj; subst hj; exact c4
    | 5, hj => simp [cellsO] at hj; subst hj; exact c5
    | 6, hj => simp [cellsO] at hj; subst hj; exact c6
    | 7, hj => simp [cellsO] at hj; subst hj; exact c7
  · intro u hu
    simp [cellsO] at hu
    rcases hu with rfl | rfl | rfl | rfl | rfl | rfl | rfl | rfl <;> rfl
  · intro v' w' h1 h2 _
    refine h v' w' ?_ h2
    rw [List.length_append, cellsO_app]
    exact h1
end Go.Proofs.YtokkmnednhigmaeDoor
/- What table.check, Same, Diff and All answer. -/
namespace Go.Proofs.YtokkmnednhigmaeDoor
open Go.RowKit
set_option linter.unusedSimpArgs false
set_option linter.unusedVariables false

theorem tw_ne {A B : List Ru} (h : tbN A ≠ 0) : twN A B = tbN A := by simp [twN, h]
theorem tw_ok {A B : List Ru} (h : tbN A = 0) : twN A B = tbN B := by simp [twN, h]
theorem tw_two {A B : List Ru} (h : twN A B = 0) : tbN A = 0 ∧ tbN B = 0 := by
  by_cases h1 : tbN A = 0
  · rw [tw_ok h1] at h; exact ⟨h1, h⟩
  · rw [tw_ne h1] at h; exact absurd h h1
theorem df_ne {A B : List Ru} (h : twN A B ≠ 0) : dfL A B = [] := by simp [dfL, h]
theorem df_ok {A B : List Ru} (h : twN A B = 0) : dfL A B = taken (bey A B) ++ added (bey B A) := by simp [dfL, h]
theorem sm_ne {A B : List Ru} (h : twN A B ≠ 0) : smB A B = false := by simp [smB, h]
theorem sm_ok {A B : List Ru} (h : twN A B = 0) : smB A B = (decide (A.length = B.length) && decide ((bey A B).length = 0)) := by simp [smB, h]

set_option maxHeartbeats 1000000 in
set_option maxRecDepth 100000 in
theorem check_any2 (v1 v2 : Value) (L M : List Ru) (w : World) (hs : SR w v1 L) (ht : SR w v2 M) :
    Calls Tryd.prog 50 #[v1, v2] w fun e w' => e = .returned (noV (twN L M)) ∧ Below w.heap.size w w' := by
  have HS : Hid (SR w v1 L) := hs
  have HT : Hid (SR w v2 M) := ht
  clear hs ht
  by_cases h1 : tbN L = 0
  · rw [tw_ok h1]
    have H1 : Hid (tbN L = 0) := h1
    clear h1
    generalize hE : noV (tbN M) = E
    have HE : Hid (noV (tbN M) = E) := hE
    clear hE
    go_enter Tryd.func50, Tryd.ntmps50
    go_wp2_with fail
    refine (table_any _ L _ HS.out).mono ?_
    rintro e w1 ⟨rfl, hb1⟩
    rw [no_ok H1.out]
    have HT1 : Hid (SR w1 v2 M) := HT.out.later hb1
    have HB1 : Hid (Below w.heap.size w w1) := hb1
    clear hb1
    go_wp2_with fail
    refine (table_any _ M _ HT1.out).mono ?_
    rintro e w2 ⟨rfl, hb2⟩
    rw [HE.out]
    have HB2 : Hid (Below w.heap.size w w2) := HB1.out.trans (hb2.mono HB1.out.size)
    clear hb2
    go_wp2
    go_ret
    exact ⟨rfl, HB2.out⟩
  · rw [tw_ne h1, no_ne h1]
    have H1 : Hid (tbN L ≠ 0) := h1
    clear h1
    go_enter Tryd.func50, Tryd.ntmps50
    go_wp2_with fail
    refine (table_any _ L _ HS.out).mono ?_
    rintro e w1 ⟨rfl, hb1⟩
    rw [no_ne H1.out]
    go_wp2
    go_ret
    exact ⟨rfl, hb1⟩

set_option maxHeartbeats 2000000 in
set_option maxRecDepth 100000 in
theorem same_any2 (ao : Option Addr) (n cap : Nat) (ao2 : Option Addr) (n2 cap2 : Nat) (L M : List Ru) (w : World) (hs : SR w (.slice ao n cap) L) (ht : SR w (.slice ao2 n2 cap2) M) :
    Calls Tryd.prog 52 #[.slice ao n cap, .slice ao2 n2 cap2] w fun e w' => e = .returned (.tuple #[.bool (smB L M), noV (twN L M)]) ∧ Below w.heap.size w w' := by
  have HS : Hid (SR w (.slice ao n cap) L) := hs
  have HT : Hid (SR w (.slice ao2 n2 cap2) M) := ht
  have HLN : Hid (L.length = n) := hs.len
  have HMN : Hid (M.length = n2) := ht.len
  clear hs ht
  by_cases h1 : twN L M = 0
  · rw [sm_ok h1, no_ok h1, HLN.out, HMN.out]
    have H1 : Hid (twN L M = 0) := h1
    have HL : Hid (L.length ≤ 1000) := by
      have := (tb_iff.1 (tw_two h1).1).1
      show _ ≤ 1000
      omega
    clear h1
    by_cases hn : n = n2
    · subst hn
      obtain ⟨N, hN⟩ : ∃ N, N = (bey L M).length := ⟨_, rfl⟩
      rw [← hN]
      have HN : Hid (N = (bey L M).length) := hN
      clear hN
      have e1 : decide (n = n) = true := by simp
      rw [e1, Bool.true_and]
      have HD : Hid (((N : Int) == 0) = decide (N = 0)) := by
        show _ = _
        rw [Bool.eq_iff_iff]
        simp
      go_enter Tryd.func52, Tryd.ntmps52
      go_wp2_with fail
      refine (check_any2 _ _ L M _ HS.out HT.out).mono ?_
      rintro e w1 ⟨rfl, hb1⟩
      rw [no_ok H1.out]
      have HS1 : Hid (SR w1 (.slice ao n cap) L) := HS.out.later hb1
      have HT1 : Hid (SR w1 (.slice ao2 n cap2) M) := HT.out.later hb1
      have HB1 : Hid (Below w.heap.size w w1) := hb1
      clear hb1
      go_wp2_with fail
      refine (beyond_any _ _ _ _ _ _ L M _ HS1.out HT1.out HL.out).mono ?_
      rintro e w2 ⟨ao3, n3, cap3, rfl, hn3, _, hb2⟩
      rw [← HN.out] at hn3
      subst hn3
      have HB2 : Hid (Below w.heap.size w w2) := HB1.out.trans (hb2.mono HB1.out.size)
      clear hb2
      go_wp2
      refine bodyPost_ret (v := .tuple #[.bool ((n3 : Int) == 0), .nilIface]) (by simp [results, Tryd.results52, go_sem]) rfl ⟨by rw [HD.out], HB2.out⟩
    · have e1 : decide (n = n2) = false := by simpa using hn
      rw [e1, Bool.false_and]
      have e2 : ((n : Int) == (n2 : Int)) = false := beq_eq_false_iff_ne.2 (by omega)
      go_enter Tryd.func52, Tryd.ntmps52
      go_wp2_with fail
      refine (check_any2 _ _ L M _ HS.out HT.out).mono ?_
      rintro e w1 ⟨rfl, hb1⟩
      rw [no_ok H1.out]
      have HB1 : Hid (Below w.heap.size w w1) := hb1
      clear hb1
      go_wp2
      refine bodyPost_ret (v := .tuple #[.bool false, .nilIface]) (by simp [results, Tryd.results52, go_sem]) rfl ⟨rfl, HB1.out⟩
  · rw [sm_ne h1, no_ne h1]
    have H1 : Hid (twN L M ≠ 0) := h1
    clear h1
    go_enter Tryd.func52, Tryd.ntmps52
    go_wp2_with fail
    refine (check_any2 _ _ L M _ HS.out HT.out).mono ?_
    rintro e w1 ⟨rfl, hb1⟩
    rw [no_ne H1.out]
    have HB1 : Hid (Below w.heap.size w w1) := hb1
    clear hb1
    go_wp2
    refine bodyPost_ret (v := .tuple #[.bool false, .iface 63 (.int .i64 (twN L M))]) (by simp [results, Tryd.results52, go_sem]) rfl ⟨rfl, HB1.out⟩
end Go.Proofs.YtokkmnednhigmaeDoor
/- What table.Diff answers. -/
namespace Go.Proofs.YtokkmnednhigmaeDoor
open Go.RowKit
set_option linter.unusedSimpArgs false
set_option linter.unusedVariables false

theorem bey_le (A B : List Ru) : (bey A B).length ≤ A.length := List.length_filter_le _ _
theorem taken_next {D : List Ru} {k : Nat} (hk : k < D.length) : taken (D.take (k + 1)) = taken (D.take k) ++ [⟨0, false, D[k]⟩] := by
  rw [List.take_succ_eq_append_getElem hk]
  simp only [taken, List.map_append, List.map_cons, List.map_nil]
theorem added_next {D : List Ru} {k : Nat} (hk : k < D.length) (C : List Op8) : C ++ added (D.take (k + 1)) = (C ++ added (D.take k)) ++ [⟨0, true, D[k]⟩] := by
  rw [List.take_succ_eq_append_getElem hk]
  simp only [added, List.map_append, List.map_cons, List.map_nil, List.append_assoc]
theorem taken_len (D : List Ru) : (taken D).length = D.length := by simp [taken]
theorem added_len (D : List Ru) : (added D).length = D.length := by simp [added]

set_option maxHeartbeats 10000000 in
set_option maxRecDepth 100000 in
theorem diff_own (ao : Option Addr) (n cap : Nat) (ao2 : Option Addr) (n2 cap2 : Nat) (L M : List Ru) (w : World) (hs : SR w (.slice ao n cap) L) (ht : SR w (.slice ao2 n2 cap2) M) (h0 : twN L M = 0) :
    Calls Tryd.prog 30 #[.slice ao n cap, .slice ao2 n2 cap2] w fun e w' => ∃ u, e = .returned (.tuple #[u, .nilIface]) ∧ w'.ownsRow w.heap.size 53 8 u (taken (bey L M) ++ added (bey M L)).length (cellsO (taken (bey L M) ++ added (bey M L))) ∧ Below w.heap.size w w' := by
  have HS : Hid (SR w (.slice ao n cap) L) := hs
  have HT : Hid (SR w (.slice ao2 n2 cap2) M) := ht
  have H0 : Hid (twN L M = 0) := h0
  have HL : Hid (L.length ≤ 12 ∧ M.length ≤ 12) := ⟨(tb_iff.1 (tw_two h0).1).1, (tb_iff.1 (tw_two h0).2).1⟩
  clear hs ht h0
  go_enter Tryd.func30, Tryd.ntmps30
  go_wp2_with fail
  refine (check_any2 _ _ L M _ HS.out HT.out).mono ?_
  rintro e w1 ⟨rfl, hb1⟩
  rw [no_ok H0.out]
  have HS1 : Hid (SR w1 (.slice ao n cap) L) := HS.out.later hb1
  have HT1 : Hid (SR w1 (.slice ao2 n2 cap2) M) := HT.out.later hb1
  have HB1 : Hid (Below w.heap.size w w1) := hb1
  clear hb1
  go_wp2_with fail
  refine (beyond_any _ _ _ _ _ _ L M _ HS1.out HT1.out (by have := HL.out; omega)).mono ?_
  rintro e w2 ⟨ao3, n3, cap3, rfl, hn3, hown, hb2⟩
  have HD0 : Hid ((bey L M).length ≤ 12) := Nat.le_trans (bey_le L M) HL.out.1
  obtain ⟨D, hD⟩ : ∃ D, D = bey L M := ⟨_, rfl⟩
  rw [← hD] at hn3 hown HD0
  have HD : Hid (D = bey L M) := hD
  have HN3 : Hid (D.length = n3) := hn3.symm
  have hn12 : n3 ≤ 12 := by have := HD0.out; omega
  have HR : Hid (w2.ownsRow w.heap.size 51 6 (.slice ao3 n3 cap3) D.length (cellsR D)) := own_mono hown HB1.out.size
  have HB2 : Hid (Below w.heap.size w w2) := HB1.out.trans (hb2.mono HB1.out.size)
  clear hn3 hown hb2 hD HS1 HT1 HB1
  go_upto_block 0 with fail
  go_cut [7] from 6 (fun u w' => w'.ownsRow w.heap.size 53 8 u (taken (bey L M)).length (cellsO (taken (bey L M))) ∧ Below w.heap.size w w')
  case first =>
    go_wp2
    go_loopw [7, 22] (fun u i wr => ∃ k : Nat, k ≤ n3 ∧ i = .int .i64 k ∧ wr.ownsRow w.heap.size 53 8 u (taken (D.take k)).length (cellsO (taken (D.take k))) ∧ wr.ownsRow w.heap.size 51 6 (.slice ao3 n3 cap3) D.length (cellsR D) ∧ Below w.heap.size w wr) (fun _ i _ => n3 - (intOf i).toNat)
    case atStart => exact ⟨0, by omega, rfl, World.ownsRow_nil _ _ _ _, HR.out, HB2.out⟩
    case round =>
      obtain ⟨k, hk, rfl, hop, hru, hB⟩ := hrel
      have HOP : Hid (wr.ownsRow w.heap.size 53 8 u7 (taken (D.take k)).length (cellsO (taken (D.take k)))) := hop
      have HRU : Hid (wr.ownsRow w.heap.size 51 6 (.slice ao3 n3 cap3) D.length (cellsR D)) := hru
      have HB : Hid (Below w.heap.size w wr) := hB
      clear hop hB HR HB2
      by_cases hlt : k < n3
      · obtain ⟨ao', n', cap', e, _, _, _, ha⟩ := (own_SR hru).form
        cases e
        obtain ⟨g, og, rfl, hRA, _⟩ := ha (by omega)
        obtain ⟨p, m, b, q, s, v, hkl, hLk, q0, q1, q2, q3, q4, q5⟩ := hRA.at HN3.out hlt
        have HT2 : Hid (taken (D.take (k + 1)) = taken (D.take k) ++ [⟨0, false, ⟨p, m, b, q, s, v⟩⟩]) := by
          show _ = _
          rw [taken_next hkl, hLk]
        have HK : Hid ((taken (D.take k)).length ≤ 1000) := by
          show _ ≤ 1000
          rw [taken_len, List.length_take]
          omega
        have hBA := (Below.refl wr.heap.size wr).alloc (Nat.le_refl _) (Obj.cells #[Value.int IntKind.i64 p, Value.int IntKind.i64 m, Value.int IntKind.i64 b, Value.int IntKind.i64 q, Value.int IntKind.i64 s, Value.int IntKind.i64 v] 51)
        have hBB := hBA.alloc (by simp) (Obj.cells #[Value.int IntKind.i64 0, Value.bool false, Value.int IntKind.i64 p, Value.int IntKind.i64 m, Value.int IntKind.i64 b, Value.int IntKind.i64 q, Value.int IntKind.i64 s, Value.int IntKind.i64 v] 53)
        have HBB := hBB
        have HC8 := C8.new (wr.alloc (Obj.cells #[Value.int IntKind.i64 p, Value.int IntKind.i64 m, Value.int IntKind.i64 b, Value.int IntKind.i64 q, Value.int IntKind.i64 s, Value.int IntKind.i64 v] 51)) 0 false p m b q s v 53
        simp only [World.size_alloc] at HC8
        clear hRA hLk ha hBA hru
        go_wp2_with (at_builtin; refine wpList_append_op _ rfl _ _ 29 rfl Tryd.underlying29 w.heap.size _ rfl _ (own_below HOP.out hBB) _ rfl _ HC8 HK.out (HB.out.trans (hBB.mono HB.out.size)).size ?_)
        intro v' w3 hown3 hgrow
        have hO3 := own_below HOP.out hBB
        have HR3 : Hid (w3.ownsRow w.heap.size 51 6 (.slice (some ⟨g, og, none⟩) n3 cap3) D.length (cellsR D)) := (own_below HRU.out hBB).kept hgrow (own_apart (own_below HRU.out hBB) hO3 (by decide))
        have HB3 : Hid (Below w.heap.size w w3) := (HB.out.trans (hBB.mono HB.out.size)).grown hgrow (HB.out.trans (hBB.mono HB.out.size)).size (fun g hg => (hO3.lt g hg).1)
        have HO3 : Hid (w3.ownsRow w.heap.size 53 8 v' (taken (D.take (k + 1))).length (cellsO (taken (D.take (k + 1))))) := by
          show World.ownsRow _ _ _ _ _ _ _
          rw [HT2.out, List.length_append]
          exact hown3
        clear hown3 hgrow hO3 hBB HBB HC8 q0 q1 q2 q3 q4 q5
        go_wp2
        go_roundw
        case rel => exact ⟨k + 1, by omega, by go_num, HO3.out, HR3.out, HB3.out⟩
        case measure => simp [intOf]; omega
      · obtain rfl : k = n3 := by omega
        go_wp2_with fail
        go_meet
        case rel =>
          refine ⟨?_, HB.out⟩
          have h1 := HOP.out
          rw [← HN3.out, List.take_length, HD.out] at h1
          exact h1
  case rest =>
    obtain ⟨hop, hB⟩ := hcut
    obtain ⟨C, hC⟩ : ∃ C, C = taken (bey L M) := ⟨_, rfl⟩
    have HC : Hid (C = taken (bey L M)) := hC
    have HCL : Hid (C.length ≤ 12) := by
      show C.length ≤ 12
      rw [hC, taken_len]
      exact Nat.le_trans (bey_le L M) HL.out.1
    rw [← hC] at hop
    have HOC : Hid (wc.ownsRow w.heap.size 53 8 u7 C.length (cellsO C)) := hop
    have HBC : Hid (Below w.heap.size w wc) := hB
    have HS1 : Hid (SR wc (.slice ao n cap) L) := HS.out.later hB
    have HT1 : Hid (SR wc (.slice ao2 n2 cap2) M) := HT.out.later hB
    clear hop hB hC HR HB2 HN3 HD HD0 hn12
    clear D
    go_wp2_with fail
    refine (beyond_any _ _ _ _ _ _ M L _ HT1.out HS1.out (by have := HL.out; omega)).mono ?_
    rintro e w2 ⟨ao3, n3, cap3, rfl, hn3, hown, hb2⟩
    have HD0 : Hid ((bey M L).length ≤ 12) := Nat.le_trans (bey_le M L) HL.out.2
    obtain ⟨D, hD⟩ : ∃ D, D = bey M L := ⟨_, rfl⟩
    rw [← hD] at hn3 hown HD0
    have HD : Hid (D = bey M L) := hD
    have HN3 : Hid (D.length = n3) := hn3.symm
    have hn12 : n3 ≤ 12 := by have := HD0.out; omega
    have HR : Hid (w2.ownsRow w.heap.size 51 6 (.slice ao3 n3 cap3) D.length (cellsR D)) := own_mono hown HBC.out.size
    have HOC2 : Hid (w2.ownsRow w.heap.size 53 8 u7 C.length (cellsO C)) := own_below HOC.out hb2
    have HB2 : Hid (Below w.heap.size w w2) := HBC.out.trans (hb2.mono HBC.out.size)
    clear hn3 hown hb2 hD HS1 HT1
    go_wp2
    go_loopw [7, 36] (fun u i wr => ∃ k : Nat, k ≤ n3 ∧ i = .int .i64 k ∧ wr.ownsRow w.heap.size 53 8 u (C ++ added (D.take k)).length (cellsO (C ++ added (D.take k))) ∧ wr.ownsRow w.heap.size 51 6 (.slice ao3 n3 cap3) D.length (cellsR D) ∧ Below w.heap.size w wr) (fun _ i _ => n3 - (intOf i).toNat)
    case atStart => exact ⟨0, by omega, rfl, by have := HOC2.out; simpa [added] using this, HR.out, HB2.out⟩
    case round =>
      obtain ⟨k, hk, rfl, hop, hru, hB⟩ := hrel
      have HOP : Hid (wr.ownsRow w.heap.size 53 8 u7 (C ++ added (D.take k)).length (cellsO (C ++ added (D.take k)))) := hop
      have HRU : Hid (wr.ownsRow w.heap.size 51 6 (.slice ao3 n3 cap3) D.length (cellsR D)) := hru
      have HB : Hid (Below w.heap.size w wr) := hB
      clear hop hB HR HB2 HOC2
      by_cases hlt : k < n3
      · obtain ⟨ao', n', cap', e, _, _, _, ha⟩ := (own_SR hru).form
        cases e
        obtain ⟨g, og, rfl, hRA, _⟩ := ha (by omega)
        obtain ⟨p, m, b, q, s, v, hkl, hLk, q0, q1, q2, q3, q4, q5⟩ := hRA.at HN3.out hlt
        have HT2 : Hid (C ++ added (D.take (k + 1)) = C ++ added (D.take k) ++ [⟨0, true, ⟨p, m, b, q, s, v⟩⟩]) := by
          show _ = _
          rw [added_next hkl, hLk]
        have HK : Hid ((C ++ added (D.take k)).length ≤ 1000) := by
          show _ ≤ 1000
          rw [List.length_append, added_len, List.length_take]
          have := HCL.out
          omega
        have hBA := (Below.refl wr.heap.size wr).alloc (Nat.le_refl _) (Obj.cells #[Value.int IntKind.i64 p, Value.int IntKind.i64 m, Value.int IntKind.i64 b, Value.int IntKind.i64 q, Value.int IntKind.i64 s, Value.int IntKind.i64 v] 51)
        have hBB := hBA.alloc (by simp) (Obj.cells #[Value.int IntKind.i64 0, Value.bool true, Value.int IntKind.i64 p, Value.int IntKind.i64 m, Value.int IntKind.i64 b, Value.int IntKind.i64 q, Value.int IntKind.i64 s, Value.int IntKind.i64 v] 53)
        have HBB := hBB
        have HC8 := C8.new (wr.alloc (Obj.cells #[Value.int IntKind.i64 p, Value.int IntKind.i64 m, Value.int IntKind.i64 b, Value.int IntKind.i64 q, Value.int IntKind.i64 s, Value.int IntKind.i64 v] 51)) 0 true p m b q s v 53
        simp only [World.size_alloc] at HC8
        clear hRA hLk ha hBA hru
        go_wp2_with (at_builtin; refine wpList_append_op _ rfl _ _ 29 rfl Tryd.underlying29 w.heap.size _ rfl _ (own_below HOP.out hBB) _ rfl _ HC8 HK.out (HB.out.trans (hBB.mono HB.out.size)).size ?_)
        intro v' w3 hown3 hgrow
        have hO3 := own_below HOP.out hBB
        have HR3 : Hid (w3.ownsRow w.heap.size 51 6 (.slice (some ⟨g, og, none⟩) n3 cap3) D.length (cellsR D)) := (own_below HRU.out hBB).kept hgrow (own_apart (own_below HRU.out hBB) hO3 (by decide))
        have HB3 : Hid (Below w.heap.size w w3) := (HB.out.trans (hBB.mono HB.out.size)).grown hgrow (HB.out.trans (hBB.mono HB.out.size)).size (fun g hg => (hO3.lt g hg).1)
        have HO3 : Hid (w3.ownsRow w.heap.size 53 8 v' (C ++ added (D.take (k + 1))).length (cellsO (C ++ added (D.take (k + 1))))) := by
          show World.ownsRow _ _ _ _ _ _ _
          rw [HT2.out, List.append_assoc, List.length_append, List.length_append]
          exact hown3
        clear hown3 hgrow hO3 hBB HBB HC8 q0 q1 q2 q3 q4 q5
        go_wp2
        go_roundw
        case rel => exact ⟨k + 1, by omega, by go_num, HO3.out, HR3.out, HB3.out⟩
        case measure => simp [intOf]; omega
      · obtain rfl : k = n3 := by omega
        have HFI : Hid (wr.ownsRow w.heap.size 53 8 u7 (taken (bey L M) ++ added (bey M L)).length (cellsO (taken (bey L M) ++ added (bey M L)))) := by
          have h1 := HOP.out
          rw [← HN3.out, List.take_length, HD.out, HC.out] at h1
          exact h1
        go_wp2
        refine bodyPost_ret (v := .tuple #[u7, .nilIface]) (by simp [results, Tryd.results30, go_sem]) rfl ⟨_, rfl, HFI.out, HB.out⟩

theorem diff_ok (ao : Option Addr) (n cap : Nat) (ao2 : Option Addr) (n2 cap2 : Nat) (L M : List Ru) (w : World) (hs : SR w (.slice ao n cap) L) (ht : SR w (.slice ao2 n2 cap2) M) (h0 : twN L M = 0) :
    Calls Tryd.prog 30 #[.slice ao n cap, .slice ao2 n2 cap2] w fun e w' => ∃ u, e = .returned (.tuple #[u, .nilIface]) ∧ SO w' u (taken (bey L M) ++ added (bey M L)) ∧ Below w.heap.size w w' :=
  (diff_own ao n cap ao2 n2 cap2 L M w hs ht h0).mono fun _ _ ⟨u, h1, h2, h3⟩ => ⟨u, h1, own_SO h2, h3⟩
set_option maxHeartbeats 1000000 in
set_option maxRecDepth 100000 in
theorem diff_any (ao : Option Addr) (n cap : Nat) (ao2 : Option Addr) (n2 cap2 : Nat) (L M : List Ru) (w : World) (hs : SR w (.slice ao n cap) L) (ht : SR w (.slice ao2 n2 cap2) M) :
    Calls Tryd.prog 30 #[.slice ao n cap, .slice ao2 n2 cap2] w fun e w' => ∃ u, e = .returned (.tuple #[u, noV (twN L M)]) ∧ SO w' u (dfL L M) ∧ Below w.heap.size w w' := by
  by_cases h1 : twN L M = 0
  · rw [no_ok h1, df_ok h1]
    exact diff_ok ao n cap ao2 n2 cap2 L M w hs ht h1
  · rw [no_ne h1, df_ne h1]
    have HS : Hid (SR w (.slice ao n cap) L) := hs
    have HT : Hid (SR w (.slice ao2 n2 cap2) M) := ht
    have H1 : Hid (twN L M ≠ 0) := h1
    clear hs ht h1
    go_enter Tryd.func30, Tryd.ntmps30
    go_wp2_with fail
    refine (check_any2 _ _ L M _ HS.out HT.out).mono ?_
    rintro e w1 ⟨rfl, hb1⟩
    rw [no_ne H1.out]
    have HB1 : Hid (Below w.heap.size w w1) := hb1
    clear hb1
    go_wp2
    refine bodyPost_ret (v := .tuple #[.slice none 0 0, .iface 63 (.int .i64 (twN L M))]) (by simp [results, Tryd.results30, go_sem]) rfl ⟨_, rfl, SO.nil _, HB1.out⟩

theorem al_step {L : List Ru} {O : List Op8} {k : Nat} (hk : k < O.length) : alN L (O.drop k) = (if doN L (O[k]).a (O[k]).r = 0 then alN (doL L (O[k]).a (O[k]).r) (O.drop (k + 1)) else doN L (O[k]).a (O[k]).r) ∧ alL L (O.drop k) = (if doN L (O[k]).a (O[k]).r = 0 then alL (doL L (O[k]).a (O[k]).r) (O.drop (k + 1)) else []) := by
  rw [List.drop_eq_getElem_cons hk, alN, alL]
  exact ⟨rfl, rfl⟩

end Go.Proofs.YtokkmnednhigmaeDoor
/- Two rules at two addresses: a class of worlds. -/
namespace Go.Proofs.YtokkmnednhigmaeDoor
open Go.RowKit

/-- Two rules at two addresses. -/
def CD (w : World) (g o : Nat) (p m b q s v : Int) (g' o' : Nat) (p' m' b' q' s' v' : Int) (w' : World) : Prop :=
  Below w.heap.size w w' ∧ (w'.cell? ⟨g, o, none⟩ = some (.int .i64 p) ∧ w'.cell? ⟨g, o + 1, none⟩ = some (.int .i64 m) ∧ w'.cell? ⟨g, o + 2, none⟩ = some (.int .i64 b) ∧
    w'.cell? ⟨g, o + 3, none⟩ = some (.int .i64 q) ∧ w'.cell? ⟨g, o + 4, none⟩ = some (.int .i64 s) ∧ w'.cell? ⟨g, o + 5, none⟩ = some (.int .i64 v)) ∧
  w'.cell? ⟨g', o', none⟩ = some (.int .i64 p') ∧ w'.cell? ⟨g', o' + 1, none⟩ = some (.int .i64 m') ∧ w'.cell? ⟨g', o' + 2, none⟩ = some (.int .i64 b') ∧
    w'.cell? ⟨g', o' + 3, none⟩ = some (.int .i64 q') ∧ w'.cell? ⟨g', o' + 4, none⟩ = some (.int .i64 s') ∧ w'.cell? ⟨g', o' + 5, none⟩ = some (.int .i64 v')
theorem CD.later {w W W' : World} {g o : Nat} {p m b q s v : Int} {g' o' : Nat} {p' m' b' q' s' v' : Int} (hb : Below W.heap.size W W') (h : CD w g o p m b q s v g' o' p' m' b' q' s' v' W) : CD w g o p m b q s v g' o' p' m' b' q' s' v' W' := by
  obtain ⟨h0, ⟨h1, h2, h3, h4, h5, h6⟩, k1, k2, k3, k4, k5, k6⟩ := h
  exact ⟨h0.trans (hb.mono h0.size), ⟨cell_later hb h1, cell_later hb h2, cell_later hb h3, cell_later hb h4, cell_later hb h5, cell_later hb h6⟩, cell_later hb k1, cell_later hb k2, cell_later hb k3, cell_later hb k4, cell_later hb k5, cell_later hb k6⟩

end Go.Proofs.YtokkmnednhigmaeDoor
/- What railsame.Table answers at two tables that are the same. -/
namespace Go.Proofs.YtokkmnednhigmaeDoor
open Go.RowKit
set_option linter.unusedSimpArgs false
set_option linter.unusedVariables false

set_option maxHeartbeats 2000000 in
set_option maxRecDepth 100000 in
theorem tabs_any (ao : Option Addr) (n cap : Nat) (ao2 : Option Addr) (n2 cap2 : Nat) (L : List Ru) (w : World) (hs : SR w (.slice ao n cap) L) (ht : SR w (.slice ao2 n2 cap2) L) :
    Calls Tryd.prog 26 #[.slice ao n cap, .slice ao2 n2 cap2] w fun e w' => e = .returned (.bool true) ∧ Below w.heap.size w w' := by
  obtain ⟨ao', n', cap', e, hn, hn2, hn3, ha⟩ := hs.form
  cases e
  obtain ⟨ao', n', cap', e, hm, hm2, hm3, hb⟩ := ht.form
  cases e
  obtain rfl : n = n2 := by omega
  have HN : Hid (L.length = n) := hn
  have HA : Hid (0 < n → ∃ g o, ao = some ⟨g, o, none⟩ ∧ RAt w g o L ∧ cap ≤ maxLen) := ha
  have HA2 : Hid (0 < n → ∃ g o, ao2 = some ⟨g, o, none⟩ ∧ RAt w g o L ∧ cap2 ≤ maxLen) := hb
  have hn63 : n ≤ 9223372036854775807 := by unfold maxLen at hn2; omega
  clear hs ht hn ha hm hb hn2 hm2
  go_enter Tryd.func26, Tryd.ntmps26
  go_wp2
  go_loopw [5] (fun i wr => ∃ k : Nat, k ≤ n ∧ i = .int .i64 k ∧ Below w.heap.size w wr) (fun i _ => n - (intOf i).toNat)
  case atStart => exact ⟨0, by omega, rfl, Below.refl _ _⟩
  case round =>
    obtain ⟨k, hk, rfl, hB⟩ := hrel
    have HB : Hid (Below w.heap.size w wr) := hB
    by_cases hlt : k < n
    · obtain ⟨g, og, hao, hc, _⟩ := HA.out (by omega)
      obtain ⟨g2, og2, hao2, hc2, _⟩ := HA2.out (by omega)
      subst hao hao2
      obtain ⟨p, m, b, q, s, v, hkl, hLk, q0, q1, q2, q3, q4, q5⟩ := (hc.later hB).at HN.out hlt
      obtain ⟨p', m', b', q', s', v', _, hLk2, r0, r1, r2, r3, r4, r5⟩ := (hc2.later hB).at HN.out hlt
      rw [hLk] at hLk2
      simp only [Ru.mk.injEq] at hLk2
      obtain ⟨rfl, rfl, rfl, rfl, rfl, rfl⟩ := hLk2
      have HCE : Hid (CD w g (og + k * 6) p m b q s v g2 (og2 + k * 6) p m b q s v wr) := ⟨hB, ⟨q0, q1, q2, q3, q4, q5⟩, r0, r1, r2, r3, r4, r5⟩
      clear q0 q1 q2 q3 q4 q5 r0 r1 r2 r3 r4 r5 hB hc hc2 hLk HA HA2
      go_upto_region 6 with fail
      have kb0 : (0 : Int) ≤ (k : Int) := by omega
      have kb1 : (k : Int) < (n : Int) := by omega
      go_cut [25] from 11 to 25 (fun c w' => c = .bool false ∧ Below w.heap.size w w')
      case first =>
        as_aux_lemma =>
          refine wp_region_quiet (C := CD w g (og + k * 6) p m b q s v g2 (og2 + k * 6) p m b q s v) (by kernel_rfl) (by kernel_rfl) (CD.later (W := wr) (Below.drew (Below.refl _ _)) HCE.out) ?_
          simp only [List.toList_toArray]
          go_big_quiet_want
          refine quiet_val (v := .slice (some ⟨g, og, none⟩) n cap) (fun w' hC => ?_) ?_
          · obtain ⟨z0, ⟨z1, z2, z3, z4, z5, z6⟩, y1, y2, y3, y4, y5, y6⟩ := hC
            go_simp
          simp only [Act.put, List.setIfInBounds_toArray, List.set_cons_zero, List.set_cons_succ]
          go_big_quiet_on
          go_big_quiet_want
          refine quiet_val (v := .int .i64 (k : Int)) (fun w' hC => ?_) ?_
          · obtain ⟨z0, ⟨z1, z2, z3, z4, z5, z6⟩, y1, y2, y3, y4, y5, y6⟩ := hC
            go_simp
          simp only [Act.put, List.setIfInBounds_toArray, List.set_cons_zero, List.set_cons_succ]
          go_big_quiet_on
          go_big_quiet_want
          refine quiet_val (v := .pointer (some ⟨g, og + k * 6, none⟩)) (fun w' hC => ?_) ?_
          · obtain ⟨z0, ⟨z1, z2, z3, z4, z5, z6⟩, y1, y2, y3, y4, y5, y6⟩ := hC
            go_simp
          simp only [Act.put, List.setIfInBounds_toArray, List.set_cons_zero, List.set_cons_succ]
          go_big_quiet_on
          go_big_quiet_want
          refine quiet_val (v := .agg #[.int .i64 p, .int .i64 m, .int .i64 b, .int .i64 q, .int .i64 s, .int .i64 v]) (fun w' hC => ?_) ?_
          · obtain ⟨z0, ⟨z1, z2, z3, z4, z5, z6⟩, y1, y2, y3, y4, y5, y6⟩ := hC
            go_simp
          simp only [Act.put, List.setIfInBounds_toArray, List.set_cons_zero, List.set_cons_succ]
          go_big_quiet_on
          go_big_quiet_want
          refine quiet_val (v := .slice (some ⟨g2, og2, none⟩) n cap2) (fun w' hC => ?_) ?_
          · obtain ⟨z0, ⟨z1, z2, z3, z4, z5, z6⟩, y1, y2, y3, y4, y5, y6⟩ := hC
            go_simp
          simp only [Act.put, List.setIfInBounds_toArray, List.set_cons_zero, List.set_cons_succ]
          go_big_quiet_on
          go_big_quiet_want
          refine quiet_val (v := .int .i64 (k : Int)) (fun w' hC => ?_) ?_
          · obtain ⟨z0, ⟨z1, z2, z3, z4, z5, z6⟩, y1, y2, y3, y4, y5, y6⟩ := hC
            go_simp
          simp only [Act.put, List.setIfInBounds_toArray, List.set_cons_zero, List.set_cons_succ]
          go_big_quiet_on
          go_big_quiet_want
          refine quiet_val (v := .pointer (some ⟨g2, og2 + k * 6, none⟩)) (fun w' hC => ?_) ?_
          · obtain ⟨z0, ⟨z1, z2, z3, z4, z5, z6⟩, y1, y2, y3, y4, y5, y6⟩ := hC
            go_simp
          simp only [Act.put, List.setIfInBounds_toArray, List.set_cons_zero, List.set_cons_succ]
          go_big_quiet_on
          go_big_quiet_want
          refine quiet_val (v := .agg #[.int .i64 p, .int .i64 m, .int .i64 b, .int .i64 q, .int .i64 s, .int .i64 v]) (fun w' hC => ?_) ?_
          · obtain ⟨z0, ⟨z1, z2, z3, z4, z5, z6⟩, y1, y2, y3, y4, y5, y6⟩ := hC
            go_simp
          simp only [Act.put, List.setIfInBounds_toArray, List.set_cons_zero, List.set_cons_succ]
          go_big_quiet_on
          go_big_quiet_want
          refine quiet_val (v := .bool false) (fun w' hC => ?_) ?_
          · obtain ⟨z0, ⟨z1, z2, z3, z4, z5, z6⟩, y1, y2, y3, y4, y5, y6⟩ := hC
            go_simp
          simp only [Act.put, List.setIfInBounds_toArray, List.set_cons_zero, List.set_cons_succ]
          go_big_quiet_on
          refine wpQuiet_nil ?_
          intro w' hC
          go_wp2_with fail
          go_meet
          case rel => exact ⟨rfl, hC.1⟩
      case rest =>
        obtain ⟨rfl, hB2⟩ := hcut
        clear HCE
        go_wp2
        go_roundw
        case rel => exact ⟨k + 1, by omega, by go_num, hB2⟩
        case measure => simp [intOf]; omega
    · obtain rfl : k = n := by omega
      go_wp2
      go_ret
      exact ⟨rfl, HB.out⟩
end Go.Proofs.YtokkmnednhigmaeDoor
/- What railsame.Net answers of two nets that are the same. -/
namespace Go.Proofs.YtokkmnednhigmaeDoor
open Go.RowKit
set_option linter.unusedSimpArgs false
set_option linter.unusedVariables false

/-- Two boxes of nets. -/
def NN (W : World) (B : Nat) (S : Int) (a1 a2 a3 : Value) (S' : Int) (b1 b2 b3 : Value) : Prop := NeBox W B S a1 a2 a3 ∧ NeBox W (B + 1) S' b1 b2 b3
theorem nn_new (w : World) (S : Int) (a1 a2 a3 : Value) (S' : Int) (b1 b2 b3 : Value) (t : TypeId) : NN ((w.alloc (Obj.cells #[.int .i64 S, a1, a2, a3] t)).alloc (Obj.cells #[.int .i64 S', b1, b2, b3] t)) w.heap.size S a1 a2 a3 S' b1 b2 b3 := by
  refine ⟨(nebox_new w S a1 a2 a3 t).later ((Below.refl _ _).alloc (Nat.le_refl _) _), ?_⟩
  have := nebox_new (w.alloc (Obj.cells #[.int .i64 S, a1, a2, a3] t)) S' b1 b2 b3 t
  simpa using this
theorem NN.later {W W' : World} {B : Nat} {S : Int} {a1 a2 a3 : Value} {S' : Int} {b1 b2 b3 : Value} (h : NN W B S a1 a2 a3 S' b1 b2 b3) (hb : Below W.heap.size W W') : NN W' B S a1 a2 a3 S' b1 b2 b3 := ⟨h.1.later hb, h.2.later hb⟩
theorem NeBox.grown {W W' : World} {g : Nat} {S : Int} {v1 v2 v3 : Value} {row : Option Nat} (h : NeBox W g S v1 v2 v3) (hg : W.grownBy W' row) (hne : some g ≠ row) : NeBox W' g S v1 v2 v3 :=
  ⟨hg.cell h.1 hne, hg.cell h.2.1 hne, hg.cell h.2.2.1 hne, hg.cell h.2.2.2 hne⟩
theorem NN.grown {W W' : World} {B : Nat} {S : Int} {a1 a2 a3 : Value} {S' : Int} {b1 b2 b3 : Value} {row : Option Nat} (h : NN W B S a1 a2 a3 S' b1 b2 b3) (hg : W.grownBy W' row) (hr : ∀ g, row = some g → B + 2 ≤ g) : NN W' B S a1 a2 a3 S' b1 b2 b3 :=
  ⟨h.1.grown hg (fun e => by have := hr _ e.symm; omega), h.2.grown hg (fun e => by have := hr _ e.symm; omega)⟩
/-- Two boxes, and a table of each. -/
def NC (wr : World) (B : Nat) (S : Int) (a1 a2 a3 : Value) (S' : Int) (b1 b2 b3 : Value) (g q : Nat) (u : Value) (f p : Nat) (v : Value) (L M : List Ru) (w' : World) : Prop :=
  Below wr.heap.size wr w' ∧ NN w' B S a1 a2 a3 S' b1 b2 b3 ∧ w'.cell? ⟨g, q, none⟩ = some u ∧ w'.cell? ⟨f, p, none⟩ = some v ∧ SR w' u L ∧ SR w' v M
theorem NC.later {wr W W' : World} {B : Nat} {S : Int} {a1 a2 a3 : Value} {S' : Int} {b1 b2 b3 : Value} {g q : Nat} {u : Value} {f p : Nat} {v : Value} {L M : List Ru} (hb : Below W.heap.size W W') (h : NC wr B S a1 a2 a3 S' b1 b2 b3 g q u f p v L M W) : NC wr B S a1 a2 a3 S' b1 b2 b3 g q u f p v L M W' :=
  ⟨h.1.trans (hb.mono h.1.size), h.2.1.later hb, cell_later hb h.2.2.1, cell_later hb h.2.2.2.1, h.2.2.2.2.1.later hb, h.2.2.2.2.2.later hb⟩
set_option maxHeartbeats 4000000 in
set_option maxRecDepth 100000 in
theorem smNet_any (S : Int) (ao : Option Addr) (n cap : Nat) (ao2 : Option Addr) (n2 cap2 : Nat) (ao3 : Option Addr) (n3 cap3 : Nat) (bo : Option Addr) (m dap : Nat) (bo2 : Option Addr) (m2 dap2 : Nat) (bo3 : Option Addr) (m3 dap3 : Nat) (Ls : List ((Int × Int) × (Int × Int))) (Hs : List (ByteArray × (Int × Int))) (Ts : List (List Ru)) (w : World)
    (hL : GS lnkE w (.slice ao n cap) Ls) (hH : GS hstE w (.slice ao2 n2 cap2) Hs) (hT : TS w (.slice ao3 n3 cap3) Ts) (hL' : GS lnkE w (.slice bo m dap) Ls) (hH' : GS hstE w (.slice bo2 m2 dap2) Hs) (hT' : TS w (.slice bo3 m3 dap3) Ts) :
    Calls Tryd.prog 9 #[.agg #[.int .i64 S, .slice ao n cap, .slice ao2 n2 cap2, .slice ao3 n3 cap3], .agg #[.int .i64 S, .slice bo m dap, .slice bo2 m2 dap2, .slice bo3 m3 dap3]] w fun e w' => e = .returned (.bool true) ∧ Below w.heap.size w w' := by
  have hb0 : Below w.heap.size w ((w.alloc (Obj.cells #[.int .i64 S, .slice ao n cap, .slice ao2 n2 cap2, .slice ao3 n3 cap3] 28)).alloc (Obj.cells #[.int .i64 S, .slice bo m dap, .slice bo2 m2 dap2, .slice bo3 m3 dap3] 28)) := ((Below.refl _ _).alloc (Nat.le_refl _) _).alloc (by simp) _
  have HNN := nn_new w S (.slice ao n cap) (.slice ao2 n2 cap2) (.slice ao3 n3 cap3) S (.slice bo m dap) (.slice bo2 m2 dap2) (.slice bo3 m3 dap3) 28
  have HL1 := hL.later hb0
  have HL2 := hL'.later hb0
  have HH1 := hH.later hb0
  have HH2 := hH'.later hb0
  have HT1 : Hid (∀ W, Below w.heap.size w W → TS W (.slice ao3 n3 cap3) Ts ∧ TS W (.slice bo3 m3 dap3) Ts) := fun W h => ⟨hT.later h, hT'.later h⟩
  have HB0 : Hid (Below w.heap.size w ((w.alloc (Obj.cells #[.int .i64 S, .slice ao n cap, .slice ao2 n2 cap2, .slice ao3 n3 cap3] 28)).alloc (Obj.cells #[.int .i64 S, .slice bo m dap, .slice bo2 m2 dap2, .slice bo3 m3 dap3] 28))) := hb0
  obtain ⟨_, _, _, e, hn, hn2, hn3, ha⟩ := hT.form
  cases e
  obtain ⟨_, _, _, e, hm, hm2, hm3, hb⟩ := hT'.form
  cases e
  obtain rfl : n3 = m3 := by omega
  have HN : Hid (Ts.length = n3) := hn
  have HA : Hid (0 < n3 → ∃ g o, ao3 = some ⟨g, o, none⟩ ∧ TAt w g o Ts ∧ cap3 ≤ maxLen) := ha
  have HA2 : Hid (0 < n3 → ∃ g o, bo3 = some ⟨g, o, none⟩ ∧ TAt w g o Ts ∧ dap3 ≤ maxLen) := hb
  have n63 : n3 ≤ 9223372036854775807 := by unfold maxLen at hn2; omega
  have e3 : ((n3 : Int) == (n3 : Int)) = true := by simp
  clear hL hL' hH hH' hT hT' hn ha hm hb hn2 hm2 hb0
  go_enter Tryd.func9, Tryd.ntmps9
  go_wp2_with fail
  refine (smTopo_any S ao n cap ao2 n2 cap2 Ls Hs S bo m dap bo2 m2 dap2 Ls Hs _ HL1 HH1 HL2 HH2).mono ?_
  rintro e w1 ⟨rfl, hb1⟩
  rw [tpB_iff.2 ⟨rfl, rfl, rfl⟩]
  have HB1 : Hid (Below w.heap.size w w1) := HB0.out.trans (hb1.mono HB0.out.size)
  have HN1 : Hid (NN w1 w.heap.size S (.slice ao n cap) (.slice ao2 n2 cap2) (.slice ao3 n3 cap3) S (.slice bo m dap) (.slice bo2 m2 dap2) (.slice bo3 n3 dap3)) := HNN.later hb1
  obtain ⟨⟨p0, p1, p2, p3⟩, s0, s1, s2, s3⟩ := HNN.later hb1
  have hlt1 : w.heap.size < w1.heap.size := World.block_lt_of_cell? _ _ p0
  have hlt2 : w.heap.size + 1 < w1.heap.size := World.block_lt_of_cell? _ _ s0
  clear hb1 HL1 HL2 HH1 HH2 HB0 HNN
  go_wp2
  go_loopw [6] (fun i wr => ∃ k : Nat, k ≤ n3 ∧ i = .int .i64 k ∧ NN wr w.heap.size S (.slice ao n cap) (.slice ao2 n2 cap2) (.slice ao3 n3 cap3) S (.slice bo m dap) (.slice bo2 m2 dap2) (.slice bo3 n3 dap3) ∧ Below w.heap.size w wr) (fun i _ => n3 - (intOf i).toNat)
  case atStart => exact ⟨0, by omega, rfl, HN1.out, HB1.out⟩
  case round =>
    obtain ⟨k, hk, rfl, hX, hB⟩ := hrel
    clear HN1 p0 p1 p2 p3 s0 s1 s2 s3 hlt1 hlt2 HB1
    have HB : Hid (Below w.heap.size w wr) := hB
    have HX : Hid (NN wr w.heap.size S (.slice ao n cap) (.slice ao2 n2 cap2) (.slice ao3 n3 cap3) S (.slice bo m dap) (.slice bo2 m2 dap2) (.slice bo3 n3 dap3)) := hX
    obtain ⟨⟨p0, p1, p2, p3⟩, s0, s1, s2, s3⟩ := hX
    have hlt1 : w.heap.size < wr.heap.size := World.block_lt_of_cell? _ _ p0
    have hlt2 : w.heap.size + 1 < wr.heap.size := World.block_lt_of_cell? _ _ s0
    by_cases hlt : k < n3
    · obtain ⟨g, og, hao, hc, _⟩ := HA.out (by omega)
      obtain ⟨f, of, hbo, hd, _⟩ := HA2.out (by omega)
      subst hao hbo
      obtain ⟨a3, l3, c3, r0, hG3⟩ := (hc.later hB) k (by rw [HN.out]; exact hlt)
      obtain ⟨a4, l4, c4, r1, hG4⟩ := (hd.later hB) k (by rw [HN.out]; exact hlt)
      have HCL : Hid (NC wr w.heap.size S (.slice ao n cap) (.slice ao2 n2 cap2) (.slice (some ⟨g, og, none⟩) n3 cap3) S (.slice bo m dap) (.slice bo2 m2 dap2) (.slice (some ⟨f, of, none⟩) n3 dap3) g (og + k) (.slice a3 l3 c3) f (of + k) (.slice a4 l4 c4) (Ts[k]'(by rw [HN.out]; exact hlt)) (Ts[k]'(by rw [HN.out]; exact hlt)) wr) := ⟨Below.refl _ _, HX.out, r0, r1, hG3, hG4⟩
      have kb0 : (0 : Int) ≤ (k : Int) := by omega
      have kb1 : (k : Int) < (n3 : Int) := by omega
      clear hc hd hB r0 r1 hG3 hG4
      go_upto_region 7 with fail
      clear p0 p1 p2 p3 s0 s1 s2 s3
      refine wp_region_quiet (C := NC wr w.heap.size S (.slice ao n cap) (.slice ao2 n2 cap2) (.slice (some ⟨g, og, none⟩) n3 cap3) S (.slice bo m dap) (.slice bo2 m2 dap2) (.slice (some ⟨f, of, none⟩) n3 dap3) g (og + k) (.slice a3 l3 c3) f (of + k) (.slice a4 l4 c4) (Ts[k]'(by rw [HN.out]; exact hlt)) (Ts[k]'(by rw [HN.out]; exact hlt))) (by kernel_rfl) (by kernel_rfl) (NC.later (W := wr) (Below.drew (Below.refl _ _)) HCL.out) ?_
      simp only [List.toList_toArray]
      go_big_quiet_want
      refine quiet_val (v := .pointer (some ⟨w.heap.size, 3, none⟩)) (fun w' hC => ?_) ?_
      · obtain ⟨z, ⟨⟨z0, z1, z2, z3⟩, y0, y1, y2, y3⟩, x0, x1, x2, x3⟩ := hC
        go_simp
      simp only [Act.put, List.setIfInBounds_toArray, List.set_cons_zero, List.set_cons_succ]
      go_big_quiet_on
      go_big_quiet_want
      refine quiet_val (v := .slice (some ⟨g, og, none⟩) n3 cap3) (fun w' hC => ?_) ?_
      · obtain ⟨z, ⟨⟨z0, z1, z2, z3⟩, y0, y1, y2, y3⟩, x0, x1, x2, x3⟩ := hC
        go_simp
      simp only [Act.put, List.setIfInBounds_toArray, List.set_cons_zero, List.set_cons_succ]
      go_big_quiet_on
      go_big_quiet_want
      refine quiet_val (v := .int .i64 (k : Int)) (fun w' hC => ?_) ?_
      · obtain ⟨z, ⟨⟨z0, z1, z2, z3⟩, y0, y1, y2, y3⟩, x0, x1, x2, x3⟩ := hC
        go_simp
      simp only [Act.put, List.setIfInBounds_toArray, List.set_cons_zero, List.set_cons_succ]
      go_big_quiet_on
      go_big_quiet_want
      refine quiet_val (v := .pointer (some ⟨g, og + k, none⟩)) (fun w' hC => ?_) ?_
      · obtain ⟨z, ⟨⟨z0, z1, z2, z3⟩, y0, y1, y2, y3⟩, x0, x1, x2, x3⟩ := hC
        go_simp
      simp only [Act.put, List.setIfInBounds_toArray, List.set_cons_zero, List.set_cons_succ]
      go_big_quiet_on
      go_big_quiet_want
      refine quiet_val (v := .slice a3 l3 c3) (fun w' hC => ?_) ?_
      · obtain ⟨z, ⟨⟨z0, z1, z2, z3⟩, y0, y1, y2, y3⟩, x0, x1, x2, x3⟩ := hC
        go_simp
      simp only [Act.put, List.setIfInBounds_toArray, List.set_cons_zero, List.set_cons_succ]
      go_big_quiet_on
      go_big_quiet_want
      refine quiet_val (v := .pointer (some ⟨w.heap.size + 1, 3, none⟩)) (fun w' hC => ?_) ?_
      · obtain ⟨z, ⟨⟨z0, z1, z2, z3⟩, y0, y1, y2, y3⟩, x0, x1, x2, x3⟩ := hC
        go_simp
      simp only [Act.put, List.setIfInBounds_toArray, List.set_cons_zero, List.set_cons_succ]
      go_big_quiet_on
      go_big_quiet_want
      refine quiet_val (v := .slice (some ⟨f, of, none⟩) n3 dap3) (fun w' hC => ?_) ?_
      · obtain ⟨z, ⟨⟨z0, z1, z2, z3⟩, y0, y1, y2, y3⟩, x0, x1, x2, x3⟩ := hC
        go_simp
      simp only [Act.put, List.setIfInBounds_toArray, List.set_cons_zero, List.set_cons_succ]
      go_big_quiet_on
      go_big_quiet_want
      refine quiet_val (v := .int .i64 (k : Int)) (fun w' hC => ?_) ?_
      · obtain ⟨z, ⟨⟨z0, z1, z2, z3⟩, y0, y1, y2, y3⟩, x0, x1, x2, x3⟩ := hC
        go_simp
      simp only [Act.put, List.setIfInBounds_toArray, List.set_cons_zero, List.set_cons_succ]
      go_big_quiet_on
      go_big_quiet_want
      refine quiet_val (v := .pointer (some ⟨f, of + k, none⟩)) (fun w' hC => ?_) ?_
      · obtain ⟨z, ⟨⟨z0, z1, z2, z3⟩, y0, y1, y2, y3⟩, x0, x1, x2, x3⟩ := hC
        go_simp
      simp only [Act.put, List.setIfInBounds_toArray, List.set_cons_zero, List.set_cons_succ]
      go_big_quiet_on
      go_big_quiet_want
      refine quiet_val (v := .slice a4 l4 c4) (fun w' hC => ?_) ?_
      · obtain ⟨z, ⟨⟨z0, z1, z2, z3⟩, y0, y1, y2, y3⟩, x0, x1, x2, x3⟩ := hC
        go_simp
      simp only [Act.put, List.setIfInBounds_toArray, List.set_cons_zero, List.set_cons_succ]
      go_big_quiet_on
      go_big_quiet_want
      refine quiet_call (f := 26) (args := #[.slice a3 l3 c3, .slice a4 l4 c4]) (v := .bool true) (fun w' => ?_) (fun w' hC => (tabs_any a3 l3 c3 a4 l4 c4 _ w' hC.2.2.2.2.1 hC.2.2.2.2.2).mono (fun e w2 h2 => ⟨h2.1, NC.later h2.2 hC⟩)) ?_
      · go_simp
      simp only [Act.put, List.setIfInBounds_toArray, List.set_cons_zero, List.set_cons_succ]
      go_big_quiet_on
      go_big_quiet_want
      refine quiet_val (v := .bool true) (fun w' hC => ?_) ?_
      · obtain ⟨z, ⟨⟨z0, z1, z2, z3⟩, y0, y1, y2, y3⟩, x0, x1, x2, x3⟩ := hC
        go_simp
      simp only [Act.put, List.setIfInBounds_toArray, List.set_cons_zero, List.set_cons_succ]
      go_big_quiet_on
      refine wpQuiet_nil ?_
      intro w' hC
      have HBY : Hid (Below wr.heap.size wr w') := hC.1
      have HXY : Hid (NN w' w.heap.size S (.slice ao n cap) (.slice ao2 n2 cap2) (.slice (some ⟨g, og, none⟩) n3 cap3) S (.slice bo m dap) (.slice bo2 m2 dap2) (.slice (some ⟨f, of, none⟩) n3 dap3)) := hC.2.1
      clear hC
      go_wp2
      go_roundw
      case rel => exact ⟨k + 1, by omega, by go_num, HXY.out, HB.out.trans (HBY.out.mono HB.out.size)⟩
      case measure => simp [intOf]; omega
    · obtain rfl : k = n3 := by omega
      clear hB
      go_wp2
      go_ret
      exact ⟨rfl, HB.out⟩
end Go.Proofs.YtokkmnednhigmaeDoor
/- Changes of nets in plain lists: op by op, what takes all back, what is between two. No program in it. -/
namespace Go.Proofs.YtokkmnednhigmaeDoor
open Go.RowKit
set_option linter.unusedVariables false

/-- The fault of ops, one by one, of tables that are right. -/
def caN (S : Int) : List (List Ru) → List Op8 → Int
  | _, [] => 0
  | Ts, o :: l => if swB S o.w = true then (if doN (taT Ts o.w) o.a o.r = 0 then caN S (Ts.set (o.w - 1).toNat (doL (taT Ts o.w) o.a o.r)) l else doN (taT Ts o.w) o.a o.r) else 1
/-- What they make. -/
def caT : List (List Ru) → List Op8 → List (List Ru)
  | Ts, [] => Ts
  | Ts, o :: l => caT (Ts.set (o.w - 1).toNat (doL (taT Ts o.w) o.a o.r)) l
/-- Each table is right. -/
def tsOk (Ts : List (List Ru)) : Prop := ∀ L ∈ Ts, tbN L = 0
/-- Each table has the rules of the other one's. -/
def tsPm (As Bs : List (List Ru)) : Prop := As.length = Bs.length ∧ ∀ k, (As.getD k []).Perm (Bs.getD k [])
def tu1 (o : Op8) : Op8 := ⟨o.w, !o.a, o.r⟩
/-- What takes all back: the last first. -/
def tuL (l : List Op8) : List Op8 := (l.map tu1).reverse

theorem ca_len (Ts : List (List Ru)) (l : List Op8) : (caT Ts l).length = Ts.length := by
  induction l generalizing Ts with
  | nil => rfl
  | cons o l ih => rw [caT, ih, List.length_set]
theorem ca_app (S : Int) (Ts : List (List Ru)) (a b : List Op8) : caN S Ts (a ++ b) = if caN S Ts a = 0 then caN S (caT Ts a) b else caN S Ts a := by
  induction a generalizing Ts with
  | nil => simp [caN, caT]
  | cons o l ih =>
    rw [List.cons_append, caN, caN, caT]
    by_cases h1 : swB S o.w = true
    · rw [if_pos h1, if_pos h1]
      by_cases h2 : doN (taT Ts o.w) o.a o.r = 0
      · rw [if_pos h2, if_pos h2, ih]
      · rw [if_neg h2, if_neg h2, if_neg h2]
    · rw [if_neg h1, if_neg h1]; rfl
theorem cj_app (Ts : List (List Ru)) (a b : List Op8) : caT Ts (a ++ b) = caT (caT Ts a) b := by
  induction a generalizing Ts with
  | nil => rfl
  | cons o l ih => rw [List.cons_append, caT, caT, ih]
theorem ca_cons {S : Int} {Ts : List (List Ru)} {o : Op8} {l : List Op8} (h : caN S Ts (o :: l) = 0) :
    swB S o.w = true ∧ doN (taT Ts o.w) o.a o.r = 0 ∧ caN S (Ts.set (o.w - 1).toNat (doL (taT Ts o.w) o.a o.r)) l = 0 := by
  rw [caN] at h
  by_cases h1 : swB S o.w = true
  · rw [if_pos h1] at h
    by_cases h2 : doN (taT Ts o.w) o.a o.r = 0
    · rw [if_pos h2] at h; exact ⟨h1, h2, h⟩
    · rw [if_neg h2] at h; exact absurd h h2
  · rw [if_neg h1] at h; omega
theorem ta_mem {Ts : List (List Ru)} {w : Int} (h1 : 1 ≤ w) (h2 : w ≤ Ts.length) : taT Ts w ∈ Ts := by
  have h : (w - 1).toNat < Ts.length := by omega
  rw [taT, List.getD_eq_getElem?_getD, List.getElem?_eq_getElem h]
  exact List.getElem_mem h

/-- What taking away asks. -/
theorem take_yes {L : List Ru} {r : Ru} (h : doN L false r = 0) : tbN L = 0 ∧ ∃ A B, L = A ++ r :: B ∧ doL L false r = A ++ B := by
  have h0 := h
  unfold doN at h
  by_cases h1 : tbN L = 0
  · rw [if_pos h1] at h
    by_cases h2 : r.n = 0
    · rw [if_pos h2, chN] at h
      simp only [Bool.false_eq_true, if_false] at h
      cases h3 : inB L r
      · rw [h3] at h; simp at h
      · obtain ⟨A, B, rfl⟩ := List.append_of_mem (in_iff.1 h3)
        exact ⟨h1, A, B, rfl, (do_take h1).2⟩
    · rw [if_neg h2] at h; exact absurd h h2
  · rw [if_neg h1] at h; exact absurd h h1
theorem do_right {L : List Ru} {a : Bool} {r : Ru} (h : doN L a r = 0) : tbN (doL L a r) = 0 := by
  cases a with
  | true =>
    obtain ⟨h1, h2, h3, h4⟩ := add_yes h
    rw [(do_add h1 h2 h3 h4).2]
    exact tb_one h1 h2 h3 h4
  | false =>
    obtain ⟨h1, A, B, rfl, e⟩ := take_yes h
    rw [e]
    exact tb_sub h1 (List.Sublist.append (List.Sublist.refl _) (List.sublist_cons_self r B))
theorem ok_set {Ts : List (List Ru)} {k : Nat} {L : List Ru} (h : tsOk Ts) (hL : tbN L = 0) : tsOk (Ts.set k L) := by
  intro x hx
  rcases List.mem_or_eq_of_mem_set hx with h1 | rfl
  · exact h x h1
  · exact hL
theorem ca_right {S : Int} : ∀ {l : List Op8} {Ts : List (List Ru)}, tsOk Ts → caN S Ts l = 0 → tsOk (caT Ts l)
  | [], _, h, _ => h
  | o :: l, Ts, h, e => by
    obtain ⟨h1, h2, h3⟩ := ca_cons e
    rw [caT]
    exact ca_right (ok_set h (do_right h2)) h3

theorem tb_pm {L M : List Ru} (h : L.Perm M) (hM : tbN M = 0) : tbN L = 0 := by
  rw [tb_iff] at hM ⊢
  refine ⟨by rw [h.length_eq]; exact hM.1, fun r hr => hM.2.1 r (h.subset hr), ?_⟩
  exact h.symm.pairwise hM.2.2 (fun {a b} hk => by rw [key_sy]; exact hk)
theorem hit_pm {L M : List Ru} (h : L.Perm M) (r : Ru) : hitB L r = hitB M r := by
  rw [Bool.eq_iff_iff, hitB, hitB, List.any_eq_true, List.any_eq_true]
  exact ⟨fun ⟨x, hx, e⟩ => ⟨x, h.subset hx, e⟩, fun ⟨x, hx, e⟩ => ⟨x, h.symm.subset hx, e⟩⟩
/-- One op taken back, at a table that has the same rules. -/
theorem do_turn {L M : List Ru} {a : Bool} {r : Ru} (h : doN L a r = 0) (hM : M.Perm (doL L a r)) : doN M (!a) r = 0 ∧ (doL M (!a) r).Perm L := by
  have hr := tb_pm hM (do_right h)
  cases a with
  | true =>
    obtain ⟨h1, h2, h3, h4⟩ := add_yes h
    rw [(do_add h1 h2 h3 h4).2] at hM
    obtain ⟨A, B, rfl⟩ := List.append_of_mem (hM.symm.subset (show r ∈ L ++ [r] by simp))
    obtain ⟨d1, d2⟩ := do_take hr
    refine ⟨d1, ?_⟩
    show (doL (A ++ r :: B) false r).Perm L
    rw [d2]
    have e1 : (r :: (A ++ B)).Perm (r :: L) := (List.perm_middle.symm.trans hM).trans (List.perm_append_comm (l₁ := L) (l₂ := [r]))
    exact e1.cons_inv
  | false =>
    obtain ⟨h1, A, B, rfl, e⟩ := take_yes h
    rw [e] at hM
    have hk := (tb_iff.1 h1)
    have ok : r.ok = true := hk.2.1 r (by simp)
    have hh : hitB M r = false := by
      rw [hit_pm hM]
      simp only [hitB, List.any_eq_false]
      intro x hx hkey
      have hx2 : x ∈ A ++ r :: B := by
        rw [List.mem_append] at hx ⊢
        rcases hx with hx | hx
        · exact .inl hx
        · exact .inr (List.mem_cons_of_mem _ hx)
      have := tb_key h1 hx2 (by simp) hkey
      subst this
      have hn := tb_nodup h1
      rw [List.nodup_append] at hn
      rw [List.mem_append] at hx
      rcases hx with hx | hx
      · exact hn.2.2 x hx x (by simp) rfl
      · exact (List.nodup_cons.1 hn.2.1).1 hx
    have hl : M.length < 12 := by
      have := hM.length_eq
      have := hk.1
      simp at this ⊢
      rw [hM.length_eq, List.length_append]
      omega
    obtain ⟨d1, d2⟩ := do_add hr ok hh hl
    refine ⟨d1, ?_⟩
    show (doL M true r).Perm (A ++ r :: B)
    rw [d2]
    have e3 : (r :: (A ++ B)).Perm (A ++ r :: B) := List.perm_middle.symm
    exact ((hM.append_right [r]).trans (List.perm_append_comm (l₁ := A ++ B) (l₂ := [r]))).trans e3

theorem pm_rf (Ts : List (List Ru)) : tsPm Ts Ts := ⟨rfl, fun _ => List.Perm.refl _⟩
theorem getD_set (Ts : List (List Ru)) (k j : Nat) (L : List Ru) : (Ts.set k L).getD j [] = if j = k ∧ k < Ts.length then L else Ts.getD j [] := by
  rw [List.getD_eq_getElem?_getD, List.getElem?_set, List.getD_eq_getElem?_getD]
  by_cases h : k = j
  · subst h
    by_cases h2 : k < Ts.length
    · simp [h2]
    · rw [if_pos rfl, if_neg h2, if_neg (by omega), List.getElem?_eq_none (by omega)]
  · rw [if_neg h, if_neg (by omega)]
/-- Tables that are the same but for one. -/
theorem pm_off {As Bs : List (List Ru)} {k : Nat} {L : List Ru} (h : tsPm As (Bs.set k L)) {M : List Ru} (hM : M.Perm (Bs.getD k [])) : tsPm (As.set k M) Bs := by
  obtain ⟨h1, h2⟩ := h
  rw [List.length_set] at h1
  refine ⟨by rw [List.length_set]; exact h1, fun j => ?_⟩
  have h3 := h2 j
  rw [getD_set] at h3 ⊢
  by_cases e : j = k ∧ k < As.length
  · rw [if_pos e, e.1]
    exact hM
  · rw [if_neg e]
    rw [if_neg (by omega)] at h3
    exact h3
theorem ta_set {Ts : List (List Ru)} {w : Int} {L : List Ru} (h1 : 1 ≤ w) (h2 : w ≤ Ts.length) : taT (Ts.set (w - 1).toNat L) w = L := by
  have h : (w - 1).toNat < Ts.length := by omega
  rw [taT, List.getD_eq_getElem?_getD, List.getElem?_set_self h]
  rfl

/-- THERE AND BACK: what takes ops back, done behind them, has no fault, and each table has the rules that it had. -/
theorem ca_back {S : Int} : ∀ {l : List Op8} {Ts : List (List Ru)}, (Ts.length : Int) = S → caN S Ts l = 0 → caN S (caT Ts l) (tuL l) = 0 ∧ tsPm (caT (caT Ts l) (tuL l)) Ts
  | [], Ts, _, _ => ⟨rfl, pm_rf Ts⟩
  | o :: l, Ts, hS, e => by
    obtain ⟨h1, h2, h3⟩ := ca_cons e
    have hw := sw_of.1 h1
    obtain ⟨i1, i2⟩ := ca_back (l := l) (Ts := Ts.set (o.w - 1).toNat (doL (taT Ts o.w) o.a o.r)) (by rw [List.length_set]; exact hS) h3
    have et : tuL (o :: l) = tuL l ++ [tu1 o] := by simp [tuL]
    rw [et, caT, ca_app, if_pos i1, cj_app]
    have hp : (taT (caT (caT (Ts.set (o.w - 1).toNat (doL (taT Ts o.w) o.a o.r)) l) (tuL l)) o.w).Perm (doL (taT Ts o.w) o.a o.r) := by
      have := i2.2 (o.w - 1).toNat
      have e2 := ta_set (Ts := Ts) (L := doL (taT Ts o.w) o.a o.r) hw.1 (by omega)
      rw [taT] at e2
      rw [e2] at this
      exact this
    obtain ⟨d1, d2⟩ := do_turn h2 hp
    constructor
    · rw [caN]
      show (if swB S o.w = true then _ else _) = _
      rw [if_pos h1]
      show (if doN (taT _ o.w) (!o.a) o.r = 0 then _ else _) = _
      rw [if_pos d1, caN]
    · rw [caT, caT]
      exact pm_off i2 d2

theorem sm_pm {L M : List Ru} (h : L.Perm M) (hM : tbN M = 0) : twN L M = 0 ∧ smB L M = true := by
  have hL := tb_pm h hM
  have ht : twN L M = 0 := by rw [twN, if_pos hL, hM]
  refine ⟨ht, ?_⟩
  have hb : bey L M = [] := by
    rw [bey, List.filter_eq_nil_iff]
    intro r hr
    simp [in_iff.2 (h.subset hr)]
  rw [smB, if_pos ht, h.length_eq, hb]
  simp
/-- Two right tables are the same just if there is nothing between them. -/
theorem sm_df {A B : List Ru} (h : twN A B = 0) : smB A B = decide ((dfL A B).length = 0) := by
  obtain ⟨hA, hB⟩ : tbN A = 0 ∧ tbN B = 0 := by
    unfold twN at h
    by_cases h1 : tbN A = 0
    · rw [if_pos h1] at h; exact ⟨h1, h⟩
    · rw [if_neg h1] at h; exact absurd h h1
  have sub {X Y : List Ru} (e : bey X Y = []) : ∀ r ∈ X, r ∈ Y := by
    intro r hr
    rw [bey, List.filter_eq_nil_iff] at e
    have := e r hr
    simp at this
    exact in_iff.1 this
  rw [smB, if_pos h, dfL, if_pos h, Bool.eq_iff_iff]
  simp only [taken, added, List.length_append, List.length_map, Bool.and_eq_true, decide_eq_true_eq]
  constructor
  · rintro ⟨h1, h2⟩
    have hs := sub (List.length_eq_zero_iff.1 h2)
    rw [h2, Nat.zero_add]
    rw [List.length_eq_zero_iff, bey, List.filter_eq_nil_iff]
    intro r hr
    cases hi : inB A r
    · exfalso
      have hno : r ∉ A := fun hm => by rw [in_iff.2 hm] at hi; cases hi
      have := nodup_sub (M := r :: A) (L := B) (List.nodup_cons.2 ⟨hno, tb_nodup hA⟩) (fun x hx => by
        rcases List.mem_cons.1 hx with rfl | hx
        · exact hr
        · exact hs x hx)
      rw [List.length_cons] at this
      omega
    · simp
  · intro h1
    have e1 : (bey A B).length = 0 := by omega
    have e2 : (bey B A).length = 0 := by omega
    refine ⟨Nat.le_antisymm (nodup_sub (tb_nodup hA) (sub (List.length_eq_zero_iff.1 e1))) (nodup_sub (tb_nodup hB) (sub (List.length_eq_zero_iff.1 e2))), e1⟩

/-- Ops of one switch. -/
def ofS (w : Int) (l : List Op8) : List Op8 := l.map fun o => ⟨w, o.a, o.r⟩
theorem ca_of {S w : Int} (hs : swB S w = true) : ∀ {l : List Op8} {Ts : List (List Ru)}, (Ts.length : Int) = S → alN (taT Ts w) l = 0 → caN S Ts (ofS w l) = 0 ∧ caT Ts (ofS w l) = Ts.set (w - 1).toNat (alL (taT Ts w) l)
  | [], Ts, hS, _ => by
    have hw := sw_of.1 hs
    have h : (w - 1).toNat < Ts.length := by omega
    refine ⟨rfl, ?_⟩
    show Ts = Ts.set (w - 1).toNat (taT Ts w)
    rw [taT, List.getD_eq_getElem?_getD, List.getElem?_eq_getElem h]
    simp
  | o :: l, Ts, hS, e => by
    have hw := sw_of.1 hs
    rw [alN] at e
    by_cases h2 : doN (taT Ts w) o.a o.r = 0
    · rw [if_pos h2] at e
      have et := ta_set (Ts := Ts) (L := doL (taT Ts w) o.a o.r) hw.1 (by omega)
      obtain ⟨i1, i2⟩ := ca_of hs (l := l) (Ts := Ts.set (w - 1).toNat (doL (taT Ts w) o.a o.r)) (by rw [List.length_set]; exact hS) (by rw [et]; exact e)
      refine ⟨?_, ?_⟩
      · show caN S Ts (⟨w, o.a, o.r⟩ :: ofS w l) = 0
        rw [caN]
        show (if swB S w = true then (if doN (taT Ts w) o.a o.r = 0 then _ else _) else _) = _
        rw [if_pos hs, if_pos h2]
        exact i1
      · show caT Ts (⟨w, o.a, o.r⟩ :: ofS w l) = _
        rw [caT]
        show caT (Ts.set (w - 1).toNat (doL (taT Ts w) o.a o.r)) (ofS w l) = _
        rw [i2, et, List.set_set, alL, if_pos h2]
    · rw [if_neg h2] at e; exact absurd e h2
/-- What is between the first k tables of two nets. -/
def cdL (As Bs : List (List Ru)) : Nat → List Op8
  | 0 => []
  | k + 1 => cdL As Bs k ++ ofS (k + 1) (dfL (As.getD k []) (Bs.getD k []))
/-- The tables are the Same, one by one, the first k. -/
def csB (As Bs : List (List Ru)) : Nat → Bool
  | 0 => true
  | k + 1 => csB As Bs k && smB (As.getD k []) (Bs.getD k [])
theorem cs_iff {As Bs : List (List Ru)} : ∀ {k : Nat}, csB As Bs k = true ↔ ∀ j, j < k → smB (As.getD j []) (Bs.getD j []) = true
  | 0 => by simp [csB]
  | k + 1 => by
    rw [csB, Bool.and_eq_true, cs_iff]
    refine ⟨fun ⟨h1, h2⟩ j hj => ?_, fun h => ⟨fun j hj => h j (by omega), h k (by omega)⟩⟩
    by_cases e : j = k
    · rw [e]; exact h2
    · exact h1 j (by omega)
theorem cs_cd {As Bs : List (List Ru)} : ∀ {k : Nat}, (∀ j, j < k → twN (As.getD j []) (Bs.getD j []) = 0) → csB As Bs k = decide ((cdL As Bs k).length = 0)
  | 0, _ => rfl
  | k + 1, h => by
    rw [csB, cs_cd (k := k) (fun j hj => h j (by omega)), sm_df (h k (by omega)), cdL, List.length_append, ofS, List.length_map, Bool.eq_iff_iff]
    simp only [Bool.and_eq_true, decide_eq_true_eq]
    omega
/-- WHAT IS BETWEEN TWO MAKES OF THE ONE THE OTHER. -/
theorem ca_diff {S : Int} {As Bs : List (List Ru)} (hS : (As.length : Int) = S) (ht : ∀ j, j < As.length → twN (As.getD j []) (Bs.getD j []) = 0) : ∀ {k : Nat}, k ≤ As.length →
    caN S As (cdL As Bs k) = 0 ∧ ∀ j, (caT As (cdL As Bs k)).getD j [] = if j < k then alL (As.getD j []) (dfL (As.getD j []) (Bs.getD j [])) else As.getD j []
  | 0, _ => ⟨rfl, fun j => by simp [cdL, caT]⟩
  | k + 1, hk => by
    obtain ⟨i1, i2⟩ := ca_diff hS ht (k := k) (by omega)
    have hs : swB S ((k : Int) + 1) = true := sw_of.2 ⟨by omega, by omega⟩
    have e0 : ((k : Int) + 1 - 1).toNat = k := by omega
    have et : taT (caT As (cdL As Bs k)) ((k : Int) + 1) = As.getD k [] := by
      rw [taT, e0, i2, if_neg (by omega)]
    have hl : ((caT As (cdL As Bs k)).length : Int) = S := by rw [ca_len]; exact hS
    obtain ⟨c1, c2⟩ := ca_of hs hl (l := dfL (As.getD k []) (Bs.getD k [])) (by rw [et]; exact (al_diff (ht k (by omega))).1)
    rw [cdL]
    refine ⟨by rw [ca_app, if_pos i1]; exact c1, fun j => ?_⟩
    rw [cj_app, c2, et, e0]
    have hlen : k < (caT As (cdL As Bs k)).length := by rw [ca_len]; omega
    by_cases e : j = k
    · subst e
      rw [if_pos (by omega), List.getD_eq_getElem?_getD, List.getElem?_set_self hlen]
      rfl
    · rw [List.getD_eq_getElem?_getD, List.getElem?_set_ne (by omega), ← List.getD_eq_getElem?_getD, i2]
      by_cases h : j < k
      · rw [if_pos h, if_pos (by omega)]
      · rw [if_neg h, if_neg (by omega)]
theorem tu_len (l : List Op8) : (tuL l).length = l.length := by simp [tuL]
theorem cd_few {As Bs : List (List Ru)} (ht : ∀ j, twN (As.getD j []) (Bs.getD j []) = 0) : ∀ k, (cdL As Bs k).length ≤ 24 * k
  | 0 => by simp [cdL]
  | k + 1 => by
    have h1 := cd_few ht k
    have h2 : (dfL (As.getD k []) (Bs.getD k [])).length ≤ 24 := by
      have h := ht k
      rw [dfL, if_pos h]
      obtain ⟨hA, hB⟩ : tbN (As.getD k []) = 0 ∧ tbN (Bs.getD k []) = 0 := by
        unfold twN at h
        by_cases h1 : tbN (As.getD k []) = 0
        · rw [if_pos h1] at h; exact ⟨h1, h⟩
        · rw [if_neg h1] at h; exact absurd h h1
      have a := (tb_iff.1 hA).1
      have b := (tb_iff.1 hB).1
      have c : (bey (As.getD k []) (Bs.getD k [])).length ≤ (As.getD k []).length := List.length_filter_le _ _
      have d : (bey (Bs.getD k []) (As.getD k [])).length ≤ (Bs.getD k []).length := List.length_filter_le _ _
      simp only [taken, added, List.length_append, List.length_map]
      omega
    rw [cdL, List.length_append, ofS, List.length_map]
    omega

/-- The fault of ops at a net. -/
def cgN (S : Int) (Ls : List ((Int × Int) × (Int × Int))) (Hs : List (ByteArray × (Int × Int))) (Ts : List (List Ru)) (l : List Op8) : Int :=
  if ntN S Ls Hs Ts = 0 then (if 200 < l.length then 4 else caN S Ts l) else ntN S Ls Hs Ts
theorem ts_ok {Ts : List (List Ru)} (h : tsOk Ts) : ∀ n, tsTo Ts n = 0
  | 0 => rfl
  | n + 1 => by
    rw [tsTo, if_pos (ts_ok h n), List.getD_eq_getElem?_getD]
    by_cases e : n < Ts.length
    · rw [List.getElem?_eq_getElem e]; exact h _ (List.getElem_mem e)
    · rw [List.getElem?_eq_none (by omega)]; rfl
theorem ok_ts {Ts : List (List Ru)} (h : ∀ k, k < Ts.length → tbN (Ts.getD k []) = 0) : tsOk Ts := by
  intro L hL
  obtain ⟨k, hk, rfl⟩ := List.getElem_of_mem hL
  have := h k hk
  rw [List.getD_eq_getElem?_getD, List.getElem?_eq_getElem hk] at this
  exact this
theorem nt_of {S : Int} {Ls : List ((Int × Int) × (Int × Int))} {Hs : List (ByteArray × (Int × Int))} {Ts : List (List Ru)} (h1 : tpN S Ls Hs = 0) (h2 : (Ts.length : Int) = S) (h3 : tsOk Ts) : ntN S Ls Hs Ts = 0 := by
  rw [ntN, if_pos h1, if_pos h2, ts_ok h3]
theorem cg_0 {S : Int} {Ls : List ((Int × Int) × (Int × Int))} {Hs : List (ByteArray × (Int × Int))} {Ts : List (List Ru)} {l : List Op8} (h : cgN S Ls Hs Ts l = 0) : ntN S Ls Hs Ts = 0 ∧ l.length ≤ 200 ∧ caN S Ts l = 0 := by
  unfold cgN at h
  by_cases e : ntN S Ls Hs Ts = 0
  · rw [if_pos e] at h
    by_cases e2 : 200 < l.length
    · rw [if_pos e2] at h; omega
    · rw [if_neg e2] at h; exact ⟨e, by omega, h⟩
  · rw [if_neg e] at h; exact absurd h e
theorem cg_of {S : Int} {Ls : List ((Int × Int) × (Int × Int))} {Hs : List (ByteArray × (Int × Int))} {Ts : List (List Ru)} {l : List Op8} (h1 : ntN S Ls Hs Ts = 0) (h2 : l.length ≤ 200) (h3 : caN S Ts l = 0) : cgN S Ls Hs Ts l = 0 := by
  rw [cgN, if_pos h1, if_neg (by omega), h3]
/-- The net behind ops is right. -/
theorem nt_ca {S : Int} {Ls : List ((Int × Int) × (Int × Int))} {Hs : List (ByteArray × (Int × Int))} {Ts : List (List Ru)} {l : List Op8} (h : ntN S Ls Hs Ts = 0) (hl : caN S Ts l = 0) : ntN S Ls Hs (caT Ts l) = 0 := by
  obtain ⟨h1, h2, h3⟩ := nt_0 h
  exact nt_of h1 (by rw [ca_len]; exact h2) (ca_right (ok_ts h3) hl)
/-- In parts, or at once. -/
theorem cg_parts {S : Int} {Ls : List ((Int × Int) × (Int × Int))} {Hs : List (ByteArray × (Int × Int))} {Ts : List (List Ru)} {a b : List Op8} (h : cgN S Ls Hs Ts (a ++ b) = 0) :
    cgN S Ls Hs Ts a = 0 ∧ cgN S Ls Hs (caT Ts a) b = 0 := by
  obtain ⟨h1, h2, h3⟩ := cg_0 h
  rw [List.length_append] at h2
  rw [ca_app] at h3
  by_cases e : caN S Ts a = 0
  · rw [if_pos e] at h3
    exact ⟨cg_of h1 (by omega) e, cg_of (nt_ca h1 e) (by omega) h3⟩
  · rw [if_neg e] at h3; exact absurd h3 e
/-- Ops, and then what takes them back. -/
theorem cg_back {S : Int} {Ls : List ((Int × Int) × (Int × Int))} {Hs : List (ByteArray × (Int × Int))} {Ts : List (List Ru)} {l : List Op8} (h : cgN S Ls Hs Ts l = 0) :
    ntN S Ls Hs (caT Ts l) = 0 ∧ cgN S Ls Hs (caT Ts l) (tuL l) = 0 ∧ ntN S Ls Hs (caT (caT Ts l) (tuL l)) = 0 ∧ csB (caT (caT Ts l) (tuL l)) Ts Ts.length = true := by
  obtain ⟨h1, h2, h3⟩ := cg_0 h
  obtain ⟨t1, t2, t3⟩ := nt_0 h1
  obtain ⟨b1, b2⟩ := ca_back t2 h3
  have n1 := nt_ca h1 h3
  refine ⟨n1, cg_of n1 (by rw [tu_len]; exact h2) b1, nt_ca n1 b1, ?_⟩
  rw [cs_iff]
  intro j hj
  exact (sm_pm (b2.2 j) (t3 j hj)).2
/-- What is between two right nets with as many switches. -/
theorem cg_diff {S : Int} {Ls : List ((Int × Int) × (Int × Int))} {Hs : List (ByteArray × (Int × Int))} {As Bs : List (List Ru)} (hA : ntN S Ls Hs As = 0) (hB : ntN S Ls Hs Bs = 0) (hl : (cdL As Bs As.length).length ≤ 200) :
    cgN S Ls Hs As (cdL As Bs As.length) = 0 ∧ csB (caT As (cdL As Bs As.length)) Bs As.length = true := by
  obtain ⟨t1, t2, t3⟩ := nt_0 hA
  obtain ⟨s1, s2, s3⟩ := nt_0 hB
  have ht : ∀ j, j < As.length → twN (As.getD j []) (Bs.getD j []) = 0 := fun j hj => by rw [twN, if_pos (t3 j hj), s3 j (by omega)]
  obtain ⟨d1, d2⟩ := ca_diff t2 ht (Nat.le_refl _)
  refine ⟨cg_of hA hl d1, ?_⟩
  rw [cs_iff]
  intro j hj
  rw [d2, if_pos hj]
  exact (al_diff (ht j hj)).2.1
end Go.Proofs.YtokkmnednhigmaeDoor
