/- What slices.Contains, slices.DeleteFunc and table.beyond answer at tables. -/
import Derived.Test.YtmoengelklnbeabTableDo2
namespace Go.Proofs.Ytmoengelklnbeab
open Go.RowKit
set_option linter.unusedSimpArgs false
set_option linter.unusedVariables false

set_option maxHeartbeats 2000000 in
set_option maxRecDepth 100000 in
theorem contains_any (ao : Option Addr) (n cap : Nat) (p m b o s v : Int) (L : List Ru) (w : World) (hs : SR w (.slice ao n cap) L) :
    Calls Try.prog 29 #[.slice ao n cap, .agg #[.int .i64 p, .int .i64 m, .int .i64 b, .int .i64 o, .int .i64 s, .int .i64 v]] w fun e w' => e = .returned (.bool (inB L ⟨p, m, b, o, s, v⟩)) ∧ Below w.heap.size w w' := by
  obtain ⟨ao', n', cap', e, hn, hn2, hn3, ha⟩ := hs.form
  cases e
  have HN : Hid (L.length = n) := hn
  have hB0 : Below w.heap.size w (w.alloc (Obj.cells #[Value.int IntKind.i64 p, Value.int IntKind.i64 m, Value.int IntKind.i64 b, Value.int IntKind.i64 o, Value.int IntKind.i64 s, Value.int IntKind.i64 v] 25)) := (Below.refl _ _).alloc (Nat.le_refl _) _
  have HA : Hid (0 < n → ∃ g o, ao = some ⟨g, o, none⟩ ∧ RAt w g o L ∧ cap ≤ maxLen) := ha
  have HB0 : Hid (Below w.heap.size w (w.alloc (Obj.cells #[Value.int IntKind.i64 p, Value.int IntKind.i64 m, Value.int IntKind.i64 b, Value.int IntKind.i64 o, Value.int IntKind.i64 s, Value.int IntKind.i64 v] 25))) := hB0
  have HM : Hid (n ≤ maxLen) := hn2
  have HX : Hid (inB L ⟨p, m, b, o, s, v⟩ = decide (0 ≤ ixP (fun a => eqR ⟨p, m, b, o, s, v⟩ a) L)) := (ixP_any L (fun a => eqR ⟨p, m, b, o, s, v⟩ a)).symm
  rw [HX.out]
  clear hn ha hs hn2 hB0 HX
  obtain ⟨x, hx⟩ : ∃ x, x = ixP (fun a => eqR ⟨p, m, b, o, s, v⟩ a) L := ⟨_, rfl⟩
  rw [← hx]
  have HX : Hid (x = ixP (fun a => eqR ⟨p, m, b, o, s, v⟩ a) L) := hx
  clear hx
  go_enter Try.func29, Try.ntmps29
  go_wp2_with fail
  refine (index_any ao n cap p m b o s v L _ HN.out HM.out (fun h => by obtain ⟨g, o, e1, e2, e3⟩ := HA.out h; exact ⟨g, o, e1, e2.later HB0.out, e3⟩)).mono ?_
  rintro e w1 ⟨rfl, hb1⟩
  rw [← HX.out]
  have HB1 : Hid (Below w.heap.size w w1) := HB0.out.trans (hb1.mono HB0.out.size)
  clear hb1
  go_wp2
  go_ret
  exact ⟨rfl, HB1.out⟩

set_option maxHeartbeats 1000000 in
set_option maxRecDepth 100000 in
theorem beyond1_any (p m b o s v : Int) (ao : Option Addr) (n cap : Nat) (L : List Ru) (B : Nat) (w : World) (hc : w.cell? ⟨B, 0, none⟩ = some (.slice ao n cap)) (hs : SR w (.slice ao n cap) L) :
    Calls Try.prog 28 #[.agg #[.int .i64 p, .int .i64 m, .int .i64 b, .int .i64 o, .int .i64 s, .int .i64 v], .pointer (some ⟨B, 0, none⟩)] w fun e w' => e = .returned (.bool (inB L ⟨p, m, b, o, s, v⟩)) ∧ Below w.heap.size w w' := by
  have hlt : B < w.heap.size := World.block_lt_of_cell? _ _ hc
  have hB0 : Below w.heap.size w (w.alloc (Obj.cells #[Value.int IntKind.i64 p, Value.int IntKind.i64 m, Value.int IntKind.i64 b, Value.int IntKind.i64 o, Value.int IntKind.i64 s, Value.int IntKind.i64 v] 25)) := (Below.refl _ _).alloc (Nat.le_refl _) _
  have HS0 : Hid (SR (w.alloc (Obj.cells #[Value.int IntKind.i64 p, Value.int IntKind.i64 m, Value.int IntKind.i64 b, Value.int IntKind.i64 o, Value.int IntKind.i64 s, Value.int IntKind.i64 v] 25)) (.slice ao n cap) L) := hs.later hB0
  clear hs hB0
  go_enter Try.func28, Try.ntmps28
  go_wp2_with fail
  refine (contains_any ao n cap p m b o s v L _ HS0.out).mono ?_
  rintro e w1 ⟨rfl, hb1⟩
  go_wp2
  go_ret
  exact ⟨rfl, ((Below.refl _ _).alloc (Nat.le_refl _) _).trans (hb1.mono (by simp))⟩
theorem beyond1_asks (ao : Option Addr) (n cap : Nat) (L : List Ru) (B : Nat) (w : World) (hc : w.cell? ⟨B, 0, none⟩ = some (.slice ao n cap)) (hs : SR w (.slice ao n cap) L) : Asks w 28 (.pointer (some ⟨B, 0, none⟩)) (fun a => inB L a) :=
  fun p m b o s v W hW => beyond1_any p m b o s v ao n cap L B W (cell_later hW hc) (hs.later hW)

/-- What is left of the first j rules lies at the first i places, the others are as they were. -/
structure KI (f : Ru → Bool) (L : List Ru) (j i : Nat) (X : List Ru) : Prop where
  len : X.length = L.length
  lt : i < j
  low : X.take i = (L.take j).filter (fun a => !f a)
  high : X.drop j = L.drop j
theorem KI.start {f : Ru → Bool} {L : List Ru} {k : Nat} (hk : k < L.length) (h : (L.take k).any f = false) (h2 : f L[k] = true) : KI f L (k + 1) k L := by
  refine ⟨rfl, by omega, ?_, rfl⟩
  rw [List.take_succ_eq_append_getElem hk, List.filter_append]
  have e1 : (L.take k).filter (fun a => !f a) = L.take k := by
    rw [List.filter_eq_self]
    intro a ha
    rw [List.any_eq_false] at h
    simpa using h a ha
  rw [e1]
  simp [h2]
theorem KI.skip {f : Ru → Bool} {L X : List Ru} {j i : Nat} (h : KI f L j i X) (hj : j < L.length) (h2 : f L[j] = true) : KI f L (j + 1) i X := by
  refine ⟨h.len, by have := h.lt; omega, ?_, ?_⟩
  · rw [List.take_succ_eq_append_getElem hj, List.filter_append, ← h.low]
    simp [h2]
  · have := congrArg (List.drop 1) h.high
    simpa [List.drop_drop, Nat.add_comm] using this
theorem KI.at {f : Ru → Bool} {L X : List Ru} {j i : Nat} (h : KI f L j i X) (hj : j < L.length) : X[j]'(by rw [h.len]; exact hj) = L[j] := by
  have e1 := congrArg (fun l => l[0]?) h.high
  simp only [List.getElem?_drop, Nat.add_zero] at e1
  rw [List.getElem?_eq_getElem (by rw [h.len]; exact hj), List.getElem?_eq_getElem hj] at e1
  exact Option.some.inj e1
theorem KI.keep {f : Ru → Bool} {L X : List Ru} {j i : Nat} (h : KI f L j i X) (hj : j < L.length) (h2 : f L[j] = false) : KI f L (j + 1) (i + 1) (X.set i L[j]) := by
  have hlt := h.lt
  have hl := h.len
  refine ⟨by rw [List.length_set]; exact h.len, by omega, ?_, ?_⟩
  · rw [List.take_succ_eq_append_getElem hj, List.filter_append, ← h.low]
    have hi : i < (X.set i L[j]).length := by rw [List.length_set]; omega
    rw [List.take_succ_eq_append_getElem hi, List.take_set_of_le (Nat.le_refl _)]
    simp [h2]
  · rw [List.drop_set_of_lt (by omega)]
    have := congrArg (List.drop 1) h.high
    simpa [List.drop_drop, Nat.add_comm] using this
theorem KI.done {f : Ru → Bool} {L X : List Ru} {i : Nat} (h : KI f L L.length i X) : X.take i = L.filter (fun a => !f a) := by
  have := h.low
  rw [List.take_length] at this
  exact this

/-- A rule that is stored in a row. -/
theorem cellsR_set (X : List Ru) (i : Nat) (p m b o s v : Int) (hi : i < X.length) : cellsR (X.set i ⟨p, m, b, o, s, v⟩) = ((((((cellsR X).set (i * 6) (.int .i64 p)).set (i * 6 + 1) (.int .i64 m)).set (i * 6 + 2) (.int .i64 b)).set (i * 6 + 3) (.int .i64 o)).set (i * 6 + 4) (.int .i64 s)).set (i * 6 + 5) (.int .i64 v) := by
  induction X generalizing i with
  | nil => simp at hi
  | cons x X ih =>
    cases i with
    | zero => simp [cellsR]
    | succ i =>
      have := ih i (by simpa using hi)
      have e1 : (i + 1) * 6 = i * 6 + 1 + 1 + 1 + 1 + 1 + 1 := by omega
      simp only [cellsR, List.flatMap_cons, List.set_cons_succ] at this ⊢
      rw [this]
      simp [e1]
theorem own_set {w : World} {base e g n cap i : Nat} {X : List Ru} (h : w.ownsRow base e 6 (.slice (some ⟨g, 0, none⟩) n cap) n (cellsR X)) (hi : i < X.length) (p m b o s v : Int) :
    ((((((w.setCell ⟨g, i * 6, none⟩ (.int .i64 p)).setCell ⟨g, i * 6 + 1, none⟩ (.int .i64 m)).setCell ⟨g, i * 6 + 2, none⟩ (.int .i64 b)).setCell ⟨g, i * 6 + 3, none⟩ (.int .i64 o)).setCell ⟨g, i * 6 + 4, none⟩ (.int .i64 s)).setCell ⟨g, i * 6 + 5, none⟩ (.int .i64 v)).ownsRow base e 6 (.slice (some ⟨g, 0, none⟩) n cap) n (cellsR (X.set i ⟨p, m, b, o, s, v⟩)) := by
  rw [cellsR_set X i p m b o s v hi]
  exact ((((((h.stored _ _).1.stored _ _).1.stored _ _).1.stored _ _).1.stored _ _).1.stored _ _).1
theorem below_six {B : Nat} {a w : World} {g i : Nat} (h : Below B a w) (hg : B ≤ g) (p m b o s v : Value) :
    Below B a ((((((w.setCell ⟨g, i * 6, none⟩ p).setCell ⟨g, i * 6 + 1, none⟩ m).setCell ⟨g, i * 6 + 2, none⟩ b).setCell ⟨g, i * 6 + 3, none⟩ o).setCell ⟨g, i * 6 + 4, none⟩ s).setCell ⟨g, i * 6 + 5, none⟩ v) :=
  (((((h.setCell hg _).setCell hg _).setCell hg _).setCell hg _).setCell hg _).setCell hg _
/-- The cells of an own row's rule, none of them frozen. -/
theorem own_at {w : World} {base e g n cap i : Nat} {X : List Ru} (h : w.ownsRow base e 6 (.slice (some ⟨g, 0, none⟩) n cap) n (cellsR X)) (hn : X.length = n) (hi : i < n) :
    C6 w g (i * 6) (X[i]'(by omega)) ∧ (∀ c, w.frozen? ⟨g, c, none⟩ = false) := by
  subst hn
  obtain ⟨a0, a1, a2, a3, a4, a5⟩ := cellsR_at X i hi
  refine ⟨⟨?_, ?_, ?_, ?_, ?_, ?_⟩, fun c => h.frozenAt c⟩
  · rw [h.cellAt _ (by omega)]; exact a0
  · rw [h.cellAt _ (by omega)]; exact a1
  · rw [h.cellAt _ (by omega)]; exact a2
  · rw [h.cellAt _ (by omega)]; exact a3
  · rw [h.cellAt _ (by omega)]; exact a4
  · rw [h.cellAt _ (by omega)]; exact a5

theorem run_clear_of (w w' : World) (t e ty : TypeId) (ht : Try.prog.underlying t = some (.slice e)) (b o n c : Nat) (hn : 0 < n) (z : Value) (hv : ∀ w, (zeroValue e).run Try.prog w = .ok z w) (Z : List Value)
    (hZ : (Builtin.zeroCells z.cells n).toList = Z) (hst : (storeCells ⟨b, o, none⟩ Z 0).run Try.prog w = .ok () w') : (Builtin.clear_ #[t] ty #[.slice (some ⟨b, o, none⟩) n c]).run Try.prog w = .ok (.tuple #[]) w' := by
  obtain ⟨m, rfl⟩ : ∃ m, n = m + 1 := ⟨n - 1, by omega⟩
  simp [Builtin.clear_, run_underlying ht, hv, hZ, hst]
theorem cellsR_take (X : List Ru) (i : Nat) : (cellsR X).take (i * 6) = cellsR (X.take i) := by
  induction X generalizing i with
  | nil => simp [cellsR]
  | cons x X ih =>
    cases i with
    | zero => simp [cellsR]
    | succ i =>
      have := ih i
      have e1 : (i + 1) * 6 = i * 6 + 1 + 1 + 1 + 1 + 1 + 1 := by omega
      simp only [cellsR] at this
      simp [cellsR, e1, this]
/-- Clearing rules of a row. -/
theorem run_clear6 (w : World) (t ty : TypeId) (ht : Try.prog.underlying t = some (.slice 25)) (b o n c : Nat) (hn : 0 < n)
    (hc : ∀ j, j < n * 6 → (w.cell? ⟨b, o + j, none⟩).isSome = true) (hf : ∀ j, w.frozen? ⟨b, j, none⟩ = false) :
    (Builtin.clear_ #[t] ty #[.slice (some ⟨b, o, none⟩) n c]).run Try.prog w = .ok (.tuple #[]) (w.setCells b o (Builtin.zeroCells (Value.agg #[.int .i64 0, .int .i64 0, .int .i64 0, .int .i64 0, .int .i64 0, .int .i64 0]).cells n).toList) := by
  obtain ⟨i0, hi, hz0, hz1, hz2⟩ := info_parts infoRule
  have hv : ∀ w, (zeroValue 25).run Try.prog w = .ok (.agg #[.int .i64 0, .int .i64 0, .int .i64 0, .int .i64 0, .int .i64 0, .int .i64 0]) w := fun w => by simp [zeroValue, typeInfo, hi, hz0]
  have hl : (Builtin.zeroCells (Value.agg #[.int .i64 0, .int .i64 0, .int .i64 0, .int .i64 0, .int .i64 0, .int .i64 0]).cells n).toList.length = n * 6 := by rw [Array.length_toList, size_zeroCells, sixCells]
  have h1 : ∀ u ∈ (Builtin.zeroCells (Value.agg #[.int .i64 0, .int .i64 0, .int .i64 0, .int .i64 0, .int .i64 0, .int .i64 0]).cells n).toList, u.oneCell' = true := by
    intro u hu
    simp only [Builtin.zeroCells, Array.toList_map, List.mem_map] at hu
    obtain ⟨i, _, rfl⟩ := hu
    rw [sixCells]
    have h6 : i % 6 < 6 := Nat.mod_lt _ (by omega)
    generalize i % 6 = j at h6
    rcases (by omega : j = 0 ∨ j = 1 ∨ j = 2 ∨ j = 3 ∨ j = 4 ∨ j = 5) with rfl | rfl | rfl | rfl | rfl | rfl <;> rfl
  have hst := run_storeCells_cells (P := Try.prog) b o (Builtin.zeroCells (Value.agg #[.int .i64 0, .int .i64 0, .int .i64 0, .int .i64 0, .int .i64 0, .int .i64 0]).cells n).toList 0 w (by rw [hl]; simpa using hc) (fun j _ => hf _) h1
  simp only [Nat.add_zero] at hst
  exact run_clear_of w _ t _ ty ht b o n c hn _ hv _ rfl hst

set_option maxHeartbeats 4000000 in
set_option maxRecDepth 100000 in
/-- DeleteFunc, at a row that the caller owns. -/
theorem delete_some (g n cap : Nat) (f : FuncId) (c : Value) (P : Ru → Bool) (L : List Ru) (w0 w : World) (hn : L.length = n) (hB : Below w0.heap.size w0 w) (ho : w.ownsRow w0.heap.size 25 6 (.slice (some ⟨g, 0, none⟩) n cap) n (cellsR L))
    (he : ∀ args w, (callFunc f args).run Try.prog w = .ok (.enter f args) w) (hf : Asks w0 f c P) (h1000 : n ≤ 1000) :
    Calls Try.prog 27 #[.slice (some ⟨g, 0, none⟩) n cap, .func (Fn.func f) #[] #[c]] w fun e w' => ∃ u, e = .returned u ∧ w'.ownsRow w0.heap.size 25 6 u (L.filter (fun a => !P a)).length (cellsR (L.filter (fun a => !P a))) ∧ Below w0.heap.size w0 w' := by
  have HN : Hid (L.length = n) := hn
  have HB : Hid (Below w0.heap.size w0 w) := hB
  have HO : Hid (w.ownsRow w0.heap.size 25 6 (.slice (some ⟨g, 0, none⟩) n cap) n (cellsR L)) := ho
  have HF : Hid (Asks w0 f c P) := hf
  have hgb : w0.heap.size ≤ g ∧ n ≤ cap ∧ cap ≤ maxLen := by
    rcases ho.2 with ⟨h', _⟩ | ⟨g', cap', cur, h', hb, _, h1, h2, _⟩
    · simp at h'
    · simp only [Value.slice.injEq, Option.some.injEq, Addr.mk.injEq, and_true, true_and] at h'
      obtain ⟨rfl, rfl⟩ := h'
      exact ⟨hb, h1, h2⟩
  obtain ⟨hg0, hncap, hcm⟩ := hgb
  have HCM : Hid (cap ≤ maxLen) := hcm
  have hsr : SR w (.slice (some ⟨g, 0, none⟩) n cap) L := own_SR (by subst hn; exact ho)
  have HSR : Hid (SR w (.slice (some ⟨g, 0, none⟩) n cap) L) := hsr
  have hc63 : (cap : Int) ≤ 9223372036854775807 := by unfold maxLen at hcm; omega
  clear hn hB ho hf hsr hcm
  have HNM : Hid (n ≤ maxLen ∧ (0 < n → ∃ g' o', some (⟨g, 0, none⟩ : Addr) = some ⟨g', o', none⟩ ∧ RAt w g' o' L ∧ cap ≤ maxLen)) := by
    obtain ⟨ao', n', cap', e, hn, hn2, hn3, ha⟩ := HSR.out.form
    cases e
    exact ⟨hn2, ha⟩
  cases hany : L.any P
  · have HX : Hid (ixP P L = -1) := ixP_no hany
    have HFL : Hid (L.filter (fun a => !P a) = L) := by
      show L.filter (fun a => !P a) = L
      rw [List.filter_eq_self]
      intro a ha
      rw [List.any_eq_false] at hany
      simpa using hany a ha
    clear hany
    go_enter Try.func27, Try.ntmps27
    go_wp2_with fail
    refine (idxF _ n cap f c P L _ HN.out HNM.out.1 HNM.out.2 he (HF.out.later HB.out)).mono ?_
    rintro e w1 ⟨rfl, hb1⟩
    rw [HX.out]
    have HO1 : Hid (w1.ownsRow w0.heap.size 25 6 (.slice (some ⟨g, 0, none⟩) n cap) n (cellsR L)) := own_below HO.out hb1
    have HB1 : Hid (Below w0.heap.size w0 w1) := HB.out.trans (hb1.mono HB.out.size)
    clear hb1
    go_wp2
    go_ret
    refine ⟨_, rfl, ?_, HB1.out⟩
    rw [HFL.out, HN.out]
    exact HO1.out
  · obtain ⟨k, hk, hno, hyes⟩ : ∃ k, ∃ hk : k < L.length, (L.take k).any P = false ∧ P L[k] = true := by
      have h1 : L.findIdx P < L.length := List.findIdx_lt_length.2 (by simpa using hany)
      refine ⟨L.findIdx P, h1, ?_, List.findIdx_getElem (w := h1)⟩
      rw [List.any_eq_false]
      intro a ha
      rw [List.mem_take_iff_getElem] at ha
      obtain ⟨i, hi, rfl⟩ := ha
      have := List.not_of_lt_findIdx (p := P) (xs := L) (i := i) (by omega)
      simpa using this
    have HX : Hid (ixP P L = (k : Int)) := ixP_hit hk hno hyes
    have HK : Hid (KI P L (k + 1) k L) := KI.start hk hno hyes
    have hkn : k < n := by rw [HN.out] at hk; exact hk
    have kne : ((k : Int) == -1) = false := beq_eq_false_iff_ne.2 (by omega)
    clear hany hno hyes hk
    go_enter Try.func27, Try.ntmps27
    go_wp2_with fail
    refine (idxF _ n cap f c P L _ HN.out HNM.out.1 HNM.out.2 he (HF.out.later HB.out)).mono ?_
    rintro e w1 ⟨rfl, hb1⟩
    rw [HX.out]
    have HO1 : Hid (w1.ownsRow w0.heap.size 25 6 (.slice (some ⟨g, 0, none⟩) n cap) n (cellsR L)) := own_below HO.out hb1
    have HB1 : Hid (Below w0.heap.size w0 w1) := HB.out.trans (hb1.mono HB.out.size)
    clear hb1 HO HNM HSR
    go_wp2
    go_loopw [5, 6] (fun a b wr => ∃ i j : Nat, ∃ X, a = .int .i64 i ∧ b = .int .i64 j ∧ j ≤ n ∧ KI P L j i X ∧ wr.ownsRow w0.heap.size 25 6 (.slice (some ⟨g, 0, none⟩) n cap) n (cellsR X) ∧ Below w0.heap.size w0 wr) (fun _ b _ => n - (intOf b).toNat)
    case atStart => exact ⟨k, k + 1, L, rfl, by go_num, by omega, HK.out, HO1.out, HB1.out⟩
    case round =>
      obtain ⟨i, j, X, rfl, rfl, hj, hK, hown, hBr⟩ := hrel
      have HKR : Hid (KI P L j i X) := hK
      have HOR : Hid (wr.ownsRow w0.heap.size 25 6 (.slice (some ⟨g, 0, none⟩) n cap) n (cellsR X)) := hown
      have HBR : Hid (Below w0.heap.size w0 wr) := hBr
      have hij : i < j := hK.lt
      have HXL : Hid (X.length = n) := by have := hK.len; rw [HN.out] at this; exact this
      clear HO1 HB1 HK HX
      by_cases hlt : j < n
      · have hjl : j < L.length := by rw [HN.out]; exact hlt
        obtain ⟨hCj, hfz⟩ := own_at hown HXL.out hlt
        rw [hK.at hjl] at hCj
        have HKK : Hid (P L[j] = false → KI P L (j + 1) (i + 1) (X.set i L[j])) := fun h => hK.keep hjl h
        have HKS : Hid (P L[j] = true → KI P L (j + 1) i X) := fun h => hK.skip hjl h
        rcases hLj : L[j] with ⟨p, m, b, o, s, v⟩
        rw [hLj] at hCj HKK HKS
        obtain ⟨q0, q1, q2, q3, q4, q5⟩ := hCj
        have HC6 := C6.new wr p m b o s v 25
        have hBA : Below wr.heap.size wr (wr.alloc (Obj.cells #[Value.int IntKind.i64 p, Value.int IntKind.i64 m, Value.int IntKind.i64 b, Value.int IntKind.i64 o, Value.int IntKind.i64 s, Value.int IntKind.i64 v] 25)) := (Below.refl _ _).alloc (Nat.le_refl _) _
        have HBA : Hid (Below w0.heap.size w0 (wr.alloc (Obj.cells #[Value.int IntKind.i64 p, Value.int IntKind.i64 m, Value.int IntKind.i64 b, Value.int IntKind.i64 o, Value.int IntKind.i64 s, Value.int IntKind.i64 v] 25))) := hBr.trans (hBA.mono hBr.size)
        have HOA : Hid ((wr.alloc (Obj.cells #[Value.int IntKind.i64 p, Value.int IntKind.i64 m, Value.int IntKind.i64 b, Value.int IntKind.i64 o, Value.int IntKind.i64 s, Value.int IntKind.i64 v] 25)).ownsRow w0.heap.size 25 6 (.slice (some ⟨g, 0, none⟩) n cap) n (cellsR X)) := own_below hown hBA
        clear hown hBr hK hLj hfz hBA
        cases hP : P ⟨p, m, b, o, s, v⟩
        · go_wp2_with fail
          refine (HF.out p m b o s v _ HBA.out).mono ?_
          rintro e w2 ⟨rfl, hb2⟩
          rw [hP]
          have hO2 := own_below HOA.out hb2
          have HO2 : Hid (w2.ownsRow w0.heap.size 25 6 (.slice (some ⟨g, 0, none⟩) n cap) n (cellsR X)) := hO2
          have HB2 : Hid (Below w0.heap.size w0 w2) := HBA.out.trans (hb2.mono HBA.out.size)
          obtain ⟨d0, d1, d2, d3, d4, d5⟩ := HC6.later hb2
          simp only [Nat.zero_add] at d0 d1 d2 d3 d4 d5
          obtain ⟨hCi, hfz⟩ := own_at hO2 HXL.out (show i < n by omega)
          generalize X[i]'(by have := HXL.out; omega) = r at hCi
          obtain ⟨rp, rm, rb, ro, rs, rv⟩ := r
          obtain ⟨i0, i1, i2, i3, i4, i5⟩ := hCi
          have f0 := hfz (i * 6)
          have f1 := hfz (i * 6 + 1)
          have f2 := hfz (i * 6 + 2)
          have f3 := hfz (i * 6 + 3)
          have f4 := hfz (i * 6 + 4)
          have f5 := hfz (i * 6 + 5)
          have hgl : g < w2.heap.size := World.block_lt_of_cell? _ _ i0
          have hwl : wr.heap.size < w2.heap.size := World.block_lt_of_cell? _ _ d0
          have b0 : (0 : Int) ≤ (i : Int) := by omega
          have b1 : (i : Int) < (n : Int) := by omega
          clear hb2 hO2 q0 q1 q2 q3 q4 q5 hfz
          go_wp2
          exact ⟨⟨i + 1, j + 1, _, by go_num, by go_num, by omega, HKK.out hP, own_set HO2.out (by rw [HXL.out]; omega) p m b o s v, below_six HB2.out hg0 _ _ _ _ _ _⟩, by simp [intOf]; omega⟩
        · go_wp2_with fail
          refine (HF.out p m b o s v _ HBA.out).mono ?_
          rintro e w2 ⟨rfl, hb2⟩
          rw [hP]
          have HO2 : Hid (w2.ownsRow w0.heap.size 25 6 (.slice (some ⟨g, 0, none⟩) n cap) n (cellsR X)) := own_below HOA.out hb2
          have HB2 : Hid (Below w0.heap.size w0 w2) := HBA.out.trans (hb2.mono HBA.out.size)
          clear hb2 q0 q1 q2 q3 q4 q5
          go_wp2
          go_roundw
          case rel => exact ⟨i, j + 1, X, rfl, by go_num, by omega, HKS.out hP, HO2.out, HB2.out⟩
          case measure => simp [intOf]; omega
      · obtain rfl : j = n := by omega
        have b0 : (0 : Int) ≤ (i : Int) := by omega
        have b1 : (i : Int) ≤ (j : Int) := by omega
        have b2 : (i : Int) ≤ (cap : Int) := by omega
        have b3 : ¬ cap = i := by omega
        have HZ : Hid (∀ ty, (Builtin.clear_ #[32] ty #[.slice (some ⟨g, i * 6, none⟩) (j - i) (cap - i)]).run Try.prog wr = .ok (.tuple #[]) (wr.setCells g (i * 6) (Builtin.zeroCells (Value.agg #[.int .i64 0, .int .i64 0, .int .i64 0, .int .i64 0, .int .i64 0, .int .i64 0]).cells (j - i)).toList)) := fun ty =>
          run_clear6 wr _ ty Try.underlying32 g (i * 6) (j - i) (cap - i) (by omega) (fun t ht => by
            rw [hown.cellAt _ (by omega)]
            have h1 : i * 6 + t < (cellsR X).length := by rw [cellsR_len, HXL.out]; omega
            rw [List.getElem?_eq_getElem h1]
            rfl) (fun t => hown.frozenAt t)
        have hcl := HZ.out
        generalize (Builtin.zeroCells (Value.agg #[.int .i64 0, .int .i64 0, .int .i64 0, .int .i64 0, .int .i64 0, .int .i64 0]).cells (j - i)).toList = Z at hcl
        have hoc := own_behind Z (i * 6) wr _ (own_cut hown (show i ≤ j by omega)) (Nat.le_refl _)
        have HE : Hid (X.take i = L.filter (fun a => !P a)) := by
          have := hK
          rw [← HN.out] at this
          exact this.done
        have HOE : Hid ((wr.setCells g (i * 6) Z).ownsRow w0.heap.size 25 6 (.slice (some ⟨g, 0, none⟩) i cap) (L.filter (fun a => !P a)).length (cellsR (L.filter (fun a => !P a)))) := by
          have h1 := hoc.1
          rw [cellsR_take, HE.out] at h1
          have e1 : (L.filter (fun a => !P a)).length = i := by
            rw [← HE.out, List.length_take, HXL.out]
            omega
          show World.ownsRow _ _ _ _ _ _ _
          rw [e1]
          exact h1
        have HBE : Hid (Below w0.heap.size w0 (wr.setCells g (i * 6) Z)) := hBr.grown hoc.2 hBr.size (fun k hk => by cases hk; exact hg0)
        clear hown hBr hK hoc HZ
        go_wp2
        go_ret
        exact ⟨_, rfl, HOE.out, HBE.out⟩

set_option maxHeartbeats 1000000 in
set_option maxRecDepth 100000 in
theorem delete_nil (f : FuncId) (c : Value) (P : Ru → Bool) (w : World) (he : ∀ args w, (callFunc f args).run Try.prog w = .ok (.enter f args) w) (hf : Asks w f c P) :
    Calls Try.prog 27 #[.slice none 0 0, .func (Fn.func f) #[] #[c]] w fun e w' => e = .returned (.slice none 0 0) ∧ Below w.heap.size w w' := by
  have HX : Hid (ixP P [] = -1) := rfl
  have HF : Hid (Asks w f c P) := hf
  clear hf
  go_enter Try.func27, Try.ntmps27
  go_wp2_with fail
  refine (idxF none 0 0 f c P [] _ rfl (Nat.zero_le _) (fun h => absurd h (by omega)) he HF.out).mono ?_
  rintro e w1 ⟨rfl, hb1⟩
  rw [HX.out]
  go_wp2
  go_ret
  exact ⟨rfl, hb1⟩
theorem delete_any (v : Value) (f : FuncId) (c : Value) (P : Ru → Bool) (L : List Ru) (w0 w : World) (hB : Below w0.heap.size w0 w) (ho : w.ownsRow w0.heap.size 25 6 v L.length (cellsR L))
    (he : ∀ args w, (callFunc f args).run Try.prog w = .ok (.enter f args) w) (hf : Asks w0 f c P) (h1000 : L.length ≤ 1000) :
    Calls Try.prog 27 #[v, .func (Fn.func f) #[] #[c]] w fun e w' => ∃ u, e = .returned u ∧ w'.ownsRow w0.heap.size 25 6 u (L.filter (fun a => !P a)).length (cellsR (L.filter (fun a => !P a))) ∧ Below w0.heap.size w0 w' := by
  rcases ho.2 with ⟨rfl, h0⟩ | ⟨g, cap, cur, rfl, _⟩
  · obtain rfl : L = [] := List.length_eq_zero_iff.1 h0
    refine (delete_nil f c P w he (hf.later hB)).mono ?_
    rintro e w' ⟨rfl, hb⟩
    exact ⟨_, rfl, World.ownsRow_nil _ _ _ _, hB.trans (hb.mono hB.size)⟩
  · refine (delete_some g L.length cap f c P L w0 w rfl hB ho he hf h1000).mono ?_
    rintro e w' ⟨u, rfl, h1, h2⟩
    exact ⟨u, rfl, h1, h2⟩
/-- Two rows of two kinds lie in two blocks. -/
theorem own_apart {w : World} {b1 e1 s1 n1 b2 e2 s2 n2 : Nat} {v1 v2 : Value} {x1 x2 : List Value} (h1 : w.ownsRow b1 e1 s1 v1 n1 x1) (h2 : w.ownsRow b2 e2 s2 v2 n2 x2) (he : e1 ≠ e2) : v1.ownBlock = none ∨ v1.ownBlock ≠ v2.ownBlock := by
  rcases h1.2 with ⟨rfl, _⟩ | ⟨g, cap, cur, rfl, _, hg, _⟩
  · exact .inl rfl
  · refine .inr ?_
    rcases h2.2 with ⟨rfl, _⟩ | ⟨g2, cap2, cur2, rfl, _, hg2, _⟩
    · exact fun h => by cases h
    · intro h
      simp only [Value.ownBlock, Option.some.injEq] at h
      subst h
      rw [hg] at hg2
      simp only [Option.some.injEq, Obj.cells.injEq] at hg2
      exact he hg2.2.1
/-- One slice of rules in a new row. -/
theorem pat1 {W : World} {a1 : Option Addr} {n1 c1 : Nat} {L1 : List Ru} (t : TypeId) (h1 : SR W (.slice a1 n1 c1) L1) :
    PAt (W.alloc (.cells #[.slice a1 n1 c1] t)) W.heap.size 0 [L1] := by
  have hb : Below W.heap.size W (W.alloc (.cells #[.slice a1 n1 c1] t)) := (Below.refl _ _).alloc (Nat.le_refl _) _
  intro i hi
  match i, hi with
  | 0, _ => exact ⟨a1, n1, c1, by simp, h1.later hb⟩

set_option maxHeartbeats 2000000 in
set_option maxRecDepth 100000 in
theorem beyond_any (ao : Option Addr) (n cap : Nat) (ao2 : Option Addr) (n2 cap2 : Nat) (L M : List Ru) (w : World) (hs : SR w (.slice ao n cap) L) (ht : SR w (.slice ao2 n2 cap2) M) (h1000 : L.length ≤ 1000) :
    Calls Try.prog 18 #[.slice ao n cap, .slice ao2 n2 cap2] w fun e w' => ∃ ao3 n3 cap3, e = .returned (.slice ao3 n3 cap3) ∧ n3 = (bey L M).length ∧ w'.ownsRow w.heap.size 25 6 (.slice ao3 n3 cap3) (bey L M).length (cellsR (bey L M)) ∧ Below w.heap.size w w' := by
  have hB0 : Below w.heap.size w (w.alloc (Obj.cells #[.slice ao2 n2 cap2] 32)) := (Below.refl _ _).alloc (Nat.le_refl _) _
  have HAS : Hid (Asks (w.alloc (Obj.cells #[.slice ao2 n2 cap2] 32)) 28 (.pointer (some ⟨w.heap.size, 0, none⟩)) (fun a => inB M a)) :=
    beyond1_asks ao2 n2 cap2 M w.heap.size _ (by simp) (ht.later hB0)
  have hp := pat1 32 (hs.later hB0)
  have hB1 : Below (w.alloc (Obj.cells #[.slice ao2 n2 cap2] 32)).heap.size (w.alloc (Obj.cells #[.slice ao2 n2 cap2] 32)) ((w.alloc (Obj.cells #[.slice ao2 n2 cap2] 32)).alloc (.cells #[.slice ao n cap] 32)) := (Below.refl _ _).alloc (Nat.le_refl _) _
  have HP : Hid (PAt ((w.alloc (Obj.cells #[.slice ao2 n2 cap2] 32)).alloc (.cells #[.slice ao n cap] 32)) (w.heap.size + 1) 0 [L]) := by
    show PAt _ _ _ _
    simpa using hp
  have HB0 : Hid (Below w.heap.size w (w.alloc (Obj.cells #[.slice ao2 n2 cap2] 32))) := hB0
  have HB1 : Hid (Below (w.alloc (Obj.cells #[.slice ao2 n2 cap2] 32)).heap.size (w.alloc (Obj.cells #[.slice ao2 n2 cap2] 32)) ((w.alloc (Obj.cells #[.slice ao2 n2 cap2] 32)).alloc (.cells #[.slice ao n cap] 32))) := hB1
  have HL : Hid (L.length ≤ 1000) := h1000
  have HL2 : Hid ([L].flatten.length ≤ 1000) := by show _ ≤ 1000; simpa using h1000
  clear hs ht hB0 hp hB1 h1000
  go_enter Try.func18, Try.ntmps18
  go_wp2_with fail
  refine (concat_any _ 0 1 1 [L] _ rfl (by omega) HP.out HL2.out).mono ?_
  rintro e w1 ⟨u, rfl, hown, hb1⟩
  have HB2 : Hid (Below (w.alloc (Obj.cells #[.slice ao2 n2 cap2] 32)).heap.size (w.alloc (Obj.cells #[.slice ao2 n2 cap2] 32)) w1) := HB1.out.trans (hb1.mono HB1.out.size)
  have HO : Hid (w1.ownsRow (w.alloc (Obj.cells #[.slice ao2 n2 cap2] 32)).heap.size 25 6 u L.length (cellsR L)) := by
    show World.ownsRow _ _ _ _ _ _ _
    have h1 := own_mono hown HB1.out.size
    have e1 : [L].flatten = L := by simp
    rw [e1] at h1
    exact h1
  clear hown hb1
  go_wp2_with fail
  refine (delete_any u _ _ (fun a => inB M a) L _ _ HB2.out HO.out (enters_of Try.func28 (by kernel_rfl) rfl) HAS.out HL.out).mono ?_
  rintro e w2 ⟨u2, rfl, hsr, hb2⟩
  obtain ⟨ao3, n3, cap3, rfl, hn3, _⟩ := (own_SR hsr).form
  have HSR : Hid (w2.ownsRow w.heap.size 25 6 (.slice ao3 n3 cap3) (bey L M).length (cellsR (bey L M))) := own_mono hsr HB0.out.size
  have HN3 : Hid (n3 = (bey L M).length) := hn3.symm
  have HB3 : Hid (Below w.heap.size w w2) := HB0.out.trans (hb2.mono HB0.out.size)
  clear hsr hb2 hn3
  go_wp2
  go_ret
  exact ⟨_, _, _, rfl, HN3.out, HSR.out, HB3.out⟩
end Go.Proofs.Ytmoengelklnbeab
