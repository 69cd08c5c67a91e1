/- Contracts and facts on the way to MixFew, joined into one text: ChangeMem, ChangeOps, ClassTwo, StrClone, AlikeMath, SmTopo, TableOps, TableDiff, TableDiff2, RuleTwo, TableSame. -/
import Derived.Test.YtmpjoepfgfbjmaaMixFewP8
import Derived.Test.YtmpjoepfgfbjmaaMixFewP5
import Derived.Test.YtmpjoepfgfbjmaaMixFewP7
import Derived.Test.YtmpjoepfgfbjmaaMixFewP4
import Derived.Test.YtmpjoepfgfbjmaaMixFewP2
import Derived.Test.YtmpjoepfgfbjmaaRows
import Derived.Lib.Strings
import Derived.Lib.Walk
import Derived.Lib.BufferWrite
import Derived.Lib.UnsafeStr
import Derived.Laws.MakeOwn
import Derived.WalkKit
import Derived.WalkSpells
import Derived.Below
import Derived.Deep.CutRange
import Derived.Deep.CutBlock
/- Rows of tables that a call owns: the tables lie elsewhere. -/
namespace Go.Proofs.Ytmpjoepfgfbjmaa
open Go.RowKit
set_option linter.unusedSimpArgs false
set_option linter.unusedVariables false

/-- A slice that is empty, or does not lie in a block. -/
def offB (x : SlT) (b : Nat) : Prop := x.2.1 = 0 ∨ ∀ a, x.1 = some a → a.block ≠ b
theorem RAt.lt {w : World} {g o : Nat} {L : List Ru} (h : RAt w g o L) (h0 : 0 < L.length) : g < w.heap.size := World.block_lt_of_cell? _ _ (h 0 h0).c0
theorem SR.off {w : World} {x : SlT} {L : List Ru} (h : SR w (slV x) L) {b : Nat} (hb : w.heap.size ≤ b) : offB x b := by
  obtain ⟨ao, n, cap⟩ := x
  rcases h with ⟨ao', cap', e, rfl⟩ | ⟨g, o, cap', e, h1, h2, h3⟩
  · simp only [slV, Value.slice.injEq] at e
    exact .inl e.2.1
  · simp only [slV, Value.slice.injEq] at e
    obtain ⟨rfl, rfl, rfl⟩ := e
    by_cases h0 : L.length = 0
    · exact .inl h0
    · refine .inr fun a ha => ?_
      cases ha
      have := h3.lt (by omega)
      show g ≠ b
      omega
/-- A slice of rules, behind what writes into another block alone. -/
theorem SR.grown {w w' : World} {x : SlT} {L : List Ru} {row : Option Nat} (h : SR w (slV x) L) (hg : w.grownBy w' row) (ho : ∀ b, row = some b → offB x b) : SR w' (slV x) L := by
  obtain ⟨ao, n, cap⟩ := x
  rcases h with ⟨ao', cap', e, rfl⟩ | ⟨g, o, cap', e, h1, h2, h3⟩
  · exact .inl ⟨ao', cap', e, rfl⟩
  · simp only [slV, Value.slice.injEq] at e
    obtain ⟨rfl, rfl, rfl⟩ := e
    by_cases h0 : L.length = 0
    · exact .inl ⟨_, _, by rw [slV, h0], List.length_eq_zero_iff.1 h0⟩
    · have hne : some g ≠ row := by
        intro e
        rcases ho g e.symm with h4 | h4
        · exact h0 h4
        · exact h4 _ rfl rfl
      refine .inr ⟨g, o, cap, rfl, h1, h2, fun i hi => ?_⟩
      obtain ⟨c0, c1, c2, c3, c4, c5⟩ := h3 i hi
      exact ⟨hg.cell c0 hne, hg.cell c1 hne, hg.cell c2 hne, hg.cell c3 hne, hg.cell c4 hne, hg.cell c5 hne⟩
/-- A row of tables that a call owns, in a block from B on; no table lies in that block, or in the blocks from A to B. -/
structure TR (e : TypeId) (w : World) (A B : Nat) (v : Value) (vs : List SlT) (Ts : List (List Ru)) : Prop where
  ov : w.ownsRow B e slE.n v vs.length (cellsG slE vs)
  lv : vs.length = Ts.length
  rv : ∀ (i : Nat) (x : SlT) (L : List Ru), vs[i]? = some x → Ts[i]? = some L → SR w (slV x) L ∧ ∀ b, v.ownBlock = some b → offB x b
  rz : ∀ (i : Nat) (x : SlT), vs[i]? = some x → ∀ b, A ≤ b → b < B → offB x b
section
variable {e : TypeId} {w w' : World} {A B : Nat} {v : Value} {vs : List SlT} {Ts : List (List Ru)}
theorem tr_nil (e : TypeId) (w : World) (A B : Nat) : TR e w A B (.slice none 0 0) [] [] :=
  ⟨World.ownsRow_nil w B e slE.n, rfl, fun i x L h => by simp at h, fun i x h => by simp at h⟩
theorem TR.later (h : TR e w A B v vs Ts) (hb : Below w.heap.size w w') : TR e w' A B v vs Ts :=
  ⟨h.ov.kept (grown_below hb) (none_or _), h.lv, fun i x L h1 h2 => ⟨(h.rv i x L h1 h2).1.later hb, (h.rv i x L h1 h2).2⟩, h.rz⟩
/-- Behind what writes into a block from A to B. -/
theorem TR.grown (h : TR e w A B v vs Ts) {b : Nat} (hg : w.grownBy w' (some b)) (h1 : A ≤ b) (h2 : b < B) : TR e w' A B v vs Ts := by
  refine ⟨h.ov.kept hg (.inr fun e => ?_), h.lv, fun i x L a1 a2 => ⟨(h.rv i x L a1 a2).1.grown hg (fun c hc => ?_), (h.rv i x L a1 a2).2⟩, h.rz⟩
  · have := (h.ov.lt b e).1
    omega
  · cases hc
    exact h.rz i x a1 b h1 h2
/-- What came in, as a row of slices. -/
theorem ts_sl {v : Value} (h : TS w v Ts) : ∃ vs : List SlT, GS slE w v vs ∧ vs.length = Ts.length ∧ ∀ (i : Nat) (x : SlT) (L : List Ru), vs[i]? = some x → Ts[i]? = some L → SR w (slV x) L := by
  rcases h with ⟨ao, cap, rfl, rfl⟩ | ⟨g, o, cap, rfl, h1, h2, h3⟩
  · exact ⟨[], .inl ⟨ao, cap, rfl, rfl⟩, rfl, fun i x L h => by simp at h⟩
  · have each : ∀ i, i < Ts.length → ∃ x : SlT, w.cell? ⟨g, o + i, none⟩ = some (slV x) ∧ SR w (slV x) (Ts.getD i []) := by
      intro i hi
      obtain ⟨ao, n, cap, c1, c2⟩ := h3 i hi
      refine ⟨(ao, n, cap), c1, ?_⟩
      rw [getT hi]
      exact c2
    have iR : Inhabited SlT := ⟨(none, 0, 0)⟩
    obtain ⟨R, hR⟩ := Go.Deep.choose_lt each
    refine ⟨(List.range Ts.length).map R, .inr ⟨g, o, cap, by simp, by simpa using h1, h2, fun i hi j u hu => ?_⟩, by simp, fun i x L a1 a2 => ?_⟩
    · have hi2 : i < Ts.length := by simpa using hi
      have e1 : ((List.range Ts.length).map R)[i] = R i := by simp
      rw [e1] at hu
      obtain rfl : j = 0 := by
        have := (List.getElem?_eq_some_iff.1 hu).1
        rw [slE.len] at this
        have e2 : slE.n = 1 := rfl
        omega
      have e3 : o + i * slE.n + 0 = o + i := by show o + i * 1 + 0 = o + i; omega
      have e4 : slV (R i) = u := Option.some.inj hu
      rw [e3, ← e4]
      exact (hR i hi2).1
    · have hi : i < Ts.length := (List.getElem?_eq_some_iff.1 a2).1
      have e1 : R i = x := by simpa [hi] using a1
      have e2 := (hR i hi).2
      rw [getT hi] at e2
      rw [List.getElem?_eq_getElem hi] at a2
      cases a2
      rw [← e1]
      exact e2
/-- A copy of what came in. -/
theorem tr_copy {w0 : World} {u : Value} (hlen : vs.length = Ts.length) (hsl : ∀ (i : Nat) (x : SlT) (L : List Ru), vs[i]? = some x → Ts[i]? = some L → SR w0 (slV x) L) (hb : Below w0.heap.size w0 w) (hg : w.grownBy w' none) (hB : w0.heap.size ≤ B) (ho : w'.ownsRow B e slE.n u vs.length (cellsG slE vs)) : TR e w' w0.heap.size B u vs Ts := by
  have each : ∀ (i : Nat) (x : SlT), vs[i]? = some x → ∃ L, Ts[i]? = some L := fun i x h => by
    have hi : i < Ts.length := by rw [← hlen]; exact (List.getElem?_eq_some_iff.1 h).1
    exact ⟨_, List.getElem?_eq_getElem hi⟩
  refine ⟨ho, hlen, fun i x L h1 h2 => ⟨((hsl i x L h1 h2).later hb).grown hg (fun b hb => by cases hb), fun b hb => (hsl i x L h1 h2).off (Nat.le_trans hB (ho.lt b hb).1)⟩, fun i x h1 b h2 h3 => ?_⟩
  obtain ⟨L, hL⟩ := each i x h1
  exact (hsl i x L h1 hL).off h2
/-- One table more, which lies elsewhere. -/
theorem TR.push (h : TR e w A B v vs Ts) {x : SlT} {L : List Ru} (hx : SR w (slV x) L) {v' : Value} (hox : ∀ b, v.ownBlock = some b → offB x b) (hoz : ∀ b, A ≤ b → b < B → offB x b)
    (hg : w.grownBy w' v.ownBlock) (ho : w'.ownsRow B e slE.n v' (vs ++ [x]).length (cellsG slE (vs ++ [x]))) (hb : v'.ownBlock = v.ownBlock ∨ v'.ownBlock = some w.heap.size) : TR e w' A B v' (vs ++ [x]) (Ts ++ [L]) := by
  have one : ∀ {y : SlT} {M : List Ru}, SR w (slV y) M → (∀ b, v.ownBlock = some b → offB y b) → SR w' (slV y) M ∧ ∀ b, v'.ownBlock = some b → offB y b := by
    intro y M h1 h2
    refine ⟨h1.grown hg h2, fun b hv => ?_⟩
    rcases hb with hb | hb
    · exact h2 b (by rw [← hb]; exact hv)
    · rw [hb] at hv
      cases hv
      exact h1.off (Nat.le_refl _)
  refine ⟨ho, by simp [h.lv], fun i y M h1 h2 => ?_, fun i y h1 => ?_⟩
  · by_cases hi : i < vs.length
    · rw [List.getElem?_append_left hi] at h1
      rw [List.getElem?_append_left (by rw [← h.lv]; exact hi)] at h2
      obtain ⟨a1, a2⟩ := h.rv i y M h1 h2
      exact one a1 a2
    · have hi2 : i = vs.length := by
        have := (List.getElem?_eq_some_iff.1 h1).1
        simp at this
        omega
      subst hi2
      simp at h1
      rw [h.lv] at h2
      simp at h2
      subst h1 h2
      exact one hx hox
  · by_cases hi : i < vs.length
    · rw [List.getElem?_append_left hi] at h1
      exact h.rz i y h1
    · have hi2 : i = vs.length := by
        have := (List.getElem?_eq_some_iff.1 h1).1
        simp at this
        omega
      subst hi2
      simp at h1
      subst h1
      exact hoz
/-- A table put in another one's place. -/
theorem TR.put {g n cap i : Nat} (h : TR e w A B (.slice (some ⟨g, 0, none⟩) n cap) vs Ts) {x : SlT} {L : List Ru} (hx : SR w (slV x) L) (hox : offB x g) (hoz : ∀ b, A ≤ b → b < B → offB x b) : TR e (w.setCell ⟨g, i, none⟩ (slV x)) A B (.slice (some ⟨g, 0, none⟩) n cap) (vs.set i x) (Ts.set i L) := by
  have hgw : w.grownBy (w.setCell ⟨g, i, none⟩ (slV x)) (some g) := grown_set w g i (slV x)
  refine ⟨?_, by simp [h.lv], fun j y M a1 a2 => ?_, fun j y a1 => ?_⟩
  · have h1 := h.ov
    have hn : n = vs.length := by
      rcases h1.2 with ⟨h3, _⟩ | ⟨_, _, _, h3, _⟩
      · cases h3
      · simp only [Value.slice.injEq] at h3
        exact h3.2.1
    rw [List.length_set, sl_cells, List.map_set]
    rw [sl_cells, ← hn] at h1
    rw [← hn]
    exact (h1.stored _ _).1
  · have hj : j < (vs.set i x).length := (List.getElem?_eq_some_iff.1 a1).1
    rw [List.length_set] at hj
    by_cases hij : i = j
    · subst hij
      rw [List.getElem?_set_self hj] at a1
      rw [List.getElem?_set_self (by rw [← h.lv]; exact hj)] at a2
      cases a1
      cases a2
      refine ⟨hx.grown hgw (fun b hb => by cases hb; exact hox), fun b hb => ?_⟩
      cases hb
      exact hox
    · rw [List.getElem?_set_ne hij] at a1 a2
      obtain ⟨b1, b2⟩ := h.rv j y M a1 a2
      exact ⟨b1.grown hgw (fun b hb => by cases hb; exact b2 g rfl), b2⟩
  · have hj : j < (vs.set i x).length := (List.getElem?_eq_some_iff.1 a1).1
    rw [List.length_set] at hj
    by_cases hij : i = j
    · subst hij
      rw [List.getElem?_set_self hj] at a1
      cases a1
      exact hoz
    · rw [List.getElem?_set_ne hij] at a1
      exact h.rz j y a1
theorem TR.ts (h : TR e w A B v vs Ts) : TS w v Ts := by
  rcases own_GS h.ov with ⟨ao, cap, rfl, h0⟩ | ⟨g, o, cap, rfl, h1, h2, h3⟩
  · refine .inl ⟨ao, cap, rfl, ?_⟩
    have := h.lv
    rw [h0] at this
    exact List.length_eq_zero_iff.1 this.symm
  · refine .inr ⟨g, o, cap, by rw [h.lv], by rw [← h.lv]; exact h1, h2, fun i hi => ?_⟩
    have hi2 : i < vs.length := by rw [h.lv]; exact hi
    have := h3 i hi2 0 _ rfl
    have e : o + i * slE.n + 0 = o + i := by show o + i * 1 + 0 = o + i; omega
    rw [e] at this
    exact ⟨_, _, _, this, (h.rv i _ _ (List.getElem?_eq_getElem hi2) (List.getElem?_eq_getElem hi)).1⟩
/-- Where the i-th table lies. -/
theorem TR.at {g n cap i : Nat} (h : TR e w A B (.slice (some ⟨g, 0, none⟩) n cap) vs Ts) (hi : i < Ts.length) : ∃ x : SlT, w.cell? ⟨g, i, none⟩ = some (slV x) ∧ SR w (slV x) (Ts.getD i []) ∧ w.frozen? ⟨g, i, none⟩ = false ∧ n = Ts.length ∧ B ≤ g ∧ g < w.heap.size := by
  have h1 := h.ov
  have hn : n = vs.length := by
    rcases h1.2 with ⟨h3, _⟩ | ⟨_, _, _, h3, _⟩
    · cases h3
    · simp only [Value.slice.injEq] at h3
      exact h3.2.1
  have hi2 : i < vs.length := by rw [h.lv]; exact hi
  rw [sl_cells, ← hn] at h1
  refine ⟨vs[i], ?_, ?_, h1.frozenAt i, by rw [hn, h.lv], (h1.lt g rfl).1, (h1.lt g rfl).2⟩
  · rw [h1.cellAt i (by show i < n * 1; omega)]
    simp [hi2]
  · rw [getT hi]
    exact (h.rv i _ _ (List.getElem?_eq_getElem hi2) (List.getElem?_eq_getElem hi)).1
end
end Go.Proofs.Ytmpjoepfgfbjmaa
/- Rows of ops, and of tables, that a call owns: appending to them. -/
namespace Go.Proofs.Ytmpjoepfgfbjmaa
open Go.RowKit
set_option linter.unusedSimpArgs false
set_option linter.unusedVariables false

/-- A row of these ops that lies in a new block. -/
def NO (w : World) (B : Nat) (v : Value) (L : List Op8) : Prop := w.ownsRow B 52 8 v L.length (cellsG opE L)
theorem NO.gs {w : World} {B : Nat} {v : Value} {L : List Op8} (h : NO w B v L) : GS opE w v L := own_GS (E := opE) h
theorem NO.nil (w : World) (B : Nat) : NO w B (.slice none 0 0) [] := World.ownsRow_nil w B _ 8
theorem NO.mono {w : World} {B B' : Nat} {v : Value} {L : List Op8} (h : NO w B v L) (hB : B' ≤ B) : NO w B' v L := by
  obtain ⟨h1, h2 | ⟨g, cap, cur, hv, hb, h3⟩⟩ := h
  · exact ⟨h1, .inl h2⟩
  · exact ⟨h1, .inr ⟨g, cap, cur, hv, Nat.le_trans hB hb, h3⟩⟩
theorem NO.later {w w' : World} {B : Nat} {v : Value} {L : List Op8} (h : NO w B v L) (hb : Below w.heap.size w w') : NO w' B v L := h.kept (grown_below hb) (none_or _)
theorem NO.ofn {w : World} {B n : Nat} {v : Value} {M L : List Op8} (h : w.ownsRow B 52 8 v n (cellsG opE M)) (hL : M = L) (hn : n = L.length) : NO w B v L := by subst hL hn; exact h
theorem NR.ofn {w : World} {B n : Nat} {v : Value} {M : List Ru} (h : w.ownsRow B 32 6 v n (cellsR M)) (hn : n = M.length) : NR w B v M := by subst hn; exact h
/-- Appending ops, whoever made them, to a row of ops that a call owns. -/
theorem wpList_append_ops (w : World) {ops : Array Oper} {rest : List Oper} {o : Oper} {a : Act} {Q : Exit → Act → World → Prop} (hgd : o.guard = none) (s x : Operand) (t : TypeId)
    (ho : o.op = .call { callee := .builtin .append, args := #[s, x], argTypes := #[t, t] }) (ht : Try.prog.underlying t = some (.slice 52)) (base : Nat)
    (v : Value) (hs : a.eval s = v) (L : List Op8) (hown : NO w base v L) (u : Value) (hx : a.eval x = u) (M : List Op8) (hM : GS opE w u M)
    (h100 : L.length + M.length ≤ 1000000) (hbase : base ≤ w.heap.size)
    (h : ∀ v' w', NO w' base v' (L ++ M) → w.grownBy w' v.ownBlock → wpList Try.prog ops Q rest (a.put o.dst v') w') : wpList Try.prog ops Q (o :: rest) a w := by
  obtain ⟨i0, hi, hz0, hz1, hz2⟩ := info_parts op_info
  exact wpList_append_GS (E := opE) w hgd s x t 52 ho ht i0 _ 64 hi hz0 hz1 hz2 op_zero base v hs L hown u hx M hM (by unfold maxLen; omega) (by omega) hbase h
theorem ta_info : (Try.prog.info? 35).map (fun i => (i.zero, i.size, i.bytes)) = some (some (.slice none 0 0), 1, 24) := by kernel_rfl
theorem ta_zero : (Value.slice none 0 0).cells.size = 1 := by simp [Value.cells]
/-- A copy of a slice of tables. -/
theorem wpList_append_tabs (w : World) {ops : Array Oper} {rest : List Oper} {o : Oper} {a : Act} {Q : Exit → Act → World → Prop} (hgd : o.guard = none) (s x : Operand) (t : TypeId)
    (ho : o.op = .call { callee := .builtin .append, args := #[s, x], argTypes := #[t, t] }) (ht : Try.prog.underlying t = some (.slice 35))
    (hs : a.eval s = .slice none 0 0) (u : Value) (hx : a.eval x = u) (Ts : List (List Ru)) (w0 : World) (hM : TS w0 u Ts) (hb : Below w0.heap.size w0 w) (h100 : Ts.length ≤ 1000000)
    (h : ∀ v' w' vs, TR 35 w' w0.heap.size w.heap.size v' vs Ts → w.grownBy w' none → wpList Try.prog ops Q rest (a.put o.dst v') w') : wpList Try.prog ops Q (o :: rest) a w := by
  obtain ⟨i0, hi, hz0, hz1, hz2⟩ := info_parts ta_info
  obtain ⟨vs, g1, g2, g3⟩ := ts_sl hM
  refine wpList_append_GS (E := slE) w hgd s x t 35 ho ht i0 _ 24 hi hz0 hz1 hz2 ta_zero w.heap.size _ hs [] (World.ownsRow_nil _ _ _ _) u hx vs (g1.later hb) (by unfold maxLen; simp [g2]; omega) (by simp [g2]; omega) (Nat.le_refl _) ?_
  intro v' w' h1 h2
  exact h v' w' vs (tr_copy g2 g3 hb h2 hb.size h1) h2
/-- One table more at the end of a row. -/
theorem wpList_append_tab (w : World) {ops : Array Oper} {rest : List Oper} {o : Oper} {a : Act} {Q : Exit → Act → World → Prop} (hgd : o.guard = none) (s x : Operand) (t : TypeId)
    (ho : o.op = .call { callee := .builtin .append, args := #[s, x], argTypes := #[t, t] }) (ht : Try.prog.underlying t = some (.slice 35)) (base : Nat)
    (v : Value) (hs : a.eval s = v) (vs : List SlT) (Ts : List (List Ru)) (A : Nat) (hown : TR 35 w A base v vs Ts) (g q c : Nat) (hx : a.eval x = .slice (some ⟨g, q, none⟩) 1 c) (y : SlT) (hy : w.cell? ⟨g, q, none⟩ = some (slV y)) (L : List Ru) (hL : SR w (slV y) L) (hoff : ∀ b, v.ownBlock = some b → offB y b) (hofz : ∀ b, A ≤ b → b < base → offB y b)
    (h100 : Ts.length ≤ 1000000) (hbase : base ≤ w.heap.size)
    (h : ∀ v' w', TR 35 w' A base v' (vs ++ [y]) (Ts ++ [L]) → w.grownBy w' v.ownBlock → wpList Try.prog ops Q rest (a.put o.dst v') w') : wpList Try.prog ops Q (o :: rest) a w := by
  obtain ⟨i0, hi, hz0, hz1, hz2⟩ := info_parts ta_info
  have hlv := hown.lv
  refine wpList_append_blk (E := slE) w hgd s x t 35 ho ht i0 _ 24 hi hz0 hz1 hz2 ta_zero base v hs vs hown.ov g q c hx y (fun j u hu => ?_) (by unfold maxLen; omega) (by omega) hbase ?_
  · obtain rfl : j = 0 := by
      have := (List.getElem?_eq_some_iff.1 hu).1
      have e : (slE.c y).length = 1 := rfl
      omega
    have e4 : slV y = u := Option.some.inj hu
    rw [Nat.add_zero, ← e4]
    exact hy
  · intro v' w' h1 h2 h3
    exact h v' w' (hown.push hL hoff hofz h2 h1 h3) h2
/-- A new table is a slice that lies in no older block. -/
theorem NR.sl {w : World} {B : Nat} {v : Value} {L : List Ru} (h : NR w B v L) : ∃ x : SlT, v = slV x ∧ ∀ b, b < B → offB x b := by
  rcases h.2 with ⟨rfl, h0⟩ | ⟨g, cap, cur, rfl, hg, _⟩
  · exact ⟨(none, 0, 0), rfl, fun b _ => .inl rfl⟩
  · refine ⟨(some ⟨g, 0, none⟩, L.length, cap), rfl, fun b hb => .inr fun a ha => ?_⟩
    cases ha
    show g ≠ b
    omega
end Go.Proofs.Ytmpjoepfgfbjmaa
/- Two lists of lists that a call owns, behind two appends in whatever order. No program in it. -/
namespace Go.Proofs.Ytmpjoepfgfbjmaa
open Go.RowKit
set_option linter.unusedSimpArgs false
set_option linter.unusedVariables false

theorem gnn_refl (w : World) : w.grownBy w none := ⟨rfl, rfl, rfl, Nat.le_refl _, fun _ _ _ => rfl⟩
theorem gnn_drew {w W : World} (h : w.grownBy W none) : w.grownBy W.drew none := ⟨h.os, h.tape, h.output, h.size, fun k hk hn => h.block k hk hn⟩
theorem gnn_alloc {w W : World} (h : w.grownBy W none) (o : Obj) : w.grownBy (W.alloc o) none :=
  ⟨h.os, h.tape, h.output, Nat.le_trans h.size (by simp), fun k hk hn => ((World.grownBy_alloc W o none).block k (Nat.lt_of_lt_of_le hk h.size) hn).trans (h.block k hk hn)⟩
theorem below_grown {B : Nat} {w W : World} {row : Option Nat} (h : w.grownBy W row) (hB : B ≤ w.heap.size) (hr : ∀ k, row = some k → B ≤ k) : Below B w W :=
  ⟨h.os, h.tape, h.output, h.size, fun k hk => h.block k (by omega) (fun e => by have := hr k e.symm; omega)⟩
/-- The step of a region: appending one thing to a row that a call owns. -/
theorem step_append_blk {P : Program} {α : Type} {E : Enc α} (w : World) {ops : Array Oper} {o : Oper} {a : Act} {K : Act → World → Prop} {Q : Exit → Act → World → Prop} {X : Prop} (hgd : o.guard = none) (s x : Operand) (t e : TypeId)
    (ho : o.op = .call { callee := .builtin .append, args := #[s, x], argTypes := #[t, t] }) (ht : P.underlying t = some (.slice e)) (i : TypeInfo) (z : Value) (bytes : Nat) (hi : P.info? e = some i) (hz : i.zero = some z)
    (hsize : i.size = E.n) (hby : i.bytes = bytes) (hzs : z.cells.size = E.n) (base : Nat)
    (v : Value) (hs : a.eval s = v) (L : List α) (hown : w.ownsRow base e E.n v L.length (cellsG E L)) (g q c : Nat) (hx : a.eval x = .slice (some ⟨g, q, none⟩) 1 c) (y : α) (hM : VAt w g q (E.c y))
    (h63 : L.length + 1 ≤ maxLen) (hbytes : (L.length + 1) * bytes ≤ 140737488355328) (hbase : base ≤ w.heap.size)
    (h : ∀ v' w', w'.ownsRow base e E.n v' (L ++ [y]).length (cellsG E (L ++ [y])) → w.grownBy w' v.ownBlock → v'.ownBlock = v.ownBlock ∨ v'.ownBlock = some w.heap.size → K (a.put o.dst v') w') :
    if Region.wanted o (yielded ops a.tmps) = true then Oper.wp P o a w K Q else X := by
  have hw : Region.wanted o (yielded ops a.tmps) = true := by simp [Region.wanted, hgd]
  rw [if_pos hw]
  have hG : GAt E w g q [y] := by
    intro k hk
    obtain rfl : k = 0 := by simp at hk; omega
    simpa using hM
  have hc := hG.cells
  rw [cellsG_one] at hc
  have hl : (E.c y).length = 1 * E.n := by rw [E.len]; omega
  obtain ⟨v', w', hr, h2, h3, _⟩ := run_append_own (P := P) w base t o.type e i z E.n bytes ht hi hz hsize hby hzs E.pos v _ _ hown ⟨g, q, none⟩ 1 c (E.c y) hl hc (E.one y) h63 hbytes hbase
  have hb := run_append_blk (P := P) t o.type e i z ht hi hz v _ _ (by rw [hsize]; exact hown) ⟨g, q, none⟩ c (E.c y) (by rw [hsize]; exact hl) hc (E.one y) h63 (by rw [hby]; exact hbytes) hr
  unfold Oper.wp execOp
  simp only [ho, resolve, invoke, builtin, Sem.run_bind, Sem.run_pure, Result.andThen_ok, List.map_toArray, List.map_cons, List.map_nil, hs, hx, hr]
  exact h v' w' (by rw [List.length_append, cellsG_app, cellsG_one]; exact h2) h3 hb
section
variable {e1 e2 : TypeId} {w W1 W1' W2 W2' Wf : World} {B : Nat} {v u v' u' : Value} {vs us : List SlT} {Cs Ps : List (List Int)}
theorem CP.base (h : CP e1 e2 w B v u vs us Cs Ps) : (∀ k, v.ownBlock = some k → B ≤ k ∧ k < w.heap.size) ∧ ∀ k, u.ownBlock = some k → B ≤ k ∧ k < w.heap.size := ⟨fun k hk => h.ov.lt k hk, fun k hk => h.ou.lt k hk⟩
/-- One append behind the other. -/
theorem CP.seq (h : CP e1 e2 w B v u vs us Cs Ps) (he : e1 ≠ e2) (hB : B ≤ w.heap.size) {x p : SlT} {L P : List Int}
    (hp : W1.ownsRow B e1 inE.n (slV x) L.length (cellsG inE L)) (hxn : ∀ y ∈ vs ++ us, (slV y).ownBlock ≠ (slV x).ownBlock)
    (hq : W2.ownsRow B e1 inE.n (slV p) P.length (cellsG inE P)) (hpn : ∀ y ∈ vs ++ us, (slV y).ownBlock ≠ (slV p).ownBlock) (hxp : (slV x).ownBlock ≠ (slV p).ownBlock)
    (c1 : w.grownBy W1 none) (g1 : W1.grownBy W1' v.ownBlock) (o1 : W1'.ownsRow B e2 slE.n v' (vs ++ [x]).length (cellsG slE (vs ++ [x]))) (b1 : v'.ownBlock = v.ownBlock ∨ v'.ownBlock = some W1.heap.size)
    (c2 : W1'.grownBy W2 none) (g2 : W2.grownBy W2' u.ownBlock) (o2 : W2'.ownsRow B e2 slE.n u' (us ++ [p]).length (cellsG slE (us ++ [p]))) (b2 : u'.ownBlock = u.ownBlock ∨ u'.ownBlock = some W2.heap.size)
    (c3 : W2'.grownBy Wf none) : CP e1 e2 Wf B v' u' (vs ++ [x]) (us ++ [p]) (Cs ++ [L]) (Ps ++ [P]) ∧ Below B w Wf := by
  have k1 := h.keep c1
  have k2 := (k1.push he hp hxn g1 o1 b1).keep c2
  have k3 := k2.swap.push he hq (by
    intro y hy
    rcases List.mem_append.1 hy with hy | hy
    · exact hpn y (List.mem_append_right _ hy)
    · rcases List.mem_append.1 hy with hy | hy
      · exact hpn y (List.mem_append_left _ hy)
      · simp at hy
        subst hy
        exact hxp) g2 o2 b2
  have hv := h.base.1
  have hu := h.base.2
  have s1 := c1.size
  have s2 := g1.size
  have s3 := c2.size
  have s4 := g2.size
  refine ⟨(k3.swap).keep c3, ?_⟩
  have b1' : Below B w W1 := below_grown c1 hB (fun k e => by cases e)
  have b2' : Below B W1 W1' := below_grown g1 (by omega) (fun k e => (hv k e).1)
  have b3' : Below B W1' W2 := below_grown c2 (by omega) (fun k e => by cases e)
  have b4' : Below B W2 W2' := below_grown g2 (by omega) (fun k e => (hu k e).1)
  have b5' : Below B W2' Wf := below_grown c3 (by omega) (fun k e => by cases e)
  exact (((b1'.trans b2').trans b3').trans b4').trans b5'
end
end Go.Proofs.Ytmpjoepfgfbjmaa
/- What strings.Clone answers: the text itself. -/
namespace Go.Proofs.Ytmpjoepfgfbjmaa
open Go.RowKit
set_option linter.unusedSimpArgs false
set_option linter.unusedVariables false

theorem infoByte : (Try.prog.info? 5).map (fun i => (i.zero, i.size, i.bytes)) = some (some (.int .u8 0), 1, 1) := by kernel_rfl
set_option maxHeartbeats 1000000 in
set_option maxRecDepth 100000 in
theorem liteClone (s : ByteArray) (w : World) (hlim : s.size ≤ 1000000) :
    Calls Try.prog 26 #[.string s] w fun e w' => e = .returned (.string s) ∧ Below w.heap.size w w' := by
  by_cases h0 : s.size = 0
  · have hs : s = ⟨#[]⟩ := by
      apply ByteArray.ext
      exact Array.eq_empty_of_size_eq_zero h0
    subst hs
    go_enter Try.func26, Try.ntmps26
    go_wp2
    go_ret
    exact ⟨rfl, Below.refl _ _⟩
  · obtain ⟨i0, hi, hz0, hz1, hz2⟩ := info_parts infoByte
    have hinfo : (Try.prog.info? 5).map (·.size) = some 1 := by rw [hi]; simp [hz1]
    have hco : Try.prog.cellsOf 5 = 1 := by simp [Program.cellsOf, hi, hz1]
    obtain ⟨M, hM⟩ : ∃ M, M = madeCells (Value.int .u8 0).cells (((s.size : Nat) : Int).toNat * i0.size) := ⟨_, rfl⟩
    have hMs : M.size = s.size := by rw [hM, size_madeCells, hz1]; simp
    have hmk : (Instr.makeSlice 113 (.int .i64 (s.size : Int)) (.int .i64 (s.size : Int))).run Try.prog w = .ok (.slice (some ⟨w.heap.size, 0, none⟩) s.size s.size) (w.alloc (.cells M 5)) := by
      have h := run_make (P := Try.prog) w 113 5 i0 (.int .u8 0) Try.underlying113 hi hz0 .i64 .i64 (s.size : Int) (s.size : Int) (by omega) (by omega) (by rw [hz2]; omega) (by omega)
      rw [← hM] at h
      simpa using h
    clear hM
    have hcp := Lib.run_copy_row_string (P := Try.prog) (w.alloc (.cells M 5)) 113 9 3 5 w.heap.size 0 s.size s.size s M 5 Try.underlying113 hinfo (heap_alloc_new w _) (Nat.le_refl _) (by omega)
    obtain ⟨Y, hY⟩ : ∃ Y, Y = (M.toList.take 0 ++ Lib.byteCells s.data.toList ++ M.toList.drop (0 + s.size)).toArray := ⟨_, rfl⟩
    rw [← hY] at hcp
    have hYl : Y.toList = Lib.byteCells s.data.toList := by
      rw [hY, List.toList_toArray, List.take_zero, List.nil_append, List.drop_of_length_le (by rw [Array.length_toList]; omega), List.append_nil]
    have hYs : Y.size = s.size := by rw [← Array.length_toList, hYl, Lib.byteCells_length, ← Lib.size_eq]
    have hgY : ((w.alloc (.cells M 5)).setRow w.heap.size Y).heap[w.heap.size]? = some (.cells Y 5 (0, 0)) := setRow_heap _ _ M _ 5 (0, 0) (heap_alloc_new w _)
    have hne : s.data.toList ≠ [] := fun e => h0 (by rw [Lib.size_eq, e]; rfl)
    have hUS := Lib.run_unsafeString_row (P := Try.prog) ((w.alloc (.cells M 5)).setRow w.heap.size Y) 114 3 9 5 Try.underlying114 hco w.heap.size Y.size (by unfold World.shape?; rw [hgY]) s.data.toList hne (by rw [← Lib.size_eq]; omega) (by rw [← Lib.size_eq]; omega)
      (fun j x hx => Lib.cells_of_row hgY Y.size j _ (by rw [List.take_of_length_le (by rw [Array.length_toList]; exact Nat.le_refl _), hYl]; simp [Lib.byteCells, hx]))
    rw [← Lib.size_eq] at hUS
    clear hY
    go_enter Try.func26, Try.ntmps26
    go_wp2
    go_ret
    have hb1 : Below w.heap.size w (w.alloc (.cells M 5)) := (Below.refl _ w).alloc (Nat.le_refl _) _
    have hb2 : Below w.heap.size (w.alloc (.cells M 5)) ((w.alloc (.cells M 5)).setRow w.heap.size Y) := ⟨rfl, rfl, rfl, by simp, fun k hk => setRow_other _ _ _ _ (by omega)⟩
    exact ⟨rfl, Lib.below_freeze (hb1.trans hb2) (p := ⟨w.heap.size, 0, none⟩) (Nat.le_refl _) _⟩
set_option maxHeartbeats 1000000 in
theorem clone_any (s : ByteArray) (w : World) (hlim : s.size ≤ 1000000) :
    Calls Try.prog 12 #[.string s] w fun e w' => e = .returned (.string s) ∧ Below w.heap.size w w' := by
  go_enter Try.func12, Try.ntmps12
  go_wp2_with fail
  refine (liteClone s _ hlim).mono ?_
  rintro e w1 ⟨rfl, hb1⟩
  go_wp2
  go_ret
  exact ⟨rfl, hb1⟩
end Go.Proofs.Ytmpjoepfgfbjmaa
/- Are two topologies the same, as they stand? -/
namespace Go.Proofs.Ytmpjoepfgfbjmaa
open Go.RowKit
set_option linter.unusedSimpArgs false
set_option linter.unusedVariables false

theorem hstB_iff (a b : ByteArray × (Int × Int)) : hstB a b = true ↔ a = b := by
  obtain ⟨a0, a1, a2⟩ := a
  obtain ⟨b0, b1, b2⟩ := b
  simp only [hstB, Bool.and_eq_true, beq_iff_eq, Prod.mk.injEq, ba_iff]
/-- Two topologies have all the same. -/
def tpB (S S' : Int) (Ls Ls' : List ((Int × Int) × (Int × Int))) (Hs Hs' : List (ByteArray × (Int × Int))) : Bool := decide (S = S') && (smG lnkB Ls Ls' && smG hstB Hs Hs')
theorem tpB_iff {S S' : Int} {Ls Ls' : List ((Int × Int) × (Int × Int))} {Hs Hs' : List (ByteArray × (Int × Int))} : tpB S S' Ls Ls' Hs Hs' = true ↔ S = S' ∧ Ls = Ls' ∧ Hs = Hs' := by
  simp only [tpB, Bool.and_eq_true, decide_eq_true_eq, smG_eq lnkB_iff, smG_eq hstB_iff]
/-- Two boxes, and a link of each: a class of worlds. -/
def LC (w : World) (B : Nat) (S S' : Int) (a1 a2 b1 b2 : Value) (g o : Nat) (x0 x1 x2 x3 : Int) (g' o' : Nat) (y0 y1 y2 y3 : Int) (w' : World) : Prop :=
  Below w.heap.size w w' ∧ TBox w' B S a1 a2 ∧ TBox w' (B + 1) S' b1 b2 ∧ (w'.cell? ⟨g, o, none⟩ = some (.int .i64 x0) ∧ w'.cell? ⟨g, o + 1, none⟩ = some (.int .i64 x1) ∧ w'.cell? ⟨g, o + 2, none⟩ = some (.int .i64 x2) ∧ w'.cell? ⟨g, o + 3, none⟩ = some (.int .i64 x3)) ∧
    w'.cell? ⟨g', o', none⟩ = some (.int .i64 y0) ∧ w'.cell? ⟨g', o' + 1, none⟩ = some (.int .i64 y1) ∧ w'.cell? ⟨g', o' + 2, none⟩ = some (.int .i64 y2) ∧ w'.cell? ⟨g', o' + 3, none⟩ = some (.int .i64 y3)
theorem LC.later {w W W' : World} {B : Nat} {S S' : Int} {a1 a2 b1 b2 : Value} {g o : Nat} {x0 x1 x2 x3 : Int} {g' o' : Nat} {y0 y1 y2 y3 : Int} (hb : Below W.heap.size W W') (h : LC w B S S' a1 a2 b1 b2 g o x0 x1 x2 x3 g' o' y0 y1 y2 y3 W) : LC w B S S' a1 a2 b1 b2 g o x0 x1 x2 x3 g' o' y0 y1 y2 y3 W' := by
  obtain ⟨h0, t1, t2, ⟨h1, h2, h3, h4⟩, k1, k2, k3, k4⟩ := h
  exact ⟨h0.trans (hb.mono h0.size), t1.later hb, t2.later hb, ⟨cell_later hb h1, cell_later hb h2, cell_later hb h3, cell_later hb h4⟩, cell_later hb k1, cell_later hb k2, cell_later hb k3, cell_later hb k4⟩
/-- Two boxes, and a host of each. -/
def HC (w : World) (B : Nat) (S S' : Int) (a1 a2 b1 b2 : Value) (g o : Nat) (x0 : ByteArray) (x1 x2 : Int) (g' o' : Nat) (y0 : ByteArray) (y1 y2 : Int) (w' : World) : Prop :=
  Below w.heap.size w w' ∧ TBox w' B S a1 a2 ∧ TBox w' (B + 1) S' b1 b2 ∧ (w'.cell? ⟨g, o, none⟩ = some (.string x0) ∧ w'.cell? ⟨g, o + 1, none⟩ = some (.int .i64 x1) ∧ w'.cell? ⟨g, o + 2, none⟩ = some (.int .i64 x2)) ∧
    w'.cell? ⟨g', o', none⟩ = some (.string y0) ∧ w'.cell? ⟨g', o' + 1, none⟩ = some (.int .i64 y1) ∧ w'.cell? ⟨g', o' + 2, none⟩ = some (.int .i64 y2)
theorem HC.later {w W W' : World} {B : Nat} {S S' : Int} {a1 a2 b1 b2 : Value} {g o : Nat} {x0 : ByteArray} {x1 x2 : Int} {g' o' : Nat} {y0 : ByteArray} {y1 y2 : Int} (hb : Below W.heap.size W W') (h : HC w B S S' a1 a2 b1 b2 g o x0 x1 x2 g' o' y0 y1 y2 W) : HC w B S S' a1 a2 b1 b2 g o x0 x1 x2 g' o' y0 y1 y2 W' := by
  obtain ⟨h0, t1, t2, ⟨h1, h2, h3⟩, k1, k2, k3⟩ := h
  exact ⟨h0.trans (hb.mono h0.size), t1.later hb, t2.later hb, ⟨cell_later hb h1, cell_later hb h2, cell_later hb h3⟩, cell_later hb k1, cell_later hb k2, cell_later hb k3⟩
/-- Two boxes. -/
def TT (W : World) (B : Nat) (S S' : Int) (a1 a2 b1 b2 : Value) : Prop := TBox W B S a1 a2 ∧ TBox W (B + 1) S' b1 b2
theorem tt_new (w : World) (S S' : Int) (a1 a2 b1 b2 : Value) (t : TypeId) : TT ((w.alloc (Obj.cells #[.int .i64 S, a1, a2] t)).alloc (Obj.cells #[.int .i64 S', b1, b2] t)) w.heap.size S S' a1 a2 b1 b2 := by
  refine ⟨(tbox_new w S a1 a2 t).later ((Below.refl _ _).alloc (Nat.le_refl _) _), ?_⟩
  have := tbox_new (w.alloc (Obj.cells #[.int .i64 S, a1, a2] t)) S' b1 b2 t
  simpa using this
theorem TT.later {W W' : World} {B : Nat} {S S' : Int} {a1 a2 b1 b2 : Value} (h : TT W B S S' a1 a2 b1 b2) (hb : Below W.heap.size W W') : TT W' B S S' a1 a2 b1 b2 := ⟨h.1.later hb, h.2.later hb⟩
end Go.Proofs.Ytmpjoepfgfbjmaa
/- What railsame.Topo answers at any two topologies. Written by mk/alike.py. -/
namespace Go.Proofs.Ytmpjoepfgfbjmaa
open Go.RowKit
set_option linter.unusedSimpArgs false
set_option linter.unusedVariables false

end Go.Proofs.Ytmpjoepfgfbjmaa
/- Slices of ops: where they lie, rows of them that a call owns. -/
namespace Go.Proofs.Ytmpjoepfgfbjmaa
open Go.RowKit
set_option linter.unusedSimpArgs false
set_option linter.unusedVariables false

/-- An op lies at an address. -/
structure C8 (w : World) (g o : Nat) (x : Op8) : Prop where
  c0 : w.cell? ⟨g, o, none⟩ = some (.int .i64 x.w)
  c1 : w.cell? ⟨g, o + 1, none⟩ = some (.bool x.a)
  c2 : w.cell? ⟨g, o + 2, none⟩ = some (.int .i64 x.r.p)
  c3 : w.cell? ⟨g, o + 3, none⟩ = some (.int .i64 x.r.m)
  c4 : w.cell? ⟨g, o + 4, none⟩ = some (.int .i64 x.r.b)
  c5 : w.cell? ⟨g, o + 5, none⟩ = some (.int .i64 x.r.o)
  c6 : w.cell? ⟨g, o + 6, none⟩ = some (.int .i64 x.r.s)
  c7 : w.cell? ⟨g, o + 7, none⟩ = some (.int .i64 x.r.v)
theorem C8.later {w w' : World} {g o : Nat} {x : Op8} (h : C8 w g o x) (hb : Below w.heap.size w w') : C8 w' g o x :=
  ⟨cell_later hb h.c0, cell_later hb h.c1, cell_later hb h.c2, cell_later hb h.c3, cell_later hb h.c4, cell_later hb h.c5, cell_later hb h.c6, cell_later hb h.c7⟩
theorem C8.new (w : World) (y : Int) (a : Bool) (p m b o s v : Int) (t : TypeId) : C8 (w.alloc (Obj.cells #[Value.int IntKind.i64 y, Value.bool a, Value.int IntKind.i64 p, Value.int IntKind.i64 m, Value.int IntKind.i64 b, Value.int IntKind.i64 o, Value.int IntKind.i64 s, Value.int IntKind.i64 v] t)) w.heap.size 0 ⟨y, a, ⟨p, m, b, o, s, v⟩⟩ := by
  refine ⟨?_, ?_, ?_, ?_, ?_, ?_, ?_, ?_⟩ <;> simp
/-- These ops lie from an address on. -/
def OAt (w : World) (g o : Nat) (L : List Op8) : Prop := ∀ i (h : i < L.length), C8 w g (o + i * 8) L[i]
theorem OAt.later {w w' : World} {g o : Nat} {L : List Op8} (h : OAt w g o L) (hb : Below w.heap.size w w') : OAt w' g o L := fun i hi => (h i hi).later hb
/-- A value is a slice of these ops. -/
def SO (w : World) (v : Value) (L : List Op8) : Prop :=
  (∃ ao cap, v = .slice ao 0 cap ∧ L = []) ∨ ∃ g o cap, v = .slice (some ⟨g, o, none⟩) L.length cap ∧ L.length ≤ cap ∧ cap ≤ maxLen ∧ OAt w g o L
theorem SO.later {w w' : World} {v : Value} {L : List Op8} (h : SO w v L) (hb : Below w.heap.size w w') : SO w' v L := by
  rcases h with h | ⟨g, o, cap, h1, h2, h3, h4⟩
  · exact .inl h
  · exact .inr ⟨g, o, cap, h1, h2, h3, h4.later hb⟩
theorem SO.form {w : World} {v : Value} {L : List Op8} (h : SO w v L) : ∃ ao n cap, v = .slice ao n cap ∧ L.length = n ∧ n ≤ maxLen ∧ n ≤ cap ∧ (0 < n → ∃ g o, ao = some ⟨g, o, none⟩ ∧ OAt w g o L ∧ cap ≤ maxLen) := by
  rcases h with ⟨ao, cap, rfl, rfl⟩ | ⟨g, o, cap, rfl, h1, h2, h3⟩
  · exact ⟨ao, 0, cap, rfl, rfl, Nat.zero_le _, Nat.zero_le _, fun h => absurd h (by omega)⟩
  · exact ⟨_, _, cap, rfl, rfl, Nat.le_trans h1 h2, h1, fun _ => ⟨g, o, rfl, h3, h2⟩⟩
theorem SO.nil (w : World) : SO w (.slice none 0 0) [] := .inl ⟨none, 0, rfl, rfl⟩
/-- The op at a place, in letters. -/
theorem OAt.at {w : World} {g o : Nat} {L : List Op8} (h : OAt w g o L) {n k : Nat} (hn : L.length = n) (hk : k < n) :
    ∃ (y : Int) (a : Bool) (p m b q s v : Int) (hl : k < L.length), L[k] = ⟨y, a, ⟨p, m, b, q, s, v⟩⟩ ∧ (w.cell? ⟨g, o + k * 8, none⟩ = some (.int .i64 y) ∧ w.cell? ⟨g, o + k * 8 + 1, none⟩ = some (.bool a) ∧ w.cell? ⟨g, o + k * 8 + 2, none⟩ = some (.int .i64 p) ∧ w.cell? ⟨g, o + k * 8 + 3, none⟩ = some (.int .i64 m) ∧ w.cell? ⟨g, o + k * 8 + 4, none⟩ = some (.int .i64 b) ∧
      w.cell? ⟨g, o + k * 8 + 5, none⟩ = some (.int .i64 q) ∧ w.cell? ⟨g, o + k * 8 + 6, none⟩ = some (.int .i64 s) ∧ w.cell? ⟨g, o + k * 8 + 7, none⟩ = some (.int .i64 v)) :=
  have hl : k < L.length := by omega
  have c := h k hl
  ⟨_, _, _, _, _, _, _, _, hl, rfl, c.c0, c.c1, c.c2, c.c3, c.c4, c.c5, c.c6, c.c7⟩
/-- The cells of ops. -/
def cellsO (L : List Op8) : List Value := L.flatMap fun x => [.int .i64 x.w, .bool x.a, .int .i64 x.r.p, .int .i64 x.r.m, .int .i64 x.r.b, .int .i64 x.r.o, .int .i64 x.r.s, .int .i64 x.r.v]
theorem cellsO_app (L M : List Op8) : cellsO (L ++ M) = cellsO L ++ cellsO M := by simp [cellsO]
theorem cellsO_at (L : List Op8) (i : Nat) (h : i < L.length) : (cellsO L)[i * 8]? = some (.int .i64 (L[i]).w) ∧ (cellsO L)[i * 8 + 1]? = some (.bool (L[i]).a) ∧ (cellsO L)[i * 8 + 2]? = some (.int .i64 (L[i]).r.p) ∧ (cellsO L)[i * 8 + 3]? = some (.int .i64 (L[i]).r.m) ∧
    (cellsO L)[i * 8 + 4]? = some (.int .i64 (L[i]).r.b) ∧ (cellsO L)[i * 8 + 5]? = some (.int .i64 (L[i]).r.o) ∧ (cellsO L)[i * 8 + 6]? = some (.int .i64 (L[i]).r.s) ∧ (cellsO L)[i * 8 + 7]? = some (.int .i64 (L[i]).r.v) := by
  induction L generalizing i with
  | nil => simp at h
  | cons p r ih =>
    cases i with
    | zero => simp [cellsO]
    | succ i =>
      have := ih i (by simpa using h)
      have e1 : (i + 1) * 8 = i * 8 + 1 + 1 + 1 + 1 + 1 + 1 + 1 + 1 := by omega
      simpa [cellsO, e1] using this
/-- What a call owns may be read. -/
theorem own_SO {w : World} {B e : Nat} {v : Value} {L : List Op8} (h : w.ownsRow B e 8 v L.length (cellsO L)) : SO w v L := by
  rcases h.2 with ⟨rfl, h0⟩ | ⟨g, cap, cur, rfl, _, _, h1, h2, _⟩
  · exact .inl ⟨none, 0, rfl, List.length_eq_zero_iff.1 h0⟩
  · refine .inr ⟨g, 0, cap, rfl, h1, h2, fun i hi => ?_⟩
    obtain ⟨a0, a1, a2, a3, a4, a5, a6, a7⟩ := cellsO_at L i hi
    rw [Nat.zero_add]
    refine ⟨?_, ?_, ?_, ?_, ?_, ?_, ?_, ?_⟩
    · rw [h.cellAt _ (by omega)]; exact a0
    · rw [h.cellAt _ (by omega)]; exact a1
    · rw [h.cellAt _ (by omega)]; exact a2
    · rw [h.cellAt _ (by omega)]; exact a3
    · rw [h.cellAt _ (by omega)]; exact a4
    · rw [h.cellAt _ (by omega)]; exact a5
    · rw [h.cellAt _ (by omega)]; exact a6
    · rw [h.cellAt _ (by omega)]; exact a7
theorem infoOp : (Try.prog.info? 52).map (fun i => (i.zero, i.size, i.bytes)) = some (some (.agg #[.int .i64 0, .bool false, .int .i64 0, .int .i64 0, .int .i64 0, .int .i64 0, .int .i64 0, .int .i64 0]), 8, 64) := by kernel_rfl
theorem eightCells : (Value.agg #[.int .i64 0, .bool false, .int .i64 0, .int .i64 0, .int .i64 0, .int .i64 0, .int .i64 0, .int .i64 0]).cells.size = 8 := by simp [Value.cells]

/-- Appending one op, in a new row, to a row of ops that a call owns. -/
theorem wpList_append_op (w : World) {ops : Array Oper} {rest : List Oper} {o : Oper} {a : Act} {Q : Exit → Act → World → Prop} (hgd : o.guard = none) (s x : Operand) (t : TypeId)
    (ho : o.op = .call { callee := .builtin .append, args := #[s, x], argTypes := #[t, t] }) (ht : Try.prog.underlying t = some (.slice 52)) (base : Nat)
    (v : Value) (hs : a.eval s = v) (L : List Op8) (hown : w.ownsRow base 52 8 v L.length (cellsO L)) (B : Nat) (hx : a.eval x = .slice (some ⟨B, 0, none⟩) 1 1) (y : Op8) (hM : C8 w B 0 y)
    (h100 : L.length ≤ 1000) (hbase : base ≤ w.heap.size)
    (h : ∀ v' w', w'.ownsRow base 52 8 v' (L ++ [y]).length (cellsO (L ++ [y])) → w.grownBy w' v.ownBlock → wpList Try.prog ops Q rest (a.put o.dst v') w') : wpList Try.prog ops Q (o :: rest) a w := by
  obtain ⟨i0, hi, hz0, hz1, hz2⟩ := info_parts infoOp
  refine wpList_append_own w hgd s x t ho base 52 i0 (.agg #[.int .i64 0, .bool false, .int .i64 0, .int .i64 0, .int .i64 0, .int .i64 0, .int .i64 0, .int .i64 0]) 8 64 ht hi hz0 hz1 hz2 eightCells (by decide) v _ _ hs hown ⟨B, 0, none⟩ 1 1 (cellsO [y]) hx rfl ?_ ?_ (by unfold maxLen; omega) (by omega) hbase ?_
  · intro j u hj
    rw [addr_add, Nat.zero_add]
    obtain ⟨c0, c1, c2, c3, c4, c5, c6, c7⟩ := hM
    match j, hj with
    | 0, hj => simp [cellsO] at hj; subst hj; exact c0
    | 1, hj => simp [cellsO] at hj; subst hj; exact c1
    | 2, hj => simp [cellsO] at hj; subst hj; exact c2
    | 3, hj => simp [cellsO] at hj; subst hj; exact c3
    | 4, hj => simp [cellsO] at hj; subst hj; exact c4
    | 5, hj => simp [cellsO] at hj; subst hj; exact c5
    | 6, hj => simp [cellsO] at hj; subst hj; exact c6
    | 7, hj => simp [cellsO] at hj; subst hj; exact c7
  · intro u hu
    simp [cellsO] at hu
    rcases hu with rfl | rfl | rfl | rfl | rfl | rfl | rfl | rfl <;> rfl
  · intro v' w' h1 h2 _
    refine h v' w' ?_ h2
    rw [List.length_append, cellsO_app]
    exact h1
end Go.Proofs.Ytmpjoepfgfbjmaa
/- What table.check, Same, Diff and All answer. -/
namespace Go.Proofs.Ytmpjoepfgfbjmaa
open Go.RowKit
set_option linter.unusedSimpArgs false
set_option linter.unusedVariables false

theorem tw_ne {A B : List Ru} (h : tbN A ≠ 0) : twN A B = tbN A := by simp [twN, h]
theorem tw_ok {A B : List Ru} (h : tbN A = 0) : twN A B = tbN B := by simp [twN, h]
theorem tw_two {A B : List Ru} (h : twN A B = 0) : tbN A = 0 ∧ tbN B = 0 := by
  by_cases h1 : tbN A = 0
  · rw [tw_ok h1] at h; exact ⟨h1, h⟩
  · rw [tw_ne h1] at h; exact absurd h h1
theorem df_ne {A B : List Ru} (h : twN A B ≠ 0) : dfL A B = [] := by simp [dfL, h]
theorem df_ok {A B : List Ru} (h : twN A B = 0) : dfL A B = taken (bey A B) ++ added (bey B A) := by simp [dfL, h]
theorem sm_ne {A B : List Ru} (h : twN A B ≠ 0) : smB A B = false := by simp [smB, h]
theorem sm_ok {A B : List Ru} (h : twN A B = 0) : smB A B = (decide (A.length = B.length) && decide ((bey A B).length = 0)) := by simp [smB, h]

end Go.Proofs.Ytmpjoepfgfbjmaa
/- What table.Diff answers. -/
namespace Go.Proofs.Ytmpjoepfgfbjmaa
open Go.RowKit
set_option linter.unusedSimpArgs false
set_option linter.unusedVariables false

theorem bey_le (A B : List Ru) : (bey A B).length ≤ A.length := List.length_filter_le _ _
theorem taken_next {D : List Ru} {k : Nat} (hk : k < D.length) : taken (D.take (k + 1)) = taken (D.take k) ++ [⟨0, false, D[k]⟩] := by
  rw [List.take_succ_eq_append_getElem hk]
  simp only [taken, List.map_append, List.map_cons, List.map_nil]
theorem added_next {D : List Ru} {k : Nat} (hk : k < D.length) (C : List Op8) : C ++ added (D.take (k + 1)) = (C ++ added (D.take k)) ++ [⟨0, true, D[k]⟩] := by
  rw [List.take_succ_eq_append_getElem hk]
  simp only [added, List.map_append, List.map_cons, List.map_nil, List.append_assoc]
theorem taken_len (D : List Ru) : (taken D).length = D.length := by simp [taken]
theorem added_len (D : List Ru) : (added D).length = D.length := by simp [added]

theorem al_step {L : List Ru} {O : List Op8} {k : Nat} (hk : k < O.length) : alN L (O.drop k) = (if doN L (O[k]).a (O[k]).r = 0 then alN (doL L (O[k]).a (O[k]).r) (O.drop (k + 1)) else doN L (O[k]).a (O[k]).r) ∧ alL L (O.drop k) = (if doN L (O[k]).a (O[k]).r = 0 then alL (doL L (O[k]).a (O[k]).r) (O.drop (k + 1)) else []) := by
  rw [List.drop_eq_getElem_cons hk, alN, alL]
  exact ⟨rfl, rfl⟩

end Go.Proofs.Ytmpjoepfgfbjmaa
/- Two rules at two addresses: a class of worlds. -/
namespace Go.Proofs.Ytmpjoepfgfbjmaa
open Go.RowKit

/-- Two rules at two addresses. -/
def CD (w : World) (g o : Nat) (p m b q s v : Int) (g' o' : Nat) (p' m' b' q' s' v' : Int) (w' : World) : Prop :=
  Below w.heap.size w w' ∧ (w'.cell? ⟨g, o, none⟩ = some (.int .i64 p) ∧ w'.cell? ⟨g, o + 1, none⟩ = some (.int .i64 m) ∧ w'.cell? ⟨g, o + 2, none⟩ = some (.int .i64 b) ∧
    w'.cell? ⟨g, o + 3, none⟩ = some (.int .i64 q) ∧ w'.cell? ⟨g, o + 4, none⟩ = some (.int .i64 s) ∧ w'.cell? ⟨g, o + 5, none⟩ = some (.int .i64 v)) ∧
  w'.cell? ⟨g', o', none⟩ = some (.int .i64 p') ∧ w'.cell? ⟨g', o' + 1, none⟩ = some (.int .i64 m') ∧ w'.cell? ⟨g', o' + 2, none⟩ = some (.int .i64 b') ∧
    w'.cell? ⟨g', o' + 3, none⟩ = some (.int .i64 q') ∧ w'.cell? ⟨g', o' + 4, none⟩ = some (.int .i64 s') ∧ w'.cell? ⟨g', o' + 5, none⟩ = some (.int .i64 v')
theorem CD.later {w W W' : World} {g o : Nat} {p m b q s v : Int} {g' o' : Nat} {p' m' b' q' s' v' : Int} (hb : Below W.heap.size W W') (h : CD w g o p m b q s v g' o' p' m' b' q' s' v' W) : CD w g o p m b q s v g' o' p' m' b' q' s' v' W' := by
  obtain ⟨h0, ⟨h1, h2, h3, h4, h5, h6⟩, k1, k2, k3, k4, k5, k6⟩ := h
  exact ⟨h0.trans (hb.mono h0.size), ⟨cell_later hb h1, cell_later hb h2, cell_later hb h3, cell_later hb h4, cell_later hb h5, cell_later hb h6⟩, cell_later hb k1, cell_later hb k2, cell_later hb k3, cell_later hb k4, cell_later hb k5, cell_later hb k6⟩

end Go.Proofs.Ytmpjoepfgfbjmaa
/- What railsame.Table answers at two tables that are the same. -/
namespace Go.Proofs.Ytmpjoepfgfbjmaa
open Go.RowKit
set_option linter.unusedSimpArgs false
set_option linter.unusedVariables false

end Go.Proofs.Ytmpjoepfgfbjmaa
