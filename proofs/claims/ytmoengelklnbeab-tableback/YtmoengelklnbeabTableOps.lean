/- Slices of ops: where they lie, rows of them that a call owns. -/
import Derived.Test.YtmoengelklnbeabTableBey
namespace Go.Proofs.Ytmoengelklnbeab
open Go.RowKit
set_option linter.unusedSimpArgs false
set_option linter.unusedVariables false

/-- An op lies at an address. -/
structure C8 (w : World) (g o : Nat) (x : Op8) : Prop where
  c0 : w.cell? ⟨g, o, none⟩ = some (.int .i64 x.w)
  c1 : w.cell? ⟨g, o + 1, none⟩ = some (.bool x.a)
  c2 : w.cell? ⟨g, o + 2, none⟩ = some (.int .i64 x.r.p)
  c3 : w.cell? ⟨g, o + 3, none⟩ = some (.int .i64 x.r.m)
  c4 : w.cell? ⟨g, o + 4, none⟩ = some (.int .i64 x.r.b)
  c5 : w.cell? ⟨g, o + 5, none⟩ = some (.int .i64 x.r.o)
  c6 : w.cell? ⟨g, o + 6, none⟩ = some (.int .i64 x.r.s)
  c7 : w.cell? ⟨g, o + 7, none⟩ = some (.int .i64 x.r.v)
theorem C8.later {w w' : World} {g o : Nat} {x : Op8} (h : C8 w g o x) (hb : Below w.heap.size w w') : C8 w' g o x :=
  ⟨cell_later hb h.c0, cell_later hb h.c1, cell_later hb h.c2, cell_later hb h.c3, cell_later hb h.c4, cell_later hb h.c5, cell_later hb h.c6, cell_later hb h.c7⟩
theorem C8.new (w : World) (y : Int) (a : Bool) (p m b o s v : Int) (t : TypeId) : C8 (w.alloc (Obj.cells #[Value.int IntKind.i64 y, Value.bool a, Value.int IntKind.i64 p, Value.int IntKind.i64 m, Value.int IntKind.i64 b, Value.int IntKind.i64 o, Value.int IntKind.i64 s, Value.int IntKind.i64 v] t)) w.heap.size 0 ⟨y, a, ⟨p, m, b, o, s, v⟩⟩ := by
  refine ⟨?_, ?_, ?_, ?_, ?_, ?_, ?_, ?_⟩ <;> simp
/-- These ops lie from an address on. -/
def OAt (w : World) (g o : Nat) (L : List Op8) : Prop := ∀ i (h : i < L.length), C8 w g (o + i * 8) L[i]
theorem OAt.later {w w' : World} {g o : Nat} {L : List Op8} (h : OAt w g o L) (hb : Below w.heap.size w w') : OAt w' g o L := fun i hi => (h i hi).later hb
/-- A value is a slice of these ops. -/
def SO (w : World) (v : Value) (L : List Op8) : Prop :=
  (∃ ao cap, v = .slice ao 0 cap ∧ L = []) ∨ ∃ g o cap, v = .slice (some ⟨g, o, none⟩) L.length cap ∧ L.length ≤ cap ∧ cap ≤ maxLen ∧ OAt w g o L
theorem SO.later {w w' : World} {v : Value} {L : List Op8} (h : SO w v L) (hb : Below w.heap.size w w') : SO w' v L := by
  rcases h with h | ⟨g, o, cap, h1, h2, h3, h4⟩
  · exact .inl h
  · exact .inr ⟨g, o, cap, h1, h2, h3, h4.later hb⟩
theorem SO.form {w : World} {v : Value} {L : List Op8} (h : SO w v L) : ∃ ao n cap, v = .slice ao n cap ∧ L.length = n ∧ n ≤ maxLen ∧ n ≤ cap ∧ (0 < n → ∃ g o, ao = some ⟨g, o, none⟩ ∧ OAt w g o L ∧ cap ≤ maxLen) := by
  rcases h with ⟨ao, cap, rfl, rfl⟩ | ⟨g, o, cap, rfl, h1, h2, h3⟩
  · exact ⟨ao, 0, cap, rfl, rfl, Nat.zero_le _, Nat.zero_le _, fun h => absurd h (by omega)⟩
  · exact ⟨_, _, cap, rfl, rfl, Nat.le_trans h1 h2, h1, fun _ => ⟨g, o, rfl, h3, h2⟩⟩
theorem SO.nil (w : World) : SO w (.slice none 0 0) [] := .inl ⟨none, 0, rfl, rfl⟩
/-- The op at a place, in letters. -/
theorem OAt.at {w : World} {g o : Nat} {L : List Op8} (h : OAt w g o L) {n k : Nat} (hn : L.length = n) (hk : k < n) :
    ∃ (y : Int) (a : Bool) (p m b q s v : Int) (hl : k < L.length), L[k] = ⟨y, a, ⟨p, m, b, q, s, v⟩⟩ ∧ (w.cell? ⟨g, o + k * 8, none⟩ = some (.int .i64 y) ∧ w.cell? ⟨g, o + k * 8 + 1, none⟩ = some (.bool a) ∧ w.cell? ⟨g, o + k * 8 + 2, none⟩ = some (.int .i64 p) ∧ w.cell? ⟨g, o + k * 8 + 3, none⟩ = some (.int .i64 m) ∧ w.cell? ⟨g, o + k * 8 + 4, none⟩ = some (.int .i64 b) ∧
      w.cell? ⟨g, o + k * 8 + 5, none⟩ = some (.int .i64 q) ∧ w.cell? ⟨g, o + k * 8 + 6, none⟩ = some (.int .i64 s) ∧ w.cell? ⟨g, o + k * 8 + 7, none⟩ = some (.int .i64 v)) :=
  have hl : k < L.length := by omega
  have c := h k hl
  ⟨_, _, _, _, _, _, _, _, hl, rfl, c.c0, c.c1, c.c2, c.c3, c.c4, c.c5, c.c6, c.c7⟩
/-- The cells of ops. -/
def cellsO (L : List Op8) : List Value := L.flatMap fun x => [.int .i64 x.w, .bool x.a, .int .i64 x.r.p, .int .i64 x.r.m, .int .i64 x.r.b, .int .i64 x.r.o, .int .i64 x.r.s, .int .i64 x.r.v]
theorem cellsO_app (L M : List Op8) : cellsO (L ++ M) = cellsO L ++ cellsO M := by simp [cellsO]
theorem cellsO_at (L : List Op8) (i : Nat) (h : i < L.length) : (cellsO L)[i * 8]? = some (.int .i64 (L[i]).w) ∧ (cellsO L)[i * 8 + 1]? = some (.bool (L[i]).a) ∧ (cellsO L)[i * 8 + 2]? = some (.int .i64 (L[i]).r.p) ∧ (cellsO L)[i * 8 + 3]? = some (.int .i64 (L[i]).r.m) ∧
    (cellsO L)[i * 8 + 4]? = some (.int .i64 (L[i]).r.b) ∧ (cellsO L)[i * 8 + 5]? = some (.int .i64 (L[i]).r.o) ∧ (cellsO L)[i * 8 + 6]? = some (.int .i64 (L[i]).r.s) ∧ (cellsO L)[i * 8 + 7]? = some (.int .i64 (L[i]).r.v) := by
  induction L generalizing i with
  | nil => simp at h
  | cons p r ih =>
    cases i with
    | zero => simp [cellsO]
    | succ i =>
      have := ih i (by simpa using h)
      have e1 : (i + 1) * 8 = i * 8 + 1 + 1 + 1 + 1 + 1 + 1 + 1 + 1 := by omega
      simpa [cellsO, e1] using this
/-- What a call owns may be read. -/
theorem own_SO {w : World} {B e : Nat} {v : Value} {L : List Op8} (h : w.ownsRow B e 8 v L.length (cellsO L)) : SO w v L := by
  rcases h.2 with ⟨rfl, h0⟩ | ⟨g, cap, cur, rfl, _, _, h1, h2, _⟩
  · exact .inl ⟨none, 0, rfl, List.length_eq_zero_iff.1 h0⟩
  · refine .inr ⟨g, 0, cap, rfl, h1, h2, fun i hi => ?_⟩
    obtain ⟨a0, a1, a2, a3, a4, a5, a6, a7⟩ := cellsO_at L i hi
    rw [Nat.zero_add]
    refine ⟨?_, ?_, ?_, ?_, ?_, ?_, ?_, ?_⟩
    · rw [h.cellAt _ (by omega)]; exact a0
    · rw [h.cellAt _ (by omega)]; exact a1
    · rw [h.cellAt _ (by omega)]; exact a2
    · rw [h.cellAt _ (by omega)]; exact a3
    · rw [h.cellAt _ (by omega)]; exact a4
    · rw [h.cellAt _ (by omega)]; exact a5
    · rw [h.cellAt _ (by omega)]; exact a6
    · rw [h.cellAt _ (by omega)]; exact a7
theorem infoOp : (Try.prog.info? 52).map (fun i => (i.zero, i.size, i.bytes)) = some (some (.agg #[.int .i64 0, .bool false, .int .i64 0, .int .i64 0, .int .i64 0, .int .i64 0, .int .i64 0, .int .i64 0]), 8, 64) := by kernel_rfl
theorem eightCells : (Value.agg #[.int .i64 0, .bool false, .int .i64 0, .int .i64 0, .int .i64 0, .int .i64 0, .int .i64 0, .int .i64 0]).cells.size = 8 := by simp [Value.cells]

/-- Appending one op, in a new row, to a row of ops that a call owns. -/
theorem wpList_append_op (w : World) {ops : Array Oper} {rest : List Oper} {o : Oper} {a : Act} {Q : Exit → Act → World → Prop} (hgd : o.guard = none) (s x : Operand) (t : TypeId)
    (ho : o.op = .call { callee := .builtin .append, args := #[s, x], argTypes := #[t, t] }) (ht : Try.prog.underlying t = some (.slice 52)) (base : Nat)
    (v : Value) (hs : a.eval s = v) (L : List Op8) (hown : w.ownsRow base 52 8 v L.length (cellsO L)) (B : Nat) (hx : a.eval x = .slice (some ⟨B, 0, none⟩) 1 1) (y : Op8) (hM : C8 w B 0 y)
    (h100 : L.length ≤ 1000) (hbase : base ≤ w.heap.size)
    (h : ∀ v' w', w'.ownsRow base 52 8 v' (L ++ [y]).length (cellsO (L ++ [y])) → w.grownBy w' v.ownBlock → wpList Try.prog ops Q rest (a.put o.dst v') w') : wpList Try.prog ops Q (o :: rest) a w := by
  obtain ⟨i0, hi, hz0, hz1, hz2⟩ := info_parts infoOp
  refine wpList_append_own w hgd s x t ho base 52 i0 (.agg #[.int .i64 0, .bool false, .int .i64 0, .int .i64 0, .int .i64 0, .int .i64 0, .int .i64 0, .int .i64 0]) 8 64 ht hi hz0 hz1 hz2 eightCells (by decide) v _ _ hs hown ⟨B, 0, none⟩ 1 1 (cellsO [y]) hx rfl ?_ ?_ (by unfold maxLen; omega) (by omega) hbase ?_
  · intro j u hj
    rw [addr_add, Nat.zero_add]
    obtain ⟨c0, c1, c2, c3, c4, c5, c6, c7⟩ := hM
    match j, hj with
    | 0, hj => simp [cellsO] at hj; subst hj; exact c0
    | 1, hj => simp [cellsO] at hj; subst hj; exact c1
    | 2, hj => simp [cellsO] at hj; subst hj; exact c2
    | 3, hj => simp [cellsO] at hj; subst hj; exact c3
    | 4, hj => simp [cellsO] at hj; subst hj; exact c4
    | 5, hj => simp [cellsO] at hj; subst hj; exact c5
    | 6, hj => simp [cellsO] at hj; subst hj; exact c6
    | 7, hj => simp [cellsO] at hj; subst hj; exact c7
  · intro u hu
    simp [cellsO] at hu
    rcases hu with rfl | rfl | rfl | rfl | rfl | rfl | rfl | rfl <;> rfl
  · intro v' w' h1 h2 _
    refine h v' w' ?_ h2
    rw [List.length_append, cellsO_app]
    exact h1
end Go.Proofs.Ytmoengelklnbeab
