/- A row of numbers of a call's own that begins anywhere in its block: what is taken off its front, what is put behind its end. No program in it. -/
import Derived.WalkKit
import Derived.WalkSpells
import Derived.Below
import Derived.Laws.AppendOwn
namespace Go.Proofs.YtfbocionnjlilacDoor
open Go.RowKit
set_option linter.unusedVariables false

/-- A slice of these numbers, in a block behind 'base' that holds nothing else that matters. -/
def QAt (w : World) (base : Nat) (e : TypeId) (v : Value) (g : Nat) (L : List Int) : Prop :=
  ∃ o cap cur, v = .slice (some ⟨g, o, none⟩) L.length cap ∧ base ≤ g ∧ w.heap[g]? = some (.cells cur e (0, 0)) ∧ L.length ≤ cap ∧ cap ≤ maxLen ∧ o + cap ≤ cur.size ∧ (cur.toList.drop o).take L.length = L.map (Value.int .i64)
theorem QAt.lt {w : World} {base : Nat} {e : TypeId} {v : Value} {g : Nat} {L : List Int} (h : QAt w base e v g L) : base ≤ g ∧ g < w.heap.size := by
  obtain ⟨o, cap, cur, _, h1, h2, _⟩ := h
  exact ⟨h1, (Array.getElem?_eq_some_iff.1 h2).1⟩
theorem QAt.kept {w w' : World} {base : Nat} {e : TypeId} {v : Value} {g : Nat} {L : List Int} (h : QAt w base e v g L) (hb : w'.heap[g]? = w.heap[g]?) : QAt w' base e v g L := by
  obtain ⟨o, cap, cur, h0, h1, h2, h3⟩ := h
  exact ⟨o, cap, cur, h0, h1, hb.trans h2, h3⟩
theorem QAt.later {w w' : World} {base : Nat} {e : TypeId} {v : Value} {g : Nat} {L : List Int} (h : QAt w base e v g L) (hb : Below w.heap.size w w') : QAt w' base e v g L := h.kept (hb.block g h.lt.2)
theorem q_one (w : World) (base : Nat) (e : TypeId) (x : Int) (hb : base ≤ w.heap.size) : QAt (w.alloc (.cells #[.int .i64 x] e)) base e (.slice (some ⟨w.heap.size, 0, none⟩) 1 1) w.heap.size [x] :=
  ⟨0, 1, #[.int .i64 x], rfl, hb, heap_alloc_new w _, Nat.le_refl _, by unfold maxLen; omega, by simp, by simp⟩
theorem q_cell {w : World} {base : Nat} {e : TypeId} {o n cap g : Nat} {L : List Int} (h : QAt w base e (.slice (some ⟨g, o, none⟩) n cap) g L) (i : Nat) (hi : i < L.length) : w.cell? ⟨g, o + i, none⟩ = some (.int .i64 L[i]) := by
  obtain ⟨o2, cap2, cur, h0, h1, h2, h3, h4, h5, h6⟩ := h
  simp only [Value.slice.injEq, Option.some.injEq, Addr.mk.injEq, true_and, and_true] at h0
  obtain ⟨rfl, rfl, rfl⟩ := h0
  rw [cell_of_row w g (o + i) cur e (0, 0) h2]
  have := congrArg (fun l => l[i]?) h6
  simp only [List.getElem?_take, hi, if_true, List.getElem?_drop, List.getElem?_map, List.getElem?_eq_getElem hi, Option.map_some] at this
  simpa using this
/-- Without the first one. -/
theorem q_pop {w : World} {base : Nat} {e : TypeId} {o n cap g : Nat} {x : Int} {L : List Int} (h : QAt w base e (.slice (some ⟨g, o, none⟩) n cap) g (x :: L)) : QAt w base e (.slice (some ⟨g, o + 1, none⟩) L.length (cap - 1)) g L := by
  obtain ⟨o2, cap2, cur, h0, h1, h2, h3, h4, h5, h6⟩ := h
  simp only [Value.slice.injEq, Option.some.injEq, Addr.mk.injEq, true_and, and_true] at h0
  obtain ⟨rfl, rfl, rfl⟩ := h0
  simp only [List.length_cons] at h3 h6
  refine ⟨o + 1, cap - 1, cur, rfl, h1, h2, by omega, by omega, by omega, ?_⟩
  have h7 := congrArg (List.drop 1) h6
  rw [List.drop_take, List.drop_drop] at h7
  simpa using h7
theorem q_pop0 {w : World} {base : Nat} {e : TypeId} {o n cap g : Nat} {x : Int} {L : List Int} (h : QAt w base e (.slice (some ⟨g, o, none⟩) n cap) g (x :: L)) (hc : cap = 1) : L = [] ∧ QAt w base e (.slice (some ⟨g, o, none⟩) 0 0) g [] := by
  obtain ⟨o2, cap2, cur, h0, h1, h2, h3, h4, h5, h6⟩ := h
  simp only [Value.slice.injEq, Option.some.injEq, Addr.mk.injEq, true_and, and_true] at h0
  obtain ⟨rfl, rfl, rfl⟩ := h0
  simp only [List.length_cons] at h3
  have hl : L = [] := List.length_eq_zero_iff.1 (by omega)
  exact ⟨hl, o, 0, cur, rfl, h1, h2, Nat.le_refl _, Nat.zero_le _, by omega, by simp⟩
theorem q_form {w : World} {base : Nat} {e : TypeId} {v : Value} {g : Nat} {L : List Int} (h : QAt w base e v g L) : ∃ o cap, v = .slice (some ⟨g, o, none⟩) L.length cap ∧ L.length ≤ cap ∧ cap ≤ maxLen := by
  obtain ⟨o, cap, cur, h0, h1, h2, h3, h4, h5, h6⟩ := h
  exact ⟨o, cap, h0, h3, h4⟩

section
variable {P : Program}
theorem run_append_q {w : World} (base : Nat) (t ty e : TypeId) (i : TypeInfo) (z : Value) (ht : P.underlying t = some (.slice e)) (hi : P.info? e = some i) (hz : i.zero = some z)
    (hsize : i.size = 1) (hby : i.bytes = 8) (hzs : z.cells.size = 1) (v : Value) (g : Nat) (L : List Int) (hown : QAt w base e v g L)
    (a : Addr) (c : Nat) (x : Int) (hx : w.cell? a = some (.int .i64 x)) (h1000 : L.length ≤ 1000) (hbase : base ≤ w.heap.size) :
    ∃ v' w' g', (Builtin.append_ #[t, t] ty #[v, .slice (some a) 1 c]).run P w = .ok v' w' ∧ QAt w' base e v' g' (L ++ [x]) ∧ w.grownBy w' (some g) ∧ (g' = g ∨ g' = w.heap.size) := by
  obtain ⟨o, cap, cur, rfl, h1, h2, h3, h4, h5, h6⟩ := hown
  have hadd0 : ∀ (b : Addr), b.spot = none → b.add 0 = b := by
    intro b hb
    obtain ⟨b1, b2, b3⟩ := b
    simp at hb
    subst hb
    simp [Addr.add]
  have hsp : a.spot = none := by
    obtain ⟨b1, b2, b3⟩ := a
    simpa using World.cell?_spot hx
  have hnews : ∀ j u, [Value.int .i64 x][j]? = some u → w.cell? (a.add j) = some u := by
    intro j u hu
    cases j with
    | zero =>
      simp at hu
      rw [hadd0 a hsp, hx, hu]
    | succ j => simp at hu
  have h1c : ∀ u ∈ [Value.int .i64 x], u.oneCell' = true := by
    intro u hu
    simp at hu
    subst hu
    rfl
  by_cases hroom : L.length + 1 ≤ cap
  · have hf := run_firstCells_some (P := P) w i.size 1 a 1 c [Value.int .i64 x] (by simp [hsize]) hnews
    have hst := run_storeCells_at P g (o + L.length) e [Value.int .i64 x] 0 cur w h2 (by simp; omega) h1c
    simp only [Nat.add_zero] at hst
    have hadd : (⟨g, o, none⟩ : Addr).add (L.length * i.size) = ⟨g, o + L.length, none⟩ := by
      rw [hsize, Nat.mul_one]
      simp only [Addr.add]
      first
        | rfl
        | (split
           · next h0 => rw [h0]; rfl
           · rfl)
    refine ⟨.slice (some ⟨g, o, none⟩) (L.length + 1) cap, _, g, ?_, ⟨o, cap, _, ?_, h1, setRow_heap w g cur (cur.toList.take (o + L.length) ++ [Value.int .i64 x] ++ cur.toList.drop (o + L.length + [Value.int .i64 x].length)).toArray e (0, 0) h2, ?_, h4, ?_, ?_⟩, ⟨rfl, rfl, rfl, by simp, fun k _ hk => setRow_other w g k _ (fun e => hk (by rw [e]))⟩, .inl rfl⟩
    · simp [Builtin.append_, run_underlying ht, sizeOf, typeInfo, hi, Builtin.lenOf, hroom, hf, hadd, hst]
    · simp
    · simp; omega
    · simp; omega
    · have hlt : o + L.length ≤ cur.toList.length := by simp; omega
      rw [List.append_assoc, List.drop_append_of_le_length (by simp; omega)]
      have e1 : (cur.toList.take (o + L.length)).drop o = L.map (Value.int .i64) := by
        rw [List.drop_take, ← h6]
        congr 1
        omega
      rw [e1]
      have e2 : (L ++ [x]).length = (L.map (Value.int .i64) ++ [Value.int .i64 x]).length := by simp
      rw [e2, ← List.append_assoc, List.take_left]
      simp
  · have hr := run_append_grow (P := P) w t ty e i z ht hi hz ⟨g, o, none⟩ L.length cap (L.map (Value.int .i64)) (by simp [hsize]) (by
      intro j u hu
      have hj : j < L.length := by
        have := (List.getElem?_eq_some_iff.1 hu).1
        simpa using this
      have hadd : (⟨g, o, none⟩ : Addr).add j = ⟨g, o + j, none⟩ := by
        simp only [Addr.add]
        first
          | rfl
          | (split
             · next h0 => rw [h0]; rfl
             · rfl)
      rw [hadd, cell_of_row w g (o + j) cur e (0, 0) h2]
      have h7 := congrArg (fun l => l[j]?) h6
      simp only [List.getElem?_take, hj, if_true, List.getElem?_drop] at h7
      rw [hu] at h7
      simpa using h7) a 1 c [Value.int .i64 x] (by simp [hsize]) hnews (by omega) (by omega) (growslice_fits (by omega) (by rw [hby]; omega))
    have hge := grownCap_ge w (L.length + 1) cap e
    refine ⟨_, _, w.heap.size, hr, ⟨0, grownCap w (L.length + 1) cap e, _, ?_, hbase, heap_alloc_new w.drew _, ?_, grownCap_le_maxLen w (L.length + 1) cap e (by unfold maxLen; omega), ?_, ?_⟩, ⟨rfl, rfl, rfl, by simp, fun k hk _ => Below.heap_alloc w.drew _ k hk⟩, .inr rfl⟩
    · simp
    · simpa using hge
    · simp [size_zeroCells, hzs]
      omega
    · have e2 : (L ++ [x]).length = (L.map (Value.int .i64) ++ [Value.int .i64 x]).length := by simp
      simp only [Array.toList_append, List.drop_zero]
      rw [e2, List.take_left]
      simp
variable {w : World} {ops : Array Oper} {rest : List Oper} {o : Oper} {a : Act} {Q : Exit → Act → World → Prop}
/-- One number put behind the end. -/
theorem wpList_append_q (hgd : o.guard = none) (s x : Operand) (t e : TypeId)
    (ho : o.op = .call { callee := .builtin .append, args := #[s, x], argTypes := #[t, t] }) (ht : P.underlying t = some (.slice e)) (i : TypeInfo) (z : Value) (hi : P.info? e = some i) (hz : i.zero = some z)
    (hsize : i.size = 1) (hby : i.bytes = 8) (hzs : z.cells.size = 1) (base : Nat) (v : Value) (hs : a.eval s = v) (g : Nat) (L : List Int) (hown : QAt w base e v g L)
    (ad : Addr) (c : Nat) (hx : a.eval x = .slice (some ad) 1 c) (y : Int) (hy : w.cell? ad = some (.int .i64 y)) (h1000 : L.length ≤ 1000) (hbase : base ≤ w.heap.size)
    (h : ∀ v' w' g', QAt w' base e v' g' (L ++ [y]) → w.grownBy w' (some g) → (g' = g ∨ g' = w.heap.size) → wpList P ops Q rest (a.put o.dst v') w') : wpList P ops Q (o :: rest) a w := by
  refine wpList_plain hgd fun K' hK' => ?_
  obtain ⟨v', w', g', hrun, h1, h2, h3⟩ := run_append_q (P := P) base t o.type e i z ht hi hz hsize hby hzs v g L hown ad c y hy h1000 hbase
  unfold Oper.wp
  simp [execOp, ho, resolve, invoke, builtin, hs, hx, hrun, Result.andThen]
  exact hK' _ _ (h v' w' g' h1 h2 h3)
end
end Go.Proofs.YtfbocionnjlilacDoor
