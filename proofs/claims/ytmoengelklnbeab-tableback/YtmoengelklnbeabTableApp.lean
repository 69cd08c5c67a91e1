/- Rows of rules that a call owns: appended to, cut, stored into, cleared. -/
import Derived.Test.YtmoengelklnbeabRuleOwn
import Derived.Laws.AppendOwnNone
import Derived.Lib.SliceRun
import Derived.Lib.AppendZeros
namespace Go.Proofs.Ytmoengelklnbeab
open Go.RowKit
set_option linter.unusedSimpArgs false

theorem addr_add (g o j : Nat) : (⟨g, o, none⟩ : Addr).add j = ⟨g, o + j, none⟩ := by
  simp only [Addr.add]
  first
    | rfl
    | (split
       · next h0 => rw [h0]; rfl
       · rfl)
/-- The cells of rules that lie from an address on. -/
theorem RAt.cells {w : World} {g o : Nat} {M : List Ru} (h : RAt w g o M) : ∀ j u, (cellsR M)[j]? = some u → w.cell? ((⟨g, o, none⟩ : Addr).add j) = some u := by
  intro j u hu
  have hj : j < M.length * 6 := by
    have := (List.getElem?_eq_some_iff.1 hu).1
    rw [cellsR_len] at this
    exact this
  rw [addr_add]
  have hi : j / 6 < M.length := by omega
  obtain ⟨c0, c1, c2, c3, c4, c5⟩ := h (j / 6) hi
  obtain ⟨a0, a1, a2, a3, a4, a5⟩ := cellsR_at M (j / 6) hi
  have h6 : j = j / 6 * 6 ∨ j = j / 6 * 6 + 1 ∨ j = j / 6 * 6 + 2 ∨ j = j / 6 * 6 + 3 ∨ j = j / 6 * 6 + 4 ∨ j = j / 6 * 6 + 5 := by omega
  generalize j / 6 = i at *
  rcases h6 with e | e | e | e | e | e
  · subst e; rw [a0] at hu; cases hu; exact c0
  · subst e; rw [a1] at hu; cases hu; rw [← Nat.add_assoc]; exact c1
  · subst e; rw [a2] at hu; cases hu; rw [← Nat.add_assoc]; exact c2
  · subst e; rw [a3] at hu; cases hu; rw [← Nat.add_assoc]; exact c3
  · subst e; rw [a4] at hu; cases hu; rw [← Nat.add_assoc]; exact c4
  · subst e; rw [a5] at hu; cases hu; rw [← Nat.add_assoc]; exact c5

theorem run_append_own_none {w : World} (base : Nat) (t ty e : TypeId) (i : TypeInfo) (size cap2 : Nat) (ht : Try.prog.underlying t = some (.slice e)) (hi : Try.prog.info? e = some i)
    (v : Value) (n : Nat) (xs : List Value) (hown : w.ownsRow base e size v n xs) :
    (Builtin.append_ #[t, t] ty #[v, .slice none 0 cap2]).run Try.prog w = .ok v w := by
  rcases hown.2 with ⟨rfl, rfl⟩ | ⟨g, cap, cur, rfl, _, _, hnc, _⟩
  · simp [Builtin.append_, run_underlying ht, sizeOf, typeInfo, hi, Builtin.lenOf, Builtin.firstCells]
  · simp [Builtin.append_, run_underlying ht, sizeOf, typeInfo, hi, Builtin.lenOf, Builtin.firstCells, hnc, storeCells]

/-- Appending a slice of rules, whoever made it, to a row of rules that a call owns. -/
theorem wpList_append_SR (w : World) {ops : Array Oper} {rest : List Oper} {o : Oper} {a : Act} {Q : Exit → Act → World → Prop} (hgd : o.guard = none) (s x : Operand) (t : TypeId)
    (ho : o.op = .call { callee := .builtin .append, args := #[s, x], argTypes := #[t, t] }) (ht : Try.prog.underlying t = some (.slice 25)) (base : Nat)
    (v : Value) (hs : a.eval s = v) (L : List Ru) (hown : w.ownsRow base 25 6 v L.length (cellsR L)) (u : Value) (hx : a.eval x = u) (M : List Ru) (hM : SR w u M)
    (h100 : L.length + M.length ≤ 1000) (hbase : base ≤ w.heap.size)
    (h : ∀ v' w', w'.ownsRow base 25 6 v' (L ++ M).length (cellsR (L ++ M)) → w.grownBy w' v.ownBlock → wpList Try.prog ops Q rest (a.put o.dst v') w') : wpList Try.prog ops Q (o :: rest) a w := by
  obtain ⟨i0, hi, hz0, hz1, hz2⟩ := info_parts infoRule
  have key : ∀ (ad : Addr) (m c : Nat) (news : List Value), a.eval x = .slice (some ad) m c → news.length = m * 6 → (∀ j u, news[j]? = some u → w.cell? (ad.add j) = some u) → (∀ u ∈ news, u.oneCell' = true) → m = M.length → news = cellsR M → wpList Try.prog ops Q (o :: rest) a w := by
    intro ad m c news e1 e2 e3 e4 e5 e6
    refine wpList_append_own w hgd s x t ho base 25 i0 (.agg #[.int .i64 0, .int .i64 0, .int .i64 0, .int .i64 0, .int .i64 0, .int .i64 0]) 6 48 ht hi hz0 hz1 hz2 sixCells (by decide) v _ _ hs hown ad m c news e1 e2 e3 e4 (by unfold maxLen; omega) (by omega) hbase ?_
    intro v' w' h1 h2 _
    refine h v' w' ?_ h2
    rw [List.length_append, cellsR_app, ← e5, ← e6]
    exact h1
  rcases hM with ⟨ao, cap, rfl, rfl⟩ | ⟨g, q, cap, rfl, h1, h2, h3⟩
  · cases ao with
    | none =>
      refine wpList_plain hgd fun K hK => ?_
      have hrun := run_append_own_none (w := w) base t o.type 25 i0 6 cap ht hi v _ _ hown
      unfold Oper.wp
      simp [execOp, ho, resolve, invoke, builtin, hs, hx, hrun, Result.andThen]
      exact hK _ _ (h v w (by rw [List.append_nil]; exact hown) ⟨rfl, rfl, rfl, Nat.le_refl _, fun _ _ _ => rfl⟩)
    | some ad => exact key ad 0 cap [] hx rfl (by intro j u hu; simp at hu) (by intro u hu; cases hu) rfl rfl
  · exact key ⟨g, q, none⟩ M.length cap (cellsR M) hx (cellsR_len M) h3.cells (cellsR_one M) rfl rfl

/-- A row's first rules are a row. -/
theorem own_cut {w : World} {base e g n cap i : Nat} {xs : List Value} (h : w.ownsRow base e 6 (.slice (some ⟨g, 0, none⟩) n cap) n xs) (hi : i ≤ n) : w.ownsRow base e 6 (.slice (some ⟨g, 0, none⟩) i cap) i (xs.take (i * 6)) := by
  rcases h.2 with ⟨h', _⟩ | ⟨g', cap', cur, h', hb, hg, hnc, hcm, hcs, htake⟩
  · simp at h'
  · simp only [Value.slice.injEq, Option.some.injEq, Addr.mk.injEq, and_true, true_and] at h'
    obtain ⟨rfl, rfl⟩ := h'
    refine ⟨by rw [List.length_take, h.1]; omega, .inr ⟨g, cap, cur, rfl, hb, hg, by omega, hcm, hcs, ?_⟩⟩
    rw [← htake, List.take_take, Nat.min_eq_left (by omega)]
/-- What is stored behind a row does not matter to it. -/
theorem own_behind {base e g cap i : Nat} : ∀ (vs : List Value) (o : Nat) (w : World) (xs : List Value), w.ownsRow base e 6 (.slice (some ⟨g, 0, none⟩) i cap) i xs → i * 6 ≤ o →
    (w.setCells g o vs).ownsRow base e 6 (.slice (some ⟨g, 0, none⟩) i cap) i xs ∧ w.grownBy (w.setCells g o vs) (some g)
  | [], o, w, xs, h, _ => ⟨h, rfl, rfl, rfl, Nat.le_refl _, fun _ _ _ => rfl⟩
  | v :: vs, o, w, xs, h, ho => by
    have h1 := h.stored o v
    have e1 : xs.set o v = xs := List.set_eq_of_length_le (by rw [h.1]; exact ho)
    rw [e1] at h1
    have h2 := own_behind vs (o + 1) _ xs h1.1 (by omega)
    refine ⟨h2.1, ?_⟩
    exact ⟨h2.2.os.trans h1.2.os, h2.2.tape.trans h1.2.tape, h2.2.output.trans h1.2.output, Nat.le_trans h1.2.size h2.2.size, fun k hk hne => (h2.2.block k (Nat.lt_of_lt_of_le hk h1.2.size) hne).trans (h1.2.block k hk hne)⟩
end Go.Proofs.Ytmoengelklnbeab
