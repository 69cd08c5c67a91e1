/- Contracts and facts on the way to MixFew, joined into one text: RuleOwn, TableApp, TableConcat, TableIdx, TableDo, TableDo2, TableBey. -/
import Derived.Test.YtmpjoepfgfbjmaaMixFewP5
import Derived.Test.YtmpjoepfgfbjmaaMixFewP6
import Derived.Test.YtmpjoepfgfbjmaaMixFewP2
import Derived.Deep.Slices
import Derived.Laws.AppendOwnNone
import Derived.Lib.SliceRun
import Derived.Lib.AppendZeros
import Derived.Deep.CutRange
import Derived.Deep.CutBlock
import Derived.Deep.RegionHeld3
/- Rows of rules that a call owns; a table that came in. -/
namespace Go.Proofs.Ytmpjoepfgfbjmaa
open Go.ChangeShapes Go.WideShapes Go.ChangeAt Go.RowKit

/-- The cells of rules. -/
def cellsR (L : List Ru) : List Value := L.flatMap fun r => [.int .i64 r.p, .int .i64 r.m, .int .i64 r.b, .int .i64 r.o, .int .i64 r.s, .int .i64 r.v]
theorem cellsR_len (L : List Ru) : (cellsR L).length = L.length * 6 := by
  induction L with
  | nil => rfl
  | cons p r ih => simp only [cellsR, List.flatMap_cons, List.length_append, List.length_cons, List.length_nil] at *; omega
theorem cellsR_app (L M : List Ru) : cellsR (L ++ M) = cellsR L ++ cellsR M := by simp [cellsR]
theorem cellsR_at (L : List Ru) (i : Nat) (h : i < L.length) : (cellsR L)[i * 6]? = some (.int .i64 (L[i]).p) ∧ (cellsR L)[i * 6 + 1]? = some (.int .i64 (L[i]).m) ∧ (cellsR L)[i * 6 + 2]? = some (.int .i64 (L[i]).b) ∧
    (cellsR L)[i * 6 + 3]? = some (.int .i64 (L[i]).o) ∧ (cellsR L)[i * 6 + 4]? = some (.int .i64 (L[i]).s) ∧ (cellsR L)[i * 6 + 5]? = some (.int .i64 (L[i]).v) := by
  induction L generalizing i with
  | nil => simp at h
  | cons p r ih =>
    cases i with
    | zero => simp [cellsR]
    | succ i =>
      have := ih i (by simpa using h)
      have e1 : (i + 1) * 6 = i * 6 + 1 + 1 + 1 + 1 + 1 + 1 := by omega
      simpa [cellsR, e1] using this
theorem cellsR_one (L : List Ru) : ∀ u ∈ cellsR L, u.oneCell' = true := by
  intro u hu
  simp only [cellsR, List.mem_flatMap] at hu
  obtain ⟨p, _, hp⟩ := hu
  simp at hp
  rcases hp with rfl | rfl | rfl | rfl | rfl | rfl <;> rfl
/-- What a call owns may be read. -/
theorem own_SR {w : World} {B e : Nat} {v : Value} {L : List Ru} (h : w.ownsRow B e 6 v L.length (cellsR L)) : SR w v L := by
  rcases h.2 with ⟨rfl, h0⟩ | ⟨g, cap, cur, rfl, _, _, h1, h2, _⟩
  · exact .inl ⟨none, 0, rfl, List.length_eq_zero_iff.1 h0⟩
  · refine .inr ⟨g, 0, cap, rfl, h1, h2, fun i hi => ?_⟩
    obtain ⟨a0, a1, a2, a3, a4, a5⟩ := cellsR_at L i hi
    refine ⟨?_, ?_, ?_, ?_, ?_, ?_⟩
    · have := h.cellAt (i * 6) (by omega)
      rw [a0] at this
      simpa using this
    · have := h.cellAt (i * 6 + 1) (by omega)
      rw [a1] at this
      simpa using this
    · have := h.cellAt (i * 6 + 2) (by omega)
      rw [a2] at this
      simpa using this
    · have := h.cellAt (i * 6 + 3) (by omega)
      rw [a3] at this
      simpa using this
    · have := h.cellAt (i * 6 + 4) (by omega)
      rw [a4] at this
      simpa using this
    · have := h.cellAt (i * 6 + 5) (by omega)
      rw [a5] at this
      simpa using this
theorem infoRule : (Try.prog.info? 32).map (fun i => (i.zero, i.size, i.bytes)) = some (some (.agg #[.int .i64 0, .int .i64 0, .int .i64 0, .int .i64 0, .int .i64 0, .int .i64 0]), 6, 48) := by kernel_rfl
theorem sixCells : (Value.agg #[.int .i64 0, .int .i64 0, .int .i64 0, .int .i64 0, .int .i64 0, .int .i64 0]).cells.size = 6 := by simp [Value.cells]
theorem own_pushR {W : World} {B e : Nat} {v : Value} {out : List Ru} {p m b o s x : Int} (h : W.ownsRow B e 6 v (out.length + 1) (cellsR out ++ [.int .i64 p, .int .i64 m, .int .i64 b, .int .i64 o, .int .i64 s, .int .i64 x])) :
    W.ownsRow B e 6 v (out ++ [(⟨p, m, b, o, s, x⟩ : Ru)]).length (cellsR (out ++ [(⟨p, m, b, o, s, x⟩ : Ru)])) := by
  have e1 : (out ++ [(⟨p, m, b, o, s, x⟩ : Ru)]).length = out.length + 1 := by simp
  rw [e1, cellsR_app]
  exact h

set_option maxRecDepth 100000 in
/-- A table that came in lies where its slice says. -/
theorem rules_of {H : Type} {enc : TypeId × Value → H} {W : World} {base : Nat} {v : Value} {d : DataW H} {p : List MemPlace}
    (hv : Value.okWide Try.prog W .any base 35 v) (h : DataW.Trod enc Try.prog W 0 (fun _ => true) true 35 v d p) : ∃ L, SR W v L := by
  obtain ⟨a0, len0, cap0, rfl⟩ := okWide_slice Try.underlying35 hv
  obtain ⟨fuel, hf⟩ := h
  have hf2 : DataW.trod enc Try.prog W 0 (fun _ => true) true fuel 35 [.slice a0 len0 cap0] = some (d, p) := hf
  rcases Go.Deep.open_slice Try.underlying35 hf2 with ⟨hc, hx⟩ | ⟨a, len, cap, m, k, D, Pl, hc, _, hl, hm, hmm, hx, hall⟩
  · simp only [List.cons.injEq, and_true, Value.slice.injEq] at hc
    obtain ⟨rfl, rfl, rfl⟩ := hc
    exact ⟨[], .inl ⟨none, 0, rfl, rfl⟩⟩
  · simp only [List.cons.injEq, and_true, Value.slice.injEq] at hc
    obtain ⟨rfl, rfl, rfl⟩ := hc
    simp only [if_true] at hmm
    subst hmm
    have hC : Try.prog.cellsOf 32 = 6 := by kernel_rfl
    rcases Nat.eq_zero_or_pos len0 with h0 | h0
    · subst h0
      exact ⟨[], .inl ⟨_, _, rfl, rfl⟩⟩
    · have each : ∀ i, i < m → ∃ r : Ru, ∀ j, j < 6 → W.cell? (a.add (i * 6 + j)) = (cellsR [r])[j]? := by
        intro i hi
        obtain ⟨cs, h1, h2⟩ := hall i hi
        rw [hC] at h1
        obtain ⟨_, hlen, hcell⟩ := World.cells?_some h1
        obtain ⟨q, n, b, o, s, x, rfl⟩ := rule_cells h2
        refine ⟨⟨q, n, b, o, s, x⟩, fun j hj => ?_⟩
        have := hcell j (by omega)
        rw [Go.Deep.add_add] at this
        rw [this]
        rcases (by omega : j = 0 ∨ j = 1 ∨ j = 2 ∨ j = 3 ∨ j = 4 ∨ j = 5) with rfl | rfl | rfl | rfl | rfl | rfl <;> simp [cellsR]
      have iR : Inhabited Ru := ⟨zeR⟩
      obtain ⟨R, hR⟩ := Go.Deep.choose_lt each
      obtain ⟨sb, so, spot⟩ := a
      have hspot : spot = none := by
        have := hR 0 (by omega) 0 (by omega)
        have h2 : W.cell? ((⟨sb, so, spot⟩ : Addr).add (0 * 6 + 0)) = some (.int .i64 (R 0).p) := by rw [this]; simp [cellsR]
        simpa [Addr.add] using World.cell?_spot h2
      subst hspot
      have hadd : ∀ j, (⟨sb, so, none⟩ : Addr).add j = ⟨sb, so + j, none⟩ := by
        intro j
        simp only [Addr.add]
        first
          | rfl
          | (split
             · next h0 => rw [h0]; rfl
             · rfl)
      refine ⟨(List.range len0).map R, .inr ⟨sb, so, _, by simp, by simpa using hl, hm, fun i hi => ?_⟩⟩
      have hi2 : i < len0 := by simpa using hi
      have hc := hR i (by omega)
      simp only [hadd] at hc
      have e : ((List.range len0).map R)[i] = R i := by simp
      rw [e]
      refine ⟨?_, ?_, ?_, ?_, ?_, ?_⟩
      · have := hc 0 (by omega); simpa [cellsR] using this
      · have := hc 1 (by omega); simpa [cellsR, Nat.add_assoc] using this
      · have := hc 2 (by omega); simpa [cellsR, Nat.add_assoc] using this
      · have := hc 3 (by omega); simpa [cellsR, Nat.add_assoc] using this
      · have := hc 4 (by omega); simpa [cellsR, Nat.add_assoc] using this
      · have := hc 5 (by omega); simpa [cellsR, Nat.add_assoc] using this
end Go.Proofs.Ytmpjoepfgfbjmaa
/- Rows of rules that a call owns: appended to, cut, stored into, cleared. -/
namespace Go.Proofs.Ytmpjoepfgfbjmaa
open Go.RowKit
set_option linter.unusedSimpArgs false

theorem addr_add (g o j : Nat) : (⟨g, o, none⟩ : Addr).add j = ⟨g, o + j, none⟩ := by
  simp only [Addr.add]
  first
    | rfl
    | (split
       · next h0 => rw [h0]; rfl
       · rfl)
/-- The cells of rules that lie from an address on. -/
theorem RAt.cells {w : World} {g o : Nat} {M : List Ru} (h : RAt w g o M) : ∀ j u, (cellsR M)[j]? = some u → w.cell? ((⟨g, o, none⟩ : Addr).add j) = some u := by
  intro j u hu
  have hj : j < M.length * 6 := by
    have := (List.getElem?_eq_some_iff.1 hu).1
    rw [cellsR_len] at this
    exact this
  rw [addr_add]
  have hi : j / 6 < M.length := by omega
  obtain ⟨c0, c1, c2, c3, c4, c5⟩ := h (j / 6) hi
  obtain ⟨a0, a1, a2, a3, a4, a5⟩ := cellsR_at M (j / 6) hi
  have h6 : j = j / 6 * 6 ∨ j = j / 6 * 6 + 1 ∨ j = j / 6 * 6 + 2 ∨ j = j / 6 * 6 + 3 ∨ j = j / 6 * 6 + 4 ∨ j = j / 6 * 6 + 5 := by omega
  generalize j / 6 = i at *
  rcases h6 with e | e | e | e | e | e
  · subst e; rw [a0] at hu; cases hu; exact c0
  · subst e; rw [a1] at hu; cases hu; rw [← Nat.add_assoc]; exact c1
  · subst e; rw [a2] at hu; cases hu; rw [← Nat.add_assoc]; exact c2
  · subst e; rw [a3] at hu; cases hu; rw [← Nat.add_assoc]; exact c3
  · subst e; rw [a4] at hu; cases hu; rw [← Nat.add_assoc]; exact c4
  · subst e; rw [a5] at hu; cases hu; rw [← Nat.add_assoc]; exact c5

theorem run_append_own_none {w : World} (base : Nat) (t ty e : TypeId) (i : TypeInfo) (size cap2 : Nat) (ht : Try.prog.underlying t = some (.slice e)) (hi : Try.prog.info? e = some i)
    (v : Value) (n : Nat) (xs : List Value) (hown : w.ownsRow base e size v n xs) :
    (Builtin.append_ #[t, t] ty #[v, .slice none 0 cap2]).run Try.prog w = .ok v w := by
  rcases hown.2 with ⟨rfl, rfl⟩ | ⟨g, cap, cur, rfl, _, _, hnc, _⟩
  · simp [Builtin.append_, run_underlying ht, sizeOf, typeInfo, hi, Builtin.lenOf, Builtin.firstCells]
  · simp [Builtin.append_, run_underlying ht, sizeOf, typeInfo, hi, Builtin.lenOf, Builtin.firstCells, hnc, storeCells]

/-- Appending a slice of rules, whoever made it, to a row of rules that a call owns. -/
theorem wpList_append_SR (w : World) {ops : Array Oper} {rest : List Oper} {o : Oper} {a : Act} {Q : Exit → Act → World → Prop} (hgd : o.guard = none) (s x : Operand) (t : TypeId)
    (ho : o.op = .call { callee := .builtin .append, args := #[s, x], argTypes := #[t, t] }) (ht : Try.prog.underlying t = some (.slice 32)) (base : Nat)
    (v : Value) (hs : a.eval s = v) (L : List Ru) (hown : w.ownsRow base 32 6 v L.length (cellsR L)) (u : Value) (hx : a.eval x = u) (M : List Ru) (hM : SR w u M)
    (h100 : L.length + M.length ≤ 1000) (hbase : base ≤ w.heap.size)
    (h : ∀ v' w', w'.ownsRow base 32 6 v' (L ++ M).length (cellsR (L ++ M)) → w.grownBy w' v.ownBlock → wpList Try.prog ops Q rest (a.put o.dst v') w') : wpList Try.prog ops Q (o :: rest) a w := by
  obtain ⟨i0, hi, hz0, hz1, hz2⟩ := info_parts infoRule
  have key : ∀ (ad : Addr) (m c : Nat) (news : List Value), a.eval x = .slice (some ad) m c → news.length = m * 6 → (∀ j u, news[j]? = some u → w.cell? (ad.add j) = some u) → (∀ u ∈ news, u.oneCell' = true) → m = M.length → news = cellsR M → wpList Try.prog ops Q (o :: rest) a w := by
    intro ad m c news e1 e2 e3 e4 e5 e6
    refine wpList_append_own w hgd s x t ho base 32 i0 (.agg #[.int .i64 0, .int .i64 0, .int .i64 0, .int .i64 0, .int .i64 0, .int .i64 0]) 6 48 ht hi hz0 hz1 hz2 sixCells (by decide) v _ _ hs hown ad m c news e1 e2 e3 e4 (by unfold maxLen; omega) (by omega) hbase ?_
    intro v' w' h1 h2 _
    refine h v' w' ?_ h2
    rw [List.length_append, cellsR_app, ← e5, ← e6]
    exact h1
  rcases hM with ⟨ao, cap, rfl, rfl⟩ | ⟨g, q, cap, rfl, h1, h2, h3⟩
  · cases ao with
    | none =>
      refine wpList_plain hgd fun K hK => ?_
      have hrun := run_append_own_none (w := w) base t o.type 32 i0 6 cap ht hi v _ _ hown
      unfold Oper.wp
      simp [execOp, ho, resolve, invoke, builtin, hs, hx, hrun, Result.andThen]
      exact hK _ _ (h v w (by rw [List.append_nil]; exact hown) ⟨rfl, rfl, rfl, Nat.le_refl _, fun _ _ _ => rfl⟩)
    | some ad => exact key ad 0 cap [] hx rfl (by intro j u hu; simp at hu) (by intro u hu; cases hu) rfl rfl
  · exact key ⟨g, q, none⟩ M.length cap (cellsR M) hx (cellsR_len M) h3.cells (cellsR_one M) rfl rfl

/-- A row's first rules are a row. -/
theorem own_cut {w : World} {base e g n cap i : Nat} {xs : List Value} (h : w.ownsRow base e 6 (.slice (some ⟨g, 0, none⟩) n cap) n xs) (hi : i ≤ n) : w.ownsRow base e 6 (.slice (some ⟨g, 0, none⟩) i cap) i (xs.take (i * 6)) := by
  rcases h.2 with ⟨h', _⟩ | ⟨g', cap', cur, h', hb, hg, hnc, hcm, hcs, htake⟩
  · simp at h'
  · simp only [Value.slice.injEq, Option.some.injEq, Addr.mk.injEq, and_true, true_and] at h'
    obtain ⟨rfl, rfl⟩ := h'
    refine ⟨by rw [List.length_take, h.1]; omega, .inr ⟨g, cap, cur, rfl, hb, hg, by omega, hcm, hcs, ?_⟩⟩
    rw [← htake, List.take_take, Nat.min_eq_left (by omega)]
/-- What is stored behind a row does not matter to it. -/
theorem own_behind {base e g cap i : Nat} : ∀ (vs : List Value) (o : Nat) (w : World) (xs : List Value), w.ownsRow base e 6 (.slice (some ⟨g, 0, none⟩) i cap) i xs → i * 6 ≤ o →
    (w.setCells g o vs).ownsRow base e 6 (.slice (some ⟨g, 0, none⟩) i cap) i xs ∧ w.grownBy (w.setCells g o vs) (some g)
  | [], o, w, xs, h, _ => ⟨h, rfl, rfl, rfl, Nat.le_refl _, fun _ _ _ => rfl⟩
  | v :: vs, o, w, xs, h, ho => by
    have h1 := h.stored o v
    have e1 : xs.set o v = xs := List.set_eq_of_length_le (by rw [h.1]; exact ho)
    rw [e1] at h1
    have h2 := own_behind vs (o + 1) _ xs h1.1 (by omega)
    refine ⟨h2.1, ?_⟩
    exact ⟨h2.2.os.trans h1.2.os, h2.2.tape.trans h1.2.tape, h2.2.output.trans h1.2.output, Nat.le_trans h1.2.size h2.2.size, fun k hk hne => (h2.2.block k (Nat.lt_of_lt_of_le hk h1.2.size) hne).trans (h1.2.block k hk hne)⟩
end Go.Proofs.Ytmpjoepfgfbjmaa
/- What slices.Grow, slices.Concat, slices.Index answer at tables. -/
namespace Go.Proofs.Ytmpjoepfgfbjmaa
open Go.RowKit
set_option linter.unusedSimpArgs false
set_option linter.unusedVariables false

set_option maxHeartbeats 2000000 in
set_option maxRecDepth 100000 in
/-- Grow of nil: a row of the call's own, with nothing in it. -/
theorem grow_nil (n : Nat) (w : World) (hn : n ≤ 1000) :
    Calls Try.prog 80 #[.slice none 0 0, .int .i64 n] w fun e w' => ∃ v, e = .returned v ∧ w'.ownsRow w.heap.size 32 6 v 0 [] ∧ Below w.heap.size w w' := by
  have h1 : ¬ ((n : Int) < 0) := by omega
  by_cases h0 : n = 0
  · subst h0
    go_enter Try.func80, Try.ntmps80
    go_wp2
    go_ret
    exact ⟨_, rfl, World.ownsRow_nil _ _ _ _, Below.refl _ _⟩
  · obtain ⟨i0, hi, hz0, hz1, hz2⟩ := info_parts infoRule
    have h3 : wrap64 ((n : Int) - 0) = (n : Int) := by unfold wrap64; omega
    have h4 : (n : Int) > 0 := by omega
    have hrz : ∀ ty, (Builtin.append_ #[35, 3] ty #[.slice none 0 0, .int .i64 n]).run Try.prog w =
        .ok (.slice (some ⟨w.heap.size, 0, none⟩) n (grownCap w n 0 32)) (w.drew.alloc (.cells (Builtin.zeroCells (Value.agg #[.int .i64 0, .int .i64 0, .int .i64 0, .int .i64 0, .int .i64 0, .int .i64 0]).cells n ++ Builtin.zeroCells (Value.agg #[.int .i64 0, .int .i64 0, .int .i64 0, .int .i64 0, .int .i64 0, .int .i64 0]).cells (grownCap w n 0 32 - n)) 32)) := fun ty =>
      Lib.run_append_nil_zeros w 35 3 ty 32 i0 _ .i64 .i64 Try.underlying35 Try.underlying3 hi hz0 n (by omega) (by rw [hz1]; decide) (by omega) (by rw [hz2]; omega)
    have hGn : n ≤ grownCap w n 0 32 := grownCap_ge w _ _ _
    have hGm : grownCap w n 0 32 ≤ maxLen := grownCap_le_maxLen w n 0 32 (by unfold maxLen; omega)
    generalize grownCap w n 0 32 = G at *
    have HM : Hid (G ≤ maxLen) := hGm
    have hG63 : G ≤ 9223372036854775807 := by unfold maxLen at hGm; omega
    have HO : Hid ((w.drew.alloc (.cells (Builtin.zeroCells (Value.agg #[.int .i64 0, .int .i64 0, .int .i64 0, .int .i64 0, .int .i64 0, .int .i64 0]).cells n ++ Builtin.zeroCells (Value.agg #[.int .i64 0, .int .i64 0, .int .i64 0, .int .i64 0, .int .i64 0, .int .i64 0]).cells (G - n)) 32)).ownsRow w.heap.size 32 6 (.slice (some ⟨w.heap.size, 0, none⟩) 0 G) 0 []) :=
      World.ownsRow_made w.drew _ G (Nat.le_refl _) HM.out (by
        simp only [Array.size_append, size_zeroCells, sixCells, ← Nat.add_mul]
        congr 1
        omega)
    clear hGm
    go_enter Try.func80, Try.ntmps80
    go_wp2_with (at_builtin; refine Lib.wpList_append_run _ rfl _ _ _ _ rfl _ _ rfl rfl _ _ (hrz _) ?_)
    all_goals (go_ret; exact ⟨_, rfl, HO.out, ((Below.refl _ _).drew).alloc (Nat.le_refl _) _⟩)

/-- These slices of rules lie one behind the other. -/
def PAt (w : World) (g o : Nat) (Ls : List (List Ru)) : Prop := ∀ i (h : i < Ls.length), ∃ ao n cap, w.cell? ⟨g, o + i, none⟩ = some (.slice ao n cap) ∧ SR w (.slice ao n cap) Ls[i]
theorem PAt.later {w w' : World} {g o : Nat} {Ls : List (List Ru)} (h : PAt w g o Ls) (hb : Below w.heap.size w w') : PAt w' g o Ls := fun i hi => by
  obtain ⟨ao, n, cap, h1, h2⟩ := h i hi
  exact ⟨ao, n, cap, cell_later hb h1, h2.later hb⟩
theorem SR.len {w : World} {ao : Option Addr} {n cap : Nat} {L : List Ru} (h : SR w (.slice ao n cap) L) : L.length = n := by
  rcases h with ⟨_, _, e, rfl⟩ | ⟨_, _, _, e, _⟩
  · simp at e; simp [e]
  · simp at e; exact e.2.1.symm
theorem flat_next {Ls : List (List Ru)} {k : Nat} (hk : k < Ls.length) : (Ls.take (k + 1)).flatten = (Ls.take k).flatten ++ Ls[k] := by
  rw [List.take_succ_eq_append_getElem hk]
  simp only [List.flatten_append, List.flatten_cons, List.flatten_nil, List.append_nil]
theorem flat_le {Ls : List (List Ru)} (k : Nat) : (Ls.take k).flatten.length ≤ Ls.flatten.length := by
  have : Ls.flatten = (Ls.take k).flatten ++ (Ls.drop k).flatten := by rw [← List.flatten_append, List.take_append_drop]
  rw [this, List.length_append]
  omega

set_option maxHeartbeats 4000000 in
set_option maxRecDepth 100000 in
theorem concat_any (g o m cap : Nat) (Ls : List (List Ru)) (w : World) (hm : Ls.length = m) (hm2 : m ≤ 1000) (hc : PAt w g o Ls) (hs : Ls.flatten.length ≤ 1000) :
    Calls Try.prog 64 #[.slice (some ⟨g, o, none⟩) m cap] w fun e w' => ∃ v, e = .returned v ∧ w'.ownsRow w.heap.size 32 6 v Ls.flatten.length (cellsR Ls.flatten) ∧ Below w.heap.size w w' := by
  have HM : Hid (Ls.length = m) := hm
  have HC : Hid (PAt w g o Ls) := hc
  have HS : Hid (Ls.flatten.length ≤ 1000) := hs
  obtain ⟨N, hN⟩ : ∃ N, N = Ls.flatten.length := ⟨_, rfl⟩
  have HN : Hid (N = Ls.flatten.length) := hN
  have hN2 : N ≤ 1000 := by omega
  clear hm hc hs hN
  go_enter Try.func64, Try.ntmps64
  go_upto_block 0 with fail
  go_cut [3] from 3 (fun z w' => z = .int .i64 (N : Int) ∧ w' = w)
  case first =>
    go_wp2
    go_loopw [3, 11] (fun z i wr => ∃ k : Nat, k ≤ m ∧ i = .int .i64 k ∧ z = .int .i64 ((Ls.take k).flatten.length : Int) ∧ wr = w) (fun _ i _ => m - (intOf i).toNat)
    case atStart => exact ⟨0, by omega, rfl, rfl, rfl⟩
    case round =>
      obtain ⟨k, hk, rfl, rfl, rfl⟩ := hrel
      by_cases hlt : k < m
      · have hkl : k < Ls.length := by rw [HM.out]; exact hlt
        obtain ⟨ao, n, cap2, q0, hsr⟩ := HC.out k hkl
        have HT : Hid ((Ls.take (k + 1)).flatten.length = (Ls.take k).flatten.length + n) := by
          show _ = _
          rw [flat_next hkl, List.length_append, hsr.len]
        have hb1 : (Ls.take k).flatten.length + n ≤ 1000 := by
          have h1 := flat_le (Ls := Ls) (k + 1)
          have h2 := HS.out
          have h3 := HT.out
          omega
        generalize (Ls.take k).flatten.length = z at *
        clear hsr
        go_wp2
        go_roundw
        case rel => exact ⟨k + 1, by omega, by go_num, by rw [HT.out]; go_num, by simp⟩
        case measure => simp [intOf]; omega
      · obtain rfl : k = m := by omega
        go_wp2_with fail
        go_meet
        case rel => exact ⟨by rw [← HM.out, List.take_length, HN.out], rfl⟩
  case rest =>
    obtain ⟨rfl, rfl⟩ := hcut
    go_wp2_with fail
    refine (grow_nil N _ hN2).mono ?_
    rintro e w1 ⟨v, rfl, hown, hB⟩
    have HO : Hid (w1.ownsRow wc.heap.size 32 6 v 0 []) := hown
    have HB : Hid (Below wc.heap.size wc w1) := hB
    clear hown hB
    go_wp2
    go_loopw [6, 27] (fun u i wr => ∃ k : Nat, k ≤ m ∧ i = .int .i64 k ∧ wr.ownsRow wc.heap.size 32 6 u (Ls.take k).flatten.length (cellsR (Ls.take k).flatten) ∧ Below wc.heap.size wc wr) (fun _ i _ => m - (intOf i).toNat)
    case atStart => exact ⟨0, by omega, rfl, HO.out, HB.out⟩
    case round =>
      obtain ⟨k, hk, rfl, hown, hB⟩ := hrel
      have HOW : Hid (wr.ownsRow wc.heap.size 32 6 u6 (Ls.take k).flatten.length (cellsR (Ls.take k).flatten)) := hown
      have HBW : Hid (Below wc.heap.size wc wr) := hB
      clear hown
      by_cases hlt : k < m
      · have hkl : k < Ls.length := by rw [HM.out]; exact hlt
        obtain ⟨ao, n, cap2, q0, hsr⟩ := (HC.out.later hB) k hkl
        have HSR : Hid (SR wr (.slice ao n cap2) Ls[k]) := hsr
        have HL1 : Hid ((Ls.take k).flatten.length + Ls[k].length ≤ 1000) := by
          have h1 := flat_le (Ls := Ls) (k + 1)
          rw [flat_next hkl, List.length_append] at h1
          have h2 := HS.out
          show _ ≤ _
          omega
        clear hsr hB
        go_wp2_with (at_builtin; refine wpList_append_SR _ rfl _ _ 35 rfl Try.underlying35 wc.heap.size _ rfl _ HOW.out _ rfl _ HSR.out HL1.out HBW.out.size ?_)
        intro v' w3 hown3 hgrow
        have HO5 : Hid (w3.ownsRow wc.heap.size 32 6 v' (Ls.take (k + 1)).flatten.length (cellsR (Ls.take (k + 1)).flatten)) := by
          show w3.ownsRow _ _ _ _ _ _
          rw [flat_next hkl, show ((Ls.take k).flatten ++ Ls[k]).length = (List.take k (List.map List.length Ls)).sum + Ls[k].length by simp]
          exact hown3
        have HB5 : Hid (Below wc.heap.size wc w3) := HBW.out.grown hgrow HBW.out.size (fun g hg => (HOW.out.lt g hg).1)
        clear hown3 hgrow q0
        go_wp2
        go_roundw
        case rel => exact ⟨k + 1, by omega, by go_num, HO5.out, HB5.out⟩
        case measure => simp [intOf]; omega
      · obtain rfl : k = m := by omega
        go_wp2
        go_ret
        refine ⟨_, rfl, ?_, HBW.out⟩
        have := HOW.out
        rw [← HM.out, List.take_length] at this
        exact this
end Go.Proofs.Ytmpjoepfgfbjmaa
/- What slices.Index answers at a table and a rule. -/
namespace Go.Proofs.Ytmpjoepfgfbjmaa
open Go.RowKit
set_option linter.unusedSimpArgs false
set_option linter.unusedVariables false

/-- Where two rules part first, if at all. -/
theorem eq_ways (p m b o s v p' m' b' o' s' v' : Int) :
    ((p == p') = false ∧ eqR ⟨p, m, b, o, s, v⟩ ⟨p', m', b', o', s', v'⟩ = false) ∨
    ((p == p') = true ∧ (m == m') = false ∧ eqR ⟨p, m, b, o, s, v⟩ ⟨p', m', b', o', s', v'⟩ = false) ∨
    ((p == p') = true ∧ (m == m') = true ∧ (b == b') = false ∧ eqR ⟨p, m, b, o, s, v⟩ ⟨p', m', b', o', s', v'⟩ = false) ∨
    ((p == p') = true ∧ (m == m') = true ∧ (b == b') = true ∧ (o == o') = false ∧ eqR ⟨p, m, b, o, s, v⟩ ⟨p', m', b', o', s', v'⟩ = false) ∨
    ((p == p') = true ∧ (m == m') = true ∧ (b == b') = true ∧ (o == o') = true ∧ (s == s') = false ∧ eqR ⟨p, m, b, o, s, v⟩ ⟨p', m', b', o', s', v'⟩ = false) ∨
    ((p == p') = true ∧ (m == m') = true ∧ (b == b') = true ∧ (o == o') = true ∧ (s == s') = true ∧ (v == v') = false ∧ eqR ⟨p, m, b, o, s, v⟩ ⟨p', m', b', o', s', v'⟩ = false) ∨
    ((p == p') = true ∧ (m == m') = true ∧ (b == b') = true ∧ (o == o') = true ∧ (s == s') = true ∧ (v == v') = true ∧ eqR ⟨p, m, b, o, s, v⟩ ⟨p', m', b', o', s', v'⟩ = true) := by
  unfold eqR
  by_cases h1 : p = p'
  · by_cases h2 : m = m'
    · by_cases h3 : b = b'
      · by_cases h4 : o = o'
        · by_cases h5 : s = s'
          · by_cases h6 : v = v'
            · simp [h1, h2, h3, h4, h5, h6]
            · simp [h1, h2, h3, h4, h5, h6]
          · simp [h1, h2, h3, h4, h5]
        · simp [h1, h2, h3, h4]
      · simp [h1, h2, h3]
    · simp [h1, h2]
  · simp [h1]

set_option maxRecDepth 100000 in
theorem run_eqlR (p m b o s v p' m' b' o' s' v' : Int) (w : World) : (binOp .eql 32 (.agg #[.int .i64 p, .int .i64 m, .int .i64 b, .int .i64 o, .int .i64 s, .int .i64 v]) (.agg #[.int .i64 p', .int .i64 m', .int .i64 b', .int .i64 o', .int .i64 s', .int .i64 v'])).run Try.prog w = .ok (.bool (eqR ⟨p, m, b, o, s, v⟩ ⟨p', m', b', o', s', v'⟩)) w := by
  rcases eq_ways p m b o s v p' m' b' o' s' v' with ⟨e1, e⟩ | ⟨e1, e2, e⟩ | ⟨e1, e2, e3, e⟩ | ⟨e1, e2, e3, e4, e⟩ | ⟨e1, e2, e3, e4, e5, e⟩ | ⟨e1, e2, e3, e4, e5, e6, e⟩ | ⟨e1, e2, e3, e4, e5, e6, e⟩
  all_goals
    rw [e]
    go_simp
/-- A rule in a box, another one at an address: a class of worlds. -/
def CI (w : World) (B : Nat) (p m b q s v : Int) (g o : Nat) (p' m' b' q' s' v' : Int) (w' : World) : Prop :=
  Below w.heap.size w w' ∧ (w'.cell? ⟨B, 0, none⟩ = some (.int .i64 p) ∧ w'.cell? ⟨B, 1, none⟩ = some (.int .i64 m) ∧ w'.cell? ⟨B, 2, none⟩ = some (.int .i64 b) ∧
    w'.cell? ⟨B, 3, none⟩ = some (.int .i64 q) ∧ w'.cell? ⟨B, 4, none⟩ = some (.int .i64 s) ∧ w'.cell? ⟨B, 5, none⟩ = some (.int .i64 v)) ∧
  w'.cell? ⟨g, o, none⟩ = some (.int .i64 p') ∧ w'.cell? ⟨g, o + 1, none⟩ = some (.int .i64 m') ∧ w'.cell? ⟨g, o + 2, none⟩ = some (.int .i64 b') ∧
    w'.cell? ⟨g, o + 3, none⟩ = some (.int .i64 q') ∧ w'.cell? ⟨g, o + 4, none⟩ = some (.int .i64 s') ∧ w'.cell? ⟨g, o + 5, none⟩ = some (.int .i64 v')
theorem CI.later {w W W' : World} {B : Nat} {p m b q s v : Int} {g o : Nat} {p' m' b' q' s' v' : Int} (hb : Below W.heap.size W W') (h : CI w B p m b q s v g o p' m' b' q' s' v' W) : CI w B p m b q s v g o p' m' b' q' s' v' W' := by
  obtain ⟨h0, ⟨h1, h2, h3, h4, h5, h6⟩, k1, k2, k3, k4, k5, k6⟩ := h
  exact ⟨h0.trans (hb.mono h0.size), ⟨cell_later hb h1, cell_later hb h2, cell_later hb h3, cell_later hb h4, cell_later hb h5, cell_later hb h6⟩, cell_later hb k1, cell_later hb k2, cell_later hb k3, cell_later hb k4, cell_later hb k5, cell_later hb k6⟩

set_option maxHeartbeats 2000000 in
set_option maxRecDepth 100000 in
theorem index_any (ao : Option Addr) (n cap : Nat) (p m b o s v : Int) (L : List Ru) (w : World) (hn : L.length = n) (hn2 : n ≤ maxLen) (ha : 0 < n → ∃ g o, ao = some ⟨g, o, none⟩ ∧ RAt w g o L ∧ cap ≤ maxLen) :
    Calls Try.prog 82 #[.slice ao n cap, .agg #[.int .i64 p, .int .i64 m, .int .i64 b, .int .i64 o, .int .i64 s, .int .i64 v]] w fun e w' => e = .returned (.int .i64 (ixP (fun a => eqR ⟨p, m, b, o, s, v⟩ a) L)) ∧ Below w.heap.size w w' := by
  have HN : Hid (L.length = n) := hn
  have HA : Hid (0 < n → ∃ g o, ao = some ⟨g, o, none⟩ ∧ RAt w g o L ∧ cap ≤ maxLen) := ha
  have HC0 := C6.new w p m b o s v 32
  have HB0 : Hid (Below w.heap.size w (w.alloc (Obj.cells #[Value.int IntKind.i64 p, Value.int IntKind.i64 m, Value.int IntKind.i64 b, Value.int IntKind.i64 o, Value.int IntKind.i64 s, Value.int IntKind.i64 v] 32))) := (Below.refl _ _).alloc (Nat.le_refl _) _
  unfold maxLen at hn2
  clear hn ha
  go_enter Try.func82, Try.ntmps82
  go_wp2
  go_loopw [8] (fun i wr => ∃ k : Nat, k ≤ n ∧ i = .int .i64 k ∧ (L.take k).any (fun a => eqR ⟨p, m, b, o, s, v⟩ a) = false ∧ Below w.heap.size w wr ∧ C6 wr w.heap.size 0 ⟨p, m, b, o, s, v⟩)
    (fun i _ => n - (intOf i).toNat)
  case atStart => exact ⟨0, by omega, rfl, by simp, HB0.out, HC0⟩
  case round =>
    obtain ⟨k, hk, rfl, hno, hB, hC⟩ := hrel
    have HB : Hid (Below w.heap.size w wr) := hB
    have HC : Hid (C6 wr w.heap.size 0 ⟨p, m, b, o, s, v⟩) := hC
    have HNO : Hid ((L.take k).any (fun a => eqR ⟨p, m, b, o, s, v⟩ a) = false) := hno
    clear hno HC0 HB0
    by_cases hlt : k < n
    · obtain ⟨g, og, hao, hc, _⟩ := HA.out (by omega)
      subst hao
      obtain ⟨p', m', b', o', s', v', hkl, hL, q0, q1, q2, q3, q4, q5⟩ := (hc.later hB).at HN.out hlt
      have HL : Hid (L[k] = ⟨p', m', b', o', s', v'⟩) := hL
      obtain ⟨r0, r1, r2, r3, r4, r5⟩ := hC
      simp only [Nat.zero_add] at r0 r1 r2 r3 r4 r5
      have HCE : Hid (CI wr w.heap.size p m b o s v g (og + k * 6) p' m' b' o' s' v' wr) := ⟨Below.refl _ _, ⟨r0, r1, r2, r3, r4, r5⟩, q0, q1, q2, q3, q4, q5⟩
      clear hL hB HA q0 q1 q2 q3 q4 q5 r0 r1 r2 r3 r4 r5
      go_upto_region 4 with fail
      have kb0 : (0 : Int) ≤ (k : Int) := by omega
      have kb1 : (k : Int) < (n : Int) := by omega
      go_cut [16] from 9 to 18 (fun c w' => c = .bool (eqR ⟨p, m, b, o, s, v⟩ ⟨p', m', b', o', s', v'⟩) ∧ Below wr.heap.size wr w')
      case first =>
        as_aux_lemma =>
          refine wp_region_quiet (C := CI wr w.heap.size p m b o s v g (og + k * 6) p' m' b' o' s' v') (by kernel_rfl) (by kernel_rfl) (CI.later (W := wr) (Below.drew (Below.refl _ _)) HCE.out) ?_
          simp only [List.toList_toArray]
          go_big_quiet_want
          refine quiet_val (v := .agg #[.int .i64 p, .int .i64 m, .int .i64 b, .int .i64 o, .int .i64 s, .int .i64 v]) (fun w' hC => ?_) ?_
          · obtain ⟨z0, ⟨z1, z2, z3, z4, z5, z6⟩, y1, y2, y3, y4, y5, y6⟩ := hC
            go_simp
          simp only [Act.put, List.setIfInBounds_toArray, List.set_cons_zero, List.set_cons_succ]
          go_big_quiet_on
          go_big_quiet_want
          refine quiet_val (v := .slice (some ⟨g, og, none⟩) n cap) (fun w' hC => ?_) ?_
          · obtain ⟨z0, ⟨z1, z2, z3, z4, z5, z6⟩, y1, y2, y3, y4, y5, y6⟩ := hC
            go_simp
          simp only [Act.put, List.setIfInBounds_toArray, List.set_cons_zero, List.set_cons_succ]
          go_big_quiet_on
          go_big_quiet_want
          refine quiet_val (v := .int .i64 (k : Int)) (fun w' hC => ?_) ?_
          · obtain ⟨z0, ⟨z1, z2, z3, z4, z5, z6⟩, y1, y2, y3, y4, y5, y6⟩ := hC
            go_simp
          simp only [Act.put, List.setIfInBounds_toArray, List.set_cons_zero, List.set_cons_succ]
          go_big_quiet_on
          go_big_quiet_want
          refine quiet_val (v := .pointer (some ⟨g, og + k * 6, none⟩)) (fun w' hC => ?_) ?_
          · obtain ⟨z0, ⟨z1, z2, z3, z4, z5, z6⟩, y1, y2, y3, y4, y5, y6⟩ := hC
            go_simp
          simp only [Act.put, List.setIfInBounds_toArray, List.set_cons_zero, List.set_cons_succ]
          go_big_quiet_on
          go_big_quiet_want
          refine quiet_val (v := .agg #[.int .i64 p', .int .i64 m', .int .i64 b', .int .i64 o', .int .i64 s', .int .i64 v']) (fun w' hC => ?_) ?_
          · obtain ⟨z0, ⟨z1, z2, z3, z4, z5, z6⟩, y1, y2, y3, y4, y5, y6⟩ := hC
            go_simp
          simp only [Act.put, List.setIfInBounds_toArray, List.set_cons_zero, List.set_cons_succ]
          go_big_quiet_on
          go_big_quiet_want
          refine quiet_val (v := .bool (eqR ⟨p, m, b, o, s, v⟩ ⟨p', m', b', o', s', v'⟩)) (fun w' hC => exec_bin rfl (by go_simp) (run_eqlR p m b o s v p' m' b' o' s' v' w')) ?_
          simp only [Act.put, List.setIfInBounds_toArray, List.set_cons_zero, List.set_cons_succ]
          go_big_quiet_on
          refine wpQuiet_nil ?_
          intro w' hC
          go_wp2_with fail
          go_meet
          case rel => exact ⟨rfl, hC.1⟩
      case rest =>
        obtain ⟨rfl, hB2⟩ := hcut
        have HB2 : Hid (Below w.heap.size w wc) := HB.out.trans (hB2.mono HB.out.size)
        have HC2 : Hid (C6 wc w.heap.size 0 ⟨p, m, b, o, s, v⟩) := HC.out.later hB2
        clear hB2
        cases ho : eqR ⟨p, m, b, o, s, v⟩ ⟨p', m', b', o', s', v'⟩
        · go_wp2
          go_roundw
          case rel => exact ⟨k + 1, by omega, by go_num, any_nextR hkl HNO.out (by rw [HL.out]; exact ho), HB2.out, HC2.out⟩
          case measure => simp [intOf]; omega
        · go_wp2
          go_ret
          exact ⟨by rw [ixP_hit hkl HNO.out (by rw [HL.out]; exact ho)]; rfl, HB2.out⟩
    · obtain rfl : k = n := by omega
      go_wp2
      go_ret
      exact ⟨by have := HNO.out; rw [← HN.out, List.take_length] at this; rw [ixP_no this]; rfl, HB.out⟩
end Go.Proofs.Ytmpjoepfgfbjmaa
/- What table.Do answers, called with any table, and any rule to be added or taken away. -/
namespace Go.Proofs.Ytmpjoepfgfbjmaa
open Go.RowKit
set_option linter.unusedSimpArgs false
set_option linter.unusedVariables false

set_option maxHeartbeats 1000000 in
theorem with1_any (p m b o s v : Int) (r : Ru) (B : Nat) (w : World) (hc : C6 w B 0 r) :
    Calls Try.prog 81 #[.agg #[.int .i64 p, .int .i64 m, .int .i64 b, .int .i64 o, .int .i64 s, .int .i64 v], .pointer (some ⟨B, 0, none⟩)] w fun e w' => e = .returned (.bool (keyB ⟨p, m, b, o, s, v⟩ r)) ∧ Below w.heap.size w w' := by
  obtain ⟨p', m', b', o', s', v'⟩ := r
  obtain ⟨c0, c1, c2, c3, c4, c5⟩ := hc
  simp only [Nat.zero_add] at c0 c1 c2 c3 c4 c5
  have hlt : B < w.heap.size := World.block_lt_of_cell? _ _ c0
  go_enter Try.func81, Try.ntmps81
  go_wp2_with fail
  refine (clash_any _ _ _ _ _ _ _ _ _ _ _ _ _).mono ?_
  rintro e w1 ⟨rfl, hb1⟩
  go_wp2
  go_ret
  exact ⟨rfl, ((Below.refl _ _).alloc (Nat.le_refl _) _).trans (hb1.mono (by simp))⟩
theorem with1_asks (r : Ru) (B : Nat) (w : World) (hc : C6 w B 0 r) : Asks w 81 (.pointer (some ⟨B, 0, none⟩)) (fun a => keyB a r) :=
  fun p m b o s v W hW => with1_any p m b o s v r B W (hc.later hW)

theorem SR.nil (w : World) : SR w (.slice none 0 0) [] := .inl ⟨none, 0, rfl, rfl⟩
/-- A row of these rules that lies in a new block. -/
def NR (w : World) (B : Nat) (v : Value) (L : List Ru) : Prop := w.ownsRow B 32 6 v L.length (cellsR L)
theorem NR.sr {w : World} {B : Nat} {v : Value} {L : List Ru} (h : NR w B v L) : SR w v L := own_SR h
theorem NR.nil (w : World) (B : Nat) : NR w B (.slice none 0 0) [] := World.ownsRow_nil w B _ 6
theorem NR.mono {w : World} {B B' : Nat} {v : Value} {L : List Ru} (h : NR w B v L) (hB : B' ≤ B) : NR w B' v L := by
  obtain ⟨h1, h2 | ⟨g, cap, cur, hv, hb, h3⟩⟩ := h
  · exact ⟨h1, .inl h2⟩
  · exact ⟨h1, .inr ⟨g, cap, cur, hv, Nat.le_trans hB hb, h3⟩⟩
theorem NR.later {w w' : World} {B : Nat} {v : Value} {L : List Ru} (h : NR w B v L) (hb : Below w.heap.size w w') : NR w' B v L := h.kept ⟨hb.os, hb.tape, hb.output, hb.size, fun k hk _ => hb.block k hk⟩ (Classical.em _)
theorem NR.of {w : World} {B : Nat} {v : Value} {L M : List Ru} (h : w.ownsRow B 32 6 v L.length (cellsR L)) (e : L = M) : NR w B v M := by subst e; exact h
theorem sr_one (w : World) (p m b o s v : Int) (t : TypeId) : SR (w.alloc (.cells #[.int .i64 p, .int .i64 m, .int .i64 b, .int .i64 o, .int .i64 s, .int .i64 v] t)) (.slice (some ⟨w.heap.size, 0, none⟩) 1 1) [⟨p, m, b, o, s, v⟩] := by
  refine .inr ⟨w.heap.size, 0, 1, rfl, Nat.le_refl _, by unfold maxLen; omega, fun i hi => ?_⟩
  obtain rfl : i = 0 := by simp at hi; omega
  have h := C6.new w p m b o s v t
  simp only [Nat.zero_mul, Nat.add_zero, List.getElem_cons_zero]
  exact h
/-- Two slices of rules in a new row. -/
theorem pat2 {W : World} {a1 a2 : Option Addr} {n1 c1 n2 c2 : Nat} {L1 L2 : List Ru} (t : TypeId) (h1 : SR W (.slice a1 n1 c1) L1) (h2 : SR W (.slice a2 n2 c2) L2) :
    PAt (W.alloc (.cells #[.slice a1 n1 c1, .slice a2 n2 c2] t)) W.heap.size 0 [L1, L2] := by
  have hb : Below W.heap.size W (W.alloc (.cells #[.slice a1 n1 c1, .slice a2 n2 c2] t)) := (Below.refl _ _).alloc (Nat.le_refl _) _
  intro i hi
  match i, hi with
  | 0, _ => exact ⟨a1, n1, c1, by simp, h1.later hb⟩
  | 1, _ => exact ⟨a2, n2, c2, by simp, h2.later hb⟩
theorem RAt.drop {w : World} {g o : Nat} {L : List Ru} (h : RAt w g o L) (k : Nat) : RAt w g (o + k * 6) (L.drop k) := by
  intro i hi
  have hi2 : k + i < L.length := by simp at hi; omega
  have := h (k + i) hi2
  rw [List.getElem_drop]
  have e : o + (k + i) * 6 = o + k * 6 + i * 6 := by omega
  rw [← e]
  exact this
theorem ch_hit {L : List Ru} {r : Ru} (h : hitB L r = true) : chN L true r = 7 := by simp [chN, h]
theorem ch_full {L : List Ru} {r : Ru} (h : hitB L r = false) (h2 : 12 ≤ L.length) : chN L true r = 4 := by simp [chN, h, h2]
theorem ch_add {L : List Ru} {r : Ru} (h : hitB L r = false) (h2 : ¬ 12 ≤ L.length) : chN L true r = 0 := by simp [chN, h, h2]
theorem chL_ne {L : List Ru} {a : Bool} {r : Ru} (h : chN L a r ≠ 0) : chL L a r = [] := by simp [chL, h]
theorem chL_add {L : List Ru} {r : Ru} (h : chN L true r = 0) : chL L true r = L ++ [r] := by simp [chL, h]
theorem ch_none {L : List Ru} {r : Ru} (h : inB L r = false) : chN L false r = 5 := by simp [chN, h]
theorem ch_take {L : List Ru} {r : Ru} (h : inB L r = true) : chN L false r = 0 := by simp [chN, h]
theorem chL_take {L : List Ru} {r : Ru} (h : chN L false r = 0) : chL L false r = L.take (ixN L r) ++ L.drop (ixN L r + 1) := by simp [chL, h]

set_option maxHeartbeats 2000000 in
set_option maxRecDepth 100000 in
theorem with_any (ao : Option Addr) (n cap : Nat) (p m b o s v : Int) (L : List Ru) (w : World) (hs : SR w (.slice ao n cap) L) :
    Calls Try.prog 65 #[.slice ao n cap, .agg #[.int .i64 p, .int .i64 m, .int .i64 b, .int .i64 o, .int .i64 s, .int .i64 v]] w fun e w' => ∃ u, e = .returned (.tuple #[u, noV (chN L true ⟨p, m, b, o, s, v⟩)]) ∧ NR w' w.heap.size u (chL L true ⟨p, m, b, o, s, v⟩) ∧ Below w.heap.size w w' := by
  obtain ⟨ao', n', cap', e, hn, hn2, hn3, ha⟩ := hs.form
  cases e
  have HN : Hid (L.length = n) := hn
  have HC0 := C6.new w p m b o s v 32
  have hB0 : Below w.heap.size w (w.alloc (Obj.cells #[Value.int IntKind.i64 p, Value.int IntKind.i64 m, Value.int IntKind.i64 b, Value.int IntKind.i64 o, Value.int IntKind.i64 s, Value.int IntKind.i64 v] 32)) := (Below.refl _ _).alloc (Nat.le_refl _) _
  have HS0 : Hid (SR (w.alloc (Obj.cells #[Value.int IntKind.i64 p, Value.int IntKind.i64 m, Value.int IntKind.i64 b, Value.int IntKind.i64 o, Value.int IntKind.i64 s, Value.int IntKind.i64 v] 32)) (.slice ao n cap) L) := hs.later hB0
  have HA : Hid (0 < n → ∃ g o, ao = some ⟨g, o, none⟩ ∧ RAt w g o L ∧ cap ≤ maxLen) := ha
  have HB0 : Hid (Below w.heap.size w (w.alloc (Obj.cells #[Value.int IntKind.i64 p, Value.int IntKind.i64 m, Value.int IntKind.i64 b, Value.int IntKind.i64 o, Value.int IntKind.i64 s, Value.int IntKind.i64 v] 32))) := hB0
  have HM : Hid (n ≤ maxLen) := hn2
  have hn63 : n ≤ 9223372036854775807 := by unfold maxLen at hn2; omega
  clear hn ha hs hn2 hB0
  cases hh : hitB L ⟨p, m, b, o, s, v⟩
  · have HH : Hid (L.any (fun a => keyB a ⟨p, m, b, o, s, v⟩) = false) := hh
    by_cases h12 : 12 ≤ n
    · rw [ch_full hh (by rw [HN.out]; exact h12), chL_ne (by rw [ch_full hh (by rw [HN.out]; exact h12)]; decide)]
      clear hh
      go_enter Try.func65, Try.ntmps65
      go_wp2_with fail
      refine (containsF ao n cap _ _ _ L _ HN.out HM.out (fun h => by obtain ⟨g, o, e1, e2, e3⟩ := HA.out h; exact ⟨g, o, e1, e2.later HB0.out, e3⟩) (enters_of Try.func81 (by kernel_rfl) rfl) (with1_asks ⟨p, m, b, o, s, v⟩ _ _ HC0)).mono ?_
      rintro e w1 ⟨rfl, hb1⟩
      rw [HH.out]
      have HB1 : Hid (Below w.heap.size w w1) := HB0.out.trans (hb1.mono HB0.out.size)
      clear hb1
      go_wp2
      refine bodyPost_ret (v := .tuple #[.slice none 0 0, .iface 67 (.int .i64 4)]) (by simp [results, Try.results65, go_sem]) rfl ⟨_, rfl, NR.nil _ _, HB1.out⟩
    · rw [ch_add hh (by rw [HN.out]; exact h12), chL_add (ch_add hh (by rw [HN.out]; exact h12))]
      clear hh
      go_enter Try.func65, Try.ntmps65
      go_wp2_with fail
      refine (containsF ao n cap _ _ _ L _ HN.out HM.out (fun h => by obtain ⟨g, o, e1, e2, e3⟩ := HA.out h; exact ⟨g, o, e1, e2.later HB0.out, e3⟩) (enters_of Try.func81 (by kernel_rfl) rfl) (with1_asks ⟨p, m, b, o, s, v⟩ _ _ HC0)).mono ?_
      rintro e w1 ⟨rfl, hb1⟩
      rw [HH.out]
      have HB1 : Hid (Below w.heap.size w w1) := HB0.out.trans (hb1.mono HB0.out.size)
      have HS1 : Hid (SR w1 (.slice ao n cap) L) := HS0.out.later hb1
      obtain ⟨c0, c1, c2, c3, c4, c5⟩ := HC0.later hb1
      simp only [Nat.zero_add] at c0 c1 c2 c3 c4 c5
      have hlt : w.heap.size < w1.heap.size := World.block_lt_of_cell? _ _ c0
      clear hb1
      go_wp2_with fail
      have hB2 : Below w1.heap.size w1 (w1.alloc (Obj.cells #[Value.int IntKind.i64 p, Value.int IntKind.i64 m, Value.int IntKind.i64 b, Value.int IntKind.i64 o, Value.int IntKind.i64 s, Value.int IntKind.i64 v] 32)) := (Below.refl _ _).alloc (Nat.le_refl _) _
      have hp := pat2 35 (HS1.out.later hB2) (sr_one w1 p m b o s v 32)
      have hB3 := hB2.trans (((Below.refl _ _).alloc (Nat.le_refl _) (.cells #[.slice ao n cap, .slice (some ⟨w1.heap.size, 0, none⟩) 1 1] 35)).mono hB2.size)
      simp only [World.size_alloc] at hp
      refine (concat_any _ 0 2 2 [L, [⟨p, m, b, o, s, v⟩]] _ rfl (by omega) hp (by simp [HN.out]; omega)).mono ?_
      rintro e w2 ⟨u, rfl, hown, hb2⟩
      have HB2 : Hid (Below w.heap.size w w2) := HB1.out.trans ((hB3.trans (hb2.mono hB3.size)).mono HB1.out.size)
      have HO : Hid (NR w2 w.heap.size u (L ++ [⟨p, m, b, o, s, v⟩])) := (NR.of hown (by simp)).mono (by have := HB1.out.size; simp; omega)
      clear hb2 hown hp hB2 hB3
      go_wp2
      refine bodyPost_ret (v := .tuple #[u, .nilIface]) (by simp [results, Try.results65, go_sem]) rfl ⟨_, rfl, HO.out, HB2.out⟩
  · have HH : Hid (L.any (fun a => keyB a ⟨p, m, b, o, s, v⟩) = true) := hh
    rw [ch_hit hh, chL_ne (by rw [ch_hit hh]; decide)]
    clear hh
    go_enter Try.func65, Try.ntmps65
    go_wp2_with fail
    refine (containsF ao n cap _ _ _ L _ HN.out HM.out (fun h => by obtain ⟨g, o, e1, e2, e3⟩ := HA.out h; exact ⟨g, o, e1, e2.later HB0.out, e3⟩) (enters_of Try.func81 (by kernel_rfl) rfl) (with1_asks ⟨p, m, b, o, s, v⟩ _ _ HC0)).mono ?_
    rintro e w1 ⟨rfl, hb1⟩
    rw [HH.out]
    have HB1 : Hid (Below w.heap.size w w1) := HB0.out.trans (hb1.mono HB0.out.size)
    clear hb1
    go_wp2
    refine bodyPost_ret (v := .tuple #[.slice none 0 0, .iface 67 (.int .i64 7)]) (by simp [results, Try.results65, go_sem]) rfl ⟨_, rfl, NR.nil _ _, HB1.out⟩

theorem keepQ {w1 W W' : World} (hb : Below W.heap.size W W') (h : Below w1.heap.size w1 W) : Below w1.heap.size w1 W' := h.trans (hb.mono h.size)
theorem ix_no {L : List Ru} {r : Ru} (h : inB L r = false) : ixP (fun a => eqR r a) L = -1 := ixP_no h
theorem ix_yes {L : List Ru} {r : Ru} (h : inB L r = true) : ixP (fun a => eqR r a) L = (ixN L r : Int) := by
  unfold ixP
  rw [if_pos (show L.any (fun a => eqR r a) = true from h)]
  rfl
theorem ix_lt {L : List Ru} {r : Ru} (h : inB L r = true) : ixN L r < L.length := by
  unfold ixN
  rw [List.findIdx_lt_length]
  simpa [inB] using h

set_option maxHeartbeats 2000000 in
set_option maxRecDepth 100000 in
theorem without_any (ao : Option Addr) (n cap : Nat) (p m b o s v : Int) (L : List Ru) (w : World) (hs : SR w (.slice ao n cap) L) (h1000 : n ≤ 1000) :
    Calls Try.prog 66 #[.slice ao n cap, .agg #[.int .i64 p, .int .i64 m, .int .i64 b, .int .i64 o, .int .i64 s, .int .i64 v]] w fun e w' => ∃ u, e = .returned (.tuple #[u, noV (chN L false ⟨p, m, b, o, s, v⟩)]) ∧ NR w' w.heap.size u (chL L false ⟨p, m, b, o, s, v⟩) ∧ Below w.heap.size w w' := by
  obtain ⟨ao', n', cap', e, hn, hn2, hn3, ha⟩ := hs.form
  cases e
  have HN : Hid (L.length = n) := hn
  have hB0 : Below w.heap.size w (w.alloc (Obj.cells #[Value.int IntKind.i64 p, Value.int IntKind.i64 m, Value.int IntKind.i64 b, Value.int IntKind.i64 o, Value.int IntKind.i64 s, Value.int IntKind.i64 v] 32)) := (Below.refl _ _).alloc (Nat.le_refl _) _
  have HA : Hid (0 < n → ∃ g o, ao = some ⟨g, o, none⟩ ∧ RAt w g o L ∧ cap ≤ maxLen) := ha
  have HB0 : Hid (Below w.heap.size w (w.alloc (Obj.cells #[Value.int IntKind.i64 p, Value.int IntKind.i64 m, Value.int IntKind.i64 b, Value.int IntKind.i64 o, Value.int IntKind.i64 s, Value.int IntKind.i64 v] 32))) := hB0
  have HM : Hid (n ≤ maxLen) := hn2
  clear hn ha hs hn2 hB0
  cases hh : inB L ⟨p, m, b, o, s, v⟩
  · rw [ch_none hh, chL_ne (by rw [ch_none hh]; decide)]
    have HH : Hid (ixP (fun a => eqR ⟨p, m, b, o, s, v⟩ a) L = -1) := ix_no hh
    clear hh
    go_enter Try.func66, Try.ntmps66
    go_wp2_with fail
    refine (index_any ao n cap p m b o s v L _ HN.out HM.out (fun h => by obtain ⟨g, o, e1, e2, e3⟩ := HA.out h; exact ⟨g, o, e1, e2.later HB0.out, e3⟩)).mono ?_
    rintro e w1 ⟨rfl, hb1⟩
    rw [HH.out]
    have HB1 : Hid (Below w.heap.size w w1) := HB0.out.trans (hb1.mono HB0.out.size)
    clear hb1
    go_wp2
    refine bodyPost_ret (v := .tuple #[.slice none 0 0, .iface 67 (.int .i64 5)]) (by simp [results, Try.results66, go_sem]) rfl ⟨_, rfl, NR.nil _ _, HB1.out⟩
  · rw [ch_take hh, chL_take (ch_take hh)]
    have HH : Hid (ixP (fun a => eqR ⟨p, m, b, o, s, v⟩ a) L = (ixN L ⟨p, m, b, o, s, v⟩ : Int)) := ix_yes hh
    have hi : ixN L ⟨p, m, b, o, s, v⟩ < n := by
      have := ix_lt hh
      rw [HN.out] at this
      exact this
    obtain ⟨g, og, hao, hRA, hcm⟩ := HA.out (by omega)
    subst hao
    generalize ixN L ⟨p, m, b, o, s, v⟩ = i at *
    have HRA : Hid (RAt w g og L) := hRA
    have HCM : Hid (cap ≤ maxLen) := hcm
    have hc63 : (cap : Int) ≤ 9223372036854775807 := by unfold maxLen at hcm; omega
    clear hh hRA hcm HA
    go_enter Try.func66, Try.ntmps66
    go_wp2_with fail
    refine (index_any _ n cap p m b o s v L _ HN.out HM.out (fun h => ⟨g, og, rfl, HRA.out.later HB0.out, HCM.out⟩)).mono ?_
    rintro e w1 ⟨rfl, hb1⟩
    rw [HH.out]
    have HB1 : Hid (Below w.heap.size w w1) := HB0.out.trans (hb1.mono HB0.out.size)
    have HR1 : Hid (RAt w1 g og L) := (HRA.out.later HB0.out).later hb1
    clear hb1
    have i0 : ¬ ((i : Int) < 0) := by omega
    have i01 : (0 : Int) ≤ (i : Int) := by omega
    have i1 : (i : Int) ≤ (cap : Int) := by omega
    have i2 : ((i + 1 : Nat) : Int) ≤ (n : Int) := by omega
    have i21 : (0 : Int) ≤ ((i + 1 : Nat) : Int) := by omega
    have i3 : IntKind.i64.wrap ((i : Int) + 1) = ((i + 1 : Nat) : Int) := by rw [IntKind.wrap_i64]; omega
    have HT1 : Hid (SR w1 (.slice (some ⟨g, og, none⟩) i cap) (L.take i)) := by
      have e1 : (L.take i).length = i := by rw [List.length_take, HN.out]; omega
      exact .inr ⟨g, og, cap, by rw [e1], by rw [e1]; omega, HCM.out, HR1.out.take i⟩
    have HLEN : Hid ([L.take i, L.drop (i + 1)].flatten.length ≤ 1000) := by
      show _ ≤ 1000
      simp only [List.flatten_cons, List.flatten_nil, List.append_nil, List.length_append, List.length_take, List.length_drop, HN.out]
      omega
    by_cases hcj : cap = i + 1
    · have HT2 : Hid (SR w1 (.slice (some ⟨g, og, none⟩) 0 0) (L.drop (i + 1))) := .inl ⟨_, _, rfl, List.drop_eq_nil_of_le (by rw [HN.out]; omega)⟩
      generalize hj : i + 1 = j at i2 i21 i3 hcj
      subst hcj
      go_wp2
      go_region_held3 (fun w' => Below w1.heap.size w1 w') (first | assumption | exact Below.drew (Below.refl _ _) | exact keepQ (by assumption) (by assumption) | exact keepQ (Below.drew (Below.refl _ _)) (by assumption) | exact keepQ (Below.alloc (Below.refl _ _) (Nat.le_refl _) _) (by assumption))
        (first | (go_at_call 64; refine (concat_any _ 0 2 2 [L.take i, L.drop (i + 1)] _ rfl (by omega) ((pat2 _ HT1.out HT2.out).later (Below.drew (Below.refl _ _))) HLEN.out).mono ?_; rintro e w' ⟨u, rfl, hown, hb⟩))
      have HO : Hid (NR w' w.heap.size u (L.take i ++ L.drop (i + 1))) := (NR.of hown (by simp)).mono (by have := HB1.out.size; simp; omega)
      have HB2 : Hid (Below w.heap.size w w') := HB1.out.trans ((‹Below w1.heap.size w1 w'›).mono HB1.out.size)
      clear hown
      go_wp2
      refine bodyPost_ret (v := .tuple #[u, .nilIface]) (by simp [results, Try.results66, go_sem]) rfl ⟨_, rfl, HO.out, HB2.out⟩
      
    · have HT2 : Hid (SR w1 (.slice (some ⟨g, og + (i + 1) * 6, none⟩) (n - (i + 1)) (cap - (i + 1))) (L.drop (i + 1))) := by
        have e1 : (L.drop (i + 1)).length = n - (i + 1) := by rw [List.length_drop, HN.out]
        exact .inr ⟨g, og + (i + 1) * 6, cap - (i + 1), by rw [e1], by rw [e1]; omega, Nat.le_trans (Nat.sub_le _ _) HCM.out, HR1.out.drop (i + 1)⟩
      generalize hj : i + 1 = j at i2 i21 i3 hcj HT2 HLEN
      go_wp2
      go_region_held3 (fun w' => Below w1.heap.size w1 w') (first | assumption | exact Below.drew (Below.refl _ _) | exact keepQ (by assumption) (by assumption) | exact keepQ (Below.drew (Below.refl _ _)) (by assumption) | exact keepQ (Below.alloc (Below.refl _ _) (Nat.le_refl _) _) (by assumption))
        (first | (go_at_call 64; refine (concat_any _ 0 2 2 [L.take i, L.drop j] _ rfl (by omega) ((pat2 _ HT1.out HT2.out).later (Below.drew (Below.refl _ _))) HLEN.out).mono ?_; rintro e w' ⟨u, rfl, hown, hb⟩))
      have HO : Hid (NR w' w.heap.size u (L.take i ++ L.drop (i + 1))) := (NR.of hown (by rw [hj]; simp)).mono (by have := HB1.out.size; simp; omega)
      have HB2 : Hid (Below w.heap.size w w') := HB1.out.trans ((‹Below w1.heap.size w1 w'›).mono HB1.out.size)
      clear hown
      go_wp2
      refine bodyPost_ret (v := .tuple #[u, .nilIface]) (by simp [results, Try.results66, go_sem]) rfl ⟨_, rfl, HO.out, HB2.out⟩
      
end Go.Proofs.Ytmpjoepfgfbjmaa
/- What table.Do answers, called with any table, and any rule to be added or taken away. -/
namespace Go.Proofs.Ytmpjoepfgfbjmaa
open Go.RowKit
set_option linter.unusedSimpArgs false
set_option linter.unusedVariables false

theorem do_tb {L : List Ru} {a : Bool} {r : Ru} (h : tbN L ≠ 0) : doN L a r = tbN L ∧ doL L a r = [] := by
  have e : doN L a r = tbN L := by simp [doN, h]
  exact ⟨e, by rw [doL, e, if_neg h]⟩
theorem do_ru {L : List Ru} {a : Bool} {r : Ru} (h : tbN L = 0) (h2 : r.n ≠ 0) : doN L a r = r.n ∧ doL L a r = [] := by
  have e : doN L a r = r.n := by simp [doN, h, h2]
  exact ⟨e, by rw [doL, e, if_neg h2]⟩
theorem do_ch {L : List Ru} {a : Bool} {r : Ru} (h : tbN L = 0) (h2 : r.n = 0) : doN L a r = chN L a r ∧ doL L a r = chL L a r := by
  have e : doN L a r = chN L a r := by simp [doN, h, h2]
  refine ⟨e, ?_⟩
  by_cases h3 : chN L a r = 0
  · rw [doL, e, if_pos h3]
  · rw [doL, e, if_neg h3, chL_ne h3]

set_option maxHeartbeats 2000000 in
set_option maxRecDepth 100000 in
theorem do_own (ao : Option Addr) (n cap : Nat) (a : Bool) (p m b o s v : Int) (L : List Ru) (w : World) (hs : SR w (.slice ao n cap) L) :
    Calls Try.prog 40 #[.slice ao n cap, .bool a, .agg #[.int .i64 p, .int .i64 m, .int .i64 b, .int .i64 o, .int .i64 s, .int .i64 v]] w fun e w' => ∃ u, e = .returned (.tuple #[u, noV (doN L a ⟨p, m, b, o, s, v⟩)]) ∧ NR w' w.heap.size u (doL L a ⟨p, m, b, o, s, v⟩) ∧ Below w.heap.size w w' := by
  have hB0 : Below w.heap.size w (w.alloc (Obj.cells #[Value.int IntKind.i64 p, Value.int IntKind.i64 m, Value.int IntKind.i64 b, Value.int IntKind.i64 o, Value.int IntKind.i64 s, Value.int IntKind.i64 v] 32)) := (Below.refl _ _).alloc (Nat.le_refl _) _
  have HC0 := C6.new w p m b o s v 32
  have HS0 : Hid (SR (w.alloc (Obj.cells #[Value.int IntKind.i64 p, Value.int IntKind.i64 m, Value.int IntKind.i64 b, Value.int IntKind.i64 o, Value.int IntKind.i64 s, Value.int IntKind.i64 v] 32)) (.slice ao n cap) L) := hs.later hB0
  have HB0 : Hid (Below w.heap.size w (w.alloc (Obj.cells #[Value.int IntKind.i64 p, Value.int IntKind.i64 m, Value.int IntKind.i64 b, Value.int IntKind.i64 o, Value.int IntKind.i64 s, Value.int IntKind.i64 v] 32))) := hB0
  have HLN : Hid (L.length = n) := hs.len
  clear hs hB0
  by_cases h1 : tbN L = 0
  · have HT : Hid (tbN L = 0) := h1
    by_cases h2 : (⟨p, m, b, o, s, v⟩ : Ru).n = 0
    · have HR : Hid (ruN p m b o s v = 0) := h2
      have HN1 : Hid (n ≤ 1000) := by
        have := (tb_iff.1 h1).1
        have := HLN.out
        show n ≤ 1000
        omega
      rw [(do_ch h1 h2).1, (do_ch h1 h2).2]
      clear h1 h2
      cases a
      · go_enter Try.func40, Try.ntmps40
        go_wp2_with fail
        refine (table_any _ L _ HS0.out).mono ?_
        rintro e w1 ⟨rfl, hb1⟩
        rw [no_ok HT.out]
        have HB1 : Hid (Below w.heap.size w w1) := HB0.out.trans (hb1.mono HB0.out.size)
        have HS1 : Hid (SR w1 (.slice ao n cap) L) := HS0.out.later hb1
        have HC1 : Hid (C6 w1 w.heap.size 0 ⟨p, m, b, o, s, v⟩) := HC0.later hb1
        obtain ⟨c0, c1, c2, c3, c4, c5⟩ := HC0.later hb1
        simp only [Nat.zero_add] at c0 c1 c2 c3 c4 c5
        have hlt : w.heap.size < w1.heap.size := World.block_lt_of_cell? _ _ c0
        clear hb1
        go_wp2_with fail
        refine (ruCheck_any _ _ _ _ _ _ _).mono ?_
        rintro e w2 ⟨rfl, hb2⟩
        rw [no_ok HR.out]
        have HB2 : Hid (Below w.heap.size w w2) := HB1.out.trans (hb2.mono HB1.out.size)
        have HS2 : Hid (SR w2 (.slice ao n cap) L) := HS1.out.later hb2
        obtain ⟨d0, d1, d2, d3, d4, d5⟩ := HC1.out.later hb2
        simp only [Nat.zero_add] at d0 d1 d2 d3 d4 d5
        have hlt2 : w.heap.size < w2.heap.size := World.block_lt_of_cell? _ _ d0
        clear hb2 c0 c1 c2 c3 c4 c5
        go_wp2_with fail
        refine (without_any ao n cap p m b o s v L _ HS2.out HN1.out).mono ?_
        rintro e w3 ⟨u, rfl, hsr, hb3⟩
        have HB3 : Hid (Below w.heap.size w w3) := HB2.out.trans (hb3.mono HB2.out.size)
        have HO : Hid (NR w3 w.heap.size u (chL L false ⟨p, m, b, o, s, v⟩)) := hsr.mono HB2.out.size
        clear hb3 hsr d0 d1 d2 d3 d4 d5
        generalize hE : noV (chN L false ⟨p, m, b, o, s, v⟩) = E
        have HE : Hid (noV (chN L false ⟨p, m, b, o, s, v⟩) = E) := hE
        clear hE
        go_wp2
        refine bodyPost_ret (v := .tuple #[u, E]) (by simp [results, Try.results40, go_sem]) rfl ⟨_, by rw [HE.out], HO.out, HB3.out⟩
      · go_enter Try.func40, Try.ntmps40
        go_wp2_with fail
        refine (table_any _ L _ HS0.out).mono ?_
        rintro e w1 ⟨rfl, hb1⟩
        rw [no_ok HT.out]
        have HB1 : Hid (Below w.heap.size w w1) := HB0.out.trans (hb1.mono HB0.out.size)
        have HS1 : Hid (SR w1 (.slice ao n cap) L) := HS0.out.later hb1
        have HC1 : Hid (C6 w1 w.heap.size 0 ⟨p, m, b, o, s, v⟩) := HC0.later hb1
        obtain ⟨c0, c1, c2, c3, c4, c5⟩ := HC0.later hb1
        simp only [Nat.zero_add] at c0 c1 c2 c3 c4 c5
        have hlt : w.heap.size < w1.heap.size := World.block_lt_of_cell? _ _ c0
        clear hb1
        go_wp2_with fail
        refine (ruCheck_any _ _ _ _ _ _ _).mono ?_
        rintro e w2 ⟨rfl, hb2⟩
        rw [no_ok HR.out]
        have HB2 : Hid (Below w.heap.size w w2) := HB1.out.trans (hb2.mono HB1.out.size)
        have HS2 : Hid (SR w2 (.slice ao n cap) L) := HS1.out.later hb2
        obtain ⟨d0, d1, d2, d3, d4, d5⟩ := HC1.out.later hb2
        simp only [Nat.zero_add] at d0 d1 d2 d3 d4 d5
        have hlt2 : w.heap.size < w2.heap.size := World.block_lt_of_cell? _ _ d0
        clear hb2 c0 c1 c2 c3 c4 c5
        go_wp2_with fail
        refine (with_any ao n cap p m b o s v L _ HS2.out).mono ?_
        rintro e w3 ⟨u, rfl, hsr, hb3⟩
        have HB3 : Hid (Below w.heap.size w w3) := HB2.out.trans (hb3.mono HB2.out.size)
        have HO : Hid (NR w3 w.heap.size u (chL L true ⟨p, m, b, o, s, v⟩)) := hsr.mono HB2.out.size
        clear hb3 hsr d0 d1 d2 d3 d4 d5
        generalize hE : noV (chN L true ⟨p, m, b, o, s, v⟩) = E
        have HE : Hid (noV (chN L true ⟨p, m, b, o, s, v⟩) = E) := hE
        clear hE
        go_wp2
        refine bodyPost_ret (v := .tuple #[u, E]) (by simp [results, Try.results40, go_sem]) rfl ⟨_, by rw [HE.out], HO.out, HB3.out⟩
    · have HR : Hid (ruN p m b o s v ≠ 0) := h2
      rw [(do_ru h1 h2).1, (do_ru h1 h2).2]
      have HRV : Hid (noV (Ru.n ⟨p, m, b, o, s, v⟩) = .iface 67 (.int .i64 (ruN p m b o s v))) := no_ne h2
      clear h1 h2
      go_enter Try.func40, Try.ntmps40
      go_wp2_with fail
      refine (table_any _ L _ HS0.out).mono ?_
      rintro e w1 ⟨rfl, hb1⟩
      rw [no_ok HT.out]
      have HB1 : Hid (Below w.heap.size w w1) := HB0.out.trans (hb1.mono HB0.out.size)
      obtain ⟨c0, c1, c2, c3, c4, c5⟩ := HC0.later hb1
      simp only [Nat.zero_add] at c0 c1 c2 c3 c4 c5
      have hlt : w.heap.size < w1.heap.size := World.block_lt_of_cell? _ _ c0
      clear hb1
      go_wp2_with fail
      refine (ruCheck_any _ _ _ _ _ _ _).mono ?_
      rintro e w2 ⟨rfl, hb2⟩
      rw [no_ne HR.out]
      have HB2 : Hid (Below w.heap.size w w2) := HB1.out.trans (hb2.mono HB1.out.size)
      clear hb2 c0 c1 c2 c3 c4 c5
      go_wp2
      refine bodyPost_ret (v := .tuple #[.slice none 0 0, .iface 67 (.int .i64 (ruN p m b o s v))]) (by simp [results, Try.results40, go_sem]) rfl ⟨_, by rw [HRV.out], NR.nil _ _, HB2.out⟩
  · have HT : Hid (tbN L ≠ 0) := h1
    rw [(do_tb h1).1, (do_tb h1).2, no_ne h1]
    clear h1
    go_enter Try.func40, Try.ntmps40
    go_wp2_with fail
    refine (table_any _ L _ HS0.out).mono ?_
    rintro e w1 ⟨rfl, hb1⟩
    rw [no_ne HT.out]
    have HB1 : Hid (Below w.heap.size w w1) := HB0.out.trans (hb1.mono HB0.out.size)
    clear hb1
    go_wp2
    refine bodyPost_ret (v := .tuple #[.slice none 0 0, .iface 67 (.int .i64 (tbN L))]) (by simp [results, Try.results40, go_sem]) rfl ⟨_, rfl, NR.nil _ _, HB1.out⟩
theorem do_any (ao : Option Addr) (n cap : Nat) (a : Bool) (p m b o s v : Int) (L : List Ru) (w : World) (hs : SR w (.slice ao n cap) L) :
    Calls Try.prog 40 #[.slice ao n cap, .bool a, .agg #[.int .i64 p, .int .i64 m, .int .i64 b, .int .i64 o, .int .i64 s, .int .i64 v]] w fun e w' => ∃ u, e = .returned (.tuple #[u, noV (doN L a ⟨p, m, b, o, s, v⟩)]) ∧ SR w' u (doL L a ⟨p, m, b, o, s, v⟩) ∧ Below w.heap.size w w' :=
  (do_own ao n cap a p m b o s v L w hs).mono fun _ _ ⟨u, h1, h2, h3⟩ => ⟨u, h1, h2.sr, h3⟩
end Go.Proofs.Ytmpjoepfgfbjmaa
/- What slices.Contains, slices.DeleteFunc and table.beyond answer at tables. -/
namespace Go.Proofs.Ytmpjoepfgfbjmaa
open Go.RowKit
set_option linter.unusedSimpArgs false
set_option linter.unusedVariables false

/-- What is left of the first j rules lies at the first i places, the others are as they were. -/
structure KI (f : Ru → Bool) (L : List Ru) (j i : Nat) (X : List Ru) : Prop where
  len : X.length = L.length
  lt : i < j
  low : X.take i = (L.take j).filter (fun a => !f a)
  high : X.drop j = L.drop j
theorem KI.start {f : Ru → Bool} {L : List Ru} {k : Nat} (hk : k < L.length) (h : (L.take k).any f = false) (h2 : f L[k] = true) : KI f L (k + 1) k L := by
  refine ⟨rfl, by omega, ?_, rfl⟩
  rw [List.take_succ_eq_append_getElem hk, List.filter_append]
  have e1 : (L.take k).filter (fun a => !f a) = L.take k := by
    rw [List.filter_eq_self]
    intro a ha
    rw [List.any_eq_false] at h
    simpa using h a ha
  rw [e1]
  simp [h2]
theorem KI.skip {f : Ru → Bool} {L X : List Ru} {j i : Nat} (h : KI f L j i X) (hj : j < L.length) (h2 : f L[j] = true) : KI f L (j + 1) i X := by
  refine ⟨h.len, by have := h.lt; omega, ?_, ?_⟩
  · rw [List.take_succ_eq_append_getElem hj, List.filter_append, ← h.low]
    simp [h2]
  · have := congrArg (List.drop 1) h.high
    simpa [List.drop_drop, Nat.add_comm] using this
theorem KI.at {f : Ru → Bool} {L X : List Ru} {j i : Nat} (h : KI f L j i X) (hj : j < L.length) : X[j]'(by rw [h.len]; exact hj) = L[j] := by
  have e1 := congrArg (fun l => l[0]?) h.high
  simp only [List.getElem?_drop, Nat.add_zero] at e1
  rw [List.getElem?_eq_getElem (by rw [h.len]; exact hj), List.getElem?_eq_getElem hj] at e1
  exact Option.some.inj e1
theorem KI.keep {f : Ru → Bool} {L X : List Ru} {j i : Nat} (h : KI f L j i X) (hj : j < L.length) (h2 : f L[j] = false) : KI f L (j + 1) (i + 1) (X.set i L[j]) := by
  have hlt := h.lt
  have hl := h.len
  refine ⟨by rw [List.length_set]; exact h.len, by omega, ?_, ?_⟩
  · rw [List.take_succ_eq_append_getElem hj, List.filter_append, ← h.low]
    have hi : i < (X.set i L[j]).length := by rw [List.length_set]; omega
    rw [List.take_succ_eq_append_getElem hi, List.take_set_of_le (Nat.le_refl _)]
    simp [h2]
  · rw [List.drop_set_of_lt (by omega)]
    have := congrArg (List.drop 1) h.high
    simpa [List.drop_drop, Nat.add_comm] using this
theorem KI.done {f : Ru → Bool} {L X : List Ru} {i : Nat} (h : KI f L L.length i X) : X.take i = L.filter (fun a => !f a) := by
  have := h.low
  rw [List.take_length] at this
  exact this

/-- A rule that is stored in a row. -/
theorem cellsR_set (X : List Ru) (i : Nat) (p m b o s v : Int) (hi : i < X.length) : cellsR (X.set i ⟨p, m, b, o, s, v⟩) = ((((((cellsR X).set (i * 6) (.int .i64 p)).set (i * 6 + 1) (.int .i64 m)).set (i * 6 + 2) (.int .i64 b)).set (i * 6 + 3) (.int .i64 o)).set (i * 6 + 4) (.int .i64 s)).set (i * 6 + 5) (.int .i64 v) := by
  induction X generalizing i with
  | nil => simp at hi
  | cons x X ih =>
    cases i with
    | zero => simp [cellsR]
    | succ i =>
      have := ih i (by simpa using hi)
      have e1 : (i + 1) * 6 = i * 6 + 1 + 1 + 1 + 1 + 1 + 1 := by omega
      simp only [cellsR, List.flatMap_cons, List.set_cons_succ] at this ⊢
      rw [this]
      simp [e1]
theorem own_set {w : World} {base e g n cap i : Nat} {X : List Ru} (h : w.ownsRow base e 6 (.slice (some ⟨g, 0, none⟩) n cap) n (cellsR X)) (hi : i < X.length) (p m b o s v : Int) :
    ((((((w.setCell ⟨g, i * 6, none⟩ (.int .i64 p)).setCell ⟨g, i * 6 + 1, none⟩ (.int .i64 m)).setCell ⟨g, i * 6 + 2, none⟩ (.int .i64 b)).setCell ⟨g, i * 6 + 3, none⟩ (.int .i64 o)).setCell ⟨g, i * 6 + 4, none⟩ (.int .i64 s)).setCell ⟨g, i * 6 + 5, none⟩ (.int .i64 v)).ownsRow base e 6 (.slice (some ⟨g, 0, none⟩) n cap) n (cellsR (X.set i ⟨p, m, b, o, s, v⟩)) := by
  rw [cellsR_set X i p m b o s v hi]
  exact ((((((h.stored _ _).1.stored _ _).1.stored _ _).1.stored _ _).1.stored _ _).1.stored _ _).1
theorem below_six {B : Nat} {a w : World} {g i : Nat} (h : Below B a w) (hg : B ≤ g) (p m b o s v : Value) :
    Below B a ((((((w.setCell ⟨g, i * 6, none⟩ p).setCell ⟨g, i * 6 + 1, none⟩ m).setCell ⟨g, i * 6 + 2, none⟩ b).setCell ⟨g, i * 6 + 3, none⟩ o).setCell ⟨g, i * 6 + 4, none⟩ s).setCell ⟨g, i * 6 + 5, none⟩ v) :=
  (((((h.setCell hg _).setCell hg _).setCell hg _).setCell hg _).setCell hg _).setCell hg _
/-- The cells of an own row's rule, none of them frozen. -/
theorem own_at {w : World} {base e g n cap i : Nat} {X : List Ru} (h : w.ownsRow base e 6 (.slice (some ⟨g, 0, none⟩) n cap) n (cellsR X)) (hn : X.length = n) (hi : i < n) :
    C6 w g (i * 6) (X[i]'(by omega)) ∧ (∀ c, w.frozen? ⟨g, c, none⟩ = false) := by
  subst hn
  obtain ⟨a0, a1, a2, a3, a4, a5⟩ := cellsR_at X i hi
  refine ⟨⟨?_, ?_, ?_, ?_, ?_, ?_⟩, fun c => h.frozenAt c⟩
  · rw [h.cellAt _ (by omega)]; exact a0
  · rw [h.cellAt _ (by omega)]; exact a1
  · rw [h.cellAt _ (by omega)]; exact a2
  · rw [h.cellAt _ (by omega)]; exact a3
  · rw [h.cellAt _ (by omega)]; exact a4
  · rw [h.cellAt _ (by omega)]; exact a5

theorem run_clear_of (w w' : World) (t e ty : TypeId) (ht : Try.prog.underlying t = some (.slice e)) (b o n c : Nat) (hn : 0 < n) (z : Value) (hv : ∀ w, (zeroValue e).run Try.prog w = .ok z w) (Z : List Value)
    (hZ : (Builtin.zeroCells z.cells n).toList = Z) (hst : (storeCells ⟨b, o, none⟩ Z 0).run Try.prog w = .ok () w') : (Builtin.clear_ #[t] ty #[.slice (some ⟨b, o, none⟩) n c]).run Try.prog w = .ok (.tuple #[]) w' := by
  obtain ⟨m, rfl⟩ : ∃ m, n = m + 1 := ⟨n - 1, by omega⟩
  simp [Builtin.clear_, run_underlying ht, hv, hZ, hst]
theorem cellsR_take (X : List Ru) (i : Nat) : (cellsR X).take (i * 6) = cellsR (X.take i) := by
  induction X generalizing i with
  | nil => simp [cellsR]
  | cons x X ih =>
    cases i with
    | zero => simp [cellsR]
    | succ i =>
      have := ih i
      have e1 : (i + 1) * 6 = i * 6 + 1 + 1 + 1 + 1 + 1 + 1 := by omega
      simp only [cellsR] at this
      simp [cellsR, e1, this]
/-- Clearing rules of a row. -/
theorem run_clear6 (w : World) (t ty : TypeId) (ht : Try.prog.underlying t = some (.slice 32)) (b o n c : Nat) (hn : 0 < n)
    (hc : ∀ j, j < n * 6 → (w.cell? ⟨b, o + j, none⟩).isSome = true) (hf : ∀ j, w.frozen? ⟨b, j, none⟩ = false) :
    (Builtin.clear_ #[t] ty #[.slice (some ⟨b, o, none⟩) n c]).run Try.prog w = .ok (.tuple #[]) (w.setCells b o (Builtin.zeroCells (Value.agg #[.int .i64 0, .int .i64 0, .int .i64 0, .int .i64 0, .int .i64 0, .int .i64 0]).cells n).toList) := by
  obtain ⟨i0, hi, hz0, hz1, hz2⟩ := info_parts infoRule
  have hv : ∀ w, (zeroValue 32).run Try.prog w = .ok (.agg #[.int .i64 0, .int .i64 0, .int .i64 0, .int .i64 0, .int .i64 0, .int .i64 0]) w := fun w => by simp [zeroValue, typeInfo, hi, hz0]
  have hl : (Builtin.zeroCells (Value.agg #[.int .i64 0, .int .i64 0, .int .i64 0, .int .i64 0, .int .i64 0, .int .i64 0]).cells n).toList.length = n * 6 := by rw [Array.length_toList, size_zeroCells, sixCells]
  have h1 : ∀ u ∈ (Builtin.zeroCells (Value.agg #[.int .i64 0, .int .i64 0, .int .i64 0, .int .i64 0, .int .i64 0, .int .i64 0]).cells n).toList, u.oneCell' = true := by
    intro u hu
    simp only [Builtin.zeroCells, Array.toList_map, List.mem_map] at hu
    obtain ⟨i, _, rfl⟩ := hu
    rw [sixCells]
    have h6 : i % 6 < 6 := Nat.mod_lt _ (by omega)
    generalize i % 6 = j at h6
    rcases (by omega : j = 0 ∨ j = 1 ∨ j = 2 ∨ j = 3 ∨ j = 4 ∨ j = 5) with rfl | rfl | rfl | rfl | rfl | rfl <;> rfl
  have hst := run_storeCells_cells (P := Try.prog) b o (Builtin.zeroCells (Value.agg #[.int .i64 0, .int .i64 0, .int .i64 0, .int .i64 0, .int .i64 0, .int .i64 0]).cells n).toList 0 w (by rw [hl]; simpa using hc) (fun j _ => hf _) h1
  simp only [Nat.add_zero] at hst
  exact run_clear_of w _ t _ ty ht b o n c hn _ hv _ rfl hst

/-- Two rows of two kinds lie in two blocks. -/
theorem own_apart {w : World} {b1 e1 s1 n1 b2 e2 s2 n2 : Nat} {v1 v2 : Value} {x1 x2 : List Value} (h1 : w.ownsRow b1 e1 s1 v1 n1 x1) (h2 : w.ownsRow b2 e2 s2 v2 n2 x2) (he : e1 ≠ e2) : v1.ownBlock = none ∨ v1.ownBlock ≠ v2.ownBlock := by
  rcases h1.2 with ⟨rfl, _⟩ | ⟨g, cap, cur, rfl, _, hg, _⟩
  · exact .inl rfl
  · refine .inr ?_
    rcases h2.2 with ⟨rfl, _⟩ | ⟨g2, cap2, cur2, rfl, _, hg2, _⟩
    · exact fun h => by cases h
    · intro h
      simp only [Value.ownBlock, Option.some.injEq] at h
      subst h
      rw [hg] at hg2
      simp only [Option.some.injEq, Obj.cells.injEq] at hg2
      exact he hg2.2.1
/-- One slice of rules in a new row. -/
theorem pat1 {W : World} {a1 : Option Addr} {n1 c1 : Nat} {L1 : List Ru} (t : TypeId) (h1 : SR W (.slice a1 n1 c1) L1) :
    PAt (W.alloc (.cells #[.slice a1 n1 c1] t)) W.heap.size 0 [L1] := by
  have hb : Below W.heap.size W (W.alloc (.cells #[.slice a1 n1 c1] t)) := (Below.refl _ _).alloc (Nat.le_refl _) _
  intro i hi
  match i, hi with
  | 0, _ => exact ⟨a1, n1, c1, by simp, h1.later hb⟩

end Go.Proofs.Ytmpjoepfgfbjmaa
