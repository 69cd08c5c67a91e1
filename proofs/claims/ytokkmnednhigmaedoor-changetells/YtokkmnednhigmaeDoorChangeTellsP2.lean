/- Contracts and facts on the way to ChangeTells, joined into one text: TableApp, CcLink, TableMath, StCube, StRule, StOp, ClassMath, ClassMem. -/
import Derived.Test.YtokkmnednhigmaeDoorChangeTellsP1
import Derived.Laws.AppendOwnNone
import Derived.Lib.SliceRun
import Derived.Lib.AppendZeros
import Derived.Deep.CutRange
import Derived.Deep.CutBlock
import Derived.Test.YtokkmnednhigmaeDoorRows
import Derived.Lib.SmallJoins
import Derived.Laws.StructEq
import Derived.Maps.OwnOps
import Derived.Laws.OwnMore
/- Rows of rules that a call owns: appended to, cut, stored into, cleared. -/
namespace Go.Proofs.YtokkmnednhigmaeDoor
open Go.RowKit
set_option linter.unusedSimpArgs false

theorem addr_add (g o j : Nat) : (⟨g, o, none⟩ : Addr).add j = ⟨g, o + j, none⟩ := by
  simp only [Addr.add]
  first
    | rfl
    | (split
       · next h0 => rw [h0]; rfl
       · rfl)
/-- The cells of rules that lie from an address on. -/
theorem RAt.cells {w : World} {g o : Nat} {M : List Ru} (h : RAt w g o M) : ∀ j u, (cellsR M)[j]? = some u → w.cell? ((⟨g, o, none⟩ : Addr).add j) = some u := by
  intro j u hu
  have hj : j < M.length * 6 := by
    have := (List.getElem?_eq_some_iff.1 hu).1
    rw [cellsR_len] at this
    exact this
  rw [addr_add]
  have hi : j / 6 < M.length := by omega
  obtain ⟨c0, c1, c2, c3, c4, c5⟩ := h (j / 6) hi
  obtain ⟨a0, a1, a2, a3, a4, a5⟩ := cellsR_at M (j / 6) hi
  have h6 : j = j / 6 * 6 ∨ j = j / 6 * 6 + 1 ∨ j = j / 6 * 6 + 2 ∨ j = j / 6 * 6 + 3 ∨ j = j / 6 * 6 + 4 ∨ j = j / 6 * 6 + 5 := by omega
  generalize j / 6 = i at *
  rcases h6 with e | e | e | e | e | e
  · subst e; rw [a0] at hu; cases hu; exact c0
  · subst e; rw [a1] at hu; cases hu; rw [← Nat.add_assoc]; exact c1
  · subst e; rw [a2] at hu; cases hu; rw [← Nat.add_assoc]; exact c2
  · subst e; rw [a3] at hu; cases hu; rw [← Nat.add_assoc]; exact c3
  · subst e; rw [a4] at hu; cases hu; rw [← Nat.add_assoc]; exact c4
  · subst e; rw [a5] at hu; cases hu; rw [← Nat.add_assoc]; exact c5

theorem run_append_own_none {w : World} (base : Nat) (t ty e : TypeId) (i : TypeInfo) (size cap2 : Nat) (ht : Tryd.prog.underlying t = some (.slice e)) (hi : Tryd.prog.info? e = some i)
    (v : Value) (n : Nat) (xs : List Value) (hown : w.ownsRow base e size v n xs) :
    (Builtin.append_ #[t, t] ty #[v, .slice none 0 cap2]).run Tryd.prog w = .ok v w := by
  rcases hown.2 with ⟨rfl, rfl⟩ | ⟨g, cap, cur, rfl, _, _, hnc, _⟩
  · simp [Builtin.append_, run_underlying ht, sizeOf, typeInfo, hi, Builtin.lenOf, Builtin.firstCells]
  · simp [Builtin.append_, run_underlying ht, sizeOf, typeInfo, hi, Builtin.lenOf, Builtin.firstCells, hnc, storeCells]

/-- Appending a slice of rules, whoever made it, to a row of rules that a call owns. -/
theorem wpList_append_SR (w : World) {ops : Array Oper} {rest : List Oper} {o : Oper} {a : Act} {Q : Exit → Act → World → Prop} (hgd : o.guard = none) (s x : Operand) (t : TypeId)
    (ho : o.op = .call { callee := .builtin .append, args := #[s, x], argTypes := #[t, t] }) (ht : Tryd.prog.underlying t = some (.slice 51)) (base : Nat)
    (v : Value) (hs : a.eval s = v) (L : List Ru) (hown : w.ownsRow base 51 6 v L.length (cellsR L)) (u : Value) (hx : a.eval x = u) (M : List Ru) (hM : SR w u M)
    (h100 : L.length + M.length ≤ 1000) (hbase : base ≤ w.heap.size)
    (h : ∀ v' w', w'.ownsRow base 51 6 v' (L ++ M).length (cellsR (L ++ M)) → w.grownBy w' v.ownBlock → wpList Tryd.prog ops Q rest (a.put o.dst v') w') : wpList Tryd.prog ops Q (o :: rest) a w := by
  obtain ⟨i0, hi, hz0, hz1, hz2⟩ := info_parts infoRule
  have key : ∀ (ad : Addr) (m c : Nat) (news : List Value), a.eval x = .slice (some ad) m c → news.length = m * 6 → (∀ j u, news[j]? = some u → w.cell? (ad.add j) = some u) → (∀ u ∈ news, u.oneCell' = true) → m = M.length → news = cellsR M → wpList Tryd.prog ops Q (o :: rest) a w := by
    intro ad m c news e1 e2 e3 e4 e5 e6
    refine wpList_append_own w hgd s x t ho base 51 i0 (.agg #[.int .i64 0, .int .i64 0, .int .i64 0, .int .i64 0, .int .i64 0, .int .i64 0]) 6 48 ht hi hz0 hz1 hz2 sixCells (by decide) v _ _ hs hown ad m c news e1 e2 e3 e4 (by unfold maxLen; omega) (by omega) hbase ?_
    intro v' w' h1 h2 _
    refine h v' w' ?_ h2
    rw [List.length_append, cellsR_app, ← e5, ← e6]
    exact h1
  rcases hM with ⟨ao, cap, rfl, rfl⟩ | ⟨g, q, cap, rfl, h1, h2, h3⟩
  · cases ao with
    | none =>
      refine wpList_plain hgd fun K hK => ?_
      have hrun := run_append_own_none (w := w) base t o.type 51 i0 6 cap ht hi v _ _ hown
      unfold Oper.wp
      simp [execOp, ho, resolve, invoke, builtin, hs, hx, hrun, Result.andThen]
      exact hK _ _ (h v w (by rw [List.append_nil]; exact hown) ⟨rfl, rfl, rfl, Nat.le_refl _, fun _ _ _ => rfl⟩)
    | some ad => exact key ad 0 cap [] hx rfl (by intro j u hu; simp at hu) (by intro u hu; cases hu) rfl rfl
  · exact key ⟨g, q, none⟩ M.length cap (cellsR M) hx (cellsR_len M) h3.cells (cellsR_one M) rfl rfl

/-- A row's first rules are a row. -/
theorem own_cut {w : World} {base e g n cap i : Nat} {xs : List Value} (h : w.ownsRow base e 6 (.slice (some ⟨g, 0, none⟩) n cap) n xs) (hi : i ≤ n) : w.ownsRow base e 6 (.slice (some ⟨g, 0, none⟩) i cap) i (xs.take (i * 6)) := by
  rcases h.2 with ⟨h', _⟩ | ⟨g', cap', cur, h', hb, hg, hnc, hcm, hcs, htake⟩
  · simp at h'
  · simp only [Value.slice.injEq, Option.some.injEq, Addr.mk.injEq, and_true, true_and] at h'
    obtain ⟨rfl, rfl⟩ := h'
    refine ⟨by rw [List.length_take, h.1]; omega, .inr ⟨g, cap, cur, rfl, hb, hg, by omega, hcm, hcs, ?_⟩⟩
    rw [← htake, List.take_take, Nat.min_eq_left (by omega)]
/-- What is stored behind a row does not matter to it. -/
theorem own_behind {base e g cap i : Nat} : ∀ (vs : List Value) (o : Nat) (w : World) (xs : List Value), w.ownsRow base e 6 (.slice (some ⟨g, 0, none⟩) i cap) i xs → i * 6 ≤ o →
    (w.setCells g o vs).ownsRow base e 6 (.slice (some ⟨g, 0, none⟩) i cap) i xs ∧ w.grownBy (w.setCells g o vs) (some g)
  | [], o, w, xs, h, _ => ⟨h, rfl, rfl, rfl, Nat.le_refl _, fun _ _ _ => rfl⟩
  | v :: vs, o, w, xs, h, ho => by
    have h1 := h.stored o v
    have e1 : xs.set o v = xs := List.set_eq_of_length_le (by rw [h.1]; exact ho)
    rw [e1] at h1
    have h2 := own_behind vs (o + 1) _ xs h1.1 (by omega)
    refine ⟨h2.1, ?_⟩
    exact ⟨h2.2.os.trans h1.2.os, h2.2.tape.trans h1.2.tape, h2.2.output.trans h1.2.output, Nat.le_trans h1.2.size h2.2.size, fun k hk hne => (h2.2.block k (Nat.lt_of_lt_of_le hk h1.2.size) hne).trans (h1.2.block k hk hne)⟩
end Go.Proofs.YtokkmnednhigmaeDoor
/- What slices.Grow of nil and slices.Concat answer at []api.Link. Written by mk/concat.py. -/
namespace Go.Proofs.YtokkmnednhigmaeDoor
open Go.RowKit
set_option linter.unusedSimpArgs false
set_option linter.unusedVariables false

set_option maxHeartbeats 2000000 in
set_option maxRecDepth 100000 in
/-- Grow of nil: a row of the call's own, with nothing in it. -/
theorem lnk_grow_nil (n : Nat) (w : World) (hn : n ≤ 1000) :
    Calls Tryd.prog 59 #[.slice none 0 0, .int .i64 n] w fun e w' => ∃ v, e = .returned v ∧ w'.ownsRow w.heap.size 73 4 v 0 [] ∧ Below w.heap.size w w' := by
  have h1 : ¬ ((n : Int) < 0) := by omega
  by_cases h0 : n = 0
  · subst h0
    go_enter Tryd.func59, Tryd.ntmps59
    go_wp2
    go_ret
    exact ⟨_, rfl, World.ownsRow_nil _ _ _ _, Below.refl _ _⟩
  · obtain ⟨i0, hi, hz0, hz1, hz2⟩ := info_parts lnk_info
    have h3 : wrap64 ((n : Int) - 0) = (n : Int) := by unfold wrap64; omega
    have h4 : (n : Int) > 0 := by omega
    have hrz : ∀ ty, (Builtin.append_ #[22, 3] ty #[.slice none 0 0, .int .i64 n]).run Tryd.prog w =
        .ok (.slice (some ⟨w.heap.size, 0, none⟩) n (grownCap w n 0 73)) (w.drew.alloc (.cells (Builtin.zeroCells (Value.agg #[.int .i64 0, .int .i64 0, .int .i64 0, .int .i64 0]).cells n ++ Builtin.zeroCells (Value.agg #[.int .i64 0, .int .i64 0, .int .i64 0, .int .i64 0]).cells (grownCap w n 0 73 - n)) 73)) := fun ty =>
      Lib.run_append_nil_zeros w 22 3 ty 73 i0 _ .i64 .i64 Tryd.underlying22 Tryd.underlying3 hi hz0 n (by omega) (by rw [hz1]; decide) (by omega) (by rw [hz2]; omega)
    have hGn : n ≤ grownCap w n 0 73 := grownCap_ge w _ _ _
    have hGm : grownCap w n 0 73 ≤ maxLen := grownCap_le_maxLen w n 0 73 (by unfold maxLen; omega)
    generalize grownCap w n 0 73 = G at *
    have HM : Hid (G ≤ maxLen) := hGm
    have hG63 : G ≤ 9223372036854775807 := by unfold maxLen at hGm; omega
    have HO : Hid ((w.drew.alloc (.cells (Builtin.zeroCells (Value.agg #[.int .i64 0, .int .i64 0, .int .i64 0, .int .i64 0]).cells n ++ Builtin.zeroCells (Value.agg #[.int .i64 0, .int .i64 0, .int .i64 0, .int .i64 0]).cells (G - n)) 73)).ownsRow w.heap.size 73 4 (.slice (some ⟨w.heap.size, 0, none⟩) 0 G) 0 []) :=
      World.ownsRow_made w.drew _ G (Nat.le_refl _) HM.out (by
        simp only [Array.size_append, size_zeroCells, lnk_zero, ← Nat.add_mul]
        congr 1
        omega)
    clear hGm
    go_enter Tryd.func59, Tryd.ntmps59
    go_wp2_with (at_builtin; refine Lib.wpList_append_run _ rfl _ _ _ _ rfl _ _ rfl rfl _ _ (hrz _) ?_)
    all_goals (go_ret; exact ⟨_, rfl, HO.out, ((Below.refl _ _).drew).alloc (Nat.le_refl _) _⟩)

/-- These slices lie one behind the other. -/
def lnkPt (w : World) (g o : Nat) (Ls : List (List ((Int × Int) × (Int × Int)))) : Prop := ∀ i (h : i < Ls.length), ∃ ao n cap, w.cell? ⟨g, o + i, none⟩ = some (.slice ao n cap) ∧ GS lnkE w (.slice ao n cap) Ls[i]
theorem lnkPt.later {w w' : World} {g o : Nat} {Ls : List (List ((Int × Int) × (Int × Int)))} (h : lnkPt w g o Ls) (hb : Below w.heap.size w w') : lnkPt w' g o Ls := fun i hi => by
  obtain ⟨ao, n, cap, h1, h2⟩ := h i hi
  exact ⟨ao, n, cap, cell_later hb h1, h2.later hb⟩
theorem lnk_flat_next {Ls : List (List ((Int × Int) × (Int × Int)))} {k : Nat} (hk : k < Ls.length) : (Ls.take (k + 1)).flatten = (Ls.take k).flatten ++ Ls[k] := by
  rw [List.take_succ_eq_append_getElem hk]
  simp only [List.flatten_append, List.flatten_cons, List.flatten_nil, List.append_nil]
theorem lnk_flat_le {Ls : List (List ((Int × Int) × (Int × Int)))} (k : Nat) : (Ls.take k).flatten.length ≤ Ls.flatten.length := by
  have : Ls.flatten = (Ls.take k).flatten ++ (Ls.drop k).flatten := by rw [← List.flatten_append, List.take_append_drop]
  rw [this, List.length_append]
  omega
/-- Appending to a row that a call owns. -/
theorem lnk_append (w : World) {ops : Array Oper} {rest : List Oper} {o : Oper} {a : Act} {Q : Exit → Act → World → Prop} (hgd : o.guard = none) (s x : Operand) (t : TypeId)
    (ho : o.op = .call { callee := .builtin .append, args := #[s, x], argTypes := #[t, t] }) (ht : Tryd.prog.underlying t = some (.slice 73)) (base : Nat)
    (v : Value) (hs : a.eval s = v) (L : List ((Int × Int) × (Int × Int))) (hown : w.ownsRow base 73 4 v L.length (cellsG lnkE L)) (u : Value) (hx : a.eval x = u) (M : List ((Int × Int) × (Int × Int))) (hM : GS lnkE w u M)
    (h100 : L.length + M.length ≤ 1000000) (hbase : base ≤ w.heap.size)
    (h : ∀ v' w', w'.ownsRow base 73 4 v' (L ++ M).length (cellsG lnkE (L ++ M)) → w.grownBy w' v.ownBlock → wpList Tryd.prog ops Q rest (a.put o.dst v') w') : wpList Tryd.prog ops Q (o :: rest) a w := by
  obtain ⟨i0, hi, hz0, hz1, hz2⟩ := info_parts lnk_info
  exact wpList_append_GS (E := lnkE) w hgd s x t 73 ho ht i0 _ 32 hi hz0 hz1 hz2 lnk_zero base v hs L hown u hx M hM (by unfold maxLen; omega) (by omega) hbase h

set_option maxHeartbeats 4000000 in
set_option maxRecDepth 100000 in
theorem lnk_concat (g o m cap : Nat) (Ls : List (List ((Int × Int) × (Int × Int)))) (w : World) (hm : Ls.length = m) (hm2 : m ≤ 1000) (hc : lnkPt w g o Ls) (hs : Ls.flatten.length ≤ 1000) :
    Calls Tryd.prog 40 #[.slice (some ⟨g, o, none⟩) m cap] w fun e w' => ∃ v, e = .returned v ∧ w'.ownsRow w.heap.size 73 4 v Ls.flatten.length (cellsG lnkE Ls.flatten) ∧ Below w.heap.size w w' := by
  have HM : Hid (Ls.length = m) := hm
  have HC : Hid (lnkPt w g o Ls) := hc
  have HS : Hid (Ls.flatten.length ≤ 1000) := hs
  obtain ⟨N, hN⟩ : ∃ N, N = Ls.flatten.length := ⟨_, rfl⟩
  have HN : Hid (N = Ls.flatten.length) := hN
  have hN2 : N ≤ 1000 := by omega
  clear hm hc hs hN
  go_enter Tryd.func40, Tryd.ntmps40
  go_upto_block 0 with fail
  go_cut [3] from 3 (fun z w' => z = .int .i64 (N : Int) ∧ w' = w)
  case first =>
    go_wp2
    go_loopw [3, 11] (fun z i wr => ∃ k : Nat, k ≤ m ∧ i = .int .i64 k ∧ z = .int .i64 ((Ls.take k).flatten.length : Int) ∧ wr = w) (fun _ i _ => m - (intOf i).toNat)
    case atStart => exact ⟨0, by omega, rfl, rfl, rfl⟩
    case round =>
      obtain ⟨k, hk, rfl, rfl, rfl⟩ := hrel
      by_cases hlt : k < m
      · have hkl : k < Ls.length := by rw [HM.out]; exact hlt
        obtain ⟨ao, n, cap2, q0, hsr⟩ := HC.out k hkl
        have HT : Hid ((Ls.take (k + 1)).flatten.length = (Ls.take k).flatten.length + n) := by
          show _ = _
          rw [lnk_flat_next hkl, List.length_append, hsr.len]
        have hb1 : (Ls.take k).flatten.length + n ≤ 1000 := by
          have h1 := lnk_flat_le (Ls := Ls) (k + 1)
          have h2 := HS.out
          have h3 := HT.out
          omega
        generalize (Ls.take k).flatten.length = z at *
        clear hsr
        go_wp2
        go_roundw
        case rel => exact ⟨k + 1, by omega, by go_num, by rw [HT.out]; go_num, by simp⟩
        case measure => simp [intOf]; omega
      · obtain rfl : k = m := by omega
        go_wp2_with fail
        go_meet
        case rel => exact ⟨by rw [← HM.out, List.take_length, HN.out], rfl⟩
  case rest =>
    obtain ⟨rfl, rfl⟩ := hcut
    go_wp2_with fail
    refine (lnk_grow_nil N _ hN2).mono ?_
    rintro e w1 ⟨v, rfl, hown, hB⟩
    have HO : Hid (w1.ownsRow wc.heap.size 73 4 v 0 []) := hown
    have HB : Hid (Below wc.heap.size wc w1) := hB
    clear hown hB
    go_wp2
    go_loopw [6, 27] (fun u i wr => ∃ k : Nat, k ≤ m ∧ i = .int .i64 k ∧ wr.ownsRow wc.heap.size 73 4 u (Ls.take k).flatten.length (cellsG lnkE (Ls.take k).flatten) ∧ Below wc.heap.size wc wr) (fun _ i _ => m - (intOf i).toNat)
    case atStart => exact ⟨0, by omega, rfl, HO.out, HB.out⟩
    case round =>
      obtain ⟨k, hk, rfl, hown, hB⟩ := hrel
      have HOW : Hid (wr.ownsRow wc.heap.size 73 4 u6 (Ls.take k).flatten.length (cellsG lnkE (Ls.take k).flatten)) := hown
      have HBW : Hid (Below wc.heap.size wc wr) := hB
      clear hown
      by_cases hlt : k < m
      · have hkl : k < Ls.length := by rw [HM.out]; exact hlt
        obtain ⟨ao, n, cap2, q0, hsr⟩ := (HC.out.later hB) k hkl
        have HSR : Hid (GS lnkE wr (.slice ao n cap2) Ls[k]) := hsr
        have HL1 : Hid ((Ls.take k).flatten.length + Ls[k].length ≤ 1000000) := by
          have h1 := lnk_flat_le (Ls := Ls) (k + 1)
          rw [lnk_flat_next hkl, List.length_append] at h1
          have h2 := HS.out
          show _ ≤ _
          omega
        clear hsr hB
        go_wp2_with (at_builtin; refine lnk_append _ rfl _ _ 22 rfl Tryd.underlying22 wc.heap.size _ rfl _ HOW.out _ rfl _ HSR.out HL1.out HBW.out.size ?_)
        intro v' w3 hown3 hgrow
        have HO5 : Hid (w3.ownsRow wc.heap.size 73 4 v' (Ls.take (k + 1)).flatten.length (cellsG lnkE (Ls.take (k + 1)).flatten)) := by
          show w3.ownsRow _ _ _ _ _ _
          rw [lnk_flat_next hkl, show ((Ls.take k).flatten ++ Ls[k]).length = (List.take k (List.map List.length Ls)).sum + Ls[k].length by simp]
          exact hown3
        have HB5 : Hid (Below wc.heap.size wc w3) := HBW.out.grown hgrow HBW.out.size (fun g hg => (HOW.out.lt g hg).1)
        clear hown3 hgrow q0
        go_wp2
        go_roundw
        case rel => exact ⟨k + 1, by omega, by go_num, HO5.out, HB5.out⟩
        case measure => simp [intOf]; omega
      · obtain rfl : k = m := by omega
        go_wp2
        go_ret
        refine ⟨_, rfl, ?_, HBW.out⟩
        have := HOW.out
        rw [← HM.out, List.take_length] at this
        exact this
end Go.Proofs.YtokkmnednhigmaeDoor
/- Changes of tables in plain lists: what is wrong with one, what it makes, what is between two. No program in it. -/
namespace Go.Proofs.YtokkmnednhigmaeDoor
open Go.RowKit

/-- Are two rules the same in all? -/
def eqR (a b : Ru) : Bool := decide (a.p = b.p) && (decide (a.m = b.m) && (decide (a.b = b.b) && (decide (a.o = b.o) && (decide (a.s = b.s) && decide (a.v = b.v)))))
theorem eq_R {a b : Ru} : eqR a b = true ↔ a = b := by
  obtain ⟨p, m, b1, o, s, v⟩ := a
  obtain ⟨p', m', b', o', s', v'⟩ := b
  simp [eqR]
theorem eq_no {a b : Ru} : eqR a b = false ↔ a ≠ b := by
  rw [← Bool.not_eq_true, Ne, eq_R]
theorem eq_rf (a : Ru) : eqR a a = true := eq_R.2 rfl
/-- Is a rule in a table? -/
def inB (L : List Ru) (r : Ru) : Bool := L.any (fun a => eqR r a)
theorem in_iff {L : List Ru} {r : Ru} : inB L r = true ↔ r ∈ L := by
  simp only [inB, List.any_eq_true, eq_R]
  exact ⟨fun ⟨x, h, e⟩ => e ▸ h, fun h => ⟨r, h, rfl⟩⟩
/-- The first place of a rule. -/
def ixN (L : List Ru) (r : Ru) : Nat := L.findIdx (fun a => eqR r a)
/-- The rules of the one that the other has not. -/
def bey (A B : List Ru) : List Ru := A.filter (fun r => !inB B r)
/-- Has one of them the Prio and Cube of a rule? -/
def hitB (L : List Ru) (r : Ru) : Bool := L.any (fun a => keyB a r)

/-- The fault of a change of a table and a rule that are right. -/
def chN (L : List Ru) (add : Bool) (r : Ru) : Int := if add then (if hitB L r then 7 else if 12 ≤ L.length then 4 else 0) else (if inB L r then 0 else 5)
/-- What it makes. -/
def chL (L : List Ru) (add : Bool) (r : Ru) : List Ru := if chN L add r = 0 then (if add then L ++ [r] else L.take (ixN L r) ++ L.drop (ixN L r + 1)) else []
/-- The fault of a change. -/
def doN (L : List Ru) (add : Bool) (r : Ru) : Int := if tbN L = 0 then (if r.n = 0 then chN L add r else r.n) else tbN L
def doL (L : List Ru) (add : Bool) (r : Ru) : List Ru := if doN L add r = 0 then chL L add r else []

/-- An op: its switch, whether it adds, its rule. -/
structure Op8 where
  w : Int
  a : Bool
  r : Ru
/-- Op by op. -/
def alN : List Ru → List Op8 → Int
  | _, [] => 0
  | L, o :: l => if doN L o.a o.r = 0 then alN (doL L o.a o.r) l else doN L o.a o.r
def alL : List Ru → List Op8 → List Ru
  | L, [] => L
  | L, o :: l => if doN L o.a o.r = 0 then alL (doL L o.a o.r) l else []
def taken (L : List Ru) : List Op8 := L.map fun r => ⟨0, false, r⟩
def added (L : List Ru) : List Op8 := L.map fun r => ⟨0, true, r⟩
/-- The fault of two tables. -/
def twN (A B : List Ru) : Int := if tbN A = 0 then tbN B else tbN A
def dfL (A B : List Ru) : List Op8 := if twN A B = 0 then taken (bey A B) ++ added (bey B A) else []
def smB (A B : List Ru) : Bool := if twN A B = 0 then (decide (A.length = B.length) && decide ((bey A B).length = 0)) else false

/-- A right table: twelve at most, each right, no two with one Prio and Cube. -/
theorem tb_iff {L : List Ru} : tbN L = 0 ↔ L.length ≤ 12 ∧ (∀ r ∈ L, r.ok = true) ∧ L.Pairwise (fun a b => keyB a b = false) := by
  rw [tb_0, cl_no, okR, List.all_eq_true, List.pairwise_iff_getElem]
  refine and_congr Iff.rfl (and_congr Iff.rfl ⟨fun h i j hi hj hij => ?_, fun h i j hij hj => ?_⟩)
  · have := h i j hij hj
    rw [getD_at hi, getD_at hj] at this
    exact this
  · rw [getD_at (by omega), getD_at hj]
    exact h i j (by omega) hj hij
theorem key_rf (a : Ru) : keyB a a = true := by simp [keyB, ord_rf]
theorem key_sy {a b : Ru} : keyB a b = keyB b a := by
  cases h : keyB b a
  · exact key_sym h
  · cases h2 : keyB a b
    · rw [key_sym h2] at h; cases h
    · rfl
theorem tb_sub {L M : List Ru} (h : tbN L = 0) (hs : M.Sublist L) : tbN M = 0 := by
  rw [tb_iff] at h ⊢
  exact ⟨Nat.le_trans hs.length_le h.1, fun r hr => h.2.1 r (hs.subset hr), h.2.2.sublist hs⟩
theorem tb_one {L : List Ru} {r : Ru} (h : tbN L = 0) (hr : r.ok = true) (hh : hitB L r = false) (hl : L.length < 12) : tbN (L ++ [r]) = 0 := by
  rw [tb_iff] at h ⊢
  refine ⟨by simp; omega, ?_, ?_⟩
  · intro x hx
    rw [List.mem_append, List.mem_singleton] at hx
    rcases hx with hx | rfl
    · exact h.2.1 x hx
    · exact hr
  · rw [List.pairwise_append]
    refine ⟨h.2.2, List.pairwise_singleton _ _, fun a ha b hb => ?_⟩
    rw [List.mem_singleton] at hb
    subst hb
    simp only [hitB, List.any_eq_false] at hh
    simpa using hh a ha
/-- No two of a right table have one Prio and Cube. -/
theorem tb_key {L : List Ru} (h : tbN L = 0) {a b : Ru} (ha : a ∈ L) (hb : b ∈ L) (hk : keyB a b = true) : a = b := by
  rw [tb_iff] at h
  have hp := h.2.2
  clear h
  induction L with
  | nil => cases ha
  | cons x l ih =>
    rw [List.pairwise_cons] at hp
    rcases List.mem_cons.1 ha with e1 | ha1
    · rcases List.mem_cons.1 hb with e2 | hb1
      · rw [e1, e2]
      · rw [e1, hp.1 b hb1] at hk; cases hk
    · rcases List.mem_cons.1 hb with e2 | hb1
      · rw [e2, key_sy, hp.1 a ha1] at hk; cases hk
      · exact ih ha1 hb1 hp.2
theorem tb_nodup {L : List Ru} (h : tbN L = 0) : L.Nodup := by
  rw [tb_iff] at h
  refine h.2.2.imp ?_
  rintro a b hk rfl
  rw [key_rf] at hk
  cases hk

theorem ix_split {L M : List Ru} {r : Ru} (h : r ∉ L) : ixN (L ++ r :: M) r = L.length := by
  induction L with
  | nil => simp [ixN, List.findIdx_cons, eq_rf]
  | cons x l ih =>
    have h1 : eqR r x = false := eq_no.2 (fun e => h (by rw [e]; exact List.mem_cons_self))
    have h2 := ih (fun hm => h (List.mem_cons_of_mem _ hm))
    simp only [ixN] at h2 ⊢
    rw [List.cons_append, List.findIdx_cons, h1, h2]
    rfl
/-- Taking away a rule that is there once. -/
theorem do_take {A B : List Ru} {r : Ru} (h : tbN (A ++ r :: B) = 0) : doN (A ++ r :: B) false r = 0 ∧ doL (A ++ r :: B) false r = A ++ B := by
  have hm : r ∈ A ++ r :: B := by simp
  have hno : r ∉ A := by
    have := tb_nodup h
    rw [List.nodup_append] at this
    intro hA
    exact this.2.2 r hA r (by simp) rfl
  have hr : r.n = 0 := n_ok ((tb_iff.1 h).2.1 r hm)
  have hc : chN (A ++ r :: B) false r = 0 := by simp [chN, in_iff.2 hm]
  have hd : doN (A ++ r :: B) false r = 0 := by rw [doN, if_pos h, if_pos hr, hc]
  refine ⟨hd, ?_⟩
  rw [doL, if_pos hd, chL, if_pos hc, ix_split hno]
  simp
theorem do_add {L : List Ru} {r : Ru} (h : tbN L = 0) (hr : r.ok = true) (hh : hitB L r = false) (hl : L.length < 12) : doN L true r = 0 ∧ doL L true r = L ++ [r] := by
  have hc : chN L true r = 0 := by
    rw [chN, hh]
    simp
    omega
  have hd : doN L true r = 0 := by rw [doN, if_pos h, if_pos (n_ok hr), hc]
  exact ⟨hd, by rw [doL, if_pos hd, chL, if_pos hc]; rfl⟩
/-- What adding asks. -/
theorem add_yes {L : List Ru} {r : Ru} (h : doN L true r = 0) : tbN L = 0 ∧ r.ok = true ∧ hitB L r = false ∧ L.length < 12 := by
  unfold doN at h
  by_cases h1 : tbN L = 0
  · rw [if_pos h1] at h
    by_cases h2 : r.n = 0
    · rw [if_pos h2, chN] at h
      simp only [if_true] at h
      cases h3 : hitB L r
      · rw [h3] at h
        by_cases h4 : 12 ≤ L.length
        · simp [h4] at h
        · exact ⟨h1, ok_n h2, rfl, by omega⟩
      · rw [h3] at h; simp at h
    · rw [if_neg h2] at h; exact absurd h h2
  · rw [if_neg h1] at h; exact absurd h h1

/-- What goes, one by one. -/
theorem al_take (o : List Ru) (ops : List Op8) : ∀ (A B : List Ru), tbN (A ++ B) = 0 → (∀ r ∈ A, inB o r = true) →
    alN (A ++ B) (taken (bey B o) ++ ops) = alN (A ++ B.filter (inB o)) ops ∧ alL (A ++ B) (taken (bey B o) ++ ops) = alL (A ++ B.filter (inB o)) ops := by
  intro A B
  induction B generalizing A with
  | nil => intro _ _; simp [bey, taken]
  | cons r B ih =>
    intro h hA
    cases hi : inB o r
    · have e : bey (r :: B) o = r :: bey B o := by simp [bey, hi]
      have e2 : (r :: B).filter (inB o) = B.filter (inB o) := by simp [hi]
      obtain ⟨d1, d2⟩ := do_take h
      have h2 : tbN (A ++ B) = 0 := tb_sub h (by
        refine List.Sublist.append (List.Sublist.refl _) ?_
        exact List.sublist_cons_self r B)
      have := ih A h2 hA
      rw [e, e2, taken, List.map_cons, List.cons_append, alN, alL]
      simp only [d1, d2, if_true]
      exact this
    · have e : bey (r :: B) o = bey B o := by simp [bey, hi]
      have e2 : (r :: B).filter (inB o) = r :: B.filter (inB o) := by simp [hi]
      have := ih (A ++ [r]) (by rw [List.append_assoc]; exact h) (by
        intro x hx
        rw [List.mem_append, List.mem_singleton] at hx
        rcases hx with hx | rfl
        · exact hA x hx
        · exact hi)
      rw [e, e2]
      rw [List.append_assoc, List.append_assoc] at this
      exact this
/-- What comes, one by one. -/
theorem al_add (o : List Ru) (ho : tbN o = 0) : ∀ (A B : List Ru), tbN A = 0 → (A ++ B).Nodup → (∀ r ∈ A ++ B, r ∈ o) → (A ++ B).length ≤ o.length → alN A (added B) = 0 ∧ alL A (added B) = A ++ B := by
  intro A B
  induction B generalizing A with
  | nil => intro _ _ _ _; simp [added, alN, alL]
  | cons r B ih =>
    intro hA hn hm hl
    have hro : r ∈ o := hm r (by simp)
    have hr : r.ok = true := (tb_iff.1 ho).2.1 r hro
    have hh : hitB A r = false := by
      simp only [hitB, List.any_eq_false]
      intro a ha hk
      have hao : a ∈ o := hm a (by simp [ha])
      have := tb_key ho hao hro hk
      rw [List.nodup_append] at hn
      exact hn.2.2 a ha r (by simp) this
    have hlen : A.length < 12 := by
      have := (tb_iff.1 ho).1
      simp at hl
      omega
    obtain ⟨d1, d2⟩ := do_add hA hr hh hlen
    have e : A ++ r :: B = (A ++ [r]) ++ B := by simp
    have := ih (A ++ [r]) (tb_one hA hr hh hlen) (by rw [← e]; exact hn) (by rw [← e]; exact hm) (by rw [← e]; exact hl)
    rw [added, List.map_cons, alN, alL]
    simp only [d1, d2, if_true]
    rw [e]
    exact this
theorem nodup_sub {M L : List Ru} (hn : M.Nodup) (h : ∀ r ∈ M, r ∈ L) : M.length ≤ L.length := by
  induction M generalizing L with
  | nil => simp
  | cons x m ih =>
    rw [List.nodup_cons] at hn
    obtain ⟨A, B, rfl⟩ := List.append_of_mem (h x (by simp))
    have := ih (L := A ++ B) hn.2 (fun r hr => by
      have := h r (by simp [hr])
      rw [List.mem_append, List.mem_cons] at this
      rw [List.mem_append]
      rcases this with h1 | rfl | h1
      · exact .inl h1
      · exact absurd hr hn.1
      · exact .inr h1)
    simp at this ⊢
    omega
/-- What is between two makes of the one the other. -/
theorem al_diff {A B : List Ru} (h : twN A B = 0) : alN A (dfL A B) = 0 ∧ smB (alL A (dfL A B)) B = true ∧ twN (alL A (dfL A B)) B = 0 := by
  obtain ⟨hA, hB⟩ : tbN A = 0 ∧ tbN B = 0 := by
    unfold twN at h
    by_cases h1 : tbN A = 0
    · rw [if_pos h1] at h; exact ⟨h1, h⟩
    · rw [if_neg h1] at h; exact absurd h h1
  have e1 : dfL A B = taken (bey A B) ++ added (bey B A) := by rw [dfL, if_pos h]
  have h1 := al_take B (added (bey B A)) [] A hA (by simp)
  simp only [List.nil_append] at h1
  have hF : tbN (A.filter (inB B)) = 0 := tb_sub hA List.filter_sublist
  have hnd : (A.filter (inB B) ++ bey B A).Nodup := by
    rw [List.nodup_append]
    refine ⟨(tb_nodup hA).sublist List.filter_sublist, (tb_nodup hB).sublist List.filter_sublist, ?_⟩
    rintro a ha b hb rfl
    rw [List.mem_filter] at ha
    rw [bey, List.mem_filter] at hb
    have := in_iff.2 ha.1
    rw [this] at hb
    simp at hb
  have hmem : ∀ r ∈ A.filter (inB B) ++ bey B A, r ∈ B := by
    intro r hr
    rw [List.mem_append] at hr
    rcases hr with hr | hr
    · exact in_iff.1 (List.mem_filter.1 hr).2
    · exact (List.mem_filter.1 hr).1
  have h2 := al_add B hB (A.filter (inB B)) (bey B A) hF hnd hmem (nodup_sub hnd hmem)
  have hlen : (A.filter (inB B) ++ bey B A).length = B.length := by
    refine Nat.le_antisymm (nodup_sub hnd hmem) (nodup_sub (tb_nodup hB) fun r hr => ?_)
    rw [List.mem_append]
    cases hi : inB A r
    · exact .inr (List.mem_filter.2 ⟨hr, by simp [hi]⟩)
    · exact .inl (List.mem_filter.2 ⟨in_iff.1 hi, in_iff.2 hr⟩)
  have hbey : (bey (A.filter (inB B) ++ bey B A) B) = [] := by
    rw [bey, List.filter_eq_nil_iff]
    intro r hr
    simp [in_iff.2 (hmem r hr)]
  have hT : tbN (A.filter (inB B) ++ bey B A) = 0 := by
    rw [tb_iff]
    refine ⟨by rw [hlen]; exact (tb_iff.1 hB).1, fun r hr => (tb_iff.1 hB).2.1 r (hmem r hr), ?_⟩
    have := hnd
    unfold List.Nodup at this
    refine (List.Pairwise.and_mem.1 this).imp ?_
    rintro a b ⟨ha, hb, hne⟩
    cases hk : keyB a b
    · rfl
    · exact absurd (tb_key hB (hmem a ha) (hmem b hb) hk) hne
  have ht2 : twN (A.filter (inB B) ++ bey B A) B = 0 := by rw [twN, if_pos hT, hB]
  rw [e1, h1.1, h1.2, h2.1, h2.2]
  refine ⟨rfl, ?_, ht2⟩
  rw [smB, if_pos ht2, hlen, hbey]
  simp
/-- A rule that is added and taken away leaves a table as it was, and makes another one meanwhile. -/
theorem do_back {L : List Ru} {r : Ru} (h : doN L true r = 0) : doL L true r = L ++ [r] ∧ doN (L ++ [r]) false r = 0 ∧ doL (L ++ [r]) false r = L ∧ twN (L ++ [r]) L = 0 ∧ smB (L ++ [r]) L = false := by
  obtain ⟨h1, h2, h3, h4⟩ := add_yes h
  have hT := tb_one h1 h2 h3 h4
  have := do_take (A := L) (B := []) (r := r) hT
  rw [List.append_nil] at this
  have h5 : twN (L ++ [r]) L = 0 := by rw [twN, if_pos hT, h1]
  refine ⟨(do_add h1 h2 h3 h4).2, this.1, this.2, h5, ?_⟩
  rw [smB, if_pos h5]
  simp
end Go.Proofs.YtokkmnednhigmaeDoor
/- The struct api.Cube: its cells, slices of them, == of two, such that came in. Written by mk/struct.py. -/
namespace Go.Proofs.YtokkmnednhigmaeDoor
open Go.ChangeShapes Go.WideShapes Go.ChangeAt Go.RowKit Go.Joins
set_option linter.unusedSimpArgs false
set_option linter.unusedVariables false
set_option maxRecDepth 100000

def cuE : Enc (Int × Int) where
  c := fun x => [.int .i64 x.1, .int .i64 x.2]
  n := 2
  len := fun _ => rfl
  pos := by decide
  one := by
    intro x u hu
    simp at hu
    rcases hu with rfl | rfl <;> rfl
theorem cu_cells {w : World} {g o : Nat} {x0 : Int} {x1 : Int} (h : VAt w g o (cuE.c (x0, x1))) : w.cell? ⟨g, o, none⟩ = some (.int .i64 x0) ∧ w.cell? ⟨g, o + 1, none⟩ = some (.int .i64 x1) :=
  ⟨h 0 _ rfl, h 1 _ rfl⟩
theorem cu_at {w : World} {g o : Nat} {L : List (Int × Int)} (h : GAt cuE w g o L) {n k : Nat} (hn : L.length = n) (hk : k < n) :
    ∃ (x0 : Int) (x1 : Int) (hl : k < L.length), L[k] = (x0, x1) ∧ w.cell? ⟨g, o + k * 2, none⟩ = some (.int .i64 x0) ∧ w.cell? ⟨g, o + k * 2 + 1, none⟩ = some (.int .i64 x1) :=
  have hl : k < L.length := by omega
  ⟨_, _, hl, rfl, cu_cells (h k hl)⟩
theorem cu_new (w : World) (x0 : Int) (x1 : Int) (t : TypeId) : VAt (w.alloc (Obj.cells #[.int .i64 x0, .int .i64 x1] t)) w.heap.size 0 (cuE.c (x0, x1)) := vat_new w [.int .i64 x0, .int .i64 x1] t
theorem cu_row (w : World) (x0 : Int) (x1 : Int) (t : TypeId) : GS cuE (w.alloc (Obj.cells #[.int .i64 x0, .int .i64 x1] t)) (.slice (some ⟨w.heap.size, 0, none⟩) 1 1) [(x0, x1)] := gs_one (E := cuE) w (x0, x1) t (vs := [.int .i64 x0, .int .i64 x1]) rfl
/-- Are two the same? -/
def cuB (a b : Int × Int) : Bool := (a.1 == b.1) && ((a.2 == b.2))
theorem cuB_iff (a b : Int × Int) : cuB a b = true ↔ a = b := by
  have e : cuB a b = ((a.1 == b.1) && ((a.2 == b.2))) := rfl
  rw [e]
  simp only [Bool.and_eq_true, beq_iff_eq]
  constructor
  · intro h
    obtain ⟨a0, a1⟩ := a; obtain ⟨b0, b1⟩ := b; simp at h ⊢; simp [h]
  · intro h
    subst h
    simp
theorem cu_ways (x0 : Int) (x1 : Int) (y0 : Int) (y1 : Int) :
    ((x0 == y0) = false ∧ cuB (x0, x1) (y0, y1) = false) ∨
    ((x0 == y0) = true ∧ (x1 == y1) = false ∧ cuB (x0, x1) (y0, y1) = false) ∨
    ((x0 == y0) = true ∧ (x1 == y1) = true ∧ cuB (x0, x1) (y0, y1) = true) := by
  have e : cuB (x0, x1) (y0, y1) = ((x0 == y0) && ((x1 == y1))) := rfl
  rw [e]
  cases h0 : (x0 == y0)
  · simp
  · skip
    cases h1 : (x1 == y1)
    · simp
    · skip
      simp
set_option maxRecDepth 100000 in
theorem cu_eq (x0 : Int) (x1 : Int) (y0 : Int) (y1 : Int) (w : World) : (Op.equal 49 (.agg #[.int .i64 x0, .int .i64 x1]) (.agg #[.int .i64 y0, .int .i64 y1])).run Tryd.prog w = .ok (cuB (x0, x1) (y0, y1)) w := by
  unfold Op.equal Op.maxDepth
  rw [run_equalIn_struct w 9999 _ _ _ (by kernel_rfl) (by kernel_rfl)]
  rcases cu_ways x0 x1 y0 y1 with ⟨e0, e⟩ | ⟨e0, e1, e⟩ | ⟨e0, e1, e⟩
  all_goals
    rw [e]
    go_simp
theorem cu_info : (Tryd.prog.info? 49).map (fun i => (i.zero, i.size, i.bytes)) = some (some (.agg #[.int .i64 0, .int .i64 0]), 2, 16) := by kernel_rfl
theorem cu_zero : (Value.agg #[.int .i64 0, .int .i64 0]).cells.size = 2 := by simp [Value.cells]
/-- Cells that read as one. -/
theorem cu_open {H : Type} {enc : TypeId × Value → H} {W : World} {n : Nat} {cs : List Value} {x : DataW H × List MemPlace}
    (h : DataW.trod enc Tryd.prog W 0 (fun _ => true) true n 49 cs = some x) : ∃ y, cs = cuE.c y := by
  obtain ⟨xs, k, _, _, hl, hlen, hf⟩ := DataW.trod_struct Tryd.underlying49 h
  have hC : Tryd.prog.cellsOf 49 = 2 := by kernel_rfl
  have hT0 : Tryd.prog.cellsOf 3 = 1 := by kernel_rfl
  rw [hC] at hl
  match cs, hl with
  | [c0, c1], _ =>
    match xs, hlen with
    | [z0, z1], _ =>
      have g0 := hf 0 _ rfl
      have g1 := hf 1 _ rfl
      simp [hT0] at g0 g1
      obtain ⟨v0, e0, _, _⟩ := DataW.trod_int Tryd.underlying3 g0
      obtain ⟨v1, e1, _, _⟩ := DataW.trod_int Tryd.underlying3 g1
      simp [] at e0 e1
      refine ⟨(v0, v1), ?_⟩
      simp [cuE, e0, e1]
set_option maxRecDepth 100000 in
/-- One that came in. -/
theorem cu_of {H : Type} {enc : TypeId × Value → H} {W : World} {base : Nat} {v : Value} {d : DataW H} {p : List MemPlace}
    (hv : Value.okWide Tryd.prog W .any base 49 v) (h : DataW.Trod enc Tryd.prog W 0 (fun _ => true) true 49 v d p) : ∃ (x0 : Int) (x1 : Int), v = .agg #[.int .i64 x0, .int .i64 x1] := by
  obtain ⟨cs, rfl, hsz⟩ := okWide_struct Tryd.underlying49 hv
  obtain ⟨n, hn⟩ := h
  obtain ⟨y, e⟩ := cu_open hn
  refine ⟨y.1, y.2, ?_⟩
  simp only [Value.cells] at e
  have e2 : cs = #[.int .i64 y.1, .int .i64 y.2] := by
    rw [← Array.toArray_toList (xs := cs), e]
    rfl
  rw [e2]
end Go.Proofs.YtokkmnednhigmaeDoor
/- The struct api.Rule: its cells, slices of them, == of two, such that came in. Written by mk/struct.py. -/
namespace Go.Proofs.YtokkmnednhigmaeDoor
open Go.ChangeShapes Go.WideShapes Go.ChangeAt Go.RowKit Go.Joins
set_option linter.unusedSimpArgs false
set_option linter.unusedVariables false
set_option maxRecDepth 100000

def rlE : Enc (Ru) where
  c := fun x => [.int .i64 x.p, .int .i64 x.m, .int .i64 x.b, .int .i64 x.o, .int .i64 x.s, .int .i64 x.v]
  n := 6
  len := fun _ => rfl
  pos := by decide
  one := by
    intro x u hu
    simp at hu
    rcases hu with rfl | rfl | rfl | rfl | rfl | rfl <;> rfl
theorem rl_cells {w : World} {g o : Nat} {x0 : Int} {x1 : Int} {x2 : Int} {x3 : Int} {x4 : Int} {x5 : Int} (h : VAt w g o (rlE.c ⟨x0, x1, x2, x3, x4, x5⟩)) : w.cell? ⟨g, o, none⟩ = some (.int .i64 x0) ∧ w.cell? ⟨g, o + 1, none⟩ = some (.int .i64 x1) ∧ w.cell? ⟨g, o + 2, none⟩ = some (.int .i64 x2) ∧ w.cell? ⟨g, o + 3, none⟩ = some (.int .i64 x3) ∧ w.cell? ⟨g, o + 4, none⟩ = some (.int .i64 x4) ∧ w.cell? ⟨g, o + 5, none⟩ = some (.int .i64 x5) :=
  ⟨h 0 _ rfl, h 1 _ rfl, h 2 _ rfl, h 3 _ rfl, h 4 _ rfl, h 5 _ rfl⟩
theorem rl_at {w : World} {g o : Nat} {L : List (Ru)} (h : GAt rlE w g o L) {n k : Nat} (hn : L.length = n) (hk : k < n) :
    ∃ (x0 : Int) (x1 : Int) (x2 : Int) (x3 : Int) (x4 : Int) (x5 : Int) (hl : k < L.length), L[k] = ⟨x0, x1, x2, x3, x4, x5⟩ ∧ w.cell? ⟨g, o + k * 6, none⟩ = some (.int .i64 x0) ∧ w.cell? ⟨g, o + k * 6 + 1, none⟩ = some (.int .i64 x1) ∧ w.cell? ⟨g, o + k * 6 + 2, none⟩ = some (.int .i64 x2) ∧ w.cell? ⟨g, o + k * 6 + 3, none⟩ = some (.int .i64 x3) ∧ w.cell? ⟨g, o + k * 6 + 4, none⟩ = some (.int .i64 x4) ∧ w.cell? ⟨g, o + k * 6 + 5, none⟩ = some (.int .i64 x5) :=
  have hl : k < L.length := by omega
  ⟨_, _, _, _, _, _, hl, rfl, rl_cells (h k hl)⟩
theorem rl_new (w : World) (x0 : Int) (x1 : Int) (x2 : Int) (x3 : Int) (x4 : Int) (x5 : Int) (t : TypeId) : VAt (w.alloc (Obj.cells #[.int .i64 x0, .int .i64 x1, .int .i64 x2, .int .i64 x3, .int .i64 x4, .int .i64 x5] t)) w.heap.size 0 (rlE.c ⟨x0, x1, x2, x3, x4, x5⟩) := vat_new w [.int .i64 x0, .int .i64 x1, .int .i64 x2, .int .i64 x3, .int .i64 x4, .int .i64 x5] t
theorem rl_row (w : World) (x0 : Int) (x1 : Int) (x2 : Int) (x3 : Int) (x4 : Int) (x5 : Int) (t : TypeId) : GS rlE (w.alloc (Obj.cells #[.int .i64 x0, .int .i64 x1, .int .i64 x2, .int .i64 x3, .int .i64 x4, .int .i64 x5] t)) (.slice (some ⟨w.heap.size, 0, none⟩) 1 1) [⟨x0, x1, x2, x3, x4, x5⟩] := gs_one (E := rlE) w ⟨x0, x1, x2, x3, x4, x5⟩ t (vs := [.int .i64 x0, .int .i64 x1, .int .i64 x2, .int .i64 x3, .int .i64 x4, .int .i64 x5]) rfl
/-- Are two the same? -/
def rlB (a b : Ru) : Bool := (a.p == b.p) && ((a.m == b.m) && ((a.b == b.b) && ((a.o == b.o) && ((a.s == b.s) && ((a.v == b.v))))))
theorem rlB_iff (a b : Ru) : rlB a b = true ↔ a = b := by
  have e : rlB a b = ((a.p == b.p) && ((a.m == b.m) && ((a.b == b.b) && ((a.o == b.o) && ((a.s == b.s) && ((a.v == b.v))))))) := rfl
  rw [e]
  simp only [Bool.and_eq_true, beq_iff_eq]
  constructor
  · intro h
    obtain ⟨a0, a1, a2, a3, a4, a5⟩ := a; obtain ⟨b0, b1, b2, b3, b4, b5⟩ := b; simp at h ⊢; simp [h]
  · intro h
    subst h
    simp
theorem rl_ways (x0 : Int) (x1 : Int) (x2 : Int) (x3 : Int) (x4 : Int) (x5 : Int) (y0 : Int) (y1 : Int) (y2 : Int) (y3 : Int) (y4 : Int) (y5 : Int) :
    ((x0 == y0) = false ∧ rlB ⟨x0, x1, x2, x3, x4, x5⟩ ⟨y0, y1, y2, y3, y4, y5⟩ = false) ∨
    ((x0 == y0) = true ∧ (x1 == y1) = false ∧ rlB ⟨x0, x1, x2, x3, x4, x5⟩ ⟨y0, y1, y2, y3, y4, y5⟩ = false) ∨
    ((x0 == y0) = true ∧ (x1 == y1) = true ∧ (x2 == y2) = false ∧ rlB ⟨x0, x1, x2, x3, x4, x5⟩ ⟨y0, y1, y2, y3, y4, y5⟩ = false) ∨
    ((x0 == y0) = true ∧ (x1 == y1) = true ∧ (x2 == y2) = true ∧ (x3 == y3) = false ∧ rlB ⟨x0, x1, x2, x3, x4, x5⟩ ⟨y0, y1, y2, y3, y4, y5⟩ = false) ∨
    ((x0 == y0) = true ∧ (x1 == y1) = true ∧ (x2 == y2) = true ∧ (x3 == y3) = true ∧ (x4 == y4) = false ∧ rlB ⟨x0, x1, x2, x3, x4, x5⟩ ⟨y0, y1, y2, y3, y4, y5⟩ = false) ∨
    ((x0 == y0) = true ∧ (x1 == y1) = true ∧ (x2 == y2) = true ∧ (x3 == y3) = true ∧ (x4 == y4) = true ∧ (x5 == y5) = false ∧ rlB ⟨x0, x1, x2, x3, x4, x5⟩ ⟨y0, y1, y2, y3, y4, y5⟩ = false) ∨
    ((x0 == y0) = true ∧ (x1 == y1) = true ∧ (x2 == y2) = true ∧ (x3 == y3) = true ∧ (x4 == y4) = true ∧ (x5 == y5) = true ∧ rlB ⟨x0, x1, x2, x3, x4, x5⟩ ⟨y0, y1, y2, y3, y4, y5⟩ = true) := by
  have e : rlB ⟨x0, x1, x2, x3, x4, x5⟩ ⟨y0, y1, y2, y3, y4, y5⟩ = ((x0 == y0) && ((x1 == y1) && ((x2 == y2) && ((x3 == y3) && ((x4 == y4) && ((x5 == y5))))))) := rfl
  rw [e]
  cases h0 : (x0 == y0)
  · simp
  · skip
    cases h1 : (x1 == y1)
    · simp
    · skip
      cases h2 : (x2 == y2)
      · simp
      · skip
        cases h3 : (x3 == y3)
        · simp
        · skip
          cases h4 : (x4 == y4)
          · simp
          · skip
            cases h5 : (x5 == y5)
            · simp
            · skip
              simp
set_option maxRecDepth 100000 in
theorem rl_eq (x0 : Int) (x1 : Int) (x2 : Int) (x3 : Int) (x4 : Int) (x5 : Int) (y0 : Int) (y1 : Int) (y2 : Int) (y3 : Int) (y4 : Int) (y5 : Int) (w : World) : (Op.equal 51 (.agg #[.int .i64 x0, .int .i64 x1, .int .i64 x2, .int .i64 x3, .int .i64 x4, .int .i64 x5]) (.agg #[.int .i64 y0, .int .i64 y1, .int .i64 y2, .int .i64 y3, .int .i64 y4, .int .i64 y5])).run Tryd.prog w = .ok (rlB ⟨x0, x1, x2, x3, x4, x5⟩ ⟨y0, y1, y2, y3, y4, y5⟩) w := by
  unfold Op.equal Op.maxDepth
  rw [run_equalIn_struct w 9999 _ _ _ (by kernel_rfl) (by kernel_rfl)]
  rcases rl_ways x0 x1 x2 x3 x4 x5 y0 y1 y2 y3 y4 y5 with ⟨e0, e⟩ | ⟨e0, e1, e⟩ | ⟨e0, e1, e2, e⟩ | ⟨e0, e1, e2, e3, e⟩ | ⟨e0, e1, e2, e3, e4, e⟩ | ⟨e0, e1, e2, e3, e4, e5, e⟩ | ⟨e0, e1, e2, e3, e4, e5, e⟩
  all_goals
    rw [e]
    go_simp
theorem rl_info : (Tryd.prog.info? 51).map (fun i => (i.zero, i.size, i.bytes)) = some (some (.agg #[.int .i64 0, .int .i64 0, .int .i64 0, .int .i64 0, .int .i64 0, .int .i64 0]), 6, 48) := by kernel_rfl
theorem rl_zero : (Value.agg #[.int .i64 0, .int .i64 0, .int .i64 0, .int .i64 0, .int .i64 0, .int .i64 0]).cells.size = 6 := by simp [Value.cells]
/-- Cells that read as one. -/
theorem rl_open {H : Type} {enc : TypeId × Value → H} {W : World} {n : Nat} {cs : List Value} {x : DataW H × List MemPlace}
    (h : DataW.trod enc Tryd.prog W 0 (fun _ => true) true n 51 cs = some x) : ∃ y, cs = rlE.c y := by
  obtain ⟨xs, k, _, _, hl, hlen, hf⟩ := DataW.trod_struct Tryd.underlying51 h
  have hC : Tryd.prog.cellsOf 51 = 6 := by kernel_rfl
  have hT0 : Tryd.prog.cellsOf 3 = 1 := by kernel_rfl
  have hT1 : Tryd.prog.cellsOf 49 = 2 := by kernel_rfl
  rw [hC] at hl
  match cs, hl with
  | [c0, c1, c2, c3, c4, c5], _ =>
    match xs, hlen with
    | [z0, z1, z2, z3, z4], _ =>
      have g0 := hf 0 _ rfl
      have g1 := hf 1 _ rfl
      have g2 := hf 2 _ rfl
      have g3 := hf 3 _ rfl
      have g4 := hf 4 _ rfl
      simp [hT0, hT1] at g0 g1 g2 g3 g4
      obtain ⟨v0, e0, _, _⟩ := DataW.trod_int Tryd.underlying3 g0
      obtain ⟨s1, e1⟩ := cu_open g1
      obtain ⟨v3, e2, _, _⟩ := DataW.trod_int Tryd.underlying3 g2
      obtain ⟨v4, e3, _, _⟩ := DataW.trod_int Tryd.underlying3 g3
      obtain ⟨v5, e4, _, _⟩ := DataW.trod_int Tryd.underlying3 g4
      simp [cuE] at e0 e1 e2 e3 e4
      refine ⟨⟨v0, s1.1, s1.2, v3, v4, v5⟩, ?_⟩
      simp [rlE, e0, e1, e2, e3, e4]
set_option maxRecDepth 100000 in
/-- One that came in. -/
theorem rl_of {H : Type} {enc : TypeId × Value → H} {W : World} {base : Nat} {v : Value} {d : DataW H} {p : List MemPlace}
    (hv : Value.okWide Tryd.prog W .any base 51 v) (h : DataW.Trod enc Tryd.prog W 0 (fun _ => true) true 51 v d p) : ∃ (x0 : Int) (x1 : Int) (x2 : Int) (x3 : Int) (x4 : Int) (x5 : Int), v = .agg #[.int .i64 x0, .int .i64 x1, .int .i64 x2, .int .i64 x3, .int .i64 x4, .int .i64 x5] := by
  obtain ⟨cs, rfl, hsz⟩ := okWide_struct Tryd.underlying51 hv
  obtain ⟨n, hn⟩ := h
  obtain ⟨y, e⟩ := rl_open hn
  refine ⟨y.p, y.m, y.b, y.o, y.s, y.v, ?_⟩
  simp only [Value.cells] at e
  have e2 : cs = #[.int .i64 y.p, .int .i64 y.m, .int .i64 y.b, .int .i64 y.o, .int .i64 y.s, .int .i64 y.v] := by
    rw [← Array.toArray_toList (xs := cs), e]
    rfl
  rw [e2]
/-- A slice of them that came in. -/
theorem rls_of {H : Type} {enc : TypeId × Value → H} {W : World} {base : Nat} {v : Value} {d : DataW H} {p : List MemPlace}
    (hv : Value.okWide Tryd.prog W .any base 58 v) (h : DataW.Trod enc Tryd.prog W 0 (fun _ => true) true 58 v d p) : ∃ L, GS rlE W v L :=
  gs_of (E := rlE) 58 51 Tryd.underlying58 (by kernel_rfl) ⟨0, 0, 0, 0, 0, 0⟩ (fun _ _ _ h => rl_open h) hv h
end Go.Proofs.YtokkmnednhigmaeDoor
/- The struct api.Op: its cells, slices of them, == of two, such that came in. Written by mk/struct.py. -/
namespace Go.Proofs.YtokkmnednhigmaeDoor
open Go.ChangeShapes Go.WideShapes Go.ChangeAt Go.RowKit Go.Joins
set_option linter.unusedSimpArgs false
set_option linter.unusedVariables false
set_option maxRecDepth 100000

def opE : Enc (Op8) where
  c := fun x => [.int .i64 x.w, .bool x.a, .int .i64 x.r.p, .int .i64 x.r.m, .int .i64 x.r.b, .int .i64 x.r.o, .int .i64 x.r.s, .int .i64 x.r.v]
  n := 8
  len := fun _ => rfl
  pos := by decide
  one := by
    intro x u hu
    simp at hu
    rcases hu with rfl | rfl | rfl | rfl | rfl | rfl | rfl | rfl <;> rfl
theorem op_cells {w : World} {g o : Nat} {x0 : Int} {x1 : Bool} {x2 : Int} {x3 : Int} {x4 : Int} {x5 : Int} {x6 : Int} {x7 : Int} (h : VAt w g o (opE.c ⟨x0, x1, ⟨x2, x3, x4, x5, x6, x7⟩⟩)) : w.cell? ⟨g, o, none⟩ = some (.int .i64 x0) ∧ w.cell? ⟨g, o + 1, none⟩ = some (.bool x1) ∧ w.cell? ⟨g, o + 2, none⟩ = some (.int .i64 x2) ∧ w.cell? ⟨g, o + 3, none⟩ = some (.int .i64 x3) ∧ w.cell? ⟨g, o + 4, none⟩ = some (.int .i64 x4) ∧ w.cell? ⟨g, o + 5, none⟩ = some (.int .i64 x5) ∧ w.cell? ⟨g, o + 6, none⟩ = some (.int .i64 x6) ∧ w.cell? ⟨g, o + 7, none⟩ = some (.int .i64 x7) :=
  ⟨h 0 _ rfl, h 1 _ rfl, h 2 _ rfl, h 3 _ rfl, h 4 _ rfl, h 5 _ rfl, h 6 _ rfl, h 7 _ rfl⟩
theorem op_at {w : World} {g o : Nat} {L : List (Op8)} (h : GAt opE w g o L) {n k : Nat} (hn : L.length = n) (hk : k < n) :
    ∃ (x0 : Int) (x1 : Bool) (x2 : Int) (x3 : Int) (x4 : Int) (x5 : Int) (x6 : Int) (x7 : Int) (hl : k < L.length), L[k] = ⟨x0, x1, ⟨x2, x3, x4, x5, x6, x7⟩⟩ ∧ w.cell? ⟨g, o + k * 8, none⟩ = some (.int .i64 x0) ∧ w.cell? ⟨g, o + k * 8 + 1, none⟩ = some (.bool x1) ∧ w.cell? ⟨g, o + k * 8 + 2, none⟩ = some (.int .i64 x2) ∧ w.cell? ⟨g, o + k * 8 + 3, none⟩ = some (.int .i64 x3) ∧ w.cell? ⟨g, o + k * 8 + 4, none⟩ = some (.int .i64 x4) ∧ w.cell? ⟨g, o + k * 8 + 5, none⟩ = some (.int .i64 x5) ∧ w.cell? ⟨g, o + k * 8 + 6, none⟩ = some (.int .i64 x6) ∧ w.cell? ⟨g, o + k * 8 + 7, none⟩ = some (.int .i64 x7) :=
  have hl : k < L.length := by omega
  ⟨_, _, _, _, _, _, _, _, hl, rfl, op_cells (h k hl)⟩
theorem op_new (w : World) (x0 : Int) (x1 : Bool) (x2 : Int) (x3 : Int) (x4 : Int) (x5 : Int) (x6 : Int) (x7 : Int) (t : TypeId) : VAt (w.alloc (Obj.cells #[.int .i64 x0, .bool x1, .int .i64 x2, .int .i64 x3, .int .i64 x4, .int .i64 x5, .int .i64 x6, .int .i64 x7] t)) w.heap.size 0 (opE.c ⟨x0, x1, ⟨x2, x3, x4, x5, x6, x7⟩⟩) := vat_new w [.int .i64 x0, .bool x1, .int .i64 x2, .int .i64 x3, .int .i64 x4, .int .i64 x5, .int .i64 x6, .int .i64 x7] t
theorem op_row (w : World) (x0 : Int) (x1 : Bool) (x2 : Int) (x3 : Int) (x4 : Int) (x5 : Int) (x6 : Int) (x7 : Int) (t : TypeId) : GS opE (w.alloc (Obj.cells #[.int .i64 x0, .bool x1, .int .i64 x2, .int .i64 x3, .int .i64 x4, .int .i64 x5, .int .i64 x6, .int .i64 x7] t)) (.slice (some ⟨w.heap.size, 0, none⟩) 1 1) [⟨x0, x1, ⟨x2, x3, x4, x5, x6, x7⟩⟩] := gs_one (E := opE) w ⟨x0, x1, ⟨x2, x3, x4, x5, x6, x7⟩⟩ t (vs := [.int .i64 x0, .bool x1, .int .i64 x2, .int .i64 x3, .int .i64 x4, .int .i64 x5, .int .i64 x6, .int .i64 x7]) rfl
/-- Are two the same? -/
def opB (a b : Op8) : Bool := (a.w == b.w) && ((a.a == b.a) && ((a.r.p == b.r.p) && ((a.r.m == b.r.m) && ((a.r.b == b.r.b) && ((a.r.o == b.r.o) && ((a.r.s == b.r.s) && ((a.r.v == b.r.v))))))))
theorem opB_iff (a b : Op8) : opB a b = true ↔ a = b := by
  have e : opB a b = ((a.w == b.w) && ((a.a == b.a) && ((a.r.p == b.r.p) && ((a.r.m == b.r.m) && ((a.r.b == b.r.b) && ((a.r.o == b.r.o) && ((a.r.s == b.r.s) && ((a.r.v == b.r.v))))))))) := rfl
  rw [e]
  simp only [Bool.and_eq_true, beq_iff_eq]
  constructor
  · intro h
    obtain ⟨a0, a1, ⟨a2, a3, a4, a5, a6, a7⟩⟩ := a; obtain ⟨b0, b1, ⟨b2, b3, b4, b5, b6, b7⟩⟩ := b; simp at h ⊢; simp [h]
  · intro h
    subst h
    simp
theorem op_ways (x0 : Int) (x1 : Bool) (x2 : Int) (x3 : Int) (x4 : Int) (x5 : Int) (x6 : Int) (x7 : Int) (y0 : Int) (y1 : Bool) (y2 : Int) (y3 : Int) (y4 : Int) (y5 : Int) (y6 : Int) (y7 : Int) :
    ((x0 == y0) = false ∧ opB ⟨x0, x1, ⟨x2, x3, x4, x5, x6, x7⟩⟩ ⟨y0, y1, ⟨y2, y3, y4, y5, y6, y7⟩⟩ = false) ∨
    ((x0 == y0) = true ∧ (x1 == y1) = false ∧ opB ⟨x0, x1, ⟨x2, x3, x4, x5, x6, x7⟩⟩ ⟨y0, y1, ⟨y2, y3, y4, y5, y6, y7⟩⟩ = false) ∨
    ((x0 == y0) = true ∧ (x1 == y1) = true ∧ (x2 == y2) = false ∧ opB ⟨x0, x1, ⟨x2, x3, x4, x5, x6, x7⟩⟩ ⟨y0, y1, ⟨y2, y3, y4, y5, y6, y7⟩⟩ = false) ∨
    ((x0 == y0) = true ∧ (x1 == y1) = true ∧ (x2 == y2) = true ∧ (x3 == y3) = false ∧ opB ⟨x0, x1, ⟨x2, x3, x4, x5, x6, x7⟩⟩ ⟨y0, y1, ⟨y2, y3, y4, y5, y6, y7⟩⟩ = false) ∨
    ((x0 == y0) = true ∧ (x1 == y1) = true ∧ (x2 == y2) = true ∧ (x3 == y3) = true ∧ (x4 == y4) = false ∧ opB ⟨x0, x1, ⟨x2, x3, x4, x5, x6, x7⟩⟩ ⟨y0, y1, ⟨y2, y3, y4, y5, y6, y7⟩⟩ = false) ∨
    ((x0 == y0) = true ∧ (x1 == y1) = true ∧ (x2 == y2) = true ∧ (x3 == y3) = true ∧ (x4 == y4) = true ∧ (x5 == y5) = false ∧ opB ⟨x0, x1, ⟨x2, x3, x4, x5, x6, x7⟩⟩ ⟨y0, y1, ⟨y2, y3, y4, y5, y6, y7⟩⟩ = false) ∨
    ((x0 == y0) = true ∧ (x1 == y1) = true ∧ (x2 == y2) = true ∧ (x3 == y3) = true ∧ (x4 == y4) = true ∧ (x5 == y5) = true ∧ (x6 == y6) = false ∧ opB ⟨x0, x1, ⟨x2, x3, x4, x5, x6, x7⟩⟩ ⟨y0, y1, ⟨y2, y3, y4, y5, y6, y7⟩⟩ = false) ∨
    ((x0 == y0) = true ∧ (x1 == y1) = true ∧ (x2 == y2) = true ∧ (x3 == y3) = true ∧ (x4 == y4) = true ∧ (x5 == y5) = true ∧ (x6 == y6) = true ∧ (x7 == y7) = false ∧ opB ⟨x0, x1, ⟨x2, x3, x4, x5, x6, x7⟩⟩ ⟨y0, y1, ⟨y2, y3, y4, y5, y6, y7⟩⟩ = false) ∨
    ((x0 == y0) = true ∧ (x1 == y1) = true ∧ (x2 == y2) = true ∧ (x3 == y3) = true ∧ (x4 == y4) = true ∧ (x5 == y5) = true ∧ (x6 == y6) = true ∧ (x7 == y7) = true ∧ opB ⟨x0, x1, ⟨x2, x3, x4, x5, x6, x7⟩⟩ ⟨y0, y1, ⟨y2, y3, y4, y5, y6, y7⟩⟩ = true) := by
  have e : opB ⟨x0, x1, ⟨x2, x3, x4, x5, x6, x7⟩⟩ ⟨y0, y1, ⟨y2, y3, y4, y5, y6, y7⟩⟩ = ((x0 == y0) && ((x1 == y1) && ((x2 == y2) && ((x3 == y3) && ((x4 == y4) && ((x5 == y5) && ((x6 == y6) && ((x7 == y7))))))))) := rfl
  rw [e]
  cases h0 : (x0 == y0)
  · simp
  · skip
    cases h1 : (x1 == y1)
    · simp
    · skip
      cases h2 : (x2 == y2)
      · simp
      · skip
        cases h3 : (x3 == y3)
        · simp
        · skip
          cases h4 : (x4 == y4)
          · simp
          · skip
            cases h5 : (x5 == y5)
            · simp
            · skip
              cases h6 : (x6 == y6)
              · simp
              · skip
                cases h7 : (x7 == y7)
                · simp
                · skip
                  simp
set_option maxRecDepth 100000 in
theorem op_eq (x0 : Int) (x1 : Bool) (x2 : Int) (x3 : Int) (x4 : Int) (x5 : Int) (x6 : Int) (x7 : Int) (y0 : Int) (y1 : Bool) (y2 : Int) (y3 : Int) (y4 : Int) (y5 : Int) (y6 : Int) (y7 : Int) (w : World) : (Op.equal 53 (.agg #[.int .i64 x0, .bool x1, .int .i64 x2, .int .i64 x3, .int .i64 x4, .int .i64 x5, .int .i64 x6, .int .i64 x7]) (.agg #[.int .i64 y0, .bool y1, .int .i64 y2, .int .i64 y3, .int .i64 y4, .int .i64 y5, .int .i64 y6, .int .i64 y7])).run Tryd.prog w = .ok (opB ⟨x0, x1, ⟨x2, x3, x4, x5, x6, x7⟩⟩ ⟨y0, y1, ⟨y2, y3, y4, y5, y6, y7⟩⟩) w := by
  unfold Op.equal Op.maxDepth
  rw [run_equalIn_struct w 9999 _ _ _ (by kernel_rfl) (by kernel_rfl)]
  rcases op_ways x0 x1 x2 x3 x4 x5 x6 x7 y0 y1 y2 y3 y4 y5 y6 y7 with ⟨e0, e⟩ | ⟨e0, e1, e⟩ | ⟨e0, e1, e2, e⟩ | ⟨e0, e1, e2, e3, e⟩ | ⟨e0, e1, e2, e3, e4, e⟩ | ⟨e0, e1, e2, e3, e4, e5, e⟩ | ⟨e0, e1, e2, e3, e4, e5, e6, e⟩ | ⟨e0, e1, e2, e3, e4, e5, e6, e7, e⟩ | ⟨e0, e1, e2, e3, e4, e5, e6, e7, e⟩
  all_goals
    rw [e]
    go_simp
theorem op_info : (Tryd.prog.info? 53).map (fun i => (i.zero, i.size, i.bytes)) = some (some (.agg #[.int .i64 0, .bool false, .int .i64 0, .int .i64 0, .int .i64 0, .int .i64 0, .int .i64 0, .int .i64 0]), 8, 64) := by kernel_rfl
theorem op_zero : (Value.agg #[.int .i64 0, .bool false, .int .i64 0, .int .i64 0, .int .i64 0, .int .i64 0, .int .i64 0, .int .i64 0]).cells.size = 8 := by simp [Value.cells]
/-- Cells that read as one. -/
theorem op_open {H : Type} {enc : TypeId × Value → H} {W : World} {n : Nat} {cs : List Value} {x : DataW H × List MemPlace}
    (h : DataW.trod enc Tryd.prog W 0 (fun _ => true) true n 53 cs = some x) : ∃ y, cs = opE.c y := by
  obtain ⟨xs, k, _, _, hl, hlen, hf⟩ := DataW.trod_struct Tryd.underlying53 h
  have hC : Tryd.prog.cellsOf 53 = 8 := by kernel_rfl
  have hT0 : Tryd.prog.cellsOf 3 = 1 := by kernel_rfl
  have hT1 : Tryd.prog.cellsOf 4 = 1 := by kernel_rfl
  have hT2 : Tryd.prog.cellsOf 51 = 6 := by kernel_rfl
  rw [hC] at hl
  match cs, hl with
  | [c0, c1, c2, c3, c4, c5, c6, c7], _ =>
    match xs, hlen with
    | [z0, z1, z2], _ =>
      have g0 := hf 0 _ rfl
      have g1 := hf 1 _ rfl
      have g2 := hf 2 _ rfl
      simp [hT0, hT1, hT2] at g0 g1 g2
      obtain ⟨v0, e0, _, _⟩ := DataW.trod_int Tryd.underlying3 g0
      obtain ⟨v1, e1, _⟩ := DataW.trod_bool Tryd.underlying4 g1
      obtain ⟨s2, e2⟩ := rl_open g2
      simp [rlE] at e0 e1 e2
      refine ⟨⟨v0, v1, ⟨s2.p, s2.m, s2.b, s2.o, s2.s, s2.v⟩⟩, ?_⟩
      simp [opE, e0, e1, e2]
set_option maxRecDepth 100000 in
/-- One that came in. -/
theorem op_of {H : Type} {enc : TypeId × Value → H} {W : World} {base : Nat} {v : Value} {d : DataW H} {p : List MemPlace}
    (hv : Value.okWide Tryd.prog W .any base 53 v) (h : DataW.Trod enc Tryd.prog W 0 (fun _ => true) true 53 v d p) : ∃ (x0 : Int) (x1 : Bool) (x2 : Int) (x3 : Int) (x4 : Int) (x5 : Int) (x6 : Int) (x7 : Int), v = .agg #[.int .i64 x0, .bool x1, .int .i64 x2, .int .i64 x3, .int .i64 x4, .int .i64 x5, .int .i64 x6, .int .i64 x7] := by
  obtain ⟨cs, rfl, hsz⟩ := okWide_struct Tryd.underlying53 hv
  obtain ⟨n, hn⟩ := h
  obtain ⟨y, e⟩ := op_open hn
  refine ⟨y.w, y.a, y.r.p, y.r.m, y.r.b, y.r.o, y.r.s, y.r.v, ?_⟩
  simp only [Value.cells] at e
  have e2 : cs = #[.int .i64 y.w, .bool y.a, .int .i64 y.r.p, .int .i64 y.r.m, .int .i64 y.r.b, .int .i64 y.r.o, .int .i64 y.r.s, .int .i64 y.r.v] := by
    rw [← Array.toArray_toList (xs := cs), e]
    rfl
  rw [e2]
/-- A slice of them that came in. -/
theorem ops_of {H : Type} {enc : TypeId × Value → H} {W : World} {base : Nat} {v : Value} {d : DataW H} {p : List MemPlace}
    (hv : Value.okWide Tryd.prog W .any base 29 v) (h : DataW.Trod enc Tryd.prog W 0 (fun _ => true) true 29 v d p) : ∃ L, GS opE W v L :=
  gs_of (E := opE) 29 53 Tryd.underlying29 (by kernel_rfl) ⟨0, false, ⟨0, 0, 0, 0, 0, 0⟩⟩ (fun _ _ _ h => op_open h) hv h
end Go.Proofs.YtokkmnednhigmaeDoor
/- Classes of numbers by what a function says of them, in plain lists. No program in it. -/
namespace Go.Proofs.YtokkmnednhigmaeDoor
open Go.RowKit
set_option linter.unusedVariables false

/-- The place of the class of k among what was said of the classes so far; -1: none. -/
def ixC (f : Int → List Int) (k : Int) (Ps : List (List Int)) : Int := ixG (fun p => p == f k) Ps
/-- The classes of the first k numbers, and what the function says of each. -/
def kcTo (f : Int → List Int) : Nat → List (List Int) × List (List Int)
  | 0 => ([], [])
  | k + 1 =>
    if ixC f k (kcTo f k).2 < 0 then ((kcTo f k).1 ++ [[(k : Int)]], (kcTo f k).2 ++ [f k])
    else ((kcTo f k).1.set (ixC f k (kcTo f k).2).toNat ((kcTo f k).1.getD (ixC f k (kcTo f k).2).toNat [] ++ [(k : Int)]), (kcTo f k).2)
theorem ixG_lt {α : Type} {q : α → Bool} {L : List α} (h : 0 ≤ ixG q L) : (ixG q L).toNat < L.length ∧ ∀ (hl : (ixG q L).toNat < L.length), q L[(ixG q L).toNat] = true := by
  unfold ixG at h ⊢
  cases e : L.any q
  · rw [e] at h
    simp at h
  · simp only [if_true, Int.toNat_natCast]
    have h1 : ∃ x, x ∈ L ∧ q x = true := by
      rw [List.any_eq_true] at e
      exact e
    have h2 := List.findIdx_lt_length.2 h1
    exact ⟨h2, fun hl => List.findIdx_getElem (w := hl)⟩
theorem ixG_neg {α : Type} {q : α → Bool} {L : List α} (h : ixG q L < 0) : ∀ x ∈ L, q x = false := by
  unfold ixG at h
  cases e : L.any q
  · rw [List.any_eq_false] at e
    intro x hx
    simpa using e x hx
  · rw [e] at h
    simp at h
    omega
theorem kc_yes {f : Int → List Int} {k : Nat} (h : ixC f k (kcTo f k).2 < 0) : kcTo f (k + 1) = ((kcTo f k).1 ++ [[(k : Int)]], (kcTo f k).2 ++ [f k]) := by rw [kcTo, if_pos h]
theorem kc_no {f : Int → List Int} {k : Nat} (h : ¬ ixC f k (kcTo f k).2 < 0) : kcTo f (k + 1) = ((kcTo f k).1.set (ixC f k (kcTo f k).2).toNat ((kcTo f k).1.getD (ixC f k (kcTo f k).2).toNat [] ++ [(k : Int)]), (kcTo f k).2) := by rw [kcTo, if_neg h]
theorem kc_len (f : Int → List Int) : ∀ k : Nat, (kcTo f k).1.length = (kcTo f k).2.length ∧ (kcTo f k).2.length ≤ k
  | 0 => by simp [kcTo]
  | k + 1 => by
    have ih := kc_len f k
    by_cases h : ixC f k (kcTo f k).2 < 0
    · rw [kc_yes h]
      simp only [List.length_append, List.length_cons, List.length_nil]
      omega
    · rw [kc_no h]
      simp only [List.length_set]
      omega
theorem kc_mem (f : Int → List Int) : ∀ (k : Nat) (p : List Int), p ∈ (kcTo f k).2 ↔ ∃ x : Nat, x < k ∧ p = f x
  | 0, p => by simp [kcTo]
  | k + 1, p => by
    have ih := kc_mem f k
    by_cases h : ixC f k (kcTo f k).2 < 0
    · rw [kc_yes h]
      simp only [List.mem_append, List.mem_singleton, ih]
      constructor
      · rintro (⟨x, h1, h2⟩ | h1)
        · exact ⟨x, by omega, h2⟩
        · exact ⟨k, by omega, h1⟩
      · rintro ⟨x, h1, h2⟩
        by_cases hx : x = k
        · subst hx; exact .inr h2
        · exact .inl ⟨x, by omega, h2⟩
    · rw [kc_no h]
      simp only [ih]
      constructor
      · rintro ⟨x, h1, h2⟩
        exact ⟨x, by omega, h2⟩
      · rintro ⟨x, h1, h2⟩
        by_cases hx : x = k
        · subst hx
          obtain ⟨j1, j2⟩ := ixG_lt (Int.not_lt.1 h)
          have j3 := eq_of_beq (j2 j1)
          rw [h2, ← j3]
          exact (ih _).1 (List.getElem_mem j1)
        · exact ⟨x, by omega, h2⟩
theorem kc_nd (f : Int → List Int) : ∀ (k : Nat), (kcTo f k).2.Nodup
  | 0 => by simp [kcTo]
  | k + 1 => by
    have ih := kc_nd f k
    by_cases h : ixC f k (kcTo f k).2 < 0
    · rw [kc_yes h]
      simp only [List.nodup_append]
      refine ⟨ih, by simp, ?_⟩
      intro a ha b hb hab
      simp at hb
      subst hb hab
      have := ixG_neg h _ ha
      simp at this
    · rw [kc_no h]
      exact ih
theorem nd_at {α : Type} {L : List α} (h : L.Nodup) {i j : Nat} {x : α} (hi : L[i]? = some x) (hj : L[j]? = some x) : i = j := by
  obtain ⟨i1, i2⟩ := List.getElem?_eq_some_iff.1 hi
  obtain ⟨j1, j2⟩ := List.getElem?_eq_some_iff.1 hj
  have := List.pairwise_iff_getElem.1 h
  rcases Nat.lt_trichotomy i j with h6 | h6 | h6
  · exact absurd (i2.trans j2.symm) (this i j i1 j1 h6)
  · exact h6
  · exact absurd (j2.trans i2.symm) (this j i j1 i1 h6)
/-- Those of the first k numbers of which this is said. -/
def saidL (f : Int → List Int) (k : Nat) (p : List Int) : List Int := ((List.range k).filter (fun (x : Nat) => f x == p)).map (fun (x : Nat) => (x : Int))
theorem said_next (f : Int → List Int) (k : Nat) (p : List Int) : saidL f (k + 1) p = saidL f k p ++ (if f k = p then [(k : Int)] else []) := by
  unfold saidL
  rw [List.range_succ, List.filter_append, List.map_append]
  by_cases h : f k = p
  · rw [if_pos h]; simp [h]
  · rw [if_neg h]; simp [h]
/-- What is so of the classes: the numbers of the i-th one are those of which the i-th thing is said. -/
theorem kc_said (f : Int → List Int) : ∀ (k i : Nat) (p : List Int), (kcTo f k).2[i]? = some p → (kcTo f k).1[i]? = some (saidL f k p)
  | 0, i, p, h => by simp [kcTo] at h
  | k + 1, i, p, hp => by
    have hl := kc_len f k
    have ih := kc_said f k i
    by_cases h : ixC f k (kcTo f k).2 < 0
    · rw [kc_yes h] at hp ⊢
      have hno := ixG_neg h
      by_cases hi : i < (kcTo f k).2.length
      · simp only [List.getElem?_append_left hi] at hp
        simp only [List.getElem?_append_left (show i < (kcTo f k).1.length by omega)]
        rw [ih p hp, said_next, if_neg, List.append_nil]
        intro h3
        have := hno p (List.mem_of_getElem? hp)
        simp [h3] at this
      · have hi2 : i = (kcTo f k).2.length := by
          have := (List.getElem?_eq_some_iff.1 hp).1
          simp at this
          omega
        subst hi2
        simp at hp
        subst hp
        have e : (kcTo f k).2.length = (kcTo f k).1.length := hl.1.symm
        rw [e]
        simp only [List.getElem?_concat_length, Option.some.injEq, said_next, if_true]
        have : saidL f k (f k) = [] := by
          unfold saidL
          rw [List.map_eq_nil_iff, List.filter_eq_nil_iff]
          intro x hx h3
          simp at hx h3
          have hm := (kc_mem f k (f x)).2 ⟨x, hx, rfl⟩
          have := hno _ hm
          simp [h3] at this
        rw [this]
        rfl
    · have hnd := kc_nd f k
      rw [kc_no h] at hp ⊢
      simp only at hp ⊢
      obtain ⟨j1, j2⟩ := ixG_lt (Int.not_lt.1 h)
      have j3 := eq_of_beq (j2 j1)
      have j5 : (kcTo f k).2[(ixC f k (kcTo f k).2).toNat]? = some (f k) := by
        show (kcTo f k).2[(ixG (fun p => p == f k) (kcTo f k).2).toNat]? = _
        rw [List.getElem?_eq_getElem j1, j3]
      have j6 : (ixC f k (kcTo f k).2).toNat < (kcTo f k).2.length := j1
      generalize (ixC f k (kcTo f k).2).toNat = j at j5 j6
      by_cases hij : j = i
      · subst hij
        rw [hp] at j5
        cases j5
        have h1 := ih _ hp
        have h2 : (kcTo f k).1.getD j [] = saidL f k (f k) := by rw [List.getD, h1]; rfl
        rw [List.getElem?_set_self (by omega), h2, said_next, if_pos rfl]
      · rw [List.getElem?_set_ne hij, ih p hp, said_next, if_neg, List.append_nil]
        intro h3
        rw [← h3] at hp
        exact hij (nd_at hnd j5 hp)
theorem kc_row (f : Int → List Int) (k i : Nat) (h1 : i < (kcTo f k).1.length) (h2 : i < (kcTo f k).2.length) : (kcTo f k).1[i] = ((List.range k).filter (fun (x : Nat) => f x == (kcTo f k).2[i])).map (fun (x : Nat) => (x : Int)) := by
  have := kc_said f k i _ (List.getElem?_eq_getElem h2)
  rw [List.getElem?_eq_getElem h1] at this
  exact Option.some.inj this
/-- A number is in the i-th class just if the i-th thing is said of it. -/
theorem kc_in {f : Int → List Int} {k i : Nat} (h1 : i < (kcTo f k).1.length) (h2 : i < (kcTo f k).2.length) {x : Int} : x ∈ (kcTo f k).1[i] ↔ ∃ y : Nat, y < k ∧ x = y ∧ f y = (kcTo f k).2[i] := by
  rw [kc_row f k i h1 h2]
  simp only [List.mem_map, List.mem_filter, List.mem_range, beq_iff_eq]
  constructor
  · rintro ⟨y, ⟨h3, h4⟩, rfl⟩
    exact ⟨y, h3, rfl, h4⟩
  · rintro ⟨y, h3, rfl, h4⟩
    exact ⟨y, ⟨h3, h4⟩, rfl⟩
theorem kc_size {f : Int → List Int} {k i : Nat} (h1 : i < (kcTo f k).1.length) : 0 < (kcTo f k).1[i].length ∧ (kcTo f k).1[i].length ≤ k := by
  have h2 : i < (kcTo f k).2.length := by have := kc_len f k; omega
  constructor
  · obtain ⟨x, hx, he⟩ := (kc_mem f k _).1 (List.getElem_mem h2)
    exact List.length_pos_of_mem ((kc_in h1 h2).2 ⟨x, hx, rfl, he.symm⟩)
  · rw [kc_row f k i h1 h2, List.length_map]
    exact Nat.le_trans (List.length_filter_le _ _) (by simp)
theorem kc_sizes {f : Int → List Int} {k : Nat} : ∀ C ∈ (kcTo f k).1, 0 < C.length ∧ C.length ≤ k := by
  intro C hC
  obtain ⟨i, hi, rfl⟩ := List.getElem_of_mem hC
  exact kc_size hi
/-- How often a number is there when one row has one more. -/
theorem count_set (x y : Int) : ∀ (L : List (List Int)) (i : Nat), i < L.length → (L.set i (L.getD i [] ++ [y])).flatten.count x = L.flatten.count x + if y = x then 1 else 0
  | [], i, h => by simp at h
  | a :: l, 0, _ => by
    simp only [List.set_cons_zero, List.getD_cons_zero, List.flatten_cons, List.count_append, List.count_singleton, beq_iff_eq]
    omega
  | a :: l, i + 1, h => by
    have := count_set x y l i (by simpa using h)
    simp only [List.set_cons_succ, List.getD_cons_succ, List.flatten_cons, List.count_append]
    rw [this]
    omega
/-- Each number is there once. -/
theorem kc_count (f : Int → List Int) (x : Int) : ∀ k : Nat, (kcTo f k).1.flatten.count x = if 0 ≤ x ∧ x < k then 1 else 0
  | 0 => by
    simp only [kcTo]
    rw [if_neg (by omega)]
    rfl
  | k + 1 => by
    have ih := kc_count f x k
    have key : (kcTo f (k + 1)).1.flatten.count x = (kcTo f k).1.flatten.count x + if (k : Int) = x then 1 else 0 := by
      by_cases h : ixC f k (kcTo f k).2 < 0
      · rw [kc_yes h]
        simp only [List.flatten_append, List.count_append, List.flatten_cons, List.flatten_nil, List.append_nil, List.count_singleton, beq_iff_eq]
      · rw [kc_no h]
        obtain ⟨j1, _⟩ := ixG_lt (Int.not_lt.1 h)
        have := kc_len f k
        exact count_set x k _ _ (by unfold ixC; omega)
    rw [key, ih]
    by_cases h1 : (k : Int) = x
    · rw [if_pos h1, if_neg (by omega), if_pos (by omega)]
    · rw [if_neg h1]
      by_cases h2 : 0 ≤ x ∧ x < (k : Int)
      · rw [if_pos h2, if_pos (by omega)]
      · rw [if_neg h2, if_neg (by omega)]
/-- The least of the first k. -/
def mnTo (L : List Int) : Nat → Int
  | 0 => 0
  | k + 1 => if k = 0 ∨ L.getD k 0 < mnTo L k then L.getD k 0 else mnTo L k
theorem mn_mem {L : List Int} : ∀ k, 0 < k → k ≤ L.length → mnTo L k ∈ L
  | 0, h, _ => by omega
  | k + 1, _, h => by
    have e : L.getD k 0 ∈ L := by
      rw [show L.getD k 0 = L[k] by simp [List.getD, show k < L.length by omega]]
      exact List.getElem_mem _
    rw [mnTo]
    split
    · exact e
    · next h1 => exact mn_mem k (by omega) (by omega)
/-- The place of the first list that has a number, the fault and the answer of Rep. -/
def hasL (h : Int) (C : List Int) : Bool := C.any (fun x => x == h)
def rpI (Ls : List (List Int)) (h : Int) : Int := ixG (hasL h) Ls
def rpN (Ls : List (List Int)) (h : Int) : Int := if rpI Ls h < 0 then 5 else 0
def rpV (Ls : List (List Int)) (h : Int) : Int := if rpI Ls h < 0 then 0 else mnTo (Ls.getD (rpI Ls h).toNat []) (Ls.getD (rpI Ls h).toNat []).length
theorem hasL_iff {h : Int} {C : List Int} : hasL h C = true ↔ h ∈ C := by
  simp [hasL]
/-- The first number's class: which thing is said of it, which is its least one. -/
theorem rp_of {f : Int → List Int} {k : Nat} {h : Int} (h0 : 0 ≤ h) (h1 : h < k) : ∃ i, ∃ (hi : i < (kcTo f k).1.length) (hj : i < (kcTo f k).2.length), rpN (kcTo f k).1 h = 0 ∧ rpV (kcTo f k).1 h = mnTo (kcTo f k).1[i] (kcTo f k).1[i].length ∧ f h = (kcTo f k).2[i] ∧ rpV (kcTo f k).1 h ∈ (kcTo f k).1[i] := by
  obtain ⟨y, rfl⟩ := Int.eq_ofNat_of_zero_le h0
  have hy : y < k := by omega
  obtain ⟨i, hi, he⟩ := List.getElem_of_mem ((kc_mem f k (f y)).2 ⟨y, hy, rfl⟩)
  have hi1 : i < (kcTo f k).1.length := by have := kc_len f k; omega
  have hin : (y : Int) ∈ (kcTo f k).1[i] := (kc_in hi1 hi).2 ⟨y, hy, rfl, he.symm⟩
  have hpos : 0 ≤ rpI (kcTo f k).1 y := by
    rcases Int.lt_or_le (rpI (kcTo f k).1 y) 0 with h2 | h2
    · have := ixG_neg h2 _ (List.getElem_mem hi1)
      rw [hasL_iff.2 hin] at this
      cases this
    · exact h2
  obtain ⟨j1, j2⟩ := ixG_lt hpos
  have j3 := hasL_iff.1 (j2 j1)
  have j4 : (ixG (hasL (y : Int)) (kcTo f k).1).toNat < (kcTo f k).2.length := by have := kc_len f k; omega
  obtain ⟨z, hz1, hz2, hz3⟩ := (kc_in j1 j4).1 j3
  have hzy : z = y := by omega
  subst hzy
  have eV : rpV (kcTo f k).1 z = mnTo (kcTo f k).1[(ixG (hasL (z : Int)) (kcTo f k).1).toNat] (kcTo f k).1[(ixG (hasL (z : Int)) (kcTo f k).1).toNat].length := by
    unfold rpV
    rw [if_neg (by omega)]
    have : (kcTo f k).1.getD (rpI (kcTo f k).1 z).toNat [] = (kcTo f k).1[(ixG (hasL (z : Int)) (kcTo f k).1).toNat] := by
      show (kcTo f k).1.getD (ixG (hasL (z : Int)) (kcTo f k).1).toNat [] = _
      simp only [List.getD, List.getElem?_eq_getElem j1, Option.getD_some]
    rw [this]
  refine ⟨_, j1, j4, ?_, eV, hz3, ?_⟩
  · unfold rpN
    rw [if_neg (by omega)]
  · rw [eV]
    exact mn_mem _ (kc_size j1).1 (Nat.le_refl _)
/-- ALIKE IS ALIKE: two have one least just if the same is said of both. -/
theorem rp_same {f : Int → List Int} {k : Nat} {h o : Int} (h0 : 0 ≤ h) (h1 : h < k) (o0 : 0 ≤ o) (o1 : o < k) : rpV (kcTo f k).1 h = rpV (kcTo f k).1 o ↔ f h = f o := by
  obtain ⟨i, i1, i2, _, i3, i4, i5⟩ := rp_of (f := f) h0 h1
  obtain ⟨j, j1, j2, _, j3, j4, j5⟩ := rp_of (f := f) o0 o1
  constructor
  · intro he
    rw [he] at i5
    obtain ⟨y, _, e1, e2⟩ := (kc_in i1 i2).1 i5
    obtain ⟨z, _, e3, e4⟩ := (kc_in j1 j2).1 j5
    have : y = z := by omega
    rw [i4, j4, ← e2, ← e4, this]
  · intro he
    have hij : i = j := by
      rw [i4, j4] at he
      exact nd_at (kc_nd f k) (List.getElem?_eq_getElem i2) (by rw [List.getElem?_eq_getElem j2, he])
    subst hij
    rw [i3, j3]
theorem nd_sub {α : Type} [BEq α] [LawfulBEq α] : ∀ {A B : List α}, A.Nodup → A ⊆ B → A.length ≤ B.length
  | [], _, _, _ => by simp
  | a :: A, B, h, hs => by
    have ha : a ∈ B := hs List.mem_cons_self
    have h1 : A ⊆ B.erase a := fun x hx => (List.mem_erase_of_ne (by rintro rfl; exact (List.nodup_cons.1 h).1 hx)).2 (hs (List.mem_cons_of_mem _ hx))
    have h2 := nd_sub (List.nodup_cons.1 h).2 h1
    rw [List.length_erase_of_mem ha] at h2
    have h3 := List.length_pos_of_mem ha
    simp only [List.length_cons]
    omega
/-- Of two functions of which the second says what the first says, or one thing more: it has one class more at most. -/
theorem kc_few {f g : Int → List Int} {k : Nat} (q : List Int) (h : ∀ x : Nat, x < k → g x = f x ∨ g x = q) : (kcTo g k).1.length ≤ (kcTo f k).1.length + 1 := by
  rw [(kc_len g k).1, (kc_len f k).1]
  have hsub : (kcTo g k).2 ⊆ q :: (kcTo f k).2 := by
    intro p hp
    obtain ⟨x, hx, rfl⟩ := (kc_mem g k p).1 hp
    rcases h x hx with e | e
    · rw [e]
      exact List.mem_cons_of_mem _ ((kc_mem f k _).2 ⟨x, hx, rfl⟩)
    · rw [e]
      exact List.mem_cons_self
  have := nd_sub (kc_nd g k) hsub
  simpa using this
theorem kc_pos {f : Int → List Int} {k : Nat} (hk : 0 < k) : 1 ≤ (kcTo f k).1.length := by
  have := (kc_mem f k (f (0 : Nat))).2 ⟨0, hk, rfl⟩
  have := List.length_pos_of_mem this
  have := kc_len f k
  omega
end Go.Proofs.YtokkmnednhigmaeDoor
/- Lists of lists of numbers: where they lie, and such that a call owns, each in a block of its own. No program in it. -/
namespace Go.Proofs.YtokkmnednhigmaeDoor
open Go.RowKit
set_option linter.unusedVariables false
set_option linter.unusedSimpArgs false

/-- Numbers, a cell each. -/
def inE : Enc Int where
  c := fun x => [.int .i64 x]
  n := 1
  len := fun _ => rfl
  pos := by decide
  one := by
    intro x u hu
    simp at hu
    subst hu
    rfl
theorem in_cells (L : List Int) : cellsG inE L = L.map (Value.int .i64) := by
  induction L with
  | nil => rfl
  | cons x r ih =>
    simp only [cellsG, List.flatMap_cons, List.map_cons] at *
    rw [ih]
    rfl
theorem in_at {w : World} {g o : Nat} {L : List Int} (h : GAt inE w g o L) {n k : Nat} (hn : L.length = n) (hk : k < n) : ∃ (x : Int) (hl : k < L.length), L[k] = x ∧ w.cell? ⟨g, o + k, none⟩ = some (.int .i64 x) := by
  have hl : k < L.length := by omega
  have := h k hl 0 _ rfl
  refine ⟨_, hl, rfl, ?_⟩
  have e : o + k * inE.n + 0 = o + k := by show o + k * 1 + 0 = o + k; omega
  rw [e] at this
  exact this
/-- A slice's three parts. -/
abbrev SlT : Type := Option Addr × Nat × Nat
def slV (x : SlT) : Value := .slice x.1 x.2.1 x.2.2
def slE : Enc SlT where
  c := fun x => [slV x]
  n := 1
  len := fun _ => rfl
  pos := by decide
  one := by
    intro x u hu
    simp at hu
    subst hu
    rfl
theorem sl_cells (L : List SlT) : cellsG slE L = L.map slV := by
  induction L with
  | nil => rfl
  | cons x r ih =>
    simp only [cellsG, List.flatMap_cons, List.map_cons] at *
    rw [ih]
    rfl
/-- These lists lie one behind the other. -/
def ILAt (w : World) (g o : Nat) (Ls : List (List Int)) : Prop := ∀ i (h : i < Ls.length), ∃ ao n cap, w.cell? ⟨g, o + i, none⟩ = some (.slice ao n cap) ∧ GS inE w (.slice ao n cap) Ls[i]
theorem ILAt.later {w w' : World} {g o : Nat} {Ls : List (List Int)} (h : ILAt w g o Ls) (hb : Below w.heap.size w w') : ILAt w' g o Ls := fun i hi => by
  obtain ⟨ao, n, cap, h1, h2⟩ := h i hi
  exact ⟨ao, n, cap, cell_later hb h1, h2.later hb⟩
/-- A value is a slice of these lists. -/
def ILS (w : World) (v : Value) (Ls : List (List Int)) : Prop :=
  (∃ ao cap, v = .slice ao 0 cap ∧ Ls = []) ∨ ∃ g o cap, v = .slice (some ⟨g, o, none⟩) Ls.length cap ∧ Ls.length ≤ cap ∧ cap ≤ maxLen ∧ ILAt w g o Ls
theorem ILS.later {w w' : World} {v : Value} {Ls : List (List Int)} (h : ILS w v Ls) (hb : Below w.heap.size w w') : ILS w' v Ls := by
  rcases h with h | ⟨g, o, cap, h1, h2, h3, h4⟩
  · exact .inl h
  · exact .inr ⟨g, o, cap, h1, h2, h3, h4.later hb⟩
theorem ILS.nil (w : World) : ILS w (.slice none 0 0) [] := .inl ⟨none, 0, rfl, rfl⟩
theorem ILS.form {w : World} {v : Value} {Ls : List (List Int)} (h : ILS w v Ls) : ∃ ao n cap, v = .slice ao n cap ∧ Ls.length = n ∧ n ≤ maxLen ∧ n ≤ cap ∧ (0 < n → ∃ g o, ao = some ⟨g, o, none⟩ ∧ ILAt w g o Ls ∧ cap ≤ maxLen) := by
  rcases h with ⟨ao, cap, rfl, rfl⟩ | ⟨g, o, cap, rfl, h1, h2, h3⟩
  · exact ⟨ao, 0, cap, rfl, rfl, Nat.zero_le _, Nat.zero_le _, fun h => absurd h (by omega)⟩
  · exact ⟨_, _, cap, rfl, rfl, Nat.le_trans h1 h2, h1, fun _ => ⟨g, o, rfl, h3, h2⟩⟩
/-- The k-th of such a list. -/
theorem ILAt.at {w : World} {g o : Nat} {Ls : List (List Int)} (h : ILAt w g o Ls) {n k : Nat} (hn : Ls.length = n) (hk : k < n) : ∃ ao m cap, w.cell? ⟨g, o + k, none⟩ = some (.slice ao m cap) ∧ GS inE w (.slice ao m cap) (Ls.getD k []) := by
  have hl : k < Ls.length := by omega
  obtain ⟨ao, m, cap, h1, h2⟩ := h k hl
  refine ⟨ao, m, cap, h1, ?_⟩
  rw [show Ls.getD k [] = Ls[k] by simp [List.getD, hl]]
  exact h2

/-- Two rows of two kinds lie in two blocks. -/
theorem own_rows2 {w : World} {b1 e1 s1 n1 b2 e2 s2 n2 : Nat} {v1 v2 : Value} {x1 x2 : List Value} (h1 : w.ownsRow b1 e1 s1 v1 n1 x1) (h2 : w.ownsRow b2 e2 s2 v2 n2 x2) (he : e1 ≠ e2) : v1.ownBlock = none ∨ v1.ownBlock ≠ v2.ownBlock := by
  rcases h1.2 with ⟨rfl, _⟩ | ⟨g, cap, cur, rfl, _, hg, _⟩
  · exact .inl rfl
  · refine .inr ?_
    rcases h2.2 with ⟨rfl, _⟩ | ⟨g2, cap2, cur2, rfl, _, hg2, _⟩
    · exact fun h => by cases h
    · intro h
      simp only [Value.ownBlock, Option.some.injEq] at h
      subst h
      rw [hg] at hg2
      simp only [Option.some.injEq, Obj.cells.injEq] at hg2
      exact he hg2.2.1
theorem grown_below {w w' : World} (hb : Below w.heap.size w w') : w.grownBy w' none := ⟨hb.os, hb.tape, hb.output, hb.size, fun k hk _ => hb.block k hk⟩
theorem grown_set (w : World) (b i : Nat) (v : Value) : w.grownBy (w.setCell ⟨b, i, none⟩ v) (some b) :=
  ⟨rfl, rfl, rfl, by simp [World.setCell], fun k _ hk => Below.heap_setCell _ _ _ _ (fun e => hk (by simp [e]))⟩
theorem none_or (o : Option Nat) : o = none ∨ o ≠ none := by cases o <;> simp
/-- Where a row lies behind one more thing: where it lay, or in a new block. -/
theorem run_append_blk {P : Program} {w : World} {base : Nat} (t ty e : TypeId) (i : TypeInfo) (z : Value) (ht : P.underlying t = some (.slice e)) (hi : P.info? e = some i) (hz : i.zero = some z)
    (v : Value) (n : Nat) (xs : List Value) (hown : w.ownsRow base e i.size v n xs)
    (a : Addr) (c : Nat) (news : List Value) (hl : news.length = 1 * i.size) (hnews : ∀ j u, news[j]? = some u → w.cell? (a.add j) = some u) (h1 : ∀ u ∈ news, u.oneCell' = true)
    (h63 : n + 1 ≤ maxLen) (hbytes : (n + 1) * i.bytes ≤ 140737488355328) {v' : Value} {w' : World} (hr : (Builtin.append_ #[t, t] ty #[v, .slice (some a) 1 c]).run P w = .ok v' w') : v'.ownBlock = v.ownBlock ∨ v'.ownBlock = some w.heap.size := by
  have hm : n + 1 ≤ 9223372036854775807 := by simp only [maxLen] at h63; omega
  rcases hown.2 with ⟨rfl, rfl⟩ | ⟨g, cap, cur, rfl, hbg, hg, hnc, hcm, hcs, htake⟩
  · rw [run_append_nil (P := P) w t ty e i z ht hi hz a 1 c news hl hnews (by omega) (by omega) (by have hb := hbytes; simp only [Nat.zero_add] at hb; omega)] at hr
    cases hr
    exact .inr rfl
  · by_cases hroom : n + 1 ≤ cap
    · have hfit : n * i.size + news.length ≤ cur.size := by rw [hl, hcs, ← Nat.add_mul]; exact Nat.mul_le_mul_right _ hroom
      rw [run_append_room (P := P) w t ty e i ht hi g n cap cur hg a 1 c news hl hnews h1 hroom hfit] at hr
      cases hr
      exact .inl rfl
    · rw [run_append_grow (P := P) w t ty e i z ht hi hz ⟨g, 0, none⟩ n cap xs hown.1 (hown.cells (g := g) rfl) a 1 c news hl hnews (by omega) (by omega) (growslice_fits (by omega) hbytes)] at hr
      cases hr
      exact .inr rfl
/-- Appending one thing to a row that a call owns: where the row lies then. -/
theorem wpList_append_blk {P : Program} {α : Type} {E : Enc α} (w : World) {ops : Array Oper} {rest : List Oper} {o : Oper} {a : Act} {Q : Exit → Act → World → Prop} (hgd : o.guard = none) (s x : Operand) (t e : TypeId)
    (ho : o.op = .call { callee := .builtin .append, args := #[s, x], argTypes := #[t, t] }) (ht : P.underlying t = some (.slice e)) (i : TypeInfo) (z : Value) (bytes : Nat) (hi : P.info? e = some i) (hz : i.zero = some z)
    (hsize : i.size = E.n) (hby : i.bytes = bytes) (hzs : z.cells.size = E.n) (base : Nat)
    (v : Value) (hs : a.eval s = v) (L : List α) (hown : w.ownsRow base e E.n v L.length (cellsG E L)) (g q c : Nat) (hx : a.eval x = .slice (some ⟨g, q, none⟩) 1 c) (y : α) (hM : VAt w g q (E.c y))
    (h63 : L.length + 1 ≤ maxLen) (hbytes : (L.length + 1) * bytes ≤ 140737488355328) (hbase : base ≤ w.heap.size)
    (h : ∀ v' w', w'.ownsRow base e E.n v' (L ++ [y]).length (cellsG E (L ++ [y])) → w.grownBy w' v.ownBlock → v'.ownBlock = v.ownBlock ∨ v'.ownBlock = some w.heap.size → wpList P ops Q rest (a.put o.dst v') w') : wpList P ops Q (o :: rest) a w := by
  have hG : GAt E w g q [y] := by
    intro k hk
    obtain rfl : k = 0 := by simp at hk; omega
    simpa using hM
  have hc := hG.cells
  rw [cellsG_one] at hc
  have hl : (E.c y).length = 1 * E.n := by rw [E.len]; omega
  obtain ⟨v', w', hr, h2, h3, _⟩ := run_append_own (P := P) w base t o.type e i z E.n bytes ht hi hz hsize hby hzs E.pos v _ _ hown ⟨g, q, none⟩ 1 c (E.c y) hl hc (E.one y) h63 hbytes hbase
  have hb := run_append_blk (P := P) t o.type e i z ht hi hz v _ _ (by rw [hsize]; exact hown) ⟨g, q, none⟩ c (E.c y) (by rw [hsize]; exact hl) hc (E.one y) h63 (by rw [hby]; exact hbytes) hr
  refine wpList_plain hgd fun K hK => ?_
  unfold Oper.wp execOp
  simp only [ho, resolve, invoke, builtin, Sem.run_bind, Sem.run_pure, Result.andThen_ok, List.map_toArray, List.map_cons, List.map_nil, hs, hx, hr]
  exact hK _ _ (h v' w' (by rw [List.length_append, cellsG_app, cellsG_one]; exact h2) h3 hb)

/-- Two lists of lists that a call owns (the classes, and what is said of each), each list in a block of its own. -/
structure CP (e1 e2 : TypeId) (w : World) (B : Nat) (v u : Value) (vs us : List SlT) (Cs Ps : List (List Int)) : Prop where
  ov : w.ownsRow B e2 slE.n v vs.length (cellsG slE vs)
  ou : w.ownsRow B e2 slE.n u us.length (cellsG slE us)
  ne : v.ownBlock = none ∨ v.ownBlock ≠ u.ownBlock
  lv : vs.length = Cs.length
  lu : us.length = Ps.length
  rv : ∀ (i : Nat) (x : SlT) (L : List Int), vs[i]? = some x → Cs[i]? = some L → w.ownsRow B e1 inE.n (slV x) L.length (cellsG inE L)
  ru : ∀ (i : Nat) (x : SlT) (L : List Int), us[i]? = some x → Ps[i]? = some L → w.ownsRow B e1 inE.n (slV x) L.length (cellsG inE L)
  dd : ((vs ++ us).map fun x => (slV x).ownBlock).Nodup
section
variable {e1 e2 : TypeId} {w w' : World} {B : Nat} {v u : Value} {vs us : List SlT} {Cs Ps : List (List Int)}
theorem cp_nil (e1 e2 : TypeId) (w : World) (B : Nat) : CP e1 e2 w B (.slice none 0 0) (.slice none 0 0) [] [] [] [] :=
  ⟨World.ownsRow_nil w B e2 slE.n, World.ownsRow_nil w B e2 slE.n, .inl rfl, rfl, rfl, fun i x L h => by simp at h, fun i x L h => by simp at h, by simp⟩
theorem CP.keep (h : CP e1 e2 w B v u vs us Cs Ps) (hg : w.grownBy w' none) : CP e1 e2 w' B v u vs us Cs Ps :=
  ⟨h.ov.kept hg (none_or _), h.ou.kept hg (none_or _), h.ne, h.lv, h.lu, fun i x L h1 h2 => (h.rv i x L h1 h2).kept hg (none_or _), fun i x L h1 h2 => (h.ru i x L h1 h2).kept hg (none_or _), h.dd⟩
theorem CP.later (h : CP e1 e2 w B v u vs us Cs Ps) (hb : Below w.heap.size w w') : CP e1 e2 w' B v u vs us Cs Ps := h.keep (grown_below hb)
theorem CP.swap (h : CP e1 e2 w B v u vs us Cs Ps) : CP e1 e2 w B u v us vs Ps Cs := by
  refine ⟨h.ou, h.ov, ?_, h.lu, h.lv, h.ru, h.rv, ?_⟩
  · rcases h.ne with h1 | h1
    · rw [h1]; exact none_or _
    · exact .inr (Ne.symm h1)
  · have := h.dd
    rw [List.map_append] at this ⊢
    exact (List.perm_append_comm.nodup_iff).1 this
/-- All blocks of the lists are old ones. -/
theorem CP.old (h : CP e1 e2 w B v u vs us Cs Ps) : ∀ y ∈ vs ++ us, ∀ k, (slV y).ownBlock = some k → k < w.heap.size := by
  intro y hy k hk
  rcases List.mem_append.1 hy with hy | hy
  · obtain ⟨i, hi, rfl⟩ := List.getElem_of_mem hy
    have hi2 : i < Cs.length := by rw [← h.lv]; exact hi
    exact ((h.rv i _ _ (List.getElem?_eq_getElem hi) (List.getElem?_eq_getElem hi2)).lt k hk).2
  · obtain ⟨i, hi, rfl⟩ := List.getElem_of_mem hy
    have hi2 : i < Ps.length := by rw [← h.lu]; exact hi
    exact ((h.ru i _ _ (List.getElem?_eq_getElem hi) (List.getElem?_eq_getElem hi2)).lt k hk).2
/-- One list more. -/
theorem CP.push (h : CP e1 e2 w B v u vs us Cs Ps) (he : e1 ≠ e2) {x : SlT} {L : List Int} (hx : w.ownsRow B e1 inE.n (slV x) L.length (cellsG inE L)) (hnew : ∀ y ∈ vs ++ us, (slV y).ownBlock ≠ (slV x).ownBlock) {v' : Value}
    (hg : w.grownBy w' v.ownBlock) (ho : w'.ownsRow B e2 slE.n v' (vs ++ [x]).length (cellsG slE (vs ++ [x]))) (hb : v'.ownBlock = v.ownBlock ∨ v'.ownBlock = some w.heap.size) : CP e1 e2 w' B v' u (vs ++ [x]) us (Cs ++ [L]) Ps := by
  have hu : u.ownBlock = none ∨ u.ownBlock ≠ v.ownBlock := h.swap.ne
  have inner : ∀ {y : SlT} {M : List Int}, w.ownsRow B e1 inE.n (slV y) M.length (cellsG inE M) → w'.ownsRow B e1 inE.n (slV y) M.length (cellsG inE M) := fun hy => hy.kept hg (own_rows2 hy h.ov he)
  refine ⟨ho, h.ou.kept hg hu, ?_, by simp [h.lv], h.lu, ?_, fun i y M h1 h2 => inner (h.ru i y M h1 h2), ?_⟩
  · rcases hb with hb | hb
    · rw [hb]; exact h.ne
    · refine .inr ?_
      rw [hb]
      intro h3
      have := (h.ou.lt _ h3.symm).2
      omega
  · intro i y M h1 h2
    by_cases hi : i < vs.length
    · rw [List.getElem?_append_left hi] at h1
      rw [List.getElem?_append_left (by rw [← h.lv]; exact hi)] at h2
      exact inner (h.rv i y M h1 h2)
    · have hi2 : i = vs.length := by
        have := (List.getElem?_eq_some_iff.1 h1).1
        simp at this
        omega
      subst hi2
      simp at h1
      rw [h.lv] at h2
      simp at h2
      subst h1 h2
      exact inner hx
  · have hd := h.dd
    have hp : (((vs ++ [x]) ++ us).map fun x => (slV x).ownBlock).Perm ((slV x).ownBlock :: ((vs ++ us).map fun x => (slV x).ownBlock)) := by
      have : ((vs ++ [x]) ++ us).Perm (x :: (vs ++ us)) := by
        rw [List.append_assoc]
        exact List.perm_middle
      exact this.map _
    refine hp.nodup_iff.2 (List.nodup_cons.2 ⟨?_, hd⟩)
    intro hm
    obtain ⟨y, hy, he2⟩ := List.mem_map.1 hm
    exact hnew y hy he2
/-- One number more in one of the lists. -/
theorem CP.put (h : CP e1 e2 w B v u vs us Cs Ps) (he : e1 ≠ e2) {i : Nat} {x x' : SlT} {L' : List Int} (hx : vs[i]? = some x)
    (hg : w.grownBy w' (slV x).ownBlock) (ho : w'.ownsRow B e1 inE.n (slV x') L'.length (cellsG inE L')) (hb : (slV x').ownBlock = (slV x).ownBlock ∨ (slV x').ownBlock = some w.heap.size)
    {g n cap : Nat} (hv : v = .slice (some ⟨g, 0, none⟩) n cap) : CP e1 e2 (w'.setCell ⟨g, i, none⟩ (slV x')) B v u (vs.set i x') us (Cs.set i L') Ps := by
  have hiv : i < vs.length := (List.getElem?_eq_some_iff.1 hx).1
  have hiC : i < Cs.length := by rw [← h.lv]; exact hiv
  have hrow := h.rv i x _ hx (List.getElem?_eq_getElem hiC)
  have hxo : ∀ {y : Value} {n : Nat} {X : List Value}, w.ownsRow B e2 slE.n y n X → w'.ownsRow B e2 slE.n y n X := fun hy => hy.kept hg (own_rows2 hy hrow (Ne.symm he))
  have h1 := hxo h.ov
  have h2 := hxo h.ou
  subst hv
  have hgw : w'.grownBy (w'.setCell ⟨g, i, none⟩ (slV x')) (some g) := grown_set w' g i (slV x')
  have hug : u.ownBlock = none ∨ u.ownBlock ≠ some g := h.swap.ne
  have apart : ∀ {j : Nat} {y : SlT}, (vs ++ us)[j]? = some y → j ≠ i → (slV y).ownBlock ≠ (slV x).ownBlock := by
    intro j y hy hj heq
    have hd := h.dd
    have a1 : ((vs ++ us).map fun x => (slV x).ownBlock)[j]? = some (slV y).ownBlock := by rw [List.getElem?_map, hy]; rfl
    have a2 : ((vs ++ us).map fun x => (slV x).ownBlock)[i]? = some (slV y).ownBlock := by rw [List.getElem?_map, List.getElem?_append_left hiv, hx, heq]; rfl
    exact hj (nd_at hd a1 a2)
  have inner : ∀ {y : SlT} {M : List Int}, (slV y).ownBlock = none ∨ (slV y).ownBlock ≠ (slV x).ownBlock → w.ownsRow B e1 inE.n (slV y) M.length (cellsG inE M) → (w'.setCell ⟨g, i, none⟩ (slV x')).ownsRow B e1 inE.n (slV y) M.length (cellsG inE M) := by
    intro y M hne hy
    have hy' := hy.kept hg hne
    exact hy'.kept hgw (own_rows2 hy' h1 he)
  refine ⟨?_, h2.kept hgw hug, h.ne, by simp [h.lv], h.lu, ?_, ?_, ?_⟩
  · have hn : n = vs.length := by
      rcases h1.2 with ⟨h3, _⟩ | ⟨_, _, _, h3, _⟩
      · cases h3
      · simp only [Value.slice.injEq] at h3
        exact h3.2.1
    rw [List.length_set, sl_cells, List.map_set]
    rw [sl_cells, ← hn] at h1
    rw [← hn]
    exact (h1.stored _ _).1
  · intro j y M a1 a2
    by_cases hij : i = j
    · subst hij
      rw [List.getElem?_set_self hiv] at a1
      rw [List.getElem?_set_self hiC] at a2
      cases a1
      cases a2
      exact ho.kept hgw (own_rows2 ho h1 he)
    · rw [List.getElem?_set_ne hij] at a1 a2
      have hj : j < vs.length := (List.getElem?_eq_some_iff.1 a1).1
      exact inner (.inr (apart (j := j) (by rw [List.getElem?_append_left hj]; exact a1) (Ne.symm hij))) (h.rv j y M a1 a2)
  · intro j y M a1 a2
    exact inner (.inr (apart (j := vs.length + j) (by rw [List.getElem?_append_right (by omega)]; simpa using a1) (by omega))) (h.ru j y M a1 a2)
  · have hd := h.dd
    rw [List.Nodup, List.pairwise_iff_getElem] at hd ⊢
    have key : ∀ j (hj : j < (((vs.set i x') ++ us).map fun x => (slV x).ownBlock).length), (((vs.set i x') ++ us).map fun x => (slV x).ownBlock)[j] = if j = i then (slV x').ownBlock else ((vs ++ us).map fun x => (slV x).ownBlock)[j]'(by simpa using hj) := by
      intro j hj
      simp only [List.getElem_map, ← List.set_append_left _ _ hiv, List.getElem_set]
      by_cases e : i = j
      · subst e; simp
      · rw [if_neg e, if_neg (Ne.symm e)]
    have xin : ((vs ++ us).map fun x => (slV x).ownBlock)[i]'(by simp; omega) = (slV x).ownBlock := by
      have : ((vs ++ us).map fun x => (slV x).ownBlock)[i]? = some (slV x).ownBlock := by rw [List.getElem?_map, List.getElem?_append_left hiv, hx]; rfl
      obtain ⟨_, h3⟩ := List.getElem?_eq_some_iff.1 this
      exact h3
    have fresh : ∀ j (hj : j < ((vs ++ us).map fun x => (slV x).ownBlock).length), j ≠ i → ((vs ++ us).map fun x => (slV x).ownBlock)[j] ≠ (slV x').ownBlock := by
      intro j hj hji heq
      have hj2 : j < (vs ++ us).length := by simpa using hj
      rcases hb with hb | hb
      · have := apart (j := j) (y := (vs ++ us)[j]) (List.getElem?_eq_getElem hj2) hji
        rw [List.getElem_map] at heq
        exact this (heq.trans hb)
      · rw [List.getElem_map, hb] at heq
        have := h.old _ (List.getElem_mem hj2) _ heq
        omega
    intro a b ha hb' hab
    rw [key a ha, key b hb']
    by_cases ea : a = i
    · rw [if_pos ea, if_neg (by omega)]
      exact (fresh b (by simpa using hb') (by omega)).symm
    · rw [if_neg ea]
      by_cases eb : b = i
      · rw [if_pos eb]
        exact fresh a (by simpa using ha) ea
      · rw [if_neg eb]
        exact hd a b _ _ hab
/-- What such a call owns may be read. -/
theorem CP.ls (h : CP e1 e2 w B v u vs us Cs Ps) : ILS w v Cs := by
  rcases own_GS h.ov with ⟨ao, cap, rfl, h0⟩ | ⟨g, o, cap, rfl, h1, h2, h3⟩
  · refine .inl ⟨ao, cap, rfl, ?_⟩
    have := h.lv
    rw [h0] at this
    exact List.length_eq_zero_iff.1 this.symm
  · refine .inr ⟨g, o, cap, by rw [h.lv], by rw [← h.lv]; exact h1, h2, fun i hi => ?_⟩
    have hi2 : i < vs.length := by rw [h.lv]; exact hi
    have := h3 i hi2 0 _ rfl
    have e : o + i * slE.n + 0 = o + i := by show o + i * 1 + 0 = o + i; omega
    rw [e] at this
    exact ⟨_, _, _, this, own_GS (h.rv i _ _ (List.getElem?_eq_getElem hi2) (List.getElem?_eq_getElem hi))⟩
end
end Go.Proofs.YtokkmnednhigmaeDoor
