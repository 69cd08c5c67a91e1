/- Contracts and facts on the way to ChangeTells, joined into one text: TableConcat, Quiet, TableIdx, TableDo, ChangeOps, ClassTwo, StrClone, OwnInts, AlikeMath, SmTopo, TableDo2. -/
import Derived.Test.YtokkmnednhigmaeDoorChangeTellsP2
import Derived.Test.YtokkmnednhigmaeDoorChangeTellsP1
import Derived.Test.YtokkmnednhigmaeDoorChangeTellsP4
import Derived.Deep.CutRange
import Derived.Deep.CutBlock
import Derived.WalkKit
import Derived.WalkSpells
import Derived.Below
import Derived.BigQuiet
import Derived.Deep.QuietTactic
import Derived.Deep.RegionHeld3
import Derived.Test.YtokkmnednhigmaeDoorRows
import Derived.Lib.Strings
import Derived.Lib.Walk
import Derived.Lib.BufferWrite
import Derived.Lib.UnsafeStr
import Derived.Laws.MakeOwn
/- What slices.Grow, slices.Concat, slices.Index answer at tables. -/
namespace Go.Proofs.YtokkmnednhigmaeDoor
open Go.RowKit
set_option linter.unusedSimpArgs false
set_option linter.unusedVariables false

set_option maxHeartbeats 2000000 in
set_option maxRecDepth 100000 in
/-- Grow of nil: a row of the call's own, with nothing in it. -/
theorem grow_nil (n : Nat) (w : World) (hn : n ≤ 1000) :
    Calls Tryd.prog 61 #[.slice none 0 0, .int .i64 n] w fun e w' => ∃ v, e = .returned v ∧ w'.ownsRow w.heap.size 51 6 v 0 [] ∧ Below w.heap.size w w' := by
  have h1 : ¬ ((n : Int) < 0) := by omega
  by_cases h0 : n = 0
  · subst h0
    go_enter Tryd.func61, Tryd.ntmps61
    go_wp2
    go_ret
    exact ⟨_, rfl, World.ownsRow_nil _ _ _ _, Below.refl _ _⟩
  · obtain ⟨i0, hi, hz0, hz1, hz2⟩ := info_parts infoRule
    have h3 : wrap64 ((n : Int) - 0) = (n : Int) := by unfold wrap64; omega
    have h4 : (n : Int) > 0 := by omega
    have hrz : ∀ ty, (Builtin.append_ #[58, 3] ty #[.slice none 0 0, .int .i64 n]).run Tryd.prog w =
        .ok (.slice (some ⟨w.heap.size, 0, none⟩) n (grownCap w n 0 51)) (w.drew.alloc (.cells (Builtin.zeroCells (Value.agg #[.int .i64 0, .int .i64 0, .int .i64 0, .int .i64 0, .int .i64 0, .int .i64 0]).cells n ++ Builtin.zeroCells (Value.agg #[.int .i64 0, .int .i64 0, .int .i64 0, .int .i64 0, .int .i64 0, .int .i64 0]).cells (grownCap w n 0 51 - n)) 51)) := fun ty =>
      Lib.run_append_nil_zeros w 58 3 ty 51 i0 _ .i64 .i64 Tryd.underlying58 Tryd.underlying3 hi hz0 n (by omega) (by rw [hz1]; decide) (by omega) (by rw [hz2]; omega)
    have hGn : n ≤ grownCap w n 0 51 := grownCap_ge w _ _ _
    have hGm : grownCap w n 0 51 ≤ maxLen := grownCap_le_maxLen w n 0 51 (by unfold maxLen; omega)
    generalize grownCap w n 0 51 = G at *
    have HM : Hid (G ≤ maxLen) := hGm
    have hG63 : G ≤ 9223372036854775807 := by unfold maxLen at hGm; omega
    have HO : Hid ((w.drew.alloc (.cells (Builtin.zeroCells (Value.agg #[.int .i64 0, .int .i64 0, .int .i64 0, .int .i64 0, .int .i64 0, .int .i64 0]).cells n ++ Builtin.zeroCells (Value.agg #[.int .i64 0, .int .i64 0, .int .i64 0, .int .i64 0, .int .i64 0, .int .i64 0]).cells (G - n)) 51)).ownsRow w.heap.size 51 6 (.slice (some ⟨w.heap.size, 0, none⟩) 0 G) 0 []) :=
      World.ownsRow_made w.drew _ G (Nat.le_refl _) HM.out (by
        simp only [Array.size_append, size_zeroCells, sixCells, ← Nat.add_mul]
        congr 1
        omega)
    clear hGm
    go_enter Tryd.func61, Tryd.ntmps61
    go_wp2_with (at_builtin; refine Lib.wpList_append_run _ rfl _ _ _ _ rfl _ _ rfl rfl _ _ (hrz _) ?_)
    all_goals (go_ret; exact ⟨_, rfl, HO.out, ((Below.refl _ _).drew).alloc (Nat.le_refl _) _⟩)

/-- These slices of rules lie one behind the other. -/
def PAt (w : World) (g o : Nat) (Ls : List (List Ru)) : Prop := ∀ i (h : i < Ls.length), ∃ ao n cap, w.cell? ⟨g, o + i, none⟩ = some (.slice ao n cap) ∧ SR w (.slice ao n cap) Ls[i]
theorem PAt.later {w w' : World} {g o : Nat} {Ls : List (List Ru)} (h : PAt w g o Ls) (hb : Below w.heap.size w w') : PAt w' g o Ls := fun i hi => by
  obtain ⟨ao, n, cap, h1, h2⟩ := h i hi
  exact ⟨ao, n, cap, cell_later hb h1, h2.later hb⟩
theorem SR.len {w : World} {ao : Option Addr} {n cap : Nat} {L : List Ru} (h : SR w (.slice ao n cap) L) : L.length = n := by
  rcases h with ⟨_, _, e, rfl⟩ | ⟨_, _, _, e, _⟩
  · simp at e; simp [e]
  · simp at e; exact e.2.1.symm
theorem flat_next {Ls : List (List Ru)} {k : Nat} (hk : k < Ls.length) : (Ls.take (k + 1)).flatten = (Ls.take k).flatten ++ Ls[k] := by
  rw [List.take_succ_eq_append_getElem hk]
  simp only [List.flatten_append, List.flatten_cons, List.flatten_nil, List.append_nil]
theorem flat_le {Ls : List (List Ru)} (k : Nat) : (Ls.take k).flatten.length ≤ Ls.flatten.length := by
  have : Ls.flatten = (Ls.take k).flatten ++ (Ls.drop k).flatten := by rw [← List.flatten_append, List.take_append_drop]
  rw [this, List.length_append]
  omega

set_option maxHeartbeats 4000000 in
set_option maxRecDepth 100000 in
theorem concat_any (g o m cap : Nat) (Ls : List (List Ru)) (w : World) (hm : Ls.length = m) (hm2 : m ≤ 1000) (hc : PAt w g o Ls) (hs : Ls.flatten.length ≤ 1000) :
    Calls Tryd.prog 42 #[.slice (some ⟨g, o, none⟩) m cap] w fun e w' => ∃ v, e = .returned v ∧ w'.ownsRow w.heap.size 51 6 v Ls.flatten.length (cellsR Ls.flatten) ∧ Below w.heap.size w w' := by
  have HM : Hid (Ls.length = m) := hm
  have HC : Hid (PAt w g o Ls) := hc
  have HS : Hid (Ls.flatten.length ≤ 1000) := hs
  obtain ⟨N, hN⟩ : ∃ N, N = Ls.flatten.length := ⟨_, rfl⟩
  have HN : Hid (N = Ls.flatten.length) := hN
  have hN2 : N ≤ 1000 := by omega
  clear hm hc hs hN
  go_enter Tryd.func42, Tryd.ntmps42
  go_upto_block 0 with fail
  go_cut [3] from 3 (fun z w' => z = .int .i64 (N : Int) ∧ w' = w)
  case first =>
    go_wp2
    go_loopw [3, 11] (fun z i wr => ∃ k : Nat, k ≤ m ∧ i = .int .i64 k ∧ z = .int .i64 ((Ls.take k).flatten.length : Int) ∧ wr = w) (fun _ i _ => m - (intOf i).toNat)
    case atStart => exact ⟨0, by omega, rfl, rfl, rfl⟩
    case round =>
      obtain ⟨k, hk, rfl, rfl, rfl⟩ := hrel
      by_cases hlt : k < m
      · have hkl : k < Ls.length := by rw [HM.out]; exact hlt
        obtain ⟨ao, n, cap2, q0, hsr⟩ := HC.out k hkl
        have HT : Hid ((Ls.take (k + 1)).flatten.length = (Ls.take k).flatten.length + n) := by
          show _ = _
          rw [flat_next hkl, List.length_append, hsr.len]
        have hb1 : (Ls.take k).flatten.length + n ≤ 1000 := by
          have h1 := flat_le (Ls := Ls) (k + 1)
          have h2 := HS.out
          have h3 := HT.out
          omega
        generalize (Ls.take k).flatten.length = z at *
        clear hsr
        go_wp2
        go_roundw
        case rel => exact ⟨k + 1, by omega, by go_num, by rw [HT.out]; go_num, by simp⟩
        case measure => simp [intOf]; omega
      · obtain rfl : k = m := by omega
        go_wp2_with fail
        go_meet
        case rel => exact ⟨by rw [← HM.out, List.take_length, HN.out], rfl⟩
  case rest =>
    obtain ⟨rfl, rfl⟩ := hcut
    go_wp2_with fail
    refine (grow_nil N _ hN2).mono ?_
    rintro e w1 ⟨v, rfl, hown, hB⟩
    have HO : Hid (w1.ownsRow wc.heap.size 51 6 v 0 []) := hown
    have HB : Hid (Below wc.heap.size wc w1) := hB
    clear hown hB
    go_wp2
    go_loopw [6, 27] (fun u i wr => ∃ k : Nat, k ≤ m ∧ i = .int .i64 k ∧ wr.ownsRow wc.heap.size 51 6 u (Ls.take k).flatten.length (cellsR (Ls.take k).flatten) ∧ Below wc.heap.size wc wr) (fun _ i _ => m - (intOf i).toNat)
    case atStart => exact ⟨0, by omega, rfl, HO.out, HB.out⟩
    case round =>
      obtain ⟨k, hk, rfl, hown, hB⟩ := hrel
      have HOW : Hid (wr.ownsRow wc.heap.size 51 6 u6 (Ls.take k).flatten.length (cellsR (Ls.take k).flatten)) := hown
      have HBW : Hid (Below wc.heap.size wc wr) := hB
      clear hown
      by_cases hlt : k < m
      · have hkl : k < Ls.length := by rw [HM.out]; exact hlt
        obtain ⟨ao, n, cap2, q0, hsr⟩ := (HC.out.later hB) k hkl
        have HSR : Hid (SR wr (.slice ao n cap2) Ls[k]) := hsr
        have HL1 : Hid ((Ls.take k).flatten.length + Ls[k].length ≤ 1000) := by
          have h1 := flat_le (Ls := Ls) (k + 1)
          rw [flat_next hkl, List.length_append] at h1
          have h2 := HS.out
          show _ ≤ _
          omega
        clear hsr hB
        go_wp2_with (at_builtin; refine wpList_append_SR _ rfl _ _ 58 rfl Tryd.underlying58 wc.heap.size _ rfl _ HOW.out _ rfl _ HSR.out HL1.out HBW.out.size ?_)
        intro v' w3 hown3 hgrow
        have HO5 : Hid (w3.ownsRow wc.heap.size 51 6 v' (Ls.take (k + 1)).flatten.length (cellsR (Ls.take (k + 1)).flatten)) := by
          show w3.ownsRow _ _ _ _ _ _
          rw [flat_next hkl, show ((Ls.take k).flatten ++ Ls[k]).length = (List.take k (List.map List.length Ls)).sum + Ls[k].length by simp]
          exact hown3
        have HB5 : Hid (Below wc.heap.size wc w3) := HBW.out.grown hgrow HBW.out.size (fun g hg => (HOW.out.lt g hg).1)
        clear hown3 hgrow q0
        go_wp2
        go_roundw
        case rel => exact ⟨k + 1, by omega, by go_num, HO5.out, HB5.out⟩
        case measure => simp [intOf]; omega
      · obtain rfl : k = m := by omega
        go_wp2
        go_ret
        refine ⟨_, rfl, ?_, HBW.out⟩
        have := HOW.out
        rw [← HM.out, List.take_length] at this
        exact this
end Go.Proofs.YtokkmnednhigmaeDoor
/- A region that draws its order and only reads, in a class of worlds: its operations, one by one, in the order of the text. -/
namespace Go.Proofs.YtokkmnednhigmaeDoor
open Go.RowKit

theorem quiet_val {P : Program} {o : Oper} {a : Act} {C : World → Prop} {K : Act → Prop} {v : Value}
    (hy : ∀ w, C w → (execOp a.eval o).run P w = .ok (.value v) w) (h : K (a.put o.dst v)) : o.quiet P a C K :=
  ⟨v, fun w hC => by unfold Oper.quietAt; rw [hy w hC]; exact ⟨rfl, rfl⟩, h⟩
theorem quiet_call {P : Program} {o : Oper} {a : Act} {C : World → Prop} {K : Act → Prop} {v : Value} {f : FuncId} {args : Array Value}
    (he : ∀ w, (execOp a.eval o).run P w = .ok (.enter f args) w) (hc : ∀ w, C w → Calls P f args w fun e w'' => e = .returned v ∧ C w'') (h : K (a.put o.dst v)) : o.quiet P a C K :=
  ⟨v, fun w hC => by unfold Oper.quietAt; rw [he w]; exact ⟨rfl, hc w hC⟩, h⟩
theorem q_want {P : Program} {ops : Array Oper} {C : World → Prop} {Q : Act → Prop} {a : Act} {o : Oper} {rest : List Oper} (hw : Region.wanted o (yielded ops a.tmps) = true)
    (h : ∀ K : Act → Prop, (∀ a, wpQuiet P ops C Q rest a → K a) → o.quiet P a C K) : wpQuiet P ops C Q (o :: rest) a :=
  wpQuiet_step (fun K hK => by rw [if_pos hw]; exact h K hK)
theorem q_skip {P : Program} {ops : Array Oper} {C : World → Prop} {Q : Act → Prop} {a : Act} {o : Oper} {rest : List Oper} (hw : Region.wanted o (yielded ops a.tmps) = false)
    (h : wpQuiet P ops C Q rest (a.put o.dst undef)) : wpQuiet P ops C Q (o :: rest) a := by
  unfold wpQuiet
  rw [if_neg (by rw [hw]; exact Bool.false_ne_true)]
  exact h
/-- An operation on two values whose run is known. -/
theorem exec_bin {P : Program} {o : Oper} {a : Act} {w : World} {op : BinOp} {t t2 : TypeId} {x y : Operand} {v : Value} (ho : o.op = .binOp op t x y t2) (hg : (eqGuard op t x y (a.eval x) (a.eval y)).run P w = .ok () w)
    (h : (binOp op t (a.eval x) (a.eval y)).run P w = .ok v w) : (execOp a.eval o).run P w = .ok (.value v) w := by
  simp [execOp, ho, hg, h, Result.andThen]
theorem run_eql_of {P : Program} {w : World} {t : TypeId} {x y : Array Value} {b : Bool} (h : (Op.equal t (.agg x) (.agg y)).run P w = .ok b w) : (binOp .eql t (.agg x) (.agg y)).run P w = .ok (.bool b) w := by
  simp [binOp, h]
theorem run_neq_of {P : Program} {w : World} {t : TypeId} {x y : Array Value} {b : Bool} (h : (Op.equal t (.agg x) (.agg y)).run P w = .ok b w) : (binOp .neq t (.agg x) (.agg y)).run P w = .ok (.bool (!b)) w := by
  simp [binOp, h]
end Go.Proofs.YtokkmnednhigmaeDoor
/- What slices.Index answers at a table and a rule. -/
namespace Go.Proofs.YtokkmnednhigmaeDoor
open Go.RowKit
set_option linter.unusedSimpArgs false
set_option linter.unusedVariables false

/-- Where two rules part first, if at all. -/
theorem eq_ways (p m b o s v p' m' b' o' s' v' : Int) :
    ((p == p') = false ∧ eqR ⟨p, m, b, o, s, v⟩ ⟨p', m', b', o', s', v'⟩ = false) ∨
    ((p == p') = true ∧ (m == m') = false ∧ eqR ⟨p, m, b, o, s, v⟩ ⟨p', m', b', o', s', v'⟩ = false) ∨
    ((p == p') = true ∧ (m == m') = true ∧ (b == b') = false ∧ eqR ⟨p, m, b, o, s, v⟩ ⟨p', m', b', o', s', v'⟩ = false) ∨
    ((p == p') = true ∧ (m == m') = true ∧ (b == b') = true ∧ (o == o') = false ∧ eqR ⟨p, m, b, o, s, v⟩ ⟨p', m', b', o', s', v'⟩ = false) ∨
    ((p == p') = true ∧ (m == m') = true ∧ (b == b') = true ∧ (o == o') = true ∧ (s == s') = false ∧ eqR ⟨p, m, b, o, s, v⟩ ⟨p', m', b', o', s', v'⟩ = false) ∨
    ((p == p') = true ∧ (m == m') = true ∧ (b == b') = true ∧ (o == o') = true ∧ (s == s') = true ∧ (v == v') = false ∧ eqR ⟨p, m, b, o, s, v⟩ ⟨p', m', b', o', s', v'⟩ = false) ∨
    ((p == p') = true ∧ (m == m') = true ∧ (b == b') = true ∧ (o == o') = true ∧ (s == s') = true ∧ (v == v') = true ∧ eqR ⟨p, m, b, o, s, v⟩ ⟨p', m', b', o', s', v'⟩ = true) := by
  unfold eqR
  by_cases h1 : p = p'
  · by_cases h2 : m = m'
    · by_cases h3 : b = b'
      · by_cases h4 : o = o'
        · by_cases h5 : s = s'
          · by_cases h6 : v = v'
            · simp [h1, h2, h3, h4, h5, h6]
            · simp [h1, h2, h3, h4, h5, h6]
          · simp [h1, h2, h3, h4, h5]
        · simp [h1, h2, h3, h4]
      · simp [h1, h2, h3]
    · simp [h1, h2]
  · simp [h1]

set_option maxRecDepth 100000 in
theorem run_eqlR (p m b o s v p' m' b' o' s' v' : Int) (w : World) : (binOp .eql 51 (.agg #[.int .i64 p, .int .i64 m, .int .i64 b, .int .i64 o, .int .i64 s, .int .i64 v]) (.agg #[.int .i64 p', .int .i64 m', .int .i64 b', .int .i64 o', .int .i64 s', .int .i64 v'])).run Tryd.prog w = .ok (.bool (eqR ⟨p, m, b, o, s, v⟩ ⟨p', m', b', o', s', v'⟩)) w := by
  rcases eq_ways p m b o s v p' m' b' o' s' v' with ⟨e1, e⟩ | ⟨e1, e2, e⟩ | ⟨e1, e2, e3, e⟩ | ⟨e1, e2, e3, e4, e⟩ | ⟨e1, e2, e3, e4, e5, e⟩ | ⟨e1, e2, e3, e4, e5, e6, e⟩ | ⟨e1, e2, e3, e4, e5, e6, e⟩
  all_goals
    rw [e]
    go_simp
/-- A rule in a box, another one at an address: a class of worlds. -/
def CI (w : World) (B : Nat) (p m b q s v : Int) (g o : Nat) (p' m' b' q' s' v' : Int) (w' : World) : Prop :=
  Below w.heap.size w w' ∧ (w'.cell? ⟨B, 0, none⟩ = some (.int .i64 p) ∧ w'.cell? ⟨B, 1, none⟩ = some (.int .i64 m) ∧ w'.cell? ⟨B, 2, none⟩ = some (.int .i64 b) ∧
    w'.cell? ⟨B, 3, none⟩ = some (.int .i64 q) ∧ w'.cell? ⟨B, 4, none⟩ = some (.int .i64 s) ∧ w'.cell? ⟨B, 5, none⟩ = some (.int .i64 v)) ∧
  w'.cell? ⟨g, o, none⟩ = some (.int .i64 p') ∧ w'.cell? ⟨g, o + 1, none⟩ = some (.int .i64 m') ∧ w'.cell? ⟨g, o + 2, none⟩ = some (.int .i64 b') ∧
    w'.cell? ⟨g, o + 3, none⟩ = some (.int .i64 q') ∧ w'.cell? ⟨g, o + 4, none⟩ = some (.int .i64 s') ∧ w'.cell? ⟨g, o + 5, none⟩ = some (.int .i64 v')
theorem CI.later {w W W' : World} {B : Nat} {p m b q s v : Int} {g o : Nat} {p' m' b' q' s' v' : Int} (hb : Below W.heap.size W W') (h : CI w B p m b q s v g o p' m' b' q' s' v' W) : CI w B p m b q s v g o p' m' b' q' s' v' W' := by
  obtain ⟨h0, ⟨h1, h2, h3, h4, h5, h6⟩, k1, k2, k3, k4, k5, k6⟩ := h
  exact ⟨h0.trans (hb.mono h0.size), ⟨cell_later hb h1, cell_later hb h2, cell_later hb h3, cell_later hb h4, cell_later hb h5, cell_later hb h6⟩, cell_later hb k1, cell_later hb k2, cell_later hb k3, cell_later hb k4, cell_later hb k5, cell_later hb k6⟩

set_option maxHeartbeats 2000000 in
set_option maxRecDepth 100000 in
theorem index_any (ao : Option Addr) (n cap : Nat) (p m b o s v : Int) (L : List Ru) (w : World) (hn : L.length = n) (hn2 : n ≤ maxLen) (ha : 0 < n → ∃ g o, ao = some ⟨g, o, none⟩ ∧ RAt w g o L ∧ cap ≤ maxLen) :
    Calls Tryd.prog 65 #[.slice ao n cap, .agg #[.int .i64 p, .int .i64 m, .int .i64 b, .int .i64 o, .int .i64 s, .int .i64 v]] w fun e w' => e = .returned (.int .i64 (ixP (fun a => eqR ⟨p, m, b, o, s, v⟩ a) L)) ∧ Below w.heap.size w w' := by
  have HN : Hid (L.length = n) := hn
  have HA : Hid (0 < n → ∃ g o, ao = some ⟨g, o, none⟩ ∧ RAt w g o L ∧ cap ≤ maxLen) := ha
  have HC0 := C6.new w p m b o s v 51
  have HB0 : Hid (Below w.heap.size w (w.alloc (Obj.cells #[Value.int IntKind.i64 p, Value.int IntKind.i64 m, Value.int IntKind.i64 b, Value.int IntKind.i64 o, Value.int IntKind.i64 s, Value.int IntKind.i64 v] 51))) := (Below.refl _ _).alloc (Nat.le_refl _) _
  unfold maxLen at hn2
  clear hn ha
  go_enter Tryd.func65, Tryd.ntmps65
  go_wp2
  go_loopw [8] (fun i wr => ∃ k : Nat, k ≤ n ∧ i = .int .i64 k ∧ (L.take k).any (fun a => eqR ⟨p, m, b, o, s, v⟩ a) = false ∧ Below w.heap.size w wr ∧ C6 wr w.heap.size 0 ⟨p, m, b, o, s, v⟩)
    (fun i _ => n - (intOf i).toNat)
  case atStart => exact ⟨0, by omega, rfl, by simp, HB0.out, HC0⟩
  case round =>
    obtain ⟨k, hk, rfl, hno, hB, hC⟩ := hrel
    have HB : Hid (Below w.heap.size w wr) := hB
    have HC : Hid (C6 wr w.heap.size 0 ⟨p, m, b, o, s, v⟩) := hC
    have HNO : Hid ((L.take k).any (fun a => eqR ⟨p, m, b, o, s, v⟩ a) = false) := hno
    clear hno HC0 HB0
    by_cases hlt : k < n
    · obtain ⟨g, og, hao, hc, _⟩ := HA.out (by omega)
      subst hao
      obtain ⟨p', m', b', o', s', v', hkl, hL, q0, q1, q2, q3, q4, q5⟩ := (hc.later hB).at HN.out hlt
      have HL : Hid (L[k] = ⟨p', m', b', o', s', v'⟩) := hL
      obtain ⟨r0, r1, r2, r3, r4, r5⟩ := hC
      simp only [Nat.zero_add] at r0 r1 r2 r3 r4 r5
      have HCE : Hid (CI wr w.heap.size p m b o s v g (og + k * 6) p' m' b' o' s' v' wr) := ⟨Below.refl _ _, ⟨r0, r1, r2, r3, r4, r5⟩, q0, q1, q2, q3, q4, q5⟩
      clear hL hB HA q0 q1 q2 q3 q4 q5 r0 r1 r2 r3 r4 r5
      go_upto_region 4 with fail
      have kb0 : (0 : Int) ≤ (k : Int) := by omega
      have kb1 : (k : Int) < (n : Int) := by omega
      go_cut [16] from 9 to 18 (fun c w' => c = .bool (eqR ⟨p, m, b, o, s, v⟩ ⟨p', m', b', o', s', v'⟩) ∧ Below wr.heap.size wr w')
      case first =>
        as_aux_lemma =>
          refine wp_region_quiet (C := CI wr w.heap.size p m b o s v g (og + k * 6) p' m' b' o' s' v') (by kernel_rfl) (by kernel_rfl) (CI.later (W := wr) (Below.drew (Below.refl _ _)) HCE.out) ?_
          simp only [List.toList_toArray]
          go_big_quiet_want
          refine quiet_val (v := .agg #[.int .i64 p, .int .i64 m, .int .i64 b, .int .i64 o, .int .i64 s, .int .i64 v]) (fun w' hC => ?_) ?_
          · obtain ⟨z0, ⟨z1, z2, z3, z4, z5, z6⟩, y1, y2, y3, y4, y5, y6⟩ := hC
            go_simp
          simp only [Act.put, List.setIfInBounds_toArray, List.set_cons_zero, List.set_cons_succ]
          go_big_quiet_on
          go_big_quiet_want
          refine quiet_val (v := .slice (some ⟨g, og, none⟩) n cap) (fun w' hC => ?_) ?_
          · obtain ⟨z0, ⟨z1, z2, z3, z4, z5, z6⟩, y1, y2, y3, y4, y5, y6⟩ := hC
            go_simp
          simp only [Act.put, List.setIfInBounds_toArray, List.set_cons_zero, List.set_cons_succ]
          go_big_quiet_on
          go_big_quiet_want
          refine quiet_val (v := .int .i64 (k : Int)) (fun w' hC => ?_) ?_
          · obtain ⟨z0, ⟨z1, z2, z3, z4, z5, z6⟩, y1, y2, y3, y4, y5, y6⟩ := hC
            go_simp
          simp only [Act.put, List.setIfInBounds_toArray, List.set_cons_zero, List.set_cons_succ]
          go_big_quiet_on
          go_big_quiet_want
          refine quiet_val (v := .pointer (some ⟨g, og + k * 6, none⟩)) (fun w' hC => ?_) ?_
          · obtain ⟨z0, ⟨z1, z2, z3, z4, z5, z6⟩, y1, y2, y3, y4, y5, y6⟩ := hC
            go_simp
          simp only [Act.put, List.setIfInBounds_toArray, List.set_cons_zero, List.set_cons_succ]
          go_big_quiet_on
          go_big_quiet_want
          refine quiet_val (v := .agg #[.int .i64 p', .int .i64 m', .int .i64 b', .int .i64 o', .int .i64 s', .int .i64 v']) (fun w' hC => ?_) ?_
          · obtain ⟨z0, ⟨z1, z2, z3, z4, z5, z6⟩, y1, y2, y3, y4, y5, y6⟩ := hC
            go_simp
          simp only [Act.put, List.setIfInBounds_toArray, List.set_cons_zero, List.set_cons_succ]
          go_big_quiet_on
          go_big_quiet_want
          refine quiet_val (v := .bool (eqR ⟨p, m, b, o, s, v⟩ ⟨p', m', b', o', s', v'⟩)) (fun w' hC => exec_bin rfl (by go_simp) (run_eqlR p m b o s v p' m' b' o' s' v' w')) ?_
          simp only [Act.put, List.setIfInBounds_toArray, List.set_cons_zero, List.set_cons_succ]
          go_big_quiet_on
          refine wpQuiet_nil ?_
          intro w' hC
          go_wp2_with fail
          go_meet
          case rel => exact ⟨rfl, hC.1⟩
      case rest =>
        obtain ⟨rfl, hB2⟩ := hcut
        have HB2 : Hid (Below w.heap.size w wc) := HB.out.trans (hB2.mono HB.out.size)
        have HC2 : Hid (C6 wc w.heap.size 0 ⟨p, m, b, o, s, v⟩) := HC.out.later hB2
        clear hB2
        cases ho : eqR ⟨p, m, b, o, s, v⟩ ⟨p', m', b', o', s', v'⟩
        · go_wp2
          go_roundw
          case rel => exact ⟨k + 1, by omega, by go_num, any_nextR hkl HNO.out (by rw [HL.out]; exact ho), HB2.out, HC2.out⟩
          case measure => simp [intOf]; omega
        · go_wp2
          go_ret
          exact ⟨by rw [ixP_hit hkl HNO.out (by rw [HL.out]; exact ho)]; rfl, HB2.out⟩
    · obtain rfl : k = n := by omega
      go_wp2
      go_ret
      exact ⟨by have := HNO.out; rw [← HN.out, List.take_length] at this; rw [ixP_no this]; rfl, HB.out⟩
end Go.Proofs.YtokkmnednhigmaeDoor
/- What table.Do answers, called with any table, and any rule to be added or taken away. -/
namespace Go.Proofs.YtokkmnednhigmaeDoor
open Go.RowKit
set_option linter.unusedSimpArgs false
set_option linter.unusedVariables false

set_option maxHeartbeats 1000000 in
theorem with1_any (p m b o s v : Int) (r : Ru) (B : Nat) (w : World) (hc : C6 w B 0 r) :
    Calls Tryd.prog 64 #[.agg #[.int .i64 p, .int .i64 m, .int .i64 b, .int .i64 o, .int .i64 s, .int .i64 v], .pointer (some ⟨B, 0, none⟩)] w fun e w' => e = .returned (.bool (keyB ⟨p, m, b, o, s, v⟩ r)) ∧ Below w.heap.size w w' := by
  obtain ⟨p', m', b', o', s', v'⟩ := r
  obtain ⟨c0, c1, c2, c3, c4, c5⟩ := hc
  simp only [Nat.zero_add] at c0 c1 c2 c3 c4 c5
  have hlt : B < w.heap.size := World.block_lt_of_cell? _ _ c0
  go_enter Tryd.func64, Tryd.ntmps64
  go_wp2_with fail
  refine (clash_any _ _ _ _ _ _ _ _ _ _ _ _ _).mono ?_
  rintro e w1 ⟨rfl, hb1⟩
  go_wp2
  go_ret
  exact ⟨rfl, ((Below.refl _ _).alloc (Nat.le_refl _) _).trans (hb1.mono (by simp))⟩
theorem with1_asks (r : Ru) (B : Nat) (w : World) (hc : C6 w B 0 r) : Asks w 64 (.pointer (some ⟨B, 0, none⟩)) (fun a => keyB a r) :=
  fun p m b o s v W hW => with1_any p m b o s v r B W (hc.later hW)

theorem SR.nil (w : World) : SR w (.slice none 0 0) [] := .inl ⟨none, 0, rfl, rfl⟩
/-- A row of these rules that lies in a new block. -/
def NR (w : World) (B : Nat) (v : Value) (L : List Ru) : Prop := w.ownsRow B 51 6 v L.length (cellsR L)
theorem NR.sr {w : World} {B : Nat} {v : Value} {L : List Ru} (h : NR w B v L) : SR w v L := own_SR h
theorem NR.nil (w : World) (B : Nat) : NR w B (.slice none 0 0) [] := World.ownsRow_nil w B _ 6
theorem NR.mono {w : World} {B B' : Nat} {v : Value} {L : List Ru} (h : NR w B v L) (hB : B' ≤ B) : NR w B' v L := by
  obtain ⟨h1, h2 | ⟨g, cap, cur, hv, hb, h3⟩⟩ := h
  · exact ⟨h1, .inl h2⟩
  · exact ⟨h1, .inr ⟨g, cap, cur, hv, Nat.le_trans hB hb, h3⟩⟩
theorem NR.later {w w' : World} {B : Nat} {v : Value} {L : List Ru} (h : NR w B v L) (hb : Below w.heap.size w w') : NR w' B v L := h.kept ⟨hb.os, hb.tape, hb.output, hb.size, fun k hk _ => hb.block k hk⟩ (Classical.em _)
theorem NR.of {w : World} {B : Nat} {v : Value} {L M : List Ru} (h : w.ownsRow B 51 6 v L.length (cellsR L)) (e : L = M) : NR w B v M := by subst e; exact h
theorem sr_one (w : World) (p m b o s v : Int) (t : TypeId) : SR (w.alloc (.cells #[.int .i64 p, .int .i64 m, .int .i64 b, .int .i64 o, .int .i64 s, .int .i64 v] t)) (.slice (some ⟨w.heap.size, 0, none⟩) 1 1) [⟨p, m, b, o, s, v⟩] := by
  refine .inr ⟨w.heap.size, 0, 1, rfl, Nat.le_refl _, by unfold maxLen; omega, fun i hi => ?_⟩
  obtain rfl : i = 0 := by simp at hi; omega
  have h := C6.new w p m b o s v t
  simp only [Nat.zero_mul, Nat.add_zero, List.getElem_cons_zero]
  exact h
/-- Two slices of rules in a new row. -/
theorem pat2 {W : World} {a1 a2 : Option Addr} {n1 c1 n2 c2 : Nat} {L1 L2 : List Ru} (t : TypeId) (h1 : SR W (.slice a1 n1 c1) L1) (h2 : SR W (.slice a2 n2 c2) L2) :
    PAt (W.alloc (.cells #[.slice a1 n1 c1, .slice a2 n2 c2] t)) W.heap.size 0 [L1, L2] := by
  have hb : Below W.heap.size W (W.alloc (.cells #[.slice a1 n1 c1, .slice a2 n2 c2] t)) := (Below.refl _ _).alloc (Nat.le_refl _) _
  intro i hi
  match i, hi with
  | 0, _ => exact ⟨a1, n1, c1, by simp, h1.later hb⟩
  | 1, _ => exact ⟨a2, n2, c2, by simp, h2.later hb⟩
theorem RAt.drop {w : World} {g o : Nat} {L : List Ru} (h : RAt w g o L) (k : Nat) : RAt w g (o + k * 6) (L.drop k) := by
  intro i hi
  have hi2 : k + i < L.length := by simp at hi; omega
  have := h (k + i) hi2
  rw [List.getElem_drop]
  have e : o + (k + i) * 6 = o + k * 6 + i * 6 := by omega
  rw [← e]
  exact this
theorem ch_hit {L : List Ru} {r : Ru} (h : hitB L r = true) : chN L true r = 7 := by simp [chN, h]
theorem ch_full {L : List Ru} {r : Ru} (h : hitB L r = false) (h2 : 12 ≤ L.length) : chN L true r = 4 := by simp [chN, h, h2]
theorem ch_add {L : List Ru} {r : Ru} (h : hitB L r = false) (h2 : ¬ 12 ≤ L.length) : chN L true r = 0 := by simp [chN, h, h2]
theorem chL_ne {L : List Ru} {a : Bool} {r : Ru} (h : chN L a r ≠ 0) : chL L a r = [] := by simp [chL, h]
theorem chL_add {L : List Ru} {r : Ru} (h : chN L true r = 0) : chL L true r = L ++ [r] := by simp [chL, h]
theorem ch_none {L : List Ru} {r : Ru} (h : inB L r = false) : chN L false r = 5 := by simp [chN, h]
theorem ch_take {L : List Ru} {r : Ru} (h : inB L r = true) : chN L false r = 0 := by simp [chN, h]
theorem chL_take {L : List Ru} {r : Ru} (h : chN L false r = 0) : chL L false r = L.take (ixN L r) ++ L.drop (ixN L r + 1) := by simp [chL, h]

set_option maxHeartbeats 2000000 in
set_option maxRecDepth 100000 in
theorem with_any (ao : Option Addr) (n cap : Nat) (p m b o s v : Int) (L : List Ru) (w : World) (hs : SR w (.slice ao n cap) L) :
    Calls Tryd.prog 44 #[.slice ao n cap, .agg #[.int .i64 p, .int .i64 m, .int .i64 b, .int .i64 o, .int .i64 s, .int .i64 v]] w fun e w' => ∃ u, e = .returned (.tuple #[u, noV (chN L true ⟨p, m, b, o, s, v⟩)]) ∧ NR w' w.heap.size u (chL L true ⟨p, m, b, o, s, v⟩) ∧ Below w.heap.size w w' := by
  obtain ⟨ao', n', cap', e, hn, hn2, hn3, ha⟩ := hs.form
  cases e
  have HN : Hid (L.length = n) := hn
  have HC0 := C6.new w p m b o s v 51
  have hB0 : Below w.heap.size w (w.alloc (Obj.cells #[Value.int IntKind.i64 p, Value.int IntKind.i64 m, Value.int IntKind.i64 b, Value.int IntKind.i64 o, Value.int IntKind.i64 s, Value.int IntKind.i64 v] 51)) := (Below.refl _ _).alloc (Nat.le_refl _) _
  have HS0 : Hid (SR (w.alloc (Obj.cells #[Value.int IntKind.i64 p, Value.int IntKind.i64 m, Value.int IntKind.i64 b, Value.int IntKind.i64 o, Value.int IntKind.i64 s, Value.int IntKind.i64 v] 51)) (.slice ao n cap) L) := hs.later hB0
  have HA : Hid (0 < n → ∃ g o, ao = some ⟨g, o, none⟩ ∧ RAt w g o L ∧ cap ≤ maxLen) := ha
  have HB0 : Hid (Below w.heap.size w (w.alloc (Obj.cells #[Value.int IntKind.i64 p, Value.int IntKind.i64 m, Value.int IntKind.i64 b, Value.int IntKind.i64 o, Value.int IntKind.i64 s, Value.int IntKind.i64 v] 51))) := hB0
  have HM : Hid (n ≤ maxLen) := hn2
  have hn63 : n ≤ 9223372036854775807 := by unfold maxLen at hn2; omega
  clear hn ha hs hn2 hB0
  cases hh : hitB L ⟨p, m, b, o, s, v⟩
  · have HH : Hid (L.any (fun a => keyB a ⟨p, m, b, o, s, v⟩) = false) := hh
    by_cases h12 : 12 ≤ n
    · rw [ch_full hh (by rw [HN.out]; exact h12), chL_ne (by rw [ch_full hh (by rw [HN.out]; exact h12)]; decide)]
      clear hh
      go_enter Tryd.func44, Tryd.ntmps44
      go_wp2_with fail
      refine (containsF ao n cap _ _ _ L _ HN.out HM.out (fun h => by obtain ⟨g, o, e1, e2, e3⟩ := HA.out h; exact ⟨g, o, e1, e2.later HB0.out, e3⟩) (enters_of Tryd.func64 (by kernel_rfl) rfl) (with1_asks ⟨p, m, b, o, s, v⟩ _ _ HC0)).mono ?_
      rintro e w1 ⟨rfl, hb1⟩
      rw [HH.out]
      have HB1 : Hid (Below w.heap.size w w1) := HB0.out.trans (hb1.mono HB0.out.size)
      clear hb1
      go_wp2
      refine bodyPost_ret (v := .tuple #[.slice none 0 0, .iface 63 (.int .i64 4)]) (by simp [results, Tryd.results44, go_sem]) rfl ⟨_, rfl, NR.nil _ _, HB1.out⟩
    · rw [ch_add hh (by rw [HN.out]; exact h12), chL_add (ch_add hh (by rw [HN.out]; exact h12))]
      clear hh
      go_enter Tryd.func44, Tryd.ntmps44
      go_wp2_with fail
      refine (containsF ao n cap _ _ _ L _ HN.out HM.out (fun h => by obtain ⟨g, o, e1, e2, e3⟩ := HA.out h; exact ⟨g, o, e1, e2.later HB0.out, e3⟩) (enters_of Tryd.func64 (by kernel_rfl) rfl) (with1_asks ⟨p, m, b, o, s, v⟩ _ _ HC0)).mono ?_
      rintro e w1 ⟨rfl, hb1⟩
      rw [HH.out]
      have HB1 : Hid (Below w.heap.size w w1) := HB0.out.trans (hb1.mono HB0.out.size)
      have HS1 : Hid (SR w1 (.slice ao n cap) L) := HS0.out.later hb1
      obtain ⟨c0, c1, c2, c3, c4, c5⟩ := HC0.later hb1
      simp only [Nat.zero_add] at c0 c1 c2 c3 c4 c5
      have hlt : w.heap.size < w1.heap.size := World.block_lt_of_cell? _ _ c0
      clear hb1
      go_wp2_with fail
      have hB2 : Below w1.heap.size w1 (w1.alloc (Obj.cells #[Value.int IntKind.i64 p, Value.int IntKind.i64 m, Value.int IntKind.i64 b, Value.int IntKind.i64 o, Value.int IntKind.i64 s, Value.int IntKind.i64 v] 51)) := (Below.refl _ _).alloc (Nat.le_refl _) _
      have hp := pat2 58 (HS1.out.later hB2) (sr_one w1 p m b o s v 51)
      have hB3 := hB2.trans (((Below.refl _ _).alloc (Nat.le_refl _) (.cells #[.slice ao n cap, .slice (some ⟨w1.heap.size, 0, none⟩) 1 1] 58)).mono hB2.size)
      simp only [World.size_alloc] at hp
      refine (concat_any _ 0 2 2 [L, [⟨p, m, b, o, s, v⟩]] _ rfl (by omega) hp (by simp [HN.out]; omega)).mono ?_
      rintro e w2 ⟨u, rfl, hown, hb2⟩
      have HB2 : Hid (Below w.heap.size w w2) := HB1.out.trans ((hB3.trans (hb2.mono hB3.size)).mono HB1.out.size)
      have HO : Hid (NR w2 w.heap.size u (L ++ [⟨p, m, b, o, s, v⟩])) := (NR.of hown (by simp)).mono (by have := HB1.out.size; simp; omega)
      clear hb2 hown hp hB2 hB3
      go_wp2
      refine bodyPost_ret (v := .tuple #[u, .nilIface]) (by simp [results, Tryd.results44, go_sem]) rfl ⟨_, rfl, HO.out, HB2.out⟩
  · have HH : Hid (L.any (fun a => keyB a ⟨p, m, b, o, s, v⟩) = true) := hh
    rw [ch_hit hh, chL_ne (by rw [ch_hit hh]; decide)]
    clear hh
    go_enter Tryd.func44, Tryd.ntmps44
    go_wp2_with fail
    refine (containsF ao n cap _ _ _ L _ HN.out HM.out (fun h => by obtain ⟨g, o, e1, e2, e3⟩ := HA.out h; exact ⟨g, o, e1, e2.later HB0.out, e3⟩) (enters_of Tryd.func64 (by kernel_rfl) rfl) (with1_asks ⟨p, m, b, o, s, v⟩ _ _ HC0)).mono ?_
    rintro e w1 ⟨rfl, hb1⟩
    rw [HH.out]
    have HB1 : Hid (Below w.heap.size w w1) := HB0.out.trans (hb1.mono HB0.out.size)
    clear hb1
    go_wp2
    refine bodyPost_ret (v := .tuple #[.slice none 0 0, .iface 63 (.int .i64 7)]) (by simp [results, Tryd.results44, go_sem]) rfl ⟨_, rfl, NR.nil _ _, HB1.out⟩

theorem keepQ {w1 W W' : World} (hb : Below W.heap.size W W') (h : Below w1.heap.size w1 W) : Below w1.heap.size w1 W' := h.trans (hb.mono h.size)
theorem ix_no {L : List Ru} {r : Ru} (h : inB L r = false) : ixP (fun a => eqR r a) L = -1 := ixP_no h
theorem ix_yes {L : List Ru} {r : Ru} (h : inB L r = true) : ixP (fun a => eqR r a) L = (ixN L r : Int) := by
  unfold ixP
  rw [if_pos (show L.any (fun a => eqR r a) = true from h)]
  rfl
theorem ix_lt {L : List Ru} {r : Ru} (h : inB L r = true) : ixN L r < L.length := by
  unfold ixN
  rw [List.findIdx_lt_length]
  simpa [inB] using h

set_option maxHeartbeats 2000000 in
set_option maxRecDepth 100000 in
theorem without_any (ao : Option Addr) (n cap : Nat) (p m b o s v : Int) (L : List Ru) (w : World) (hs : SR w (.slice ao n cap) L) (h1000 : n ≤ 1000) :
    Calls Tryd.prog 45 #[.slice ao n cap, .agg #[.int .i64 p, .int .i64 m, .int .i64 b, .int .i64 o, .int .i64 s, .int .i64 v]] w fun e w' => ∃ u, e = .returned (.tuple #[u, noV (chN L false ⟨p, m, b, o, s, v⟩)]) ∧ NR w' w.heap.size u (chL L false ⟨p, m, b, o, s, v⟩) ∧ Below w.heap.size w w' := by
  obtain ⟨ao', n', cap', e, hn, hn2, hn3, ha⟩ := hs.form
  cases e
  have HN : Hid (L.length = n) := hn
  have hB0 : Below w.heap.size w (w.alloc (Obj.cells #[Value.int IntKind.i64 p, Value.int IntKind.i64 m, Value.int IntKind.i64 b, Value.int IntKind.i64 o, Value.int IntKind.i64 s, Value.int IntKind.i64 v] 51)) := (Below.refl _ _).alloc (Nat.le_refl _) _
  have HA : Hid (0 < n → ∃ g o, ao = some ⟨g, o, none⟩ ∧ RAt w g o L ∧ cap ≤ maxLen) := ha
  have HB0 : Hid (Below w.heap.size w (w.alloc (Obj.cells #[Value.int IntKind.i64 p, Value.int IntKind.i64 m, Value.int IntKind.i64 b, Value.int IntKind.i64 o, Value.int IntKind.i64 s, Value.int IntKind.i64 v] 51))) := hB0
  have HM : Hid (n ≤ maxLen) := hn2
  clear hn ha hs hn2 hB0
  cases hh : inB L ⟨p, m, b, o, s, v⟩
  · rw [ch_none hh, chL_ne (by rw [ch_none hh]; decide)]
    have HH : Hid (ixP (fun a => eqR ⟨p, m, b, o, s, v⟩ a) L = -1) := ix_no hh
    clear hh
    go_enter Tryd.func45, Tryd.ntmps45
    go_wp2_with fail
    refine (index_any ao n cap p m b o s v L _ HN.out HM.out (fun h => by obtain ⟨g, o, e1, e2, e3⟩ := HA.out h; exact ⟨g, o, e1, e2.later HB0.out, e3⟩)).mono ?_
    rintro e w1 ⟨rfl, hb1⟩
    rw [HH.out]
    have HB1 : Hid (Below w.heap.size w w1) := HB0.out.trans (hb1.mono HB0.out.size)
    clear hb1
    go_wp2
    refine bodyPost_ret (v := .tuple #[.slice none 0 0, .iface 63 (.int .i64 5)]) (by simp [results, Tryd.results45, go_sem]) rfl ⟨_, rfl, NR.nil _ _, HB1.out⟩
  · rw [ch_take hh, chL_take (ch_take hh)]
    have HH : Hid (ixP (fun a => eqR ⟨p, m, b, o, s, v⟩ a) L = (ixN L ⟨p, m, b, o, s, v⟩ : Int)) := ix_yes hh
    have hi : ixN L ⟨p, m, b, o, s, v⟩ < n := by
      have := ix_lt hh
      rw [HN.out] at this
      exact this
    obtain ⟨g, og, hao, hRA, hcm⟩ := HA.out (by omega)
    subst hao
    generalize ixN L ⟨p, m, b, o, s, v⟩ = i at *
    have HRA : Hid (RAt w g og L) := hRA
    have HCM : Hid (cap ≤ maxLen) := hcm
    have hc63 : (cap : Int) ≤ 9223372036854775807 := by unfold maxLen at hcm; omega
    clear hh hRA hcm HA
    go_enter Tryd.func45, Tryd.ntmps45
    go_wp2_with fail
    refine (index_any _ n cap p m b o s v L _ HN.out HM.out (fun h => ⟨g, og, rfl, HRA.out.later HB0.out, HCM.out⟩)).mono ?_
    rintro e w1 ⟨rfl, hb1⟩
    rw [HH.out]
    have HB1 : Hid (Below w.heap.size w w1) := HB0.out.trans (hb1.mono HB0.out.size)
    have HR1 : Hid (RAt w1 g og L) := (HRA.out.later HB0.out).later hb1
    clear hb1
    have i0 : ¬ ((i : Int) < 0) := by omega
    have i01 : (0 : Int) ≤ (i : Int) := by omega
    have i1 : (i : Int) ≤ (cap : Int) := by omega
    have i2 : ((i + 1 : Nat) : Int) ≤ (n : Int) := by omega
    have i21 : (0 : Int) ≤ ((i + 1 : Nat) : Int) := by omega
    have i3 : IntKind.i64.wrap ((i : Int) + 1) = ((i + 1 : Nat) : Int) := by rw [IntKind.wrap_i64]; omega
    have HT1 : Hid (SR w1 (.slice (some ⟨g, og, none⟩) i cap) (L.take i)) := by
      have e1 : (L.take i).length = i := by rw [List.length_take, HN.out]; omega
      exact .inr ⟨g, og, cap, by rw [e1], by rw [e1]; omega, HCM.out, HR1.out.take i⟩
    have HLEN : Hid ([L.take i, L.drop (i + 1)].flatten.length ≤ 1000) := by
      show _ ≤ 1000
      simp only [List.flatten_cons, List.flatten_nil, List.append_nil, List.length_append, List.length_take, List.length_drop, HN.out]
      omega
    by_cases hcj : cap = i + 1
    · have HT2 : Hid (SR w1 (.slice (some ⟨g, og, none⟩) 0 0) (L.drop (i + 1))) := .inl ⟨_, _, rfl, List.drop_eq_nil_of_le (by rw [HN.out]; omega)⟩
      generalize hj : i + 1 = j at i2 i21 i3 hcj
      subst hcj
      go_wp2
      go_region_held3 (fun w' => Below w1.heap.size w1 w') (first | assumption | exact Below.drew (Below.refl _ _) | exact keepQ (by assumption) (by assumption) | exact keepQ (Below.drew (Below.refl _ _)) (by assumption) | exact keepQ (Below.alloc (Below.refl _ _) (Nat.le_refl _) _) (by assumption))
        (first | (go_at_call 42; refine (concat_any _ 0 2 2 [L.take i, L.drop (i + 1)] _ rfl (by omega) ((pat2 _ HT1.out HT2.out).later (Below.drew (Below.refl _ _))) HLEN.out).mono ?_; rintro e w' ⟨u, rfl, hown, hb⟩))
      have HO : Hid (NR w' w.heap.size u (L.take i ++ L.drop (i + 1))) := (NR.of hown (by simp)).mono (by have := HB1.out.size; simp; omega)
      have HB2 : Hid (Below w.heap.size w w') := HB1.out.trans ((‹Below w1.heap.size w1 w'›).mono HB1.out.size)
      clear hown
      go_wp2
      refine bodyPost_ret (v := .tuple #[u, .nilIface]) (by simp [results, Tryd.results45, go_sem]) rfl ⟨_, rfl, HO.out, HB2.out⟩
      
    · have HT2 : Hid (SR w1 (.slice (some ⟨g, og + (i + 1) * 6, none⟩) (n - (i + 1)) (cap - (i + 1))) (L.drop (i + 1))) := by
        have e1 : (L.drop (i + 1)).length = n - (i + 1) := by rw [List.length_drop, HN.out]
        exact .inr ⟨g, og + (i + 1) * 6, cap - (i + 1), by rw [e1], by rw [e1]; omega, Nat.le_trans (Nat.sub_le _ _) HCM.out, HR1.out.drop (i + 1)⟩
      generalize hj : i + 1 = j at i2 i21 i3 hcj HT2 HLEN
      go_wp2
      go_region_held3 (fun w' => Below w1.heap.size w1 w') (first | assumption | exact Below.drew (Below.refl _ _) | exact keepQ (by assumption) (by assumption) | exact keepQ (Below.drew (Below.refl _ _)) (by assumption) | exact keepQ (Below.alloc (Below.refl _ _) (Nat.le_refl _) _) (by assumption))
        (first | (go_at_call 42; refine (concat_any _ 0 2 2 [L.take i, L.drop j] _ rfl (by omega) ((pat2 _ HT1.out HT2.out).later (Below.drew (Below.refl _ _))) HLEN.out).mono ?_; rintro e w' ⟨u, rfl, hown, hb⟩))
      have HO : Hid (NR w' w.heap.size u (L.take i ++ L.drop (i + 1))) := (NR.of hown (by rw [hj]; simp)).mono (by have := HB1.out.size; simp; omega)
      have HB2 : Hid (Below w.heap.size w w') := HB1.out.trans ((‹Below w1.heap.size w1 w'›).mono HB1.out.size)
      clear hown
      go_wp2
      refine bodyPost_ret (v := .tuple #[u, .nilIface]) (by simp [results, Tryd.results45, go_sem]) rfl ⟨_, rfl, HO.out, HB2.out⟩
      
end Go.Proofs.YtokkmnednhigmaeDoor
/- Rows of ops, and of tables, that a call owns: appending to them. -/
namespace Go.Proofs.YtokkmnednhigmaeDoor
open Go.RowKit
set_option linter.unusedSimpArgs false
set_option linter.unusedVariables false

/-- A row of these ops that lies in a new block. -/
def NO (w : World) (B : Nat) (v : Value) (L : List Op8) : Prop := w.ownsRow B 53 8 v L.length (cellsG opE L)
theorem NO.gs {w : World} {B : Nat} {v : Value} {L : List Op8} (h : NO w B v L) : GS opE w v L := own_GS (E := opE) h
theorem NO.nil (w : World) (B : Nat) : NO w B (.slice none 0 0) [] := World.ownsRow_nil w B _ 8
theorem NO.mono {w : World} {B B' : Nat} {v : Value} {L : List Op8} (h : NO w B v L) (hB : B' ≤ B) : NO w B' v L := by
  obtain ⟨h1, h2 | ⟨g, cap, cur, hv, hb, h3⟩⟩ := h
  · exact ⟨h1, .inl h2⟩
  · exact ⟨h1, .inr ⟨g, cap, cur, hv, Nat.le_trans hB hb, h3⟩⟩
theorem NO.later {w w' : World} {B : Nat} {v : Value} {L : List Op8} (h : NO w B v L) (hb : Below w.heap.size w w') : NO w' B v L := h.kept (grown_below hb) (none_or _)
theorem NO.ofn {w : World} {B n : Nat} {v : Value} {M L : List Op8} (h : w.ownsRow B 53 8 v n (cellsG opE M)) (hL : M = L) (hn : n = L.length) : NO w B v L := by subst hL hn; exact h
theorem NR.ofn {w : World} {B n : Nat} {v : Value} {M : List Ru} (h : w.ownsRow B 51 6 v n (cellsR M)) (hn : n = M.length) : NR w B v M := by subst hn; exact h
/-- Appending ops, whoever made them, to a row of ops that a call owns. -/
theorem wpList_append_ops (w : World) {ops : Array Oper} {rest : List Oper} {o : Oper} {a : Act} {Q : Exit → Act → World → Prop} (hgd : o.guard = none) (s x : Operand) (t : TypeId)
    (ho : o.op = .call { callee := .builtin .append, args := #[s, x], argTypes := #[t, t] }) (ht : Tryd.prog.underlying t = some (.slice 53)) (base : Nat)
    (v : Value) (hs : a.eval s = v) (L : List Op8) (hown : NO w base v L) (u : Value) (hx : a.eval x = u) (M : List Op8) (hM : GS opE w u M)
    (h100 : L.length + M.length ≤ 1000000) (hbase : base ≤ w.heap.size)
    (h : ∀ v' w', NO w' base v' (L ++ M) → w.grownBy w' v.ownBlock → wpList Tryd.prog ops Q rest (a.put o.dst v') w') : wpList Tryd.prog ops Q (o :: rest) a w := by
  obtain ⟨i0, hi, hz0, hz1, hz2⟩ := info_parts op_info
  exact wpList_append_GS (E := opE) w hgd s x t 53 ho ht i0 _ 64 hi hz0 hz1 hz2 op_zero base v hs L hown u hx M hM (by unfold maxLen; omega) (by omega) hbase h
theorem ta_info : (Tryd.prog.info? 58).map (fun i => (i.zero, i.size, i.bytes)) = some (some (.slice none 0 0), 1, 24) := by kernel_rfl
theorem ta_zero : (Value.slice none 0 0).cells.size = 1 := by simp [Value.cells]
/-- A copy of a slice of tables. -/
theorem wpList_append_tabs (w : World) {ops : Array Oper} {rest : List Oper} {o : Oper} {a : Act} {Q : Exit → Act → World → Prop} (hgd : o.guard = none) (s x : Operand) (t : TypeId)
    (ho : o.op = .call { callee := .builtin .append, args := #[s, x], argTypes := #[t, t] }) (ht : Tryd.prog.underlying t = some (.slice 58))
    (hs : a.eval s = .slice none 0 0) (u : Value) (hx : a.eval x = u) (Ts : List (List Ru)) (w0 : World) (hM : TS w0 u Ts) (hb : Below w0.heap.size w0 w) (h100 : Ts.length ≤ 1000000)
    (h : ∀ v' w' vs, TR 58 w' w0.heap.size w.heap.size v' vs Ts → w.grownBy w' none → wpList Tryd.prog ops Q rest (a.put o.dst v') w') : wpList Tryd.prog ops Q (o :: rest) a w := by
  obtain ⟨i0, hi, hz0, hz1, hz2⟩ := info_parts ta_info
  obtain ⟨vs, g1, g2, g3⟩ := ts_sl hM
  refine wpList_append_GS (E := slE) w hgd s x t 58 ho ht i0 _ 24 hi hz0 hz1 hz2 ta_zero w.heap.size _ hs [] (World.ownsRow_nil _ _ _ _) u hx vs (g1.later hb) (by unfold maxLen; simp [g2]; omega) (by simp [g2]; omega) (Nat.le_refl _) ?_
  intro v' w' h1 h2
  exact h v' w' vs (tr_copy g2 g3 hb h2 hb.size h1) h2
/-- One table more at the end of a row. -/
theorem wpList_append_tab (w : World) {ops : Array Oper} {rest : List Oper} {o : Oper} {a : Act} {Q : Exit → Act → World → Prop} (hgd : o.guard = none) (s x : Operand) (t : TypeId)
    (ho : o.op = .call { callee := .builtin .append, args := #[s, x], argTypes := #[t, t] }) (ht : Tryd.prog.underlying t = some (.slice 58)) (base : Nat)
    (v : Value) (hs : a.eval s = v) (vs : List SlT) (Ts : List (List Ru)) (A : Nat) (hown : TR 58 w A base v vs Ts) (g q c : Nat) (hx : a.eval x = .slice (some ⟨g, q, none⟩) 1 c) (y : SlT) (hy : w.cell? ⟨g, q, none⟩ = some (slV y)) (L : List Ru) (hL : SR w (slV y) L) (hoff : ∀ b, v.ownBlock = some b → offB y b) (hofz : ∀ b, A ≤ b → b < base → offB y b)
    (h100 : Ts.length ≤ 1000000) (hbase : base ≤ w.heap.size)
    (h : ∀ v' w', TR 58 w' A base v' (vs ++ [y]) (Ts ++ [L]) → w.grownBy w' v.ownBlock → wpList Tryd.prog ops Q rest (a.put o.dst v') w') : wpList Tryd.prog ops Q (o :: rest) a w := by
  obtain ⟨i0, hi, hz0, hz1, hz2⟩ := info_parts ta_info
  have hlv := hown.lv
  refine wpList_append_blk (E := slE) w hgd s x t 58 ho ht i0 _ 24 hi hz0 hz1 hz2 ta_zero base v hs vs hown.ov g q c hx y (fun j u hu => ?_) (by unfold maxLen; omega) (by omega) hbase ?_
  · obtain rfl : j = 0 := by
      have := (List.getElem?_eq_some_iff.1 hu).1
      have e : (slE.c y).length = 1 := rfl
      omega
    have e4 : slV y = u := Option.some.inj hu
    rw [Nat.add_zero, ← e4]
    exact hy
  · intro v' w' h1 h2 h3
    exact h v' w' (hown.push hL hoff hofz h2 h1 h3) h2
/-- A new table is a slice that lies in no older block. -/
theorem NR.sl {w : World} {B : Nat} {v : Value} {L : List Ru} (h : NR w B v L) : ∃ x : SlT, v = slV x ∧ ∀ b, b < B → offB x b := by
  rcases h.2 with ⟨rfl, h0⟩ | ⟨g, cap, cur, rfl, hg, _⟩
  · exact ⟨(none, 0, 0), rfl, fun b _ => .inl rfl⟩
  · refine ⟨(some ⟨g, 0, none⟩, L.length, cap), rfl, fun b hb => .inr fun a ha => ?_⟩
    cases ha
    show g ≠ b
    omega
end Go.Proofs.YtokkmnednhigmaeDoor
/- Two lists of lists that a call owns, behind two appends in whatever order. No program in it. -/
namespace Go.Proofs.YtokkmnednhigmaeDoor
open Go.RowKit
set_option linter.unusedSimpArgs false
set_option linter.unusedVariables false

theorem gnn_refl (w : World) : w.grownBy w none := ⟨rfl, rfl, rfl, Nat.le_refl _, fun _ _ _ => rfl⟩
theorem gnn_drew {w W : World} (h : w.grownBy W none) : w.grownBy W.drew none := ⟨h.os, h.tape, h.output, h.size, fun k hk hn => h.block k hk hn⟩
theorem gnn_alloc {w W : World} (h : w.grownBy W none) (o : Obj) : w.grownBy (W.alloc o) none :=
  ⟨h.os, h.tape, h.output, Nat.le_trans h.size (by simp), fun k hk hn => ((World.grownBy_alloc W o none).block k (Nat.lt_of_lt_of_le hk h.size) hn).trans (h.block k hk hn)⟩
theorem below_grown {B : Nat} {w W : World} {row : Option Nat} (h : w.grownBy W row) (hB : B ≤ w.heap.size) (hr : ∀ k, row = some k → B ≤ k) : Below B w W :=
  ⟨h.os, h.tape, h.output, h.size, fun k hk => h.block k (by omega) (fun e => by have := hr k e.symm; omega)⟩
/-- The step of a region: appending one thing to a row that a call owns. -/
theorem step_append_blk {P : Program} {α : Type} {E : Enc α} (w : World) {ops : Array Oper} {o : Oper} {a : Act} {K : Act → World → Prop} {Q : Exit → Act → World → Prop} {X : Prop} (hgd : o.guard = none) (s x : Operand) (t e : TypeId)
    (ho : o.op = .call { callee := .builtin .append, args := #[s, x], argTypes := #[t, t] }) (ht : P.underlying t = some (.slice e)) (i : TypeInfo) (z : Value) (bytes : Nat) (hi : P.info? e = some i) (hz : i.zero = some z)
    (hsize : i.size = E.n) (hby : i.bytes = bytes) (hzs : z.cells.size = E.n) (base : Nat)
    (v : Value) (hs : a.eval s = v) (L : List α) (hown : w.ownsRow base e E.n v L.length (cellsG E L)) (g q c : Nat) (hx : a.eval x = .slice (some ⟨g, q, none⟩) 1 c) (y : α) (hM : VAt w g q (E.c y))
    (h63 : L.length + 1 ≤ maxLen) (hbytes : (L.length + 1) * bytes ≤ 140737488355328) (hbase : base ≤ w.heap.size)
    (h : ∀ v' w', w'.ownsRow base e E.n v' (L ++ [y]).length (cellsG E (L ++ [y])) → w.grownBy w' v.ownBlock → v'.ownBlock = v.ownBlock ∨ v'.ownBlock = some w.heap.size → K (a.put o.dst v') w') :
    if Region.wanted o (yielded ops a.tmps) = true then Oper.wp P o a w K Q else X := by
  have hw : Region.wanted o (yielded ops a.tmps) = true := by simp [Region.wanted, hgd]
  rw [if_pos hw]
  have hG : GAt E w g q [y] := by
    intro k hk
    obtain rfl : k = 0 := by simp at hk; omega
    simpa using hM
  have hc := hG.cells
  rw [cellsG_one] at hc
  have hl : (E.c y).length = 1 * E.n := by rw [E.len]; omega
  obtain ⟨v', w', hr, h2, h3, _⟩ := run_append_own (P := P) w base t o.type e i z E.n bytes ht hi hz hsize hby hzs E.pos v _ _ hown ⟨g, q, none⟩ 1 c (E.c y) hl hc (E.one y) h63 hbytes hbase
  have hb := run_append_blk (P := P) t o.type e i z ht hi hz v _ _ (by rw [hsize]; exact hown) ⟨g, q, none⟩ c (E.c y) (by rw [hsize]; exact hl) hc (E.one y) h63 (by rw [hby]; exact hbytes) hr
  unfold Oper.wp execOp
  simp only [ho, resolve, invoke, builtin, Sem.run_bind, Sem.run_pure, Result.andThen_ok, List.map_toArray, List.map_cons, List.map_nil, hs, hx, hr]
  exact h v' w' (by rw [List.length_append, cellsG_app, cellsG_one]; exact h2) h3 hb
section
variable {e1 e2 : TypeId} {w W1 W1' W2 W2' Wf : World} {B : Nat} {v u v' u' : Value} {vs us : List SlT} {Cs Ps : List (List Int)}
theorem CP.base (h : CP e1 e2 w B v u vs us Cs Ps) : (∀ k, v.ownBlock = some k → B ≤ k ∧ k < w.heap.size) ∧ ∀ k, u.ownBlock = some k → B ≤ k ∧ k < w.heap.size := ⟨fun k hk => h.ov.lt k hk, fun k hk => h.ou.lt k hk⟩
/-- One append behind the other. -/
theorem CP.seq (h : CP e1 e2 w B v u vs us Cs Ps) (he : e1 ≠ e2) (hB : B ≤ w.heap.size) {x p : SlT} {L P : List Int}
    (hp : W1.ownsRow B e1 inE.n (slV x) L.length (cellsG inE L)) (hxn : ∀ y ∈ vs ++ us, (slV y).ownBlock ≠ (slV x).ownBlock)
    (hq : W2.ownsRow B e1 inE.n (slV p) P.length (cellsG inE P)) (hpn : ∀ y ∈ vs ++ us, (slV y).ownBlock ≠ (slV p).ownBlock) (hxp : (slV x).ownBlock ≠ (slV p).ownBlock)
    (c1 : w.grownBy W1 none) (g1 : W1.grownBy W1' v.ownBlock) (o1 : W1'.ownsRow B e2 slE.n v' (vs ++ [x]).length (cellsG slE (vs ++ [x]))) (b1 : v'.ownBlock = v.ownBlock ∨ v'.ownBlock = some W1.heap.size)
    (c2 : W1'.grownBy W2 none) (g2 : W2.grownBy W2' u.ownBlock) (o2 : W2'.ownsRow B e2 slE.n u' (us ++ [p]).length (cellsG slE (us ++ [p]))) (b2 : u'.ownBlock = u.ownBlock ∨ u'.ownBlock = some W2.heap.size)
    (c3 : W2'.grownBy Wf none) : CP e1 e2 Wf B v' u' (vs ++ [x]) (us ++ [p]) (Cs ++ [L]) (Ps ++ [P]) ∧ Below B w Wf := by
  have k1 := h.keep c1
  have k2 := (k1.push he hp hxn g1 o1 b1).keep c2
  have k3 := k2.swap.push he hq (by
    intro y hy
    rcases List.mem_append.1 hy with hy | hy
    · exact hpn y (List.mem_append_right _ hy)
    · rcases List.mem_append.1 hy with hy | hy
      · exact hpn y (List.mem_append_left _ hy)
      · simp at hy
        subst hy
        exact hxp) g2 o2 b2
  have hv := h.base.1
  have hu := h.base.2
  have s1 := c1.size
  have s2 := g1.size
  have s3 := c2.size
  have s4 := g2.size
  refine ⟨(k3.swap).keep c3, ?_⟩
  have b1' : Below B w W1 := below_grown c1 hB (fun k e => by cases e)
  have b2' : Below B W1 W1' := below_grown g1 (by omega) (fun k e => (hv k e).1)
  have b3' : Below B W1' W2 := below_grown c2 (by omega) (fun k e => by cases e)
  have b4' : Below B W2 W2' := below_grown g2 (by omega) (fun k e => (hu k e).1)
  have b5' : Below B W2' Wf := below_grown c3 (by omega) (fun k e => by cases e)
  exact (((b1'.trans b2').trans b3').trans b4').trans b5'
end
end Go.Proofs.YtokkmnednhigmaeDoor
/- What strings.Clone answers: the text itself. -/
namespace Go.Proofs.YtokkmnednhigmaeDoor
open Go.RowKit
set_option linter.unusedSimpArgs false
set_option linter.unusedVariables false

theorem infoByte : (Tryd.prog.info? 5).map (fun i => (i.zero, i.size, i.bytes)) = some (some (.int .u8 0), 1, 1) := by kernel_rfl
set_option maxHeartbeats 1000000 in
set_option maxRecDepth 100000 in
theorem liteClone (s : ByteArray) (w : World) (hlim : s.size ≤ 1000000) :
    Calls Tryd.prog 60 #[.string s] w fun e w' => e = .returned (.string s) ∧ Below w.heap.size w w' := by
  by_cases h0 : s.size = 0
  · have hs : s = ⟨#[]⟩ := by
      apply ByteArray.ext
      exact Array.eq_empty_of_size_eq_zero h0
    subst hs
    go_enter Tryd.func60, Tryd.ntmps60
    go_wp2
    go_ret
    exact ⟨rfl, Below.refl _ _⟩
  · obtain ⟨i0, hi, hz0, hz1, hz2⟩ := info_parts infoByte
    have hinfo : (Tryd.prog.info? 5).map (·.size) = some 1 := by rw [hi]; simp [hz1]
    have hco : Tryd.prog.cellsOf 5 = 1 := by simp [Program.cellsOf, hi, hz1]
    obtain ⟨M, hM⟩ : ∃ M, M = madeCells (Value.int .u8 0).cells (((s.size : Nat) : Int).toNat * i0.size) := ⟨_, rfl⟩
    have hMs : M.size = s.size := by rw [hM, size_madeCells, hz1]; simp
    have hmk : (Instr.makeSlice 132 (.int .i64 (s.size : Int)) (.int .i64 (s.size : Int))).run Tryd.prog w = .ok (.slice (some ⟨w.heap.size, 0, none⟩) s.size s.size) (w.alloc (.cells M 5)) := by
      have h := run_make (P := Tryd.prog) w 132 5 i0 (.int .u8 0) Tryd.underlying132 hi hz0 .i64 .i64 (s.size : Int) (s.size : Int) (by omega) (by omega) (by rw [hz2]; omega) (by omega)
      rw [← hM] at h
      simpa using h
    clear hM
    have hcp := Lib.run_copy_row_string (P := Tryd.prog) (w.alloc (.cells M 5)) 132 9 3 5 w.heap.size 0 s.size s.size s M 5 Tryd.underlying132 hinfo (heap_alloc_new w _) (Nat.le_refl _) (by omega)
    obtain ⟨Y, hY⟩ : ∃ Y, Y = (M.toList.take 0 ++ Lib.byteCells s.data.toList ++ M.toList.drop (0 + s.size)).toArray := ⟨_, rfl⟩
    rw [← hY] at hcp
    have hYl : Y.toList = Lib.byteCells s.data.toList := by
      rw [hY, List.toList_toArray, List.take_zero, List.nil_append, List.drop_of_length_le (by rw [Array.length_toList]; omega), List.append_nil]
    have hYs : Y.size = s.size := by rw [← Array.length_toList, hYl, Lib.byteCells_length, ← Lib.size_eq]
    have hgY : ((w.alloc (.cells M 5)).setRow w.heap.size Y).heap[w.heap.size]? = some (.cells Y 5 (0, 0)) := setRow_heap _ _ M _ 5 (0, 0) (heap_alloc_new w _)
    have hne : s.data.toList ≠ [] := fun e => h0 (by rw [Lib.size_eq, e]; rfl)
    have hUS := Lib.run_unsafeString_row (P := Tryd.prog) ((w.alloc (.cells M 5)).setRow w.heap.size Y) 133 3 9 5 Tryd.underlying133 hco w.heap.size Y.size (by unfold World.shape?; rw [hgY]) s.data.toList hne (by rw [← Lib.size_eq]; omega) (by rw [← Lib.size_eq]; omega)
      (fun j x hx => Lib.cells_of_row hgY Y.size j _ (by rw [List.take_of_length_le (by rw [Array.length_toList]; exact Nat.le_refl _), hYl]; simp [Lib.byteCells, hx]))
    rw [← Lib.size_eq] at hUS
    clear hY
    go_enter Tryd.func60, Tryd.ntmps60
    go_wp2
    go_ret
    have hb1 : Below w.heap.size w (w.alloc (.cells M 5)) := (Below.refl _ w).alloc (Nat.le_refl _) _
    have hb2 : Below w.heap.size (w.alloc (.cells M 5)) ((w.alloc (.cells M 5)).setRow w.heap.size Y) := ⟨rfl, rfl, rfl, by simp, fun k hk => setRow_other _ _ _ _ (by omega)⟩
    exact ⟨rfl, Lib.below_freeze (hb1.trans hb2) (p := ⟨w.heap.size, 0, none⟩) (Nat.le_refl _) _⟩
set_option maxHeartbeats 1000000 in
theorem clone_any (s : ByteArray) (w : World) (hlim : s.size ≤ 1000000) :
    Calls Tryd.prog 41 #[.string s] w fun e w' => e = .returned (.string s) ∧ Below w.heap.size w w' := by
  go_enter Tryd.func41, Tryd.ntmps41
  go_wp2_with fail
  refine (liteClone s _ hlim).mono ?_
  rintro e w1 ⟨rfl, hb1⟩
  go_wp2
  go_ret
  exact ⟨rfl, hb1⟩
end Go.Proofs.YtokkmnednhigmaeDoor
/- Rows of numbers that a call owns. -/
namespace Go.Proofs.YtokkmnednhigmaeDoor
open Go.RowKit

/-- The length of a row that a call owns. -/
theorem own_form {w : World} {B e size n : Nat} {v : Value} {xs : List Value} (h : w.ownsRow B e size v n xs) : ∃ ao cap, v = .slice ao n cap := by
  rcases h.2 with ⟨rfl, rfl⟩ | ⟨g, cap, cur, rfl, _⟩
  · exact ⟨none, 0, rfl⟩
  · exact ⟨_, cap, rfl⟩

/-- These numbers lie where a value says. -/
theorem own_ints {w : World} {B e : Nat} {v : Value} {xs : List Int} (h : w.ownsRow B e 1 v xs.length (xs.map (Value.int .i64))) :
    (v = .slice none 0 0 ∧ xs = []) ∨ ∃ g cap, v = .slice (some ⟨g, 0, none⟩) xs.length cap ∧ ∀ i (hi : i < xs.length), w.cell? ⟨g, i, none⟩ = some (.int .i64 xs[i]) := by
  rcases h.2 with ⟨rfl, h0⟩ | ⟨g, cap, cur, rfl, _⟩
  · exact .inl ⟨rfl, List.length_eq_zero_iff.1 h0⟩
  · refine .inr ⟨g, cap, rfl, fun i hi => ?_⟩
    rw [h.cellAt i (by omega)]
    simp [hi]

/-- Are two lists of numbers alike up to a place? -/
def eqTo (a b : List Int) (k : Nat) : Bool := a.take k == b.take k

end Go.Proofs.YtokkmnednhigmaeDoor
/- Are two topologies the same, as they stand? -/
namespace Go.Proofs.YtokkmnednhigmaeDoor
open Go.RowKit
set_option linter.unusedSimpArgs false
set_option linter.unusedVariables false

theorem hstB_iff (a b : ByteArray × (Int × Int)) : hstB a b = true ↔ a = b := by
  obtain ⟨a0, a1, a2⟩ := a
  obtain ⟨b0, b1, b2⟩ := b
  simp only [hstB, Bool.and_eq_true, beq_iff_eq, Prod.mk.injEq, ba_iff]
/-- Two topologies have all the same. -/
def tpB (S S' : Int) (Ls Ls' : List ((Int × Int) × (Int × Int))) (Hs Hs' : List (ByteArray × (Int × Int))) : Bool := decide (S = S') && (smG lnkB Ls Ls' && smG hstB Hs Hs')
theorem tpB_iff {S S' : Int} {Ls Ls' : List ((Int × Int) × (Int × Int))} {Hs Hs' : List (ByteArray × (Int × Int))} : tpB S S' Ls Ls' Hs Hs' = true ↔ S = S' ∧ Ls = Ls' ∧ Hs = Hs' := by
  simp only [tpB, Bool.and_eq_true, decide_eq_true_eq, smG_eq lnkB_iff, smG_eq hstB_iff]
/-- Two boxes, and a link of each: a class of worlds. -/
def LC (w : World) (B : Nat) (S S' : Int) (a1 a2 b1 b2 : Value) (g o : Nat) (x0 x1 x2 x3 : Int) (g' o' : Nat) (y0 y1 y2 y3 : Int) (w' : World) : Prop :=
  Below w.heap.size w w' ∧ TBox w' B S a1 a2 ∧ TBox w' (B + 1) S' b1 b2 ∧ (w'.cell? ⟨g, o, none⟩ = some (.int .i64 x0) ∧ w'.cell? ⟨g, o + 1, none⟩ = some (.int .i64 x1) ∧ w'.cell? ⟨g, o + 2, none⟩ = some (.int .i64 x2) ∧ w'.cell? ⟨g, o + 3, none⟩ = some (.int .i64 x3)) ∧
    w'.cell? ⟨g', o', none⟩ = some (.int .i64 y0) ∧ w'.cell? ⟨g', o' + 1, none⟩ = some (.int .i64 y1) ∧ w'.cell? ⟨g', o' + 2, none⟩ = some (.int .i64 y2) ∧ w'.cell? ⟨g', o' + 3, none⟩ = some (.int .i64 y3)
theorem LC.later {w W W' : World} {B : Nat} {S S' : Int} {a1 a2 b1 b2 : Value} {g o : Nat} {x0 x1 x2 x3 : Int} {g' o' : Nat} {y0 y1 y2 y3 : Int} (hb : Below W.heap.size W W') (h : LC w B S S' a1 a2 b1 b2 g o x0 x1 x2 x3 g' o' y0 y1 y2 y3 W) : LC w B S S' a1 a2 b1 b2 g o x0 x1 x2 x3 g' o' y0 y1 y2 y3 W' := by
  obtain ⟨h0, t1, t2, ⟨h1, h2, h3, h4⟩, k1, k2, k3, k4⟩ := h
  exact ⟨h0.trans (hb.mono h0.size), t1.later hb, t2.later hb, ⟨cell_later hb h1, cell_later hb h2, cell_later hb h3, cell_later hb h4⟩, cell_later hb k1, cell_later hb k2, cell_later hb k3, cell_later hb k4⟩
/-- Two boxes, and a host of each. -/
def HC (w : World) (B : Nat) (S S' : Int) (a1 a2 b1 b2 : Value) (g o : Nat) (x0 : ByteArray) (x1 x2 : Int) (g' o' : Nat) (y0 : ByteArray) (y1 y2 : Int) (w' : World) : Prop :=
  Below w.heap.size w w' ∧ TBox w' B S a1 a2 ∧ TBox w' (B + 1) S' b1 b2 ∧ (w'.cell? ⟨g, o, none⟩ = some (.string x0) ∧ w'.cell? ⟨g, o + 1, none⟩ = some (.int .i64 x1) ∧ w'.cell? ⟨g, o + 2, none⟩ = some (.int .i64 x2)) ∧
    w'.cell? ⟨g', o', none⟩ = some (.string y0) ∧ w'.cell? ⟨g', o' + 1, none⟩ = some (.int .i64 y1) ∧ w'.cell? ⟨g', o' + 2, none⟩ = some (.int .i64 y2)
theorem HC.later {w W W' : World} {B : Nat} {S S' : Int} {a1 a2 b1 b2 : Value} {g o : Nat} {x0 : ByteArray} {x1 x2 : Int} {g' o' : Nat} {y0 : ByteArray} {y1 y2 : Int} (hb : Below W.heap.size W W') (h : HC w B S S' a1 a2 b1 b2 g o x0 x1 x2 g' o' y0 y1 y2 W) : HC w B S S' a1 a2 b1 b2 g o x0 x1 x2 g' o' y0 y1 y2 W' := by
  obtain ⟨h0, t1, t2, ⟨h1, h2, h3⟩, k1, k2, k3⟩ := h
  exact ⟨h0.trans (hb.mono h0.size), t1.later hb, t2.later hb, ⟨cell_later hb h1, cell_later hb h2, cell_later hb h3⟩, cell_later hb k1, cell_later hb k2, cell_later hb k3⟩
/-- Two boxes. -/
def TT (W : World) (B : Nat) (S S' : Int) (a1 a2 b1 b2 : Value) : Prop := TBox W B S a1 a2 ∧ TBox W (B + 1) S' b1 b2
theorem tt_new (w : World) (S S' : Int) (a1 a2 b1 b2 : Value) (t : TypeId) : TT ((w.alloc (Obj.cells #[.int .i64 S, a1, a2] t)).alloc (Obj.cells #[.int .i64 S', b1, b2] t)) w.heap.size S S' a1 a2 b1 b2 := by
  refine ⟨(tbox_new w S a1 a2 t).later ((Below.refl _ _).alloc (Nat.le_refl _) _), ?_⟩
  have := tbox_new (w.alloc (Obj.cells #[.int .i64 S, a1, a2] t)) S' b1 b2 t
  simpa using this
theorem TT.later {W W' : World} {B : Nat} {S S' : Int} {a1 a2 b1 b2 : Value} (h : TT W B S S' a1 a2 b1 b2) (hb : Below W.heap.size W W') : TT W' B S S' a1 a2 b1 b2 := ⟨h.1.later hb, h.2.later hb⟩
end Go.Proofs.YtokkmnednhigmaeDoor
/- What railsame.Topo answers at any two topologies. Written by mk/alike.py. -/
namespace Go.Proofs.YtokkmnednhigmaeDoor
open Go.RowKit
set_option linter.unusedSimpArgs false
set_option linter.unusedVariables false

set_option maxHeartbeats 4000000 in
set_option maxRecDepth 100000 in
theorem smTopo_any (S : Int) (ao : Option Addr) (n cap : Nat) (ao2 : Option Addr) (n2 cap2 : Nat) (Ls : List ((Int × Int) × (Int × Int))) (Hs : List (ByteArray × (Int × Int))) (S' : Int) (bo : Option Addr) (m cap3 : Nat) (bo2 : Option Addr) (m2 cap4 : Nat) (Ls' : List ((Int × Int) × (Int × Int))) (Hs' : List (ByteArray × (Int × Int))) (w : World)
    (hL : GS lnkE w (.slice ao n cap) Ls) (hH : GS hstE w (.slice ao2 n2 cap2) Hs) (hL' : GS lnkE w (.slice bo m cap3) Ls') (hH' : GS hstE w (.slice bo2 m2 cap4) Hs') :
    Calls Tryd.prog 25 #[.agg #[.int .i64 S, .slice ao n cap, .slice ao2 n2 cap2], .agg #[.int .i64 S', .slice bo m cap3, .slice bo2 m2 cap4]] w fun e w' => e = .returned (.bool (tpB S S' Ls Ls' Hs Hs')) ∧ Below w.heap.size w w' := by
  obtain ⟨_, _, _, e, hn, hn2, hn3, ha⟩ := hL.form
  cases e
  obtain ⟨_, _, _, e, hm, hm2, hm3, hb⟩ := hL'.form
  cases e
  obtain ⟨_, _, _, e, gn, gn2, gn3, ga⟩ := hH.form
  cases e
  obtain ⟨_, _, _, e, gm, gm2, gm3, gb⟩ := hH'.form
  cases e
  have HN1 : Hid (Ls.length = n) := hn
  have HM1 : Hid (Ls'.length = m) := hm
  have HN2 : Hid (Hs.length = n2) := gn
  have HM2 : Hid (Hs'.length = m2) := gm
  have HA1 : Hid (0 < n → ∃ g o, ao = some ⟨g, o, none⟩ ∧ GAt lnkE w g o Ls ∧ cap ≤ maxLen) := ha
  have HB1 : Hid (0 < m → ∃ g o, bo = some ⟨g, o, none⟩ ∧ GAt lnkE w g o Ls' ∧ cap3 ≤ maxLen) := hb
  have HA2 : Hid (0 < n2 → ∃ g o, ao2 = some ⟨g, o, none⟩ ∧ GAt hstE w g o Hs ∧ cap2 ≤ maxLen) := ga
  have HB2 : Hid (0 < m2 → ∃ g o, bo2 = some ⟨g, o, none⟩ ∧ GAt hstE w g o Hs' ∧ cap4 ≤ maxLen) := gb
  have n63 : n ≤ 9223372036854775807 := by unfold maxLen at hn2; omega
  have n263 : n2 ≤ 9223372036854775807 := by unfold maxLen at gn2; omega
  have HT : Hid (TT ((w.alloc (Obj.cells #[.int .i64 S, .slice ao n cap, .slice ao2 n2 cap2] 25)).alloc (Obj.cells #[.int .i64 S', .slice bo m cap3, .slice bo2 m2 cap4] 25)) w.heap.size S S' (.slice ao n cap) (.slice ao2 n2 cap2) (.slice bo m cap3) (.slice bo2 m2 cap4)) := tt_new w S S' _ _ _ _ 25
  have HBW : Hid (Below w.heap.size w ((w.alloc (Obj.cells #[.int .i64 S, .slice ao n cap, .slice ao2 n2 cap2] 25)).alloc (Obj.cells #[.int .i64 S', .slice bo m cap3, .slice bo2 m2 cap4] 25))) := ((Below.refl _ _).alloc (Nat.le_refl _) _).alloc (by simp) _
  clear hL hH hL' hH' hn ha hm hb hn2 hm2 gn ga gm gb gn2 gm2
  obtain ⟨R, hR⟩ : ∃ R, R = tpB S S' Ls Ls' Hs Hs' := ⟨_, rfl⟩
  have HR : Hid (R = tpB S S' Ls Ls' Hs Hs') := hR
  rw [← hR]
  clear hR
  by_cases hl : S = S' ∧ n = m ∧ n2 = m2
  · obtain ⟨rfl, rfl, rfl⟩ := hl
    have and_no1 : smG lnkB Ls Ls' = false → tpB S S Ls Ls' Hs Hs' = false := fun h => by rw [tpB, h]; simp
    have and_no2 : smG hstB Hs Hs' = false → tpB S S Ls Ls' Hs Hs' = false := fun h => by rw [tpB, h]; simp
    have e1 : (S == S) = true := by simp
    have e2 : ((n : Int) == (n : Int)) = true := by simp
    have e3 : ((n2 : Int) == (n2 : Int)) = true := by simp
    go_enter Tryd.func25, Tryd.ntmps25
    go_wp2
    go_loopw [5] (fun i wr => ∃ k1 : Nat, k1 ≤ n ∧ i = .int .i64 k1 ∧ (∀ j, j < k1 → ∀ (h1 : j < Ls.length) (h2 : j < Ls'.length), lnkB Ls[j] Ls'[j] = true) ∧ TT wr w.heap.size S S (.slice ao n cap) (.slice ao2 n2 cap2) (.slice bo n cap3) (.slice bo2 n2 cap4) ∧ Below w.heap.size w wr) (fun i _ => n - (intOf i).toNat)
    case atStart => exact ⟨0, by omega, rfl, fun j hj => absurd hj (by omega), HT.out, HBW.out⟩
    case round =>
      obtain ⟨k1, hk, rfl, hall, hT, hB⟩ := hrel
      clear HT HBW
      have HB : Hid (Below w.heap.size w wr) := hB
      have HT2 : Hid (TT wr w.heap.size S S (.slice ao n cap) (.slice ao2 n2 cap2) (.slice bo n cap3) (.slice bo2 n2 cap4)) := hT
      have HALL : Hid (∀ j, j < k1 → ∀ (h1 : j < Ls.length) (h2 : j < Ls'.length), lnkB Ls[j] Ls'[j] = true) := hall
      obtain ⟨⟨p0, p1, p2⟩, s0, s1, s2⟩ := hT
      have hlt1 : w.heap.size < wr.heap.size := World.block_lt_of_cell? _ _ p0
      have hlt2 : w.heap.size + 1 < wr.heap.size := World.block_lt_of_cell? _ _ s0
      clear hall
      by_cases hlt : k1 < n
      · obtain ⟨g, og, hao, hc, _⟩ := HA1.out (by omega)
        obtain ⟨g2, og2, hao2, hc2, _⟩ := HB1.out (by omega)
        subst hao hao2
        obtain ⟨x0, x1, x2, x3, hkl, hLk, q0, q1, q2, q3⟩ := lnk_at (hc.later hB) HN1.out hlt
        obtain ⟨y0, y1, y2, y3, hkm, hMk, r0, r1, r2, r3⟩ := lnk_at (hc2.later hB) HM1.out hlt
        have HCE : Hid (LC w w.heap.size S S (.slice (some ⟨g, og, none⟩) n cap) (.slice ao2 n2 cap2) (.slice (some ⟨g2, og2, none⟩) n cap3) (.slice bo2 n2 cap4) g (og + k1 * 4) x0 x1 x2 x3 g2 (og2 + k1 * 4) y0 y1 y2 y3 wr) := ⟨hB, ⟨p0, p1, p2⟩, ⟨s0, s1, s2⟩, ⟨q0, q1, q2, q3⟩, r0, r1, r2, r3⟩
        have HLK : Hid (Ls[k1] = ((x0, x1), (x2, x3)) ∧ Ls'[k1] = ((y0, y1), (y2, y3))) := ⟨hLk, hMk⟩
        clear q0 q1 q2 q3 r0 r1 r2 r3 hB hc hc2 hLk hMk HA1 HB1
        go_upto_region 6 with fail
        have kb0 : (0 : Int) ≤ (k1 : Int) := by omega
        have kb1 : (k1 : Int) < (n : Int) := by omega
        clear p0 p1 p2 s0 s1 s2
        go_cut [47] from 30 to 47 (fun c w' => c = .bool (!lnkB ((x0, x1), (x2, x3)) ((y0, y1), (y2, y3))) ∧ TT w' w.heap.size S S (.slice (some ⟨g, og, none⟩) n cap) (.slice ao2 n2 cap2) (.slice (some ⟨g2, og2, none⟩) n cap3) (.slice bo2 n2 cap4) ∧ Below w.heap.size w w')
        case first =>
          as_aux_lemma =>
            refine wp_region_quiet (C := LC w w.heap.size S S (.slice (some ⟨g, og, none⟩) n cap) (.slice ao2 n2 cap2) (.slice (some ⟨g2, og2, none⟩) n cap3) (.slice bo2 n2 cap4) g (og + k1 * 4) x0 x1 x2 x3 g2 (og2 + k1 * 4) y0 y1 y2 y3) (by kernel_rfl) (by kernel_rfl) (LC.later (W := wr) (Below.drew (Below.refl _ _)) HCE.out) ?_
            simp only [List.toList_toArray]
            go_big_quiet_want
            refine quiet_val (v := .pointer (some ⟨w.heap.size, 1, none⟩)) (fun w' hC => ?_) ?_
            · obtain ⟨z, ⟨t0, t1, t2⟩, ⟨s0, s1, s2⟩, ⟨z0, z1, z2, z3⟩, u0, u1, u2, u3⟩ := hC
              go_simp
            simp only [Act.put, List.setIfInBounds_toArray, List.set_cons_zero, List.set_cons_succ]
            go_big_quiet_on
            go_big_quiet_want
            refine quiet_val (v := .slice (some ⟨g, og, none⟩) n cap) (fun w' hC => ?_) ?_
            · obtain ⟨z, ⟨t0, t1, t2⟩, ⟨s0, s1, s2⟩, ⟨z0, z1, z2, z3⟩, u0, u1, u2, u3⟩ := hC
              go_simp
            simp only [Act.put, List.setIfInBounds_toArray, List.set_cons_zero, List.set_cons_succ]
            go_big_quiet_on
            go_big_quiet_want
            refine quiet_val (v := .int .i64 (k1 : Int)) (fun w' hC => ?_) ?_
            · obtain ⟨z, ⟨t0, t1, t2⟩, ⟨s0, s1, s2⟩, ⟨z0, z1, z2, z3⟩, u0, u1, u2, u3⟩ := hC
              go_simp
            simp only [Act.put, List.setIfInBounds_toArray, List.set_cons_zero, List.set_cons_succ]
            go_big_quiet_on
            go_big_quiet_want
            refine quiet_val (v := .pointer (some ⟨g, og + k1 * 4, none⟩)) (fun w' hC => ?_) ?_
            · obtain ⟨z, ⟨t0, t1, t2⟩, ⟨s0, s1, s2⟩, ⟨z0, z1, z2, z3⟩, u0, u1, u2, u3⟩ := hC
              go_simp
            simp only [Act.put, List.setIfInBounds_toArray, List.set_cons_zero, List.set_cons_succ]
            go_big_quiet_on
            go_big_quiet_want
            refine quiet_val (v := .agg #[.int .i64 x0, .int .i64 x1, .int .i64 x2, .int .i64 x3]) (fun w' hC => ?_) ?_
            · obtain ⟨z, ⟨t0, t1, t2⟩, ⟨s0, s1, s2⟩, ⟨z0, z1, z2, z3⟩, u0, u1, u2, u3⟩ := hC
              go_simp
            simp only [Act.put, List.setIfInBounds_toArray, List.set_cons_zero, List.set_cons_succ]
            go_big_quiet_on
            go_big_quiet_want
            refine quiet_val (v := .pointer (some ⟨w.heap.size + 1, 1, none⟩)) (fun w' hC => ?_) ?_
            · obtain ⟨z, ⟨t0, t1, t2⟩, ⟨s0, s1, s2⟩, ⟨z0, z1, z2, z3⟩, u0, u1, u2, u3⟩ := hC
              go_simp
            simp only [Act.put, List.setIfInBounds_toArray, List.set_cons_zero, List.set_cons_succ]
            go_big_quiet_on
            go_big_quiet_want
            refine quiet_val (v := .slice (some ⟨g2, og2, none⟩) n cap3) (fun w' hC => ?_) ?_
            · obtain ⟨z, ⟨t0, t1, t2⟩, ⟨s0, s1, s2⟩, ⟨z0, z1, z2, z3⟩, u0, u1, u2, u3⟩ := hC
              go_simp
            simp only [Act.put, List.setIfInBounds_toArray, List.set_cons_zero, List.set_cons_succ]
            go_big_quiet_on
            go_big_quiet_want
            refine quiet_val (v := .int .i64 (k1 : Int)) (fun w' hC => ?_) ?_
            · obtain ⟨z, ⟨t0, t1, t2⟩, ⟨s0, s1, s2⟩, ⟨z0, z1, z2, z3⟩, u0, u1, u2, u3⟩ := hC
              go_simp
            simp only [Act.put, List.setIfInBounds_toArray, List.set_cons_zero, List.set_cons_succ]
            go_big_quiet_on
            go_big_quiet_want
            refine quiet_val (v := .pointer (some ⟨g2, og2 + k1 * 4, none⟩)) (fun w' hC => ?_) ?_
            · obtain ⟨z, ⟨t0, t1, t2⟩, ⟨s0, s1, s2⟩, ⟨z0, z1, z2, z3⟩, u0, u1, u2, u3⟩ := hC
              go_simp
            simp only [Act.put, List.setIfInBounds_toArray, List.set_cons_zero, List.set_cons_succ]
            go_big_quiet_on
            go_big_quiet_want
            refine quiet_val (v := .agg #[.int .i64 y0, .int .i64 y1, .int .i64 y2, .int .i64 y3]) (fun w' hC => ?_) ?_
            · obtain ⟨z, ⟨t0, t1, t2⟩, ⟨s0, s1, s2⟩, ⟨z0, z1, z2, z3⟩, u0, u1, u2, u3⟩ := hC
              go_simp
            simp only [Act.put, List.setIfInBounds_toArray, List.set_cons_zero, List.set_cons_succ]
            go_big_quiet_on
            go_big_quiet_want
            refine quiet_val (v := .bool (!lnkB ((x0, x1), (x2, x3)) ((y0, y1), (y2, y3)))) (fun w' hC => exec_bin rfl (by go_simp) (run_neq_of (lnk_eq x0 x1 x2 x3 y0 y1 y2 y3 w'))) ?_
            simp only [Act.put, List.setIfInBounds_toArray, List.set_cons_zero, List.set_cons_succ]
            go_big_quiet_on
            refine wpQuiet_nil ?_
            intro w' hC
            go_wp2_with fail
            go_meet
            case rel => exact ⟨rfl, ⟨hC.2.1, hC.2.2.1⟩, hC.1⟩
        case rest =>
          obtain ⟨rfl, hTT, hB2⟩ := hcut
          have HB3 : Hid (Below w.heap.size w wc) := hB2
          have HT3 : Hid (TT wc w.heap.size S S (.slice (some ⟨g, og, none⟩) n cap) (.slice ao2 n2 cap2) (.slice (some ⟨g2, og2, none⟩) n cap3) (.slice bo2 n2 cap4)) := hTT
          clear HCE hB2 hTT
          cases ho : lnkB ((x0, x1), (x2, x3)) ((y0, y1), (y2, y3))
          · have HF : Hid (R = false) := by
              show R = false
              rw [HR.out]
              exact and_no1 (smG_no hkl hkm (by rw [HLK.out.1, HLK.out.2]; exact ho))
            go_wp2
            go_ret
            exact ⟨by rw [HF.out]; rfl, HB3.out⟩
          · have HAL2 : Hid (∀ j, j < k1 + 1 → ∀ (h1 : j < Ls.length) (h2 : j < Ls'.length), lnkB Ls[j] Ls'[j] = true) := by
              intro j hj h1 h2
              by_cases e : j = k1
              · subst e
                rw [HLK.out.1, HLK.out.2]
                exact ho
              · exact HALL.out j (by omega) h1 h2
            clear ho
            go_wp2
            go_roundw
            case rel => exact ⟨k1 + 1, by omega, by go_num, HAL2.out, HT3.out, HB3.out⟩
            case measure => simp [intOf]; omega
      · obtain rfl : k1 = n := by omega
        have HS1 : Hid (smG lnkB Ls Ls' = true) := smG_iff.2 ⟨by rw [HN1.out, HM1.out], fun i h1 h2 => HALL.out i (by rw [HN1.out] at h1; exact h1) h1 h2⟩
        clear HALL hlt hB HA1 HB1
        go_wp2
        go_loopw [6] (fun i wr => ∃ k : Nat, k ≤ n2 ∧ i = .int .i64 k ∧ (∀ j, j < k → ∀ (h1 : j < Hs.length) (h2 : j < Hs'.length), hstB Hs[j] Hs'[j] = true) ∧ TT wr w.heap.size S S (.slice ao k1 cap) (.slice ao2 n2 cap2) (.slice bo k1 cap3) (.slice bo2 n2 cap4) ∧ Below w.heap.size w wr) (fun i _ => n2 - (intOf i).toNat)
        case atStart => exact ⟨0, by omega, rfl, fun j hj => absurd hj (by omega), HT2.out, HB.out⟩
        case round =>
          obtain ⟨k, hk, rfl, hall, hT, hB⟩ := hrel
          clear HT2 HB
          have HB : Hid (Below w.heap.size w wr) := hB
          have HT2 : Hid (TT wr w.heap.size S S (.slice ao k1 cap) (.slice ao2 n2 cap2) (.slice bo k1 cap3) (.slice bo2 n2 cap4)) := hT
          have HALL : Hid (∀ j, j < k → ∀ (h1 : j < Hs.length) (h2 : j < Hs'.length), hstB Hs[j] Hs'[j] = true) := hall
          obtain ⟨⟨p0, p1, p2⟩, s0, s1, s2⟩ := hT
          have hlt1 : w.heap.size < wr.heap.size := World.block_lt_of_cell? _ _ p0
          have hlt2 : w.heap.size + 1 < wr.heap.size := World.block_lt_of_cell? _ _ s0
          clear hall
          by_cases hlt : k < n2
          · obtain ⟨g, og, hao, hc, _⟩ := HA2.out (by omega)
            obtain ⟨g2, og2, hao2, hc2, _⟩ := HB2.out (by omega)
            subst hao hao2
            obtain ⟨x0, x1, x2, hkl, hLk, q0, q1, q2⟩ := hst_at (hc.later hB) HN2.out hlt
            obtain ⟨y0, y1, y2, hkm, hMk, r0, r1, r2⟩ := hst_at (hc2.later hB) HM2.out hlt
            have HCE : Hid (HC w w.heap.size S S (.slice ao k1 cap) (.slice (some ⟨g, og, none⟩) n2 cap2) (.slice bo k1 cap3) (.slice (some ⟨g2, og2, none⟩) n2 cap4) g (og + k * 3) x0 x1 x2 g2 (og2 + k * 3) y0 y1 y2 wr) := ⟨hB, ⟨p0, p1, p2⟩, ⟨s0, s1, s2⟩, ⟨q0, q1, q2⟩, r0, r1, r2⟩
            have HLK : Hid (Hs[k] = (x0, (x1, x2)) ∧ Hs'[k] = (y0, (y1, y2))) := ⟨hLk, hMk⟩
            clear q0 q1 q2 r0 r1 r2 hB hc hc2 hLk hMk HA2 HB2
            go_upto_region 11 with fail
            have kb0 : (0 : Int) ≤ (k : Int) := by omega
            have kb1 : (k : Int) < (n2 : Int) := by omega
            clear p0 p1 p2 s0 s1 s2
            go_cut [65] from 48 to 65 (fun c w' => c = .bool (!hstB (x0, (x1, x2)) (y0, (y1, y2))) ∧ TT w' w.heap.size S S (.slice ao k1 cap) (.slice (some ⟨g, og, none⟩) n2 cap2) (.slice bo k1 cap3) (.slice (some ⟨g2, og2, none⟩) n2 cap4) ∧ Below w.heap.size w w')
            case first =>
              as_aux_lemma =>
                refine wp_region_quiet (C := HC w w.heap.size S S (.slice ao k1 cap) (.slice (some ⟨g, og, none⟩) n2 cap2) (.slice bo k1 cap3) (.slice (some ⟨g2, og2, none⟩) n2 cap4) g (og + k * 3) x0 x1 x2 g2 (og2 + k * 3) y0 y1 y2) (by kernel_rfl) (by kernel_rfl) (HC.later (W := wr) (Below.drew (Below.refl _ _)) HCE.out) ?_
                simp only [List.toList_toArray]
                go_big_quiet_want
                refine quiet_val (v := .pointer (some ⟨w.heap.size, 2, none⟩)) (fun w' hC => ?_) ?_
                · obtain ⟨z, ⟨t0, t1, t2⟩, ⟨s0, s1, s2⟩, ⟨z0, z1, z2⟩, u0, u1, u2⟩ := hC
                  go_simp
                simp only [Act.put, List.setIfInBounds_toArray, List.set_cons_zero, List.set_cons_succ]
                go_big_quiet_on
                go_big_quiet_want
                refine quiet_val (v := .slice (some ⟨g, og, none⟩) n2 cap2) (fun w' hC => ?_) ?_
                · obtain ⟨z, ⟨t0, t1, t2⟩, ⟨s0, s1, s2⟩, ⟨z0, z1, z2⟩, u0, u1, u2⟩ := hC
                  go_simp
                simp only [Act.put, List.setIfInBounds_toArray, List.set_cons_zero, List.set_cons_succ]
                go_big_quiet_on
                go_big_quiet_want
                refine quiet_val (v := .int .i64 (k : Int)) (fun w' hC => ?_) ?_
                · obtain ⟨z, ⟨t0, t1, t2⟩, ⟨s0, s1, s2⟩, ⟨z0, z1, z2⟩, u0, u1, u2⟩ := hC
                  go_simp
                simp only [Act.put, List.setIfInBounds_toArray, List.set_cons_zero, List.set_cons_succ]
                go_big_quiet_on
                go_big_quiet_want
                refine quiet_val (v := .pointer (some ⟨g, og + k * 3, none⟩)) (fun w' hC => ?_) ?_
                · obtain ⟨z, ⟨t0, t1, t2⟩, ⟨s0, s1, s2⟩, ⟨z0, z1, z2⟩, u0, u1, u2⟩ := hC
                  go_simp
                simp only [Act.put, List.setIfInBounds_toArray, List.set_cons_zero, List.set_cons_succ]
                go_big_quiet_on
                go_big_quiet_want
                refine quiet_val (v := .agg #[.string x0, .int .i64 x1, .int .i64 x2]) (fun w' hC => ?_) ?_
                · obtain ⟨z, ⟨t0, t1, t2⟩, ⟨s0, s1, s2⟩, ⟨z0, z1, z2⟩, u0, u1, u2⟩ := hC
                  go_simp
                simp only [Act.put, List.setIfInBounds_toArray, List.set_cons_zero, List.set_cons_succ]
                go_big_quiet_on
                go_big_quiet_want
                refine quiet_val (v := .pointer (some ⟨w.heap.size + 1, 2, none⟩)) (fun w' hC => ?_) ?_
                · obtain ⟨z, ⟨t0, t1, t2⟩, ⟨s0, s1, s2⟩, ⟨z0, z1, z2⟩, u0, u1, u2⟩ := hC
                  go_simp
                simp only [Act.put, List.setIfInBounds_toArray, List.set_cons_zero, List.set_cons_succ]
                go_big_quiet_on
                go_big_quiet_want
                refine quiet_val (v := .slice (some ⟨g2, og2, none⟩) n2 cap4) (fun w' hC => ?_) ?_
                · obtain ⟨z, ⟨t0, t1, t2⟩, ⟨s0, s1, s2⟩, ⟨z0, z1, z2⟩, u0, u1, u2⟩ := hC
                  go_simp
                simp only [Act.put, List.setIfInBounds_toArray, List.set_cons_zero, List.set_cons_succ]
                go_big_quiet_on
                go_big_quiet_want
                refine quiet_val (v := .int .i64 (k : Int)) (fun w' hC => ?_) ?_
                · obtain ⟨z, ⟨t0, t1, t2⟩, ⟨s0, s1, s2⟩, ⟨z0, z1, z2⟩, u0, u1, u2⟩ := hC
                  go_simp
                simp only [Act.put, List.setIfInBounds_toArray, List.set_cons_zero, List.set_cons_succ]
                go_big_quiet_on
                go_big_quiet_want
                refine quiet_val (v := .pointer (some ⟨g2, og2 + k * 3, none⟩)) (fun w' hC => ?_) ?_
                · obtain ⟨z, ⟨t0, t1, t2⟩, ⟨s0, s1, s2⟩, ⟨z0, z1, z2⟩, u0, u1, u2⟩ := hC
                  go_simp
                simp only [Act.put, List.setIfInBounds_toArray, List.set_cons_zero, List.set_cons_succ]
                go_big_quiet_on
                go_big_quiet_want
                refine quiet_val (v := .agg #[.string y0, .int .i64 y1, .int .i64 y2]) (fun w' hC => ?_) ?_
                · obtain ⟨z, ⟨t0, t1, t2⟩, ⟨s0, s1, s2⟩, ⟨z0, z1, z2⟩, u0, u1, u2⟩ := hC
                  go_simp
                simp only [Act.put, List.setIfInBounds_toArray, List.set_cons_zero, List.set_cons_succ]
                go_big_quiet_on
                go_big_quiet_want
                refine quiet_val (v := .bool (!hstB (x0, (x1, x2)) (y0, (y1, y2)))) (fun w' hC => exec_bin rfl (by go_simp) (run_neq_of (hst_eq x0 x1 x2 y0 y1 y2 w'))) ?_
                simp only [Act.put, List.setIfInBounds_toArray, List.set_cons_zero, List.set_cons_succ]
                go_big_quiet_on
                refine wpQuiet_nil ?_
                intro w' hC
                go_wp2_with fail
                go_meet
                case rel => exact ⟨rfl, ⟨hC.2.1, hC.2.2.1⟩, hC.1⟩
            case rest =>
              obtain ⟨rfl, hTT, hB2⟩ := hcut
              have HB3 : Hid (Below w.heap.size w wc) := hB2
              have HT3 : Hid (TT wc w.heap.size S S (.slice ao k1 cap) (.slice (some ⟨g, og, none⟩) n2 cap2) (.slice bo k1 cap3) (.slice (some ⟨g2, og2, none⟩) n2 cap4)) := hTT
              clear HCE hB2 hTT
              cases ho : hstB (x0, (x1, x2)) (y0, (y1, y2))
              · have HF : Hid (R = false) := by
                  show R = false
                  rw [HR.out]
                  exact and_no2 (smG_no hkl hkm (by rw [HLK.out.1, HLK.out.2]; exact ho))
                go_wp2
                go_ret
                exact ⟨by rw [HF.out]; rfl, HB3.out⟩
              · have HAL2 : Hid (∀ j, j < k + 1 → ∀ (h1 : j < Hs.length) (h2 : j < Hs'.length), hstB Hs[j] Hs'[j] = true) := by
                  intro j hj h1 h2
                  by_cases e : j = k
                  · subst e
                    rw [HLK.out.1, HLK.out.2]
                    exact ho
                  · exact HALL.out j (by omega) h1 h2
                clear ho
                go_wp2
                go_roundw
                case rel => exact ⟨k + 1, by omega, by go_num, HAL2.out, HT3.out, HB3.out⟩
                case measure => simp [intOf]; omega
          · obtain rfl : k = n2 := by omega
            have HS2 : Hid (smG hstB Hs Hs' = true) := smG_iff.2 ⟨by rw [HN2.out, HM2.out], fun i h1 h2 => HALL.out i (by rw [HN2.out] at h1; exact h1) h1 h2⟩
            clear HALL hlt hB HA2 HB2
            have HF : Hid (R = true) := by
              show R = true
              rw [HR.out, tpB, HS1.out, HS2.out]
              simp
            go_wp2
            go_ret
            exact ⟨by rw [HF.out]; rfl, HB.out⟩
  · have HF : Hid (R = false) := by
      show R = false
      rw [HR.out]
      cases e : tpB S S' Ls Ls' Hs Hs'
      · rfl
      · obtain ⟨rfl, rfl, rfl⟩ := tpB_iff.1 e
        exact absurd ⟨rfl, by rw [← HN1.out, HM1.out], by rw [← HN2.out, HM2.out]⟩ hl
    by_cases hS : S = S'
    · subst hS
      have e1 : (S == S) = true := by simp
      by_cases h1 : n = m
      · subst h1
        have e2 : ((n : Int) == (n : Int)) = true := by simp
        have e3 : ((n2 : Int) == (m2 : Int)) = false := beq_eq_false_iff_ne.2 (fun e => hl ⟨rfl, rfl, by omega⟩)
        have e4 : ((n2 : Int) != (m2 : Int)) = true := by rw [bne, e3]; rfl
        clear hl
        go_enter Tryd.func25, Tryd.ntmps25
        go_wp2
        go_ret
        exact ⟨by rw [HF.out]; rfl, HBW.out⟩
      · have e3 : ((n : Int) == (m : Int)) = false := beq_eq_false_iff_ne.2 (by omega)
        have e4 : ((n : Int) != (m : Int)) = true := by rw [bne, e3]; rfl
        clear hl h1
        go_enter Tryd.func25, Tryd.ntmps25
        go_wp2
        go_ret
        exact ⟨by rw [HF.out]; rfl, HBW.out⟩
    · have e3 : (S == S') = false := beq_eq_false_iff_ne.2 hS
      have e4 : (S != S') = true := by rw [bne, e3]; rfl
      clear hl hS
      go_enter Tryd.func25, Tryd.ntmps25
      go_wp2
      go_ret
      exact ⟨by rw [HF.out]; rfl, HBW.out⟩
end Go.Proofs.YtokkmnednhigmaeDoor
/- What table.Do answers, called with any table, and any rule to be added or taken away. -/
namespace Go.Proofs.YtokkmnednhigmaeDoor
open Go.RowKit
set_option linter.unusedSimpArgs false
set_option linter.unusedVariables false

theorem do_tb {L : List Ru} {a : Bool} {r : Ru} (h : tbN L ≠ 0) : doN L a r = tbN L ∧ doL L a r = [] := by
  have e : doN L a r = tbN L := by simp [doN, h]
  exact ⟨e, by rw [doL, e, if_neg h]⟩
theorem do_ru {L : List Ru} {a : Bool} {r : Ru} (h : tbN L = 0) (h2 : r.n ≠ 0) : doN L a r = r.n ∧ doL L a r = [] := by
  have e : doN L a r = r.n := by simp [doN, h, h2]
  exact ⟨e, by rw [doL, e, if_neg h2]⟩
theorem do_ch {L : List Ru} {a : Bool} {r : Ru} (h : tbN L = 0) (h2 : r.n = 0) : doN L a r = chN L a r ∧ doL L a r = chL L a r := by
  have e : doN L a r = chN L a r := by simp [doN, h, h2]
  refine ⟨e, ?_⟩
  by_cases h3 : chN L a r = 0
  · rw [doL, e, if_pos h3]
  · rw [doL, e, if_neg h3, chL_ne h3]

set_option maxHeartbeats 2000000 in
set_option maxRecDepth 100000 in
theorem do_own (ao : Option Addr) (n cap : Nat) (a : Bool) (p m b o s v : Int) (L : List Ru) (w : World) (hs : SR w (.slice ao n cap) L) :
    Calls Tryd.prog 23 #[.slice ao n cap, .bool a, .agg #[.int .i64 p, .int .i64 m, .int .i64 b, .int .i64 o, .int .i64 s, .int .i64 v]] w fun e w' => ∃ u, e = .returned (.tuple #[u, noV (doN L a ⟨p, m, b, o, s, v⟩)]) ∧ NR w' w.heap.size u (doL L a ⟨p, m, b, o, s, v⟩) ∧ Below w.heap.size w w' := by
  have hB0 : Below w.heap.size w (w.alloc (Obj.cells #[Value.int IntKind.i64 p, Value.int IntKind.i64 m, Value.int IntKind.i64 b, Value.int IntKind.i64 o, Value.int IntKind.i64 s, Value.int IntKind.i64 v] 51)) := (Below.refl _ _).alloc (Nat.le_refl _) _
  have HC0 := C6.new w p m b o s v 51
  have HS0 : Hid (SR (w.alloc (Obj.cells #[Value.int IntKind.i64 p, Value.int IntKind.i64 m, Value.int IntKind.i64 b, Value.int IntKind.i64 o, Value.int IntKind.i64 s, Value.int IntKind.i64 v] 51)) (.slice ao n cap) L) := hs.later hB0
  have HB0 : Hid (Below w.heap.size w (w.alloc (Obj.cells #[Value.int IntKind.i64 p, Value.int IntKind.i64 m, Value.int IntKind.i64 b, Value.int IntKind.i64 o, Value.int IntKind.i64 s, Value.int IntKind.i64 v] 51))) := hB0
  have HLN : Hid (L.length = n) := hs.len
  clear hs hB0
  by_cases h1 : tbN L = 0
  · have HT : Hid (tbN L = 0) := h1
    by_cases h2 : (⟨p, m, b, o, s, v⟩ : Ru).n = 0
    · have HR : Hid (ruN p m b o s v = 0) := h2
      have HN1 : Hid (n ≤ 1000) := by
        have := (tb_iff.1 h1).1
        have := HLN.out
        show n ≤ 1000
        omega
      rw [(do_ch h1 h2).1, (do_ch h1 h2).2]
      clear h1 h2
      cases a
      · go_enter Tryd.func23, Tryd.ntmps23
        go_wp2_with fail
        refine (table_any _ L _ HS0.out).mono ?_
        rintro e w1 ⟨rfl, hb1⟩
        rw [no_ok HT.out]
        have HB1 : Hid (Below w.heap.size w w1) := HB0.out.trans (hb1.mono HB0.out.size)
        have HS1 : Hid (SR w1 (.slice ao n cap) L) := HS0.out.later hb1
        have HC1 : Hid (C6 w1 w.heap.size 0 ⟨p, m, b, o, s, v⟩) := HC0.later hb1
        obtain ⟨c0, c1, c2, c3, c4, c5⟩ := HC0.later hb1
        simp only [Nat.zero_add] at c0 c1 c2 c3 c4 c5
        have hlt : w.heap.size < w1.heap.size := World.block_lt_of_cell? _ _ c0
        clear hb1
        go_wp2_with fail
        refine (ruCheck_any _ _ _ _ _ _ _).mono ?_
        rintro e w2 ⟨rfl, hb2⟩
        rw [no_ok HR.out]
        have HB2 : Hid (Below w.heap.size w w2) := HB1.out.trans (hb2.mono HB1.out.size)
        have HS2 : Hid (SR w2 (.slice ao n cap) L) := HS1.out.later hb2
        obtain ⟨d0, d1, d2, d3, d4, d5⟩ := HC1.out.later hb2
        simp only [Nat.zero_add] at d0 d1 d2 d3 d4 d5
        have hlt2 : w.heap.size < w2.heap.size := World.block_lt_of_cell? _ _ d0
        clear hb2 c0 c1 c2 c3 c4 c5
        go_wp2_with fail
        refine (without_any ao n cap p m b o s v L _ HS2.out HN1.out).mono ?_
        rintro e w3 ⟨u, rfl, hsr, hb3⟩
        have HB3 : Hid (Below w.heap.size w w3) := HB2.out.trans (hb3.mono HB2.out.size)
        have HO : Hid (NR w3 w.heap.size u (chL L false ⟨p, m, b, o, s, v⟩)) := hsr.mono HB2.out.size
        clear hb3 hsr d0 d1 d2 d3 d4 d5
        generalize hE : noV (chN L false ⟨p, m, b, o, s, v⟩) = E
        have HE : Hid (noV (chN L false ⟨p, m, b, o, s, v⟩) = E) := hE
        clear hE
        go_wp2
        refine bodyPost_ret (v := .tuple #[u, E]) (by simp [results, Tryd.results23, go_sem]) rfl ⟨_, by rw [HE.out], HO.out, HB3.out⟩
      · go_enter Tryd.func23, Tryd.ntmps23
        go_wp2_with fail
        refine (table_any _ L _ HS0.out).mono ?_
        rintro e w1 ⟨rfl, hb1⟩
        rw [no_ok HT.out]
        have HB1 : Hid (Below w.heap.size w w1) := HB0.out.trans (hb1.mono HB0.out.size)
        have HS1 : Hid (SR w1 (.slice ao n cap) L) := HS0.out.later hb1
        have HC1 : Hid (C6 w1 w.heap.size 0 ⟨p, m, b, o, s, v⟩) := HC0.later hb1
        obtain ⟨c0, c1, c2, c3, c4, c5⟩ := HC0.later hb1
        simp only [Nat.zero_add] at c0 c1 c2 c3 c4 c5
        have hlt : w.heap.size < w1.heap.size := World.block_lt_of_cell? _ _ c0
        clear hb1
        go_wp2_with fail
        refine (ruCheck_any _ _ _ _ _ _ _).mono ?_
        rintro e w2 ⟨rfl, hb2⟩
        rw [no_ok HR.out]
        have HB2 : Hid (Below w.heap.size w w2) := HB1.out.trans (hb2.mono HB1.out.size)
        have HS2 : Hid (SR w2 (.slice ao n cap) L) := HS1.out.later hb2
        obtain ⟨d0, d1, d2, d3, d4, d5⟩ := HC1.out.later hb2
        simp only [Nat.zero_add] at d0 d1 d2 d3 d4 d5
        have hlt2 : w.heap.size < w2.heap.size := World.block_lt_of_cell? _ _ d0
        clear hb2 c0 c1 c2 c3 c4 c5
        go_wp2_with fail
        refine (with_any ao n cap p m b o s v L _ HS2.out).mono ?_
        rintro e w3 ⟨u, rfl, hsr, hb3⟩
        have HB3 : Hid (Below w.heap.size w w3) := HB2.out.trans (hb3.mono HB2.out.size)
        have HO : Hid (NR w3 w.heap.size u (chL L true ⟨p, m, b, o, s, v⟩)) := hsr.mono HB2.out.size
        clear hb3 hsr d0 d1 d2 d3 d4 d5
        generalize hE : noV (chN L true ⟨p, m, b, o, s, v⟩) = E
        have HE : Hid (noV (chN L true ⟨p, m, b, o, s, v⟩) = E) := hE
        clear hE
        go_wp2
        refine bodyPost_ret (v := .tuple #[u, E]) (by simp [results, Tryd.results23, go_sem]) rfl ⟨_, by rw [HE.out], HO.out, HB3.out⟩
    · have HR : Hid (ruN p m b o s v ≠ 0) := h2
      rw [(do_ru h1 h2).1, (do_ru h1 h2).2]
      have HRV : Hid (noV (Ru.n ⟨p, m, b, o, s, v⟩) = .iface 63 (.int .i64 (ruN p m b o s v))) := no_ne h2
      clear h1 h2
      go_enter Tryd.func23, Tryd.ntmps23
      go_wp2_with fail
      refine (table_any _ L _ HS0.out).mono ?_
      rintro e w1 ⟨rfl, hb1⟩
      rw [no_ok HT.out]
      have HB1 : Hid (Below w.heap.size w w1) := HB0.out.trans (hb1.mono HB0.out.size)
      obtain ⟨c0, c1, c2, c3, c4, c5⟩ := HC0.later hb1
      simp only [Nat.zero_add] at c0 c1 c2 c3 c4 c5
      have hlt : w.heap.size < w1.heap.size := World.block_lt_of_cell? _ _ c0
      clear hb1
      go_wp2_with fail
      refine (ruCheck_any _ _ _ _ _ _ _).mono ?_
      rintro e w2 ⟨rfl, hb2⟩
      rw [no_ne HR.out]
      have HB2 : Hid (Below w.heap.size w w2) := HB1.out.trans (hb2.mono HB1.out.size)
      clear hb2 c0 c1 c2 c3 c4 c5
      go_wp2
      refine bodyPost_ret (v := .tuple #[.slice none 0 0, .iface 63 (.int .i64 (ruN p m b o s v))]) (by simp [results, Tryd.results23, go_sem]) rfl ⟨_, by rw [HRV.out], NR.nil _ _, HB2.out⟩
  · have HT : Hid (tbN L ≠ 0) := h1
    rw [(do_tb h1).1, (do_tb h1).2, no_ne h1]
    clear h1
    go_enter Tryd.func23, Tryd.ntmps23
    go_wp2_with fail
    refine (table_any _ L _ HS0.out).mono ?_
    rintro e w1 ⟨rfl, hb1⟩
    rw [no_ne HT.out]
    have HB1 : Hid (Below w.heap.size w w1) := HB0.out.trans (hb1.mono HB0.out.size)
    clear hb1
    go_wp2
    refine bodyPost_ret (v := .tuple #[.slice none 0 0, .iface 63 (.int .i64 (tbN L))]) (by simp [results, Tryd.results23, go_sem]) rfl ⟨_, rfl, NR.nil _ _, HB1.out⟩
theorem do_any (ao : Option Addr) (n cap : Nat) (a : Bool) (p m b o s v : Int) (L : List Ru) (w : World) (hs : SR w (.slice ao n cap) L) :
    Calls Tryd.prog 23 #[.slice ao n cap, .bool a, .agg #[.int .i64 p, .int .i64 m, .int .i64 b, .int .i64 o, .int .i64 s, .int .i64 v]] w fun e w' => ∃ u, e = .returned (.tuple #[u, noV (doN L a ⟨p, m, b, o, s, v⟩)]) ∧ SR w' u (doL L a ⟨p, m, b, o, s, v⟩) ∧ Below w.heap.size w w' :=
  (do_own ao n cap a p m b o s v L w hs).mono fun _ _ ⟨u, h1, h2, h3⟩ => ⟨u, h1, h2.sr, h3⟩
end Go.Proofs.YtokkmnednhigmaeDoor
