/- Contracts and facts on the way to ChangeTells, joined into one text: Gen, StSpot, StLink, OwnRow, Err, CubeMath, CubeCon, CubeHas, RuleMath, RuleCon, RuleTabMath, RuleTab, RuleOf, RuleOwn. -/
import Derived.WalkKit
import Derived.WalkSpells
import Derived.Below
import Derived.ProofKit
import Derived.OpenShut
import Derived.ChangeOld
import Derived.Laws.AppendOwnNone
import Derived.Deep.Slices
import Derived.Test.YtokkmnednhigmaeDoorRows
import Derived.Lib.SmallJoins
import Derived.Laws.StructEq
import Derived.Maps.OwnOps
import Derived.Laws.BytesArg
import Derived.Shelf.Abstract
/- Slices of anything that is a fixed number of cells: where they lie, rows of them that a call owns, such that came in. No program in it. -/
namespace Go.Proofs.YtokkmnednhigmaeDoor
open Go.ChangeShapes Go.WideShapes Go.ChangeAt Go.RowKit

/-- How things are laid out in cells: each as so many. -/
structure Enc (α : Type) where
  c : α → List Value
  n : Nat
  len : ∀ x, (c x).length = n
  pos : 0 < n
  one : ∀ x u, u ∈ c x → u.oneCell' = true
/-- Values lie one behind the other from an address on. -/
def VAt (w : World) (g o : Nat) (vs : List Value) : Prop := ∀ j u, vs[j]? = some u → w.cell? ⟨g, o + j, none⟩ = some u
theorem VAt.later {w w' : World} {g o : Nat} {vs : List Value} (h : VAt w g o vs) (hb : Below w.heap.size w w') : VAt w' g o vs := fun j u hu => cell_later hb (h j u hu)
theorem vat_new (w : World) (vs : List Value) (t : TypeId) : VAt (w.alloc (.cells vs.toArray t)) w.heap.size 0 vs := by
  intro j u hu
  rw [Nat.zero_add]
  have hj : j < vs.length := (List.getElem?_eq_some_iff.1 hu).1
  simp only [World.cell?, World.alloc]
  simp [hu]
section
variable {α : Type} {E : Enc α}
/-- These lie from an address on. -/
def GAt (E : Enc α) (w : World) (g o : Nat) (L : List α) : Prop := ∀ i (h : i < L.length), VAt w g (o + i * E.n) (E.c L[i])
theorem GAt.later {w w' : World} {g o : Nat} {L : List α} (h : GAt E w g o L) (hb : Below w.heap.size w w') : GAt E w' g o L := fun i hi => (h i hi).later hb
theorem GAt.take {w : World} {g o : Nat} {L : List α} (h : GAt E w g o L) (k : Nat) : GAt E w g o (L.take k) := by
  intro i hi
  rw [List.getElem_take]
  exact h i (by simp at hi; omega)
theorem GAt.drop {w : World} {g o : Nat} {L : List α} (h : GAt E w g o L) (k : Nat) : GAt E w g (o + k * E.n) (L.drop k) := by
  intro i hi
  have hi2 : k + i < L.length := by simp at hi; omega
  have := h (k + i) hi2
  rw [List.getElem_drop]
  have e : o + (k + i) * E.n = o + k * E.n + i * E.n := by rw [Nat.add_mul]; omega
  rw [← e]
  exact this
/-- A value is a slice of these. -/
def GS (E : Enc α) (w : World) (v : Value) (L : List α) : Prop :=
  (∃ ao cap, v = .slice ao 0 cap ∧ L = []) ∨ ∃ g o cap, v = .slice (some ⟨g, o, none⟩) L.length cap ∧ L.length ≤ cap ∧ cap ≤ maxLen ∧ GAt E w g o L
theorem GS.later {w w' : World} {v : Value} {L : List α} (h : GS E w v L) (hb : Below w.heap.size w w') : GS E w' v L := by
  rcases h with h | ⟨g, o, cap, h1, h2, h3, h4⟩
  · exact .inl h
  · exact .inr ⟨g, o, cap, h1, h2, h3, h4.later hb⟩
theorem GS.form {w : World} {v : Value} {L : List α} (h : GS E w v L) : ∃ ao n cap, v = .slice ao n cap ∧ L.length = n ∧ n ≤ maxLen ∧ n ≤ cap ∧ (0 < n → ∃ g o, ao = some ⟨g, o, none⟩ ∧ GAt E w g o L ∧ cap ≤ maxLen) := by
  rcases h with ⟨ao, cap, rfl, rfl⟩ | ⟨g, o, cap, rfl, h1, h2, h3⟩
  · exact ⟨ao, 0, cap, rfl, rfl, Nat.zero_le _, Nat.zero_le _, fun h => absurd h (by omega)⟩
  · exact ⟨_, _, cap, rfl, rfl, Nat.le_trans h1 h2, h1, fun _ => ⟨g, o, rfl, h3, h2⟩⟩
theorem GS.len {w : World} {ao : Option Addr} {n cap : Nat} {L : List α} (h : GS E w (.slice ao n cap) L) : L.length = n := by
  rcases h with ⟨_, _, e, rfl⟩ | ⟨_, _, _, e, _⟩
  · simp at e; simp [e]
  · simp at e; exact e.2.1.symm
theorem GS.nil (w : World) : GS E w (.slice none 0 0) [] := .inl ⟨none, 0, rfl, rfl⟩
/-- One in a new row. -/
theorem gs_one (w : World) (x : α) (t : TypeId) {vs : List Value} (hv : vs = E.c x) : GS E (w.alloc (.cells vs.toArray t)) (.slice (some ⟨w.heap.size, 0, none⟩) 1 1) [x] := by
  subst hv
  refine .inr ⟨w.heap.size, 0, 1, rfl, Nat.le_refl _, by unfold maxLen; omega, fun i hi => ?_⟩
  obtain rfl : i = 0 := by simp at hi; omega
  have h := vat_new w (E.c x) t
  simpa using h
/-- The cells of some. -/
def cellsG (E : Enc α) (L : List α) : List Value := L.flatMap E.c
theorem cellsG_len (L : List α) : (cellsG E L).length = L.length * E.n := by
  induction L with
  | nil => simp [cellsG]
  | cons x r ih =>
    simp only [cellsG, List.flatMap_cons, List.length_append, List.length_cons, E.len] at *
    rw [ih, Nat.add_mul]
    omega
theorem cellsG_app (L M : List α) : cellsG E (L ++ M) = cellsG E L ++ cellsG E M := by simp [cellsG]
theorem cellsG_one (x : α) : cellsG E [x] = E.c x := by simp [cellsG]
theorem cellsG_at (L : List α) : ∀ (i : Nat) (h : i < L.length) (j : Nat), j < E.n → (cellsG E L)[i * E.n + j]? = (E.c L[i])[j]? := by
  induction L with
  | nil => intro i h; simp at h
  | cons x r ih =>
    intro i h j hj
    cases i with
    | zero =>
      simp only [cellsG, List.flatMap_cons, Nat.zero_mul, Nat.zero_add, List.getElem_cons_zero]
      rw [List.getElem?_append_left (by rw [E.len]; exact hj)]
    | succ i =>
      have := ih i (by simpa using h) j hj
      simp only [cellsG, List.flatMap_cons, List.getElem_cons_succ] at this ⊢
      rw [List.getElem?_append_right (by rw [E.len, Nat.add_mul]; omega), E.len]
      have e : (i + 1) * E.n + j - E.n = i * E.n + j := by rw [Nat.add_mul]; omega
      rw [e]
      exact this
theorem cellsG_all (L : List α) : ∀ u ∈ cellsG E L, u.oneCell' = true := by
  intro u hu
  simp only [cellsG, List.mem_flatMap] at hu
  obtain ⟨x, _, hx⟩ := hu
  exact E.one x u hx
/-- What a call owns may be read. -/
theorem own_GS {w : World} {B e : Nat} {v : Value} {L : List α} (h : w.ownsRow B e E.n v L.length (cellsG E L)) : GS E w v L := by
  rcases h.2 with ⟨rfl, h0⟩ | ⟨g, cap, cur, rfl, _, _, h1, h2, _⟩
  · exact .inl ⟨none, 0, rfl, List.length_eq_zero_iff.1 h0⟩
  · refine .inr ⟨g, 0, cap, rfl, h1, h2, fun i hi j u hu => ?_⟩
    have hj : j < E.n := by
      have := (List.getElem?_eq_some_iff.1 hu).1
      rw [E.len] at this
      exact this
    have hlt : i * E.n + j < L.length * E.n := by
      have : (i + 1) * E.n ≤ L.length * E.n := Nat.mul_le_mul_right _ hi
      rw [Nat.add_mul] at this
      omega
    rw [Nat.zero_add, h.cellAt _ hlt, cellsG_at L i hi j hj]
    exact hu
theorem GAt.cells {w : World} {g o : Nat} {M : List α} (h : GAt E w g o M) : ∀ j u, (cellsG E M)[j]? = some u → w.cell? ((⟨g, o, none⟩ : Addr).add j) = some u := by
  intro j u hu
  have hj : j < M.length * E.n := by
    have := (List.getElem?_eq_some_iff.1 hu).1
    rw [cellsG_len] at this
    exact this
  have hadd : (⟨g, o, none⟩ : Addr).add j = ⟨g, o + j, none⟩ := by
    simp only [Addr.add]
    first
      | rfl
      | (split
         · next h0 => rw [h0]; rfl
         · rfl)
  have hi : j / E.n < M.length := Nat.div_lt_of_lt_mul (by rw [Nat.mul_comm]; exact hj)
  have hm : j % E.n < E.n := Nat.mod_lt _ E.pos
  have e : j / E.n * E.n + j % E.n = j := by rw [Nat.mul_comm]; exact Nat.div_add_mod _ _
  have h1 := cellsG_at (E := E) M (j / E.n) hi (j % E.n) hm
  rw [e, hu] at h1
  have h2 := h (j / E.n) hi (j % E.n) u h1.symm
  rw [Nat.add_assoc, e] at h2
  rw [hadd]
  exact h2
end

section
variable {α : Type}
theorem any_nextG {L : List α} {f : α → Bool} {k : Nat} (hk : k < L.length) (h : (L.take k).any f = false) (h2 : f L[k] = false) : (L.take (k + 1)).any f = false := by
  rw [List.take_succ_eq_append_getElem hk]
  simp only [List.any_append, h, List.any_cons, List.any_nil, h2, Bool.or_false]
theorem any_hitG {L : List α} {f : α → Bool} {k : Nat} (hk : k < L.length) (h2 : f L[k] = true) : L.any f = true := List.any_eq_true.2 ⟨_, List.getElem_mem hk, h2⟩
/-- The first place where something is so, or -1. -/
def ixG (f : α → Bool) (L : List α) : Int := if L.any f then (L.findIdx f : Int) else -1
theorem ixG_hit {L : List α} {f : α → Bool} {k : Nat} (hk : k < L.length) (h : (L.take k).any f = false) (h2 : f L[k] = true) : ixG f L = k := by
  rw [ixG, any_hitG hk h2, if_pos rfl]
  congr 1
  rw [List.findIdx_eq hk]
  refine ⟨h2, fun j hj => ?_⟩
  rw [List.any_eq_false] at h
  have := h L[j] (by rw [List.mem_take_iff_getElem]; exact ⟨j, by omega, rfl⟩)
  simpa using this
theorem ixG_no {L : List α} {f : α → Bool} (h : L.any f = false) : ixG f L = -1 := by simp [ixG, h]
theorem ixG_any (L : List α) (f : α → Bool) : decide (0 ≤ ixG f L) = L.any f := by
  unfold ixG
  cases L.any f
  · simp
  · simp
end
section
variable {α : Type}
/-- Are two lists the same, one by one? -/
def smG (q : α → α → Bool) : List α → List α → Bool
  | [], [] => true
  | a :: l, b :: m => q a b && smG q l m
  | _, _ => false
theorem smG_iff {q : α → α → Bool} : ∀ {L M : List α}, smG q L M = true ↔ L.length = M.length ∧ ∀ i (h1 : i < L.length) (h2 : i < M.length), q L[i] M[i] = true
  | [], [] => by simp [smG]
  | [], _ :: _ => by simp [smG]
  | _ :: _, [] => by simp [smG]
  | a :: l, b :: m => by
    rw [smG, Bool.and_eq_true, smG_iff (L := l) (M := m)]
    constructor
    · rintro ⟨h1, h2, h3⟩
      refine ⟨by simp [h2], fun i hi hj => ?_⟩
      cases i with
      | zero => exact h1
      | succ i => exact h3 i (by simpa using hi) (by simpa using hj)
    · rintro ⟨h1, h2⟩
      refine ⟨h2 0 (by simp) (by simp), by simpa using h1, fun i hi hj => ?_⟩
      exact h2 (i + 1) (by simpa using hi) (by simpa using hj)
theorem smG_len {q : α → α → Bool} {L M : List α} (h : L.length ≠ M.length) : smG q L M = false := by
  cases e : smG q L M
  · rfl
  · exact absurd (smG_iff.1 e).1 h
theorem smG_no {q : α → α → Bool} {L M : List α} {k : Nat} (h1 : k < L.length) (h2 : k < M.length) (h : q L[k] M[k] = false) : smG q L M = false := by
  cases e : smG q L M
  · rfl
  · have := (smG_iff.1 e).2 k h1 h2
    rw [h] at this
    cases this
theorem smG_eq {q : α → α → Bool} (hq : ∀ a b, q a b = true ↔ a = b) : ∀ {L M : List α}, smG q L M = true ↔ L = M
  | [], [] => by simp [smG]
  | [], _ :: _ => by simp [smG]
  | _ :: _, [] => by simp [smG]
  | a :: l, b :: m => by
    rw [smG, Bool.and_eq_true, smG_eq hq, hq]
    simp
end
section
variable {P : Program} {α : Type} {E : Enc α}
theorem run_append_none {w : World} (base : Nat) (t ty e : TypeId) (i : TypeInfo) (size cap2 : Nat) (ht : P.underlying t = some (.slice e)) (hi : P.info? e = some i)
    (v : Value) (n : Nat) (xs : List Value) (hown : w.ownsRow base e size v n xs) :
    (Builtin.append_ #[t, t] ty #[v, .slice none 0 cap2]).run P w = .ok v w := by
  rcases hown.2 with ⟨rfl, rfl⟩ | ⟨g, cap, cur, rfl, _, _, hnc, _⟩
  · simp [Builtin.append_, run_underlying ht, sizeOf, typeInfo, hi, Builtin.lenOf, Builtin.firstCells]
  · simp [Builtin.append_, run_underlying ht, sizeOf, typeInfo, hi, Builtin.lenOf, Builtin.firstCells, hnc, storeCells]
/-- Appending a slice, whoever made it, to a row that a call owns. -/
theorem wpList_append_GS (w : World) {ops : Array Oper} {rest : List Oper} {o : Oper} {a : Act} {Q : Exit → Act → World → Prop} (hgd : o.guard = none) (s x : Operand) (t e : TypeId)
    (ho : o.op = .call { callee := .builtin .append, args := #[s, x], argTypes := #[t, t] }) (ht : P.underlying t = some (.slice e)) (i : TypeInfo) (z : Value) (bytes : Nat) (hi : P.info? e = some i) (hz : i.zero = some z)
    (hsize : i.size = E.n) (hby : i.bytes = bytes) (hzs : z.cells.size = E.n) (base : Nat)
    (v : Value) (hs : a.eval s = v) (L : List α) (hown : w.ownsRow base e E.n v L.length (cellsG E L)) (u : Value) (hx : a.eval x = u) (M : List α) (hM : GS E w u M)
    (h63 : L.length + M.length ≤ maxLen) (hbytes : (L.length + M.length) * bytes ≤ 140737488355328) (hbase : base ≤ w.heap.size)
    (h : ∀ v' w', w'.ownsRow base e E.n v' (L ++ M).length (cellsG E (L ++ M)) → w.grownBy w' v.ownBlock → wpList P ops Q rest (a.put o.dst v') w') : wpList P ops Q (o :: rest) a w := by
  have key : ∀ (ad : Addr) (m c : Nat) (news : List Value), a.eval x = .slice (some ad) m c → news.length = m * E.n → (∀ j u, news[j]? = some u → w.cell? (ad.add j) = some u) → (∀ u ∈ news, u.oneCell' = true) → m = M.length → news = cellsG E M → wpList P ops Q (o :: rest) a w := by
    intro ad m c news e1 e2 e3 e4 e5 e6
    refine wpList_append_own w hgd s x t ho base e i z E.n bytes ht hi hz hsize hby hzs E.pos v _ _ hs hown ad m c news e1 e2 e3 e4 (by rw [e5]; exact h63) (by rw [e5]; exact hbytes) hbase ?_
    intro v' w' h1 h2 _
    refine h v' w' ?_ h2
    rw [List.length_append, cellsG_app, ← e5, ← e6]
    exact h1
  rcases hM with ⟨ao, cap, rfl, rfl⟩ | ⟨g, q, cap, rfl, h1, h2, h3⟩
  · cases ao with
    | none =>
      refine wpList_plain hgd fun K hK => ?_
      have hrun := run_append_none (P := P) (w := w) base t o.type e i E.n cap ht hi v _ _ hown
      unfold Oper.wp
      simp [execOp, ho, resolve, invoke, builtin, hs, hx, hrun, Result.andThen]
      exact hK _ _ (h v w (by rw [List.append_nil]; exact hown) ⟨rfl, rfl, rfl, Nat.le_refl _, fun _ _ _ => rfl⟩)
    | some ad => exact key ad 0 cap [] hx (by simp) (by intro j u hu; simp at hu) (by intro u hu; cases hu) rfl rfl
  · exact key ⟨g, q, none⟩ M.length cap (cellsG E M) hx (cellsG_len M) h3.cells (cellsG_all M) rfl rfl

set_option maxRecDepth 100000 in
/-- A slice that came in lies where it says. 'hel': cells that read as one element are its layout. -/
theorem gs_of {H : Type} {enc : TypeId × Value → H} {W : World} {base : Nat} {v : Value} {d : DataW H} {p : List MemPlace} (ts te : TypeId) (hu : P.underlying ts = some (.slice te)) (hC : P.cellsOf te = E.n) (x0 : α)
    (hel : ∀ (n : Nat) (cs : List Value) (x : DataW H × List MemPlace), DataW.trod enc P W 0 (fun _ => true) true n te cs = some x → ∃ y, cs = E.c y)
    (hv : Value.okWide P W .any base ts v) (h : DataW.Trod enc P W 0 (fun _ => true) true ts v d p) : ∃ L, GS E W v L := by
  obtain ⟨a0, len0, cap0, rfl⟩ := okWide_slice hu hv
  obtain ⟨fuel, hf⟩ := h
  have hf2 : DataW.trod enc P W 0 (fun _ => true) true fuel ts [.slice a0 len0 cap0] = some (d, p) := hf
  rcases Go.Deep.open_slice hu hf2 with ⟨hc, hx⟩ | ⟨a, len, cap, m, k, D, Pl, hc, _, hl, hm, hmm, hx, hall⟩
  · simp only [List.cons.injEq, and_true, Value.slice.injEq] at hc
    obtain ⟨rfl, rfl, rfl⟩ := hc
    exact ⟨[], .inl ⟨none, 0, rfl, rfl⟩⟩
  · simp only [List.cons.injEq, and_true, Value.slice.injEq] at hc
    obtain ⟨rfl, rfl, rfl⟩ := hc
    simp only [if_true] at hmm
    subst hmm
    rcases Nat.eq_zero_or_pos len0 with h0 | h0
    · subst h0
      exact ⟨[], .inl ⟨_, _, rfl, rfl⟩⟩
    · have each : ∀ i, i < m → ∃ y : α, ∀ j, j < E.n → W.cell? (a.add (i * E.n + j)) = (E.c y)[j]? := by
        intro i hi
        obtain ⟨cs, h1, h2⟩ := hall i hi
        rw [hC] at h1
        obtain ⟨_, hlen, hcell⟩ := World.cells?_some h1
        obtain ⟨y, rfl⟩ := hel _ _ _ h2
        refine ⟨y, fun j hj => ?_⟩
        have := hcell j (by omega)
        rw [Go.Deep.add_add] at this
        exact this
      have iR : Inhabited α := ⟨x0⟩
      obtain ⟨R, hR⟩ := Go.Deep.choose_lt each
      obtain ⟨sb, so, spot⟩ := a
      have hspot : spot = none := by
        have h1 := hR 0 (by omega) 0 E.pos
        have h2 : (E.c (R 0))[0]?.isSome = true := by
          rw [List.getElem?_eq_getElem (by rw [E.len]; exact E.pos)]
          rfl
        obtain ⟨u, hu2⟩ := Option.isSome_iff_exists.1 h2
        rw [hu2] at h1
        simpa [Addr.add] using World.cell?_spot h1
      subst hspot
      have hadd : ∀ j, (⟨sb, so, none⟩ : Addr).add j = ⟨sb, so + j, none⟩ := by
        intro j
        simp only [Addr.add]
        first
          | rfl
          | (split
             · next h0 => rw [h0]; rfl
             · rfl)
      refine ⟨(List.range len0).map R, .inr ⟨sb, so, _, by simp, by simpa using hl, hm, fun i hi j u hu2 => ?_⟩⟩
      have hi2 : i < len0 := by simpa using hi
      have e : ((List.range len0).map R)[i] = R i := by simp
      rw [e] at hu2
      have hj : j < E.n := by
        have := (List.getElem?_eq_some_iff.1 hu2).1
        rw [E.len] at this
        exact this
      have hc := hR i (by omega) j hj
      rw [hadd, hu2, ← Nat.add_assoc] at hc
      exact hc
end
end Go.Proofs.YtokkmnednhigmaeDoor
/- The struct api.Spot: its cells, slices of them, == of two, such that came in. Written by mk/struct.py. -/
namespace Go.Proofs.YtokkmnednhigmaeDoor
open Go.ChangeShapes Go.WideShapes Go.ChangeAt Go.RowKit Go.Joins
set_option linter.unusedSimpArgs false
set_option linter.unusedVariables false
set_option maxRecDepth 100000

def spoE : Enc (Int × Int) where
  c := fun x => [.int .i64 x.1, .int .i64 x.2]
  n := 2
  len := fun _ => rfl
  pos := by decide
  one := by
    intro x u hu
    simp at hu
    rcases hu with rfl | rfl <;> rfl
theorem spo_cells {w : World} {g o : Nat} {x0 : Int} {x1 : Int} (h : VAt w g o (spoE.c (x0, x1))) : w.cell? ⟨g, o, none⟩ = some (.int .i64 x0) ∧ w.cell? ⟨g, o + 1, none⟩ = some (.int .i64 x1) :=
  ⟨h 0 _ rfl, h 1 _ rfl⟩
theorem spo_at {w : World} {g o : Nat} {L : List (Int × Int)} (h : GAt spoE w g o L) {n k : Nat} (hn : L.length = n) (hk : k < n) :
    ∃ (x0 : Int) (x1 : Int) (hl : k < L.length), L[k] = (x0, x1) ∧ w.cell? ⟨g, o + k * 2, none⟩ = some (.int .i64 x0) ∧ w.cell? ⟨g, o + k * 2 + 1, none⟩ = some (.int .i64 x1) :=
  have hl : k < L.length := by omega
  ⟨_, _, hl, rfl, spo_cells (h k hl)⟩
theorem spo_new (w : World) (x0 : Int) (x1 : Int) (t : TypeId) : VAt (w.alloc (Obj.cells #[.int .i64 x0, .int .i64 x1] t)) w.heap.size 0 (spoE.c (x0, x1)) := vat_new w [.int .i64 x0, .int .i64 x1] t
theorem spo_row (w : World) (x0 : Int) (x1 : Int) (t : TypeId) : GS spoE (w.alloc (Obj.cells #[.int .i64 x0, .int .i64 x1] t)) (.slice (some ⟨w.heap.size, 0, none⟩) 1 1) [(x0, x1)] := gs_one (E := spoE) w (x0, x1) t (vs := [.int .i64 x0, .int .i64 x1]) rfl
/-- Are two the same? -/
def spoB (a b : Int × Int) : Bool := (a.1 == b.1) && ((a.2 == b.2))
theorem spoB_iff (a b : Int × Int) : spoB a b = true ↔ a = b := by
  have e : spoB a b = ((a.1 == b.1) && ((a.2 == b.2))) := rfl
  rw [e]
  simp only [Bool.and_eq_true, beq_iff_eq]
  constructor
  · intro h
    obtain ⟨a0, a1⟩ := a; obtain ⟨b0, b1⟩ := b; simp at h ⊢; simp [h]
  · intro h
    subst h
    simp
theorem spo_ways (x0 : Int) (x1 : Int) (y0 : Int) (y1 : Int) :
    ((x0 == y0) = false ∧ spoB (x0, x1) (y0, y1) = false) ∨
    ((x0 == y0) = true ∧ (x1 == y1) = false ∧ spoB (x0, x1) (y0, y1) = false) ∨
    ((x0 == y0) = true ∧ (x1 == y1) = true ∧ spoB (x0, x1) (y0, y1) = true) := by
  have e : spoB (x0, x1) (y0, y1) = ((x0 == y0) && ((x1 == y1))) := rfl
  rw [e]
  cases h0 : (x0 == y0)
  · simp
  · skip
    cases h1 : (x1 == y1)
    · simp
    · skip
      simp
set_option maxRecDepth 100000 in
theorem spo_eq (x0 : Int) (x1 : Int) (y0 : Int) (y1 : Int) (w : World) : (Op.equal 71 (.agg #[.int .i64 x0, .int .i64 x1]) (.agg #[.int .i64 y0, .int .i64 y1])).run Tryd.prog w = .ok (spoB (x0, x1) (y0, y1)) w := by
  unfold Op.equal Op.maxDepth
  rw [run_equalIn_struct w 9999 _ _ _ (by kernel_rfl) (by kernel_rfl)]
  rcases spo_ways x0 x1 y0 y1 with ⟨e0, e⟩ | ⟨e0, e1, e⟩ | ⟨e0, e1, e⟩
  all_goals
    rw [e]
    go_simp
theorem spo_info : (Tryd.prog.info? 71).map (fun i => (i.zero, i.size, i.bytes)) = some (some (.agg #[.int .i64 0, .int .i64 0]), 2, 16) := by kernel_rfl
theorem spo_zero : (Value.agg #[.int .i64 0, .int .i64 0]).cells.size = 2 := by simp [Value.cells]
/-- Cells that read as one. -/
theorem spo_open {H : Type} {enc : TypeId × Value → H} {W : World} {n : Nat} {cs : List Value} {x : DataW H × List MemPlace}
    (h : DataW.trod enc Tryd.prog W 0 (fun _ => true) true n 71 cs = some x) : ∃ y, cs = spoE.c y := by
  obtain ⟨xs, k, _, _, hl, hlen, hf⟩ := DataW.trod_struct Tryd.underlying71 h
  have hC : Tryd.prog.cellsOf 71 = 2 := by kernel_rfl
  have hT0 : Tryd.prog.cellsOf 3 = 1 := by kernel_rfl
  rw [hC] at hl
  match cs, hl with
  | [c0, c1], _ =>
    match xs, hlen with
    | [z0, z1], _ =>
      have g0 := hf 0 _ rfl
      have g1 := hf 1 _ rfl
      simp [hT0] at g0 g1
      obtain ⟨v0, e0, _, _⟩ := DataW.trod_int Tryd.underlying3 g0
      obtain ⟨v1, e1, _, _⟩ := DataW.trod_int Tryd.underlying3 g1
      simp [] at e0 e1
      refine ⟨(v0, v1), ?_⟩
      simp [spoE, e0, e1]
set_option maxRecDepth 100000 in
/-- One that came in. -/
theorem spo_of {H : Type} {enc : TypeId × Value → H} {W : World} {base : Nat} {v : Value} {d : DataW H} {p : List MemPlace}
    (hv : Value.okWide Tryd.prog W .any base 71 v) (h : DataW.Trod enc Tryd.prog W 0 (fun _ => true) true 71 v d p) : ∃ (x0 : Int) (x1 : Int), v = .agg #[.int .i64 x0, .int .i64 x1] := by
  obtain ⟨cs, rfl, hsz⟩ := okWide_struct Tryd.underlying71 hv
  obtain ⟨n, hn⟩ := h
  obtain ⟨y, e⟩ := spo_open hn
  refine ⟨y.1, y.2, ?_⟩
  simp only [Value.cells] at e
  have e2 : cs = #[.int .i64 y.1, .int .i64 y.2] := by
    rw [← Array.toArray_toList (xs := cs), e]
    rfl
  rw [e2]
end Go.Proofs.YtokkmnednhigmaeDoor
/- The struct api.Link: its cells, slices of them, == of two, such that came in. Written by mk/struct.py. -/
namespace Go.Proofs.YtokkmnednhigmaeDoor
open Go.ChangeShapes Go.WideShapes Go.ChangeAt Go.RowKit Go.Joins
set_option linter.unusedSimpArgs false
set_option linter.unusedVariables false
set_option maxRecDepth 100000

def lnkE : Enc ((Int × Int) × (Int × Int)) where
  c := fun x => [.int .i64 x.1.1, .int .i64 x.1.2, .int .i64 x.2.1, .int .i64 x.2.2]
  n := 4
  len := fun _ => rfl
  pos := by decide
  one := by
    intro x u hu
    simp at hu
    rcases hu with rfl | rfl | rfl | rfl <;> rfl
theorem lnk_cells {w : World} {g o : Nat} {x0 : Int} {x1 : Int} {x2 : Int} {x3 : Int} (h : VAt w g o (lnkE.c ((x0, x1), (x2, x3)))) : w.cell? ⟨g, o, none⟩ = some (.int .i64 x0) ∧ w.cell? ⟨g, o + 1, none⟩ = some (.int .i64 x1) ∧ w.cell? ⟨g, o + 2, none⟩ = some (.int .i64 x2) ∧ w.cell? ⟨g, o + 3, none⟩ = some (.int .i64 x3) :=
  ⟨h 0 _ rfl, h 1 _ rfl, h 2 _ rfl, h 3 _ rfl⟩
theorem lnk_at {w : World} {g o : Nat} {L : List ((Int × Int) × (Int × Int))} (h : GAt lnkE w g o L) {n k : Nat} (hn : L.length = n) (hk : k < n) :
    ∃ (x0 : Int) (x1 : Int) (x2 : Int) (x3 : Int) (hl : k < L.length), L[k] = ((x0, x1), (x2, x3)) ∧ w.cell? ⟨g, o + k * 4, none⟩ = some (.int .i64 x0) ∧ w.cell? ⟨g, o + k * 4 + 1, none⟩ = some (.int .i64 x1) ∧ w.cell? ⟨g, o + k * 4 + 2, none⟩ = some (.int .i64 x2) ∧ w.cell? ⟨g, o + k * 4 + 3, none⟩ = some (.int .i64 x3) :=
  have hl : k < L.length := by omega
  ⟨_, _, _, _, hl, rfl, lnk_cells (h k hl)⟩
theorem lnk_new (w : World) (x0 : Int) (x1 : Int) (x2 : Int) (x3 : Int) (t : TypeId) : VAt (w.alloc (Obj.cells #[.int .i64 x0, .int .i64 x1, .int .i64 x2, .int .i64 x3] t)) w.heap.size 0 (lnkE.c ((x0, x1), (x2, x3))) := vat_new w [.int .i64 x0, .int .i64 x1, .int .i64 x2, .int .i64 x3] t
theorem lnk_row (w : World) (x0 : Int) (x1 : Int) (x2 : Int) (x3 : Int) (t : TypeId) : GS lnkE (w.alloc (Obj.cells #[.int .i64 x0, .int .i64 x1, .int .i64 x2, .int .i64 x3] t)) (.slice (some ⟨w.heap.size, 0, none⟩) 1 1) [((x0, x1), (x2, x3))] := gs_one (E := lnkE) w ((x0, x1), (x2, x3)) t (vs := [.int .i64 x0, .int .i64 x1, .int .i64 x2, .int .i64 x3]) rfl
/-- Are two the same? -/
def lnkB (a b : (Int × Int) × (Int × Int)) : Bool := (a.1.1 == b.1.1) && ((a.1.2 == b.1.2) && ((a.2.1 == b.2.1) && ((a.2.2 == b.2.2))))
theorem lnkB_iff (a b : (Int × Int) × (Int × Int)) : lnkB a b = true ↔ a = b := by
  have e : lnkB a b = ((a.1.1 == b.1.1) && ((a.1.2 == b.1.2) && ((a.2.1 == b.2.1) && ((a.2.2 == b.2.2))))) := rfl
  rw [e]
  simp only [Bool.and_eq_true, beq_iff_eq]
  constructor
  · intro h
    obtain ⟨⟨a0, a1⟩, ⟨a2, a3⟩⟩ := a; obtain ⟨⟨b0, b1⟩, ⟨b2, b3⟩⟩ := b; simp at h ⊢; simp [h]
  · intro h
    subst h
    simp
theorem lnk_ways (x0 : Int) (x1 : Int) (x2 : Int) (x3 : Int) (y0 : Int) (y1 : Int) (y2 : Int) (y3 : Int) :
    ((x0 == y0) = false ∧ lnkB ((x0, x1), (x2, x3)) ((y0, y1), (y2, y3)) = false) ∨
    ((x0 == y0) = true ∧ (x1 == y1) = false ∧ lnkB ((x0, x1), (x2, x3)) ((y0, y1), (y2, y3)) = false) ∨
    ((x0 == y0) = true ∧ (x1 == y1) = true ∧ (x2 == y2) = false ∧ lnkB ((x0, x1), (x2, x3)) ((y0, y1), (y2, y3)) = false) ∨
    ((x0 == y0) = true ∧ (x1 == y1) = true ∧ (x2 == y2) = true ∧ (x3 == y3) = false ∧ lnkB ((x0, x1), (x2, x3)) ((y0, y1), (y2, y3)) = false) ∨
    ((x0 == y0) = true ∧ (x1 == y1) = true ∧ (x2 == y2) = true ∧ (x3 == y3) = true ∧ lnkB ((x0, x1), (x2, x3)) ((y0, y1), (y2, y3)) = true) := by
  have e : lnkB ((x0, x1), (x2, x3)) ((y0, y1), (y2, y3)) = ((x0 == y0) && ((x1 == y1) && ((x2 == y2) && ((x3 == y3))))) := rfl
  rw [e]
  cases h0 : (x0 == y0)
  · simp
  · skip
    cases h1 : (x1 == y1)
    · simp
    · skip
      cases h2 : (x2 == y2)
      · simp
      · skip
        cases h3 : (x3 == y3)
        · simp
        · skip
          simp
set_option maxRecDepth 100000 in
theorem lnk_eq (x0 : Int) (x1 : Int) (x2 : Int) (x3 : Int) (y0 : Int) (y1 : Int) (y2 : Int) (y3 : Int) (w : World) : (Op.equal 73 (.agg #[.int .i64 x0, .int .i64 x1, .int .i64 x2, .int .i64 x3]) (.agg #[.int .i64 y0, .int .i64 y1, .int .i64 y2, .int .i64 y3])).run Tryd.prog w = .ok (lnkB ((x0, x1), (x2, x3)) ((y0, y1), (y2, y3))) w := by
  unfold Op.equal Op.maxDepth
  rw [run_equalIn_struct w 9999 _ _ _ (by kernel_rfl) (by kernel_rfl)]
  rcases lnk_ways x0 x1 x2 x3 y0 y1 y2 y3 with ⟨e0, e⟩ | ⟨e0, e1, e⟩ | ⟨e0, e1, e2, e⟩ | ⟨e0, e1, e2, e3, e⟩ | ⟨e0, e1, e2, e3, e⟩
  all_goals
    rw [e]
    go_simp
theorem lnk_info : (Tryd.prog.info? 73).map (fun i => (i.zero, i.size, i.bytes)) = some (some (.agg #[.int .i64 0, .int .i64 0, .int .i64 0, .int .i64 0]), 4, 32) := by kernel_rfl
theorem lnk_zero : (Value.agg #[.int .i64 0, .int .i64 0, .int .i64 0, .int .i64 0]).cells.size = 4 := by simp [Value.cells]
/-- Cells that read as one. -/
theorem lnk_open {H : Type} {enc : TypeId × Value → H} {W : World} {n : Nat} {cs : List Value} {x : DataW H × List MemPlace}
    (h : DataW.trod enc Tryd.prog W 0 (fun _ => true) true n 73 cs = some x) : ∃ y, cs = lnkE.c y := by
  obtain ⟨xs, k, _, _, hl, hlen, hf⟩ := DataW.trod_struct Tryd.underlying73 h
  have hC : Tryd.prog.cellsOf 73 = 4 := by kernel_rfl
  have hT0 : Tryd.prog.cellsOf 71 = 2 := by kernel_rfl
  rw [hC] at hl
  match cs, hl with
  | [c0, c1, c2, c3], _ =>
    match xs, hlen with
    | [z0, z1], _ =>
      have g0 := hf 0 _ rfl
      have g1 := hf 1 _ rfl
      simp [hT0] at g0 g1
      obtain ⟨s0, e0⟩ := spo_open g0
      obtain ⟨s1, e1⟩ := spo_open g1
      simp [spoE] at e0 e1
      refine ⟨((s0.1, s0.2), (s1.1, s1.2)), ?_⟩
      simp [lnkE, e0, e1]
set_option maxRecDepth 100000 in
/-- One that came in. -/
theorem lnk_of {H : Type} {enc : TypeId × Value → H} {W : World} {base : Nat} {v : Value} {d : DataW H} {p : List MemPlace}
    (hv : Value.okWide Tryd.prog W .any base 73 v) (h : DataW.Trod enc Tryd.prog W 0 (fun _ => true) true 73 v d p) : ∃ (x0 : Int) (x1 : Int) (x2 : Int) (x3 : Int), v = .agg #[.int .i64 x0, .int .i64 x1, .int .i64 x2, .int .i64 x3] := by
  obtain ⟨cs, rfl, hsz⟩ := okWide_struct Tryd.underlying73 hv
  obtain ⟨n, hn⟩ := h
  obtain ⟨y, e⟩ := lnk_open hn
  refine ⟨y.1.1, y.1.2, y.2.1, y.2.2, ?_⟩
  simp only [Value.cells] at e
  have e2 : cs = #[.int .i64 y.1.1, .int .i64 y.1.2, .int .i64 y.2.1, .int .i64 y.2.2] := by
    rw [← Array.toArray_toList (xs := cs), e]
    rfl
  rw [e2]
/-- A slice of them that came in. -/
theorem lnks_of {H : Type} {enc : TypeId × Value → H} {W : World} {base : Nat} {v : Value} {d : DataW H} {p : List MemPlace}
    (hv : Value.okWide Tryd.prog W .any base 22 v) (h : DataW.Trod enc Tryd.prog W 0 (fun _ => true) true 22 v d p) : ∃ L, GS lnkE W v L :=
  gs_of (E := lnkE) 22 73 Tryd.underlying22 (by kernel_rfl) ((0, 0), (0, 0)) (fun _ _ _ h => lnk_open h) hv h
end Go.Proofs.YtokkmnednhigmaeDoor
/- Rows that a call owns, behind other calls. -/
namespace Go.Proofs.YtokkmnednhigmaeDoor
open Go.RowKit

theorem own_below {w w' : World} {B e size n : Nat} {v : Value} {xs : List Value} (h : w.ownsRow B e size v n xs) (hb : Below w.heap.size w w') : w'.ownsRow B e size v n xs := by
  obtain ⟨h1, h2 | ⟨g, cap, cur, hv, hB, hg, h3⟩⟩ := h
  · exact ⟨h1, .inl h2⟩
  · have hlt : g < w.heap.size := by
      rcases Nat.lt_or_ge g w.heap.size with h | h
      · exact h
      · rw [Array.getElem?_eq_none h] at hg; cases hg
    exact ⟨h1, .inr ⟨g, cap, cur, hv, hB, (hb.block g hlt).trans hg, h3⟩⟩

theorem own_mono {w : World} {B B' e size n : Nat} {v : Value} {xs : List Value} (h : w.ownsRow B e size v n xs) (hB : B' ≤ B) : w.ownsRow B' e size v n xs := by
  obtain ⟨h1, h2 | ⟨g, cap, cur, hv, hb, h3⟩⟩ := h
  · exact ⟨h1, .inl h2⟩
  · exact ⟨h1, .inr ⟨g, cap, cur, hv, Nat.le_trans hB hb, h3⟩⟩

theorem infoInt : (Tryd.prog.info? 3).map (fun i => (i.zero, i.size, i.bytes)) = some (some (.int .i64 0), 1, 8) := by kernel_rfl
theorem own_later {w w' : World} {B e size n : Nat} {v : Value} {xs : List Value} {B' : Nat} (h : w.ownsRow B e size v n xs) (hb : Below B' w w') (hB : w.heap.size ≤ B') : w'.ownsRow B e size v n xs := own_below h (hb.mono hB)
end Go.Proofs.YtokkmnednhigmaeDoor
/- The error of a number. -/
namespace Go.Proofs.YtokkmnednhigmaeDoor

/-- The error of a number: none of 0. -/
def noV (n : Int) : Value := if n = 0 then .nilIface else .iface 63 (.int .i64 n)
theorem no_ok {n : Int} (h : n = 0) : noV n = .nilIface := by simp [noV, h]
theorem no_ne {n : Int} (h : n ≠ 0) : noV n = .iface 63 (.int .i64 n) := by simp [noV, h]
end Go.Proofs.YtokkmnednhigmaeDoor
/- What cubes of headers come to, in plain numbers: no program in it. -/
namespace Go.Proofs.YtokkmnednhigmaeDoor
open Go.RowKit

/-- Is it a header? -/
def hdrB (n : Int) : Bool := decide (0 ≤ n) && decide (n < 16)
/-- Are both numbers of a cube headers? -/
def rngB (m b : Int) : Bool := hdrB m && hdrB b
/-- Is a cube right? -/
def okB (m b : Int) : Bool := rngB m b && (bits .andNot .i64 b m == 0)
/-- Do two cubes meet? -/
def mtOk (m b n c : Int) : Bool := okB m b && okB n c && (bits .and .i64 (bits .and .i64 (bits .xor .i64 b c) m) n == 0)
def mtM (m b n c : Int) : Int := if mtOk m b n c then bits .or .i64 m n else 0
def mtB (m b n c : Int) : Int := if mtOk m b n c then bits .or .i64 b c else 0
/-- Is the one in the other? -/
def insB (m b n c : Int) : Bool := mtOk m b n c && (mtM m b n c == m && mtB m b n c == b)
/-- How many bits a small number has. -/
def pop (m : Int) : Int := m % 2 + m / 2 % 2 + m / 4 % 2 + m / 8 % 2
def cntN (m b : Int) : Int := if okB m b then 2 ^ (4 - pop m).toNat else 0
def fstN (m b : Int) : Int := if okB m b then b else 0

theorem hdr_of {n : Int} (h : hdrB n = true) : 0 ≤ n ∧ n < 16 := by simpa [hdrB] using h
theorem hdr_no {n : Int} (h : hdrB n = false) : n < 0 ∨ 16 ≤ n := by simp [hdrB] at h; omega
theorem hdr_mk {n : Int} (h : 0 ≤ n ∧ n < 16) : hdrB n = true := by simpa [hdrB] using h
theorem rng_of {m b : Int} (h : rngB m b = true) : (0 ≤ m ∧ m < 16) ∧ (0 ≤ b ∧ b < 16) := by
  simp only [rngB, Bool.and_eq_true] at h; exact ⟨hdr_of h.1, hdr_of h.2⟩
theorem ok_rng {m b : Int} (h : okB m b = true) : rngB m b = true := by
  simp only [okB, Bool.and_eq_true] at h; exact h.1
theorem ok_of {m b : Int} (h : okB m b = true) : (0 ≤ m ∧ m < 16) ∧ (0 ≤ b ∧ b < 16) := rng_of (ok_rng h)

/-- A small number is the cast of one of sixteen. -/
theorem small {n : Int} (h : 0 ≤ n ∧ n < 16) : ∃ k : Fin 16, n = ((k : Nat) : Int) := ⟨⟨n.toNat, by omega⟩, by simp; omega⟩

theorem pop_le (m : Int) : 0 ≤ pop m ∧ pop m ≤ 4 := by unfold pop; omega

/-- The letter of one bit. -/
def ltr (m b x : Int) : Int := if bits .and .i64 m x == 0 then 42 else if bits .and .i64 b x == 0 then 48 else 49
def bitN (i : Nat) : Int := 2 ^ (3 - i)
def ltrAt (m b : Int) (i : Nat) : Int := ltr m b (bitN i)
theorem ltr_bd (m b x : Int) : 42 ≤ ltr m b x ∧ ltr m b x ≤ 49 := by unfold ltr; split <;> (try split) <;> omega
/-- A cube as text. -/
def prS (m b : Int) : ByteArray := strOfNums [ltrAt m b 0, ltrAt m b 1, ltrAt m b 2, ltrAt m b 3]
/-- What has been written of a cube's text behind k rounds. -/
def ltrTo (m b : Int) (k j : Nat) : Int := if j < k then ltrAt m b j else 0

/-- One byte of a text read: Mask, Bits. -/
def rdM (c : Nat) (i : Nat) (m : Int) : Int := if c = 49 ∨ c = 48 then bits .or .i64 m (bitN i) else m
def rdB (c : Nat) (i : Nat) (b : Int) : Int := if c = 49 then bits .or .i64 b (bitN i) else b
/-- May a byte stand in a cube's text? -/
def mayB (c : Nat) : Bool := c == 49 || c == 48 || c == 42
def byteN (s : ByteArray) (i : Nat) : Nat := (s.data.toList.getD i 0).toNat
def psMTo (s : ByteArray) : Nat → Int
  | 0 => 0
  | k + 1 => rdM (byteN s k) k (psMTo s k)
def psBTo (s : ByteArray) : Nat → Int
  | 0 => 0
  | k + 1 => rdB (byteN s k) k (psBTo s k)
def mayTo (s : ByteArray) : Nat → Bool
  | 0 => true
  | k + 1 => mayTo s k && mayB (byteN s k)
/-- Is a text a cube's? -/
def psOk (s : ByteArray) : Bool := s.size == 4 && mayTo s 4
def psM (s : ByteArray) : Int := if psOk s then psMTo s 4 else 0
def psB (s : ByteArray) : Int := if psOk s then psBTo s 4 else 0

/-- Is a header in a cube? -/
def hasB (m b h : Int) : Bool := hdrB h && (okB m b && (bits .and .i64 h m == b))
/-- The fault's number of a cube. -/
def refN (m b : Int) : Int := if okB m b then 0 else if rngB m b then 3 else 1
theorem refN_ok {m b : Int} (h : okB m b = true) : refN m b = 0 := by simp [refN, h]
theorem refN_shape {m b : Int} (h : okB m b = false) (h2 : rngB m b = true) : refN m b = 3 := by simp [refN, h, h2]
theorem refN_range {m b : Int} (h2 : rngB m b = false) : refN m b = 1 := by simp [refN, okB, h2]
theorem refN_bd (m b : Int) : 0 ≤ refN m b ∧ refN m b ≤ 3 := by unfold refN; split <;> (try split) <;> omega
theorem ok_refN (m b : Int) : (refN m b == 0) = okB m b := by
  cases h : okB m b
  · cases h2 : rngB m b
    · simp [refN_range h2]
    · simp [refN_shape h h2]
  · simp [refN_ok h]
theorem andEq_fin : ∀ m b : Fin 16, (bits .and .i64 ((b : Nat) : Int) ((m : Nat) : Int) == ((b : Nat) : Int)) = (bits .andNot .i64 ((b : Nat) : Int) ((m : Nat) : Int) == 0) := by decide +kernel
theorem andEq {m b : Int} (h : rngB m b = true) : (bits .and .i64 b m == b) = okB m b := by
  obtain ⟨h1, h2⟩ := rng_of h
  have e : okB m b = (bits .andNot .i64 b m == 0) := by simp [okB, h]
  rw [e]
  obtain ⟨x, rfl⟩ := small h1
  obtain ⟨y, rfl⟩ := small h2
  exact andEq_fin x y
/-- The i-th bit of a small number. -/
def bitB (x : Int) (i : Nat) : Bool := x / 2 ^ i % 2 == 1
end Go.Proofs.YtokkmnednhigmaeDoor
/- What each function of package cube answers, called with any cubes: contracts for the walks above them. -/
namespace Go.Proofs.YtokkmnednhigmaeDoor
open Go.RowKit
set_option linter.unusedSimpArgs false

theorem bcell {W w1 : World} (hb : Below W.heap.size W w1) : (∀ b o, b < W.heap.size → w1.cell? ⟨b, o, none⟩ = W.cell? ⟨b, o, none⟩) ∧ (∀ b o, b < W.heap.size → w1.frozen? ⟨b, o, none⟩ = W.frozen? ⟨b, o, none⟩) :=
  ⟨fun b o h => hb.cell (p := ⟨b, o, none⟩) h, fun b o h => hb.frozen (p := ⟨b, o, none⟩) h⟩

/-- What a call left alone below B: cells and marks. -/
theorem bcellB {B : Nat} {W w1 : World} (hb : Below B W w1) : (∀ b o, b < B → w1.cell? ⟨b, o, none⟩ = W.cell? ⟨b, o, none⟩) ∧ (∀ b o, b < B → w1.frozen? ⟨b, o, none⟩ = W.frozen? ⟨b, o, none⟩) :=
  ⟨fun b o h => hb.cell (p := ⟨b, o, none⟩) h, fun b o h => hb.frozen (p := ⟨b, o, none⟩) h⟩

set_option maxHeartbeats 400000 in
theorem isHeader_yes (n : Int) (w : World) (h : hdrB n = true) :
    Calls Tryd.prog 62 #[.int .i64 n] w fun e w' => e = .returned (.bool true) ∧ w' = w := by
  obtain ⟨h1, h2⟩ := hdr_of h
  clear h
  go_enter Tryd.func62, Tryd.ntmps62
  go_wp2
  go_ret
  exact ⟨rfl, rfl⟩

set_option maxHeartbeats 400000 in
theorem isHeader_no (n : Int) (w : World) (h : hdrB n = false) :
    Calls Tryd.prog 62 #[.int .i64 n] w fun e w' => e = .returned (.bool false) ∧ w' = w := by
  rcases hdr_no h with h1 | h1
  · clear h
    go_enter Tryd.func62, Tryd.ntmps62
    go_wp2
    go_ret
    exact ⟨rfl, rfl⟩
  · have h2 : 0 ≤ n := by omega
    have h3 : decide (n < 16) = false := by simp; omega
    clear h
    go_enter Tryd.func62, Tryd.ntmps62
    go_wp2
    go_ret
    exact ⟨rfl, rfl⟩

set_option maxHeartbeats 400000 in
theorem check_range (m b : Int) (w : World) (h : rngB m b = false) :
    Calls Tryd.prog 63 #[.agg #[.int .i64 m, .int .i64 b]] w fun e w' => e = .returned (.iface 63 (.int .i64 1)) ∧ Below w.heap.size w w' := by
  by_cases hm : hdrB m = true
  · have hb : hdrB b = false := by simpa [rngB, hm] using h
    clear h
    go_enter Tryd.func63, Tryd.ntmps63
    go_wp2_with fail
    refine (isHeader_yes _ _ hm).mono ?_
    rintro e w' ⟨rfl, rfl⟩
    go_wp2_with fail
    refine (isHeader_no _ _ hb).mono ?_
    rintro e w' ⟨rfl, rfl⟩
    go_wp2
    go_ret
    exact ⟨rfl, (Below.refl _ _).alloc (Nat.le_refl _) _⟩
  · have hm' : hdrB m = false := by simpa using hm
    clear h hm
    go_enter Tryd.func63, Tryd.ntmps63
    go_wp2_with fail
    refine (isHeader_no _ _ hm').mono ?_
    rintro e w' ⟨rfl, rfl⟩
    go_wp2
    go_ret
    exact ⟨rfl, (Below.refl _ _).alloc (Nat.le_refl _) _⟩

set_option maxHeartbeats 400000 in
theorem check_shape (m b : Int) (w : World) (h : rngB m b = true) (h2 : okB m b = false) :
    Calls Tryd.prog 63 #[.agg #[.int .i64 m, .int .i64 b]] w fun e w' => e = .returned (.iface 63 (.int .i64 3)) ∧ Below w.heap.size w w' := by
  have hm : hdrB m = true := by simp only [rngB, Bool.and_eq_true] at h; exact h.1
  have hb : hdrB b = true := by simp only [rngB, Bool.and_eq_true] at h; exact h.2
  have hz : (bits .andNot .i64 b m == 0) = false := by simpa [okB, h] using h2
  clear h h2
  go_enter Tryd.func63, Tryd.ntmps63
  go_wp2_with fail
  refine (isHeader_yes _ _ hm).mono ?_
  rintro e w' ⟨rfl, rfl⟩
  go_wp2_with fail
  refine (isHeader_yes _ _ hb).mono ?_
  rintro e w' ⟨rfl, rfl⟩
  go_wp2
  go_ret
  exact ⟨rfl, (Below.refl _ _).alloc (Nat.le_refl _) _⟩

set_option maxHeartbeats 400000 in
theorem check_ok (m b : Int) (w : World) (h : okB m b = true) :
    Calls Tryd.prog 63 #[.agg #[.int .i64 m, .int .i64 b]] w fun e w' => e = .returned .nilIface ∧ Below w.heap.size w w' := by
  have hm : hdrB m = true := hdr_mk (ok_of h).1
  have hb : hdrB b = true := hdr_mk (ok_of h).2
  have hz : (bits .andNot .i64 b m == 0) = true := by simp only [okB, Bool.and_eq_true] at h; exact h.2
  clear h
  go_enter Tryd.func63, Tryd.ntmps63
  go_wp2_with fail
  refine (isHeader_yes _ _ hm).mono ?_
  rintro e w' ⟨rfl, rfl⟩
  go_wp2_with fail
  refine (isHeader_yes _ _ hb).mono ?_
  rintro e w' ⟨rfl, rfl⟩
  go_wp2
  go_ret
  exact ⟨rfl, (Below.refl _ _).alloc (Nat.le_refl _) _⟩

end Go.Proofs.YtokkmnednhigmaeDoor
/- What Has of package cube answers, called with any cube and number. -/
namespace Go.Proofs.YtokkmnednhigmaeDoor
open Go.RowKit
set_option linter.unusedSimpArgs false

theorem isHeader_any (n : Int) (w : World) :
    Calls Tryd.prog 62 #[.int .i64 n] w fun e w' => e = .returned (.bool (hdrB n)) ∧ w' = w := by
  cases h : hdrB n
  · exact isHeader_no n w h
  · exact isHeader_yes n w h

end Go.Proofs.YtokkmnednhigmaeDoor
/- What one rule comes to, in plain numbers: no program in it. A rule is Prio p, its Cube's Mask m and Bits b, Out o, Set s, Value v. -/
namespace Go.Proofs.YtokkmnednhigmaeDoor
open Go.RowKit

/-- Are a rule's own numbers in their bounds? -/
def ruP (p o : Int) : Bool := decide (0 ≤ p) && (decide (p ≤ 99) && (decide (0 ≤ o) && decide (o ≤ 4)))
def ruIn (p o s v : Int) : Bool := ruP p o && rngB s v
/-- Is what a rule sets right? -/
def ruSet (o s v : Int) : Bool := (bits .andNot .i64 v s == 0) && (!(o == 0) || s == 0)
/-- The fault's number of a rule. -/
def ruN (p m b o s v : Int) : Int := if ruIn p o s v then (if okB m b then (if ruSet o s v then 0 else 3) else refN m b) else 1
/-- Is a rule right? -/
def ruOk (p m b o s v : Int) : Bool := ruIn p o s v && (okB m b && ruSet o s v)
/-- The fault's number of a rule and a header that it is applied to. -/
def apN (p m b o s v h : Int) : Int := if ruOk p m b o s v then (if hdrB h then (if hasB m b h && !(o == 0) then 0 else 5) else 1) else ruN p m b o s v
/-- What a rule makes of a header. -/
def apV (s v h : Int) : Int := bits .or .i64 (bits .andNot .i64 h s) v
def apR (p m b o s v h : Int) : Int := if apN p m b o s v h = 0 then apV s v h else 0

theorem ru_ok {p m b o s v : Int} (h : ruOk p m b o s v = true) : ruIn p o s v = true ∧ okB m b = true ∧ ruSet o s v = true := by
  simpa [ruOk] using h
theorem ruN_ok {p m b o s v : Int} (h : ruOk p m b o s v = true) : ruN p m b o s v = 0 := by
  obtain ⟨h1, h2, h3⟩ := ru_ok h
  simp [ruN, h1, h2, h3]
theorem ruN_ne {p m b o s v : Int} (h : ruOk p m b o s v = false) : ruN p m b o s v ≠ 0 := by
  unfold ruN
  cases h1 : ruIn p o s v
  · simp
  · cases h2 : okB m b
    · simp only [if_true]
      have := ok_refN m b
      rw [h2] at this
      simpa using this
    · cases h3 : ruSet o s v
      · simp
      · simp [ruOk, h1, h2, h3] at h
theorem ruN_bd (p m b o s v : Int) : 0 ≤ ruN p m b o s v ∧ ruN p m b o s v ≤ 3 := by
  unfold ruN
  have := refN_bd m b
  split
  · split
    · split <;> omega
    · omega
  · omega
theorem ru_in {p o s v : Int} (h : ruIn p o s v = true) : ((0 ≤ p ∧ p ≤ 99) ∧ (0 ≤ o ∧ o ≤ 4)) ∧ (0 ≤ s ∧ s < 16) ∧ (0 ≤ v ∧ v < 16) := by
  simp only [ruIn, Bool.and_eq_true] at h
  obtain ⟨h1, h2⟩ := h
  have h3 := rng_of h2
  simp only [ruP, Bool.and_eq_true, decide_eq_true_eq] at h1
  exact ⟨⟨⟨h1.1, h1.2.1⟩, ⟨h1.2.2.1, h1.2.2.2⟩⟩, h3⟩
theorem apN_bad {p m b o s v : Int} (h : Int) (hr : ruOk p m b o s v = false) : apN p m b o s v h = ruN p m b o s v := by simp [apN, hr]
theorem apR_bad {p m b o s v h : Int} (hr : apN p m b o s v h ≠ 0) : apR p m b o s v h = 0 := by simp [apR, hr]
theorem ap_yes {p m b o s v h : Int} (hr : apN p m b o s v h = 0) : ruOk p m b o s v = true ∧ hdrB h = true ∧ hasB m b h = true ∧ (o == 0) = false := by
  cases h1 : ruOk p m b o s v
  · rw [apN_bad h h1] at hr
    exact absurd hr (ruN_ne h1)
  · cases h2 : hdrB h
    · simp [apN, h1, h2] at hr
    · simp only [apN, h1, h2, if_true] at hr
      cases h3 : (hasB m b h && !(o == 0))
      · simp [h3] at hr
      · simpa using h3
end Go.Proofs.YtokkmnednhigmaeDoor
/- What Check of package rule answers, called with any rule: contracts for the walks above them. -/
namespace Go.Proofs.YtokkmnednhigmaeDoor
open Go.RowKit
set_option linter.unusedSimpArgs false

/-- The cube's error by its number. -/
theorem check_no (m b : Int) (w : World) :
    Calls Tryd.prog 63 #[.agg #[.int .i64 m, .int .i64 b]] w fun e w' => e = .returned (noV (refN m b)) ∧ Below w.heap.size w w' := by
  cases hr : rngB m b
  · have e : noV (refN m b) = .iface 63 (.int .i64 1) := by rw [refN_range hr]; rfl
    rw [e]; exact check_range m b w hr
  · cases ho : okB m b
    · have e : noV (refN m b) = .iface 63 (.int .i64 3) := by rw [refN_shape ho hr]; rfl
      rw [e]; exact check_shape m b w hr ho
    · have e : noV (refN m b) = .nilIface := by rw [refN_ok ho]; rfl
      rw [e]; exact check_ok m b w ho

theorem below1 {w w1 : World} {o : Obj} (hb : Below (w.heap.size + 1) (w.alloc o) w1) : Below w.heap.size w w1 :=
  ((Below.refl _ _).alloc (Nat.le_refl _) o).trans (hb.mono (by omega))

set_option maxHeartbeats 1000000 in
theorem ruCheck_prio (p m b o s v : Int) (w : World) (h : ruP p o = false) :
    Calls Tryd.prog 43 #[.agg #[.int .i64 p, .int .i64 m, .int .i64 b, .int .i64 o, .int .i64 s, .int .i64 v]] w fun e w' => e = .returned (.iface 63 (.int .i64 1)) ∧ Below w.heap.size w w' := by
  have hc : p < 0 ∨ (0 ≤ p ∧ 99 < p) ∨ ((0 ≤ p ∧ p ≤ 99) ∧ o < 0) ∨ ((0 ≤ p ∧ p ≤ 99) ∧ (0 ≤ o ∧ 4 < o)) := by
    simp [ruP] at h
    omega
  clear h
  rcases hc with h1 | ⟨h1, h2⟩ | ⟨⟨h1, h2⟩, h3⟩ | ⟨⟨h1, h2⟩, h3, h4⟩
  · have e1 : decide (p < 0) = true := by simp; omega
    go_enter Tryd.func43, Tryd.ntmps43
    go_wp2
    go_ret
    exact ⟨rfl, (Below.refl _ _).alloc (Nat.le_refl _) _⟩
  · have e1 : decide (p < 0) = false := by simp; omega
    have e2 : decide (99 < p) = true := by simp; omega
    go_enter Tryd.func43, Tryd.ntmps43
    go_wp2
    go_ret
    exact ⟨rfl, (Below.refl _ _).alloc (Nat.le_refl _) _⟩
  · have e1 : decide (p < 0) = false := by simp; omega
    have e2 : decide (99 < p) = false := by simp; omega
    have e3 : decide (o < 0) = true := by simp; omega
    go_enter Tryd.func43, Tryd.ntmps43
    go_wp2
    go_ret
    exact ⟨rfl, (Below.refl _ _).alloc (Nat.le_refl _) _⟩
  · have e1 : decide (p < 0) = false := by simp; omega
    have e2 : decide (99 < p) = false := by simp; omega
    have e3 : decide (o < 0) = false := by simp; omega
    have e4 : decide (4 < o) = true := by simp; omega
    go_enter Tryd.func43, Tryd.ntmps43
    go_wp2
    go_ret
    exact ⟨rfl, (Below.refl _ _).alloc (Nat.le_refl _) _⟩

theorem ruP_of {p o : Int} (h : ruP p o = true) : decide (p < 0) = false ∧ decide (99 < p) = false ∧ decide (o < 0) = false ∧ decide (4 < o) = false := by
  simp only [ruP, Bool.and_eq_true, decide_eq_true_eq] at h
  refine ⟨?_, ?_, ?_, ?_⟩ <;> simp <;> omega

set_option maxHeartbeats 1000000 in
theorem ruCheck_set (p m b o s v : Int) (w : World) (h : ruP p o = true) (h2 : rngB s v = false) :
    Calls Tryd.prog 43 #[.agg #[.int .i64 p, .int .i64 m, .int .i64 b, .int .i64 o, .int .i64 s, .int .i64 v]] w fun e w' => e = .returned (.iface 63 (.int .i64 1)) ∧ Below w.heap.size w w' := by
  obtain ⟨e1, e2, e3, e4⟩ := ruP_of h
  clear h
  cases hs : hdrB s
  · clear h2
    go_enter Tryd.func43, Tryd.ntmps43
    go_wp2_with fail
    refine (isHeader_no _ _ hs).mono ?_
    rintro e w' ⟨rfl, rfl⟩
    go_wp2
    go_ret
    exact ⟨rfl, (Below.refl _ _).alloc (Nat.le_refl _) _⟩
  · have hv : hdrB v = false := by simpa [rngB, hs] using h2
    clear h2
    go_enter Tryd.func43, Tryd.ntmps43
    go_wp2_with fail
    refine (isHeader_yes _ _ hs).mono ?_
    rintro e w' ⟨rfl, rfl⟩
    go_wp2_with fail
    refine (isHeader_no _ _ hv).mono ?_
    rintro e w' ⟨rfl, rfl⟩
    go_wp2
    go_ret
    exact ⟨rfl, (Below.refl _ _).alloc (Nat.le_refl _) _⟩

set_option maxHeartbeats 1000000 in
theorem ruCheck_cube (p m b o s v : Int) (w : World) (h : ruP p o = true) (h2 : rngB s v = true) (h3 : okB m b = false) :
    Calls Tryd.prog 43 #[.agg #[.int .i64 p, .int .i64 m, .int .i64 b, .int .i64 o, .int .i64 s, .int .i64 v]] w fun e w' => e = .returned (.iface 63 (.int .i64 (refN m b))) ∧ Below w.heap.size w w' := by
  obtain ⟨e1, e2, e3, e4⟩ := ruP_of h
  have hs : hdrB s = true := by simp only [rngB, Bool.and_eq_true] at h2; exact h2.1
  have hv : hdrB v = true := by simp only [rngB, Bool.and_eq_true] at h2; exact h2.2
  have hn : refN m b ≠ 0 := by have := ok_refN m b; rw [h3] at this; simpa using this
  clear h h2 h3
  go_enter Tryd.func43, Tryd.ntmps43
  go_wp2_with fail
  refine (isHeader_yes _ _ hs).mono ?_
  rintro e w' ⟨rfl, rfl⟩
  go_wp2_with fail
  refine (isHeader_yes _ _ hv).mono ?_
  rintro e w' ⟨rfl, rfl⟩
  go_wp2_with fail
  refine (check_no _ _ _).mono ?_
  rintro e w1 ⟨rfl, hb1⟩
  rw [no_ne hn]
  go_wp2
  go_ret
  exact ⟨rfl, ((Below.refl _ _).alloc (Nat.le_refl _) _).trans (hb1.mono (by simp))⟩

set_option maxHeartbeats 1000000 in
theorem ruCheck_end (p m b o s v : Int) (w : World) (h : ruP p o = true) (h2 : rngB s v = true) (h3 : okB m b = true) :
    Calls Tryd.prog 43 #[.agg #[.int .i64 p, .int .i64 m, .int .i64 b, .int .i64 o, .int .i64 s, .int .i64 v]] w fun e w' => e = .returned (if ruSet o s v then .nilIface else .iface 63 (.int .i64 3)) ∧ Below w.heap.size w w' := by
  obtain ⟨e1, e2, e3, e4⟩ := ruP_of h
  have hs : hdrB s = true := by simp only [rngB, Bool.and_eq_true] at h2; exact h2.1
  have hv : hdrB v = true := by simp only [rngB, Bool.and_eq_true] at h2; exact h2.2
  have hn : refN m b = 0 := refN_ok h3
  have hlt : w.heap.size < (w.alloc (Obj.cells #[Value.int IntKind.i64 p, Value.int IntKind.i64 m, Value.int IntKind.i64 b, Value.int IntKind.i64 o, Value.int IntKind.i64 s, Value.int IntKind.i64 v] 51)).heap.size := by simp
  clear h h2 h3
  cases ha : (bits .andNot .i64 v s == 0)
  · have e : ruSet o s v = false := by simp [ruSet, ha]
    rw [e]; clear e
    simp only [Bool.false_eq_true, if_false]
    have ha2 : (bits .andNot .i64 v s != 0) = true := by simpa using ha
    go_enter Tryd.func43, Tryd.ntmps43
    go_wp2_with fail
    refine (isHeader_yes _ _ hs).mono ?_
    rintro e w' ⟨rfl, rfl⟩
    go_wp2_with fail
    refine (isHeader_yes _ _ hv).mono ?_
    rintro e w' ⟨rfl, rfl⟩
    go_wp2_with fail
    refine (check_no _ _ _).mono ?_
    rintro e w1 ⟨rfl, hb1⟩
    rw [no_ok hn]
    obtain ⟨hc1, hf1⟩ := bcell hb1
    have hB := ((Below.refl w.heap.size w).alloc (Nat.le_refl _) (Obj.cells #[Value.int IntKind.i64 p, Value.int IntKind.i64 m, Value.int IntKind.i64 b, Value.int IntKind.i64 o, Value.int IntKind.i64 s, Value.int IntKind.i64 v] 51)).trans (hb1.mono (by simp))
    clear hb1
    go_wp2
    go_ret
    exact ⟨rfl, hB⟩
  · cases ho : (o == 0)
    · have e : ruSet o s v = true := by simp [ruSet, ha, ho]
      rw [e]; clear e
      simp only [if_true]
      have ha2 : (bits .andNot .i64 v s != 0) = false := by simpa using ha
      go_enter Tryd.func43, Tryd.ntmps43
      go_wp2_with fail
      refine (isHeader_yes _ _ hs).mono ?_
      rintro e w' ⟨rfl, rfl⟩
      go_wp2_with fail
      refine (isHeader_yes _ _ hv).mono ?_
      rintro e w' ⟨rfl, rfl⟩
      go_wp2_with fail
      refine (check_no _ _ _).mono ?_
      rintro e w1 ⟨rfl, hb1⟩
      rw [no_ok hn]
      obtain ⟨hc1, hf1⟩ := bcell hb1
      have hB := ((Below.refl w.heap.size w).alloc (Nat.le_refl _) (Obj.cells #[Value.int IntKind.i64 p, Value.int IntKind.i64 m, Value.int IntKind.i64 b, Value.int IntKind.i64 o, Value.int IntKind.i64 s, Value.int IntKind.i64 v] 51)).trans (hb1.mono (by simp))
      clear hb1
      go_wp2
      go_ret
      exact ⟨rfl, hB⟩
    · cases hz : (s == 0)
      · have e : ruSet o s v = false := by simp [ruSet, ha, ho, hz]
        rw [e]; clear e
        simp only [Bool.false_eq_true, if_false]
        have ha2 : (bits .andNot .i64 v s != 0) = false := by simpa using ha
        go_enter Tryd.func43, Tryd.ntmps43
        go_wp2_with fail
        refine (isHeader_yes _ _ hs).mono ?_
        rintro e w' ⟨rfl, rfl⟩
        go_wp2_with fail
        refine (isHeader_yes _ _ hv).mono ?_
        rintro e w' ⟨rfl, rfl⟩
        go_wp2_with fail
        refine (check_no _ _ _).mono ?_
        rintro e w1 ⟨rfl, hb1⟩
        rw [no_ok hn]
        obtain ⟨hc1, hf1⟩ := bcell hb1
        have hB := ((Below.refl w.heap.size w).alloc (Nat.le_refl _) (Obj.cells #[Value.int IntKind.i64 p, Value.int IntKind.i64 m, Value.int IntKind.i64 b, Value.int IntKind.i64 o, Value.int IntKind.i64 s, Value.int IntKind.i64 v] 51)).trans (hb1.mono (by simp))
        clear hb1
        go_wp2
        go_ret
        exact ⟨rfl, hB⟩
      · have e : ruSet o s v = true := by simp [ruSet, ha, ho, hz]
        rw [e]; clear e
        simp only [if_true]
        have ha2 : (bits .andNot .i64 v s != 0) = false := by simpa using ha
        go_enter Tryd.func43, Tryd.ntmps43
        go_wp2_with fail
        refine (isHeader_yes _ _ hs).mono ?_
        rintro e w' ⟨rfl, rfl⟩
        go_wp2_with fail
        refine (isHeader_yes _ _ hv).mono ?_
        rintro e w' ⟨rfl, rfl⟩
        go_wp2_with fail
        refine (check_no _ _ _).mono ?_
        rintro e w1 ⟨rfl, hb1⟩
        rw [no_ok hn]
        obtain ⟨hc1, hf1⟩ := bcell hb1
        have hB := ((Below.refl w.heap.size w).alloc (Nat.le_refl _) (Obj.cells #[Value.int IntKind.i64 p, Value.int IntKind.i64 m, Value.int IntKind.i64 b, Value.int IntKind.i64 o, Value.int IntKind.i64 s, Value.int IntKind.i64 v] 51)).trans (hb1.mono (by simp))
        clear hb1
        go_wp2
        go_ret
        exact ⟨rfl, hB⟩

theorem ruCheck_any (p m b o s v : Int) (w : World) :
    Calls Tryd.prog 43 #[.agg #[.int .i64 p, .int .i64 m, .int .i64 b, .int .i64 o, .int .i64 s, .int .i64 v]] w fun e w' => e = .returned (noV (ruN p m b o s v)) ∧ Below w.heap.size w w' := by
  cases h1 : ruP p o
  · have e : noV (ruN p m b o s v) = .iface 63 (.int .i64 1) := by simp [ruN, ruIn, h1, noV]
    rw [e]; exact ruCheck_prio p m b o s v w h1
  · cases h2 : rngB s v
    · have e : noV (ruN p m b o s v) = .iface 63 (.int .i64 1) := by simp [ruN, ruIn, h2, noV]
      rw [e]; exact ruCheck_set p m b o s v w h1 h2
    · cases h3 : okB m b
      · have hn : refN m b ≠ 0 := by have := ok_refN m b; rw [h3] at this; simpa using this
        have e : noV (ruN p m b o s v) = .iface 63 (.int .i64 (refN m b)) := by simp [ruN, ruIn, h1, h2, h3, noV, hn]
        rw [e]; exact ruCheck_cube p m b o s v w h1 h2 h3
      · have e : noV (ruN p m b o s v) = (if ruSet o s v then .nilIface else .iface 63 (.int .i64 3)) := by
          cases h4 : ruSet o s v <;> simp [ruN, ruIn, h1, h2, h3, noV, h4]
        rw [e]; exact ruCheck_end p m b o s v w h1 h2 h3

end Go.Proofs.YtokkmnednhigmaeDoor
/- Tables of rules in plain lists: what is wrong with one, which rule counts. No program in it. -/
namespace Go.Proofs.YtokkmnednhigmaeDoor
open Go.RowKit

/-- -1, 0 or 1: is the one below, as great as, above the other? -/
def cmpN (a b : Int) : Int := if a < b then -1 else if b < a then 1 else 0
/-- The first of three numbers that is not 0. -/
def orN (x y z : Int) : Int := if x = 0 then (if y = 0 then z else y) else x
/-- Above 0: the one counts ahead of the other; 0: they have one Prio and one Cube. -/
def ordN (p m b p' m' b' : Int) : Int := orN (cmpN p p') (cmpN m m') (cmpN b b')

structure Ru where
  p : Int
  m : Int
  b : Int
  o : Int
  s : Int
  v : Int

def Ru.n (r : Ru) : Int := ruN r.p r.m r.b r.o r.s r.v
def Ru.ok (r : Ru) : Bool := ruOk r.p r.m r.b r.o r.s r.v
def Ru.has (r : Ru) (h : Int) : Bool := hasB r.m r.b h
def ordR (a b : Ru) : Int := ordN a.p a.m a.b b.p b.m b.b
/-- Have two rules one Prio and one Cube? -/
def keyB (a b : Ru) : Bool := ordR a b == 0
def zeR : Ru := ⟨0, 0, 0, 0, 0, 0⟩

theorem cmp_0 {a b : Int} : cmpN a b = 0 ↔ a = b := by unfold cmpN; split <;> (try split) <;> omega
theorem ord_0 {a b : Ru} : ordR a b = 0 ↔ a.p = b.p ∧ a.m = b.m ∧ a.b = b.b := by
  unfold ordR ordN orN
  by_cases h1 : a.p = b.p
  · rw [if_pos (cmp_0.2 h1)]
    by_cases h2 : a.m = b.m
    · rw [if_pos (cmp_0.2 h2), cmp_0]
      exact ⟨fun h => ⟨h1, h2, h⟩, fun h => h.2.2⟩
    · rw [if_neg (fun h => h2 (cmp_0.1 h)), cmp_0]
      exact ⟨fun h => absurd h h2, fun h => h.2.1⟩
  · rw [if_neg (fun h => h1 (cmp_0.1 h)), cmp_0]
    exact ⟨fun h => absurd h h1, fun h => h.1⟩
theorem ord_le {a b : Ru} : ordR a b ≤ 0 ↔ (a.p < b.p ∨ a.p = b.p ∧ (a.m < b.m ∨ a.m = b.m ∧ a.b ≤ b.b)) := by
  unfold ordR ordN orN cmpN
  split <;> split <;> (try split) <;> (try split) <;> (try split) <;> (try split) <;> omega
theorem ord_tr {a b c : Ru} (h1 : ordR a b ≤ 0) (h2 : 0 < ordR c b) : ordR a c ≤ 0 := by
  have h3 : ¬ ordR c b ≤ 0 := by omega
  rw [ord_le] at h1 h3 ⊢
  omega
theorem ord_as {a b : Ru} (h1 : ordR a b ≤ 0) (h2 : ordR b a ≤ 0) : ordR a b = 0 := by
  rw [ord_le] at h1 h2
  rw [ord_0]
  omega
theorem ord_rf (a : Ru) : ordR a a = 0 := ord_0.2 ⟨rfl, rfl, rfl⟩
theorem key_sym {a b : Ru} (h : keyB a b = false) : keyB b a = false := by
  simp only [keyB, beq_eq_false_iff_ne, ne_eq, ord_0] at h ⊢
  exact fun h' => h ⟨h'.1.symm, h'.2.1.symm, h'.2.2.symm⟩

theorem key_eq (a b : Ru) : keyB a b = (decide (a.p = b.p) && (decide (a.m = b.m) && decide (a.b = b.b))) := by
  rw [Bool.eq_iff_iff, keyB, beq_iff_eq, ord_0]
  simp

/-- Is there one among the first k that has the Prio and the Cube of one ahead? -/
def clTo (L : List Ru) : Nat → Bool
  | 0 => false
  | k + 1 => clTo L k || (L.take k).any (fun a => keyB a (L.getD k zeR))
def okR (L : List Ru) : Bool := L.all Ru.ok
/-- The fault of the first k rules: what is wrong with the first that has a fault: by itself, or that it has the Prio and the Cube of one ahead. -/
def tbTo (L : List Ru) : Nat → Int
  | 0 => 0
  | k + 1 => if tbTo L k = 0 then (if (L.getD k zeR).n = 0 then (if (L.take k).any (fun a => keyB a (L.getD k zeR)) then 7 else 0) else (L.getD k zeR).n) else tbTo L k
/-- The fault of a table. -/
def tbN (L : List Ru) : Int := if 12 < L.length then 4 else tbTo L L.length

theorem n_ne {r : Ru} (h : r.ok = false) : r.n ≠ 0 := ruN_ne h
theorem n_ok {r : Ru} (h : r.ok = true) : r.n = 0 := ruN_ok h
theorem ok_n {r : Ru} (h : r.n = 0) : r.ok = true := by
  cases e : r.ok
  · exact absurd h (n_ne e)
  · rfl
theorem okR_next {L : List Ru} {k : Nat} (hk : k < L.length) (h : okR (L.take k) = true) (h2 : (L[k]).ok = true) : okR (L.take (k + 1)) = true := by
  rw [List.take_succ_eq_append_getElem hk]
  simp only [okR, List.all_append, List.all_cons, List.all_nil, Bool.and_true, Bool.and_eq_true]
  exact ⟨h, h2⟩
/-- A fault among the first ones is the table's. -/
theorem to_le {L : List Ru} {k : Nat} (h : tbTo L k ≠ 0) : ∀ {n : Nat}, k ≤ n → tbTo L n = tbTo L k
  | 0, hn => by
    obtain rfl : k = 0 := by omega
    rfl
  | n + 1, hn => by
    by_cases e : k = n + 1
    · subst e; rfl
    · have := to_le h (show k ≤ n by omega)
      rw [tbTo, if_neg (by rw [this]; exact h), this]
theorem getD_at {L : List Ru} {k : Nat} (hk : k < L.length) : L.getD k zeR = L[k] := by simp [List.getD, hk]

theorem cl_le {L : List Ru} : ∀ {k n : Nat}, k ≤ n → clTo L n = false → clTo L k = false
  | k, 0, h, hc => by
    obtain rfl : k = 0 := by omega
    exact hc
  | k, n + 1, h, hc => by
    by_cases e : k = n + 1
    · subst e; exact hc
    · simp only [clTo, Bool.or_eq_false_iff] at hc
      exact cl_le (by omega) hc.1
theorem cl_hit {L : List Ru} {k : Nat} (hk : k < L.length) (h : (L.take k).any (fun a => keyB a (L.getD k zeR)) = true) : clTo L L.length = true := by
  cases e : clTo L L.length
  · have := cl_le (show k + 1 ≤ L.length by omega) e
    simp only [clTo, h, Bool.or_true] at this
    cases this
  · rfl
/-- No clash: no two have one Prio and one Cube. -/
theorem cl_no {L : List Ru} : clTo L L.length = false ↔ ∀ i j, i < j → j < L.length → keyB (L.getD i zeR) (L.getD j zeR) = false := by
  constructor
  · intro h i j hij hj
    have := cl_le (show j + 1 ≤ L.length by omega) h
    simp only [clTo, Bool.or_eq_false_iff] at this
    have h2 := this.2
    rw [List.any_eq_false] at h2
    have hm : L.getD i zeR ∈ L.take j := by
      rw [getD_at (by omega)]
      rw [List.mem_take_iff_getElem]
      exact ⟨i, by omega, rfl⟩
    simpa using h2 _ hm
  · intro h
    have : ∀ n, n ≤ L.length → clTo L n = false := by
      intro n
      induction n with
      | zero => intro _; rfl
      | succ n ih =>
        intro hn
        simp only [clTo, Bool.or_eq_false_iff]
        refine ⟨ih (by omega), ?_⟩
        rw [List.any_eq_false]
        intro a ha
        rw [List.mem_take_iff_getElem] at ha
        obtain ⟨i, hi, rfl⟩ := ha
        have := h i n (by omega) (by omega)
        rw [getD_at (by omega)] at this
        simpa using this
    exact this _ (Nat.le_refl _)
theorem to_0 {L : List Ru} : ∀ {k : Nat}, k ≤ L.length → (tbTo L k = 0 ↔ okR (L.take k) = true ∧ clTo L k = false)
  | 0, _ => by simp [tbTo, okR, clTo]
  | k + 1, hk => by
    have ih := to_0 (show k ≤ L.length by omega)
    have hl : k < L.length := by omega
    rw [tbTo, clTo]
    by_cases h1 : tbTo L k = 0
    · obtain ⟨i1, i2⟩ := ih.1 h1
      rw [if_pos h1, i2, Bool.false_or]
      by_cases h2 : (L.getD k zeR).n = 0
      · rw [if_pos h2]
        have h3 := okR_next hl i1 (by rw [← getD_at hl]; exact ok_n h2)
        cases h4 : (L.take k).any (fun a => keyB a (L.getD k zeR))
        · simp [h3]
        · simp
      · rw [if_neg h2]
        refine ⟨fun h => absurd h h2, fun h => ?_⟩
        exfalso
        have h5 := h.1
        rw [okR, List.all_eq_true] at h5
        exact h2 (n_ok (by rw [getD_at hl]; exact h5 _ (by rw [List.mem_take_iff_getElem]; exact ⟨k, by omega, rfl⟩)))
    · rw [if_neg h1]
      refine ⟨fun h => absurd h h1, fun h => ?_⟩
      exfalso
      obtain ⟨h5, h6⟩ := h
      simp only [Bool.or_eq_false_iff] at h6
      refine h1 (ih.2 ⟨?_, h6.1⟩)
      rw [okR, List.all_eq_true] at h5 ⊢
      intro x hx
      refine h5 x ?_
      rw [List.mem_take_iff_getElem] at hx ⊢
      obtain ⟨i, hi, e⟩ := hx
      exact ⟨i, by omega, e⟩
/-- A table that is right. -/
theorem tb_0 {L : List Ru} : tbN L = 0 ↔ L.length ≤ 12 ∧ okR L = true ∧ clTo L L.length = false := by
  unfold tbN
  by_cases h1 : 12 < L.length
  · rw [if_pos h1]
    constructor
    · intro h; cases h
    · intro h; omega
  · rw [if_neg h1, to_0 (Nat.le_refl _), List.take_length]
    exact ⟨fun h => ⟨by omega, h⟩, fun h => h.2⟩

theorem rev_at {L : List Ru} {i : Nat} (h : i < L.length) : L.reverse.getD i zeR = L.getD (L.length - 1 - i) zeR := by
  rw [getD_at (by simpa using h), getD_at (by omega), List.getElem_reverse]
theorem tb_rev {L : List Ru} (h : tbN L = 0) : tbN L.reverse = 0 := by
  rw [tb_0] at h ⊢
  obtain ⟨h1, h2, h3⟩ := h
  refine ⟨by simpa using h1, by simpa [okR] using h2, ?_⟩
  rw [cl_no] at h3 ⊢
  intro i j hij hj
  rw [List.length_reverse] at hj
  rw [rev_at (by omega), rev_at hj]
  exact key_sym (h3 _ _ (by omega) (by omega))

/-- The place of the rule that counts among the first k; -1: none. -/
def beTo (L : List Ru) (h : Int) : Nat → Int
  | 0 => -1
  | k + 1 => if ((L.getD k zeR).has h && (decide (beTo L h k < 0) || decide (0 < ordR (L.getD k zeR) (L.getD (beTo L h k).toNat zeR)))) = true then (k : Int) else beTo L h k
theorem be_bd (L : List Ru) (h : Int) : ∀ k : Nat, -1 ≤ beTo L h k ∧ beTo L h k < k
  | 0 => by simp [beTo]
  | k + 1 => by
    have := be_bd L h k
    unfold beTo
    split <;> omega
theorem be_no {L : List Ru} {h : Int} : ∀ {k : Nat}, beTo L h k < 0 → ∀ j, j < k → (L.getD j zeR).has h = false
  | 0, _, j, hj => by omega
  | k + 1, hb, j, hj => by
    unfold beTo at hb
    split at hb
    · omega
    · next hn =>
      by_cases e : j = k
      · subst e
        cases hh : (L.getD j zeR).has h
        · rfl
        · exact absurd (by rw [hh]; simp [hb]) hn
      · exact be_no hb j (by omega)
theorem be_yes {L : List Ru} {h : Int} : ∀ {k : Nat}, 0 ≤ beTo L h k → (L.getD (beTo L h k).toNat zeR).has h = true ∧ ∀ j, j < k → (L.getD j zeR).has h = true → ordR (L.getD j zeR) (L.getD (beTo L h k).toNat zeR) ≤ 0
  | 0, hb => by simp [beTo] at hb
  | k + 1, hb => by
    unfold beTo at hb ⊢
    split
    · next hy =>
      simp only [Bool.and_eq_true, Bool.or_eq_true, decide_eq_true_eq] at hy
      obtain ⟨y1, y2⟩ := hy
      simp only [Int.toNat_natCast]
      refine ⟨y1, fun j hj hh => ?_⟩
      by_cases e : j = k
      · subst e
        rw [ord_rf]
        exact Int.le_refl _
      · rcases y2 with y2 | y2
        · rw [be_no y2 j (by omega)] at hh
          cases hh
        · have h0 : 0 ≤ beTo L h k := by
            rcases Int.lt_or_le (beTo L h k) 0 with h' | h'
            · rw [be_no h' j (by omega)] at hh
              cases hh
            · exact h'
          exact ord_tr ((be_yes h0).2 j (by omega) hh) y2
    · next hn =>
      rw [if_neg hn] at hb
      obtain ⟨i1, i2⟩ := be_yes hb
      refine ⟨i1, fun j hj hh => ?_⟩
      by_cases e : j = k
      · subst e
        rw [hh] at hn
        simp only [Bool.true_and, Bool.or_eq_true, decide_eq_true_eq, not_or] at hn
        omega
      · exact i2 j (by omega) hh

/-- The fault of a look into a table, and the place. -/
def luN (L : List Ru) (h : Int) : Int := if tbN L = 0 then (if hdrB h then (if beTo L h L.length < 0 then 5 else 0) else 1) else tbN L
def luI (L : List Ru) (h : Int) : Int := if luN L h = 0 then beTo L h L.length else 0
theorem lu_0 {L : List Ru} {h : Int} : luN L h = 0 ↔ tbN L = 0 ∧ hdrB h = true ∧ 0 ≤ beTo L h L.length := by
  unfold luN
  by_cases h1 : tbN L = 0
  · rw [if_pos h1]
    cases h2 : hdrB h
    · simp
    · by_cases h3 : beTo L h L.length < 0
      · simp [h1, h3] <;> omega
      · simp [h1, h3] <;> omega
  · rw [if_neg h1]
    simp [h1]
theorem lu_rev {L : List Ru} {h : Int} (h0 : luN L h = 0) : luN L.reverse h = 0 := by
  rw [lu_0] at h0 ⊢
  obtain ⟨h1, h2, h3⟩ := h0
  refine ⟨tb_rev h1, h2, ?_⟩
  rcases Int.lt_or_le (beTo L.reverse h L.reverse.length) 0 with h' | h'
  · exfalso
    have hb := be_bd L h L.length
    have := be_no h' (L.length - 1 - (beTo L h L.length).toNat) (by rw [List.length_reverse]; omega)
    rw [rev_at (by omega), show L.length - 1 - (L.length - 1 - (beTo L h L.length).toNat) = (beTo L h L.length).toNat by omega, (be_yes h3).1] at this
    cases this
  · exact h'
theorem lu_iff {L : List Ru} {h : Int} : luN L.reverse h = 0 ↔ luN L h = 0 :=
  ⟨fun e => by have := lu_rev e; rwa [List.reverse_reverse] at this, lu_rev⟩
/-- However a table stands, the same rule counts. -/
theorem lu_same {L : List Ru} {h : Int} (h0 : luN L h = 0) : L.reverse.getD (luI L.reverse h).toNat zeR = L.getD (luI L h).toNat zeR ∧ (luI L.reverse h).toNat < L.length ∧ (luI L h).toNat < L.length ∧ 0 ≤ luI L.reverse h ∧ 0 ≤ luI L h := by
  have h1 := lu_rev h0
  have e1 : luI L h = beTo L h L.length := by simp [luI, h0]
  have e2 : luI L.reverse h = beTo L.reverse h L.reverse.length := by rw [luI, if_pos h1]
  rw [e1, e2]
  obtain ⟨a1, _, a3⟩ := lu_0.1 h0
  obtain ⟨_, _, b3⟩ := lu_0.1 h1
  have c1 := be_bd L h L.length
  have c2 := be_bd L.reverse h L.reverse.length
  rw [List.length_reverse] at *
  obtain ⟨d1, d2⟩ := be_yes a3
  obtain ⟨f1, f2⟩ := be_yes b3
  generalize hi : (beTo L h L.length).toNat = i at *
  generalize hk : (beTo L.reverse h L.length).toNat = k at *
  have hil : i < L.length := by omega
  have hkl : k < L.length := by omega
  refine ⟨?_, hkl, hil, b3, a3⟩
  rw [rev_at hkl] at f1 f2 ⊢
  have g1 := d2 (L.length - 1 - k) (by omega) f1
  have g2 := f2 (L.length - 1 - i) (by omega) (by rw [rev_at (by omega), show L.length - 1 - (L.length - 1 - i) = i by omega]; exact d1)
  rw [rev_at (by omega), show L.length - 1 - (L.length - 1 - i) = i by omega] at g2
  have g3 := ord_as g2 g1
  have hc := cl_no.1 (tb_0.1 a1).2.2
  rcases Nat.lt_trichotomy i (L.length - 1 - k) with h' | h' | h'
  · have := hc _ _ h' (by omega)
    rw [keyB, g3] at this
    cases this
  · rw [← h']
  · have := key_sym (hc _ _ h' hil)
    rw [keyB, g3] at this
    cases this
/-- The rule that counts has the header, and none that has it has a greater Prio. -/
theorem lu_top {L : List Ru} {h : Int} (h0 : luN L h = 0) : (L.getD (luI L h).toNat zeR).has h = true ∧ ∀ j, j < L.length → (L.getD j zeR).has h = true → (L.getD j zeR).p ≤ (L.getD (luI L h).toNat zeR).p := by
  have e1 : luI L h = beTo L h L.length := by simp [luI, h0]
  rw [e1]
  obtain ⟨d1, d2⟩ := be_yes (lu_0.1 h0).2.2
  refine ⟨d1, fun j hj hh => ?_⟩
  have := d2 j hj hh
  rw [ord_le] at this
  omega
end Go.Proofs.YtokkmnednhigmaeDoor
/- What Table of package rule answers, called with any table. -/
namespace Go.Proofs.YtokkmnednhigmaeDoor
open Go.RowKit
set_option linter.unusedSimpArgs false

/-- A rule lies at an address. -/
structure C6 (w : World) (g o : Nat) (r : Ru) : Prop where
  c0 : w.cell? ⟨g, o, none⟩ = some (.int .i64 r.p)
  c1 : w.cell? ⟨g, o + 1, none⟩ = some (.int .i64 r.m)
  c2 : w.cell? ⟨g, o + 2, none⟩ = some (.int .i64 r.b)
  c3 : w.cell? ⟨g, o + 3, none⟩ = some (.int .i64 r.o)
  c4 : w.cell? ⟨g, o + 4, none⟩ = some (.int .i64 r.s)
  c5 : w.cell? ⟨g, o + 5, none⟩ = some (.int .i64 r.v)
theorem C6.later {w w' : World} {g o : Nat} {r : Ru} (h : C6 w g o r) (hb : Below w.heap.size w w') : C6 w' g o r :=
  ⟨cell_later hb h.c0, cell_later hb h.c1, cell_later hb h.c2, cell_later hb h.c3, cell_later hb h.c4, cell_later hb h.c5⟩
theorem C6.new (w : World) (p m b o s v : Int) (t : TypeId) : C6 (w.alloc (Obj.cells #[Value.int IntKind.i64 p, Value.int IntKind.i64 m, Value.int IntKind.i64 b, Value.int IntKind.i64 o, Value.int IntKind.i64 s, Value.int IntKind.i64 v] t)) w.heap.size 0 ⟨p, m, b, o, s, v⟩ := by
  refine ⟨?_, ?_, ?_, ?_, ?_, ?_⟩ <;> simp
/-- These rules lie from an address on. -/
def RAt (w : World) (g o : Nat) (L : List Ru) : Prop := ∀ i (h : i < L.length), C6 w g (o + i * 6) L[i]
theorem RAt.later {w w' : World} {g o : Nat} {L : List Ru} (h : RAt w g o L) (hb : Below w.heap.size w w') : RAt w' g o L := fun i hi => (h i hi).later hb
theorem RAt.take {w : World} {g o : Nat} {L : List Ru} (h : RAt w g o L) (k : Nat) : RAt w g o (L.take k) := by
  intro i hi
  rw [List.getElem_take]
  exact h i (by simp at hi; omega)
/-- A value is a slice of these rules. -/
def SR (w : World) (v : Value) (L : List Ru) : Prop :=
  (∃ ao cap, v = .slice ao 0 cap ∧ L = []) ∨ ∃ g o cap, v = .slice (some ⟨g, o, none⟩) L.length cap ∧ L.length ≤ cap ∧ cap ≤ maxLen ∧ RAt w g o L
theorem SR.later {w w' : World} {v : Value} {L : List Ru} (h : SR w v L) (hb : Below w.heap.size w w') : SR w' v L := by
  rcases h with h | ⟨g, o, cap, h1, h2, h3, h4⟩
  · exact .inl h
  · exact .inr ⟨g, o, cap, h1, h2, h3, h4.later hb⟩
/-- The rule at a place, in letters. -/
theorem RAt.at {w : World} {g o : Nat} {L : List Ru} (h : RAt w g o L) {n k : Nat} (hn : L.length = n) (hk : k < n) :
    ∃ (p m b q s v : Int) (hl : k < L.length), L[k] = ⟨p, m, b, q, s, v⟩ ∧ (w.cell? ⟨g, o + k * 6, none⟩ = some (.int .i64 p) ∧ w.cell? ⟨g, o + k * 6 + 1, none⟩ = some (.int .i64 m) ∧ w.cell? ⟨g, o + k * 6 + 2, none⟩ = some (.int .i64 b) ∧
      w.cell? ⟨g, o + k * 6 + 3, none⟩ = some (.int .i64 q) ∧ w.cell? ⟨g, o + k * 6 + 4, none⟩ = some (.int .i64 s) ∧ w.cell? ⟨g, o + k * 6 + 5, none⟩ = some (.int .i64 v)) :=
  have hl : k < L.length := by omega
  have c := h k hl
  ⟨_, _, _, _, _, _, hl, rfl, c.c0, c.c1, c.c2, c.c3, c.c4, c.c5⟩

theorem key_ways (p m b o s v p' m' b' o' s' v' : Int) :
    ((p == p') = false ∧ keyB ⟨p, m, b, o, s, v⟩ ⟨p', m', b', o', s', v'⟩ = false) ∨ ((p == p') = true ∧ (m == m') = false ∧ keyB ⟨p, m, b, o, s, v⟩ ⟨p', m', b', o', s', v'⟩ = false) ∨
    ((p == p') = true ∧ (m == m') = true ∧ (b == b') = false ∧ keyB ⟨p, m, b, o, s, v⟩ ⟨p', m', b', o', s', v'⟩ = false) ∨ ((p == p') = true ∧ (m == m') = true ∧ (b == b') = true ∧ keyB ⟨p, m, b, o, s, v⟩ ⟨p', m', b', o', s', v'⟩ = true) := by
  rw [key_eq]
  by_cases h1 : p = p' <;> by_cases h2 : m = m' <;> by_cases h3 : b = b' <;> simp [h1, h2, h3]
set_option maxHeartbeats 1000000 in
theorem clash_any (p m b o s v p' m' b' o' s' v' : Int) (w : World) :
    Calls Tryd.prog 58 #[.agg #[.int .i64 p, .int .i64 m, .int .i64 b, .int .i64 o, .int .i64 s, .int .i64 v], .agg #[.int .i64 p', .int .i64 m', .int .i64 b', .int .i64 o', .int .i64 s', .int .i64 v']] w fun e w' => e = .returned (.bool (keyB ⟨p, m, b, o, s, v⟩ ⟨p', m', b', o', s', v'⟩)) ∧ Below w.heap.size w w' := by
  have HB : Hid (∀ o1 o2, Below w.heap.size w ((w.alloc o1).alloc o2)) := fun o1 o2 => ((Below.refl _ _).alloc (Nat.le_refl _) o1).alloc (by simp) o2
  rcases key_ways p m b o s v p' m' b' o' s' v' with ⟨e1, e⟩ | ⟨e1, e2, e⟩ | ⟨e1, e2, e3, e⟩ | ⟨e1, e2, e3, e⟩
  all_goals
    rw [e]
    clear e
    go_enter Tryd.func58, Tryd.ntmps58
    go_wp2
    go_ret
    exact ⟨rfl, HB.out _ _⟩

/-- A closure that asks something of a rule, in whatever world behind this one. -/
def Asks (w : World) (f : FuncId) (c : Value) (P : Ru → Bool) : Prop :=
  ∀ (p m b o s v : Int) (W : World), Below w.heap.size w W →
    Calls Tryd.prog f #[.agg #[.int .i64 p, .int .i64 m, .int .i64 b, .int .i64 o, .int .i64 s, .int .i64 v], c] W fun e w' => e = .returned (.bool (P ⟨p, m, b, o, s, v⟩)) ∧ Below W.heap.size W w'
theorem Asks.later {w w' : World} {f : FuncId} {c : Value} {P : Ru → Bool} (h : Asks w f c P) (hb : Below w.heap.size w w') : Asks w' f c P :=
  fun p m b o s v W hW => h p m b o s v W (hb.trans (hW.mono hb.size))

set_option maxHeartbeats 1000000 in
theorem table1_any (p m b o s v : Int) (r : Ru) (B : Nat) (w : World) (hc : C6 w B 0 r) :
    Calls Tryd.prog 57 #[.agg #[.int .i64 p, .int .i64 m, .int .i64 b, .int .i64 o, .int .i64 s, .int .i64 v], .pointer (some ⟨B, 0, none⟩)] w fun e w' => e = .returned (.bool (keyB ⟨p, m, b, o, s, v⟩ r)) ∧ Below w.heap.size w w' := by
  obtain ⟨p', m', b', o', s', v'⟩ := r
  obtain ⟨c0, c1, c2, c3, c4, c5⟩ := hc
  simp only [Nat.zero_add] at c0 c1 c2 c3 c4 c5
  have hlt : B < w.heap.size := World.block_lt_of_cell? _ _ c0
  go_enter Tryd.func57, Tryd.ntmps57
  go_wp2_with fail
  refine (clash_any _ _ _ _ _ _ _ _ _ _ _ _ _).mono ?_
  rintro e w1 ⟨rfl, hb1⟩
  go_wp2
  go_ret
  exact ⟨rfl, ((Below.refl _ _).alloc (Nat.le_refl _) _).trans (hb1.mono (by simp))⟩
theorem table1_asks (r : Ru) (B : Nat) (w : World) (hc : C6 w B 0 r) : Asks w 57 (.pointer (some ⟨B, 0, none⟩)) (fun a => keyB a r) :=
  fun p m b o s v W hW => table1_any p m b o s v r B W (hc.later hW)

theorem any_nextR {L : List Ru} {f : Ru → Bool} {k : Nat} (hk : k < L.length) (h : (L.take k).any f = false) (h2 : f L[k] = false) : (L.take (k + 1)).any f = false := by
  rw [List.take_succ_eq_append_getElem hk]
  simp only [List.any_append, h, List.any_cons, List.any_nil, h2, Bool.or_false]
theorem any_hitR {L : List Ru} {f : Ru → Bool} {k : Nat} (hk : k < L.length) (h2 : f L[k] = true) : L.any f = true := List.any_eq_true.2 ⟨_, List.getElem_mem hk, h2⟩
/-- The first place where something is so, or -1. -/
def ixP (f : Ru → Bool) (L : List Ru) : Int := if L.any f then (L.findIdx f : Int) else -1
theorem ixP_hit {L : List Ru} {f : Ru → Bool} {k : Nat} (hk : k < L.length) (h : (L.take k).any f = false) (h2 : f L[k] = true) : ixP f L = k := by
  rw [ixP, any_hitR hk h2, if_pos rfl]
  congr 1
  rw [List.findIdx_eq hk]
  refine ⟨h2, fun j hj => ?_⟩
  rw [List.any_eq_false] at h
  have := h L[j] (by rw [List.mem_take_iff_getElem]; exact ⟨j, by omega, rfl⟩)
  simpa using this
theorem ixP_no {L : List Ru} {f : Ru → Bool} (h : L.any f = false) : ixP f L = -1 := by simp [ixP, h]
theorem ixP_any (L : List Ru) (f : Ru → Bool) : decide (0 ≤ ixP f L) = L.any f := by
  unfold ixP
  cases L.any f
  · simp
  · simp
theorem SR.form {w : World} {v : Value} {L : List Ru} (h : SR w v L) : ∃ ao n cap, v = .slice ao n cap ∧ L.length = n ∧ n ≤ maxLen ∧ n ≤ cap ∧ (0 < n → ∃ g o, ao = some ⟨g, o, none⟩ ∧ RAt w g o L ∧ cap ≤ maxLen) := by
  rcases h with ⟨ao, cap, rfl, rfl⟩ | ⟨g, o, cap, rfl, h1, h2, h3⟩
  · exact ⟨ao, 0, cap, rfl, rfl, Nat.zero_le _, Nat.zero_le _, fun h => absurd h (by omega)⟩
  · exact ⟨_, _, cap, rfl, rfl, Nat.le_trans h1 h2, h1, fun _ => ⟨g, o, rfl, h3, h2⟩⟩

set_option maxHeartbeats 1000000 in
theorem idxF (ao : Option Addr) (n cap : Nat) (f : FuncId) (c : Value) (P : Ru → Bool) (L : List Ru) (w : World) (hn : L.length = n) (hn2 : n ≤ maxLen) (ha : 0 < n → ∃ g o, ao = some ⟨g, o, none⟩ ∧ RAt w g o L ∧ cap ≤ maxLen) (he : ∀ args w, (callFunc f args).run Tryd.prog w = .ok (.enter f args) w) (hf : Asks w f c P) :
    Calls Tryd.prog 75 #[.slice ao n cap, .func (Fn.func f) #[] #[c]] w fun e w' => e = .returned (.int .i64 (ixP P L)) ∧ Below w.heap.size w w' := by
  have HN : Hid (L.length = n) := hn
  have HF : Hid (Asks w f c P) := hf
  have HA : Hid (0 < n → ∃ g o, ao = some ⟨g, o, none⟩ ∧ RAt w g o L ∧ cap ≤ maxLen) := ha
  unfold maxLen at hn2
  clear hn hf ha
  go_enter Tryd.func75, Tryd.ntmps75
  go_wp2
  go_loopw [8] (fun i wr => ∃ k : Nat, k ≤ n ∧ i = .int .i64 k ∧ (L.take k).any P = false ∧ Below w.heap.size w wr)
    (fun i _ => n - (intOf i).toNat)
  case atStart => exact ⟨0, by omega, rfl, by simp, Below.refl _ _⟩
  case round =>
    obtain ⟨k, hk, rfl, hno, hB⟩ := hrel
    have HB : Hid (Below w.heap.size w wr) := hB
    have HNO : Hid ((L.take k).any P = false) := hno
    clear hno
    by_cases hlt : k < n
    · obtain ⟨g, o, hao, hc, _⟩ := HA.out (by omega)
      subst hao
      obtain ⟨p, m, b, q, s, v, hkl, hL, q0, q1, q2, q3, q4, q5⟩ := (hc.later hB).at HN.out hlt
      have HL : Hid (L[k] = ⟨p, m, b, q, s, v⟩) := hL
      clear hL hB
      cases ho : P ⟨p, m, b, q, s, v⟩
      · go_wp2_with fail
        refine (HF.out p m b q s v _ HB.out).mono ?_
        rintro e w1 ⟨rfl, hb1⟩
        rw [ho]
        have HB1 := HB.out.trans (hb1.mono HB.out.size)
        clear hb1
        go_wp2
        go_roundw
        case rel => exact ⟨k + 1, by omega, by go_num, any_nextR hkl HNO.out (by rw [HL.out]; exact ho), HB1⟩
        case measure => simp [intOf]; omega
      · go_wp2_with fail
        refine (HF.out p m b q s v _ HB.out).mono ?_
        rintro e w1 ⟨rfl, hb1⟩
        rw [ho]
        go_wp2
        go_ret
        exact ⟨by rw [ixP_hit hkl HNO.out (by rw [HL.out]; exact ho)]; rfl, HB.out.trans (hb1.mono HB.out.size)⟩
    · obtain rfl : k = n := by omega
      go_wp2
      go_ret
      exact ⟨by have := HNO.out; rw [← HN.out, List.take_length] at this; rw [ixP_no this]; rfl, HB.out⟩

set_option maxHeartbeats 1000000 in
theorem containsF (ao : Option Addr) (n cap : Nat) (f : FuncId) (c : Value) (P : Ru → Bool) (L : List Ru) (w : World) (hn : L.length = n) (hn2 : n ≤ maxLen) (ha : 0 < n → ∃ g o, ao = some ⟨g, o, none⟩ ∧ RAt w g o L ∧ cap ≤ maxLen) (he : ∀ args w, (callFunc f args).run Tryd.prog w = .ok (.enter f args) w) (hf : Asks w f c P) :
    Calls Tryd.prog 56 #[.slice ao n cap, .func (Fn.func f) #[] #[c]] w fun e w' => e = .returned (.bool (L.any P)) ∧ Below w.heap.size w w' := by
  rw [← ixP_any]
  obtain ⟨x, hx⟩ : ∃ x, x = ixP P L := ⟨_, rfl⟩
  have HX : Hid (x = ixP P L) := hx
  rw [← hx]
  clear hx
  go_enter Tryd.func56, Tryd.ntmps56
  go_wp2_with fail
  refine (idxF ao n cap f c P L _ hn hn2 ha he hf).mono ?_
  rintro e w1 ⟨rfl, hb1⟩
  rw [← HX.out]
  go_wp2
  go_ret
  exact ⟨rfl, hb1⟩
theorem containsR_any (g o cap n B : Nat) (r : Ru) (L : List Ru) (w : World) (hc : RAt w g o L) (hn : L.length = n) (hn2 : n ≤ maxLen) (hcap : cap ≤ maxLen) (hr : C6 w B 0 r) :
    Calls Tryd.prog 56 #[.slice (some ⟨g, o, none⟩) n cap, .func (Fn.func 57) #[] #[.pointer (some ⟨B, 0, none⟩)]] w fun e w' => e = .returned (.bool (L.any (fun a => keyB a r))) ∧ Below w.heap.size w w' :=
  containsF _ n cap _ _ _ L w hn hn2 (fun _ => ⟨g, o, rfl, hc, hcap⟩) (enters_of Tryd.func57 (by kernel_rfl) rfl) (table1_asks r B w hr)
end Go.Proofs.YtokkmnednhigmaeDoor
/- A rule that came in, opened: six numbers. -/
namespace Go.Proofs.YtokkmnednhigmaeDoor
open Go.ChangeShapes Go.WideShapes Go.ChangeAt Go.RowKit Go.Joins

theorem array6 {α : Type} {cs : Array α} (h : cs.size = 6) : ∃ c0 c1 c2 c3 c4 c5, cs = #[c0, c1, c2, c3, c4, c5] := by
  obtain ⟨l⟩ := cs
  match l, h with
  | [c0, c1, c2, c3, c4, c5], _ => exact ⟨c0, c1, c2, c3, c4, c5, rfl⟩

/-- Six cells that read as a rule are six numbers. -/
theorem rule_cells {H : Type} {enc : TypeId × Value → H} {W : World} {n : Nat} {cs : List Value} {x : DataW H × List MemPlace}
    (h : DataW.trod enc Tryd.prog W 0 (fun _ => true) true n 51 cs = some x) : ∃ p m b o s v : Int, cs = [.int .i64 p, .int .i64 m, .int .i64 b, .int .i64 o, .int .i64 s, .int .i64 v] := by
  obtain ⟨xs, k, _, _, hl, hlen, hf⟩ := DataW.trod_struct Tryd.underlying51 h
  have hC : Tryd.prog.cellsOf 51 = 6 := by kernel_rfl
  have hI : Tryd.prog.cellsOf 3 = 1 := by kernel_rfl
  have hK : Tryd.prog.cellsOf 49 = 2 := by kernel_rfl
  rw [hC] at hl
  obtain ⟨c0, c1, c2, c3, c4, c5, e⟩ := array6 (cs := cs.toArray) (by simpa using hl)
  have e' : cs = [c0, c1, c2, c3, c4, c5] := by simpa using congrArg Array.toList e
  subst e'
  match xs, hlen with
  | [y0, y1, y2, y3, y4], _ =>
    have g0 := hf 0 _ rfl
    have g1 := hf 1 _ rfl
    have g2 := hf 2 _ rfl
    have g3 := hf 3 _ rfl
    have g4 := hf 4 _ rfl
    simp [hI, hK] at g0 g1 g2 g3 g4
    obtain ⟨p, e0, _, _⟩ := DataW.trod_int Tryd.underlying3 g0
    obtain ⟨z0, z1, k1, _, _, f0, f1⟩ := trod_struct2 Tryd.underlying49 g1
    simp [hI] at f0 f1
    obtain ⟨m, e1, _, _⟩ := DataW.trod_int Tryd.underlying3 f0
    obtain ⟨b, e2, _, _⟩ := DataW.trod_int Tryd.underlying3 f1
    obtain ⟨o, e3, _, _⟩ := DataW.trod_int Tryd.underlying3 g2
    obtain ⟨s, e4, _, _⟩ := DataW.trod_int Tryd.underlying3 g3
    obtain ⟨v, e5, _, _⟩ := DataW.trod_int Tryd.underlying3 g4
    simp at e0 e1 e2 e3 e4 e5
    subst e0 e1 e2 e3 e4 e5
    exact ⟨p, m, b, o, s, v, rfl⟩

set_option maxRecDepth 100000 in
/-- A rule that came in is six numbers. -/
theorem rule_of {H : Type} {enc : TypeId × Value → H} {W : World} {base : Nat} {v : Value} {d : DataW H} {p : List MemPlace}
    (hv : Value.okWide Tryd.prog W .any base 51 v) (h : DataW.Trod enc Tryd.prog W 0 (fun _ => true) true 51 v d p) :
    ∃ q m b o s x : Int, v = .agg #[.int .i64 q, .int .i64 m, .int .i64 b, .int .i64 o, .int .i64 s, .int .i64 x] := by
  obtain ⟨cs, rfl, hsz⟩ := okWide_struct Tryd.underlying51 hv
  obtain ⟨n, hn⟩ := h
  obtain ⟨q, m, b, o, s, x, e⟩ := rule_cells hn
  refine ⟨q, m, b, o, s, x, ?_⟩
  have e2 : cs = #[.int .i64 q, .int .i64 m, .int .i64 b, .int .i64 o, .int .i64 s, .int .i64 x] := by
    simp only [Value.cells] at e
    rw [← Array.toArray_toList (xs := cs), e]
  rw [e2]
end Go.Proofs.YtokkmnednhigmaeDoor
/- Rows of rules that a call owns; a table that came in. -/
namespace Go.Proofs.YtokkmnednhigmaeDoor
open Go.ChangeShapes Go.WideShapes Go.ChangeAt Go.RowKit

/-- The cells of rules. -/
def cellsR (L : List Ru) : List Value := L.flatMap fun r => [.int .i64 r.p, .int .i64 r.m, .int .i64 r.b, .int .i64 r.o, .int .i64 r.s, .int .i64 r.v]
theorem cellsR_len (L : List Ru) : (cellsR L).length = L.length * 6 := by
  induction L with
  | nil => rfl
  | cons p r ih => simp only [cellsR, List.flatMap_cons, List.length_append, List.length_cons, List.length_nil] at *; omega
theorem cellsR_app (L M : List Ru) : cellsR (L ++ M) = cellsR L ++ cellsR M := by simp [cellsR]
theorem cellsR_at (L : List Ru) (i : Nat) (h : i < L.length) : (cellsR L)[i * 6]? = some (.int .i64 (L[i]).p) ∧ (cellsR L)[i * 6 + 1]? = some (.int .i64 (L[i]).m) ∧ (cellsR L)[i * 6 + 2]? = some (.int .i64 (L[i]).b) ∧
    (cellsR L)[i * 6 + 3]? = some (.int .i64 (L[i]).o) ∧ (cellsR L)[i * 6 + 4]? = some (.int .i64 (L[i]).s) ∧ (cellsR L)[i * 6 + 5]? = some (.int .i64 (L[i]).v) := by
  induction L generalizing i with
  | nil => simp at h
  | cons p r ih =>
    cases i with
    | zero => simp [cellsR]
    | succ i =>
      have := ih i (by simpa using h)
      have e1 : (i + 1) * 6 = i * 6 + 1 + 1 + 1 + 1 + 1 + 1 := by omega
      simpa [cellsR, e1] using this
theorem cellsR_one (L : List Ru) : ∀ u ∈ cellsR L, u.oneCell' = true := by
  intro u hu
  simp only [cellsR, List.mem_flatMap] at hu
  obtain ⟨p, _, hp⟩ := hu
  simp at hp
  rcases hp with rfl | rfl | rfl | rfl | rfl | rfl <;> rfl
/-- What a call owns may be read. -/
theorem own_SR {w : World} {B e : Nat} {v : Value} {L : List Ru} (h : w.ownsRow B e 6 v L.length (cellsR L)) : SR w v L := by
  rcases h.2 with ⟨rfl, h0⟩ | ⟨g, cap, cur, rfl, _, _, h1, h2, _⟩
  · exact .inl ⟨none, 0, rfl, List.length_eq_zero_iff.1 h0⟩
  · refine .inr ⟨g, 0, cap, rfl, h1, h2, fun i hi => ?_⟩
    obtain ⟨a0, a1, a2, a3, a4, a5⟩ := cellsR_at L i hi
    refine ⟨?_, ?_, ?_, ?_, ?_, ?_⟩
    · have := h.cellAt (i * 6) (by omega)
      rw [a0] at this
      simpa using this
    · have := h.cellAt (i * 6 + 1) (by omega)
      rw [a1] at this
      simpa using this
    · have := h.cellAt (i * 6 + 2) (by omega)
      rw [a2] at this
      simpa using this
    · have := h.cellAt (i * 6 + 3) (by omega)
      rw [a3] at this
      simpa using this
    · have := h.cellAt (i * 6 + 4) (by omega)
      rw [a4] at this
      simpa using this
    · have := h.cellAt (i * 6 + 5) (by omega)
      rw [a5] at this
      simpa using this
theorem infoRule : (Tryd.prog.info? 51).map (fun i => (i.zero, i.size, i.bytes)) = some (some (.agg #[.int .i64 0, .int .i64 0, .int .i64 0, .int .i64 0, .int .i64 0, .int .i64 0]), 6, 48) := by kernel_rfl
theorem sixCells : (Value.agg #[.int .i64 0, .int .i64 0, .int .i64 0, .int .i64 0, .int .i64 0, .int .i64 0]).cells.size = 6 := by simp [Value.cells]
theorem own_pushR {W : World} {B e : Nat} {v : Value} {out : List Ru} {p m b o s x : Int} (h : W.ownsRow B e 6 v (out.length + 1) (cellsR out ++ [.int .i64 p, .int .i64 m, .int .i64 b, .int .i64 o, .int .i64 s, .int .i64 x])) :
    W.ownsRow B e 6 v (out ++ [(⟨p, m, b, o, s, x⟩ : Ru)]).length (cellsR (out ++ [(⟨p, m, b, o, s, x⟩ : Ru)])) := by
  have e1 : (out ++ [(⟨p, m, b, o, s, x⟩ : Ru)]).length = out.length + 1 := by simp
  rw [e1, cellsR_app]
  exact h

set_option maxRecDepth 100000 in
/-- A table that came in lies where its slice says. -/
theorem rules_of {H : Type} {enc : TypeId × Value → H} {W : World} {base : Nat} {v : Value} {d : DataW H} {p : List MemPlace}
    (hv : Value.okWide Tryd.prog W .any base 58 v) (h : DataW.Trod enc Tryd.prog W 0 (fun _ => true) true 58 v d p) : ∃ L, SR W v L := by
  obtain ⟨a0, len0, cap0, rfl⟩ := okWide_slice Tryd.underlying58 hv
  obtain ⟨fuel, hf⟩ := h
  have hf2 : DataW.trod enc Tryd.prog W 0 (fun _ => true) true fuel 58 [.slice a0 len0 cap0] = some (d, p) := hf
  rcases Go.Deep.open_slice Tryd.underlying58 hf2 with ⟨hc, hx⟩ | ⟨a, len, cap, m, k, D, Pl, hc, _, hl, hm, hmm, hx, hall⟩
  · simp only [List.cons.injEq, and_true, Value.slice.injEq] at hc
    obtain ⟨rfl, rfl, rfl⟩ := hc
    exact ⟨[], .inl ⟨none, 0, rfl, rfl⟩⟩
  · simp only [List.cons.injEq, and_true, Value.slice.injEq] at hc
    obtain ⟨rfl, rfl, rfl⟩ := hc
    simp only [if_true] at hmm
    subst hmm
    have hC : Tryd.prog.cellsOf 51 = 6 := by kernel_rfl
    rcases Nat.eq_zero_or_pos len0 with h0 | h0
    · subst h0
      exact ⟨[], .inl ⟨_, _, rfl, rfl⟩⟩
    · have each : ∀ i, i < m → ∃ r : Ru, ∀ j, j < 6 → W.cell? (a.add (i * 6 + j)) = (cellsR [r])[j]? := by
        intro i hi
        obtain ⟨cs, h1, h2⟩ := hall i hi
        rw [hC] at h1
        obtain ⟨_, hlen, hcell⟩ := World.cells?_some h1
        obtain ⟨q, n, b, o, s, x, rfl⟩ := rule_cells h2
        refine ⟨⟨q, n, b, o, s, x⟩, fun j hj => ?_⟩
        have := hcell j (by omega)
        rw [Go.Deep.add_add] at this
        rw [this]
        rcases (by omega : j = 0 ∨ j = 1 ∨ j = 2 ∨ j = 3 ∨ j = 4 ∨ j = 5) with rfl | rfl | rfl | rfl | rfl | rfl <;> simp [cellsR]
      have iR : Inhabited Ru := ⟨zeR⟩
      obtain ⟨R, hR⟩ := Go.Deep.choose_lt each
      obtain ⟨sb, so, spot⟩ := a
      have hspot : spot = none := by
        have := hR 0 (by omega) 0 (by omega)
        have h2 : W.cell? ((⟨sb, so, spot⟩ : Addr).add (0 * 6 + 0)) = some (.int .i64 (R 0).p) := by rw [this]; simp [cellsR]
        simpa [Addr.add] using World.cell?_spot h2
      subst hspot
      have hadd : ∀ j, (⟨sb, so, none⟩ : Addr).add j = ⟨sb, so + j, none⟩ := by
        intro j
        simp only [Addr.add]
        first
          | rfl
          | (split
             · next h0 => rw [h0]; rfl
             · rfl)
      refine ⟨(List.range len0).map R, .inr ⟨sb, so, _, by simp, by simpa using hl, hm, fun i hi => ?_⟩⟩
      have hi2 : i < len0 := by simpa using hi
      have hc := hR i (by omega)
      simp only [hadd] at hc
      have e : ((List.range len0).map R)[i] = R i := by simp
      rw [e]
      refine ⟨?_, ?_, ?_, ?_, ?_, ?_⟩
      · have := hc 0 (by omega); simpa [cellsR] using this
      · have := hc 1 (by omega); simpa [cellsR, Nat.add_assoc] using this
      · have := hc 2 (by omega); simpa [cellsR, Nat.add_assoc] using this
      · have := hc 3 (by omega); simpa [cellsR, Nat.add_assoc] using this
      · have := hc 4 (by omega); simpa [cellsR, Nat.add_assoc] using this
      · have := hc 5 (by omega); simpa [cellsR, Nat.add_assoc] using this
end Go.Proofs.YtokkmnednhigmaeDoor
