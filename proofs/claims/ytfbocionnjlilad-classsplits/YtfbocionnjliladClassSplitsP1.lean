/- Contracts and facts on the way to ClassSplits, joined into one text: Gen, ClassMath, ClassMem, CubeMath, RuleMath, RuleTabMath, ClassPath. -/
import Derived.WalkKit
import Derived.WalkSpells
import Derived.Below
import Derived.ProofKit
import Derived.OpenShut
import Derived.ChangeOld
import Derived.Laws.AppendOwnNone
import Derived.Deep.Slices
import Derived.Laws.OwnMore
import Derived.Laws.BytesArg
/- Slices of anything that is a fixed number of cells: where they lie, rows of them that a call owns, such that came in. No program in it. -/
namespace Go.Proofs.Ytfbocionnjlilad
open Go.ChangeShapes Go.WideShapes Go.ChangeAt Go.RowKit

/-- How things are laid out in cells: each as so many. -/
structure Enc (α : Type) where
  c : α → List Value
  n : Nat
  len : ∀ x, (c x).length = n
  pos : 0 < n
  one : ∀ x u, u ∈ c x → u.oneCell' = true
/-- Values lie one behind the other from an address on. -/
def VAt (w : World) (g o : Nat) (vs : List Value) : Prop := ∀ j u, vs[j]? = some u → w.cell? ⟨g, o + j, none⟩ = some u
theorem VAt.later {w w' : World} {g o : Nat} {vs : List Value} (h : VAt w g o vs) (hb : Below w.heap.size w w') : VAt w' g o vs := fun j u hu => cell_later hb (h j u hu)
theorem vat_new (w : World) (vs : List Value) (t : TypeId) : VAt (w.alloc (.cells vs.toArray t)) w.heap.size 0 vs := by
  intro j u hu
  rw [Nat.zero_add]
  have hj : j < vs.length := (List.getElem?_eq_some_iff.1 hu).1
  simp only [World.cell?, World.alloc]
  simp [hu]
section
variable {α : Type} {E : Enc α}
/-- These lie from an address on. -/
def GAt (E : Enc α) (w : World) (g o : Nat) (L : List α) : Prop := ∀ i (h : i < L.length), VAt w g (o + i * E.n) (E.c L[i])
theorem GAt.later {w w' : World} {g o : Nat} {L : List α} (h : GAt E w g o L) (hb : Below w.heap.size w w') : GAt E w' g o L := fun i hi => (h i hi).later hb
theorem GAt.take {w : World} {g o : Nat} {L : List α} (h : GAt E w g o L) (k : Nat) : GAt E w g o (L.take k) := by
  intro i hi
  rw [List.getElem_take]
  exact h i (by simp at hi; omega)
theorem GAt.drop {w : World} {g o : Nat} {L : List α} (h : GAt E w g o L) (k : Nat) : GAt E w g (o + k * E.n) (L.drop k) := by
  intro i hi
  have hi2 : k + i < L.length := by simp at hi; omega
  have := h (k + i) hi2
  rw [List.getElem_drop]
  have e : o + (k + i) * E.n = o + k * E.n + i * E.n := by rw [Nat.add_mul]; omega
  rw [← e]
  exact this
/-- A value is a slice of these. -/
def GS (E : Enc α) (w : World) (v : Value) (L : List α) : Prop :=
  (∃ ao cap, v = .slice ao 0 cap ∧ L = []) ∨ ∃ g o cap, v = .slice (some ⟨g, o, none⟩) L.length cap ∧ L.length ≤ cap ∧ cap ≤ maxLen ∧ GAt E w g o L
theorem GS.later {w w' : World} {v : Value} {L : List α} (h : GS E w v L) (hb : Below w.heap.size w w') : GS E w' v L := by
  rcases h with h | ⟨g, o, cap, h1, h2, h3, h4⟩
  · exact .inl h
  · exact .inr ⟨g, o, cap, h1, h2, h3, h4.later hb⟩
theorem GS.form {w : World} {v : Value} {L : List α} (h : GS E w v L) : ∃ ao n cap, v = .slice ao n cap ∧ L.length = n ∧ n ≤ maxLen ∧ n ≤ cap ∧ (0 < n → ∃ g o, ao = some ⟨g, o, none⟩ ∧ GAt E w g o L ∧ cap ≤ maxLen) := by
  rcases h with ⟨ao, cap, rfl, rfl⟩ | ⟨g, o, cap, rfl, h1, h2, h3⟩
  · exact ⟨ao, 0, cap, rfl, rfl, Nat.zero_le _, Nat.zero_le _, fun h => absurd h (by omega)⟩
  · exact ⟨_, _, cap, rfl, rfl, Nat.le_trans h1 h2, h1, fun _ => ⟨g, o, rfl, h3, h2⟩⟩
theorem GS.len {w : World} {ao : Option Addr} {n cap : Nat} {L : List α} (h : GS E w (.slice ao n cap) L) : L.length = n := by
  rcases h with ⟨_, _, e, rfl⟩ | ⟨_, _, _, e, _⟩
  · simp at e; simp [e]
  · simp at e; exact e.2.1.symm
theorem GS.nil (w : World) : GS E w (.slice none 0 0) [] := .inl ⟨none, 0, rfl, rfl⟩
/-- One in a new row. -/
theorem gs_one (w : World) (x : α) (t : TypeId) {vs : List Value} (hv : vs = E.c x) : GS E (w.alloc (.cells vs.toArray t)) (.slice (some ⟨w.heap.size, 0, none⟩) 1 1) [x] := by
  subst hv
  refine .inr ⟨w.heap.size, 0, 1, rfl, Nat.le_refl _, by unfold maxLen; omega, fun i hi => ?_⟩
  obtain rfl : i = 0 := by simp at hi; omega
  have h := vat_new w (E.c x) t
  simpa using h
/-- The cells of some. -/
def cellsG (E : Enc α) (L : List α) : List Value := L.flatMap E.c
theorem cellsG_len (L : List α) : (cellsG E L).length = L.length * E.n := by
  induction L with
  | nil => simp [cellsG]
  | cons x r ih =>
    simp only [cellsG, List.flatMap_cons, List.length_append, List.length_cons, E.len] at *
    rw [ih, Nat.add_mul]
    omega
theorem cellsG_app (L M : List α) : cellsG E (L ++ M) = cellsG E L ++ cellsG E M := by simp [cellsG]
theorem cellsG_one (x : α) : cellsG E [x] = E.c x := by simp [cellsG]
theorem cellsG_at (L : List α) : ∀ (i : Nat) (h : i < L.length) (j : Nat), j < E.n → (cellsG E L)[i * E.n + j]? = (E.c L[i])[j]? := by
  induction L with
  | nil => intro i h; simp at h
  | cons x r ih =>
    intro i h j hj
    cases i with
    | zero =>
      simp only [cellsG, List.flatMap_cons, Nat.zero_mul, Nat.zero_add, List.getElem_cons_zero]
      rw [List.getElem?_append_left (by rw [E.len]; exact hj)]
    | succ i =>
      have := ih i (by simpa using h) j hj
      simp only [cellsG, List.flatMap_cons, List.getElem_cons_succ] at this ⊢
      rw [List.getElem?_append_right (by rw [E.len, Nat.add_mul]; omega), E.len]
      have e : (i + 1) * E.n + j - E.n = i * E.n + j := by rw [Nat.add_mul]; omega
      rw [e]
      exact this
theorem cellsG_all (L : List α) : ∀ u ∈ cellsG E L, u.oneCell' = true := by
  intro u hu
  simp only [cellsG, List.mem_flatMap] at hu
  obtain ⟨x, _, hx⟩ := hu
  exact E.one x u hx
/-- What a call owns may be read. -/
theorem own_GS {w : World} {B e : Nat} {v : Value} {L : List α} (h : w.ownsRow B e E.n v L.length (cellsG E L)) : GS E w v L := by
  rcases h.2 with ⟨rfl, h0⟩ | ⟨g, cap, cur, rfl, _, _, h1, h2, _⟩
  · exact .inl ⟨none, 0, rfl, List.length_eq_zero_iff.1 h0⟩
  · refine .inr ⟨g, 0, cap, rfl, h1, h2, fun i hi j u hu => ?_⟩
    have hj : j < E.n := by
      have := (List.getElem?_eq_some_iff.1 hu).1
      rw [E.len] at this
      exact this
    have hlt : i * E.n + j < L.length * E.n := by
      have : (i + 1) * E.n ≤ L.length * E.n := Nat.mul_le_mul_right _ hi
      rw [Nat.add_mul] at this
      omega
    rw [Nat.zero_add, h.cellAt _ hlt, cellsG_at L i hi j hj]
    exact hu
theorem GAt.cells {w : World} {g o : Nat} {M : List α} (h : GAt E w g o M) : ∀ j u, (cellsG E M)[j]? = some u → w.cell? ((⟨g, o, none⟩ : Addr).add j) = some u := by
  intro j u hu
  have hj : j < M.length * E.n := by
    have := (List.getElem?_eq_some_iff.1 hu).1
    rw [cellsG_len] at this
    exact this
  have hadd : (⟨g, o, none⟩ : Addr).add j = ⟨g, o + j, none⟩ := by
    simp only [Addr.add]
    first
      | rfl
      | (split
         · next h0 => rw [h0]; rfl
         · rfl)
  have hi : j / E.n < M.length := Nat.div_lt_of_lt_mul (by rw [Nat.mul_comm]; exact hj)
  have hm : j % E.n < E.n := Nat.mod_lt _ E.pos
  have e : j / E.n * E.n + j % E.n = j := by rw [Nat.mul_comm]; exact Nat.div_add_mod _ _
  have h1 := cellsG_at (E := E) M (j / E.n) hi (j % E.n) hm
  rw [e, hu] at h1
  have h2 := h (j / E.n) hi (j % E.n) u h1.symm
  rw [Nat.add_assoc, e] at h2
  rw [hadd]
  exact h2
end

section
variable {α : Type}
theorem any_nextG {L : List α} {f : α → Bool} {k : Nat} (hk : k < L.length) (h : (L.take k).any f = false) (h2 : f L[k] = false) : (L.take (k + 1)).any f = false := by
  rw [List.take_succ_eq_append_getElem hk]
  simp only [List.any_append, h, List.any_cons, List.any_nil, h2, Bool.or_false]
theorem any_hitG {L : List α} {f : α → Bool} {k : Nat} (hk : k < L.length) (h2 : f L[k] = true) : L.any f = true := List.any_eq_true.2 ⟨_, List.getElem_mem hk, h2⟩
/-- The first place where something is so, or -1. -/
def ixG (f : α → Bool) (L : List α) : Int := if L.any f then (L.findIdx f : Int) else -1
theorem ixG_hit {L : List α} {f : α → Bool} {k : Nat} (hk : k < L.length) (h : (L.take k).any f = false) (h2 : f L[k] = true) : ixG f L = k := by
  rw [ixG, any_hitG hk h2, if_pos rfl]
  congr 1
  rw [List.findIdx_eq hk]
  refine ⟨h2, fun j hj => ?_⟩
  rw [List.any_eq_false] at h
  have := h L[j] (by rw [List.mem_take_iff_getElem]; exact ⟨j, by omega, rfl⟩)
  simpa using this
theorem ixG_no {L : List α} {f : α → Bool} (h : L.any f = false) : ixG f L = -1 := by simp [ixG, h]
theorem ixG_any (L : List α) (f : α → Bool) : decide (0 ≤ ixG f L) = L.any f := by
  unfold ixG
  cases L.any f
  · simp
  · simp
end
section
variable {α : Type}
/-- Are two lists the same, one by one? -/
def smG (q : α → α → Bool) : List α → List α → Bool
  | [], [] => true
  | a :: l, b :: m => q a b && smG q l m
  | _, _ => false
theorem smG_iff {q : α → α → Bool} : ∀ {L M : List α}, smG q L M = true ↔ L.length = M.length ∧ ∀ i (h1 : i < L.length) (h2 : i < M.length), q L[i] M[i] = true
  | [], [] => by simp [smG]
  | [], _ :: _ => by simp [smG]
  | _ :: _, [] => by simp [smG]
  | a :: l, b :: m => by
    rw [smG, Bool.and_eq_true, smG_iff (L := l) (M := m)]
    constructor
    · rintro ⟨h1, h2, h3⟩
      refine ⟨by simp [h2], fun i hi hj => ?_⟩
      cases i with
      | zero => exact h1
      | succ i => exact h3 i (by simpa using hi) (by simpa using hj)
    · rintro ⟨h1, h2⟩
      refine ⟨h2 0 (by simp) (by simp), by simpa using h1, fun i hi hj => ?_⟩
      exact h2 (i + 1) (by simpa using hi) (by simpa using hj)
theorem smG_len {q : α → α → Bool} {L M : List α} (h : L.length ≠ M.length) : smG q L M = false := by
  cases e : smG q L M
  · rfl
  · exact absurd (smG_iff.1 e).1 h
theorem smG_no {q : α → α → Bool} {L M : List α} {k : Nat} (h1 : k < L.length) (h2 : k < M.length) (h : q L[k] M[k] = false) : smG q L M = false := by
  cases e : smG q L M
  · rfl
  · have := (smG_iff.1 e).2 k h1 h2
    rw [h] at this
    cases this
theorem smG_eq {q : α → α → Bool} (hq : ∀ a b, q a b = true ↔ a = b) : ∀ {L M : List α}, smG q L M = true ↔ L = M
  | [], [] => by simp [smG]
  | [], _ :: _ => by simp [smG]
  | _ :: _, [] => by simp [smG]
  | a :: l, b :: m => by
    rw [smG, Bool.and_eq_true, smG_eq hq, hq]
    simp
end
section
variable {P : Program} {α : Type} {E : Enc α}
theorem run_append_none {w : World} (base : Nat) (t ty e : TypeId) (i : TypeInfo) (size cap2 : Nat) (ht : P.underlying t = some (.slice e)) (hi : P.info? e = some i)
    (v : Value) (n : Nat) (xs : List Value) (hown : w.ownsRow base e size v n xs) :
    (Builtin.append_ #[t, t] ty #[v, .slice none 0 cap2]).run P w = .ok v w := by
  rcases hown.2 with ⟨rfl, rfl⟩ | ⟨g, cap, cur, rfl, _, _, hnc, _⟩
  · simp [Builtin.append_, run_underlying ht, sizeOf, typeInfo, hi, Builtin.lenOf, Builtin.firstCells]
  · simp [Builtin.append_, run_underlying ht, sizeOf, typeInfo, hi, Builtin.lenOf, Builtin.firstCells, hnc, storeCells]
/-- Appending a slice, whoever made it, to a row that a call owns. -/
theorem wpList_append_GS (w : World) {ops : Array Oper} {rest : List Oper} {o : Oper} {a : Act} {Q : Exit → Act → World → Prop} (hgd : o.guard = none) (s x : Operand) (t e : TypeId)
    (ho : o.op = .call { callee := .builtin .append, args := #[s, x], argTypes := #[t, t] }) (ht : P.underlying t = some (.slice e)) (i : TypeInfo) (z : Value) (bytes : Nat) (hi : P.info? e = some i) (hz : i.zero = some z)
    (hsize : i.size = E.n) (hby : i.bytes = bytes) (hzs : z.cells.size = E.n) (base : Nat)
    (v : Value) (hs : a.eval s = v) (L : List α) (hown : w.ownsRow base e E.n v L.length (cellsG E L)) (u : Value) (hx : a.eval x = u) (M : List α) (hM : GS E w u M)
    (h63 : L.length + M.length ≤ maxLen) (hbytes : (L.length + M.length) * bytes ≤ 140737488355328) (hbase : base ≤ w.heap.size)
    (h : ∀ v' w', w'.ownsRow base e E.n v' (L ++ M).length (cellsG E (L ++ M)) → w.grownBy w' v.ownBlock → wpList P ops Q rest (a.put o.dst v') w') : wpList P ops Q (o :: rest) a w := by
  have key : ∀ (ad : Addr) (m c : Nat) (news : List Value), a.eval x = .slice (some ad) m c → news.length = m * E.n → (∀ j u, news[j]? = some u → w.cell? (ad.add j) = some u) → (∀ u ∈ news, u.oneCell' = true) → m = M.length → news = cellsG E M → wpList P ops Q (o :: rest) a w := by
    intro ad m c news e1 e2 e3 e4 e5 e6
    refine wpList_append_own w hgd s x t ho base e i z E.n bytes ht hi hz hsize hby hzs E.pos v _ _ hs hown ad m c news e1 e2 e3 e4 (by rw [e5]; exact h63) (by rw [e5]; exact hbytes) hbase ?_
    intro v' w' h1 h2 _
    refine h v' w' ?_ h2
    rw [List.length_append, cellsG_app, ← e5, ← e6]
    exact h1
  rcases hM with ⟨ao, cap, rfl, rfl⟩ | ⟨g, q, cap, rfl, h1, h2, h3⟩
  · cases ao with
    | none =>
      refine wpList_plain hgd fun K hK => ?_
      have hrun := run_append_none (P := P) (w := w) base t o.type e i E.n cap ht hi v _ _ hown
      unfold Oper.wp
      simp [execOp, ho, resolve, invoke, builtin, hs, hx, hrun, Result.andThen]
      exact hK _ _ (h v w (by rw [List.append_nil]; exact hown) ⟨rfl, rfl, rfl, Nat.le_refl _, fun _ _ _ => rfl⟩)
    | some ad => exact key ad 0 cap [] hx (by simp) (by intro j u hu; simp at hu) (by intro u hu; cases hu) rfl rfl
  · exact key ⟨g, q, none⟩ M.length cap (cellsG E M) hx (cellsG_len M) h3.cells (cellsG_all M) rfl rfl

set_option maxRecDepth 100000 in
/-- A slice that came in lies where it says. 'hel': cells that read as one element are its layout. -/
theorem gs_of {H : Type} {enc : TypeId × Value → H} {W : World} {base : Nat} {v : Value} {d : DataW H} {p : List MemPlace} (ts te : TypeId) (hu : P.underlying ts = some (.slice te)) (hC : P.cellsOf te = E.n) (x0 : α)
    (hel : ∀ (n : Nat) (cs : List Value) (x : DataW H × List MemPlace), DataW.trod enc P W 0 (fun _ => true) true n te cs = some x → ∃ y, cs = E.c y)
    (hv : Value.okWide P W .any base ts v) (h : DataW.Trod enc P W 0 (fun _ => true) true ts v d p) : ∃ L, GS E W v L := by
  obtain ⟨a0, len0, cap0, rfl⟩ := okWide_slice hu hv
  obtain ⟨fuel, hf⟩ := h
  have hf2 : DataW.trod enc P W 0 (fun _ => true) true fuel ts [.slice a0 len0 cap0] = some (d, p) := hf
  rcases Go.Deep.open_slice hu hf2 with ⟨hc, hx⟩ | ⟨a, len, cap, m, k, D, Pl, hc, _, hl, hm, hmm, hx, hall⟩
  · simp only [List.cons.injEq, and_true, Value.slice.injEq] at hc
    obtain ⟨rfl, rfl, rfl⟩ := hc
    exact ⟨[], .inl ⟨none, 0, rfl, rfl⟩⟩
  · simp only [List.cons.injEq, and_true, Value.slice.injEq] at hc
    obtain ⟨rfl, rfl, rfl⟩ := hc
    simp only [if_true] at hmm
    subst hmm
    rcases Nat.eq_zero_or_pos len0 with h0 | h0
    · subst h0
      exact ⟨[], .inl ⟨_, _, rfl, rfl⟩⟩
    · have each : ∀ i, i < m → ∃ y : α, ∀ j, j < E.n → W.cell? (a.add (i * E.n + j)) = (E.c y)[j]? := by
        intro i hi
        obtain ⟨cs, h1, h2⟩ := hall i hi
        rw [hC] at h1
        obtain ⟨_, hlen, hcell⟩ := World.cells?_some h1
        obtain ⟨y, rfl⟩ := hel _ _ _ h2
        refine ⟨y, fun j hj => ?_⟩
        have := hcell j (by omega)
        rw [Go.Deep.add_add] at this
        exact this
      have iR : Inhabited α := ⟨x0⟩
      obtain ⟨R, hR⟩ := Go.Deep.choose_lt each
      obtain ⟨sb, so, spot⟩ := a
      have hspot : spot = none := by
        have h1 := hR 0 (by omega) 0 E.pos
        have h2 : (E.c (R 0))[0]?.isSome = true := by
          rw [List.getElem?_eq_getElem (by rw [E.len]; exact E.pos)]
          rfl
        obtain ⟨u, hu2⟩ := Option.isSome_iff_exists.1 h2
        rw [hu2] at h1
        simpa [Addr.add] using World.cell?_spot h1
      subst hspot
      have hadd : ∀ j, (⟨sb, so, none⟩ : Addr).add j = ⟨sb, so + j, none⟩ := by
        intro j
        simp only [Addr.add]
        first
          | rfl
          | (split
             · next h0 => rw [h0]; rfl
             · rfl)
      refine ⟨(List.range len0).map R, .inr ⟨sb, so, _, by simp, by simpa using hl, hm, fun i hi j u hu2 => ?_⟩⟩
      have hi2 : i < len0 := by simpa using hi
      have e : ((List.range len0).map R)[i] = R i := by simp
      rw [e] at hu2
      have hj : j < E.n := by
        have := (List.getElem?_eq_some_iff.1 hu2).1
        rw [E.len] at this
        exact this
      have hc := hR i (by omega) j hj
      rw [hadd, hu2, ← Nat.add_assoc] at hc
      exact hc
end
end Go.Proofs.Ytfbocionnjlilad
/- Classes of numbers by what a function says of them, in plain lists. No program in it. -/
namespace Go.Proofs.Ytfbocionnjlilad
open Go.RowKit
set_option linter.unusedVariables false

/-- The place of the class of k among what was said of the classes so far; -1: none. -/
def ixC (f : Int → List Int) (k : Int) (Ps : List (List Int)) : Int := ixG (fun p => p == f k) Ps
/-- The classes of the first k numbers, and what the function says of each. -/
def kcTo (f : Int → List Int) : Nat → List (List Int) × List (List Int)
  | 0 => ([], [])
  | k + 1 =>
    if ixC f k (kcTo f k).2 < 0 then ((kcTo f k).1 ++ [[(k : Int)]], (kcTo f k).2 ++ [f k])
    else ((kcTo f k).1.set (ixC f k (kcTo f k).2).toNat ((kcTo f k).1.getD (ixC f k (kcTo f k).2).toNat [] ++ [(k : Int)]), (kcTo f k).2)
theorem ixG_lt {α : Type} {q : α → Bool} {L : List α} (h : 0 ≤ ixG q L) : (ixG q L).toNat < L.length ∧ ∀ (hl : (ixG q L).toNat < L.length), q L[(ixG q L).toNat] = true := by
  unfold ixG at h ⊢
  cases e : L.any q
  · rw [e] at h
    simp at h
  · simp only [if_true, Int.toNat_natCast]
    have h1 : ∃ x, x ∈ L ∧ q x = true := by
      rw [List.any_eq_true] at e
      exact e
    have h2 := List.findIdx_lt_length.2 h1
    exact ⟨h2, fun hl => List.findIdx_getElem (w := hl)⟩
theorem ixG_neg {α : Type} {q : α → Bool} {L : List α} (h : ixG q L < 0) : ∀ x ∈ L, q x = false := by
  unfold ixG at h
  cases e : L.any q
  · rw [List.any_eq_false] at e
    intro x hx
    simpa using e x hx
  · rw [e] at h
    simp at h
    omega
theorem kc_yes {f : Int → List Int} {k : Nat} (h : ixC f k (kcTo f k).2 < 0) : kcTo f (k + 1) = ((kcTo f k).1 ++ [[(k : Int)]], (kcTo f k).2 ++ [f k]) := by rw [kcTo, if_pos h]
theorem kc_no {f : Int → List Int} {k : Nat} (h : ¬ ixC f k (kcTo f k).2 < 0) : kcTo f (k + 1) = ((kcTo f k).1.set (ixC f k (kcTo f k).2).toNat ((kcTo f k).1.getD (ixC f k (kcTo f k).2).toNat [] ++ [(k : Int)]), (kcTo f k).2) := by rw [kcTo, if_neg h]
theorem kc_len (f : Int → List Int) : ∀ k : Nat, (kcTo f k).1.length = (kcTo f k).2.length ∧ (kcTo f k).2.length ≤ k
  | 0 => by simp [kcTo]
  | k + 1 => by
    have ih := kc_len f k
    by_cases h : ixC f k (kcTo f k).2 < 0
    · rw [kc_yes h]
      simp only [List.length_append, List.length_cons, List.length_nil]
      omega
    · rw [kc_no h]
      simp only [List.length_set]
      omega
theorem kc_mem (f : Int → List Int) : ∀ (k : Nat) (p : List Int), p ∈ (kcTo f k).2 ↔ ∃ x : Nat, x < k ∧ p = f x
  | 0, p => by simp [kcTo]
  | k + 1, p => by
    have ih := kc_mem f k
    by_cases h : ixC f k (kcTo f k).2 < 0
    · rw [kc_yes h]
      simp only [List.mem_append, List.mem_singleton, ih]
      constructor
      · rintro (⟨x, h1, h2⟩ | h1)
        · exact ⟨x, by omega, h2⟩
        · exact ⟨k, by omega, h1⟩
      · rintro ⟨x, h1, h2⟩
        by_cases hx : x = k
        · subst hx; exact .inr h2
        · exact .inl ⟨x, by omega, h2⟩
    · rw [kc_no h]
      simp only [ih]
      constructor
      · rintro ⟨x, h1, h2⟩
        exact ⟨x, by omega, h2⟩
      · rintro ⟨x, h1, h2⟩
        by_cases hx : x = k
        · subst hx
          obtain ⟨j1, j2⟩ := ixG_lt (Int.not_lt.1 h)
          have j3 := eq_of_beq (j2 j1)
          rw [h2, ← j3]
          exact (ih _).1 (List.getElem_mem j1)
        · exact ⟨x, by omega, h2⟩
theorem kc_nd (f : Int → List Int) : ∀ (k : Nat), (kcTo f k).2.Nodup
  | 0 => by simp [kcTo]
  | k + 1 => by
    have ih := kc_nd f k
    by_cases h : ixC f k (kcTo f k).2 < 0
    · rw [kc_yes h]
      simp only [List.nodup_append]
      refine ⟨ih, by simp, ?_⟩
      intro a ha b hb hab
      simp at hb
      subst hb hab
      have := ixG_neg h _ ha
      simp at this
    · rw [kc_no h]
      exact ih
theorem nd_at {α : Type} {L : List α} (h : L.Nodup) {i j : Nat} {x : α} (hi : L[i]? = some x) (hj : L[j]? = some x) : i = j := by
  obtain ⟨i1, i2⟩ := List.getElem?_eq_some_iff.1 hi
  obtain ⟨j1, j2⟩ := List.getElem?_eq_some_iff.1 hj
  have := List.pairwise_iff_getElem.1 h
  rcases Nat.lt_trichotomy i j with h6 | h6 | h6
  · exact absurd (i2.trans j2.symm) (this i j i1 j1 h6)
  · exact h6
  · exact absurd (j2.trans i2.symm) (this j i j1 i1 h6)
/-- Those of the first k numbers of which this is said. -/
def saidL (f : Int → List Int) (k : Nat) (p : List Int) : List Int := ((List.range k).filter (fun (x : Nat) => f x == p)).map (fun (x : Nat) => (x : Int))
theorem said_next (f : Int → List Int) (k : Nat) (p : List Int) : saidL f (k + 1) p = saidL f k p ++ (if f k = p then [(k : Int)] else []) := by
  unfold saidL
  rw [List.range_succ, List.filter_append, List.map_append]
  by_cases h : f k = p
  · rw [if_pos h]; simp [h]
  · rw [if_neg h]; simp [h]
/-- What is so of the classes: the numbers of the i-th one are those of which the i-th thing is said. -/
theorem kc_said (f : Int → List Int) : ∀ (k i : Nat) (p : List Int), (kcTo f k).2[i]? = some p → (kcTo f k).1[i]? = some (saidL f k p)
  | 0, i, p, h => by simp [kcTo] at h
  | k + 1, i, p, hp => by
    have hl := kc_len f k
    have ih := kc_said f k i
    by_cases h : ixC f k (kcTo f k).2 < 0
    · rw [kc_yes h] at hp ⊢
      have hno := ixG_neg h
      by_cases hi : i < (kcTo f k).2.length
      · simp only [List.getElem?_append_left hi] at hp
        simp only [List.getElem?_append_left (show i < (kcTo f k).1.length by omega)]
        rw [ih p hp, said_next, if_neg, List.append_nil]
        intro h3
        have := hno p (List.mem_of_getElem? hp)
        simp [h3] at this
      · have hi2 : i = (kcTo f k).2.length := by
          have := (List.getElem?_eq_some_iff.1 hp).1
          simp at this
          omega
        subst hi2
        simp at hp
        subst hp
        have e : (kcTo f k).2.length = (kcTo f k).1.length := hl.1.symm
        rw [e]
        simp only [List.getElem?_concat_length, Option.some.injEq, said_next, if_true]
        have : saidL f k (f k) = [] := by
          unfold saidL
          rw [List.map_eq_nil_iff, List.filter_eq_nil_iff]
          intro x hx h3
          simp at hx h3
          have hm := (kc_mem f k (f x)).2 ⟨x, hx, rfl⟩
          have := hno _ hm
          simp [h3] at this
        rw [this]
        rfl
    · have hnd := kc_nd f k
      rw [kc_no h] at hp ⊢
      simp only at hp ⊢
      obtain ⟨j1, j2⟩ := ixG_lt (Int.not_lt.1 h)
      have j3 := eq_of_beq (j2 j1)
      have j5 : (kcTo f k).2[(ixC f k (kcTo f k).2).toNat]? = some (f k) := by
        show (kcTo f k).2[(ixG (fun p => p == f k) (kcTo f k).2).toNat]? = _
        rw [List.getElem?_eq_getElem j1, j3]
      have j6 : (ixC f k (kcTo f k).2).toNat < (kcTo f k).2.length := j1
      generalize (ixC f k (kcTo f k).2).toNat = j at j5 j6
      by_cases hij : j = i
      · subst hij
        rw [hp] at j5
        cases j5
        have h1 := ih _ hp
        have h2 : (kcTo f k).1.getD j [] = saidL f k (f k) := by rw [List.getD, h1]; rfl
        rw [List.getElem?_set_self (by omega), h2, said_next, if_pos rfl]
      · rw [List.getElem?_set_ne hij, ih p hp, said_next, if_neg, List.append_nil]
        intro h3
        rw [← h3] at hp
        exact hij (nd_at hnd j5 hp)
theorem kc_row (f : Int → List Int) (k i : Nat) (h1 : i < (kcTo f k).1.length) (h2 : i < (kcTo f k).2.length) : (kcTo f k).1[i] = ((List.range k).filter (fun (x : Nat) => f x == (kcTo f k).2[i])).map (fun (x : Nat) => (x : Int)) := by
  have := kc_said f k i _ (List.getElem?_eq_getElem h2)
  rw [List.getElem?_eq_getElem h1] at this
  exact Option.some.inj this
/-- A number is in the i-th class just if the i-th thing is said of it. -/
theorem kc_in {f : Int → List Int} {k i : Nat} (h1 : i < (kcTo f k).1.length) (h2 : i < (kcTo f k).2.length) {x : Int} : x ∈ (kcTo f k).1[i] ↔ ∃ y : Nat, y < k ∧ x = y ∧ f y = (kcTo f k).2[i] := by
  rw [kc_row f k i h1 h2]
  simp only [List.mem_map, List.mem_filter, List.mem_range, beq_iff_eq]
  constructor
  · rintro ⟨y, ⟨h3, h4⟩, rfl⟩
    exact ⟨y, h3, rfl, h4⟩
  · rintro ⟨y, h3, rfl, h4⟩
    exact ⟨y, ⟨h3, h4⟩, rfl⟩
theorem kc_size {f : Int → List Int} {k i : Nat} (h1 : i < (kcTo f k).1.length) : 0 < (kcTo f k).1[i].length ∧ (kcTo f k).1[i].length ≤ k := by
  have h2 : i < (kcTo f k).2.length := by have := kc_len f k; omega
  constructor
  · obtain ⟨x, hx, he⟩ := (kc_mem f k _).1 (List.getElem_mem h2)
    exact List.length_pos_of_mem ((kc_in h1 h2).2 ⟨x, hx, rfl, he.symm⟩)
  · rw [kc_row f k i h1 h2, List.length_map]
    exact Nat.le_trans (List.length_filter_le _ _) (by simp)
theorem kc_sizes {f : Int → List Int} {k : Nat} : ∀ C ∈ (kcTo f k).1, 0 < C.length ∧ C.length ≤ k := by
  intro C hC
  obtain ⟨i, hi, rfl⟩ := List.getElem_of_mem hC
  exact kc_size hi
/-- How often a number is there when one row has one more. -/
theorem count_set (x y : Int) : ∀ (L : List (List Int)) (i : Nat), i < L.length → (L.set i (L.getD i [] ++ [y])).flatten.count x = L.flatten.count x + if y = x then 1 else 0
  | [], i, h => by simp at h
  | a :: l, 0, _ => by
    simp only [List.set_cons_zero, List.getD_cons_zero, List.flatten_cons, List.count_append, List.count_singleton, beq_iff_eq]
    omega
  | a :: l, i + 1, h => by
    have := count_set x y l i (by simpa using h)
    simp only [List.set_cons_succ, List.getD_cons_succ, List.flatten_cons, List.count_append]
    rw [this]
    omega
/-- Each number is there once. -/
theorem kc_count (f : Int → List Int) (x : Int) : ∀ k : Nat, (kcTo f k).1.flatten.count x = if 0 ≤ x ∧ x < k then 1 else 0
  | 0 => by
    simp only [kcTo]
    rw [if_neg (by omega)]
    rfl
  | k + 1 => by
    have ih := kc_count f x k
    have key : (kcTo f (k + 1)).1.flatten.count x = (kcTo f k).1.flatten.count x + if (k : Int) = x then 1 else 0 := by
      by_cases h : ixC f k (kcTo f k).2 < 0
      · rw [kc_yes h]
        simp only [List.flatten_append, List.count_append, List.flatten_cons, List.flatten_nil, List.append_nil, List.count_singleton, beq_iff_eq]
      · rw [kc_no h]
        obtain ⟨j1, _⟩ := ixG_lt (Int.not_lt.1 h)
        have := kc_len f k
        exact count_set x k _ _ (by unfold ixC; omega)
    rw [key, ih]
    by_cases h1 : (k : Int) = x
    · rw [if_pos h1, if_neg (by omega), if_pos (by omega)]
    · rw [if_neg h1]
      by_cases h2 : 0 ≤ x ∧ x < (k : Int)
      · rw [if_pos h2, if_pos (by omega)]
      · rw [if_neg h2, if_neg (by omega)]
/-- The least of the first k. -/
def mnTo (L : List Int) : Nat → Int
  | 0 => 0
  | k + 1 => if k = 0 ∨ L.getD k 0 < mnTo L k then L.getD k 0 else mnTo L k
theorem mn_mem {L : List Int} : ∀ k, 0 < k → k ≤ L.length → mnTo L k ∈ L
  | 0, h, _ => by omega
  | k + 1, _, h => by
    have e : L.getD k 0 ∈ L := by
      rw [show L.getD k 0 = L[k] by simp [List.getD, show k < L.length by omega]]
      exact List.getElem_mem _
    rw [mnTo]
    split
    · exact e
    · next h1 => exact mn_mem k (by omega) (by omega)
/-- The place of the first list that has a number, the fault and the answer of Rep. -/
def hasL (h : Int) (C : List Int) : Bool := C.any (fun x => x == h)
def rpI (Ls : List (List Int)) (h : Int) : Int := ixG (hasL h) Ls
def rpN (Ls : List (List Int)) (h : Int) : Int := if rpI Ls h < 0 then 5 else 0
def rpV (Ls : List (List Int)) (h : Int) : Int := if rpI Ls h < 0 then 0 else mnTo (Ls.getD (rpI Ls h).toNat []) (Ls.getD (rpI Ls h).toNat []).length
theorem hasL_iff {h : Int} {C : List Int} : hasL h C = true ↔ h ∈ C := by
  simp [hasL]
/-- The first number's class: which thing is said of it, which is its least one. -/
theorem rp_of {f : Int → List Int} {k : Nat} {h : Int} (h0 : 0 ≤ h) (h1 : h < k) : ∃ i, ∃ (hi : i < (kcTo f k).1.length) (hj : i < (kcTo f k).2.length), rpN (kcTo f k).1 h = 0 ∧ rpV (kcTo f k).1 h = mnTo (kcTo f k).1[i] (kcTo f k).1[i].length ∧ f h = (kcTo f k).2[i] ∧ rpV (kcTo f k).1 h ∈ (kcTo f k).1[i] := by
  obtain ⟨y, rfl⟩ := Int.eq_ofNat_of_zero_le h0
  have hy : y < k := by omega
  obtain ⟨i, hi, he⟩ := List.getElem_of_mem ((kc_mem f k (f y)).2 ⟨y, hy, rfl⟩)
  have hi1 : i < (kcTo f k).1.length := by have := kc_len f k; omega
  have hin : (y : Int) ∈ (kcTo f k).1[i] := (kc_in hi1 hi).2 ⟨y, hy, rfl, he.symm⟩
  have hpos : 0 ≤ rpI (kcTo f k).1 y := by
    rcases Int.lt_or_le (rpI (kcTo f k).1 y) 0 with h2 | h2
    · have := ixG_neg h2 _ (List.getElem_mem hi1)
      rw [hasL_iff.2 hin] at this
      cases this
    · exact h2
  obtain ⟨j1, j2⟩ := ixG_lt hpos
  have j3 := hasL_iff.1 (j2 j1)
  have j4 : (ixG (hasL (y : Int)) (kcTo f k).1).toNat < (kcTo f k).2.length := by have := kc_len f k; omega
  obtain ⟨z, hz1, hz2, hz3⟩ := (kc_in j1 j4).1 j3
  have hzy : z = y := by omega
  subst hzy
  have eV : rpV (kcTo f k).1 z = mnTo (kcTo f k).1[(ixG (hasL (z : Int)) (kcTo f k).1).toNat] (kcTo f k).1[(ixG (hasL (z : Int)) (kcTo f k).1).toNat].length := by
    unfold rpV
    rw [if_neg (by omega)]
    have : (kcTo f k).1.getD (rpI (kcTo f k).1 z).toNat [] = (kcTo f k).1[(ixG (hasL (z : Int)) (kcTo f k).1).toNat] := by
      show (kcTo f k).1.getD (ixG (hasL (z : Int)) (kcTo f k).1).toNat [] = _
      simp only [List.getD, List.getElem?_eq_getElem j1, Option.getD_some]
    rw [this]
  refine ⟨_, j1, j4, ?_, eV, hz3, ?_⟩
  · unfold rpN
    rw [if_neg (by omega)]
  · rw [eV]
    exact mn_mem _ (kc_size j1).1 (Nat.le_refl _)
/-- ALIKE IS ALIKE: two have one least just if the same is said of both. -/
theorem rp_same {f : Int → List Int} {k : Nat} {h o : Int} (h0 : 0 ≤ h) (h1 : h < k) (o0 : 0 ≤ o) (o1 : o < k) : rpV (kcTo f k).1 h = rpV (kcTo f k).1 o ↔ f h = f o := by
  obtain ⟨i, i1, i2, _, i3, i4, i5⟩ := rp_of (f := f) h0 h1
  obtain ⟨j, j1, j2, _, j3, j4, j5⟩ := rp_of (f := f) o0 o1
  constructor
  · intro he
    rw [he] at i5
    obtain ⟨y, _, e1, e2⟩ := (kc_in i1 i2).1 i5
    obtain ⟨z, _, e3, e4⟩ := (kc_in j1 j2).1 j5
    have : y = z := by omega
    rw [i4, j4, ← e2, ← e4, this]
  · intro he
    have hij : i = j := by
      rw [i4, j4] at he
      exact nd_at (kc_nd f k) (List.getElem?_eq_getElem i2) (by rw [List.getElem?_eq_getElem j2, he])
    subst hij
    rw [i3, j3]
theorem nd_sub {α : Type} [BEq α] [LawfulBEq α] : ∀ {A B : List α}, A.Nodup → A ⊆ B → A.length ≤ B.length
  | [], _, _, _ => by simp
  | a :: A, B, h, hs => by
    have ha : a ∈ B := hs List.mem_cons_self
    have h1 : A ⊆ B.erase a := fun x hx => (List.mem_erase_of_ne (by rintro rfl; exact (List.nodup_cons.1 h).1 hx)).2 (hs (List.mem_cons_of_mem _ hx))
    have h2 := nd_sub (List.nodup_cons.1 h).2 h1
    rw [List.length_erase_of_mem ha] at h2
    have h3 := List.length_pos_of_mem ha
    simp only [List.length_cons]
    omega
/-- Of two functions of which the second says what the first says, or one thing more: it has one class more at most. -/
theorem kc_few {f g : Int → List Int} {k : Nat} (q : List Int) (h : ∀ x : Nat, x < k → g x = f x ∨ g x = q) : (kcTo g k).1.length ≤ (kcTo f k).1.length + 1 := by
  rw [(kc_len g k).1, (kc_len f k).1]
  have hsub : (kcTo g k).2 ⊆ q :: (kcTo f k).2 := by
    intro p hp
    obtain ⟨x, hx, rfl⟩ := (kc_mem g k p).1 hp
    rcases h x hx with e | e
    · rw [e]
      exact List.mem_cons_of_mem _ ((kc_mem f k _).2 ⟨x, hx, rfl⟩)
    · rw [e]
      exact List.mem_cons_self
  have := nd_sub (kc_nd g k) hsub
  simpa using this
theorem kc_pos {f : Int → List Int} {k : Nat} (hk : 0 < k) : 1 ≤ (kcTo f k).1.length := by
  have := (kc_mem f k (f (0 : Nat))).2 ⟨0, hk, rfl⟩
  have := List.length_pos_of_mem this
  have := kc_len f k
  omega
end Go.Proofs.Ytfbocionnjlilad
/- Lists of lists of numbers: where they lie, and such that a call owns, each in a block of its own. No program in it. -/
namespace Go.Proofs.Ytfbocionnjlilad
open Go.RowKit
set_option linter.unusedVariables false
set_option linter.unusedSimpArgs false

/-- Numbers, a cell each. -/
def inE : Enc Int where
  c := fun x => [.int .i64 x]
  n := 1
  len := fun _ => rfl
  pos := by decide
  one := by
    intro x u hu
    simp at hu
    subst hu
    rfl
theorem in_cells (L : List Int) : cellsG inE L = L.map (Value.int .i64) := by
  induction L with
  | nil => rfl
  | cons x r ih =>
    simp only [cellsG, List.flatMap_cons, List.map_cons] at *
    rw [ih]
    rfl
theorem in_at {w : World} {g o : Nat} {L : List Int} (h : GAt inE w g o L) {n k : Nat} (hn : L.length = n) (hk : k < n) : ∃ (x : Int) (hl : k < L.length), L[k] = x ∧ w.cell? ⟨g, o + k, none⟩ = some (.int .i64 x) := by
  have hl : k < L.length := by omega
  have := h k hl 0 _ rfl
  refine ⟨_, hl, rfl, ?_⟩
  have e : o + k * inE.n + 0 = o + k := by show o + k * 1 + 0 = o + k; omega
  rw [e] at this
  exact this
/-- A slice's three parts. -/
abbrev SlT : Type := Option Addr × Nat × Nat
def slV (x : SlT) : Value := .slice x.1 x.2.1 x.2.2
def slE : Enc SlT where
  c := fun x => [slV x]
  n := 1
  len := fun _ => rfl
  pos := by decide
  one := by
    intro x u hu
    simp at hu
    subst hu
    rfl
theorem sl_cells (L : List SlT) : cellsG slE L = L.map slV := by
  induction L with
  | nil => rfl
  | cons x r ih =>
    simp only [cellsG, List.flatMap_cons, List.map_cons] at *
    rw [ih]
    rfl
/-- These lists lie one behind the other. -/
def ILAt (w : World) (g o : Nat) (Ls : List (List Int)) : Prop := ∀ i (h : i < Ls.length), ∃ ao n cap, w.cell? ⟨g, o + i, none⟩ = some (.slice ao n cap) ∧ GS inE w (.slice ao n cap) Ls[i]
theorem ILAt.later {w w' : World} {g o : Nat} {Ls : List (List Int)} (h : ILAt w g o Ls) (hb : Below w.heap.size w w') : ILAt w' g o Ls := fun i hi => by
  obtain ⟨ao, n, cap, h1, h2⟩ := h i hi
  exact ⟨ao, n, cap, cell_later hb h1, h2.later hb⟩
/-- A value is a slice of these lists. -/
def ILS (w : World) (v : Value) (Ls : List (List Int)) : Prop :=
  (∃ ao cap, v = .slice ao 0 cap ∧ Ls = []) ∨ ∃ g o cap, v = .slice (some ⟨g, o, none⟩) Ls.length cap ∧ Ls.length ≤ cap ∧ cap ≤ maxLen ∧ ILAt w g o Ls
theorem ILS.later {w w' : World} {v : Value} {Ls : List (List Int)} (h : ILS w v Ls) (hb : Below w.heap.size w w') : ILS w' v Ls := by
  rcases h with h | ⟨g, o, cap, h1, h2, h3, h4⟩
  · exact .inl h
  · exact .inr ⟨g, o, cap, h1, h2, h3, h4.later hb⟩
theorem ILS.nil (w : World) : ILS w (.slice none 0 0) [] := .inl ⟨none, 0, rfl, rfl⟩
theorem ILS.form {w : World} {v : Value} {Ls : List (List Int)} (h : ILS w v Ls) : ∃ ao n cap, v = .slice ao n cap ∧ Ls.length = n ∧ n ≤ maxLen ∧ n ≤ cap ∧ (0 < n → ∃ g o, ao = some ⟨g, o, none⟩ ∧ ILAt w g o Ls ∧ cap ≤ maxLen) := by
  rcases h with ⟨ao, cap, rfl, rfl⟩ | ⟨g, o, cap, rfl, h1, h2, h3⟩
  · exact ⟨ao, 0, cap, rfl, rfl, Nat.zero_le _, Nat.zero_le _, fun h => absurd h (by omega)⟩
  · exact ⟨_, _, cap, rfl, rfl, Nat.le_trans h1 h2, h1, fun _ => ⟨g, o, rfl, h3, h2⟩⟩
/-- The k-th of such a list. -/
theorem ILAt.at {w : World} {g o : Nat} {Ls : List (List Int)} (h : ILAt w g o Ls) {n k : Nat} (hn : Ls.length = n) (hk : k < n) : ∃ ao m cap, w.cell? ⟨g, o + k, none⟩ = some (.slice ao m cap) ∧ GS inE w (.slice ao m cap) (Ls.getD k []) := by
  have hl : k < Ls.length := by omega
  obtain ⟨ao, m, cap, h1, h2⟩ := h k hl
  refine ⟨ao, m, cap, h1, ?_⟩
  rw [show Ls.getD k [] = Ls[k] by simp [List.getD, hl]]
  exact h2

/-- Two rows of two kinds lie in two blocks. -/
theorem own_rows2 {w : World} {b1 e1 s1 n1 b2 e2 s2 n2 : Nat} {v1 v2 : Value} {x1 x2 : List Value} (h1 : w.ownsRow b1 e1 s1 v1 n1 x1) (h2 : w.ownsRow b2 e2 s2 v2 n2 x2) (he : e1 ≠ e2) : v1.ownBlock = none ∨ v1.ownBlock ≠ v2.ownBlock := by
  rcases h1.2 with ⟨rfl, _⟩ | ⟨g, cap, cur, rfl, _, hg, _⟩
  · exact .inl rfl
  · refine .inr ?_
    rcases h2.2 with ⟨rfl, _⟩ | ⟨g2, cap2, cur2, rfl, _, hg2, _⟩
    · exact fun h => by cases h
    · intro h
      simp only [Value.ownBlock, Option.some.injEq] at h
      subst h
      rw [hg] at hg2
      simp only [Option.some.injEq, Obj.cells.injEq] at hg2
      exact he hg2.2.1
theorem grown_below {w w' : World} (hb : Below w.heap.size w w') : w.grownBy w' none := ⟨hb.os, hb.tape, hb.output, hb.size, fun k hk _ => hb.block k hk⟩
theorem grown_set (w : World) (b i : Nat) (v : Value) : w.grownBy (w.setCell ⟨b, i, none⟩ v) (some b) :=
  ⟨rfl, rfl, rfl, by simp [World.setCell], fun k _ hk => Below.heap_setCell _ _ _ _ (fun e => hk (by simp [e]))⟩
theorem none_or (o : Option Nat) : o = none ∨ o ≠ none := by cases o <;> simp
/-- Where a row lies behind one more thing: where it lay, or in a new block. -/
theorem run_append_blk {P : Program} {w : World} {base : Nat} (t ty e : TypeId) (i : TypeInfo) (z : Value) (ht : P.underlying t = some (.slice e)) (hi : P.info? e = some i) (hz : i.zero = some z)
    (v : Value) (n : Nat) (xs : List Value) (hown : w.ownsRow base e i.size v n xs)
    (a : Addr) (c : Nat) (news : List Value) (hl : news.length = 1 * i.size) (hnews : ∀ j u, news[j]? = some u → w.cell? (a.add j) = some u) (h1 : ∀ u ∈ news, u.oneCell' = true)
    (h63 : n + 1 ≤ maxLen) (hbytes : (n + 1) * i.bytes ≤ 140737488355328) {v' : Value} {w' : World} (hr : (Builtin.append_ #[t, t] ty #[v, .slice (some a) 1 c]).run P w = .ok v' w') : v'.ownBlock = v.ownBlock ∨ v'.ownBlock = some w.heap.size := by
  have hm : n + 1 ≤ 9223372036854775807 := by simp only [maxLen] at h63; omega
  rcases hown.2 with ⟨rfl, rfl⟩ | ⟨g, cap, cur, rfl, hbg, hg, hnc, hcm, hcs, htake⟩
  · rw [run_append_nil (P := P) w t ty e i z ht hi hz a 1 c news hl hnews (by omega) (by omega) (by have hb := hbytes; simp only [Nat.zero_add] at hb; omega)] at hr
    cases hr
    exact .inr rfl
  · by_cases hroom : n + 1 ≤ cap
    · have hfit : n * i.size + news.length ≤ cur.size := by rw [hl, hcs, ← Nat.add_mul]; exact Nat.mul_le_mul_right _ hroom
      rw [run_append_room (P := P) w t ty e i ht hi g n cap cur hg a 1 c news hl hnews h1 hroom hfit] at hr
      cases hr
      exact .inl rfl
    · rw [run_append_grow (P := P) w t ty e i z ht hi hz ⟨g, 0, none⟩ n cap xs hown.1 (hown.cells (g := g) rfl) a 1 c news hl hnews (by omega) (by omega) (growslice_fits (by omega) hbytes)] at hr
      cases hr
      exact .inr rfl
/-- Appending one thing to a row that a call owns: where the row lies then. -/
theorem wpList_append_blk {P : Program} {α : Type} {E : Enc α} (w : World) {ops : Array Oper} {rest : List Oper} {o : Oper} {a : Act} {Q : Exit → Act → World → Prop} (hgd : o.guard = none) (s x : Operand) (t e : TypeId)
    (ho : o.op = .call { callee := .builtin .append, args := #[s, x], argTypes := #[t, t] }) (ht : P.underlying t = some (.slice e)) (i : TypeInfo) (z : Value) (bytes : Nat) (hi : P.info? e = some i) (hz : i.zero = some z)
    (hsize : i.size = E.n) (hby : i.bytes = bytes) (hzs : z.cells.size = E.n) (base : Nat)
    (v : Value) (hs : a.eval s = v) (L : List α) (hown : w.ownsRow base e E.n v L.length (cellsG E L)) (g q c : Nat) (hx : a.eval x = .slice (some ⟨g, q, none⟩) 1 c) (y : α) (hM : VAt w g q (E.c y))
    (h63 : L.length + 1 ≤ maxLen) (hbytes : (L.length + 1) * bytes ≤ 140737488355328) (hbase : base ≤ w.heap.size)
    (h : ∀ v' w', w'.ownsRow base e E.n v' (L ++ [y]).length (cellsG E (L ++ [y])) → w.grownBy w' v.ownBlock → v'.ownBlock = v.ownBlock ∨ v'.ownBlock = some w.heap.size → wpList P ops Q rest (a.put o.dst v') w') : wpList P ops Q (o :: rest) a w := by
  have hG : GAt E w g q [y] := by
    intro k hk
    obtain rfl : k = 0 := by simp at hk; omega
    simpa using hM
  have hc := hG.cells
  rw [cellsG_one] at hc
  have hl : (E.c y).length = 1 * E.n := by rw [E.len]; omega
  obtain ⟨v', w', hr, h2, h3, _⟩ := run_append_own (P := P) w base t o.type e i z E.n bytes ht hi hz hsize hby hzs E.pos v _ _ hown ⟨g, q, none⟩ 1 c (E.c y) hl hc (E.one y) h63 hbytes hbase
  have hb := run_append_blk (P := P) t o.type e i z ht hi hz v _ _ (by rw [hsize]; exact hown) ⟨g, q, none⟩ c (E.c y) (by rw [hsize]; exact hl) hc (E.one y) h63 (by rw [hby]; exact hbytes) hr
  refine wpList_plain hgd fun K hK => ?_
  unfold Oper.wp execOp
  simp only [ho, resolve, invoke, builtin, Sem.run_bind, Sem.run_pure, Result.andThen_ok, List.map_toArray, List.map_cons, List.map_nil, hs, hx, hr]
  exact hK _ _ (h v' w' (by rw [List.length_append, cellsG_app, cellsG_one]; exact h2) h3 hb)

/-- Two lists of lists that a call owns (the classes, and what is said of each), each list in a block of its own. -/
structure CP (e1 e2 : TypeId) (w : World) (B : Nat) (v u : Value) (vs us : List SlT) (Cs Ps : List (List Int)) : Prop where
  ov : w.ownsRow B e2 slE.n v vs.length (cellsG slE vs)
  ou : w.ownsRow B e2 slE.n u us.length (cellsG slE us)
  ne : v.ownBlock = none ∨ v.ownBlock ≠ u.ownBlock
  lv : vs.length = Cs.length
  lu : us.length = Ps.length
  rv : ∀ (i : Nat) (x : SlT) (L : List Int), vs[i]? = some x → Cs[i]? = some L → w.ownsRow B e1 inE.n (slV x) L.length (cellsG inE L)
  ru : ∀ (i : Nat) (x : SlT) (L : List Int), us[i]? = some x → Ps[i]? = some L → w.ownsRow B e1 inE.n (slV x) L.length (cellsG inE L)
  dd : ((vs ++ us).map fun x => (slV x).ownBlock).Nodup
section
variable {e1 e2 : TypeId} {w w' : World} {B : Nat} {v u : Value} {vs us : List SlT} {Cs Ps : List (List Int)}
theorem cp_nil (e1 e2 : TypeId) (w : World) (B : Nat) : CP e1 e2 w B (.slice none 0 0) (.slice none 0 0) [] [] [] [] :=
  ⟨World.ownsRow_nil w B e2 slE.n, World.ownsRow_nil w B e2 slE.n, .inl rfl, rfl, rfl, fun i x L h => by simp at h, fun i x L h => by simp at h, by simp⟩
theorem CP.keep (h : CP e1 e2 w B v u vs us Cs Ps) (hg : w.grownBy w' none) : CP e1 e2 w' B v u vs us Cs Ps :=
  ⟨h.ov.kept hg (none_or _), h.ou.kept hg (none_or _), h.ne, h.lv, h.lu, fun i x L h1 h2 => (h.rv i x L h1 h2).kept hg (none_or _), fun i x L h1 h2 => (h.ru i x L h1 h2).kept hg (none_or _), h.dd⟩
theorem CP.later (h : CP e1 e2 w B v u vs us Cs Ps) (hb : Below w.heap.size w w') : CP e1 e2 w' B v u vs us Cs Ps := h.keep (grown_below hb)
theorem CP.swap (h : CP e1 e2 w B v u vs us Cs Ps) : CP e1 e2 w B u v us vs Ps Cs := by
  refine ⟨h.ou, h.ov, ?_, h.lu, h.lv, h.ru, h.rv, ?_⟩
  · rcases h.ne with h1 | h1
    · rw [h1]; exact none_or _
    · exact .inr (Ne.symm h1)
  · have := h.dd
    rw [List.map_append] at this ⊢
    exact (List.perm_append_comm.nodup_iff).1 this
/-- All blocks of the lists are old ones. -/
theorem CP.old (h : CP e1 e2 w B v u vs us Cs Ps) : ∀ y ∈ vs ++ us, ∀ k, (slV y).ownBlock = some k → k < w.heap.size := by
  intro y hy k hk
  rcases List.mem_append.1 hy with hy | hy
  · obtain ⟨i, hi, rfl⟩ := List.getElem_of_mem hy
    have hi2 : i < Cs.length := by rw [← h.lv]; exact hi
    exact ((h.rv i _ _ (List.getElem?_eq_getElem hi) (List.getElem?_eq_getElem hi2)).lt k hk).2
  · obtain ⟨i, hi, rfl⟩ := List.getElem_of_mem hy
    have hi2 : i < Ps.length := by rw [← h.lu]; exact hi
    exact ((h.ru i _ _ (List.getElem?_eq_getElem hi) (List.getElem?_eq_getElem hi2)).lt k hk).2
/-- One list more. -/
theorem CP.push (h : CP e1 e2 w B v u vs us Cs Ps) (he : e1 ≠ e2) {x : SlT} {L : List Int} (hx : w.ownsRow B e1 inE.n (slV x) L.length (cellsG inE L)) (hnew : ∀ y ∈ vs ++ us, (slV y).ownBlock ≠ (slV x).ownBlock) {v' : Value}
    (hg : w.grownBy w' v.ownBlock) (ho : w'.ownsRow B e2 slE.n v' (vs ++ [x]).length (cellsG slE (vs ++ [x]))) (hb : v'.ownBlock = v.ownBlock ∨ v'.ownBlock = some w.heap.size) : CP e1 e2 w' B v' u (vs ++ [x]) us (Cs ++ [L]) Ps := by
  have hu : u.ownBlock = none ∨ u.ownBlock ≠ v.ownBlock := h.swap.ne
  have inner : ∀ {y : SlT} {M : List Int}, w.ownsRow B e1 inE.n (slV y) M.length (cellsG inE M) → w'.ownsRow B e1 inE.n (slV y) M.length (cellsG inE M) := fun hy => hy.kept hg (own_rows2 hy h.ov he)
  refine ⟨ho, h.ou.kept hg hu, ?_, by simp [h.lv], h.lu, ?_, fun i y M h1 h2 => inner (h.ru i y M h1 h2), ?_⟩
  · rcases hb with hb | hb
    · rw [hb]; exact h.ne
    · refine .inr ?_
      rw [hb]
      intro h3
      have := (h.ou.lt _ h3.symm).2
      omega
  · intro i y M h1 h2
    by_cases hi : i < vs.length
    · rw [List.getElem?_append_left hi] at h1
      rw [List.getElem?_append_left (by rw [← h.lv]; exact hi)] at h2
      exact inner (h.rv i y M h1 h2)
    · have hi2 : i = vs.length := by
        have := (List.getElem?_eq_some_iff.1 h1).1
        simp at this
        omega
      subst hi2
      simp at h1
      rw [h.lv] at h2
      simp at h2
      subst h1 h2
      exact inner hx
  · have hd := h.dd
    have hp : (((vs ++ [x]) ++ us).map fun x => (slV x).ownBlock).Perm ((slV x).ownBlock :: ((vs ++ us).map fun x => (slV x).ownBlock)) := by
      have : ((vs ++ [x]) ++ us).Perm (x :: (vs ++ us)) := by
        rw [List.append_assoc]
        exact List.perm_middle
      exact this.map _
    refine hp.nodup_iff.2 (List.nodup_cons.2 ⟨?_, hd⟩)
    intro hm
    obtain ⟨y, hy, he2⟩ := List.mem_map.1 hm
    exact hnew y hy he2
/-- One number more in one of the lists. -/
theorem CP.put (h : CP e1 e2 w B v u vs us Cs Ps) (he : e1 ≠ e2) {i : Nat} {x x' : SlT} {L' : List Int} (hx : vs[i]? = some x)
    (hg : w.grownBy w' (slV x).ownBlock) (ho : w'.ownsRow B e1 inE.n (slV x') L'.length (cellsG inE L')) (hb : (slV x').ownBlock = (slV x).ownBlock ∨ (slV x').ownBlock = some w.heap.size)
    {g n cap : Nat} (hv : v = .slice (some ⟨g, 0, none⟩) n cap) : CP e1 e2 (w'.setCell ⟨g, i, none⟩ (slV x')) B v u (vs.set i x') us (Cs.set i L') Ps := by
  have hiv : i < vs.length := (List.getElem?_eq_some_iff.1 hx).1
  have hiC : i < Cs.length := by rw [← h.lv]; exact hiv
  have hrow := h.rv i x _ hx (List.getElem?_eq_getElem hiC)
  have hxo : ∀ {y : Value} {n : Nat} {X : List Value}, w.ownsRow B e2 slE.n y n X → w'.ownsRow B e2 slE.n y n X := fun hy => hy.kept hg (own_rows2 hy hrow (Ne.symm he))
  have h1 := hxo h.ov
  have h2 := hxo h.ou
  subst hv
  have hgw : w'.grownBy (w'.setCell ⟨g, i, none⟩ (slV x')) (some g) := grown_set w' g i (slV x')
  have hug : u.ownBlock = none ∨ u.ownBlock ≠ some g := h.swap.ne
  have apart : ∀ {j : Nat} {y : SlT}, (vs ++ us)[j]? = some y → j ≠ i → (slV y).ownBlock ≠ (slV x).ownBlock := by
    intro j y hy hj heq
    have hd := h.dd
    have a1 : ((vs ++ us).map fun x => (slV x).ownBlock)[j]? = some (slV y).ownBlock := by rw [List.getElem?_map, hy]; rfl
    have a2 : ((vs ++ us).map fun x => (slV x).ownBlock)[i]? = some (slV y).ownBlock := by rw [List.getElem?_map, List.getElem?_append_left hiv, hx, heq]; rfl
    exact hj (nd_at hd a1 a2)
  have inner : ∀ {y : SlT} {M : List Int}, (slV y).ownBlock = none ∨ (slV y).ownBlock ≠ (slV x).ownBlock → w.ownsRow B e1 inE.n (slV y) M.length (cellsG inE M) → (w'.setCell ⟨g, i, none⟩ (slV x')).ownsRow B e1 inE.n (slV y) M.length (cellsG inE M) := by
    intro y M hne hy
    have hy' := hy.kept hg hne
    exact hy'.kept hgw (own_rows2 hy' h1 he)
  refine ⟨?_, h2.kept hgw hug, h.ne, by simp [h.lv], h.lu, ?_, ?_, ?_⟩
  · have hn : n = vs.length := by
      rcases h1.2 with ⟨h3, _⟩ | ⟨_, _, _, h3, _⟩
      · cases h3
      · simp only [Value.slice.injEq] at h3
        exact h3.2.1
    rw [List.length_set, sl_cells, List.map_set]
    rw [sl_cells, ← hn] at h1
    rw [← hn]
    exact (h1.stored _ _).1
  · intro j y M a1 a2
    by_cases hij : i = j
    · subst hij
      rw [List.getElem?_set_self hiv] at a1
      rw [List.getElem?_set_self hiC] at a2
      cases a1
      cases a2
      exact ho.kept hgw (own_rows2 ho h1 he)
    · rw [List.getElem?_set_ne hij] at a1 a2
      have hj : j < vs.length := (List.getElem?_eq_some_iff.1 a1).1
      exact inner (.inr (apart (j := j) (by rw [List.getElem?_append_left hj]; exact a1) (Ne.symm hij))) (h.rv j y M a1 a2)
  · intro j y M a1 a2
    exact inner (.inr (apart (j := vs.length + j) (by rw [List.getElem?_append_right (by omega)]; simpa using a1) (by omega))) (h.ru j y M a1 a2)
  · have hd := h.dd
    rw [List.Nodup, List.pairwise_iff_getElem] at hd ⊢
    have key : ∀ j (hj : j < (((vs.set i x') ++ us).map fun x => (slV x).ownBlock).length), (((vs.set i x') ++ us).map fun x => (slV x).ownBlock)[j] = if j = i then (slV x').ownBlock else ((vs ++ us).map fun x => (slV x).ownBlock)[j]'(by simpa using hj) := by
      intro j hj
      simp only [List.getElem_map, ← List.set_append_left _ _ hiv, List.getElem_set]
      by_cases e : i = j
      · subst e; simp
      · rw [if_neg e, if_neg (Ne.symm e)]
    have xin : ((vs ++ us).map fun x => (slV x).ownBlock)[i]'(by simp; omega) = (slV x).ownBlock := by
      have : ((vs ++ us).map fun x => (slV x).ownBlock)[i]? = some (slV x).ownBlock := by rw [List.getElem?_map, List.getElem?_append_left hiv, hx]; rfl
      obtain ⟨_, h3⟩ := List.getElem?_eq_some_iff.1 this
      exact h3
    have fresh : ∀ j (hj : j < ((vs ++ us).map fun x => (slV x).ownBlock).length), j ≠ i → ((vs ++ us).map fun x => (slV x).ownBlock)[j] ≠ (slV x').ownBlock := by
      intro j hj hji heq
      have hj2 : j < (vs ++ us).length := by simpa using hj
      rcases hb with hb | hb
      · have := apart (j := j) (y := (vs ++ us)[j]) (List.getElem?_eq_getElem hj2) hji
        rw [List.getElem_map] at heq
        exact this (heq.trans hb)
      · rw [List.getElem_map, hb] at heq
        have := h.old _ (List.getElem_mem hj2) _ heq
        omega
    intro a b ha hb' hab
    rw [key a ha, key b hb']
    by_cases ea : a = i
    · rw [if_pos ea, if_neg (by omega)]
      exact (fresh b (by simpa using hb') (by omega)).symm
    · rw [if_neg ea]
      by_cases eb : b = i
      · rw [if_pos eb]
        exact fresh a (by simpa using ha) ea
      · rw [if_neg eb]
        exact hd a b _ _ hab
/-- What such a call owns may be read. -/
theorem CP.ls (h : CP e1 e2 w B v u vs us Cs Ps) : ILS w v Cs := by
  rcases own_GS h.ov with ⟨ao, cap, rfl, h0⟩ | ⟨g, o, cap, rfl, h1, h2, h3⟩
  · refine .inl ⟨ao, cap, rfl, ?_⟩
    have := h.lv
    rw [h0] at this
    exact List.length_eq_zero_iff.1 this.symm
  · refine .inr ⟨g, o, cap, by rw [h.lv], by rw [← h.lv]; exact h1, h2, fun i hi => ?_⟩
    have hi2 : i < vs.length := by rw [h.lv]; exact hi
    have := h3 i hi2 0 _ rfl
    have e : o + i * slE.n + 0 = o + i := by show o + i * 1 + 0 = o + i; omega
    rw [e] at this
    exact ⟨_, _, _, this, own_GS (h.rv i _ _ (List.getElem?_eq_getElem hi2) (List.getElem?_eq_getElem hi))⟩
end
end Go.Proofs.Ytfbocionnjlilad
/- What cubes of headers come to, in plain numbers: no program in it. -/
namespace Go.Proofs.Ytfbocionnjlilad
open Go.RowKit

/-- Is it a header? -/
def hdrB (n : Int) : Bool := decide (0 ≤ n) && decide (n < 16)
/-- Are both numbers of a cube headers? -/
def rngB (m b : Int) : Bool := hdrB m && hdrB b
/-- Is a cube right? -/
def okB (m b : Int) : Bool := rngB m b && (bits .andNot .i64 b m == 0)
/-- Do two cubes meet? -/
def mtOk (m b n c : Int) : Bool := okB m b && okB n c && (bits .and .i64 (bits .and .i64 (bits .xor .i64 b c) m) n == 0)
def mtM (m b n c : Int) : Int := if mtOk m b n c then bits .or .i64 m n else 0
def mtB (m b n c : Int) : Int := if mtOk m b n c then bits .or .i64 b c else 0
/-- Is the one in the other? -/
def insB (m b n c : Int) : Bool := mtOk m b n c && (mtM m b n c == m && mtB m b n c == b)
/-- How many bits a small number has. -/
def pop (m : Int) : Int := m % 2 + m / 2 % 2 + m / 4 % 2 + m / 8 % 2
def cntN (m b : Int) : Int := if okB m b then 2 ^ (4 - pop m).toNat else 0
def fstN (m b : Int) : Int := if okB m b then b else 0

theorem hdr_of {n : Int} (h : hdrB n = true) : 0 ≤ n ∧ n < 16 := by simpa [hdrB] using h
theorem hdr_no {n : Int} (h : hdrB n = false) : n < 0 ∨ 16 ≤ n := by simp [hdrB] at h; omega
theorem hdr_mk {n : Int} (h : 0 ≤ n ∧ n < 16) : hdrB n = true := by simpa [hdrB] using h
theorem rng_of {m b : Int} (h : rngB m b = true) : (0 ≤ m ∧ m < 16) ∧ (0 ≤ b ∧ b < 16) := by
  simp only [rngB, Bool.and_eq_true] at h; exact ⟨hdr_of h.1, hdr_of h.2⟩
theorem ok_rng {m b : Int} (h : okB m b = true) : rngB m b = true := by
  simp only [okB, Bool.and_eq_true] at h; exact h.1
theorem ok_of {m b : Int} (h : okB m b = true) : (0 ≤ m ∧ m < 16) ∧ (0 ≤ b ∧ b < 16) := rng_of (ok_rng h)

/-- A small number is the cast of one of sixteen. -/
theorem small {n : Int} (h : 0 ≤ n ∧ n < 16) : ∃ k : Fin 16, n = ((k : Nat) : Int) := ⟨⟨n.toNat, by omega⟩, by simp; omega⟩

theorem pop_le (m : Int) : 0 ≤ pop m ∧ pop m ≤ 4 := by unfold pop; omega

/-- The letter of one bit. -/
def ltr (m b x : Int) : Int := if bits .and .i64 m x == 0 then 42 else if bits .and .i64 b x == 0 then 48 else 49
def bitN (i : Nat) : Int := 2 ^ (3 - i)
def ltrAt (m b : Int) (i : Nat) : Int := ltr m b (bitN i)
theorem ltr_bd (m b x : Int) : 42 ≤ ltr m b x ∧ ltr m b x ≤ 49 := by unfold ltr; split <;> (try split) <;> omega
/-- A cube as text. -/
def prS (m b : Int) : ByteArray := strOfNums [ltrAt m b 0, ltrAt m b 1, ltrAt m b 2, ltrAt m b 3]
/-- What has been written of a cube's text behind k rounds. -/
def ltrTo (m b : Int) (k j : Nat) : Int := if j < k then ltrAt m b j else 0

/-- One byte of a text read: Mask, Bits. -/
def rdM (c : Nat) (i : Nat) (m : Int) : Int := if c = 49 ∨ c = 48 then bits .or .i64 m (bitN i) else m
def rdB (c : Nat) (i : Nat) (b : Int) : Int := if c = 49 then bits .or .i64 b (bitN i) else b
/-- May a byte stand in a cube's text? -/
def mayB (c : Nat) : Bool := c == 49 || c == 48 || c == 42
def byteN (s : ByteArray) (i : Nat) : Nat := (s.data.toList.getD i 0).toNat
def psMTo (s : ByteArray) : Nat → Int
  | 0 => 0
  | k + 1 => rdM (byteN s k) k (psMTo s k)
def psBTo (s : ByteArray) : Nat → Int
  | 0 => 0
  | k + 1 => rdB (byteN s k) k (psBTo s k)
def mayTo (s : ByteArray) : Nat → Bool
  | 0 => true
  | k + 1 => mayTo s k && mayB (byteN s k)
/-- Is a text a cube's? -/
def psOk (s : ByteArray) : Bool := s.size == 4 && mayTo s 4
def psM (s : ByteArray) : Int := if psOk s then psMTo s 4 else 0
def psB (s : ByteArray) : Int := if psOk s then psBTo s 4 else 0

/-- Is a header in a cube? -/
def hasB (m b h : Int) : Bool := hdrB h && (okB m b && (bits .and .i64 h m == b))
/-- The fault's number of a cube. -/
def refN (m b : Int) : Int := if okB m b then 0 else if rngB m b then 3 else 1
theorem refN_ok {m b : Int} (h : okB m b = true) : refN m b = 0 := by simp [refN, h]
theorem refN_shape {m b : Int} (h : okB m b = false) (h2 : rngB m b = true) : refN m b = 3 := by simp [refN, h, h2]
theorem refN_range {m b : Int} (h2 : rngB m b = false) : refN m b = 1 := by simp [refN, okB, h2]
theorem refN_bd (m b : Int) : 0 ≤ refN m b ∧ refN m b ≤ 3 := by unfold refN; split <;> (try split) <;> omega
theorem ok_refN (m b : Int) : (refN m b == 0) = okB m b := by
  cases h : okB m b
  · cases h2 : rngB m b
    · simp [refN_range h2]
    · simp [refN_shape h h2]
  · simp [refN_ok h]
theorem andEq_fin : ∀ m b : Fin 16, (bits .and .i64 ((b : Nat) : Int) ((m : Nat) : Int) == ((b : Nat) : Int)) = (bits .andNot .i64 ((b : Nat) : Int) ((m : Nat) : Int) == 0) := by decide +kernel
theorem andEq {m b : Int} (h : rngB m b = true) : (bits .and .i64 b m == b) = okB m b := by
  obtain ⟨h1, h2⟩ := rng_of h
  have e : okB m b = (bits .andNot .i64 b m == 0) := by simp [okB, h]
  rw [e]
  obtain ⟨x, rfl⟩ := small h1
  obtain ⟨y, rfl⟩ := small h2
  exact andEq_fin x y
/-- The i-th bit of a small number. -/
def bitB (x : Int) (i : Nat) : Bool := x / 2 ^ i % 2 == 1
end Go.Proofs.Ytfbocionnjlilad
/- What one rule comes to, in plain numbers: no program in it. A rule is Prio p, its Cube's Mask m and Bits b, Out o, Set s, Value v. -/
namespace Go.Proofs.Ytfbocionnjlilad
open Go.RowKit

/-- Are a rule's own numbers in their bounds? -/
def ruP (p o : Int) : Bool := decide (0 ≤ p) && (decide (p ≤ 99) && (decide (0 ≤ o) && decide (o ≤ 4)))
def ruIn (p o s v : Int) : Bool := ruP p o && rngB s v
/-- Is what a rule sets right? -/
def ruSet (o s v : Int) : Bool := (bits .andNot .i64 v s == 0) && (!(o == 0) || s == 0)
/-- The fault's number of a rule. -/
def ruN (p m b o s v : Int) : Int := if ruIn p o s v then (if okB m b then (if ruSet o s v then 0 else 3) else refN m b) else 1
/-- Is a rule right? -/
def ruOk (p m b o s v : Int) : Bool := ruIn p o s v && (okB m b && ruSet o s v)
/-- The fault's number of a rule and a header that it is applied to. -/
def apN (p m b o s v h : Int) : Int := if ruOk p m b o s v then (if hdrB h then (if hasB m b h && !(o == 0) then 0 else 5) else 1) else ruN p m b o s v
/-- What a rule makes of a header. -/
def apV (s v h : Int) : Int := bits .or .i64 (bits .andNot .i64 h s) v
def apR (p m b o s v h : Int) : Int := if apN p m b o s v h = 0 then apV s v h else 0

theorem ru_ok {p m b o s v : Int} (h : ruOk p m b o s v = true) : ruIn p o s v = true ∧ okB m b = true ∧ ruSet o s v = true := by
  simpa [ruOk] using h
theorem ruN_ok {p m b o s v : Int} (h : ruOk p m b o s v = true) : ruN p m b o s v = 0 := by
  obtain ⟨h1, h2, h3⟩ := ru_ok h
  simp [ruN, h1, h2, h3]
theorem ruN_ne {p m b o s v : Int} (h : ruOk p m b o s v = false) : ruN p m b o s v ≠ 0 := by
  unfold ruN
  cases h1 : ruIn p o s v
  · simp
  · cases h2 : okB m b
    · simp only [if_true]
      have := ok_refN m b
      rw [h2] at this
      simpa using this
    · cases h3 : ruSet o s v
      · simp
      · simp [ruOk, h1, h2, h3] at h
theorem ruN_bd (p m b o s v : Int) : 0 ≤ ruN p m b o s v ∧ ruN p m b o s v ≤ 3 := by
  unfold ruN
  have := refN_bd m b
  split
  · split
    · split <;> omega
    · omega
  · omega
theorem ru_in {p o s v : Int} (h : ruIn p o s v = true) : ((0 ≤ p ∧ p ≤ 99) ∧ (0 ≤ o ∧ o ≤ 4)) ∧ (0 ≤ s ∧ s < 16) ∧ (0 ≤ v ∧ v < 16) := by
  simp only [ruIn, Bool.and_eq_true] at h
  obtain ⟨h1, h2⟩ := h
  have h3 := rng_of h2
  simp only [ruP, Bool.and_eq_true, decide_eq_true_eq] at h1
  exact ⟨⟨⟨h1.1, h1.2.1⟩, ⟨h1.2.2.1, h1.2.2.2⟩⟩, h3⟩
theorem apN_bad {p m b o s v : Int} (h : Int) (hr : ruOk p m b o s v = false) : apN p m b o s v h = ruN p m b o s v := by simp [apN, hr]
theorem apR_bad {p m b o s v h : Int} (hr : apN p m b o s v h ≠ 0) : apR p m b o s v h = 0 := by simp [apR, hr]
theorem ap_yes {p m b o s v h : Int} (hr : apN p m b o s v h = 0) : ruOk p m b o s v = true ∧ hdrB h = true ∧ hasB m b h = true ∧ (o == 0) = false := by
  cases h1 : ruOk p m b o s v
  · rw [apN_bad h h1] at hr
    exact absurd hr (ruN_ne h1)
  · cases h2 : hdrB h
    · simp [apN, h1, h2] at hr
    · simp only [apN, h1, h2, if_true] at hr
      cases h3 : (hasB m b h && !(o == 0))
      · simp [h3] at hr
      · simpa using h3
end Go.Proofs.Ytfbocionnjlilad
/- Tables of rules in plain lists: what is wrong with one, which rule counts. No program in it. -/
namespace Go.Proofs.Ytfbocionnjlilad
open Go.RowKit

/-- -1, 0 or 1: is the one below, as great as, above the other? -/
def cmpN (a b : Int) : Int := if a < b then -1 else if b < a then 1 else 0
/-- The first of three numbers that is not 0. -/
def orN (x y z : Int) : Int := if x = 0 then (if y = 0 then z else y) else x
/-- Above 0: the one counts ahead of the other; 0: they have one Prio and one Cube. -/
def ordN (p m b p' m' b' : Int) : Int := orN (cmpN p p') (cmpN m m') (cmpN b b')

structure Ru where
  p : Int
  m : Int
  b : Int
  o : Int
  s : Int
  v : Int

def Ru.n (r : Ru) : Int := ruN r.p r.m r.b r.o r.s r.v
def Ru.ok (r : Ru) : Bool := ruOk r.p r.m r.b r.o r.s r.v
def Ru.has (r : Ru) (h : Int) : Bool := hasB r.m r.b h
def ordR (a b : Ru) : Int := ordN a.p a.m a.b b.p b.m b.b
/-- Have two rules one Prio and one Cube? -/
def keyB (a b : Ru) : Bool := ordR a b == 0
def zeR : Ru := ⟨0, 0, 0, 0, 0, 0⟩

theorem cmp_0 {a b : Int} : cmpN a b = 0 ↔ a = b := by unfold cmpN; split <;> (try split) <;> omega
theorem ord_0 {a b : Ru} : ordR a b = 0 ↔ a.p = b.p ∧ a.m = b.m ∧ a.b = b.b := by
  unfold ordR ordN orN
  by_cases h1 : a.p = b.p
  · rw [if_pos (cmp_0.2 h1)]
    by_cases h2 : a.m = b.m
    · rw [if_pos (cmp_0.2 h2), cmp_0]
      exact ⟨fun h => ⟨h1, h2, h⟩, fun h => h.2.2⟩
    · rw [if_neg (fun h => h2 (cmp_0.1 h)), cmp_0]
      exact ⟨fun h => absurd h h2, fun h => h.2.1⟩
  · rw [if_neg (fun h => h1 (cmp_0.1 h)), cmp_0]
    exact ⟨fun h => absurd h h1, fun h => h.1⟩
theorem ord_le {a b : Ru} : ordR a b ≤ 0 ↔ (a.p < b.p ∨ a.p = b.p ∧ (a.m < b.m ∨ a.m = b.m ∧ a.b ≤ b.b)) := by
  unfold ordR ordN orN cmpN
  split <;> split <;> (try split) <;> (try split) <;> (try split) <;> (try split) <;> omega
theorem ord_tr {a b c : Ru} (h1 : ordR a b ≤ 0) (h2 : 0 < ordR c b) : ordR a c ≤ 0 := by
  have h3 : ¬ ordR c b ≤ 0 := by omega
  rw [ord_le] at h1 h3 ⊢
  omega
theorem ord_as {a b : Ru} (h1 : ordR a b ≤ 0) (h2 : ordR b a ≤ 0) : ordR a b = 0 := by
  rw [ord_le] at h1 h2
  rw [ord_0]
  omega
theorem ord_rf (a : Ru) : ordR a a = 0 := ord_0.2 ⟨rfl, rfl, rfl⟩
theorem key_sym {a b : Ru} (h : keyB a b = false) : keyB b a = false := by
  simp only [keyB, beq_eq_false_iff_ne, ne_eq, ord_0] at h ⊢
  exact fun h' => h ⟨h'.1.symm, h'.2.1.symm, h'.2.2.symm⟩

theorem key_eq (a b : Ru) : keyB a b = (decide (a.p = b.p) && (decide (a.m = b.m) && decide (a.b = b.b))) := by
  rw [Bool.eq_iff_iff, keyB, beq_iff_eq, ord_0]
  simp

/-- Is there one among the first k that has the Prio and the Cube of one ahead? -/
def clTo (L : List Ru) : Nat → Bool
  | 0 => false
  | k + 1 => clTo L k || (L.take k).any (fun a => keyB a (L.getD k zeR))
def okR (L : List Ru) : Bool := L.all Ru.ok
/-- The fault of the first k rules: what is wrong with the first that has a fault: by itself, or that it has the Prio and the Cube of one ahead. -/
def tbTo (L : List Ru) : Nat → Int
  | 0 => 0
  | k + 1 => if tbTo L k = 0 then (if (L.getD k zeR).n = 0 then (if (L.take k).any (fun a => keyB a (L.getD k zeR)) then 7 else 0) else (L.getD k zeR).n) else tbTo L k
/-- The fault of a table. -/
def tbN (L : List Ru) : Int := if 12 < L.length then 4 else tbTo L L.length

theorem n_ne {r : Ru} (h : r.ok = false) : r.n ≠ 0 := ruN_ne h
theorem n_ok {r : Ru} (h : r.ok = true) : r.n = 0 := ruN_ok h
theorem ok_n {r : Ru} (h : r.n = 0) : r.ok = true := by
  cases e : r.ok
  · exact absurd h (n_ne e)
  · rfl
theorem okR_next {L : List Ru} {k : Nat} (hk : k < L.length) (h : okR (L.take k) = true) (h2 : (L[k]).ok = true) : okR (L.take (k + 1)) = true := by
  rw [List.take_succ_eq_append_getElem hk]
  simp only [okR, List.all_append, List.all_cons, List.all_nil, Bool.and_true, Bool.and_eq_true]
  exact ⟨h, h2⟩
/-- A fault among the first ones is the table's. -/
theorem to_le {L : List Ru} {k : Nat} (h : tbTo L k ≠ 0) : ∀ {n : Nat}, k ≤ n → tbTo L n = tbTo L k
  | 0, hn => by
    obtain rfl : k = 0 := by omega
    rfl
  | n + 1, hn => by
    by_cases e : k = n + 1
    · subst e; rfl
    · have := to_le h (show k ≤ n by omega)
      rw [tbTo, if_neg (by rw [this]; exact h), this]
theorem getD_at {L : List Ru} {k : Nat} (hk : k < L.length) : L.getD k zeR = L[k] := by simp [List.getD, hk]

theorem cl_le {L : List Ru} : ∀ {k n : Nat}, k ≤ n → clTo L n = false → clTo L k = false
  | k, 0, h, hc => by
    obtain rfl : k = 0 := by omega
    exact hc
  | k, n + 1, h, hc => by
    by_cases e : k = n + 1
    · subst e; exact hc
    · simp only [clTo, Bool.or_eq_false_iff] at hc
      exact cl_le (by omega) hc.1
theorem cl_hit {L : List Ru} {k : Nat} (hk : k < L.length) (h : (L.take k).any (fun a => keyB a (L.getD k zeR)) = true) : clTo L L.length = true := by
  cases e : clTo L L.length
  · have := cl_le (show k + 1 ≤ L.length by omega) e
    simp only [clTo, h, Bool.or_true] at this
    cases this
  · rfl
/-- No clash: no two have one Prio and one Cube. -/
theorem cl_no {L : List Ru} : clTo L L.length = false ↔ ∀ i j, i < j → j < L.length → keyB (L.getD i zeR) (L.getD j zeR) = false := by
  constructor
  · intro h i j hij hj
    have := cl_le (show j + 1 ≤ L.length by omega) h
    simp only [clTo, Bool.or_eq_false_iff] at this
    have h2 := this.2
    rw [List.any_eq_false] at h2
    have hm : L.getD i zeR ∈ L.take j := by
      rw [getD_at (by omega)]
      rw [List.mem_take_iff_getElem]
      exact ⟨i, by omega, rfl⟩
    simpa using h2 _ hm
  · intro h
    have : ∀ n, n ≤ L.length → clTo L n = false := by
      intro n
      induction n with
      | zero => intro _; rfl
      | succ n ih =>
        intro hn
        simp only [clTo, Bool.or_eq_false_iff]
        refine ⟨ih (by omega), ?_⟩
        rw [List.any_eq_false]
        intro a ha
        rw [List.mem_take_iff_getElem] at ha
        obtain ⟨i, hi, rfl⟩ := ha
        have := h i n (by omega) (by omega)
        rw [getD_at (by omega)] at this
        simpa using this
    exact this _ (Nat.le_refl _)
theorem to_0 {L : List Ru} : ∀ {k : Nat}, k ≤ L.length → (tbTo L k = 0 ↔ okR (L.take k) = true ∧ clTo L k = false)
  | 0, _ => by simp [tbTo, okR, clTo]
  | k + 1, hk => by
    have ih := to_0 (show k ≤ L.length by omega)
    have hl : k < L.length := by omega
    rw [tbTo, clTo]
    by_cases h1 : tbTo L k = 0
    · obtain ⟨i1, i2⟩ := ih.1 h1
      rw [if_pos h1, i2, Bool.false_or]
      by_cases h2 : (L.getD k zeR).n = 0
      · rw [if_pos h2]
        have h3 := okR_next hl i1 (by rw [← getD_at hl]; exact ok_n h2)
        cases h4 : (L.take k).any (fun a => keyB a (L.getD k zeR))
        · simp [h3]
        · simp
      · rw [if_neg h2]
        refine ⟨fun h => absurd h h2, fun h => ?_⟩
        exfalso
        have h5 := h.1
        rw [okR, List.all_eq_true] at h5
        exact h2 (n_ok (by rw [getD_at hl]; exact h5 _ (by rw [List.mem_take_iff_getElem]; exact ⟨k, by omega, rfl⟩)))
    · rw [if_neg h1]
      refine ⟨fun h => absurd h h1, fun h => ?_⟩
      exfalso
      obtain ⟨h5, h6⟩ := h
      simp only [Bool.or_eq_false_iff] at h6
      refine h1 (ih.2 ⟨?_, h6.1⟩)
      rw [okR, List.all_eq_true] at h5 ⊢
      intro x hx
      refine h5 x ?_
      rw [List.mem_take_iff_getElem] at hx ⊢
      obtain ⟨i, hi, e⟩ := hx
      exact ⟨i, by omega, e⟩
/-- A table that is right. -/
theorem tb_0 {L : List Ru} : tbN L = 0 ↔ L.length ≤ 12 ∧ okR L = true ∧ clTo L L.length = false := by
  unfold tbN
  by_cases h1 : 12 < L.length
  · rw [if_pos h1]
    constructor
    · intro h; cases h
    · intro h; omega
  · rw [if_neg h1, to_0 (Nat.le_refl _), List.take_length]
    exact ⟨fun h => ⟨by omega, h⟩, fun h => h.2⟩

theorem rev_at {L : List Ru} {i : Nat} (h : i < L.length) : L.reverse.getD i zeR = L.getD (L.length - 1 - i) zeR := by
  rw [getD_at (by simpa using h), getD_at (by omega), List.getElem_reverse]
theorem tb_rev {L : List Ru} (h : tbN L = 0) : tbN L.reverse = 0 := by
  rw [tb_0] at h ⊢
  obtain ⟨h1, h2, h3⟩ := h
  refine ⟨by simpa using h1, by simpa [okR] using h2, ?_⟩
  rw [cl_no] at h3 ⊢
  intro i j hij hj
  rw [List.length_reverse] at hj
  rw [rev_at (by omega), rev_at hj]
  exact key_sym (h3 _ _ (by omega) (by omega))

/-- The place of the rule that counts among the first k; -1: none. -/
def beTo (L : List Ru) (h : Int) : Nat → Int
  | 0 => -1
  | k + 1 => if ((L.getD k zeR).has h && (decide (beTo L h k < 0) || decide (0 < ordR (L.getD k zeR) (L.getD (beTo L h k).toNat zeR)))) = true then (k : Int) else beTo L h k
theorem be_bd (L : List Ru) (h : Int) : ∀ k : Nat, -1 ≤ beTo L h k ∧ beTo L h k < k
  | 0 => by simp [beTo]
  | k + 1 => by
    have := be_bd L h k
    unfold beTo
    split <;> omega
theorem be_no {L : List Ru} {h : Int} : ∀ {k : Nat}, beTo L h k < 0 → ∀ j, j < k → (L.getD j zeR).has h = false
  | 0, _, j, hj => by omega
  | k + 1, hb, j, hj => by
    unfold beTo at hb
    split at hb
    · omega
    · next hn =>
      by_cases e : j = k
      · subst e
        cases hh : (L.getD j zeR).has h
        · rfl
        · exact absurd (by rw [hh]; simp [hb]) hn
      · exact be_no hb j (by omega)
theorem be_yes {L : List Ru} {h : Int} : ∀ {k : Nat}, 0 ≤ beTo L h k → (L.getD (beTo L h k).toNat zeR).has h = true ∧ ∀ j, j < k → (L.getD j zeR).has h = true → ordR (L.getD j zeR) (L.getD (beTo L h k).toNat zeR) ≤ 0
  | 0, hb => by simp [beTo] at hb
  | k + 1, hb => by
    unfold beTo at hb ⊢
    split
    · next hy =>
      simp only [Bool.and_eq_true, Bool.or_eq_true, decide_eq_true_eq] at hy
      obtain ⟨y1, y2⟩ := hy
      simp only [Int.toNat_natCast]
      refine ⟨y1, fun j hj hh => ?_⟩
      by_cases e : j = k
      · subst e
        rw [ord_rf]
        exact Int.le_refl _
      · rcases y2 with y2 | y2
        · rw [be_no y2 j (by omega)] at hh
          cases hh
        · have h0 : 0 ≤ beTo L h k := by
            rcases Int.lt_or_le (beTo L h k) 0 with h' | h'
            · rw [be_no h' j (by omega)] at hh
              cases hh
            · exact h'
          exact ord_tr ((be_yes h0).2 j (by omega) hh) y2
    · next hn =>
      rw [if_neg hn] at hb
      obtain ⟨i1, i2⟩ := be_yes hb
      refine ⟨i1, fun j hj hh => ?_⟩
      by_cases e : j = k
      · subst e
        rw [hh] at hn
        simp only [Bool.true_and, Bool.or_eq_true, decide_eq_true_eq, not_or] at hn
        omega
      · exact i2 j (by omega) hh

/-- The fault of a look into a table, and the place. -/
def luN (L : List Ru) (h : Int) : Int := if tbN L = 0 then (if hdrB h then (if beTo L h L.length < 0 then 5 else 0) else 1) else tbN L
def luI (L : List Ru) (h : Int) : Int := if luN L h = 0 then beTo L h L.length else 0
theorem lu_0 {L : List Ru} {h : Int} : luN L h = 0 ↔ tbN L = 0 ∧ hdrB h = true ∧ 0 ≤ beTo L h L.length := by
  unfold luN
  by_cases h1 : tbN L = 0
  · rw [if_pos h1]
    cases h2 : hdrB h
    · simp
    · by_cases h3 : beTo L h L.length < 0
      · simp [h1, h3] <;> omega
      · simp [h1, h3] <;> omega
  · rw [if_neg h1]
    simp [h1]
theorem lu_rev {L : List Ru} {h : Int} (h0 : luN L h = 0) : luN L.reverse h = 0 := by
  rw [lu_0] at h0 ⊢
  obtain ⟨h1, h2, h3⟩ := h0
  refine ⟨tb_rev h1, h2, ?_⟩
  rcases Int.lt_or_le (beTo L.reverse h L.reverse.length) 0 with h' | h'
  · exfalso
    have hb := be_bd L h L.length
    have := be_no h' (L.length - 1 - (beTo L h L.length).toNat) (by rw [List.length_reverse]; omega)
    rw [rev_at (by omega), show L.length - 1 - (L.length - 1 - (beTo L h L.length).toNat) = (beTo L h L.length).toNat by omega, (be_yes h3).1] at this
    cases this
  · exact h'
theorem lu_iff {L : List Ru} {h : Int} : luN L.reverse h = 0 ↔ luN L h = 0 :=
  ⟨fun e => by have := lu_rev e; rwa [List.reverse_reverse] at this, lu_rev⟩
/-- However a table stands, the same rule counts. -/
theorem lu_same {L : List Ru} {h : Int} (h0 : luN L h = 0) : L.reverse.getD (luI L.reverse h).toNat zeR = L.getD (luI L h).toNat zeR ∧ (luI L.reverse h).toNat < L.length ∧ (luI L h).toNat < L.length ∧ 0 ≤ luI L.reverse h ∧ 0 ≤ luI L h := by
  have h1 := lu_rev h0
  have e1 : luI L h = beTo L h L.length := by simp [luI, h0]
  have e2 : luI L.reverse h = beTo L.reverse h L.reverse.length := by rw [luI, if_pos h1]
  rw [e1, e2]
  obtain ⟨a1, _, a3⟩ := lu_0.1 h0
  obtain ⟨_, _, b3⟩ := lu_0.1 h1
  have c1 := be_bd L h L.length
  have c2 := be_bd L.reverse h L.reverse.length
  rw [List.length_reverse] at *
  obtain ⟨d1, d2⟩ := be_yes a3
  obtain ⟨f1, f2⟩ := be_yes b3
  generalize hi : (beTo L h L.length).toNat = i at *
  generalize hk : (beTo L.reverse h L.length).toNat = k at *
  have hil : i < L.length := by omega
  have hkl : k < L.length := by omega
  refine ⟨?_, hkl, hil, b3, a3⟩
  rw [rev_at hkl] at f1 f2 ⊢
  have g1 := d2 (L.length - 1 - k) (by omega) f1
  have g2 := f2 (L.length - 1 - i) (by omega) (by rw [rev_at (by omega), show L.length - 1 - (L.length - 1 - i) = i by omega]; exact d1)
  rw [rev_at (by omega), show L.length - 1 - (L.length - 1 - i) = i by omega] at g2
  have g3 := ord_as g2 g1
  have hc := cl_no.1 (tb_0.1 a1).2.2
  rcases Nat.lt_trichotomy i (L.length - 1 - k) with h' | h' | h'
  · have := hc _ _ h' (by omega)
    rw [keyB, g3] at this
    cases this
  · rw [← h']
  · have := key_sym (hc _ _ h' hil)
    rw [keyB, g3] at this
    cases this
/-- The rule that counts has the header, and none that has it has a greater Prio. -/
theorem lu_top {L : List Ru} {h : Int} (h0 : luN L h = 0) : (L.getD (luI L h).toNat zeR).has h = true ∧ ∀ j, j < L.length → (L.getD j zeR).has h = true → (L.getD j zeR).p ≤ (L.getD (luI L h).toNat zeR).p := by
  have e1 : luI L h = beTo L h L.length := by simp [luI, h0]
  rw [e1]
  obtain ⟨d1, d2⟩ := be_yes (lu_0.1 h0).2.2
  refine ⟨d1, fun j hj hh => ?_⟩
  have := d2 j hj hh
  rw [ord_le] at this
  omega
end Go.Proofs.Ytfbocionnjlilad
/- What counts in each of some tables, and a table with one rule more. No program in it. -/
namespace Go.Proofs.Ytfbocionnjlilad
open Go.RowKit
set_option linter.unusedVariables false

/-- Of each table the place of the rule that counts; -1: none. -/
def pthL (Ts : List (List Ru)) (h : Int) : List Int := Ts.map fun t => beTo t h t.length
theorem pth_len (Ts : List (List Ru)) (h : Int) : (pthL Ts h).length = Ts.length := by simp [pthL]
theorem pth_next (Ts : List (List Ru)) (h : Int) (k : Nat) (hk : k < Ts.length) : pthL (Ts.take (k + 1)) h = pthL (Ts.take k) h ++ [beTo (Ts.getD k []) h (Ts.getD k []).length] := by
  unfold pthL
  rw [List.take_succ_eq_append_getElem hk, List.map_append, show Ts.getD k [] = Ts[k] by simp [List.getD, hk]]
  rfl
/-- The classes of a table, of some tables. -/
def clsL (Ts : List (List Ru)) : List (List Int) := (kcTo (pthL Ts) 16).1
theorem be_app (L : List Ru) (r : Ru) (h : Int) : ∀ k, k ≤ L.length → beTo (L ++ [r]) h k = beTo L h k
  | 0, _ => rfl
  | k + 1, hk => by
    have ih := be_app L r h k (by omega)
    have g : ∀ j, j < L.length → (L ++ [r]).getD j zeR = L.getD j zeR := by
      intro j hj
      rw [List.getD, List.getD, List.getElem?_append_left hj]
    have hb := be_bd L h k
    unfold beTo
    rw [ih, g k (by omega)]
    by_cases hn : beTo L h k < 0
    · simp [hn]
    · rw [g (beTo L h k).toNat (by omega)]
/-- A rule behind the others, above all: what counts then. -/
theorem be_more {L : List Ru} {r : Ru} (hp : ∀ x ∈ L, x.p < r.p) (h : Int) : beTo (L ++ [r]) h (L ++ [r]).length = if r.has h then (L.length : Int) else beTo L h L.length := by
  have hl : (L ++ [r]).length = L.length + 1 := by simp
  rw [hl, beTo, be_app L r h L.length (Nat.le_refl _)]
  have g : (L ++ [r]).getD L.length zeR = r := by simp [List.getD]
  rw [g]
  cases hh : r.has h
  · simp
  · simp only [Bool.true_and, if_true]
    rw [if_pos]
    by_cases hn : beTo L h L.length < 0
    · simp [hn]
    · have hb := be_bd L h L.length
      have hlt : (beTo L h L.length).toNat < L.length := by omega
      have e : (L ++ [r]).getD (beTo L h L.length).toNat zeR = L[(beTo L h L.length).toNat] := by
        rw [List.getD, List.getElem?_append_left hlt, List.getElem?_eq_getElem hlt]
        rfl
      have := hp _ (List.getElem_mem hlt)
      have h2 : 0 < ordR r L[(beTo L h L.length).toNat] := by
        apply Int.lt_of_not_ge
        intro h3
        have := ord_le.1 h3
        omega
      rw [e]
      simp [h2]
/-- MORE RULES: one class more at most; those that the rule has are apart from the others. -/
theorem more_few {L : List Ru} {r : Ru} (hp : ∀ x ∈ L, x.p < r.p) : (clsL [L ++ [r]]).length ≤ (clsL [L]).length + 1 := by
  refine kc_few [(L.length : Int)] fun x _ => ?_
  unfold pthL
  simp only [List.map_cons, List.map_nil, be_more hp]
  cases r.has x
  · exact .inl (by simp)
  · exact .inr (by simp)
theorem more_apart {L : List Ru} {r : Ru} (hp : ∀ x ∈ L, x.p < r.p) {C : List Int} (hC : C ∈ clsL [L ++ [r]]) {x y : Int} (hx : x ∈ C) (hy : y ∈ C) : r.has x = r.has y := by
  obtain ⟨i, hi, rfl⟩ := List.getElem_of_mem hC
  have hi2 : i < (kcTo (pthL [L ++ [r]]) 16).2.length := by
    have := kc_len (pthL [L ++ [r]]) 16
    have h3 : i < (kcTo (pthL [L ++ [r]]) 16).1.length := hi
    omega
  obtain ⟨a, _, rfl, ea⟩ := (kc_in hi hi2).1 hx
  obtain ⟨b, _, rfl, eb⟩ := (kc_in hi hi2).1 hy
  have e : pthL [L ++ [r]] (a : Int) = pthL [L ++ [r]] (b : Int) := ea.trans eb.symm
  unfold pthL at e
  simp only [List.map_cons, List.map_nil, be_more hp, List.cons.injEq, and_true] at e
  have h1 := be_bd L a L.length
  have h2 := be_bd L b L.length
  cases e1 : r.has (a : Int) <;> cases e2 : r.has (b : Int) <;> simp [e1, e2] at e ⊢ <;> omega
theorem cls_pos (Ts : List (List Ru)) : 1 ≤ (clsL Ts).length := kc_pos (by omega)
theorem cls_le (Ts : List (List Ru)) : (clsL Ts).length ≤ 16 := by
  have := kc_len (pthL Ts) 16
  unfold clsL
  omega
theorem cls_size (Ts : List (List Ru)) : ∀ C ∈ clsL Ts, 0 < C.length ∧ C.length ≤ 16 := kc_sizes
end Go.Proofs.Ytfbocionnjlilad
