/- Slices of anything that is a fixed number of cells: where they lie, rows of them that a call owns, such that came in. No program in it. -/
import Derived.WalkKit
import Derived.WalkSpells
import Derived.Below
import Derived.ProofKit
import Derived.OpenShut
import Derived.ChangeOld
import Derived.Laws.AppendOwnNone
import Derived.Deep.Slices
namespace Go.Proofs.Ytfbocionnjlilad
open Go.ChangeShapes Go.WideShapes Go.ChangeAt Go.RowKit

/-- How things are laid out in cells: each as so many. -/
structure Enc (α : Type) where
  c : α → List Value
  n : Nat
  len : ∀ x, (c x).length = n
  pos : 0 < n
  one : ∀ x u, u ∈ c x → u.oneCell' = true
/-- Values lie one behind the other from an address on. -/
def VAt (w : World) (g o : Nat) (vs : List Value) : Prop := ∀ j u, vs[j]? = some u → w.cell? ⟨g, o + j, none⟩ = some u
theorem VAt.later {w w' : World} {g o : Nat} {vs : List Value} (h : VAt w g o vs) (hb : Below w.heap.size w w') : VAt w' g o vs := fun j u hu => cell_later hb (h j u hu)
theorem vat_new (w : World) (vs : List Value) (t : TypeId) : VAt (w.alloc (.cells vs.toArray t)) w.heap.size 0 vs := by
  intro j u hu
  rw [Nat.zero_add]
  have hj : j < vs.length := (List.getElem?_eq_some_iff.1 hu).1
  simp only [World.cell?, World.alloc]
  simp [hu]
section
variable {α : Type} {E : Enc α}
/-- These lie from an address on. -/
def GAt (E : Enc α) (w : World) (g o : Nat) (L : List α) : Prop := ∀ i (h : i < L.length), VAt w g (o + i * E.n) (E.c L[i])
theorem GAt.later {w w' : World} {g o : Nat} {L : List α} (h : GAt E w g o L) (hb : Below w.heap.size w w') : GAt E w' g o L := fun i hi => (h i hi).later hb
theorem GAt.take {w : World} {g o : Nat} {L : List α} (h : GAt E w g o L) (k : Nat) : GAt E w g o (L.take k) := by
  intro i hi
  rw [List.getElem_take]
  exact h i (by simp at hi; omega)
theorem GAt.drop {w : World} {g o : Nat} {L : List α} (h : GAt E w g o L) (k : Nat) : GAt E w g (o + k * E.n) (L.drop k) := by
  intro i hi
  have hi2 : k + i < L.length := by simp at hi; omega
  have := h (k + i) hi2
  rw [List.getElem_drop]
  have e : o + (k + i) * E.n = o + k * E.n + i * E.n := by rw [Nat.add_mul]; omega
  rw [← e]
  exact this
/-- A value is a slice of these. -/
def GS (E : Enc α) (w : World) (v : Value) (L : List α) : Prop :=
  (∃ ao cap, v = .slice ao 0 cap ∧ L = []) ∨ ∃ g o cap, v = .slice (some ⟨g, o, none⟩) L.length cap ∧ L.length ≤ cap ∧ cap ≤ maxLen ∧ GAt E w g o L
theorem GS.later {w w' : World} {v : Value} {L : List α} (h : GS E w v L) (hb : Below w.heap.size w w') : GS E w' v L := by
  rcases h with h | ⟨g, o, cap, h1, h2, h3, h4⟩
  · exact .inl h
  · exact .inr ⟨g, o, cap, h1, h2, h3, h4.later hb⟩
theorem GS.form {w : World} {v : Value} {L : List α} (h : GS E w v L) : ∃ ao n cap, v = .slice ao n cap ∧ L.length = n ∧ n ≤ maxLen ∧ n ≤ cap ∧ (0 < n → ∃ g o, ao = some ⟨g, o, none⟩ ∧ GAt E w g o L ∧ cap ≤ maxLen) := by
  rcases h with ⟨ao, cap, rfl, rfl⟩ | ⟨g, o, cap, rfl, h1, h2, h3⟩
  · exact ⟨ao, 0, cap, rfl, rfl, Nat.zero_le _, Nat.zero_le _, fun h => absurd h (by omega)⟩
  · exact ⟨_, _, cap, rfl, rfl, Nat.le_trans h1 h2, h1, fun _ => ⟨g, o, rfl, h3, h2⟩⟩
theorem GS.len {w : World} {ao : Option Addr} {n cap : Nat} {L : List α} (h : GS E w (.slice ao n cap) L) : L.length = n := by
  rcases h with ⟨_, _, e, rfl⟩ | ⟨_, _, _, e, _⟩
  · simp at e; simp [e]
  · simp at e; exact e.2.1.symm
theorem GS.nil (w : World) : GS E w (.slice none 0 0) [] := .inl ⟨none, 0, rfl, rfl⟩
/-- One in a new row. -/
theorem gs_one (w : World) (x : α) (t : TypeId) {vs : List Value} (hv : vs = E.c x) : GS E (w.alloc (.cells vs.toArray t)) (.slice (some ⟨w.heap.size, 0, none⟩) 1 1) [x] := by
  subst hv
  refine .inr ⟨w.heap.size, 0, 1, rfl, Nat.le_refl _, by unfold maxLen; omega, fun i hi => ?_⟩
  obtain rfl : i = 0 := by simp at hi; omega
  have h := vat_new w (E.c x) t
  simpa using h
/-- The cells of some. -/
def cellsG (E : Enc α) (L : List α) : List Value := L.flatMap E.c
theorem cellsG_len (L : List α) : (cellsG E L).length = L.length * E.n := by
  induction L with
  | nil => simp [cellsG]
  | cons x r ih =>
    simp only [cellsG, List.flatMap_cons, List.length_append, List.length_cons, E.len] at *
    rw [ih, Nat.add_mul]
    omega
theorem cellsG_app (L M : List α) : cellsG E (L ++ M) = cellsG E L ++ cellsG E M := by simp [cellsG]
theorem cellsG_one (x : α) : cellsG E [x] = E.c x := by simp [cellsG]
theorem cellsG_at (L : List α) : ∀ (i : Nat) (h : i < L.length) (j : Nat), j < E.n → (cellsG E L)[i * E.n + j]? = (E.c L[i])[j]? := by
  induction L with
  | nil => intro i h; simp at h
  | cons x r ih =>
    intro i h j hj
    cases i with
    | zero =>
      simp only [cellsG, List.flatMap_cons, Nat.zero_mul, Nat.zero_add, List.getElem_cons_zero]
      rw [List.getElem?_append_left (by rw [E.len]; exact hj)]
    | succ i =>
      have := ih i (by simpa using h) j hj
      simp only [cellsG, List.flatMap_cons, List.getElem_cons_succ] at this ⊢
      rw [List.getElem?_append_right (by rw [E.len, Nat.add_mul]; omega), E.len]
      have e : (i + 1) * E.n + j - E.n = i * E.n + j := by rw [Nat.add_mul]; omega
      rw [e]
      exact this
theorem cellsG_all (L : List α) : ∀ u ∈ cellsG E L, u.oneCell' = true := by
  intro u hu
  simp only [cellsG, List.mem_flatMap] at hu
  obtain ⟨x, _, hx⟩ := hu
  exact E.one x u hx
/-- What a call owns may be read. -/
theorem own_GS {w : World} {B e : Nat} {v : Value} {L : List α} (h : w.ownsRow B e E.n v L.length (cellsG E L)) : GS E w v L := by
  rcases h.2 with ⟨rfl, h0⟩ | ⟨g, cap, cur, rfl, _, _, h1, h2, _⟩
  · exact .inl ⟨none, 0, rfl, List.length_eq_zero_iff.1 h0⟩
  · refine .inr ⟨g, 0, cap, rfl, h1, h2, fun i hi j u hu => ?_⟩
    have hj : j < E.n := by
      have := (List.getElem?_eq_some_iff.1 hu).1
      rw [E.len] at this
      exact this
    have hlt : i * E.n + j < L.length * E.n := by
      have : (i + 1) * E.n ≤ L.length * E.n := Nat.mul_le_mul_right _ hi
      rw [Nat.add_mul] at this
      omega
    rw [Nat.zero_add, h.cellAt _ hlt, cellsG_at L i hi j hj]
    exact hu
theorem GAt.cells {w : World} {g o : Nat} {M : List α} (h : GAt E w g o M) : ∀ j u, (cellsG E M)[j]? = some u → w.cell? ((⟨g, o, none⟩ : Addr).add j) = some u := by
  intro j u hu
  have hj : j < M.length * E.n := by
    have := (List.getElem?_eq_some_iff.1 hu).1
    rw [cellsG_len] at this
    exact this
  have hadd : (⟨g, o, none⟩ : Addr).add j = ⟨g, o + j, none⟩ := by
    simp only [Addr.add]
    first
      | rfl
      | (split
         · next h0 => rw [h0]; rfl
         · rfl)
  have hi : j / E.n < M.length := Nat.div_lt_of_lt_mul (by rw [Nat.mul_comm]; exact hj)
  have hm : j % E.n < E.n := Nat.mod_lt _ E.pos
  have e : j / E.n * E.n + j % E.n = j := by rw [Nat.mul_comm]; exact Nat.div_add_mod _ _
  have h1 := cellsG_at (E := E) M (j / E.n) hi (j % E.n) hm
  rw [e, hu] at h1
  have h2 := h (j / E.n) hi (j % E.n) u h1.symm
  rw [Nat.add_assoc, e] at h2
  rw [hadd]
  exact h2
end

section
variable {α : Type}
theorem any_nextG {L : List α} {f : α → Bool} {k : Nat} (hk : k < L.length) (h : (L.take k).any f = false) (h2 : f L[k] = false) : (L.take (k + 1)).any f = false := by
  rw [List.take_succ_eq_append_getElem hk]
  simp only [List.any_append, h, List.any_cons, List.any_nil, h2, Bool.or_false]
theorem any_hitG {L : List α} {f : α → Bool} {k : Nat} (hk : k < L.length) (h2 : f L[k] = true) : L.any f = true := List.any_eq_true.2 ⟨_, List.getElem_mem hk, h2⟩
/-- The first place where something is so, or -1. -/
def ixG (f : α → Bool) (L : List α) : Int := if L.any f then (L.findIdx f : Int) else -1
theorem ixG_hit {L : List α} {f : α → Bool} {k : Nat} (hk : k < L.length) (h : (L.take k).any f = false) (h2 : f L[k] = true) : ixG f L = k := by
  rw [ixG, any_hitG hk h2, if_pos rfl]
  congr 1
  rw [List.findIdx_eq hk]
  refine ⟨h2, fun j hj => ?_⟩
  rw [List.any_eq_false] at h
  have := h L[j] (by rw [List.mem_take_iff_getElem]; exact ⟨j, by omega, rfl⟩)
  simpa using this
theorem ixG_no {L : List α} {f : α → Bool} (h : L.any f = false) : ixG f L = -1 := by simp [ixG, h]
theorem ixG_any (L : List α) (f : α → Bool) : decide (0 ≤ ixG f L) = L.any f := by
  unfold ixG
  cases L.any f
  · simp
  · simp
end
section
variable {α : Type}
/-- Are two lists the same, one by one? -/
def smG (q : α → α → Bool) : List α → List α → Bool
  | [], [] => true
  | a :: l, b :: m => q a b && smG q l m
  | _, _ => false
theorem smG_iff {q : α → α → Bool} : ∀ {L M : List α}, smG q L M = true ↔ L.length = M.length ∧ ∀ i (h1 : i < L.length) (h2 : i < M.length), q L[i] M[i] = true
  | [], [] => by simp [smG]
  | [], _ :: _ => by simp [smG]
  | _ :: _, [] => by simp [smG]
  | a :: l, b :: m => by
    rw [smG, Bool.and_eq_true, smG_iff (L := l) (M := m)]
    constructor
    · rintro ⟨h1, h2, h3⟩
      refine ⟨by simp [h2], fun i hi hj => ?_⟩
      cases i with
      | zero => exact h1
      | succ i => exact h3 i (by simpa using hi) (by simpa using hj)
    · rintro ⟨h1, h2⟩
      refine ⟨h2 0 (by simp) (by simp), by simpa using h1, fun i hi hj => ?_⟩
      exact h2 (i + 1) (by simpa using hi) (by simpa using hj)
theorem smG_len {q : α → α → Bool} {L M : List α} (h : L.length ≠ M.length) : smG q L M = false := by
  cases e : smG q L M
  · rfl
  · exact absurd (smG_iff.1 e).1 h
theorem smG_no {q : α → α → Bool} {L M : List α} {k : Nat} (h1 : k < L.length) (h2 : k < M.length) (h : q L[k] M[k] = false) : smG q L M = false := by
  cases e : smG q L M
  · rfl
  · have := (smG_iff.1 e).2 k h1 h2
    rw [h] at this
    cases this
theorem smG_eq {q : α → α → Bool} (hq : ∀ a b, q a b = true ↔ a = b) : ∀ {L M : List α}, smG q L M = true ↔ L = M
  | [], [] => by simp [smG]
  | [], _ :: _ => by simp [smG]
  | _ :: _, [] => by simp [smG]
  | a :: l, b :: m => by
    rw [smG, Bool.and_eq_true, smG_eq hq, hq]
    simp
end
section
variable {P : Program} {α : Type} {E : Enc α}
theorem run_append_none {w : World} (base : Nat) (t ty e : TypeId) (i : TypeInfo) (size cap2 : Nat) (ht : P.underlying t = some (.slice e)) (hi : P.info? e = some i)
    (v : Value) (n : Nat) (xs : List Value) (hown : w.ownsRow base e size v n xs) :
    (Builtin.append_ #[t, t] ty #[v, .slice none 0 cap2]).run P w = .ok v w := by
  rcases hown.2 with ⟨rfl, rfl⟩ | ⟨g, cap, cur, rfl, _, _, hnc, _⟩
  · simp [Builtin.append_, run_underlying ht, sizeOf, typeInfo, hi, Builtin.lenOf, Builtin.firstCells]
  · simp [Builtin.append_, run_underlying ht, sizeOf, typeInfo, hi, Builtin.lenOf, Builtin.firstCells, hnc, storeCells]
/-- Appending a slice, whoever made it, to a row that a call owns. -/
theorem wpList_append_GS (w : World) {ops : Array Oper} {rest : List Oper} {o : Oper} {a : Act} {Q : Exit → Act → World → Prop} (hgd : o.guard = none) (s x : Operand) (t e : TypeId)
    (ho : o.op = .call { callee := .builtin .append, args := #[s, x], argTypes := #[t, t] }) (ht : P.underlying t = some (.slice e)) (i : TypeInfo) (z : Value) (bytes : Nat) (hi : P.info? e = some i) (hz : i.zero = some z)
    (hsize : i.size = E.n) (hby : i.bytes = bytes) (hzs : z.cells.size = E.n) (base : Nat)
    (v : Value) (hs : a.eval s = v) (L : List α) (hown : w.ownsRow base e E.n v L.length (cellsG E L)) (u : Value) (hx : a.eval x = u) (M : List α) (hM : GS E w u M)
    (h63 : L.length + M.length ≤ maxLen) (hbytes : (L.length + M.length) * bytes ≤ 140737488355328) (hbase : base ≤ w.heap.size)
    (h : ∀ v' w', w'.ownsRow base e E.n v' (L ++ M).length (cellsG E (L ++ M)) → w.grownBy w' v.ownBlock → wpList P ops Q rest (a.put o.dst v') w') : wpList P ops Q (o :: rest) a w := by
  have key : ∀ (ad : Addr) (m c : Nat) (news : List Value), a.eval x = .slice (some ad) m c → news.length = m * E.n → (∀ j u, news[j]? = some u → w.cell? (ad.add j) = some u) → (∀ u ∈ news, u.oneCell' = true) → m = M.length → news = cellsG E M → wpList P ops Q (o :: rest) a w := by
    intro ad m c news e1 e2 e3 e4 e5 e6
    refine wpList_append_own w hgd s x t ho base e i z E.n bytes ht hi hz hsize hby hzs E.pos v _ _ hs hown ad m c news e1 e2 e3 e4 (by rw [e5]; exact h63) (by rw [e5]; exact hbytes) hbase ?_
    intro v' w' h1 h2 _
    refine h v' w' ?_ h2
    rw [List.length_append, cellsG_app, ← e5, ← e6]
    exact h1
  rcases hM with ⟨ao, cap, rfl, rfl⟩ | ⟨g, q, cap, rfl, h1, h2, h3⟩
  · cases ao with
    | none =>
      refine wpList_plain hgd fun K hK => ?_
      have hrun := run_append_none (P := P) (w := w) base t o.type e i E.n cap ht hi v _ _ hown
      unfold Oper.wp
      simp [execOp, ho, resolve, invoke, builtin, hs, hx, hrun, Result.andThen]
      exact hK _ _ (h v w (by rw [List.append_nil]; exact hown) ⟨rfl, rfl, rfl, Nat.le_refl _, fun _ _ _ => rfl⟩)
    | some ad => exact key ad 0 cap [] hx (by simp) (by intro j u hu; simp at hu) (by intro u hu; cases hu) rfl rfl
  · exact key ⟨g, q, none⟩ M.length cap (cellsG E M) hx (cellsG_len M) h3.cells (cellsG_all M) rfl rfl

set_option maxRecDepth 100000 in
/-- A slice that came in lies where it says. 'hel': cells that read as one element are its layout. -/
theorem gs_of {H : Type} {enc : TypeId × Value → H} {W : World} {base : Nat} {v : Value} {d : DataW H} {p : List MemPlace} (ts te : TypeId) (hu : P.underlying ts = some (.slice te)) (hC : P.cellsOf te = E.n) (x0 : α)
    (hel : ∀ (n : Nat) (cs : List Value) (x : DataW H × List MemPlace), DataW.trod enc P W 0 (fun _ => true) true n te cs = some x → ∃ y, cs = E.c y)
    (hv : Value.okWide P W .any base ts v) (h : DataW.Trod enc P W 0 (fun _ => true) true ts v d p) : ∃ L, GS E W v L := by
  obtain ⟨a0, len0, cap0, rfl⟩ := okWide_slice hu hv
  obtain ⟨fuel, hf⟩ := h
  have hf2 : DataW.trod enc P W 0 (fun _ => true) true fuel ts [.slice a0 len0 cap0] = some (d, p) := hf
  rcases Go.Deep.open_slice hu hf2 with ⟨hc, hx⟩ | ⟨a, len, cap, m, k, D, Pl, hc, _, hl, hm, hmm, hx, hall⟩
  · simp only [List.cons.injEq, and_true, Value.slice.injEq] at hc
    obtain ⟨rfl, rfl, rfl⟩ := hc
    exact ⟨[], .inl ⟨none, 0, rfl, rfl⟩⟩
  · simp only [List.cons.injEq, and_true, Value.slice.injEq] at hc
    obtain ⟨rfl, rfl, rfl⟩ := hc
    simp only [if_true] at hmm
    subst hmm
    rcases Nat.eq_zero_or_pos len0 with h0 | h0
    · subst h0
      exact ⟨[], .inl ⟨_, _, rfl, rfl⟩⟩
    · have each : ∀ i, i < m → ∃ y : α, ∀ j, j < E.n → W.cell? (a.add (i * E.n + j)) = (E.c y)[j]? := by
        intro i hi
        obtain ⟨cs, h1, h2⟩ := hall i hi
        rw [hC] at h1
        obtain ⟨_, hlen, hcell⟩ := World.cells?_some h1
        obtain ⟨y, rfl⟩ := hel _ _ _ h2
        refine ⟨y, fun j hj => ?_⟩
        have := hcell j (by omega)
        rw [Go.Deep.add_add] at this
        exact this
      have iR : Inhabited α := ⟨x0⟩
      obtain ⟨R, hR⟩ := Go.Deep.choose_lt each
      obtain ⟨sb, so, spot⟩ := a
      have hspot : spot = none := by
        have h1 := hR 0 (by omega) 0 E.pos
        have h2 : (E.c (R 0))[0]?.isSome = true := by
          rw [List.getElem?_eq_getElem (by rw [E.len]; exact E.pos)]
          rfl
        obtain ⟨u, hu2⟩ := Option.isSome_iff_exists.1 h2
        rw [hu2] at h1
        simpa [Addr.add] using World.cell?_spot h1
      subst hspot
      have hadd : ∀ j, (⟨sb, so, none⟩ : Addr).add j = ⟨sb, so + j, none⟩ := by
        intro j
        simp only [Addr.add]
        first
          | rfl
          | (split
             · next h0 => rw [h0]; rfl
             · rfl)
      refine ⟨(List.range len0).map R, .inr ⟨sb, so, _, by simp, by simpa using hl, hm, fun i hi j u hu2 => ?_⟩⟩
      have hi2 : i < len0 := by simpa using hi
      have e : ((List.range len0).map R)[i] = R i := by simp
      rw [e] at hu2
      have hj : j < E.n := by
        have := (List.getElem?_eq_some_iff.1 hu2).1
        rw [E.len] at this
        exact this
      have hc := hR i (by omega) j hj
      rw [hadd, hu2, ← Nat.add_assoc] at hc
      exact hc
end
end Go.Proofs.Ytfbocionnjlilad
