/- Lists of lists of numbers: where they lie, and such that a call owns, each in a block of its own. No program in it. -/
import Derived.Test.YtfbocionnjliladGen
import Derived.Test.YtfbocionnjliladClassMath
import Derived.Laws.OwnMore
namespace Go.Proofs.Ytfbocionnjlilad
open Go.RowKit
set_option linter.unusedVariables false
set_option linter.unusedSimpArgs false

/-- Numbers, a cell each. -/
def inE : Enc Int where
  c := fun x => [.int .i64 x]
  n := 1
  len := fun _ => rfl
  pos := by decide
  one := by
    intro x u hu
    simp at hu
    subst hu
    rfl
theorem in_cells (L : List Int) : cellsG inE L = L.map (Value.int .i64) := by
  induction L with
  | nil => rfl
  | cons x r ih =>
    simp only [cellsG, List.flatMap_cons, List.map_cons] at *
    rw [ih]
    rfl
theorem in_at {w : World} {g o : Nat} {L : List Int} (h : GAt inE w g o L) {n k : Nat} (hn : L.length = n) (hk : k < n) : ∃ (x : Int) (hl : k < L.length), L[k] = x ∧ w.cell? ⟨g, o + k, none⟩ = some (.int .i64 x) := by
  have hl : k < L.length := by omega
  have := h k hl 0 _ rfl
  refine ⟨_, hl, rfl, ?_⟩
  have e : o + k * inE.n + 0 = o + k := by show o + k * 1 + 0 = o + k; omega
  rw [e] at this
  exact this
/-- A slice's three parts. -/
abbrev SlT : Type := Option Addr × Nat × Nat
def slV (x : SlT) : Value := .slice x.1 x.2.1 x.2.2
def slE : Enc SlT where
  c := fun x => [slV x]
  n := 1
  len := fun _ => rfl
  pos := by decide
  one := by
    intro x u hu
    simp at hu
    subst hu
    rfl
theorem sl_cells (L : List SlT) : cellsG slE L = L.map slV := by
  induction L with
  | nil => rfl
  | cons x r ih =>
    simp only [cellsG, List.flatMap_cons, List.map_cons] at *
    rw [ih]
    rfl
/-- These lists lie one behind the other. -/
def ILAt (w : World) (g o : Nat) (Ls : List (List Int)) : Prop := ∀ i (h : i < Ls.length), ∃ ao n cap, w.cell? ⟨g, o + i, none⟩ = some (.slice ao n cap) ∧ GS inE w (.slice ao n cap) Ls[i]
theorem ILAt.later {w w' : World} {g o : Nat} {Ls : List (List Int)} (h : ILAt w g o Ls) (hb : Below w.heap.size w w') : ILAt w' g o Ls := fun i hi => by
  obtain ⟨ao, n, cap, h1, h2⟩ := h i hi
  exact ⟨ao, n, cap, cell_later hb h1, h2.later hb⟩
/-- A value is a slice of these lists. -/
def ILS (w : World) (v : Value) (Ls : List (List Int)) : Prop :=
  (∃ ao cap, v = .slice ao 0 cap ∧ Ls = []) ∨ ∃ g o cap, v = .slice (some ⟨g, o, none⟩) Ls.length cap ∧ Ls.length ≤ cap ∧ cap ≤ maxLen ∧ ILAt w g o Ls
theorem ILS.later {w w' : World} {v : Value} {Ls : List (List Int)} (h : ILS w v Ls) (hb : Below w.heap.size w w') : ILS w' v Ls := by
  rcases h with h | ⟨g, o, cap, h1, h2, h3, h4⟩
  · exact .inl h
  · exact .inr ⟨g, o, cap, h1, h2, h3, h4.later hb⟩
theorem ILS.nil (w : World) : ILS w (.slice none 0 0) [] := .inl ⟨none, 0, rfl, rfl⟩
theorem ILS.form {w : World} {v : Value} {Ls : List (List Int)} (h : ILS w v Ls) : ∃ ao n cap, v = .slice ao n cap ∧ Ls.length = n ∧ n ≤ maxLen ∧ n ≤ cap ∧ (0 < n → ∃ g o, ao = some ⟨g, o, none⟩ ∧ ILAt w g o Ls ∧ cap ≤ maxLen) := by
  rcases h with ⟨ao, cap, rfl, rfl⟩ | ⟨g, o, cap, rfl, h1, h2, h3⟩
  · exact ⟨ao, 0, cap, rfl, rfl, Nat.zero_le _, Nat.zero_le _, fun h => absurd h (by omega)⟩
  · exact ⟨_, _, cap, rfl, rfl, Nat.le_trans h1 h2, h1, fun _ => ⟨g, o, rfl, h3, h2⟩⟩
/-- The k-th of such a list. -/
theorem ILAt.at {w : World} {g o : Nat} {Ls : List (List Int)} (h : ILAt w g o Ls) {n k : Nat} (hn : Ls.length = n) (hk : k < n) : ∃ ao m cap, w.cell? ⟨g, o + k, none⟩ = some (.slice ao m cap) ∧ GS inE w (.slice ao m cap) (Ls.getD k []) := by
  have hl : k < Ls.length := by omega
  obtain ⟨ao, m, cap, h1, h2⟩ := h k hl
  refine ⟨ao, m, cap, h1, ?_⟩
  rw [show Ls.getD k [] = Ls[k] by simp [List.getD, hl]]
  exact h2

/-- Two rows of two kinds lie in two blocks. -/
theorem own_rows2 {w : World} {b1 e1 s1 n1 b2 e2 s2 n2 : Nat} {v1 v2 : Value} {x1 x2 : List Value} (h1 : w.ownsRow b1 e1 s1 v1 n1 x1) (h2 : w.ownsRow b2 e2 s2 v2 n2 x2) (he : e1 ≠ e2) : v1.ownBlock = none ∨ v1.ownBlock ≠ v2.ownBlock := by
  rcases h1.2 with ⟨rfl, _⟩ | ⟨g, cap, cur, rfl, _, hg, _⟩
  · exact .inl rfl
  · refine .inr ?_
    rcases h2.2 with ⟨rfl, _⟩ | ⟨g2, cap2, cur2, rfl, _, hg2, _⟩
    · exact fun h => by cases h
    · intro h
      simp only [Value.ownBlock, Option.some.injEq] at h
      subst h
      rw [hg] at hg2
      simp only [Option.some.injEq, Obj.cells.injEq] at hg2
      exact he hg2.2.1
theorem grown_below {w w' : World} (hb : Below w.heap.size w w') : w.grownBy w' none := ⟨hb.os, hb.tape, hb.output, hb.size, fun k hk _ => hb.block k hk⟩
theorem grown_set (w : World) (b i : Nat) (v : Value) : w.grownBy (w.setCell ⟨b, i, none⟩ v) (some b) :=
  ⟨rfl, rfl, rfl, by simp [World.setCell], fun k _ hk => Below.heap_setCell _ _ _ _ (fun e => hk (by simp [e]))⟩
theorem none_or (o : Option Nat) : o = none ∨ o ≠ none := by cases o <;> simp
/-- Where a row lies behind one more thing: where it lay, or in a new block. -/
theorem run_append_blk {P : Program} {w : World} {base : Nat} (t ty e : TypeId) (i : TypeInfo) (z : Value) (ht : P.underlying t = some (.slice e)) (hi : P.info? e = some i) (hz : i.zero = some z)
    (v : Value) (n : Nat) (xs : List Value) (hown : w.ownsRow base e i.size v n xs)
    (a : Addr) (c : Nat) (news : List Value) (hl : news.length = 1 * i.size) (hnews : ∀ j u, news[j]? = some u → w.cell? (a.add j) = some u) (h1 : ∀ u ∈ news, u.oneCell' = true)
    (h63 : n + 1 ≤ maxLen) (hbytes : (n + 1) * i.bytes ≤ 140737488355328) {v' : Value} {w' : World} (hr : (Builtin.append_ #[t, t] ty #[v, .slice (some a) 1 c]).run P w = .ok v' w') : v'.ownBlock = v.ownBlock ∨ v'.ownBlock = some w.heap.size := by
  have hm : n + 1 ≤ 9223372036854775807 := by simp only [maxLen] at h63; omega
  rcases hown.2 with ⟨rfl, rfl⟩ | ⟨g, cap, cur, rfl, hbg, hg, hnc, hcm, hcs, htake⟩
  · rw [run_append_nil (P := P) w t ty e i z ht hi hz a 1 c news hl hnews (by omega) (by omega) (by have hb := hbytes; simp only [Nat.zero_add] at hb; omega)] at hr
    cases hr
    exact .inr rfl
  · by_cases hroom : n + 1 ≤ cap
    · have hfit : n * i.size + news.length ≤ cur.size := by rw [hl, hcs, ← Nat.add_mul]; exact Nat.mul_le_mul_right _ hroom
      rw [run_append_room (P := P) w t ty e i ht hi g n cap cur hg a 1 c news hl hnews h1 hroom hfit] at hr
      cases hr
      exact .inl rfl
    · rw [run_append_grow (P := P) w t ty e i z ht hi hz ⟨g, 0, none⟩ n cap xs hown.1 (hown.cells (g := g) rfl) a 1 c news hl hnews (by omega) (by omega) (growslice_fits (by omega) hbytes)] at hr
      cases hr
      exact .inr rfl
/-- Appending one thing to a row that a call owns: where the row lies then. -/
theorem wpList_append_blk {P : Program} {α : Type} {E : Enc α} (w : World) {ops : Array Oper} {rest : List Oper} {o : Oper} {a : Act} {Q : Exit → Act → World → Prop} (hgd : o.guard = none) (s x : Operand) (t e : TypeId)
    (ho : o.op = .call { callee := .builtin .append, args := #[s, x], argTypes := #[t, t] }) (ht : P.underlying t = some (.slice e)) (i : TypeInfo) (z : Value) (bytes : Nat) (hi : P.info? e = some i) (hz : i.zero = some z)
    (hsize : i.size = E.n) (hby : i.bytes = bytes) (hzs : z.cells.size = E.n) (base : Nat)
    (v : Value) (hs : a.eval s = v) (L : List α) (hown : w.ownsRow base e E.n v L.length (cellsG E L)) (g q c : Nat) (hx : a.eval x = .slice (some ⟨g, q, none⟩) 1 c) (y : α) (hM : VAt w g q (E.c y))
    (h63 : L.length + 1 ≤ maxLen) (hbytes : (L.length + 1) * bytes ≤ 140737488355328) (hbase : base ≤ w.heap.size)
    (h : ∀ v' w', w'.ownsRow base e E.n v' (L ++ [y]).length (cellsG E (L ++ [y])) → w.grownBy w' v.ownBlock → v'.ownBlock = v.ownBlock ∨ v'.ownBlock = some w.heap.size → wpList P ops Q rest (a.put o.dst v') w') : wpList P ops Q (o :: rest) a w := by
  have hG : GAt E w g q [y] := by
    intro k hk
    obtain rfl : k = 0 := by simp at hk; omega
    simpa using hM
  have hc := hG.cells
  rw [cellsG_one] at hc
  have hl : (E.c y).length = 1 * E.n := by rw [E.len]; omega
  obtain ⟨v', w', hr, h2, h3, _⟩ := run_append_own (P := P) w base t o.type e i z E.n bytes ht hi hz hsize hby hzs E.pos v _ _ hown ⟨g, q, none⟩ 1 c (E.c y) hl hc (E.one y) h63 hbytes hbase
  have hb := run_append_blk (P := P) t o.type e i z ht hi hz v _ _ (by rw [hsize]; exact hown) ⟨g, q, none⟩ c (E.c y) (by rw [hsize]; exact hl) hc (E.one y) h63 (by rw [hby]; exact hbytes) hr
  refine wpList_plain hgd fun K hK => ?_
  unfold Oper.wp execOp
  simp only [ho, resolve, invoke, builtin, Sem.run_bind, Sem.run_pure, Result.andThen_ok, List.map_toArray, List.map_cons, List.map_nil, hs, hx, hr]
  exact hK _ _ (h v' w' (by rw [List.length_append, cellsG_app, cellsG_one]; exact h2) h3 hb)

/-- Two lists of lists that a call owns (the classes, and what is said of each), each list in a block of its own. -/
structure CP (e1 e2 : TypeId) (w : World) (B : Nat) (v u : Value) (vs us : List SlT) (Cs Ps : List (List Int)) : Prop where
  ov : w.ownsRow B e2 slE.n v vs.length (cellsG slE vs)
  ou : w.ownsRow B e2 slE.n u us.length (cellsG slE us)
  ne : v.ownBlock = none ∨ v.ownBlock ≠ u.ownBlock
  lv : vs.length = Cs.length
  lu : us.length = Ps.length
  rv : ∀ (i : Nat) (x : SlT) (L : List Int), vs[i]? = some x → Cs[i]? = some L → w.ownsRow B e1 inE.n (slV x) L.length (cellsG inE L)
  ru : ∀ (i : Nat) (x : SlT) (L : List Int), us[i]? = some x → Ps[i]? = some L → w.ownsRow B e1 inE.n (slV x) L.length (cellsG inE L)
  dd : ((vs ++ us).map fun x => (slV x).ownBlock).Nodup
section
variable {e1 e2 : TypeId} {w w' : World} {B : Nat} {v u : Value} {vs us : List SlT} {Cs Ps : List (List Int)}
theorem cp_nil (e1 e2 : TypeId) (w : World) (B : Nat) : CP e1 e2 w B (.slice none 0 0) (.slice none 0 0) [] [] [] [] :=
  ⟨World.ownsRow_nil w B e2 slE.n, World.ownsRow_nil w B e2 slE.n, .inl rfl, rfl, rfl, fun i x L h => by simp at h, fun i x L h => by simp at h, by simp⟩
theorem CP.keep (h : CP e1 e2 w B v u vs us Cs Ps) (hg : w.grownBy w' none) : CP e1 e2 w' B v u vs us Cs Ps :=
  ⟨h.ov.kept hg (none_or _), h.ou.kept hg (none_or _), h.ne, h.lv, h.lu, fun i x L h1 h2 => (h.rv i x L h1 h2).kept hg (none_or _), fun i x L h1 h2 => (h.ru i x L h1 h2).kept hg (none_or _), h.dd⟩
theorem CP.later (h : CP e1 e2 w B v u vs us Cs Ps) (hb : Below w.heap.size w w') : CP e1 e2 w' B v u vs us Cs Ps := h.keep (grown_below hb)
theorem CP.swap (h : CP e1 e2 w B v u vs us Cs Ps) : CP e1 e2 w B u v us vs Ps Cs := by
  refine ⟨h.ou, h.ov, ?_, h.lu, h.lv, h.ru, h.rv, ?_⟩
  · rcases h.ne with h1 | h1
    · rw [h1]; exact none_or _
    · exact .inr (Ne.symm h1)
  · have := h.dd
    rw [List.map_append] at this ⊢
    exact (List.perm_append_comm.nodup_iff).1 this
/-- All blocks of the lists are old ones. -/
theorem CP.old (h : CP e1 e2 w B v u vs us Cs Ps) : ∀ y ∈ vs ++ us, ∀ k, (slV y).ownBlock = some k → k < w.heap.size := by
  intro y hy k hk
  rcases List.mem_append.1 hy with hy | hy
  · obtain ⟨i, hi, rfl⟩ := List.getElem_of_mem hy
    have hi2 : i < Cs.length := by rw [← h.lv]; exact hi
    exact ((h.rv i _ _ (List.getElem?_eq_getElem hi) (List.getElem?_eq_getElem hi2)).lt k hk).2
  · obtain ⟨i, hi, rfl⟩ := List.getElem_of_mem hy
    have hi2 : i < Ps.length := by rw [← h.lu]; exact hi
    exact ((h.ru i _ _ (List.getElem?_eq_getElem hi) (List.getElem?_eq_getElem hi2)).lt k hk).2
/-- One list more. -/
theorem CP.push (h : CP e1 e2 w B v u vs us Cs Ps) (he : e1 ≠ e2) {x : SlT} {L : List Int} (hx : w.ownsRow B e1 inE.n (slV x) L.length (cellsG inE L)) (hnew : ∀ y ∈ vs ++ us, (slV y).ownBlock ≠ (slV x).ownBlock) {v' : Value}
    (hg : w.grownBy w' v.ownBlock) (ho : w'.ownsRow B e2 slE.n v' (vs ++ [x]).length (cellsG slE (vs ++ [x]))) (hb : v'.ownBlock = v.ownBlock ∨ v'.ownBlock = some w.heap.size) : CP e1 e2 w' B v' u (vs ++ [x]) us (Cs ++ [L]) Ps := by
  have hu : u.ownBlock = none ∨ u.ownBlock ≠ v.ownBlock := h.swap.ne
  have inner : ∀ {y : SlT} {M : List Int}, w.ownsRow B e1 inE.n (slV y) M.length (cellsG inE M) → w'.ownsRow B e1 inE.n (slV y) M.length (cellsG inE M) := fun hy => hy.kept hg (own_rows2 hy h.ov he)
  refine ⟨ho, h.ou.kept hg hu, ?_, by simp [h.lv], h.lu, ?_, fun i y M h1 h2 => inner (h.ru i y M h1 h2), ?_⟩
  · rcases hb with hb | hb
    · rw [hb]; exact h.ne
    · refine .inr ?_
      rw [hb]
      intro h3
      have := (h.ou.lt _ h3.symm).2
      omega
  · intro i y M h1 h2
    by_cases hi : i < vs.length
    · rw [List.getElem?_append_left hi] at h1
      rw [List.getElem?_append_left (by rw [← h.lv]; exact hi)] at h2
      exact inner (h.rv i y M h1 h2)
    · have hi2 : i = vs.length := by
        have := (List.getElem?_eq_some_iff.1 h1).1
        simp at this
        omega
      subst hi2
      simp at h1
      rw [h.lv] at h2
      simp at h2
      subst h1 h2
      exact inner hx
  · have hd := h.dd
    have hp : (((vs ++ [x]) ++ us).map fun x => (slV x).ownBlock).Perm ((slV x).ownBlock :: ((vs ++ us).map fun x => (slV x).ownBlock)) := by
      have : ((vs ++ [x]) ++ us).Perm (x :: (vs ++ us)) := by
        rw [List.append_assoc]
        exact List.perm_middle
      exact this.map _
    refine hp.nodup_iff.2 (List.nodup_cons.2 ⟨?_, hd⟩)
    intro hm
    obtain ⟨y, hy, he2⟩ := List.mem_map.1 hm
    exact hnew y hy he2
/-- One number more in one of the lists. -/
theorem CP.put (h : CP e1 e2 w B v u vs us Cs Ps) (he : e1 ≠ e2) {i : Nat} {x x' : SlT} {L' : List Int} (hx : vs[i]? = some x)
    (hg : w.grownBy w' (slV x).ownBlock) (ho : w'.ownsRow B e1 inE.n (slV x') L'.length (cellsG inE L')) (hb : (slV x').ownBlock = (slV x).ownBlock ∨ (slV x').ownBlock = some w.heap.size)
    {g n cap : Nat} (hv : v = .slice (some ⟨g, 0, none⟩) n cap) : CP e1 e2 (w'.setCell ⟨g, i, none⟩ (slV x')) B v u (vs.set i x') us (Cs.set i L') Ps := by
  have hiv : i < vs.length := (List.getElem?_eq_some_iff.1 hx).1
  have hiC : i < Cs.length := by rw [← h.lv]; exact hiv
  have hrow := h.rv i x _ hx (List.getElem?_eq_getElem hiC)
  have hxo : ∀ {y : Value} {n : Nat} {X : List Value}, w.ownsRow B e2 slE.n y n X → w'.ownsRow B e2 slE.n y n X := fun hy => hy.kept hg (own_rows2 hy hrow (Ne.symm he))
  have h1 := hxo h.ov
  have h2 := hxo h.ou
  subst hv
  have hgw : w'.grownBy (w'.setCell ⟨g, i, none⟩ (slV x')) (some g) := grown_set w' g i (slV x')
  have hug : u.ownBlock = none ∨ u.ownBlock ≠ some g := h.swap.ne
  have apart : ∀ {j : Nat} {y : SlT}, (vs ++ us)[j]? = some y → j ≠ i → (slV y).ownBlock ≠ (slV x).ownBlock := by
    intro j y hy hj heq
    have hd := h.dd
    have a1 : ((vs ++ us).map fun x => (slV x).ownBlock)[j]? = some (slV y).ownBlock := by rw [List.getElem?_map, hy]; rfl
    have a2 : ((vs ++ us).map fun x => (slV x).ownBlock)[i]? = some (slV y).ownBlock := by rw [List.getElem?_map, List.getElem?_append_left hiv, hx, heq]; rfl
    exact hj (nd_at hd a1 a2)
  have inner : ∀ {y : SlT} {M : List Int}, (slV y).ownBlock = none ∨ (slV y).ownBlock ≠ (slV x).ownBlock → w.ownsRow B e1 inE.n (slV y) M.length (cellsG inE M) → (w'.setCell ⟨g, i, none⟩ (slV x')).ownsRow B e1 inE.n (slV y) M.length (cellsG inE M) := by
    intro y M hne hy
    have hy' := hy.kept hg hne
    exact hy'.kept hgw (own_rows2 hy' h1 he)
  refine ⟨?_, h2.kept hgw hug, h.ne, by simp [h.lv], h.lu, ?_, ?_, ?_⟩
  · have hn : n = vs.length := by
      rcases h1.2 with ⟨h3, _⟩ | ⟨_, _, _, h3, _⟩
      · cases h3
      · simp only [Value.slice.injEq] at h3
        exact h3.2.1
    rw [List.length_set, sl_cells, List.map_set]
    rw [sl_cells, ← hn] at h1
    rw [← hn]
    exact (h1.stored _ _).1
  · intro j y M a1 a2
    by_cases hij : i = j
    · subst hij
      rw [List.getElem?_set_self hiv] at a1
      rw [List.getElem?_set_self hiC] at a2
      cases a1
      cases a2
      exact ho.kept hgw (own_rows2 ho h1 he)
    · rw [List.getElem?_set_ne hij] at a1 a2
      have hj : j < vs.length := (List.getElem?_eq_some_iff.1 a1).1
      exact inner (.inr (apart (j := j) (by rw [List.getElem?_append_left hj]; exact a1) (Ne.symm hij))) (h.rv j y M a1 a2)
  · intro j y M a1 a2
    exact inner (.inr (apart (j := vs.length + j) (by rw [List.getElem?_append_right (by omega)]; simpa using a1) (by omega))) (h.ru j y M a1 a2)
  · have hd := h.dd
    rw [List.Nodup, List.pairwise_iff_getElem] at hd ⊢
    have key : ∀ j (hj : j < (((vs.set i x') ++ us).map fun x => (slV x).ownBlock).length), (((vs.set i x') ++ us).map fun x => (slV x).ownBlock)[j] = if j = i then (slV x').ownBlock else ((vs ++ us).map fun x => (slV x).ownBlock)[j]'(by simpa using hj) := by
      intro j hj
      simp only [List.getElem_map, ← List.set_append_left _ _ hiv, List.getElem_set]
      by_cases e : i = j
      · subst e; simp
      · rw [if_neg e, if_neg (Ne.symm e)]
    have xin : ((vs ++ us).map fun x => (slV x).ownBlock)[i]'(by simp; omega) = (slV x).ownBlock := by
      have : ((vs ++ us).map fun x => (slV x).ownBlock)[i]? = some (slV x).ownBlock := by rw [List.getElem?_map, List.getElem?_append_left hiv, hx]; rfl
      obtain ⟨_, h3⟩ := List.getElem?_eq_some_iff.1 this
      exact h3
    have fresh : ∀ j (hj : j < ((vs ++ us).map fun x => (slV x).ownBlock).length), j ≠ i → ((vs ++ us).map fun x => (slV x).ownBlock)[j] ≠ (slV x').ownBlock := by
      intro j hj hji heq
      have hj2 : j < (vs ++ us).length := by simpa using hj
      rcases hb with hb | hb
      · have := apart (j := j) (y := (vs ++ us)[j]) (List.getElem?_eq_getElem hj2) hji
        rw [List.getElem_map] at heq
        exact this (heq.trans hb)
      · rw [List.getElem_map, hb] at heq
        have := h.old _ (List.getElem_mem hj2) _ heq
        omega
    intro a b ha hb' hab
    rw [key a ha, key b hb']
    by_cases ea : a = i
    · rw [if_pos ea, if_neg (by omega)]
      exact (fresh b (by simpa using hb') (by omega)).symm
    · rw [if_neg ea]
      by_cases eb : b = i
      · rw [if_pos eb]
        exact fresh a (by simpa using ha) ea
      · rw [if_neg eb]
        exact hd a b _ _ hab
/-- What such a call owns may be read. -/
theorem CP.ls (h : CP e1 e2 w B v u vs us Cs Ps) : ILS w v Cs := by
  rcases own_GS h.ov with ⟨ao, cap, rfl, h0⟩ | ⟨g, o, cap, rfl, h1, h2, h3⟩
  · refine .inl ⟨ao, cap, rfl, ?_⟩
    have := h.lv
    rw [h0] at this
    exact List.length_eq_zero_iff.1 this.symm
  · refine .inr ⟨g, o, cap, by rw [h.lv], by rw [← h.lv]; exact h1, h2, fun i hi => ?_⟩
    have hi2 : i < vs.length := by rw [h.lv]; exact hi
    have := h3 i hi2 0 _ rfl
    have e : o + i * slE.n + 0 = o + i := by show o + i * 1 + 0 = o + i; omega
    rw [e] at this
    exact ⟨_, _, _, this, own_GS (h.rv i _ _ (List.getElem?_eq_getElem hi2) (List.getElem?_eq_getElem hi))⟩
end
end Go.Proofs.Ytfbocionnjlilad
