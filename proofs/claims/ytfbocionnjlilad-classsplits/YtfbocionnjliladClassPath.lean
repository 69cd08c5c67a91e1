/- What counts in each of some tables, and a table with one rule more. No program in it. -/
import Derived.Test.YtfbocionnjliladRuleTabMath
import Derived.Test.YtfbocionnjliladClassMath
namespace Go.Proofs.Ytfbocionnjlilad
open Go.RowKit
set_option linter.unusedVariables false

/-- Of each table the place of the rule that counts; -1: none. -/
def pthL (Ts : List (List Ru)) (h : Int) : List Int := Ts.map fun t => beTo t h t.length
theorem pth_len (Ts : List (List Ru)) (h : Int) : (pthL Ts h).length = Ts.length := by simp [pthL]
theorem pth_next (Ts : List (List Ru)) (h : Int) (k : Nat) (hk : k < Ts.length) : pthL (Ts.take (k + 1)) h = pthL (Ts.take k) h ++ [beTo (Ts.getD k []) h (Ts.getD k []).length] := by
  unfold pthL
  rw [List.take_succ_eq_append_getElem hk, List.map_append, show Ts.getD k [] = Ts[k] by simp [List.getD, hk]]
  rfl
/-- The classes of a table, of some tables. -/
def clsL (Ts : List (List Ru)) : List (List Int) := (kcTo (pthL Ts) 16).1
theorem be_app (L : List Ru) (r : Ru) (h : Int) : ∀ k, k ≤ L.length → beTo (L ++ [r]) h k = beTo L h k
  | 0, _ => rfl
  | k + 1, hk => by
    have ih := be_app L r h k (by omega)
    have g : ∀ j, j < L.length → (L ++ [r]).getD j zeR = L.getD j zeR := by
      intro j hj
      rw [List.getD, List.getD, List.getElem?_append_left hj]
    have hb := be_bd L h k
    unfold beTo
    rw [ih, g k (by omega)]
    by_cases hn : beTo L h k < 0
    · simp [hn]
    · rw [g (beTo L h k).toNat (by omega)]
/-- A rule behind the others, above all: what counts then. -/
theorem be_more {L : List Ru} {r : Ru} (hp : ∀ x ∈ L, x.p < r.p) (h : Int) : beTo (L ++ [r]) h (L ++ [r]).length = if r.has h then (L.length : Int) else beTo L h L.length := by
  have hl : (L ++ [r]).length = L.length + 1 := by simp
  rw [hl, beTo, be_app L r h L.length (Nat.le_refl _)]
  have g : (L ++ [r]).getD L.length zeR = r := by simp [List.getD]
  rw [g]
  cases hh : r.has h
  · simp
  · simp only [Bool.true_and, if_true]
    rw [if_pos]
    by_cases hn : beTo L h L.length < 0
    · simp [hn]
    · have hb := be_bd L h L.length
      have hlt : (beTo L h L.length).toNat < L.length := by omega
      have e : (L ++ [r]).getD (beTo L h L.length).toNat zeR = L[(beTo L h L.length).toNat] := by
        rw [List.getD, List.getElem?_append_left hlt, List.getElem?_eq_getElem hlt]
        rfl
      have := hp _ (List.getElem_mem hlt)
      have h2 : 0 < ordR r L[(beTo L h L.length).toNat] := by
        apply Int.lt_of_not_ge
        intro h3
        have := ord_le.1 h3
        omega
      rw [e]
      simp [h2]
/-- MORE RULES: one class more at most; those that the rule has are apart from the others. -/
theorem more_few {L : List Ru} {r : Ru} (hp : ∀ x ∈ L, x.p < r.p) : (clsL [L ++ [r]]).length ≤ (clsL [L]).length + 1 := by
  refine kc_few [(L.length : Int)] fun x _ => ?_
  unfold pthL
  simp only [List.map_cons, List.map_nil, be_more hp]
  cases r.has x
  · exact .inl (by simp)
  · exact .inr (by simp)
theorem more_apart {L : List Ru} {r : Ru} (hp : ∀ x ∈ L, x.p < r.p) {C : List Int} (hC : C ∈ clsL [L ++ [r]]) {x y : Int} (hx : x ∈ C) (hy : y ∈ C) : r.has x = r.has y := by
  obtain ⟨i, hi, rfl⟩ := List.getElem_of_mem hC
  have hi2 : i < (kcTo (pthL [L ++ [r]]) 16).2.length := by
    have := kc_len (pthL [L ++ [r]]) 16
    have h3 : i < (kcTo (pthL [L ++ [r]]) 16).1.length := hi
    omega
  obtain ⟨a, _, rfl, ea⟩ := (kc_in hi hi2).1 hx
  obtain ⟨b, _, rfl, eb⟩ := (kc_in hi hi2).1 hy
  have e : pthL [L ++ [r]] (a : Int) = pthL [L ++ [r]] (b : Int) := ea.trans eb.symm
  unfold pthL at e
  simp only [List.map_cons, List.map_nil, be_more hp, List.cons.injEq, and_true] at e
  have h1 := be_bd L a L.length
  have h2 := be_bd L b L.length
  cases e1 : r.has (a : Int) <;> cases e2 : r.has (b : Int) <;> simp [e1, e2] at e ⊢ <;> omega
theorem cls_pos (Ts : List (List Ru)) : 1 ≤ (clsL Ts).length := kc_pos (by omega)
theorem cls_le (Ts : List (List Ru)) : (clsL Ts).length ≤ 16 := by
  have := kc_len (pthL Ts) 16
  unfold clsL
  omega
theorem cls_size (Ts : List (List Ru)) : ∀ C ∈ clsL Ts, 0 < C.length ∧ C.length ≤ 16 := kc_sizes
end Go.Proofs.Ytfbocionnjlilad
