/- What is left of a cube and what was taken from it, header by header: no program in it. -/
import Derived.Test.YtclecpcnmfhhcaaCubesMath
namespace Go.Proofs.Ytclecpcnmfhhcaa
open Go.RowKit

theorem meetHas_all : (rights.all fun p => rights.all fun q => (List.range 16).all fun (h : Nat) => (hasB p.1 p.2 (h : Int) && hasB q.1 q.2 (h : Int)) == (mtOk p.1 p.2 q.1 q.2 && hasB (mtM p.1 p.2 q.1 q.2) (mtB p.1 p.2 q.1 q.2) (h : Int))) = true := by decide +kernel
theorem meetHas {m b n c : Int} (h1 : okB m b = true) (h2 : okB n c = true) {h : Nat} (hh : h < 16) : (hasB m b (h : Int) && hasB n c (h : Int)) = (mtOk m b n c && hasB (mtM m b n c) (mtB m b n c) (h : Int)) := by
  have := of_all2 (P := fun m b n c => (List.range 16).all fun (h : Nat) => (hasB m b (h : Int) && hasB n c (h : Int)) == (mtOk m b n c && hasB (mtM m b n c) (mtB m b n c) (h : Int))) meetHas_all h1 h2
  simp only [List.all_eq_true, List.mem_range, beq_iff_eq] at this
  exact this h hh

/-- What was taken from a cube. -/
def tk (m b : Int) (L : List (Int × Int)) : List (Int × Int) := L.filterMap fun p => if mtOk m b p.1 p.2 then some (mtM m b p.1 p.2, mtB m b p.1 p.2) else none
theorem tk_hit {m b : Int} {L : List (Int × Int)} {k : Nat} (hk : k < L.length) {x y : Int} (hL : L[k] = (x, y)) (h : mtOk m b x y = true) : tk m b (L.take (k + 1)) = tk m b (L.take k) ++ [(mtM m b x y, mtB m b x y)] := by
  rw [List.take_succ_eq_append_getElem hk, tk, List.filterMap_append, hL]
  simp [tk, h]
theorem tk_miss {m b : Int} {L : List (Int × Int)} {k : Nat} (hk : k < L.length) {x y : Int} (hL : L[k] = (x, y)) (h : mtOk m b x y = false) : tk m b (L.take (k + 1)) = tk m b (L.take k) := by
  rw [List.take_succ_eq_append_getElem hk, tk, List.filterMap_append, hL]
  simp [tk, h]
theorem tk_len (m b : Int) (L : List (Int × Int)) : (tk m b L).length ≤ L.length := List.length_filterMap_le _ _
theorem tk_ok {m b : Int} {L : List (Int × Int)} : okL (tk m b L) = true := by
  induction L with
  | nil => rfl
  | cons p r ih =>
    simp only [tk, List.filterMap_cons]
    cases h : mtOk m b p.1 p.2
    · exact ih
    · simp only [if_true, okL, List.all_cons, Bool.and_eq_true]
      exact ⟨(mt_in h).1, ih⟩
theorem tk_any {m b : Int} (h1 : okB m b = true) {L : List (Int × Int)} (h2 : okL L = true) {h : Nat} (hh : h < 16) : anyB (tk m b L) (h : Int) = (hasB m b (h : Int) && anyB L (h : Int)) := by
  induction L with
  | nil => simp [tk, anyB]
  | cons p r ih =>
    simp only [okL, List.all_cons, Bool.and_eq_true] at h2
    have i := ih h2.2
    have e := meetHas h1 h2.1 hh
    simp only [tk, List.filterMap_cons]
    cases ht : mtOk m b p.1 p.2
    · rw [ht, Bool.false_and] at e
      simp only [anyB, List.any_cons] at i ⊢
      rw [Bool.and_or_distrib_left, e, Bool.false_or]
      exact i
    · rw [ht, Bool.true_and] at e
      simp only [if_true, anyB, List.any_cons] at i ⊢
      rw [Bool.and_or_distrib_left, e]
      congr 1
/-- What is left of one and what was taken are it again. -/
theorem left_taken {m b : Int} (h1 : okB m b = true) {L : List (Int × Int)} (h2 : okL L = true) : okL (lessL (m, b) L ++ tk m b L) = true ∧ hsTo (lessL (m, b) L ++ tk m b L) 16 = hsTo [(m, b)] 16 := by
  have hp := parts_lessL (a := (m, b)) h1 h2
  refine ⟨by simp only [okL, List.all_append, Bool.and_eq_true]; exact ⟨hp.ok, tk_ok⟩, hs_same fun k hk => ?_⟩
  have e1 := parts_any hp hk
  have e2 := tk_any h1 h2 hk
  simp only [anyB, List.any_append, List.any_cons, List.any_nil, Bool.or_false] at e1 e2 ⊢
  rw [e1, e2]
  cases hasB m b (k : Int) <;> simp
end Go.Proofs.Ytclecpcnmfhhcaa
