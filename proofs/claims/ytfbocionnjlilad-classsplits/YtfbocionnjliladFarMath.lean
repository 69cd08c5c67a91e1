/- How far it is over links from a switch to another one, in plain numbers: by fewest links, as far back, by a third one no nearer. No program in it. -/
import Derived.WalkKit
namespace Go.Proofs.Ytfbocionnjlilad
open Go.RowKit

/-- Does one come over at most n links from a to b? J: is there a link between two; the switches are 1 to S. -/
def rcB (S : Nat) (J : Nat → Nat → Bool) (a : Nat) : Nat → Nat → Bool
  | 0, b => b == a
  | n + 1, b => rcB S J a n b || (decide (1 ≤ b) && (decide (b ≤ S) && (List.range (S + 1)).any fun k => decide (1 ≤ k) && (rcB S J a n k && J k b)))
theorem rc_0 {S : Nat} {J : Nat → Nat → Bool} {a b : Nat} : rcB S J a 0 b = true ↔ b = a := by simp [rcB]
theorem rc_s {S : Nat} {J : Nat → Nat → Bool} {a b n : Nat} : rcB S J a (n + 1) b = true ↔ (rcB S J a n b = true ∨ (1 ≤ b ∧ b ≤ S ∧ ∃ k, 1 ≤ k ∧ k ≤ S ∧ rcB S J a n k = true ∧ J k b = true)) := by
  simp only [rcB, Bool.or_eq_true, Bool.and_eq_true, decide_eq_true_eq, List.any_eq_true, List.mem_range]
  constructor
  · rintro (h | ⟨h1, h2, k, h3, h4, h5, h6⟩)
    · exact .inl h
    · exact .inr ⟨h1, h2, k, h4, by omega, h5, h6⟩
  · rintro (h | ⟨h1, h2, k, h4, h3, h5, h6⟩)
    · exact .inl h
    · exact .inr ⟨h1, h2, k, by omega, h4, h5, h6⟩
section
variable {S : Nat} {J : Nat → Nat → Bool}
theorem rc_in {a : Nat} (h1 : 1 ≤ a) (h2 : a ≤ S) : ∀ {n b : Nat}, rcB S J a n b = true → 1 ≤ b ∧ b ≤ S
  | 0, b, h => by rw [rc_0] at h; omega
  | n + 1, b, h => by
    rw [rc_s] at h
    rcases h with h | ⟨h3, h4, _⟩
    · exact rc_in h1 h2 h
    · exact ⟨h3, h4⟩
theorem rc_le {a b n : Nat} (h : rcB S J a n b = true) : ∀ {m : Nat}, n ≤ m → rcB S J a m b = true
  | 0, hm => by
    obtain rfl : n = 0 := by omega
    exact h
  | m + 1, hm => by
    by_cases e : n = m + 1
    · rw [← e]; exact h
    · exact rc_s.2 (.inl (rc_le h (by omega)))
/-- One way behind the other. -/
theorem rc_tr {a c n : Nat} (h : rcB S J a n c = true) : ∀ {m b : Nat}, rcB S J c m b = true → rcB S J a (n + m) b = true
  | 0, b, hb => by
    rw [rc_0] at hb
    rw [hb]
    exact h
  | m + 1, b, hb => by
    rw [rc_s] at hb
    rcases hb with hb | ⟨h1, h2, k, h3, h4, h5, h6⟩
    · exact rc_s.2 (.inl (rc_tr h hb))
    · exact rc_s.2 (.inr ⟨h1, h2, k, h3, h4, rc_tr h h5, h6⟩)
/-- And back. -/
theorem rc_sy {a : Nat} (hJ : ∀ x y, J x y = J y x) (h1 : 1 ≤ a) (h2 : a ≤ S) : ∀ {n b : Nat}, rcB S J a n b = true → rcB S J b n a = true
  | 0, b, h => by
    rw [rc_0] at h ⊢
    exact h.symm
  | n + 1, b, h => by
    have hb := rc_in h1 h2 h
    rw [rc_s] at h
    rcases h with h | ⟨_, _, k, h3, h4, h5, h6⟩
    · exact rc_s.2 (.inl (rc_sy hJ h1 h2 h))
    · have ih := rc_sy hJ h1 h2 h5
      have e1 : rcB S J b 1 k = true := rc_s.2 (.inr ⟨h3, h4, b, hb.1, hb.2, rc_0.2 rfl, by rw [hJ]; exact h6⟩)
      have := rc_tr e1 ih
      rw [Nat.add_comm] at this
      exact this
theorem filter_lt {p q : Nat → Bool} (hpq : ∀ x, p x = true → q x = true) : ∀ {l : List Nat}, (∃ x ∈ l, q x = true ∧ p x = false) → (l.filter p).length < (l.filter q).length
  | [], h => by obtain ⟨x, hx, _⟩ := h; cases hx
  | y :: l, h => by
    have hle : ∀ l : List Nat, (l.filter p).length ≤ (l.filter q).length := by
      intro l
      induction l with
      | nil => simp
      | cons z l ih =>
        cases hp : p z
        · cases hq : q z
          · simp [hp, hq]; exact ih
          · simp [hp, hq]; omega
        · simp [hp, hpq z hp]; exact ih
    obtain ⟨x, hx, hq, hp⟩ := h
    rcases List.mem_cons.1 hx with e | hx
    · subst e
      have := hle l
      simp [hp, hq]
      omega
    · have ih := filter_lt hpq (l := l) ⟨x, hx, hq, hp⟩
      cases hpy : p y
      · cases hqy : q y
        · simp [hpy, hqy]; exact ih
        · simp [hpy, hqy]; omega
      · simp [hpy, hpq y hpy]; exact ih
/-- Nothing new in a round: nothing new ever. -/
theorem rc_st {a n : Nat} (h : ∀ b, rcB S J a (n + 1) b = true → rcB S J a n b = true) : ∀ {m b : Nat}, rcB S J a m b = true → n ≤ m → rcB S J a n b = true
  | 0, b, hb, hm => by
    obtain rfl : n = 0 := by omega
    exact hb
  | m + 1, b, hb, hm => by
    by_cases e : n = m + 1
    · rw [e]; exact hb
    · rw [rc_s] at hb
      rcases hb with hb | ⟨h1, h2, k, h3, h4, h5, h6⟩
      · exact rc_st h hb (by omega)
      · exact h b (rc_s.2 (.inr ⟨h1, h2, k, h3, h4, rc_st h h5 (by omega), h6⟩))
theorem rc_grow {a : Nat} (h1 : 1 ≤ a) (h2 : a ≤ S) : ∀ n : Nat, (∃ m, m < n ∧ ∀ b, rcB S J a (m + 1) b = true → rcB S J a m b = true) ∨ n + 1 ≤ ((List.range (S + 1)).filter (rcB S J a n)).length
  | 0 => by
    refine .inr ?_
    have : 0 < ((List.range (S + 1)).filter (rcB S J a 0)).length := by
      rw [List.length_pos_iff_exists_mem]
      exact ⟨a, List.mem_filter.2 ⟨List.mem_range.2 (by omega), rc_0.2 rfl⟩⟩
    omega
  | n + 1 => by
    rcases rc_grow h1 h2 n with ⟨m, hm, h⟩ | h
    · exact .inl ⟨m, by omega, h⟩
    · by_cases hs : ∀ b, rcB S J a (n + 1) b = true → rcB S J a n b = true
      · exact .inl ⟨n, by omega, hs⟩
      · refine .inr ?_
        have hx : ∃ x ∈ List.range (S + 1), rcB S J a (n + 1) x = true ∧ rcB S J a n x = false := by
          apply Classical.byContradiction
          intro hno
          refine hs fun b hb => ?_
          cases e : rcB S J a n b
          · have := rc_in h1 h2 hb
            exact absurd ⟨b, List.mem_range.2 (by omega), hb, e⟩ hno
          · rfl
        have := filter_lt (p := rcB S J a n) (q := rcB S J a (n + 1)) (fun x hx => rc_s.2 (.inl hx)) hx
        omega
/-- One comes over all links in one less than there are switches, or not at all. -/
theorem rc_all {a b n : Nat} (h1 : 1 ≤ a) (h2 : a ≤ S) (h : rcB S J a n b = true) : rcB S J a (S - 1) b = true := by
  rcases rc_grow (J := J) h1 h2 S with ⟨m, hm, hs⟩ | hg
  · by_cases hn : n ≤ m
    · exact rc_le h (by omega)
    · exact rc_le (rc_st hs h (by omega)) (by omega)
  · exfalso
    have hsub : ((List.range (S + 1)).filter (rcB S J a S)).length ≤ S := by
      have e : List.range (S + 1) = 0 :: (List.range S).map (· + 1) := by
        rw [List.range_succ_eq_map]
      rw [e, List.filter_cons]
      have h0 : rcB S J a S 0 = false := by
        cases e0 : rcB S J a S 0
        · rfl
        · have := rc_in h1 h2 e0
          omega
      rw [h0]
      have := List.length_filter_le (rcB S J a S) ((List.range S).map (· + 1))
      simpa using this
    omega
end
/-- The first number of some that fits, or -1. -/
def fstB (p : Nat → Bool) : Nat → Nat → Int
  | 0, _ => -1
  | k + 1, n => if p n then (n : Int) else fstB p k (n + 1)
/-- How far it is: -1: one does not come there. -/
def farN (S : Nat) (J : Nat → Nat → Bool) (a b : Nat) : Int := fstB (fun n => rcB S J a n b) 7 0
theorem fst_no {p : Nat → Bool} : ∀ {k n : Nat}, (∀ m, n ≤ m → m < n + k → p m = false) → fstB p k n = -1
  | 0, _, _ => rfl
  | k + 1, n, h => by
    rw [fstB, h n (by omega) (by omega), if_neg (by decide)]
    exact fst_no fun m h1 h2 => h m (by omega) (by omega)
theorem fst_at {p : Nat → Bool} {m : Nat} : ∀ {k n : Nat}, n ≤ m → m < n + k → (∀ j, n ≤ j → j < m → p j = false) → p m = true → fstB p k n = m
  | 0, n, h1, h2, _, _ => by omega
  | k + 1, n, h1, h2, h3, h4 => by
    rw [fstB]
    by_cases e : n = m
    · rw [e, h4, if_pos rfl]
    · rw [h3 n (by omega) (by omega), if_neg (by decide)]
      exact fst_at (by omega) (by omega) (fun j h5 h6 => h3 j (by omega) h6) h4
theorem fst_or {p : Nat → Bool} {k n : Nat} : (fstB p k n = -1 ∧ ∀ m, n ≤ m → m < n + k → p m = false) ∨ ∃ m : Nat, n ≤ m ∧ m < n + k ∧ fstB p k n = m ∧ p m = true ∧ ∀ j, n ≤ j → j < m → p j = false := by
  induction k generalizing n with
  | zero => exact .inl ⟨rfl, fun m h1 h2 => by omega⟩
  | succ k ih =>
    rw [fstB]
    cases e : p n
    · rw [if_neg (by decide)]
      rcases ih (n := n + 1) with ⟨h1, h2⟩ | ⟨m, h1, h2, h3, h4, h5⟩
      · refine .inl ⟨h1, fun m h3 h4 => ?_⟩
        by_cases e2 : m = n
        · rw [e2]; exact e
        · exact h2 m (by omega) (by omega)
      · refine .inr ⟨m, by omega, by omega, h3, h4, fun j h6 h7 => ?_⟩
        by_cases e2 : j = n
        · rw [e2]; exact e
        · exact h5 j (by omega) h7
    · exact .inr ⟨n, Nat.le_refl _, by omega, by simp, e, fun j h1 h2 => by omega⟩
section
variable {S : Nat} {J : Nat → Nat → Bool}
/-- Far: not at all, or the fewest links. -/
theorem far_or {a b : Nat} (h1 : 1 ≤ a) (h2 : a ≤ S) (h6 : S ≤ 6) : (farN S J a b = -1 ∧ ∀ n, rcB S J a n b = false) ∨ ∃ m : Nat, farN S J a b = m ∧ rcB S J a m b = true ∧ ∀ n, rcB S J a n b = true → m ≤ n := by
  rcases fst_or (p := fun n => rcB S J a n b) (k := 7) (n := 0) with ⟨e, h⟩ | ⟨m, _, hm, e, hp, h⟩
  · refine .inl ⟨e, fun n => ?_⟩
    cases e2 : rcB S J a n b
    · rfl
    · have := rc_all h1 h2 e2
      rw [h (S - 1) (by omega) (by omega)] at this
      cases this
  · refine .inr ⟨m, e, hp, fun n hn => ?_⟩
    rcases Nat.lt_or_ge n m with hlt | hge
    · have hx := h n (by omega) hlt
      rw [hn] at hx
      cases hx
    · exact hge
theorem far_sy {a b : Nat} (hJ : ∀ x y, J x y = J y x) (a1 : 1 ≤ a) (a2 : a ≤ S) (b1 : 1 ≤ b) (b2 : b ≤ S) (h6 : S ≤ 6) : farN S J a b = farN S J b a := by
  rcases far_or (J := J) (b := b) a1 a2 h6 with ⟨e, h⟩ | ⟨m, e, hm, hl⟩
  · rcases far_or (J := J) (b := a) b1 b2 h6 with ⟨e2, _⟩ | ⟨m2, e2, hm2, _⟩
    · rw [e, e2]
    · have := rc_sy hJ b1 b2 hm2
      rw [h] at this
      cases this
  · rcases far_or (J := J) (b := a) b1 b2 h6 with ⟨e2, h2⟩ | ⟨m2, e2, hm2, hl2⟩
    · have := rc_sy hJ a1 a2 hm
      rw [h2] at this
      cases this
    · have i1 := hl _ (rc_sy hJ b1 b2 hm2)
      have i2 := hl2 _ (rc_sy hJ a1 a2 hm)
      rw [e, e2]
      congr 1
      omega
theorem far_tr {a b c : Nat} (a1 : 1 ≤ a) (a2 : a ≤ S) (c1 : 1 ≤ c) (c2 : c ≤ S) (h6 : S ≤ 6) (h1 : 0 ≤ farN S J a c) (h2 : 0 ≤ farN S J c b) : 0 ≤ farN S J a b ∧ farN S J a b ≤ farN S J a c + farN S J c b := by
  rcases far_or (J := J) (b := c) a1 a2 h6 with ⟨e, _⟩ | ⟨m, e, hm, _⟩
  · omega
  · rcases far_or (J := J) (b := b) c1 c2 h6 with ⟨e2, _⟩ | ⟨m2, e2, hm2, _⟩
    · omega
    · have h3 := rc_tr hm hm2
      rcases far_or (J := J) (b := b) a1 a2 h6 with ⟨e3, h4⟩ | ⟨m3, e3, hm3, hl3⟩
      · rw [h4] at h3; cases h3
      · have := hl3 _ h3
        rw [e, e2, e3]
        omega
theorem far_0 {a b : Nat} (a1 : 1 ≤ a) (a2 : a ≤ S) (h6 : S ≤ 6) : farN S J a b = 0 ↔ b = a := by
  constructor
  · intro h
    rcases far_or (J := J) (b := b) a1 a2 h6 with ⟨e, _⟩ | ⟨m, e, hm, _⟩
    · omega
    · rw [e] at h
      obtain rfl : m = 0 := by omega
      exact rc_0.1 hm
  · intro h
    exact fst_at (m := 0) (Nat.le_refl _) (by omega) (fun j _ hj => by omega) (rc_0.2 h)
end
end Go.Proofs.Ytfbocionnjlilad
