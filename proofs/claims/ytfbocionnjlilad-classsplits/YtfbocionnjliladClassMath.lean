/- Classes of numbers by what a function says of them, in plain lists. No program in it. -/
import Derived.Test.YtfbocionnjliladGen
namespace Go.Proofs.Ytfbocionnjlilad
open Go.RowKit
set_option linter.unusedVariables false

/-- The place of the class of k among what was said of the classes so far; -1: none. -/
def ixC (f : Int → List Int) (k : Int) (Ps : List (List Int)) : Int := ixG (fun p => p == f k) Ps
/-- The classes of the first k numbers, and what the function says of each. -/
def kcTo (f : Int → List Int) : Nat → List (List Int) × List (List Int)
  | 0 => ([], [])
  | k + 1 =>
    if ixC f k (kcTo f k).2 < 0 then ((kcTo f k).1 ++ [[(k : Int)]], (kcTo f k).2 ++ [f k])
    else ((kcTo f k).1.set (ixC f k (kcTo f k).2).toNat ((kcTo f k).1.getD (ixC f k (kcTo f k).2).toNat [] ++ [(k : Int)]), (kcTo f k).2)
theorem ixG_lt {α : Type} {q : α → Bool} {L : List α} (h : 0 ≤ ixG q L) : (ixG q L).toNat < L.length ∧ ∀ (hl : (ixG q L).toNat < L.length), q L[(ixG q L).toNat] = true := by
  unfold ixG at h ⊢
  cases e : L.any q
  · rw [e] at h
    simp at h
  · simp only [if_true, Int.toNat_natCast]
    have h1 : ∃ x, x ∈ L ∧ q x = true := by
      rw [List.any_eq_true] at e
      exact e
    have h2 := List.findIdx_lt_length.2 h1
    exact ⟨h2, fun hl => List.findIdx_getElem (w := hl)⟩
theorem ixG_neg {α : Type} {q : α → Bool} {L : List α} (h : ixG q L < 0) : ∀ x ∈ L, q x = false := by
  unfold ixG at h
  cases e : L.any q
  · rw [List.any_eq_false] at e
    intro x hx
    simpa using e x hx
  · rw [e] at h
    simp at h
    omega
theorem kc_yes {f : Int → List Int} {k : Nat} (h : ixC f k (kcTo f k).2 < 0) : kcTo f (k + 1) = ((kcTo f k).1 ++ [[(k : Int)]], (kcTo f k).2 ++ [f k]) := by rw [kcTo, if_pos h]
theorem kc_no {f : Int → List Int} {k : Nat} (h : ¬ ixC f k (kcTo f k).2 < 0) : kcTo f (k + 1) = ((kcTo f k).1.set (ixC f k (kcTo f k).2).toNat ((kcTo f k).1.getD (ixC f k (kcTo f k).2).toNat [] ++ [(k : Int)]), (kcTo f k).2) := by rw [kcTo, if_neg h]
theorem kc_len (f : Int → List Int) : ∀ k : Nat, (kcTo f k).1.length = (kcTo f k).2.length ∧ (kcTo f k).2.length ≤ k
  | 0 => by simp [kcTo]
  | k + 1 => by
    have ih := kc_len f k
    by_cases h : ixC f k (kcTo f k).2 < 0
    · rw [kc_yes h]
      simp only [List.length_append, List.length_cons, List.length_nil]
      omega
    · rw [kc_no h]
      simp only [List.length_set]
      omega
theorem kc_mem (f : Int → List Int) : ∀ (k : Nat) (p : List Int), p ∈ (kcTo f k).2 ↔ ∃ x : Nat, x < k ∧ p = f x
  | 0, p => by simp [kcTo]
  | k + 1, p => by
    have ih := kc_mem f k
    by_cases h : ixC f k (kcTo f k).2 < 0
    · rw [kc_yes h]
      simp only [List.mem_append, List.mem_singleton, ih]
      constructor
      · rintro (⟨x, h1, h2⟩ | h1)
        · exact ⟨x, by omega, h2⟩
        · exact ⟨k, by omega, h1⟩
      · rintro ⟨x, h1, h2⟩
        by_cases hx : x = k
        · subst hx; exact .inr h2
        · exact .inl ⟨x, by omega, h2⟩
    · rw [kc_no h]
      simp only [ih]
      constructor
      · rintro ⟨x, h1, h2⟩
        exact ⟨x, by omega, h2⟩
      · rintro ⟨x, h1, h2⟩
        by_cases hx : x = k
        · subst hx
          obtain ⟨j1, j2⟩ := ixG_lt (Int.not_lt.1 h)
          have j3 := eq_of_beq (j2 j1)
          rw [h2, ← j3]
          exact (ih _).1 (List.getElem_mem j1)
        · exact ⟨x, by omega, h2⟩
theorem kc_nd (f : Int → List Int) : ∀ (k : Nat), (kcTo f k).2.Nodup
  | 0 => by simp [kcTo]
  | k + 1 => by
    have ih := kc_nd f k
    by_cases h : ixC f k (kcTo f k).2 < 0
    · rw [kc_yes h]
      simp only [List.nodup_append]
      refine ⟨ih, by simp, ?_⟩
      intro a ha b hb hab
      simp at hb
      subst hb hab
      have := ixG_neg h _ ha
      simp at this
    · rw [kc_no h]
      exact ih
theorem nd_at {α : Type} {L : List α} (h : L.Nodup) {i j : Nat} {x : α} (hi : L[i]? = some x) (hj : L[j]? = some x) : i = j := by
  obtain ⟨i1, i2⟩ := List.getElem?_eq_some_iff.1 hi
  obtain ⟨j1, j2⟩ := List.getElem?_eq_some_iff.1 hj
  have := List.pairwise_iff_getElem.1 h
  rcases Nat.lt_trichotomy i j with h6 | h6 | h6
  · exact absurd (i2.trans j2.symm) (this i j i1 j1 h6)
  · exact h6
  · exact absurd (j2.trans i2.symm) (this j i j1 i1 h6)
/-- Those of the first k numbers of which this is said. -/
def saidL (f : Int → List Int) (k : Nat) (p : List Int) : List Int := ((List.range k).filter (fun (x : Nat) => f x == p)).map (fun (x : Nat) => (x : Int))
theorem said_next (f : Int → List Int) (k : Nat) (p : List Int) : saidL f (k + 1) p = saidL f k p ++ (if f k = p then [(k : Int)] else []) := by
  unfold saidL
  rw [List.range_succ, List.filter_append, List.map_append]
  by_cases h : f k = p
  · rw [if_pos h]; simp [h]
  · rw [if_neg h]; simp [h]
/-- What is so of the classes: the numbers of the i-th one are those of which the i-th thing is said. -/
theorem kc_said (f : Int → List Int) : ∀ (k i : Nat) (p : List Int), (kcTo f k).2[i]? = some p → (kcTo f k).1[i]? = some (saidL f k p)
  | 0, i, p, h => by simp [kcTo] at h
  | k + 1, i, p, hp => by
    have hl := kc_len f k
    have ih := kc_said f k i
    by_cases h : ixC f k (kcTo f k).2 < 0
    · rw [kc_yes h] at hp ⊢
      have hno := ixG_neg h
      by_cases hi : i < (kcTo f k).2.length
      · simp only [List.getElem?_append_left hi] at hp
        simp only [List.getElem?_append_left (show i < (kcTo f k).1.length by omega)]
        rw [ih p hp, said_next, if_neg, List.append_nil]
        intro h3
        have := hno p (List.mem_of_getElem? hp)
        simp [h3] at this
      · have hi2 : i = (kcTo f k).2.length := by
          have := (List.getElem?_eq_some_iff.1 hp).1
          simp at this
          omega
        subst hi2
        simp at hp
        subst hp
        have e : (kcTo f k).2.length = (kcTo f k).1.length := hl.1.symm
        rw [e]
        simp only [List.getElem?_concat_length, Option.some.injEq, said_next, if_true]
        have : saidL f k (f k) = [] := by
          unfold saidL
          rw [List.map_eq_nil_iff, List.filter_eq_nil_iff]
          intro x hx h3
          simp at hx h3
          have hm := (kc_mem f k (f x)).2 ⟨x, hx, rfl⟩
          have := hno _ hm
          simp [h3] at this
        rw [this]
        rfl
    · have hnd := kc_nd f k
      rw [kc_no h] at hp ⊢
      simp only at hp ⊢
      obtain ⟨j1, j2⟩ := ixG_lt (Int.not_lt.1 h)
      have j3 := eq_of_beq (j2 j1)
      have j5 : (kcTo f k).2[(ixC f k (kcTo f k).2).toNat]? = some (f k) := by
        show (kcTo f k).2[(ixG (fun p => p == f k) (kcTo f k).2).toNat]? = _
        rw [List.getElem?_eq_getElem j1, j3]
      have j6 : (ixC f k (kcTo f k).2).toNat < (kcTo f k).2.length := j1
      generalize (ixC f k (kcTo f k).2).toNat = j at j5 j6
      by_cases hij : j = i
      · subst hij
        rw [hp] at j5
        cases j5
        have h1 := ih _ hp
        have h2 : (kcTo f k).1.getD j [] = saidL f k (f k) := by rw [List.getD, h1]; rfl
        rw [List.getElem?_set_self (by omega), h2, said_next, if_pos rfl]
      · rw [List.getElem?_set_ne hij, ih p hp, said_next, if_neg, List.append_nil]
        intro h3
        rw [← h3] at hp
        exact hij (nd_at hnd j5 hp)
theorem kc_row (f : Int → List Int) (k i : Nat) (h1 : i < (kcTo f k).1.length) (h2 : i < (kcTo f k).2.length) : (kcTo f k).1[i] = ((List.range k).filter (fun (x : Nat) => f x == (kcTo f k).2[i])).map (fun (x : Nat) => (x : Int)) := by
  have := kc_said f k i _ (List.getElem?_eq_getElem h2)
  rw [List.getElem?_eq_getElem h1] at this
  exact Option.some.inj this
/-- A number is in the i-th class just if the i-th thing is said of it. -/
theorem kc_in {f : Int → List Int} {k i : Nat} (h1 : i < (kcTo f k).1.length) (h2 : i < (kcTo f k).2.length) {x : Int} : x ∈ (kcTo f k).1[i] ↔ ∃ y : Nat, y < k ∧ x = y ∧ f y = (kcTo f k).2[i] := by
  rw [kc_row f k i h1 h2]
  simp only [List.mem_map, List.mem_filter, List.mem_range, beq_iff_eq]
  constructor
  · rintro ⟨y, ⟨h3, h4⟩, rfl⟩
    exact ⟨y, h3, rfl, h4⟩
  · rintro ⟨y, h3, rfl, h4⟩
    exact ⟨y, ⟨h3, h4⟩, rfl⟩
theorem kc_size {f : Int → List Int} {k i : Nat} (h1 : i < (kcTo f k).1.length) : 0 < (kcTo f k).1[i].length ∧ (kcTo f k).1[i].length ≤ k := by
  have h2 : i < (kcTo f k).2.length := by have := kc_len f k; omega
  constructor
  · obtain ⟨x, hx, he⟩ := (kc_mem f k _).1 (List.getElem_mem h2)
    exact List.length_pos_of_mem ((kc_in h1 h2).2 ⟨x, hx, rfl, he.symm⟩)
  · rw [kc_row f k i h1 h2, List.length_map]
    exact Nat.le_trans (List.length_filter_le _ _) (by simp)
theorem kc_sizes {f : Int → List Int} {k : Nat} : ∀ C ∈ (kcTo f k).1, 0 < C.length ∧ C.length ≤ k := by
  intro C hC
  obtain ⟨i, hi, rfl⟩ := List.getElem_of_mem hC
  exact kc_size hi
/-- How often a number is there when one row has one more. -/
theorem count_set (x y : Int) : ∀ (L : List (List Int)) (i : Nat), i < L.length → (L.set i (L.getD i [] ++ [y])).flatten.count x = L.flatten.count x + if y = x then 1 else 0
  | [], i, h => by simp at h
  | a :: l, 0, _ => by
    simp only [List.set_cons_zero, List.getD_cons_zero, List.flatten_cons, List.count_append, List.count_singleton, beq_iff_eq]
    omega
  | a :: l, i + 1, h => by
    have := count_set x y l i (by simpa using h)
    simp only [List.set_cons_succ, List.getD_cons_succ, List.flatten_cons, List.count_append]
    rw [this]
    omega
/-- Each number is there once. -/
theorem kc_count (f : Int → List Int) (x : Int) : ∀ k : Nat, (kcTo f k).1.flatten.count x = if 0 ≤ x ∧ x < k then 1 else 0
  | 0 => by
    simp only [kcTo]
    rw [if_neg (by omega)]
    rfl
  | k + 1 => by
    have ih := kc_count f x k
    have key : (kcTo f (k + 1)).1.flatten.count x = (kcTo f k).1.flatten.count x + if (k : Int) = x then 1 else 0 := by
      by_cases h : ixC f k (kcTo f k).2 < 0
      · rw [kc_yes h]
        simp only [List.flatten_append, List.count_append, List.flatten_cons, List.flatten_nil, List.append_nil, List.count_singleton, beq_iff_eq]
      · rw [kc_no h]
        obtain ⟨j1, _⟩ := ixG_lt (Int.not_lt.1 h)
        have := kc_len f k
        exact count_set x k _ _ (by unfold ixC; omega)
    rw [key, ih]
    by_cases h1 : (k : Int) = x
    · rw [if_pos h1, if_neg (by omega), if_pos (by omega)]
    · rw [if_neg h1]
      by_cases h2 : 0 ≤ x ∧ x < (k : Int)
      · rw [if_pos h2, if_pos (by omega)]
      · rw [if_neg h2, if_neg (by omega)]
/-- The least of the first k. -/
def mnTo (L : List Int) : Nat → Int
  | 0 => 0
  | k + 1 => if k = 0 ∨ L.getD k 0 < mnTo L k then L.getD k 0 else mnTo L k
theorem mn_mem {L : List Int} : ∀ k, 0 < k → k ≤ L.length → mnTo L k ∈ L
  | 0, h, _ => by omega
  | k + 1, _, h => by
    have e : L.getD k 0 ∈ L := by
      rw [show L.getD k 0 = L[k] by simp [List.getD, show k < L.length by omega]]
      exact List.getElem_mem _
    rw [mnTo]
    split
    · exact e
    · next h1 => exact mn_mem k (by omega) (by omega)
/-- The place of the first list that has a number, the fault and the answer of Rep. -/
def hasL (h : Int) (C : List Int) : Bool := C.any (fun x => x == h)
def rpI (Ls : List (List Int)) (h : Int) : Int := ixG (hasL h) Ls
def rpN (Ls : List (List Int)) (h : Int) : Int := if rpI Ls h < 0 then 5 else 0
def rpV (Ls : List (List Int)) (h : Int) : Int := if rpI Ls h < 0 then 0 else mnTo (Ls.getD (rpI Ls h).toNat []) (Ls.getD (rpI Ls h).toNat []).length
theorem hasL_iff {h : Int} {C : List Int} : hasL h C = true ↔ h ∈ C := by
  simp [hasL]
/-- The first number's class: which thing is said of it, which is its least one. -/
theorem rp_of {f : Int → List Int} {k : Nat} {h : Int} (h0 : 0 ≤ h) (h1 : h < k) : ∃ i, ∃ (hi : i < (kcTo f k).1.length) (hj : i < (kcTo f k).2.length), rpN (kcTo f k).1 h = 0 ∧ rpV (kcTo f k).1 h = mnTo (kcTo f k).1[i] (kcTo f k).1[i].length ∧ f h = (kcTo f k).2[i] ∧ rpV (kcTo f k).1 h ∈ (kcTo f k).1[i] := by
  obtain ⟨y, rfl⟩ := Int.eq_ofNat_of_zero_le h0
  have hy : y < k := by omega
  obtain ⟨i, hi, he⟩ := List.getElem_of_mem ((kc_mem f k (f y)).2 ⟨y, hy, rfl⟩)
  have hi1 : i < (kcTo f k).1.length := by have := kc_len f k; omega
  have hin : (y : Int) ∈ (kcTo f k).1[i] := (kc_in hi1 hi).2 ⟨y, hy, rfl, he.symm⟩
  have hpos : 0 ≤ rpI (kcTo f k).1 y := by
    rcases Int.lt_or_le (rpI (kcTo f k).1 y) 0 with h2 | h2
    · have := ixG_neg h2 _ (List.getElem_mem hi1)
      rw [hasL_iff.2 hin] at this
      cases this
    · exact h2
  obtain ⟨j1, j2⟩ := ixG_lt hpos
  have j3 := hasL_iff.1 (j2 j1)
  have j4 : (ixG (hasL (y : Int)) (kcTo f k).1).toNat < (kcTo f k).2.length := by have := kc_len f k; omega
  obtain ⟨z, hz1, hz2, hz3⟩ := (kc_in j1 j4).1 j3
  have hzy : z = y := by omega
  subst hzy
  have eV : rpV (kcTo f k).1 z = mnTo (kcTo f k).1[(ixG (hasL (z : Int)) (kcTo f k).1).toNat] (kcTo f k).1[(ixG (hasL (z : Int)) (kcTo f k).1).toNat].length := by
    unfold rpV
    rw [if_neg (by omega)]
    have : (kcTo f k).1.getD (rpI (kcTo f k).1 z).toNat [] = (kcTo f k).1[(ixG (hasL (z : Int)) (kcTo f k).1).toNat] := by
      show (kcTo f k).1.getD (ixG (hasL (z : Int)) (kcTo f k).1).toNat [] = _
      simp only [List.getD, List.getElem?_eq_getElem j1, Option.getD_some]
    rw [this]
  refine ⟨_, j1, j4, ?_, eV, hz3, ?_⟩
  · unfold rpN
    rw [if_neg (by omega)]
  · rw [eV]
    exact mn_mem _ (kc_size j1).1 (Nat.le_refl _)
/-- ALIKE IS ALIKE: two have one least just if the same is said of both. -/
theorem rp_same {f : Int → List Int} {k : Nat} {h o : Int} (h0 : 0 ≤ h) (h1 : h < k) (o0 : 0 ≤ o) (o1 : o < k) : rpV (kcTo f k).1 h = rpV (kcTo f k).1 o ↔ f h = f o := by
  obtain ⟨i, i1, i2, _, i3, i4, i5⟩ := rp_of (f := f) h0 h1
  obtain ⟨j, j1, j2, _, j3, j4, j5⟩ := rp_of (f := f) o0 o1
  constructor
  · intro he
    rw [he] at i5
    obtain ⟨y, _, e1, e2⟩ := (kc_in i1 i2).1 i5
    obtain ⟨z, _, e3, e4⟩ := (kc_in j1 j2).1 j5
    have : y = z := by omega
    rw [i4, j4, ← e2, ← e4, this]
  · intro he
    have hij : i = j := by
      rw [i4, j4] at he
      exact nd_at (kc_nd f k) (List.getElem?_eq_getElem i2) (by rw [List.getElem?_eq_getElem j2, he])
    subst hij
    rw [i3, j3]
theorem nd_sub {α : Type} [BEq α] [LawfulBEq α] : ∀ {A B : List α}, A.Nodup → A ⊆ B → A.length ≤ B.length
  | [], _, _, _ => by simp
  | a :: A, B, h, hs => by
    have ha : a ∈ B := hs List.mem_cons_self
    have h1 : A ⊆ B.erase a := fun x hx => (List.mem_erase_of_ne (by rintro rfl; exact (List.nodup_cons.1 h).1 hx)).2 (hs (List.mem_cons_of_mem _ hx))
    have h2 := nd_sub (List.nodup_cons.1 h).2 h1
    rw [List.length_erase_of_mem ha] at h2
    have h3 := List.length_pos_of_mem ha
    simp only [List.length_cons]
    omega
/-- Of two functions of which the second says what the first says, or one thing more: it has one class more at most. -/
theorem kc_few {f g : Int → List Int} {k : Nat} (q : List Int) (h : ∀ x : Nat, x < k → g x = f x ∨ g x = q) : (kcTo g k).1.length ≤ (kcTo f k).1.length + 1 := by
  rw [(kc_len g k).1, (kc_len f k).1]
  have hsub : (kcTo g k).2 ⊆ q :: (kcTo f k).2 := by
    intro p hp
    obtain ⟨x, hx, rfl⟩ := (kc_mem g k p).1 hp
    rcases h x hx with e | e
    · rw [e]
      exact List.mem_cons_of_mem _ ((kc_mem f k _).2 ⟨x, hx, rfl⟩)
    · rw [e]
      exact List.mem_cons_self
  have := nd_sub (kc_nd g k) hsub
  simpa using this
theorem kc_pos {f : Int → List Int} {k : Nat} (hk : 0 < k) : 1 ≤ (kcTo f k).1.length := by
  have := (kc_mem f k (f (0 : Nat))).2 ⟨0, hk, rfl⟩
  have := List.length_pos_of_mem this
  have := kc_len f k
  omega
end Go.Proofs.Ytfbocionnjlilad
