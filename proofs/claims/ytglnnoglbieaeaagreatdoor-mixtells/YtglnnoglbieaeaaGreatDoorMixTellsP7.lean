/- Contracts and facts on the way to MixTells, joined into one text: ClassMath, ClassMem, ChangeMem, ChangeOps, ClassTwo, StrClone, AlikeMath, SmTopo, TableOps, TableDiff. -/
import Derived.Test.YtglnnoglbieaeaaGreatDoorMixTellsP1
import Derived.Test.YtglnnoglbieaeaaGreatDoorMixTellsP4
import Derived.Test.YtglnnoglbieaeaaGreatDoorMixTellsP6
import Derived.Test.YtglnnoglbieaeaaGreatDoorMixTellsP3
import Derived.Test.YtglnnoglbieaeaaGreatDoorMixTellsP2
import Derived.Laws.OwnMore
import Derived.Test.YtglnnoglbieaeaaGreatDoorRows
import Derived.Lib.Strings
import Derived.Lib.Walk
import Derived.Lib.BufferWrite
import Derived.Lib.UnsafeStr
import Derived.Laws.MakeOwn
import Derived.WalkKit
import Derived.WalkSpells
import Derived.Below
import Derived.Deep.CutRange
import Derived.Deep.CutBlock
/- Classes of numbers by what a function says of them, in plain lists. No program in it. -/
namespace Go.Proofs.YtglnnoglbieaeaaGreatDoor
open Go.RowKit
set_option linter.unusedVariables false

/-- The place of the class of k among what was said of the classes so far; -1: none. -/
def ixC (f : Int → List Int) (k : Int) (Ps : List (List Int)) : Int := ixG (fun p => p == f k) Ps
/-- The classes of the first k numbers, and what the function says of each. -/
def kcTo (f : Int → List Int) : Nat → List (List Int) × List (List Int)
  | 0 => ([], [])
  | k + 1 =>
    if ixC f k (kcTo f k).2 < 0 then ((kcTo f k).1 ++ [[(k : Int)]], (kcTo f k).2 ++ [f k])
    else ((kcTo f k).1.set (ixC f k (kcTo f k).2).toNat ((kcTo f k).1.getD (ixC f k (kcTo f k).2).toNat [] ++ [(k : Int)]), (kcTo f k).2)
theorem ixG_lt {α : Type} {q : α → Bool} {L : List α} (h : 0 ≤ ixG q L) : (ixG q L).toNat < L.length ∧ ∀ (hl : (ixG q L).toNat < L.length), q L[(ixG q L).toNat] = true := by
  unfold ixG at h ⊢
  cases e : L.any q
  · rw [e] at h
    simp at h
  · simp only [if_true, Int.toNat_natCast]
    have h1 : ∃ x, x ∈ L ∧ q x = true := by
      rw [List.any_eq_true] at e
      exact e
    have h2 := List.findIdx_lt_length.2 h1
    exact ⟨h2, fun hl => List.findIdx_getElem (w := hl)⟩
theorem ixG_neg {α : Type} {q : α → Bool} {L : List α} (h : ixG q L < 0) : ∀ x ∈ L, q x = false := by
  unfold ixG at h
  cases e : L.any q
  · rw [List.any_eq_false] at e
    intro x hx
    simpa using e x hx
  · rw [e] at h
    simp at h
    omega
theorem kc_yes {f : Int → List Int} {k : Nat} (h : ixC f k (kcTo f k).2 < 0) : kcTo f (k + 1) = ((kcTo f k).1 ++ [[(k : Int)]], (kcTo f k).2 ++ [f k]) := by rw [kcTo, if_pos h]
theorem kc_no {f : Int → List Int} {k : Nat} (h : ¬ ixC f k (kcTo f k).2 < 0) : kcTo f (k + 1) = ((kcTo f k).1.set (ixC f k (kcTo f k).2).toNat ((kcTo f k).1.getD (ixC f k (kcTo f k).2).toNat [] ++ [(k : Int)]), (kcTo f k).2) := by rw [kcTo, if_neg h]
theorem kc_len (f : Int → List Int) : ∀ k : Nat, (kcTo f k).1.length = (kcTo f k).2.length ∧ (kcTo f k).2.length ≤ k
  | 0 => by simp [kcTo]
  | k + 1 => by
    have ih := kc_len f k
    by_cases h : ixC f k (kcTo f k).2 < 0
    · rw [kc_yes h]
      simp only [List.length_append, List.length_cons, List.length_nil]
      omega
    · rw [kc_no h]
      simp only [List.length_set]
      omega
theorem kc_mem (f : Int → List Int) : ∀ (k : Nat) (p : List Int), p ∈ (kcTo f k).2 ↔ ∃ x : Nat, x < k ∧ p = f x
  | 0, p => by simp [kcTo]
  | k + 1, p => by
    have ih := kc_mem f k
    by_cases h : ixC f k (kcTo f k).2 < 0
    · rw [kc_yes h]
      simp only [List.mem_append, List.mem_singleton, ih]
      constructor
      · rintro (⟨x, h1, h2⟩ | h1)
        · exact ⟨x, by omega, h2⟩
        · exact ⟨k, by omega, h1⟩
      · rintro ⟨x, h1, h2⟩
        by_cases hx : x = k
        · subst hx; exact .inr h2
        · exact .inl ⟨x, by omega, h2⟩
    · rw [kc_no h]
      simp only [ih]
      constructor
      · rintro ⟨x, h1, h2⟩
        exact ⟨x, by omega, h2⟩
      · rintro ⟨x, h1, h2⟩
        by_cases hx : x = k
        · subst hx
          obtain ⟨j1, j2⟩ := ixG_lt (Int.not_lt.1 h)
          have j3 := eq_of_beq (j2 j1)
          rw [h2, ← j3]
          exact (ih _).1 (List.getElem_mem j1)
        · exact ⟨x, by omega, h2⟩
theorem kc_nd (f : Int → List Int) : ∀ (k : Nat), (kcTo f k).2.Nodup
  | 0 => by simp [kcTo]
  | k + 1 => by
    have ih := kc_nd f k
    by_cases h : ixC f k (kcTo f k).2 < 0
    · rw [kc_yes h]
      simp only [List.nodup_append]
      refine ⟨ih, by simp, ?_⟩
      intro a ha b hb hab
      simp at hb
      subst hb hab
      have := ixG_neg h _ ha
      simp at this
    · rw [kc_no h]
      exact ih
theorem nd_at {α : Type} {L : List α} (h : L.Nodup) {i j : Nat} {x : α} (hi : L[i]? = some x) (hj : L[j]? = some x) : i = j := by
  obtain ⟨i1, i2⟩ := List.getElem?_eq_some_iff.1 hi
  obtain ⟨j1, j2⟩ := List.getElem?_eq_some_iff.1 hj
  have := List.pairwise_iff_getElem.1 h
  rcases Nat.lt_trichotomy i j with h6 | h6 | h6
  · exact absurd (i2.trans j2.symm) (this i j i1 j1 h6)
  · exact h6
  · exact absurd (j2.trans i2.symm) (this j i j1 i1 h6)
/-- Those of the first k numbers of which this is said. -/
def saidL (f : Int → List Int) (k : Nat) (p : List Int) : List Int := ((List.range k).filter (fun (x : Nat) => f x == p)).map (fun (x : Nat) => (x : Int))
theorem said_next (f : Int → List Int) (k : Nat) (p : List Int) : saidL f (k + 1) p = saidL f k p ++ (if f k = p then [(k : Int)] else []) := by
  unfold saidL
  rw [List.range_succ, List.filter_append, List.map_append]
  by_cases h : f k = p
  · rw [if_pos h]; simp [h]
  · rw [if_neg h]; simp [h]
/-- What is so of the classes: the numbers of the i-th one are those of which the i-th thing is said. -/
theorem kc_said (f : Int → List Int) : ∀ (k i : Nat) (p : List Int), (kcTo f k).2[i]? = some p → (kcTo f k).1[i]? = some (saidL f k p)
  | 0, i, p, h => by simp [kcTo] at h
  | k + 1, i, p, hp => by
    have hl := kc_len f k
    have ih := kc_said f k i
    by_cases h : ixC f k (kcTo f k).2 < 0
    · rw [kc_yes h] at hp ⊢
      have hno := ixG_neg h
      by_cases hi : i < (kcTo f k).2.length
      · simp only [List.getElem?_append_left hi] at hp
        simp only [List.getElem?_append_left (show i < (kcTo f k).1.length by omega)]
        rw [ih p hp, said_next, if_neg, List.append_nil]
        intro h3
        have := hno p (List.mem_of_getElem? hp)
        simp [h3] at this
      · have hi2 : i = (kcTo f k).2.length := by
          have := (List.getElem?_eq_some_iff.1 hp).1
          simp at this
          omega
        subst hi2
        simp at hp
        subst hp
        have e : (kcTo f k).2.length = (kcTo f k).1.length := hl.1.symm
        rw [e]
        simp only [List.getElem?_concat_length, Option.some.injEq, said_next, if_true]
        have : saidL f k (f k) = [] := by
          unfold saidL
          rw [List.map_eq_nil_iff, List.filter_eq_nil_iff]
          intro x hx h3
          simp at hx h3
          have hm := (kc_mem f k (f x)).2 ⟨x, hx, rfl⟩
          have := hno _ hm
          simp [h3] at this
        rw [this]
        rfl
    · have hnd := kc_nd f k
      rw [kc_no h] at hp ⊢
      simp only at hp ⊢
      obtain ⟨j1, j2⟩ := ixG_lt (Int.not_lt.1 h)
      have j3 := eq_of_beq (j2 j1)
      have j5 : (kcTo f k).2[(ixC f k (kcTo f k).2).toNat]? = some (f k) := by
        show (kcTo f k).2[(ixG (fun p => p == f k) (kcTo f k).2).toNat]? = _
        rw [List.getElem?_eq_getElem j1, j3]
      have j6 : (ixC f k (kcTo f k).2).toNat < (kcTo f k).2.length := j1
      generalize (ixC f k (kcTo f k).2).toNat = j at j5 j6
      by_cases hij : j = i
      · subst hij
        rw [hp] at j5
        cases j5
        have h1 := ih _ hp
        have h2 : (kcTo f k).1.getD j [] = saidL f k (f k) := by rw [List.getD, h1]; rfl
        rw [List.getElem?_set_self (by omega), h2, said_next, if_pos rfl]
      · rw [List.getElem?_set_ne hij, ih p hp, said_next, if_neg, List.append_nil]
        intro h3
        rw [← h3] at hp
        exact hij (nd_at hnd j5 hp)
theorem kc_row (f : Int → List Int) (k i : Nat) (h1 : i < (kcTo f k).1.length) (h2 : i < (kcTo f k).2.length) : (kcTo f k).1[i] = ((List.range k).filter (fun (x : Nat) => f x == (kcTo f k).2[i])).map (fun (x : Nat) => (x : Int)) := by
  have := kc_said f k i _ (List.getElem?_eq_getElem h2)
  rw [List.getElem?_eq_getElem h1] at this
  exact Option.some.inj this
/-- A number is in the i-th class just if the i-th thing is said of it. -/
theorem kc_in {f : Int → List Int} {k i : Nat} (h1 : i < (kcTo f k).1.length) (h2 : i < (kcTo f k).2.length) {x : Int} : x ∈ (kcTo f k).1[i] ↔ ∃ y : Nat, y < k ∧ x = y ∧ f y = (kcTo f k).2[i] := by
  rw [kc_row f k i h1 h2]
  simp only [List.mem_map, List.mem_filter, List.mem_range, beq_iff_eq]
  constructor
  · rintro ⟨y, ⟨h3, h4⟩, rfl⟩
    exact ⟨y, h3, rfl, h4⟩
  · rintro ⟨y, h3, rfl, h4⟩
    exact ⟨y, ⟨h3, h4⟩, rfl⟩
theorem kc_size {f : Int → List Int} {k i : Nat} (h1 : i < (kcTo f k).1.length) : 0 < (kcTo f k).1[i].length ∧ (kcTo f k).1[i].length ≤ k := by
  have h2 : i < (kcTo f k).2.length := by have := kc_len f k; omega
  constructor
  · obtain ⟨x, hx, he⟩ := (kc_mem f k _).1 (List.getElem_mem h2)
    exact List.length_pos_of_mem ((kc_in h1 h2).2 ⟨x, hx, rfl, he.symm⟩)
  · rw [kc_row f k i h1 h2, List.length_map]
    exact Nat.le_trans (List.length_filter_le _ _) (by simp)
theorem kc_sizes {f : Int → List Int} {k : Nat} : ∀ C ∈ (kcTo f k).1, 0 < C.length ∧ C.length ≤ k := by
  intro C hC
  obtain ⟨i, hi, rfl⟩ := List.getElem_of_mem hC
  exact kc_size hi
/-- How often a number is there when one row has one more. -/
theorem count_set (x y : Int) : ∀ (L : List (List Int)) (i : Nat), i < L.length → (L.set i (L.getD i [] ++ [y])).flatten.count x = L.flatten.count x + if y = x then 1 else 0
  | [], i, h => by simp at h
  | a :: l, 0, _ => by
    simp only [List.set_cons_zero, List.getD_cons_zero, List.flatten_cons, List.count_append, List.count_singleton, beq_iff_eq]
    omega
  | a :: l, i + 1, h => by
    have := count_set x y l i (by simpa using h)
    simp only [List.set_cons_succ, List.getD_cons_succ, List.flatten_cons, List.count_append]
    rw [this]
    omega
/-- Each number is there once. -/
theorem kc_count (f : Int → List Int) (x : Int) : ∀ k : Nat, (kcTo f k).1.flatten.count x = if 0 ≤ x ∧ x < k then 1 else 0
  | 0 => by
    simp only [kcTo]
    rw [if_neg (by omega)]
    rfl
  | k + 1 => by
    have ih := kc_count f x k
    have key : (kcTo f (k + 1)).1.flatten.count x = (kcTo f k).1.flatten.count x + if (k : Int) = x then 1 else 0 := by
      by_cases h : ixC f k (kcTo f k).2 < 0
      · rw [kc_yes h]
        simp only [List.flatten_append, List.count_append, List.flatten_cons, List.flatten_nil, List.append_nil, List.count_singleton, beq_iff_eq]
      · rw [kc_no h]
        obtain ⟨j1, _⟩ := ixG_lt (Int.not_lt.1 h)
        have := kc_len f k
        exact count_set x k _ _ (by unfold ixC; omega)
    rw [key, ih]
    by_cases h1 : (k : Int) = x
    · rw [if_pos h1, if_neg (by omega), if_pos (by omega)]
    · rw [if_neg h1]
      by_cases h2 : 0 ≤ x ∧ x < (k : Int)
      · rw [if_pos h2, if_pos (by omega)]
      · rw [if_neg h2, if_neg (by omega)]
/-- The least of the first k. -/
def mnTo (L : List Int) : Nat → Int
  | 0 => 0
  | k + 1 => if k = 0 ∨ L.getD k 0 < mnTo L k then L.getD k 0 else mnTo L k
theorem mn_mem {L : List Int} : ∀ k, 0 < k → k ≤ L.length → mnTo L k ∈ L
  | 0, h, _ => by omega
  | k + 1, _, h => by
    have e : L.getD k 0 ∈ L := by
      rw [show L.getD k 0 = L[k] by simp [List.getD, show k < L.length by omega]]
      exact List.getElem_mem _
    rw [mnTo]
    split
    · exact e
    · next h1 => exact mn_mem k (by omega) (by omega)
/-- The place of the first list that has a number, the fault and the answer of Rep. -/
def hasL (h : Int) (C : List Int) : Bool := C.any (fun x => x == h)
def rpI (Ls : List (List Int)) (h : Int) : Int := ixG (hasL h) Ls
def rpN (Ls : List (List Int)) (h : Int) : Int := if rpI Ls h < 0 then 5 else 0
def rpV (Ls : List (List Int)) (h : Int) : Int := if rpI Ls h < 0 then 0 else mnTo (Ls.getD (rpI Ls h).toNat []) (Ls.getD (rpI Ls h).toNat []).length
theorem hasL_iff {h : Int} {C : List Int} : hasL h C = true ↔ h ∈ C := by
  simp [hasL]
/-- The first number's class: which thing is said of it, which is its least one. -/
theorem rp_of {f : Int → List Int} {k : Nat} {h : Int} (h0 : 0 ≤ h) (h1 : h < k) : ∃ i, ∃ (hi : i < (kcTo f k).1.length) (hj : i < (kcTo f k).2.length), rpN (kcTo f k).1 h = 0 ∧ rpV (kcTo f k).1 h = mnTo (kcTo f k).1[i] (kcTo f k).1[i].length ∧ f h = (kcTo f k).2[i] ∧ rpV (kcTo f k).1 h ∈ (kcTo f k).1[i] := by
  obtain ⟨y, rfl⟩ := Int.eq_ofNat_of_zero_le h0
  have hy : y < k := by omega
  obtain ⟨i, hi, he⟩ := List.getElem_of_mem ((kc_mem f k (f y)).2 ⟨y, hy, rfl⟩)
  have hi1 : i < (kcTo f k).1.length := by have := kc_len f k; omega
  have hin : (y : Int) ∈ (kcTo f k).1[i] := (kc_in hi1 hi).2 ⟨y, hy, rfl, he.symm⟩
  have hpos : 0 ≤ rpI (kcTo f k).1 y := by
    rcases Int.lt_or_le (rpI (kcTo f k).1 y) 0 with h2 | h2
    · have := ixG_neg h2 _ (List.getElem_mem hi1)
      rw [hasL_iff.2 hin] at this
      cases this
    · exact h2
  obtain ⟨j1, j2⟩ := ixG_lt hpos
  have j3 := hasL_iff.1 (j2 j1)
  have j4 : (ixG (hasL (y : Int)) (kcTo f k).1).toNat < (kcTo f k).2.length := by have := kc_len f k; omega
  obtain ⟨z, hz1, hz2, hz3⟩ := (kc_in j1 j4).1 j3
  have hzy : z = y := by omega
  subst hzy
  have eV : rpV (kcTo f k).1 z = mnTo (kcTo f k).1[(ixG (hasL (z : Int)) (kcTo f k).1).toNat] (kcTo f k).1[(ixG (hasL (z : Int)) (kcTo f k).1).toNat].length := by
    unfold rpV
    rw [if_neg (by omega)]
    have : (kcTo f k).1.getD (rpI (kcTo f k).1 z).toNat [] = (kcTo f k).1[(ixG (hasL (z : Int)) (kcTo f k).1).toNat] := by
      show (kcTo f k).1.getD (ixG (hasL (z : Int)) (kcTo f k).1).toNat [] = _
      simp only [List.getD, List.getElem?_eq_getElem j1, Option.getD_some]
    rw [this]
  refine ⟨_, j1, j4, ?_, eV, hz3, ?_⟩
  · unfold rpN
    rw [if_neg (by omega)]
  · rw [eV]
    exact mn_mem _ (kc_size j1).1 (Nat.le_refl _)
/-- ALIKE IS ALIKE: two have one least just if the same is said of both. -/
theorem rp_same {f : Int → List Int} {k : Nat} {h o : Int} (h0 : 0 ≤ h) (h1 : h < k) (o0 : 0 ≤ o) (o1 : o < k) : rpV (kcTo f k).1 h = rpV (kcTo f k).1 o ↔ f h = f o := by
  obtain ⟨i, i1, i2, _, i3, i4, i5⟩ := rp_of (f := f) h0 h1
  obtain ⟨j, j1, j2, _, j3, j4, j5⟩ := rp_of (f := f) o0 o1
  constructor
  · intro he
    rw [he] at i5
    obtain ⟨y, _, e1, e2⟩ := (kc_in i1 i2).1 i5
    obtain ⟨z, _, e3, e4⟩ := (kc_in j1 j2).1 j5
    have : y = z := by omega
    rw [i4, j4, ← e2, ← e4, this]
  · intro he
    have hij : i = j := by
      rw [i4, j4] at he
      exact nd_at (kc_nd f k) (List.getElem?_eq_getElem i2) (by rw [List.getElem?_eq_getElem j2, he])
    subst hij
    rw [i3, j3]
theorem nd_sub {α : Type} [BEq α] [LawfulBEq α] : ∀ {A B : List α}, A.Nodup → A ⊆ B → A.length ≤ B.length
  | [], _, _, _ => by simp
  | a :: A, B, h, hs => by
    have ha : a ∈ B := hs List.mem_cons_self
    have h1 : A ⊆ B.erase a := fun x hx => (List.mem_erase_of_ne (by rintro rfl; exact (List.nodup_cons.1 h).1 hx)).2 (hs (List.mem_cons_of_mem _ hx))
    have h2 := nd_sub (List.nodup_cons.1 h).2 h1
    rw [List.length_erase_of_mem ha] at h2
    have h3 := List.length_pos_of_mem ha
    simp only [List.length_cons]
    omega
/-- Of two functions of which the second says what the first says, or one thing more: it has one class more at most. -/
theorem kc_few {f g : Int → List Int} {k : Nat} (q : List Int) (h : ∀ x : Nat, x < k → g x = f x ∨ g x = q) : (kcTo g k).1.length ≤ (kcTo f k).1.length + 1 := by
  rw [(kc_len g k).1, (kc_len f k).1]
  have hsub : (kcTo g k).2 ⊆ q :: (kcTo f k).2 := by
    intro p hp
    obtain ⟨x, hx, rfl⟩ := (kc_mem g k p).1 hp
    rcases h x hx with e | e
    · rw [e]
      exact List.mem_cons_of_mem _ ((kc_mem f k _).2 ⟨x, hx, rfl⟩)
    · rw [e]
      exact List.mem_cons_self
  have := nd_sub (kc_nd g k) hsub
  simpa using this
theorem kc_pos {f : Int → List Int} {k : Nat} (hk : 0 < k) : 1 ≤ (kcTo f k).1.length := by
  have := (kc_mem f k (f (0 : Nat))).2 ⟨0, hk, rfl⟩
  have := List.length_pos_of_mem this
  have := kc_len f k
  omega
end Go.Proofs.YtglnnoglbieaeaaGreatDoor
/- Lists of lists of numbers: where they lie, and such that a call owns, each in a block of its own. No program in it. -/
namespace Go.Proofs.YtglnnoglbieaeaaGreatDoor
open Go.RowKit
set_option linter.unusedVariables false
set_option linter.unusedSimpArgs false

/-- Numbers, a cell each. -/
def inE : Enc Int where
  c := fun x => [.int .i64 x]
  n := 1
  len := fun _ => rfl
  pos := by decide
  one := by
    intro x u hu
    simp at hu
    subst hu
    rfl
theorem in_cells (L : List Int) : cellsG inE L = L.map (Value.int .i64) := by
  induction L with
  | nil => rfl
  | cons x r ih =>
    simp only [cellsG, List.flatMap_cons, List.map_cons] at *
    rw [ih]
    rfl
theorem in_at {w : World} {g o : Nat} {L : List Int} (h : GAt inE w g o L) {n k : Nat} (hn : L.length = n) (hk : k < n) : ∃ (x : Int) (hl : k < L.length), L[k] = x ∧ w.cell? ⟨g, o + k, none⟩ = some (.int .i64 x) := by
  have hl : k < L.length := by omega
  have := h k hl 0 _ rfl
  refine ⟨_, hl, rfl, ?_⟩
  have e : o + k * inE.n + 0 = o + k := by show o + k * 1 + 0 = o + k; omega
  rw [e] at this
  exact this
/-- A slice's three parts. -/
abbrev SlT : Type := Option Addr × Nat × Nat
def slV (x : SlT) : Value := .slice x.1 x.2.1 x.2.2
def slE : Enc SlT where
  c := fun x => [slV x]
  n := 1
  len := fun _ => rfl
  pos := by decide
  one := by
    intro x u hu
    simp at hu
    subst hu
    rfl
theorem sl_cells (L : List SlT) : cellsG slE L = L.map slV := by
  induction L with
  | nil => rfl
  | cons x r ih =>
    simp only [cellsG, List.flatMap_cons, List.map_cons] at *
    rw [ih]
    rfl
/-- These lists lie one behind the other. -/
def ILAt (w : World) (g o : Nat) (Ls : List (List Int)) : Prop := ∀ i (h : i < Ls.length), ∃ ao n cap, w.cell? ⟨g, o + i, none⟩ = some (.slice ao n cap) ∧ GS inE w (.slice ao n cap) Ls[i]
theorem ILAt.later {w w' : World} {g o : Nat} {Ls : List (List Int)} (h : ILAt w g o Ls) (hb : Below w.heap.size w w') : ILAt w' g o Ls := fun i hi => by
  obtain ⟨ao, n, cap, h1, h2⟩ := h i hi
  exact ⟨ao, n, cap, cell_later hb h1, h2.later hb⟩
/-- A value is a slice of these lists. -/
def ILS (w : World) (v : Value) (Ls : List (List Int)) : Prop :=
  (∃ ao cap, v = .slice ao 0 cap ∧ Ls = []) ∨ ∃ g o cap, v = .slice (some ⟨g, o, none⟩) Ls.length cap ∧ Ls.length ≤ cap ∧ cap ≤ maxLen ∧ ILAt w g o Ls
theorem ILS.later {w w' : World} {v : Value} {Ls : List (List Int)} (h : ILS w v Ls) (hb : Below w.heap.size w w') : ILS w' v Ls := by
  rcases h with h | ⟨g, o, cap, h1, h2, h3, h4⟩
  · exact .inl h
  · exact .inr ⟨g, o, cap, h1, h2, h3, h4.later hb⟩
theorem ILS.nil (w : World) : ILS w (.slice none 0 0) [] := .inl ⟨none, 0, rfl, rfl⟩
theorem ILS.form {w : World} {v : Value} {Ls : List (List Int)} (h : ILS w v Ls) : ∃ ao n cap, v = .slice ao n cap ∧ Ls.length = n ∧ n ≤ maxLen ∧ n ≤ cap ∧ (0 < n → ∃ g o, ao = some ⟨g, o, none⟩ ∧ ILAt w g o Ls ∧ cap ≤ maxLen) := by
  rcases h with ⟨ao, cap, rfl, rfl⟩ | ⟨g, o, cap, rfl, h1, h2, h3⟩
  · exact ⟨ao, 0, cap, rfl, rfl, Nat.zero_le _, Nat.zero_le _, fun h => absurd h (by omega)⟩
  · exact ⟨_, _, cap, rfl, rfl, Nat.le_trans h1 h2, h1, fun _ => ⟨g, o, rfl, h3, h2⟩⟩
/-- The k-th of such a list. -/
theorem ILAt.at {w : World} {g o : Nat} {Ls : List (List Int)} (h : ILAt w g o Ls) {n k : Nat} (hn : Ls.length = n) (hk : k < n) : ∃ ao m cap, w.cell? ⟨g, o + k, none⟩ = some (.slice ao m cap) ∧ GS inE w (.slice ao m cap) (Ls.getD k []) := by
  have hl : k < Ls.length := by omega
  obtain ⟨ao, m, cap, h1, h2⟩ := h k hl
  refine ⟨ao, m, cap, h1, ?_⟩
  rw [show Ls.getD k [] = Ls[k] by simp [List.getD, hl]]
  exact h2

/-- Two rows of two kinds lie in two blocks. -/
theorem own_rows2 {w : World} {b1 e1 s1 n1 b2 e2 s2 n2 : Nat} {v1 v2 : Value} {x1 x2 : List Value} (h1 : w.ownsRow b1 e1 s1 v1 n1 x1) (h2 : w.ownsRow b2 e2 s2 v2 n2 x2) (he : e1 ≠ e2) : v1.ownBlock = none ∨ v1.ownBlock ≠ v2.ownBlock := by
  rcases h1.2 with ⟨rfl, _⟩ | ⟨g, cap, cur, rfl, _, hg, _⟩
  · exact .inl rfl
  · refine .inr ?_
    rcases h2.2 with ⟨rfl, _⟩ | ⟨g2, cap2, cur2, rfl, _, hg2, _⟩
    · exact fun h => by cases h
    · intro h
      simp only [Value.ownBlock, Option.some.injEq] at h
      subst h
      rw [hg] at hg2
      simp only [Option.some.injEq, Obj.cells.injEq] at hg2
      exact he hg2.2.1
theorem grown_below {w w' : World} (hb : Below w.heap.size w w') : w.grownBy w' none := ⟨hb.os, hb.tape, hb.output, hb.size, fun k hk _ => hb.block k hk⟩
theorem grown_set (w : World) (b i : Nat) (v : Value) : w.grownBy (w.setCell ⟨b, i, none⟩ v) (some b) :=
  ⟨rfl, rfl, rfl, by simp [World.setCell], fun k _ hk => Below.heap_setCell _ _ _ _ (fun e => hk (by simp [e]))⟩
theorem none_or (o : Option Nat) : o = none ∨ o ≠ none := by cases o <;> simp
/-- Where a row lies behind one more thing: where it lay, or in a new block. -/
theorem run_append_blk {P : Program} {w : World} {base : Nat} (t ty e : TypeId) (i : TypeInfo) (z : Value) (ht : P.underlying t = some (.slice e)) (hi : P.info? e = some i) (hz : i.zero = some z)
    (v : Value) (n : Nat) (xs : List Value) (hown : w.ownsRow base e i.size v n xs)
    (a : Addr) (c : Nat) (news : List Value) (hl : news.length = 1 * i.size) (hnews : ∀ j u, news[j]? = some u → w.cell? (a.add j) = some u) (h1 : ∀ u ∈ news, u.oneCell' = true)
    (h63 : n + 1 ≤ maxLen) (hbytes : (n + 1) * i.bytes ≤ 140737488355328) {v' : Value} {w' : World} (hr : (Builtin.append_ #[t, t] ty #[v, .slice (some a) 1 c]).run P w = .ok v' w') : v'.ownBlock = v.ownBlock ∨ v'.ownBlock = some w.heap.size := by
  have hm : n + 1 ≤ 9223372036854775807 := by simp only [maxLen] at h63; omega
  rcases hown.2 with ⟨rfl, rfl⟩ | ⟨g, cap, cur, rfl, hbg, hg, hnc, hcm, hcs, htake⟩
  · rw [run_append_nil (P := P) w t ty e i z ht hi hz a 1 c news hl hnews (by omega) (by omega) (by have hb := hbytes; simp only [Nat.zero_add] at hb; omega)] at hr
    cases hr
    exact .inr rfl
  · by_cases hroom : n + 1 ≤ cap
    · have hfit : n * i.size + news.length ≤ cur.size := by rw [hl, hcs, ← Nat.add_mul]; exact Nat.mul_le_mul_right _ hroom
      rw [run_append_room (P := P) w t ty e i ht hi g n cap cur hg a 1 c news hl hnews h1 hroom hfit] at hr
      cases hr
      exact .inl rfl
    · rw [run_append_grow (P := P) w t ty e i z ht hi hz ⟨g, 0, none⟩ n cap xs hown.1 (hown.cells (g := g) rfl) a 1 c news hl hnews (by omega) (by omega) (growslice_fits (by omega) hbytes)] at hr
      cases hr
      exact .inr rfl
/-- Appending one thing to a row that a call owns: where the row lies then. -/
theorem wpList_append_blk {P : Program} {α : Type} {E : Enc α} (w : World) {ops : Array Oper} {rest : List Oper} {o : Oper} {a : Act} {Q : Exit → Act → World → Prop} (hgd : o.guard = none) (s x : Operand) (t e : TypeId)
    (ho : o.op = .call { callee := .builtin .append, args := #[s, x], argTypes := #[t, t] }) (ht : P.underlying t = some (.slice e)) (i : TypeInfo) (z : Value) (bytes : Nat) (hi : P.info? e = some i) (hz : i.zero = some z)
    (hsize : i.size = E.n) (hby : i.bytes = bytes) (hzs : z.cells.size = E.n) (base : Nat)
    (v : Value) (hs : a.eval s = v) (L : List α) (hown : w.ownsRow base e E.n v L.length (cellsG E L)) (g q c : Nat) (hx : a.eval x = .slice (some ⟨g, q, none⟩) 1 c) (y : α) (hM : VAt w g q (E.c y))
    (h63 : L.length + 1 ≤ maxLen) (hbytes : (L.length + 1) * bytes ≤ 140737488355328) (hbase : base ≤ w.heap.size)
    (h : ∀ v' w', w'.ownsRow base e E.n v' (L ++ [y]).length (cellsG E (L ++ [y])) → w.grownBy w' v.ownBlock → v'.ownBlock = v.ownBlock ∨ v'.ownBlock = some w.heap.size → wpList P ops Q rest (a.put o.dst v') w') : wpList P ops Q (o :: rest) a w := by
  have hG : GAt E w g q [y] := by
    intro k hk
    obtain rfl : k = 0 := by simp at hk; omega
    simpa using hM
  have hc := hG.cells
  rw [cellsG_one] at hc
  have hl : (E.c y).length = 1 * E.n := by rw [E.len]; omega
  obtain ⟨v', w', hr, h2, h3, _⟩ := run_append_own (P := P) w base t o.type e i z E.n bytes ht hi hz hsize hby hzs E.pos v _ _ hown ⟨g, q, none⟩ 1 c (E.c y) hl hc (E.one y) h63 hbytes hbase
  have hb := run_append_blk (P := P) t o.type e i z ht hi hz v _ _ (by rw [hsize]; exact hown) ⟨g, q, none⟩ c (E.c y) (by rw [hsize]; exact hl) hc (E.one y) h63 (by rw [hby]; exact hbytes) hr
  refine wpList_plain hgd fun K hK => ?_
  unfold Oper.wp execOp
  simp only [ho, resolve, invoke, builtin, Sem.run_bind, Sem.run_pure, Result.andThen_ok, List.map_toArray, List.map_cons, List.map_nil, hs, hx, hr]
  exact hK _ _ (h v' w' (by rw [List.length_append, cellsG_app, cellsG_one]; exact h2) h3 hb)

/-- Two lists of lists that a call owns (the classes, and what is said of each), each list in a block of its own. -/
structure CP (e1 e2 : TypeId) (w : World) (B : Nat) (v u : Value) (vs us : List SlT) (Cs Ps : List (List Int)) : Prop where
  ov : w.ownsRow B e2 slE.n v vs.length (cellsG slE vs)
  ou : w.ownsRow B e2 slE.n u us.length (cellsG slE us)
  ne : v.ownBlock = none ∨ v.ownBlock ≠ u.ownBlock
  lv : vs.length = Cs.length
  lu : us.length = Ps.length
  rv : ∀ (i : Nat) (x : SlT) (L : List Int), vs[i]? = some x → Cs[i]? = some L → w.ownsRow B e1 inE.n (slV x) L.length (cellsG inE L)
  ru : ∀ (i : Nat) (x : SlT) (L : List Int), us[i]? = some x → Ps[i]? = some L → w.ownsRow B e1 inE.n (slV x) L.length (cellsG inE L)
  dd : ((vs ++ us).map fun x => (slV x).ownBlock).Nodup
section
variable {e1 e2 : TypeId} {w w' : World} {B : Nat} {v u : Value} {vs us : List SlT} {Cs Ps : List (List Int)}
theorem cp_nil (e1 e2 : TypeId) (w : World) (B : Nat) : CP e1 e2 w B (.slice none 0 0) (.slice none 0 0) [] [] [] [] :=
  ⟨World.ownsRow_nil w B e2 slE.n, World.ownsRow_nil w B e2 slE.n, .inl rfl, rfl, rfl, fun i x L h => by simp at h, fun i x L h => by simp at h, by simp⟩
theorem CP.keep (h : CP e1 e2 w B v u vs us Cs Ps) (hg : w.grownBy w' none) : CP e1 e2 w' B v u vs us Cs Ps :=
  ⟨h.ov.kept hg (none_or _), h.ou.kept hg (none_or _), h.ne, h.lv, h.lu, fun i x L h1 h2 => (h.rv i x L h1 h2).kept hg (none_or _), fun i x L h1 h2 => (h.ru i x L h1 h2).kept hg (none_or _), h.dd⟩
theorem CP.later (h : CP e1 e2 w B v u vs us Cs Ps) (hb : Below w.heap.size w w') : CP e1 e2 w' B v u vs us Cs Ps := h.keep (grown_below hb)
theorem CP.swap (h : CP e1 e2 w B v u vs us Cs Ps) : CP e1 e2 w B u v us vs Ps Cs := by
  refine ⟨h.ou, h.ov, ?_, h.lu, h.lv, h.ru, h.rv, ?_⟩
  · rcases h.ne with h1 | h1
    · rw [h1]; exact none_or _
    · exact .inr (Ne.symm h1)
  · have := h.dd
    rw [List.map_append] at this ⊢
    exact (List.perm_append_comm.nodup_iff).1 this
/-- All blocks of the lists are old ones. -/
theorem CP.old (h : CP e1 e2 w B v u vs us Cs Ps) : ∀ y ∈ vs ++ us, ∀ k, (slV y).ownBlock = some k → k < w.heap.size := by
  intro y hy k hk
  rcases List.mem_append.1 hy with hy | hy
  · obtain ⟨i, hi, rfl⟩ := List.getElem_of_mem hy
    have hi2 : i < Cs.length := by rw [← h.lv]; exact hi
    exact ((h.rv i _ _ (List.getElem?_eq_getElem hi) (List.getElem?_eq_getElem hi2)).lt k hk).2
  · obtain ⟨i, hi, rfl⟩ := List.getElem_of_mem hy
    have hi2 : i < Ps.length := by rw [← h.lu]; exact hi
    exact ((h.ru i _ _ (List.getElem?_eq_getElem hi) (List.getElem?_eq_getElem hi2)).lt k hk).2
/-- One list more. -/
theorem CP.push (h : CP e1 e2 w B v u vs us Cs Ps) (he : e1 ≠ e2) {x : SlT} {L : List Int} (hx : w.ownsRow B e1 inE.n (slV x) L.length (cellsG inE L)) (hnew : ∀ y ∈ vs ++ us, (slV y).ownBlock ≠ (slV x).ownBlock) {v' : Value}
    (hg : w.grownBy w' v.ownBlock) (ho : w'.ownsRow B e2 slE.n v' (vs ++ [x]).length (cellsG slE (vs ++ [x]))) (hb : v'.ownBlock = v.ownBlock ∨ v'.ownBlock = some w.heap.size) : CP e1 e2 w' B v' u (vs ++ [x]) us (Cs ++ [L]) Ps := by
  have hu : u.ownBlock = none ∨ u.ownBlock ≠ v.ownBlock := h.swap.ne
  have inner : ∀ {y : SlT} {M : List Int}, w.ownsRow B e1 inE.n (slV y) M.length (cellsG inE M) → w'.ownsRow B e1 inE.n (slV y) M.length (cellsG inE M) := fun hy => hy.kept hg (own_rows2 hy h.ov he)
  refine ⟨ho, h.ou.kept hg hu, ?_, by simp [h.lv], h.lu, ?_, fun i y M h1 h2 => inner (h.ru i y M h1 h2), ?_⟩
  · rcases hb with hb | hb
    · rw [hb]; exact h.ne
    · refine .inr ?_
      rw [hb]
      intro h3
      have := (h.ou.lt _ h3.symm).2
      omega
  · intro i y M h1 h2
    by_cases hi : i < vs.length
    · rw [List.getElem?_append_left hi] at h1
      rw [List.getElem?_append_left (by rw [← h.lv]; exact hi)] at h2
      exact inner (h.rv i y M h1 h2)
    · have hi2 : i = vs.length := by
        have := (List.getElem?_eq_some_iff.1 h1).1
        simp at this
        omega
      subst hi2
      simp at h1
      rw [h.lv] at h2
      simp at h2
      subst h1 h2
      exact inner hx
  · have hd := h.dd
    have hp : (((vs ++ [x]) ++ us).map fun x => (slV x).ownBlock).Perm ((slV x).ownBlock :: ((vs ++ us).map fun x => (slV x).ownBlock)) := by
      have : ((vs ++ [x]) ++ us).Perm (x :: (vs ++ us)) := by
        rw [List.append_assoc]
        exact List.perm_middle
      exact this.map _
    refine hp.nodup_iff.2 (List.nodup_cons.2 ⟨?_, hd⟩)
    intro hm
    obtain ⟨y, hy, he2⟩ := List.mem_map.1 hm
    exact hnew y hy he2
/-- One number more in one of the lists. -/
theorem CP.put (h : CP e1 e2 w B v u vs us Cs Ps) (he : e1 ≠ e2) {i : Nat} {x x' : SlT} {L' : List Int} (hx : vs[i]? = some x)
    (hg : w.grownBy w' (slV x).ownBlock) (ho : w'.ownsRow B e1 inE.n (slV x') L'.length (cellsG inE L')) (hb : (slV x').ownBlock = (slV x).ownBlock ∨ (slV x').ownBlock = some w.heap.size)
    {g n cap : Nat} (hv : v = .slice (some ⟨g, 0, none⟩) n cap) : CP e1 e2 (w'.setCell ⟨g, i, none⟩ (slV x')) B v u (vs.set i x') us (Cs.set i L') Ps := by
  have hiv : i < vs.length := (List.getElem?_eq_some_iff.1 hx).1
  have hiC : i < Cs.length := by rw [← h.lv]; exact hiv
  have hrow := h.rv i x _ hx (List.getElem?_eq_getElem hiC)
  have hxo : ∀ {y : Value} {n : Nat} {X : List Value}, w.ownsRow B e2 slE.n y n X → w'.ownsRow B e2 slE.n y n X := fun hy => hy.kept hg (own_rows2 hy hrow (Ne.symm he))
  have h1 := hxo h.ov
  have h2 := hxo h.ou
  subst hv
  have hgw : w'.grownBy (w'.setCell ⟨g, i, none⟩ (slV x')) (some g) := grown_set w' g i (slV x')
  have hug : u.ownBlock = none ∨ u.ownBlock ≠ some g := h.swap.ne
  have apart : ∀ {j : Nat} {y : SlT}, (vs ++ us)[j]? = some y → j ≠ i → (slV y).ownBlock ≠ (slV x).ownBlock := by
    intro j y hy hj heq
    have hd := h.dd
    have a1 : ((vs ++ us).map fun x => (slV x).ownBlock)[j]? = some (slV y).ownBlock := by rw [List.getElem?_map, hy]; rfl
    have a2 : ((vs ++ us).map fun x => (slV x).ownBlock)[i]? = some (slV y).ownBlock := by rw [List.getElem?_map, List.getElem?_append_left hiv, hx, heq]; rfl
    exact hj (nd_at hd a1 a2)
  have inner : ∀ {y : SlT} {M : List Int}, (slV y).ownBlock = none ∨ (slV y).ownBlock ≠ (slV x).ownBlock → w.ownsRow B e1 inE.n (slV y) M.length (cellsG inE M) → (w'.setCell ⟨g, i, none⟩ (slV x')).ownsRow B e1 inE.n (slV y) M.length (cellsG inE M) := by
    intro y M hne hy
    have hy' := hy.kept hg hne
    exact hy'.kept hgw (own_rows2 hy' h1 he)
  refine ⟨?_, h2.kept hgw hug, h.ne, by simp [h.lv], h.lu, ?_, ?_, ?_⟩
  · have hn : n = vs.length := by
      rcases h1.2 with ⟨h3, _⟩ | ⟨_, _, _, h3, _⟩
      · cases h3
      · simp only [Value.slice.injEq] at h3
        exact h3.2.1
    rw [List.length_set, sl_cells, List.map_set]
    rw [sl_cells, ← hn] at h1
    rw [← hn]
    exact (h1.stored _ _).1
  · intro j y M a1 a2
    by_cases hij : i = j
    · subst hij
      rw [List.getElem?_set_self hiv] at a1
      rw [List.getElem?_set_self hiC] at a2
      cases a1
      cases a2
      exact ho.kept hgw (own_rows2 ho h1 he)
    · rw [List.getElem?_set_ne hij] at a1 a2
      have hj : j < vs.length := (List.getElem?_eq_some_iff.1 a1).1
      exact inner (.inr (apart (j := j) (by rw [List.getElem?_append_left hj]; exact a1) (Ne.symm hij))) (h.rv j y M a1 a2)
  · intro j y M a1 a2
    exact inner (.inr (apart (j := vs.length + j) (by rw [List.getElem?_append_right (by omega)]; simpa using a1) (by omega))) (h.ru j y M a1 a2)
  · have hd := h.dd
    rw [List.Nodup, List.pairwise_iff_getElem] at hd ⊢
    have key : ∀ j (hj : j < (((vs.set i x') ++ us).map fun x => (slV x).ownBlock).length), (((vs.set i x') ++ us).map fun x => (slV x).ownBlock)[j] = if j = i then (slV x').ownBlock else ((vs ++ us).map fun x => (slV x).ownBlock)[j]'(by simpa using hj) := by
      intro j hj
      simp only [List.getElem_map, ← List.set_append_left _ _ hiv, List.getElem_set]
      by_cases e : i = j
      · subst e; simp
      · rw [if_neg e, if_neg (Ne.symm e)]
    have xin : ((vs ++ us).map fun x => (slV x).ownBlock)[i]'(by simp; omega) = (slV x).ownBlock := by
      have : ((vs ++ us).map fun x => (slV x).ownBlock)[i]? = some (slV x).ownBlock := by rw [List.getElem?_map, List.getElem?_append_left hiv, hx]; rfl
      obtain ⟨_, h3⟩ := List.getElem?_eq_some_iff.1 this
      exact h3
    have fresh : ∀ j (hj : j < ((vs ++ us).map fun x => (slV x).ownBlock).length), j ≠ i → ((vs ++ us).map fun x => (slV x).ownBlock)[j] ≠ (slV x').ownBlock := by
      intro j hj hji heq
      have hj2 : j < (vs ++ us).length := by simpa using hj
      rcases hb with hb | hb
      · have := apart (j := j) (y := (vs ++ us)[j]) (List.getElem?_eq_getElem hj2) hji
        rw [List.getElem_map] at heq
        exact this (heq.trans hb)
      · rw [List.getElem_map, hb] at heq
        have := h.old _ (List.getElem_mem hj2) _ heq
        omega
    intro a b ha hb' hab
    rw [key a ha, key b hb']
    by_cases ea : a = i
    · rw [if_pos ea, if_neg (by omega)]
      exact (fresh b (by simpa using hb') (by omega)).symm
    · rw [if_neg ea]
      by_cases eb : b = i
      · rw [if_pos eb]
        exact fresh a (by simpa using ha) ea
      · rw [if_neg eb]
        exact hd a b _ _ hab
/-- What such a call owns may be read. -/
theorem CP.ls (h : CP e1 e2 w B v u vs us Cs Ps) : ILS w v Cs := by
  rcases own_GS h.ov with ⟨ao, cap, rfl, h0⟩ | ⟨g, o, cap, rfl, h1, h2, h3⟩
  · refine .inl ⟨ao, cap, rfl, ?_⟩
    have := h.lv
    rw [h0] at this
    exact List.length_eq_zero_iff.1 this.symm
  · refine .inr ⟨g, o, cap, by rw [h.lv], by rw [← h.lv]; exact h1, h2, fun i hi => ?_⟩
    have hi2 : i < vs.length := by rw [h.lv]; exact hi
    have := h3 i hi2 0 _ rfl
    have e : o + i * slE.n + 0 = o + i := by show o + i * 1 + 0 = o + i; omega
    rw [e] at this
    exact ⟨_, _, _, this, own_GS (h.rv i _ _ (List.getElem?_eq_getElem hi2) (List.getElem?_eq_getElem hi))⟩
end
end Go.Proofs.YtglnnoglbieaeaaGreatDoor
/- Rows of tables that a call owns: the tables lie elsewhere. -/
namespace Go.Proofs.YtglnnoglbieaeaaGreatDoor
open Go.RowKit
set_option linter.unusedSimpArgs false
set_option linter.unusedVariables false

/-- A slice that is empty, or does not lie in a block. -/
def offB (x : SlT) (b : Nat) : Prop := x.2.1 = 0 ∨ ∀ a, x.1 = some a → a.block ≠ b
theorem RAt.lt {w : World} {g o : Nat} {L : List Ru} (h : RAt w g o L) (h0 : 0 < L.length) : g < w.heap.size := World.block_lt_of_cell? _ _ (h 0 h0).c0
theorem SR.off {w : World} {x : SlT} {L : List Ru} (h : SR w (slV x) L) {b : Nat} (hb : w.heap.size ≤ b) : offB x b := by
  obtain ⟨ao, n, cap⟩ := x
  rcases h with ⟨ao', cap', e, rfl⟩ | ⟨g, o, cap', e, h1, h2, h3⟩
  · simp only [slV, Value.slice.injEq] at e
    exact .inl e.2.1
  · simp only [slV, Value.slice.injEq] at e
    obtain ⟨rfl, rfl, rfl⟩ := e
    by_cases h0 : L.length = 0
    · exact .inl h0
    · refine .inr fun a ha => ?_
      cases ha
      have := h3.lt (by omega)
      show g ≠ b
      omega
/-- A slice of rules, behind what writes into another block alone. -/
theorem SR.grown {w w' : World} {x : SlT} {L : List Ru} {row : Option Nat} (h : SR w (slV x) L) (hg : w.grownBy w' row) (ho : ∀ b, row = some b → offB x b) : SR w' (slV x) L := by
  obtain ⟨ao, n, cap⟩ := x
  rcases h with ⟨ao', cap', e, rfl⟩ | ⟨g, o, cap', e, h1, h2, h3⟩
  · exact .inl ⟨ao', cap', e, rfl⟩
  · simp only [slV, Value.slice.injEq] at e
    obtain ⟨rfl, rfl, rfl⟩ := e
    by_cases h0 : L.length = 0
    · exact .inl ⟨_, _, by rw [slV, h0], List.length_eq_zero_iff.1 h0⟩
    · have hne : some g ≠ row := by
        intro e
        rcases ho g e.symm with h4 | h4
        · exact h0 h4
        · exact h4 _ rfl rfl
      refine .inr ⟨g, o, cap, rfl, h1, h2, fun i hi => ?_⟩
      obtain ⟨c0, c1, c2, c3, c4, c5⟩ := h3 i hi
      exact ⟨hg.cell c0 hne, hg.cell c1 hne, hg.cell c2 hne, hg.cell c3 hne, hg.cell c4 hne, hg.cell c5 hne⟩
/-- A row of tables that a call owns, in a block from B on; no table lies in that block, or in the blocks from A to B. -/
structure TR (e : TypeId) (w : World) (A B : Nat) (v : Value) (vs : List SlT) (Ts : List (List Ru)) : Prop where
  ov : w.ownsRow B e slE.n v vs.length (cellsG slE vs)
  lv : vs.length = Ts.length
  rv : ∀ (i : Nat) (x : SlT) (L : List Ru), vs[i]? = some x → Ts[i]? = some L → SR w (slV x) L ∧ ∀ b, v.ownBlock = some b → offB x b
  rz : ∀ (i : Nat) (x : SlT), vs[i]? = some x → ∀ b, A ≤ b → b < B → offB x b
section
variable {e : TypeId} {w w' : World} {A B : Nat} {v : Value} {vs : List SlT} {Ts : List (List Ru)}
theorem tr_nil (e : TypeId) (w : World) (A B : Nat) : TR e w A B (.slice none 0 0) [] [] :=
  ⟨World.ownsRow_nil w B e slE.n, rfl, fun i x L h => by simp at h, fun i x h => by simp at h⟩
theorem TR.later (h : TR e w A B v vs Ts) (hb : Below w.heap.size w w') : TR e w' A B v vs Ts :=
  ⟨h.ov.kept (grown_below hb) (none_or _), h.lv, fun i x L h1 h2 => ⟨(h.rv i x L h1 h2).1.later hb, (h.rv i x L h1 h2).2⟩, h.rz⟩
/-- Behind what writes into a block from A to B. -/
theorem TR.grown (h : TR e w A B v vs Ts) {b : Nat} (hg : w.grownBy w' (some b)) (h1 : A ≤ b) (h2 : b < B) : TR e w' A B v vs Ts := by
  refine ⟨h.ov.kept hg (.inr fun e => ?_), h.lv, fun i x L a1 a2 => ⟨(h.rv i x L a1 a2).1.grown hg (fun c hc => ?_), (h.rv i x L a1 a2).2⟩, h.rz⟩
  · have := (h.ov.lt b e).1
    omega
  · cases hc
    exact h.rz i x a1 b h1 h2
/-- What came in, as a row of slices. -/
theorem ts_sl {v : Value} (h : TS w v Ts) : ∃ vs : List SlT, GS slE w v vs ∧ vs.length = Ts.length ∧ ∀ (i : Nat) (x : SlT) (L : List Ru), vs[i]? = some x → Ts[i]? = some L → SR w (slV x) L := by
  rcases h with ⟨ao, cap, rfl, rfl⟩ | ⟨g, o, cap, rfl, h1, h2, h3⟩
  · exact ⟨[], .inl ⟨ao, cap, rfl, rfl⟩, rfl, fun i x L h => by simp at h⟩
  · have each : ∀ i, i < Ts.length → ∃ x : SlT, w.cell? ⟨g, o + i, none⟩ = some (slV x) ∧ SR w (slV x) (Ts.getD i []) := by
      intro i hi
      obtain ⟨ao, n, cap, c1, c2⟩ := h3 i hi
      refine ⟨(ao, n, cap), c1, ?_⟩
      rw [getT hi]
      exact c2
    have iR : Inhabited SlT := ⟨(none, 0, 0)⟩
    obtain ⟨R, hR⟩ := Go.Deep.choose_lt each
    refine ⟨(List.range Ts.length).map R, .inr ⟨g, o, cap, by simp, by simpa using h1, h2, fun i hi j u hu => ?_⟩, by simp, fun i x L a1 a2 => ?_⟩
    · have hi2 : i < Ts.length := by simpa using hi
      have e1 : ((List.range Ts.length).map R)[i] = R i := by simp
      rw [e1] at hu
      obtain rfl : j = 0 := by
        have := (List.getElem?_eq_some_iff.1 hu).1
        rw [slE.len] at this
        have e2 : slE.n = 1 := rfl
        omega
      have e3 : o + i * slE.n + 0 = o + i := by show o + i * 1 + 0 = o + i; omega
      have e4 : slV (R i) = u := Option.some.inj hu
      rw [e3, ← e4]
      exact (hR i hi2).1
    · have hi : i < Ts.length := (List.getElem?_eq_some_iff.1 a2).1
      have e1 : R i = x := by simpa [hi] using a1
      have e2 := (hR i hi).2
      rw [getT hi] at e2
      rw [List.getElem?_eq_getElem hi] at a2
      cases a2
      rw [← e1]
      exact e2
/-- A copy of what came in. -/
theorem tr_copy {w0 : World} {u : Value} (hlen : vs.length = Ts.length) (hsl : ∀ (i : Nat) (x : SlT) (L : List Ru), vs[i]? = some x → Ts[i]? = some L → SR w0 (slV x) L) (hb : Below w0.heap.size w0 w) (hg : w.grownBy w' none) (hB : w0.heap.size ≤ B) (ho : w'.ownsRow B e slE.n u vs.length (cellsG slE vs)) : TR e w' w0.heap.size B u vs Ts := by
  have each : ∀ (i : Nat) (x : SlT), vs[i]? = some x → ∃ L, Ts[i]? = some L := fun i x h => by
    have hi : i < Ts.length := by rw [← hlen]; exact (List.getElem?_eq_some_iff.1 h).1
    exact ⟨_, List.getElem?_eq_getElem hi⟩
  refine ⟨ho, hlen, fun i x L h1 h2 => ⟨((hsl i x L h1 h2).later hb).grown hg (fun b hb => by cases hb), fun b hb => (hsl i x L h1 h2).off (Nat.le_trans hB (ho.lt b hb).1)⟩, fun i x h1 b h2 h3 => ?_⟩
  obtain ⟨L, hL⟩ := each i x h1
  exact (hsl i x L h1 hL).off h2
/-- One table more, which lies elsewhere. -/
theorem TR.push (h : TR e w A B v vs Ts) {x : SlT} {L : List Ru} (hx : SR w (slV x) L) {v' : Value} (hox : ∀ b, v.ownBlock = some b → offB x b) (hoz : ∀ b, A ≤ b → b < B → offB x b)
    (hg : w.grownBy w' v.ownBlock) (ho : w'.ownsRow B e slE.n v' (vs ++ [x]).length (cellsG slE (vs ++ [x]))) (hb : v'.ownBlock = v.ownBlock ∨ v'.ownBlock = some w.heap.size) : TR e w' A B v' (vs ++ [x]) (Ts ++ [L]) := by
  have one : ∀ {y : SlT} {M : List Ru}, SR w (slV y) M → (∀ b, v.ownBlock = some b → offB y b) → SR w' (slV y) M ∧ ∀ b, v'.ownBlock = some b → offB y b := by
    intro y M h1 h2
    refine ⟨h1.grown hg h2, fun b hv => ?_⟩
    rcases hb with hb | hb
    · exact h2 b (by rw [← hb]; exact hv)
    · rw [hb] at hv
      cases hv
      exact h1.off (Nat.le_refl _)
  refine ⟨ho, by simp [h.lv], fun i y M h1 h2 => ?_, fun i y h1 => ?_⟩
  · by_cases hi : i < vs.length
    · rw [List.getElem?_append_left hi] at h1
      rw [List.getElem?_append_left (by rw [← h.lv]; exact hi)] at h2
      obtain ⟨a1, a2⟩ := h.rv i y M h1 h2
      exact one a1 a2
    · have hi2 : i = vs.length := by
        have := (List.getElem?_eq_some_iff.1 h1).1
        simp at this
        omega
      subst hi2
      simp at h1
      rw [h.lv] at h2
      simp at h2
      subst h1 h2
      exact one hx hox
  · by_cases hi : i < vs.length
    · rw [List.getElem?_append_left hi] at h1
      exact h.rz i y h1
    · have hi2 : i = vs.length := by
        have := (List.getElem?_eq_some_iff.1 h1).1
        simp at this
        omega
      subst hi2
      simp at h1
      subst h1
      exact hoz
/-- A table put in another one's place. -/
theorem TR.put {g n cap i : Nat} (h : TR e w A B (.slice (some ⟨g, 0, none⟩) n cap) vs Ts) {x : SlT} {L : List Ru} (hx : SR w (slV x) L) (hox : offB x g) (hoz : ∀ b, A ≤ b → b < B → offB x b) : TR e (w.setCell ⟨g, i, none⟩ (slV x)) A B (.slice (some ⟨g, 0, none⟩) n cap) (vs.set i x) (Ts.set i L) := by
  have hgw : w.grownBy (w.setCell ⟨g, i, none⟩ (slV x)) (some g) := grown_set w g i (slV x)
  refine ⟨?_, by simp [h.lv], fun j y M a1 a2 => ?_, fun j y a1 => ?_⟩
  · have h1 := h.ov
    have hn : n = vs.length := by
      rcases h1.2 with ⟨h3, _⟩ | ⟨_, _, _, h3, _⟩
      · cases h3
      · simp only [Value.slice.injEq] at h3
        exact h3.2.1
    rw [List.length_set, sl_cells, List.map_set]
    rw [sl_cells, ← hn] at h1
    rw [← hn]
    exact (h1.stored _ _).1
  · have hj : j < (vs.set i x).length := (List.getElem?_eq_some_iff.1 a1).1
    rw [List.length_set] at hj
    by_cases hij : i = j
    · subst hij
      rw [List.getElem?_set_self hj] at a1
      rw [List.getElem?_set_self (by rw [← h.lv]; exact hj)] at a2
      cases a1
      cases a2
      refine ⟨hx.grown hgw (fun b hb => by cases hb; exact hox), fun b hb => ?_⟩
      cases hb
      exact hox
    · rw [List.getElem?_set_ne hij] at a1 a2
      obtain ⟨b1, b2⟩ := h.rv j y M a1 a2
      exact ⟨b1.grown hgw (fun b hb => by cases hb; exact b2 g rfl), b2⟩
  · have hj : j < (vs.set i x).length := (List.getElem?_eq_some_iff.1 a1).1
    rw [List.length_set] at hj
    by_cases hij : i = j
    · subst hij
      rw [List.getElem?_set_self hj] at a1
      cases a1
      exact hoz
    · rw [List.getElem?_set_ne hij] at a1
      exact h.rz j y a1
theorem TR.ts (h : TR e w A B v vs Ts) : TS w v Ts := by
  rcases own_GS h.ov with ⟨ao, cap, rfl, h0⟩ | ⟨g, o, cap, rfl, h1, h2, h3⟩
  · refine .inl ⟨ao, cap, rfl, ?_⟩
    have := h.lv
    rw [h0] at this
    exact List.length_eq_zero_iff.1 this.symm
  · refine .inr ⟨g, o, cap, by rw [h.lv], by rw [← h.lv]; exact h1, h2, fun i hi => ?_⟩
    have hi2 : i < vs.length := by rw [h.lv]; exact hi
    have := h3 i hi2 0 _ rfl
    have e : o + i * slE.n + 0 = o + i := by show o + i * 1 + 0 = o + i; omega
    rw [e] at this
    exact ⟨_, _, _, this, (h.rv i _ _ (List.getElem?_eq_getElem hi2) (List.getElem?_eq_getElem hi)).1⟩
/-- Where the i-th table lies. -/
theorem TR.at {g n cap i : Nat} (h : TR e w A B (.slice (some ⟨g, 0, none⟩) n cap) vs Ts) (hi : i < Ts.length) : ∃ x : SlT, w.cell? ⟨g, i, none⟩ = some (slV x) ∧ SR w (slV x) (Ts.getD i []) ∧ w.frozen? ⟨g, i, none⟩ = false ∧ n = Ts.length ∧ B ≤ g ∧ g < w.heap.size := by
  have h1 := h.ov
  have hn : n = vs.length := by
    rcases h1.2 with ⟨h3, _⟩ | ⟨_, _, _, h3, _⟩
    · cases h3
    · simp only [Value.slice.injEq] at h3
      exact h3.2.1
  have hi2 : i < vs.length := by rw [h.lv]; exact hi
  rw [sl_cells, ← hn] at h1
  refine ⟨vs[i], ?_, ?_, h1.frozenAt i, by rw [hn, h.lv], (h1.lt g rfl).1, (h1.lt g rfl).2⟩
  · rw [h1.cellAt i (by show i < n * 1; omega)]
    simp [hi2]
  · rw [getT hi]
    exact (h.rv i _ _ (List.getElem?_eq_getElem hi2) (List.getElem?_eq_getElem hi)).1
end
end Go.Proofs.YtglnnoglbieaeaaGreatDoor
/- Rows of ops, and of tables, that a call owns: appending to them. -/
namespace Go.Proofs.YtglnnoglbieaeaaGreatDoor
open Go.RowKit
set_option linter.unusedSimpArgs false
set_option linter.unusedVariables false

/-- A row of these ops that lies in a new block. -/
def NO (w : World) (B : Nat) (v : Value) (L : List Op8) : Prop := w.ownsRow B 68 8 v L.length (cellsG opE L)
theorem NO.gs {w : World} {B : Nat} {v : Value} {L : List Op8} (h : NO w B v L) : GS opE w v L := own_GS (E := opE) h
theorem NO.nil (w : World) (B : Nat) : NO w B (.slice none 0 0) [] := World.ownsRow_nil w B _ 8
theorem NO.mono {w : World} {B B' : Nat} {v : Value} {L : List Op8} (h : NO w B v L) (hB : B' ≤ B) : NO w B' v L := by
  obtain ⟨h1, h2 | ⟨g, cap, cur, hv, hb, h3⟩⟩ := h
  · exact ⟨h1, .inl h2⟩
  · exact ⟨h1, .inr ⟨g, cap, cur, hv, Nat.le_trans hB hb, h3⟩⟩
theorem NO.later {w w' : World} {B : Nat} {v : Value} {L : List Op8} (h : NO w B v L) (hb : Below w.heap.size w w') : NO w' B v L := h.kept (grown_below hb) (none_or _)
theorem NO.ofn {w : World} {B n : Nat} {v : Value} {M L : List Op8} (h : w.ownsRow B 68 8 v n (cellsG opE M)) (hL : M = L) (hn : n = L.length) : NO w B v L := by subst hL hn; exact h
theorem NR.ofn {w : World} {B n : Nat} {v : Value} {M : List Ru} (h : w.ownsRow B 66 6 v n (cellsR M)) (hn : n = M.length) : NR w B v M := by subst hn; exact h
/-- Appending ops, whoever made them, to a row of ops that a call owns. -/
theorem wpList_append_ops (w : World) {ops : Array Oper} {rest : List Oper} {o : Oper} {a : Act} {Q : Exit → Act → World → Prop} (hgd : o.guard = none) (s x : Operand) (t : TypeId)
    (ho : o.op = .call { callee := .builtin .append, args := #[s, x], argTypes := #[t, t] }) (ht : Tryz.prog.underlying t = some (.slice 68)) (base : Nat)
    (v : Value) (hs : a.eval s = v) (L : List Op8) (hown : NO w base v L) (u : Value) (hx : a.eval x = u) (M : List Op8) (hM : GS opE w u M)
    (h100 : L.length + M.length ≤ 1000000) (hbase : base ≤ w.heap.size)
    (h : ∀ v' w', NO w' base v' (L ++ M) → w.grownBy w' v.ownBlock → wpList Tryz.prog ops Q rest (a.put o.dst v') w') : wpList Tryz.prog ops Q (o :: rest) a w := by
  obtain ⟨i0, hi, hz0, hz1, hz2⟩ := info_parts op_info
  exact wpList_append_GS (E := opE) w hgd s x t 68 ho ht i0 _ 64 hi hz0 hz1 hz2 op_zero base v hs L hown u hx M hM (by unfold maxLen; omega) (by omega) hbase h
theorem ta_info : (Tryz.prog.info? 62).map (fun i => (i.zero, i.size, i.bytes)) = some (some (.slice none 0 0), 1, 24) := by kernel_rfl
theorem ta_zero : (Value.slice none 0 0).cells.size = 1 := by simp [Value.cells]
/-- A copy of a slice of tables. -/
theorem wpList_append_tabs (w : World) {ops : Array Oper} {rest : List Oper} {o : Oper} {a : Act} {Q : Exit → Act → World → Prop} (hgd : o.guard = none) (s x : Operand) (t : TypeId)
    (ho : o.op = .call { callee := .builtin .append, args := #[s, x], argTypes := #[t, t] }) (ht : Tryz.prog.underlying t = some (.slice 62))
    (hs : a.eval s = .slice none 0 0) (u : Value) (hx : a.eval x = u) (Ts : List (List Ru)) (w0 : World) (hM : TS w0 u Ts) (hb : Below w0.heap.size w0 w) (h100 : Ts.length ≤ 1000000)
    (h : ∀ v' w' vs, TR 62 w' w0.heap.size w.heap.size v' vs Ts → w.grownBy w' none → wpList Tryz.prog ops Q rest (a.put o.dst v') w') : wpList Tryz.prog ops Q (o :: rest) a w := by
  obtain ⟨i0, hi, hz0, hz1, hz2⟩ := info_parts ta_info
  obtain ⟨vs, g1, g2, g3⟩ := ts_sl hM
  refine wpList_append_GS (E := slE) w hgd s x t 62 ho ht i0 _ 24 hi hz0 hz1 hz2 ta_zero w.heap.size _ hs [] (World.ownsRow_nil _ _ _ _) u hx vs (g1.later hb) (by unfold maxLen; simp [g2]; omega) (by simp [g2]; omega) (Nat.le_refl _) ?_
  intro v' w' h1 h2
  exact h v' w' vs (tr_copy g2 g3 hb h2 hb.size h1) h2
/-- One table more at the end of a row. -/
theorem wpList_append_tab (w : World) {ops : Array Oper} {rest : List Oper} {o : Oper} {a : Act} {Q : Exit → Act → World → Prop} (hgd : o.guard = none) (s x : Operand) (t : TypeId)
    (ho : o.op = .call { callee := .builtin .append, args := #[s, x], argTypes := #[t, t] }) (ht : Tryz.prog.underlying t = some (.slice 62)) (base : Nat)
    (v : Value) (hs : a.eval s = v) (vs : List SlT) (Ts : List (List Ru)) (A : Nat) (hown : TR 62 w A base v vs Ts) (g q c : Nat) (hx : a.eval x = .slice (some ⟨g, q, none⟩) 1 c) (y : SlT) (hy : w.cell? ⟨g, q, none⟩ = some (slV y)) (L : List Ru) (hL : SR w (slV y) L) (hoff : ∀ b, v.ownBlock = some b → offB y b) (hofz : ∀ b, A ≤ b → b < base → offB y b)
    (h100 : Ts.length ≤ 1000000) (hbase : base ≤ w.heap.size)
    (h : ∀ v' w', TR 62 w' A base v' (vs ++ [y]) (Ts ++ [L]) → w.grownBy w' v.ownBlock → wpList Tryz.prog ops Q rest (a.put o.dst v') w') : wpList Tryz.prog ops Q (o :: rest) a w := by
  obtain ⟨i0, hi, hz0, hz1, hz2⟩ := info_parts ta_info
  have hlv := hown.lv
  refine wpList_append_blk (E := slE) w hgd s x t 62 ho ht i0 _ 24 hi hz0 hz1 hz2 ta_zero base v hs vs hown.ov g q c hx y (fun j u hu => ?_) (by unfold maxLen; omega) (by omega) hbase ?_
  · obtain rfl : j = 0 := by
      have := (List.getElem?_eq_some_iff.1 hu).1
      have e : (slE.c y).length = 1 := rfl
      omega
    have e4 : slV y = u := Option.some.inj hu
    rw [Nat.add_zero, ← e4]
    exact hy
  · intro v' w' h1 h2 h3
    exact h v' w' (hown.push hL hoff hofz h2 h1 h3) h2
/-- A new table is a slice that lies in no older block. -/
theorem NR.sl {w : World} {B : Nat} {v : Value} {L : List Ru} (h : NR w B v L) : ∃ x : SlT, v = slV x ∧ ∀ b, b < B → offB x b := by
  rcases h.2 with ⟨rfl, h0⟩ | ⟨g, cap, cur, rfl, hg, _⟩
  · exact ⟨(none, 0, 0), rfl, fun b _ => .inl rfl⟩
  · refine ⟨(some ⟨g, 0, none⟩, L.length, cap), rfl, fun b hb => .inr fun a ha => ?_⟩
    cases ha
    show g ≠ b
    omega
end Go.Proofs.YtglnnoglbieaeaaGreatDoor
/- Two lists of lists that a call owns, behind two appends in whatever order. No program in it. -/
namespace Go.Proofs.YtglnnoglbieaeaaGreatDoor
open Go.RowKit
set_option linter.unusedSimpArgs false
set_option linter.unusedVariables false

theorem gnn_refl (w : World) : w.grownBy w none := ⟨rfl, rfl, rfl, Nat.le_refl _, fun _ _ _ => rfl⟩
theorem gnn_drew {w W : World} (h : w.grownBy W none) : w.grownBy W.drew none := ⟨h.os, h.tape, h.output, h.size, fun k hk hn => h.block k hk hn⟩
theorem gnn_alloc {w W : World} (h : w.grownBy W none) (o : Obj) : w.grownBy (W.alloc o) none :=
  ⟨h.os, h.tape, h.output, Nat.le_trans h.size (by simp), fun k hk hn => ((World.grownBy_alloc W o none).block k (Nat.lt_of_lt_of_le hk h.size) hn).trans (h.block k hk hn)⟩
theorem below_grown {B : Nat} {w W : World} {row : Option Nat} (h : w.grownBy W row) (hB : B ≤ w.heap.size) (hr : ∀ k, row = some k → B ≤ k) : Below B w W :=
  ⟨h.os, h.tape, h.output, h.size, fun k hk => h.block k (by omega) (fun e => by have := hr k e.symm; omega)⟩
/-- The step of a region: appending one thing to a row that a call owns. -/
theorem step_append_blk {P : Program} {α : Type} {E : Enc α} (w : World) {ops : Array Oper} {o : Oper} {a : Act} {K : Act → World → Prop} {Q : Exit → Act → World → Prop} {X : Prop} (hgd : o.guard = none) (s x : Operand) (t e : TypeId)
    (ho : o.op = .call { callee := .builtin .append, args := #[s, x], argTypes := #[t, t] }) (ht : P.underlying t = some (.slice e)) (i : TypeInfo) (z : Value) (bytes : Nat) (hi : P.info? e = some i) (hz : i.zero = some z)
    (hsize : i.size = E.n) (hby : i.bytes = bytes) (hzs : z.cells.size = E.n) (base : Nat)
    (v : Value) (hs : a.eval s = v) (L : List α) (hown : w.ownsRow base e E.n v L.length (cellsG E L)) (g q c : Nat) (hx : a.eval x = .slice (some ⟨g, q, none⟩) 1 c) (y : α) (hM : VAt w g q (E.c y))
    (h63 : L.length + 1 ≤ maxLen) (hbytes : (L.length + 1) * bytes ≤ 140737488355328) (hbase : base ≤ w.heap.size)
    (h : ∀ v' w', w'.ownsRow base e E.n v' (L ++ [y]).length (cellsG E (L ++ [y])) → w.grownBy w' v.ownBlock → v'.ownBlock = v.ownBlock ∨ v'.ownBlock = some w.heap.size → K (a.put o.dst v') w') :
    if Region.wanted o (yielded ops a.tmps) = true then Oper.wp P o a w K Q else X := by
  have hw : Region.wanted o (yielded ops a.tmps) = true := by simp [Region.wanted, hgd]
  rw [if_pos hw]
  have hG : GAt E w g q [y] := by
    intro k hk
    obtain rfl : k = 0 := by simp at hk; omega
    simpa using hM
  have hc := hG.cells
  rw [cellsG_one] at hc
  have hl : (E.c y).length = 1 * E.n := by rw [E.len]; omega
  obtain ⟨v', w', hr, h2, h3, _⟩ := run_append_own (P := P) w base t o.type e i z E.n bytes ht hi hz hsize hby hzs E.pos v _ _ hown ⟨g, q, none⟩ 1 c (E.c y) hl hc (E.one y) h63 hbytes hbase
  have hb := run_append_blk (P := P) t o.type e i z ht hi hz v _ _ (by rw [hsize]; exact hown) ⟨g, q, none⟩ c (E.c y) (by rw [hsize]; exact hl) hc (E.one y) h63 (by rw [hby]; exact hbytes) hr
  unfold Oper.wp execOp
  simp only [ho, resolve, invoke, builtin, Sem.run_bind, Sem.run_pure, Result.andThen_ok, List.map_toArray, List.map_cons, List.map_nil, hs, hx, hr]
  exact h v' w' (by rw [List.length_append, cellsG_app, cellsG_one]; exact h2) h3 hb
section
variable {e1 e2 : TypeId} {w W1 W1' W2 W2' Wf : World} {B : Nat} {v u v' u' : Value} {vs us : List SlT} {Cs Ps : List (List Int)}
theorem CP.base (h : CP e1 e2 w B v u vs us Cs Ps) : (∀ k, v.ownBlock = some k → B ≤ k ∧ k < w.heap.size) ∧ ∀ k, u.ownBlock = some k → B ≤ k ∧ k < w.heap.size := ⟨fun k hk => h.ov.lt k hk, fun k hk => h.ou.lt k hk⟩
/-- One append behind the other. -/
theorem CP.seq (h : CP e1 e2 w B v u vs us Cs Ps) (he : e1 ≠ e2) (hB : B ≤ w.heap.size) {x p : SlT} {L P : List Int}
    (hp : W1.ownsRow B e1 inE.n (slV x) L.length (cellsG inE L)) (hxn : ∀ y ∈ vs ++ us, (slV y).ownBlock ≠ (slV x).ownBlock)
    (hq : W2.ownsRow B e1 inE.n (slV p) P.length (cellsG inE P)) (hpn : ∀ y ∈ vs ++ us, (slV y).ownBlock ≠ (slV p).ownBlock) (hxp : (slV x).ownBlock ≠ (slV p).ownBlock)
    (c1 : w.grownBy W1 none) (g1 : W1.grownBy W1' v.ownBlock) (o1 : W1'.ownsRow B e2 slE.n v' (vs ++ [x]).length (cellsG slE (vs ++ [x]))) (b1 : v'.ownBlock = v.ownBlock ∨ v'.ownBlock = some W1.heap.size)
    (c2 : W1'.grownBy W2 none) (g2 : W2.grownBy W2' u.ownBlock) (o2 : W2'.ownsRow B e2 slE.n u' (us ++ [p]).length (cellsG slE (us ++ [p]))) (b2 : u'.ownBlock = u.ownBlock ∨ u'.ownBlock = some W2.heap.size)
    (c3 : W2'.grownBy Wf none) : CP e1 e2 Wf B v' u' (vs ++ [x]) (us ++ [p]) (Cs ++ [L]) (Ps ++ [P]) ∧ Below B w Wf := by
  have k1 := h.keep c1
  have k2 := (k1.push he hp hxn g1 o1 b1).keep c2
  have k3 := k2.swap.push he hq (by
    intro y hy
    rcases List.mem_append.1 hy with hy | hy
    · exact hpn y (List.mem_append_right _ hy)
    · rcases List.mem_append.1 hy with hy | hy
      · exact hpn y (List.mem_append_left _ hy)
      · simp at hy
        subst hy
        exact hxp) g2 o2 b2
  have hv := h.base.1
  have hu := h.base.2
  have s1 := c1.size
  have s2 := g1.size
  have s3 := c2.size
  have s4 := g2.size
  refine ⟨(k3.swap).keep c3, ?_⟩
  have b1' : Below B w W1 := below_grown c1 hB (fun k e => by cases e)
  have b2' : Below B W1 W1' := below_grown g1 (by omega) (fun k e => (hv k e).1)
  have b3' : Below B W1' W2 := below_grown c2 (by omega) (fun k e => by cases e)
  have b4' : Below B W2 W2' := below_grown g2 (by omega) (fun k e => (hu k e).1)
  have b5' : Below B W2' Wf := below_grown c3 (by omega) (fun k e => by cases e)
  exact (((b1'.trans b2').trans b3').trans b4').trans b5'
end
end Go.Proofs.YtglnnoglbieaeaaGreatDoor
/- What strings.Clone answers: the text itself. -/
namespace Go.Proofs.YtglnnoglbieaeaaGreatDoor
open Go.RowKit
set_option linter.unusedSimpArgs false
set_option linter.unusedVariables false

theorem infoByte : (Tryz.prog.info? 5).map (fun i => (i.zero, i.size, i.bytes)) = some (some (.int .u8 0), 1, 1) := by kernel_rfl
set_option maxHeartbeats 1000000 in
set_option maxRecDepth 100000 in
theorem liteClone (s : ByteArray) (w : World) (hlim : s.size ≤ 1000000) :
    Calls Tryz.prog 53 #[.string s] w fun e w' => e = .returned (.string s) ∧ Below w.heap.size w w' := by
  by_cases h0 : s.size = 0
  · have hs : s = ⟨#[]⟩ := by
      apply ByteArray.ext
      exact Array.eq_empty_of_size_eq_zero h0
    subst hs
    go_enter Tryz.func53, Tryz.ntmps53
    go_wp2
    go_ret
    exact ⟨rfl, Below.refl _ _⟩
  · obtain ⟨i0, hi, hz0, hz1, hz2⟩ := info_parts infoByte
    have hinfo : (Tryz.prog.info? 5).map (·.size) = some 1 := by rw [hi]; simp [hz1]
    have hco : Tryz.prog.cellsOf 5 = 1 := by simp [Program.cellsOf, hi, hz1]
    obtain ⟨M, hM⟩ : ∃ M, M = madeCells (Value.int .u8 0).cells (((s.size : Nat) : Int).toNat * i0.size) := ⟨_, rfl⟩
    have hMs : M.size = s.size := by rw [hM, size_madeCells, hz1]; simp
    have hmk : (Instr.makeSlice 163 (.int .i64 (s.size : Int)) (.int .i64 (s.size : Int))).run Tryz.prog w = .ok (.slice (some ⟨w.heap.size, 0, none⟩) s.size s.size) (w.alloc (.cells M 5)) := by
      have h := run_make (P := Tryz.prog) w 163 5 i0 (.int .u8 0) Tryz.underlying163 hi hz0 .i64 .i64 (s.size : Int) (s.size : Int) (by omega) (by omega) (by rw [hz2]; omega) (by omega)
      rw [← hM] at h
      simpa using h
    clear hM
    have hcp := Lib.run_copy_row_string (P := Tryz.prog) (w.alloc (.cells M 5)) 163 9 3 5 w.heap.size 0 s.size s.size s M 5 Tryz.underlying163 hinfo (heap_alloc_new w _) (Nat.le_refl _) (by omega)
    obtain ⟨Y, hY⟩ : ∃ Y, Y = (M.toList.take 0 ++ Lib.byteCells s.data.toList ++ M.toList.drop (0 + s.size)).toArray := ⟨_, rfl⟩
    rw [← hY] at hcp
    have hYl : Y.toList = Lib.byteCells s.data.toList := by
      rw [hY, List.toList_toArray, List.take_zero, List.nil_append, List.drop_of_length_le (by rw [Array.length_toList]; omega), List.append_nil]
    have hYs : Y.size = s.size := by rw [← Array.length_toList, hYl, Lib.byteCells_length, ← Lib.size_eq]
    have hgY : ((w.alloc (.cells M 5)).setRow w.heap.size Y).heap[w.heap.size]? = some (.cells Y 5 (0, 0)) := setRow_heap _ _ M _ 5 (0, 0) (heap_alloc_new w _)
    have hne : s.data.toList ≠ [] := fun e => h0 (by rw [Lib.size_eq, e]; rfl)
    have hUS := Lib.run_unsafeString_row (P := Tryz.prog) ((w.alloc (.cells M 5)).setRow w.heap.size Y) 164 3 9 5 Tryz.underlying164 hco w.heap.size Y.size (by unfold World.shape?; rw [hgY]) s.data.toList hne (by rw [← Lib.size_eq]; omega) (by rw [← Lib.size_eq]; omega)
      (fun j x hx => Lib.cells_of_row hgY Y.size j _ (by rw [List.take_of_length_le (by rw [Array.length_toList]; exact Nat.le_refl _), hYl]; simp [Lib.byteCells, hx]))
    rw [← Lib.size_eq] at hUS
    clear hY
    go_enter Tryz.func53, Tryz.ntmps53
    go_wp2
    go_ret
    have hb1 : Below w.heap.size w (w.alloc (.cells M 5)) := (Below.refl _ w).alloc (Nat.le_refl _) _
    have hb2 : Below w.heap.size (w.alloc (.cells M 5)) ((w.alloc (.cells M 5)).setRow w.heap.size Y) := ⟨rfl, rfl, rfl, by simp, fun k hk => setRow_other _ _ _ _ (by omega)⟩
    exact ⟨rfl, Lib.below_freeze (hb1.trans hb2) (p := ⟨w.heap.size, 0, none⟩) (Nat.le_refl _) _⟩
set_option maxHeartbeats 1000000 in
theorem clone_any (s : ByteArray) (w : World) (hlim : s.size ≤ 1000000) :
    Calls Tryz.prog 27 #[.string s] w fun e w' => e = .returned (.string s) ∧ Below w.heap.size w w' := by
  go_enter Tryz.func27, Tryz.ntmps27
  go_wp2_with fail
  refine (liteClone s _ hlim).mono ?_
  rintro e w1 ⟨rfl, hb1⟩
  go_wp2
  go_ret
  exact ⟨rfl, hb1⟩
end Go.Proofs.YtglnnoglbieaeaaGreatDoor
/- Are two topologies the same, as they stand? -/
namespace Go.Proofs.YtglnnoglbieaeaaGreatDoor
open Go.RowKit
set_option linter.unusedSimpArgs false
set_option linter.unusedVariables false

theorem hstB_iff (a b : ByteArray × (Int × Int)) : hstB a b = true ↔ a = b := by
  obtain ⟨a0, a1, a2⟩ := a
  obtain ⟨b0, b1, b2⟩ := b
  simp only [hstB, Bool.and_eq_true, beq_iff_eq, Prod.mk.injEq, ba_iff]
/-- Two topologies have all the same. -/
def tpB (S S' : Int) (Ls Ls' : List ((Int × Int) × (Int × Int))) (Hs Hs' : List (ByteArray × (Int × Int))) : Bool := decide (S = S') && (smG lnkB Ls Ls' && smG hstB Hs Hs')
theorem tpB_iff {S S' : Int} {Ls Ls' : List ((Int × Int) × (Int × Int))} {Hs Hs' : List (ByteArray × (Int × Int))} : tpB S S' Ls Ls' Hs Hs' = true ↔ S = S' ∧ Ls = Ls' ∧ Hs = Hs' := by
  simp only [tpB, Bool.and_eq_true, decide_eq_true_eq, smG_eq lnkB_iff, smG_eq hstB_iff]
/-- Two boxes, and a link of each: a class of worlds. -/
def LC (w : World) (B : Nat) (S S' : Int) (a1 a2 b1 b2 : Value) (g o : Nat) (x0 x1 x2 x3 : Int) (g' o' : Nat) (y0 y1 y2 y3 : Int) (w' : World) : Prop :=
  Below w.heap.size w w' ∧ TBox w' B S a1 a2 ∧ TBox w' (B + 1) S' b1 b2 ∧ (w'.cell? ⟨g, o, none⟩ = some (.int .i64 x0) ∧ w'.cell? ⟨g, o + 1, none⟩ = some (.int .i64 x1) ∧ w'.cell? ⟨g, o + 2, none⟩ = some (.int .i64 x2) ∧ w'.cell? ⟨g, o + 3, none⟩ = some (.int .i64 x3)) ∧
    w'.cell? ⟨g', o', none⟩ = some (.int .i64 y0) ∧ w'.cell? ⟨g', o' + 1, none⟩ = some (.int .i64 y1) ∧ w'.cell? ⟨g', o' + 2, none⟩ = some (.int .i64 y2) ∧ w'.cell? ⟨g', o' + 3, none⟩ = some (.int .i64 y3)
theorem LC.later {w W W' : World} {B : Nat} {S S' : Int} {a1 a2 b1 b2 : Value} {g o : Nat} {x0 x1 x2 x3 : Int} {g' o' : Nat} {y0 y1 y2 y3 : Int} (hb : Below W.heap.size W W') (h : LC w B S S' a1 a2 b1 b2 g o x0 x1 x2 x3 g' o' y0 y1 y2 y3 W) : LC w B S S' a1 a2 b1 b2 g o x0 x1 x2 x3 g' o' y0 y1 y2 y3 W' := by
  obtain ⟨h0, t1, t2, ⟨h1, h2, h3, h4⟩, k1, k2, k3, k4⟩ := h
  exact ⟨h0.trans (hb.mono h0.size), t1.later hb, t2.later hb, ⟨cell_later hb h1, cell_later hb h2, cell_later hb h3, cell_later hb h4⟩, cell_later hb k1, cell_later hb k2, cell_later hb k3, cell_later hb k4⟩
/-- Two boxes, and a host of each. -/
def HC (w : World) (B : Nat) (S S' : Int) (a1 a2 b1 b2 : Value) (g o : Nat) (x0 : ByteArray) (x1 x2 : Int) (g' o' : Nat) (y0 : ByteArray) (y1 y2 : Int) (w' : World) : Prop :=
  Below w.heap.size w w' ∧ TBox w' B S a1 a2 ∧ TBox w' (B + 1) S' b1 b2 ∧ (w'.cell? ⟨g, o, none⟩ = some (.string x0) ∧ w'.cell? ⟨g, o + 1, none⟩ = some (.int .i64 x1) ∧ w'.cell? ⟨g, o + 2, none⟩ = some (.int .i64 x2)) ∧
    w'.cell? ⟨g', o', none⟩ = some (.string y0) ∧ w'.cell? ⟨g', o' + 1, none⟩ = some (.int .i64 y1) ∧ w'.cell? ⟨g', o' + 2, none⟩ = some (.int .i64 y2)
theorem HC.later {w W W' : World} {B : Nat} {S S' : Int} {a1 a2 b1 b2 : Value} {g o : Nat} {x0 : ByteArray} {x1 x2 : Int} {g' o' : Nat} {y0 : ByteArray} {y1 y2 : Int} (hb : Below W.heap.size W W') (h : HC w B S S' a1 a2 b1 b2 g o x0 x1 x2 g' o' y0 y1 y2 W) : HC w B S S' a1 a2 b1 b2 g o x0 x1 x2 g' o' y0 y1 y2 W' := by
  obtain ⟨h0, t1, t2, ⟨h1, h2, h3⟩, k1, k2, k3⟩ := h
  exact ⟨h0.trans (hb.mono h0.size), t1.later hb, t2.later hb, ⟨cell_later hb h1, cell_later hb h2, cell_later hb h3⟩, cell_later hb k1, cell_later hb k2, cell_later hb k3⟩
/-- Two boxes. -/
def TT (W : World) (B : Nat) (S S' : Int) (a1 a2 b1 b2 : Value) : Prop := TBox W B S a1 a2 ∧ TBox W (B + 1) S' b1 b2
theorem tt_new (w : World) (S S' : Int) (a1 a2 b1 b2 : Value) (t : TypeId) : TT ((w.alloc (Obj.cells #[.int .i64 S, a1, a2] t)).alloc (Obj.cells #[.int .i64 S', b1, b2] t)) w.heap.size S S' a1 a2 b1 b2 := by
  refine ⟨(tbox_new w S a1 a2 t).later ((Below.refl _ _).alloc (Nat.le_refl _) _), ?_⟩
  have := tbox_new (w.alloc (Obj.cells #[.int .i64 S, a1, a2] t)) S' b1 b2 t
  simpa using this
theorem TT.later {W W' : World} {B : Nat} {S S' : Int} {a1 a2 b1 b2 : Value} (h : TT W B S S' a1 a2 b1 b2) (hb : Below W.heap.size W W') : TT W' B S S' a1 a2 b1 b2 := ⟨h.1.later hb, h.2.later hb⟩
end Go.Proofs.YtglnnoglbieaeaaGreatDoor
/- What railsame.Topo answers at any two topologies. Written by mk/alike.py. -/
namespace Go.Proofs.YtglnnoglbieaeaaGreatDoor
open Go.RowKit
set_option linter.unusedSimpArgs false
set_option linter.unusedVariables false

end Go.Proofs.YtglnnoglbieaeaaGreatDoor
/- Slices of ops: where they lie, rows of them that a call owns. -/
namespace Go.Proofs.YtglnnoglbieaeaaGreatDoor
open Go.RowKit
set_option linter.unusedSimpArgs false
set_option linter.unusedVariables false

/-- An op lies at an address. -/
structure C8 (w : World) (g o : Nat) (x : Op8) : Prop where
  c0 : w.cell? ⟨g, o, none⟩ = some (.int .i64 x.w)
  c1 : w.cell? ⟨g, o + 1, none⟩ = some (.bool x.a)
  c2 : w.cell? ⟨g, o + 2, none⟩ = some (.int .i64 x.r.p)
  c3 : w.cell? ⟨g, o + 3, none⟩ = some (.int .i64 x.r.m)
  c4 : w.cell? ⟨g, o + 4, none⟩ = some (.int .i64 x.r.b)
  c5 : w.cell? ⟨g, o + 5, none⟩ = some (.int .i64 x.r.o)
  c6 : w.cell? ⟨g, o + 6, none⟩ = some (.int .i64 x.r.s)
  c7 : w.cell? ⟨g, o + 7, none⟩ = some (.int .i64 x.r.v)
theorem C8.later {w w' : World} {g o : Nat} {x : Op8} (h : C8 w g o x) (hb : Below w.heap.size w w') : C8 w' g o x :=
  ⟨cell_later hb h.c0, cell_later hb h.c1, cell_later hb h.c2, cell_later hb h.c3, cell_later hb h.c4, cell_later hb h.c5, cell_later hb h.c6, cell_later hb h.c7⟩
theorem C8.new (w : World) (y : Int) (a : Bool) (p m b o s v : Int) (t : TypeId) : C8 (w.alloc (Obj.cells #[Value.int IntKind.i64 y, Value.bool a, Value.int IntKind.i64 p, Value.int IntKind.i64 m, Value.int IntKind.i64 b, Value.int IntKind.i64 o, Value.int IntKind.i64 s, Value.int IntKind.i64 v] t)) w.heap.size 0 ⟨y, a, ⟨p, m, b, o, s, v⟩⟩ := by
  refine ⟨?_, ?_, ?_, ?_, ?_, ?_, ?_, ?_⟩ <;> simp
/-- These ops lie from an address on. -/
def OAt (w : World) (g o : Nat) (L : List Op8) : Prop := ∀ i (h : i < L.length), C8 w g (o + i * 8) L[i]
theorem OAt.later {w w' : World} {g o : Nat} {L : List Op8} (h : OAt w g o L) (hb : Below w.heap.size w w') : OAt w' g o L := fun i hi => (h i hi).later hb
/-- A value is a slice of these ops. -/
def SO (w : World) (v : Value) (L : List Op8) : Prop :=
  (∃ ao cap, v = .slice ao 0 cap ∧ L = []) ∨ ∃ g o cap, v = .slice (some ⟨g, o, none⟩) L.length cap ∧ L.length ≤ cap ∧ cap ≤ maxLen ∧ OAt w g o L
theorem SO.later {w w' : World} {v : Value} {L : List Op8} (h : SO w v L) (hb : Below w.heap.size w w') : SO w' v L := by
  rcases h with h | ⟨g, o, cap, h1, h2, h3, h4⟩
  · exact .inl h
  · exact .inr ⟨g, o, cap, h1, h2, h3, h4.later hb⟩
theorem SO.form {w : World} {v : Value} {L : List Op8} (h : SO w v L) : ∃ ao n cap, v = .slice ao n cap ∧ L.length = n ∧ n ≤ maxLen ∧ n ≤ cap ∧ (0 < n → ∃ g o, ao = some ⟨g, o, none⟩ ∧ OAt w g o L ∧ cap ≤ maxLen) := by
  rcases h with ⟨ao, cap, rfl, rfl⟩ | ⟨g, o, cap, rfl, h1, h2, h3⟩
  · exact ⟨ao, 0, cap, rfl, rfl, Nat.zero_le _, Nat.zero_le _, fun h => absurd h (by omega)⟩
  · exact ⟨_, _, cap, rfl, rfl, Nat.le_trans h1 h2, h1, fun _ => ⟨g, o, rfl, h3, h2⟩⟩
theorem SO.nil (w : World) : SO w (.slice none 0 0) [] := .inl ⟨none, 0, rfl, rfl⟩
/-- The op at a place, in letters. -/
theorem OAt.at {w : World} {g o : Nat} {L : List Op8} (h : OAt w g o L) {n k : Nat} (hn : L.length = n) (hk : k < n) :
    ∃ (y : Int) (a : Bool) (p m b q s v : Int) (hl : k < L.length), L[k] = ⟨y, a, ⟨p, m, b, q, s, v⟩⟩ ∧ (w.cell? ⟨g, o + k * 8, none⟩ = some (.int .i64 y) ∧ w.cell? ⟨g, o + k * 8 + 1, none⟩ = some (.bool a) ∧ w.cell? ⟨g, o + k * 8 + 2, none⟩ = some (.int .i64 p) ∧ w.cell? ⟨g, o + k * 8 + 3, none⟩ = some (.int .i64 m) ∧ w.cell? ⟨g, o + k * 8 + 4, none⟩ = some (.int .i64 b) ∧
      w.cell? ⟨g, o + k * 8 + 5, none⟩ = some (.int .i64 q) ∧ w.cell? ⟨g, o + k * 8 + 6, none⟩ = some (.int .i64 s) ∧ w.cell? ⟨g, o + k * 8 + 7, none⟩ = some (.int .i64 v)) :=
  have hl : k < L.length := by omega
  have c := h k hl
  ⟨_, _, _, _, _, _, _, _, hl, rfl, c.c0, c.c1, c.c2, c.c3, c.c4, c.c5, c.c6, c.c7⟩
/-- The cells of ops. -/
def cellsO (L : List Op8) : List Value := L.flatMap fun x => [.int .i64 x.w, .bool x.a, .int .i64 x.r.p, .int .i64 x.r.m, .int .i64 x.r.b, .int .i64 x.r.o, .int .i64 x.r.s, .int .i64 x.r.v]
theorem cellsO_app (L M : List Op8) : cellsO (L ++ M) = cellsO L ++ cellsO M := by simp [cellsO]
theorem cellsO_at (L : List Op8) (i : Nat) (h : i < L.length) : (cellsO L)[i * 8]? = some (.int .i64 (L[i]).w) ∧ (cellsO L)[i * 8 + 1]? = some (.bool (L[i]).a) ∧ (cellsO L)[i * 8 + 2]? = some (.int .i64 (L[i]).r.p) ∧ (cellsO L)[i * 8 + 3]? = some (.int .i64 (L[i]).r.m) ∧
    (cellsO L)[i * 8 + 4]? = some (.int .i64 (L[i]).r.b) ∧ (cellsO L)[i * 8 + 5]? = some (.int .i64 (L[i]).r.o) ∧ (cellsO L)[i * 8 + 6]? = some (.int .i64 (L[i]).r.s) ∧ (cellsO L)[i * 8 + 7]? = some (.int .i64 (L[i]).r.v) := by
  induction L generalizing i with
  | nil => simp at h
  | cons p r ih =>
    cases i with
    | zero => simp [cellsO]
    | succ i =>
      have := ih i (by simpa using h)
      have e1 : (i + 1) * 8 = i * 8 + 1 + 1 + 1 + 1 + 1 + 1 + 1 + 1 := by omega
      simpa [cellsO, e1] using this
/-- What a call owns may be read. -/
theorem own_SO {w : World} {B e : Nat} {v : Value} {L : List Op8} (h : w.ownsRow B e 8 v L.length (cellsO L)) : SO w v L := by
  rcases h.2 with ⟨rfl, h0⟩ | ⟨g, cap, cur, rfl, _, _, h1, h2, _⟩
  · exact .inl ⟨none, 0, rfl, List.length_eq_zero_iff.1 h0⟩
  · refine .inr ⟨g, 0, cap, rfl, h1, h2, fun i hi => ?_⟩
    obtain ⟨a0, a1, a2, a3, a4, a5, a6, a7⟩ := cellsO_at L i hi
    rw [Nat.zero_add]
    refine ⟨?_, ?_, ?_, ?_, ?_, ?_, ?_, ?_⟩
    · rw [h.cellAt _ (by omega)]; exact a0
    · rw [h.cellAt _ (by omega)]; exact a1
    · rw [h.cellAt _ (by omega)]; exact a2
    · rw [h.cellAt _ (by omega)]; exact a3
    · rw [h.cellAt _ (by omega)]; exact a4
    · rw [h.cellAt _ (by omega)]; exact a5
    · rw [h.cellAt _ (by omega)]; exact a6
    · rw [h.cellAt _ (by omega)]; exact a7
theorem infoOp : (Tryz.prog.info? 68).map (fun i => (i.zero, i.size, i.bytes)) = some (some (.agg #[.int .i64 0, .bool false, .int .i64 0, .int .i64 0, .int .i64 0, .int .i64 0, .int .i64 0, .int .i64 0]), 8, 64) := by kernel_rfl
theorem eightCells : (Value.agg #[.int .i64 0, .bool false, .int .i64 0, .int .i64 0, .int .i64 0, .int .i64 0, .int .i64 0, .int .i64 0]).cells.size = 8 := by simp [Value.cells]

/-- Appending one op, in a new row, to a row of ops that a call owns. -/
theorem wpList_append_op (w : World) {ops : Array Oper} {rest : List Oper} {o : Oper} {a : Act} {Q : Exit → Act → World → Prop} (hgd : o.guard = none) (s x : Operand) (t : TypeId)
    (ho : o.op = .call { callee := .builtin .append, args := #[s, x], argTypes := #[t, t] }) (ht : Tryz.prog.underlying t = some (.slice 68)) (base : Nat)
    (v : Value) (hs : a.eval s = v) (L : List Op8) (hown : w.ownsRow base 68 8 v L.length (cellsO L)) (B : Nat) (hx : a.eval x = .slice (some ⟨B, 0, none⟩) 1 1) (y : Op8) (hM : C8 w B 0 y)
    (h100 : L.length ≤ 1000) (hbase : base ≤ w.heap.size)
    (h : ∀ v' w', w'.ownsRow base 68 8 v' (L ++ [y]).length (cellsO (L ++ [y])) → w.grownBy w' v.ownBlock → wpList Tryz.prog ops Q rest (a.put o.dst v') w') : wpList Tryz.prog ops Q (o :: rest) a w := by
  obtain ⟨i0, hi, hz0, hz1, hz2⟩ := info_parts infoOp
  refine wpList_append_own w hgd s x t ho base 68 i0 (.agg #[.int .i64 0, .bool false, .int .i64 0, .int .i64 0, .int .i64 0, .int .i64 0, .int .i64 0, .int .i64 0]) 8 64 ht hi hz0 hz1 hz2 eightCells (by decide) v _ _ hs hown ⟨B, 0, none⟩ 1 1 (cellsO [y]) hx rfl ?_ ?_ (by unfold maxLen; omega) (by omega) hbase ?_
  · intro j u hj
    rw [addr_add, Nat.zero_add]
    obtain ⟨c0, c1, c2, c3, c4, c5, c6, c7⟩ := hM
    match j, hj with
    | 0, hj => simp [cellsO] at hj; subst hj; exact c0
    | 1, hj => simp [cellsO] at hj; subst hj; exact c1
    | 2, hj => simp [cellsO] at hj; subst hj; exact c2
    | 3, hj => simp [cellsO] at hj; subst hj; exact c3
    | 4, hj => simp [cellsO] at hj; subst hj; exact c4
    | 5, hj => simp [cellsO] at hj; subst hj; exact c5
    | 6, hj => simp [cellsO] at hj; subst hj; exact c6
    | 7, hj => simp [cellsO] at hj; subst hj; exact c7
  · intro u hu
    simp [cellsO] at hu
    rcases hu with rfl | rfl | rfl | rfl | rfl | rfl | rfl | rfl <;> rfl
  · intro v' w' h1 h2 _
    refine h v' w' ?_ h2
    rw [List.length_append, cellsO_app]
    exact h1
end Go.Proofs.YtglnnoglbieaeaaGreatDoor
/- What table.check, Same, Diff and All answer. -/
namespace Go.Proofs.YtglnnoglbieaeaaGreatDoor
open Go.RowKit
set_option linter.unusedSimpArgs false
set_option linter.unusedVariables false

theorem tw_ne {A B : List Ru} (h : tbN A ≠ 0) : twN A B = tbN A := by simp [twN, h]
theorem tw_ok {A B : List Ru} (h : tbN A = 0) : twN A B = tbN B := by simp [twN, h]
theorem tw_two {A B : List Ru} (h : twN A B = 0) : tbN A = 0 ∧ tbN B = 0 := by
  by_cases h1 : tbN A = 0
  · rw [tw_ok h1] at h; exact ⟨h1, h⟩
  · rw [tw_ne h1] at h; exact absurd h h1
theorem df_ne {A B : List Ru} (h : twN A B ≠ 0) : dfL A B = [] := by simp [dfL, h]
theorem df_ok {A B : List Ru} (h : twN A B = 0) : dfL A B = taken (bey A B) ++ added (bey B A) := by simp [dfL, h]
theorem sm_ne {A B : List Ru} (h : twN A B ≠ 0) : smB A B = false := by simp [smB, h]
theorem sm_ok {A B : List Ru} (h : twN A B = 0) : smB A B = (decide (A.length = B.length) && decide ((bey A B).length = 0)) := by simp [smB, h]

end Go.Proofs.YtglnnoglbieaeaaGreatDoor
