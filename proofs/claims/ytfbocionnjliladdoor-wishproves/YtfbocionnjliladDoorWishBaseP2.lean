/- Contracts and facts on the way to WishBase, joined into one text: FarMath, BfsMath, Gen, TopoMath2, NetMath, NetMath2. -/
import Derived.Test.YtfbocionnjliladDoorWishBaseP1
import Derived.WalkKit
import Derived.WalkSpells
import Derived.Below
import Derived.ProofKit
import Derived.OpenShut
import Derived.ChangeOld
import Derived.Laws.AppendOwnNone
import Derived.Deep.Slices
/- How far it is over links from a switch to another one, in plain numbers: by fewest links, as far back, by a third one no nearer. No program in it. -/
namespace Go.Proofs.YtfbocionnjliladDoor
open Go.RowKit

/-- Does one come over at most n links from a to b? J: is there a link between two; the switches are 1 to S. -/
def rcB (S : Nat) (J : Nat → Nat → Bool) (a : Nat) : Nat → Nat → Bool
  | 0, b => b == a
  | n + 1, b => rcB S J a n b || (decide (1 ≤ b) && (decide (b ≤ S) && (List.range (S + 1)).any fun k => decide (1 ≤ k) && (rcB S J a n k && J k b)))
theorem rc_0 {S : Nat} {J : Nat → Nat → Bool} {a b : Nat} : rcB S J a 0 b = true ↔ b = a := by simp [rcB]
theorem rc_s {S : Nat} {J : Nat → Nat → Bool} {a b n : Nat} : rcB S J a (n + 1) b = true ↔ (rcB S J a n b = true ∨ (1 ≤ b ∧ b ≤ S ∧ ∃ k, 1 ≤ k ∧ k ≤ S ∧ rcB S J a n k = true ∧ J k b = true)) := by
  simp only [rcB, Bool.or_eq_true, Bool.and_eq_true, decide_eq_true_eq, List.any_eq_true, List.mem_range]
  constructor
  · rintro (h | ⟨h1, h2, k, h3, h4, h5, h6⟩)
    · exact .inl h
    · exact .inr ⟨h1, h2, k, h4, by omega, h5, h6⟩
  · rintro (h | ⟨h1, h2, k, h4, h3, h5, h6⟩)
    · exact .inl h
    · exact .inr ⟨h1, h2, k, by omega, h4, h5, h6⟩
section
variable {S : Nat} {J : Nat → Nat → Bool}
theorem rc_in {a : Nat} (h1 : 1 ≤ a) (h2 : a ≤ S) : ∀ {n b : Nat}, rcB S J a n b = true → 1 ≤ b ∧ b ≤ S
  | 0, b, h => by rw [rc_0] at h; omega
  | n + 1, b, h => by
    rw [rc_s] at h
    rcases h with h | ⟨h3, h4, _⟩
    · exact rc_in h1 h2 h
    · exact ⟨h3, h4⟩
theorem rc_le {a b n : Nat} (h : rcB S J a n b = true) : ∀ {m : Nat}, n ≤ m → rcB S J a m b = true
  | 0, hm => by
    obtain rfl : n = 0 := by omega
    exact h
  | m + 1, hm => by
    by_cases e : n = m + 1
    · rw [← e]; exact h
    · exact rc_s.2 (.inl (rc_le h (by omega)))
/-- One way behind the other. -/
theorem rc_tr {a c n : Nat} (h : rcB S J a n c = true) : ∀ {m b : Nat}, rcB S J c m b = true → rcB S J a (n + m) b = true
  | 0, b, hb => by
    rw [rc_0] at hb
    rw [hb]
    exact h
  | m + 1, b, hb => by
    rw [rc_s] at hb
    rcases hb with hb | ⟨h1, h2, k, h3, h4, h5, h6⟩
    · exact rc_s.2 (.inl (rc_tr h hb))
    · exact rc_s.2 (.inr ⟨h1, h2, k, h3, h4, rc_tr h h5, h6⟩)
/-- And back. -/
theorem rc_sy {a : Nat} (hJ : ∀ x y, J x y = J y x) (h1 : 1 ≤ a) (h2 : a ≤ S) : ∀ {n b : Nat}, rcB S J a n b = true → rcB S J b n a = true
  | 0, b, h => by
    rw [rc_0] at h ⊢
    exact h.symm
  | n + 1, b, h => by
    have hb := rc_in h1 h2 h
    rw [rc_s] at h
    rcases h with h | ⟨_, _, k, h3, h4, h5, h6⟩
    · exact rc_s.2 (.inl (rc_sy hJ h1 h2 h))
    · have ih := rc_sy hJ h1 h2 h5
      have e1 : rcB S J b 1 k = true := rc_s.2 (.inr ⟨h3, h4, b, hb.1, hb.2, rc_0.2 rfl, by rw [hJ]; exact h6⟩)
      have := rc_tr e1 ih
      rw [Nat.add_comm] at this
      exact this
theorem filter_lt {p q : Nat → Bool} (hpq : ∀ x, p x = true → q x = true) : ∀ {l : List Nat}, (∃ x ∈ l, q x = true ∧ p x = false) → (l.filter p).length < (l.filter q).length
  | [], h => by obtain ⟨x, hx, _⟩ := h; cases hx
  | y :: l, h => by
    have hle : ∀ l : List Nat, (l.filter p).length ≤ (l.filter q).length := by
      intro l
      induction l with
      | nil => simp
      | cons z l ih =>
        cases hp : p z
        · cases hq : q z
          · simp [hp, hq]; exact ih
          · simp [hp, hq]; omega
        · simp [hp, hpq z hp]; exact ih
    obtain ⟨x, hx, hq, hp⟩ := h
    rcases List.mem_cons.1 hx with e | hx
    · subst e
      have := hle l
      simp [hp, hq]
      omega
    · have ih := filter_lt hpq (l := l) ⟨x, hx, hq, hp⟩
      cases hpy : p y
      · cases hqy : q y
        · simp [hpy, hqy]; exact ih
        · simp [hpy, hqy]; omega
      · simp [hpy, hpq y hpy]; exact ih
/-- Nothing new in a round: nothing new ever. -/
theorem rc_st {a n : Nat} (h : ∀ b, rcB S J a (n + 1) b = true → rcB S J a n b = true) : ∀ {m b : Nat}, rcB S J a m b = true → n ≤ m → rcB S J a n b = true
  | 0, b, hb, hm => by
    obtain rfl : n = 0 := by omega
    exact hb
  | m + 1, b, hb, hm => by
    by_cases e : n = m + 1
    · rw [e]; exact hb
    · rw [rc_s] at hb
      rcases hb with hb | ⟨h1, h2, k, h3, h4, h5, h6⟩
      · exact rc_st h hb (by omega)
      · exact h b (rc_s.2 (.inr ⟨h1, h2, k, h3, h4, rc_st h h5 (by omega), h6⟩))
theorem rc_grow {a : Nat} (h1 : 1 ≤ a) (h2 : a ≤ S) : ∀ n : Nat, (∃ m, m < n ∧ ∀ b, rcB S J a (m + 1) b = true → rcB S J a m b = true) ∨ n + 1 ≤ ((List.range (S + 1)).filter (rcB S J a n)).length
  | 0 => by
    refine .inr ?_
    have : 0 < ((List.range (S + 1)).filter (rcB S J a 0)).length := by
      rw [List.length_pos_iff_exists_mem]
      exact ⟨a, List.mem_filter.2 ⟨List.mem_range.2 (by omega), rc_0.2 rfl⟩⟩
    omega
  | n + 1 => by
    rcases rc_grow h1 h2 n with ⟨m, hm, h⟩ | h
    · exact .inl ⟨m, by omega, h⟩
    · by_cases hs : ∀ b, rcB S J a (n + 1) b = true → rcB S J a n b = true
      · exact .inl ⟨n, by omega, hs⟩
      · refine .inr ?_
        have hx : ∃ x ∈ List.range (S + 1), rcB S J a (n + 1) x = true ∧ rcB S J a n x = false := by
          apply Classical.byContradiction
          intro hno
          refine hs fun b hb => ?_
          cases e : rcB S J a n b
          · have := rc_in h1 h2 hb
            exact absurd ⟨b, List.mem_range.2 (by omega), hb, e⟩ hno
          · rfl
        have := filter_lt (p := rcB S J a n) (q := rcB S J a (n + 1)) (fun x hx => rc_s.2 (.inl hx)) hx
        omega
/-- One comes over all links in one less than there are switches, or not at all. -/
theorem rc_all {a b n : Nat} (h1 : 1 ≤ a) (h2 : a ≤ S) (h : rcB S J a n b = true) : rcB S J a (S - 1) b = true := by
  rcases rc_grow (J := J) h1 h2 S with ⟨m, hm, hs⟩ | hg
  · by_cases hn : n ≤ m
    · exact rc_le h (by omega)
    · exact rc_le (rc_st hs h (by omega)) (by omega)
  · exfalso
    have hsub : ((List.range (S + 1)).filter (rcB S J a S)).length ≤ S := by
      have e : List.range (S + 1) = 0 :: (List.range S).map (· + 1) := by
        rw [List.range_succ_eq_map]
      rw [e, List.filter_cons]
      have h0 : rcB S J a S 0 = false := by
        cases e0 : rcB S J a S 0
        · rfl
        · have := rc_in h1 h2 e0
          omega
      rw [h0]
      have := List.length_filter_le (rcB S J a S) ((List.range S).map (· + 1))
      simpa using this
    omega
end
/-- The first number of some that fits, or -1. -/
def fstB (p : Nat → Bool) : Nat → Nat → Int
  | 0, _ => -1
  | k + 1, n => if p n then (n : Int) else fstB p k (n + 1)
/-- How far it is: -1: one does not come there. -/
def farN (S : Nat) (J : Nat → Nat → Bool) (a b : Nat) : Int := fstB (fun n => rcB S J a n b) 7 0
theorem fst_no {p : Nat → Bool} : ∀ {k n : Nat}, (∀ m, n ≤ m → m < n + k → p m = false) → fstB p k n = -1
  | 0, _, _ => rfl
  | k + 1, n, h => by
    rw [fstB, h n (by omega) (by omega), if_neg (by decide)]
    exact fst_no fun m h1 h2 => h m (by omega) (by omega)
theorem fst_at {p : Nat → Bool} {m : Nat} : ∀ {k n : Nat}, n ≤ m → m < n + k → (∀ j, n ≤ j → j < m → p j = false) → p m = true → fstB p k n = m
  | 0, n, h1, h2, _, _ => by omega
  | k + 1, n, h1, h2, h3, h4 => by
    rw [fstB]
    by_cases e : n = m
    · rw [e, h4, if_pos rfl]
    · rw [h3 n (by omega) (by omega), if_neg (by decide)]
      exact fst_at (by omega) (by omega) (fun j h5 h6 => h3 j (by omega) h6) h4
theorem fst_or {p : Nat → Bool} {k n : Nat} : (fstB p k n = -1 ∧ ∀ m, n ≤ m → m < n + k → p m = false) ∨ ∃ m : Nat, n ≤ m ∧ m < n + k ∧ fstB p k n = m ∧ p m = true ∧ ∀ j, n ≤ j → j < m → p j = false := by
  induction k generalizing n with
  | zero => exact .inl ⟨rfl, fun m h1 h2 => by omega⟩
  | succ k ih =>
    rw [fstB]
    cases e : p n
    · rw [if_neg (by decide)]
      rcases ih (n := n + 1) with ⟨h1, h2⟩ | ⟨m, h1, h2, h3, h4, h5⟩
      · refine .inl ⟨h1, fun m h3 h4 => ?_⟩
        by_cases e2 : m = n
        · rw [e2]; exact e
        · exact h2 m (by omega) (by omega)
      · refine .inr ⟨m, by omega, by omega, h3, h4, fun j h6 h7 => ?_⟩
        by_cases e2 : j = n
        · rw [e2]; exact e
        · exact h5 j (by omega) h7
    · exact .inr ⟨n, Nat.le_refl _, by omega, by simp, e, fun j h1 h2 => by omega⟩
section
variable {S : Nat} {J : Nat → Nat → Bool}
/-- Far: not at all, or the fewest links. -/
theorem far_or {a b : Nat} (h1 : 1 ≤ a) (h2 : a ≤ S) (h6 : S ≤ 6) : (farN S J a b = -1 ∧ ∀ n, rcB S J a n b = false) ∨ ∃ m : Nat, farN S J a b = m ∧ rcB S J a m b = true ∧ ∀ n, rcB S J a n b = true → m ≤ n := by
  rcases fst_or (p := fun n => rcB S J a n b) (k := 7) (n := 0) with ⟨e, h⟩ | ⟨m, _, hm, e, hp, h⟩
  · refine .inl ⟨e, fun n => ?_⟩
    cases e2 : rcB S J a n b
    · rfl
    · have := rc_all h1 h2 e2
      rw [h (S - 1) (by omega) (by omega)] at this
      cases this
  · refine .inr ⟨m, e, hp, fun n hn => ?_⟩
    rcases Nat.lt_or_ge n m with hlt | hge
    · have hx := h n (by omega) hlt
      rw [hn] at hx
      cases hx
    · exact hge
theorem far_sy {a b : Nat} (hJ : ∀ x y, J x y = J y x) (a1 : 1 ≤ a) (a2 : a ≤ S) (b1 : 1 ≤ b) (b2 : b ≤ S) (h6 : S ≤ 6) : farN S J a b = farN S J b a := by
  rcases far_or (J := J) (b := b) a1 a2 h6 with ⟨e, h⟩ | ⟨m, e, hm, hl⟩
  · rcases far_or (J := J) (b := a) b1 b2 h6 with ⟨e2, _⟩ | ⟨m2, e2, hm2, _⟩
    · rw [e, e2]
    · have := rc_sy hJ b1 b2 hm2
      rw [h] at this
      cases this
  · rcases far_or (J := J) (b := a) b1 b2 h6 with ⟨e2, h2⟩ | ⟨m2, e2, hm2, hl2⟩
    · have := rc_sy hJ a1 a2 hm
      rw [h2] at this
      cases this
    · have i1 := hl _ (rc_sy hJ b1 b2 hm2)
      have i2 := hl2 _ (rc_sy hJ a1 a2 hm)
      rw [e, e2]
      congr 1
      omega
theorem far_tr {a b c : Nat} (a1 : 1 ≤ a) (a2 : a ≤ S) (c1 : 1 ≤ c) (c2 : c ≤ S) (h6 : S ≤ 6) (h1 : 0 ≤ farN S J a c) (h2 : 0 ≤ farN S J c b) : 0 ≤ farN S J a b ∧ farN S J a b ≤ farN S J a c + farN S J c b := by
  rcases far_or (J := J) (b := c) a1 a2 h6 with ⟨e, _⟩ | ⟨m, e, hm, _⟩
  · omega
  · rcases far_or (J := J) (b := b) c1 c2 h6 with ⟨e2, _⟩ | ⟨m2, e2, hm2, _⟩
    · omega
    · have h3 := rc_tr hm hm2
      rcases far_or (J := J) (b := b) a1 a2 h6 with ⟨e3, h4⟩ | ⟨m3, e3, hm3, hl3⟩
      · rw [h4] at h3; cases h3
      · have := hl3 _ h3
        rw [e, e2, e3]
        omega
theorem far_0 {a b : Nat} (a1 : 1 ≤ a) (a2 : a ≤ S) (h6 : S ≤ 6) : farN S J a b = 0 ↔ b = a := by
  constructor
  · intro h
    rcases far_or (J := J) (b := b) a1 a2 h6 with ⟨e, _⟩ | ⟨m, e, hm, _⟩
    · omega
    · rw [e] at h
      obtain rfl : m = 0 := by omega
      exact rc_0.1 hm
  · intro h
    exact fst_at (m := 0) (Nat.le_refl _) (by omega) (fun j _ hj => by omega) (rc_0.2 h)
end
end Go.Proofs.YtfbocionnjliladDoor
/- How far it is, found by going from those that are nearer to those that are farther off: plain lists. No program in it. -/
namespace Go.Proofs.YtfbocionnjliladDoor
open Go.RowKit
set_option linter.unusedVariables false

def qI (a b : Int) : Bool := a == b
theorem qI_iff (a b : Int) : qI a b = true ↔ a = b := by simp [qI]
section
variable {κ β : Type} {q : κ → κ → Bool}
theorem mput_new (hq : ∀ a b, q a b = true ↔ a = b) {k : κ} {b : β} : ∀ {M : List (κ × β)}, mget q k M = none → mput q k b M = M ++ [(k, b)]
  | [], _ => rfl
  | p :: M, h => by
    rw [mget] at h
    by_cases e : q k p.1 = true
    · rw [if_pos e] at h; cases h
    · rw [if_neg e] at h
      rw [mput, if_neg e, mput_new hq h]
      rfl
theorem mget_none (hq : ∀ a b, q a b = true ↔ a = b) {k : κ} : ∀ {M : List (κ × β)}, mget q k M = none → k ∉ M.map (·.1)
  | [], _ => by simp
  | p :: M, h => by
    rw [mget] at h
    by_cases e : q k p.1 = true
    · rw [if_pos e] at h; cases h
    · rw [if_neg e] at h
      have := mget_none hq h
      simp only [List.map_cons, List.mem_cons, not_or]
      exact ⟨fun e2 => e ((hq _ _).2 e2), this⟩
theorem mget_mem (hq : ∀ a b, q a b = true ↔ a = b) {k : κ} : ∀ {M : List (κ × β)}, k ∈ M.map (·.1) → ∃ b, mget q k M = some b
  | [], h => by simp at h
  | p :: M, h => by
    rw [mget]
    by_cases e : q k p.1 = true
    · rw [if_pos e]; exact ⟨_, rfl⟩
    · rw [if_neg e]
      simp only [List.map_cons, List.mem_cons] at h
      rcases h with h | h
      · exact absurd ((hq _ _).2 h) e
      · exact mget_mem hq h
end
theorem few_ints : ∀ (S : Nat) (L : List Int), L.Nodup → (∀ x ∈ L, 1 ≤ x ∧ x ≤ S) → L.length ≤ S
  | 0, L, _, h => by
    cases L with
    | nil => simp
    | cons x L => have := h x (by simp); omega
  | S + 1, L, hd, h => by
    by_cases hm : ((S : Int) + 1) ∈ L
    · have h1 := few_ints S (L.erase ((S : Int) + 1)) (hd.erase _) (fun x hx => by
        rw [hd.mem_erase_iff] at hx
        have := h x hx.2
        have h3 := hx.1
        omega)
      rw [List.length_erase_of_mem hm] at h1
      omega
    · have h1 := few_ints S L hd (fun x hx => by
        have h2 := h x hx
        have h3 : x ≠ (S : Int) + 1 := fun e => hm (e ▸ hx)
        omega)
      omega
/-- The switches that are joined with one, rising. -/
def nrL (S : Int) (Ls : List ((Int × Int) × (Int × Int))) (a : Int) : List Int := ((List.range S.toNat).map fun i : Nat => (i : Int) + 1).filter (joinB Ls a)
theorem nr_mem {S : Int} {Ls : List ((Int × Int) × (Int × Int))} {a y : Int} : y ∈ nrL S Ls a ↔ 1 ≤ y ∧ y ≤ S ∧ joinB Ls a y = true := by
  simp only [nrL, List.mem_filter, List.mem_map, List.mem_range]
  constructor
  · rintro ⟨⟨i, hi, rfl⟩, h⟩
    exact ⟨by omega, by omega, h⟩
  · rintro ⟨h1, h2, h3⟩
    exact ⟨⟨(y - 1).toNat, by omega, by omega⟩, h3⟩
theorem nr_len (S : Int) (Ls : List ((Int × Int) × (Int × Int))) (a : Int) : (nrL S Ls a).length ≤ S.toNat := by
  unfold nrL
  refine Nat.le_trans (List.length_filter_le _ _) ?_
  simp
/-- Up to a number. -/
def nrTo (Ls : List ((Int × Int) × (Int × Int))) (a : Int) (k : Nat) : List Int := ((List.range k).map fun i : Nat => (i : Int) + 1).filter (joinB Ls a)
theorem nr_0 (Ls : List ((Int × Int) × (Int × Int))) (a : Int) : nrTo Ls a 0 = [] := rfl
theorem nr_to (S : Int) (Ls : List ((Int × Int) × (Int × Int))) (a : Int) : nrTo Ls a S.toNat = nrL S Ls a := rfl
theorem nr_next (Ls : List ((Int × Int) × (Int × Int))) (a : Int) (k : Nat) : nrTo Ls a (k + 1) = nrTo Ls a k ++ (if joinB Ls a ((k : Int) + 1) then [(k : Int) + 1] else []) := by
  unfold nrTo
  rw [List.range_succ, List.map_append, List.filter_append]
  congr 1
  cases h : joinB Ls a ((k : Int) + 1) <;> simp [h]
theorem nrTo_len (Ls : List ((Int × Int) × (Int × Int))) (a : Int) (k : Nat) : (nrTo Ls a k).length ≤ k := by
  unfold nrTo
  refine Nat.le_trans (List.length_filter_le _ _) ?_
  simp

/-- Some have their number, some wait. -/
structure BI (S : Nat) (J : Nat → Nat → Bool) (a : Nat) (D : List (Int × Int)) (W : List Int) : Prop where
  st : mget qI a D = some 0
  nd : (D.map (·.1)).Nodup
  rg : ∀ y n, mget qI y D = some n → 1 ≤ y ∧ y ≤ S ∧ 0 ≤ n ∧ n < 7 ∧ rcB S J a n.toNat y.toNat = true
  inD : ∀ x ∈ W, ∃ n, mget qI x D = some n
  so : W.Pairwise fun x y => ∀ m n, mget qI x D = some m → mget qI y D = some n → m ≤ n
  hd : ∀ x r, W = x :: r → ∀ m, mget qI x D = some m → ∀ y n, mget qI y D = some n → n ≤ m + 1
  pr : ∀ x m, mget qI x D = some m → x ∉ W → ∀ y : Int, 1 ≤ y → y ≤ S → J x.toNat y.toNat = true → ∃ n, mget qI y D = some n ∧ n ≤ m + 1
  cn : ∀ y n, mget qI y D = some n → n < D.length
section
variable {S : Nat} {J : Nat → Nat → Bool} {a : Nat}
theorem BI.len {D : List (Int × Int)} {W : List Int} (h : BI S J a D W) : D.length ≤ S := by
  have := few_ints S (D.map (·.1)) h.nd (fun x hx => by
    obtain ⟨b, hb⟩ := mget_mem qI_iff hx
    have := h.rg x b hb
    exact ⟨this.1, this.2.1⟩)
  simpa using this
theorem bi_start (h1 : 1 ≤ a) (h2 : a ≤ S) : BI S J a [((a : Int), 0)] [(a : Int)] := by
  have hg : ∀ y n, mget qI y [((a : Int), (0 : Int))] = some n → y = a ∧ n = 0 := by
    intro y n h
    rw [mget] at h
    by_cases e : qI y a = true
    · rw [if_pos e] at h
      simp at h
      exact ⟨(qI_iff _ _).1 e, h.symm⟩
    · rw [if_neg e] at h; cases h
  have hs : mget qI (a : Int) [((a : Int), (0 : Int))] = some 0 := by rw [mget, if_pos ((qI_iff _ _).2 rfl)]
  refine ⟨hs, by simp, ?_, ?_, by simp, ?_, ?_, ?_⟩
  · intro y n h
    obtain ⟨rfl, rfl⟩ := hg y n h
    exact ⟨by omega, by omega, by omega, by omega, by simp [rcB]⟩
  · intro x hx
    simp at hx
    subst hx
    exact ⟨0, hs⟩
  · intro x r e m hm y n hn
    have := (hg y n hn).2
    have := (hg x m hm).2
    omega
  · intro x m hm hx
    have := (hg x m hm).1
    exact absurd (by simp [this]) hx
  · intro y n h
    have := (hg y n h).2
    simp; omega
/-- One that is near the first has its number already. -/
theorem bi_has {D : List (Int × Int)} {x : Int} {W : List Int} {m : Int} (h : BI S J a D (x :: W)) (hm : mget qI x D = some m) {y n : Int} (hy : mget qI y D = some n) : n ≤ m + 1 := h.hd x W rfl m hm y n hy
/-- One that is near the first has none yet. -/
theorem bi_new {D : List (Int × Int)} {x : Int} {W : List Int} {m : Int} (h6 : S ≤ 6) (h : BI S J a D (x :: W)) (hm : mget qI x D = some m) {y : Int} (h1 : 1 ≤ y) (h2 : y ≤ S) (hJ : J x.toNat y.toNat = true) (hy : mget qI y D = none) :
    BI S J a (mput qI y (m + 1) D) (x :: (W ++ [y])) ∧ mget qI x (mput qI y (m + 1) D) = some m ∧ (mput qI y (m + 1) D).length = D.length + 1 ∧ (∀ z n, mget qI z D = some n → mget qI z (mput qI y (m + 1) D) = some n) ∧ mget qI y (mput qI y (m + 1) D) = some (m + 1) := by
  have hput : ∀ z, mget qI z (mput qI y (m + 1) D) = if qI z y then some (m + 1) else mget qI z D := fun z => mget_put qI_iff y z (m + 1) D
  have hne : ∀ z n, mget qI z D = some n → ¬ z = y := fun z n hz e => by rw [e, hy] at hz; cases hz
  have old : ∀ z n, mget qI z D = some n → mget qI z (mput qI y (m + 1) D) = some n := fun z n hz => by
    rw [hput, if_neg (fun e => hne z n hz ((qI_iff _ _).1 e))]
    exact hz
  have new : mget qI y (mput qI y (m + 1) D) = some (m + 1) := by rw [hput, if_pos ((qI_iff _ _).2 rfl)]
  have way : ∀ z n, mget qI z (mput qI y (m + 1) D) = some n → (z = y ∧ n = m + 1) ∨ mget qI z D = some n := fun z n hz => by
    rw [hput] at hz
    by_cases e : qI z y = true
    · rw [if_pos e] at hz
      simp at hz
      exact .inl ⟨(qI_iff _ _).1 e, hz.symm⟩
    · rw [if_neg e] at hz
      exact .inr hz
  have happ : mput qI y (m + 1) D = D ++ [(y, m + 1)] := mput_new qI_iff hy
  have hlen : (mput qI y (m + 1) D).length = D.length + 1 := by rw [happ]; simp
  obtain ⟨x1, x2, m0, m7, mr⟩ := h.rg x m hm
  have hnd : ((mput qI y (m + 1) D).map (·.1)).Nodup := by
    rw [happ, List.map_append]
    rw [List.nodup_append]
    refine ⟨h.nd, by simp, ?_⟩
    intro u hu v hv e
    simp at hv
    subst hv
    subst e
    exact mget_none qI_iff hy hu
  have hrn : rcB S J a (m + 1).toNat y.toNat = true := by
    have e : (m + 1).toNat = m.toNat + 1 := by omega
    rw [e]
    exact rc_s.2 (.inr ⟨by omega, by omega, x.toNat, by omega, by omega, mr, hJ⟩)
  have hcn := h.cn x m hm
  have hdl : (mput qI y (m + 1) D).length ≤ S := by
    have := few_ints S ((mput qI y (m + 1) D).map (·.1)) hnd (fun z hz => by
      obtain ⟨b, hb⟩ := mget_mem qI_iff hz
      rcases way z b hb with ⟨rfl, _⟩ | hz
      · exact ⟨h1, h2⟩
      · have := h.rg z b hz
        exact ⟨this.1, this.2.1⟩)
    simpa using this
  refine ⟨⟨old _ _ h.st, hnd, ?_, ?_, ?_, ?_, ?_, ?_⟩, old x m hm, hlen, old, new⟩
  · intro z n hz
    rcases way z n hz with ⟨rfl, rfl⟩ | hz
    · exact ⟨h1, h2, by omega, by omega, hrn⟩
    · exact h.rg z n hz
  · intro z hz
    simp only [List.mem_cons, List.mem_append, List.not_mem_nil, or_false] at hz
    rcases hz with rfl | hz | rfl
    · exact ⟨m, old _ _ hm⟩
    · obtain ⟨n, hn⟩ := h.inD z (by simp [hz])
      exact ⟨n, old _ _ hn⟩
    · exact ⟨m + 1, new⟩
  · rw [show x :: (W ++ [y]) = (x :: W) ++ [y] from rfl, List.pairwise_append]
    refine ⟨?_, by simp, ?_⟩
    · refine h.so.imp_of_mem ?_
      intro u v hu hv huv p r hp hr
      obtain ⟨pu, hpu⟩ := h.inD u hu
      obtain ⟨pv, hpv⟩ := h.inD v hv
      rw [old u pu hpu] at hp
      rw [old v pv hpv] at hr
      cases hp
      cases hr
      exact huv _ _ hpu hpv
    · intro u hu v hv p r hp hr
      simp at hv
      subst hv
      rw [new] at hr
      cases hr
      obtain ⟨pu, hpu⟩ := h.inD u hu
      rw [old u pu hpu] at hp
      cases hp
      exact h.hd x W rfl m hm u _ hpu
  · intro z r e p hp z2 n hz2
    have ez : x = z := by simpa using (List.cons.inj e).1
    subst ez
    rw [old x m hm] at hp
    cases hp
    rcases way z2 n hz2 with ⟨rfl, rfl⟩ | hz
    · omega
    · exact h.hd x W rfl m hm z2 n hz
  · intro z p hp hz y2 hy1 hy2 hJ2
    simp only [List.mem_cons, List.mem_append, List.not_mem_nil, or_false, not_or] at hz
    rcases way z p hp with ⟨e, _⟩ | hp
    · exact absurd e hz.2.2
    · obtain ⟨n, hn, hle⟩ := h.pr z p hp (by simp [hz.1, hz.2.1]) y2 hy1 hy2 hJ2
      exact ⟨n, old _ _ hn, hle⟩
  · intro z n hz
    rw [hlen]
    rcases way z n hz with ⟨rfl, rfl⟩ | hz
    · omega
    · have := h.cn z n hz
      omega
/-- All that are near the first have their number: the first goes. -/
theorem bi_pop {D : List (Int × Int)} {x : Int} {W : List Int} {m : Int} (h : BI S J a D (x :: W)) (hm : mget qI x D = some m) (hall : ∀ y : Int, 1 ≤ y → y ≤ S → J x.toNat y.toNat = true → ∃ n, mget qI y D = some n ∧ n ≤ m + 1) : BI S J a D W := by
  refine ⟨h.st, h.nd, h.rg, fun z hz => h.inD z (by simp [hz]), h.so.of_cons, ?_, ?_, h.cn⟩
  · intro z r e p hp y n hy
    have h1 := h.hd x W rfl m hm y n hy
    have h2 := (List.pairwise_cons.1 h.so).1 z (by simp [e]) m p hm hp
    omega
  · intro z p hp hz y h1 h2 hJ
    by_cases e : z = x
    · subst e
      rw [hm] at hp
      cases hp
      exact hall y h1 h2 hJ
    · exact h.pr z p hp (by simp [e, hz]) y h1 h2 hJ
theorem bi_all {D : List (Int × Int)} (h : BI S J a D []) (h1 : 1 ≤ a) (h2 : a ≤ S) : ∀ (n b : Nat), rcB S J a n b = true → ∃ m, mget qI (b : Int) D = some m ∧ m ≤ n
  | 0, b, hr => by
    rw [rc_0] at hr
    subst hr
    exact ⟨0, h.st, by omega⟩
  | n + 1, b, hr => by
    rw [rc_s] at hr
    rcases hr with hr | ⟨b1, b2, k, k1, k2, hr, hJ⟩
    · obtain ⟨m, hm, hl⟩ := bi_all h h1 h2 n b hr
      exact ⟨m, hm, by omega⟩
    · obtain ⟨m, hm, hl⟩ := bi_all h h1 h2 n k hr
      obtain ⟨p, hp, hl2⟩ := h.pr k m hm (by simp) b (by omega) (by omega) (by simpa using hJ)
      exact ⟨p, hp, by omega⟩
/-- What has a number when nobody waits: as far as it is. -/
theorem bi_far {D : List (Int × Int)} (h : BI S J a D []) (h1 : 1 ≤ a) (h2 : a ≤ S) (h6 : S ≤ 6) (b : Nat) : (farN S J a b = -1 ∧ mget qI (b : Int) D = none) ∨ ∃ m : Nat, farN S J a b = m ∧ mget qI (b : Int) D = some (m : Int) := by
  rcases far_or (J := J) (b := b) h1 h2 h6 with ⟨e, hno⟩ | ⟨m, e, hm, hl⟩
  · refine .inl ⟨e, ?_⟩
    cases hg : mget qI (b : Int) D with
    | none => rfl
    | some n =>
      have := (h.rg _ n hg).2.2.2.2
      rw [Int.toNat_natCast, hno] at this
      cases this
  · refine .inr ⟨m, e, ?_⟩
    obtain ⟨n, hn, hle⟩ := bi_all h h1 h2 m b hm
    have hr := h.rg _ n hn
    have h3 := hl n.toNat (by have := hr.2.2.2.2; rwa [Int.toNat_natCast] at this)
    have : n = (m : Int) := by omega
    rw [hn, this]
end
end Go.Proofs.YtfbocionnjliladDoor
/- Slices of anything that is a fixed number of cells: where they lie, rows of them that a call owns, such that came in. No program in it. -/
namespace Go.Proofs.YtfbocionnjliladDoor
open Go.ChangeShapes Go.WideShapes Go.ChangeAt Go.RowKit

/-- How things are laid out in cells: each as so many. -/
structure Enc (α : Type) where
  c : α → List Value
  n : Nat
  len : ∀ x, (c x).length = n
  pos : 0 < n
  one : ∀ x u, u ∈ c x → u.oneCell' = true
/-- Values lie one behind the other from an address on. -/
def VAt (w : World) (g o : Nat) (vs : List Value) : Prop := ∀ j u, vs[j]? = some u → w.cell? ⟨g, o + j, none⟩ = some u
theorem VAt.later {w w' : World} {g o : Nat} {vs : List Value} (h : VAt w g o vs) (hb : Below w.heap.size w w') : VAt w' g o vs := fun j u hu => cell_later hb (h j u hu)
theorem vat_new (w : World) (vs : List Value) (t : TypeId) : VAt (w.alloc (.cells vs.toArray t)) w.heap.size 0 vs := by
  intro j u hu
  rw [Nat.zero_add]
  have hj : j < vs.length := (List.getElem?_eq_some_iff.1 hu).1
  simp only [World.cell?, World.alloc]
  simp [hu]
section
variable {α : Type} {E : Enc α}
/-- These lie from an address on. -/
def GAt (E : Enc α) (w : World) (g o : Nat) (L : List α) : Prop := ∀ i (h : i < L.length), VAt w g (o + i * E.n) (E.c L[i])
theorem GAt.later {w w' : World} {g o : Nat} {L : List α} (h : GAt E w g o L) (hb : Below w.heap.size w w') : GAt E w' g o L := fun i hi => (h i hi).later hb
theorem GAt.take {w : World} {g o : Nat} {L : List α} (h : GAt E w g o L) (k : Nat) : GAt E w g o (L.take k) := by
  intro i hi
  rw [List.getElem_take]
  exact h i (by simp at hi; omega)
theorem GAt.drop {w : World} {g o : Nat} {L : List α} (h : GAt E w g o L) (k : Nat) : GAt E w g (o + k * E.n) (L.drop k) := by
  intro i hi
  have hi2 : k + i < L.length := by simp at hi; omega
  have := h (k + i) hi2
  rw [List.getElem_drop]
  have e : o + (k + i) * E.n = o + k * E.n + i * E.n := by rw [Nat.add_mul]; omega
  rw [← e]
  exact this
/-- A value is a slice of these. -/
def GS (E : Enc α) (w : World) (v : Value) (L : List α) : Prop :=
  (∃ ao cap, v = .slice ao 0 cap ∧ L = []) ∨ ∃ g o cap, v = .slice (some ⟨g, o, none⟩) L.length cap ∧ L.length ≤ cap ∧ cap ≤ maxLen ∧ GAt E w g o L
theorem GS.later {w w' : World} {v : Value} {L : List α} (h : GS E w v L) (hb : Below w.heap.size w w') : GS E w' v L := by
  rcases h with h | ⟨g, o, cap, h1, h2, h3, h4⟩
  · exact .inl h
  · exact .inr ⟨g, o, cap, h1, h2, h3, h4.later hb⟩
theorem GS.form {w : World} {v : Value} {L : List α} (h : GS E w v L) : ∃ ao n cap, v = .slice ao n cap ∧ L.length = n ∧ n ≤ maxLen ∧ n ≤ cap ∧ (0 < n → ∃ g o, ao = some ⟨g, o, none⟩ ∧ GAt E w g o L ∧ cap ≤ maxLen) := by
  rcases h with ⟨ao, cap, rfl, rfl⟩ | ⟨g, o, cap, rfl, h1, h2, h3⟩
  · exact ⟨ao, 0, cap, rfl, rfl, Nat.zero_le _, Nat.zero_le _, fun h => absurd h (by omega)⟩
  · exact ⟨_, _, cap, rfl, rfl, Nat.le_trans h1 h2, h1, fun _ => ⟨g, o, rfl, h3, h2⟩⟩
theorem GS.len {w : World} {ao : Option Addr} {n cap : Nat} {L : List α} (h : GS E w (.slice ao n cap) L) : L.length = n := by
  rcases h with ⟨_, _, e, rfl⟩ | ⟨_, _, _, e, _⟩
  · simp at e; simp [e]
  · simp at e; exact e.2.1.symm
theorem GS.nil (w : World) : GS E w (.slice none 0 0) [] := .inl ⟨none, 0, rfl, rfl⟩
/-- One in a new row. -/
theorem gs_one (w : World) (x : α) (t : TypeId) {vs : List Value} (hv : vs = E.c x) : GS E (w.alloc (.cells vs.toArray t)) (.slice (some ⟨w.heap.size, 0, none⟩) 1 1) [x] := by
  subst hv
  refine .inr ⟨w.heap.size, 0, 1, rfl, Nat.le_refl _, by unfold maxLen; omega, fun i hi => ?_⟩
  obtain rfl : i = 0 := by simp at hi; omega
  have h := vat_new w (E.c x) t
  simpa using h
/-- The cells of some. -/
def cellsG (E : Enc α) (L : List α) : List Value := L.flatMap E.c
theorem cellsG_len (L : List α) : (cellsG E L).length = L.length * E.n := by
  induction L with
  | nil => simp [cellsG]
  | cons x r ih =>
    simp only [cellsG, List.flatMap_cons, List.length_append, List.length_cons, E.len] at *
    rw [ih, Nat.add_mul]
    omega
theorem cellsG_app (L M : List α) : cellsG E (L ++ M) = cellsG E L ++ cellsG E M := by simp [cellsG]
theorem cellsG_one (x : α) : cellsG E [x] = E.c x := by simp [cellsG]
theorem cellsG_at (L : List α) : ∀ (i : Nat) (h : i < L.length) (j : Nat), j < E.n → (cellsG E L)[i * E.n + j]? = (E.c L[i])[j]? := by
  induction L with
  | nil => intro i h; simp at h
  | cons x r ih =>
    intro i h j hj
    cases i with
    | zero =>
      simp only [cellsG, List.flatMap_cons, Nat.zero_mul, Nat.zero_add, List.getElem_cons_zero]
      rw [List.getElem?_append_left (by rw [E.len]; exact hj)]
    | succ i =>
      have := ih i (by simpa using h) j hj
      simp only [cellsG, List.flatMap_cons, List.getElem_cons_succ] at this ⊢
      rw [List.getElem?_append_right (by rw [E.len, Nat.add_mul]; omega), E.len]
      have e : (i + 1) * E.n + j - E.n = i * E.n + j := by rw [Nat.add_mul]; omega
      rw [e]
      exact this
theorem cellsG_all (L : List α) : ∀ u ∈ cellsG E L, u.oneCell' = true := by
  intro u hu
  simp only [cellsG, List.mem_flatMap] at hu
  obtain ⟨x, _, hx⟩ := hu
  exact E.one x u hx
/-- What a call owns may be read. -/
theorem own_GS {w : World} {B e : Nat} {v : Value} {L : List α} (h : w.ownsRow B e E.n v L.length (cellsG E L)) : GS E w v L := by
  rcases h.2 with ⟨rfl, h0⟩ | ⟨g, cap, cur, rfl, _, _, h1, h2, _⟩
  · exact .inl ⟨none, 0, rfl, List.length_eq_zero_iff.1 h0⟩
  · refine .inr ⟨g, 0, cap, rfl, h1, h2, fun i hi j u hu => ?_⟩
    have hj : j < E.n := by
      have := (List.getElem?_eq_some_iff.1 hu).1
      rw [E.len] at this
      exact this
    have hlt : i * E.n + j < L.length * E.n := by
      have : (i + 1) * E.n ≤ L.length * E.n := Nat.mul_le_mul_right _ hi
      rw [Nat.add_mul] at this
      omega
    rw [Nat.zero_add, h.cellAt _ hlt, cellsG_at L i hi j hj]
    exact hu
theorem GAt.cells {w : World} {g o : Nat} {M : List α} (h : GAt E w g o M) : ∀ j u, (cellsG E M)[j]? = some u → w.cell? ((⟨g, o, none⟩ : Addr).add j) = some u := by
  intro j u hu
  have hj : j < M.length * E.n := by
    have := (List.getElem?_eq_some_iff.1 hu).1
    rw [cellsG_len] at this
    exact this
  have hadd : (⟨g, o, none⟩ : Addr).add j = ⟨g, o + j, none⟩ := by
    simp only [Addr.add]
    first
      | rfl
      | (split
         · next h0 => rw [h0]; rfl
         · rfl)
  have hi : j / E.n < M.length := Nat.div_lt_of_lt_mul (by rw [Nat.mul_comm]; exact hj)
  have hm : j % E.n < E.n := Nat.mod_lt _ E.pos
  have e : j / E.n * E.n + j % E.n = j := by rw [Nat.mul_comm]; exact Nat.div_add_mod _ _
  have h1 := cellsG_at (E := E) M (j / E.n) hi (j % E.n) hm
  rw [e, hu] at h1
  have h2 := h (j / E.n) hi (j % E.n) u h1.symm
  rw [Nat.add_assoc, e] at h2
  rw [hadd]
  exact h2
end

section
variable {α : Type}
theorem any_nextG {L : List α} {f : α → Bool} {k : Nat} (hk : k < L.length) (h : (L.take k).any f = false) (h2 : f L[k] = false) : (L.take (k + 1)).any f = false := by
  rw [List.take_succ_eq_append_getElem hk]
  simp only [List.any_append, h, List.any_cons, List.any_nil, h2, Bool.or_false]
theorem any_hitG {L : List α} {f : α → Bool} {k : Nat} (hk : k < L.length) (h2 : f L[k] = true) : L.any f = true := List.any_eq_true.2 ⟨_, List.getElem_mem hk, h2⟩
/-- The first place where something is so, or -1. -/
def ixG (f : α → Bool) (L : List α) : Int := if L.any f then (L.findIdx f : Int) else -1
theorem ixG_hit {L : List α} {f : α → Bool} {k : Nat} (hk : k < L.length) (h : (L.take k).any f = false) (h2 : f L[k] = true) : ixG f L = k := by
  rw [ixG, any_hitG hk h2, if_pos rfl]
  congr 1
  rw [List.findIdx_eq hk]
  refine ⟨h2, fun j hj => ?_⟩
  rw [List.any_eq_false] at h
  have := h L[j] (by rw [List.mem_take_iff_getElem]; exact ⟨j, by omega, rfl⟩)
  simpa using this
theorem ixG_no {L : List α} {f : α → Bool} (h : L.any f = false) : ixG f L = -1 := by simp [ixG, h]
theorem ixG_any (L : List α) (f : α → Bool) : decide (0 ≤ ixG f L) = L.any f := by
  unfold ixG
  cases L.any f
  · simp
  · simp
end
section
variable {α : Type}
/-- Are two lists the same, one by one? -/
def smG (q : α → α → Bool) : List α → List α → Bool
  | [], [] => true
  | a :: l, b :: m => q a b && smG q l m
  | _, _ => false
theorem smG_iff {q : α → α → Bool} : ∀ {L M : List α}, smG q L M = true ↔ L.length = M.length ∧ ∀ i (h1 : i < L.length) (h2 : i < M.length), q L[i] M[i] = true
  | [], [] => by simp [smG]
  | [], _ :: _ => by simp [smG]
  | _ :: _, [] => by simp [smG]
  | a :: l, b :: m => by
    rw [smG, Bool.and_eq_true, smG_iff (L := l) (M := m)]
    constructor
    · rintro ⟨h1, h2, h3⟩
      refine ⟨by simp [h2], fun i hi hj => ?_⟩
      cases i with
      | zero => exact h1
      | succ i => exact h3 i (by simpa using hi) (by simpa using hj)
    · rintro ⟨h1, h2⟩
      refine ⟨h2 0 (by simp) (by simp), by simpa using h1, fun i hi hj => ?_⟩
      exact h2 (i + 1) (by simpa using hi) (by simpa using hj)
theorem smG_len {q : α → α → Bool} {L M : List α} (h : L.length ≠ M.length) : smG q L M = false := by
  cases e : smG q L M
  · rfl
  · exact absurd (smG_iff.1 e).1 h
theorem smG_no {q : α → α → Bool} {L M : List α} {k : Nat} (h1 : k < L.length) (h2 : k < M.length) (h : q L[k] M[k] = false) : smG q L M = false := by
  cases e : smG q L M
  · rfl
  · have := (smG_iff.1 e).2 k h1 h2
    rw [h] at this
    cases this
theorem smG_eq {q : α → α → Bool} (hq : ∀ a b, q a b = true ↔ a = b) : ∀ {L M : List α}, smG q L M = true ↔ L = M
  | [], [] => by simp [smG]
  | [], _ :: _ => by simp [smG]
  | _ :: _, [] => by simp [smG]
  | a :: l, b :: m => by
    rw [smG, Bool.and_eq_true, smG_eq hq, hq]
    simp
end
section
variable {P : Program} {α : Type} {E : Enc α}
theorem run_append_none {w : World} (base : Nat) (t ty e : TypeId) (i : TypeInfo) (size cap2 : Nat) (ht : P.underlying t = some (.slice e)) (hi : P.info? e = some i)
    (v : Value) (n : Nat) (xs : List Value) (hown : w.ownsRow base e size v n xs) :
    (Builtin.append_ #[t, t] ty #[v, .slice none 0 cap2]).run P w = .ok v w := by
  rcases hown.2 with ⟨rfl, rfl⟩ | ⟨g, cap, cur, rfl, _, _, hnc, _⟩
  · simp [Builtin.append_, run_underlying ht, sizeOf, typeInfo, hi, Builtin.lenOf, Builtin.firstCells]
  · simp [Builtin.append_, run_underlying ht, sizeOf, typeInfo, hi, Builtin.lenOf, Builtin.firstCells, hnc, storeCells]
/-- Appending a slice, whoever made it, to a row that a call owns. -/
theorem wpList_append_GS (w : World) {ops : Array Oper} {rest : List Oper} {o : Oper} {a : Act} {Q : Exit → Act → World → Prop} (hgd : o.guard = none) (s x : Operand) (t e : TypeId)
    (ho : o.op = .call { callee := .builtin .append, args := #[s, x], argTypes := #[t, t] }) (ht : P.underlying t = some (.slice e)) (i : TypeInfo) (z : Value) (bytes : Nat) (hi : P.info? e = some i) (hz : i.zero = some z)
    (hsize : i.size = E.n) (hby : i.bytes = bytes) (hzs : z.cells.size = E.n) (base : Nat)
    (v : Value) (hs : a.eval s = v) (L : List α) (hown : w.ownsRow base e E.n v L.length (cellsG E L)) (u : Value) (hx : a.eval x = u) (M : List α) (hM : GS E w u M)
    (h63 : L.length + M.length ≤ maxLen) (hbytes : (L.length + M.length) * bytes ≤ 140737488355328) (hbase : base ≤ w.heap.size)
    (h : ∀ v' w', w'.ownsRow base e E.n v' (L ++ M).length (cellsG E (L ++ M)) → w.grownBy w' v.ownBlock → wpList P ops Q rest (a.put o.dst v') w') : wpList P ops Q (o :: rest) a w := by
  have key : ∀ (ad : Addr) (m c : Nat) (news : List Value), a.eval x = .slice (some ad) m c → news.length = m * E.n → (∀ j u, news[j]? = some u → w.cell? (ad.add j) = some u) → (∀ u ∈ news, u.oneCell' = true) → m = M.length → news = cellsG E M → wpList P ops Q (o :: rest) a w := by
    intro ad m c news e1 e2 e3 e4 e5 e6
    refine wpList_append_own w hgd s x t ho base e i z E.n bytes ht hi hz hsize hby hzs E.pos v _ _ hs hown ad m c news e1 e2 e3 e4 (by rw [e5]; exact h63) (by rw [e5]; exact hbytes) hbase ?_
    intro v' w' h1 h2 _
    refine h v' w' ?_ h2
    rw [List.length_append, cellsG_app, ← e5, ← e6]
    exact h1
  rcases hM with ⟨ao, cap, rfl, rfl⟩ | ⟨g, q, cap, rfl, h1, h2, h3⟩
  · cases ao with
    | none =>
      refine wpList_plain hgd fun K hK => ?_
      have hrun := run_append_none (P := P) (w := w) base t o.type e i E.n cap ht hi v _ _ hown
      unfold Oper.wp
      simp [execOp, ho, resolve, invoke, builtin, hs, hx, hrun, Result.andThen]
      exact hK _ _ (h v w (by rw [List.append_nil]; exact hown) ⟨rfl, rfl, rfl, Nat.le_refl _, fun _ _ _ => rfl⟩)
    | some ad => exact key ad 0 cap [] hx (by simp) (by intro j u hu; simp at hu) (by intro u hu; cases hu) rfl rfl
  · exact key ⟨g, q, none⟩ M.length cap (cellsG E M) hx (cellsG_len M) h3.cells (cellsG_all M) rfl rfl

set_option maxRecDepth 100000 in
/-- A slice that came in lies where it says. 'hel': cells that read as one element are its layout. -/
theorem gs_of {H : Type} {enc : TypeId × Value → H} {W : World} {base : Nat} {v : Value} {d : DataW H} {p : List MemPlace} (ts te : TypeId) (hu : P.underlying ts = some (.slice te)) (hC : P.cellsOf te = E.n) (x0 : α)
    (hel : ∀ (n : Nat) (cs : List Value) (x : DataW H × List MemPlace), DataW.trod enc P W 0 (fun _ => true) true n te cs = some x → ∃ y, cs = E.c y)
    (hv : Value.okWide P W .any base ts v) (h : DataW.Trod enc P W 0 (fun _ => true) true ts v d p) : ∃ L, GS E W v L := by
  obtain ⟨a0, len0, cap0, rfl⟩ := okWide_slice hu hv
  obtain ⟨fuel, hf⟩ := h
  have hf2 : DataW.trod enc P W 0 (fun _ => true) true fuel ts [.slice a0 len0 cap0] = some (d, p) := hf
  rcases Go.Deep.open_slice hu hf2 with ⟨hc, hx⟩ | ⟨a, len, cap, m, k, D, Pl, hc, _, hl, hm, hmm, hx, hall⟩
  · simp only [List.cons.injEq, and_true, Value.slice.injEq] at hc
    obtain ⟨rfl, rfl, rfl⟩ := hc
    exact ⟨[], .inl ⟨none, 0, rfl, rfl⟩⟩
  · simp only [List.cons.injEq, and_true, Value.slice.injEq] at hc
    obtain ⟨rfl, rfl, rfl⟩ := hc
    simp only [if_true] at hmm
    subst hmm
    rcases Nat.eq_zero_or_pos len0 with h0 | h0
    · subst h0
      exact ⟨[], .inl ⟨_, _, rfl, rfl⟩⟩
    · have each : ∀ i, i < m → ∃ y : α, ∀ j, j < E.n → W.cell? (a.add (i * E.n + j)) = (E.c y)[j]? := by
        intro i hi
        obtain ⟨cs, h1, h2⟩ := hall i hi
        rw [hC] at h1
        obtain ⟨_, hlen, hcell⟩ := World.cells?_some h1
        obtain ⟨y, rfl⟩ := hel _ _ _ h2
        refine ⟨y, fun j hj => ?_⟩
        have := hcell j (by omega)
        rw [Go.Deep.add_add] at this
        exact this
      have iR : Inhabited α := ⟨x0⟩
      obtain ⟨R, hR⟩ := Go.Deep.choose_lt each
      obtain ⟨sb, so, spot⟩ := a
      have hspot : spot = none := by
        have h1 := hR 0 (by omega) 0 E.pos
        have h2 : (E.c (R 0))[0]?.isSome = true := by
          rw [List.getElem?_eq_getElem (by rw [E.len]; exact E.pos)]
          rfl
        obtain ⟨u, hu2⟩ := Option.isSome_iff_exists.1 h2
        rw [hu2] at h1
        simpa [Addr.add] using World.cell?_spot h1
      subst hspot
      have hadd : ∀ j, (⟨sb, so, none⟩ : Addr).add j = ⟨sb, so + j, none⟩ := by
        intro j
        simp only [Addr.add]
        first
          | rfl
          | (split
             · next h0 => rw [h0]; rfl
             · rfl)
      refine ⟨(List.range len0).map R, .inr ⟨sb, so, _, by simp, by simpa using hl, hm, fun i hi j u hu2 => ?_⟩⟩
      have hi2 : i < len0 := by simpa using hi
      have e : ((List.range len0).map R)[i] = R i := by simp
      rw [e] at hu2
      have hj : j < E.n := by
        have := (List.getElem?_eq_some_iff.1 hu2).1
        rw [E.len] at this
        exact this
      have hc := hR i (by omega) j hj
      rw [hadd, hu2, ← Nat.add_assoc] at hc
      exact hc
end
end Go.Proofs.YtfbocionnjliladDoor
/- Who is where, by the place in a list; who is at the other end, by a map; a line of switches: plain lists. No program in it. -/
namespace Go.Proofs.YtfbocionnjliladDoor
open Go.RowKit
set_option linter.unusedVariables false

theorem at_ix (Hs : List (ByteArray × (Int × Int))) (s : Int × Int) : (ixG (fun h => sq h.2 s) Hs = -1 ∧ atO Hs s = none) ∨ ∃ (k : Nat) (hk : k < Hs.length), ixG (fun h => sq h.2 s) Hs = k ∧ atO Hs s = some Hs[k].1 := by
  induction Hs with
  | nil => exact .inl ⟨rfl, rfl⟩
  | cons h Hs ih =>
    rw [atO]
    by_cases e : sq h.2 s = true
    · refine .inr ⟨0, by simp, ?_, ?_⟩
      · exact ixG_hit (L := h :: Hs) (k := 0) (by simp) (by simp) e
      · have e2 := (sq_iff _ _).1 e
        rw [if_pos (by rw [e2]; exact beq_self_eq_true _)]
        rfl
    · have en : ¬ (h.2 == s) = true := fun h2 => e ((sq_iff _ _).2 (by simpa using h2))
      rw [if_neg en]
      have ef : sq h.2 s = false := by simpa using e
      rcases ih with ⟨h1, h2⟩ | ⟨k, hk, h1, h2⟩
      · refine .inl ⟨?_, h2⟩
        unfold ixG at h1 ⊢
        rw [List.any_cons, ef, Bool.false_or]
        cases ha : Hs.any fun h => sq h.2 s
        · rfl
        · rw [ha, if_pos rfl] at h1
          omega
      · refine .inr ⟨k + 1, by simp; omega, ?_, by simpa using h2⟩
        unfold ixG at h1 ⊢
        rw [List.any_cons, ef, Bool.false_or]
        cases ha : Hs.any fun h => sq h.2 s
        · rw [ha] at h1
          simp at h1
        · rw [ha, if_pos rfl] at h1
          rw [if_pos rfl, List.findIdx_cons, ef]
          simp
          omega
theorem where_ix (Hs : List (ByteArray × (Int × Int))) (n : ByteArray) : (ixG (fun h => h.1 == n) Hs = -1 ∧ whereO Hs n = none) ∨ ∃ (k : Nat) (hk : k < Hs.length), ixG (fun h => h.1 == n) Hs = k ∧ whereO Hs n = some Hs[k].2 := by
  induction Hs with
  | nil => exact .inl ⟨rfl, rfl⟩
  | cons h Hs ih =>
    rw [whereO]
    by_cases e : (h.1 == n) = true
    · refine .inr ⟨0, by simp, ?_, ?_⟩
      · exact ixG_hit (L := h :: Hs) (k := 0) (by simp) (by simp) e
      · rw [if_pos e]
        rfl
    · rw [if_neg e]
      have ef : (h.1 == n) = false := by
        cases hh : (h.1 == n)
        · rfl
        · exact absurd hh e
      rcases ih with ⟨h1, h2⟩ | ⟨k, hk, h1, h2⟩
      · refine .inl ⟨?_, h2⟩
        unfold ixG at h1 ⊢
        rw [List.any_cons, ef, Bool.false_or]
        cases ha : Hs.any fun h => h.1 == n
        · rfl
        · rw [ha, if_pos rfl] at h1
          omega
      · refine .inr ⟨k + 1, by simp; omega, ?_, by simpa using h2⟩
        unfold ixG at h1 ⊢
        rw [List.any_cons, ef, Bool.false_or]
        cases ha : Hs.any fun h => h.1 == n
        · rw [ha] at h1
          simp at h1
        · rw [ha, if_pos rfl] at h1
          rw [if_pos rfl, List.findIdx_cons, ef]
          simp
          omega
/-- The answers' numbers. -/
def atN (Hs : List (ByteArray × (Int × Int))) (s : Int × Int) : Int := ixG (fun h => sq h.2 s) Hs
def whN (Hs : List (ByteArray × (Int × Int))) (n : ByteArray) : Int := ixG (fun h => h.1 == n) Hs
theorem peer_app (l : (Int × Int) × (Int × Int)) (s : Int × Int) : ∀ Ls : List ((Int × Int) × (Int × Int)), peerO (Ls ++ [l]) s = match peerO Ls s with | some p => some p | none => if l.1 == s then some l.2 else if l.2 == s then some l.1 else none
  | [] => by simp [peerO]
  | x :: Ls => by
    rw [List.cons_append, peerO, peerO]
    by_cases h1 : (x.1 == s) = true
    · rw [if_pos h1, if_pos h1]
    · rw [if_neg h1, if_neg h1]
      by_cases h2 : (x.2 == s) = true
      · rw [if_pos h2, if_pos h2]
      · rw [if_neg h2, if_neg h2]
        exact peer_app l s Ls
/-- A map that has for each spot of these links the other end. -/
def PM (M : List ((Int × Int) × (Int × Int))) (Ls : List ((Int × Int) × (Int × Int))) : Prop := ∀ s, mget sq s M = peerO Ls s
theorem pm_nil : PM [] [] := fun s => rfl
theorem pm_put {M Ls : List ((Int × Int) × (Int × Int))} {x y : Int × Int} (h : PM M Ls) (hd : (spsL (Ls ++ [(x, y)])).Nodup) : PM (mput sq y x (mput sq x y M)) (Ls ++ [(x, y)]) := by
  have e : spsL (Ls ++ [(x, y)]) = spsL Ls ++ [x, y] := by simp [spsL]
  rw [e, List.nodup_append] at hd
  obtain ⟨_, h2, h3⟩ := hd
  have hxy : ¬ x = y := by simpa using h2
  have hno : ∀ z, z = x ∨ z = y → peerO Ls z = none := by
    intro z hz
    cases hp : peerO Ls z with
    | none => rfl
    | some p => exact absurd rfl (h3 z (peer_in hp).1 z (by rcases hz with rfl | rfl <;> simp))
  intro s
  rw [mget_put sq_iff, mget_put sq_iff, peer_app]
  by_cases e1 : s = y
  · subst e1
    rw [if_pos ((sq_iff _ _).2 rfl), hno s (.inr rfl)]
    simp [hxy]
  · rw [if_neg (fun e => e1 ((sq_iff _ _).1 e))]
    by_cases e2 : s = x
    · subst e2
      rw [if_pos ((sq_iff _ _).2 rfl), hno s (.inl rfl)]
      simp
    · rw [if_neg (fun e => e2 ((sq_iff _ _).1 e)), h s]
      cases hp : peerO Ls s with
      | some p => rfl
      | none =>
        have n1 : ¬ x = s := fun e => e2 e.symm
        have n2 : ¬ y = s := fun e => e1 e.symm
        simp [n1, n2]
theorem sps_app (Ls Ms : List ((Int × Int) × (Int × Int))) : spsL (Ls ++ Ms) = spsL Ls ++ spsL Ms := by simp [spsL]
theorem sps_nd {Ls : List ((Int × Int) × (Int × Int))} (h : (spsL Ls).Nodup) (k : Nat) : (spsL (Ls.take k)).Nodup := by
  have e : Ls = Ls.take k ++ Ls.drop k := (List.take_append_drop k Ls).symm
  rw [e, sps_app, List.nodup_append] at h
  exact h.1
/-- How far it is in a topology, from one switch to another one. -/
def faN (S : Int) (Ls : List ((Int × Int) × (Int × Int))) (a b : Int) : Int := farN S.toNat (fun x y => joinB Ls x y) a.toNat b.toNat
/-- Is there such a switch? -/
def swB (S a : Int) : Bool := decide (1 ≤ a) && decide (a ≤ S)
/-- The fault of a question at a spot. -/
def csN (S : Int) (Ls : List ((Int × Int) × (Int × Int))) (Hs : List (ByteArray × (Int × Int))) (s : Int × Int) : Int := if tpN S Ls Hs = 0 then (if spB S s then 0 else 1) else tpN S Ls Hs
def peN (S : Int) (Ls : List ((Int × Int) × (Int × Int))) (Hs : List (ByteArray × (Int × Int))) (s : Int × Int) : Int := if csN S Ls Hs s = 0 then (if (peerO Ls s).isSome then 0 else 5) else csN S Ls Hs s
def peV (S : Int) (Ls : List ((Int × Int) × (Int × Int))) (Hs : List (ByteArray × (Int × Int))) (s : Int × Int) : Int × Int := if peN S Ls Hs s = 0 then (peerO Ls s).getD (0, 0) else (0, 0)
def asN (S : Int) (Ls : List ((Int × Int) × (Int × Int))) (Hs : List (ByteArray × (Int × Int))) (s : Int × Int) : Int := if csN S Ls Hs s = 0 then (if (atO Hs s).isSome then 0 else 5) else csN S Ls Hs s
def asV (S : Int) (Ls : List ((Int × Int) × (Int × Int))) (Hs : List (ByteArray × (Int × Int))) (s : Int × Int) : ByteArray := if asN S Ls Hs s = 0 then (atO Hs s).getD ByteArray.empty else ByteArray.empty
def weN (S : Int) (Ls : List ((Int × Int) × (Int × Int))) (Hs : List (ByteArray × (Int × Int))) (n : ByteArray) : Int := if tpN S Ls Hs = 0 then (if (whereO Hs n).isSome then 0 else 5) else tpN S Ls Hs
def weV (S : Int) (Ls : List ((Int × Int) × (Int × Int))) (Hs : List (ByteArray × (Int × Int))) (n : ByteArray) : Int × Int := if weN S Ls Hs n = 0 then (whereO Hs n).getD (0, 0) else (0, 0)
/-- The fault of a question at switches. -/
def cwN (S : Int) (Ls : List ((Int × Int) × (Int × Int))) (Hs : List (ByteArray × (Int × Int))) (l : List Int) : Int := if tpN S Ls Hs = 0 then (if l.any fun a => !swB S a then 1 else 0) else tpN S Ls Hs
def neL (S : Int) (Ls : List ((Int × Int) × (Int × Int))) (Hs : List (ByteArray × (Int × Int))) (a : Int) : List Int := if cwN S Ls Hs [a] = 0 then nrL S Ls a else []
def fsN (S : Int) (Ls : List ((Int × Int) × (Int × Int))) (Hs : List (ByteArray × (Int × Int))) (a b : Int) : Int := if cwN S Ls Hs [a, b] = 0 then (if 0 ≤ faN S Ls a b then 0 else 5) else cwN S Ls Hs [a, b]
def fsV (S : Int) (Ls : List ((Int × Int) × (Int × Int))) (Hs : List (ByteArray × (Int × Int))) (a b : Int) : Int := if fsN S Ls Hs a b = 0 then faN S Ls a b else 0
theorem sw_of {S a : Int} : swB S a = true ↔ 1 ≤ a ∧ a ≤ S := by simp [swB]
theorem cw_0 {S : Int} {Ls : List ((Int × Int) × (Int × Int))} {Hs : List (ByteArray × (Int × Int))} {l : List Int} : cwN S Ls Hs l = 0 ↔ tpN S Ls Hs = 0 ∧ ∀ a ∈ l, 1 ≤ a ∧ a ≤ S := by
  unfold cwN
  by_cases h : tpN S Ls Hs = 0
  · rw [if_pos h]
    cases ha : l.any fun a => !swB S a
    · simp only [Bool.false_eq_true, if_false, true_iff]
      refine ⟨h, fun a hm => ?_⟩
      rw [List.any_eq_false] at ha
      have := ha a hm
      exact sw_of.1 (by simpa using this)
    · simp only [if_true]
      refine ⟨fun e => absurd e (by decide), fun ⟨_, e⟩ => ?_⟩
      rw [List.any_eq_true] at ha
      obtain ⟨a, hm, hn⟩ := ha
      have := sw_of.2 (e a hm)
      rw [this] at hn
      cases hn
  · rw [if_neg h]
    exact ⟨fun e => absurd e h, fun e => e.1⟩
theorem fs_0 {S : Int} {Ls : List ((Int × Int) × (Int × Int))} {Hs : List (ByteArray × (Int × Int))} {a b : Int} : fsN S Ls Hs a b = 0 ↔ (tpN S Ls Hs = 0 ∧ (1 ≤ a ∧ a ≤ S) ∧ (1 ≤ b ∧ b ≤ S)) ∧ 0 ≤ faN S Ls a b := by
  unfold fsN
  by_cases h : cwN S Ls Hs [a, b] = 0
  · rw [if_pos h]
    have h2 := cw_0.1 h
    have h3 : tpN S Ls Hs = 0 ∧ (1 ≤ a ∧ a ≤ S) ∧ (1 ≤ b ∧ b ≤ S) := ⟨h2.1, h2.2 a (by simp), h2.2 b (by simp)⟩
    by_cases hf : 0 ≤ faN S Ls a b
    · rw [if_pos hf]; exact ⟨fun _ => ⟨h3, hf⟩, fun _ => rfl⟩
    · rw [if_neg hf]; exact ⟨fun e => absurd e (by decide), fun e => absurd e.2 hf⟩
  · rw [if_neg h]
    refine ⟨fun e => absurd e h, fun e => absurd (cw_0.2 ⟨e.1.1, ?_⟩) h⟩
    intro x hx
    simp at hx
    rcases hx with rfl | rfl
    · exact e.1.2.1
    · exact e.1.2.2
/-- As far back. -/
theorem fs_sy (S : Int) (Ls : List ((Int × Int) × (Int × Int))) (Hs : List (ByteArray × (Int × Int))) (a b : Int) : (fsN S Ls Hs a b = 0 ↔ fsN S Ls Hs b a = 0) ∧ fsV S Ls Hs a b = fsV S Ls Hs b a := by
  have key : tpN S Ls Hs = 0 → (1 ≤ a ∧ a ≤ S) → (1 ≤ b ∧ b ≤ S) → faN S Ls a b = faN S Ls b a := fun h ha hb => by
    have := tp_0 h
    exact far_sy (fun x y => join_sy Ls x y) (by omega) (by omega) (by omega) (by omega) (by omega)
  have hi : fsN S Ls Hs a b = 0 ↔ fsN S Ls Hs b a = 0 := by
    rw [fs_0, fs_0]
    constructor
    · rintro ⟨⟨h, ha, hb⟩, hf⟩
      exact ⟨⟨h, hb, ha⟩, by rw [← key h ha hb]; exact hf⟩
    · rintro ⟨⟨h, hb, ha⟩, hf⟩
      exact ⟨⟨h, ha, hb⟩, by rw [key h ha hb]; exact hf⟩
  refine ⟨hi, ?_⟩
  unfold fsV
  by_cases h : fsN S Ls Hs a b = 0
  · rw [if_pos h, if_pos (hi.1 h)]
    have h2 := (fs_0.1 h).1
    exact key h2.1 h2.2.1 h2.2.2
  · rw [if_neg h, if_neg (fun e => h (hi.2 e))]
/-- By a third one no nearer. -/
theorem fs_tr {S : Int} {Ls : List ((Int × Int) × (Int × Int))} {Hs : List (ByteArray × (Int × Int))} {a b c : Int} (h1 : fsN S Ls Hs a c = 0) (h2 : fsN S Ls Hs c b = 0) : fsN S Ls Hs a b = 0 ∧ fsV S Ls Hs a b ≤ fsV S Ls Hs a c + fsV S Ls Hs c b := by
  have k1 := fs_0.1 h1
  have k2 := fs_0.1 h2
  have ht := tp_0 k1.1.1
  have h3 := far_tr (S := S.toNat) (J := fun x y => joinB Ls x y) (a := a.toNat) (b := b.toNat) (c := c.toNat) (by omega) (by omega) (by omega) (by omega) (by omega) k1.2 k2.2
  have h4 : fsN S Ls Hs a b = 0 := fs_0.2 ⟨⟨k1.1.1, k1.1.2.1, k2.1.2.2⟩, h3.1⟩
  refine ⟨h4, ?_⟩
  unfold fsV
  rw [if_pos h4, if_pos h1, if_pos h2]
  exact h3.2
/-- No way at all to itself alone. -/
theorem fs_same {S : Int} {Ls : List ((Int × Int) × (Int × Int))} {Hs : List (ByteArray × (Int × Int))} {a b : Int} (h : fsN S Ls Hs a b = 0) : 0 < fsV S Ls Hs a b ∨ a = b := by
  have k := fs_0.1 h
  have ht := tp_0 k.1.1
  unfold fsV
  rw [if_pos h]
  by_cases e : faN S Ls a b = 0
  · right
    have := (far_0 (S := S.toNat) (J := fun x y => joinB Ls x y) (a := a.toNat) (b := b.toNat) (by omega) (by omega) (by omega)).1 e
    omega
  · left
    have := k.2
    omega
theorem fa_lt (S : Int) (Ls : List ((Int × Int) × (Int × Int))) (a b : Int) : -1 ≤ faN S Ls a b ∧ faN S Ls a b ≤ 6 := by
  rcases fst_or (p := fun n => rcB S.toNat (fun x y => joinB Ls x y) a.toNat n b.toNat) (k := 7) (n := 0) with ⟨e, _⟩ | ⟨m, _, hm, e, _⟩
  · have : faN S Ls a b = -1 := e
    omega
  · have : faN S Ls a b = m := e
    omega
theorem fv_lt (S : Int) (Ls : List ((Int × Int) × (Int × Int))) (Hs : List (ByteArray × (Int × Int))) (a b : Int) : 0 ≤ fsV S Ls Hs a b ∧ fsV S Ls Hs a b ≤ 6 := by
  unfold fsV
  by_cases h : fsN S Ls Hs a b = 0
  · rw [if_pos h]
    have := (fs_0.1 h).2
    have := fa_lt S Ls a b
    omega
  · rw [if_neg h]; omega
end Go.Proofs.YtfbocionnjliladDoor
/- Nets in plain lists: what is wrong with one, where a packet goes out, what becomes of it. No program in it. -/
namespace Go.Proofs.YtfbocionnjliladDoor
open Go.RowKit
set_option linter.unusedVariables false

/-- The fault of the first k tables. -/
def tsTo (Ts : List (List Ru)) : Nat → Int
  | 0 => 0
  | k + 1 => if tsTo Ts k = 0 then tbN (Ts.getD k []) else tsTo Ts k
theorem ts_le {Ts : List (List Ru)} {k : Nat} (h : tsTo Ts k ≠ 0) : ∀ {n : Nat}, k ≤ n → tsTo Ts n = tsTo Ts k
  | 0, hn => by
    obtain rfl : k = 0 := by omega
    rfl
  | n + 1, hn => by
    by_cases e : k = n + 1
    · subst e; rfl
    · have := ts_le h (show k ≤ n by omega)
      rw [tsTo, if_neg (by rw [this]; exact h), this]
/-- The fault of a net. -/
def ntN (S : Int) (Ls : List ((Int × Int) × (Int × Int))) (Hs : List (ByteArray × (Int × Int))) (Ts : List (List Ru)) : Int :=
  if tpN S Ls Hs = 0 then (if (Ts.length : Int) = S then tsTo Ts Ts.length else 3) else tpN S Ls Hs
theorem ts_0 {Ts : List (List Ru)} : ∀ {n : Nat}, tsTo Ts n = 0 → ∀ k, k < n → tbN (Ts.getD k []) = 0
  | 0, _, k, hk => by omega
  | n + 1, h, k, hk => by
    unfold tsTo at h
    by_cases e : tsTo Ts n = 0
    · rw [if_pos e] at h
      by_cases ek : k = n
      · subst ek; exact h
      · exact ts_0 e k (by omega)
    · rw [if_neg e] at h
      exact absurd h e
theorem nt_0 {S : Int} {Ls : List ((Int × Int) × (Int × Int))} {Hs : List (ByteArray × (Int × Int))} {Ts : List (List Ru)} (h : ntN S Ls Hs Ts = 0) : tpN S Ls Hs = 0 ∧ (Ts.length : Int) = S ∧ ∀ k, k < Ts.length → tbN (Ts.getD k []) = 0 := by
  unfold ntN at h
  by_cases e : tpN S Ls Hs = 0
  · rw [if_pos e] at h
    by_cases e2 : (Ts.length : Int) = S
    · rw [if_pos e2] at h
      exact ⟨e, e2, ts_0 h⟩
    · rw [if_neg e2] at h
      omega
  · rw [if_neg e] at h
    exact absurd h e
/-- The fault of a packet: of the net, else of the spot or the header. -/
def cpN (S : Int) (Ls : List ((Int × Int) × (Int × Int))) (Hs : List (ByteArray × (Int × Int))) (Ts : List (List Ru)) (s : Int × Int) (h : Int) : Int :=
  if ntN S Ls Hs Ts = 0 then (if spB S s && hdrB h then 0 else 1) else ntN S Ls Hs Ts
theorem cp_0 {S : Int} {Ls : List ((Int × Int) × (Int × Int))} {Hs : List (ByteArray × (Int × Int))} {Ts : List (List Ru)} {s : Int × Int} {h : Int} (e : cpN S Ls Hs Ts s h = 0) : ntN S Ls Hs Ts = 0 ∧ spB S s = true ∧ hdrB h = true := by
  unfold cpN at e
  by_cases e1 : ntN S Ls Hs Ts = 0
  · rw [if_pos e1] at e
    cases e2 : spB S s && hdrB h
    · rw [e2] at e
      simp at e
    · rw [Bool.and_eq_true] at e2
      exact ⟨e1, e2.1, e2.2⟩
  · rw [if_neg e1] at e
    exact absurd e e1

/-- The rule that counts, if one does, in a table. -/
def roR (t : List Ru) (h : Int) : Ru := t.getD (luI t h).toNat zeR
def Ru.apN (r : Ru) (h : Int) : Int := Proofs.YtfbocionnjliladDoor.apN r.p r.m r.b r.o r.s r.v h
def Ru.apR (r : Ru) (h : Int) : Int := Proofs.YtfbocionnjliladDoor.apR r.p r.m r.b r.o r.s r.v h
/-- Where, and with which header, a packet goes out that a table meets. -/
def stT (t : List Ru) (p : (Int × Int) × Int) : Option ((Int × Int) × Int) :=
  if luN t p.2 = 0 then (if (roR t p.2).apN p.2 = 0 then some ((p.1.1, (roR t p.2).o), (roR t p.2).apR p.2) else none) else none
def taT (Ts : List (List Ru)) (s : Int) : List Ru := Ts.getD (s - 1).toNat []
def stO (Ts : List (List Ru)) (p : (Int × Int) × Int) : Option ((Int × Int) × Int) := stT (taT Ts p.1.1) p
/-- Are two hops the same? -/
def heB (a b : (Int × Int) × Int) : Bool := (a.1.1 == b.1.1) && ((a.1.2 == b.1.2) && ((a.2 == b.2)))
theorem heB_iff (a b : (Int × Int) × Int) : heB a b = true ↔ a = b := by
  obtain ⟨⟨a1, a2⟩, a3⟩ := a
  obtain ⟨⟨b1, b2⟩, b3⟩ := b
  simp [heB, and_assoc]
/-- What becomes of a packet at its last hop: it ends so, or there is a next hop. -/
def goE (Ls : List ((Int × Int) × (Int × Int))) (Hs : List (ByteArray × (Int × Int))) (t : List Ru) (l : List ((Int × Int) × Int)) (p : (Int × Int) × Int) : (Int × ByteArray) ⊕ ((Int × Int) × Int) :=
  match stT t p with
  | none => .inl (2, ByteArray.empty)
  | some q => match atO Hs q.1 with
    | some m => .inl (1, m)
    | none => match peerO Ls q.1 with
      | none => .inl (3, ByteArray.empty)
      | some s => if l.length = 24 ∨ l.any (fun x => heB (s, q.2) x) = true then .inl (4, ByteArray.empty) else .inr (s, q.2)
def zeH : (Int × Int) × Int := ((0, 0), 0)
def laH (l : List ((Int × Int) × Int)) : (Int × Int) × Int := l.getD (l.length - 1) zeH
/-- What becomes of a packet that has had these hops. -/
def foF (Ls : List ((Int × Int) × (Int × Int))) (Hs : List (ByteArray × (Int × Int))) (Ts : List (List Ru)) : Nat → List ((Int × Int) × Int) → Int × ByteArray × List ((Int × Int) × Int)
  | 0, l => (4, ByteArray.empty, l)
  | n + 1, l => match goE Ls Hs (taT Ts (laH l).1.1) l (laH l) with
    | .inl e => (e.1, e.2, l)
    | .inr p => foF Ls Hs Ts n (l ++ [p])
/-- What becomes of a packet that comes in. -/
def frF (Ls : List ((Int × Int) × (Int × Int))) (Hs : List (ByteArray × (Int × Int))) (Ts : List (List Ru)) (s : Int × Int) (h : Int) : Int × ByteArray × List ((Int × Int) × Int) := foF Ls Hs Ts 24 [(s, h)]
/-- No fate at all. -/
def zeF : Int × ByteArray × List ((Int × Int) × Int) := (0, ByteArray.empty, [])
/-- The answers. -/
def spN (S : Int) (Ls : List ((Int × Int) × (Int × Int))) (Hs : List (ByteArray × (Int × Int))) (Ts : List (List Ru)) (s : Int × Int) (h : Int) : Int :=
  if cpN S Ls Hs Ts s h = 0 then (if (stO Ts (s, h)).isSome then 0 else 5) else cpN S Ls Hs Ts s h
def spV (S : Int) (Ls : List ((Int × Int) × (Int × Int))) (Hs : List (ByteArray × (Int × Int))) (Ts : List (List Ru)) (s : Int × Int) (h : Int) : (Int × Int) × Int :=
  if cpN S Ls Hs Ts s h = 0 then (stO Ts (s, h)).getD zeH else zeH
def frV (S : Int) (Ls : List ((Int × Int) × (Int × Int))) (Hs : List (ByteArray × (Int × Int))) (Ts : List (List Ru)) (s : Int × Int) (h : Int) : Int × ByteArray × List ((Int × Int) × Int) :=
  if cpN S Ls Hs Ts s h = 0 then frF Ls Hs Ts s h else zeF
def seN (S : Int) (Ls : List ((Int × Int) × (Int × Int))) (Hs : List (ByteArray × (Int × Int))) (Ts : List (List Ru)) (m : ByteArray) (h : Int) : Int :=
  if ntN S Ls Hs Ts = 0 then (if weN S Ls Hs m = 0 then (if hdrB h then 0 else 1) else weN S Ls Hs m) else ntN S Ls Hs Ts
def seV (S : Int) (Ls : List ((Int × Int) × (Int × Int))) (Hs : List (ByteArray × (Int × Int))) (Ts : List (List Ru)) (m : ByteArray) (h : Int) : Int × ByteArray × List ((Int × Int) × Int) :=
  if seN S Ls Hs Ts m h = 0 then frF Ls Hs Ts (weV S Ls Hs m) h else zeF
end Go.Proofs.YtfbocionnjliladDoor
/- What becomes of a packet, hop by hop: plain lists. No program in it. -/
namespace Go.Proofs.YtfbocionnjliladDoor
open Go.RowKit
set_option linter.unusedVariables false

section
variable {Ls : List ((Int × Int) × (Int × Int))} {Hs : List (ByteArray × (Int × Int))} {Ts : List (List Ru)}
/-- One hop is behind the other. -/
def NxH (Ls : List ((Int × Int) × (Int × Int))) (Hs : List (ByteArray × (Int × Int))) (Ts : List (List Ru)) (p q : (Int × Int) × Int) : Prop := ∃ o, stO Ts p = some o ∧ atO Hs o.1 = none ∧ peerO Ls o.1 = some q.1 ∧ q.2 = o.2
def atH (l : List ((Int × Int) × Int)) (i : Nat) : (Int × Int) × Int := l.getD i zeH
def ChH (Ls : List ((Int × Int) × (Int × Int))) (Hs : List (ByteArray × (Int × Int))) (Ts : List (List Ru)) (l : List ((Int × Int) × Int)) : Prop := ∀ i, i + 1 < l.length → NxH Ls Hs Ts (atH l i) (atH l (i + 1))
/-- What it comes to at the last of these hops. -/
def enE (Ls : List ((Int × Int) × (Int × Int))) (Hs : List (ByteArray × (Int × Int))) (Ts : List (List Ru)) (l : List ((Int × Int) × Int)) (p : (Int × Int) × Int) : (Int × ByteArray) ⊕ ((Int × Int) × Int) := goE Ls Hs (taT Ts p.1.1) l p
theorem la_at (l : List ((Int × Int) × Int)) : laH l = atH l (l.length - 1) := rfl
theorem at_app (l : List ((Int × Int) × Int)) (p : (Int × Int) × Int) : atH (l ++ [p]) l.length = p := by simp [atH, List.getD]
theorem at_lt {l : List ((Int × Int) × Int)} (m : List ((Int × Int) × Int)) {i : Nat} (h : i < l.length) : atH (l ++ m) i = atH l i := by simp [atH, List.getD, List.getElem?_append_left h]
theorem at_in {l : List ((Int × Int) × Int)} {i : Nat} (h : i < l.length) : atH l i ∈ l := by
  have e : atH l i = l[i] := by simp [atH, List.getD, h]
  rw [e]
  exact List.getElem_mem h
theorem en_r {l : List ((Int × Int) × Int)} {p q : (Int × Int) × Int} (h : enE Ls Hs Ts l p = .inr q) : NxH Ls Hs Ts p q ∧ l.length ≠ 24 ∧ q ∉ l := by
  unfold enE goE at h
  cases hs : stT (taT Ts p.1.1) p with
  | none => rw [hs] at h; cases h
  | some o =>
    rw [hs] at h
    simp only at h
    cases ha : atO Hs o.1 with
    | some m => rw [ha] at h; cases h
    | none =>
      rw [ha] at h
      simp only at h
      cases hp : peerO Ls o.1 with
      | none => rw [hp] at h; cases h
      | some s =>
        rw [hp] at h
        simp only at h
        split at h
        · cases h
        · next hn =>
          cases h
          rw [not_or] at hn
          refine ⟨⟨o, hs, ha, hp, rfl⟩, hn.1, fun hm => hn.2 ?_⟩
          exact List.any_eq_true.2 ⟨_, hm, (heB_iff _ _).2 rfl⟩
/-- A next hop that is not there yet is one. -/
theorem en_go {l : List ((Int × Int) × Int)} {p q : (Int × Int) × Int} (h : NxH Ls Hs Ts p q) (h24 : l.length ≠ 24) (hq : q ∉ l) : enE Ls Hs Ts l p = .inr q := by
  obtain ⟨o, h1, h2, h3, h4⟩ := h
  unfold enE goE
  rw [show stT (taT Ts p.1.1) p = some o from h1]
  simp only [h2, h3]
  rw [if_neg]
  · obtain ⟨q1, q2⟩ := q
    simp only at h4
    rw [h4]
  · rw [not_or]
    refine ⟨h24, fun hm => hq ?_⟩
    obtain ⟨x, hx, e⟩ := List.any_eq_true.1 hm
    have e2 := (heB_iff _ _).1 e
    obtain ⟨q1, q2⟩ := q
    simp only at h4
    rw [h4, e2]
    exact hx
/-- An end that is no loop is one whatever was there. -/
theorem en_l {l : List ((Int × Int) × Int)} {p : (Int × Int) × Int} {e : Int × ByteArray} (h : enE Ls Hs Ts l p = .inl e) (h4 : e.1 ≠ 4) (m : List ((Int × Int) × Int)) : enE Ls Hs Ts m p = .inl e := by
  unfold enE goE at h ⊢
  cases hs : stT (taT Ts p.1.1) p with
  | none => rw [hs] at h; exact h
  | some o =>
    rw [hs] at h
    simp only at h ⊢
    cases ha : atO Hs o.1 with
    | some m => rw [ha] at h; exact h
    | none =>
      rw [ha] at h
      simp only at h ⊢
      cases hp : peerO Ls o.1 with
      | none => rw [hp] at h; exact h
      | some s =>
        rw [hp] at h
        simp only at h
        split at h
        · cases h
          exact absurd rfl h4
        · cases h
/-- An end, in words. -/
theorem en_end {l : List ((Int × Int) × Int)} {p : (Int × Int) × Int} {e : Int × ByteArray} (h : enE Ls Hs Ts l p = .inl e) (hn : ∀ x ∈ Hs, x.1 ≠ ByteArray.empty) : (stO Ts p = none ↔ e.1 = 2) ∧ (e.1 = 1 ↔ e.2 ≠ ByteArray.empty) := by
  unfold enE goE at h
  unfold stO
  cases hs : stT (taT Ts p.1.1) p with
  | none => rw [hs] at h; cases h; simp
  | some o =>
    rw [hs] at h
    simp only at h
    cases ha : atO Hs o.1 with
    | some m =>
      rw [ha] at h
      cases h
      refine ⟨by simp, fun _ => ?_, fun _ => rfl⟩
      rcases at_ix Hs o.1 with ⟨_, h0⟩ | ⟨k, hk, _, h1⟩
      · rw [ha] at h0; cases h0
      · rw [ha] at h1
        cases h1
        exact hn _ (List.getElem_mem hk)
    | none =>
      rw [ha] at h
      simp only at h
      cases hp : peerO Ls o.1 with
      | none => rw [hp] at h; cases h; simp
      | some s =>
        rw [hp] at h
        simp only at h
        split at h
        · cases h; simp
        · cases h
theorem fo_s (n : Nat) (l : List ((Int × Int) × Int)) : foF Ls Hs Ts (n + 1) l = match enE Ls Hs Ts l (laH l) with | .inl e => (e.1, e.2, l) | .inr p => foF Ls Hs Ts n (l ++ [p]) := rfl
/-- What is so of the hops that are told. -/
theorem fo_spec : ∀ (n : Nat) (l : List ((Int × Int) × Int)), 0 < l.length → l.length + n = 25 → 1 ≤ n → l.Nodup → ChH Ls Hs Ts l →
    ∃ rest, (foF Ls Hs Ts n l).2.2 = l ++ rest ∧ (foF Ls Hs Ts n l).2.2.length ≤ 24 ∧ (foF Ls Hs Ts n l).2.2.Nodup ∧ ChH Ls Hs Ts (foF Ls Hs Ts n l).2.2 ∧
      enE Ls Hs Ts (foF Ls Hs Ts n l).2.2 (laH (foF Ls Hs Ts n l).2.2) = .inl ((foF Ls Hs Ts n l).1, (foF Ls Hs Ts n l).2.1)
  | 0, l, _, _, h, _, _ => by omega
  | n + 1, l, h0, hl, _, hd, hc => by
    rw [fo_s]
    cases he : enE Ls Hs Ts l (laH l) with
    | inl e => exact ⟨[], by simp, by simp only; omega, hd, hc, he⟩
    | inr p =>
      obtain ⟨h1, h2, h3⟩ := en_r he
      simp only
      have hl2 : l.length < 24 := by omega
      have hd2 : (l ++ [p]).Nodup := by
        rw [List.nodup_append]
        refine ⟨hd, by simp, fun a ha b hb e => ?_⟩
        simp only [List.mem_singleton] at hb
        subst hb
        subst e
        exact h3 ha
      have hc2 : ChH Ls Hs Ts (l ++ [p]) := by
        intro i hi
        simp only [List.length_append, List.length_cons, List.length_nil] at hi
        by_cases e : i + 1 = l.length
        · rw [at_lt _ (show i < l.length by omega), e, at_app]
          rw [la_at] at h1
          have : i = l.length - 1 := by omega
          rw [this]
          exact h1
        · rw [at_lt _ (show i < l.length by omega), at_lt _ (show i + 1 < l.length by omega)]
          exact hc i (by omega)
      obtain ⟨rest, e1, e2⟩ := fo_spec n (l ++ [p]) (by simp) (by simp; omega) (by omega) hd2 hc2
      exact ⟨p :: rest, by rw [e1]; simp, e2⟩
/-- From any of the hops on it ends likewise. -/
theorem fo_tail {L : List ((Int × Int) × Int)} {e : Int × ByteArray} (hd : L.Nodup) (hc : ChH Ls Hs Ts L) (h24 : L.length ≤ 24) (he : enE Ls Hs Ts L (laH L) = .inl e) (h4 : e.1 ≠ 4) :
    ∀ (r k : Nat) (m : List ((Int × Int) × Int)) (n : Nat), k + 1 + r = L.length → 0 < m.length → m.length ≤ k + 1 → laH m = atH L k → (∀ x ∈ m, ∃ j, j ≤ k ∧ x = atH L j) → r < n →
      (foF Ls Hs Ts n m).1 = e.1 ∧ (foF Ls Hs Ts n m).2.1 = e.2 ∧ (foF Ls Hs Ts n m).2.2.length = m.length + r
  | r, k, m, 0, _, _, _, _, _, hn => by omega
  | 0, k, m, n + 1, hk, hm, hmk, hla, hin, hn => by
    rw [fo_s]
    have : laH m = laH L := by
      rw [hla, la_at]
      congr 1
      omega
    rw [this, en_l he h4 m]
    exact ⟨rfl, rfl, by simp⟩
  | r + 1, k, m, n + 1, hk, hm, hmk, hla, hin, hn => by
    rw [fo_s]
    have hnx := hc k (by omega)
    have hq : atH L (k + 1) ∉ m := by
      intro hx
      obtain ⟨j, hj, e2⟩ := hin _ hx
      have e3 : L[k + 1]'(by omega) = L[j]'(by omega) := by
        have a1 : atH L (k + 1) = L[k + 1]'(by omega) := by
          have : k + 1 < L.length := by omega
          simp [atH, List.getD, this]
        have a2 : atH L j = L[j]'(by omega) := by
          have : j < L.length := by omega
          simp [atH, List.getD, this]
        rw [← a1, ← a2]
        exact e2
      have := (List.getElem_inj hd).1 e3
      omega
    rw [hla, en_go hnx (by omega) hq]
    simp only
    have h := fo_tail hd hc h24 he h4 r (k + 1) (m ++ [atH L (k + 1)]) n (by omega) (by simp) (by simp; omega) (by
      rw [la_at]
      simp only [List.length_append, List.length_cons, List.length_nil, Nat.add_sub_cancel]
      exact at_app _ _) (by
      intro x hx
      rw [List.mem_append] at hx
      rcases hx with hx | hx
      · obtain ⟨j, hj, e2⟩ := hin x hx
        exact ⟨j, by omega, e2⟩
      · simp only [List.mem_singleton] at hx
        exact ⟨k + 1, Nat.le_refl _, hx⟩) (by omega)
    refine ⟨h.1, h.2.1, ?_⟩
    rw [h.2.2]
    simp
    omega
end
end Go.Proofs.YtfbocionnjliladDoor
