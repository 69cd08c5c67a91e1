/- How things are joined, in plain lists: what is wrong with a topology, who is at the other end, who is where. No program in it. -/
import Derived.WalkKit
namespace Go.Proofs.Ytfbocionnjlilad
open Go.RowKit

theorem ba_eq {a b : ByteArray} : (a == b) = true ↔ a = b := by
  obtain ⟨x⟩ := a
  obtain ⟨y⟩ := b
  show (x == y) = true ↔ _
  simp
/-- Is there such a spot, with so many switches? -/
def spB (S : Int) (x : Int × Int) : Bool := decide (1 ≤ x.1) && (decide (x.1 ≤ S) && (decide (1 ≤ x.2) && decide (x.2 ≤ 4)))
/-- Is a text one to six letters a to z? -/
def nmB (s : ByteArray) : Bool := decide (1 ≤ s.size) && (decide (s.size ≤ 6) && s.data.toList.all fun c => decide (97 ≤ c.toNat) && decide (c.toNat ≤ 122))
/-- All spots of links. -/
def spsL (Ls : List ((Int × Int) × (Int × Int))) : List (Int × Int) := Ls.flatMap fun l => [l.1, l.2]
/-- The fault of links, behind spots that are there. -/
def lkN (S : Int) : List ((Int × Int) × (Int × Int)) → List (Int × Int) → Int
  | [], _ => 0
  | l :: Ls, U => if spB S l.1 && spB S l.2 then (if l.1 == l.2 || (U.any fun u => u == l.1 || u == l.2) then 7 else lkN S Ls (U ++ [l.1, l.2])) else 1
/-- The fault of hosts, behind names and spots that are there. -/
def hoN (S : Int) : List (ByteArray × (Int × Int)) → List ByteArray → List (Int × Int) → Int
  | [], _, _ => 0
  | h :: Hs, N, U => if nmB h.1 then (if spB S h.2 then (if (N.any fun n => n == h.1) || (U.any fun u => u == h.2) then 7 else hoN S Hs (N ++ [h.1]) (U ++ [h.2])) else 1) else 2
/-- The fault of a topology. -/
def tpN (S : Int) (Ls : List ((Int × Int) × (Int × Int))) (Hs : List (ByteArray × (Int × Int))) : Int :=
  if decide (1 ≤ S) && decide (S ≤ 6) then (if decide (Ls.length ≤ 200) && decide (Hs.length ≤ 8) then (if lkN S Ls [] = 0 then hoN S Hs [] (spsL Ls) else lkN S Ls []) else 4) else 1
/-- The spot at the other end. -/
def peerO : List ((Int × Int) × (Int × Int)) → (Int × Int) → Option (Int × Int)
  | [], _ => none
  | l :: Ls, s => if l.1 == s then some l.2 else if l.2 == s then some l.1 else peerO Ls s
/-- The name of who is at a spot. -/
def atO : List (ByteArray × (Int × Int)) → (Int × Int) → Option ByteArray
  | [], _ => none
  | h :: Hs, s => if h.2 == s then some h.1 else atO Hs s
/-- Where somebody is. -/
def whereO : List (ByteArray × (Int × Int)) → ByteArray → Option (Int × Int)
  | [], _ => none
  | h :: Hs, n => if h.1 == n then some h.2 else whereO Hs n
/-- Is there a link between two switches? -/
def joinB (Ls : List ((Int × Int) × (Int × Int))) (a b : Int) : Bool := Ls.any fun l => (l.1.1 == a && l.2.1 == b) || (l.1.1 == b && l.2.1 == a)
theorem join_sy (Ls : List ((Int × Int) × (Int × Int))) (a b : Int) : joinB Ls a b = joinB Ls b a := by
  unfold joinB
  congr 1
  funext l
  exact Bool.or_comm _ _

theorem sp_of {S : Int} {x : Int × Int} (h : spB S x = true) : 1 ≤ x.1 ∧ x.1 ≤ S ∧ 1 ≤ x.2 ∧ x.2 ≤ 4 := by
  simpa [spB] using h
theorem lk_0 {S : Int} : ∀ {Ls : List ((Int × Int) × (Int × Int))} {U : List (Int × Int)}, U.Nodup → (lkN S Ls U = 0 ↔ (∀ x ∈ spsL Ls, spB S x = true) ∧ (U ++ spsL Ls).Nodup)
  | [], U, hU => by simp [lkN, spsL, hU]
  | l :: Ls, U, hU => by
    obtain ⟨x, y⟩ := l
    have e : spsL ((x, y) :: Ls) = x :: y :: spsL Ls := rfl
    rw [lkN, e]
    simp only
    by_cases h1 : spB S x && spB S y
    · rw [if_pos h1]
      simp only [Bool.and_eq_true] at h1
      by_cases h2 : (x == y || (U.any fun u => u == x || u == y)) = true
      · rw [if_pos h2]
        refine ⟨fun h => absurd h (by decide), fun h => ?_⟩
        exfalso
        have hn := h.2
        rw [List.nodup_append] at hn
        obtain ⟨_, h3, h4⟩ := hn
        simp only [Bool.or_eq_true, beq_iff_eq, List.any_eq_true] at h2
        rcases h2 with h2 | ⟨u, hu, h2 | h2⟩
        · subst h2
          rw [List.nodup_cons] at h3
          exact h3.1 (by simp)
        · exact h4 u hu x (by simp) h2
        · exact h4 u hu y (by simp) h2
      · rw [if_neg h2]
        simp only [Bool.or_eq_true, beq_iff_eq, List.any_eq_true, not_or, not_exists, not_and] at h2
        have hU2 : (U ++ [x, y]).Nodup := by
          rw [List.nodup_append]
          refine ⟨hU, by simp [h2.1], ?_⟩
          intro a ha b hb e
          subst e
          simp only [List.mem_cons, List.not_mem_nil, or_false] at hb
          have := h2.2 a ha
          rcases hb with rfl | rfl
          · exact this.1 rfl
          · exact this.2 rfl
        rw [lk_0 hU2]
        have e2 : U ++ [x, y] ++ spsL Ls = U ++ x :: y :: spsL Ls := by simp
        rw [e2]
        refine and_congr ⟨fun h => ?_, fun h z hz => h z (by simp [hz])⟩ Iff.rfl
        intro z hz
        simp only [List.mem_cons] at hz
        rcases hz with rfl | rfl | hz
        · exact h1.1
        · exact h1.2
        · exact h z hz
    · rw [if_neg h1]
      refine ⟨fun h => absurd h (by decide), fun h => ?_⟩
      exact absurd (by simp [h.1 x (by simp), h.1 y (by simp)]) h1
theorem ho_0 {S : Int} : ∀ {Hs : List (ByteArray × (Int × Int))} {N : List ByteArray} {U : List (Int × Int)}, N.Nodup → U.Nodup → (hoN S Hs N U = 0 ↔ (∀ h ∈ Hs, nmB h.1 = true ∧ spB S h.2 = true) ∧ (N ++ Hs.map (·.1)).Nodup ∧ (U ++ Hs.map (·.2)).Nodup)
  | [], N, U, hN, hU => by simp [hoN, hN, hU]
  | h :: Hs, N, U, hN, hU => by
    obtain ⟨n, x⟩ := h
    rw [hoN]
    simp only [List.map_cons]
    by_cases h1 : nmB n = true
    · rw [if_pos h1]
      by_cases h2 : spB S x = true
      · rw [if_pos h2]
        by_cases h3 : ((N.any fun m => m == n) || (U.any fun u => u == x)) = true
        · rw [if_pos h3]
          refine ⟨fun h => absurd h (by decide), fun h => ?_⟩
          exfalso
          simp only [Bool.or_eq_true, ba_eq, beq_iff_eq, List.any_eq_true] at h3
          rcases h3 with ⟨m, hm, e⟩ | ⟨u, hu, e⟩
          · have := (List.nodup_append.1 h.2.1).2.2
            exact this m hm n (by simp) e
          · have := (List.nodup_append.1 h.2.2).2.2
            exact this u hu x (by simp) e
        · rw [if_neg h3]
          simp only [Bool.or_eq_true, ba_eq, beq_iff_eq, List.any_eq_true, not_or, not_exists, not_and] at h3
          have hN2 : (N ++ [n]).Nodup := by
            rw [List.nodup_append]
            refine ⟨hN, by simp, fun a ha b hb e => ?_⟩
            simp only [List.mem_singleton] at hb
            subst hb
            exact h3.1 a ha e
          have hU2 : (U ++ [x]).Nodup := by
            rw [List.nodup_append]
            refine ⟨hU, by simp, fun a ha b hb e => ?_⟩
            simp only [List.mem_singleton] at hb
            subst hb
            exact h3.2 a ha e
          rw [ho_0 hN2 hU2]
          have e1 : N ++ [n] ++ Hs.map (·.1) = N ++ n :: Hs.map (·.1) := by simp
          have e2 : U ++ [x] ++ Hs.map (·.2) = U ++ x :: Hs.map (·.2) := by simp
          rw [e1, e2]
          refine and_congr ⟨fun h z hz => ?_, fun h z hz => h z (by simp [hz])⟩ Iff.rfl
          rcases List.mem_cons.1 hz with rfl | hz
          · exact ⟨h1, h2⟩
          · exact h z hz
      · rw [if_neg h2]
        refine ⟨fun h => absurd h (by decide), fun h => ?_⟩
        exact absurd (h.1 (n, x) (by simp)).2 h2
    · rw [if_neg h1]
      refine ⟨fun h => absurd h (by decide), fun h => ?_⟩
      exact absurd (h.1 (n, x) (by simp)).1 h1
/-- What a right topology has. -/
theorem tp_0 {S : Int} {Ls : List ((Int × Int) × (Int × Int))} {Hs : List (ByteArray × (Int × Int))} (h : tpN S Ls Hs = 0) :
    (1 ≤ S ∧ S ≤ 6) ∧ (Ls.length ≤ 200 ∧ Hs.length ≤ 8) ∧ (∀ x ∈ spsL Ls, spB S x = true) ∧ (spsL Ls).Nodup ∧ (∀ h ∈ Hs, nmB h.1 = true ∧ spB S h.2 = true) ∧ (Hs.map (·.1)).Nodup ∧ (spsL Ls ++ Hs.map (·.2)).Nodup := by
  unfold tpN at h
  by_cases h1 : (decide (1 ≤ S) && decide (S ≤ 6)) = true
  · rw [if_pos h1] at h
    by_cases h2 : (decide (Ls.length ≤ 200) && decide (Hs.length ≤ 8)) = true
    · rw [if_pos h2] at h
      by_cases h3 : lkN S Ls [] = 0
      · rw [if_pos h3] at h
        have h4 := (lk_0 (S := S) (Ls := Ls) (U := []) List.nodup_nil).1 h3
        simp only [List.nil_append] at h4
        have h5 := (ho_0 (S := S) (Hs := Hs) (N := []) (U := spsL Ls) List.nodup_nil h4.2).1 h
        simp only [List.nil_append] at h5
        simp only [Bool.and_eq_true, decide_eq_true_eq] at h1 h2
        exact ⟨h1, h2, h4.1, h4.2, h5.1, h5.2.1, h5.2.2⟩
      · rw [if_neg h3] at h; exact absurd h h3
    · rw [if_neg h2] at h; exact absurd h (by decide)
  · rw [if_neg h1] at h; exact absurd h (by decide)
theorem peer_in : ∀ {Ls : List ((Int × Int) × (Int × Int))} {s p : Int × Int}, peerO Ls s = some p → s ∈ spsL Ls ∧ p ∈ spsL Ls
  | [], _, _, h => by cases h
  | l :: Ls, s, p, h => by
    obtain ⟨x, y⟩ := l
    have e : spsL ((x, y) :: Ls) = x :: y :: spsL Ls := rfl
    rw [peerO] at h
    rw [e]
    by_cases h1 : x = s
    · subst h1
      simp at h
      subst h
      simp
    · by_cases h2 : y = s
      · subst h2
        simp [h1] at h
        subst h
        simp
      · simp [h1, h2] at h
        have := peer_in h
        simp [this.1, this.2]
/-- Who is at the other end has this one at its other end, and is another one. -/
theorem peer_back : ∀ {Ls : List ((Int × Int) × (Int × Int))} {s p : Int × Int}, (spsL Ls).Nodup → peerO Ls s = some p → peerO Ls p = some s ∧ p ≠ s
  | [], _, _, _, h => by cases h
  | l :: Ls, s, p, hn, h => by
    obtain ⟨x, y⟩ := l
    have e : spsL ((x, y) :: Ls) = x :: y :: spsL Ls := rfl
    rw [e, List.nodup_cons, List.nodup_cons] at hn
    obtain ⟨hx, hy, hn⟩ := hn
    simp only [List.mem_cons, not_or] at hx
    rw [peerO] at h
    by_cases h1 : x = s
    · subst h1
      simp at h
      subst h
      refine ⟨?_, fun e => hx.1 e.symm⟩
      rw [peerO]
      simp [hx.1]
    · by_cases h2 : y = s
      · subst h2
        simp [h1] at h
        subst h
        refine ⟨?_, h1⟩
        rw [peerO]
        simp
      · simp [h1, h2] at h
        have hb := peer_back hn h
        have hi := peer_in h
        refine ⟨?_, hb.2⟩
        rw [peerO]
        have p1 : ¬ x = p := fun e => hx.2 (e ▸ hi.2)
        have p2 : ¬ y = p := fun e => hy (e ▸ hi.2)
        simp [p1, p2, hb.1]
theorem where_in : ∀ {Hs : List (ByteArray × (Int × Int))} {n : ByteArray} {x : Int × Int}, whereO Hs n = some x → (n, x) ∈ Hs
  | [], _, _, h => by cases h
  | h :: Hs, n, x, hw => by
    obtain ⟨m, y⟩ := h
    rw [whereO] at hw
    by_cases h1 : m = n
    · subst h1
      simp [ba_eq] at hw
      subst hw
      simp
    · simp [ba_eq, h1] at hw
      exact List.mem_cons_of_mem _ (where_in hw)
/-- Somebody is where he is. -/
theorem where_at : ∀ {Hs : List (ByteArray × (Int × Int))} {n : ByteArray} {x : Int × Int}, (Hs.map (·.2)).Nodup → whereO Hs n = some x → atO Hs x = some n
  | [], _, _, _, h => by cases h
  | h :: Hs, n, x, hd, hw => by
    obtain ⟨m, y⟩ := h
    rw [List.map_cons, List.nodup_cons] at hd
    rw [whereO] at hw
    rw [atO]
    by_cases h1 : m = n
    · subst h1
      simp [ba_eq] at hw
      subst hw
      simp
    · simp [ba_eq, h1] at hw
      have hi := where_in hw
      have hne : ¬ y = x := by
        intro e
        subst e
        exact hd.1 (List.mem_map.2 ⟨_, hi, rfl⟩)
      simp [hne]
      exact where_at hd.2 hw
end Go.Proofs.Ytfbocionnjlilad
