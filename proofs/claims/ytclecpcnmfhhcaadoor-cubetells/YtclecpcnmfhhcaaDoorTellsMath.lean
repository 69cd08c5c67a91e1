/- Facts on two right cubes and all sixteen headers, by looking at all of them: no program in it. -/
import Derived.Test.YtclecpcnmfhhcaaDoorCubeFacts
import Derived.Test.YtclecpcnmfhhcaaDoorRefHeaders
namespace Go.Proofs.YtclecpcnmfhhcaaDoor
open Go.RowKit

/-- Is a header in a right cube? -/
def hq (m b : Int) (i : Nat) : Bool := bits .and .i64 (i : Int) m == b
theorem has_hq {m b : Int} {i : Nat} (h : okB m b = true) (hi : i < 16) : hasB m b (i : Int) = hq m b i := by
  have : hdrB (i : Int) = true := hdr_mk (by omega)
  simp [hasB, hq, h, this]
theorem has_no {m b h : Int} (ho : okB m b = false) : hasB m b h = false := by simp [hasB, ho]

/-- How many of the first k headers two cubes have together. -/
def manyTo (m b n c : Int) (k : Nat) : Nat := (List.range k).countP fun (i : Nat) => hasB m b (i : Int) && hasB n c (i : Int)
/-- Are all of the first k headers that the one has in the other? -/
def inTo (m b n c : Int) (k : Nat) : Bool := (okB m b && okB n c) && (List.range k).all fun (i : Nat) => !hasB m b (i : Int) || hasB n c (i : Int)
theorem many_next (m b n c : Int) (k : Nat) : manyTo m b n c (k + 1) = manyTo m b n c k + if (hasB m b (k : Int) && hasB n c (k : Int)) = true then 1 else 0 := by
  simp [manyTo, List.range_succ, List.countP_append, List.countP_cons, List.countP_nil]
theorem in_next (m b n c : Int) (k : Nat) : inTo m b n c (k + 1) = (inTo m b n c k && (!hasB m b (k : Int) || hasB n c (k : Int))) := by
  simp [inTo, List.range_succ, List.all_append, Bool.and_assoc]
theorem many_le (m b n c : Int) (k : Nat) : manyTo m b n c k ≤ k := by
  have := List.countP_le_length (p := fun (i : Nat) => hasB m b (i : Int) && hasB n c (i : Int)) (l := List.range k)
  simpa [manyTo] using this

theorem pair_all : (rights.all fun p => rights.all fun q =>
    (mtOk p.1 p.2 q.1 q.2 == (List.range 16).any fun (i : Nat) => hq p.1 p.2 i && hq q.1 q.2 i) &&
    (insB p.1 p.2 q.1 q.2 == (List.range 16).all fun (i : Nat) => !hq p.1 p.2 i || hq q.1 q.2 i) &&
    (!mtOk p.1 p.2 q.1 q.2 || (List.range 16).all fun (i : Nat) => hq (mtM p.1 p.2 q.1 q.2) (mtB p.1 p.2 q.1 q.2) i == (hq p.1 p.2 i && hq q.1 q.2 i))) = true := by decide +kernel
theorem pair {m b n c : Int} (h1 : okB m b = true) (h2 : okB n c = true) :
    (mtOk m b n c = (List.range 16).any fun (i : Nat) => hq m b i && hq n c i) ∧
    (insB m b n c = (List.range 16).all fun (i : Nat) => !hq m b i || hq n c i) ∧
    (mtOk m b n c = true → ∀ i < 16, hq (mtM m b n c) (mtB m b n c) i = (hq m b i && hq n c i)) := by
  have := of_all2 (P := fun m b n c => (mtOk m b n c == (List.range 16).any fun (i : Nat) => hq m b i && hq n c i) &&
    (insB m b n c == (List.range 16).all fun (i : Nat) => !hq m b i || hq n c i) &&
    (!mtOk m b n c || (List.range 16).all fun (i : Nat) => hq (mtM m b n c) (mtB m b n c) i == (hq m b i && hq n c i))) pair_all h1 h2
  rw [Bool.and_eq_true, Bool.and_eq_true] at this
  obtain ⟨⟨t1, t2⟩, t3⟩ := this
  refine ⟨beq_iff_eq.1 t1, beq_iff_eq.1 t2, fun hm i hi => ?_⟩
  rw [hm] at t3
  have := List.all_eq_true.1 (by simpa using t3 : ((List.range 16).all fun (i : Nat) => hq (mtM m b n c) (mtB m b n c) i == (hq m b i && hq n c i)) = true) i (List.mem_range.2 hi)
  exact beq_iff_eq.1 this

/-- Two cubes meet just if there is a header in both. -/
theorem many_met (m b n c : Int) : decide (0 < (manyTo m b n c 16 : Int)) = mtOk m b n c := by
  cases h1 : okB m b
  · have e : manyTo m b n c 16 = 0 := by simp [manyTo, has_no h1]
    have e2 : mtOk m b n c = false := by simp [mtOk, h1]
    simp [e, e2]
  · cases h2 : okB n c
    · have e : manyTo m b n c 16 = 0 := by simp [manyTo, has_no h2]
      have e2 : mtOk m b n c = false := by simp [mtOk, h2]
      simp [e, e2]
    · rw [(pair h1 h2).1, Bool.eq_iff_iff, decide_eq_true_iff, List.any_eq_true]
      have e : (0 < (manyTo m b n c 16 : Int)) ↔ 0 < manyTo m b n c 16 := by omega
      rw [e, manyTo, List.countP_pos_iff]
      constructor
      · rintro ⟨i, hi, h⟩
        have hl := List.mem_range.1 hi
        rw [has_hq h1 hl, has_hq h2 hl] at h
        exact ⟨i, hi, h⟩
      · rintro ⟨i, hi, h⟩
        have hl := List.mem_range.1 hi
        rw [← has_hq h1 hl, ← has_hq h2 hl] at h
        exact ⟨i, hi, h⟩

/-- One cube is in another just if all of its headers are. -/
theorem in_ins (m b n c : Int) : inTo m b n c 16 = insB m b n c := by
  cases h1 : okB m b
  · have e2 : mtOk m b n c = false := by simp [mtOk, h1]
    simp [inTo, insB, h1, e2]
  · cases h2 : okB n c
    · have e2 : mtOk m b n c = false := by simp [mtOk, h2]
      simp [inTo, insB, h2, e2]
    · rw [(pair h1 h2).2.1, inTo, h1, h2, Bool.and_self, Bool.true_and]
      rw [Bool.eq_iff_iff, List.all_eq_true, List.all_eq_true]
      constructor
      · intro h i hi
        have hl := List.mem_range.1 hi
        rw [← has_hq h1 hl, ← has_hq h2 hl]; exact h i hi
      · intro h i hi
        have hl := List.mem_range.1 hi
        rw [has_hq h1 hl, has_hq h2 hl]; exact h i hi

/-- What two cubes have together are the headers in both. -/
theorem met_has {m b n c : Int} (h : mtOk m b n c = true) {i : Nat} (hi : i < 16) : hasB (mtM m b n c) (mtB m b n c) (i : Int) = (hasB m b (i : Int) && hasB n c (i : Int)) := by
  rw [has_hq (mt_in h).1 hi, has_hq (mt_ok h).1 hi, has_hq (mt_ok h).2 hi]
  exact (pair (mt_ok h).1 (mt_ok h).2).2.2 h i hi

theorem hd_all : (rights.all fun p => ((hdTo p.1 p.2 16).length : Int) == cntN p.1 p.2 && (decide (0 < (hdTo p.1 p.2 16).length) && (hdTo p.1 p.2 16).headD 0 == fstN p.1 p.2)) = true := by decide +kernel
theorem hd_ok {m b : Int} (h : okB m b = true) : ((hdTo m b 16).length : Int) = cntN m b ∧ 0 < (hdTo m b 16).length ∧ (hdTo m b 16).headD 0 = fstN m b := by
  have := of_all1 (P := fun m b => ((hdTo m b 16).length : Int) == cntN m b && (decide (0 < (hdTo m b 16).length) && (hdTo m b 16).headD 0 == fstN m b)) hd_all h
  rw [Bool.and_eq_true, Bool.and_eq_true] at this
  exact ⟨beq_iff_eq.1 this.1, of_decide_eq_true this.2.1, beq_iff_eq.1 this.2.2⟩
theorem hd_no {m b : Int} (h : okB m b = false) : hdTo m b 16 = [] ∧ cntN m b = 0 ∧ fstN m b = 0 := by
  simp [hdTo, has_no h, cntN, fstN, h]
theorem hd_len (m b : Int) : cntN m b = ((hdTo m b 16).length : Int) := by
  cases h : okB m b
  · simp [hd_no h]
  · exact (hd_ok h).1.symm
theorem hd_pos (m b : Int) : decide (0 < ((hdTo m b 16).length : Int)) = okB m b := by
  cases h : okB m b
  · simp [hd_no h]
  · have := (hd_ok h).2.1
    simp only [decide_eq_true_iff]; omega
end Go.Proofs.YtclecpcnmfhhcaaDoor
