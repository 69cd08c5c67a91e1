/- Facts on right cubes, by looking at all 81 of them: no program in it. -/
import Derived.Test.YtpbfgfphcjmcbaaDoorCubeMath
namespace Go.Proofs.YtpbfgfphcjmcbaaDoor
open Go.RowKit

/-- All right cubes. -/
def rights : List (Int × Int) := (List.range 16).flatMap fun (m : Nat) => ((List.range 16).filter fun (b : Nat) => okB (m : Int) (b : Int)).map fun (b : Nat) => ((m : Int), (b : Int))

theorem mem_rights {m b : Int} (h : okB m b = true) : (m, b) ∈ rights := by
  obtain ⟨⟨h1, h2⟩, ⟨h3, h4⟩⟩ := ok_of h
  obtain ⟨x, rfl⟩ := Int.eq_ofNat_of_zero_le h1
  obtain ⟨y, rfl⟩ := Int.eq_ofNat_of_zero_le h3
  simp only [rights, List.mem_flatMap, List.mem_range, List.mem_map, List.mem_filter, Prod.mk.injEq, Int.natCast_inj]
  exact ⟨x, by omega, y, ⟨by omega, h⟩, rfl, rfl⟩

theorem of_all1 {P : Int → Int → Bool} (h : (rights.all fun p => P p.1 p.2) = true) {m b : Int} (h1 : okB m b = true) : P m b = true :=
  List.all_eq_true.1 h _ (mem_rights h1)

theorem of_all2 {P : Int → Int → Int → Int → Bool} (h : (rights.all fun p => rights.all fun q => P p.1 p.2 q.1 q.2) = true) {m b n c : Int} (h1 : okB m b = true) (h2 : okB n c = true) : P m b n c = true :=
  List.all_eq_true.1 (List.all_eq_true.1 h _ (mem_rights h1)) _ (mem_rights h2)

/-- What is shown of a right cube is read as it was. -/
theorem back_all : (rights.all fun p => psOk (prS p.1 p.2) && (psM (prS p.1 p.2) == p.1 && psB (prS p.1 p.2) == p.2)) = true := by decide +kernel
theorem back {m b : Int} (h : okB m b = true) : psOk (prS m b) = true ∧ psM (prS m b) = m ∧ psB (prS m b) = b := by
  have := of_all1 (P := fun m b => psOk (prS m b) && (psM (prS m b) == m && psB (prS m b) == b)) back_all h
  simpa using this

def chr3 (k : Fin 3) : UInt8 := if k = 0 then 49 else if k = 1 then 48 else 42
def txt (a b c d : Fin 3) : ByteArray := ⟨#[chr3 a, chr3 b, chr3 c, chr3 d]⟩
theorem chr3_of {x : UInt8} (h : mayB x.toNat = true) : ∃ k, x = chr3 k := by
  simp only [mayB, Bool.or_eq_true, beq_iff_eq] at h
  rcases h with (h | h) | h
  · exact ⟨0, UInt8.toNat_inj.1 h⟩
  · exact ⟨1, UInt8.toNat_inj.1 h⟩
  · exact ⟨2, UInt8.toNat_inj.1 h⟩

theorem txt_of {s : ByteArray} (h : psOk s = true) : ∃ a b c d, s = txt a b c d := by
  obtain ⟨⟨l⟩⟩ := s
  simp only [psOk, Bool.and_eq_true, beq_iff_eq] at h
  obtain ⟨h4, hm⟩ := h
  have hl : l.length = 4 := by simpa [ByteArray.size] using h4
  match l, hl with
  | [x0, x1, x2, x3], _ =>
    simp only [mayTo, Bool.and_eq_true, Bool.true_and] at hm
    obtain ⟨⟨⟨m0, m1⟩, m2⟩, m3⟩ := hm
    obtain ⟨a, rfl⟩ := chr3_of (x := x0) m0
    obtain ⟨b, rfl⟩ := chr3_of (x := x1) m1
    obtain ⟨c, rfl⟩ := chr3_of (x := x2) m2
    obtain ⟨d, rfl⟩ := chr3_of (x := x3) m3
    exact ⟨a, b, c, d, rfl⟩

theorem read_all : ∀ a b c d : Fin 3, (okB (psM (txt a b c d)) (psB (txt a b c d)) && (prS (psM (txt a b c d)) (psB (txt a b c d))).data.toList == (txt a b c d).data.toList) = true := by decide +kernel
/-- What is read is shown as it was. -/
theorem read {s : ByteArray} (h : psOk s = true) : okB (psM s) (psB s) = true ∧ prS (psM s) (psB s) = s := by
  obtain ⟨a, b, c, d, rfl⟩ := txt_of h
  have := read_all a b c d
  simp only [Bool.and_eq_true, beq_iff_eq] at this
  exact ⟨this.1, by
    have e := this.2
    generalize prS _ _ = x at *
    generalize txt a b c d = y at *
    obtain ⟨⟨x⟩⟩ := x; obtain ⟨⟨y⟩⟩ := y
    simp at e; rw [e]⟩

theorem mt_ok {m b n c : Int} (h : mtOk m b n c = true) : okB m b = true ∧ okB n c = true := by
  simp only [mtOk, Bool.and_eq_true] at h; exact h.1

theorem comm_all : (rights.all fun p => rights.all fun q => mtOk p.1 p.2 q.1 q.2 == mtOk q.1 q.2 p.1 p.2 && (mtM p.1 p.2 q.1 q.2 == mtM q.1 q.2 p.1 p.2 && mtB p.1 p.2 q.1 q.2 == mtB q.1 q.2 p.1 p.2)) = true := by decide +kernel
/-- Two cubes meet either way round. -/
theorem mt_comm (m b n c : Int) : mtOk m b n c = mtOk n c m b ∧ mtM m b n c = mtM n c m b ∧ mtB m b n c = mtB n c m b := by
  cases h1 : okB m b
  · have e1 : mtOk m b n c = false := by simp [mtOk, h1]
    have e2 : mtOk n c m b = false := by simp [mtOk, h1]
    simp [mtM, mtB, e1, e2]
  · cases h2 : okB n c
    · have e1 : mtOk m b n c = false := by simp [mtOk, h2]
      have e2 : mtOk n c m b = false := by simp [mtOk, h2]
      simp [mtM, mtB, e1, e2]
    · have := of_all2 (P := fun m b n c => mtOk m b n c == mtOk n c m b && (mtM m b n c == mtM n c m b && mtB m b n c == mtB n c m b)) comm_all h1 h2
      simpa using this

theorem meet_all : (rights.all fun p => rights.all fun q => !mtOk p.1 p.2 q.1 q.2 ||
    (okB (mtM p.1 p.2 q.1 q.2) (mtB p.1 p.2 q.1 q.2) && (decide (cntN (mtM p.1 p.2 q.1 q.2) (mtB p.1 p.2 q.1 q.2) ≤ cntN p.1 p.2) &&
      (insB (mtM p.1 p.2 q.1 q.2) (mtB p.1 p.2 q.1 q.2) p.1 p.2 && insB (mtM p.1 p.2 q.1 q.2) (mtB p.1 p.2 q.1 q.2) q.1 q.2)))) = true := by decide +kernel
/-- What two cubes have together is in both. -/
theorem mt_in {m b n c : Int} (h : mtOk m b n c = true) : okB (mtM m b n c) (mtB m b n c) = true ∧ cntN (mtM m b n c) (mtB m b n c) ≤ cntN m b ∧
    insB (mtM m b n c) (mtB m b n c) m b = true ∧ insB (mtM m b n c) (mtB m b n c) n c = true := by
  have := of_all2 (P := fun m b n c => !mtOk m b n c ||
    (okB (mtM m b n c) (mtB m b n c) && (decide (cntN (mtM m b n c) (mtB m b n c) ≤ cntN m b) &&
      (insB (mtM m b n c) (mtB m b n c) m b && insB (mtM m b n c) (mtB m b n c) n c)))) meet_all (mt_ok h).1 (mt_ok h).2
  simpa [h] using this

theorem ins_mt {m b n c : Int} (h : insB m b n c = true) : mtOk m b n c = true ∧ mtM m b n c = m ∧ mtB m b n c = b := by
  simpa [insB] using h

/-- The document's own example: '1*0*'. -/
theorem star_ok : psOk ⟨#[49, 42, 48, 42]⟩ = true ∧ psM ⟨#[49, 42, 48, 42]⟩ = 10 ∧ psB ⟨#[49, 42, 48, 42]⟩ = 8 := by decide +kernel
end Go.Proofs.YtpbfgfphcjmcbaaDoor
