/- What the document's own Digits and ShowRule answer, of numbers from 0 to 99 and of rules that are right. -/
import Derived.Test.YtbieljcoaocfkabGreatDoorRefText
import Derived.Test.YtbieljcoaocfkabGreatDoorRulePrint
namespace Go.Proofs.YtbieljcoaocfkabGreatDoor
open Go.RowKit
set_option linter.unusedSimpArgs false

theorem dig1 : ∀ k : Fin 10, (⟨#[48, 49, 50, 51, 52, 53, 54, 55, 56, 57]⟩ : ByteArray).extract ((k : Nat) : Int).toNat (((k : Nat) : Int) + 1).toNat = dgS ((k : Nat) : Int) := by
  decide +kernel
set_option maxRecDepth 100000 in
theorem dig2 : ∀ k : Fin 100, 10 ≤ k.val → dgS (((k : Nat) : Int) / 10) ++ (⟨#[48, 49, 50, 51, 52, 53, 54, 55, 56, 57]⟩ : ByteArray).extract (((k : Nat) : Int) % 10).toNat ((((k : Nat) : Int) % 10) + 1).toNat = dgS ((k : Nat) : Int) := by
  decide +kernel

set_option maxRecDepth 100000 in
set_option maxHeartbeats 1000000 in
theorem digits_lo (p : Int) (w : World) (h0 : 0 ≤ p) (h1 : p < 10) :
    Calls Tryz.prog 25 #[.int .i64 p] w fun e w' => e = .returned (.string (dgS p)) ∧ w' = w := by
  have e1 : decide (p < 10) = true := by simpa using h1
  go_enter Tryz.func25, Tryz.ntmps25
  go_wp2
  go_ret
  refine ⟨ret_str ?_, rfl⟩
  obtain ⟨k, rfl⟩ : ∃ k : Fin 10, p = ((k : Nat) : Int) := ⟨⟨p.toNat, by omega⟩, by simp; omega⟩
  exact dig1 k

set_option maxRecDepth 100000 in
set_option maxHeartbeats 1000000 in
theorem digits_any (p : Int) (w : World) (h0 : 0 ≤ p) (h1 : p < 100) :
    Calls Tryz.prog 25 #[.int .i64 p] w fun e w' => e = .returned (.string (dgS p)) ∧ w' = w := by
  by_cases h : p < 10
  · exact digits_lo p w h0 h
  · have e1 : decide (p < 10) = false := by simpa using h
    have hd := dg_size (p / 10)
    have r0 : 0 ≤ p % 10 := Int.emod_nonneg _ (by decide)
    have r1 : p % 10 < 10 := Int.emod_lt_of_pos _ (by decide)
    go_enter Tryz.func25, Tryz.ntmps25
    go_wp2_with fail
    refine (digits_lo _ _ (by omega) (by omega)).mono ?_
    rintro e w' ⟨rfl, rfl⟩
    go_wp2
    go_ret
    refine ⟨ret_str ?_, rfl⟩
    obtain ⟨k, rfl⟩ : ∃ k : Fin 100, p = ((k : Nat) : Int) := ⟨⟨p.toNat, by omega⟩, by simp; omega⟩
    exact dig2 k (by omega)

theorem ap_as (a b c : ByteArray) : a ++ (b ++ c) = a ++ b ++ c := ByteArray.append_assoc.symm

set_option maxHeartbeats 2000000 in
theorem showRule_any (p m b o s v : Int) (w : World) (h : ruOk p m b o s v = true) :
    Calls Tryz.prog 7 #[.agg #[.int .i64 p, .int .i64 m, .int .i64 b, .int .i64 o, .int .i64 s, .int .i64 v]] w fun e w' => e = .returned (.string (rsS p m b o s v)) ∧ Below w.heap.size w w' := by
  obtain ⟨g1, g2, g3⟩ := ru_ok h
  have g4 := set_ok g1 g3
  obtain ⟨⟨⟨p0, p1⟩, ⟨o0, o1⟩⟩, ⟨s0, s1⟩, _⟩ := ru_in g1
  have d1 := dg_size p
  have d2 := dg_size o
  have d3 := pr_size m b
  have d4 := pr_size s v
  by_cases ho : o = 0
  · have e : rsS p m b o s v = dgS p ++ ⟨#[32]⟩ ++ prS m b ++ ⟨#[32, 100, 114, 111, 112]⟩ := by simp [rsS, rsH, ho]
    rw [e]
    have ho2 : (o == 0) = true := by simpa using ho
    clear e h g1 g3 ho
    go_enter Tryz.func7, Tryz.ntmps7
    go_wp2_with fail
    refine (digits_any _ _ p0 (by omega)).mono ?_
    rintro e w' ⟨rfl, rfl⟩
    go_wp2_with fail
    refine (refShow_any _ _ _ g2).mono ?_
    rintro e w2 ⟨rfl, hb2⟩
    obtain ⟨⟨q0, q1, q2, q3, q4, q5⟩, lt1⟩ := cells6 hb2
    have hB := below_one hb2
    clear hb2
    go_wp2
    go_ret
    exact ⟨rfl, hB⟩
  · have ho2 : (o == 0) = false := by simpa using ho
    by_cases hz : s = 0
    · have e : rsS p m b o s v = dgS p ++ ⟨#[32]⟩ ++ prS m b ++ ⟨#[32, 111, 117, 116, 32]⟩ ++ dgS o := by simp only [rsS, rsO, rsH, if_neg ho, if_pos hz, ap_as]
      rw [e]
      have hz2 : decide (0 < s) = false := by simp; omega
      clear e h g1 g3 ho
      go_enter Tryz.func7, Tryz.ntmps7
      go_wp2_with fail
      refine (digits_any _ _ p0 (by omega)).mono ?_
      rintro e w' ⟨rfl, rfl⟩
      go_wp2_with fail
      refine (refShow_any _ _ _ g2).mono ?_
      rintro e w2 ⟨rfl, hb2⟩
      obtain ⟨⟨q0, q1, q2, q3, q4, q5⟩, lt1⟩ := cells6 hb2
      have hB := below_one hb2
      clear hb2
      go_wp2_with fail
      refine (digits_any _ _ o0 (by omega)).mono ?_
      rintro e w' ⟨rfl, rfl⟩
      go_wp2
      go_ret
      exact ⟨rfl, hB⟩
    · have e : rsS p m b o s v = dgS p ++ ⟨#[32]⟩ ++ prS m b ++ ⟨#[32, 111, 117, 116, 32]⟩ ++ dgS o ++ ⟨#[32, 115, 101, 116, 32]⟩ ++ prS s v := by simp only [rsS, rsO, rsH, if_neg ho, if_neg hz, ap_as]
      rw [e]
      have hz2 : decide (0 < s) = true := by simp; omega
      clear e h g1 g3 ho hz
      go_enter Tryz.func7, Tryz.ntmps7
      go_wp2_with fail
      refine (digits_any _ _ p0 (by omega)).mono ?_
      rintro e w' ⟨rfl, rfl⟩
      go_wp2_with fail
      refine (refShow_any _ _ _ g2).mono ?_
      rintro e w2 ⟨rfl, hb2⟩
      obtain ⟨⟨q0, q1, q2, q3, q4, q5⟩, lt1⟩ := cells6 hb2
      have hB := below_one hb2
      clear hb2
      go_wp2_with fail
      refine (digits_any _ _ o0 (by omega)).mono ?_
      rintro e w' ⟨rfl, rfl⟩
      go_wp2_with fail
      refine (refShow_any _ _ _ g4).mono ?_
      rintro e w3 ⟨rfl, hb3⟩
      have hB3 := hB.trans (hb3.mono hB.size)
      clear hb3 hB
      go_wp2
      go_ret
      exact ⟨rfl, hB3⟩
end Go.Proofs.YtbieljcoaocfkabGreatDoor
