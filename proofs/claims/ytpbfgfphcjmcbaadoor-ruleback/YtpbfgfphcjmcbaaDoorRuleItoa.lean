/- What strconv.Itoa answers at the numbers from 0 to 99, and where stringslite finds a blank. -/
import Derived.Test.YtpbfgfphcjmcbaaDoorRuleText
import Derived.Test.YtpbfgfphcjmcbaaDoorRows
import Derived.WalkKit
import Derived.WalkSpells
import Derived.Below
import Derived.Lib.Strings
namespace Go.Proofs.YtpbfgfphcjmcbaaDoor
open Go.RowKit
set_option linter.unusedSimpArgs false

theorem ret_str {a b : ByteArray} (h : a = b) : Ending.returned (.string a) = .returned (.string b) := by rw [h]

theorem small1 : ∀ k : Fin 10, (⟨#[48, 49, 50, 51, 52, 53, 54, 55, 56, 57, 97, 98, 99, 100, 101, 102, 103, 104, 105, 106, 107, 108, 109, 110, 111, 112, 113, 114, 115, 116, 117, 118, 119, 120, 121, 122]⟩ : ByteArray).extract ((k : Nat) : Int).toNat (((k : Nat) : Int) + 1).toNat = dgS ((k : Nat) : Int) := by
  decide +kernel
set_option maxRecDepth 100000 in
theorem small2 : ∀ k : Fin 100, 10 ≤ k.val → (⟨#[48, 48, 48, 49, 48, 50, 48, 51, 48, 52, 48, 53, 48, 54, 48, 55, 48, 56, 48, 57, 49, 48, 49, 49, 49, 50, 49, 51, 49, 52, 49, 53, 49, 54, 49, 55, 49, 56, 49, 57, 50, 48, 50, 49, 50, 50, 50, 51, 50, 52, 50, 53, 50, 54, 50, 55, 50, 56, 50, 57, 51, 48, 51, 49, 51, 50, 51, 51, 51, 52, 51, 53, 51, 54, 51, 55, 51, 56, 51, 57, 52, 48, 52, 49, 52, 50, 52, 51, 52, 52, 52, 53, 52, 54, 52, 55, 52, 56, 52, 57, 53, 48, 53, 49, 53, 50, 53, 51, 53, 52, 53, 53, 53, 54, 53, 55, 53, 56, 53, 57, 54, 48, 54, 49, 54, 50, 54, 51, 54, 52, 54, 53, 54, 54, 54, 55, 54, 56, 54, 57, 55, 48, 55, 49, 55, 50, 55, 51, 55, 52, 55, 53, 55, 54, 55, 55, 55, 56, 55, 57, 56, 48, 56, 49, 56, 50, 56, 51, 56, 52, 56, 53, 56, 54, 56, 55, 56, 56, 56, 57, 57, 48, 57, 49, 57, 50, 57, 51, 57, 52, 57, 53, 57, 54, 57, 55, 57, 56, 57, 57]⟩ : ByteArray).extract (((k : Nat) : Int) * 2).toNat (((k : Nat) : Int) * 2 + 2).toNat = dgS ((k : Nat) : Int) := by
  decide +kernel

set_option maxRecDepth 100000 in
set_option maxHeartbeats 1000000 in
theorem small_any (p : Int) (w : World) (h0 : 0 ≤ p) (h1 : p < 100) :
    Calls Tryd.prog 39 #[.int .i64 p] w fun e w' => e = .returned (.string (dgS p)) ∧ w' = w := by
  by_cases h : p < 10
  · have e1 : decide (p < 10) = true := by simpa using h
    go_enter Tryd.func39, Tryd.ntmps39
    go_wp2
    go_ret
    refine ⟨ret_str ?_, rfl⟩
    obtain ⟨k, rfl⟩ : ∃ k : Fin 10, p = ((k : Nat) : Int) := ⟨⟨p.toNat, by omega⟩, by simp; omega⟩
    exact small1 k
  · have e1 : decide (p < 10) = false := by simpa using h
    go_enter Tryd.func39, Tryd.ntmps39
    go_wp2
    go_ret
    refine ⟨ret_str ?_, rfl⟩
    obtain ⟨k, rfl⟩ : ∃ k : Fin 100, p = ((k : Nat) : Int) := ⟨⟨p.toNat, by omega⟩, by simp; omega⟩
    exact small2 k (by omega)

set_option maxHeartbeats 1000000 in
theorem format_any (p : Int) (w : World) (h0 : 0 ≤ p) (h1 : p < 100) :
    Calls Tryd.prog 31 #[.int .i64 p, .int .i64 10] w fun e w' => e = .returned (.string (dgS p)) ∧ w' = w := by
  have e0 : decide (0 ≤ p) = true := by simpa using h0
  have e1 : decide (p < 100) = true := by simpa using h1
  go_enter Tryd.func31, Tryd.ntmps31
  go_wp2_with fail
  refine (small_any _ _ h0 h1).mono ?_
  rintro e w' ⟨rfl, rfl⟩
  go_wp2
  go_ret
  exact ⟨rfl, rfl⟩

set_option maxHeartbeats 1000000 in
theorem itoa1_any (p : Int) (w : World) (h0 : 0 ≤ p) (h1 : p < 100) :
    Calls Tryd.prog 23 #[.int .i64 p] w fun e w' => e = .returned (.string (dgS p)) ∧ w' = w := by
  go_enter Tryd.func23, Tryd.ntmps23
  go_wp2_with fail
  refine (format_any _ _ h0 h1).mono ?_
  rintro e w' ⟨rfl, rfl⟩
  go_wp2
  go_ret
  exact ⟨rfl, rfl⟩

set_option maxHeartbeats 1000000 in
theorem itoa_any (p : Int) (w : World) (h0 : 0 ≤ p) (h1 : p < 100) :
    Calls Tryd.prog 14 #[.int .i64 p] w fun e w' => e = .returned (.string (dgS p)) ∧ w' = w := by
  go_enter Tryd.func14, Tryd.ntmps14
  go_wp2_with fail
  refine (itoa1_any _ _ h0 h1).mono ?_
  rintro e w' ⟨rfl, rfl⟩
  go_wp2
  go_ret
  exact ⟨rfl, rfl⟩

set_option maxHeartbeats 1000000 in
set_option maxRecDepth 100000 in
theorem indexByte_any (s : ByteArray) (w : World) :
    Calls Tryd.prog 45 #[.string s, .int .u8 32] w fun e w' => e = .returned (.int .i64 (blAt s)) ∧ w' = w := by
  go_enter Tryd.func45, Tryd.ntmps45
  go_wp2
  rw [run_callFunc_extern Tryd.func54 (by kernel_rfl) (by kernel_rfl) (by kernel_rfl) (e := Extern.BytealgIndexByte.indexByte) (by kernel_rfl), Lib.run_indexByteString]
  simp only [Result.andThen]
  rw [Oper.upon_value]
  go_wp2
  go_ret
  exact ⟨rfl, rfl⟩

set_option maxHeartbeats 1000000 in
set_option maxRecDepth 100000 in
theorem index1_any (s : ByteArray) (w : World) :
    Calls Tryd.prog 38 #[.string s, .string ⟨#[32]⟩] w fun e w' => e = .returned (.int .i64 (blAt s)) ∧ w' = w := by
  cases hs : ([32] == s.toList)
  · go_enter Tryd.func38, Tryd.ntmps38
    go_wp2_with fail
    refine (indexByte_any _ _).mono ?_
    rintro e w' ⟨rfl, rfl⟩
    go_wp2
    go_ret
    exact ⟨rfl, rfl⟩
  · have hb : blAt s = 0 := by
      have e : s.data.toList = [32] := by
        rw [← Lib.toList_data]
        exact (beq_iff_eq.1 hs).symm
      rw [blAt, e]
      decide
    rw [hb]
    clear hb
    go_enter Tryd.func38, Tryd.ntmps38
    go_wp2
    go_ret
    exact ⟨rfl, rfl⟩

set_option maxHeartbeats 1000000 in
theorem sindex_any (s : ByteArray) (w : World) :
    Calls Tryd.prog 30 #[.string s, .string ⟨#[32]⟩] w fun e w' => e = .returned (.int .i64 (blAt s)) ∧ w' = w := by
  go_enter Tryd.func30, Tryd.ntmps30
  go_wp2_with fail
  refine (index1_any _ _).mono ?_
  rintro e w' ⟨rfl, rfl⟩
  go_wp2
  go_ret
  exact ⟨rfl, rfl⟩
end Go.Proofs.YtpbfgfphcjmcbaaDoor
