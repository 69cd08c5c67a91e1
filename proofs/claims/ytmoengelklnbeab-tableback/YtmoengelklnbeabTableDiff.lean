/- What table.check, Same, Diff and All answer. -/
import Derived.Test.YtmoengelklnbeabTableOps
namespace Go.Proofs.Ytmoengelklnbeab
open Go.RowKit
set_option linter.unusedSimpArgs false
set_option linter.unusedVariables false

theorem tw_ne {A B : List Ru} (h : tbN A ≠ 0) : twN A B = tbN A := by simp [twN, h]
theorem tw_ok {A B : List Ru} (h : tbN A = 0) : twN A B = tbN B := by simp [twN, h]
theorem tw_two {A B : List Ru} (h : twN A B = 0) : tbN A = 0 ∧ tbN B = 0 := by
  by_cases h1 : tbN A = 0
  · rw [tw_ok h1] at h; exact ⟨h1, h⟩
  · rw [tw_ne h1] at h; exact absurd h h1
theorem df_ne {A B : List Ru} (h : twN A B ≠ 0) : dfL A B = [] := by simp [dfL, h]
theorem df_ok {A B : List Ru} (h : twN A B = 0) : dfL A B = taken (bey A B) ++ added (bey B A) := by simp [dfL, h]
theorem sm_ne {A B : List Ru} (h : twN A B ≠ 0) : smB A B = false := by simp [smB, h]
theorem sm_ok {A B : List Ru} (h : twN A B = 0) : smB A B = (decide (A.length = B.length) && decide ((bey A B).length = 0)) := by simp [smB, h]

set_option maxHeartbeats 1000000 in
set_option maxRecDepth 100000 in
theorem check_any2 (v1 v2 : Value) (L M : List Ru) (w : World) (hs : SR w v1 L) (ht : SR w v2 M) :
    Calls Try.prog 17 #[v1, v2] w fun e w' => e = .returned (noV (twN L M)) ∧ Below w.heap.size w w' := by
  have HS : Hid (SR w v1 L) := hs
  have HT : Hid (SR w v2 M) := ht
  clear hs ht
  by_cases h1 : tbN L = 0
  · rw [tw_ok h1]
    have H1 : Hid (tbN L = 0) := h1
    clear h1
    generalize hE : noV (tbN M) = E
    have HE : Hid (noV (tbN M) = E) := hE
    clear hE
    go_enter Try.func17, Try.ntmps17
    go_wp2_with fail
    refine (table_any _ L _ HS.out).mono ?_
    rintro e w1 ⟨rfl, hb1⟩
    rw [no_ok H1.out]
    have HT1 : Hid (SR w1 v2 M) := HT.out.later hb1
    have HB1 : Hid (Below w.heap.size w w1) := hb1
    clear hb1
    go_wp2_with fail
    refine (table_any _ M _ HT1.out).mono ?_
    rintro e w2 ⟨rfl, hb2⟩
    rw [HE.out]
    have HB2 : Hid (Below w.heap.size w w2) := HB1.out.trans (hb2.mono HB1.out.size)
    clear hb2
    go_wp2
    go_ret
    exact ⟨rfl, HB2.out⟩
  · rw [tw_ne h1, no_ne h1]
    have H1 : Hid (tbN L ≠ 0) := h1
    clear h1
    go_enter Try.func17, Try.ntmps17
    go_wp2_with fail
    refine (table_any _ L _ HS.out).mono ?_
    rintro e w1 ⟨rfl, hb1⟩
    rw [no_ne H1.out]
    go_wp2
    go_ret
    exact ⟨rfl, hb1⟩

set_option maxHeartbeats 2000000 in
set_option maxRecDepth 100000 in
theorem same_any2 (ao : Option Addr) (n cap : Nat) (ao2 : Option Addr) (n2 cap2 : Nat) (L M : List Ru) (w : World) (hs : SR w (.slice ao n cap) L) (ht : SR w (.slice ao2 n2 cap2) M) :
    Calls Try.prog 9 #[.slice ao n cap, .slice ao2 n2 cap2] w fun e w' => e = .returned (.tuple #[.bool (smB L M), noV (twN L M)]) ∧ Below w.heap.size w w' := by
  have HS : Hid (SR w (.slice ao n cap) L) := hs
  have HT : Hid (SR w (.slice ao2 n2 cap2) M) := ht
  have HLN : Hid (L.length = n) := hs.len
  have HMN : Hid (M.length = n2) := ht.len
  clear hs ht
  by_cases h1 : twN L M = 0
  · rw [sm_ok h1, no_ok h1, HLN.out, HMN.out]
    have H1 : Hid (twN L M = 0) := h1
    have HL : Hid (L.length ≤ 1000) := by
      have := (tb_iff.1 (tw_two h1).1).1
      show _ ≤ 1000
      omega
    clear h1
    by_cases hn : n = n2
    · subst hn
      obtain ⟨N, hN⟩ : ∃ N, N = (bey L M).length := ⟨_, rfl⟩
      rw [← hN]
      have HN : Hid (N = (bey L M).length) := hN
      clear hN
      have e1 : decide (n = n) = true := by simp
      rw [e1, Bool.true_and]
      have HD : Hid (((N : Int) == 0) = decide (N = 0)) := by
        show _ = _
        rw [Bool.eq_iff_iff]
        simp
      go_enter Try.func9, Try.ntmps9
      go_wp2_with fail
      refine (check_any2 _ _ L M _ HS.out HT.out).mono ?_
      rintro e w1 ⟨rfl, hb1⟩
      rw [no_ok H1.out]
      have HS1 : Hid (SR w1 (.slice ao n cap) L) := HS.out.later hb1
      have HT1 : Hid (SR w1 (.slice ao2 n cap2) M) := HT.out.later hb1
      have HB1 : Hid (Below w.heap.size w w1) := hb1
      clear hb1
      go_wp2_with fail
      refine (beyond_any _ _ _ _ _ _ L M _ HS1.out HT1.out HL.out).mono ?_
      rintro e w2 ⟨ao3, n3, cap3, rfl, hn3, _, hb2⟩
      rw [← HN.out] at hn3
      subst hn3
      have HB2 : Hid (Below w.heap.size w w2) := HB1.out.trans (hb2.mono HB1.out.size)
      clear hb2
      go_wp2
      refine bodyPost_ret (v := .tuple #[.bool ((n3 : Int) == 0), .nilIface]) (by simp [results, Try.results9, go_sem]) rfl ⟨by rw [HD.out], HB2.out⟩
    · have e1 : decide (n = n2) = false := by simpa using hn
      rw [e1, Bool.false_and]
      have e2 : ((n : Int) == (n2 : Int)) = false := beq_eq_false_iff_ne.2 (by omega)
      go_enter Try.func9, Try.ntmps9
      go_wp2_with fail
      refine (check_any2 _ _ L M _ HS.out HT.out).mono ?_
      rintro e w1 ⟨rfl, hb1⟩
      rw [no_ok H1.out]
      have HB1 : Hid (Below w.heap.size w w1) := hb1
      clear hb1
      go_wp2
      refine bodyPost_ret (v := .tuple #[.bool false, .nilIface]) (by simp [results, Try.results9, go_sem]) rfl ⟨rfl, HB1.out⟩
  · rw [sm_ne h1, no_ne h1]
    have H1 : Hid (twN L M ≠ 0) := h1
    clear h1
    go_enter Try.func9, Try.ntmps9
    go_wp2_with fail
    refine (check_any2 _ _ L M _ HS.out HT.out).mono ?_
    rintro e w1 ⟨rfl, hb1⟩
    rw [no_ne H1.out]
    have HB1 : Hid (Below w.heap.size w w1) := hb1
    clear hb1
    go_wp2
    refine bodyPost_ret (v := .tuple #[.bool false, .iface 45 (.int .i64 (twN L M))]) (by simp [results, Try.results9, go_sem]) rfl ⟨rfl, HB1.out⟩
end Go.Proofs.Ytmoengelklnbeab
