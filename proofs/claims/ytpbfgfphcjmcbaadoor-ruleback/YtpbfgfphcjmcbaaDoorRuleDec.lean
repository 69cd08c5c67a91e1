/- What decimal of package rule answers, called with any word; and what SplitN hands back. -/
import Derived.Test.YtpbfgfphcjmcbaaDoorRuleSplit
import Derived.Test.YtpbfgfphcjmcbaaDoorCubeParse
namespace Go.Proofs.YtpbfgfphcjmcbaaDoor
open Go.RowKit
set_option linter.unusedSimpArgs false

theorem byte_lst (s : ByteArray) : s.toList = s.data.toList := by rw [Lib.toList_data]
theorem size_lst (s : ByteArray) : s.data.toList.length = s.size := by simp
theorem is0 (s : ByteArray) : (s.toList == [48]) = (byteN s 0 == 48 && s.size == 1) := by
  rw [byte_lst]
  have hl := size_lst s
  unfold byteN
  cases h : s.data.toList with
  | nil => rw [h] at hl; simp at hl ⊢
  | cons c r =>
    rw [h] at hl
    cases r with
    | nil =>
      simp only [List.length_cons, List.length_nil] at hl
      rw [← hl]
      have e : (c == 48) = (c.toNat == 48) := by
        rw [Bool.eq_iff_iff]
        simp only [beq_iff_eq]
        exact ⟨fun h => by rw [h]; rfl, fun h => UInt8.toNat_inj.1 (by rw [h]; rfl)⟩
      simp [e]
    | cons d r =>
      have : s.size ≠ 1 := by simp at hl; omega
      simp [this]

set_option maxHeartbeats 1000000 in
theorem dec_head (s : ByteArray) (w : World) (h : dcHd s = false) :
    Calls Tryd.prog 9 #[.string s] w fun e w' => e = .returned (.tuple #[.int .i64 0, .bool false]) ∧ w' = w := by
  by_cases h0 : s.size = 0
  · have e0 : s.toList.isEmpty = true := by
      rw [byte_lst, List.isEmpty_iff, ← List.length_eq_zero_iff, size_lst, h0]
    go_enter Tryd.func9, Tryd.ntmps9
    go_wp2
    refine bodyPost_ret (v := .tuple #[.int .i64 0, .bool false]) (by simp [results, Tryd.results9, go_sem]) rfl ⟨rfl, rfl⟩
  · have e0 : s.toList.isEmpty = false := by
      rw [byte_lst, ← Bool.not_eq_true, List.isEmpty_iff, ← List.length_eq_zero_iff, size_lst]; exact h0
    by_cases h9 : 9 < s.size
    · have e9 : decide ((9 : Int) < (s.size : Int)) = true := by simp; omega
      go_enter Tryd.func9, Tryd.ntmps9
      go_wp2
      refine bodyPost_ret (v := .tuple #[.int .i64 0, .bool false]) (by simp [results, Tryd.results9, go_sem]) rfl ⟨rfl, rfl⟩
    · have e9 : decide ((9 : Int) < (s.size : Int)) = false := by simp; omega
      have hz : 0 < s.size := by omega
      have hh : byteN s 0 = 48 ∧ s.size ≠ 1 := by
        simp [dcHd] at h
        have := h (by omega) (by omega)
        exact ⟨this.1, this.2⟩
      have e1 : ((s[0].toNat : Int) == 48) = true := by
        have := byteN_at s 0 hz
        rw [hh.1] at this
        simp; omega
      have e2 : (s.toList == [48]) = false := by
        rw [is0]
        simp [hh.2]
      go_enter Tryd.func9, Tryd.ntmps9
      go_wp2
      refine bodyPost_ret (v := .tuple #[.int .i64 0, .bool false]) (by simp [results, Tryd.results9, go_sem]) rfl ⟨rfl, rfl⟩

theorem dc_small {s : ByteArray} {k : Nat} (hk : k ≤ 9) (h : dgTo s k = true) : 0 ≤ dcTo s k ∧ dcTo s k < 1000000000 := by
  have h1 := dc_bd h
  refine ⟨h1.1, Int.lt_of_lt_of_le h1.2 ?_⟩
  rcases (by omega : k = 0 ∨ k = 1 ∨ k = 2 ∨ k = 3 ∨ k = 4 ∨ k = 5 ∨ k = 6 ∨ k = 7 ∨ k = 8 ∨ k = 9) with rfl | rfl | rfl | rfl | rfl | rfl | rfl | rfl | rfl | rfl <;> decide

set_option maxHeartbeats 1000000 in
theorem dec_tail (s : ByteArray) (w : World) (h : dcHd s = true) :
    Calls Tryd.prog 9 #[.string s] w fun e w' => e = .returned (.tuple #[.int .i64 (dcN s), .bool (dcOk s)]) ∧ w' = w := by
  have hh : 0 < s.size ∧ s.size ≤ 9 := by
    simp only [dcHd, Bool.and_eq_true, decide_eq_true_eq] at h
    omega
  obtain ⟨hz, h9⟩ := hh
  have e0 : s.toList.isEmpty = false := by
    rw [byte_lst, ← Bool.not_eq_true, List.isEmpty_iff, ← List.length_eq_zero_iff, size_lst]; omega
  have e9 : decide ((9 : Int) < (s.size : Int)) = false := by simp; omega
  have HH : Hid (dcHd s = true) := h
  go_enter Tryd.func9, Tryd.ntmps9
  go_upto_region 1 with fail
  go_cut [21] from 4 (fun v w' => v = .bool false ∧ w' = w)
  case first =>
    cases e1 : ((s[0].toNat : Int) == 48)
    · go_wp2
      go_meet
      case rel => exact ⟨rfl, rfl⟩
    · have e2 : (s.toList == [48]) = true := by
        rw [is0]
        have hb := byteN_at s 0 hz
        have h48 : byteN s 0 = 48 := by simp at e1; omega
        simp only [dcHd, h48, Bool.and_eq_true] at h
        simpa [h48] using h.2.2
      go_wp2
      go_meet
      case rel => exact ⟨rfl, rfl⟩
  obtain ⟨rfl, hw⟩ := hcut
  replace hw := hw.symm
  subst hw
  clear h e0 e9
  go_wp2
  go_loopw [4, 24] (fun n i wr => ∃ k : Nat, k ≤ s.size ∧ n = .int .i64 (dcTo s k) ∧ i = .int .i64 k ∧ dgTo s k = true ∧ wr = w) (fun _ i _ => s.size - (intOf i).toNat)
  case atStart => exact ⟨0, by omega, rfl, rfl, rfl, rfl⟩
  case round =>
    obtain ⟨k, hk, rfl, rfl, hdg, hw⟩ := hrel
    replace hw := hw.symm
    subst hw
    have HD : Hid (dgTo s k = true) := hdg
    obtain ⟨b0, b1⟩ := dc_small (by omega) hdg
    clear hdg
    by_cases hlt : k < s.size
    · have hb := byteN_at s k hlt
      have HB : Hid (byteN s k = s[k].toNat) := hb
      clear hb
      have hu : s[k].toNat < 256 := s[k].toNat_lt
      by_cases hd : digB (s[k].toNat) = true
      · obtain ⟨d0, d1⟩ := dig_of hd
        have g0 : decide ((s[k].toNat : Int) < 48) = false := by simp; omega
        have g1 : decide ((57 : Int) < (s[k].toNat : Int)) = false := by simp; omega
        have HD1 : Hid (dgTo s (k + 1) = true) := by
          show dgTo s (k + 1) = true
          simp [dgTo, HD.out, HB.out, hd]
        have HC : Hid (dcTo s (k + 1) = 10 * dcTo s k + ((s[k].toNat : Int) - 48)) := by
          show dcTo s (k + 1) = _
          simp [dcTo, HB.out]
        generalize dcTo s k = q at *
        go_wp2
        go_roundw
        case rel => exact ⟨k + 1, by omega, by rw [HC.out]; try rfl, by go_num, HD1.out, trivial⟩
        case measure => simp [intOf]; omega
      · have hx : dcOk s = false := by
          cases e : dcOk s
          · rfl
          · exfalso
            simp only [dcOk, Bool.and_eq_true] at e
            have := dg_le hlt e.2
            rw [HB.out] at this
            exact hd this
        have hy : dcN s = 0 := by simp [dcN, hx]
        have HX : Hid (dcOk s = false) := hx
        have HY : Hid (dcN s = 0) := hy
        have hd2 : s[k].toNat < 48 ∨ 57 < s[k].toNat := by
          simp [digB] at hd
          omega
        clear hx hy hd
        rcases hd2 with hd2 | hd2
        · have g0 : decide ((s[k].toNat : Int) < 48) = true := by simp; omega
          go_wp2
          refine bodyPost_ret (v := .tuple #[.int .i64 0, .bool false]) (by simp [results, Tryd.results9, go_sem]) rfl ⟨by rw [HX.out, HY.out], rfl⟩
        · have g0 : decide ((s[k].toNat : Int) < 48) = false := by simp; omega
          have g1 : decide ((57 : Int) < (s[k].toNat : Int)) = true := by simp; omega
          go_wp2
          refine bodyPost_ret (v := .tuple #[.int .i64 0, .bool false]) (by simp [results, Tryd.results9, go_sem]) rfl ⟨by rw [HX.out, HY.out], rfl⟩
    · obtain rfl : k = s.size := by omega
      have hx : dcOk s = true := by simp [dcOk, HH.out, HD.out]
      have hy : dcN s = dcTo s s.size := by simp [dcN, hx]
      have HX : Hid (dcOk s = true) := hx
      have HY : Hid (dcN s = dcTo s s.size) := hy
      clear hx hy
      go_wp2
      refine bodyPost_ret (v := .tuple #[.int .i64 (dcTo s s.size), .bool true]) (by simp [results, Tryd.results9, go_sem]) rfl ⟨by rw [HX.out, HY.out], rfl⟩

theorem dec_any (s : ByteArray) (w : World) :
    Calls Tryd.prog 9 #[.string s] w fun e w' => e = .returned (.tuple #[.int .i64 (dcN s), .bool (dcOk s)]) ∧ w' = w := by
  cases h : dcHd s
  · have hx : dcOk s = false := by simp [dcOk, h]
    have hy : dcN s = 0 := by simp [dcN, hx]
    rw [hx, hy]
    exact dec_head s w h
  · exact dec_tail s w h
end Go.Proofs.YtpbfgfphcjmcbaaDoor
