/- What Table of package rule answers, called with any table: the loop. -/
import Derived.Test.YtpbfgfphcjmcbaaDoorRuleTab
import Derived.Deep.CutRange
import Derived.Deep.CutBlock
namespace Go.Proofs.YtpbfgfphcjmcbaaDoor
open Go.RowKit
set_option linter.unusedSimpArgs false

theorem tb_long {L : List Ru} (h : 12 < L.length) : tbN L = 4 := by simp [tbN, h]
theorem tb_at {L : List Ru} (h : L.length ≤ 12) {k : Nat} (hk : k < L.length) {x : Int} (h1 : tbTo L (k + 1) = x) (h2 : x ≠ 0) : tbN L = x := by
  subst h1
  rw [tbN, if_neg (by omega)]
  exact to_le h2 hk
theorem to_bad {L : List Ru} {k : Nat} {r : Ru} (hk : k < L.length) (hr : L[k] = r) (h : tbTo L k = 0) (h2 : r.n ≠ 0) : tbTo L (k + 1) = r.n := by
  rw [tbTo, if_pos h, getD_at hk, hr, if_neg h2]
theorem to_clash {L : List Ru} {k : Nat} {r : Ru} (hk : k < L.length) (hr : L[k] = r) (h : tbTo L k = 0) (h2 : r.n = 0) (h3 : (L.take k).any (fun a => keyB a r) = true) : tbTo L (k + 1) = 7 := by
  rw [tbTo, if_pos h, getD_at hk, hr, if_pos h2, h3]
  rfl
theorem to_next {L : List Ru} {k : Nat} {r : Ru} (hk : k < L.length) (hr : L[k] = r) (h : tbTo L k = 0) (h2 : r.n = 0) (h3 : (L.take k).any (fun a => keyB a r) = false) : tbTo L (k + 1) = 0 := by
  rw [tbTo, if_pos h, getD_at hk, hr, if_pos h2, h3]
  rfl

set_option maxHeartbeats 1000000 in
theorem table_some (g o cap n : Nat) (L : List Ru) (w : World) (hc : RAt w g o L) (hn : L.length = n) (hl : n ≤ 12) (hcap : n ≤ cap) (hcap2 : cap ≤ maxLen) :
    Calls Tryd.prog 15 #[.slice (some ⟨g, o, none⟩) n cap] w fun e w' => e = .returned (noV (tbN L)) ∧ Below w.heap.size w w' := by
  have HN : Hid (L.length = n) := hn
  unfold maxLen at hcap2
  clear hn
  go_enter Tryd.func15, Tryd.ntmps15
  go_wp2
  go_loopw [12] (fun i wr => ∃ k : Nat, k ≤ n ∧ i = .int .i64 k ∧ tbTo L k = 0 ∧ Below w.heap.size w wr) (fun i _ => n - (intOf i).toNat)
  case atStart => exact ⟨0, by omega, rfl, rfl, Below.refl _ _⟩
  case round =>
    obtain ⟨k, hk, rfl, hno, hB⟩ := hrel
    have HB : Hid (Below w.heap.size w wr) := hB
    have HNO : Hid (tbTo L k = 0) := hno
    clear hno
    by_cases hlt : k < n
    · obtain ⟨p, m, b, q, s, v, hkl, hL, q0, q1, q2, q3, q4, q5⟩ := (hc.later hB).at HN.out hlt
      have HL : Hid (L[k] = ⟨p, m, b, q, s, v⟩) := hL
      have HC6 := C6.new wr p m b q s v 25
      have HRT := ((hc.later hB).later ((Below.refl _ _).alloc (Nat.le_refl _) (Obj.cells #[Value.int IntKind.i64 p, Value.int IntKind.i64 m, Value.int IntKind.i64 b, Value.int IntKind.i64 q, Value.int IntKind.i64 s, Value.int IntKind.i64 v] 25))).take k
      have HTL : Hid ((L.take k).length = k) := by show (L.take k).length = k; simp; omega
      have hk2 : k ≤ cap := by omega
      clear hL hB
      by_cases ho : ruN p m b q s v = 0
      · go_wp2_with fail
        refine (ruCheck_any _ _ _ _ _ _ _).mono ?_
        rintro e w1 ⟨rfl, hb1⟩
        rw [no_ok ho]
        have HB1 := HB.out.trans (((Below.refl _ _).alloc (Nat.le_refl _) _).trans (hb1.mono (by simp)) |>.mono HB.out.size)
        have HC7 := HC6.later hb1
        have HR7 := HRT.later hb1
        clear hb1 HC6 HRT
        cases ho2 : (L.take k).any (fun a => keyB a ⟨p, m, b, q, s, v⟩)
        · go_wp2_with fail
          refine (containsR_any _ _ _ k _ ⟨p, m, b, q, s, v⟩ (L.take k) _ HR7 HTL.out (by unfold maxLen; omega) (by unfold maxLen; omega) HC7).mono ?_
          rintro e w2 ⟨rfl, hb2⟩
          rw [ho2]
          have HB2 := HB1.trans (hb2.mono HB1.size)
          clear hb2
          go_wp2
          go_roundw
          case rel => exact ⟨k + 1, by omega, by go_num, to_next hkl HL.out HNO.out ho ho2, HB2⟩
          case measure => simp [intOf]; omega
        · go_wp2_with fail
          refine (containsR_any _ _ _ k _ ⟨p, m, b, q, s, v⟩ (L.take k) _ HR7 HTL.out (by unfold maxLen; omega) (by unfold maxLen; omega) HC7).mono ?_
          rintro e w2 ⟨rfl, hb2⟩
          rw [ho2]
          have HB2 := HB1.trans (hb2.mono HB1.size)
          clear hb2
          go_wp2
          go_ret
          refine ⟨?_, HB2⟩
          rw [tb_at (by rw [HN.out]; exact hl) hkl (to_clash hkl HL.out HNO.out ho ho2) (by decide)]
          rfl
      · go_wp2_with fail
        refine (ruCheck_any _ _ _ _ _ _ _).mono ?_
        rintro e w1 ⟨rfl, hb1⟩
        rw [no_ne ho]
        have HB1 := HB.out.trans (((Below.refl _ _).alloc (Nat.le_refl _) _).trans (hb1.mono (by simp)) |>.mono HB.out.size)
        clear hb1
        go_wp2
        go_ret
        refine ⟨?_, HB1⟩
        rw [tb_at (by rw [HN.out]; exact hl) hkl (to_bad hkl HL.out HNO.out ho) ho, no_ne (show Ru.n ⟨p, m, b, q, s, v⟩ ≠ 0 from ho)]
        rfl
    · obtain rfl : k = n := by omega
      go_wp2
      go_ret
      refine ⟨?_, HB.out⟩
      have e1 : tbN L = 0 := by
        rw [tbN, if_neg (by rw [HN.out]; omega), HN.out]
        exact HNO.out
      rw [e1]
      rfl

set_option maxHeartbeats 1000000 in
theorem table_long (ao : Option Addr) (cap n : Nat) (w : World) (hl : 12 < n) :
    Calls Tryd.prog 15 #[.slice ao n cap] w fun e w' => e = .returned (.iface 40 (.int .i64 4)) ∧ Below w.heap.size w w' := by
  go_enter Tryd.func15, Tryd.ntmps15
  go_wp2
  go_ret
  exact ⟨rfl, Below.refl _ _⟩

set_option maxHeartbeats 1000000 in
theorem table_nil (ao : Option Addr) (cap : Nat) (w : World) :
    Calls Tryd.prog 15 #[.slice ao 0 cap] w fun e w' => e = .returned .nilIface ∧ Below w.heap.size w w' := by
  go_enter Tryd.func15, Tryd.ntmps15
  go_wp2
  go_loopw [12] (fun i wr => i = .int .i64 0 ∧ wr = w) (fun i _ => 0)
  case atStart => exact ⟨rfl, rfl⟩
  case round =>
    obtain ⟨rfl, rfl⟩ := hrel
    go_wp2
    go_ret
    exact ⟨rfl, Below.refl _ _⟩

theorem table_any (v : Value) (L : List Ru) (w : World) (h : SR w v L) :
    Calls Tryd.prog 15 #[v] w fun e w' => e = .returned (noV (tbN L)) ∧ Below w.heap.size w w' := by
  rcases h with ⟨ao, cap, rfl, rfl⟩ | ⟨g, o, cap, rfl, h1, h2, hc⟩
  · exact table_nil ao cap w
  · by_cases h12 : 12 < L.length
    · rw [tb_long h12]; exact table_long _ _ _ _ h12
    · exact table_some _ _ _ _ L w hc rfl (by omega) h1 h2
end Go.Proofs.YtpbfgfphcjmcbaaDoor
