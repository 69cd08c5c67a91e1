/- The walk of TableFull: it answers true, whatever two numbers it is called with. -/
import Derived.Test.YtmoengelklnbeabDoorTableDo2
import Derived.Test.YtmoengelklnbeabDoorTableFullMath
import Derived.Test.YtmoengelklnbeabDoorAsErr2
namespace Go.Proofs.YtmoengelklnbeabDoor.tableFull
open Go.RowKit
set_option linter.unusedSimpArgs false
set_option linter.unusedVariables false

set_option maxRecDepth 100000 in
set_option maxHeartbeats 4000000 in
theorem walk (n t : Int) (w : World) (hg : HasErr w) :
    Calls Tryd.prog 4 #[.int .i64 n, .int .i64 t] w fun e w' => e = .returned (.bool true) ∧ Below w.heap.size w w' := by
  have HG : Hid (HasErr w) := hg
  clear hg
  by_cases h0 : n < 0
  · have e1 : decide (n < 0) = true := by simpa using h0
    go_enter Tryd.func4, Tryd.ntmps4
    go_wp2
    go_ret
    exact ⟨rfl, Below.refl _ _⟩
  · have e1 : decide (n < 0) = false := by simpa using h0
    by_cases h15 : 15 < n
    · have e2 : decide (15 < n) = true := by simpa using h15
      go_enter Tryd.func4, Tryd.ntmps4
      go_wp2
      go_ret
      exact ⟨rfl, Below.refl _ _⟩
    · have e2 : decide (15 < n) = false := by simpa using h15
      obtain ⟨N, rfl⟩ : ∃ N : Nat, n = (N : Int) := ⟨n.toNat, by omega⟩
      have hN : N ≤ 15 := by omega
      go_enter Tryd.func4, Tryd.ntmps4
      go_upto_block 0 with fail
      go_cut [5] from 5 (fun u w' => (∃ ao m cap, u = .slice ao m cap ∧ SR w' (.slice ao m cap) (tabI (min N 12))) ∧ Below w.heap.size w w')
      case first =>
        go_wp2
        go_loopw [5, 6] (fun u i wr => ∃ k : Nat, k ≤ N ∧ i = .int .i64 k ∧ (∃ ao m cap, u = .slice ao m cap ∧ SR wr (.slice ao m cap) (tabI (min k 12))) ∧ Below w.heap.size w wr) (fun _ i _ => N - (intOf i).toNat)
        case atStart => exact ⟨0, by omega, rfl, ⟨none, 0, 0, rfl, SR.nil _⟩, Below.refl _ _⟩
        case round =>
          obtain ⟨k, hk, rfl, ⟨ao, m, cap, rfl, hs⟩, hB⟩ := hrel
          have HB : Hid (Below w.heap.size w wr) := hB
          have HGR : Hid (HasErr wr) := HG.out.later hB
          have HS : Hid (SR wr (.slice ao m cap) (tabI (min k 12))) := hs
          clear hB hs
          by_cases hlt : k < N
          · by_cases h12 : k < 12
            · have HM : Hid (min k 12 = k) := by show min k 12 = k; omega
              have HM2 : Hid (min (k + 1) 12 = k + 1) := by show min (k + 1) 12 = k + 1; omega
              rw [HM.out] at HS
              have k12 : decide ((k : Int) < 12) = true := by simp; omega
              go_wp2_with fail
              refine (do_any ao m cap true (k : Int) 0 0 1 0 0 (tabI k) _ HS.out).mono ?_
              rintro e w1 ⟨x, rfl, hx, hb1⟩
              rw [no_ok (show doN (tabI k) true ⟨(k : Int), 0, 0, 1, 0, 0⟩ = 0 from (full_add h12).1)]
              obtain ⟨ao2, m2, cap2, rfl, _⟩ := hx.form
              have HX : Hid (SR w1 (.slice ao2 m2 cap2) (tabI (k + 1))) := by
                have e3 : doL (tabI k) true ⟨(k : Int), 0, 0, 1, 0, 0⟩ = tabI (k + 1) := (full_add h12).2
                rw [e3] at hx
                exact hx
              have HB1 : Hid (Below w.heap.size w w1) := HB.out.trans (hb1.mono HB.out.size)
              clear hb1 hx
              go_wp2_with fail
              refine (same_nil _ _).mono ?_
              rintro e w2 ⟨rfl, hb2⟩
              rw [show ((0 : Int) == 4) = false from rfl]
              have HB2 : Hid (Below w.heap.size w w2) := HB1.out.trans (hb2.mono HB1.out.size)
              have HX2 : Hid (SR w2 (.slice ao2 m2 cap2) (tabI (min (k + 1) 12))) := by
                rw [HM2.out]
                exact HX.out.later hb2
              clear hb2
              go_wp2
              go_roundw
              case rel => exact ⟨k + 1, by omega, by go_num, ⟨_, _, _, rfl, HX2.out⟩, HB2.out⟩
              case measure => simp [intOf]; omega
            · have HM : Hid (min k 12 = 12) := by show min k 12 = 12; omega
              have HM2 : Hid (min (k + 1) 12 = 12) := by show min (k + 1) 12 = 12; omega
              rw [HM.out] at HS
              have k12 : decide ((k : Int) < 12) = false := by simp; omega
              have k13 : decide ((12 : Int) ≤ (k : Int)) = true := by simp; omega
              have H4 : Hid (doN (tabI 12) true ⟨(k : Int), 0, 0, 1, 0, 0⟩ = 4) := full_no (by omega) (by omega)
              go_wp2_with fail
              refine (do_any ao m cap true (k : Int) 0 0 1 0 0 (tabI 12) _ HS.out).mono ?_
              rintro e w1 ⟨x, rfl, hx, hb1⟩
              rw [H4.out, no_ne (by decide)]
              have HB1 : Hid (Below w.heap.size w w1) := HB.out.trans (hb1.mono HB.out.size)
              have HG1 : Hid (HasErr w1) := HG.out.later HB1.out
              have HS1 : Hid (SR w1 (.slice ao m cap) (tabI 12)) := HS.out.later hb1
              clear hb1 hx
              go_wp2_with fail
              refine (same_some _ _ _ HG1.out).mono ?_
              rintro e w2 ⟨rfl, hb2⟩
              rw [show ((4 : Int) == 4) = true from rfl]
              have HB2 : Hid (Below w.heap.size w w2) := HB1.out.trans (hb2.mono HB1.out.size)
              have HX2 : Hid (SR w2 (.slice ao m cap) (tabI (min (k + 1) 12))) := by
                rw [HM2.out]
                exact HS1.out.later hb2
              clear hb2
              go_wp2
              go_roundw
              case rel => exact ⟨k + 1, by omega, by go_num, ⟨_, _, _, rfl, HX2.out⟩, HB2.out⟩
              case measure => simp [intOf]; omega
          · obtain rfl : k = N := by omega
            go_wp2_with fail
            go_meet
            case rel => exact ⟨⟨_, _, _, rfl, HS.out⟩, HB.out⟩
      case rest =>
        obtain ⟨⟨ao, m, cap, rfl, hs⟩, hB⟩ := hcut
        have hlen : min N 12 = m := by
          have := hs.len
          rw [tabI_len] at this
          exact this
        rw [hlen] at hs
        have hm12 : m ≤ 12 := by omega
        have HB : Hid (Below w.heap.size w wc) := hB
        have HS : Hid (SR wc (.slice ao m cap) (tabI m)) := hs
        by_cases ht0 : t < 0
        · have e3 : decide (t < 0) = true := by simpa using ht0
          clear hs hB
          go_wp2
          go_ret
          exact ⟨rfl, HB.out⟩
        · have e3 : decide (t < 0) = false := by simpa using ht0
          obtain ⟨j, rfl⟩ : ∃ j : Nat, t = (j : Int) := ⟨t.toNat, by omega⟩
          by_cases hj : j < m
          · have e4 : decide ((m : Int) ≤ (j : Int)) = false := by simp; omega
            obtain ⟨ao', m', cap', e, _, _, _, ha⟩ := hs.form
            cases e
            obtain ⟨g, og, rfl, hRA, hcm⟩ := ha (by omega)
            obtain ⟨p, q, b, o, s, v, hjl, hL, q0, q1, q2, q3, q4, q5⟩ := hRA.at (tabI_len m) hj
            rw [tabI_at] at hL
            simp only [ruI, Ru.mk.injEq] at hL
            obtain ⟨rfl, rfl, rfl, rfl, rfl, rfl⟩ := hL
            obtain ⟨F1, F2, F3⟩ := full_take hm12 hj
            have H1 : Hid (doN (tabI m) false ⟨(j : Int), 0, 0, 1, 0, 0⟩ = 0) := F1
            have H2 : Hid ((doL (tabI m) false ⟨(j : Int), 0, 0, 1, 0, 0⟩).length + 1 = m) := F2
            have H3 : Hid (doN (doL (tabI m) false ⟨(j : Int), 0, 0, 1, 0, 0⟩) false ⟨(j : Int), 0, 0, 1, 0, 0⟩ = 5) := F3
            have HRA : Hid (RAt wc g og (tabI m)) := hRA
            clear F1 F2 F3 hs hB hRA hcm ha
            go_wp2_with fail
            refine (do_any _ m cap false (j : Int) 0 0 1 0 0 (tabI m) _ HS.out).mono ?_
            rintro e w1 ⟨x, rfl, hx, hb1⟩
            rw [H1.out, no_ok rfl]
            obtain ⟨ao2, m2, cap2, rfl, hm2, _⟩ := hx.form
            generalize doL (tabI m) false ⟨(j : Int), 0, 0, 1, 0, 0⟩ = X at *
            have HX : Hid (SR w1 (.slice ao2 m2 cap2) X) := hx
            have HB1 : Hid (Below w.heap.size w w1) := HB.out.trans (hb1.mono HB.out.size)
            have HG1 : Hid (HasErr w1) := HG.out.later HB1.out
            have hm3 : m2 + 1 = m := by
              have := H2.out
              rw [hm2] at this
              exact this
            obtain ⟨p, q, b, o, s, v, hjl, hL, r0, r1, r2, r3, r4, r5⟩ := (HRA.out.later hb1).at (tabI_len m) hj
            rw [tabI_at] at hL
            simp only [ruI, Ru.mk.injEq] at hL
            obtain ⟨rfl, rfl, rfl, rfl, rfl, rfl⟩ := hL
            clear hb1 hx hm2 q0 q1 q2 q3 q4 q5
            go_wp2_with fail
            refine (do_any ao2 m2 cap2 false (j : Int) 0 0 1 0 0 X _ HX.out).mono ?_
            rintro e w2 ⟨y, rfl, hy, hb2⟩
            rw [H3.out, no_ne (by decide)]
            have HB2 : Hid (Below w.heap.size w w2) := HB1.out.trans (hb2.mono HB1.out.size)
            have HG2 : Hid (HasErr w2) := HG.out.later HB2.out
            clear hb2 hy r0 r1 r2 r3 r4 r5
            go_wp2_with fail
            refine (same_some _ _ _ HG2.out).mono ?_
            rintro e w3 ⟨rfl, hb3⟩
            rw [show ((5 : Int) == 5) = true from rfl]
            have HB3 : Hid (Below w.heap.size w w3) := HB2.out.trans (hb3.mono HB2.out.size)
            have e5 : IntKind.i64.wrap ((m : Int) - 1) = (m2 : Int) := by rw [IntKind.wrap_i64]; omega
            clear hb3
            go_wp2
            go_ret
            exact ⟨rfl, HB3.out⟩
          · have e4 : decide ((m : Int) ≤ (j : Int)) = true := by simp; omega
            clear hs hB
            go_wp2
            go_ret
            exact ⟨rfl, HB.out⟩
end Go.Proofs.YtmoengelklnbeabDoor.tableFull
