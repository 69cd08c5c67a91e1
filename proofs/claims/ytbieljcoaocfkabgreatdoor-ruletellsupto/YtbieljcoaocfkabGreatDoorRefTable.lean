/- What the document's own Table answers, called with any table. -/
import Derived.Test.YtbieljcoaocfkabGreatDoorRefRule
import Derived.Test.YtbieljcoaocfkabGreatDoorRefFind
namespace Go.Proofs.YtbieljcoaocfkabGreatDoor
open Go.RowKit
set_option linter.unusedSimpArgs false

theorem to_badF {L : List Ru} {k : Nat} {r : Ru} (hk : k < L.length) (hr : L[k] = r) (h : tbTo L k = 0) (h2 : r.n ≠ 0) (h12 : L.length ≤ 12) : tbN L = r.n := by
  have e : tbTo L (k + 1) = r.n := by rw [tbTo, if_pos h, getD_at hk, hr, if_neg h2]
  rw [tbN, if_neg (by omega), ← e]
  exact to_le (by rw [e]; exact h2) hk
theorem to_clashF {L : List Ru} {k : Nat} {r : Ru} (hk : k < L.length) (hr : L[k] = r) (h : tbTo L k = 0) (h2 : r.n = 0) (h3 : (L.take k).any (fun a => keyB a r) = true) (h12 : L.length ≤ 12) : tbN L = 7 := by
  have e : tbTo L (k + 1) = 7 := by
    rw [tbTo, if_pos h, getD_at hk, hr, if_pos h2, h3]
    rfl
  rw [tbN, if_neg (by omega), ← e]
  exact to_le (by rw [e]; decide) hk
theorem to_nextF {L : List Ru} {k : Nat} {r : Ru} (hk : k < L.length) (hr : L[k] = r) (h : tbTo L k = 0) (h2 : r.n = 0) (h3 : (L.take k).any (fun a => keyB a r) = false) : tbTo L (k + 1) = 0 := by
  rw [tbTo, if_pos h, getD_at hk, hr, if_pos h2, h3]
  rfl
theorem tab_take {L : List Ru} {f : Ru → Bool} {q k : Nat} (hq : q < k) (hk : q < L.length) (h : f L[q] = true) : (L.take k).any f = true :=
  List.any_eq_true.2 ⟨_, List.mem_take_iff_getElem.2 ⟨q, by omega, rfl⟩, h⟩

set_option maxRecDepth 100000 in
set_option maxHeartbeats 4000000 in
theorem refTable_some (g o cap n : Nat) (L : List Ru) (w : World) (hc : RAt w g o L) (hn : L.length = n) (hl : n ≤ 12) :
    Calls Tryz.prog 15 #[.slice (some ⟨g, o, none⟩) n cap] w fun e w' => e = .returned (.int .i64 (tbN L)) ∧ Below w.heap.size w w' := by
  have HN : Hid (L.length = n) := hn
  clear hn
  go_enter Tryz.func15, Tryz.ntmps15
  go_wp2
  go_loopw [3] (fun i wr => ∃ k : Nat, k ≤ n ∧ i = .int .i64 k ∧ tbTo L k = 0 ∧ Below w.heap.size w wr) (fun i _ => n - (intOf i).toNat)
  case atStart => exact ⟨0, by omega, rfl, rfl, Below.refl _ _⟩
  case round =>
    obtain ⟨k, hk, rfl, hno, hB⟩ := hrel
    have HB : Hid (Below w.heap.size w wr) := hB
    have HNO : Hid (tbTo L k = 0) := hno
    clear hno
    by_cases hlt : k < n
    · obtain ⟨p, m, b, q, s, v, hkl, hL, q0, q1, q2, q3, q4, q5⟩ := (hc.later hB).at HN.out hlt
      have HL : Hid (L[k] = ⟨p, m, b, q, s, v⟩) := hL
      clear hL hB
      by_cases ho : ruN p m b q s v = 0
      · have HO : Hid (ruN p m b q s v = 0) := ho
        go_wp2_with fail
        refine (refRule_any _ _ _ _ _ _ _).mono ?_
        rintro e w1 ⟨rfl, hb1⟩
        rw [HO.out]
        have HB1 : Hid (Below w.heap.size w w1) := HB.out.trans (hb1.mono HB.out.size)
        clear hb1 q0 q1 q2 q3 q4 q5 ho
        go_wp2
        go_loopw [5] (fun j w2 => ∃ t : Nat, t ≤ k ∧ j = .int .i64 t ∧ (L.take t).any (fun a => keyB a ⟨p, m, b, q, s, v⟩) = false ∧ Below w.heap.size w w2) (fun j _ => k - (intOf j).toNat)
        case atStart => exact ⟨0, by omega, rfl, by simp, HB1.out⟩
        case round =>
          obtain ⟨t, ht, rfl, hany, hB2⟩ := hrel
          have HANY : Hid ((L.take t).any (fun a => keyB a ⟨p, m, b, q, s, v⟩) = false) := hany
          have HB2 : Hid (Below w.heap.size w wr) := hB2
          clear hany
          by_cases hq : t < k
          · obtain ⟨p4, m4, b4, o4, s4, v4, htl, hLt, y0, y1, y2, y3, y4, y5⟩ := (hc.later hB2).at HN.out (show t < n by omega)
            obtain ⟨p5, m5, b5, o5, s5, v5, _, hLk, r0, r1, r2, r3, r4, r5⟩ := (hc.later hB2).at HN.out hlt
            rw [HL.out] at hLk
            simp only [Ru.mk.injEq] at hLk
            obtain ⟨rfl, rfl, rfl, rfl, rfl, rfl⟩ := hLk
            have HLT : Hid (L[t] = ⟨p4, m4, b4, o4, s4, v4⟩) := hLt
            have HCE : Hid (CD w g (o + t * 6) p4 m4 b4 o4 s4 v4 g (o + k * 6) p m b q s v wr) := ⟨hB2, ⟨y0, y1, y2, y3, y4, y5⟩, r0, r1, r2, r3, r4, r5⟩
            clear y0 y1 y2 y3 y4 y5 r0 r1 r2 r3 r4 r5 hLt hB2
            go_upto_region 12 with fail
            have tb0 : (0 : Int) ≤ (t : Int) := by omega
            have tb1 : (t : Int) < (n : Int) := by omega
            have kb0 : (0 : Int) ≤ (k : Int) := by omega
            have kb1 : (k : Int) < (n : Int) := by omega
            go_cut [51] from 23 to 51 (fun c w' => c = .bool (keyB ⟨p4, m4, b4, o4, s4, v4⟩ ⟨p, m, b, q, s, v⟩) ∧ Below w.heap.size w w')
            case first =>
              as_aux_lemma =>
                by_cases e1 : p4 = p
                · have f1 : (p4 == p) = true := by simpa using e1
                  by_cases e2 : m4 = m ∧ b4 = b
                  · obtain ⟨e2, e3⟩ := e2
                    have hky : keyB ⟨p4, m4, b4, o4, s4, v4⟩ ⟨p, m, b, q, s, v⟩ = true := by rw [key_eq]; simp [e1, e2, e3]
                    have f2 : (m4 == m) = true := by simpa using e2
                    have f3 : (b4 == b) = true := by simpa using e3
                    have hC0 := HCE.out
                    clear e1 e2 e3
                    refine wp_region_quiet (C := CD w g (o + t * 6) p4 m4 b4 o4 s4 v4 g (o + k * 6) p m b q s v) (by kernel_rfl) (by kernel_rfl) (CD.later (W := wr) (Below.drew (Below.refl _ _)) hC0) ?_
                    simp only [List.toList_toArray]
                    go_big_quiet_want
                    refine quiet_val (v := .slice (some ⟨g, o, none⟩) n cap) (fun w' hC => ?_) ?_
                    · obtain ⟨z0, ⟨z1, z2, z3, z4, z5, z6⟩, y1, y2, y3, y4, y5, y6⟩ := hC
                      go_simp
                    simp only [Act.put, List.setIfInBounds_toArray, List.set_cons_zero, List.set_cons_succ]
                    go_big_quiet_on
                    go_big_quiet_want
                    refine quiet_val (v := .int .i64 (t : Int)) (fun w' hC => ?_) ?_
                    · obtain ⟨z0, ⟨z1, z2, z3, z4, z5, z6⟩, y1, y2, y3, y4, y5, y6⟩ := hC
                      go_simp
                    simp only [Act.put, List.setIfInBounds_toArray, List.set_cons_zero, List.set_cons_succ]
                    go_big_quiet_on
                    go_big_quiet_want
                    refine quiet_val (v := .pointer (some ⟨g, o + t * 6, none⟩)) (fun w' hC => ?_) ?_
                    · obtain ⟨z0, ⟨z1, z2, z3, z4, z5, z6⟩, y1, y2, y3, y4, y5, y6⟩ := hC
                      go_simp
                    simp only [Act.put, List.setIfInBounds_toArray, List.set_cons_zero, List.set_cons_succ]
                    go_big_quiet_on
                    go_big_quiet_want
                    refine quiet_val (v := .pointer (some ⟨g, o + t * 6, none⟩)) (fun w' hC => ?_) ?_
                    · obtain ⟨z0, ⟨z1, z2, z3, z4, z5, z6⟩, y1, y2, y3, y4, y5, y6⟩ := hC
                      go_simp
                    simp only [Act.put, List.setIfInBounds_toArray, List.set_cons_zero, List.set_cons_succ]
                    go_big_quiet_on
                    go_big_quiet_want
                    refine quiet_val (v := .int .i64 p4) (fun w' hC => ?_) ?_
                    · obtain ⟨z0, ⟨z1, z2, z3, z4, z5, z6⟩, y1, y2, y3, y4, y5, y6⟩ := hC
                      go_simp
                    simp only [Act.put, List.setIfInBounds_toArray, List.set_cons_zero, List.set_cons_succ]
                    go_big_quiet_on
                    go_big_quiet_want
                    refine quiet_val (v := .slice (some ⟨g, o, none⟩) n cap) (fun w' hC => ?_) ?_
                    · obtain ⟨z0, ⟨z1, z2, z3, z4, z5, z6⟩, y1, y2, y3, y4, y5, y6⟩ := hC
                      go_simp
                    simp only [Act.put, List.setIfInBounds_toArray, List.set_cons_zero, List.set_cons_succ]
                    go_big_quiet_on
                    go_big_quiet_want
                    refine quiet_val (v := .int .i64 (k : Int)) (fun w' hC => ?_) ?_
                    · obtain ⟨z0, ⟨z1, z2, z3, z4, z5, z6⟩, y1, y2, y3, y4, y5, y6⟩ := hC
                      go_simp
                    simp only [Act.put, List.setIfInBounds_toArray, List.set_cons_zero, List.set_cons_succ]
                    go_big_quiet_on
                    go_big_quiet_want
                    refine quiet_val (v := .pointer (some ⟨g, o + k * 6, none⟩)) (fun w' hC => ?_) ?_
                    · obtain ⟨z0, ⟨z1, z2, z3, z4, z5, z6⟩, y1, y2, y3, y4, y5, y6⟩ := hC
                      go_simp
                    simp only [Act.put, List.setIfInBounds_toArray, List.set_cons_zero, List.set_cons_succ]
                    go_big_quiet_on
                    go_big_quiet_want
                    refine quiet_val (v := .pointer (some ⟨g, o + k * 6, none⟩)) (fun w' hC => ?_) ?_
                    · obtain ⟨z0, ⟨z1, z2, z3, z4, z5, z6⟩, y1, y2, y3, y4, y5, y6⟩ := hC
                      go_simp
                    simp only [Act.put, List.setIfInBounds_toArray, List.set_cons_zero, List.set_cons_succ]
                    go_big_quiet_on
                    go_big_quiet_want
                    refine quiet_val (v := .int .i64 p) (fun w' hC => ?_) ?_
                    · obtain ⟨z0, ⟨z1, z2, z3, z4, z5, z6⟩, y1, y2, y3, y4, y5, y6⟩ := hC
                      go_simp
                    simp only [Act.put, List.setIfInBounds_toArray, List.set_cons_zero, List.set_cons_succ]
                    go_big_quiet_on
                    go_big_quiet_want
                    refine quiet_val (v := .bool true) (fun w' hC => ?_) ?_
                    · obtain ⟨z0, ⟨z1, z2, z3, z4, z5, z6⟩, y1, y2, y3, y4, y5, y6⟩ := hC
                      go_simp
                    simp only [Act.put, List.setIfInBounds_toArray, List.set_cons_zero, List.set_cons_succ]
                    go_big_quiet_on
                    go_big_quiet_want
                    refine quiet_val (v := .bool true) (fun w' hC => ?_) ?_
                    · obtain ⟨z0, ⟨z1, z2, z3, z4, z5, z6⟩, y1, y2, y3, y4, y5, y6⟩ := hC
                      go_simp
                    simp only [Act.put, List.setIfInBounds_toArray, List.set_cons_zero, List.set_cons_succ]
                    go_big_quiet_on
                    go_big_quiet_want
                    refine quiet_val (v := .slice (some ⟨g, o, none⟩) n cap) (fun w' hC => ?_) ?_
                    · obtain ⟨z0, ⟨z1, z2, z3, z4, z5, z6⟩, y1, y2, y3, y4, y5, y6⟩ := hC
                      go_simp
                    simp only [Act.put, List.setIfInBounds_toArray, List.set_cons_zero, List.set_cons_succ]
                    go_big_quiet_on
                    go_big_quiet_want
                    refine quiet_val (v := .int .i64 (t : Int)) (fun w' hC => ?_) ?_
                    · obtain ⟨z0, ⟨z1, z2, z3, z4, z5, z6⟩, y1, y2, y3, y4, y5, y6⟩ := hC
                      go_simp
                    simp only [Act.put, List.setIfInBounds_toArray, List.set_cons_zero, List.set_cons_succ]
                    go_big_quiet_on
                    go_big_quiet_want
                    refine quiet_val (v := .pointer (some ⟨g, o + t * 6, none⟩)) (fun w' hC => ?_) ?_
                    · obtain ⟨z0, ⟨z1, z2, z3, z4, z5, z6⟩, y1, y2, y3, y4, y5, y6⟩ := hC
                      go_simp
                    simp only [Act.put, List.setIfInBounds_toArray, List.set_cons_zero, List.set_cons_succ]
                    go_big_quiet_on
                    go_big_quiet_want
                    refine quiet_val (v := .pointer (some ⟨g, o + t * 6 + 1, none⟩)) (fun w' hC => ?_) ?_
                    · obtain ⟨z0, ⟨z1, z2, z3, z4, z5, z6⟩, y1, y2, y3, y4, y5, y6⟩ := hC
                      go_simp
                    simp only [Act.put, List.setIfInBounds_toArray, List.set_cons_zero, List.set_cons_succ]
                    go_big_quiet_on
                    go_big_quiet_want
                    refine quiet_val (v := .agg #[.int .i64 m4, .int .i64 b4]) (fun w' hC => ?_) ?_
                    · obtain ⟨z0, ⟨z1, z2, z3, z4, z5, z6⟩, y1, y2, y3, y4, y5, y6⟩ := hC
                      go_simp
                    simp only [Act.put, List.setIfInBounds_toArray, List.set_cons_zero, List.set_cons_succ]
                    go_big_quiet_on
                    go_big_quiet_want
                    refine quiet_val (v := .slice (some ⟨g, o, none⟩) n cap) (fun w' hC => ?_) ?_
                    · obtain ⟨z0, ⟨z1, z2, z3, z4, z5, z6⟩, y1, y2, y3, y4, y5, y6⟩ := hC
                      go_simp
                    simp only [Act.put, List.setIfInBounds_toArray, List.set_cons_zero, List.set_cons_succ]
                    go_big_quiet_on
                    go_big_quiet_want
                    refine quiet_val (v := .int .i64 (k : Int)) (fun w' hC => ?_) ?_
                    · obtain ⟨z0, ⟨z1, z2, z3, z4, z5, z6⟩, y1, y2, y3, y4, y5, y6⟩ := hC
                      go_simp
                    simp only [Act.put, List.setIfInBounds_toArray, List.set_cons_zero, List.set_cons_succ]
                    go_big_quiet_on
                    go_big_quiet_want
                    refine quiet_val (v := .pointer (some ⟨g, o + k * 6, none⟩)) (fun w' hC => ?_) ?_
                    · obtain ⟨z0, ⟨z1, z2, z3, z4, z5, z6⟩, y1, y2, y3, y4, y5, y6⟩ := hC
                      go_simp
                    simp only [Act.put, List.setIfInBounds_toArray, List.set_cons_zero, List.set_cons_succ]
                    go_big_quiet_on
                    go_big_quiet_want
                    refine quiet_val (v := .pointer (some ⟨g, o + k * 6 + 1, none⟩)) (fun w' hC => ?_) ?_
                    · obtain ⟨z0, ⟨z1, z2, z3, z4, z5, z6⟩, y1, y2, y3, y4, y5, y6⟩ := hC
                      go_simp
                    simp only [Act.put, List.setIfInBounds_toArray, List.set_cons_zero, List.set_cons_succ]
                    go_big_quiet_on
                    go_big_quiet_want
                    refine quiet_val (v := .agg #[.int .i64 m, .int .i64 b]) (fun w' hC => ?_) ?_
                    · obtain ⟨z0, ⟨z1, z2, z3, z4, z5, z6⟩, y1, y2, y3, y4, y5, y6⟩ := hC
                      go_simp
                    simp only [Act.put, List.setIfInBounds_toArray, List.set_cons_zero, List.set_cons_succ]
                    go_big_quiet_on
                    go_big_quiet_want
                    refine quiet_val (v := .bool true) (fun w' hC => ?_) ?_
                    · obtain ⟨z0, ⟨z1, z2, z3, z4, z5, z6⟩, y1, y2, y3, y4, y5, y6⟩ := hC
                      go_simp
                    simp only [Act.put, List.setIfInBounds_toArray, List.set_cons_zero, List.set_cons_succ]
                    go_big_quiet_on
                    go_big_quiet_want
                    refine quiet_val (v := .bool true) (fun w' hC => ?_) ?_
                    · obtain ⟨z0, ⟨z1, z2, z3, z4, z5, z6⟩, y1, y2, y3, y4, y5, y6⟩ := hC
                      go_simp
                    simp only [Act.put, List.setIfInBounds_toArray, List.set_cons_zero, List.set_cons_succ]
                    go_big_quiet_on
                    refine wpQuiet_nil ?_
                    intro w' hC
                    go_wp2_with fail
                    go_meet
                    case rel => exact ⟨by rw [hky], hC.1⟩
                  · have hky : keyB ⟨p4, m4, b4, o4, s4, v4⟩ ⟨p, m, b, q, s, v⟩ = false := by
                      rw [key_eq]
                      simp only [e1, decide_true, Bool.true_and, Bool.and_eq_false_iff, decide_eq_false_iff_not]
                      by_cases e3 : m4 = m
                      · exact .inr fun e4 => e2 ⟨e3, e4⟩
                      · exact .inl e3
                    by_cases e3 : m4 = m
                    · have f3 : ¬ b4 = b := fun e4 => e2 ⟨e3, e4⟩
                      have f2 : (m4 == m) = true := by simpa using e3
                      have f4 : (b4 == b) = false := by simpa using f3
                      clear e2
                      have hC0 := HCE.out
                      clear e1
                      refine wp_region_quiet (C := CD w g (o + t * 6) p4 m4 b4 o4 s4 v4 g (o + k * 6) p m b q s v) (by kernel_rfl) (by kernel_rfl) (CD.later (W := wr) (Below.drew (Below.refl _ _)) hC0) ?_
                      simp only [List.toList_toArray]
                      go_big_quiet_want
                      refine quiet_val (v := .slice (some ⟨g, o, none⟩) n cap) (fun w' hC => ?_) ?_
                      · obtain ⟨z0, ⟨z1, z2, z3, z4, z5, z6⟩, y1, y2, y3, y4, y5, y6⟩ := hC
                        go_simp
                      simp only [Act.put, List.setIfInBounds_toArray, List.set_cons_zero, List.set_cons_succ]
                      go_big_quiet_on
                      go_big_quiet_want
                      refine quiet_val (v := .int .i64 (t : Int)) (fun w' hC => ?_) ?_
                      · obtain ⟨z0, ⟨z1, z2, z3, z4, z5, z6⟩, y1, y2, y3, y4, y5, y6⟩ := hC
                        go_simp
                      simp only [Act.put, List.setIfInBounds_toArray, List.set_cons_zero, List.set_cons_succ]
                      go_big_quiet_on
                      go_big_quiet_want
                      refine quiet_val (v := .pointer (some ⟨g, o + t * 6, none⟩)) (fun w' hC => ?_) ?_
                      · obtain ⟨z0, ⟨z1, z2, z3, z4, z5, z6⟩, y1, y2, y3, y4, y5, y6⟩ := hC
                        go_simp
                      simp only [Act.put, List.setIfInBounds_toArray, List.set_cons_zero, List.set_cons_succ]
                      go_big_quiet_on
                      go_big_quiet_want
                      refine quiet_val (v := .pointer (some ⟨g, o + t * 6, none⟩)) (fun w' hC => ?_) ?_
                      · obtain ⟨z0, ⟨z1, z2, z3, z4, z5, z6⟩, y1, y2, y3, y4, y5, y6⟩ := hC
                        go_simp
                      simp only [Act.put, List.setIfInBounds_toArray, List.set_cons_zero, List.set_cons_succ]
                      go_big_quiet_on
                      go_big_quiet_want
                      refine quiet_val (v := .int .i64 p4) (fun w' hC => ?_) ?_
                      · obtain ⟨z0, ⟨z1, z2, z3, z4, z5, z6⟩, y1, y2, y3, y4, y5, y6⟩ := hC
                        go_simp
                      simp only [Act.put, List.setIfInBounds_toArray, List.set_cons_zero, List.set_cons_succ]
                      go_big_quiet_on
                      go_big_quiet_want
                      refine quiet_val (v := .slice (some ⟨g, o, none⟩) n cap) (fun w' hC => ?_) ?_
                      · obtain ⟨z0, ⟨z1, z2, z3, z4, z5, z6⟩, y1, y2, y3, y4, y5, y6⟩ := hC
                        go_simp
                      simp only [Act.put, List.setIfInBounds_toArray, List.set_cons_zero, List.set_cons_succ]
                      go_big_quiet_on
                      go_big_quiet_want
                      refine quiet_val (v := .int .i64 (k : Int)) (fun w' hC => ?_) ?_
                      · obtain ⟨z0, ⟨z1, z2, z3, z4, z5, z6⟩, y1, y2, y3, y4, y5, y6⟩ := hC
                        go_simp
                      simp only [Act.put, List.setIfInBounds_toArray, List.set_cons_zero, List.set_cons_succ]
                      go_big_quiet_on
                      go_big_quiet_want
                      refine quiet_val (v := .pointer (some ⟨g, o + k * 6, none⟩)) (fun w' hC => ?_) ?_
                      · obtain ⟨z0, ⟨z1, z2, z3, z4, z5, z6⟩, y1, y2, y3, y4, y5, y6⟩ := hC
                        go_simp
                      simp only [Act.put, List.setIfInBounds_toArray, List.set_cons_zero, List.set_cons_succ]
                      go_big_quiet_on
                      go_big_quiet_want
                      refine quiet_val (v := .pointer (some ⟨g, o + k * 6, none⟩)) (fun w' hC => ?_) ?_
                      · obtain ⟨z0, ⟨z1, z2, z3, z4, z5, z6⟩, y1, y2, y3, y4, y5, y6⟩ := hC
                        go_simp
                      simp only [Act.put, List.setIfInBounds_toArray, List.set_cons_zero, List.set_cons_succ]
                      go_big_quiet_on
                      go_big_quiet_want
                      refine quiet_val (v := .int .i64 p) (fun w' hC => ?_) ?_
                      · obtain ⟨z0, ⟨z1, z2, z3, z4, z5, z6⟩, y1, y2, y3, y4, y5, y6⟩ := hC
                        go_simp
                      simp only [Act.put, List.setIfInBounds_toArray, List.set_cons_zero, List.set_cons_succ]
                      go_big_quiet_on
                      go_big_quiet_want
                      refine quiet_val (v := .bool true) (fun w' hC => ?_) ?_
                      · obtain ⟨z0, ⟨z1, z2, z3, z4, z5, z6⟩, y1, y2, y3, y4, y5, y6⟩ := hC
                        go_simp
                      simp only [Act.put, List.setIfInBounds_toArray, List.set_cons_zero, List.set_cons_succ]
                      go_big_quiet_on
                      go_big_quiet_want
                      refine quiet_val (v := .bool true) (fun w' hC => ?_) ?_
                      · obtain ⟨z0, ⟨z1, z2, z3, z4, z5, z6⟩, y1, y2, y3, y4, y5, y6⟩ := hC
                        go_simp
                      simp only [Act.put, List.setIfInBounds_toArray, List.set_cons_zero, List.set_cons_succ]
                      go_big_quiet_on
                      go_big_quiet_want
                      refine quiet_val (v := .slice (some ⟨g, o, none⟩) n cap) (fun w' hC => ?_) ?_
                      · obtain ⟨z0, ⟨z1, z2, z3, z4, z5, z6⟩, y1, y2, y3, y4, y5, y6⟩ := hC
                        go_simp
                      simp only [Act.put, List.setIfInBounds_toArray, List.set_cons_zero, List.set_cons_succ]
                      go_big_quiet_on
                      go_big_quiet_want
                      refine quiet_val (v := .int .i64 (t : Int)) (fun w' hC => ?_) ?_
                      · obtain ⟨z0, ⟨z1, z2, z3, z4, z5, z6⟩, y1, y2, y3, y4, y5, y6⟩ := hC
                        go_simp
                      simp only [Act.put, List.setIfInBounds_toArray, List.set_cons_zero, List.set_cons_succ]
                      go_big_quiet_on
                      go_big_quiet_want
                      refine quiet_val (v := .pointer (some ⟨g, o + t * 6, none⟩)) (fun w' hC => ?_) ?_
                      · obtain ⟨z0, ⟨z1, z2, z3, z4, z5, z6⟩, y1, y2, y3, y4, y5, y6⟩ := hC
                        go_simp
                      simp only [Act.put, List.setIfInBounds_toArray, List.set_cons_zero, List.set_cons_succ]
                      go_big_quiet_on
                      go_big_quiet_want
                      refine quiet_val (v := .pointer (some ⟨g, o + t * 6 + 1, none⟩)) (fun w' hC => ?_) ?_
                      · obtain ⟨z0, ⟨z1, z2, z3, z4, z5, z6⟩, y1, y2, y3, y4, y5, y6⟩ := hC
                        go_simp
                      simp only [Act.put, List.setIfInBounds_toArray, List.set_cons_zero, List.set_cons_succ]
                      go_big_quiet_on
                      go_big_quiet_want
                      refine quiet_val (v := .agg #[.int .i64 m4, .int .i64 b4]) (fun w' hC => ?_) ?_
                      · obtain ⟨z0, ⟨z1, z2, z3, z4, z5, z6⟩, y1, y2, y3, y4, y5, y6⟩ := hC
                        go_simp
                      simp only [Act.put, List.setIfInBounds_toArray, List.set_cons_zero, List.set_cons_succ]
                      go_big_quiet_on
                      go_big_quiet_want
                      refine quiet_val (v := .slice (some ⟨g, o, none⟩) n cap) (fun w' hC => ?_) ?_
                      · obtain ⟨z0, ⟨z1, z2, z3, z4, z5, z6⟩, y1, y2, y3, y4, y5, y6⟩ := hC
                        go_simp
                      simp only [Act.put, List.setIfInBounds_toArray, List.set_cons_zero, List.set_cons_succ]
                      go_big_quiet_on
                      go_big_quiet_want
                      refine quiet_val (v := .int .i64 (k : Int)) (fun w' hC => ?_) ?_
                      · obtain ⟨z0, ⟨z1, z2, z3, z4, z5, z6⟩, y1, y2, y3, y4, y5, y6⟩ := hC
                        go_simp
                      simp only [Act.put, List.setIfInBounds_toArray, List.set_cons_zero, List.set_cons_succ]
                      go_big_quiet_on
                      go_big_quiet_want
                      refine quiet_val (v := .pointer (some ⟨g, o + k * 6, none⟩)) (fun w' hC => ?_) ?_
                      · obtain ⟨z0, ⟨z1, z2, z3, z4, z5, z6⟩, y1, y2, y3, y4, y5, y6⟩ := hC
                        go_simp
                      simp only [Act.put, List.setIfInBounds_toArray, List.set_cons_zero, List.set_cons_succ]
                      go_big_quiet_on
                      go_big_quiet_want
                      refine quiet_val (v := .pointer (some ⟨g, o + k * 6 + 1, none⟩)) (fun w' hC => ?_) ?_
                      · obtain ⟨z0, ⟨z1, z2, z3, z4, z5, z6⟩, y1, y2, y3, y4, y5, y6⟩ := hC
                        go_simp
                      simp only [Act.put, List.setIfInBounds_toArray, List.set_cons_zero, List.set_cons_succ]
                      go_big_quiet_on
                      go_big_quiet_want
                      refine quiet_val (v := .agg #[.int .i64 m, .int .i64 b]) (fun w' hC => ?_) ?_
                      · obtain ⟨z0, ⟨z1, z2, z3, z4, z5, z6⟩, y1, y2, y3, y4, y5, y6⟩ := hC
                        go_simp
                      simp only [Act.put, List.setIfInBounds_toArray, List.set_cons_zero, List.set_cons_succ]
                      go_big_quiet_on
                      go_big_quiet_want
                      refine quiet_val (v := .bool false) (fun w' hC => ?_) ?_
                      · obtain ⟨z0, ⟨z1, z2, z3, z4, z5, z6⟩, y1, y2, y3, y4, y5, y6⟩ := hC
                        go_simp
                      simp only [Act.put, List.setIfInBounds_toArray, List.set_cons_zero, List.set_cons_succ]
                      go_big_quiet_on
                      go_big_quiet_want
                      refine quiet_val (v := .bool false) (fun w' hC => ?_) ?_
                      · obtain ⟨z0, ⟨z1, z2, z3, z4, z5, z6⟩, y1, y2, y3, y4, y5, y6⟩ := hC
                        go_simp
                      simp only [Act.put, List.setIfInBounds_toArray, List.set_cons_zero, List.set_cons_succ]
                      go_big_quiet_on
                      refine wpQuiet_nil ?_
                      intro w' hC
                      go_wp2_with fail
                      go_meet
                      case rel => exact ⟨by rw [hky], hC.1⟩
                    · have f2 : (m4 == m) = false := by simpa using e3
                      clear e2
                      have hC0 := HCE.out
                      clear e1
                      refine wp_region_quiet (C := CD w g (o + t * 6) p4 m4 b4 o4 s4 v4 g (o + k * 6) p m b q s v) (by kernel_rfl) (by kernel_rfl) (CD.later (W := wr) (Below.drew (Below.refl _ _)) hC0) ?_
                      simp only [List.toList_toArray]
                      go_big_quiet_want
                      refine quiet_val (v := .slice (some ⟨g, o, none⟩) n cap) (fun w' hC => ?_) ?_
                      · obtain ⟨z0, ⟨z1, z2, z3, z4, z5, z6⟩, y1, y2, y3, y4, y5, y6⟩ := hC
                        go_simp
                      simp only [Act.put, List.setIfInBounds_toArray, List.set_cons_zero, List.set_cons_succ]
                      go_big_quiet_on
                      go_big_quiet_want
                      refine quiet_val (v := .int .i64 (t : Int)) (fun w' hC => ?_) ?_
                      · obtain ⟨z0, ⟨z1, z2, z3, z4, z5, z6⟩, y1, y2, y3, y4, y5, y6⟩ := hC
                        go_simp
                      simp only [Act.put, List.setIfInBounds_toArray, List.set_cons_zero, List.set_cons_succ]
                      go_big_quiet_on
                      go_big_quiet_want
                      refine quiet_val (v := .pointer (some ⟨g, o + t * 6, none⟩)) (fun w' hC => ?_) ?_
                      · obtain ⟨z0, ⟨z1, z2, z3, z4, z5, z6⟩, y1, y2, y3, y4, y5, y6⟩ := hC
                        go_simp
                      simp only [Act.put, List.setIfInBounds_toArray, List.set_cons_zero, List.set_cons_succ]
                      go_big_quiet_on
                      go_big_quiet_want
                      refine quiet_val (v := .pointer (some ⟨g, o + t * 6, none⟩)) (fun w' hC => ?_) ?_
                      · obtain ⟨z0, ⟨z1, z2, z3, z4, z5, z6⟩, y1, y2, y3, y4, y5, y6⟩ := hC
                        go_simp
                      simp only [Act.put, List.setIfInBounds_toArray, List.set_cons_zero, List.set_cons_succ]
                      go_big_quiet_on
                      go_big_quiet_want
                      refine quiet_val (v := .int .i64 p4) (fun w' hC => ?_) ?_
                      · obtain ⟨z0, ⟨z1, z2, z3, z4, z5, z6⟩, y1, y2, y3, y4, y5, y6⟩ := hC
                        go_simp
                      simp only [Act.put, List.setIfInBounds_toArray, List.set_cons_zero, List.set_cons_succ]
                      go_big_quiet_on
                      go_big_quiet_want
                      refine quiet_val (v := .slice (some ⟨g, o, none⟩) n cap) (fun w' hC => ?_) ?_
                      · obtain ⟨z0, ⟨z1, z2, z3, z4, z5, z6⟩, y1, y2, y3, y4, y5, y6⟩ := hC
                        go_simp
                      simp only [Act.put, List.setIfInBounds_toArray, List.set_cons_zero, List.set_cons_succ]
                      go_big_quiet_on
                      go_big_quiet_want
                      refine quiet_val (v := .int .i64 (k : Int)) (fun w' hC => ?_) ?_
                      · obtain ⟨z0, ⟨z1, z2, z3, z4, z5, z6⟩, y1, y2, y3, y4, y5, y6⟩ := hC
                        go_simp
                      simp only [Act.put, List.setIfInBounds_toArray, List.set_cons_zero, List.set_cons_succ]
                      go_big_quiet_on
                      go_big_quiet_want
                      refine quiet_val (v := .pointer (some ⟨g, o + k * 6, none⟩)) (fun w' hC => ?_) ?_
                      · obtain ⟨z0, ⟨z1, z2, z3, z4, z5, z6⟩, y1, y2, y3, y4, y5, y6⟩ := hC
                        go_simp
                      simp only [Act.put, List.setIfInBounds_toArray, List.set_cons_zero, List.set_cons_succ]
                      go_big_quiet_on
                      go_big_quiet_want
                      refine quiet_val (v := .pointer (some ⟨g, o + k * 6, none⟩)) (fun w' hC => ?_) ?_
                      · obtain ⟨z0, ⟨z1, z2, z3, z4, z5, z6⟩, y1, y2, y3, y4, y5, y6⟩ := hC
                        go_simp
                      simp only [Act.put, List.setIfInBounds_toArray, List.set_cons_zero, List.set_cons_succ]
                      go_big_quiet_on
                      go_big_quiet_want
                      refine quiet_val (v := .int .i64 p) (fun w' hC => ?_) ?_
                      · obtain ⟨z0, ⟨z1, z2, z3, z4, z5, z6⟩, y1, y2, y3, y4, y5, y6⟩ := hC
                        go_simp
                      simp only [Act.put, List.setIfInBounds_toArray, List.set_cons_zero, List.set_cons_succ]
                      go_big_quiet_on
                      go_big_quiet_want
                      refine quiet_val (v := .bool true) (fun w' hC => ?_) ?_
                      · obtain ⟨z0, ⟨z1, z2, z3, z4, z5, z6⟩, y1, y2, y3, y4, y5, y6⟩ := hC
                        go_simp
                      simp only [Act.put, List.setIfInBounds_toArray, List.set_cons_zero, List.set_cons_succ]
                      go_big_quiet_on
                      go_big_quiet_want
                      refine quiet_val (v := .bool true) (fun w' hC => ?_) ?_
                      · obtain ⟨z0, ⟨z1, z2, z3, z4, z5, z6⟩, y1, y2, y3, y4, y5, y6⟩ := hC
                        go_simp
                      simp only [Act.put, List.setIfInBounds_toArray, List.set_cons_zero, List.set_cons_succ]
                      go_big_quiet_on
                      go_big_quiet_want
                      refine quiet_val (v := .slice (some ⟨g, o, none⟩) n cap) (fun w' hC => ?_) ?_
                      · obtain ⟨z0, ⟨z1, z2, z3, z4, z5, z6⟩, y1, y2, y3, y4, y5, y6⟩ := hC
                        go_simp
                      simp only [Act.put, List.setIfInBounds_toArray, List.set_cons_zero, List.set_cons_succ]
                      go_big_quiet_on
                      go_big_quiet_want
                      refine quiet_val (v := .int .i64 (t : Int)) (fun w' hC => ?_) ?_
                      · obtain ⟨z0, ⟨z1, z2, z3, z4, z5, z6⟩, y1, y2, y3, y4, y5, y6⟩ := hC
                        go_simp
                      simp only [Act.put, List.setIfInBounds_toArray, List.set_cons_zero, List.set_cons_succ]
                      go_big_quiet_on
                      go_big_quiet_want
                      refine quiet_val (v := .pointer (some ⟨g, o + t * 6, none⟩)) (fun w' hC => ?_) ?_
                      · obtain ⟨z0, ⟨z1, z2, z3, z4, z5, z6⟩, y1, y2, y3, y4, y5, y6⟩ := hC
                        go_simp
                      simp only [Act.put, List.setIfInBounds_toArray, List.set_cons_zero, List.set_cons_succ]
                      go_big_quiet_on
                      go_big_quiet_want
                      refine quiet_val (v := .pointer (some ⟨g, o + t * 6 + 1, none⟩)) (fun w' hC => ?_) ?_
                      · obtain ⟨z0, ⟨z1, z2, z3, z4, z5, z6⟩, y1, y2, y3, y4, y5, y6⟩ := hC
                        go_simp
                      simp only [Act.put, List.setIfInBounds_toArray, List.set_cons_zero, List.set_cons_succ]
                      go_big_quiet_on
                      go_big_quiet_want
                      refine quiet_val (v := .agg #[.int .i64 m4, .int .i64 b4]) (fun w' hC => ?_) ?_
                      · obtain ⟨z0, ⟨z1, z2, z3, z4, z5, z6⟩, y1, y2, y3, y4, y5, y6⟩ := hC
                        go_simp
                      simp only [Act.put, List.setIfInBounds_toArray, List.set_cons_zero, List.set_cons_succ]
                      go_big_quiet_on
                      go_big_quiet_want
                      refine quiet_val (v := .slice (some ⟨g, o, none⟩) n cap) (fun w' hC => ?_) ?_
                      · obtain ⟨z0, ⟨z1, z2, z3, z4, z5, z6⟩, y1, y2, y3, y4, y5, y6⟩ := hC
                        go_simp
                      simp only [Act.put, List.setIfInBounds_toArray, List.set_cons_zero, List.set_cons_succ]
                      go_big_quiet_on
                      go_big_quiet_want
                      refine quiet_val (v := .int .i64 (k : Int)) (fun w' hC => ?_) ?_
                      · obtain ⟨z0, ⟨z1, z2, z3, z4, z5, z6⟩, y1, y2, y3, y4, y5, y6⟩ := hC
                        go_simp
                      simp only [Act.put, List.setIfInBounds_toArray, List.set_cons_zero, List.set_cons_succ]
                      go_big_quiet_on
                      go_big_quiet_want
                      refine quiet_val (v := .pointer (some ⟨g, o + k * 6, none⟩)) (fun w' hC => ?_) ?_
                      · obtain ⟨z0, ⟨z1, z2, z3, z4, z5, z6⟩, y1, y2, y3, y4, y5, y6⟩ := hC
                        go_simp
                      simp only [Act.put, List.setIfInBounds_toArray, List.set_cons_zero, List.set_cons_succ]
                      go_big_quiet_on
                      go_big_quiet_want
                      refine quiet_val (v := .pointer (some ⟨g, o + k * 6 + 1, none⟩)) (fun w' hC => ?_) ?_
                      · obtain ⟨z0, ⟨z1, z2, z3, z4, z5, z6⟩, y1, y2, y3, y4, y5, y6⟩ := hC
                        go_simp
                      simp only [Act.put, List.setIfInBounds_toArray, List.set_cons_zero, List.set_cons_succ]
                      go_big_quiet_on
                      go_big_quiet_want
                      refine quiet_val (v := .agg #[.int .i64 m, .int .i64 b]) (fun w' hC => ?_) ?_
                      · obtain ⟨z0, ⟨z1, z2, z3, z4, z5, z6⟩, y1, y2, y3, y4, y5, y6⟩ := hC
                        go_simp
                      simp only [Act.put, List.setIfInBounds_toArray, List.set_cons_zero, List.set_cons_succ]
                      go_big_quiet_on
                      go_big_quiet_want
                      refine quiet_val (v := .bool false) (fun w' hC => ?_) ?_
                      · obtain ⟨z0, ⟨z1, z2, z3, z4, z5, z6⟩, y1, y2, y3, y4, y5, y6⟩ := hC
                        go_simp
                      simp only [Act.put, List.setIfInBounds_toArray, List.set_cons_zero, List.set_cons_succ]
                      go_big_quiet_on
                      go_big_quiet_want
                      refine quiet_val (v := .bool false) (fun w' hC => ?_) ?_
                      · obtain ⟨z0, ⟨z1, z2, z3, z4, z5, z6⟩, y1, y2, y3, y4, y5, y6⟩ := hC
                        go_simp
                      simp only [Act.put, List.setIfInBounds_toArray, List.set_cons_zero, List.set_cons_succ]
                      go_big_quiet_on
                      refine wpQuiet_nil ?_
                      intro w' hC
                      go_wp2_with fail
                      go_meet
                      case rel => exact ⟨by rw [hky], hC.1⟩
                · have hky : keyB ⟨p4, m4, b4, o4, s4, v4⟩ ⟨p, m, b, q, s, v⟩ = false := by rw [key_eq]; simp [e1]
                  have f1 : (p4 == p) = false := by simpa using e1
                  have hC0 := HCE.out
                  clear e1
                  refine wp_region_quiet (C := CD w g (o + t * 6) p4 m4 b4 o4 s4 v4 g (o + k * 6) p m b q s v) (by kernel_rfl) (by kernel_rfl) (CD.later (W := wr) (Below.drew (Below.refl _ _)) hC0) ?_
                  simp only [List.toList_toArray]
                  go_big_quiet_want
                  refine quiet_val (v := .slice (some ⟨g, o, none⟩) n cap) (fun w' hC => ?_) ?_
                  · obtain ⟨z0, ⟨z1, z2, z3, z4, z5, z6⟩, y1, y2, y3, y4, y5, y6⟩ := hC
                    go_simp
                  simp only [Act.put, List.setIfInBounds_toArray, List.set_cons_zero, List.set_cons_succ]
                  go_big_quiet_on
                  go_big_quiet_want
                  refine quiet_val (v := .int .i64 (t : Int)) (fun w' hC => ?_) ?_
                  · obtain ⟨z0, ⟨z1, z2, z3, z4, z5, z6⟩, y1, y2, y3, y4, y5, y6⟩ := hC
                    go_simp
                  simp only [Act.put, List.setIfInBounds_toArray, List.set_cons_zero, List.set_cons_succ]
                  go_big_quiet_on
                  go_big_quiet_want
                  refine quiet_val (v := .pointer (some ⟨g, o + t * 6, none⟩)) (fun w' hC => ?_) ?_
                  · obtain ⟨z0, ⟨z1, z2, z3, z4, z5, z6⟩, y1, y2, y3, y4, y5, y6⟩ := hC
                    go_simp
                  simp only [Act.put, List.setIfInBounds_toArray, List.set_cons_zero, List.set_cons_succ]
                  go_big_quiet_on
                  go_big_quiet_want
                  refine quiet_val (v := .pointer (some ⟨g, o + t * 6, none⟩)) (fun w' hC => ?_) ?_
                  · obtain ⟨z0, ⟨z1, z2, z3, z4, z5, z6⟩, y1, y2, y3, y4, y5, y6⟩ := hC
                    go_simp
                  simp only [Act.put, List.setIfInBounds_toArray, List.set_cons_zero, List.set_cons_succ]
                  go_big_quiet_on
                  go_big_quiet_want
                  refine quiet_val (v := .int .i64 p4) (fun w' hC => ?_) ?_
                  · obtain ⟨z0, ⟨z1, z2, z3, z4, z5, z6⟩, y1, y2, y3, y4, y5, y6⟩ := hC
                    go_simp
                  simp only [Act.put, List.setIfInBounds_toArray, List.set_cons_zero, List.set_cons_succ]
                  go_big_quiet_on
                  go_big_quiet_want
                  refine quiet_val (v := .slice (some ⟨g, o, none⟩) n cap) (fun w' hC => ?_) ?_
                  · obtain ⟨z0, ⟨z1, z2, z3, z4, z5, z6⟩, y1, y2, y3, y4, y5, y6⟩ := hC
                    go_simp
                  simp only [Act.put, List.setIfInBounds_toArray, List.set_cons_zero, List.set_cons_succ]
                  go_big_quiet_on
                  go_big_quiet_want
                  refine quiet_val (v := .int .i64 (k : Int)) (fun w' hC => ?_) ?_
                  · obtain ⟨z0, ⟨z1, z2, z3, z4, z5, z6⟩, y1, y2, y3, y4, y5, y6⟩ := hC
                    go_simp
                  simp only [Act.put, List.setIfInBounds_toArray, List.set_cons_zero, List.set_cons_succ]
                  go_big_quiet_on
                  go_big_quiet_want
                  refine quiet_val (v := .pointer (some ⟨g, o + k * 6, none⟩)) (fun w' hC => ?_) ?_
                  · obtain ⟨z0, ⟨z1, z2, z3, z4, z5, z6⟩, y1, y2, y3, y4, y5, y6⟩ := hC
                    go_simp
                  simp only [Act.put, List.setIfInBounds_toArray, List.set_cons_zero, List.set_cons_succ]
                  go_big_quiet_on
                  go_big_quiet_want
                  refine quiet_val (v := .pointer (some ⟨g, o + k * 6, none⟩)) (fun w' hC => ?_) ?_
                  · obtain ⟨z0, ⟨z1, z2, z3, z4, z5, z6⟩, y1, y2, y3, y4, y5, y6⟩ := hC
                    go_simp
                  simp only [Act.put, List.setIfInBounds_toArray, List.set_cons_zero, List.set_cons_succ]
                  go_big_quiet_on
                  go_big_quiet_want
                  refine quiet_val (v := .int .i64 p) (fun w' hC => ?_) ?_
                  · obtain ⟨z0, ⟨z1, z2, z3, z4, z5, z6⟩, y1, y2, y3, y4, y5, y6⟩ := hC
                    go_simp
                  simp only [Act.put, List.setIfInBounds_toArray, List.set_cons_zero, List.set_cons_succ]
                  go_big_quiet_on
                  go_big_quiet_want
                  refine quiet_val (v := .bool false) (fun w' hC => ?_) ?_
                  · obtain ⟨z0, ⟨z1, z2, z3, z4, z5, z6⟩, y1, y2, y3, y4, y5, y6⟩ := hC
                    go_simp
                  simp only [Act.put, List.setIfInBounds_toArray, List.set_cons_zero, List.set_cons_succ]
                  go_big_quiet_on
                  go_big_quiet_want
                  refine quiet_val (v := .bool false) (fun w' hC => ?_) ?_
                  · obtain ⟨z0, ⟨z1, z2, z3, z4, z5, z6⟩, y1, y2, y3, y4, y5, y6⟩ := hC
                    go_simp
                  simp only [Act.put, List.setIfInBounds_toArray, List.set_cons_zero, List.set_cons_succ]
                  go_big_quiet_on
                  go_big_quiet_skip
                  go_big_quiet_skip
                  go_big_quiet_skip
                  go_big_quiet_skip
                  go_big_quiet_skip
                  go_big_quiet_skip
                  go_big_quiet_skip
                  go_big_quiet_skip
                  go_big_quiet_skip
                  go_big_quiet_skip
                  go_big_quiet_skip
                  go_big_quiet_want
                  refine quiet_val (v := .bool false) (fun w' hC => ?_) ?_
                  · obtain ⟨z0, ⟨z1, z2, z3, z4, z5, z6⟩, y1, y2, y3, y4, y5, y6⟩ := hC
                    go_simp
                  simp only [Act.put, List.setIfInBounds_toArray, List.set_cons_zero, List.set_cons_succ]
                  go_big_quiet_on
                  refine wpQuiet_nil ?_
                  intro w' hC
                  go_wp2_with fail
                  go_meet
                  case rel => exact ⟨by rw [hky], hC.1⟩
            case rest =>
              obtain ⟨hc2, hB3⟩ := hcut
              clear HCE
              cases hky : keyB ⟨p4, m4, b4, o4, s4, v4⟩ ⟨p, m, b, q, s, v⟩
              · rw [hky] at hc2
                subst hc2
                go_wp2
                go_roundw
                case rel => exact ⟨t + 1, by omega, by go_num, any_nextR htl HANY.out (by rw [HLT.out]; exact hky), hB3⟩
                case measure => simp [intOf]; omega
              · rw [hky] at hc2
                subst hc2
                have HT : Hid (tbN L = 7) := to_clashF hkl HL.out HNO.out HO.out (tab_take hq htl (by rw [HLT.out]; exact hky)) (by rw [HN.out]; exact hl)
                go_wp2
                go_ret
                exact ⟨by rw [HT.out]; rfl, hB3⟩
          · obtain rfl : t = k := by omega
            clear hB2
            go_wp2
            go_roundw
            case rel => exact ⟨t + 1, by omega, by go_num, to_nextF hkl HL.out HNO.out HO.out HANY.out, HB2.out⟩
            case measure => simp [intOf]; omega
      · have HT : Hid (tbN L = ruN p m b q s v) := to_badF hkl HL.out HNO.out ho (by rw [HN.out]; exact hl)
        have ho2 : (ruN p m b q s v != 0) = true := by simpa using ho
        clear ho
        go_wp2_with fail
        refine (refRule_any _ _ _ _ _ _ _).mono ?_
        rintro e w1 ⟨rfl, hb1⟩
        have HB1 := HB.out.trans (hb1.mono HB.out.size)
        clear hb1
        go_wp2
        go_ret
        exact ⟨by rw [HT.out]; rfl, HB1⟩
    · obtain rfl : k = n := by omega
      go_wp2
      go_ret
      refine ⟨?_, HB.out⟩
      have e1 : tbN L = 0 := by
        rw [tbN, if_neg (by rw [HN.out]; omega), HN.out]
        exact HNO.out
      rw [e1]
      rfl

set_option maxHeartbeats 1000000 in
theorem refTable_long (ao : Option Addr) (cap n : Nat) (w : World) (hl : 12 < n) :
    Calls Tryz.prog 15 #[.slice ao n cap] w fun e w' => e = .returned (.int .i64 4) ∧ Below w.heap.size w w' := by
  go_enter Tryz.func15, Tryz.ntmps15
  go_wp2
  go_ret
  exact ⟨rfl, Below.refl _ _⟩

set_option maxHeartbeats 1000000 in
theorem refTable_nil (ao : Option Addr) (cap : Nat) (w : World) :
    Calls Tryz.prog 15 #[.slice ao 0 cap] w fun e w' => e = .returned (.int .i64 0) ∧ Below w.heap.size w w' := by
  go_enter Tryz.func15, Tryz.ntmps15
  go_wp2
  go_loopw [3] (fun i wr => i = .int .i64 0 ∧ wr = w) (fun i _ => 0)
  case atStart => exact ⟨rfl, rfl⟩
  case round =>
    obtain ⟨rfl, rfl⟩ := hrel
    go_wp2
    go_ret
    exact ⟨rfl, Below.refl _ _⟩

theorem refTable_any (v : Value) (L : List Ru) (w : World) (h : SR w v L) :
    Calls Tryz.prog 15 #[v] w fun e w' => e = .returned (.int .i64 (tbN L)) ∧ Below w.heap.size w w' := by
  rcases h with ⟨ao, cap, rfl, rfl⟩ | ⟨g, o, cap, rfl, h1, h2, hc⟩
  · exact refTable_nil ao cap w
  · by_cases h12 : 12 < L.length
    · have e : tbN L = 4 := by simp [tbN, h12]
      rw [e]; exact refTable_long _ _ _ _ h12
    · exact refTable_some _ _ _ _ L w hc rfl (by omega)
end Go.Proofs.YtbieljcoaocfkabGreatDoor
