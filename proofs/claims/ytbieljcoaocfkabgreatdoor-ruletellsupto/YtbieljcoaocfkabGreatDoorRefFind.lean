/- What the document's own above and Find answer, called with any rules and any table. -/
import Derived.Test.YtbieljcoaocfkabGreatDoorRefCube
import Derived.Test.YtbieljcoaocfkabGreatDoorRuleTwo
import Derived.Test.YtbieljcoaocfkabGreatDoorRuleRefMath
import Derived.Test.YtbieljcoaocfkabGreatDoorQuiet
import Derived.Deep.CutRange
import Derived.Deep.CutBlock
namespace Go.Proofs.YtbieljcoaocfkabGreatDoor
open Go.RowKit
set_option linter.unusedSimpArgs false

set_option maxHeartbeats 1000000 in
theorem above_abB (p m b o s v p' m' b' o' s' v' : Int) (w : World) :
    Calls Tryz.prog 41 #[.agg #[.int .i64 p, .int .i64 m, .int .i64 b, .int .i64 o, .int .i64 s, .int .i64 v], .agg #[.int .i64 p', .int .i64 m', .int .i64 b', .int .i64 o', .int .i64 s', .int .i64 v']] w fun e w' => e = .returned (.bool (abB ⟨p, m, b, o, s, v⟩ ⟨p', m', b', o', s', v'⟩)) ∧ Below w.heap.size w w' := by
  by_cases h1 : p = p'
  · subst h1
    by_cases h2 : m = m'
    · subst h2
      have e : abB ⟨p, m, b, o, s, v⟩ ⟨p, m, b', o', s', v'⟩ = decide (b' < b) := by simp [abB]
      rw [e]; clear e
      go_enter Tryz.func41, Tryz.ntmps41
      go_wp2
      go_ret
      exact ⟨rfl, ((Below.refl _ _).alloc (Nat.le_refl _) _).alloc (by simp) _⟩
    · have e : abB ⟨p, m, b, o, s, v⟩ ⟨p, m', b', o', s', v'⟩ = decide (m' < m) := by simp [abB, h2]
      have h3 : (m != m') = true := by simpa using h2
      rw [e]; clear e
      go_enter Tryz.func41, Tryz.ntmps41
      go_wp2
      go_ret
      exact ⟨rfl, ((Below.refl _ _).alloc (Nat.le_refl _) _).alloc (by simp) _⟩
  · have e : abB ⟨p, m, b, o, s, v⟩ ⟨p', m', b', o', s', v'⟩ = decide (p' < p) := by simp [abB, h1]
    have h3 : (p != p') = true := by simpa using h1
    rw [e]; clear e
    go_enter Tryz.func41, Tryz.ntmps41
    go_wp2
    go_ret
    exact ⟨rfl, ((Below.refl _ _).alloc (Nat.le_refl _) _).alloc (by simp) _⟩

theorem above_any (p m b o s v p' m' b' o' s' v' : Int) (w : World) :
    Calls Tryz.prog 41 #[.agg #[.int .i64 p, .int .i64 m, .int .i64 b, .int .i64 o, .int .i64 s, .int .i64 v], .agg #[.int .i64 p', .int .i64 m', .int .i64 b', .int .i64 o', .int .i64 s', .int .i64 v']] w fun e w' => e = .returned (.bool (decide (0 < ordR ⟨p, m, b, o, s, v⟩ ⟨p', m', b', o', s', v'⟩))) ∧ Below w.heap.size w w' :=
  (above_abB p m b o s v p' m' b' o' s' v' w).mono fun e w' h => ⟨by rw [h.1, ab_ord], h.2⟩

theorem be_nextF {L : List Ru} {h : Int} {k : Nat} (x : Int) (hx : x = beTo L h k) (y : Bool) (hy : ((L.getD k zeR).has h && (decide (x < 0) || decide (0 < ordR (L.getD k zeR) (L.getD x.toNat zeR)))) = y) : beTo L h (k + 1) = if y then (k : Int) else x := by
  subst hx
  rw [beTo, hy]

set_option maxHeartbeats 1000000 in
theorem find_some (g o cap n : Nat) (h : Int) (L : List Ru) (w : World) (hc : RAt w g o L) (hn : L.length = n) (hcap2 : n ≤ maxLen) :
    Calls Tryz.prog 17 #[.slice (some ⟨g, o, none⟩) n cap, .int .i64 h] w fun e w' => e = .returned (.int .i64 (beTo L h n)) ∧ Below w.heap.size w w' := by
  have HN : Hid (L.length = n) := hn
  unfold maxLen at hcap2
  clear hn
  go_enter Tryz.func17, Tryz.ntmps17
  go_wp2
  go_loopw [5, 6] (fun x i wr => ∃ k : Nat, k ≤ n ∧ x = .int .i64 (beTo L h k) ∧ i = .int .i64 k ∧ Below w.heap.size w wr) (fun _ i _ => n - (intOf i).toNat)
  case atStart => exact ⟨0, by omega, rfl, rfl, Below.refl _ _⟩
  case round =>
    obtain ⟨k, hk, rfl, rfl, hB⟩ := hrel
    have hbd := be_bd L h k
    generalize hx : beTo L h k = x at *
    have HX : Hid (x = beTo L h k) := hx.symm
    obtain ⟨x0, x1⟩ := hbd
    clear hx
    have HB : Hid (Below w.heap.size w wr) := hB
    by_cases hlt : k < n
    · obtain ⟨p, m, b, q, s, v, hkl, hL, q0, q1, q2, q3, q4, q5⟩ := (hc.later hB).at HN.out hlt
      have HK : Hid (L.getD k zeR = ⟨p, m, b, q, s, v⟩) := (getD_at hkl).trans hL
      have HCC : Hid (RAt wr g o L) := hc.later hB
      clear hL hB
      go_wp2_with fail
      refine (refHas_any _ _ _ _).mono ?_
      rintro e w1 ⟨rfl, hb1⟩
      have HCC1 : Hid (RAt w1 g o L) := HCC.out.later hb1
      have HB1 : Hid (Below w.heap.size w w1) := HB.out.trans (hb1.mono HB.out.size)
      clear hb1 q0 q1 q2 q3 q4 q5 HCC
      generalize hY : hasB m b h = Y
      have HY : Hid (hasB m b h = Y) := hY
      clear hY
      go_upto_region 6 with fail
      have kb0 : (0 : Int) ≤ (k : Int) := by omega
      have kb1 : (k : Int) < (n : Int) := by omega
      go_cut [36] from 8 to 37 (fun c w' => c = .bool (Y && (decide (x < 0) || decide (0 < ordR (L.getD k zeR) (L.getD x.toNat zeR)))) ∧ Below w.heap.size w w')
      case first =>
        cases Y
        · refine wp_region_quiet (C := fun w' => Below w.heap.size w w') (by kernel_rfl) (by kernel_rfl) (Below.drew HB1.out) ?_
          simp only [List.toList_toArray]
          go_big_quiet_want
          refine quiet_val (v := .bool false) (fun w' hC => ?_) ?_
          · obtain z0 := hC
            go_simp
          simp only [Act.put, List.setIfInBounds_toArray, List.set_cons_zero, List.set_cons_succ]
          go_big_quiet_on
          go_big_quiet_want
          refine quiet_val (v := .bool false) (fun w' hC => ?_) ?_
          · obtain z0 := hC
            go_simp
          simp only [Act.put, List.setIfInBounds_toArray, List.set_cons_zero, List.set_cons_succ]
          go_big_quiet_on
          go_big_quiet_skip
          go_big_quiet_skip
          go_big_quiet_skip
          go_big_quiet_skip
          go_big_quiet_skip
          go_big_quiet_skip
          go_big_quiet_skip
          go_big_quiet_skip
          go_big_quiet_skip
          go_big_quiet_skip
          go_big_quiet_skip
          go_big_quiet_skip
          go_big_quiet_skip
          go_big_quiet_want
          refine quiet_val (v := .bool false) (fun w' hC => ?_) ?_
          · obtain z0 := hC
            go_simp
          simp only [Act.put, List.setIfInBounds_toArray, List.set_cons_zero, List.set_cons_succ]
          go_big_quiet_on
          refine wpQuiet_nil ?_
          intro w' hC
          go_wp2_with fail
          go_meet
          case rel => exact ⟨rfl, hC⟩
        · by_cases hx0 : x < 0
          · have hx1 : decide (x < 0) = true := by simpa using hx0
            refine wp_region_quiet (C := fun w' => Below w.heap.size w w') (by kernel_rfl) (by kernel_rfl) (Below.drew HB1.out) ?_
            simp only [List.toList_toArray]
            go_big_quiet_want
            refine quiet_val (v := .bool true) (fun w' hC => ?_) ?_
            · obtain z0 := hC
              go_simp
            simp only [Act.put, List.setIfInBounds_toArray, List.set_cons_zero, List.set_cons_succ]
            go_big_quiet_on
            go_big_quiet_want
            refine quiet_val (v := .bool true) (fun w' hC => ?_) ?_
            · obtain z0 := hC
              go_simp
            simp only [Act.put, List.setIfInBounds_toArray, List.set_cons_zero, List.set_cons_succ]
            go_big_quiet_on
            go_big_quiet_want
            refine quiet_val (v := .int .i64 x) (fun w' hC => ?_) ?_
            · obtain z0 := hC
              go_simp
            simp only [Act.put, List.setIfInBounds_toArray, List.set_cons_zero, List.set_cons_succ]
            go_big_quiet_on
            go_big_quiet_want
            refine quiet_val (v := .bool true) (fun w' hC => ?_) ?_
            · obtain z0 := hC
              go_simp
            simp only [Act.put, List.setIfInBounds_toArray, List.set_cons_zero, List.set_cons_succ]
            go_big_quiet_on
            go_big_quiet_want
            refine quiet_val (v := .bool true) (fun w' hC => ?_) ?_
            · obtain z0 := hC
              go_simp
            simp only [Act.put, List.setIfInBounds_toArray, List.set_cons_zero, List.set_cons_succ]
            go_big_quiet_on
            go_big_quiet_skip
            go_big_quiet_skip
            go_big_quiet_skip
            go_big_quiet_skip
            go_big_quiet_skip
            go_big_quiet_skip
            go_big_quiet_skip
            go_big_quiet_skip
            go_big_quiet_skip
            go_big_quiet_want
            refine quiet_val (v := .bool true) (fun w' hC => ?_) ?_
            · obtain z0 := hC
              go_simp
            simp only [Act.put, List.setIfInBounds_toArray, List.set_cons_zero, List.set_cons_succ]
            go_big_quiet_on
            go_big_quiet_want
            refine quiet_val (v := .bool true) (fun w' hC => ?_) ?_
            · obtain z0 := hC
              go_simp
            simp only [Act.put, List.setIfInBounds_toArray, List.set_cons_zero, List.set_cons_succ]
            go_big_quiet_on
            refine wpQuiet_nil ?_
            intro w' hC
            go_wp2_with fail
            go_meet
            case rel => exact ⟨by rw [hx1]; rfl, hC⟩
          · obtain ⟨y, hy⟩ : ∃ y : Nat, x = (y : Int) := ⟨x.toNat, by omega⟩
            have hx2 : decide ((y : Int) < 0) = false := by simp
            subst hy
            obtain ⟨p2, m2, b2, q2, s2, v2, hyl, hLy, y0, y1, y2, y3, y4, y5⟩ := HCC1.out.at HN.out (show y < n by omega)
            obtain ⟨p1, m1, b1, q1, s1, v1, hkl1, hLk, r0, r1, r2, r3, r4, r5⟩ := HCC1.out.at HN.out hlt
            have E := HK.out
            rw [getD_at hkl1, hLk] at E
            simp only [Ru.mk.injEq] at E
            obtain ⟨rfl, rfl, rfl, rfl, rfl, rfl⟩ := E
            have HYL : Hid (L.getD ((y : Nat) : Int).toNat zeR = ⟨p2, m2, b2, q2, s2, v2⟩) := by
              show L.getD ((y : Nat) : Int).toNat zeR = _
              rw [Int.toNat_natCast, getD_at hyl, hLy]
            have yb0 : (0 : Int) ≤ (y : Int) := by omega
            have yb1 : ((y : Int)) < (n : Int) := by omega
            have hS0 : CD w g (o + k * 6) p1 m1 b1 q1 s1 v1 g (o + y * 6) p2 m2 b2 q2 s2 v2 w1 := ⟨HB1.out, ⟨r0, r1, r2, r3, r4, r5⟩, y0, y1, y2, y3, y4, y5⟩
            clear y0 y1 y2 y3 y4 y5 r0 r1 r2 r3 r4 r5 hLy hLk
            refine wp_region_quiet (C := CD w g (o + k * 6) p1 m1 b1 q1 s1 v1 g (o + y * 6) p2 m2 b2 q2 s2 v2) (by kernel_rfl) (by kernel_rfl) (CD.later (W := w1) (Below.drew (Below.refl _ _)) hS0) ?_
            simp only [List.toList_toArray]
            go_big_quiet_want
            refine quiet_val (v := .bool true) (fun w' hC => ?_) ?_
            · obtain ⟨z0, ⟨z1, z2, z3, z4, z5, z6⟩, y1, y2, y3, y4, y5, y6⟩ := hC
              go_simp
            simp only [Act.put, List.setIfInBounds_toArray, List.set_cons_zero, List.set_cons_succ]
            go_big_quiet_on
            go_big_quiet_want
            refine quiet_val (v := .bool true) (fun w' hC => ?_) ?_
            · obtain ⟨z0, ⟨z1, z2, z3, z4, z5, z6⟩, y1, y2, y3, y4, y5, y6⟩ := hC
              go_simp
            simp only [Act.put, List.setIfInBounds_toArray, List.set_cons_zero, List.set_cons_succ]
            go_big_quiet_on
            go_big_quiet_want
            refine quiet_val (v := .int .i64 (y : Int)) (fun w' hC => ?_) ?_
            · obtain ⟨z0, ⟨z1, z2, z3, z4, z5, z6⟩, y1, y2, y3, y4, y5, y6⟩ := hC
              go_simp
            simp only [Act.put, List.setIfInBounds_toArray, List.set_cons_zero, List.set_cons_succ]
            go_big_quiet_on
            go_big_quiet_want
            refine quiet_val (v := .bool false) (fun w' hC => ?_) ?_
            · obtain ⟨z0, ⟨z1, z2, z3, z4, z5, z6⟩, y1, y2, y3, y4, y5, y6⟩ := hC
              go_simp
            simp only [Act.put, List.setIfInBounds_toArray, List.set_cons_zero, List.set_cons_succ]
            go_big_quiet_on
            go_big_quiet_want
            refine quiet_val (v := .bool false) (fun w' hC => ?_) ?_
            · obtain ⟨z0, ⟨z1, z2, z3, z4, z5, z6⟩, y1, y2, y3, y4, y5, y6⟩ := hC
              go_simp
            simp only [Act.put, List.setIfInBounds_toArray, List.set_cons_zero, List.set_cons_succ]
            go_big_quiet_on
            go_big_quiet_want
            refine quiet_val (v := .slice (some ⟨g, o, none⟩) n cap) (fun w' hC => ?_) ?_
            · obtain ⟨z0, ⟨z1, z2, z3, z4, z5, z6⟩, y1, y2, y3, y4, y5, y6⟩ := hC
              go_simp
            simp only [Act.put, List.setIfInBounds_toArray, List.set_cons_zero, List.set_cons_succ]
            go_big_quiet_on
            go_big_quiet_want
            refine quiet_val (v := .int .i64 (k : Int)) (fun w' hC => ?_) ?_
            · obtain ⟨z0, ⟨z1, z2, z3, z4, z5, z6⟩, y1, y2, y3, y4, y5, y6⟩ := hC
              go_simp
            simp only [Act.put, List.setIfInBounds_toArray, List.set_cons_zero, List.set_cons_succ]
            go_big_quiet_on
            go_big_quiet_want
            refine quiet_val (v := .pointer (some ⟨g, o + k * 6, none⟩)) (fun w' hC => ?_) ?_
            · obtain ⟨z0, ⟨z1, z2, z3, z4, z5, z6⟩, y1, y2, y3, y4, y5, y6⟩ := hC
              go_simp
            simp only [Act.put, List.setIfInBounds_toArray, List.set_cons_zero, List.set_cons_succ]
            go_big_quiet_on
            go_big_quiet_want
            refine quiet_val (v := .agg #[.int .i64 p1, .int .i64 m1, .int .i64 b1, .int .i64 q1, .int .i64 s1, .int .i64 v1]) (fun w' hC => ?_) ?_
            · obtain ⟨z0, ⟨z1, z2, z3, z4, z5, z6⟩, y1, y2, y3, y4, y5, y6⟩ := hC
              go_simp
            simp only [Act.put, List.setIfInBounds_toArray, List.set_cons_zero, List.set_cons_succ]
            go_big_quiet_on
            go_big_quiet_want
            refine quiet_val (v := .slice (some ⟨g, o, none⟩) n cap) (fun w' hC => ?_) ?_
            · obtain ⟨z0, ⟨z1, z2, z3, z4, z5, z6⟩, y1, y2, y3, y4, y5, y6⟩ := hC
              go_simp
            simp only [Act.put, List.setIfInBounds_toArray, List.set_cons_zero, List.set_cons_succ]
            go_big_quiet_on
            go_big_quiet_want
            refine quiet_val (v := .int .i64 (y : Int)) (fun w' hC => ?_) ?_
            · obtain ⟨z0, ⟨z1, z2, z3, z4, z5, z6⟩, y1, y2, y3, y4, y5, y6⟩ := hC
              go_simp
            simp only [Act.put, List.setIfInBounds_toArray, List.set_cons_zero, List.set_cons_succ]
            go_big_quiet_on
            go_big_quiet_want
            refine quiet_val (v := .pointer (some ⟨g, o + y * 6, none⟩)) (fun w' hC => ?_) ?_
            · obtain ⟨z0, ⟨z1, z2, z3, z4, z5, z6⟩, y1, y2, y3, y4, y5, y6⟩ := hC
              go_simp
            simp only [Act.put, List.setIfInBounds_toArray, List.set_cons_zero, List.set_cons_succ]
            go_big_quiet_on
            go_big_quiet_want
            refine quiet_val (v := .agg #[.int .i64 p2, .int .i64 m2, .int .i64 b2, .int .i64 q2, .int .i64 s2, .int .i64 v2]) (fun w' hC => ?_) ?_
            · obtain ⟨z0, ⟨z1, z2, z3, z4, z5, z6⟩, y1, y2, y3, y4, y5, y6⟩ := hC
              go_simp
            simp only [Act.put, List.setIfInBounds_toArray, List.set_cons_zero, List.set_cons_succ]
            go_big_quiet_on
            go_big_quiet_want
            refine quiet_call (f := 41) (args := #[.agg #[.int .i64 p1, .int .i64 m1, .int .i64 b1, .int .i64 q1, .int .i64 s1, .int .i64 v1], .agg #[.int .i64 p2, .int .i64 m2, .int .i64 b2, .int .i64 q2, .int .i64 s2, .int .i64 v2]]) (v := .bool (decide (0 < ordR ⟨p1, m1, b1, q1, s1, v1⟩ ⟨p2, m2, b2, q2, s2, v2⟩))) (fun w' => ?_) (fun w' hC => (above_any p1 m1 b1 q1 s1 v1 p2 m2 b2 q2 s2 v2 w').mono (fun e w2 h2 => ⟨h2.1, CD.later h2.2 hC⟩)) ?_
            · go_simp
            simp only [Act.put, List.setIfInBounds_toArray, List.set_cons_zero, List.set_cons_succ]
            go_big_quiet_on
            go_big_quiet_want
            refine quiet_val (v := .bool (decide (0 < ordR ⟨p1, m1, b1, q1, s1, v1⟩ ⟨p2, m2, b2, q2, s2, v2⟩))) (fun w' hC => ?_) ?_
            · obtain ⟨z0, ⟨z1, z2, z3, z4, z5, z6⟩, y1, y2, y3, y4, y5, y6⟩ := hC
              go_simp
            simp only [Act.put, List.setIfInBounds_toArray, List.set_cons_zero, List.set_cons_succ]
            go_big_quiet_on
            go_big_quiet_want
            refine quiet_val (v := .bool (decide (0 < ordR ⟨p1, m1, b1, q1, s1, v1⟩ ⟨p2, m2, b2, q2, s2, v2⟩))) (fun w' hC => ?_) ?_
            · obtain ⟨z0, ⟨z1, z2, z3, z4, z5, z6⟩, y1, y2, y3, y4, y5, y6⟩ := hC
              go_simp
            simp only [Act.put, List.setIfInBounds_toArray, List.set_cons_zero, List.set_cons_succ]
            go_big_quiet_on
            refine wpQuiet_nil ?_
            intro w' hC
            go_wp2_with fail
            go_meet
            case rel => exact ⟨by rw [HYL.out, HK.out, hx2]; rfl, hC.1⟩
      case rest =>
        obtain ⟨hc2, hB2⟩ := hcut
        have HYY : Hid (beTo L h (k + 1) = if (Y && (decide (x < 0) || decide (0 < ordR (L.getD k zeR) (L.getD x.toNat zeR)))) then (k : Int) else x) := be_nextF x HX.out _ (by rw [HK.out, ← HY.out]; rfl)
        clear HCC1
        generalize (Y && (decide (x < 0) || decide (0 < ordR (L.getD k zeR) (L.getD x.toNat zeR)))) = Z at *
        subst hc2
        cases Z
        · go_wp2
          go_roundw
          case rel => exact ⟨k + 1, by omega, by rw [HYY.out]; rfl, by go_num, hB2⟩
          case measure => simp [intOf]; omega
        · go_wp2
          go_roundw
          case rel => exact ⟨k + 1, by omega, by rw [HYY.out]; rfl, by go_num, hB2⟩
          case measure => simp [intOf]; omega
    · obtain rfl : k = n := by omega
      go_wp2
      go_ret
      exact ⟨by rw [← HX.out]; rfl, HB.out⟩

set_option maxHeartbeats 1000000 in
theorem find_nil (ao : Option Addr) (cap : Nat) (h : Int) (w : World) :
    Calls Tryz.prog 17 #[.slice ao 0 cap, .int .i64 h] w fun e w' => e = .returned (.int .i64 (-1)) ∧ Below w.heap.size w w' := by
  go_enter Tryz.func17, Tryz.ntmps17
  go_wp2
  go_loopw [5, 6] (fun x i wr => x = .int .i64 (-1) ∧ i = .int .i64 0 ∧ wr = w) (fun _ i _ => 0)
  case atStart => exact ⟨rfl, rfl, rfl⟩
  case round =>
    obtain ⟨rfl, rfl, rfl⟩ := hrel
    go_wp2
    go_ret
    exact ⟨rfl, Below.refl _ _⟩

theorem find_any (x : Value) (L : List Ru) (h : Int) (w : World) (hs : SR w x L) :
    Calls Tryz.prog 17 #[x, .int .i64 h] w fun e w' => e = .returned (.int .i64 (beTo L h L.length)) ∧ Below w.heap.size w w' := by
  rcases hs with ⟨ao, cap, rfl, rfl⟩ | ⟨g, o, cap, rfl, h1, h2, hc⟩
  · exact find_nil ao cap h w
  · exact find_some g o cap _ h L w hc rfl (Nat.le_trans h1 h2)
end Go.Proofs.YtbieljcoaocfkabGreatDoor
