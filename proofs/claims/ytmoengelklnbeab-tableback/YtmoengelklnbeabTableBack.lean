/- The walk of TableBack: it answers true, whatever two tables and rule it is called with. -/
import Derived.Test.YtmoengelklnbeabTableSame
namespace Go.Proofs.Ytmoengelklnbeab.tableBack
open Go.RowKit
set_option linter.unusedSimpArgs false
set_option linter.unusedVariables false

/-- What holds of the world all along: the rule lies in the first new block. -/
structure KB (w W : World) (r : Ru) : Prop where
  below : Below w.heap.size w W
  lt : w.heap.size < W.heap.size
  c : C6 W w.heap.size 0 r
theorem KB.later {w W W' : World} {r : Ru} (h : KB w W r) (hb : Below W.heap.size W W') : KB w W' r :=
  ⟨h.below.trans (hb.mono h.below.size), Nat.lt_of_lt_of_le h.lt hb.size, h.c.later hb⟩
theorem one_ok : doN [] true ⟨3, 0, 0, 1, 0, 0⟩ = 0 := by decide +kernel
theorem one_is : doL [] true ⟨3, 0, 0, 1, 0, 0⟩ = [⟨3, 0, 0, 1, 0, 0⟩] := (do_back one_ok).1

set_option maxRecDepth 100000 in
set_option maxHeartbeats 10000000 in
theorem walk (ao : Option Addr) (n cap : Nat) (ao2 : Option Addr) (n2 cap2 : Nat) (p m b o s v : Int) (L M : List Ru) (w : World) (hs : SR w (.slice ao n cap) L) (ht : SR w (.slice ao2 n2 cap2) M) :
    Calls Try.prog 4 #[.slice ao n cap, .slice ao2 n2 cap2, .agg #[.int .i64 p, .int .i64 m, .int .i64 b, .int .i64 o, .int .i64 s, .int .i64 v]] w fun e w' => e = .returned (.bool true) ∧ Below w.heap.size w w' := by
  have HS : Hid (SR w (.slice ao n cap) L) := hs
  have HT : Hid (SR w (.slice ao2 n2 cap2) M) := ht
  have HLN : Hid (L.length = n) := hs.len
  clear hs ht
  have hB0 : Below w.heap.size w (w.alloc (Obj.cells #[Value.int IntKind.i64 p, Value.int IntKind.i64 m, Value.int IntKind.i64 b, Value.int IntKind.i64 o, Value.int IntKind.i64 s, Value.int IntKind.i64 v] 25)) := (Below.refl _ _).alloc (Nat.le_refl _) _
  have hK0 : KB w (w.alloc (Obj.cells #[Value.int IntKind.i64 p, Value.int IntKind.i64 m, Value.int IntKind.i64 b, Value.int IntKind.i64 o, Value.int IntKind.i64 s, Value.int IntKind.i64 v] 25)) ⟨p, m, b, o, s, v⟩ := ⟨hB0, by simp, C6.new w p m b o s v _⟩
  have HK1 : Hid (KB w ((w.alloc (Obj.cells #[Value.int IntKind.i64 p, Value.int IntKind.i64 m, Value.int IntKind.i64 b, Value.int IntKind.i64 o, Value.int IntKind.i64 s, Value.int IntKind.i64 v] 25)).alloc (Obj.cells #[Value.int IntKind.i64 3, Value.int IntKind.i64 0, Value.int IntKind.i64 0, Value.int IntKind.i64 1, Value.int IntKind.i64 0, Value.int IntKind.i64 0] 25)) ⟨p, m, b, o, s, v⟩) := hK0.later ((Below.refl _ _).alloc (Nat.le_refl _) _)
  have hC1 := C6.new (w.alloc (Obj.cells #[Value.int IntKind.i64 p, Value.int IntKind.i64 m, Value.int IntKind.i64 b, Value.int IntKind.i64 o, Value.int IntKind.i64 s, Value.int IntKind.i64 v] 25)) 3 0 0 1 0 0 25
  simp only [World.size_alloc] at hC1
  have HC1 : Hid (C6 ((w.alloc (Obj.cells #[Value.int IntKind.i64 p, Value.int IntKind.i64 m, Value.int IntKind.i64 b, Value.int IntKind.i64 o, Value.int IntKind.i64 s, Value.int IntKind.i64 v] 25)).alloc (Obj.cells #[Value.int IntKind.i64 3, Value.int IntKind.i64 0, Value.int IntKind.i64 0, Value.int IntKind.i64 1, Value.int IntKind.i64 0, Value.int IntKind.i64 0] 25)) (w.heap.size + 1) 0 ⟨3, 0, 0, 1, 0, 0⟩) := hC1
  clear hB0 hK0 hC1
  go_enter Try.func4, Try.ntmps4
  go_wp2_with fail
  refine (do_any none 0 0 true 3 0 0 1 0 0 [] _ (SR.nil _)).mono ?_
  rintro e w1 ⟨x, rfl, hx, hb1⟩
  rw [no_ok one_ok]
  rw [one_is] at hx
  obtain ⟨a1, n1, c1, rfl, hn1, _, _, ha1⟩ := hx.form
  obtain rfl : n1 = 1 := by simpa using hn1.symm
  obtain ⟨g, og, rfl, hRA, _⟩ := ha1 (by omega)
  have hC6 := hRA 0 (by simp)
  simp only [Nat.zero_mul, Nat.add_zero, List.getElem_cons_zero] at hC6
  obtain ⟨q0, q1, q2, q3, q4, q5⟩ := hC6
  have HK2 : Hid (KB w w1 ⟨p, m, b, o, s, v⟩) := HK1.out.later hb1
  obtain ⟨d0, d1, d2, d3, d4, d5⟩ := HC1.out.later hb1
  simp only [Nat.zero_add] at d0 d1 d2 d3 d4 d5
  have HCI : Hid (CI w1 (w.heap.size + 1) 3 0 0 1 0 0 g og 3 0 0 1 0 0 w1) := ⟨Below.refl _ _, ⟨d0, d1, d2, d3, d4, d5⟩, q0, q1, q2, q3, q4, q5⟩
  clear hb1 hx hn1 ha1 hRA q0 q1 q2 q3 q4 q5 d0 d1 d2 d3 d4 d5 HK1 HC1
  go_upto_region 3 with fail
  go_cut [41] from 7 (fun c w' => c = .bool false ∧ Below w1.heap.size w1 w')
  case first =>
    as_aux_lemma =>
      refine wp_region_quiet (C := CI w1 (w.heap.size + 1) 3 0 0 1 0 0 g og 3 0 0 1 0 0) (by kernel_rfl) (by kernel_rfl) (CI.later (W := w1) (Below.drew (Below.refl _ _)) HCI.out) ?_
      simp only [List.toList_toArray]
      go_big_quiet_want
      refine quiet_val (v := .nilIface) (fun w' hC => ?_) ?_
      · obtain ⟨z0, ⟨z1, z2, z3, z4, z5, z6⟩, y1, y2, y3, y4, y5, y6⟩ := hC
        go_simp
      simp only [Act.put, List.setIfInBounds_toArray, List.set_cons_zero, List.set_cons_succ]
      go_big_quiet_on
      go_big_quiet_want
      refine quiet_val (v := .bool false) (fun w' hC => ?_) ?_
      · obtain ⟨z0, ⟨z1, z2, z3, z4, z5, z6⟩, y1, y2, y3, y4, y5, y6⟩ := hC
        go_simp
      simp only [Act.put, List.setIfInBounds_toArray, List.set_cons_zero, List.set_cons_succ]
      go_big_quiet_on
      go_big_quiet_want
      refine quiet_val (v := .bool false) (fun w' hC => ?_) ?_
      · obtain ⟨z0, ⟨z1, z2, z3, z4, z5, z6⟩, y1, y2, y3, y4, y5, y6⟩ := hC
        go_simp
      simp only [Act.put, List.setIfInBounds_toArray, List.set_cons_zero, List.set_cons_succ]
      go_big_quiet_on
      go_big_quiet_want
      refine quiet_val (v := .slice (some ⟨g, og, none⟩) 1 c1) (fun w' hC => ?_) ?_
      · obtain ⟨z0, ⟨z1, z2, z3, z4, z5, z6⟩, y1, y2, y3, y4, y5, y6⟩ := hC
        go_simp
      simp only [Act.put, List.setIfInBounds_toArray, List.set_cons_zero, List.set_cons_succ]
      go_big_quiet_on
      go_big_quiet_want
      refine quiet_val (v := .int .i64 1) (fun w' hC => ?_) ?_
      · obtain ⟨z0, ⟨z1, z2, z3, z4, z5, z6⟩, y1, y2, y3, y4, y5, y6⟩ := hC
        go_simp
      simp only [Act.put, List.setIfInBounds_toArray, List.set_cons_zero, List.set_cons_succ]
      go_big_quiet_on
      go_big_quiet_want
      refine quiet_val (v := .bool false) (fun w' hC => ?_) ?_
      · obtain ⟨z0, ⟨z1, z2, z3, z4, z5, z6⟩, y1, y2, y3, y4, y5, y6⟩ := hC
        go_simp
      simp only [Act.put, List.setIfInBounds_toArray, List.set_cons_zero, List.set_cons_succ]
      go_big_quiet_on
      go_big_quiet_want
      refine quiet_val (v := .bool false) (fun w' hC => ?_) ?_
      · obtain ⟨z0, ⟨z1, z2, z3, z4, z5, z6⟩, y1, y2, y3, y4, y5, y6⟩ := hC
        go_simp
      simp only [Act.put, List.setIfInBounds_toArray, List.set_cons_zero, List.set_cons_succ]
      go_big_quiet_on
      go_big_quiet_want
      refine quiet_val (v := .bool false) (fun w' hC => ?_) ?_
      · obtain ⟨z0, ⟨z1, z2, z3, z4, z5, z6⟩, y1, y2, y3, y4, y5, y6⟩ := hC
        go_simp
      simp only [Act.put, List.setIfInBounds_toArray, List.set_cons_zero, List.set_cons_succ]
      go_big_quiet_on
      go_big_quiet_want
      refine quiet_val (v := .slice (some ⟨g, og, none⟩) 1 c1) (fun w' hC => ?_) ?_
      · obtain ⟨z0, ⟨z1, z2, z3, z4, z5, z6⟩, y1, y2, y3, y4, y5, y6⟩ := hC
        go_simp
      simp only [Act.put, List.setIfInBounds_toArray, List.set_cons_zero, List.set_cons_succ]
      go_big_quiet_on
      go_big_quiet_want
      refine quiet_val (v := .pointer (some ⟨g, og, none⟩)) (fun w' hC => ?_) ?_
      · obtain ⟨z0, ⟨z1, z2, z3, z4, z5, z6⟩, y1, y2, y3, y4, y5, y6⟩ := hC
        go_simp
      simp only [Act.put, List.setIfInBounds_toArray, List.set_cons_zero, List.set_cons_succ]
      go_big_quiet_on
      go_big_quiet_want
      refine quiet_val (v := .agg #[.int .i64 3, .int .i64 0, .int .i64 0, .int .i64 1, .int .i64 0, .int .i64 0]) (fun w' hC => ?_) ?_
      · obtain ⟨z0, ⟨z1, z2, z3, z4, z5, z6⟩, y1, y2, y3, y4, y5, y6⟩ := hC
        go_simp
      simp only [Act.put, List.setIfInBounds_toArray, List.set_cons_zero, List.set_cons_succ]
      go_big_quiet_on
      go_big_quiet_want
      refine quiet_val (v := .agg #[.int .i64 3, .int .i64 0, .int .i64 0, .int .i64 1, .int .i64 0, .int .i64 0]) (fun w' hC => ?_) ?_
      · obtain ⟨z0, ⟨z1, z2, z3, z4, z5, z6⟩, y1, y2, y3, y4, y5, y6⟩ := hC
        go_simp
      simp only [Act.put, List.setIfInBounds_toArray, List.set_cons_zero, List.set_cons_succ]
      go_big_quiet_on
      go_big_quiet_want
      refine quiet_val (v := .bool false) (fun w' hC => ?_) ?_
      · obtain ⟨z0, ⟨z1, z2, z3, z4, z5, z6⟩, y1, y2, y3, y4, y5, y6⟩ := hC
        go_simp
      simp only [Act.put, List.setIfInBounds_toArray, List.set_cons_zero, List.set_cons_succ]
      go_big_quiet_on
      go_big_quiet_want
      refine quiet_val (v := .bool false) (fun w' hC => ?_) ?_
      · obtain ⟨z0, ⟨z1, z2, z3, z4, z5, z6⟩, y1, y2, y3, y4, y5, y6⟩ := hC
        go_simp
      simp only [Act.put, List.setIfInBounds_toArray, List.set_cons_zero, List.set_cons_succ]
      go_big_quiet_on
      refine wpQuiet_nil ?_
      intro w' hC
      go_wp2_with fail
      go_meet
      case rel => exact ⟨rfl, hC.1⟩
  case rest =>
    obtain ⟨rfl, hB⟩ := hcut
    have HK3 : Hid (KB w wc ⟨p, m, b, o, s, v⟩) := HK2.out.later hB
    have HS3 : Hid (SR wc (.slice ao n cap) L) := HS.out.later HK3.out.below
    have HT3 : Hid (SR wc (.slice ao2 n2 cap2) M) := HT.out.later HK3.out.below
    clear hB HCI HK2
    go_wp2_with fail
    refine (diff_any _ _ _ _ _ _ L M _ HS3.out HT3.out).mono ?_
    rintro e w4 ⟨u, rfl, hso, hb4⟩
    obtain ⟨a4, n4, c4, rfl, _⟩ := hso.form
    have HK4 : Hid (KB w w4 ⟨p, m, b, o, s, v⟩) := HK3.out.later hb4
    have HO4 : Hid (SO w4 (.slice a4 n4 c4) (dfL L M)) := hso
    have HS4 : Hid (SR w4 (.slice ao n cap) L) := HS3.out.later hb4
    have HT4 : Hid (SR w4 (.slice ao2 n2 cap2) M) := HT3.out.later hb4
    obtain ⟨E, hE, hE2⟩ : ∃ E, noV (twN L M) = E ∧ ((twN L M = 0 ∧ E = .nilIface) ∨ ∃ k, E = .iface 45 (.int .i64 k)) := by
      refine ⟨_, rfl, ?_⟩
      by_cases h0 : twN L M = 0
      · exact .inl ⟨h0, no_ok h0⟩
      · exact .inr ⟨_, no_ne h0⟩
    rw [hE]
    have HE : Hid ((twN L M = 0 ∧ E = .nilIface) ∨ ∃ k, E = .iface 45 (.int .i64 k)) := hE2
    clear hso hb4 hE hE2 HS3 HT3 HK3
    go_upto_region 6 with fail
    go_cut [10, 49] from 7 (fun d c w' => d = .slice a4 n4 c4 ∧ w' = w4 ∧ ((twN L M = 0 ∧ c = .bool true) ∨ c = .bool false))
    case first =>
      as_aux_lemma =>
        rcases HE.out with ⟨h0, rfl⟩ | ⟨k, rfl⟩
        · go_wp2_with fail
          go_meet
          case rel => exact ⟨rfl, rfl, .inl ⟨h0, rfl⟩⟩
        · go_wp2_with fail
          go_meet
          case rel => exact ⟨rfl, rfl, .inr rfl⟩
    case rest =>
      obtain ⟨rfl, rfl, hc⟩ := hcut
      clear HE
      go_upto_if 49 with fail
      go_cut [] from 7 (fun w' => KB w w' ⟨p, m, b, o, s, v⟩)
      case first =>
        as_aux_lemma =>
          rcases hc with ⟨h0, rfl⟩ | rfl
          · have HA : Hid (alN L (dfL L M) = 0 ∧ smB (alL L (dfL L M)) M = true ∧ twN (alL L (dfL L M)) M = 0) := al_diff h0
            have HL : Hid (L.length ≤ 1000) := by
              have := (tb_iff.1 (tw_two h0).1).1
              show _ ≤ 1000
              omega
            clear h0
            go_wp2_with fail
            refine (all_any _ _ _ _ _ _ L (dfL L M) _ HS4.out HO4.out HL.out).mono ?_
            rintro e w5 ⟨x, rfl, hx, hb5⟩
            rw [no_ok HA.out.1]
            obtain ⟨a5, n5, c5, rfl, _⟩ := hx.form
            have HX : Hid (SR w5 (.slice a5 n5 c5) (alL L (dfL L M))) := hx
            have HT5 : Hid (SR w5 (.slice ao2 n2 cap2) M) := HT4.out.later hb5
            have HK5 : Hid (KB w w5 ⟨p, m, b, o, s, v⟩) := HK4.out.later hb5
            clear hx hb5
            go_wp2_with fail
            refine (same_any2 _ _ _ _ _ _ _ M _ HX.out HT5.out).mono ?_
            rintro e w6 ⟨rfl, hb6⟩
            rw [no_ok HA.out.2.2, HA.out.2.1]
            have HK6 : Hid (KB w w6 ⟨p, m, b, o, s, v⟩) := HK5.out.later hb6
            clear hb6
            go_wp2_with fail
            go_meet
            case rel => exact HK6.out
          · go_wp2_with fail
            go_meet
            case rel => exact HK4.out
      case rest =>
        have HK7 : Hid (KB w wc ⟨p, m, b, o, s, v⟩) := hcut
        have HS7 : Hid (SR wc (.slice ao n cap) L) := HS.out.later hcut.below
        obtain ⟨_, hlt, q0, q1, q2, q3, q4, q5⟩ := hcut
        simp only [Nat.zero_add] at q0 q1 q2 q3 q4 q5
        clear HK4 HO4 HS4 HT4
        by_cases hd : doN L true ⟨p, m, b, o, s, v⟩ = 0
        · have HD : Hid (doL L true ⟨p, m, b, o, s, v⟩ = L ++ [⟨p, m, b, o, s, v⟩] ∧ doN (L ++ [⟨p, m, b, o, s, v⟩]) false ⟨p, m, b, o, s, v⟩ = 0 ∧ doL (L ++ [⟨p, m, b, o, s, v⟩]) false ⟨p, m, b, o, s, v⟩ = L ∧ twN (L ++ [⟨p, m, b, o, s, v⟩]) L = 0 ∧ smB (L ++ [⟨p, m, b, o, s, v⟩]) L = false) := do_back hd
          have HD0 : Hid (doN L true ⟨p, m, b, o, s, v⟩ = 0) := hd
          have HN12 : Hid (L.length < 12) := (add_yes hd).2.2.2
          clear hd
          go_wp2_with fail
          refine (do_any _ _ _ true p m b o s v L _ HS7.out).mono ?_
          rintro e w8 ⟨x, rfl, hx, hb8⟩
          rw [no_ok HD0.out]
          rw [HD.out.1] at hx
          obtain ⟨a8, n8, c8, rfl, hn8, _⟩ := hx.form
          have HX8 : Hid (SR w8 (.slice a8 n8 c8) (L ++ [⟨p, m, b, o, s, v⟩])) := hx
          have HN9 : Hid (n8 = n + 1) := by
            show n8 = n + 1
            have := HLN.out
            simp at hn8
            omega
          have hn10 : n < 12 := by have := HN12.out; have := HLN.out; omega
          have HK8 : Hid (KB w w8 ⟨p, m, b, o, s, v⟩) := HK7.out.later hb8
          have HS8 : Hid (SR w8 (.slice ao n cap) L) := HS7.out.later hb8
          obtain ⟨_, hlt8, r0, r1, r2, r3, r4, r5⟩ := HK7.out.later hb8
          simp only [Nat.zero_add] at r0 r1 r2 r3 r4 r5
          clear hx hb8 hn8 q0 q1 q2 q3 q4 q5 HK7 HS7
          go_wp2_with fail
          refine (do_any a8 n8 c8 false p m b o s v _ _ HX8.out).mono ?_
          rintro e w9 ⟨y, rfl, hy, hb9⟩
          rw [no_ok HD.out.2.1]
          rw [HD.out.2.2.1] at hy
          obtain ⟨a9, n9, c9, rfl, _⟩ := hy.form
          have HY9 : Hid (SR w9 (.slice a9 n9 c9) L) := hy
          have HX9 : Hid (SR w9 (.slice a8 n8 c8) (L ++ [⟨p, m, b, o, s, v⟩])) := HX8.out.later hb9
          have HS9 : Hid (SR w9 (.slice ao n cap) L) := HS8.out.later hb9
          have HB9 : Hid (Below w.heap.size w w9) := (HK8.out.later hb9).below
          clear hy hb9 r0 r1 r2 r3 r4 r5
          go_wp2_with fail
          refine (tabs_any _ _ _ _ _ _ L _ HY9.out HS9.out).mono ?_
          rintro e w10 ⟨rfl, hb10⟩
          have HX10 : Hid (SR w10 (.slice a8 n8 c8) (L ++ [⟨p, m, b, o, s, v⟩])) := HX9.out.later hb10
          have HS10 : Hid (SR w10 (.slice ao n cap) L) := HS9.out.later hb10
          have HB10 : Hid (Below w.heap.size w w10) := HB9.out.trans (hb10.mono HB9.out.size)
          clear hb10
          go_wp2_with fail
          refine (same_any2 _ _ _ _ _ _ _ L _ HX10.out HS10.out).mono ?_
          rintro e w11 ⟨rfl, hb11⟩
          rw [no_ok HD.out.2.2.2.1, HD.out.2.2.2.2]
          have HB11 : Hid (Below w.heap.size w w11) := HB10.out.trans (hb11.mono HB10.out.size)
          have e5 : IntKind.i64.wrap ((n : Int) + 1) = (n8 : Int) := by
            have := HN9.out
            rw [IntKind.wrap_i64]
            omega
          clear hb11
          go_wp2
          go_ret
          exact ⟨rfl, HB11.out⟩
        · have HD0 : Hid (doN L true ⟨p, m, b, o, s, v⟩ ≠ 0) := hd
          clear hd
          go_wp2_with fail
          refine (do_any _ _ _ true p m b o s v L _ HS7.out).mono ?_
          rintro e w8 ⟨x, rfl, hx, hb8⟩
          rw [no_ne HD0.out]
          have HB8 : Hid (Below w.heap.size w w8) := (HK7.out.later hb8).below
          clear hx hb8 q0 q1 q2 q3 q4 q5
          go_wp2
          go_ret
          exact ⟨rfl, HB8.out⟩
end Go.Proofs.Ytmoengelklnbeab.tableBack
