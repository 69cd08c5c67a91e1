/- The walk of CubeTells: it answers true, whatever cubes, header and text it is called with. -/
import Derived.Test.YtclecpcnmfhhcaaDoorTellsCon
import Derived.Test.YtclecpcnmfhhcaaDoorTellsMath
import Derived.Test.YtclecpcnmfhhcaaDoorKeep
import Derived.Test.YtclecpcnmfhhcaaDoorRefRead
import Derived.Test.YtclecpcnmfhhcaaDoorCubeCon3
import Derived.Test.YtclecpcnmfhhcaaDoorCubeFirst
import Derived.Deep.CutRange
namespace Go.Proofs.YtclecpcnmfhhcaaDoor.tells
open Go.RowKit
set_option linter.unusedVariables false
set_option linter.unusedSimpArgs false

/-- The cells that stay: the handle of the type error, the two cubes. -/
def l0 (w : World) (m b n c : Int) : List (Addr × Value) :=
  [(⟨0, 0, none⟩, .iface 93 (.agg #[.pointer (some ⟨1, 27, none⟩)])),
    (⟨w.heap.size, 0, none⟩, .int .i64 m), (⟨w.heap.size, 1, none⟩, .int .i64 b), (⟨w.heap.size + 1, 0, none⟩, .int .i64 n), (⟨w.heap.size + 1, 1, none⟩, .int .i64 c)]
theorem open0 {w W : World} {m b n c : Int} {l : List (Addr × Value)} (h : KL w (l ++ l0 w m b n c) W) :
    HasErr W ∧ W.cell? ⟨w.heap.size, 0, none⟩ = some (.int .i64 m) ∧ W.cell? ⟨w.heap.size, 1, none⟩ = some (.int .i64 b) ∧
      W.cell? ⟨w.heap.size + 1, 0, none⟩ = some (.int .i64 n) ∧ W.cell? ⟨w.heap.size + 1, 1, none⟩ = some (.int .i64 c) :=
  ⟨h.at (by simp [l0]), h.at (by simp [l0]), h.at (by simp [l0]), h.at (by simp [l0]), h.at (by simp [l0])⟩

set_option maxRecDepth 100000 in
set_option maxHeartbeats 2000000 in
theorem walk (m b n c h : Int) (s : ByteArray) (w : World) (hg : HasErr w) :
    Calls Tryd.prog 3 #[.agg #[.int .i64 m, .int .i64 b], .agg #[.int .i64 n, .int .i64 c], .int .i64 h, .string s] w fun e w' => e = .returned (.bool true) ∧ Below w.heap.size w w' := by
  have HG : Hid (HasErr w) := hg
  clear hg
  go_enter Tryd.func3, Tryd.ntmps3
  go_wp2_with fail
  have HK0 : Hid (KL w ([] ++ l0 w m b n c) ((w.alloc (Obj.cells #[.int .i64 m, .int .i64 b] 23)).alloc (Obj.cells #[.int .i64 n, .int .i64 c] 23))) := by
    show KL _ _ _
    have hb : Below w.heap.size w ((w.alloc (Obj.cells #[.int .i64 m, .int .i64 b] 23)).alloc (Obj.cells #[.int .i64 n, .int .i64 c] 23)) := ((Below.refl _ _).alloc (Nat.le_refl _) _).alloc (by simp) _
    refine ⟨hb, ?_⟩
    simp only [List.nil_append, l0, List.forall_mem_cons]
    refine ⟨HG.out.later hb, ?_, ?_, ?_, ?_, fun p hp => by cases hp⟩ <;> simp
  refine (refCube_any _ _ _).mono ?_
  rintro e w1 ⟨rfl, hb1⟩
  have HK1 : Hid (KL w ([] ++ l0 w m b n c) w1) := HK0.out.later hb1
  clear HK0 hb1
  obtain ⟨_, A0, A1, B0, B1⟩ := open0 HK1.out
  go_wp2_with fail
  refine (check_any _ _ _).mono ?_
  rintro e w2 ⟨rfl, hb2⟩
  have HK2 : Hid (KL w ([] ++ l0 w m b n c) w2) := HK1.out.later hb2
  clear HK1 hb2 A0 A1 B0 B1
  go_wp2_with fail
  refine (same_ref _ _ _ (open0 HK2.out).1).mono ?_
  rintro e w3 ⟨rfl, hb3⟩
  have HK3 : Hid (KL w ([] ++ l0 w m b n c) w3) := HK2.out.later hb3
  clear HK2 hb3
  go_upto_if 40 with fail
  go_cut [9, 10, 11] from 9 (fun e one want w' => e = .int .i64 (refN m b) ∧ one = .bool true ∧ want = .string (wantS m b) ∧ KL w ([] ++ l0 w m b n c) w')
  case first =>
    cases ho : okB m b
    · have hz : (refN m b == 0) = false := by rw [ok_refN, ho]
      go_wp2_with fail
      go_meet
      case rel => exact ⟨rfl, rfl, by rw [wantS_no ho], HK3.out⟩
    · have hz : (refN m b == 0) = true := by rw [ok_refN, ho]
      obtain ⟨_, A0, A1, B0, B1⟩ := open0 HK3.out
      have HO : Hid (okB m b = true) := ho
      clear ho
      go_wp2_with fail
      refine (refShow_any _ _ _ HO.out).mono ?_
      rintro e w4 ⟨rfl, hb4⟩
      have HK4 : Hid (KL w ([] ++ l0 w m b n c) w4) := HK3.out.later hb4
      clear hb4
      go_wp2_with fail
      go_meet
      case rel => exact ⟨rfl, rfl, by rw [wantS_ok HO.out], HK4.out⟩
  case rest =>
    obtain ⟨rfl, rfl, rfl, hK⟩ := hcut
    clear HK3 HG
    have HK : Hid (KL w ([] ++ l0 w m b n c) wc) := hK
    obtain ⟨_, A0, A1, B0, B1⟩ := open0 HK.out
    clear hK
    go_wp2_with fail
    refine (print_any _ _ _).mono ?_
    rintro e w4 ⟨rfl, hb4⟩
    have HK4 : Hid (KL w ([] ++ l0 w m b n c) w4) := HK.out.later hb4
    clear HK hb4 A0 A1 B0 B1
    go_wp2_with fail
    refine (same_ref _ _ _ (open0 HK4.out).1).mono ?_
    rintro e w5 ⟨rfl, hb5⟩
    have HK5 : Hid (KL w ([] ++ l0 w m b n c) w5) := HK4.out.later hb5
    clear HK4 hb5
    go_wp2_with fail
    refine (refRead_any _ _).mono ?_
    rintro e w6 ⟨rfl, hb6⟩
    have HK6 : Hid (KL w ([] ++ l0 w m b n c) w6) := HK5.out.later hb6
    clear HK5 hb6
    go_upto_if 57 with fail
    go_cut [9, 10, 11, 12, 14, 15] from 9 (fun e one want got two p w' => e = .int .i64 (psN s) ∧ one = .bool true ∧ want = .string (wantS m b) ∧ got = .string (wantS m b) ∧ two = .bool true ∧
      ∃ C, p = .pointer (some ⟨C, 0, none⟩) ∧ KL w ([(⟨C, 0, none⟩, .int .i64 (psM s)), (⟨C, 1, none⟩, .int .i64 (psB s))] ++ l0 w m b n c) w')
    case first =>
      have HK7 : Hid (KL w ([(⟨w6.heap.size, 0, none⟩, .int .i64 (psM s)), (⟨w6.heap.size, 1, none⟩, .int .i64 (psB s))] ++ l0 w m b n c) (w6.alloc (.cells #[.int .i64 (psM s), .int .i64 (psB s)] 23))) :=
        ((HK6.out.alloc _).add (by simp)).add (by simp)
      cases hp : psOk s
      · go_wp2_with fail
        go_meet
        case rel => exact ⟨by rw [psN_no hp], rfl, rfl, rfl, rfl, _, rfl, HK7.out⟩
      · go_wp2_with fail
        go_meet
        case rel => exact ⟨by rw [psN_ok hp], rfl, rfl, rfl, rfl, _, rfl, HK7.out⟩
    case rest =>
      obtain ⟨rfl, rfl, rfl, rfl, rfl, C, rfl, hK⟩ := hcut
      clear HK6
      have HK : Hid (KL w ([(⟨C, 0, none⟩, .int .i64 (psM s)), (⟨C, 1, none⟩, .int .i64 (psB s))] ++ l0 w m b n c) wc) := hK
      clear hK
      go_wp2_with fail
      refine (parse_any _ _).mono ?_
      rintro e w7 ⟨rfl, hb7⟩
      have HK7 : Hid (KL w ([(⟨w7.heap.size, 0, none⟩, .int .i64 (psM s)), (⟨w7.heap.size, 1, none⟩, .int .i64 (psB s)), (⟨C, 0, none⟩, .int .i64 (psM s)), (⟨C, 1, none⟩, .int .i64 (psB s))] ++ l0 w m b n c) (w7.alloc (.cells #[.int .i64 (psM s), .int .i64 (psB s)] 23))) :=
        (((HK.out.later hb7).alloc _).add (by simp)).add (by simp)
      clear HK hb7
      go_wp2_with fail
      generalize w7.alloc (.cells #[.int .i64 (psM s), .int .i64 (psB s)] 23) = W7 at *
      generalize w7.heap.size = D at *
      refine (same_ps _ _ (open0 HK7.out).1).mono ?_
      rintro e w8 ⟨rfl, hb8⟩
      have HK8 : Hid (KL w ([(⟨D, 0, none⟩, .int .i64 (psM s)), (⟨D, 1, none⟩, .int .i64 (psB s)), (⟨C, 0, none⟩, .int .i64 (psM s)), (⟨C, 1, none⟩, .int .i64 (psB s))] ++ l0 w m b n c) w8) := HK7.out.later hb8
      clear HK7 hb8
      obtain ⟨_, A0, A1, B0, B1⟩ := open0 HK8.out
      go_wp2_with fail
      refine (refHas_any _ _ _ _).mono ?_
      rintro e w9 ⟨rfl, hb9⟩
      have HK9 : Hid (KL w ([(⟨D, 0, none⟩, .int .i64 (psM s)), (⟨D, 1, none⟩, .int .i64 (psB s)), (⟨C, 0, none⟩, .int .i64 (psM s)), (⟨C, 1, none⟩, .int .i64 (psB s))] ++ l0 w m b n c) w9) := HK8.out.later hb9
      clear HK8 hb9 A0 A1 B0 B1
      obtain ⟨_, A0, A1, B0, B1⟩ := open0 HK9.out
      go_wp2_with fail
      refine (headers_any _ _ _).mono ?_
      rintro e w10 ⟨a, cap, rfl, hx, hb10⟩
      have HX : Hid (0 < (hdTo m b 16).length → ∃ g, a = some ⟨g, 0, none⟩ ∧ w10.cell? ⟨g, 0, none⟩ = some (.int .i64 ((hdTo m b 16).headD 0))) := hx
      have HKa : Hid (KL w ([(⟨D, 0, none⟩, .int .i64 (psM s)), (⟨D, 1, none⟩, .int .i64 (psB s)), (⟨C, 0, none⟩, .int .i64 (psM s)), (⟨C, 1, none⟩, .int .i64 (psB s))] ++ l0 w m b n c) w10) := HK9.out.later hb10
      clear HK9 hb10 hx A0 A1 B0 B1
      have hlen := hd_le m b 16
      have HPOS : Hid (decide (0 < ((hdTo m b 16).length : Int)) = okB m b) := hd_pos m b
      have HLEN : Hid (cntN m b = ((hdTo m b 16).length : Int)) := hd_len m b
      have HZERO : Hid (okB m b = false → (hdTo m b 16).length = 0) := fun h => by rw [(hd_no h).1]; rfl
      have HHD : Hid (okB m b = true → 0 < (hdTo m b 16).length ∧ (hdTo m b 16).headD 0 = fstN m b) := fun h => ⟨(hd_ok h).2.1, (hd_ok h).2.2⟩
      generalize (hdTo m b 16).headD 0 = H0 at *
      generalize (hdTo m b 16).length = L at *
      go_upto_if 73 with fail
      go_cut [10, 11, 12, 14, 15, 17, 18, 19, 20, 21] from 9 (fun one want got two p q three is x first w' => one = .bool true ∧ want = .string (wantS m b) ∧ got = .string (wantS m b) ∧ two = .bool true ∧
        p = .pointer (some ⟨C, 0, none⟩) ∧ q = .pointer (some ⟨D, 0, none⟩) ∧ three = .bool true ∧ is = .bool (hasB m b h) ∧ x = .slice a L cap ∧ first = .int .i64 (fstN m b) ∧
        KL w ([(⟨D, 0, none⟩, .int .i64 (psM s)), (⟨D, 1, none⟩, .int .i64 (psB s)), (⟨C, 0, none⟩, .int .i64 (psM s)), (⟨C, 1, none⟩, .int .i64 (psB s))] ++ l0 w m b n c) w')
      case first =>
        cases ho : okB m b
        · obtain rfl := HZERO.out ho
          have e1 : fstN m b = 0 := (hd_no ho).2.2
          go_wp2_with fail
          go_meet
          case rel => exact ⟨rfl, rfl, rfl, rfl, rfl, rfl, rfl, rfl, rfl, by rw [e1], HKa.out⟩
        · obtain ⟨e1, e2⟩ := HHD.out ho
          subst e2
          obtain ⟨g, rfl, hcell⟩ := HX.out e1
          have e3 : (0 : Int) < (L : Int) := by omega
          clear ho
          go_wp2_with fail
          go_meet
          case rel => exact ⟨rfl, rfl, rfl, rfl, rfl, rfl, rfl, rfl, rfl, rfl, HKa.out⟩
      case rest =>
        obtain ⟨rfl, rfl, rfl, rfl, rfl, rfl, rfl, rfl, rfl, rfl, hK⟩ := hcut
        clear HKa HX HHD
        have HK : Hid (KL w ([(⟨D, 0, none⟩, .int .i64 (psM s)), (⟨D, 1, none⟩, .int .i64 (psB s)), (⟨C, 0, none⟩, .int .i64 (psM s)), (⟨C, 1, none⟩, .int .i64 (psB s))] ++ l0 w m b n c) wc) := hK
        clear hK
        go_upto_region 20 with fail
        go_cut [10, 11, 12, 14, 15, 17, 18, 19, 20, 21, 22, 23] from 9 (fun one want got two p q three is x first many ins w' => one = .bool true ∧ want = .string (wantS m b) ∧ got = .string (wantS m b) ∧ two = .bool true ∧
          p = .pointer (some ⟨C, 0, none⟩) ∧ q = .pointer (some ⟨D, 0, none⟩) ∧ three = .bool true ∧ is = .bool (hasB m b h) ∧ x = .slice a L cap ∧ first = .int .i64 (fstN m b) ∧ many = .int .i64 0 ∧ ins = .bool (okB m b && okB n c) ∧
          KL w ([(⟨D, 0, none⟩, .int .i64 (psM s)), (⟨D, 1, none⟩, .int .i64 (psB s)), (⟨C, 0, none⟩, .int .i64 (psM s)), (⟨C, 1, none⟩, .int .i64 (psB s))] ++ l0 w m b n c) w')
        case first =>
          cases ho : okB m b
          · obtain rfl := HZERO.out ho
            go_wp2_with fail
            go_meet
            case rel => exact ⟨rfl, rfl, rfl, rfl, rfl, rfl, rfl, rfl, rfl, rfl, rfl, by rw [ho]; rfl, HK.out⟩
          · have hz : decide (0 < (L : Int)) = true := HPOS.out.trans ho
            have hz2 : (0 : Int) < (L : Int) := of_decide_eq_true hz
            obtain ⟨_, A0, A1, B0, B1⟩ := open0 HK.out
            have HO : Hid (okB m b = true) := ho
            clear ho
            go_wp2_with fail
            refine (refCube_any _ _ _).mono ?_
            rintro e w4 ⟨rfl, hb4⟩
            have HK4 := HK.out.later hb4
            clear hb4
            go_wp2_with fail
            go_meet
            case rel => exact ⟨rfl, rfl, rfl, rfl, rfl, rfl, rfl, rfl, rfl, rfl, rfl, by rw [ok_refN, HO.out]; rfl, HK4⟩
        case rest =>
          obtain ⟨rfl, rfl, rfl, rfl, rfl, rfl, rfl, rfl, rfl, rfl, rfl, rfl, hK⟩ := hcut
          clear HK HPOS HZERO
          go_wp2
          go_loopw [22, 23, 24] (fun many ins i w' => ∃ k : Nat, k ≤ 16 ∧ i = .int .i64 k ∧ many = .int .i64 (manyTo m b n c k : Nat) ∧ ins = .bool (inTo m b n c k) ∧ KL w ([(⟨D, 0, none⟩, .int .i64 (psM s)), (⟨D, 1, none⟩, .int .i64 (psB s)), (⟨C, 0, none⟩, .int .i64 (psM s)), (⟨C, 1, none⟩, .int .i64 (psB s))] ++ l0 w m b n c) w') (fun _ _ i _ => 16 - (intOf i).toNat)
          case atStart => exact ⟨0, by omega, rfl, rfl, by simp [inTo], hK⟩
          case round =>
            clear hK
            obtain ⟨k, hk, rfl, rfl, rfl, hK⟩ := hrel
            have HK : Hid (KL w ([(⟨D, 0, none⟩, .int .i64 (psM s)), (⟨D, 1, none⟩, .int .i64 (psB s)), (⟨C, 0, none⟩, .int .i64 (psM s)), (⟨C, 1, none⟩, .int .i64 (psB s))] ++ l0 w m b n c) wr) := hK
            clear hK
            have hmk := many_le m b n c k
            obtain ⟨_, A0, A1, B0, B1⟩ := open0 HK.out
            by_cases hlt : k < 16
            · have HMN : Hid (manyTo m b n c (k + 1) = manyTo m b n c k + if (hasB m b (k : Int) && hasB n c (k : Int)) = true then 1 else 0) := many_next m b n c k
              have HIN : Hid (inTo m b n c (k + 1) = (inTo m b n c k && (!hasB m b (k : Int) || hasB n c (k : Int)))) := in_next m b n c k
              generalize manyTo m b n c k = M at *
              generalize inTo m b n c k = I at *
              go_wp2_with fail
              refine (refHas_any _ _ _ _).mono ?_
              rintro e x1 ⟨rfl, y1⟩
              have T1 : Hid (KL w ([(⟨D, 0, none⟩, .int .i64 (psM s)), (⟨D, 1, none⟩, .int .i64 (psB s)), (⟨C, 0, none⟩, .int .i64 (psM s)), (⟨C, 1, none⟩, .int .i64 (psB s))] ++ l0 w m b n c) x1) := HK.out.later y1
              clear A0 A1 B0 B1 y1
              obtain ⟨_, A0, A1, B0, B1⟩ := open0 T1.out
              go_wp2_with fail
              refine (refHas_any _ _ _ _).mono ?_
              rintro e x2 ⟨rfl, y2⟩
              have T2 : Hid (KL w ([(⟨D, 0, none⟩, .int .i64 (psM s)), (⟨D, 1, none⟩, .int .i64 (psB s)), (⟨C, 0, none⟩, .int .i64 (psM s)), (⟨C, 1, none⟩, .int .i64 (psB s))] ++ l0 w m b n c) x2) := T1.out.later y2
              clear A0 A1 B0 B1 y2
              generalize hasB m b (k : Int) = P at *
              generalize hasB n c (k : Int) = Q at *
              cases P <;> cases Q <;> cases I
              all_goals
                go_wp2
                go_roundw
                case rel => exact ⟨k + 1, by omega, by go_num, by rw [HMN.out]; simp, by rw [HIN.out]; rfl, T2.out⟩
                case measure => simp [intOf]; omega
            · obtain rfl : k = 16 := by omega
              have HMM : Hid (decide (0 < (manyTo m b n c 16 : Int)) = mtOk m b n c) := many_met m b n c
              have HII : Hid (inTo m b n c 16 = insB m b n c) := in_ins m b n c
              rw [HII.out]
              clear HII
              generalize manyTo m b n c 16 = M at *
              go_wp2_with fail
              refine (meet_any _ _ _ _ _).mono ?_
              rintro e x1 ⟨rfl, y1⟩
              have T1 : Hid (KL w ([(⟨D, 0, none⟩, .int .i64 (psM s)), (⟨D, 1, none⟩, .int .i64 (psB s)), (⟨C, 0, none⟩, .int .i64 (psM s)), (⟨C, 1, none⟩, .int .i64 (psB s))] ++ l0 w m b n c) x1) := HK.out.later y1
              clear A0 A1 B0 B1 y1 HK
              cases hmt : mtOk m b n c
              · have e1 : mtM m b n c = 0 := by simp [mtM, hmt]
                have e2 : mtB m b n c = 0 := by simp [mtB, hmt]
                have hz : decide (0 < (M : Int)) = false := HMM.out.trans hmt
                rw [e1, e2]
                clear e1 e2 hmt HMM
                obtain rfl : M = 0 := by have := of_decide_eq_false hz; omega
                clear hz
                go_wp2
                refine wp_loop_rounds 1 ?_
                rw [rounds_succ]
                have T2 := T1.out.alloc (.cells #[.int .i64 0, .int .i64 0] 23)
                obtain ⟨_, A0, A1, B0, B1⟩ := open0 T2
                have D0 := (T2).at (a := ⟨D, 0, none⟩) (v := .int .i64 (psM s)) (by simp)
                have D1 := (T2).at (a := ⟨D, 1, none⟩) (v := .int .i64 (psB s)) (by simp)
                have C0 := (T2).at (a := ⟨C, 0, none⟩) (v := .int .i64 (psM s)) (by simp)
                have C1 := (T2).at (a := ⟨C, 1, none⟩) (v := .int .i64 (psB s)) (by simp)
                go_wp2_with fail
                refine (has_any _ _ _ _).mono ?_
                rintro e x1 ⟨rfl, y1⟩
                have T1 : Hid (KL w ([(⟨D, 0, none⟩, .int .i64 (psM s)), (⟨D, 1, none⟩, .int .i64 (psB s)), (⟨C, 0, none⟩, .int .i64 (psM s)), (⟨C, 1, none⟩, .int .i64 (psB s))] ++ l0 w m b n c) x1) := (T2).later y1
                clear A0 A1 B0 B1 C0 C1 D0 D1 y1
                obtain ⟨_, A0, A1, B0, B1⟩ := open0 T1.out
                go_wp2_with fail
                refine (count_any _ _ _).mono ?_
                rintro e x2 ⟨rfl, y2⟩
                rw [HLEN.out]
                have T2 : Hid (KL w ([(⟨D, 0, none⟩, .int .i64 (psM s)), (⟨D, 1, none⟩, .int .i64 (psB s)), (⟨C, 0, none⟩, .int .i64 (psM s)), (⟨C, 1, none⟩, .int .i64 (psB s))] ++ l0 w m b n c) x2) := T1.out.later y2
                clear A0 A1 B0 B1 y2
                obtain ⟨_, A0, A1, B0, B1⟩ := open0 T2.out
                go_wp2_with fail
                refine (first_any _ _ _).mono ?_
                rintro e x3 ⟨rfl, y3⟩
                have T3 : Hid (KL w ([(⟨D, 0, none⟩, .int .i64 (psM s)), (⟨D, 1, none⟩, .int .i64 (psB s)), (⟨C, 0, none⟩, .int .i64 (psM s)), (⟨C, 1, none⟩, .int .i64 (psB s))] ++ l0 w m b n c) x3) := T2.out.later y3
                clear A0 A1 B0 B1 y3
                obtain ⟨_, A0, A1, B0, B1⟩ := open0 T3.out
                go_wp2_with fail
                refine (inside_any _ _ _ _ _).mono ?_
                rintro e x4 ⟨rfl, y4⟩
                have T4 : Hid (KL w ([(⟨D, 0, none⟩, .int .i64 (psM s)), (⟨D, 1, none⟩, .int .i64 (psB s)), (⟨C, 0, none⟩, .int .i64 (psM s)), (⟨C, 1, none⟩, .int .i64 (psB s))] ++ l0 w m b n c) x4) := T3.out.later y4
                clear A0 A1 B0 B1 y4
                go_wp2
                go_ret
                exact ⟨rfl, T4.out.below⟩
              · have hz : decide (0 < (M : Int)) = true := HMM.out.trans hmt
                have HMT : Hid (mtOk m b n c = true) := hmt
                have hz2 : (0 : Int) < (M : Int) := of_decide_eq_true hz
                clear hmt HMM
                go_wp2
                have T2 : Hid (KL w ([(⟨x1.heap.size, 0, none⟩, .int .i64 (mtM m b n c)), (⟨x1.heap.size, 1, none⟩, .int .i64 (mtB m b n c)), (⟨D, 0, none⟩, .int .i64 (psM s)), (⟨D, 1, none⟩, .int .i64 (psB s)), (⟨C, 0, none⟩, .int .i64 (psM s)), (⟨C, 1, none⟩, .int .i64 (psB s))] ++ l0 w m b n c) (x1.alloc (.cells #[.int .i64 (mtM m b n c), .int .i64 (mtB m b n c)] 23))) := ((T1.out.alloc _).add (by simp)).add (by simp)
                clear T1
                generalize x1.alloc (.cells #[.int .i64 (mtM m b n c), .int .i64 (mtB m b n c)] 23) = X2 at *
                generalize x1.heap.size = MM at *
                go_loopw [29] (fun i w' => ∃ k : Nat, k ≤ 16 ∧ i = .int .i64 k ∧ KL w ([(⟨MM, 0, none⟩, .int .i64 (mtM m b n c)), (⟨MM, 1, none⟩, .int .i64 (mtB m b n c)), (⟨D, 0, none⟩, .int .i64 (psM s)), (⟨D, 1, none⟩, .int .i64 (psB s)), (⟨C, 0, none⟩, .int .i64 (psM s)), (⟨C, 1, none⟩, .int .i64 (psB s))] ++ l0 w m b n c) w') (fun i _ => 16 - (intOf i).toNat)
                case atStart => exact ⟨0, by omega, rfl, T2.out⟩
                case round =>
                  clear T2
                  obtain ⟨k, hk, rfl, hK⟩ := hrel
                  have HK : Hid (KL w ([(⟨MM, 0, none⟩, .int .i64 (mtM m b n c)), (⟨MM, 1, none⟩, .int .i64 (mtB m b n c)), (⟨D, 0, none⟩, .int .i64 (psM s)), (⟨D, 1, none⟩, .int .i64 (psB s)), (⟨C, 0, none⟩, .int .i64 (psM s)), (⟨C, 1, none⟩, .int .i64 (psB s))] ++ l0 w m b n c) wr) := hK
                  clear hK
                  by_cases hlt : k < 16
                  · have HMH : Hid (hasB (mtM m b n c) (mtB m b n c) (k : Int) = (hasB m b (k : Int) && hasB n c (k : Int))) := met_has HMT.out hlt
                    obtain ⟨_, A0, A1, B0, B1⟩ := open0 HK.out
                    go_wp2_with fail
                    refine (refHas_any _ _ _ _).mono ?_
                    rintro e x3 ⟨rfl, y3⟩
                    have T3 : Hid (KL w ([(⟨MM, 0, none⟩, .int .i64 (mtM m b n c)), (⟨MM, 1, none⟩, .int .i64 (mtB m b n c)), (⟨D, 0, none⟩, .int .i64 (psM s)), (⟨D, 1, none⟩, .int .i64 (psB s)), (⟨C, 0, none⟩, .int .i64 (psM s)), (⟨C, 1, none⟩, .int .i64 (psB s))] ++ l0 w m b n c) x3) := HK.out.later y3
                    clear A0 A1 B0 B1 y3
                    obtain ⟨_, A0, A1, B0, B1⟩ := open0 T3.out
                    go_wp2_with fail
                    refine (refHas_any _ _ _ _).mono ?_
                    rintro e x4 ⟨rfl, y4⟩
                    have T4 : Hid (KL w ([(⟨MM, 0, none⟩, .int .i64 (mtM m b n c)), (⟨MM, 1, none⟩, .int .i64 (mtB m b n c)), (⟨D, 0, none⟩, .int .i64 (psM s)), (⟨D, 1, none⟩, .int .i64 (psB s)), (⟨C, 0, none⟩, .int .i64 (psM s)), (⟨C, 1, none⟩, .int .i64 (psB s))] ++ l0 w m b n c) x4) := T3.out.later y4
                    clear A0 A1 B0 B1 y4
                    have M0 := T4.out.at (a := ⟨MM, 0, none⟩) (v := .int .i64 (mtM m b n c)) (by simp)
                    have M1 := T4.out.at (a := ⟨MM, 1, none⟩) (v := .int .i64 (mtB m b n c)) (by simp)
                    go_wp2_with fail
                    refine (refHas_any _ _ _ _).mono ?_
                    rintro e x5 ⟨rfl, y5⟩
                    rw [HMH.out]
                    have T5 : Hid (KL w ([(⟨MM, 0, none⟩, .int .i64 (mtM m b n c)), (⟨MM, 1, none⟩, .int .i64 (mtB m b n c)), (⟨D, 0, none⟩, .int .i64 (psM s)), (⟨D, 1, none⟩, .int .i64 (psB s)), (⟨C, 0, none⟩, .int .i64 (psM s)), (⟨C, 1, none⟩, .int .i64 (psB s))] ++ l0 w m b n c) x5) := T4.out.later y5
                    clear M0 M1 y5 HMH
                    generalize hasB m b (k : Int) = P at *
                    generalize hasB n c (k : Int) = Q at *
                    cases P <;> cases Q
                    all_goals
                      go_wp2
                      go_roundw
                      case rel => exact ⟨k + 1, by omega, by go_num, T5.out⟩
                      case measure => simp [intOf]; omega
                  · obtain rfl : k = 16 := by omega
                    obtain ⟨_, A0, A1, B0, B1⟩ := open0 HK.out
                    have D0 := HK.out.at (a := ⟨D, 0, none⟩) (v := .int .i64 (psM s)) (by simp)
                    have D1 := HK.out.at (a := ⟨D, 1, none⟩) (v := .int .i64 (psB s)) (by simp)
                    have C0 := HK.out.at (a := ⟨C, 0, none⟩) (v := .int .i64 (psM s)) (by simp)
                    have C1 := HK.out.at (a := ⟨C, 1, none⟩) (v := .int .i64 (psB s)) (by simp)
                    go_wp2_with fail
                    refine (has_any _ _ _ _).mono ?_
                    rintro e x1 ⟨rfl, y1⟩
                    have T1 : Hid (KL w ([(⟨MM, 0, none⟩, .int .i64 (mtM m b n c)), (⟨MM, 1, none⟩, .int .i64 (mtB m b n c)), (⟨D, 0, none⟩, .int .i64 (psM s)), (⟨D, 1, none⟩, .int .i64 (psB s)), (⟨C, 0, none⟩, .int .i64 (psM s)), (⟨C, 1, none⟩, .int .i64 (psB s))] ++ l0 w m b n c) x1) := HK.out.later y1
                    clear A0 A1 B0 B1 C0 C1 D0 D1 y1
                    obtain ⟨_, A0, A1, B0, B1⟩ := open0 T1.out
                    go_wp2_with fail
                    refine (count_any _ _ _).mono ?_
                    rintro e x2 ⟨rfl, y2⟩
                    rw [HLEN.out]
                    have T2 : Hid (KL w ([(⟨MM, 0, none⟩, .int .i64 (mtM m b n c)), (⟨MM, 1, none⟩, .int .i64 (mtB m b n c)), (⟨D, 0, none⟩, .int .i64 (psM s)), (⟨D, 1, none⟩, .int .i64 (psB s)), (⟨C, 0, none⟩, .int .i64 (psM s)), (⟨C, 1, none⟩, .int .i64 (psB s))] ++ l0 w m b n c) x2) := T1.out.later y2
                    clear A0 A1 B0 B1 y2
                    obtain ⟨_, A0, A1, B0, B1⟩ := open0 T2.out
                    go_wp2_with fail
                    refine (first_any _ _ _).mono ?_
                    rintro e x3 ⟨rfl, y3⟩
                    have T3 : Hid (KL w ([(⟨MM, 0, none⟩, .int .i64 (mtM m b n c)), (⟨MM, 1, none⟩, .int .i64 (mtB m b n c)), (⟨D, 0, none⟩, .int .i64 (psM s)), (⟨D, 1, none⟩, .int .i64 (psB s)), (⟨C, 0, none⟩, .int .i64 (psM s)), (⟨C, 1, none⟩, .int .i64 (psB s))] ++ l0 w m b n c) x3) := T2.out.later y3
                    clear A0 A1 B0 B1 y3
                    obtain ⟨_, A0, A1, B0, B1⟩ := open0 T3.out
                    go_wp2_with fail
                    refine (inside_any _ _ _ _ _).mono ?_
                    rintro e x4 ⟨rfl, y4⟩
                    have T4 : Hid (KL w ([(⟨MM, 0, none⟩, .int .i64 (mtM m b n c)), (⟨MM, 1, none⟩, .int .i64 (mtB m b n c)), (⟨D, 0, none⟩, .int .i64 (psM s)), (⟨D, 1, none⟩, .int .i64 (psB s)), (⟨C, 0, none⟩, .int .i64 (psM s)), (⟨C, 1, none⟩, .int .i64 (psB s))] ++ l0 w m b n c) x4) := T3.out.later y4
                    clear A0 A1 B0 B1 y4
                    go_wp2
                    go_ret
                    exact ⟨rfl, T4.out.below⟩
end Go.Proofs.YtclecpcnmfhhcaaDoor.tells
