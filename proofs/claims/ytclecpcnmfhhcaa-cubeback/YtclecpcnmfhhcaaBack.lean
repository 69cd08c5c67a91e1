/- The walk of CubeBack: it answers true, whatever cubes and text it is called with. -/
import Derived.Test.YtclecpcnmfhhcaaCubeCon3
import Derived.Test.YtclecpcnmfhhcaaCubePrint
import Derived.Test.YtclecpcnmfhhcaaCubeParse
import Derived.Test.YtclecpcnmfhhcaaCubeFacts
import Derived.BigQuiet
import Derived.Deep.QuietTactic
import Derived.Deep.CutRange
import Derived.Deep.RegionHeld3
namespace Go.Proofs.Ytclecpcnmfhhcaa.back
open Go.RowKit
set_option linter.unusedVariables false
set_option linter.unusedSimpArgs false

/-- What holds of the world all along: the two cubes lie in the first two new blocks. -/
def K2 (w : World) (m b n c : Int) (W : World) : Prop :=
  Below w.heap.size w W ∧ w.heap.size + 1 < W.heap.size ∧ W.cell? ⟨w.heap.size, 0, none⟩ = some (.int .i64 m) ∧ W.cell? ⟨w.heap.size, 1, none⟩ = some (.int .i64 b) ∧
    W.cell? ⟨w.heap.size + 1, 0, none⟩ = some (.int .i64 n) ∧ W.cell? ⟨w.heap.size + 1, 1, none⟩ = some (.int .i64 c)

theorem K2.later {w W W' : World} {m b n c : Int} (h : K2 w m b n c W) (hb : Below W.heap.size W W') : K2 w m b n c W' := by
  obtain ⟨h0, h1, h2, h3, h4, h5⟩ := h
  exact ⟨h0.trans (hb.mono h0.size), Nat.lt_of_lt_of_le h1 hb.size, cell_later hb h2, cell_later hb h3, cell_later hb h4, cell_later hb h5⟩

theorem K2.alloc {w W : World} {m b n c : Int} (h : K2 w m b n c W) (o : Obj) : K2 w m b n c (W.alloc o) := h.later ((Below.refl _ _).alloc (Nat.le_refl _) _)
theorem K2.drew {w W : World} {m b n c : Int} (h : K2 w m b n c W) : K2 w m b n c W.drew := h.later (Below.refl _ _).drew

/-- The same, and the cube that both have together lies in block B. -/
def K3 (w : World) (m b n c x y : Int) (B : Nat) (W : World) : Prop :=
  Below w.heap.size w W ∧ W.cell? ⟨w.heap.size, 0, none⟩ = some (.int .i64 m) ∧ W.cell? ⟨w.heap.size, 1, none⟩ = some (.int .i64 b) ∧
    W.cell? ⟨w.heap.size + 1, 0, none⟩ = some (.int .i64 n) ∧ W.cell? ⟨w.heap.size + 1, 1, none⟩ = some (.int .i64 c) ∧
    W.cell? ⟨B, 0, none⟩ = some (.int .i64 x) ∧ W.cell? ⟨B, 1, none⟩ = some (.int .i64 y)
theorem K3.later {w W W' : World} {m b n c x y : Int} {B : Nat} (hb : Below W.heap.size W W') (h : K3 w m b n c x y B W) : K3 w m b n c x y B W' := by
  obtain ⟨h0, h2, h3, h4, h5, h6, h7⟩ := h
  exact ⟨h0.trans (hb.mono h0.size), cell_later hb h2, cell_later hb h3, cell_later hb h4, cell_later hb h5, cell_later hb h6, cell_later hb h7⟩

set_option maxRecDepth 100000 in
set_option maxHeartbeats 1000000 in
theorem walk (m b n c : Int) (s : ByteArray) (w : World) :
    Calls Try.prog 4 #[.agg #[.int .i64 m, .int .i64 b], .agg #[.int .i64 n, .int .i64 c], .string s] w fun e w' => e = .returned (.bool true) ∧ Below w.heap.size w w' := by
  go_enter Try.func4, Try.ntmps4
  go_wp2_with fail
  refine (parse_yes _ _ star_ok.1).mono ?_
  rintro e w1 ⟨rfl, hb1⟩
  rw [star_ok.2.1, star_ok.2.2]
  have hK : K2 w m b n c w1 := by
    obtain ⟨hc1, hf1⟩ := bcell hb1
    refine ⟨(((Below.refl _ _).alloc (Nat.le_refl _) _).alloc (by simp) _).trans (hb1.mono (by simp <;> omega)), by have := hb1.size; simp at this; omega, ?_, ?_, ?_, ?_⟩
    all_goals (rw [hc1 _ _ (by simp <;> omega)]; simp)
  clear hb1
  go_upto_region 4 with fail
  go_cut [9, 10] from 7 (fun t e w' => K2 w m b n c w' ∧ ((okB m b = true ∧ t = .string (prS m b) ∧ e = .nilIface) ∨ (∃ k, t = .string ⟨#[]⟩ ∧ e = .iface 23 (.int .i64 k))))
  case first =>
    have hK' := hK.alloc (Obj.cells #[Value.int IntKind.i64 10, Value.int IntKind.i64 8] 27)
    generalize w1.alloc (Obj.cells #[Value.int IntKind.i64 10, Value.int IntKind.i64 8] 27) = W1 at *
    have HK : Hid (K2 w m b n c W1) := hK'
    obtain ⟨q0, q1, q2, q3, q4, q5⟩ := hK'
    cases hr : rngB m b
    · go_wp2_with fail
      refine (print_range _ _ _ hr).mono ?_
      rintro e w2 ⟨rfl, hb2⟩
      go_wp2_with fail
      go_meet
      case rel => exact ⟨HK.out.later hb2, .inr ⟨_, rfl, rfl⟩⟩
    · cases ho : okB m b
      · go_wp2_with fail
        refine (print_shape _ _ _ hr ho).mono ?_
        rintro e w2 ⟨rfl, hb2⟩
        go_wp2_with fail
        go_meet
        case rel => exact ⟨HK.out.later hb2, .inr ⟨_, rfl, rfl⟩⟩
      · go_wp2_with fail
        refine (print_ok _ _ _ ho).mono ?_
        rintro e w2 ⟨rfl, hb2⟩
        go_wp2_with fail
        go_meet
        case rel => exact ⟨HK.out.later hb2, .inl ⟨ho, rfl, rfl⟩⟩
  case rest =>
    clear hK
    go_upto_region 5 with fail
    go_cut [9, 42] from 7 (fun t q w' => K2 w m b n c w' ∧ ((okB m b = true ∧ t = .string (prS m b) ∧ q = .bool true) ∨ q = .bool false))
    case first =>
      obtain ⟨hK, h | h⟩ := hcut
      · obtain ⟨ho, rfl, rfl⟩ := h
        go_wp2_with fail
        go_meet
        case rel => exact ⟨hK, .inl ⟨ho, rfl, rfl⟩⟩
      · obtain ⟨k, rfl, rfl⟩ := h
        go_wp2_with fail
        go_meet
        case rel => exact ⟨hK, .inr rfl⟩
    case rest =>
      go_upto_if 42 with fail
      go_cut [] from 7 (fun w' => K2 w m b n c w')
      case first =>
        obtain ⟨hK, h | h⟩ := hcut
        · obtain ⟨ho, rfl, rfl⟩ := h
          have HO : Hid (okB m b = true) := ho
          clear ho
          go_wp2_with fail
          refine (parse_yes _ _ (back HO.out).1).mono ?_
          rintro e w2 ⟨rfl, hb2⟩
          rw [(back HO.out).2.1, (back HO.out).2.2]
          have HK : Hid (K2 w m b n c w2) := hK.later hb2
          obtain ⟨q0, q1, q2, q3, q4, q5⟩ := hK.later hb2
          have z0 : w.heap.size < w2.heap.size := by omega
          clear hb2 hK
          go_wp2_with fail
          go_meet
          case rel => exact HK.out.alloc _
        · subst h
          go_wp2_with fail
          go_meet
          case rel => exact hK
      case rest =>
        go_upto_region 9 with fail
        go_cut [10, 13] from 7 (fun e p w' => K2 w m b n c w' ∧ ((psOk s = true ∧ e = .nilIface ∧ ∃ B, p = .pointer (some ⟨B, 0, none⟩) ∧ w'.cell? ⟨B, 0, none⟩ = some (.int .i64 (psM s)) ∧ w'.cell? ⟨B, 1, none⟩ = some (.int .i64 (psB s))) ∨ (∃ k, e = .iface 23 (.int .i64 k))))
        case first =>
          cases hp : psOk s
          · go_wp2_with fail
            refine (parse_no _ _ hp).mono ?_
            rintro e w2 ⟨rfl, hb2⟩
            go_wp2_with fail
            go_meet
            case rel => exact ⟨(hcut.later hb2).alloc _, .inr ⟨_, rfl⟩⟩
          · go_wp2_with fail
            refine (parse_yes _ _ hp).mono ?_
            rintro e w2 ⟨rfl, hb2⟩
            go_wp2_with fail
            go_meet
            case rel => exact ⟨(hcut.later hb2).alloc _, .inl ⟨hp, rfl, _, rfl, by simp, by simp⟩⟩
        case rest =>
          go_upto_region 10 with fail
          go_cut [13, 61] from 7 (fun p q w' => K2 w m b n c w' ∧ ((psOk s = true ∧ q = .bool true ∧ ∃ B, p = .pointer (some ⟨B, 0, none⟩) ∧ w'.cell? ⟨B, 0, none⟩ = some (.int .i64 (psM s)) ∧ w'.cell? ⟨B, 1, none⟩ = some (.int .i64 (psB s))) ∨ q = .bool false))
          case first =>
            obtain ⟨hK, h | h⟩ := hcut
            · obtain ⟨hp, rfl, B, rfl, x0, x1⟩ := h
              go_wp2_with fail
              go_meet
              case rel => exact ⟨hK, .inl ⟨hp, rfl, _, rfl, x0, x1⟩⟩
            · obtain ⟨k, rfl⟩ := h
              go_wp2_with fail
              go_meet
              case rel => exact ⟨hK, .inr rfl⟩
          case rest =>
            go_upto_if 61 with fail
            go_cut [] from 7 (fun w' => K2 w m b n c w')
            case first =>
              obtain ⟨hK, h | h⟩ := hcut
              · obtain ⟨hp, rfl, B, rfl, x0, x1⟩ := h
                have HO : Hid (psOk s = true) := hp
                clear hp
                go_wp2_with fail
                refine (print_ok _ _ _ (read HO.out).1).mono ?_
                rintro e w2 ⟨rfl, hb2⟩
                rw [(read HO.out).2]
                go_wp2_with fail
                go_meet
                case rel => exact hK.later hb2
              · subst h
                go_wp2_with fail
                go_meet
                case rel => exact hK
            case rest =>
              go_upto_region 14 with fail
              have E1 : Hid (_ = _) := (mt_comm n c m b).1
              have E2 : Hid (_ = _) := (mt_comm n c m b).2.1
              have E3 : Hid (_ = _) := (mt_comm n c m b).2.2
              have HK : Hid (K2 w m b n c wc) := hcut
              obtain ⟨q0, q1, q2, q3, q4, q5⟩ := hcut
              go_wp2_with fail
              refine (meet_any _ _ _ _ _).mono ?_
              rintro e w2 ⟨rfl, hb2⟩
              have HK2 : Hid (K2 w m b n c w2) := HK.out.later hb2
              obtain ⟨p0, p1, p2, p3, p4, p5⟩ := HK.out.later hb2
              have z0 : w.heap.size < w2.heap.size := by omega
              clear hb2 HK
              go_wp2_with fail
              refine (meet_any _ _ _ _ _).mono ?_
              rintro e w3 ⟨rfl, hb3⟩
              rw [E1.out, E2.out, E3.out]
              have HK3 : Hid (K3 w m b n c (mtM m b n c) (mtB m b n c) w2.heap.size w3) := by
                show K3 _ _ _ _ _ _ _ _ _
                obtain ⟨r0, r1, r2, r3, r4, r5⟩ := (HK2.out.alloc (Obj.cells #[Value.int IntKind.i64 (mtM m b n c), Value.int IntKind.i64 (mtB m b n c)] 27)).later hb3
                exact ⟨r0, r2, r3, r4, r5, cell_later hb3 (by simp), cell_later hb3 (by simp)⟩
              have z3 : w2.heap.size < w3.heap.size := by have := hb3.size; simp at this; omega
              obtain ⟨r0, r2, r3, r4, r5, r6, r7⟩ := HK3.out
              clear hb3 HK2 p0 p1 p2 p3 p4 p5
              go_upto_region 18 with fail
              have HK4 : Hid (K3 w m b n c (mtM m b n c) (mtB m b n c) w2.heap.size (w3.alloc (Obj.cells #[Value.int IntKind.i64 (mtM m b n c), Value.int IntKind.i64 (mtB m b n c)] 27))) :=
                K3.later ((Below.refl _ _).alloc (Nat.le_refl _) _) HK3.out
              clear HK3 r0 r2 r3 r4 r5 r6 r7 z3 E1 E2 E3
              generalize w3.alloc (Obj.cells #[Value.int IntKind.i64 (mtM m b n c), Value.int IntKind.i64 (mtB m b n c)] 27) = W4 at *
              generalize w2.heap.size = B at *
              go_cut [16, 17, 113] from 7 (fun p q r w' => p = .pointer (some ⟨B, 0, none⟩) ∧ q = .bool (mtOk m b n c) ∧ r = .bool false ∧ K3 w m b n c (mtM m b n c) (mtB m b n c) B w')
              case first =>
                cases hm : mtOk m b n c
                · go_quiet (fail)
                  go_wp2_with fail
                  go_meet
                  case rel => exact ⟨rfl, by rw [hm], rfl, K3.later (W := W4) ⟨rfl, rfl, rfl, Nat.le_refl _, fun _ _ => rfl⟩ HK4.out⟩
                · have G1 : Hid (_ ≤ _) := (mt_in hm).2.1
                  have G2 : Hid (_ = _) := (mt_in hm).2.2.1
                  have G3 : Hid (_ = _) := (mt_in hm).2.2.2
                  have G4 : decide (cntN m b < cntN (mtM m b n c) (mtB m b n c)) = false := by have := G1.out; simp; omega
                  have hS := HK4.out
                  unfold K3 at hS
                  go_region_held3 (fun w' => Below w.heap.size w w' ∧ w'.cell? ⟨w.heap.size, 0, none⟩ = some (.int .i64 m) ∧ w'.cell? ⟨w.heap.size, 1, none⟩ = some (.int .i64 b) ∧
                      w'.cell? ⟨w.heap.size + 1, 0, none⟩ = some (.int .i64 n) ∧ w'.cell? ⟨w.heap.size + 1, 1, none⟩ = some (.int .i64 c) ∧
                      w'.cell? ⟨B, 0, none⟩ = some (.int .i64 (mtM m b n c)) ∧ w'.cell? ⟨B, 1, none⟩ = some (.int .i64 (mtB m b n c)))
                    (first | exact K3.later (by assumption) (by assumption) | exact K3.later (Below.drew (Below.refl _ _)) (by assumption))
                    (first
                      | (go_at_call 12; refine (inside_any _ _ _ _ _).mono ?_; rintro e w' ⟨rfl, hb⟩; first | rw [G2.out] | rw [G3.out])
                      | (go_at_call 11; refine (count_any _ _ _).mono ?_; rintro e w' ⟨rfl, hb⟩))
                  go_wp2_with fail
                  go_meet
                  case rel => exact ⟨rfl, by rw [hm], rfl, by first | assumption | exact K3.later (Below.drew (Below.refl _ _)) (by assumption)⟩
              case rest =>
                obtain ⟨rfl, rfl, rfl, hK⟩ := hcut
                clear HK4
                have HK5 : Hid (K3 w m b n c (mtM m b n c) (mtB m b n c) B wc) := hK
                obtain ⟨r0, r2, r3, r4, r5, r6, r7⟩ := hK
                go_wp2_with fail
                refine (inside_any _ _ _ _ _).mono ?_
                rintro e w5 ⟨rfl, hb5⟩
                have HK6 := K3.later hb5 HK5.out
                cases hi : insB m b n c
                · clear HK6
                  go_wp2
                  go_ret
                  exact ⟨rfl, r0.trans (hb5.mono r0.size)⟩
                · obtain ⟨I1, I2, I3⟩ := ins_mt hi
                  rw [I2, I3] at HK6
                  rw [I1]
                  obtain ⟨x0, x2, x3, x4, x5, x6, x7⟩ := HK6
                  clear r2 r3 r4 r5 r6 r7 I1 I2 I3 hi
                  go_wp2
                  go_ret
                  exact ⟨rfl, x0⟩

end Go.Proofs.Ytclecpcnmfhhcaa.back
