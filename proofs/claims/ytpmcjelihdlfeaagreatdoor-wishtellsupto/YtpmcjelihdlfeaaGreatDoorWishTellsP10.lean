/- Contracts and facts on the way to WishTells, joined into one text: RefShowW, RuleSplit, CubeBit, CubeParse, RuleDec, RuleDeed, RefCut, RefNumber, WishAtoi, WishSplit, WishWhat. -/
import Derived.Test.YtpmcjelihdlfeaaGreatDoorWishTellsP9
import Derived.Test.YtpmcjelihdlfeaaGreatDoorWishTellsP8
import Derived.Test.YtpmcjelihdlfeaaGreatDoorWishTellsP4
import Derived.Test.YtpmcjelihdlfeaaGreatDoorWishTellsP5
import Derived.Deep.LoopGhost
import Derived.Deep.OwnRows
import Derived.Laws.Strings3
import Derived.Lib.Split
import Derived.Deep.CutRange
import Derived.Deep.CutBlock
import Derived.Deep.RegionHeld3
import Derived.Shelf.LaysC
import Derived.Shelf.Strconv.AtoiAll
import Derived.Test.YtpmcjelihdlfeaaGreatDoorProg
/- What railref1.ShowWish answers: a contract for the walks above it. -/
namespace Go.Proofs.YtpmcjelihdlfeaaGreatDoor
open Go.RowKit
set_option linter.unusedSimpArgs false
set_option linter.unusedVariables false

theorem shR_3 {f t : ByteArray} {v : Int} : shT ⟨3, f, t, v⟩ = ⟨#[119, 97, 121, 32]⟩ ++ (f ++ ⟨#[32]⟩ ++ t) ++ ⟨#[32]⟩ ++ dgS v := by
  show wayS ++ (blW ++ (f ++ (blW ++ (t ++ (blW ++ dgS v))))) = _
  have e : (⟨#[119, 97, 121, 32]⟩ : ByteArray) = wayS ++ blW := by decide +kernel
  rw [e]
  simp only [wa_as]
  rfl
theorem shR_2 {f t : ByteArray} {v : Int} : shT ⟨2, f, t, v⟩ = ⟨#[97, 112, 97, 114, 116, 32]⟩ ++ (f ++ ⟨#[32]⟩ ++ t) := by
  show apaS ++ (blW ++ (f ++ (blW ++ t))) = _
  have e : (⟨#[97, 112, 97, 114, 116, 32]⟩ : ByteArray) = apaS ++ blW := by decide +kernel
  rw [e]
  simp only [wa_as]
  rfl
theorem shR_1 {f t : ByteArray} {v : Int} : shT ⟨1, f, t, v⟩ = ⟨#[114, 101, 97, 99, 104, 32]⟩ ++ (f ++ ⟨#[32]⟩ ++ t) := by
  show reaS ++ (blW ++ (f ++ (blW ++ t))) = _
  have e : (⟨#[114, 101, 97, 99, 104, 32]⟩ : ByteArray) = reaS ++ blW := by decide +kernel
  rw [e]
  simp only [wa_as]
  rfl

set_option maxHeartbeats 8000000 in
set_option maxRecDepth 100000 in
theorem rshow_any (k : Int) (f t : ByteArray) (v : Int) (w : World) :
    Calls Tryz.prog 7 #[.agg #[.int .i64 k, .string f, .string t, .int .i64 v]] w fun e w' => e = .returned (.tuple #[.string (shV ⟨k, f, t, v⟩), .int .i64 (shN ⟨k, f, t, v⟩)]) ∧ Below w.heap.size w w' := by
  have hb0 : Below w.heap.size w (w.alloc (Obj.cells #[.int .i64 k, .string f, .string t, .int .i64 v] 31)) := (Below.refl _ _).alloc (Nat.le_refl _) _
  have hx0 := wibox_new w k f t v 31
  obtain ⟨w0, hw0⟩ : ∃ W, w.alloc (Obj.cells #[.int .i64 k, .string f, .string t, .int .i64 v] 31) = W := ⟨_, rfl⟩
  rw [hw0] at hb0 hx0
  have HW0 : Hid (w.alloc (Obj.cells #[.int .i64 k, .string f, .string t, .int .i64 v] 31) = w0) := hw0
  have HB0 : Hid (Below w.heap.size w w0) := hb0
  have HX0 : Hid (WiBox w0 w.heap.size k f t v) := hx0
  obtain ⟨R, hR⟩ : ∃ R, R = shN ⟨k, f, t, v⟩ := ⟨_, rfl⟩
  obtain ⟨V, hV⟩ : ∃ V, V = shV ⟨k, f, t, v⟩ := ⟨_, rfl⟩
  obtain ⟨Q1, hQ1⟩ : ∃ q, q = (!wkB k || !viB ⟨k, f, t, v⟩ 6) := ⟨_, rfl⟩
  obtain ⟨Q2, hQ2⟩ : ∃ q, q = ((k != 4) && !(nmB f && nmB t)) := ⟨_, rfl⟩
  obtain ⟨Q3, hQ3⟩ : ∃ q, q = (veB ⟨k, f, t, v⟩ || ((k == 4) && !nlB ⟨k, f, t, v⟩)) := ⟨_, rfl⟩
  have HR : Hid (R = if Q1 then 1 else if Q2 then 2 else if Q3 then 3 else 0) := by
    show _ = _
    rw [hR, hQ1, hQ2, hQ3]
    rfl
  have HRS : Hid (shN ⟨k, f, t, v⟩ = R) := hR.symm
  have HV : Hid (V = shV ⟨k, f, t, v⟩) := hV
  have HQ1 : Hid ((!wkB k || !viB ⟨k, f, t, v⟩ 6) = Q1) := hQ1.symm
  have HQ2 : Hid (((k != 4) && !(nmB f && nmB t)) = Q2) := hQ2.symm
  have HQ3 : Hid ((veB ⟨k, f, t, v⟩ || ((k == 4) && !nlB ⟨k, f, t, v⟩)) = Q3) := hQ3.symm
  rw [← hR, ← hV]
  obtain ⟨x0, x1, x2, x3⟩ := hx0
  clear hb0 hw0 hR hV hQ1 hQ2 hQ3
  go_enter Tryz.func7, Tryz.ntmps7
  go_upto_region 1 with fail
  rw [HW0.out]
  clear HW0
  go_cut [30] from 8 to 31 (fun c w' => c = .bool Q1 ∧ w' = w0)
  case first =>
    by_cases k1 : k < 1
    · have hq : true = Q1 := by
        rw [← HQ1.out]
        have : wkB k = false := by simp [wkB]; omega
        simp [this]
      subst hq
      go_wp2_with fail
      go_meet
      exact ⟨by first | rfl | simp [k1], rfl⟩
    · by_cases k4 : 4 < k
      · have hq : true = Q1 := by
          rw [← HQ1.out]
          have : wkB k = false := by simp [wkB]; omega
          simp [this]
        subst hq
        go_wp2_with fail
        go_meet
        exact ⟨by first | rfl | simp [k1, k4], rfl⟩
      · have hwk : wkB k = true := by simp [wkB]; omega
        by_cases k3 : k = 3
        · subst k3
          by_cases v1 : v < 1
          · have hq : true = Q1 := by
              rw [← HQ1.out]
              have : viB ⟨3, f, t, v⟩ 6 = false := by simp [viB, swB]; omega
              simp [this]
            subst hq
            go_wp2_with fail
            go_meet
            exact ⟨by first | rfl | simp [v1], rfl⟩
          · by_cases v2 : 6 < v
            · have hq : true = Q1 := by
                rw [← HQ1.out]
                have : viB ⟨3, f, t, v⟩ 6 = false := by simp [viB, swB]; omega
                simp [this]
              subst hq
              go_wp2_with fail
              go_meet
              exact ⟨by first | rfl | simp [v1, v2], rfl⟩
            · have hq : false = Q1 := by
                rw [← HQ1.out]
                have h1 : viB ⟨3, f, t, v⟩ 6 = true := by simp [viB, swB]; omega
                rw [hwk, h1]
                rfl
              subst hq
              go_wp2_with fail
              go_meet
              exact ⟨by first | rfl | simp [v1, v2], rfl⟩
        · have hq : false = Q1 := by
            rw [← HQ1.out]
            have hvi : viB ⟨k, f, t, v⟩ 6 = true := by simp [viB, k3]
            rw [hwk, hvi]
            rfl
          subst hq
          go_wp2_with fail
          go_meet
          exact ⟨by first | rfl | simp [k1, k3, k4], rfl⟩
  case rest =>
  obtain ⟨rfl, hwc⟩ := hcut
  subst hwc
  cases Q1 with
  | true =>
    have HR1 : Hid (R = 1) := by
      show _ = _
      rw [HR.out, if_pos rfl]
    have HV1 : Hid (V = ByteArray.empty) := by
      show _ = _
      rw [HV.out, shV, if_neg (by rw [HRS.out, HR1.out]; decide)]
    go_wp2
    refine bodyPost_ret (v := .tuple #[.string ⟨#[]⟩, .int .i64 1]) (by simp [results, Tryz.results7, go_sem]) rfl ⟨by rw [HR1.out, HV1.out]; rfl, HB0.out⟩
  | false =>
    have HR1 : Hid (R = if Q2 then 2 else if Q3 then 3 else 0) := by
      show _ = _
      rw [HR.out, if_neg (by decide)]
    clear HR HQ1
    go_wp2_with fail
    refine (rname_any f _).mono ?_
    rintro e w1 ⟨rfl, hw1⟩
    subst hw1
    go_wp2_with fail
    refine (rname_any t _).mono ?_
    rintro e w2 ⟨rfl, hw2⟩
    subst hw2
    obtain ⟨NF, hNF⟩ : ∃ q, q = nmB f := ⟨_, rfl⟩
    obtain ⟨NT, hNT⟩ : ∃ q, q = nmB t := ⟨_, rfl⟩
    have HQ2' : Hid (((k != 4) && !(NF && NT)) = Q2) := by
      show _ = _
      rw [hNF, hNT]
      exact HQ2.out
    rw [← hNF, ← hNT]
    clear hNF hNT HQ2
    go_upto_region 5 with fail
    go_cut [47] from 37 to 48 (fun c w' => c = .bool Q2 ∧ w' = w2)
    case first =>
      by_cases k4 : k = 4
      · subst k4
        have hq : false = Q2 := HQ2'.out
        subst hq
        go_wp2_with fail
        go_meet
        exact ⟨rfl, rfl⟩
      · have hkk : (k != 4) = true := by simp [k4]
        have hq : (!(NF && NT)) = Q2 := by
          have := HQ2'.out
          rw [hkk, Bool.true_and] at this
          exact this
        cases NF with
        | false =>
          have hq2 : true = Q2 := hq
          subst hq2
          clear hq
          go_wp2_with fail
          go_meet
          exact ⟨by first | rfl | simp [hkk], rfl⟩
        | true =>
          have hq2 : (!NT) = Q2 := hq
          subst hq2
          clear hq
          go_wp2_with fail
          go_meet
          exact ⟨by first | rfl | simp [hkk], rfl⟩
    case rest =>
    obtain ⟨rfl, hwc⟩ := hcut
    subst hwc
    cases Q2 with
    | true =>
      have HR2 : Hid (R = 2) := by
        show _ = _
        rw [HR1.out, if_pos rfl]
      have HV1 : Hid (V = ByteArray.empty) := by
        show _ = _
        rw [HV.out, shV, if_neg (by rw [HRS.out, HR2.out]; decide)]
      go_wp2
      refine bodyPost_ret (v := .tuple #[.string ⟨#[]⟩, .int .i64 2]) (by simp [results, Tryz.results7, go_sem]) rfl ⟨by rw [HR2.out, HV1.out]; rfl, HB0.out⟩
    | false =>
      have HR2 : Hid (R = if Q3 then 3 else 0) := by
        show _ = _
        rw [HR1.out, if_neg (by decide)]
      clear HR1
      go_upto_region 7 with fail
      go_cut [70] from 48 to 71 (fun c w' => c = .bool Q3 ∧ w' = wc)
      case first =>
        by_cases k4 : k = 4
        · subst k4
          by_cases v0 : v = 0
          · subst v0
            cases hf : f.toList.isEmpty
            · have hq : true = Q3 := by
                rw [← HQ3.out]
                simp [veB, nlB, ← emp_lst, hf]
              subst hq
              go_wp2_with fail
              go_meet
              exact ⟨by first | rfl | simp [hf], rfl⟩
            · cases ht : t.toList.isEmpty
              · have hq : true = Q3 := by
                  rw [← HQ3.out]
                  simp [veB, nlB, ← emp_lst, ht]
                subst hq
                go_wp2_with fail
                go_meet
                exact ⟨by first | rfl | simp [hf, ht], rfl⟩
              · have hq : false = Q3 := by
                  rw [← HQ3.out]
                  simp [veB, nlB, ← emp_lst, hf, ht]
                subst hq
                go_wp2_with fail
                go_meet
                exact ⟨by first | rfl | simp [hf, ht], rfl⟩
          · have hq : true = Q3 := by
              rw [← HQ3.out]
              simp [veB, v0]
            subst hq
            go_wp2_with fail
            go_meet
            exact ⟨by first | rfl | simp [v0], rfl⟩
        · have hq : (k != 3 && v != 0) = Q3 := by
            rw [← HQ3.out]
            simp [veB, k4]
          by_cases k3 : k = 3
          · subst k3
            have hq2 : false = Q3 := hq
            subst hq2
            go_wp2_with fail
            go_meet
            exact ⟨by first | rfl | simp, rfl⟩
          · by_cases v0 : v = 0
            · subst v0
              have hq2 : false = Q3 := by rw [← hq]; simp
              subst hq2
              clear hq
              go_wp2_with fail
              go_meet
              exact ⟨by first | rfl | simp [k4], rfl⟩
            · have hq2 : true = Q3 := by rw [← hq]; simp [k3, v0]
              subst hq2
              clear hq
              go_wp2_with fail
              go_meet
              exact ⟨by first | rfl | simp [k3, v0], rfl⟩
      case rest =>
      obtain ⟨rfl, hwc⟩ := hcut
      subst hwc
      cases Q3 with
      | true =>
        have HR3 : Hid (R = 3) := by
          show _ = _
          rw [HR2.out, if_pos rfl]
        have HV1 : Hid (V = ByteArray.empty) := by
          show _ = _
          rw [HV.out, shV, if_neg (by rw [HRS.out, HR3.out]; decide)]
        go_wp2
        refine bodyPost_ret (v := .tuple #[.string ⟨#[]⟩, .int .i64 3]) (by simp [results, Tryz.results7, go_sem]) rfl ⟨by rw [HR3.out, HV1.out]; rfl, HB0.out⟩
      | false =>
        have HR3 : Hid (R = 0) := by
          show _ = _
          rw [HR2.out, if_neg (by decide)]
        have HS : Hid (shN ⟨k, f, t, v⟩ = 0) := HRS.out.trans HR3.out
        have HVT : Hid (V = shT ⟨k, f, t, v⟩) := by
          show _ = _
          rw [HV.out, shV, if_pos HS.out]
        have hsh := shw_0 HS.out
        clear HRS HV HQ3 HR2 HQ2'
        rcases hsh with ⟨e, z1, z2, _⟩ | ⟨e | e, n1, n2, _⟩ | ⟨e, n1, n2, e1, e6⟩
        · simp only at e z1 z2
          subst e
          have d1 : f.size = 0 := by rw [z1]; rfl
          have d2 : t.size = 0 := by rw [z2]; rfl
          clear z1 z2
          go_wp2
          refine bodyPost_ret (v := .tuple #[.string looS, .int .i64 0]) (by simp [results, Tryz.results7, go_sem, looS]) rfl ⟨by rw [HR3.out, HVT.out, shT_4], HB0.out⟩
        · simp only at e n1 n2
          subst e
          have d1 := nm_size n1
          have d2 := nm_size n2
          clear n1 n2
          go_wp2
          refine bodyPost_ret (v := .tuple #[.string (⟨#[114, 101, 97, 99, 104, 32]⟩ ++ (f ++ ⟨#[32]⟩ ++ t)), .int .i64 0]) (by simp [results, Tryz.results7, go_sem]) rfl ⟨by rw [HR3.out, HVT.out, shR_1], HB0.out⟩
        · simp only at e n1 n2
          subst e
          have d1 := nm_size n1
          have d2 := nm_size n2
          clear n1 n2
          go_wp2
          refine bodyPost_ret (v := .tuple #[.string (⟨#[97, 112, 97, 114, 116, 32]⟩ ++ (f ++ ⟨#[32]⟩ ++ t)), .int .i64 0]) (by simp [results, Tryz.results7, go_sem]) rfl ⟨by rw [HR3.out, HVT.out, shR_2], HB0.out⟩
        · simp only at e e1 e6 n1 n2
          subst e
          have d1 := nm_size n1
          have d2 := nm_size n2
          have d3 := dgs_size v
          clear n1 n2
          go_wp2_with fail
          refine (digits_lo v _ (by omega) (by omega)).mono ?_
          rintro e w4 ⟨rfl, hw4⟩
          subst hw4
          go_wp2
          refine bodyPost_ret (v := .tuple #[.string (⟨#[119, 97, 121, 32]⟩ ++ (f ++ ⟨#[32]⟩ ++ t) ++ ⟨#[32]⟩ ++ dgS v), .int .i64 0]) (by simp [results, Tryz.results7, go_sem]) rfl ⟨by rw [HR3.out, HVT.out, shR_3], HB0.out⟩
end Go.Proofs.YtpmcjelihdlfeaaGreatDoor
/- What strings.SplitN answers at a blank and 7: a text cut at its first six blanks. -/
namespace Go.Proofs.YtpmcjelihdlfeaaGreatDoor
open Go.RowKit
set_option linter.unusedSimpArgs false

theorem infoStr : (Tryz.prog.info? 9).map (fun i => (i.zero, i.size, i.bytes)) = some (some (.string ByteArray.empty), 1, 16) := by kernel_rfl

set_option maxHeartbeats 4000000 in
set_option maxRecDepth 1000000 in
theorem genSplit_any (s : ByteArray) (N : Nat) (w : World) (hs : s.size < 4611686018427387904) (hN : (N : Int) = min 7 ((s.size : Int) + 1)) :
    Calls Tryz.prog 51 #[.string s, .string ⟨#[32]⟩, .int .i64 0, .int .i64 7] w fun e w' =>
      e = .returned (.slice (some ⟨w.heap.size, 0, none⟩) (cutB (N - 1) s).length N) ∧ w' = w.alloc (.cells (Lib.cellsOf (cutB (N - 1) s) N) 9) := by
  have hNs : (N : Int) ≤ (s.size : Int) + 1 := by omega
  have hN1 : (1 : Int) ≤ (N : Int) := by omega
  have hmk := run_make_row' (P := Tryz.prog) 67 9 (.string ByteArray.empty) 16 Tryz.underlying67 infoStr rfl .i64 .i64 N (by omega) (by omega)
  have hmin : min (7 : Int) ((s.size : Int) + 1) = (N : Int) := hN.symm
  clear hN
  go_enter Tryz.func51, Tryz.ntmps51
  go_upto_region 7 with fail
  go_cut [3] from 9 (fun v w' => v = .int .i64 N ∧ w' = w)
  case first =>
    clear hmk
    by_cases h7 : (7 : Int) ≤ (s.size : Int) + 1
    · have e : (N : Int) = 7 := by omega
      go_wp2
      go_meet
      case rel => exact ⟨by rw [e], rfl⟩
    · have e : (N : Int) = (s.size : Int) + 1 := by omega
      go_wp2
      go_meet
      case rel => exact ⟨by rw [e], rfl⟩
  obtain ⟨rfl, hw⟩ := hcut
  replace hw := hw.symm
  subst hw
  go_wp2_with fail
  clear hmk
  go_loopg [0, 10] (N - 1) (fun g s0 s10 wr => ∃ (done : List ByteArray) (rest : ByteArray), s0 = .string rest ∧ s10 = .int .i64 done.length ∧ done.length ≤ N - 1 ∧ g = N - 1 - done.length ∧ rest.size ≤ s.size ∧
      wr = w.alloc (.cells (Lib.cellsOf done N) 9) ∧ done ++ cutB (N - 1 - done.length) rest = cutB (N - 1) s)
  case atStart => exact ⟨[], s, rfl, rfl, Nat.zero_le _, rfl, Nat.le_refl _, by rw [Lib.cellsOf_nil], rfl⟩
  case round =>
    obtain ⟨done, rest, rfl, rfl, hd, rfl, hrs, rfl, hsp⟩ := hrel
    have hnext : (Lib.cellsOf done N)[done.length]? = some (.string ByteArray.empty) := Lib.cellsOf_next (by omega)
    have HS : Hid (done ++ cutB (N - 1 - done.length) rest = cutB (N - 1) s) := hsp
    clear hsp
    have fin : cutB (N - 1 - done.length) rest = [rest] → (cutB (N - 1) s).length = done.length + 1 ∧ (Lib.cellsOf done N).setIfInBounds done.length (.string rest) = Lib.cellsOf (cutB (N - 1) s) N := fun h => by
      have e := HS.out
      rw [h] at e
      rw [← e]
      exact ⟨by simp, Lib.cellsOf_set (by omega) rest⟩
    by_cases hlt : done.length < N - 1
    · have hltz : ((done.length : Nat) : Int) < (N : Int) - 1 := by omega
      rcases bl_cases rest with hix | ⟨i, hix, hroom⟩
      · go_wp2_with fail
        refine (index_any _ _).mono ?_
        rintro e w' ⟨rfl, rfl⟩
        rw [hix]
        go_wp2
        go_ret
        obtain ⟨f1, f2⟩ := fin (cut_miss _ hix)
        rw [f1, ← f2]
        exact ⟨by first | rfl | (congr 2 <;> omega), rfl⟩
      · have c0 : ¬ ((i : Int) < 0) := by omega
        have c1 : (0 : Int) ≤ ↑i + 0 := by omega
        have c2 : (↑i + 0 : Int) ≤ ↑rest.size := by omega
        have c3 : (0 : Int) ≤ ↑i + 1 := by omega
        have c4 : (↑i + 1 : Int) ≤ ↑rest.size := by omega
        go_wp2_with fail
        refine (index_any _ _).mono ?_
        rintro e w' ⟨rfl, rfl⟩
        rw [hix]
        go_wp2
        go_roundg (N - 1 - (done.length + 1))
        case measure => omega
        case rel =>
          refine ⟨done ++ [rest.extract 0 i], rest.extract (i + 1) rest.size, rfl, by simp, by simp; omega, by simp, by rw [ByteArray.size_extract]; omega, by rw [← Lib.cellsOf_set (by omega)], ?_⟩
          rw [← HS.out, show N - 1 - done.length = (N - 1 - (done.length + 1)) + 1 by omega, cut_hit _ hix]
          simp
    · have hltz : ¬ (((done.length : Nat) : Int) < (N : Int) - 1) := by omega
      go_wp2
      go_ret
      obtain ⟨f1, f2⟩ := fin (by rw [show N - 1 - done.length = 0 by omega]; rfl)
      rw [f1, ← f2]
      exact ⟨by first | rfl | (congr 2 <;> omega), rfl⟩
end Go.Proofs.YtpmcjelihdlfeaaGreatDoor
/- What bitAt of package cube answers. -/
namespace Go.Proofs.YtpmcjelihdlfeaaGreatDoor
open Go.RowKit
set_option linter.unusedSimpArgs false

theorem ret_int {k : IntKind} {a b : Int} (h : a = b) : Ending.returned (.int k a) = .returned (.int k b) := by rw [h]

end Go.Proofs.YtpmcjelihdlfeaaGreatDoor
/- What Parse of package cube answers, called with any text. -/
namespace Go.Proofs.YtpmcjelihdlfeaaGreatDoor
open Go.RowKit
set_option linter.unusedSimpArgs false

theorem byteN_at (s : ByteArray) (k : Nat) (h : k < s.size) : byteN s k = s[k].toNat := by
  unfold byteN
  have h' : k < s.data.toList.length := by simpa using h
  rw [List.getD_eq_getElem?_getD, List.getElem?_eq_getElem h']
  rfl

theorem mayTo_le (s : ByteArray) : ∀ (n k : Nat), k < n → mayTo s n = true → mayB (byteN s k) = true
  | 0, _, h, _ => absurd h (Nat.not_lt_zero _)
  | n + 1, k, h, hm => by
    simp only [mayTo, Bool.and_eq_true] at hm
    by_cases e : k = n
    · subst e; exact hm.2
    · exact mayTo_le s n k (by omega) hm.1

theorem bitN_pow (k : Nat) (h : k < 4) : (2 : Int) ^ (3 - (k : Int)).toNat = bitN k := by
  have e : (3 - (k : Int)).toNat = 3 - k := by omega
  rw [e]; rfl

/-- What holds in Parse's loop while Mask is M and Bits is D. -/
def PsC (w : World) (M D : Int) (w' : World) : Prop :=
  Below w.heap.size w w' ∧ w.heap.size + 1 < w'.heap.size ∧
      (w'.cell? ⟨w.heap.size, 0, none⟩ = some (.int .i64 0) ∧ w'.cell? ⟨w.heap.size, 1, none⟩ = some (.int .i64 0)) ∧
      (w'.cell? ⟨w.heap.size + 1, 0, none⟩ = some (.int .i64 M) ∧ w'.cell? ⟨w.heap.size + 1, 1, none⟩ = some (.int .i64 D)) ∧
      (w'.frozen? ⟨w.heap.size, 0, none⟩ = false ∧ w'.frozen? ⟨w.heap.size, 1, none⟩ = false ∧ w'.frozen? ⟨w.heap.size + 1, 0, none⟩ = false ∧ w'.frozen? ⟨w.heap.size + 1, 1, none⟩ = false)

theorem PsC.drew {w w' : World} {M D : Int} (h : PsC w M D w') : PsC w M D w'.drew := by
  obtain ⟨hB, hsz, ⟨r0, r1⟩, ⟨c0, c1⟩, ⟨f0, f1, f2, f3⟩⟩ := h
  exact ⟨hB.drew, hsz, ⟨r0, r1⟩, ⟨c0, c1⟩, ⟨f0, f1, f2, f3⟩⟩

theorem PsC.setM {w w' : World} {M D : Int} (h : PsC w M D w') (X Y : Int) (e : Y = X) : PsC w X D (w'.setCell ⟨w.heap.size + 1, 0, none⟩ (.int .i64 Y)) := by
  obtain ⟨hB, hsz, ⟨r0, r1⟩, ⟨c0, c1⟩, ⟨f0, f1, f2, f3⟩⟩ := h
  subst e
  refine ⟨hB.setCell (by simp) _, by simpa using hsz, ⟨?_, ?_⟩, ⟨?_, ?_⟩, ⟨?_, ?_, ?_, ?_⟩⟩
  · rw [World.cell?_setCell_other _ _ _ _ (by simp), r0]
  · rw [World.cell?_setCell_other _ _ _ _ (by simp), r1]
  · rw [World.cell?_setCell_same _ _ _ c0]
  · rw [World.cell?_setCell_other _ _ _ _ (by simp), c1]
  all_goals simp [*]

theorem PsC.setD {w w' : World} {M D : Int} (h : PsC w M D w') (X Y : Int) (e : Y = X) : PsC w M X (w'.setCell ⟨w.heap.size + 1, 1, none⟩ (.int .i64 Y)) := by
  obtain ⟨hB, hsz, ⟨r0, r1⟩, ⟨c0, c1⟩, ⟨f0, f1, f2, f3⟩⟩ := h
  subst e
  refine ⟨hB.setCell (by simp) _, by simpa using hsz, ⟨?_, ?_⟩, ⟨?_, ?_⟩, ⟨?_, ?_, ?_, ?_⟩⟩
  · rw [World.cell?_setCell_other _ _ _ _ (by simp), r0]
  · rw [World.cell?_setCell_other _ _ _ _ (by simp), r1]
  · rw [World.cell?_setCell_other _ _ _ _ (by simp), c0]
  · rw [World.cell?_setCell_same _ _ _ c1]
  all_goals simp [*]

theorem psM_bit {s : ByteArray} {k : Nat} (hb : byteN s k = 49 ∨ byteN s k = 48) : psMTo s (k + 1) = bits .or .i64 (psMTo s k) (bitN k) := by
  rcases hb with hb | hb <;> simp [psMTo, rdM, hb]
theorem psB_one {s : ByteArray} {k : Nat} (hb : byteN s k = 49) : psBTo s (k + 1) = bits .or .i64 (psBTo s k) (bitN k) := by
  simp [psBTo, rdB, hb]
theorem psB_zero {s : ByteArray} {k : Nat} (hb : byteN s k = 48) : psBTo s (k + 1) = psBTo s k := by
  simp [psBTo, rdB, hb]
theorem psM_any {s : ByteArray} {k : Nat} (hb : byteN s k = 42) : psMTo s (k + 1) = psMTo s k := by
  simp [psMTo, rdM, hb]
theorem psB_any {s : ByteArray} {k : Nat} (hb : byteN s k = 42) : psBTo s (k + 1) = psBTo s k := by
  simp [psBTo, rdB, hb]

theorem may_next {s : ByteArray} {k : Nat} (h : mayTo s k = true) (hb : byteN s k = 49 ∨ byteN s k = 48 ∨ byteN s k = 42) : mayTo s (k + 1) = true := by
  rcases hb with hb | hb | hb <;> simp [mayTo, mayB, h, hb]

theorem ps_size {s : ByteArray} (h : psOk s = true) : s.size = 4 := by
  simp only [psOk, Bool.and_eq_true, beq_iff_eq] at h; exact h.1

end Go.Proofs.YtpmcjelihdlfeaaGreatDoor
/- What decimal of package rule answers, called with any word; and what SplitN hands back. -/
namespace Go.Proofs.YtpmcjelihdlfeaaGreatDoor
open Go.RowKit
set_option linter.unusedSimpArgs false

theorem is0 (s : ByteArray) : (s.toList == [48]) = (byteN s 0 == 48 && s.size == 1) := by
  rw [byte_lst]
  have hl := size_lst s
  unfold byteN
  cases h : s.data.toList with
  | nil => rw [h] at hl; simp at hl ⊢
  | cons c r =>
    rw [h] at hl
    cases r with
    | nil =>
      simp only [List.length_cons, List.length_nil] at hl
      rw [← hl]
      have e : (c == 48) = (c.toNat == 48) := by
        rw [Bool.eq_iff_iff]
        simp only [beq_iff_eq]
        exact ⟨fun h => by rw [h]; rfl, fun h => UInt8.toNat_inj.1 (by rw [h]; rfl)⟩
      simp [e]
    | cons d r =>
      have : s.size ≠ 1 := by simp at hl; omega
      simp [this]

theorem dc_small {s : ByteArray} {k : Nat} (hk : k ≤ 9) (h : dgTo s k = true) : 0 ≤ dcTo s k ∧ dcTo s k < 1000000000 := by
  have h1 := dc_bd h
  refine ⟨h1.1, Int.lt_of_lt_of_le h1.2 ?_⟩
  rcases (by omega : k = 0 ∨ k = 1 ∨ k = 2 ∨ k = 3 ∨ k = 4 ∨ k = 5 ∨ k = 6 ∨ k = 7 ∨ k = 8 ∨ k = 9) with rfl | rfl | rfl | rfl | rfl | rfl | rfl | rfl | rfl | rfl <;> decide

end Go.Proofs.YtpmcjelihdlfeaaGreatDoor
/- What SplitN hands back as words, and what deed of package rule answers, called with any words. -/
namespace Go.Proofs.YtpmcjelihdlfeaaGreatDoor
open Go.RowKit
set_option linter.unusedSimpArgs false

theorem cut_less : ∀ (k : Nat) (s : ByteArray), s.size ≤ k → cutB (k + 1) s = cutB k s
  | 0, s, h => by
    rcases bl_cases s with e | ⟨i, _, e⟩
    · rw [cut_miss _ e, cut_miss _ e]
    · omega
  | k + 1, s, h => by
    rcases bl_cases s with e | ⟨i, e, hi⟩
    · rw [cut_miss _ e, cut_miss _ e]
    · rw [cut_hit _ e, cut_hit _ e, cut_less k _ (by rw [ByteArray.size_extract]; omega)]
theorem cut_all (s : ByteArray) : ∀ (j k : Nat), s.size ≤ k → cutB (k + j) s = cutB k s
  | 0, _, _ => rfl
  | j + 1, k, h => by rw [← Nat.add_assoc, cut_less _ _ (by omega), cut_all s j k h]
theorem cut_six (s : ByteArray) {N : Nat} (hN : (N : Int) = min 7 ((s.size : Int) + 1)) : cutB (N - 1) s = cutB 6 s := by
  by_cases h : s.size ≤ 6
  · obtain rfl : N = s.size + 1 := by omega
    have := cut_all s (6 - s.size) s.size (Nat.le_refl _)
    rw [show s.size + (6 - s.size) = 6 by omega] at this
    exact this.symm
  · obtain rfl : N = 7 := by omega
    rfl

/-- These words lie from an address on. -/
def WAt (w : World) (b o : Nat) (ws : List ByteArray) : Prop := ∀ i (h : i < ws.length), w.cell? ⟨b, o + i, none⟩ = some (.string ws[i])
theorem WAt.later {w w' : World} {b o : Nat} {ws : List ByteArray} (h : WAt w b o ws) (hb : Below w.heap.size w w') : WAt w' b o ws :=
  fun i hi => (hb.cell (World.block_lt_of_cell? _ _ (h i hi))).trans (h i hi)
theorem WAt.tail {w : World} {b o : Nat} {a : ByteArray} {ws : List ByteArray} (h : WAt w b o (a :: ws)) : WAt w b (o + 1) ws := by
  intro i hi
  have := h (i + 1) (by simp; omega)
  rw [show o + (i + 1) = o + 1 + i by omega] at this
  simpa using this
theorem WAt.head {w : World} {b o : Nat} {a : ByteArray} {ws : List ByteArray} (h : WAt w b o (a :: ws)) : w.cell? ⟨b, o, none⟩ = some (.string a) := by
  have := h 0 (by simp)
  simpa using this

set_option maxHeartbeats 1000000 in
theorem splitN_any (s : ByteArray) (w : World) (hs : s.size < 4611686018427387904) :
    Calls Tryz.prog 27 #[.string s, .string ⟨#[32]⟩, .int .i64 7] w fun e w' =>
      ∃ cap, e = .returned (.slice (some ⟨w.heap.size, 0, none⟩) (cutB 6 s).length cap) ∧ (cutB 6 s).length ≤ cap ∧ cap ≤ 7 ∧ WAt w' w.heap.size 0 (cutB 6 s) ∧ Below w.heap.size w w' := by
  obtain ⟨N, hN⟩ : ∃ N : Nat, (N : Int) = min 7 ((s.size : Int) + 1) := ⟨(min 7 ((s.size : Int) + 1)).toNat, by omega⟩
  have hc := cut_six s hN
  have hl := cut_len (N - 1) s
  rw [hc] at hl
  go_enter Tryz.func27, Tryz.ntmps27
  go_wp2_with fail
  refine (genSplit_any s N _ hs hN).mono ?_
  rintro e w1 ⟨rfl, rfl⟩
  rw [hc]
  have hW : WAt (w.alloc (.cells (Lib.cellsOf (cutB 6 s) N) 9)) w.heap.size 0 (cutB 6 s) := by
    intro i hi
    simp only [World.cell?_alloc_new, Nat.zero_add, Lib.cellsOf]
    rw [List.getElem?_toArray, List.getElem?_append_left (by simpa using hi)]
    simp [hi]
  clear hc
  go_wp2
  go_ret
  exact ⟨N, rfl, by omega, by omega, hW, (Below.refl _ _).alloc (Nat.le_refl _) _⟩
end Go.Proofs.YtpmcjelihdlfeaaGreatDoor
/- What the document's own Cut answers: all words of a text of at most 2^20 bytes. -/
namespace Go.Proofs.YtpmcjelihdlfeaaGreatDoor
open Go.RowKit
set_option linter.unusedSimpArgs false

theorem infoStrC : (Tryz.prog.info? 9).map (fun i => (i.zero, i.size, i.bytes)) = some (some (.string ⟨#[]⟩), 1, 16) := by kernel_rfl
/-- Words that a call owns lie where their slice says. -/
theorem own_words {w : World} {B e : Nat} {v : Value} {ws : List ByteArray} (h : w.ownsRow B e 1 v ws.length (ws.map Value.string)) (h1 : 1 ≤ ws.length) : ∃ g cap, v = .slice (some ⟨g, 0, none⟩) ws.length cap ∧ B ≤ g ∧ ws.length ≤ cap ∧ cap ≤ maxLen ∧ WAt w g 0 ws := by
  rcases h.2 with ⟨rfl, h0⟩ | ⟨g, cap, cur, rfl, hB, _, h3, h4, _⟩
  · omega
  · refine ⟨g, cap, rfl, hB, h3, h4, fun i hi => ?_⟩
    have := h.cellAt i (by simpa using hi)
    simpa [hi] using this

set_option maxRecDepth 100000 in
set_option maxHeartbeats 2000000 in
theorem cut_any (s : ByteArray) (w : World) (hs : s.size ≤ 1048576) :
    Calls Tryz.prog 25 #[.string s, .int .u8 32] w fun e w' => ∃ v, e = .returned v ∧ w'.ownsRow w.heap.size 9 1 v (cutA s).length ((cutA s).map Value.string) ∧ Below w.heap.size w w' := by
  obtain ⟨i0, hi, hz0, hz1, hz2⟩ := info_parts infoStrC
  go_enter Tryz.func25, Tryz.ntmps25
  go_wp2
  go_loopw [5, 6, 7] (fun v f i wr => ∃ (k j : Nat) (D : List ByteArray), k ≤ s.size ∧ j ≤ k ∧ f = .int .i64 j ∧ i = .int .i64 k ∧ D.length ≤ j ∧ D ++ cutA (s.extract j s.size) = cutA s ∧ noBl s j k ∧ wr.ownsRow w.heap.size 9 1 v D.length (D.map Value.string) ∧ Below w.heap.size w wr)
    (fun _ _ i _ => s.size - (intOf i).toNat)
  case atStart => exact ⟨0, 0, [], by omega, by omega, rfl, rfl, by simp, by simp, fun j h1 h2 => by omega, World.ownsRow_nil _ _ _ _, Below.refl _ _⟩
  case round =>
    obtain ⟨k, j, D, hk, hj, rfl, rfl, hD, hcut, hno, hown, hB⟩ := hrel
    have HB : Hid (Below w.heap.size w wr) := hB
    have HOWN : Hid (wr.ownsRow w.heap.size 9 1 u5 D.length (D.map Value.string)) := hown
    have HCUT : Hid (D ++ cutA (s.extract j s.size) = cutA s) := hcut
    have HNO : Hid (noBl s j k) := hno
    have hsz : w.heap.size ≤ wr.heap.size := hB.size
    clear hB hown hcut hno
    by_cases hlt : k < s.size
    · have hb := byteN_at s k hlt
      have HBY : Hid (byteN s k = s[k].toNat) := hb
      clear hb
      cases e1 : ((s[k].toNat : Int) == 32)
      · have HNO2 : Hid (noBl s j (k + 1)) := noBl_next HNO.out (by rw [HBY.out]; simp at e1; omega)
        go_wp2
        go_roundw
        case rel => exact ⟨k + 1, j, D, by omega, by omega, rfl, by go_num, hD, HCUT.out, HNO2.out, HOWN.out, HB.out⟩
        case measure => simp [intOf]; omega
      · have HST : Hid (cutA (s.extract j s.size) = s.extract j k :: cutA (s.extract (k + 1) s.size)) := cutA_step hj hlt HNO.out (by rw [HBY.out]; simp at e1; omega)
        have hj1 : (j : Int) ≤ (k : Int) := by omega
        have hk1 : (k : Int) ≤ (s.size : Int) := by omega
        go_wp2_with (at_builtin; refine wpList_append_own _ rfl _ _ 67 rfl w.heap.size 9 i0 (.string ⟨#[]⟩) 1 16 Tryz.underlying67 hi hz0 hz1 hz2 rfl (by decide) _ _ _ rfl (HOWN.out.alloc _) ⟨wr.heap.size, 0, none⟩ 1 1 [.string (s.extract j k)] rfl rfl ?c1 ?c2 ?c3 ?c4 ?c5 ?_)
        case c1 =>
          intro j u hj
          match j, hj with
          | 0, hj => simp at hj; subst hj; simp [Addr.add]
        case c2 => intro u hu; simp at hu; subst hu; rfl
        case c3 => unfold maxLen; omega
        case c4 => omega
        case c5 => simp; omega
        intro v' w3 hown3 hgrow _
        have hB3 : Below w.heap.size w w3 := (HB.out.alloc hsz _).grown hgrow (by simp; omega) (fun g hg => (HOWN.out.lt g hg).1)
        clear hgrow
        have HO3 : Hid (w3.ownsRow w.heap.size 9 1 v' (D ++ [s.extract j k]).length ((D ++ [s.extract j k]).map Value.string)) := by
          show w3.ownsRow w.heap.size 9 1 v' (D ++ [s.extract j k]).length ((D ++ [s.extract j k]).map Value.string)
          simpa using hown3
        clear hown3
        go_wp2
        go_roundw
        case rel => exact ⟨k + 1, k + 1, D ++ [s.extract j k], by omega, by omega, by go_num, by go_num, by simp; omega, by rw [← HCUT.out, HST.out]; simp, fun a h1 h2 => by omega, HO3.out, hB3⟩
        case measure => simp [intOf]; omega
    · obtain rfl : k = s.size := by omega
      have HEND : Hid (cutA s = D ++ [s.extract j s.size]) := by
        show cutA s = _
        rw [← HCUT.out, cutA_end HNO.out]
      have hj1 : (j : Int) ≤ (s.size : Int) := by omega
      go_wp2_with (at_builtin; refine wpList_append_own _ rfl _ _ 67 rfl w.heap.size 9 i0 (.string ⟨#[]⟩) 1 16 Tryz.underlying67 hi hz0 hz1 hz2 rfl (by decide) _ _ _ rfl (HOWN.out.alloc _) ⟨wr.heap.size, 0, none⟩ 1 1 [.string (s.extract j s.size)] rfl rfl ?c1 ?c2 ?c3 ?c4 ?c5 ?_)
      case c1 =>
        intro j u hj
        match j, hj with
        | 0, hj => simp at hj; subst hj; simp [Addr.add]
      case c2 => intro u hu; simp at hu; subst hu; rfl
      case c3 => unfold maxLen; omega
      case c4 => omega
      case c5 => simp; omega
      intro v' w3 hown3 hgrow _
      have hB3 : Below w.heap.size w w3 := (HB.out.alloc hsz _).grown hgrow (by simp; omega) (fun g hg => (HOWN.out.lt g hg).1)
      clear hgrow
      have HO3 : Hid (w3.ownsRow w.heap.size 9 1 v' (cutA s).length ((cutA s).map Value.string)) := by
        show w3.ownsRow w.heap.size 9 1 v' (cutA s).length ((cutA s).map Value.string)
        rw [HEND.out]
        simpa using hown3
      clear hown3
      go_wp2
      go_ret
      exact ⟨_, rfl, HO3.out, hB3⟩
end Go.Proofs.YtpmcjelihdlfeaaGreatDoor
/- What the document's own Number answers, called with any word. -/
namespace Go.Proofs.YtpmcjelihdlfeaaGreatDoor
open Go.RowKit
set_option linter.unusedSimpArgs false

set_option maxHeartbeats 1000000 in
theorem num_head (s : ByteArray) (w : World) (h : dcHd s = false) :
    Calls Tryz.prog 26 #[.string s] w fun e w' => e = .returned (.tuple #[.int .i64 0, .bool false]) ∧ w' = w := by
  by_cases h0 : s.size = 0
  · have e0 : s.toList.isEmpty = true := by
      rw [byte_lst, List.isEmpty_iff, ← List.length_eq_zero_iff, size_lst, h0]
    go_enter Tryz.func26, Tryz.ntmps26
    go_wp2
    refine bodyPost_ret (v := .tuple #[.int .i64 0, .bool false]) (by simp [results, Tryz.results26, go_sem]) rfl ⟨rfl, rfl⟩
  · have e0 : s.toList.isEmpty = false := by
      rw [byte_lst, ← Bool.not_eq_true, List.isEmpty_iff, ← List.length_eq_zero_iff, size_lst]; exact h0
    by_cases h9 : 9 < s.size
    · have e9 : decide ((9 : Int) < (s.size : Int)) = true := by simp; omega
      go_enter Tryz.func26, Tryz.ntmps26
      go_wp2
      refine bodyPost_ret (v := .tuple #[.int .i64 0, .bool false]) (by simp [results, Tryz.results26, go_sem]) rfl ⟨rfl, rfl⟩
    · have e9 : decide ((9 : Int) < (s.size : Int)) = false := by simp; omega
      have hz : 0 < s.size := by omega
      have hh : byteN s 0 = 48 ∧ s.size ≠ 1 := by
        simp [dcHd] at h
        have := h (by omega) (by omega)
        exact ⟨this.1, this.2⟩
      have e1 : ((s[0].toNat : Int) == 48) = true := by
        have := byteN_at s 0 hz
        rw [hh.1] at this
        simp; omega
      have e2 : decide ((1 : Int) < (s.size : Int)) = true := by simp; omega
      clear hh h
      go_enter Tryz.func26, Tryz.ntmps26
      go_wp2
      refine bodyPost_ret (v := .tuple #[.int .i64 0, .bool false]) (by simp [results, Tryz.results26, go_sem]) rfl ⟨rfl, rfl⟩

set_option maxHeartbeats 1000000 in
theorem num_tail (s : ByteArray) (w : World) (h : dcHd s = true) :
    Calls Tryz.prog 26 #[.string s] w fun e w' => e = .returned (.tuple #[.int .i64 (dcN s), .bool (dcOk s)]) ∧ w' = w := by
  have hh : 0 < s.size ∧ s.size ≤ 9 := by
    simp only [dcHd, Bool.and_eq_true, decide_eq_true_eq] at h
    omega
  obtain ⟨hz, h9⟩ := hh
  have e0 : s.toList.isEmpty = false := by
    rw [byte_lst, ← Bool.not_eq_true, List.isEmpty_iff, ← List.length_eq_zero_iff, size_lst]; omega
  have e9 : decide ((9 : Int) < (s.size : Int)) = false := by simp; omega
  have HH : Hid (dcHd s = true) := h
  go_enter Tryz.func26, Tryz.ntmps26
  go_upto_region 1 with fail
  go_cut [22] from 4 (fun v w' => v = .bool false ∧ w' = w)
  case first =>
    cases e1 : ((s[0].toNat : Int) == 48)
    · go_wp2
      go_meet
      case rel => exact ⟨rfl, rfl⟩
    · have e2 : decide ((1 : Int) < (s.size : Int)) = false := by
        have hb := byteN_at s 0 hz
        have h48 : byteN s 0 = 48 := by simp at e1; omega
        simp only [dcHd, h48, Bool.and_eq_true] at h
        have := h.2.2
        simp at this
        simp
        omega
      go_wp2
      go_meet
      case rel => exact ⟨rfl, rfl⟩
  obtain ⟨rfl, hw⟩ := hcut
  replace hw := hw.symm
  subst hw
  clear h e0 e9
  go_wp2
  go_loopw [4, 5] (fun n i wr => ∃ k : Nat, k ≤ s.size ∧ n = .int .i64 (dcTo s k) ∧ i = .int .i64 k ∧ dgTo s k = true ∧ wr = w) (fun _ i _ => s.size - (intOf i).toNat)
  case atStart => exact ⟨0, by omega, rfl, rfl, rfl, rfl⟩
  case round =>
    obtain ⟨k, hk, rfl, rfl, hdg, hw⟩ := hrel
    replace hw := hw.symm
    subst hw
    have HD : Hid (dgTo s k = true) := hdg
    obtain ⟨b0, b1⟩ := dc_small (by omega) hdg
    clear hdg
    by_cases hlt : k < s.size
    · have hb := byteN_at s k hlt
      have HB : Hid (byteN s k = s[k].toNat) := hb
      clear hb
      have hu : s[k].toNat < 256 := s[k].toNat_lt
      by_cases hd : digB (s[k].toNat) = true
      · obtain ⟨d0, d1⟩ := dig_of hd
        have g0 : decide ((s[k].toNat : Int) < 48) = false := by simp; omega
        have g1 : decide ((57 : Int) < (s[k].toNat : Int)) = false := by simp; omega
        have HD1 : Hid (dgTo s (k + 1) = true) := by
          show dgTo s (k + 1) = true
          simp [dgTo, HD.out, HB.out, hd]
        have HC : Hid (dcTo s (k + 1) = dcTo s k * 10 + (s[k].toNat : Int) - 48) := by
          show dcTo s (k + 1) = _
          simp only [dcTo, HB.out]
          omega
        generalize dcTo s k = q at *
        go_wp2
        go_roundw
        case rel => exact ⟨k + 1, by omega, by rw [HC.out]; try rfl, by go_num, HD1.out, trivial⟩
        case measure => simp [intOf]; omega
      · have hx : dcOk s = false := by
          cases e : dcOk s
          · rfl
          · exfalso
            simp only [dcOk, Bool.and_eq_true] at e
            have := dg_le hlt e.2
            rw [HB.out] at this
            exact hd this
        have hy : dcN s = 0 := by simp [dcN, hx]
        have HX : Hid (dcOk s = false) := hx
        have HY : Hid (dcN s = 0) := hy
        have hd2 : s[k].toNat < 48 ∨ 57 < s[k].toNat := by
          simp [digB] at hd
          omega
        clear hx hy hd
        rcases hd2 with hd2 | hd2
        · have g0 : decide ((s[k].toNat : Int) < 48) = true := by simp; omega
          go_wp2
          refine bodyPost_ret (v := .tuple #[.int .i64 0, .bool false]) (by simp [results, Tryz.results26, go_sem]) rfl ⟨by rw [HX.out, HY.out], rfl⟩
        · have g0 : decide ((s[k].toNat : Int) < 48) = false := by simp; omega
          have g1 : decide ((57 : Int) < (s[k].toNat : Int)) = true := by simp; omega
          go_wp2
          refine bodyPost_ret (v := .tuple #[.int .i64 0, .bool false]) (by simp [results, Tryz.results26, go_sem]) rfl ⟨by rw [HX.out, HY.out], rfl⟩
    · obtain rfl : k = s.size := by omega
      have hx : dcOk s = true := by simp [dcOk, HH.out, HD.out]
      have hy : dcN s = dcTo s s.size := by simp [dcN, hx]
      have HX : Hid (dcOk s = true) := hx
      have HY : Hid (dcN s = dcTo s s.size) := hy
      clear hx hy
      go_wp2
      refine bodyPost_ret (v := .tuple #[.int .i64 (dcTo s s.size), .bool true]) (by simp [results, Tryz.results26, go_sem]) rfl ⟨by rw [HX.out, HY.out], rfl⟩

theorem num_any (s : ByteArray) (w : World) :
    Calls Tryz.prog 26 #[.string s] w fun e w' => e = .returned (.tuple #[.int .i64 (dcN s), .bool (dcOk s)]) ∧ w' = w := by
  cases h : dcHd s
  · have hx : dcOk s = false := by simp [dcOk, h]
    have hy : dcN s = 0 := by simp [dcN, hx]
    rw [hx, hy]
    exact num_head s w h
  · exact num_tail s w h
end Go.Proofs.YtpmcjelihdlfeaaGreatDoor
/- strconv.Atoi by its contract off the shelf, laid at this program: at every text. -/
namespace Go.Proofs.YtpmcjelihdlfeaaGreatDoor
open Go.Shelf
def laysC172_ren : Go.Shelf.Ren := ⟨fun | 172 => 29 | 244 => 52 | 245 => 53 | 247 => 80 | 279 => 81 | 280 => 82 | 281 => 83 | 282 => 84 | 287 => 113 | 316 => 54 | 171 => 24 | 205 => 114 | 321 => 134 | 322 => 135 | 243 => 50 | 246 => 76 | 283 => 105 | 284 => 106 | 285 => 107 | 286 => 108 | 129 => 125 | 317 => 124 | 318 => 126 | 319 => 127 | 320 => 128 | 337 => 138 | 338 => 139 | n => n, fun | 9 => 9 | 3 => 3 | 75 => 37 | 76 => 73 | 4 => 4 | 5 => 5 | 167 => 154 | 37 => 149 | 0 => 0 | 85 => 155 | 2 => 2 | 168 => 157 | 53 => 192 | 175 => 200 | 46 => 202 | 210 => 204 | 127 => 160 | 145 => 220 | 143 => 218 | 21 => 21 | 171 => 191 | 173 => 195 | 212 => 213 | 51 => 214 | 20 => 20 | 213 => 215 | 232 => 232 | 233 => 233 | 80 => 235 | n => n, fun | 15 => 2 | 16 => 3 | 17 => 4 | 18 => 8 | 19 => 9 | n => n⟩
theorem laysC172 : Go.Proofs.LaysC.n172 Tryz.prog laysC172_ren := {
  mixed := by kernel_rfl
  f129 := Tryz.func125.trans (congrArg some (by kernel_rfl))
  f171 := Tryz.func24.trans (congrArg some (by kernel_rfl))
  f172 := Tryz.func29.trans (congrArg some (by kernel_rfl))
  f205 := Tryz.func114.trans (congrArg some (by kernel_rfl))
  f243 := Tryz.func50.trans (congrArg some (by kernel_rfl))
  f244 := Tryz.func52.trans (congrArg some (by kernel_rfl))
  f245 := Tryz.func53.trans (congrArg some (by kernel_rfl))
  f246 := Tryz.func76.trans (congrArg some (by kernel_rfl))
  f247 := Tryz.func80.trans (congrArg some (by kernel_rfl))
  f279 := Tryz.func81.trans (congrArg some (by kernel_rfl))
  f280 := Tryz.func82.trans (congrArg some (by kernel_rfl))
  f281 := Tryz.func83.trans (congrArg some (by kernel_rfl))
  f282 := Tryz.func84.trans (congrArg some (by kernel_rfl))
  f283 := Tryz.func105.trans (congrArg some (by kernel_rfl))
  f284 := Tryz.func106.trans (congrArg some (by kernel_rfl))
  f285 := Tryz.func107.trans (congrArg some (by kernel_rfl))
  f286 := Tryz.func108.trans (congrArg some (by kernel_rfl))
  f287 := Tryz.func113.trans (congrArg some (by kernel_rfl))
  f316 := Tryz.func54.trans (congrArg some (by kernel_rfl))
  f317 := Tryz.func124.trans (congrArg some (by kernel_rfl))
  f318 := Tryz.func126.trans (congrArg some (by kernel_rfl))
  f319 := Tryz.func127.trans (congrArg some (by kernel_rfl))
  f320 := Tryz.func128.trans (congrArg some (by kernel_rfl))
  f321 := Tryz.func134.trans (congrArg some (by kernel_rfl))
  f322 := Tryz.func135.trans (congrArg some (by kernel_rfl))
  f337 := Tryz.func138.trans (congrArg some (by kernel_rfl))
  f338 := Tryz.func139.trans (congrArg some (by kernel_rfl))
  t0 := Tryz.underlying0
  a0 := Tryz.isAgg0
  z0 := Tryz.sizeOf0
  v0 := Tryz.zeroValue0
  t2 := Tryz.underlying2
  a2 := Tryz.isAgg2
  z2 := Tryz.sizeOf2
  v2 := Tryz.zeroValue2
  t3 := Tryz.underlying3
  a3 := Tryz.isAgg3
  z3 := Tryz.sizeOf3
  v3 := Tryz.zeroValue3
  t4 := Tryz.underlying4
  a4 := Tryz.isAgg4
  z4 := Tryz.sizeOf4
  v4 := Tryz.zeroValue4
  t5 := Tryz.underlying5
  a5 := Tryz.isAgg5
  z5 := Tryz.sizeOf5
  v5 := Tryz.zeroValue5
  t9 := Tryz.underlying9
  a9 := Tryz.isAgg9
  z9 := Tryz.sizeOf9
  v9 := Tryz.zeroValue9
  t20 := Tryz.underlying20
  a20 := Tryz.isAgg20
  z20 := Tryz.sizeOf20
  v20 := Tryz.zeroValue20
  t21 := Tryz.underlying21
  a21 := Tryz.isAgg21
  z21 := Tryz.sizeOf21
  v21 := Tryz.zeroValue21
  t37 := Tryz.underlying149
  a37 := Tryz.isAgg149
  z37 := Tryz.sizeOf149
  v37 := Tryz.zeroValue149
  t46 := Tryz.underlying202
  a46 := Tryz.isAgg202
  z46 := Tryz.sizeOf202
  v46 := Tryz.zeroValue202
  t51 := Tryz.underlying214
  a51 := Tryz.isAgg214
  z51 := Tryz.sizeOf214
  v51 := Tryz.zeroValue214
  t53 := Tryz.underlying192
  a53 := Tryz.isAgg192
  z53 := Tryz.sizeOf192
  v53 := Tryz.zeroValue192
  t75 := Tryz.underlying37
  a75 := Tryz.isAgg37
  z75 := Tryz.sizeOf37
  v75 := Tryz.zeroValue37
  t76 := Tryz.underlying73
  a76 := Tryz.isAgg73
  z76 := Tryz.sizeOf73
  v76 := Tryz.zeroValue73
  t85 := Tryz.underlying155
  a85 := Tryz.isAgg155
  z85 := Tryz.sizeOf155
  v85 := Tryz.zeroValue155
  t127 := Tryz.underlying160
  a127 := Tryz.isAgg160
  z127 := Tryz.sizeOf160
  v127 := Tryz.zeroValue160
  t143 := Tryz.underlying218
  a143 := Tryz.isAgg218
  z143 := Tryz.sizeOf218
  v143 := Tryz.zeroValue218
  t145 := Tryz.underlying220
  a145 := Tryz.isAgg220
  z145 := Tryz.sizeOf220
  v145 := Tryz.zeroValue220
  t167 := Tryz.underlying154
  a167 := Tryz.isAgg154
  z167 := Tryz.sizeOf154
  v167 := Tryz.zeroValue154
  t168 := Tryz.underlying157
  a168 := Tryz.isAgg157
  z168 := Tryz.sizeOf157
  v168 := Tryz.zeroValue157
  t171 := Tryz.underlying191
  a171 := Tryz.isAgg191
  z171 := Tryz.sizeOf191
  v171 := Tryz.zeroValue191
  t173 := Tryz.underlying195
  a173 := Tryz.isAgg195
  z173 := Tryz.sizeOf195
  v173 := Tryz.zeroValue195
  t175 := Tryz.underlying200
  a175 := Tryz.isAgg200
  z175 := Tryz.sizeOf200
  v175 := Tryz.zeroValue200
  t210 := Tryz.underlying204
  a210 := Tryz.isAgg204
  z210 := Tryz.sizeOf204
  v210 := Tryz.zeroValue204
  t212 := Tryz.underlying213
  a212 := Tryz.isAgg213
  z212 := Tryz.sizeOf213
  v212 := Tryz.zeroValue213
  t213 := Tryz.underlying215
  a213 := Tryz.isAgg215
  z213 := Tryz.sizeOf215
  t232 := Tryz.underlying232
  a232 := Tryz.isAgg232
  z232 := Tryz.sizeOf232
  v232 := Tryz.zeroValue232
  t233 := Tryz.underlying233
  a233 := Tryz.isAgg233
  z233 := Tryz.sizeOf233
  v233 := Tryz.zeroValue233
  g15 := by kernel_rfl
  g16 := by kernel_rfl
  g17 := by kernel_rfl
  g18 := by kernel_rfl
  g19 := by kernel_rfl
  t80 := Tryz.underlying235
  a80 := Tryz.isAgg235
  z80 := Tryz.sizeOf235
  v80 := Tryz.zeroValue235
  i0 := by kernel_rfl
  i2 := by kernel_rfl
  i3 := by kernel_rfl
  i4 := by kernel_rfl
  i5 := by kernel_rfl
  i9 := by kernel_rfl
  i20 := by kernel_rfl
  i21 := by kernel_rfl
  i37 := by kernel_rfl
  i46 := by kernel_rfl
  i51 := by kernel_rfl
  i53 := by kernel_rfl
  i75 := by kernel_rfl
  i76 := by kernel_rfl
  i80 := by kernel_rfl
  i85 := by kernel_rfl
  i127 := by kernel_rfl
  i143 := by kernel_rfl
  i145 := by kernel_rfl
  i167 := by kernel_rfl
  i168 := by kernel_rfl
  i171 := by kernel_rfl
  i173 := by kernel_rfl
  i175 := by kernel_rfl
  i210 := by kernel_rfl
  i212 := by kernel_rfl
  i232 := by kernel_rfl
  i233 := by kernel_rfl
  m15 := by kernel_rfl
  m16 := by kernel_rfl
  m17 := by kernel_rfl
  m18 := by kernel_rfl
  m19 := by kernel_rfl
  c0 := by kernel_rfl
  c2 := by kernel_rfl
  c3 := by kernel_rfl
  c4 := by kernel_rfl
  c5 := by kernel_rfl
  c9 := by kernel_rfl
  c20 := by kernel_rfl
  c21 := by kernel_rfl
  c37 := by kernel_rfl
  c46 := by kernel_rfl
  c51 := by kernel_rfl
  c53 := by kernel_rfl
  c75 := by kernel_rfl
  c76 := by kernel_rfl
  c80 := by kernel_rfl
  c85 := by kernel_rfl
  c127 := by kernel_rfl
  c143 := by kernel_rfl
  c145 := by kernel_rfl
  c167 := by kernel_rfl
  c168 := by kernel_rfl
  c171 := by kernel_rfl
  c173 := by kernel_rfl
  c175 := by kernel_rfl
  c210 := by kernel_rfl
  c212 := by kernel_rfl
  c213 := by kernel_rfl
  c232 := by kernel_rfl
  c233 := by kernel_rfl }
open Go.RowKit in
theorem strconv_Atoi_ok (s : ByteArray) (hmax : s.size ≤ 9223372036854775806) (v : Int) (h : Lib.atoiAll s.data.toList = .ok v) (w : World) :
    Calls Tryz.prog 29 #[.string s] w fun e w' => e = .returned (.tuple #[.int .i64 v, .nilIface]) ∧ (w' = w ∨ ∃ t, w' = Lib.bytesWorld w 5 t) := Any.strconv_Atoi_ok laysC172 s hmax v h w
open Go.RowKit in
theorem strconv_Atoi_range (s : ByteArray) (hlim : s.size ≤ 281474976710656) (h : Lib.atoiAll s.data.toList = .range) (ev : Value) (w : World) (hv : w.cell? ⟨3, 0, none⟩ = some ev) (hev : ev = .nilIface ∨ ∃ te pe, ev = .iface te pe) :
    Calls Tryz.prog 29 #[.string s] w fun e w' => ∃ N, e = .returned (.tuple #[.int .i64 (Lib.atoiSat s.data.toList), .iface 157 (.pointer (some ⟨N, 0, none⟩))]) ∧ w.heap.size ≤ N ∧ w'.heap[N]? = some (.cells #[.string ⟨#[65, 116, 111, 105]⟩, .string s, ev] 204 (0, 0)) ∧ Below w.heap.size w w' := Any.strconv_Atoi_range laysC172 s hlim h ev w hv hev
end Go.Proofs.YtpmcjelihdlfeaaGreatDoor
/- What strings.SplitN answers at a blank and 4: a text cut at its first three blanks. -/
namespace Go.Proofs.YtpmcjelihdlfeaaGreatDoor
open Go.RowKit
set_option linter.unusedSimpArgs false

set_option maxHeartbeats 4000000 in
set_option maxRecDepth 1000000 in
theorem genSplit4_any (s : ByteArray) (N : Nat) (w : World) (hs : s.size < 4611686018427387904) (hN : (N : Int) = min 4 ((s.size : Int) + 1)) :
    Calls Tryz.prog 51 #[.string s, .string ⟨#[32]⟩, .int .i64 0, .int .i64 4] w fun e w' =>
      e = .returned (.slice (some ⟨w.heap.size, 0, none⟩) (cutB (N - 1) s).length N) ∧ w' = w.alloc (.cells (Lib.cellsOf (cutB (N - 1) s) N) 9) := by
  have hNs : (N : Int) ≤ (s.size : Int) + 1 := by omega
  have hN1 : (1 : Int) ≤ (N : Int) := by omega
  have hmk := run_make_row' (P := Tryz.prog) 67 9 (.string ByteArray.empty) 16 Tryz.underlying67 infoStr rfl .i64 .i64 N (by omega) (by omega)
  have hmin : min (4 : Int) ((s.size : Int) + 1) = (N : Int) := hN.symm
  clear hN
  go_enter Tryz.func51, Tryz.ntmps51
  go_upto_region 7 with fail
  go_cut [3] from 9 (fun v w' => v = .int .i64 N ∧ w' = w)
  case first =>
    clear hmk
    by_cases h7 : (4 : Int) ≤ (s.size : Int) + 1
    · have e : (N : Int) = 4 := by omega
      go_wp2
      go_meet
      case rel => exact ⟨by rw [e], rfl⟩
    · have e : (N : Int) = (s.size : Int) + 1 := by omega
      go_wp2
      go_meet
      case rel => exact ⟨by rw [e], rfl⟩
  obtain ⟨rfl, hw⟩ := hcut
  replace hw := hw.symm
  subst hw
  go_wp2_with fail
  clear hmk
  go_loopg [0, 10] (N - 1) (fun g s0 s10 wr => ∃ (done : List ByteArray) (rest : ByteArray), s0 = .string rest ∧ s10 = .int .i64 done.length ∧ done.length ≤ N - 1 ∧ g = N - 1 - done.length ∧ rest.size ≤ s.size ∧
      wr = w.alloc (.cells (Lib.cellsOf done N) 9) ∧ done ++ cutB (N - 1 - done.length) rest = cutB (N - 1) s)
  case atStart => exact ⟨[], s, rfl, rfl, Nat.zero_le _, rfl, Nat.le_refl _, by rw [Lib.cellsOf_nil], rfl⟩
  case round =>
    obtain ⟨done, rest, rfl, rfl, hd, rfl, hrs, rfl, hsp⟩ := hrel
    have hnext : (Lib.cellsOf done N)[done.length]? = some (.string ByteArray.empty) := Lib.cellsOf_next (by omega)
    have HS : Hid (done ++ cutB (N - 1 - done.length) rest = cutB (N - 1) s) := hsp
    clear hsp
    have fin : cutB (N - 1 - done.length) rest = [rest] → (cutB (N - 1) s).length = done.length + 1 ∧ (Lib.cellsOf done N).setIfInBounds done.length (.string rest) = Lib.cellsOf (cutB (N - 1) s) N := fun h => by
      have e := HS.out
      rw [h] at e
      rw [← e]
      exact ⟨by simp, Lib.cellsOf_set (by omega) rest⟩
    by_cases hlt : done.length < N - 1
    · have hltz : ((done.length : Nat) : Int) < (N : Int) - 1 := by omega
      rcases bl_cases rest with hix | ⟨i, hix, hroom⟩
      · go_wp2_with fail
        refine (index_any _ _).mono ?_
        rintro e w' ⟨rfl, rfl⟩
        rw [hix]
        go_wp2
        go_ret
        obtain ⟨f1, f2⟩ := fin (cut_miss _ hix)
        rw [f1, ← f2]
        exact ⟨by first | rfl | (congr 2 <;> omega), rfl⟩
      · have c0 : ¬ ((i : Int) < 0) := by omega
        have c1 : (0 : Int) ≤ ↑i + 0 := by omega
        have c2 : (↑i + 0 : Int) ≤ ↑rest.size := by omega
        have c3 : (0 : Int) ≤ ↑i + 1 := by omega
        have c4 : (↑i + 1 : Int) ≤ ↑rest.size := by omega
        go_wp2_with fail
        refine (index_any _ _).mono ?_
        rintro e w' ⟨rfl, rfl⟩
        rw [hix]
        go_wp2
        go_roundg (N - 1 - (done.length + 1))
        case measure => omega
        case rel =>
          refine ⟨done ++ [rest.extract 0 i], rest.extract (i + 1) rest.size, rfl, by simp, by simp; omega, by simp, by rw [ByteArray.size_extract]; omega, by rw [← Lib.cellsOf_set (by omega)], ?_⟩
          rw [← HS.out, show N - 1 - done.length = (N - 1 - (done.length + 1)) + 1 by omega, cut_hit _ hix]
          simp
    · have hltz : ¬ (((done.length : Nat) : Int) < (N : Int) - 1) := by omega
      go_wp2
      go_ret
      obtain ⟨f1, f2⟩ := fin (by rw [show N - 1 - done.length = 0 by omega]; rfl)
      rw [f1, ← f2]
      exact ⟨by first | rfl | (congr 2 <;> omega), rfl⟩
theorem cut_three (s : ByteArray) {N : Nat} (hN : (N : Int) = min 4 ((s.size : Int) + 1)) : cutB (N - 1) s = cutB 3 s := by
  by_cases h : s.size ≤ 3
  · obtain rfl : N = s.size + 1 := by omega
    have := cut_all s (3 - s.size) s.size (Nat.le_refl _)
    rw [show s.size + (3 - s.size) = 3 by omega] at this
    exact this.symm
  · obtain rfl : N = 4 := by omega
    rfl

set_option maxHeartbeats 1000000 in
theorem splitN4_any (s : ByteArray) (w : World) (hs : s.size < 4611686018427387904) :
    Calls Tryz.prog 27 #[.string s, .string ⟨#[32]⟩, .int .i64 4] w fun e w' =>
      ∃ cap, e = .returned (.slice (some ⟨w.heap.size, 0, none⟩) (cutB 3 s).length cap) ∧ (cutB 3 s).length ≤ cap ∧ cap ≤ 4 ∧ WAt w' w.heap.size 0 (cutB 3 s) ∧ Below w.heap.size w w' := by
  obtain ⟨N, hN⟩ : ∃ N : Nat, (N : Int) = min 4 ((s.size : Int) + 1) := ⟨(min 4 ((s.size : Int) + 1)).toNat, by omega⟩
  have hc := cut_three s hN
  have hl := cut_len (N - 1) s
  rw [hc] at hl
  go_enter Tryz.func27, Tryz.ntmps27
  go_wp2_with fail
  refine (genSplit4_any s N _ hs hN).mono ?_
  rintro e w1 ⟨rfl, rfl⟩
  rw [hc]
  have hW : WAt (w.alloc (.cells (Lib.cellsOf (cutB 3 s) N) 9)) w.heap.size 0 (cutB 3 s) := by
    intro i hi
    simp only [World.cell?_alloc_new, Nat.zero_add, Lib.cellsOf]
    rw [List.getElem?_toArray, List.getElem?_append_left (by simpa using hi)]
    simp [hi]
  clear hc
  go_wp2
  go_ret
  exact ⟨N, rfl, by omega, by omega, hW, (Below.refl _ _).alloc (Nat.le_refl _) _⟩
end Go.Proofs.YtpmcjelihdlfeaaGreatDoor
/- What whatOf of package wish and strconv.Atoi answer: contracts for the walk of Parse. -/
namespace Go.Proofs.YtpmcjelihdlfeaaGreatDoor
open Go.RowKit
set_option linter.unusedSimpArgs false
set_option linter.unusedVariables false

/-- The words from a place on. -/
def whF (a : ByteArray) : Nat → Int
  | 0 => if a == ByteArray.empty then 0 else if a == reaS then 1 else if a == apaS then 2 else if a == wayS then 3 else if a == looS then 4 else 0
  | 1 => if a == reaS then 1 else if a == apaS then 2 else if a == wayS then 3 else if a == looS then 4 else 0
  | 2 => if a == apaS then 2 else if a == wayS then 3 else if a == looS then 4 else 0
  | 3 => if a == wayS then 3 else if a == looS then 4 else 0
  | 4 => if a == looS then 4 else 0
  | _ => 0
theorem beq_turn (a b : ByteArray) : (a.toList == b.toList) = (b == a) := by
  rw [← beq_toListBytes]
  cases h : (b == a) with
  | true => rw [ba_eq.1 h]; exact ba_eq.2 rfl
  | false =>
    cases h2 : (a == b) with
    | false => rfl
    | true => rw [ba_eq.1 h2] at h; rw [ba_eq.2 rfl] at h; cases h
theorem emp_turn (a : ByteArray) : a.toList.isEmpty = (a == ByteArray.empty) := emp_lst a

set_option maxHeartbeats 4000000 in
set_option maxRecDepth 100000 in
theorem whatOf_any (a : ByteArray) (w : World) (hw : HasWords w) :
    Calls Tryz.prog 28 #[.string a] w fun e w' => e = .returned (.int .i64 (whW a)) ∧ w' = w := by
  obtain ⟨R, hR⟩ : ∃ R, R = whW a := ⟨_, rfl⟩
  have HR : Hid (R = whF a 0) := hR
  rw [← hR]
  obtain ⟨B0, h0⟩ : ∃ q, q = (a == ByteArray.empty) := ⟨_, rfl⟩
  obtain ⟨B1, h1⟩ : ∃ q, q = (reaS.toList == a.toList) := ⟨_, rfl⟩
  obtain ⟨B2, h2⟩ : ∃ q, q = (apaS.toList == a.toList) := ⟨_, rfl⟩
  obtain ⟨B3, h3⟩ : ∃ q, q = (wayS.toList == a.toList) := ⟨_, rfl⟩
  obtain ⟨B4, h4⟩ : ∃ q, q = (looS.toList == a.toList) := ⟨_, rfl⟩
  have e0 : a.toList.isEmpty = B0 := by rw [h0, emp_lst]
  have H1 : Hid ((a == reaS) = B1) := by show _ = _; rw [h1, beq_turn]
  have H2 : Hid ((a == apaS) = B2) := by show _ = _; rw [h2, beq_turn]
  have H3 : Hid ((a == wayS) = B3) := by show _ = _; rw [h3, beq_turn]
  have H4 : Hid ((a == looS) = B4) := by show _ = _; rw [h4, beq_turn]
  have H0 : Hid ((a == ByteArray.empty) = B0) := h0.symm
  have E0 : Hid (a.toList.isEmpty = B0) := e0
  have E1 : Hid ((reaS.toList == a.toList) = B1) := h1.symm
  have E2 : Hid ((apaS.toList == a.toList) = B2) := h2.symm
  have E3 : Hid ((wayS.toList == a.toList) = B3) := h3.symm
  have E4 : Hid ((looS.toList == a.toList) = B4) := h4.symm
  obtain ⟨d0, d1, d2, d3, d4⟩ := hw
  have hlt : 0 < w.heap.size := World.block_lt_of_cell? _ _ d0
  clear hR h0 h1 h2 h3 h4 e0
  have i0 : ∀ w, (Instr.index 66 (.agg #[.string ⟨#[]⟩, .string reaS, .string apaS, .string wayS, .string looS]) (.int .i64 0)).run Tryz.prog w = .ok (.string ⟨#[]⟩) w := fun _ => by kernel_rfl
  have i1 : ∀ w, (Instr.index 66 (.agg #[.string ⟨#[]⟩, .string reaS, .string apaS, .string wayS, .string looS]) (.int .i64 1)).run Tryz.prog w = .ok (.string reaS) w := fun _ => by kernel_rfl
  have i2 : ∀ w, (Instr.index 66 (.agg #[.string ⟨#[]⟩, .string reaS, .string apaS, .string wayS, .string looS]) (.int .i64 2)).run Tryz.prog w = .ok (.string apaS) w := fun _ => by kernel_rfl
  have i3 : ∀ w, (Instr.index 66 (.agg #[.string ⟨#[]⟩, .string reaS, .string apaS, .string wayS, .string looS]) (.int .i64 3)).run Tryz.prog w = .ok (.string wayS) w := fun _ => by kernel_rfl
  have i4 : ∀ w, (Instr.index 66 (.agg #[.string ⟨#[]⟩, .string reaS, .string apaS, .string wayS, .string looS]) (.int .i64 4)).run Tryz.prog w = .ok (.string looS) w := fun _ => by kernel_rfl
  go_enter Tryz.func28, Tryz.ntmps28
  go_wp2
  go_loopw [6] (fun i wr => ∃ j : Nat, j ≤ 5 ∧ i = .int .i64 j ∧ R = whF a j ∧ wr = w) (fun i _ => 5 - (intOf i).toNat)
  case atStart => exact ⟨0, by omega, rfl, HR.out, rfl⟩
  case round =>
    obtain ⟨j, hj, rfl, hrj, hwr⟩ := hrel
    subst hwr
    have HRJ : Hid (R = whF a j) := hrj
    clear hrj HR
    rcases (by omega : j = 0 ∨ j = 1 ∨ j = 2 ∨ j = 3 ∨ j = 4 ∨ j = 5) with rfl | rfl | rfl | rfl | rfl | rfl
    · have q := E0.out
      cases B0 with
      | true =>
        go_wp2
        go_ret
        exact ⟨by rw [HRJ.out, whF, H0.out]; rfl, rfl⟩
      | false =>
        go_wp2
        go_roundw
        case rel => exact ⟨1, by omega, by go_num, by rw [HRJ.out, whF, H0.out]; rfl, by first | trivial | rfl⟩
        case measure => simp [intOf]
    · have q := E1.out
      cases B1 with
      | true =>
        go_wp2
        go_ret
        exact ⟨by rw [HRJ.out, whF, H1.out]; rfl, rfl⟩
      | false =>
        go_wp2
        go_roundw
        case rel => exact ⟨2, by omega, by go_num, by rw [HRJ.out, whF, H1.out]; rfl, by first | trivial | rfl⟩
        case measure => simp [intOf]
    · have q := E2.out
      cases B2 with
      | true =>
        go_wp2
        go_ret
        exact ⟨by rw [HRJ.out, whF, H2.out]; rfl, rfl⟩
      | false =>
        go_wp2
        go_roundw
        case rel => exact ⟨3, by omega, by go_num, by rw [HRJ.out, whF, H2.out]; rfl, by first | trivial | rfl⟩
        case measure => simp [intOf]
    · have q := E3.out
      cases B3 with
      | true =>
        go_wp2
        go_ret
        exact ⟨by rw [HRJ.out, whF, H3.out]; rfl, rfl⟩
      | false =>
        go_wp2
        go_roundw
        case rel => exact ⟨4, by omega, by go_num, by rw [HRJ.out, whF, H3.out]; rfl, by first | trivial | rfl⟩
        case measure => simp [intOf]
    · have q := E4.out
      cases B4 with
      | true =>
        go_wp2
        go_ret
        exact ⟨by rw [HRJ.out, whF, H4.out]; rfl, rfl⟩
      | false =>
        go_wp2
        go_roundw
        case rel => exact ⟨5, by omega, by go_num, by rw [HRJ.out, whF, H4.out]; rfl, by first | trivial | rfl⟩
        case measure => simp [intOf]
    · go_wp2
      go_ret
      exact ⟨by rw [HRJ.out]; rfl, rfl⟩

/-- The errors of package strconv lie in their variables. -/
def HasNum (w : World) : Prop := (∃ ev, w.cell? ⟨2, 0, none⟩ = some ev ∧ (ev = .nilIface ∨ ∃ te pe, ev = .iface te pe)) ∧ ∃ ev, w.cell? ⟨3, 0, none⟩ = some ev ∧ (ev = .nilIface ∨ ∃ te pe, ev = .iface te pe)
theorem HasNum.later {w w' : World} (h : HasNum w) (hb : Below w.heap.size w w') : HasNum w' := by
  obtain ⟨⟨a, h1, h2⟩, b, h3, h4⟩ := h
  exact ⟨⟨a, cell_later hb h1, h2⟩, b, cell_later hb h3, h4⟩
theorem atoi_dg {p : Int} (h1 : 1 ≤ p) (h6 : p ≤ 6) : Lib.atoiAll (dgS p).data.toList = .ok p := by
  rcases (by omega : p = 1 ∨ p = 2 ∨ p = 3 ∨ p = 4 ∨ p = 5 ∨ p = 6) with rfl | rfl | rfl | rfl | rfl | rfl <;> rfl
theorem atoi_any (s : ByteArray) (w : World) (hlim : s.size ≤ 281474976710656) (hn : HasNum w) :
    Calls Tryz.prog 29 #[.string s] w fun e w' => (∃ v ev, e = .returned (.tuple #[.int .i64 v, ev]) ∧ ∀ p : Int, 1 ≤ p → p ≤ 6 → s = dgS p → v = p) ∧ Below w.heap.size w w' := by
  obtain ⟨⟨a, h1, h2⟩, b, h3, h4⟩ := hn
  rcases e : Lib.atoiAll s.data.toList with v | _ | _
  · refine (strconv_Atoi_ok s (by omega) v e w).mono ?_
    rintro x w' ⟨rfl, hw⟩
    refine ⟨⟨v, _, rfl, fun p p1 p6 hs => ?_⟩, ?_⟩
    · rw [hs, atoi_dg p1 p6] at e
      cases e
      rfl
    · rcases hw with rfl | ⟨t, rfl⟩
      · exact Below.refl _ _
      · exact Lib.bytesWorld_below _ _ _
  · refine (Any.strconv_Atoi_syntax laysC172 s hlim e a w h1 h2).mono ?_
    rintro x w' ⟨N, rfl, _, _, hb⟩
    refine ⟨⟨0, _, rfl, fun p p1 p6 hs => ?_⟩, hb⟩
    rw [hs, atoi_dg p1 p6] at e
    cases e
  · refine (strconv_Atoi_range s hlim e b w h3 h4).mono ?_
    rintro x w' ⟨N, rfl, _, _, hb⟩
    refine ⟨⟨_, _, rfl, fun p p1 p6 hs => ?_⟩, hb⟩
    rw [hs, atoi_dg p1 p6] at e
    cases e
end Go.Proofs.YtpmcjelihdlfeaaGreatDoor
