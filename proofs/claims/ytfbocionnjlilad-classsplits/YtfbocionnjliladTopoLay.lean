/- What topo.lay answers: a contract for the walks above it. -/
import Derived.Test.YtfbocionnjliladTopoCon
import Derived.Test.YtfbocionnjliladSpotKey
import Derived.Test.YtfbocionnjliladErr
import Derived.Test.YtfbocionnjliladStLink
import Derived.BigRegion
import Derived.Deep.CutRange
import Derived.Deep.CutBlock
namespace Go.Proofs.Ytfbocionnjlilad
open Go.RowKit
set_option linter.unusedSimpArgs false
set_option linter.unusedVariables false

/-- What holds of the map behind a link. -/
def LayQ (w w' : World) (B : Nat) (N : Int) (V : List (Int × Int)) : Prop := ∃ M', MAt spotKey veI w' B M' ∧ (N = 0 → TK sq M' V) ∧ But [B] w w'
set_option maxHeartbeats 1000000 in
set_option maxRecDepth 100000 in
theorem lay_ok (S x0 x1 x2 x3 : Int) (B : Nat) (M : List ((Int × Int) × Int)) (U : List (Int × Int)) (w : World) (hM : MAt spotKey veI w B M) (hT : TK sq M U) (hU : U.length ≤ 1000) (ha : spB S (x0, x1) = true) (hb : spB S (x2, x3) = true) (N : Int) (hN : N = lk1 S U ((x0, x1), (x2, x3))) :
    Calls Try.prog 32 #[.int .i64 S, .map (some B), .agg #[.int .i64 x0, .int .i64 x1, .int .i64 x2, .int .i64 x3]] w fun e w' => e = .returned (noV N) ∧ LayQ w w' B N (U ++ [(x0, x1), (x2, x3)]) := by
  have hlt := hM.lt
  have HN : Hid (N = lk1 S U ((x0, x1), (x2, x3))) := hN
  have hB0 : Below w.heap.size w (w.alloc (Obj.cells #[Value.int IntKind.i64 x0, Value.int IntKind.i64 x1, Value.int IntKind.i64 x2, Value.int IntKind.i64 x3] 75)) := (Below.refl _ _).alloc (Nat.le_refl _) _
  have HB0 : Hid (Below w.heap.size w (w.alloc (Obj.cells #[Value.int IntKind.i64 x0, Value.int IntKind.i64 x1, Value.int IntKind.i64 x2, Value.int IntKind.i64 x3] 75))) := hB0
  have HC := lnk_new w x0 x1 x2 x3 75
  have HM0 : Hid (MAt spotKey veI w B M) := hM
  have HT : Hid (TK sq M U) := hT
  have hne : ¬ w.heap.size = B := by omega
  clear hM hT hN hB0
  go_enter Try.func32, Try.ntmps32
  go_wp2_with fail
  refine (isSpot_any S x0 x1 _).mono ?_
  rintro e w1 ⟨rfl, hb1⟩
  rw [ha]
  have HB1 : Hid (Below w.heap.size w w1) := HB0.out.trans (hb1.mono HB0.out.size)
  have HC1 := HC.later hb1
  obtain ⟨c0, c1, c2, c3⟩ := lnk_cells HC1
  simp only [Nat.zero_add] at c0 c1 c2 c3
  clear hb1
  go_wp2_with fail
  refine (isSpot_any S x2 x3 _).mono ?_
  rintro e w2 ⟨rfl, hb2⟩
  rw [hb]
  have HB2 : Hid (Below w.heap.size w w2) := HB1.out.trans (hb2.mono HB1.out.size)
  have HC2 : Hid (VAt w2 w.heap.size 0 (lnkE.c ((x0, x1), (x2, x3)))) := HC1.later hb2
  have d0 := cell_later hb2 c0
  have d1 := cell_later hb2 c1
  have d2 := cell_later hb2 c2
  have d3 := cell_later hb2 c3
  have HM2 : Hid (MAt spotKey veI w2 B M) := (HM0.out.later HB2.out)
  clear hb2 HC1 HC c0 c1 c2 c3 HB1 HB0
  go_upto_region 3 with fail
  obtain ⟨cA, hcA⟩ : ∃ cA : Int, cA = (ctM sq (x0, x1) U : Int) := ⟨_, rfl⟩
  have HcA : Hid (cA = (ctM sq (x0, x1) U : Int)) := hcA
  have hcw : IntKind.i64.wrap (cA + 1) = cA + 1 := by
    have h1 := ct_le (q := sq) (x0, x1) U
    exact wrap_small (by omega) (by omega)
  clear hcA
  go_cut [] from 20 to 26 (fun w' => ∃ M1, MAt spotKey veI w' B M1 ∧ TK sq M1 (U ++ [(x0, x1)]) ∧ But [B] w2 w')
  case first =>
    have hMd : MAt spotKey veI w2.drew B M := HM2.out
    obtain ⟨v0, st, w3, hE, hg3, hM3, hS3⟩ := run_entry_M hMd 71 3 Try.underlying71 0 (fun w => by kernel_rfl) (x0, x1)
    obtain ⟨w4, hSt, hM4, hg4⟩ := hS3 w3 (cA + 1) rfl
    have hTK4 : Hid (TK sq (mput sq (x0, x1) (cA + 1) M) (U ++ [(x0, x1)])) := by
      show TK _ _ _
      rw [HcA.out]
      exact tk_put sq_iff HT.out _
    have HM4 : Hid (MAt spotKey veI w4 B (mput sq (x0, x1) (cA + 1) M)) := hM4
    have HBt : Hid (But [B] w2 w4) := ((But.refl [B] w2).drew.trans (But.of_grown hg3 (by simp))).trans (But.of_grown hg4 (by simp))
    have hl2 : (Instr.lookup 71 (.map (some B)) (.agg #[.int .i64 x0, .int .i64 x1]) false).run Try.prog w2.drew = .ok (.int .i64 cA) w2.drew := by
      rw [HcA.out]
      exact run_lookup_TK hMd HT.out 71 3 Try.underlying71 (fun w => by kernel_rfl) (x0, x1)
    have hl3 : (Instr.lookup 71 (.map (some B)) (.agg #[.int .i64 x0, .int .i64 x1]) false).run Try.prog w3 = .ok (.int .i64 cA) w3 := by
      have h := run_lookup_M hM3 71 3 Try.underlying71 (.int .i64 0) (fun w => by kernel_rfl) (x0, x1) false
      have e : mget spotKey.q (x0, x1) (mput spotKey.q (x0, x1) ((mget spotKey.q (x0, x1) M).getD 0) M) = some cA := by
        rw [mget_put spotKey.qeq, if_pos ((spotKey.qeq _ _).2 rfl), HcA.out]
        exact congrArg some (HT.out (x0, x1))
      rw [e] at h
      exact h
    have h1 : (Instr.mapEntry 71 (.map (some B)) (.agg #[.int .i64 x0, .int .i64 x1])).run Try.prog w2.drew = .ok (.tuple #[v0, .int .i64 (st : Int)]) w3 := hE
    have h3 : (Instr.entryStore 71 (.map (some B)) (.int .i64 (st : Int)) (.int .i64 (cA + 1))).run Try.prog w3 = .ok () w4 := hSt
    clear hE hS3 hSt hM3 hM4 hg3 hg4 hMd
    go_region
    go_wp2_with fail
    go_meet
    case rel => exact ⟨_, HM4.out, hTK4.out, HBt.out⟩
  case rest =>
    obtain ⟨M1, hM1, hT1, hBt1⟩ := hcut
    obtain ⟨w5, hw5⟩ : ∃ x, x = wc := ⟨_, rfl⟩
    subst hw5
    have hnB : w.heap.size ∉ [B] := by simp [hne]
    have hl2 : w.heap.size < w2.heap.size := World.block_lt_of_cell? _ _ d0
    have e0 := (hBt1.cell (p := ⟨w.heap.size, 0, none⟩) hl2 hnB).trans d0
    have e1 := (hBt1.cell (p := ⟨w.heap.size, 1, none⟩) hl2 hnB).trans d1
    have e2 := (hBt1.cell (p := ⟨w.heap.size, 2, none⟩) hl2 hnB).trans d2
    have e3 := (hBt1.cell (p := ⟨w.heap.size, 3, none⟩) hl2 hnB).trans d3
    have HM5 : Hid (MAt spotKey veI w5 B M1) := hM1
    have HT5 : Hid (TK sq M1 (U ++ [(x0, x1)])) := hT1
    have HBt5 : Hid (But [B] w w5) := (But.of_below (HB2.out)).trans hBt1
    clear hM1 hT1 hBt1 d0 d1 d2 d3 HM2 HC2 hcw HcA hnB hl2
    obtain ⟨cB, hcB⟩ : ∃ cB : Int, cB = (ctM sq (x2, x3) (U ++ [(x0, x1)]) : Int) := ⟨_, rfl⟩
    have HcB : Hid (cB = (ctM sq (x2, x3) (U ++ [(x0, x1)]) : Int)) := hcB
    have hcw : IntKind.i64.wrap (cB + 1) = cB + 1 := by
      have h1 := ct_le (q := sq) (x2, x3) (U ++ [(x0, x1)])
      simp only [List.length_append, List.length_singleton] at h1
      exact wrap_small (by omega) (by omega)
    clear hcB
    go_upto_region 4 with fail
    go_cut [] from 27 to 33 (fun w' => ∃ M2, MAt spotKey veI w' B M2 ∧ TK sq M2 (U ++ [(x0, x1)] ++ [(x2, x3)]) ∧ But [B] w5 w')
    case first =>
      have hMd : MAt spotKey veI w5.drew B M1 := HM5.out
      obtain ⟨v0, st, w3, hE, hg3, hM3, hS3⟩ := run_entry_M hMd 71 3 Try.underlying71 0 (fun w => by kernel_rfl) (x2, x3)
      obtain ⟨w4, hSt, hM4, hg4⟩ := hS3 w3 (cB + 1) rfl
      have hTK4 : Hid (TK sq (mput sq (x2, x3) (cB + 1) M1) (U ++ [(x0, x1)] ++ [(x2, x3)])) := by
        show TK _ _ _
        rw [HcB.out]
        exact tk_put sq_iff HT5.out _
      have HM4 : Hid (MAt spotKey veI w4 B (mput sq (x2, x3) (cB + 1) M1)) := hM4
      have HBt : Hid (But [B] w5 w4) := ((But.refl [B] w5).drew.trans (But.of_grown hg3 (by simp))).trans (But.of_grown hg4 (by simp))
      have hl2 : (Instr.lookup 71 (.map (some B)) (.agg #[.int .i64 x2, .int .i64 x3]) false).run Try.prog w5.drew = .ok (.int .i64 cB) w5.drew := by
        rw [HcB.out]
        exact run_lookup_TK hMd HT5.out 71 3 Try.underlying71 (fun w => by kernel_rfl) (x2, x3)
      have hl3 : (Instr.lookup 71 (.map (some B)) (.agg #[.int .i64 x2, .int .i64 x3]) false).run Try.prog w3 = .ok (.int .i64 cB) w3 := by
        have h := run_lookup_M hM3 71 3 Try.underlying71 (.int .i64 0) (fun w => by kernel_rfl) (x2, x3) false
        have e : mget spotKey.q (x2, x3) (mput spotKey.q (x2, x3) ((mget spotKey.q (x2, x3) M1).getD 0) M1) = some cB := by
          rw [mget_put spotKey.qeq, if_pos ((spotKey.qeq _ _).2 rfl), HcB.out]
          exact congrArg some (HT5.out (x2, x3))
        rw [e] at h
        exact h
      have h1 : (Instr.mapEntry 71 (.map (some B)) (.agg #[.int .i64 x2, .int .i64 x3])).run Try.prog w5.drew = .ok (.tuple #[v0, .int .i64 (st : Int)]) w3 := hE
      have h3 : (Instr.entryStore 71 (.map (some B)) (.int .i64 (st : Int)) (.int .i64 (cB + 1))).run Try.prog w3 = .ok () w4 := hSt
      clear hE hS3 hSt hM3 hM4 hg3 hg4 hMd
      go_region
      go_wp2_with fail
      go_meet
      case rel => exact ⟨_, HM4.out, hTK4.out, HBt.out⟩
    case rest =>
      obtain ⟨M2, hM2, hT2, hBt2⟩ := hcut
      have hnB : w.heap.size ∉ [B] := by simp [hne]
      have hl2 : w.heap.size < w5.heap.size := World.block_lt_of_cell? _ _ e0
      have f0 := (hBt2.cell (p := ⟨w.heap.size, 0, none⟩) hl2 hnB).trans e0
      have f1 := (hBt2.cell (p := ⟨w.heap.size, 1, none⟩) hl2 hnB).trans e1
      have f2 := (hBt2.cell (p := ⟨w.heap.size, 2, none⟩) hl2 hnB).trans e2
      have f3 := (hBt2.cell (p := ⟨w.heap.size, 3, none⟩) hl2 hnB).trans e3
      have HM6 : Hid (MAt spotKey veI wc B M2) := hM2
      have HT6 : Hid (TK sq M2 (U ++ [(x0, x1), (x2, x3)])) := by
        show TK _ _ _
        simpa using hT2
      have HBt6 : Hid (But [B] w wc) := HBt5.out.trans hBt2
      obtain ⟨pA, hpA⟩ : ∃ p : Int, p = (ctM sq (x0, x1) (U ++ [(x0, x1)] ++ [(x2, x3)]) : Int) := ⟨_, rfl⟩
      obtain ⟨pB, hpB⟩ : ∃ p : Int, p = (ctM sq (x2, x3) (U ++ [(x0, x1)] ++ [(x2, x3)]) : Int) := ⟨_, rfl⟩
      have hlA : (Instr.lookup 71 (.map (some B)) (.agg #[.int .i64 x0, .int .i64 x1]) false).run Try.prog wc = .ok (.int .i64 pA) wc := by
        rw [hpA]
        exact run_lookup_TK hM2 hT2 71 3 Try.underlying71 (fun w => by kernel_rfl) (x0, x1)
      have hlB : (Instr.lookup 71 (.map (some B)) (.agg #[.int .i64 x2, .int .i64 x3]) false).run Try.prog wc = .ok (.int .i64 pB) wc := by
        rw [hpB]
        exact run_lookup_TK hM2 hT2 71 3 Try.underlying71 (fun w => by kernel_rfl) (x2, x3)
      have HL : Hid (N = if (decide ((1 : Int) < pA) || decide ((1 : Int) < pB)) = true then 7 else 0) := by
        show _ = _
        rw [HN.out, hpA, hpB, ct_link, lk1]
        simp only [ha, hb, Bool.and_self, if_true]
      clear hM2 hT2 hBt2 e0 e1 e2 e3 hnB hl2 hcw HcB HM5 HT5 HBt5 hpA hpB ha hb
      by_cases h1 : 1 < pA
      · have e7 : N = 7 := by rw [HL.out]; simp [h1]
        subst e7
        go_wp2
        go_ret
        exact ⟨rfl, M2, HM6.out, fun e => absurd e (by decide), HBt6.out⟩
      · by_cases h2 : 1 < pB
        · have e7 : N = 7 := by rw [HL.out]; simp [h2]
          subst e7
          go_wp2
          go_ret
          exact ⟨rfl, M2, HM6.out, fun e => absurd e (by decide), HBt6.out⟩
        · have e7 : N = 0 := by rw [HL.out]; simp [h1, h2]
          subst e7
          go_wp2
          go_ret
          exact ⟨rfl, M2, HM6.out, fun _ => HT6.out, HBt6.out⟩
set_option maxHeartbeats 1000000 in
set_option maxRecDepth 100000 in
theorem lay_bad (S x0 x1 x2 x3 : Int) (B : Nat) (w : World) (h : (spB S (x0, x1) && spB S (x2, x3)) = false) :
    Calls Try.prog 32 #[.int .i64 S, .map (some B), .agg #[.int .i64 x0, .int .i64 x1, .int .i64 x2, .int .i64 x3]] w fun e w' => e = .returned (.iface 57 (.int .i64 1)) ∧ Below w.heap.size w w' := by
  have HB0 : Hid (Below w.heap.size w (w.alloc (Obj.cells #[Value.int IntKind.i64 x0, Value.int IntKind.i64 x1, Value.int IntKind.i64 x2, Value.int IntKind.i64 x3] 75))) := (Below.refl _ _).alloc (Nat.le_refl _) _
  have HC := lnk_new w x0 x1 x2 x3 75
  cases ha : spB S (x0, x1)
  · clear h
    go_enter Try.func32, Try.ntmps32
    go_wp2_with fail
    refine (isSpot_any S x0 x1 _).mono ?_
    rintro e w1 ⟨rfl, hb1⟩
    rw [ha]
    have HB1 : Hid (Below w.heap.size w w1) := HB0.out.trans (hb1.mono HB0.out.size)
    clear hb1 HC
    go_wp2
    go_ret
    exact ⟨rfl, HB1.out⟩
  · have hb : spB S (x2, x3) = false := by rw [ha, Bool.true_and] at h; exact h
    clear h
    go_enter Try.func32, Try.ntmps32
    go_wp2_with fail
    refine (isSpot_any S x0 x1 _).mono ?_
    rintro e w1 ⟨rfl, hb1⟩
    rw [ha]
    have HB1 : Hid (Below w.heap.size w w1) := HB0.out.trans (hb1.mono HB0.out.size)
    obtain ⟨c0, c1, c2, c3⟩ := lnk_cells (HC.later hb1)
    simp only [Nat.zero_add] at c0 c1 c2 c3
    clear hb1 HC
    go_wp2_with fail
    refine (isSpot_any S x2 x3 _).mono ?_
    rintro e w2 ⟨rfl, hb2⟩
    rw [hb]
    have HB2 : Hid (Below w.heap.size w w2) := HB1.out.trans (hb2.mono HB1.out.size)
    clear hb2
    go_wp2
    go_ret
    exact ⟨rfl, HB2.out⟩
theorem lay_any (S x0 x1 x2 x3 : Int) (B : Nat) (M : List ((Int × Int) × Int)) (U : List (Int × Int)) (w : World) (hM : MAt spotKey veI w B M) (hT : TK sq M U) (hU : U.length ≤ 1000) :
    Calls Try.prog 32 #[.int .i64 S, .map (some B), .agg #[.int .i64 x0, .int .i64 x1, .int .i64 x2, .int .i64 x3]] w fun e w' => e = .returned (noV (lk1 S U ((x0, x1), (x2, x3)))) ∧ LayQ w w' B (lk1 S U ((x0, x1), (x2, x3))) (U ++ [(x0, x1), (x2, x3)]) := by
  cases h : (spB S (x0, x1) && spB S (x2, x3))
  · refine (lay_bad S x0 x1 x2 x3 B w h).mono ?_
    rintro e w' ⟨rfl, hb⟩
    have e1 : lk1 S U ((x0, x1), (x2, x3)) = 1 := by simp only [lk1, h, Bool.false_eq_true, if_false]
    rw [e1]
    exact ⟨rfl, M, hM.later hb, fun e => absurd e (by decide), But.of_below hb⟩
  · simp only [Bool.and_eq_true] at h
    exact lay_ok S x0 x1 x2 x3 B M U w hM hT hU h.1 h.2 _ rfl
end Go.Proofs.Ytfbocionnjlilad
