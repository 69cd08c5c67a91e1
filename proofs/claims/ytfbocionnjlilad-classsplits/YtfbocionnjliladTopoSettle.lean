/- What topo.settle answers: a contract for the walks above it. -/
import Derived.Test.YtfbocionnjliladTopoLay
import Derived.Test.YtfbocionnjliladTopoName
import Derived.Test.YtfbocionnjliladStHost
namespace Go.Proofs.Ytfbocionnjlilad
open Go.RowKit
set_option linter.unusedSimpArgs false
set_option linter.unusedVariables false

/-- What holds of the two maps behind a host. -/
def SetQ (w w' : World) (B C : Nat) (N : Int) (V : List (Int × Int)) (Z : List ByteArray) : Prop := ∃ M' R', MAt spotKey veI w' B M' ∧ MAt strKey veI w' C R' ∧ (N = 0 → TK sq M' V ∧ TK (fun a b => a == b) R' Z) ∧ But [B, C] w w'
set_option maxHeartbeats 1000000 in
set_option maxRecDepth 100000 in
theorem settle_ok (S : Int) (n : ByteArray) (x0 x1 : Int) (B C : Nat) (hBC : B ≠ C) (M : List ((Int × Int) × Int)) (R : List (ByteArray × Int)) (U : List (Int × Int)) (Z : List ByteArray) (w : World) (hM : MAt spotKey veI w B M) (hR : MAt strKey veI w C R) (hT : TK sq M U) (hZ : TK (fun a b => a == b) R Z) (hU : U.length ≤ 1000) (hZl : Z.length ≤ 1000)
    (ha : nmB n = true) (hb : spB S (x0, x1) = true) (N : Int) (hN : N = ho1 S Z U (n, (x0, x1))) :
    Calls Try.prog 33 #[.int .i64 S, .map (some B), .map (some C), .agg #[.string n, .int .i64 x0, .int .i64 x1]] w fun e w' => e = .returned (noV N) ∧ SetQ w w' B C N (U ++ [(x0, x1)]) (Z ++ [n]) := by
  have hltB := hM.lt
  have hltC := hR.lt
  have HN : Hid (N = ho1 S Z U (n, (x0, x1))) := hN
  have HB0 : Hid (Below w.heap.size w (w.alloc (Obj.cells #[Value.string n, Value.int IntKind.i64 x0, Value.int IntKind.i64 x1] 79))) := (Below.refl _ _).alloc (Nat.le_refl _) _
  have HC := hst_new w n x0 x1 79
  have HM0 : Hid (MAt spotKey veI w B M) := hM
  have HR0 : Hid (MAt strKey veI w C R) := hR
  have HT : Hid (TK sq M U) := hT
  have HZ : Hid (TK (fun a b => a == b) R Z) := hZ
  have hneB : ¬ w.heap.size = B := by omega
  have hneC : ¬ w.heap.size = C := by omega
  clear hM hR hT hZ hN
  go_enter Try.func33, Try.ntmps33
  go_wp2_with fail
  refine (name_any n _).mono ?_
  rintro e w1 ⟨rfl, hb1⟩
  rw [ha]
  have HB1 : Hid (Below w.heap.size w w1) := HB0.out.trans (hb1.mono HB0.out.size)
  have HC1 := HC.later hb1
  obtain ⟨c0, c1, c2⟩ := hst_cells HC1
  simp only [Nat.zero_add] at c0 c1 c2
  clear hb1
  go_wp2_with fail
  refine (isSpot_any S x0 x1 _).mono ?_
  rintro e w2 ⟨rfl, hb2⟩
  rw [hb]
  have HB2 : Hid (Below w.heap.size w w2) := HB1.out.trans (hb2.mono HB1.out.size)
  have d0 := cell_later hb2 c0
  have d1 := cell_later hb2 c1
  have d2 := cell_later hb2 c2
  have HM2 : Hid (MAt spotKey veI w2 B M) := (HM0.out.later HB2.out)
  have HR2 : Hid (MAt strKey veI w2 C R) := (HR0.out.later HB2.out)
  clear hb2 HC1 HC c0 c1 c2 HB1 HB0
  go_upto_region 5 with fail
  obtain ⟨cA, hcA⟩ : ∃ cA : Int, cA = (ctM (fun a b => a == b) n Z : Int) := ⟨_, rfl⟩
  have HcA : Hid (cA = (ctM (fun a b => a == b) n Z : Int)) := hcA
  have hcw : IntKind.i64.wrap (cA + 1) = cA + 1 := by
    have h1 := ct_le (q := fun a b : ByteArray => a == b) n Z
    exact wrap_small (by omega) (by omega)
  clear hcA
  go_cut [] from 20 to 24 (fun w' => ∃ R1, MAt strKey veI w' C R1 ∧ TK (fun a b => a == b) R1 (Z ++ [n]) ∧ But [C] w2 w')
  case first =>
    obtain ⟨w3, hup, hR3, hg3⟩ := run_update_M HR2.out 77 3 Try.underlying77 n (cA + 1)
    have hTK3 : Hid (TK (fun a b => a == b) (mput (fun a b => a == b) n (cA + 1) R) (Z ++ [n])) := by
      show TK _ _ _
      rw [HcA.out]
      exact tk_put ba_iff HZ.out _
    have HR3 : Hid (MAt strKey veI w3 C (mput (fun a b => a == b) n (cA + 1) R)) := hR3
    have HBt : Hid (But [C] w2 w3) := But.of_grown hg3 (by simp)
    have hl2 : (Instr.lookup 77 (.map (some C)) (.string n) false).run Try.prog w2 = .ok (.int .i64 cA) w2 := by
      rw [HcA.out]
      exact run_lookup_TK HR2.out HZ.out 77 3 Try.underlying77 (fun w => by kernel_rfl) n
    have h3 : (Instr.mapUpdate 77 (.map (some C)) (.string n) (.int .i64 (cA + 1))).run Try.prog w2 = .ok () w3 := hup
    clear hup hR3 hg3
    go_wp2
    go_meet
    case rel => exact ⟨_, HR3.out, hTK3.out, HBt.out⟩
  case rest =>
    obtain ⟨R1, hR1, hZ1, hBt1⟩ := hcut
    obtain ⟨w5, hw5⟩ : ∃ x, x = wc := ⟨_, rfl⟩
    subst hw5
    have hl2 : w.heap.size < w2.heap.size := World.block_lt_of_cell? _ _ d0
    have hnC : w.heap.size ∉ [C] := by simp [hneC]
    have e0 := (hBt1.cell (p := ⟨w.heap.size, 0, none⟩) hl2 hnC).trans d0
    have e1 := (hBt1.cell (p := ⟨w.heap.size, 1, none⟩) hl2 hnC).trans d1
    have e2 := (hBt1.cell (p := ⟨w.heap.size, 2, none⟩) hl2 hnC).trans d2
    have HM5 : Hid (MAt spotKey veI w5 B M) := HM2.out.but hBt1 (by simp [hBC])
    have HR5 : Hid (MAt strKey veI w5 C R1) := hR1
    have HZ5 : Hid (TK (fun a b => a == b) R1 (Z ++ [n])) := hZ1
    have HBt5 : Hid (But [B, C] w w5) := (But.of_below (HB2.out)).trans (hBt1.mono (by simp))
    clear hR1 hZ1 hBt1 d0 d1 d2 HM2 HR2 hcw HcA hnC hl2
    obtain ⟨cB, hcB⟩ : ∃ cB : Int, cB = (ctM sq (x0, x1) U : Int) := ⟨_, rfl⟩
    have HcB : Hid (cB = (ctM sq (x0, x1) U : Int)) := hcB
    have hcw : IntKind.i64.wrap (cB + 1) = cB + 1 := by
      have h1 := ct_le (q := sq) (x0, x1) U
      exact wrap_small (by omega) (by omega)
    clear hcB
    go_upto_region 6 with fail
    go_cut [] from 25 to 31 (fun w' => ∃ M2, MAt spotKey veI w' B M2 ∧ TK sq M2 (U ++ [(x0, x1)]) ∧ But [B] w5 w')
    case first =>
      have hMd : MAt spotKey veI w5.drew B M := HM5.out
      obtain ⟨v0, st, w3, hE, hg3, hM3, hS3⟩ := run_entry_M hMd 71 3 Try.underlying71 0 (fun w => by kernel_rfl) (x0, x1)
      obtain ⟨w4, hSt, hM4, hg4⟩ := hS3 w3 (cB + 1) rfl
      have hTK4 : Hid (TK sq (mput sq (x0, x1) (cB + 1) M) (U ++ [(x0, x1)])) := by
        show TK _ _ _
        rw [HcB.out]
        exact tk_put sq_iff HT.out _
      have HM4 : Hid (MAt spotKey veI w4 B (mput sq (x0, x1) (cB + 1) M)) := hM4
      have HBt : Hid (But [B] w5 w4) := ((But.refl [B] w5).drew.trans (But.of_grown hg3 (by simp))).trans (But.of_grown hg4 (by simp))
      have hl2 : (Instr.lookup 71 (.map (some B)) (.agg #[.int .i64 x0, .int .i64 x1]) false).run Try.prog w5.drew = .ok (.int .i64 cB) w5.drew := by
        rw [HcB.out]
        exact run_lookup_TK hMd HT.out 71 3 Try.underlying71 (fun w => by kernel_rfl) (x0, x1)
      have hl3 : (Instr.lookup 71 (.map (some B)) (.agg #[.int .i64 x0, .int .i64 x1]) false).run Try.prog w3 = .ok (.int .i64 cB) w3 := by
        have h := run_lookup_M hM3 71 3 Try.underlying71 (.int .i64 0) (fun w => by kernel_rfl) (x0, x1) false
        have e : mget spotKey.q (x0, x1) (mput spotKey.q (x0, x1) ((mget spotKey.q (x0, x1) M).getD 0) M) = some cB := by
          rw [mget_put spotKey.qeq, if_pos ((spotKey.qeq _ _).2 rfl), HcB.out]
          exact congrArg some (HT.out (x0, x1))
        rw [e] at h
        exact h
      have h1 : (Instr.mapEntry 71 (.map (some B)) (.agg #[.int .i64 x0, .int .i64 x1])).run Try.prog w5.drew = .ok (.tuple #[v0, .int .i64 (st : Int)]) w3 := hE
      have h3 : (Instr.entryStore 71 (.map (some B)) (.int .i64 (st : Int)) (.int .i64 (cB + 1))).run Try.prog w3 = .ok () w4 := hSt
      clear hE hS3 hSt hM3 hM4 hg3 hg4 hMd
      go_region
      go_wp2_with fail
      go_meet
      case rel => exact ⟨_, HM4.out, hTK4.out, HBt.out⟩
    case rest =>
      obtain ⟨M2, hM2, hT2, hBt2⟩ := hcut
      have hnB : w.heap.size ∉ [B] := by simp [hneB]
      have hl2 : w.heap.size < w5.heap.size := World.block_lt_of_cell? _ _ e0
      have f0 := (hBt2.cell (p := ⟨w.heap.size, 0, none⟩) hl2 hnB).trans e0
      have f1 := (hBt2.cell (p := ⟨w.heap.size, 1, none⟩) hl2 hnB).trans e1
      have f2 := (hBt2.cell (p := ⟨w.heap.size, 2, none⟩) hl2 hnB).trans e2
      have hR6 : MAt strKey veI wc C R1 := HR5.out.but hBt2 (by simp [Ne.symm hBC])
      have HM6 : Hid (MAt spotKey veI wc B M2) := hM2
      have HR6 : Hid (MAt strKey veI wc C R1) := hR6
      have HT6 : Hid (TK sq M2 (U ++ [(x0, x1)])) := hT2
      have HBt6 : Hid (But [B, C] w wc) := HBt5.out.trans (hBt2.mono (by simp))
      obtain ⟨pA, hpA⟩ : ∃ p : Int, p = (ctM (fun a b => a == b) n (Z ++ [n]) : Int) := ⟨_, rfl⟩
      obtain ⟨pB, hpB⟩ : ∃ p : Int, p = (ctM sq (x0, x1) (U ++ [(x0, x1)]) : Int) := ⟨_, rfl⟩
      have hlA : (Instr.lookup 77 (.map (some C)) (.string n) false).run Try.prog wc = .ok (.int .i64 pA) wc := by
        rw [hpA]
        exact run_lookup_TK hR6 HZ5.out 77 3 Try.underlying77 (fun w => by kernel_rfl) n
      have hlB : (Instr.lookup 71 (.map (some B)) (.agg #[.int .i64 x0, .int .i64 x1]) false).run Try.prog wc = .ok (.int .i64 pB) wc := by
        rw [hpB]
        exact run_lookup_TK hM2 hT2 71 3 Try.underlying71 (fun w => by kernel_rfl) (x0, x1)
      have HL : Hid (N = if (decide ((1 : Int) < pA) || decide ((1 : Int) < pB)) = true then 7 else 0) := by
        show _ = _
        have e1 : (U.any fun u => sq u (x0, x1)) = (U.any fun u => u == (x0, x1)) := by
          congr 1
        rw [HN.out, hpA, hpB, ct_host ba_iff, ct_host sq_iff, ho1, e1]
        simp only [ha, hb, if_true]
      clear hM2 hT2 hR6 hBt2 e0 e1 e2 hnB hl2 hcw HcB HM5 HR5 HBt5 hpA hpB ha hb
      by_cases h1 : 1 < pA
      · have e7 : N = 7 := by rw [HL.out]; simp [h1]
        subst e7
        go_wp2
        go_ret
        exact ⟨rfl, M2, R1, HM6.out, HR6.out, fun e => absurd e (by decide), HBt6.out⟩
      · by_cases h2 : 1 < pB
        · have e7 : N = 7 := by rw [HL.out]; simp [h2]
          subst e7
          go_wp2
          go_ret
          exact ⟨rfl, M2, R1, HM6.out, HR6.out, fun e => absurd e (by decide), HBt6.out⟩
        · have e7 : N = 0 := by rw [HL.out]; simp [h1, h2]
          subst e7
          go_wp2
          go_ret
          exact ⟨rfl, M2, R1, HM6.out, HR6.out, fun _ => ⟨HT6.out, HZ5.out⟩, HBt6.out⟩
set_option maxHeartbeats 1000000 in
set_option maxRecDepth 100000 in
theorem settle_bad (S : Int) (n : ByteArray) (x0 x1 : Int) (B C : Nat) (N : Int) (w : World) (h : (nmB n = false ∧ N = 2) ∨ (nmB n = true ∧ spB S (x0, x1) = false ∧ N = 1)) :
    Calls Try.prog 33 #[.int .i64 S, .map (some B), .map (some C), .agg #[.string n, .int .i64 x0, .int .i64 x1]] w fun e w' => e = .returned (.iface 57 (.int .i64 N)) ∧ Below w.heap.size w w' := by
  have HB0 : Hid (Below w.heap.size w (w.alloc (Obj.cells #[Value.string n, Value.int IntKind.i64 x0, Value.int IntKind.i64 x1] 79))) := (Below.refl _ _).alloc (Nat.le_refl _) _
  have HC := hst_new w n x0 x1 79
  rcases h with ⟨ha, rfl⟩ | ⟨ha, hb, rfl⟩
  · go_enter Try.func33, Try.ntmps33
    go_wp2_with fail
    refine (name_any n _).mono ?_
    rintro e w1 ⟨rfl, hb1⟩
    rw [ha]
    have HB1 : Hid (Below w.heap.size w w1) := HB0.out.trans (hb1.mono HB0.out.size)
    clear hb1 HC
    go_wp2
    go_ret
    exact ⟨rfl, HB1.out⟩
  · go_enter Try.func33, Try.ntmps33
    go_wp2_with fail
    refine (name_any n _).mono ?_
    rintro e w1 ⟨rfl, hb1⟩
    rw [ha]
    have HB1 : Hid (Below w.heap.size w w1) := HB0.out.trans (hb1.mono HB0.out.size)
    obtain ⟨c0, c1, c2⟩ := hst_cells (HC.later hb1)
    simp only [Nat.zero_add] at c0 c1 c2
    clear hb1 HC
    go_wp2_with fail
    refine (isSpot_any S x0 x1 _).mono ?_
    rintro e w2 ⟨rfl, hb2⟩
    rw [hb]
    have HB2 : Hid (Below w.heap.size w w2) := HB1.out.trans (hb2.mono HB1.out.size)
    clear hb2
    go_wp2
    go_ret
    exact ⟨rfl, HB2.out⟩
theorem settle_any (S : Int) (n : ByteArray) (x0 x1 : Int) (B C : Nat) (hBC : B ≠ C) (M : List ((Int × Int) × Int)) (R : List (ByteArray × Int)) (U : List (Int × Int)) (Z : List ByteArray) (w : World) (hM : MAt spotKey veI w B M) (hR : MAt strKey veI w C R) (hT : TK sq M U) (hZ : TK (fun a b => a == b) R Z) (hU : U.length ≤ 1000) (hZl : Z.length ≤ 1000) :
    Calls Try.prog 33 #[.int .i64 S, .map (some B), .map (some C), .agg #[.string n, .int .i64 x0, .int .i64 x1]] w fun e w' => e = .returned (noV (ho1 S Z U (n, (x0, x1)))) ∧ SetQ w w' B C (ho1 S Z U (n, (x0, x1))) (U ++ [(x0, x1)]) (Z ++ [n]) := by
  cases ha : nmB n
  · have e1 : ho1 S Z U (n, (x0, x1)) = 2 := by simp only [ho1, ha, Bool.false_eq_true, if_false]
    rw [e1]
    refine (settle_bad S n x0 x1 B C 2 w (.inl ⟨ha, rfl⟩)).mono ?_
    rintro e w' ⟨rfl, hb⟩
    exact ⟨rfl, M, R, hM.later hb, hR.later hb, fun e => absurd e (by decide), But.of_below hb⟩
  · cases hb : spB S (x0, x1)
    · have e1 : ho1 S Z U (n, (x0, x1)) = 1 := by simp only [ho1, ha, hb, Bool.false_eq_true, if_false, if_true]
      rw [e1]
      refine (settle_bad S n x0 x1 B C 1 w (.inr ⟨ha, hb, rfl⟩)).mono ?_
      rintro e w' ⟨rfl, hb⟩
      exact ⟨rfl, M, R, hM.later hb, hR.later hb, fun e => absurd e (by decide), But.of_below hb⟩
    · exact settle_ok S n x0 x1 B C hBC M R U Z w hM hR hT hZ hU hZl ha hb _ rfl
end Go.Proofs.Ytfbocionnjlilad
