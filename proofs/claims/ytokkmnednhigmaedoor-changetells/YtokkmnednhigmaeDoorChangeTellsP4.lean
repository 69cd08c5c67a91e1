/- Contracts and facts on the way to ChangeTells, joined into one text: TopoLay, SlByte, TopoName, StHost, TopoSettle, TopoCheck, RuleTab2, NetMath, NetCheck, ChangeMem. -/
import Derived.Test.YtokkmnednhigmaeDoorChangeTellsP3
import Derived.Test.YtokkmnednhigmaeDoorChangeTellsP1
import Derived.Test.YtokkmnednhigmaeDoorChangeTellsP2
import Derived.BigRegion
import Derived.Deep.CutRange
import Derived.Deep.CutBlock
import Derived.Test.YtokkmnednhigmaeDoorRows
import Derived.Shelf.Abstract
import Derived.WalkKit
import Derived.WalkSpells
import Derived.Below
import Derived.Laws.IdiomStrings
import Derived.Lib.SmallJoins
import Derived.Laws.StructEq
import Derived.Maps.OwnOps
import Derived.Carry
/- What topo.lay answers: a contract for the walks above it. -/
namespace Go.Proofs.YtokkmnednhigmaeDoor
open Go.RowKit
set_option linter.unusedSimpArgs false
set_option linter.unusedVariables false

/-- What holds of the map behind a link. -/
def LayQ (w w' : World) (B : Nat) (N : Int) (V : List (Int × Int)) : Prop := ∃ M', MAt spotKey veI w' B M' ∧ (N = 0 → TK sq M' V) ∧ But [B] w w'
set_option maxHeartbeats 1000000 in
set_option maxRecDepth 100000 in
theorem lay_ok (S x0 x1 x2 x3 : Int) (B : Nat) (M : List ((Int × Int) × Int)) (U : List (Int × Int)) (w : World) (hM : MAt spotKey veI w B M) (hT : TK sq M U) (hU : U.length ≤ 1000) (ha : spB S (x0, x1) = true) (hb : spB S (x2, x3) = true) (N : Int) (hN : N = lk1 S U ((x0, x1), (x2, x3))) :
    Calls Tryd.prog 54 #[.int .i64 S, .map (some B), .agg #[.int .i64 x0, .int .i64 x1, .int .i64 x2, .int .i64 x3]] w fun e w' => e = .returned (noV N) ∧ LayQ w w' B N (U ++ [(x0, x1), (x2, x3)]) := by
  have hlt := hM.lt
  have HN : Hid (N = lk1 S U ((x0, x1), (x2, x3))) := hN
  have hB0 : Below w.heap.size w (w.alloc (Obj.cells #[Value.int IntKind.i64 x0, Value.int IntKind.i64 x1, Value.int IntKind.i64 x2, Value.int IntKind.i64 x3] 73)) := (Below.refl _ _).alloc (Nat.le_refl _) _
  have HB0 : Hid (Below w.heap.size w (w.alloc (Obj.cells #[Value.int IntKind.i64 x0, Value.int IntKind.i64 x1, Value.int IntKind.i64 x2, Value.int IntKind.i64 x3] 73))) := hB0
  have HC := lnk_new w x0 x1 x2 x3 73
  have HM0 : Hid (MAt spotKey veI w B M) := hM
  have HT : Hid (TK sq M U) := hT
  have hne : ¬ w.heap.size = B := by omega
  clear hM hT hN hB0
  go_enter Tryd.func54, Tryd.ntmps54
  go_wp2_with fail
  refine (isSpot_any S x0 x1 _).mono ?_
  rintro e w1 ⟨rfl, hb1⟩
  rw [ha]
  have HB1 : Hid (Below w.heap.size w w1) := HB0.out.trans (hb1.mono HB0.out.size)
  have HC1 := HC.later hb1
  obtain ⟨c0, c1, c2, c3⟩ := lnk_cells HC1
  simp only [Nat.zero_add] at c0 c1 c2 c3
  clear hb1
  go_wp2_with fail
  refine (isSpot_any S x2 x3 _).mono ?_
  rintro e w2 ⟨rfl, hb2⟩
  rw [hb]
  have HB2 : Hid (Below w.heap.size w w2) := HB1.out.trans (hb2.mono HB1.out.size)
  have HC2 : Hid (VAt w2 w.heap.size 0 (lnkE.c ((x0, x1), (x2, x3)))) := HC1.later hb2
  have d0 := cell_later hb2 c0
  have d1 := cell_later hb2 c1
  have d2 := cell_later hb2 c2
  have d3 := cell_later hb2 c3
  have HM2 : Hid (MAt spotKey veI w2 B M) := (HM0.out.later HB2.out)
  clear hb2 HC1 HC c0 c1 c2 c3 HB1 HB0
  go_upto_region 3 with fail
  obtain ⟨cA, hcA⟩ : ∃ cA : Int, cA = (ctM sq (x0, x1) U : Int) := ⟨_, rfl⟩
  have HcA : Hid (cA = (ctM sq (x0, x1) U : Int)) := hcA
  have hcw : IntKind.i64.wrap (cA + 1) = cA + 1 := by
    have h1 := ct_le (q := sq) (x0, x1) U
    exact wrap_small (by omega) (by omega)
  clear hcA
  go_cut [] from 20 to 26 (fun w' => ∃ M1, MAt spotKey veI w' B M1 ∧ TK sq M1 (U ++ [(x0, x1)]) ∧ But [B] w2 w')
  case first =>
    have hMd : MAt spotKey veI w2.drew B M := HM2.out
    obtain ⟨v0, st, w3, hE, hg3, hM3, hS3⟩ := run_entry_M hMd 104 3 Tryd.underlying104 0 (fun w => by kernel_rfl) (x0, x1)
    obtain ⟨w4, hSt, hM4, hg4⟩ := hS3 w3 (cA + 1) rfl
    have hTK4 : Hid (TK sq (mput sq (x0, x1) (cA + 1) M) (U ++ [(x0, x1)])) := by
      show TK _ _ _
      rw [HcA.out]
      exact tk_put sq_iff HT.out _
    have HM4 : Hid (MAt spotKey veI w4 B (mput sq (x0, x1) (cA + 1) M)) := hM4
    have HBt : Hid (But [B] w2 w4) := ((But.refl [B] w2).drew.trans (But.of_grown hg3 (by simp))).trans (But.of_grown hg4 (by simp))
    have hl2 : (Instr.lookup 104 (.map (some B)) (.agg #[.int .i64 x0, .int .i64 x1]) false).run Tryd.prog w2.drew = .ok (.int .i64 cA) w2.drew := by
      rw [HcA.out]
      exact run_lookup_TK hMd HT.out 104 3 Tryd.underlying104 (fun w => by kernel_rfl) (x0, x1)
    have hl3 : (Instr.lookup 104 (.map (some B)) (.agg #[.int .i64 x0, .int .i64 x1]) false).run Tryd.prog w3 = .ok (.int .i64 cA) w3 := by
      have h := run_lookup_M hM3 104 3 Tryd.underlying104 (.int .i64 0) (fun w => by kernel_rfl) (x0, x1) false
      have e : mget spotKey.q (x0, x1) (mput spotKey.q (x0, x1) ((mget spotKey.q (x0, x1) M).getD 0) M) = some cA := by
        rw [mget_put spotKey.qeq, if_pos ((spotKey.qeq _ _).2 rfl), HcA.out]
        exact congrArg some (HT.out (x0, x1))
      rw [e] at h
      exact h
    have h1 : (Instr.mapEntry 104 (.map (some B)) (.agg #[.int .i64 x0, .int .i64 x1])).run Tryd.prog w2.drew = .ok (.tuple #[v0, .int .i64 (st : Int)]) w3 := hE
    have h3 : (Instr.entryStore 104 (.map (some B)) (.int .i64 (st : Int)) (.int .i64 (cA + 1))).run Tryd.prog w3 = .ok () w4 := hSt
    clear hE hS3 hSt hM3 hM4 hg3 hg4 hMd
    go_region
    go_wp2_with fail
    go_meet
    case rel => exact ⟨_, HM4.out, hTK4.out, HBt.out⟩
  case rest =>
    obtain ⟨M1, hM1, hT1, hBt1⟩ := hcut
    obtain ⟨w5, hw5⟩ : ∃ x, x = wc := ⟨_, rfl⟩
    subst hw5
    have hnB : w.heap.size ∉ [B] := by simp [hne]
    have hl2 : w.heap.size < w2.heap.size := World.block_lt_of_cell? _ _ d0
    have e0 := (hBt1.cell (p := ⟨w.heap.size, 0, none⟩) hl2 hnB).trans d0
    have e1 := (hBt1.cell (p := ⟨w.heap.size, 1, none⟩) hl2 hnB).trans d1
    have e2 := (hBt1.cell (p := ⟨w.heap.size, 2, none⟩) hl2 hnB).trans d2
    have e3 := (hBt1.cell (p := ⟨w.heap.size, 3, none⟩) hl2 hnB).trans d3
    have HM5 : Hid (MAt spotKey veI w5 B M1) := hM1
    have HT5 : Hid (TK sq M1 (U ++ [(x0, x1)])) := hT1
    have HBt5 : Hid (But [B] w w5) := (But.of_below (HB2.out)).trans hBt1
    clear hM1 hT1 hBt1 d0 d1 d2 d3 HM2 HC2 hcw HcA hnB hl2
    obtain ⟨cB, hcB⟩ : ∃ cB : Int, cB = (ctM sq (x2, x3) (U ++ [(x0, x1)]) : Int) := ⟨_, rfl⟩
    have HcB : Hid (cB = (ctM sq (x2, x3) (U ++ [(x0, x1)]) : Int)) := hcB
    have hcw : IntKind.i64.wrap (cB + 1) = cB + 1 := by
      have h1 := ct_le (q := sq) (x2, x3) (U ++ [(x0, x1)])
      simp only [List.length_append, List.length_singleton] at h1
      exact wrap_small (by omega) (by omega)
    clear hcB
    go_upto_region 4 with fail
    go_cut [] from 27 to 33 (fun w' => ∃ M2, MAt spotKey veI w' B M2 ∧ TK sq M2 (U ++ [(x0, x1)] ++ [(x2, x3)]) ∧ But [B] w5 w')
    case first =>
      have hMd : MAt spotKey veI w5.drew B M1 := HM5.out
      obtain ⟨v0, st, w3, hE, hg3, hM3, hS3⟩ := run_entry_M hMd 104 3 Tryd.underlying104 0 (fun w => by kernel_rfl) (x2, x3)
      obtain ⟨w4, hSt, hM4, hg4⟩ := hS3 w3 (cB + 1) rfl
      have hTK4 : Hid (TK sq (mput sq (x2, x3) (cB + 1) M1) (U ++ [(x0, x1)] ++ [(x2, x3)])) := by
        show TK _ _ _
        rw [HcB.out]
        exact tk_put sq_iff HT5.out _
      have HM4 : Hid (MAt spotKey veI w4 B (mput sq (x2, x3) (cB + 1) M1)) := hM4
      have HBt : Hid (But [B] w5 w4) := ((But.refl [B] w5).drew.trans (But.of_grown hg3 (by simp))).trans (But.of_grown hg4 (by simp))
      have hl2 : (Instr.lookup 104 (.map (some B)) (.agg #[.int .i64 x2, .int .i64 x3]) false).run Tryd.prog w5.drew = .ok (.int .i64 cB) w5.drew := by
        rw [HcB.out]
        exact run_lookup_TK hMd HT5.out 104 3 Tryd.underlying104 (fun w => by kernel_rfl) (x2, x3)
      have hl3 : (Instr.lookup 104 (.map (some B)) (.agg #[.int .i64 x2, .int .i64 x3]) false).run Tryd.prog w3 = .ok (.int .i64 cB) w3 := by
        have h := run_lookup_M hM3 104 3 Tryd.underlying104 (.int .i64 0) (fun w => by kernel_rfl) (x2, x3) false
        have e : mget spotKey.q (x2, x3) (mput spotKey.q (x2, x3) ((mget spotKey.q (x2, x3) M1).getD 0) M1) = some cB := by
          rw [mget_put spotKey.qeq, if_pos ((spotKey.qeq _ _).2 rfl), HcB.out]
          exact congrArg some (HT5.out (x2, x3))
        rw [e] at h
        exact h
      have h1 : (Instr.mapEntry 104 (.map (some B)) (.agg #[.int .i64 x2, .int .i64 x3])).run Tryd.prog w5.drew = .ok (.tuple #[v0, .int .i64 (st : Int)]) w3 := hE
      have h3 : (Instr.entryStore 104 (.map (some B)) (.int .i64 (st : Int)) (.int .i64 (cB + 1))).run Tryd.prog w3 = .ok () w4 := hSt
      clear hE hS3 hSt hM3 hM4 hg3 hg4 hMd
      go_region
      go_wp2_with fail
      go_meet
      case rel => exact ⟨_, HM4.out, hTK4.out, HBt.out⟩
    case rest =>
      obtain ⟨M2, hM2, hT2, hBt2⟩ := hcut
      have hnB : w.heap.size ∉ [B] := by simp [hne]
      have hl2 : w.heap.size < w5.heap.size := World.block_lt_of_cell? _ _ e0
      have f0 := (hBt2.cell (p := ⟨w.heap.size, 0, none⟩) hl2 hnB).trans e0
      have f1 := (hBt2.cell (p := ⟨w.heap.size, 1, none⟩) hl2 hnB).trans e1
      have f2 := (hBt2.cell (p := ⟨w.heap.size, 2, none⟩) hl2 hnB).trans e2
      have f3 := (hBt2.cell (p := ⟨w.heap.size, 3, none⟩) hl2 hnB).trans e3
      have HM6 : Hid (MAt spotKey veI wc B M2) := hM2
      have HT6 : Hid (TK sq M2 (U ++ [(x0, x1), (x2, x3)])) := by
        show TK _ _ _
        simpa using hT2
      have HBt6 : Hid (But [B] w wc) := HBt5.out.trans hBt2
      obtain ⟨pA, hpA⟩ : ∃ p : Int, p = (ctM sq (x0, x1) (U ++ [(x0, x1)] ++ [(x2, x3)]) : Int) := ⟨_, rfl⟩
      obtain ⟨pB, hpB⟩ : ∃ p : Int, p = (ctM sq (x2, x3) (U ++ [(x0, x1)] ++ [(x2, x3)]) : Int) := ⟨_, rfl⟩
      have hlA : (Instr.lookup 104 (.map (some B)) (.agg #[.int .i64 x0, .int .i64 x1]) false).run Tryd.prog wc = .ok (.int .i64 pA) wc := by
        rw [hpA]
        exact run_lookup_TK hM2 hT2 104 3 Tryd.underlying104 (fun w => by kernel_rfl) (x0, x1)
      have hlB : (Instr.lookup 104 (.map (some B)) (.agg #[.int .i64 x2, .int .i64 x3]) false).run Tryd.prog wc = .ok (.int .i64 pB) wc := by
        rw [hpB]
        exact run_lookup_TK hM2 hT2 104 3 Tryd.underlying104 (fun w => by kernel_rfl) (x2, x3)
      have HL : Hid (N = if (decide ((1 : Int) < pA) || decide ((1 : Int) < pB)) = true then 7 else 0) := by
        show _ = _
        rw [HN.out, hpA, hpB, ct_link, lk1]
        simp only [ha, hb, Bool.and_self, if_true]
      clear hM2 hT2 hBt2 e0 e1 e2 e3 hnB hl2 hcw HcB HM5 HT5 HBt5 hpA hpB ha hb
      by_cases h1 : 1 < pA
      · have e7 : N = 7 := by rw [HL.out]; simp [h1]
        subst e7
        go_wp2
        go_ret
        exact ⟨rfl, M2, HM6.out, fun e => absurd e (by decide), HBt6.out⟩
      · by_cases h2 : 1 < pB
        · have e7 : N = 7 := by rw [HL.out]; simp [h2]
          subst e7
          go_wp2
          go_ret
          exact ⟨rfl, M2, HM6.out, fun e => absurd e (by decide), HBt6.out⟩
        · have e7 : N = 0 := by rw [HL.out]; simp [h1, h2]
          subst e7
          go_wp2
          go_ret
          exact ⟨rfl, M2, HM6.out, fun _ => HT6.out, HBt6.out⟩
set_option maxHeartbeats 1000000 in
set_option maxRecDepth 100000 in
theorem lay_bad (S x0 x1 x2 x3 : Int) (B : Nat) (w : World) (h : (spB S (x0, x1) && spB S (x2, x3)) = false) :
    Calls Tryd.prog 54 #[.int .i64 S, .map (some B), .agg #[.int .i64 x0, .int .i64 x1, .int .i64 x2, .int .i64 x3]] w fun e w' => e = .returned (.iface 63 (.int .i64 1)) ∧ Below w.heap.size w w' := by
  have HB0 : Hid (Below w.heap.size w (w.alloc (Obj.cells #[Value.int IntKind.i64 x0, Value.int IntKind.i64 x1, Value.int IntKind.i64 x2, Value.int IntKind.i64 x3] 73))) := (Below.refl _ _).alloc (Nat.le_refl _) _
  have HC := lnk_new w x0 x1 x2 x3 73
  cases ha : spB S (x0, x1)
  · clear h
    go_enter Tryd.func54, Tryd.ntmps54
    go_wp2_with fail
    refine (isSpot_any S x0 x1 _).mono ?_
    rintro e w1 ⟨rfl, hb1⟩
    rw [ha]
    have HB1 : Hid (Below w.heap.size w w1) := HB0.out.trans (hb1.mono HB0.out.size)
    clear hb1 HC
    go_wp2
    go_ret
    exact ⟨rfl, HB1.out⟩
  · have hb : spB S (x2, x3) = false := by rw [ha, Bool.true_and] at h; exact h
    clear h
    go_enter Tryd.func54, Tryd.ntmps54
    go_wp2_with fail
    refine (isSpot_any S x0 x1 _).mono ?_
    rintro e w1 ⟨rfl, hb1⟩
    rw [ha]
    have HB1 : Hid (Below w.heap.size w w1) := HB0.out.trans (hb1.mono HB0.out.size)
    obtain ⟨c0, c1, c2, c3⟩ := lnk_cells (HC.later hb1)
    simp only [Nat.zero_add] at c0 c1 c2 c3
    clear hb1 HC
    go_wp2_with fail
    refine (isSpot_any S x2 x3 _).mono ?_
    rintro e w2 ⟨rfl, hb2⟩
    rw [hb]
    have HB2 : Hid (Below w.heap.size w w2) := HB1.out.trans (hb2.mono HB1.out.size)
    clear hb2
    go_wp2
    go_ret
    exact ⟨rfl, HB2.out⟩
theorem lay_any (S x0 x1 x2 x3 : Int) (B : Nat) (M : List ((Int × Int) × Int)) (U : List (Int × Int)) (w : World) (hM : MAt spotKey veI w B M) (hT : TK sq M U) (hU : U.length ≤ 1000) :
    Calls Tryd.prog 54 #[.int .i64 S, .map (some B), .agg #[.int .i64 x0, .int .i64 x1, .int .i64 x2, .int .i64 x3]] w fun e w' => e = .returned (noV (lk1 S U ((x0, x1), (x2, x3)))) ∧ LayQ w w' B (lk1 S U ((x0, x1), (x2, x3))) (U ++ [(x0, x1), (x2, x3)]) := by
  cases h : (spB S (x0, x1) && spB S (x2, x3))
  · refine (lay_bad S x0 x1 x2 x3 B w h).mono ?_
    rintro e w' ⟨rfl, hb⟩
    have e1 : lk1 S U ((x0, x1), (x2, x3)) = 1 := by simp only [lk1, h, Bool.false_eq_true, if_false]
    rw [e1]
    exact ⟨rfl, M, hM.later hb, fun e => absurd e (by decide), But.of_below hb⟩
  · simp only [Bool.and_eq_true] at h
    exact lay_ok S x0 x1 x2 x3 B M U w hM hT hU h.1 h.2 _ rfl
end Go.Proofs.YtokkmnednhigmaeDoor
/- What package slices answers at slices of []byte,byte. Written by mk/scalar.py. -/
namespace Go.Proofs.YtokkmnednhigmaeDoor
open Go.RowKit
set_option linter.unusedSimpArgs false
set_option linter.unusedVariables false

def byE : Enc (UInt8) where
  c := fun x => [.int .u8 (x.toNat : Int)]
  n := 1
  len := fun _ => rfl
  pos := by decide
  one := by
    intro x u hu
    simp at hu
    subst hu
    rfl
theorem by_at {w : World} {g o : Nat} {L : List (UInt8)} (h : GAt byE w g o L) {n k : Nat} (hn : L.length = n) (hk : k < n) : ∃ (x : UInt8) (hl : k < L.length), L[k] = x ∧ w.cell? ⟨g, o + k, none⟩ = some (.int .u8 (x.toNat : Int)) := by
  have hl : k < L.length := by omega
  have := h k hl 0 _ rfl
  refine ⟨_, hl, rfl, ?_⟩
  have e : o + k * byE.n + 0 = o + k := by show o + k * 1 + 0 = o + k; omega
  rw [e] at this
  exact this
/-- A closure that asks something, in whatever world behind this one. -/
def byAsks (w : World) (f : FuncId) (P : UInt8 → Bool) : Prop :=
  ∀ (x : UInt8) (W : World), Below w.heap.size w W → Calls Tryd.prog f #[.int .u8 (x.toNat : Int)] W fun e w' => e = .returned (.bool (P x)) ∧ Below W.heap.size W w'
theorem byAsks.later {w w' : World} {f : FuncId} {P : UInt8 → Bool} (h : byAsks w f P) (hb : Below w.heap.size w w') : byAsks w' f P :=
  fun x W hW => h x W (hb.trans (hW.mono hb.size))

set_option maxHeartbeats 1000000 in
theorem by_idxF (ao : Option Addr) (n cap : Nat) (f : FuncId) (P : UInt8 → Bool) (L : List (UInt8)) (w : World) (hn : L.length = n) (hn2 : n ≤ maxLen) (ha : 0 < n → ∃ g o, ao = some ⟨g, o, none⟩ ∧ GAt byE w g o L ∧ cap ≤ maxLen) (he : ∀ args w, (callFunc f args).run Tryd.prog w = .ok (.enter f args) w) (hf : byAsks w f P) :
    Calls Tryd.prog 81 #[.slice ao n cap, .func (Fn.func f) #[] #[]] w fun e w' => e = .returned (.int .i64 (ixG P L)) ∧ Below w.heap.size w w' := by
  have HN : Hid (L.length = n) := hn
  have HF : Hid (byAsks w f P) := hf
  have HA : Hid (0 < n → ∃ g o, ao = some ⟨g, o, none⟩ ∧ GAt byE w g o L ∧ cap ≤ maxLen) := ha
  unfold maxLen at hn2
  clear hn hf ha
  go_enter Tryd.func81, Tryd.ntmps81
  go_wp2
  go_loopw [8] (fun i wr => ∃ k : Nat, k ≤ n ∧ i = .int .i64 k ∧ (L.take k).any P = false ∧ Below w.heap.size w wr)
    (fun i _ => n - (intOf i).toNat)
  case atStart => exact ⟨0, by omega, rfl, by simp, Below.refl _ _⟩
  case round =>
    obtain ⟨k, hk, rfl, hno, hB⟩ := hrel
    have HB : Hid (Below w.heap.size w wr) := hB
    have HNO : Hid ((L.take k).any P = false) := hno
    clear hno
    by_cases hlt : k < n
    · obtain ⟨g, o, hao, hc, _⟩ := HA.out (by omega)
      subst hao
      obtain ⟨x, hkl, hL, q0⟩ := by_at (hc.later hB) HN.out hlt
      have HL : Hid (L[k] = x) := hL
      clear hL hB
      cases ho : P x
      · go_wp2_with fail
        refine (HF.out x _ HB.out).mono ?_
        rintro e w1 ⟨rfl, hb1⟩
        rw [ho]
        have HB1 := HB.out.trans (hb1.mono HB.out.size)
        clear hb1
        go_wp2
        go_roundw
        case rel => exact ⟨k + 1, by omega, by go_num, any_nextG hkl HNO.out (by rw [HL.out]; exact ho), HB1⟩
        case measure => simp [intOf]; omega
      · go_wp2_with fail
        refine (HF.out x _ HB.out).mono ?_
        rintro e w1 ⟨rfl, hb1⟩
        rw [ho]
        go_wp2
        go_ret
        exact ⟨by rw [ixG_hit hkl HNO.out (by rw [HL.out]; exact ho)]; rfl, HB.out.trans (hb1.mono HB.out.size)⟩
    · obtain rfl : k = n := by omega
      go_wp2
      go_ret
      exact ⟨by have := HNO.out; rw [← HN.out, List.take_length] at this; rw [ixG_no this]; rfl, HB.out⟩

set_option maxHeartbeats 1000000 in
theorem by_hasF (ao : Option Addr) (n cap : Nat) (f : FuncId) (P : UInt8 → Bool) (L : List (UInt8)) (w : World) (hn : L.length = n) (hn2 : n ≤ maxLen) (ha : 0 < n → ∃ g o, ao = some ⟨g, o, none⟩ ∧ GAt byE w g o L ∧ cap ≤ maxLen) (he : ∀ args w, (callFunc f args).run Tryd.prog w = .ok (.enter f args) w) (hf : byAsks w f P) :
    Calls Tryd.prog 79 #[.slice ao n cap, .func (Fn.func f) #[] #[]] w fun e w' => e = .returned (.bool (L.any P)) ∧ Below w.heap.size w w' := by
  rw [← ixG_any]
  obtain ⟨x, hx⟩ : ∃ x, x = ixG P L := ⟨_, rfl⟩
  have HX : Hid (x = ixG P L) := hx
  rw [← hx]
  clear hx
  go_enter Tryd.func79, Tryd.ntmps79
  go_wp2_with fail
  refine (by_idxF ao n cap f P L _ hn hn2 ha he hf).mono ?_
  rintro e w1 ⟨rfl, hb1⟩
  rw [← HX.out]
  go_wp2
  go_ret
  exact ⟨rfl, hb1⟩
end Go.Proofs.YtokkmnednhigmaeDoor
/- What topo.isName answers: a contract for the walks above it. -/
namespace Go.Proofs.YtokkmnednhigmaeDoor
open Go.RowKit
set_option linter.unusedSimpArgs false
set_option linter.unusedVariables false

/-- Is a byte none of a to z? -/
def noL (b : UInt8) : Bool := decide ((b.toNat : Int) < 97) || decide ((122 : Int) < (b.toNat : Int))
set_option maxHeartbeats 1000000 in
theorem isName1_any (b : UInt8) (w : World) : Calls Tryd.prog 80 #[.int .u8 (b.toNat : Int)] w fun e w' => e = .returned (.bool (noL b)) ∧ Below w.heap.size w w' := by
  have hn : noL b = (decide ((b.toNat : Int) < 97) || decide ((122 : Int) < (b.toNat : Int))) := rfl
  generalize (b.toNat : Int) = x at *
  rw [hn]
  clear hn
  by_cases h : x < 97
  · have e : (decide (x < 97) || decide (122 < x)) = true := by simp [h]
    rw [e]
    go_enter Tryd.func80, Tryd.ntmps80
    go_wp2
    go_ret
    exact ⟨rfl, Below.refl _ _⟩
  · have e : (decide (x < 97) || decide (122 < x)) = decide (122 < x) := by simp [h]
    rw [e]
    go_enter Tryd.func80, Tryd.ntmps80
    go_wp2
    go_ret
    exact ⟨rfl, Below.refl _ _⟩
theorem isName1_asks (w : World) : byAsks w 80 noL := fun x W _ => isName1_any x W
theorem bytes_conv (s : ByteArray) (w : World) : ∃ cap w1, (convert 9 132 (.string s)).run Tryd.prog w = .ok (.slice (some ⟨w.heap.size, 0, none⟩) s.size cap) w1 ∧ Below w.heap.size w w1 ∧ GAt byE w1 w.heap.size 0 s.data.toList ∧ (s.size ≤ maxLen → cap ≤ maxLen) := by
  refine ⟨_, _, run_bytes_of_string w _ _ 5 s Tryd.underlying9 Tryd.underlying132 Tryd.underlying5, ?_, ?_, fun h => grownCap_le_maxLen w _ _ _ h⟩
  · exact (Below.drew (Below.refl _ _)).alloc (Nat.le_refl _) _
  · intro i hi j u hu
    have hj : j = 0 := by
      have := (List.getElem?_eq_some_iff.1 hu).1
      have e : (byE.c s.data.toList[i]).length = 1 := rfl
      omega
    subst hj
    have hu2 : u = .int .u8 (s.data.toList[i].toNat : Int) := by
      have : some (Value.int .u8 (s.data.toList[i].toNat : Int)) = some u := hu
      exact (Option.some.inj this).symm
    subst hu2
    have hi2 : i < s.data.size := by simpa using hi
    have e : 0 + i * byE.n + 0 = i := by show 0 + i * 1 + 0 = i; omega
    rw [e]
    simp only [World.cell?, World.alloc, World.drew]
    simp [bytesRow]
    rw [Array.getElem?_append_left (by simpa using hi2), Array.getElem?_map, Array.getElem?_eq_getElem hi2]
    rfl
theorem nm_eq {s : ByteArray} (h1 : 1 ≤ s.size) (h6 : s.size ≤ 6) : nmB s = !(s.data.toList.any noL) := by
  have e : nmB s = (s.data.toList.all fun c => decide (97 ≤ c.toNat) && decide (c.toNat ≤ 122)) := by simp [nmB, h1, h6]
  rw [e, List.not_any_eq_all_not]
  congr 1
  funext c
  rw [Bool.eq_iff_iff]
  simp [noL]
  omega
set_option maxHeartbeats 1000000 in
theorem name_ok (s : ByteArray) (w : World) (h1 : 1 ≤ s.size) (h6 : s.size ≤ 6) :
    Calls Tryd.prog 74 #[.string s] w fun e w' => e = .returned (.bool (nmB s)) ∧ Below w.heap.size w w' := by
  have hs1 : ¬ ((s.size : Int) < 1) := by omega
  have hs6 : ¬ ((6 : Int) < (s.size : Int)) := by omega
  obtain ⟨cap, w1, hcv, hb1, hG, hcap⟩ := bytes_conv s w
  have HCAP : Hid (s.size ≤ maxLen → cap ≤ maxLen) := hcap
  have HB1 : Hid (Below w.heap.size w w1) := hb1
  have HG : Hid (GAt byE w1 w.heap.size 0 s.data.toList) := hG
  have HE : Hid (nmB s = !(s.data.toList.any noL)) := nm_eq h1 h6
  rw [HE.out]
  obtain ⟨r, hr⟩ : ∃ r, r = s.data.toList.any noL := ⟨_, rfl⟩
  have HR : Hid (r = s.data.toList.any noL) := hr
  rw [← hr]
  clear hr hb1 hG HE hcap
  obtain ⟨n, hn⟩ : ∃ n, n = s.size := ⟨_, rfl⟩
  have HN : Hid (n = s.size) := hn
  rw [← hn] at hcv hs1 hs6 h1 h6
  clear hn
  have hsz : s.size = n := HN.out.symm
  go_enter Tryd.func74, Tryd.ntmps74
  go_wp2_with fail
  refine (by_hasF _ n cap _ noL s.data.toList _ (by rw [HN.out]; simp) (by unfold maxLen; omega) (fun _ => ⟨_, _, rfl, HG.out, HCAP.out (by rw [← HN.out]; unfold maxLen; omega)⟩) (enters_of Tryd.func80 (by kernel_rfl) rfl) (isName1_asks _)).mono ?_
  rintro e w2 ⟨rfl, hb2⟩
  rw [← HR.out]
  have HB2 : Hid (Below w.heap.size w w2) := HB1.out.trans (hb2.mono HB1.out.size)
  clear hb2
  go_wp2
  go_ret
  exact ⟨rfl, HB2.out⟩
set_option maxHeartbeats 1000000 in
theorem name_bad (s : ByteArray) (w : World) (h : s.size < 1 ∨ 6 < s.size) :
    Calls Tryd.prog 74 #[.string s] w fun e w' => e = .returned (.bool false) ∧ Below w.heap.size w w' := by
  obtain ⟨n, hn⟩ : ∃ n, n = s.size := ⟨_, rfl⟩
  have hsz : s.size = n := hn.symm
  rw [hsz] at h
  clear hn
  by_cases h1 : (n : Int) < 1
  · go_enter Tryd.func74, Tryd.ntmps74
    go_wp2
    go_ret
    exact ⟨rfl, Below.refl _ _⟩
  · have h6 : (6 : Int) < (n : Int) := by omega
    clear h
    go_enter Tryd.func74, Tryd.ntmps74
    go_wp2
    go_ret
    exact ⟨rfl, Below.refl _ _⟩
theorem name_any (s : ByteArray) (w : World) :
    Calls Tryd.prog 74 #[.string s] w fun e w' => e = .returned (.bool (nmB s)) ∧ Below w.heap.size w w' := by
  by_cases h : 1 ≤ s.size ∧ s.size ≤ 6
  · exact name_ok s w h.1 h.2
  · have e : nmB s = false := by
      unfold nmB
      by_cases h1 : 1 ≤ s.size
      · have : ¬ s.size ≤ 6 := fun h2 => h ⟨h1, h2⟩
        simp [this]
      · simp [h1]
    rw [e]
    exact name_bad s w (by omega)
end Go.Proofs.YtokkmnednhigmaeDoor
/- The struct api.Host: its cells, slices of them, == of two, such that came in. Written by mk/struct.py. -/
namespace Go.Proofs.YtokkmnednhigmaeDoor
open Go.ChangeShapes Go.WideShapes Go.ChangeAt Go.RowKit Go.Joins
set_option linter.unusedSimpArgs false
set_option linter.unusedVariables false
set_option maxRecDepth 100000

def hstE : Enc (ByteArray × (Int × Int)) where
  c := fun x => [.string x.1, .int .i64 x.2.1, .int .i64 x.2.2]
  n := 3
  len := fun _ => rfl
  pos := by decide
  one := by
    intro x u hu
    simp at hu
    rcases hu with rfl | rfl | rfl <;> rfl
theorem hst_cells {w : World} {g o : Nat} {x0 : ByteArray} {x1 : Int} {x2 : Int} (h : VAt w g o (hstE.c (x0, (x1, x2)))) : w.cell? ⟨g, o, none⟩ = some (.string x0) ∧ w.cell? ⟨g, o + 1, none⟩ = some (.int .i64 x1) ∧ w.cell? ⟨g, o + 2, none⟩ = some (.int .i64 x2) :=
  ⟨h 0 _ rfl, h 1 _ rfl, h 2 _ rfl⟩
theorem hst_at {w : World} {g o : Nat} {L : List (ByteArray × (Int × Int))} (h : GAt hstE w g o L) {n k : Nat} (hn : L.length = n) (hk : k < n) :
    ∃ (x0 : ByteArray) (x1 : Int) (x2 : Int) (hl : k < L.length), L[k] = (x0, (x1, x2)) ∧ w.cell? ⟨g, o + k * 3, none⟩ = some (.string x0) ∧ w.cell? ⟨g, o + k * 3 + 1, none⟩ = some (.int .i64 x1) ∧ w.cell? ⟨g, o + k * 3 + 2, none⟩ = some (.int .i64 x2) :=
  have hl : k < L.length := by omega
  ⟨_, _, _, hl, rfl, hst_cells (h k hl)⟩
theorem hst_new (w : World) (x0 : ByteArray) (x1 : Int) (x2 : Int) (t : TypeId) : VAt (w.alloc (Obj.cells #[.string x0, .int .i64 x1, .int .i64 x2] t)) w.heap.size 0 (hstE.c (x0, (x1, x2))) := vat_new w [.string x0, .int .i64 x1, .int .i64 x2] t
theorem hst_row (w : World) (x0 : ByteArray) (x1 : Int) (x2 : Int) (t : TypeId) : GS hstE (w.alloc (Obj.cells #[.string x0, .int .i64 x1, .int .i64 x2] t)) (.slice (some ⟨w.heap.size, 0, none⟩) 1 1) [(x0, (x1, x2))] := gs_one (E := hstE) w (x0, (x1, x2)) t (vs := [.string x0, .int .i64 x1, .int .i64 x2]) rfl
/-- Are two the same? -/
def hstB (a b : ByteArray × (Int × Int)) : Bool := (a.1 == b.1) && ((a.2.1 == b.2.1) && ((a.2.2 == b.2.2)))
theorem hst_ways (x0 : ByteArray) (x1 : Int) (x2 : Int) (y0 : ByteArray) (y1 : Int) (y2 : Int) :
    ((x0.toList == y0.toList) = false ∧ hstB (x0, (x1, x2)) (y0, (y1, y2)) = false) ∨
    ((x0.toList == y0.toList) = true ∧ (x1 == y1) = false ∧ hstB (x0, (x1, x2)) (y0, (y1, y2)) = false) ∨
    ((x0.toList == y0.toList) = true ∧ (x1 == y1) = true ∧ (x2 == y2) = false ∧ hstB (x0, (x1, x2)) (y0, (y1, y2)) = false) ∨
    ((x0.toList == y0.toList) = true ∧ (x1 == y1) = true ∧ (x2 == y2) = true ∧ hstB (x0, (x1, x2)) (y0, (y1, y2)) = true) := by
  have e : hstB (x0, (x1, x2)) (y0, (y1, y2)) = ((x0.toList == y0.toList) && ((x1 == y1) && ((x2 == y2)))) := by simp only [hstB, beq_toListBytes]
  rw [e]
  cases h0 : (x0.toList == y0.toList)
  · simp
  · skip
    cases h1 : (x1 == y1)
    · simp
    · skip
      cases h2 : (x2 == y2)
      · simp
      · skip
        simp
set_option maxRecDepth 100000 in
theorem hst_eq (x0 : ByteArray) (x1 : Int) (x2 : Int) (y0 : ByteArray) (y1 : Int) (y2 : Int) (w : World) : (Op.equal 75 (.agg #[.string x0, .int .i64 x1, .int .i64 x2]) (.agg #[.string y0, .int .i64 y1, .int .i64 y2])).run Tryd.prog w = .ok (hstB (x0, (x1, x2)) (y0, (y1, y2))) w := by
  unfold Op.equal Op.maxDepth
  rw [run_equalIn_struct w 9999 _ _ _ (by kernel_rfl) (by kernel_rfl)]
  rcases hst_ways x0 x1 x2 y0 y1 y2 with ⟨e0, e⟩ | ⟨e0, e1, e⟩ | ⟨e0, e1, e2, e⟩ | ⟨e0, e1, e2, e⟩
  all_goals
    rw [e]
    go_simp
theorem hst_info : (Tryd.prog.info? 75).map (fun i => (i.zero, i.size, i.bytes)) = some (some (.agg #[.string ByteArray.empty, .int .i64 0, .int .i64 0]), 3, 32) := by kernel_rfl
theorem hst_zero : (Value.agg #[.string ByteArray.empty, .int .i64 0, .int .i64 0]).cells.size = 3 := by simp [Value.cells]
/-- Cells that read as one. -/
theorem hst_open {H : Type} {enc : TypeId × Value → H} {W : World} {n : Nat} {cs : List Value} {x : DataW H × List MemPlace}
    (h : DataW.trod enc Tryd.prog W 0 (fun _ => true) true n 75 cs = some x) : ∃ y, cs = hstE.c y := by
  obtain ⟨xs, k, _, _, hl, hlen, hf⟩ := DataW.trod_struct Tryd.underlying75 h
  have hC : Tryd.prog.cellsOf 75 = 3 := by kernel_rfl
  have hT0 : Tryd.prog.cellsOf 9 = 1 := by kernel_rfl
  have hT1 : Tryd.prog.cellsOf 71 = 2 := by kernel_rfl
  rw [hC] at hl
  match cs, hl with
  | [c0, c1, c2], _ =>
    match xs, hlen with
    | [z0, z1], _ =>
      have g0 := hf 0 _ rfl
      have g1 := hf 1 _ rfl
      simp [hT0, hT1] at g0 g1
      obtain ⟨v0, e0, _, _⟩ := DataW.trod_string Tryd.underlying9 g0
      obtain ⟨s1, e1⟩ := spo_open g1
      simp [spoE] at e0 e1
      refine ⟨(v0, (s1.1, s1.2)), ?_⟩
      simp [hstE, e0, e1]
set_option maxRecDepth 100000 in
/-- One that came in. -/
theorem hst_of {H : Type} {enc : TypeId × Value → H} {W : World} {base : Nat} {v : Value} {d : DataW H} {p : List MemPlace}
    (hv : Value.okWide Tryd.prog W .any base 75 v) (h : DataW.Trod enc Tryd.prog W 0 (fun _ => true) true 75 v d p) : ∃ (x0 : ByteArray) (x1 : Int) (x2 : Int), v = .agg #[.string x0, .int .i64 x1, .int .i64 x2] := by
  obtain ⟨cs, rfl, hsz⟩ := okWide_struct Tryd.underlying75 hv
  obtain ⟨n, hn⟩ := h
  obtain ⟨y, e⟩ := hst_open hn
  refine ⟨y.1, y.2.1, y.2.2, ?_⟩
  simp only [Value.cells] at e
  have e2 : cs = #[.string y.1, .int .i64 y.2.1, .int .i64 y.2.2] := by
    rw [← Array.toArray_toList (xs := cs), e]
    rfl
  rw [e2]
/-- A slice of them that came in. -/
theorem hsts_of {H : Type} {enc : TypeId × Value → H} {W : World} {base : Nat} {v : Value} {d : DataW H} {p : List MemPlace}
    (hv : Value.okWide Tryd.prog W .any base 23 v) (h : DataW.Trod enc Tryd.prog W 0 (fun _ => true) true 23 v d p) : ∃ L, GS hstE W v L :=
  gs_of (E := hstE) 23 75 Tryd.underlying23 (by kernel_rfl) (ByteArray.empty, (0, 0)) (fun _ _ _ h => hst_open h) hv h
end Go.Proofs.YtokkmnednhigmaeDoor
/- What topo.settle answers: a contract for the walks above it. -/
namespace Go.Proofs.YtokkmnednhigmaeDoor
open Go.RowKit
set_option linter.unusedSimpArgs false
set_option linter.unusedVariables false

/-- What holds of the two maps behind a host. -/
def SetQ (w w' : World) (B C : Nat) (N : Int) (V : List (Int × Int)) (Z : List ByteArray) : Prop := ∃ M' R', MAt spotKey veI w' B M' ∧ MAt strKey veI w' C R' ∧ (N = 0 → TK sq M' V ∧ TK (fun a b => a == b) R' Z) ∧ But [B, C] w w'
set_option maxHeartbeats 1000000 in
set_option maxRecDepth 100000 in
theorem settle_ok (S : Int) (n : ByteArray) (x0 x1 : Int) (B C : Nat) (hBC : B ≠ C) (M : List ((Int × Int) × Int)) (R : List (ByteArray × Int)) (U : List (Int × Int)) (Z : List ByteArray) (w : World) (hM : MAt spotKey veI w B M) (hR : MAt strKey veI w C R) (hT : TK sq M U) (hZ : TK (fun a b => a == b) R Z) (hU : U.length ≤ 1000) (hZl : Z.length ≤ 1000)
    (ha : nmB n = true) (hb : spB S (x0, x1) = true) (N : Int) (hN : N = ho1 S Z U (n, (x0, x1))) :
    Calls Tryd.prog 55 #[.int .i64 S, .map (some B), .map (some C), .agg #[.string n, .int .i64 x0, .int .i64 x1]] w fun e w' => e = .returned (noV N) ∧ SetQ w w' B C N (U ++ [(x0, x1)]) (Z ++ [n]) := by
  have hltB := hM.lt
  have hltC := hR.lt
  have HN : Hid (N = ho1 S Z U (n, (x0, x1))) := hN
  have HB0 : Hid (Below w.heap.size w (w.alloc (Obj.cells #[Value.string n, Value.int IntKind.i64 x0, Value.int IntKind.i64 x1] 75))) := (Below.refl _ _).alloc (Nat.le_refl _) _
  have HC := hst_new w n x0 x1 75
  have HM0 : Hid (MAt spotKey veI w B M) := hM
  have HR0 : Hid (MAt strKey veI w C R) := hR
  have HT : Hid (TK sq M U) := hT
  have HZ : Hid (TK (fun a b => a == b) R Z) := hZ
  have hneB : ¬ w.heap.size = B := by omega
  have hneC : ¬ w.heap.size = C := by omega
  clear hM hR hT hZ hN
  go_enter Tryd.func55, Tryd.ntmps55
  go_wp2_with fail
  refine (name_any n _).mono ?_
  rintro e w1 ⟨rfl, hb1⟩
  rw [ha]
  have HB1 : Hid (Below w.heap.size w w1) := HB0.out.trans (hb1.mono HB0.out.size)
  have HC1 := HC.later hb1
  obtain ⟨c0, c1, c2⟩ := hst_cells HC1
  simp only [Nat.zero_add] at c0 c1 c2
  clear hb1
  go_wp2_with fail
  refine (isSpot_any S x0 x1 _).mono ?_
  rintro e w2 ⟨rfl, hb2⟩
  rw [hb]
  have HB2 : Hid (Below w.heap.size w w2) := HB1.out.trans (hb2.mono HB1.out.size)
  have d0 := cell_later hb2 c0
  have d1 := cell_later hb2 c1
  have d2 := cell_later hb2 c2
  have HM2 : Hid (MAt spotKey veI w2 B M) := (HM0.out.later HB2.out)
  have HR2 : Hid (MAt strKey veI w2 C R) := (HR0.out.later HB2.out)
  clear hb2 HC1 HC c0 c1 c2 HB1 HB0
  go_upto_region 5 with fail
  obtain ⟨cA, hcA⟩ : ∃ cA : Int, cA = (ctM (fun a b => a == b) n Z : Int) := ⟨_, rfl⟩
  have HcA : Hid (cA = (ctM (fun a b => a == b) n Z : Int)) := hcA
  have hcw : IntKind.i64.wrap (cA + 1) = cA + 1 := by
    have h1 := ct_le (q := fun a b : ByteArray => a == b) n Z
    exact wrap_small (by omega) (by omega)
  clear hcA
  go_cut [] from 20 to 24 (fun w' => ∃ R1, MAt strKey veI w' C R1 ∧ TK (fun a b => a == b) R1 (Z ++ [n]) ∧ But [C] w2 w')
  case first =>
    obtain ⟨w3, hup, hR3, hg3⟩ := run_update_M HR2.out 106 3 Tryd.underlying106 n (cA + 1)
    have hTK3 : Hid (TK (fun a b => a == b) (mput (fun a b => a == b) n (cA + 1) R) (Z ++ [n])) := by
      show TK _ _ _
      rw [HcA.out]
      exact tk_put ba_iff HZ.out _
    have HR3 : Hid (MAt strKey veI w3 C (mput (fun a b => a == b) n (cA + 1) R)) := hR3
    have HBt : Hid (But [C] w2 w3) := But.of_grown hg3 (by simp)
    have hl2 : (Instr.lookup 106 (.map (some C)) (.string n) false).run Tryd.prog w2 = .ok (.int .i64 cA) w2 := by
      rw [HcA.out]
      exact run_lookup_TK HR2.out HZ.out 106 3 Tryd.underlying106 (fun w => by kernel_rfl) n
    have h3 : (Instr.mapUpdate 106 (.map (some C)) (.string n) (.int .i64 (cA + 1))).run Tryd.prog w2 = .ok () w3 := hup
    clear hup hR3 hg3
    go_wp2
    go_meet
    case rel => exact ⟨_, HR3.out, hTK3.out, HBt.out⟩
  case rest =>
    obtain ⟨R1, hR1, hZ1, hBt1⟩ := hcut
    obtain ⟨w5, hw5⟩ : ∃ x, x = wc := ⟨_, rfl⟩
    subst hw5
    have hl2 : w.heap.size < w2.heap.size := World.block_lt_of_cell? _ _ d0
    have hnC : w.heap.size ∉ [C] := by simp [hneC]
    have e0 := (hBt1.cell (p := ⟨w.heap.size, 0, none⟩) hl2 hnC).trans d0
    have e1 := (hBt1.cell (p := ⟨w.heap.size, 1, none⟩) hl2 hnC).trans d1
    have e2 := (hBt1.cell (p := ⟨w.heap.size, 2, none⟩) hl2 hnC).trans d2
    have HM5 : Hid (MAt spotKey veI w5 B M) := HM2.out.but hBt1 (by simp [hBC])
    have HR5 : Hid (MAt strKey veI w5 C R1) := hR1
    have HZ5 : Hid (TK (fun a b => a == b) R1 (Z ++ [n])) := hZ1
    have HBt5 : Hid (But [B, C] w w5) := (But.of_below (HB2.out)).trans (hBt1.mono (by simp))
    clear hR1 hZ1 hBt1 d0 d1 d2 HM2 HR2 hcw HcA hnC hl2
    obtain ⟨cB, hcB⟩ : ∃ cB : Int, cB = (ctM sq (x0, x1) U : Int) := ⟨_, rfl⟩
    have HcB : Hid (cB = (ctM sq (x0, x1) U : Int)) := hcB
    have hcw : IntKind.i64.wrap (cB + 1) = cB + 1 := by
      have h1 := ct_le (q := sq) (x0, x1) U
      exact wrap_small (by omega) (by omega)
    clear hcB
    go_upto_region 6 with fail
    go_cut [] from 25 to 31 (fun w' => ∃ M2, MAt spotKey veI w' B M2 ∧ TK sq M2 (U ++ [(x0, x1)]) ∧ But [B] w5 w')
    case first =>
      have hMd : MAt spotKey veI w5.drew B M := HM5.out
      obtain ⟨v0, st, w3, hE, hg3, hM3, hS3⟩ := run_entry_M hMd 104 3 Tryd.underlying104 0 (fun w => by kernel_rfl) (x0, x1)
      obtain ⟨w4, hSt, hM4, hg4⟩ := hS3 w3 (cB + 1) rfl
      have hTK4 : Hid (TK sq (mput sq (x0, x1) (cB + 1) M) (U ++ [(x0, x1)])) := by
        show TK _ _ _
        rw [HcB.out]
        exact tk_put sq_iff HT.out _
      have HM4 : Hid (MAt spotKey veI w4 B (mput sq (x0, x1) (cB + 1) M)) := hM4
      have HBt : Hid (But [B] w5 w4) := ((But.refl [B] w5).drew.trans (But.of_grown hg3 (by simp))).trans (But.of_grown hg4 (by simp))
      have hl2 : (Instr.lookup 104 (.map (some B)) (.agg #[.int .i64 x0, .int .i64 x1]) false).run Tryd.prog w5.drew = .ok (.int .i64 cB) w5.drew := by
        rw [HcB.out]
        exact run_lookup_TK hMd HT.out 104 3 Tryd.underlying104 (fun w => by kernel_rfl) (x0, x1)
      have hl3 : (Instr.lookup 104 (.map (some B)) (.agg #[.int .i64 x0, .int .i64 x1]) false).run Tryd.prog w3 = .ok (.int .i64 cB) w3 := by
        have h := run_lookup_M hM3 104 3 Tryd.underlying104 (.int .i64 0) (fun w => by kernel_rfl) (x0, x1) false
        have e : mget spotKey.q (x0, x1) (mput spotKey.q (x0, x1) ((mget spotKey.q (x0, x1) M).getD 0) M) = some cB := by
          rw [mget_put spotKey.qeq, if_pos ((spotKey.qeq _ _).2 rfl), HcB.out]
          exact congrArg some (HT.out (x0, x1))
        rw [e] at h
        exact h
      have h1 : (Instr.mapEntry 104 (.map (some B)) (.agg #[.int .i64 x0, .int .i64 x1])).run Tryd.prog w5.drew = .ok (.tuple #[v0, .int .i64 (st : Int)]) w3 := hE
      have h3 : (Instr.entryStore 104 (.map (some B)) (.int .i64 (st : Int)) (.int .i64 (cB + 1))).run Tryd.prog w3 = .ok () w4 := hSt
      clear hE hS3 hSt hM3 hM4 hg3 hg4 hMd
      go_region
      go_wp2_with fail
      go_meet
      case rel => exact ⟨_, HM4.out, hTK4.out, HBt.out⟩
    case rest =>
      obtain ⟨M2, hM2, hT2, hBt2⟩ := hcut
      have hnB : w.heap.size ∉ [B] := by simp [hneB]
      have hl2 : w.heap.size < w5.heap.size := World.block_lt_of_cell? _ _ e0
      have f0 := (hBt2.cell (p := ⟨w.heap.size, 0, none⟩) hl2 hnB).trans e0
      have f1 := (hBt2.cell (p := ⟨w.heap.size, 1, none⟩) hl2 hnB).trans e1
      have f2 := (hBt2.cell (p := ⟨w.heap.size, 2, none⟩) hl2 hnB).trans e2
      have hR6 : MAt strKey veI wc C R1 := HR5.out.but hBt2 (by simp [Ne.symm hBC])
      have HM6 : Hid (MAt spotKey veI wc B M2) := hM2
      have HR6 : Hid (MAt strKey veI wc C R1) := hR6
      have HT6 : Hid (TK sq M2 (U ++ [(x0, x1)])) := hT2
      have HBt6 : Hid (But [B, C] w wc) := HBt5.out.trans (hBt2.mono (by simp))
      obtain ⟨pA, hpA⟩ : ∃ p : Int, p = (ctM (fun a b => a == b) n (Z ++ [n]) : Int) := ⟨_, rfl⟩
      obtain ⟨pB, hpB⟩ : ∃ p : Int, p = (ctM sq (x0, x1) (U ++ [(x0, x1)]) : Int) := ⟨_, rfl⟩
      have hlA : (Instr.lookup 106 (.map (some C)) (.string n) false).run Tryd.prog wc = .ok (.int .i64 pA) wc := by
        rw [hpA]
        exact run_lookup_TK hR6 HZ5.out 106 3 Tryd.underlying106 (fun w => by kernel_rfl) n
      have hlB : (Instr.lookup 104 (.map (some B)) (.agg #[.int .i64 x0, .int .i64 x1]) false).run Tryd.prog wc = .ok (.int .i64 pB) wc := by
        rw [hpB]
        exact run_lookup_TK hM2 hT2 104 3 Tryd.underlying104 (fun w => by kernel_rfl) (x0, x1)
      have HL : Hid (N = if (decide ((1 : Int) < pA) || decide ((1 : Int) < pB)) = true then 7 else 0) := by
        show _ = _
        have e1 : (U.any fun u => sq u (x0, x1)) = (U.any fun u => u == (x0, x1)) := by
          congr 1
        rw [HN.out, hpA, hpB, ct_host ba_iff, ct_host sq_iff, ho1, e1]
        simp only [ha, hb, if_true]
      clear hM2 hT2 hR6 hBt2 e0 e1 e2 hnB hl2 hcw HcB HM5 HR5 HBt5 hpA hpB ha hb
      by_cases h1 : 1 < pA
      · have e7 : N = 7 := by rw [HL.out]; simp [h1]
        subst e7
        go_wp2
        go_ret
        exact ⟨rfl, M2, R1, HM6.out, HR6.out, fun e => absurd e (by decide), HBt6.out⟩
      · by_cases h2 : 1 < pB
        · have e7 : N = 7 := by rw [HL.out]; simp [h2]
          subst e7
          go_wp2
          go_ret
          exact ⟨rfl, M2, R1, HM6.out, HR6.out, fun e => absurd e (by decide), HBt6.out⟩
        · have e7 : N = 0 := by rw [HL.out]; simp [h1, h2]
          subst e7
          go_wp2
          go_ret
          exact ⟨rfl, M2, R1, HM6.out, HR6.out, fun _ => ⟨HT6.out, HZ5.out⟩, HBt6.out⟩
set_option maxHeartbeats 1000000 in
set_option maxRecDepth 100000 in
theorem settle_bad (S : Int) (n : ByteArray) (x0 x1 : Int) (B C : Nat) (N : Int) (w : World) (h : (nmB n = false ∧ N = 2) ∨ (nmB n = true ∧ spB S (x0, x1) = false ∧ N = 1)) :
    Calls Tryd.prog 55 #[.int .i64 S, .map (some B), .map (some C), .agg #[.string n, .int .i64 x0, .int .i64 x1]] w fun e w' => e = .returned (.iface 63 (.int .i64 N)) ∧ Below w.heap.size w w' := by
  have HB0 : Hid (Below w.heap.size w (w.alloc (Obj.cells #[Value.string n, Value.int IntKind.i64 x0, Value.int IntKind.i64 x1] 75))) := (Below.refl _ _).alloc (Nat.le_refl _) _
  have HC := hst_new w n x0 x1 75
  rcases h with ⟨ha, rfl⟩ | ⟨ha, hb, rfl⟩
  · go_enter Tryd.func55, Tryd.ntmps55
    go_wp2_with fail
    refine (name_any n _).mono ?_
    rintro e w1 ⟨rfl, hb1⟩
    rw [ha]
    have HB1 : Hid (Below w.heap.size w w1) := HB0.out.trans (hb1.mono HB0.out.size)
    clear hb1 HC
    go_wp2
    go_ret
    exact ⟨rfl, HB1.out⟩
  · go_enter Tryd.func55, Tryd.ntmps55
    go_wp2_with fail
    refine (name_any n _).mono ?_
    rintro e w1 ⟨rfl, hb1⟩
    rw [ha]
    have HB1 : Hid (Below w.heap.size w w1) := HB0.out.trans (hb1.mono HB0.out.size)
    obtain ⟨c0, c1, c2⟩ := hst_cells (HC.later hb1)
    simp only [Nat.zero_add] at c0 c1 c2
    clear hb1 HC
    go_wp2_with fail
    refine (isSpot_any S x0 x1 _).mono ?_
    rintro e w2 ⟨rfl, hb2⟩
    rw [hb]
    have HB2 : Hid (Below w.heap.size w w2) := HB1.out.trans (hb2.mono HB1.out.size)
    clear hb2
    go_wp2
    go_ret
    exact ⟨rfl, HB2.out⟩
theorem settle_any (S : Int) (n : ByteArray) (x0 x1 : Int) (B C : Nat) (hBC : B ≠ C) (M : List ((Int × Int) × Int)) (R : List (ByteArray × Int)) (U : List (Int × Int)) (Z : List ByteArray) (w : World) (hM : MAt spotKey veI w B M) (hR : MAt strKey veI w C R) (hT : TK sq M U) (hZ : TK (fun a b => a == b) R Z) (hU : U.length ≤ 1000) (hZl : Z.length ≤ 1000) :
    Calls Tryd.prog 55 #[.int .i64 S, .map (some B), .map (some C), .agg #[.string n, .int .i64 x0, .int .i64 x1]] w fun e w' => e = .returned (noV (ho1 S Z U (n, (x0, x1)))) ∧ SetQ w w' B C (ho1 S Z U (n, (x0, x1))) (U ++ [(x0, x1)]) (Z ++ [n]) := by
  cases ha : nmB n
  · have e1 : ho1 S Z U (n, (x0, x1)) = 2 := by simp only [ho1, ha, Bool.false_eq_true, if_false]
    rw [e1]
    refine (settle_bad S n x0 x1 B C 2 w (.inl ⟨ha, rfl⟩)).mono ?_
    rintro e w' ⟨rfl, hb⟩
    exact ⟨rfl, M, R, hM.later hb, hR.later hb, fun e => absurd e (by decide), But.of_below hb⟩
  · cases hb : spB S (x0, x1)
    · have e1 : ho1 S Z U (n, (x0, x1)) = 1 := by simp only [ho1, ha, hb, Bool.false_eq_true, if_false, if_true]
      rw [e1]
      refine (settle_bad S n x0 x1 B C 1 w (.inr ⟨ha, hb, rfl⟩)).mono ?_
      rintro e w' ⟨rfl, hb⟩
      exact ⟨rfl, M, R, hM.later hb, hR.later hb, fun e => absurd e (by decide), But.of_below hb⟩
    · exact settle_ok S n x0 x1 B C hBC M R U Z w hM hR hT hZ hU hZl ha hb _ rfl
end Go.Proofs.YtokkmnednhigmaeDoor
/- What topo.Check answers: a contract for the walks above it. -/
namespace Go.Proofs.YtokkmnednhigmaeDoor
open Go.RowKit
set_option linter.unusedSimpArgs false
set_option linter.unusedVariables false

/-- A topology in a box. -/
def TBox (W : World) (g : Nat) (S : Int) (v1 v2 : Value) : Prop := W.cell? ⟨g, 0, none⟩ = some (.int .i64 S) ∧ W.cell? ⟨g, 1, none⟩ = some v1 ∧ W.cell? ⟨g, 2, none⟩ = some v2
theorem tbox_new (w : World) (S : Int) (v1 v2 : Value) (t : TypeId) : TBox (w.alloc (Obj.cells #[.int .i64 S, v1, v2] t)) w.heap.size S v1 v2 := by
  refine ⟨?_, ?_, ?_⟩ <;> simp
theorem TBox.lt {W : World} {g : Nat} {S : Int} {v1 v2 : Value} (h : TBox W g S v1 v2) : g < W.heap.size := World.block_lt_of_cell? _ _ h.1
theorem TBox.but {X : List Nat} {W W' : World} {g : Nat} {S : Int} {v1 v2 : Value} (h : TBox W g S v1 v2) (hb : But X W W') (hX : g ∉ X) : TBox W' g S v1 v2 :=
  ⟨(hb.cell (p := ⟨g, 0, none⟩) h.lt hX).trans h.1, (hb.cell (p := ⟨g, 1, none⟩) h.lt hX).trans h.2.1, (hb.cell (p := ⟨g, 2, none⟩) h.lt hX).trans h.2.2⟩
theorem TBox.later {W W' : World} {g : Nat} {S : Int} {v1 v2 : Value} (h : TBox W g S v1 v2) (hb : Below W.heap.size W W') : TBox W' g S v1 v2 := h.but (X := []) (But.of_below hb) (by simp)

set_option maxHeartbeats 1000000 in
set_option maxRecDepth 100000 in
theorem tcheck_range (S : Int) (v1 v2 : Value) (w : World) (h : ¬ (1 ≤ S ∧ S ≤ 6)) :
    Calls Tryd.prog 38 #[.agg #[.int .i64 S, v1, v2]] w fun e w' => e = .returned (.iface 63 (.int .i64 1)) ∧ Below w.heap.size w w' := by
  have HB0 : Hid (Below w.heap.size w (w.alloc (Obj.cells #[.int .i64 S, v1, v2] 25))) := (Below.refl _ _).alloc (Nat.le_refl _) _
  by_cases h1 : S < 1
  · clear h
    go_enter Tryd.func38, Tryd.ntmps38
    go_wp2
    go_ret
    exact ⟨rfl, HB0.out⟩
  · have h6 : 6 < S := by omega
    clear h
    go_enter Tryd.func38, Tryd.ntmps38
    go_wp2
    go_ret
    exact ⟨rfl, HB0.out⟩
set_option maxHeartbeats 1000000 in
set_option maxRecDepth 100000 in
theorem check_full (S : Int) (ao : Option Addr) (n cap : Nat) (ao2 : Option Addr) (n2 cap2 : Nat) (w : World) (h1 : 1 ≤ S) (h6 : S ≤ 6) (h : 200 < n ∨ 8 < n2) :
    Calls Tryd.prog 38 #[.agg #[.int .i64 S, .slice ao n cap, .slice ao2 n2 cap2]] w fun e w' => e = .returned (.iface 63 (.int .i64 4)) ∧ Below w.heap.size w w' := by
  have HB0 : Hid (Below w.heap.size w (w.alloc (Obj.cells #[.int .i64 S, .slice ao n cap, .slice ao2 n2 cap2] 25))) := (Below.refl _ _).alloc (Nat.le_refl _) _
  have g1 : ¬ S < 1 := by omega
  have g6 : ¬ 6 < S := by omega
  by_cases hn : (200 : Int) < (n : Int)
  · clear h
    go_enter Tryd.func38, Tryd.ntmps38
    go_wp2
    go_ret
    exact ⟨rfl, HB0.out⟩
  · have hn2 : (8 : Int) < (n2 : Int) := by omega
    clear h
    go_enter Tryd.func38, Tryd.ntmps38
    go_wp2
    go_ret
    exact ⟨rfl, HB0.out⟩

set_option maxHeartbeats 2000000 in
set_option maxRecDepth 100000 in
theorem check_walk (S : Int) (ao : Option Addr) (n cap : Nat) (ao2 : Option Addr) (n2 cap2 : Nat) (Ls : List ((Int × Int) × (Int × Int))) (Hs : List (ByteArray × (Int × Int))) (w : World)
    (hL : GS lnkE w (.slice ao n cap) Ls) (hH : GS hstE w (.slice ao2 n2 cap2) Hs) (h1 : 1 ≤ S) (h6 : S ≤ 6) (hn : n ≤ 200) (hn2 : n2 ≤ 8) (T : Int) (hT : T = tpN S Ls Hs) :
    Calls Tryd.prog 38 #[.agg #[.int .i64 S, .slice ao n cap, .slice ao2 n2 cap2]] w fun e w' => e = .returned (noV T) ∧ Below w.heap.size w w' := by
  obtain ⟨_, _, _, e1, hLn, _, _, hLa⟩ := hL.form
  cases e1
  obtain ⟨_, _, _, e2, hHn, _, _, hHa⟩ := hH.form
  cases e2
  have HLN : Hid (Ls.length = n) := hLn
  have HHN : Hid (Hs.length = n2) := hHn
  have HLA : Hid (0 < n → ∃ g o, ao = some ⟨g, o, none⟩ ∧ GAt lnkE w g o Ls ∧ cap ≤ maxLen) := hLa
  have HHA : Hid (0 < n2 → ∃ g o, ao2 = some ⟨g, o, none⟩ ∧ GAt hstE w g o Hs ∧ cap2 ≤ maxLen) := hHa
  have HT : Hid (T = if lkN S Ls [] = 0 then hoN S Hs [] (spsL Ls) else lkN S Ls []) := by
    show T = _
    rw [hT, tpN, if_pos (by simp [h1, h6]), if_pos (by simp [hLn, hHn, hn, hn2])]
  have g1 : ¬ S < 1 := by omega
  have g6 : ¬ 6 < S := by omega
  have gn : ¬ (200 : Int) < (n : Int) := by omega
  have gn2 : ¬ (8 : Int) < (n2 : Int) := by omega
  clear hL hH hLn hHn hLa hHa hT h1 h6
  have hX := tbox_new w S (.slice ao n cap) (.slice ao2 n2 cap2) 25
  have hB0 : Below w.heap.size w (w.alloc (Obj.cells #[.int .i64 S, .slice ao n cap, .slice ao2 n2 cap2] 25)) := (Below.refl _ _).alloc (Nat.le_refl _) _
  have HX : Hid (TBox (w.alloc (Obj.cells #[.int .i64 S, .slice ao n cap, .slice ao2 n2 cap2] 25)) w.heap.size S (.slice ao n cap) (.slice ao2 n2 cap2)) := hX
  have HB0 : Hid (Below w.heap.size w (w.alloc (Obj.cells #[.int .i64 S, .slice ao n cap, .slice ao2 n2 cap2] 25))) := hB0
  have hsz0 : (w.alloc (Obj.cells #[.int .i64 S, .slice ao n cap, .slice ao2 n2 cap2] 25)).heap.size = w.heap.size + 1 := by simp
  clear hX hB0
  go_enter Tryd.func38, Tryd.ntmps38
  go_upto_region 5 with fail
  generalize hw0 : w.alloc (Obj.cells #[.int .i64 S, .slice ao n cap, .slice ao2 n2 cap2] 25) = w0 at *
  have HW0 : Hid (w.alloc (Obj.cells #[.int .i64 S, .slice ao n cap, .slice ao2 n2 cap2] 25) = w0) := hw0
  have HSZ0 : Hid (w0.heap.size = w.heap.size + 1) := hsz0
  clear hw0 hsz0
  have hmk := run_makeMap (P := Tryd.prog) 104 w0
  have HM1 : Hid (MAt spotKey veI (w0.alloc (.map #[] 0)) w0.heap.size []) := mat_new spotKey veI w0
  have hbm : Below w0.heap.size w0 (w0.alloc (.map #[] 0)) := (Below.refl _ _).alloc (Nat.le_refl _) _
  have HX1 : Hid (TBox (w0.alloc (.map #[] 0)) w.heap.size S (.slice ao n cap) (.slice ao2 n2 cap2)) := HX.out.later hbm
  have HB1 : Hid (Below w.heap.size w (w0.alloc (.map #[] 0))) := HB0.out.trans (hbm.mono HB0.out.size)
  clear hbm
  obtain ⟨d0, d1, d2⟩ := HX1.out
  go_wp2
  clear d0 d1 d2
  obtain ⟨w1, hw1⟩ : ∃ x, w0.alloc (.map #[] 0) = x := ⟨_, rfl⟩
  obtain ⟨B, hBe⟩ : ∃ x, w0.heap.size = x := ⟨_, rfl⟩
  rw [hw1] at HX1 HB1
  rw [hw1, hBe] at HM1 ⊢
  have HBW : Hid (B = w.heap.size + 1) := by
    show B = _
    rw [← hBe, HSZ0.out]
  have HSZ1 : Hid (w1.heap.size = w.heap.size + 2) := by
    show _ = _
    rw [← hw1]
    have := HSZ0.out
    simp [this]
  clear hw1 hBe hmk HSZ0 HW0 HX HB0
  go_loopw [35] (fun i wr => ∃ k : Nat, k ≤ n ∧ i = .int .i64 k ∧ (∃ M, MAt spotKey veI wr B M ∧ TK sq M (spsL (Ls.take k))) ∧ lkN S Ls [] = lkN S (Ls.drop k) (spsL (Ls.take k)) ∧ But [B] w1 wr)
    (fun i _ => n - (intOf i).toNat)
  case atStart => exact ⟨0, by omega, rfl, ⟨[], HM1.out, by simpa [spsL] using tk_nil sq⟩, by simp [spsL], But.refl _ _⟩
  case round =>
    obtain ⟨k, hk, rfl, ⟨M, hM, hTK⟩, hlk, hBt⟩ := hrel
    have hnB : w.heap.size ∉ [B] := by simp [HBW.out]
    have hXr := HX1.out.but hBt hnB
    have hBw : Below w.heap.size w wr := HB1.out.trans (hBt.below (by rw [HSZ1.out]; omega) (by simp [HBW.out]))
    have HXr : Hid (TBox wr w.heap.size S (.slice ao n cap) (.slice ao2 n2 cap2)) := hXr
    have HBw : Hid (Below w.heap.size w wr) := hBw
    have HM : Hid (MAt spotKey veI wr B M) := hM
    have HTK : Hid (TK sq M (spsL (Ls.take k))) := hTK
    have HLK : Hid (lkN S Ls [] = lkN S (Ls.drop k) (spsL (Ls.take k))) := hlk
    have HBt : Hid (But [B] w1 wr) := hBt
    obtain ⟨b0, b1, b2⟩ := hXr
    have hlw : w.heap.size < wr.heap.size := World.block_lt_of_cell? _ _ b0
    clear hM hTK hlk hBt HM1
    by_cases hlt : k < n
    · obtain ⟨g, o, hao, hc, _⟩ := HLA.out (by omega)
      subst hao
      obtain ⟨x0, x1, x2, x3, hkl, hLk, q0, q1, q2, q3⟩ := lnk_at (hc.later hBw) HLN.out hlt
      have HLk : Hid (Ls[k] = ((x0, x1), (x2, x3))) := hLk
      have hBA : Below wr.heap.size wr (wr.alloc (Obj.cells #[Value.int IntKind.i64 x0, Value.int IntKind.i64 x1, Value.int IntKind.i64 x2, Value.int IntKind.i64 x3] 73)) := (Below.refl _ _).alloc (Nat.le_refl _) _
      have HBA : Hid (Below wr.heap.size wr (wr.alloc (Obj.cells #[Value.int IntKind.i64 x0, Value.int IntKind.i64 x1, Value.int IntKind.i64 x2, Value.int IntKind.i64 x3] 73))) := hBA
      have HUL : Hid ((spsL (Ls.take k)).length ≤ 1000) := by
        show _ ≤ 1000
        rw [sps_len, List.length_take]
        omega
      have HST : Hid (lkN S Ls [] = if lk1 S (spsL (Ls.take k)) ((x0, x1), (x2, x3)) = 0 then lkN S (Ls.drop (k + 1)) (spsL (Ls.take (k + 1))) else lk1 S (spsL (Ls.take k)) ((x0, x1), (x2, x3))) := by
        show _ = _
        rw [HLK.out, List.drop_eq_getElem_cons hkl, lk_step, hLk, sps_take hkl, hLk]
      have HSP : Hid (spsL (Ls.take (k + 1)) = spsL (Ls.take k) ++ [(x0, x1), (x2, x3)]) := by
        show _ = _
        rw [sps_take hkl, hLk]
      clear hLk hBA hBw hc HLA
      go_wp2_with fail
      refine (lay_any S x0 x1 x2 x3 B M _ _ (HM.out.later HBA.out) HTK.out HUL.out).mono ?_
      rintro e w3 ⟨rfl, hQ⟩
      have hst := HST.out
      generalize lk1 S (spsL (Ls.take k)) ((x0, x1), (x2, x3)) = N at hQ hst ⊢
      have HST2 : Hid (lkN S Ls [] = if N = 0 then lkN S (Ls.drop (k + 1)) (spsL (Ls.take (k + 1))) else N) := hst
      obtain ⟨M', hM', hTK', hBt'⟩ := hQ
      have HM' : Hid (MAt spotKey veI w3 B M') := hM'
      have HTK' : Hid (N = 0 → TK sq M' (spsL (Ls.take (k + 1)))) := fun h => by rw [HSP.out]; exact hTK' h
      have HBt3 : Hid (But [B] w1 w3) := (HBt.out.trans (But.of_below HBA.out)).trans hBt'
      have HBw3 : Hid (Below w.heap.size w w3) := HB1.out.trans (HBt3.out.below (by rw [HSZ1.out]; omega) (by simp [HBW.out]))
      clear hst HST hM' hTK' hBt' HSP HM HTK HLK HBt HBA HUL b0 b1 b2 q0 q1 q2 q3
      by_cases hN : N = 0
      · subst hN
        rw [no_ok rfl]
        have HTK2 : Hid (TK sq M' (spsL (Ls.take (k + 1)))) := HTK'.out rfl
        have HLK2 : Hid (lkN S Ls [] = lkN S (Ls.drop (k + 1)) (spsL (Ls.take (k + 1)))) := by
          show _ = _
          rw [HST2.out, if_pos rfl]
        clear HTK' HST2
        go_wp2
        go_roundw
        case rel => exact ⟨k + 1, by omega, by go_num, ⟨M', HM'.out, HTK2.out⟩, HLK2.out, HBt3.out⟩
        case measure => simp [intOf]; omega
      · rw [no_ne hN]
        have HTN : Hid (T = N) := by
          show _ = _
          have e := HST2.out
          rw [if_neg hN] at e
          rw [HT.out, e, if_neg hN]
        have HNN : Hid (N ≠ 0) := hN
        clear hN HTK' HST2
        go_wp2
        go_ret
        exact ⟨by rw [HTN.out, no_ne HNN.out]; rfl, HBw3.out⟩
    · obtain rfl : k = n := by omega
      have HLK0 : Hid (lkN S Ls [] = 0) := by
        show _ = _
        rw [HLK.out, ← HLN.out, List.drop_length]
        rfl
      have HTKL : Hid (TK sq M (spsL Ls)) := by
        show TK _ _ _
        have h := HTK.out
        rw [← HLN.out, List.take_length] at h
        exact h
      have HTL : Hid (T = hoN S Hs [] (spsL Ls)) := by
        show _ = _
        rw [HT.out, if_pos HLK0.out]
      have hwr := HBt.out.size
      rw [HSZ1.out] at hwr
      obtain ⟨w5, hw5⟩ : ∃ x, x = wr := ⟨_, rfl⟩
      subst hw5
      have HWR : Hid (w.heap.size + 2 ≤ w5.heap.size) := hwr
      clear HLK HTK HT HLK0 hBw hwr
      go_upto_region 13 with fail
      have hmk := run_makeMap (P := Tryd.prog) 106 w5
      have hbm : Below w5.heap.size w5 (w5.alloc (.map #[] 0)) := (Below.refl _ _).alloc (Nat.le_refl _) _
      have HM2 : Hid (MAt spotKey veI (w5.alloc (.map #[] 0)) B M) := HM.out.later hbm
      have HR2 : Hid (MAt strKey veI (w5.alloc (.map #[] 0)) w5.heap.size []) := mat_new strKey veI w5
      have hX2 : TBox (w5.alloc (.map #[] 0)) w.heap.size S (.slice ao k cap) (.slice ao2 n2 cap2) := HXr.out.later hbm
      have HX2 : Hid (TBox (w5.alloc (.map #[] 0)) w.heap.size S (.slice ao k cap) (.slice ao2 n2 cap2)) := hX2
      have HB2 : Hid (Below w.heap.size w (w5.alloc (.map #[] 0))) := HBw.out.trans (hbm.mono HBw.out.size)
      obtain ⟨d0, d1, d2⟩ := hX2
      clear hbm b0 b1 b2 HXr HBw HM HBt HX1 HB1
      go_wp2
      obtain ⟨w6, hw6⟩ : ∃ x, w5.alloc (.map #[] 0) = x := ⟨_, rfl⟩
      obtain ⟨C, hCe⟩ : ∃ x, w5.heap.size = x := ⟨_, rfl⟩
      rw [hw6] at HM2 HX2 HB2 d0 d1 d2
      rw [hw6, hCe] at HR2 ⊢
      have HC2 : Hid (w.heap.size + 2 ≤ C) := by
        show _ ≤ _
        rw [← hCe]
        exact HWR.out
      have HSZ6 : Hid (w6.heap.size = C + 1) := by
        show _ = _
        rw [← hw6, ← hCe]
        simp
      clear hw6 hCe hmk HWR
      go_loopw [52] (fun i wr => ∃ j : Nat, j ≤ n2 ∧ i = .int .i64 j ∧ (∃ M R, MAt spotKey veI wr B M ∧ MAt strKey veI wr C R ∧ TK sq M (spsL Ls ++ (Hs.take j).map (·.2)) ∧ TK (fun a b => a == b) R ((Hs.take j).map (·.1))) ∧ hoN S Hs [] (spsL Ls) = hoN S (Hs.drop j) ((Hs.take j).map (·.1)) (spsL Ls ++ (Hs.take j).map (·.2)) ∧ But [B, C] w6 wr)
        (fun i _ => n2 - (intOf i).toNat)
      case atStart => exact ⟨0, by omega, rfl, ⟨M, [], HM2.out, HR2.out, by simpa using HTKL.out, tk_nil _⟩, by simp, But.refl _ _⟩
      case round =>
        obtain ⟨j, hj, rfl, ⟨M3, R3, hM3, hR3, hTM3, hTR3⟩, hho, hBt⟩ := hrel
        have hnX : w.heap.size ∉ [B, C] := by
          have h1 := HBW.out
          have h2 := HC2.out
          simp only [List.mem_cons, List.not_mem_nil, or_false, not_or]
          omega
        have hBC : B ≠ C := by
          have h1 := HBW.out
          have h2 := HC2.out
          omega
        have hXr := HX2.out.but hBt hnX
        have hge : ∀ x ∈ [B, C], w.heap.size ≤ x := by
          have h1 := HBW.out
          have h2 := HC2.out
          intro x hx
          simp only [List.mem_cons, List.not_mem_nil, or_false] at hx
          omega
        have hsz6 : w.heap.size ≤ w6.heap.size := HB2.out.size
        have HGE : Hid (∀ x ∈ [B, C], w.heap.size ≤ x) := hge
        have hBw : Below w.heap.size w wr := HB2.out.trans (hBt.below hsz6 hge)
        have HBw : Hid (Below w.heap.size w wr) := hBw
        have HM3 : Hid (MAt spotKey veI wr B M3) := hM3
        have HR3 : Hid (MAt strKey veI wr C R3) := hR3
        have HTM3 : Hid (TK sq M3 (spsL Ls ++ (Hs.take j).map (·.2))) := hTM3
        have HTR3 : Hid (TK (fun a b => a == b) R3 ((Hs.take j).map (·.1))) := hTR3
        have HHO : Hid (hoN S Hs [] (spsL Ls) = hoN S (Hs.drop j) ((Hs.take j).map (·.1)) (spsL Ls ++ (Hs.take j).map (·.2))) := hho
        have HBt : Hid (But [B, C] w6 wr) := hBt
        have HBC : Hid (B ≠ C) := hBC
        obtain ⟨b0, b1, b2⟩ := hXr
        have hlw : w.heap.size < wr.heap.size := World.block_lt_of_cell? _ _ b0
        clear hM3 hR3 hTM3 hTR3 hho hBt HM2 HR2 hnX hge hBC d0 d1 d2
        by_cases hlt2 : j < n2
        · obtain ⟨g, o, hao, hc, _⟩ := HHA.out (by omega)
          subst hao
          obtain ⟨y0, y1, y2, hjl, hHk, q0, q1, q2⟩ := hst_at (hc.later hBw) HHN.out hlt2
          have HHk : Hid (Hs[j] = (y0, (y1, y2))) := hHk
          have HBA : Hid (Below wr.heap.size wr (wr.alloc (Obj.cells #[Value.string y0, Value.int IntKind.i64 y1, Value.int IntKind.i64 y2] 75))) := (Below.refl _ _).alloc (Nat.le_refl _) _
          have HUL : Hid ((spsL Ls ++ (Hs.take j).map (·.2)).length ≤ 1000) := by
            show _ ≤ 1000
            rw [List.length_append, sps_len, List.length_map, List.length_take, HLN.out]
            omega
          have HZL : Hid (((Hs.take j).map (·.1)).length ≤ 1000) := by
            show _ ≤ 1000
            rw [List.length_map, List.length_take]
            omega
          have HS2 : Hid (spsL Ls ++ (Hs.take (j + 1)).map (·.2) = (spsL Ls ++ (Hs.take j).map (·.2)) ++ [(y1, y2)]) := by
            show _ = _
            rw [List.take_succ_eq_append_getElem hjl, hHk]
            simp
          have HS1 : Hid ((Hs.take (j + 1)).map (·.1) = (Hs.take j).map (·.1) ++ [y0]) := by
            show _ = _
            rw [List.take_succ_eq_append_getElem hjl, hHk]
            simp
          have HST : Hid (hoN S Hs [] (spsL Ls) = if ho1 S ((Hs.take j).map (·.1)) (spsL Ls ++ (Hs.take j).map (·.2)) (y0, (y1, y2)) = 0 then hoN S (Hs.drop (j + 1)) ((Hs.take (j + 1)).map (·.1)) (spsL Ls ++ (Hs.take (j + 1)).map (·.2)) else ho1 S ((Hs.take j).map (·.1)) (spsL Ls ++ (Hs.take j).map (·.2)) (y0, (y1, y2))) := by
            show _ = _
            rw [HHO.out, List.drop_eq_getElem_cons hjl, ho_step, hHk, HS1.out, HS2.out]
          clear hHk hBw hc HHA HLA
          go_wp2_with fail
          refine (settle_any S y0 y1 y2 B C HBC.out M3 R3 _ _ _ (HM3.out.later HBA.out) (HR3.out.later HBA.out) HTM3.out HTR3.out HUL.out HZL.out).mono ?_
          rintro e w3 ⟨rfl, hQ⟩
          have hst := HST.out
          generalize ho1 S ((Hs.take j).map (·.1)) (spsL Ls ++ (Hs.take j).map (·.2)) (y0, (y1, y2)) = N at hQ hst ⊢
          have HST2 : Hid (hoN S Hs [] (spsL Ls) = if N = 0 then hoN S (Hs.drop (j + 1)) ((Hs.take (j + 1)).map (·.1)) (spsL Ls ++ (Hs.take (j + 1)).map (·.2)) else N) := hst
          obtain ⟨M', R', hM', hR', hTK', hBt'⟩ := hQ
          have HM' : Hid (MAt spotKey veI w3 B M') := hM'
          have HR' : Hid (MAt strKey veI w3 C R') := hR'
          have HTK' : Hid (N = 0 → TK sq M' (spsL Ls ++ (Hs.take (j + 1)).map (·.2)) ∧ TK (fun a b => a == b) R' ((Hs.take (j + 1)).map (·.1))) := fun h => by rw [HS1.out, HS2.out]; exact hTK' h
          have HBt3 : Hid (But [B, C] w6 w3) := (HBt.out.trans (But.of_below HBA.out)).trans hBt'
          have HBw3 : Hid (Below w.heap.size w w3) := HB2.out.trans (HBt3.out.below HB2.out.size HGE.out)
          clear hst HST hM' hR' hTK' hBt' HS1 HS2 HM3 HR3 HTM3 HTR3 HHO HBt HBA HUL HZL b0 b1 b2 q0 q1 q2
          by_cases hN : N = 0
          · subst hN
            rw [no_ok rfl]
            have HTK2 : Hid (TK sq M' (spsL Ls ++ (Hs.take (j + 1)).map (·.2)) ∧ TK (fun a b => a == b) R' ((Hs.take (j + 1)).map (·.1))) := HTK'.out rfl
            have HHO2 : Hid (hoN S Hs [] (spsL Ls) = hoN S (Hs.drop (j + 1)) ((Hs.take (j + 1)).map (·.1)) (spsL Ls ++ (Hs.take (j + 1)).map (·.2))) := by
              show _ = _
              rw [HST2.out, if_pos rfl]
            clear HTK' HST2
            go_wp2
            go_roundw
            case rel => exact ⟨j + 1, by omega, by go_num, ⟨M', R', HM'.out, HR'.out, HTK2.out.1, HTK2.out.2⟩, HHO2.out, HBt3.out⟩
            case measure => simp [intOf]; omega
          · rw [no_ne hN]
            have HTN : Hid (T = N) := by
              show _ = _
              rw [HTL.out, HST2.out, if_neg hN]
            have HNN : Hid (N ≠ 0) := hN
            clear hN HTK' HST2
            go_wp2
            go_ret
            exact ⟨by rw [HTN.out, no_ne HNN.out]; rfl, HBw3.out⟩
        · obtain rfl : j = n2 := by omega
          have HT0 : Hid (T = 0) := by
            show _ = _
            rw [HTL.out, HHO.out, ← HHN.out, List.drop_length]
            rfl
          clear hBw HHO HTM3 HTR3
          go_wp2
          go_ret
          exact ⟨by rw [HT0.out, no_ok rfl]; rfl, HBw.out⟩
theorem check_any (S : Int) (ao : Option Addr) (n cap : Nat) (ao2 : Option Addr) (n2 cap2 : Nat) (Ls : List ((Int × Int) × (Int × Int))) (Hs : List (ByteArray × (Int × Int))) (w : World)
    (hL : GS lnkE w (.slice ao n cap) Ls) (hH : GS hstE w (.slice ao2 n2 cap2) Hs) :
    Calls Tryd.prog 38 #[.agg #[.int .i64 S, .slice ao n cap, .slice ao2 n2 cap2]] w fun e w' => e = .returned (noV (tpN S Ls Hs)) ∧ Below w.heap.size w w' := by
  have hLn := hL.len
  have hHn := hH.len
  by_cases h1 : 1 ≤ S ∧ S ≤ 6
  · by_cases h2 : n ≤ 200 ∧ n2 ≤ 8
    · exact check_walk S ao n cap ao2 n2 cap2 Ls Hs w hL hH h1.1 h1.2 h2.1 h2.2 _ rfl
    · have e : tpN S Ls Hs = 4 := by
        rw [tpN, if_pos (by simp [h1]), if_neg (by rw [hLn, hHn]; simpa using fun h => Nat.lt_of_not_le fun h3 => h2 ⟨h, h3⟩)]
      rw [e]
      exact check_full S ao n cap ao2 n2 cap2 w h1.1 h1.2 (by omega)
  · have e : tpN S Ls Hs = 1 := by
      rw [tpN, if_neg (by simpa using fun h => Int.lt_of_not_ge fun h3 => h1 ⟨h, h3⟩)]
    rw [e]
    exact tcheck_range S _ _ w h1
end Go.Proofs.YtokkmnednhigmaeDoor
/- What Table of package rule answers, called with any table: the loop. -/
namespace Go.Proofs.YtokkmnednhigmaeDoor
open Go.RowKit
set_option linter.unusedSimpArgs false

theorem tb_long {L : List Ru} (h : 12 < L.length) : tbN L = 4 := by simp [tbN, h]
theorem tb_at {L : List Ru} (h : L.length ≤ 12) {k : Nat} (hk : k < L.length) {x : Int} (h1 : tbTo L (k + 1) = x) (h2 : x ≠ 0) : tbN L = x := by
  subst h1
  rw [tbN, if_neg (by omega)]
  exact to_le h2 hk
theorem to_bad {L : List Ru} {k : Nat} {r : Ru} (hk : k < L.length) (hr : L[k] = r) (h : tbTo L k = 0) (h2 : r.n ≠ 0) : tbTo L (k + 1) = r.n := by
  rw [tbTo, if_pos h, getD_at hk, hr, if_neg h2]
theorem to_clash {L : List Ru} {k : Nat} {r : Ru} (hk : k < L.length) (hr : L[k] = r) (h : tbTo L k = 0) (h2 : r.n = 0) (h3 : (L.take k).any (fun a => keyB a r) = true) : tbTo L (k + 1) = 7 := by
  rw [tbTo, if_pos h, getD_at hk, hr, if_pos h2, h3]
  rfl
theorem to_next {L : List Ru} {k : Nat} {r : Ru} (hk : k < L.length) (hr : L[k] = r) (h : tbTo L k = 0) (h2 : r.n = 0) (h3 : (L.take k).any (fun a => keyB a r) = false) : tbTo L (k + 1) = 0 := by
  rw [tbTo, if_pos h, getD_at hk, hr, if_pos h2, h3]
  rfl

set_option maxHeartbeats 1000000 in
theorem table_some (g o cap n : Nat) (L : List Ru) (w : World) (hc : RAt w g o L) (hn : L.length = n) (hl : n ≤ 12) (hcap : n ≤ cap) (hcap2 : cap ≤ maxLen) :
    Calls Tryd.prog 39 #[.slice (some ⟨g, o, none⟩) n cap] w fun e w' => e = .returned (noV (tbN L)) ∧ Below w.heap.size w w' := by
  have HN : Hid (L.length = n) := hn
  unfold maxLen at hcap2
  clear hn
  go_enter Tryd.func39, Tryd.ntmps39
  go_wp2
  go_loopw [12] (fun i wr => ∃ k : Nat, k ≤ n ∧ i = .int .i64 k ∧ tbTo L k = 0 ∧ Below w.heap.size w wr) (fun i _ => n - (intOf i).toNat)
  case atStart => exact ⟨0, by omega, rfl, rfl, Below.refl _ _⟩
  case round =>
    obtain ⟨k, hk, rfl, hno, hB⟩ := hrel
    have HB : Hid (Below w.heap.size w wr) := hB
    have HNO : Hid (tbTo L k = 0) := hno
    clear hno
    by_cases hlt : k < n
    · obtain ⟨p, m, b, q, s, v, hkl, hL, q0, q1, q2, q3, q4, q5⟩ := (hc.later hB).at HN.out hlt
      have HL : Hid (L[k] = ⟨p, m, b, q, s, v⟩) := hL
      have HC6 := C6.new wr p m b q s v 51
      have HRT := ((hc.later hB).later ((Below.refl _ _).alloc (Nat.le_refl _) (Obj.cells #[Value.int IntKind.i64 p, Value.int IntKind.i64 m, Value.int IntKind.i64 b, Value.int IntKind.i64 q, Value.int IntKind.i64 s, Value.int IntKind.i64 v] 51))).take k
      have HTL : Hid ((L.take k).length = k) := by show (L.take k).length = k; simp; omega
      have hk2 : k ≤ cap := by omega
      clear hL hB
      by_cases ho : ruN p m b q s v = 0
      · go_wp2_with fail
        refine (ruCheck_any _ _ _ _ _ _ _).mono ?_
        rintro e w1 ⟨rfl, hb1⟩
        rw [no_ok ho]
        have HB1 := HB.out.trans (((Below.refl _ _).alloc (Nat.le_refl _) _).trans (hb1.mono (by simp)) |>.mono HB.out.size)
        have HC7 := HC6.later hb1
        have HR7 := HRT.later hb1
        clear hb1 HC6 HRT
        cases ho2 : (L.take k).any (fun a => keyB a ⟨p, m, b, q, s, v⟩)
        · go_wp2_with fail
          refine (containsR_any _ _ _ k _ ⟨p, m, b, q, s, v⟩ (L.take k) _ HR7 HTL.out (by unfold maxLen; omega) (by unfold maxLen; omega) HC7).mono ?_
          rintro e w2 ⟨rfl, hb2⟩
          rw [ho2]
          have HB2 := HB1.trans (hb2.mono HB1.size)
          clear hb2
          go_wp2
          go_roundw
          case rel => exact ⟨k + 1, by omega, by go_num, to_next hkl HL.out HNO.out ho ho2, HB2⟩
          case measure => simp [intOf]; omega
        · go_wp2_with fail
          refine (containsR_any _ _ _ k _ ⟨p, m, b, q, s, v⟩ (L.take k) _ HR7 HTL.out (by unfold maxLen; omega) (by unfold maxLen; omega) HC7).mono ?_
          rintro e w2 ⟨rfl, hb2⟩
          rw [ho2]
          have HB2 := HB1.trans (hb2.mono HB1.size)
          clear hb2
          go_wp2
          go_ret
          refine ⟨?_, HB2⟩
          rw [tb_at (by rw [HN.out]; exact hl) hkl (to_clash hkl HL.out HNO.out ho ho2) (by decide)]
          rfl
      · go_wp2_with fail
        refine (ruCheck_any _ _ _ _ _ _ _).mono ?_
        rintro e w1 ⟨rfl, hb1⟩
        rw [no_ne ho]
        have HB1 := HB.out.trans (((Below.refl _ _).alloc (Nat.le_refl _) _).trans (hb1.mono (by simp)) |>.mono HB.out.size)
        clear hb1
        go_wp2
        go_ret
        refine ⟨?_, HB1⟩
        rw [tb_at (by rw [HN.out]; exact hl) hkl (to_bad hkl HL.out HNO.out ho) ho, no_ne (show Ru.n ⟨p, m, b, q, s, v⟩ ≠ 0 from ho)]
        rfl
    · obtain rfl : k = n := by omega
      go_wp2
      go_ret
      refine ⟨?_, HB.out⟩
      have e1 : tbN L = 0 := by
        rw [tbN, if_neg (by rw [HN.out]; omega), HN.out]
        exact HNO.out
      rw [e1]
      rfl

set_option maxHeartbeats 1000000 in
theorem table_long (ao : Option Addr) (cap n : Nat) (w : World) (hl : 12 < n) :
    Calls Tryd.prog 39 #[.slice ao n cap] w fun e w' => e = .returned (.iface 63 (.int .i64 4)) ∧ Below w.heap.size w w' := by
  go_enter Tryd.func39, Tryd.ntmps39
  go_wp2
  go_ret
  exact ⟨rfl, Below.refl _ _⟩

set_option maxHeartbeats 1000000 in
theorem table_nil (ao : Option Addr) (cap : Nat) (w : World) :
    Calls Tryd.prog 39 #[.slice ao 0 cap] w fun e w' => e = .returned .nilIface ∧ Below w.heap.size w w' := by
  go_enter Tryd.func39, Tryd.ntmps39
  go_wp2
  go_loopw [12] (fun i wr => i = .int .i64 0 ∧ wr = w) (fun i _ => 0)
  case atStart => exact ⟨rfl, rfl⟩
  case round =>
    obtain ⟨rfl, rfl⟩ := hrel
    go_wp2
    go_ret
    exact ⟨rfl, Below.refl _ _⟩

theorem table_any (v : Value) (L : List Ru) (w : World) (h : SR w v L) :
    Calls Tryd.prog 39 #[v] w fun e w' => e = .returned (noV (tbN L)) ∧ Below w.heap.size w w' := by
  rcases h with ⟨ao, cap, rfl, rfl⟩ | ⟨g, o, cap, rfl, h1, h2, hc⟩
  · exact table_nil ao cap w
  · by_cases h12 : 12 < L.length
    · rw [tb_long h12]; exact table_long _ _ _ _ h12
    · exact table_some _ _ _ _ L w hc rfl (by omega) h1 h2
end Go.Proofs.YtokkmnednhigmaeDoor
/- Nets in plain lists: what is wrong with one, where a packet goes out, what becomes of it. No program in it. -/
namespace Go.Proofs.YtokkmnednhigmaeDoor
open Go.RowKit
set_option linter.unusedVariables false

/-- The fault of the first k tables. -/
def tsTo (Ts : List (List Ru)) : Nat → Int
  | 0 => 0
  | k + 1 => if tsTo Ts k = 0 then tbN (Ts.getD k []) else tsTo Ts k
theorem ts_le {Ts : List (List Ru)} {k : Nat} (h : tsTo Ts k ≠ 0) : ∀ {n : Nat}, k ≤ n → tsTo Ts n = tsTo Ts k
  | 0, hn => by
    obtain rfl : k = 0 := by omega
    rfl
  | n + 1, hn => by
    by_cases e : k = n + 1
    · subst e; rfl
    · have := ts_le h (show k ≤ n by omega)
      rw [tsTo, if_neg (by rw [this]; exact h), this]
/-- The fault of a net. -/
def ntN (S : Int) (Ls : List ((Int × Int) × (Int × Int))) (Hs : List (ByteArray × (Int × Int))) (Ts : List (List Ru)) : Int :=
  if tpN S Ls Hs = 0 then (if (Ts.length : Int) = S then tsTo Ts Ts.length else 3) else tpN S Ls Hs
theorem ts_0 {Ts : List (List Ru)} : ∀ {n : Nat}, tsTo Ts n = 0 → ∀ k, k < n → tbN (Ts.getD k []) = 0
  | 0, _, k, hk => by omega
  | n + 1, h, k, hk => by
    unfold tsTo at h
    by_cases e : tsTo Ts n = 0
    · rw [if_pos e] at h
      by_cases ek : k = n
      · subst ek; exact h
      · exact ts_0 e k (by omega)
    · rw [if_neg e] at h
      exact absurd h e
theorem nt_0 {S : Int} {Ls : List ((Int × Int) × (Int × Int))} {Hs : List (ByteArray × (Int × Int))} {Ts : List (List Ru)} (h : ntN S Ls Hs Ts = 0) : tpN S Ls Hs = 0 ∧ (Ts.length : Int) = S ∧ ∀ k, k < Ts.length → tbN (Ts.getD k []) = 0 := by
  unfold ntN at h
  by_cases e : tpN S Ls Hs = 0
  · rw [if_pos e] at h
    by_cases e2 : (Ts.length : Int) = S
    · rw [if_pos e2] at h
      exact ⟨e, e2, ts_0 h⟩
    · rw [if_neg e2] at h
      omega
  · rw [if_neg e] at h
    exact absurd h e
/-- The fault of a packet: of the net, else of the spot or the header. -/
def cpN (S : Int) (Ls : List ((Int × Int) × (Int × Int))) (Hs : List (ByteArray × (Int × Int))) (Ts : List (List Ru)) (s : Int × Int) (h : Int) : Int :=
  if ntN S Ls Hs Ts = 0 then (if spB S s && hdrB h then 0 else 1) else ntN S Ls Hs Ts
theorem cp_0 {S : Int} {Ls : List ((Int × Int) × (Int × Int))} {Hs : List (ByteArray × (Int × Int))} {Ts : List (List Ru)} {s : Int × Int} {h : Int} (e : cpN S Ls Hs Ts s h = 0) : ntN S Ls Hs Ts = 0 ∧ spB S s = true ∧ hdrB h = true := by
  unfold cpN at e
  by_cases e1 : ntN S Ls Hs Ts = 0
  · rw [if_pos e1] at e
    cases e2 : spB S s && hdrB h
    · rw [e2] at e
      simp at e
    · rw [Bool.and_eq_true] at e2
      exact ⟨e1, e2.1, e2.2⟩
  · rw [if_neg e1] at e
    exact absurd e e1

/-- The rule that counts, if one does, in a table. -/
def roR (t : List Ru) (h : Int) : Ru := t.getD (luI t h).toNat zeR
def Ru.apN (r : Ru) (h : Int) : Int := Proofs.YtokkmnednhigmaeDoor.apN r.p r.m r.b r.o r.s r.v h
def Ru.apR (r : Ru) (h : Int) : Int := Proofs.YtokkmnednhigmaeDoor.apR r.p r.m r.b r.o r.s r.v h
/-- Where, and with which header, a packet goes out that a table meets. -/
def stT (t : List Ru) (p : (Int × Int) × Int) : Option ((Int × Int) × Int) :=
  if luN t p.2 = 0 then (if (roR t p.2).apN p.2 = 0 then some ((p.1.1, (roR t p.2).o), (roR t p.2).apR p.2) else none) else none
def taT (Ts : List (List Ru)) (s : Int) : List Ru := Ts.getD (s - 1).toNat []
def stO (Ts : List (List Ru)) (p : (Int × Int) × Int) : Option ((Int × Int) × Int) := stT (taT Ts p.1.1) p
/-- Are two hops the same? -/
def heB (a b : (Int × Int) × Int) : Bool := (a.1.1 == b.1.1) && ((a.1.2 == b.1.2) && ((a.2 == b.2)))
theorem heB_iff (a b : (Int × Int) × Int) : heB a b = true ↔ a = b := by
  obtain ⟨⟨a1, a2⟩, a3⟩ := a
  obtain ⟨⟨b1, b2⟩, b3⟩ := b
  simp [heB, and_assoc]
/-- What becomes of a packet at its last hop: it ends so, or there is a next hop. -/
def goE (Ls : List ((Int × Int) × (Int × Int))) (Hs : List (ByteArray × (Int × Int))) (t : List Ru) (l : List ((Int × Int) × Int)) (p : (Int × Int) × Int) : (Int × ByteArray) ⊕ ((Int × Int) × Int) :=
  match stT t p with
  | none => .inl (2, ByteArray.empty)
  | some q => match atO Hs q.1 with
    | some m => .inl (1, m)
    | none => match peerO Ls q.1 with
      | none => .inl (3, ByteArray.empty)
      | some s => if l.length = 24 ∨ l.any (fun x => heB (s, q.2) x) = true then .inl (4, ByteArray.empty) else .inr (s, q.2)
def zeH : (Int × Int) × Int := ((0, 0), 0)
def laH (l : List ((Int × Int) × Int)) : (Int × Int) × Int := l.getD (l.length - 1) zeH
/-- What becomes of a packet that has had these hops. -/
def foF (Ls : List ((Int × Int) × (Int × Int))) (Hs : List (ByteArray × (Int × Int))) (Ts : List (List Ru)) : Nat → List ((Int × Int) × Int) → Int × ByteArray × List ((Int × Int) × Int)
  | 0, l => (4, ByteArray.empty, l)
  | n + 1, l => match goE Ls Hs (taT Ts (laH l).1.1) l (laH l) with
    | .inl e => (e.1, e.2, l)
    | .inr p => foF Ls Hs Ts n (l ++ [p])
/-- What becomes of a packet that comes in. -/
def frF (Ls : List ((Int × Int) × (Int × Int))) (Hs : List (ByteArray × (Int × Int))) (Ts : List (List Ru)) (s : Int × Int) (h : Int) : Int × ByteArray × List ((Int × Int) × Int) := foF Ls Hs Ts 24 [(s, h)]
/-- No fate at all. -/
def zeF : Int × ByteArray × List ((Int × Int) × Int) := (0, ByteArray.empty, [])
/-- The answers. -/
def spN (S : Int) (Ls : List ((Int × Int) × (Int × Int))) (Hs : List (ByteArray × (Int × Int))) (Ts : List (List Ru)) (s : Int × Int) (h : Int) : Int :=
  if cpN S Ls Hs Ts s h = 0 then (if (stO Ts (s, h)).isSome then 0 else 5) else cpN S Ls Hs Ts s h
def spV (S : Int) (Ls : List ((Int × Int) × (Int × Int))) (Hs : List (ByteArray × (Int × Int))) (Ts : List (List Ru)) (s : Int × Int) (h : Int) : (Int × Int) × Int :=
  if cpN S Ls Hs Ts s h = 0 then (stO Ts (s, h)).getD zeH else zeH
def frV (S : Int) (Ls : List ((Int × Int) × (Int × Int))) (Hs : List (ByteArray × (Int × Int))) (Ts : List (List Ru)) (s : Int × Int) (h : Int) : Int × ByteArray × List ((Int × Int) × Int) :=
  if cpN S Ls Hs Ts s h = 0 then frF Ls Hs Ts s h else zeF
def seN (S : Int) (Ls : List ((Int × Int) × (Int × Int))) (Hs : List (ByteArray × (Int × Int))) (Ts : List (List Ru)) (m : ByteArray) (h : Int) : Int :=
  if ntN S Ls Hs Ts = 0 then (if weN S Ls Hs m = 0 then (if hdrB h then 0 else 1) else weN S Ls Hs m) else ntN S Ls Hs Ts
def seV (S : Int) (Ls : List ((Int × Int) × (Int × Int))) (Hs : List (ByteArray × (Int × Int))) (Ts : List (List Ru)) (m : ByteArray) (h : Int) : Int × ByteArray × List ((Int × Int) × Int) :=
  if seN S Ls Hs Ts m h = 0 then frF Ls Hs Ts (weV S Ls Hs m) h else zeF
end Go.Proofs.YtokkmnednhigmaeDoor
/- What net.Check answers: a contract for the walks above it. -/
namespace Go.Proofs.YtokkmnednhigmaeDoor
open Go.RowKit
set_option linter.unusedSimpArgs false
set_option linter.unusedVariables false

/-- These tables lie one behind the other. -/
def TAt (w : World) (g o : Nat) (Ts : List (List Ru)) : Prop := ∀ i (h : i < Ts.length), ∃ ao n cap, w.cell? ⟨g, o + i, none⟩ = some (.slice ao n cap) ∧ SR w (.slice ao n cap) Ts[i]
theorem TAt.later {w w' : World} {g o : Nat} {Ts : List (List Ru)} (h : TAt w g o Ts) (hb : Below w.heap.size w w') : TAt w' g o Ts := fun i hi => by
  obtain ⟨ao, n, cap, h1, h2⟩ := h i hi
  exact ⟨ao, n, cap, cell_later hb h1, h2.later hb⟩
/-- A value is a slice of these tables. -/
def TS (w : World) (v : Value) (Ts : List (List Ru)) : Prop :=
  (∃ ao cap, v = .slice ao 0 cap ∧ Ts = []) ∨ ∃ g o cap, v = .slice (some ⟨g, o, none⟩) Ts.length cap ∧ Ts.length ≤ cap ∧ cap ≤ maxLen ∧ TAt w g o Ts
theorem TS.later {w w' : World} {v : Value} {Ts : List (List Ru)} (h : TS w v Ts) (hb : Below w.heap.size w w') : TS w' v Ts := by
  rcases h with h | ⟨g, o, cap, h1, h2, h3, h4⟩
  · exact .inl h
  · exact .inr ⟨g, o, cap, h1, h2, h3, h4.later hb⟩
theorem TS.form {w : World} {v : Value} {Ts : List (List Ru)} (h : TS w v Ts) : ∃ ao n cap, v = .slice ao n cap ∧ Ts.length = n ∧ n ≤ maxLen ∧ n ≤ cap ∧ (0 < n → ∃ g o, ao = some ⟨g, o, none⟩ ∧ TAt w g o Ts ∧ cap ≤ maxLen) := by
  rcases h with ⟨ao, cap, rfl, rfl⟩ | ⟨g, o, cap, rfl, h1, h2, h3⟩
  · exact ⟨ao, 0, cap, rfl, rfl, Nat.zero_le _, Nat.zero_le _, fun h => absurd h (by omega)⟩
  · exact ⟨_, _, cap, rfl, rfl, Nat.le_trans h1 h2, h1, fun _ => ⟨g, o, rfl, h3, h2⟩⟩
theorem TS.len {w : World} {ao : Option Addr} {n cap : Nat} {Ts : List (List Ru)} (h : TS w (.slice ao n cap) Ts) : Ts.length = n := by
  rcases h with ⟨_, _, e, rfl⟩ | ⟨_, _, _, e, _⟩
  · simp at e; simp [e]
  · simp at e; exact e.2.1.symm
theorem getT {Ts : List (List Ru)} {k : Nat} (hk : k < Ts.length) : Ts.getD k [] = Ts[k] := by simp [List.getD, hk]
/-- The box of a net. -/
def NeBox (W : World) (g : Nat) (S : Int) (v1 v2 v3 : Value) : Prop := W.cell? ⟨g, 0, none⟩ = some (.int .i64 S) ∧ W.cell? ⟨g, 1, none⟩ = some v1 ∧ W.cell? ⟨g, 2, none⟩ = some v2 ∧ W.cell? ⟨g, 3, none⟩ = some v3
theorem nebox_new (w : World) (S : Int) (v1 v2 v3 : Value) (t : TypeId) : NeBox (w.alloc (Obj.cells #[.int .i64 S, v1, v2, v3] t)) w.heap.size S v1 v2 v3 := by
  refine ⟨?_, ?_, ?_, ?_⟩ <;> simp
theorem NeBox.later {W W' : World} {g : Nat} {S : Int} {v1 v2 v3 : Value} (h : NeBox W g S v1 v2 v3) (hb : Below W.heap.size W W') : NeBox W' g S v1 v2 v3 :=
  ⟨cell_later hb h.1, cell_later hb h.2.1, cell_later hb h.2.2.1, cell_later hb h.2.2.2⟩

set_option maxHeartbeats 2000000 in
set_option maxRecDepth 100000 in
theorem ncheck_any (S : Int) (ao : Option Addr) (n cap : Nat) (ao2 : Option Addr) (n2 cap2 : Nat) (ao3 : Option Addr) (n3 cap3 : Nat) (Ls : List ((Int × Int) × (Int × Int))) (Hs : List (ByteArray × (Int × Int))) (Ts : List (List Ru)) (w : World)
    (hL : GS lnkE w (.slice ao n cap) Ls) (hH : GS hstE w (.slice ao2 n2 cap2) Hs) (hT : TS w (.slice ao3 n3 cap3) Ts) :
    Calls Tryd.prog 20 #[.agg #[.int .i64 S, .slice ao n cap, .slice ao2 n2 cap2, .slice ao3 n3 cap3]] w fun e w' => e = .returned (noV (ntN S Ls Hs Ts)) ∧ Below w.heap.size w w' := by
  have hb1 : Below w.heap.size w (w.alloc (Obj.cells #[.int .i64 S, .slice ao n cap, .slice ao2 n2 cap2, .slice ao3 n3 cap3] 28)) := (Below.refl _ _).alloc (Nat.le_refl _) _
  obtain ⟨C, hC⟩ : ∃ C, C = ntN S Ls Hs Ts := ⟨_, rfl⟩
  have HC : Hid (C = ntN S Ls Hs Ts) := hC
  rw [← hC]
  have HL2 : Hid (GS lnkE (w.alloc (Obj.cells #[.int .i64 S, .slice ao n cap, .slice ao2 n2 cap2, .slice ao3 n3 cap3] 28)) (.slice ao n cap) Ls) := hL.later hb1
  have HH2 : Hid (GS hstE (w.alloc (Obj.cells #[.int .i64 S, .slice ao n cap, .slice ao2 n2 cap2, .slice ao3 n3 cap3] 28)) (.slice ao2 n2 cap2) Hs) := hH.later hb1
  have HT2 : Hid (TS (w.alloc (Obj.cells #[.int .i64 S, .slice ao n cap, .slice ao2 n2 cap2, .slice ao3 n3 cap3] 28)) (.slice ao3 n3 cap3) Ts) := hT.later hb1
  have HB2 : Hid (Below w.heap.size w (w.alloc (Obj.cells #[.int .i64 S, .slice ao n cap, .slice ao2 n2 cap2, .slice ao3 n3 cap3] 28))) := hb1
  have HX : Hid (NeBox (w.alloc (Obj.cells #[.int .i64 S, .slice ao n cap, .slice ao2 n2 cap2, .slice ao3 n3 cap3] 28)) w.heap.size S (.slice ao n cap) (.slice ao2 n2 cap2) (.slice ao3 n3 cap3)) := nebox_new w S _ _ _ 28
  clear hC hb1 hL hH hT
  go_enter Tryd.func20, Tryd.ntmps20
  go_wp2_with fail
  refine (check_any S ao n cap ao2 n2 cap2 Ls Hs _ HL2.out HH2.out).mono ?_
  rintro e w1 ⟨rfl, hb1⟩
  obtain ⟨T, hT⟩ : ∃ T, T = tpN S Ls Hs := ⟨_, rfl⟩
  have HT : Hid (T = tpN S Ls Hs) := hT
  rw [← hT]
  have HB1 : Hid (Below w.heap.size w w1) := HB2.out.trans (hb1.mono HB2.out.size)
  obtain ⟨b0, b1, b2, b3⟩ := HX.out.later hb1
  have HT1 : Hid (TS w1 (.slice ao3 n3 cap3) Ts) := HT2.out.later hb1
  clear hT hb1 HX HL2 HH2 HB2 HT2
  by_cases h0 : T = 0
  · subst h0
    rw [no_ok rfl]
    obtain ⟨_, _, _, e2, hTn, hTm, _, hTa⟩ := HT1.out.form
    cases e2
    have HTN : Hid (Ts.length = n3) := hTn
    have HTM : Hid (n3 ≤ maxLen) := hTm
    have HTA : Hid (0 < n3 → ∃ g o, ao3 = some ⟨g, o, none⟩ ∧ TAt w1 g o Ts ∧ cap3 ≤ maxLen) := hTa
    have n63 : n3 ≤ 9223372036854775807 := by unfold maxLen at hTm; omega
    clear hTn hTm hTa HT1
    by_cases hS : (n3 : Int) = S
    · have HC2 : Hid (C = tsTo Ts n3) := by
        show _ = _
        rw [HC.out, ntN, if_pos HT.out.symm, if_pos (by rw [HTN.out]; exact hS), HTN.out]
      have e1 : ((n3 : Int) != S) = false := by simp [hS]
      clear hS HC
      go_wp2
      go_loopw [24] (fun i wr => ∃ k : Nat, k ≤ n3 ∧ i = .int .i64 k ∧ tsTo Ts k = 0 ∧ Below w1.heap.size w1 wr) (fun i _ => n3 - (intOf i).toNat)
      case atStart => exact ⟨0, by omega, rfl, rfl, Below.refl _ _⟩
      case round =>
        obtain ⟨k, hk, rfl, hz, hB⟩ := hrel
        have HZ : Hid (tsTo Ts k = 0) := hz
        have HB : Hid (Below w1.heap.size w1 wr) := hB
        have HBw : Hid (Below w.heap.size w wr) := HB1.out.trans (hB.mono HB1.out.size)
        clear hz b0 b1 b2 b3
        by_cases hlt : k < n3
        · obtain ⟨g, o, hao, hc, _⟩ := HTA.out (by omega)
          subst hao
          obtain ⟨a4, n4, c4, q0, hs⟩ := (hc.later hB) k (by rw [HTN.out]; exact hlt)
          have HS4 : Hid (SR wr (.slice a4 n4 c4) (Ts.getD k [])) := by
            show SR _ _ _
            rw [getT (by rw [HTN.out]; exact hlt)]
            exact hs
          clear hs hc hB
          go_wp2_with fail
          refine (table_any _ (Ts.getD k []) _ HS4.out).mono ?_
          rintro e w2 ⟨rfl, hb2⟩
          obtain ⟨R, hR⟩ : ∃ R, R = tbN (Ts.getD k []) := ⟨_, rfl⟩
          have HR : Hid (tsTo Ts (k + 1) = R) := by
            show _ = _
            rw [tsTo, if_pos HZ.out, hR]
          rw [← hR]
          have HB3 : Hid (Below w1.heap.size w1 w2) := HB.out.trans (hb2.mono HB.out.size)
          have HBw3 : Hid (Below w.heap.size w w2) := HBw.out.trans (hb2.mono HBw.out.size)
          clear hR hb2 q0
          by_cases hN : R = 0
          · subst hN
            rw [no_ok rfl]
            go_wp2
            go_roundw
            case rel => exact ⟨k + 1, by omega, by go_num, HR.out, HB3.out⟩
            case measure => simp [intOf]; omega
          · rw [no_ne hN]
            have HCR : Hid (C = R) := by
              show _ = _
              rw [HC2.out, ts_le (k := k + 1) (by rw [HR.out]; exact hN) (by omega), HR.out]
            have HNN : Hid (R ≠ 0) := hN
            clear hN
            go_wp2
            go_ret
            exact ⟨by rw [HCR.out, no_ne HNN.out]; rfl, HBw3.out⟩
        · obtain rfl : k = n3 := by omega
          have HCR : Hid (C = 0) := by
            show _ = _
            rw [HC2.out, HZ.out]
          clear hB
          go_wp2
          go_ret
          exact ⟨by rw [HCR.out]; rfl, HBw.out⟩
    · have HC2 : Hid (C = 3) := by
        show _ = _
        rw [HC.out, ntN, if_pos HT.out.symm, if_neg (by rw [HTN.out]; exact hS)]
      have e1 : ((n3 : Int) != S) = true := by simpa using hS
      clear hS HC
      go_wp2
      go_ret
      exact ⟨by rw [HC2.out]; rfl, HB1.out⟩
  · rw [no_ne h0]
    have HC2 : Hid (C = T) := by
      show _ = _
      rw [HC.out, ntN, ← HT.out, if_neg h0]
    have HN0 : Hid (T ≠ 0) := h0
    clear h0
    go_wp2
    go_ret
    exact ⟨by rw [HC2.out, no_ne HN0.out]; rfl, HB1.out⟩
end Go.Proofs.YtokkmnednhigmaeDoor
/- Rows of tables that a call owns: the tables lie elsewhere. -/
namespace Go.Proofs.YtokkmnednhigmaeDoor
open Go.RowKit
set_option linter.unusedSimpArgs false
set_option linter.unusedVariables false

/-- A slice that is empty, or does not lie in a block. -/
def offB (x : SlT) (b : Nat) : Prop := x.2.1 = 0 ∨ ∀ a, x.1 = some a → a.block ≠ b
theorem RAt.lt {w : World} {g o : Nat} {L : List Ru} (h : RAt w g o L) (h0 : 0 < L.length) : g < w.heap.size := World.block_lt_of_cell? _ _ (h 0 h0).c0
theorem SR.off {w : World} {x : SlT} {L : List Ru} (h : SR w (slV x) L) {b : Nat} (hb : w.heap.size ≤ b) : offB x b := by
  obtain ⟨ao, n, cap⟩ := x
  rcases h with ⟨ao', cap', e, rfl⟩ | ⟨g, o, cap', e, h1, h2, h3⟩
  · simp only [slV, Value.slice.injEq] at e
    exact .inl e.2.1
  · simp only [slV, Value.slice.injEq] at e
    obtain ⟨rfl, rfl, rfl⟩ := e
    by_cases h0 : L.length = 0
    · exact .inl h0
    · refine .inr fun a ha => ?_
      cases ha
      have := h3.lt (by omega)
      show g ≠ b
      omega
/-- A slice of rules, behind what writes into another block alone. -/
theorem SR.grown {w w' : World} {x : SlT} {L : List Ru} {row : Option Nat} (h : SR w (slV x) L) (hg : w.grownBy w' row) (ho : ∀ b, row = some b → offB x b) : SR w' (slV x) L := by
  obtain ⟨ao, n, cap⟩ := x
  rcases h with ⟨ao', cap', e, rfl⟩ | ⟨g, o, cap', e, h1, h2, h3⟩
  · exact .inl ⟨ao', cap', e, rfl⟩
  · simp only [slV, Value.slice.injEq] at e
    obtain ⟨rfl, rfl, rfl⟩ := e
    by_cases h0 : L.length = 0
    · exact .inl ⟨_, _, by rw [slV, h0], List.length_eq_zero_iff.1 h0⟩
    · have hne : some g ≠ row := by
        intro e
        rcases ho g e.symm with h4 | h4
        · exact h0 h4
        · exact h4 _ rfl rfl
      refine .inr ⟨g, o, cap, rfl, h1, h2, fun i hi => ?_⟩
      obtain ⟨c0, c1, c2, c3, c4, c5⟩ := h3 i hi
      exact ⟨hg.cell c0 hne, hg.cell c1 hne, hg.cell c2 hne, hg.cell c3 hne, hg.cell c4 hne, hg.cell c5 hne⟩
/-- A row of tables that a call owns, in a block from B on; no table lies in that block, or in the blocks from A to B. -/
structure TR (e : TypeId) (w : World) (A B : Nat) (v : Value) (vs : List SlT) (Ts : List (List Ru)) : Prop where
  ov : w.ownsRow B e slE.n v vs.length (cellsG slE vs)
  lv : vs.length = Ts.length
  rv : ∀ (i : Nat) (x : SlT) (L : List Ru), vs[i]? = some x → Ts[i]? = some L → SR w (slV x) L ∧ ∀ b, v.ownBlock = some b → offB x b
  rz : ∀ (i : Nat) (x : SlT), vs[i]? = some x → ∀ b, A ≤ b → b < B → offB x b
section
variable {e : TypeId} {w w' : World} {A B : Nat} {v : Value} {vs : List SlT} {Ts : List (List Ru)}
theorem tr_nil (e : TypeId) (w : World) (A B : Nat) : TR e w A B (.slice none 0 0) [] [] :=
  ⟨World.ownsRow_nil w B e slE.n, rfl, fun i x L h => by simp at h, fun i x h => by simp at h⟩
theorem TR.later (h : TR e w A B v vs Ts) (hb : Below w.heap.size w w') : TR e w' A B v vs Ts :=
  ⟨h.ov.kept (grown_below hb) (none_or _), h.lv, fun i x L h1 h2 => ⟨(h.rv i x L h1 h2).1.later hb, (h.rv i x L h1 h2).2⟩, h.rz⟩
/-- Behind what writes into a block from A to B. -/
theorem TR.grown (h : TR e w A B v vs Ts) {b : Nat} (hg : w.grownBy w' (some b)) (h1 : A ≤ b) (h2 : b < B) : TR e w' A B v vs Ts := by
  refine ⟨h.ov.kept hg (.inr fun e => ?_), h.lv, fun i x L a1 a2 => ⟨(h.rv i x L a1 a2).1.grown hg (fun c hc => ?_), (h.rv i x L a1 a2).2⟩, h.rz⟩
  · have := (h.ov.lt b e).1
    omega
  · cases hc
    exact h.rz i x a1 b h1 h2
/-- What came in, as a row of slices. -/
theorem ts_sl {v : Value} (h : TS w v Ts) : ∃ vs : List SlT, GS slE w v vs ∧ vs.length = Ts.length ∧ ∀ (i : Nat) (x : SlT) (L : List Ru), vs[i]? = some x → Ts[i]? = some L → SR w (slV x) L := by
  rcases h with ⟨ao, cap, rfl, rfl⟩ | ⟨g, o, cap, rfl, h1, h2, h3⟩
  · exact ⟨[], .inl ⟨ao, cap, rfl, rfl⟩, rfl, fun i x L h => by simp at h⟩
  · have each : ∀ i, i < Ts.length → ∃ x : SlT, w.cell? ⟨g, o + i, none⟩ = some (slV x) ∧ SR w (slV x) (Ts.getD i []) := by
      intro i hi
      obtain ⟨ao, n, cap, c1, c2⟩ := h3 i hi
      refine ⟨(ao, n, cap), c1, ?_⟩
      rw [getT hi]
      exact c2
    have iR : Inhabited SlT := ⟨(none, 0, 0)⟩
    obtain ⟨R, hR⟩ := Go.Deep.choose_lt each
    refine ⟨(List.range Ts.length).map R, .inr ⟨g, o, cap, by simp, by simpa using h1, h2, fun i hi j u hu => ?_⟩, by simp, fun i x L a1 a2 => ?_⟩
    · have hi2 : i < Ts.length := by simpa using hi
      have e1 : ((List.range Ts.length).map R)[i] = R i := by simp
      rw [e1] at hu
      obtain rfl : j = 0 := by
        have := (List.getElem?_eq_some_iff.1 hu).1
        rw [slE.len] at this
        have e2 : slE.n = 1 := rfl
        omega
      have e3 : o + i * slE.n + 0 = o + i := by show o + i * 1 + 0 = o + i; omega
      have e4 : slV (R i) = u := Option.some.inj hu
      rw [e3, ← e4]
      exact (hR i hi2).1
    · have hi : i < Ts.length := (List.getElem?_eq_some_iff.1 a2).1
      have e1 : R i = x := by simpa [hi] using a1
      have e2 := (hR i hi).2
      rw [getT hi] at e2
      rw [List.getElem?_eq_getElem hi] at a2
      cases a2
      rw [← e1]
      exact e2
/-- A copy of what came in. -/
theorem tr_copy {w0 : World} {u : Value} (hlen : vs.length = Ts.length) (hsl : ∀ (i : Nat) (x : SlT) (L : List Ru), vs[i]? = some x → Ts[i]? = some L → SR w0 (slV x) L) (hb : Below w0.heap.size w0 w) (hg : w.grownBy w' none) (hB : w0.heap.size ≤ B) (ho : w'.ownsRow B e slE.n u vs.length (cellsG slE vs)) : TR e w' w0.heap.size B u vs Ts := by
  have each : ∀ (i : Nat) (x : SlT), vs[i]? = some x → ∃ L, Ts[i]? = some L := fun i x h => by
    have hi : i < Ts.length := by rw [← hlen]; exact (List.getElem?_eq_some_iff.1 h).1
    exact ⟨_, List.getElem?_eq_getElem hi⟩
  refine ⟨ho, hlen, fun i x L h1 h2 => ⟨((hsl i x L h1 h2).later hb).grown hg (fun b hb => by cases hb), fun b hb => (hsl i x L h1 h2).off (Nat.le_trans hB (ho.lt b hb).1)⟩, fun i x h1 b h2 h3 => ?_⟩
  obtain ⟨L, hL⟩ := each i x h1
  exact (hsl i x L h1 hL).off h2
/-- One table more, which lies elsewhere. -/
theorem TR.push (h : TR e w A B v vs Ts) {x : SlT} {L : List Ru} (hx : SR w (slV x) L) {v' : Value} (hox : ∀ b, v.ownBlock = some b → offB x b) (hoz : ∀ b, A ≤ b → b < B → offB x b)
    (hg : w.grownBy w' v.ownBlock) (ho : w'.ownsRow B e slE.n v' (vs ++ [x]).length (cellsG slE (vs ++ [x]))) (hb : v'.ownBlock = v.ownBlock ∨ v'.ownBlock = some w.heap.size) : TR e w' A B v' (vs ++ [x]) (Ts ++ [L]) := by
  have one : ∀ {y : SlT} {M : List Ru}, SR w (slV y) M → (∀ b, v.ownBlock = some b → offB y b) → SR w' (slV y) M ∧ ∀ b, v'.ownBlock = some b → offB y b := by
    intro y M h1 h2
    refine ⟨h1.grown hg h2, fun b hv => ?_⟩
    rcases hb with hb | hb
    · exact h2 b (by rw [← hb]; exact hv)
    · rw [hb] at hv
      cases hv
      exact h1.off (Nat.le_refl _)
  refine ⟨ho, by simp [h.lv], fun i y M h1 h2 => ?_, fun i y h1 => ?_⟩
  · by_cases hi : i < vs.length
    · rw [List.getElem?_append_left hi] at h1
      rw [List.getElem?_append_left (by rw [← h.lv]; exact hi)] at h2
      obtain ⟨a1, a2⟩ := h.rv i y M h1 h2
      exact one a1 a2
    · have hi2 : i = vs.length := by
        have := (List.getElem?_eq_some_iff.1 h1).1
        simp at this
        omega
      subst hi2
      simp at h1
      rw [h.lv] at h2
      simp at h2
      subst h1 h2
      exact one hx hox
  · by_cases hi : i < vs.length
    · rw [List.getElem?_append_left hi] at h1
      exact h.rz i y h1
    · have hi2 : i = vs.length := by
        have := (List.getElem?_eq_some_iff.1 h1).1
        simp at this
        omega
      subst hi2
      simp at h1
      subst h1
      exact hoz
/-- A table put in another one's place. -/
theorem TR.put {g n cap i : Nat} (h : TR e w A B (.slice (some ⟨g, 0, none⟩) n cap) vs Ts) {x : SlT} {L : List Ru} (hx : SR w (slV x) L) (hox : offB x g) (hoz : ∀ b, A ≤ b → b < B → offB x b) : TR e (w.setCell ⟨g, i, none⟩ (slV x)) A B (.slice (some ⟨g, 0, none⟩) n cap) (vs.set i x) (Ts.set i L) := by
  have hgw : w.grownBy (w.setCell ⟨g, i, none⟩ (slV x)) (some g) := grown_set w g i (slV x)
  refine ⟨?_, by simp [h.lv], fun j y M a1 a2 => ?_, fun j y a1 => ?_⟩
  · have h1 := h.ov
    have hn : n = vs.length := by
      rcases h1.2 with ⟨h3, _⟩ | ⟨_, _, _, h3, _⟩
      · cases h3
      · simp only [Value.slice.injEq] at h3
        exact h3.2.1
    rw [List.length_set, sl_cells, List.map_set]
    rw [sl_cells, ← hn] at h1
    rw [← hn]
    exact (h1.stored _ _).1
  · have hj : j < (vs.set i x).length := (List.getElem?_eq_some_iff.1 a1).1
    rw [List.length_set] at hj
    by_cases hij : i = j
    · subst hij
      rw [List.getElem?_set_self hj] at a1
      rw [List.getElem?_set_self (by rw [← h.lv]; exact hj)] at a2
      cases a1
      cases a2
      refine ⟨hx.grown hgw (fun b hb => by cases hb; exact hox), fun b hb => ?_⟩
      cases hb
      exact hox
    · rw [List.getElem?_set_ne hij] at a1 a2
      obtain ⟨b1, b2⟩ := h.rv j y M a1 a2
      exact ⟨b1.grown hgw (fun b hb => by cases hb; exact b2 g rfl), b2⟩
  · have hj : j < (vs.set i x).length := (List.getElem?_eq_some_iff.1 a1).1
    rw [List.length_set] at hj
    by_cases hij : i = j
    · subst hij
      rw [List.getElem?_set_self hj] at a1
      cases a1
      exact hoz
    · rw [List.getElem?_set_ne hij] at a1
      exact h.rz j y a1
theorem TR.ts (h : TR e w A B v vs Ts) : TS w v Ts := by
  rcases own_GS h.ov with ⟨ao, cap, rfl, h0⟩ | ⟨g, o, cap, rfl, h1, h2, h3⟩
  · refine .inl ⟨ao, cap, rfl, ?_⟩
    have := h.lv
    rw [h0] at this
    exact List.length_eq_zero_iff.1 this.symm
  · refine .inr ⟨g, o, cap, by rw [h.lv], by rw [← h.lv]; exact h1, h2, fun i hi => ?_⟩
    have hi2 : i < vs.length := by rw [h.lv]; exact hi
    have := h3 i hi2 0 _ rfl
    have e : o + i * slE.n + 0 = o + i := by show o + i * 1 + 0 = o + i; omega
    rw [e] at this
    exact ⟨_, _, _, this, (h.rv i _ _ (List.getElem?_eq_getElem hi2) (List.getElem?_eq_getElem hi)).1⟩
/-- Where the i-th table lies. -/
theorem TR.at {g n cap i : Nat} (h : TR e w A B (.slice (some ⟨g, 0, none⟩) n cap) vs Ts) (hi : i < Ts.length) : ∃ x : SlT, w.cell? ⟨g, i, none⟩ = some (slV x) ∧ SR w (slV x) (Ts.getD i []) ∧ w.frozen? ⟨g, i, none⟩ = false ∧ n = Ts.length ∧ B ≤ g ∧ g < w.heap.size := by
  have h1 := h.ov
  have hn : n = vs.length := by
    rcases h1.2 with ⟨h3, _⟩ | ⟨_, _, _, h3, _⟩
    · cases h3
    · simp only [Value.slice.injEq] at h3
      exact h3.2.1
  have hi2 : i < vs.length := by rw [h.lv]; exact hi
  rw [sl_cells, ← hn] at h1
  refine ⟨vs[i], ?_, ?_, h1.frozenAt i, by rw [hn, h.lv], (h1.lt g rfl).1, (h1.lt g rfl).2⟩
  · rw [h1.cellAt i (by show i < n * 1; omega)]
    simp [hi2]
  · rw [getT hi]
    exact (h.rv i _ _ (List.getElem?_eq_getElem hi2) (List.getElem?_eq_getElem hi)).1
end
end Go.Proofs.YtokkmnednhigmaeDoor
