/- Contracts and facts on the way to ChangeTells, joined into one text: ChangeSame, ChangeDiff, ChangeTurn, RefDo, RefCube. -/
import Derived.Test.YtokkmnednhigmaeDoorChangeTellsP7
import Derived.Test.YtokkmnednhigmaeDoorChangeTellsP6
import Derived.Test.YtokkmnednhigmaeDoorChangeTellsP5
import Derived.Test.YtokkmnednhigmaeDoorChangeTellsP4
import Derived.Test.YtokkmnednhigmaeDoorChangeTellsP2
import Derived.Test.YtokkmnednhigmaeDoorChangeTellsP1
import Derived.Deep.CutRange
import Derived.Deep.CutBlock
import Derived.RangeFuncNested
import Derived.RangeFuncBox
import Derived.RangeFuncBound
import Derived.RangeFuncCalls
import Derived.RangeFuncLeaves
import Derived.Shelf.Abstract
import Derived.Shelf.RegionOpen
import Derived.WalkKit
import Derived.OwnWalkIn
import Derived.TacticsInMore
import Derived.LoopNIn
import Derived.LoopIn
/- What change.Same answers, and what it asks: check, sameTopo, sameTable, slices.EqualFunc. -/
namespace Go.Proofs.YtokkmnednhigmaeDoor
open Go.RowKit
set_option linter.unusedSimpArgs false
set_option linter.unusedVariables false

/-- The fault of two nets, the first one ahead. -/
def nwN (S : Int) (Ls : List ((Int × Int) × (Int × Int))) (Hs : List (ByteArray × (Int × Int))) (Ts : List (List Ru)) (S' : Int) (Ls' : List ((Int × Int) × (Int × Int))) (Hs' : List (ByteArray × (Int × Int))) (Ts' : List (List Ru)) : Int :=
  if ntN S Ls Hs Ts = 0 then ntN S' Ls' Hs' Ts' else ntN S Ls Hs Ts
set_option maxHeartbeats 4000000 in
set_option maxRecDepth 100000 in
theorem chCheck_any (S : Int) (ao : Option Addr) (n cap : Nat) (ao2 : Option Addr) (n2 cap2 : Nat) (ao3 : Option Addr) (n3 cap3 : Nat) (S' : Int) (bo : Option Addr) (m dap : Nat) (bo2 : Option Addr) (m2 dap2 : Nat) (bo3 : Option Addr) (m3 dap3 : Nat) (Ls : List ((Int × Int) × (Int × Int))) (Hs : List (ByteArray × (Int × Int))) (Ts : List (List Ru)) (Ls' : List ((Int × Int) × (Int × Int))) (Hs' : List (ByteArray × (Int × Int))) (Ts' : List (List Ru)) (w : World)
    (hL : GS lnkE w (.slice ao n cap) Ls) (hH : GS hstE w (.slice ao2 n2 cap2) Hs) (hT : TS w (.slice ao3 n3 cap3) Ts) (hL' : GS lnkE w (.slice bo m dap) Ls') (hH' : GS hstE w (.slice bo2 m2 dap2) Hs') (hT' : TS w (.slice bo3 m3 dap3) Ts') :
    Calls Tryd.prog 28 #[.agg #[.int .i64 S, .slice ao n cap, .slice ao2 n2 cap2, .slice ao3 n3 cap3], .agg #[.int .i64 S', .slice bo m dap, .slice bo2 m2 dap2, .slice bo3 m3 dap3]] w fun e w' => e = .returned (noV (nwN S Ls Hs Ts S' Ls' Hs' Ts')) ∧ Below w.heap.size w w' := by
  have hb0 : Below w.heap.size w ((w.alloc (Obj.cells #[.int .i64 S, .slice ao n cap, .slice ao2 n2 cap2, .slice ao3 n3 cap3] 28)).alloc (Obj.cells #[.int .i64 S', .slice bo m dap, .slice bo2 m2 dap2, .slice bo3 m3 dap3] 28)) := ((Below.refl _ _).alloc (Nat.le_refl _) _).alloc (by simp) _
  have HNN := nn_new w S (.slice ao n cap) (.slice ao2 n2 cap2) (.slice ao3 n3 cap3) S' (.slice bo m dap) (.slice bo2 m2 dap2) (.slice bo3 m3 dap3) 28
  have HB0 : Hid (Below w.heap.size w ((w.alloc (Obj.cells #[.int .i64 S, .slice ao n cap, .slice ao2 n2 cap2, .slice ao3 n3 cap3] 28)).alloc (Obj.cells #[.int .i64 S', .slice bo m dap, .slice bo2 m2 dap2, .slice bo3 m3 dap3] 28))) := hb0
  have HW : Hid (∀ W, Below w.heap.size w W → (GS lnkE W (.slice ao n cap) Ls ∧ GS hstE W (.slice ao2 n2 cap2) Hs ∧ TS W (.slice ao3 n3 cap3) Ts) ∧ GS lnkE W (.slice bo m dap) Ls' ∧ GS hstE W (.slice bo2 m2 dap2) Hs' ∧ TS W (.slice bo3 m3 dap3) Ts') := fun W h => ⟨⟨hL.later h, hH.later h, hT.later h⟩, hL'.later h, hH'.later h, hT'.later h⟩
  obtain ⟨X, hX⟩ : ∃ X, X = nwN S Ls Hs Ts S' Ls' Hs' Ts' := ⟨_, rfl⟩
  have HX : Hid (X = nwN S Ls Hs Ts S' Ls' Hs' Ts') := hX
  rw [← hX]
  clear hL hH hT hL' hH' hT' hb0 hX
  go_enter Tryd.func28, Tryd.ntmps28
  go_wp2_with fail
  refine (ncheck_any S ao n cap ao2 n2 cap2 ao3 n3 cap3 Ls Hs Ts _ (HW.out _ HB0.out).1.1 (HW.out _ HB0.out).1.2.1 (HW.out _ HB0.out).1.2.2).mono ?_
  rintro e w1 ⟨rfl, hb1⟩
  obtain ⟨C, hC⟩ : ∃ C, C = ntN S Ls Hs Ts := ⟨_, rfl⟩
  have HC : Hid (C = ntN S Ls Hs Ts) := hC
  rw [← hC]
  have HB1 : Hid (Below w.heap.size w w1) := HB0.out.trans (hb1.mono HB0.out.size)
  obtain ⟨⟨p0, p1, p2, p3⟩, s0, s1, s2, s3⟩ := HNN.later hb1
  have hlt1 : w.heap.size < w1.heap.size := World.block_lt_of_cell? _ _ p0
  have hlt2 : w.heap.size + 1 < w1.heap.size := World.block_lt_of_cell? _ _ s0
  clear hC hb1 HNN HB0
  by_cases h0 : C = 0
  · subst h0
    rw [no_ok rfl]
    have HX2 : Hid (X = ntN S' Ls' Hs' Ts') := by
      show _ = _
      rw [HX.out, nwN, if_pos HC.out.symm]
    go_wp2_with fail
    refine (ncheck_any S' bo m dap bo2 m2 dap2 bo3 m3 dap3 Ls' Hs' Ts' _ (HW.out _ HB1.out).2.1 (HW.out _ HB1.out).2.2.1 (HW.out _ HB1.out).2.2.2).mono ?_
    rintro e w2 ⟨rfl, hb2⟩
    have HB2 : Hid (Below w.heap.size w w2) := HB1.out.trans (hb2.mono HB1.out.size)
    rw [← HX2.out]
    clear hb2 p0 p1 p2 p3 s0 s1 s2 s3
    go_wp2
    go_ret
    exact ⟨rfl, HB2.out⟩
  · have HNZ : Hid (C ≠ 0) := h0
    have HX2 : Hid (X = C) := by
      show _ = _
      rw [HX.out, nwN, ← HC.out, if_neg h0]
    rw [no_ne h0]
    clear h0
    go_wp2
    go_ret
    exact ⟨by rw [HX2.out, no_ne HNZ.out]; rfl, HB1.out⟩
set_option maxHeartbeats 1000000 in
theorem sameTable_any (ao : Option Addr) (n cap : Nat) (ao2 : Option Addr) (n2 cap2 : Nat) (L M : List Ru) (w : World) (hs : SR w (.slice ao n cap) L) (ht : SR w (.slice ao2 n2 cap2) M) (h0 : twN L M = 0) :
    Calls Tryd.prog 32 #[.slice ao n cap, .slice ao2 n2 cap2] w fun e w' => e = .returned (.bool (smB L M)) ∧ Below w.heap.size w w' := by
  go_enter Tryd.func32, Tryd.ntmps32
  go_wp2_with fail
  refine (same_any2 ao n cap ao2 n2 cap2 L M w hs ht).mono ?_
  rintro e w1 ⟨rfl, hb1⟩
  rw [no_ok h0]
  obtain ⟨B, hB⟩ : ∃ B, B = smB L M := ⟨_, rfl⟩
  rw [← hB]
  have HB : Hid (Below w.heap.size w w1) := hb1
  have HE : Hid (B = smB L M) := hB
  clear hB hb1 hs ht h0
  go_wp2
  go_ret
  exact ⟨by rw [← HE.out]; rfl, HB.out⟩
/-- Are all tables the Same, as many of the one as of the other? -/
def etB (As Bs : List (List Ru)) : Bool := decide (As.length = Bs.length) && csB As Bs As.length
theorem cs_no {As Bs : List (List Ru)} {k n : Nat} (hk : k < n) (h : smB (As.getD k []) (Bs.getD k []) = false) : csB As Bs n = false := by
  cases e : csB As Bs n
  · rfl
  · have := cs_iff.1 e k hk
    rw [h] at this
    cases this
set_option maxHeartbeats 4000000 in
set_option maxRecDepth 100000 in
theorem eqTabs_any (ao : Option Addr) (n cap : Nat) (ao2 : Option Addr) (n2 cap2 : Nat) (As Bs : List (List Ru)) (w : World) (hs : TS w (.slice ao n cap) As) (ht : TS w (.slice ao2 n2 cap2) Bs) (htw : ∀ j, j < As.length → j < Bs.length → twN (As.getD j []) (Bs.getD j []) = 0) :
    Calls Tryd.prog 31 #[.slice ao n cap, .slice ao2 n2 cap2, .func (.func 32) #[] #[]] w fun e w' => e = .returned (.bool (etB As Bs)) ∧ Below w.heap.size w w' := by
  obtain ⟨_, _, _, e, hn, hn2, hn3, ha⟩ := hs.form
  cases e
  obtain ⟨_, _, _, e, hm, hm2, hm3, hb⟩ := ht.form
  cases e
  have HN : Hid (As.length = n) := hn
  have HM : Hid (Bs.length = n2) := hm
  have HA : Hid (0 < n → ∃ g o, ao = some ⟨g, o, none⟩ ∧ TAt w g o As ∧ cap ≤ maxLen) := ha
  have HA2 : Hid (0 < n2 → ∃ g o, ao2 = some ⟨g, o, none⟩ ∧ TAt w g o Bs ∧ cap2 ≤ maxLen) := hb
  have HTW : Hid (∀ j, j < As.length → j < Bs.length → twN (As.getD j []) (Bs.getD j []) = 0) := htw
  have hn63 : n ≤ 9223372036854775807 := by unfold maxLen at hn2; omega
  clear hs ht hn ha hm hb hn2 hm2 htw
  obtain ⟨R, hR⟩ : ∃ R, R = etB As Bs := ⟨_, rfl⟩
  have HR : Hid (R = etB As Bs) := hR
  rw [← hR]
  clear hR
  by_cases hl : n = n2
  · subst hl
    have HRC : Hid (R = csB As Bs n) := by
      show _ = _
      rw [HR.out, etB, HN.out, HM.out]
      simp
    go_enter Tryd.func31, Tryd.ntmps31
    go_wp2
    go_loopw [17] (fun i wr => ∃ k : Nat, k ≤ n ∧ i = .int .i64 k ∧ csB As Bs k = true ∧ Below w.heap.size w wr) (fun i _ => n - (intOf i).toNat)
    case atStart => exact ⟨0, by omega, rfl, rfl, Below.refl _ _⟩
    case round =>
      obtain ⟨k, hk, rfl, hall, hB⟩ := hrel
      have HB : Hid (Below w.heap.size w wr) := hB
      have HALL : Hid (csB As Bs k = true) := hall
      clear hall
      by_cases hlt : k < n
      · obtain ⟨g, og, hao, hc, _⟩ := HA.out (by omega)
        obtain ⟨f, of, hbo, hd, _⟩ := HA2.out (by omega)
        subst hao hbo
        have hkA : k < As.length := by rw [HN.out]; exact hlt
        have hkB : k < Bs.length := by rw [HM.out]; exact hlt
        obtain ⟨a3, l3, c3, r0, hG3⟩ := (hc.later hB) k hkA
        obtain ⟨a4, l4, c4, r1, hG4⟩ := (hd.later hB) k hkB
        rw [← getT hkA] at hG3
        rw [← getT hkB] at hG4
        have HG3 : Hid (SR wr (.slice a3 l3 c3) (As.getD k [])) := hG3
        have HG4 : Hid (SR wr (.slice a4 l4 c4) (Bs.getD k [])) := hG4
        have kb0 : (0 : Int) ≤ (k : Int) := by omega
        have kb1 : (k : Int) < (n : Int) := by omega
        have HT0 : Hid (twN (As.getD k []) (Bs.getD k []) = 0) := HTW.out k hkA hkB
        clear hc hd hB hG3 hG4
        go_wp2_with fail
        refine (sameTable_any a3 l3 c3 a4 l4 c4 _ _ wr HG3.out HG4.out HT0.out).mono ?_
        rintro e w2 ⟨rfl, hb2⟩
        have HB2 : Hid (Below w.heap.size w w2) := HB.out.trans (hb2.mono HB.out.size)
        obtain ⟨T, hT⟩ : ∃ T, T = smB (As.getD k []) (Bs.getD k []) := ⟨_, rfl⟩
        have HT : Hid (T = smB (As.getD k []) (Bs.getD k [])) := hT
        rw [← hT]
        clear hb2 hT r0 r1
        cases T with
        | false =>
          have HF : Hid (R = false) := by
            show _ = _
            rw [HRC.out]
            exact cs_no hlt HT.out.symm
          go_wp2
          go_ret
          exact ⟨by rw [HF.out]; rfl, HB2.out⟩
        | true =>
          have HC2 : Hid (csB As Bs (k + 1) = true) := by
            show _ = _
            rw [csB, HALL.out, ← HT.out]
            rfl
          go_wp2
          go_roundw
          case rel => exact ⟨k + 1, by omega, by go_num, HC2.out, HB2.out⟩
          case measure => simp [intOf]; omega
      · obtain rfl : k = n := by omega
        have HF : Hid (R = true) := by
          show _ = _
          rw [HRC.out, HALL.out]
        go_wp2
        go_ret
        exact ⟨by rw [HF.out]; rfl, HB.out⟩
  · have HF : Hid (R = false) := by
      show _ = _
      rw [HR.out, etB, HN.out, HM.out]
      simp [hl]
    have e1 : ((n : Int) == (n2 : Int)) = false := beq_eq_false_iff_ne.2 (by omega)
    have e2 : ((n : Int) != (n2 : Int)) = true := by simp; omega
    go_enter Tryd.func31, Tryd.ntmps31
    go_wp2
    go_ret
    exact ⟨by rw [HF.out]; rfl, Below.refl _ _⟩
set_option maxHeartbeats 4000000 in
set_option maxRecDepth 100000 in
theorem sameTopo_any (S : Int) (ao : Option Addr) (n cap : Nat) (ao2 : Option Addr) (n2 cap2 : Nat) (Ls : List ((Int × Int) × (Int × Int))) (Hs : List (ByteArray × (Int × Int))) (S' : Int) (bo : Option Addr) (m cap3 : Nat) (bo2 : Option Addr) (m2 cap4 : Nat) (Ls' : List ((Int × Int) × (Int × Int))) (Hs' : List (ByteArray × (Int × Int))) (w : World)
    (hL : GS lnkE w (.slice ao n cap) Ls) (hH : GS hstE w (.slice ao2 n2 cap2) Hs) (hL' : GS lnkE w (.slice bo m cap3) Ls') (hH' : GS hstE w (.slice bo2 m2 cap4) Hs') :
    Calls Tryd.prog 29 #[.agg #[.int .i64 S, .slice ao n cap, .slice ao2 n2 cap2], .agg #[.int .i64 S', .slice bo m cap3, .slice bo2 m2 cap4]] w fun e w' => e = .returned (.bool (tpB S S' Ls Ls' Hs Hs')) ∧ Below w.heap.size w w' := by
  have hb0 : Below w.heap.size w ((w.alloc (Obj.cells #[.int .i64 S, .slice ao n cap, .slice ao2 n2 cap2] 25)).alloc (Obj.cells #[.int .i64 S', .slice bo m cap3, .slice bo2 m2 cap4] 25)) := ((Below.refl _ _).alloc (Nat.le_refl _) _).alloc (by simp) _
  have HTT := tt_new w S S' (.slice ao n cap) (.slice ao2 n2 cap2) (.slice bo m cap3) (.slice bo2 m2 cap4) 25
  have HB0 : Hid (Below w.heap.size w ((w.alloc (Obj.cells #[.int .i64 S, .slice ao n cap, .slice ao2 n2 cap2] 25)).alloc (Obj.cells #[.int .i64 S', .slice bo m cap3, .slice bo2 m2 cap4] 25))) := hb0
  have HW : Hid (∀ W, Below w.heap.size w W → (GS lnkE W (.slice ao n cap) Ls ∧ GS hstE W (.slice ao2 n2 cap2) Hs) ∧ GS lnkE W (.slice bo m cap3) Ls' ∧ GS hstE W (.slice bo2 m2 cap4) Hs') := fun W h => ⟨⟨hL.later h, hH.later h⟩, hL'.later h, hH'.later h⟩
  clear hL hH hL' hH' hb0
  by_cases hS : S = S'
  · subst hS
    have e1 : (S == S) = true := by simp
    have HE : Hid (tpB S S Ls Ls' Hs Hs' = (smG lnkB Ls Ls' && smG hstB Hs Hs')) := by
      show _ = _
      simp [tpB]
    rw [HE.out]
    go_enter Tryd.func29, Tryd.ntmps29
    go_wp2_with fail
    refine (lnk_equal ao n cap bo m cap3 Ls Ls' _ (HW.out _ HB0.out).1.1 (HW.out _ HB0.out).2.1).mono ?_
    rintro e w1 ⟨rfl, hb1⟩
    have HB1 : Hid (Below w.heap.size w w1) := HB0.out.trans (hb1.mono HB0.out.size)
    obtain ⟨⟨p0, p1, p2⟩, s0, s1, s2⟩ := HTT.later hb1
    have hlt1 : w.heap.size < w1.heap.size := World.block_lt_of_cell? _ _ p0
    have hlt2 : w.heap.size + 1 < w1.heap.size := World.block_lt_of_cell? _ _ s0
    obtain ⟨b1, hb⟩ : ∃ b, b = smG lnkB Ls Ls' := ⟨_, rfl⟩
    have HBE : Hid (smG lnkB Ls Ls' = b1) := hb.symm
    rw [HBE.out]
    clear hb hb1 HB0 HTT
    cases b1 with
    | false =>
      go_wp2
      go_ret
      exact ⟨by rw [HBE.out]; rfl, HB1.out⟩
    | true =>
      go_wp2_with fail
      refine (hst_equal ao2 n2 cap2 bo2 m2 cap4 Hs Hs' _ (HW.out _ HB1.out).1.2 (HW.out _ HB1.out).2.2).mono ?_
      rintro e w2 ⟨rfl, hb2⟩
      have HB2 : Hid (Below w.heap.size w w2) := HB1.out.trans (hb2.mono HB1.out.size)
      obtain ⟨b2, hb⟩ : ∃ b, b = smG hstB Hs Hs' := ⟨_, rfl⟩
      have HB3 : Hid (smG hstB Hs Hs' = b2) := hb.symm
      rw [HB3.out]
      clear hb hb2 p0 p1 p2 s0 s1 s2
      go_wp2
      go_ret
      exact ⟨by rw [HBE.out, HB3.out]; rfl, HB2.out⟩
  · have e1 : (S == S') = false := by simpa using hS
    have HE : Hid (tpB S S' Ls Ls' Hs Hs' = false) := by
      show _ = _
      simp [tpB, hS]
    rw [HE.out]
    clear hS
    go_enter Tryd.func29, Tryd.ntmps29
    go_wp2
    go_ret
    exact ⟨rfl, HB0.out⟩
/-- Are two nets the same? -/
def nsB (S : Int) (Ls : List ((Int × Int) × (Int × Int))) (Hs : List (ByteArray × (Int × Int))) (Ts : List (List Ru)) (S' : Int) (Ls' : List ((Int × Int) × (Int × Int))) (Hs' : List (ByteArray × (Int × Int))) (Ts' : List (List Ru)) : Bool :=
  decide (nwN S Ls Hs Ts S' Ls' Hs' Ts' = 0) && (tpB S S' Ls Ls' Hs Hs' && etB Ts Ts')
theorem nw_two {S : Int} {Ls : List ((Int × Int) × (Int × Int))} {Hs : List (ByteArray × (Int × Int))} {Ts : List (List Ru)} {S' : Int} {Ls' : List ((Int × Int) × (Int × Int))} {Hs' : List (ByteArray × (Int × Int))} {Ts' : List (List Ru)} (h : nwN S Ls Hs Ts S' Ls' Hs' Ts' = 0) : ntN S Ls Hs Ts = 0 ∧ ntN S' Ls' Hs' Ts' = 0 := by
  unfold nwN at h
  by_cases e : ntN S Ls Hs Ts = 0
  · rw [if_pos e] at h; exact ⟨e, h⟩
  · rw [if_neg e] at h; exact absurd h e
theorem nw_tw {S : Int} {Ls : List ((Int × Int) × (Int × Int))} {Hs : List (ByteArray × (Int × Int))} {Ts : List (List Ru)} {S' : Int} {Ls' : List ((Int × Int) × (Int × Int))} {Hs' : List (ByteArray × (Int × Int))} {Ts' : List (List Ru)} (h : nwN S Ls Hs Ts S' Ls' Hs' Ts' = 0) (j : Nat) (h1 : j < Ts.length) (h2 : j < Ts'.length) : twN (Ts.getD j []) (Ts'.getD j []) = 0 := by
  obtain ⟨a, b⟩ := nw_two h
  rw [twN, if_pos ((nt_0 a).2.2 j h1), (nt_0 b).2.2 j h2]
set_option maxHeartbeats 4000000 in
set_option maxRecDepth 100000 in
theorem chSame_any (S : Int) (ao : Option Addr) (n cap : Nat) (ao2 : Option Addr) (n2 cap2 : Nat) (ao3 : Option Addr) (n3 cap3 : Nat) (S' : Int) (bo : Option Addr) (m dap : Nat) (bo2 : Option Addr) (m2 dap2 : Nat) (bo3 : Option Addr) (m3 dap3 : Nat) (Ls : List ((Int × Int) × (Int × Int))) (Hs : List (ByteArray × (Int × Int))) (Ts : List (List Ru)) (Ls' : List ((Int × Int) × (Int × Int))) (Hs' : List (ByteArray × (Int × Int))) (Ts' : List (List Ru)) (w : World)
    (hL : GS lnkE w (.slice ao n cap) Ls) (hH : GS hstE w (.slice ao2 n2 cap2) Hs) (hT : TS w (.slice ao3 n3 cap3) Ts) (hL' : GS lnkE w (.slice bo m dap) Ls') (hH' : GS hstE w (.slice bo2 m2 dap2) Hs') (hT' : TS w (.slice bo3 m3 dap3) Ts') :
    Calls Tryd.prog 14 #[.agg #[.int .i64 S, .slice ao n cap, .slice ao2 n2 cap2, .slice ao3 n3 cap3], .agg #[.int .i64 S', .slice bo m dap, .slice bo2 m2 dap2, .slice bo3 m3 dap3]] w fun e w' => e = .returned (.tuple #[.bool (nsB S Ls Hs Ts S' Ls' Hs' Ts'), noV (nwN S Ls Hs Ts S' Ls' Hs' Ts')]) ∧ Below w.heap.size w w' := by
  have hb0 : Below w.heap.size w ((w.alloc (Obj.cells #[.int .i64 S, .slice ao n cap, .slice ao2 n2 cap2, .slice ao3 n3 cap3] 28)).alloc (Obj.cells #[.int .i64 S', .slice bo m dap, .slice bo2 m2 dap2, .slice bo3 m3 dap3] 28)) := ((Below.refl _ _).alloc (Nat.le_refl _) _).alloc (by simp) _
  have HNN := nn_new w S (.slice ao n cap) (.slice ao2 n2 cap2) (.slice ao3 n3 cap3) S' (.slice bo m dap) (.slice bo2 m2 dap2) (.slice bo3 m3 dap3) 28
  have HB0 : Hid (Below w.heap.size w ((w.alloc (Obj.cells #[.int .i64 S, .slice ao n cap, .slice ao2 n2 cap2, .slice ao3 n3 cap3] 28)).alloc (Obj.cells #[.int .i64 S', .slice bo m dap, .slice bo2 m2 dap2, .slice bo3 m3 dap3] 28))) := hb0
  have HW : Hid (∀ W, Below w.heap.size w W → (GS lnkE W (.slice ao n cap) Ls ∧ GS hstE W (.slice ao2 n2 cap2) Hs ∧ TS W (.slice ao3 n3 cap3) Ts) ∧ GS lnkE W (.slice bo m dap) Ls' ∧ GS hstE W (.slice bo2 m2 dap2) Hs' ∧ TS W (.slice bo3 m3 dap3) Ts') := fun W h => ⟨⟨hL.later h, hH.later h, hT.later h⟩, hL'.later h, hH'.later h, hT'.later h⟩
  obtain ⟨X, hX⟩ : ∃ X, X = nwN S Ls Hs Ts S' Ls' Hs' Ts' := ⟨_, rfl⟩
  have HX : Hid (X = nwN S Ls Hs Ts S' Ls' Hs' Ts') := hX
  obtain ⟨R, hR⟩ : ∃ R, R = nsB S Ls Hs Ts S' Ls' Hs' Ts' := ⟨_, rfl⟩
  have HR : Hid (R = (decide (X = 0) && (tpB S S' Ls Ls' Hs Hs' && etB Ts Ts'))) := by
    show _ = _
    rw [hR, nsB, hX]
  rw [← hX, ← hR]
  clear hL hH hT hL' hH' hT' hb0 hX hR
  go_enter Tryd.func14, Tryd.ntmps14
  go_wp2_with fail
  refine (chCheck_any S ao n cap ao2 n2 cap2 ao3 n3 cap3 S' bo m dap bo2 m2 dap2 bo3 m3 dap3 Ls Hs Ts Ls' Hs' Ts' _ (HW.out _ HB0.out).1.1 (HW.out _ HB0.out).1.2.1 (HW.out _ HB0.out).1.2.2 (HW.out _ HB0.out).2.1 (HW.out _ HB0.out).2.2.1 (HW.out _ HB0.out).2.2.2).mono ?_
  rintro e w1 ⟨rfl, hb1⟩
  rw [← HX.out]
  have HB1 : Hid (Below w.heap.size w w1) := HB0.out.trans (hb1.mono HB0.out.size)
  have HN1 := HNN.later hb1
  obtain ⟨⟨p0, p1, p2, p3⟩, s0, s1, s2, s3⟩ := HN1
  have HNH : Hid (NN w1 w.heap.size S (.slice ao n cap) (.slice ao2 n2 cap2) (.slice ao3 n3 cap3) S' (.slice bo m dap) (.slice bo2 m2 dap2) (.slice bo3 m3 dap3)) := HNN.later hb1
  have hlt1 : w.heap.size < w1.heap.size := World.block_lt_of_cell? _ _ p0
  have hlt2 : w.heap.size + 1 < w1.heap.size := World.block_lt_of_cell? _ _ s0
  clear hb1 HNN HB0
  by_cases h0 : X = 0
  · subst h0
    rw [no_ok rfl]
    go_wp2_with fail
    refine (sameTopo_any S ao n cap ao2 n2 cap2 Ls Hs S' bo m dap bo2 m2 dap2 Ls' Hs' _ (HW.out _ HB1.out).1.1 (HW.out _ HB1.out).1.2.1 (HW.out _ HB1.out).2.1 (HW.out _ HB1.out).2.2.1).mono ?_
    rintro e w2 ⟨rfl, hb2⟩
    have HB2 : Hid (Below w.heap.size w w2) := HB1.out.trans (hb2.mono HB1.out.size)
    clear p0 p1 p2 p3 s0 s1 s2 s3 hlt1 hlt2
    obtain ⟨⟨p0, p1, p2, p3⟩, s0, s1, s2, s3⟩ := HNH.out.later hb2
    have hlt1 : w.heap.size < w2.heap.size := World.block_lt_of_cell? _ _ p0
    have hlt2 : w.heap.size + 1 < w2.heap.size := World.block_lt_of_cell? _ _ s0
    obtain ⟨b1, hb⟩ : ∃ b, b = tpB S S' Ls Ls' Hs Hs' := ⟨_, rfl⟩
    have HBE : Hid (tpB S S' Ls Ls' Hs Hs' = b1) := hb.symm
    rw [HBE.out]
    clear hb hb2 HNH
    cases b1 with
    | false =>
      have HRF : Hid (R = false) := by
        show _ = _
        rw [HR.out, HBE.out]
        simp
      go_wp2
      refine bodyPost_ret (v := .tuple #[.bool false, .nilIface]) (by simp [results, Tryd.results14, go_sem]) rfl ?_
      exact ⟨by rw [HRF.out]; rfl, HB2.out⟩
    | true =>
      go_wp2_with fail
      refine (eqTabs_any ao3 n3 cap3 bo3 m3 dap3 Ts Ts' w2 (HW.out _ HB2.out).1.2.2 (HW.out _ HB2.out).2.2.2 (nw_tw HX.out.symm)).mono ?_
      rintro e w3 ⟨rfl, hb3⟩
      have HB3 : Hid (Below w.heap.size w w3) := HB2.out.trans (hb3.mono HB2.out.size)
      obtain ⟨b2, hb⟩ : ∃ b, b = etB Ts Ts' := ⟨_, rfl⟩
      have HB4 : Hid (etB Ts Ts' = b2) := hb.symm
      rw [HB4.out]
      have HRF : Hid (R = b2) := by
        show _ = _
        rw [HR.out, HBE.out, HB4.out]
        simp
      clear hb hb3 p0 p1 p2 p3 s0 s1 s2 s3
      go_wp2
      refine bodyPost_ret (v := .tuple #[.bool b2, .nilIface]) (by simp [results, Tryd.results14, go_sem]) rfl ?_
      exact ⟨by rw [HRF.out]; rfl, HB3.out⟩
  · have HNZ : Hid (X ≠ 0) := h0
    have HRF : Hid (R = false) := by
      show _ = _
      rw [HR.out]
      simp [h0]
    rw [no_ne h0]
    clear h0
    go_wp2
    refine bodyPost_ret (v := .tuple #[.bool false, .iface 63 (.int .i64 X)]) (by simp [results, Tryd.results14, go_sem]) rfl ?_
    exact ⟨by rw [HRF.out, no_ne HNZ.out], HB1.out⟩
end Go.Proofs.YtokkmnednhigmaeDoor
/- What change.Diff answers: what is between two nets. -/
namespace Go.Proofs.YtokkmnednhigmaeDoor
open Go.RowKit
set_option linter.unusedSimpArgs false
set_option linter.unusedVariables false

/-- The fault of what is between two nets, and what is. -/
def diN (S : Int) (Ls : List ((Int × Int) × (Int × Int))) (Hs : List (ByteArray × (Int × Int))) (Ts : List (List Ru)) (S' : Int) (Ls' : List ((Int × Int) × (Int × Int))) (Hs' : List (ByteArray × (Int × Int))) (Ts' : List (List Ru)) : Int :=
  if nwN S Ls Hs Ts S' Ls' Hs' Ts' = 0 then (if tpB S S' Ls Ls' Hs Hs' = true then 0 else 3) else nwN S Ls Hs Ts S' Ls' Hs' Ts'
def diL (S : Int) (Ls : List ((Int × Int) × (Int × Int))) (Hs : List (ByteArray × (Int × Int))) (Ts : List (List Ru)) (S' : Int) (Ls' : List ((Int × Int) × (Int × Int))) (Hs' : List (ByteArray × (Int × Int))) (Ts' : List (List Ru)) : List Op8 :=
  if diN S Ls Hs Ts S' Ls' Hs' Ts' = 0 then cdL Ts Ts' Ts.length else []
theorem of_next {w : Int} {D : List Op8} {k : Nat} (hk : k < D.length) (C : List Op8) : C ++ ofS w (D.take (k + 1)) = (C ++ ofS w (D.take k)) ++ [⟨w, D[k].a, D[k].r⟩] := by
  rw [List.take_succ_eq_append_getElem hk]
  simp only [ofS, List.map_append, List.map_cons, List.map_nil, List.append_assoc]
set_option maxHeartbeats 8000000 in
set_option maxRecDepth 100000 in
theorem chDiff_any (S : Int) (ao : Option Addr) (n cap : Nat) (ao2 : Option Addr) (n2 cap2 : Nat) (ao3 : Option Addr) (n3 cap3 : Nat) (S' : Int) (bo : Option Addr) (m dap : Nat) (bo2 : Option Addr) (m2 dap2 : Nat) (bo3 : Option Addr) (m3 dap3 : Nat) (Ls : List ((Int × Int) × (Int × Int))) (Hs : List (ByteArray × (Int × Int))) (Ts : List (List Ru)) (Ls' : List ((Int × Int) × (Int × Int))) (Hs' : List (ByteArray × (Int × Int))) (Ts' : List (List Ru)) (w : World)
    (hL : GS lnkE w (.slice ao n cap) Ls) (hH : GS hstE w (.slice ao2 n2 cap2) Hs) (hT : TS w (.slice ao3 n3 cap3) Ts) (hL' : GS lnkE w (.slice bo m dap) Ls') (hH' : GS hstE w (.slice bo2 m2 dap2) Hs') (hT' : TS w (.slice bo3 m3 dap3) Ts') :
    Calls Tryd.prog 12 #[.agg #[.int .i64 S, .slice ao n cap, .slice ao2 n2 cap2, .slice ao3 n3 cap3], .agg #[.int .i64 S', .slice bo m dap, .slice bo2 m2 dap2, .slice bo3 m3 dap3]] w fun e w' => ∃ v, e = .returned (.tuple #[v, noV (diN S Ls Hs Ts S' Ls' Hs' Ts')]) ∧ NO w' w.heap.size v (diL S Ls Hs Ts S' Ls' Hs' Ts') ∧ Below w.heap.size w w' := by
  have hb0 : Below w.heap.size w ((w.alloc (Obj.cells #[.int .i64 S, .slice ao n cap, .slice ao2 n2 cap2, .slice ao3 n3 cap3] 28)).alloc (Obj.cells #[.int .i64 S', .slice bo m dap, .slice bo2 m2 dap2, .slice bo3 m3 dap3] 28)) := ((Below.refl _ _).alloc (Nat.le_refl _) _).alloc (by simp) _
  have HNN := nn_new w S (.slice ao n cap) (.slice ao2 n2 cap2) (.slice ao3 n3 cap3) S' (.slice bo m dap) (.slice bo2 m2 dap2) (.slice bo3 m3 dap3) 28
  have HB0 : Hid (Below w.heap.size w ((w.alloc (Obj.cells #[.int .i64 S, .slice ao n cap, .slice ao2 n2 cap2, .slice ao3 n3 cap3] 28)).alloc (Obj.cells #[.int .i64 S', .slice bo m dap, .slice bo2 m2 dap2, .slice bo3 m3 dap3] 28))) := hb0
  have HW : Hid (∀ W, Below w.heap.size w W → (GS lnkE W (.slice ao n cap) Ls ∧ GS hstE W (.slice ao2 n2 cap2) Hs ∧ TS W (.slice ao3 n3 cap3) Ts) ∧ GS lnkE W (.slice bo m dap) Ls' ∧ GS hstE W (.slice bo2 m2 dap2) Hs' ∧ TS W (.slice bo3 m3 dap3) Ts') := fun W h => ⟨⟨hL.later h, hH.later h, hT.later h⟩, hL'.later h, hH'.later h, hT'.later h⟩
  obtain ⟨_, _, _, e, gn, gn2, gn3, ga⟩ := hT.form
  cases e
  obtain ⟨_, _, _, e, gm, gm2, gm3, gb⟩ := hT'.form
  cases e
  have HN : Hid (Ts.length = n3) := gn
  have HM : Hid (Ts'.length = m3) := gm
  have HA : Hid (0 < n3 → ∃ g o, ao3 = some ⟨g, o, none⟩ ∧ TAt w g o Ts ∧ cap3 ≤ maxLen) := ga
  have HA2 : Hid (0 < m3 → ∃ g o, bo3 = some ⟨g, o, none⟩ ∧ TAt w g o Ts' ∧ dap3 ≤ maxLen) := gb
  have n63 : n3 ≤ 9223372036854775807 := by unfold maxLen at gn2; omega
  obtain ⟨C, hC⟩ : ∃ X, X = nwN S Ls Hs Ts S' Ls' Hs' Ts' := ⟨_, rfl⟩
  have HC : Hid (C = nwN S Ls Hs Ts S' Ls' Hs' Ts') := hC
  obtain ⟨X, hX⟩ : ∃ X, X = diN S Ls Hs Ts S' Ls' Hs' Ts' := ⟨_, rfl⟩
  obtain ⟨R, hR⟩ : ∃ X, X = diL S Ls Hs Ts S' Ls' Hs' Ts' := ⟨_, rfl⟩
  have HX : Hid (X = if C = 0 then (if tpB S S' Ls Ls' Hs Hs' = true then 0 else 3) else C) := by
    show _ = _
    rw [hX, diN, hC]
  have HR : Hid (R = if X = 0 then cdL Ts Ts' Ts.length else []) := by
    show _ = _
    rw [hR, diL, hX]
  rw [← hX, ← hR]
  clear hL hH hT hL' hH' hT' hb0 hX hR hC gn gn2 ga gm gm2 gb
  go_enter Tryd.func12, Tryd.ntmps12
  go_wp2_with fail
  refine (chCheck_any S ao n cap ao2 n2 cap2 ao3 n3 cap3 S' bo m dap bo2 m2 dap2 bo3 m3 dap3 Ls Hs Ts Ls' Hs' Ts' _ (HW.out _ HB0.out).1.1 (HW.out _ HB0.out).1.2.1 (HW.out _ HB0.out).1.2.2 (HW.out _ HB0.out).2.1 (HW.out _ HB0.out).2.2.1 (HW.out _ HB0.out).2.2.2).mono ?_
  rintro e w1 ⟨rfl, hb1⟩
  rw [← HC.out]
  have HB1 : Hid (Below w.heap.size w w1) := HB0.out.trans (hb1.mono HB0.out.size)
  have HNH : Hid (NN w1 w.heap.size S (.slice ao n cap) (.slice ao2 n2 cap2) (.slice ao3 n3 cap3) S' (.slice bo m dap) (.slice bo2 m2 dap2) (.slice bo3 m3 dap3)) := HNN.later hb1
  obtain ⟨⟨p0, p1, p2, p3⟩, s0, s1, s2, s3⟩ := HNN.later hb1
  have hlt1 : w.heap.size < w1.heap.size := World.block_lt_of_cell? _ _ p0
  have hlt2 : w.heap.size + 1 < w1.heap.size := World.block_lt_of_cell? _ _ s0
  clear hb1 HNN HB0
  by_cases h0 : C = 0
  · subst h0
    rw [no_ok rfl]
    go_wp2_with fail
    refine (sameTopo_any S ao n cap ao2 n2 cap2 Ls Hs S' bo m dap bo2 m2 dap2 Ls' Hs' _ (HW.out _ HB1.out).1.1 (HW.out _ HB1.out).1.2.1 (HW.out _ HB1.out).2.1 (HW.out _ HB1.out).2.2.1).mono ?_
    rintro e w2 ⟨rfl, hb2⟩
    have HB2 : Hid (Below w.heap.size w w2) := HB1.out.trans (hb2.mono HB1.out.size)
    have HN2 : Hid (NN w2 w.heap.size S (.slice ao n cap) (.slice ao2 n2 cap2) (.slice ao3 n3 cap3) S' (.slice bo m dap) (.slice bo2 m2 dap2) (.slice bo3 m3 dap3)) := HNH.out.later hb2
    clear p0 p1 p2 p3 s0 s1 s2 s3 hlt1 hlt2
    obtain ⟨⟨p0, p1, p2, p3⟩, s0, s1, s2, s3⟩ := HNH.out.later hb2
    have hlt1 : w.heap.size < w2.heap.size := World.block_lt_of_cell? _ _ p0
    have hlt2 : w.heap.size + 1 < w2.heap.size := World.block_lt_of_cell? _ _ s0
    obtain ⟨b1, hb⟩ : ∃ b, b = tpB S S' Ls Ls' Hs Hs' := ⟨_, rfl⟩
    have HBE : Hid (tpB S S' Ls Ls' Hs Hs' = b1) := hb.symm
    rw [HBE.out]
    clear hb hb2 HNH HB1
    cases b1 with
    | false =>
      have HX3 : Hid (X = 3) := by
        show _ = _
        rw [HX.out, HBE.out]
        rfl
      have HR3 : Hid (R = []) := by
        show _ = _
        rw [HR.out, HX3.out]
        rfl
      go_wp2
      refine bodyPost_ret (v := .tuple #[.slice none 0 0, .iface 63 (.int .i64 3)]) (by simp [results, Tryd.results12, go_sem]) rfl ?_
      rw [HX3.out, HR3.out]
      exact ⟨_, rfl, NO.nil _ _, HB2.out⟩
    | true =>
      have HX0 : Hid (X = 0) := by
        show _ = _
        rw [HX.out, HBE.out]
        rfl
      have HR0 : Hid (R = cdL Ts Ts' n3) := by
        show _ = _
        rw [HR.out, HX0.out, HN.out]
        rfl
      have HTW : Hid (∀ j, j < n3 → j < m3 → twN (Ts.getD j []) (Ts'.getD j []) = 0) := fun j h1 h2 => nw_tw HC.out.symm j (by rw [HN.out]; exact h1) (by rw [HM.out]; exact h2)
      have hnm : n3 = m3 := by
        have h1 := (nt_0 (nw_two HC.out.symm).1).2.1
        have h2 := (nt_0 (nw_two HC.out.symm).2).2.1
        have h3 := (tpB_iff.1 HBE.out).1
        rw [HN.out] at h1
        rw [HM.out] at h2
        omega
      subst hnm
      have h36 : n3 ≤ 6 := by
        have h1 := (nt_0 (nw_two HC.out.symm).1).2.1
        have h2 := (tp_0 (nt_0 (nw_two HC.out.symm).1).1).1
        rw [HN.out] at h1
        omega
      have HFW : Hid (∀ k, k ≤ n3 → (cdL Ts Ts' k).length ≤ 24 * k) := by
        intro k
        induction k with
        | zero => intro _; simp [cdL]
        | succ k ih =>
          intro hk
          have h1 := ih (by omega)
          have h2 : (dfL (Ts.getD k []) (Ts'.getD k [])).length ≤ 24 := by
            have h := HTW.out k (by omega) (by omega)
            have h3 := tw_two h
            have a := (tb_iff.1 h3.1).1
            have b := (tb_iff.1 h3.2).1
            have c := bey_le (Ts.getD k []) (Ts'.getD k [])
            have d := bey_le (Ts'.getD k []) (Ts.getD k [])
            rw [dfL, if_pos h]
            simp only [taken, added, List.length_append, List.length_map]
            omega
          rw [cdL, List.length_append, ofS, List.length_map]
          omega
      go_wp2
      go_loopw [7, 30] (fun u i wr => ∃ k : Nat, k ≤ n3 ∧ i = .int .i64 k ∧ NO wr (w.heap.size + 2) u (cdL Ts Ts' k) ∧ NN wr w.heap.size S (.slice ao n cap) (.slice ao2 n2 cap2) (.slice ao3 n3 cap3) S' (.slice bo m dap) (.slice bo2 m2 dap2) (.slice bo3 n3 dap3) ∧ Below w.heap.size w wr) (fun _ i _ => n3 - (intOf i).toNat)
      case atStart => exact ⟨0, by omega, rfl, NO.nil _ _, HN2.out, HB2.out⟩
      case round =>
        obtain ⟨k, hk, rfl, hO, hX, hB⟩ := hrel
        clear HN2 HB2 p0 p1 p2 p3 s0 s1 s2 s3 hlt1 hlt2
        have HB : Hid (Below w.heap.size w wr) := hB
        have HO : Hid (NO wr (w.heap.size + 2) u7 (cdL Ts Ts' k)) := hO
        have HNX : Hid (NN wr w.heap.size S (.slice ao n cap) (.slice ao2 n2 cap2) (.slice ao3 n3 cap3) S' (.slice bo m dap) (.slice bo2 m2 dap2) (.slice bo3 n3 dap3)) := hX
        obtain ⟨⟨p0, p1, p2, p3⟩, s0, s1, s2, s3⟩ := hX
        have hlt1 : w.heap.size < wr.heap.size := World.block_lt_of_cell? _ _ p0
        have hlt2 : w.heap.size + 1 < wr.heap.size := World.block_lt_of_cell? _ _ s0
        by_cases hlt : k < n3
        · obtain ⟨g, og, hao, hc, _⟩ := HA.out (by omega)
          obtain ⟨f, of, hbo, hd, _⟩ := HA2.out (by omega)
          subst hao hbo
          have hkA : k < Ts.length := by rw [HN.out]; exact hlt
          have hkB : k < Ts'.length := by rw [HM.out]; exact hlt
          obtain ⟨a3, l3, c3, r0, hG3⟩ := (hc.later hB) k hkA
          obtain ⟨a4, l4, c4, r1, hG4⟩ := (hd.later hB) k hkB
          rw [← getT hkA] at hG3
          rw [← getT hkB] at hG4
          have HG3 : Hid (SR wr (.slice a3 l3 c3) (Ts.getD k [])) := hG3
          have HG4 : Hid (SR wr (.slice a4 l4 c4) (Ts'.getD k [])) := hG4
          have HT0 : Hid (twN (Ts.getD k []) (Ts'.getD k []) = 0) := HTW.out k hlt hlt
          have kb0 : (0 : Int) ≤ (k : Int) := by omega
          have kb1 : (k : Int) < (n3 : Int) := by omega
          clear hc hd hB hG3 hG4 hO
          go_wp2_with fail
          refine (diff_own a3 l3 c3 a4 l4 c4 _ _ wr HG3.out HG4.out HT0.out).mono ?_
          rintro e w3 ⟨v5, rfl, hown, hb3⟩
          obtain ⟨D, hD⟩ : ∃ D, D = dfL (Ts.getD k []) (Ts'.getD k []) := ⟨_, rfl⟩
          have HD : Hid (cdL Ts Ts' (k + 1) = cdL Ts Ts' k ++ ofS ((k : Int) + 1) D) := by
            show _ = _
            rw [cdL, hD]
          have hD2 : NO w3 wr.heap.size v5 D := by
            rw [hD, dfL, if_pos HT0.out]
            exact hown
          obtain ⟨a5, n5, c5, rfl⟩ : ∃ b1 m1 d1, v5 = .slice b1 m1 d1 := by
            obtain ⟨a, c, h⟩ := own_form hD2
            exact ⟨a, _, c, h⟩
          have HDL : Hid (D.length = n5) := hD2.gs.len
          have HD24 : Hid ((cdL Ts Ts' k).length + D.length ≤ 1000) := by
            have h1 := HFW.out (k + 1) (by omega)
            rw [HD.out, List.length_append, ofS, List.length_map] at h1
            show _ ≤ _
            omega
          have hn5 : n5 ≤ 1000 := by have := HD24.out; rw [HDL.out] at this; omega
          have HNO3 : Hid (NO w3 wr.heap.size (.slice a5 n5 c5) D) := hD2
          have HO3 : Hid (NO w3 (w.heap.size + 2) u7 (cdL Ts Ts' k)) := HO.out.later hb3
          have HOB : Hid (∀ b, u7.ownBlock = some b → b < wr.heap.size) := fun b hb => (HO.out.lt b hb).2
          have HB3 : Hid (Below w.heap.size w w3) := HB.out.trans (hb3.mono HB.out.size)
          have HN3 : Hid (NN w3 w.heap.size S (.slice ao n cap) (.slice ao2 n2 cap2) (.slice (some ⟨g, og, none⟩) n3 cap3) S' (.slice bo m dap) (.slice bo2 m2 dap2) (.slice (some ⟨f, of, none⟩) n3 dap3)) := HNX.out.later hb3
          have HS3 : Hid (w.heap.size + 2 ≤ wr.heap.size) := by show _ ≤ _; omega
          have HLE : Hid (wr.heap.size ≤ w3.heap.size) := hb3.size
          clear hown hb3 hD hD2 p0 p1 p2 p3 s0 s1 s2 s3 hlt1 hlt2 r0 r1 HO HNX HB HG3 HG4
          have HAP : Hid ((Value.slice a5 n5 c5).ownBlock = none ∨ (Value.slice a5 n5 c5).ownBlock ≠ u7.ownBlock) := by
            rcases h5 : (Value.slice a5 n5 c5).ownBlock with _ | b5
            · exact .inl rfl
            · refine .inr fun e => ?_
              have h1 := (HNO3.out.lt b5 h5).1
              have h2 := HOB.out b5 e.symm
              omega
          obtain ⟨i0, hi, hz0, hz1, hz2⟩ := info_parts op_info
          have HI1 : Hid (Tryd.prog.info? 53 = some i0) := hi
          have HI2 : Hid (i0.zero = some (.agg #[.int .i64 0, .bool false, .int .i64 0, .int .i64 0, .int .i64 0, .int .i64 0, .int .i64 0, .int .i64 0])) := hz0
          have HI3 : Hid (i0.size = 8) := hz1
          have HI4 : Hid (i0.bytes = 64) := hz2
          have kw : IntKind.i64.wrap ((k : Int) + 1) = (k : Int) + 1 := by rw [IntKind.wrap_i64]; omega
          have kw2 : wrap64 ((k : Int) + 1) = (k : Int) + 1 := by unfold wrap64; omega
          obtain ⟨_, _, _, e, h51, h52, h53, h5a⟩ := HNO3.out.gs.form
          cases e
          clear hi hz0 hz1 hz2 h51 h52 h53 h5a HOB
          generalize hZ : wr.heap.size = Z at HNO3 HS3 HLE
          clear hZ
          go_wp2
          go_loopw [7, 47] (fun u j W => ∃ q : Nat, q ≤ n5 ∧ j = .int .i64 q ∧ NO W (w.heap.size + 2) u (cdL Ts Ts' k ++ ofS ((k : Int) + 1) (D.take q)) ∧ NN W w.heap.size S (.slice ao n cap) (.slice ao2 n2 cap2) (.slice (some ⟨g, og, none⟩) n3 cap3) S' (.slice bo m dap) (.slice bo2 m2 dap2) (.slice (some ⟨f, of, none⟩) n3 dap3) ∧ NO W Z (.slice a5 n5 c5) D ∧ ((Value.slice a5 n5 c5).ownBlock = none ∨ (Value.slice a5 n5 c5).ownBlock ≠ u.ownBlock) ∧ Below w.heap.size w W) (fun _ j _ => n5 - (intOf j).toNat)
          case atStart => exact ⟨0, by omega, rfl, by simpa [ofS] using HO3.out, HN3.out, HNO3.out, HAP.out, HB3.out⟩
          case round =>
            obtain ⟨q, hq, rfl, hO, hX, hNO, hap, hB⟩ := hrel
            clear HO3 HN3 HNO3 HAP HB3
            have HB : Hid (Below w.heap.size w wr) := hB
            have HO : Hid (NO wr (w.heap.size + 2) u7 (cdL Ts Ts' k ++ ofS ((k : Int) + 1) (D.take q))) := hO
            have HNX : Hid (NN wr w.heap.size S (.slice ao n cap) (.slice ao2 n2 cap2) (.slice (some ⟨g, og, none⟩) n3 cap3) S' (.slice bo m dap) (.slice bo2 m2 dap2) (.slice (some ⟨f, of, none⟩) n3 dap3)) := hX
            have HNO : Hid (NO wr Z (.slice a5 n5 c5) D) := hNO
            have HAP : Hid ((Value.slice a5 n5 c5).ownBlock = none ∨ (Value.slice a5 n5 c5).ownBlock ≠ u7.ownBlock) := hap
            have HLW : Hid (w.heap.size + 2 ≤ wr.heap.size) := by
              have := World.block_lt_of_cell? _ _ hX.2.1
              show _ ≤ _
              simp at this
              omega
            clear hO hX hap
            by_cases hlq : q < n5
            · obtain ⟨_, _, _, e, _, _, _, ha⟩ := hNO.gs.form
              cases e
              obtain ⟨g5, o5, rfl, hGA, _⟩ := ha (by omega)
              obtain ⟨y0, ya, p, m', b, o', s', v, hql, hDq, r0, r1, r2, r3, r4, r5, r6, r7⟩ := op_at hGA HDL.out hlq
              have qb0 : (0 : Int) ≤ (q : Int) := by omega
              have qb1 : (q : Int) < (n5 : Int) := by omega
              have HNX2 : Hid (cdL Ts Ts' k ++ ofS ((k : Int) + 1) (D.take (q + 1)) = (cdL Ts Ts' k ++ ofS ((k : Int) + 1) (D.take q)) ++ [⟨(k : Int) + 1, ya, ⟨p, m', b, o', s', v⟩⟩]) := by
                show _ = _
                rw [of_next hql, hDq]
              have HL1 : Hid ((cdL Ts Ts' k ++ ofS ((k : Int) + 1) (D.take q)).length ≤ 1000) := by
                have := HD24.out
                show _ ≤ _
                rw [List.length_append, ofS, List.length_map, List.length_take]
                omega
              have HLV1 : Hid ((cdL Ts Ts' k ++ ofS ((k : Int) + 1) (D.take q)).length + 1 ≤ maxLen) := by
                have := HL1.out
                show _ ≤ _
                unfold maxLen
                omega
              have HLV2 : Hid (((cdL Ts Ts' k ++ ofS ((k : Int) + 1) (D.take q)).length + 1) * 64 ≤ 140737488355328) := by
                have := HL1.out
                show _ ≤ _
                omega
              have hBB : Below wr.heap.size wr ((wr.alloc (Obj.cells #[.int .i64 ((k : Int) + 1), .bool ya, .int .i64 p, .int .i64 m', .int .i64 b, .int .i64 o', .int .i64 s', .int .i64 v] 53)).alloc (Obj.cells #[.int .i64 ((k : Int) + 1), .bool ya, .int .i64 p, .int .i64 m', .int .i64 b, .int .i64 o', .int .i64 s', .int .i64 v] 53)) := ((Below.refl _ _).alloc (Nat.le_refl _) _).alloc (by simp) _
              have HBB : Hid (Below wr.heap.size wr ((wr.alloc (Obj.cells #[.int .i64 ((k : Int) + 1), .bool ya, .int .i64 p, .int .i64 m', .int .i64 b, .int .i64 o', .int .i64 s', .int .i64 v] 53)).alloc (Obj.cells #[.int .i64 ((k : Int) + 1), .bool ya, .int .i64 p, .int .i64 m', .int .i64 b, .int .i64 o', .int .i64 s', .int .i64 v] 53))) := hBB
              have HVA : Hid (VAt ((wr.alloc (Obj.cells #[.int .i64 ((k : Int) + 1), .bool ya, .int .i64 p, .int .i64 m', .int .i64 b, .int .i64 o', .int .i64 s', .int .i64 v] 53)).alloc (Obj.cells #[.int .i64 ((k : Int) + 1), .bool ya, .int .i64 p, .int .i64 m', .int .i64 b, .int .i64 o', .int .i64 s', .int .i64 v] 53)) (wr.heap.size + 1) 0 (opE.c ⟨(k : Int) + 1, ya, ⟨p, m', b, o', s', v⟩⟩)) := by
                have h := op_new (wr.alloc (Obj.cells #[.int .i64 ((k : Int) + 1), .bool ya, .int .i64 p, .int .i64 m', .int .i64 b, .int .i64 o', .int .i64 s', .int .i64 v] 53)) ((k : Int) + 1) ya p m' b o' s' v 53
                rw [World.size_alloc] at h
                exact h
              clear hNO ha hGA hDq hBB hB
              go_wp2_with (at_builtin; refine wpList_append_blk (E := opE) _ rfl _ _ 29 53 rfl Tryd.underlying29 i0 _ 64 HI1.out HI2.out HI3.out HI4.out op_zero (w.heap.size + 2) u7 rfl (cdL Ts Ts' k ++ ofS ((k : Int) + 1) (D.take q)) (HO.out.later HBB.out) (wr.heap.size + 1) 0 1 rfl ⟨(k : Int) + 1, ya, ⟨p, m', b, o', s', v⟩⟩ HVA.out HLV1.out HLV2.out (Nat.le_trans HLW.out HBB.out.size) ?_)
              intro v' w4 hown hgrow hblk
              have hNB := HNO.out.later HBB.out
              have HO4 : Hid (NO w4 (w.heap.size + 2) v' (cdL Ts Ts' k ++ ofS ((k : Int) + 1) (D.take (q + 1)))) := by
                show NO _ _ _ _
                rw [HNX2.out]
                refine NO.ofn hown (by simp) ?_
                simp only [List.length_append, List.length_cons, List.length_nil]
                omega
              have HN4 : Hid (NO w4 Z (.slice (some ⟨g5, o5, none⟩) n5 c5) D) := hNB.kept hgrow HAP.out
              have HB4 : Hid (Below w.heap.size w w4) := by
                have h1 := HB.out.trans (HBB.out.mono HB.out.size)
                exact h1.grown hgrow h1.size (fun b hb => by have := (HO.out.lt b hb).1; omega)
              have HX4 : Hid (NN w4 w.heap.size S (.slice ao n cap) (.slice ao2 n2 cap2) (.slice (some ⟨g, og, none⟩) n3 cap3) S' (.slice bo m dap) (.slice bo2 m2 dap2) (.slice (some ⟨f, of, none⟩) n3 dap3)) := (HNX.out.later HBB.out).grown hgrow (fun b hb => (HO.out.lt b hb).1)
              have HAP4 : Hid ((Value.slice (some ⟨g5, o5, none⟩) n5 c5).ownBlock = none ∨ (Value.slice (some ⟨g5, o5, none⟩) n5 c5).ownBlock ≠ v'.ownBlock) := by
                rcases hblk with h | h
                · rw [h]; exact HAP.out
                · refine .inr fun e => ?_
                  rw [h] at e
                  have h2 := (hNB.lt _ e).2
                  simp at h2
              clear hown hgrow hblk hNB r0 r1 r2 r3 r4 r5 r6 r7 HVA HBB
              go_wp2
              go_roundw
              case rel => exact ⟨q + 1, by omega, by go_num, HO4.out, HX4.out, HN4.out, HAP4.out, HB4.out⟩
              case measure => simp [intOf]; omega
            · obtain rfl : q = n5 := by omega
              have HO4 : Hid (NO wr (w.heap.size + 2) u7 (cdL Ts Ts' (k + 1))) := by
                have h := HO.out
                rw [← HDL.out, List.take_length, ← HD.out] at h
                exact h
              clear hNO hB
              go_wp2
              go_roundw
              case rel => exact ⟨k + 1, by omega, by go_num, HO4.out, HNX.out, HB.out⟩
              case measure => simp [intOf]; omega
        · obtain rfl : k = n3 := by omega
          clear hB hO
          go_wp2
          refine bodyPost_ret (v := .tuple #[u7, .nilIface]) (by simp [results, Tryd.results12, go_sem]) rfl ?_
          rw [HX0.out, HR0.out]
          exact ⟨_, rfl, HO.out.mono (by omega), HB.out⟩
  · have HNZ : Hid (C ≠ 0) := h0
    have HXC : Hid (X = C) := by
      show _ = _
      rw [HX.out, if_neg h0]
    have HR3 : Hid (R = []) := by
      show _ = _
      rw [HR.out, HXC.out, if_neg h0]
    rw [no_ne h0]
    clear h0
    go_wp2
    refine bodyPost_ret (v := .tuple #[.slice none 0 0, .iface 63 (.int .i64 C)]) (by simp [results, Tryd.results12, go_sem]) rfl ?_
    rw [HXC.out, HR3.out, no_ne HNZ.out]
    exact ⟨_, rfl, NO.nil _ _, HB1.out⟩
end Go.Proofs.YtokkmnednhigmaeDoor
/- What change.Turn answers: the ops that take all back. It goes over slices.Backward, an iterator. -/
namespace Go.Proofs.YtokkmnednhigmaeDoor
open Go.RowKit Go.Shelf
set_option linter.unusedSimpArgs false
set_option linter.unusedVariables false
attribute [local go_sem] Oper.semAt_some

def zeO : Op8 := ⟨0, false, ⟨0, 0, 0, 0, 0, 0⟩⟩
def opV (o : Op8) : Value := .agg #[.int .i64 o.w, .bool o.a, .int .i64 o.r.p, .int .i64 o.r.m, .int .i64 o.r.b, .int .i64 o.r.o, .int .i64 o.r.s, .int .i64 o.r.v]
/-- The j-th from behind, with its place. -/
def bk (l : List Op8) (j : Nat) : Nat × Op8 := (l.length - 1 - j, l.getD (l.length - 1 - j) zeO)
def bkTo (l : List Op8) (k : Nat) : List (Nat × Op8) := (List.range k).map (bk l)
theorem bk_succ (l : List Op8) (k : Nat) : bkTo l (k + 1) = bkTo l k ++ [bk l k] := by simp [bkTo, List.range_succ]
theorem bk_len (l : List Op8) (k : Nat) : (bkTo l k).length = k := by simp [bkTo]
theorem bk_all (l : List Op8) : (bkTo l l.length).map (fun x => tu1 x.2) = tuL l := by
  apply List.ext_getElem
  · simp [bkTo, tuL]
  · intro i h1 h2
    have hi : i < l.length := by simpa [bkTo] using h1
    have hj : l.length - 1 - i < l.length := by omega
    simp [bkTo, bk, tuL, List.getElem_reverse, List.getD, hj]
def bkE (x : Nat × Op8) : Array Value := #[.int .i64 (x.1 : Int), opV x.2]
/-- What a round keeps: what lay ahead, and the iterator's own box. -/
def bkK (n₀ Bs : Nat) (W W' : World) : Prop := Below n₀ W W' ∧ ∀ v, Boxed W Bs 29 v → Boxed W' Bs 29 v

set_option maxRecDepth 100000 in
set_option maxHeartbeats 2000000 in
theorem bk1_in (F : Fence) (n : Nat) (hF : F.fn 53) (hro : F.round = none) (hn : 1 ≤ n) (l Bs n₀ : Nat) (a : Option Addr) (len cap : Nat) (L : List Op8) (J Jx : List (Nat × Op8) → World → Prop)
    (hY : ∀ pre x W, J pre W → pre.length < L.length → YieldAt F (n - 1) Tryd.prog l (bkE x) W fun e W' =>
      (e = .returned (.bool true) ∧ J (pre ++ [x]) W' ∧ bkK n₀ Bs W W') ∨ (e = .returned (.bool false) ∧ Jx (pre ++ [x]) W'))
    (W : World) (hBs : Boxed W Bs 29 (.slice a len cap)) (hG : ∀ W', Below n₀ W W' → GS opE W' (.slice a len cap) L) (h0 : J [] W) :
    CallsIn F n Tryd.prog 53 #[.func (.yield l) #[] #[], .pointer (some ⟨Bs, 0, none⟩)] W fun e W' => (∃ v, e = .returned v) ∧
      ((∃ ys, ys = bkTo L L.length ∧ J ys W') ∨ (∃ pre, (∃ k, k ≤ L.length ∧ pre = bkTo L k) ∧ Jx pre W')) := by
  obtain ⟨_, _, _, e, hl, hl2, hl3, ha⟩ := (hG W (Below.refl _ _)).form
  cases e
  have HL : Hid (L.length = len) := hl
  have n63 : len ≤ 9223372036854775807 := by unfold maxLen at hl2; omega
  have hc0 := hBs.cell
  have HS : Hid (Boxed W Bs 29 (.slice a len cap)) := hBs
  have HG : Hid (∀ W', Below n₀ W W' → GS opE W' (.slice a len cap) L) := hG
  have w1 : IntKind.i64.wrap ((len : Int) - 1) = (len : Int) - 1 := by rw [IntKind.wrap_i64]; omega
  have w2 : wrap64 ((len : Int) - 1) = (len : Int) - 1 := by unfold wrap64; omega
  clear hl hl2 hl3 ha hBs hG
  refine callsIn_of_wp Tryd.func53 rfl hF ?_ hro
  simp only [Tryd.ntmps53, List.size_toArray, List.length_cons, List.length_nil, Nat.reduceAdd, Nat.reduceSub, Array.replicate_succ, Array.replicate_zero, List.push_toArray, List.append_toArray, List.nil_append, List.cons_append]
  gi_wp2
  gi_loopw [3] (fun i wr => ∃ k : Nat, k ≤ len ∧ i = .int .i64 ((len : Int) - 1 - k) ∧ J (bkTo L k) wr ∧ bkK n₀ Bs W wr)
    (fun i _ => (intOf i + 1).toNat)
  case atStart => exact ⟨0, Nat.zero_le _, by simp, h0, Below.refl _ _, fun _ h => h⟩
  case round =>
    obtain ⟨k, hk, rfl, hJs, hK⟩ := hrel
    by_cases hlt : k < len
    · obtain ⟨j, hj⟩ : ∃ j : Nat, (len : Int) - 1 - k = (j : Int) := ⟨len - 1 - k, by omega⟩
      rw [hj]
      have hjl : j < len := by omega
      obtain ⟨_, _, _, e, _, _, _, ha⟩ := (HG.out wr hK.1).form
      cases e
      obtain ⟨g, o, rfl, hGA, _⟩ := ha (by omega)
      obtain ⟨x0, xa, p, m, b, q, s, v, hkl, hLk, r0, r1, r2, r3, r4, r5, r6, r7⟩ := op_at hGA HL.out hjl
      have hbk : bk L k = (j, ⟨x0, xa, ⟨p, m, b, q, s, v⟩⟩) := by
        have e1 : L.length - 1 - k = j := by rw [HL.out]; omega
        simp only [bk, e1]
        rw [← hLk]
        simp [List.getD, hkl]
      obtain ⟨fn, tmps, assign, body, hy, hR⟩ := hY _ (bk L k) wr hJs (by rw [bk_len, HL.out]; exact hlt)
      rw [← bk_succ] at hR
      simp only [hbk, bkE, opV] at hy
      have hc1 := (hK.2 _ HS.out).cell
      have jb0 : (0 : Int) ≤ (j : Int) := by omega
      have jb1 : (j : Int) < (len : Int) := by omega
      have w3 : IntKind.i64.wrap ((j : Int) - 1) = (j : Int) - 1 := by rw [IntKind.wrap_i64]; omega
      have w4 : wrap64 ((j : Int) - 1) = (j : Int) - 1 := by unfold wrap64; omega
      have HJ : Hid ((len : Int) - 1 - k = (j : Int)) := hj
      have HK : Hid (bkK n₀ Bs W wr) := hK
      clear hc0 hj hGA hLk hbk hK
      gi_wp2
      refine hR.mono ?_
      rintro e W3 (⟨rfl, hJ3, hk3⟩ | ⟨rfl, hJx3⟩)
      · gi_wp2
        go_roundw
        case rel => exact ⟨k + 1, by omega, by have := HJ.out; congr 1; omega, hJ3, HK.out.1.trans hk3.1, fun u hu => hk3.2 u (HK.out.2 u hu)⟩
        case measure => simp [intOf]
      · gi_wp2
        refine bodyPost_ret (results_none rfl _ _ _) rfl ?_
        exact ⟨⟨_, rfl⟩, .inr ⟨_, ⟨k + 1, by rw [HL.out]; omega, rfl⟩, hJx3⟩⟩
    · obtain rfl : k = len := by omega
      have e1 : (k : Int) - 1 - k = -1 := by omega
      rw [e1]
      gi_wp2
      go_end0
      exact ⟨⟨_, rfl⟩, .inl ⟨_, by rw [HL.out], hJs⟩⟩
set_option maxHeartbeats 1000000 in
/-- slices.Backward(s): the slice is boxed; the function value captures the box. -/
theorem bk_in (F : Fence) (n : Nat) (hF : F.fn 33) (hro : F.round = none) (a : Option Addr) (len cap : Nat) (w : World) :
    CallsIn F n Tryd.prog 33 #[.slice a len cap] w fun e w' => e = .returned (.func (.func 53) #[] #[.pointer (some ⟨w.heap.size, 0, none⟩)]) ∧ w' = w.alloc (.cells #[.slice a len cap] 29) := by
  refine callsIn_of_wp Tryd.func33 rfl hF ?_ hro
  simp only [Tryd.ntmps33, List.size_toArray, List.length_cons, List.length_nil, Nat.reduceAdd, Nat.reduceSub, Array.replicate_succ, Array.replicate_zero, List.push_toArray, List.append_toArray, List.nil_append, List.cons_append]
  gi_wp2
  go_ret
  exact ⟨rfl, rfl⟩
theorem bk_stops (F : Fence) (n : Nat) (hF : F.fn 53) (hro : F.round = none) (hn : 1 ≤ n) (Bs n₀ : Nat) (a : Option Addr) (len cap : Nat) (L : List Op8) (w : World) (hBs : Boxed w Bs 29 (.slice a len cap)) (hn₀ : n₀ ≤ w.heap.size) (hG : ∀ W', Below n₀ w W' → GS opE W' (.slice a len cap) L) :
    SeqStopsK F n Tryd.prog 53 #[.pointer (some ⟨Bs, 0, none⟩)] bkE (bkK n₀ Bs) (fun ys => ys = bkTo L L.length) (fun pre => ∃ k, k ≤ L.length ∧ pre = bkTo L k) L.length w := fun l J Jx W hW _ _ hY h0 =>
  bk1_in F n hF hro hn l Bs n₀ a len cap L J Jx hY W (hBs.kept (grown_below hW) (by simp)) (fun W' h => hG W' ((hW.mono hn₀).trans h)) h0

/-- The box of an op. -/
def OpBox (W : World) (b : Nat) (o : Op8) : Prop := VAt W b 0 (opE.c o) ∧ W.frozen? ⟨b, 1, none⟩ = false
theorem opbox_own (b : Nat) (o : Op8) {W W' : World} {row : Option Nat} (h : OpBox W b o) (hg : W.grownBy W' row) (hr : ∀ r, row = some r → ∃ o : Obj, W.heap[r]? = some o ∧ o.isCells = false) : OpBox W' b o := by
  refine ⟨fun j u hu => cell_kept (h.1 j u hu) hg hr, ?_⟩
  have h1 := h.1 1 (.bool o.a) rfl
  exact (frozen_kept h1 hg hr).trans h.2
set_option maxRecDepth 100000 in
set_option maxHeartbeats 4000000 in
theorem turn_in (F : Fence) (n : Nat) (h3 : F.fn 15) (h4 : F.fn 33) (h5 : F.fn 53) (hro : F.round = none) (hn : 3 ≤ n) (a : Option Addr) (len cap : Nat) (L : List Op8) (w : World) (hlen : L.length * 64 ≤ 140737488355328) (hG : GS opE w (.slice a len cap) L) :
    CallsIn F n Tryd.prog 15 #[.slice a len cap] w fun e W' => ∃ v, e = .returned v ∧ W'.ownsRow w.heap.size 53 8 v (tuL L).length (cellsG opE (tuL L)) ∧ Below w.heap.size w W' := by
  have h1 : 1 ≤ n := by omega
  obtain ⟨i0, hi, hz0, hz1, hz2⟩ := info_parts op_info
  refine callsIn_of_wp_marks Tryd.func15 rfl h3 ?_ hro
  simp only [Tryd.ntmps15, List.size_toArray, List.length_cons, List.length_nil, Nat.reduceAdd, Nat.reduceSub, Array.replicate_succ, Array.replicate_zero, List.push_toArray, List.append_toArray, List.nil_append, List.cons_append]
  gi_wp2_with (gi_at_call 33; refine (bk_in F (n - 1) h4 hro _ _ _ _).mono ?_; rintro e w' ⟨rfl, rfl⟩)
  have bO := Boxed.new w 29 (.slice none 0 0)
  have bS := Boxed.new (w.alloc (.cells #[.slice none 0 0] 29)) 29 (.slice a len cap)
  rw [World.size_alloc] at bS
  have hB0 : Below w.heap.size w ((w.alloc (.cells #[.slice none 0 0] 29)).alloc (.cells #[.slice a len cap] 29)) := ((Below.refl _ w).alloc (Nat.le_refl _) _).alloc (by simp) _
  have hsz : ((w.alloc (.cells #[.slice none 0 0] 29)).alloc (.cells #[.slice a len cap] 29)).heap.size = w.heap.size + 2 := by simp
  have bO2 := bO.alloc (.cells #[.slice a len cap] 29)
  obtain ⟨W0, hW0⟩ : ∃ W0, (w.alloc (.cells #[.slice none 0 0] 29)).alloc (.cells #[.slice a len cap] 29) = W0 := ⟨_, rfl⟩
  rw [hW0] at bO2 bS hB0 hsz ⊢
  clear hW0 bO
  refine wpIn_rangeFunc_ownH hro h1 (gf := 53) (lb := #[.pointer (some ⟨w.heap.size + 1, 0, none⟩)]) rfl h5 (enters_of Tryd.func53 (by kernel_rfl) rfl)
    (bk_stops F (n - 1) h5 hro (by omega) (w.heap.size + 1) w.heap.size a len cap L W0 bS (by omega) (fun W' h => hG.later (hB0.trans h)))
    (fun h k => ⟨h.1.trans k.1, fun v hv => k.2 v (h.2 v hv)⟩)
    (fun W l o o' hl ho hc hw => ⟨belowK_b (w := W0) (by omega) W l o o' hl ho hc hw, fun v hv => hv.kept (grownBy_putObj' W l o') (by simp; omega)⟩)
    (Below.refl _ _) (fun _ => rfl)
    (fun pre W => ((∃ v, Boxed W w.heap.size 29 v ∧ W.ownsRow w.heap.size 53 8 v pre.length (cellsG opE (pre.map (fun x => tu1 x.2))) ∧ True) ∧ Boxed W (w.heap.size + 1) 29 (.slice a len cap)) ∧ Below w.heap.size w W)
    (fun _ _ _ => False)
    (OwnFrom.and (OwnFrom.and (Own.from (holdsRow_own w.heap.size w.heap.size 29 53 8 (fun (pre : List (Nat × Op8)) => pre.length) (fun (pre : List (Nat × Op8)) => cellsG opE (pre.map (fun (x : Nat × Op8) => tu1 x.2))) (fun _ _ => True)) _) (Own.from (boxed_own _ _ _) _)) (ownFrom_below (Nat.le_refl _) (by omega)))
    (fun _ _ _ _ _ hs _ _ => hs)
    ⟨⟨⟨_, bO2, World.ownsRow_nil _ _ _ _, trivial⟩, bS⟩, hB0⟩
    (fun x a' W => ∃ Bx v0, w.heap.size + 1 < Bx ∧ OpBox W Bx x.2 ∧ Boxed W w.heap.size 29 v0 ∧ v0.ownBlock ≠ some Bx ∧ a' = { tmps := #[.slice a len cap, undef, .slice none 0 0, .pointer (some ⟨w.heap.size, 0, none⟩), undef, .pointer (some ⟨Bx, 0, none⟩), .slice a len cap, .func (.func 53) #[] #[.pointer (some ⟨w.heap.size + 1, 0, none⟩)], .int .i64 (x.1 : Int), opV x.2, undef, undef, undef, undef, undef, undef, undef, undef, undef], defers := [] })
    (fun x a' s A B row hs hg hr => by
      obtain ⟨Bx, v0, q1, q2, q3, q4, q5⟩ := hs
      exact ⟨Bx, v0, q1, opbox_own _ _ q2 hg (fun r e => (hr r e).2), (Own.from (boxed_own (β := Unit) w.heap.size 29 (fun _ => v0)) W0.heap.size) () A B row q3 hg hr, q4, q5⟩)
    ?assign ?body ?done ?stop
  case assign =>
    rintro l pre x W K ⟨⟨⟨v, hv, hrow, _⟩, hs⟩, hB⟩ hK
    obtain ⟨xi, ⟨x0, xa, ⟨p, m, b, q, s, u⟩⟩⟩ := x
    simp only [bkE, opV]
    gi_wp2
    exact hK _ _ ((KeepsOthers.alloc _ _).from _) ⟨(Below.refl _ W).alloc hB.size _, fun v hv => hv.alloc _⟩ ⟨⟨⟨v, hv.alloc _, hrow.alloc _, trivial⟩, hs.alloc _⟩, hB.alloc hB.size _⟩ ⟨W.heap.size, v, hs.lt, ⟨op_new W x0 xa p m b q s u 53, by simp⟩, hv.alloc _, fun e => absurd (hrow.lt _ e).2 (Nat.lt_irrefl _), rfl⟩
  case body =>
    rintro l pre x a' W hl ⟨r, hr⟩ ⟨⟨⟨v, hv, hrow, _⟩, hs⟩, hB⟩ ⟨Bx, v0, q1, q2, q3, q4, rfl⟩ hlt
    obtain rfl : v0 = v := by
      have e := q3.cell.symm.trans hv.cell
      exact Option.some.inj e
    obtain ⟨xi, ⟨x0, xa, ⟨p, m, b, q, s, u⟩⟩⟩ := x
    obtain ⟨c0, c1, c2, c3, c4, c5, c6, c7⟩ := op_cells q2.1
    simp only [Nat.zero_add] at c0 c1 c2 c3 c4 c5 c6 c7
    have f1 := q2.2
    have hne : Bx ≠ w.heap.size := by omega
    have hne2 : w.heap.size ≠ Bx := by omega
    have hv2 : Boxed (W.setCell ⟨Bx, 1, none⟩ (.bool (!xa))) w.heap.size 29 v0 := hv.kept (grown_set W Bx 1 _) (by simp; omega)
    have hrow2 : (W.setCell ⟨Bx, 1, none⟩ (.bool (!xa))).ownsRow w.heap.size 53 8 v0 pre.length (cellsG opE (pre.map (fun x => tu1 x.2))) := hrow.kept (grown_set W Bx 1 _) (.inr q4)
    have hsz2 : (W.setCell ⟨Bx, 1, none⟩ (.bool (!xa))).heap.size = W.heap.size := by simp
    have HKS : Hid (∀ w1 v' (o : Obj) z, ((W.setCell ⟨Bx, 1, none⟩ (.bool (!xa))).alloc o).grownBy w1 v0.ownBlock → Boxed W (w.heap.size + 1) 29 z → Boxed (w1.setCell ⟨w.heap.size, 0, none⟩ v') (w.heap.size + 1) 29 z) := by
      intro w1 v' o z hg hz
      have h2 := hz.kept (grown_set W Bx 1 (.bool (!xa))) (by simp; omega)
      exact ((h2.alloc o).kept hg (h2.not_row (by decide) hrow2)).kept (grownBy_setCell' w1 w.heap.size v') (by simp)
    have hc := hv2.cell
    have hcW := hv.cell
    have HNC : Hid (∀ j u', ([.int .i64 x0, .bool (!xa), .int .i64 p, .int .i64 m, .int .i64 b, .int .i64 q, .int .i64 s, .int .i64 u] : List Value)[j]? = some u' → ((W.setCell ⟨Bx, 1, none⟩ (.bool (!xa))).alloc (.cells #[.int .i64 x0, .bool (!xa), .int .i64 p, .int .i64 m, .int .i64 b, .int .i64 q, .int .i64 s, .int .i64 u] 53)).cell? ((⟨W.heap.size, 0, none⟩ : Addr).add j) = some u') := by
      intro j u' hu
      have h := op_new (W.setCell ⟨Bx, 1, none⟩ (.bool (!xa))) x0 (!xa) p m b q s u 53 j u' hu
      rw [hsz2, Nat.zero_add] at h
      have e : (⟨W.heap.size, 0, none⟩ : Addr).add j = ⟨W.heap.size, j, none⟩ := by
        simp [Addr.add]
        exact fun h => h.symm
      rw [e]
      exact h
    have HOC : Hid (∀ y ∈ ([.int .i64 x0, .bool (!xa), .int .i64 p, .int .i64 m, .int .i64 b, .int .i64 q, .int .i64 s, .int .i64 u] : List Value), y.oneCell' = true) := by
      intro y hy
      simp at hy
      rcases hy with rfl | rfl | rfl | rfl | rfl | rfl | rfl | rfl <;> rfl
    have hb1 : pre.length + 1 ≤ maxLen := by unfold maxLen; omega
    have hb2 : (pre.length + 1) * 64 ≤ 140737488355328 := by omega
    have hlw := hB.size
    gi_wp2_with (gi_at_builtin; refine wpListIn_append_own _ rfl _ _ 29 rfl w.heap.size 53 i0 (.agg #[.int .i64 0, .bool false, .int .i64 0, .int .i64 0, .int .i64 0, .int .i64 0, .int .i64 0, .int .i64 0]) 8 64 Tryd.underlying29 hi hz0 hz1 hz2 op_zero (by decide) _ _ _ rfl (hrow2.alloc _) ⟨W.heap.size, 0, none⟩ 1 1 [.int .i64 x0, .bool (!xa), .int .i64 p, .int .i64 m, .int .i64 b, .int .i64 q, .int .i64 s, .int .i64 u] rfl rfl HNC.out HOC.out hb1 hb2 (by simp; omega) ?_; intro v' w1 hown' hgrow _; obtain ⟨g', cap', rfl⟩ := ownsRow_succ hown'; obtain ⟨hv1, hv2', hr2, hk2, hb2'⟩ := hv2.appended (by decide) hrow2 (by rw [hsz2]; exact hlw) (Nat.le_refl _) hown' hgrow; have hc1 := hv1.cell; have hf1 := hv1.frozen)
    refine ⟨((KeepsOthers.setCell W ⟨Bx, 1, none⟩ (.bool (!xa))).trans hk2).from _, ⟨((Below.refl w.heap.size W).setCell (p := ⟨Bx, 1, none⟩) (show w.heap.size ≤ Bx by omega) _).trans hb2', fun z hz => HKS.out _ _ _ z hgrow hz⟩, ⟨⟨_, hv2', ?_⟩, HKS.out _ _ _ _ hgrow hs⟩, (hB.setCell (p := ⟨Bx, 1, none⟩) (show w.heap.size ≤ Bx by omega) _).trans hb2'⟩
    have e1 : (pre ++ [(xi, (⟨x0, xa, ⟨p, m, b, q, s, u⟩⟩ : Op8))]).map (fun x => tu1 x.2) = pre.map (fun x => tu1 x.2) ++ [⟨x0, !xa, ⟨p, m, b, q, s, u⟩⟩] := by simp [tu1]
    rw [e1, cellsG_app, cellsG_one, List.length_append]
    exact hr2
  case done =>
    rintro D ys W hD rfl ⟨⟨⟨v, hv, hrow, _⟩, hs⟩, hB⟩ hK
    have hc := hv.cell
    gi_wp2
    refine ⟨by simp, .inl ⟨_, _, rfl, run_takeDeferred hK, ?_⟩⟩
    rw [bk_all, bk_len, ← tu_len] at hrow
    exact ⟨_, results_tmp rfl _ _ _, v, rfl, ownsRow_putObj hrow _ hK rfl, hB.trans (belowK_b (w := w) (Nat.le_refl _) W D _ _ (by omega) hK rfl rfl)⟩
  case stop =>
    rintro D c pre W _ _ h _
    exact h.elim
theorem turn_any (a : Option Addr) (len cap : Nat) (L : List Op8) (w : World) (hlen : L.length * 64 ≤ 140737488355328) (hG : GS opE w (.slice a len cap) L) :
    Calls Tryd.prog 15 #[.slice a len cap] w fun e W' => ∃ v, e = .returned v ∧ NO W' w.heap.size v (tuL L) ∧ Below w.heap.size w W' := by
  refine (callsIn_wide (n := 3)).1 ?_
  exact turn_in _ 3 trivial trivial trivial rfl (by omega) a len cap L w hlen hG
end Go.Proofs.YtokkmnednhigmaeDoor
/- What the document's own in and Do answer: a change of a table that is right. -/
namespace Go.Proofs.YtokkmnednhigmaeDoor
open Go.RowKit
set_option linter.unusedSimpArgs false
set_option linter.unusedVariables false

theorem eqR_sy (a b : Ru) : eqR a b = eqR b a := by
  cases h : eqR b a
  · exact eq_no.2 (fun e => (eq_no.1 h) e.symm)
  · exact eq_R.2 (eq_R.1 h).symm
set_option maxHeartbeats 2000000 in
set_option maxRecDepth 100000 in
theorem refIn_any (ao : Option Addr) (n cap : Nat) (p m b o s v : Int) (L : List Ru) (w : World) (hs : SR w (.slice ao n cap) L) :
    Calls Tryd.prog 47 #[.slice ao n cap, .agg #[.int .i64 p, .int .i64 m, .int .i64 b, .int .i64 o, .int .i64 s, .int .i64 v]] w fun e w' => e = .returned (.bool (inB L ⟨p, m, b, o, s, v⟩)) ∧ Below w.heap.size w w' := by
  obtain ⟨ao', n', cap', e, hn, hn2, hn3, ha⟩ := hs.form
  cases e
  have HN : Hid (L.length = n) := hn
  have HA : Hid (0 < n → ∃ g o, ao = some ⟨g, o, none⟩ ∧ RAt w g o L ∧ cap ≤ maxLen) := ha
  have HC0 := C6.new w p m b o s v 51
  have HB0 : Hid (Below w.heap.size w (w.alloc (Obj.cells #[Value.int IntKind.i64 p, Value.int IntKind.i64 m, Value.int IntKind.i64 b, Value.int IntKind.i64 o, Value.int IntKind.i64 s, Value.int IntKind.i64 v] 51))) := (Below.refl _ _).alloc (Nat.le_refl _) _
  unfold maxLen at hn2
  clear hn ha hs
  go_enter Tryd.func47, Tryd.ntmps47
  go_wp2
  go_loopw [5] (fun i wr => ∃ k : Nat, k ≤ n ∧ i = .int .i64 k ∧ (L.take k).any (fun a => eqR ⟨p, m, b, o, s, v⟩ a) = false ∧ Below w.heap.size w wr ∧ C6 wr w.heap.size 0 ⟨p, m, b, o, s, v⟩)
    (fun i _ => n - (intOf i).toNat)
  case atStart => exact ⟨0, by omega, rfl, by simp, HB0.out, HC0⟩
  case round =>
    obtain ⟨k, hk, rfl, hno, hB, hC⟩ := hrel
    have HB : Hid (Below w.heap.size w wr) := hB
    have HC : Hid (C6 wr w.heap.size 0 ⟨p, m, b, o, s, v⟩) := hC
    have HNO : Hid ((L.take k).any (fun a => eqR ⟨p, m, b, o, s, v⟩ a) = false) := hno
    clear hno HC0 HB0
    by_cases hlt : k < n
    · obtain ⟨g, og, hao, hc, _⟩ := HA.out (by omega)
      subst hao
      obtain ⟨p', m', b', o', s', v', hkl, hL, q0, q1, q2, q3, q4, q5⟩ := (hc.later hB).at HN.out hlt
      have HL : Hid (L[k] = ⟨p', m', b', o', s', v'⟩) := hL
      obtain ⟨r0, r1, r2, r3, r4, r5⟩ := hC
      simp only [Nat.zero_add] at r0 r1 r2 r3 r4 r5
      have HCE : Hid (CI wr w.heap.size p m b o s v g (og + k * 6) p' m' b' o' s' v' wr) := ⟨Below.refl _ _, ⟨r0, r1, r2, r3, r4, r5⟩, q0, q1, q2, q3, q4, q5⟩
      clear hL hB HA q0 q1 q2 q3 q4 q5 r0 r1 r2 r3 r4 r5
      go_upto_region 4 with fail
      have kb0 : (0 : Int) ≤ (k : Int) := by omega
      have kb1 : (k : Int) < (n : Int) := by omega
      go_cut [17] from 6 to 17 (fun c w' => c = .bool (eqR ⟨p', m', b', o', s', v'⟩ ⟨p, m, b, o, s, v⟩) ∧ Below wr.heap.size wr w')
      case first =>
        as_aux_lemma =>
          refine wp_region_quiet (C := CI wr w.heap.size p m b o s v g (og + k * 6) p' m' b' o' s' v') (by kernel_rfl) (by kernel_rfl) (CI.later (W := wr) (Below.drew (Below.refl _ _)) HCE.out) ?_
          simp only [List.toList_toArray]
          go_big_quiet_want
          refine quiet_val (v := .slice (some ⟨g, og, none⟩) n cap) (fun w' hC => ?_) ?_
          · obtain ⟨z0, ⟨z1, z2, z3, z4, z5, z6⟩, y1, y2, y3, y4, y5, y6⟩ := hC
            go_simp
          simp only [Act.put, List.setIfInBounds_toArray, List.set_cons_zero, List.set_cons_succ]
          go_big_quiet_on
          go_big_quiet_want
          refine quiet_val (v := .int .i64 (k : Int)) (fun w' hC => ?_) ?_
          · obtain ⟨z0, ⟨z1, z2, z3, z4, z5, z6⟩, y1, y2, y3, y4, y5, y6⟩ := hC
            go_simp
          simp only [Act.put, List.setIfInBounds_toArray, List.set_cons_zero, List.set_cons_succ]
          go_big_quiet_on
          go_big_quiet_want
          refine quiet_val (v := .pointer (some ⟨g, og + k * 6, none⟩)) (fun w' hC => ?_) ?_
          · obtain ⟨z0, ⟨z1, z2, z3, z4, z5, z6⟩, y1, y2, y3, y4, y5, y6⟩ := hC
            go_simp
          simp only [Act.put, List.setIfInBounds_toArray, List.set_cons_zero, List.set_cons_succ]
          go_big_quiet_on
          go_big_quiet_want
          refine quiet_val (v := .agg #[.int .i64 p', .int .i64 m', .int .i64 b', .int .i64 o', .int .i64 s', .int .i64 v']) (fun w' hC => ?_) ?_
          · obtain ⟨z0, ⟨z1, z2, z3, z4, z5, z6⟩, y1, y2, y3, y4, y5, y6⟩ := hC
            go_simp
          simp only [Act.put, List.setIfInBounds_toArray, List.set_cons_zero, List.set_cons_succ]
          go_big_quiet_on
          go_big_quiet_want
          refine quiet_val (v := .agg #[.int .i64 p, .int .i64 m, .int .i64 b, .int .i64 o, .int .i64 s, .int .i64 v]) (fun w' hC => ?_) ?_
          · obtain ⟨z0, ⟨z1, z2, z3, z4, z5, z6⟩, y1, y2, y3, y4, y5, y6⟩ := hC
            go_simp
          simp only [Act.put, List.setIfInBounds_toArray, List.set_cons_zero, List.set_cons_succ]
          go_big_quiet_on
          go_big_quiet_want
          refine quiet_val (v := .bool (eqR ⟨p', m', b', o', s', v'⟩ ⟨p, m, b, o, s, v⟩)) (fun w' hC => exec_bin rfl (by go_simp) (run_eqlR p' m' b' o' s' v' p m b o s v w')) ?_
          simp only [Act.put, List.setIfInBounds_toArray, List.set_cons_zero, List.set_cons_succ]
          go_big_quiet_on
          refine wpQuiet_nil ?_
          intro w' hC
          go_wp2_with fail
          go_meet
          case rel => exact ⟨rfl, hC.1⟩
      case rest =>
        obtain ⟨rfl, hB2⟩ := hcut
        have HB2 : Hid (Below w.heap.size w wc) := HB.out.trans (hB2.mono HB.out.size)
        have HC2 : Hid (C6 wc w.heap.size 0 ⟨p, m, b, o, s, v⟩) := HC.out.later hB2
        clear hB2
        cases ho : eqR ⟨p', m', b', o', s', v'⟩ ⟨p, m, b, o, s, v⟩
        · go_wp2
          go_roundw
          case rel => exact ⟨k + 1, by omega, by go_num, any_nextR hkl HNO.out (by rw [HL.out, eqR_sy]; exact ho), HB2.out, HC2.out⟩
          case measure => simp [intOf]; omega
        · go_wp2
          go_ret
          exact ⟨by rw [inB, any_hitR hkl (by rw [HL.out, eqR_sy]; exact ho)]; rfl, HB2.out⟩
    · obtain rfl : k = n := by omega
      go_wp2
      go_ret
      exact ⟨by have := HNO.out; rw [← HN.out, List.take_length] at this; rw [inB, this]; rfl, HB.out⟩

/-- Where a rule stands among the first k, or -1. -/
def atTo (L : List Ru) (r : Ru) (k : Nat) : Int := if inB (L.take k) r then (ixN L r : Int) else -1
theorem at_0 (L : List Ru) (r : Ru) : atTo L r 0 = -1 := by simp [atTo, inB]
theorem at_no {L : List Ru} {r x : Ru} {k : Nat} (hk : k < L.length) (hx : L[k] = x) (h : eqR x r = false) : atTo L r (k + 1) = atTo L r k := by
  have e : inB (L.take (k + 1)) r = inB (L.take k) r := by
    rw [List.take_succ_eq_append_getElem hk, hx]
    simp [inB, eqR_sy r x, h]
  rw [atTo, atTo, e]
theorem at_yes {L : List Ru} {r x : Ru} {k : Nat} (hk : k < L.length) (hx : L[k] = x) (hL : tbN L = 0) (h : eqR x r = true) : atTo L r (k + 1) = (k : Int) := by
  obtain rfl := eq_R.1 h
  have e : inB (L.take (k + 1)) x = true := in_iff.2 (by rw [List.take_succ_eq_append_getElem hk, hx]; simp)
  have hn := tb_nodup hL
  have hsp : L = L.take k ++ x :: L.drop (k + 1) := by
    rw [← hx]
    simp
  have hno : x ∉ L.take k := by
    intro hm
    rw [hsp, List.nodup_append] at hn
    exact hn.2.2 x hm x (by simp) rfl
  rw [atTo, e, if_pos rfl]
  have := ix_split (M := L.drop (k + 1)) hno
  rw [← hsp] at this
  rw [this, List.length_take]
  omega
theorem key_of_eq {a b : Ru} (h : keyB a b = false) : eqR a b = false := by
  cases e : eqR a b
  · rfl
  · rw [eq_R.1 e, key_rf] at h; cases h
theorem at_all {L : List Ru} {r : Ru} : atTo L r L.length = if inB L r then (ixN L r : Int) else -1 := by rw [atTo, List.take_length]
theorem any_step {L : List Ru} {f : Ru → Bool} {k : Nat} {x : Ru} (hk : k < L.length) (hx : L[k] = x) : (L.take (k + 1)).any f = ((L.take k).any f || f x) := by
  rw [List.take_succ_eq_append_getElem hk, hx]
  simp
theorem SR.later' {w w' : World} {v : Value} {L : List Ru} (h : SR w v L) (hb : Below w.heap.size w w') : SR w' v L := h.later hb
theorem append_le {L : List Ru} {n : Nat} (h : L.length = n) (h2 : tbN L = 0) : n ≤ 12 := by
  have := (tb_iff.1 h2).1
  omega
set_option maxHeartbeats 4000000 in
set_option maxRecDepth 100000 in
theorem refDo_any (ao : Option Addr) (n cap : Nat) (a : Bool) (p m b o s v : Int) (L : List Ru) (w : World) (hs : SR w (.slice ao n cap) L) (h0 : tbN L = 0) :
    Calls Tryd.prog 19 #[.slice ao n cap, .bool a, .agg #[.int .i64 p, .int .i64 m, .int .i64 b, .int .i64 o, .int .i64 s, .int .i64 v]] w fun e w' => ∃ u, e = .returned (.tuple #[u, .int .i64 (chN L a ⟨p, m, b, o, s, v⟩)]) ∧ NR w' w.heap.size u (chL L a ⟨p, m, b, o, s, v⟩) ∧ Below w.heap.size w w' := by
  obtain ⟨ao', n', cap', e, hn, hn2, hn3, ha⟩ := hs.form
  cases e
  have HN : Hid (L.length = n) := hn
  have HA : Hid (0 < n → ∃ g o, ao = some ⟨g, o, none⟩ ∧ RAt w g o L ∧ cap ≤ maxLen) := ha
  have H0 : Hid (tbN L = 0) := h0
  have HS : Hid (SR w (.slice ao n cap) L) := hs
  have hn12 := append_le hn h0
  have HC0 := C6.new w p m b o s v 51
  have HB0 : Hid (Below w.heap.size w (w.alloc (Obj.cells #[Value.int IntKind.i64 p, Value.int IntKind.i64 m, Value.int IntKind.i64 b, Value.int IntKind.i64 o, Value.int IntKind.i64 s, Value.int IntKind.i64 v] 51))) := (Below.refl _ _).alloc (Nat.le_refl _) _
  clear hn ha hs hn2 h0
  go_enter Tryd.func19, Tryd.ntmps19
  go_wp2
  go_loopw [8, 9, 10] (fun x y i wr => ∃ k : Nat, k ≤ n ∧ i = .int .i64 k ∧ x = .int .i64 (atTo L ⟨p, m, b, o, s, v⟩ k) ∧ y = .bool ((L.take k).any fun a => keyB a ⟨p, m, b, o, s, v⟩) ∧ Below w.heap.size w wr ∧ C6 wr w.heap.size 0 ⟨p, m, b, o, s, v⟩)
    (fun x y i _ => n - (intOf i).toNat)
  case atStart => exact ⟨0, by omega, rfl, by rw [at_0], by simp, HB0.out, HC0⟩
  case round =>
    obtain ⟨k, hk, rfl, rfl, rfl, hB, hC⟩ := hrel
    have HB : Hid (Below w.heap.size w wr) := hB
    have HC : Hid (C6 wr w.heap.size 0 ⟨p, m, b, o, s, v⟩) := hC
    clear HC0 HB0
    by_cases hlt : k < n
    · obtain ⟨g, og, hao, hc, _⟩ := HA.out (by omega)
      subst hao
      obtain ⟨p', m', b', o', s', v', hkl, hL, q0, q1, q2, q3, q4, q5⟩ := (hc.later hB).at HN.out hlt
      have HL : Hid (L[k] = ⟨p', m', b', o', s', v'⟩) := hL
      obtain ⟨r0, r1, r2, r3, r4, r5⟩ := hC
      simp only [Nat.zero_add] at r0 r1 r2 r3 r4 r5
      have HCE : Hid (CI wr w.heap.size p m b o s v g (og + k * 6) p' m' b' o' s' v' wr) := ⟨Below.refl _ _, ⟨r0, r1, r2, r3, r4, r5⟩, q0, q1, q2, q3, q4, q5⟩
      obtain ⟨X, hX⟩ : ∃ X, X = atTo L ⟨p, m, b, o, s, v⟩ k := ⟨_, rfl⟩
      obtain ⟨Y, hY⟩ : ∃ Y, Y = ((L.take k).any fun a => keyB a ⟨p, m, b, o, s, v⟩) := ⟨_, rfl⟩
      have HX : Hid (X = atTo L ⟨p, m, b, o, s, v⟩ k) := hX
      have HY : Hid (Y = ((L.take k).any fun a => keyB a ⟨p, m, b, o, s, v⟩)) := hY
      rw [← hX, ← hY]
      clear hX hY hL hB HA q0 q1 q2 q3 q4 q5 r0 r1 r2 r3 r4 r5
      go_upto_region 6 with fail
      have kb0 : (0 : Int) ≤ (k : Int) := by omega
      have kb1 : (k : Int) < (n : Int) := by omega
      go_cut [35] from 12 to 42 (fun c w' => c = .bool (keyB ⟨p', m', b', o', s', v'⟩ ⟨p, m, b, o, s, v⟩) ∧ Below wr.heap.size wr w')
      case first =>
        as_aux_lemma =>
          by_cases e1 : p' = p
          · have f1 : (p' == p) = true := by simpa using e1
            by_cases e2 : m' = m
            · have f2 : (m' == m) = true := by simpa using e2
              by_cases e3 : b' = b
              · have f3 : (b' == b) = true := by simpa using e3
                have hky : keyB ⟨p', m', b', o', s', v'⟩ ⟨p, m, b, o, s, v⟩ = true := by rw [key_eq]; simp [e1, e2, e3]
                clear e1 e2 e3
                refine wp_region_quiet (C := CI wr w.heap.size p m b o s v g (og + k * 6) p' m' b' o' s' v') (by kernel_rfl) (by kernel_rfl) (CI.later (W := wr) (Below.drew (Below.refl _ _)) HCE.out) ?_
                simp only [List.toList_toArray]
                go_big_quiet_want
                refine quiet_val (v := .slice (some ⟨g, og, none⟩) n cap) (fun w' hC => ?_) ?_
                · obtain ⟨z0, ⟨z1, z2, z3, z4, z5, z6⟩, y1, y2, y3, y4, y5, y6⟩ := hC
                  go_simp
                simp only [Act.put, List.setIfInBounds_toArray, List.set_cons_zero, List.set_cons_succ]
                go_big_quiet_on
                go_big_quiet_want
                refine quiet_val (v := .int .i64 (k : Int)) (fun w' hC => ?_) ?_
                · obtain ⟨z0, ⟨z1, z2, z3, z4, z5, z6⟩, y1, y2, y3, y4, y5, y6⟩ := hC
                  go_simp
                simp only [Act.put, List.setIfInBounds_toArray, List.set_cons_zero, List.set_cons_succ]
                go_big_quiet_on
                go_big_quiet_want
                refine quiet_val (v := .pointer (some ⟨g, og + k * 6, none⟩)) (fun w' hC => ?_) ?_
                · obtain ⟨z0, ⟨z1, z2, z3, z4, z5, z6⟩, y1, y2, y3, y4, y5, y6⟩ := hC
                  go_simp
                simp only [Act.put, List.setIfInBounds_toArray, List.set_cons_zero, List.set_cons_succ]
                go_big_quiet_on
                go_big_quiet_want
                refine quiet_val (v := .pointer (some ⟨g, og + k * 6, none⟩)) (fun w' hC => ?_) ?_
                · obtain ⟨z0, ⟨z1, z2, z3, z4, z5, z6⟩, y1, y2, y3, y4, y5, y6⟩ := hC
                  go_simp
                simp only [Act.put, List.setIfInBounds_toArray, List.set_cons_zero, List.set_cons_succ]
                go_big_quiet_on
                go_big_quiet_want
                refine quiet_val (v := .int .i64 p') (fun w' hC => ?_) ?_
                · obtain ⟨z0, ⟨z1, z2, z3, z4, z5, z6⟩, y1, y2, y3, y4, y5, y6⟩ := hC
                  go_simp
                simp only [Act.put, List.setIfInBounds_toArray, List.set_cons_zero, List.set_cons_succ]
                go_big_quiet_on
                go_big_quiet_want
                refine quiet_val (v := .pointer (some ⟨w.heap.size, 0, none⟩)) (fun w' hC => ?_) ?_
                · obtain ⟨z0, ⟨z1, z2, z3, z4, z5, z6⟩, y1, y2, y3, y4, y5, y6⟩ := hC
                  go_simp
                simp only [Act.put, List.setIfInBounds_toArray, List.set_cons_zero, List.set_cons_succ]
                go_big_quiet_on
                go_big_quiet_want
                refine quiet_val (v := .int .i64 p) (fun w' hC => ?_) ?_
                · obtain ⟨z0, ⟨z1, z2, z3, z4, z5, z6⟩, y1, y2, y3, y4, y5, y6⟩ := hC
                  go_simp
                simp only [Act.put, List.setIfInBounds_toArray, List.set_cons_zero, List.set_cons_succ]
                go_big_quiet_on
                go_big_quiet_want
                refine quiet_val (v := .bool true) (fun w' hC => ?_) ?_
                · obtain ⟨z0, ⟨z1, z2, z3, z4, z5, z6⟩, y1, y2, y3, y4, y5, y6⟩ := hC
                  go_simp
                simp only [Act.put, List.setIfInBounds_toArray, List.set_cons_zero, List.set_cons_succ]
                go_big_quiet_on
                go_big_quiet_want
                refine quiet_val (v := .bool true) (fun w' hC => ?_) ?_
                · obtain ⟨z0, ⟨z1, z2, z3, z4, z5, z6⟩, y1, y2, y3, y4, y5, y6⟩ := hC
                  go_simp
                simp only [Act.put, List.setIfInBounds_toArray, List.set_cons_zero, List.set_cons_succ]
                go_big_quiet_on
                go_big_quiet_want
                refine quiet_val (v := .slice (some ⟨g, og, none⟩) n cap) (fun w' hC => ?_) ?_
                · obtain ⟨z0, ⟨z1, z2, z3, z4, z5, z6⟩, y1, y2, y3, y4, y5, y6⟩ := hC
                  go_simp
                simp only [Act.put, List.setIfInBounds_toArray, List.set_cons_zero, List.set_cons_succ]
                go_big_quiet_on
                go_big_quiet_want
                refine quiet_val (v := .int .i64 (k : Int)) (fun w' hC => ?_) ?_
                · obtain ⟨z0, ⟨z1, z2, z3, z4, z5, z6⟩, y1, y2, y3, y4, y5, y6⟩ := hC
                  go_simp
                simp only [Act.put, List.setIfInBounds_toArray, List.set_cons_zero, List.set_cons_succ]
                go_big_quiet_on
                go_big_quiet_want
                refine quiet_val (v := .pointer (some ⟨g, og + k * 6, none⟩)) (fun w' hC => ?_) ?_
                · obtain ⟨z0, ⟨z1, z2, z3, z4, z5, z6⟩, y1, y2, y3, y4, y5, y6⟩ := hC
                  go_simp
                simp only [Act.put, List.setIfInBounds_toArray, List.set_cons_zero, List.set_cons_succ]
                go_big_quiet_on
                go_big_quiet_want
                refine quiet_val (v := .pointer (some ⟨g, og + k * 6 + 1, none⟩)) (fun w' hC => ?_) ?_
                · obtain ⟨z0, ⟨z1, z2, z3, z4, z5, z6⟩, y1, y2, y3, y4, y5, y6⟩ := hC
                  go_simp
                simp only [Act.put, List.setIfInBounds_toArray, List.set_cons_zero, List.set_cons_succ]
                go_big_quiet_on
                go_big_quiet_want
                refine quiet_val (v := .agg #[.int .i64 m', .int .i64 b']) (fun w' hC => ?_) ?_
                · obtain ⟨z0, ⟨z1, z2, z3, z4, z5, z6⟩, y1, y2, y3, y4, y5, y6⟩ := hC
                  go_simp
                simp only [Act.put, List.setIfInBounds_toArray, List.set_cons_zero, List.set_cons_succ]
                go_big_quiet_on
                go_big_quiet_want
                refine quiet_val (v := .pointer (some ⟨w.heap.size, 1, none⟩)) (fun w' hC => ?_) ?_
                · obtain ⟨z0, ⟨z1, z2, z3, z4, z5, z6⟩, y1, y2, y3, y4, y5, y6⟩ := hC
                  go_simp
                simp only [Act.put, List.setIfInBounds_toArray, List.set_cons_zero, List.set_cons_succ]
                go_big_quiet_on
                go_big_quiet_want
                refine quiet_val (v := .agg #[.int .i64 m, .int .i64 b]) (fun w' hC => ?_) ?_
                · obtain ⟨z0, ⟨z1, z2, z3, z4, z5, z6⟩, y1, y2, y3, y4, y5, y6⟩ := hC
                  go_simp
                simp only [Act.put, List.setIfInBounds_toArray, List.set_cons_zero, List.set_cons_succ]
                go_big_quiet_on
                go_big_quiet_want
                refine quiet_val (v := .bool true) (fun w' hC => ?_) ?_
                · obtain ⟨z0, ⟨z1, z2, z3, z4, z5, z6⟩, y1, y2, y3, y4, y5, y6⟩ := hC
                  go_simp
                simp only [Act.put, List.setIfInBounds_toArray, List.set_cons_zero, List.set_cons_succ]
                go_big_quiet_on
                go_big_quiet_want
                refine quiet_val (v := .bool true) (fun w' hC => ?_) ?_
                · obtain ⟨z0, ⟨z1, z2, z3, z4, z5, z6⟩, y1, y2, y3, y4, y5, y6⟩ := hC
                  go_simp
                simp only [Act.put, List.setIfInBounds_toArray, List.set_cons_zero, List.set_cons_succ]
                go_big_quiet_on
                refine wpQuiet_nil ?_
                intro w' hC
                go_wp2_with fail
                go_meet
                case rel => exact ⟨by rw [hky], hC.1⟩
              · have f3 : (b' == b) = false := by simpa using e3
                have hky : keyB ⟨p', m', b', o', s', v'⟩ ⟨p, m, b, o, s, v⟩ = false := by rw [key_eq]; simp [e1, e2, e3]
                clear e1 e2 e3
                refine wp_region_quiet (C := CI wr w.heap.size p m b o s v g (og + k * 6) p' m' b' o' s' v') (by kernel_rfl) (by kernel_rfl) (CI.later (W := wr) (Below.drew (Below.refl _ _)) HCE.out) ?_
                simp only [List.toList_toArray]
                go_big_quiet_want
                refine quiet_val (v := .slice (some ⟨g, og, none⟩) n cap) (fun w' hC => ?_) ?_
                · obtain ⟨z0, ⟨z1, z2, z3, z4, z5, z6⟩, y1, y2, y3, y4, y5, y6⟩ := hC
                  go_simp
                simp only [Act.put, List.setIfInBounds_toArray, List.set_cons_zero, List.set_cons_succ]
                go_big_quiet_on
                go_big_quiet_want
                refine quiet_val (v := .int .i64 (k : Int)) (fun w' hC => ?_) ?_
                · obtain ⟨z0, ⟨z1, z2, z3, z4, z5, z6⟩, y1, y2, y3, y4, y5, y6⟩ := hC
                  go_simp
                simp only [Act.put, List.setIfInBounds_toArray, List.set_cons_zero, List.set_cons_succ]
                go_big_quiet_on
                go_big_quiet_want
                refine quiet_val (v := .pointer (some ⟨g, og + k * 6, none⟩)) (fun w' hC => ?_) ?_
                · obtain ⟨z0, ⟨z1, z2, z3, z4, z5, z6⟩, y1, y2, y3, y4, y5, y6⟩ := hC
                  go_simp
                simp only [Act.put, List.setIfInBounds_toArray, List.set_cons_zero, List.set_cons_succ]
                go_big_quiet_on
                go_big_quiet_want
                refine quiet_val (v := .pointer (some ⟨g, og + k * 6, none⟩)) (fun w' hC => ?_) ?_
                · obtain ⟨z0, ⟨z1, z2, z3, z4, z5, z6⟩, y1, y2, y3, y4, y5, y6⟩ := hC
                  go_simp
                simp only [Act.put, List.setIfInBounds_toArray, List.set_cons_zero, List.set_cons_succ]
                go_big_quiet_on
                go_big_quiet_want
                refine quiet_val (v := .int .i64 p') (fun w' hC => ?_) ?_
                · obtain ⟨z0, ⟨z1, z2, z3, z4, z5, z6⟩, y1, y2, y3, y4, y5, y6⟩ := hC
                  go_simp
                simp only [Act.put, List.setIfInBounds_toArray, List.set_cons_zero, List.set_cons_succ]
                go_big_quiet_on
                go_big_quiet_want
                refine quiet_val (v := .pointer (some ⟨w.heap.size, 0, none⟩)) (fun w' hC => ?_) ?_
                · obtain ⟨z0, ⟨z1, z2, z3, z4, z5, z6⟩, y1, y2, y3, y4, y5, y6⟩ := hC
                  go_simp
                simp only [Act.put, List.setIfInBounds_toArray, List.set_cons_zero, List.set_cons_succ]
                go_big_quiet_on
                go_big_quiet_want
                refine quiet_val (v := .int .i64 p) (fun w' hC => ?_) ?_
                · obtain ⟨z0, ⟨z1, z2, z3, z4, z5, z6⟩, y1, y2, y3, y4, y5, y6⟩ := hC
                  go_simp
                simp only [Act.put, List.setIfInBounds_toArray, List.set_cons_zero, List.set_cons_succ]
                go_big_quiet_on
                go_big_quiet_want
                refine quiet_val (v := .bool true) (fun w' hC => ?_) ?_
                · obtain ⟨z0, ⟨z1, z2, z3, z4, z5, z6⟩, y1, y2, y3, y4, y5, y6⟩ := hC
                  go_simp
                simp only [Act.put, List.setIfInBounds_toArray, List.set_cons_zero, List.set_cons_succ]
                go_big_quiet_on
                go_big_quiet_want
                refine quiet_val (v := .bool true) (fun w' hC => ?_) ?_
                · obtain ⟨z0, ⟨z1, z2, z3, z4, z5, z6⟩, y1, y2, y3, y4, y5, y6⟩ := hC
                  go_simp
                simp only [Act.put, List.setIfInBounds_toArray, List.set_cons_zero, List.set_cons_succ]
                go_big_quiet_on
                go_big_quiet_want
                refine quiet_val (v := .slice (some ⟨g, og, none⟩) n cap) (fun w' hC => ?_) ?_
                · obtain ⟨z0, ⟨z1, z2, z3, z4, z5, z6⟩, y1, y2, y3, y4, y5, y6⟩ := hC
                  go_simp
                simp only [Act.put, List.setIfInBounds_toArray, List.set_cons_zero, List.set_cons_succ]
                go_big_quiet_on
                go_big_quiet_want
                refine quiet_val (v := .int .i64 (k : Int)) (fun w' hC => ?_) ?_
                · obtain ⟨z0, ⟨z1, z2, z3, z4, z5, z6⟩, y1, y2, y3, y4, y5, y6⟩ := hC
                  go_simp
                simp only [Act.put, List.setIfInBounds_toArray, List.set_cons_zero, List.set_cons_succ]
                go_big_quiet_on
                go_big_quiet_want
                refine quiet_val (v := .pointer (some ⟨g, og + k * 6, none⟩)) (fun w' hC => ?_) ?_
                · obtain ⟨z0, ⟨z1, z2, z3, z4, z5, z6⟩, y1, y2, y3, y4, y5, y6⟩ := hC
                  go_simp
                simp only [Act.put, List.setIfInBounds_toArray, List.set_cons_zero, List.set_cons_succ]
                go_big_quiet_on
                go_big_quiet_want
                refine quiet_val (v := .pointer (some ⟨g, og + k * 6 + 1, none⟩)) (fun w' hC => ?_) ?_
                · obtain ⟨z0, ⟨z1, z2, z3, z4, z5, z6⟩, y1, y2, y3, y4, y5, y6⟩ := hC
                  go_simp
                simp only [Act.put, List.setIfInBounds_toArray, List.set_cons_zero, List.set_cons_succ]
                go_big_quiet_on
                go_big_quiet_want
                refine quiet_val (v := .agg #[.int .i64 m', .int .i64 b']) (fun w' hC => ?_) ?_
                · obtain ⟨z0, ⟨z1, z2, z3, z4, z5, z6⟩, y1, y2, y3, y4, y5, y6⟩ := hC
                  go_simp
                simp only [Act.put, List.setIfInBounds_toArray, List.set_cons_zero, List.set_cons_succ]
                go_big_quiet_on
                go_big_quiet_want
                refine quiet_val (v := .pointer (some ⟨w.heap.size, 1, none⟩)) (fun w' hC => ?_) ?_
                · obtain ⟨z0, ⟨z1, z2, z3, z4, z5, z6⟩, y1, y2, y3, y4, y5, y6⟩ := hC
                  go_simp
                simp only [Act.put, List.setIfInBounds_toArray, List.set_cons_zero, List.set_cons_succ]
                go_big_quiet_on
                go_big_quiet_want
                refine quiet_val (v := .agg #[.int .i64 m, .int .i64 b]) (fun w' hC => ?_) ?_
                · obtain ⟨z0, ⟨z1, z2, z3, z4, z5, z6⟩, y1, y2, y3, y4, y5, y6⟩ := hC
                  go_simp
                simp only [Act.put, List.setIfInBounds_toArray, List.set_cons_zero, List.set_cons_succ]
                go_big_quiet_on
                go_big_quiet_want
                refine quiet_val (v := .bool false) (fun w' hC => ?_) ?_
                · obtain ⟨z0, ⟨z1, z2, z3, z4, z5, z6⟩, y1, y2, y3, y4, y5, y6⟩ := hC
                  go_simp
                simp only [Act.put, List.setIfInBounds_toArray, List.set_cons_zero, List.set_cons_succ]
                go_big_quiet_on
                go_big_quiet_want
                refine quiet_val (v := .bool false) (fun w' hC => ?_) ?_
                · obtain ⟨z0, ⟨z1, z2, z3, z4, z5, z6⟩, y1, y2, y3, y4, y5, y6⟩ := hC
                  go_simp
                simp only [Act.put, List.setIfInBounds_toArray, List.set_cons_zero, List.set_cons_succ]
                go_big_quiet_on
                refine wpQuiet_nil ?_
                intro w' hC
                go_wp2_with fail
                go_meet
                case rel => exact ⟨by rw [hky], hC.1⟩
            · have f2 : (m' == m) = false := by simpa using e2
              have hky : keyB ⟨p', m', b', o', s', v'⟩ ⟨p, m, b, o, s, v⟩ = false := by rw [key_eq]; simp [e1, e2]
              clear e1 e2
              refine wp_region_quiet (C := CI wr w.heap.size p m b o s v g (og + k * 6) p' m' b' o' s' v') (by kernel_rfl) (by kernel_rfl) (CI.later (W := wr) (Below.drew (Below.refl _ _)) HCE.out) ?_
              simp only [List.toList_toArray]
              go_big_quiet_want
              refine quiet_val (v := .slice (some ⟨g, og, none⟩) n cap) (fun w' hC => ?_) ?_
              · obtain ⟨z0, ⟨z1, z2, z3, z4, z5, z6⟩, y1, y2, y3, y4, y5, y6⟩ := hC
                go_simp
              simp only [Act.put, List.setIfInBounds_toArray, List.set_cons_zero, List.set_cons_succ]
              go_big_quiet_on
              go_big_quiet_want
              refine quiet_val (v := .int .i64 (k : Int)) (fun w' hC => ?_) ?_
              · obtain ⟨z0, ⟨z1, z2, z3, z4, z5, z6⟩, y1, y2, y3, y4, y5, y6⟩ := hC
                go_simp
              simp only [Act.put, List.setIfInBounds_toArray, List.set_cons_zero, List.set_cons_succ]
              go_big_quiet_on
              go_big_quiet_want
              refine quiet_val (v := .pointer (some ⟨g, og + k * 6, none⟩)) (fun w' hC => ?_) ?_
              · obtain ⟨z0, ⟨z1, z2, z3, z4, z5, z6⟩, y1, y2, y3, y4, y5, y6⟩ := hC
                go_simp
              simp only [Act.put, List.setIfInBounds_toArray, List.set_cons_zero, List.set_cons_succ]
              go_big_quiet_on
              go_big_quiet_want
              refine quiet_val (v := .pointer (some ⟨g, og + k * 6, none⟩)) (fun w' hC => ?_) ?_
              · obtain ⟨z0, ⟨z1, z2, z3, z4, z5, z6⟩, y1, y2, y3, y4, y5, y6⟩ := hC
                go_simp
              simp only [Act.put, List.setIfInBounds_toArray, List.set_cons_zero, List.set_cons_succ]
              go_big_quiet_on
              go_big_quiet_want
              refine quiet_val (v := .int .i64 p') (fun w' hC => ?_) ?_
              · obtain ⟨z0, ⟨z1, z2, z3, z4, z5, z6⟩, y1, y2, y3, y4, y5, y6⟩ := hC
                go_simp
              simp only [Act.put, List.setIfInBounds_toArray, List.set_cons_zero, List.set_cons_succ]
              go_big_quiet_on
              go_big_quiet_want
              refine quiet_val (v := .pointer (some ⟨w.heap.size, 0, none⟩)) (fun w' hC => ?_) ?_
              · obtain ⟨z0, ⟨z1, z2, z3, z4, z5, z6⟩, y1, y2, y3, y4, y5, y6⟩ := hC
                go_simp
              simp only [Act.put, List.setIfInBounds_toArray, List.set_cons_zero, List.set_cons_succ]
              go_big_quiet_on
              go_big_quiet_want
              refine quiet_val (v := .int .i64 p) (fun w' hC => ?_) ?_
              · obtain ⟨z0, ⟨z1, z2, z3, z4, z5, z6⟩, y1, y2, y3, y4, y5, y6⟩ := hC
                go_simp
              simp only [Act.put, List.setIfInBounds_toArray, List.set_cons_zero, List.set_cons_succ]
              go_big_quiet_on
              go_big_quiet_want
              refine quiet_val (v := .bool true) (fun w' hC => ?_) ?_
              · obtain ⟨z0, ⟨z1, z2, z3, z4, z5, z6⟩, y1, y2, y3, y4, y5, y6⟩ := hC
                go_simp
              simp only [Act.put, List.setIfInBounds_toArray, List.set_cons_zero, List.set_cons_succ]
              go_big_quiet_on
              go_big_quiet_want
              refine quiet_val (v := .bool true) (fun w' hC => ?_) ?_
              · obtain ⟨z0, ⟨z1, z2, z3, z4, z5, z6⟩, y1, y2, y3, y4, y5, y6⟩ := hC
                go_simp
              simp only [Act.put, List.setIfInBounds_toArray, List.set_cons_zero, List.set_cons_succ]
              go_big_quiet_on
              go_big_quiet_want
              refine quiet_val (v := .slice (some ⟨g, og, none⟩) n cap) (fun w' hC => ?_) ?_
              · obtain ⟨z0, ⟨z1, z2, z3, z4, z5, z6⟩, y1, y2, y3, y4, y5, y6⟩ := hC
                go_simp
              simp only [Act.put, List.setIfInBounds_toArray, List.set_cons_zero, List.set_cons_succ]
              go_big_quiet_on
              go_big_quiet_want
              refine quiet_val (v := .int .i64 (k : Int)) (fun w' hC => ?_) ?_
              · obtain ⟨z0, ⟨z1, z2, z3, z4, z5, z6⟩, y1, y2, y3, y4, y5, y6⟩ := hC
                go_simp
              simp only [Act.put, List.setIfInBounds_toArray, List.set_cons_zero, List.set_cons_succ]
              go_big_quiet_on
              go_big_quiet_want
              refine quiet_val (v := .pointer (some ⟨g, og + k * 6, none⟩)) (fun w' hC => ?_) ?_
              · obtain ⟨z0, ⟨z1, z2, z3, z4, z5, z6⟩, y1, y2, y3, y4, y5, y6⟩ := hC
                go_simp
              simp only [Act.put, List.setIfInBounds_toArray, List.set_cons_zero, List.set_cons_succ]
              go_big_quiet_on
              go_big_quiet_want
              refine quiet_val (v := .pointer (some ⟨g, og + k * 6 + 1, none⟩)) (fun w' hC => ?_) ?_
              · obtain ⟨z0, ⟨z1, z2, z3, z4, z5, z6⟩, y1, y2, y3, y4, y5, y6⟩ := hC
                go_simp
              simp only [Act.put, List.setIfInBounds_toArray, List.set_cons_zero, List.set_cons_succ]
              go_big_quiet_on
              go_big_quiet_want
              refine quiet_val (v := .agg #[.int .i64 m', .int .i64 b']) (fun w' hC => ?_) ?_
              · obtain ⟨z0, ⟨z1, z2, z3, z4, z5, z6⟩, y1, y2, y3, y4, y5, y6⟩ := hC
                go_simp
              simp only [Act.put, List.setIfInBounds_toArray, List.set_cons_zero, List.set_cons_succ]
              go_big_quiet_on
              go_big_quiet_want
              refine quiet_val (v := .pointer (some ⟨w.heap.size, 1, none⟩)) (fun w' hC => ?_) ?_
              · obtain ⟨z0, ⟨z1, z2, z3, z4, z5, z6⟩, y1, y2, y3, y4, y5, y6⟩ := hC
                go_simp
              simp only [Act.put, List.setIfInBounds_toArray, List.set_cons_zero, List.set_cons_succ]
              go_big_quiet_on
              go_big_quiet_want
              refine quiet_val (v := .agg #[.int .i64 m, .int .i64 b]) (fun w' hC => ?_) ?_
              · obtain ⟨z0, ⟨z1, z2, z3, z4, z5, z6⟩, y1, y2, y3, y4, y5, y6⟩ := hC
                go_simp
              simp only [Act.put, List.setIfInBounds_toArray, List.set_cons_zero, List.set_cons_succ]
              go_big_quiet_on
              go_big_quiet_want
              refine quiet_val (v := .bool false) (fun w' hC => ?_) ?_
              · obtain ⟨z0, ⟨z1, z2, z3, z4, z5, z6⟩, y1, y2, y3, y4, y5, y6⟩ := hC
                go_simp
              simp only [Act.put, List.setIfInBounds_toArray, List.set_cons_zero, List.set_cons_succ]
              go_big_quiet_on
              go_big_quiet_want
              refine quiet_val (v := .bool false) (fun w' hC => ?_) ?_
              · obtain ⟨z0, ⟨z1, z2, z3, z4, z5, z6⟩, y1, y2, y3, y4, y5, y6⟩ := hC
                go_simp
              simp only [Act.put, List.setIfInBounds_toArray, List.set_cons_zero, List.set_cons_succ]
              go_big_quiet_on
              refine wpQuiet_nil ?_
              intro w' hC
              go_wp2_with fail
              go_meet
              case rel => exact ⟨by rw [hky], hC.1⟩
          · have f1 : (p' == p) = false := by simpa using e1
            have hky : keyB ⟨p', m', b', o', s', v'⟩ ⟨p, m, b, o, s, v⟩ = false := by rw [key_eq]; simp [e1]
            clear e1
            refine wp_region_quiet (C := CI wr w.heap.size p m b o s v g (og + k * 6) p' m' b' o' s' v') (by kernel_rfl) (by kernel_rfl) (CI.later (W := wr) (Below.drew (Below.refl _ _)) HCE.out) ?_
            simp only [List.toList_toArray]
            go_big_quiet_want
            refine quiet_val (v := .slice (some ⟨g, og, none⟩) n cap) (fun w' hC => ?_) ?_
            · obtain ⟨z0, ⟨z1, z2, z3, z4, z5, z6⟩, y1, y2, y3, y4, y5, y6⟩ := hC
              go_simp
            simp only [Act.put, List.setIfInBounds_toArray, List.set_cons_zero, List.set_cons_succ]
            go_big_quiet_on
            go_big_quiet_want
            refine quiet_val (v := .int .i64 (k : Int)) (fun w' hC => ?_) ?_
            · obtain ⟨z0, ⟨z1, z2, z3, z4, z5, z6⟩, y1, y2, y3, y4, y5, y6⟩ := hC
              go_simp
            simp only [Act.put, List.setIfInBounds_toArray, List.set_cons_zero, List.set_cons_succ]
            go_big_quiet_on
            go_big_quiet_want
            refine quiet_val (v := .pointer (some ⟨g, og + k * 6, none⟩)) (fun w' hC => ?_) ?_
            · obtain ⟨z0, ⟨z1, z2, z3, z4, z5, z6⟩, y1, y2, y3, y4, y5, y6⟩ := hC
              go_simp
            simp only [Act.put, List.setIfInBounds_toArray, List.set_cons_zero, List.set_cons_succ]
            go_big_quiet_on
            go_big_quiet_want
            refine quiet_val (v := .pointer (some ⟨g, og + k * 6, none⟩)) (fun w' hC => ?_) ?_
            · obtain ⟨z0, ⟨z1, z2, z3, z4, z5, z6⟩, y1, y2, y3, y4, y5, y6⟩ := hC
              go_simp
            simp only [Act.put, List.setIfInBounds_toArray, List.set_cons_zero, List.set_cons_succ]
            go_big_quiet_on
            go_big_quiet_want
            refine quiet_val (v := .int .i64 p') (fun w' hC => ?_) ?_
            · obtain ⟨z0, ⟨z1, z2, z3, z4, z5, z6⟩, y1, y2, y3, y4, y5, y6⟩ := hC
              go_simp
            simp only [Act.put, List.setIfInBounds_toArray, List.set_cons_zero, List.set_cons_succ]
            go_big_quiet_on
            go_big_quiet_want
            refine quiet_val (v := .pointer (some ⟨w.heap.size, 0, none⟩)) (fun w' hC => ?_) ?_
            · obtain ⟨z0, ⟨z1, z2, z3, z4, z5, z6⟩, y1, y2, y3, y4, y5, y6⟩ := hC
              go_simp
            simp only [Act.put, List.setIfInBounds_toArray, List.set_cons_zero, List.set_cons_succ]
            go_big_quiet_on
            go_big_quiet_want
            refine quiet_val (v := .int .i64 p) (fun w' hC => ?_) ?_
            · obtain ⟨z0, ⟨z1, z2, z3, z4, z5, z6⟩, y1, y2, y3, y4, y5, y6⟩ := hC
              go_simp
            simp only [Act.put, List.setIfInBounds_toArray, List.set_cons_zero, List.set_cons_succ]
            go_big_quiet_on
            go_big_quiet_want
            refine quiet_val (v := .bool false) (fun w' hC => ?_) ?_
            · obtain ⟨z0, ⟨z1, z2, z3, z4, z5, z6⟩, y1, y2, y3, y4, y5, y6⟩ := hC
              go_simp
            simp only [Act.put, List.setIfInBounds_toArray, List.set_cons_zero, List.set_cons_succ]
            go_big_quiet_on
            go_big_quiet_want
            refine quiet_val (v := .bool false) (fun w' hC => ?_) ?_
            · obtain ⟨z0, ⟨z1, z2, z3, z4, z5, z6⟩, y1, y2, y3, y4, y5, y6⟩ := hC
              go_simp
            simp only [Act.put, List.setIfInBounds_toArray, List.set_cons_zero, List.set_cons_succ]
            go_big_quiet_on
            go_big_quiet_skip
            go_big_quiet_skip
            go_big_quiet_skip
            go_big_quiet_skip
            go_big_quiet_skip
            go_big_quiet_skip
            go_big_quiet_skip
            go_big_quiet_skip
            go_big_quiet_want
            refine quiet_val (v := .bool false) (fun w' hC => ?_) ?_
            · obtain ⟨z0, ⟨z1, z2, z3, z4, z5, z6⟩, y1, y2, y3, y4, y5, y6⟩ := hC
              go_simp
            simp only [Act.put, List.setIfInBounds_toArray, List.set_cons_zero, List.set_cons_succ]
            go_big_quiet_on
            refine wpQuiet_nil ?_
            intro w' hC
            go_wp2_with fail
            go_meet
            case rel => exact ⟨by rw [hky], hC.1⟩
      case rest =>
        obtain ⟨rfl, hB2⟩ := hcut
        have HBk : Hid (Below wr.heap.size wr wc) := hB2
        have HB2 : Hid (Below w.heap.size w wc) := HB.out.trans (hB2.mono HB.out.size)
        have HC2 : Hid (C6 wc w.heap.size 0 ⟨p, m, b, o, s, v⟩) := HC.out.later hB2
        have HCE2 : Hid (CI wr w.heap.size p m b o s v g (og + k * 6) p' m' b' o' s' v' wc) := CI.later hB2 HCE.out
        clear hB2 HCE
        cases hky : keyB ⟨p', m', b', o', s', v'⟩ ⟨p, m, b, o, s, v⟩
        · go_wp2
          go_roundw
          case rel => exact ⟨k + 1, by omega, by go_num, by rw [HX.out, at_no hkl HL.out (key_of_eq hky)], by rw [HY.out, any_step hkl HL.out, hky, Bool.or_false], HB2.out, HC2.out⟩
          case measure => simp [intOf]; omega
        · go_upto_region 8 with fail
          go_cut [41] from 12 to 42 (fun c w' => c = .bool (eqR ⟨p', m', b', o', s', v'⟩ ⟨p, m, b, o, s, v⟩) ∧ Below wr.heap.size wr w')
          case first =>
            as_aux_lemma =>
              refine wp_region_quiet (C := CI wr w.heap.size p m b o s v g (og + k * 6) p' m' b' o' s' v') (by kernel_rfl) (by kernel_rfl) (CI.later (W := wc) (Below.drew (Below.refl _ _)) HCE2.out) ?_
              simp only [List.toList_toArray]
              go_big_quiet_want
              refine quiet_val (v := .slice (some ⟨g, og, none⟩) n cap) (fun w' hC => ?_) ?_
              · obtain ⟨z0, ⟨z1, z2, z3, z4, z5, z6⟩, y1, y2, y3, y4, y5, y6⟩ := hC
                go_simp
              simp only [Act.put, List.setIfInBounds_toArray, List.set_cons_zero, List.set_cons_succ]
              go_big_quiet_on
              go_big_quiet_want
              refine quiet_val (v := .int .i64 (k : Int)) (fun w' hC => ?_) ?_
              · obtain ⟨z0, ⟨z1, z2, z3, z4, z5, z6⟩, y1, y2, y3, y4, y5, y6⟩ := hC
                go_simp
              simp only [Act.put, List.setIfInBounds_toArray, List.set_cons_zero, List.set_cons_succ]
              go_big_quiet_on
              go_big_quiet_want
              refine quiet_val (v := .pointer (some ⟨g, og + k * 6, none⟩)) (fun w' hC => ?_) ?_
              · obtain ⟨z0, ⟨z1, z2, z3, z4, z5, z6⟩, y1, y2, y3, y4, y5, y6⟩ := hC
                go_simp
              simp only [Act.put, List.setIfInBounds_toArray, List.set_cons_zero, List.set_cons_succ]
              go_big_quiet_on
              go_big_quiet_want
              refine quiet_val (v := .agg #[.int .i64 p', .int .i64 m', .int .i64 b', .int .i64 o', .int .i64 s', .int .i64 v']) (fun w' hC => ?_) ?_
              · obtain ⟨z0, ⟨z1, z2, z3, z4, z5, z6⟩, y1, y2, y3, y4, y5, y6⟩ := hC
                go_simp
              simp only [Act.put, List.setIfInBounds_toArray, List.set_cons_zero, List.set_cons_succ]
              go_big_quiet_on
              go_big_quiet_want
              refine quiet_val (v := .agg #[.int .i64 p, .int .i64 m, .int .i64 b, .int .i64 o, .int .i64 s, .int .i64 v]) (fun w' hC => ?_) ?_
              · obtain ⟨z0, ⟨z1, z2, z3, z4, z5, z6⟩, y1, y2, y3, y4, y5, y6⟩ := hC
                go_simp
              simp only [Act.put, List.setIfInBounds_toArray, List.set_cons_zero, List.set_cons_succ]
              go_big_quiet_on
              go_big_quiet_want
              refine quiet_val (v := .bool (eqR ⟨p', m', b', o', s', v'⟩ ⟨p, m, b, o, s, v⟩)) (fun w' hC => exec_bin rfl (by go_simp) (run_eqlR p' m' b' o' s' v' p m b o s v w')) ?_
              simp only [Act.put, List.setIfInBounds_toArray, List.set_cons_zero, List.set_cons_succ]
              go_big_quiet_on
              refine wpQuiet_nil ?_
              intro w' hC
              go_wp2_with fail
              go_meet
              case rel => exact ⟨rfl, hC.1⟩
          case rest =>
            obtain ⟨rfl, hB3⟩ := hcut
            have HB3 : Hid (Below w.heap.size w wc) := HB.out.trans (hB3.mono HB.out.size)
            have HC3 : Hid (C6 wc w.heap.size 0 ⟨p, m, b, o, s, v⟩) := HC.out.later hB3
            clear hB3 HCE2 HBk HB2 HC2
            cases ho : eqR ⟨p', m', b', o', s', v'⟩ ⟨p, m, b, o, s, v⟩
            · go_wp2
              go_roundw
              case rel => exact ⟨k + 1, by omega, by go_num, by rw [HX.out, at_no hkl HL.out ho], by rw [any_step hkl HL.out, hky, Bool.or_true], HB3.out, HC3.out⟩
              case measure => simp [intOf]; omega
            · go_wp2
              go_roundw
              case rel => exact ⟨k + 1, by omega, by go_num, by rw [at_yes hkl HL.out H0.out ho], by rw [any_step hkl HL.out, hky, Bool.or_true], HB3.out, HC3.out⟩
              case measure => simp [intOf]; omega
    · obtain rfl : k = n := by omega
      have HS1 : Hid (SR wr (.slice ao k cap) L) := HS.out.later' HB.out
      obtain ⟨X, hX⟩ : ∃ X, X = atTo L ⟨p, m, b, o, s, v⟩ k := ⟨_, rfl⟩
      have HX : Hid (X = if inB L ⟨p, m, b, o, s, v⟩ then (ixN L ⟨p, m, b, o, s, v⟩ : Int) else -1) := by
        show _ = _
        rw [hX, ← HN.out, at_all]
      have hY : ((L.take k).any fun a => keyB a ⟨p, m, b, o, s, v⟩) = hitB L ⟨p, m, b, o, s, v⟩ := by rw [← HN.out, List.take_length]; rfl
      rw [← hX, hY]
      obtain ⟨r0, r1, r2, r3, r4, r5⟩ := hC
      simp only [Nat.zero_add] at r0 r1 r2 r3 r4 r5
      have hlt0 : w.heap.size < wr.heap.size := World.block_lt_of_cell? _ _ r0
      clear hX hY hB hlt
      cases a with
      | true =>
        cases hh : hitB L ⟨p, m, b, o, s, v⟩
        · by_cases h12 : 12 ≤ k
          · have HCN : Hid (chN L true ⟨p, m, b, o, s, v⟩ = 4) := ch_full hh (by rw [HN.out]; exact h12)
            have HCL : Hid (chL L true ⟨p, m, b, o, s, v⟩ = []) := chL_ne (by rw [ch_full hh (by rw [HN.out]; exact h12)]; decide)
            clear hh
            go_wp2
            refine bodyPost_ret (v := .tuple #[.slice none 0 0, .int .i64 4]) (by simp [results, Tryd.results19, go_sem]) rfl ⟨_, by rw [HCN.out], by rw [HCL.out]; exact NR.nil _ _, HB.out⟩
          · have HCN : Hid (chN L true ⟨p, m, b, o, s, v⟩ = 0) := ch_add hh (by rw [HN.out]; exact h12)
            have HCL : Hid (chL L true ⟨p, m, b, o, s, v⟩ = L ++ [⟨p, m, b, o, s, v⟩]) := chL_add (ch_add hh (by rw [HN.out]; exact h12))
            clear hh
            go_wp2_with (at_builtin; refine wpList_append_SR _ rfl _ _ 58 rfl Tryd.underlying58 w.heap.size _ rfl [] (World.ownsRow_nil _ _ _ _) _ rfl _ HS1.out (by simp [HN.out]; omega) HB.out.size ?_)
            intro v1 w1 hown1 hg1
            have HB1 : Hid (Below w.heap.size w w1) := HB.out.grown hg1 HB.out.size (fun g hg => by cases hg)
            have hBr : Below wr.heap.size wr w1 := (Below.refl _ _).grown hg1 (Nat.le_refl _) (fun g hg => by cases hg)
            have HO1 : Hid (w1.ownsRow w.heap.size 51 6 v1 L.length (cellsR L)) := hown1
            obtain ⟨d0, d1, d2, d3, d4, d5⟩ := HC.out.later hBr
            simp only [Nat.zero_add] at d0 d1 d2 d3 d4 d5
            have hlt1 : w.heap.size < w1.heap.size := World.block_lt_of_cell? _ _ d0
            have hBB : Below w1.heap.size w1 (w1.alloc (Obj.cells #[Value.int IntKind.i64 p, Value.int IntKind.i64 m, Value.int IntKind.i64 b, Value.int IntKind.i64 o, Value.int IntKind.i64 s, Value.int IntKind.i64 v] 51)) := (Below.refl _ _).alloc (Nat.le_refl _) _
            have HSO := sr_one w1 p m b o s v 51
            clear hown1 hg1 hBr r0 r1 r2 r3 r4 r5
            go_wp2_with (at_builtin; refine wpList_append_SR _ rfl _ _ 58 rfl Tryd.underlying58 w.heap.size _ rfl L (own_below HO1.out hBB) _ rfl [⟨p, m, b, o, s, v⟩] HSO (by simp [HN.out]; omega) (HB1.out.trans (hBB.mono HB1.out.size)).size ?_)
            intro v2 w2 hown2 hg2
            have HO2 : Hid (NR w2 w.heap.size v2 (L ++ [⟨p, m, b, o, s, v⟩])) := NR.ofn hown2 (by simp)
            have HB2 : Hid (Below w.heap.size w w2) := (HB1.out.trans (hBB.mono HB1.out.size)).grown hg2 (HB1.out.trans (hBB.mono HB1.out.size)).size (fun g hg => ((own_below HO1.out hBB).lt g hg).1)
            clear hown2 hg2 hBB HSO d0 d1 d2 d3 d4 d5
            go_wp2
            refine bodyPost_ret (v := .tuple #[v2, .int .i64 0]) (by simp [results, Tryd.results19, go_sem]) rfl ⟨_, by rw [HCN.out], by rw [HCL.out]; exact HO2.out, HB2.out⟩
        · have HCN : Hid (chN L true ⟨p, m, b, o, s, v⟩ = 7) := ch_hit hh
          have HCL : Hid (chL L true ⟨p, m, b, o, s, v⟩ = []) := chL_ne (by rw [ch_hit hh]; decide)
          clear hh
          go_wp2
          refine bodyPost_ret (v := .tuple #[.slice none 0 0, .int .i64 7]) (by simp [results, Tryd.results19, go_sem]) rfl ⟨_, by rw [HCN.out], by rw [HCL.out]; exact NR.nil _ _, HB.out⟩
      | false =>
        generalize hitB L ⟨p, m, b, o, s, v⟩ = Y
        cases hh : inB L ⟨p, m, b, o, s, v⟩
        · have HCN : Hid (chN L false ⟨p, m, b, o, s, v⟩ = 5) := ch_none hh
          have HCL : Hid (chL L false ⟨p, m, b, o, s, v⟩ = []) := chL_ne (by rw [ch_none hh]; decide)
          obtain rfl : X = -1 := by rw [HX.out, hh]; rfl
          clear hh HX
          go_wp2
          refine bodyPost_ret (v := .tuple #[.slice none 0 0, .int .i64 5]) (by simp [results, Tryd.results19, go_sem]) rfl ⟨_, by rw [HCN.out], by rw [HCL.out]; exact NR.nil _ _, HB.out⟩
        · have HCN : Hid (chN L false ⟨p, m, b, o, s, v⟩ = 0) := ch_take hh
          have HCL : Hid (chL L false ⟨p, m, b, o, s, v⟩ = L.take (ixN L ⟨p, m, b, o, s, v⟩) ++ L.drop (ixN L ⟨p, m, b, o, s, v⟩ + 1)) := chL_take (ch_take hh)
          obtain rfl : X = (ixN L ⟨p, m, b, o, s, v⟩ : Int) := by rw [HX.out, hh, if_pos rfl]
          have hi : ixN L ⟨p, m, b, o, s, v⟩ < k := by
            have := ix_lt hh
            rw [HN.out] at this
            exact this
          obtain ⟨g, og, hao, hRA, hcm⟩ := HA.out (by omega)
          subst hao
          generalize ixN L ⟨p, m, b, o, s, v⟩ = i at *
          have HRA : Hid (RAt wr g og L) := hRA.later HB.out
          have HCM : Hid (cap ≤ maxLen) := hcm
          have hc63 : (cap : Int) ≤ 9223372036854775807 := by unfold maxLen at hcm; omega
          clear hh hRA hcm HA HX
          have i0 : ¬ ((i : Int) < 0) := by omega
          have i01 : (0 : Int) ≤ (i : Int) := by omega
          have i1 : (i : Int) ≤ (cap : Int) := by omega
          have i2 : ((i + 1 : Nat) : Int) ≤ (k : Int) := by omega
          have i21 : (0 : Int) ≤ ((i + 1 : Nat) : Int) := by omega
          have i3 : IntKind.i64.wrap ((i : Int) + 1) = ((i + 1 : Nat) : Int) := by rw [IntKind.wrap_i64]; omega
          have HT1 : Hid (SR wr (.slice (some ⟨g, og, none⟩) i cap) (L.take i)) := by
            have e1 : (L.take i).length = i := by rw [List.length_take, HN.out]; omega
            exact .inr ⟨g, og, cap, by rw [e1], by rw [e1]; omega, HCM.out, HRA.out.take i⟩
          have HL1 : Hid ((L.take i).length ≤ 12) := by
            show _ ≤ _
            rw [List.length_take]
            omega
          have HL2 : Hid ((L.drop (i + 1)).length ≤ 12) := by
            show _ ≤ _
            rw [List.length_drop, HN.out]
            omega
          go_wp2_with (at_builtin; refine wpList_append_SR _ rfl _ _ 58 rfl Tryd.underlying58 w.heap.size _ rfl [] (World.ownsRow_nil _ _ _ _) _ rfl _ HT1.out (by have := HL1.out; simp at this ⊢; omega) HB.out.size ?_)
          intro v1 w1 hown1 hg1
          have HB1 : Hid (Below w.heap.size w w1) := HB.out.grown hg1 HB.out.size (fun g hg => by cases hg)
          have hBr : Below wr.heap.size wr w1 := (Below.refl _ _).grown hg1 (Nat.le_refl _) (fun g hg => by cases hg)
          have HO1 : Hid (w1.ownsRow w.heap.size 51 6 v1 (L.take i).length (cellsR (L.take i))) := NR.ofn hown1 (by simp)
          have HR1 : Hid (RAt w1 g og L) := HRA.out.later hBr
          clear hown1 hg1 hBr r0 r1 r2 r3 r4 r5
          by_cases hcj : cap = i + 1
          · have HT2 : Hid (SR w1 (.slice (some ⟨g, og, none⟩) 0 0) (L.drop (i + 1))) := .inl ⟨_, _, rfl, List.drop_eq_nil_of_le (by rw [HN.out]; omega)⟩
            have hkj : k = i + 1 := by omega
            generalize hj : i + 1 = j at i2 i21 i3 hcj hkj HT2 HL2
            subst hcj
            go_wp2_with (at_builtin; refine wpList_append_SR _ rfl _ _ 58 rfl Tryd.underlying58 w.heap.size _ rfl _ HO1.out _ rfl _ HT2.out (by have := HL1.out; have := HL2.out; omega) HB1.out.size ?_)
            intro v2 w2 hown2 hg2
            have HO2 : Hid (NR w2 w.heap.size v2 (L.take i ++ L.drop (i + 1))) := by
              rw [hj]
              exact NR.ofn hown2 (by simp)
            have HB2 : Hid (Below w.heap.size w w2) := HB1.out.grown hg2 HB1.out.size (fun g hg => (HO1.out.lt g hg).1)
            clear hown2 hg2
            go_wp2
            refine bodyPost_ret (v := .tuple #[v2, .int .i64 0]) (by simp [results, Tryd.results19, go_sem]) rfl ⟨_, by rw [HCN.out], by rw [HCL.out]; exact HO2.out, HB2.out⟩
          · have HT2 : Hid (SR w1 (.slice (some ⟨g, og + (i + 1) * 6, none⟩) (k - (i + 1)) (cap - (i + 1))) (L.drop (i + 1))) := by
              have e1 : (L.drop (i + 1)).length = k - (i + 1) := by rw [List.length_drop, HN.out]
              exact .inr ⟨g, og + (i + 1) * 6, cap - (i + 1), by rw [e1], by rw [e1]; omega, Nat.le_trans (Nat.sub_le _ _) HCM.out, HR1.out.drop (i + 1)⟩
            generalize hj : i + 1 = j at i2 i21 i3 hcj HT2 HL2
            go_wp2_with (at_builtin; refine wpList_append_SR _ rfl _ _ 58 rfl Tryd.underlying58 w.heap.size _ rfl _ HO1.out _ rfl _ HT2.out (by have := HL1.out; have := HL2.out; omega) HB1.out.size ?_)
            intro v2 w2 hown2 hg2
            have HO2 : Hid (NR w2 w.heap.size v2 (L.take i ++ L.drop (i + 1))) := by
              rw [hj]
              exact NR.ofn hown2 (by simp)
            have HB2 : Hid (Below w.heap.size w w2) := HB1.out.grown hg2 HB1.out.size (fun g hg => (HO1.out.lt g hg).1)
            clear hown2 hg2
            go_wp2
            refine bodyPost_ret (v := .tuple #[v2, .int .i64 0]) (by simp [results, Tryd.results19, go_sem]) rfl ⟨_, by rw [HCN.out], by rw [HCL.out]; exact HO2.out, HB2.out⟩
end Go.Proofs.YtokkmnednhigmaeDoor
/- What the document's own functions on one cube answer: contracts for the walks above them. -/
namespace Go.Proofs.YtokkmnednhigmaeDoor
open Go.RowKit
set_option linter.unusedSimpArgs false

set_option maxHeartbeats 400000 in
theorem header_yes (n : Int) (w : World) (h : hdrB n = true) :
    Calls Tryd.prog 36 #[.int .i64 n] w fun e w' => e = .returned (.bool true) ∧ w' = w := by
  obtain ⟨h1, h2⟩ := hdr_of h
  clear h
  go_enter Tryd.func36, Tryd.ntmps36
  go_wp2
  go_ret
  exact ⟨rfl, rfl⟩

set_option maxHeartbeats 400000 in
theorem header_no (n : Int) (w : World) (h : hdrB n = false) :
    Calls Tryd.prog 36 #[.int .i64 n] w fun e w' => e = .returned (.bool false) ∧ w' = w := by
  rcases hdr_no h with h1 | h1
  · clear h
    go_enter Tryd.func36, Tryd.ntmps36
    go_wp2
    go_ret
    exact ⟨rfl, rfl⟩
  · have h2 : 0 ≤ n := by omega
    have h3 : decide (n < 16) = false := by simp; omega
    clear h
    go_enter Tryd.func36, Tryd.ntmps36
    go_wp2
    go_ret
    exact ⟨rfl, rfl⟩

theorem header_any (n : Int) (w : World) :
    Calls Tryd.prog 36 #[.int .i64 n] w fun e w' => e = .returned (.bool (hdrB n)) ∧ w' = w := by
  cases h : hdrB n
  · exact header_no n w h
  · exact header_yes n w h

set_option maxHeartbeats 400000 in
theorem refCube_any (m b : Int) (w : World) :
    Calls Tryd.prog 37 #[.agg #[.int .i64 m, .int .i64 b]] w fun e w' => e = .returned (.int .i64 (refN m b)) ∧ Below w.heap.size w w' := by
  cases hr : rngB m b
  · rw [refN_range hr]
    have HH : hdrB m = false ∨ (hdrB m = true ∧ hdrB b = false) := by
      cases h1 : hdrB m
      · exact .inl rfl
      · exact .inr ⟨rfl, by simpa [rngB, h1] using hr⟩
    rcases HH with hm | ⟨hm, hb⟩
    all_goals
      clear hr
      go_enter Tryd.func37, Tryd.ntmps37
      go_wp2_with fail
      refine (header_any _ _).mono ?_
      rintro e w' ⟨rfl, rfl⟩
      go_wp2_with fail
      refine (header_any _ _).mono ?_
      rintro e w' ⟨rfl, rfl⟩
      go_wp2
      go_ret
      exact ⟨rfl, (Below.refl _ _).alloc (Nat.le_refl _) _⟩
  · have hm : hdrB m = true := hdr_mk (rng_of hr).1
    have hb : hdrB b = true := hdr_mk (rng_of hr).2
    cases ho : okB m b
    · rw [refN_shape ho hr]
      have hz : (bits .and .i64 b m == b) = false := by rw [andEq hr, ho]
      clear hr ho
      go_enter Tryd.func37, Tryd.ntmps37
      go_wp2_with fail
      refine (header_any _ _).mono ?_
      rintro e w' ⟨rfl, rfl⟩
      go_wp2_with fail
      refine (header_any _ _).mono ?_
      rintro e w' ⟨rfl, rfl⟩
      go_wp2
      go_ret
      exact ⟨rfl, (Below.refl _ _).alloc (Nat.le_refl _) _⟩
    · rw [refN_ok ho]
      have hz : (bits .and .i64 b m == b) = true := by rw [andEq hr, ho]
      clear hr ho
      go_enter Tryd.func37, Tryd.ntmps37
      go_wp2_with fail
      refine (header_any _ _).mono ?_
      rintro e w' ⟨rfl, rfl⟩
      go_wp2_with fail
      refine (header_any _ _).mono ?_
      rintro e w' ⟨rfl, rfl⟩
      go_wp2
      go_ret
      exact ⟨rfl, (Below.refl _ _).alloc (Nat.le_refl _) _⟩

end Go.Proofs.YtokkmnednhigmaeDoor
