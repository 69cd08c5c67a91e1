/- Contracts and facts on the way to ChangeBack, joined into one text: ChangeSame, ChangeDiff, ChangeTurn. -/
import Derived.Test.YtokkmnednhigmaeChangeBackP8
import Derived.Test.YtokkmnednhigmaeChangeBackP7
import Derived.Test.YtokkmnednhigmaeChangeBackP6
import Derived.Test.YtokkmnednhigmaeChangeBackP5
import Derived.Test.YtokkmnednhigmaeChangeBackP3
import Derived.Deep.CutRange
import Derived.Deep.CutBlock
import Derived.RangeFuncNested
import Derived.RangeFuncBox
import Derived.RangeFuncBound
import Derived.RangeFuncCalls
import Derived.RangeFuncLeaves
import Derived.Shelf.Abstract
import Derived.Shelf.RegionOpen
import Derived.WalkKit
import Derived.OwnWalkIn
import Derived.TacticsInMore
import Derived.LoopNIn
import Derived.LoopIn
/- What change.Same answers, and what it asks: check, sameTopo, sameTable, slices.EqualFunc. -/
namespace Go.Proofs.Ytokkmnednhigmae
open Go.RowKit
set_option linter.unusedSimpArgs false
set_option linter.unusedVariables false

/-- The fault of two nets, the first one ahead. -/
def nwN (S : Int) (Ls : List ((Int × Int) × (Int × Int))) (Hs : List (ByteArray × (Int × Int))) (Ts : List (List Ru)) (S' : Int) (Ls' : List ((Int × Int) × (Int × Int))) (Hs' : List (ByteArray × (Int × Int))) (Ts' : List (List Ru)) : Int :=
  if ntN S Ls Hs Ts = 0 then ntN S' Ls' Hs' Ts' else ntN S Ls Hs Ts
set_option maxHeartbeats 4000000 in
set_option maxRecDepth 100000 in
theorem chCheck_any (S : Int) (ao : Option Addr) (n cap : Nat) (ao2 : Option Addr) (n2 cap2 : Nat) (ao3 : Option Addr) (n3 cap3 : Nat) (S' : Int) (bo : Option Addr) (m dap : Nat) (bo2 : Option Addr) (m2 dap2 : Nat) (bo3 : Option Addr) (m3 dap3 : Nat) (Ls : List ((Int × Int) × (Int × Int))) (Hs : List (ByteArray × (Int × Int))) (Ts : List (List Ru)) (Ls' : List ((Int × Int) × (Int × Int))) (Hs' : List (ByteArray × (Int × Int))) (Ts' : List (List Ru)) (w : World)
    (hL : GS lnkE w (.slice ao n cap) Ls) (hH : GS hstE w (.slice ao2 n2 cap2) Hs) (hT : TS w (.slice ao3 n3 cap3) Ts) (hL' : GS lnkE w (.slice bo m dap) Ls') (hH' : GS hstE w (.slice bo2 m2 dap2) Hs') (hT' : TS w (.slice bo3 m3 dap3) Ts') :
    Calls Try.prog 15 #[.agg #[.int .i64 S, .slice ao n cap, .slice ao2 n2 cap2, .slice ao3 n3 cap3], .agg #[.int .i64 S', .slice bo m dap, .slice bo2 m2 dap2, .slice bo3 m3 dap3]] w fun e w' => e = .returned (noV (nwN S Ls Hs Ts S' Ls' Hs' Ts')) ∧ Below w.heap.size w w' := by
  have hb0 : Below w.heap.size w ((w.alloc (Obj.cells #[.int .i64 S, .slice ao n cap, .slice ao2 n2 cap2, .slice ao3 n3 cap3] 28)).alloc (Obj.cells #[.int .i64 S', .slice bo m dap, .slice bo2 m2 dap2, .slice bo3 m3 dap3] 28)) := ((Below.refl _ _).alloc (Nat.le_refl _) _).alloc (by simp) _
  have HNN := nn_new w S (.slice ao n cap) (.slice ao2 n2 cap2) (.slice ao3 n3 cap3) S' (.slice bo m dap) (.slice bo2 m2 dap2) (.slice bo3 m3 dap3) 28
  have HB0 : Hid (Below w.heap.size w ((w.alloc (Obj.cells #[.int .i64 S, .slice ao n cap, .slice ao2 n2 cap2, .slice ao3 n3 cap3] 28)).alloc (Obj.cells #[.int .i64 S', .slice bo m dap, .slice bo2 m2 dap2, .slice bo3 m3 dap3] 28))) := hb0
  have HW : Hid (∀ W, Below w.heap.size w W → (GS lnkE W (.slice ao n cap) Ls ∧ GS hstE W (.slice ao2 n2 cap2) Hs ∧ TS W (.slice ao3 n3 cap3) Ts) ∧ GS lnkE W (.slice bo m dap) Ls' ∧ GS hstE W (.slice bo2 m2 dap2) Hs' ∧ TS W (.slice bo3 m3 dap3) Ts') := fun W h => ⟨⟨hL.later h, hH.later h, hT.later h⟩, hL'.later h, hH'.later h, hT'.later h⟩
  obtain ⟨X, hX⟩ : ∃ X, X = nwN S Ls Hs Ts S' Ls' Hs' Ts' := ⟨_, rfl⟩
  have HX : Hid (X = nwN S Ls Hs Ts S' Ls' Hs' Ts') := hX
  rw [← hX]
  clear hL hH hT hL' hH' hT' hb0 hX
  go_enter Try.func15, Try.ntmps15
  go_wp2_with fail
  refine (ncheck_any S ao n cap ao2 n2 cap2 ao3 n3 cap3 Ls Hs Ts _ (HW.out _ HB0.out).1.1 (HW.out _ HB0.out).1.2.1 (HW.out _ HB0.out).1.2.2).mono ?_
  rintro e w1 ⟨rfl, hb1⟩
  obtain ⟨C, hC⟩ : ∃ C, C = ntN S Ls Hs Ts := ⟨_, rfl⟩
  have HC : Hid (C = ntN S Ls Hs Ts) := hC
  rw [← hC]
  have HB1 : Hid (Below w.heap.size w w1) := HB0.out.trans (hb1.mono HB0.out.size)
  obtain ⟨⟨p0, p1, p2, p3⟩, s0, s1, s2, s3⟩ := HNN.later hb1
  have hlt1 : w.heap.size < w1.heap.size := World.block_lt_of_cell? _ _ p0
  have hlt2 : w.heap.size + 1 < w1.heap.size := World.block_lt_of_cell? _ _ s0
  clear hC hb1 HNN HB0
  by_cases h0 : C = 0
  · subst h0
    rw [no_ok rfl]
    have HX2 : Hid (X = ntN S' Ls' Hs' Ts') := by
      show _ = _
      rw [HX.out, nwN, if_pos HC.out.symm]
    go_wp2_with fail
    refine (ncheck_any S' bo m dap bo2 m2 dap2 bo3 m3 dap3 Ls' Hs' Ts' _ (HW.out _ HB1.out).2.1 (HW.out _ HB1.out).2.2.1 (HW.out _ HB1.out).2.2.2).mono ?_
    rintro e w2 ⟨rfl, hb2⟩
    have HB2 : Hid (Below w.heap.size w w2) := HB1.out.trans (hb2.mono HB1.out.size)
    rw [← HX2.out]
    clear hb2 p0 p1 p2 p3 s0 s1 s2 s3
    go_wp2
    go_ret
    exact ⟨rfl, HB2.out⟩
  · have HNZ : Hid (C ≠ 0) := h0
    have HX2 : Hid (X = C) := by
      show _ = _
      rw [HX.out, nwN, ← HC.out, if_neg h0]
    rw [no_ne h0]
    clear h0
    go_wp2
    go_ret
    exact ⟨by rw [HX2.out, no_ne HNZ.out]; rfl, HB1.out⟩
set_option maxHeartbeats 1000000 in
theorem sameTable_any (ao : Option Addr) (n cap : Nat) (ao2 : Option Addr) (n2 cap2 : Nat) (L M : List Ru) (w : World) (hs : SR w (.slice ao n cap) L) (ht : SR w (.slice ao2 n2 cap2) M) (h0 : twN L M = 0) :
    Calls Try.prog 19 #[.slice ao n cap, .slice ao2 n2 cap2] w fun e w' => e = .returned (.bool (smB L M)) ∧ Below w.heap.size w w' := by
  go_enter Try.func19, Try.ntmps19
  go_wp2_with fail
  refine (same_any2 ao n cap ao2 n2 cap2 L M w hs ht).mono ?_
  rintro e w1 ⟨rfl, hb1⟩
  rw [no_ok h0]
  obtain ⟨B, hB⟩ : ∃ B, B = smB L M := ⟨_, rfl⟩
  rw [← hB]
  have HB : Hid (Below w.heap.size w w1) := hb1
  have HE : Hid (B = smB L M) := hB
  clear hB hb1 hs ht h0
  go_wp2
  go_ret
  exact ⟨by rw [← HE.out]; rfl, HB.out⟩
/-- Are all tables the Same, as many of the one as of the other? -/
def etB (As Bs : List (List Ru)) : Bool := decide (As.length = Bs.length) && csB As Bs As.length
theorem cs_no {As Bs : List (List Ru)} {k n : Nat} (hk : k < n) (h : smB (As.getD k []) (Bs.getD k []) = false) : csB As Bs n = false := by
  cases e : csB As Bs n
  · rfl
  · have := cs_iff.1 e k hk
    rw [h] at this
    cases this
set_option maxHeartbeats 4000000 in
set_option maxRecDepth 100000 in
theorem eqTabs_any (ao : Option Addr) (n cap : Nat) (ao2 : Option Addr) (n2 cap2 : Nat) (As Bs : List (List Ru)) (w : World) (hs : TS w (.slice ao n cap) As) (ht : TS w (.slice ao2 n2 cap2) Bs) (htw : ∀ j, j < As.length → j < Bs.length → twN (As.getD j []) (Bs.getD j []) = 0) :
    Calls Try.prog 18 #[.slice ao n cap, .slice ao2 n2 cap2, .func (.func 19) #[] #[]] w fun e w' => e = .returned (.bool (etB As Bs)) ∧ Below w.heap.size w w' := by
  obtain ⟨_, _, _, e, hn, hn2, hn3, ha⟩ := hs.form
  cases e
  obtain ⟨_, _, _, e, hm, hm2, hm3, hb⟩ := ht.form
  cases e
  have HN : Hid (As.length = n) := hn
  have HM : Hid (Bs.length = n2) := hm
  have HA : Hid (0 < n → ∃ g o, ao = some ⟨g, o, none⟩ ∧ TAt w g o As ∧ cap ≤ maxLen) := ha
  have HA2 : Hid (0 < n2 → ∃ g o, ao2 = some ⟨g, o, none⟩ ∧ TAt w g o Bs ∧ cap2 ≤ maxLen) := hb
  have HTW : Hid (∀ j, j < As.length → j < Bs.length → twN (As.getD j []) (Bs.getD j []) = 0) := htw
  have hn63 : n ≤ 9223372036854775807 := by unfold maxLen at hn2; omega
  clear hs ht hn ha hm hb hn2 hm2 htw
  obtain ⟨R, hR⟩ : ∃ R, R = etB As Bs := ⟨_, rfl⟩
  have HR : Hid (R = etB As Bs) := hR
  rw [← hR]
  clear hR
  by_cases hl : n = n2
  · subst hl
    have HRC : Hid (R = csB As Bs n) := by
      show _ = _
      rw [HR.out, etB, HN.out, HM.out]
      simp
    go_enter Try.func18, Try.ntmps18
    go_wp2
    go_loopw [17] (fun i wr => ∃ k : Nat, k ≤ n ∧ i = .int .i64 k ∧ csB As Bs k = true ∧ Below w.heap.size w wr) (fun i _ => n - (intOf i).toNat)
    case atStart => exact ⟨0, by omega, rfl, rfl, Below.refl _ _⟩
    case round =>
      obtain ⟨k, hk, rfl, hall, hB⟩ := hrel
      have HB : Hid (Below w.heap.size w wr) := hB
      have HALL : Hid (csB As Bs k = true) := hall
      clear hall
      by_cases hlt : k < n
      · obtain ⟨g, og, hao, hc, _⟩ := HA.out (by omega)
        obtain ⟨f, of, hbo, hd, _⟩ := HA2.out (by omega)
        subst hao hbo
        have hkA : k < As.length := by rw [HN.out]; exact hlt
        have hkB : k < Bs.length := by rw [HM.out]; exact hlt
        obtain ⟨a3, l3, c3, r0, hG3⟩ := (hc.later hB) k hkA
        obtain ⟨a4, l4, c4, r1, hG4⟩ := (hd.later hB) k hkB
        rw [← getT hkA] at hG3
        rw [← getT hkB] at hG4
        have HG3 : Hid (SR wr (.slice a3 l3 c3) (As.getD k [])) := hG3
        have HG4 : Hid (SR wr (.slice a4 l4 c4) (Bs.getD k [])) := hG4
        have kb0 : (0 : Int) ≤ (k : Int) := by omega
        have kb1 : (k : Int) < (n : Int) := by omega
        have HT0 : Hid (twN (As.getD k []) (Bs.getD k []) = 0) := HTW.out k hkA hkB
        clear hc hd hB hG3 hG4
        go_wp2_with fail
        refine (sameTable_any a3 l3 c3 a4 l4 c4 _ _ wr HG3.out HG4.out HT0.out).mono ?_
        rintro e w2 ⟨rfl, hb2⟩
        have HB2 : Hid (Below w.heap.size w w2) := HB.out.trans (hb2.mono HB.out.size)
        obtain ⟨T, hT⟩ : ∃ T, T = smB (As.getD k []) (Bs.getD k []) := ⟨_, rfl⟩
        have HT : Hid (T = smB (As.getD k []) (Bs.getD k [])) := hT
        rw [← hT]
        clear hb2 hT r0 r1
        cases T with
        | false =>
          have HF : Hid (R = false) := by
            show _ = _
            rw [HRC.out]
            exact cs_no hlt HT.out.symm
          go_wp2
          go_ret
          exact ⟨by rw [HF.out]; rfl, HB2.out⟩
        | true =>
          have HC2 : Hid (csB As Bs (k + 1) = true) := by
            show _ = _
            rw [csB, HALL.out, ← HT.out]
            rfl
          go_wp2
          go_roundw
          case rel => exact ⟨k + 1, by omega, by go_num, HC2.out, HB2.out⟩
          case measure => simp [intOf]; omega
      · obtain rfl : k = n := by omega
        have HF : Hid (R = true) := by
          show _ = _
          rw [HRC.out, HALL.out]
        go_wp2
        go_ret
        exact ⟨by rw [HF.out]; rfl, HB.out⟩
  · have HF : Hid (R = false) := by
      show _ = _
      rw [HR.out, etB, HN.out, HM.out]
      simp [hl]
    have e1 : ((n : Int) == (n2 : Int)) = false := beq_eq_false_iff_ne.2 (by omega)
    have e2 : ((n : Int) != (n2 : Int)) = true := by simp; omega
    go_enter Try.func18, Try.ntmps18
    go_wp2
    go_ret
    exact ⟨by rw [HF.out]; rfl, Below.refl _ _⟩
set_option maxHeartbeats 4000000 in
set_option maxRecDepth 100000 in
theorem sameTopo_any (S : Int) (ao : Option Addr) (n cap : Nat) (ao2 : Option Addr) (n2 cap2 : Nat) (Ls : List ((Int × Int) × (Int × Int))) (Hs : List (ByteArray × (Int × Int))) (S' : Int) (bo : Option Addr) (m cap3 : Nat) (bo2 : Option Addr) (m2 cap4 : Nat) (Ls' : List ((Int × Int) × (Int × Int))) (Hs' : List (ByteArray × (Int × Int))) (w : World)
    (hL : GS lnkE w (.slice ao n cap) Ls) (hH : GS hstE w (.slice ao2 n2 cap2) Hs) (hL' : GS lnkE w (.slice bo m cap3) Ls') (hH' : GS hstE w (.slice bo2 m2 cap4) Hs') :
    Calls Try.prog 16 #[.agg #[.int .i64 S, .slice ao n cap, .slice ao2 n2 cap2], .agg #[.int .i64 S', .slice bo m cap3, .slice bo2 m2 cap4]] w fun e w' => e = .returned (.bool (tpB S S' Ls Ls' Hs Hs')) ∧ Below w.heap.size w w' := by
  have hb0 : Below w.heap.size w ((w.alloc (Obj.cells #[.int .i64 S, .slice ao n cap, .slice ao2 n2 cap2] 25)).alloc (Obj.cells #[.int .i64 S', .slice bo m cap3, .slice bo2 m2 cap4] 25)) := ((Below.refl _ _).alloc (Nat.le_refl _) _).alloc (by simp) _
  have HTT := tt_new w S S' (.slice ao n cap) (.slice ao2 n2 cap2) (.slice bo m cap3) (.slice bo2 m2 cap4) 25
  have HB0 : Hid (Below w.heap.size w ((w.alloc (Obj.cells #[.int .i64 S, .slice ao n cap, .slice ao2 n2 cap2] 25)).alloc (Obj.cells #[.int .i64 S', .slice bo m cap3, .slice bo2 m2 cap4] 25))) := hb0
  have HW : Hid (∀ W, Below w.heap.size w W → (GS lnkE W (.slice ao n cap) Ls ∧ GS hstE W (.slice ao2 n2 cap2) Hs) ∧ GS lnkE W (.slice bo m cap3) Ls' ∧ GS hstE W (.slice bo2 m2 cap4) Hs') := fun W h => ⟨⟨hL.later h, hH.later h⟩, hL'.later h, hH'.later h⟩
  clear hL hH hL' hH' hb0
  by_cases hS : S = S'
  · subst hS
    have e1 : (S == S) = true := by simp
    have HE : Hid (tpB S S Ls Ls' Hs Hs' = (smG lnkB Ls Ls' && smG hstB Hs Hs')) := by
      show _ = _
      simp [tpB]
    rw [HE.out]
    go_enter Try.func16, Try.ntmps16
    go_wp2_with fail
    refine (lnk_equal ao n cap bo m cap3 Ls Ls' _ (HW.out _ HB0.out).1.1 (HW.out _ HB0.out).2.1).mono ?_
    rintro e w1 ⟨rfl, hb1⟩
    have HB1 : Hid (Below w.heap.size w w1) := HB0.out.trans (hb1.mono HB0.out.size)
    obtain ⟨⟨p0, p1, p2⟩, s0, s1, s2⟩ := HTT.later hb1
    have hlt1 : w.heap.size < w1.heap.size := World.block_lt_of_cell? _ _ p0
    have hlt2 : w.heap.size + 1 < w1.heap.size := World.block_lt_of_cell? _ _ s0
    obtain ⟨b1, hb⟩ : ∃ b, b = smG lnkB Ls Ls' := ⟨_, rfl⟩
    have HBE : Hid (smG lnkB Ls Ls' = b1) := hb.symm
    rw [HBE.out]
    clear hb hb1 HB0 HTT
    cases b1 with
    | false =>
      go_wp2
      go_ret
      exact ⟨by rw [HBE.out]; rfl, HB1.out⟩
    | true =>
      go_wp2_with fail
      refine (hst_equal ao2 n2 cap2 bo2 m2 cap4 Hs Hs' _ (HW.out _ HB1.out).1.2 (HW.out _ HB1.out).2.2).mono ?_
      rintro e w2 ⟨rfl, hb2⟩
      have HB2 : Hid (Below w.heap.size w w2) := HB1.out.trans (hb2.mono HB1.out.size)
      obtain ⟨b2, hb⟩ : ∃ b, b = smG hstB Hs Hs' := ⟨_, rfl⟩
      have HB3 : Hid (smG hstB Hs Hs' = b2) := hb.symm
      rw [HB3.out]
      clear hb hb2 p0 p1 p2 s0 s1 s2
      go_wp2
      go_ret
      exact ⟨by rw [HBE.out, HB3.out]; rfl, HB2.out⟩
  · have e1 : (S == S') = false := by simpa using hS
    have HE : Hid (tpB S S' Ls Ls' Hs Hs' = false) := by
      show _ = _
      simp [tpB, hS]
    rw [HE.out]
    clear hS
    go_enter Try.func16, Try.ntmps16
    go_wp2
    go_ret
    exact ⟨rfl, HB0.out⟩
/-- Are two nets the same? -/
def nsB (S : Int) (Ls : List ((Int × Int) × (Int × Int))) (Hs : List (ByteArray × (Int × Int))) (Ts : List (List Ru)) (S' : Int) (Ls' : List ((Int × Int) × (Int × Int))) (Hs' : List (ByteArray × (Int × Int))) (Ts' : List (List Ru)) : Bool :=
  decide (nwN S Ls Hs Ts S' Ls' Hs' Ts' = 0) && (tpB S S' Ls Ls' Hs Hs' && etB Ts Ts')
theorem nw_two {S : Int} {Ls : List ((Int × Int) × (Int × Int))} {Hs : List (ByteArray × (Int × Int))} {Ts : List (List Ru)} {S' : Int} {Ls' : List ((Int × Int) × (Int × Int))} {Hs' : List (ByteArray × (Int × Int))} {Ts' : List (List Ru)} (h : nwN S Ls Hs Ts S' Ls' Hs' Ts' = 0) : ntN S Ls Hs Ts = 0 ∧ ntN S' Ls' Hs' Ts' = 0 := by
  unfold nwN at h
  by_cases e : ntN S Ls Hs Ts = 0
  · rw [if_pos e] at h; exact ⟨e, h⟩
  · rw [if_neg e] at h; exact absurd h e
theorem nw_tw {S : Int} {Ls : List ((Int × Int) × (Int × Int))} {Hs : List (ByteArray × (Int × Int))} {Ts : List (List Ru)} {S' : Int} {Ls' : List ((Int × Int) × (Int × Int))} {Hs' : List (ByteArray × (Int × Int))} {Ts' : List (List Ru)} (h : nwN S Ls Hs Ts S' Ls' Hs' Ts' = 0) (j : Nat) (h1 : j < Ts.length) (h2 : j < Ts'.length) : twN (Ts.getD j []) (Ts'.getD j []) = 0 := by
  obtain ⟨a, b⟩ := nw_two h
  rw [twN, if_pos ((nt_0 a).2.2 j h1), (nt_0 b).2.2 j h2]
set_option maxHeartbeats 4000000 in
set_option maxRecDepth 100000 in
theorem chSame_any (S : Int) (ao : Option Addr) (n cap : Nat) (ao2 : Option Addr) (n2 cap2 : Nat) (ao3 : Option Addr) (n3 cap3 : Nat) (S' : Int) (bo : Option Addr) (m dap : Nat) (bo2 : Option Addr) (m2 dap2 : Nat) (bo3 : Option Addr) (m3 dap3 : Nat) (Ls : List ((Int × Int) × (Int × Int))) (Hs : List (ByteArray × (Int × Int))) (Ts : List (List Ru)) (Ls' : List ((Int × Int) × (Int × Int))) (Hs' : List (ByteArray × (Int × Int))) (Ts' : List (List Ru)) (w : World)
    (hL : GS lnkE w (.slice ao n cap) Ls) (hH : GS hstE w (.slice ao2 n2 cap2) Hs) (hT : TS w (.slice ao3 n3 cap3) Ts) (hL' : GS lnkE w (.slice bo m dap) Ls') (hH' : GS hstE w (.slice bo2 m2 dap2) Hs') (hT' : TS w (.slice bo3 m3 dap3) Ts') :
    Calls Try.prog 7 #[.agg #[.int .i64 S, .slice ao n cap, .slice ao2 n2 cap2, .slice ao3 n3 cap3], .agg #[.int .i64 S', .slice bo m dap, .slice bo2 m2 dap2, .slice bo3 m3 dap3]] w fun e w' => e = .returned (.tuple #[.bool (nsB S Ls Hs Ts S' Ls' Hs' Ts'), noV (nwN S Ls Hs Ts S' Ls' Hs' Ts')]) ∧ Below w.heap.size w w' := by
  have hb0 : Below w.heap.size w ((w.alloc (Obj.cells #[.int .i64 S, .slice ao n cap, .slice ao2 n2 cap2, .slice ao3 n3 cap3] 28)).alloc (Obj.cells #[.int .i64 S', .slice bo m dap, .slice bo2 m2 dap2, .slice bo3 m3 dap3] 28)) := ((Below.refl _ _).alloc (Nat.le_refl _) _).alloc (by simp) _
  have HNN := nn_new w S (.slice ao n cap) (.slice ao2 n2 cap2) (.slice ao3 n3 cap3) S' (.slice bo m dap) (.slice bo2 m2 dap2) (.slice bo3 m3 dap3) 28
  have HB0 : Hid (Below w.heap.size w ((w.alloc (Obj.cells #[.int .i64 S, .slice ao n cap, .slice ao2 n2 cap2, .slice ao3 n3 cap3] 28)).alloc (Obj.cells #[.int .i64 S', .slice bo m dap, .slice bo2 m2 dap2, .slice bo3 m3 dap3] 28))) := hb0
  have HW : Hid (∀ W, Below w.heap.size w W → (GS lnkE W (.slice ao n cap) Ls ∧ GS hstE W (.slice ao2 n2 cap2) Hs ∧ TS W (.slice ao3 n3 cap3) Ts) ∧ GS lnkE W (.slice bo m dap) Ls' ∧ GS hstE W (.slice bo2 m2 dap2) Hs' ∧ TS W (.slice bo3 m3 dap3) Ts') := fun W h => ⟨⟨hL.later h, hH.later h, hT.later h⟩, hL'.later h, hH'.later h, hT'.later h⟩
  obtain ⟨X, hX⟩ : ∃ X, X = nwN S Ls Hs Ts S' Ls' Hs' Ts' := ⟨_, rfl⟩
  have HX : Hid (X = nwN S Ls Hs Ts S' Ls' Hs' Ts') := hX
  obtain ⟨R, hR⟩ : ∃ R, R = nsB S Ls Hs Ts S' Ls' Hs' Ts' := ⟨_, rfl⟩
  have HR : Hid (R = (decide (X = 0) && (tpB S S' Ls Ls' Hs Hs' && etB Ts Ts'))) := by
    show _ = _
    rw [hR, nsB, hX]
  rw [← hX, ← hR]
  clear hL hH hT hL' hH' hT' hb0 hX hR
  go_enter Try.func7, Try.ntmps7
  go_wp2_with fail
  refine (chCheck_any S ao n cap ao2 n2 cap2 ao3 n3 cap3 S' bo m dap bo2 m2 dap2 bo3 m3 dap3 Ls Hs Ts Ls' Hs' Ts' _ (HW.out _ HB0.out).1.1 (HW.out _ HB0.out).1.2.1 (HW.out _ HB0.out).1.2.2 (HW.out _ HB0.out).2.1 (HW.out _ HB0.out).2.2.1 (HW.out _ HB0.out).2.2.2).mono ?_
  rintro e w1 ⟨rfl, hb1⟩
  rw [← HX.out]
  have HB1 : Hid (Below w.heap.size w w1) := HB0.out.trans (hb1.mono HB0.out.size)
  have HN1 := HNN.later hb1
  obtain ⟨⟨p0, p1, p2, p3⟩, s0, s1, s2, s3⟩ := HN1
  have HNH : Hid (NN w1 w.heap.size S (.slice ao n cap) (.slice ao2 n2 cap2) (.slice ao3 n3 cap3) S' (.slice bo m dap) (.slice bo2 m2 dap2) (.slice bo3 m3 dap3)) := HNN.later hb1
  have hlt1 : w.heap.size < w1.heap.size := World.block_lt_of_cell? _ _ p0
  have hlt2 : w.heap.size + 1 < w1.heap.size := World.block_lt_of_cell? _ _ s0
  clear hb1 HNN HB0
  by_cases h0 : X = 0
  · subst h0
    rw [no_ok rfl]
    go_wp2_with fail
    refine (sameTopo_any S ao n cap ao2 n2 cap2 Ls Hs S' bo m dap bo2 m2 dap2 Ls' Hs' _ (HW.out _ HB1.out).1.1 (HW.out _ HB1.out).1.2.1 (HW.out _ HB1.out).2.1 (HW.out _ HB1.out).2.2.1).mono ?_
    rintro e w2 ⟨rfl, hb2⟩
    have HB2 : Hid (Below w.heap.size w w2) := HB1.out.trans (hb2.mono HB1.out.size)
    clear p0 p1 p2 p3 s0 s1 s2 s3 hlt1 hlt2
    obtain ⟨⟨p0, p1, p2, p3⟩, s0, s1, s2, s3⟩ := HNH.out.later hb2
    have hlt1 : w.heap.size < w2.heap.size := World.block_lt_of_cell? _ _ p0
    have hlt2 : w.heap.size + 1 < w2.heap.size := World.block_lt_of_cell? _ _ s0
    obtain ⟨b1, hb⟩ : ∃ b, b = tpB S S' Ls Ls' Hs Hs' := ⟨_, rfl⟩
    have HBE : Hid (tpB S S' Ls Ls' Hs Hs' = b1) := hb.symm
    rw [HBE.out]
    clear hb hb2 HNH
    cases b1 with
    | false =>
      have HRF : Hid (R = false) := by
        show _ = _
        rw [HR.out, HBE.out]
        simp
      go_wp2
      refine bodyPost_ret (v := .tuple #[.bool false, .nilIface]) (by simp [results, Try.results7, go_sem]) rfl ?_
      exact ⟨by rw [HRF.out]; rfl, HB2.out⟩
    | true =>
      go_wp2_with fail
      refine (eqTabs_any ao3 n3 cap3 bo3 m3 dap3 Ts Ts' w2 (HW.out _ HB2.out).1.2.2 (HW.out _ HB2.out).2.2.2 (nw_tw HX.out.symm)).mono ?_
      rintro e w3 ⟨rfl, hb3⟩
      have HB3 : Hid (Below w.heap.size w w3) := HB2.out.trans (hb3.mono HB2.out.size)
      obtain ⟨b2, hb⟩ : ∃ b, b = etB Ts Ts' := ⟨_, rfl⟩
      have HB4 : Hid (etB Ts Ts' = b2) := hb.symm
      rw [HB4.out]
      have HRF : Hid (R = b2) := by
        show _ = _
        rw [HR.out, HBE.out, HB4.out]
        simp
      clear hb hb3 p0 p1 p2 p3 s0 s1 s2 s3
      go_wp2
      refine bodyPost_ret (v := .tuple #[.bool b2, .nilIface]) (by simp [results, Try.results7, go_sem]) rfl ?_
      exact ⟨by rw [HRF.out]; rfl, HB3.out⟩
  · have HNZ : Hid (X ≠ 0) := h0
    have HRF : Hid (R = false) := by
      show _ = _
      rw [HR.out]
      simp [h0]
    rw [no_ne h0]
    clear h0
    go_wp2
    refine bodyPost_ret (v := .tuple #[.bool false, .iface 52 (.int .i64 X)]) (by simp [results, Try.results7, go_sem]) rfl ?_
    exact ⟨by rw [HRF.out, no_ne HNZ.out], HB1.out⟩
end Go.Proofs.Ytokkmnednhigmae
/- What change.Diff answers: what is between two nets. -/
namespace Go.Proofs.Ytokkmnednhigmae
open Go.RowKit
set_option linter.unusedSimpArgs false
set_option linter.unusedVariables false

/-- The fault of what is between two nets, and what is. -/
def diN (S : Int) (Ls : List ((Int × Int) × (Int × Int))) (Hs : List (ByteArray × (Int × Int))) (Ts : List (List Ru)) (S' : Int) (Ls' : List ((Int × Int) × (Int × Int))) (Hs' : List (ByteArray × (Int × Int))) (Ts' : List (List Ru)) : Int :=
  if nwN S Ls Hs Ts S' Ls' Hs' Ts' = 0 then (if tpB S S' Ls Ls' Hs Hs' = true then 0 else 3) else nwN S Ls Hs Ts S' Ls' Hs' Ts'
def diL (S : Int) (Ls : List ((Int × Int) × (Int × Int))) (Hs : List (ByteArray × (Int × Int))) (Ts : List (List Ru)) (S' : Int) (Ls' : List ((Int × Int) × (Int × Int))) (Hs' : List (ByteArray × (Int × Int))) (Ts' : List (List Ru)) : List Op8 :=
  if diN S Ls Hs Ts S' Ls' Hs' Ts' = 0 then cdL Ts Ts' Ts.length else []
theorem of_next {w : Int} {D : List Op8} {k : Nat} (hk : k < D.length) (C : List Op8) : C ++ ofS w (D.take (k + 1)) = (C ++ ofS w (D.take k)) ++ [⟨w, D[k].a, D[k].r⟩] := by
  rw [List.take_succ_eq_append_getElem hk]
  simp only [ofS, List.map_append, List.map_cons, List.map_nil, List.append_assoc]
set_option maxHeartbeats 8000000 in
set_option maxRecDepth 100000 in
theorem chDiff_any (S : Int) (ao : Option Addr) (n cap : Nat) (ao2 : Option Addr) (n2 cap2 : Nat) (ao3 : Option Addr) (n3 cap3 : Nat) (S' : Int) (bo : Option Addr) (m dap : Nat) (bo2 : Option Addr) (m2 dap2 : Nat) (bo3 : Option Addr) (m3 dap3 : Nat) (Ls : List ((Int × Int) × (Int × Int))) (Hs : List (ByteArray × (Int × Int))) (Ts : List (List Ru)) (Ls' : List ((Int × Int) × (Int × Int))) (Hs' : List (ByteArray × (Int × Int))) (Ts' : List (List Ru)) (w : World)
    (hL : GS lnkE w (.slice ao n cap) Ls) (hH : GS hstE w (.slice ao2 n2 cap2) Hs) (hT : TS w (.slice ao3 n3 cap3) Ts) (hL' : GS lnkE w (.slice bo m dap) Ls') (hH' : GS hstE w (.slice bo2 m2 dap2) Hs') (hT' : TS w (.slice bo3 m3 dap3) Ts') :
    Calls Try.prog 6 #[.agg #[.int .i64 S, .slice ao n cap, .slice ao2 n2 cap2, .slice ao3 n3 cap3], .agg #[.int .i64 S', .slice bo m dap, .slice bo2 m2 dap2, .slice bo3 m3 dap3]] w fun e w' => ∃ v, e = .returned (.tuple #[v, noV (diN S Ls Hs Ts S' Ls' Hs' Ts')]) ∧ NO w' w.heap.size v (diL S Ls Hs Ts S' Ls' Hs' Ts') ∧ Below w.heap.size w w' := by
  have hb0 : Below w.heap.size w ((w.alloc (Obj.cells #[.int .i64 S, .slice ao n cap, .slice ao2 n2 cap2, .slice ao3 n3 cap3] 28)).alloc (Obj.cells #[.int .i64 S', .slice bo m dap, .slice bo2 m2 dap2, .slice bo3 m3 dap3] 28)) := ((Below.refl _ _).alloc (Nat.le_refl _) _).alloc (by simp) _
  have HNN := nn_new w S (.slice ao n cap) (.slice ao2 n2 cap2) (.slice ao3 n3 cap3) S' (.slice bo m dap) (.slice bo2 m2 dap2) (.slice bo3 m3 dap3) 28
  have HB0 : Hid (Below w.heap.size w ((w.alloc (Obj.cells #[.int .i64 S, .slice ao n cap, .slice ao2 n2 cap2, .slice ao3 n3 cap3] 28)).alloc (Obj.cells #[.int .i64 S', .slice bo m dap, .slice bo2 m2 dap2, .slice bo3 m3 dap3] 28))) := hb0
  have HW : Hid (∀ W, Below w.heap.size w W → (GS lnkE W (.slice ao n cap) Ls ∧ GS hstE W (.slice ao2 n2 cap2) Hs ∧ TS W (.slice ao3 n3 cap3) Ts) ∧ GS lnkE W (.slice bo m dap) Ls' ∧ GS hstE W (.slice bo2 m2 dap2) Hs' ∧ TS W (.slice bo3 m3 dap3) Ts') := fun W h => ⟨⟨hL.later h, hH.later h, hT.later h⟩, hL'.later h, hH'.later h, hT'.later h⟩
  obtain ⟨_, _, _, e, gn, gn2, gn3, ga⟩ := hT.form
  cases e
  obtain ⟨_, _, _, e, gm, gm2, gm3, gb⟩ := hT'.form
  cases e
  have HN : Hid (Ts.length = n3) := gn
  have HM : Hid (Ts'.length = m3) := gm
  have HA : Hid (0 < n3 → ∃ g o, ao3 = some ⟨g, o, none⟩ ∧ TAt w g o Ts ∧ cap3 ≤ maxLen) := ga
  have HA2 : Hid (0 < m3 → ∃ g o, bo3 = some ⟨g, o, none⟩ ∧ TAt w g o Ts' ∧ dap3 ≤ maxLen) := gb
  have n63 : n3 ≤ 9223372036854775807 := by unfold maxLen at gn2; omega
  obtain ⟨C, hC⟩ : ∃ X, X = nwN S Ls Hs Ts S' Ls' Hs' Ts' := ⟨_, rfl⟩
  have HC : Hid (C = nwN S Ls Hs Ts S' Ls' Hs' Ts') := hC
  obtain ⟨X, hX⟩ : ∃ X, X = diN S Ls Hs Ts S' Ls' Hs' Ts' := ⟨_, rfl⟩
  obtain ⟨R, hR⟩ : ∃ X, X = diL S Ls Hs Ts S' Ls' Hs' Ts' := ⟨_, rfl⟩
  have HX : Hid (X = if C = 0 then (if tpB S S' Ls Ls' Hs Hs' = true then 0 else 3) else C) := by
    show _ = _
    rw [hX, diN, hC]
  have HR : Hid (R = if X = 0 then cdL Ts Ts' Ts.length else []) := by
    show _ = _
    rw [hR, diL, hX]
  rw [← hX, ← hR]
  clear hL hH hT hL' hH' hT' hb0 hX hR hC gn gn2 ga gm gm2 gb
  go_enter Try.func6, Try.ntmps6
  go_wp2_with fail
  refine (chCheck_any S ao n cap ao2 n2 cap2 ao3 n3 cap3 S' bo m dap bo2 m2 dap2 bo3 m3 dap3 Ls Hs Ts Ls' Hs' Ts' _ (HW.out _ HB0.out).1.1 (HW.out _ HB0.out).1.2.1 (HW.out _ HB0.out).1.2.2 (HW.out _ HB0.out).2.1 (HW.out _ HB0.out).2.2.1 (HW.out _ HB0.out).2.2.2).mono ?_
  rintro e w1 ⟨rfl, hb1⟩
  rw [← HC.out]
  have HB1 : Hid (Below w.heap.size w w1) := HB0.out.trans (hb1.mono HB0.out.size)
  have HNH : Hid (NN w1 w.heap.size S (.slice ao n cap) (.slice ao2 n2 cap2) (.slice ao3 n3 cap3) S' (.slice bo m dap) (.slice bo2 m2 dap2) (.slice bo3 m3 dap3)) := HNN.later hb1
  obtain ⟨⟨p0, p1, p2, p3⟩, s0, s1, s2, s3⟩ := HNN.later hb1
  have hlt1 : w.heap.size < w1.heap.size := World.block_lt_of_cell? _ _ p0
  have hlt2 : w.heap.size + 1 < w1.heap.size := World.block_lt_of_cell? _ _ s0
  clear hb1 HNN HB0
  by_cases h0 : C = 0
  · subst h0
    rw [no_ok rfl]
    go_wp2_with fail
    refine (sameTopo_any S ao n cap ao2 n2 cap2 Ls Hs S' bo m dap bo2 m2 dap2 Ls' Hs' _ (HW.out _ HB1.out).1.1 (HW.out _ HB1.out).1.2.1 (HW.out _ HB1.out).2.1 (HW.out _ HB1.out).2.2.1).mono ?_
    rintro e w2 ⟨rfl, hb2⟩
    have HB2 : Hid (Below w.heap.size w w2) := HB1.out.trans (hb2.mono HB1.out.size)
    have HN2 : Hid (NN w2 w.heap.size S (.slice ao n cap) (.slice ao2 n2 cap2) (.slice ao3 n3 cap3) S' (.slice bo m dap) (.slice bo2 m2 dap2) (.slice bo3 m3 dap3)) := HNH.out.later hb2
    clear p0 p1 p2 p3 s0 s1 s2 s3 hlt1 hlt2
    obtain ⟨⟨p0, p1, p2, p3⟩, s0, s1, s2, s3⟩ := HNH.out.later hb2
    have hlt1 : w.heap.size < w2.heap.size := World.block_lt_of_cell? _ _ p0
    have hlt2 : w.heap.size + 1 < w2.heap.size := World.block_lt_of_cell? _ _ s0
    obtain ⟨b1, hb⟩ : ∃ b, b = tpB S S' Ls Ls' Hs Hs' := ⟨_, rfl⟩
    have HBE : Hid (tpB S S' Ls Ls' Hs Hs' = b1) := hb.symm
    rw [HBE.out]
    clear hb hb2 HNH HB1
    cases b1 with
    | false =>
      have HX3 : Hid (X = 3) := by
        show _ = _
        rw [HX.out, HBE.out]
        rfl
      have HR3 : Hid (R = []) := by
        show _ = _
        rw [HR.out, HX3.out]
        rfl
      go_wp2
      refine bodyPost_ret (v := .tuple #[.slice none 0 0, .iface 52 (.int .i64 3)]) (by simp [results, Try.results6, go_sem]) rfl ?_
      rw [HX3.out, HR3.out]
      exact ⟨_, rfl, NO.nil _ _, HB2.out⟩
    | true =>
      have HX0 : Hid (X = 0) := by
        show _ = _
        rw [HX.out, HBE.out]
        rfl
      have HR0 : Hid (R = cdL Ts Ts' n3) := by
        show _ = _
        rw [HR.out, HX0.out, HN.out]
        rfl
      have HTW : Hid (∀ j, j < n3 → j < m3 → twN (Ts.getD j []) (Ts'.getD j []) = 0) := fun j h1 h2 => nw_tw HC.out.symm j (by rw [HN.out]; exact h1) (by rw [HM.out]; exact h2)
      have hnm : n3 = m3 := by
        have h1 := (nt_0 (nw_two HC.out.symm).1).2.1
        have h2 := (nt_0 (nw_two HC.out.symm).2).2.1
        have h3 := (tpB_iff.1 HBE.out).1
        rw [HN.out] at h1
        rw [HM.out] at h2
        omega
      subst hnm
      have h36 : n3 ≤ 6 := by
        have h1 := (nt_0 (nw_two HC.out.symm).1).2.1
        have h2 := (tp_0 (nt_0 (nw_two HC.out.symm).1).1).1
        rw [HN.out] at h1
        omega
      have HFW : Hid (∀ k, k ≤ n3 → (cdL Ts Ts' k).length ≤ 24 * k) := by
        intro k
        induction k with
        | zero => intro _; simp [cdL]
        | succ k ih =>
          intro hk
          have h1 := ih (by omega)
          have h2 : (dfL (Ts.getD k []) (Ts'.getD k [])).length ≤ 24 := by
            have h := HTW.out k (by omega) (by omega)
            have h3 := tw_two h
            have a := (tb_iff.1 h3.1).1
            have b := (tb_iff.1 h3.2).1
            have c := bey_le (Ts.getD k []) (Ts'.getD k [])
            have d := bey_le (Ts'.getD k []) (Ts.getD k [])
            rw [dfL, if_pos h]
            simp only [taken, added, List.length_append, List.length_map]
            omega
          rw [cdL, List.length_append, ofS, List.length_map]
          omega
      go_wp2
      go_loopw [7, 30] (fun u i wr => ∃ k : Nat, k ≤ n3 ∧ i = .int .i64 k ∧ NO wr (w.heap.size + 2) u (cdL Ts Ts' k) ∧ NN wr w.heap.size S (.slice ao n cap) (.slice ao2 n2 cap2) (.slice ao3 n3 cap3) S' (.slice bo m dap) (.slice bo2 m2 dap2) (.slice bo3 n3 dap3) ∧ Below w.heap.size w wr) (fun _ i _ => n3 - (intOf i).toNat)
      case atStart => exact ⟨0, by omega, rfl, NO.nil _ _, HN2.out, HB2.out⟩
      case round =>
        obtain ⟨k, hk, rfl, hO, hX, hB⟩ := hrel
        clear HN2 HB2 p0 p1 p2 p3 s0 s1 s2 s3 hlt1 hlt2
        have HB : Hid (Below w.heap.size w wr) := hB
        have HO : Hid (NO wr (w.heap.size + 2) u7 (cdL Ts Ts' k)) := hO
        have HNX : Hid (NN wr w.heap.size S (.slice ao n cap) (.slice ao2 n2 cap2) (.slice ao3 n3 cap3) S' (.slice bo m dap) (.slice bo2 m2 dap2) (.slice bo3 n3 dap3)) := hX
        obtain ⟨⟨p0, p1, p2, p3⟩, s0, s1, s2, s3⟩ := hX
        have hlt1 : w.heap.size < wr.heap.size := World.block_lt_of_cell? _ _ p0
        have hlt2 : w.heap.size + 1 < wr.heap.size := World.block_lt_of_cell? _ _ s0
        by_cases hlt : k < n3
        · obtain ⟨g, og, hao, hc, _⟩ := HA.out (by omega)
          obtain ⟨f, of, hbo, hd, _⟩ := HA2.out (by omega)
          subst hao hbo
          have hkA : k < Ts.length := by rw [HN.out]; exact hlt
          have hkB : k < Ts'.length := by rw [HM.out]; exact hlt
          obtain ⟨a3, l3, c3, r0, hG3⟩ := (hc.later hB) k hkA
          obtain ⟨a4, l4, c4, r1, hG4⟩ := (hd.later hB) k hkB
          rw [← getT hkA] at hG3
          rw [← getT hkB] at hG4
          have HG3 : Hid (SR wr (.slice a3 l3 c3) (Ts.getD k [])) := hG3
          have HG4 : Hid (SR wr (.slice a4 l4 c4) (Ts'.getD k [])) := hG4
          have HT0 : Hid (twN (Ts.getD k []) (Ts'.getD k []) = 0) := HTW.out k hlt hlt
          have kb0 : (0 : Int) ≤ (k : Int) := by omega
          have kb1 : (k : Int) < (n3 : Int) := by omega
          clear hc hd hB hG3 hG4 hO
          go_wp2_with fail
          refine (diff_own a3 l3 c3 a4 l4 c4 _ _ wr HG3.out HG4.out HT0.out).mono ?_
          rintro e w3 ⟨v5, rfl, hown, hb3⟩
          obtain ⟨D, hD⟩ : ∃ D, D = dfL (Ts.getD k []) (Ts'.getD k []) := ⟨_, rfl⟩
          have HD : Hid (cdL Ts Ts' (k + 1) = cdL Ts Ts' k ++ ofS ((k : Int) + 1) D) := by
            show _ = _
            rw [cdL, hD]
          have hD2 : NO w3 wr.heap.size v5 D := by
            rw [hD, dfL, if_pos HT0.out]
            exact hown
          obtain ⟨a5, n5, c5, rfl⟩ : ∃ b1 m1 d1, v5 = .slice b1 m1 d1 := by
            obtain ⟨a, c, h⟩ := own_form hD2
            exact ⟨a, _, c, h⟩
          have HDL : Hid (D.length = n5) := hD2.gs.len
          have HD24 : Hid ((cdL Ts Ts' k).length + D.length ≤ 1000) := by
            have h1 := HFW.out (k + 1) (by omega)
            rw [HD.out, List.length_append, ofS, List.length_map] at h1
            show _ ≤ _
            omega
          have hn5 : n5 ≤ 1000 := by have := HD24.out; rw [HDL.out] at this; omega
          have HNO3 : Hid (NO w3 wr.heap.size (.slice a5 n5 c5) D) := hD2
          have HO3 : Hid (NO w3 (w.heap.size + 2) u7 (cdL Ts Ts' k)) := HO.out.later hb3
          have HOB : Hid (∀ b, u7.ownBlock = some b → b < wr.heap.size) := fun b hb => (HO.out.lt b hb).2
          have HB3 : Hid (Below w.heap.size w w3) := HB.out.trans (hb3.mono HB.out.size)
          have HN3 : Hid (NN w3 w.heap.size S (.slice ao n cap) (.slice ao2 n2 cap2) (.slice (some ⟨g, og, none⟩) n3 cap3) S' (.slice bo m dap) (.slice bo2 m2 dap2) (.slice (some ⟨f, of, none⟩) n3 dap3)) := HNX.out.later hb3
          have HS3 : Hid (w.heap.size + 2 ≤ wr.heap.size) := by show _ ≤ _; omega
          have HLE : Hid (wr.heap.size ≤ w3.heap.size) := hb3.size
          clear hown hb3 hD hD2 p0 p1 p2 p3 s0 s1 s2 s3 hlt1 hlt2 r0 r1 HO HNX HB HG3 HG4
          have HAP : Hid ((Value.slice a5 n5 c5).ownBlock = none ∨ (Value.slice a5 n5 c5).ownBlock ≠ u7.ownBlock) := by
            rcases h5 : (Value.slice a5 n5 c5).ownBlock with _ | b5
            · exact .inl rfl
            · refine .inr fun e => ?_
              have h1 := (HNO3.out.lt b5 h5).1
              have h2 := HOB.out b5 e.symm
              omega
          obtain ⟨i0, hi, hz0, hz1, hz2⟩ := info_parts op_info
          have HI1 : Hid (Try.prog.info? 39 = some i0) := hi
          have HI2 : Hid (i0.zero = some (.agg #[.int .i64 0, .bool false, .int .i64 0, .int .i64 0, .int .i64 0, .int .i64 0, .int .i64 0, .int .i64 0])) := hz0
          have HI3 : Hid (i0.size = 8) := hz1
          have HI4 : Hid (i0.bytes = 64) := hz2
          have kw : IntKind.i64.wrap ((k : Int) + 1) = (k : Int) + 1 := by rw [IntKind.wrap_i64]; omega
          have kw2 : wrap64 ((k : Int) + 1) = (k : Int) + 1 := by unfold wrap64; omega
          obtain ⟨_, _, _, e, h51, h52, h53, h5a⟩ := HNO3.out.gs.form
          cases e
          clear hi hz0 hz1 hz2 h51 h52 h53 h5a HOB
          generalize hZ : wr.heap.size = Z at HNO3 HS3 HLE
          clear hZ
          go_wp2
          go_loopw [7, 47] (fun u j W => ∃ q : Nat, q ≤ n5 ∧ j = .int .i64 q ∧ NO W (w.heap.size + 2) u (cdL Ts Ts' k ++ ofS ((k : Int) + 1) (D.take q)) ∧ NN W w.heap.size S (.slice ao n cap) (.slice ao2 n2 cap2) (.slice (some ⟨g, og, none⟩) n3 cap3) S' (.slice bo m dap) (.slice bo2 m2 dap2) (.slice (some ⟨f, of, none⟩) n3 dap3) ∧ NO W Z (.slice a5 n5 c5) D ∧ ((Value.slice a5 n5 c5).ownBlock = none ∨ (Value.slice a5 n5 c5).ownBlock ≠ u.ownBlock) ∧ Below w.heap.size w W) (fun _ j _ => n5 - (intOf j).toNat)
          case atStart => exact ⟨0, by omega, rfl, by simpa [ofS] using HO3.out, HN3.out, HNO3.out, HAP.out, HB3.out⟩
          case round =>
            obtain ⟨q, hq, rfl, hO, hX, hNO, hap, hB⟩ := hrel
            clear HO3 HN3 HNO3 HAP HB3
            have HB : Hid (Below w.heap.size w wr) := hB
            have HO : Hid (NO wr (w.heap.size + 2) u7 (cdL Ts Ts' k ++ ofS ((k : Int) + 1) (D.take q))) := hO
            have HNX : Hid (NN wr w.heap.size S (.slice ao n cap) (.slice ao2 n2 cap2) (.slice (some ⟨g, og, none⟩) n3 cap3) S' (.slice bo m dap) (.slice bo2 m2 dap2) (.slice (some ⟨f, of, none⟩) n3 dap3)) := hX
            have HNO : Hid (NO wr Z (.slice a5 n5 c5) D) := hNO
            have HAP : Hid ((Value.slice a5 n5 c5).ownBlock = none ∨ (Value.slice a5 n5 c5).ownBlock ≠ u7.ownBlock) := hap
            have HLW : Hid (w.heap.size + 2 ≤ wr.heap.size) := by
              have := World.block_lt_of_cell? _ _ hX.2.1
              show _ ≤ _
              simp at this
              omega
            clear hO hX hap
            by_cases hlq : q < n5
            · obtain ⟨_, _, _, e, _, _, _, ha⟩ := hNO.gs.form
              cases e
              obtain ⟨g5, o5, rfl, hGA, _⟩ := ha (by omega)
              obtain ⟨y0, ya, p, m', b, o', s', v, hql, hDq, r0, r1, r2, r3, r4, r5, r6, r7⟩ := op_at hGA HDL.out hlq
              have qb0 : (0 : Int) ≤ (q : Int) := by omega
              have qb1 : (q : Int) < (n5 : Int) := by omega
              have HNX2 : Hid (cdL Ts Ts' k ++ ofS ((k : Int) + 1) (D.take (q + 1)) = (cdL Ts Ts' k ++ ofS ((k : Int) + 1) (D.take q)) ++ [⟨(k : Int) + 1, ya, ⟨p, m', b, o', s', v⟩⟩]) := by
                show _ = _
                rw [of_next hql, hDq]
              have HL1 : Hid ((cdL Ts Ts' k ++ ofS ((k : Int) + 1) (D.take q)).length ≤ 1000) := by
                have := HD24.out
                show _ ≤ _
                rw [List.length_append, ofS, List.length_map, List.length_take]
                omega
              have HLV1 : Hid ((cdL Ts Ts' k ++ ofS ((k : Int) + 1) (D.take q)).length + 1 ≤ maxLen) := by
                have := HL1.out
                show _ ≤ _
                unfold maxLen
                omega
              have HLV2 : Hid (((cdL Ts Ts' k ++ ofS ((k : Int) + 1) (D.take q)).length + 1) * 64 ≤ 140737488355328) := by
                have := HL1.out
                show _ ≤ _
                omega
              have hBB : Below wr.heap.size wr ((wr.alloc (Obj.cells #[.int .i64 ((k : Int) + 1), .bool ya, .int .i64 p, .int .i64 m', .int .i64 b, .int .i64 o', .int .i64 s', .int .i64 v] 39)).alloc (Obj.cells #[.int .i64 ((k : Int) + 1), .bool ya, .int .i64 p, .int .i64 m', .int .i64 b, .int .i64 o', .int .i64 s', .int .i64 v] 39)) := ((Below.refl _ _).alloc (Nat.le_refl _) _).alloc (by simp) _
              have HBB : Hid (Below wr.heap.size wr ((wr.alloc (Obj.cells #[.int .i64 ((k : Int) + 1), .bool ya, .int .i64 p, .int .i64 m', .int .i64 b, .int .i64 o', .int .i64 s', .int .i64 v] 39)).alloc (Obj.cells #[.int .i64 ((k : Int) + 1), .bool ya, .int .i64 p, .int .i64 m', .int .i64 b, .int .i64 o', .int .i64 s', .int .i64 v] 39))) := hBB
              have HVA : Hid (VAt ((wr.alloc (Obj.cells #[.int .i64 ((k : Int) + 1), .bool ya, .int .i64 p, .int .i64 m', .int .i64 b, .int .i64 o', .int .i64 s', .int .i64 v] 39)).alloc (Obj.cells #[.int .i64 ((k : Int) + 1), .bool ya, .int .i64 p, .int .i64 m', .int .i64 b, .int .i64 o', .int .i64 s', .int .i64 v] 39)) (wr.heap.size + 1) 0 (opE.c ⟨(k : Int) + 1, ya, ⟨p, m', b, o', s', v⟩⟩)) := by
                have h := op_new (wr.alloc (Obj.cells #[.int .i64 ((k : Int) + 1), .bool ya, .int .i64 p, .int .i64 m', .int .i64 b, .int .i64 o', .int .i64 s', .int .i64 v] 39)) ((k : Int) + 1) ya p m' b o' s' v 39
                rw [World.size_alloc] at h
                exact h
              clear hNO ha hGA hDq hBB hB
              go_wp2_with (at_builtin; refine wpList_append_blk (E := opE) _ rfl _ _ 29 39 rfl Try.underlying29 i0 _ 64 HI1.out HI2.out HI3.out HI4.out op_zero (w.heap.size + 2) u7 rfl (cdL Ts Ts' k ++ ofS ((k : Int) + 1) (D.take q)) (HO.out.later HBB.out) (wr.heap.size + 1) 0 1 rfl ⟨(k : Int) + 1, ya, ⟨p, m', b, o', s', v⟩⟩ HVA.out HLV1.out HLV2.out (Nat.le_trans HLW.out HBB.out.size) ?_)
              intro v' w4 hown hgrow hblk
              have hNB := HNO.out.later HBB.out
              have HO4 : Hid (NO w4 (w.heap.size + 2) v' (cdL Ts Ts' k ++ ofS ((k : Int) + 1) (D.take (q + 1)))) := by
                show NO _ _ _ _
                rw [HNX2.out]
                refine NO.ofn hown (by simp) ?_
                simp only [List.length_append, List.length_cons, List.length_nil]
                omega
              have HN4 : Hid (NO w4 Z (.slice (some ⟨g5, o5, none⟩) n5 c5) D) := hNB.kept hgrow HAP.out
              have HB4 : Hid (Below w.heap.size w w4) := by
                have h1 := HB.out.trans (HBB.out.mono HB.out.size)
                exact h1.grown hgrow h1.size (fun b hb => by have := (HO.out.lt b hb).1; omega)
              have HX4 : Hid (NN w4 w.heap.size S (.slice ao n cap) (.slice ao2 n2 cap2) (.slice (some ⟨g, og, none⟩) n3 cap3) S' (.slice bo m dap) (.slice bo2 m2 dap2) (.slice (some ⟨f, of, none⟩) n3 dap3)) := (HNX.out.later HBB.out).grown hgrow (fun b hb => (HO.out.lt b hb).1)
              have HAP4 : Hid ((Value.slice (some ⟨g5, o5, none⟩) n5 c5).ownBlock = none ∨ (Value.slice (some ⟨g5, o5, none⟩) n5 c5).ownBlock ≠ v'.ownBlock) := by
                rcases hblk with h | h
                · rw [h]; exact HAP.out
                · refine .inr fun e => ?_
                  rw [h] at e
                  have h2 := (hNB.lt _ e).2
                  simp at h2
              clear hown hgrow hblk hNB r0 r1 r2 r3 r4 r5 r6 r7 HVA HBB
              go_wp2
              go_roundw
              case rel => exact ⟨q + 1, by omega, by go_num, HO4.out, HX4.out, HN4.out, HAP4.out, HB4.out⟩
              case measure => simp [intOf]; omega
            · obtain rfl : q = n5 := by omega
              have HO4 : Hid (NO wr (w.heap.size + 2) u7 (cdL Ts Ts' (k + 1))) := by
                have h := HO.out
                rw [← HDL.out, List.take_length, ← HD.out] at h
                exact h
              clear hNO hB
              go_wp2
              go_roundw
              case rel => exact ⟨k + 1, by omega, by go_num, HO4.out, HNX.out, HB.out⟩
              case measure => simp [intOf]; omega
        · obtain rfl : k = n3 := by omega
          clear hB hO
          go_wp2
          refine bodyPost_ret (v := .tuple #[u7, .nilIface]) (by simp [results, Try.results6, go_sem]) rfl ?_
          rw [HX0.out, HR0.out]
          exact ⟨_, rfl, HO.out.mono (by omega), HB.out⟩
  · have HNZ : Hid (C ≠ 0) := h0
    have HXC : Hid (X = C) := by
      show _ = _
      rw [HX.out, if_neg h0]
    have HR3 : Hid (R = []) := by
      show _ = _
      rw [HR.out, HXC.out, if_neg h0]
    rw [no_ne h0]
    clear h0
    go_wp2
    refine bodyPost_ret (v := .tuple #[.slice none 0 0, .iface 52 (.int .i64 C)]) (by simp [results, Try.results6, go_sem]) rfl ?_
    rw [HXC.out, HR3.out, no_ne HNZ.out]
    exact ⟨_, rfl, NO.nil _ _, HB1.out⟩
end Go.Proofs.Ytokkmnednhigmae
/- What change.Turn answers: the ops that take all back. It goes over slices.Backward, an iterator. -/
namespace Go.Proofs.Ytokkmnednhigmae
open Go.RowKit Go.Shelf
set_option linter.unusedSimpArgs false
set_option linter.unusedVariables false
attribute [local go_sem] Oper.semAt_some

def zeO : Op8 := ⟨0, false, ⟨0, 0, 0, 0, 0, 0⟩⟩
def opV (o : Op8) : Value := .agg #[.int .i64 o.w, .bool o.a, .int .i64 o.r.p, .int .i64 o.r.m, .int .i64 o.r.b, .int .i64 o.r.o, .int .i64 o.r.s, .int .i64 o.r.v]
/-- The j-th from behind, with its place. -/
def bk (l : List Op8) (j : Nat) : Nat × Op8 := (l.length - 1 - j, l.getD (l.length - 1 - j) zeO)
def bkTo (l : List Op8) (k : Nat) : List (Nat × Op8) := (List.range k).map (bk l)
theorem bk_succ (l : List Op8) (k : Nat) : bkTo l (k + 1) = bkTo l k ++ [bk l k] := by simp [bkTo, List.range_succ]
theorem bk_len (l : List Op8) (k : Nat) : (bkTo l k).length = k := by simp [bkTo]
theorem bk_all (l : List Op8) : (bkTo l l.length).map (fun x => tu1 x.2) = tuL l := by
  apply List.ext_getElem
  · simp [bkTo, tuL]
  · intro i h1 h2
    have hi : i < l.length := by simpa [bkTo] using h1
    have hj : l.length - 1 - i < l.length := by omega
    simp [bkTo, bk, tuL, List.getElem_reverse, List.getD, hj]
def bkE (x : Nat × Op8) : Array Value := #[.int .i64 (x.1 : Int), opV x.2]
/-- What a round keeps: what lay ahead, and the iterator's own box. -/
def bkK (n₀ Bs : Nat) (W W' : World) : Prop := Below n₀ W W' ∧ ∀ v, Boxed W Bs 29 v → Boxed W' Bs 29 v

set_option maxRecDepth 100000 in
set_option maxHeartbeats 2000000 in
theorem bk1_in (F : Fence) (n : Nat) (hF : F.fn 36) (hro : F.round = none) (hn : 1 ≤ n) (l Bs n₀ : Nat) (a : Option Addr) (len cap : Nat) (L : List Op8) (J Jx : List (Nat × Op8) → World → Prop)
    (hY : ∀ pre x W, J pre W → pre.length < L.length → YieldAt F (n - 1) Try.prog l (bkE x) W fun e W' =>
      (e = .returned (.bool true) ∧ J (pre ++ [x]) W' ∧ bkK n₀ Bs W W') ∨ (e = .returned (.bool false) ∧ Jx (pre ++ [x]) W'))
    (W : World) (hBs : Boxed W Bs 29 (.slice a len cap)) (hG : ∀ W', Below n₀ W W' → GS opE W' (.slice a len cap) L) (h0 : J [] W) :
    CallsIn F n Try.prog 36 #[.func (.yield l) #[] #[], .pointer (some ⟨Bs, 0, none⟩)] W fun e W' => (∃ v, e = .returned v) ∧
      ((∃ ys, ys = bkTo L L.length ∧ J ys W') ∨ (∃ pre, (∃ k, k ≤ L.length ∧ pre = bkTo L k) ∧ Jx pre W')) := by
  obtain ⟨_, _, _, e, hl, hl2, hl3, ha⟩ := (hG W (Below.refl _ _)).form
  cases e
  have HL : Hid (L.length = len) := hl
  have n63 : len ≤ 9223372036854775807 := by unfold maxLen at hl2; omega
  have hc0 := hBs.cell
  have HS : Hid (Boxed W Bs 29 (.slice a len cap)) := hBs
  have HG : Hid (∀ W', Below n₀ W W' → GS opE W' (.slice a len cap) L) := hG
  have w1 : IntKind.i64.wrap ((len : Int) - 1) = (len : Int) - 1 := by rw [IntKind.wrap_i64]; omega
  have w2 : wrap64 ((len : Int) - 1) = (len : Int) - 1 := by unfold wrap64; omega
  clear hl hl2 hl3 ha hBs hG
  refine callsIn_of_wp Try.func36 rfl hF ?_ hro
  simp only [Try.ntmps36, List.size_toArray, List.length_cons, List.length_nil, Nat.reduceAdd, Nat.reduceSub, Array.replicate_succ, Array.replicate_zero, List.push_toArray, List.append_toArray, List.nil_append, List.cons_append]
  gi_wp2
  gi_loopw [3] (fun i wr => ∃ k : Nat, k ≤ len ∧ i = .int .i64 ((len : Int) - 1 - k) ∧ J (bkTo L k) wr ∧ bkK n₀ Bs W wr)
    (fun i _ => (intOf i + 1).toNat)
  case atStart => exact ⟨0, Nat.zero_le _, by simp, h0, Below.refl _ _, fun _ h => h⟩
  case round =>
    obtain ⟨k, hk, rfl, hJs, hK⟩ := hrel
    by_cases hlt : k < len
    · obtain ⟨j, hj⟩ : ∃ j : Nat, (len : Int) - 1 - k = (j : Int) := ⟨len - 1 - k, by omega⟩
      rw [hj]
      have hjl : j < len := by omega
      obtain ⟨_, _, _, e, _, _, _, ha⟩ := (HG.out wr hK.1).form
      cases e
      obtain ⟨g, o, rfl, hGA, _⟩ := ha (by omega)
      obtain ⟨x0, xa, p, m, b, q, s, v, hkl, hLk, r0, r1, r2, r3, r4, r5, r6, r7⟩ := op_at hGA HL.out hjl
      have hbk : bk L k = (j, ⟨x0, xa, ⟨p, m, b, q, s, v⟩⟩) := by
        have e1 : L.length - 1 - k = j := by rw [HL.out]; omega
        simp only [bk, e1]
        rw [← hLk]
        simp [List.getD, hkl]
      obtain ⟨fn, tmps, assign, body, hy, hR⟩ := hY _ (bk L k) wr hJs (by rw [bk_len, HL.out]; exact hlt)
      rw [← bk_succ] at hR
      simp only [hbk, bkE, opV] at hy
      have hc1 := (hK.2 _ HS.out).cell
      have jb0 : (0 : Int) ≤ (j : Int) := by omega
      have jb1 : (j : Int) < (len : Int) := by omega
      have w3 : IntKind.i64.wrap ((j : Int) - 1) = (j : Int) - 1 := by rw [IntKind.wrap_i64]; omega
      have w4 : wrap64 ((j : Int) - 1) = (j : Int) - 1 := by unfold wrap64; omega
      have HJ : Hid ((len : Int) - 1 - k = (j : Int)) := hj
      have HK : Hid (bkK n₀ Bs W wr) := hK
      clear hc0 hj hGA hLk hbk hK
      gi_wp2
      refine hR.mono ?_
      rintro e W3 (⟨rfl, hJ3, hk3⟩ | ⟨rfl, hJx3⟩)
      · gi_wp2
        go_roundw
        case rel => exact ⟨k + 1, by omega, by have := HJ.out; congr 1; omega, hJ3, HK.out.1.trans hk3.1, fun u hu => hk3.2 u (HK.out.2 u hu)⟩
        case measure => simp [intOf]
      · gi_wp2
        refine bodyPost_ret (results_none rfl _ _ _) rfl ?_
        exact ⟨⟨_, rfl⟩, .inr ⟨_, ⟨k + 1, by rw [HL.out]; omega, rfl⟩, hJx3⟩⟩
    · obtain rfl : k = len := by omega
      have e1 : (k : Int) - 1 - k = -1 := by omega
      rw [e1]
      gi_wp2
      go_end0
      exact ⟨⟨_, rfl⟩, .inl ⟨_, by rw [HL.out], hJs⟩⟩
set_option maxHeartbeats 1000000 in
/-- slices.Backward(s): the slice is boxed; the function value captures the box. -/
theorem bk_in (F : Fence) (n : Nat) (hF : F.fn 20) (hro : F.round = none) (a : Option Addr) (len cap : Nat) (w : World) :
    CallsIn F n Try.prog 20 #[.slice a len cap] w fun e w' => e = .returned (.func (.func 36) #[] #[.pointer (some ⟨w.heap.size, 0, none⟩)]) ∧ w' = w.alloc (.cells #[.slice a len cap] 29) := by
  refine callsIn_of_wp Try.func20 rfl hF ?_ hro
  simp only [Try.ntmps20, List.size_toArray, List.length_cons, List.length_nil, Nat.reduceAdd, Nat.reduceSub, Array.replicate_succ, Array.replicate_zero, List.push_toArray, List.append_toArray, List.nil_append, List.cons_append]
  gi_wp2
  go_ret
  exact ⟨rfl, rfl⟩
theorem bk_stops (F : Fence) (n : Nat) (hF : F.fn 36) (hro : F.round = none) (hn : 1 ≤ n) (Bs n₀ : Nat) (a : Option Addr) (len cap : Nat) (L : List Op8) (w : World) (hBs : Boxed w Bs 29 (.slice a len cap)) (hn₀ : n₀ ≤ w.heap.size) (hG : ∀ W', Below n₀ w W' → GS opE W' (.slice a len cap) L) :
    SeqStopsK F n Try.prog 36 #[.pointer (some ⟨Bs, 0, none⟩)] bkE (bkK n₀ Bs) (fun ys => ys = bkTo L L.length) (fun pre => ∃ k, k ≤ L.length ∧ pre = bkTo L k) L.length w := fun l J Jx W hW _ _ hY h0 =>
  bk1_in F n hF hro hn l Bs n₀ a len cap L J Jx hY W (hBs.kept (grown_below hW) (by simp)) (fun W' h => hG W' ((hW.mono hn₀).trans h)) h0

/-- The box of an op. -/
def OpBox (W : World) (b : Nat) (o : Op8) : Prop := VAt W b 0 (opE.c o) ∧ W.frozen? ⟨b, 1, none⟩ = false
theorem opbox_own (b : Nat) (o : Op8) {W W' : World} {row : Option Nat} (h : OpBox W b o) (hg : W.grownBy W' row) (hr : ∀ r, row = some r → ∃ o : Obj, W.heap[r]? = some o ∧ o.isCells = false) : OpBox W' b o := by
  refine ⟨fun j u hu => cell_kept (h.1 j u hu) hg hr, ?_⟩
  have h1 := h.1 1 (.bool o.a) rfl
  exact (frozen_kept h1 hg hr).trans h.2
set_option maxRecDepth 100000 in
set_option maxHeartbeats 4000000 in
theorem turn_in (F : Fence) (n : Nat) (h3 : F.fn 8) (h4 : F.fn 20) (h5 : F.fn 36) (hro : F.round = none) (hn : 3 ≤ n) (a : Option Addr) (len cap : Nat) (L : List Op8) (w : World) (hlen : L.length * 64 ≤ 140737488355328) (hG : GS opE w (.slice a len cap) L) :
    CallsIn F n Try.prog 8 #[.slice a len cap] w fun e W' => ∃ v, e = .returned v ∧ W'.ownsRow w.heap.size 39 8 v (tuL L).length (cellsG opE (tuL L)) ∧ Below w.heap.size w W' := by
  have h1 : 1 ≤ n := by omega
  obtain ⟨i0, hi, hz0, hz1, hz2⟩ := info_parts op_info
  refine callsIn_of_wp_marks Try.func8 rfl h3 ?_ hro
  simp only [Try.ntmps8, List.size_toArray, List.length_cons, List.length_nil, Nat.reduceAdd, Nat.reduceSub, Array.replicate_succ, Array.replicate_zero, List.push_toArray, List.append_toArray, List.nil_append, List.cons_append]
  gi_wp2_with (gi_at_call 20; refine (bk_in F (n - 1) h4 hro _ _ _ _).mono ?_; rintro e w' ⟨rfl, rfl⟩)
  have bO := Boxed.new w 29 (.slice none 0 0)
  have bS := Boxed.new (w.alloc (.cells #[.slice none 0 0] 29)) 29 (.slice a len cap)
  rw [World.size_alloc] at bS
  have hB0 : Below w.heap.size w ((w.alloc (.cells #[.slice none 0 0] 29)).alloc (.cells #[.slice a len cap] 29)) := ((Below.refl _ w).alloc (Nat.le_refl _) _).alloc (by simp) _
  have hsz : ((w.alloc (.cells #[.slice none 0 0] 29)).alloc (.cells #[.slice a len cap] 29)).heap.size = w.heap.size + 2 := by simp
  have bO2 := bO.alloc (.cells #[.slice a len cap] 29)
  obtain ⟨W0, hW0⟩ : ∃ W0, (w.alloc (.cells #[.slice none 0 0] 29)).alloc (.cells #[.slice a len cap] 29) = W0 := ⟨_, rfl⟩
  rw [hW0] at bO2 bS hB0 hsz ⊢
  clear hW0 bO
  refine wpIn_rangeFunc_ownH hro h1 (gf := 36) (lb := #[.pointer (some ⟨w.heap.size + 1, 0, none⟩)]) rfl h5 (enters_of Try.func36 (by kernel_rfl) rfl)
    (bk_stops F (n - 1) h5 hro (by omega) (w.heap.size + 1) w.heap.size a len cap L W0 bS (by omega) (fun W' h => hG.later (hB0.trans h)))
    (fun h k => ⟨h.1.trans k.1, fun v hv => k.2 v (h.2 v hv)⟩)
    (fun W l o o' hl ho hc hw => ⟨belowK_b (w := W0) (by omega) W l o o' hl ho hc hw, fun v hv => hv.kept (grownBy_putObj' W l o') (by simp; omega)⟩)
    (Below.refl _ _) (fun _ => rfl)
    (fun pre W => ((∃ v, Boxed W w.heap.size 29 v ∧ W.ownsRow w.heap.size 39 8 v pre.length (cellsG opE (pre.map (fun x => tu1 x.2))) ∧ True) ∧ Boxed W (w.heap.size + 1) 29 (.slice a len cap)) ∧ Below w.heap.size w W)
    (fun _ _ _ => False)
    (OwnFrom.and (OwnFrom.and (Own.from (holdsRow_own w.heap.size w.heap.size 29 39 8 (fun (pre : List (Nat × Op8)) => pre.length) (fun (pre : List (Nat × Op8)) => cellsG opE (pre.map (fun (x : Nat × Op8) => tu1 x.2))) (fun _ _ => True)) _) (Own.from (boxed_own _ _ _) _)) (ownFrom_below (Nat.le_refl _) (by omega)))
    (fun _ _ _ _ _ hs _ _ => hs)
    ⟨⟨⟨_, bO2, World.ownsRow_nil _ _ _ _, trivial⟩, bS⟩, hB0⟩
    (fun x a' W => ∃ Bx v0, w.heap.size + 1 < Bx ∧ OpBox W Bx x.2 ∧ Boxed W w.heap.size 29 v0 ∧ v0.ownBlock ≠ some Bx ∧ a' = { tmps := #[.slice a len cap, undef, .slice none 0 0, .pointer (some ⟨w.heap.size, 0, none⟩), undef, .pointer (some ⟨Bx, 0, none⟩), .slice a len cap, .func (.func 36) #[] #[.pointer (some ⟨w.heap.size + 1, 0, none⟩)], .int .i64 (x.1 : Int), opV x.2, undef, undef, undef, undef, undef, undef, undef, undef, undef], defers := [] })
    (fun x a' s A B row hs hg hr => by
      obtain ⟨Bx, v0, q1, q2, q3, q4, q5⟩ := hs
      exact ⟨Bx, v0, q1, opbox_own _ _ q2 hg (fun r e => (hr r e).2), (Own.from (boxed_own (β := Unit) w.heap.size 29 (fun _ => v0)) W0.heap.size) () A B row q3 hg hr, q4, q5⟩)
    ?assign ?body ?done ?stop
  case assign =>
    rintro l pre x W K ⟨⟨⟨v, hv, hrow, _⟩, hs⟩, hB⟩ hK
    obtain ⟨xi, ⟨x0, xa, ⟨p, m, b, q, s, u⟩⟩⟩ := x
    simp only [bkE, opV]
    gi_wp2
    exact hK _ _ ((KeepsOthers.alloc _ _).from _) ⟨(Below.refl _ W).alloc hB.size _, fun v hv => hv.alloc _⟩ ⟨⟨⟨v, hv.alloc _, hrow.alloc _, trivial⟩, hs.alloc _⟩, hB.alloc hB.size _⟩ ⟨W.heap.size, v, hs.lt, ⟨op_new W x0 xa p m b q s u 39, by simp⟩, hv.alloc _, fun e => absurd (hrow.lt _ e).2 (Nat.lt_irrefl _), rfl⟩
  case body =>
    rintro l pre x a' W hl ⟨r, hr⟩ ⟨⟨⟨v, hv, hrow, _⟩, hs⟩, hB⟩ ⟨Bx, v0, q1, q2, q3, q4, rfl⟩ hlt
    obtain rfl : v0 = v := by
      have e := q3.cell.symm.trans hv.cell
      exact Option.some.inj e
    obtain ⟨xi, ⟨x0, xa, ⟨p, m, b, q, s, u⟩⟩⟩ := x
    obtain ⟨c0, c1, c2, c3, c4, c5, c6, c7⟩ := op_cells q2.1
    simp only [Nat.zero_add] at c0 c1 c2 c3 c4 c5 c6 c7
    have f1 := q2.2
    have hne : Bx ≠ w.heap.size := by omega
    have hne2 : w.heap.size ≠ Bx := by omega
    have hv2 : Boxed (W.setCell ⟨Bx, 1, none⟩ (.bool (!xa))) w.heap.size 29 v0 := hv.kept (grown_set W Bx 1 _) (by simp; omega)
    have hrow2 : (W.setCell ⟨Bx, 1, none⟩ (.bool (!xa))).ownsRow w.heap.size 39 8 v0 pre.length (cellsG opE (pre.map (fun x => tu1 x.2))) := hrow.kept (grown_set W Bx 1 _) (.inr q4)
    have hsz2 : (W.setCell ⟨Bx, 1, none⟩ (.bool (!xa))).heap.size = W.heap.size := by simp
    have HKS : Hid (∀ w1 v' (o : Obj) z, ((W.setCell ⟨Bx, 1, none⟩ (.bool (!xa))).alloc o).grownBy w1 v0.ownBlock → Boxed W (w.heap.size + 1) 29 z → Boxed (w1.setCell ⟨w.heap.size, 0, none⟩ v') (w.heap.size + 1) 29 z) := by
      intro w1 v' o z hg hz
      have h2 := hz.kept (grown_set W Bx 1 (.bool (!xa))) (by simp; omega)
      exact ((h2.alloc o).kept hg (h2.not_row (by decide) hrow2)).kept (grownBy_setCell' w1 w.heap.size v') (by simp)
    have hc := hv2.cell
    have hcW := hv.cell
    have HNC : Hid (∀ j u', ([.int .i64 x0, .bool (!xa), .int .i64 p, .int .i64 m, .int .i64 b, .int .i64 q, .int .i64 s, .int .i64 u] : List Value)[j]? = some u' → ((W.setCell ⟨Bx, 1, none⟩ (.bool (!xa))).alloc (.cells #[.int .i64 x0, .bool (!xa), .int .i64 p, .int .i64 m, .int .i64 b, .int .i64 q, .int .i64 s, .int .i64 u] 39)).cell? ((⟨W.heap.size, 0, none⟩ : Addr).add j) = some u') := by
      intro j u' hu
      have h := op_new (W.setCell ⟨Bx, 1, none⟩ (.bool (!xa))) x0 (!xa) p m b q s u 39 j u' hu
      rw [hsz2, Nat.zero_add] at h
      have e : (⟨W.heap.size, 0, none⟩ : Addr).add j = ⟨W.heap.size, j, none⟩ := by
        simp [Addr.add]
        exact fun h => h.symm
      rw [e]
      exact h
    have HOC : Hid (∀ y ∈ ([.int .i64 x0, .bool (!xa), .int .i64 p, .int .i64 m, .int .i64 b, .int .i64 q, .int .i64 s, .int .i64 u] : List Value), y.oneCell' = true) := by
      intro y hy
      simp at hy
      rcases hy with rfl | rfl | rfl | rfl | rfl | rfl | rfl | rfl <;> rfl
    have hb1 : pre.length + 1 ≤ maxLen := by unfold maxLen; omega
    have hb2 : (pre.length + 1) * 64 ≤ 140737488355328 := by omega
    have hlw := hB.size
    gi_wp2_with (gi_at_builtin; refine wpListIn_append_own _ rfl _ _ 29 rfl w.heap.size 39 i0 (.agg #[.int .i64 0, .bool false, .int .i64 0, .int .i64 0, .int .i64 0, .int .i64 0, .int .i64 0, .int .i64 0]) 8 64 Try.underlying29 hi hz0 hz1 hz2 op_zero (by decide) _ _ _ rfl (hrow2.alloc _) ⟨W.heap.size, 0, none⟩ 1 1 [.int .i64 x0, .bool (!xa), .int .i64 p, .int .i64 m, .int .i64 b, .int .i64 q, .int .i64 s, .int .i64 u] rfl rfl HNC.out HOC.out hb1 hb2 (by simp; omega) ?_; intro v' w1 hown' hgrow _; obtain ⟨g', cap', rfl⟩ := ownsRow_succ hown'; obtain ⟨hv1, hv2', hr2, hk2, hb2'⟩ := hv2.appended (by decide) hrow2 (by rw [hsz2]; exact hlw) (Nat.le_refl _) hown' hgrow; have hc1 := hv1.cell; have hf1 := hv1.frozen)
    refine ⟨((KeepsOthers.setCell W ⟨Bx, 1, none⟩ (.bool (!xa))).trans hk2).from _, ⟨((Below.refl w.heap.size W).setCell (p := ⟨Bx, 1, none⟩) (show w.heap.size ≤ Bx by omega) _).trans hb2', fun z hz => HKS.out _ _ _ z hgrow hz⟩, ⟨⟨_, hv2', ?_⟩, HKS.out _ _ _ _ hgrow hs⟩, (hB.setCell (p := ⟨Bx, 1, none⟩) (show w.heap.size ≤ Bx by omega) _).trans hb2'⟩
    have e1 : (pre ++ [(xi, (⟨x0, xa, ⟨p, m, b, q, s, u⟩⟩ : Op8))]).map (fun x => tu1 x.2) = pre.map (fun x => tu1 x.2) ++ [⟨x0, !xa, ⟨p, m, b, q, s, u⟩⟩] := by simp [tu1]
    rw [e1, cellsG_app, cellsG_one, List.length_append]
    exact hr2
  case done =>
    rintro D ys W hD rfl ⟨⟨⟨v, hv, hrow, _⟩, hs⟩, hB⟩ hK
    have hc := hv.cell
    gi_wp2
    refine ⟨by simp, .inl ⟨_, _, rfl, run_takeDeferred hK, ?_⟩⟩
    rw [bk_all, bk_len, ← tu_len] at hrow
    exact ⟨_, results_tmp rfl _ _ _, v, rfl, ownsRow_putObj hrow _ hK rfl, hB.trans (belowK_b (w := w) (Nat.le_refl _) W D _ _ (by omega) hK rfl rfl)⟩
  case stop =>
    rintro D c pre W _ _ h _
    exact h.elim
theorem turn_any (a : Option Addr) (len cap : Nat) (L : List Op8) (w : World) (hlen : L.length * 64 ≤ 140737488355328) (hG : GS opE w (.slice a len cap) L) :
    Calls Try.prog 8 #[.slice a len cap] w fun e W' => ∃ v, e = .returned v ∧ NO W' w.heap.size v (tuL L) ∧ Below w.heap.size w W' := by
  refine (callsIn_wide (n := 3)).1 ?_
  exact turn_in _ 3 trivial trivial trivial rfl (by omega) a len cap L w hlen hG
end Go.Proofs.Ytokkmnednhigmae
