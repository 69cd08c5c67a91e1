/- What net.checkPacket answers: a contract for the walks above it. -/
import Derived.Test.YtfbocionnjlilacNetCheck
import Derived.Test.YtfbocionnjlilacTopoCon
import Derived.Test.YtfbocionnjlilacCubeHas
namespace Go.Proofs.Ytfbocionnjlilac
open Go.RowKit
set_option linter.unusedSimpArgs false
set_option linter.unusedVariables false

set_option maxHeartbeats 2000000 in
set_option maxRecDepth 100000 in
theorem npacket_any (S : Int) (ao : Option Addr) (n cap : Nat) (ao2 : Option Addr) (n2 cap2 : Nat) (ao3 : Option Addr) (n3 cap3 : Nat) (Ls : List ((Int × Int) × (Int × Int))) (Hs : List (ByteArray × (Int × Int))) (Ts : List (List Ru)) (x y h : Int) (w : World)
    (hL : GS lnkE w (.slice ao n cap) Ls) (hH : GS hstE w (.slice ao2 n2 cap2) Hs) (hT : TS w (.slice ao3 n3 cap3) Ts) :
    Calls Try.prog 24 #[.agg #[.int .i64 S, .slice ao n cap, .slice ao2 n2 cap2, .slice ao3 n3 cap3], .agg #[.int .i64 x, .int .i64 y], .int .i64 h] w fun e w' => e = .returned (noV (cpN S Ls Hs Ts (x, y) h)) ∧ Below w.heap.size w w' := by
  have hb1 : Below w.heap.size w (w.alloc (Obj.cells #[.int .i64 S, .slice ao n cap, .slice ao2 n2 cap2, .slice ao3 n3 cap3] 42)) := (Below.refl _ _).alloc (Nat.le_refl _) _
  have hb2 : Below w.heap.size w ((w.alloc (Obj.cells #[.int .i64 S, .slice ao n cap, .slice ao2 n2 cap2, .slice ao3 n3 cap3] 42)).alloc (Obj.cells #[.int .i64 x, .int .i64 y] 27)) := hb1.alloc hb1.size _
  have hX : NeBox ((w.alloc (Obj.cells #[.int .i64 S, .slice ao n cap, .slice ao2 n2 cap2, .slice ao3 n3 cap3] 42)).alloc (Obj.cells #[.int .i64 x, .int .i64 y] 27)) w.heap.size S (.slice ao n cap) (.slice ao2 n2 cap2) (.slice ao3 n3 cap3) :=
    (nebox_new w S _ _ _ 42).later ((Below.refl _ _).alloc (Nat.le_refl _) _)
  have hS0 : VAt ((w.alloc (Obj.cells #[.int .i64 S, .slice ao n cap, .slice ao2 n2 cap2, .slice ao3 n3 cap3] 42)).alloc (Obj.cells #[.int .i64 x, .int .i64 y] 27)) (w.heap.size + 1) 0 (spoE.c (x, y)) := by
    have h := spo_new (w.alloc (Obj.cells #[.int .i64 S, .slice ao n cap, .slice ao2 n2 cap2, .slice ao3 n3 cap3] 42)) x y 27
    simpa using h
  obtain ⟨W2, hW2⟩ : ∃ W, W = (w.alloc (Obj.cells #[.int .i64 S, .slice ao n cap, .slice ao2 n2 cap2, .slice ao3 n3 cap3] 42)).alloc (Obj.cells #[.int .i64 x, .int .i64 y] 27) := ⟨_, rfl⟩
  rw [← hW2] at hb2 hX hS0
  obtain ⟨C, hC⟩ : ∃ C, C = cpN S Ls Hs Ts (x, y) h := ⟨_, rfl⟩
  have HC : Hid (C = cpN S Ls Hs Ts (x, y) h) := hC
  rw [← hC]
  have HL2 : Hid (GS lnkE W2 (.slice ao n cap) Ls) := hL.later hb2
  have HH2 : Hid (GS hstE W2 (.slice ao2 n2 cap2) Hs) := hH.later hb2
  have HT2 : Hid (TS W2 (.slice ao3 n3 cap3) Ts) := hT.later hb2
  have HB2 : Hid (Below w.heap.size w W2) := hb2
  have HX : Hid (NeBox W2 w.heap.size S (.slice ao n cap) (.slice ao2 n2 cap2) (.slice ao3 n3 cap3)) := hX
  have HS0 : Hid (VAt W2 (w.heap.size + 1) 0 (spoE.c (x, y))) := hS0
  have HW2 : Hid (W2 = (w.alloc (Obj.cells #[.int .i64 S, .slice ao n cap, .slice ao2 n2 cap2, .slice ao3 n3 cap3] 42)).alloc (Obj.cells #[.int .i64 x, .int .i64 y] 27)) := hW2
  clear hC hb1 hb2 hX hS0 hL hH hT hW2
  go_enter Try.func24, Try.ntmps24
  go_wp2_with fail
  rw [← HW2.out]
  refine (ncheck_any S ao n cap ao2 n2 cap2 ao3 n3 cap3 Ls Hs Ts _ HL2.out HH2.out HT2.out).mono ?_
  rintro e w1 ⟨rfl, hb1⟩
  obtain ⟨T, hT⟩ : ∃ T, T = ntN S Ls Hs Ts := ⟨_, rfl⟩
  have HT : Hid (T = ntN S Ls Hs Ts) := hT
  rw [← hT]
  have HB1 : Hid (Below w.heap.size w w1) := HB2.out.trans (hb1.mono HB2.out.size)
  obtain ⟨b0, b1, b2, b3⟩ := HX.out.later hb1
  obtain ⟨s0, s1⟩ := spo_cells (HS0.out.later hb1)
  simp only [Nat.zero_add] at s0 s1
  clear hT hb1 HX HS0 HL2 HH2 HB2 HT2 HW2
  by_cases h0 : T = 0
  · subst h0
    rw [no_ok rfl]
    have hC3 : C = if (spB S (x, y) && hdrB h) = true then 0 else 1 := by rw [HC.out, cpN, if_pos HT.out.symm]
    have HC3 : Hid (C = if (spB S (x, y) && hdrB h) = true then 0 else 1) := hC3
    clear hC3
    go_wp2_with fail
    refine (isSpot_any S x y _).mono ?_
    rintro e w2 ⟨rfl, hb2⟩
    have HB3 : Hid (Below w.heap.size w w2) := HB1.out.trans (hb2.mono HB1.out.size)
    clear hb2
    cases hs : spB S (x, y)
    · have HC2 : Hid (C = 1) := by
        show _ = _
        rw [HC3.out, hs]
        rfl
      go_wp2
      go_ret
      exact ⟨by rw [HC2.out]; rfl, HB3.out⟩
    · go_wp2_with fail
      refine (isHeader_any h _).mono ?_
      rintro e w3 ⟨rfl, rfl⟩
      have HB4 : Hid (Below w.heap.size w w3) := HB3.out
      clear HB3
      cases hh : hdrB h
      · have HC2 : Hid (C = 1) := by
          show _ = _
          rw [HC3.out, hs, hh]
          rfl
        go_wp2
        go_ret
        exact ⟨by rw [HC2.out]; rfl, HB4.out⟩
      · have HC2 : Hid (C = 0) := by
          show _ = _
          rw [HC3.out, hs, hh]
          rfl
        go_wp2
        go_ret
        exact ⟨by rw [HC2.out]; rfl, HB4.out⟩
  · rw [no_ne h0]
    have HC2 : Hid (C = T) := by
      show _ = _
      rw [HC.out, cpN, ← HT.out, if_neg h0]
    have HN0 : Hid (T ≠ 0) := h0
    clear h0
    go_wp2
    go_ret
    exact ⟨by rw [HC2.out, no_ne HN0.out]; rfl, HB1.out⟩
end Go.Proofs.Ytfbocionnjlilac
