/- Contracts and facts on the way to NetTells, joined into one text: NetPacket, NetFrom, NetSend, AsErr, AsErr2, SameNo. -/
import Derived.Test.YtpmcjelihdlfeaaDoorNetTellsP4
import Derived.Test.YtpmcjelihdlfeaaDoorNetTellsP2
import Derived.Test.YtpmcjelihdlfeaaDoorNetTellsP3
import Derived.Test.YtpmcjelihdlfeaaDoorNetTellsP6
import Derived.Test.YtpmcjelihdlfeaaDoorNetTellsP7
import Derived.BigRegion
import Derived.Test.YtpmcjelihdlfeaaDoorRows
import Derived.WalkSpells
import Derived.Below
import Derived.WalkKit
import Derived.LaidEql
import Derived.Stop.Asserts
import Derived.RowKitTokens
/- What net.checkPacket answers: a contract for the walks above it. -/
namespace Go.Proofs.YtpmcjelihdlfeaaDoor
open Go.RowKit
set_option linter.unusedSimpArgs false
set_option linter.unusedVariables false

set_option maxHeartbeats 2000000 in
set_option maxRecDepth 100000 in
theorem npacket_any (S : Int) (ao : Option Addr) (n cap : Nat) (ao2 : Option Addr) (n2 cap2 : Nat) (ao3 : Option Addr) (n3 cap3 : Nat) (Ls : List ((Int × Int) × (Int × Int))) (Hs : List (ByteArray × (Int × Int))) (Ts : List (List Ru)) (x y h : Int) (w : World)
    (hL : GS lnkE w (.slice ao n cap) Ls) (hH : GS hstE w (.slice ao2 n2 cap2) Hs) (hT : TS w (.slice ao3 n3 cap3) Ts) :
    Calls Tryd.prog 33 #[.agg #[.int .i64 S, .slice ao n cap, .slice ao2 n2 cap2, .slice ao3 n3 cap3], .agg #[.int .i64 x, .int .i64 y], .int .i64 h] w fun e w' => e = .returned (noV (cpN S Ls Hs Ts (x, y) h)) ∧ Below w.heap.size w w' := by
  have hb1 : Below w.heap.size w (w.alloc (Obj.cells #[.int .i64 S, .slice ao n cap, .slice ao2 n2 cap2, .slice ao3 n3 cap3] 28)) := (Below.refl _ _).alloc (Nat.le_refl _) _
  have hb2 : Below w.heap.size w ((w.alloc (Obj.cells #[.int .i64 S, .slice ao n cap, .slice ao2 n2 cap2, .slice ao3 n3 cap3] 28)).alloc (Obj.cells #[.int .i64 x, .int .i64 y] 30)) := hb1.alloc hb1.size _
  have hX : NeBox ((w.alloc (Obj.cells #[.int .i64 S, .slice ao n cap, .slice ao2 n2 cap2, .slice ao3 n3 cap3] 28)).alloc (Obj.cells #[.int .i64 x, .int .i64 y] 30)) w.heap.size S (.slice ao n cap) (.slice ao2 n2 cap2) (.slice ao3 n3 cap3) :=
    (nebox_new w S _ _ _ 28).later ((Below.refl _ _).alloc (Nat.le_refl _) _)
  have hS0 : VAt ((w.alloc (Obj.cells #[.int .i64 S, .slice ao n cap, .slice ao2 n2 cap2, .slice ao3 n3 cap3] 28)).alloc (Obj.cells #[.int .i64 x, .int .i64 y] 30)) (w.heap.size + 1) 0 (spoE.c (x, y)) := by
    have h := spo_new (w.alloc (Obj.cells #[.int .i64 S, .slice ao n cap, .slice ao2 n2 cap2, .slice ao3 n3 cap3] 28)) x y 30
    simpa using h
  obtain ⟨W2, hW2⟩ : ∃ W, W = (w.alloc (Obj.cells #[.int .i64 S, .slice ao n cap, .slice ao2 n2 cap2, .slice ao3 n3 cap3] 28)).alloc (Obj.cells #[.int .i64 x, .int .i64 y] 30) := ⟨_, rfl⟩
  rw [← hW2] at hb2 hX hS0
  obtain ⟨C, hC⟩ : ∃ C, C = cpN S Ls Hs Ts (x, y) h := ⟨_, rfl⟩
  have HC : Hid (C = cpN S Ls Hs Ts (x, y) h) := hC
  rw [← hC]
  have HL2 : Hid (GS lnkE W2 (.slice ao n cap) Ls) := hL.later hb2
  have HH2 : Hid (GS hstE W2 (.slice ao2 n2 cap2) Hs) := hH.later hb2
  have HT2 : Hid (TS W2 (.slice ao3 n3 cap3) Ts) := hT.later hb2
  have HB2 : Hid (Below w.heap.size w W2) := hb2
  have HX : Hid (NeBox W2 w.heap.size S (.slice ao n cap) (.slice ao2 n2 cap2) (.slice ao3 n3 cap3)) := hX
  have HS0 : Hid (VAt W2 (w.heap.size + 1) 0 (spoE.c (x, y))) := hS0
  have HW2 : Hid (W2 = (w.alloc (Obj.cells #[.int .i64 S, .slice ao n cap, .slice ao2 n2 cap2, .slice ao3 n3 cap3] 28)).alloc (Obj.cells #[.int .i64 x, .int .i64 y] 30)) := hW2
  clear hC hb1 hb2 hX hS0 hL hH hT hW2
  go_enter Tryd.func33, Tryd.ntmps33
  go_wp2_with fail
  rw [← HW2.out]
  refine (ncheck_any S ao n cap ao2 n2 cap2 ao3 n3 cap3 Ls Hs Ts _ HL2.out HH2.out HT2.out).mono ?_
  rintro e w1 ⟨rfl, hb1⟩
  obtain ⟨T, hT⟩ : ∃ T, T = ntN S Ls Hs Ts := ⟨_, rfl⟩
  have HT : Hid (T = ntN S Ls Hs Ts) := hT
  rw [← hT]
  have HB1 : Hid (Below w.heap.size w w1) := HB2.out.trans (hb1.mono HB2.out.size)
  obtain ⟨b0, b1, b2, b3⟩ := HX.out.later hb1
  obtain ⟨s0, s1⟩ := spo_cells (HS0.out.later hb1)
  simp only [Nat.zero_add] at s0 s1
  clear hT hb1 HX HS0 HL2 HH2 HB2 HT2 HW2
  by_cases h0 : T = 0
  · subst h0
    rw [no_ok rfl]
    have hC3 : C = if (spB S (x, y) && hdrB h) = true then 0 else 1 := by rw [HC.out, cpN, if_pos HT.out.symm]
    have HC3 : Hid (C = if (spB S (x, y) && hdrB h) = true then 0 else 1) := hC3
    clear hC3
    go_wp2_with fail
    refine (isSpot_any S x y _).mono ?_
    rintro e w2 ⟨rfl, hb2⟩
    have HB3 : Hid (Below w.heap.size w w2) := HB1.out.trans (hb2.mono HB1.out.size)
    clear hb2
    cases hs : spB S (x, y)
    · have HC2 : Hid (C = 1) := by
        show _ = _
        rw [HC3.out, hs]
        rfl
      go_wp2
      go_ret
      exact ⟨by rw [HC2.out]; rfl, HB3.out⟩
    · go_wp2_with fail
      refine (isHeader_any h _).mono ?_
      rintro e w3 ⟨rfl, rfl⟩
      have HB4 : Hid (Below w.heap.size w w3) := HB3.out
      clear HB3
      cases hh : hdrB h
      · have HC2 : Hid (C = 1) := by
          show _ = _
          rw [HC3.out, hs, hh]
          rfl
        go_wp2
        go_ret
        exact ⟨by rw [HC2.out]; rfl, HB4.out⟩
      · have HC2 : Hid (C = 0) := by
          show _ = _
          rw [HC3.out, hs, hh]
          rfl
        go_wp2
        go_ret
        exact ⟨by rw [HC2.out]; rfl, HB4.out⟩
  · rw [no_ne h0]
    have HC2 : Hid (C = T) := by
      show _ = _
      rw [HC.out, cpN, ← HT.out, if_neg h0]
    have HN0 : Hid (T ≠ 0) := h0
    clear h0
    go_wp2
    go_ret
    exact ⟨by rw [HC2.out, no_ne HN0.out]; rfl, HB1.out⟩
end Go.Proofs.YtpmcjelihdlfeaaDoor
/- What net.From and net.Step answer: contracts for the walks above them. -/
namespace Go.Proofs.YtpmcjelihdlfeaaDoor
open Go.RowKit
set_option linter.unusedSimpArgs false
set_option linter.unusedVariables false

/-- The boxes: a net, a spot, the answer's. -/
structure OBox (w W : World) (S : Int) (v1 v2 v3 : Value) (x y : Int) : Prop where
  below : Below w.heap.size w W
  n : NeBox W w.heap.size S v1 v2 v3
  s0 : W.cell? ⟨w.heap.size + 1, 0, none⟩ = some (.int .i64 x)
  s1 : W.cell? ⟨w.heap.size + 1, 1, none⟩ = some (.int .i64 y)
  lt : w.heap.size + 2 ≤ W.heap.size
theorem obox_new (w : World) (S : Int) (v1 v2 v3 : Value) (x y : Int) : OBox w ((w.alloc (Obj.cells #[.int .i64 S, v1, v2, v3] 28)).alloc (Obj.cells #[.int .i64 x, .int .i64 y] 30)) S v1 v2 v3 x y := by
  have e1 : (w.alloc (Obj.cells #[.int .i64 S, v1, v2, v3] 28)).heap.size = w.heap.size + 1 := by simp
  have hb : ∀ (W : World) (o : Obj), Below W.heap.size W (W.alloc o) := fun W o => (Below.refl _ _).alloc (Nat.le_refl _) _
  have hs := vat_new (w.alloc (Obj.cells #[.int .i64 S, v1, v2, v3] 28)) [.int .i64 x, .int .i64 y] 30
  rw [e1] at hs
  exact ⟨((Below.refl _ _).alloc (Nat.le_refl _) _).alloc (by rw [e1]; omega) _, (nebox_new w S v1 v2 v3 28).later (hb _ _), hs 0 _ rfl, hs 1 _ rfl, by simp⟩
theorem OBox.later {w W W' : World} {S : Int} {v1 v2 v3 : Value} {x y : Int} (k : OBox w W S v1 v2 v3 x y) (hb : Below W.heap.size W W') : OBox w W' S v1 v2 v3 x y :=
  ⟨k.below.trans (hb.mono k.below.size), k.n.later hb, cell_later hb k.s0, cell_later hb k.s1, Nat.le_trans k.lt hb.size⟩
/-- And three cells, or two, of the answer's box. -/
structure RB3 (w W : World) : Prop where
  r0 : W.cell? ⟨w.heap.size + 1 + 1, 0, none⟩ = some (.int .i64 0)
  r1 : W.cell? ⟨w.heap.size + 1 + 1, 1, none⟩ = some (.string ⟨#[]⟩)
  r2 : W.cell? ⟨w.heap.size + 1 + 1, 2, none⟩ = some (.slice none 0 0)
  f : ∀ i, W.frozen? ⟨w.heap.size + 1 + 1, i, none⟩ = false
theorem RB3.later {w W W' : World} (k : RB3 w W) (hb : Below W.heap.size W W') : RB3 w W' :=
  ⟨cell_later hb k.r0, cell_later hb k.r1, cell_later hb k.r2, fun i => (hb.frozen (p := ⟨w.heap.size + 1 + 1, i, none⟩) (show (⟨w.heap.size + 1 + 1, 0, none⟩ : Addr).block < W.heap.size from World.block_lt_of_cell? W ⟨w.heap.size + 1 + 1, 0, none⟩ k.r0)).trans (k.f i)⟩
theorem rb3_new (w X : World) (h : X.heap.size = w.heap.size + 1 + 1) : RB3 w (X.alloc (Obj.cells #[.int .i64 0, .string ⟨#[]⟩, .slice none 0 0] 40)) := by
  have hr := vat_new X [.int .i64 0, .string ⟨#[]⟩, .slice none 0 0] 40
  have hf := froz_new2 X #[.int .i64 0, .string ⟨#[]⟩, .slice none 0 0] 40
  rw [h] at hr hf
  exact ⟨hr 0 _ rfl, hr 1 _ rfl, hr 2 _ rfl, hf⟩
structure RB2 (w W : World) : Prop where
  r0 : W.cell? ⟨w.heap.size + 1 + 1, 0, none⟩ = some (.int .i64 0)
  r1 : W.cell? ⟨w.heap.size + 1 + 1, 1, none⟩ = some (.int .i64 0)
  f : ∀ i, W.frozen? ⟨w.heap.size + 1 + 1, i, none⟩ = false
theorem RB2.later {w W W' : World} (k : RB2 w W) (hb : Below W.heap.size W W') : RB2 w W' :=
  ⟨cell_later hb k.r0, cell_later hb k.r1, fun i => (hb.frozen (p := ⟨w.heap.size + 1 + 1, i, none⟩) (show (⟨w.heap.size + 1 + 1, 0, none⟩ : Addr).block < W.heap.size from World.block_lt_of_cell? W ⟨w.heap.size + 1 + 1, 0, none⟩ k.r0)).trans (k.f i)⟩
theorem rb2_new (w X : World) (h : X.heap.size = w.heap.size + 1 + 1) : RB2 w (X.alloc (Obj.cells #[.int .i64 0, .int .i64 0] 30)) := by
  have hr := vat_new X [.int .i64 0, .int .i64 0] 30
  have hf := froz_new2 X #[.int .i64 0, .int .i64 0] 30
  rw [h] at hr hf
  exact ⟨hr 0 _ rfl, hr 1 _ rfl, hf⟩
theorem own_none2 (W : World) (B : Nat) : W.ownsRow B 83 3 (.slice none 0 0) (zeF.2.2).length (cellsG hopE zeF.2.2) := World.ownsRow_nil _ _ _ _

set_option maxHeartbeats 4000000 in
set_option maxRecDepth 100000 in
theorem from_any (S : Int) (ao : Option Addr) (n cap : Nat) (ao2 : Option Addr) (n2 cap2 : Nat) (ao3 : Option Addr) (n3 cap3 : Nat) (Ls : List ((Int × Int) × (Int × Int))) (Hs : List (ByteArray × (Int × Int))) (Ts : List (List Ru)) (x y h : Int) (w : World)
    (hL : GS lnkE w (.slice ao n cap) Ls) (hH : GS hstE w (.slice ao2 n2 cap2) Hs) (hT : TS w (.slice ao3 n3 cap3) Ts) :
    Calls Tryd.prog 16 #[.agg #[.int .i64 S, .slice ao n cap, .slice ao2 n2 cap2, .slice ao3 n3 cap3], .agg #[.int .i64 x, .int .i64 y], .int .i64 h] w fun e w' => ∃ ao4 n4 cap4, e = .returned (.tuple #[.agg #[.int .i64 (frV S Ls Hs Ts (x, y) h).1, .string (frV S Ls Hs Ts (x, y) h).2.1, .slice ao4 n4 cap4], noV (cpN S Ls Hs Ts (x, y) h)]) ∧ w'.ownsRow w.heap.size 83 3 (.slice ao4 n4 cap4) (frV S Ls Hs Ts (x, y) h).2.2.length (cellsG hopE (frV S Ls Hs Ts (x, y) h).2.2) ∧ Below w.heap.size w w' := by
  obtain ⟨R, hR⟩ : ∃ R, R = cpN S Ls Hs Ts (x, y) h := ⟨_, rfl⟩
  obtain ⟨V, hV⟩ : ∃ V, V = frV S Ls Hs Ts (x, y) h := ⟨_, rfl⟩
  have HR : Hid (R = cpN S Ls Hs Ts (x, y) h) := hR
  have HV : Hid (V = frV S Ls Hs Ts (x, y) h) := hV
  rw [← hR, ← hV]
  have HLW : Hid (∀ W, Below w.heap.size w W → GS lnkE W (.slice ao n cap) Ls) := fun W hb => hL.later hb
  have HHW : Hid (∀ W, Below w.heap.size w W → GS hstE W (.slice ao2 n2 cap2) Hs) := fun W hb => hH.later hb
  have HTW : Hid (∀ W, Below w.heap.size w W → TS W (.slice ao3 n3 cap3) Ts) := fun W hb => hT.later hb
  have hX0 := obox_new w S (.slice ao n cap) (.slice ao2 n2 cap2) (.slice ao3 n3 cap3) x y
  have hsz : ((w.alloc (Obj.cells #[.int .i64 S, .slice ao n cap, .slice ao2 n2 cap2, .slice ao3 n3 cap3] 28)).alloc (Obj.cells #[.int .i64 x, .int .i64 y] 30)).heap.size = w.heap.size + 1 + 1 := by simp
  have hR0 := rb3_new w _ hsz
  have hX := hX0.later ((Below.refl _ _).alloc (Nat.le_refl _) (Obj.cells #[.int .i64 0, .string ⟨#[]⟩, .slice none 0 0] 40))
  obtain ⟨w0, hw0⟩ : ∃ W, ((w.alloc (Obj.cells #[.int .i64 S, .slice ao n cap, .slice ao2 n2 cap2, .slice ao3 n3 cap3] 28)).alloc (Obj.cells #[.int .i64 x, .int .i64 y] 30)).alloc (Obj.cells #[.int .i64 0, .string ⟨#[]⟩, .slice none 0 0] 40) = W := ⟨_, rfl⟩
  rw [hw0] at hX hR0
  have HX : Hid (OBox w w0 S (.slice ao n cap) (.slice ao2 n2 cap2) (.slice ao3 n3 cap3) x y) := hX
  have HRB : Hid (RB3 w w0) := hR0
  have HW0 : Hid (((w.alloc (Obj.cells #[.int .i64 S, .slice ao n cap, .slice ao2 n2 cap2, .slice ao3 n3 cap3] 28)).alloc (Obj.cells #[.int .i64 x, .int .i64 y] 30)).alloc (Obj.cells #[.int .i64 0, .string ⟨#[]⟩, .slice none 0 0] 40) = w0) := hw0
  clear hL hH hT hR hV hX0 hsz hR0 hX hw0
  go_enter Tryd.func16, Tryd.ntmps16
  go_upto_region 1 with fail
  rw [HW0.out]
  obtain ⟨_, ⟨b0, b1, b2, b3⟩, s0, s1, _⟩ := HX.out
  clear HW0
  go_wp2_with fail
  refine (npacket_any S ao n cap ao2 n2 cap2 ao3 n3 cap3 Ls Hs Ts x y h _ (HLW.out _ HX.out.below) (HHW.out _ HX.out.below) (HTW.out _ HX.out.below)).mono ?_
  rintro e w1 ⟨rfl, hb1⟩
  rw [← HR.out]
  have HX1 : Hid (OBox w w1 S (.slice ao n cap) (.slice ao2 n2 cap2) (.slice ao3 n3 cap3) x y) := HX.out.later hb1
  have HR1 : Hid (RB3 w w1) := HRB.out.later hb1
  obtain ⟨hB1, ⟨b0, b1, b2, b3⟩, s0, s1, hlt⟩ := HX1.out
  have HB1 : Hid (Below w.heap.size w w1) := hB1
  obtain ⟨r0, r1, r2, f⟩ := HR1.out
  have f0 := f 0
  have f1 := f 1
  have f2 := f 2
  clear hb1 HX HRB f hB1
  by_cases h0 : R = 0
  · have HC0 : Hid (cpN S Ls Hs Ts (x, y) h = 0) := HR.out.symm.trans h0
    obtain ⟨k1, k2, _⟩ := cp_0 HC0.out
    have HN0 : Hid (ntN S Ls Hs Ts = 0) := k1
    have HSP : Hid (spB S (x, y) = true) := k2
    have HV0 : Hid (V = frF Ls Hs Ts (x, y) h) := by
      show _ = _
      rw [HV.out, frV, if_pos HC0.out]
    subst h0
    rw [no_ok rfl]
    clear k1 k2 r0 r1 r2 f0 f1 f2
    go_wp2_with fail
    refine (follow_any S ao n cap ao2 n2 cap2 ao3 n3 cap3 Ls Hs Ts x y h _ (HLW.out _ HB1.out) (HHW.out _ HB1.out) (HTW.out _ HB1.out) HN0.out HSP.out).mono ?_
    rintro e w5 ⟨ao4, n4, cap4, rfl, hown, hb5⟩
    rw [← HV0.out] at hown
    rw [← HV0.out]
    have hsz : w.heap.size + 1 + 1 < w1.heap.size := World.block_lt_of_cell? _ _ HR1.out.r0
    have HOW : Hid (∀ u v x, (put3 w5 (w.heap.size + 1 + 1) u v x).ownsRow w.heap.size 83 3 (.slice ao4 n4 cap4) V.2.2.length (cellsG hopE V.2.2)) := fun u v x => own_mono (own_put3 hown _ hsz u v x) (by omega)
    have HB5 : Hid (Below w.heap.size w w5) := HB1.out.trans (hb5.mono HB1.out.size)
    obtain ⟨r0, r1, r2, f⟩ := HR1.out.later hb5
    have f0 := f 0
    have f1 := f 1
    have f2 := f 2
    obtain ⟨V1, hV1⟩ : ∃ q, q = V.1 := ⟨_, rfl⟩
    obtain ⟨V2, hV2⟩ : ∃ q, q = V.2.1 := ⟨_, rfl⟩
    have HVV : Hid (V.1 = V1 ∧ V.2.1 = V2) := ⟨hV1.symm, hV2.symm⟩
    rw [← hV1, ← hV2]
    clear hown hb5 f hV1 hV2
    go_wp2
    refine bodyPost_ret (v := .tuple #[.agg #[.int .i64 V1, .string V2, .slice ao4 n4 cap4], .nilIface]) (by simp [results, Tryd.results16, go_sem, *]) rfl ⟨ao4, n4, cap4, by rw [HVV.out.1, HVV.out.2]; rfl, HOW.out _ _ _, below_put3 HB5.out _ (by omega) _ _ _⟩
  · rw [no_ne h0]
    have HNE : Hid (R ≠ 0) := h0
    have HV1 : Hid (V = zeF) := by
      show _ = _
      rw [HV.out, frV, if_neg (by rw [← HR.out]; exact h0)]
    clear h0
    go_wp2
    refine bodyPost_ret (v := .tuple #[.agg #[.int .i64 0, .string ⟨#[]⟩, .slice none 0 0], .iface 75 (.int .i64 R)]) (by simp [results, Tryd.results16, go_sem, *]) rfl ⟨_, _, _, by rw [HV1.out, no_ne HNE.out]; rfl, by rw [HV1.out]; exact own_none2 _ _, below_put3 HB1.out _ (by omega) _ _ _⟩

set_option maxHeartbeats 4000000 in
set_option maxRecDepth 100000 in
theorem stepA_any (S : Int) (ao : Option Addr) (n cap : Nat) (ao2 : Option Addr) (n2 cap2 : Nat) (ao3 : Option Addr) (n3 cap3 : Nat) (Ls : List ((Int × Int) × (Int × Int))) (Hs : List (ByteArray × (Int × Int))) (Ts : List (List Ru)) (x y h : Int) (w : World)
    (hL : GS lnkE w (.slice ao n cap) Ls) (hH : GS hstE w (.slice ao2 n2 cap2) Hs) (hT : TS w (.slice ao3 n3 cap3) Ts) :
    Calls Tryd.prog 15 #[.agg #[.int .i64 S, .slice ao n cap, .slice ao2 n2 cap2, .slice ao3 n3 cap3], .agg #[.int .i64 x, .int .i64 y], .int .i64 h] w fun e w' => e = .returned (.tuple #[.agg #[.int .i64 (spV S Ls Hs Ts (x, y) h).1.1, .int .i64 (spV S Ls Hs Ts (x, y) h).1.2], .int .i64 (spV S Ls Hs Ts (x, y) h).2, noV (spN S Ls Hs Ts (x, y) h)]) ∧ Below w.heap.size w w' := by
  obtain ⟨R, hR⟩ : ∃ R, R = spN S Ls Hs Ts (x, y) h := ⟨_, rfl⟩
  obtain ⟨V1, hV1⟩ : ∃ V, V = (spV S Ls Hs Ts (x, y) h).1.1 := ⟨_, rfl⟩
  obtain ⟨V2, hV2⟩ : ∃ V, V = (spV S Ls Hs Ts (x, y) h).1.2 := ⟨_, rfl⟩
  obtain ⟨V3, hV3⟩ : ∃ V, V = (spV S Ls Hs Ts (x, y) h).2 := ⟨_, rfl⟩
  have HR : Hid (R = spN S Ls Hs Ts (x, y) h) := hR
  have HV : Hid (spV S Ls Hs Ts (x, y) h = ((V1, V2), V3)) := by
    show _ = _
    rw [hV1, hV2, hV3]
  rw [← hR, ← hV1, ← hV2, ← hV3]
  have HLW : Hid (∀ W, Below w.heap.size w W → GS lnkE W (.slice ao n cap) Ls) := fun W hb => hL.later hb
  have HHW : Hid (∀ W, Below w.heap.size w W → GS hstE W (.slice ao2 n2 cap2) Hs) := fun W hb => hH.later hb
  have HTW : Hid (∀ W, Below w.heap.size w W → TS W (.slice ao3 n3 cap3) Ts) := fun W hb => hT.later hb
  have hTn := hT.len
  have HTN : Hid (Ts.length = n3) := hTn
  have hX0 := obox_new w S (.slice ao n cap) (.slice ao2 n2 cap2) (.slice ao3 n3 cap3) x y
  have hsz : ((w.alloc (Obj.cells #[.int .i64 S, .slice ao n cap, .slice ao2 n2 cap2, .slice ao3 n3 cap3] 28)).alloc (Obj.cells #[.int .i64 x, .int .i64 y] 30)).heap.size = w.heap.size + 1 + 1 := by simp
  have hR0 := rb2_new w _ hsz
  have hX := hX0.later ((Below.refl _ _).alloc (Nat.le_refl _) (Obj.cells #[.int .i64 0, .int .i64 0] 30))
  obtain ⟨w0, hw0⟩ : ∃ W, ((w.alloc (Obj.cells #[.int .i64 S, .slice ao n cap, .slice ao2 n2 cap2, .slice ao3 n3 cap3] 28)).alloc (Obj.cells #[.int .i64 x, .int .i64 y] 30)).alloc (Obj.cells #[.int .i64 0, .int .i64 0] 30) = W := ⟨_, rfl⟩
  rw [hw0] at hX hR0
  have HX : Hid (OBox w w0 S (.slice ao n cap) (.slice ao2 n2 cap2) (.slice ao3 n3 cap3) x y) := hX
  have HRB : Hid (RB2 w w0) := hR0
  have HW0 : Hid (((w.alloc (Obj.cells #[.int .i64 S, .slice ao n cap, .slice ao2 n2 cap2, .slice ao3 n3 cap3] 28)).alloc (Obj.cells #[.int .i64 x, .int .i64 y] 30)).alloc (Obj.cells #[.int .i64 0, .int .i64 0] 30) = w0) := hw0
  clear hL hH hT hR hV1 hV2 hV3 hX0 hsz hR0 hX hw0 hTn
  go_enter Tryd.func15, Tryd.ntmps15
  go_upto_region 1 with fail
  rw [HW0.out]
  obtain ⟨_, ⟨b0, b1, b2, b3⟩, s0, s1, _⟩ := HX.out
  clear HW0
  go_wp2_with fail
  refine (npacket_any S ao n cap ao2 n2 cap2 ao3 n3 cap3 Ls Hs Ts x y h _ (HLW.out _ HX.out.below) (HHW.out _ HX.out.below) (HTW.out _ HX.out.below)).mono ?_
  rintro e w1 ⟨rfl, hb1⟩
  obtain ⟨C, hC⟩ : ∃ C, C = cpN S Ls Hs Ts (x, y) h := ⟨_, rfl⟩
  have HC : Hid (C = cpN S Ls Hs Ts (x, y) h) := hC
  rw [← hC]
  have HX1 : Hid (OBox w w1 S (.slice ao n cap) (.slice ao2 n2 cap2) (.slice ao3 n3 cap3) x y) := HX.out.later hb1
  have HR1 : Hid (RB2 w w1) := HRB.out.later hb1
  obtain ⟨hB1, ⟨b0, b1, b2, b3⟩, s0, s1, hlt⟩ := HX1.out
  have HB1 : Hid (Below w.heap.size w w1) := hB1
  obtain ⟨r0, r1, f⟩ := HR1.out
  have f0 := f 0
  have f1 := f 1
  clear hb1 HX HRB f hB1 hC
  by_cases h0 : C = 0
  · have HC0 : Hid (cpN S Ls Hs Ts (x, y) h = 0) := HC.out.symm.trans h0
    obtain ⟨k1, k2, _⟩ := cp_0 HC0.out
    have k3 := sp_of k2
    simp only at k3
    have k4 := nt_0 k1
    have hS6 := (tp_0 k4.1).1
    have HTT : Hid (∀ k, k < Ts.length → tbN (Ts.getD k []) = 0) := k4.2.2
    have HS1 : Hid (1 ≤ x) := k3.1
    have HS2 : Hid (x ≤ (n3 : Int)) := by
      show _ ≤ _
      have := HTN.out
      have := k4.2.1
      omega
    have HS6 : Hid (n3 ≤ 6) := by
      show _ ≤ _
      have := HTN.out
      have := k4.2.1
      omega
    obtain ⟨A, hA⟩ : ∃ A, A = stO Ts ((x, y), h) := ⟨_, rfl⟩
    have HA : Hid (stO Ts ((x, y), h) = A) := hA.symm
    have HRA : Hid (R = if A.isSome then 0 else 5) := by
      show _ = _
      rw [HR.out, spN, if_pos HC0.out, hA]
    have HVA : Hid (A.getD zeH = ((V1, V2), V3)) := by
      show _ = _
      rw [← HV.out, spV, if_pos HC0.out, hA]
    subst h0
    rw [no_ok rfl]
    clear k1 k2 k3 k4 hS6 hA r0 r1 f0 f1
    go_wp2_with fail
    refine (step_any S ao n cap ao2 n2 cap2 ao3 n3 cap3 Ts x y h _ (HTW.out _ HB1.out) HTT.out HS1.out HS2.out HS6.out).mono ?_
    rintro e w2 ⟨rfl, hb2⟩
    rw [HA.out, HVA.out]
    simp only
    have hal : Below w2.heap.size w2 (w2.alloc (Obj.cells #[.int .i64 V1, .int .i64 V2, .int .i64 V3] 83)) := (Below.refl _ _).alloc (Nat.le_refl _) _
    have hva := hop_new w2 V1 V2 V3 83
    have hXa := (HX1.out.later hb2).later hal
    have hRa := (HR1.out.later hb2).later hal
    obtain ⟨w3, hw3⟩ : ∃ W, w2.alloc (Obj.cells #[.int .i64 V1, .int .i64 V2, .int .i64 V3] 83) = W := ⟨_, rfl⟩
    obtain ⟨g3, hg3⟩ : ∃ g, w2.heap.size = g := ⟨_, rfl⟩
    rw [hw3] at hXa hRa
    rw [hw3, hg3] at hva
    have HW3 : Hid (w2.alloc (Obj.cells #[.int .i64 V1, .int .i64 V2, .int .i64 V3] 83) = w3) := hw3
    have HG3 : Hid (w2.heap.size = g3) := hg3
    obtain ⟨t0, t1, t2⟩ := hop_cells hva
    simp only [Nat.zero_add] at t0 t1 t2
    have HB3 : Hid (Below w.heap.size w w3) := hXa.below
    obtain ⟨r0, r1, f⟩ := hRa
    have f0 := f 0
    have f1 := f 1
    have hl3 : g3 < w3.heap.size := World.block_lt_of_cell? _ _ t0
    have hlr : w.heap.size + 1 + 1 < w3.heap.size := World.block_lt_of_cell? _ _ r0
    obtain ⟨okb, hokb⟩ : ∃ q, q = A.isSome := ⟨_, rfl⟩
    have HOKB : Hid (A.isSome = okb) := hokb.symm
    rw [← hokb]
    clear hb2 hal hva hXa hw3 hg3 f hokb
    go_upto_region 5 with fail
    rw [HW3.out, HG3.out]
    clear HW3 HG3
    cases okb with
    | false =>
      have HR5 : Hid (R = 5) := by
        show _ = _
        rw [HRA.out, HOKB.out]
        rfl
      have HVZ : Hid (V1 = 0 ∧ V2 = 0 ∧ V3 = 0) := by
        have h1 := HOKB.out
        have h2 := HVA.out
        cases A with
        | none =>
          have e : zeH = ((V1, V2), V3) := h2
          simp only [zeH, Prod.mk.injEq] at e
          exact ⟨e.1.1.symm, e.1.2.symm, e.2.symm⟩
        | some _ => cases h1
      go_wp2
      refine bodyPost_ret (v := .tuple #[.agg #[.int .i64 0, .int .i64 0], .int .i64 0, .iface 75 (.int .i64 5)]) (by simp [results, Tryd.results15, go_sem, *]) rfl ⟨by rw [HR5.out, HVZ.out.1, HVZ.out.2.1, HVZ.out.2.2]; rfl, below_two2 HB3.out _ (by omega) _ _⟩
    | true =>
      have HR0 : Hid (R = 0) := by
        show _ = _
        rw [HRA.out, HOKB.out]
        rfl
      go_wp2_with fail
      go_region
      all_goals
        go_wp2
        refine bodyPost_ret (v := .tuple #[.agg #[.int .i64 V1, .int .i64 V2], .int .i64 V3, .nilIface]) (by simp [results, Tryd.results15, go_sem, *]) rfl ⟨by rw [HR0.out]; rfl, below_two2 (HB3.out.trans ((Below.drew (Below.refl _ _)).mono HB3.out.size)) _ (by omega) _ _⟩
  · rw [no_ne h0]
    have HNE : Hid (C ≠ 0) := h0
    have HRC : Hid (R = C) := by
      show _ = _
      rw [HR.out, spN, if_neg (by rw [← HC.out]; exact h0), HC.out]
    have HVZ : Hid (V1 = 0 ∧ V2 = 0 ∧ V3 = 0) := by
      have h2 := HV.out
      rw [spV, if_neg (by rw [← HC.out]; exact h0)] at h2
      simp only [zeH, Prod.mk.injEq] at h2
      exact ⟨h2.1.1.symm, h2.1.2.symm, h2.2.symm⟩
    clear h0
    go_wp2
    refine bodyPost_ret (v := .tuple #[.agg #[.int .i64 0, .int .i64 0], .int .i64 0, .iface 75 (.int .i64 C)]) (by simp [results, Tryd.results15, go_sem, *]) rfl ⟨by rw [HRC.out, HVZ.out.1, HVZ.out.2.1, HVZ.out.2.2, no_ne HNE.out], below_two2 HB1.out _ (by omega) _ _⟩
end Go.Proofs.YtpmcjelihdlfeaaDoor
/- What net.Send answers: a contract for the walks above it. -/
namespace Go.Proofs.YtpmcjelihdlfeaaDoor
open Go.RowKit
set_option linter.unusedSimpArgs false
set_option linter.unusedVariables false

/-- The boxes: a net, the answer's. -/
structure VBox (w W : World) (S : Int) (v1 v2 v3 : Value) : Prop where
  below : Below w.heap.size w W
  n : NeBox W w.heap.size S v1 v2 v3
  r0 : W.cell? ⟨w.heap.size + 1, 0, none⟩ = some (.int .i64 0)
  r1 : W.cell? ⟨w.heap.size + 1, 1, none⟩ = some (.string ⟨#[]⟩)
  r2 : W.cell? ⟨w.heap.size + 1, 2, none⟩ = some (.slice none 0 0)
  f : ∀ i, W.frozen? ⟨w.heap.size + 1, i, none⟩ = false
theorem vbox_new (w : World) (S : Int) (v1 v2 v3 : Value) : VBox w ((w.alloc (Obj.cells #[.int .i64 S, v1, v2, v3] 28)).alloc (Obj.cells #[.int .i64 0, .string ⟨#[]⟩, .slice none 0 0] 40)) S v1 v2 v3 := by
  have e1 : (w.alloc (Obj.cells #[.int .i64 S, v1, v2, v3] 28)).heap.size = w.heap.size + 1 := by simp
  have hb : ∀ (W : World) (o : Obj), Below W.heap.size W (W.alloc o) := fun W o => (Below.refl _ _).alloc (Nat.le_refl _) _
  have hn := (nebox_new w S v1 v2 v3 28).later (hb _ (Obj.cells #[.int .i64 0, .string ⟨#[]⟩, .slice none 0 0] 40))
  have hB := ((Below.refl w.heap.size w).alloc (Nat.le_refl _) (Obj.cells #[.int .i64 S, v1, v2, v3] 28)).alloc (by rw [e1]; omega) (Obj.cells #[.int .i64 0, .string ⟨#[]⟩, .slice none 0 0] 40)
  generalize w.alloc (Obj.cells #[.int .i64 S, v1, v2, v3] 28) = X at e1 hn hB
  have hr := vat_new X [.int .i64 0, .string ⟨#[]⟩, .slice none 0 0] 40
  have hf := froz_new2 X #[.int .i64 0, .string ⟨#[]⟩, .slice none 0 0] 40
  rw [e1] at hr hf
  exact ⟨hB, hn, hr 0 _ rfl, hr 1 _ rfl, hr 2 _ rfl, hf⟩
theorem VBox.later {w W W' : World} {S : Int} {v1 v2 v3 : Value} (k : VBox w W S v1 v2 v3) (hb : Below W.heap.size W W') : VBox w W' S v1 v2 v3 :=
  ⟨k.below.trans (hb.mono k.below.size), k.n.later hb, cell_later hb k.r0, cell_later hb k.r1, cell_later hb k.r2, fun i => (hb.frozen (p := ⟨w.heap.size + 1, i, none⟩) (show (⟨w.heap.size + 1, 0, none⟩ : Addr).block < W.heap.size from World.block_lt_of_cell? W ⟨w.heap.size + 1, 0, none⟩ k.r0)).trans (k.f i)⟩
/-- No fate. -/
theorem own_none (W : World) (B : Nat) : W.ownsRow B 83 3 (.slice none 0 0) (zeF.2.2).length (cellsG hopE zeF.2.2) := World.ownsRow_nil _ _ _ _

set_option maxHeartbeats 4000000 in
set_option maxRecDepth 100000 in
theorem send_any (S : Int) (ao : Option Addr) (n cap : Nat) (ao2 : Option Addr) (n2 cap2 : Nat) (ao3 : Option Addr) (n3 cap3 : Nat) (Ls : List ((Int × Int) × (Int × Int))) (Hs : List (ByteArray × (Int × Int))) (Ts : List (List Ru)) (m : ByteArray) (h : Int) (w : World)
    (hL : GS lnkE w (.slice ao n cap) Ls) (hH : GS hstE w (.slice ao2 n2 cap2) Hs) (hT : TS w (.slice ao3 n3 cap3) Ts) :
    Calls Tryd.prog 19 #[.agg #[.int .i64 S, .slice ao n cap, .slice ao2 n2 cap2, .slice ao3 n3 cap3], .string m, .int .i64 h] w fun e w' => ∃ ao4 n4 cap4, e = .returned (.tuple #[.agg #[.int .i64 (seV S Ls Hs Ts m h).1, .string (seV S Ls Hs Ts m h).2.1, .slice ao4 n4 cap4], noV (seN S Ls Hs Ts m h)]) ∧ w'.ownsRow w.heap.size 83 3 (.slice ao4 n4 cap4) (seV S Ls Hs Ts m h).2.2.length (cellsG hopE (seV S Ls Hs Ts m h).2.2) ∧ Below w.heap.size w w' := by
  obtain ⟨R, hR⟩ : ∃ R, R = seN S Ls Hs Ts m h := ⟨_, rfl⟩
  obtain ⟨V, hV⟩ : ∃ V, V = seV S Ls Hs Ts m h := ⟨_, rfl⟩
  have HR : Hid (R = seN S Ls Hs Ts m h) := hR
  have HV : Hid (V = seV S Ls Hs Ts m h) := hV
  rw [← hR, ← hV]
  have HLW : Hid (∀ W, Below w.heap.size w W → GS lnkE W (.slice ao n cap) Ls) := fun W hb => hL.later hb
  have HHW : Hid (∀ W, Below w.heap.size w W → GS hstE W (.slice ao2 n2 cap2) Hs) := fun W hb => hH.later hb
  have HTW : Hid (∀ W, Below w.heap.size w W → TS W (.slice ao3 n3 cap3) Ts) := fun W hb => hT.later hb
  have hX := vbox_new w S (.slice ao n cap) (.slice ao2 n2 cap2) (.slice ao3 n3 cap3)
  obtain ⟨w0, hw0⟩ : ∃ W, (w.alloc (Obj.cells #[.int .i64 S, .slice ao n cap, .slice ao2 n2 cap2, .slice ao3 n3 cap3] 28)).alloc (Obj.cells #[.int .i64 0, .string ⟨#[]⟩, .slice none 0 0] 40) = W := ⟨_, rfl⟩
  rw [hw0] at hX
  have HX : Hid (VBox w w0 S (.slice ao n cap) (.slice ao2 n2 cap2) (.slice ao3 n3 cap3)) := hX
  have HW0 : Hid ((w.alloc (Obj.cells #[.int .i64 S, .slice ao n cap, .slice ao2 n2 cap2, .slice ao3 n3 cap3] 28)).alloc (Obj.cells #[.int .i64 0, .string ⟨#[]⟩, .slice none 0 0] 40) = w0) := hw0
  clear hL hH hT hR hV hX hw0
  go_enter Tryd.func19, Tryd.ntmps19
  go_upto_region 1 with fail
  rw [HW0.out]
  obtain ⟨_, ⟨b0, b1, b2, b3⟩, r0, r1, r2, f⟩ := HX.out
  clear HW0 f r0 r1 r2
  go_wp2_with fail
  refine (ncheck_any S ao n cap ao2 n2 cap2 ao3 n3 cap3 Ls Hs Ts _ (HLW.out _ HX.out.below) (HHW.out _ HX.out.below) (HTW.out _ HX.out.below)).mono ?_
  rintro e w1 ⟨rfl, hb1⟩
  obtain ⟨T, hT⟩ : ∃ T, T = ntN S Ls Hs Ts := ⟨_, rfl⟩
  have HT : Hid (T = ntN S Ls Hs Ts) := hT
  rw [← hT]
  have HX1 : Hid (VBox w w1 S (.slice ao n cap) (.slice ao2 n2 cap2) (.slice ao3 n3 cap3)) := HX.out.later hb1
  obtain ⟨hB1, ⟨b0, b1, b2, b3⟩, r0, r1, r2, f⟩ := HX1.out
  have HB1 : Hid (Below w.heap.size w w1) := hB1
  have f0 := f 0
  have f1 := f 1
  have f2 := f 2
  clear hT hb1 HX f hB1
  by_cases h0 : T = 0
  · have HN0 : Hid (ntN S Ls Hs Ts = 0) := HT.out.symm.trans h0
    subst h0
    rw [no_ok rfl]
    clear r0 r1 r2 f0 f1 f2
    go_wp2_with fail
    refine (where_any S ao n cap ao2 n2 cap2 Ls Hs m _ (HLW.out _ HX1.out.below) (HHW.out _ HX1.out.below)).mono ?_
    rintro e w2 ⟨rfl, hb2⟩
    obtain ⟨WN, hWN⟩ : ∃ q, q = weN S Ls Hs m := ⟨_, rfl⟩
    obtain ⟨X1, hX1⟩ : ∃ q, q = (weV S Ls Hs m).1 := ⟨_, rfl⟩
    obtain ⟨X2, hX2⟩ : ∃ q, q = (weV S Ls Hs m).2 := ⟨_, rfl⟩
    have HWN : Hid (WN = weN S Ls Hs m) := hWN
    have HXV : Hid (weV S Ls Hs m = (X1, X2)) := by
      show _ = _
      rw [hX1, hX2]
    rw [← hWN, ← hX1, ← hX2]
    have hal : Below w2.heap.size w2 (w2.alloc (Obj.cells #[.int .i64 X1, .int .i64 X2] 30)) := (Below.refl _ _).alloc (Nat.le_refl _) _
    have hXa := (HX1.out.later hb2).later hal
    have hva := vat_new w2 [.int .i64 X1, .int .i64 X2] 30
    obtain ⟨w3, hw3⟩ : ∃ W, w2.alloc (Obj.cells #[.int .i64 X1, .int .i64 X2] 30) = W := ⟨_, rfl⟩
    obtain ⟨g3, hg3⟩ : ∃ g, w2.heap.size = g := ⟨_, rfl⟩
    have hva2 : VAt w3 g3 0 [.int .i64 X1, .int .i64 X2] := by
      rw [← hw3, ← hg3]
      exact hva
    rw [hw3] at hXa
    have HX3 : Hid (VBox w w3 S (.slice ao n cap) (.slice ao2 n2 cap2) (.slice ao3 n3 cap3)) := hXa
    have HW3 : Hid (w2.alloc (Obj.cells #[.int .i64 X1, .int .i64 X2] 30) = w3) := hw3
    have HG3 : Hid (w2.heap.size = g3) := hg3
    have s0 : w3.cell? ⟨g3, 0, none⟩ = some (.int .i64 X1) := hva2 0 _ rfl
    have s1 : w3.cell? ⟨g3, 1, none⟩ = some (.int .i64 X2) := hva2 1 _ rfl
    obtain ⟨hB3, ⟨b0, b1, b2, b3⟩, r0, r1, r2, f⟩ := HX3.out
    have HB3 : Hid (Below w.heap.size w w3) := hB3
    have f0 := f 0
    have f1 := f 1
    have f2 := f 2
    clear hWN hX1 hX2 hb2 hal hXa hva hva2 hw3 hg3 hB3 f HX1 HB1
    go_upto_region 5 with fail
    rw [HW3.out, HG3.out]
    clear HW3 HG3
    by_cases h5 : WN = 0
    · have HW0 : Hid (weN S Ls Hs m = 0) := HWN.out.symm.trans h5
      subst h5
      rw [no_ok rfl]
      cases hh : hdrB h
      · have HR1 : Hid (R = 1) := by
          show _ = _
          rw [HR.out, seN, if_pos HN0.out, if_pos HW0.out, hh]
          rfl
        have HV1 : Hid (V = zeF) := by
          show _ = _
          rw [HV.out, seV, ← HR.out, HR1.out]
          rfl
        go_wp2_with fail
        refine (isHeader_any h _).mono ?_
        rintro e w4 ⟨rfl, hw4⟩
        subst hw4
        rw [hh]
        go_wp2
        refine bodyPost_ret (v := .tuple #[.agg #[.int .i64 0, .string ⟨#[]⟩, .slice none 0 0], .iface 75 (.int .i64 1)]) (by simp [results, Tryd.results19, go_sem, *]) rfl ⟨_, _, _, by rw [HR1.out, HV1.out]; rfl, by rw [HV1.out]; exact own_none _ _, below_put3 HB3.out _ (by omega) _ _ _⟩
      · have HR0 : Hid (R = 0) := by
          show _ = _
          rw [HR.out, seN, if_pos HN0.out, if_pos HW0.out, hh]
          rfl
        have HV0 : Hid (V = frF Ls Hs Ts (X1, X2) h) := by
          show _ = _
          rw [HV.out, seV, ← HR.out, HR0.out, if_pos rfl, HXV.out]
        have HSP : Hid (spB S (X1, X2) = true) := by
          show _ = _
          have ht := (nt_0 HN0.out).1
          have hw := HW0.out
          rw [weN, if_pos ht] at hw
          have hv := HXV.out
          rw [weV, HW0.out, if_pos rfl] at hv
          cases hp : whereO Hs m with
          | none => rw [hp] at hw; simp at hw
          | some p =>
            rw [hp, Option.getD_some] at hv
            rw [← hv]
            exact where_sp ht hp
        clear r0 r1 r2 f0 f1 f2
        go_wp2_with fail
        refine (isHeader_any h _).mono ?_
        rintro e w4 ⟨rfl, hw4⟩
        subst hw4
        rw [hh]
        go_wp2_with fail
        refine (follow_any S ao n cap ao2 n2 cap2 ao3 n3 cap3 Ls Hs Ts X1 X2 h _ (HLW.out _ HB3.out) (HHW.out _ HB3.out) (HTW.out _ HB3.out) HN0.out HSP.out).mono ?_
        rintro e w5 ⟨ao4, n4, cap4, rfl, hown, hb5⟩
        rw [← HV0.out] at hown
        rw [← HV0.out]
        have hsz : w.heap.size + 1 < w4.heap.size := World.block_lt_of_cell? _ _ HX3.out.r0
        have HOW : Hid (∀ u v x, (put3 w5 (w.heap.size + 1) u v x).ownsRow w.heap.size 83 3 (.slice ao4 n4 cap4) V.2.2.length (cellsG hopE V.2.2)) := fun u v x => own_mono (own_put3 hown _ hsz u v x) (by omega)
        have HX5 : Hid (VBox w w5 S (.slice ao n cap) (.slice ao2 n2 cap2) (.slice ao3 n3 cap3)) := HX3.out.later hb5
        obtain ⟨hB5, ⟨b0, b1, b2, b3⟩, r0, r1, r2, f⟩ := HX5.out
        have HB5 : Hid (Below w.heap.size w w5) := hB5
        have f0 := f 0
        have f1 := f 1
        have f2 := f 2
        obtain ⟨V1, hV1⟩ : ∃ q, q = V.1 := ⟨_, rfl⟩
        obtain ⟨V2, hV2⟩ : ∃ q, q = V.2.1 := ⟨_, rfl⟩
        have HVV : Hid (V.1 = V1 ∧ V.2.1 = V2) := ⟨hV1.symm, hV2.symm⟩
        rw [← hV1, ← hV2]
        clear hown hb5 hB5 f hV1 hV2
        go_wp2
        refine bodyPost_ret (v := .tuple #[.agg #[.int .i64 V1, .string V2, .slice ao4 n4 cap4], .nilIface]) (by simp [results, Tryd.results19, go_sem, *]) rfl ⟨ao4, n4, cap4, by rw [HR0.out, HVV.out.1, HVV.out.2]; rfl, HOW.out _ _ _, below_put3 HB5.out _ (by omega) _ _ _⟩
    · rw [no_ne h5]
      have HNE : Hid (WN ≠ 0) := h5
      have HR1 : Hid (R = WN) := by
        show _ = _
        rw [HR.out, seN, if_pos HN0.out, if_neg (by rw [← HWN.out]; exact h5), HWN.out]
      have HV1 : Hid (V = zeF) := by
        show _ = _
        rw [HV.out, seV, ← HR.out, HR1.out, if_neg h5]
      clear h5
      go_wp2
      refine bodyPost_ret (v := .tuple #[.agg #[.int .i64 0, .string ⟨#[]⟩, .slice none 0 0], .iface 75 (.int .i64 WN)]) (by simp [results, Tryd.results19, go_sem, *]) rfl ⟨_, _, _, by rw [HR1.out, HV1.out, no_ne HNE.out]; rfl, by rw [HV1.out]; exact own_none _ _, below_put3 HB3.out _ (by omega) _ _ _⟩
  · rw [no_ne h0]
    have HNE : Hid (T ≠ 0) := h0
    have HR1 : Hid (R = T) := by
      show _ = _
      rw [HR.out, seN, if_neg (by rw [← HT.out]; exact h0), HT.out]
    have HV1 : Hid (V = zeF) := by
      show _ = _
      rw [HV.out, seV, ← HR.out, HR1.out, if_neg h0]
    clear h0
    go_wp2
    refine bodyPost_ret (v := .tuple #[.agg #[.int .i64 0, .string ⟨#[]⟩, .slice none 0 0], .iface 75 (.int .i64 T)]) (by simp [results, Tryd.results19, go_sem, *]) rfl ⟨_, _, _, by rw [HR1.out, HV1.out, no_ne HNE.out]; rfl, by rw [HV1.out]; exact own_none _ _, below_put3 HB1.out _ (by omega) _ _ _⟩
end Go.Proofs.YtpmcjelihdlfeaaDoor
/- What errors.As, plain.Told and railsame.Error answer for no error and for an Errno: contracts for the walks above them. -/
namespace Go.Proofs.YtpmcjelihdlfeaaDoor
open Go.RowKit Go.Extern.Stop Go.Stop Go.Extern
set_option linter.unusedSimpArgs false

/-- What package errors' variable holds: the handle of the type error. -/
def HasErr (w : World) : Prop := w.cell? ⟨0, 0, none⟩ = some (.iface 158 (.agg #[.pointer (some ⟨1, 34, none⟩)]))
theorem HasErr.later {w w' : World} (h : HasErr w) (hb : Below w.heap.size w w') : HasErr w' := cell_later hb h
theorem HasErr.alloc {w : World} (h : HasErr w) (o : Obj) : HasErr (w.alloc o) := h.later ((Below.refl _ _).alloc (Nat.le_refl _) _)

theorem vOfP (t : Addr) (w : World) : (ReflectliteValue.unpack (.iface 109 (.pointer (some t)))).run Tryd.prog w
    = .ok (.agg #[.pointer (some ⟨1, 109, none⟩), .pointer (some ⟨w.heap.size, 0, none⟩), .int .u64 150]) (w.alloc (.cells #[.pointer (some t)] 109)) := by kernel_rfl
theorem typeP (a : Addr) (w : World) : (ReflectliteValue.methodAny (ReflectliteValue.valueError "reflectlite.Value.Type" 0) (fun t _ _ _ => ReflectliteType.toType t) #[.agg #[.pointer (some ⟨1, 109, none⟩), .pointer (some a), .int .u64 150]]).run Tryd.prog w
    = .ok (.iface 158 (.agg #[.pointer (some ⟨1, 109, none⟩)])) w := by kernel_rfl
theorem methKind (h : Value) (w : World) : (Go.method 311 158 (.agg #[h]) "Kind").run Tryd.prog w = .ok (117, h) w := by kernel_rfl
theorem kindP (w : World) : ((ReflectliteType.abiMethod fun t => Functor.map (fun a : Nat => Value.int IntKind.u8 (a : Int)) (Rtype.kind t)) #[.pointer (some ⟨1, 109, none⟩)]).run Tryd.prog w = .ok (.int .u8 22) w := by kernel_rfl
theorem kindE (w : World) : ((ReflectliteType.abiMethod fun t => Functor.map (fun a : Nat => Value.int IntKind.u8 (a : Int)) (Rtype.kind t)) #[.pointer (some ⟨1, 75, none⟩)]).run Tryd.prog w = .ok (.int .u8 2) w := by kernel_rfl
theorem partsP (a : Addr) (w : World) : (ReflectliteValue.parts (.agg #[.pointer (some ⟨1, 109, none⟩), .pointer (some a), .int .u64 150])).run Tryd.prog w = .ok (some (109, a, 150)) w := by kernel_rfl
theorem isNilP (a p : Addr) (W : World) (ha : W.cell? a = some (.pointer (some p))) :
    (ReflectliteValue.method (ReflectliteValue.valueError "reflectlite.Value.IsNil" 0) ReflectliteValue.isNil #[.agg #[.pointer (some ⟨1, 109, none⟩), .pointer (some a), .int .u64 150]]).run Tryd.prog W = .ok (.bool false) W := by
  change Sem.run _ (ReflectliteValue.parts (.agg #[.pointer (some ⟨1, 109, none⟩), .pointer (some a), .int .u64 150]) >>= _) _ = _
  rw [Sem.run_bind, partsP]
  simp only [Result.andThen]
  simp [ReflectliteValue.isNil, loadVar, isAgg, underlying, Tryd.underlying109, ha, Result.andThen]
theorem methElem (h : Value) (w : World) : (Go.method 311 158 (.agg #[h]) "Elem").run Tryd.prog w = .ok (127, .agg #[h]) w := by kernel_rfl
theorem methImpl (h : Value) (w : World) : (Go.method 311 158 (.agg #[h]) "Implements").run Tryd.prog w = .ok (128, .agg #[h]) w := by kernel_rfl
theorem methAssign (h : Value) (w : World) : (Go.method 311 158 (.agg #[h]) "AssignableTo").run Tryd.prog w = .ok (125, .agg #[h]) w := by kernel_rfl
theorem elemP (w : World) : (ReflectliteType.method ReflectliteType.elem #[.agg #[.pointer (some ⟨1, 109, none⟩)]]).run Tryd.prog w = .ok (.iface 158 (.agg #[.pointer (some ⟨1, 75, none⟩)])) w := by kernel_rfl
theorem implE (w : World) : (ReflectliteType.relation "Implements" ReflectliteType.implements_ #[.agg #[.pointer (some ⟨1, 75, none⟩)], .iface 158 (.agg #[.pointer (some ⟨1, 34, none⟩)])]).run Tryd.prog w = .ok (.bool true) w := by kernel_rfl
theorem typeOfE (v : Value) (w : World) : (ReflectliteType.typeOf #[.iface 75 v]).run Tryd.prog w = .ok (.iface 158 (.agg #[.pointer (some ⟨1, 75, none⟩)])) w := by kernel_rfl
theorem assignE (w : World) : (ReflectliteType.relation "AssignableTo" ReflectliteType.assignableTo #[.agg #[.pointer (some ⟨1, 75, none⟩)], .iface 158 (.agg #[.pointer (some ⟨1, 75, none⟩)])]).run Tryd.prog w = .ok (.bool true) w := by kernel_rfl
theorem vOfE (n : Int) (w : World) : (ReflectliteValue.unpack (.iface 75 (.int .i64 n))).run Tryd.prog w
    = .ok (.agg #[.pointer (some ⟨1, 75, none⟩), .pointer (some ⟨w.heap.size, 0, none⟩), .int .u64 130]) (w.alloc (.cells #[.int .i64 n] 75)) := by kernel_rfl
theorem elemOfP (w : World) : (Rtype.elem? 109).run Tryd.prog w = .ok (some 75) w := by kernel_rfl
theorem mkE (p : Addr) (w : World) : (ReflectliteValue.mk 75 p ReflectliteValue.flagAddr).run Tryd.prog w = .ok (.agg #[.pointer (some ⟨1, 75, none⟩), .pointer (some p), .int .u64 386]) w := by kernel_rfl
theorem elemVP (a p : Addr) (W : World) (ha : W.cell? a = some (.pointer (some p))) :
    (ReflectliteValue.method (ReflectliteValue.valueError "reflectlite.Value.Elem" 0) ReflectliteValue.elem #[.agg #[.pointer (some ⟨1, 109, none⟩), .pointer (some a), .int .u64 150]]).run Tryd.prog W
      = .ok (.agg #[.pointer (some ⟨1, 75, none⟩), .pointer (some p), .int .u64 386]) W := by
  change Sem.run _ (ReflectliteValue.parts (.agg #[.pointer (some ⟨1, 109, none⟩), .pointer (some a), .int .u64 150]) >>= _) _ = _
  rw [Sem.run_bind, partsP]
  simp only [Result.andThen]
  simp [ReflectliteValue.elem, loadVar, isAgg, underlying, Tryd.underlying109, ha, Result.andThen, elemOfP, mkE]
theorem partsEa (a : Addr) (w : World) : (ReflectliteValue.parts (.agg #[.pointer (some ⟨1, 75, none⟩), .pointer (some a), .int .u64 386])).run Tryd.prog w = .ok (some (75, a, 386)) w := by kernel_rfl
theorem partsE (a : Addr) (w : World) : (ReflectliteValue.parts (.agg #[.pointer (some ⟨1, 75, none⟩), .pointer (some a), .int .u64 130])).run Tryd.prog w = .ok (some (75, a, 130)) w := by kernel_rfl
theorem directE (w : World) : (Rtype.directlyAssignable 75 75).run Tryd.prog w = .ok true w := by kernel_rfl
/-- Set: the Errno variable at 'ta' gets what the Value's own variable 'b' holds. -/
theorem setE (ta b : Addr) (n : Int) (old : Value) (W : World) (hb : W.cell? b = some (.int .i64 n)) (ht : W.cell? ta = some old) (hf : W.frozen? ta = false) :
    (ReflectliteValue.set #[.agg #[.pointer (some ⟨1, 75, none⟩), .pointer (some ta), .int .u64 386], .agg #[.pointer (some ⟨1, 75, none⟩), .pointer (some b), .int .u64 130]]).run Tryd.prog W
      = .ok (.tuple #[]) (W.setCell ta (.int .i64 n)) := by
  change Sem.run _ (ReflectliteValue.parts (.agg #[.pointer (some ⟨1, 75, none⟩), .pointer (some ta), .int .u64 386]) >>= _) _ = _
  rw [Sem.run_bind, partsEa]
  simp only [Result.andThen]
  change Sem.run _ (ReflectliteValue.parts (.agg #[.pointer (some ⟨1, 75, none⟩), .pointer (some b), .int .u64 130]) >>= _) _ = _
  rw [Sem.run_bind, partsE]
  simp only [Result.andThen]
  simp [ReflectliteValue.flagAddr, loadVar, isAgg, underlying, Tryd.underlying75, hb, Result.andThen, directE, storeVar, Value.cells, storeCells, Addr.add]
  rw [run_store Tryd.prog W ta _ _ (by rfl)]
  simp [ht, hf]
end Go.Proofs.YtpmcjelihdlfeaaDoor
/- What errors.As, plain.Told and railsame.Error answer for no error and for an Errno: the walks. -/
namespace Go.Proofs.YtpmcjelihdlfeaaDoor
open Go.RowKit Go.Extern.Stop Go.Stop Go.Extern
set_option linter.unusedSimpArgs false

set_option maxHeartbeats 4000000 in
theorem as_hit (n : Int) (t : Addr) (old : Value) (w : World) (hg : HasErr w) (ht0 : w.cell? t = some old) (hf0 : w.frozen? t = false) :
    Calls Tryd.prog 48 #[.iface 75 (.int .i64 n), .iface 109 (.pointer (some t))] w fun ev w' => ev = .returned (.bool true) ∧ w' = ((((w.alloc (.cells #[.pointer (some t)] 109)).alloc (.cells #[.pointer (some ⟨1, 109, none⟩), .pointer (some ⟨w.heap.size, 0, none⟩), .int .u64 150] 140)).alloc (.cells #[.pointer (some ⟨1, 109, none⟩), .pointer (some ⟨w.heap.size, 0, none⟩), .int .u64 150] 140)).alloc (.cells #[.int .i64 n] 75)).setCell t (.int .i64 n) := by
  unfold HasErr at hg
  have h6 := @run_callFunc_extern Tryd.prog 71 _ (fun args => ReflectliteValue.unpack (args.getD 0 (.tuple #[]))) Tryd.func71 (by kernel_rfl) (by kernel_rfl) (by kernel_rfl) (by kernel_rfl)
  have h7 := @run_callFunc_extern Tryd.prog 72 _ (ReflectliteValue.methodAny (ReflectliteValue.valueError "reflectlite.Value.Type" 0) (fun t _ _ _ => ReflectliteType.toType t)) Tryd.func72 (by kernel_rfl) (by kernel_rfl) (by kernel_rfl) (by kernel_rfl)
  have h8 := @run_callFunc_extern Tryd.prog 73 _ (ReflectliteValue.method (ReflectliteValue.valueError "reflectlite.Value.IsNil" 0) ReflectliteValue.isNil) Tryd.func73 (by kernel_rfl) (by kernel_rfl) (by kernel_rfl) (by kernel_rfl)
  have h27 := @run_callFunc_extern Tryd.prog 117 _ (ReflectliteType.abiMethod fun t => do pure (.int .u8 (← Rtype.kind t))) Tryd.func117 (by kernel_rfl) (by kernel_rfl) (by kernel_rfl) (by kernel_rfl)
  have h37 := @run_callFunc_extern Tryd.prog 127 _ (ReflectliteType.method ReflectliteType.elem) Tryd.func127 (by kernel_rfl) (by kernel_rfl) (by kernel_rfl) (by kernel_rfl)
  have h38 := @run_callFunc_extern Tryd.prog 128 _ (ReflectliteType.relation "Implements" ReflectliteType.implements_) Tryd.func128 (by kernel_rfl) (by kernel_rfl) (by kernel_rfl) (by kernel_rfl)
  have h10 := @run_callFunc_extern Tryd.prog 90 _ ReflectliteType.typeOf Tryd.func90 (by kernel_rfl) (by kernel_rfl) (by kernel_rfl) (by kernel_rfl)
  have h35 := @run_callFunc_extern Tryd.prog 125 _ (ReflectliteType.relation "AssignableTo" ReflectliteType.assignableTo) Tryd.func125 (by kernel_rfl) (by kernel_rfl) (by kernel_rfl) (by kernel_rfl)
  have h11 := @run_callFunc_extern Tryd.prog 91 _ (ReflectliteValue.method (ReflectliteValue.valueError "reflectlite.Value.Elem" 0) ReflectliteValue.elem) Tryd.func91 (by kernel_rfl) (by kernel_rfl) (by kernel_rfl) (by kernel_rfl)
  have h12 := @run_callFunc_extern Tryd.prog 92 _ ReflectliteValue.set Tryd.func92 (by kernel_rfl) (by kernel_rfl) (by kernel_rfl) (by kernel_rfl)
  have tO := typeOfE
  have mA := methAssign
  have a25 := assignE
  have v25 := vOfE
  have f6 := vOfP
  have f7 := typeP
  have mK := methKind
  have mE := methElem
  have mI := methImpl
  have k27 := kindP
  have k25 := kindE
  have e27 := elemP
  have i25 := implE
  have hlt : 0 < w.heap.size := World.block_lt_of_cell? _ _ hg
  have htl : t.block < w.heap.size := World.block_lt_of_cell? _ _ ht0
  have n8 := isNilP ⟨w.heap.size, 0, none⟩ t ((w.alloc (.cells #[.pointer (some t)] 109)).alloc (.cells #[.pointer (some ⟨1, 109, none⟩), .pointer (some ⟨w.heap.size, 0, none⟩), .int .u64 150] 140)) (by simp)
  have hg2 : ((w.alloc (.cells #[.pointer (some t)] 109)).alloc (.cells #[.pointer (some ⟨1, 109, none⟩), .pointer (some ⟨w.heap.size, 0, none⟩), .int .u64 150] 140)).cell? ⟨0, 0, none⟩ = some (.iface 158 (.agg #[.pointer (some ⟨1, 34, none⟩)])) := by
    rw [World.cell?_alloc_lt _ _ ⟨0, 0, none⟩ (by simp <;> omega), World.cell?_alloc_lt _ _ ⟨0, 0, none⟩ hlt]; exact hg
  have el := elemVP ⟨w.heap.size, 0, none⟩ t (((w.alloc (.cells #[.pointer (some t)] 109)).alloc (.cells #[.pointer (some ⟨1, 109, none⟩), .pointer (some ⟨w.heap.size, 0, none⟩), .int .u64 150] 140)).alloc (.cells #[.pointer (some ⟨1, 109, none⟩), .pointer (some ⟨w.heap.size, 0, none⟩), .int .u64 150] 140)) (by rw [World.cell?_alloc_lt _ _ ⟨w.heap.size, 0, none⟩ (by simp; omega)]; simp)
  have st := setE t ⟨w.heap.size + 1 + 1 + 1, 0, none⟩ n old ((((w.alloc (.cells #[.pointer (some t)] 109)).alloc (.cells #[.pointer (some ⟨1, 109, none⟩), .pointer (some ⟨w.heap.size, 0, none⟩), .int .u64 150] 140)).alloc (.cells #[.pointer (some ⟨1, 109, none⟩), .pointer (some ⟨w.heap.size, 0, none⟩), .int .u64 150] 140)).alloc (.cells #[.int .i64 n] 75))
    (by rw [World.cell?_alloc_at _ _ _ _ (by simp)]; rfl)
    (by rw [World.cell?_alloc_lt _ _ t (by simp; omega), World.cell?_alloc_lt _ _ t (by simp; omega), World.cell?_alloc_lt _ _ t (by simp; omega), World.cell?_alloc_lt _ _ t htl]; exact ht0)
    (by rw [World.frozen?_alloc_old _ _ t (by simp; omega), World.frozen?_alloc_old _ _ t (by simp; omega), World.frozen?_alloc_old _ _ t (by simp; omega), World.frozen?_alloc_old _ _ t (Nat.ne_of_lt htl)]; exact hf0)
  go_enter Tryd.func48, Tryd.ntmps48
  go_wp2
  refine wp_loop_rounds 1 ?_
  rw [rounds_succ]
  go_wp2
  go_ret
  exact ⟨rfl, rfl⟩

set_option maxHeartbeats 1000000 in
theorem told_nil (w : World) :
    Calls Tryd.prog 26 #[.nilIface] w fun e w' => e = .returned (.int .i64 0) ∧ Below w.heap.size w w' := by
  go_enter Tryd.func26, Tryd.ntmps26
  go_wp2
  go_ret
  exact ⟨rfl, Below.refl _ _⟩

set_option maxHeartbeats 1000000 in
theorem told_some (n : Int) (w : World) (hg : HasErr w) :
    Calls Tryd.prog 26 #[.iface 75 (.int .i64 n)] w fun e w' => e = .returned (.int .i64 n) ∧ Below w.heap.size w w' := by
  have HG : Hid (HasErr w) := hg
  clear hg
  go_enter Tryd.func26, Tryd.ntmps26
  go_wp2_with fail
  refine (as_hit n _ (.int .i64 0) _ (HG.out.alloc _) (by simp) (by simp)).mono ?_
  rintro e w' ⟨rfl, rfl⟩
  go_wp2
  go_ret
  refine ⟨rfl, ?_⟩
  exact ((((((Below.refl _ _).alloc (Nat.le_refl _) _).alloc (by simp) _).alloc (by simp; omega) _).alloc (by simp; omega) _).alloc (by simp; omega) _)

set_option maxHeartbeats 1000000 in
theorem same_nil (k : Int) (w : World) :
    Calls Tryd.prog 8 #[.nilIface, .int .i64 k] w fun e w' => e = .returned (.bool (0 == k)) ∧ Below w.heap.size w w' := by
  go_enter Tryd.func8, Tryd.ntmps8
  go_wp2_with fail
  refine (told_nil _).mono ?_
  rintro e w' ⟨rfl, hb⟩
  go_wp2
  go_ret
  exact ⟨rfl, hb⟩

set_option maxHeartbeats 1000000 in
theorem same_some (n k : Int) (w : World) (hg : HasErr w) :
    Calls Tryd.prog 8 #[.iface 75 (.int .i64 n), .int .i64 k] w fun e w' => e = .returned (.bool (n == k)) ∧ Below w.heap.size w w' := by
  have HG : Hid (HasErr w) := hg
  clear hg
  go_enter Tryd.func8, Tryd.ntmps8
  go_wp2_with fail
  refine (told_some n _ HG.out).mono ?_
  rintro e w' ⟨rfl, hb⟩
  go_wp2
  go_ret
  exact ⟨rfl, hb⟩
end Go.Proofs.YtpmcjelihdlfeaaDoor
/- What railsame.Error answers at the error of a number and this number. -/
namespace Go.Proofs.YtpmcjelihdlfeaaDoor
open Go.RowKit

theorem same_noV (n : Int) (w : World) (hg : HasErr w) :
    Calls Tryd.prog 8 #[noV n, .int .i64 n] w fun e w' => e = .returned (.bool true) ∧ Below w.heap.size w w' := by
  by_cases h : n = 0
  · subst h
    refine (same_nil _ w).mono ?_
    rintro e w' ⟨rfl, hb⟩
    exact ⟨by simp, hb⟩
  · rw [no_ne h]
    refine (same_some _ _ w hg).mono ?_
    rintro e w' ⟨rfl, hb⟩
    exact ⟨by simp, hb⟩
end Go.Proofs.YtpmcjelihdlfeaaDoor
