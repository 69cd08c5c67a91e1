/- What net.From and net.Step answer: contracts for the walks above them. -/
import Derived.Test.YtfbocionnjlilacNetFollow
import Derived.Test.YtfbocionnjlilacNetPacket
import Derived.BigRegion
namespace Go.Proofs.Ytfbocionnjlilac
open Go.RowKit
set_option linter.unusedSimpArgs false
set_option linter.unusedVariables false

/-- The boxes: a net, a spot, the answer's. -/
structure OBox (w W : World) (S : Int) (v1 v2 v3 : Value) (x y : Int) : Prop where
  below : Below w.heap.size w W
  n : NeBox W w.heap.size S v1 v2 v3
  s0 : W.cell? ⟨w.heap.size + 1, 0, none⟩ = some (.int .i64 x)
  s1 : W.cell? ⟨w.heap.size + 1, 1, none⟩ = some (.int .i64 y)
  lt : w.heap.size + 2 ≤ W.heap.size
theorem obox_new (w : World) (S : Int) (v1 v2 v3 : Value) (x y : Int) : OBox w ((w.alloc (Obj.cells #[.int .i64 S, v1, v2, v3] 42)).alloc (Obj.cells #[.int .i64 x, .int .i64 y] 27)) S v1 v2 v3 x y := by
  have e1 : (w.alloc (Obj.cells #[.int .i64 S, v1, v2, v3] 42)).heap.size = w.heap.size + 1 := by simp
  have hb : ∀ (W : World) (o : Obj), Below W.heap.size W (W.alloc o) := fun W o => (Below.refl _ _).alloc (Nat.le_refl _) _
  have hs := vat_new (w.alloc (Obj.cells #[.int .i64 S, v1, v2, v3] 42)) [.int .i64 x, .int .i64 y] 27
  rw [e1] at hs
  exact ⟨((Below.refl _ _).alloc (Nat.le_refl _) _).alloc (by rw [e1]; omega) _, (nebox_new w S v1 v2 v3 42).later (hb _ _), hs 0 _ rfl, hs 1 _ rfl, by simp⟩
theorem OBox.later {w W W' : World} {S : Int} {v1 v2 v3 : Value} {x y : Int} (k : OBox w W S v1 v2 v3 x y) (hb : Below W.heap.size W W') : OBox w W' S v1 v2 v3 x y :=
  ⟨k.below.trans (hb.mono k.below.size), k.n.later hb, cell_later hb k.s0, cell_later hb k.s1, Nat.le_trans k.lt hb.size⟩
/-- And three cells, or two, of the answer's box. -/
structure RB3 (w W : World) : Prop where
  r0 : W.cell? ⟨w.heap.size + 1 + 1, 0, none⟩ = some (.int .i64 0)
  r1 : W.cell? ⟨w.heap.size + 1 + 1, 1, none⟩ = some (.string ⟨#[]⟩)
  r2 : W.cell? ⟨w.heap.size + 1 + 1, 2, none⟩ = some (.slice none 0 0)
  f : ∀ i, W.frozen? ⟨w.heap.size + 1 + 1, i, none⟩ = false
theorem RB3.later {w W W' : World} (k : RB3 w W) (hb : Below W.heap.size W W') : RB3 w W' :=
  ⟨cell_later hb k.r0, cell_later hb k.r1, cell_later hb k.r2, fun i => (hb.frozen (p := ⟨w.heap.size + 1 + 1, i, none⟩) (show (⟨w.heap.size + 1 + 1, 0, none⟩ : Addr).block < W.heap.size from World.block_lt_of_cell? W ⟨w.heap.size + 1 + 1, 0, none⟩ k.r0)).trans (k.f i)⟩
theorem rb3_new (w X : World) (h : X.heap.size = w.heap.size + 1 + 1) : RB3 w (X.alloc (Obj.cells #[.int .i64 0, .string ⟨#[]⟩, .slice none 0 0] 53)) := by
  have hr := vat_new X [.int .i64 0, .string ⟨#[]⟩, .slice none 0 0] 53
  have hf := froz_new2 X #[.int .i64 0, .string ⟨#[]⟩, .slice none 0 0] 53
  rw [h] at hr hf
  exact ⟨hr 0 _ rfl, hr 1 _ rfl, hr 2 _ rfl, hf⟩
structure RB2 (w W : World) : Prop where
  r0 : W.cell? ⟨w.heap.size + 1 + 1, 0, none⟩ = some (.int .i64 0)
  r1 : W.cell? ⟨w.heap.size + 1 + 1, 1, none⟩ = some (.int .i64 0)
  f : ∀ i, W.frozen? ⟨w.heap.size + 1 + 1, i, none⟩ = false
theorem RB2.later {w W W' : World} (k : RB2 w W) (hb : Below W.heap.size W W') : RB2 w W' :=
  ⟨cell_later hb k.r0, cell_later hb k.r1, fun i => (hb.frozen (p := ⟨w.heap.size + 1 + 1, i, none⟩) (show (⟨w.heap.size + 1 + 1, 0, none⟩ : Addr).block < W.heap.size from World.block_lt_of_cell? W ⟨w.heap.size + 1 + 1, 0, none⟩ k.r0)).trans (k.f i)⟩
theorem rb2_new (w X : World) (h : X.heap.size = w.heap.size + 1 + 1) : RB2 w (X.alloc (Obj.cells #[.int .i64 0, .int .i64 0] 27)) := by
  have hr := vat_new X [.int .i64 0, .int .i64 0] 27
  have hf := froz_new2 X #[.int .i64 0, .int .i64 0] 27
  rw [h] at hr hf
  exact ⟨hr 0 _ rfl, hr 1 _ rfl, hf⟩
theorem own_none2 (W : World) (B : Nat) : W.ownsRow B 58 3 (.slice none 0 0) (zeF.2.2).length (cellsG hopE zeF.2.2) := World.ownsRow_nil _ _ _ _

set_option maxHeartbeats 4000000 in
set_option maxRecDepth 100000 in
theorem from_any (S : Int) (ao : Option Addr) (n cap : Nat) (ao2 : Option Addr) (n2 cap2 : Nat) (ao3 : Option Addr) (n3 cap3 : Nat) (Ls : List ((Int × Int) × (Int × Int))) (Hs : List (ByteArray × (Int × Int))) (Ts : List (List Ru)) (x y h : Int) (w : World)
    (hL : GS lnkE w (.slice ao n cap) Ls) (hH : GS hstE w (.slice ao2 n2 cap2) Hs) (hT : TS w (.slice ao3 n3 cap3) Ts) :
    Calls Try.prog 10 #[.agg #[.int .i64 S, .slice ao n cap, .slice ao2 n2 cap2, .slice ao3 n3 cap3], .agg #[.int .i64 x, .int .i64 y], .int .i64 h] w fun e w' => ∃ ao4 n4 cap4, e = .returned (.tuple #[.agg #[.int .i64 (frV S Ls Hs Ts (x, y) h).1, .string (frV S Ls Hs Ts (x, y) h).2.1, .slice ao4 n4 cap4], noV (cpN S Ls Hs Ts (x, y) h)]) ∧ w'.ownsRow w.heap.size 58 3 (.slice ao4 n4 cap4) (frV S Ls Hs Ts (x, y) h).2.2.length (cellsG hopE (frV S Ls Hs Ts (x, y) h).2.2) ∧ Below w.heap.size w w' := by
  obtain ⟨R, hR⟩ : ∃ R, R = cpN S Ls Hs Ts (x, y) h := ⟨_, rfl⟩
  obtain ⟨V, hV⟩ : ∃ V, V = frV S Ls Hs Ts (x, y) h := ⟨_, rfl⟩
  have HR : Hid (R = cpN S Ls Hs Ts (x, y) h) := hR
  have HV : Hid (V = frV S Ls Hs Ts (x, y) h) := hV
  rw [← hR, ← hV]
  have HLW : Hid (∀ W, Below w.heap.size w W → GS lnkE W (.slice ao n cap) Ls) := fun W hb => hL.later hb
  have HHW : Hid (∀ W, Below w.heap.size w W → GS hstE W (.slice ao2 n2 cap2) Hs) := fun W hb => hH.later hb
  have HTW : Hid (∀ W, Below w.heap.size w W → TS W (.slice ao3 n3 cap3) Ts) := fun W hb => hT.later hb
  have hX0 := obox_new w S (.slice ao n cap) (.slice ao2 n2 cap2) (.slice ao3 n3 cap3) x y
  have hsz : ((w.alloc (Obj.cells #[.int .i64 S, .slice ao n cap, .slice ao2 n2 cap2, .slice ao3 n3 cap3] 42)).alloc (Obj.cells #[.int .i64 x, .int .i64 y] 27)).heap.size = w.heap.size + 1 + 1 := by simp
  have hR0 := rb3_new w _ hsz
  have hX := hX0.later ((Below.refl _ _).alloc (Nat.le_refl _) (Obj.cells #[.int .i64 0, .string ⟨#[]⟩, .slice none 0 0] 53))
  obtain ⟨w0, hw0⟩ : ∃ W, ((w.alloc (Obj.cells #[.int .i64 S, .slice ao n cap, .slice ao2 n2 cap2, .slice ao3 n3 cap3] 42)).alloc (Obj.cells #[.int .i64 x, .int .i64 y] 27)).alloc (Obj.cells #[.int .i64 0, .string ⟨#[]⟩, .slice none 0 0] 53) = W := ⟨_, rfl⟩
  rw [hw0] at hX hR0
  have HX : Hid (OBox w w0 S (.slice ao n cap) (.slice ao2 n2 cap2) (.slice ao3 n3 cap3) x y) := hX
  have HRB : Hid (RB3 w w0) := hR0
  have HW0 : Hid (((w.alloc (Obj.cells #[.int .i64 S, .slice ao n cap, .slice ao2 n2 cap2, .slice ao3 n3 cap3] 42)).alloc (Obj.cells #[.int .i64 x, .int .i64 y] 27)).alloc (Obj.cells #[.int .i64 0, .string ⟨#[]⟩, .slice none 0 0] 53) = w0) := hw0
  clear hL hH hT hR hV hX0 hsz hR0 hX hw0
  go_enter Try.func10, Try.ntmps10
  go_upto_region 1 with fail
  rw [HW0.out]
  obtain ⟨_, ⟨b0, b1, b2, b3⟩, s0, s1, _⟩ := HX.out
  clear HW0
  go_wp2_with fail
  refine (npacket_any S ao n cap ao2 n2 cap2 ao3 n3 cap3 Ls Hs Ts x y h _ (HLW.out _ HX.out.below) (HHW.out _ HX.out.below) (HTW.out _ HX.out.below)).mono ?_
  rintro e w1 ⟨rfl, hb1⟩
  rw [← HR.out]
  have HX1 : Hid (OBox w w1 S (.slice ao n cap) (.slice ao2 n2 cap2) (.slice ao3 n3 cap3) x y) := HX.out.later hb1
  have HR1 : Hid (RB3 w w1) := HRB.out.later hb1
  obtain ⟨hB1, ⟨b0, b1, b2, b3⟩, s0, s1, hlt⟩ := HX1.out
  have HB1 : Hid (Below w.heap.size w w1) := hB1
  obtain ⟨r0, r1, r2, f⟩ := HR1.out
  have f0 := f 0
  have f1 := f 1
  have f2 := f 2
  clear hb1 HX HRB f hB1
  by_cases h0 : R = 0
  · have HC0 : Hid (cpN S Ls Hs Ts (x, y) h = 0) := HR.out.symm.trans h0
    obtain ⟨k1, k2, _⟩ := cp_0 HC0.out
    have HN0 : Hid (ntN S Ls Hs Ts = 0) := k1
    have HSP : Hid (spB S (x, y) = true) := k2
    have HV0 : Hid (V = frF Ls Hs Ts (x, y) h) := by
      show _ = _
      rw [HV.out, frV, if_pos HC0.out]
    subst h0
    rw [no_ok rfl]
    clear k1 k2 r0 r1 r2 f0 f1 f2
    go_wp2_with fail
    refine (follow_any S ao n cap ao2 n2 cap2 ao3 n3 cap3 Ls Hs Ts x y h _ (HLW.out _ HB1.out) (HHW.out _ HB1.out) (HTW.out _ HB1.out) HN0.out HSP.out).mono ?_
    rintro e w5 ⟨ao4, n4, cap4, rfl, hown, hb5⟩
    rw [← HV0.out] at hown
    rw [← HV0.out]
    have hsz : w.heap.size + 1 + 1 < w1.heap.size := World.block_lt_of_cell? _ _ HR1.out.r0
    have HOW : Hid (∀ u v x, (put3 w5 (w.heap.size + 1 + 1) u v x).ownsRow w.heap.size 58 3 (.slice ao4 n4 cap4) V.2.2.length (cellsG hopE V.2.2)) := fun u v x => own_mono (own_put3 hown _ hsz u v x) (by omega)
    have HB5 : Hid (Below w.heap.size w w5) := HB1.out.trans (hb5.mono HB1.out.size)
    obtain ⟨r0, r1, r2, f⟩ := HR1.out.later hb5
    have f0 := f 0
    have f1 := f 1
    have f2 := f 2
    obtain ⟨V1, hV1⟩ : ∃ q, q = V.1 := ⟨_, rfl⟩
    obtain ⟨V2, hV2⟩ : ∃ q, q = V.2.1 := ⟨_, rfl⟩
    have HVV : Hid (V.1 = V1 ∧ V.2.1 = V2) := ⟨hV1.symm, hV2.symm⟩
    rw [← hV1, ← hV2]
    clear hown hb5 f hV1 hV2
    go_wp2
    refine bodyPost_ret (v := .tuple #[.agg #[.int .i64 V1, .string V2, .slice ao4 n4 cap4], .nilIface]) (by simp [results, Try.results10, go_sem, *]) rfl ⟨ao4, n4, cap4, by rw [HVV.out.1, HVV.out.2]; rfl, HOW.out _ _ _, below_put3 HB5.out _ (by omega) _ _ _⟩
  · rw [no_ne h0]
    have HNE : Hid (R ≠ 0) := h0
    have HV1 : Hid (V = zeF) := by
      show _ = _
      rw [HV.out, frV, if_neg (by rw [← HR.out]; exact h0)]
    clear h0
    go_wp2
    refine bodyPost_ret (v := .tuple #[.agg #[.int .i64 0, .string ⟨#[]⟩, .slice none 0 0], .iface 66 (.int .i64 R)]) (by simp [results, Try.results10, go_sem, *]) rfl ⟨_, _, _, by rw [HV1.out, no_ne HNE.out]; rfl, by rw [HV1.out]; exact own_none2 _ _, below_put3 HB1.out _ (by omega) _ _ _⟩

set_option maxHeartbeats 4000000 in
set_option maxRecDepth 100000 in
theorem stepA_any (S : Int) (ao : Option Addr) (n cap : Nat) (ao2 : Option Addr) (n2 cap2 : Nat) (ao3 : Option Addr) (n3 cap3 : Nat) (Ls : List ((Int × Int) × (Int × Int))) (Hs : List (ByteArray × (Int × Int))) (Ts : List (List Ru)) (x y h : Int) (w : World)
    (hL : GS lnkE w (.slice ao n cap) Ls) (hH : GS hstE w (.slice ao2 n2 cap2) Hs) (hT : TS w (.slice ao3 n3 cap3) Ts) :
    Calls Try.prog 11 #[.agg #[.int .i64 S, .slice ao n cap, .slice ao2 n2 cap2, .slice ao3 n3 cap3], .agg #[.int .i64 x, .int .i64 y], .int .i64 h] w fun e w' => e = .returned (.tuple #[.agg #[.int .i64 (spV S Ls Hs Ts (x, y) h).1.1, .int .i64 (spV S Ls Hs Ts (x, y) h).1.2], .int .i64 (spV S Ls Hs Ts (x, y) h).2, noV (spN S Ls Hs Ts (x, y) h)]) ∧ Below w.heap.size w w' := by
  obtain ⟨R, hR⟩ : ∃ R, R = spN S Ls Hs Ts (x, y) h := ⟨_, rfl⟩
  obtain ⟨V1, hV1⟩ : ∃ V, V = (spV S Ls Hs Ts (x, y) h).1.1 := ⟨_, rfl⟩
  obtain ⟨V2, hV2⟩ : ∃ V, V = (spV S Ls Hs Ts (x, y) h).1.2 := ⟨_, rfl⟩
  obtain ⟨V3, hV3⟩ : ∃ V, V = (spV S Ls Hs Ts (x, y) h).2 := ⟨_, rfl⟩
  have HR : Hid (R = spN S Ls Hs Ts (x, y) h) := hR
  have HV : Hid (spV S Ls Hs Ts (x, y) h = ((V1, V2), V3)) := by
    show _ = _
    rw [hV1, hV2, hV3]
  rw [← hR, ← hV1, ← hV2, ← hV3]
  have HLW : Hid (∀ W, Below w.heap.size w W → GS lnkE W (.slice ao n cap) Ls) := fun W hb => hL.later hb
  have HHW : Hid (∀ W, Below w.heap.size w W → GS hstE W (.slice ao2 n2 cap2) Hs) := fun W hb => hH.later hb
  have HTW : Hid (∀ W, Below w.heap.size w W → TS W (.slice ao3 n3 cap3) Ts) := fun W hb => hT.later hb
  have hTn := hT.len
  have HTN : Hid (Ts.length = n3) := hTn
  have hX0 := obox_new w S (.slice ao n cap) (.slice ao2 n2 cap2) (.slice ao3 n3 cap3) x y
  have hsz : ((w.alloc (Obj.cells #[.int .i64 S, .slice ao n cap, .slice ao2 n2 cap2, .slice ao3 n3 cap3] 42)).alloc (Obj.cells #[.int .i64 x, .int .i64 y] 27)).heap.size = w.heap.size + 1 + 1 := by simp
  have hR0 := rb2_new w _ hsz
  have hX := hX0.later ((Below.refl _ _).alloc (Nat.le_refl _) (Obj.cells #[.int .i64 0, .int .i64 0] 27))
  obtain ⟨w0, hw0⟩ : ∃ W, ((w.alloc (Obj.cells #[.int .i64 S, .slice ao n cap, .slice ao2 n2 cap2, .slice ao3 n3 cap3] 42)).alloc (Obj.cells #[.int .i64 x, .int .i64 y] 27)).alloc (Obj.cells #[.int .i64 0, .int .i64 0] 27) = W := ⟨_, rfl⟩
  rw [hw0] at hX hR0
  have HX : Hid (OBox w w0 S (.slice ao n cap) (.slice ao2 n2 cap2) (.slice ao3 n3 cap3) x y) := hX
  have HRB : Hid (RB2 w w0) := hR0
  have HW0 : Hid (((w.alloc (Obj.cells #[.int .i64 S, .slice ao n cap, .slice ao2 n2 cap2, .slice ao3 n3 cap3] 42)).alloc (Obj.cells #[.int .i64 x, .int .i64 y] 27)).alloc (Obj.cells #[.int .i64 0, .int .i64 0] 27) = w0) := hw0
  clear hL hH hT hR hV1 hV2 hV3 hX0 hsz hR0 hX hw0 hTn
  go_enter Try.func11, Try.ntmps11
  go_upto_region 1 with fail
  rw [HW0.out]
  obtain ⟨_, ⟨b0, b1, b2, b3⟩, s0, s1, _⟩ := HX.out
  clear HW0
  go_wp2_with fail
  refine (npacket_any S ao n cap ao2 n2 cap2 ao3 n3 cap3 Ls Hs Ts x y h _ (HLW.out _ HX.out.below) (HHW.out _ HX.out.below) (HTW.out _ HX.out.below)).mono ?_
  rintro e w1 ⟨rfl, hb1⟩
  obtain ⟨C, hC⟩ : ∃ C, C = cpN S Ls Hs Ts (x, y) h := ⟨_, rfl⟩
  have HC : Hid (C = cpN S Ls Hs Ts (x, y) h) := hC
  rw [← hC]
  have HX1 : Hid (OBox w w1 S (.slice ao n cap) (.slice ao2 n2 cap2) (.slice ao3 n3 cap3) x y) := HX.out.later hb1
  have HR1 : Hid (RB2 w w1) := HRB.out.later hb1
  obtain ⟨hB1, ⟨b0, b1, b2, b3⟩, s0, s1, hlt⟩ := HX1.out
  have HB1 : Hid (Below w.heap.size w w1) := hB1
  obtain ⟨r0, r1, f⟩ := HR1.out
  have f0 := f 0
  have f1 := f 1
  clear hb1 HX HRB f hB1 hC
  by_cases h0 : C = 0
  · have HC0 : Hid (cpN S Ls Hs Ts (x, y) h = 0) := HC.out.symm.trans h0
    obtain ⟨k1, k2, _⟩ := cp_0 HC0.out
    have k3 := sp_of k2
    simp only at k3
    have k4 := nt_0 k1
    have hS6 := (tp_0 k4.1).1
    have HTT : Hid (∀ k, k < Ts.length → tbN (Ts.getD k []) = 0) := k4.2.2
    have HS1 : Hid (1 ≤ x) := k3.1
    have HS2 : Hid (x ≤ (n3 : Int)) := by
      show _ ≤ _
      have := HTN.out
      have := k4.2.1
      omega
    have HS6 : Hid (n3 ≤ 6) := by
      show _ ≤ _
      have := HTN.out
      have := k4.2.1
      omega
    obtain ⟨A, hA⟩ : ∃ A, A = stO Ts ((x, y), h) := ⟨_, rfl⟩
    have HA : Hid (stO Ts ((x, y), h) = A) := hA.symm
    have HRA : Hid (R = if A.isSome then 0 else 5) := by
      show _ = _
      rw [HR.out, spN, if_pos HC0.out, hA]
    have HVA : Hid (A.getD zeH = ((V1, V2), V3)) := by
      show _ = _
      rw [← HV.out, spV, if_pos HC0.out, hA]
    subst h0
    rw [no_ok rfl]
    clear k1 k2 k3 k4 hS6 hA r0 r1 f0 f1
    go_wp2_with fail
    refine (step_any S ao n cap ao2 n2 cap2 ao3 n3 cap3 Ts x y h _ (HTW.out _ HB1.out) HTT.out HS1.out HS2.out HS6.out).mono ?_
    rintro e w2 ⟨rfl, hb2⟩
    rw [HA.out, HVA.out]
    simp only
    have hal : Below w2.heap.size w2 (w2.alloc (Obj.cells #[.int .i64 V1, .int .i64 V2, .int .i64 V3] 58)) := (Below.refl _ _).alloc (Nat.le_refl _) _
    have hva := hop_new w2 V1 V2 V3 58
    have hXa := (HX1.out.later hb2).later hal
    have hRa := (HR1.out.later hb2).later hal
    obtain ⟨w3, hw3⟩ : ∃ W, w2.alloc (Obj.cells #[.int .i64 V1, .int .i64 V2, .int .i64 V3] 58) = W := ⟨_, rfl⟩
    obtain ⟨g3, hg3⟩ : ∃ g, w2.heap.size = g := ⟨_, rfl⟩
    rw [hw3] at hXa hRa
    rw [hw3, hg3] at hva
    have HW3 : Hid (w2.alloc (Obj.cells #[.int .i64 V1, .int .i64 V2, .int .i64 V3] 58) = w3) := hw3
    have HG3 : Hid (w2.heap.size = g3) := hg3
    obtain ⟨t0, t1, t2⟩ := hop_cells hva
    simp only [Nat.zero_add] at t0 t1 t2
    have HB3 : Hid (Below w.heap.size w w3) := hXa.below
    obtain ⟨r0, r1, f⟩ := hRa
    have f0 := f 0
    have f1 := f 1
    have hl3 : g3 < w3.heap.size := World.block_lt_of_cell? _ _ t0
    have hlr : w.heap.size + 1 + 1 < w3.heap.size := World.block_lt_of_cell? _ _ r0
    obtain ⟨okb, hokb⟩ : ∃ q, q = A.isSome := ⟨_, rfl⟩
    have HOKB : Hid (A.isSome = okb) := hokb.symm
    rw [← hokb]
    clear hb2 hal hva hXa hw3 hg3 f hokb
    go_upto_region 5 with fail
    rw [HW3.out, HG3.out]
    clear HW3 HG3
    cases okb with
    | false =>
      have HR5 : Hid (R = 5) := by
        show _ = _
        rw [HRA.out, HOKB.out]
        rfl
      have HVZ : Hid (V1 = 0 ∧ V2 = 0 ∧ V3 = 0) := by
        have h1 := HOKB.out
        have h2 := HVA.out
        cases A with
        | none =>
          have e : zeH = ((V1, V2), V3) := h2
          simp only [zeH, Prod.mk.injEq] at e
          exact ⟨e.1.1.symm, e.1.2.symm, e.2.symm⟩
        | some _ => cases h1
      go_wp2
      refine bodyPost_ret (v := .tuple #[.agg #[.int .i64 0, .int .i64 0], .int .i64 0, .iface 66 (.int .i64 5)]) (by simp [results, Try.results11, go_sem, *]) rfl ⟨by rw [HR5.out, HVZ.out.1, HVZ.out.2.1, HVZ.out.2.2]; rfl, below_two2 HB3.out _ (by omega) _ _⟩
    | true =>
      have HR0 : Hid (R = 0) := by
        show _ = _
        rw [HRA.out, HOKB.out]
        rfl
      go_wp2_with fail
      go_region
      all_goals
        go_wp2
        refine bodyPost_ret (v := .tuple #[.agg #[.int .i64 V1, .int .i64 V2], .int .i64 V3, .nilIface]) (by simp [results, Try.results11, go_sem, *]) rfl ⟨by rw [HR0.out]; rfl, below_two2 (HB3.out.trans ((Below.drew (Below.refl _ _)).mono HB3.out.size)) _ (by omega) _ _⟩
  · rw [no_ne h0]
    have HNE : Hid (C ≠ 0) := h0
    have HRC : Hid (R = C) := by
      show _ = _
      rw [HR.out, spN, if_neg (by rw [← HC.out]; exact h0), HC.out]
    have HVZ : Hid (V1 = 0 ∧ V2 = 0 ∧ V3 = 0) := by
      have h2 := HV.out
      rw [spV, if_neg (by rw [← HC.out]; exact h0)] at h2
      simp only [zeH, Prod.mk.injEq] at h2
      exact ⟨h2.1.1.symm, h2.1.2.symm, h2.2.symm⟩
    clear h0
    go_wp2
    refine bodyPost_ret (v := .tuple #[.agg #[.int .i64 0, .int .i64 0], .int .i64 0, .iface 66 (.int .i64 C)]) (by simp [results, Try.results11, go_sem, *]) rfl ⟨by rw [HRC.out, HVZ.out.1, HVZ.out.2.1, HVZ.out.2.2, no_ne HNE.out], below_two2 HB1.out _ (by omega) _ _⟩
end Go.Proofs.Ytfbocionnjlilac
