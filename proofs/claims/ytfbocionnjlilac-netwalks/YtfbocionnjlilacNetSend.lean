/- What net.Send answers: a contract for the walks above it. -/
import Derived.Test.YtfbocionnjlilacNetFollow
import Derived.Test.YtfbocionnjlilacTopoWhere
import Derived.Test.YtfbocionnjlilacCubeHas
namespace Go.Proofs.Ytfbocionnjlilac
open Go.RowKit
set_option linter.unusedSimpArgs false
set_option linter.unusedVariables false

/-- The boxes: a net, the answer's. -/
structure VBox (w W : World) (S : Int) (v1 v2 v3 : Value) : Prop where
  below : Below w.heap.size w W
  n : NeBox W w.heap.size S v1 v2 v3
  r0 : W.cell? ⟨w.heap.size + 1, 0, none⟩ = some (.int .i64 0)
  r1 : W.cell? ⟨w.heap.size + 1, 1, none⟩ = some (.string ⟨#[]⟩)
  r2 : W.cell? ⟨w.heap.size + 1, 2, none⟩ = some (.slice none 0 0)
  f : ∀ i, W.frozen? ⟨w.heap.size + 1, i, none⟩ = false
theorem vbox_new (w : World) (S : Int) (v1 v2 v3 : Value) : VBox w ((w.alloc (Obj.cells #[.int .i64 S, v1, v2, v3] 42)).alloc (Obj.cells #[.int .i64 0, .string ⟨#[]⟩, .slice none 0 0] 53)) S v1 v2 v3 := by
  have e1 : (w.alloc (Obj.cells #[.int .i64 S, v1, v2, v3] 42)).heap.size = w.heap.size + 1 := by simp
  have hb : ∀ (W : World) (o : Obj), Below W.heap.size W (W.alloc o) := fun W o => (Below.refl _ _).alloc (Nat.le_refl _) _
  have hn := (nebox_new w S v1 v2 v3 42).later (hb _ (Obj.cells #[.int .i64 0, .string ⟨#[]⟩, .slice none 0 0] 53))
  have hB := ((Below.refl w.heap.size w).alloc (Nat.le_refl _) (Obj.cells #[.int .i64 S, v1, v2, v3] 42)).alloc (by rw [e1]; omega) (Obj.cells #[.int .i64 0, .string ⟨#[]⟩, .slice none 0 0] 53)
  generalize w.alloc (Obj.cells #[.int .i64 S, v1, v2, v3] 42) = X at e1 hn hB
  have hr := vat_new X [.int .i64 0, .string ⟨#[]⟩, .slice none 0 0] 53
  have hf := froz_new2 X #[.int .i64 0, .string ⟨#[]⟩, .slice none 0 0] 53
  rw [e1] at hr hf
  exact ⟨hB, hn, hr 0 _ rfl, hr 1 _ rfl, hr 2 _ rfl, hf⟩
theorem VBox.later {w W W' : World} {S : Int} {v1 v2 v3 : Value} (k : VBox w W S v1 v2 v3) (hb : Below W.heap.size W W') : VBox w W' S v1 v2 v3 :=
  ⟨k.below.trans (hb.mono k.below.size), k.n.later hb, cell_later hb k.r0, cell_later hb k.r1, cell_later hb k.r2, fun i => (hb.frozen (p := ⟨w.heap.size + 1, i, none⟩) (show (⟨w.heap.size + 1, 0, none⟩ : Addr).block < W.heap.size from World.block_lt_of_cell? W ⟨w.heap.size + 1, 0, none⟩ k.r0)).trans (k.f i)⟩
/-- No fate. -/
theorem own_none (W : World) (B : Nat) : W.ownsRow B 58 3 (.slice none 0 0) (zeF.2.2).length (cellsG hopE zeF.2.2) := World.ownsRow_nil _ _ _ _

set_option maxHeartbeats 4000000 in
set_option maxRecDepth 100000 in
theorem send_any (S : Int) (ao : Option Addr) (n cap : Nat) (ao2 : Option Addr) (n2 cap2 : Nat) (ao3 : Option Addr) (n3 cap3 : Nat) (Ls : List ((Int × Int) × (Int × Int))) (Hs : List (ByteArray × (Int × Int))) (Ts : List (List Ru)) (m : ByteArray) (h : Int) (w : World)
    (hL : GS lnkE w (.slice ao n cap) Ls) (hH : GS hstE w (.slice ao2 n2 cap2) Hs) (hT : TS w (.slice ao3 n3 cap3) Ts) :
    Calls Try.prog 9 #[.agg #[.int .i64 S, .slice ao n cap, .slice ao2 n2 cap2, .slice ao3 n3 cap3], .string m, .int .i64 h] w fun e w' => ∃ ao4 n4 cap4, e = .returned (.tuple #[.agg #[.int .i64 (seV S Ls Hs Ts m h).1, .string (seV S Ls Hs Ts m h).2.1, .slice ao4 n4 cap4], noV (seN S Ls Hs Ts m h)]) ∧ w'.ownsRow w.heap.size 58 3 (.slice ao4 n4 cap4) (seV S Ls Hs Ts m h).2.2.length (cellsG hopE (seV S Ls Hs Ts m h).2.2) ∧ Below w.heap.size w w' := by
  obtain ⟨R, hR⟩ : ∃ R, R = seN S Ls Hs Ts m h := ⟨_, rfl⟩
  obtain ⟨V, hV⟩ : ∃ V, V = seV S Ls Hs Ts m h := ⟨_, rfl⟩
  have HR : Hid (R = seN S Ls Hs Ts m h) := hR
  have HV : Hid (V = seV S Ls Hs Ts m h) := hV
  rw [← hR, ← hV]
  have HLW : Hid (∀ W, Below w.heap.size w W → GS lnkE W (.slice ao n cap) Ls) := fun W hb => hL.later hb
  have HHW : Hid (∀ W, Below w.heap.size w W → GS hstE W (.slice ao2 n2 cap2) Hs) := fun W hb => hH.later hb
  have HTW : Hid (∀ W, Below w.heap.size w W → TS W (.slice ao3 n3 cap3) Ts) := fun W hb => hT.later hb
  have hX := vbox_new w S (.slice ao n cap) (.slice ao2 n2 cap2) (.slice ao3 n3 cap3)
  obtain ⟨w0, hw0⟩ : ∃ W, (w.alloc (Obj.cells #[.int .i64 S, .slice ao n cap, .slice ao2 n2 cap2, .slice ao3 n3 cap3] 42)).alloc (Obj.cells #[.int .i64 0, .string ⟨#[]⟩, .slice none 0 0] 53) = W := ⟨_, rfl⟩
  rw [hw0] at hX
  have HX : Hid (VBox w w0 S (.slice ao n cap) (.slice ao2 n2 cap2) (.slice ao3 n3 cap3)) := hX
  have HW0 : Hid ((w.alloc (Obj.cells #[.int .i64 S, .slice ao n cap, .slice ao2 n2 cap2, .slice ao3 n3 cap3] 42)).alloc (Obj.cells #[.int .i64 0, .string ⟨#[]⟩, .slice none 0 0] 53) = w0) := hw0
  clear hL hH hT hR hV hX hw0
  go_enter Try.func9, Try.ntmps9
  go_upto_region 1 with fail
  rw [HW0.out]
  obtain ⟨_, ⟨b0, b1, b2, b3⟩, r0, r1, r2, f⟩ := HX.out
  clear HW0 f r0 r1 r2
  go_wp2_with fail
  refine (ncheck_any S ao n cap ao2 n2 cap2 ao3 n3 cap3 Ls Hs Ts _ (HLW.out _ HX.out.below) (HHW.out _ HX.out.below) (HTW.out _ HX.out.below)).mono ?_
  rintro e w1 ⟨rfl, hb1⟩
  obtain ⟨T, hT⟩ : ∃ T, T = ntN S Ls Hs Ts := ⟨_, rfl⟩
  have HT : Hid (T = ntN S Ls Hs Ts) := hT
  rw [← hT]
  have HX1 : Hid (VBox w w1 S (.slice ao n cap) (.slice ao2 n2 cap2) (.slice ao3 n3 cap3)) := HX.out.later hb1
  obtain ⟨hB1, ⟨b0, b1, b2, b3⟩, r0, r1, r2, f⟩ := HX1.out
  have HB1 : Hid (Below w.heap.size w w1) := hB1
  have f0 := f 0
  have f1 := f 1
  have f2 := f 2
  clear hT hb1 HX f hB1
  by_cases h0 : T = 0
  · have HN0 : Hid (ntN S Ls Hs Ts = 0) := HT.out.symm.trans h0
    subst h0
    rw [no_ok rfl]
    clear r0 r1 r2 f0 f1 f2
    go_wp2_with fail
    refine (where_any S ao n cap ao2 n2 cap2 Ls Hs m _ (HLW.out _ HX1.out.below) (HHW.out _ HX1.out.below)).mono ?_
    rintro e w2 ⟨rfl, hb2⟩
    obtain ⟨WN, hWN⟩ : ∃ q, q = weN S Ls Hs m := ⟨_, rfl⟩
    obtain ⟨X1, hX1⟩ : ∃ q, q = (weV S Ls Hs m).1 := ⟨_, rfl⟩
    obtain ⟨X2, hX2⟩ : ∃ q, q = (weV S Ls Hs m).2 := ⟨_, rfl⟩
    have HWN : Hid (WN = weN S Ls Hs m) := hWN
    have HXV : Hid (weV S Ls Hs m = (X1, X2)) := by
      show _ = _
      rw [hX1, hX2]
    rw [← hWN, ← hX1, ← hX2]
    have hal : Below w2.heap.size w2 (w2.alloc (Obj.cells #[.int .i64 X1, .int .i64 X2] 27)) := (Below.refl _ _).alloc (Nat.le_refl _) _
    have hXa := (HX1.out.later hb2).later hal
    have hva := vat_new w2 [.int .i64 X1, .int .i64 X2] 27
    obtain ⟨w3, hw3⟩ : ∃ W, w2.alloc (Obj.cells #[.int .i64 X1, .int .i64 X2] 27) = W := ⟨_, rfl⟩
    obtain ⟨g3, hg3⟩ : ∃ g, w2.heap.size = g := ⟨_, rfl⟩
    have hva2 : VAt w3 g3 0 [.int .i64 X1, .int .i64 X2] := by
      rw [← hw3, ← hg3]
      exact hva
    rw [hw3] at hXa
    have HX3 : Hid (VBox w w3 S (.slice ao n cap) (.slice ao2 n2 cap2) (.slice ao3 n3 cap3)) := hXa
    have HW3 : Hid (w2.alloc (Obj.cells #[.int .i64 X1, .int .i64 X2] 27) = w3) := hw3
    have HG3 : Hid (w2.heap.size = g3) := hg3
    have s0 : w3.cell? ⟨g3, 0, none⟩ = some (.int .i64 X1) := hva2 0 _ rfl
    have s1 : w3.cell? ⟨g3, 1, none⟩ = some (.int .i64 X2) := hva2 1 _ rfl
    obtain ⟨hB3, ⟨b0, b1, b2, b3⟩, r0, r1, r2, f⟩ := HX3.out
    have HB3 : Hid (Below w.heap.size w w3) := hB3
    have f0 := f 0
    have f1 := f 1
    have f2 := f 2
    clear hWN hX1 hX2 hb2 hal hXa hva hva2 hw3 hg3 hB3 f HX1 HB1
    go_upto_region 5 with fail
    rw [HW3.out, HG3.out]
    clear HW3 HG3
    by_cases h5 : WN = 0
    · have HW0 : Hid (weN S Ls Hs m = 0) := HWN.out.symm.trans h5
      subst h5
      rw [no_ok rfl]
      cases hh : hdrB h
      · have HR1 : Hid (R = 1) := by
          show _ = _
          rw [HR.out, seN, if_pos HN0.out, if_pos HW0.out, hh]
          rfl
        have HV1 : Hid (V = zeF) := by
          show _ = _
          rw [HV.out, seV, ← HR.out, HR1.out]
          rfl
        go_wp2_with fail
        refine (isHeader_any h _).mono ?_
        rintro e w4 ⟨rfl, hw4⟩
        subst hw4
        rw [hh]
        go_wp2
        refine bodyPost_ret (v := .tuple #[.agg #[.int .i64 0, .string ⟨#[]⟩, .slice none 0 0], .iface 66 (.int .i64 1)]) (by simp [results, Try.results9, go_sem, *]) rfl ⟨_, _, _, by rw [HR1.out, HV1.out]; rfl, by rw [HV1.out]; exact own_none _ _, below_put3 HB3.out _ (by omega) _ _ _⟩
      · have HR0 : Hid (R = 0) := by
          show _ = _
          rw [HR.out, seN, if_pos HN0.out, if_pos HW0.out, hh]
          rfl
        have HV0 : Hid (V = frF Ls Hs Ts (X1, X2) h) := by
          show _ = _
          rw [HV.out, seV, ← HR.out, HR0.out, if_pos rfl, HXV.out]
        have HSP : Hid (spB S (X1, X2) = true) := by
          show _ = _
          have ht := (nt_0 HN0.out).1
          have hw := HW0.out
          rw [weN, if_pos ht] at hw
          have hv := HXV.out
          rw [weV, HW0.out, if_pos rfl] at hv
          cases hp : whereO Hs m with
          | none => rw [hp] at hw; simp at hw
          | some p =>
            rw [hp, Option.getD_some] at hv
            rw [← hv]
            exact where_sp ht hp
        clear r0 r1 r2 f0 f1 f2
        go_wp2_with fail
        refine (isHeader_any h _).mono ?_
        rintro e w4 ⟨rfl, hw4⟩
        subst hw4
        rw [hh]
        go_wp2_with fail
        refine (follow_any S ao n cap ao2 n2 cap2 ao3 n3 cap3 Ls Hs Ts X1 X2 h _ (HLW.out _ HB3.out) (HHW.out _ HB3.out) (HTW.out _ HB3.out) HN0.out HSP.out).mono ?_
        rintro e w5 ⟨ao4, n4, cap4, rfl, hown, hb5⟩
        rw [← HV0.out] at hown
        rw [← HV0.out]
        have hsz : w.heap.size + 1 < w4.heap.size := World.block_lt_of_cell? _ _ HX3.out.r0
        have HOW : Hid (∀ u v x, (put3 w5 (w.heap.size + 1) u v x).ownsRow w.heap.size 58 3 (.slice ao4 n4 cap4) V.2.2.length (cellsG hopE V.2.2)) := fun u v x => own_mono (own_put3 hown _ hsz u v x) (by omega)
        have HX5 : Hid (VBox w w5 S (.slice ao n cap) (.slice ao2 n2 cap2) (.slice ao3 n3 cap3)) := HX3.out.later hb5
        obtain ⟨hB5, ⟨b0, b1, b2, b3⟩, r0, r1, r2, f⟩ := HX5.out
        have HB5 : Hid (Below w.heap.size w w5) := hB5
        have f0 := f 0
        have f1 := f 1
        have f2 := f 2
        obtain ⟨V1, hV1⟩ : ∃ q, q = V.1 := ⟨_, rfl⟩
        obtain ⟨V2, hV2⟩ : ∃ q, q = V.2.1 := ⟨_, rfl⟩
        have HVV : Hid (V.1 = V1 ∧ V.2.1 = V2) := ⟨hV1.symm, hV2.symm⟩
        rw [← hV1, ← hV2]
        clear hown hb5 hB5 f hV1 hV2
        go_wp2
        refine bodyPost_ret (v := .tuple #[.agg #[.int .i64 V1, .string V2, .slice ao4 n4 cap4], .nilIface]) (by simp [results, Try.results9, go_sem, *]) rfl ⟨ao4, n4, cap4, by rw [HR0.out, HVV.out.1, HVV.out.2]; rfl, HOW.out _ _ _, below_put3 HB5.out _ (by omega) _ _ _⟩
    · rw [no_ne h5]
      have HNE : Hid (WN ≠ 0) := h5
      have HR1 : Hid (R = WN) := by
        show _ = _
        rw [HR.out, seN, if_pos HN0.out, if_neg (by rw [← HWN.out]; exact h5), HWN.out]
      have HV1 : Hid (V = zeF) := by
        show _ = _
        rw [HV.out, seV, ← HR.out, HR1.out, if_neg h5]
      clear h5
      go_wp2
      refine bodyPost_ret (v := .tuple #[.agg #[.int .i64 0, .string ⟨#[]⟩, .slice none 0 0], .iface 66 (.int .i64 WN)]) (by simp [results, Try.results9, go_sem, *]) rfl ⟨_, _, _, by rw [HR1.out, HV1.out, no_ne HNE.out]; rfl, by rw [HV1.out]; exact own_none _ _, below_put3 HB3.out _ (by omega) _ _ _⟩
  · rw [no_ne h0]
    have HNE : Hid (T ≠ 0) := h0
    have HR1 : Hid (R = T) := by
      show _ = _
      rw [HR.out, seN, if_neg (by rw [← HT.out]; exact h0), HT.out]
    have HV1 : Hid (V = zeF) := by
      show _ = _
      rw [HV.out, seV, ← HR.out, HR1.out, if_neg h0]
    clear h0
    go_wp2
    refine bodyPost_ret (v := .tuple #[.agg #[.int .i64 0, .string ⟨#[]⟩, .slice none 0 0], .iface 66 (.int .i64 T)]) (by simp [results, Try.results9, go_sem, *]) rfl ⟨_, _, _, by rw [HR1.out, HV1.out, no_ne HNE.out]; rfl, by rw [HV1.out]; exact own_none _ _, below_put3 HB1.out _ (by omega) _ _ _⟩
end Go.Proofs.Ytfbocionnjlilac
