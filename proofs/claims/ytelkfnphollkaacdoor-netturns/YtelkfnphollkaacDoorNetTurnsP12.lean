/- Contracts and facts on the way to NetTurns, joined into one text: NetSend, TopoOf, TopoLine1, AsErr. -/
import Derived.Test.YtelkfnphollkaacDoorNetTurnsP11
import Derived.Test.YtelkfnphollkaacDoorNetTurnsP5
import Derived.Test.YtelkfnphollkaacDoorNetTurnsP3
import Derived.Test.YtelkfnphollkaacDoorNetTurnsP4
import Derived.Test.YtelkfnphollkaacDoorNetTurnsP9
import Derived.Test.YtelkfnphollkaacDoorNetTurnsP10
import Derived.Test.YtelkfnphollkaacDoorRows
import Derived.WalkSpells
import Derived.Below
import Derived.WalkKit
import Derived.LaidEql
import Derived.Stop.Asserts
import Derived.RowKitTokens
/- What net.Send answers: a contract for the walks above it. -/
namespace Go.Proofs.YtelkfnphollkaacDoor
open Go.RowKit
set_option linter.unusedSimpArgs false
set_option linter.unusedVariables false

/-- The boxes: a net, the answer's. -/
structure VBox (w W : World) (S : Int) (v1 v2 v3 : Value) : Prop where
  below : Below w.heap.size w W
  n : NeBox W w.heap.size S v1 v2 v3
  r0 : W.cell? ⟨w.heap.size + 1, 0, none⟩ = some (.int .i64 0)
  r1 : W.cell? ⟨w.heap.size + 1, 1, none⟩ = some (.string ⟨#[]⟩)
  r2 : W.cell? ⟨w.heap.size + 1, 2, none⟩ = some (.slice none 0 0)
  f : ∀ i, W.frozen? ⟨w.heap.size + 1, i, none⟩ = false
theorem vbox_new (w : World) (S : Int) (v1 v2 v3 : Value) : VBox w ((w.alloc (Obj.cells #[.int .i64 S, v1, v2, v3] 58)).alloc (Obj.cells #[.int .i64 0, .string ⟨#[]⟩, .slice none 0 0] 64)) S v1 v2 v3 := by
  have e1 : (w.alloc (Obj.cells #[.int .i64 S, v1, v2, v3] 58)).heap.size = w.heap.size + 1 := by simp
  have hb : ∀ (W : World) (o : Obj), Below W.heap.size W (W.alloc o) := fun W o => (Below.refl _ _).alloc (Nat.le_refl _) _
  have hn := (nebox_new w S v1 v2 v3 58).later (hb _ (Obj.cells #[.int .i64 0, .string ⟨#[]⟩, .slice none 0 0] 64))
  have hB := ((Below.refl w.heap.size w).alloc (Nat.le_refl _) (Obj.cells #[.int .i64 S, v1, v2, v3] 58)).alloc (by rw [e1]; omega) (Obj.cells #[.int .i64 0, .string ⟨#[]⟩, .slice none 0 0] 64)
  generalize w.alloc (Obj.cells #[.int .i64 S, v1, v2, v3] 58) = X at e1 hn hB
  have hr := vat_new X [.int .i64 0, .string ⟨#[]⟩, .slice none 0 0] 64
  have hf := froz_new2 X #[.int .i64 0, .string ⟨#[]⟩, .slice none 0 0] 64
  rw [e1] at hr hf
  exact ⟨hB, hn, hr 0 _ rfl, hr 1 _ rfl, hr 2 _ rfl, hf⟩
theorem VBox.later {w W W' : World} {S : Int} {v1 v2 v3 : Value} (k : VBox w W S v1 v2 v3) (hb : Below W.heap.size W W') : VBox w W' S v1 v2 v3 :=
  ⟨k.below.trans (hb.mono k.below.size), k.n.later hb, cell_later hb k.r0, cell_later hb k.r1, cell_later hb k.r2, fun i => (hb.frozen (p := ⟨w.heap.size + 1, i, none⟩) (show (⟨w.heap.size + 1, 0, none⟩ : Addr).block < W.heap.size from World.block_lt_of_cell? W ⟨w.heap.size + 1, 0, none⟩ k.r0)).trans (k.f i)⟩
/-- No fate. -/
theorem own_none (W : World) (B : Nat) : W.ownsRow B 109 3 (.slice none 0 0) (zeF.2.2).length (cellsG hopE zeF.2.2) := World.ownsRow_nil _ _ _ _

set_option maxHeartbeats 4000000 in
set_option maxRecDepth 100000 in
theorem send_any (S : Int) (ao : Option Addr) (n cap : Nat) (ao2 : Option Addr) (n2 cap2 : Nat) (ao3 : Option Addr) (n3 cap3 : Nat) (Ls : List ((Int × Int) × (Int × Int))) (Hs : List (ByteArray × (Int × Int))) (Ts : List (List Ru)) (m : ByteArray) (h : Int) (w : World)
    (hL : GS lnkE w (.slice ao n cap) Ls) (hH : GS hstE w (.slice ao2 n2 cap2) Hs) (hT : TS w (.slice ao3 n3 cap3) Ts) :
    Calls Tryd.prog 32 #[.agg #[.int .i64 S, .slice ao n cap, .slice ao2 n2 cap2, .slice ao3 n3 cap3], .string m, .int .i64 h] w fun e w' => ∃ ao4 n4 cap4, e = .returned (.tuple #[.agg #[.int .i64 (seV S Ls Hs Ts m h).1, .string (seV S Ls Hs Ts m h).2.1, .slice ao4 n4 cap4], noV (seN S Ls Hs Ts m h)]) ∧ w'.ownsRow w.heap.size 109 3 (.slice ao4 n4 cap4) (seV S Ls Hs Ts m h).2.2.length (cellsG hopE (seV S Ls Hs Ts m h).2.2) ∧ Below w.heap.size w w' := by
  obtain ⟨R, hR⟩ : ∃ R, R = seN S Ls Hs Ts m h := ⟨_, rfl⟩
  obtain ⟨V, hV⟩ : ∃ V, V = seV S Ls Hs Ts m h := ⟨_, rfl⟩
  have HR : Hid (R = seN S Ls Hs Ts m h) := hR
  have HV : Hid (V = seV S Ls Hs Ts m h) := hV
  rw [← hR, ← hV]
  have HLW : Hid (∀ W, Below w.heap.size w W → GS lnkE W (.slice ao n cap) Ls) := fun W hb => hL.later hb
  have HHW : Hid (∀ W, Below w.heap.size w W → GS hstE W (.slice ao2 n2 cap2) Hs) := fun W hb => hH.later hb
  have HTW : Hid (∀ W, Below w.heap.size w W → TS W (.slice ao3 n3 cap3) Ts) := fun W hb => hT.later hb
  have hX := vbox_new w S (.slice ao n cap) (.slice ao2 n2 cap2) (.slice ao3 n3 cap3)
  obtain ⟨w0, hw0⟩ : ∃ W, (w.alloc (Obj.cells #[.int .i64 S, .slice ao n cap, .slice ao2 n2 cap2, .slice ao3 n3 cap3] 58)).alloc (Obj.cells #[.int .i64 0, .string ⟨#[]⟩, .slice none 0 0] 64) = W := ⟨_, rfl⟩
  rw [hw0] at hX
  have HX : Hid (VBox w w0 S (.slice ao n cap) (.slice ao2 n2 cap2) (.slice ao3 n3 cap3)) := hX
  have HW0 : Hid ((w.alloc (Obj.cells #[.int .i64 S, .slice ao n cap, .slice ao2 n2 cap2, .slice ao3 n3 cap3] 58)).alloc (Obj.cells #[.int .i64 0, .string ⟨#[]⟩, .slice none 0 0] 64) = w0) := hw0
  clear hL hH hT hR hV hX hw0
  go_enter Tryd.func32, Tryd.ntmps32
  go_upto_region 1 with fail
  rw [HW0.out]
  obtain ⟨_, ⟨b0, b1, b2, b3⟩, r0, r1, r2, f⟩ := HX.out
  clear HW0 f r0 r1 r2
  go_wp2_with fail
  refine (ncheck_any S ao n cap ao2 n2 cap2 ao3 n3 cap3 Ls Hs Ts _ (HLW.out _ HX.out.below) (HHW.out _ HX.out.below) (HTW.out _ HX.out.below)).mono ?_
  rintro e w1 ⟨rfl, hb1⟩
  obtain ⟨T, hT⟩ : ∃ T, T = ntN S Ls Hs Ts := ⟨_, rfl⟩
  have HT : Hid (T = ntN S Ls Hs Ts) := hT
  rw [← hT]
  have HX1 : Hid (VBox w w1 S (.slice ao n cap) (.slice ao2 n2 cap2) (.slice ao3 n3 cap3)) := HX.out.later hb1
  obtain ⟨hB1, ⟨b0, b1, b2, b3⟩, r0, r1, r2, f⟩ := HX1.out
  have HB1 : Hid (Below w.heap.size w w1) := hB1
  have f0 := f 0
  have f1 := f 1
  have f2 := f 2
  clear hT hb1 HX f hB1
  by_cases h0 : T = 0
  · have HN0 : Hid (ntN S Ls Hs Ts = 0) := HT.out.symm.trans h0
    subst h0
    rw [no_ok rfl]
    clear r0 r1 r2 f0 f1 f2
    go_wp2_with fail
    refine (where_any S ao n cap ao2 n2 cap2 Ls Hs m _ (HLW.out _ HX1.out.below) (HHW.out _ HX1.out.below)).mono ?_
    rintro e w2 ⟨rfl, hb2⟩
    obtain ⟨WN, hWN⟩ : ∃ q, q = weN S Ls Hs m := ⟨_, rfl⟩
    obtain ⟨X1, hX1⟩ : ∃ q, q = (weV S Ls Hs m).1 := ⟨_, rfl⟩
    obtain ⟨X2, hX2⟩ : ∃ q, q = (weV S Ls Hs m).2 := ⟨_, rfl⟩
    have HWN : Hid (WN = weN S Ls Hs m) := hWN
    have HXV : Hid (weV S Ls Hs m = (X1, X2)) := by
      show _ = _
      rw [hX1, hX2]
    rw [← hWN, ← hX1, ← hX2]
    have hal : Below w2.heap.size w2 (w2.alloc (Obj.cells #[.int .i64 X1, .int .i64 X2] 27)) := (Below.refl _ _).alloc (Nat.le_refl _) _
    have hXa := (HX1.out.later hb2).later hal
    have hva := vat_new w2 [.int .i64 X1, .int .i64 X2] 27
    obtain ⟨w3, hw3⟩ : ∃ W, w2.alloc (Obj.cells #[.int .i64 X1, .int .i64 X2] 27) = W := ⟨_, rfl⟩
    obtain ⟨g3, hg3⟩ : ∃ g, w2.heap.size = g := ⟨_, rfl⟩
    have hva2 : VAt w3 g3 0 [.int .i64 X1, .int .i64 X2] := by
      rw [← hw3, ← hg3]
      exact hva
    rw [hw3] at hXa
    have HX3 : Hid (VBox w w3 S (.slice ao n cap) (.slice ao2 n2 cap2) (.slice ao3 n3 cap3)) := hXa
    have HW3 : Hid (w2.alloc (Obj.cells #[.int .i64 X1, .int .i64 X2] 27) = w3) := hw3
    have HG3 : Hid (w2.heap.size = g3) := hg3
    have s0 : w3.cell? ⟨g3, 0, none⟩ = some (.int .i64 X1) := hva2 0 _ rfl
    have s1 : w3.cell? ⟨g3, 1, none⟩ = some (.int .i64 X2) := hva2 1 _ rfl
    obtain ⟨hB3, ⟨b0, b1, b2, b3⟩, r0, r1, r2, f⟩ := HX3.out
    have HB3 : Hid (Below w.heap.size w w3) := hB3
    have f0 := f 0
    have f1 := f 1
    have f2 := f 2
    clear hWN hX1 hX2 hb2 hal hXa hva hva2 hw3 hg3 hB3 f HX1 HB1
    go_upto_region 5 with fail
    rw [HW3.out, HG3.out]
    clear HW3 HG3
    by_cases h5 : WN = 0
    · have HW0 : Hid (weN S Ls Hs m = 0) := HWN.out.symm.trans h5
      subst h5
      rw [no_ok rfl]
      cases hh : hdrB h
      · have HR1 : Hid (R = 1) := by
          show _ = _
          rw [HR.out, seN, if_pos HN0.out, if_pos HW0.out, hh]
          rfl
        have HV1 : Hid (V = zeF) := by
          show _ = _
          rw [HV.out, seV, ← HR.out, HR1.out]
          rfl
        go_wp2_with fail
        refine (isHeader_any h _).mono ?_
        rintro e w4 ⟨rfl, hw4⟩
        subst hw4
        rw [hh]
        go_wp2
        refine bodyPost_ret (v := .tuple #[.agg #[.int .i64 0, .string ⟨#[]⟩, .slice none 0 0], .iface 85 (.int .i64 1)]) (by simp [results, Tryd.results32, go_sem, *]) rfl ⟨_, _, _, by rw [HR1.out, HV1.out]; rfl, by rw [HV1.out]; exact own_none _ _, below_put3 HB3.out _ (by omega) _ _ _⟩
      · have HR0 : Hid (R = 0) := by
          show _ = _
          rw [HR.out, seN, if_pos HN0.out, if_pos HW0.out, hh]
          rfl
        have HV0 : Hid (V = frF Ls Hs Ts (X1, X2) h) := by
          show _ = _
          rw [HV.out, seV, ← HR.out, HR0.out, if_pos rfl, HXV.out]
        have HSP : Hid (spB S (X1, X2) = true) := by
          show _ = _
          have ht := (nt_0 HN0.out).1
          have hw := HW0.out
          rw [weN, if_pos ht] at hw
          have hv := HXV.out
          rw [weV, HW0.out, if_pos rfl] at hv
          cases hp : whereO Hs m with
          | none => rw [hp] at hw; simp at hw
          | some p =>
            rw [hp, Option.getD_some] at hv
            rw [← hv]
            exact where_sp ht hp
        clear r0 r1 r2 f0 f1 f2
        go_wp2_with fail
        refine (isHeader_any h _).mono ?_
        rintro e w4 ⟨rfl, hw4⟩
        subst hw4
        rw [hh]
        go_wp2_with fail
        refine (follow_any S ao n cap ao2 n2 cap2 ao3 n3 cap3 Ls Hs Ts X1 X2 h _ (HLW.out _ HB3.out) (HHW.out _ HB3.out) (HTW.out _ HB3.out) HN0.out HSP.out).mono ?_
        rintro e w5 ⟨ao4, n4, cap4, rfl, hown, hb5⟩
        rw [← HV0.out] at hown
        rw [← HV0.out]
        have hsz : w.heap.size + 1 < w4.heap.size := World.block_lt_of_cell? _ _ HX3.out.r0
        have HOW : Hid (∀ u v x, (put3 w5 (w.heap.size + 1) u v x).ownsRow w.heap.size 109 3 (.slice ao4 n4 cap4) V.2.2.length (cellsG hopE V.2.2)) := fun u v x => own_mono (own_put3 hown _ hsz u v x) (by omega)
        have HX5 : Hid (VBox w w5 S (.slice ao n cap) (.slice ao2 n2 cap2) (.slice ao3 n3 cap3)) := HX3.out.later hb5
        obtain ⟨hB5, ⟨b0, b1, b2, b3⟩, r0, r1, r2, f⟩ := HX5.out
        have HB5 : Hid (Below w.heap.size w w5) := hB5
        have f0 := f 0
        have f1 := f 1
        have f2 := f 2
        obtain ⟨V1, hV1⟩ : ∃ q, q = V.1 := ⟨_, rfl⟩
        obtain ⟨V2, hV2⟩ : ∃ q, q = V.2.1 := ⟨_, rfl⟩
        have HVV : Hid (V.1 = V1 ∧ V.2.1 = V2) := ⟨hV1.symm, hV2.symm⟩
        rw [← hV1, ← hV2]
        clear hown hb5 hB5 f hV1 hV2
        go_wp2
        refine bodyPost_ret (v := .tuple #[.agg #[.int .i64 V1, .string V2, .slice ao4 n4 cap4], .nilIface]) (by simp [results, Tryd.results32, go_sem, *]) rfl ⟨ao4, n4, cap4, by rw [HR0.out, HVV.out.1, HVV.out.2]; rfl, HOW.out _ _ _, below_put3 HB5.out _ (by omega) _ _ _⟩
    · rw [no_ne h5]
      have HNE : Hid (WN ≠ 0) := h5
      have HR1 : Hid (R = WN) := by
        show _ = _
        rw [HR.out, seN, if_pos HN0.out, if_neg (by rw [← HWN.out]; exact h5), HWN.out]
      have HV1 : Hid (V = zeF) := by
        show _ = _
        rw [HV.out, seV, ← HR.out, HR1.out, if_neg h5]
      clear h5
      go_wp2
      refine bodyPost_ret (v := .tuple #[.agg #[.int .i64 0, .string ⟨#[]⟩, .slice none 0 0], .iface 85 (.int .i64 WN)]) (by simp [results, Tryd.results32, go_sem, *]) rfl ⟨_, _, _, by rw [HR1.out, HV1.out, no_ne HNE.out]; rfl, by rw [HV1.out]; exact own_none _ _, below_put3 HB3.out _ (by omega) _ _ _⟩
  · rw [no_ne h0]
    have HNE : Hid (T ≠ 0) := h0
    have HR1 : Hid (R = T) := by
      show _ = _
      rw [HR.out, seN, if_neg (by rw [← HT.out]; exact h0), HT.out]
    have HV1 : Hid (V = zeF) := by
      show _ = _
      rw [HV.out, seV, ← HR.out, HR1.out, if_neg h0]
    clear h0
    go_wp2
    refine bodyPost_ret (v := .tuple #[.agg #[.int .i64 0, .string ⟨#[]⟩, .slice none 0 0], .iface 85 (.int .i64 T)]) (by simp [results, Tryd.results32, go_sem, *]) rfl ⟨_, _, _, by rw [HR1.out, HV1.out, no_ne HNE.out]; rfl, by rw [HV1.out]; exact own_none _ _, below_put3 HB1.out _ (by omega) _ _ _⟩
end Go.Proofs.YtelkfnphollkaacDoor
/- A topology that came in: its number of switches, its links, its hosts. -/
namespace Go.Proofs.YtelkfnphollkaacDoor
open Go.ChangeShapes Go.WideShapes Go.ChangeAt Go.RowKit Go.Joins
set_option linter.unusedSimpArgs false
set_option linter.unusedVariables false
set_option maxRecDepth 100000

section
variable {P : Program} {α : Type} {E : Enc α}
set_option maxRecDepth 100000 in
/-- A cell that reads as a slice lies where it says. -/
theorem gs_open {H : Type} {enc : TypeId × Value → H} {W : World} {fuel : Nat} {cs : List Value} {x : DataW H × List MemPlace} (ts te : TypeId) (hu : P.underlying ts = some (.slice te)) (hC : P.cellsOf te = E.n) (x0 : α)
    (hel : ∀ (n : Nat) (cs : List Value) (x : DataW H × List MemPlace), DataW.trod enc P W 0 (fun _ => true) true n te cs = some x → ∃ y, cs = E.c y)
    (hf2 : DataW.trod enc P W 0 (fun _ => true) true fuel ts cs = some x) : ∃ ao n cap L, cs = [.slice ao n cap] ∧ GS E W (.slice ao n cap) L := by
  obtain ⟨d, p⟩ := x
  rcases Go.Deep.open_slice hu hf2 with ⟨hc, hx⟩ | ⟨a, len0, cap, m, k, D, Pl, hc, _, hl, hm, hmm, hx, hall⟩
  · exact ⟨_, _, _, [], hc, .inl ⟨none, 0, rfl, rfl⟩⟩
  · simp only [if_true] at hmm
    subst hmm
    rcases Nat.eq_zero_or_pos len0 with h0 | h0
    · subst h0
      exact ⟨_, _, _, [], hc, .inl ⟨_, _, rfl, rfl⟩⟩
    · have each : ∀ i, i < m → ∃ y : α, ∀ j, j < E.n → W.cell? (a.add (i * E.n + j)) = (E.c y)[j]? := by
        intro i hi
        obtain ⟨cs, h1, h2⟩ := hall i hi
        rw [hC] at h1
        obtain ⟨_, hlen, hcell⟩ := World.cells?_some h1
        obtain ⟨y, rfl⟩ := hel _ _ _ h2
        refine ⟨y, fun j hj => ?_⟩
        have := hcell j (by omega)
        rw [Go.Deep.add_add] at this
        exact this
      have iR : Inhabited α := ⟨x0⟩
      obtain ⟨R, hR⟩ := Go.Deep.choose_lt each
      obtain ⟨sb, so, spot⟩ := a
      have hspot : spot = none := by
        have h1 := hR 0 (by omega) 0 E.pos
        have h2 : (E.c (R 0))[0]?.isSome = true := by
          rw [List.getElem?_eq_getElem (by rw [E.len]; exact E.pos)]
          rfl
        obtain ⟨u, hu2⟩ := Option.isSome_iff_exists.1 h2
        rw [hu2] at h1
        simpa [Addr.add] using World.cell?_spot h1
      subst hspot
      have hadd : ∀ j, (⟨sb, so, none⟩ : Addr).add j = ⟨sb, so + j, none⟩ := by
        intro j
        simp only [Addr.add]
        first
          | rfl
          | (split
             · next h0 => rw [h0]; rfl
             · rfl)
      refine ⟨_, _, _, (List.range len0).map R, hc, .inr ⟨sb, so, _, by simp, by simpa using hl, hm, fun i hi j u hu2 => ?_⟩⟩
      have hi2 : i < len0 := by simpa using hi
      have e : ((List.range len0).map R)[i] = R i := by simp
      rw [e] at hu2
      have hj : j < E.n := by
        have := (List.getElem?_eq_some_iff.1 hu2).1
        rw [E.len] at this
        exact this
      have hc := hR i (by omega) j hj
      rw [hadd, hu2, ← Nat.add_assoc] at hc
      exact hc
end
set_option maxRecDepth 100000 in
/-- One that came in. -/
theorem topo_open {H : Type} {enc : TypeId × Value → H} {W : World} {n : Nat} {cs : List Value} {x : DataW H × List MemPlace}
    (h : DataW.trod enc Tryd.prog W 0 (fun _ => true) true n 25 cs = some x) : ∃ S ao n cap ao2 n2 cap2 Ls Hs, cs = [.int .i64 S, .slice ao n cap, .slice ao2 n2 cap2] ∧ GS lnkE W (.slice ao n cap) Ls ∧ GS hstE W (.slice ao2 n2 cap2) Hs := by
  obtain ⟨xs, k, _, _, hl, hlen, hf⟩ := DataW.trod_struct Tryd.underlying25 h
  have hC : Tryd.prog.cellsOf 25 = 3 := by kernel_rfl
  have hT0 : Tryd.prog.cellsOf 3 = 1 := by kernel_rfl
  have hT1 : Tryd.prog.cellsOf 22 = 1 := by kernel_rfl
  have hT2 : Tryd.prog.cellsOf 23 = 1 := by kernel_rfl
  rw [hC] at hl
  match cs, hl with
  | [c0, c1, c2], _ =>
    match xs, hlen with
    | [z0, z1, z2], _ =>
      have g0 := hf 0 _ rfl
      have g1 := hf 1 _ rfl
      have g2 := hf 2 _ rfl
      simp [hT0, hT1, hT2] at g0 g1 g2
      obtain ⟨v0, e0, _, _⟩ := DataW.trod_int Tryd.underlying3 g0
      obtain ⟨ao, n, cap, Ls, e1, hL⟩ := gs_open (E := lnkE) 22 83 Tryd.underlying22 (by kernel_rfl) ((0, 0), (0, 0)) (fun _ _ _ h => lnk_open h) g1
      obtain ⟨ao2, n2, cap2, Hs, e2, hH⟩ := gs_open (E := hstE) 23 38 Tryd.underlying23 (by kernel_rfl) (ByteArray.empty, (0, 0)) (fun _ _ _ h => hst_open h) g2
      simp at e0 e1 e2
      exact ⟨v0, ao, n, cap, ao2, n2, cap2, Ls, Hs, by simp [e0, e1, e2], hL, hH⟩
theorem topo_of {H : Type} {enc : TypeId × Value → H} {W : World} {base : Nat} {v : Value} {d : DataW H} {p : List MemPlace}
    (hv : Value.okWide Tryd.prog W .any base 25 v) (h : DataW.Trod enc Tryd.prog W 0 (fun _ => true) true 25 v d p) : ∃ S ao n cap ao2 n2 cap2 Ls Hs, v = .agg #[.int .i64 S, .slice ao n cap, .slice ao2 n2 cap2] ∧ GS lnkE W (.slice ao n cap) Ls ∧ GS hstE W (.slice ao2 n2 cap2) Hs := by
  obtain ⟨cs, rfl, hsz⟩ := okWide_struct Tryd.underlying25 hv
  obtain ⟨n, hn⟩ := h
  obtain ⟨S, ao, n, cap, ao2, n2, cap2, Ls, Hs, e, h1, h2⟩ := topo_open hn
  refine ⟨S, ao, n, cap, ao2, n2, cap2, Ls, Hs, ?_, h1, h2⟩
  simp only [Value.cells] at e
  rw [← Array.toArray_toList (xs := cs), e]
end Go.Proofs.YtelkfnphollkaacDoor
/- What raillaw4.line answers: a contract for the walks above it. -/
namespace Go.Proofs.YtelkfnphollkaacDoor
open Go.RowKit
set_option linter.unusedSimpArgs false
set_option linter.unusedVariables false

/-- What holds all along: the answer's block, the topology's box, the links. -/
structure LN (w W : World) (n : Int) (v u : Value) (k : Nat) : Prop where
  below : Below w.heap.size w W
  r0 : W.cell? ⟨w.heap.size, 0, none⟩ = some (.int .i64 0)
  r1 : W.cell? ⟨w.heap.size, 1, none⟩ = some (.slice none 0 0)
  r2 : W.cell? ⟨w.heap.size, 2, none⟩ = some (.slice none 0 0)
  rf : ∀ i, W.frozen? ⟨w.heap.size, i, none⟩ = false
  c0 : W.cell? ⟨w.heap.size + 1, 0, none⟩ = some (.int .i64 n)
  c1 : W.cell? ⟨w.heap.size + 1, 1, none⟩ = some v
  c2 : W.cell? ⟨w.heap.size + 1, 2, none⟩ = some u
  cf : ∀ i, W.frozen? ⟨w.heap.size + 1, i, none⟩ = false
  lt : w.heap.size + 2 ≤ W.heap.size
  own : W.ownsRow (w.heap.size + 2) 83 4 v (lnTo k).length (cellsG lnkE (lnTo k))
theorem LN.low {w W W' : World} {n : Int} {v u : Value} {k : Nat} (h : LN w W n v u k) (hb : Below (w.heap.size + 2) W W') {v' : Value} {k' : Nat} (hv : v' = v) (ho : W'.ownsRow (w.heap.size + 2) 83 4 v' (lnTo k').length (cellsG lnkE (lnTo k'))) : LN w W' n v u k' := by
  subst hv
  have hc : ∀ (g i : Nat) (x : Value), g < w.heap.size + 2 → W.cell? ⟨g, i, none⟩ = some x → W'.cell? ⟨g, i, none⟩ = some x := fun g i x hg e => (hb.cell (p := ⟨g, i, none⟩) hg).trans e
  have hf : ∀ (g i : Nat), g < w.heap.size + 2 → W.frozen? ⟨g, i, none⟩ = false → W'.frozen? ⟨g, i, none⟩ = false := fun g i hg e => (hb.frozen (p := ⟨g, i, none⟩) hg).trans e
  exact ⟨h.below.trans (hb.mono (by omega)), hc _ _ _ (by omega) h.r0, hc _ _ _ (by omega) h.r1, hc _ _ _ (by omega) h.r2, fun i => hf _ _ (by omega) (h.rf i), hc _ _ _ (by omega) h.c0, hc _ _ _ (by omega) h.c1, hc _ _ _ (by omega) h.c2, fun i => hf _ _ (by omega) (h.cf i), Nat.le_trans h.lt hb.size, ho⟩
theorem LN.put1 {w W W2 : World} {n : Int} {v u v' : Value} {k : Nat} (h : LN w W n v u k) (hb : Below (w.heap.size + 2) W W2) (ho : W2.ownsRow (w.heap.size + 2) 83 4 v' (lnTo (k + 1)).length (cellsG lnkE (lnTo (k + 1)))) : LN w (W2.setCell ⟨w.heap.size + 1, 1, none⟩ v') n v' u (k + 1) := by
  have hc : ∀ (g i : Nat) (x : Value), g < w.heap.size + 2 → ¬ (g = w.heap.size + 1 ∧ i = 1) → W.cell? ⟨g, i, none⟩ = some x → (W2.setCell ⟨w.heap.size + 1, 1, none⟩ v').cell? ⟨g, i, none⟩ = some x := fun g i x hg hn e => by
    rw [World.cell?_setCell_other _ _ _ _ (fun e2 => by simp only [Addr.mk.injEq, and_true] at e2; exact hn ⟨e2.1.symm, e2.2.symm⟩)]
    exact (hb.cell (p := ⟨g, i, none⟩) hg).trans e
  have hf : ∀ (g i : Nat), g < w.heap.size + 2 → W.frozen? ⟨g, i, none⟩ = false → (W2.setCell ⟨w.heap.size + 1, 1, none⟩ v').frozen? ⟨g, i, none⟩ = false := fun g i hg e => by
    have h2 := (hb.frozen (p := ⟨g, i, none⟩) hg).trans e
    simpa using h2
  have h1 := (hb.cell (p := ⟨w.heap.size + 1, 1, none⟩) (by simp)).trans h.c1
  exact ⟨(h.below.trans (hb.mono (by omega))).setCell (p := ⟨w.heap.size + 1, 1, none⟩) (by simp) _, hc _ _ _ (by omega) (by omega) h.r0, hc _ _ _ (by omega) (by omega) h.r1, hc _ _ _ (by omega) (by omega) h.r2, fun i => hf _ _ (by omega) (h.rf i), hc _ _ _ (by omega) (by omega) h.c0, World.cell?_setCell_same _ _ _ h1, hc _ _ _ (by omega) (by omega) h.c2, fun i => hf _ _ (by omega) (h.cf i), by
    have := h.lt
    have h3 := hb.size
    simp
    omega, ownsRow_setCell_below ho (by simp) _⟩
theorem LN.put2 {w W W2 : World} {n : Int} {v u u' : Value} {k : Nat} (h : LN w W n v u k) (hb : Below (w.heap.size + 2) W W2) (ho : W2.ownsRow (w.heap.size + 2) 83 4 v (lnTo k).length (cellsG lnkE (lnTo k))) : LN w (W2.setCell ⟨w.heap.size + 1, 2, none⟩ u') n v u' k := by
  have hc : ∀ (g i : Nat) (x : Value), g < w.heap.size + 2 → ¬ (g = w.heap.size + 1 ∧ i = 2) → W.cell? ⟨g, i, none⟩ = some x → (W2.setCell ⟨w.heap.size + 1, 2, none⟩ u').cell? ⟨g, i, none⟩ = some x := fun g i x hg hn e => by
    rw [World.cell?_setCell_other _ _ _ _ (fun e2 => by simp only [Addr.mk.injEq, and_true] at e2; exact hn ⟨e2.1.symm, e2.2.symm⟩)]
    exact (hb.cell (p := ⟨g, i, none⟩) hg).trans e
  have hf : ∀ (g i : Nat), g < w.heap.size + 2 → W.frozen? ⟨g, i, none⟩ = false → (W2.setCell ⟨w.heap.size + 1, 2, none⟩ u').frozen? ⟨g, i, none⟩ = false := fun g i hg e => by
    have h2 := (hb.frozen (p := ⟨g, i, none⟩) hg).trans e
    simpa using h2
  have h1 := (hb.cell (p := ⟨w.heap.size + 1, 2, none⟩) (by simp)).trans h.c2
  exact ⟨(h.below.trans (hb.mono (by omega))).setCell (p := ⟨w.heap.size + 1, 2, none⟩) (by simp) _, hc _ _ _ (by omega) (by omega) h.r0, hc _ _ _ (by omega) (by omega) h.r1, hc _ _ _ (by omega) (by omega) h.r2, fun i => hf _ _ (by omega) (h.rf i), hc _ _ _ (by omega) (by omega) h.c0, hc _ _ _ (by omega) (by omega) h.c1, World.cell?_setCell_same _ _ _ h1, fun i => hf _ _ (by omega) (h.cf i), by
    have := h.lt
    have h3 := hb.size
    simp
    omega, ownsRow_setCell_below ho (by simp) _⟩
theorem ln_start (w : World) (n : Int) (w0 : World) (hw : (w.alloc (Obj.cells #[.int .i64 0, .slice none 0 0, .slice none 0 0] 25)).alloc (Obj.cells #[.int .i64 n, .slice none 0 0, .slice none 0 0] 25) = w0) : LN w w0 n (.slice none 0 0) (.slice none 0 0) 0 := by
  subst hw
  have e1 : (w.alloc (Obj.cells #[.int .i64 0, .slice none 0 0, .slice none 0 0] 25)).heap.size = w.heap.size + 1 := by simp
  have hb : ∀ (W : World) (o : Obj), Below W.heap.size W (W.alloc o) := fun W o => (Below.refl _ _).alloc (Nat.le_refl _) _
  have hr := (vat_new w [.int .i64 0, .slice none 0 0, .slice none 0 0] 25).later (hb _ (Obj.cells #[.int .i64 n, .slice none 0 0, .slice none 0 0] 25))
  have hs := vat_new (w.alloc (Obj.cells #[.int .i64 0, .slice none 0 0, .slice none 0 0] 25)) [.int .i64 n, .slice none 0 0, .slice none 0 0] 25
  have hg : ∀ (W : World) (cs : Array Value) (t : TypeId) (i : Nat), (W.alloc (.cells cs t)).frozen? ⟨W.heap.size, i, none⟩ = false := fun W cs t i => by simp
  have hf2 := hg (w.alloc (Obj.cells #[.int .i64 0, .slice none 0 0, .slice none 0 0] 25)) #[.int .i64 n, .slice none 0 0, .slice none 0 0] 25
  rw [e1] at hs hf2
  refine ⟨((Below.refl _ _).alloc (Nat.le_refl _) _).alloc (by rw [e1]; omega) _, hr 0 _ rfl, hr 1 _ rfl, hr 2 _ rfl, fun i => ?_, hs 0 _ rfl, hs 1 _ rfl, hs 2 _ rfl, hf2, by simp, World.ownsRow_nil _ _ _ _⟩
  exact ((hb _ _).frozen (p := ⟨w.heap.size, i, none⟩) (by simp)).trans (hg w _ _ i)

theorem ln_apart {w : World} {b1 e1 s1 n1 b2 e2 s2 n2 : Nat} {v1 v2 : Value} {x1 x2 : List Value} (h1 : w.ownsRow b1 e1 s1 v1 n1 x1) (h2 : w.ownsRow b2 e2 s2 v2 n2 x2) (he : e1 ≠ e2) : v1.ownBlock = none ∨ v1.ownBlock ≠ v2.ownBlock := by
  rcases h1.2 with ⟨rfl, _⟩ | ⟨g, cap, cur, rfl, _, hg, _⟩
  · exact .inl rfl
  · refine .inr ?_
    rcases h2.2 with ⟨rfl, _⟩ | ⟨g2, cap2, cur2, rfl, _, hg2, _⟩
    · exact fun h => by cases h
    · intro h
      simp only [Value.ownBlock, Option.some.injEq] at h
      subst h
      rw [hg] at hg2
      simp only [Option.some.injEq, Obj.cells.injEq] at hg2
      exact he hg2.2.1
/-- Three cells of one block are set. -/
def set3 (W : World) (g : Nat) (u v x : Value) : World := ((W.setCell ⟨g, 0, none⟩ u).setCell ⟨g, 1, none⟩ v).setCell ⟨g, 2, none⟩ x
theorem below3 {w W : World} (h : Below w.heap.size w W) (g : Nat) (hg : w.heap.size ≤ g) (u v x : Value) : Below w.heap.size w (set3 W g u v x) := ((h.setCell (p := ⟨g, 0, none⟩) hg u).setCell (p := ⟨g, 1, none⟩) hg v).setCell (p := ⟨g, 2, none⟩) hg x
theorem own_set3 {W : World} {B e size n : Nat} {v : Value} {xs : List Value} (h : W.ownsRow B e size v n xs) (g : Nat) (hg : g < B) (a b c : Value) : (set3 W g a b c).ownsRow B e size v n xs := ownsRow_setCell_below (ownsRow_setCell_below (ownsRow_setCell_below h hg _) hg _) hg _

set_option maxHeartbeats 2000000 in
set_option maxRecDepth 100000 in
theorem line_any (N : Nat) (w : World) (h1 : 1 ≤ N) (h7 : N ≤ 7) :
    Calls Tryd.prog 22 #[.int .i64 (N : Int)] w fun e w' => ∃ ao n cap ao2 n2 cap2, e = .returned (.agg #[.int .i64 (N : Int), .slice ao n cap, .slice ao2 n2 cap2]) ∧ GS lnkE w' (.slice ao n cap) (lnTo (N - 1)) ∧ GS hstE w' (.slice ao2 n2 cap2) (lnH (N : Int)) ∧ Below w.heap.size w w' := by
  obtain ⟨i0, hi, hz0, hz1, hz2⟩ := info_parts lnk_info
  obtain ⟨j0, hj, hy0, hy1, hy2⟩ := info_parts hst_info
  obtain ⟨wa, hwa⟩ : ∃ W, w.alloc (Obj.cells #[.int .i64 0, .slice none 0 0, .slice none 0 0] 25) = W := ⟨_, rfl⟩
  obtain ⟨w0, hw0⟩ : ∃ W, wa.alloc (Obj.cells #[.int .i64 (N : Int), .slice none 0 0, .slice none 0 0] 25) = W := ⟨_, rfl⟩
  have HS : Hid (LN w w0 (N : Int) (.slice none 0 0) (.slice none 0 0) 0) := ln_start w _ w0 (by rw [hwa]; exact hw0)
  have HSZ : Hid (wa.heap.size = w.heap.size + 1) := by
    show _ = _
    rw [← hwa]
    simp
  have HW0 : Hid (wa.alloc (Obj.cells #[.int .i64 (N : Int), .slice none 0 0, .slice none 0 0] 25) = w0) := hw0
  clear hw0
  go_enter Tryd.func22, Tryd.ntmps22
  go_wp2
  rw [HW0.out, HSZ.out]
  go_loopw [4] (fun i wr => ∃ (k : Nat) (v : Value), k + 1 ≤ N ∧ i = .int .i64 ((k : Int) + 1) ∧ LN w wr (N : Int) v (.slice none 0 0) k) (fun i _ => N - (intOf i).toNat)
  case atStart => exact ⟨0, _, h1, rfl, HS.out⟩
  case round =>
    obtain ⟨k, v, hk, rfl, hL⟩ := hrel
    have HL : Hid (LN w wr (N : Int) v (.slice none 0 0) k) := hL
    obtain ⟨_, r0, r1, r2, rf, c0, c1, c2, cf, hlt, hown⟩ := hL
    have f1 := cf 1
    have f2 := cf 2
    clear HS HW0 hwa
    by_cases hlt2 : k + 1 < N
    · have hl : (k : Int) + 1 < (N : Int) := by omega
      have hw2 : IntKind.i64.wrap ((k : Int) + 1 + 1) = (k : Int) + 1 + 1 := wrap_small (by omega) (by omega)
      have hlen := ln_len k
      have HOWN : Hid (wr.ownsRow (w.heap.size + 2) 83 4 v (lnTo k).length (cellsG lnkE (lnTo k))) := hown
      clear hown rf cf
      go_wp2_with (at_builtin; refine wpList_append_own _ rfl _ _ 22 rfl (w.heap.size + 2) 83 i0 (.agg #[.int .i64 0, .int .i64 0, .int .i64 0, .int .i64 0]) 4 32 Tryd.underlying22 hi hz0 hz1 hz2 lnk_zero (by decide) _ _ _ rfl (HOWN.out.alloc _) ⟨wr.heap.size, 0, none⟩ 1 1 [.int .i64 ((k : Int) + 1), .int .i64 2, .int .i64 ((k : Int) + 1 + 1), .int .i64 1] rfl rfl ?c1 ?c2 ?c3 ?c4 ?c5 ?_)
      case c1 =>
        intro j u hj
        match j, hj with
        | 0, hj => simp at hj; subst hj; simp [Addr.add]
        | 1, hj => simp at hj; subst hj; simp [Addr.add]
        | 2, hj => simp at hj; subst hj; simp [Addr.add]
        | 3, hj => simp at hj; subst hj; simp [Addr.add]
      case c2 => intro u hu; simp at hu; rcases hu with rfl | rfl | rfl | rfl <;> rfl
      case c3 => unfold maxLen; omega
      case c4 => omega
      case c5 => simp; omega
      intro v' w3 hown3 hgrow _
      obtain ⟨ao3, cap3, rfl⟩ := own_form hown3
      have hb3 : Below (w.heap.size + 2) wr w3 := ((Below.refl _ wr).alloc (by omega) _).grown hgrow (by simp; omega) (fun g hg => (HOWN.out.lt g hg).1)
      have HN : Hid (LN w (w3.setCell ⟨w.heap.size + 1, 1, none⟩ (.slice ao3 (k + 1) cap3)) (N : Int) (.slice ao3 (k + 1) cap3) (.slice none 0 0) (k + 1)) := by
        refine HL.out.put1 hb3 ?_
        have e : lnTo (k + 1) = lnTo k ++ [(((k : Int) + 1, 2), ((k : Int) + 1 + 1, 1))] := rfl
        rw [ln_len, e, cellsG_app, cellsG_one]
        have h3 := hown3
        try rw [ln_len] at h3
        exact h3
      have d1 := (hb3.cell (p := ⟨w.heap.size + 1, 1, none⟩) (by simp)).trans c1
      have d0 := (hb3.cell (p := ⟨w.heap.size + 1, 0, none⟩) (by simp)).trans c0
      have g1 := (hb3.frozen (p := ⟨w.heap.size + 1, 1, none⟩) (by simp)).trans f1
      clear hb3 hgrow hown3
      go_wp2
      go_roundw
      case rel => exact ⟨k + 1, _, by omega, by go_num, HN.out⟩
      case measure => simp [intOf]; omega
    · obtain rfl : N = k + 1 := by omega
      have hl : ¬ ((k : Int) + 1 < ((k + 1 : Nat) : Int)) := by omega
      have HOWN : Hid (wr.ownsRow (w.heap.size + 2) 83 4 v (lnTo k).length (cellsG lnkE (lnTo k))) := hown
      clear hown rf cf
      go_wp2_with (at_builtin; refine wpList_append_own _ rfl _ _ 23 rfl (w.heap.size + 2) 38 j0 (.agg #[.string ByteArray.empty, .int .i64 0, .int .i64 0]) 3 32 Tryd.underlying23 hj hy0 hy1 hy2 hst_zero (by decide) _ _ _ rfl (World.ownsRow_nil _ _ _ _) ⟨wr.heap.size, 0, none⟩ 1 1 [.string ⟨#[97]⟩, .int .i64 1, .int .i64 3] rfl rfl ?c1 ?c2 ?c3 ?c4 ?c5 ?_)
      case c2 => first | exact ⟨rfl, rfl, rfl⟩ | (intro u hu; simp at hu; rcases hu with rfl | rfl | rfl <;> rfl)
      case c3 => unfold maxLen; omega
      case c5 => first | omega | (simp; omega)
      intro v3 w3 hown3 hgrow _
      obtain ⟨ao3, cap3, rfl⟩ := own_form hown3
      have hb3 : Below (w.heap.size + 2) wr w3 := ((Below.refl _ wr).alloc (by omega) _).grown hgrow (by simp; omega) (fun g hg => by cases hg)
      have hk3 : w3.ownsRow (w.heap.size + 2) 83 4 v (lnTo k).length (cellsG lnkE (lnTo k)) := (HOWN.out.alloc _).kept hgrow (by cases hv : v.ownBlock <;> simp [Value.ownBlock])
      have hN3 : LN w (w3.setCell ⟨w.heap.size + 1, 2, none⟩ (.slice ao3 1 cap3)) ((k + 1 : Nat) : Int) v (.slice ao3 1 cap3) k := HL.out.put2 hb3 hk3
      have hO3 : (w3.setCell ⟨w.heap.size + 1, 2, none⟩ (.slice ao3 1 cap3)).ownsRow (w.heap.size + 2) 38 3 (.slice ao3 1 cap3) 1 [.string ⟨#[97]⟩, .int .i64 1, .int .i64 3] := ownsRow_setCell_below hown3 (by simp) _
      have d2 := (hb3.cell (p := ⟨w.heap.size + 1, 2, none⟩) (by simp)).trans c2
      have g2 := (hb3.frozen (p := ⟨w.heap.size + 1, 2, none⟩) (by simp)).trans f2
      obtain ⟨w4, hw4⟩ : ∃ W, w3.setCell ⟨w.heap.size + 1, 2, none⟩ (.slice ao3 1 cap3) = W := ⟨_, rfl⟩
      rw [hw4] at hN3 hO3
      have HN3 : Hid (LN w w4 ((k + 1 : Nat) : Int) v (.slice ao3 1 cap3) k) := hN3
      have HO3 : Hid (w4.ownsRow (w.heap.size + 2) 38 3 (.slice ao3 1 cap3) 1 [.string ⟨#[97]⟩, .int .i64 1, .int .i64 3]) := hO3
      have HW4 : Hid (w3.setCell ⟨w.heap.size + 1, 2, none⟩ (.slice ao3 1 cap3) = w4) := hw4
      have e2 := hN3.c2
      have f2' := hN3.cf 2
      have hlt4 := hN3.lt
      clear hb3 hk3 hN3 hO3 hgrow hown3 hw4 r0 r1 r2 c0 c1 c2 f1 f2 HOWN
      go_upto_region 7 with fail
      rw [HW4.out]
      clear d2 g2
      go_wp2_with (at_builtin; refine wpList_append_own _ rfl _ _ 23 rfl (w.heap.size + 2) 38 j0 (.agg #[.string ByteArray.empty, .int .i64 0, .int .i64 0]) 3 32 Tryd.underlying23 hj hy0 hy1 hy2 hst_zero (by decide) _ _ _ rfl (HO3.out.alloc _) ⟨w4.heap.size, 0, none⟩ 1 1 [.string ⟨#[98]⟩, .int .i64 ((k : Int) + 1), .int .i64 4] rfl rfl ?m1 ?m2 ?m3 ?m4 ?m5 ?_)
      case m1 =>
        intro j u hj
        match j, hj with
        | 0, hj => simp at hj; subst hj; simp [Addr.add]
        | 1, hj => simp at hj; subst hj; simp [Addr.add]
        | 2, hj => simp at hj; subst hj; simp [Addr.add]
      case m2 => intro u hu; simp at hu; rcases hu with rfl | rfl | rfl <;> rfl
      case m3 => unfold maxLen; omega
      case m4 => omega
      case m5 => simp; omega
      intro v5 w5 hown5 hgrow5 _
      obtain ⟨ao5, cap5, rfl⟩ := own_form hown5
      have hb5 : Below (w.heap.size + 2) w4 w5 := ((Below.refl _ w4).alloc (by omega) _).grown hgrow5 (by simp; omega) (fun g hg => (HO3.out.lt g hg).1)
      have hk5 : w5.ownsRow (w.heap.size + 2) 83 4 v (lnTo k).length (cellsG lnkE (lnTo k)) := (HN3.out.own.alloc _).kept hgrow5 (ln_apart HN3.out.own HO3.out (by decide))
      have hN5 : LN w (w5.setCell ⟨w.heap.size + 1, 2, none⟩ (.slice ao5 2 cap5)) ((k + 1 : Nat) : Int) v (.slice ao5 2 cap5) k := HN3.out.put2 hb5 hk5
      have hO5 : (w5.setCell ⟨w.heap.size + 1, 2, none⟩ (.slice ao5 2 cap5)).ownsRow (w.heap.size + 2) 38 3 (.slice ao5 2 cap5) (lnH ((k + 1 : Nat) : Int)).length (cellsG hstE (lnH ((k + 1 : Nat) : Int))) := ownsRow_setCell_below hown5 (by simp) _
      have d2 := (hb5.cell (p := ⟨w.heap.size + 1, 2, none⟩) (by simp)).trans e2
      have g2 := (hb5.frozen (p := ⟨w.heap.size + 1, 2, none⟩) (by simp)).trans f2'
      obtain ⟨w6, hw6⟩ : ∃ W, w5.setCell ⟨w.heap.size + 1, 2, none⟩ (.slice ao5 2 cap5) = W := ⟨_, rfl⟩
      rw [hw6] at hN5 hO5
      have HN5 : Hid (LN w w6 ((k + 1 : Nat) : Int) v (.slice ao5 2 cap5) k) := hN5
      have HGH : Hid (∀ a b c, GS hstE (set3 w6 w.heap.size a b c) (.slice ao5 2 cap5) (lnH ((k + 1 : Nat) : Int))) := fun a b c => own_GS (own_set3 hO5 _ (by omega) a b c)
      have HGL : Hid (∀ a b c, GS lnkE (set3 w6 w.heap.size a b c) v (lnTo k)) := fun a b c => own_GS (own_set3 hN5.own _ (by omega) a b c)
      have HW6 : Hid (w5.setCell ⟨w.heap.size + 1, 2, none⟩ (.slice ao5 2 cap5) = w6) := hw6
      obtain ⟨aoL, capL, hvL⟩ := own_form hN5.own
      have HVL : Hid (v = .slice aoL (lnTo k).length capL) := hvL
      clear hb5 hk5 hN5 hO5 hgrow5 hown5 hw6 e2 f2' HN3 HO3 hvL
      go_upto_region 8 with fail
      rw [HW6.out]
      obtain ⟨hB6, r0, r1, r2, rf, c0, c1, c2, _, hlt6, _⟩ := HN5.out
      rw [HVL.out] at c1
      have rf0 := rf 0
      have rf1 := rf 1
      have rf2 := rf 2
      have HB6 : Hid (Below w.heap.size w w6) := hB6
      clear d2 g2 rf hB6 HW6
      go_wp2
      have e0 : k + 1 - 1 = k := by omega
      refine bodyPost_ret (v := .agg #[.int .i64 ((k + 1 : Nat) : Int), .slice aoL (lnTo k).length capL, .slice ao5 2 cap5]) (by simp [results, Tryd.results22, go_sem, *]) rfl ⟨aoL, _, capL, ao5, 2, cap5, rfl, ?_, ?_, below3 HB6.out _ (Nat.le_refl _) _ _ _⟩
      · rw [e0, ← HVL.out]
        exact HGL.out _ _ _
      · exact HGH.out _ _ _
end Go.Proofs.YtelkfnphollkaacDoor
/- What errors.As, plain.Told and railsame.Error answer for no error and for an Errno: contracts for the walks above them. -/
namespace Go.Proofs.YtelkfnphollkaacDoor
open Go.RowKit Go.Extern.Stop Go.Stop Go.Extern
set_option linter.unusedSimpArgs false

/-- What package errors' variable holds: the handle of the type error. -/
def HasErr (w : World) : Prop := w.cell? ⟨0, 0, none⟩ = some (.iface 154 (.agg #[.pointer (some ⟨1, 31, none⟩)]))
theorem HasErr.later {w w' : World} (h : HasErr w) (hb : Below w.heap.size w w') : HasErr w' := cell_later hb h
theorem HasErr.alloc {w : World} (h : HasErr w) (o : Obj) : HasErr (w.alloc o) := h.later ((Below.refl _ _).alloc (Nat.le_refl _) _)

theorem vOfP (t : Addr) (w : World) : (ReflectliteValue.unpack (.iface 117 (.pointer (some t)))).run Tryd.prog w
    = .ok (.agg #[.pointer (some ⟨1, 117, none⟩), .pointer (some ⟨w.heap.size, 0, none⟩), .int .u64 150]) (w.alloc (.cells #[.pointer (some t)] 117)) := by kernel_rfl
theorem typeP (a : Addr) (w : World) : (ReflectliteValue.methodAny (ReflectliteValue.valueError "reflectlite.Value.Type" 0) (fun t _ _ _ => ReflectliteType.toType t) #[.agg #[.pointer (some ⟨1, 117, none⟩), .pointer (some a), .int .u64 150]]).run Tryd.prog w
    = .ok (.iface 154 (.agg #[.pointer (some ⟨1, 117, none⟩)])) w := by kernel_rfl
theorem methKind (h : Value) (w : World) : (Go.method 301 154 (.agg #[h]) "Kind").run Tryd.prog w = .ok (112, h) w := by kernel_rfl
theorem kindP (w : World) : ((ReflectliteType.abiMethod fun t => Functor.map (fun a : Nat => Value.int IntKind.u8 (a : Int)) (Rtype.kind t)) #[.pointer (some ⟨1, 117, none⟩)]).run Tryd.prog w = .ok (.int .u8 22) w := by kernel_rfl
theorem kindE (w : World) : ((ReflectliteType.abiMethod fun t => Functor.map (fun a : Nat => Value.int IntKind.u8 (a : Int)) (Rtype.kind t)) #[.pointer (some ⟨1, 85, none⟩)]).run Tryd.prog w = .ok (.int .u8 2) w := by kernel_rfl
theorem partsP (a : Addr) (w : World) : (ReflectliteValue.parts (.agg #[.pointer (some ⟨1, 117, none⟩), .pointer (some a), .int .u64 150])).run Tryd.prog w = .ok (some (117, a, 150)) w := by kernel_rfl
theorem isNilP (a p : Addr) (W : World) (ha : W.cell? a = some (.pointer (some p))) :
    (ReflectliteValue.method (ReflectliteValue.valueError "reflectlite.Value.IsNil" 0) ReflectliteValue.isNil #[.agg #[.pointer (some ⟨1, 117, none⟩), .pointer (some a), .int .u64 150]]).run Tryd.prog W = .ok (.bool false) W := by
  change Sem.run _ (ReflectliteValue.parts (.agg #[.pointer (some ⟨1, 117, none⟩), .pointer (some a), .int .u64 150]) >>= _) _ = _
  rw [Sem.run_bind, partsP]
  simp only [Result.andThen]
  simp [ReflectliteValue.isNil, loadVar, isAgg, underlying, Tryd.underlying117, ha, Result.andThen]
theorem methElem (h : Value) (w : World) : (Go.method 301 154 (.agg #[h]) "Elem").run Tryd.prog w = .ok (122, .agg #[h]) w := by kernel_rfl
theorem methImpl (h : Value) (w : World) : (Go.method 301 154 (.agg #[h]) "Implements").run Tryd.prog w = .ok (123, .agg #[h]) w := by kernel_rfl
theorem methAssign (h : Value) (w : World) : (Go.method 301 154 (.agg #[h]) "AssignableTo").run Tryd.prog w = .ok (120, .agg #[h]) w := by kernel_rfl
theorem elemP (w : World) : (ReflectliteType.method ReflectliteType.elem #[.agg #[.pointer (some ⟨1, 117, none⟩)]]).run Tryd.prog w = .ok (.iface 154 (.agg #[.pointer (some ⟨1, 85, none⟩)])) w := by kernel_rfl
theorem implE (w : World) : (ReflectliteType.relation "Implements" ReflectliteType.implements_ #[.agg #[.pointer (some ⟨1, 85, none⟩)], .iface 154 (.agg #[.pointer (some ⟨1, 31, none⟩)])]).run Tryd.prog w = .ok (.bool true) w := by kernel_rfl
theorem typeOfE (v : Value) (w : World) : (ReflectliteType.typeOf #[.iface 85 v]).run Tryd.prog w = .ok (.iface 154 (.agg #[.pointer (some ⟨1, 85, none⟩)])) w := by kernel_rfl
theorem assignE (w : World) : (ReflectliteType.relation "AssignableTo" ReflectliteType.assignableTo #[.agg #[.pointer (some ⟨1, 85, none⟩)], .iface 154 (.agg #[.pointer (some ⟨1, 85, none⟩)])]).run Tryd.prog w = .ok (.bool true) w := by kernel_rfl
theorem vOfE (n : Int) (w : World) : (ReflectliteValue.unpack (.iface 85 (.int .i64 n))).run Tryd.prog w
    = .ok (.agg #[.pointer (some ⟨1, 85, none⟩), .pointer (some ⟨w.heap.size, 0, none⟩), .int .u64 130]) (w.alloc (.cells #[.int .i64 n] 85)) := by kernel_rfl
theorem elemOfP (w : World) : (Rtype.elem? 117).run Tryd.prog w = .ok (some 85) w := by kernel_rfl
theorem mkE (p : Addr) (w : World) : (ReflectliteValue.mk 85 p ReflectliteValue.flagAddr).run Tryd.prog w = .ok (.agg #[.pointer (some ⟨1, 85, none⟩), .pointer (some p), .int .u64 386]) w := by kernel_rfl
theorem elemVP (a p : Addr) (W : World) (ha : W.cell? a = some (.pointer (some p))) :
    (ReflectliteValue.method (ReflectliteValue.valueError "reflectlite.Value.Elem" 0) ReflectliteValue.elem #[.agg #[.pointer (some ⟨1, 117, none⟩), .pointer (some a), .int .u64 150]]).run Tryd.prog W
      = .ok (.agg #[.pointer (some ⟨1, 85, none⟩), .pointer (some p), .int .u64 386]) W := by
  change Sem.run _ (ReflectliteValue.parts (.agg #[.pointer (some ⟨1, 117, none⟩), .pointer (some a), .int .u64 150]) >>= _) _ = _
  rw [Sem.run_bind, partsP]
  simp only [Result.andThen]
  simp [ReflectliteValue.elem, loadVar, isAgg, underlying, Tryd.underlying117, ha, Result.andThen, elemOfP, mkE]
theorem partsEa (a : Addr) (w : World) : (ReflectliteValue.parts (.agg #[.pointer (some ⟨1, 85, none⟩), .pointer (some a), .int .u64 386])).run Tryd.prog w = .ok (some (85, a, 386)) w := by kernel_rfl
theorem partsE (a : Addr) (w : World) : (ReflectliteValue.parts (.agg #[.pointer (some ⟨1, 85, none⟩), .pointer (some a), .int .u64 130])).run Tryd.prog w = .ok (some (85, a, 130)) w := by kernel_rfl
theorem directE (w : World) : (Rtype.directlyAssignable 85 85).run Tryd.prog w = .ok true w := by kernel_rfl
/-- Set: the Errno variable at 'ta' gets what the Value's own variable 'b' holds. -/
theorem setE (ta b : Addr) (n : Int) (old : Value) (W : World) (hb : W.cell? b = some (.int .i64 n)) (ht : W.cell? ta = some old) (hf : W.frozen? ta = false) :
    (ReflectliteValue.set #[.agg #[.pointer (some ⟨1, 85, none⟩), .pointer (some ta), .int .u64 386], .agg #[.pointer (some ⟨1, 85, none⟩), .pointer (some b), .int .u64 130]]).run Tryd.prog W
      = .ok (.tuple #[]) (W.setCell ta (.int .i64 n)) := by
  change Sem.run _ (ReflectliteValue.parts (.agg #[.pointer (some ⟨1, 85, none⟩), .pointer (some ta), .int .u64 386]) >>= _) _ = _
  rw [Sem.run_bind, partsEa]
  simp only [Result.andThen]
  change Sem.run _ (ReflectliteValue.parts (.agg #[.pointer (some ⟨1, 85, none⟩), .pointer (some b), .int .u64 130]) >>= _) _ = _
  rw [Sem.run_bind, partsE]
  simp only [Result.andThen]
  simp [ReflectliteValue.flagAddr, loadVar, isAgg, underlying, Tryd.underlying85, hb, Result.andThen, directE, storeVar, Value.cells, storeCells, Addr.add]
  rw [run_store Tryd.prog W ta _ _ (by rfl)]
  simp [ht, hf]
end Go.Proofs.YtelkfnphollkaacDoor
