/- What topo.Where answers: a contract for the walks above it. -/
import Derived.Test.YtfbocionnjlilacDoorTopoCheck
import Derived.Test.YtfbocionnjlilacDoorSlHost
namespace Go.Proofs.YtfbocionnjlilacDoor
open Go.RowKit
set_option linter.unusedSimpArgs false
set_option linter.unusedVariables false

set_option maxHeartbeats 1000000 in
set_option maxRecDepth 100000 in
theorem where1_any (n : ByteArray) (x0 x1 : Int) (B : Nat) (m : ByteArray) (w : World) (h0 : w.cell? ⟨B, 0, none⟩ = some (.string m)) :
    Calls Tryd.prog 42 #[.agg #[.string n, .int .i64 x0, .int .i64 x1], .pointer (some ⟨B, 0, none⟩)] w fun e w' => e = .returned (.bool (n == m)) ∧ Below w.heap.size w w' := by
  have hlt : B < w.heap.size := World.block_lt_of_cell? _ _ h0
  have HB0 : Hid (Below w.heap.size w (w.alloc (Obj.cells #[Value.string n, Value.int IntKind.i64 x0, Value.int IntKind.i64 x1] 38))) := (Below.refl _ _).alloc (Nat.le_refl _) _
  rw [beq_toListBytes]
  go_enter Tryd.func42, Tryd.ntmps42
  go_wp2
  go_ret
  exact ⟨rfl, HB0.out⟩
theorem where1_asks (B : Nat) (m : ByteArray) (w : World) (h0 : w.cell? ⟨B, 0, none⟩ = some (.string m)) : hstAsks w 42 (.pointer (some ⟨B, 0, none⟩)) (fun h => h.1 == m) :=
  fun n x0 x1 W hW => where1_any n x0 x1 B m W (cell_later hW h0)
/-- The three boxes of a call: a topology, a name, a spot. -/
def wbox (w : World) (S : Int) (v1 v2 : Value) (m : ByteArray) : World := ((w.alloc (Obj.cells #[.int .i64 S, v1, v2] 25)).alloc (Obj.cells #[.string m] 9)).alloc (Obj.cells #[.int .i64 0, .int .i64 0] 27)
structure WBox (w W : World) (S : Int) (v1 v2 : Value) (m : ByteArray) : Prop where
  below : Below w.heap.size w W
  t : TBox W w.heap.size S v1 v2
  s : W.cell? ⟨w.heap.size + 1, 0, none⟩ = some (.string m)
  r0 : W.cell? ⟨w.heap.size + 1 + 1, 0, none⟩ = some (.int .i64 0)
  r1 : W.cell? ⟨w.heap.size + 1 + 1, 1, none⟩ = some (.int .i64 0)
  f : ∀ i, W.frozen? ⟨w.heap.size + 1 + 1, i, none⟩ = false
theorem froz_new (w : World) (cs : Array Value) (t : TypeId) (k : Nat) : (w.alloc (.cells cs t)).frozen? ⟨w.heap.size, k, none⟩ = false := by simp
theorem wbox_new (w : World) (S : Int) (v1 v2 : Value) (m : ByteArray) : WBox w (wbox w S v1 v2 m) S v1 v2 m := by
  have e1 : (w.alloc (Obj.cells #[.int .i64 S, v1, v2] 25)).heap.size = w.heap.size + 1 := by simp
  have e2 : ((w.alloc (Obj.cells #[.int .i64 S, v1, v2] 25)).alloc (Obj.cells #[.string m] 9)).heap.size = w.heap.size + 1 + 1 := by simp
  have hb : ∀ (W : World) (o : Obj), Below W.heap.size W (W.alloc o) := fun W o => (Below.refl _ _).alloc (Nat.le_refl _) _
  have hs := (vat_new (w.alloc (Obj.cells #[.int .i64 S, v1, v2] 25)) [.string m] 9).later (hb _ (Obj.cells #[.int .i64 0, .int .i64 0] 27))
  rw [e1] at hs
  have hr := vat_new ((w.alloc (Obj.cells #[.int .i64 S, v1, v2] 25)).alloc (Obj.cells #[.string m] 9)) [.int .i64 0, .int .i64 0] 27
  rw [e2] at hr
  have hf := froz_new ((w.alloc (Obj.cells #[.int .i64 S, v1, v2] 25)).alloc (Obj.cells #[.string m] 9)) #[.int .i64 0, .int .i64 0] 27
  rw [e2] at hf
  exact ⟨(((Below.refl _ _).alloc (Nat.le_refl _) _).alloc (by rw [e1]; omega) _).alloc (by rw [e2]; omega) _, ((tbox_new w S v1 v2 25).later (hb _ _)).later (hb _ _), hs 0 _ rfl, hr 0 _ rfl, hr 1 _ rfl, hf⟩
theorem WBox.later {w W W' : World} {S : Int} {v1 v2 : Value} {m : ByteArray} (h : WBox w W S v1 v2 m) (hb : Below W.heap.size W W') : WBox w W' S v1 v2 m :=
  ⟨h.below.trans (hb.mono h.below.size), h.t.later hb, cell_later hb h.s, cell_later hb h.r0, cell_later hb h.r1, fun i => (hb.frozen (p := ⟨w.heap.size + 1 + 1, i, none⟩) (show (⟨w.heap.size + 1 + 1, 0, none⟩ : Addr).block < W.heap.size from World.block_lt_of_cell? W ⟨w.heap.size + 1 + 1, 0, none⟩ h.r0)).trans (h.f i)⟩
theorem below_two {w W : World} (h : Below w.heap.size w W) (g : Nat) (hg : w.heap.size ≤ g) (u v : Value) : Below w.heap.size w ((W.setCell ⟨g, 0, none⟩ u).setCell ⟨g, 1, none⟩ v) := (h.setCell (p := ⟨g, 0, none⟩) hg u).setCell (p := ⟨g, 1, none⟩) hg v
set_option maxHeartbeats 1000000 in
set_option maxRecDepth 100000 in
theorem where_any (S : Int) (ao : Option Addr) (n cap : Nat) (ao2 : Option Addr) (n2 cap2 : Nat) (Ls : List ((Int × Int) × (Int × Int))) (Hs : List (ByteArray × (Int × Int))) (m : ByteArray) (w : World)
    (hL : GS lnkE w (.slice ao n cap) Ls) (hH : GS hstE w (.slice ao2 n2 cap2) Hs) :
    Calls Tryd.prog 16 #[.agg #[.int .i64 S, .slice ao n cap, .slice ao2 n2 cap2], .string m] w fun e w' => e = .returned (.tuple #[.agg #[.int .i64 (weV S Ls Hs m).1, .int .i64 (weV S Ls Hs m).2], noV (weN S Ls Hs m)]) ∧ Below w.heap.size w w' := by
  have hX := wbox_new w S (.slice ao n cap) (.slice ao2 n2 cap2) m
  obtain ⟨R, hR⟩ : ∃ R, R = weN S Ls Hs m := ⟨_, rfl⟩
  have HR : Hid (R = weN S Ls Hs m) := hR
  obtain ⟨V1, hV1⟩ : ∃ V, V = (weV S Ls Hs m).1 := ⟨_, rfl⟩
  have HV1 : Hid (V1 = (weV S Ls Hs m).1) := hV1
  obtain ⟨V2, hV2⟩ : ∃ V, V = (weV S Ls Hs m).2 := ⟨_, rfl⟩
  have HV2 : Hid (V2 = (weV S Ls Hs m).2) := hV2
  rw [← hR, ← hV1, ← hV2]
  have HL2 : Hid (GS lnkE (wbox w S (.slice ao n cap) (.slice ao2 n2 cap2) m) (.slice ao n cap) Ls) := hL.later hX.below
  have HH2 : Hid (GS hstE (wbox w S (.slice ao n cap) (.slice ao2 n2 cap2) m) (.slice ao2 n2 cap2) Hs) := hH.later hX.below
  have HX : Hid (WBox w (wbox w S (.slice ao n cap) (.slice ao2 n2 cap2) m) S (.slice ao n cap) (.slice ao2 n2 cap2) m) := hX
  clear hR hV1 hV2 hX hL hH
  go_enter Tryd.func16, Tryd.ntmps16
  go_wp2_with fail
  refine (check_any S ao n cap ao2 n2 cap2 Ls Hs _ HL2.out HH2.out).mono ?_
  rintro e w1 ⟨rfl, hb1⟩
  obtain ⟨T, hT⟩ : ∃ T, T = tpN S Ls Hs := ⟨_, rfl⟩
  have HT : Hid (T = tpN S Ls Hs) := hT
  rw [← hT]
  have hX1 := HX.out.later hb1
  have HX1 : Hid (WBox w w1 S (.slice ao n cap) (.slice ao2 n2 cap2) m) := hX1
  have HH1 : Hid (GS hstE w1 (.slice ao2 n2 cap2) Hs) := HH2.out.later hb1
  obtain ⟨_, ⟨b0, b1, b2⟩, s0, r0, r1, f⟩ := hX1
  have f0 := f 0
  have f1 := f 1
  clear hT hb1 HX HL2 HH2 f
  by_cases h0 : T = 0
  · subst h0
    rw [no_ok rfl]
    have HK : Hid (hstAsks w1 42 (.pointer (some ⟨w.heap.size + 1, 0, none⟩)) (fun h => h.1 == m)) := where1_asks _ m w1 s0
    obtain ⟨_, _, _, e2, hHn, hHm, _, hHa⟩ := HH1.out.form
    cases e2
    have HHN : Hid (Hs.length = n2) := hHn
    have HHM : Hid (n2 ≤ maxLen) := hHm
    have HHA : Hid (0 < n2 → ∃ g o, ao2 = some ⟨g, o, none⟩ ∧ GAt hstE w1 g o Hs ∧ cap2 ≤ maxLen) := hHa
    clear hHn hHm hHa s0 r0 r1 f0 f1
    go_wp2_with fail
    refine (hst_idxF ao2 n2 cap2 _ _ (fun h => h.1 == m) Hs _ HHN.out HHM.out HHA.out (enters_of Tryd.func42 (by kernel_rfl) rfl) HK.out).mono ?_
    rintro e w2 ⟨rfl, hb2⟩
    have hX2 := HX1.out.later hb2
    have HB3 : Hid (Below w.heap.size w w2) := hX2.below
    have HHA2 : Hid (0 < n2 → ∃ g o, ao2 = some ⟨g, o, none⟩ ∧ GAt hstE w2 g o Hs ∧ cap2 ≤ maxLen) := fun h => by
      obtain ⟨g, o, e1, e2, e3⟩ := HHA.out h
      exact ⟨g, o, e1, e2.later hb2, e3⟩
    obtain ⟨_, ⟨b0, b1, b2⟩, s0, r0, r1, f⟩ := hX2
    have f0 := f 0
    have f1 := f 1
    clear hb2 HHA HX1 f
    rcases where_ix Hs m with ⟨hi, ho⟩ | ⟨k, hk, hi, ho⟩
    · rw [hi]
      have HR5 : Hid (R = 5) := by
        show _ = _
        rw [HR.out, weN, if_pos HT.out.symm, ho]
        rfl
      have HV5 : Hid (V1 = 0 ∧ V2 = 0) := by
        have h5 := HR5.out
        have e : weV S Ls Hs m = (0, 0) := by rw [weV, ← HR.out, h5, if_neg (by decide)]
        exact ⟨by rw [HV1.out, e], by rw [HV2.out, e]⟩
      clear hi ho
      go_wp2
      refine bodyPost_ret (v := .tuple #[.agg #[.int .i64 0, .int .i64 0], .iface 85 (.int .i64 5)]) (by simp [results, Tryd.results16, go_sem, *]) rfl ⟨by rw [HR5.out, HV5.out.1, HV5.out.2]; rfl, below_two HB3.out _ (by omega) _ _⟩
    · rw [hi]
      have HR0 : Hid (R = 0) := by
        show _ = _
        rw [HR.out, weN, if_pos HT.out.symm, ho]
        rfl
      have hlt : k < n2 := by rw [← HHN.out]; exact hk
      obtain ⟨g, o, hao, hc, _⟩ := HHA2.out (by omega)
      subst hao
      obtain ⟨y0, y1, y2, hkl, hHk, q0, q1, q2⟩ := hst_at hc HHN.out hlt
      have HV0 : Hid (V1 = y1 ∧ V2 = y2) := by
        have h5 := HR0.out
        have e : weV S Ls Hs m = (y1, y2) := by rw [weV, ← HR.out, h5, if_pos rfl, ho, Option.getD_some, hHk]
        exact ⟨by rw [HV1.out, e], by rw [HV2.out, e]⟩
      have kb0 : (0 : Int) ≤ (k : Int) := by omega
      have kb1 : (k : Int) < (n2 : Int) := by omega
      have hk0 : ¬ (k : Int) < 0 := by omega
      clear hi ho hHk hc HHA2
      go_wp2
      refine bodyPost_ret (v := .tuple #[.agg #[.int .i64 y1, .int .i64 y2], .nilIface]) (by simp [results, Tryd.results16, go_sem, *]) rfl ⟨by rw [HR0.out, HV0.out.1, HV0.out.2]; rfl, below_two HB3.out _ (by omega) _ _⟩
  · rw [no_ne h0]
    have HR2 : Hid (R = T) := by
      show _ = _
      rw [HR.out, weN, ← HT.out, if_neg h0]
    have HV5 : Hid (V1 = 0 ∧ V2 = 0) := by
      have h2 := HR2.out
      have e : weV S Ls Hs m = (0, 0) := by rw [weV, ← HR.out, h2, if_neg h0]
      exact ⟨by rw [HV1.out, e], by rw [HV2.out, e]⟩
    have HN0 : Hid (T ≠ 0) := h0
    clear h0
    go_wp2
    refine bodyPost_ret (v := .tuple #[.agg #[.int .i64 0, .int .i64 0], .iface 85 (.int .i64 T)]) (by simp [results, Tryd.results16, go_sem, *]) rfl ⟨by rw [HR2.out, HV5.out.1, HV5.out.2, no_ne HN0.out], below_two HX1.out.below _ (by omega) _ _⟩
end Go.Proofs.YtfbocionnjlilacDoor
