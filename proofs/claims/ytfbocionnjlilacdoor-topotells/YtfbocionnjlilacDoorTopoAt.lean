/- What topo.At answers: a contract for the walks above it. -/
import Derived.Test.YtfbocionnjlilacDoorTopoSpot
import Derived.Test.YtfbocionnjlilacDoorSlHost
import Derived.Test.YtfbocionnjlilacDoorStrClone
namespace Go.Proofs.YtfbocionnjlilacDoor
open Go.RowKit
set_option linter.unusedSimpArgs false
set_option linter.unusedVariables false

set_option maxHeartbeats 1000000 in
set_option maxRecDepth 100000 in
theorem at1_any (n : ByteArray) (x0 x1 : Int) (B : Nat) (x y : Int) (w : World) (h0 : w.cell? ⟨B, 0, none⟩ = some (.int .i64 x)) (h1 : w.cell? ⟨B, 1, none⟩ = some (.int .i64 y)) :
    Calls Tryd.prog 40 #[.agg #[.string n, .int .i64 x0, .int .i64 x1], .pointer (some ⟨B, 0, none⟩)] w fun e w' => e = .returned (.bool (sq (x0, x1) (x, y))) ∧ Below w.heap.size w w' := by
  have hlt : B < w.heap.size := World.block_lt_of_cell? _ _ h0
  have HB0 : Hid (Below w.heap.size w (w.alloc (Obj.cells #[Value.string n, Value.int IntKind.i64 x0, Value.int IntKind.i64 x1] 38))) := (Below.refl _ _).alloc (Nat.le_refl _) _
  have hr : sq (x0, x1) (x, y) = (x0 == x && x1 == y) := rfl
  rw [hr]
  clear hr
  cases g1 : (x0 == x) <;> cases g2 : (x1 == y)
  all_goals
    simp only [Bool.and_true, Bool.and_false, Bool.and_self]
    go_enter Tryd.func40, Tryd.ntmps40
    go_wp2
    go_ret
    exact ⟨rfl, HB0.out⟩
theorem at1_asks (B : Nat) (x y : Int) (w : World) (h0 : w.cell? ⟨B, 0, none⟩ = some (.int .i64 x)) (h1 : w.cell? ⟨B, 1, none⟩ = some (.int .i64 y)) : hstAsks w 40 (.pointer (some ⟨B, 0, none⟩)) (fun h => sq h.2 (x, y)) :=
  fun n x0 x1 W hW => at1_any n x0 x1 B x y W (cell_later hW h0) (cell_later hW h1)
set_option maxHeartbeats 1000000 in
set_option maxRecDepth 100000 in
theorem at_any (S : Int) (ao : Option Addr) (n cap : Nat) (ao2 : Option Addr) (n2 cap2 : Nat) (Ls : List ((Int × Int) × (Int × Int))) (Hs : List (ByteArray × (Int × Int))) (x y : Int) (w : World)
    (hL : GS lnkE w (.slice ao n cap) Ls) (hH : GS hstE w (.slice ao2 n2 cap2) Hs) :
    Calls Tryd.prog 14 #[.agg #[.int .i64 S, .slice ao n cap, .slice ao2 n2 cap2], .agg #[.int .i64 x, .int .i64 y]] w fun e w' => e = .returned (.tuple #[.string (asV S Ls Hs (x, y)), noV (asN S Ls Hs (x, y))]) ∧ Below w.heap.size w w' := by
  have hb1 : Below w.heap.size w (w.alloc (Obj.cells #[.int .i64 S, .slice ao n cap, .slice ao2 n2 cap2] 25)) := (Below.refl _ _).alloc (Nat.le_refl _) _
  have hb2 : Below w.heap.size w ((w.alloc (Obj.cells #[.int .i64 S, .slice ao n cap, .slice ao2 n2 cap2] 25)).alloc (Obj.cells #[.int .i64 x, .int .i64 y] 27)) := hb1.alloc hb1.size _
  have hX : TBox ((w.alloc (Obj.cells #[.int .i64 S, .slice ao n cap, .slice ao2 n2 cap2] 25)).alloc (Obj.cells #[.int .i64 x, .int .i64 y] 27)) w.heap.size S (.slice ao n cap) (.slice ao2 n2 cap2) :=
    (tbox_new w S _ _ 25).later ((Below.refl _ _).alloc (Nat.le_refl _) _)
  have hS0 : VAt ((w.alloc (Obj.cells #[.int .i64 S, .slice ao n cap, .slice ao2 n2 cap2] 25)).alloc (Obj.cells #[.int .i64 x, .int .i64 y] 27)) (w.heap.size + 1) 0 (spoE.c (x, y)) := by
    have h := spo_new (w.alloc (Obj.cells #[.int .i64 S, .slice ao n cap, .slice ao2 n2 cap2] 25)) x y 27
    simpa using h
  obtain ⟨R, hR⟩ : ∃ R, R = asN S Ls Hs (x, y) := ⟨_, rfl⟩
  have HR : Hid (R = asN S Ls Hs (x, y)) := hR
  obtain ⟨V, hV⟩ : ∃ V, V = asV S Ls Hs (x, y) := ⟨_, rfl⟩
  have HV : Hid (V = asV S Ls Hs (x, y)) := hV
  rw [← hR, ← hV]
  have HL2 : Hid (GS lnkE ((w.alloc (Obj.cells #[.int .i64 S, .slice ao n cap, .slice ao2 n2 cap2] 25)).alloc (Obj.cells #[.int .i64 x, .int .i64 y] 27)) (.slice ao n cap) Ls) := hL.later hb2
  have HH2 : Hid (GS hstE ((w.alloc (Obj.cells #[.int .i64 S, .slice ao n cap, .slice ao2 n2 cap2] 25)).alloc (Obj.cells #[.int .i64 x, .int .i64 y] 27)) (.slice ao2 n2 cap2) Hs) := hH.later hb2
  have HB2 : Hid (Below w.heap.size w ((w.alloc (Obj.cells #[.int .i64 S, .slice ao n cap, .slice ao2 n2 cap2] 25)).alloc (Obj.cells #[.int .i64 x, .int .i64 y] 27))) := hb2
  have HX : Hid (TBox ((w.alloc (Obj.cells #[.int .i64 S, .slice ao n cap, .slice ao2 n2 cap2] 25)).alloc (Obj.cells #[.int .i64 x, .int .i64 y] 27)) w.heap.size S (.slice ao n cap) (.slice ao2 n2 cap2)) := hX
  have HS0 : Hid (VAt ((w.alloc (Obj.cells #[.int .i64 S, .slice ao n cap, .slice ao2 n2 cap2] 25)).alloc (Obj.cells #[.int .i64 x, .int .i64 y] 27)) (w.heap.size + 1) 0 (spoE.c (x, y))) := hS0
  clear hR hV hb1 hb2 hX hS0 hL
  go_enter Tryd.func14, Tryd.ntmps14
  go_wp2_with fail
  refine (checkSpot_any S ao n cap ao2 n2 cap2 Ls Hs x y _ HL2.out HH2.out).mono ?_
  rintro e w1 ⟨rfl, hb1⟩
  obtain ⟨T, hT⟩ : ∃ T, T = csN S Ls Hs (x, y) := ⟨_, rfl⟩
  have HT : Hid (T = csN S Ls Hs (x, y)) := hT
  rw [← hT]
  have hB1 := HB2.out.trans (hb1.mono HB2.out.size)
  have HB1 : Hid (Below w.heap.size w w1) := hB1
  obtain ⟨b0, b1, b2⟩ := HX.out.later hb1
  have HX1 : Hid (TBox w1 w.heap.size S (.slice ao n cap) (.slice ao2 n2 cap2)) := ⟨b0, b1, b2⟩
  obtain ⟨s0, s1⟩ := spo_cells (HS0.out.later hb1)
  simp only [Nat.zero_add] at s0 s1
  have HH1 : Hid (GS hstE w1 (.slice ao2 n2 cap2) Hs) := HH2.out.later hb1
  clear hT hb1 hB1 HX HS0 HL2 HH2 HB2 hH
  by_cases h0 : T = 0
  · subst h0
    rw [no_ok rfl]
    have HK : Hid (hstAsks w1 40 (.pointer (some ⟨w.heap.size + 1, 0, none⟩)) (fun h => sq h.2 (x, y))) := at1_asks _ x y w1 s0 s1
    obtain ⟨_, _, _, e2, hHn, hHm, _, hHa⟩ := HH1.out.form
    cases e2
    have HHN : Hid (Hs.length = n2) := hHn
    have HHM : Hid (n2 ≤ maxLen) := hHm
    have HHA : Hid (0 < n2 → ∃ g o, ao2 = some ⟨g, o, none⟩ ∧ GAt hstE w1 g o Hs ∧ cap2 ≤ maxLen) := hHa
    have HTP : Hid (tpN S Ls Hs = 0) := by
      show _ = _
      have h := HT.out
      unfold csN at h
      by_cases e : tpN S Ls Hs = 0
      · exact e
      · rw [if_neg e] at h; exact absurd h.symm e
    clear hHn hHm hHa s0 s1
    go_wp2_with fail
    refine (hst_idxF ao2 n2 cap2 _ _ (fun h => sq h.2 (x, y)) Hs _ HHN.out HHM.out HHA.out (enters_of Tryd.func40 (by kernel_rfl) rfl) HK.out).mono ?_
    rintro e w2 ⟨rfl, hb2⟩
    have HB3 : Hid (Below w.heap.size w w2) := HB1.out.trans (hb2.mono HB1.out.size)
    have HHA2 : Hid (0 < n2 → ∃ g o, ao2 = some ⟨g, o, none⟩ ∧ GAt hstE w2 g o Hs ∧ cap2 ≤ maxLen) := fun h => by
      obtain ⟨g, o, e1, e2, e3⟩ := HHA.out h
      exact ⟨g, o, e1, e2.later hb2, e3⟩
    obtain ⟨b0, b1, b2⟩ := HX1.out.later hb2
    clear hb2 HHA HX1
    rcases at_ix Hs (x, y) with ⟨hi, ho⟩ | ⟨k, hk, hi, ho⟩
    · rw [hi]
      have HR5 : Hid (R = 5) := by
        show _ = _
        rw [HR.out, asN, if_pos HT.out.symm, ho]
        rfl
      have HV5 : Hid (V = ByteArray.empty) := by
        show _ = _
        have h5 := HR5.out
        rw [HV.out, asV, ← HR.out, h5, if_neg (by decide)]
      clear hi ho
      go_wp2
      refine bodyPost_ret (v := .tuple #[.string ⟨#[]⟩, .iface 85 (.int .i64 5)]) (by simp [results, Tryd.results14, go_sem]) rfl ⟨by rw [HR5.out, HV5.out]; rfl, HB3.out⟩
    · rw [hi]
      have HR0 : Hid (R = 0) := by
        show _ = _
        rw [HR.out, asN, if_pos HT.out.symm, ho]
        rfl
      have hlt : k < n2 := by rw [← HHN.out]; exact hk
      obtain ⟨g, o, hao, hc, _⟩ := HHA2.out (by omega)
      subst hao
      obtain ⟨y0, y1, y2, hkl, hHk, q0, q1, q2⟩ := hst_at hc HHN.out hlt
      have HV0 : Hid (V = y0) := by
        show _ = _
        have h5 := HR0.out
        rw [HV.out, asV, ← HR.out, h5, if_pos rfl, ho, Option.getD_some, hHk]
      have HSZ : Hid (y0.size ≤ 1000000) := by
        show _ ≤ _
        have h := (tp_0 HTP.out).2.2.2.2.1 Hs[k] (List.getElem_mem hk)
        rw [hHk] at h
        have h2 := h.1
        simp only [nmB, Bool.and_eq_true, decide_eq_true_eq] at h2
        omega
      have kb0 : (0 : Int) ≤ (k : Int) := by omega
      have kb1 : (k : Int) < (n2 : Int) := by omega
      have hk0 : ¬ (k : Int) < 0 := by omega
      clear hi ho hHk hc HHA2
      go_wp2_with fail
      refine (clone_any y0 _ HSZ.out).mono ?_
      rintro e w3 ⟨rfl, hb3⟩
      have HB4 : Hid (Below w.heap.size w w3) := HB3.out.trans (hb3.mono HB3.out.size)
      clear hb3
      go_wp2
      refine bodyPost_ret (v := .tuple #[.string y0, .nilIface]) (by simp [results, Tryd.results14, go_sem]) rfl ⟨by rw [HR0.out, HV0.out]; rfl, HB4.out⟩
  · rw [no_ne h0]
    have HR2 : Hid (R = T) := by
      show _ = _
      rw [HR.out, asN, ← HT.out, if_neg h0]
    have HV2 : Hid (V = ByteArray.empty) := by
      show _ = _
      have h2 := HR2.out
      rw [HV.out, asV, ← HR.out, h2, if_neg h0]
    have HN0 : Hid (T ≠ 0) := h0
    clear h0
    go_wp2
    refine bodyPost_ret (v := .tuple #[.string ⟨#[]⟩, .iface 85 (.int .i64 T)]) (by simp [results, Tryd.results14, go_sem]) rfl ⟨by rw [HR2.out, HV2.out, no_ne HN0.out]; rfl, HB1.out⟩
end Go.Proofs.YtfbocionnjlilacDoor
