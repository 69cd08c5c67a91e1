/- What topo.Far answers: a contract for the walks above it. -/
import Derived.Test.YtfbocionnjlilacDoorTopoSw
import Derived.Test.YtfbocionnjlilacDoorTopoDist
namespace Go.Proofs.YtfbocionnjlilacDoor
open Go.RowKit
set_option linter.unusedSimpArgs false
set_option linter.unusedVariables false

set_option maxHeartbeats 1000000 in
set_option maxRecDepth 100000 in
theorem far_any (S : Int) (ao : Option Addr) (n cap : Nat) (ao2 : Option Addr) (n2 cap2 : Nat) (Ls : List ((Int × Int) × (Int × Int))) (Hs : List (ByteArray × (Int × Int))) (a b : Int) (w : World)
    (hL : GS lnkE w (.slice ao n cap) Ls) (hH : GS hstE w (.slice ao2 n2 cap2) Hs) :
    Calls Tryd.prog 21 #[.agg #[.int .i64 S, .slice ao n cap, .slice ao2 n2 cap2], .int .i64 a, .int .i64 b] w fun e w' => e = .returned (.tuple #[.int .i64 (fsV S Ls Hs a b), noV (fsN S Ls Hs a b)]) ∧ Below w.heap.size w w' := by
  have hb1 : Below w.heap.size w (w.alloc (Obj.cells #[.int .i64 S, .slice ao n cap, .slice ao2 n2 cap2] 25)) := (Below.refl _ _).alloc (Nat.le_refl _) _
  have hb2 : Below w.heap.size w ((w.alloc (Obj.cells #[.int .i64 S, .slice ao n cap, .slice ao2 n2 cap2] 25)).alloc (Obj.cells #[.int .i64 a, .int .i64 b] 3)) := hb1.alloc hb1.size _
  obtain ⟨R, hR⟩ : ∃ R, R = fsN S Ls Hs a b := ⟨_, rfl⟩
  have HR : Hid (R = fsN S Ls Hs a b) := hR
  obtain ⟨V, hV⟩ : ∃ V, V = fsV S Ls Hs a b := ⟨_, rfl⟩
  have HV : Hid (V = fsV S Ls Hs a b) := hV
  rw [← hR, ← hV]
  have HL2 : Hid (GS lnkE ((w.alloc (Obj.cells #[.int .i64 S, .slice ao n cap, .slice ao2 n2 cap2] 25)).alloc (Obj.cells #[.int .i64 a, .int .i64 b] 3)) (.slice ao n cap) Ls) := hL.later hb2
  have HH2 : Hid (GS hstE ((w.alloc (Obj.cells #[.int .i64 S, .slice ao n cap, .slice ao2 n2 cap2] 25)).alloc (Obj.cells #[.int .i64 a, .int .i64 b] 3)) (.slice ao2 n2 cap2) Hs) := hH.later hb2
  have HI2 : Hid (GS nuE ((w.alloc (Obj.cells #[.int .i64 S, .slice ao n cap, .slice ao2 n2 cap2] 25)).alloc (Obj.cells #[.int .i64 a, .int .i64 b] 3)) (.slice (some ⟨w.heap.size + 1, 0, none⟩) 2 2) [a, b]) := by
    have h := nus_new (w.alloc (Obj.cells #[.int .i64 S, .slice ao n cap, .slice ao2 n2 cap2] 25)) [a, b] 3 (by simp) (by simp)
    have e1 : (w.alloc (Obj.cells #[.int .i64 S, .slice ao n cap, .slice ao2 n2 cap2] 25)).heap.size = w.heap.size + 1 := by simp
    rw [e1] at h
    exact h
  have HB2 : Hid (Below w.heap.size w ((w.alloc (Obj.cells #[.int .i64 S, .slice ao n cap, .slice ao2 n2 cap2] 25)).alloc (Obj.cells #[.int .i64 a, .int .i64 b] 3))) := hb2
  have HX : Hid (TBox ((w.alloc (Obj.cells #[.int .i64 S, .slice ao n cap, .slice ao2 n2 cap2] 25)).alloc (Obj.cells #[.int .i64 a, .int .i64 b] 3)) w.heap.size S (.slice ao n cap) (.slice ao2 n2 cap2)) := (tbox_new w S _ _ 25).later ((Below.refl _ _).alloc (Nat.le_refl _) _)
  have HLw : Hid (GS lnkE w (.slice ao n cap) Ls) := hL
  clear hR hV hb1 hb2 hL hH
  go_enter Tryd.func21, Tryd.ntmps21
  go_wp2_with fail
  refine (checkSw_any S ao n cap ao2 n2 cap2 Ls Hs _ 2 2 [a, b] _ HL2.out HH2.out HI2.out).mono ?_
  rintro e w1 ⟨rfl, hb1⟩
  obtain ⟨T, hT⟩ : ∃ T, T = cwN S Ls Hs [a, b] := ⟨_, rfl⟩
  have HT : Hid (T = cwN S Ls Hs [a, b]) := hT
  rw [← hT]
  have HB1 : Hid (Below w.heap.size w w1) := HB2.out.trans (hb1.mono HB2.out.size)
  obtain ⟨b0, b1, b2⟩ := HX.out.later hb1
  clear hT hb1 HX HL2 HH2 HB2 HI2
  by_cases h0 : T = 0
  · subst h0
    rw [no_ok rfl]
    have hc := cw_0.1 HT.out.symm
    have ht := tp_0 hc.1
    have ha := hc.2 a (by simp)
    have hb := hc.2 b (by simp)
    have HSN : Hid (S = (S.toNat : Int)) := (Int.toNat_of_nonneg (by omega)).symm
    have HAN : Hid (a = (a.toNat : Int)) := (Int.toNat_of_nonneg (by omega)).symm
    have HBN : Hid (b = (b.toNat : Int)) := (Int.toNat_of_nonneg (by omega)).symm
    have k1 : Hid (1 ≤ S.toNat) := by show _ ≤ _; omega
    have k2 : Hid (S.toNat ≤ 6) := by show _ ≤ _; omega
    have k3 : Hid (1 ≤ a.toNat) := by show _ ≤ _; omega
    have k4 : Hid (a.toNat ≤ S.toNat) := by show _ ≤ _; omega
    clear hc ht ha hb
    go_wp2_with fail
    refine (dist_any S ao n cap _ Ls a S.toNat a.toNat HSN.out HAN.out _ (HLw.out.later HB1.out) k1.out k2.out k3.out k4.out).mono ?_
    rintro e w2 ⟨B, D, rfl, hM, hI, hb2⟩
    have HB3 : Hid (Below w.heap.size w w2) := HB1.out.trans (hb2.mono HB1.out.size)
    have hlk := run_lookup_M hM 101 3 Tryd.underlying101 (.int .i64 0) (fun w => by kernel_rfl) b true
    simp only [if_true] at hlk
    clear hb2
    rcases bi_far hI k3.out k4.out k2.out b.toNat with ⟨hf, hg⟩ | ⟨mm, hf, hg⟩
    · rw [← HBN.out] at hg
      rw [show mget intKey.q b D = none from hg] at hlk
      have hlk2 : (Instr.lookup 101 (.map (some B)) (.int .i64 b) true).run Tryd.prog w2 = .ok (.tuple #[.int .i64 0, .bool false]) w2 := hlk
      have HR5 : Hid (R = 5) := by
        show _ = _
        have hf2 : faN S Ls a b = -1 := hf
        rw [HR.out, fsN, if_pos HT.out.symm, hf2]
        rfl
      have HV5 : Hid (V = 0) := by
        show _ = _
        have h5 := HR5.out
        rw [HV.out, fsV, ← HR.out, h5, if_neg (by decide)]
      clear hf hg hlk hM hI
      go_wp2
      refine bodyPost_ret (v := .tuple #[.int .i64 0, .iface 85 (.int .i64 5)]) (by simp [results, Tryd.results21, go_sem]) rfl ⟨by rw [HR5.out, HV5.out]; rfl, HB3.out⟩
    · rw [← HBN.out] at hg
      rw [show mget intKey.q b D = some (mm : Int) from hg] at hlk
      have hlk2 : (Instr.lookup 101 (.map (some B)) (.int .i64 b) true).run Tryd.prog w2 = .ok (.tuple #[.int .i64 (mm : Int), .bool true]) w2 := hlk
      have hf2 : faN S Ls a b = (mm : Int) := hf
      have HR0 : Hid (R = 0) := by
        show _ = _
        rw [HR.out, fsN, if_pos HT.out.symm, hf2, if_pos (by omega)]
      have HV0 : Hid (V = (mm : Int)) := by
        show _ = _
        have h5 := HR0.out
        rw [HV.out, fsV, ← HR.out, h5, if_pos rfl, hf2]
      clear hf hf2 hg hlk hM hI
      go_wp2
      refine bodyPost_ret (v := .tuple #[.int .i64 (mm : Int), .nilIface]) (by simp [results, Tryd.results21, go_sem]) rfl ⟨by rw [HR0.out, HV0.out]; rfl, HB3.out⟩
  · rw [no_ne h0]
    have HR2 : Hid (R = T) := by
      show _ = _
      rw [HR.out, fsN, ← HT.out, if_neg h0]
    have HV2 : Hid (V = 0) := by
      show _ = _
      have h2 := HR2.out
      rw [HV.out, fsV, ← HR.out, h2, if_neg h0]
    have HN0 : Hid (T ≠ 0) := h0
    clear h0
    go_wp2
    refine bodyPost_ret (v := .tuple #[.int .i64 0, .iface 85 (.int .i64 T)]) (by simp [results, Tryd.results21, go_sem]) rfl ⟨by rw [HR2.out, HV2.out, no_ne HN0.out], HB1.out⟩
end Go.Proofs.YtfbocionnjlilacDoor
