/- What topo.Near answers: a contract for the walks above it. -/
import Derived.Test.YtfbocionnjlilacDoorTopoSw
import Derived.Test.YtfbocionnjlilacDoorTopoNear
namespace Go.Proofs.YtfbocionnjlilacDoor
open Go.RowKit
set_option linter.unusedSimpArgs false
set_option linter.unusedVariables false

set_option maxHeartbeats 1000000 in
set_option maxRecDepth 100000 in
theorem nearA_any (S : Int) (ao : Option Addr) (n cap : Nat) (ao2 : Option Addr) (n2 cap2 : Nat) (Ls : List ((Int × Int) × (Int × Int))) (Hs : List (ByteArray × (Int × Int))) (a : Int) (w : World)
    (hL : GS lnkE w (.slice ao n cap) Ls) (hH : GS hstE w (.slice ao2 n2 cap2) Hs) :
    Calls Tryd.prog 18 #[.agg #[.int .i64 S, .slice ao n cap, .slice ao2 n2 cap2], .int .i64 a] w fun e w' => ∃ v, e = .returned (.tuple #[v, noV (cwN S Ls Hs [a])]) ∧ w'.ownsRow w.heap.size 3 1 v (neL S Ls Hs a).length ((neL S Ls Hs a).map (Value.int .i64)) ∧ Below w.heap.size w w' := by
  have hb1 : Below w.heap.size w (w.alloc (Obj.cells #[.int .i64 S, .slice ao n cap, .slice ao2 n2 cap2] 25)) := (Below.refl _ _).alloc (Nat.le_refl _) _
  have hb2 : Below w.heap.size w ((w.alloc (Obj.cells #[.int .i64 S, .slice ao n cap, .slice ao2 n2 cap2] 25)).alloc (Obj.cells #[.int .i64 a] 3)) := hb1.alloc hb1.size _
  obtain ⟨T, hT⟩ : ∃ T, T = cwN S Ls Hs [a] := ⟨_, rfl⟩
  have HT : Hid (T = cwN S Ls Hs [a]) := hT
  rw [← hT]
  have HL2 : Hid (GS lnkE ((w.alloc (Obj.cells #[.int .i64 S, .slice ao n cap, .slice ao2 n2 cap2] 25)).alloc (Obj.cells #[.int .i64 a] 3)) (.slice ao n cap) Ls) := hL.later hb2
  have HH2 : Hid (GS hstE ((w.alloc (Obj.cells #[.int .i64 S, .slice ao n cap, .slice ao2 n2 cap2] 25)).alloc (Obj.cells #[.int .i64 a] 3)) (.slice ao2 n2 cap2) Hs) := hH.later hb2
  have HI2 : Hid (GS nuE ((w.alloc (Obj.cells #[.int .i64 S, .slice ao n cap, .slice ao2 n2 cap2] 25)).alloc (Obj.cells #[.int .i64 a] 3)) (.slice (some ⟨w.heap.size + 1, 0, none⟩) 1 1) [a]) := by
    have h := nus_new (w.alloc (Obj.cells #[.int .i64 S, .slice ao n cap, .slice ao2 n2 cap2] 25)) [a] 3 (by simp) (by simp)
    have e1 : (w.alloc (Obj.cells #[.int .i64 S, .slice ao n cap, .slice ao2 n2 cap2] 25)).heap.size = w.heap.size + 1 := by simp
    rw [e1] at h
    exact h
  have HB2 : Hid (Below w.heap.size w ((w.alloc (Obj.cells #[.int .i64 S, .slice ao n cap, .slice ao2 n2 cap2] 25)).alloc (Obj.cells #[.int .i64 a] 3))) := hb2
  have HX : Hid (TBox ((w.alloc (Obj.cells #[.int .i64 S, .slice ao n cap, .slice ao2 n2 cap2] 25)).alloc (Obj.cells #[.int .i64 a] 3)) w.heap.size S (.slice ao n cap) (.slice ao2 n2 cap2)) := (tbox_new w S _ _ 25).later ((Below.refl _ _).alloc (Nat.le_refl _) _)
  have HLw : Hid (GS lnkE w (.slice ao n cap) Ls) := hL
  clear hT hb1 hb2 hL hH
  go_enter Tryd.func18, Tryd.ntmps18
  go_wp2_with fail
  refine (checkSw_any S ao n cap ao2 n2 cap2 Ls Hs _ 1 1 [a] _ HL2.out HH2.out HI2.out).mono ?_
  rintro e w1 ⟨rfl, hb1⟩
  rw [← HT.out]
  have HB1 : Hid (Below w.heap.size w w1) := HB2.out.trans (hb1.mono HB2.out.size)
  obtain ⟨b0, b1, b2⟩ := HX.out.later hb1
  clear hb1 HX HL2 HH2 HB2 HI2
  by_cases h0 : T = 0
  · subst h0
    rw [no_ok rfl]
    have hc := cw_0.1 HT.out.symm
    have ht := tp_0 hc.1
    have HE : Hid (neL S Ls Hs a = nrL S Ls a) := if_pos HT.out.symm
    have k1 : Hid (1 ≤ S) := ht.1.1
    have k2 : Hid (S ≤ 6) := ht.1.2
    clear hc ht
    go_wp2_with fail
    refine (near_any S ao n cap _ Ls a _ (HLw.out.later HB1.out) k1.out k2.out).mono ?_
    rintro e w2 ⟨v, rfl, hown, hb2⟩
    have HB3 : Hid (Below w.heap.size w w2) := HB1.out.trans (hb2.mono HB1.out.size)
    have HO : Hid (w2.ownsRow w.heap.size 3 1 v (neL S Ls Hs a).length ((neL S Ls Hs a).map (Value.int .i64))) := by
      show World.ownsRow _ _ _ _ _ _ _
      rw [HE.out]
      exact own_mono hown HB1.out.size
    clear hb2 hown
    go_wp2
    refine bodyPost_ret (v := .tuple #[v, .nilIface]) (by simp [results, Tryd.results18, go_sem]) rfl ⟨v, rfl, HO.out, HB3.out⟩
  · have HE : Hid (neL S Ls Hs a = []) := if_neg (fun e => h0 (HT.out.trans e))
    have e3 := no_ne h0
    have HE3 : Hid (noV T = .iface 85 (.int .i64 T)) := e3
    rw [e3]
    clear h0 e3
    go_wp2
    refine bodyPost_ret (v := .tuple #[.slice none 0 0, .iface 85 (.int .i64 T)]) (by simp [results, Tryd.results18, go_sem]) rfl ⟨.slice none 0 0, by rw [HE3.out], by rw [HE.out]; exact World.ownsRow_nil _ _ _ _, HB1.out⟩
end Go.Proofs.YtfbocionnjlilacDoor
