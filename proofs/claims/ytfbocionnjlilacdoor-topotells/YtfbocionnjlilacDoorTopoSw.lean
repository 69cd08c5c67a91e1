/- What topo.checkSwitches answers: a contract for the walks above it. -/
import Derived.Test.YtfbocionnjlilacDoorTopoCheck
import Derived.Test.YtfbocionnjlilacDoorSlInt
namespace Go.Proofs.YtfbocionnjlilacDoor
open Go.RowKit
set_option linter.unusedSimpArgs false
set_option linter.unusedVariables false

set_option maxHeartbeats 1000000 in
set_option maxRecDepth 100000 in
theorem sw1_any (a : Int) (B : Nat) (S : Int) (w : World) (h0 : w.cell? ⟨B, 0, none⟩ = some (.int .i64 S)) :
    Calls Tryd.prog 61 #[.int .i64 a, .pointer (some ⟨B, 0, none⟩)] w fun e w' => e = .returned (.bool (!swB S a)) ∧ Below w.heap.size w w' := by
  go_enter Tryd.func61, Tryd.ntmps61
  go_wp2_with fail
  refine (isSwitch_any S a _).mono ?_
  rintro e w1 ⟨rfl, hb1⟩
  go_wp2
  go_ret
  exact ⟨rfl, hb1⟩
theorem sw1_asks (B : Nat) (S : Int) (w : World) (h0 : w.cell? ⟨B, 0, none⟩ = some (.int .i64 S)) : nuAsks w 61 (.pointer (some ⟨B, 0, none⟩)) (fun a => !swB S a) :=
  fun a W hW => sw1_any a B S W (cell_later hW h0)
set_option maxHeartbeats 1000000 in
set_option maxRecDepth 100000 in
theorem checkSw_any (S : Int) (ao : Option Addr) (n cap : Nat) (ao2 : Option Addr) (n2 cap2 : Nat) (Ls : List ((Int × Int) × (Int × Int))) (Hs : List (ByteArray × (Int × Int))) (ao3 : Option Addr) (n3 cap3 : Nat) (L : List Int) (w : World)
    (hL : GS lnkE w (.slice ao n cap) Ls) (hH : GS hstE w (.slice ao2 n2 cap2) Hs) (h3 : GS nuE w (.slice ao3 n3 cap3) L) :
    Calls Tryd.prog 43 #[.agg #[.int .i64 S, .slice ao n cap, .slice ao2 n2 cap2], .slice ao3 n3 cap3] w fun e w' => e = .returned (noV (cwN S Ls Hs L)) ∧ Below w.heap.size w w' := by
  have hb1 : Below w.heap.size w (w.alloc (Obj.cells #[.int .i64 S, .slice ao n cap, .slice ao2 n2 cap2] 25)) := (Below.refl _ _).alloc (Nat.le_refl _) _
  obtain ⟨C, hC⟩ : ∃ C, C = cwN S Ls Hs L := ⟨_, rfl⟩
  have HC : Hid (C = cwN S Ls Hs L) := hC
  rw [← hC]
  have HL2 : Hid (GS lnkE (w.alloc (Obj.cells #[.int .i64 S, .slice ao n cap, .slice ao2 n2 cap2] 25)) (.slice ao n cap) Ls) := hL.later hb1
  have HH2 : Hid (GS hstE (w.alloc (Obj.cells #[.int .i64 S, .slice ao n cap, .slice ao2 n2 cap2] 25)) (.slice ao2 n2 cap2) Hs) := hH.later hb1
  have HI2 : Hid (GS nuE (w.alloc (Obj.cells #[.int .i64 S, .slice ao n cap, .slice ao2 n2 cap2] 25)) (.slice ao3 n3 cap3) L) := h3.later hb1
  have HB2 : Hid (Below w.heap.size w (w.alloc (Obj.cells #[.int .i64 S, .slice ao n cap, .slice ao2 n2 cap2] 25))) := hb1
  have HX : Hid (TBox (w.alloc (Obj.cells #[.int .i64 S, .slice ao n cap, .slice ao2 n2 cap2] 25)) w.heap.size S (.slice ao n cap) (.slice ao2 n2 cap2)) := tbox_new w S _ _ 25
  clear hC hb1 hL hH h3
  go_enter Tryd.func43, Tryd.ntmps43
  go_wp2_with fail
  refine (check_any S ao n cap ao2 n2 cap2 Ls Hs _ HL2.out HH2.out).mono ?_
  rintro e w1 ⟨rfl, hb1⟩
  obtain ⟨T, hT⟩ : ∃ T, T = tpN S Ls Hs := ⟨_, rfl⟩
  have HT : Hid (T = tpN S Ls Hs) := hT
  rw [← hT]
  have HB1 : Hid (Below w.heap.size w w1) := HB2.out.trans (hb1.mono HB2.out.size)
  obtain ⟨b0, b1, b2⟩ := HX.out.later hb1
  have HI1 : Hid (GS nuE w1 (.slice ao3 n3 cap3) L) := HI2.out.later hb1
  clear hT hb1 HX HL2 HH2 HB2 HI2
  by_cases h0 : T = 0
  · subst h0
    rw [no_ok rfl]
    have HK : Hid (nuAsks w1 61 (.pointer (some ⟨w.heap.size, 0, none⟩)) (fun a => !swB S a)) := sw1_asks _ S w1 b0
    obtain ⟨_, _, _, e2, hIn, hIm, _, hIa⟩ := HI1.out.form
    cases e2
    have HIN : Hid (L.length = n3) := hIn
    have HIM : Hid (n3 ≤ maxLen) := hIm
    have HIA : Hid (0 < n3 → ∃ g o, ao3 = some ⟨g, o, none⟩ ∧ GAt nuE w1 g o L ∧ cap3 ≤ maxLen) := hIa
    clear hIn hIm hIa
    go_wp2_with fail
    refine (nu_hasF ao3 n3 cap3 _ _ (fun a => !swB S a) L _ HIN.out HIM.out HIA.out (enters_of Tryd.func61 (by kernel_rfl) rfl) HK.out).mono ?_
    rintro e w2 ⟨rfl, hb2⟩
    have HB3 : Hid (Below w.heap.size w w2) := HB1.out.trans (hb2.mono HB1.out.size)
    clear hb2
    have hcw : C = if (L.any fun a => !swB S a) = true then 1 else 0 := by rw [HC.out, cwN, if_pos HT.out.symm]
    cases hs : L.any fun a => !swB S a
    · have HC2 : Hid (C = 0) := by
        show _ = _
        rw [hcw, hs]
        rfl
      clear hcw
      go_wp2
      go_ret
      exact ⟨by rw [HC2.out]; rfl, HB3.out⟩
    · have HC2 : Hid (C = 1) := by
        show _ = _
        rw [hcw, hs]
        rfl
      clear hcw
      go_wp2
      go_ret
      exact ⟨by rw [HC2.out]; rfl, HB3.out⟩
  · rw [no_ne h0]
    have HC2 : Hid (C = T) := by
      show _ = _
      rw [HC.out, cwN, ← HT.out, if_neg h0]
    have HN0 : Hid (T ≠ 0) := h0
    clear h0
    go_wp2
    go_ret
    exact ⟨by rw [HC2.out, no_ne HN0.out]; rfl, HB1.out⟩
/-- Numbers in a new row. -/
theorem nus_new (w : World) (L : List Int) (t : TypeId) (hl : 0 < L.length) (h : L.length ≤ 1000) : GS nuE (w.alloc (.cells (L.map (Value.int .i64)).toArray t)) (.slice (some ⟨w.heap.size, 0, none⟩) L.length L.length) L := by
  refine .inr ⟨w.heap.size, 0, L.length, rfl, Nat.le_refl _, by unfold maxLen; omega, fun i hi j u hu => ?_⟩
  have hj : j = 0 := by
    have h2 := (List.getElem?_eq_some_iff.1 hu).1
    have e : (nuE.c L[i]).length = 1 := rfl
    omega
  subst hj
  have hu2 : some (Value.int .i64 L[i]) = some u := hu
  cases hu2
  have h3 := vat_new w (L.map (Value.int .i64)) t i (.int .i64 L[i]) (by simp [hi])
  have e : 0 + i * nuE.n + 0 = 0 + i := by show 0 + i * 1 + 0 = 0 + i; omega
  rw [e]
  exact h3
end Go.Proofs.YtfbocionnjlilacDoor
