/- Contracts and facts on the way to NetTurns, joined into one text: AsErr2, SameNo, NetTurns, NetTurnsRow. -/
import Derived.Test.YtbieljcoaocfkacDoorNetTurnsP12
import Derived.Test.YtbieljcoaocfkacDoorNetTurnsP3
import Derived.ProofKit
import Derived.OpenShut
import Derived.ChangeOld
import Derived.Below
import Derived.Lib.SmallJoins
import Derived.ChangeSame
import Derived.ChangeVars
import Derived.JoinedOf
import Derived.RowKit
import Derived.RowKitTokens
import Derived.LaidLaws
import Derived.LaidHandle
import Derived.Stop.Joined
/- What errors.As, plain.Told and railsame.Error answer for no error and for an Errno: the walks. -/
namespace Go.Proofs.YtbieljcoaocfkacDoor
open Go.RowKit Go.Extern.Stop Go.Stop Go.Extern
set_option linter.unusedSimpArgs false

set_option maxHeartbeats 4000000 in
theorem as_hit (n : Int) (t : Addr) (old : Value) (w : World) (hg : HasErr w) (ht0 : w.cell? t = some old) (hf0 : w.frozen? t = false) :
    Calls Tryd.prog 56 #[.iface 85 (.int .i64 n), .iface 117 (.pointer (some t))] w fun ev w' => ev = .returned (.bool true) ∧ w' = ((((w.alloc (.cells #[.pointer (some t)] 117)).alloc (.cells #[.pointer (some ⟨1, 117, none⟩), .pointer (some ⟨w.heap.size, 0, none⟩), .int .u64 150] 134)).alloc (.cells #[.pointer (some ⟨1, 117, none⟩), .pointer (some ⟨w.heap.size, 0, none⟩), .int .u64 150] 134)).alloc (.cells #[.int .i64 n] 85)).setCell t (.int .i64 n) := by
  unfold HasErr at hg
  have h6 := @run_callFunc_extern Tryd.prog 76 _ (fun args => ReflectliteValue.unpack (args.getD 0 (.tuple #[]))) Tryd.func76 (by kernel_rfl) (by kernel_rfl) (by kernel_rfl) (by kernel_rfl)
  have h7 := @run_callFunc_extern Tryd.prog 77 _ (ReflectliteValue.methodAny (ReflectliteValue.valueError "reflectlite.Value.Type" 0) (fun t _ _ _ => ReflectliteType.toType t)) Tryd.func77 (by kernel_rfl) (by kernel_rfl) (by kernel_rfl) (by kernel_rfl)
  have h8 := @run_callFunc_extern Tryd.prog 78 _ (ReflectliteValue.method (ReflectliteValue.valueError "reflectlite.Value.IsNil" 0) ReflectliteValue.isNil) Tryd.func78 (by kernel_rfl) (by kernel_rfl) (by kernel_rfl) (by kernel_rfl)
  have h27 := @run_callFunc_extern Tryd.prog 112 _ (ReflectliteType.abiMethod fun t => do pure (.int .u8 (← Rtype.kind t))) Tryd.func112 (by kernel_rfl) (by kernel_rfl) (by kernel_rfl) (by kernel_rfl)
  have h37 := @run_callFunc_extern Tryd.prog 122 _ (ReflectliteType.method ReflectliteType.elem) Tryd.func122 (by kernel_rfl) (by kernel_rfl) (by kernel_rfl) (by kernel_rfl)
  have h38 := @run_callFunc_extern Tryd.prog 123 _ (ReflectliteType.relation "Implements" ReflectliteType.implements_) Tryd.func123 (by kernel_rfl) (by kernel_rfl) (by kernel_rfl) (by kernel_rfl)
  have h10 := @run_callFunc_extern Tryd.prog 89 _ ReflectliteType.typeOf Tryd.func89 (by kernel_rfl) (by kernel_rfl) (by kernel_rfl) (by kernel_rfl)
  have h35 := @run_callFunc_extern Tryd.prog 120 _ (ReflectliteType.relation "AssignableTo" ReflectliteType.assignableTo) Tryd.func120 (by kernel_rfl) (by kernel_rfl) (by kernel_rfl) (by kernel_rfl)
  have h11 := @run_callFunc_extern Tryd.prog 90 _ (ReflectliteValue.method (ReflectliteValue.valueError "reflectlite.Value.Elem" 0) ReflectliteValue.elem) Tryd.func90 (by kernel_rfl) (by kernel_rfl) (by kernel_rfl) (by kernel_rfl)
  have h12 := @run_callFunc_extern Tryd.prog 91 _ ReflectliteValue.set Tryd.func91 (by kernel_rfl) (by kernel_rfl) (by kernel_rfl) (by kernel_rfl)
  have tO := typeOfE
  have mA := methAssign
  have a25 := assignE
  have v25 := vOfE
  have f6 := vOfP
  have f7 := typeP
  have mK := methKind
  have mE := methElem
  have mI := methImpl
  have k27 := kindP
  have k25 := kindE
  have e27 := elemP
  have i25 := implE
  have hlt : 0 < w.heap.size := World.block_lt_of_cell? _ _ hg
  have htl : t.block < w.heap.size := World.block_lt_of_cell? _ _ ht0
  have n8 := isNilP ⟨w.heap.size, 0, none⟩ t ((w.alloc (.cells #[.pointer (some t)] 117)).alloc (.cells #[.pointer (some ⟨1, 117, none⟩), .pointer (some ⟨w.heap.size, 0, none⟩), .int .u64 150] 134)) (by simp)
  have hg2 : ((w.alloc (.cells #[.pointer (some t)] 117)).alloc (.cells #[.pointer (some ⟨1, 117, none⟩), .pointer (some ⟨w.heap.size, 0, none⟩), .int .u64 150] 134)).cell? ⟨0, 0, none⟩ = some (.iface 154 (.agg #[.pointer (some ⟨1, 31, none⟩)])) := by
    rw [World.cell?_alloc_lt _ _ ⟨0, 0, none⟩ (by simp <;> omega), World.cell?_alloc_lt _ _ ⟨0, 0, none⟩ hlt]; exact hg
  have el := elemVP ⟨w.heap.size, 0, none⟩ t (((w.alloc (.cells #[.pointer (some t)] 117)).alloc (.cells #[.pointer (some ⟨1, 117, none⟩), .pointer (some ⟨w.heap.size, 0, none⟩), .int .u64 150] 134)).alloc (.cells #[.pointer (some ⟨1, 117, none⟩), .pointer (some ⟨w.heap.size, 0, none⟩), .int .u64 150] 134)) (by rw [World.cell?_alloc_lt _ _ ⟨w.heap.size, 0, none⟩ (by simp; omega)]; simp)
  have st := setE t ⟨w.heap.size + 1 + 1 + 1, 0, none⟩ n old ((((w.alloc (.cells #[.pointer (some t)] 117)).alloc (.cells #[.pointer (some ⟨1, 117, none⟩), .pointer (some ⟨w.heap.size, 0, none⟩), .int .u64 150] 134)).alloc (.cells #[.pointer (some ⟨1, 117, none⟩), .pointer (some ⟨w.heap.size, 0, none⟩), .int .u64 150] 134)).alloc (.cells #[.int .i64 n] 85))
    (by rw [World.cell?_alloc_at _ _ _ _ (by simp)]; rfl)
    (by rw [World.cell?_alloc_lt _ _ t (by simp; omega), World.cell?_alloc_lt _ _ t (by simp; omega), World.cell?_alloc_lt _ _ t (by simp; omega), World.cell?_alloc_lt _ _ t htl]; exact ht0)
    (by rw [World.frozen?_alloc_old _ _ t (by simp; omega), World.frozen?_alloc_old _ _ t (by simp; omega), World.frozen?_alloc_old _ _ t (by simp; omega), World.frozen?_alloc_old _ _ t (Nat.ne_of_lt htl)]; exact hf0)
  go_enter Tryd.func56, Tryd.ntmps56
  go_wp2
  refine wp_loop_rounds 1 ?_
  rw [rounds_succ]
  go_wp2
  go_ret
  exact ⟨rfl, rfl⟩

set_option maxHeartbeats 1000000 in
theorem told_nil (w : World) :
    Calls Tryd.prog 34 #[.nilIface] w fun e w' => e = .returned (.int .i64 0) ∧ Below w.heap.size w w' := by
  go_enter Tryd.func34, Tryd.ntmps34
  go_wp2
  go_ret
  exact ⟨rfl, Below.refl _ _⟩

set_option maxHeartbeats 1000000 in
theorem told_some (n : Int) (w : World) (hg : HasErr w) :
    Calls Tryd.prog 34 #[.iface 85 (.int .i64 n)] w fun e w' => e = .returned (.int .i64 n) ∧ Below w.heap.size w w' := by
  have HG : Hid (HasErr w) := hg
  clear hg
  go_enter Tryd.func34, Tryd.ntmps34
  go_wp2_with fail
  refine (as_hit n _ (.int .i64 0) _ (HG.out.alloc _) (by simp) (by simp)).mono ?_
  rintro e w' ⟨rfl, rfl⟩
  go_wp2
  go_ret
  refine ⟨rfl, ?_⟩
  exact ((((((Below.refl _ _).alloc (Nat.le_refl _) _).alloc (by simp) _).alloc (by simp; omega) _).alloc (by simp; omega) _).alloc (by simp; omega) _)

set_option maxHeartbeats 1000000 in
theorem same_nil (k : Int) (w : World) :
    Calls Tryd.prog 8 #[.nilIface, .int .i64 k] w fun e w' => e = .returned (.bool (0 == k)) ∧ Below w.heap.size w w' := by
  go_enter Tryd.func8, Tryd.ntmps8
  go_wp2_with fail
  refine (told_nil _).mono ?_
  rintro e w' ⟨rfl, hb⟩
  go_wp2
  go_ret
  exact ⟨rfl, hb⟩

set_option maxHeartbeats 1000000 in
theorem same_some (n k : Int) (w : World) (hg : HasErr w) :
    Calls Tryd.prog 8 #[.iface 85 (.int .i64 n), .int .i64 k] w fun e w' => e = .returned (.bool (n == k)) ∧ Below w.heap.size w w' := by
  have HG : Hid (HasErr w) := hg
  clear hg
  go_enter Tryd.func8, Tryd.ntmps8
  go_wp2_with fail
  refine (told_some n _ HG.out).mono ?_
  rintro e w' ⟨rfl, hb⟩
  go_wp2
  go_ret
  exact ⟨rfl, hb⟩
end Go.Proofs.YtbieljcoaocfkacDoor
/- What railsame.Error answers at the error of a number and this number. -/
namespace Go.Proofs.YtbieljcoaocfkacDoor
open Go.RowKit

theorem same_noV (n : Int) (w : World) (hg : HasErr w) :
    Calls Tryd.prog 8 #[noV n, .int .i64 n] w fun e w' => e = .returned (.bool true) ∧ Below w.heap.size w w' := by
  by_cases h : n = 0
  · subst h
    refine (same_nil _ w).mono ?_
    rintro e w' ⟨rfl, hb⟩
    exact ⟨by simp, hb⟩
  · rw [no_ne h]
    refine (same_some _ _ w hg).mono ?_
    rintro e w' ⟨rfl, hb⟩
    exact ⟨by simp, hb⟩
end Go.Proofs.YtbieljcoaocfkacDoor
/- The walk of NetTurns: it answers true, whatever number it is called with. -/
namespace Go.Proofs.YtbieljcoaocfkacDoor.netTurns
open Go.RowKit
set_option linter.unusedSimpArgs false
set_option linter.unusedVariables false

theorem line_2 (w : World) : Calls Tryd.prog 22 #[.int .i64 2] w fun e w' => ∃ ao n cap ao2 n2 cap2, e = .returned (.agg #[.int .i64 2, .slice ao n cap, .slice ao2 n2 cap2]) ∧ GS lnkE w' (.slice ao n cap) (lnTo 1) ∧ GS hstE w' (.slice ao2 n2 cap2) (lnH 2) ∧ Below w.heap.size w w' :=
  line_any 2 w (by decide) (by decide)
theorem ts_two {W : World} {a1 a2 : Option Addr} {n1 c1 n2 c2 : Nat} {L1 L2 : List Ru} (t : TypeId) (h1 : SR W (.slice a1 n1 c1) L1) (h2 : SR W (.slice a2 n2 c2) L2) :
    TS (W.alloc (.cells #[.slice a1 n1 c1, .slice a2 n2 c2] t)) (.slice (some ⟨W.heap.size, 0, none⟩) 2 2) [L1, L2] := by
  have hb : Below W.heap.size W (W.alloc (.cells #[.slice a1 n1 c1, .slice a2 n2 c2] t)) := (Below.refl _ _).alloc (Nat.le_refl _) _
  refine .inr ⟨W.heap.size, 0, 2, rfl, Nat.le_refl _, by unfold maxLen; omega, ?_⟩
  intro i hi
  match i, hi with
  | 0, _ => exact ⟨a1, n1, c1, by simp, h1.later hb⟩
  | 1, _ => exact ⟨a2, n2, c2, by simp, h2.later hb⟩
theorem sr_one (W : World) (p m b o s v : Int) (t : TypeId) : SR (W.alloc (.cells #[.int .i64 p, .int .i64 m, .int .i64 b, .int .i64 o, .int .i64 s, .int .i64 v] t)) (.slice (some ⟨W.heap.size, 0, none⟩) 1 1) [⟨p, m, b, o, s, v⟩] := by
  refine .inr ⟨W.heap.size, 0, 1, rfl, Nat.le_refl _, by unfold maxLen; omega, ?_⟩
  intro i hi
  match i, hi with
  | 0, _ =>
    have h := vat_new W [.int .i64 p, .int .i64 m, .int .i64 b, .int .i64 o, .int .i64 s, .int .i64 v] t
    exact ⟨h 0 _ rfl, h 1 _ rfl, h 2 _ rfl, h 3 _ rfl, h 4 _ rfl, h 5 _ rfl⟩
theorem sr_two (W : World) (p m b o s v p' m' b' o' s' v' : Int) (t : TypeId) : SR (W.alloc (.cells #[.int .i64 p, .int .i64 m, .int .i64 b, .int .i64 o, .int .i64 s, .int .i64 v, .int .i64 p', .int .i64 m', .int .i64 b', .int .i64 o', .int .i64 s', .int .i64 v'] t)) (.slice (some ⟨W.heap.size, 0, none⟩) 2 2) [⟨p, m, b, o, s, v⟩, ⟨p', m', b', o', s', v'⟩] := by
  refine .inr ⟨W.heap.size, 0, 2, rfl, Nat.le_refl _, by unfold maxLen; omega, ?_⟩
  intro i hi
  have h := vat_new W [.int .i64 p, .int .i64 m, .int .i64 b, .int .i64 o, .int .i64 s, .int .i64 v, .int .i64 p', .int .i64 m', .int .i64 b', .int .i64 o', .int .i64 s', .int .i64 v'] t
  match i, hi with
  | 0, _ => exact ⟨h 0 _ rfl, h 1 _ rfl, h 2 _ rfl, h 3 _ rfl, h 4 _ rfl, h 5 _ rfl⟩
  | 1, _ => exact ⟨h 6 _ rfl, h 7 _ rfl, h 8 _ rfl, h 9 _ rfl, h 10 _ rfl, h 11 _ rfl⟩
theorem ts_nil (W : World) (t : TypeId) : TS (W.alloc (.cells #[.slice none 0 0, .slice none 0 0] t)) (.slice (some ⟨W.heap.size, 0, none⟩) 2 2) [[], []] := ts_two t (.inl ⟨none, 0, rfl, rfl⟩) (.inl ⟨none, 0, rfl, rfl⟩)

set_option maxRecDepth 100000 in
set_option maxHeartbeats 4000000 in
theorem out (h : Int) (hh : hdrB h = false) (w : World) (hg : HasErr w) :
    Calls Tryd.prog 6 #[.int .i64 h] w fun e w' => e = .returned (.bool true) ∧ Below w.heap.size w w' := by
  have HG : Hid (HasErr w) := hg
  have HH : Hid (hdrB h = false) := hh
  have hno := hdr_no hh
  clear hg hh
  by_cases h1 : h < 0
  · have e1 : decide (h < 0) = true := by simpa using h1
    clear hno
    go_enter Tryd.func6, Tryd.ntmps6
    go_wp2_with fail
    refine (line_2 _).mono ?_
    rintro e w1 ⟨ao, n, cap, ao2, n2, cap2, rfl, hL, hH, hb1⟩
    have hal : Below w1.heap.size w1 (w1.alloc (.cells #[.slice none 0 0, .slice none 0 0] 66)) := (Below.refl _ _).alloc (Nat.le_refl _) _
    have HTS := ts_nil w1 66
    have HL : Hid (GS lnkE (w1.alloc (.cells #[.slice none 0 0, .slice none 0 0] 66)) (.slice ao n cap) (lnTo 1)) := hL.later hal
    have HHS : Hid (GS hstE (w1.alloc (.cells #[.slice none 0 0, .slice none 0 0] 66)) (.slice ao2 n2 cap2) (lnH 2)) := hH.later hal
    have HT : Hid (TS (w1.alloc (.cells #[.slice none 0 0, .slice none 0 0] 66)) (.slice (some ⟨w1.heap.size, 0, none⟩) 2 2) [[], []]) := HTS
    have HB1 : Hid (Below w.heap.size w (w1.alloc (.cells #[.slice none 0 0, .slice none 0 0] 66))) := hb1.trans (hal.mono hb1.size)
    clear hal HTS hL hH hb1
    go_wp2_with fail
    refine (send_any 2 ao n cap ao2 n2 cap2 _ 2 2 (lnTo 1) (lnH 2) [[], []] ⟨#[97]⟩ h _ HL.out HHS.out HT.out).mono ?_
    rintro e w2 ⟨ao4, n4, cap4, rfl, _, hb2⟩
    rw [show seN 2 (lnTo 1) (lnH 2) [[], []] ⟨#[97]⟩ h = 1 from turn3 HH.out]
    generalize seV 2 (lnTo 1) (lnH 2) [[], []] ⟨#[97]⟩ h = V
    obtain ⟨V1, V2, V3⟩ := V
    have HB2 : Hid (Below w.heap.size w (w2.alloc (Obj.cells #[.int .i64 V1, .string V2, .slice ao4 n4 cap4] 64))) := (HB1.out.trans (hb2.mono HB1.out.size)).alloc (HB1.out.trans (hb2.mono HB1.out.size)).size _
    have HG2 : Hid (HasErr (w2.alloc (Obj.cells #[.int .i64 V1, .string V2, .slice ao4 n4 cap4] 64))) := HG.out.later HB2.out
    clear hb2
    go_wp2_with fail
    refine (same_noV 1 _ HG2.out).mono ?_
    rintro e w3 ⟨rfl, hb3⟩
    have HB3 : Hid (Below w.heap.size w w3) := HB2.out.trans (hb3.mono HB2.out.size)
    clear hb3
    go_wp2
    go_ret
    exact ⟨rfl, HB3.out⟩
  · have e1 : decide (h < 0) = false := by simpa using h1
    have e2 : decide (15 < h) = true := by simp; omega
    clear hno
    go_enter Tryd.func6, Tryd.ntmps6
    go_wp2_with fail
    refine (line_2 _).mono ?_
    rintro e w1 ⟨ao, n, cap, ao2, n2, cap2, rfl, hL, hH, hb1⟩
    have hal : Below w1.heap.size w1 (w1.alloc (.cells #[.slice none 0 0, .slice none 0 0] 66)) := (Below.refl _ _).alloc (Nat.le_refl _) _
    have HTS := ts_nil w1 66
    have HL : Hid (GS lnkE (w1.alloc (.cells #[.slice none 0 0, .slice none 0 0] 66)) (.slice ao n cap) (lnTo 1)) := hL.later hal
    have HHS : Hid (GS hstE (w1.alloc (.cells #[.slice none 0 0, .slice none 0 0] 66)) (.slice ao2 n2 cap2) (lnH 2)) := hH.later hal
    have HT : Hid (TS (w1.alloc (.cells #[.slice none 0 0, .slice none 0 0] 66)) (.slice (some ⟨w1.heap.size, 0, none⟩) 2 2) [[], []]) := HTS
    have HB1 : Hid (Below w.heap.size w (w1.alloc (.cells #[.slice none 0 0, .slice none 0 0] 66))) := hb1.trans (hal.mono hb1.size)
    clear hal HTS hL hH hb1
    go_wp2_with fail
    refine (send_any 2 ao n cap ao2 n2 cap2 _ 2 2 (lnTo 1) (lnH 2) [[], []] ⟨#[97]⟩ h _ HL.out HHS.out HT.out).mono ?_
    rintro e w2 ⟨ao4, n4, cap4, rfl, _, hb2⟩
    rw [show seN 2 (lnTo 1) (lnH 2) [[], []] ⟨#[97]⟩ h = 1 from turn3 HH.out]
    generalize seV 2 (lnTo 1) (lnH 2) [[], []] ⟨#[97]⟩ h = V
    obtain ⟨V1, V2, V3⟩ := V
    have HB2 : Hid (Below w.heap.size w (w2.alloc (Obj.cells #[.int .i64 V1, .string V2, .slice ao4 n4 cap4] 64))) := (HB1.out.trans (hb2.mono HB1.out.size)).alloc (HB1.out.trans (hb2.mono HB1.out.size)).size _
    have HG2 : Hid (HasErr (w2.alloc (Obj.cells #[.int .i64 V1, .string V2, .slice ao4 n4 cap4] 64))) := HG.out.later HB2.out
    clear hb2
    go_wp2_with fail
    refine (same_noV 1 _ HG2.out).mono ?_
    rintro e w3 ⟨rfl, hb3⟩
    have HB3 : Hid (Below w.heap.size w w3) := HB2.out.trans (hb3.mono HB2.out.size)
    clear hb3
    go_wp2
    go_ret
    exact ⟨rfl, HB3.out⟩
theorem al (X : World) (o : Obj) : ∃ Y, X.alloc o = Y ∧ Below X.heap.size X Y ∧ Y.heap.size = X.heap.size + 1 := ⟨_, rfl, (Below.refl _ _).alloc (Nat.le_refl _) _, by simp⟩
set_option maxRecDepth 100000 in
set_option maxHeartbeats 8000000 in
theorem inn (h : Int) (hh : hdrB h = true) (w : World) :
    Calls Tryd.prog 6 #[.int .i64 h] w fun e w' => e = .returned (.bool true) ∧ Below w.heap.size w w' := by
  have HH : Hid (hdrB h = true) := hh
  have hin := hdr_of hh
  have e1 : decide (h < 0) = false := by simp; omega
  have e2 : decide (15 < h) = false := by simp; omega
  clear hh hin
  go_enter Tryd.func6, Tryd.ntmps6
  go_wp2_with fail
  refine (line_2 _).mono ?_
  rintro e w1 ⟨ao, n, cap, ao2, n2, cap2, rfl, hL, hH, hb1⟩
  have HLW : Hid (∀ W, Below w1.heap.size w1 W → GS lnkE W (.slice ao n cap) (lnTo 1)) := fun W hb => hL.later hb
  have HHW : Hid (∀ W, Below w1.heap.size w1 W → GS hstE W (.slice ao2 n2 cap2) (lnH 2)) := fun W hb => hH.later hb
  have HB1 : Hid (Below w.heap.size w w1) := hb1
  clear hL hH hb1
  obtain ⟨A1, h1, b1, s1⟩ := al w1 (Obj.cells #[.int .i64 2, .slice ao n cap, .slice ao2 n2 cap2] 25)
  obtain ⟨A2, h2, b2, s2⟩ := al A1 (Obj.cells #[.int .i64 1, .int .i64 0, .int .i64 0, .int .i64 2, .int .i64 0, .int .i64 0] 71)
  have v2 := vat_new A1 [.int .i64 1, .int .i64 0, .int .i64 0, .int .i64 2, .int .i64 0, .int .i64 0] 71
  obtain ⟨A3, h3, b3, s3⟩ := al A2 (Obj.cells #[.int .i64 1, .int .i64 0, .int .i64 0, .int .i64 1, .int .i64 0, .int .i64 0] 71)
  have v3 := vat_new A2 [.int .i64 1, .int .i64 0, .int .i64 0, .int .i64 1, .int .i64 0, .int .i64 0] 71
  obtain ⟨A4, h4, b4, s4⟩ := al A3 (Obj.cells #[.int .i64 1, .int .i64 0, .int .i64 0, .int .i64 2, .int .i64 0, .int .i64 0] 71)
  have r4 := sr_one A3 1 0 0 2 0 0 71
  obtain ⟨A5, h5, b5, s5⟩ := al A4 (Obj.cells #[.int .i64 1, .int .i64 0, .int .i64 0, .int .i64 1, .int .i64 0, .int .i64 0] 71)
  have r5 := sr_one A4 1 0 0 1 0 0 71
  rw [s1] at s2
  rw [s2] at s3
  rw [s3] at s4
  rw [s4] at s5
  rw [h4, s3] at r4
  rw [h5, s4] at r5
  rw [h2, s1] at v2
  rw [h3, s2] at v3
  obtain ⟨A6, h6, b6, s6⟩ := al A5 (Obj.cells #[.slice (some ⟨w1.heap.size + 1 + 1 + 1, 0, none⟩) 1 1, .slice (some ⟨w1.heap.size + 1 + 1 + 1 + 1, 0, none⟩) 1 1] 66)
  have r6 := ts_two 66 (r4.later b5) r5
  rw [h6, s5] at r6
  rw [s5] at s6
  obtain ⟨A7, h7, b7, s7⟩ := al A6 (Obj.cells #[.int .i64 2, .slice ao n cap, .slice ao2 n2 cap2, .slice (some ⟨w1.heap.size + 1 + 1 + 1 + 1 + 1, 0, none⟩) 2 2] 58)
  have n7 := nebox_new A6 2 (.slice ao n cap) (.slice ao2 n2 cap2) (.slice (some ⟨w1.heap.size + 1 + 1 + 1 + 1 + 1, 0, none⟩) 2 2) 58
  have z7 := froz_new2 A6 #[.int .i64 2, .slice ao n cap, .slice ao2 n2 cap2, .slice (some ⟨w1.heap.size + 1 + 1 + 1 + 1 + 1, 0, none⟩) 2 2] 58 3
  rw [h7, s6] at n7 z7
  rw [s6] at s7
  have HT7 : Hid (TS A7 (.slice (some ⟨w1.heap.size + 1 + 1 + 1 + 1 + 1, 0, none⟩) 2 2) [[ruG], [ruK]]) := r6.later b7
  have HV2 : Hid (VAt A7 (w1.heap.size + 1) 0 [.int .i64 1, .int .i64 0, .int .i64 0, .int .i64 2, .int .i64 0, .int .i64 0]) := ((((v2.later b3).later b4).later b5).later b6).later b7
  have HV3 : Hid (VAt A7 (w1.heap.size + 1 + 1) 0 [.int .i64 1, .int .i64 0, .int .i64 0, .int .i64 1, .int .i64 0, .int .i64 0]) := (((v3.later b4).later b5).later b6).later b7
  have HN7 : Hid (NeBox A7 (w1.heap.size + 1 + 1 + 1 + 1 + 1 + 1) 2 (.slice ao n cap) (.slice ao2 n2 cap2) (.slice (some ⟨w1.heap.size + 1 + 1 + 1 + 1 + 1, 0, none⟩) 2 2)) := n7
  have HZ7 : Hid (A7.frozen? ⟨w1.heap.size + 1 + 1 + 1 + 1 + 1 + 1, 3, none⟩ = false) := z7
  have HB7 : Hid (Below w1.heap.size w1 A7) := (((((b1.trans (b2.mono (by omega))).trans (b3.mono (by omega))).trans (b4.mono (by omega))).trans (b5.mono (by omega))).trans (b6.mono (by omega))).trans (b7.mono (by omega))
  have H1 : Hid (w1.alloc (Obj.cells #[.int .i64 2, .slice ao n cap, .slice ao2 n2 cap2] 25) = A1) := h1
  have H2 : Hid (A1.alloc (Obj.cells #[.int .i64 1, .int .i64 0, .int .i64 0, .int .i64 2, .int .i64 0, .int .i64 0] 71) = A2) := h2
  have H3 : Hid (A2.alloc (Obj.cells #[.int .i64 1, .int .i64 0, .int .i64 0, .int .i64 1, .int .i64 0, .int .i64 0] 71) = A3) := h3
  have H4 : Hid (A3.alloc (Obj.cells #[.int .i64 1, .int .i64 0, .int .i64 0, .int .i64 2, .int .i64 0, .int .i64 0] 71) = A4) := h4
  have H5 : Hid (A4.alloc (Obj.cells #[.int .i64 1, .int .i64 0, .int .i64 0, .int .i64 1, .int .i64 0, .int .i64 0] 71) = A5) := h5
  have H6 : Hid (A5.alloc (Obj.cells #[.slice (some ⟨w1.heap.size + 1 + 1 + 1, 0, none⟩) 1 1, .slice (some ⟨w1.heap.size + 1 + 1 + 1 + 1, 0, none⟩) 1 1] 66) = A6) := h6
  have H7 : Hid (A6.alloc (Obj.cells #[.int .i64 2, .slice ao n cap, .slice ao2 n2 cap2, .slice (some ⟨w1.heap.size + 1 + 1 + 1 + 1 + 1, 0, none⟩) 2 2] 58) = A7) := h7
  have HS7 : Hid (A7.heap.size = w1.heap.size + 1 + 1 + 1 + 1 + 1 + 1 + 1) := s7
  clear h1 h2 h3 h4 h5 h6 h7 b1 b2 b3 b4 b5 b6 b7 s1 s2 s3 s4 s5 s6 s7 v2 v3 r4 r5 r6 n7 z7
  go_wp2_with fail
  rw [H1.out, H2.out, H3.out, H4.out, H5.out, H6.out, H7.out]
  refine (send_any 2 ao n cap ao2 n2 cap2 _ 2 2 (lnTo 1) (lnH 2) [[ruG], [ruK]] ⟨#[97]⟩ h _ (HLW.out _ HB7.out) (HHW.out _ HB7.out) HT7.out).mono ?_
  rintro e w9 ⟨ao4, n4, cap4, rfl, hown, hb9⟩
  obtain ⟨t1, t2, t3⟩ := turn1 HH.out
  have hn4 : n4 = 3 := by
    have h1 := (own_GS (E := hopE) hown).len
    rw [← h1]
    exact t3
  subst hn4
  rw [show seN 2 (lnTo 1) (lnH 2) [[ruG], [ruK]] ⟨#[97]⟩ h = 0 from t1, no_ok rfl, show (seV 2 (lnTo 1) (lnH 2) [[ruG], [ruK]] ⟨#[97]⟩ h).1 = 4 from t2]
  generalize (seV 2 (lnTo 1) (lnH 2) [[ruG], [ruK]] ⟨#[97]⟩ h).2.1 = nm
  obtain ⟨c0, c1, c2, c3⟩ := HN7.out.later hb9
  have z3 := (hb9.frozen (p := ⟨w1.heap.size + 1 + 1 + 1 + 1 + 1 + 1, 3, none⟩) (show w1.heap.size + 1 + 1 + 1 + 1 + 1 + 1 < A7.heap.size by rw [HS7.out]; omega)).trans HZ7.out
  have v2 := HV2.out.later hb9
  have v3 := HV3.out.later hb9
  have p0 : w9.cell? ⟨w1.heap.size + 1, 0, none⟩ = _ := v2 0 _ rfl
  have p1 : w9.cell? ⟨w1.heap.size + 1, 1, none⟩ = _ := v2 1 _ rfl
  have p2 : w9.cell? ⟨w1.heap.size + 1, 2, none⟩ = _ := v2 2 _ rfl
  have p3 : w9.cell? ⟨w1.heap.size + 1, 3, none⟩ = _ := v2 3 _ rfl
  have p4 : w9.cell? ⟨w1.heap.size + 1, 4, none⟩ = _ := v2 4 _ rfl
  have p5 : w9.cell? ⟨w1.heap.size + 1, 5, none⟩ = _ := v2 5 _ rfl
  have q0 : w9.cell? ⟨w1.heap.size + 1 + 1, 0, none⟩ = _ := v3 0 _ rfl
  have q1 : w9.cell? ⟨w1.heap.size + 1 + 1, 1, none⟩ = _ := v3 1 _ rfl
  have q2 : w9.cell? ⟨w1.heap.size + 1 + 1, 2, none⟩ = _ := v3 2 _ rfl
  have q3 : w9.cell? ⟨w1.heap.size + 1 + 1, 3, none⟩ = _ := v3 3 _ rfl
  have q4 : w9.cell? ⟨w1.heap.size + 1 + 1, 4, none⟩ = _ := v3 4 _ rfl
  have q5 : w9.cell? ⟨w1.heap.size + 1 + 1, 5, none⟩ = _ := v3 5 _ rfl
  have HB9 : Hid (Below w1.heap.size w1 w9) := HB7.out.trans (hb9.mono HB7.out.size)
  have HS9 : Hid (w1.heap.size + 1 + 1 + 1 + 1 + 1 + 1 + 1 ≤ w9.heap.size) := by
    show _ ≤ _
    rw [← HS7.out]
    exact hb9.size
  have hs9 := HS9.out
  have y1 : w1.heap.size + 1 < w9.heap.size := by omega
  have y2 : w1.heap.size + 1 + 1 < w9.heap.size := by omega
  have y3 : w1.heap.size + 1 + 1 + 1 + 1 + 1 + 1 < w9.heap.size := by omega
  obtain ⟨g8, hg8⟩ : ∃ g, w1.heap.size + 1 + 1 + 1 + 1 + 1 + 1 = g := ⟨_, rfl⟩
  obtain ⟨g6, hg6⟩ : ∃ g, w1.heap.size + 1 = g := ⟨_, rfl⟩
  obtain ⟨g7, hg7⟩ : ∃ g, g6 + 1 = g := ⟨_, rfl⟩
  have HG8 : Hid (w1.heap.size ≤ g8 ∧ g8 ≠ g6 ∧ g8 ≠ g7) := ⟨by omega, by omega, by omega⟩
  rw [hg8] at c0 c1 c2 c3 z3 y3 ⊢
  rw [hg6] at p0 p1 p2 p3 p4 p5 q0 q1 q2 q3 q4 q5 y1 y2 ⊢
  rw [hg7] at q0 q1 q2 q3 q4 q5 y2 ⊢
  clear hown hb9 t1 t2 t3 v2 v3 hs9 HT7 HV2 HV3 HN7 HZ7 H1 H2 H3 H4 H5 H6 H7 hg8 hg6 hg7 HB7
  go_upto_region 11 with fail
  obtain ⟨D1, hD1, bD, sD⟩ := al w9 (Obj.cells #[.int .i64 4, .string nm, .slice ao4 3 cap4] 64)
  rw [hD1]
  replace p0 := cell_later bD p0
  replace p1 := cell_later bD p1
  replace p2 := cell_later bD p2
  replace p3 := cell_later bD p3
  replace p4 := cell_later bD p4
  replace p5 := cell_later bD p5
  replace q0 := cell_later bD q0
  replace q1 := cell_later bD q1
  replace q2 := cell_later bD q2
  replace q3 := cell_later bD q3
  replace q4 := cell_later bD q4
  replace q5 := cell_later bD q5
  replace c0 := cell_later bD c0
  replace c1 := cell_later bD c1
  replace c2 := cell_later bD c2
  replace c3 := cell_later bD c3
  replace z3 := (bD.frozen (p := ⟨g8, 3, none⟩) y3).trans z3
  replace y1 : g6 < D1.heap.size := by omega
  replace y2 : g7 < D1.heap.size := by omega
  replace y3 : g8 < D1.heap.size := by omega
  have x6 : g6 < D1.heap.size + 1 := by omega
  have x7 : g7 < D1.heap.size + 1 := by omega
  have x7' : g7 < D1.heap.size + 1 + 1 := by omega
  have x8 : g8 < D1.heap.size + 1 := by omega
  have x8' : g8 < D1.heap.size + 1 + 1 := by omega
  have x8'' : g8 < D1.heap.size + 1 + 1 + 1 := by omega
  have hBD : Below w1.heap.size w1 D1 := HB9.out.trans (bD.mono HB9.out.size)
  obtain ⟨E0, hE0⟩ : ∃ E, D1.setCell ⟨g8, 3, none⟩ (.slice (some ⟨D1.heap.size + 1 + 1 + 1, 0, none⟩) 2 2) = E := ⟨_, rfl⟩
  have hBE0 : Below w1.heap.size w1 E0 := by
    rw [← hE0]
    exact hBD.setCell (p := ⟨g8, 3, none⟩) HG8.out.1 _
  have sE0 : E0.heap.size = D1.heap.size := by
    rw [← hE0]
    simp
  have d0 : E0.cell? ⟨g8, 0, none⟩ = some (.int .i64 2) := by
    rw [← hE0, World.cell?_setCell_other _ _ _ _ (by simp)]
    exact c0
  have d1 : E0.cell? ⟨g8, 1, none⟩ = some (.slice ao n cap) := by
    rw [← hE0, World.cell?_setCell_other _ _ _ _ (by simp)]
    exact c1
  have d2 : E0.cell? ⟨g8, 2, none⟩ = some (.slice ao2 n2 cap2) := by
    rw [← hE0, World.cell?_setCell_other _ _ _ _ (by simp)]
    exact c2
  have d3 : E0.cell? ⟨g8, 3, none⟩ = some (.slice (some ⟨D1.heap.size + 1 + 1 + 1, 0, none⟩) 2 2) := by
    rw [← hE0]
    exact World.cell?_setCell_same _ _ _ c3
  obtain ⟨E1, h1, b1, s1⟩ := al E0 (Obj.cells #[.int .i64 5, .int .i64 15, .int .i64 h, .int .i64 0, .int .i64 0, .int .i64 0] 71)
  rw [sE0] at s1
  obtain ⟨E2, h2, b2, s2⟩ := al E1 (Obj.cells #[.int .i64 1, .int .i64 0, .int .i64 0, .int .i64 2, .int .i64 0, .int .i64 0] 71)
  have r2 := sr_one E1 1 0 0 2 0 0 71
  rw [h2, s1] at r2
  rw [s1] at s2
  obtain ⟨E3, h3, b3, s3⟩ := al E2 (Obj.cells #[.int .i64 5, .int .i64 15, .int .i64 h, .int .i64 0, .int .i64 0, .int .i64 0, .int .i64 1, .int .i64 0, .int .i64 0, .int .i64 1, .int .i64 0, .int .i64 0] 71)
  have r3 := sr_two E2 5 15 h 0 0 0 1 0 0 1 0 0 71
  rw [h3, s2] at r3
  rw [s2] at s3
  obtain ⟨E4, h4, b4, s4⟩ := al E3 (Obj.cells #[.slice (some ⟨D1.heap.size + 1, 0, none⟩) 1 1, .slice (some ⟨D1.heap.size + 1 + 1, 0, none⟩) 2 2] 66)
  have r4 := ts_two 66 (r2.later b3) r3
  rw [h4, s3] at r4
  have HT4 : Hid (TS E4 (.slice (some ⟨D1.heap.size + 1 + 1 + 1, 0, none⟩) 2 2) [[ruG], [ruD h, ruK]]) := r4
  have HB4 : Hid (Below w1.heap.size w1 E4) := (((hBE0.trans (b1.mono hBE0.size)).trans (b2.mono (hBE0.trans (b1.mono hBE0.size)).size)).trans (b3.mono ((hBE0.trans (b1.mono hBE0.size)).trans (b2.mono (hBE0.trans (b1.mono hBE0.size)).size)).size)).trans (b4.mono (((hBE0.trans (b1.mono hBE0.size)).trans (b2.mono (hBE0.trans (b1.mono hBE0.size)).size)).trans (b3.mono ((hBE0.trans (b1.mono hBE0.size)).trans (b2.mono (hBE0.trans (b1.mono hBE0.size)).size)).size)).size)
  have HD0 : Hid (E4.cell? ⟨g8, 0, none⟩ = some (.int .i64 2)) := cell_later b4 (cell_later b3 (cell_later b2 (cell_later b1 d0)))
  have HD1 : Hid (E4.cell? ⟨g8, 1, none⟩ = some (.slice ao n cap)) := cell_later b4 (cell_later b3 (cell_later b2 (cell_later b1 d1)))
  have HD2 : Hid (E4.cell? ⟨g8, 2, none⟩ = some (.slice ao2 n2 cap2)) := cell_later b4 (cell_later b3 (cell_later b2 (cell_later b1 d2)))
  have HD3 : Hid (E4.cell? ⟨g8, 3, none⟩ = some (.slice (some ⟨D1.heap.size + 1 + 1 + 1, 0, none⟩) 2 2)) := cell_later b4 (cell_later b3 (cell_later b2 (cell_later b1 d3)))
  have H0 : Hid (D1.setCell ⟨g8, 3, none⟩ (.slice (some ⟨D1.heap.size + 1 + 1 + 1, 0, none⟩) 2 2) = E0) := hE0
  have H1 : Hid (E0.alloc (Obj.cells #[.int .i64 5, .int .i64 15, .int .i64 h, .int .i64 0, .int .i64 0, .int .i64 0] 71) = E1) := h1
  have H2 : Hid (E1.alloc (Obj.cells #[.int .i64 1, .int .i64 0, .int .i64 0, .int .i64 2, .int .i64 0, .int .i64 0] 71) = E2) := h2
  have H3 : Hid (E2.alloc (Obj.cells #[.int .i64 5, .int .i64 15, .int .i64 h, .int .i64 0, .int .i64 0, .int .i64 0, .int .i64 1, .int .i64 0, .int .i64 0, .int .i64 1, .int .i64 0, .int .i64 0] 71) = E3) := h3
  have H4 : Hid (E3.alloc (Obj.cells #[.slice (some ⟨D1.heap.size + 1, 0, none⟩) 1 1, .slice (some ⟨D1.heap.size + 1 + 1, 0, none⟩) 2 2] 66) = E4) := h4
  clear hD1 bD sD hBD hE0 hBE0 sE0 d0 d1 d2 d3 h1 h2 h3 h4 b1 b2 b3 b4 s1 s2 s3 s4 r2 r3 r4 HB9 HS9 HS7
  go_upto_region 13 with fail
  rw [H0.out, H1.out, H2.out, H3.out, H4.out]
  have e0 := HD0.out
  have e3 := HD1.out
  have e4 := HD2.out
  have e5 := HD3.out
  clear c0 c1 c2 c3 z3 p0 p1 p2 p3 p4 p5 q0 q1 q2 q3 q4 q5 H0 H1 H2 H3 H4
  go_wp2_with fail
  refine (send_any 2 ao n cap ao2 n2 cap2 _ 2 2 (lnTo 1) (lnH 2) [[ruG], [ruD h, ruK]] ⟨#[97]⟩ h _ (HLW.out _ HB4.out) (HHW.out _ HB4.out) HT4.out).mono ?_
  rintro e wE ⟨ao5, n5, cap5, rfl, hown, hbE⟩
  obtain ⟨t1, t2, t3⟩ := turn2 HH.out
  have hn5 : n5 = 2 := by
    have h1 := (own_GS (E := hopE) hown).len
    rw [← h1]
    exact t3
  subst hn5
  rw [show seN 2 (lnTo 1) (lnH 2) [[ruG], [ruD h, ruK]] ⟨#[97]⟩ h = 0 from t1, no_ok rfl, show (seV 2 (lnTo 1) (lnH 2) [[ruG], [ruD h, ruK]] ⟨#[97]⟩ h).1 = 2 from t2]
  generalize (seV 2 (lnTo 1) (lnH 2) [[ruG], [ruD h, ruK]] ⟨#[97]⟩ h).2.1 = nm2
  have hBE : Below w1.heap.size w1 wE := HB4.out.trans (hbE.mono HB4.out.size)
  have hBF : Below w.heap.size w wE := HB1.out.trans (hBE.mono HB1.out.size)
  have HBE : Hid (Below w.heap.size w (wE.alloc (Obj.cells #[.int .i64 2, .string nm2, .slice ao5 2 cap5] 64))) := hBF.alloc hBF.size _
  clear hown hbE t1 t2 t3 hBE hBF e0 e3 e4 e5
  go_wp2
  go_ret
  exact ⟨rfl, HBE.out⟩
theorem walk (h : Int) (w : World) (hg : HasErr w) :
    Calls Tryd.prog 6 #[.int .i64 h] w fun e w' => e = .returned (.bool true) ∧ Below w.heap.size w w' := by
  cases hh : hdrB h
  · exact out h hh w hg
  · exact inn h hh w
end Go.Proofs.YtbieljcoaocfkacDoor.netTurns
/- The row of NetTurns: it answers true, whatever number it is called with; the variable errorType of package errors is as the program's text lays it. -/
namespace Go.Proofs.YtbieljcoaocfkacDoor.netTurns
open Go.ChangeShapes Go.WideShapes Go.ChangeAt Go.RowKit
set_option linter.unusedVariables false
set_option linter.unusedSimpArgs false

theorem own : ownKnob Tryd.prog.godebug = none := by kernel_rfl
theorem laidOut : laidOutB Tryd.prog = true := by kernel_rfl
theorem et : Tryd.prog.globalNamed "errors.errorType" = some 0 := by kernel_rfl
theorem oneRow : ((List.range 201).filter fun t => Tryd.prog.rowNamed t [101, 114, 114, 111, 114]) = [31] := by kernel_rfl
theorem tsize : Tryd.prog.types.size = 201 := by kernel_rfl

theorem handle_of_laid {W : World} (h : laidMetH Tryd.prog Rows.netTurnsRow.laid W) : HasErr W := by
  have h' : laidMet Tryd.prog [] W ∧ handlesMet Tryd.prog Rows.netTurnsRow.laid W := h
  obtain ⟨name, u, ty, e1, e2, e3, e4, e5⟩ := h'.2 _ (List.mem_singleton.2 rfl)
  have en : name = [101, 114, 114, 111, 114] := (Option.some.inj e1).symm
  subst en
  have hu : some u = some 154 := e2.symm.trans (by kernel_rfl)
  obtain rfl := Option.some.inj hu
  have hm : ty ∈ (List.range 201).filter fun t => Tryd.prog.rowNamed t [101, 114, 114, 111, 114] := List.mem_filter.2 ⟨List.mem_range.2 (by rw [← tsize]; exact e3), e4⟩
  rw [oneRow] at hm
  obtain rfl := List.mem_singleton.1 hm
  have hh : typeHandle Tryd.prog 31 = .pointer (some ⟨1, 31, none⟩) := by kernel_rfl
  rw [hh] at e5
  unfold HasErr
  simpa using World.var?_cell et e5 0

set_option maxRecDepth 100000 in
theorem lifted (os : Os) (started : os.Started) (H : Type) (enc : TypeId × Value → H) :
    ReturnsInHanded {} Tryd.checked os 6 .any (fun w args => (Rows.netTurnsSpec.pre enc Tryd.prog Tryd.f6 [] false w args ∧ laidMetH Tryd.prog Rows.netTurnsRow.laid w) ∧ sizedMet enc Tryd.prog Tryd.f6 (OpenSpec.ofChange Rows.netTurnsSpec) false w args)
      (Rows.netTurnsSpec.post enc Tryd.prog Tryd.f6 false true false false) := by
  refine returnsInHanded_of_change_and (C := Tryd.checked) (X := fun w _ => laidMetH Tryd.prog Rows.netTurnsRow.laid w) (fun _ _ _ hh h => h.of_heap hh) own started (by kernel_rfl) Tryd.func6
    (ChangeSpec.witness_at (enc := enc) (C := Tryd.checked) (os := os) (X := fun w _ => laidMetH Tryd.prog Rows.netTurnsRow.laid w) false
      { World.holding Tryd.prog os ⟨#[], #[], []⟩ with heap := (World.holding Tryd.prog os ⟨#[], #[], []⟩).heap.modify 0 fun
          | .cells _ t frozen => .cells #[.iface 154 (.agg #[.pointer (some ⟨1, 31, none⟩)])] t frozen
          | o => o }
      #[.int .i64 0] 8 rfl (by kernel_rfl) (by kernel_rfl) (by kernel_rfl) (by kernel_rfl) (by kernel_rfl) (laidMetH_of_parts (laidMet_nil _ _) (by kernel_rfl))) ?_
  intro W base args ds gs before hval0 hW _ _ hL _
  have hval : ∀ (j : Nat) t v, Tryd.f6.params[j]? = some t → args[j]? = some v → Value.okWide Tryd.prog W .any base t v := hval0
  have hW' := hW
  obtain ⟨p, q, hA0, hV0, rfl, hfz, hnd⟩ := hW
  have hA : DataW.TrodAll enc Tryd.prog W 0 (fun _ => true) true Tryd.f6.params.toList args.toList ds p := hA0
  have hV : DataW.TrodVars enc Tryd.prog W (fun _ => true) [] gs q := hV0
  rw [Tryd.params6] at hA hval
  obtain ⟨v0, vs0, d0, ds0, p0, q0, hargs, rfl, rfl, h0, r0⟩ := trodAll_cons hA
  obtain ⟨rfl, rfl, rfl⟩ := trodAll_nil r0
  obtain rfl : args = #[v0] := by cases args; simp_all
  have hg := handle_of_laid hL
  obtain ⟨rfl, rfl⟩ : gs = [] ∧ q = [] := by
    cases gs with
    | nil => exact ⟨rfl, hV⟩
    | cons g r => exact absurd hV (by intro h; cases h)
  obtain ⟨n, rfl, rfl, rfl, wn⟩ := open_int Tryd.underlying3 (hval 0 3 v0 rfl rfl) h0
  clear hA0 hval0
  refine (walk n W hg).mono fun e W' ⟨he, bel⟩ => ?_
  subst he
  exact ⟨_, rfl, _, _, _, [], _, [], hW', trodAll_mk1 (shut_bool Tryd.underlying4 _), (trodAll_cons_mk (shut_int Tryd.underlying3 wn) trodAll_mk0), rfl, bel.frame _, fun h => by cases h⟩

theorem over : Rows.NetTurnsSaid :=
  OpenClaim.holds_of_wide 6 Tryd.f6 rfl rfl rfl rfl rfl rfl rfl ⟨rfl, rfl, rfl, rfl, rfl⟩ rfl rfl rfl rfl rfl (by kernel_rfl) Tryd.func6 (by kernel_rfl)
    (of_decide_eq_true (by kernel_rfl)) (by unfold Func.isWrapper; first | (rw [if_pos (by decide +kernel)]; kernel_rfl) | (rw [if_neg (by decide +kernel)]; exact ⟨rfl, rfl⟩))
    (fun os started H enc _ => lifted os started H enc)
end Go.Proofs.YtbieljcoaocfkacDoor.netTurns
