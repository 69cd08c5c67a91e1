/- Contracts and facts on the way to WishTells, joined into one text: RefNet, AsErr, AsErr2, SameAny, SameNo, WishTells, TopoOf, StCube, StRule, NetOf, FateOf, RuleLaid, WishTellsRow. -/
import Derived.Test.YtpmcjelihdlfeaaGreatDoorWishTellsP4
import Derived.Test.YtpmcjelihdlfeaaGreatDoorWishTellsP9
import Derived.Test.YtpmcjelihdlfeaaGreatDoorWishTellsP11
import Derived.Test.YtpmcjelihdlfeaaGreatDoorWishTellsP2
import Derived.Test.YtpmcjelihdlfeaaGreatDoorWishTellsP8
import Derived.Test.YtpmcjelihdlfeaaGreatDoorWishTellsP3
import Derived.Test.YtpmcjelihdlfeaaGreatDoorWishTellsP1
import Derived.Test.YtpmcjelihdlfeaaGreatDoorRows
import Derived.WalkSpells
import Derived.Below
import Derived.WalkKit
import Derived.LaidEql
import Derived.Stop.Asserts
import Derived.RowKitTokens
import Derived.Deep.QuietTactic
import Derived.BigQuiet
import Derived.Deep.CutRange
import Derived.Deep.CutBlock
import Derived.Lib.SmallJoins
import Derived.Laws.StructEq
import Derived.Maps.OwnOps
import GoSem.PinnedTables
import Derived.ProofKit
import Derived.OpenShut
import Derived.ShutString
import Derived.ChangeOld
import Derived.ChangeSame
import Derived.ChangeVars
import Derived.JoinedOf
import Derived.RowKit
import Derived.LaidLaws
import Derived.LaidHandle
import Derived.Stop.Joined
import Derived.Deep.DeepHandedRow
import Derived.Deep.DeepWitnessRowRef
/- What railref1.Net answers: a contract for the walks above it. -/
namespace Go.Proofs.YtpmcjelihdlfeaaGreatDoor
open Go.RowKit
set_option linter.unusedSimpArgs false
set_option linter.unusedVariables false

set_option maxHeartbeats 2000000 in
set_option maxRecDepth 100000 in
theorem rnet_any (S : Int) (ao : Option Addr) (n cap : Nat) (ao2 : Option Addr) (n2 cap2 : Nat) (ao3 : Option Addr) (n3 cap3 : Nat) (Ls : List ((Int × Int) × (Int × Int))) (Hs : List (ByteArray × (Int × Int))) (Ts : List (List Ru)) (w : World)
    (hL : GS lnkE w (.slice ao n cap) Ls) (hH : GS hstE w (.slice ao2 n2 cap2) Hs) (hT : TS w (.slice ao3 n3 cap3) Ts) :
    Calls Tryz.prog 11 #[.agg #[.int .i64 S, .slice ao n cap, .slice ao2 n2 cap2, .slice ao3 n3 cap3]] w fun e w' => e = .returned (.int .i64 (ntN S Ls Hs Ts)) ∧ Below w.heap.size w w' := by
  have hb1 : Below w.heap.size w (w.alloc (Obj.cells #[.int .i64 S, .slice ao n cap, .slice ao2 n2 cap2, .slice ao3 n3 cap3] 28)) := (Below.refl _ _).alloc (Nat.le_refl _) _
  obtain ⟨C, hC⟩ : ∃ C, C = ntN S Ls Hs Ts := ⟨_, rfl⟩
  have HC : Hid (C = ntN S Ls Hs Ts) := hC
  rw [← hC]
  have HL2 : Hid (GS lnkE (w.alloc (Obj.cells #[.int .i64 S, .slice ao n cap, .slice ao2 n2 cap2, .slice ao3 n3 cap3] 28)) (.slice ao n cap) Ls) := hL.later hb1
  have HH2 : Hid (GS hstE (w.alloc (Obj.cells #[.int .i64 S, .slice ao n cap, .slice ao2 n2 cap2, .slice ao3 n3 cap3] 28)) (.slice ao2 n2 cap2) Hs) := hH.later hb1
  have HT2 : Hid (TS (w.alloc (Obj.cells #[.int .i64 S, .slice ao n cap, .slice ao2 n2 cap2, .slice ao3 n3 cap3] 28)) (.slice ao3 n3 cap3) Ts) := hT.later hb1
  have HB2 : Hid (Below w.heap.size w (w.alloc (Obj.cells #[.int .i64 S, .slice ao n cap, .slice ao2 n2 cap2, .slice ao3 n3 cap3] 28))) := hb1
  have HX : Hid (NeBox (w.alloc (Obj.cells #[.int .i64 S, .slice ao n cap, .slice ao2 n2 cap2, .slice ao3 n3 cap3] 28)) w.heap.size S (.slice ao n cap) (.slice ao2 n2 cap2) (.slice ao3 n3 cap3)) := nebox_new w S _ _ _ 28
  clear hC hb1 hL hH hT
  go_enter Tryz.func11, Tryz.ntmps11
  go_wp2_with fail
  refine (rtopo_any S ao n cap ao2 n2 cap2 Ls Hs _ HL2.out HH2.out).mono ?_
  rintro e w1 ⟨rfl, hb1⟩
  obtain ⟨T, hT⟩ : ∃ T, T = tpN S Ls Hs := ⟨_, rfl⟩
  have HT : Hid (T = tpN S Ls Hs) := hT
  rw [← hT]
  have HB1 : Hid (Below w.heap.size w w1) := HB2.out.trans (hb1.mono HB2.out.size)
  obtain ⟨b0, b1, b2, b3⟩ := HX.out.later hb1
  have HT1 : Hid (TS w1 (.slice ao3 n3 cap3) Ts) := HT2.out.later hb1
  clear hT hb1 HX HL2 HH2 HB2 HT2
  by_cases h0 : T = 0
  · subst h0
    obtain ⟨_, _, _, e2, hTn, hTm, _, hTa⟩ := HT1.out.form
    cases e2
    have HTN : Hid (Ts.length = n3) := hTn
    have HTM : Hid (n3 ≤ maxLen) := hTm
    have HTA : Hid (0 < n3 → ∃ g o, ao3 = some ⟨g, o, none⟩ ∧ TAt w1 g o Ts ∧ cap3 ≤ maxLen) := hTa
    have n63 : n3 ≤ 9223372036854775807 := by unfold maxLen at hTm; omega
    clear hTn hTm hTa HT1
    by_cases hS : (n3 : Int) = S
    · have HC2 : Hid (C = tsTo Ts n3) := by
        show _ = _
        rw [HC.out, ntN, if_pos HT.out.symm, if_pos (by rw [HTN.out]; exact hS), HTN.out]
      have e1 : ((n3 : Int) != S) = false := by simp [hS]
      have HXB : Hid (NeBox w1 w.heap.size S (.slice ao n cap) (.slice ao2 n2 cap2) (.slice ao3 n3 cap3)) := ⟨b0, b1, b2, b3⟩
      clear hS HC
      go_wp2
      go_loopw [4] (fun i wr => ∃ k : Nat, k ≤ n3 ∧ i = .int .i64 k ∧ tsTo Ts k = 0 ∧ Below w1.heap.size w1 wr) (fun i _ => n3 - (intOf i).toNat)
      case atStart => exact ⟨0, by omega, rfl, rfl, Below.refl _ _⟩
      case round =>
        obtain ⟨k, hk, rfl, hz, hB⟩ := hrel
        have HZ : Hid (tsTo Ts k = 0) := hz
        have HB : Hid (Below w1.heap.size w1 wr) := hB
        have HBw : Hid (Below w.heap.size w wr) := HB1.out.trans (hB.mono HB1.out.size)
        obtain ⟨b0, b1, b2, b3⟩ := HXB.out.later hB
        clear hz
        by_cases hlt : k < n3
        · obtain ⟨g, o, hao, hc, _⟩ := HTA.out (by omega)
          subst hao
          obtain ⟨a4, n4, c4, q0, hs⟩ := (hc.later hB) k (by rw [HTN.out]; exact hlt)
          have HS4 : Hid (SR wr (.slice a4 n4 c4) (Ts.getD k [])) := by
            show SR _ _ _
            rw [getT (by rw [HTN.out]; exact hlt)]
            exact hs
          clear hs hc hB
          go_wp2_with fail
          refine (refTable_any _ (Ts.getD k []) _ HS4.out).mono ?_
          rintro e w2 ⟨rfl, hb2⟩
          obtain ⟨R, hR⟩ : ∃ R, R = tbN (Ts.getD k []) := ⟨_, rfl⟩
          have HR : Hid (tsTo Ts (k + 1) = R) := by
            show _ = _
            rw [tsTo, if_pos HZ.out, hR]
          rw [← hR]
          have HB3 : Hid (Below w1.heap.size w1 w2) := HB.out.trans (hb2.mono HB.out.size)
          have HBw3 : Hid (Below w.heap.size w w2) := HBw.out.trans (hb2.mono HBw.out.size)
          clear hR hb2 q0
          by_cases hN : R = 0
          · subst hN
            go_wp2
            go_roundw
            case rel => exact ⟨k + 1, by omega, by go_num, HR.out, HB3.out⟩
            case measure => simp [intOf]; omega
          · have e9 : (R != 0) = true := by simpa using hN
            have HCR : Hid (C = R) := by
              show _ = _
              rw [HC2.out, ts_le (k := k + 1) (by rw [HR.out]; exact hN) (by omega), HR.out]
            have HNN : Hid (R ≠ 0) := hN
            clear hN
            go_wp2
            go_ret
            exact ⟨by rw [HCR.out]; rfl, HBw3.out⟩
        · obtain rfl : k = n3 := by omega
          have HCR : Hid (C = 0) := by
            show _ = _
            rw [HC2.out, HZ.out]
          clear hB
          go_wp2
          go_ret
          exact ⟨by rw [HCR.out]; rfl, HBw.out⟩
    · have HC2 : Hid (C = 3) := by
        show _ = _
        rw [HC.out, ntN, if_pos HT.out.symm, if_neg (by rw [HTN.out]; exact hS)]
      have e1 : ((n3 : Int) != S) = true := by simpa using hS
      clear hS HC
      go_wp2
      go_ret
      exact ⟨by rw [HC2.out]; rfl, HB1.out⟩
  · have e9 : (T != 0) = true := by simpa using h0
    have HC2 : Hid (C = T) := by
      show _ = _
      rw [HC.out, ntN, ← HT.out, if_neg h0]
    have HN0 : Hid (T ≠ 0) := h0
    clear h0
    go_wp2
    go_ret
    exact ⟨by rw [HC2.out]; rfl, HB1.out⟩
end Go.Proofs.YtpmcjelihdlfeaaGreatDoor
/- What errors.As, plain.Told and railsame.Error answer for no error and for an Errno: contracts for the walks above them. -/
namespace Go.Proofs.YtpmcjelihdlfeaaGreatDoor
open Go.RowKit Go.Extern.Stop Go.Stop Go.Extern
set_option linter.unusedSimpArgs false

/-- What package errors' variable holds: the handle of the type error. -/
def HasErr (w : World) : Prop := w.cell? ⟨1, 0, none⟩ = some (.iface 177 (.agg #[.pointer (some ⟨10, 37, none⟩)]))
theorem HasErr.later {w w' : World} (h : HasErr w) (hb : Below w.heap.size w w') : HasErr w' := cell_later hb h
theorem HasErr.alloc {w : World} (h : HasErr w) (o : Obj) : HasErr (w.alloc o) := h.later ((Below.refl _ _).alloc (Nat.le_refl _) _)

theorem vOfP (t : Addr) (w : World) : (ReflectliteValue.unpack (.iface 98 (.pointer (some t)))).run Tryz.prog w
    = .ok (.agg #[.pointer (some ⟨10, 98, none⟩), .pointer (some ⟨w.heap.size, 0, none⟩), .int .u64 150]) (w.alloc (.cells #[.pointer (some t)] 98)) := by kernel_rfl
theorem typeP (a : Addr) (w : World) : (ReflectliteValue.methodAny (ReflectliteValue.valueError "reflectlite.Value.Type" 0) (fun t _ _ _ => ReflectliteType.toType t) #[.agg #[.pointer (some ⟨10, 98, none⟩), .pointer (some a), .int .u64 150]]).run Tryz.prog w
    = .ok (.iface 177 (.agg #[.pointer (some ⟨10, 98, none⟩)])) w := by kernel_rfl
theorem methKind (h : Value) (w : World) : (Go.method 363 177 (.agg #[h]) "Kind").run Tryz.prog w = .ok (160, h) w := by kernel_rfl
theorem kindP (w : World) : ((ReflectliteType.abiMethod fun t => Functor.map (fun a : Nat => Value.int IntKind.u8 (a : Int)) (Rtype.kind t)) #[.pointer (some ⟨10, 98, none⟩)]).run Tryz.prog w = .ok (.int .u8 22) w := by kernel_rfl
theorem kindE (w : World) : ((ReflectliteType.abiMethod fun t => Functor.map (fun a : Nat => Value.int IntKind.u8 (a : Int)) (Rtype.kind t)) #[.pointer (some ⟨10, 57, none⟩)]).run Tryz.prog w = .ok (.int .u8 2) w := by kernel_rfl
theorem partsP (a : Addr) (w : World) : (ReflectliteValue.parts (.agg #[.pointer (some ⟨10, 98, none⟩), .pointer (some a), .int .u64 150])).run Tryz.prog w = .ok (some (98, a, 150)) w := by kernel_rfl
theorem isNilP (a p : Addr) (W : World) (ha : W.cell? a = some (.pointer (some p))) :
    (ReflectliteValue.method (ReflectliteValue.valueError "reflectlite.Value.IsNil" 0) ReflectliteValue.isNil #[.agg #[.pointer (some ⟨10, 98, none⟩), .pointer (some a), .int .u64 150]]).run Tryz.prog W = .ok (.bool false) W := by
  change Sem.run _ (ReflectliteValue.parts (.agg #[.pointer (some ⟨10, 98, none⟩), .pointer (some a), .int .u64 150]) >>= _) _ = _
  rw [Sem.run_bind, partsP]
  simp only [Result.andThen]
  simp [ReflectliteValue.isNil, loadVar, isAgg, underlying, Tryz.underlying98, ha, Result.andThen]
theorem methElem (h : Value) (w : World) : (Go.method 363 177 (.agg #[h]) "Elem").run Tryz.prog w = .ok (173, .agg #[h]) w := by kernel_rfl
theorem methImpl (h : Value) (w : World) : (Go.method 363 177 (.agg #[h]) "Implements").run Tryz.prog w = .ok (174, .agg #[h]) w := by kernel_rfl
theorem methAssign (h : Value) (w : World) : (Go.method 363 177 (.agg #[h]) "AssignableTo").run Tryz.prog w = .ok (171, .agg #[h]) w := by kernel_rfl
theorem elemP (w : World) : (ReflectliteType.method ReflectliteType.elem #[.agg #[.pointer (some ⟨10, 98, none⟩)]]).run Tryz.prog w = .ok (.iface 177 (.agg #[.pointer (some ⟨10, 57, none⟩)])) w := by kernel_rfl
theorem implE (w : World) : (ReflectliteType.relation "Implements" ReflectliteType.implements_ #[.agg #[.pointer (some ⟨10, 57, none⟩)], .iface 177 (.agg #[.pointer (some ⟨10, 37, none⟩)])]).run Tryz.prog w = .ok (.bool true) w := by kernel_rfl
theorem typeOfE (v : Value) (w : World) : (ReflectliteType.typeOf #[.iface 57 v]).run Tryz.prog w = .ok (.iface 177 (.agg #[.pointer (some ⟨10, 57, none⟩)])) w := by kernel_rfl
theorem assignE (w : World) : (ReflectliteType.relation "AssignableTo" ReflectliteType.assignableTo #[.agg #[.pointer (some ⟨10, 57, none⟩)], .iface 177 (.agg #[.pointer (some ⟨10, 57, none⟩)])]).run Tryz.prog w = .ok (.bool true) w := by kernel_rfl
theorem vOfE (n : Int) (w : World) : (ReflectliteValue.unpack (.iface 57 (.int .i64 n))).run Tryz.prog w
    = .ok (.agg #[.pointer (some ⟨10, 57, none⟩), .pointer (some ⟨w.heap.size, 0, none⟩), .int .u64 130]) (w.alloc (.cells #[.int .i64 n] 57)) := by kernel_rfl
theorem elemOfP (w : World) : (Rtype.elem? 98).run Tryz.prog w = .ok (some 57) w := by kernel_rfl
theorem mkE (p : Addr) (w : World) : (ReflectliteValue.mk 57 p ReflectliteValue.flagAddr).run Tryz.prog w = .ok (.agg #[.pointer (some ⟨10, 57, none⟩), .pointer (some p), .int .u64 386]) w := by kernel_rfl
theorem elemVP (a p : Addr) (W : World) (ha : W.cell? a = some (.pointer (some p))) :
    (ReflectliteValue.method (ReflectliteValue.valueError "reflectlite.Value.Elem" 0) ReflectliteValue.elem #[.agg #[.pointer (some ⟨10, 98, none⟩), .pointer (some a), .int .u64 150]]).run Tryz.prog W
      = .ok (.agg #[.pointer (some ⟨10, 57, none⟩), .pointer (some p), .int .u64 386]) W := by
  change Sem.run _ (ReflectliteValue.parts (.agg #[.pointer (some ⟨10, 98, none⟩), .pointer (some a), .int .u64 150]) >>= _) _ = _
  rw [Sem.run_bind, partsP]
  simp only [Result.andThen]
  simp [ReflectliteValue.elem, loadVar, isAgg, underlying, Tryz.underlying98, ha, Result.andThen, elemOfP, mkE]
theorem partsEa (a : Addr) (w : World) : (ReflectliteValue.parts (.agg #[.pointer (some ⟨10, 57, none⟩), .pointer (some a), .int .u64 386])).run Tryz.prog w = .ok (some (57, a, 386)) w := by kernel_rfl
theorem partsE (a : Addr) (w : World) : (ReflectliteValue.parts (.agg #[.pointer (some ⟨10, 57, none⟩), .pointer (some a), .int .u64 130])).run Tryz.prog w = .ok (some (57, a, 130)) w := by kernel_rfl
theorem directE (w : World) : (Rtype.directlyAssignable 57 57).run Tryz.prog w = .ok true w := by kernel_rfl
/-- Set: the Errno variable at 'ta' gets what the Value's own variable 'b' holds. -/
theorem setE (ta b : Addr) (n : Int) (old : Value) (W : World) (hb : W.cell? b = some (.int .i64 n)) (ht : W.cell? ta = some old) (hf : W.frozen? ta = false) :
    (ReflectliteValue.set #[.agg #[.pointer (some ⟨10, 57, none⟩), .pointer (some ta), .int .u64 386], .agg #[.pointer (some ⟨10, 57, none⟩), .pointer (some b), .int .u64 130]]).run Tryz.prog W
      = .ok (.tuple #[]) (W.setCell ta (.int .i64 n)) := by
  change Sem.run _ (ReflectliteValue.parts (.agg #[.pointer (some ⟨10, 57, none⟩), .pointer (some ta), .int .u64 386]) >>= _) _ = _
  rw [Sem.run_bind, partsEa]
  simp only [Result.andThen]
  change Sem.run _ (ReflectliteValue.parts (.agg #[.pointer (some ⟨10, 57, none⟩), .pointer (some b), .int .u64 130]) >>= _) _ = _
  rw [Sem.run_bind, partsE]
  simp only [Result.andThen]
  simp [ReflectliteValue.flagAddr, loadVar, isAgg, underlying, Tryz.underlying57, hb, Result.andThen, directE, storeVar, Value.cells, storeCells, Addr.add]
  rw [run_store Tryz.prog W ta _ _ (by rfl)]
  simp [ht, hf]
end Go.Proofs.YtpmcjelihdlfeaaGreatDoor
/- What errors.As, plain.Told and railsame.Error answer for no error and for an Errno: the walks. -/
namespace Go.Proofs.YtpmcjelihdlfeaaGreatDoor
open Go.RowKit Go.Extern.Stop Go.Stop Go.Extern
set_option linter.unusedSimpArgs false

set_option maxHeartbeats 4000000 in
theorem as_hit (n : Int) (t : Addr) (old : Value) (w : World) (hg : HasErr w) (ht0 : w.cell? t = some old) (hf0 : w.frozen? t = false) :
    Calls Tryz.prog 41 #[.iface 57 (.int .i64 n), .iface 98 (.pointer (some t))] w fun ev w' => ev = .returned (.bool true) ∧ w' = ((((w.alloc (.cells #[.pointer (some t)] 98)).alloc (.cells #[.pointer (some ⟨10, 98, none⟩), .pointer (some ⟨w.heap.size, 0, none⟩), .int .u64 150] 134)).alloc (.cells #[.pointer (some ⟨10, 98, none⟩), .pointer (some ⟨w.heap.size, 0, none⟩), .int .u64 150] 134)).alloc (.cells #[.int .i64 n] 57)).setCell t (.int .i64 n) := by
  unfold HasErr at hg
  have h6 := @run_callFunc_extern Tryz.prog 66 _ (fun args => ReflectliteValue.unpack (args.getD 0 (.tuple #[]))) Tryz.func66 (by kernel_rfl) (by kernel_rfl) (by kernel_rfl) (by kernel_rfl)
  have h7 := @run_callFunc_extern Tryz.prog 67 _ (ReflectliteValue.methodAny (ReflectliteValue.valueError "reflectlite.Value.Type" 0) (fun t _ _ _ => ReflectliteType.toType t)) Tryz.func67 (by kernel_rfl) (by kernel_rfl) (by kernel_rfl) (by kernel_rfl)
  have h8 := @run_callFunc_extern Tryz.prog 68 _ (ReflectliteValue.method (ReflectliteValue.valueError "reflectlite.Value.IsNil" 0) ReflectliteValue.isNil) Tryz.func68 (by kernel_rfl) (by kernel_rfl) (by kernel_rfl) (by kernel_rfl)
  have h27 := @run_callFunc_extern Tryz.prog 160 _ (ReflectliteType.abiMethod fun t => do pure (.int .u8 (← Rtype.kind t))) Tryz.func160 (by kernel_rfl) (by kernel_rfl) (by kernel_rfl) (by kernel_rfl)
  have h37 := @run_callFunc_extern Tryz.prog 173 _ (ReflectliteType.method ReflectliteType.elem) Tryz.func173 (by kernel_rfl) (by kernel_rfl) (by kernel_rfl) (by kernel_rfl)
  have h38 := @run_callFunc_extern Tryz.prog 174 _ (ReflectliteType.relation "Implements" ReflectliteType.implements_) Tryz.func174 (by kernel_rfl) (by kernel_rfl) (by kernel_rfl) (by kernel_rfl)
  have h10 := @run_callFunc_extern Tryz.prog 101 _ ReflectliteType.typeOf Tryz.func101 (by kernel_rfl) (by kernel_rfl) (by kernel_rfl) (by kernel_rfl)
  have h35 := @run_callFunc_extern Tryz.prog 171 _ (ReflectliteType.relation "AssignableTo" ReflectliteType.assignableTo) Tryz.func171 (by kernel_rfl) (by kernel_rfl) (by kernel_rfl) (by kernel_rfl)
  have h11 := @run_callFunc_extern Tryz.prog 102 _ (ReflectliteValue.method (ReflectliteValue.valueError "reflectlite.Value.Elem" 0) ReflectliteValue.elem) Tryz.func102 (by kernel_rfl) (by kernel_rfl) (by kernel_rfl) (by kernel_rfl)
  have h12 := @run_callFunc_extern Tryz.prog 103 _ ReflectliteValue.set Tryz.func103 (by kernel_rfl) (by kernel_rfl) (by kernel_rfl) (by kernel_rfl)
  have tO := typeOfE
  have mA := methAssign
  have a25 := assignE
  have v25 := vOfE
  have f6 := vOfP
  have f7 := typeP
  have mK := methKind
  have mE := methElem
  have mI := methImpl
  have k27 := kindP
  have k25 := kindE
  have e27 := elemP
  have i25 := implE
  have hlt : 1 < w.heap.size := World.block_lt_of_cell? _ _ hg
  have htl : t.block < w.heap.size := World.block_lt_of_cell? _ _ ht0
  have n8 := isNilP ⟨w.heap.size, 0, none⟩ t ((w.alloc (.cells #[.pointer (some t)] 98)).alloc (.cells #[.pointer (some ⟨10, 98, none⟩), .pointer (some ⟨w.heap.size, 0, none⟩), .int .u64 150] 134)) (by simp)
  have hg2 : ((w.alloc (.cells #[.pointer (some t)] 98)).alloc (.cells #[.pointer (some ⟨10, 98, none⟩), .pointer (some ⟨w.heap.size, 0, none⟩), .int .u64 150] 134)).cell? ⟨1, 0, none⟩ = some (.iface 177 (.agg #[.pointer (some ⟨10, 37, none⟩)])) := by
    rw [World.cell?_alloc_lt _ _ ⟨1, 0, none⟩ (by simp <;> omega), World.cell?_alloc_lt _ _ ⟨1, 0, none⟩ hlt]; exact hg
  have el := elemVP ⟨w.heap.size, 0, none⟩ t (((w.alloc (.cells #[.pointer (some t)] 98)).alloc (.cells #[.pointer (some ⟨10, 98, none⟩), .pointer (some ⟨w.heap.size, 0, none⟩), .int .u64 150] 134)).alloc (.cells #[.pointer (some ⟨10, 98, none⟩), .pointer (some ⟨w.heap.size, 0, none⟩), .int .u64 150] 134)) (by rw [World.cell?_alloc_lt _ _ ⟨w.heap.size, 0, none⟩ (by simp; omega)]; simp)
  have st := setE t ⟨w.heap.size + 1 + 1 + 1, 0, none⟩ n old ((((w.alloc (.cells #[.pointer (some t)] 98)).alloc (.cells #[.pointer (some ⟨10, 98, none⟩), .pointer (some ⟨w.heap.size, 0, none⟩), .int .u64 150] 134)).alloc (.cells #[.pointer (some ⟨10, 98, none⟩), .pointer (some ⟨w.heap.size, 0, none⟩), .int .u64 150] 134)).alloc (.cells #[.int .i64 n] 57))
    (by rw [World.cell?_alloc_at _ _ _ _ (by simp)]; rfl)
    (by rw [World.cell?_alloc_lt _ _ t (by simp; omega), World.cell?_alloc_lt _ _ t (by simp; omega), World.cell?_alloc_lt _ _ t (by simp; omega), World.cell?_alloc_lt _ _ t htl]; exact ht0)
    (by rw [World.frozen?_alloc_old _ _ t (by simp; omega), World.frozen?_alloc_old _ _ t (by simp; omega), World.frozen?_alloc_old _ _ t (by simp; omega), World.frozen?_alloc_old _ _ t (Nat.ne_of_lt htl)]; exact hf0)
  go_enter Tryz.func41, Tryz.ntmps41
  go_wp2
  refine wp_loop_rounds 1 ?_
  rw [rounds_succ]
  go_wp2
  go_ret
  exact ⟨rfl, rfl⟩

set_option maxHeartbeats 1000000 in
theorem told_nil (w : World) :
    Calls Tryz.prog 16 #[.nilIface] w fun e w' => e = .returned (.int .i64 0) ∧ Below w.heap.size w w' := by
  go_enter Tryz.func16, Tryz.ntmps16
  go_wp2
  go_ret
  exact ⟨rfl, Below.refl _ _⟩

set_option maxHeartbeats 1000000 in
theorem told_some (n : Int) (w : World) (hg : HasErr w) :
    Calls Tryz.prog 16 #[.iface 57 (.int .i64 n)] w fun e w' => e = .returned (.int .i64 n) ∧ Below w.heap.size w w' := by
  have HG : Hid (HasErr w) := hg
  clear hg
  go_enter Tryz.func16, Tryz.ntmps16
  go_wp2_with fail
  refine (as_hit n _ (.int .i64 0) _ (HG.out.alloc _) (by simp) (by simp)).mono ?_
  rintro e w' ⟨rfl, rfl⟩
  go_wp2
  go_ret
  refine ⟨rfl, ?_⟩
  exact ((((((Below.refl _ _).alloc (Nat.le_refl _) _).alloc (by simp) _).alloc (by simp; omega) _).alloc (by simp; omega) _).alloc (by simp; omega) _)

set_option maxHeartbeats 1000000 in
theorem same_nil (k : Int) (w : World) :
    Calls Tryz.prog 4 #[.nilIface, .int .i64 k] w fun e w' => e = .returned (.bool (0 == k)) ∧ Below w.heap.size w w' := by
  go_enter Tryz.func4, Tryz.ntmps4
  go_wp2_with fail
  refine (told_nil _).mono ?_
  rintro e w' ⟨rfl, hb⟩
  go_wp2
  go_ret
  exact ⟨rfl, hb⟩

set_option maxHeartbeats 1000000 in
theorem same_some (n k : Int) (w : World) (hg : HasErr w) :
    Calls Tryz.prog 4 #[.iface 57 (.int .i64 n), .int .i64 k] w fun e w' => e = .returned (.bool (n == k)) ∧ Below w.heap.size w w' := by
  have HG : Hid (HasErr w) := hg
  clear hg
  go_enter Tryz.func4, Tryz.ntmps4
  go_wp2_with fail
  refine (told_some n _ HG.out).mono ?_
  rintro e w' ⟨rfl, hb⟩
  go_wp2
  go_ret
  exact ⟨rfl, hb⟩
end Go.Proofs.YtpmcjelihdlfeaaGreatDoor
/- What railsame.Error answers at the error of a number and any number. -/
namespace Go.Proofs.YtpmcjelihdlfeaaGreatDoor
open Go.RowKit

theorem same_any (n k : Int) (w : World) (hg : HasErr w) :
    Calls Tryz.prog 4 #[noV n, .int .i64 k] w fun e w' => e = .returned (.bool (n == k)) ∧ Below w.heap.size w w' := by
  by_cases h : n = 0
  · subst h
    exact same_nil _ w
  · rw [no_ne h]
    exact same_some _ _ w hg
end Go.Proofs.YtpmcjelihdlfeaaGreatDoor
/- What railsame.Error answers at the error of a number and this number. -/
namespace Go.Proofs.YtpmcjelihdlfeaaGreatDoor
open Go.RowKit

theorem same_noV (n : Int) (w : World) (hg : HasErr w) :
    Calls Tryz.prog 4 #[noV n, .int .i64 n] w fun e w' => e = .returned (.bool true) ∧ Below w.heap.size w w' := by
  by_cases h : n = 0
  · subst h
    refine (same_nil _ w).mono ?_
    rintro e w' ⟨rfl, hb⟩
    exact ⟨by simp, hb⟩
  · rw [no_ne h]
    refine (same_some _ _ w hg).mono ?_
    rintro e w' ⟨rfl, hb⟩
    exact ⟨by simp, hb⟩
end Go.Proofs.YtpmcjelihdlfeaaGreatDoor
/- The walk of WishTells: it answers true, whatever net, wishes, wish, text, name and fate it is called with, the text at most 2^20 bytes long. -/
namespace Go.Proofs.YtpmcjelihdlfeaaGreatDoor.wishTells
open Go.RowKit
set_option linter.unusedSimpArgs false
set_option linter.unusedVariables false

/-- The boxes: a net, a wish, a fate. -/
structure LK (w W : World) (S : Int) (v1 v2 v3 : Value) (k : Int) (f t : ByteArray) (v : Int) (a : Int) (b : ByteArray) (c : Value) : Prop where
  below : Below w.heap.size w W
  n : NeBox W w.heap.size S v1 v2 v3
  x : WiBox W (w.heap.size + 1) k f t v
  y : FaBox W (w.heap.size + 1 + 1) a b c
theorem LK.later {w W W' : World} {S : Int} {v1 v2 v3 : Value} {k : Int} {f t : ByteArray} {v : Int} {a : Int} {b : ByteArray} {c : Value} (h : LK w W S v1 v2 v3 k f t v a b c) (hb : Below W.heap.size W W') : LK w W' S v1 v2 v3 k f t v a b c :=
  ⟨h.below.trans (hb.mono h.below.size), h.n.later hb, h.x.later hb, h.y.later hb⟩
theorem LK.set {w W : World} {S : Int} {v1 v2 v3 : Value} {k : Int} {f t : ByteArray} {v : Int} {a : Int} {b : ByteArray} {c : Value} (h : LK w W S v1 v2 v3 k f t v a b c) {g : Nat} (hg : w.heap.size + 1 + 1 < g) (j : Nat) (u : Value) : LK w (W.setCell ⟨g, j, none⟩ u) S v1 v2 v3 k f t v a b c := by
  obtain ⟨h0, ⟨n0, n1, n2, n3⟩, ⟨x0, x1, x2, x3⟩, y0, y1, y2⟩ := h
  have g0 : w.heap.size ≠ g := by omega
  have g1 : w.heap.size + 1 ≠ g := by omega
  have g2 : w.heap.size + 1 + 1 ≠ g := by omega
  exact ⟨h0.setCell (p := ⟨g, j, none⟩) (by show w.heap.size ≤ g; omega) u, ⟨other g0 n0, other g0 n1, other g0 n2, other g0 n3⟩, ⟨other g1 x0, other g1 x1, other g1 x2, other g1 x3⟩, other g2 y0, other g2 y1, other g2 y2⟩
theorem lk_new (w : World) (S : Int) (v1 v2 v3 : Value) (k : Int) (f t : ByteArray) (v : Int) (a : Int) (b : ByteArray) (c : Value) : LK w (((w.alloc (Obj.cells #[.int .i64 S, v1, v2, v3] 28)).alloc (Obj.cells #[.int .i64 k, .string f, .string t, .int .i64 v] 31)).alloc (Obj.cells #[.int .i64 a, .string b, c] 34)) S v1 v2 v3 k f t v a b c := by
  have hb : ∀ (W : World) (o : Obj), Below W.heap.size W (W.alloc o) := fun W o => (Below.refl _ _).alloc (Nat.le_refl _) _
  have hn := nebox_new w S v1 v2 v3 28
  have h0 := hb w (Obj.cells #[.int .i64 S, v1, v2, v3] 28)
  have e0 : (w.alloc (Obj.cells #[.int .i64 S, v1, v2, v3] 28)).heap.size = w.heap.size + 1 := by simp
  generalize w.alloc (Obj.cells #[.int .i64 S, v1, v2, v3] 28) = A at hn h0 e0 ⊢
  have ha := wibox_new A k f t v 31
  have h1 := hb A (Obj.cells #[.int .i64 k, .string f, .string t, .int .i64 v] 31)
  have e1 : (A.alloc (Obj.cells #[.int .i64 k, .string f, .string t, .int .i64 v] 31)).heap.size = A.heap.size + 1 := by simp
  generalize A.alloc (Obj.cells #[.int .i64 k, .string f, .string t, .int .i64 v] 31) = B at ha h1 e1 ⊢
  have hd := fabox_new B a b c 34
  have h2 := hb B (Obj.cells #[.int .i64 a, .string b, c] 34)
  generalize B.alloc (Obj.cells #[.int .i64 a, .string b, c] 34) = C at hd h2 ⊢
  have f1 := h0.trans (h1.mono h0.size)
  have f2 := f1.trans (h2.mono f1.size)
  rw [e0] at ha
  rw [e1, e0] at hd
  exact ⟨f2, (hn.later h1).later h2, ha.later h2, hd⟩
/-- The box of a net: a class of worlds. -/
def CN (w : World) (g : Nat) (S : Int) (v1 v2 : Value) (W : World) : Prop := Below w.heap.size w W ∧ W.cell? ⟨g, 0, none⟩ = some (.int .i64 S) ∧ W.cell? ⟨g, 1, none⟩ = some v1 ∧ W.cell? ⟨g, 2, none⟩ = some v2
theorem CN.later {w W W' : World} {g : Nat} {S : Int} {v1 v2 : Value} (hb : Below W.heap.size W W') (h : CN w g S v1 v2 W) : CN w g S v1 v2 W' :=
  ⟨h.1.trans (hb.mono h.1.size), cell_later hb h.2.1, cell_later hb h.2.2.1, cell_later hb h.2.2.2⟩
/-- The boxes of a wish and a fate: a class of worlds. -/
def CB (w : World) (g g2 : Nat) (k : Int) (f t : ByteArray) (v : Int) (a : Int) (b : ByteArray) (c : Value) (W : World) : Prop := Below w.heap.size w W ∧ WiBox W g k f t v ∧ FaBox W g2 a b c
theorem CB.later {w W W' : World} {g g2 : Nat} {k : Int} {f t : ByteArray} {v : Int} {a : Int} {b : ByteArray} {c : Value} (hb : Below W.heap.size W W') (h : CB w g g2 k f t v a b c W) : CB w g g2 k f t v a b c W' :=
  ⟨h.1.trans (hb.mono h.1.size), h.2.1.later hb, h.2.2.later hb⟩
/-- A wish in a box that may be stored into. -/
structure XB (W : World) (g : Nat) (k : Int) (f t : ByteArray) (v : Int) : Prop where
  x : WiBox W g k f t v
  xf : ∀ i, W.frozen? ⟨g, i, none⟩ = false
theorem XB.later {W W' : World} {g : Nat} {k : Int} {f t : ByteArray} {v : Int} (h : XB W g k f t v) (hb : Below W.heap.size W W') : XB W' g k f t v := ⟨h.x.later hb, froz_later h.xf h.x.1 hb⟩
theorem xb_new (w : World) (k : Int) (f t : ByteArray) (v : Int) : XB (w.alloc (Obj.cells #[.int .i64 k, .string f, .string t, .int .i64 v] 31)) w.heap.size k f t v := ⟨wibox_new w k f t v 31, fun i => by simp⟩
theorem XB.zero {W : World} {g : Nat} (h : XB W g 0 ⟨#[]⟩ ⟨#[]⟩ 0) : XB ((((W.setCell ⟨g, 0, none⟩ (.int .i64 0)).setCell ⟨g, 1, none⟩ (.string ⟨#[]⟩)).setCell ⟨g, 2, none⟩ (.string ⟨#[]⟩)).setCell ⟨g, 3, none⟩ (.int .i64 0)) g 0 ⟨#[]⟩ ⟨#[]⟩ 0 := by
  obtain ⟨⟨x0, x1, x2, x3⟩, xf⟩ := h
  refine ⟨⟨?_, ?_, ?_, ?_⟩, fun i => by rw [froz_set, froz_set, froz_set, froz_set]; exact xf i⟩
  · exact other2 (by decide) (other2 (by decide) (other2 (by decide) (same_cell x0)))
  · exact other2 (by decide) (other2 (by decide) (same_cell (other2 (by decide) x1)))
  · exact other2 (by decide) (same_cell (other2 (by decide) (other2 (by decide) x2)))
  · exact same_cell (other2 (by decide) (other2 (by decide) (other2 (by decide) x3)))
theorem WiBox.set {W : World} {g gB : Nat} {k : Int} {f t : ByteArray} {v : Int} (h : WiBox W g k f t v) (hne : g ≠ gB) (j : Nat) (u : Value) : WiBox (W.setCell ⟨gB, j, none⟩ u) g k f t v :=
  ⟨other hne h.1, other hne h.2.1, other hne h.2.2.1, other hne h.2.2.2⟩
theorem PrBox.set3 {u W : World} {g : Nat} {a : Int} {b : ByteArray} {c : Int} (h : PrBox u W g a b c) (a' : Int) (b' : ByteArray) (c' : Int) : PrBox u (put3 W g (.int .i64 a') (.string b') (.int .i64 c')) g a' b' c' := by
  refine ⟨?_, ?_, ?_, fun i => ?_⟩
  · exact other2 (by decide) (other2 (by decide) (same_cell h.c0))
  · exact other2 (by decide) (same_cell (other2 (by decide) h.c1))
  · exact same_cell (other2 (by decide) (other2 (by decide) h.c2))
  · unfold put3
    rw [froz_set, froz_set, froz_set]
    exact h.f i
theorem pa_none {s : ByteArray} (h : (rdO s).isSome = false) : (paW s).k = 0 ∧ (paW s).f = ⟨#[]⟩ ∧ (paW s).t = ⟨#[]⟩ ∧ (paW s).v = 0 ∧ paE s = 2 := by
  cases e : rdO s with
  | none => simp only [paW, paE, e]; exact ⟨rfl, rfl, rfl, rfl, rfl⟩
  | some x => rw [e] at h; cases h
theorem pa_some {s : ByteArray} (h : (rdO s).isSome = true) : paE s = 0 := by rw [paE, h]; rfl

set_option maxHeartbeats 16000000 in
set_option maxRecDepth 100000 in
theorem walk (S : Int) (ao : Option Addr) (n cap : Nat) (ao2 : Option Addr) (n2 cap2 : Nat) (ao3 : Option Addr) (n3 cap3 : Nat) (Ls : List ((Int × Int) × (Int × Int))) (Hs : List (ByteArray × (Int × Int))) (Ts : List (List Ru)) (a4 : Option Addr) (n4 c4 : Nat) (l : List Wi) (k : Int) (f t : ByteArray) (v : Int) (s m : ByteArray) (a : Int) (b : ByteArray) (a6 : Option Addr) (n6 c6 : Nat) (hp : List ((Int × Int) × Int)) (w : World)
    (hL : GS lnkE w (.slice ao n cap) Ls) (hH : GS hstE w (.slice ao2 n2 cap2) Hs) (hT : TS w (.slice ao3 n3 cap3) Ts) (hl : GS wisE w (.slice a4 n4 c4) l) (hf : GS hopE w (.slice a6 n6 c6) hp) (hs : s.size ≤ 1048576) (hg : HasErr w) (hw : HasWords w) (hnm : HasNum w) :
    Calls Tryz.prog 3 #[.agg #[.int .i64 S, .slice ao n cap, .slice ao2 n2 cap2, .slice ao3 n3 cap3], .slice a4 n4 c4, .agg #[.int .i64 k, .string f, .string t, .int .i64 v], .string s, .string m, .agg #[.int .i64 a, .string b, .slice a6 n6 c6]] w fun e w' => e = .returned (.bool true) ∧ Below w.heap.size w w' := by
  have HLW : Hid (∀ W, Below w.heap.size w W → GS lnkE W (.slice ao n cap) Ls) := fun W hb => hL.later hb
  have HHW : Hid (∀ W, Below w.heap.size w W → GS hstE W (.slice ao2 n2 cap2) Hs) := fun W hb => hH.later hb
  have HTW : Hid (∀ W, Below w.heap.size w W → TS W (.slice ao3 n3 cap3) Ts) := fun W hb => hT.later hb
  have HlW : Hid (∀ W, Below w.heap.size w W → GS wisE W (.slice a4 n4 c4) l) := fun W hb => hl.later hb
  have HfW : Hid (∀ W, Below w.heap.size w W → GS hopE W (.slice a6 n6 c6) hp) := fun W hb => hf.later hb
  have HGW : Hid (∀ W, Below w.heap.size w W → HasErr W) := fun W hb => hg.later hb
  have HWW : Hid (∀ W, Below w.heap.size w W → HasWords W) := fun W hb => hw.later hb
  have HNW : Hid (∀ W, Below w.heap.size w W → HasNum W) := fun W hb => hnm.later hb
  have HSZ : Hid (s.size ≤ 1048576) := hs
  have HSZ2 : Hid (s.size ≤ 281474976710656) := by show _ ≤ _; omega
  have hX := lk_new w S (.slice ao n cap) (.slice ao2 n2 cap2) (.slice ao3 n3 cap3) k f t v a b (.slice a6 n6 c6)
  obtain ⟨w0, hw0⟩ : ∃ W, ((w.alloc (Obj.cells #[.int .i64 S, .slice ao n cap, .slice ao2 n2 cap2, .slice ao3 n3 cap3] 28)).alloc (Obj.cells #[.int .i64 k, .string f, .string t, .int .i64 v] 31)).alloc (Obj.cells #[.int .i64 a, .string b, .slice a6 n6 c6] 34) = W := ⟨_, rfl⟩
  rw [hw0] at hX
  have HX : Hid (LK w w0 S (.slice ao n cap) (.slice ao2 n2 cap2) (.slice ao3 n3 cap3) k f t v a b (.slice a6 n6 c6)) := hX
  have HW0 : Hid (((w.alloc (Obj.cells #[.int .i64 S, .slice ao n cap, .slice ao2 n2 cap2, .slice ao3 n3 cap3] 28)).alloc (Obj.cells #[.int .i64 k, .string f, .string t, .int .i64 v] 31)).alloc (Obj.cells #[.int .i64 a, .string b, .slice a6 n6 c6] 34) = w0) := hw0
  have HB0 : Hid (Below w.heap.size w w0) := hX.below
  obtain ⟨N1, hN1⟩ : ∃ q, q = wsN S Ls Hs l := ⟨_, rfl⟩
  have HN1 : Hid (wsN S Ls Hs l = N1) := hN1.symm
  obtain ⟨K, hK⟩ : ∃ q, q = (paW s).k := ⟨_, rfl⟩
  obtain ⟨F, hF⟩ : ∃ q, q = (paW s).f := ⟨_, rfl⟩
  obtain ⟨T, hT⟩ : ∃ q, q = (paW s).t := ⟨_, rfl⟩
  obtain ⟨V, hV⟩ : ∃ q, q = (paW s).v := ⟨_, rfl⟩
  have HKV : Hid ((paW s).k = K ∧ (paW s).f = F ∧ (paW s).t = T ∧ (paW s).v = V) := ⟨hK.symm, hF.symm, hT.symm, hV.symm⟩
  obtain ⟨EP, hEP⟩ : ∃ q, q = paE s := ⟨_, rfl⟩
  have HEP : Hid (paE s = EP) := hEP.symm
  have HCN : Hid (CN w0 w.heap.size S (.slice ao n cap) (.slice ao2 n2 cap2) w0) := ⟨Below.refl _ _, hX.n.1, hX.n.2.1, hX.n.2.2.1⟩
  clear hL hH hT hl hf hs hg hw hnm hX hw0 hN1 hK hF hV hEP
  go_enter Tryz.func3, Tryz.ntmps3
  go_upto_region 1 with fail
  rw [HW0.out]
  clear HW0
  go_cut [13] from 29 to 38 (fun c w' => c = .bool true ∧ Below w0.heap.size w0 w')
  case first =>
    as_aux_lemma =>
      refine wp_region_quiet (C := CN w0 w.heap.size S (.slice ao n cap) (.slice ao2 n2 cap2)) (by kernel_rfl) (by kernel_rfl) (CN.later (W := w0) (Below.drew (Below.refl _ _)) HCN.out) ?_
      simp only [List.toList_toArray]
      go_big_quiet_want
      refine quiet_val (v := .pointer (some ⟨w.heap.size, 0, none⟩)) (fun w' hC => ?_) ?_
      · obtain ⟨z0, z1, z2, z3⟩ := hC
        go_simp
      simp only [Act.put, List.setIfInBounds_toArray, List.set_cons_zero, List.set_cons_succ]
      go_big_quiet_on
      go_big_quiet_want
      refine quiet_val (v := .agg #[.int .i64 S, .slice ao n cap, .slice ao2 n2 cap2]) (fun w' hC => ?_) ?_
      · obtain ⟨z0, z1, z2, z3⟩ := hC
        go_simp
      simp only [Act.put, List.setIfInBounds_toArray, List.set_cons_zero, List.set_cons_succ]
      go_big_quiet_on
      go_big_quiet_want
      refine quiet_val (v := .slice a4 n4 c4) (fun w' hC => ?_) ?_
      · obtain ⟨z0, z1, z2, z3⟩ := hC
        go_simp
      simp only [Act.put, List.setIfInBounds_toArray, List.set_cons_zero, List.set_cons_succ]
      go_big_quiet_on
      go_big_quiet_want
      refine quiet_call (f := 5) (args := #[.agg #[.int .i64 S, .slice ao n cap, .slice ao2 n2 cap2], .slice a4 n4 c4]) (v := noV N1) (fun w' => ?_) (fun w' hC => (wcheck_any S ao n cap ao2 n2 cap2 a4 n4 c4 Ls Hs l w' (HLW.out _ (HB0.out.trans (hC.1.mono HB0.out.size))) (HHW.out _ (HB0.out.trans (hC.1.mono HB0.out.size))) (HlW.out _ (HB0.out.trans (hC.1.mono HB0.out.size)))).mono (fun e w2 h2 => ⟨by rw [h2.1, HN1.out], CN.later h2.2 hC⟩)) ?_
      · go_simp
      simp only [Act.put, List.setIfInBounds_toArray, List.set_cons_zero, List.set_cons_succ]
      go_big_quiet_on
      go_big_quiet_want
      refine quiet_val (v := .pointer (some ⟨w.heap.size, 0, none⟩)) (fun w' hC => ?_) ?_
      · obtain ⟨z0, z1, z2, z3⟩ := hC
        go_simp
      simp only [Act.put, List.setIfInBounds_toArray, List.set_cons_zero, List.set_cons_succ]
      go_big_quiet_on
      go_big_quiet_want
      refine quiet_val (v := .agg #[.int .i64 S, .slice ao n cap, .slice ao2 n2 cap2]) (fun w' hC => ?_) ?_
      · obtain ⟨z0, z1, z2, z3⟩ := hC
        go_simp
      simp only [Act.put, List.setIfInBounds_toArray, List.set_cons_zero, List.set_cons_succ]
      go_big_quiet_on
      go_big_quiet_want
      refine quiet_val (v := .slice a4 n4 c4) (fun w' hC => ?_) ?_
      · obtain ⟨z0, z1, z2, z3⟩ := hC
        go_simp
      simp only [Act.put, List.setIfInBounds_toArray, List.set_cons_zero, List.set_cons_succ]
      go_big_quiet_on
      go_big_quiet_want
      refine quiet_call (f := 6) (args := #[.agg #[.int .i64 S, .slice ao n cap, .slice ao2 n2 cap2], .slice a4 n4 c4]) (v := .int .i64 N1) (fun w' => ?_) (fun w' hC => (rwishes_any S ao n cap ao2 n2 cap2 a4 n4 c4 Ls Hs l w' (HLW.out _ (HB0.out.trans (hC.1.mono HB0.out.size))) (HHW.out _ (HB0.out.trans (hC.1.mono HB0.out.size))) (HlW.out _ (HB0.out.trans (hC.1.mono HB0.out.size)))).mono (fun e w2 h2 => ⟨by rw [h2.1, HN1.out], CN.later h2.2 hC⟩)) ?_
      · go_simp
      simp only [Act.put, List.setIfInBounds_toArray, List.set_cons_zero, List.set_cons_succ]
      go_big_quiet_on
      go_big_quiet_want
      refine quiet_call (f := 4) (args := #[noV N1, .int .i64 N1]) (v := .bool true) (fun w' => ?_) (fun w' hC => (same_noV N1 w' (HGW.out _ (HB0.out.trans (hC.1.mono HB0.out.size)))).mono (fun e w2 h2 => ⟨h2.1, CN.later h2.2 hC⟩)) ?_
      · go_simp
      simp only [Act.put, List.setIfInBounds_toArray, List.set_cons_zero, List.set_cons_succ]
      go_big_quiet_on
      go_big_quiet_want
      refine quiet_val (v := .bool true) (fun w' hC => ?_) ?_
      · obtain ⟨z0, z1, z2, z3⟩ := hC
        go_simp
      simp only [Act.put, List.setIfInBounds_toArray, List.set_cons_zero, List.set_cons_succ]
      go_big_quiet_on
      refine wpQuiet_nil ?_
      intro w' hC
      have HBY : Hid (Below w0.heap.size w0 w') := hC.1
      clear hC
      go_wp2_with fail
      go_meet
      exact ⟨rfl, HBY.out⟩
  case rest =>
  obtain ⟨rfl, hbc⟩ := hcut
  obtain ⟨w1, hw1⟩ : ∃ W, W = wc := ⟨_, rfl⟩
  subst hw1
  have HX1 : Hid (LK w w1 S (.slice ao n cap) (.slice ao2 n2 cap2) (.slice ao3 n3 cap3) k f t v a b (.slice a6 n6 c6)) := HX.out.later hbc
  clear hbc HX HCN HB0
  obtain ⟨_, _, ⟨x0, x1, x2, x3⟩, _⟩ := HX1.out
  go_wp2_with fail
  refine (rshow_any k f t v _).mono ?_
  rintro e w2 ⟨rfl, hb2⟩
  obtain ⟨SV, hSV⟩ : ∃ q, q = shV ⟨k, f, t, v⟩ := ⟨_, rfl⟩
  obtain ⟨SN, hSN⟩ : ∃ q, q = shN ⟨k, f, t, v⟩ := ⟨_, rfl⟩
  have HSV : Hid (shV ⟨k, f, t, v⟩ = SV ∧ shN ⟨k, f, t, v⟩ = SN) := ⟨hSV.symm, hSN.symm⟩
  rw [← hSV, ← hSN]
  have HX2 : Hid (LK w w2 S (.slice ao n cap) (.slice ao2 n2 cap2) (.slice ao3 n3 cap3) k f t v a b (.slice a6 n6 c6)) := HX1.out.later hb2
  clear hb2 HX1 x0 x1 x2 x3 hSV hSN
  obtain ⟨_, _, ⟨x0, x1, x2, x3⟩, _⟩ := HX2.out
  go_wp2_with fail
  refine (print_any k f t v _ (HWW.out _ HX2.out.below)).mono ?_
  rintro e w3 ⟨rfl, hb3⟩
  rw [HSV.out.1, HSV.out.2]
  have HX3 : Hid (LK w w3 S (.slice ao n cap) (.slice ao2 n2 cap2) (.slice ao3 n3 cap3) k f t v a b (.slice a6 n6 c6)) := HX2.out.later hb3
  clear hb3 HX2 x0 x1 x2 x3 HSV
  go_wp2_with fail
  refine (same_noV SN _ (HGW.out _ HX3.out.below)).mono ?_
  rintro e w4 ⟨rfl, hb4⟩
  have HX4 : Hid (LK w w4 S (.slice ao n cap) (.slice ao2 n2 cap2) (.slice ao3 n3 cap3) k f t v a b (.slice a6 n6 c6)) := HX3.out.later hb4
  clear hb4 HX3
  go_wp2_with fail
  refine (rread_any s _ HSZ.out).mono ?_
  rintro e w5 ⟨rfl, hb5⟩
  obtain ⟨OK, hOK⟩ : ∃ q, q = (rdO s).isSome := ⟨_, rfl⟩
  have HOK : Hid ((rdO s).isSome = OK) := hOK.symm
  rw [← hOK, HKV.out.1, HKV.out.2.1, HKV.out.2.2.1, HKV.out.2.2.2]
  have hal : Below w5.heap.size w5 (w5.alloc (Obj.cells #[.int .i64 K, .string F, .string T, .int .i64 V] 31)) := (Below.refl _ _).alloc (Nat.le_refl _) _
  have hxb := xb_new w5 K F T V
  have hX6 := (HX4.out.later hb5).later hal
  have hlt5 : w.heap.size + 1 + 1 < w5.heap.size := by
    have := World.block_lt_of_cell? _ _ (HX4.out.later hb5).y.1
    simpa using this
  obtain ⟨w6, hw6⟩ : ∃ W, w5.alloc (Obj.cells #[.int .i64 K, .string F, .string T, .int .i64 V] 31) = W := ⟨_, rfl⟩
  obtain ⟨gX, hgX⟩ : ∃ q, q = w5.heap.size := ⟨_, rfl⟩
  rw [hw6] at hal hxb hX6
  rw [← hgX] at hxb hlt5
  have HW6 : Hid (w5.alloc (Obj.cells #[.int .i64 K, .string F, .string T, .int .i64 V] 31) = w6) := hw6
  have HGX : Hid (w5.heap.size = gX) := hgX.symm
  have HX6 : Hid (LK w w6 S (.slice ao n cap) (.slice ao2 n2 cap2) (.slice ao3 n3 cap3) k f t v a b (.slice a6 n6 c6)) := hX6
  have HXB6 : Hid (XB w6 gX K F T V) := hxb
  have HLX : Hid (w.heap.size + 1 + 1 < gX) := hlt5
  clear hOK hal hxb hX6 hw6 hgX hlt5 hb5 HX4
  go_upto_region 7 with fail
  rw [HW6.out, HGX.out]
  clear HW6 HGX
  go_upto_if 57 with fail
  go_cut [15] from 29 (fun e w' => e = .int .i64 EP ∧ LK w w' S (.slice ao n cap) (.slice ao2 n2 cap2) (.slice ao3 n3 cap3) k f t v a b (.slice a6 n6 c6) ∧ XB w' gX K F T V)
  case first =>
    as_aux_lemma =>
      cases OK with
      | true =>
        have hep : EP = 0 := by rw [← HEP.out]; exact pa_some HOK.out
        subst hep
        go_wp2_with fail
        go_meet
        exact ⟨rfl, HX6.out, HXB6.out⟩
      | false =>
        obtain ⟨p1, p2, p3, p4, p5⟩ := pa_none HOK.out
        rw [HKV.out.1] at p1
        rw [HKV.out.2.1] at p2
        rw [HKV.out.2.2.1] at p3
        rw [HKV.out.2.2.2] at p4
        rw [HEP.out] at p5
        subst p1
        subst p2
        subst p3
        subst p4
        subst p5
        obtain ⟨⟨x0, x1, x2, x3⟩, xf⟩ := HXB6.out
        have f0 := xf 0
        have f1 := xf 1
        have f2 := xf 2
        have f3 := xf 3
        clear xf
        go_wp2_with fail
        go_meet
        exact ⟨rfl, (((HX6.out.set HLX.out 0 _).set HLX.out 1 _).set HLX.out 2 _).set HLX.out 3 _, HXB6.out.zero⟩
  case rest =>
  obtain ⟨rfl, hlk, hxb⟩ := hcut
  obtain ⟨w7, hw7⟩ : ∃ W, W = wc := ⟨_, rfl⟩
  subst hw7
  have HX7 : Hid (LK w w7 S (.slice ao n cap) (.slice ao2 n2 cap2) (.slice ao3 n3 cap3) k f t v a b (.slice a6 n6 c6)) := hlk
  have HXB7 : Hid (XB w7 gX K F T V) := hxb
  clear hlk hxb HX6 HXB6 HOK
  go_wp2_with fail
  refine (parse_any s _ HSZ2.out (HWW.out _ HX7.out.below) (HNW.out _ HX7.out.below)).mono ?_
  rintro e w8 ⟨rfl, hb8⟩
  rw [HEP.out, HKV.out.1, HKV.out.2.1, HKV.out.2.2.1, HKV.out.2.2.2]
  have hal : Below w8.heap.size w8 (w8.alloc (Obj.cells #[.int .i64 K, .string F, .string T, .int .i64 V] 31)) := (Below.refl _ _).alloc (Nat.le_refl _) _
  have hxb := wibox_new w8 K F T V 31
  have hX9 := (HX7.out.later hb8).later hal
  have hXB9 := (HXB7.out.later hb8).later hal
  have hlt8 : gX < w8.heap.size := by
    have := World.block_lt_of_cell? _ _ (HXB7.out.later hb8).x.1
    simpa using this
  obtain ⟨w9, hw9⟩ : ∃ W, w8.alloc (Obj.cells #[.int .i64 K, .string F, .string T, .int .i64 V] 31) = W := ⟨_, rfl⟩
  obtain ⟨gY, hgY⟩ : ∃ q, q = w8.heap.size := ⟨_, rfl⟩
  rw [hw9] at hal hxb hX9 hXB9
  rw [← hgY] at hxb hlt8
  have HW9 : Hid (w8.alloc (Obj.cells #[.int .i64 K, .string F, .string T, .int .i64 V] 31) = w9) := hw9
  have HGY : Hid (w8.heap.size = gY) := hgY.symm
  have HX9 : Hid (LK w w9 S (.slice ao n cap) (.slice ao2 n2 cap2) (.slice ao3 n3 cap3) k f t v a b (.slice a6 n6 c6)) := hX9
  have HXB9 : Hid (WiBox w9 gX K F T V) := hXB9.x
  have HYB9 : Hid (WiBox w9 gY K F T V) := hxb
  have HXY : Hid (gX < gY) := hlt8
  clear hal hxb hX9 hXB9 hw9 hgY hlt8 hb8 HX7 HXB7
  go_upto_region 11 with fail
  rw [HW9.out, HGY.out]
  clear HW9 HGY
  go_wp2_with fail
  refine (same_noV EP _ (HGW.out _ HX9.out.below)).mono ?_
  rintro e w10 ⟨rfl, hb10⟩
  have HX10 : Hid (LK w w10 S (.slice ao n cap) (.slice ao2 n2 cap2) (.slice ao3 n3 cap3) k f t v a b (.slice a6 n6 c6)) := HX9.out.later hb10
  have HXB10 : Hid (WiBox w10 gX K F T V) := HXB9.out.later hb10
  have HYB10 : Hid (WiBox w10 gY K F T V) := HYB9.out.later hb10
  clear hb10 HX9 HXB9 HYB9
  obtain ⟨_, ⟨b0, b1, b2, b3⟩, _, _⟩ := HX10.out
  go_wp2_with fail
  refine (rnet_any S ao n cap ao2 n2 cap2 ao3 n3 cap3 Ls Hs Ts _ (HLW.out _ HX10.out.below) (HHW.out _ HX10.out.below) (HTW.out _ HX10.out.below)).mono ?_
  rintro e w11 ⟨rfl, hb11⟩
  obtain ⟨N2, hN2⟩ : ∃ q, q = ntN S Ls Hs Ts := ⟨_, rfl⟩
  have HN2 : Hid (ntN S Ls Hs Ts = N2) := hN2.symm
  rw [← hN2]
  have HX11 : Hid (LK w w11 S (.slice ao n cap) (.slice ao2 n2 cap2) (.slice ao3 n3 cap3) k f t v a b (.slice a6 n6 c6)) := HX10.out.later hb11
  have HXB11 : Hid (WiBox w11 gX K F T V) := HXB10.out.later hb11
  have HYB11 : Hid (WiBox w11 gY K F T V) := HYB10.out.later hb11
  obtain ⟨E2, hE2⟩ : ∃ q, q = (if N2 = 0 then N1 else N2) := ⟨_, rfl⟩
  have HE2 : Hid (E2 = if N2 = 0 then N1 else N2) := hE2
  clear hb11 HX10 HXB10 HYB10 b0 b1 b2 b3 hN2 hE2
  go_upto_if 70 with fail
  go_cut [15] from 29 (fun e w' => e = .int .i64 E2 ∧ Below w11.heap.size w11 w')
  case first =>
    as_aux_lemma =>
      by_cases h0 : N2 = 0
      · have he : E2 = N1 := by rw [HE2.out, if_pos h0]
        subst h0
        subst he
        obtain ⟨_, ⟨b0, b1, b2, b3⟩, _, _⟩ := HX11.out
        go_wp2_with fail
        refine (rwishes_any S ao n cap ao2 n2 cap2 a4 n4 c4 Ls Hs l _ (HLW.out _ HX11.out.below) (HHW.out _ HX11.out.below) (HlW.out _ HX11.out.below)).mono ?_
        rintro e w12 ⟨rfl, hb12⟩
        rw [HN1.out]
        have HB12 : Hid (Below w11.heap.size w11 w12) := hb12
        clear hb12
        go_wp2_with fail
        go_meet
        exact ⟨rfl, HB12.out⟩
      · have he : E2 = N2 := by rw [HE2.out, if_neg h0]
        subst he
        have hq : (E2 == 0) = false := by simp [h0]
        go_wp2_with fail
        go_meet
        exact ⟨rfl, Below.refl _ _⟩
  case rest =>
  obtain ⟨rfl, hbc⟩ := hcut
  obtain ⟨w12, hw12⟩ : ∃ W, W = wc := ⟨_, rfl⟩
  subst hw12
  have hX12 := HX11.out.later hbc
  have hXB12 := HXB11.out.later hbc
  have hYB12 := HYB11.out.later hbc
  have hal : Below w12.heap.size w12 (w12.alloc (Obj.cells #[.int .i64 0, .string ⟨#[]⟩, .int .i64 0] 50)) := (Below.refl _ _).alloc (Nat.le_refl _) _
  have hpb := prbox_new w12 w 0 ⟨#[]⟩ 0
  have hX13 := hX12.later hal
  have hXB13 := hXB12.later hal
  have hYB13 := hYB12.later hal
  have hlt12 : gY < w12.heap.size := by
    have := World.block_lt_of_cell? _ _ hYB12.1
    simpa using this
  obtain ⟨w13, hw13⟩ : ∃ W, w12.alloc (Obj.cells #[.int .i64 0, .string ⟨#[]⟩, .int .i64 0] 50) = W := ⟨_, rfl⟩
  obtain ⟨gQ, hgQ⟩ : ∃ q, q = w12.heap.size := ⟨_, rfl⟩
  rw [hw13] at hal hpb hX13 hXB13 hYB13
  rw [← hgQ] at hpb hlt12
  have HW13 : Hid (w12.alloc (Obj.cells #[.int .i64 0, .string ⟨#[]⟩, .int .i64 0] 50) = w13) := hw13
  have HGQ : Hid (w12.heap.size = gQ) := hgQ.symm
  have HX13 : Hid (LK w w13 S (.slice ao n cap) (.slice ao2 n2 cap2) (.slice ao3 n3 cap3) k f t v a b (.slice a6 n6 c6)) := hX13
  have HXB13 : Hid (WiBox w13 gX K F T V) := hXB13
  have HYB13 : Hid (WiBox w13 gY K F T V) := hYB13
  have HPB13 : Hid (PrBox w w13 gQ 0 ⟨#[]⟩ 0) := hpb
  have HYQ : Hid (gY < gQ) := hlt12
  obtain ⟨E4, hE4⟩ : ∃ q, q = wiN S Ls Hs Ts l := ⟨_, rfl⟩
  have HE4 : Hid (wiN S Ls Hs Ts l = E4) := hE4.symm
  obtain ⟨P1, hP1⟩ : ∃ q, q = (wiV S Ls Hs Ts l).1 := ⟨_, rfl⟩
  obtain ⟨P2, hP2⟩ : ∃ q, q = (wiV S Ls Hs Ts l).2.1 := ⟨_, rfl⟩
  obtain ⟨P3, hP3⟩ : ∃ q, q = (wiV S Ls Hs Ts l).2.2 := ⟨_, rfl⟩
  have HPV : Hid ((wiV S Ls Hs Ts l).1 = P1 ∧ (wiV S Ls Hs Ts l).2.1 = P2 ∧ (wiV S Ls Hs Ts l).2.2 = P3) := ⟨hP1.symm, hP2.symm, hP3.symm⟩
  clear hbc hX12 hXB12 hYB12 hal hpb hX13 hXB13 hYB13 hlt12 hw13 hgQ hE4 hP1 hP2 hP3 HX11 HXB11 HYB11
  go_upto_region 16 with fail
  rw [HW13.out, HGQ.out]
  clear HW13 HGQ
  go_upto_if 76 with fail
  go_cut [15, 24, 25] from 29 (fun e _ _ w' => e = .int .i64 E4 ∧ LK w w' S (.slice ao n cap) (.slice ao2 n2 cap2) (.slice ao3 n3 cap3) k f t v a b (.slice a6 n6 c6) ∧ WiBox w' gX K F T V ∧ WiBox w' gY K F T V ∧ PrBox w w' gQ P1 P2 P3)
  case first =>
    as_aux_lemma =>
      by_cases h0 : E2 = 0
      · have hE := HE2.out
        rw [h0] at hE
        have hz : N2 = 0 ∧ N1 = 0 := by
          by_cases h : N2 = 0
          · rw [if_pos h] at hE
            exact ⟨h, hE.symm⟩
          · rw [if_neg h] at hE
            exact absurd hE.symm h
        have HNT : Hid (ntN S Ls Hs Ts = 0) := HN2.out.trans hz.1
        have HWS : Hid (wsN S Ls Hs l = 0) := HN1.out.trans hz.2
        subst h0
        obtain ⟨_, ⟨b0, b1, b2, b3⟩, _, _⟩ := HX13.out
        clear hE hz
        go_wp2_with fail
        refine (rholds_any S ao n cap ao2 n2 cap2 ao3 n3 cap3 a4 n4 c4 Ls Hs Ts l _ (HLW.out _ HX13.out.below) (HHW.out _ HX13.out.below) (HTW.out _ HX13.out.below) (HlW.out _ HX13.out.below) HNT.out).mono ?_
        rintro e w14 ⟨rfl, hb14⟩
        have hv : wiV S Ls Hs Ts l = prV Hs (brW Ls Hs Ts l Hs l.length) := by rw [wiV, if_pos ⟨HNT.out, HWS.out⟩]
        have hn9 : E4 = if (brW Ls Hs Ts l Hs l.length).isSome then 9 else 0 := by
          rw [← HE4.out, wiN, if_pos HNT.out, if_pos HWS.out]
        rw [← hv, HPV.out.1, HPV.out.2.1, HPV.out.2.2]
        obtain ⟨BR, hBR⟩ : ∃ q, q = (brW Ls Hs Ts l Hs l.length).isNone := ⟨_, rfl⟩
        have HN9 : Hid (E4 = if BR then 0 else 9) := by
          show _ = _
          rw [hn9, hBR]
          cases brW Ls Hs Ts l Hs l.length <;> rfl
        rw [← hBR]
        have hal : Below w14.heap.size w14 (w14.alloc (Obj.cells #[.int .i64 P1, .string P2, .int .i64 P3] 50)) := (Below.refl _ _).alloc (Nat.le_refl _) _
        have hph := prbox_new w14 w P1 P2 P3
        have hX15 := (HX13.out.later hb14).later hal
        have hXB15 := (HXB13.out.later hb14).later hal
        have hYB15 := (HYB13.out.later hb14).later hal
        have hPB15 := (HPB13.out.later hb14).later hal
        have hltq : gQ < w14.heap.size := by
          have := World.block_lt_of_cell? _ _ (HPB13.out.later hb14).c0
          simpa using this
        obtain ⟨w15, hw15⟩ : ∃ W, w14.alloc (Obj.cells #[.int .i64 P1, .string P2, .int .i64 P3] 50) = W := ⟨_, rfl⟩
        obtain ⟨gH, hgH⟩ : ∃ q, q = w14.heap.size := ⟨_, rfl⟩
        rw [hw15] at hph hX15 hXB15 hYB15 hPB15
        rw [← hgH] at hph hltq
        have HW15 : Hid (w14.alloc (Obj.cells #[.int .i64 P1, .string P2, .int .i64 P3] 50) = w15) := hw15
        have HGH : Hid (w14.heap.size = gH) := hgH.symm
        have HX15 : Hid (LK w w15 S (.slice ao n cap) (.slice ao2 n2 cap2) (.slice ao3 n3 cap3) k f t v a b (.slice a6 n6 c6)) := hX15
        have HXB15 : Hid (WiBox w15 gX K F T V) := hXB15
        have HYB15 : Hid (WiBox w15 gY K F T V) := hYB15
        have HPB15 : Hid (PrBox w w15 gQ 0 ⟨#[]⟩ 0) := hPB15
        have HPH15 : Hid (PrBox w w15 gH P1 P2 P3) := hph
        have HQL : Hid (w.heap.size + 1 + 1 < gQ ∧ gX ≠ gQ ∧ gY ≠ gQ) := by
          have h1 := HLX.out
          have h2 := HXY.out
          have h3 := HYQ.out
          exact ⟨by omega, by omega, by omega⟩
        clear hb14 hv hn9 hBR hal hph hX15 hXB15 hYB15 hPB15 hltq hw15 hgH b0 b1 b2 b3
        go_upto_region 18 with fail
        rw [HW15.out, HGH.out]
        clear HW15 HGH
        obtain ⟨h0, h1, h2, _⟩ := HPH15.out
        obtain ⟨q0, q1, q2, qf⟩ := HPB15.out
        have f0 := qf 0
        have f1 := qf 1
        have f2 := qf 2
        clear qf
        cases BR with
        | true =>
          have he4 : E4 = 0 := HN9.out
          subst he4
          go_wp2_with fail
          go_meet
          exact ⟨rfl, ((HX15.out.set HQL.out.1 0 _).set HQL.out.1 1 _).set HQL.out.1 2 _, WiBox.set (WiBox.set (WiBox.set HXB15.out HQL.out.2.1 0 _) HQL.out.2.1 1 _) HQL.out.2.1 2 _, WiBox.set (WiBox.set (WiBox.set HYB15.out HQL.out.2.2 0 _) HQL.out.2.2 1 _) HQL.out.2.2 2 _, PrBox.set3 HPB15.out P1 P2 P3⟩
        | false =>
          have he4 : E4 = 9 := HN9.out
          subst he4
          go_wp2_with fail
          go_meet
          exact ⟨rfl, ((HX15.out.set HQL.out.1 0 _).set HQL.out.1 1 _).set HQL.out.1 2 _, WiBox.set (WiBox.set (WiBox.set HXB15.out HQL.out.2.1 0 _) HQL.out.2.1 1 _) HQL.out.2.1 2 _, WiBox.set (WiBox.set (WiBox.set HYB15.out HQL.out.2.2 0 _) HQL.out.2.2 1 _) HQL.out.2.2 2 _, PrBox.set3 HPB15.out P1 P2 P3⟩
      · have hnz : ¬ (ntN S Ls Hs Ts = 0 ∧ wsN S Ls Hs l = 0) := by
          rw [HN2.out, HN1.out]
          rintro ⟨h1, h2⟩
          exact h0 (by rw [HE2.out, if_pos h1, h2])
        have he : E4 = E2 := by
          rw [← HE4.out, wiN, HE2.out, ← HN2.out, ← HN1.out]
          by_cases h1 : ntN S Ls Hs Ts = 0
          · rw [if_pos h1, if_pos h1, if_neg (fun h => hnz ⟨h1, h⟩)]
          · rw [if_neg h1, if_neg h1]
        have hv : wiV S Ls Hs Ts l = (0, ByteArray.empty, 0) := by rw [wiV, if_neg hnz]
        have p1 : P1 = 0 := by rw [← HPV.out.1, hv]
        have p2 : P2 = ⟨#[]⟩ := by rw [← HPV.out.2.1, hv]; rfl
        have p3 : P3 = 0 := by rw [← HPV.out.2.2, hv]
        subst he
        subst p1
        subst p2
        subst p3
        have hq : (E4 == 0) = false := by simp [h0]
        clear hv hnz
        go_wp2_with fail
        go_meet
        exact ⟨rfl, HX13.out, HXB13.out, HYB13.out, HPB13.out⟩
  case rest =>
  obtain ⟨rfl, hlk, hxb, hyb, hpb⟩ := hcut
  obtain ⟨w16, hw16⟩ : ∃ W, W = wc := ⟨_, rfl⟩
  subst hw16
  have HX16 : Hid (LK w w16 S (.slice ao n cap) (.slice ao2 n2 cap2) (.slice ao3 n3 cap3) k f t v a b (.slice a6 n6 c6)) := hlk
  have HXB16 : Hid (WiBox w16 gX K F T V) := hxb
  have HYB16 : Hid (WiBox w16 gY K F T V) := hyb
  have HPB16 : Hid (PrBox w w16 gQ P1 P2 P3) := hpb
  clear hlk hxb hyb hpb HX13 HXB13 HYB13 HPB13 HE2
  obtain ⟨_, ⟨b0, b1, b2, b3⟩, _, _⟩ := HX16.out
  go_wp2_with fail
  refine (holds_any S ao n cap ao2 n2 cap2 ao3 n3 cap3 a4 n4 c4 Ls Hs Ts l _ (HLW.out _ HX16.out.below) (HHW.out _ HX16.out.below) (HTW.out _ HX16.out.below) (HlW.out _ HX16.out.below)).mono ?_
  rintro e w17 ⟨rfl, hb17⟩
  rw [HE4.out, HPV.out.1, HPV.out.2.1, HPV.out.2.2]
  have hal : Below w17.heap.size w17 (w17.alloc (Obj.cells #[.int .i64 P1, .string P2, .int .i64 P3] 50)) := (Below.refl _ _).alloc (Nat.le_refl _) _
  have hph := prbox_new w17 w P1 P2 P3
  have hX18 := (HX16.out.later hb17).later hal
  have hXB18 := (HXB16.out.later hb17).later hal
  have hYB18 := (HYB16.out.later hb17).later hal
  have hPB18 := (HPB16.out.later hb17).later hal
  obtain ⟨w18, hw18⟩ : ∃ W, w17.alloc (Obj.cells #[.int .i64 P1, .string P2, .int .i64 P3] 50) = W := ⟨_, rfl⟩
  obtain ⟨gP, hgP⟩ : ∃ q, q = w17.heap.size := ⟨_, rfl⟩
  rw [hw18] at hph hX18 hXB18 hYB18 hPB18
  rw [← hgP] at hph
  have HW18 : Hid (w17.alloc (Obj.cells #[.int .i64 P1, .string P2, .int .i64 P3] 50) = w18) := hw18
  have HGP : Hid (w17.heap.size = gP) := hgP.symm
  have HX18 : Hid (LK w w18 S (.slice ao n cap) (.slice ao2 n2 cap2) (.slice ao3 n3 cap3) k f t v a b (.slice a6 n6 c6)) := hX18
  have HXB18 : Hid (WiBox w18 gX K F T V) := hXB18
  have HYB18 : Hid (WiBox w18 gY K F T V) := hYB18
  have HPB18 : Hid (PrBox w w18 gQ P1 P2 P3) := hPB18
  have HPP18 : Hid (PrBox w w18 gP P1 P2 P3) := hph
  clear hb17 hal hph hX18 hXB18 hYB18 hPB18 hw18 hgP b0 b1 b2 b3 HX16 HXB16 HYB16 HPB16
  go_upto_region 22 with fail
  rw [HW18.out, HGP.out]
  clear HW18 HGP
  go_wp2_with fail
  refine (same_noV E4 _ (HGW.out _ HX18.out.below)).mono ?_
  rintro e w19 ⟨rfl, hb19⟩
  have HX19 : Hid (LK w w19 S (.slice ao n cap) (.slice ao2 n2 cap2) (.slice ao3 n3 cap3) k f t v a b (.slice a6 n6 c6)) := HX18.out.later hb19
  have HXB19 : Hid (WiBox w19 gX K F T V) := HXB18.out.later hb19
  have HYB19 : Hid (WiBox w19 gY K F T V) := HYB18.out.later hb19
  have HPB19 : Hid (PrBox w w19 gQ P1 P2 P3) := HPB18.out.later hb19
  have HPP19 : Hid (PrBox w w19 gP P1 P2 P3) := HPP18.out.later hb19
  have HCB : Hid (CB w19 (w.heap.size + 1) (w.heap.size + 1 + 1) k f t v a b (.slice a6 n6 c6) w19) := ⟨Below.refl _ _, HX19.out.x, HX19.out.y⟩
  have HB19 : Hid (Below w.heap.size w w19) := HX19.out.below
  obtain ⟨FI, hFI⟩ : ∃ q, q = fiB ⟨k, f, t, v⟩ m (a, b, hp) := ⟨_, rfl⟩
  have HFI : Hid (fiB ⟨k, f, t, v⟩ m (a, b, hp) = FI) := hFI.symm
  clear hb19 HX18 HXB18 HYB18 HPB18 HPP18 hFI
  go_upto_region 23 with fail
  go_cut [28] from 95 to 114 (fun c w' => c = .bool true ∧ Below w19.heap.size w19 w')
  case first =>
    as_aux_lemma =>
      by_cases k1 : k < 1
      · refine wp_region_quiet (C := CB w19 (w.heap.size + 1) (w.heap.size + 1 + 1) k f t v a b (.slice a6 n6 c6)) (by kernel_rfl) (by kernel_rfl) (CB.later (W := w19) (Below.drew (Below.refl _ _)) HCB.out) ?_
        simp only [List.toList_toArray]
        have e1 : decide (k < 1) = true := by simpa using k1
        go_big_quiet_want
        refine quiet_val (v := .pointer (some ⟨w.heap.size + 1, 0, none⟩)) (fun w' hC => ?_) ?_
        · obtain ⟨z, ⟨z0, z1, z2, z3⟩, y0, y1, y2⟩ := hC
          go_simp
        simp only [Act.put, List.setIfInBounds_toArray, List.set_cons_zero, List.set_cons_succ]
        go_big_quiet_on
        go_big_quiet_want
        refine quiet_val (v := .int .i64 k) (fun w' hC => ?_) ?_
        · obtain ⟨z, ⟨z0, z1, z2, z3⟩, y0, y1, y2⟩ := hC
          go_simp
        simp only [Act.put, List.setIfInBounds_toArray, List.set_cons_zero, List.set_cons_succ]
        go_big_quiet_on
        go_big_quiet_want
        refine quiet_val (v := .bool true) (fun w' hC => ?_) ?_
        · obtain ⟨z, ⟨z0, z1, z2, z3⟩, y0, y1, y2⟩ := hC
          go_simp
        simp only [Act.put, List.setIfInBounds_toArray, List.set_cons_zero, List.set_cons_succ]
        go_big_quiet_on
        go_big_quiet_want
        refine quiet_val (v := .bool true) (fun w' hC => ?_) ?_
        · obtain ⟨z, ⟨z0, z1, z2, z3⟩, y0, y1, y2⟩ := hC
          go_simp
        simp only [Act.put, List.setIfInBounds_toArray, List.set_cons_zero, List.set_cons_succ]
        go_big_quiet_on
        go_big_quiet_skip
        go_big_quiet_skip
        go_big_quiet_skip
        go_big_quiet_want
        refine quiet_val (v := .bool true) (fun w' hC => ?_) ?_
        · obtain ⟨z, ⟨z0, z1, z2, z3⟩, y0, y1, y2⟩ := hC
          go_simp
        simp only [Act.put, List.setIfInBounds_toArray, List.set_cons_zero, List.set_cons_succ]
        go_big_quiet_on
        go_big_quiet_want
        refine quiet_val (v := .bool true) (fun w' hC => ?_) ?_
        · obtain ⟨z, ⟨z0, z1, z2, z3⟩, y0, y1, y2⟩ := hC
          go_simp
        simp only [Act.put, List.setIfInBounds_toArray, List.set_cons_zero, List.set_cons_succ]
        go_big_quiet_on
        go_big_quiet_skip
        go_big_quiet_skip
        go_big_quiet_skip
        go_big_quiet_skip
        go_big_quiet_skip
        go_big_quiet_skip
        go_big_quiet_skip
        go_big_quiet_skip
        go_big_quiet_skip
        go_big_quiet_want
        refine quiet_val (v := .bool true) (fun w' hC => ?_) ?_
        · obtain ⟨z, ⟨z0, z1, z2, z3⟩, y0, y1, y2⟩ := hC
          go_simp
        simp only [Act.put, List.setIfInBounds_toArray, List.set_cons_zero, List.set_cons_succ]
        go_big_quiet_on
        go_big_quiet_want
        refine quiet_val (v := .bool true) (fun w' hC => ?_) ?_
        · obtain ⟨z, ⟨z0, z1, z2, z3⟩, y0, y1, y2⟩ := hC
          go_simp
        simp only [Act.put, List.setIfInBounds_toArray, List.set_cons_zero, List.set_cons_succ]
        go_big_quiet_on
        refine wpQuiet_nil ?_
        intro w' hC
        have HBY : Hid (Below w19.heap.size w19 w') := hC.1
        clear hC
        go_wp2_with fail
        go_meet
        exact ⟨rfl, HBY.out⟩
      · by_cases k4 : 4 < k
        · refine wp_region_quiet (C := CB w19 (w.heap.size + 1) (w.heap.size + 1 + 1) k f t v a b (.slice a6 n6 c6)) (by kernel_rfl) (by kernel_rfl) (CB.later (W := w19) (Below.drew (Below.refl _ _)) HCB.out) ?_
          simp only [List.toList_toArray]
          have e1 : decide (k < 1) = false := by simpa using k1
          have e4 : decide (4 < k) = true := by simpa using k4
          go_big_quiet_want
          refine quiet_val (v := .pointer (some ⟨w.heap.size + 1, 0, none⟩)) (fun w' hC => ?_) ?_
          · obtain ⟨z, ⟨z0, z1, z2, z3⟩, y0, y1, y2⟩ := hC
            go_simp
          simp only [Act.put, List.setIfInBounds_toArray, List.set_cons_zero, List.set_cons_succ]
          go_big_quiet_on
          go_big_quiet_want
          refine quiet_val (v := .int .i64 k) (fun w' hC => ?_) ?_
          · obtain ⟨z, ⟨z0, z1, z2, z3⟩, y0, y1, y2⟩ := hC
            go_simp
          simp only [Act.put, List.setIfInBounds_toArray, List.set_cons_zero, List.set_cons_succ]
          go_big_quiet_on
          go_big_quiet_want
          refine quiet_val (v := .bool false) (fun w' hC => ?_) ?_
          · obtain ⟨z, ⟨z0, z1, z2, z3⟩, y0, y1, y2⟩ := hC
            go_simp
          simp only [Act.put, List.setIfInBounds_toArray, List.set_cons_zero, List.set_cons_succ]
          go_big_quiet_on
          go_big_quiet_want
          refine quiet_val (v := .bool false) (fun w' hC => ?_) ?_
          · obtain ⟨z, ⟨z0, z1, z2, z3⟩, y0, y1, y2⟩ := hC
            go_simp
          simp only [Act.put, List.setIfInBounds_toArray, List.set_cons_zero, List.set_cons_succ]
          go_big_quiet_on
          go_big_quiet_want
          refine quiet_val (v := .pointer (some ⟨w.heap.size + 1, 0, none⟩)) (fun w' hC => ?_) ?_
          · obtain ⟨z, ⟨z0, z1, z2, z3⟩, y0, y1, y2⟩ := hC
            go_simp
          simp only [Act.put, List.setIfInBounds_toArray, List.set_cons_zero, List.set_cons_succ]
          go_big_quiet_on
          go_big_quiet_want
          refine quiet_val (v := .int .i64 k) (fun w' hC => ?_) ?_
          · obtain ⟨z, ⟨z0, z1, z2, z3⟩, y0, y1, y2⟩ := hC
            go_simp
          simp only [Act.put, List.setIfInBounds_toArray, List.set_cons_zero, List.set_cons_succ]
          go_big_quiet_on
          go_big_quiet_want
          refine quiet_val (v := .bool true) (fun w' hC => ?_) ?_
          · obtain ⟨z, ⟨z0, z1, z2, z3⟩, y0, y1, y2⟩ := hC
            go_simp
          simp only [Act.put, List.setIfInBounds_toArray, List.set_cons_zero, List.set_cons_succ]
          go_big_quiet_on
          go_big_quiet_want
          refine quiet_val (v := .bool true) (fun w' hC => ?_) ?_
          · obtain ⟨z, ⟨z0, z1, z2, z3⟩, y0, y1, y2⟩ := hC
            go_simp
          simp only [Act.put, List.setIfInBounds_toArray, List.set_cons_zero, List.set_cons_succ]
          go_big_quiet_on
          go_big_quiet_want
          refine quiet_val (v := .bool true) (fun w' hC => ?_) ?_
          · obtain ⟨z, ⟨z0, z1, z2, z3⟩, y0, y1, y2⟩ := hC
            go_simp
          simp only [Act.put, List.setIfInBounds_toArray, List.set_cons_zero, List.set_cons_succ]
          go_big_quiet_on
          go_big_quiet_skip
          go_big_quiet_skip
          go_big_quiet_skip
          go_big_quiet_skip
          go_big_quiet_skip
          go_big_quiet_skip
          go_big_quiet_skip
          go_big_quiet_skip
          go_big_quiet_skip
          go_big_quiet_want
          refine quiet_val (v := .bool true) (fun w' hC => ?_) ?_
          · obtain ⟨z, ⟨z0, z1, z2, z3⟩, y0, y1, y2⟩ := hC
            go_simp
          simp only [Act.put, List.setIfInBounds_toArray, List.set_cons_zero, List.set_cons_succ]
          go_big_quiet_on
          go_big_quiet_want
          refine quiet_val (v := .bool true) (fun w' hC => ?_) ?_
          · obtain ⟨z, ⟨z0, z1, z2, z3⟩, y0, y1, y2⟩ := hC
            go_simp
          simp only [Act.put, List.setIfInBounds_toArray, List.set_cons_zero, List.set_cons_succ]
          go_big_quiet_on
          refine wpQuiet_nil ?_
          intro w' hC
          have HBY : Hid (Below w19.heap.size w19 w') := hC.1
          clear hC
          go_wp2_with fail
          go_meet
          exact ⟨rfl, HBY.out⟩
        · refine wp_region_quiet (C := CB w19 (w.heap.size + 1) (w.heap.size + 1 + 1) k f t v a b (.slice a6 n6 c6)) (by kernel_rfl) (by kernel_rfl) (CB.later (W := w19) (Below.drew (Below.refl _ _)) HCB.out) ?_
          simp only [List.toList_toArray]
          have e1 : decide (k < 1) = false := by simpa using k1
          have e4 : decide (4 < k) = false := by simpa using k4
          go_big_quiet_want
          refine quiet_val (v := .pointer (some ⟨w.heap.size + 1, 0, none⟩)) (fun w' hC => ?_) ?_
          · obtain ⟨z, ⟨z0, z1, z2, z3⟩, y0, y1, y2⟩ := hC
            go_simp
          simp only [Act.put, List.setIfInBounds_toArray, List.set_cons_zero, List.set_cons_succ]
          go_big_quiet_on
          go_big_quiet_want
          refine quiet_val (v := .int .i64 k) (fun w' hC => ?_) ?_
          · obtain ⟨z, ⟨z0, z1, z2, z3⟩, y0, y1, y2⟩ := hC
            go_simp
          simp only [Act.put, List.setIfInBounds_toArray, List.set_cons_zero, List.set_cons_succ]
          go_big_quiet_on
          go_big_quiet_want
          refine quiet_val (v := .bool false) (fun w' hC => ?_) ?_
          · obtain ⟨z, ⟨z0, z1, z2, z3⟩, y0, y1, y2⟩ := hC
            go_simp
          simp only [Act.put, List.setIfInBounds_toArray, List.set_cons_zero, List.set_cons_succ]
          go_big_quiet_on
          go_big_quiet_want
          refine quiet_val (v := .bool false) (fun w' hC => ?_) ?_
          · obtain ⟨z, ⟨z0, z1, z2, z3⟩, y0, y1, y2⟩ := hC
            go_simp
          simp only [Act.put, List.setIfInBounds_toArray, List.set_cons_zero, List.set_cons_succ]
          go_big_quiet_on
          go_big_quiet_want
          refine quiet_val (v := .pointer (some ⟨w.heap.size + 1, 0, none⟩)) (fun w' hC => ?_) ?_
          · obtain ⟨z, ⟨z0, z1, z2, z3⟩, y0, y1, y2⟩ := hC
            go_simp
          simp only [Act.put, List.setIfInBounds_toArray, List.set_cons_zero, List.set_cons_succ]
          go_big_quiet_on
          go_big_quiet_want
          refine quiet_val (v := .int .i64 k) (fun w' hC => ?_) ?_
          · obtain ⟨z, ⟨z0, z1, z2, z3⟩, y0, y1, y2⟩ := hC
            go_simp
          simp only [Act.put, List.setIfInBounds_toArray, List.set_cons_zero, List.set_cons_succ]
          go_big_quiet_on
          go_big_quiet_want
          refine quiet_val (v := .bool false) (fun w' hC => ?_) ?_
          · obtain ⟨z, ⟨z0, z1, z2, z3⟩, y0, y1, y2⟩ := hC
            go_simp
          simp only [Act.put, List.setIfInBounds_toArray, List.set_cons_zero, List.set_cons_succ]
          go_big_quiet_on
          go_big_quiet_want
          refine quiet_val (v := .bool false) (fun w' hC => ?_) ?_
          · obtain ⟨z, ⟨z0, z1, z2, z3⟩, y0, y1, y2⟩ := hC
            go_simp
          simp only [Act.put, List.setIfInBounds_toArray, List.set_cons_zero, List.set_cons_succ]
          go_big_quiet_on
          go_big_quiet_want
          refine quiet_val (v := .bool false) (fun w' hC => ?_) ?_
          · obtain ⟨z, ⟨z0, z1, z2, z3⟩, y0, y1, y2⟩ := hC
            go_simp
          simp only [Act.put, List.setIfInBounds_toArray, List.set_cons_zero, List.set_cons_succ]
          go_big_quiet_on
          go_big_quiet_want
          refine quiet_val (v := .agg #[.int .i64 k, .string f, .string t, .int .i64 v]) (fun w' hC => ?_) ?_
          · obtain ⟨z, ⟨z0, z1, z2, z3⟩, y0, y1, y2⟩ := hC
            go_simp
          simp only [Act.put, List.setIfInBounds_toArray, List.set_cons_zero, List.set_cons_succ]
          go_big_quiet_on
          go_big_quiet_want
          refine quiet_val (v := .string m) (fun w' hC => ?_) ?_
          · obtain ⟨z, ⟨z0, z1, z2, z3⟩, y0, y1, y2⟩ := hC
            go_simp
          simp only [Act.put, List.setIfInBounds_toArray, List.set_cons_zero, List.set_cons_succ]
          go_big_quiet_on
          go_big_quiet_want
          refine quiet_val (v := .agg #[.int .i64 a, .string b, .slice a6 n6 c6]) (fun w' hC => ?_) ?_
          · obtain ⟨z, ⟨z0, z1, z2, z3⟩, y0, y1, y2⟩ := hC
            go_simp
          simp only [Act.put, List.setIfInBounds_toArray, List.set_cons_zero, List.set_cons_succ]
          go_big_quiet_on
          go_big_quiet_want
          refine quiet_call (f := 14) (args := #[.agg #[.int .i64 k, .string f, .string t, .int .i64 v], .string m, .agg #[.int .i64 a, .string b, .slice a6 n6 c6]]) (v := .bool FI) (fun w' => ?_) (fun w' hC => (fits_any k f t v m a b a6 n6 c6 hp w' (HfW.out _ (HB19.out.trans (hC.1.mono HB19.out.size)))).mono (fun e w2 h2 => ⟨by rw [h2.1, HFI.out], CB.later h2.2 hC⟩)) ?_
          · go_simp
          simp only [Act.put, List.setIfInBounds_toArray, List.set_cons_zero, List.set_cons_succ]
          go_big_quiet_on
          go_big_quiet_want
          refine quiet_val (v := .agg #[.int .i64 k, .string f, .string t, .int .i64 v]) (fun w' hC => ?_) ?_
          · obtain ⟨z, ⟨z0, z1, z2, z3⟩, y0, y1, y2⟩ := hC
            go_simp
          simp only [Act.put, List.setIfInBounds_toArray, List.set_cons_zero, List.set_cons_succ]
          go_big_quiet_on
          go_big_quiet_want
          refine quiet_val (v := .string m) (fun w' hC => ?_) ?_
          · obtain ⟨z, ⟨z0, z1, z2, z3⟩, y0, y1, y2⟩ := hC
            go_simp
          simp only [Act.put, List.setIfInBounds_toArray, List.set_cons_zero, List.set_cons_succ]
          go_big_quiet_on
          go_big_quiet_want
          refine quiet_val (v := .agg #[.int .i64 a, .string b, .slice a6 n6 c6]) (fun w' hC => ?_) ?_
          · obtain ⟨z, ⟨z0, z1, z2, z3⟩, y0, y1, y2⟩ := hC
            go_simp
          simp only [Act.put, List.setIfInBounds_toArray, List.set_cons_zero, List.set_cons_succ]
          go_big_quiet_on
          go_big_quiet_want
          refine quiet_call (f := 15) (args := #[.agg #[.int .i64 k, .string f, .string t, .int .i64 v], .string m, .agg #[.int .i64 a, .string b, .slice a6 n6 c6]]) (v := .bool FI) (fun w' => ?_) (fun w' hC => (rfits_any k f t v m a b a6 n6 c6 hp w' (HfW.out _ (HB19.out.trans (hC.1.mono HB19.out.size)))).mono (fun e w2 h2 => ⟨by rw [h2.1, HFI.out], CB.later h2.2 hC⟩)) ?_
          · go_simp
          simp only [Act.put, List.setIfInBounds_toArray, List.set_cons_zero, List.set_cons_succ]
          go_big_quiet_on
          go_big_quiet_want
          refine quiet_val (v := .bool true) (fun w' hC => ?_) ?_
          · obtain ⟨z, ⟨z0, z1, z2, z3⟩, y0, y1, y2⟩ := hC
            go_simp
          simp only [Act.put, List.setIfInBounds_toArray, List.set_cons_zero, List.set_cons_succ]
          go_big_quiet_on
          go_big_quiet_want
          refine quiet_val (v := .bool true) (fun w' hC => ?_) ?_
          · obtain ⟨z, ⟨z0, z1, z2, z3⟩, y0, y1, y2⟩ := hC
            go_simp
          simp only [Act.put, List.setIfInBounds_toArray, List.set_cons_zero, List.set_cons_succ]
          go_big_quiet_on
          go_big_quiet_want
          refine quiet_val (v := .bool true) (fun w' hC => ?_) ?_
          · obtain ⟨z, ⟨z0, z1, z2, z3⟩, y0, y1, y2⟩ := hC
            go_simp
          simp only [Act.put, List.setIfInBounds_toArray, List.set_cons_zero, List.set_cons_succ]
          go_big_quiet_on
          refine wpQuiet_nil ?_
          intro w' hC
          have HBY : Hid (Below w19.heap.size w19 w') := hC.1
          clear hC
          go_wp2_with fail
          go_meet
          exact ⟨rfl, HBY.out⟩
  case rest =>
  obtain ⟨rfl, hbc⟩ := hcut
  have HBc : Hid (Below w.heap.size w wc) := HB19.out.trans (hbc.mono HB19.out.size)
  obtain ⟨x0, x1, x2, x3⟩ := HXB19.out.later hbc
  obtain ⟨y0, y1, y2, y3⟩ := HYB19.out.later hbc
  obtain ⟨p0, p1, p2, _⟩ := HPB19.out.later hbc
  obtain ⟨q0, q1, q2, _⟩ := HPP19.out.later hbc
  clear hbc
  go_wp2
  go_ret
  exact ⟨rfl, HBc.out⟩
end Go.Proofs.YtpmcjelihdlfeaaGreatDoor.wishTells
/- A topology that came in: its number of switches, its links, its hosts. -/
namespace Go.Proofs.YtpmcjelihdlfeaaGreatDoor
open Go.ChangeShapes Go.WideShapes Go.ChangeAt Go.RowKit Go.Joins
set_option linter.unusedSimpArgs false
set_option linter.unusedVariables false
set_option maxRecDepth 100000

section
variable {P : Program} {α : Type} {E : Enc α}
set_option maxRecDepth 100000 in
/-- A cell that reads as a slice lies where it says. -/
theorem gs_open {H : Type} {enc : TypeId × Value → H} {W : World} {fuel : Nat} {cs : List Value} {x : DataW H × List MemPlace} (ts te : TypeId) (hu : P.underlying ts = some (.slice te)) (hC : P.cellsOf te = E.n) (x0 : α)
    (hel : ∀ (n : Nat) (cs : List Value) (x : DataW H × List MemPlace), DataW.trod enc P W 0 (fun _ => true) true n te cs = some x → ∃ y, cs = E.c y)
    (hf2 : DataW.trod enc P W 0 (fun _ => true) true fuel ts cs = some x) : ∃ ao n cap L, cs = [.slice ao n cap] ∧ GS E W (.slice ao n cap) L := by
  obtain ⟨d, p⟩ := x
  rcases Go.Deep.open_slice hu hf2 with ⟨hc, hx⟩ | ⟨a, len0, cap, m, k, D, Pl, hc, _, hl, hm, hmm, hx, hall⟩
  · exact ⟨_, _, _, [], hc, .inl ⟨none, 0, rfl, rfl⟩⟩
  · simp only [if_true] at hmm
    subst hmm
    rcases Nat.eq_zero_or_pos len0 with h0 | h0
    · subst h0
      exact ⟨_, _, _, [], hc, .inl ⟨_, _, rfl, rfl⟩⟩
    · have each : ∀ i, i < m → ∃ y : α, ∀ j, j < E.n → W.cell? (a.add (i * E.n + j)) = (E.c y)[j]? := by
        intro i hi
        obtain ⟨cs, h1, h2⟩ := hall i hi
        rw [hC] at h1
        obtain ⟨_, hlen, hcell⟩ := World.cells?_some h1
        obtain ⟨y, rfl⟩ := hel _ _ _ h2
        refine ⟨y, fun j hj => ?_⟩
        have := hcell j (by omega)
        rw [Go.Deep.add_add] at this
        exact this
      have iR : Inhabited α := ⟨x0⟩
      obtain ⟨R, hR⟩ := Go.Deep.choose_lt each
      obtain ⟨sb, so, spot⟩ := a
      have hspot : spot = none := by
        have h1 := hR 0 (by omega) 0 E.pos
        have h2 : (E.c (R 0))[0]?.isSome = true := by
          rw [List.getElem?_eq_getElem (by rw [E.len]; exact E.pos)]
          rfl
        obtain ⟨u, hu2⟩ := Option.isSome_iff_exists.1 h2
        rw [hu2] at h1
        simpa [Addr.add] using World.cell?_spot h1
      subst hspot
      have hadd : ∀ j, (⟨sb, so, none⟩ : Addr).add j = ⟨sb, so + j, none⟩ := by
        intro j
        simp only [Addr.add]
        first
          | rfl
          | (split
             · next h0 => rw [h0]; rfl
             · rfl)
      refine ⟨_, _, _, (List.range len0).map R, hc, .inr ⟨sb, so, _, by simp, by simpa using hl, hm, fun i hi j u hu2 => ?_⟩⟩
      have hi2 : i < len0 := by simpa using hi
      have e : ((List.range len0).map R)[i] = R i := by simp
      rw [e] at hu2
      have hj : j < E.n := by
        have := (List.getElem?_eq_some_iff.1 hu2).1
        rw [E.len] at this
        exact this
      have hc := hR i (by omega) j hj
      rw [hadd, hu2, ← Nat.add_assoc] at hc
      exact hc
end
set_option maxRecDepth 100000 in
/-- One that came in. -/
theorem topo_open {H : Type} {enc : TypeId × Value → H} {W : World} {n : Nat} {cs : List Value} {x : DataW H × List MemPlace}
    (h : DataW.trod enc Tryz.prog W 0 (fun _ => true) true n 25 cs = some x) : ∃ S ao n cap ao2 n2 cap2 Ls Hs, cs = [.int .i64 S, .slice ao n cap, .slice ao2 n2 cap2] ∧ GS lnkE W (.slice ao n cap) Ls ∧ GS hstE W (.slice ao2 n2 cap2) Hs := by
  obtain ⟨xs, k, _, _, hl, hlen, hf⟩ := DataW.trod_struct Tryz.underlying25 h
  have hC : Tryz.prog.cellsOf 25 = 3 := by kernel_rfl
  have hT0 : Tryz.prog.cellsOf 3 = 1 := by kernel_rfl
  have hT1 : Tryz.prog.cellsOf 22 = 1 := by kernel_rfl
  have hT2 : Tryz.prog.cellsOf 23 = 1 := by kernel_rfl
  rw [hC] at hl
  match cs, hl with
  | [c0, c1, c2], _ =>
    match xs, hlen with
    | [z0, z1, z2], _ =>
      have g0 := hf 0 _ rfl
      have g1 := hf 1 _ rfl
      have g2 := hf 2 _ rfl
      simp [hT0, hT1, hT2] at g0 g1 g2
      obtain ⟨v0, e0, _, _⟩ := DataW.trod_int Tryz.underlying3 g0
      obtain ⟨ao, n, cap, Ls, e1, hL⟩ := gs_open (E := lnkE) 22 101 Tryz.underlying22 (by kernel_rfl) ((0, 0), (0, 0)) (fun _ _ _ h => lnk_open h) g1
      obtain ⟨ao2, n2, cap2, Hs, e2, hH⟩ := gs_open (E := hstE) 23 82 Tryz.underlying23 (by kernel_rfl) (ByteArray.empty, (0, 0)) (fun _ _ _ h => hst_open h) g2
      simp at e0 e1 e2
      exact ⟨v0, ao, n, cap, ao2, n2, cap2, Ls, Hs, by simp [e0, e1, e2], hL, hH⟩
theorem topo_of {H : Type} {enc : TypeId × Value → H} {W : World} {base : Nat} {v : Value} {d : DataW H} {p : List MemPlace}
    (hv : Value.okWide Tryz.prog W .any base 25 v) (h : DataW.Trod enc Tryz.prog W 0 (fun _ => true) true 25 v d p) : ∃ S ao n cap ao2 n2 cap2 Ls Hs, v = .agg #[.int .i64 S, .slice ao n cap, .slice ao2 n2 cap2] ∧ GS lnkE W (.slice ao n cap) Ls ∧ GS hstE W (.slice ao2 n2 cap2) Hs := by
  obtain ⟨cs, rfl, hsz⟩ := okWide_struct Tryz.underlying25 hv
  obtain ⟨n, hn⟩ := h
  obtain ⟨S, ao, n, cap, ao2, n2, cap2, Ls, Hs, e, h1, h2⟩ := topo_open hn
  refine ⟨S, ao, n, cap, ao2, n2, cap2, Ls, Hs, ?_, h1, h2⟩
  simp only [Value.cells] at e
  rw [← Array.toArray_toList (xs := cs), e]
end Go.Proofs.YtpmcjelihdlfeaaGreatDoor
/- The struct api.Cube: its cells, slices of them, == of two, such that came in. Written by mk/struct.py. -/
namespace Go.Proofs.YtpmcjelihdlfeaaGreatDoor
open Go.ChangeShapes Go.WideShapes Go.ChangeAt Go.RowKit Go.Joins
set_option linter.unusedSimpArgs false
set_option linter.unusedVariables false
set_option maxRecDepth 100000

def cuE : Enc (Int × Int) where
  c := fun x => [.int .i64 x.1, .int .i64 x.2]
  n := 2
  len := fun _ => rfl
  pos := by decide
  one := by
    intro x u hu
    simp at hu
    rcases hu with rfl | rfl <;> rfl
theorem cu_cells {w : World} {g o : Nat} {x0 : Int} {x1 : Int} (h : VAt w g o (cuE.c (x0, x1))) : w.cell? ⟨g, o, none⟩ = some (.int .i64 x0) ∧ w.cell? ⟨g, o + 1, none⟩ = some (.int .i64 x1) :=
  ⟨h 0 _ rfl, h 1 _ rfl⟩
theorem cu_at {w : World} {g o : Nat} {L : List (Int × Int)} (h : GAt cuE w g o L) {n k : Nat} (hn : L.length = n) (hk : k < n) :
    ∃ (x0 : Int) (x1 : Int) (hl : k < L.length), L[k] = (x0, x1) ∧ w.cell? ⟨g, o + k * 2, none⟩ = some (.int .i64 x0) ∧ w.cell? ⟨g, o + k * 2 + 1, none⟩ = some (.int .i64 x1) :=
  have hl : k < L.length := by omega
  ⟨_, _, hl, rfl, cu_cells (h k hl)⟩
theorem cu_new (w : World) (x0 : Int) (x1 : Int) (t : TypeId) : VAt (w.alloc (Obj.cells #[.int .i64 x0, .int .i64 x1] t)) w.heap.size 0 (cuE.c (x0, x1)) := vat_new w [.int .i64 x0, .int .i64 x1] t
theorem cu_row (w : World) (x0 : Int) (x1 : Int) (t : TypeId) : GS cuE (w.alloc (Obj.cells #[.int .i64 x0, .int .i64 x1] t)) (.slice (some ⟨w.heap.size, 0, none⟩) 1 1) [(x0, x1)] := gs_one (E := cuE) w (x0, x1) t (vs := [.int .i64 x0, .int .i64 x1]) rfl
/-- Are two the same? -/
def cuB (a b : Int × Int) : Bool := (a.1 == b.1) && ((a.2 == b.2))
theorem cuB_iff (a b : Int × Int) : cuB a b = true ↔ a = b := by
  have e : cuB a b = ((a.1 == b.1) && ((a.2 == b.2))) := rfl
  rw [e]
  simp only [Bool.and_eq_true, beq_iff_eq]
  constructor
  · intro h
    obtain ⟨a0, a1⟩ := a; obtain ⟨b0, b1⟩ := b; simp at h ⊢; simp [h]
  · intro h
    subst h
    simp
theorem cu_ways (x0 : Int) (x1 : Int) (y0 : Int) (y1 : Int) :
    ((x0 == y0) = false ∧ cuB (x0, x1) (y0, y1) = false) ∨
    ((x0 == y0) = true ∧ (x1 == y1) = false ∧ cuB (x0, x1) (y0, y1) = false) ∨
    ((x0 == y0) = true ∧ (x1 == y1) = true ∧ cuB (x0, x1) (y0, y1) = true) := by
  have e : cuB (x0, x1) (y0, y1) = ((x0 == y0) && ((x1 == y1))) := rfl
  rw [e]
  cases h0 : (x0 == y0)
  · simp
  · skip
    cases h1 : (x1 == y1)
    · simp
    · skip
      simp
set_option maxRecDepth 100000 in
theorem cu_eq (x0 : Int) (x1 : Int) (y0 : Int) (y1 : Int) (w : World) : (Op.equal 115 (.agg #[.int .i64 x0, .int .i64 x1]) (.agg #[.int .i64 y0, .int .i64 y1])).run Tryz.prog w = .ok (cuB (x0, x1) (y0, y1)) w := by
  unfold Op.equal Op.maxDepth
  rw [run_equalIn_struct w 9999 _ _ _ (by kernel_rfl) (by kernel_rfl)]
  rcases cu_ways x0 x1 y0 y1 with ⟨e0, e⟩ | ⟨e0, e1, e⟩ | ⟨e0, e1, e⟩
  all_goals
    rw [e]
    go_simp
theorem cu_info : (Tryz.prog.info? 115).map (fun i => (i.zero, i.size, i.bytes)) = some (some (.agg #[.int .i64 0, .int .i64 0]), 2, 16) := by kernel_rfl
theorem cu_zero : (Value.agg #[.int .i64 0, .int .i64 0]).cells.size = 2 := by simp [Value.cells]
/-- Cells that read as one. -/
theorem cu_open {H : Type} {enc : TypeId × Value → H} {W : World} {n : Nat} {cs : List Value} {x : DataW H × List MemPlace}
    (h : DataW.trod enc Tryz.prog W 0 (fun _ => true) true n 115 cs = some x) : ∃ y, cs = cuE.c y := by
  obtain ⟨xs, k, _, _, hl, hlen, hf⟩ := DataW.trod_struct Tryz.underlying115 h
  have hC : Tryz.prog.cellsOf 115 = 2 := by kernel_rfl
  have hT0 : Tryz.prog.cellsOf 3 = 1 := by kernel_rfl
  rw [hC] at hl
  match cs, hl with
  | [c0, c1], _ =>
    match xs, hlen with
    | [z0, z1], _ =>
      have g0 := hf 0 _ rfl
      have g1 := hf 1 _ rfl
      simp [hT0] at g0 g1
      obtain ⟨v0, e0, _, _⟩ := DataW.trod_int Tryz.underlying3 g0
      obtain ⟨v1, e1, _, _⟩ := DataW.trod_int Tryz.underlying3 g1
      simp [] at e0 e1
      refine ⟨(v0, v1), ?_⟩
      simp [cuE, e0, e1]
set_option maxRecDepth 100000 in
/-- One that came in. -/
theorem cu_of {H : Type} {enc : TypeId × Value → H} {W : World} {base : Nat} {v : Value} {d : DataW H} {p : List MemPlace}
    (hv : Value.okWide Tryz.prog W .any base 115 v) (h : DataW.Trod enc Tryz.prog W 0 (fun _ => true) true 115 v d p) : ∃ (x0 : Int) (x1 : Int), v = .agg #[.int .i64 x0, .int .i64 x1] := by
  obtain ⟨cs, rfl, hsz⟩ := okWide_struct Tryz.underlying115 hv
  obtain ⟨n, hn⟩ := h
  obtain ⟨y, e⟩ := cu_open hn
  refine ⟨y.1, y.2, ?_⟩
  simp only [Value.cells] at e
  have e2 : cs = #[.int .i64 y.1, .int .i64 y.2] := by
    rw [← Array.toArray_toList (xs := cs), e]
    rfl
  rw [e2]
end Go.Proofs.YtpmcjelihdlfeaaGreatDoor
/- The struct api.Rule: its cells, slices of them, == of two, such that came in. Written by mk/struct.py. -/
namespace Go.Proofs.YtpmcjelihdlfeaaGreatDoor
open Go.ChangeShapes Go.WideShapes Go.ChangeAt Go.RowKit Go.Joins
set_option linter.unusedSimpArgs false
set_option linter.unusedVariables false
set_option maxRecDepth 100000

def rlE : Enc (Ru) where
  c := fun x => [.int .i64 x.p, .int .i64 x.m, .int .i64 x.b, .int .i64 x.o, .int .i64 x.s, .int .i64 x.v]
  n := 6
  len := fun _ => rfl
  pos := by decide
  one := by
    intro x u hu
    simp at hu
    rcases hu with rfl | rfl | rfl | rfl | rfl | rfl <;> rfl
theorem rl_cells {w : World} {g o : Nat} {x0 : Int} {x1 : Int} {x2 : Int} {x3 : Int} {x4 : Int} {x5 : Int} (h : VAt w g o (rlE.c ⟨x0, x1, x2, x3, x4, x5⟩)) : w.cell? ⟨g, o, none⟩ = some (.int .i64 x0) ∧ w.cell? ⟨g, o + 1, none⟩ = some (.int .i64 x1) ∧ w.cell? ⟨g, o + 2, none⟩ = some (.int .i64 x2) ∧ w.cell? ⟨g, o + 3, none⟩ = some (.int .i64 x3) ∧ w.cell? ⟨g, o + 4, none⟩ = some (.int .i64 x4) ∧ w.cell? ⟨g, o + 5, none⟩ = some (.int .i64 x5) :=
  ⟨h 0 _ rfl, h 1 _ rfl, h 2 _ rfl, h 3 _ rfl, h 4 _ rfl, h 5 _ rfl⟩
theorem rl_at {w : World} {g o : Nat} {L : List (Ru)} (h : GAt rlE w g o L) {n k : Nat} (hn : L.length = n) (hk : k < n) :
    ∃ (x0 : Int) (x1 : Int) (x2 : Int) (x3 : Int) (x4 : Int) (x5 : Int) (hl : k < L.length), L[k] = ⟨x0, x1, x2, x3, x4, x5⟩ ∧ w.cell? ⟨g, o + k * 6, none⟩ = some (.int .i64 x0) ∧ w.cell? ⟨g, o + k * 6 + 1, none⟩ = some (.int .i64 x1) ∧ w.cell? ⟨g, o + k * 6 + 2, none⟩ = some (.int .i64 x2) ∧ w.cell? ⟨g, o + k * 6 + 3, none⟩ = some (.int .i64 x3) ∧ w.cell? ⟨g, o + k * 6 + 4, none⟩ = some (.int .i64 x4) ∧ w.cell? ⟨g, o + k * 6 + 5, none⟩ = some (.int .i64 x5) :=
  have hl : k < L.length := by omega
  ⟨_, _, _, _, _, _, hl, rfl, rl_cells (h k hl)⟩
theorem rl_new (w : World) (x0 : Int) (x1 : Int) (x2 : Int) (x3 : Int) (x4 : Int) (x5 : Int) (t : TypeId) : VAt (w.alloc (Obj.cells #[.int .i64 x0, .int .i64 x1, .int .i64 x2, .int .i64 x3, .int .i64 x4, .int .i64 x5] t)) w.heap.size 0 (rlE.c ⟨x0, x1, x2, x3, x4, x5⟩) := vat_new w [.int .i64 x0, .int .i64 x1, .int .i64 x2, .int .i64 x3, .int .i64 x4, .int .i64 x5] t
theorem rl_row (w : World) (x0 : Int) (x1 : Int) (x2 : Int) (x3 : Int) (x4 : Int) (x5 : Int) (t : TypeId) : GS rlE (w.alloc (Obj.cells #[.int .i64 x0, .int .i64 x1, .int .i64 x2, .int .i64 x3, .int .i64 x4, .int .i64 x5] t)) (.slice (some ⟨w.heap.size, 0, none⟩) 1 1) [⟨x0, x1, x2, x3, x4, x5⟩] := gs_one (E := rlE) w ⟨x0, x1, x2, x3, x4, x5⟩ t (vs := [.int .i64 x0, .int .i64 x1, .int .i64 x2, .int .i64 x3, .int .i64 x4, .int .i64 x5]) rfl
/-- Are two the same? -/
def rlB (a b : Ru) : Bool := (a.p == b.p) && ((a.m == b.m) && ((a.b == b.b) && ((a.o == b.o) && ((a.s == b.s) && ((a.v == b.v))))))
theorem rlB_iff (a b : Ru) : rlB a b = true ↔ a = b := by
  have e : rlB a b = ((a.p == b.p) && ((a.m == b.m) && ((a.b == b.b) && ((a.o == b.o) && ((a.s == b.s) && ((a.v == b.v))))))) := rfl
  rw [e]
  simp only [Bool.and_eq_true, beq_iff_eq]
  constructor
  · intro h
    obtain ⟨a0, a1, a2, a3, a4, a5⟩ := a; obtain ⟨b0, b1, b2, b3, b4, b5⟩ := b; simp at h ⊢; simp [h]
  · intro h
    subst h
    simp
theorem rl_ways (x0 : Int) (x1 : Int) (x2 : Int) (x3 : Int) (x4 : Int) (x5 : Int) (y0 : Int) (y1 : Int) (y2 : Int) (y3 : Int) (y4 : Int) (y5 : Int) :
    ((x0 == y0) = false ∧ rlB ⟨x0, x1, x2, x3, x4, x5⟩ ⟨y0, y1, y2, y3, y4, y5⟩ = false) ∨
    ((x0 == y0) = true ∧ (x1 == y1) = false ∧ rlB ⟨x0, x1, x2, x3, x4, x5⟩ ⟨y0, y1, y2, y3, y4, y5⟩ = false) ∨
    ((x0 == y0) = true ∧ (x1 == y1) = true ∧ (x2 == y2) = false ∧ rlB ⟨x0, x1, x2, x3, x4, x5⟩ ⟨y0, y1, y2, y3, y4, y5⟩ = false) ∨
    ((x0 == y0) = true ∧ (x1 == y1) = true ∧ (x2 == y2) = true ∧ (x3 == y3) = false ∧ rlB ⟨x0, x1, x2, x3, x4, x5⟩ ⟨y0, y1, y2, y3, y4, y5⟩ = false) ∨
    ((x0 == y0) = true ∧ (x1 == y1) = true ∧ (x2 == y2) = true ∧ (x3 == y3) = true ∧ (x4 == y4) = false ∧ rlB ⟨x0, x1, x2, x3, x4, x5⟩ ⟨y0, y1, y2, y3, y4, y5⟩ = false) ∨
    ((x0 == y0) = true ∧ (x1 == y1) = true ∧ (x2 == y2) = true ∧ (x3 == y3) = true ∧ (x4 == y4) = true ∧ (x5 == y5) = false ∧ rlB ⟨x0, x1, x2, x3, x4, x5⟩ ⟨y0, y1, y2, y3, y4, y5⟩ = false) ∨
    ((x0 == y0) = true ∧ (x1 == y1) = true ∧ (x2 == y2) = true ∧ (x3 == y3) = true ∧ (x4 == y4) = true ∧ (x5 == y5) = true ∧ rlB ⟨x0, x1, x2, x3, x4, x5⟩ ⟨y0, y1, y2, y3, y4, y5⟩ = true) := by
  have e : rlB ⟨x0, x1, x2, x3, x4, x5⟩ ⟨y0, y1, y2, y3, y4, y5⟩ = ((x0 == y0) && ((x1 == y1) && ((x2 == y2) && ((x3 == y3) && ((x4 == y4) && ((x5 == y5))))))) := rfl
  rw [e]
  cases h0 : (x0 == y0)
  · simp
  · skip
    cases h1 : (x1 == y1)
    · simp
    · skip
      cases h2 : (x2 == y2)
      · simp
      · skip
        cases h3 : (x3 == y3)
        · simp
        · skip
          cases h4 : (x4 == y4)
          · simp
          · skip
            cases h5 : (x5 == y5)
            · simp
            · skip
              simp
set_option maxRecDepth 100000 in
theorem rl_eq (x0 : Int) (x1 : Int) (x2 : Int) (x3 : Int) (x4 : Int) (x5 : Int) (y0 : Int) (y1 : Int) (y2 : Int) (y3 : Int) (y4 : Int) (y5 : Int) (w : World) : (Op.equal 117 (.agg #[.int .i64 x0, .int .i64 x1, .int .i64 x2, .int .i64 x3, .int .i64 x4, .int .i64 x5]) (.agg #[.int .i64 y0, .int .i64 y1, .int .i64 y2, .int .i64 y3, .int .i64 y4, .int .i64 y5])).run Tryz.prog w = .ok (rlB ⟨x0, x1, x2, x3, x4, x5⟩ ⟨y0, y1, y2, y3, y4, y5⟩) w := by
  unfold Op.equal Op.maxDepth
  rw [run_equalIn_struct w 9999 _ _ _ (by kernel_rfl) (by kernel_rfl)]
  rcases rl_ways x0 x1 x2 x3 x4 x5 y0 y1 y2 y3 y4 y5 with ⟨e0, e⟩ | ⟨e0, e1, e⟩ | ⟨e0, e1, e2, e⟩ | ⟨e0, e1, e2, e3, e⟩ | ⟨e0, e1, e2, e3, e4, e⟩ | ⟨e0, e1, e2, e3, e4, e5, e⟩ | ⟨e0, e1, e2, e3, e4, e5, e⟩
  all_goals
    rw [e]
    go_simp
theorem rl_info : (Tryz.prog.info? 117).map (fun i => (i.zero, i.size, i.bytes)) = some (some (.agg #[.int .i64 0, .int .i64 0, .int .i64 0, .int .i64 0, .int .i64 0, .int .i64 0]), 6, 48) := by kernel_rfl
theorem rl_zero : (Value.agg #[.int .i64 0, .int .i64 0, .int .i64 0, .int .i64 0, .int .i64 0, .int .i64 0]).cells.size = 6 := by simp [Value.cells]
/-- Cells that read as one. -/
theorem rl_open {H : Type} {enc : TypeId × Value → H} {W : World} {n : Nat} {cs : List Value} {x : DataW H × List MemPlace}
    (h : DataW.trod enc Tryz.prog W 0 (fun _ => true) true n 117 cs = some x) : ∃ y, cs = rlE.c y := by
  obtain ⟨xs, k, _, _, hl, hlen, hf⟩ := DataW.trod_struct Tryz.underlying117 h
  have hC : Tryz.prog.cellsOf 117 = 6 := by kernel_rfl
  have hT0 : Tryz.prog.cellsOf 3 = 1 := by kernel_rfl
  have hT1 : Tryz.prog.cellsOf 115 = 2 := by kernel_rfl
  rw [hC] at hl
  match cs, hl with
  | [c0, c1, c2, c3, c4, c5], _ =>
    match xs, hlen with
    | [z0, z1, z2, z3, z4], _ =>
      have g0 := hf 0 _ rfl
      have g1 := hf 1 _ rfl
      have g2 := hf 2 _ rfl
      have g3 := hf 3 _ rfl
      have g4 := hf 4 _ rfl
      simp [hT0, hT1] at g0 g1 g2 g3 g4
      obtain ⟨v0, e0, _, _⟩ := DataW.trod_int Tryz.underlying3 g0
      obtain ⟨s1, e1⟩ := cu_open g1
      obtain ⟨v3, e2, _, _⟩ := DataW.trod_int Tryz.underlying3 g2
      obtain ⟨v4, e3, _, _⟩ := DataW.trod_int Tryz.underlying3 g3
      obtain ⟨v5, e4, _, _⟩ := DataW.trod_int Tryz.underlying3 g4
      simp [cuE] at e0 e1 e2 e3 e4
      refine ⟨⟨v0, s1.1, s1.2, v3, v4, v5⟩, ?_⟩
      simp [rlE, e0, e1, e2, e3, e4]
set_option maxRecDepth 100000 in
/-- One that came in. -/
theorem rl_of {H : Type} {enc : TypeId × Value → H} {W : World} {base : Nat} {v : Value} {d : DataW H} {p : List MemPlace}
    (hv : Value.okWide Tryz.prog W .any base 117 v) (h : DataW.Trod enc Tryz.prog W 0 (fun _ => true) true 117 v d p) : ∃ (x0 : Int) (x1 : Int) (x2 : Int) (x3 : Int) (x4 : Int) (x5 : Int), v = .agg #[.int .i64 x0, .int .i64 x1, .int .i64 x2, .int .i64 x3, .int .i64 x4, .int .i64 x5] := by
  obtain ⟨cs, rfl, hsz⟩ := okWide_struct Tryz.underlying117 hv
  obtain ⟨n, hn⟩ := h
  obtain ⟨y, e⟩ := rl_open hn
  refine ⟨y.p, y.m, y.b, y.o, y.s, y.v, ?_⟩
  simp only [Value.cells] at e
  have e2 : cs = #[.int .i64 y.p, .int .i64 y.m, .int .i64 y.b, .int .i64 y.o, .int .i64 y.s, .int .i64 y.v] := by
    rw [← Array.toArray_toList (xs := cs), e]
    rfl
  rw [e2]
/-- A slice of them that came in. -/
theorem rls_of {H : Type} {enc : TypeId × Value → H} {W : World} {base : Nat} {v : Value} {d : DataW H} {p : List MemPlace}
    (hv : Value.okWide Tryz.prog W .any base 78 v) (h : DataW.Trod enc Tryz.prog W 0 (fun _ => true) true 78 v d p) : ∃ L, GS rlE W v L :=
  gs_of (E := rlE) 78 117 Tryz.underlying78 (by kernel_rfl) ⟨0, 0, 0, 0, 0, 0⟩ (fun _ _ _ h => rl_open h) hv h
end Go.Proofs.YtpmcjelihdlfeaaGreatDoor
/- A net that came in: its topology, its tables. -/
namespace Go.Proofs.YtpmcjelihdlfeaaGreatDoor
open Go.ChangeShapes Go.WideShapes Go.ChangeAt Go.RowKit Go.Joins
set_option linter.unusedSimpArgs false
set_option linter.unusedVariables false
set_option maxRecDepth 100000

theorem gs_SR {w : World} {v : Value} {L : List Ru} (h : GS rlE w v L) : SR w v L := by
  rcases h with h | ⟨g, o, cap, h1, h2, h3, h4⟩
  · exact .inl h
  · refine .inr ⟨g, o, cap, h1, h2, h3, fun i hi => ?_⟩
    have hv := h4 i hi
    generalize L[i] = r at hv
    obtain ⟨p, m, b, q, s, x⟩ := r
    obtain ⟨q0, q1, q2, q3, q4, q5⟩ := rl_cells hv
    exact ⟨q0, q1, q2, q3, q4, q5⟩
set_option maxRecDepth 100000 in
theorem table_open {H : Type} {enc : TypeId × Value → H} {W : World} {fuel : Nat} {cs : List Value} {x : DataW H × List MemPlace}
    (h : DataW.trod enc Tryz.prog W 0 (fun _ => true) true fuel 78 cs = some x) : ∃ ao n cap L, cs = [.slice ao n cap] ∧ SR W (.slice ao n cap) L := by
  obtain ⟨ao, n, cap, L, e, hL⟩ := gs_open (E := rlE) 78 117 Tryz.underlying78 (by kernel_rfl) zeR (fun _ _ _ h => rl_open h) h
  exact ⟨ao, n, cap, L, e, gs_SR hL⟩
set_option maxRecDepth 100000 in
theorem tables_open {H : Type} {enc : TypeId × Value → H} {W : World} {fuel : Nat} {cs : List Value} {x : DataW H × List MemPlace}
    (hf2 : DataW.trod enc Tryz.prog W 0 (fun _ => true) true fuel 26 cs = some x) : ∃ ao n cap Ts, cs = [.slice ao n cap] ∧ TS W (.slice ao n cap) Ts := by
  obtain ⟨d, p⟩ := x
  have hC : Tryz.prog.cellsOf 78 = 1 := by kernel_rfl
  rcases Go.Deep.open_slice Tryz.underlying26 hf2 with ⟨hc, hx⟩ | ⟨a, len0, cap, m, k, D, Pl, hc, _, hl, hm, hmm, hx, hall⟩
  · exact ⟨_, _, _, [], hc, .inl ⟨none, 0, rfl, rfl⟩⟩
  · simp only [if_true] at hmm
    subst hmm
    rcases Nat.eq_zero_or_pos len0 with h0 | h0
    · subst h0
      exact ⟨_, _, _, [], hc, .inl ⟨_, _, rfl, rfl⟩⟩
    · have each : ∀ i, i < m → ∃ L : List Ru, ∃ ao n cap, W.cell? (a.add i) = some (.slice ao n cap) ∧ SR W (.slice ao n cap) L := by
        intro i hi
        obtain ⟨cs, h1, h2⟩ := hall i hi
        rw [hC] at h1
        obtain ⟨_, hlen, hcell⟩ := World.cells?_some h1
        obtain ⟨ao, n, cap, L, rfl, hL⟩ := table_open h2
        refine ⟨L, ao, n, cap, ?_, hL⟩
        have := hcell 0 (by simp)
        rw [Go.Deep.add_add] at this
        simpa using this
      obtain ⟨R, hR⟩ := Go.Deep.choose_lt each
      obtain ⟨sb, so, spot⟩ := a
      have hspot : spot = none := by
        obtain ⟨ao, n, cap, h1, _⟩ := hR 0 (by omega)
        simpa [Addr.add] using World.cell?_spot h1
      subst hspot
      have hadd : ∀ j, (⟨sb, so, none⟩ : Addr).add j = ⟨sb, so + j, none⟩ := by
        intro j
        simp only [Addr.add]
        first
          | rfl
          | (split
             · next h0 => rw [h0]; rfl
             · rfl)
      refine ⟨_, _, _, (List.range len0).map R, hc, .inr ⟨sb, so, _, by simp, by simpa using hl, hm, fun i hi => ?_⟩⟩
      have hi2 : i < len0 := by simpa using hi
      have e : ((List.range len0).map R)[i] = R i := by simp
      rw [e]
      obtain ⟨ao, n, cap, h1, h2⟩ := hR i (by omega)
      rw [hadd] at h1
      exact ⟨ao, n, cap, h1, h2⟩
set_option maxRecDepth 100000 in
/-- One that came in. -/
theorem net_open {H : Type} {enc : TypeId × Value → H} {W : World} {n : Nat} {cs : List Value} {x : DataW H × List MemPlace}
    (h : DataW.trod enc Tryz.prog W 0 (fun _ => true) true n 28 cs = some x) : ∃ S ao n cap ao2 n2 cap2 ao3 n3 cap3 Ls Hs Ts, cs = [.int .i64 S, .slice ao n cap, .slice ao2 n2 cap2, .slice ao3 n3 cap3] ∧ GS lnkE W (.slice ao n cap) Ls ∧ GS hstE W (.slice ao2 n2 cap2) Hs ∧ TS W (.slice ao3 n3 cap3) Ts := by
  obtain ⟨xs, k, _, _, hl, hlen, hf⟩ := DataW.trod_struct Tryz.underlying28 h
  have hC : Tryz.prog.cellsOf 28 = 4 := by kernel_rfl
  have hT0 : Tryz.prog.cellsOf 25 = 3 := by kernel_rfl
  have hT1 : Tryz.prog.cellsOf 26 = 1 := by kernel_rfl
  rw [hC] at hl
  match cs, hl with
  | [c0, c1, c2, c3], _ =>
    match xs, hlen with
    | [z0, z1], _ =>
      have g0 := hf 0 _ rfl
      have g1 := hf 1 _ rfl
      simp [hT0, hT1] at g0 g1
      obtain ⟨S, ao, n, cap, ao2, n2, cap2, Ls, Hs, e0, hL, hH⟩ := topo_open g0
      obtain ⟨ao3, n3, cap3, Ts, e1, hT⟩ := tables_open g1
      simp at e0 e1
      exact ⟨S, ao, n, cap, ao2, n2, cap2, ao3, n3, cap3, Ls, Hs, Ts, by simp [e0, e1], hL, hH, hT⟩
theorem net_of {H : Type} {enc : TypeId × Value → H} {W : World} {base : Nat} {v : Value} {d : DataW H} {p : List MemPlace}
    (hv : Value.okWide Tryz.prog W .any base 28 v) (h : DataW.Trod enc Tryz.prog W 0 (fun _ => true) true 28 v d p) : ∃ S ao n cap ao2 n2 cap2 ao3 n3 cap3 Ls Hs Ts, v = .agg #[.int .i64 S, .slice ao n cap, .slice ao2 n2 cap2, .slice ao3 n3 cap3] ∧ GS lnkE W (.slice ao n cap) Ls ∧ GS hstE W (.slice ao2 n2 cap2) Hs ∧ TS W (.slice ao3 n3 cap3) Ts := by
  obtain ⟨cs, rfl, hsz⟩ := okWide_struct Tryz.underlying28 hv
  obtain ⟨n, hn⟩ := h
  obtain ⟨S, ao, n, cap, ao2, n2, cap2, ao3, n3, cap3, Ls, Hs, Ts, e, h1, h2, h3⟩ := net_open hn
  refine ⟨S, ao, n, cap, ao2, n2, cap2, ao3, n3, cap3, Ls, Hs, Ts, ?_, h1, h2, h3⟩
  simp only [Value.cells] at e
  rw [← Array.toArray_toList (xs := cs), e]
end Go.Proofs.YtpmcjelihdlfeaaGreatDoor
/- A fate that came in: how it ended, the host, the hops. -/
namespace Go.Proofs.YtpmcjelihdlfeaaGreatDoor
open Go.ChangeShapes Go.WideShapes Go.ChangeAt Go.RowKit Go.Joins
set_option linter.unusedSimpArgs false
set_option linter.unusedVariables false
set_option maxRecDepth 100000

theorem fate_open {H : Type} {enc : TypeId × Value → H} {W : World} {n : Nat} {cs : List Value} {x : DataW H × List MemPlace}
    (h : DataW.trod enc Tryz.prog W 0 (fun _ => true) true n 34 cs = some x) : ∃ a b ao n cap L, cs = [.int .i64 a, .string b, .slice ao n cap] ∧ GS hopE W (.slice ao n cap) L := by
  obtain ⟨xs, k, _, _, hl, hlen, hf⟩ := DataW.trod_struct Tryz.underlying34 h
  have hC : Tryz.prog.cellsOf 34 = 3 := by kernel_rfl
  have hT0 : Tryz.prog.cellsOf 3 = 1 := by kernel_rfl
  have hT1 : Tryz.prog.cellsOf 9 = 1 := by kernel_rfl
  have hT2 : Tryz.prog.cellsOf 32 = 1 := by kernel_rfl
  rw [hC] at hl
  match cs, hl with
  | [c0, c1, c2], _ =>
    match xs, hlen with
    | [z0, z1, z2], _ =>
      have g0 := hf 0 _ rfl
      have g1 := hf 1 _ rfl
      have g2 := hf 2 _ rfl
      simp [hT0, hT1, hT2] at g0 g1 g2
      obtain ⟨v0, e0, _, _⟩ := DataW.trod_int Tryz.underlying3 g0
      obtain ⟨v1, e1, _, _⟩ := DataW.trod_string Tryz.underlying9 g1
      obtain ⟨ao, n, cap, L, e2, hL⟩ := gs_open (E := hopE) 32 92 Tryz.underlying32 (by kernel_rfl) ((0, 0), 0) (fun _ _ _ h => hop_open h) g2
      simp at e0 e1 e2
      exact ⟨v0, v1, ao, n, cap, L, by simp [e0, e1, e2], hL⟩
theorem fate_of {H : Type} {enc : TypeId × Value → H} {W : World} {base : Nat} {v : Value} {d : DataW H} {p : List MemPlace}
    (hv : Value.okWide Tryz.prog W .any base 34 v) (h : DataW.Trod enc Tryz.prog W 0 (fun _ => true) true 34 v d p) : ∃ a b ao n cap L, v = .agg #[.int .i64 a, .string b, .slice ao n cap] ∧ GS hopE W (.slice ao n cap) L := by
  obtain ⟨cs, rfl, hsz⟩ := okWide_struct Tryz.underlying34 hv
  obtain ⟨n, hn⟩ := h
  obtain ⟨a, b, ao, n, cap, L, e, h1⟩ := fate_open hn
  refine ⟨a, b, ao, n, cap, L, ?_, h1⟩
  simp only [Value.cells] at e
  rw [← Array.toArray_toList (xs := cs), e]
end Go.Proofs.YtpmcjelihdlfeaaGreatDoor
/- The tables of Go's library that a row lists, as they lie in memory: for a witness. -/
namespace Go.Proofs.YtpmcjelihdlfeaaGreatDoor

def cellsOfNums (k : IntKind) (l : List Nat) : Array Value := (l.map fun (n : Nat) => Value.int k (n : Int)).toArray
def db32 : List Nat := [0, 1, 28, 2, 29, 14, 24, 3, 30, 22, 20, 15, 25, 17, 4, 8, 31, 27, 13, 23, 21, 19, 16, 7, 26, 12, 18, 6, 11, 5, 10, 9]
def db64 : List Nat := [0, 1, 56, 2, 57, 49, 28, 3, 61, 58, 42, 50, 38, 29, 17, 4, 62, 47, 59, 36, 45, 43, 51, 22, 53, 39, 33, 30, 24, 18, 12, 5, 63, 55, 48, 27, 60, 41, 37, 16, 46, 35, 44, 21, 52, 32, 23, 11, 54, 26, 40, 15, 34, 20, 31, 10, 25, 14, 19, 9, 13, 8, 7, 6]
def pow10 : List Nat := (List.range 20).map fun (n : Nat) => 10 ^ n
def accepts : List Nat := [128, 191, 160, 191, 128, 159, 144, 191, 128, 143] ++ List.replicate 22 0
/-- A variable's cells are turned. -/
def lay (cs : Array Value) : Obj → Obj
  | .cells _ t frozen => .cells cs t frozen
  | o => o
/-- The tables are laid. -/
def layTables (h : Array Obj) : Array Obj :=
  ((((h.modify 8 (lay (cellsOfNums .u8 db32))).modify 9 (lay (cellsOfNums .u8 db64))).modify 4 (lay (cellsOfNums .u64 pow10))).modify 7 (lay (cellsOfNums .u8 accepts))).modify 6 (lay (cellsOfNums .u8 Go.Pinned.utf8FirstZ))
end Go.Proofs.YtpmcjelihdlfeaaGreatDoor
/- The row of WishTells: it answers true, whatever net, wishes, wish, text, name and fate it is called with, where these are together of bulk at most 2^20; the listed variables are as the program's text lays them. -/
namespace Go.Proofs.YtpmcjelihdlfeaaGreatDoor.wishTells
open Go.ChangeShapes Go.WideShapes Go.ChangeAt Go.RowKit
open Go.ChangeMaps (open_string shut_string)
set_option linter.unusedVariables false
set_option linter.unusedSimpArgs false

theorem own : ownKnob Tryz.prog.godebug = none := by kernel_rfl
theorem laidOut : laidOutB Tryz.prog = true := by kernel_rfl
theorem et : Tryz.prog.globalNamed "errors.errorType" = some 1 := by kernel_rfl
theorem oneRow : ((List.range 263).filter fun t => Tryz.prog.rowNamed t [101, 114, 114, 111, 114]) = [37] := by kernel_rfl
theorem tsize : Tryz.prog.types.size = 263 := by kernel_rfl

/-- What the row lists of errors.errorType. -/
theorem handle_of_laid {W : World} (h : laidMetH Tryz.prog Rows.wishTellsUptoRow.laid W) : HasErr W := by
  have h' : laidMet Tryz.prog (Rows.wishTellsUptoRow.laid.filter fun x => x.2.handleName?.isNone) W ∧ handlesMet Tryz.prog [("errors.errorType", Rows.laid_errors_errorType)] W := h
  obtain ⟨name, u, ty, e1, e2, e3, e4, e5⟩ := h'.2 _ (List.mem_singleton.2 rfl)
  have en : name = [101, 114, 114, 111, 114] := (Option.some.inj e1).symm
  subst en
  have hu : some u = some 177 := e2.symm.trans (by kernel_rfl)
  obtain rfl := Option.some.inj hu
  have hm : ty ∈ (List.range 263).filter fun t => Tryz.prog.rowNamed t [101, 114, 114, 111, 114] := List.mem_filter.2 ⟨List.mem_range.2 (by rw [← tsize]; exact e3), e4⟩
  rw [oneRow] at hm
  obtain rfl := List.mem_singleton.1 hm
  have hh : typeHandle Tryz.prog 37 = .pointer (some ⟨10, 37, none⟩) := by kernel_rfl
  rw [hh] at e5
  unfold HasErr
  simpa using World.var?_cell et e5 0

/-- The text's length, by the bound on what is read. -/
theorem short {H : Type} {d0 d1 d2 d4 d5 : DataW H} {t : ByteArray} (h : Rows.uptoSmall H [d0, d1, d2, .lit (.string t.data.toList), d4, d5] = true) : t.size ≤ 1048576 := by
  have h1 : Rows.uptoBulkAll [d0, d1, d2, .lit (.string t.data.toList), d4, d5] ≤ 1048576 := of_decide_eq_true h
  simp only [Rows.uptoBulkAll, Rows.uptoBulk] at h1
  have h2 : t.data.toList.length = t.size := by simp
  omega

theorem gSyn : Tryz.prog.globalNamed "strconv.ErrSyntax" = some 2 := by kernel_rfl
theorem gRan : Tryz.prog.globalNamed "strconv.ErrRange" = some 3 := by kernel_rfl
theorem gWor : Tryz.prog.globalNamed "railpoint/wish.words" = some 0 := by kernel_rfl
theorem tSyn : (Tryz.prog.globals[2]?).map (·.type) = some 37 := by kernel_rfl
theorem tRan : (Tryz.prog.globals[3]?).map (·.type) = some 37 := by kernel_rfl
theorem tWor : (Tryz.prog.globals[0]?).map (·.type) = some 66 := by kernel_rfl
theorem err_cell {W : World} {n : String} {g : Nat} {cs : Array Value} {fuel : Nat} {nm : String} {d : DataW Unit} {p : List MemPlace} (hg : Tryz.prog.globalNamed n = some g) (hv : W.var? Tryz.prog n = some cs)
    (h : DataW.trod (fun _ => ()) Tryz.prog W 0 (fun _ => true) false fuel 37 cs.toList = some (.iface nm d, p)) : ∃ ev, W.cell? ⟨g, 0, none⟩ = some ev ∧ (ev = .nilIface ∨ ∃ te pe, ev = .iface te pe) := by
  obtain ⟨_, u, v, e, _, _⟩ := iface_of_trod Tryz.underlying37 h
  obtain ⟨l⟩ := cs
  simp only at e
  subst e
  exact ⟨.iface u v, by simpa using World.var?_cell hg hv 0, .inr ⟨u, v, rfl⟩⟩
theorem str_cell {W : World} {fuel : Nat} {c : Value} {l : List UInt8} {b : ByteArray} {x : DataW Unit × List MemPlace} (hb : b.data.toList = l) (hx : x.1 = .lit (.string l))
    (h : DataW.trod (fun _ => ()) Tryz.prog W 0 (fun _ => true) false fuel 9 [c] = some x) : c = .string b := by
  obtain ⟨s, e1, e2, _⟩ := DataW.trod_string Tryz.underlying9 h
  have e3 : c = .string s := by simpa using e1
  rw [e2] at hx
  have e4 : s.data.toList = l := by simpa using hx
  rw [e3, wa_ext (e4.trans hb.symm)]
set_option maxRecDepth 100000 in
theorem words_cells {W : World} {cs : Array Value} {fuel : Nat} {p : List MemPlace} (hv : W.var? Tryz.prog "railpoint/wish.words" = some cs)
    (h : DataW.trod (fun _ => ()) Tryz.prog W 0 (fun _ => true) false fuel 66 cs.toList = some (Rows.laid_railpoint_wish_words, p)) : HasWords W := by
  have hC : Tryz.prog.cellsOf 66 = 5 := by kernel_rfl
  have hS : Tryz.prog.cellsOf 9 = 1 := by kernel_rfl
  obtain ⟨xs, m, _, hx, hl, hn, hi⟩ := DataW.trod_array (n := 5) (e := 9) (by kernel_rfl) h
  obtain ⟨l⟩ := cs
  simp only at hl hi
  rw [hC] at hl
  match l, hl with
  | [c0, c1, c2, c3, c4], _ =>
    match xs, hn with
    | [y0, y1, y2, y3, y4], _ =>
      have hx2 : ([y0.1, y1.1, y2.1, y3.1, y4.1] : List (DataW Unit)) = [.lit (.string []), .lit (.string [114, 101, 97, 99, 104]), .lit (.string [97, 112, 97, 114, 116]), .lit (.string [119, 97, 121]), .lit (.string [108, 111, 111, 112, 115])] := by
        have := congrArg Prod.fst hx
        simp only [Rows.laid_railpoint_wish_words] at this
        have h3 := DataW.agg.inj this
        exact h3.symm
      simp only [List.cons.injEq, and_true] at hx2
      obtain ⟨e0, e1, e2, e3, e4⟩ := hx2
      have g0 := hi 0 (by decide)
      have g1 := hi 1 (by decide)
      have g2 := hi 2 (by decide)
      have g3 := hi 3 (by decide)
      have g4 := hi 4 (by decide)
      simp [hS] at g0 g1 g2 g3 g4
      have k0 := str_cell (b := ⟨#[]⟩) rfl e0 g0
      have k1 := str_cell (b := reaS) rfl e1 g1
      have k2 := str_cell (b := apaS) rfl e2 g2
      have k3 := str_cell (b := wayS) rfl e3 g3
      have k4 := str_cell (b := looS) rfl e4 g4
      subst k0
      subst k1
      subst k2
      subst k3
      subst k4
      exact ⟨by simpa using World.var?_cell gWor hv 0, by simpa using World.var?_cell gWor hv 1, by simpa using World.var?_cell gWor hv 2, by simpa using World.var?_cell gWor hv 3, by simpa using World.var?_cell gWor hv 4⟩
set_option maxRecDepth 100000 in
/-- What the row lists of the other variables. -/
theorem vars_of_laid {W : World} (h : laidMetH Tryz.prog Rows.wishTellsUptoRow.laid W) : HasWords W ∧ HasNum W := by
  have h' : laidMet Tryz.prog [("math/bits.deBruijn32tab", Rows.laid_math_bits_deBruijn32tab), ("math/bits.deBruijn64tab", Rows.laid_math_bits_deBruijn64tab), ("internal/strconv.uint64pow10", Rows.laid_internal_strconv_uint64pow10), ("unicode/utf8.acceptRanges", Rows.laid_unicode_utf8_acceptRanges), ("strconv.ErrRange", Rows.laid_strconv_ErrRange), ("strconv.ErrSyntax", Rows.laid_strconv_ErrSyntax), ("railpoint/wish.words", Rows.laid_railpoint_wish_words), ("unicode/utf8.first", Rows.laid_unicode_utf8_first)] W ∧ handlesMet Tryz.prog [("errors.errorType", Rows.laid_errors_errorType)] W := h
  obtain ⟨ps, hl, _, _⟩ := h'.1
  obtain ⟨_, _, _, _, _, _, _, _, _, _, hl, _⟩ := hl
  obtain ⟨_, _, _, _, _, _, _, _, _, _, hl, _⟩ := hl
  obtain ⟨_, _, _, _, _, _, _, _, _, _, hl, _⟩ := hl
  obtain ⟨_, _, _, _, _, _, _, _, _, _, hl, _⟩ := hl
  obtain ⟨g1, t1, c1, f1, p1, q1, hg1, ht1, hv1, hd1, hl, _⟩ := hl
  obtain ⟨g2, t2, c2, f2, p2, q2, hg2, ht2, hv2, hd2, hl, _⟩ := hl
  obtain ⟨g3, t3, c3, f3, p3, q3, hg3, ht3, hv3, hd3, hl, _⟩ := hl
  obtain rfl := Option.some.inj (gRan.symm.trans hg1)
  obtain rfl := Option.some.inj (gSyn.symm.trans hg2)
  obtain rfl := Option.some.inj (gWor.symm.trans hg3)
  obtain rfl := Option.some.inj (tRan.symm.trans ht1)
  obtain rfl := Option.some.inj (tSyn.symm.trans ht2)
  obtain rfl := Option.some.inj (tWor.symm.trans ht3)
  exact ⟨words_cells hv3 hd3, err_cell gSyn hv2 hd2, err_cell gRan hv1 hd1⟩

set_option maxRecDepth 100000 in
/-- What the walk gives, for every argument and every world that holds what is listed. -/
theorem contract (H : Type) (enc : TypeId × Value → H) (W : World) (base : Nat) (args : Array Value) (ds gs : List (DataW H)) (before : List MemPlace)
    (hval0 : ∀ (j : Nat) t v, Tryz.f3.params[j]? = some t → args[j]? = some v → Value.okWide Tryz.prog W .any base t v)
    (hW : DataW.Whole enc Tryz.prog Tryz.f3.params.toList Rows.wishTellsSpec.vars false W args.toList ds gs before) (hLaid : laidMetH Tryz.prog Rows.wishTellsUptoRow.laid W)
    (hsmall : Rows.uptoSmall H (ds ++ gs) = true) :
    Calls Tryz.prog 3 args W fun e W' => ∃ v, e = .returned v ∧ Rows.wishTellsSpec.post enc Tryz.prog Tryz.f3 false true false false W args v W' := by
  have hval : ∀ (j : Nat) t v, Tryz.f3.params[j]? = some t → args[j]? = some v → Value.okWide Tryz.prog W .any base t v := hval0
  have hW' := hW
  obtain ⟨p, q, hA0, hV0, rfl, hfz, hnd⟩ := hW
  have hA : DataW.TrodAll enc Tryz.prog W 0 (fun _ => true) true Tryz.f3.params.toList args.toList ds p := hA0
  have hV : DataW.TrodVars enc Tryz.prog W (fun _ => true) [] gs q := hV0
  rw [Tryz.params3] at hA hval
  obtain ⟨v0, vs0, d0, ds0, p0, q0, hargs, rfl, rfl, h0, r0⟩ := trodAll_cons hA
  obtain ⟨v1, vs1, d1, ds1, p1, q1, rfl, rfl, rfl, h1, r1⟩ := trodAll_cons r0
  obtain ⟨v2, vs2, d2, ds2, p2, q2, rfl, rfl, rfl, h2, r2⟩ := trodAll_cons r1
  obtain ⟨v3, vs3, d3, ds3, p3, q3, rfl, rfl, rfl, h3, r3⟩ := trodAll_cons r2
  obtain ⟨v4, vs4, d4, ds4, p4, q4, rfl, rfl, rfl, h4, r4⟩ := trodAll_cons r3
  obtain ⟨v5, vs5, d5, ds5, p5, q5, rfl, rfl, rfl, h5, r5⟩ := trodAll_cons r4
  obtain ⟨rfl, rfl, rfl⟩ := trodAll_nil r5
  obtain rfl : args = #[v0, v1, v2, v3, v4, v5] := by cases args; simp_all
  have hg := handle_of_laid hLaid
  obtain ⟨hwd, hnm⟩ := vars_of_laid hLaid
  obtain ⟨rfl, rfl⟩ : gs = [] ∧ q = [] := by
    cases gs with
    | nil => exact ⟨rfl, hV⟩
    | cons g r => exact absurd hV (by intro h; cases h)
  have k0 := h0
  have lt0 : ∀ x ∈ p0, x.block < W.heap.size := by obtain ⟨m, hm⟩ := k0; exact DataW.trod_lt m _ _ _ hm
  have k1 := h1
  have lt1 : ∀ x ∈ p1, x.block < W.heap.size := by obtain ⟨m, hm⟩ := k1; exact DataW.trod_lt m _ _ _ hm
  have k2 := h2
  have lt2 : ∀ x ∈ p2, x.block < W.heap.size := by obtain ⟨m, hm⟩ := k2; exact DataW.trod_lt m _ _ _ hm
  have k4 := h4
  have lt4 : ∀ x ∈ p4, x.block < W.heap.size := by obtain ⟨m, hm⟩ := k4; exact DataW.trod_lt m _ _ _ hm
  have k5 := h5
  have lt5 : ∀ x ∈ p5, x.block < W.heap.size := by obtain ⟨m, hm⟩ := k5; exact DataW.trod_lt m _ _ _ hm
  obtain ⟨S, ao, n, cap, ao2, n2, cap2, ao3, n3, cap3, Ls, Hs, Ts, rfl, hL, hH, hT⟩ := net_of (hval 0 28 v0 rfl rfl) h0
  obtain ⟨l, hl⟩ := wiss_of (hval 1 29 v1 rfl rfl) h1
  obtain ⟨a4, n4, c4, rfl⟩ := okWide_slice Tryz.underlying29 (hval 1 29 v1 rfl rfl)
  obtain ⟨k, f, t, v, rfl⟩ := wis_of (hval 2 31 v2 rfl rfl) h2
  obtain ⟨s, rfl, rfl, rfl, ws⟩ := open_string Tryz.underlying9 (hval 3 9 v3 rfl rfl) h3
  obtain ⟨m, rfl⟩ := okWide_string Tryz.underlying9 (hval 4 9 v4 rfl rfl)
  obtain ⟨a, b, a6, n6, c6, hp, rfl, hf⟩ := fate_of (hval 5 34 v5 rfl rfl) h5
  have hsz : s.size ≤ 1048576 := short (by simpa using hsmall)
  clear hA0 hval0
  refine (walk S ao n cap ao2 n2 cap2 ao3 n3 cap3 Ls Hs Ts a4 n4 c4 l k f t v s m a b a6 n6 c6 hp W hL hH hT hl hf hsz hg hwd hnm).mono fun e W' ⟨he, bel⟩ => ?_
  subst he
  exact ⟨_, rfl, _, _, _, [], _, [], hW', trodAll_mk1 (shut_bool Tryz.underlying4 _), (trodAll_cons_mk (Below.trod laidOut (by kernel_rfl) (of_decide_eq_true (by kernel_rfl)) k0 bel lt0) (trodAll_cons_mk (Below.trod laidOut (by kernel_rfl) (of_decide_eq_true (by kernel_rfl)) k1 bel lt1) (trodAll_cons_mk (Below.trod laidOut (by kernel_rfl) (of_decide_eq_true (by kernel_rfl)) k2 bel lt2) (trodAll_cons_mk (shut_string Tryz.underlying9 ws) (trodAll_cons_mk (Below.trod laidOut (by kernel_rfl) (of_decide_eq_true (by kernel_rfl)) k4 bel lt4) (trodAll_cons_mk (Below.trod laidOut (by kernel_rfl) (of_decide_eq_true (by kernel_rfl)) k5 bel lt5) trodAll_mk0)))))), rfl, bel.frame _, fun h => by cases h⟩

def ranS : ByteArray := ⟨#[118, 97, 108, 117, 101, 32, 111, 117, 116, 32, 111, 102, 32, 114, 97, 110, 103, 101]⟩
def synS : ByteArray := ⟨#[105, 110, 118, 97, 108, 105, 100, 32, 115, 121, 110, 116, 97, 120]⟩
/-- All that the row lists is laid; the two errors' blocks begin at b. -/
def layAll (b : Nat) (h : Array Obj) : Array Obj :=
  ((((layTables h).modify 1 (lay #[.iface 177 (.agg #[.pointer (some ⟨10, 37, none⟩)])])).modify 0 (lay #[.string ⟨#[]⟩, .string reaS, .string apaS, .string wayS, .string looS])).modify 3 (lay #[.iface 218 (.pointer (some ⟨b, 0, none⟩))])).modify 2 (lay #[.iface 218 (.pointer (some ⟨b + 1, 0, none⟩))])
def errBlocks : Array Obj := #[.cells #[.string ranS] 220, .cells #[.string synS] 220]
def laidOn (b : Nat) (w : World) : World := { w with heap := layAll b w.heap }
set_option maxRecDepth 100000 in
theorem laid_met (os : Os) (args : Array Value) : laidMetH Tryz.prog Rows.wishTellsUptoRow.laid ((laidOn (World.holding Tryz.prog default ⟨#[], #[], []⟩).heap.size (World.holding Tryz.prog os ⟨errBlocks, #[], []⟩)).forCall (fun _ _ => 0) ⟨#[], args, []⟩).memory :=
  laidMetH_of_parts (laidMet_of_run' 8 (by kernel_rfl) (by kernel_rfl)) (by kernel_rfl)
theorem reads (os : Os) {H : Type} (enc : TypeId × Value → H) : ∃ x, DataW.whole enc Tryz.prog ((laidOn (World.holding Tryz.prog default ⟨#[], #[], []⟩).heap.size (World.holding Tryz.prog os ⟨errBlocks, #[], []⟩)).forCall (fun _ _ => 0) ⟨#[], #[.agg #[.int .i64 0, .slice none 0 0, .slice none 0 0, .slice none 0 0], .slice none 0 0, .agg #[.int .i64 0, .string ByteArray.empty, .string ByteArray.empty, .int .i64 0], .string ByteArray.empty, .string ByteArray.empty, .agg #[.int .i64 0, .string ByteArray.empty, .slice none 0 0]], []⟩).memory Tryz.f3.params.toList Rows.wishTellsSpec.vars false #[Value.agg #[.int .i64 0, .slice none 0 0, .slice none 0 0, .slice none 0 0], .slice none 0 0, .agg #[.int .i64 0, .string ByteArray.empty, .string ByteArray.empty, .int .i64 0], .string ByteArray.empty, .string ByteArray.empty, .agg #[.int .i64 0, .string ByteArray.empty, .slice none 0 0]].toList 8 = some ([.agg [.agg [.lit (.int .i64 0), .nil, .nil], .nil], .nil, .agg [.lit (.int .i64 0), .lit (.string []), .lit (.string []), .lit (.int .i64 0)], .lit (.string []), .lit (.string []), .agg [.lit (.int .i64 0), .lit (.string []), .nil]], [], x) :=
  ⟨[], by kernel_rfl⟩

set_option maxRecDepth 100000 in
theorem lifted (os : Os) (started : os.Started) (H : Type) (enc : TypeId × Value → H) (F : Stop.Interp) :
    ReturnsInHanded {} Tryz.checked os 3 .any ((Rows.OpenSpec.upto Rows.wishTellsSpec).preRow enc Tryz.prog Tryz.f3 Rows.wishTellsUptoRow.domain false Rows.wishTellsUptoRow.laid) (((Rows.OpenSpec.upto Rows.wishTellsSpec).at F).post enc Tryz.prog Tryz.f3 false true false false) := by
  obtain ⟨x, hx⟩ := reads os enc
  refine returnsInHanded_of_row (C := Tryz.checked) (s := Rows.OpenSpec.upto Rows.wishTellsSpec) own started (by kernel_rfl) Tryz.func3
    (witness_row_atRef (enc := enc) (C := Tryz.checked) false (laidOn (World.holding Tryz.prog default ⟨#[], #[], []⟩).heap.size (World.holding Tryz.prog os ⟨errBlocks, #[], []⟩)) #[.agg #[.int .i64 0, .slice none 0 0, .slice none 0 0, .slice none 0 0], .slice none 0 0, .agg #[.int .i64 0, .string ByteArray.empty, .string ByteArray.empty, .int .i64 0], .string ByteArray.empty, .string ByteArray.empty, .agg #[.int .i64 0, .string ByteArray.empty, .slice none 0 0]] rfl (by kernel_rfl) (by kernel_rfl) (by kernel_rfl)
      (OpenSpec.preRow_of_cond 8 hx (by kernel_rfl) (fun k hk => by cases hk; kernel_rfl) (by kernel_rfl) (laid_met os _))) ?_
  intro W base args ds gs before hval hW _ hcond _ hL _ _
  exact contract H enc W base args ds gs before hval hW hL (hcond _ rfl)

theorem over : Rows.WishTellsUptoSaid :=
  OpenClaim.holds_of_cond 3 Tryz.f3 rfl rfl rfl rfl rfl rfl rfl ⟨rfl, rfl, rfl, rfl, rfl⟩ rfl rfl rfl rfl rfl (by kernel_rfl) Tryz.func3 (by kernel_rfl)
    (of_decide_eq_true (by kernel_rfl)) (by unfold Func.isWrapper; first | (rw [if_pos (by decide +kernel)]; kernel_rfl) | (rw [if_neg (by decide +kernel)]; exact ⟨rfl, rfl⟩))
    (fun os started H enc _ F => by rw [OpenClaim.pre_eq_preRow]; exact lifted os started H enc F)
end Go.Proofs.YtpmcjelihdlfeaaGreatDoor.wishTells
