/- Contracts and facts on the way to ChangeTells, joined into one text: AsErr, AsErr2, SameNo, ChangeTells, TopoOf, NetOf, ChangeTellsRow. -/
import Derived.Test.YtokkmnednhigmaeDoorChangeTellsP1
import Derived.Test.YtokkmnednhigmaeDoorChangeTellsP7
import Derived.Test.YtokkmnednhigmaeDoorChangeTellsP8
import Derived.Test.YtokkmnednhigmaeDoorChangeTellsP9
import Derived.Test.YtokkmnednhigmaeDoorChangeTellsP10
import Derived.Test.YtokkmnednhigmaeDoorChangeTellsP5
import Derived.Test.YtokkmnednhigmaeDoorChangeTellsP4
import Derived.Test.YtokkmnednhigmaeDoorChangeTellsP2
import Derived.Test.YtokkmnednhigmaeDoorRows
import Derived.WalkSpells
import Derived.Below
import Derived.WalkKit
import Derived.LaidEql
import Derived.Stop.Asserts
import Derived.RowKitTokens
import Derived.ProofKit
import Derived.OpenShut
import Derived.ChangeOld
import Derived.Lib.SmallJoins
import Derived.ChangeSame
import Derived.ChangeVars
import Derived.JoinedOf
import Derived.RowKit
import Derived.LaidLaws
import Derived.SizedLaws
import Derived.LaidHandle
import Derived.Stop.Joined
/- What errors.As, plain.Told and railsame.Error answer for no error and for an Errno: contracts for the walks above them. -/
namespace Go.Proofs.YtokkmnednhigmaeDoor
open Go.RowKit Go.Extern.Stop Go.Stop Go.Extern
set_option linter.unusedSimpArgs false

/-- What package errors' variable holds: the handle of the type error. -/
def HasErr (w : World) : Prop := w.cell? ⟨0, 0, none⟩ = some (.iface 135 (.agg #[.pointer (some ⟨1, 34, none⟩)]))
theorem HasErr.later {w w' : World} (h : HasErr w) (hb : Below w.heap.size w w') : HasErr w' := cell_later hb h
theorem HasErr.alloc {w : World} (h : HasErr w) (o : Obj) : HasErr (w.alloc o) := h.later ((Below.refl _ _).alloc (Nat.le_refl _) _)

theorem vOfP (t : Addr) (w : World) : (ReflectliteValue.unpack (.iface 96 (.pointer (some t)))).run Tryd.prog w
    = .ok (.agg #[.pointer (some ⟨1, 96, none⟩), .pointer (some ⟨w.heap.size, 0, none⟩), .int .u64 150]) (w.alloc (.cells #[.pointer (some t)] 96)) := by kernel_rfl
theorem typeP (a : Addr) (w : World) : (ReflectliteValue.methodAny (ReflectliteValue.valueError "reflectlite.Value.Type" 0) (fun t _ _ _ => ReflectliteType.toType t) #[.agg #[.pointer (some ⟨1, 96, none⟩), .pointer (some a), .int .u64 150]]).run Tryd.prog w
    = .ok (.iface 135 (.agg #[.pointer (some ⟨1, 96, none⟩)])) w := by kernel_rfl
theorem methKind (h : Value) (w : World) : (Go.method 280 135 (.agg #[h]) "Kind").run Tryd.prog w = .ok (96, h) w := by kernel_rfl
theorem kindP (w : World) : ((ReflectliteType.abiMethod fun t => Functor.map (fun a : Nat => Value.int IntKind.u8 (a : Int)) (Rtype.kind t)) #[.pointer (some ⟨1, 96, none⟩)]).run Tryd.prog w = .ok (.int .u8 22) w := by kernel_rfl
theorem kindE (w : World) : ((ReflectliteType.abiMethod fun t => Functor.map (fun a : Nat => Value.int IntKind.u8 (a : Int)) (Rtype.kind t)) #[.pointer (some ⟨1, 63, none⟩)]).run Tryd.prog w = .ok (.int .u8 2) w := by kernel_rfl
theorem partsP (a : Addr) (w : World) : (ReflectliteValue.parts (.agg #[.pointer (some ⟨1, 96, none⟩), .pointer (some a), .int .u64 150])).run Tryd.prog w = .ok (some (96, a, 150)) w := by kernel_rfl
theorem isNilP (a p : Addr) (W : World) (ha : W.cell? a = some (.pointer (some p))) :
    (ReflectliteValue.method (ReflectliteValue.valueError "reflectlite.Value.IsNil" 0) ReflectliteValue.isNil #[.agg #[.pointer (some ⟨1, 96, none⟩), .pointer (some a), .int .u64 150]]).run Tryd.prog W = .ok (.bool false) W := by
  change Sem.run _ (ReflectliteValue.parts (.agg #[.pointer (some ⟨1, 96, none⟩), .pointer (some a), .int .u64 150]) >>= _) _ = _
  rw [Sem.run_bind, partsP]
  simp only [Result.andThen]
  simp [ReflectliteValue.isNil, loadVar, isAgg, underlying, Tryd.underlying96, ha, Result.andThen]
theorem methElem (h : Value) (w : World) : (Go.method 280 135 (.agg #[h]) "Elem").run Tryd.prog w = .ok (106, .agg #[h]) w := by kernel_rfl
theorem methImpl (h : Value) (w : World) : (Go.method 280 135 (.agg #[h]) "Implements").run Tryd.prog w = .ok (107, .agg #[h]) w := by kernel_rfl
theorem methAssign (h : Value) (w : World) : (Go.method 280 135 (.agg #[h]) "AssignableTo").run Tryd.prog w = .ok (104, .agg #[h]) w := by kernel_rfl
theorem elemP (w : World) : (ReflectliteType.method ReflectliteType.elem #[.agg #[.pointer (some ⟨1, 96, none⟩)]]).run Tryd.prog w = .ok (.iface 135 (.agg #[.pointer (some ⟨1, 63, none⟩)])) w := by kernel_rfl
theorem implE (w : World) : (ReflectliteType.relation "Implements" ReflectliteType.implements_ #[.agg #[.pointer (some ⟨1, 63, none⟩)], .iface 135 (.agg #[.pointer (some ⟨1, 34, none⟩)])]).run Tryd.prog w = .ok (.bool true) w := by kernel_rfl
theorem typeOfE (v : Value) (w : World) : (ReflectliteType.typeOf #[.iface 63 v]).run Tryd.prog w = .ok (.iface 135 (.agg #[.pointer (some ⟨1, 63, none⟩)])) w := by kernel_rfl
theorem assignE (w : World) : (ReflectliteType.relation "AssignableTo" ReflectliteType.assignableTo #[.agg #[.pointer (some ⟨1, 63, none⟩)], .iface 135 (.agg #[.pointer (some ⟨1, 63, none⟩)])]).run Tryd.prog w = .ok (.bool true) w := by kernel_rfl
theorem vOfE (n : Int) (w : World) : (ReflectliteValue.unpack (.iface 63 (.int .i64 n))).run Tryd.prog w
    = .ok (.agg #[.pointer (some ⟨1, 63, none⟩), .pointer (some ⟨w.heap.size, 0, none⟩), .int .u64 130]) (w.alloc (.cells #[.int .i64 n] 63)) := by kernel_rfl
theorem elemOfP (w : World) : (Rtype.elem? 96).run Tryd.prog w = .ok (some 63) w := by kernel_rfl
theorem mkE (p : Addr) (w : World) : (ReflectliteValue.mk 63 p ReflectliteValue.flagAddr).run Tryd.prog w = .ok (.agg #[.pointer (some ⟨1, 63, none⟩), .pointer (some p), .int .u64 386]) w := by kernel_rfl
theorem elemVP (a p : Addr) (W : World) (ha : W.cell? a = some (.pointer (some p))) :
    (ReflectliteValue.method (ReflectliteValue.valueError "reflectlite.Value.Elem" 0) ReflectliteValue.elem #[.agg #[.pointer (some ⟨1, 96, none⟩), .pointer (some a), .int .u64 150]]).run Tryd.prog W
      = .ok (.agg #[.pointer (some ⟨1, 63, none⟩), .pointer (some p), .int .u64 386]) W := by
  change Sem.run _ (ReflectliteValue.parts (.agg #[.pointer (some ⟨1, 96, none⟩), .pointer (some a), .int .u64 150]) >>= _) _ = _
  rw [Sem.run_bind, partsP]
  simp only [Result.andThen]
  simp [ReflectliteValue.elem, loadVar, isAgg, underlying, Tryd.underlying96, ha, Result.andThen, elemOfP, mkE]
theorem partsEa (a : Addr) (w : World) : (ReflectliteValue.parts (.agg #[.pointer (some ⟨1, 63, none⟩), .pointer (some a), .int .u64 386])).run Tryd.prog w = .ok (some (63, a, 386)) w := by kernel_rfl
theorem partsE (a : Addr) (w : World) : (ReflectliteValue.parts (.agg #[.pointer (some ⟨1, 63, none⟩), .pointer (some a), .int .u64 130])).run Tryd.prog w = .ok (some (63, a, 130)) w := by kernel_rfl
theorem directE (w : World) : (Rtype.directlyAssignable 63 63).run Tryd.prog w = .ok true w := by kernel_rfl
/-- Set: the Errno variable at 'ta' gets what the Value's own variable 'b' holds. -/
theorem setE (ta b : Addr) (n : Int) (old : Value) (W : World) (hb : W.cell? b = some (.int .i64 n)) (ht : W.cell? ta = some old) (hf : W.frozen? ta = false) :
    (ReflectliteValue.set #[.agg #[.pointer (some ⟨1, 63, none⟩), .pointer (some ta), .int .u64 386], .agg #[.pointer (some ⟨1, 63, none⟩), .pointer (some b), .int .u64 130]]).run Tryd.prog W
      = .ok (.tuple #[]) (W.setCell ta (.int .i64 n)) := by
  change Sem.run _ (ReflectliteValue.parts (.agg #[.pointer (some ⟨1, 63, none⟩), .pointer (some ta), .int .u64 386]) >>= _) _ = _
  rw [Sem.run_bind, partsEa]
  simp only [Result.andThen]
  change Sem.run _ (ReflectliteValue.parts (.agg #[.pointer (some ⟨1, 63, none⟩), .pointer (some b), .int .u64 130]) >>= _) _ = _
  rw [Sem.run_bind, partsE]
  simp only [Result.andThen]
  simp [ReflectliteValue.flagAddr, loadVar, isAgg, underlying, Tryd.underlying63, hb, Result.andThen, directE, storeVar, Value.cells, storeCells, Addr.add]
  rw [run_store Tryd.prog W ta _ _ (by rfl)]
  simp [ht, hf]
end Go.Proofs.YtokkmnednhigmaeDoor
/- What errors.As, plain.Told and railsame.Error answer for no error and for an Errno: the walks. -/
namespace Go.Proofs.YtokkmnednhigmaeDoor
open Go.RowKit Go.Extern.Stop Go.Stop Go.Extern
set_option linter.unusedSimpArgs false

set_option maxHeartbeats 4000000 in
theorem as_hit (n : Int) (t : Addr) (old : Value) (w : World) (hg : HasErr w) (ht0 : w.cell? t = some old) (hf0 : w.frozen? t = false) :
    Calls Tryd.prog 46 #[.iface 63 (.int .i64 n), .iface 96 (.pointer (some t))] w fun ev w' => ev = .returned (.bool true) ∧ w' = ((((w.alloc (.cells #[.pointer (some t)] 96)).alloc (.cells #[.pointer (some ⟨1, 96, none⟩), .pointer (some ⟨w.heap.size, 0, none⟩), .int .u64 150] 119)).alloc (.cells #[.pointer (some ⟨1, 96, none⟩), .pointer (some ⟨w.heap.size, 0, none⟩), .int .u64 150] 119)).alloc (.cells #[.int .i64 n] 63)).setCell t (.int .i64 n) := by
  unfold HasErr at hg
  have h6 := @run_callFunc_extern Tryd.prog 66 _ (fun args => ReflectliteValue.unpack (args.getD 0 (.tuple #[]))) Tryd.func66 (by kernel_rfl) (by kernel_rfl) (by kernel_rfl) (by kernel_rfl)
  have h7 := @run_callFunc_extern Tryd.prog 67 _ (ReflectliteValue.methodAny (ReflectliteValue.valueError "reflectlite.Value.Type" 0) (fun t _ _ _ => ReflectliteType.toType t)) Tryd.func67 (by kernel_rfl) (by kernel_rfl) (by kernel_rfl) (by kernel_rfl)
  have h8 := @run_callFunc_extern Tryd.prog 68 _ (ReflectliteValue.method (ReflectliteValue.valueError "reflectlite.Value.IsNil" 0) ReflectliteValue.isNil) Tryd.func68 (by kernel_rfl) (by kernel_rfl) (by kernel_rfl) (by kernel_rfl)
  have h27 := @run_callFunc_extern Tryd.prog 96 _ (ReflectliteType.abiMethod fun t => do pure (.int .u8 (← Rtype.kind t))) Tryd.func96 (by kernel_rfl) (by kernel_rfl) (by kernel_rfl) (by kernel_rfl)
  have h37 := @run_callFunc_extern Tryd.prog 106 _ (ReflectliteType.method ReflectliteType.elem) Tryd.func106 (by kernel_rfl) (by kernel_rfl) (by kernel_rfl) (by kernel_rfl)
  have h38 := @run_callFunc_extern Tryd.prog 107 _ (ReflectliteType.relation "Implements" ReflectliteType.implements_) Tryd.func107 (by kernel_rfl) (by kernel_rfl) (by kernel_rfl) (by kernel_rfl)
  have h10 := @run_callFunc_extern Tryd.prog 76 _ ReflectliteType.typeOf Tryd.func76 (by kernel_rfl) (by kernel_rfl) (by kernel_rfl) (by kernel_rfl)
  have h35 := @run_callFunc_extern Tryd.prog 104 _ (ReflectliteType.relation "AssignableTo" ReflectliteType.assignableTo) Tryd.func104 (by kernel_rfl) (by kernel_rfl) (by kernel_rfl) (by kernel_rfl)
  have h11 := @run_callFunc_extern Tryd.prog 77 _ (ReflectliteValue.method (ReflectliteValue.valueError "reflectlite.Value.Elem" 0) ReflectliteValue.elem) Tryd.func77 (by kernel_rfl) (by kernel_rfl) (by kernel_rfl) (by kernel_rfl)
  have h12 := @run_callFunc_extern Tryd.prog 78 _ ReflectliteValue.set Tryd.func78 (by kernel_rfl) (by kernel_rfl) (by kernel_rfl) (by kernel_rfl)
  have tO := typeOfE
  have mA := methAssign
  have a25 := assignE
  have v25 := vOfE
  have f6 := vOfP
  have f7 := typeP
  have mK := methKind
  have mE := methElem
  have mI := methImpl
  have k27 := kindP
  have k25 := kindE
  have e27 := elemP
  have i25 := implE
  have hlt : 0 < w.heap.size := World.block_lt_of_cell? _ _ hg
  have htl : t.block < w.heap.size := World.block_lt_of_cell? _ _ ht0
  have n8 := isNilP ⟨w.heap.size, 0, none⟩ t ((w.alloc (.cells #[.pointer (some t)] 96)).alloc (.cells #[.pointer (some ⟨1, 96, none⟩), .pointer (some ⟨w.heap.size, 0, none⟩), .int .u64 150] 119)) (by simp)
  have hg2 : ((w.alloc (.cells #[.pointer (some t)] 96)).alloc (.cells #[.pointer (some ⟨1, 96, none⟩), .pointer (some ⟨w.heap.size, 0, none⟩), .int .u64 150] 119)).cell? ⟨0, 0, none⟩ = some (.iface 135 (.agg #[.pointer (some ⟨1, 34, none⟩)])) := by
    rw [World.cell?_alloc_lt _ _ ⟨0, 0, none⟩ (by simp <;> omega), World.cell?_alloc_lt _ _ ⟨0, 0, none⟩ hlt]; exact hg
  have el := elemVP ⟨w.heap.size, 0, none⟩ t (((w.alloc (.cells #[.pointer (some t)] 96)).alloc (.cells #[.pointer (some ⟨1, 96, none⟩), .pointer (some ⟨w.heap.size, 0, none⟩), .int .u64 150] 119)).alloc (.cells #[.pointer (some ⟨1, 96, none⟩), .pointer (some ⟨w.heap.size, 0, none⟩), .int .u64 150] 119)) (by rw [World.cell?_alloc_lt _ _ ⟨w.heap.size, 0, none⟩ (by simp; omega)]; simp)
  have st := setE t ⟨w.heap.size + 1 + 1 + 1, 0, none⟩ n old ((((w.alloc (.cells #[.pointer (some t)] 96)).alloc (.cells #[.pointer (some ⟨1, 96, none⟩), .pointer (some ⟨w.heap.size, 0, none⟩), .int .u64 150] 119)).alloc (.cells #[.pointer (some ⟨1, 96, none⟩), .pointer (some ⟨w.heap.size, 0, none⟩), .int .u64 150] 119)).alloc (.cells #[.int .i64 n] 63))
    (by rw [World.cell?_alloc_at _ _ _ _ (by simp)]; rfl)
    (by rw [World.cell?_alloc_lt _ _ t (by simp; omega), World.cell?_alloc_lt _ _ t (by simp; omega), World.cell?_alloc_lt _ _ t (by simp; omega), World.cell?_alloc_lt _ _ t htl]; exact ht0)
    (by rw [World.frozen?_alloc_old _ _ t (by simp; omega), World.frozen?_alloc_old _ _ t (by simp; omega), World.frozen?_alloc_old _ _ t (by simp; omega), World.frozen?_alloc_old _ _ t (Nat.ne_of_lt htl)]; exact hf0)
  go_enter Tryd.func46, Tryd.ntmps46
  go_wp2
  refine wp_loop_rounds 1 ?_
  rw [rounds_succ]
  go_wp2
  go_ret
  exact ⟨rfl, rfl⟩

set_option maxHeartbeats 1000000 in
theorem told_nil (w : World) :
    Calls Tryd.prog 24 #[.nilIface] w fun e w' => e = .returned (.int .i64 0) ∧ Below w.heap.size w w' := by
  go_enter Tryd.func24, Tryd.ntmps24
  go_wp2
  go_ret
  exact ⟨rfl, Below.refl _ _⟩

set_option maxHeartbeats 1000000 in
theorem told_some (n : Int) (w : World) (hg : HasErr w) :
    Calls Tryd.prog 24 #[.iface 63 (.int .i64 n)] w fun e w' => e = .returned (.int .i64 n) ∧ Below w.heap.size w w' := by
  have HG : Hid (HasErr w) := hg
  clear hg
  go_enter Tryd.func24, Tryd.ntmps24
  go_wp2_with fail
  refine (as_hit n _ (.int .i64 0) _ (HG.out.alloc _) (by simp) (by simp)).mono ?_
  rintro e w' ⟨rfl, rfl⟩
  go_wp2
  go_ret
  refine ⟨rfl, ?_⟩
  exact ((((((Below.refl _ _).alloc (Nat.le_refl _) _).alloc (by simp) _).alloc (by simp; omega) _).alloc (by simp; omega) _).alloc (by simp; omega) _)

set_option maxHeartbeats 1000000 in
theorem same_nil (k : Int) (w : World) :
    Calls Tryd.prog 7 #[.nilIface, .int .i64 k] w fun e w' => e = .returned (.bool (0 == k)) ∧ Below w.heap.size w w' := by
  go_enter Tryd.func7, Tryd.ntmps7
  go_wp2_with fail
  refine (told_nil _).mono ?_
  rintro e w' ⟨rfl, hb⟩
  go_wp2
  go_ret
  exact ⟨rfl, hb⟩

set_option maxHeartbeats 1000000 in
theorem same_some (n k : Int) (w : World) (hg : HasErr w) :
    Calls Tryd.prog 7 #[.iface 63 (.int .i64 n), .int .i64 k] w fun e w' => e = .returned (.bool (n == k)) ∧ Below w.heap.size w w' := by
  have HG : Hid (HasErr w) := hg
  clear hg
  go_enter Tryd.func7, Tryd.ntmps7
  go_wp2_with fail
  refine (told_some n _ HG.out).mono ?_
  rintro e w' ⟨rfl, hb⟩
  go_wp2
  go_ret
  exact ⟨rfl, hb⟩
end Go.Proofs.YtokkmnednhigmaeDoor
/- What railsame.Error answers at the error of a number and this number. -/
namespace Go.Proofs.YtokkmnednhigmaeDoor
open Go.RowKit

theorem same_noV (n : Int) (w : World) (hg : HasErr w) :
    Calls Tryd.prog 7 #[noV n, .int .i64 n] w fun e w' => e = .returned (.bool true) ∧ Below w.heap.size w w' := by
  by_cases h : n = 0
  · subst h
    refine (same_nil _ w).mono ?_
    rintro e w' ⟨rfl, hb⟩
    exact ⟨by simp, hb⟩
  · rw [no_ne h]
    refine (same_some _ _ w hg).mono ?_
    rintro e w' ⟨rfl, hb⟩
    exact ⟨by simp, hb⟩
end Go.Proofs.YtokkmnednhigmaeDoor
/- What raillaw1.ChangeTells answers: true, of any net, ops and net. -/
namespace Go.Proofs.YtokkmnednhigmaeDoor
open Go.RowKit
set_option linter.unusedSimpArgs false
set_option linter.unusedVariables false

set_option maxHeartbeats 1000000 in
theorem chOps_any (S : Int) (ao : Option Addr) (n cap : Nat) (ao2 : Option Addr) (n2 cap2 : Nat) (ao3 : Option Addr) (n3 cap3 : Nat) (a4 : Option Addr) (n4 c4 : Nat) (Ls : List ((Int × Int) × (Int × Int))) (Hs : List (ByteArray × (Int × Int))) (Ts : List (List Ru)) (l : List Op8) (w : World)
    (hL : GS lnkE w (.slice ao n cap) Ls) (hH : GS hstE w (.slice ao2 n2 cap2) Hs) (hT : TS w (.slice ao3 n3 cap3) Ts) (hl : GS opE w (.slice a4 n4 c4) l) :
    Calls Tryd.prog 8 #[.agg #[.int .i64 S, .slice ao n cap, .slice ao2 n2 cap2, .slice ao3 n3 cap3], .slice a4 n4 c4] w fun e w' => e = .returned (noV (cgN S Ls Hs Ts l)) ∧ Below w.heap.size w w' := by
  have hb0 : Below w.heap.size w (w.alloc (Obj.cells #[.int .i64 S, .slice ao n cap, .slice ao2 n2 cap2, .slice ao3 n3 cap3] 28)) := (Below.refl _ _).alloc (Nat.le_refl _) _
  have HB0 : Hid (Below w.heap.size w (w.alloc (Obj.cells #[.int .i64 S, .slice ao n cap, .slice ao2 n2 cap2, .slice ao3 n3 cap3] 28))) := hb0
  have HL := hL.later hb0
  have HH := hH.later hb0
  have HT := hT.later hb0
  have HO := hl.later hb0
  clear hL hH hT hl hb0
  go_enter Tryd.func8, Tryd.ntmps8
  go_wp2_with fail
  refine (chApply_own S ao n cap ao2 n2 cap2 ao3 n3 cap3 a4 n4 c4 Ls Hs Ts l _ HL HH HT HO).mono ?_
  rintro e w1 ⟨b1, k1, d1, b2, k2, d2, b3, k3, d3, rfl, hNA, hb1⟩
  have HB1 : Hid (Below w.heap.size w w1) := HB0.out.trans (hb1.mono HB0.out.size)
  obtain ⟨E, hE⟩ : ∃ E, E = noV (cgN S Ls Hs Ts l) := ⟨_, rfl⟩
  have HE : Hid (E = noV (cgN S Ls Hs Ts l)) := hE
  rw [← hE]
  clear hE hNA hb1 HL HH HT HO HB0
  go_wp2
  go_ret
  exact ⟨by rw [← HE.out]; rfl, HB1.out.alloc HB1.out.size _⟩
/-- Two nets are the same just if nothing is between them. -/
theorem ns_di (S : Int) (Ls : List ((Int × Int) × (Int × Int))) (Hs : List (ByteArray × (Int × Int))) (Ts : List (List Ru)) (S' : Int) (Ls' : List ((Int × Int) × (Int × Int))) (Hs' : List (ByteArray × (Int × Int))) (Ts' : List (List Ru)) :
    nsB S Ls Hs Ts S' Ls' Hs' Ts' = (decide (diN S Ls Hs Ts S' Ls' Hs' Ts' = 0) && decide ((diL S Ls Hs Ts S' Ls' Hs' Ts').length = 0)) := by
  by_cases h1 : nwN S Ls Hs Ts S' Ls' Hs' Ts' = 0
  · by_cases h2 : tpB S S' Ls Ls' Hs Hs' = true
    · have h3 : diN S Ls Hs Ts S' Ls' Hs' Ts' = 0 := by rw [diN, if_pos h1, if_pos h2]
      have h4 : diL S Ls Hs Ts S' Ls' Hs' Ts' = cdL Ts Ts' Ts.length := by rw [diL, if_pos h3]
      have h5 : Ts.length = Ts'.length := by
        have a := (nt_0 (nw_two h1).1).2.1
        have b := (nt_0 (nw_two h1).2).2.1
        have c := (tpB_iff.1 h2).1
        omega
      rw [nsB, h1, h2, h3, h4, etB, ← h5, cs_cd (fun j hj => nw_tw h1 j hj (by omega))]
      simp
    · have h3 : diN S Ls Hs Ts S' Ls' Hs' Ts' = 3 := by rw [diN, if_pos h1, if_neg h2]
      rw [nsB, h3]
      simp [h2]
  · have h3 : diN S Ls Hs Ts S' Ls' Hs' Ts' = nwN S Ls Hs Ts S' Ls' Hs' Ts' := by rw [diN, if_neg h1]
    rw [nsB, h3]
    simp [h1]
theorem tw_all {S : Int} {Ls : List ((Int × Int) × (Int × Int))} {Hs : List (ByteArray × (Int × Int))} {Ts : List (List Ru)} {S' : Int} {Ls' : List ((Int × Int) × (Int × Int))} {Hs' : List (ByteArray × (Int × Int))} {Ts' : List (List Ru)} (h : nwN S Ls Hs Ts S' Ls' Hs' Ts' = 0) (hl : Ts.length = Ts'.length) (j : Nat) : twN (Ts.getD j []) (Ts'.getD j []) = 0 := by
  by_cases hj : j < Ts.length
  · exact nw_tw h j hj (by omega)
  · have e1 : Ts.getD j [] = [] := by simp [List.getD, List.getElem?_eq_none (show Ts.length ≤ j by omega)]
    have e2 : Ts'.getD j [] = [] := by simp [List.getD, List.getElem?_eq_none (show Ts'.length ≤ j by omega)]
    rw [e1, e2]
    rfl
/-- One op from behind and its turned one: a class of worlds. -/
def TC (w : World) (g o : Nat) (x0 : Int) (xa : Bool) (p m b q s v : Int) (g' : Nat) (w' : World) : Prop :=
  Below w.heap.size w w' ∧ (w'.cell? ⟨g, o, none⟩ = some (.int .i64 x0) ∧ w'.cell? ⟨g, o + 1, none⟩ = some (.bool (!xa)) ∧ w'.cell? ⟨g, o + 2, none⟩ = some (.int .i64 p) ∧ w'.cell? ⟨g, o + 3, none⟩ = some (.int .i64 m) ∧ w'.cell? ⟨g, o + 4, none⟩ = some (.int .i64 b) ∧ w'.cell? ⟨g, o + 5, none⟩ = some (.int .i64 q) ∧ w'.cell? ⟨g, o + 6, none⟩ = some (.int .i64 s) ∧ w'.cell? ⟨g, o + 7, none⟩ = some (.int .i64 v)) ∧ w'.cell? ⟨g', 0, none⟩ = some (.int .i64 x0) ∧ w'.cell? ⟨g', 1, none⟩ = some (.bool xa) ∧ w'.cell? ⟨g', 2, none⟩ = some (.int .i64 p) ∧ w'.cell? ⟨g', 3, none⟩ = some (.int .i64 m) ∧ w'.cell? ⟨g', 4, none⟩ = some (.int .i64 b) ∧ w'.cell? ⟨g', 5, none⟩ = some (.int .i64 q) ∧ w'.cell? ⟨g', 6, none⟩ = some (.int .i64 s) ∧ w'.cell? ⟨g', 7, none⟩ = some (.int .i64 v)
theorem TC.later {w W W' : World} {g o : Nat} {x0 : Int} {xa : Bool} {p m b q s v : Int} {g' : Nat} (hb : Below W.heap.size W W') (h : TC w g o x0 xa p m b q s v g' W) : TC w g o x0 xa p m b q s v g' W' := by
  obtain ⟨h0, ⟨a0, a1, a2, a3, a4, a5, a6, a7⟩, b0, b1, b2, b3, b4, b5, b6, b7⟩ := h
  exact ⟨h0.trans (hb.mono h0.size), ⟨cell_later hb a0, cell_later hb a1, cell_later hb a2, cell_later hb a3, cell_later hb a4, cell_later hb a5, cell_later hb a6, cell_later hb a7⟩, cell_later hb b0, cell_later hb b1, cell_later hb b2, cell_later hb b3, cell_later hb b4, cell_later hb b5, cell_later hb b6, cell_later hb b7⟩
theorem tu_at {l : List Op8} {k j : Nat} (hk : k < (tuL l).length) (hj : j < l.length) (h : j + 1 + k = l.length) : (tuL l)[k] = tu1 l[j] := by
  have e : l.length - 1 - k = j := by omega
  simp [tuL, List.getElem_reverse, e]
end Go.Proofs.YtokkmnednhigmaeDoor
namespace Go.Proofs.YtokkmnednhigmaeDoor.changeTells
open Go.RowKit
set_option linter.unusedSimpArgs false
set_option linter.unusedVariables false

set_option maxHeartbeats 16000000 in
set_option maxRecDepth 100000 in
theorem walk (S : Int) (ao : Option Addr) (n cap : Nat) (ao2 : Option Addr) (n2 cap2 : Nat) (ao3 : Option Addr) (n3 cap3 : Nat) (a4 : Option Addr) (n4 c4 : Nat) (S' : Int) (bo : Option Addr) (m dap : Nat) (bo2 : Option Addr) (m2 dap2 : Nat) (bo3 : Option Addr) (m3 dap3 : Nat) (Ls : List ((Int × Int) × (Int × Int))) (Hs : List (ByteArray × (Int × Int))) (Ts : List (List Ru)) (l : List Op8) (Ls' : List ((Int × Int) × (Int × Int))) (Hs' : List (ByteArray × (Int × Int))) (Ts' : List (List Ru)) (w : World)
    (hL : GS lnkE w (.slice ao n cap) Ls) (hH : GS hstE w (.slice ao2 n2 cap2) Hs) (hT : TS w (.slice ao3 n3 cap3) Ts) (hl : GS opE w (.slice a4 n4 c4) l) (hL' : GS lnkE w (.slice bo m dap) Ls') (hH' : GS hstE w (.slice bo2 m2 dap2) Hs') (hT' : TS w (.slice bo3 m3 dap3) Ts') (hg : HasErr w) (hsz : n4 * 64 ≤ 140737488355328) :
    Calls Tryd.prog 3 #[.agg #[.int .i64 S, .slice ao n cap, .slice ao2 n2 cap2, .slice ao3 n3 cap3], .slice a4 n4 c4, .agg #[.int .i64 S', .slice bo m dap, .slice bo2 m2 dap2, .slice bo3 m3 dap3]] w fun e w' => e = .returned (.bool true) ∧ Below w.heap.size w w' := by
  obtain ⟨w1, hw1⟩ : ∃ W, W = (w.alloc (Obj.cells #[.int .i64 S, .slice ao n cap, .slice ao2 n2 cap2, .slice ao3 n3 cap3] 28)).alloc (Obj.cells #[.int .i64 S', .slice bo m dap, .slice bo2 m2 dap2, .slice bo3 m3 dap3] 28) := ⟨_, rfl⟩
  have hb1 : Below w.heap.size w w1 := by rw [hw1]; exact ((Below.refl _ _).alloc (Nat.le_refl _) _).alloc (by simp) _
  obtain ⟨hx1, hx2⟩ : BN w1 w.heap.size S (.slice ao n cap) (.slice ao2 n2 cap2) (.slice ao3 n3 cap3) Ls Hs Ts ∧ BN w1 (w.heap.size + 1) S' (.slice bo m dap) (.slice bo2 m2 dap2) (.slice bo3 m3 dap3) Ls' Hs' Ts' := by
    have h := nn_new w S (.slice ao n cap) (.slice ao2 n2 cap2) (.slice ao3 n3 cap3) S' (.slice bo m dap) (.slice bo2 m2 dap2) (.slice bo3 m3 dap3) 28
    rw [← hw1] at h
    exact ⟨⟨h.1, hL.later hb1, hH.later hb1, hT.later hb1⟩, ⟨h.2, hL'.later hb1, hH'.later hb1, hT'.later hb1⟩⟩
  have HBN : Hid (∀ W, Below w1.heap.size w1 W → BN W w.heap.size S (.slice ao n cap) (.slice ao2 n2 cap2) (.slice ao3 n3 cap3) Ls Hs Ts ∧ BN W (w.heap.size + 1) S' (.slice bo m dap) (.slice bo2 m2 dap2) (.slice bo3 m3 dap3) Ls' Hs' Ts') := fun W h => ⟨hx1.later h, hx2.later h⟩
  have HOP : Hid (∀ W, Below w1.heap.size w1 W → GS opE W (.slice a4 n4 c4) l ∧ HasErr W) := fun W h => ⟨(hl.later hb1).later h, (hg.later hb1).later h⟩
  have HB1 : Hid (Below w.heap.size w w1) := hb1
  have HW1 : Hid (w1 = (w.alloc (Obj.cells #[.int .i64 S, .slice ao n cap, .slice ao2 n2 cap2, .slice ao3 n3 cap3] 28)).alloc (Obj.cells #[.int .i64 S', .slice bo m dap, .slice bo2 m2 dap2, .slice bo3 m3 dap3] 28)) := hw1
  obtain ⟨_, _, _, e, hn, hn2, hn3, ha⟩ := hl.form
  cases e
  have HN : Hid (l.length = n4) := hn
  have HA : Hid (0 < n4 → ∃ g o, a4 = some ⟨g, o, none⟩ ∧ GAt opE w g o l ∧ c4 ≤ maxLen) := ha
  have HSZ : Hid (l.length * 64 ≤ 140737488355328) := by
    show _ ≤ _
    rw [hn]
    exact hsz
  have n63 : n4 ≤ 9223372036854775807 := by unfold maxLen at hn2; omega
  clear hL hH hT hl hL' hH' hT' hg hb1 hx1 hx2 hw1 hn hn2 ha hsz
  go_enter Tryd.func3, Tryd.ntmps3
  go_wp2_with fail
  rw [← HW1.out]
  refine (rnet_any S ao n cap ao2 n2 cap2 ao3 n3 cap3 Ls Hs Ts w1 (HBN.out _ (Below.refl _ _)).1.l (HBN.out _ (Below.refl _ _)).1.h (HBN.out _ (Below.refl _ _)).1.t).mono ?_
  rintro e w2 ⟨rfl, hb2⟩
  obtain ⟨E, hE⟩ : ∃ E, E = ntN S Ls Hs Ts := ⟨_, rfl⟩
  have HE : Hid (E = ntN S Ls Hs Ts) := hE
  rw [← hE]
  have HB2 : Hid (Below w1.heap.size w1 w2) := hb2
  obtain ⟨X, hX⟩ : ∃ X, X = cgN S Ls Hs Ts l := ⟨_, rfl⟩
  have HX : Hid (X = cgN S Ls Hs Ts l) := hX
  obtain ⟨Y, hY⟩ : ∃ X, X = nwN S Ls Hs Ts S' Ls' Hs' Ts' := ⟨_, rfl⟩
  have HY : Hid (Y = nwN S Ls Hs Ts S' Ls' Hs' Ts') := hY
  obtain ⟨Z, hZ⟩ : ∃ X, X = diN S Ls Hs Ts S' Ls' Hs' Ts' := ⟨_, rfl⟩
  have HZ : Hid (Z = diN S Ls Hs Ts S' Ls' Hs' Ts') := hZ
  obtain ⟨D, hD⟩ : ∃ X, X = diL S Ls Hs Ts S' Ls' Hs' Ts' := ⟨_, rfl⟩
  have HD : Hid (D = diL S Ls Hs Ts S' Ls' Hs' Ts') := hD
  clear hE hb2 hX hY hZ hD
  go_upto_if 30 with fail
  go_cut [8] from 10 (fun f w' => f = .int .i64 X ∧ (∃ c1 l1 f1 c2 l2 f2 c3 l3 f3, BN w' w2.heap.size (nvS X S) (.slice c1 l1 f1) (.slice c2 l2 f2) (.slice c3 l3 f3) (nvL X Ls) (nvL X Hs) (nvL X (caT Ts l))) ∧ Below w2.heap.size w2 w')
  case first =>
    have HB3 : Hid (Below w2.heap.size w2 (w2.alloc (Obj.cells #[.int .i64 0, .slice none 0 0, .slice none 0 0, .slice none 0 0] 28))) := (Below.refl _ _).alloc (Nat.le_refl _) _
    by_cases hE0 : E = 0
    · subst hE0
      have HB13 : Hid (Below w1.heap.size w1 (w2.alloc (Obj.cells #[.int .i64 0, .slice none 0 0, .slice none 0 0, .slice none 0 0] 28))) := HB2.out.trans (HB3.out.mono HB2.out.size)
      obtain ⟨e0, e1, e2, e3⟩ := (HBN.out w2 HB2.out).1.c
      have hl0 : w.heap.size < w2.heap.size := World.block_lt_of_cell? _ _ e0
      go_wp2_with fail
      refine (refApply_own S ao n cap ao2 n2 cap2 ao3 n3 cap3 a4 n4 c4 Ls Hs Ts l w2 _ (HBN.out _ HB2.out).1.t HB3.out (HOP.out _ HB13.out).1 HE.out.symm).mono ?_
      rintro e w4 ⟨b3, k3, d3, rfl, ⟨vs, hTR⟩, hb4⟩
      have hzb : ZB w4 w2.heap.size := zb_a hb4
      obtain ⟨⟨y0, y1, y2, y3⟩, yf⟩ := hzb
      have yf0 := yf 0
      have yf1 := yf 1
      have yf2 := yf 2
      have yf3 := yf 3
      have hlw : w2.heap.size < w4.heap.size := World.block_lt_of_cell? _ _ y0
      rw [← HX.out] at hTR ⊢
      have hB24 : Below w2.heap.size w2 w4 := HB3.out.trans (hb4.mono HB3.out.size)
      have HFIN : Hid (∀ v1 v2, BN (put4 w4 w2.heap.size (.int .i64 (nvS X S)) v1 v2 (.slice b3 k3 d3)) w2.heap.size (nvS X S) v1 v2 (.slice b3 k3 d3) (nvL X Ls) (nvL X Hs) (nvL X (caT Ts l)) ∨ ¬ (GS lnkE (put4 w4 w2.heap.size (.int .i64 (nvS X S)) v1 v2 (.slice b3 k3 d3)) v1 (nvL X Ls) ∧ GS hstE (put4 w4 w2.heap.size (.int .i64 (nvS X S)) v1 v2 (.slice b3 k3 d3)) v2 (nvL X Hs))) := by
        intro v1 v2
        by_cases h : GS lnkE (put4 w4 w2.heap.size (.int .i64 (nvS X S)) v1 v2 (.slice b3 k3 d3)) v1 (nvL X Ls) ∧ GS hstE (put4 w4 w2.heap.size (.int .i64 (nvS X S)) v1 v2 (.slice b3 k3 d3)) v2 (nvL X Hs)
        · have ht := (hTR.grown (grown_put4 w4 w2.heap.size (.int .i64 (nvS X S)) v1 v2 (.slice b3 k3 d3)) (Nat.le_refl _) (by simp)).ts
          exact .inl ⟨put4_cells ⟨y0, y1, y2, y3⟩, h.1, h.2, ht⟩
        · exact .inr h
      have HB24 : Hid (Below w2.heap.size w2 w4) := hB24
      clear hTR hb4 hB24 yf e0 e1 e2 e3
      by_cases hX0 : X = 0
      · have HX0 : Hid (X = 0) := hX0
        simp only [nvS, nvV, hX0, if_true]
        clear hX0
        go_wp2_with fail
        go_meet
        case rel =>
          have hB := below_put4 HB24.out w2.heap.size (Nat.le_refl _) (.int .i64 S) (.slice ao n cap) (.slice ao2 n2 cap2) (.slice b3 k3 d3)
          refine ⟨by rw [HX0.out], ⟨ao, n, cap, ao2, n2, cap2, b3, k3, d3, ?_⟩, hB⟩
          have h := HFIN.out (.slice ao n cap) (.slice ao2 n2 cap2)
          rw [HX0.out] at h ⊢
          have hn := (HBN.out _ (HB2.out.trans (hB.mono HB2.out.size))).1
          rcases h with h | h
          · exact h
          · exact absurd ⟨hn.l, hn.h⟩ h
      · have HX0 : Hid (X ≠ 0) := hX0
        simp only [nvS, nvV, hX0, if_false]
        clear hX0
        go_wp2_with fail
        go_meet
        case rel =>
          have hB := below_put4 HB24.out w2.heap.size (Nat.le_refl _) (.int .i64 0) (.slice none 0 0) (.slice none 0 0) (.slice b3 k3 d3)
          refine ⟨rfl, ⟨none, 0, 0, none, 0, 0, b3, k3, d3, ?_⟩, hB⟩
          have h := HFIN.out (.slice none 0 0) (.slice none 0 0)
          have e1 : nvS X S = 0 := if_neg HX0.out
          have e2 : ∀ {α : Type} (L : List α), nvL X L = [] := fun L => if_neg HX0.out
          rw [e1] at h ⊢
          rcases h with h | h
          · exact h
          · exact absurd ⟨by rw [e2]; exact GS.nil _, by rw [e2]; exact GS.nil _⟩ h
    · have HNE : Hid (X = E ∧ X ≠ 0) := by
        have h : X = E := by rw [HX.out, cgN, ← HE.out, if_neg hE0]
        exact ⟨h, by rw [h]; exact hE0⟩
      have e5 : (E == 0) = false := by simpa using hE0
      clear hE0
      go_wp2_with fail
      go_meet
      case rel =>
        have e1 : nvS X S = 0 := if_neg HNE.out.2
        have e2 : ∀ {α : Type} (L : List α), nvL X L = [] := fun L => if_neg HNE.out.2
        refine ⟨by rw [HNE.out.1], ⟨none, 0, 0, none, 0, 0, none, 0, 0, ?_⟩, HB3.out⟩
        rw [e1, e2, e2, e2]
        exact ⟨nebox_new w2 0 (.slice none 0 0) (.slice none 0 0) (.slice none 0 0) 28, GS.nil _, GS.nil _, .inl ⟨_, _, rfl, rfl⟩⟩
  case rest =>
    rename World => w5
    obtain ⟨rfl, ⟨c1, l1, f1, c2, l2, f2, c3, l3, f3, hwa⟩, hbw⟩ := hcut
    have HWA : Hid (∀ W, Below w5.heap.size w5 W → BN W w2.heap.size (nvS X S) (.slice c1 l1 f1) (.slice c2 l2 f2) (.slice c3 l3 f3) (nvL X Ls) (nvL X Hs) (nvL X (caT Ts l))) := fun W h => hwa.later h
    have HB5 : Hid (Below w1.heap.size w1 w5) := HB2.out.trans (hbw.mono HB2.out.size)
    obtain ⟨e0, e1, e2, e3⟩ := (HBN.out w5 HB5.out).1.c
    have hl0 : w.heap.size < w5.heap.size := World.block_lt_of_cell? _ _ e0
    clear hwa hbw
    go_wp2_with fail
    refine (chApply_own S ao n cap ao2 n2 cap2 ao3 n3 cap3 a4 n4 c4 Ls Hs Ts l w5 (HBN.out _ HB5.out).1.l (HBN.out _ HB5.out).1.h (HBN.out _ HB5.out).1.t (HOP.out _ HB5.out).1).mono ?_
    rintro e w6 ⟨b1, k1, d1, b2, k2, d2, b3, k3, d3, rfl, hNA, hb6⟩
    rw [← HX.out] at hNA ⊢
    obtain ⟨w7, hw7⟩ : ∃ W, W = w6.alloc (Obj.cells #[.int .i64 (nvS X S), .slice b1 k1 d1, .slice b2 k2 d2, .slice b3 k3 d3] 28) := ⟨_, rfl⟩
    have HW7 : Hid (w7 = w6.alloc (Obj.cells #[.int .i64 (nvS X S), .slice b1 k1 d1, .slice b2 k2 d2, .slice b3 k3 d3] 28)) := hw7
    have hgo : BN w7 w6.heap.size (nvS X S) (.slice b1 k1 d1) (.slice b2 k2 d2) (.slice b3 k3 d3) (nvL X Ls) (nvL X Hs) (nvL X (caT Ts l)) := by
      rw [hw7]
      exact bn_new 28 hNA.gs.1 hNA.gs.2.1 hNA.gs.2.2
    have hb7 : Below w5.heap.size w5 w7 := by
      rw [hw7]
      exact hb6.alloc hb6.size _
    have HGO : Hid (∀ W, Below w7.heap.size w7 W → BN W w6.heap.size (nvS X S) (.slice b1 k1 d1) (.slice b2 k2 d2) (.slice b3 k3 d3) (nvL X Ls) (nvL X Hs) (nvL X (caT Ts l)) ∧ BN W w2.heap.size (nvS X S) (.slice c1 l1 f1) (.slice c2 l2 f2) (.slice c3 l3 f3) (nvL X Ls) (nvL X Hs) (nvL X (caT Ts l))) := fun W h => ⟨hgo.later h, HWA.out W (hb7.trans (h.mono hb7.size))⟩
    have HB7 : Hid (Below w1.heap.size w1 w7) := HB5.out.trans (hb7.mono HB5.out.size)
    clear hNA hb6 hw7 hgo hb7 HWA e0 e1 e2 e3 hl0
    go_wp2_with fail
    rw [← HW7.out]
    refine (same_noV X w7 (HOP.out _ HB7.out).2).mono ?_
    rintro e w8 ⟨rfl, hb8⟩
    have HB8 : Hid (Below w7.heap.size w7 w8) := hb8
    have HB18 : Hid (Below w1.heap.size w1 w8) := HB7.out.trans (hb8.mono HB7.out.size)
    obtain ⟨e0, e1, e2, e3⟩ := (HBN.out w8 HB18.out).1.c
    have hl0 : w.heap.size < w8.heap.size := World.block_lt_of_cell? _ _ e0
    clear hb8
    go_wp2_with fail
    refine (chOps_any S ao n cap ao2 n2 cap2 ao3 n3 cap3 a4 n4 c4 Ls Hs Ts l w8 (HBN.out _ HB18.out).1.l (HBN.out _ HB18.out).1.h (HBN.out _ HB18.out).1.t (HOP.out _ HB18.out).1).mono ?_
    rintro e w9 ⟨rfl, hb9⟩
    rw [← HX.out]
    have HB9 : Hid (Below w7.heap.size w7 w9) := HB8.out.trans (hb9.mono HB8.out.size)
    have HB19 : Hid (Below w1.heap.size w1 w9) := HB18.out.trans (hb9.mono HB18.out.size)
    clear hb9 e0 e1 e2 e3 hl0
    go_wp2_with fail
    refine (same_noV X w9 (HOP.out _ HB19.out).2).mono ?_
    rintro e wa ⟨rfl, hba⟩
    have HBa : Hid (Below w7.heap.size w7 wa) := HB9.out.trans (hba.mono HB9.out.size)
    have HB1a : Hid (Below w1.heap.size w1 wa) := HB19.out.trans (hba.mono HB19.out.size)
    obtain ⟨g0, g1, g2, g3⟩ := (HGO.out wa HBa.out).1.c
    obtain ⟨h0, h1, h2, h3⟩ := (HGO.out wa HBa.out).2.c
    clear hba HB8 HB18 HB9 HB19
    go_wp2_with fail
    refine (smNet_any (nvS X S) b1 k1 d1 b2 k2 d2 b3 k3 d3 c1 l1 f1 c2 l2 f2 c3 l3 f3 (nvL X Ls) (nvL X Hs) (nvL X (caT Ts l)) wa (HGO.out wa HBa.out).1.l (HGO.out wa HBa.out).1.h (HGO.out wa HBa.out).1.t (HGO.out wa HBa.out).2.l (HGO.out wa HBa.out).2.h (HGO.out wa HBa.out).2.t).mono ?_
    rintro e wb ⟨rfl, hbb⟩
    have HB1b : Hid (Below w1.heap.size w1 wb) := HB1a.out.trans (hbb.mono HB1a.out.size)
    clear hbb HBa HB1a HGO g0 g1 g2 g3 h0 h1 h2 h3 HB7
    go_upto_if 55 with fail
    go_cut [7] from 26 (fun e w' => e = .int .i64 Y ∧ Below wb.heap.size wb w')
    case first =>
      by_cases hE0 : E = 0
      · subst hE0
        obtain ⟨e0, e1, e2, e3⟩ := (HBN.out wb HB1b.out).2.c
        have hl0 : w.heap.size + 1 < wb.heap.size := World.block_lt_of_cell? _ _ e0
        go_wp2_with fail
        refine (rnet_any S' bo m dap bo2 m2 dap2 bo3 m3 dap3 Ls' Hs' Ts' wb (HBN.out _ HB1b.out).2.l (HBN.out _ HB1b.out).2.h (HBN.out _ HB1b.out).2.t).mono ?_
        rintro e wc ⟨rfl, hbc⟩
        have HYE : Hid (ntN S' Ls' Hs' Ts' = Y) := by
          show _ = _
          rw [HY.out, nwN, if_pos HE.out.symm]
        rw [HYE.out]
        have HBc : Hid (Below wb.heap.size wb wc) := hbc
        clear hbc e0 e1 e2 e3
        go_wp2_with fail
        go_meet
        case rel => exact ⟨rfl, HBc.out⟩
      · have HYE : Hid (Y = E) := by
          show _ = _
          rw [HY.out, nwN, ← HE.out, if_neg hE0]
        have e5 : (E == 0) = false := by simpa using hE0
        clear hE0
        go_wp2_with fail
        go_meet
        case rel => exact ⟨by rw [HYE.out], Below.refl _ _⟩
    case rest =>
      rename World => wc
      obtain ⟨rfl, hbc⟩ := hcut
      have HB1c : Hid (Below w1.heap.size w1 wc) := HB1b.out.trans (hbc.mono HB1b.out.size)
      obtain ⟨e0, e1, e2, e3⟩ := (HBN.out wc HB1c.out).1.c
      obtain ⟨i0, i1, i2, i3⟩ := (HBN.out wc HB1c.out).2.c
      have hl0 : w.heap.size < wc.heap.size := World.block_lt_of_cell? _ _ e0
      have hl1 : w.heap.size + 1 < wc.heap.size := World.block_lt_of_cell? _ _ i0
      clear hbc HB1b
      go_wp2_with fail
      refine (refAlike_any S ao n cap ao2 n2 cap2 Ls Hs S' bo m dap bo2 m2 dap2 Ls' Hs' wc (HBN.out _ HB1c.out).1.l (HBN.out _ HB1c.out).1.h (HBN.out _ HB1c.out).2.l (HBN.out _ HB1c.out).2.h).mono ?_
      rintro e wd ⟨rfl, hbd⟩
      obtain ⟨T, hT⟩ : ∃ T, T = tpB S S' Ls Ls' Hs Hs' := ⟨_, rfl⟩
      have HT : Hid (T = tpB S S' Ls Ls' Hs Hs') := hT
      rw [← hT]
      have HB1d : Hid (Below w1.heap.size w1 wd) := HB1c.out.trans (hbd.mono HB1c.out.size)
      obtain ⟨cb, hcb⟩ : ∃ c, c = (decide (Y = 0) && !T) := ⟨_, rfl⟩
      have HCB : Hid (cb = (decide (Y = 0) && !T)) := hcb
      have HZV : Hid (Z = if Y = 0 then (if T = true then 0 else 3) else Y) := by
        show _ = _
        rw [HZ.out, diN, ← HY.out, ← HT.out]
      clear hT hbd hcb e0 e1 e2 e3 i0 i1 i2 i3 hl0 hl1 HB1c
      go_upto_region 15 with fail
      go_cut [69] from 26 (fun c w' => c = .bool cb ∧ w' = wd)
      case first =>
        by_cases hY0 : Y = 0
        · have HF : Hid (cb = !T) := by
            show _ = _
            rw [HCB.out]
            simp [hY0]
          have e5 : (Y == 0) = true := by simpa using hY0
          clear hY0
          go_wp2_with fail
          go_meet
          case rel => exact ⟨by rw [HF.out], rfl⟩
        · have HF : Hid (cb = false) := by
            show _ = _
            rw [HCB.out]
            simp [hY0]
          have e5 : (Y == 0) = false := by simpa using hY0
          clear hY0
          go_wp2_with fail
          go_meet
          case rel => exact ⟨by rw [HF.out], rfl⟩
      case rest =>
        obtain ⟨rfl, hwd⟩ := hcut
        replace hwd := hwd.symm
        subst hwd
        go_upto_if 69 with fail
        go_cut [8] from 26 (fun f w' => f = .int .i64 Z ∧ w' = wd)
        case first =>
          cases cb with
          | true =>
            have HF : Hid (Z = 3) := by
              have h := HCB.out
              simp at h
              show _ = _
              rw [HZV.out, if_pos h.1, h.2]
              rfl
            go_wp2_with fail
            go_meet
            case rel => exact ⟨by rw [HF.out], rfl⟩
          | false =>
            have HF : Hid (Z = Y) := by
              have h := HCB.out
              simp at h
              show _ = _
              rw [HZV.out]
              by_cases hY0 : Y = 0
              · rw [if_pos hY0, h hY0, hY0]
                rfl
              · rw [if_neg hY0]
            go_wp2_with fail
            go_meet
            case rel => exact ⟨by rw [HF.out], rfl⟩
        case rest =>
          obtain ⟨rfl, hwd⟩ := hcut
          replace hwd := hwd.symm
          subst hwd
          obtain ⟨ez, hez⟩ : ∃ c, c = (Z == 0) := ⟨_, rfl⟩
          have HEZ : Hid (ez = (Z == 0)) := hez
          clear hez
          go_upto_if 71 with fail
          go_cut [16] from 26 (fun v w' => (∃ a n c, v = .slice a n c ∧ GS opE w' (.slice a n c) D) ∧ Below wd.heap.size wd w')
          case first =>
            by_cases hZ0 : Z = 0
            · subst hZ0
              have HM : Hid ((nwN S Ls Hs Ts S' Ls' Hs' Ts' = 0 ∧ Ts.length = Ts'.length ∧ Ts.length ≤ 1000) ∧ D = cdL Ts Ts' Ts.length) := by
                have h1 := HZ.out
                have h2 := HD.out
                rw [diL, if_pos h1.symm] at h2
                refine ⟨?_, h2⟩
                unfold diN at h1
                by_cases hz : nwN S Ls Hs Ts S' Ls' Hs' Ts' = 0
                · rw [if_pos hz] at h1
                  by_cases hz2 : tpB S S' Ls Ls' Hs Hs' = true
                  · have a := (nt_0 (nw_two hz).1).2.1
                    have b := (nt_0 (nw_two hz).2).2.1
                    have c := (tpB_iff.1 hz2).1
                    have d := (tp_0 (nt_0 (nw_two hz).1).1).1
                    exact ⟨hz, by omega, by omega⟩
                  · rw [if_neg hz2] at h1; omega
                · rw [if_neg hz] at h1; exact absurd h1.symm hz
              obtain ⟨e0, e1, e2, e3⟩ := (HBN.out wd HB1d.out).1.c
              obtain ⟨i0, i1, i2, i3⟩ := (HBN.out wd HB1d.out).2.c
              have hl0 : w.heap.size < wd.heap.size := World.block_lt_of_cell? _ _ e0
              have hl1 : w.heap.size + 1 < wd.heap.size := World.block_lt_of_cell? _ _ i0
              go_wp2_with fail
              refine (refChanges_any S (.slice ao n cap) (.slice ao2 n2 cap2) ao3 n3 cap3 S' (.slice bo m dap) (.slice bo2 m2 dap2) bo3 m3 dap3 Ts Ts' wd rfl rfl rfl rfl (HBN.out _ HB1d.out).1.t (HBN.out _ HB1d.out).2.t HM.out.1.2.1 HM.out.1.2.2 (tw_all HM.out.1.1 HM.out.1.2.1)).mono ?_
              rintro e we ⟨v, rfl, hNO, hbe⟩
              have HNO : Hid (NO we wd.heap.size v D) := by
                rw [HM.out.2]
                exact hNO
              have HBe : Hid (Below wd.heap.size wd we) := hbe
              clear hNO hbe e0 e1 e2 e3 i0 i1 i2 i3
              go_wp2_with fail
              go_meet
              case rel =>
                obtain ⟨a, c, h⟩ := own_form HNO.out
                subst h
                exact ⟨⟨a, _, c, rfl, HNO.out.gs⟩, HBe.out⟩
            · have HDE : Hid (D = []) := by
                show _ = _
                rw [HD.out, diL, ← HZ.out, if_neg hZ0]
              have e5 : (Z == 0) = false := by simpa using hZ0
              clear hZ0
              go_wp2_with fail
              go_meet
              case rel => exact ⟨⟨_, _, _, rfl, by rw [HDE.out]; exact GS.nil _⟩, Below.refl _ _⟩
          case rest =>
            rename World => we
            obtain ⟨⟨a9, n9, c9, rfl, hG9⟩, hbe⟩ := hcut
            have HG9 : Hid (∀ W, Below we.heap.size we W → GS opE W (.slice a9 n9 c9) D) := fun W h => hG9.later h
            have HD9 : Hid (D.length = n9) := hG9.len
            have HB1e : Hid (Below w1.heap.size w1 we) := HB1d.out.trans (hbe.mono HB1d.out.size)
            obtain ⟨e0, e1, e2, e3⟩ := (HBN.out we HB1e.out).1.c
            obtain ⟨i0, i1, i2, i3⟩ := (HBN.out we HB1e.out).2.c
            have hl0 : w.heap.size < we.heap.size := World.block_lt_of_cell? _ _ e0
            have hl1 : w.heap.size + 1 < we.heap.size := World.block_lt_of_cell? _ _ i0
            clear hG9 hbe HEZ HB1d HZV HCB
            go_wp2_with fail
            refine (chDiff_any S ao n cap ao2 n2 cap2 ao3 n3 cap3 S' bo m dap bo2 m2 dap2 bo3 m3 dap3 Ls Hs Ts Ls' Hs' Ts' we (HBN.out _ HB1e.out).1.l (HBN.out _ HB1e.out).1.h (HBN.out _ HB1e.out).1.t (HBN.out _ HB1e.out).2.l (HBN.out _ HB1e.out).2.h (HBN.out _ HB1e.out).2.t).mono ?_
            rintro e wf ⟨vD, rfl, hNO, hbf⟩
            rw [← HZ.out]
            rw [← HD.out] at hNO
            obtain ⟨a6, n6, c6, rfl⟩ : ∃ b1 m1 d1, vD = .slice b1 m1 d1 := by
              obtain ⟨a, c, h⟩ := own_form hNO
              exact ⟨a, _, c, h⟩
            have HGD : Hid (∀ W, Below wf.heap.size wf W → GS opE W (.slice a6 n6 c6) D ∧ GS opE W (.slice a9 n9 c9) D) := fun W h => ⟨hNO.gs.later h, HG9.out W (hbf.trans (h.mono hbf.size))⟩
            have HB1f : Hid (Below w1.heap.size w1 wf) := HB1e.out.trans (hbf.mono HB1e.out.size)
            clear hNO hbf HG9 HB1e e0 e1 e2 e3 i0 i1 i2 i3 hl0 hl1
            go_wp2_with fail
            refine (same_noV Z wf (HOP.out _ HB1f.out).2).mono ?_
            rintro e wg ⟨rfl, hbg⟩
            have HBg : Hid (Below wf.heap.size wf wg) := hbg
            have HB1g : Hid (Below w1.heap.size w1 wg) := HB1f.out.trans (hbg.mono HB1f.out.size)
            clear hbg
            go_wp2_with fail
            refine (op_same a6 n6 c6 a9 n9 c9 D D wg (HGD.out _ HBg.out).1 (HGD.out _ HBg.out).2).mono ?_
            rintro e wh ⟨rfl, hbh⟩
            rw [(smG_eq opB_iff).2 rfl]
            have HB1h : Hid (Below w1.heap.size w1 wh) := HB1g.out.trans (hbh.mono HB1g.out.size)
            obtain ⟨e0, e1, e2, e3⟩ := (HBN.out wh HB1h.out).1.c
            obtain ⟨i0, i1, i2, i3⟩ := (HBN.out wh HB1h.out).2.c
            have hl0 : w.heap.size < wh.heap.size := World.block_lt_of_cell? _ _ e0
            have hl1 : w.heap.size + 1 < wh.heap.size := World.block_lt_of_cell? _ _ i0
            clear hbh HGD HBg HB1f HB1g
            go_wp2_with fail
            refine (chSame_any S ao n cap ao2 n2 cap2 ao3 n3 cap3 S' bo m dap bo2 m2 dap2 bo3 m3 dap3 Ls Hs Ts Ls' Hs' Ts' wh (HBN.out _ HB1h.out).1.l (HBN.out _ HB1h.out).1.h (HBN.out _ HB1h.out).1.t (HBN.out _ HB1h.out).2.l (HBN.out _ HB1h.out).2.h (HBN.out _ HB1h.out).2.t).mono ?_
            rintro e wi ⟨rfl, hbi⟩
            rw [← HY.out]
            obtain ⟨R, hR⟩ : ∃ R, R = nsB S Ls Hs Ts S' Ls' Hs' Ts' := ⟨_, rfl⟩
            have HR : Hid (R = (decide (Z = 0) && decide (n9 = 0))) := by
              show _ = _
              rw [hR, ns_di, ← HZ.out, ← HD.out, HD9.out]
            rw [← hR]
            have HB1i : Hid (Below w1.heap.size w1 wi) := HB1h.out.trans (hbi.mono HB1h.out.size)
            clear hR hbi HB1h e0 e1 e2 e3 i0 i1 i2 i3 hl0 hl1
            go_wp2_with fail
            refine (same_noV Y wi (HOP.out _ HB1i.out).2).mono ?_
            rintro e wj ⟨rfl, hbj⟩
            have HB1j : Hid (Below w1.heap.size w1 wj) := HB1i.out.trans (hbj.mono HB1i.out.size)
            clear hbj HB1i
            go_upto_region 24 with fail
            go_cut [22] from 26 (fun c w' => c = .bool R ∧ w' = wj)
            case first =>
              by_cases hZ0 : Z = 0
              · have e5 : (Z == 0) = true := by simpa using hZ0
                have HF : Hid (R = ((n9 : Int) == 0)) := by
                  show _ = _
                  rw [HR.out, Bool.eq_iff_iff]
                  simp [hZ0]
                clear hZ0
                go_wp2_with fail
                go_meet
                case rel => exact ⟨by rw [HF.out], rfl⟩
              · have e5 : (Z == 0) = false := by simpa using hZ0
                have HF : Hid (R = false) := by
                  show _ = _
                  rw [HR.out]
                  simp [hZ0]
                clear hZ0
                go_wp2_with fail
                go_meet
                case rel => exact ⟨by rw [HF.out], rfl⟩
            case rest =>
              obtain ⟨rfl, hwj⟩ := hcut
              replace hwj := hwj.symm
              subst hwj
              go_wp2_with fail
              refine (turn_any a4 n4 c4 l wj HSZ.out (HOP.out _ HB1j.out).1).mono ?_
              rintro e wk ⟨vT, rfl, hNT, hbk⟩
              obtain ⟨aT, nT, cT, rfl⟩ : ∃ b1 m1 d1, vT = .slice b1 m1 d1 := by
                obtain ⟨a, c, h⟩ := own_form hNT
                exact ⟨a, _, c, h⟩
              obtain rfl : nT = n4 := by
                have h := hNT.gs.len
                rw [tu_len, HN.out] at h
                exact h.symm
              obtain ⟨_, _, _, e, ht1, ht2, ht3, htA⟩ := hNT.gs.form
              cases e
              have HTA : Hid (0 < nT → ∃ g o, aT = some ⟨g, o, none⟩ ∧ GAt opE wk g o (tuL l) ∧ cT ≤ maxLen) := htA
              have HTL : Hid ((tuL l).length = nT) := ht1
              have HBk : Hid (Below w1.heap.size w1 wk) := HB1j.out.trans (hbk.mono HB1j.out.size)
              have HBw : Hid (Below w.heap.size w wk) := HB1.out.trans (HBk.out.mono HB1.out.size)
              have x1 : IntKind.i64.wrap ((nT : Int) - 1) = (nT : Int) - 1 := by rw [IntKind.wrap_i64]; omega
              have x2 : wrap64 ((nT : Int) - 1) = (nT : Int) - 1 := by unfold wrap64; omega
              clear hNT hbk ht1 ht2 ht3 htA HB1j
              go_wp2
              go_loopw [24] (fun i wr => ∃ k : Nat, k ≤ nT ∧ i = .int .i64 k ∧ Below wk.heap.size wk wr) (fun i _ => nT - (intOf i).toNat)
              case atStart => exact ⟨0, by omega, rfl, Below.refl _ _⟩
              case round =>
                obtain ⟨k, hk, rfl, hB⟩ := hrel
                have HB : Hid (Below wk.heap.size wk wr) := hB
                by_cases hlt : k < nT
                · obtain ⟨g, o, hao, hc, _⟩ := HA.out (by omega)
                  obtain ⟨gt, ot, haT, hcT, _⟩ := HTA.out (by omega)
                  subst hao haT
                  obtain ⟨j, hj⟩ : ∃ j : Nat, (nT : Int) - 1 - k = (j : Int) := ⟨nT - 1 - k, by omega⟩
                  have hjl : j < nT := by omega
                  obtain ⟨x0, xa, p, m', b, q, s', v, hkl, hLk, r0, r1, r2, r3, r4, r5, r6, r7⟩ := op_at ((hc.later HBw.out).later hB) HN.out hjl
                  have hkT : k < (tuL l).length := by rw [HTL.out]; exact hlt
                  have hV := (hcT.later hB) k hkT
                  rw [tu_at hkT hkl (by rw [HN.out]; omega), hLk] at hV
                  replace hV : VAt wr gt (ot + k * 8) (opE.c ⟨x0, !xa, ⟨p, m', b, q, s', v⟩⟩) := hV
                  have HTC : Hid (TC wr gt (ot + k * 8) x0 xa p m' b q s' v wr.heap.size (wr.alloc (Obj.cells #[.int .i64 x0, .bool xa, .int .i64 p, .int .i64 m', .int .i64 b, .int .i64 q, .int .i64 s', .int .i64 v] 53))) := by
                    have hba : Below wr.heap.size wr (wr.alloc (Obj.cells #[.int .i64 x0, .bool xa, .int .i64 p, .int .i64 m', .int .i64 b, .int .i64 q, .int .i64 s', .int .i64 v] 53)) := (Below.refl _ _).alloc (Nat.le_refl _) _
                    have h1 := op_cells (hV.later hba)
                    have h2 := op_cells (op_new wr x0 xa p m' b q s' v 53)
                    simp only [Nat.zero_add] at h2
                    exact ⟨hba, h1, h2⟩
                  have x3 : IntKind.i64.wrap ((nT : Int) - 1 - (k : Int)) = (j : Int) := by rw [IntKind.wrap_i64]; omega
                  have x4 : wrap64 ((nT : Int) - 1 - (k : Int)) = (j : Int) := by unfold wrap64; omega
                  have jb0 : (0 : Int) ≤ (j : Int) := by omega
                  have jb1 : (j : Int) < (nT : Int) := by omega
                  have kb0 : (0 : Int) ≤ (k : Int) := by omega
                  have kb1 : (k : Int) < (nT : Int) := by omega
                  clear hc hcT hB hLk hV hj
                  go_upto_region 32 with fail
                  clear r0 r1 r2 r3 r4 r5 r6 r7
                  go_cut [151] from 110 to 151 (fun c w' => c = .bool false ∧ Below wk.heap.size wk w')
                  case first =>
                    as_aux_lemma =>
                      refine wp_region_quiet (C := TC wr gt (ot + k * 8) x0 xa p m' b q s' v wr.heap.size) (by kernel_rfl) (by kernel_rfl) (TC.later (Below.drew (Below.refl _ _)) HTC.out) ?_
                      simp only [List.toList_toArray]
                      go_big_quiet_want
                      refine quiet_val (v := .slice (some ⟨gt, ot, none⟩) nT cT) (fun w' hC => ?_) ?_
                      · obtain ⟨z, ⟨z0, z1, z2, z3, z4, z5, z6, z7⟩, u0, u1, u2, u3, u4, u5, u6, u7⟩ := hC
                        go_simp
                      simp only [Act.put, List.setIfInBounds_toArray, List.set_cons_zero, List.set_cons_succ]
                      go_big_quiet_on
                      go_big_quiet_want
                      refine quiet_val (v := .int .i64 (k : Int)) (fun w' hC => ?_) ?_
                      · obtain ⟨z, ⟨z0, z1, z2, z3, z4, z5, z6, z7⟩, u0, u1, u2, u3, u4, u5, u6, u7⟩ := hC
                        go_simp
                      simp only [Act.put, List.setIfInBounds_toArray, List.set_cons_zero, List.set_cons_succ]
                      go_big_quiet_on
                      go_big_quiet_want
                      refine quiet_val (v := .pointer (some ⟨gt, ot + k * 8, none⟩)) (fun w' hC => ?_) ?_
                      · obtain ⟨z, ⟨z0, z1, z2, z3, z4, z5, z6, z7⟩, u0, u1, u2, u3, u4, u5, u6, u7⟩ := hC
                        go_simp
                      simp only [Act.put, List.setIfInBounds_toArray, List.set_cons_zero, List.set_cons_succ]
                      go_big_quiet_on
                      go_big_quiet_want
                      refine quiet_val (v := .pointer (some ⟨gt, ot + k * 8, none⟩)) (fun w' hC => ?_) ?_
                      · obtain ⟨z, ⟨z0, z1, z2, z3, z4, z5, z6, z7⟩, u0, u1, u2, u3, u4, u5, u6, u7⟩ := hC
                        go_simp
                      simp only [Act.put, List.setIfInBounds_toArray, List.set_cons_zero, List.set_cons_succ]
                      go_big_quiet_on
                      go_big_quiet_want
                      refine quiet_val (v := .int .i64 x0) (fun w' hC => ?_) ?_
                      · obtain ⟨z, ⟨z0, z1, z2, z3, z4, z5, z6, z7⟩, u0, u1, u2, u3, u4, u5, u6, u7⟩ := hC
                        go_simp
                      simp only [Act.put, List.setIfInBounds_toArray, List.set_cons_zero, List.set_cons_succ]
                      go_big_quiet_on
                      go_big_quiet_want
                      refine quiet_val (v := .pointer (some ⟨wr.heap.size, 0, none⟩)) (fun w' hC => ?_) ?_
                      · obtain ⟨z, ⟨z0, z1, z2, z3, z4, z5, z6, z7⟩, u0, u1, u2, u3, u4, u5, u6, u7⟩ := hC
                        go_simp
                      simp only [Act.put, List.setIfInBounds_toArray, List.set_cons_zero, List.set_cons_succ]
                      go_big_quiet_on
                      go_big_quiet_want
                      refine quiet_val (v := .int .i64 x0) (fun w' hC => ?_) ?_
                      · obtain ⟨z, ⟨z0, z1, z2, z3, z4, z5, z6, z7⟩, u0, u1, u2, u3, u4, u5, u6, u7⟩ := hC
                        go_simp
                      simp only [Act.put, List.setIfInBounds_toArray, List.set_cons_zero, List.set_cons_succ]
                      go_big_quiet_on
                      go_big_quiet_want
                      refine quiet_val (v := .bool false) (fun w' hC => ?_) ?_
                      · obtain ⟨z, ⟨z0, z1, z2, z3, z4, z5, z6, z7⟩, u0, u1, u2, u3, u4, u5, u6, u7⟩ := hC
                        go_simp
                      simp only [Act.put, List.setIfInBounds_toArray, List.set_cons_zero, List.set_cons_succ]
                      go_big_quiet_on
                      go_big_quiet_want
                      refine quiet_val (v := .bool false) (fun w' hC => ?_) ?_
                      · obtain ⟨z, ⟨z0, z1, z2, z3, z4, z5, z6, z7⟩, u0, u1, u2, u3, u4, u5, u6, u7⟩ := hC
                        go_simp
                      simp only [Act.put, List.setIfInBounds_toArray, List.set_cons_zero, List.set_cons_succ]
                      go_big_quiet_on
                      go_big_quiet_want
                      refine quiet_val (v := .slice (some ⟨gt, ot, none⟩) nT cT) (fun w' hC => ?_) ?_
                      · obtain ⟨z, ⟨z0, z1, z2, z3, z4, z5, z6, z7⟩, u0, u1, u2, u3, u4, u5, u6, u7⟩ := hC
                        go_simp
                      simp only [Act.put, List.setIfInBounds_toArray, List.set_cons_zero, List.set_cons_succ]
                      go_big_quiet_on
                      go_big_quiet_want
                      refine quiet_val (v := .int .i64 (k : Int)) (fun w' hC => ?_) ?_
                      · obtain ⟨z, ⟨z0, z1, z2, z3, z4, z5, z6, z7⟩, u0, u1, u2, u3, u4, u5, u6, u7⟩ := hC
                        go_simp
                      simp only [Act.put, List.setIfInBounds_toArray, List.set_cons_zero, List.set_cons_succ]
                      go_big_quiet_on
                      go_big_quiet_want
                      refine quiet_val (v := .pointer (some ⟨gt, ot + k * 8, none⟩)) (fun w' hC => ?_) ?_
                      · obtain ⟨z, ⟨z0, z1, z2, z3, z4, z5, z6, z7⟩, u0, u1, u2, u3, u4, u5, u6, u7⟩ := hC
                        go_simp
                      simp only [Act.put, List.setIfInBounds_toArray, List.set_cons_zero, List.set_cons_succ]
                      go_big_quiet_on
                      go_big_quiet_want
                      refine quiet_val (v := .pointer (some ⟨gt, ot + k * 8 + 1, none⟩)) (fun w' hC => ?_) ?_
                      · obtain ⟨z, ⟨z0, z1, z2, z3, z4, z5, z6, z7⟩, u0, u1, u2, u3, u4, u5, u6, u7⟩ := hC
                        go_simp
                      simp only [Act.put, List.setIfInBounds_toArray, List.set_cons_zero, List.set_cons_succ]
                      go_big_quiet_on
                      go_big_quiet_want
                      refine quiet_val (v := .bool (!xa)) (fun w' hC => ?_) ?_
                      · obtain ⟨z, ⟨z0, z1, z2, z3, z4, z5, z6, z7⟩, u0, u1, u2, u3, u4, u5, u6, u7⟩ := hC
                        go_simp
                      simp only [Act.put, List.setIfInBounds_toArray, List.set_cons_zero, List.set_cons_succ]
                      go_big_quiet_on
                      go_big_quiet_want
                      refine quiet_val (v := .pointer (some ⟨wr.heap.size, 1, none⟩)) (fun w' hC => ?_) ?_
                      · obtain ⟨z, ⟨z0, z1, z2, z3, z4, z5, z6, z7⟩, u0, u1, u2, u3, u4, u5, u6, u7⟩ := hC
                        go_simp
                      simp only [Act.put, List.setIfInBounds_toArray, List.set_cons_zero, List.set_cons_succ]
                      go_big_quiet_on
                      go_big_quiet_want
                      refine quiet_val (v := .bool xa) (fun w' hC => ?_) ?_
                      · obtain ⟨z, ⟨z0, z1, z2, z3, z4, z5, z6, z7⟩, u0, u1, u2, u3, u4, u5, u6, u7⟩ := hC
                        go_simp
                      simp only [Act.put, List.setIfInBounds_toArray, List.set_cons_zero, List.set_cons_succ]
                      go_big_quiet_on
                      go_big_quiet_want
                      refine quiet_val (v := .bool false) (fun w' hC => ?_) ?_
                      · obtain ⟨z, ⟨z0, z1, z2, z3, z4, z5, z6, z7⟩, u0, u1, u2, u3, u4, u5, u6, u7⟩ := hC
                        go_simp
                      simp only [Act.put, List.setIfInBounds_toArray, List.set_cons_zero, List.set_cons_succ]
                      go_big_quiet_on
                      go_big_quiet_want
                      refine quiet_val (v := .bool false) (fun w' hC => ?_) ?_
                      · obtain ⟨z, ⟨z0, z1, z2, z3, z4, z5, z6, z7⟩, u0, u1, u2, u3, u4, u5, u6, u7⟩ := hC
                        go_simp
                      simp only [Act.put, List.setIfInBounds_toArray, List.set_cons_zero, List.set_cons_succ]
                      go_big_quiet_on
                      go_big_quiet_want
                      refine quiet_val (v := .bool false) (fun w' hC => ?_) ?_
                      · obtain ⟨z, ⟨z0, z1, z2, z3, z4, z5, z6, z7⟩, u0, u1, u2, u3, u4, u5, u6, u7⟩ := hC
                        go_simp
                      simp only [Act.put, List.setIfInBounds_toArray, List.set_cons_zero, List.set_cons_succ]
                      go_big_quiet_on
                      go_big_quiet_want
                      refine quiet_val (v := .slice (some ⟨gt, ot, none⟩) nT cT) (fun w' hC => ?_) ?_
                      · obtain ⟨z, ⟨z0, z1, z2, z3, z4, z5, z6, z7⟩, u0, u1, u2, u3, u4, u5, u6, u7⟩ := hC
                        go_simp
                      simp only [Act.put, List.setIfInBounds_toArray, List.set_cons_zero, List.set_cons_succ]
                      go_big_quiet_on
                      go_big_quiet_want
                      refine quiet_val (v := .int .i64 (k : Int)) (fun w' hC => ?_) ?_
                      · obtain ⟨z, ⟨z0, z1, z2, z3, z4, z5, z6, z7⟩, u0, u1, u2, u3, u4, u5, u6, u7⟩ := hC
                        go_simp
                      simp only [Act.put, List.setIfInBounds_toArray, List.set_cons_zero, List.set_cons_succ]
                      go_big_quiet_on
                      go_big_quiet_want
                      refine quiet_val (v := .pointer (some ⟨gt, ot + k * 8, none⟩)) (fun w' hC => ?_) ?_
                      · obtain ⟨z, ⟨z0, z1, z2, z3, z4, z5, z6, z7⟩, u0, u1, u2, u3, u4, u5, u6, u7⟩ := hC
                        go_simp
                      simp only [Act.put, List.setIfInBounds_toArray, List.set_cons_zero, List.set_cons_succ]
                      go_big_quiet_on
                      go_big_quiet_want
                      refine quiet_val (v := .pointer (some ⟨gt, ot + k * 8 + 2, none⟩)) (fun w' hC => ?_) ?_
                      · obtain ⟨z, ⟨z0, z1, z2, z3, z4, z5, z6, z7⟩, u0, u1, u2, u3, u4, u5, u6, u7⟩ := hC
                        go_simp
                      simp only [Act.put, List.setIfInBounds_toArray, List.set_cons_zero, List.set_cons_succ]
                      go_big_quiet_on
                      go_big_quiet_want
                      refine quiet_val (v := .agg #[.int .i64 p, .int .i64 m', .int .i64 b, .int .i64 q, .int .i64 s', .int .i64 v]) (fun w' hC => ?_) ?_
                      · obtain ⟨z, ⟨z0, z1, z2, z3, z4, z5, z6, z7⟩, u0, u1, u2, u3, u4, u5, u6, u7⟩ := hC
                        go_simp
                      simp only [Act.put, List.setIfInBounds_toArray, List.set_cons_zero, List.set_cons_succ]
                      go_big_quiet_on
                      go_big_quiet_want
                      refine quiet_val (v := .pointer (some ⟨wr.heap.size, 2, none⟩)) (fun w' hC => ?_) ?_
                      · obtain ⟨z, ⟨z0, z1, z2, z3, z4, z5, z6, z7⟩, u0, u1, u2, u3, u4, u5, u6, u7⟩ := hC
                        go_simp
                      simp only [Act.put, List.setIfInBounds_toArray, List.set_cons_zero, List.set_cons_succ]
                      go_big_quiet_on
                      go_big_quiet_want
                      refine quiet_val (v := .agg #[.int .i64 p, .int .i64 m', .int .i64 b, .int .i64 q, .int .i64 s', .int .i64 v]) (fun w' hC => ?_) ?_
                      · obtain ⟨z, ⟨z0, z1, z2, z3, z4, z5, z6, z7⟩, u0, u1, u2, u3, u4, u5, u6, u7⟩ := hC
                        go_simp
                      simp only [Act.put, List.setIfInBounds_toArray, List.set_cons_zero, List.set_cons_succ]
                      go_big_quiet_on
                      go_big_quiet_want
                      refine quiet_val (v := .bool (!rlB ⟨p, m', b, q, s', v⟩ ⟨p, m', b, q, s', v⟩)) (fun w' hC => exec_bin rfl (by go_simp) (run_neq_of (rl_eq p m' b q s' v p m' b q s' v w'))) ?_
                      simp only [Act.put, List.setIfInBounds_toArray, List.set_cons_zero, List.set_cons_succ]
                      go_big_quiet_on
                      go_big_quiet_want
                      refine quiet_val (v := .bool (!rlB ⟨p, m', b, q, s', v⟩ ⟨p, m', b, q, s', v⟩)) (fun w' hC => ?_) ?_
                      · obtain ⟨z, ⟨z0, z1, z2, z3, z4, z5, z6, z7⟩, u0, u1, u2, u3, u4, u5, u6, u7⟩ := hC
                        go_simp
                      simp only [Act.put, List.setIfInBounds_toArray, List.set_cons_zero, List.set_cons_succ]
                      go_big_quiet_on
                      refine wpQuiet_nil ?_
                      intro w' hC
                      go_wp2_with fail
                      go_meet
                      case rel => exact ⟨by rw [(rlB_iff _ _).2 rfl]; rfl, HB.out.trans (hC.1.mono HB.out.size)⟩
                  case rest =>
                    rename World => wl
                    obtain ⟨rfl, hB2⟩ := hcut
                    have HBL : Hid (Below wk.heap.size wk wl) := hB2
                    clear HTC hB2
                    go_wp2
                    go_roundw
                    case rel => exact ⟨k + 1, by omega, by go_num, HBL.out⟩
                    case measure => simp [intOf]; omega
                · obtain rfl : k = nT := by omega
                  have HBE : Hid (Below w.heap.size w wr) := HBw.out.trans (HB.out.mono HBw.out.size)
                  clear hB
                  go_wp2
                  go_ret
                  exact ⟨by simp, HBE.out⟩
end Go.Proofs.YtokkmnednhigmaeDoor.changeTells
/- A topology that came in: its number of switches, its links, its hosts. -/
namespace Go.Proofs.YtokkmnednhigmaeDoor
open Go.ChangeShapes Go.WideShapes Go.ChangeAt Go.RowKit Go.Joins
set_option linter.unusedSimpArgs false
set_option linter.unusedVariables false
set_option maxRecDepth 100000

section
variable {P : Program} {α : Type} {E : Enc α}
set_option maxRecDepth 100000 in
/-- A cell that reads as a slice lies where it says. -/
theorem gs_open {H : Type} {enc : TypeId × Value → H} {W : World} {fuel : Nat} {cs : List Value} {x : DataW H × List MemPlace} (ts te : TypeId) (hu : P.underlying ts = some (.slice te)) (hC : P.cellsOf te = E.n) (x0 : α)
    (hel : ∀ (n : Nat) (cs : List Value) (x : DataW H × List MemPlace), DataW.trod enc P W 0 (fun _ => true) true n te cs = some x → ∃ y, cs = E.c y)
    (hf2 : DataW.trod enc P W 0 (fun _ => true) true fuel ts cs = some x) : ∃ ao n cap L, cs = [.slice ao n cap] ∧ GS E W (.slice ao n cap) L := by
  obtain ⟨d, p⟩ := x
  rcases Go.Deep.open_slice hu hf2 with ⟨hc, hx⟩ | ⟨a, len0, cap, m, k, D, Pl, hc, _, hl, hm, hmm, hx, hall⟩
  · exact ⟨_, _, _, [], hc, .inl ⟨none, 0, rfl, rfl⟩⟩
  · simp only [if_true] at hmm
    subst hmm
    rcases Nat.eq_zero_or_pos len0 with h0 | h0
    · subst h0
      exact ⟨_, _, _, [], hc, .inl ⟨_, _, rfl, rfl⟩⟩
    · have each : ∀ i, i < m → ∃ y : α, ∀ j, j < E.n → W.cell? (a.add (i * E.n + j)) = (E.c y)[j]? := by
        intro i hi
        obtain ⟨cs, h1, h2⟩ := hall i hi
        rw [hC] at h1
        obtain ⟨_, hlen, hcell⟩ := World.cells?_some h1
        obtain ⟨y, rfl⟩ := hel _ _ _ h2
        refine ⟨y, fun j hj => ?_⟩
        have := hcell j (by omega)
        rw [Go.Deep.add_add] at this
        exact this
      have iR : Inhabited α := ⟨x0⟩
      obtain ⟨R, hR⟩ := Go.Deep.choose_lt each
      obtain ⟨sb, so, spot⟩ := a
      have hspot : spot = none := by
        have h1 := hR 0 (by omega) 0 E.pos
        have h2 : (E.c (R 0))[0]?.isSome = true := by
          rw [List.getElem?_eq_getElem (by rw [E.len]; exact E.pos)]
          rfl
        obtain ⟨u, hu2⟩ := Option.isSome_iff_exists.1 h2
        rw [hu2] at h1
        simpa [Addr.add] using World.cell?_spot h1
      subst hspot
      have hadd : ∀ j, (⟨sb, so, none⟩ : Addr).add j = ⟨sb, so + j, none⟩ := by
        intro j
        simp only [Addr.add]
        first
          | rfl
          | (split
             · next h0 => rw [h0]; rfl
             · rfl)
      refine ⟨_, _, _, (List.range len0).map R, hc, .inr ⟨sb, so, _, by simp, by simpa using hl, hm, fun i hi j u hu2 => ?_⟩⟩
      have hi2 : i < len0 := by simpa using hi
      have e : ((List.range len0).map R)[i] = R i := by simp
      rw [e] at hu2
      have hj : j < E.n := by
        have := (List.getElem?_eq_some_iff.1 hu2).1
        rw [E.len] at this
        exact this
      have hc := hR i (by omega) j hj
      rw [hadd, hu2, ← Nat.add_assoc] at hc
      exact hc
end
set_option maxRecDepth 100000 in
/-- One that came in. -/
theorem topo_open {H : Type} {enc : TypeId × Value → H} {W : World} {n : Nat} {cs : List Value} {x : DataW H × List MemPlace}
    (h : DataW.trod enc Tryd.prog W 0 (fun _ => true) true n 25 cs = some x) : ∃ S ao n cap ao2 n2 cap2 Ls Hs, cs = [.int .i64 S, .slice ao n cap, .slice ao2 n2 cap2] ∧ GS lnkE W (.slice ao n cap) Ls ∧ GS hstE W (.slice ao2 n2 cap2) Hs := by
  obtain ⟨xs, k, _, _, hl, hlen, hf⟩ := DataW.trod_struct Tryd.underlying25 h
  have hC : Tryd.prog.cellsOf 25 = 3 := by kernel_rfl
  have hT0 : Tryd.prog.cellsOf 3 = 1 := by kernel_rfl
  have hT1 : Tryd.prog.cellsOf 22 = 1 := by kernel_rfl
  have hT2 : Tryd.prog.cellsOf 23 = 1 := by kernel_rfl
  rw [hC] at hl
  match cs, hl with
  | [c0, c1, c2], _ =>
    match xs, hlen with
    | [z0, z1, z2], _ =>
      have g0 := hf 0 _ rfl
      have g1 := hf 1 _ rfl
      have g2 := hf 2 _ rfl
      simp [hT0, hT1, hT2] at g0 g1 g2
      obtain ⟨v0, e0, _, _⟩ := DataW.trod_int Tryd.underlying3 g0
      obtain ⟨ao, n, cap, Ls, e1, hL⟩ := gs_open (E := lnkE) 22 73 Tryd.underlying22 (by kernel_rfl) ((0, 0), (0, 0)) (fun _ _ _ h => lnk_open h) g1
      obtain ⟨ao2, n2, cap2, Hs, e2, hH⟩ := gs_open (E := hstE) 23 75 Tryd.underlying23 (by kernel_rfl) (ByteArray.empty, (0, 0)) (fun _ _ _ h => hst_open h) g2
      simp at e0 e1 e2
      exact ⟨v0, ao, n, cap, ao2, n2, cap2, Ls, Hs, by simp [e0, e1, e2], hL, hH⟩
theorem topo_of {H : Type} {enc : TypeId × Value → H} {W : World} {base : Nat} {v : Value} {d : DataW H} {p : List MemPlace}
    (hv : Value.okWide Tryd.prog W .any base 25 v) (h : DataW.Trod enc Tryd.prog W 0 (fun _ => true) true 25 v d p) : ∃ S ao n cap ao2 n2 cap2 Ls Hs, v = .agg #[.int .i64 S, .slice ao n cap, .slice ao2 n2 cap2] ∧ GS lnkE W (.slice ao n cap) Ls ∧ GS hstE W (.slice ao2 n2 cap2) Hs := by
  obtain ⟨cs, rfl, hsz⟩ := okWide_struct Tryd.underlying25 hv
  obtain ⟨n, hn⟩ := h
  obtain ⟨S, ao, n, cap, ao2, n2, cap2, Ls, Hs, e, h1, h2⟩ := topo_open hn
  refine ⟨S, ao, n, cap, ao2, n2, cap2, Ls, Hs, ?_, h1, h2⟩
  simp only [Value.cells] at e
  rw [← Array.toArray_toList (xs := cs), e]
end Go.Proofs.YtokkmnednhigmaeDoor
/- A net that came in: its topology, its tables. -/
namespace Go.Proofs.YtokkmnednhigmaeDoor
open Go.ChangeShapes Go.WideShapes Go.ChangeAt Go.RowKit Go.Joins
set_option linter.unusedSimpArgs false
set_option linter.unusedVariables false
set_option maxRecDepth 100000

theorem gs_SR {w : World} {v : Value} {L : List Ru} (h : GS rlE w v L) : SR w v L := by
  rcases h with h | ⟨g, o, cap, h1, h2, h3, h4⟩
  · exact .inl h
  · refine .inr ⟨g, o, cap, h1, h2, h3, fun i hi => ?_⟩
    have hv := h4 i hi
    generalize L[i] = r at hv
    obtain ⟨p, m, b, q, s, x⟩ := r
    obtain ⟨q0, q1, q2, q3, q4, q5⟩ := rl_cells hv
    exact ⟨q0, q1, q2, q3, q4, q5⟩
set_option maxRecDepth 100000 in
theorem table_open {H : Type} {enc : TypeId × Value → H} {W : World} {fuel : Nat} {cs : List Value} {x : DataW H × List MemPlace}
    (h : DataW.trod enc Tryd.prog W 0 (fun _ => true) true fuel 58 cs = some x) : ∃ ao n cap L, cs = [.slice ao n cap] ∧ SR W (.slice ao n cap) L := by
  obtain ⟨ao, n, cap, L, e, hL⟩ := gs_open (E := rlE) 58 51 Tryd.underlying58 (by kernel_rfl) zeR (fun _ _ _ h => rl_open h) h
  exact ⟨ao, n, cap, L, e, gs_SR hL⟩
set_option maxRecDepth 100000 in
theorem tables_open {H : Type} {enc : TypeId × Value → H} {W : World} {fuel : Nat} {cs : List Value} {x : DataW H × List MemPlace}
    (hf2 : DataW.trod enc Tryd.prog W 0 (fun _ => true) true fuel 26 cs = some x) : ∃ ao n cap Ts, cs = [.slice ao n cap] ∧ TS W (.slice ao n cap) Ts := by
  obtain ⟨d, p⟩ := x
  have hC : Tryd.prog.cellsOf 58 = 1 := by kernel_rfl
  rcases Go.Deep.open_slice Tryd.underlying26 hf2 with ⟨hc, hx⟩ | ⟨a, len0, cap, m, k, D, Pl, hc, _, hl, hm, hmm, hx, hall⟩
  · exact ⟨_, _, _, [], hc, .inl ⟨none, 0, rfl, rfl⟩⟩
  · simp only [if_true] at hmm
    subst hmm
    rcases Nat.eq_zero_or_pos len0 with h0 | h0
    · subst h0
      exact ⟨_, _, _, [], hc, .inl ⟨_, _, rfl, rfl⟩⟩
    · have each : ∀ i, i < m → ∃ L : List Ru, ∃ ao n cap, W.cell? (a.add i) = some (.slice ao n cap) ∧ SR W (.slice ao n cap) L := by
        intro i hi
        obtain ⟨cs, h1, h2⟩ := hall i hi
        rw [hC] at h1
        obtain ⟨_, hlen, hcell⟩ := World.cells?_some h1
        obtain ⟨ao, n, cap, L, rfl, hL⟩ := table_open h2
        refine ⟨L, ao, n, cap, ?_, hL⟩
        have := hcell 0 (by simp)
        rw [Go.Deep.add_add] at this
        simpa using this
      obtain ⟨R, hR⟩ := Go.Deep.choose_lt each
      obtain ⟨sb, so, spot⟩ := a
      have hspot : spot = none := by
        obtain ⟨ao, n, cap, h1, _⟩ := hR 0 (by omega)
        simpa [Addr.add] using World.cell?_spot h1
      subst hspot
      have hadd : ∀ j, (⟨sb, so, none⟩ : Addr).add j = ⟨sb, so + j, none⟩ := by
        intro j
        simp only [Addr.add]
        first
          | rfl
          | (split
             · next h0 => rw [h0]; rfl
             · rfl)
      refine ⟨_, _, _, (List.range len0).map R, hc, .inr ⟨sb, so, _, by simp, by simpa using hl, hm, fun i hi => ?_⟩⟩
      have hi2 : i < len0 := by simpa using hi
      have e : ((List.range len0).map R)[i] = R i := by simp
      rw [e]
      obtain ⟨ao, n, cap, h1, h2⟩ := hR i (by omega)
      rw [hadd] at h1
      exact ⟨ao, n, cap, h1, h2⟩
set_option maxRecDepth 100000 in
/-- One that came in. -/
theorem net_open {H : Type} {enc : TypeId × Value → H} {W : World} {n : Nat} {cs : List Value} {x : DataW H × List MemPlace}
    (h : DataW.trod enc Tryd.prog W 0 (fun _ => true) true n 28 cs = some x) : ∃ S ao n cap ao2 n2 cap2 ao3 n3 cap3 Ls Hs Ts, cs = [.int .i64 S, .slice ao n cap, .slice ao2 n2 cap2, .slice ao3 n3 cap3] ∧ GS lnkE W (.slice ao n cap) Ls ∧ GS hstE W (.slice ao2 n2 cap2) Hs ∧ TS W (.slice ao3 n3 cap3) Ts := by
  obtain ⟨xs, k, _, _, hl, hlen, hf⟩ := DataW.trod_struct Tryd.underlying28 h
  have hC : Tryd.prog.cellsOf 28 = 4 := by kernel_rfl
  have hT0 : Tryd.prog.cellsOf 25 = 3 := by kernel_rfl
  have hT1 : Tryd.prog.cellsOf 26 = 1 := by kernel_rfl
  rw [hC] at hl
  match cs, hl with
  | [c0, c1, c2, c3], _ =>
    match xs, hlen with
    | [z0, z1], _ =>
      have g0 := hf 0 _ rfl
      have g1 := hf 1 _ rfl
      simp [hT0, hT1] at g0 g1
      obtain ⟨S, ao, n, cap, ao2, n2, cap2, Ls, Hs, e0, hL, hH⟩ := topo_open g0
      obtain ⟨ao3, n3, cap3, Ts, e1, hT⟩ := tables_open g1
      simp at e0 e1
      exact ⟨S, ao, n, cap, ao2, n2, cap2, ao3, n3, cap3, Ls, Hs, Ts, by simp [e0, e1], hL, hH, hT⟩
theorem net_of {H : Type} {enc : TypeId × Value → H} {W : World} {base : Nat} {v : Value} {d : DataW H} {p : List MemPlace}
    (hv : Value.okWide Tryd.prog W .any base 28 v) (h : DataW.Trod enc Tryd.prog W 0 (fun _ => true) true 28 v d p) : ∃ S ao n cap ao2 n2 cap2 ao3 n3 cap3 Ls Hs Ts, v = .agg #[.int .i64 S, .slice ao n cap, .slice ao2 n2 cap2, .slice ao3 n3 cap3] ∧ GS lnkE W (.slice ao n cap) Ls ∧ GS hstE W (.slice ao2 n2 cap2) Hs ∧ TS W (.slice ao3 n3 cap3) Ts := by
  obtain ⟨cs, rfl, hsz⟩ := okWide_struct Tryd.underlying28 hv
  obtain ⟨n, hn⟩ := h
  obtain ⟨S, ao, n, cap, ao2, n2, cap2, ao3, n3, cap3, Ls, Hs, Ts, e, h1, h2, h3⟩ := net_open hn
  refine ⟨S, ao, n, cap, ao2, n2, cap2, ao3, n3, cap3, Ls, Hs, Ts, ?_, h1, h2, h3⟩
  simp only [Value.cells] at e
  rw [← Array.toArray_toList (xs := cs), e]
end Go.Proofs.YtokkmnednhigmaeDoor
/- The row of ChangeTells: it answers true, whatever net, ops and net it is called with; the variable errorType of package errors is as the program's text lays it. -/
namespace Go.Proofs.YtokkmnednhigmaeDoor.changeTells
open Go.ChangeShapes Go.WideShapes Go.ChangeAt Go.RowKit
set_option linter.unusedVariables false
set_option linter.unusedSimpArgs false

theorem own : ownKnob Tryd.prog.godebug = none := by kernel_rfl
theorem laidOut : laidOutB Tryd.prog = true := by kernel_rfl
theorem et : Tryd.prog.globalNamed "errors.errorType" = some 0 := by kernel_rfl
theorem oneRow : ((List.range 180).filter fun t => Tryd.prog.rowNamed t [101, 114, 114, 111, 114]) = [34] := by kernel_rfl
theorem tsize : Tryd.prog.types.size = 180 := by kernel_rfl

theorem handle_of_laid {W : World} (h : laidMetH Tryd.prog Rows.changeTellsRow.laid W) : HasErr W := by
  have h' : laidMet Tryd.prog [] W ∧ handlesMet Tryd.prog Rows.changeTellsRow.laid W := h
  obtain ⟨name, u, ty, e1, e2, e3, e4, e5⟩ := h'.2 _ (List.mem_singleton.2 rfl)
  have en : name = [101, 114, 114, 111, 114] := (Option.some.inj e1).symm
  subst en
  have hu : some u = some 135 := e2.symm.trans (by kernel_rfl)
  obtain rfl := Option.some.inj hu
  have hm : ty ∈ (List.range 180).filter fun t => Tryd.prog.rowNamed t [101, 114, 114, 111, 114] := List.mem_filter.2 ⟨List.mem_range.2 (by rw [← tsize]; exact e3), e4⟩
  rw [oneRow] at hm
  obtain rfl := List.mem_singleton.1 hm
  have hh : typeHandle Tryd.prog 34 = .pointer (some ⟨1, 34, none⟩) := by kernel_rfl
  rw [hh] at e5
  unfold HasErr
  simpa using World.var?_cell et e5 0

theorem opBytes : Tryd.prog.bytesOf 53 = 64 := by kernel_rfl
/-- How many ops may be read. -/
theorem short {H : Type} {enc : TypeId × Value → H} {W : World} {ao : Option Addr} {n cap : Nat} {d d0 : DataW H} {p : List MemPlace} {t0 : TypeId} {ts : List TypeId} {ds : List (DataW H)}
    (h : DataW.Trod enc Tryd.prog W 0 (fun _ => true) true 29 (.slice ao n cap) d p) (hw : (DataW.weightsEach Tryd.prog (t0 :: 29 :: ts) (d0 :: d :: ds)).all (· ≤ reachBytes) = true) : n * 64 ≤ 140737488355328 := by
  obtain ⟨fuel, hf⟩ := h
  have hf2 : DataW.trod enc Tryd.prog W 0 (fun _ => true) true fuel 29 [.slice ao n cap] = some (d, p) := hf
  rcases Go.Deep.open_slice Tryd.underlying29 hf2 with ⟨hc, hx⟩ | ⟨a, len, cap2, m, k, D, Pl, hc, _, hl, hm, hmm, hx, hall⟩
  · simp only [List.cons.injEq, and_true, Value.slice.injEq] at hc
    obtain ⟨_, rfl, _⟩ := hc
    omega
  · simp only [List.cons.injEq, and_true, Value.slice.injEq] at hc
    obtain ⟨_, rfl, rfl⟩ := hc
    simp only [Prod.mk.injEq] at hx
    obtain ⟨rfl, _⟩ := hx
    have h1 := sized_slice (P := Tryd.prog) hw (j := 1) (t := 29) (e := 53) rfl rfl Tryd.underlying29
    rw [opBytes] at h1
    simp only [List.length_map, List.length_range] at h1
    have h3 : reachBytes = 140737488351232 := by rfl
    rw [h3] at h1
    have h4 : n * 64 ≤ (n + (m - n)) * 64 := Nat.mul_le_mul_right _ (by omega)
    omega

set_option maxRecDepth 100000 in
theorem lifted (os : Os) (started : os.Started) (H : Type) (enc : TypeId × Value → H) :
    ReturnsInHanded {} Tryd.checked os 3 .any (fun w args => (Rows.changeTellsSpec.pre enc Tryd.prog Tryd.f3 [] false w args ∧ laidMetH Tryd.prog Rows.changeTellsRow.laid w) ∧ sizedMet enc Tryd.prog Tryd.f3 (OpenSpec.ofChange Rows.changeTellsSpec) false w args)
      (Rows.changeTellsSpec.post enc Tryd.prog Tryd.f3 false true false false) := by
  refine returnsInHanded_of_change_and (C := Tryd.checked) (X := fun w _ => laidMetH Tryd.prog Rows.changeTellsRow.laid w) (fun _ _ _ hh h => h.of_heap hh) own started (by kernel_rfl) Tryd.func3
    (ChangeSpec.witness_at (enc := enc) (C := Tryd.checked) (os := os) (X := fun w _ => laidMetH Tryd.prog Rows.changeTellsRow.laid w) false
      { World.holding Tryd.prog os ⟨#[], #[], []⟩ with heap := (World.holding Tryd.prog os ⟨#[], #[], []⟩).heap.modify 0 fun
          | .cells _ t frozen => .cells #[.iface 135 (.agg #[.pointer (some ⟨1, 34, none⟩)])] t frozen
          | o => o }
      #[.agg #[.int .i64 0, .slice none 0 0, .slice none 0 0, .slice none 0 0], .slice none 0 0, .agg #[.int .i64 0, .slice none 0 0, .slice none 0 0, .slice none 0 0]] 8 rfl (by kernel_rfl) (by kernel_rfl) (by kernel_rfl) (by kernel_rfl) (by kernel_rfl) (laidMetH_of_parts (laidMet_nil _ _) (by kernel_rfl))) ?_
  intro W base args ds gs before hval0 hW _ hwt hLaid _
  have hval : ∀ (j : Nat) t v, Tryd.f3.params[j]? = some t → args[j]? = some v → Value.okWide Tryd.prog W .any base t v := hval0
  have hW' := hW
  obtain ⟨p, q, hA0, hV0, rfl, hfz, hnd⟩ := hW
  have hA : DataW.TrodAll enc Tryd.prog W 0 (fun _ => true) true Tryd.f3.params.toList args.toList ds p := hA0
  have hV : DataW.TrodVars enc Tryd.prog W (fun _ => true) [] gs q := hV0
  have hwt2 : (DataW.weightsEach Tryd.prog (Tryd.f3.params.toList ++ Rows.changeTellsSpec.plain.varTypes Tryd.prog) (ds ++ gs)).all (· ≤ reachBytes) = true := hwt
  rw [Tryd.params3] at hA hval hwt2
  obtain ⟨v0, vs0, d0, ds0, p0, q0, hargs, rfl, rfl, h0, r0⟩ := trodAll_cons hA
  obtain ⟨v1, vs1, d1, ds1, p1, q1, rfl, rfl, rfl, h1, r1⟩ := trodAll_cons r0
  obtain ⟨v2, vs2, d2, ds2, p2, q2, rfl, rfl, rfl, h2, r2⟩ := trodAll_cons r1
  obtain ⟨rfl, rfl, rfl⟩ := trodAll_nil r2
  obtain rfl : args = #[v0, v1, v2] := by cases args; simp_all
  have hg := handle_of_laid hLaid
  obtain ⟨rfl, rfl⟩ : gs = [] ∧ q = [] := by
    cases gs with
    | nil => exact ⟨rfl, hV⟩
    | cons g r => exact absurd hV (by intro h; cases h)
  have k0 := h0
  have lt0 : ∀ x ∈ p0, x.block < W.heap.size := by obtain ⟨m, hm⟩ := k0; exact DataW.trod_lt m _ _ _ hm
  have k1 := h1
  have lt1 : ∀ x ∈ p1, x.block < W.heap.size := by obtain ⟨m, hm⟩ := k1; exact DataW.trod_lt m _ _ _ hm
  have k2 := h2
  have lt2 : ∀ x ∈ p2, x.block < W.heap.size := by obtain ⟨m, hm⟩ := k2; exact DataW.trod_lt m _ _ _ hm
  obtain ⟨S, ao, n, cap, ao2, n2, cap2, ao3, n3, cap3, Ls, Hs, Ts, rfl, hL, hH, hT⟩ := net_of (hval 0 28 v0 rfl rfl) h0
  obtain ⟨l, hl⟩ := ops_of (hval 1 29 v1 rfl rfl) h1
  obtain ⟨a4, n4, c4, rfl⟩ := okWide_slice Tryd.underlying29 (hval 1 29 v1 rfl rfl)
  obtain ⟨S2, bo, m, dap, bo2, m2, dap2, bo3, m3, dap3, Ls2, Hs2, Ts2, rfl, hL2, hH2, hT2⟩ := net_of (hval 2 28 v2 rfl rfl) h2
  have hsz := short h1 hwt2
  clear hA0 hval0 hwt hwt2
  refine (walk S ao n cap ao2 n2 cap2 ao3 n3 cap3 a4 n4 c4 S2 bo m dap bo2 m2 dap2 bo3 m3 dap3 Ls Hs Ts l Ls2 Hs2 Ts2 W hL hH hT hl hL2 hH2 hT2 hg hsz).mono fun e W' ⟨he, bel⟩ => ?_
  subst he
  exact ⟨_, rfl, _, _, _, [], _, [], hW', trodAll_mk1 (shut_bool Tryd.underlying4 _), (trodAll_cons_mk (Below.trod laidOut (by kernel_rfl) (of_decide_eq_true (by kernel_rfl)) k0 bel lt0) (trodAll_cons_mk (Below.trod laidOut (by kernel_rfl) (of_decide_eq_true (by kernel_rfl)) k1 bel lt1) (trodAll_cons_mk (Below.trod laidOut (by kernel_rfl) (of_decide_eq_true (by kernel_rfl)) k2 bel lt2) trodAll_mk0))), rfl, bel.frame _, fun h => by cases h⟩

theorem over : Rows.ChangeTellsSaid :=
  OpenClaim.holds_of_wide 3 Tryd.f3 rfl rfl rfl rfl rfl rfl rfl ⟨rfl, rfl, rfl, rfl, rfl⟩ rfl rfl rfl rfl rfl (by kernel_rfl) Tryd.func3 (by kernel_rfl)
    (of_decide_eq_true (by kernel_rfl)) (by unfold Func.isWrapper; first | (rw [if_pos (by decide +kernel)]; kernel_rfl) | (rw [if_neg (by decide +kernel)]; exact ⟨rfl, rfl⟩))
    (fun os started H enc _ => lifted os started H enc)
end Go.Proofs.YtokkmnednhigmaeDoor.changeTells
