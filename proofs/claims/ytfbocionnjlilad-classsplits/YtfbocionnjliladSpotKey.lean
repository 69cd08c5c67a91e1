/- A spot as a key of a map; numbers and texts as keys. -/
import Derived.Test.YtfbocionnjliladRows
import Derived.Test.YtfbocionnjliladBut
import Derived.Test.YtfbocionnjliladBfsMath
import Derived.DeepKeys3
namespace Go.Proofs.Ytfbocionnjlilad
open Go.RowKit

set_option maxRecDepth 100000 in
theorem spotEq (a b c d : Int) (w : World) : (Op.equal 73 (.agg #[.int .i64 a, .int .i64 b]) (.agg #[.int .i64 c, .int .i64 d])).run Try.prog w = .ok (a == c && b == d) w := by
  unfold Op.equal Op.maxDepth
  rw [run_equalIn_struct w 9999 _ _ _ (by kernel_rfl) (by kernel_rfl)]
  cases h1 : (a == c)
  · go_simp
  · cases h2 : (b == d)
    · go_simp
    · go_simp
set_option maxRecDepth 100000 in
theorem spotCheck (e : Bool) (a b : Int) (w : World) : (Instr.checkKey e 10000 73 (.agg #[.int .i64 a, .int .i64 b])).run Try.prog w = .ok () w := by
  have h : ∀ (x : Int) (w : World), (Instr.checkKey e 9999 3 (.int .i64 x)).run Try.prog w = .ok () w := fun x w => Go.MapKept.run_checkKey Try.underlying3 (by simp [Go.MapKept.IsKey]) e 9998
  rw [Instr.checkKey]
  go_simp
def spotKey : KeyE Try.prog 73 (Int × Int) :=
  KeyE.ask (fun k => .agg #[.int .i64 k.1, .int .i64 k.2]) sq sq_iff (fun e k w => spotCheck e k.1 k.2 w) _ (show Try.prog.underlying 73 = some (.struct (Try.prog.fieldsOf 73)) by kernel_rfl) (fun a b => rfl) (fun a b w => spotEq a.1 a.2 b.1 b.2 w) (fun k => by simp [Instr.sameBits])
def intKey : KeyE Try.prog 3 Int :=
  KeyE.now (fun k => .int .i64 k) qI qI_iff (fun e k w => Go.MapKept.run_checkKey Try.underlying3 (by simp [Go.MapKept.IsKey]) e 9999) _ Try.underlying3 (fun a b => by simp [Instr.sameNow, qI]) (fun k => by simp [Instr.sameBits])
def strKey : KeyE Try.prog 9 ByteArray :=
  KeyE.now (fun k => .string k) (fun a b => a == b) ba_iff (fun e k w => Go.MapKept.run_checkKey Try.underlying9 (by simp [Go.MapKept.IsKey]) e 9999) _ Try.underlying9 (fun a b => by simp [Instr.sameNow, beq_toListBytes]) (fun k => by simp [Instr.sameBits, (ba_iff k k).2 rfl])
/-- Numbers as elements. -/
def veI (n : Int) : Value := .int .i64 n
section
variable {P : Program} {K : TypeId} {κ : Type} {E : KeyE P K κ} {w : World} {ops : Array Oper} {rest : List Oper} {o : Oper} {a : Act} {Q : Exit → Act → World → Prop}
theorem getV_I {o : Option Int} : getV veI (.int .i64 0) o = .int .i64 (o.getD 0) := by cases o <;> rfl
/-- A look-up in a map that counts. -/
theorem run_lookup_TK {B : Nat} {M : List (κ × Int)} {U : List κ} (h : MAt E veI w B M) (hT : TK E.q M U) (t e : TypeId) (ht : P.underlying t = some (.map K e)) (hz : ∀ w, (zeroValue e).run P w = .ok (.int .i64 0) w) (k : κ) :
    (Instr.lookup t (.map (some B)) (E.c k) false).run P w = .ok (.int .i64 (ctM E.q k U : Int)) w := by
  rw [run_lookup_M h t e ht _ hz k false, getV_I, hT k]
  rfl
end
end Go.Proofs.Ytfbocionnjlilad
