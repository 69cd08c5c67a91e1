/- The error of a number. -/
import Derived.Test.YtfbocionnjliladRows
namespace Go.Proofs.Ytfbocionnjlilad

/-- The error of a number: none of 0. -/
def noV (n : Int) : Value := if n = 0 then .nilIface else .iface 57 (.int .i64 n)
theorem no_ok {n : Int} (h : n = 0) : noV n = .nilIface := by simp [noV, h]
theorem no_ne {n : Int} (h : n ≠ 0) : noV n = .iface 57 (.int .i64 n) := by simp [noV, h]
end Go.Proofs.Ytfbocionnjlilad
