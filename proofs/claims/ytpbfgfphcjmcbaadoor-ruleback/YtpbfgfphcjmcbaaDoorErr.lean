/- The error of a number. -/
import Derived.Test.YtpbfgfphcjmcbaaDoorRows
namespace Go.Proofs.YtpbfgfphcjmcbaaDoor

/-- The error of a number: none of 0. -/
def noV (n : Int) : Value := if n = 0 then .nilIface else .iface 40 (.int .i64 n)
theorem no_ok {n : Int} (h : n = 0) : noV n = .nilIface := by simp [noV, h]
theorem no_ne {n : Int} (h : n ≠ 0) : noV n = .iface 40 (.int .i64 n) := by simp [noV, h]
end Go.Proofs.YtpbfgfphcjmcbaaDoor
