/- The tables of Go's library that a row lists, as they lie in memory: for a witness. -/
import Derived.Test.YtpbfgfphcjmcbaaDoorRows
import Derived.WalkKit
import GoSem.PinnedTables
namespace Go.Proofs.YtpbfgfphcjmcbaaDoor

def cellsOfNums (k : IntKind) (l : List Nat) : Array Value := (l.map fun (n : Nat) => Value.int k (n : Int)).toArray
def db32 : List Nat := [0, 1, 28, 2, 29, 14, 24, 3, 30, 22, 20, 15, 25, 17, 4, 8, 31, 27, 13, 23, 21, 19, 16, 7, 26, 12, 18, 6, 11, 5, 10, 9]
def db64 : List Nat := [0, 1, 56, 2, 57, 49, 28, 3, 61, 58, 42, 50, 38, 29, 17, 4, 62, 47, 59, 36, 45, 43, 51, 22, 53, 39, 33, 30, 24, 18, 12, 5, 63, 55, 48, 27, 60, 41, 37, 16, 46, 35, 44, 21, 52, 32, 23, 11, 54, 26, 40, 15, 34, 20, 31, 10, 25, 14, 19, 9, 13, 8, 7, 6]
def pow10 : List Nat := (List.range 20).map fun (n : Nat) => 10 ^ n
def accepts : List Nat := [128, 191, 160, 191, 128, 159, 144, 191, 128, 143] ++ List.replicate 22 0
/-- A variable's cells are turned. -/
def lay (cs : Array Value) : Obj → Obj
  | .cells _ t frozen => .cells cs t frozen
  | o => o
/-- The tables are laid. -/
def layTables (h : Array Obj) : Array Obj :=
  ((((h.modify 4 (lay (cellsOfNums .u8 db32))).modify 5 (lay (cellsOfNums .u8 db64))).modify 1 (lay (cellsOfNums .u64 pow10))).modify 3 (lay (cellsOfNums .u8 accepts))).modify 2 (lay (cellsOfNums .u8 Go.Pinned.utf8FirstZ))
end Go.Proofs.YtpbfgfphcjmcbaaDoor
