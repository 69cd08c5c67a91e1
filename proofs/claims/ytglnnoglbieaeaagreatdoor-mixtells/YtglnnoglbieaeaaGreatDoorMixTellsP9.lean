/- Contracts and facts on the way to MixTells, joined into one text: WishMath, StWish, HostHas, WishCon, SlHopF, WishFits, WishFirst, SlWish2, ItLaw, GenTake, WishHold, MixWalk1. -/
import Derived.Test.YtglnnoglbieaeaaGreatDoorMixTellsP3
import Derived.Test.YtglnnoglbieaeaaGreatDoorMixTellsP1
import Derived.Test.YtglnnoglbieaeaaGreatDoorMixTellsP5
import Derived.Test.YtglnnoglbieaeaaGreatDoorMixTellsP4
import Derived.Test.YtglnnoglbieaeaaGreatDoorMixTellsP6
import Derived.Test.YtglnnoglbieaeaaGreatDoorRows
import Derived.Lib.SmallJoins
import Derived.Laws.StructEq
import Derived.Maps.OwnOps
import Derived.Lib.Strings
import Derived.Shelf.Abstract
import Derived.Deep.CutRange
import Derived.Deep.CutBlock
import Derived.RangeFuncNested
import Derived.RangeFuncBox
import Derived.RangeFuncBound
import Derived.RangeFuncCalls
import Derived.RangeFuncLeaves
import Derived.Shelf.RegionOpen
import Derived.WalkKit
import Derived.OwnWalkIn
import Derived.TacticsInMore
import Derived.LoopNIn
import Derived.LoopIn
import Derived.Below
/- Wishes in plain lists: what is wrong with some, which fates fit, whether all hold in a net, or what shows that not. No program in it. -/
namespace Go.Proofs.YtglnnoglbieaeaaGreatDoor
open Go.RowKit
set_option linter.unusedVariables false

structure Wi where
  k : Int
  f : ByteArray
  t : ByteArray
  v : Int
def zeW : Wi := ⟨0, ByteArray.empty, ByteArray.empty, 0⟩
/-- Does a wish ask anything of what that host sends? -/
def abW (w : Wi) (n : ByteArray) : Bool := (w.k == 4) || (w.f == n)
/-- Did it arrive there? -/
def thW (w : Wi) (F : Int × ByteArray × List ((Int × Int) × Int)) : Bool := (F.1 == 1) && (F.2.1 == w.t)
/-- Had it a hop at that switch? -/
def haW (v : Int) (l : List ((Int × Int) × Int)) : Bool := l.any fun h => h.1.1 == v
/-- Does a fate break a wish not? -/
def fiB (w : Wi) (n : ByteArray) (F : Int × ByteArray × List ((Int × Int) × Int)) : Bool :=
  if abW w n then (if w.k = 1 then thW w F else if w.k = 2 then !thW w F else if w.k = 3 then (!thW w F || haW w.v F.2.2) else if w.k = 4 then !(F.1 == 4) else true) else true
def wkB (k : Int) : Bool := decide (1 ≤ k) && decide (k ≤ 4)
def viB (w : Wi) (S : Int) : Bool := (w.k != 3) || swB S w.v
def nlB (w : Wi) : Bool := (w.f == ByteArray.empty) && (w.t == ByteArray.empty)
def hoB (Hs : List (ByteArray × (Int × Int))) (n : ByteArray) : Bool := Hs.any fun h => h.1 == n
/-- Via of others than a way. -/
def veB (w : Wi) : Bool := (w.k != 3) && (w.v != 0)
/-- The fault of a wish. -/
def woN (S : Int) (Hs : List (ByteArray × (Int × Int))) (w : Wi) : Int :=
  if !wkB w.k || (!viB w S || veB w) then 1 else if w.k = 4 then (if nlB w then 0 else 3) else if hoB Hs w.f && hoB Hs w.t then 0 else 5
/-- The fault of the first k wishes. -/
def wsTo (S : Int) (Hs : List (ByteArray × (Int × Int))) (l : List Wi) : Nat → Int
  | 0 => 0
  | k + 1 => if wsTo S Hs l k = 0 then woN S Hs (l.getD k zeW) else wsTo S Hs l k
def wsN (S : Int) (Ls : List ((Int × Int) × (Int × Int))) (Hs : List (ByteArray × (Int × Int))) (l : List Wi) : Int :=
  if tpN S Ls Hs = 0 then (if 8 < l.length then 4 else wsTo S Hs l l.length) else tpN S Ls Hs
theorem ws_le {S : Int} {Hs : List (ByteArray × (Int × Int))} {l : List Wi} {k : Nat} (h : wsTo S Hs l k ≠ 0) : ∀ {n : Nat}, k ≤ n → wsTo S Hs l n = wsTo S Hs l k
  | 0, hn => by
    obtain rfl : k = 0 := by omega
    rfl
  | n + 1, hn => by
    by_cases e : k = n + 1
    · subst e; rfl
    · have := ws_le h (show k ≤ n by omega)
      rw [wsTo, if_neg (by rw [this]; exact h), this]
theorem ws_0 {S : Int} {Hs : List (ByteArray × (Int × Int))} {l : List Wi} : ∀ {n : Nat}, wsTo S Hs l n = 0 → ∀ k, k < n → woN S Hs (l.getD k zeW) = 0
  | 0, _, k, hk => by omega
  | n + 1, h, k, hk => by
    unfold wsTo at h
    by_cases e : wsTo S Hs l n = 0
    · rw [if_pos e] at h
      by_cases ek : k = n
      · subst ek; exact h
      · exact ws_0 e k (by omega)
    · rw [if_neg e] at h
      exact absurd h e
theorem getW {l : List Wi} {k : Nat} (hk : k < l.length) : l.getD k zeW = l[k] := by simp [List.getD, hk]

section
variable (Ls : List ((Int × Int) × (Int × Int))) (Hs : List (ByteArray × (Int × Int))) (Ts : List (List Ru))
/-- Does what that host sends break a wish? -/
def brB (w : Wi) (x : ByteArray × (Int × Int)) (h : Int) : Bool := !fiB w x.1 (frF Ls Hs Ts x.2 h)
/-- The least of the first k headers that does, or -1. -/
def brH (w : Wi) (x : ByteArray × (Int × Int)) : Nat → Int
  | 0 => -1
  | k + 1 => if brH w x k < 0 then (if brB Ls Hs Ts w x (k : Int) then (k : Int) else -1) else brH w x k
def zeO : ByteArray × (Int × Int) := (ByteArray.empty, (0, 0))
/-- The first of k hosts that does, and its header. -/
def brX (w : Wi) (Xs : List (ByteArray × (Int × Int))) : Nat → Option (Nat × Int)
  | 0 => none
  | k + 1 => match brX w Xs k with
    | some x => some x
    | none => if 0 ≤ brH Ls Hs Ts w (Xs.getD k zeO) 16 then some (k, brH Ls Hs Ts w (Xs.getD k zeO) 16) else none
/-- The first of k wishes that is broken, and by what. -/
def brW (l : List Wi) (Xs : List (ByteArray × (Int × Int))) : Nat → Option (Nat × Nat × Int)
  | 0 => none
  | k + 1 => match brW l Xs k with
    | some x => some x
    | none => match brX Ls Hs Ts (l.getD k zeW) Xs Xs.length with
      | some p => some (k, p.1, p.2)
      | none => none
end
section
variable {Ls : List ((Int × Int) × (Int × Int))} {Hs : List (ByteArray × (Int × Int))} {Ts : List (List Ru)}
theorem brH_bd (w : Wi) (x : ByteArray × (Int × Int)) : ∀ k : Nat, -1 ≤ brH Ls Hs Ts w x k ∧ brH Ls Hs Ts w x k < k
  | 0 => by simp [brH]
  | k + 1 => by
    have := brH_bd w x k
    unfold brH
    split
    · split <;> omega
    · omega
theorem brH_le {w : Wi} {x : ByteArray × (Int × Int)} {k : Nat} (h : 0 ≤ brH Ls Hs Ts w x k) : ∀ {n : Nat}, k ≤ n → brH Ls Hs Ts w x n = brH Ls Hs Ts w x k
  | 0, hn => by
    obtain rfl : k = 0 := by omega
    rfl
  | n + 1, hn => by
    by_cases e : k = n + 1
    · subst e; rfl
    · have := brH_le h (show k ≤ n by omega)
      rw [brH, if_neg (by rw [this]; omega), this]
/-- The next one does not. -/
theorem brH_no {w : Wi} {x : ByteArray × (Int × Int)} {k : Nat} (h : brH Ls Hs Ts w x k < 0) (h2 : brB Ls Hs Ts w x (k : Int) = false) : brH Ls Hs Ts w x (k + 1) < 0 := by
  rw [brH, if_pos h, h2]
  simp
/-- The next one does. -/
theorem brH_yes {w : Wi} {x : ByteArray × (Int × Int)} {k : Nat} (hk : k < 16) (h : brH Ls Hs Ts w x k < 0) (h2 : brB Ls Hs Ts w x (k : Int) = true) : brH Ls Hs Ts w x 16 = k := by
  have e : brH Ls Hs Ts w x (k + 1) = k := by
    rw [brH, if_pos h, h2]
    simp
  rw [brH_le (k := k + 1) (by rw [e]; omega) (by omega), e]
theorem brH_some {w : Wi} {x : ByteArray × (Int × Int)} : ∀ {k : Nat}, 0 ≤ brH Ls Hs Ts w x k → brB Ls Hs Ts w x (brH Ls Hs Ts w x k) = true
  | 0, h => by simp [brH] at h
  | k + 1, h => by
    by_cases e : brH Ls Hs Ts w x k < 0
    · cases h2 : brB Ls Hs Ts w x (k : Int) with
      | false =>
        have := brH_no e h2
        omega
      | true =>
        have e2 : brH Ls Hs Ts w x (k + 1) = k := by
          rw [brH, if_pos e, h2]
          simp
        rw [e2]
        exact h2
    · have e2 : brH Ls Hs Ts w x (k + 1) = brH Ls Hs Ts w x k := by rw [brH, if_neg e]
      rw [e2]
      exact brH_some (by omega)
theorem brH_none {w : Wi} {x : ByteArray × (Int × Int)} : ∀ {k : Nat}, brH Ls Hs Ts w x k < 0 → ∀ j, j < k → brB Ls Hs Ts w x (j : Int) = false
  | 0, _, j, hj => by omega
  | k + 1, h, j, hj => by
    by_cases e : brH Ls Hs Ts w x k < 0
    · cases h2 : brB Ls Hs Ts w x (k : Int) with
      | false =>
        by_cases ej : j = k
        · subst ej; exact h2
        · exact brH_none e j (by omega)
      | true =>
        rw [brH, if_pos e, h2] at h
        simp at h
        omega
    · rw [brH, if_neg e] at h
      exact absurd h e
/-- Who does not ask is not broken. -/
theorem brB_off {w : Wi} {x : ByteArray × (Int × Int)} (h : abW w x.1 = false) (k : Int) : brB Ls Hs Ts w x k = false := by simp [brB, fiB, h]
theorem brH_off {w : Wi} {x : ByteArray × (Int × Int)} (h : abW w x.1 = false) : ∀ k : Nat, brH Ls Hs Ts w x k = -1
  | 0 => rfl
  | k + 1 => by
    rw [brH, brH_off h k, brB_off h]
    simp
variable {Xs : List (ByteArray × (Int × Int))}
theorem brX_le {w : Wi} {k : Nat} {p : Nat × Int} (h : brX Ls Hs Ts w Xs k = some p) : ∀ {n : Nat}, k ≤ n → brX Ls Hs Ts w Xs n = some p
  | 0, hn => by
    obtain rfl : k = 0 := by omega
    exact h
  | n + 1, hn => by
    by_cases e : k = n + 1
    · subst e; exact h
    · rw [brX, brX_le h (show k ≤ n by omega)]
theorem getO {Xs : List (ByteArray × (Int × Int))} {k : Nat} (hk : k < Xs.length) : Xs.getD k zeO = Xs[k] := by simp [List.getD, hk]
theorem brX_no {w : Wi} {k : Nat} (hk : k < Xs.length) (h : brX Ls Hs Ts w Xs k = none) (h2 : brH Ls Hs Ts w Xs[k] 16 < 0) : brX Ls Hs Ts w Xs (k + 1) = none := by
  rw [brX, h]
  simp only
  rw [getO hk, if_neg (by omega)]
theorem brX_yes {w : Wi} {k : Nat} (hk : k < Xs.length) (h : brX Ls Hs Ts w Xs k = none) (h2 : 0 ≤ brH Ls Hs Ts w Xs[k] 16) : brX Ls Hs Ts w Xs Xs.length = some (k, brH Ls Hs Ts w Xs[k] 16) := by
  refine brX_le (k := k + 1) ?_ (by omega)
  rw [brX, h]
  simp only
  rw [getO hk, if_pos h2]
theorem brX_some {w : Wi} : ∀ {k : Nat} {p : Nat × Int}, brX Ls Hs Ts w Xs k = some p → p.1 < k ∧ 0 ≤ p.2 ∧ p.2 < 16 ∧ brB Ls Hs Ts w (Xs.getD p.1 zeO) p.2 = true
  | 0, p, h => by cases h
  | k + 1, p, h => by
    rw [brX] at h
    cases e : brX Ls Hs Ts w Xs k with
    | some q =>
      rw [e] at h
      cases h
      obtain ⟨h1, h2⟩ := brX_some e
      exact ⟨by omega, h2⟩
    | none =>
      rw [e] at h
      simp only at h
      split at h
      · next h0 =>
        cases h
        have := brH_bd (Ls := Ls) (Hs := Hs) (Ts := Ts) w (Xs.getD k zeO) 16
        exact ⟨by simp, h0, by simp only; omega, brH_some h0⟩
      · cases h
theorem brX_none {w : Wi} : ∀ {k : Nat}, brX Ls Hs Ts w Xs k = none → ∀ j, j < k → ∀ h : Nat, h < 16 → brB Ls Hs Ts w (Xs.getD j zeO) (h : Int) = false
  | 0, _, j, hj => by omega
  | k + 1, h, j, hj => by
    rw [brX] at h
    cases e : brX Ls Hs Ts w Xs k with
    | some q => rw [e] at h; cases h
    | none =>
      rw [e] at h
      simp only at h
      split at h
      · cases h
      · next h0 =>
        by_cases ej : j = k
        · subst ej
          exact brH_none (by omega)
        · exact brX_none e j (by omega)
variable {l : List Wi}
theorem brW_le {k : Nat} {p : Nat × Nat × Int} (h : brW Ls Hs Ts l Xs k = some p) : ∀ {n : Nat}, k ≤ n → brW Ls Hs Ts l Xs n = some p
  | 0, hn => by
    obtain rfl : k = 0 := by omega
    exact h
  | n + 1, hn => by
    by_cases e : k = n + 1
    · subst e; exact h
    · rw [brW, brW_le h (show k ≤ n by omega)]
theorem brW_no {k : Nat} (hk : k < l.length) (h : brW Ls Hs Ts l Xs k = none) (h2 : brX Ls Hs Ts l[k] Xs Xs.length = none) : brW Ls Hs Ts l Xs (k + 1) = none := by
  rw [brW, h]
  simp only
  rw [getW hk, h2]
theorem brW_yes {k : Nat} (hk : k < l.length) (h : brW Ls Hs Ts l Xs k = none) {p : Nat × Int} (h2 : brX Ls Hs Ts l[k] Xs Xs.length = some p) : brW Ls Hs Ts l Xs l.length = some (k, p.1, p.2) := by
  refine brW_le (k := k + 1) ?_ (by omega)
  rw [brW, h]
  simp only
  rw [getW hk, h2]
theorem brW_some : ∀ {k : Nat} {p : Nat × Nat × Int}, brW Ls Hs Ts l Xs k = some p → p.1 < k ∧ p.2.1 < Xs.length ∧ 0 ≤ p.2.2 ∧ p.2.2 < 16 ∧ brB Ls Hs Ts (l.getD p.1 zeW) (Xs.getD p.2.1 zeO) p.2.2 = true
  | 0, p, h => by cases h
  | k + 1, p, h => by
    rw [brW] at h
    cases e : brW Ls Hs Ts l Xs k with
    | some q =>
      rw [e] at h
      cases h
      obtain ⟨h1, h2⟩ := brW_some e
      exact ⟨by omega, h2⟩
    | none =>
      rw [e] at h
      simp only at h
      cases e2 : brX Ls Hs Ts (l.getD k zeW) Xs Xs.length with
      | none => rw [e2] at h; cases h
      | some q =>
        rw [e2] at h
        cases h
        exact ⟨by simp, brX_some e2⟩
theorem brW_none : ∀ {k : Nat}, brW Ls Hs Ts l Xs k = none → ∀ i, i < k → ∀ j, j < Xs.length → ∀ h : Nat, h < 16 → brB Ls Hs Ts (l.getD i zeW) (Xs.getD j zeO) (h : Int) = false
  | 0, _, i, hi => by omega
  | k + 1, h, i, hi => by
    rw [brW] at h
    cases e : brW Ls Hs Ts l Xs k with
    | some q => rw [e] at h; cases h
    | none =>
      rw [e] at h
      simp only at h
      cases e2 : brX Ls Hs Ts (l.getD k zeW) Xs Xs.length with
      | some q => rw [e2] at h; cases h
      | none =>
        by_cases ei : i = k
        · subst ei
          exact brX_none e2
        · exact brW_none e i (by omega)
end
/-- What is told of wishes that do not hold. -/
def prV (Hs : List (ByteArray × (Int × Int))) : Option (Nat × Nat × Int) → Int × ByteArray × Int
  | none => (0, ByteArray.empty, 0)
  | some p => ((p.1 : Int), (Hs.getD p.2.1 zeO).1, p.2.2)
/-- The answers of Holds. -/
def wiN (S : Int) (Ls : List ((Int × Int) × (Int × Int))) (Hs : List (ByteArray × (Int × Int))) (Ts : List (List Ru)) (l : List Wi) : Int :=
  if ntN S Ls Hs Ts = 0 then (if wsN S Ls Hs l = 0 then (if (brW Ls Hs Ts l Hs l.length).isSome then 9 else 0) else wsN S Ls Hs l) else ntN S Ls Hs Ts
def wiV (S : Int) (Ls : List ((Int × Int) × (Int × Int))) (Hs : List (ByteArray × (Int × Int))) (Ts : List (List Ru)) (l : List Wi) : Int × ByteArray × Int :=
  if ntN S Ls Hs Ts = 0 ∧ wsN S Ls Hs l = 0 then prV Hs (brW Ls Hs Ts l Hs l.length) else (0, ByteArray.empty, 0)
end Go.Proofs.YtglnnoglbieaeaaGreatDoor
/- The struct api.Wish: its cells, slices of them, == of two, such that came in. Written by mk/struct.py. -/
namespace Go.Proofs.YtglnnoglbieaeaaGreatDoor
open Go.ChangeShapes Go.WideShapes Go.ChangeAt Go.RowKit Go.Joins
set_option linter.unusedSimpArgs false
set_option linter.unusedVariables false
set_option maxRecDepth 100000

def wisE : Enc (Wi) where
  c := fun x => [.int .i64 x.k, .string x.f, .string x.t, .int .i64 x.v]
  n := 4
  len := fun _ => rfl
  pos := by decide
  one := by
    intro x u hu
    simp at hu
    rcases hu with rfl | rfl | rfl | rfl <;> rfl
theorem wis_cells {w : World} {g o : Nat} {x0 : Int} {x1 : ByteArray} {x2 : ByteArray} {x3 : Int} (h : VAt w g o (wisE.c ⟨x0, x1, x2, x3⟩)) : w.cell? ⟨g, o, none⟩ = some (.int .i64 x0) ∧ w.cell? ⟨g, o + 1, none⟩ = some (.string x1) ∧ w.cell? ⟨g, o + 2, none⟩ = some (.string x2) ∧ w.cell? ⟨g, o + 3, none⟩ = some (.int .i64 x3) :=
  ⟨h 0 _ rfl, h 1 _ rfl, h 2 _ rfl, h 3 _ rfl⟩
theorem wis_at {w : World} {g o : Nat} {L : List (Wi)} (h : GAt wisE w g o L) {n k : Nat} (hn : L.length = n) (hk : k < n) :
    ∃ (x0 : Int) (x1 : ByteArray) (x2 : ByteArray) (x3 : Int) (hl : k < L.length), L[k] = ⟨x0, x1, x2, x3⟩ ∧ w.cell? ⟨g, o + k * 4, none⟩ = some (.int .i64 x0) ∧ w.cell? ⟨g, o + k * 4 + 1, none⟩ = some (.string x1) ∧ w.cell? ⟨g, o + k * 4 + 2, none⟩ = some (.string x2) ∧ w.cell? ⟨g, o + k * 4 + 3, none⟩ = some (.int .i64 x3) :=
  have hl : k < L.length := by omega
  ⟨_, _, _, _, hl, rfl, wis_cells (h k hl)⟩
theorem wis_new (w : World) (x0 : Int) (x1 : ByteArray) (x2 : ByteArray) (x3 : Int) (t : TypeId) : VAt (w.alloc (Obj.cells #[.int .i64 x0, .string x1, .string x2, .int .i64 x3] t)) w.heap.size 0 (wisE.c ⟨x0, x1, x2, x3⟩) := vat_new w [.int .i64 x0, .string x1, .string x2, .int .i64 x3] t
theorem wis_row (w : World) (x0 : Int) (x1 : ByteArray) (x2 : ByteArray) (x3 : Int) (t : TypeId) : GS wisE (w.alloc (Obj.cells #[.int .i64 x0, .string x1, .string x2, .int .i64 x3] t)) (.slice (some ⟨w.heap.size, 0, none⟩) 1 1) [⟨x0, x1, x2, x3⟩] := gs_one (E := wisE) w ⟨x0, x1, x2, x3⟩ t (vs := [.int .i64 x0, .string x1, .string x2, .int .i64 x3]) rfl
/-- Are two the same? -/
def wisB (a b : Wi) : Bool := (a.k == b.k) && ((a.f == b.f) && ((a.t == b.t) && ((a.v == b.v))))
theorem wis_ways (x0 : Int) (x1 : ByteArray) (x2 : ByteArray) (x3 : Int) (y0 : Int) (y1 : ByteArray) (y2 : ByteArray) (y3 : Int) :
    ((x0 == y0) = false ∧ wisB ⟨x0, x1, x2, x3⟩ ⟨y0, y1, y2, y3⟩ = false) ∨
    ((x0 == y0) = true ∧ (x1.toList == y1.toList) = false ∧ wisB ⟨x0, x1, x2, x3⟩ ⟨y0, y1, y2, y3⟩ = false) ∨
    ((x0 == y0) = true ∧ (x1.toList == y1.toList) = true ∧ (x2.toList == y2.toList) = false ∧ wisB ⟨x0, x1, x2, x3⟩ ⟨y0, y1, y2, y3⟩ = false) ∨
    ((x0 == y0) = true ∧ (x1.toList == y1.toList) = true ∧ (x2.toList == y2.toList) = true ∧ (x3 == y3) = false ∧ wisB ⟨x0, x1, x2, x3⟩ ⟨y0, y1, y2, y3⟩ = false) ∨
    ((x0 == y0) = true ∧ (x1.toList == y1.toList) = true ∧ (x2.toList == y2.toList) = true ∧ (x3 == y3) = true ∧ wisB ⟨x0, x1, x2, x3⟩ ⟨y0, y1, y2, y3⟩ = true) := by
  have e : wisB ⟨x0, x1, x2, x3⟩ ⟨y0, y1, y2, y3⟩ = ((x0 == y0) && ((x1.toList == y1.toList) && ((x2.toList == y2.toList) && ((x3 == y3))))) := by simp only [wisB, beq_toListBytes]
  rw [e]
  cases h0 : (x0 == y0)
  · simp
  · skip
    cases h1 : (x1.toList == y1.toList)
    · simp
    · skip
      cases h2 : (x2.toList == y2.toList)
      · simp
      · skip
        cases h3 : (x3 == y3)
        · simp
        · skip
          simp
set_option maxRecDepth 100000 in
theorem wis_eq (x0 : Int) (x1 : ByteArray) (x2 : ByteArray) (x3 : Int) (y0 : Int) (y1 : ByteArray) (y2 : ByteArray) (y3 : Int) (w : World) : (Op.equal 96 (.agg #[.int .i64 x0, .string x1, .string x2, .int .i64 x3]) (.agg #[.int .i64 y0, .string y1, .string y2, .int .i64 y3])).run Tryz.prog w = .ok (wisB ⟨x0, x1, x2, x3⟩ ⟨y0, y1, y2, y3⟩) w := by
  unfold Op.equal Op.maxDepth
  rw [run_equalIn_struct w 9999 _ _ _ (by kernel_rfl) (by kernel_rfl)]
  rcases wis_ways x0 x1 x2 x3 y0 y1 y2 y3 with ⟨e0, e⟩ | ⟨e0, e1, e⟩ | ⟨e0, e1, e2, e⟩ | ⟨e0, e1, e2, e3, e⟩ | ⟨e0, e1, e2, e3, e⟩
  all_goals
    rw [e]
    go_simp
theorem wis_info : (Tryz.prog.info? 96).map (fun i => (i.zero, i.size, i.bytes)) = some (some (.agg #[.int .i64 0, .string ByteArray.empty, .string ByteArray.empty, .int .i64 0]), 4, 48) := by kernel_rfl
theorem wis_zero : (Value.agg #[.int .i64 0, .string ByteArray.empty, .string ByteArray.empty, .int .i64 0]).cells.size = 4 := by simp [Value.cells]
/-- Cells that read as one. -/
theorem wis_open {H : Type} {enc : TypeId × Value → H} {W : World} {n : Nat} {cs : List Value} {x : DataW H × List MemPlace}
    (h : DataW.trod enc Tryz.prog W 0 (fun _ => true) true n 96 cs = some x) : ∃ y, cs = wisE.c y := by
  obtain ⟨xs, k, _, _, hl, hlen, hf⟩ := DataW.trod_struct Tryz.underlying96 h
  have hC : Tryz.prog.cellsOf 96 = 4 := by kernel_rfl
  have hT0 : Tryz.prog.cellsOf 3 = 1 := by kernel_rfl
  have hT1 : Tryz.prog.cellsOf 9 = 1 := by kernel_rfl
  rw [hC] at hl
  match cs, hl with
  | [c0, c1, c2, c3], _ =>
    match xs, hlen with
    | [z0, z1, z2, z3], _ =>
      have g0 := hf 0 _ rfl
      have g1 := hf 1 _ rfl
      have g2 := hf 2 _ rfl
      have g3 := hf 3 _ rfl
      simp [hT0, hT1] at g0 g1 g2 g3
      obtain ⟨v0, e0, _, _⟩ := DataW.trod_int Tryz.underlying3 g0
      obtain ⟨v1, e1, _, _⟩ := DataW.trod_string Tryz.underlying9 g1
      obtain ⟨v2, e2, _, _⟩ := DataW.trod_string Tryz.underlying9 g2
      obtain ⟨v3, e3, _, _⟩ := DataW.trod_int Tryz.underlying3 g3
      simp [] at e0 e1 e2 e3
      refine ⟨⟨v0, v1, v2, v3⟩, ?_⟩
      simp [wisE, e0, e1, e2, e3]
set_option maxRecDepth 100000 in
/-- One that came in. -/
theorem wis_of {H : Type} {enc : TypeId × Value → H} {W : World} {base : Nat} {v : Value} {d : DataW H} {p : List MemPlace}
    (hv : Value.okWide Tryz.prog W .any base 96 v) (h : DataW.Trod enc Tryz.prog W 0 (fun _ => true) true 96 v d p) : ∃ (x0 : Int) (x1 : ByteArray) (x2 : ByteArray) (x3 : Int), v = .agg #[.int .i64 x0, .string x1, .string x2, .int .i64 x3] := by
  obtain ⟨cs, rfl, hsz⟩ := okWide_struct Tryz.underlying96 hv
  obtain ⟨n, hn⟩ := h
  obtain ⟨y, e⟩ := wis_open hn
  refine ⟨y.k, y.f, y.t, y.v, ?_⟩
  simp only [Value.cells] at e
  have e2 : cs = #[.int .i64 y.k, .string y.f, .string y.t, .int .i64 y.v] := by
    rw [← Array.toArray_toList (xs := cs), e]
    rfl
  rw [e2]
/-- A slice of them that came in. -/
theorem wiss_of {H : Type} {enc : TypeId × Value → H} {W : World} {base : Nat} {v : Value} {d : DataW H} {p : List MemPlace}
    (hv : Value.okWide Tryz.prog W .any base 30 v) (h : DataW.Trod enc Tryz.prog W 0 (fun _ => true) true 30 v d p) : ∃ L, GS wisE W v L :=
  gs_of (E := wisE) 30 96 Tryz.underlying30 (by kernel_rfl) ⟨0, ByteArray.empty, ByteArray.empty, 0⟩ (fun _ _ _ h => wis_open h) hv h
end Go.Proofs.YtglnnoglbieaeaaGreatDoor
/- What slices.ContainsFunc answers at hosts. -/
namespace Go.Proofs.YtglnnoglbieaeaaGreatDoor
open Go.RowKit
set_option linter.unusedSimpArgs false
set_option linter.unusedVariables false

set_option maxHeartbeats 1000000 in
theorem hst_hasF (ao : Option Addr) (n cap : Nat) (f : FuncId) (c : Value) (P : ByteArray × (Int × Int) → Bool) (L : List (ByteArray × (Int × Int))) (w : World) (hn : L.length = n) (hn2 : n ≤ maxLen) (ha : 0 < n → ∃ g o, ao = some ⟨g, o, none⟩ ∧ GAt hstE w g o L ∧ cap ≤ maxLen) (he : ∀ args w, (callFunc f args).run Tryz.prog w = .ok (.enter f args) w) (hf : hstAsks w f c P) :
    Calls Tryz.prog 138 #[.slice ao n cap, .func (Fn.func f) #[] #[c]] w fun e w' => e = .returned (.bool (L.any P)) ∧ Below w.heap.size w w' := by
  rw [← ixG_any]
  obtain ⟨x, hx⟩ : ∃ x, x = ixG P L := ⟨_, rfl⟩
  have HX : Hid (x = ixG P L) := hx
  rw [← hx]
  clear hx
  go_enter Tryz.func138, Tryz.ntmps138
  go_wp2_with fail
  refine (hst_idxF ao n cap f c P L _ hn hn2 ha he hf).mono ?_
  rintro e w1 ⟨rfl, hb1⟩
  rw [← HX.out]
  go_wp2
  go_ret
  exact ⟨rfl, hb1⟩

end Go.Proofs.YtglnnoglbieaeaaGreatDoor
/- What isWhat, isNameless, isVia, isAbout and isHost of package wish answer: contracts for the walks above them. -/
namespace Go.Proofs.YtglnnoglbieaeaaGreatDoor
open Go.RowKit
set_option linter.unusedSimpArgs false
set_option linter.unusedVariables false

theorem emp_lst (s : ByteArray) : s.toList.isEmpty = (s == ByteArray.empty) := by
  have e : ByteArray.empty.toList = [] := by rw [Lib.toList_data]; rfl
  rw [beq_toListBytes, e]
  cases h : s.toList with
  | nil => rfl
  | cons a l => rfl
/-- The box of a wish. -/
def WiBox (W : World) (g : Nat) (k : Int) (f t : ByteArray) (v : Int) : Prop := W.cell? ⟨g, 0, none⟩ = some (.int .i64 k) ∧ W.cell? ⟨g, 1, none⟩ = some (.string f) ∧ W.cell? ⟨g, 2, none⟩ = some (.string t) ∧ W.cell? ⟨g, 3, none⟩ = some (.int .i64 v)
theorem wibox_new (w : World) (k : Int) (f t : ByteArray) (v : Int) (T : TypeId) : WiBox (w.alloc (Obj.cells #[.int .i64 k, .string f, .string t, .int .i64 v] T)) w.heap.size k f t v := by
  refine ⟨?_, ?_, ?_, ?_⟩ <;> simp
theorem WiBox.later {W W' : World} {g : Nat} {k : Int} {f t : ByteArray} {v : Int} (h : WiBox W g k f t v) (hb : Below W.heap.size W W') : WiBox W' g k f t v :=
  ⟨cell_later hb h.1, cell_later hb h.2.1, cell_later hb h.2.2.1, cell_later hb h.2.2.2⟩
theorem WiBox.lt {W : World} {g : Nat} {k : Int} {f t : ByteArray} {v : Int} (h : WiBox W g k f t v) : g < W.heap.size := World.block_lt_of_cell? _ _ h.1

set_option maxHeartbeats 1000000 in
theorem isWhat_any (k : Int) (w : World) :
    Calls Tryz.prog 100 #[.int .i64 k] w fun e w' => e = .returned (.bool (wkB k)) ∧ Below w.heap.size w w' := by
  by_cases h1 : 1 ≤ k
  · by_cases h2 : k ≤ 4
    · have e : wkB k = true := by simp [wkB, h1, h2]
      rw [e]
      clear e
      go_enter Tryz.func100, Tryz.ntmps100
      go_wp2
      go_ret
      exact ⟨rfl, Below.refl _ _⟩
    · have e : wkB k = false := by simp [wkB, h2]
      rw [e]
      clear e
      go_enter Tryz.func100, Tryz.ntmps100
      go_wp2
      go_ret
      exact ⟨rfl, Below.refl _ _⟩
  · have e : wkB k = false := by simp [wkB, h1]
    rw [e]
    clear e
    go_enter Tryz.func100, Tryz.ntmps100
    go_wp2
    go_ret
    exact ⟨rfl, Below.refl _ _⟩
set_option maxHeartbeats 1000000 in
set_option maxRecDepth 100000 in
theorem isAbout_any (k : Int) (f t : ByteArray) (v : Int) (m : ByteArray) (w : World) :
    Calls Tryz.prog 65 #[.agg #[.int .i64 k, .string f, .string t, .int .i64 v], .string m] w fun e w' => e = .returned (.bool (abW ⟨k, f, t, v⟩ m)) ∧ Below w.heap.size w w' := by
  have HB0 : Hid (Below w.heap.size w (w.alloc (Obj.cells #[Value.int IntKind.i64 k, Value.string f, Value.string t, Value.int IntKind.i64 v] 96))) := (Below.refl _ _).alloc (Nat.le_refl _) _
  by_cases h : k = 4
  · subst h
    rw [show abW ⟨4, f, t, v⟩ m = true from rfl]
    go_enter Tryz.func65, Tryz.ntmps65
    go_wp2
    go_ret
    exact ⟨rfl, HB0.out⟩
  · have e : abW ⟨k, f, t, v⟩ m = (k == 4 || f.toList == m.toList) := by rw [abW, ← beq_toListBytes]
    rw [e]
    clear e
    go_enter Tryz.func65, Tryz.ntmps65
    go_wp2
    go_ret
    exact ⟨rfl, HB0.out⟩
set_option maxHeartbeats 1000000 in
set_option maxRecDepth 100000 in
theorem isNameless_any (k : Int) (f t : ByteArray) (v : Int) (w : World) :
    Calls Tryz.prog 102 #[.agg #[.int .i64 k, .string f, .string t, .int .i64 v]] w fun e w' => e = .returned (.bool (nlB ⟨k, f, t, v⟩)) ∧ Below w.heap.size w w' := by
  have HB0 : Hid (Below w.heap.size w (w.alloc (Obj.cells #[Value.int IntKind.i64 k, Value.string f, Value.string t, Value.int IntKind.i64 v] 96))) := (Below.refl _ _).alloc (Nat.le_refl _) _
  cases hf : (f == ByteArray.empty)
  · have e : nlB ⟨k, f, t, v⟩ = false := by simp [nlB, hf]
    rw [e]
    rw [← emp_lst] at hf
    clear e
    go_enter Tryz.func102, Tryz.ntmps102
    go_wp2
    go_ret
    exact ⟨rfl, HB0.out⟩
  · have e : nlB ⟨k, f, t, v⟩ = t.toList.isEmpty := by simp [nlB, hf, emp_lst]
    rw [e]
    rw [← emp_lst] at hf
    clear e
    cases ht : t.toList.isEmpty
    · go_enter Tryz.func102, Tryz.ntmps102
      go_wp2
      go_ret
      exact ⟨rfl, HB0.out⟩
    · go_enter Tryz.func102, Tryz.ntmps102
      go_wp2
      go_ret
      exact ⟨rfl, HB0.out⟩
set_option maxHeartbeats 1000000 in
set_option maxRecDepth 100000 in
theorem isVia_any (k : Int) (f t : ByteArray) (v S : Int) (w : World) :
    Calls Tryz.prog 101 #[.agg #[.int .i64 k, .string f, .string t, .int .i64 v], .int .i64 S] w fun e w' => e = .returned (.bool (viB ⟨k, f, t, v⟩ S)) ∧ Below w.heap.size w w' := by
  have HB0 : Hid (Below w.heap.size w (w.alloc (Obj.cells #[Value.int IntKind.i64 k, Value.string f, Value.string t, Value.int IntKind.i64 v] 96))) := (Below.refl _ _).alloc (Nat.le_refl _) _
  by_cases h : k = 3
  · subst h
    rw [show viB ⟨3, f, t, v⟩ S = swB S v from rfl]
    go_enter Tryz.func101, Tryz.ntmps101
    go_wp2_with fail
    refine (isSwitch_any S v _).mono ?_
    rintro e w1 ⟨rfl, hb1⟩
    go_wp2
    go_ret
    exact ⟨rfl, HB0.out.trans (hb1.mono HB0.out.size)⟩
  · have e : viB ⟨k, f, t, v⟩ S = true := by simp [viB, h]
    rw [e]
    clear e
    go_enter Tryz.func101, Tryz.ntmps101
    go_wp2
    go_ret
    exact ⟨rfl, HB0.out⟩
set_option maxHeartbeats 1000000 in
set_option maxRecDepth 100000 in
theorem isHost1_any (n : ByteArray) (x0 x1 : Int) (B : Nat) (m : ByteArray) (w : World) (h0 : w.cell? ⟨B, 0, none⟩ = some (.string m)) :
    Calls Tryz.prog 139 #[.agg #[.string n, .int .i64 x0, .int .i64 x1], .pointer (some ⟨B, 0, none⟩)] w fun e w' => e = .returned (.bool (n == m)) ∧ Below w.heap.size w w' := by
  have hlt : B < w.heap.size := World.block_lt_of_cell? _ _ h0
  have HB0 : Hid (Below w.heap.size w (w.alloc (Obj.cells #[Value.string n, Value.int IntKind.i64 x0, Value.int IntKind.i64 x1] 41))) := (Below.refl _ _).alloc (Nat.le_refl _) _
  rw [beq_toListBytes]
  go_enter Tryz.func139, Tryz.ntmps139
  go_wp2
  go_ret
  exact ⟨rfl, HB0.out⟩
theorem isHost1_asks (B : Nat) (m : ByteArray) (w : World) (h0 : w.cell? ⟨B, 0, none⟩ = some (.string m)) : hstAsks w 139 (.pointer (some ⟨B, 0, none⟩)) (fun h => h.1 == m) :=
  fun n x0 x1 W hW => isHost1_any n x0 x1 B m W (cell_later hW h0)
set_option maxHeartbeats 1000000 in
set_option maxRecDepth 100000 in
theorem isHost_any (S : Int) (v1 : Value) (ao2 : Option Addr) (n2 cap2 : Nat) (Hs : List (ByteArray × (Int × Int))) (m : ByteArray) (w : World) (hv1 : v1.oneCell' = true) (hH : GS hstE w (.slice ao2 n2 cap2) Hs) :
    Calls Tryz.prog 103 #[.agg #[.int .i64 S, v1, .slice ao2 n2 cap2], .string m] w fun e w' => e = .returned (.bool (hoB Hs m)) ∧ Below w.heap.size w w' := by
  have e1 : (w.alloc (Obj.cells #[.int .i64 S, v1, .slice ao2 n2 cap2] 25)).heap.size = w.heap.size + 1 := by simp
  have hb1 : Below w.heap.size w (w.alloc (Obj.cells #[.int .i64 S, v1, .slice ao2 n2 cap2] 25)) := (Below.refl _ _).alloc (Nat.le_refl _) _
  have ht := tbox_new w S v1 (.slice ao2 n2 cap2) 25
  obtain ⟨w0, hw0⟩ : ∃ W, W = w.alloc (Obj.cells #[.int .i64 S, v1, .slice ao2 n2 cap2] 25) := ⟨_, rfl⟩
  rw [← hw0] at e1 hb1 ht
  have hb2 : Below w0.heap.size w0 (w0.alloc (Obj.cells #[.string m] 9)) := (Below.refl _ _).alloc (Nat.le_refl _) _
  have hm := vat_new w0 [.string m] 9
  have ht2 := ht.later hb2
  have hB2 := hb1.trans (hb2.mono hb1.size)
  obtain ⟨w2, hw2⟩ : ∃ W, W = w0.alloc (Obj.cells #[.string m] 9) := ⟨_, rfl⟩
  have hm2 : VAt w2 w0.heap.size 0 [.string m] := by rw [hw2]; exact hm
  rw [← hw2] at ht2 hB2
  rw [e1] at hm2
  have m0 : w2.cell? ⟨w.heap.size + 1, 0, none⟩ = some (.string m) := hm2 0 _ rfl
  obtain ⟨b0, b1, b2⟩ := ht2
  have HW : Hid ((w.alloc (Obj.cells #[.int .i64 S, v1, .slice ao2 n2 cap2] 25)).alloc (Obj.cells #[.string m] 9) = w2) := by
    show _ = _
    rw [hw2, hw0]
  have HB2 : Hid (Below w.heap.size w w2) := hB2
  obtain ⟨_, _, _, eH, hHn, hHm, _, hHa⟩ := hH.form
  cases eH
  have HHN : Hid (Hs.length = n2) := hHn
  have HHM : Hid (n2 ≤ maxLen) := hHm
  have HHA : Hid (0 < n2 → ∃ g o, ao2 = some ⟨g, o, none⟩ ∧ GAt hstE w2 g o Hs ∧ cap2 ≤ maxLen) := fun h => by
    obtain ⟨g, o, k1, k2, k3⟩ := hHa h
    exact ⟨g, o, k1, k2.later hB2, k3⟩
  have HM0 : Hid (w2.cell? ⟨w.heap.size + 1, 0, none⟩ = some (.string m)) := m0
  clear hb1 ht hw0 hb2 hm hw2 hm2 hB2 hHn hHm hHa hH e1 m0
  go_enter Tryz.func103, Tryz.ntmps103
  go_upto_region 1 with fail
  rw [HW.out]
  clear HW
  go_wp2_with fail
  refine (hst_hasF ao2 n2 cap2 _ _ (fun h => h.1 == m) Hs _ HHN.out HHM.out HHA.out (enters_of Tryz.func139 (by kernel_rfl) rfl) (isHost1_asks _ m _ HM0.out)).mono ?_
  rintro e w3 ⟨rfl, hb3⟩
  rw [show (Hs.any fun h => h.1 == m) = hoB Hs m from rfl]
  go_wp2
  go_ret
  exact ⟨rfl, HB2.out.trans (hb3.mono HB2.out.size)⟩
end Go.Proofs.YtglnnoglbieaeaaGreatDoor
/- What package slices answers at slices of api.Hop. Written by mk/slices.py. -/
namespace Go.Proofs.YtglnnoglbieaeaaGreatDoor
open Go.RowKit
set_option linter.unusedSimpArgs false
set_option linter.unusedVariables false

/-- A closure that asks something, in whatever world behind this one. -/
def hopAsks (w : World) (f : FuncId) (c : Value) (P : (Int × Int) × Int → Bool) : Prop :=
  ∀ (x0 : Int) (x1 : Int) (x2 : Int) (W : World), Below w.heap.size w W → Calls Tryz.prog f #[.agg #[.int .i64 x0, .int .i64 x1, .int .i64 x2], c] W fun e w' => e = .returned (.bool (P ((x0, x1), x2))) ∧ Below W.heap.size W w'
theorem hopAsks.later {w w' : World} {f : FuncId} {c : Value} {P : (Int × Int) × Int → Bool} (h : hopAsks w f c P) (hb : Below w.heap.size w w') : hopAsks w' f c P :=
  fun x0 x1 x2 W hW => h x0 x1 x2 W (hb.trans (hW.mono hb.size))

set_option maxHeartbeats 1000000 in
theorem hop_idxF (ao : Option Addr) (n cap : Nat) (f : FuncId) (c : Value) (P : (Int × Int) × Int → Bool) (L : List ((Int × Int) × Int)) (w : World) (hn : L.length = n) (hn2 : n ≤ maxLen) (ha : 0 < n → ∃ g o, ao = some ⟨g, o, none⟩ ∧ GAt hopE w g o L ∧ cap ≤ maxLen) (he : ∀ args w, (callFunc f args).run Tryz.prog w = .ok (.enter f args) w) (hf : hopAsks w f c P) :
    Calls Tryz.prog 159 #[.slice ao n cap, .func (Fn.func f) #[] #[c]] w fun e w' => e = .returned (.int .i64 (ixG P L)) ∧ Below w.heap.size w w' := by
  have HN : Hid (L.length = n) := hn
  have HF : Hid (hopAsks w f c P) := hf
  have HA : Hid (0 < n → ∃ g o, ao = some ⟨g, o, none⟩ ∧ GAt hopE w g o L ∧ cap ≤ maxLen) := ha
  unfold maxLen at hn2
  clear hn hf ha
  go_enter Tryz.func159, Tryz.ntmps159
  go_wp2
  go_loopw [8] (fun i wr => ∃ k : Nat, k ≤ n ∧ i = .int .i64 k ∧ (L.take k).any P = false ∧ Below w.heap.size w wr)
    (fun i _ => n - (intOf i).toNat)
  case atStart => exact ⟨0, by omega, rfl, by simp, Below.refl _ _⟩
  case round =>
    obtain ⟨k, hk, rfl, hno, hB⟩ := hrel
    have HB : Hid (Below w.heap.size w wr) := hB
    have HNO : Hid ((L.take k).any P = false) := hno
    clear hno
    by_cases hlt : k < n
    · obtain ⟨g, o, hao, hc, _⟩ := HA.out (by omega)
      subst hao
      obtain ⟨x0, x1, x2, hkl, hL, q0, q1, q2⟩ := hop_at (hc.later hB) HN.out hlt
      have HL : Hid (L[k] = ((x0, x1), x2)) := hL
      clear hL hB
      cases ho : P ((x0, x1), x2)
      · go_wp2_with fail
        refine (HF.out x0 x1 x2 _ HB.out).mono ?_
        rintro e w1 ⟨rfl, hb1⟩
        rw [ho]
        have HB1 := HB.out.trans (hb1.mono HB.out.size)
        clear hb1
        go_wp2
        go_roundw
        case rel => exact ⟨k + 1, by omega, by go_num, any_nextG hkl HNO.out (by rw [HL.out]; exact ho), HB1⟩
        case measure => simp [intOf]; omega
      · go_wp2_with fail
        refine (HF.out x0 x1 x2 _ HB.out).mono ?_
        rintro e w1 ⟨rfl, hb1⟩
        rw [ho]
        go_wp2
        go_ret
        exact ⟨by rw [ixG_hit hkl HNO.out (by rw [HL.out]; exact ho)]; rfl, HB.out.trans (hb1.mono HB.out.size)⟩
    · obtain rfl : k = n := by omega
      go_wp2
      go_ret
      exact ⟨by have := HNO.out; rw [← HN.out, List.take_length] at this; rw [ixG_no this]; rfl, HB.out⟩

set_option maxHeartbeats 1000000 in
theorem hop_hasF (ao : Option Addr) (n cap : Nat) (f : FuncId) (c : Value) (P : (Int × Int) × Int → Bool) (L : List ((Int × Int) × Int)) (w : World) (hn : L.length = n) (hn2 : n ≤ maxLen) (ha : 0 < n → ∃ g o, ao = some ⟨g, o, none⟩ ∧ GAt hopE w g o L ∧ cap ≤ maxLen) (he : ∀ args w, (callFunc f args).run Tryz.prog w = .ok (.enter f args) w) (hf : hopAsks w f c P) :
    Calls Tryz.prog 140 #[.slice ao n cap, .func (Fn.func f) #[] #[c]] w fun e w' => e = .returned (.bool (L.any P)) ∧ Below w.heap.size w w' := by
  rw [← ixG_any]
  obtain ⟨x, hx⟩ : ∃ x, x = ixG P L := ⟨_, rfl⟩
  have HX : Hid (x = ixG P L) := hx
  rw [← hx]
  clear hx
  go_enter Tryz.func140, Tryz.ntmps140
  go_wp2_with fail
  refine (hop_idxF ao n cap f c P L _ hn hn2 ha he hf).mono ?_
  rintro e w1 ⟨rfl, hb1⟩
  rw [← HX.out]
  go_wp2
  go_ret
  exact ⟨rfl, hb1⟩

end Go.Proofs.YtglnnoglbieaeaaGreatDoor
/- What wish.Fits answers: a contract for the walks above it. -/
namespace Go.Proofs.YtglnnoglbieaeaaGreatDoor
open Go.RowKit
set_option linter.unusedSimpArgs false
set_option linter.unusedVariables false

set_option maxHeartbeats 1000000 in
set_option maxRecDepth 100000 in
theorem fits1_any (x y h : Int) (B : Nat) (v : Int) (w : World) (h0 : w.cell? ⟨B, 3, none⟩ = some (.int .i64 v)) :
    Calls Tryz.prog 141 #[.agg #[.int .i64 x, .int .i64 y, .int .i64 h], .pointer (some ⟨B, 0, none⟩)] w fun e w' => e = .returned (.bool (x == v)) ∧ Below w.heap.size w w' := by
  have hlt : B < w.heap.size := World.block_lt_of_cell? _ _ h0
  have HB0 : Hid (Below w.heap.size w (w.alloc (Obj.cells #[Value.int IntKind.i64 x, Value.int IntKind.i64 y, Value.int IntKind.i64 h] 74))) := (Below.refl _ _).alloc (Nat.le_refl _) _
  go_enter Tryz.func141, Tryz.ntmps141
  go_wp2
  go_ret
  exact ⟨rfl, HB0.out⟩
theorem fits1_asks (B : Nat) (v : Int) (w : World) (h0 : w.cell? ⟨B, 3, none⟩ = some (.int .i64 v)) : hopAsks w 141 (.pointer (some ⟨B, 0, none⟩)) (fun h => h.1.1 == v) :=
  fun x y h W hW => fits1_any x y h B v W (cell_later hW h0)
theorem fi_off {w : Wi} {m : ByteArray} {F : Int × ByteArray × List ((Int × Int) × Int)} (h : abW w m = false) : fiB w m F = true := by simp [fiB, h]
/-- The boxes: a wish, a fate. -/
structure GBox (w W : World) (k : Int) (f t : ByteArray) (v : Int) (a : Int) (b : ByteArray) (c : Value) : Prop where
  below : Below w.heap.size w W
  x : WiBox W w.heap.size k f t v
  y0 : W.cell? ⟨w.heap.size + 1, 0, none⟩ = some (.int .i64 a)
  y1 : W.cell? ⟨w.heap.size + 1, 1, none⟩ = some (.string b)
  y2 : W.cell? ⟨w.heap.size + 1, 2, none⟩ = some c
theorem gbox_new (w : World) (k : Int) (f t : ByteArray) (v : Int) (a : Int) (b : ByteArray) (c : Value) : GBox w ((w.alloc (Obj.cells #[.int .i64 k, .string f, .string t, .int .i64 v] 96)).alloc (Obj.cells #[.int .i64 a, .string b, c] 77)) k f t v a b c := by
  have e1 : (w.alloc (Obj.cells #[.int .i64 k, .string f, .string t, .int .i64 v] 96)).heap.size = w.heap.size + 1 := by simp
  have hb : ∀ (W : World) (o : Obj), Below W.heap.size W (W.alloc o) := fun W o => (Below.refl _ _).alloc (Nat.le_refl _) _
  have hn := (wibox_new w k f t v 96).later (hb _ (Obj.cells #[.int .i64 a, .string b, c] 77))
  have hB := ((Below.refl w.heap.size w).alloc (Nat.le_refl _) (Obj.cells #[.int .i64 k, .string f, .string t, .int .i64 v] 96)).alloc (by rw [e1]; omega) (Obj.cells #[.int .i64 a, .string b, c] 77)
  generalize w.alloc (Obj.cells #[.int .i64 k, .string f, .string t, .int .i64 v] 96) = X at e1 hn hB
  have hr := vat_new X [.int .i64 a, .string b, c] 77
  rw [e1] at hr
  exact ⟨hB, hn, hr 0 _ rfl, hr 1 _ rfl, hr 2 _ rfl⟩
theorem GBox.later {w W W' : World} {k : Int} {f t : ByteArray} {v : Int} {a : Int} {b : ByteArray} {c : Value} (h : GBox w W k f t v a b c) (hb : Below W.heap.size W W') : GBox w W' k f t v a b c :=
  ⟨h.below.trans (hb.mono h.below.size), h.x.later hb, cell_later hb h.y0, cell_later hb h.y1, cell_later hb h.y2⟩

set_option maxHeartbeats 4000000 in
set_option maxRecDepth 100000 in
theorem fits_any (k : Int) (f t : ByteArray) (v : Int) (m : ByteArray) (a : Int) (b : ByteArray) (ao : Option Addr) (n cap : Nat) (l : List ((Int × Int) × Int)) (w : World) (hl : GS hopE w (.slice ao n cap) l) :
    Calls Tryz.prog 106 #[.agg #[.int .i64 k, .string f, .string t, .int .i64 v], .string m, .agg #[.int .i64 a, .string b, .slice ao n cap]] w fun e w' => e = .returned (.bool (fiB ⟨k, f, t, v⟩ m (a, b, l))) ∧ Below w.heap.size w w' := by
  have hX := gbox_new w k f t v a b (.slice ao n cap)
  obtain ⟨w0, hw0⟩ : ∃ W, (w.alloc (Obj.cells #[.int .i64 k, .string f, .string t, .int .i64 v] 96)).alloc (Obj.cells #[.int .i64 a, .string b, .slice ao n cap] 77) = W := ⟨_, rfl⟩
  rw [hw0] at hX
  have HX : Hid (GBox w w0 k f t v a b (.slice ao n cap)) := hX
  have HW0 : Hid ((w.alloc (Obj.cells #[.int .i64 k, .string f, .string t, .int .i64 v] 96)).alloc (Obj.cells #[.int .i64 a, .string b, .slice ao n cap] 77) = w0) := hw0
  have HL : Hid (∀ W, Below w.heap.size w W → GS hopE W (.slice ao n cap) l) := fun W hb => hl.later hb
  obtain ⟨R, hR⟩ : ∃ R, R = fiB ⟨k, f, t, v⟩ m (a, b, l) := ⟨_, rfl⟩
  have HR : Hid (R = fiB ⟨k, f, t, v⟩ m (a, b, l)) := hR
  rw [← hR]
  obtain ⟨AB, hAB⟩ : ∃ q, q = abW ⟨k, f, t, v⟩ m := ⟨_, rfl⟩
  have HAB : Hid (AB = abW ⟨k, f, t, v⟩ m) := hAB
  clear hX hw0 hl hR hAB
  go_enter Tryz.func106, Tryz.ntmps106
  go_upto_region 1 with fail
  rw [HW0.out]
  obtain ⟨_, ⟨x0, x1, x2, x3⟩, y0, y1, y2⟩ := HX.out
  clear HW0
  go_wp2_with fail
  refine (isAbout_any k f t v m _).mono ?_
  rintro e w1 ⟨rfl, hb1⟩
  rw [← HAB.out]
  have HX1 : Hid (GBox w w1 k f t v a b (.slice ao n cap)) := HX.out.later hb1
  clear hb1 HX x0 x1 x2 x3 y0 y1 y2
  obtain ⟨hB1, ⟨x0, x1, x2, x3⟩, y0, y1, y2⟩ := HX1.out
  have HB1 : Hid (Below w.heap.size w w1) := hB1
  clear hB1
  cases AB with
  | false =>
    have HR1 : Hid (R = true) := by
      show _ = _
      rw [HR.out, fi_off HAB.out.symm]
    go_wp2
    go_ret
    exact ⟨by rw [HR1.out]; rfl, HB1.out⟩
  | true =>
    obtain ⟨TH, hTH⟩ : ∃ q, q = (a == 1 && b.toList == t.toList) := ⟨_, rfl⟩
    have hTW : thW ⟨k, f, t, v⟩ (a, b, l) = TH := by rw [hTH, thW, ← beq_toListBytes]
    have HR1 : Hid (R = if k = 1 then TH else if k = 2 then !TH else if k = 3 then (!TH || haW v l) else if k = 4 then !(a == 4) else true) := by
      show _ = _
      rw [HR.out, fiB, if_pos HAB.out.symm, hTW]
    have HTH : Hid ((a == 1 && b.toList == t.toList) = TH) := hTH.symm
    clear hTH hTW HR HAB
    go_upto_region 3 with fail
    go_cut [7] from 12 to 22 (fun q w' => q = .bool TH ∧ w' = w1)
    case first =>
      by_cases a1 : a = 1
      · subst a1
        have h2 := HTH.out
        rw [show ((1 : Int) == 1 && b.toList == t.toList) = (b.toList == t.toList) from rfl] at h2
        go_wp2_with fail
        go_meet
        exact ⟨by rw [← h2], rfl⟩
      · have h2 := HTH.out
        rw [show (a == 1) = false from by simp [a1], Bool.false_and] at h2
        subst h2
        go_wp2_with fail
        go_meet
        exact ⟨rfl, rfl⟩
    case rest =>
    obtain ⟨rfl, hwc⟩ := hcut
    subst hwc
    by_cases k1 : k = 1
    · subst k1
      have HR2 : Hid (R = TH) := by
        show _ = _
        rw [HR1.out, if_pos rfl]
      clear HR1
      go_wp2
      go_ret
      exact ⟨by rw [HR2.out]; rfl, HB1.out⟩
    · by_cases k2 : k = 2
      · subst k2
        have HR2 : Hid (R = !TH) := by
          show _ = _
          rw [HR1.out, if_neg (by decide), if_pos rfl]
        clear HR1
        go_wp2
        go_ret
        exact ⟨by rw [HR2.out]; rfl, HB1.out⟩
      · by_cases k3 : k = 3
        · subst k3
          have HR2 : Hid (R = (!TH || haW v l)) := by
            show _ = _
            rw [HR1.out, if_neg (by decide), if_neg (by decide), if_pos rfl]
          clear HR1
          cases TH with
          | false =>
            go_wp2
            go_ret
            exact ⟨by rw [HR2.out]; rfl, HB1.out⟩
          | true =>
            obtain ⟨_, _, _, e5, hGn, hGm, _, hGa⟩ := (HL.out _ HB1.out).form
            cases e5
            have HGN : Hid (l.length = n) := hGn
            have HGM : Hid (n ≤ maxLen) := hGm
            have HGA : Hid (0 < n → ∃ g o, ao = some ⟨g, o, none⟩ ∧ GAt hopE wc g o l ∧ cap ≤ maxLen) := hGa
            clear hGn hGm hGa
            go_wp2_with fail
            refine (hop_hasF ao n cap _ _ (fun h => h.1.1 == v) l _ HGN.out HGM.out HGA.out (enters_of Tryz.func141 (by kernel_rfl) rfl) (fits1_asks _ v _ HX1.out.x.2.2.2)).mono ?_
            rintro e w2 ⟨rfl, hb2⟩
            rw [show (l.any fun h => h.1.1 == v) = haW v l from rfl]
            have HB2 : Hid (Below w.heap.size w w2) := HB1.out.trans (hb2.mono HB1.out.size)
            clear hb2
            go_wp2
            go_ret
            exact ⟨by rw [HR2.out]; rfl, HB2.out⟩
        · by_cases k4 : k = 4
          · subst k4
            have HR2 : Hid (R = !(a == 4)) := by
              show _ = _
              rw [HR1.out, if_neg (by decide), if_neg (by decide), if_neg (by decide), if_pos rfl]
            clear HR1
            go_wp2
            go_ret
            exact ⟨by rw [HR2.out]; rfl, HB1.out⟩
          · have HR2 : Hid (R = true) := by
              show _ = _
              rw [HR1.out, if_neg k1, if_neg k2, if_neg k3, if_neg k4]
            clear HR1
            go_wp2
            go_ret
            exact ⟨by rw [HR2.out]; rfl, HB1.out⟩
end Go.Proofs.YtglnnoglbieaeaaGreatDoor
/- Which wish is broken first, host by host and header by header, as the program looks for it: plain lists. No program in it. -/
namespace Go.Proofs.YtglnnoglbieaeaaGreatDoor
open Go.RowKit
set_option linter.unusedVariables false
set_option linter.unusedSimpArgs false

abbrev Ft := Int × ByteArray × List ((Int × Int) × Int)
theorem ixG_cases {α : Type} (f : α → Bool) (L : List α) : (ixG f L = -1 ∧ L.any f = false) ∨ ∃ k : Nat, ∃ h : k < L.length, ixG f L = (k : Int) ∧ f L[k] = true ∧ ∀ j, (hj : j < k) → f (L[j]'(by omega)) = false := by
  cases e : L.any f with
  | false => exact .inl ⟨ixG_no e, rfl⟩
  | true =>
    have hx : L.findIdx f < L.length := by
      rw [List.any_eq_true] at e
      obtain ⟨x, hx, hf⟩ := e
      exact List.findIdx_lt_length_of_exists ⟨x, hx, hf⟩
    refine .inr ⟨L.findIdx f, hx, by simp [ixG, e], List.findIdx_getElem, fun j hj => ?_⟩
    have := List.not_of_lt_findIdx hj
    simpa using this
/-- How many wishes hold behind one more fate. -/
def hwS (l : List Wi) (m : ByteArray) (F : Ft) (n : Nat) : Nat :=
  if ixG (fun w => !fiB w m F) (l.take n) < 0 then n else (ixG (fun w => !fiB w m F) (l.take n)).toNat
/-- How many hold behind the first k fates. -/
def hwTo (l : List Wi) (m : ByteArray) (L : List Ft) : Nat → Nat
  | 0 => l.length
  | k + 1 => hwS l m (L.getD k (0, ByteArray.empty, [])) (hwTo l m L k)
def hwN (l : List Wi) (m : ByteArray) (L : List Ft) : Nat := hwTo l m L L.length
section
variable {l : List Wi} {m : ByteArray}
theorem hwS_le (F : Ft) (n : Nat) : hwS l m F n ≤ n := by
  unfold hwS
  split
  · omega
  · next h =>
    rcases ixG_cases (fun w => !fiB w m F) (l.take n) with ⟨e, _⟩ | ⟨k, hk, e, _⟩
    · omega
    · rw [e]
      rw [List.length_take] at hk
      simp
      omega
theorem hwS_lt {F : Ft} {n i : Nat} (hn : n ≤ l.length) (hi : i < hwS l m F n) : fiB (l.getD i zeW) m F = true := by
  have hin : i < n := Nat.lt_of_lt_of_le hi (hwS_le F n)
  have hil : i < l.length := by omega
  rw [getW hil]
  unfold hwS at hi
  rcases ixG_cases (fun w => !fiB w m F) (l.take n) with ⟨e, h⟩ | ⟨k, hk, e, _, h⟩
  · rw [List.any_eq_false] at h
    have := h l[i] (List.mem_take_iff_getElem.2 ⟨i, by omega, rfl⟩)
    simpa using this
  · rw [e, if_neg (by omega)] at hi
    have := h i (by simpa using hi)
    simpa using this
theorem hwS_at {F : Ft} {n : Nat} (hn : n ≤ l.length) (h0 : hwS l m F n < n) : fiB (l.getD (hwS l m F n) zeW) m F = false := by
  have hil : hwS l m F n < l.length := by omega
  rw [getW hil]
  rcases ixG_cases (fun w => !fiB w m F) (l.take n) with ⟨e, h⟩ | ⟨k, hk, e, h, _⟩
  · have e1 : hwS l m F n = n := by rw [hwS, e, if_pos (by omega)]
    omega
  · have e1 : hwS l m F n = k := by
      rw [hwS, e, if_neg (by omega)]
      simp
    simp only [e1]
    simpa using h
theorem hwTo_le (L : List Ft) : ∀ k, hwTo l m L k ≤ l.length
  | 0 => Nat.le_refl _
  | k + 1 => Nat.le_trans (hwS_le _ _) (hwTo_le L k)
theorem hwTo_mono (L : List Ft) (k : Nat) : hwTo l m L (k + 1) ≤ hwTo l m L k := hwS_le _ _
theorem hwTo_zero {L : List Ft} {k : Nat} (h : hwTo l m L k = 0) : ∀ {n : Nat}, k ≤ n → hwTo l m L n = 0
  | 0, hn => by
    obtain rfl : k = 0 := by omega
    exact h
  | n + 1, hn => by
    by_cases e : k = n + 1
    · subst e; exact h
    · have := hwTo_zero h (show k ≤ n by omega)
      have h2 := hwTo_mono (l := l) (m := m) L n
      omega
theorem hwTo_lt {L : List Ft} : ∀ {k i : Nat}, i < hwTo l m L k → ∀ j, j < k → fiB (l.getD i zeW) m (L.getD j (0, ByteArray.empty, [])) = true
  | 0, i, _, j, hj => by omega
  | k + 1, i, hi, j, hj => by
    by_cases e : j = k
    · subst e
      exact hwS_lt (hwTo_le L _) hi
    · exact hwTo_lt (Nat.lt_of_lt_of_le hi (hwTo_mono L k)) j (by omega)
theorem hwTo_at {L : List Ft} : ∀ {k : Nat}, hwTo l m L k < l.length → ∃ j, j < k ∧ fiB (l.getD (hwTo l m L k) zeW) m (L.getD j (0, ByteArray.empty, [])) = false
  | 0, h => by
    have : hwTo l m L 0 = l.length := rfl
    omega
  | k + 1, h => by
    by_cases e : hwTo l m L (k + 1) < hwTo l m L k
    · exact ⟨k, by omega, hwS_at (hwTo_le L k) e⟩
    · have e2 : hwTo l m L (k + 1) = hwTo l m L k := by
        have := hwTo_mono (l := l) (m := m) L k
        omega
      rw [e2] at h ⊢
      obtain ⟨j, hj, hb⟩ := hwTo_at h
      exact ⟨j, by omega, hb⟩
/-- Does one of these break a wish? -/
def badF (w : Wi) (m : ByteArray) (L : List Ft) : Bool := L.any fun F => !fiB w m F
theorem hwN_lt {L : List Ft} {i : Nat} (h : i < hwN l m L) : badF (l.getD i zeW) m L = false := by
  unfold badF
  rw [List.any_eq_false]
  intro F hF
  obtain ⟨j, hj, rfl⟩ := List.getElem_of_mem hF
  have := hwTo_lt h j hj
  rw [show L.getD j (0, ByteArray.empty, []) = L[j] by simp [List.getD, hj]] at this
  rw [this]
  decide
theorem hwN_at {L : List Ft} (h : hwN l m L < l.length) : badF (l.getD (hwN l m L) zeW) m L = true := by
  obtain ⟨j, hj, hb⟩ := hwTo_at h
  unfold badF
  rw [List.any_eq_true]
  refine ⟨L[j], List.getElem_mem hj, ?_⟩
  rw [show L.getD j (0, ByteArray.empty, []) = L[j] by simp [List.getD, hj]] at hb
  rw [hwN, hb]
  rfl
theorem hwN_le (L : List Ft) : hwN l m L ≤ l.length := hwTo_le L _
end
theorem take_getW {l : List Wi} {n i : Nat} (hi : i < n) : (l.take n).getD i zeW = l.getD i zeW := by
  simp [List.getD, List.getElem?_take, hi]

/-- What is so behind the first z hosts, and h headers of the next one: so many wishes hold still; the next one is broken by what is told. -/
structure Fb (l : List Wi) (Hs : List (ByteArray × (Int × Int))) (Fs : Nat → Nat → List Ft) (z h : Nat) (held : Nat) (p : Int × ByteArray × Int) : Prop where
  le : held ≤ l.length
  ok : ∀ i, i < held → ∀ z' h', h' < 16 → (z' < z ∨ z' = z ∧ h' < h) → badF (l.getD i zeW) (Hs.getD z' zeO).1 (Fs z' h') = false
  no : held = l.length → p = (0, ByteArray.empty, 0)
  tell : held < l.length → ∃ z₁ h₁, h₁ < 16 ∧ (z₁ < z ∨ z₁ = z ∧ h₁ < h) ∧ z₁ < Hs.length ∧ p = ((held : Int), (Hs.getD z₁ zeO).1, (h₁ : Int)) ∧ badF (l.getD held zeW) (Hs.getD z₁ zeO).1 (Fs z₁ h₁) = true ∧ ∀ z' h', h' < 16 → (z' < z₁ ∨ z' = z₁ ∧ h' < h₁) → badF (l.getD held zeW) (Hs.getD z' zeO).1 (Fs z' h') = false
section
variable {l : List Wi} {Hs : List (ByteArray × (Int × Int))} {Fs : Nat → Nat → List Ft}
theorem fb_0 : Fb l Hs Fs 0 0 l.length (0, ByteArray.empty, 0) := ⟨Nat.le_refl _, fun _ _ z' h' _ h => by omega, fun _ => rfl, fun h => absurd h (Nat.lt_irrefl _)⟩
theorem Fb.host {z held : Nat} {p : Int × ByteArray × Int} (f : Fb l Hs Fs z 16 held p) : Fb l Hs Fs (z + 1) 0 held p :=
  ⟨f.le, fun i hi z' h' h16 h => f.ok i hi z' h' h16 (by omega), f.no, fun h => by
    obtain ⟨z₁, h₁, a, b, c⟩ := f.tell h
    exact ⟨z₁, h₁, a, by omega, c⟩⟩
/-- One more header, of which nothing is broken. -/
theorem Fb.same {z h held : Nat} {p : Int × ByteArray × Int} (f : Fb l Hs Fs z h held p) (hn : ¬ hwN (l.take held) (Hs.getD z zeO).1 (Fs z h) < held) : Fb l Hs Fs z (h + 1) held p := by
  have hlen : (l.take held).length = held := by rw [List.length_take]; have := f.le; omega
  have he : hwN (l.take held) (Hs.getD z zeO).1 (Fs z h) = held := by
    have := hwN_le (l := l.take held) (m := (Hs.getD z zeO).1) (Fs z h)
    omega
  refine ⟨f.le, fun i hi z' h' h16 hh => ?_, f.no, fun hl => ?_⟩
  · by_cases e : z' = z ∧ h' = h
    · obtain ⟨rfl, rfl⟩ := e
      have := hwN_lt (l := l.take held) (m := (Hs.getD z' zeO).1) (L := Fs z' h') (i := i) (by rw [he]; exact hi)
      rwa [take_getW hi] at this
    · exact f.ok i hi z' h' h16 (by omega)
  · obtain ⟨z₁, h₁, a, b, c⟩ := f.tell hl
    exact ⟨z₁, h₁, a, by omega, c⟩
/-- One more header, of which something is broken. -/
theorem Fb.less {z h held n : Nat} {p : Int × ByteArray × Int} (f : Fb l Hs Fs z h held p) (h16 : h < 16) (hz : z < Hs.length) (hn : hwN (l.take held) (Hs.getD z zeO).1 (Fs z h) = n) (hlt : n < held) : Fb l Hs Fs z (h + 1) n ((n : Int), (Hs.getD z zeO).1, (h : Int)) := by
  have hle := f.le
  have hlen : (l.take held).length = held := by rw [List.length_take]; omega
  have hb : badF (l.getD n zeW) (Hs.getD z zeO).1 (Fs z h) = true := by
    have := hwN_at (l := l.take held) (m := (Hs.getD z zeO).1) (L := Fs z h) (by rw [hn, hlen]; exact hlt)
    rwa [hn, take_getW hlt] at this
  refine ⟨by omega, fun i hi z' h' h16' hh => ?_, fun e => by omega, fun _ => ⟨z, h, h16, by omega, hz, rfl, hb, fun z' h' h16' hh => f.ok n hlt z' h' h16' hh⟩⟩
  by_cases e : z' = z ∧ h' = h
  · obtain ⟨rfl, rfl⟩ := e
    have := hwN_lt (l := l.take held) (m := (Hs.getD z' zeO).1) (L := Fs z' h') (i := i) (by rw [hn]; exact hi)
    rwa [take_getW (by omega)] at this
  · exact f.ok i (by omega) z' h' h16' (by omega)
/-- Where no wish is about the host nothing is broken. -/
theorem bad_off {w : Wi} {m : ByteArray} (h : abW w m = false) (L : List Ft) : badF w m L = false := by
  unfold badF
  rw [List.any_eq_false]
  intro F _
  simp [fiB, h]
theorem Fb.off {z h held : Nat} {p : Int × ByteArray × Int} (f : Fb l Hs Fs z h held p) (ho : (l.take held).any (fun w => abW w (Hs.getD z zeO).1) = false) : Fb l Hs Fs (z + 1) 0 held p := by
  refine ⟨f.le, fun i hi z' h' h16 hh => ?_, f.no, fun hl => ?_⟩
  · by_cases e : z' = z
    · subst e
      refine bad_off ?_ _
      rw [List.any_eq_false] at ho
      have hil : i < l.length := by have := f.le; omega
      have := ho l[i] (List.mem_take_iff_getElem.2 ⟨i, by omega, rfl⟩)
      rw [getW hil]
      simpa using this
    · exact f.ok i hi z' h' h16 (by omega)
  · obtain ⟨z₁, h₁, a, b, c⟩ := f.tell hl
    exact ⟨z₁, h₁, a, by omega, c⟩
end

section
variable {Ls : List ((Int × Int) × (Int × Int))} {Hs : List (ByteArray × (Int × Int))} {Ts : List (List Ru)} {Xs : List (ByteArray × (Int × Int))} {l : List Wi}
theorem brH_neg {w : Wi} {x : ByteArray × (Int × Int)} : ∀ {k : Nat}, (∀ j, j < k → brB Ls Hs Ts w x (j : Int) = false) → brH Ls Hs Ts w x k < 0
  | 0, _ => by simp [brH]
  | k + 1, h => brH_no (brH_neg (fun j hj => h j (by omega))) (h k (by omega))
theorem brX_neg {w : Wi} : ∀ {k : Nat}, (∀ j, j < k → ∀ h : Nat, h < 16 → brB Ls Hs Ts w (Xs.getD j zeO) (h : Int) = false) → brX Ls Hs Ts w Xs k = none
  | 0, _ => rfl
  | k + 1, h => by
    rw [brX, brX_neg (fun j hj => h j (by omega))]
    simp only
    rw [if_neg]
    have := brH_neg (Ls := Ls) (Hs := Hs) (Ts := Ts) (w := w) (x := Xs.getD k zeO) (k := 16) (fun j hj => h k (by omega) j hj)
    omega
theorem brW_neg : ∀ {k : Nat}, (∀ i, i < k → ∀ j, j < Xs.length → ∀ h : Nat, h < 16 → brB Ls Hs Ts (l.getD i zeW) (Xs.getD j zeO) (h : Int) = false) → brW Ls Hs Ts l Xs k = none
  | 0, _ => rfl
  | k + 1, h => by
    rw [brW, brW_neg (fun i hi => h i (by omega))]
    simp only
    rw [brX_neg (h k (by omega))]
/-- What the program finds is what the document asks. -/
theorem fb_br {held : Nat} {p : Int × ByteArray × Int} (f : Fb l Hs (fun z h => [frF Ls Hs Ts (Hs.getD z zeO).2 (h : Int)]) Hs.length 0 held p) : (brW Ls Hs Ts l Hs l.length).isSome = decide (held < l.length) ∧ prV Hs (brW Ls Hs Ts l Hs l.length) = p := by
  have hb : ∀ w z (h : Nat), badF w (Hs.getD z zeO).1 [frF Ls Hs Ts (Hs.getD z zeO).2 (h : Int)] = brB Ls Hs Ts w (Hs.getD z zeO) (h : Int) := fun w z h => by simp [badF, brB]
  by_cases hl : held < l.length
  · obtain ⟨z, h, h16, hzh, hz, rfl, hbad, hno⟩ := f.tell hl
    have e1 : brH Ls Hs Ts l[held] Hs[z] 16 = (h : Int) := by
      refine brH_yes h16 (brH_neg fun j hj => ?_) ?_
      · have := hno z j (by omega) (.inr ⟨rfl, hj⟩)
        rw [hb, getW hl, getO hz] at this
        exact this
      · rw [hb, getW hl, getO hz] at hbad
        exact hbad
    have e2 : brX Ls Hs Ts l[held] Hs Hs.length = some (z, (h : Int)) := by
      rw [brX_yes hz (brX_neg fun j hj h' hh' => ?_) (by rw [e1]; omega), e1]
      have := hno j h' hh' (.inl hj)
      rw [hb, getW hl] at this
      exact this
    have e3 := brW_yes hl (brW_neg (Ls := Ls) (Hs := Hs) (Ts := Ts) (Xs := Hs) fun i hi j hj h' hh' => by
      have := f.ok i hi j h' hh' (.inl hj)
      rw [hb] at this
      exact this) e2
    rw [e3]
    exact ⟨by simp [hl], rfl⟩
  · have he : held = l.length := by have := f.le; omega
    have e3 : brW Ls Hs Ts l Hs l.length = none := brW_neg fun i hi j hj h' hh' => by
      have := f.ok i (by omega) j h' hh' (.inl hj)
      rw [hb] at this
      exact this
    rw [e3, f.no he]
    exact ⟨by simp [hl], rfl⟩
end
end Go.Proofs.YtglnnoglbieaeaaGreatDoor
/- What package slices answers at slices of api.Wish. Written by mk/slices.py. -/
namespace Go.Proofs.YtglnnoglbieaeaaGreatDoor
open Go.RowKit
set_option linter.unusedSimpArgs false
set_option linter.unusedVariables false

/-- A closure that asks something, in whatever world behind this one. -/
def wi2Asks (w : World) (f : FuncId) (c0 c1 : Value) (P : Wi → Bool) : Prop :=
  ∀ (x0 : Int) (x1 : ByteArray) (x2 : ByteArray) (x3 : Int) (W : World), Below w.heap.size w W → Calls Tryz.prog f #[.agg #[.int .i64 x0, .string x1, .string x2, .int .i64 x3], c0, c1] W fun e w' => e = .returned (.bool (P ⟨x0, x1, x2, x3⟩)) ∧ Below W.heap.size W w'
theorem wi2Asks.later {w w' : World} {f : FuncId} {c0 c1 : Value} {P : Wi → Bool} (h : wi2Asks w f c0 c1 P) (hb : Below w.heap.size w w') : wi2Asks w' f c0 c1 P :=
  fun x0 x1 x2 x3 W hW => h x0 x1 x2 x3 W (hb.trans (hW.mono hb.size))

set_option maxHeartbeats 1000000 in
theorem wi2_idxF (ao : Option Addr) (n cap : Nat) (f : FuncId) (c0 c1 : Value) (P : Wi → Bool) (L : List (Wi)) (w : World) (hn : L.length = n) (hn2 : n ≤ maxLen) (ha : 0 < n → ∃ g o, ao = some ⟨g, o, none⟩ ∧ GAt wisE w g o L ∧ cap ≤ maxLen) (he : ∀ args w, (callFunc f args).run Tryz.prog w = .ok (.enter f args) w) (hf : wi2Asks w f c0 c1 P) :
    Calls Tryz.prog 104 #[.slice ao n cap, .func (Fn.func f) #[] #[c0, c1]] w fun e w' => e = .returned (.int .i64 (ixG P L)) ∧ Below w.heap.size w w' := by
  have HN : Hid (L.length = n) := hn
  have HF : Hid (wi2Asks w f c0 c1 P) := hf
  have HA : Hid (0 < n → ∃ g o, ao = some ⟨g, o, none⟩ ∧ GAt wisE w g o L ∧ cap ≤ maxLen) := ha
  unfold maxLen at hn2
  clear hn hf ha
  go_enter Tryz.func104, Tryz.ntmps104
  go_wp2
  go_loopw [8] (fun i wr => ∃ k : Nat, k ≤ n ∧ i = .int .i64 k ∧ (L.take k).any P = false ∧ Below w.heap.size w wr)
    (fun i _ => n - (intOf i).toNat)
  case atStart => exact ⟨0, by omega, rfl, by simp, Below.refl _ _⟩
  case round =>
    obtain ⟨k, hk, rfl, hno, hB⟩ := hrel
    have HB : Hid (Below w.heap.size w wr) := hB
    have HNO : Hid ((L.take k).any P = false) := hno
    clear hno
    by_cases hlt : k < n
    · obtain ⟨g, o, hao, hc, _⟩ := HA.out (by omega)
      subst hao
      obtain ⟨x0, x1, x2, x3, hkl, hL, q0, q1, q2, q3⟩ := wis_at (hc.later hB) HN.out hlt
      have HL : Hid (L[k] = ⟨x0, x1, x2, x3⟩) := hL
      clear hL hB
      cases ho : P ⟨x0, x1, x2, x3⟩
      · go_wp2_with fail
        refine (HF.out x0 x1 x2 x3 _ HB.out).mono ?_
        rintro e w1 ⟨rfl, hb1⟩
        rw [ho]
        have HB1 := HB.out.trans (hb1.mono HB.out.size)
        clear hb1
        go_wp2
        go_roundw
        case rel => exact ⟨k + 1, by omega, by go_num, any_nextG hkl HNO.out (by rw [HL.out]; exact ho), HB1⟩
        case measure => simp [intOf]; omega
      · go_wp2_with fail
        refine (HF.out x0 x1 x2 x3 _ HB.out).mono ?_
        rintro e w1 ⟨rfl, hb1⟩
        rw [ho]
        go_wp2
        go_ret
        exact ⟨by rw [ixG_hit hkl HNO.out (by rw [HL.out]; exact ho)]; rfl, HB.out.trans (hb1.mono HB.out.size)⟩
    · obtain rfl : k = n := by omega
      go_wp2
      go_ret
      exact ⟨by have := HNO.out; rw [← HN.out, List.take_length] at this; rw [ixG_no this]; rfl, HB.out⟩

end Go.Proofs.YtglnnoglbieaeaaGreatDoor
/- A range over a function whose iterator has memory of its own, at the wide fence. No program in it. -/
namespace Go.Proofs.YtglnnoglbieaeaaGreatDoor
open Go.RowKit Go.Shelf
set_option linter.unusedVariables false

/-- Of the blocks that were there, these are as they were. -/
structure Kb (p : Nat → Prop) (w w' : World) : Prop where
  os : w'.os = w.os
  tape : w'.tape = w.tape
  output : w'.output = w.output
  size : w.heap.size ≤ w'.heap.size
  block : ∀ k, k < w.heap.size → p k → w'.heap[k]? = w.heap[k]?
theorem Kb.refl (p : Nat → Prop) (w : World) : Kb p w w := ⟨rfl, rfl, rfl, Nat.le_refl _, fun _ _ _ => rfl⟩
theorem Kb.trans {p : Nat → Prop} {a b c : World} (h : Kb p a b) (k : Kb p b c) : Kb p a c :=
  ⟨k.os.trans h.os, k.tape.trans h.tape, k.output.trans h.output, Nat.le_trans h.size k.size, fun i hi hx => (k.block i (Nat.lt_of_lt_of_le hi h.size) hx).trans (h.block i hi hx)⟩
theorem Kb.mono {p q : Nat → Prop} {w w' : World} (h : Kb p w w') (hq : ∀ b, b < w.heap.size → q b → p b) : Kb q w w' := ⟨h.os, h.tape, h.output, h.size, fun k hk hx => h.block k hk (hq k hk hx)⟩
theorem Kb.of_below {p : Nat → Prop} {n₀ : Nat} {w w' : World} (h : Below n₀ w w') (hp : ∀ b, b < w.heap.size → p b → b < n₀) : Kb p w w' := ⟨h.os, h.tape, h.output, h.size, fun k hk hx => h.block k (hp k hk hx)⟩
theorem Kb.below {p : Nat → Prop} {n₀ : Nat} {w w' : World} (h : Kb p w w') (hn : n₀ ≤ w.heap.size) (hp : ∀ b, b < n₀ → p b) : Below n₀ w w' := ⟨h.os, h.tape, h.output, h.size, fun k hk => h.block k (by omega) (hp k hk)⟩
theorem Kb.drew {p : Nat → Prop} {a w : World} (h : Kb p a w) : Kb p a w.drew := ⟨h.os, h.tape, h.output, h.size, h.block⟩
theorem Kb.alloc {p : Nat → Prop} {a w : World} (h : Kb p a w) (o : Obj) : Kb p a (w.alloc o) :=
  h.trans (Kb.of_below ((Below.refl w.heap.size w).alloc (Nat.le_refl _) o) (fun b hb _ => hb))
theorem Kb.setCell {p : Nat → Prop} {a w : World} (h : Kb p a w) {q : Addr} (hq : q.block < a.heap.size → ¬ p q.block) (v : Value) : Kb p a (w.setCell q v) := by
  refine ⟨h.os, h.tape, h.output, ?_, fun k hk hx => (Below.heap_setCell w q v k ?_).trans (h.block k hk hx)⟩
  · show a.heap.size ≤ (w.heap.modify _ _).size
    rw [Array.size_modify]
    exact h.size
  · intro e
    subst e
    exact hq hk hx
theorem Kb.putObj {p : Nat → Prop} {a w : World} (h : Kb p a w) {l : Nat} (hl : l < a.heap.size → ¬ p l) (o : Obj) : Kb p a (w.putObj l o) := by
  have hg := grownBy_putObj' w l o
  refine ⟨hg.os.trans h.os, hg.tape.trans h.tape, hg.output.trans h.output, Nat.le_trans h.size hg.size, fun k hk hx => (hg.block k (Nat.lt_of_lt_of_le hk h.size) (fun e => ?_)).trans (h.block k hk hx)⟩
  cases e
  exact hl hk hx
theorem Kb.grown {p : Nat → Prop} {a w w' : World} {row : Option Nat} (h : Kb p a w) (hg : w.grownBy w' row) (hr : ∀ r, row = some r → r < a.heap.size → ¬ p r) : Kb p a w' :=
  ⟨hg.os.trans h.os, hg.tape.trans h.tape, hg.output.trans h.output, Nat.le_trans h.size hg.size, fun k hk hx => (hg.block k (Nat.lt_of_lt_of_le hk h.size) (fun e => hr k e.symm hk hx)).trans (h.block k hk hx)⟩
theorem Kb.cell {p : Nat → Prop} {w w' : World} (h : Kb p w w') {q : Addr} (hl : q.block < w.heap.size) (hp : p q.block) : w'.cell? q = w.cell? q := World.cell?_of_block (w := w) (h.block q.block hl hp)
theorem Kb.at {p : Nat → Prop} {w w' : World} (h : Kb p w w') {q : Addr} {v : Value} (hc : w.cell? q = some v) (hp : p q.block) : w'.cell? q = some v := (h.cell (World.block_lt_of_cell? _ _ hc) hp).trans hc
theorem Kb.frozen {p : Nat → Prop} {w w' : World} (h : Kb p w w') {q : Addr} (hl : q.block < w.heap.size) (hp : p q.block) : w'.frozen? q = w.frozen? q := by
  simp only [World.frozen?, h.block q.block hl hp]
theorem Kb.boxed {p : Nat → Prop} {w w' : World} (h : Kb p w w') {b : Nat} {t : TypeId} {v : Value} (hb : Boxed w b t v) (hp : p b) : Boxed w' b t v := (h.block b hb.lt hp).trans hb

theorem room_none (k : Nat) : Fence.wide.room k := room_wide k
theorem round_any {m m' : Nat} {P : Program} {l : Nat} {f : FuncId} {tmps : Array Value} {assign body : Code} {w : World} {R : Ending → World → Prop} (h : RoundIn Fence.wide m P l f tmps assign body w R) : RoundIn Fence.wide m' P l f tmps assign body w R := ⟨h.1, fun c cs _ => h.2 c cs (room_none _)⟩
theorem yield_any {m m' : Nat} {P : Program} {l : Nat} {args : Array Value} {W : World} {R : Ending → World → Prop} (h : YieldAt Fence.wide m P l args W R) : YieldAt Fence.wide m' P l args W R := by
  obtain ⟨fn, tmps, assign, body, hy, hR⟩ := h
  exact ⟨fn, tmps, assign, body, hy, round_any hR⟩

/-- What an iterator value promises: these come, one by one, from whatever world that has what lay below n₀. X: what the caller has of its own, of blocks laid since; Y: what the iterator has. -/
def ItF {α : Type} (P : Program) (g : Nat) (lb : Array Value) (Vl : World → Array Value → α → Prop) (n₀ : Nat) (L : List α) (w : World) : Prop :=
  ∀ (l : Nat) (J : Nat → (Nat → Prop) → World → Prop) (Jx : World → Prop) (W : World), Below n₀ w W → n₀ ≤ W.heap.size →
    J 0 (fun _ => False) W →
    (∀ k X A, J k X A → ∀ b, X b → b < A.heap.size) →
    (∀ k X A A', J k X A → Kb (fun b => b < W.heap.size ∨ X b) A A' → J k X A') →
    (∀ A A', Jx A → Kb (fun _ => True) A A' → Jx A') →
    (∀ k X A args x (Y : Nat → Prop), J k X A → L[k]? = some x → Vl A args x → W.heap.size ≤ A.heap.size → (∀ b, Y b → W.heap.size ≤ b ∧ ¬ X b) → YieldAt Fence.wide 0 P l args A fun e A' =>
      (e = .returned (.bool true) ∧ (∃ X', J (k + 1) X' A' ∧ ∀ b, X' b → X b ∨ A.heap.size ≤ b) ∧ Kb (fun b => b < n₀ ∨ Y b) A A') ∨ (e = .returned (.bool false) ∧ Jx A' ∧ Kb (fun b => b < n₀ ∨ Y b) A A')) →
    Calls P g (#[.func (.yield l) #[] #[]] ++ lb) W fun e W' => (∃ v, e = .returned v) ∧ ((∃ X, J L.length X W') ∨ Jx W')
theorem ItF.later {α : Type} {P : Program} {g : Nat} {lb : Array Value} {Vl : World → Array Value → α → Prop} {n₀ : Nat} {L : List α} {w w' : World} (h : ItF P g lb Vl n₀ L w) (hb : Below n₀ w w') : ItF P g lb Vl n₀ L w' :=
  fun l J Jx W hW hn h1 h2 h3 h4 h5 => h l J Jx W (hb.trans hW) hn h1 h2 h3 h4 h5

/-- How the body of a round may be left. -/
def itPost (p : Nat → Prop) (I : World → Prop) (Ix : Code → World → Prop) (W : World) : Exit → Act → World → Prop
  | .normal, _, W' => Kb p W W' ∧ I W'
  | .ret, _, W' => Kb p W W' ∧ Ix .ret W'
  | .exit id, _, W' => Kb p W W' ∧ Ix (.exit id) W'
  | .goto t, _, W' => Kb p W W' ∧ Ix (.goto t) W'
  | .panic _, _, _ => False
  | .outgrown, _, _ => False

set_option maxHeartbeats 1000000 in
theorem wpIn_rangeFunc_it {P : Program} {n : Nat} {α : Type} {g : Operand} {ps : Array Tmp} {assign body : Code} {Q : Exit → Act → World → Prop} {a : Act} {w : World}
    (h1 : 1 ≤ n) {gf : Nat} {lb : Array Value} (hg : a.eval g = .func (.func gf) #[] lb) (eg : ∀ args w, (callFunc gf args).run P w = .ok (.enter gf args) w)
    {Vl : World → Array Value → α → Prop} {n₀ : Nat} {L : List α} {w0 : World} (hseq : ItF P gf lb Vl n₀ L w0) (hb0 : Below n₀ w0 w) (hn₀ : n₀ ≤ w.heap.size) (hps : ∀ A args x, Vl A args x → args.size = ps.size)
    (I : Nat → (Nat → Prop) → World → Prop) (Ix : Code → World → Prop)
    (hlt : ∀ k X A, I k X A → ∀ b, X b → w.heap.size + 2 ≤ b ∧ b < A.heap.size)
    (hI : ∀ k X A A', I k X A → Kb (fun b => b < w.heap.size ∨ X b) A A' → I k X A')
    (hIx : ∀ c A A', Ix c A → Kb (fun b => b < w.heap.size ∨ w.heap.size + 2 ≤ b) A A' → Ix c A')
    (h0 : I 0 (fun _ => False) w)
    (hround : ∀ (l k : Nat) (X Y : Nat → Prop) (x : α) (args : Array Value) (W : World), l = w.heap.size + 1 → w.heap.size + 2 ≤ W.heap.size → I k X W → L[k]? = some x → Vl W args x → (∀ b, Y b → w.heap.size + 2 ≤ b ∧ ¬ X b) → (∀ q : Addr, q.block = l → W.cell? q = none) →
      assign.wpIn (Fence.wide.inRound l) (n - 1 - 1) P (Exit.then (fun a' Wa => Kb (fun b => b < n₀ ∨ b = w.heap.size ∨ b = l ∨ Y b) W Wa ∧ ∀ W2, Kb (fun b => b ≠ l) Wa W2 → body.wpIn (Fence.wide.inRound l) (n - 1 - 1) P (itPost (fun b => b < n₀ ∨ b = w.heap.size ∨ b = l ∨ Y b) (fun W' => ∃ X', I (k + 1) X' W' ∧ ∀ b, X' b → X b ∨ W.heap.size ≤ b) Ix W2) a' W2) (fun _ _ _ => False)) { tmps := (ps.zip args).foldl (fun t (p, v) => t.setIfInBounds p v) a.tmps, defers := [] } W)
    (hdone : ∀ (X : Nat → Prop) (W : World), I L.length X W → W.heap[w.heap.size]? = some (.deferred (some [])) → Q .normal { a with defers := { target := .collected w.heap.size, args := #[] } :: a.defers } W)
    (hstop : ∀ (c : Code) (W : World), Ix c W → W.heap[w.heap.size]? = some (.deferred (some [])) → c.wpIn Fence.wide n P Q { a with defers := { target := .collected w.heap.size, args := #[] } :: a.defers } W) :
    (Code.rangeFunc g ps assign body).wpIn Fence.wide n P Q a w := by
  refine wpIn_rangeFunc ?_
  intro fn hfn
  rw [show Fence.wide.round = none from rfl]
  obtain ⟨rec, hrec⟩ : ∃ rec : LoopState → Option Code → Loop, rec = fun st pe => { state := st, pending := pe, fn, tmps := a.tmps, params := ps, assign, body, defers := w.heap.size } := ⟨_, rfl⟩
  obtain ⟨W1, hW1⟩ : ∃ W1, (w.alloc (.deferred (some []))).alloc (.loop (rec .ready none)) = W1 := ⟨_, rfl⟩
  have hL1 : W1.heap[w.heap.size + 1]? = some (.loop (rec .ready none)) := by
    rw [← hW1]; have := World.alloc_heap_new (w.alloc (.deferred (some []))) (.loop (rec .ready none)); rwa [World.size_alloc] at this
  have hK1 : W1.heap[w.heap.size]? = some (.deferred (some [])) := by
    rw [← hW1]; exact (Below.heap_alloc _ _ _ (by simp)).trans (World.alloc_heap_new w _)
  have hS1 : W1.heap.size = w.heap.size + 2 := by rw [← hW1]; simp
  have hB1 : Below w.heap.size w W1 := by
    rw [← hW1]; exact ((Below.refl _ w).alloc (Nat.le_refl _) _).alloc (by simp) _
  have hb1 : Below n₀ w0 W1 := hb0.trans (hB1.mono hn₀)
  refine ⟨w.heap.size + 1, [{ target := .collected w.heap.size, args := #[] }], W1, { target := .fn (.func gf) lb, args := #[.func (.yield (w.heap.size + 1)) #[] #[]] }, W1, gf,
    #[.func (.yield (w.heap.size + 1)) #[] #[]] ++ lb, W1, ?_, ?_, ?_, ?_, fun _ => h1, ?_⟩
  · rw [← hW1, hrec]; exact run_enterLoop_outer _ _ _ _ _
  · simp only [resolve, hg]
    simp [go_sem]
  · intro f' hf'; trivial
  · simp [invoke, go_sem, eg]
  · have hI1 : ∀ {k : Nat} {X : Nat → Prop} {A : World} (o : Obj), I k X A → I k X (A.putObj (w.heap.size + 1) o) := fun o h => hI _ _ _ _ h ((Kb.refl _ _).putObj (fun _ hp => hp.elim (fun h => by omega) (fun hx => by have := (hlt _ _ _ h _ hx).1; omega)) o)
    refine (callsIn_wide.2 (hseq (w.heap.size + 1)
      (fun k X W => I k X W ∧ W.heap[w.heap.size + 1]? = some (.loop (rec .ready none)) ∧ W.heap[w.heap.size]? = some (.deferred (some [])))
      (fun W => ∃ c, Ix c W ∧ W.heap[w.heap.size + 1]? = some (.loop (rec .done (some c))) ∧ W.heap[w.heap.size]? = some (.deferred (some [])))
      W1 hb1 (by omega) ?_ ?_ ?_ ?_ ?_)).mono ?_
    · exact ⟨hI _ _ _ _ h0 (Kb.of_below hB1 (fun b _ h => h.elim id False.elim)), hL1, hK1⟩
    · exact fun k X A h b hx => (hlt _ _ _ h.1 b hx).2
    · rintro k X A A' ⟨hi, hl, hd⟩ hk
      rw [hS1] at hk
      have hlt' : w.heap.size + 1 < A.heap.size := (Array.getElem?_eq_some_iff.1 hl).1
      exact ⟨hI k X A A' hi (hk.mono (fun b _ h => h.imp (fun h => by omega) id)), (hk.block _ hlt' (.inl (by omega))).trans hl, (hk.block _ (by omega) (.inl (by omega))).trans hd⟩
    · rintro A A' ⟨c, hi, hl, hd⟩ hk
      have hlt' : w.heap.size + 1 < A.heap.size := (Array.getElem?_eq_some_iff.1 hl).1
      exact ⟨c, hIx c A A' hi (hk.mono (fun _ _ _ => trivial)), (hk.block _ hlt' trivial).trans hl, (hk.block _ (by omega) trivial).trans hd⟩
    · rintro k X W args x Y ⟨hi, hl, hd⟩ hx hv hWW hY
      rw [hS1] at hY hWW
      have hlt' : w.heap.size + 1 < W.heap.size := (Array.getElem?_eq_some_iff.1 hl).1
      have hy := run_yield (P := P) (args := args) hl (by rw [hrec]; exact hps _ _ _ hv)
      rw [hrec] at hy
      refine yield_any (m := n - 1 - 1) ⟨fn, _, assign, body, hy, roundIn_of_wpIn hfn (wpIn_mono (hround _ k X Y x args W rfl hWW hi hx hv hY (fun q hq => by simp [World.cell?, hq, hl])) ?_)⟩
      clear hy
      intro e1 a' Wa hp
      cases e1 with
      | normal =>
        obtain ⟨hka, hbody⟩ := hp
        have hl2 := (hka.block _ hlt' (.inr (.inr (.inl rfl)))).trans hl
        have hd2 := (hka.block w.heap.size (by omega) (.inr (.inl rfl))).trans hd
        have hlta : w.heap.size + 1 < Wa.heap.size := (Array.getElem?_eq_some_iff.1 hl2).1
        refine ⟨_, run_beginRound hl2 (by rw [hrec]), ?_⟩
        have hkb : Kb (fun b => b ≠ w.heap.size + 1) Wa (Wa.putObj (w.heap.size + 1) (.loop { rec .ready none with state := .busy })) := (Kb.refl _ _).putObj (fun _ h => h rfl) _
        have hl3 : (Wa.putObj (w.heap.size + 1) (.loop { rec .ready none with state := .busy })).heap[w.heap.size + 1]? = some (.loop { rec .ready none with state := .busy }) := World.putObj_heap_same hlta
        have hd3 := (hkb.block w.heap.size (by omega) (by omega)).trans hd2
        refine wpIn_mono (hbody _ hkb) ?_
        generalize Wa.putObj (w.heap.size + 1) (.loop { rec .ready none with state := .busy }) = W2 at hkb hl3 hd3
        have hlt2 : w.heap.size + 1 < W2.heap.size := (Array.getElem?_eq_some_iff.1 hl3).1
        have fin : ∀ (jump : Option Code) (W3 : World), Kb (fun b => b < n₀ ∨ b = w.heap.size ∨ b = w.heap.size + 1 ∨ Y b) W2 W3 →
            (Instr.endRound (w.heap.size + 1) jump).run P W3 = .ok (.bool jump.isNone) (W3.putObj (w.heap.size + 1) (.loop (rec (if jump.isNone then .ready else .done) jump))) ∧
            W3.heap[w.heap.size + 1]? = some (.loop { rec .ready none with state := .busy }) ∧
            (W3.putObj (w.heap.size + 1) (.loop (rec (if jump.isNone then .ready else .done) jump))).heap[w.heap.size + 1]? = some (.loop (rec (if jump.isNone then .ready else .done) jump)) ∧
            (W3.putObj (w.heap.size + 1) (.loop (rec (if jump.isNone then .ready else .done) jump))).heap[w.heap.size]? = some (.deferred (some [])) := fun jump W3 hk3 => by
          have hl4 := (hk3.block _ hlt2 (.inr (.inr (.inl rfl)))).trans hl3
          have hd4 := (hk3.block w.heap.size (by omega) (.inr (.inl rfl))).trans hd3
          have := run_endRound (P := P) jump hl4
          rw [hrec] at this ⊢
          exact ⟨this, by rw [hrec] at hl4; exact hl4, World.putObj_heap_same (Array.getElem?_eq_some_iff.1 hl4).1, (World.putObj_heap_other (by omega)).trans hd4⟩
        rintro e a3 W3 hp
        have hny : ∀ b, b < n₀ ∨ Y b → b ≠ w.heap.size + 1 := fun b h e => h.elim (fun h => by omega) (fun h => by have := (hY b h).1; omega)
        have hall : ∀ (W3 : World) (o : Obj), Kb (fun b => b < n₀ ∨ b = w.heap.size ∨ b = w.heap.size + 1 ∨ Y b) W2 W3 → Kb (fun b => b < n₀ ∨ Y b) W (W3.putObj (w.heap.size + 1) o) := fun W3 o hk3 => (((hka.mono (fun b _ h => h.imp id (fun h => .inr (.inr h)))).trans ((hkb.mono (fun b _ h => hny b h)).trans (hk3.mono (fun b _ h => h.imp id (fun h => .inr (.inr h)))))).trans ((Kb.refl _ _).putObj (fun _ h => hny _ h rfl) _))
        cases e with
        | normal =>
          obtain ⟨hk3, X', hi3, hX'⟩ := hp
          obtain ⟨hr, hl4, hl5, hd5⟩ := fin none W3 hk3
          exact ⟨_, _, hr, .inl ⟨rfl, ⟨X', ⟨hI1 _ hi3, hl5, hd5⟩, hX'⟩, hall _ _ hk3⟩⟩
        | ret =>
          obtain ⟨hk3, hi3⟩ := hp
          obtain ⟨hr, hl4, hl5, hd5⟩ := fin (some .ret) W3 hk3
          exact ⟨_, _, hr, .inr ⟨rfl, ⟨.ret, hIx _ W3 _ hi3 ((Kb.refl _ _).putObj (fun _ h => by omega) _), hl5, hd5⟩, hall _ _ hk3⟩⟩
        | exit id =>
          obtain ⟨hk3, hi3⟩ := hp
          obtain ⟨hr, hl4, hl5, hd5⟩ := fin (some (.exit id)) W3 hk3
          exact ⟨_, _, hr, .inr ⟨rfl, ⟨.exit id, hIx _ W3 _ hi3 ((Kb.refl _ _).putObj (fun _ h => by omega) _), hl5, hd5⟩, hall _ _ hk3⟩⟩
        | goto t =>
          obtain ⟨hk3, hi3⟩ := hp
          obtain ⟨hr, hl4, hl5, hd5⟩ := fin (some (.goto t)) W3 hk3
          exact ⟨_, _, hr, .inr ⟨rfl, ⟨.goto t, hIx _ W3 _ hi3 ((Kb.refl _ _).putObj (fun _ h => by omega) _), hl5, hd5⟩, hall _ _ hk3⟩⟩
        | panic ch => exact hp.elim
        | outgrown => exact hp.elim
      | ret => exact hp.elim
      | exit id => exact hp.elim
      | goto t => exact hp.elim
      | panic ch => exact hp.elim
      | outgrown => exact hp.elim
    · rintro e W2 ⟨⟨v, rfl⟩, (⟨X, hi, hl, hd⟩ | ⟨c, hi, hl, hd⟩)⟩
      · refine ⟨none, _, by have := run_endLoop (P := P) hl (by rw [hrec]; simp); rw [hrec] at this; exact this, ?_⟩
        exact hdone X _ (hI1 _ hi) ((World.putObj_heap_other (by omega)).trans hd)
      · refine ⟨some c, _, by have := run_endLoop (P := P) hl (by rw [hrec]; simp); rw [hrec] at this; exact this, ?_⟩
        exact hstop c _ (hIx c W2 _ hi ((Kb.refl _ _).putObj (fun _ h => by omega) _)) ((World.putObj_heap_other (by omega)).trans hd)
end Go.Proofs.YtglnnoglbieaeaaGreatDoor
/- Parts of slices, whoever made them. No program in it. -/
namespace Go.Proofs.YtglnnoglbieaeaaGreatDoor
open Go.RowKit
set_option linter.unusedVariables false

/-- One part of a slice. -/
theorem GS.take {α : Type} {E : Enc α} {W : World} {ao : Option Addr} {n cap c : Nat} {L : List α} (h : GS E W (.slice ao n cap) L) (hc : c ≤ n) : GS E W (.slice ao c cap) (L.take c) := by
  rcases h with ⟨ao', cap', e, rfl⟩ | ⟨g, o, cap', e, h1, h2, h3⟩
  · simp only [Value.slice.injEq] at e
    obtain ⟨rfl, rfl, rfl⟩ := e
    obtain rfl : c = 0 := by omega
    exact .inl ⟨_, _, rfl, by simp⟩
  · simp only [Value.slice.injEq] at e
    obtain ⟨rfl, rfl, rfl⟩ := e
    have e1 : (L.take c).length = c := by rw [List.length_take]; omega
    exact .inr ⟨g, o, cap, by rw [e1], by rw [e1]; omega, h2, h3.take c⟩
theorem GS.drop {α : Type} {E : Enc α} {W : World} {g o n cap c : Nat} {L : List α} (h : GS E W (.slice (some ⟨g, o, none⟩) n cap) L) (hc : c ≤ n) : GS E W (.slice (some ⟨g, o + c * E.n, none⟩) (n - c) (cap - c)) (L.drop c) := by
  rcases h with ⟨ao', cap', e, rfl⟩ | ⟨g', o', cap', e, h1, h2, h3⟩
  · simp only [Value.slice.injEq] at e
    obtain ⟨rfl, rfl, rfl⟩ := e
    obtain rfl : c = 0 := by omega
    exact .inl ⟨_, _, rfl, by simp⟩
  · simp only [Value.slice.injEq, Option.some.injEq, Addr.mk.injEq, and_true] at e
    obtain ⟨⟨rfl, rfl⟩, rfl, rfl⟩ := e
    have e1 : (L.drop c).length = L.length - c := List.length_drop
    exact .inr ⟨g, o + c * E.n, cap - c, by rw [e1], by rw [e1]; omega, Nat.le_trans (Nat.sub_le _ _) h2, h3.drop c⟩
end Go.Proofs.YtglnnoglbieaeaaGreatDoor
/- What holding of package wish answers: how many wishes the fates of an iterator fit. -/
namespace Go.Proofs.YtglnnoglbieaeaaGreatDoor
open Go.RowKit Go.Shelf
set_option linter.unusedSimpArgs false
set_option linter.unusedVariables false
attribute [local go_sem] Oper.semAt_some

/-- A fate in its box. -/
def FaBox (W : World) (g : Nat) (a : Int) (b : ByteArray) (c : Value) : Prop := W.cell? ⟨g, 0, none⟩ = some (.int .i64 a) ∧ W.cell? ⟨g, 1, none⟩ = some (.string b) ∧ W.cell? ⟨g, 2, none⟩ = some c
theorem FaBox.later {W W' : World} {g : Nat} {a : Int} {b : ByteArray} {c : Value} (h : FaBox W g a b c) (hb : Below W.heap.size W W') : FaBox W' g a b c :=
  ⟨cell_later hb h.1, cell_later hb h.2.1, cell_later hb h.2.2⟩
theorem fabox_new (w : World) (a : Int) (b : ByteArray) (c : Value) (T : TypeId) : FaBox (w.alloc (Obj.cells #[.int .i64 a, .string b, c] T)) w.heap.size a b c := by
  refine ⟨?_, ?_, ?_⟩ <;> simp
/-- A fate, as an iterator hands it on: its hops where they lie. -/
def FtV (A : World) (args : Array Value) (x : Ft) : Prop := ∃ ao n cap, args = #[.agg #[.int .i64 x.1, .string x.2.1, .slice ao n cap]] ∧ GS hopE A (.slice ao n cap) x.2.2
theorem GS.kb {α : Type} {E : Enc α} {W W' : World} {v : Value} {L : List α} {p : Nat → Prop} (h : GS E W v L) (hk : Kb p W W') (hp : ∀ q u, W.cell? q = some u → p q.block) : GS E W' v L := by
  rcases h with ⟨ao', cap', e, rfl⟩ | ⟨g, o, cap', e, h1, h2, h3⟩
  · exact .inl ⟨ao', cap', e, rfl⟩
  · exact .inr ⟨g, o, cap', e, h1, h2, fun i hi j u hu => hk.at (h3 i hi j u hu) (hp _ _ (h3 i hi j u hu))⟩

set_option maxHeartbeats 1000000 in
set_option maxRecDepth 100000 in
theorem holding1_any (a : Int) (b : ByteArray) (ao : Option Addr) (n cap : Nat) (l : List ((Int × Int) × Int)) (g1 g2 : Nat) (k : Int) (f t : ByteArray) (v : Int) (m : ByteArray) (w : World) (hl : GS hopE w (.slice ao n cap) l) (h1 : w.cell? ⟨g1, 0, none⟩ = some (.string m)) (h2 : FaBox w g2 a b (.slice ao n cap)) :
    Calls Tryz.prog 105 #[.agg #[.int .i64 k, .string f, .string t, .int .i64 v], .pointer (some ⟨g1, 0, none⟩), .pointer (some ⟨g2, 0, none⟩)] w fun e w' => e = .returned (.bool (!fiB ⟨k, f, t, v⟩ m (a, b, l))) ∧ Below w.heap.size w w' := by
  have hb0 : Below w.heap.size w (w.alloc (Obj.cells #[.int .i64 k, .string f, .string t, .int .i64 v] 96)) := (Below.refl _ _).alloc (Nat.le_refl _) _
  have hl0 := hl.later hb0
  have hx0 := wibox_new w k f t v 96
  have hs0 := cell_later hb0 h1
  have hf0 := h2.later hb0
  obtain ⟨w0, hw0⟩ : ∃ W, w.alloc (Obj.cells #[.int .i64 k, .string f, .string t, .int .i64 v] 96) = W := ⟨_, rfl⟩
  rw [hw0] at hb0 hl0 hx0 hs0 hf0
  have HW0 : Hid (w.alloc (Obj.cells #[.int .i64 k, .string f, .string t, .int .i64 v] 96) = w0) := hw0
  have HB0 : Hid (Below w.heap.size w w0) := hb0
  have HL0 : Hid (GS hopE w0 (.slice ao n cap) l) := hl0
  obtain ⟨x0, x1, x2, x3⟩ := hx0
  obtain ⟨f0, f1, f2⟩ := hf0
  obtain ⟨R, hR⟩ : ∃ R, R = fiB ⟨k, f, t, v⟩ m (a, b, l) := ⟨_, rfl⟩
  have HR : Hid (fiB ⟨k, f, t, v⟩ m (a, b, l) = R) := hR.symm
  rw [← hR]
  clear hb0 hl0 hl h1 h2 hw0 hR
  go_enter Tryz.func105, Tryz.ntmps105
  go_upto_region 1 with fail
  rw [HW0.out]
  clear HW0
  go_wp2_with fail
  refine (fits_any k f t v m a b ao n cap l _ HL0.out).mono ?_
  rintro e w1 ⟨rfl, hb1⟩
  rw [HR.out]
  go_wp2
  go_ret
  exact ⟨rfl, HB0.out.trans (hb1.mono HB0.out.size)⟩

/-- The three boxes: wishes, a name, a number. -/
structure HB (w W : World) (v : Value) (m : ByteArray) (k : Nat) : Prop where
  below : Below w.heap.size w W
  l : Boxed W w.heap.size 30 v
  m : Boxed W (w.heap.size + 1) 9 (.string m)
  n : Boxed W (w.heap.size + 1 + 1) 3 (.int .i64 k)
theorem HB.kb {w W W' : World} {v : Value} {m : ByteArray} {k : Nat} {p : Nat → Prop} (h : HB w W v m k) (hk : Kb p W W') (hp : ∀ b, b < w.heap.size + 3 → p b) : HB w W' v m k :=
  ⟨h.below.trans (hk.below (by have := h.l.lt; omega) (fun b hb => hp b (by omega))), hk.boxed h.l (hp _ (by omega)), hk.boxed h.m (hp _ (by omega)), hk.boxed h.n (hp _ (by omega))⟩
theorem HB.put {w W : World} {v : Value} {m : ByteArray} {k : Nat} (h : HB w W v m k) (j : Nat) : HB w (W.setCell ⟨w.heap.size + 1 + 1, 0, none⟩ (.int .i64 j)) v m j :=
  ⟨h.below.setCell (p := ⟨w.heap.size + 1 + 1, 0, none⟩) (show w.heap.size ≤ w.heap.size + 1 + 1 by omega) _, h.l.other (by omega) _, h.m.other (by omega) _, h.n.set _⟩

set_option maxRecDepth 100000 in
set_option maxHeartbeats 4000000 in
theorem holding_in (n : Nat) (h4 : 4 ≤ n) (a4 : Option Addr) (n4 c4 : Nat) (l : List Wi) (m : ByteArray) (gi : Nat) (lb : Array Value) (L : List Ft) (n₀ : Nat) (w : World)
    (hl : GS wisE w (.slice a4 n4 c4) l) (eg : ∀ args w, (callFunc gi args).run Tryz.prog w = .ok (.enter gi args) w) (hit : ItF Tryz.prog gi lb FtV n₀ L w) (hn₀ : n₀ ≤ w.heap.size) :
    CallsIn Fence.wide n Tryz.prog 66 #[.slice a4 n4 c4, .string m, .func (.func gi) #[] lb] w fun e W' => e = .returned (.int .i64 (hwN l m L)) ∧ Below w.heap.size w W' := by
  have h1 : 1 ≤ n := by omega
  have h2 : 1 ≤ n - 1 - 1 := by omega
  obtain ⟨_, _, _, e5, hGn, hGm, hGc, hGa⟩ := hl.form
  cases e5
  have HLW : Hid (∀ W, Below w.heap.size w W → GS wisE W (.slice a4 n4 c4) l) := fun W hb => hl.later hb
  have HGN : Hid (l.length = n4) := hGn
  have HCAP : Hid (n4 ≤ c4) := hGc
  refine callsIn_of_wp_marks Tryz.func66 rfl trivial ?_ rfl
  simp only [Tryz.ntmps66, List.size_toArray, List.length_cons, List.length_nil, Nat.reduceAdd, Nat.reduceSub, Array.replicate_succ, Array.replicate_zero, List.push_toArray, List.append_toArray, List.nil_append, List.cons_append]
  clear hGa hGm hGc hGn hl
  gi_wp2
  have bL := Boxed.new w 30 (.slice a4 n4 c4)
  have bM := Boxed.new (w.alloc (.cells #[.slice a4 n4 c4] 30)) 9 (.string m)
  have bN := Boxed.new ((w.alloc (.cells #[.slice a4 n4 c4] 30)).alloc (.cells #[.string m] 9)) 3 (.int .i64 n4)
  simp only [World.size_alloc] at bM bN
  have hB0 : Below w.heap.size w (((w.alloc (.cells #[.slice a4 n4 c4] 30)).alloc (.cells #[.string m] 9)).alloc (.cells #[.int .i64 n4] 3)) := (((Below.refl _ w).alloc (Nat.le_refl _) _).alloc (by simp) _).alloc (by simp; omega) _
  have hH0 : HB w (((w.alloc (.cells #[.slice a4 n4 c4] 30)).alloc (.cells #[.string m] 9)).alloc (.cells #[.int .i64 n4] 3)) (.slice a4 n4 c4) m (hwTo l m L 0) := ⟨hB0, (bL.alloc _).alloc _, bM.alloc _, by rw [show hwTo l m L 0 = n4 from HGN.out]; exact bN⟩
  have hsz : (((w.alloc (.cells #[.slice a4 n4 c4] 30)).alloc (.cells #[.string m] 9)).alloc (.cells #[.int .i64 n4] 3)).heap.size = w.heap.size + 3 := by simp
  obtain ⟨W0, hW0⟩ : ∃ W0, ((w.alloc (.cells #[.slice a4 n4 c4] 30)).alloc (.cells #[.string m] 9)).alloc (.cells #[.int .i64 n4] 3) = W0 := ⟨_, rfl⟩
  rw [hW0] at hB0 hH0 hsz ⊢
  clear hW0 bL bM bN
  refine wpIn_rangeFunc_it h1 (gf := gi) (lb := lb) rfl eg (Vl := FtV) (n₀ := n₀) (L := L) (w0 := w) hit (hB0.mono hn₀) (by omega) (fun A args x hx => by obtain ⟨_, _, _, rfl, _⟩ := hx; rfl)
    (fun k X W => HB w W (.slice a4 n4 c4) m (hwTo l m L k) ∧ ∀ b, ¬ X b) (fun c W => c = .exit 0 ∧ HB w W (.slice a4 n4 c4) m (hwN l m L))
    (fun k X A h b hx => absurd hx (h.2 b))
    (fun k X A A' h hk => ⟨h.1.kb hk (fun b hb => .inl (by omega)), h.2⟩)
    (fun c A A' h hk => ⟨h.1, h.2.kb hk (fun b hb => .inl (by omega))⟩)
    ⟨hH0, fun b h => h⟩ ?round ?done ?stop
  case round =>
    rintro l' k X Y x args W hl' hBW ⟨hI, hX⟩ hLk ⟨ao, nn, cap, rfl, hG⟩ hY hnl
    obtain ⟨xa, xb, xl⟩ := x
    rw [hsz] at hl' hBW
    have hwN2 : hwTo l m L (k + 1) = hwS l m (xa, xb, xl) (hwTo l m L k) := by
      rw [hwTo]
      congr 1
      simp [List.getD, hLk]
    have hkL : k < L.length := by
      obtain ⟨h, _⟩ := List.getElem?_eq_some_iff.1 hLk
      exact h
    obtain ⟨N, hN⟩ : ∃ N, N = hwTo l m L k := ⟨_, rfl⟩
    have hNle : N ≤ n4 := by
      rw [hN, ← HGN.out]
      exact hwTo_le L k
    rw [← hN] at hI hwN2
    have HNK : Hid (hwTo l m L k = N) := hN.symm
    have HN2 : Hid (hwTo l m L (k + 1) = hwS l m (xa, xb, xl) N) := hwN2
    clear hN hwN2
    have hcap := HCAP.out
    dsimp only at hG
    gi_wp2
    refine ⟨(Kb.refl _ _).alloc _, fun W2 hk2 => ?_⟩
    have hBA : Below W.heap.size W (W.alloc (Obj.cells #[.int .i64 xa, .string xb, .slice ao nn cap] 77)) := (Below.refl _ _).alloc (Nat.le_refl _) _
    have hfb := fabox_new W xa xb (.slice ao nn cap) 77
    have hnl2 : ∀ q u, (W.alloc (Obj.cells #[.int .i64 xa, .string xb, .slice ao nn cap] 77)).cell? q = some u → q.block ≠ l' := by
      intro q u hq e
      have hlt : q.block < W.heap.size := by rw [e, hl']; omega
      have h := (hBA.cell (p := q) hlt).symm.trans hq
      rw [hnl q e] at h
      cases h
    have hG2 := (hG.later hBA).kb hk2 hnl2
    have hf2 : FaBox W2 W.heap.size xa xb (.slice ao nn cap) := ⟨hk2.at hfb.1 (hnl2 _ _ hfb.1), hk2.at hfb.2.1 (hnl2 _ _ hfb.2.1), hk2.at hfb.2.2 (hnl2 _ _ hfb.2.2)⟩
    have hI2 : HB w W2 (.slice a4 n4 c4) m N := (hI.kb (Kb.of_below hBA (fun b hb _ => hb) : Kb (fun _ => True) _ _) (fun _ _ => trivial)).kb hk2 (fun b hb => by omega)
    have HI2 : Hid (HB w W2 (.slice a4 n4 c4) m N) := hI2
    have HGT : Hid (GS wisE W2 (.slice a4 N c4) (l.take N)) := (HLW.out W2 hI2.below).take hNle
    obtain ⟨_, _, _, e6, hTn, hTm, _, hTa⟩ := HGT.out.form
    cases e6
    have HASK : Hid (wi2Asks W2 105 (.pointer (some ⟨w.heap.size + 1, 0, none⟩)) (.pointer (some ⟨W.heap.size, 0, none⟩)) (fun u => !fiB u m (xa, xb, xl))) := fun y0 y1 y2 y3 W3 hb3 => holding1_any xa xb ao nn cap xl _ _ y0 y1 y2 y3 m W3 (hG2.later hb3) (cell_later hb3 hI2.m.cell) (hf2.later hb3)
    obtain ⟨z, hz⟩ : ∃ z, z = ixG (fun u => !fiB u m (xa, xb, xl)) (l.take N) := ⟨_, rfl⟩
    have HZ : Hid (ixG (fun u => !fiB u m (xa, xb, xl)) (l.take N) = z) := hz.symm
    have HTN : Hid ((l.take N).length = N) := hTn
    have HTM : Hid (N ≤ maxLen) := hTm
    have HTA : Hid (0 < N → ∃ g o, a4 = some ⟨g, o, none⟩ ∧ GAt wisE W2 g o (l.take N) ∧ c4 ≤ maxLen) := hTa
    have hlc := hI2.l.cell
    have hmc := hI2.m.cell
    have hnc := hI2.n.cell
    have nb0 : (0 : Int) ≤ (N : Int) := by omega
    have nb1 : (N : Int) ≤ (c4 : Int) := by omega
    have nb2 : (N : Int) ≤ (n4 : Int) := by omega
    clear hz hTn hTm hTa hG2 hf2 hI2 hfb hnl2 hI hG hk2 hX
    gi_wp2_with fail
    refine ⟨trivial, (CallsIn.inRound _ (callsIn_wide.2 (wi2_idxF a4 N c4 _ _ _ (fun u => !fiB u m (xa, xb, xl)) (l.take N) _ HTN.out HTM.out HTA.out (enters_of Tryz.func105 (by kernel_rfl) rfl) HASK.out))).mono ?_⟩
    rintro e W3 ⟨rfl, hb3⟩
    rw [HZ.out]
    have hI3 : HB w W3 (.slice a4 n4 c4) m N := HI2.out.kb (Kb.of_below hb3 (fun b hb _ => hb) : Kb (fun _ => True) _ _) (fun _ _ => trivial)
    have HI3 : Hid (HB w W3 (.slice a4 n4 c4) m N) := hI3
    have HK3 : Hid (Kb (fun b => b < n₀ ∨ b = W0.heap.size ∨ b = l' ∨ Y b) W2 W3) := Kb.of_below hb3 (fun b hb _ => hb)
    have hlc := hI3.l.cell
    have hmc := hI3.m.cell
    have hnc := hI3.n.cell
    have hnf := hI3.n.frozen
    have HNP : Hid (¬ (w.heap.size + 1 + 1 < n₀ ∨ w.heap.size + 1 + 1 = W0.heap.size ∨ w.heap.size + 1 + 1 = l' ∨ Y (w.heap.size + 1 + 1))) := by
      rintro (h | h | h | h)
      · omega
      · omega
      · omega
      · have := (hY _ h).1
        omega
    have HXN : Hid (∀ I : Prop, I → ∃ X' : Nat → Prop, (I ∧ ∀ b, ¬ X' b) ∧ ∀ b, X' b → X b ∨ W.heap.size ≤ b) := fun I h => ⟨fun _ => False, ⟨h, fun _ h => h⟩, fun _ h => h.elim⟩
    clear hb3 hI3
    by_cases hz0 : 0 ≤ z
    · obtain ⟨z', rfl⟩ : ∃ z' : Nat, z = (z' : Int) := ⟨z.toNat, by omega⟩
      have HS : Hid (hwTo l m L (k + 1) = z') := by
        show _ = _
        rw [HN2.out, hwS, HZ.out, if_neg (by omega)]
        simp
      clear hz0
      by_cases h0 : z' = 0
      · subst h0
        have HL0 : Hid (hwN l m L = 0) := hwTo_zero HS.out (by omega)
        gi_wp2
        exact ⟨HK3.out.setCell (fun _ => HNP.out) _, rfl, by rw [HL0.out]; exact HI3.out.put 0⟩
      · have e0 : ((z' : Int) == 0) = false := by simp; omega
        clear h0
        gi_wp2
        exact ⟨HK3.out.setCell (fun _ => HNP.out) _, HXN.out _ (by rw [HS.out]; exact HI3.out.put z')⟩
    · have HS : Hid (hwTo l m L (k + 1) = N) := by
        show _ = _
        rw [HN2.out, hwS, HZ.out, if_pos (by omega)]
      have ez : decide (0 ≤ z) = false := by simpa using hz0
      by_cases h0 : N = 0
      · subst h0
        have HL0 : Hid (hwN l m L = 0) := hwTo_zero HS.out (by omega)
        gi_wp2
        exact ⟨HK3.out, rfl, by rw [HL0.out]; exact HI3.out⟩
      · have e0 : ((N : Int) == 0) = false := by simp; omega
        clear h0
        gi_wp2
        exact ⟨HK3.out, HXN.out _ (by rw [HS.out]; exact HI3.out)⟩
  case done =>
    rintro X W ⟨hI, _⟩ hK
    have hc := hI.n.cell
    have HBW : Hid (Below w.heap.size w W) := hI.below
    clear hI
    gi_wp2
    refine ⟨by simp, .inl ⟨_, _, rfl, run_takeDeferred hK, ?_⟩⟩
    exact ⟨_, results_tmp rfl _ _ _, rfl, HBW.out.trans (belowK_b (w := w) (Nat.le_refl _) W _ _ _ (by omega) hK rfl rfl)⟩
  case stop =>
    rintro c W ⟨rfl, hI⟩ hK
    have hc := hI.n.cell
    have HBW : Hid (Below w.heap.size w W) := hI.below
    clear hI
    gi_wp2
    refine ⟨by simp, .inl ⟨_, _, rfl, run_takeDeferred hK, ?_⟩⟩
    exact ⟨_, results_tmp rfl _ _ _, rfl, HBW.out.trans (belowK_b (w := w) (Nat.le_refl _) W _ _ _ (by omega) hK rfl rfl)⟩
theorem holding_any (a4 : Option Addr) (n4 c4 : Nat) (l : List Wi) (m : ByteArray) (gi : Nat) (lb : Array Value) (L : List Ft) (n₀ : Nat) (w : World)
    (hl : GS wisE w (.slice a4 n4 c4) l) (eg : ∀ args w, (callFunc gi args).run Tryz.prog w = .ok (.enter gi args) w) (hit : ItF Tryz.prog gi lb FtV n₀ L w) (hn₀ : n₀ ≤ w.heap.size) :
    Calls Tryz.prog 66 #[.slice a4 n4 c4, .string m, .func (.func gi) #[] lb] w fun e W' => e = .returned (.int .i64 (hwN l m L)) ∧ Below w.heap.size w W' :=
  (callsIn_wide (n := 4)).1 (holding_in 4 (by omega) a4 n4 c4 l m gi lb L n₀ w hl eg hit hn₀)
end Go.Proofs.YtglnnoglbieaeaaGreatDoor
/- The walk of package mix: what it carries along; what take answers, if what walk answers is known one hop behind. -/
namespace Go.Proofs.YtglnnoglbieaeaaGreatDoor
open Go.RowKit Go.Shelf
set_option linter.unusedSimpArgs false
set_option linter.unusedVariables false
attribute [local go_sem] Oper.semAt_some

theorem own_kb {W W' : World} {B e size n : Nat} {v : Value} {xs : List Value} {p : Nat → Prop} (h : W.ownsRow B e size v n xs) (hk : Kb p W W') (hp : ∀ g, v.ownBlock = some g → p g) : W'.ownsRow B e size v n xs := by
  refine ⟨h.1, ?_⟩
  rcases h.2 with ⟨rfl, rfl⟩ | ⟨g, cap, cur, rfl, h1, hg, h2⟩
  · exact .inl ⟨rfl, rfl⟩
  · exact .inr ⟨g, cap, cur, rfl, h1, (hk.block g (Array.getElem?_eq_some_iff.1 hg).1 (hp g rfl)).trans hg, h2⟩
/-- The hops of a packet, at the head of a row that has room for all. -/
def HK (W : World) (bk : Nat) (l : List ((Int × Int) × Int)) : Prop := W.ownsRow 0 74 3 (.slice (some ⟨bk, 0, none⟩) l.length 24) l.length (cellsG hopE l)
theorem HK.kb {W W' : World} {bk : Nat} {l : List ((Int × Int) × Int)} {p : Nat → Prop} (h : HK W bk l) (hk : Kb p W W') (hp : p bk) : HK W' bk l := own_kb h hk (fun g e => by cases e; exact hp)
theorem HK.lt {W : World} {bk : Nat} {l : List ((Int × Int) × Int)} (h : HK W bk l) : bk < W.heap.size := (World.ownsRow.lt h bk rfl).2
theorem HK.gs {W : World} {bk : Nat} {l : List ((Int × Int) × Int)} (h : HK W bk l) : GS hopE W (.slice (some ⟨bk, 0, none⟩) l.length 24) l := own_GS (E := hopE) h
theorem HK.pre {W : World} {bk : Nat} {l : List ((Int × Int) × Int)} {p : (Int × Int) × Int} (h : HK W bk (l ++ [p])) : HK W bk l := by
  have hc : cellsG hopE (l ++ [p]) = cellsG hopE l ++ hopE.c p := by rw [cellsG_app, cellsG_one]
  have hl : (cellsG hopE l).length = l.length * 3 := cellsG_len (E := hopE) l
  unfold HK at *
  refine ⟨hl, ?_⟩
  rcases h.2 with ⟨h, _⟩ | ⟨g, cap, cur, e, h1, hg, h2, h3, h4, h5⟩
  · simp at h
  · simp only [Value.slice.injEq, Option.some.injEq, Addr.mk.injEq, and_true, true_and] at e
    obtain ⟨rfl, _, rfl⟩ := e
    refine .inr ⟨bk, 24, cur, rfl, h1, hg, by rw [List.length_append] at h2; simp at h2; omega, h3, h4, ?_⟩
    rw [hc] at h5
    have e2 := congrArg (List.take (l.length * 3)) h5
    rw [List.take_take, ← hl, List.take_left, hl, List.length_append] at e2
    rw [show min (l.length * 3) ((l.length + [p].length) * 3) = l.length * 3 by rw [List.length_singleton]; omega] at e2
    exact e2
/-- Six yeses and noes. -/
def metV (met : Nat → Bool) : Value := .agg #[.bool (met 0), .bool (met 1), .bool (met 2), .bool (met 3), .bool (met 4), .bool (met 5)]
theorem la_hdr {Ls : List ((Int × Int) × (Int × Int))} {Hs : List (ByteArray × (Int × Int))} {Ts : List (List Ru)} {l : List ((Int × Int) × Int)} (h : (lgA Ls Hs Ts l).1 = 0) : hdrB (lgA Ls Hs Ts l).2.2.2 = true := by
  unfold lgA at *
  obtain ⟨e, h0, _⟩ := af_0 h
  rw [e]
  cases h1 : stT (taT Ts (laH l).1.1) (laH l) with
  | none => rw [lg_2 h1] at h0; cases h0
  | some q =>
    cases ha : atO Hs q.1 with
    | some m => rw [lg_1 h1 ha] at h0; cases h0
    | none =>
      cases hp : peerO Ls q.1 with
      | none => rw [lg_3 h1 ha hp] at h0; cases h0
      | some s =>
        rw [lg_0 h1 ha hp]
        exact (st_hdr (Ts := Ts) (p := laH l) h1).1
/-- What a walk stands on: the loop that asks, the legs, where all lies. -/
structure MCx (l lo n₀ : Nat) (J : Nat → (Nat → Prop) → World → Prop) (Jx : World → Prop) (L : List Ft) (w : World) (vo vy : Value) (m : Nat) (Ls : List ((Int × Int) × (Int × Int))) (Hs : List (ByteArray × (Int × Int))) (As Bs : List (List Ru)) : Prop where
  nlo : n₀ ≤ lo
  m6 : m ≤ 6
  tp : tpN (m : Int) Ls Hs = 0
  old : ∀ A, Below n₀ w A → LGs A 0 vo (fun (a h : Nat) => lgT Ls Hs (taT As ((a : Int) + 1)) (((a : Int) + 1, 0), (h : Int))) m
  yng : ∀ A, Below n₀ w A → LGs A 0 vy (fun (a h : Nat) => lgT Ls Hs (taT Bs ((a : Int) + 1)) (((a : Int) + 1, 0), (h : Int))) m
  lt : ∀ k X A, J k X A → ∀ b, X b → b < A.heap.size
  ab : ∀ k X A A', J k X A → Kb (fun b => b < lo ∨ X b) A A' → J k X A'
  ax : ∀ A A', Jx A → Kb (fun _ => True) A A' → Jx A'
  yi : ∀ k X A args x (Y : Nat → Prop), J k X A → L[k]? = some x → FtV A args x → lo ≤ A.heap.size → (∀ b, Y b → lo ≤ b ∧ ¬ X b) → YieldAt Fence.wide 0 Tryz.prog l args A fun e A' =>
      (e = .returned (.bool true) ∧ (∃ X', J (k + 1) X' A' ∧ ∀ b, X' b → X b ∨ A.heap.size ≤ b) ∧ Kb (fun b => b < n₀ ∨ Y b) A A') ∨ (e = .returned (.bool false) ∧ Jx A' ∧ Kb (fun b => b < n₀ ∨ Y b) A A')
/-- What is so when some have been handed on. -/
def WkR (J : Nat → (Nat → Prop) → World → Prop) (Jx : World → Prop) (X : Nat → Prop) (k : Nat) (bk : Nat) (l : List ((Int × Int) × Int)) (A : World) : Bool → World → Prop
  | true, A' => (∃ X', J k X' A' ∧ ∀ b, X' b → X b ∨ A.heap.size ≤ b) ∧ HK A' bk l
  | false, A' => Jx A'
def WkP (n₀ : Nat) (J : Nat → (Nat → Prop) → World → Prop) (Jx : World → Prop) (X Y : Nat → Prop) (k : Nat) (bk : Nat) (l : List ((Int × Int) × Int)) (A : World) (r : Bool) (A' : World) : Prop :=
  WkR J Jx X k bk l A r A' ∧ Kb (fun b => b < n₀ ∨ (Y b ∧ b ≠ bk)) A A'
/-- What is so where a walk begins. -/
structure WkI (lo n₀ : Nat) (J : Nat → (Nat → Prop) → World → Prop) (w : World) (X Y : Nat → Prop) (k bk : Nat) (lst : List ((Int × Int) × Int)) (A : World) : Prop where
  b : Below n₀ w A
  s : lo ≤ A.heap.size
  j : J k X A
  y : ∀ b, Y b → lo ≤ b ∧ b < A.heap.size ∧ ¬ X b
  yb : Y bk
  h : HK A bk lst
/-- These come next. -/
def Nxt (L : List Ft) (k : Nat) (M : List Ft) : Prop := ∀ i x, M[i]? = some x → L[k + i]? = some x
theorem Nxt.left {L : List Ft} {k : Nat} {M N : List Ft} (h : Nxt L k (M ++ N)) : Nxt L k M := fun i x hi => h i x (by rw [List.getElem?_append_left (List.getElem?_eq_some_iff.1 hi).1]; exact hi)
theorem Nxt.right {L : List Ft} {k : Nat} {M N : List Ft} (h : Nxt L k (M ++ N)) : Nxt L (k + M.length) N := fun i x hi => by
  have := h (M.length + i) x (by rw [List.getElem?_append_right (by omega)]; simpa using hi)
  rwa [← Nat.add_assoc] at this
section
variable {l lo n₀ : Nat} {J : Nat → (Nat → Prop) → World → Prop} {Jx : World → Prop} {L : List Ft} {w : World} {vo vy : Value} {m : Nat} {Ls : List ((Int × Int) × (Int × Int))} {Hs : List (ByteArray × (Int × Int))} {As Bs : List (List Ru)}
/-- Behind new blocks all is as it was; they are one's own. -/
theorem WkI.later {X Y : Nat → Prop} {k bk : Nat} {lst : List ((Int × Int) × Int)} {A A' : World} (cx : MCx l lo n₀ J Jx L w vo vy m Ls Hs As Bs) (h : WkI lo n₀ J w X Y k bk lst A) (hb : Below A.heap.size A A') : WkI lo n₀ J w X (fun b => Y b ∨ (A.heap.size ≤ b ∧ b < A'.heap.size)) k bk lst A' := by
  have hk : Kb (fun _ => True) A A' := Kb.of_below hb (fun b hb _ => hb)
  refine ⟨h.b.trans (hb.mono (Nat.le_trans cx.nlo h.s)), Nat.le_trans h.s hb.size, cx.ab _ _ _ _ h.j (hk.mono (fun _ _ _ => trivial)), fun b hy => ?_, .inl h.yb, h.h.kb hk trivial⟩
  rcases hy with hy | ⟨h1, h2⟩
  · have := h.y b hy
    exact ⟨this.1, Nat.lt_of_lt_of_le this.2.1 hb.size, this.2.2⟩
  · refine ⟨Nat.le_trans h.s h1, h2, fun hx => ?_⟩
    have := cx.lt _ _ _ h.j b hx
    omega
/-- What was told of a later world is so of the earlier one. -/
theorem WkP.back {X Y : Nat → Prop} {k bk : Nat} {lst : List ((Int × Int) × Int)} {A A1 A' : World} {r : Bool} (hb : Below A.heap.size A A1) (h : WkP n₀ J Jx X (fun b => Y b ∨ (A.heap.size ≤ b ∧ b < A1.heap.size)) k bk lst A1 r A') : WkP n₀ J Jx X Y k bk lst A r A' := by
  obtain ⟨h, h4⟩ := h
  refine ⟨?_, (Kb.of_below hb (fun b hb' _ => hb')).trans (h4.mono (fun b _ h => h.imp id (fun h => ⟨.inl h.1, h.2⟩)))⟩
  cases r with
  | false => exact h
  | true =>
    obtain ⟨⟨X', h1, h2⟩, h3⟩ := h
    exact ⟨⟨X', h1, fun b hx => (h2 b hx).imp id (fun h => Nat.le_trans hb.size h)⟩, h3⟩
end
def WkOK (l lo n₀ : Nat) (J : Nat → (Nat → Prop) → World → Prop) (Jx : World → Prop) (L : List Ft) (w : World) (vo vy : Value) (m : Nat) (Ls : List ((Int × Int) × (Int × Int))) (Hs : List (ByteArray × (Int × Int))) (As Bs : List (List Ru)) (n : Nat) : Prop :=
  ∀ (A : World) (k : Nat) (X Y : Nat → Prop) (bk : Nat) (lst : List ((Int × Int) × Int)) (met : Nat → Bool), lst.length + n = 25 → 1 ≤ n → 0 < lst.length → WkI lo n₀ J w X Y k bk lst A → spB (m : Int) (laH lst).1 = true → hdrB (laH lst).2 = true → Nxt L k (pwL Ls Hs As Bs n lst met) →
    Calls Tryz.prog 52 #[.agg #[vo, vy], .slice (some ⟨bk, 0, none⟩) lst.length 24, metV met, .func (.yield l) #[] #[]] A fun e A' => ∃ r, e = .returned (.bool r) ∧ WkP n₀ J Jx X Y (k + (pwL Ls Hs As Bs n lst met).length) bk lst A r A'
def TkOK (l lo n₀ : Nat) (J : Nat → (Nat → Prop) → World → Prop) (Jx : World → Prop) (L : List Ft) (w : World) (vo vy : Value) (m : Nat) (Ls : List ((Int × Int) × (Int × Int))) (Hs : List (ByteArray × (Int × Int))) (As Bs : List (List Ru)) (n : Nat) : Prop :=
  ∀ (A : World) (k : Nat) (X Y : Nat → Prop) (bk : Nat) (lst : List ((Int × Int) × Int)) (met : Nat → Bool) (g : Lg), lst.length + n = 24 → 0 < lst.length → WkI lo n₀ J w X Y k bk lst A → (∃ Ts, g = lgA Ls Hs Ts lst) → Nxt L k (tkL (pwL Ls Hs As Bs n) g lst met) →
    Calls Tryz.prog 83 #[.agg #[vo, vy], legV g, .slice (some ⟨bk, 0, none⟩) lst.length 24, metV met, .func (.yield l) #[] #[]] A fun e A' => ∃ r, e = .returned (.bool r) ∧ WkP n₀ J Jx X Y (k + (tkL (pwL Ls Hs As Bs n) g lst met).length) bk lst A r A'
/-- An append in its room, an operation of a drawn region. -/
theorem step_append_fits {P : Program} {α : Type} {E : Enc α} (w : World) {ops : Array Oper} {o : Oper} {a : Act} {K : Act → World → Prop} {Q : Exit → Act → World → Prop} {X : Prop} (hgd : o.guard = none) (s x : Operand) (t e : TypeId)
    (ho : o.op = .call { callee := .builtin .append, args := #[s, x], argTypes := #[t, t] }) (ht : P.underlying t = some (.slice e)) (i : TypeInfo) (hi : P.info? e = some i)
    (hsize : i.size = E.n) (base g cap : Nat) (L : List α) (hs : a.eval s = .slice (some ⟨g, 0, none⟩) L.length cap) (hown : w.ownsRow base e E.n (.slice (some ⟨g, 0, none⟩) L.length cap) L.length (cellsG E L)) (g2 q c : Nat) (hx : a.eval x = .slice (some ⟨g2, q, none⟩) 1 c) (y : α) (hM : VAt w g2 q (E.c y))
    (hroom : L.length + 1 ≤ cap)
    (h : ∀ w', w'.ownsRow base e E.n (.slice (some ⟨g, 0, none⟩) (L.length + 1) cap) (L.length + 1) (cellsG E (L ++ [y])) → w.grownBy w' (some g) → K (a.put o.dst (.slice (some ⟨g, 0, none⟩) (L.length + 1) cap)) w') :
    if Region.wanted o (yielded ops a.tmps) = true then Oper.wp P o a w K Q else X := by
  have hw : Region.wanted o (yielded ops a.tmps) = true := by simp [Region.wanted, hgd]
  rw [if_pos hw]
  obtain ⟨w', hrun, r1, r2⟩ := run_append_fits (P := P) w base t o.type e i E.n ht hi hsize g L.length cap (cellsG E L) hown ⟨g2, q, none⟩ 1 c (E.c y) (by rw [E.len]; simp) (fun j u hj => by rw [Addr.add_lit]; exact hM j u hj) (E.one y) hroom
  unfold Oper.wp
  simp [execOp, ho, resolve, invoke, builtin, hs, hx, hrun, Result.andThen]
  refine h w' ?_ r2
  rw [cellsG_app, cellsG_one]
  exact r1
end Go.Proofs.YtglnnoglbieaeaaGreatDoor
