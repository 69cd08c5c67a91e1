/- Contracts and facts on the way to WishBase, joined into one text: LineMath, NetMath3, WishMath, WishMath2, StWish, TopoCon, SpotKey, Err, StSpot, StLink. -/
import Derived.Test.YtfbocionnjliladDoorWishBaseP2
import Derived.Test.YtfbocionnjliladDoorWishBaseP1
import Derived.Test.YtfbocionnjliladDoorRows
import Derived.Lib.SmallJoins
import Derived.Laws.StructEq
import Derived.Maps.OwnOps
import Derived.WalkKit
import Derived.WalkSpells
import Derived.Below
import Derived.BigQuiet
import Derived.Deep.QuietTactic
import Derived.DeepKeys3
/- A line of switches: plain lists. No program in it. -/
namespace Go.Proofs.YtfbocionnjliladDoor
open Go.RowKit
set_option linter.unusedVariables false

/-- The links of a line. -/
def lnTo : Nat → List ((Int × Int) × (Int × Int))
  | 0 => []
  | k + 1 => lnTo k ++ [(((k : Int) + 1, 2), ((k : Int) + 1 + 1, 1))]
theorem ln_len (k : Nat) : (lnTo k).length = k := by
  induction k with
  | zero => rfl
  | succ k ih => simp [lnTo, ih]
/-- Its hosts. -/
def lnH (n : Int) : List (ByteArray × (Int × Int)) := [(⟨#[97]⟩, (1, 3)), (⟨#[98]⟩, (n, 4))]
def lnOk (n : Nat) : Bool := decide (tpN n (lnTo (n - 1)) (lnH n) = 0)
theorem ln_ok (n : Nat) (h1 : 1 ≤ n) (h6 : n ≤ 6) : tpN n (lnTo (n - 1)) (lnH n) = 0 := by
  have h : ∀ m ∈ [1, 2, 3, 4, 5, 6], lnOk m = true := by decide +kernel
  have h2 := h n (by simp; omega)
  simpa [lnOk] using h2
theorem ln_7 : tpN 7 (lnTo 6) (lnH 7) ≠ 0 := by decide +kernel
/-- How far, and how many are near, for all lines and switches. -/
def lnAll (n a b : Nat) : Bool := decide (faN n (lnTo (n - 1)) a b = if a < b then (b : Int) - a else (a : Int) - b) && decide (((nrL n (lnTo (n - 1)) a).length : Int) = 2 - (if a = 1 then 1 else 0) - (if a = n then 1 else 0))
theorem ln_all (n a b : Nat) (h1 : 1 ≤ n) (h6 : n ≤ 6) (a1 : 1 ≤ a) (a2 : a ≤ n) (b1 : 1 ≤ b) (b2 : b ≤ n) : lnAll n a b = true := by
  have h : ∀ m ∈ [1, 2, 3, 4, 5, 6], ∀ a ∈ [1, 2, 3, 4, 5, 6], ∀ b ∈ [1, 2, 3, 4, 5, 6], a ≤ m → b ≤ m → lnAll m a b = true := by decide +kernel
  exact h n (by simp; omega) a (by simp; omega) b (by simp; omega) a2 b2
end Go.Proofs.YtfbocionnjliladDoor
/- Hops of a right net are right; two switches that send each other all: plain lists. No program in it. -/
namespace Go.Proofs.YtfbocionnjliladDoor
open Go.RowKit
set_option linter.unusedVariables false

theorem aph_fin : ∀ s v h : Fin 16, (bits .andNot .i64 ((v : Nat) : Int) ((s : Nat) : Int) == 0) = true → hdrB (apV ((s : Nat) : Int) ((v : Nat) : Int) ((h : Nat) : Int)) = true := by decide +kernel
theorem ap_hdr {p m b o s v h : Int} (hr : apN p m b o s v h = 0) : hdrB (apR p m b o s v h) = true := by
  obtain ⟨h1, h2, _, _⟩ := ap_yes hr
  obtain ⟨g1, _, g3⟩ := ru_ok h1
  obtain ⟨_, hs, hv⟩ := ru_in g1
  obtain ⟨s', rfl⟩ := small hs
  obtain ⟨v', rfl⟩ := small hv
  obtain ⟨h', rfl⟩ := small (hdr_of h2)
  simp only [ruSet, Bool.and_eq_true] at g3
  rw [apR, if_pos hr]
  exact aph_fin s' v' h' g3.1
section
variable {S : Int} {Ls : List ((Int × Int) × (Int × Int))} {Hs : List (ByteArray × (Int × Int))} {Ts : List (List Ru)}
theorem st_hdr {p o : (Int × Int) × Int} (h : stO Ts p = some o) : hdrB o.2 = true ∧ o.1.1 = p.1.1 := by
  unfold stO stT at h
  split at h
  · split at h
    · next hr =>
      cases h
      exact ⟨ap_hdr hr, rfl⟩
    · cases h
  · cases h
theorem peer_sp (ht : tpN S Ls Hs = 0) {s p : Int × Int} (h : peerO Ls s = some p) : spB S p = true := (tp_0 ht).2.2.1 p (peer_in h).2
theorem where_sp (ht : tpN S Ls Hs = 0) {n : ByteArray} {p : Int × Int} (h : whereO Hs n = some p) : spB S p = true := by
  rcases where_ix Hs n with ⟨_, h0⟩ | ⟨k, hk, _, h1⟩
  · rw [h] at h0; cases h0
  · rw [h] at h1
    cases h1
    exact ((tp_0 ht).2.2.2.2.1 _ (List.getElem_mem hk)).2
theorem name_ne (ht : tpN S Ls Hs = 0) : ∀ x ∈ Hs, x.1 ≠ ByteArray.empty := by
  intro x hx e
  have h := ((tp_0 ht).2.2.2.2.1 x hx).1
  rw [e] at h
  revert h
  decide
theorem nx_good (ht : tpN S Ls Hs = 0) {p q : (Int × Int) × Int} (h : NxH Ls Hs Ts p q) : spB S q.1 = true ∧ hdrB q.2 = true := by
  obtain ⟨o, h1, _, h3, h4⟩ := h
  exact ⟨peer_sp ht h3, by rw [h4]; exact (st_hdr h1).1⟩
end
/-- Two switches that send each other all. -/
def ruG : Ru := ⟨1, 0, 0, 2, 0, 0⟩
def ruK : Ru := ⟨1, 0, 0, 1, 0, 0⟩
def ruD (h : Int) : Ru := ⟨5, 15, h, 0, 0, 0⟩
def naA : ByteArray := ⟨#[97]⟩
theorem turn1_fin : ∀ h : Fin 16, (decide (seN 2 (lnTo 1) (lnH 2) [[ruG], [ruK]] naA ((h : Nat) : Int) = 0) && (decide ((seV 2 (lnTo 1) (lnH 2) [[ruG], [ruK]] naA ((h : Nat) : Int)).1 = 4) && decide ((seV 2 (lnTo 1) (lnH 2) [[ruG], [ruK]] naA ((h : Nat) : Int)).2.2.length = 3))) = true := by decide +kernel
theorem turn2_fin : ∀ h : Fin 16, (decide (seN 2 (lnTo 1) (lnH 2) [[ruG], [ruD ((h : Nat) : Int), ruK]] naA ((h : Nat) : Int) = 0) && (decide ((seV 2 (lnTo 1) (lnH 2) [[ruG], [ruD ((h : Nat) : Int), ruK]] naA ((h : Nat) : Int)).1 = 2) && decide ((seV 2 (lnTo 1) (lnH 2) [[ruG], [ruD ((h : Nat) : Int), ruK]] naA ((h : Nat) : Int)).2.2.length = 2))) = true := by decide +kernel
theorem turn1 {h : Int} (hh : hdrB h = true) : seN 2 (lnTo 1) (lnH 2) [[ruG], [ruK]] naA h = 0 ∧ (seV 2 (lnTo 1) (lnH 2) [[ruG], [ruK]] naA h).1 = 4 ∧ (seV 2 (lnTo 1) (lnH 2) [[ruG], [ruK]] naA h).2.2.length = 3 := by
  obtain ⟨h', rfl⟩ := small (hdr_of hh)
  simpa using turn1_fin h'
theorem turn2 {h : Int} (hh : hdrB h = true) : seN 2 (lnTo 1) (lnH 2) [[ruG], [ruD h, ruK]] naA h = 0 ∧ (seV 2 (lnTo 1) (lnH 2) [[ruG], [ruD h, ruK]] naA h).1 = 2 ∧ (seV 2 (lnTo 1) (lnH 2) [[ruG], [ruD h, ruK]] naA h).2.2.length = 2 := by
  obtain ⟨h', rfl⟩ := small (hdr_of hh)
  simpa using turn2_fin h'
theorem turn3_nt : ntN 2 (lnTo 1) (lnH 2) [[], []] = 0 ∧ weN 2 (lnTo 1) (lnH 2) naA = 0 := by decide +kernel
theorem turn3 {h : Int} (hh : hdrB h = false) : seN 2 (lnTo 1) (lnH 2) [[], []] naA h = 1 := by
  unfold seN
  rw [if_pos turn3_nt.1, if_pos turn3_nt.2, hh]
  rfl
end Go.Proofs.YtfbocionnjliladDoor
/- Wishes in plain lists: what is wrong with some, which fates fit, whether all hold in a net, or what shows that not. No program in it. -/
namespace Go.Proofs.YtfbocionnjliladDoor
open Go.RowKit
set_option linter.unusedVariables false

structure Wi where
  k : Int
  f : ByteArray
  t : ByteArray
  v : Int
def zeW : Wi := ⟨0, ByteArray.empty, ByteArray.empty, 0⟩
/-- Does a wish ask anything of what that host sends? -/
def abW (w : Wi) (n : ByteArray) : Bool := (w.k == 4) || (w.f == n)
/-- Did it arrive there? -/
def thW (w : Wi) (F : Int × ByteArray × List ((Int × Int) × Int)) : Bool := (F.1 == 1) && (F.2.1 == w.t)
/-- Had it a hop at that switch? -/
def haW (v : Int) (l : List ((Int × Int) × Int)) : Bool := l.any fun h => h.1.1 == v
/-- Does a fate break a wish not? -/
def fiB (w : Wi) (n : ByteArray) (F : Int × ByteArray × List ((Int × Int) × Int)) : Bool :=
  if abW w n then (if w.k = 1 then thW w F else if w.k = 2 then !thW w F else if w.k = 3 then (!thW w F || haW w.v F.2.2) else if w.k = 4 then !(F.1 == 4) else true) else true
def wkB (k : Int) : Bool := decide (1 ≤ k) && decide (k ≤ 4)
def viB (w : Wi) (S : Int) : Bool := (w.k != 3) || swB S w.v
def nlB (w : Wi) : Bool := (w.f == ByteArray.empty) && (w.t == ByteArray.empty)
def hoB (Hs : List (ByteArray × (Int × Int))) (n : ByteArray) : Bool := Hs.any fun h => h.1 == n
/-- Via of others than a way. -/
def veB (w : Wi) : Bool := (w.k != 3) && (w.v != 0)
/-- The fault of a wish. -/
def woN (S : Int) (Hs : List (ByteArray × (Int × Int))) (w : Wi) : Int :=
  if !wkB w.k || (!viB w S || veB w) then 1 else if w.k = 4 then (if nlB w then 0 else 3) else if hoB Hs w.f && hoB Hs w.t then 0 else 5
/-- The fault of the first k wishes. -/
def wsTo (S : Int) (Hs : List (ByteArray × (Int × Int))) (l : List Wi) : Nat → Int
  | 0 => 0
  | k + 1 => if wsTo S Hs l k = 0 then woN S Hs (l.getD k zeW) else wsTo S Hs l k
def wsN (S : Int) (Ls : List ((Int × Int) × (Int × Int))) (Hs : List (ByteArray × (Int × Int))) (l : List Wi) : Int :=
  if tpN S Ls Hs = 0 then (if 8 < l.length then 4 else wsTo S Hs l l.length) else tpN S Ls Hs
theorem ws_le {S : Int} {Hs : List (ByteArray × (Int × Int))} {l : List Wi} {k : Nat} (h : wsTo S Hs l k ≠ 0) : ∀ {n : Nat}, k ≤ n → wsTo S Hs l n = wsTo S Hs l k
  | 0, hn => by
    obtain rfl : k = 0 := by omega
    rfl
  | n + 1, hn => by
    by_cases e : k = n + 1
    · subst e; rfl
    · have := ws_le h (show k ≤ n by omega)
      rw [wsTo, if_neg (by rw [this]; exact h), this]
theorem ws_0 {S : Int} {Hs : List (ByteArray × (Int × Int))} {l : List Wi} : ∀ {n : Nat}, wsTo S Hs l n = 0 → ∀ k, k < n → woN S Hs (l.getD k zeW) = 0
  | 0, _, k, hk => by omega
  | n + 1, h, k, hk => by
    unfold wsTo at h
    by_cases e : wsTo S Hs l n = 0
    · rw [if_pos e] at h
      by_cases ek : k = n
      · subst ek; exact h
      · exact ws_0 e k (by omega)
    · rw [if_neg e] at h
      exact absurd h e
theorem getW {l : List Wi} {k : Nat} (hk : k < l.length) : l.getD k zeW = l[k] := by simp [List.getD, hk]

section
variable (Ls : List ((Int × Int) × (Int × Int))) (Hs : List (ByteArray × (Int × Int))) (Ts : List (List Ru))
/-- Does what that host sends break a wish? -/
def brB (w : Wi) (x : ByteArray × (Int × Int)) (h : Int) : Bool := !fiB w x.1 (frF Ls Hs Ts x.2 h)
/-- The least of the first k headers that does, or -1. -/
def brH (w : Wi) (x : ByteArray × (Int × Int)) : Nat → Int
  | 0 => -1
  | k + 1 => if brH w x k < 0 then (if brB Ls Hs Ts w x (k : Int) then (k : Int) else -1) else brH w x k
def zeO : ByteArray × (Int × Int) := (ByteArray.empty, (0, 0))
/-- The first of k hosts that does, and its header. -/
def brX (w : Wi) (Xs : List (ByteArray × (Int × Int))) : Nat → Option (Nat × Int)
  | 0 => none
  | k + 1 => match brX w Xs k with
    | some x => some x
    | none => if 0 ≤ brH Ls Hs Ts w (Xs.getD k zeO) 16 then some (k, brH Ls Hs Ts w (Xs.getD k zeO) 16) else none
/-- The first of k wishes that is broken, and by what. -/
def brW (l : List Wi) (Xs : List (ByteArray × (Int × Int))) : Nat → Option (Nat × Nat × Int)
  | 0 => none
  | k + 1 => match brW l Xs k with
    | some x => some x
    | none => match brX Ls Hs Ts (l.getD k zeW) Xs Xs.length with
      | some p => some (k, p.1, p.2)
      | none => none
end
section
variable {Ls : List ((Int × Int) × (Int × Int))} {Hs : List (ByteArray × (Int × Int))} {Ts : List (List Ru)}
theorem brH_bd (w : Wi) (x : ByteArray × (Int × Int)) : ∀ k : Nat, -1 ≤ brH Ls Hs Ts w x k ∧ brH Ls Hs Ts w x k < k
  | 0 => by simp [brH]
  | k + 1 => by
    have := brH_bd w x k
    unfold brH
    split
    · split <;> omega
    · omega
theorem brH_le {w : Wi} {x : ByteArray × (Int × Int)} {k : Nat} (h : 0 ≤ brH Ls Hs Ts w x k) : ∀ {n : Nat}, k ≤ n → brH Ls Hs Ts w x n = brH Ls Hs Ts w x k
  | 0, hn => by
    obtain rfl : k = 0 := by omega
    rfl
  | n + 1, hn => by
    by_cases e : k = n + 1
    · subst e; rfl
    · have := brH_le h (show k ≤ n by omega)
      rw [brH, if_neg (by rw [this]; omega), this]
/-- The next one does not. -/
theorem brH_no {w : Wi} {x : ByteArray × (Int × Int)} {k : Nat} (h : brH Ls Hs Ts w x k < 0) (h2 : brB Ls Hs Ts w x (k : Int) = false) : brH Ls Hs Ts w x (k + 1) < 0 := by
  rw [brH, if_pos h, h2]
  simp
/-- The next one does. -/
theorem brH_yes {w : Wi} {x : ByteArray × (Int × Int)} {k : Nat} (hk : k < 16) (h : brH Ls Hs Ts w x k < 0) (h2 : brB Ls Hs Ts w x (k : Int) = true) : brH Ls Hs Ts w x 16 = k := by
  have e : brH Ls Hs Ts w x (k + 1) = k := by
    rw [brH, if_pos h, h2]
    simp
  rw [brH_le (k := k + 1) (by rw [e]; omega) (by omega), e]
theorem brH_some {w : Wi} {x : ByteArray × (Int × Int)} : ∀ {k : Nat}, 0 ≤ brH Ls Hs Ts w x k → brB Ls Hs Ts w x (brH Ls Hs Ts w x k) = true
  | 0, h => by simp [brH] at h
  | k + 1, h => by
    by_cases e : brH Ls Hs Ts w x k < 0
    · cases h2 : brB Ls Hs Ts w x (k : Int) with
      | false =>
        have := brH_no e h2
        omega
      | true =>
        have e2 : brH Ls Hs Ts w x (k + 1) = k := by
          rw [brH, if_pos e, h2]
          simp
        rw [e2]
        exact h2
    · have e2 : brH Ls Hs Ts w x (k + 1) = brH Ls Hs Ts w x k := by rw [brH, if_neg e]
      rw [e2]
      exact brH_some (by omega)
theorem brH_none {w : Wi} {x : ByteArray × (Int × Int)} : ∀ {k : Nat}, brH Ls Hs Ts w x k < 0 → ∀ j, j < k → brB Ls Hs Ts w x (j : Int) = false
  | 0, _, j, hj => by omega
  | k + 1, h, j, hj => by
    by_cases e : brH Ls Hs Ts w x k < 0
    · cases h2 : brB Ls Hs Ts w x (k : Int) with
      | false =>
        by_cases ej : j = k
        · subst ej; exact h2
        · exact brH_none e j (by omega)
      | true =>
        rw [brH, if_pos e, h2] at h
        simp at h
        omega
    · rw [brH, if_neg e] at h
      exact absurd h e
/-- Who does not ask is not broken. -/
theorem brB_off {w : Wi} {x : ByteArray × (Int × Int)} (h : abW w x.1 = false) (k : Int) : brB Ls Hs Ts w x k = false := by simp [brB, fiB, h]
theorem brH_off {w : Wi} {x : ByteArray × (Int × Int)} (h : abW w x.1 = false) : ∀ k : Nat, brH Ls Hs Ts w x k = -1
  | 0 => rfl
  | k + 1 => by
    rw [brH, brH_off h k, brB_off h]
    simp
variable {Xs : List (ByteArray × (Int × Int))}
theorem brX_le {w : Wi} {k : Nat} {p : Nat × Int} (h : brX Ls Hs Ts w Xs k = some p) : ∀ {n : Nat}, k ≤ n → brX Ls Hs Ts w Xs n = some p
  | 0, hn => by
    obtain rfl : k = 0 := by omega
    exact h
  | n + 1, hn => by
    by_cases e : k = n + 1
    · subst e; exact h
    · rw [brX, brX_le h (show k ≤ n by omega)]
theorem getO {Xs : List (ByteArray × (Int × Int))} {k : Nat} (hk : k < Xs.length) : Xs.getD k zeO = Xs[k] := by simp [List.getD, hk]
theorem brX_no {w : Wi} {k : Nat} (hk : k < Xs.length) (h : brX Ls Hs Ts w Xs k = none) (h2 : brH Ls Hs Ts w Xs[k] 16 < 0) : brX Ls Hs Ts w Xs (k + 1) = none := by
  rw [brX, h]
  simp only
  rw [getO hk, if_neg (by omega)]
theorem brX_yes {w : Wi} {k : Nat} (hk : k < Xs.length) (h : brX Ls Hs Ts w Xs k = none) (h2 : 0 ≤ brH Ls Hs Ts w Xs[k] 16) : brX Ls Hs Ts w Xs Xs.length = some (k, brH Ls Hs Ts w Xs[k] 16) := by
  refine brX_le (k := k + 1) ?_ (by omega)
  rw [brX, h]
  simp only
  rw [getO hk, if_pos h2]
theorem brX_some {w : Wi} : ∀ {k : Nat} {p : Nat × Int}, brX Ls Hs Ts w Xs k = some p → p.1 < k ∧ 0 ≤ p.2 ∧ p.2 < 16 ∧ brB Ls Hs Ts w (Xs.getD p.1 zeO) p.2 = true
  | 0, p, h => by cases h
  | k + 1, p, h => by
    rw [brX] at h
    cases e : brX Ls Hs Ts w Xs k with
    | some q =>
      rw [e] at h
      cases h
      obtain ⟨h1, h2⟩ := brX_some e
      exact ⟨by omega, h2⟩
    | none =>
      rw [e] at h
      simp only at h
      split at h
      · next h0 =>
        cases h
        have := brH_bd (Ls := Ls) (Hs := Hs) (Ts := Ts) w (Xs.getD k zeO) 16
        exact ⟨by simp, h0, by simp only; omega, brH_some h0⟩
      · cases h
theorem brX_none {w : Wi} : ∀ {k : Nat}, brX Ls Hs Ts w Xs k = none → ∀ j, j < k → ∀ h : Nat, h < 16 → brB Ls Hs Ts w (Xs.getD j zeO) (h : Int) = false
  | 0, _, j, hj => by omega
  | k + 1, h, j, hj => by
    rw [brX] at h
    cases e : brX Ls Hs Ts w Xs k with
    | some q => rw [e] at h; cases h
    | none =>
      rw [e] at h
      simp only at h
      split at h
      · cases h
      · next h0 =>
        by_cases ej : j = k
        · subst ej
          exact brH_none (by omega)
        · exact brX_none e j (by omega)
variable {l : List Wi}
theorem brW_le {k : Nat} {p : Nat × Nat × Int} (h : brW Ls Hs Ts l Xs k = some p) : ∀ {n : Nat}, k ≤ n → brW Ls Hs Ts l Xs n = some p
  | 0, hn => by
    obtain rfl : k = 0 := by omega
    exact h
  | n + 1, hn => by
    by_cases e : k = n + 1
    · subst e; exact h
    · rw [brW, brW_le h (show k ≤ n by omega)]
theorem brW_no {k : Nat} (hk : k < l.length) (h : brW Ls Hs Ts l Xs k = none) (h2 : brX Ls Hs Ts l[k] Xs Xs.length = none) : brW Ls Hs Ts l Xs (k + 1) = none := by
  rw [brW, h]
  simp only
  rw [getW hk, h2]
theorem brW_yes {k : Nat} (hk : k < l.length) (h : brW Ls Hs Ts l Xs k = none) {p : Nat × Int} (h2 : brX Ls Hs Ts l[k] Xs Xs.length = some p) : brW Ls Hs Ts l Xs l.length = some (k, p.1, p.2) := by
  refine brW_le (k := k + 1) ?_ (by omega)
  rw [brW, h]
  simp only
  rw [getW hk, h2]
theorem brW_some : ∀ {k : Nat} {p : Nat × Nat × Int}, brW Ls Hs Ts l Xs k = some p → p.1 < k ∧ p.2.1 < Xs.length ∧ 0 ≤ p.2.2 ∧ p.2.2 < 16 ∧ brB Ls Hs Ts (l.getD p.1 zeW) (Xs.getD p.2.1 zeO) p.2.2 = true
  | 0, p, h => by cases h
  | k + 1, p, h => by
    rw [brW] at h
    cases e : brW Ls Hs Ts l Xs k with
    | some q =>
      rw [e] at h
      cases h
      obtain ⟨h1, h2⟩ := brW_some e
      exact ⟨by omega, h2⟩
    | none =>
      rw [e] at h
      simp only at h
      cases e2 : brX Ls Hs Ts (l.getD k zeW) Xs Xs.length with
      | none => rw [e2] at h; cases h
      | some q =>
        rw [e2] at h
        cases h
        exact ⟨by simp, brX_some e2⟩
theorem brW_none : ∀ {k : Nat}, brW Ls Hs Ts l Xs k = none → ∀ i, i < k → ∀ j, j < Xs.length → ∀ h : Nat, h < 16 → brB Ls Hs Ts (l.getD i zeW) (Xs.getD j zeO) (h : Int) = false
  | 0, _, i, hi => by omega
  | k + 1, h, i, hi => by
    rw [brW] at h
    cases e : brW Ls Hs Ts l Xs k with
    | some q => rw [e] at h; cases h
    | none =>
      rw [e] at h
      simp only at h
      cases e2 : brX Ls Hs Ts (l.getD k zeW) Xs Xs.length with
      | some q => rw [e2] at h; cases h
      | none =>
        by_cases ei : i = k
        · subst ei
          exact brX_none e2
        · exact brW_none e i (by omega)
end
/-- What is told of wishes that do not hold. -/
def prV (Hs : List (ByteArray × (Int × Int))) : Option (Nat × Nat × Int) → Int × ByteArray × Int
  | none => (0, ByteArray.empty, 0)
  | some p => ((p.1 : Int), (Hs.getD p.2.1 zeO).1, p.2.2)
/-- The answers of Holds. -/
def wiN (S : Int) (Ls : List ((Int × Int) × (Int × Int))) (Hs : List (ByteArray × (Int × Int))) (Ts : List (List Ru)) (l : List Wi) : Int :=
  if ntN S Ls Hs Ts = 0 then (if wsN S Ls Hs l = 0 then (if (brW Ls Hs Ts l Hs l.length).isSome then 9 else 0) else wsN S Ls Hs l) else ntN S Ls Hs Ts
def wiV (S : Int) (Ls : List ((Int × Int) × (Int × Int))) (Hs : List (ByteArray × (Int × Int))) (Ts : List (List Ru)) (l : List Wi) : Int × ByteArray × Int :=
  if ntN S Ls Hs Ts = 0 ∧ wsN S Ls Hs l = 0 then prV Hs (brW Ls Hs Ts l Hs l.length) else (0, ByteArray.empty, 0)
end Go.Proofs.YtfbocionnjliladDoor
/- What the laws ask of wishes: plain lists. No program in it. -/
namespace Go.Proofs.YtfbocionnjliladDoor
open Go.RowKit
set_option linter.unusedVariables false

section
variable {S : Int}
theorem lk_9 : ∀ (Ls : List ((Int × Int) × (Int × Int))) (U : List (Int × Int)), lkN S Ls U ≠ 9
  | [], _ => by simp [lkN]
  | l :: Ls, U => by
    unfold lkN
    split
    · split
      · decide
      · exact lk_9 Ls _
    · decide
theorem hs_9 : ∀ (Hs : List (ByteArray × (Int × Int))) (N : List ByteArray) (U : List (Int × Int)), hoN S Hs N U ≠ 9
  | [], _, _ => by simp [hoN]
  | h :: Hs, N, U => by
    unfold hoN
    split
    · split
      · split
        · decide
        · exact hs_9 Hs _ _
      · decide
    · decide
variable {Ls : List ((Int × Int) × (Int × Int))} {Hs : List (ByteArray × (Int × Int))} {Ts : List (List Ru)} {l : List Wi}
theorem tp_9 : tpN S Ls Hs ≠ 9 := by
  unfold tpN
  split
  · split
    · split
      · exact hs_9 _ _ _
      · exact lk_9 _ _
    · decide
  · decide
theorem tt_9 (L : List Ru) : ∀ k, tbTo L k ≠ 9
  | 0 => by simp [tbTo]
  | k + 1 => by
    unfold tbTo
    have h := ruN_bd (L.getD k zeR).p (L.getD k zeR).m (L.getD k zeR).b (L.getD k zeR).o (L.getD k zeR).s (L.getD k zeR).v
    have e : (L.getD k zeR).n = ruN (L.getD k zeR).p (L.getD k zeR).m (L.getD k zeR).b (L.getD k zeR).o (L.getD k zeR).s (L.getD k zeR).v := rfl
    rw [← e] at h
    split
    · split
      · split <;> decide
      · omega
    · exact tt_9 L k
theorem tb_9 (L : List Ru) : tbN L ≠ 9 := by
  unfold tbN
  split
  · decide
  · exact tt_9 L _
theorem ts_9 : ∀ k, tsTo Ts k ≠ 9
  | 0 => by simp [tsTo]
  | k + 1 => by
    unfold tsTo
    split
    · exact tb_9 _
    · exact ts_9 k
theorem nt_9 : ntN S Ls Hs Ts ≠ 9 := by
  unfold ntN
  split
  · split
    · exact ts_9 _
    · decide
  · exact tp_9
theorem wo_9 (w : Wi) : woN S Hs w ≠ 9 := by
  unfold woN
  split
  · decide
  · split
    · split <;> decide
    · split <;> decide
theorem wt_9 : ∀ k, wsTo S Hs l k ≠ 9
  | 0 => by simp [wsTo]
  | k + 1 => by
    unfold wsTo
    split
    · exact wo_9 _
    · exact wt_9 k
theorem ws_9 : wsN S Ls Hs l ≠ 9 := by
  unfold wsN
  split
  · split
    · decide
    · exact wt_9 _
  · exact tp_9
theorem wi_9 (h : wiN S Ls Hs Ts l = 9) : ntN S Ls Hs Ts = 0 ∧ wsN S Ls Hs l = 0 ∧ ∃ p, brW Ls Hs Ts l Hs l.length = some p := by
  unfold wiN at h
  by_cases h1 : ntN S Ls Hs Ts = 0
  · rw [if_pos h1] at h
    by_cases h2 : wsN S Ls Hs l = 0
    · rw [if_pos h2] at h
      refine ⟨h1, h2, ?_⟩
      cases e : brW Ls Hs Ts l Hs l.length with
      | some p => exact ⟨p, rfl⟩
      | none => rw [e] at h; simp at h
    · rw [if_neg h2] at h
      exact absurd h ws_9
  · rw [if_neg h1] at h
    exact absurd h nt_9
theorem wi_0 (h : wiN S Ls Hs Ts l = 0) : ntN S Ls Hs Ts = 0 ∧ wsN S Ls Hs l = 0 ∧ brW Ls Hs Ts l Hs l.length = none := by
  unfold wiN at h
  by_cases h1 : ntN S Ls Hs Ts = 0
  · rw [if_pos h1] at h
    by_cases h2 : wsN S Ls Hs l = 0
    · rw [if_pos h2] at h
      refine ⟨h1, h2, ?_⟩
      cases e : brW Ls Hs Ts l Hs l.length with
      | none => rfl
      | some p => rw [e] at h; simp at h
    · rw [if_neg h2] at h
      exact absurd h h2
  · rw [if_neg h1] at h
    exact absurd h h1
theorem where_mem : ∀ {Hs : List (ByteArray × (Int × Int))}, (Hs.map (·.1)).Nodup → ∀ x ∈ Hs, whereO Hs x.1 = some x.2
  | [], _, x, hx => by cases hx
  | y :: Hs, hn, x, hx => by
    simp only [List.map_cons, List.nodup_cons] at hn
    unfold whereO
    rcases List.mem_cons.1 hx with rfl | hm
    · rw [if_pos (ba_eq.2 rfl)]
    · rw [if_neg]
      · exact where_mem hn.2 x hm
      · intro e
        refine hn.1 ?_
        rw [ba_eq.1 e]
        exact List.mem_map_of_mem hm
theorem se_of (hn : ntN S Ls Hs Ts = 0) {x : ByteArray × (Int × Int)} (hx : x ∈ Hs) {h : Int} (hh : hdrB h = true) : seN S Ls Hs Ts x.1 h = 0 ∧ seV S Ls Hs Ts x.1 h = frF Ls Hs Ts x.2 h := by
  have ht := (nt_0 hn).1
  have hw := where_mem (tp_0 ht).2.2.2.2.2.1 x hx
  have e1 : weN S Ls Hs x.1 = 0 := by rw [weN, if_pos ht, hw]; rfl
  have e2 : weV S Ls Hs x.1 = x.2 := by rw [weV, if_pos e1, hw]; rfl
  have e3 : seN S Ls Hs Ts x.1 h = 0 := by rw [seN, if_pos hn, if_pos e1, hh]; rfl
  exact ⟨e3, by rw [seV, if_pos e3, e2]⟩
theorem se_0 {m : ByteArray} {h : Int} (hs : seN S Ls Hs Ts m h = 0) : ntN S Ls Hs Ts = 0 ∧ hdrB h = true ∧ (m, weV S Ls Hs m) ∈ Hs ∧ seV S Ls Hs Ts m h = frF Ls Hs Ts (weV S Ls Hs m) h := by
  have hs2 := hs
  unfold seN at hs
  by_cases h1 : ntN S Ls Hs Ts = 0
  · rw [if_pos h1] at hs
    by_cases h2 : weN S Ls Hs m = 0
    · rw [if_pos h2] at hs
      have h2' := h2
      rw [weN, if_pos (nt_0 h1).1] at h2'
      cases h3 : hdrB h with
      | false => rw [h3] at hs; simp at hs
      | true =>
        refine ⟨h1, rfl, ?_, by rw [seV, if_pos hs2]⟩
        rw [weV, if_pos h2]
        cases hw : whereO Hs m with
        | none => rw [hw] at h2'; simp at h2'
        | some p => exact where_in hw
    · rw [if_neg h2] at hs
      exact absurd hs h2
  · rw [if_neg h1] at hs
    exact absurd hs h1
theorem hd_of {h : Int} (h0 : 0 ≤ h) (h1 : h < 16) : hdrB h = true := by
  obtain ⟨k, rfl⟩ : ∃ k : Nat, h = (k : Int) := ⟨h.toNat, by omega⟩
  have : ∀ f : Fin 16, hdrB ((f : Nat) : Int) = true := by decide +kernel
  exact this ⟨k, by omega⟩
theorem hd_in {h : Int} (hh : hdrB h = true) : ∃ k : Nat, h = (k : Int) ∧ k < 16 := by
  obtain ⟨h', rfl⟩ := small (hdr_of hh)
  exact ⟨h'.val, rfl, h'.isLt⟩
/-- What it names was sent, and breaks the wish it names. -/
theorem wish_shown (h : wiN S Ls Hs Ts l = 9) : ∃ i : Nat, i < l.length ∧ (wiV S Ls Hs Ts l).1 = (i : Int) ∧ seN S Ls Hs Ts (wiV S Ls Hs Ts l).2.1 (wiV S Ls Hs Ts l).2.2 = 0 ∧ fiB (l.getD i zeW) (wiV S Ls Hs Ts l).2.1 (seV S Ls Hs Ts (wiV S Ls Hs Ts l).2.1 (wiV S Ls Hs Ts l).2.2) = false := by
  obtain ⟨h1, h2, p, h3⟩ := wi_9 h
  obtain ⟨g1, g2, g3, g4, g5⟩ := brW_some h3
  have e : wiV S Ls Hs Ts l = ((p.1 : Int), (Hs.getD p.2.1 zeO).1, p.2.2) := by
    rw [wiV, if_pos ⟨h1, h2⟩, h3]
    rfl
  have hm : Hs.getD p.2.1 zeO ∈ Hs := by
    rw [getO g2]
    exact List.getElem_mem g2
  obtain ⟨k1, k2⟩ := se_of h1 hm (hd_of g3 g4)
  refine ⟨p.1, g1, by rw [e], by rw [e]; exact k1, ?_⟩
  rw [e]
  simp only
  rw [k2]
  simpa [brB] using g5
/-- Where they hold whatever is sent fits. -/
theorem wish_all (h : wiN S Ls Hs Ts l = 0) {m : ByteArray} {a : Int} (hs : seN S Ls Hs Ts m a = 0) : ∀ i : Nat, i < l.length → fiB (l.getD i zeW) m (seV S Ls Hs Ts m a) = true := by
  intro i hi
  obtain ⟨h1, h2, h3⟩ := wi_0 h
  obtain ⟨g1, g2, g3, g4⟩ := se_0 hs
  obtain ⟨k, rfl, hk⟩ := hd_in g2
  obtain ⟨j, hj, e⟩ := List.getElem_of_mem g3
  have := brW_none h3 i hi j hj k hk
  rw [getO hj, e] at this
  rw [g4]
  simpa [brB] using this
theorem one_at (w : Wi) : [w].getD 0 zeW = w := rfl
/-- Not both. -/
theorem wish_both {f t : ByteArray} (h1 : wiN S Ls Hs Ts [⟨1, f, t, 0⟩] = 0) (h2 : wiN S Ls Hs Ts [⟨2, f, t, 0⟩] = 0) : False := by
  obtain ⟨g1, g2, g3⟩ := wi_0 h1
  obtain ⟨_, _, k3⟩ := wi_0 h2
  have ht := (nt_0 g1).1
  have hw : woN S Hs ⟨1, f, t, 0⟩ = 0 := by
    rw [wsN, if_pos ht, if_neg (by simp)] at g2
    exact ws_0 (n := 1) g2 0 (by omega)
  have hf : hoB Hs f = true := by
    unfold woN at hw
    split at hw
    · cases hw
    · rw [if_neg (by simp)] at hw
      split at hw
      · next e => rw [Bool.and_eq_true] at e; exact e.1
      · cases hw
  obtain ⟨x, hx, e⟩ := List.any_eq_true.1 hf
  have e := ba_eq.1 e
  obtain ⟨j, hj, ej⟩ := List.getElem_of_mem hx
  have a1 := brW_none g3 0 (by simp) j hj 0 (by omega)
  have a2 := brW_none k3 0 (by simp) j hj 0 (by omega)
  rw [getO hj, ej, one_at] at a1 a2
  have ab1 : abW ⟨1, f, t, 0⟩ x.1 = true := by rw [abW, e]; simp [ba_eq.2 rfl]
  have ab2 : abW ⟨2, f, t, 0⟩ x.1 = true := by rw [abW, e]; simp [ba_eq.2 rfl]
  have b1 : fiB ⟨1, f, t, 0⟩ x.1 (frF Ls Hs Ts x.2 ((0 : Nat) : Int)) = true := by simpa [brB] using a1
  have b2 : fiB ⟨2, f, t, 0⟩ x.1 (frF Ls Hs Ts x.2 ((0 : Nat) : Int)) = true := by simpa [brB] using a2
  rw [fiB, if_pos ab1, if_pos rfl] at b1
  rw [fiB, if_pos ab2, if_neg (by simp), if_pos rfl] at b2
  have e3 : thW ⟨1, f, t, 0⟩ (frF Ls Hs Ts x.2 ((0 : Nat) : Int)) = thW ⟨2, f, t, 0⟩ (frF Ls Hs Ts x.2 ((0 : Nat) : Int)) := rfl
  rw [← e3, b1] at b2
  cases b2
/-- The first hop is where it was sent. -/
theorem fr_first (s : Int × Int) (h : Int) : haW s.1 (frF Ls Hs Ts s h).2.2 = true := by
  have hch : ChH Ls Hs Ts [(s, h)] := fun i hi => by simp at hi
  obtain ⟨rest, e1, _⟩ := fo_spec (Ls := Ls) (Hs := Hs) (Ts := Ts) 24 [(s, h)] (by simp) (by simp) (by omega) (by simp) hch
  unfold frF haW
  rw [e1]
  simp
/-- A way by the host's own switch. -/
theorem wish_way {f t : ByteArray} (hw : weN S Ls Hs f = 0) : wiN S Ls Hs Ts [⟨3, f, t, (weV S Ls Hs f).1⟩] ≠ 9 := by
  intro h
  obtain ⟨h1, h2, p, h3⟩ := wi_9 h
  obtain ⟨g1, g2, g3, g4, g5⟩ := brW_some h3
  have ht := (nt_0 h1).1
  have e0 : p.1 = 0 := by simp at g1; omega
  rw [e0, one_at] at g5
  have hm : Hs.getD p.2.1 zeO ∈ Hs := by
    rw [getO g2]
    exact List.getElem_mem g2
  have hx := where_mem (tp_0 ht).2.2.2.2.2.1 _ hm
  generalize Hs.getD p.2.1 zeO = x at g5 hm hx
  have g6 : fiB ⟨3, f, t, (weV S Ls Hs f).1⟩ x.1 (frF Ls Hs Ts x.2 p.2.2) = false := by simpa [brB] using g5
  unfold fiB at g6
  split at g6
  · next ab =>
    have e : f = x.1 := by
      simpa [abW, ba_eq] using ab
    have ev : (weV S Ls Hs f).1 = x.2.1 := by
      rw [weV, if_pos hw, e, hx]
      rfl
    rw [if_neg (by simp), if_neg (by simp), if_pos rfl] at g6
    simp only [ev] at g6
    rw [fr_first, Bool.or_true] at g6
    cases g6
  · cases g6
end
/-- The fact that is tried first. -/
theorem wish_one : wiN 1 [] [(⟨#[97]⟩, (1, 2))] [[]] [⟨1, ⟨#[97]⟩, ⟨#[97]⟩, 0⟩] = 9 ∧ (wiV 1 [] [(⟨#[97]⟩, (1, 2))] [[]] [⟨1, ⟨#[97]⟩, ⟨#[97]⟩, 0⟩]).2.1.data = #[97] ∧ (wiV 1 [] [(⟨#[97]⟩, (1, 2))] [[]] [⟨1, ⟨#[97]⟩, ⟨#[97]⟩, 0⟩]).2.2 = 0 := by decide +kernel
theorem clash_one (f t : ByteArray) : fiB ⟨1, f, t, 0⟩ f (1, t, []) = true ∧ fiB ⟨2, f, t, 0⟩ f (1, t, []) = false := by
  have ab1 : abW ⟨1, f, t, 0⟩ f = true := by rw [abW]; simp [ba_eq.2 rfl]
  have ab2 : abW ⟨2, f, t, 0⟩ f = true := by rw [abW]; simp [ba_eq.2 rfl]
  have h1 : thW ⟨1, f, t, 0⟩ (1, t, []) = true := by rw [thW]; simp [ba_eq.2 rfl]
  have h2 : thW ⟨2, f, t, 0⟩ (1, t, []) = true := by rw [thW]; simp [ba_eq.2 rfl]
  rw [fiB, if_pos ab1, if_pos rfl, h1, fiB, if_pos ab2, if_neg (by simp), if_pos rfl, h2]
  exact ⟨rfl, rfl⟩
end Go.Proofs.YtfbocionnjliladDoor
/- The struct api.Wish: its cells, slices of them, == of two, such that came in. Written by mk/struct.py. -/
namespace Go.Proofs.YtfbocionnjliladDoor
open Go.ChangeShapes Go.WideShapes Go.ChangeAt Go.RowKit Go.Joins
set_option linter.unusedSimpArgs false
set_option linter.unusedVariables false
set_option maxRecDepth 100000

def wisE : Enc (Wi) where
  c := fun x => [.int .i64 x.k, .string x.f, .string x.t, .int .i64 x.v]
  n := 4
  len := fun _ => rfl
  pos := by decide
  one := by
    intro x u hu
    simp at hu
    rcases hu with rfl | rfl | rfl | rfl <;> rfl
theorem wis_cells {w : World} {g o : Nat} {x0 : Int} {x1 : ByteArray} {x2 : ByteArray} {x3 : Int} (h : VAt w g o (wisE.c ⟨x0, x1, x2, x3⟩)) : w.cell? ⟨g, o, none⟩ = some (.int .i64 x0) ∧ w.cell? ⟨g, o + 1, none⟩ = some (.string x1) ∧ w.cell? ⟨g, o + 2, none⟩ = some (.string x2) ∧ w.cell? ⟨g, o + 3, none⟩ = some (.int .i64 x3) :=
  ⟨h 0 _ rfl, h 1 _ rfl, h 2 _ rfl, h 3 _ rfl⟩
theorem wis_at {w : World} {g o : Nat} {L : List (Wi)} (h : GAt wisE w g o L) {n k : Nat} (hn : L.length = n) (hk : k < n) :
    ∃ (x0 : Int) (x1 : ByteArray) (x2 : ByteArray) (x3 : Int) (hl : k < L.length), L[k] = ⟨x0, x1, x2, x3⟩ ∧ w.cell? ⟨g, o + k * 4, none⟩ = some (.int .i64 x0) ∧ w.cell? ⟨g, o + k * 4 + 1, none⟩ = some (.string x1) ∧ w.cell? ⟨g, o + k * 4 + 2, none⟩ = some (.string x2) ∧ w.cell? ⟨g, o + k * 4 + 3, none⟩ = some (.int .i64 x3) :=
  have hl : k < L.length := by omega
  ⟨_, _, _, _, hl, rfl, wis_cells (h k hl)⟩
theorem wis_new (w : World) (x0 : Int) (x1 : ByteArray) (x2 : ByteArray) (x3 : Int) (t : TypeId) : VAt (w.alloc (Obj.cells #[.int .i64 x0, .string x1, .string x2, .int .i64 x3] t)) w.heap.size 0 (wisE.c ⟨x0, x1, x2, x3⟩) := vat_new w [.int .i64 x0, .string x1, .string x2, .int .i64 x3] t
theorem wis_row (w : World) (x0 : Int) (x1 : ByteArray) (x2 : ByteArray) (x3 : Int) (t : TypeId) : GS wisE (w.alloc (Obj.cells #[.int .i64 x0, .string x1, .string x2, .int .i64 x3] t)) (.slice (some ⟨w.heap.size, 0, none⟩) 1 1) [⟨x0, x1, x2, x3⟩] := gs_one (E := wisE) w ⟨x0, x1, x2, x3⟩ t (vs := [.int .i64 x0, .string x1, .string x2, .int .i64 x3]) rfl
/-- Are two the same? -/
def wisB (a b : Wi) : Bool := (a.k == b.k) && ((a.f == b.f) && ((a.t == b.t) && ((a.v == b.v))))
theorem wis_ways (x0 : Int) (x1 : ByteArray) (x2 : ByteArray) (x3 : Int) (y0 : Int) (y1 : ByteArray) (y2 : ByteArray) (y3 : Int) :
    ((x0 == y0) = false ∧ wisB ⟨x0, x1, x2, x3⟩ ⟨y0, y1, y2, y3⟩ = false) ∨
    ((x0 == y0) = true ∧ (x1.toList == y1.toList) = false ∧ wisB ⟨x0, x1, x2, x3⟩ ⟨y0, y1, y2, y3⟩ = false) ∨
    ((x0 == y0) = true ∧ (x1.toList == y1.toList) = true ∧ (x2.toList == y2.toList) = false ∧ wisB ⟨x0, x1, x2, x3⟩ ⟨y0, y1, y2, y3⟩ = false) ∨
    ((x0 == y0) = true ∧ (x1.toList == y1.toList) = true ∧ (x2.toList == y2.toList) = true ∧ (x3 == y3) = false ∧ wisB ⟨x0, x1, x2, x3⟩ ⟨y0, y1, y2, y3⟩ = false) ∨
    ((x0 == y0) = true ∧ (x1.toList == y1.toList) = true ∧ (x2.toList == y2.toList) = true ∧ (x3 == y3) = true ∧ wisB ⟨x0, x1, x2, x3⟩ ⟨y0, y1, y2, y3⟩ = true) := by
  have e : wisB ⟨x0, x1, x2, x3⟩ ⟨y0, y1, y2, y3⟩ = ((x0 == y0) && ((x1.toList == y1.toList) && ((x2.toList == y2.toList) && ((x3 == y3))))) := by simp only [wisB, beq_toListBytes]
  rw [e]
  cases h0 : (x0 == y0)
  · simp
  · skip
    cases h1 : (x1.toList == y1.toList)
    · simp
    · skip
      cases h2 : (x2.toList == y2.toList)
      · simp
      · skip
        cases h3 : (x3 == y3)
        · simp
        · skip
          simp
set_option maxRecDepth 100000 in
theorem wis_eq (x0 : Int) (x1 : ByteArray) (x2 : ByteArray) (x3 : Int) (y0 : Int) (y1 : ByteArray) (y2 : ByteArray) (y3 : Int) (w : World) : (Op.equal 61 (.agg #[.int .i64 x0, .string x1, .string x2, .int .i64 x3]) (.agg #[.int .i64 y0, .string y1, .string y2, .int .i64 y3])).run Tryd.prog w = .ok (wisB ⟨x0, x1, x2, x3⟩ ⟨y0, y1, y2, y3⟩) w := by
  unfold Op.equal Op.maxDepth
  rw [run_equalIn_struct w 9999 _ _ _ (by kernel_rfl) (by kernel_rfl)]
  rcases wis_ways x0 x1 x2 x3 y0 y1 y2 y3 with ⟨e0, e⟩ | ⟨e0, e1, e⟩ | ⟨e0, e1, e2, e⟩ | ⟨e0, e1, e2, e3, e⟩ | ⟨e0, e1, e2, e3, e⟩
  all_goals
    rw [e]
    go_simp
theorem wis_info : (Tryd.prog.info? 61).map (fun i => (i.zero, i.size, i.bytes)) = some (some (.agg #[.int .i64 0, .string ByteArray.empty, .string ByteArray.empty, .int .i64 0]), 4, 48) := by kernel_rfl
theorem wis_zero : (Value.agg #[.int .i64 0, .string ByteArray.empty, .string ByteArray.empty, .int .i64 0]).cells.size = 4 := by simp [Value.cells]
/-- Cells that read as one. -/
theorem wis_open {H : Type} {enc : TypeId × Value → H} {W : World} {n : Nat} {cs : List Value} {x : DataW H × List MemPlace}
    (h : DataW.trod enc Tryd.prog W 0 (fun _ => true) true n 61 cs = some x) : ∃ y, cs = wisE.c y := by
  obtain ⟨xs, k, _, _, hl, hlen, hf⟩ := DataW.trod_struct Tryd.underlying61 h
  have hC : Tryd.prog.cellsOf 61 = 4 := by kernel_rfl
  have hT0 : Tryd.prog.cellsOf 3 = 1 := by kernel_rfl
  have hT1 : Tryd.prog.cellsOf 9 = 1 := by kernel_rfl
  rw [hC] at hl
  match cs, hl with
  | [c0, c1, c2, c3], _ =>
    match xs, hlen with
    | [z0, z1, z2, z3], _ =>
      have g0 := hf 0 _ rfl
      have g1 := hf 1 _ rfl
      have g2 := hf 2 _ rfl
      have g3 := hf 3 _ rfl
      simp [hT0, hT1] at g0 g1 g2 g3
      obtain ⟨v0, e0, _, _⟩ := DataW.trod_int Tryd.underlying3 g0
      obtain ⟨v1, e1, _, _⟩ := DataW.trod_string Tryd.underlying9 g1
      obtain ⟨v2, e2, _, _⟩ := DataW.trod_string Tryd.underlying9 g2
      obtain ⟨v3, e3, _, _⟩ := DataW.trod_int Tryd.underlying3 g3
      simp [] at e0 e1 e2 e3
      refine ⟨⟨v0, v1, v2, v3⟩, ?_⟩
      simp [wisE, e0, e1, e2, e3]
set_option maxRecDepth 100000 in
/-- One that came in. -/
theorem wis_of {H : Type} {enc : TypeId × Value → H} {W : World} {base : Nat} {v : Value} {d : DataW H} {p : List MemPlace}
    (hv : Value.okWide Tryd.prog W .any base 61 v) (h : DataW.Trod enc Tryd.prog W 0 (fun _ => true) true 61 v d p) : ∃ (x0 : Int) (x1 : ByteArray) (x2 : ByteArray) (x3 : Int), v = .agg #[.int .i64 x0, .string x1, .string x2, .int .i64 x3] := by
  obtain ⟨cs, rfl, hsz⟩ := okWide_struct Tryd.underlying61 hv
  obtain ⟨n, hn⟩ := h
  obtain ⟨y, e⟩ := wis_open hn
  refine ⟨y.k, y.f, y.t, y.v, ?_⟩
  simp only [Value.cells] at e
  have e2 : cs = #[.int .i64 y.k, .string y.f, .string y.t, .int .i64 y.v] := by
    rw [← Array.toArray_toList (xs := cs), e]
    rfl
  rw [e2]
/-- A slice of them that came in. -/
theorem wiss_of {H : Type} {enc : TypeId × Value → H} {W : World} {base : Nat} {v : Value} {d : DataW H} {p : List MemPlace}
    (hv : Value.okWide Tryd.prog W .any base 51 v) (h : DataW.Trod enc Tryd.prog W 0 (fun _ => true) true 51 v d p) : ∃ L, GS wisE W v L :=
  gs_of (E := wisE) 51 61 Tryd.underlying51 (by kernel_rfl) ⟨0, ByteArray.empty, ByteArray.empty, 0⟩ (fun _ _ _ h => wis_open h) hv h
end Go.Proofs.YtfbocionnjliladDoor
/- What isSwitch, isSpot and joins of package topo answer: contracts for the walks above them. -/
namespace Go.Proofs.YtfbocionnjliladDoor
open Go.RowKit
set_option linter.unusedSimpArgs false
set_option linter.unusedVariables false

set_option maxHeartbeats 1000000 in
theorem isSwitch_any (S a : Int) (w : World) :
    Calls Tryd.prog 94 #[.int .i64 S, .int .i64 a] w fun e w' => e = .returned (.bool (swB S a)) ∧ Below w.heap.size w w' := by
  by_cases h1 : 1 ≤ a
  · by_cases h2 : a ≤ S
    · have e : swB S a = true := sw_of.2 ⟨h1, h2⟩
      rw [e]
      clear e
      go_enter Tryd.func94, Tryd.ntmps94
      go_wp2
      go_ret
      exact ⟨rfl, Below.refl _ _⟩
    · have e : swB S a = false := by simp [swB, h2]
      rw [e]
      clear e
      go_enter Tryd.func94, Tryd.ntmps94
      go_wp2
      go_ret
      exact ⟨rfl, Below.refl _ _⟩
  · have e : swB S a = false := by simp [swB, h1]
    rw [e]
    clear e
    go_enter Tryd.func94, Tryd.ntmps94
    go_wp2
    go_ret
    exact ⟨rfl, Below.refl _ _⟩
set_option maxHeartbeats 1000000 in
theorem isSpot_any (S x y : Int) (w : World) :
    Calls Tryd.prog 86 #[.int .i64 S, .agg #[.int .i64 x, .int .i64 y]] w fun e w' => e = .returned (.bool (spB S (x, y))) ∧ Below w.heap.size w w' := by
  have HB0 : Hid (Below w.heap.size w (w.alloc (Obj.cells #[Value.int IntKind.i64 x, Value.int IntKind.i64 y] 53))) := (Below.refl _ _).alloc (Nat.le_refl _) _
  have hlt : w.heap.size < (w.alloc (Obj.cells #[Value.int IntKind.i64 x, Value.int IntKind.i64 y] 53)).heap.size := by simp
  have c0 : (w.alloc (Obj.cells #[Value.int IntKind.i64 x, Value.int IntKind.i64 y] 53)).cell? ⟨w.heap.size, 0, none⟩ = some (.int .i64 x) := by simp
  have c1 : (w.alloc (Obj.cells #[Value.int IntKind.i64 x, Value.int IntKind.i64 y] 53)).cell? ⟨w.heap.size, 1, none⟩ = some (.int .i64 y) := by simp
  cases hs : swB S x
  · have e : spB S (x, y) = false := by
      cases h : spB S (x, y)
      · rfl
      · have := sp_of h
        have h2 := sw_of.2 ⟨this.1, this.2.1⟩
        rw [hs] at h2
        cases h2
    rw [e]
    clear e
    go_enter Tryd.func86, Tryd.ntmps86
    go_wp2_with fail
    refine (isSwitch_any S x _).mono ?_
    rintro e w1 ⟨rfl, hb1⟩
    rw [hs]
    have HB1 : Hid (Below w.heap.size w w1) := HB0.out.trans (hb1.mono HB0.out.size)
    clear hb1 c0 c1
    go_wp2
    go_ret
    exact ⟨rfl, HB1.out⟩
  · have hw := sw_of.1 hs
    have e : spB S (x, y) = (decide (1 ≤ y) && decide (y ≤ 4)) := by simp [spB, hw.1, hw.2]
    rw [e]
    clear e hw
    have walk : ∀ r : Bool, r = (decide (1 ≤ y) && decide (y ≤ 4)) → Calls Tryd.prog 86 #[.int .i64 S, .agg #[.int .i64 x, .int .i64 y]] w fun e w' => e = .returned (.bool r) ∧ Below w.heap.size w w' := by
      intro r hr
      by_cases h1 : 1 ≤ y
      · by_cases h2 : y ≤ 4
        · have e : r = true := by rw [hr]; simp [h1, h2]
          subst e
          clear hr
          go_enter Tryd.func86, Tryd.ntmps86
          go_wp2_with fail
          refine (isSwitch_any S x _).mono ?_
          rintro e w1 ⟨rfl, hb1⟩
          rw [hs]
          have HB1 : Hid (Below w.heap.size w w1) := HB0.out.trans (hb1.mono HB0.out.size)
          have d1 := cell_later hb1 c1
          clear hb1 c0 c1
          go_wp2
          go_ret
          exact ⟨rfl, HB1.out⟩
        · have e : r = false := by rw [hr]; simp [h2]
          subst e
          clear hr
          go_enter Tryd.func86, Tryd.ntmps86
          go_wp2_with fail
          refine (isSwitch_any S x _).mono ?_
          rintro e w1 ⟨rfl, hb1⟩
          rw [hs]
          have HB1 : Hid (Below w.heap.size w w1) := HB0.out.trans (hb1.mono HB0.out.size)
          have d1 := cell_later hb1 c1
          have hd : decide (y ≤ 4) = false := by simp [h2]
          clear hb1 c0 c1
          go_wp2
          go_ret
          exact ⟨by first | rfl | simp [h2], HB1.out⟩
      · have e : r = false := by rw [hr]; simp [h1]
        subst e
        clear hr
        go_enter Tryd.func86, Tryd.ntmps86
        go_wp2_with fail
        refine (isSwitch_any S x _).mono ?_
        rintro e w1 ⟨rfl, hb1⟩
        rw [hs]
        have HB1 : Hid (Below w.heap.size w w1) := HB0.out.trans (hb1.mono HB0.out.size)
        have d1 := cell_later hb1 c1
        clear hb1 c0 c1
        go_wp2
        go_ret
        exact ⟨rfl, HB1.out⟩
    exact walk _ rfl
end Go.Proofs.YtfbocionnjliladDoor
/- A spot as a key of a map; numbers and texts as keys. -/
namespace Go.Proofs.YtfbocionnjliladDoor
open Go.RowKit

set_option maxRecDepth 100000 in
theorem spotEq (a b c d : Int) (w : World) : (Op.equal 53 (.agg #[.int .i64 a, .int .i64 b]) (.agg #[.int .i64 c, .int .i64 d])).run Tryd.prog w = .ok (a == c && b == d) w := by
  unfold Op.equal Op.maxDepth
  rw [run_equalIn_struct w 9999 _ _ _ (by kernel_rfl) (by kernel_rfl)]
  cases h1 : (a == c)
  · go_simp
  · cases h2 : (b == d)
    · go_simp
    · go_simp
set_option maxRecDepth 100000 in
theorem spotCheck (e : Bool) (a b : Int) (w : World) : (Instr.checkKey e 10000 53 (.agg #[.int .i64 a, .int .i64 b])).run Tryd.prog w = .ok () w := by
  have h : ∀ (x : Int) (w : World), (Instr.checkKey e 9999 3 (.int .i64 x)).run Tryd.prog w = .ok () w := fun x w => Go.MapKept.run_checkKey Tryd.underlying3 (by simp [Go.MapKept.IsKey]) e 9998
  rw [Instr.checkKey]
  go_simp
def spotKey : KeyE Tryd.prog 53 (Int × Int) :=
  KeyE.ask (fun k => .agg #[.int .i64 k.1, .int .i64 k.2]) sq sq_iff (fun e k w => spotCheck e k.1 k.2 w) _ (show Tryd.prog.underlying 53 = some (.struct (Tryd.prog.fieldsOf 53)) by kernel_rfl) (fun a b => rfl) (fun a b w => spotEq a.1 a.2 b.1 b.2 w) (fun k => by simp [Instr.sameBits])
def intKey : KeyE Tryd.prog 3 Int :=
  KeyE.now (fun k => .int .i64 k) qI qI_iff (fun e k w => Go.MapKept.run_checkKey Tryd.underlying3 (by simp [Go.MapKept.IsKey]) e 9999) _ Tryd.underlying3 (fun a b => by simp [Instr.sameNow, qI]) (fun k => by simp [Instr.sameBits])
def strKey : KeyE Tryd.prog 9 ByteArray :=
  KeyE.now (fun k => .string k) (fun a b => a == b) ba_iff (fun e k w => Go.MapKept.run_checkKey Tryd.underlying9 (by simp [Go.MapKept.IsKey]) e 9999) _ Tryd.underlying9 (fun a b => by simp [Instr.sameNow, beq_toListBytes]) (fun k => by simp [Instr.sameBits, (ba_iff k k).2 rfl])
/-- Numbers as elements. -/
def veI (n : Int) : Value := .int .i64 n
section
variable {P : Program} {K : TypeId} {κ : Type} {E : KeyE P K κ} {w : World} {ops : Array Oper} {rest : List Oper} {o : Oper} {a : Act} {Q : Exit → Act → World → Prop}
theorem getV_I {o : Option Int} : getV veI (.int .i64 0) o = .int .i64 (o.getD 0) := by cases o <;> rfl
/-- A look-up in a map that counts. -/
theorem run_lookup_TK {B : Nat} {M : List (κ × Int)} {U : List κ} (h : MAt E veI w B M) (hT : TK E.q M U) (t e : TypeId) (ht : P.underlying t = some (.map K e)) (hz : ∀ w, (zeroValue e).run P w = .ok (.int .i64 0) w) (k : κ) :
    (Instr.lookup t (.map (some B)) (E.c k) false).run P w = .ok (.int .i64 (ctM E.q k U : Int)) w := by
  rw [run_lookup_M h t e ht _ hz k false, getV_I, hT k]
  rfl
end
end Go.Proofs.YtfbocionnjliladDoor
/- The error of a number. -/
namespace Go.Proofs.YtfbocionnjliladDoor

/-- The error of a number: none of 0. -/
def noV (n : Int) : Value := if n = 0 then .nilIface else .iface 78 (.int .i64 n)
theorem no_ok {n : Int} (h : n = 0) : noV n = .nilIface := by simp [noV, h]
theorem no_ne {n : Int} (h : n ≠ 0) : noV n = .iface 78 (.int .i64 n) := by simp [noV, h]
end Go.Proofs.YtfbocionnjliladDoor
/- The struct api.Spot: its cells, slices of them, == of two, such that came in. Written by mk/struct.py. -/
namespace Go.Proofs.YtfbocionnjliladDoor
open Go.ChangeShapes Go.WideShapes Go.ChangeAt Go.RowKit Go.Joins
set_option linter.unusedSimpArgs false
set_option linter.unusedVariables false
set_option maxRecDepth 100000

def spoE : Enc (Int × Int) where
  c := fun x => [.int .i64 x.1, .int .i64 x.2]
  n := 2
  len := fun _ => rfl
  pos := by decide
  one := by
    intro x u hu
    simp at hu
    rcases hu with rfl | rfl <;> rfl
theorem spo_cells {w : World} {g o : Nat} {x0 : Int} {x1 : Int} (h : VAt w g o (spoE.c (x0, x1))) : w.cell? ⟨g, o, none⟩ = some (.int .i64 x0) ∧ w.cell? ⟨g, o + 1, none⟩ = some (.int .i64 x1) :=
  ⟨h 0 _ rfl, h 1 _ rfl⟩
theorem spo_at {w : World} {g o : Nat} {L : List (Int × Int)} (h : GAt spoE w g o L) {n k : Nat} (hn : L.length = n) (hk : k < n) :
    ∃ (x0 : Int) (x1 : Int) (hl : k < L.length), L[k] = (x0, x1) ∧ w.cell? ⟨g, o + k * 2, none⟩ = some (.int .i64 x0) ∧ w.cell? ⟨g, o + k * 2 + 1, none⟩ = some (.int .i64 x1) :=
  have hl : k < L.length := by omega
  ⟨_, _, hl, rfl, spo_cells (h k hl)⟩
theorem spo_new (w : World) (x0 : Int) (x1 : Int) (t : TypeId) : VAt (w.alloc (Obj.cells #[.int .i64 x0, .int .i64 x1] t)) w.heap.size 0 (spoE.c (x0, x1)) := vat_new w [.int .i64 x0, .int .i64 x1] t
theorem spo_row (w : World) (x0 : Int) (x1 : Int) (t : TypeId) : GS spoE (w.alloc (Obj.cells #[.int .i64 x0, .int .i64 x1] t)) (.slice (some ⟨w.heap.size, 0, none⟩) 1 1) [(x0, x1)] := gs_one (E := spoE) w (x0, x1) t (vs := [.int .i64 x0, .int .i64 x1]) rfl
/-- Are two the same? -/
def spoB (a b : Int × Int) : Bool := (a.1 == b.1) && ((a.2 == b.2))
theorem spoB_iff (a b : Int × Int) : spoB a b = true ↔ a = b := by
  have e : spoB a b = ((a.1 == b.1) && ((a.2 == b.2))) := rfl
  rw [e]
  simp only [Bool.and_eq_true, beq_iff_eq]
  constructor
  · intro h
    obtain ⟨a0, a1⟩ := a; obtain ⟨b0, b1⟩ := b; simp at h ⊢; simp [h]
  · intro h
    subst h
    simp
theorem spo_ways (x0 : Int) (x1 : Int) (y0 : Int) (y1 : Int) :
    ((x0 == y0) = false ∧ spoB (x0, x1) (y0, y1) = false) ∨
    ((x0 == y0) = true ∧ (x1 == y1) = false ∧ spoB (x0, x1) (y0, y1) = false) ∨
    ((x0 == y0) = true ∧ (x1 == y1) = true ∧ spoB (x0, x1) (y0, y1) = true) := by
  have e : spoB (x0, x1) (y0, y1) = ((x0 == y0) && ((x1 == y1))) := rfl
  rw [e]
  cases h0 : (x0 == y0)
  · simp
  · skip
    cases h1 : (x1 == y1)
    · simp
    · skip
      simp
set_option maxRecDepth 100000 in
theorem spo_eq (x0 : Int) (x1 : Int) (y0 : Int) (y1 : Int) (w : World) : (Op.equal 53 (.agg #[.int .i64 x0, .int .i64 x1]) (.agg #[.int .i64 y0, .int .i64 y1])).run Tryd.prog w = .ok (spoB (x0, x1) (y0, y1)) w := by
  unfold Op.equal Op.maxDepth
  rw [run_equalIn_struct w 9999 _ _ _ (by kernel_rfl) (by kernel_rfl)]
  rcases spo_ways x0 x1 y0 y1 with ⟨e0, e⟩ | ⟨e0, e1, e⟩ | ⟨e0, e1, e⟩
  all_goals
    rw [e]
    go_simp
theorem spo_info : (Tryd.prog.info? 53).map (fun i => (i.zero, i.size, i.bytes)) = some (some (.agg #[.int .i64 0, .int .i64 0]), 2, 16) := by kernel_rfl
theorem spo_zero : (Value.agg #[.int .i64 0, .int .i64 0]).cells.size = 2 := by simp [Value.cells]
/-- Cells that read as one. -/
theorem spo_open {H : Type} {enc : TypeId × Value → H} {W : World} {n : Nat} {cs : List Value} {x : DataW H × List MemPlace}
    (h : DataW.trod enc Tryd.prog W 0 (fun _ => true) true n 53 cs = some x) : ∃ y, cs = spoE.c y := by
  obtain ⟨xs, k, _, _, hl, hlen, hf⟩ := DataW.trod_struct Tryd.underlying53 h
  have hC : Tryd.prog.cellsOf 53 = 2 := by kernel_rfl
  have hT0 : Tryd.prog.cellsOf 3 = 1 := by kernel_rfl
  rw [hC] at hl
  match cs, hl with
  | [c0, c1], _ =>
    match xs, hlen with
    | [z0, z1], _ =>
      have g0 := hf 0 _ rfl
      have g1 := hf 1 _ rfl
      simp [hT0] at g0 g1
      obtain ⟨v0, e0, _, _⟩ := DataW.trod_int Tryd.underlying3 g0
      obtain ⟨v1, e1, _, _⟩ := DataW.trod_int Tryd.underlying3 g1
      simp [] at e0 e1
      refine ⟨(v0, v1), ?_⟩
      simp [spoE, e0, e1]
set_option maxRecDepth 100000 in
/-- One that came in. -/
theorem spo_of {H : Type} {enc : TypeId × Value → H} {W : World} {base : Nat} {v : Value} {d : DataW H} {p : List MemPlace}
    (hv : Value.okWide Tryd.prog W .any base 53 v) (h : DataW.Trod enc Tryd.prog W 0 (fun _ => true) true 53 v d p) : ∃ (x0 : Int) (x1 : Int), v = .agg #[.int .i64 x0, .int .i64 x1] := by
  obtain ⟨cs, rfl, hsz⟩ := okWide_struct Tryd.underlying53 hv
  obtain ⟨n, hn⟩ := h
  obtain ⟨y, e⟩ := spo_open hn
  refine ⟨y.1, y.2, ?_⟩
  simp only [Value.cells] at e
  have e2 : cs = #[.int .i64 y.1, .int .i64 y.2] := by
    rw [← Array.toArray_toList (xs := cs), e]
    rfl
  rw [e2]
end Go.Proofs.YtfbocionnjliladDoor
/- The struct api.Link: its cells, slices of them, == of two, such that came in. Written by mk/struct.py. -/
namespace Go.Proofs.YtfbocionnjliladDoor
open Go.ChangeShapes Go.WideShapes Go.ChangeAt Go.RowKit Go.Joins
set_option linter.unusedSimpArgs false
set_option linter.unusedVariables false
set_option maxRecDepth 100000

def lnkE : Enc ((Int × Int) × (Int × Int)) where
  c := fun x => [.int .i64 x.1.1, .int .i64 x.1.2, .int .i64 x.2.1, .int .i64 x.2.2]
  n := 4
  len := fun _ => rfl
  pos := by decide
  one := by
    intro x u hu
    simp at hu
    rcases hu with rfl | rfl | rfl | rfl <;> rfl
theorem lnk_cells {w : World} {g o : Nat} {x0 : Int} {x1 : Int} {x2 : Int} {x3 : Int} (h : VAt w g o (lnkE.c ((x0, x1), (x2, x3)))) : w.cell? ⟨g, o, none⟩ = some (.int .i64 x0) ∧ w.cell? ⟨g, o + 1, none⟩ = some (.int .i64 x1) ∧ w.cell? ⟨g, o + 2, none⟩ = some (.int .i64 x2) ∧ w.cell? ⟨g, o + 3, none⟩ = some (.int .i64 x3) :=
  ⟨h 0 _ rfl, h 1 _ rfl, h 2 _ rfl, h 3 _ rfl⟩
theorem lnk_at {w : World} {g o : Nat} {L : List ((Int × Int) × (Int × Int))} (h : GAt lnkE w g o L) {n k : Nat} (hn : L.length = n) (hk : k < n) :
    ∃ (x0 : Int) (x1 : Int) (x2 : Int) (x3 : Int) (hl : k < L.length), L[k] = ((x0, x1), (x2, x3)) ∧ w.cell? ⟨g, o + k * 4, none⟩ = some (.int .i64 x0) ∧ w.cell? ⟨g, o + k * 4 + 1, none⟩ = some (.int .i64 x1) ∧ w.cell? ⟨g, o + k * 4 + 2, none⟩ = some (.int .i64 x2) ∧ w.cell? ⟨g, o + k * 4 + 3, none⟩ = some (.int .i64 x3) :=
  have hl : k < L.length := by omega
  ⟨_, _, _, _, hl, rfl, lnk_cells (h k hl)⟩
theorem lnk_new (w : World) (x0 : Int) (x1 : Int) (x2 : Int) (x3 : Int) (t : TypeId) : VAt (w.alloc (Obj.cells #[.int .i64 x0, .int .i64 x1, .int .i64 x2, .int .i64 x3] t)) w.heap.size 0 (lnkE.c ((x0, x1), (x2, x3))) := vat_new w [.int .i64 x0, .int .i64 x1, .int .i64 x2, .int .i64 x3] t
theorem lnk_row (w : World) (x0 : Int) (x1 : Int) (x2 : Int) (x3 : Int) (t : TypeId) : GS lnkE (w.alloc (Obj.cells #[.int .i64 x0, .int .i64 x1, .int .i64 x2, .int .i64 x3] t)) (.slice (some ⟨w.heap.size, 0, none⟩) 1 1) [((x0, x1), (x2, x3))] := gs_one (E := lnkE) w ((x0, x1), (x2, x3)) t (vs := [.int .i64 x0, .int .i64 x1, .int .i64 x2, .int .i64 x3]) rfl
/-- Are two the same? -/
def lnkB (a b : (Int × Int) × (Int × Int)) : Bool := (a.1.1 == b.1.1) && ((a.1.2 == b.1.2) && ((a.2.1 == b.2.1) && ((a.2.2 == b.2.2))))
theorem lnkB_iff (a b : (Int × Int) × (Int × Int)) : lnkB a b = true ↔ a = b := by
  have e : lnkB a b = ((a.1.1 == b.1.1) && ((a.1.2 == b.1.2) && ((a.2.1 == b.2.1) && ((a.2.2 == b.2.2))))) := rfl
  rw [e]
  simp only [Bool.and_eq_true, beq_iff_eq]
  constructor
  · intro h
    obtain ⟨⟨a0, a1⟩, ⟨a2, a3⟩⟩ := a; obtain ⟨⟨b0, b1⟩, ⟨b2, b3⟩⟩ := b; simp at h ⊢; simp [h]
  · intro h
    subst h
    simp
theorem lnk_ways (x0 : Int) (x1 : Int) (x2 : Int) (x3 : Int) (y0 : Int) (y1 : Int) (y2 : Int) (y3 : Int) :
    ((x0 == y0) = false ∧ lnkB ((x0, x1), (x2, x3)) ((y0, y1), (y2, y3)) = false) ∨
    ((x0 == y0) = true ∧ (x1 == y1) = false ∧ lnkB ((x0, x1), (x2, x3)) ((y0, y1), (y2, y3)) = false) ∨
    ((x0 == y0) = true ∧ (x1 == y1) = true ∧ (x2 == y2) = false ∧ lnkB ((x0, x1), (x2, x3)) ((y0, y1), (y2, y3)) = false) ∨
    ((x0 == y0) = true ∧ (x1 == y1) = true ∧ (x2 == y2) = true ∧ (x3 == y3) = false ∧ lnkB ((x0, x1), (x2, x3)) ((y0, y1), (y2, y3)) = false) ∨
    ((x0 == y0) = true ∧ (x1 == y1) = true ∧ (x2 == y2) = true ∧ (x3 == y3) = true ∧ lnkB ((x0, x1), (x2, x3)) ((y0, y1), (y2, y3)) = true) := by
  have e : lnkB ((x0, x1), (x2, x3)) ((y0, y1), (y2, y3)) = ((x0 == y0) && ((x1 == y1) && ((x2 == y2) && ((x3 == y3))))) := rfl
  rw [e]
  cases h0 : (x0 == y0)
  · simp
  · skip
    cases h1 : (x1 == y1)
    · simp
    · skip
      cases h2 : (x2 == y2)
      · simp
      · skip
        cases h3 : (x3 == y3)
        · simp
        · skip
          simp
set_option maxRecDepth 100000 in
theorem lnk_eq (x0 : Int) (x1 : Int) (x2 : Int) (x3 : Int) (y0 : Int) (y1 : Int) (y2 : Int) (y3 : Int) (w : World) : (Op.equal 110 (.agg #[.int .i64 x0, .int .i64 x1, .int .i64 x2, .int .i64 x3]) (.agg #[.int .i64 y0, .int .i64 y1, .int .i64 y2, .int .i64 y3])).run Tryd.prog w = .ok (lnkB ((x0, x1), (x2, x3)) ((y0, y1), (y2, y3))) w := by
  unfold Op.equal Op.maxDepth
  rw [run_equalIn_struct w 9999 _ _ _ (by kernel_rfl) (by kernel_rfl)]
  rcases lnk_ways x0 x1 x2 x3 y0 y1 y2 y3 with ⟨e0, e⟩ | ⟨e0, e1, e⟩ | ⟨e0, e1, e2, e⟩ | ⟨e0, e1, e2, e3, e⟩ | ⟨e0, e1, e2, e3, e⟩
  all_goals
    rw [e]
    go_simp
theorem lnk_info : (Tryd.prog.info? 110).map (fun i => (i.zero, i.size, i.bytes)) = some (some (.agg #[.int .i64 0, .int .i64 0, .int .i64 0, .int .i64 0]), 4, 32) := by kernel_rfl
theorem lnk_zero : (Value.agg #[.int .i64 0, .int .i64 0, .int .i64 0, .int .i64 0]).cells.size = 4 := by simp [Value.cells]
/-- Cells that read as one. -/
theorem lnk_open {H : Type} {enc : TypeId × Value → H} {W : World} {n : Nat} {cs : List Value} {x : DataW H × List MemPlace}
    (h : DataW.trod enc Tryd.prog W 0 (fun _ => true) true n 110 cs = some x) : ∃ y, cs = lnkE.c y := by
  obtain ⟨xs, k, _, _, hl, hlen, hf⟩ := DataW.trod_struct Tryd.underlying110 h
  have hC : Tryd.prog.cellsOf 110 = 4 := by kernel_rfl
  have hT0 : Tryd.prog.cellsOf 53 = 2 := by kernel_rfl
  rw [hC] at hl
  match cs, hl with
  | [c0, c1, c2, c3], _ =>
    match xs, hlen with
    | [z0, z1], _ =>
      have g0 := hf 0 _ rfl
      have g1 := hf 1 _ rfl
      simp [hT0] at g0 g1
      obtain ⟨s0, e0⟩ := spo_open g0
      obtain ⟨s1, e1⟩ := spo_open g1
      simp [spoE] at e0 e1
      refine ⟨((s0.1, s0.2), (s1.1, s1.2)), ?_⟩
      simp [lnkE, e0, e1]
set_option maxRecDepth 100000 in
/-- One that came in. -/
theorem lnk_of {H : Type} {enc : TypeId × Value → H} {W : World} {base : Nat} {v : Value} {d : DataW H} {p : List MemPlace}
    (hv : Value.okWide Tryd.prog W .any base 110 v) (h : DataW.Trod enc Tryd.prog W 0 (fun _ => true) true 110 v d p) : ∃ (x0 : Int) (x1 : Int) (x2 : Int) (x3 : Int), v = .agg #[.int .i64 x0, .int .i64 x1, .int .i64 x2, .int .i64 x3] := by
  obtain ⟨cs, rfl, hsz⟩ := okWide_struct Tryd.underlying110 hv
  obtain ⟨n, hn⟩ := h
  obtain ⟨y, e⟩ := lnk_open hn
  refine ⟨y.1.1, y.1.2, y.2.1, y.2.2, ?_⟩
  simp only [Value.cells] at e
  have e2 : cs = #[.int .i64 y.1.1, .int .i64 y.1.2, .int .i64 y.2.1, .int .i64 y.2.2] := by
    rw [← Array.toArray_toList (xs := cs), e]
    rfl
  rw [e2]
/-- A slice of them that came in. -/
theorem lnks_of {H : Type} {enc : TypeId × Value → H} {W : World} {base : Nat} {v : Value} {d : DataW H} {p : List MemPlace}
    (hv : Value.okWide Tryd.prog W .any base 22 v) (h : DataW.Trod enc Tryd.prog W 0 (fun _ => true) true 22 v d p) : ∃ L, GS lnkE W v L :=
  gs_of (E := lnkE) 22 110 Tryd.underlying22 (by kernel_rfl) ((0, 0), (0, 0)) (fun _ _ _ h => lnk_open h) hv h
end Go.Proofs.YtfbocionnjliladDoor
