/- Contracts and facts on the way to MixTells, joined into one text: NetMath3, NetMath4, NetLegMath, MixWalkMath, MixSeenMath, TopoCon, SpotKey, Err, StLink, TopoLay, SlByte, TopoName, TopoSettle, TopoCheck. -/
import Derived.Test.YtglnnoglbieaeaaGreatDoorMixTellsP2
import Derived.Test.YtglnnoglbieaeaaGreatDoorMixTellsP1
import Derived.Test.YtglnnoglbieaeaaGreatDoorRows
import Derived.WalkKit
import Derived.WalkSpells
import Derived.Below
import Derived.BigQuiet
import Derived.Deep.QuietTactic
import Derived.DeepKeys3
import Derived.Lib.SmallJoins
import Derived.Laws.StructEq
import Derived.Maps.OwnOps
import Derived.BigRegion
import Derived.Deep.CutRange
import Derived.Deep.CutBlock
import Derived.Shelf.Abstract
import Derived.Laws.IdiomStrings
import Derived.Carry
/- Hops of a right net are right; two switches that send each other all: plain lists. No program in it. -/
namespace Go.Proofs.YtglnnoglbieaeaaGreatDoor
open Go.RowKit
set_option linter.unusedVariables false

theorem aph_fin : ∀ s v h : Fin 16, (bits .andNot .i64 ((v : Nat) : Int) ((s : Nat) : Int) == 0) = true → hdrB (apV ((s : Nat) : Int) ((v : Nat) : Int) ((h : Nat) : Int)) = true := by decide +kernel
theorem ap_hdr {p m b o s v h : Int} (hr : apN p m b o s v h = 0) : hdrB (apR p m b o s v h) = true := by
  obtain ⟨h1, h2, _, _⟩ := ap_yes hr
  obtain ⟨g1, _, g3⟩ := ru_ok h1
  obtain ⟨_, hs, hv⟩ := ru_in g1
  obtain ⟨s', rfl⟩ := small hs
  obtain ⟨v', rfl⟩ := small hv
  obtain ⟨h', rfl⟩ := small (hdr_of h2)
  simp only [ruSet, Bool.and_eq_true] at g3
  rw [apR, if_pos hr]
  exact aph_fin s' v' h' g3.1
section
variable {S : Int} {Ls : List ((Int × Int) × (Int × Int))} {Hs : List (ByteArray × (Int × Int))} {Ts : List (List Ru)}
theorem st_hdr {p o : (Int × Int) × Int} (h : stO Ts p = some o) : hdrB o.2 = true ∧ o.1.1 = p.1.1 := by
  unfold stO stT at h
  split at h
  · split at h
    · next hr =>
      cases h
      exact ⟨ap_hdr hr, rfl⟩
    · cases h
  · cases h
theorem peer_sp (ht : tpN S Ls Hs = 0) {s p : Int × Int} (h : peerO Ls s = some p) : spB S p = true := (tp_0 ht).2.2.1 p (peer_in h).2
theorem where_sp (ht : tpN S Ls Hs = 0) {n : ByteArray} {p : Int × Int} (h : whereO Hs n = some p) : spB S p = true := by
  rcases where_ix Hs n with ⟨_, h0⟩ | ⟨k, hk, _, h1⟩
  · rw [h] at h0; cases h0
  · rw [h] at h1
    cases h1
    exact ((tp_0 ht).2.2.2.2.1 _ (List.getElem_mem hk)).2
theorem name_ne (ht : tpN S Ls Hs = 0) : ∀ x ∈ Hs, x.1 ≠ ByteArray.empty := by
  intro x hx e
  have h := ((tp_0 ht).2.2.2.2.1 x hx).1
  rw [e] at h
  revert h
  decide
theorem nx_good (ht : tpN S Ls Hs = 0) {p q : (Int × Int) × Int} (h : NxH Ls Hs Ts p q) : spB S q.1 = true ∧ hdrB q.2 = true := by
  obtain ⟨o, h1, _, h3, h4⟩ := h
  exact ⟨peer_sp ht h3, by rw [h4]; exact (st_hdr h1).1⟩
end
/-- Two switches that send each other all. -/
def ruG : Ru := ⟨1, 0, 0, 2, 0, 0⟩
def ruK : Ru := ⟨1, 0, 0, 1, 0, 0⟩
def ruD (h : Int) : Ru := ⟨5, 15, h, 0, 0, 0⟩
def naA : ByteArray := ⟨#[97]⟩
theorem turn1_fin : ∀ h : Fin 16, (decide (seN 2 (lnTo 1) (lnH 2) [[ruG], [ruK]] naA ((h : Nat) : Int) = 0) && (decide ((seV 2 (lnTo 1) (lnH 2) [[ruG], [ruK]] naA ((h : Nat) : Int)).1 = 4) && decide ((seV 2 (lnTo 1) (lnH 2) [[ruG], [ruK]] naA ((h : Nat) : Int)).2.2.length = 3))) = true := by decide +kernel
theorem turn2_fin : ∀ h : Fin 16, (decide (seN 2 (lnTo 1) (lnH 2) [[ruG], [ruD ((h : Nat) : Int), ruK]] naA ((h : Nat) : Int) = 0) && (decide ((seV 2 (lnTo 1) (lnH 2) [[ruG], [ruD ((h : Nat) : Int), ruK]] naA ((h : Nat) : Int)).1 = 2) && decide ((seV 2 (lnTo 1) (lnH 2) [[ruG], [ruD ((h : Nat) : Int), ruK]] naA ((h : Nat) : Int)).2.2.length = 2))) = true := by decide +kernel
theorem turn1 {h : Int} (hh : hdrB h = true) : seN 2 (lnTo 1) (lnH 2) [[ruG], [ruK]] naA h = 0 ∧ (seV 2 (lnTo 1) (lnH 2) [[ruG], [ruK]] naA h).1 = 4 ∧ (seV 2 (lnTo 1) (lnH 2) [[ruG], [ruK]] naA h).2.2.length = 3 := by
  obtain ⟨h', rfl⟩ := small (hdr_of hh)
  simpa using turn1_fin h'
theorem turn2 {h : Int} (hh : hdrB h = true) : seN 2 (lnTo 1) (lnH 2) [[ruG], [ruD h, ruK]] naA h = 0 ∧ (seV 2 (lnTo 1) (lnH 2) [[ruG], [ruD h, ruK]] naA h).1 = 2 ∧ (seV 2 (lnTo 1) (lnH 2) [[ruG], [ruD h, ruK]] naA h).2.2.length = 2 := by
  obtain ⟨h', rfl⟩ := small (hdr_of hh)
  simpa using turn2_fin h'
theorem turn3_nt : ntN 2 (lnTo 1) (lnH 2) [[], []] = 0 ∧ weN 2 (lnTo 1) (lnH 2) naA = 0 := by decide +kernel
theorem turn3 {h : Int} (hh : hdrB h = false) : seN 2 (lnTo 1) (lnH 2) [[], []] naA h = 1 := by
  unfold seN
  rw [if_pos turn3_nt.1, if_pos turn3_nt.2, hh]
  rfl
end Go.Proofs.YtglnnoglbieaeaaGreatDoor
/- What becomes of a packet, one round: plain lists. No program in it. -/
namespace Go.Proofs.YtglnnoglbieaeaaGreatDoor
open Go.RowKit
set_option linter.unusedVariables false

section
variable {Ls : List ((Int × Int) × (Int × Int))} {Hs : List (ByteArray × (Int × Int))} {Ts : List (List Ru)} {l : List ((Int × Int) × Int)} {q : (Int × Int) × Int}
theorem fo_r (h : l.length ≤ 24) : foF Ls Hs Ts (25 - l.length) l = match enE Ls Hs Ts l (laH l) with | .inl e => (e.1, e.2, l) | .inr p => foF Ls Hs Ts (24 - l.length) (l ++ [p]) := by
  have e : 25 - l.length = (24 - l.length) + 1 := by omega
  rw [e]
  exact fo_s _ _
theorem fo_2 (h : l.length ≤ 24) (hA : stO Ts (laH l) = none) : foF Ls Hs Ts (25 - l.length) l = (2, ByteArray.empty, l) := by
  have e : enE Ls Hs Ts l (laH l) = .inl (2, ByteArray.empty) := by
    unfold enE goE
    rw [show stT (taT Ts (laH l).1.1) (laH l) = none from hA]
  rw [fo_r h, e]
theorem fo_1 (h : l.length ≤ 24) (hA : stO Ts (laH l) = some q) {m : ByteArray} (ha : atO Hs q.1 = some m) : foF Ls Hs Ts (25 - l.length) l = (1, m, l) := by
  have e : enE Ls Hs Ts l (laH l) = .inl (1, m) := by
    unfold enE goE
    rw [show stT (taT Ts (laH l).1.1) (laH l) = some q from hA]
    simp only [ha]
  rw [fo_r h, e]
theorem fo_3 (h : l.length ≤ 24) (hA : stO Ts (laH l) = some q) (ha : atO Hs q.1 = none) (hp : peerO Ls q.1 = none) : foF Ls Hs Ts (25 - l.length) l = (3, ByteArray.empty, l) := by
  have e : enE Ls Hs Ts l (laH l) = .inl (3, ByteArray.empty) := by
    unfold enE goE
    rw [show stT (taT Ts (laH l).1.1) (laH l) = some q from hA]
    simp only [ha, hp]
  rw [fo_r h, e]
theorem fo_4 (h : l.length ≤ 24) (hA : stO Ts (laH l) = some q) (ha : atO Hs q.1 = none) {s : Int × Int} (hp : peerO Ls q.1 = some s) (h4 : l.length = 24 ∨ (l.any fun x => heB (s, q.2) x) = true) : foF Ls Hs Ts (25 - l.length) l = (4, ByteArray.empty, l) := by
  have e : enE Ls Hs Ts l (laH l) = .inl (4, ByteArray.empty) := by
    unfold enE goE
    rw [show stT (taT Ts (laH l).1.1) (laH l) = some q from hA]
    simp only [ha, hp]
    rw [if_pos h4]
  rw [fo_r h, e]
theorem fo_n (h : l.length ≤ 24) (hA : stO Ts (laH l) = some q) (ha : atO Hs q.1 = none) {s : Int × Int} (hp : peerO Ls q.1 = some s) (h4 : l.length ≠ 24) (h5 : (l.any fun x => heB (s, q.2) x) = false) : foF Ls Hs Ts (25 - l.length) l = foF Ls Hs Ts (25 - (l ++ [(s, q.2)]).length) (l ++ [(s, q.2)]) := by
  have e : enE Ls Hs Ts l (laH l) = .inr (s, q.2) := by
    unfold enE goE
    rw [show stT (taT Ts (laH l).1.1) (laH l) = some q from hA]
    simp only [ha, hp]
    rw [if_neg]
    rw [not_or, h5]
    exact ⟨h4, by simp⟩
  rw [fo_r h, e]
  simp only [List.length_append, List.length_cons, List.length_nil]
  rw [show 24 - l.length = 25 - (l.length + (0 + 1)) by omega]
theorem la_app (l : List ((Int × Int) × Int)) (p : (Int × Int) × Int) : laH (l ++ [p]) = p := by
  rw [la_at]
  simp only [List.length_append, List.length_cons, List.length_nil, Nat.add_sub_cancel, Nat.zero_add]
  exact at_app l p
end
end Go.Proofs.YtglnnoglbieaeaaGreatDoor
/- Legs in plain lists: what a table does with a packet ahead of all hops, and as it is behind some. No program in it. -/
namespace Go.Proofs.YtglnnoglbieaeaaGreatDoor
open Go.RowKit
set_option linter.unusedVariables false

/-- A leg: how it ends, at whom; if it does not, where it goes on. -/
abbrev Lg := Int × ByteArray × ((Int × Int) × Int)
def lgT (Ls : List ((Int × Int) × (Int × Int))) (Hs : List (ByteArray × (Int × Int))) (t : List Ru) (p : (Int × Int) × Int) : Lg :=
  match stT t p with
  | none => (2, ByteArray.empty, zeH)
  | some q => match atO Hs q.1 with
    | some m => (1, m, zeH)
    | none => match peerO Ls q.1 with
      | none => (3, ByteArray.empty, zeH)
      | some s => (0, ByteArray.empty, (s, q.2))
/-- Behind hops: looped, if it would come where it was, or too often. -/
def afB (g : Lg) (l : List ((Int × Int) × Int)) : Bool := (g.1 == 0) && ((l.length == 24) || (l.any fun x => heB g.2.2 x))
def afL (g : Lg) (l : List ((Int × Int) × Int)) : Lg := if afB g l = true then (4, ByteArray.empty, zeH) else g
def lgE (g : Lg) : (Int × ByteArray) ⊕ ((Int × Int) × Int) := if g.1 = 0 then .inr g.2.2 else .inl (g.1, g.2.1)

section
variable {Ls : List ((Int × Int) × (Int × Int))} {Hs : List (ByteArray × (Int × Int))} {t : List Ru} {p : (Int × Int) × Int} {l : List ((Int × Int) × Int)}
theorem lg_2 (h : stT t p = none) : lgT Ls Hs t p = (2, ByteArray.empty, zeH) := by
  unfold lgT
  rw [h]
theorem lg_1 {q : (Int × Int) × Int} (h : stT t p = some q) {m : ByteArray} (ha : atO Hs q.1 = some m) : lgT Ls Hs t p = (1, m, zeH) := by
  unfold lgT
  rw [h]
  simp only [ha]
theorem lg_3 {q : (Int × Int) × Int} (h : stT t p = some q) (ha : atO Hs q.1 = none) (hp : peerO Ls q.1 = none) : lgT Ls Hs t p = (3, ByteArray.empty, zeH) := by
  unfold lgT
  rw [h]
  simp only [ha, hp]
theorem lg_0 {q : (Int × Int) × Int} (h : stT t p = some q) (ha : atO Hs q.1 = none) {s : Int × Int} (hp : peerO Ls q.1 = some s) : lgT Ls Hs t p = (0, ByteArray.empty, (s, q.2)) := by
  unfold lgT
  rw [h]
  simp only [ha, hp]
theorem af_ne {g : Lg} (h : g.1 ≠ 0) : afL g l = g := by
  unfold afL afB
  rw [if_neg (by simp [h])]
theorem af_0 {g : Lg} (h : (afL g l).1 = 0) : afL g l = g ∧ g.1 = 0 ∧ l.length ≠ 24 ∧ (l.any fun x => heB g.2.2 x) = false := by
  by_cases e : afB g l = true
  · rw [afL, if_pos e] at h
    cases h
  · have e1 : afL g l = g := by rw [afL, if_neg e]
    rw [e1] at h
    refine ⟨e1, h, ?_, ?_⟩
    · intro h24
      exact e (by simp [afB, h, h24])
    · cases hx : l.any fun x => heB g.2.2 x with
      | false => rfl
      | true => exact absurd (by simp only [afB, h, hx]; simp) e
/-- What becomes of a packet at its last hop, by its leg. -/
theorem go_lg : goE Ls Hs t l p = lgE (afL (lgT Ls Hs t p) l) := by
  unfold goE
  cases h : stT t p with
  | none => simp only [lg_2 h, af_ne (l := l) (g := (2, ByteArray.empty, zeH)) (by simp)]; rfl
  | some q =>
    cases ha : atO Hs q.1 with
    | some m => simp only [ha, lg_1 (Ls := Ls) h ha, af_ne (l := l) (g := (1, m, zeH)) (by simp)]; rfl
    | none =>
      cases hp : peerO Ls q.1 with
      | none => simp only [ha, hp, lg_3 h ha hp, af_ne (l := l) (g := (3, ByteArray.empty, zeH)) (by simp)]; rfl
      | some s =>
        simp only [ha, hp, lg_0 h ha hp]
        by_cases e : l.length = 24 ∨ l.any (fun x => heB (s, q.2) x) = true
        · rw [if_pos e, afL, if_pos]
          · rfl
          · rcases e with e | e
            · simp [afB, e]
            · simp only [afB, e]
              simp
        · rw [if_neg e, afL, if_neg]
          · rfl
          · rw [not_or] at e
            simp only [afB, Bool.and_eq_true, Bool.or_eq_true, beq_iff_eq]
            exact fun h => h.2.elim e.1 e.2
end
section
variable {S : Int} {Ls : List ((Int × Int) × (Int × Int))} {Hs : List (ByteArray × (Int × Int))} {Ts : List (List Ru)} {l : List ((Int × Int) × Int)}
/-- One round, by the leg. -/
theorem fo_end (h : l.length ≤ 24) {g : Lg} (hg : g = afL (lgT Ls Hs (taT Ts (laH l).1.1) (laH l)) l) (h0 : g.1 ≠ 0) : foF Ls Hs Ts (25 - l.length) l = (g.1, g.2.1, l) := by
  have e : enE Ls Hs Ts l (laH l) = .inl (g.1, g.2.1) := by
    show goE _ _ _ _ _ = _
    rw [go_lg, ← hg, lgE, if_neg h0]
  rw [fo_r h, e]
theorem fo_on (h : l.length ≤ 24) {g : Lg} (hg : g = afL (lgT Ls Hs (taT Ts (laH l).1.1) (laH l)) l) (h0 : g.1 = 0) : foF Ls Hs Ts (25 - l.length) l = foF Ls Hs Ts (25 - (l ++ [g.2.2]).length) (l ++ [g.2.2]) := by
  have e : enE Ls Hs Ts l (laH l) = .inr g.2.2 := by
    show goE _ _ _ _ _ = _
    rw [go_lg, ← hg, lgE, if_pos h0]
  rw [fo_r h, e]
  simp only [List.length_append, List.length_cons, List.length_nil]
  rw [show 24 - l.length = 25 - (l.length + (0 + 1)) by omega]
theorem lg_sp (ht : tpN S Ls Hs = 0) {t : List Ru} {p : (Int × Int) × Int} (h : (lgT Ls Hs t p).1 = 0) : spB S (lgT Ls Hs t p).2.2.1 = true := by
  cases h1 : stT t p with
  | none => rw [lg_2 h1] at h; cases h
  | some q =>
    cases ha : atO Hs q.1 with
    | some m => rw [lg_1 h1 ha] at h; cases h
    | none =>
      cases hp : peerO Ls q.1 with
      | none => rw [lg_3 h1 ha hp] at h; cases h
      | some s =>
        rw [lg_0 h1 ha hp]
        exact peer_sp ht hp
theorem lg_name (ht : tpN S Ls Hs = 0) (t : List Ru) (p : (Int × Int) × Int) : (lgT Ls Hs t p).2.1.size ≤ 1000000 := by
  cases h1 : stT t p with
  | none => rw [lg_2 h1]; decide
  | some q =>
    cases ha : atO Hs q.1 with
    | some m =>
      rw [lg_1 h1 ha]
      rcases at_ix Hs q.1 with ⟨_, ho⟩ | ⟨k, hk, _, ho⟩
      · rw [ha] at ho; cases ho
      · rw [ha] at ho
        cases ho
        have h := (tp_0 ht).2.2.2.2.1 Hs[k] (List.getElem_mem hk)
        have h2 := h.1
        simp only [nmB, Bool.and_eq_true, decide_eq_true_eq] at h2
        show Hs[k].1.size ≤ _
        omega
    | none =>
      cases hp : peerO Ls q.1 with
      | none => rw [lg_3 h1 ha hp]; decide
      | some s =>
        rw [lg_0 h1 ha hp]
        show ByteArray.empty.size ≤ 1000000
        decide
theorem af_name {g : Lg} (h : g.2.1.size ≤ 1000000) : (afL g l).2.1.size ≤ 1000000 := by
  unfold afL
  by_cases e : afB g l = true
  · rw [if_pos e]; decide
  · rw [if_neg e]; exact h
end
end Go.Proofs.YtglnnoglbieaeaaGreatDoor
/- What the program's walk hands on, one by one, while tables change: each once, and just what may be seen. No program in it. -/
namespace Go.Proofs.YtglnnoglbieaeaaGreatDoor
open Go.RowKit
set_option linter.unusedVariables false
set_option linter.unusedSimpArgs false

/-- The place of the switch of the last hop. -/
def sxH (l : List ((Int × Int) × Int)) : Nat := ((laH l).1.1 - 1).toNat
/-- One more switch's new table was met. -/
def mtS (met : Nat → Bool) (a : Nat) : Nat → Bool := fun b => if b = a then true else met b
/-- It ends by a leg, or goes on. -/
def tkL (k : List ((Int × Int) × Int) → (Nat → Bool) → List (Int × ByteArray × List ((Int × Int) × Int))) (g : Lg) (l : List ((Int × Int) × Int)) (met : Nat → Bool) : List (Int × ByteArray × List ((Int × Int) × Int)) :=
  if g.1 = 0 then k (l ++ [g.2.2]) met else [(g.1, g.2.1, l)]
section
variable (Ls : List ((Int × Int) × (Int × Int))) (Hs : List (ByteArray × (Int × Int))) (As Bs : List (List Ru))
/-- The leg of the last hop, behind all hops. -/
def lgA (Ts : List (List Ru)) (l : List ((Int × Int) × Int)) : Lg := afL (lgT Ls Hs (taT Ts (laH l).1.1) (laH l)) l
def pwL : Nat → List ((Int × Int) × Int) → (Nat → Bool) → List (Int × ByteArray × List ((Int × Int) × Int))
  | 0, _, _ => []
  | n + 1, l, met =>
    if met (sxH l) = true then tkL (pwL n) (lgA Ls Hs Bs l) l met
    else tkL (pwL n) (lgA Ls Hs As l) l met ++ (if lgA Ls Hs Bs l = lgA Ls Hs As l then [] else tkL (pwL n) (lgA Ls Hs Bs l) l (mtS met (sxH l)))
end
section
variable {Ls : List ((Int × Int) × (Int × Int))} {Hs : List (ByteArray × (Int × Int))} {As Bs : List (List Ru)}
/-- At which port a packet comes in does not matter. -/
theorem lg_port (t : List Ru) (s x y h : Int) : lgT Ls Hs t ((s, x), h) = lgT Ls Hs t ((s, y), h) := rfl
theorem lg_end {t : List Ru} {p : (Int × Int) × Int} (h : (lgT Ls Hs t p).1 ≠ 0) : (lgT Ls Hs t p).2.2 = zeH := by
  cases h1 : stT t p with
  | none => rw [lg_2 h1]
  | some q =>
    cases ha : atO Hs q.1 with
    | some m => rw [lg_1 h1 ha]
    | none =>
      cases hp : peerO Ls q.1 with
      | none => rw [lg_3 h1 ha hp]
      | some s => rw [lg_0 h1 ha hp] at h; exact absurd rfl h
theorem lg_on {t : List Ru} {p : (Int × Int) × Int} (h : (lgT Ls Hs t p).1 = 0) : (lgT Ls Hs t p).2.1 = ByteArray.empty := by
  cases h1 : stT t p with
  | none => rw [lg_2 h1] at h; cases h
  | some q =>
    cases ha : atO Hs q.1 with
    | some m => rw [lg_1 h1 ha] at h; cases h
    | none =>
      cases hp : peerO Ls q.1 with
      | none => rw [lg_3 h1 ha hp] at h; cases h
      | some s => rw [lg_0 h1 ha hp]
theorem la_end {Ts : List (List Ru)} {l : List ((Int × Int) × Int)} (h : (lgA Ls Hs Ts l).1 ≠ 0) : (lgA Ls Hs Ts l).2.2 = zeH := by
  unfold lgA afL at *
  by_cases e : afB (lgT Ls Hs (taT Ts (laH l).1.1) (laH l)) l = true
  · rw [if_pos e]
  · rw [if_neg e] at h ⊢
    exact lg_end h
theorem la_on {Ts : List (List Ru)} {l : List ((Int × Int) × Int)} (h : (lgA Ls Hs Ts l).1 = 0) : (lgA Ls Hs Ts l).2.1 = ByteArray.empty := by
  unfold lgA at *
  obtain ⟨e, h0, _⟩ := af_0 h
  rw [e]
  exact lg_on h0
theorem la_24 {Ts : List (List Ru)} {l : List ((Int × Int) × Int)} (h : (lgA Ls Hs Ts l).1 = 0) : l.length ≠ 24 := (af_0 h).2.2.1
theorem la_sp {S : Int} (ht : tpN S Ls Hs = 0) {Ts : List (List Ru)} {l : List ((Int × Int) × Int)} (h : (lgA Ls Hs Ts l).1 = 0) : spB S (lgA Ls Hs Ts l).2.2.1 = true := by
  unfold lgA at *
  obtain ⟨e, h0, _⟩ := af_0 h
  rw [e]
  exact lg_sp ht h0
theorem la_name {S : Int} (ht : tpN S Ls Hs = 0) (Ts : List (List Ru)) (l : List ((Int × Int) × Int)) : (lgA Ls Hs Ts l).2.1.size ≤ 1000000 := af_name (lg_name ht _ _)
/-- All that comes begins with the hops that were there. -/
theorem tk_pre {k : List ((Int × Int) × Int) → (Nat → Bool) → List (Int × ByteArray × List ((Int × Int) × Int))} (hk : ∀ l met x, x ∈ k l met → l <+: x.2.2) {g : Lg} {l : List ((Int × Int) × Int)} {met : Nat → Bool} {x : Int × ByteArray × List ((Int × Int) × Int)} (h : x ∈ tkL k g l met) : (g.1 ≠ 0 ∧ x = (g.1, g.2.1, l)) ∨ (g.1 = 0 ∧ l ++ [g.2.2] <+: x.2.2) := by
  unfold tkL at h
  by_cases e : g.1 = 0
  · rw [if_pos e] at h
    exact .inr ⟨e, hk _ _ _ h⟩
  · rw [if_neg e] at h
    exact .inl ⟨e, by simpa using h⟩
theorem pw_pre : ∀ (n : Nat) (l : List ((Int × Int) × Int)) (met : Nat → Bool) (x : Int × ByteArray × List ((Int × Int) × Int)), x ∈ pwL Ls Hs As Bs n l met → l <+: x.2.2
  | 0, l, met, x, h => by simp [pwL] at h
  | n + 1, l, met, x, h => by
    have tk : ∀ g met2, x ∈ tkL (pwL Ls Hs As Bs n) g l met2 → l <+: x.2.2 := by
      intro g met2 hx
      rcases tk_pre (fun l met x h => pw_pre n l met x h) hx with ⟨_, rfl⟩ | ⟨_, h⟩
      · exact List.prefix_refl _
      · exact (List.prefix_append l _).trans h
    rw [pwL] at h
    split at h
    · exact tk _ _ h
    · rcases List.mem_append.1 h with h | h
      · exact tk _ _ h
      · split at h
        · simp at h
        · exact tk _ _ h
/-- By two legs that are not one nothing comes twice. -/
theorem tk_apart {k : List ((Int × Int) × Int) → (Nat → Bool) → List (Int × ByteArray × List ((Int × Int) × Int))} (hk : ∀ l met x, x ∈ k l met → l <+: x.2.2) {Ts Us : List (List Ru)} {l : List ((Int × Int) × Int)} {met met2 : Nat → Bool} (hne : lgA Ls Hs Us l ≠ lgA Ls Hs Ts l) {x : Int × ByteArray × List ((Int × Int) × Int)} (h1 : x ∈ tkL k (lgA Ls Hs Ts l) l met) (h2 : x ∈ tkL k (lgA Ls Hs Us l) l met2) : False := by
  rcases tk_pre hk h1 with ⟨a1, a2⟩ | ⟨a1, a2⟩ <;> rcases tk_pre hk h2 with ⟨b1, b2⟩ | ⟨b1, b2⟩
  · rw [a2] at b2
    simp only [Prod.mk.injEq] at b2
    exact hne (Prod.ext b2.1.symm (Prod.ext b2.2.1.symm ((la_end b1).trans (la_end a1).symm)))
  · rw [a2] at b2
    have h : (l ++ [(lgA Ls Hs Us l).2.2]).length ≤ l.length := b2.length_le
    rw [List.length_append, List.length_singleton] at h
    omega
  · rw [b2] at a2
    have h : (l ++ [(lgA Ls Hs Ts l).2.2]).length ≤ l.length := a2.length_le
    rw [List.length_append, List.length_singleton] at h
    omega
  · obtain ⟨t, ht⟩ := a2
    obtain ⟨u, hu⟩ := b2
    have e : (lgA Ls Hs Ts l).2.2 = (lgA Ls Hs Us l).2.2 := by
      rw [← hu, List.append_assoc, List.append_assoc] at ht
      have := List.append_cancel_left ht
      simp at this
      exact this.1
    exact hne (Prod.ext (b1.trans a1.symm) (Prod.ext ((la_on b1).trans (la_on a1).symm) e.symm))
theorem pw_nodup : ∀ (n : Nat) (l : List ((Int × Int) × Int)) (met : Nat → Bool), (pwL Ls Hs As Bs n l met).Nodup
  | 0, l, met => by simp [pwL]
  | n + 1, l, met => by
    have tk : ∀ g met2, (tkL (pwL Ls Hs As Bs n) g l met2).Nodup := by
      intro g met2
      unfold tkL
      split
      · exact pw_nodup n _ _
      · simp
    rw [pwL]
    split
    · exact tk _ _
    · split
      · rw [List.append_nil]; exact tk _ _
      · next h1 h2 =>
        rw [List.nodup_append]
        refine ⟨tk _ _, tk _ _, fun a ha b hb e => ?_⟩
        subst e
        exact tk_apart (fun l met x h => pw_pre n l met x h) h2 ha hb
theorem pw_le : ∀ (n : Nat) (l : List ((Int × Int) × Int)) (met : Nat → Bool), (pwL Ls Hs As Bs n l met).length ≤ 2 ^ n
  | 0, l, met => by simp [pwL]
  | n + 1, l, met => by
    have h1 : 1 ≤ 2 ^ n := Nat.one_le_two_pow
    have tk : ∀ g met2, (tkL (pwL Ls Hs As Bs n) g l met2).length ≤ 2 ^ n := by
      intro g met2
      unfold tkL
      split
      · exact pw_le n _ _
      · simpa using h1
    rw [pwL, Nat.pow_succ]
    split
    · have := tk (lgA Ls Hs Bs l) met
      omega
    · rw [List.length_append]
      have := tk (lgA Ls Hs As l) met
      split
      · simp; omega
      · have := tk (lgA Ls Hs Bs l) (mtS met (sxH l))
        omega
/-- Who met more new tables has less before it. -/
theorem wk_mono : ∀ (n : Nat) (l : List ((Int × Int) × Int)) (m m2 : List Int), (∀ s ∈ m, s ∈ m2) → ∀ x, x ∈ wkL Ls Hs As Bs n l m2 [] → x ∈ wkL Ls Hs As Bs n l m []
  | 0, l, m, m2, hm, x, h => h
  | n + 1, l, m, m2, hm, x, h => by
    have on : ∀ (a b : List Int), (∀ s ∈ a, s ∈ b) → ∀ g, x ∈ onL (fun l' a' => wkL Ls Hs As Bs n l' b a') l [] g → x ∈ onL (fun l' a' => wkL Ls Hs As Bs n l' a a') l [] g := by
      intro a b hab g hx
      cases g with
      | inl e => exact hx
      | inr p => exact wk_mono n _ a b hab x hx
    have mm : ∀ (k : List Int) (a : List (Int × ByteArray × List ((Int × Int) × Int))) g, x ∈ onL (fun l' a' => wkL Ls Hs As Bs n l' k a') l a g ↔ x ∈ a ∨ x ∈ onL (fun l' a' => wkL Ls Hs As Bs n l' k a') l [] g := fun k a g => on_mem (fun l' a x => wk_mem n l' _ a x) l a g x
    rw [wkL] at h ⊢
    by_cases hc : chB As Bs (laH l).1.1 = true
    · rw [if_pos hc] at h ⊢
      by_cases h2 : (laH l).1.1 ∈ m2
      · simp only [h2, if_true] at h
        by_cases h1 : (laH l).1.1 ∈ m
        · simp only [h1, if_true]
          exact on _ _ hm _ h
        · simp only [h1, if_false]
          refine (mm _ _ _).2 (.inr (on _ _ ?_ _ h))
          intro s hs
          rcases List.mem_append.1 hs with hs | hs
          · exact hm s hs
          · rw [List.mem_singleton.1 hs]; exact h2
      · have h1 : ¬ (laH l).1.1 ∈ m := fun h => h2 (hm _ h)
        simp only [h1, h2, if_false] at h ⊢
        rcases (mm _ _ _).1 h with h | h
        · exact (mm _ _ _).2 (.inl (on _ _ hm _ h))
        · refine (mm _ _ _).2 (.inr (on _ _ ?_ _ h))
          intro s hs
          rcases List.mem_append.1 hs with hs | hs
          · exact List.mem_append.2 (.inl (hm s hs))
          · exact List.mem_append.2 (.inr hs)
    · rw [if_neg hc] at h ⊢
      by_cases h2 : (laH l).1.1 ∈ m2
      · rw [if_pos h2] at h
        simp at h
      · have h1 : ¬ (laH l).1.1 ∈ m := fun h => h2 (hm _ h)
        rw [if_neg h2] at h
        rw [if_neg h1]
        exact on _ _ hm _ h
/-- Just what may be seen comes. -/
theorem pw_mem {S : Int} (ht : tpN S Ls Hs = 0) (hA : ∀ s, tbN (taT As s) = 0) (hB : ∀ s, tbN (taT Bs s) = 0) : ∀ (n : Nat) (l : List ((Int × Int) × Int)) (met : Nat → Bool) (m : List Int), 1 ≤ (laH l).1.1 → (∀ s : Int, 1 ≤ s → (met (s - 1).toNat = true ↔ s ∈ m)) → (∀ s ∈ m, chB As Bs s = true) → ∀ x, x ∈ pwL Ls Hs As Bs n l met ↔ x ∈ wkL Ls Hs As Bs n l m []
  | 0, l, met, m, h1, h2, h3, x => by simp [pwL, wkL]
  | n + 1, l, met, m, h1, h2, h3, x => by
    have ih := pw_mem ht hA hB n
    obtain ⟨s, hs⟩ : ∃ s, s = (laH l).1.1 := ⟨_, rfl⟩
    have hsx : sxH l = (s - 1).toNat := by rw [sxH, ← hs]
    have s1 : 1 ≤ s := by rw [hs]; exact h1
    have tk : ∀ (Ts : List (List Ru)) (met2 : Nat → Bool) (m2 : List Int), (∀ s : Int, 1 ≤ s → (met2 (s - 1).toNat = true ↔ s ∈ m2)) → (∀ s ∈ m2, chB As Bs s = true) → (x ∈ tkL (pwL Ls Hs As Bs n) (lgA Ls Hs Ts l) l met2 ↔ x ∈ onL (fun l' a' => wkL Ls Hs As Bs n l' m2 a') l [] (goE Ls Hs (taT Ts s) l (laH l))) := by
      intro Ts met2 m2 q2 q3
      have e : goE Ls Hs (taT Ts s) l (laH l) = lgE (lgA Ls Hs Ts l) := by rw [hs]; exact go_lg
      rw [e]
      unfold tkL lgE
      by_cases h0 : (lgA Ls Hs Ts l).1 = 0
      · rw [if_pos h0, if_pos h0]
        refine ih _ met2 m2 ?_ q2 q3 x
        rw [la_app]
        have := sp_of (la_sp ht h0)
        exact this.1
      · rw [if_neg h0, if_neg h0]
        simp only [onL]
        rw [pu_mem lo_fate]
        simp
    have mm : ∀ (k : List Int) (a : List (Int × ByteArray × List ((Int × Int) × Int))) g, x ∈ onL (fun l' a' => wkL Ls Hs As Bs n l' k a') l a g ↔ x ∈ a ∨ x ∈ onL (fun l' a' => wkL Ls Hs As Bs n l' k a') l [] g := fun k a g => on_mem (fun l' a x => wk_mem n l' _ a x) l a g x
    rw [pwL, wkL, ← hs, hsx]
    by_cases hm : met (s - 1).toNat = true
    · have hin := (h2 s s1).1 hm
      rw [if_pos hm, if_pos (h3 s hin)]
      simp only [hin, if_true]
      exact tk Bs met m h2 h3
    · have hin : ¬ s ∈ m := fun h => hm ((h2 s s1).2 h)
      rw [if_neg hm]
      by_cases hc : chB As Bs s = true
      · rw [if_pos hc]
        simp only [hin, if_false]
        have q2 : ∀ t : Int, 1 ≤ t → (mtS met (s - 1).toNat (t - 1).toNat = true ↔ t ∈ m ++ [s]) := by
          intro t t1
          unfold mtS
          by_cases e : t = s
          · subst e; simp
          · rw [if_neg (by omega), h2 t t1]
            simp [e]
        have q3 : ∀ t ∈ m ++ [s], chB As Bs t = true := by
          intro t htt
          rcases List.mem_append.1 htt with h | h
          · exact h3 t h
          · rw [List.mem_singleton.1 h]; exact hc
        rw [List.mem_append, mm, tk As met m h2 h3]
        by_cases e : lgA Ls Hs Bs l = lgA Ls Hs As l
        · rw [if_pos e]
          simp only [List.not_mem_nil, or_false]
          constructor
          · exact .inl
          · rintro (h | h)
            · exact h
            · have e2 : goE Ls Hs (taT Bs s) l (laH l) = goE Ls Hs (taT As s) l (laH l) := by
                rw [hs, go_lg, go_lg]
                exact congrArg lgE e
              rw [e2] at h
              cases hg : goE Ls Hs (taT As s) l (laH l) with
              | inl e => rw [hg] at h; exact h
              | inr p =>
                rw [hg] at h
                exact wk_mono n _ m (m ++ [s]) (fun t h => List.mem_append.2 (.inl h)) x h
        · rw [if_neg e, tk Bs _ _ q2 q3]
      · rw [if_neg hc, if_neg hin]
        have e : lgA Ls Hs Bs l = lgA Ls Hs As l := by
          unfold lgA
          have e1 : lgT Ls Hs (taT Bs (laH l).1.1) (laH l) = lgT Ls Hs (taT As (laH l).1.1) (laH l) := by
            unfold lgT
            rw [← hs, st_alike (hA s) (hB s) (ch_alike (by simpa using hc))]
          rw [e1]
        rw [if_pos e, List.append_nil]
        exact tk As met m h2 h3
/-- What the program comes to, of a packet that comes in. -/
def pwS (Ls : List ((Int × Int) × (Int × Int))) (Hs : List (ByteArray × (Int × Int))) (As Bs : List (List Ru)) (s : Int × Int) (h : Int) : List (Int × ByteArray × List ((Int × Int) × Int)) := pwL Ls Hs As Bs 24 [(s, h)] (fun _ => false)
theorem ps_mem {S : Int} (ht : tpN S Ls Hs = 0) (hA : ∀ s, tbN (taT As s) = 0) (hB : ∀ s, tbN (taT Bs s) = 0) {s : Int × Int} (hs : spB S s = true) (h : Int) (x : Int × ByteArray × List ((Int × Int) × Int)) : x ∈ pwS Ls Hs As Bs s h ↔ x ∈ seeL Ls Hs As Bs s h :=
  pw_mem ht hA hB 24 [(s, h)] (fun _ => false) [] (sp_of hs).1 (fun s _ => by simp) (fun s h => absurd h List.not_mem_nil) x
theorem ps_nodup (s : Int × Int) (h : Int) : (pwS Ls Hs As Bs s h).Nodup := pw_nodup _ _ _
theorem ps_le (s : Int × Int) (h : Int) : (pwS Ls Hs As Bs s h).length ≤ 16777216 := pw_le 24 _ _
/-- Sorted it is what may be seen. -/
theorem ps_sorted {S : Int} (ht : tpN S Ls Hs = 0) (hA : ∀ s, tbN (taT As s) = 0) (hB : ∀ s, tbN (taT Bs s) = 0) {s : Int × Int} (hs : spB S s = true) (h : Int) {D : List (Int × ByteArray × List ((Int × Int) × Int))} (hp : D.Perm (pwS Ls Hs As Bs s h)) (hd : D.Pairwise fun a b => faL b a = false) : D = seeL Ls Hs As Bs s h := by
  refine ris_ext lo_fate ?_ (see_ris s h) (fun x => (hp.mem_iff).trans (ps_mem ht hA hB hs h x))
  have hn : D.Nodup := hp.nodup_iff.2 (ps_nodup s h)
  unfold Ris
  have h2 : D.Pairwise fun a b => a ≠ b := hn
  refine (hd.and h2).imp ?_
  rintro a b ⟨h1, h2⟩
  cases e : faL a b
  · exact absurd (lo_fate.tot a b e h1) h2
  · rfl
end
end Go.Proofs.YtglnnoglbieaeaaGreatDoor
/- What Seen of package mix answers, in numbers and lists. No program in it. -/
namespace Go.Proofs.YtglnnoglbieaeaaGreatDoor
open Go.RowKit
set_option linter.unusedSimpArgs false
set_option linter.unusedVariables false
section
variable {S : Int} {Ls : List ((Int × Int) × (Int × Int))} {Hs : List (ByteArray × (Int × Int))} {Ts : List (List Ru)} {l : List Op8} {m : ByteArray} {h : Int}
/-- The fault of Seen. -/
def snN (S : Int) (Ls : List ((Int × Int) × (Int × Int))) (Hs : List (ByteArray × (Int × Int))) (Ts : List (List Ru)) (l : List Op8) (m : ByteArray) (h : Int) : Int :=
  if cgN S Ls Hs Ts l ≠ 0 then cgN S Ls Hs Ts l else if weN S Ls Hs m ≠ 0 then weN S Ls Hs m else if hdrB h = true then 0 else 1
/-- What Seen answers. -/
def snL (S : Int) (Ls : List ((Int × Int) × (Int × Int))) (Hs : List (ByteArray × (Int × Int))) (Ts : List (List Ru)) (l : List Op8) (m : ByteArray) (h : Int) : List (Int × ByteArray × List ((Int × Int) × Int)) :=
  if snN S Ls Hs Ts l m h = 0 then seeL Ls Hs Ts (caT Ts l) (weV S Ls Hs m) h else []
theorem cg_nt (h0 : cgN S Ls Hs Ts l = 0) : ntN S Ls Hs Ts = 0 ∧ caN S Ts l = 0 := by
  unfold cgN at h0
  by_cases e : ntN S Ls Hs Ts = 0
  · rw [if_pos e] at h0
    by_cases e2 : 200 < l.length
    · rw [if_pos e2] at h0; cases h0
    · rw [if_neg e2] at h0
      exact ⟨e, h0⟩
  · rw [if_neg e] at h0
    exact absurd h0 e
theorem we_sp (ht : tpN S Ls Hs = 0) (h0 : weN S Ls Hs m = 0) : spB S (weV S Ls Hs m) = true := by
  have h1 := h0
  unfold weN at h1
  rw [if_pos ht] at h1
  unfold weV
  rw [if_pos h0]
  cases e : whereO Hs m with
  | none => rw [e] at h1; cases h1
  | some p => exact where_sp ht e
theorem ta_ok {Us : List (List Ru)} (hn : ∀ k, k < Us.length → tbN (Us.getD k []) = 0) (s : Int) : tbN (taT Us s) = 0 := by
  unfold taT
  by_cases hk : (s - 1).toNat < Us.length
  · exact hn _ hk
  · rw [List.getD_eq_getElem?_getD, List.getElem?_eq_none (by omega)]
    rfl
theorem cg_ok (h0 : cgN S Ls Hs Ts l = 0) : tpN S Ls Hs = 0 ∧ (Ts.length : Int) = S ∧ (∀ s, tbN (taT Ts s) = 0) ∧ ∀ s, tbN (taT (caT Ts l) s) = 0 := by
  obtain ⟨h1, h2⟩ := cg_nt h0
  obtain ⟨a1, a2, a3⟩ := nt_0 h1
  obtain ⟨_, _, b3⟩ := nt_0 (nt_ca h1 h2)
  exact ⟨a1, a2, ta_ok a3, ta_ok b3⟩
theorem sn_1 (h0 : cgN S Ls Hs Ts l ≠ 0) : snN S Ls Hs Ts l m h = cgN S Ls Hs Ts l ∧ snL S Ls Hs Ts l m h = [] := by
  have e : snN S Ls Hs Ts l m h = cgN S Ls Hs Ts l := by unfold snN; rw [if_pos h0]
  exact ⟨e, by unfold snL; rw [if_neg (by rw [e]; exact h0)]⟩
theorem sn_2 (h0 : cgN S Ls Hs Ts l = 0) (h1 : weN S Ls Hs m ≠ 0) : snN S Ls Hs Ts l m h = weN S Ls Hs m ∧ snL S Ls Hs Ts l m h = [] := by
  have e : snN S Ls Hs Ts l m h = weN S Ls Hs m := by unfold snN; rw [if_neg (by simp [h0]), if_pos h1]
  exact ⟨e, by unfold snL; rw [if_neg (by rw [e]; exact h1)]⟩
theorem sn_3 (h0 : cgN S Ls Hs Ts l = 0) (h1 : weN S Ls Hs m = 0) (h2 : hdrB h = false) : snN S Ls Hs Ts l m h = 1 ∧ snL S Ls Hs Ts l m h = [] := by
  have e : snN S Ls Hs Ts l m h = 1 := by unfold snN; rw [if_neg (by simp [h0]), if_neg (by simp [h1]), if_neg (by simp [h2])]
  exact ⟨e, by unfold snL; rw [if_neg (by rw [e]; decide)]⟩
theorem sn_0 (h0 : cgN S Ls Hs Ts l = 0) (h1 : weN S Ls Hs m = 0) (h2 : hdrB h = true) : snN S Ls Hs Ts l m h = 0 ∧ snL S Ls Hs Ts l m h = seeL Ls Hs Ts (caT Ts l) (weV S Ls Hs m) h := by
  have e : snN S Ls Hs Ts l m h = 0 := by unfold snN; rw [if_neg (by simp [h0]), if_neg (by simp [h1]), if_pos h2]
  exact ⟨e, by unfold snL; rw [if_pos e]⟩
/-- Something is always seen. -/
theorem ps_some {As Bs : List (List Ru)} (ht : tpN S Ls Hs = 0) (hA : ∀ s, tbN (taT As s) = 0) (hB : ∀ s, tbN (taT Bs s) = 0) {s : Int × Int} (hs : spB S s = true) (h : Int) : 0 < (pwS Ls Hs As Bs s h).length := by
  obtain ⟨x, hx⟩ := wk_some (Ls := Ls) (Hs := Hs) (As := As) (Bs := Bs) 24 [(s, h)] [] rfl (by omega) (by simp)
  exact List.length_pos_of_mem ((ps_mem ht hA hB hs h x).2 hx)
end
end Go.Proofs.YtglnnoglbieaeaaGreatDoor
/- What isSwitch, isSpot and joins of package topo answer: contracts for the walks above them. -/
namespace Go.Proofs.YtglnnoglbieaeaaGreatDoor
open Go.RowKit
set_option linter.unusedSimpArgs false
set_option linter.unusedVariables false

set_option maxHeartbeats 1000000 in
theorem isSwitch_any (S a : Int) (w : World) :
    Calls Tryz.prog 76 #[.int .i64 S, .int .i64 a] w fun e w' => e = .returned (.bool (swB S a)) ∧ Below w.heap.size w w' := by
  by_cases h1 : 1 ≤ a
  · by_cases h2 : a ≤ S
    · have e : swB S a = true := sw_of.2 ⟨h1, h2⟩
      rw [e]
      clear e
      go_enter Tryz.func76, Tryz.ntmps76
      go_wp2
      go_ret
      exact ⟨rfl, Below.refl _ _⟩
    · have e : swB S a = false := by simp [swB, h2]
      rw [e]
      clear e
      go_enter Tryz.func76, Tryz.ntmps76
      go_wp2
      go_ret
      exact ⟨rfl, Below.refl _ _⟩
  · have e : swB S a = false := by simp [swB, h1]
    rw [e]
    clear e
    go_enter Tryz.func76, Tryz.ntmps76
    go_wp2
    go_ret
    exact ⟨rfl, Below.refl _ _⟩
set_option maxHeartbeats 1000000 in
theorem isSpot_any (S x y : Int) (w : World) :
    Calls Tryz.prog 127 #[.int .i64 S, .agg #[.int .i64 x, .int .i64 y]] w fun e w' => e = .returned (.bool (spB S (x, y))) ∧ Below w.heap.size w w' := by
  have HB0 : Hid (Below w.heap.size w (w.alloc (Obj.cells #[Value.int IntKind.i64 x, Value.int IntKind.i64 y] 39))) := (Below.refl _ _).alloc (Nat.le_refl _) _
  have hlt : w.heap.size < (w.alloc (Obj.cells #[Value.int IntKind.i64 x, Value.int IntKind.i64 y] 39)).heap.size := by simp
  have c0 : (w.alloc (Obj.cells #[Value.int IntKind.i64 x, Value.int IntKind.i64 y] 39)).cell? ⟨w.heap.size, 0, none⟩ = some (.int .i64 x) := by simp
  have c1 : (w.alloc (Obj.cells #[Value.int IntKind.i64 x, Value.int IntKind.i64 y] 39)).cell? ⟨w.heap.size, 1, none⟩ = some (.int .i64 y) := by simp
  cases hs : swB S x
  · have e : spB S (x, y) = false := by
      cases h : spB S (x, y)
      · rfl
      · have := sp_of h
        have h2 := sw_of.2 ⟨this.1, this.2.1⟩
        rw [hs] at h2
        cases h2
    rw [e]
    clear e
    go_enter Tryz.func127, Tryz.ntmps127
    go_wp2_with fail
    refine (isSwitch_any S x _).mono ?_
    rintro e w1 ⟨rfl, hb1⟩
    rw [hs]
    have HB1 : Hid (Below w.heap.size w w1) := HB0.out.trans (hb1.mono HB0.out.size)
    clear hb1 c0 c1
    go_wp2
    go_ret
    exact ⟨rfl, HB1.out⟩
  · have hw := sw_of.1 hs
    have e : spB S (x, y) = (decide (1 ≤ y) && decide (y ≤ 4)) := by simp [spB, hw.1, hw.2]
    rw [e]
    clear e hw
    have walk : ∀ r : Bool, r = (decide (1 ≤ y) && decide (y ≤ 4)) → Calls Tryz.prog 127 #[.int .i64 S, .agg #[.int .i64 x, .int .i64 y]] w fun e w' => e = .returned (.bool r) ∧ Below w.heap.size w w' := by
      intro r hr
      by_cases h1 : 1 ≤ y
      · by_cases h2 : y ≤ 4
        · have e : r = true := by rw [hr]; simp [h1, h2]
          subst e
          clear hr
          go_enter Tryz.func127, Tryz.ntmps127
          go_wp2_with fail
          refine (isSwitch_any S x _).mono ?_
          rintro e w1 ⟨rfl, hb1⟩
          rw [hs]
          have HB1 : Hid (Below w.heap.size w w1) := HB0.out.trans (hb1.mono HB0.out.size)
          have d1 := cell_later hb1 c1
          clear hb1 c0 c1
          go_wp2
          go_ret
          exact ⟨rfl, HB1.out⟩
        · have e : r = false := by rw [hr]; simp [h2]
          subst e
          clear hr
          go_enter Tryz.func127, Tryz.ntmps127
          go_wp2_with fail
          refine (isSwitch_any S x _).mono ?_
          rintro e w1 ⟨rfl, hb1⟩
          rw [hs]
          have HB1 : Hid (Below w.heap.size w w1) := HB0.out.trans (hb1.mono HB0.out.size)
          have d1 := cell_later hb1 c1
          have hd : decide (y ≤ 4) = false := by simp [h2]
          clear hb1 c0 c1
          go_wp2
          go_ret
          exact ⟨by first | rfl | simp [h2], HB1.out⟩
      · have e : r = false := by rw [hr]; simp [h1]
        subst e
        clear hr
        go_enter Tryz.func127, Tryz.ntmps127
        go_wp2_with fail
        refine (isSwitch_any S x _).mono ?_
        rintro e w1 ⟨rfl, hb1⟩
        rw [hs]
        have HB1 : Hid (Below w.heap.size w w1) := HB0.out.trans (hb1.mono HB0.out.size)
        have d1 := cell_later hb1 c1
        clear hb1 c0 c1
        go_wp2
        go_ret
        exact ⟨rfl, HB1.out⟩
    exact walk _ rfl
end Go.Proofs.YtglnnoglbieaeaaGreatDoor
/- A spot as a key of a map; numbers and texts as keys. -/
namespace Go.Proofs.YtglnnoglbieaeaaGreatDoor
open Go.RowKit

set_option maxRecDepth 100000 in
theorem spotEq (a b c d : Int) (w : World) : (Op.equal 39 (.agg #[.int .i64 a, .int .i64 b]) (.agg #[.int .i64 c, .int .i64 d])).run Tryz.prog w = .ok (a == c && b == d) w := by
  unfold Op.equal Op.maxDepth
  rw [run_equalIn_struct w 9999 _ _ _ (by kernel_rfl) (by kernel_rfl)]
  cases h1 : (a == c)
  · go_simp
  · cases h2 : (b == d)
    · go_simp
    · go_simp
set_option maxRecDepth 100000 in
theorem spotCheck (e : Bool) (a b : Int) (w : World) : (Instr.checkKey e 10000 39 (.agg #[.int .i64 a, .int .i64 b])).run Tryz.prog w = .ok () w := by
  have h : ∀ (x : Int) (w : World), (Instr.checkKey e 9999 3 (.int .i64 x)).run Tryz.prog w = .ok () w := fun x w => Go.MapKept.run_checkKey Tryz.underlying3 (by simp [Go.MapKept.IsKey]) e 9998
  rw [Instr.checkKey]
  go_simp
def spotKey : KeyE Tryz.prog 39 (Int × Int) :=
  KeyE.ask (fun k => .agg #[.int .i64 k.1, .int .i64 k.2]) sq sq_iff (fun e k w => spotCheck e k.1 k.2 w) _ (show Tryz.prog.underlying 39 = some (.struct (Tryz.prog.fieldsOf 39)) by kernel_rfl) (fun a b => rfl) (fun a b w => spotEq a.1 a.2 b.1 b.2 w) (fun k => by simp [Instr.sameBits])
def intKey : KeyE Tryz.prog 3 Int :=
  KeyE.now (fun k => .int .i64 k) qI qI_iff (fun e k w => Go.MapKept.run_checkKey Tryz.underlying3 (by simp [Go.MapKept.IsKey]) e 9999) _ Tryz.underlying3 (fun a b => by simp [Instr.sameNow, qI]) (fun k => by simp [Instr.sameBits])
def strKey : KeyE Tryz.prog 9 ByteArray :=
  KeyE.now (fun k => .string k) (fun a b => a == b) ba_iff (fun e k w => Go.MapKept.run_checkKey Tryz.underlying9 (by simp [Go.MapKept.IsKey]) e 9999) _ Tryz.underlying9 (fun a b => by simp [Instr.sameNow, beq_toListBytes]) (fun k => by simp [Instr.sameBits, (ba_iff k k).2 rfl])
/-- Numbers as elements. -/
def veI (n : Int) : Value := .int .i64 n
section
variable {P : Program} {K : TypeId} {κ : Type} {E : KeyE P K κ} {w : World} {ops : Array Oper} {rest : List Oper} {o : Oper} {a : Act} {Q : Exit → Act → World → Prop}
theorem getV_I {o : Option Int} : getV veI (.int .i64 0) o = .int .i64 (o.getD 0) := by cases o <;> rfl
/-- A look-up in a map that counts. -/
theorem run_lookup_TK {B : Nat} {M : List (κ × Int)} {U : List κ} (h : MAt E veI w B M) (hT : TK E.q M U) (t e : TypeId) (ht : P.underlying t = some (.map K e)) (hz : ∀ w, (zeroValue e).run P w = .ok (.int .i64 0) w) (k : κ) :
    (Instr.lookup t (.map (some B)) (E.c k) false).run P w = .ok (.int .i64 (ctM E.q k U : Int)) w := by
  rw [run_lookup_M h t e ht _ hz k false, getV_I, hT k]
  rfl
end
end Go.Proofs.YtglnnoglbieaeaaGreatDoor
/- The error of a number. -/
namespace Go.Proofs.YtglnnoglbieaeaaGreatDoor

/-- The error of a number: none of 0. -/
def noV (n : Int) : Value := if n = 0 then .nilIface else .iface 85 (.int .i64 n)
theorem no_ok {n : Int} (h : n = 0) : noV n = .nilIface := by simp [noV, h]
theorem no_ne {n : Int} (h : n ≠ 0) : noV n = .iface 85 (.int .i64 n) := by simp [noV, h]
end Go.Proofs.YtglnnoglbieaeaaGreatDoor
/- The struct api.Link: its cells, slices of them, == of two, such that came in. Written by mk/struct.py. -/
namespace Go.Proofs.YtglnnoglbieaeaaGreatDoor
open Go.ChangeShapes Go.WideShapes Go.ChangeAt Go.RowKit Go.Joins
set_option linter.unusedSimpArgs false
set_option linter.unusedVariables false
set_option maxRecDepth 100000

def lnkE : Enc ((Int × Int) × (Int × Int)) where
  c := fun x => [.int .i64 x.1.1, .int .i64 x.1.2, .int .i64 x.2.1, .int .i64 x.2.2]
  n := 4
  len := fun _ => rfl
  pos := by decide
  one := by
    intro x u hu
    simp at hu
    rcases hu with rfl | rfl | rfl | rfl <;> rfl
theorem lnk_cells {w : World} {g o : Nat} {x0 : Int} {x1 : Int} {x2 : Int} {x3 : Int} (h : VAt w g o (lnkE.c ((x0, x1), (x2, x3)))) : w.cell? ⟨g, o, none⟩ = some (.int .i64 x0) ∧ w.cell? ⟨g, o + 1, none⟩ = some (.int .i64 x1) ∧ w.cell? ⟨g, o + 2, none⟩ = some (.int .i64 x2) ∧ w.cell? ⟨g, o + 3, none⟩ = some (.int .i64 x3) :=
  ⟨h 0 _ rfl, h 1 _ rfl, h 2 _ rfl, h 3 _ rfl⟩
theorem lnk_at {w : World} {g o : Nat} {L : List ((Int × Int) × (Int × Int))} (h : GAt lnkE w g o L) {n k : Nat} (hn : L.length = n) (hk : k < n) :
    ∃ (x0 : Int) (x1 : Int) (x2 : Int) (x3 : Int) (hl : k < L.length), L[k] = ((x0, x1), (x2, x3)) ∧ w.cell? ⟨g, o + k * 4, none⟩ = some (.int .i64 x0) ∧ w.cell? ⟨g, o + k * 4 + 1, none⟩ = some (.int .i64 x1) ∧ w.cell? ⟨g, o + k * 4 + 2, none⟩ = some (.int .i64 x2) ∧ w.cell? ⟨g, o + k * 4 + 3, none⟩ = some (.int .i64 x3) :=
  have hl : k < L.length := by omega
  ⟨_, _, _, _, hl, rfl, lnk_cells (h k hl)⟩
theorem lnk_new (w : World) (x0 : Int) (x1 : Int) (x2 : Int) (x3 : Int) (t : TypeId) : VAt (w.alloc (Obj.cells #[.int .i64 x0, .int .i64 x1, .int .i64 x2, .int .i64 x3] t)) w.heap.size 0 (lnkE.c ((x0, x1), (x2, x3))) := vat_new w [.int .i64 x0, .int .i64 x1, .int .i64 x2, .int .i64 x3] t
theorem lnk_row (w : World) (x0 : Int) (x1 : Int) (x2 : Int) (x3 : Int) (t : TypeId) : GS lnkE (w.alloc (Obj.cells #[.int .i64 x0, .int .i64 x1, .int .i64 x2, .int .i64 x3] t)) (.slice (some ⟨w.heap.size, 0, none⟩) 1 1) [((x0, x1), (x2, x3))] := gs_one (E := lnkE) w ((x0, x1), (x2, x3)) t (vs := [.int .i64 x0, .int .i64 x1, .int .i64 x2, .int .i64 x3]) rfl
/-- Are two the same? -/
def lnkB (a b : (Int × Int) × (Int × Int)) : Bool := (a.1.1 == b.1.1) && ((a.1.2 == b.1.2) && ((a.2.1 == b.2.1) && ((a.2.2 == b.2.2))))
theorem lnkB_iff (a b : (Int × Int) × (Int × Int)) : lnkB a b = true ↔ a = b := by
  have e : lnkB a b = ((a.1.1 == b.1.1) && ((a.1.2 == b.1.2) && ((a.2.1 == b.2.1) && ((a.2.2 == b.2.2))))) := rfl
  rw [e]
  simp only [Bool.and_eq_true, beq_iff_eq]
  constructor
  · intro h
    obtain ⟨⟨a0, a1⟩, ⟨a2, a3⟩⟩ := a; obtain ⟨⟨b0, b1⟩, ⟨b2, b3⟩⟩ := b; simp at h ⊢; simp [h]
  · intro h
    subst h
    simp
theorem lnk_ways (x0 : Int) (x1 : Int) (x2 : Int) (x3 : Int) (y0 : Int) (y1 : Int) (y2 : Int) (y3 : Int) :
    ((x0 == y0) = false ∧ lnkB ((x0, x1), (x2, x3)) ((y0, y1), (y2, y3)) = false) ∨
    ((x0 == y0) = true ∧ (x1 == y1) = false ∧ lnkB ((x0, x1), (x2, x3)) ((y0, y1), (y2, y3)) = false) ∨
    ((x0 == y0) = true ∧ (x1 == y1) = true ∧ (x2 == y2) = false ∧ lnkB ((x0, x1), (x2, x3)) ((y0, y1), (y2, y3)) = false) ∨
    ((x0 == y0) = true ∧ (x1 == y1) = true ∧ (x2 == y2) = true ∧ (x3 == y3) = false ∧ lnkB ((x0, x1), (x2, x3)) ((y0, y1), (y2, y3)) = false) ∨
    ((x0 == y0) = true ∧ (x1 == y1) = true ∧ (x2 == y2) = true ∧ (x3 == y3) = true ∧ lnkB ((x0, x1), (x2, x3)) ((y0, y1), (y2, y3)) = true) := by
  have e : lnkB ((x0, x1), (x2, x3)) ((y0, y1), (y2, y3)) = ((x0 == y0) && ((x1 == y1) && ((x2 == y2) && ((x3 == y3))))) := rfl
  rw [e]
  cases h0 : (x0 == y0)
  · simp
  · skip
    cases h1 : (x1 == y1)
    · simp
    · skip
      cases h2 : (x2 == y2)
      · simp
      · skip
        cases h3 : (x3 == y3)
        · simp
        · skip
          simp
set_option maxRecDepth 100000 in
theorem lnk_eq (x0 : Int) (x1 : Int) (x2 : Int) (x3 : Int) (y0 : Int) (y1 : Int) (y2 : Int) (y3 : Int) (w : World) : (Op.equal 105 (.agg #[.int .i64 x0, .int .i64 x1, .int .i64 x2, .int .i64 x3]) (.agg #[.int .i64 y0, .int .i64 y1, .int .i64 y2, .int .i64 y3])).run Tryz.prog w = .ok (lnkB ((x0, x1), (x2, x3)) ((y0, y1), (y2, y3))) w := by
  unfold Op.equal Op.maxDepth
  rw [run_equalIn_struct w 9999 _ _ _ (by kernel_rfl) (by kernel_rfl)]
  rcases lnk_ways x0 x1 x2 x3 y0 y1 y2 y3 with ⟨e0, e⟩ | ⟨e0, e1, e⟩ | ⟨e0, e1, e2, e⟩ | ⟨e0, e1, e2, e3, e⟩ | ⟨e0, e1, e2, e3, e⟩
  all_goals
    rw [e]
    go_simp
theorem lnk_info : (Tryz.prog.info? 105).map (fun i => (i.zero, i.size, i.bytes)) = some (some (.agg #[.int .i64 0, .int .i64 0, .int .i64 0, .int .i64 0]), 4, 32) := by kernel_rfl
theorem lnk_zero : (Value.agg #[.int .i64 0, .int .i64 0, .int .i64 0, .int .i64 0]).cells.size = 4 := by simp [Value.cells]
/-- Cells that read as one. -/
theorem lnk_open {H : Type} {enc : TypeId × Value → H} {W : World} {n : Nat} {cs : List Value} {x : DataW H × List MemPlace}
    (h : DataW.trod enc Tryz.prog W 0 (fun _ => true) true n 105 cs = some x) : ∃ y, cs = lnkE.c y := by
  obtain ⟨xs, k, _, _, hl, hlen, hf⟩ := DataW.trod_struct Tryz.underlying105 h
  have hC : Tryz.prog.cellsOf 105 = 4 := by kernel_rfl
  have hT0 : Tryz.prog.cellsOf 39 = 2 := by kernel_rfl
  rw [hC] at hl
  match cs, hl with
  | [c0, c1, c2, c3], _ =>
    match xs, hlen with
    | [z0, z1], _ =>
      have g0 := hf 0 _ rfl
      have g1 := hf 1 _ rfl
      simp [hT0] at g0 g1
      obtain ⟨s0, e0⟩ := spo_open g0
      obtain ⟨s1, e1⟩ := spo_open g1
      simp [spoE] at e0 e1
      refine ⟨((s0.1, s0.2), (s1.1, s1.2)), ?_⟩
      simp [lnkE, e0, e1]
set_option maxRecDepth 100000 in
/-- One that came in. -/
theorem lnk_of {H : Type} {enc : TypeId × Value → H} {W : World} {base : Nat} {v : Value} {d : DataW H} {p : List MemPlace}
    (hv : Value.okWide Tryz.prog W .any base 105 v) (h : DataW.Trod enc Tryz.prog W 0 (fun _ => true) true 105 v d p) : ∃ (x0 : Int) (x1 : Int) (x2 : Int) (x3 : Int), v = .agg #[.int .i64 x0, .int .i64 x1, .int .i64 x2, .int .i64 x3] := by
  obtain ⟨cs, rfl, hsz⟩ := okWide_struct Tryz.underlying105 hv
  obtain ⟨n, hn⟩ := h
  obtain ⟨y, e⟩ := lnk_open hn
  refine ⟨y.1.1, y.1.2, y.2.1, y.2.2, ?_⟩
  simp only [Value.cells] at e
  have e2 : cs = #[.int .i64 y.1.1, .int .i64 y.1.2, .int .i64 y.2.1, .int .i64 y.2.2] := by
    rw [← Array.toArray_toList (xs := cs), e]
    rfl
  rw [e2]
/-- A slice of them that came in. -/
theorem lnks_of {H : Type} {enc : TypeId × Value → H} {W : World} {base : Nat} {v : Value} {d : DataW H} {p : List MemPlace}
    (hv : Value.okWide Tryz.prog W .any base 22 v) (h : DataW.Trod enc Tryz.prog W 0 (fun _ => true) true 22 v d p) : ∃ L, GS lnkE W v L :=
  gs_of (E := lnkE) 22 105 Tryz.underlying22 (by kernel_rfl) ((0, 0), (0, 0)) (fun _ _ _ h => lnk_open h) hv h
end Go.Proofs.YtglnnoglbieaeaaGreatDoor
/- What topo.lay answers: a contract for the walks above it. -/
namespace Go.Proofs.YtglnnoglbieaeaaGreatDoor
open Go.RowKit
set_option linter.unusedSimpArgs false
set_option linter.unusedVariables false

/-- What holds of the map behind a link. -/
def LayQ (w w' : World) (B : Nat) (N : Int) (V : List (Int × Int)) : Prop := ∃ M', MAt spotKey veI w' B M' ∧ (N = 0 → TK sq M' V) ∧ But [B] w w'
set_option maxHeartbeats 1000000 in
set_option maxRecDepth 100000 in
theorem lay_ok (S x0 x1 x2 x3 : Int) (B : Nat) (M : List ((Int × Int) × Int)) (U : List (Int × Int)) (w : World) (hM : MAt spotKey veI w B M) (hT : TK sq M U) (hU : U.length ≤ 1000) (ha : spB S (x0, x1) = true) (hb : spB S (x2, x3) = true) (N : Int) (hN : N = lk1 S U ((x0, x1), (x2, x3))) :
    Calls Tryz.prog 80 #[.int .i64 S, .map (some B), .agg #[.int .i64 x0, .int .i64 x1, .int .i64 x2, .int .i64 x3]] w fun e w' => e = .returned (noV N) ∧ LayQ w w' B N (U ++ [(x0, x1), (x2, x3)]) := by
  have hlt := hM.lt
  have HN : Hid (N = lk1 S U ((x0, x1), (x2, x3))) := hN
  have hB0 : Below w.heap.size w (w.alloc (Obj.cells #[Value.int IntKind.i64 x0, Value.int IntKind.i64 x1, Value.int IntKind.i64 x2, Value.int IntKind.i64 x3] 105)) := (Below.refl _ _).alloc (Nat.le_refl _) _
  have HB0 : Hid (Below w.heap.size w (w.alloc (Obj.cells #[Value.int IntKind.i64 x0, Value.int IntKind.i64 x1, Value.int IntKind.i64 x2, Value.int IntKind.i64 x3] 105))) := hB0
  have HC := lnk_new w x0 x1 x2 x3 105
  have HM0 : Hid (MAt spotKey veI w B M) := hM
  have HT : Hid (TK sq M U) := hT
  have hne : ¬ w.heap.size = B := by omega
  clear hM hT hN hB0
  go_enter Tryz.func80, Tryz.ntmps80
  go_wp2_with fail
  refine (isSpot_any S x0 x1 _).mono ?_
  rintro e w1 ⟨rfl, hb1⟩
  rw [ha]
  have HB1 : Hid (Below w.heap.size w w1) := HB0.out.trans (hb1.mono HB0.out.size)
  have HC1 := HC.later hb1
  obtain ⟨c0, c1, c2, c3⟩ := lnk_cells HC1
  simp only [Nat.zero_add] at c0 c1 c2 c3
  clear hb1
  go_wp2_with fail
  refine (isSpot_any S x2 x3 _).mono ?_
  rintro e w2 ⟨rfl, hb2⟩
  rw [hb]
  have HB2 : Hid (Below w.heap.size w w2) := HB1.out.trans (hb2.mono HB1.out.size)
  have HC2 : Hid (VAt w2 w.heap.size 0 (lnkE.c ((x0, x1), (x2, x3)))) := HC1.later hb2
  have d0 := cell_later hb2 c0
  have d1 := cell_later hb2 c1
  have d2 := cell_later hb2 c2
  have d3 := cell_later hb2 c3
  have HM2 : Hid (MAt spotKey veI w2 B M) := (HM0.out.later HB2.out)
  clear hb2 HC1 HC c0 c1 c2 c3 HB1 HB0
  go_upto_region 3 with fail
  obtain ⟨cA, hcA⟩ : ∃ cA : Int, cA = (ctM sq (x0, x1) U : Int) := ⟨_, rfl⟩
  have HcA : Hid (cA = (ctM sq (x0, x1) U : Int)) := hcA
  have hcw : IntKind.i64.wrap (cA + 1) = cA + 1 := by
    have h1 := ct_le (q := sq) (x0, x1) U
    exact wrap_small (by omega) (by omega)
  clear hcA
  go_cut [] from 20 to 26 (fun w' => ∃ M1, MAt spotKey veI w' B M1 ∧ TK sq M1 (U ++ [(x0, x1)]) ∧ But [B] w2 w')
  case first =>
    have hMd : MAt spotKey veI w2.drew B M := HM2.out
    obtain ⟨v0, st, w3, hE, hg3, hM3, hS3⟩ := run_entry_M hMd 157 3 Tryz.underlying157 0 (fun w => by kernel_rfl) (x0, x1)
    obtain ⟨w4, hSt, hM4, hg4⟩ := hS3 w3 (cA + 1) rfl
    have hTK4 : Hid (TK sq (mput sq (x0, x1) (cA + 1) M) (U ++ [(x0, x1)])) := by
      show TK _ _ _
      rw [HcA.out]
      exact tk_put sq_iff HT.out _
    have HM4 : Hid (MAt spotKey veI w4 B (mput sq (x0, x1) (cA + 1) M)) := hM4
    have HBt : Hid (But [B] w2 w4) := ((But.refl [B] w2).drew.trans (But.of_grown hg3 (by simp))).trans (But.of_grown hg4 (by simp))
    have hl2 : (Instr.lookup 157 (.map (some B)) (.agg #[.int .i64 x0, .int .i64 x1]) false).run Tryz.prog w2.drew = .ok (.int .i64 cA) w2.drew := by
      rw [HcA.out]
      exact run_lookup_TK hMd HT.out 157 3 Tryz.underlying157 (fun w => by kernel_rfl) (x0, x1)
    have hl3 : (Instr.lookup 157 (.map (some B)) (.agg #[.int .i64 x0, .int .i64 x1]) false).run Tryz.prog w3 = .ok (.int .i64 cA) w3 := by
      have h := run_lookup_M hM3 157 3 Tryz.underlying157 (.int .i64 0) (fun w => by kernel_rfl) (x0, x1) false
      have e : mget spotKey.q (x0, x1) (mput spotKey.q (x0, x1) ((mget spotKey.q (x0, x1) M).getD 0) M) = some cA := by
        rw [mget_put spotKey.qeq, if_pos ((spotKey.qeq _ _).2 rfl), HcA.out]
        exact congrArg some (HT.out (x0, x1))
      rw [e] at h
      exact h
    have h1 : (Instr.mapEntry 157 (.map (some B)) (.agg #[.int .i64 x0, .int .i64 x1])).run Tryz.prog w2.drew = .ok (.tuple #[v0, .int .i64 (st : Int)]) w3 := hE
    have h3 : (Instr.entryStore 157 (.map (some B)) (.int .i64 (st : Int)) (.int .i64 (cA + 1))).run Tryz.prog w3 = .ok () w4 := hSt
    clear hE hS3 hSt hM3 hM4 hg3 hg4 hMd
    go_region
    go_wp2_with fail
    go_meet
    case rel => exact ⟨_, HM4.out, hTK4.out, HBt.out⟩
  case rest =>
    obtain ⟨M1, hM1, hT1, hBt1⟩ := hcut
    obtain ⟨w5, hw5⟩ : ∃ x, x = wc := ⟨_, rfl⟩
    subst hw5
    have hnB : w.heap.size ∉ [B] := by simp [hne]
    have hl2 : w.heap.size < w2.heap.size := World.block_lt_of_cell? _ _ d0
    have e0 := (hBt1.cell (p := ⟨w.heap.size, 0, none⟩) hl2 hnB).trans d0
    have e1 := (hBt1.cell (p := ⟨w.heap.size, 1, none⟩) hl2 hnB).trans d1
    have e2 := (hBt1.cell (p := ⟨w.heap.size, 2, none⟩) hl2 hnB).trans d2
    have e3 := (hBt1.cell (p := ⟨w.heap.size, 3, none⟩) hl2 hnB).trans d3
    have HM5 : Hid (MAt spotKey veI w5 B M1) := hM1
    have HT5 : Hid (TK sq M1 (U ++ [(x0, x1)])) := hT1
    have HBt5 : Hid (But [B] w w5) := (But.of_below (HB2.out)).trans hBt1
    clear hM1 hT1 hBt1 d0 d1 d2 d3 HM2 HC2 hcw HcA hnB hl2
    obtain ⟨cB, hcB⟩ : ∃ cB : Int, cB = (ctM sq (x2, x3) (U ++ [(x0, x1)]) : Int) := ⟨_, rfl⟩
    have HcB : Hid (cB = (ctM sq (x2, x3) (U ++ [(x0, x1)]) : Int)) := hcB
    have hcw : IntKind.i64.wrap (cB + 1) = cB + 1 := by
      have h1 := ct_le (q := sq) (x2, x3) (U ++ [(x0, x1)])
      simp only [List.length_append, List.length_singleton] at h1
      exact wrap_small (by omega) (by omega)
    clear hcB
    go_upto_region 4 with fail
    go_cut [] from 27 to 33 (fun w' => ∃ M2, MAt spotKey veI w' B M2 ∧ TK sq M2 (U ++ [(x0, x1)] ++ [(x2, x3)]) ∧ But [B] w5 w')
    case first =>
      have hMd : MAt spotKey veI w5.drew B M1 := HM5.out
      obtain ⟨v0, st, w3, hE, hg3, hM3, hS3⟩ := run_entry_M hMd 157 3 Tryz.underlying157 0 (fun w => by kernel_rfl) (x2, x3)
      obtain ⟨w4, hSt, hM4, hg4⟩ := hS3 w3 (cB + 1) rfl
      have hTK4 : Hid (TK sq (mput sq (x2, x3) (cB + 1) M1) (U ++ [(x0, x1)] ++ [(x2, x3)])) := by
        show TK _ _ _
        rw [HcB.out]
        exact tk_put sq_iff HT5.out _
      have HM4 : Hid (MAt spotKey veI w4 B (mput sq (x2, x3) (cB + 1) M1)) := hM4
      have HBt : Hid (But [B] w5 w4) := ((But.refl [B] w5).drew.trans (But.of_grown hg3 (by simp))).trans (But.of_grown hg4 (by simp))
      have hl2 : (Instr.lookup 157 (.map (some B)) (.agg #[.int .i64 x2, .int .i64 x3]) false).run Tryz.prog w5.drew = .ok (.int .i64 cB) w5.drew := by
        rw [HcB.out]
        exact run_lookup_TK hMd HT5.out 157 3 Tryz.underlying157 (fun w => by kernel_rfl) (x2, x3)
      have hl3 : (Instr.lookup 157 (.map (some B)) (.agg #[.int .i64 x2, .int .i64 x3]) false).run Tryz.prog w3 = .ok (.int .i64 cB) w3 := by
        have h := run_lookup_M hM3 157 3 Tryz.underlying157 (.int .i64 0) (fun w => by kernel_rfl) (x2, x3) false
        have e : mget spotKey.q (x2, x3) (mput spotKey.q (x2, x3) ((mget spotKey.q (x2, x3) M1).getD 0) M1) = some cB := by
          rw [mget_put spotKey.qeq, if_pos ((spotKey.qeq _ _).2 rfl), HcB.out]
          exact congrArg some (HT5.out (x2, x3))
        rw [e] at h
        exact h
      have h1 : (Instr.mapEntry 157 (.map (some B)) (.agg #[.int .i64 x2, .int .i64 x3])).run Tryz.prog w5.drew = .ok (.tuple #[v0, .int .i64 (st : Int)]) w3 := hE
      have h3 : (Instr.entryStore 157 (.map (some B)) (.int .i64 (st : Int)) (.int .i64 (cB + 1))).run Tryz.prog w3 = .ok () w4 := hSt
      clear hE hS3 hSt hM3 hM4 hg3 hg4 hMd
      go_region
      go_wp2_with fail
      go_meet
      case rel => exact ⟨_, HM4.out, hTK4.out, HBt.out⟩
    case rest =>
      obtain ⟨M2, hM2, hT2, hBt2⟩ := hcut
      have hnB : w.heap.size ∉ [B] := by simp [hne]
      have hl2 : w.heap.size < w5.heap.size := World.block_lt_of_cell? _ _ e0
      have f0 := (hBt2.cell (p := ⟨w.heap.size, 0, none⟩) hl2 hnB).trans e0
      have f1 := (hBt2.cell (p := ⟨w.heap.size, 1, none⟩) hl2 hnB).trans e1
      have f2 := (hBt2.cell (p := ⟨w.heap.size, 2, none⟩) hl2 hnB).trans e2
      have f3 := (hBt2.cell (p := ⟨w.heap.size, 3, none⟩) hl2 hnB).trans e3
      have HM6 : Hid (MAt spotKey veI wc B M2) := hM2
      have HT6 : Hid (TK sq M2 (U ++ [(x0, x1), (x2, x3)])) := by
        show TK _ _ _
        simpa using hT2
      have HBt6 : Hid (But [B] w wc) := HBt5.out.trans hBt2
      obtain ⟨pA, hpA⟩ : ∃ p : Int, p = (ctM sq (x0, x1) (U ++ [(x0, x1)] ++ [(x2, x3)]) : Int) := ⟨_, rfl⟩
      obtain ⟨pB, hpB⟩ : ∃ p : Int, p = (ctM sq (x2, x3) (U ++ [(x0, x1)] ++ [(x2, x3)]) : Int) := ⟨_, rfl⟩
      have hlA : (Instr.lookup 157 (.map (some B)) (.agg #[.int .i64 x0, .int .i64 x1]) false).run Tryz.prog wc = .ok (.int .i64 pA) wc := by
        rw [hpA]
        exact run_lookup_TK hM2 hT2 157 3 Tryz.underlying157 (fun w => by kernel_rfl) (x0, x1)
      have hlB : (Instr.lookup 157 (.map (some B)) (.agg #[.int .i64 x2, .int .i64 x3]) false).run Tryz.prog wc = .ok (.int .i64 pB) wc := by
        rw [hpB]
        exact run_lookup_TK hM2 hT2 157 3 Tryz.underlying157 (fun w => by kernel_rfl) (x2, x3)
      have HL : Hid (N = if (decide ((1 : Int) < pA) || decide ((1 : Int) < pB)) = true then 7 else 0) := by
        show _ = _
        rw [HN.out, hpA, hpB, ct_link, lk1]
        simp only [ha, hb, Bool.and_self, if_true]
      clear hM2 hT2 hBt2 e0 e1 e2 e3 hnB hl2 hcw HcB HM5 HT5 HBt5 hpA hpB ha hb
      by_cases h1 : 1 < pA
      · have e7 : N = 7 := by rw [HL.out]; simp [h1]
        subst e7
        go_wp2
        go_ret
        exact ⟨rfl, M2, HM6.out, fun e => absurd e (by decide), HBt6.out⟩
      · by_cases h2 : 1 < pB
        · have e7 : N = 7 := by rw [HL.out]; simp [h2]
          subst e7
          go_wp2
          go_ret
          exact ⟨rfl, M2, HM6.out, fun e => absurd e (by decide), HBt6.out⟩
        · have e7 : N = 0 := by rw [HL.out]; simp [h1, h2]
          subst e7
          go_wp2
          go_ret
          exact ⟨rfl, M2, HM6.out, fun _ => HT6.out, HBt6.out⟩
set_option maxHeartbeats 1000000 in
set_option maxRecDepth 100000 in
theorem lay_bad (S x0 x1 x2 x3 : Int) (B : Nat) (w : World) (h : (spB S (x0, x1) && spB S (x2, x3)) = false) :
    Calls Tryz.prog 80 #[.int .i64 S, .map (some B), .agg #[.int .i64 x0, .int .i64 x1, .int .i64 x2, .int .i64 x3]] w fun e w' => e = .returned (.iface 85 (.int .i64 1)) ∧ Below w.heap.size w w' := by
  have HB0 : Hid (Below w.heap.size w (w.alloc (Obj.cells #[Value.int IntKind.i64 x0, Value.int IntKind.i64 x1, Value.int IntKind.i64 x2, Value.int IntKind.i64 x3] 105))) := (Below.refl _ _).alloc (Nat.le_refl _) _
  have HC := lnk_new w x0 x1 x2 x3 105
  cases ha : spB S (x0, x1)
  · clear h
    go_enter Tryz.func80, Tryz.ntmps80
    go_wp2_with fail
    refine (isSpot_any S x0 x1 _).mono ?_
    rintro e w1 ⟨rfl, hb1⟩
    rw [ha]
    have HB1 : Hid (Below w.heap.size w w1) := HB0.out.trans (hb1.mono HB0.out.size)
    clear hb1 HC
    go_wp2
    go_ret
    exact ⟨rfl, HB1.out⟩
  · have hb : spB S (x2, x3) = false := by rw [ha, Bool.true_and] at h; exact h
    clear h
    go_enter Tryz.func80, Tryz.ntmps80
    go_wp2_with fail
    refine (isSpot_any S x0 x1 _).mono ?_
    rintro e w1 ⟨rfl, hb1⟩
    rw [ha]
    have HB1 : Hid (Below w.heap.size w w1) := HB0.out.trans (hb1.mono HB0.out.size)
    obtain ⟨c0, c1, c2, c3⟩ := lnk_cells (HC.later hb1)
    simp only [Nat.zero_add] at c0 c1 c2 c3
    clear hb1 HC
    go_wp2_with fail
    refine (isSpot_any S x2 x3 _).mono ?_
    rintro e w2 ⟨rfl, hb2⟩
    rw [hb]
    have HB2 : Hid (Below w.heap.size w w2) := HB1.out.trans (hb2.mono HB1.out.size)
    clear hb2
    go_wp2
    go_ret
    exact ⟨rfl, HB2.out⟩
theorem lay_any (S x0 x1 x2 x3 : Int) (B : Nat) (M : List ((Int × Int) × Int)) (U : List (Int × Int)) (w : World) (hM : MAt spotKey veI w B M) (hT : TK sq M U) (hU : U.length ≤ 1000) :
    Calls Tryz.prog 80 #[.int .i64 S, .map (some B), .agg #[.int .i64 x0, .int .i64 x1, .int .i64 x2, .int .i64 x3]] w fun e w' => e = .returned (noV (lk1 S U ((x0, x1), (x2, x3)))) ∧ LayQ w w' B (lk1 S U ((x0, x1), (x2, x3))) (U ++ [(x0, x1), (x2, x3)]) := by
  cases h : (spB S (x0, x1) && spB S (x2, x3))
  · refine (lay_bad S x0 x1 x2 x3 B w h).mono ?_
    rintro e w' ⟨rfl, hb⟩
    have e1 : lk1 S U ((x0, x1), (x2, x3)) = 1 := by simp only [lk1, h, Bool.false_eq_true, if_false]
    rw [e1]
    exact ⟨rfl, M, hM.later hb, fun e => absurd e (by decide), But.of_below hb⟩
  · simp only [Bool.and_eq_true] at h
    exact lay_ok S x0 x1 x2 x3 B M U w hM hT hU h.1 h.2 _ rfl
end Go.Proofs.YtglnnoglbieaeaaGreatDoor
/- What package slices answers at slices of []byte,byte. Written by mk/scalar.py. -/
namespace Go.Proofs.YtglnnoglbieaeaaGreatDoor
open Go.RowKit
set_option linter.unusedSimpArgs false
set_option linter.unusedVariables false

def byE : Enc (UInt8) where
  c := fun x => [.int .u8 (x.toNat : Int)]
  n := 1
  len := fun _ => rfl
  pos := by decide
  one := by
    intro x u hu
    simp at hu
    subst hu
    rfl
theorem by_at {w : World} {g o : Nat} {L : List (UInt8)} (h : GAt byE w g o L) {n k : Nat} (hn : L.length = n) (hk : k < n) : ∃ (x : UInt8) (hl : k < L.length), L[k] = x ∧ w.cell? ⟨g, o + k, none⟩ = some (.int .u8 (x.toNat : Int)) := by
  have hl : k < L.length := by omega
  have := h k hl 0 _ rfl
  refine ⟨_, hl, rfl, ?_⟩
  have e : o + k * byE.n + 0 = o + k := by show o + k * 1 + 0 = o + k; omega
  rw [e] at this
  exact this
/-- A closure that asks something, in whatever world behind this one. -/
def byAsks (w : World) (f : FuncId) (P : UInt8 → Bool) : Prop :=
  ∀ (x : UInt8) (W : World), Below w.heap.size w W → Calls Tryz.prog f #[.int .u8 (x.toNat : Int)] W fun e w' => e = .returned (.bool (P x)) ∧ Below W.heap.size W w'
theorem byAsks.later {w w' : World} {f : FuncId} {P : UInt8 → Bool} (h : byAsks w f P) (hb : Below w.heap.size w w') : byAsks w' f P :=
  fun x W hW => h x W (hb.trans (hW.mono hb.size))

set_option maxHeartbeats 1000000 in
theorem by_idxF (ao : Option Addr) (n cap : Nat) (f : FuncId) (P : UInt8 → Bool) (L : List (UInt8)) (w : World) (hn : L.length = n) (hn2 : n ≤ maxLen) (ha : 0 < n → ∃ g o, ao = some ⟨g, o, none⟩ ∧ GAt byE w g o L ∧ cap ≤ maxLen) (he : ∀ args w, (callFunc f args).run Tryz.prog w = .ok (.enter f args) w) (hf : byAsks w f P) :
    Calls Tryz.prog 164 #[.slice ao n cap, .func (Fn.func f) #[] #[]] w fun e w' => e = .returned (.int .i64 (ixG P L)) ∧ Below w.heap.size w w' := by
  have HN : Hid (L.length = n) := hn
  have HF : Hid (byAsks w f P) := hf
  have HA : Hid (0 < n → ∃ g o, ao = some ⟨g, o, none⟩ ∧ GAt byE w g o L ∧ cap ≤ maxLen) := ha
  unfold maxLen at hn2
  clear hn hf ha
  go_enter Tryz.func164, Tryz.ntmps164
  go_wp2
  go_loopw [8] (fun i wr => ∃ k : Nat, k ≤ n ∧ i = .int .i64 k ∧ (L.take k).any P = false ∧ Below w.heap.size w wr)
    (fun i _ => n - (intOf i).toNat)
  case atStart => exact ⟨0, by omega, rfl, by simp, Below.refl _ _⟩
  case round =>
    obtain ⟨k, hk, rfl, hno, hB⟩ := hrel
    have HB : Hid (Below w.heap.size w wr) := hB
    have HNO : Hid ((L.take k).any P = false) := hno
    clear hno
    by_cases hlt : k < n
    · obtain ⟨g, o, hao, hc, _⟩ := HA.out (by omega)
      subst hao
      obtain ⟨x, hkl, hL, q0⟩ := by_at (hc.later hB) HN.out hlt
      have HL : Hid (L[k] = x) := hL
      clear hL hB
      cases ho : P x
      · go_wp2_with fail
        refine (HF.out x _ HB.out).mono ?_
        rintro e w1 ⟨rfl, hb1⟩
        rw [ho]
        have HB1 := HB.out.trans (hb1.mono HB.out.size)
        clear hb1
        go_wp2
        go_roundw
        case rel => exact ⟨k + 1, by omega, by go_num, any_nextG hkl HNO.out (by rw [HL.out]; exact ho), HB1⟩
        case measure => simp [intOf]; omega
      · go_wp2_with fail
        refine (HF.out x _ HB.out).mono ?_
        rintro e w1 ⟨rfl, hb1⟩
        rw [ho]
        go_wp2
        go_ret
        exact ⟨by rw [ixG_hit hkl HNO.out (by rw [HL.out]; exact ho)]; rfl, HB.out.trans (hb1.mono HB.out.size)⟩
    · obtain rfl : k = n := by omega
      go_wp2
      go_ret
      exact ⟨by have := HNO.out; rw [← HN.out, List.take_length] at this; rw [ixG_no this]; rfl, HB.out⟩

set_option maxHeartbeats 1000000 in
theorem by_hasF (ao : Option Addr) (n cap : Nat) (f : FuncId) (P : UInt8 → Bool) (L : List (UInt8)) (w : World) (hn : L.length = n) (hn2 : n ≤ maxLen) (ha : 0 < n → ∃ g o, ao = some ⟨g, o, none⟩ ∧ GAt byE w g o L ∧ cap ≤ maxLen) (he : ∀ args w, (callFunc f args).run Tryz.prog w = .ok (.enter f args) w) (hf : byAsks w f P) :
    Calls Tryz.prog 155 #[.slice ao n cap, .func (Fn.func f) #[] #[]] w fun e w' => e = .returned (.bool (L.any P)) ∧ Below w.heap.size w w' := by
  rw [← ixG_any]
  obtain ⟨x, hx⟩ : ∃ x, x = ixG P L := ⟨_, rfl⟩
  have HX : Hid (x = ixG P L) := hx
  rw [← hx]
  clear hx
  go_enter Tryz.func155, Tryz.ntmps155
  go_wp2_with fail
  refine (by_idxF ao n cap f P L _ hn hn2 ha he hf).mono ?_
  rintro e w1 ⟨rfl, hb1⟩
  rw [← HX.out]
  go_wp2
  go_ret
  exact ⟨rfl, hb1⟩
end Go.Proofs.YtglnnoglbieaeaaGreatDoor
/- What topo.isName answers: a contract for the walks above it. -/
namespace Go.Proofs.YtglnnoglbieaeaaGreatDoor
open Go.RowKit
set_option linter.unusedSimpArgs false
set_option linter.unusedVariables false

/-- Is a byte none of a to z? -/
def noL (b : UInt8) : Bool := decide ((b.toNat : Int) < 97) || decide ((122 : Int) < (b.toNat : Int))
set_option maxHeartbeats 1000000 in
theorem isName1_any (b : UInt8) (w : World) : Calls Tryz.prog 156 #[.int .u8 (b.toNat : Int)] w fun e w' => e = .returned (.bool (noL b)) ∧ Below w.heap.size w w' := by
  have hn : noL b = (decide ((b.toNat : Int) < 97) || decide ((122 : Int) < (b.toNat : Int))) := rfl
  generalize (b.toNat : Int) = x at *
  rw [hn]
  clear hn
  by_cases h : x < 97
  · have e : (decide (x < 97) || decide (122 < x)) = true := by simp [h]
    rw [e]
    go_enter Tryz.func156, Tryz.ntmps156
    go_wp2
    go_ret
    exact ⟨rfl, Below.refl _ _⟩
  · have e : (decide (x < 97) || decide (122 < x)) = decide (122 < x) := by simp [h]
    rw [e]
    go_enter Tryz.func156, Tryz.ntmps156
    go_wp2
    go_ret
    exact ⟨rfl, Below.refl _ _⟩
theorem isName1_asks (w : World) : byAsks w 156 noL := fun x W _ => isName1_any x W
theorem bytes_conv (s : ByteArray) (w : World) : ∃ cap w1, (convert 9 163 (.string s)).run Tryz.prog w = .ok (.slice (some ⟨w.heap.size, 0, none⟩) s.size cap) w1 ∧ Below w.heap.size w w1 ∧ GAt byE w1 w.heap.size 0 s.data.toList ∧ (s.size ≤ maxLen → cap ≤ maxLen) := by
  refine ⟨_, _, run_bytes_of_string w _ _ 5 s Tryz.underlying9 Tryz.underlying163 Tryz.underlying5, ?_, ?_, fun h => grownCap_le_maxLen w _ _ _ h⟩
  · exact (Below.drew (Below.refl _ _)).alloc (Nat.le_refl _) _
  · intro i hi j u hu
    have hj : j = 0 := by
      have := (List.getElem?_eq_some_iff.1 hu).1
      have e : (byE.c s.data.toList[i]).length = 1 := rfl
      omega
    subst hj
    have hu2 : u = .int .u8 (s.data.toList[i].toNat : Int) := by
      have : some (Value.int .u8 (s.data.toList[i].toNat : Int)) = some u := hu
      exact (Option.some.inj this).symm
    subst hu2
    have hi2 : i < s.data.size := by simpa using hi
    have e : 0 + i * byE.n + 0 = i := by show 0 + i * 1 + 0 = i; omega
    rw [e]
    simp only [World.cell?, World.alloc, World.drew]
    simp [bytesRow]
    rw [Array.getElem?_append_left (by simpa using hi2), Array.getElem?_map, Array.getElem?_eq_getElem hi2]
    rfl
theorem nm_eq {s : ByteArray} (h1 : 1 ≤ s.size) (h6 : s.size ≤ 6) : nmB s = !(s.data.toList.any noL) := by
  have e : nmB s = (s.data.toList.all fun c => decide (97 ≤ c.toNat) && decide (c.toNat ≤ 122)) := by simp [nmB, h1, h6]
  rw [e, List.not_any_eq_all_not]
  congr 1
  funext c
  rw [Bool.eq_iff_iff]
  simp [noL]
  omega
set_option maxHeartbeats 1000000 in
theorem name_ok (s : ByteArray) (w : World) (h1 : 1 ≤ s.size) (h6 : s.size ≤ 6) :
    Calls Tryz.prog 128 #[.string s] w fun e w' => e = .returned (.bool (nmB s)) ∧ Below w.heap.size w w' := by
  have hs1 : ¬ ((s.size : Int) < 1) := by omega
  have hs6 : ¬ ((6 : Int) < (s.size : Int)) := by omega
  obtain ⟨cap, w1, hcv, hb1, hG, hcap⟩ := bytes_conv s w
  have HCAP : Hid (s.size ≤ maxLen → cap ≤ maxLen) := hcap
  have HB1 : Hid (Below w.heap.size w w1) := hb1
  have HG : Hid (GAt byE w1 w.heap.size 0 s.data.toList) := hG
  have HE : Hid (nmB s = !(s.data.toList.any noL)) := nm_eq h1 h6
  rw [HE.out]
  obtain ⟨r, hr⟩ : ∃ r, r = s.data.toList.any noL := ⟨_, rfl⟩
  have HR : Hid (r = s.data.toList.any noL) := hr
  rw [← hr]
  clear hr hb1 hG HE hcap
  obtain ⟨n, hn⟩ : ∃ n, n = s.size := ⟨_, rfl⟩
  have HN : Hid (n = s.size) := hn
  rw [← hn] at hcv hs1 hs6 h1 h6
  clear hn
  have hsz : s.size = n := HN.out.symm
  go_enter Tryz.func128, Tryz.ntmps128
  go_wp2_with fail
  refine (by_hasF _ n cap _ noL s.data.toList _ (by rw [HN.out]; simp) (by unfold maxLen; omega) (fun _ => ⟨_, _, rfl, HG.out, HCAP.out (by rw [← HN.out]; unfold maxLen; omega)⟩) (enters_of Tryz.func156 (by kernel_rfl) rfl) (isName1_asks _)).mono ?_
  rintro e w2 ⟨rfl, hb2⟩
  rw [← HR.out]
  have HB2 : Hid (Below w.heap.size w w2) := HB1.out.trans (hb2.mono HB1.out.size)
  clear hb2
  go_wp2
  go_ret
  exact ⟨rfl, HB2.out⟩
set_option maxHeartbeats 1000000 in
theorem name_bad (s : ByteArray) (w : World) (h : s.size < 1 ∨ 6 < s.size) :
    Calls Tryz.prog 128 #[.string s] w fun e w' => e = .returned (.bool false) ∧ Below w.heap.size w w' := by
  obtain ⟨n, hn⟩ : ∃ n, n = s.size := ⟨_, rfl⟩
  have hsz : s.size = n := hn.symm
  rw [hsz] at h
  clear hn
  by_cases h1 : (n : Int) < 1
  · go_enter Tryz.func128, Tryz.ntmps128
    go_wp2
    go_ret
    exact ⟨rfl, Below.refl _ _⟩
  · have h6 : (6 : Int) < (n : Int) := by omega
    clear h
    go_enter Tryz.func128, Tryz.ntmps128
    go_wp2
    go_ret
    exact ⟨rfl, Below.refl _ _⟩
theorem name_any (s : ByteArray) (w : World) :
    Calls Tryz.prog 128 #[.string s] w fun e w' => e = .returned (.bool (nmB s)) ∧ Below w.heap.size w w' := by
  by_cases h : 1 ≤ s.size ∧ s.size ≤ 6
  · exact name_ok s w h.1 h.2
  · have e : nmB s = false := by
      unfold nmB
      by_cases h1 : 1 ≤ s.size
      · have : ¬ s.size ≤ 6 := fun h2 => h ⟨h1, h2⟩
        simp [this]
      · simp [h1]
    rw [e]
    exact name_bad s w (by omega)
end Go.Proofs.YtglnnoglbieaeaaGreatDoor
/- What topo.settle answers: a contract for the walks above it. -/
namespace Go.Proofs.YtglnnoglbieaeaaGreatDoor
open Go.RowKit
set_option linter.unusedSimpArgs false
set_option linter.unusedVariables false

/-- What holds of the two maps behind a host. -/
def SetQ (w w' : World) (B C : Nat) (N : Int) (V : List (Int × Int)) (Z : List ByteArray) : Prop := ∃ M' R', MAt spotKey veI w' B M' ∧ MAt strKey veI w' C R' ∧ (N = 0 → TK sq M' V ∧ TK (fun a b => a == b) R' Z) ∧ But [B, C] w w'
set_option maxHeartbeats 1000000 in
set_option maxRecDepth 100000 in
theorem settle_ok (S : Int) (n : ByteArray) (x0 x1 : Int) (B C : Nat) (hBC : B ≠ C) (M : List ((Int × Int) × Int)) (R : List (ByteArray × Int)) (U : List (Int × Int)) (Z : List ByteArray) (w : World) (hM : MAt spotKey veI w B M) (hR : MAt strKey veI w C R) (hT : TK sq M U) (hZ : TK (fun a b => a == b) R Z) (hU : U.length ≤ 1000) (hZl : Z.length ≤ 1000)
    (ha : nmB n = true) (hb : spB S (x0, x1) = true) (N : Int) (hN : N = ho1 S Z U (n, (x0, x1))) :
    Calls Tryz.prog 81 #[.int .i64 S, .map (some B), .map (some C), .agg #[.string n, .int .i64 x0, .int .i64 x1]] w fun e w' => e = .returned (noV N) ∧ SetQ w w' B C N (U ++ [(x0, x1)]) (Z ++ [n]) := by
  have hltB := hM.lt
  have hltC := hR.lt
  have HN : Hid (N = ho1 S Z U (n, (x0, x1))) := hN
  have HB0 : Hid (Below w.heap.size w (w.alloc (Obj.cells #[Value.string n, Value.int IntKind.i64 x0, Value.int IntKind.i64 x1] 41))) := (Below.refl _ _).alloc (Nat.le_refl _) _
  have HC := hst_new w n x0 x1 41
  have HM0 : Hid (MAt spotKey veI w B M) := hM
  have HR0 : Hid (MAt strKey veI w C R) := hR
  have HT : Hid (TK sq M U) := hT
  have HZ : Hid (TK (fun a b => a == b) R Z) := hZ
  have hneB : ¬ w.heap.size = B := by omega
  have hneC : ¬ w.heap.size = C := by omega
  clear hM hR hT hZ hN
  go_enter Tryz.func81, Tryz.ntmps81
  go_wp2_with fail
  refine (name_any n _).mono ?_
  rintro e w1 ⟨rfl, hb1⟩
  rw [ha]
  have HB1 : Hid (Below w.heap.size w w1) := HB0.out.trans (hb1.mono HB0.out.size)
  have HC1 := HC.later hb1
  obtain ⟨c0, c1, c2⟩ := hst_cells HC1
  simp only [Nat.zero_add] at c0 c1 c2
  clear hb1
  go_wp2_with fail
  refine (isSpot_any S x0 x1 _).mono ?_
  rintro e w2 ⟨rfl, hb2⟩
  rw [hb]
  have HB2 : Hid (Below w.heap.size w w2) := HB1.out.trans (hb2.mono HB1.out.size)
  have d0 := cell_later hb2 c0
  have d1 := cell_later hb2 c1
  have d2 := cell_later hb2 c2
  have HM2 : Hid (MAt spotKey veI w2 B M) := (HM0.out.later HB2.out)
  have HR2 : Hid (MAt strKey veI w2 C R) := (HR0.out.later HB2.out)
  clear hb2 HC1 HC c0 c1 c2 HB1 HB0
  go_upto_region 5 with fail
  obtain ⟨cA, hcA⟩ : ∃ cA : Int, cA = (ctM (fun a b => a == b) n Z : Int) := ⟨_, rfl⟩
  have HcA : Hid (cA = (ctM (fun a b => a == b) n Z : Int)) := hcA
  have hcw : IntKind.i64.wrap (cA + 1) = cA + 1 := by
    have h1 := ct_le (q := fun a b : ByteArray => a == b) n Z
    exact wrap_small (by omega) (by omega)
  clear hcA
  go_cut [] from 20 to 24 (fun w' => ∃ R1, MAt strKey veI w' C R1 ∧ TK (fun a b => a == b) R1 (Z ++ [n]) ∧ But [C] w2 w')
  case first =>
    obtain ⟨w3, hup, hR3, hg3⟩ := run_update_M HR2.out 159 3 Tryz.underlying159 n (cA + 1)
    have hTK3 : Hid (TK (fun a b => a == b) (mput (fun a b => a == b) n (cA + 1) R) (Z ++ [n])) := by
      show TK _ _ _
      rw [HcA.out]
      exact tk_put ba_iff HZ.out _
    have HR3 : Hid (MAt strKey veI w3 C (mput (fun a b => a == b) n (cA + 1) R)) := hR3
    have HBt : Hid (But [C] w2 w3) := But.of_grown hg3 (by simp)
    have hl2 : (Instr.lookup 159 (.map (some C)) (.string n) false).run Tryz.prog w2 = .ok (.int .i64 cA) w2 := by
      rw [HcA.out]
      exact run_lookup_TK HR2.out HZ.out 159 3 Tryz.underlying159 (fun w => by kernel_rfl) n
    have h3 : (Instr.mapUpdate 159 (.map (some C)) (.string n) (.int .i64 (cA + 1))).run Tryz.prog w2 = .ok () w3 := hup
    clear hup hR3 hg3
    go_wp2
    go_meet
    case rel => exact ⟨_, HR3.out, hTK3.out, HBt.out⟩
  case rest =>
    obtain ⟨R1, hR1, hZ1, hBt1⟩ := hcut
    obtain ⟨w5, hw5⟩ : ∃ x, x = wc := ⟨_, rfl⟩
    subst hw5
    have hl2 : w.heap.size < w2.heap.size := World.block_lt_of_cell? _ _ d0
    have hnC : w.heap.size ∉ [C] := by simp [hneC]
    have e0 := (hBt1.cell (p := ⟨w.heap.size, 0, none⟩) hl2 hnC).trans d0
    have e1 := (hBt1.cell (p := ⟨w.heap.size, 1, none⟩) hl2 hnC).trans d1
    have e2 := (hBt1.cell (p := ⟨w.heap.size, 2, none⟩) hl2 hnC).trans d2
    have HM5 : Hid (MAt spotKey veI w5 B M) := HM2.out.but hBt1 (by simp [hBC])
    have HR5 : Hid (MAt strKey veI w5 C R1) := hR1
    have HZ5 : Hid (TK (fun a b => a == b) R1 (Z ++ [n])) := hZ1
    have HBt5 : Hid (But [B, C] w w5) := (But.of_below (HB2.out)).trans (hBt1.mono (by simp))
    clear hR1 hZ1 hBt1 d0 d1 d2 HM2 HR2 hcw HcA hnC hl2
    obtain ⟨cB, hcB⟩ : ∃ cB : Int, cB = (ctM sq (x0, x1) U : Int) := ⟨_, rfl⟩
    have HcB : Hid (cB = (ctM sq (x0, x1) U : Int)) := hcB
    have hcw : IntKind.i64.wrap (cB + 1) = cB + 1 := by
      have h1 := ct_le (q := sq) (x0, x1) U
      exact wrap_small (by omega) (by omega)
    clear hcB
    go_upto_region 6 with fail
    go_cut [] from 25 to 31 (fun w' => ∃ M2, MAt spotKey veI w' B M2 ∧ TK sq M2 (U ++ [(x0, x1)]) ∧ But [B] w5 w')
    case first =>
      have hMd : MAt spotKey veI w5.drew B M := HM5.out
      obtain ⟨v0, st, w3, hE, hg3, hM3, hS3⟩ := run_entry_M hMd 157 3 Tryz.underlying157 0 (fun w => by kernel_rfl) (x0, x1)
      obtain ⟨w4, hSt, hM4, hg4⟩ := hS3 w3 (cB + 1) rfl
      have hTK4 : Hid (TK sq (mput sq (x0, x1) (cB + 1) M) (U ++ [(x0, x1)])) := by
        show TK _ _ _
        rw [HcB.out]
        exact tk_put sq_iff HT.out _
      have HM4 : Hid (MAt spotKey veI w4 B (mput sq (x0, x1) (cB + 1) M)) := hM4
      have HBt : Hid (But [B] w5 w4) := ((But.refl [B] w5).drew.trans (But.of_grown hg3 (by simp))).trans (But.of_grown hg4 (by simp))
      have hl2 : (Instr.lookup 157 (.map (some B)) (.agg #[.int .i64 x0, .int .i64 x1]) false).run Tryz.prog w5.drew = .ok (.int .i64 cB) w5.drew := by
        rw [HcB.out]
        exact run_lookup_TK hMd HT.out 157 3 Tryz.underlying157 (fun w => by kernel_rfl) (x0, x1)
      have hl3 : (Instr.lookup 157 (.map (some B)) (.agg #[.int .i64 x0, .int .i64 x1]) false).run Tryz.prog w3 = .ok (.int .i64 cB) w3 := by
        have h := run_lookup_M hM3 157 3 Tryz.underlying157 (.int .i64 0) (fun w => by kernel_rfl) (x0, x1) false
        have e : mget spotKey.q (x0, x1) (mput spotKey.q (x0, x1) ((mget spotKey.q (x0, x1) M).getD 0) M) = some cB := by
          rw [mget_put spotKey.qeq, if_pos ((spotKey.qeq _ _).2 rfl), HcB.out]
          exact congrArg some (HT.out (x0, x1))
        rw [e] at h
        exact h
      have h1 : (Instr.mapEntry 157 (.map (some B)) (.agg #[.int .i64 x0, .int .i64 x1])).run Tryz.prog w5.drew = .ok (.tuple #[v0, .int .i64 (st : Int)]) w3 := hE
      have h3 : (Instr.entryStore 157 (.map (some B)) (.int .i64 (st : Int)) (.int .i64 (cB + 1))).run Tryz.prog w3 = .ok () w4 := hSt
      clear hE hS3 hSt hM3 hM4 hg3 hg4 hMd
      go_region
      go_wp2_with fail
      go_meet
      case rel => exact ⟨_, HM4.out, hTK4.out, HBt.out⟩
    case rest =>
      obtain ⟨M2, hM2, hT2, hBt2⟩ := hcut
      have hnB : w.heap.size ∉ [B] := by simp [hneB]
      have hl2 : w.heap.size < w5.heap.size := World.block_lt_of_cell? _ _ e0
      have f0 := (hBt2.cell (p := ⟨w.heap.size, 0, none⟩) hl2 hnB).trans e0
      have f1 := (hBt2.cell (p := ⟨w.heap.size, 1, none⟩) hl2 hnB).trans e1
      have f2 := (hBt2.cell (p := ⟨w.heap.size, 2, none⟩) hl2 hnB).trans e2
      have hR6 : MAt strKey veI wc C R1 := HR5.out.but hBt2 (by simp [Ne.symm hBC])
      have HM6 : Hid (MAt spotKey veI wc B M2) := hM2
      have HR6 : Hid (MAt strKey veI wc C R1) := hR6
      have HT6 : Hid (TK sq M2 (U ++ [(x0, x1)])) := hT2
      have HBt6 : Hid (But [B, C] w wc) := HBt5.out.trans (hBt2.mono (by simp))
      obtain ⟨pA, hpA⟩ : ∃ p : Int, p = (ctM (fun a b => a == b) n (Z ++ [n]) : Int) := ⟨_, rfl⟩
      obtain ⟨pB, hpB⟩ : ∃ p : Int, p = (ctM sq (x0, x1) (U ++ [(x0, x1)]) : Int) := ⟨_, rfl⟩
      have hlA : (Instr.lookup 159 (.map (some C)) (.string n) false).run Tryz.prog wc = .ok (.int .i64 pA) wc := by
        rw [hpA]
        exact run_lookup_TK hR6 HZ5.out 159 3 Tryz.underlying159 (fun w => by kernel_rfl) n
      have hlB : (Instr.lookup 157 (.map (some B)) (.agg #[.int .i64 x0, .int .i64 x1]) false).run Tryz.prog wc = .ok (.int .i64 pB) wc := by
        rw [hpB]
        exact run_lookup_TK hM2 hT2 157 3 Tryz.underlying157 (fun w => by kernel_rfl) (x0, x1)
      have HL : Hid (N = if (decide ((1 : Int) < pA) || decide ((1 : Int) < pB)) = true then 7 else 0) := by
        show _ = _
        have e1 : (U.any fun u => sq u (x0, x1)) = (U.any fun u => u == (x0, x1)) := by
          congr 1
        rw [HN.out, hpA, hpB, ct_host ba_iff, ct_host sq_iff, ho1, e1]
        simp only [ha, hb, if_true]
      clear hM2 hT2 hR6 hBt2 e0 e1 e2 hnB hl2 hcw HcB HM5 HR5 HBt5 hpA hpB ha hb
      by_cases h1 : 1 < pA
      · have e7 : N = 7 := by rw [HL.out]; simp [h1]
        subst e7
        go_wp2
        go_ret
        exact ⟨rfl, M2, R1, HM6.out, HR6.out, fun e => absurd e (by decide), HBt6.out⟩
      · by_cases h2 : 1 < pB
        · have e7 : N = 7 := by rw [HL.out]; simp [h2]
          subst e7
          go_wp2
          go_ret
          exact ⟨rfl, M2, R1, HM6.out, HR6.out, fun e => absurd e (by decide), HBt6.out⟩
        · have e7 : N = 0 := by rw [HL.out]; simp [h1, h2]
          subst e7
          go_wp2
          go_ret
          exact ⟨rfl, M2, R1, HM6.out, HR6.out, fun _ => ⟨HT6.out, HZ5.out⟩, HBt6.out⟩
set_option maxHeartbeats 1000000 in
set_option maxRecDepth 100000 in
theorem settle_bad (S : Int) (n : ByteArray) (x0 x1 : Int) (B C : Nat) (N : Int) (w : World) (h : (nmB n = false ∧ N = 2) ∨ (nmB n = true ∧ spB S (x0, x1) = false ∧ N = 1)) :
    Calls Tryz.prog 81 #[.int .i64 S, .map (some B), .map (some C), .agg #[.string n, .int .i64 x0, .int .i64 x1]] w fun e w' => e = .returned (.iface 85 (.int .i64 N)) ∧ Below w.heap.size w w' := by
  have HB0 : Hid (Below w.heap.size w (w.alloc (Obj.cells #[Value.string n, Value.int IntKind.i64 x0, Value.int IntKind.i64 x1] 41))) := (Below.refl _ _).alloc (Nat.le_refl _) _
  have HC := hst_new w n x0 x1 41
  rcases h with ⟨ha, rfl⟩ | ⟨ha, hb, rfl⟩
  · go_enter Tryz.func81, Tryz.ntmps81
    go_wp2_with fail
    refine (name_any n _).mono ?_
    rintro e w1 ⟨rfl, hb1⟩
    rw [ha]
    have HB1 : Hid (Below w.heap.size w w1) := HB0.out.trans (hb1.mono HB0.out.size)
    clear hb1 HC
    go_wp2
    go_ret
    exact ⟨rfl, HB1.out⟩
  · go_enter Tryz.func81, Tryz.ntmps81
    go_wp2_with fail
    refine (name_any n _).mono ?_
    rintro e w1 ⟨rfl, hb1⟩
    rw [ha]
    have HB1 : Hid (Below w.heap.size w w1) := HB0.out.trans (hb1.mono HB0.out.size)
    obtain ⟨c0, c1, c2⟩ := hst_cells (HC.later hb1)
    simp only [Nat.zero_add] at c0 c1 c2
    clear hb1 HC
    go_wp2_with fail
    refine (isSpot_any S x0 x1 _).mono ?_
    rintro e w2 ⟨rfl, hb2⟩
    rw [hb]
    have HB2 : Hid (Below w.heap.size w w2) := HB1.out.trans (hb2.mono HB1.out.size)
    clear hb2
    go_wp2
    go_ret
    exact ⟨rfl, HB2.out⟩
theorem settle_any (S : Int) (n : ByteArray) (x0 x1 : Int) (B C : Nat) (hBC : B ≠ C) (M : List ((Int × Int) × Int)) (R : List (ByteArray × Int)) (U : List (Int × Int)) (Z : List ByteArray) (w : World) (hM : MAt spotKey veI w B M) (hR : MAt strKey veI w C R) (hT : TK sq M U) (hZ : TK (fun a b => a == b) R Z) (hU : U.length ≤ 1000) (hZl : Z.length ≤ 1000) :
    Calls Tryz.prog 81 #[.int .i64 S, .map (some B), .map (some C), .agg #[.string n, .int .i64 x0, .int .i64 x1]] w fun e w' => e = .returned (noV (ho1 S Z U (n, (x0, x1)))) ∧ SetQ w w' B C (ho1 S Z U (n, (x0, x1))) (U ++ [(x0, x1)]) (Z ++ [n]) := by
  cases ha : nmB n
  · have e1 : ho1 S Z U (n, (x0, x1)) = 2 := by simp only [ho1, ha, Bool.false_eq_true, if_false]
    rw [e1]
    refine (settle_bad S n x0 x1 B C 2 w (.inl ⟨ha, rfl⟩)).mono ?_
    rintro e w' ⟨rfl, hb⟩
    exact ⟨rfl, M, R, hM.later hb, hR.later hb, fun e => absurd e (by decide), But.of_below hb⟩
  · cases hb : spB S (x0, x1)
    · have e1 : ho1 S Z U (n, (x0, x1)) = 1 := by simp only [ho1, ha, hb, Bool.false_eq_true, if_false, if_true]
      rw [e1]
      refine (settle_bad S n x0 x1 B C 1 w (.inr ⟨ha, hb, rfl⟩)).mono ?_
      rintro e w' ⟨rfl, hb⟩
      exact ⟨rfl, M, R, hM.later hb, hR.later hb, fun e => absurd e (by decide), But.of_below hb⟩
    · exact settle_ok S n x0 x1 B C hBC M R U Z w hM hR hT hZ hU hZl ha hb _ rfl
end Go.Proofs.YtglnnoglbieaeaaGreatDoor
/- What topo.Check answers: a contract for the walks above it. -/
namespace Go.Proofs.YtglnnoglbieaeaaGreatDoor
open Go.RowKit
set_option linter.unusedSimpArgs false
set_option linter.unusedVariables false

/-- A topology in a box. -/
def TBox (W : World) (g : Nat) (S : Int) (v1 v2 : Value) : Prop := W.cell? ⟨g, 0, none⟩ = some (.int .i64 S) ∧ W.cell? ⟨g, 1, none⟩ = some v1 ∧ W.cell? ⟨g, 2, none⟩ = some v2
theorem tbox_new (w : World) (S : Int) (v1 v2 : Value) (t : TypeId) : TBox (w.alloc (Obj.cells #[.int .i64 S, v1, v2] t)) w.heap.size S v1 v2 := by
  refine ⟨?_, ?_, ?_⟩ <;> simp
theorem TBox.lt {W : World} {g : Nat} {S : Int} {v1 v2 : Value} (h : TBox W g S v1 v2) : g < W.heap.size := World.block_lt_of_cell? _ _ h.1
theorem TBox.but {X : List Nat} {W W' : World} {g : Nat} {S : Int} {v1 v2 : Value} (h : TBox W g S v1 v2) (hb : But X W W') (hX : g ∉ X) : TBox W' g S v1 v2 :=
  ⟨(hb.cell (p := ⟨g, 0, none⟩) h.lt hX).trans h.1, (hb.cell (p := ⟨g, 1, none⟩) h.lt hX).trans h.2.1, (hb.cell (p := ⟨g, 2, none⟩) h.lt hX).trans h.2.2⟩
theorem TBox.later {W W' : World} {g : Nat} {S : Int} {v1 v2 : Value} (h : TBox W g S v1 v2) (hb : Below W.heap.size W W') : TBox W' g S v1 v2 := h.but (X := []) (But.of_below hb) (by simp)

set_option maxHeartbeats 1000000 in
set_option maxRecDepth 100000 in
theorem tcheck_range (S : Int) (v1 v2 : Value) (w : World) (h : ¬ (1 ≤ S ∧ S ≤ 6)) :
    Calls Tryz.prog 48 #[.agg #[.int .i64 S, v1, v2]] w fun e w' => e = .returned (.iface 85 (.int .i64 1)) ∧ Below w.heap.size w w' := by
  have HB0 : Hid (Below w.heap.size w (w.alloc (Obj.cells #[.int .i64 S, v1, v2] 25))) := (Below.refl _ _).alloc (Nat.le_refl _) _
  by_cases h1 : S < 1
  · clear h
    go_enter Tryz.func48, Tryz.ntmps48
    go_wp2
    go_ret
    exact ⟨rfl, HB0.out⟩
  · have h6 : 6 < S := by omega
    clear h
    go_enter Tryz.func48, Tryz.ntmps48
    go_wp2
    go_ret
    exact ⟨rfl, HB0.out⟩
set_option maxHeartbeats 1000000 in
set_option maxRecDepth 100000 in
theorem check_full (S : Int) (ao : Option Addr) (n cap : Nat) (ao2 : Option Addr) (n2 cap2 : Nat) (w : World) (h1 : 1 ≤ S) (h6 : S ≤ 6) (h : 200 < n ∨ 8 < n2) :
    Calls Tryz.prog 48 #[.agg #[.int .i64 S, .slice ao n cap, .slice ao2 n2 cap2]] w fun e w' => e = .returned (.iface 85 (.int .i64 4)) ∧ Below w.heap.size w w' := by
  have HB0 : Hid (Below w.heap.size w (w.alloc (Obj.cells #[.int .i64 S, .slice ao n cap, .slice ao2 n2 cap2] 25))) := (Below.refl _ _).alloc (Nat.le_refl _) _
  have g1 : ¬ S < 1 := by omega
  have g6 : ¬ 6 < S := by omega
  by_cases hn : (200 : Int) < (n : Int)
  · clear h
    go_enter Tryz.func48, Tryz.ntmps48
    go_wp2
    go_ret
    exact ⟨rfl, HB0.out⟩
  · have hn2 : (8 : Int) < (n2 : Int) := by omega
    clear h
    go_enter Tryz.func48, Tryz.ntmps48
    go_wp2
    go_ret
    exact ⟨rfl, HB0.out⟩

set_option maxHeartbeats 2000000 in
set_option maxRecDepth 100000 in
theorem check_walk (S : Int) (ao : Option Addr) (n cap : Nat) (ao2 : Option Addr) (n2 cap2 : Nat) (Ls : List ((Int × Int) × (Int × Int))) (Hs : List (ByteArray × (Int × Int))) (w : World)
    (hL : GS lnkE w (.slice ao n cap) Ls) (hH : GS hstE w (.slice ao2 n2 cap2) Hs) (h1 : 1 ≤ S) (h6 : S ≤ 6) (hn : n ≤ 200) (hn2 : n2 ≤ 8) (T : Int) (hT : T = tpN S Ls Hs) :
    Calls Tryz.prog 48 #[.agg #[.int .i64 S, .slice ao n cap, .slice ao2 n2 cap2]] w fun e w' => e = .returned (noV T) ∧ Below w.heap.size w w' := by
  obtain ⟨_, _, _, e1, hLn, _, _, hLa⟩ := hL.form
  cases e1
  obtain ⟨_, _, _, e2, hHn, _, _, hHa⟩ := hH.form
  cases e2
  have HLN : Hid (Ls.length = n) := hLn
  have HHN : Hid (Hs.length = n2) := hHn
  have HLA : Hid (0 < n → ∃ g o, ao = some ⟨g, o, none⟩ ∧ GAt lnkE w g o Ls ∧ cap ≤ maxLen) := hLa
  have HHA : Hid (0 < n2 → ∃ g o, ao2 = some ⟨g, o, none⟩ ∧ GAt hstE w g o Hs ∧ cap2 ≤ maxLen) := hHa
  have HT : Hid (T = if lkN S Ls [] = 0 then hoN S Hs [] (spsL Ls) else lkN S Ls []) := by
    show T = _
    rw [hT, tpN, if_pos (by simp [h1, h6]), if_pos (by simp [hLn, hHn, hn, hn2])]
  have g1 : ¬ S < 1 := by omega
  have g6 : ¬ 6 < S := by omega
  have gn : ¬ (200 : Int) < (n : Int) := by omega
  have gn2 : ¬ (8 : Int) < (n2 : Int) := by omega
  clear hL hH hLn hHn hLa hHa hT h1 h6
  have hX := tbox_new w S (.slice ao n cap) (.slice ao2 n2 cap2) 25
  have hB0 : Below w.heap.size w (w.alloc (Obj.cells #[.int .i64 S, .slice ao n cap, .slice ao2 n2 cap2] 25)) := (Below.refl _ _).alloc (Nat.le_refl _) _
  have HX : Hid (TBox (w.alloc (Obj.cells #[.int .i64 S, .slice ao n cap, .slice ao2 n2 cap2] 25)) w.heap.size S (.slice ao n cap) (.slice ao2 n2 cap2)) := hX
  have HB0 : Hid (Below w.heap.size w (w.alloc (Obj.cells #[.int .i64 S, .slice ao n cap, .slice ao2 n2 cap2] 25))) := hB0
  have hsz0 : (w.alloc (Obj.cells #[.int .i64 S, .slice ao n cap, .slice ao2 n2 cap2] 25)).heap.size = w.heap.size + 1 := by simp
  clear hX hB0
  go_enter Tryz.func48, Tryz.ntmps48
  go_upto_region 5 with fail
  generalize hw0 : w.alloc (Obj.cells #[.int .i64 S, .slice ao n cap, .slice ao2 n2 cap2] 25) = w0 at *
  have HW0 : Hid (w.alloc (Obj.cells #[.int .i64 S, .slice ao n cap, .slice ao2 n2 cap2] 25) = w0) := hw0
  have HSZ0 : Hid (w0.heap.size = w.heap.size + 1) := hsz0
  clear hw0 hsz0
  have hmk := run_makeMap (P := Tryz.prog) 157 w0
  have HM1 : Hid (MAt spotKey veI (w0.alloc (.map #[] 0)) w0.heap.size []) := mat_new spotKey veI w0
  have hbm : Below w0.heap.size w0 (w0.alloc (.map #[] 0)) := (Below.refl _ _).alloc (Nat.le_refl _) _
  have HX1 : Hid (TBox (w0.alloc (.map #[] 0)) w.heap.size S (.slice ao n cap) (.slice ao2 n2 cap2)) := HX.out.later hbm
  have HB1 : Hid (Below w.heap.size w (w0.alloc (.map #[] 0))) := HB0.out.trans (hbm.mono HB0.out.size)
  clear hbm
  obtain ⟨d0, d1, d2⟩ := HX1.out
  go_wp2
  clear d0 d1 d2
  obtain ⟨w1, hw1⟩ : ∃ x, w0.alloc (.map #[] 0) = x := ⟨_, rfl⟩
  obtain ⟨B, hBe⟩ : ∃ x, w0.heap.size = x := ⟨_, rfl⟩
  rw [hw1] at HX1 HB1
  rw [hw1, hBe] at HM1 ⊢
  have HBW : Hid (B = w.heap.size + 1) := by
    show B = _
    rw [← hBe, HSZ0.out]
  have HSZ1 : Hid (w1.heap.size = w.heap.size + 2) := by
    show _ = _
    rw [← hw1]
    have := HSZ0.out
    simp [this]
  clear hw1 hBe hmk HSZ0 HW0 HX HB0
  go_loopw [35] (fun i wr => ∃ k : Nat, k ≤ n ∧ i = .int .i64 k ∧ (∃ M, MAt spotKey veI wr B M ∧ TK sq M (spsL (Ls.take k))) ∧ lkN S Ls [] = lkN S (Ls.drop k) (spsL (Ls.take k)) ∧ But [B] w1 wr)
    (fun i _ => n - (intOf i).toNat)
  case atStart => exact ⟨0, by omega, rfl, ⟨[], HM1.out, by simpa [spsL] using tk_nil sq⟩, by simp [spsL], But.refl _ _⟩
  case round =>
    obtain ⟨k, hk, rfl, ⟨M, hM, hTK⟩, hlk, hBt⟩ := hrel
    have hnB : w.heap.size ∉ [B] := by simp [HBW.out]
    have hXr := HX1.out.but hBt hnB
    have hBw : Below w.heap.size w wr := HB1.out.trans (hBt.below (by rw [HSZ1.out]; omega) (by simp [HBW.out]))
    have HXr : Hid (TBox wr w.heap.size S (.slice ao n cap) (.slice ao2 n2 cap2)) := hXr
    have HBw : Hid (Below w.heap.size w wr) := hBw
    have HM : Hid (MAt spotKey veI wr B M) := hM
    have HTK : Hid (TK sq M (spsL (Ls.take k))) := hTK
    have HLK : Hid (lkN S Ls [] = lkN S (Ls.drop k) (spsL (Ls.take k))) := hlk
    have HBt : Hid (But [B] w1 wr) := hBt
    obtain ⟨b0, b1, b2⟩ := hXr
    have hlw : w.heap.size < wr.heap.size := World.block_lt_of_cell? _ _ b0
    clear hM hTK hlk hBt HM1
    by_cases hlt : k < n
    · obtain ⟨g, o, hao, hc, _⟩ := HLA.out (by omega)
      subst hao
      obtain ⟨x0, x1, x2, x3, hkl, hLk, q0, q1, q2, q3⟩ := lnk_at (hc.later hBw) HLN.out hlt
      have HLk : Hid (Ls[k] = ((x0, x1), (x2, x3))) := hLk
      have hBA : Below wr.heap.size wr (wr.alloc (Obj.cells #[Value.int IntKind.i64 x0, Value.int IntKind.i64 x1, Value.int IntKind.i64 x2, Value.int IntKind.i64 x3] 105)) := (Below.refl _ _).alloc (Nat.le_refl _) _
      have HBA : Hid (Below wr.heap.size wr (wr.alloc (Obj.cells #[Value.int IntKind.i64 x0, Value.int IntKind.i64 x1, Value.int IntKind.i64 x2, Value.int IntKind.i64 x3] 105))) := hBA
      have HUL : Hid ((spsL (Ls.take k)).length ≤ 1000) := by
        show _ ≤ 1000
        rw [sps_len, List.length_take]
        omega
      have HST : Hid (lkN S Ls [] = if lk1 S (spsL (Ls.take k)) ((x0, x1), (x2, x3)) = 0 then lkN S (Ls.drop (k + 1)) (spsL (Ls.take (k + 1))) else lk1 S (spsL (Ls.take k)) ((x0, x1), (x2, x3))) := by
        show _ = _
        rw [HLK.out, List.drop_eq_getElem_cons hkl, lk_step, hLk, sps_take hkl, hLk]
      have HSP : Hid (spsL (Ls.take (k + 1)) = spsL (Ls.take k) ++ [(x0, x1), (x2, x3)]) := by
        show _ = _
        rw [sps_take hkl, hLk]
      clear hLk hBA hBw hc HLA
      go_wp2_with fail
      refine (lay_any S x0 x1 x2 x3 B M _ _ (HM.out.later HBA.out) HTK.out HUL.out).mono ?_
      rintro e w3 ⟨rfl, hQ⟩
      have hst := HST.out
      generalize lk1 S (spsL (Ls.take k)) ((x0, x1), (x2, x3)) = N at hQ hst ⊢
      have HST2 : Hid (lkN S Ls [] = if N = 0 then lkN S (Ls.drop (k + 1)) (spsL (Ls.take (k + 1))) else N) := hst
      obtain ⟨M', hM', hTK', hBt'⟩ := hQ
      have HM' : Hid (MAt spotKey veI w3 B M') := hM'
      have HTK' : Hid (N = 0 → TK sq M' (spsL (Ls.take (k + 1)))) := fun h => by rw [HSP.out]; exact hTK' h
      have HBt3 : Hid (But [B] w1 w3) := (HBt.out.trans (But.of_below HBA.out)).trans hBt'
      have HBw3 : Hid (Below w.heap.size w w3) := HB1.out.trans (HBt3.out.below (by rw [HSZ1.out]; omega) (by simp [HBW.out]))
      clear hst HST hM' hTK' hBt' HSP HM HTK HLK HBt HBA HUL b0 b1 b2 q0 q1 q2 q3
      by_cases hN : N = 0
      · subst hN
        rw [no_ok rfl]
        have HTK2 : Hid (TK sq M' (spsL (Ls.take (k + 1)))) := HTK'.out rfl
        have HLK2 : Hid (lkN S Ls [] = lkN S (Ls.drop (k + 1)) (spsL (Ls.take (k + 1)))) := by
          show _ = _
          rw [HST2.out, if_pos rfl]
        clear HTK' HST2
        go_wp2
        go_roundw
        case rel => exact ⟨k + 1, by omega, by go_num, ⟨M', HM'.out, HTK2.out⟩, HLK2.out, HBt3.out⟩
        case measure => simp [intOf]; omega
      · rw [no_ne hN]
        have HTN : Hid (T = N) := by
          show _ = _
          have e := HST2.out
          rw [if_neg hN] at e
          rw [HT.out, e, if_neg hN]
        have HNN : Hid (N ≠ 0) := hN
        clear hN HTK' HST2
        go_wp2
        go_ret
        exact ⟨by rw [HTN.out, no_ne HNN.out]; rfl, HBw3.out⟩
    · obtain rfl : k = n := by omega
      have HLK0 : Hid (lkN S Ls [] = 0) := by
        show _ = _
        rw [HLK.out, ← HLN.out, List.drop_length]
        rfl
      have HTKL : Hid (TK sq M (spsL Ls)) := by
        show TK _ _ _
        have h := HTK.out
        rw [← HLN.out, List.take_length] at h
        exact h
      have HTL : Hid (T = hoN S Hs [] (spsL Ls)) := by
        show _ = _
        rw [HT.out, if_pos HLK0.out]
      have hwr := HBt.out.size
      rw [HSZ1.out] at hwr
      obtain ⟨w5, hw5⟩ : ∃ x, x = wr := ⟨_, rfl⟩
      subst hw5
      have HWR : Hid (w.heap.size + 2 ≤ w5.heap.size) := hwr
      clear HLK HTK HT HLK0 hBw hwr
      go_upto_region 13 with fail
      have hmk := run_makeMap (P := Tryz.prog) 159 w5
      have hbm : Below w5.heap.size w5 (w5.alloc (.map #[] 0)) := (Below.refl _ _).alloc (Nat.le_refl _) _
      have HM2 : Hid (MAt spotKey veI (w5.alloc (.map #[] 0)) B M) := HM.out.later hbm
      have HR2 : Hid (MAt strKey veI (w5.alloc (.map #[] 0)) w5.heap.size []) := mat_new strKey veI w5
      have hX2 : TBox (w5.alloc (.map #[] 0)) w.heap.size S (.slice ao k cap) (.slice ao2 n2 cap2) := HXr.out.later hbm
      have HX2 : Hid (TBox (w5.alloc (.map #[] 0)) w.heap.size S (.slice ao k cap) (.slice ao2 n2 cap2)) := hX2
      have HB2 : Hid (Below w.heap.size w (w5.alloc (.map #[] 0))) := HBw.out.trans (hbm.mono HBw.out.size)
      obtain ⟨d0, d1, d2⟩ := hX2
      clear hbm b0 b1 b2 HXr HBw HM HBt HX1 HB1
      go_wp2
      obtain ⟨w6, hw6⟩ : ∃ x, w5.alloc (.map #[] 0) = x := ⟨_, rfl⟩
      obtain ⟨C, hCe⟩ : ∃ x, w5.heap.size = x := ⟨_, rfl⟩
      rw [hw6] at HM2 HX2 HB2 d0 d1 d2
      rw [hw6, hCe] at HR2 ⊢
      have HC2 : Hid (w.heap.size + 2 ≤ C) := by
        show _ ≤ _
        rw [← hCe]
        exact HWR.out
      have HSZ6 : Hid (w6.heap.size = C + 1) := by
        show _ = _
        rw [← hw6, ← hCe]
        simp
      clear hw6 hCe hmk HWR
      go_loopw [52] (fun i wr => ∃ j : Nat, j ≤ n2 ∧ i = .int .i64 j ∧ (∃ M R, MAt spotKey veI wr B M ∧ MAt strKey veI wr C R ∧ TK sq M (spsL Ls ++ (Hs.take j).map (·.2)) ∧ TK (fun a b => a == b) R ((Hs.take j).map (·.1))) ∧ hoN S Hs [] (spsL Ls) = hoN S (Hs.drop j) ((Hs.take j).map (·.1)) (spsL Ls ++ (Hs.take j).map (·.2)) ∧ But [B, C] w6 wr)
        (fun i _ => n2 - (intOf i).toNat)
      case atStart => exact ⟨0, by omega, rfl, ⟨M, [], HM2.out, HR2.out, by simpa using HTKL.out, tk_nil _⟩, by simp, But.refl _ _⟩
      case round =>
        obtain ⟨j, hj, rfl, ⟨M3, R3, hM3, hR3, hTM3, hTR3⟩, hho, hBt⟩ := hrel
        have hnX : w.heap.size ∉ [B, C] := by
          have h1 := HBW.out
          have h2 := HC2.out
          simp only [List.mem_cons, List.not_mem_nil, or_false, not_or]
          omega
        have hBC : B ≠ C := by
          have h1 := HBW.out
          have h2 := HC2.out
          omega
        have hXr := HX2.out.but hBt hnX
        have hge : ∀ x ∈ [B, C], w.heap.size ≤ x := by
          have h1 := HBW.out
          have h2 := HC2.out
          intro x hx
          simp only [List.mem_cons, List.not_mem_nil, or_false] at hx
          omega
        have hsz6 : w.heap.size ≤ w6.heap.size := HB2.out.size
        have HGE : Hid (∀ x ∈ [B, C], w.heap.size ≤ x) := hge
        have hBw : Below w.heap.size w wr := HB2.out.trans (hBt.below hsz6 hge)
        have HBw : Hid (Below w.heap.size w wr) := hBw
        have HM3 : Hid (MAt spotKey veI wr B M3) := hM3
        have HR3 : Hid (MAt strKey veI wr C R3) := hR3
        have HTM3 : Hid (TK sq M3 (spsL Ls ++ (Hs.take j).map (·.2))) := hTM3
        have HTR3 : Hid (TK (fun a b => a == b) R3 ((Hs.take j).map (·.1))) := hTR3
        have HHO : Hid (hoN S Hs [] (spsL Ls) = hoN S (Hs.drop j) ((Hs.take j).map (·.1)) (spsL Ls ++ (Hs.take j).map (·.2))) := hho
        have HBt : Hid (But [B, C] w6 wr) := hBt
        have HBC : Hid (B ≠ C) := hBC
        obtain ⟨b0, b1, b2⟩ := hXr
        have hlw : w.heap.size < wr.heap.size := World.block_lt_of_cell? _ _ b0
        clear hM3 hR3 hTM3 hTR3 hho hBt HM2 HR2 hnX hge hBC d0 d1 d2
        by_cases hlt2 : j < n2
        · obtain ⟨g, o, hao, hc, _⟩ := HHA.out (by omega)
          subst hao
          obtain ⟨y0, y1, y2, hjl, hHk, q0, q1, q2⟩ := hst_at (hc.later hBw) HHN.out hlt2
          have HHk : Hid (Hs[j] = (y0, (y1, y2))) := hHk
          have HBA : Hid (Below wr.heap.size wr (wr.alloc (Obj.cells #[Value.string y0, Value.int IntKind.i64 y1, Value.int IntKind.i64 y2] 41))) := (Below.refl _ _).alloc (Nat.le_refl _) _
          have HUL : Hid ((spsL Ls ++ (Hs.take j).map (·.2)).length ≤ 1000) := by
            show _ ≤ 1000
            rw [List.length_append, sps_len, List.length_map, List.length_take, HLN.out]
            omega
          have HZL : Hid (((Hs.take j).map (·.1)).length ≤ 1000) := by
            show _ ≤ 1000
            rw [List.length_map, List.length_take]
            omega
          have HS2 : Hid (spsL Ls ++ (Hs.take (j + 1)).map (·.2) = (spsL Ls ++ (Hs.take j).map (·.2)) ++ [(y1, y2)]) := by
            show _ = _
            rw [List.take_succ_eq_append_getElem hjl, hHk]
            simp
          have HS1 : Hid ((Hs.take (j + 1)).map (·.1) = (Hs.take j).map (·.1) ++ [y0]) := by
            show _ = _
            rw [List.take_succ_eq_append_getElem hjl, hHk]
            simp
          have HST : Hid (hoN S Hs [] (spsL Ls) = if ho1 S ((Hs.take j).map (·.1)) (spsL Ls ++ (Hs.take j).map (·.2)) (y0, (y1, y2)) = 0 then hoN S (Hs.drop (j + 1)) ((Hs.take (j + 1)).map (·.1)) (spsL Ls ++ (Hs.take (j + 1)).map (·.2)) else ho1 S ((Hs.take j).map (·.1)) (spsL Ls ++ (Hs.take j).map (·.2)) (y0, (y1, y2))) := by
            show _ = _
            rw [HHO.out, List.drop_eq_getElem_cons hjl, ho_step, hHk, HS1.out, HS2.out]
          clear hHk hBw hc HHA HLA
          go_wp2_with fail
          refine (settle_any S y0 y1 y2 B C HBC.out M3 R3 _ _ _ (HM3.out.later HBA.out) (HR3.out.later HBA.out) HTM3.out HTR3.out HUL.out HZL.out).mono ?_
          rintro e w3 ⟨rfl, hQ⟩
          have hst := HST.out
          generalize ho1 S ((Hs.take j).map (·.1)) (spsL Ls ++ (Hs.take j).map (·.2)) (y0, (y1, y2)) = N at hQ hst ⊢
          have HST2 : Hid (hoN S Hs [] (spsL Ls) = if N = 0 then hoN S (Hs.drop (j + 1)) ((Hs.take (j + 1)).map (·.1)) (spsL Ls ++ (Hs.take (j + 1)).map (·.2)) else N) := hst
          obtain ⟨M', R', hM', hR', hTK', hBt'⟩ := hQ
          have HM' : Hid (MAt spotKey veI w3 B M') := hM'
          have HR' : Hid (MAt strKey veI w3 C R') := hR'
          have HTK' : Hid (N = 0 → TK sq M' (spsL Ls ++ (Hs.take (j + 1)).map (·.2)) ∧ TK (fun a b => a == b) R' ((Hs.take (j + 1)).map (·.1))) := fun h => by rw [HS1.out, HS2.out]; exact hTK' h
          have HBt3 : Hid (But [B, C] w6 w3) := (HBt.out.trans (But.of_below HBA.out)).trans hBt'
          have HBw3 : Hid (Below w.heap.size w w3) := HB2.out.trans (HBt3.out.below HB2.out.size HGE.out)
          clear hst HST hM' hR' hTK' hBt' HS1 HS2 HM3 HR3 HTM3 HTR3 HHO HBt HBA HUL HZL b0 b1 b2 q0 q1 q2
          by_cases hN : N = 0
          · subst hN
            rw [no_ok rfl]
            have HTK2 : Hid (TK sq M' (spsL Ls ++ (Hs.take (j + 1)).map (·.2)) ∧ TK (fun a b => a == b) R' ((Hs.take (j + 1)).map (·.1))) := HTK'.out rfl
            have HHO2 : Hid (hoN S Hs [] (spsL Ls) = hoN S (Hs.drop (j + 1)) ((Hs.take (j + 1)).map (·.1)) (spsL Ls ++ (Hs.take (j + 1)).map (·.2))) := by
              show _ = _
              rw [HST2.out, if_pos rfl]
            clear HTK' HST2
            go_wp2
            go_roundw
            case rel => exact ⟨j + 1, by omega, by go_num, ⟨M', R', HM'.out, HR'.out, HTK2.out.1, HTK2.out.2⟩, HHO2.out, HBt3.out⟩
            case measure => simp [intOf]; omega
          · rw [no_ne hN]
            have HTN : Hid (T = N) := by
              show _ = _
              rw [HTL.out, HST2.out, if_neg hN]
            have HNN : Hid (N ≠ 0) := hN
            clear hN HTK' HST2
            go_wp2
            go_ret
            exact ⟨by rw [HTN.out, no_ne HNN.out]; rfl, HBw3.out⟩
        · obtain rfl : j = n2 := by omega
          have HT0 : Hid (T = 0) := by
            show _ = _
            rw [HTL.out, HHO.out, ← HHN.out, List.drop_length]
            rfl
          clear hBw HHO HTM3 HTR3
          go_wp2
          go_ret
          exact ⟨by rw [HT0.out, no_ok rfl]; rfl, HBw.out⟩
theorem check_any (S : Int) (ao : Option Addr) (n cap : Nat) (ao2 : Option Addr) (n2 cap2 : Nat) (Ls : List ((Int × Int) × (Int × Int))) (Hs : List (ByteArray × (Int × Int))) (w : World)
    (hL : GS lnkE w (.slice ao n cap) Ls) (hH : GS hstE w (.slice ao2 n2 cap2) Hs) :
    Calls Tryz.prog 48 #[.agg #[.int .i64 S, .slice ao n cap, .slice ao2 n2 cap2]] w fun e w' => e = .returned (noV (tpN S Ls Hs)) ∧ Below w.heap.size w w' := by
  have hLn := hL.len
  have hHn := hH.len
  by_cases h1 : 1 ≤ S ∧ S ≤ 6
  · by_cases h2 : n ≤ 200 ∧ n2 ≤ 8
    · exact check_walk S ao n cap ao2 n2 cap2 Ls Hs w hL hH h1.1 h1.2 h2.1 h2.2 _ rfl
    · have e : tpN S Ls Hs = 4 := by
        rw [tpN, if_pos (by simp [h1]), if_neg (by rw [hLn, hHn]; simpa using fun h => Nat.lt_of_not_le fun h3 => h2 ⟨h, h3⟩)]
      rw [e]
      exact check_full S ao n cap ao2 n2 cap2 w h1.1 h1.2 (by omega)
  · have e : tpN S Ls Hs = 1 := by
      rw [tpN, if_neg (by simpa using fun h => Int.lt_of_not_ge fun h3 => h1 ⟨h, h3⟩)]
    rw [e]
    exact tcheck_range S _ _ w h1
end Go.Proofs.YtglnnoglbieaeaaGreatDoor
