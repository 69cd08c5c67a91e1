/- Contracts and facts on the way to NetTells, joined into one text: NetMath, NetMath2, LineMath, NetMath3, NetRefMath, NetMath4, StHop, RuleTab2, NetCheck, RuleOrder, RuleLook, RuleApply. -/
import Derived.Test.YtpmcjelihdlfeaaDoorNetTellsP3
import Derived.Test.YtpmcjelihdlfeaaDoorNetTellsP1
import Derived.Test.YtpmcjelihdlfeaaDoorNetTellsP2
import Derived.Test.YtpmcjelihdlfeaaDoorRows
import Derived.Lib.SmallJoins
import Derived.Laws.StructEq
import Derived.Maps.OwnOps
import Derived.Deep.CutRange
import Derived.Deep.CutBlock
import Derived.BigQuiet
import Derived.Deep.QuietTactic
import Derived.Deep.RegionHeld3
/- Nets in plain lists: what is wrong with one, where a packet goes out, what becomes of it. No program in it. -/
namespace Go.Proofs.YtpmcjelihdlfeaaDoor
open Go.RowKit
set_option linter.unusedVariables false

/-- The fault of the first k tables. -/
def tsTo (Ts : List (List Ru)) : Nat → Int
  | 0 => 0
  | k + 1 => if tsTo Ts k = 0 then tbN (Ts.getD k []) else tsTo Ts k
theorem ts_le {Ts : List (List Ru)} {k : Nat} (h : tsTo Ts k ≠ 0) : ∀ {n : Nat}, k ≤ n → tsTo Ts n = tsTo Ts k
  | 0, hn => by
    obtain rfl : k = 0 := by omega
    rfl
  | n + 1, hn => by
    by_cases e : k = n + 1
    · subst e; rfl
    · have := ts_le h (show k ≤ n by omega)
      rw [tsTo, if_neg (by rw [this]; exact h), this]
/-- The fault of a net. -/
def ntN (S : Int) (Ls : List ((Int × Int) × (Int × Int))) (Hs : List (ByteArray × (Int × Int))) (Ts : List (List Ru)) : Int :=
  if tpN S Ls Hs = 0 then (if (Ts.length : Int) = S then tsTo Ts Ts.length else 3) else tpN S Ls Hs
theorem ts_0 {Ts : List (List Ru)} : ∀ {n : Nat}, tsTo Ts n = 0 → ∀ k, k < n → tbN (Ts.getD k []) = 0
  | 0, _, k, hk => by omega
  | n + 1, h, k, hk => by
    unfold tsTo at h
    by_cases e : tsTo Ts n = 0
    · rw [if_pos e] at h
      by_cases ek : k = n
      · subst ek; exact h
      · exact ts_0 e k (by omega)
    · rw [if_neg e] at h
      exact absurd h e
theorem nt_0 {S : Int} {Ls : List ((Int × Int) × (Int × Int))} {Hs : List (ByteArray × (Int × Int))} {Ts : List (List Ru)} (h : ntN S Ls Hs Ts = 0) : tpN S Ls Hs = 0 ∧ (Ts.length : Int) = S ∧ ∀ k, k < Ts.length → tbN (Ts.getD k []) = 0 := by
  unfold ntN at h
  by_cases e : tpN S Ls Hs = 0
  · rw [if_pos e] at h
    by_cases e2 : (Ts.length : Int) = S
    · rw [if_pos e2] at h
      exact ⟨e, e2, ts_0 h⟩
    · rw [if_neg e2] at h
      omega
  · rw [if_neg e] at h
    exact absurd h e
/-- The fault of a packet: of the net, else of the spot or the header. -/
def cpN (S : Int) (Ls : List ((Int × Int) × (Int × Int))) (Hs : List (ByteArray × (Int × Int))) (Ts : List (List Ru)) (s : Int × Int) (h : Int) : Int :=
  if ntN S Ls Hs Ts = 0 then (if spB S s && hdrB h then 0 else 1) else ntN S Ls Hs Ts
theorem cp_0 {S : Int} {Ls : List ((Int × Int) × (Int × Int))} {Hs : List (ByteArray × (Int × Int))} {Ts : List (List Ru)} {s : Int × Int} {h : Int} (e : cpN S Ls Hs Ts s h = 0) : ntN S Ls Hs Ts = 0 ∧ spB S s = true ∧ hdrB h = true := by
  unfold cpN at e
  by_cases e1 : ntN S Ls Hs Ts = 0
  · rw [if_pos e1] at e
    cases e2 : spB S s && hdrB h
    · rw [e2] at e
      simp at e
    · rw [Bool.and_eq_true] at e2
      exact ⟨e1, e2.1, e2.2⟩
  · rw [if_neg e1] at e
    exact absurd e e1

/-- The rule that counts, if one does, in a table. -/
def roR (t : List Ru) (h : Int) : Ru := t.getD (luI t h).toNat zeR
def Ru.apN (r : Ru) (h : Int) : Int := Proofs.YtpmcjelihdlfeaaDoor.apN r.p r.m r.b r.o r.s r.v h
def Ru.apR (r : Ru) (h : Int) : Int := Proofs.YtpmcjelihdlfeaaDoor.apR r.p r.m r.b r.o r.s r.v h
/-- Where, and with which header, a packet goes out that a table meets. -/
def stT (t : List Ru) (p : (Int × Int) × Int) : Option ((Int × Int) × Int) :=
  if luN t p.2 = 0 then (if (roR t p.2).apN p.2 = 0 then some ((p.1.1, (roR t p.2).o), (roR t p.2).apR p.2) else none) else none
def taT (Ts : List (List Ru)) (s : Int) : List Ru := Ts.getD (s - 1).toNat []
def stO (Ts : List (List Ru)) (p : (Int × Int) × Int) : Option ((Int × Int) × Int) := stT (taT Ts p.1.1) p
/-- Are two hops the same? -/
def heB (a b : (Int × Int) × Int) : Bool := (a.1.1 == b.1.1) && ((a.1.2 == b.1.2) && ((a.2 == b.2)))
theorem heB_iff (a b : (Int × Int) × Int) : heB a b = true ↔ a = b := by
  obtain ⟨⟨a1, a2⟩, a3⟩ := a
  obtain ⟨⟨b1, b2⟩, b3⟩ := b
  simp [heB, and_assoc]
/-- What becomes of a packet at its last hop: it ends so, or there is a next hop. -/
def goE (Ls : List ((Int × Int) × (Int × Int))) (Hs : List (ByteArray × (Int × Int))) (t : List Ru) (l : List ((Int × Int) × Int)) (p : (Int × Int) × Int) : (Int × ByteArray) ⊕ ((Int × Int) × Int) :=
  match stT t p with
  | none => .inl (2, ByteArray.empty)
  | some q => match atO Hs q.1 with
    | some m => .inl (1, m)
    | none => match peerO Ls q.1 with
      | none => .inl (3, ByteArray.empty)
      | some s => if l.length = 24 ∨ l.any (fun x => heB (s, q.2) x) = true then .inl (4, ByteArray.empty) else .inr (s, q.2)
def zeH : (Int × Int) × Int := ((0, 0), 0)
def laH (l : List ((Int × Int) × Int)) : (Int × Int) × Int := l.getD (l.length - 1) zeH
/-- What becomes of a packet that has had these hops. -/
def foF (Ls : List ((Int × Int) × (Int × Int))) (Hs : List (ByteArray × (Int × Int))) (Ts : List (List Ru)) : Nat → List ((Int × Int) × Int) → Int × ByteArray × List ((Int × Int) × Int)
  | 0, l => (4, ByteArray.empty, l)
  | n + 1, l => match goE Ls Hs (taT Ts (laH l).1.1) l (laH l) with
    | .inl e => (e.1, e.2, l)
    | .inr p => foF Ls Hs Ts n (l ++ [p])
/-- What becomes of a packet that comes in. -/
def frF (Ls : List ((Int × Int) × (Int × Int))) (Hs : List (ByteArray × (Int × Int))) (Ts : List (List Ru)) (s : Int × Int) (h : Int) : Int × ByteArray × List ((Int × Int) × Int) := foF Ls Hs Ts 24 [(s, h)]
/-- No fate at all. -/
def zeF : Int × ByteArray × List ((Int × Int) × Int) := (0, ByteArray.empty, [])
/-- The answers. -/
def spN (S : Int) (Ls : List ((Int × Int) × (Int × Int))) (Hs : List (ByteArray × (Int × Int))) (Ts : List (List Ru)) (s : Int × Int) (h : Int) : Int :=
  if cpN S Ls Hs Ts s h = 0 then (if (stO Ts (s, h)).isSome then 0 else 5) else cpN S Ls Hs Ts s h
def spV (S : Int) (Ls : List ((Int × Int) × (Int × Int))) (Hs : List (ByteArray × (Int × Int))) (Ts : List (List Ru)) (s : Int × Int) (h : Int) : (Int × Int) × Int :=
  if cpN S Ls Hs Ts s h = 0 then (stO Ts (s, h)).getD zeH else zeH
def frV (S : Int) (Ls : List ((Int × Int) × (Int × Int))) (Hs : List (ByteArray × (Int × Int))) (Ts : List (List Ru)) (s : Int × Int) (h : Int) : Int × ByteArray × List ((Int × Int) × Int) :=
  if cpN S Ls Hs Ts s h = 0 then frF Ls Hs Ts s h else zeF
def seN (S : Int) (Ls : List ((Int × Int) × (Int × Int))) (Hs : List (ByteArray × (Int × Int))) (Ts : List (List Ru)) (m : ByteArray) (h : Int) : Int :=
  if ntN S Ls Hs Ts = 0 then (if weN S Ls Hs m = 0 then (if hdrB h then 0 else 1) else weN S Ls Hs m) else ntN S Ls Hs Ts
def seV (S : Int) (Ls : List ((Int × Int) × (Int × Int))) (Hs : List (ByteArray × (Int × Int))) (Ts : List (List Ru)) (m : ByteArray) (h : Int) : Int × ByteArray × List ((Int × Int) × Int) :=
  if seN S Ls Hs Ts m h = 0 then frF Ls Hs Ts (weV S Ls Hs m) h else zeF
end Go.Proofs.YtpmcjelihdlfeaaDoor
/- What becomes of a packet, hop by hop: plain lists. No program in it. -/
namespace Go.Proofs.YtpmcjelihdlfeaaDoor
open Go.RowKit
set_option linter.unusedVariables false

section
variable {Ls : List ((Int × Int) × (Int × Int))} {Hs : List (ByteArray × (Int × Int))} {Ts : List (List Ru)}
/-- One hop is behind the other. -/
def NxH (Ls : List ((Int × Int) × (Int × Int))) (Hs : List (ByteArray × (Int × Int))) (Ts : List (List Ru)) (p q : (Int × Int) × Int) : Prop := ∃ o, stO Ts p = some o ∧ atO Hs o.1 = none ∧ peerO Ls o.1 = some q.1 ∧ q.2 = o.2
def atH (l : List ((Int × Int) × Int)) (i : Nat) : (Int × Int) × Int := l.getD i zeH
def ChH (Ls : List ((Int × Int) × (Int × Int))) (Hs : List (ByteArray × (Int × Int))) (Ts : List (List Ru)) (l : List ((Int × Int) × Int)) : Prop := ∀ i, i + 1 < l.length → NxH Ls Hs Ts (atH l i) (atH l (i + 1))
/-- What it comes to at the last of these hops. -/
def enE (Ls : List ((Int × Int) × (Int × Int))) (Hs : List (ByteArray × (Int × Int))) (Ts : List (List Ru)) (l : List ((Int × Int) × Int)) (p : (Int × Int) × Int) : (Int × ByteArray) ⊕ ((Int × Int) × Int) := goE Ls Hs (taT Ts p.1.1) l p
theorem la_at (l : List ((Int × Int) × Int)) : laH l = atH l (l.length - 1) := rfl
theorem at_app (l : List ((Int × Int) × Int)) (p : (Int × Int) × Int) : atH (l ++ [p]) l.length = p := by simp [atH, List.getD]
theorem at_lt {l : List ((Int × Int) × Int)} (m : List ((Int × Int) × Int)) {i : Nat} (h : i < l.length) : atH (l ++ m) i = atH l i := by simp [atH, List.getD, List.getElem?_append_left h]
theorem at_in {l : List ((Int × Int) × Int)} {i : Nat} (h : i < l.length) : atH l i ∈ l := by
  have e : atH l i = l[i] := by simp [atH, List.getD, h]
  rw [e]
  exact List.getElem_mem h
theorem en_r {l : List ((Int × Int) × Int)} {p q : (Int × Int) × Int} (h : enE Ls Hs Ts l p = .inr q) : NxH Ls Hs Ts p q ∧ l.length ≠ 24 ∧ q ∉ l := by
  unfold enE goE at h
  cases hs : stT (taT Ts p.1.1) p with
  | none => rw [hs] at h; cases h
  | some o =>
    rw [hs] at h
    simp only at h
    cases ha : atO Hs o.1 with
    | some m => rw [ha] at h; cases h
    | none =>
      rw [ha] at h
      simp only at h
      cases hp : peerO Ls o.1 with
      | none => rw [hp] at h; cases h
      | some s =>
        rw [hp] at h
        simp only at h
        split at h
        · cases h
        · next hn =>
          cases h
          rw [not_or] at hn
          refine ⟨⟨o, hs, ha, hp, rfl⟩, hn.1, fun hm => hn.2 ?_⟩
          exact List.any_eq_true.2 ⟨_, hm, (heB_iff _ _).2 rfl⟩
/-- A next hop that is not there yet is one. -/
theorem en_go {l : List ((Int × Int) × Int)} {p q : (Int × Int) × Int} (h : NxH Ls Hs Ts p q) (h24 : l.length ≠ 24) (hq : q ∉ l) : enE Ls Hs Ts l p = .inr q := by
  obtain ⟨o, h1, h2, h3, h4⟩ := h
  unfold enE goE
  rw [show stT (taT Ts p.1.1) p = some o from h1]
  simp only [h2, h3]
  rw [if_neg]
  · obtain ⟨q1, q2⟩ := q
    simp only at h4
    rw [h4]
  · rw [not_or]
    refine ⟨h24, fun hm => hq ?_⟩
    obtain ⟨x, hx, e⟩ := List.any_eq_true.1 hm
    have e2 := (heB_iff _ _).1 e
    obtain ⟨q1, q2⟩ := q
    simp only at h4
    rw [h4, e2]
    exact hx
/-- An end that is no loop is one whatever was there. -/
theorem en_l {l : List ((Int × Int) × Int)} {p : (Int × Int) × Int} {e : Int × ByteArray} (h : enE Ls Hs Ts l p = .inl e) (h4 : e.1 ≠ 4) (m : List ((Int × Int) × Int)) : enE Ls Hs Ts m p = .inl e := by
  unfold enE goE at h ⊢
  cases hs : stT (taT Ts p.1.1) p with
  | none => rw [hs] at h; exact h
  | some o =>
    rw [hs] at h
    simp only at h ⊢
    cases ha : atO Hs o.1 with
    | some m => rw [ha] at h; exact h
    | none =>
      rw [ha] at h
      simp only at h ⊢
      cases hp : peerO Ls o.1 with
      | none => rw [hp] at h; exact h
      | some s =>
        rw [hp] at h
        simp only at h
        split at h
        · cases h
          exact absurd rfl h4
        · cases h
/-- An end, in words. -/
theorem en_end {l : List ((Int × Int) × Int)} {p : (Int × Int) × Int} {e : Int × ByteArray} (h : enE Ls Hs Ts l p = .inl e) (hn : ∀ x ∈ Hs, x.1 ≠ ByteArray.empty) : (stO Ts p = none ↔ e.1 = 2) ∧ (e.1 = 1 ↔ e.2 ≠ ByteArray.empty) := by
  unfold enE goE at h
  unfold stO
  cases hs : stT (taT Ts p.1.1) p with
  | none => rw [hs] at h; cases h; simp
  | some o =>
    rw [hs] at h
    simp only at h
    cases ha : atO Hs o.1 with
    | some m =>
      rw [ha] at h
      cases h
      refine ⟨by simp, fun _ => ?_, fun _ => rfl⟩
      rcases at_ix Hs o.1 with ⟨_, h0⟩ | ⟨k, hk, _, h1⟩
      · rw [ha] at h0; cases h0
      · rw [ha] at h1
        cases h1
        exact hn _ (List.getElem_mem hk)
    | none =>
      rw [ha] at h
      simp only at h
      cases hp : peerO Ls o.1 with
      | none => rw [hp] at h; cases h; simp
      | some s =>
        rw [hp] at h
        simp only at h
        split at h
        · cases h; simp
        · cases h
theorem fo_s (n : Nat) (l : List ((Int × Int) × Int)) : foF Ls Hs Ts (n + 1) l = match enE Ls Hs Ts l (laH l) with | .inl e => (e.1, e.2, l) | .inr p => foF Ls Hs Ts n (l ++ [p]) := rfl
/-- What is so of the hops that are told. -/
theorem fo_spec : ∀ (n : Nat) (l : List ((Int × Int) × Int)), 0 < l.length → l.length + n = 25 → 1 ≤ n → l.Nodup → ChH Ls Hs Ts l →
    ∃ rest, (foF Ls Hs Ts n l).2.2 = l ++ rest ∧ (foF Ls Hs Ts n l).2.2.length ≤ 24 ∧ (foF Ls Hs Ts n l).2.2.Nodup ∧ ChH Ls Hs Ts (foF Ls Hs Ts n l).2.2 ∧
      enE Ls Hs Ts (foF Ls Hs Ts n l).2.2 (laH (foF Ls Hs Ts n l).2.2) = .inl ((foF Ls Hs Ts n l).1, (foF Ls Hs Ts n l).2.1)
  | 0, l, _, _, h, _, _ => by omega
  | n + 1, l, h0, hl, _, hd, hc => by
    rw [fo_s]
    cases he : enE Ls Hs Ts l (laH l) with
    | inl e => exact ⟨[], by simp, by simp only; omega, hd, hc, he⟩
    | inr p =>
      obtain ⟨h1, h2, h3⟩ := en_r he
      simp only
      have hl2 : l.length < 24 := by omega
      have hd2 : (l ++ [p]).Nodup := by
        rw [List.nodup_append]
        refine ⟨hd, by simp, fun a ha b hb e => ?_⟩
        simp only [List.mem_singleton] at hb
        subst hb
        subst e
        exact h3 ha
      have hc2 : ChH Ls Hs Ts (l ++ [p]) := by
        intro i hi
        simp only [List.length_append, List.length_cons, List.length_nil] at hi
        by_cases e : i + 1 = l.length
        · rw [at_lt _ (show i < l.length by omega), e, at_app]
          rw [la_at] at h1
          have : i = l.length - 1 := by omega
          rw [this]
          exact h1
        · rw [at_lt _ (show i < l.length by omega), at_lt _ (show i + 1 < l.length by omega)]
          exact hc i (by omega)
      obtain ⟨rest, e1, e2⟩ := fo_spec n (l ++ [p]) (by simp) (by simp; omega) (by omega) hd2 hc2
      exact ⟨p :: rest, by rw [e1]; simp, e2⟩
/-- From any of the hops on it ends likewise. -/
theorem fo_tail {L : List ((Int × Int) × Int)} {e : Int × ByteArray} (hd : L.Nodup) (hc : ChH Ls Hs Ts L) (h24 : L.length ≤ 24) (he : enE Ls Hs Ts L (laH L) = .inl e) (h4 : e.1 ≠ 4) :
    ∀ (r k : Nat) (m : List ((Int × Int) × Int)) (n : Nat), k + 1 + r = L.length → 0 < m.length → m.length ≤ k + 1 → laH m = atH L k → (∀ x ∈ m, ∃ j, j ≤ k ∧ x = atH L j) → r < n →
      (foF Ls Hs Ts n m).1 = e.1 ∧ (foF Ls Hs Ts n m).2.1 = e.2 ∧ (foF Ls Hs Ts n m).2.2.length = m.length + r
  | r, k, m, 0, _, _, _, _, _, hn => by omega
  | 0, k, m, n + 1, hk, hm, hmk, hla, hin, hn => by
    rw [fo_s]
    have : laH m = laH L := by
      rw [hla, la_at]
      congr 1
      omega
    rw [this, en_l he h4 m]
    exact ⟨rfl, rfl, by simp⟩
  | r + 1, k, m, n + 1, hk, hm, hmk, hla, hin, hn => by
    rw [fo_s]
    have hnx := hc k (by omega)
    have hq : atH L (k + 1) ∉ m := by
      intro hx
      obtain ⟨j, hj, e2⟩ := hin _ hx
      have e3 : L[k + 1]'(by omega) = L[j]'(by omega) := by
        have a1 : atH L (k + 1) = L[k + 1]'(by omega) := by
          have : k + 1 < L.length := by omega
          simp [atH, List.getD, this]
        have a2 : atH L j = L[j]'(by omega) := by
          have : j < L.length := by omega
          simp [atH, List.getD, this]
        rw [← a1, ← a2]
        exact e2
      have := (List.getElem_inj hd).1 e3
      omega
    rw [hla, en_go hnx (by omega) hq]
    simp only
    have h := fo_tail hd hc h24 he h4 r (k + 1) (m ++ [atH L (k + 1)]) n (by omega) (by simp) (by simp; omega) (by
      rw [la_at]
      simp only [List.length_append, List.length_cons, List.length_nil, Nat.add_sub_cancel]
      exact at_app _ _) (by
      intro x hx
      rw [List.mem_append] at hx
      rcases hx with hx | hx
      · obtain ⟨j, hj, e2⟩ := hin x hx
        exact ⟨j, by omega, e2⟩
      · simp only [List.mem_singleton] at hx
        exact ⟨k + 1, Nat.le_refl _, hx⟩) (by omega)
    refine ⟨h.1, h.2.1, ?_⟩
    rw [h.2.2]
    simp
    omega
end
end Go.Proofs.YtpmcjelihdlfeaaDoor
/- A line of switches: plain lists. No program in it. -/
namespace Go.Proofs.YtpmcjelihdlfeaaDoor
open Go.RowKit
set_option linter.unusedVariables false

/-- The links of a line. -/
def lnTo : Nat → List ((Int × Int) × (Int × Int))
  | 0 => []
  | k + 1 => lnTo k ++ [(((k : Int) + 1, 2), ((k : Int) + 1 + 1, 1))]
theorem ln_len (k : Nat) : (lnTo k).length = k := by
  induction k with
  | zero => rfl
  | succ k ih => simp [lnTo, ih]
/-- Its hosts. -/
def lnH (n : Int) : List (ByteArray × (Int × Int)) := [(⟨#[97]⟩, (1, 3)), (⟨#[98]⟩, (n, 4))]
def lnOk (n : Nat) : Bool := decide (tpN n (lnTo (n - 1)) (lnH n) = 0)
theorem ln_ok (n : Nat) (h1 : 1 ≤ n) (h6 : n ≤ 6) : tpN n (lnTo (n - 1)) (lnH n) = 0 := by
  have h : ∀ m ∈ [1, 2, 3, 4, 5, 6], lnOk m = true := by decide +kernel
  have h2 := h n (by simp; omega)
  simpa [lnOk] using h2
theorem ln_7 : tpN 7 (lnTo 6) (lnH 7) ≠ 0 := by decide +kernel
/-- How far, and how many are near, for all lines and switches. -/
def lnAll (n a b : Nat) : Bool := decide (faN n (lnTo (n - 1)) a b = if a < b then (b : Int) - a else (a : Int) - b) && decide (((nrL n (lnTo (n - 1)) a).length : Int) = 2 - (if a = 1 then 1 else 0) - (if a = n then 1 else 0))
theorem ln_all (n a b : Nat) (h1 : 1 ≤ n) (h6 : n ≤ 6) (a1 : 1 ≤ a) (a2 : a ≤ n) (b1 : 1 ≤ b) (b2 : b ≤ n) : lnAll n a b = true := by
  have h : ∀ m ∈ [1, 2, 3, 4, 5, 6], ∀ a ∈ [1, 2, 3, 4, 5, 6], ∀ b ∈ [1, 2, 3, 4, 5, 6], a ≤ m → b ≤ m → lnAll m a b = true := by decide +kernel
  exact h n (by simp; omega) a (by simp; omega) b (by simp; omega) a2 b2
end Go.Proofs.YtpmcjelihdlfeaaDoor
/- Hops of a right net are right; two switches that send each other all: plain lists. No program in it. -/
namespace Go.Proofs.YtpmcjelihdlfeaaDoor
open Go.RowKit
set_option linter.unusedVariables false

theorem aph_fin : ∀ s v h : Fin 16, (bits .andNot .i64 ((v : Nat) : Int) ((s : Nat) : Int) == 0) = true → hdrB (apV ((s : Nat) : Int) ((v : Nat) : Int) ((h : Nat) : Int)) = true := by decide +kernel
theorem ap_hdr {p m b o s v h : Int} (hr : apN p m b o s v h = 0) : hdrB (apR p m b o s v h) = true := by
  obtain ⟨h1, h2, _, _⟩ := ap_yes hr
  obtain ⟨g1, _, g3⟩ := ru_ok h1
  obtain ⟨_, hs, hv⟩ := ru_in g1
  obtain ⟨s', rfl⟩ := small hs
  obtain ⟨v', rfl⟩ := small hv
  obtain ⟨h', rfl⟩ := small (hdr_of h2)
  simp only [ruSet, Bool.and_eq_true] at g3
  rw [apR, if_pos hr]
  exact aph_fin s' v' h' g3.1
section
variable {S : Int} {Ls : List ((Int × Int) × (Int × Int))} {Hs : List (ByteArray × (Int × Int))} {Ts : List (List Ru)}
theorem st_hdr {p o : (Int × Int) × Int} (h : stO Ts p = some o) : hdrB o.2 = true ∧ o.1.1 = p.1.1 := by
  unfold stO stT at h
  split at h
  · split at h
    · next hr =>
      cases h
      exact ⟨ap_hdr hr, rfl⟩
    · cases h
  · cases h
theorem peer_sp (ht : tpN S Ls Hs = 0) {s p : Int × Int} (h : peerO Ls s = some p) : spB S p = true := (tp_0 ht).2.2.1 p (peer_in h).2
theorem where_sp (ht : tpN S Ls Hs = 0) {n : ByteArray} {p : Int × Int} (h : whereO Hs n = some p) : spB S p = true := by
  rcases where_ix Hs n with ⟨_, h0⟩ | ⟨k, hk, _, h1⟩
  · rw [h] at h0; cases h0
  · rw [h] at h1
    cases h1
    exact ((tp_0 ht).2.2.2.2.1 _ (List.getElem_mem hk)).2
theorem name_ne (ht : tpN S Ls Hs = 0) : ∀ x ∈ Hs, x.1 ≠ ByteArray.empty := by
  intro x hx e
  have h := ((tp_0 ht).2.2.2.2.1 x hx).1
  rw [e] at h
  revert h
  decide
theorem nx_good (ht : tpN S Ls Hs = 0) {p q : (Int × Int) × Int} (h : NxH Ls Hs Ts p q) : spB S q.1 = true ∧ hdrB q.2 = true := by
  obtain ⟨o, h1, _, h3, h4⟩ := h
  exact ⟨peer_sp ht h3, by rw [h4]; exact (st_hdr h1).1⟩
end
/-- Two switches that send each other all. -/
def ruG : Ru := ⟨1, 0, 0, 2, 0, 0⟩
def ruK : Ru := ⟨1, 0, 0, 1, 0, 0⟩
def ruD (h : Int) : Ru := ⟨5, 15, h, 0, 0, 0⟩
def naA : ByteArray := ⟨#[97]⟩
theorem turn1_fin : ∀ h : Fin 16, (decide (seN 2 (lnTo 1) (lnH 2) [[ruG], [ruK]] naA ((h : Nat) : Int) = 0) && (decide ((seV 2 (lnTo 1) (lnH 2) [[ruG], [ruK]] naA ((h : Nat) : Int)).1 = 4) && decide ((seV 2 (lnTo 1) (lnH 2) [[ruG], [ruK]] naA ((h : Nat) : Int)).2.2.length = 3))) = true := by decide +kernel
theorem turn2_fin : ∀ h : Fin 16, (decide (seN 2 (lnTo 1) (lnH 2) [[ruG], [ruD ((h : Nat) : Int), ruK]] naA ((h : Nat) : Int) = 0) && (decide ((seV 2 (lnTo 1) (lnH 2) [[ruG], [ruD ((h : Nat) : Int), ruK]] naA ((h : Nat) : Int)).1 = 2) && decide ((seV 2 (lnTo 1) (lnH 2) [[ruG], [ruD ((h : Nat) : Int), ruK]] naA ((h : Nat) : Int)).2.2.length = 2))) = true := by decide +kernel
theorem turn1 {h : Int} (hh : hdrB h = true) : seN 2 (lnTo 1) (lnH 2) [[ruG], [ruK]] naA h = 0 ∧ (seV 2 (lnTo 1) (lnH 2) [[ruG], [ruK]] naA h).1 = 4 ∧ (seV 2 (lnTo 1) (lnH 2) [[ruG], [ruK]] naA h).2.2.length = 3 := by
  obtain ⟨h', rfl⟩ := small (hdr_of hh)
  simpa using turn1_fin h'
theorem turn2 {h : Int} (hh : hdrB h = true) : seN 2 (lnTo 1) (lnH 2) [[ruG], [ruD h, ruK]] naA h = 0 ∧ (seV 2 (lnTo 1) (lnH 2) [[ruG], [ruD h, ruK]] naA h).1 = 2 ∧ (seV 2 (lnTo 1) (lnH 2) [[ruG], [ruD h, ruK]] naA h).2.2.length = 2 := by
  obtain ⟨h', rfl⟩ := small (hdr_of hh)
  simpa using turn2_fin h'
theorem turn3_nt : ntN 2 (lnTo 1) (lnH 2) [[], []] = 0 ∧ weN 2 (lnTo 1) (lnH 2) naA = 0 := by decide +kernel
theorem turn3 {h : Int} (hh : hdrB h = false) : seN 2 (lnTo 1) (lnH 2) [[], []] naA h = 1 := by
  unfold seN
  rw [if_pos turn3_nt.1, if_pos turn3_nt.2, hh]
  rfl
end Go.Proofs.YtpmcjelihdlfeaaDoor
/- Where a packet goes out, as the document's own functions say it: plain lists. No program in it. -/
namespace Go.Proofs.YtpmcjelihdlfeaaDoor
open Go.RowKit
set_option linter.unusedVariables false

/-- The rule that counts, by its place. -/
def beR (t : List Ru) (h : Int) : Ru := t.getD (beTo t h t.length).toNat zeR
theorem ok_at {L : List Ru} (h : okR L = true) {k : Nat} (hk : k < L.length) : (L.getD k zeR).ok = true := by
  rw [getD_at hk]
  exact List.all_eq_true.1 h _ (List.getElem_mem hk)
/-- Of a right table and header. -/
theorem be_ok {t : List Ru} {h : Int} (ht : tbN t = 0) (hh : hdrB h = true) (hb : 0 ≤ beTo t h t.length) : luN t h = 0 ∧ roR t h = beR t h ∧ (beR t h).ok = true ∧ (beR t h).has h = true ∧ (beTo t h t.length).toNat < t.length := by
  have e : luN t h = 0 := lu_0.2 ⟨ht, hh, hb⟩
  have e2 : luI t h = beTo t h t.length := by rw [luI, if_pos e]
  have hlt : (beTo t h t.length).toNat < t.length := by
    have := be_bd t h t.length
    omega
  exact ⟨e, by rw [roR, e2]; rfl, ok_at (tb_0.1 ht).2.1 hlt, (be_yes hb).1, hlt⟩
theorem st_no {t : List Ru} {p : (Int × Int) × Int} (ht : tbN t = 0) (hh : hdrB p.2 = true) (hb : beTo t p.2 t.length < 0) : stT t p = none := by
  unfold stT
  rw [if_neg]
  intro e
  have := (lu_0.1 e).2.2
  omega
theorem ap_mk {r : Ru} {h : Int} (hr : r.ok = true) (hh : hdrB h = true) (hs : r.has h = true) : r.apN h = if r.o = 0 then 5 else 0 := by
  have e1 : ruOk r.p r.m r.b r.o r.s r.v = true := hr
  have e2 : hasB r.m r.b h = true := hs
  unfold Ru.apN apN
  rw [if_pos e1, if_pos hh, e2]
  by_cases e : r.o = 0
  · rw [if_pos e]
    simp [e]
  · rw [if_neg e]
    simp [e]
theorem st_drop {t : List Ru} {p : (Int × Int) × Int} (ht : tbN t = 0) (hh : hdrB p.2 = true) (hb : 0 ≤ beTo t p.2 t.length) (ho : (beR t p.2).o = 0) : stT t p = none := by
  obtain ⟨e1, e2, e3, e4, _⟩ := be_ok ht hh hb
  unfold stT
  rw [if_pos e1, e2, ap_mk e3 hh e4, if_pos ho]
  rfl
theorem st_yes {t : List Ru} {p : (Int × Int) × Int} (ht : tbN t = 0) (hh : hdrB p.2 = true) (hb : 0 ≤ beTo t p.2 t.length) (ho : (beR t p.2).o ≠ 0) :
    stT t p = some ((p.1.1, (beR t p.2).o), tuTo (beR t p.2).s (beR t p.2).v p.2 4) ∧ (0 ≤ (beR t p.2).s ∧ (beR t p.2).s < 16) ∧ (0 ≤ (beR t p.2).v ∧ (beR t p.2).v < 16) := by
  obtain ⟨e1, e2, e3, e4, _⟩ := be_ok ht hh hb
  have ha := ap_mk e3 hh e4
  rw [if_neg ho] at ha
  have h3 : ruOk (beR t p.2).p (beR t p.2).m (beR t p.2).b (beR t p.2).o (beR t p.2).s (beR t p.2).v = true := e3
  obtain ⟨g1, _, g3⟩ := ru_ok h3
  obtain ⟨_, hs, hv⟩ := ru_in g1
  simp only [ruSet, Bool.and_eq_true] at g3
  refine ⟨?_, hs, hv⟩
  unfold stT
  rw [if_pos e1, e2, if_pos ha, tu_ap hs hv (hdr_of hh) g3.1]
  have : (beR t p.2).apR p.2 = apV (beR t p.2).s (beR t p.2).v p.2 := by
    unfold Ru.apR apR
    exact if_pos ha
  rw [this]
end Go.Proofs.YtpmcjelihdlfeaaDoor
/- What becomes of a packet, one round: plain lists. No program in it. -/
namespace Go.Proofs.YtpmcjelihdlfeaaDoor
open Go.RowKit
set_option linter.unusedVariables false

section
variable {Ls : List ((Int × Int) × (Int × Int))} {Hs : List (ByteArray × (Int × Int))} {Ts : List (List Ru)} {l : List ((Int × Int) × Int)} {q : (Int × Int) × Int}
theorem fo_r (h : l.length ≤ 24) : foF Ls Hs Ts (25 - l.length) l = match enE Ls Hs Ts l (laH l) with | .inl e => (e.1, e.2, l) | .inr p => foF Ls Hs Ts (24 - l.length) (l ++ [p]) := by
  have e : 25 - l.length = (24 - l.length) + 1 := by omega
  rw [e]
  exact fo_s _ _
theorem fo_2 (h : l.length ≤ 24) (hA : stO Ts (laH l) = none) : foF Ls Hs Ts (25 - l.length) l = (2, ByteArray.empty, l) := by
  have e : enE Ls Hs Ts l (laH l) = .inl (2, ByteArray.empty) := by
    unfold enE goE
    rw [show stT (taT Ts (laH l).1.1) (laH l) = none from hA]
  rw [fo_r h, e]
theorem fo_1 (h : l.length ≤ 24) (hA : stO Ts (laH l) = some q) {m : ByteArray} (ha : atO Hs q.1 = some m) : foF Ls Hs Ts (25 - l.length) l = (1, m, l) := by
  have e : enE Ls Hs Ts l (laH l) = .inl (1, m) := by
    unfold enE goE
    rw [show stT (taT Ts (laH l).1.1) (laH l) = some q from hA]
    simp only [ha]
  rw [fo_r h, e]
theorem fo_3 (h : l.length ≤ 24) (hA : stO Ts (laH l) = some q) (ha : atO Hs q.1 = none) (hp : peerO Ls q.1 = none) : foF Ls Hs Ts (25 - l.length) l = (3, ByteArray.empty, l) := by
  have e : enE Ls Hs Ts l (laH l) = .inl (3, ByteArray.empty) := by
    unfold enE goE
    rw [show stT (taT Ts (laH l).1.1) (laH l) = some q from hA]
    simp only [ha, hp]
  rw [fo_r h, e]
theorem fo_4 (h : l.length ≤ 24) (hA : stO Ts (laH l) = some q) (ha : atO Hs q.1 = none) {s : Int × Int} (hp : peerO Ls q.1 = some s) (h4 : l.length = 24 ∨ (l.any fun x => heB (s, q.2) x) = true) : foF Ls Hs Ts (25 - l.length) l = (4, ByteArray.empty, l) := by
  have e : enE Ls Hs Ts l (laH l) = .inl (4, ByteArray.empty) := by
    unfold enE goE
    rw [show stT (taT Ts (laH l).1.1) (laH l) = some q from hA]
    simp only [ha, hp]
    rw [if_pos h4]
  rw [fo_r h, e]
theorem fo_n (h : l.length ≤ 24) (hA : stO Ts (laH l) = some q) (ha : atO Hs q.1 = none) {s : Int × Int} (hp : peerO Ls q.1 = some s) (h4 : l.length ≠ 24) (h5 : (l.any fun x => heB (s, q.2) x) = false) : foF Ls Hs Ts (25 - l.length) l = foF Ls Hs Ts (25 - (l ++ [(s, q.2)]).length) (l ++ [(s, q.2)]) := by
  have e : enE Ls Hs Ts l (laH l) = .inr (s, q.2) := by
    unfold enE goE
    rw [show stT (taT Ts (laH l).1.1) (laH l) = some q from hA]
    simp only [ha, hp]
    rw [if_neg]
    rw [not_or, h5]
    exact ⟨h4, by simp⟩
  rw [fo_r h, e]
  simp only [List.length_append, List.length_cons, List.length_nil]
  rw [show 24 - l.length = 25 - (l.length + (0 + 1)) by omega]
theorem la_app (l : List ((Int × Int) × Int)) (p : (Int × Int) × Int) : laH (l ++ [p]) = p := by
  rw [la_at]
  simp only [List.length_append, List.length_cons, List.length_nil, Nat.add_sub_cancel, Nat.zero_add]
  exact at_app l p
end
end Go.Proofs.YtpmcjelihdlfeaaDoor
/- The struct api.Hop: its cells, slices of them, == of two, such that came in. Written by mk/struct.py. -/
namespace Go.Proofs.YtpmcjelihdlfeaaDoor
open Go.ChangeShapes Go.WideShapes Go.ChangeAt Go.RowKit Go.Joins
set_option linter.unusedSimpArgs false
set_option linter.unusedVariables false
set_option maxRecDepth 100000

def hopE : Enc ((Int × Int) × Int) where
  c := fun x => [.int .i64 x.1.1, .int .i64 x.1.2, .int .i64 x.2]
  n := 3
  len := fun _ => rfl
  pos := by decide
  one := by
    intro x u hu
    simp at hu
    rcases hu with rfl | rfl | rfl <;> rfl
theorem hop_cells {w : World} {g o : Nat} {x0 : Int} {x1 : Int} {x2 : Int} (h : VAt w g o (hopE.c ((x0, x1), x2))) : w.cell? ⟨g, o, none⟩ = some (.int .i64 x0) ∧ w.cell? ⟨g, o + 1, none⟩ = some (.int .i64 x1) ∧ w.cell? ⟨g, o + 2, none⟩ = some (.int .i64 x2) :=
  ⟨h 0 _ rfl, h 1 _ rfl, h 2 _ rfl⟩
theorem hop_at {w : World} {g o : Nat} {L : List ((Int × Int) × Int)} (h : GAt hopE w g o L) {n k : Nat} (hn : L.length = n) (hk : k < n) :
    ∃ (x0 : Int) (x1 : Int) (x2 : Int) (hl : k < L.length), L[k] = ((x0, x1), x2) ∧ w.cell? ⟨g, o + k * 3, none⟩ = some (.int .i64 x0) ∧ w.cell? ⟨g, o + k * 3 + 1, none⟩ = some (.int .i64 x1) ∧ w.cell? ⟨g, o + k * 3 + 2, none⟩ = some (.int .i64 x2) :=
  have hl : k < L.length := by omega
  ⟨_, _, _, hl, rfl, hop_cells (h k hl)⟩
theorem hop_new (w : World) (x0 : Int) (x1 : Int) (x2 : Int) (t : TypeId) : VAt (w.alloc (Obj.cells #[.int .i64 x0, .int .i64 x1, .int .i64 x2] t)) w.heap.size 0 (hopE.c ((x0, x1), x2)) := vat_new w [.int .i64 x0, .int .i64 x1, .int .i64 x2] t
theorem hop_row (w : World) (x0 : Int) (x1 : Int) (x2 : Int) (t : TypeId) : GS hopE (w.alloc (Obj.cells #[.int .i64 x0, .int .i64 x1, .int .i64 x2] t)) (.slice (some ⟨w.heap.size, 0, none⟩) 1 1) [((x0, x1), x2)] := gs_one (E := hopE) w ((x0, x1), x2) t (vs := [.int .i64 x0, .int .i64 x1, .int .i64 x2]) rfl
/-- Are two the same? -/
def hopB (a b : (Int × Int) × Int) : Bool := (a.1.1 == b.1.1) && ((a.1.2 == b.1.2) && ((a.2 == b.2)))
theorem hopB_iff (a b : (Int × Int) × Int) : hopB a b = true ↔ a = b := by
  have e : hopB a b = ((a.1.1 == b.1.1) && ((a.1.2 == b.1.2) && ((a.2 == b.2)))) := rfl
  rw [e]
  simp only [Bool.and_eq_true, beq_iff_eq]
  constructor
  · intro h
    obtain ⟨⟨a0, a1⟩, a2⟩ := a; obtain ⟨⟨b0, b1⟩, b2⟩ := b; simp at h ⊢; simp [h]
  · intro h
    subst h
    simp
theorem hop_ways (x0 : Int) (x1 : Int) (x2 : Int) (y0 : Int) (y1 : Int) (y2 : Int) :
    ((x0 == y0) = false ∧ hopB ((x0, x1), x2) ((y0, y1), y2) = false) ∨
    ((x0 == y0) = true ∧ (x1 == y1) = false ∧ hopB ((x0, x1), x2) ((y0, y1), y2) = false) ∨
    ((x0 == y0) = true ∧ (x1 == y1) = true ∧ (x2 == y2) = false ∧ hopB ((x0, x1), x2) ((y0, y1), y2) = false) ∨
    ((x0 == y0) = true ∧ (x1 == y1) = true ∧ (x2 == y2) = true ∧ hopB ((x0, x1), x2) ((y0, y1), y2) = true) := by
  have e : hopB ((x0, x1), x2) ((y0, y1), y2) = ((x0 == y0) && ((x1 == y1) && ((x2 == y2)))) := rfl
  rw [e]
  cases h0 : (x0 == y0)
  · simp
  · skip
    cases h1 : (x1 == y1)
    · simp
    · skip
      cases h2 : (x2 == y2)
      · simp
      · skip
        simp
set_option maxRecDepth 100000 in
theorem hop_eq (x0 : Int) (x1 : Int) (x2 : Int) (y0 : Int) (y1 : Int) (y2 : Int) (w : World) : (Op.equal 83 (.agg #[.int .i64 x0, .int .i64 x1, .int .i64 x2]) (.agg #[.int .i64 y0, .int .i64 y1, .int .i64 y2])).run Tryd.prog w = .ok (hopB ((x0, x1), x2) ((y0, y1), y2)) w := by
  unfold Op.equal Op.maxDepth
  rw [run_equalIn_struct w 9999 _ _ _ (by kernel_rfl) (by kernel_rfl)]
  rcases hop_ways x0 x1 x2 y0 y1 y2 with ⟨e0, e⟩ | ⟨e0, e1, e⟩ | ⟨e0, e1, e2, e⟩ | ⟨e0, e1, e2, e⟩
  all_goals
    rw [e]
    go_simp
theorem hop_info : (Tryd.prog.info? 83).map (fun i => (i.zero, i.size, i.bytes)) = some (some (.agg #[.int .i64 0, .int .i64 0, .int .i64 0]), 3, 24) := by kernel_rfl
theorem hop_zero : (Value.agg #[.int .i64 0, .int .i64 0, .int .i64 0]).cells.size = 3 := by simp [Value.cells]
/-- Cells that read as one. -/
theorem hop_open {H : Type} {enc : TypeId × Value → H} {W : World} {n : Nat} {cs : List Value} {x : DataW H × List MemPlace}
    (h : DataW.trod enc Tryd.prog W 0 (fun _ => true) true n 83 cs = some x) : ∃ y, cs = hopE.c y := by
  obtain ⟨xs, k, _, _, hl, hlen, hf⟩ := DataW.trod_struct Tryd.underlying83 h
  have hC : Tryd.prog.cellsOf 83 = 3 := by kernel_rfl
  have hT0 : Tryd.prog.cellsOf 30 = 2 := by kernel_rfl
  have hT1 : Tryd.prog.cellsOf 3 = 1 := by kernel_rfl
  rw [hC] at hl
  match cs, hl with
  | [c0, c1, c2], _ =>
    match xs, hlen with
    | [z0, z1], _ =>
      have g0 := hf 0 _ rfl
      have g1 := hf 1 _ rfl
      simp [hT0, hT1] at g0 g1
      obtain ⟨s0, e0⟩ := spo_open g0
      obtain ⟨v2, e1, _, _⟩ := DataW.trod_int Tryd.underlying3 g1
      simp [spoE] at e0 e1
      refine ⟨((s0.1, s0.2), v2), ?_⟩
      simp [hopE, e0, e1]
set_option maxRecDepth 100000 in
/-- One that came in. -/
theorem hop_of {H : Type} {enc : TypeId × Value → H} {W : World} {base : Nat} {v : Value} {d : DataW H} {p : List MemPlace}
    (hv : Value.okWide Tryd.prog W .any base 83 v) (h : DataW.Trod enc Tryd.prog W 0 (fun _ => true) true 83 v d p) : ∃ (x0 : Int) (x1 : Int) (x2 : Int), v = .agg #[.int .i64 x0, .int .i64 x1, .int .i64 x2] := by
  obtain ⟨cs, rfl, hsz⟩ := okWide_struct Tryd.underlying83 hv
  obtain ⟨n, hn⟩ := h
  obtain ⟨y, e⟩ := hop_open hn
  refine ⟨y.1.1, y.1.2, y.2, ?_⟩
  simp only [Value.cells] at e
  have e2 : cs = #[.int .i64 y.1.1, .int .i64 y.1.2, .int .i64 y.2] := by
    rw [← Array.toArray_toList (xs := cs), e]
    rfl
  rw [e2]
/-- A slice of them that came in. -/
theorem hops_of {H : Type} {enc : TypeId × Value → H} {W : World} {base : Nat} {v : Value} {d : DataW H} {p : List MemPlace}
    (hv : Value.okWide Tryd.prog W .any base 38 v) (h : DataW.Trod enc Tryd.prog W 0 (fun _ => true) true 38 v d p) : ∃ L, GS hopE W v L :=
  gs_of (E := hopE) 38 83 Tryd.underlying38 (by kernel_rfl) ((0, 0), 0) (fun _ _ _ h => hop_open h) hv h
end Go.Proofs.YtpmcjelihdlfeaaDoor
/- What Table of package rule answers, called with any table: the loop. -/
namespace Go.Proofs.YtpmcjelihdlfeaaDoor
open Go.RowKit
set_option linter.unusedSimpArgs false

theorem tb_long {L : List Ru} (h : 12 < L.length) : tbN L = 4 := by simp [tbN, h]
theorem tb_at {L : List Ru} (h : L.length ≤ 12) {k : Nat} (hk : k < L.length) {x : Int} (h1 : tbTo L (k + 1) = x) (h2 : x ≠ 0) : tbN L = x := by
  subst h1
  rw [tbN, if_neg (by omega)]
  exact to_le h2 hk
theorem to_bad {L : List Ru} {k : Nat} {r : Ru} (hk : k < L.length) (hr : L[k] = r) (h : tbTo L k = 0) (h2 : r.n ≠ 0) : tbTo L (k + 1) = r.n := by
  rw [tbTo, if_pos h, getD_at hk, hr, if_neg h2]
theorem to_clash {L : List Ru} {k : Nat} {r : Ru} (hk : k < L.length) (hr : L[k] = r) (h : tbTo L k = 0) (h2 : r.n = 0) (h3 : (L.take k).any (fun a => keyB a r) = true) : tbTo L (k + 1) = 7 := by
  rw [tbTo, if_pos h, getD_at hk, hr, if_pos h2, h3]
  rfl
theorem to_next {L : List Ru} {k : Nat} {r : Ru} (hk : k < L.length) (hr : L[k] = r) (h : tbTo L k = 0) (h2 : r.n = 0) (h3 : (L.take k).any (fun a => keyB a r) = false) : tbTo L (k + 1) = 0 := by
  rw [tbTo, if_pos h, getD_at hk, hr, if_pos h2, h3]
  rfl

set_option maxHeartbeats 1000000 in
theorem table_some (g o cap n : Nat) (L : List Ru) (w : World) (hc : RAt w g o L) (hn : L.length = n) (hl : n ≤ 12) (hcap : n ≤ cap) (hcap2 : cap ≤ maxLen) :
    Calls Tryd.prog 28 #[.slice (some ⟨g, o, none⟩) n cap] w fun e w' => e = .returned (noV (tbN L)) ∧ Below w.heap.size w w' := by
  have HN : Hid (L.length = n) := hn
  unfold maxLen at hcap2
  clear hn
  go_enter Tryd.func28, Tryd.ntmps28
  go_wp2
  go_loopw [12] (fun i wr => ∃ k : Nat, k ≤ n ∧ i = .int .i64 k ∧ tbTo L k = 0 ∧ Below w.heap.size w wr) (fun i _ => n - (intOf i).toNat)
  case atStart => exact ⟨0, by omega, rfl, rfl, Below.refl _ _⟩
  case round =>
    obtain ⟨k, hk, rfl, hno, hB⟩ := hrel
    have HB : Hid (Below w.heap.size w wr) := hB
    have HNO : Hid (tbTo L k = 0) := hno
    clear hno
    by_cases hlt : k < n
    · obtain ⟨p, m, b, q, s, v, hkl, hL, q0, q1, q2, q3, q4, q5⟩ := (hc.later hB).at HN.out hlt
      have HL : Hid (L[k] = ⟨p, m, b, q, s, v⟩) := hL
      have HC6 := C6.new wr p m b q s v 47
      have HRT := ((hc.later hB).later ((Below.refl _ _).alloc (Nat.le_refl _) (Obj.cells #[Value.int IntKind.i64 p, Value.int IntKind.i64 m, Value.int IntKind.i64 b, Value.int IntKind.i64 q, Value.int IntKind.i64 s, Value.int IntKind.i64 v] 47))).take k
      have HTL : Hid ((L.take k).length = k) := by show (L.take k).length = k; simp; omega
      have hk2 : k ≤ cap := by omega
      clear hL hB
      by_cases ho : ruN p m b q s v = 0
      · go_wp2_with fail
        refine (ruCheck_any _ _ _ _ _ _ _).mono ?_
        rintro e w1 ⟨rfl, hb1⟩
        rw [no_ok ho]
        have HB1 := HB.out.trans (((Below.refl _ _).alloc (Nat.le_refl _) _).trans (hb1.mono (by simp)) |>.mono HB.out.size)
        have HC7 := HC6.later hb1
        have HR7 := HRT.later hb1
        clear hb1 HC6 HRT
        cases ho2 : (L.take k).any (fun a => keyB a ⟨p, m, b, q, s, v⟩)
        · go_wp2_with fail
          refine (containsR_any _ _ _ k _ ⟨p, m, b, q, s, v⟩ (L.take k) _ HR7 HTL.out (by unfold maxLen; omega) (by unfold maxLen; omega) HC7).mono ?_
          rintro e w2 ⟨rfl, hb2⟩
          rw [ho2]
          have HB2 := HB1.trans (hb2.mono HB1.size)
          clear hb2
          go_wp2
          go_roundw
          case rel => exact ⟨k + 1, by omega, by go_num, to_next hkl HL.out HNO.out ho ho2, HB2⟩
          case measure => simp [intOf]; omega
        · go_wp2_with fail
          refine (containsR_any _ _ _ k _ ⟨p, m, b, q, s, v⟩ (L.take k) _ HR7 HTL.out (by unfold maxLen; omega) (by unfold maxLen; omega) HC7).mono ?_
          rintro e w2 ⟨rfl, hb2⟩
          rw [ho2]
          have HB2 := HB1.trans (hb2.mono HB1.size)
          clear hb2
          go_wp2
          go_ret
          refine ⟨?_, HB2⟩
          rw [tb_at (by rw [HN.out]; exact hl) hkl (to_clash hkl HL.out HNO.out ho ho2) (by decide)]
          rfl
      · go_wp2_with fail
        refine (ruCheck_any _ _ _ _ _ _ _).mono ?_
        rintro e w1 ⟨rfl, hb1⟩
        rw [no_ne ho]
        have HB1 := HB.out.trans (((Below.refl _ _).alloc (Nat.le_refl _) _).trans (hb1.mono (by simp)) |>.mono HB.out.size)
        clear hb1
        go_wp2
        go_ret
        refine ⟨?_, HB1⟩
        rw [tb_at (by rw [HN.out]; exact hl) hkl (to_bad hkl HL.out HNO.out ho) ho, no_ne (show Ru.n ⟨p, m, b, q, s, v⟩ ≠ 0 from ho)]
        rfl
    · obtain rfl : k = n := by omega
      go_wp2
      go_ret
      refine ⟨?_, HB.out⟩
      have e1 : tbN L = 0 := by
        rw [tbN, if_neg (by rw [HN.out]; omega), HN.out]
        exact HNO.out
      rw [e1]
      rfl

set_option maxHeartbeats 1000000 in
theorem table_long (ao : Option Addr) (cap n : Nat) (w : World) (hl : 12 < n) :
    Calls Tryd.prog 28 #[.slice ao n cap] w fun e w' => e = .returned (.iface 75 (.int .i64 4)) ∧ Below w.heap.size w w' := by
  go_enter Tryd.func28, Tryd.ntmps28
  go_wp2
  go_ret
  exact ⟨rfl, Below.refl _ _⟩

set_option maxHeartbeats 1000000 in
theorem table_nil (ao : Option Addr) (cap : Nat) (w : World) :
    Calls Tryd.prog 28 #[.slice ao 0 cap] w fun e w' => e = .returned .nilIface ∧ Below w.heap.size w w' := by
  go_enter Tryd.func28, Tryd.ntmps28
  go_wp2
  go_loopw [12] (fun i wr => i = .int .i64 0 ∧ wr = w) (fun i _ => 0)
  case atStart => exact ⟨rfl, rfl⟩
  case round =>
    obtain ⟨rfl, rfl⟩ := hrel
    go_wp2
    go_ret
    exact ⟨rfl, Below.refl _ _⟩

theorem table_any (v : Value) (L : List Ru) (w : World) (h : SR w v L) :
    Calls Tryd.prog 28 #[v] w fun e w' => e = .returned (noV (tbN L)) ∧ Below w.heap.size w w' := by
  rcases h with ⟨ao, cap, rfl, rfl⟩ | ⟨g, o, cap, rfl, h1, h2, hc⟩
  · exact table_nil ao cap w
  · by_cases h12 : 12 < L.length
    · rw [tb_long h12]; exact table_long _ _ _ _ h12
    · exact table_some _ _ _ _ L w hc rfl (by omega) h1 h2
end Go.Proofs.YtpmcjelihdlfeaaDoor
/- What net.Check answers: a contract for the walks above it. -/
namespace Go.Proofs.YtpmcjelihdlfeaaDoor
open Go.RowKit
set_option linter.unusedSimpArgs false
set_option linter.unusedVariables false

/-- These tables lie one behind the other. -/
def TAt (w : World) (g o : Nat) (Ts : List (List Ru)) : Prop := ∀ i (h : i < Ts.length), ∃ ao n cap, w.cell? ⟨g, o + i, none⟩ = some (.slice ao n cap) ∧ SR w (.slice ao n cap) Ts[i]
theorem TAt.later {w w' : World} {g o : Nat} {Ts : List (List Ru)} (h : TAt w g o Ts) (hb : Below w.heap.size w w') : TAt w' g o Ts := fun i hi => by
  obtain ⟨ao, n, cap, h1, h2⟩ := h i hi
  exact ⟨ao, n, cap, cell_later hb h1, h2.later hb⟩
/-- A value is a slice of these tables. -/
def TS (w : World) (v : Value) (Ts : List (List Ru)) : Prop :=
  (∃ ao cap, v = .slice ao 0 cap ∧ Ts = []) ∨ ∃ g o cap, v = .slice (some ⟨g, o, none⟩) Ts.length cap ∧ Ts.length ≤ cap ∧ cap ≤ maxLen ∧ TAt w g o Ts
theorem TS.later {w w' : World} {v : Value} {Ts : List (List Ru)} (h : TS w v Ts) (hb : Below w.heap.size w w') : TS w' v Ts := by
  rcases h with h | ⟨g, o, cap, h1, h2, h3, h4⟩
  · exact .inl h
  · exact .inr ⟨g, o, cap, h1, h2, h3, h4.later hb⟩
theorem TS.form {w : World} {v : Value} {Ts : List (List Ru)} (h : TS w v Ts) : ∃ ao n cap, v = .slice ao n cap ∧ Ts.length = n ∧ n ≤ maxLen ∧ n ≤ cap ∧ (0 < n → ∃ g o, ao = some ⟨g, o, none⟩ ∧ TAt w g o Ts ∧ cap ≤ maxLen) := by
  rcases h with ⟨ao, cap, rfl, rfl⟩ | ⟨g, o, cap, rfl, h1, h2, h3⟩
  · exact ⟨ao, 0, cap, rfl, rfl, Nat.zero_le _, Nat.zero_le _, fun h => absurd h (by omega)⟩
  · exact ⟨_, _, cap, rfl, rfl, Nat.le_trans h1 h2, h1, fun _ => ⟨g, o, rfl, h3, h2⟩⟩
theorem TS.len {w : World} {ao : Option Addr} {n cap : Nat} {Ts : List (List Ru)} (h : TS w (.slice ao n cap) Ts) : Ts.length = n := by
  rcases h with ⟨_, _, e, rfl⟩ | ⟨_, _, _, e, _⟩
  · simp at e; simp [e]
  · simp at e; exact e.2.1.symm
theorem getT {Ts : List (List Ru)} {k : Nat} (hk : k < Ts.length) : Ts.getD k [] = Ts[k] := by simp [List.getD, hk]
/-- The box of a net. -/
def NeBox (W : World) (g : Nat) (S : Int) (v1 v2 v3 : Value) : Prop := W.cell? ⟨g, 0, none⟩ = some (.int .i64 S) ∧ W.cell? ⟨g, 1, none⟩ = some v1 ∧ W.cell? ⟨g, 2, none⟩ = some v2 ∧ W.cell? ⟨g, 3, none⟩ = some v3
theorem nebox_new (w : World) (S : Int) (v1 v2 v3 : Value) (t : TypeId) : NeBox (w.alloc (Obj.cells #[.int .i64 S, v1, v2, v3] t)) w.heap.size S v1 v2 v3 := by
  refine ⟨?_, ?_, ?_, ?_⟩ <;> simp
theorem NeBox.later {W W' : World} {g : Nat} {S : Int} {v1 v2 v3 : Value} (h : NeBox W g S v1 v2 v3) (hb : Below W.heap.size W W') : NeBox W' g S v1 v2 v3 :=
  ⟨cell_later hb h.1, cell_later hb h.2.1, cell_later hb h.2.2.1, cell_later hb h.2.2.2⟩

set_option maxHeartbeats 2000000 in
set_option maxRecDepth 100000 in
theorem ncheck_any (S : Int) (ao : Option Addr) (n cap : Nat) (ao2 : Option Addr) (n2 cap2 : Nat) (ao3 : Option Addr) (n3 cap3 : Nat) (Ls : List ((Int × Int) × (Int × Int))) (Hs : List (ByteArray × (Int × Int))) (Ts : List (List Ru)) (w : World)
    (hL : GS lnkE w (.slice ao n cap) Ls) (hH : GS hstE w (.slice ao2 n2 cap2) Hs) (hT : TS w (.slice ao3 n3 cap3) Ts) :
    Calls Tryd.prog 9 #[.agg #[.int .i64 S, .slice ao n cap, .slice ao2 n2 cap2, .slice ao3 n3 cap3]] w fun e w' => e = .returned (noV (ntN S Ls Hs Ts)) ∧ Below w.heap.size w w' := by
  have hb1 : Below w.heap.size w (w.alloc (Obj.cells #[.int .i64 S, .slice ao n cap, .slice ao2 n2 cap2, .slice ao3 n3 cap3] 28)) := (Below.refl _ _).alloc (Nat.le_refl _) _
  obtain ⟨C, hC⟩ : ∃ C, C = ntN S Ls Hs Ts := ⟨_, rfl⟩
  have HC : Hid (C = ntN S Ls Hs Ts) := hC
  rw [← hC]
  have HL2 : Hid (GS lnkE (w.alloc (Obj.cells #[.int .i64 S, .slice ao n cap, .slice ao2 n2 cap2, .slice ao3 n3 cap3] 28)) (.slice ao n cap) Ls) := hL.later hb1
  have HH2 : Hid (GS hstE (w.alloc (Obj.cells #[.int .i64 S, .slice ao n cap, .slice ao2 n2 cap2, .slice ao3 n3 cap3] 28)) (.slice ao2 n2 cap2) Hs) := hH.later hb1
  have HT2 : Hid (TS (w.alloc (Obj.cells #[.int .i64 S, .slice ao n cap, .slice ao2 n2 cap2, .slice ao3 n3 cap3] 28)) (.slice ao3 n3 cap3) Ts) := hT.later hb1
  have HB2 : Hid (Below w.heap.size w (w.alloc (Obj.cells #[.int .i64 S, .slice ao n cap, .slice ao2 n2 cap2, .slice ao3 n3 cap3] 28))) := hb1
  have HX : Hid (NeBox (w.alloc (Obj.cells #[.int .i64 S, .slice ao n cap, .slice ao2 n2 cap2, .slice ao3 n3 cap3] 28)) w.heap.size S (.slice ao n cap) (.slice ao2 n2 cap2) (.slice ao3 n3 cap3)) := nebox_new w S _ _ _ 28
  clear hC hb1 hL hH hT
  go_enter Tryd.func9, Tryd.ntmps9
  go_wp2_with fail
  refine (check_any S ao n cap ao2 n2 cap2 Ls Hs _ HL2.out HH2.out).mono ?_
  rintro e w1 ⟨rfl, hb1⟩
  obtain ⟨T, hT⟩ : ∃ T, T = tpN S Ls Hs := ⟨_, rfl⟩
  have HT : Hid (T = tpN S Ls Hs) := hT
  rw [← hT]
  have HB1 : Hid (Below w.heap.size w w1) := HB2.out.trans (hb1.mono HB2.out.size)
  obtain ⟨b0, b1, b2, b3⟩ := HX.out.later hb1
  have HT1 : Hid (TS w1 (.slice ao3 n3 cap3) Ts) := HT2.out.later hb1
  clear hT hb1 HX HL2 HH2 HB2 HT2
  by_cases h0 : T = 0
  · subst h0
    rw [no_ok rfl]
    obtain ⟨_, _, _, e2, hTn, hTm, _, hTa⟩ := HT1.out.form
    cases e2
    have HTN : Hid (Ts.length = n3) := hTn
    have HTM : Hid (n3 ≤ maxLen) := hTm
    have HTA : Hid (0 < n3 → ∃ g o, ao3 = some ⟨g, o, none⟩ ∧ TAt w1 g o Ts ∧ cap3 ≤ maxLen) := hTa
    have n63 : n3 ≤ 9223372036854775807 := by unfold maxLen at hTm; omega
    clear hTn hTm hTa HT1
    by_cases hS : (n3 : Int) = S
    · have HC2 : Hid (C = tsTo Ts n3) := by
        show _ = _
        rw [HC.out, ntN, if_pos HT.out.symm, if_pos (by rw [HTN.out]; exact hS), HTN.out]
      have e1 : ((n3 : Int) != S) = false := by simp [hS]
      clear hS HC
      go_wp2
      go_loopw [24] (fun i wr => ∃ k : Nat, k ≤ n3 ∧ i = .int .i64 k ∧ tsTo Ts k = 0 ∧ Below w1.heap.size w1 wr) (fun i _ => n3 - (intOf i).toNat)
      case atStart => exact ⟨0, by omega, rfl, rfl, Below.refl _ _⟩
      case round =>
        obtain ⟨k, hk, rfl, hz, hB⟩ := hrel
        have HZ : Hid (tsTo Ts k = 0) := hz
        have HB : Hid (Below w1.heap.size w1 wr) := hB
        have HBw : Hid (Below w.heap.size w wr) := HB1.out.trans (hB.mono HB1.out.size)
        clear hz b0 b1 b2 b3
        by_cases hlt : k < n3
        · obtain ⟨g, o, hao, hc, _⟩ := HTA.out (by omega)
          subst hao
          obtain ⟨a4, n4, c4, q0, hs⟩ := (hc.later hB) k (by rw [HTN.out]; exact hlt)
          have HS4 : Hid (SR wr (.slice a4 n4 c4) (Ts.getD k [])) := by
            show SR _ _ _
            rw [getT (by rw [HTN.out]; exact hlt)]
            exact hs
          clear hs hc hB
          go_wp2_with fail
          refine (table_any _ (Ts.getD k []) _ HS4.out).mono ?_
          rintro e w2 ⟨rfl, hb2⟩
          obtain ⟨R, hR⟩ : ∃ R, R = tbN (Ts.getD k []) := ⟨_, rfl⟩
          have HR : Hid (tsTo Ts (k + 1) = R) := by
            show _ = _
            rw [tsTo, if_pos HZ.out, hR]
          rw [← hR]
          have HB3 : Hid (Below w1.heap.size w1 w2) := HB.out.trans (hb2.mono HB.out.size)
          have HBw3 : Hid (Below w.heap.size w w2) := HBw.out.trans (hb2.mono HBw.out.size)
          clear hR hb2 q0
          by_cases hN : R = 0
          · subst hN
            rw [no_ok rfl]
            go_wp2
            go_roundw
            case rel => exact ⟨k + 1, by omega, by go_num, HR.out, HB3.out⟩
            case measure => simp [intOf]; omega
          · rw [no_ne hN]
            have HCR : Hid (C = R) := by
              show _ = _
              rw [HC2.out, ts_le (k := k + 1) (by rw [HR.out]; exact hN) (by omega), HR.out]
            have HNN : Hid (R ≠ 0) := hN
            clear hN
            go_wp2
            go_ret
            exact ⟨by rw [HCR.out, no_ne HNN.out]; rfl, HBw3.out⟩
        · obtain rfl : k = n3 := by omega
          have HCR : Hid (C = 0) := by
            show _ = _
            rw [HC2.out, HZ.out]
          clear hB
          go_wp2
          go_ret
          exact ⟨by rw [HCR.out]; rfl, HBw.out⟩
    · have HC2 : Hid (C = 3) := by
        show _ = _
        rw [HC.out, ntN, if_pos HT.out.symm, if_neg (by rw [HTN.out]; exact hS)]
      have e1 : ((n3 : Int) != S) = true := by simpa using hS
      clear hS HC
      go_wp2
      go_ret
      exact ⟨by rw [HC2.out]; rfl, HB1.out⟩
  · rw [no_ne h0]
    have HC2 : Hid (C = T) := by
      show _ = _
      rw [HC.out, ntN, ← HT.out, if_neg h0]
    have HN0 : Hid (T ≠ 0) := h0
    clear h0
    go_wp2
    go_ret
    exact ⟨by rw [HC2.out, no_ne HN0.out]; rfl, HB1.out⟩
end Go.Proofs.YtpmcjelihdlfeaaDoor
/- What order of package rule answers, called with any two rules. -/
namespace Go.Proofs.YtpmcjelihdlfeaaDoor
open Go.RowKit
set_option linter.unusedSimpArgs false

set_option maxHeartbeats 1000000 in
theorem nan_any (a : Int) (w : World) : Calls Tryd.prog 102 #[.int .i64 a] w fun e w' => e = .returned (.bool false) ∧ w' = w := by
  go_enter Tryd.func102, Tryd.ntmps102
  go_wp2
  go_ret
  exact ⟨by simp, rfl⟩

set_option maxHeartbeats 1000000 in
theorem compare_any (a b : Int) (w : World) : Calls Tryd.prog 97 #[.int .i64 a, .int .i64 b] w fun e w' => e = .returned (.int .i64 (cmpN a b)) ∧ w' = w := by
  by_cases h1 : a < b
  · have e : cmpN a b = -1 := by simp [cmpN, h1]
    rw [e]; clear e
    have g1 : decide (a < b) = true := by simpa using h1
    go_enter Tryd.func97, Tryd.ntmps97
    go_wp2_with (first | (go_at_call 102; refine (nan_any _ _).mono ?_; rintro e w' ⟨rfl, rfl⟩))
    go_ret
    exact ⟨rfl, rfl⟩
  · have g1 : decide (a < b) = false := by simpa using h1
    by_cases h2 : b < a
    · have e : cmpN a b = 1 := by simp [cmpN, h1, h2]
      rw [e]; clear e
      have g2 : decide (b < a) = true := by simpa using h2
      go_enter Tryd.func97, Tryd.ntmps97
      go_wp2_with (first | (go_at_call 102; refine (nan_any _ _).mono ?_; rintro e w' ⟨rfl, rfl⟩))
      go_ret
      exact ⟨rfl, rfl⟩
    · have e : cmpN a b = 0 := by simp [cmpN, h1, h2]
      rw [e]; clear e
      have g2 : decide (b < a) = false := by simpa using h2
      go_enter Tryd.func97, Tryd.ntmps97
      go_wp2_with (first | (go_at_call 102; refine (nan_any _ _).mono ?_; rintro e w' ⟨rfl, rfl⟩))
      go_ret
      exact ⟨rfl, rfl⟩

set_option maxHeartbeats 1000000 in
theorem or_any (x y z : Int) (g : Nat) (w : World) (h0 : w.cell? ⟨g, 0, none⟩ = some (.int .i64 x)) (h1 : w.cell? ⟨g, 1, none⟩ = some (.int .i64 y)) (h2 : w.cell? ⟨g, 2, none⟩ = some (.int .i64 z)) :
    Calls Tryd.prog 96 #[.slice (some ⟨g, 0, none⟩) 3 3] w fun e w' => e = .returned (.int .i64 (orN x y z)) ∧ w' = w := by
  generalize hq : orN x y z = q
  have HQ : Hid ((if x = 0 then (if y = 0 then z else y) else x) = q) := hq
  clear hq
  go_enter Tryd.func96, Tryd.ntmps96
  go_wp2
  go_loopw [8] (fun i wr => ∃ k : Nat, k ≤ 3 ∧ i = .int .i64 k ∧ (0 < k → x = 0) ∧ (1 < k → y = 0) ∧ (2 < k → z = 0) ∧ wr = w) (fun i _ => 3 - (intOf i).toNat)
  case atStart => exact ⟨0, by omega, rfl, by omega, by omega, by omega, rfl⟩
  case round =>
    obtain ⟨k, hk, rfl, a0, a1, a2, hw⟩ := hrel
    replace hw := hw.symm
    subst hw
    rcases (by omega : k = 0 ∨ k = 1 ∨ k = 2 ∨ k = 3) with rfl | rfl | rfl | rfl
    · clear a0 a1 a2
      by_cases hx : x = 0
      · have g1 : (x == 0) = true := by simpa using hx
        have g2 : (x != 0) = false := by simpa using hx
        go_wp2
        go_roundw
        case rel => exact ⟨1, by omega, rfl, fun _ => hx, by omega, by omega, trivial⟩
        case measure => simp [intOf]
      · have g1 : (x == 0) = false := by simpa using hx
        have g2 : (x != 0) = true := by simpa using hx
        go_wp2
        go_ret
        exact ⟨by rw [← HQ.out, if_neg hx]; rfl, rfl⟩
    · have hx := a0 (by omega)
      clear a0 a1 a2
      by_cases hy : y = 0
      · have g1 : (y == 0) = true := by simpa using hy
        have g2 : (y != 0) = false := by simpa using hy
        go_wp2
        go_roundw
        case rel => exact ⟨2, by omega, rfl, fun _ => hx, fun _ => hy, by omega, trivial⟩
        case measure => simp [intOf]
      · have g1 : (y == 0) = false := by simpa using hy
        have g2 : (y != 0) = true := by simpa using hy
        go_wp2
        go_ret
        exact ⟨by rw [← HQ.out, if_pos hx, if_neg hy]; rfl, rfl⟩
    · have hx := a0 (by omega)
      have hy := a1 (by omega)
      clear a0 a1 a2
      by_cases hz : z = 0
      · have g1 : (z == 0) = true := by simpa using hz
        have g2 : (z != 0) = false := by simpa using hz
        go_wp2
        go_roundw
        case rel => exact ⟨3, by omega, rfl, fun _ => hx, fun _ => hy, fun _ => hz, trivial⟩
        case measure => simp [intOf]
      · have g1 : (z == 0) = false := by simpa using hz
        have g2 : (z != 0) = true := by simpa using hz
        go_wp2
        go_ret
        exact ⟨by rw [← HQ.out, if_pos hx, if_pos hy]; rfl, rfl⟩
    · have hx := a0 (by omega)
      have hy := a1 (by omega)
      have hz := a2 (by omega)
      clear a0 a1 a2
      go_wp2
      go_ret
      exact ⟨by rw [← HQ.out, if_pos hx, if_pos hy, hz]; rfl, rfl⟩

theorem compare_b (a b : Int) (w : World) : Calls Tryd.prog 97 #[.int .i64 a, .int .i64 b] w fun e w' => e = .returned (.int .i64 (cmpN a b)) ∧ Below w.heap.size w w' :=
  (compare_any a b w).mono fun _ w' h => ⟨h.1, by rw [h.2]; exact Below.refl _ _⟩
theorem or_b (x y z : Int) (g : Nat) (w : World) (h0 : w.cell? ⟨g, 0, none⟩ = some (.int .i64 x)) (h1 : w.cell? ⟨g, 1, none⟩ = some (.int .i64 y)) (h2 : w.cell? ⟨g, 2, none⟩ = some (.int .i64 z)) :
    Calls Tryd.prog 96 #[.slice (some ⟨g, 0, none⟩) 3 3] w fun e w' => e = .returned (.int .i64 (orN x y z)) ∧ Below w.heap.size w w' :=
  (or_any x y z g w h0 h1 h2).mono fun _ w' h => ⟨h.1, by rw [h.2]; exact Below.refl _ _⟩
theorem cells3 {W : World} (x y z : Value) (t : TypeId) :
    (W.alloc (.cells #[x, y, z] t)).cell? ⟨W.heap.size, 0, none⟩ = some x ∧ (W.alloc (.cells #[x, y, z] t)).cell? ⟨W.heap.size, 1, none⟩ = some y ∧ (W.alloc (.cells #[x, y, z] t)).cell? ⟨W.heap.size, 2, none⟩ = some z := by
  refine ⟨?_, ?_, ?_⟩ <;> simp
/-- Two rules in the two blocks from B on, as far as order reads them. -/
def OS (w : World) (p m b p' m' b' : Int) (w' : World) : Prop :=
  Below w.heap.size w w' ∧ (w'.cell? ⟨w.heap.size, 0, none⟩ = some (.int .i64 p) ∧ w'.cell? ⟨w.heap.size, 1, none⟩ = some (.int .i64 m) ∧ w'.cell? ⟨w.heap.size, 2, none⟩ = some (.int .i64 b)) ∧
    (w'.cell? ⟨w.heap.size + 1, 0, none⟩ = some (.int .i64 p') ∧ w'.cell? ⟨w.heap.size + 1, 1, none⟩ = some (.int .i64 m') ∧ w'.cell? ⟨w.heap.size + 1, 2, none⟩ = some (.int .i64 b'))
theorem OS.later {w W W' : World} {p m b p' m' b' : Int} (hb : Below W.heap.size W W') (h : OS w p m b p' m' b' W) : OS w p m b p' m' b' W' := by
  obtain ⟨h0, ⟨h1, h2, h3⟩, ⟨h4, h5, h6⟩⟩ := h
  exact ⟨h0.trans (hb.mono h0.size), ⟨cell_later hb h1, cell_later hb h2, cell_later hb h3⟩, ⟨cell_later hb h4, cell_later hb h5, cell_later hb h6⟩⟩

set_option maxHeartbeats 400000 in
theorem order_any (p m b o s v p' m' b' o' s' v' : Int) (w : World) :
    Calls Tryd.prog 80 #[.agg #[.int .i64 p, .int .i64 m, .int .i64 b, .int .i64 o, .int .i64 s, .int .i64 v], .agg #[.int .i64 p', .int .i64 m', .int .i64 b', .int .i64 o', .int .i64 s', .int .i64 v']] w fun e w' => e = .returned (.int .i64 (ordN p m b p' m' b')) ∧ Below w.heap.size w w' := by
  have hS0 : OS w p m b p' m' b' ((w.alloc (Obj.cells #[Value.int IntKind.i64 p, Value.int IntKind.i64 m, Value.int IntKind.i64 b, Value.int IntKind.i64 o, Value.int IntKind.i64 s, Value.int IntKind.i64 v] 47)).alloc (Obj.cells #[Value.int IntKind.i64 p', Value.int IntKind.i64 m', Value.int IntKind.i64 b', Value.int IntKind.i64 o', Value.int IntKind.i64 s', Value.int IntKind.i64 v'] 47)) := by
    refine ⟨((Below.refl _ _).alloc (Nat.le_refl _) _).alloc (by simp) _, ⟨?_, ?_, ?_⟩, ⟨?_, ?_, ?_⟩⟩ <;> simp
  go_enter Tryd.func80, Tryd.ntmps80
  go_wp2
  generalize ((w.alloc (Obj.cells #[Value.int IntKind.i64 p, Value.int IntKind.i64 m, Value.int IntKind.i64 b, Value.int IntKind.i64 o, Value.int IntKind.i64 s, Value.int IntKind.i64 v] 47)).alloc (Obj.cells #[Value.int IntKind.i64 p', Value.int IntKind.i64 m', Value.int IntKind.i64 b', Value.int IntKind.i64 o', Value.int IntKind.i64 s', Value.int IntKind.i64 v'] 47)) = W0 at *
  unfold OS at hS0
  go_region_held3 (fun w' => Below w.heap.size w w' ∧ (w'.cell? ⟨w.heap.size, 0, none⟩ = some (.int .i64 p) ∧ w'.cell? ⟨w.heap.size, 1, none⟩ = some (.int .i64 m) ∧ w'.cell? ⟨w.heap.size, 2, none⟩ = some (.int .i64 b)) ∧
      (w'.cell? ⟨w.heap.size + 1, 0, none⟩ = some (.int .i64 p') ∧ w'.cell? ⟨w.heap.size + 1, 1, none⟩ = some (.int .i64 m') ∧ w'.cell? ⟨w.heap.size + 1, 2, none⟩ = some (.int .i64 b')))
    (first | assumption | exact OS.later (by assumption) (by assumption) | exact OS.later (Below.drew (Below.refl _ _)) (by assumption) | exact OS.later (Below.alloc (Below.refl _ _) (Nat.le_refl _) _) (by assumption))
    (first
      | (go_at_call 97; refine (compare_b _ _ _).mono ?_; rintro e w' ⟨rfl, hb⟩)
      | (go_at_call 96; refine (or_b (cmpN p p') (cmpN m m') (cmpN b b') _ _ (cells3 _ _ _ _).1 (cells3 _ _ _ _).2.1 (cells3 _ _ _ _).2.2).mono ?_; rintro e w' ⟨rfl, hb⟩))
  have hS := (‹Below w.heap.size w w' ∧ _›).1
  go_wp2
  go_ret
  exact ⟨rfl, hS⟩
end Go.Proofs.YtpmcjelihdlfeaaDoor
/- What Lookup of package rule answers, called with any table and number. -/
namespace Go.Proofs.YtpmcjelihdlfeaaDoor
open Go.RowKit
set_option linter.unusedSimpArgs false

/-- A rule in a new block, in letters. -/
def CA (w : World) (g : Nat) (p m b o s v : Int) (w' : World) : Prop :=
  Below w.heap.size w w' ∧ w'.cell? ⟨g, 0, none⟩ = some (.int .i64 p) ∧ w'.cell? ⟨g, 1, none⟩ = some (.int .i64 m) ∧ w'.cell? ⟨g, 2, none⟩ = some (.int .i64 b) ∧
    w'.cell? ⟨g, 3, none⟩ = some (.int .i64 o) ∧ w'.cell? ⟨g, 4, none⟩ = some (.int .i64 s) ∧ w'.cell? ⟨g, 5, none⟩ = some (.int .i64 v)
theorem CA.later {w W W' : World} {g : Nat} {p m b o s v : Int} (hb : Below W.heap.size W W') (h : CA w g p m b o s v W) : CA w g p m b o s v W' := by
  obtain ⟨h0, h1, h2, h3, h4, h5, h6⟩ := h
  exact ⟨h0.trans (hb.mono h0.size), cell_later hb h1, cell_later hb h2, cell_later hb h3, cell_later hb h4, cell_later hb h5, cell_later hb h6⟩
/-- .. and another one at an address. -/
def CB (w : World) (g : Nat) (p m b o s v : Int) (g' o' : Nat) (p' m' b' q' s' v' : Int) (w' : World) : Prop :=
  (Below w.heap.size w w' ∧ w'.cell? ⟨g, 0, none⟩ = some (.int .i64 p) ∧ w'.cell? ⟨g, 1, none⟩ = some (.int .i64 m) ∧ w'.cell? ⟨g, 2, none⟩ = some (.int .i64 b) ∧
    w'.cell? ⟨g, 3, none⟩ = some (.int .i64 o) ∧ w'.cell? ⟨g, 4, none⟩ = some (.int .i64 s) ∧ w'.cell? ⟨g, 5, none⟩ = some (.int .i64 v)) ∧
  w'.cell? ⟨g', o', none⟩ = some (.int .i64 p') ∧ w'.cell? ⟨g', o' + 1, none⟩ = some (.int .i64 m') ∧ w'.cell? ⟨g', o' + 2, none⟩ = some (.int .i64 b') ∧
    w'.cell? ⟨g', o' + 3, none⟩ = some (.int .i64 q') ∧ w'.cell? ⟨g', o' + 4, none⟩ = some (.int .i64 s') ∧ w'.cell? ⟨g', o' + 5, none⟩ = some (.int .i64 v')
theorem CB.later {w W W' : World} {g : Nat} {p m b o s v : Int} {g' o' : Nat} {p' m' b' q' s' v' : Int} (hb : Below W.heap.size W W') (h : CB w g p m b o s v g' o' p' m' b' q' s' v' W) : CB w g p m b o s v g' o' p' m' b' q' s' v' W' := by
  obtain ⟨h0, h1, h2, h3, h4, h5, h6⟩ := h
  exact ⟨CA.later hb h0, cell_later hb h1, cell_later hb h2, cell_later hb h3, cell_later hb h4, cell_later hb h5, cell_later hb h6⟩

/-- Does a rule count that has the header, behind one at x that it is held against? -/
def cntB (m b h x y : Int) : Bool := hasB m b h && (decide (x < 0) || decide (0 < y))
theorem be_next {L : List Ru} {h : Int} {k : Nat} (x : Int) (hx : x = beTo L h k) (y : Bool) (hy : ((L.getD k zeR).has h && (decide (x < 0) || decide (0 < ordR (L.getD k zeR) (L.getD x.toNat zeR)))) = y) : beTo L h (k + 1) = if y then (k : Int) else x := by
  subst hx
  rw [beTo, hy]

set_option maxHeartbeats 1000000 in
theorem counting_some (g o cap n : Nat) (h : Int) (L : List Ru) (w : World) (hc : RAt w g o L) (hn : L.length = n) (hcap2 : n ≤ maxLen) :
    Calls Tryd.prog 59 #[.slice (some ⟨g, o, none⟩) n cap, .int .i64 h] w fun e w' => e = .returned (.int .i64 (beTo L h n)) ∧ Below w.heap.size w w' := by
  have HN : Hid (L.length = n) := hn
  unfold maxLen at hcap2
  clear hn
  go_enter Tryd.func59, Tryd.ntmps59
  go_wp2
  go_loopw [5, 10] (fun x i wr => ∃ k : Nat, k ≤ n ∧ x = .int .i64 (beTo L h k) ∧ i = .int .i64 k ∧ Below w.heap.size w wr) (fun _ i _ => n - (intOf i).toNat)
  case atStart => exact ⟨0, by omega, rfl, rfl, Below.refl _ _⟩
  case round =>
    obtain ⟨k, hk, rfl, rfl, hB⟩ := hrel
    have hbd := be_bd L h k
    generalize hx : beTo L h k = x at *
    have HX : Hid (x = beTo L h k) := hx.symm
    obtain ⟨x0, x1⟩ := hbd
    clear hx
    have HB : Hid (Below w.heap.size w wr) := hB
    by_cases hlt : k < n
    · obtain ⟨p, m, b, q, s, v, hkl, hL, q0, q1, q2, q3, q4, q5⟩ := (hc.later hB).at HN.out hlt
      have HK : Hid (L.getD k zeR = ⟨p, m, b, q, s, v⟩) := (getD_at hkl).trans hL
      have HA : Hid (CA wr wr.heap.size p m b q s v (wr.alloc (Obj.cells #[Value.int IntKind.i64 p, Value.int IntKind.i64 m, Value.int IntKind.i64 b, Value.int IntKind.i64 q, Value.int IntKind.i64 s, Value.int IntKind.i64 v] 47))) := by
        refine ⟨(Below.refl _ _).alloc (Nat.le_refl _) _, ?_, ?_, ?_, ?_, ?_, ?_⟩ <;> simp
      have HCC : Hid (RAt wr g o L) := hc.later hB
      clear hL hB
      go_upto_region 5 with fail
      clear q0 q1 q2 q3 q4 q5
      go_cut [10, 31] from 10 to 33 (fun i c w' => i = .int .i64 k ∧ c = .bool (cntB m b h x (ordR ⟨p, m, b, q, s, v⟩ (L.getD x.toNat zeR))) ∧ Below wr.heap.size wr w')
      case first =>
        have hS0 := HA.out
        clear HA
        have HW0 : Hid (Below wr.heap.size wr (wr.alloc (Obj.cells #[Value.int IntKind.i64 p, Value.int IntKind.i64 m, Value.int IntKind.i64 b, Value.int IntKind.i64 q, Value.int IntKind.i64 s, Value.int IntKind.i64 v] 47))) := (Below.refl _ _).alloc (Nat.le_refl _) _
        have HW0 : Hid (Below wr.heap.size wr (wr.alloc (Obj.cells #[Value.int IntKind.i64 p, Value.int IntKind.i64 m, Value.int IntKind.i64 b, Value.int IntKind.i64 q, Value.int IntKind.i64 s, Value.int IntKind.i64 v] 47))) := (Below.refl _ _).alloc (Nat.le_refl _) _
        generalize (wr.alloc (Obj.cells #[Value.int IntKind.i64 p, Value.int IntKind.i64 m, Value.int IntKind.i64 b, Value.int IntKind.i64 q, Value.int IntKind.i64 s, Value.int IntKind.i64 v] 47)) = W0 at *
        cases hh : hasB m b h
        · refine wp_region_quiet (C := CA wr wr.heap.size p m b q s v) (by kernel_rfl) (by kernel_rfl) (CA.later (W := W0) (Below.drew (Below.refl _ _)) hS0) ?_
          simp only [List.toList_toArray]
          go_big_quiet_want
          refine quiet_val (v := .pointer (some ⟨wr.heap.size, 1, none⟩)) (fun w' hC => ?_) ?_
          · obtain ⟨z0, z1, z2, z3, z4, z5, z6⟩ := hC
            go_simp
          simp only [Act.put, List.setIfInBounds_toArray, List.set_cons_zero, List.set_cons_succ]
          go_big_quiet_on
          go_big_quiet_want
          refine quiet_val (v := .agg #[.int .i64 m, .int .i64 b]) (fun w' hC => ?_) ?_
          · obtain ⟨z0, z1, z2, z3, z4, z5, z6⟩ := hC
            go_simp
          simp only [Act.put, List.setIfInBounds_toArray, List.set_cons_zero, List.set_cons_succ]
          go_big_quiet_on
          go_big_quiet_want
          refine quiet_val (v := .int .i64 h) (fun w' hC => ?_) ?_
          · obtain ⟨z0, z1, z2, z3, z4, z5, z6⟩ := hC
            go_simp
          simp only [Act.put, List.setIfInBounds_toArray, List.set_cons_zero, List.set_cons_succ]
          go_big_quiet_on
          go_big_quiet_want
          refine quiet_call (f := 79) (args := #[.agg #[.int .i64 m, .int .i64 b], .int .i64 h]) (v := .bool false) (fun w' => ?_) (fun w' hC => (has_any m b h w').mono (fun e w2 h2 => ⟨by rw [h2.1, hh], CA.later h2.2 hC⟩)) ?_
          · go_simp
          simp only [Act.put, List.setIfInBounds_toArray, List.set_cons_zero, List.set_cons_succ]
          go_big_quiet_on
          go_big_quiet_want
          refine quiet_val (v := .bool false) (fun w' hC => ?_) ?_
          · obtain ⟨z0, z1, z2, z3, z4, z5, z6⟩ := hC
            go_simp
          simp only [Act.put, List.setIfInBounds_toArray, List.set_cons_zero, List.set_cons_succ]
          go_big_quiet_on
          go_big_quiet_skip
          go_big_quiet_skip
          go_big_quiet_skip
          go_big_quiet_skip
          go_big_quiet_skip
          go_big_quiet_skip
          go_big_quiet_skip
          go_big_quiet_skip
          go_big_quiet_skip
          go_big_quiet_skip
          go_big_quiet_skip
          go_big_quiet_want
          refine quiet_val (v := .bool false) (fun w' hC => ?_) ?_
          · obtain ⟨z0, z1, z2, z3, z4, z5, z6⟩ := hC
            go_simp
          simp only [Act.put, List.setIfInBounds_toArray, List.set_cons_zero, List.set_cons_succ]
          go_big_quiet_on
          refine wpQuiet_nil ?_
          intro w' hC
          go_wp2_with fail
          go_meet
          case rel => exact ⟨rfl, by simp [cntB, hh], hC.1⟩
        · by_cases hx0 : x < 0
          · have hx1 : decide (x < 0) = true := by simpa using hx0
            refine wp_region_quiet (C := CA wr wr.heap.size p m b q s v) (by kernel_rfl) (by kernel_rfl) (CA.later (W := W0) (Below.drew (Below.refl _ _)) hS0) ?_
            simp only [List.toList_toArray]
            go_big_quiet_want
            refine quiet_val (v := .pointer (some ⟨wr.heap.size, 1, none⟩)) (fun w' hC => ?_) ?_
            · obtain ⟨z0, z1, z2, z3, z4, z5, z6⟩ := hC
              go_simp
            simp only [Act.put, List.setIfInBounds_toArray, List.set_cons_zero, List.set_cons_succ]
            go_big_quiet_on
            go_big_quiet_want
            refine quiet_val (v := .agg #[.int .i64 m, .int .i64 b]) (fun w' hC => ?_) ?_
            · obtain ⟨z0, z1, z2, z3, z4, z5, z6⟩ := hC
              go_simp
            simp only [Act.put, List.setIfInBounds_toArray, List.set_cons_zero, List.set_cons_succ]
            go_big_quiet_on
            go_big_quiet_want
            refine quiet_val (v := .int .i64 h) (fun w' hC => ?_) ?_
            · obtain ⟨z0, z1, z2, z3, z4, z5, z6⟩ := hC
              go_simp
            simp only [Act.put, List.setIfInBounds_toArray, List.set_cons_zero, List.set_cons_succ]
            go_big_quiet_on
            go_big_quiet_want
            refine quiet_call (f := 79) (args := #[.agg #[.int .i64 m, .int .i64 b], .int .i64 h]) (v := .bool true) (fun w' => ?_) (fun w' hC => (has_any m b h w').mono (fun e w2 h2 => ⟨by rw [h2.1, hh], CA.later h2.2 hC⟩)) ?_
            · go_simp
            simp only [Act.put, List.setIfInBounds_toArray, List.set_cons_zero, List.set_cons_succ]
            go_big_quiet_on
            go_big_quiet_want
            refine quiet_val (v := .bool true) (fun w' hC => ?_) ?_
            · obtain ⟨z0, z1, z2, z3, z4, z5, z6⟩ := hC
              go_simp
            simp only [Act.put, List.setIfInBounds_toArray, List.set_cons_zero, List.set_cons_succ]
            go_big_quiet_on
            go_big_quiet_want
            refine quiet_val (v := .int .i64 x) (fun w' hC => ?_) ?_
            · obtain ⟨z0, z1, z2, z3, z4, z5, z6⟩ := hC
              go_simp
            simp only [Act.put, List.setIfInBounds_toArray, List.set_cons_zero, List.set_cons_succ]
            go_big_quiet_on
            go_big_quiet_want
            refine quiet_val (v := .bool true) (fun w' hC => ?_) ?_
            · obtain ⟨z0, z1, z2, z3, z4, z5, z6⟩ := hC
              go_simp
            simp only [Act.put, List.setIfInBounds_toArray, List.set_cons_zero, List.set_cons_succ]
            go_big_quiet_on
            go_big_quiet_want
            refine quiet_val (v := .bool true) (fun w' hC => ?_) ?_
            · obtain ⟨z0, z1, z2, z3, z4, z5, z6⟩ := hC
              go_simp
            simp only [Act.put, List.setIfInBounds_toArray, List.set_cons_zero, List.set_cons_succ]
            go_big_quiet_on
            go_big_quiet_skip
            go_big_quiet_skip
            go_big_quiet_skip
            go_big_quiet_skip
            go_big_quiet_skip
            go_big_quiet_skip
            go_big_quiet_skip
            go_big_quiet_want
            refine quiet_val (v := .bool true) (fun w' hC => ?_) ?_
            · obtain ⟨z0, z1, z2, z3, z4, z5, z6⟩ := hC
              go_simp
            simp only [Act.put, List.setIfInBounds_toArray, List.set_cons_zero, List.set_cons_succ]
            go_big_quiet_on
            go_big_quiet_want
            refine quiet_val (v := .bool true) (fun w' hC => ?_) ?_
            · obtain ⟨z0, z1, z2, z3, z4, z5, z6⟩ := hC
              go_simp
            simp only [Act.put, List.setIfInBounds_toArray, List.set_cons_zero, List.set_cons_succ]
            go_big_quiet_on
            refine wpQuiet_nil ?_
            intro w' hC
            go_wp2_with fail
            go_meet
            case rel => exact ⟨rfl, by simp [cntB, hh, hx0], hC.1⟩
          · obtain ⟨y, hy⟩ : ∃ y : Nat, x = (y : Int) := ⟨x.toNat, by omega⟩
            have hx2 : decide ((y : Int) < 0) = false := by simp
            subst hy
            obtain ⟨p2, m2, b2, q2, s2, v2, hyl, hLy, y0, y1, y2, y3, y4, y5⟩ := HCC.out.at HN.out (show y < n by omega)
            have HYL : Hid (L.getD ((y : Nat) : Int).toNat zeR = ⟨p2, m2, b2, q2, s2, v2⟩) := by
              show L.getD ((y : Nat) : Int).toNat zeR = _
              rw [Int.toNat_natCast, getD_at hyl, hLy]
            have yb0 : (0 : Int) ≤ (y : Int) := by omega
            have yb1 : ((y : Int)) < (n : Int) := by omega
            have hS1 : CB wr wr.heap.size p m b q s v g (o + y * 6) p2 m2 b2 q2 s2 v2 W0 := ⟨hS0, cell_later HW0.out y0, cell_later HW0.out y1, cell_later HW0.out y2, cell_later HW0.out y3, cell_later HW0.out y4, cell_later HW0.out y5⟩
            clear y0 y1 y2 y3 y4 y5 hLy hS0
            have hS0 := hS1
            clear hS1
            refine wp_region_quiet (C := CB wr wr.heap.size p m b q s v g (o + y * 6) p2 m2 b2 q2 s2 v2) (by kernel_rfl) (by kernel_rfl) (CB.later (W := W0) (Below.drew (Below.refl _ _)) hS0) ?_
            simp only [List.toList_toArray]
            go_big_quiet_want
            refine quiet_val (v := .pointer (some ⟨wr.heap.size, 1, none⟩)) (fun w' hC => ?_) ?_
            · obtain ⟨⟨z0, z1, z2, z3, z4, z5, z6⟩, y1, y2, y3, y4, y5, y6⟩ := hC
              go_simp
            simp only [Act.put, List.setIfInBounds_toArray, List.set_cons_zero, List.set_cons_succ]
            go_big_quiet_on
            go_big_quiet_want
            refine quiet_val (v := .agg #[.int .i64 m, .int .i64 b]) (fun w' hC => ?_) ?_
            · obtain ⟨⟨z0, z1, z2, z3, z4, z5, z6⟩, y1, y2, y3, y4, y5, y6⟩ := hC
              go_simp
            simp only [Act.put, List.setIfInBounds_toArray, List.set_cons_zero, List.set_cons_succ]
            go_big_quiet_on
            go_big_quiet_want
            refine quiet_val (v := .int .i64 h) (fun w' hC => ?_) ?_
            · obtain ⟨⟨z0, z1, z2, z3, z4, z5, z6⟩, y1, y2, y3, y4, y5, y6⟩ := hC
              go_simp
            simp only [Act.put, List.setIfInBounds_toArray, List.set_cons_zero, List.set_cons_succ]
            go_big_quiet_on
            go_big_quiet_want
            refine quiet_call (f := 79) (args := #[.agg #[.int .i64 m, .int .i64 b], .int .i64 h]) (v := .bool true) (fun w' => ?_) (fun w' hC => (has_any m b h w').mono (fun e w2 h2 => ⟨by rw [h2.1, hh], CB.later h2.2 hC⟩)) ?_
            · go_simp
            simp only [Act.put, List.setIfInBounds_toArray, List.set_cons_zero, List.set_cons_succ]
            go_big_quiet_on
            go_big_quiet_want
            refine quiet_val (v := .bool true) (fun w' hC => ?_) ?_
            · obtain ⟨⟨z0, z1, z2, z3, z4, z5, z6⟩, y1, y2, y3, y4, y5, y6⟩ := hC
              go_simp
            simp only [Act.put, List.setIfInBounds_toArray, List.set_cons_zero, List.set_cons_succ]
            go_big_quiet_on
            go_big_quiet_want
            refine quiet_val (v := .int .i64 (y : Int)) (fun w' hC => ?_) ?_
            · obtain ⟨⟨z0, z1, z2, z3, z4, z5, z6⟩, y1, y2, y3, y4, y5, y6⟩ := hC
              go_simp
            simp only [Act.put, List.setIfInBounds_toArray, List.set_cons_zero, List.set_cons_succ]
            go_big_quiet_on
            go_big_quiet_want
            refine quiet_val (v := .bool false) (fun w' hC => ?_) ?_
            · obtain ⟨⟨z0, z1, z2, z3, z4, z5, z6⟩, y1, y2, y3, y4, y5, y6⟩ := hC
              go_simp
            simp only [Act.put, List.setIfInBounds_toArray, List.set_cons_zero, List.set_cons_succ]
            go_big_quiet_on
            go_big_quiet_want
            refine quiet_val (v := .bool false) (fun w' hC => ?_) ?_
            · obtain ⟨⟨z0, z1, z2, z3, z4, z5, z6⟩, y1, y2, y3, y4, y5, y6⟩ := hC
              go_simp
            simp only [Act.put, List.setIfInBounds_toArray, List.set_cons_zero, List.set_cons_succ]
            go_big_quiet_on
            go_big_quiet_want
            refine quiet_val (v := .agg #[.int .i64 p, .int .i64 m, .int .i64 b, .int .i64 q, .int .i64 s, .int .i64 v]) (fun w' hC => ?_) ?_
            · obtain ⟨⟨z0, z1, z2, z3, z4, z5, z6⟩, y1, y2, y3, y4, y5, y6⟩ := hC
              go_simp
            simp only [Act.put, List.setIfInBounds_toArray, List.set_cons_zero, List.set_cons_succ]
            go_big_quiet_on
            go_big_quiet_want
            refine quiet_val (v := .slice (some ⟨g, o, none⟩) n cap) (fun w' hC => ?_) ?_
            · obtain ⟨⟨z0, z1, z2, z3, z4, z5, z6⟩, y1, y2, y3, y4, y5, y6⟩ := hC
              go_simp
            simp only [Act.put, List.setIfInBounds_toArray, List.set_cons_zero, List.set_cons_succ]
            go_big_quiet_on
            go_big_quiet_want
            refine quiet_val (v := .int .i64 (y : Int)) (fun w' hC => ?_) ?_
            · obtain ⟨⟨z0, z1, z2, z3, z4, z5, z6⟩, y1, y2, y3, y4, y5, y6⟩ := hC
              go_simp
            simp only [Act.put, List.setIfInBounds_toArray, List.set_cons_zero, List.set_cons_succ]
            go_big_quiet_on
            go_big_quiet_want
            refine quiet_val (v := .pointer (some ⟨g, o + y * 6, none⟩)) (fun w' hC => ?_) ?_
            · obtain ⟨⟨z0, z1, z2, z3, z4, z5, z6⟩, y1, y2, y3, y4, y5, y6⟩ := hC
              go_simp
            simp only [Act.put, List.setIfInBounds_toArray, List.set_cons_zero, List.set_cons_succ]
            go_big_quiet_on
            go_big_quiet_want
            refine quiet_val (v := .agg #[.int .i64 p2, .int .i64 m2, .int .i64 b2, .int .i64 q2, .int .i64 s2, .int .i64 v2]) (fun w' hC => ?_) ?_
            · obtain ⟨⟨z0, z1, z2, z3, z4, z5, z6⟩, y1, y2, y3, y4, y5, y6⟩ := hC
              go_simp
            simp only [Act.put, List.setIfInBounds_toArray, List.set_cons_zero, List.set_cons_succ]
            go_big_quiet_on
            go_big_quiet_want
            refine quiet_call (f := 80) (args := #[.agg #[.int .i64 p, .int .i64 m, .int .i64 b, .int .i64 q, .int .i64 s, .int .i64 v], .agg #[.int .i64 p2, .int .i64 m2, .int .i64 b2, .int .i64 q2, .int .i64 s2, .int .i64 v2]]) (v := .int .i64 (ordN p m b p2 m2 b2)) (fun w' => ?_) (fun w' hC => (order_any p m b q s v p2 m2 b2 q2 s2 v2 w').mono (fun e w2 h2 => ⟨h2.1, CB.later h2.2 hC⟩)) ?_
            · go_simp
            simp only [Act.put, List.setIfInBounds_toArray, List.set_cons_zero, List.set_cons_succ]
            go_big_quiet_on
            go_big_quiet_want
            refine quiet_val (v := .bool (decide (0 < ordN p m b p2 m2 b2))) (fun w' hC => ?_) ?_
            · obtain ⟨⟨z0, z1, z2, z3, z4, z5, z6⟩, y1, y2, y3, y4, y5, y6⟩ := hC
              go_simp
            simp only [Act.put, List.setIfInBounds_toArray, List.set_cons_zero, List.set_cons_succ]
            go_big_quiet_on
            go_big_quiet_want
            refine quiet_val (v := .bool (decide (0 < ordN p m b p2 m2 b2))) (fun w' hC => ?_) ?_
            · obtain ⟨⟨z0, z1, z2, z3, z4, z5, z6⟩, y1, y2, y3, y4, y5, y6⟩ := hC
              go_simp
            simp only [Act.put, List.setIfInBounds_toArray, List.set_cons_zero, List.set_cons_succ]
            go_big_quiet_on
            go_big_quiet_want
            refine quiet_val (v := .bool (decide (0 < ordN p m b p2 m2 b2))) (fun w' hC => ?_) ?_
            · obtain ⟨⟨z0, z1, z2, z3, z4, z5, z6⟩, y1, y2, y3, y4, y5, y6⟩ := hC
              go_simp
            simp only [Act.put, List.setIfInBounds_toArray, List.set_cons_zero, List.set_cons_succ]
            go_big_quiet_on
            refine wpQuiet_nil ?_
            intro w' hC
            go_wp2_with fail
            go_meet
            case rel => exact ⟨rfl, by rw [HYL.out]; simp [cntB, hh, hx2, ordR]; first | rfl | exact decide_eq_decide.2 Iff.rfl, hC.1.1⟩
      case rest =>
        obtain ⟨rfl, hc2, hB2⟩ := hcut
        have HB1 := HB.out.trans (hB2.mono HB.out.size)
        have HY := be_next (L := L) (h := h) (k := k) x HX.out _ rfl
        rw [HK.out] at HY
        have HYY : Hid (beTo L h (k + 1) = if cntB m b h x (ordR ⟨p, m, b, q, s, v⟩ (L.getD x.toNat zeR)) then (k : Int) else x) := HY
        clear HY hB2 HA HCC
        generalize cntB m b h x (ordR ⟨p, m, b, q, s, v⟩ (L.getD x.toNat zeR)) = Y at *
        subst hc2
        cases Y
        · go_wp2
          go_roundw
          case rel => exact ⟨k + 1, by omega, by rw [HYY.out]; rfl, by go_num, HB1⟩
          case measure => simp [intOf]; omega
        · go_wp2
          go_roundw
          case rel => exact ⟨k + 1, by omega, by rw [HYY.out]; rfl, by go_num, HB1⟩
          case measure => simp [intOf]; omega
    · obtain rfl : k = n := by omega
      go_wp2
      go_ret
      exact ⟨by rw [← HX.out]; rfl, HB.out⟩

set_option maxHeartbeats 1000000 in
theorem counting_nil (ao : Option Addr) (cap : Nat) (h : Int) (w : World) :
    Calls Tryd.prog 59 #[.slice ao 0 cap, .int .i64 h] w fun e w' => e = .returned (.int .i64 (-1)) ∧ Below w.heap.size w w' := by
  go_enter Tryd.func59, Tryd.ntmps59
  go_wp2
  go_loopw [5, 10] (fun x i wr => x = .int .i64 (-1) ∧ i = .int .i64 0 ∧ wr = w) (fun _ i _ => 0)
  case atStart => exact ⟨rfl, rfl, rfl⟩
  case round =>
    obtain ⟨rfl, rfl, rfl⟩ := hrel
    go_wp2
    go_ret
    exact ⟨rfl, Below.refl _ _⟩

theorem counting_any (x : Value) (L : List Ru) (h : Int) (w : World) (hs : SR w x L) :
    Calls Tryd.prog 59 #[x, .int .i64 h] w fun e w' => e = .returned (.int .i64 (beTo L h L.length)) ∧ Below w.heap.size w w' := by
  rcases hs with ⟨ao, cap, rfl, rfl⟩ | ⟨g, o, cap, rfl, h1, h2, hc⟩
  · exact counting_nil ao cap h w
  · exact counting_some g o cap _ h L w hc rfl (Nat.le_trans h1 h2)

end Go.Proofs.YtpmcjelihdlfeaaDoor
/- What Apply of package rule answers, called with any rule and header. -/
namespace Go.Proofs.YtpmcjelihdlfeaaDoor
open Go.RowKit
set_option linter.unusedSimpArgs false

set_option maxHeartbeats 1000000 in
theorem apply_any (p m b o s v h : Int) (w : World) :
    Calls Tryd.prog 60 #[.agg #[.int .i64 p, .int .i64 m, .int .i64 b, .int .i64 o, .int .i64 s, .int .i64 v], .int .i64 h] w fun e w' => e = .returned (.tuple #[.int .i64 (apR p m b o s v h), noV (apN p m b o s v h)]) ∧ Below w.heap.size w w' := by
  cases hr : ruOk p m b o s v
  · have hn := ruN_ne hr
    rw [apR_bad (by rw [apN_bad h hr]; exact hn), apN_bad h hr, no_ne hn]
    go_enter Tryd.func60, Tryd.ntmps60
    go_wp2_with fail
    refine (ruCheck_any _ _ _ _ _ _ _).mono ?_
    rintro e w1 ⟨rfl, hb1⟩
    rw [no_ne hn]
    go_wp2
    refine bodyPost_ret (v := .tuple #[.int .i64 0, .iface 75 (.int .i64 (ruN p m b o s v))]) (by simp [results, Tryd.results60, go_sem]) rfl ⟨rfl, ?_⟩
    exact ((Below.refl _ _).alloc (Nat.le_refl _) _).trans (hb1.mono (by simp))
  · have hn := ruN_ok hr
    cases hh : hdrB h
    · have e : apN p m b o s v h = 1 := by simp [apN, hr, hh]
      rw [apR_bad (by rw [e]; decide), e]
      clear e
      go_enter Tryd.func60, Tryd.ntmps60
      go_wp2_with fail
      refine (ruCheck_any _ _ _ _ _ _ _).mono ?_
      rintro e w1 ⟨rfl, hb1⟩
      rw [no_ok hn]
      go_wp2_with fail
      refine (isHeader_no _ _ hh).mono ?_
      rintro e w' ⟨rfl, rfl⟩
      go_wp2
      refine bodyPost_ret (v := .tuple #[.int .i64 0, .iface 75 (.int .i64 1)]) (by simp [results, Tryd.results60, go_sem]) rfl ⟨rfl, ?_⟩
      exact ((Below.refl _ _).alloc (Nat.le_refl _) _).trans (hb1.mono (by simp))
    · have hlt : w.heap.size < (w.alloc (Obj.cells #[Value.int IntKind.i64 p, Value.int IntKind.i64 m, Value.int IntKind.i64 b, Value.int IntKind.i64 o, Value.int IntKind.i64 s, Value.int IntKind.i64 v] 47)).heap.size := by simp
      cases ha : hasB m b h
      · have e : apN p m b o s v h = 5 := by simp [apN, hr, hh, ha]
        rw [apR_bad (by rw [e]; decide), e]
        clear e
        go_enter Tryd.func60, Tryd.ntmps60
        go_wp2_with fail
        refine (ruCheck_any _ _ _ _ _ _ _).mono ?_
        rintro e w1 ⟨rfl, hb1⟩
        rw [no_ok hn]
        obtain ⟨hc1, hf1⟩ := bcell hb1
        have hB := ((Below.refl w.heap.size w).alloc (Nat.le_refl _) (Obj.cells #[Value.int IntKind.i64 p, Value.int IntKind.i64 m, Value.int IntKind.i64 b, Value.int IntKind.i64 o, Value.int IntKind.i64 s, Value.int IntKind.i64 v] 47)).trans (hb1.mono (by simp))
        have hlt2 : w.heap.size < w1.heap.size := by have := hb1.size; omega
        clear hb1
        go_wp2_with fail
        refine (isHeader_yes _ _ hh).mono ?_
        rintro e w' ⟨rfl, rfl⟩
        go_wp2_with fail
        refine (has_any _ _ _ _).mono ?_
        rintro e w2 ⟨rfl, hb2⟩
        rw [ha]
        obtain ⟨hc2, hf2⟩ := bcell hb2
        have hB2 := hB.trans (hb2.mono (by omega))
        clear hb2 hB
        go_wp2
        refine bodyPost_ret (v := .tuple #[.int .i64 0, .iface 75 (.int .i64 5)]) (by simp [results, Tryd.results60, go_sem]) rfl ⟨rfl, ?_⟩
        exact hB2
      · cases ho : (o == 0)
        · have e : apN p m b o s v h = 0 := by simp [apN, hr, hh, ha, ho]
          have e2 : apR p m b o s v h = apV s v h := by simp [apR, e]
          rw [e2, e]
          clear e e2
          go_enter Tryd.func60, Tryd.ntmps60
          go_wp2_with fail
          refine (ruCheck_any _ _ _ _ _ _ _).mono ?_
          rintro e w1 ⟨rfl, hb1⟩
          rw [no_ok hn]
          obtain ⟨hc1, hf1⟩ := bcell hb1
          have hB := ((Below.refl w.heap.size w).alloc (Nat.le_refl _) (Obj.cells #[Value.int IntKind.i64 p, Value.int IntKind.i64 m, Value.int IntKind.i64 b, Value.int IntKind.i64 o, Value.int IntKind.i64 s, Value.int IntKind.i64 v] 47)).trans (hb1.mono (by simp))
          have hlt2 : w.heap.size < w1.heap.size := by have := hb1.size; omega
          clear hb1
          go_wp2_with fail
          refine (isHeader_yes _ _ hh).mono ?_
          rintro e w' ⟨rfl, rfl⟩
          go_wp2_with fail
          refine (has_any _ _ _ _).mono ?_
          rintro e w2 ⟨rfl, hb2⟩
          rw [ha]
          obtain ⟨hc2, hf2⟩ := bcell hb2
          have hB2 := hB.trans (hb2.mono (by omega))
          clear hb2 hB
          go_wp2
          refine bodyPost_ret (v := .tuple #[.int .i64 (apV s v h), .nilIface]) (by simp [results, Tryd.results60, go_sem, apV]) rfl ⟨rfl, ?_⟩
          exact hB2
        · have e : apN p m b o s v h = 5 := by simp [apN, hr, hh, ha, ho]
          rw [apR_bad (by rw [e]; decide), e]
          clear e
          go_enter Tryd.func60, Tryd.ntmps60
          go_wp2_with fail
          refine (ruCheck_any _ _ _ _ _ _ _).mono ?_
          rintro e w1 ⟨rfl, hb1⟩
          rw [no_ok hn]
          obtain ⟨hc1, hf1⟩ := bcell hb1
          have hB := ((Below.refl w.heap.size w).alloc (Nat.le_refl _) (Obj.cells #[Value.int IntKind.i64 p, Value.int IntKind.i64 m, Value.int IntKind.i64 b, Value.int IntKind.i64 o, Value.int IntKind.i64 s, Value.int IntKind.i64 v] 47)).trans (hb1.mono (by simp))
          have hlt2 : w.heap.size < w1.heap.size := by have := hb1.size; omega
          clear hb1
          go_wp2_with fail
          refine (isHeader_yes _ _ hh).mono ?_
          rintro e w' ⟨rfl, rfl⟩
          go_wp2_with fail
          refine (has_any _ _ _ _).mono ?_
          rintro e w2 ⟨rfl, hb2⟩
          rw [ha]
          obtain ⟨hc2, hf2⟩ := bcell hb2
          have hB2 := hB.trans (hb2.mono (by omega))
          clear hb2 hB
          go_wp2
          refine bodyPost_ret (v := .tuple #[.int .i64 0, .iface 75 (.int .i64 5)]) (by simp [results, Tryd.results60, go_sem]) rfl ⟨rfl, ?_⟩
          exact hB2
end Go.Proofs.YtpmcjelihdlfeaaDoor
