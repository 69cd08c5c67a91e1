/- What becomes of a packet, hop by hop: plain lists. No program in it. -/
import Derived.Test.YtfbocionnjliladNetMath
namespace Go.Proofs.Ytfbocionnjlilad
open Go.RowKit
set_option linter.unusedVariables false

section
variable {Ls : List ((Int × Int) × (Int × Int))} {Hs : List (ByteArray × (Int × Int))} {Ts : List (List Ru)}
/-- One hop is behind the other. -/
def NxH (Ls : List ((Int × Int) × (Int × Int))) (Hs : List (ByteArray × (Int × Int))) (Ts : List (List Ru)) (p q : (Int × Int) × Int) : Prop := ∃ o, stO Ts p = some o ∧ atO Hs o.1 = none ∧ peerO Ls o.1 = some q.1 ∧ q.2 = o.2
def atH (l : List ((Int × Int) × Int)) (i : Nat) : (Int × Int) × Int := l.getD i zeH
def ChH (Ls : List ((Int × Int) × (Int × Int))) (Hs : List (ByteArray × (Int × Int))) (Ts : List (List Ru)) (l : List ((Int × Int) × Int)) : Prop := ∀ i, i + 1 < l.length → NxH Ls Hs Ts (atH l i) (atH l (i + 1))
/-- What it comes to at the last of these hops. -/
def enE (Ls : List ((Int × Int) × (Int × Int))) (Hs : List (ByteArray × (Int × Int))) (Ts : List (List Ru)) (l : List ((Int × Int) × Int)) (p : (Int × Int) × Int) : (Int × ByteArray) ⊕ ((Int × Int) × Int) := goE Ls Hs (taT Ts p.1.1) l p
theorem la_at (l : List ((Int × Int) × Int)) : laH l = atH l (l.length - 1) := rfl
theorem at_app (l : List ((Int × Int) × Int)) (p : (Int × Int) × Int) : atH (l ++ [p]) l.length = p := by simp [atH, List.getD]
theorem at_lt {l : List ((Int × Int) × Int)} (m : List ((Int × Int) × Int)) {i : Nat} (h : i < l.length) : atH (l ++ m) i = atH l i := by simp [atH, List.getD, List.getElem?_append_left h]
theorem at_in {l : List ((Int × Int) × Int)} {i : Nat} (h : i < l.length) : atH l i ∈ l := by
  have e : atH l i = l[i] := by simp [atH, List.getD, h]
  rw [e]
  exact List.getElem_mem h
theorem en_r {l : List ((Int × Int) × Int)} {p q : (Int × Int) × Int} (h : enE Ls Hs Ts l p = .inr q) : NxH Ls Hs Ts p q ∧ l.length ≠ 24 ∧ q ∉ l := by
  unfold enE goE at h
  cases hs : stT (taT Ts p.1.1) p with
  | none => rw [hs] at h; cases h
  | some o =>
    rw [hs] at h
    simp only at h
    cases ha : atO Hs o.1 with
    | some m => rw [ha] at h; cases h
    | none =>
      rw [ha] at h
      simp only at h
      cases hp : peerO Ls o.1 with
      | none => rw [hp] at h; cases h
      | some s =>
        rw [hp] at h
        simp only at h
        split at h
        · cases h
        · next hn =>
          cases h
          rw [not_or] at hn
          refine ⟨⟨o, hs, ha, hp, rfl⟩, hn.1, fun hm => hn.2 ?_⟩
          exact List.any_eq_true.2 ⟨_, hm, (heB_iff _ _).2 rfl⟩
/-- A next hop that is not there yet is one. -/
theorem en_go {l : List ((Int × Int) × Int)} {p q : (Int × Int) × Int} (h : NxH Ls Hs Ts p q) (h24 : l.length ≠ 24) (hq : q ∉ l) : enE Ls Hs Ts l p = .inr q := by
  obtain ⟨o, h1, h2, h3, h4⟩ := h
  unfold enE goE
  rw [show stT (taT Ts p.1.1) p = some o from h1]
  simp only [h2, h3]
  rw [if_neg]
  · obtain ⟨q1, q2⟩ := q
    simp only at h4
    rw [h4]
  · rw [not_or]
    refine ⟨h24, fun hm => hq ?_⟩
    obtain ⟨x, hx, e⟩ := List.any_eq_true.1 hm
    have e2 := (heB_iff _ _).1 e
    obtain ⟨q1, q2⟩ := q
    simp only at h4
    rw [h4, e2]
    exact hx
/-- An end that is no loop is one whatever was there. -/
theorem en_l {l : List ((Int × Int) × Int)} {p : (Int × Int) × Int} {e : Int × ByteArray} (h : enE Ls Hs Ts l p = .inl e) (h4 : e.1 ≠ 4) (m : List ((Int × Int) × Int)) : enE Ls Hs Ts m p = .inl e := by
  unfold enE goE at h ⊢
  cases hs : stT (taT Ts p.1.1) p with
  | none => rw [hs] at h; exact h
  | some o =>
    rw [hs] at h
    simp only at h ⊢
    cases ha : atO Hs o.1 with
    | some m => rw [ha] at h; exact h
    | none =>
      rw [ha] at h
      simp only at h ⊢
      cases hp : peerO Ls o.1 with
      | none => rw [hp] at h; exact h
      | some s =>
        rw [hp] at h
        simp only at h
        split at h
        · cases h
          exact absurd rfl h4
        · cases h
/-- An end, in words. -/
theorem en_end {l : List ((Int × Int) × Int)} {p : (Int × Int) × Int} {e : Int × ByteArray} (h : enE Ls Hs Ts l p = .inl e) (hn : ∀ x ∈ Hs, x.1 ≠ ByteArray.empty) : (stO Ts p = none ↔ e.1 = 2) ∧ (e.1 = 1 ↔ e.2 ≠ ByteArray.empty) := by
  unfold enE goE at h
  unfold stO
  cases hs : stT (taT Ts p.1.1) p with
  | none => rw [hs] at h; cases h; simp
  | some o =>
    rw [hs] at h
    simp only at h
    cases ha : atO Hs o.1 with
    | some m =>
      rw [ha] at h
      cases h
      refine ⟨by simp, fun _ => ?_, fun _ => rfl⟩
      rcases at_ix Hs o.1 with ⟨_, h0⟩ | ⟨k, hk, _, h1⟩
      · rw [ha] at h0; cases h0
      · rw [ha] at h1
        cases h1
        exact hn _ (List.getElem_mem hk)
    | none =>
      rw [ha] at h
      simp only at h
      cases hp : peerO Ls o.1 with
      | none => rw [hp] at h; cases h; simp
      | some s =>
        rw [hp] at h
        simp only at h
        split at h
        · cases h; simp
        · cases h
theorem fo_s (n : Nat) (l : List ((Int × Int) × Int)) : foF Ls Hs Ts (n + 1) l = match enE Ls Hs Ts l (laH l) with | .inl e => (e.1, e.2, l) | .inr p => foF Ls Hs Ts n (l ++ [p]) := rfl
/-- What is so of the hops that are told. -/
theorem fo_spec : ∀ (n : Nat) (l : List ((Int × Int) × Int)), 0 < l.length → l.length + n = 25 → 1 ≤ n → l.Nodup → ChH Ls Hs Ts l →
    ∃ rest, (foF Ls Hs Ts n l).2.2 = l ++ rest ∧ (foF Ls Hs Ts n l).2.2.length ≤ 24 ∧ (foF Ls Hs Ts n l).2.2.Nodup ∧ ChH Ls Hs Ts (foF Ls Hs Ts n l).2.2 ∧
      enE Ls Hs Ts (foF Ls Hs Ts n l).2.2 (laH (foF Ls Hs Ts n l).2.2) = .inl ((foF Ls Hs Ts n l).1, (foF Ls Hs Ts n l).2.1)
  | 0, l, _, _, h, _, _ => by omega
  | n + 1, l, h0, hl, _, hd, hc => by
    rw [fo_s]
    cases he : enE Ls Hs Ts l (laH l) with
    | inl e => exact ⟨[], by simp, by simp only; omega, hd, hc, he⟩
    | inr p =>
      obtain ⟨h1, h2, h3⟩ := en_r he
      simp only
      have hl2 : l.length < 24 := by omega
      have hd2 : (l ++ [p]).Nodup := by
        rw [List.nodup_append]
        refine ⟨hd, by simp, fun a ha b hb e => ?_⟩
        simp only [List.mem_singleton] at hb
        subst hb
        subst e
        exact h3 ha
      have hc2 : ChH Ls Hs Ts (l ++ [p]) := by
        intro i hi
        simp only [List.length_append, List.length_cons, List.length_nil] at hi
        by_cases e : i + 1 = l.length
        · rw [at_lt _ (show i < l.length by omega), e, at_app]
          rw [la_at] at h1
          have : i = l.length - 1 := by omega
          rw [this]
          exact h1
        · rw [at_lt _ (show i < l.length by omega), at_lt _ (show i + 1 < l.length by omega)]
          exact hc i (by omega)
      obtain ⟨rest, e1, e2⟩ := fo_spec n (l ++ [p]) (by simp) (by simp; omega) (by omega) hd2 hc2
      exact ⟨p :: rest, by rw [e1]; simp, e2⟩
/-- From any of the hops on it ends likewise. -/
theorem fo_tail {L : List ((Int × Int) × Int)} {e : Int × ByteArray} (hd : L.Nodup) (hc : ChH Ls Hs Ts L) (h24 : L.length ≤ 24) (he : enE Ls Hs Ts L (laH L) = .inl e) (h4 : e.1 ≠ 4) :
    ∀ (r k : Nat) (m : List ((Int × Int) × Int)) (n : Nat), k + 1 + r = L.length → 0 < m.length → m.length ≤ k + 1 → laH m = atH L k → (∀ x ∈ m, ∃ j, j ≤ k ∧ x = atH L j) → r < n →
      (foF Ls Hs Ts n m).1 = e.1 ∧ (foF Ls Hs Ts n m).2.1 = e.2 ∧ (foF Ls Hs Ts n m).2.2.length = m.length + r
  | r, k, m, 0, _, _, _, _, _, hn => by omega
  | 0, k, m, n + 1, hk, hm, hmk, hla, hin, hn => by
    rw [fo_s]
    have : laH m = laH L := by
      rw [hla, la_at]
      congr 1
      omega
    rw [this, en_l he h4 m]
    exact ⟨rfl, rfl, by simp⟩
  | r + 1, k, m, n + 1, hk, hm, hmk, hla, hin, hn => by
    rw [fo_s]
    have hnx := hc k (by omega)
    have hq : atH L (k + 1) ∉ m := by
      intro hx
      obtain ⟨j, hj, e2⟩ := hin _ hx
      have e3 : L[k + 1]'(by omega) = L[j]'(by omega) := by
        have a1 : atH L (k + 1) = L[k + 1]'(by omega) := by
          have : k + 1 < L.length := by omega
          simp [atH, List.getD, this]
        have a2 : atH L j = L[j]'(by omega) := by
          have : j < L.length := by omega
          simp [atH, List.getD, this]
        rw [← a1, ← a2]
        exact e2
      have := (List.getElem_inj hd).1 e3
      omega
    rw [hla, en_go hnx (by omega) hq]
    simp only
    have h := fo_tail hd hc h24 he h4 r (k + 1) (m ++ [atH L (k + 1)]) n (by omega) (by simp) (by simp; omega) (by
      rw [la_at]
      simp only [List.length_append, List.length_cons, List.length_nil, Nat.add_sub_cancel]
      exact at_app _ _) (by
      intro x hx
      rw [List.mem_append] at hx
      rcases hx with hx | hx
      · obtain ⟨j, hj, e2⟩ := hin x hx
        exact ⟨j, by omega, e2⟩
      · simp only [List.mem_singleton] at hx
        exact ⟨k + 1, Nat.le_refl _, hx⟩) (by omega)
    refine ⟨h.1, h.2.1, ?_⟩
    rw [h.2.2]
    simp
    omega
end
end Go.Proofs.Ytfbocionnjlilad
