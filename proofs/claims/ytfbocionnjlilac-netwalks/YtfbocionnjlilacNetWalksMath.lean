/- What NetWalks asks of the hops of a packet: plain lists. No program in it. -/
import Derived.Test.YtfbocionnjlilacNetMath4
namespace Go.Proofs.Ytfbocionnjlilac
open Go.RowKit
set_option linter.unusedVariables false
set_option linter.unusedSimpArgs false

/-- The fact that is tried first. -/
theorem walks_one : seN 1 [] [(⟨#[97]⟩, (1, 2))] [[⟨1, 0, 0, 2, 0, 0⟩]] ⟨#[97]⟩ 5 = 0 ∧ (seV 1 [] [(⟨#[97]⟩, (1, 2))] [[⟨1, 0, 0, 2, 0, 0⟩]] ⟨#[97]⟩ 5).1 = 1 ∧ (seV 1 [] [(⟨#[97]⟩, (1, 2))] [[⟨1, 0, 0, 2, 0, 0⟩]] ⟨#[97]⟩ 5).2.1.data = #[97] ∧ (seV 1 [] [(⟨#[97]⟩, (1, 2))] [[⟨1, 0, 0, 2, 0, 0⟩]] ⟨#[97]⟩ 5).2.2.length = 1 := by decide +kernel
section
variable {S : Int} {Ls : List ((Int × Int) × (Int × Int))} {Hs : List (ByteArray × (Int × Int))} {Ts : List (List Ru)} {s : Int × Int} {h : Int}
/-- What is so of what becomes of a packet in a right net. -/
structure WF (S : Int) (Ls : List ((Int × Int) × (Int × Int))) (Hs : List (ByteArray × (Int × Int))) (Ts : List (List Ru)) (s : Int × Int) (h : Int) (V : Int × ByteArray × List ((Int × Int) × Int)) : Prop where
  l1 : 0 < V.2.2.length
  l24 : V.2.2.length ≤ 24
  nd : V.2.2.Nodup
  ch : ChH Ls Hs Ts V.2.2
  en : enE Ls Hs Ts V.2.2 (laH V.2.2) = .inl (V.1, V.2.1)
  at0 : atH V.2.2 0 = (s, h)
  good : ∀ i, i < V.2.2.length → cpN S Ls Hs Ts (atH V.2.2 i).1 (atH V.2.2 i).2 = 0
theorem cp_mk (h1 : ntN S Ls Hs Ts = 0) (h2 : spB S s = true) (h3 : hdrB h = true) : cpN S Ls Hs Ts s h = 0 := by
  rw [cpN, if_pos h1, h2, h3]
  rfl
theorem wf_of (hc : cpN S Ls Hs Ts s h = 0) : WF S Ls Hs Ts s h (frF Ls Hs Ts s h) := by
  obtain ⟨h1, h2, h3⟩ := cp_0 hc
  have hch : ChH Ls Hs Ts [(s, h)] := fun i hi => by simp at hi
  obtain ⟨rest, e1, e2, e3, e4, e5⟩ := fo_spec (Ls := Ls) (Hs := Hs) (Ts := Ts) 24 [(s, h)] (by simp) (by simp) (by omega) (by simp) hch
  have hl : 0 < (frF Ls Hs Ts s h).2.2.length := by
    show 0 < (foF Ls Hs Ts 24 [(s, h)]).2.2.length
    rw [e1]
    simp
  have h0 : atH (frF Ls Hs Ts s h).2.2 0 = (s, h) := by
    show atH (foF Ls Hs Ts 24 [(s, h)]).2.2 0 = _
    rw [e1]
    rfl
  refine ⟨hl, e2, e3, e4, e5, h0, ?_⟩
  intro i
  cases i with
  | zero =>
    intro _
    rw [h0]
    exact hc
  | succ i =>
    intro hi
    have hn := e4 i hi
    obtain ⟨g1, g2⟩ := nx_good (nt_0 h1).1 hn
    exact cp_mk h1 g1 g2
variable {V : Int × ByteArray × List ((Int × Int) × Int)}
/-- The last hop: it goes nowhere just if it is dropped. -/
theorem wf_last (hw : WF S Ls Hs Ts s h V) (hn : ntN S Ls Hs Ts = 0) : (spN S Ls Hs Ts (laH V.2.2).1 (laH V.2.2).2 ≠ 0 ↔ V.1 = 2) ∧ (V.1 = 1 ↔ V.2.1 ≠ ByteArray.empty) := by
  have he := en_end hw.en (name_ne (nt_0 hn).1)
  have hg := hw.good (V.2.2.length - 1) (by have := hw.l1; omega)
  rw [← la_at] at hg
  refine ⟨?_, he.2⟩
  rw [← he.1, spN, if_pos hg]
  cases hs : stO Ts ((laH V.2.2).1, (laH V.2.2).2) with
  | none => 
    have e : stO Ts (laH V.2.2) = none := hs
    simp [e]
  | some q =>
    have e : stO Ts (laH V.2.2) = some q := hs
    simp [e]
/-- A hop that is not the last: it goes on. -/
theorem wf_next (hw : WF S Ls Hs Ts s h V) (hn : ntN S Ls Hs Ts = 0) {i : Nat} (hi : i + 1 < V.2.2.length) :
    spN S Ls Hs Ts (atH V.2.2 i).1 (atH V.2.2 i).2 = 0 ∧ peN S Ls Hs (spV S Ls Hs Ts (atH V.2.2 i).1 (atH V.2.2 i).2).1 = 0 ∧ peV S Ls Hs (spV S Ls Hs Ts (atH V.2.2 i).1 (atH V.2.2 i).2).1 = (atH V.2.2 (i + 1)).1 ∧ (spV S Ls Hs Ts (atH V.2.2 i).1 (atH V.2.2 i).2).2 = (atH V.2.2 (i + 1)).2 := by
  have hg := hw.good i (by omega)
  obtain ⟨o, h1, h2, h3, h4⟩ := hw.ch i hi
  have h1' : stO Ts ((atH V.2.2 i).1, (atH V.2.2 i).2) = some o := h1
  have ht := (nt_0 hn).1
  have e1 : spN S Ls Hs Ts (atH V.2.2 i).1 (atH V.2.2 i).2 = 0 := by
    rw [spN, if_pos hg, h1']
    rfl
  have e2 : spV S Ls Hs Ts (atH V.2.2 i).1 (atH V.2.2 i).2 = o := by
    rw [spV, if_pos hg, h1']
    rfl
  rw [e2]
  have hsp : spB S o.1 = true := (tp_0 ht).2.2.1 o.1 (peer_in h3).1
  have hcs : csN S Ls Hs o.1 = 0 := by
    rw [csN, if_pos ht, hsp]
    rfl
  have hpe : peN S Ls Hs o.1 = 0 := by
    rw [peN, if_pos hcs, h3]
    rfl
  refine ⟨e1, hpe, ?_, h4.symm⟩
  rw [peV, if_pos hpe, h3]
  rfl
/-- From any hop on it ends likewise. -/
theorem wf_cut (hw : WF S Ls Hs Ts s h V) (h4 : V.1 ≠ 4) {k : Nat} (hk : k < V.2.2.length) :
    (frV S Ls Hs Ts (atH V.2.2 k).1 (atH V.2.2 k).2).1 = V.1 ∧ (frV S Ls Hs Ts (atH V.2.2 k).1 (atH V.2.2 k).2).2.1 = V.2.1 ∧ (frV S Ls Hs Ts (atH V.2.2 k).1 (atH V.2.2 k).2).2.2.length = V.2.2.length - k := by
  have hg := hw.good k hk
  have e : frV S Ls Hs Ts (atH V.2.2 k).1 (atH V.2.2 k).2 = foF Ls Hs Ts 24 [atH V.2.2 k] := by
    rw [frV, if_pos hg]
    rfl
  rw [e]
  have h := fo_tail hw.nd hw.ch hw.l24 hw.en h4 (V.2.2.length - k - 1) k [atH V.2.2 k] 24 (by omega) (by simp) (by simp) rfl (by
    intro x hx
    simp only [List.mem_singleton] at hx
    exact ⟨k, Nat.le_refl _, hx⟩) (by have := hw.l24; omega)
  refine ⟨h.1, h.2.1, ?_⟩
  rw [h.2.2]
  simp
  omega
end
end Go.Proofs.Ytfbocionnjlilac
