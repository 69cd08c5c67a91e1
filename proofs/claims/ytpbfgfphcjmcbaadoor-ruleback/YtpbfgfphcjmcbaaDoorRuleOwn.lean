/- Rows of rules that a call owns; a table that came in. -/
import Derived.Test.YtpbfgfphcjmcbaaDoorRuleTab
import Derived.Test.YtpbfgfphcjmcbaaDoorRuleOf
import Derived.Test.YtpbfgfphcjmcbaaDoorOwnRow
import Derived.Deep.Slices
namespace Go.Proofs.YtpbfgfphcjmcbaaDoor
open Go.ChangeShapes Go.WideShapes Go.ChangeAt Go.RowKit

/-- The cells of rules. -/
def cellsR (L : List Ru) : List Value := L.flatMap fun r => [.int .i64 r.p, .int .i64 r.m, .int .i64 r.b, .int .i64 r.o, .int .i64 r.s, .int .i64 r.v]
theorem cellsR_len (L : List Ru) : (cellsR L).length = L.length * 6 := by
  induction L with
  | nil => rfl
  | cons p r ih => simp only [cellsR, List.flatMap_cons, List.length_append, List.length_cons, List.length_nil] at *; omega
theorem cellsR_app (L M : List Ru) : cellsR (L ++ M) = cellsR L ++ cellsR M := by simp [cellsR]
theorem cellsR_at (L : List Ru) (i : Nat) (h : i < L.length) : (cellsR L)[i * 6]? = some (.int .i64 (L[i]).p) ∧ (cellsR L)[i * 6 + 1]? = some (.int .i64 (L[i]).m) ∧ (cellsR L)[i * 6 + 2]? = some (.int .i64 (L[i]).b) ∧
    (cellsR L)[i * 6 + 3]? = some (.int .i64 (L[i]).o) ∧ (cellsR L)[i * 6 + 4]? = some (.int .i64 (L[i]).s) ∧ (cellsR L)[i * 6 + 5]? = some (.int .i64 (L[i]).v) := by
  induction L generalizing i with
  | nil => simp at h
  | cons p r ih =>
    cases i with
    | zero => simp [cellsR]
    | succ i =>
      have := ih i (by simpa using h)
      have e1 : (i + 1) * 6 = i * 6 + 1 + 1 + 1 + 1 + 1 + 1 := by omega
      simpa [cellsR, e1] using this
theorem cellsR_one (L : List Ru) : ∀ u ∈ cellsR L, u.oneCell' = true := by
  intro u hu
  simp only [cellsR, List.mem_flatMap] at hu
  obtain ⟨p, _, hp⟩ := hu
  simp at hp
  rcases hp with rfl | rfl | rfl | rfl | rfl | rfl <;> rfl
/-- What a call owns may be read. -/
theorem own_SR {w : World} {B e : Nat} {v : Value} {L : List Ru} (h : w.ownsRow B e 6 v L.length (cellsR L)) : SR w v L := by
  rcases h.2 with ⟨rfl, h0⟩ | ⟨g, cap, cur, rfl, _, _, h1, h2, _⟩
  · exact .inl ⟨none, 0, rfl, List.length_eq_zero_iff.1 h0⟩
  · refine .inr ⟨g, 0, cap, rfl, h1, h2, fun i hi => ?_⟩
    obtain ⟨a0, a1, a2, a3, a4, a5⟩ := cellsR_at L i hi
    refine ⟨?_, ?_, ?_, ?_, ?_, ?_⟩
    · have := h.cellAt (i * 6) (by omega)
      rw [a0] at this
      simpa using this
    · have := h.cellAt (i * 6 + 1) (by omega)
      rw [a1] at this
      simpa using this
    · have := h.cellAt (i * 6 + 2) (by omega)
      rw [a2] at this
      simpa using this
    · have := h.cellAt (i * 6 + 3) (by omega)
      rw [a3] at this
      simpa using this
    · have := h.cellAt (i * 6 + 4) (by omega)
      rw [a4] at this
      simpa using this
    · have := h.cellAt (i * 6 + 5) (by omega)
      rw [a5] at this
      simpa using this
theorem infoRule : (Tryd.prog.info? 25).map (fun i => (i.zero, i.size, i.bytes)) = some (some (.agg #[.int .i64 0, .int .i64 0, .int .i64 0, .int .i64 0, .int .i64 0, .int .i64 0]), 6, 48) := by kernel_rfl
theorem sixCells : (Value.agg #[.int .i64 0, .int .i64 0, .int .i64 0, .int .i64 0, .int .i64 0, .int .i64 0]).cells.size = 6 := by simp [Value.cells]
theorem own_pushR {W : World} {B e : Nat} {v : Value} {out : List Ru} {p m b o s x : Int} (h : W.ownsRow B e 6 v (out.length + 1) (cellsR out ++ [.int .i64 p, .int .i64 m, .int .i64 b, .int .i64 o, .int .i64 s, .int .i64 x])) :
    W.ownsRow B e 6 v (out ++ [(⟨p, m, b, o, s, x⟩ : Ru)]).length (cellsR (out ++ [(⟨p, m, b, o, s, x⟩ : Ru)])) := by
  have e1 : (out ++ [(⟨p, m, b, o, s, x⟩ : Ru)]).length = out.length + 1 := by simp
  rw [e1, cellsR_app]
  exact h

set_option maxRecDepth 100000 in
/-- A table that came in lies where its slice says. -/
theorem rules_of {H : Type} {enc : TypeId × Value → H} {W : World} {base : Nat} {v : Value} {d : DataW H} {p : List MemPlace}
    (hv : Value.okWide Tryd.prog W .any base 27 v) (h : DataW.Trod enc Tryd.prog W 0 (fun _ => true) true 27 v d p) : ∃ L, SR W v L := by
  obtain ⟨a0, len0, cap0, rfl⟩ := okWide_slice Tryd.underlying27 hv
  obtain ⟨fuel, hf⟩ := h
  have hf2 : DataW.trod enc Tryd.prog W 0 (fun _ => true) true fuel 27 [.slice a0 len0 cap0] = some (d, p) := hf
  rcases Go.Deep.open_slice Tryd.underlying27 hf2 with ⟨hc, hx⟩ | ⟨a, len, cap, m, k, D, Pl, hc, _, hl, hm, hmm, hx, hall⟩
  · simp only [List.cons.injEq, and_true, Value.slice.injEq] at hc
    obtain ⟨rfl, rfl, rfl⟩ := hc
    exact ⟨[], .inl ⟨none, 0, rfl, rfl⟩⟩
  · simp only [List.cons.injEq, and_true, Value.slice.injEq] at hc
    obtain ⟨rfl, rfl, rfl⟩ := hc
    simp only [if_true] at hmm
    subst hmm
    have hC : Tryd.prog.cellsOf 25 = 6 := by kernel_rfl
    rcases Nat.eq_zero_or_pos len0 with h0 | h0
    · subst h0
      exact ⟨[], .inl ⟨_, _, rfl, rfl⟩⟩
    · have each : ∀ i, i < m → ∃ r : Ru, ∀ j, j < 6 → W.cell? (a.add (i * 6 + j)) = (cellsR [r])[j]? := by
        intro i hi
        obtain ⟨cs, h1, h2⟩ := hall i hi
        rw [hC] at h1
        obtain ⟨_, hlen, hcell⟩ := World.cells?_some h1
        obtain ⟨q, n, b, o, s, x, rfl⟩ := rule_cells h2
        refine ⟨⟨q, n, b, o, s, x⟩, fun j hj => ?_⟩
        have := hcell j (by omega)
        rw [Go.Deep.add_add] at this
        rw [this]
        rcases (by omega : j = 0 ∨ j = 1 ∨ j = 2 ∨ j = 3 ∨ j = 4 ∨ j = 5) with rfl | rfl | rfl | rfl | rfl | rfl <;> simp [cellsR]
      have iR : Inhabited Ru := ⟨zeR⟩
      obtain ⟨R, hR⟩ := Go.Deep.choose_lt each
      obtain ⟨sb, so, spot⟩ := a
      have hspot : spot = none := by
        have := hR 0 (by omega) 0 (by omega)
        have h2 : W.cell? ((⟨sb, so, spot⟩ : Addr).add (0 * 6 + 0)) = some (.int .i64 (R 0).p) := by rw [this]; simp [cellsR]
        simpa [Addr.add] using World.cell?_spot h2
      subst hspot
      have hadd : ∀ j, (⟨sb, so, none⟩ : Addr).add j = ⟨sb, so + j, none⟩ := by
        intro j
        simp only [Addr.add]
        first
          | rfl
          | (split
             · next h0 => rw [h0]; rfl
             · rfl)
      refine ⟨(List.range len0).map R, .inr ⟨sb, so, _, by simp, by simpa using hl, hm, fun i hi => ?_⟩⟩
      have hi2 : i < len0 := by simpa using hi
      have hc := hR i (by omega)
      simp only [hadd] at hc
      have e : ((List.range len0).map R)[i] = R i := by simp
      rw [e]
      refine ⟨?_, ?_, ?_, ?_, ?_, ?_⟩
      · have := hc 0 (by omega); simpa [cellsR] using this
      · have := hc 1 (by omega); simpa [cellsR, Nat.add_assoc] using this
      · have := hc 2 (by omega); simpa [cellsR, Nat.add_assoc] using this
      · have := hc 3 (by omega); simpa [cellsR, Nat.add_assoc] using this
      · have := hc 4 (by omega); simpa [cellsR, Nat.add_assoc] using this
      · have := hc 5 (by omega); simpa [cellsR, Nat.add_assoc] using this
end Go.Proofs.YtpbfgfphcjmcbaaDoor
