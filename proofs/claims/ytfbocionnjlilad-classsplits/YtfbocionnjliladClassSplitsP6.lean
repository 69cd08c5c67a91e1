/- Contracts and facts on the way to ClassSplits, joined into one text: RuleOwn, TopoOf, StCube, StRule, NetOf, TableMath, ClassSplits. -/
import Derived.Test.YtfbocionnjliladClassSplitsP4
import Derived.Test.YtfbocionnjliladClassSplitsP5
import Derived.Test.YtfbocionnjliladClassSplitsP3
import Derived.Test.YtfbocionnjliladClassSplitsP1
import Derived.Deep.Slices
import Derived.Test.YtfbocionnjliladRows
import Derived.Lib.SmallJoins
import Derived.Laws.StructEq
import Derived.Maps.OwnOps
import Derived.Deep.CutRange
import Derived.Deep.CutBlock
/- Rows of rules that a call owns; a table that came in. -/
namespace Go.Proofs.Ytfbocionnjlilad
open Go.ChangeShapes Go.WideShapes Go.ChangeAt Go.RowKit

/-- The cells of rules. -/
def cellsR (L : List Ru) : List Value := L.flatMap fun r => [.int .i64 r.p, .int .i64 r.m, .int .i64 r.b, .int .i64 r.o, .int .i64 r.s, .int .i64 r.v]
theorem cellsR_len (L : List Ru) : (cellsR L).length = L.length * 6 := by
  induction L with
  | nil => rfl
  | cons p r ih => simp only [cellsR, List.flatMap_cons, List.length_append, List.length_cons, List.length_nil] at *; omega
theorem cellsR_app (L M : List Ru) : cellsR (L ++ M) = cellsR L ++ cellsR M := by simp [cellsR]
theorem cellsR_at (L : List Ru) (i : Nat) (h : i < L.length) : (cellsR L)[i * 6]? = some (.int .i64 (L[i]).p) ∧ (cellsR L)[i * 6 + 1]? = some (.int .i64 (L[i]).m) ∧ (cellsR L)[i * 6 + 2]? = some (.int .i64 (L[i]).b) ∧
    (cellsR L)[i * 6 + 3]? = some (.int .i64 (L[i]).o) ∧ (cellsR L)[i * 6 + 4]? = some (.int .i64 (L[i]).s) ∧ (cellsR L)[i * 6 + 5]? = some (.int .i64 (L[i]).v) := by
  induction L generalizing i with
  | nil => simp at h
  | cons p r ih =>
    cases i with
    | zero => simp [cellsR]
    | succ i =>
      have := ih i (by simpa using h)
      have e1 : (i + 1) * 6 = i * 6 + 1 + 1 + 1 + 1 + 1 + 1 := by omega
      simpa [cellsR, e1] using this
theorem cellsR_one (L : List Ru) : ∀ u ∈ cellsR L, u.oneCell' = true := by
  intro u hu
  simp only [cellsR, List.mem_flatMap] at hu
  obtain ⟨p, _, hp⟩ := hu
  simp at hp
  rcases hp with rfl | rfl | rfl | rfl | rfl | rfl <;> rfl
/-- What a call owns may be read. -/
theorem own_SR {w : World} {B e : Nat} {v : Value} {L : List Ru} (h : w.ownsRow B e 6 v L.length (cellsR L)) : SR w v L := by
  rcases h.2 with ⟨rfl, h0⟩ | ⟨g, cap, cur, rfl, _, _, h1, h2, _⟩
  · exact .inl ⟨none, 0, rfl, List.length_eq_zero_iff.1 h0⟩
  · refine .inr ⟨g, 0, cap, rfl, h1, h2, fun i hi => ?_⟩
    obtain ⟨a0, a1, a2, a3, a4, a5⟩ := cellsR_at L i hi
    refine ⟨?_, ?_, ?_, ?_, ?_, ?_⟩
    · have := h.cellAt (i * 6) (by omega)
      rw [a0] at this
      simpa using this
    · have := h.cellAt (i * 6 + 1) (by omega)
      rw [a1] at this
      simpa using this
    · have := h.cellAt (i * 6 + 2) (by omega)
      rw [a2] at this
      simpa using this
    · have := h.cellAt (i * 6 + 3) (by omega)
      rw [a3] at this
      simpa using this
    · have := h.cellAt (i * 6 + 4) (by omega)
      rw [a4] at this
      simpa using this
    · have := h.cellAt (i * 6 + 5) (by omega)
      rw [a5] at this
      simpa using this
theorem infoRule : (Try.prog.info? 37).map (fun i => (i.zero, i.size, i.bytes)) = some (some (.agg #[.int .i64 0, .int .i64 0, .int .i64 0, .int .i64 0, .int .i64 0, .int .i64 0]), 6, 48) := by kernel_rfl
theorem sixCells : (Value.agg #[.int .i64 0, .int .i64 0, .int .i64 0, .int .i64 0, .int .i64 0, .int .i64 0]).cells.size = 6 := by simp [Value.cells]
theorem own_pushR {W : World} {B e : Nat} {v : Value} {out : List Ru} {p m b o s x : Int} (h : W.ownsRow B e 6 v (out.length + 1) (cellsR out ++ [.int .i64 p, .int .i64 m, .int .i64 b, .int .i64 o, .int .i64 s, .int .i64 x])) :
    W.ownsRow B e 6 v (out ++ [(⟨p, m, b, o, s, x⟩ : Ru)]).length (cellsR (out ++ [(⟨p, m, b, o, s, x⟩ : Ru)])) := by
  have e1 : (out ++ [(⟨p, m, b, o, s, x⟩ : Ru)]).length = out.length + 1 := by simp
  rw [e1, cellsR_app]
  exact h

set_option maxRecDepth 100000 in
/-- A table that came in lies where its slice says. -/
theorem rules_of {H : Type} {enc : TypeId × Value → H} {W : World} {base : Nat} {v : Value} {d : DataW H} {p : List MemPlace}
    (hv : Value.okWide Try.prog W .any base 39 v) (h : DataW.Trod enc Try.prog W 0 (fun _ => true) true 39 v d p) : ∃ L, SR W v L := by
  obtain ⟨a0, len0, cap0, rfl⟩ := okWide_slice Try.underlying39 hv
  obtain ⟨fuel, hf⟩ := h
  have hf2 : DataW.trod enc Try.prog W 0 (fun _ => true) true fuel 39 [.slice a0 len0 cap0] = some (d, p) := hf
  rcases Go.Deep.open_slice Try.underlying39 hf2 with ⟨hc, hx⟩ | ⟨a, len, cap, m, k, D, Pl, hc, _, hl, hm, hmm, hx, hall⟩
  · simp only [List.cons.injEq, and_true, Value.slice.injEq] at hc
    obtain ⟨rfl, rfl, rfl⟩ := hc
    exact ⟨[], .inl ⟨none, 0, rfl, rfl⟩⟩
  · simp only [List.cons.injEq, and_true, Value.slice.injEq] at hc
    obtain ⟨rfl, rfl, rfl⟩ := hc
    simp only [if_true] at hmm
    subst hmm
    have hC : Try.prog.cellsOf 37 = 6 := by kernel_rfl
    rcases Nat.eq_zero_or_pos len0 with h0 | h0
    · subst h0
      exact ⟨[], .inl ⟨_, _, rfl, rfl⟩⟩
    · have each : ∀ i, i < m → ∃ r : Ru, ∀ j, j < 6 → W.cell? (a.add (i * 6 + j)) = (cellsR [r])[j]? := by
        intro i hi
        obtain ⟨cs, h1, h2⟩ := hall i hi
        rw [hC] at h1
        obtain ⟨_, hlen, hcell⟩ := World.cells?_some h1
        obtain ⟨q, n, b, o, s, x, rfl⟩ := rule_cells h2
        refine ⟨⟨q, n, b, o, s, x⟩, fun j hj => ?_⟩
        have := hcell j (by omega)
        rw [Go.Deep.add_add] at this
        rw [this]
        rcases (by omega : j = 0 ∨ j = 1 ∨ j = 2 ∨ j = 3 ∨ j = 4 ∨ j = 5) with rfl | rfl | rfl | rfl | rfl | rfl <;> simp [cellsR]
      have iR : Inhabited Ru := ⟨zeR⟩
      obtain ⟨R, hR⟩ := Go.Deep.choose_lt each
      obtain ⟨sb, so, spot⟩ := a
      have hspot : spot = none := by
        have := hR 0 (by omega) 0 (by omega)
        have h2 : W.cell? ((⟨sb, so, spot⟩ : Addr).add (0 * 6 + 0)) = some (.int .i64 (R 0).p) := by rw [this]; simp [cellsR]
        simpa [Addr.add] using World.cell?_spot h2
      subst hspot
      have hadd : ∀ j, (⟨sb, so, none⟩ : Addr).add j = ⟨sb, so + j, none⟩ := by
        intro j
        simp only [Addr.add]
        first
          | rfl
          | (split
             · next h0 => rw [h0]; rfl
             · rfl)
      refine ⟨(List.range len0).map R, .inr ⟨sb, so, _, by simp, by simpa using hl, hm, fun i hi => ?_⟩⟩
      have hi2 : i < len0 := by simpa using hi
      have hc := hR i (by omega)
      simp only [hadd] at hc
      have e : ((List.range len0).map R)[i] = R i := by simp
      rw [e]
      refine ⟨?_, ?_, ?_, ?_, ?_, ?_⟩
      · have := hc 0 (by omega); simpa [cellsR] using this
      · have := hc 1 (by omega); simpa [cellsR, Nat.add_assoc] using this
      · have := hc 2 (by omega); simpa [cellsR, Nat.add_assoc] using this
      · have := hc 3 (by omega); simpa [cellsR, Nat.add_assoc] using this
      · have := hc 4 (by omega); simpa [cellsR, Nat.add_assoc] using this
      · have := hc 5 (by omega); simpa [cellsR, Nat.add_assoc] using this
end Go.Proofs.Ytfbocionnjlilad
/- A topology that came in: its number of switches, its links, its hosts. -/
namespace Go.Proofs.Ytfbocionnjlilad
open Go.ChangeShapes Go.WideShapes Go.ChangeAt Go.RowKit Go.Joins
set_option linter.unusedSimpArgs false
set_option linter.unusedVariables false
set_option maxRecDepth 100000

section
variable {P : Program} {α : Type} {E : Enc α}
set_option maxRecDepth 100000 in
/-- A cell that reads as a slice lies where it says. -/
theorem gs_open {H : Type} {enc : TypeId × Value → H} {W : World} {fuel : Nat} {cs : List Value} {x : DataW H × List MemPlace} (ts te : TypeId) (hu : P.underlying ts = some (.slice te)) (hC : P.cellsOf te = E.n) (x0 : α)
    (hel : ∀ (n : Nat) (cs : List Value) (x : DataW H × List MemPlace), DataW.trod enc P W 0 (fun _ => true) true n te cs = some x → ∃ y, cs = E.c y)
    (hf2 : DataW.trod enc P W 0 (fun _ => true) true fuel ts cs = some x) : ∃ ao n cap L, cs = [.slice ao n cap] ∧ GS E W (.slice ao n cap) L := by
  obtain ⟨d, p⟩ := x
  rcases Go.Deep.open_slice hu hf2 with ⟨hc, hx⟩ | ⟨a, len0, cap, m, k, D, Pl, hc, _, hl, hm, hmm, hx, hall⟩
  · exact ⟨_, _, _, [], hc, .inl ⟨none, 0, rfl, rfl⟩⟩
  · simp only [if_true] at hmm
    subst hmm
    rcases Nat.eq_zero_or_pos len0 with h0 | h0
    · subst h0
      exact ⟨_, _, _, [], hc, .inl ⟨_, _, rfl, rfl⟩⟩
    · have each : ∀ i, i < m → ∃ y : α, ∀ j, j < E.n → W.cell? (a.add (i * E.n + j)) = (E.c y)[j]? := by
        intro i hi
        obtain ⟨cs, h1, h2⟩ := hall i hi
        rw [hC] at h1
        obtain ⟨_, hlen, hcell⟩ := World.cells?_some h1
        obtain ⟨y, rfl⟩ := hel _ _ _ h2
        refine ⟨y, fun j hj => ?_⟩
        have := hcell j (by omega)
        rw [Go.Deep.add_add] at this
        exact this
      have iR : Inhabited α := ⟨x0⟩
      obtain ⟨R, hR⟩ := Go.Deep.choose_lt each
      obtain ⟨sb, so, spot⟩ := a
      have hspot : spot = none := by
        have h1 := hR 0 (by omega) 0 E.pos
        have h2 : (E.c (R 0))[0]?.isSome = true := by
          rw [List.getElem?_eq_getElem (by rw [E.len]; exact E.pos)]
          rfl
        obtain ⟨u, hu2⟩ := Option.isSome_iff_exists.1 h2
        rw [hu2] at h1
        simpa [Addr.add] using World.cell?_spot h1
      subst hspot
      have hadd : ∀ j, (⟨sb, so, none⟩ : Addr).add j = ⟨sb, so + j, none⟩ := by
        intro j
        simp only [Addr.add]
        first
          | rfl
          | (split
             · next h0 => rw [h0]; rfl
             · rfl)
      refine ⟨_, _, _, (List.range len0).map R, hc, .inr ⟨sb, so, _, by simp, by simpa using hl, hm, fun i hi j u hu2 => ?_⟩⟩
      have hi2 : i < len0 := by simpa using hi
      have e : ((List.range len0).map R)[i] = R i := by simp
      rw [e] at hu2
      have hj : j < E.n := by
        have := (List.getElem?_eq_some_iff.1 hu2).1
        rw [E.len] at this
        exact this
      have hc := hR i (by omega) j hj
      rw [hadd, hu2, ← Nat.add_assoc] at hc
      exact hc
end
set_option maxRecDepth 100000 in
/-- One that came in. -/
theorem topo_open {H : Type} {enc : TypeId × Value → H} {W : World} {n : Nat} {cs : List Value} {x : DataW H × List MemPlace}
    (h : DataW.trod enc Try.prog W 0 (fun _ => true) true n 25 cs = some x) : ∃ S ao n cap ao2 n2 cap2 Ls Hs, cs = [.int .i64 S, .slice ao n cap, .slice ao2 n2 cap2] ∧ GS lnkE W (.slice ao n cap) Ls ∧ GS hstE W (.slice ao2 n2 cap2) Hs := by
  obtain ⟨xs, k, _, _, hl, hlen, hf⟩ := DataW.trod_struct Try.underlying25 h
  have hC : Try.prog.cellsOf 25 = 3 := by kernel_rfl
  have hT0 : Try.prog.cellsOf 3 = 1 := by kernel_rfl
  have hT1 : Try.prog.cellsOf 22 = 1 := by kernel_rfl
  have hT2 : Try.prog.cellsOf 23 = 1 := by kernel_rfl
  rw [hC] at hl
  match cs, hl with
  | [c0, c1, c2], _ =>
    match xs, hlen with
    | [z0, z1, z2], _ =>
      have g0 := hf 0 _ rfl
      have g1 := hf 1 _ rfl
      have g2 := hf 2 _ rfl
      simp [hT0, hT1, hT2] at g0 g1 g2
      obtain ⟨v0, e0, _, _⟩ := DataW.trod_int Try.underlying3 g0
      obtain ⟨ao, n, cap, Ls, e1, hL⟩ := gs_open (E := lnkE) 22 75 Try.underlying22 (by kernel_rfl) ((0, 0), (0, 0)) (fun _ _ _ h => lnk_open h) g1
      obtain ⟨ao2, n2, cap2, Hs, e2, hH⟩ := gs_open (E := hstE) 23 79 Try.underlying23 (by kernel_rfl) (ByteArray.empty, (0, 0)) (fun _ _ _ h => hst_open h) g2
      simp at e0 e1 e2
      exact ⟨v0, ao, n, cap, ao2, n2, cap2, Ls, Hs, by simp [e0, e1, e2], hL, hH⟩
theorem topo_of {H : Type} {enc : TypeId × Value → H} {W : World} {base : Nat} {v : Value} {d : DataW H} {p : List MemPlace}
    (hv : Value.okWide Try.prog W .any base 25 v) (h : DataW.Trod enc Try.prog W 0 (fun _ => true) true 25 v d p) : ∃ S ao n cap ao2 n2 cap2 Ls Hs, v = .agg #[.int .i64 S, .slice ao n cap, .slice ao2 n2 cap2] ∧ GS lnkE W (.slice ao n cap) Ls ∧ GS hstE W (.slice ao2 n2 cap2) Hs := by
  obtain ⟨cs, rfl, hsz⟩ := okWide_struct Try.underlying25 hv
  obtain ⟨n, hn⟩ := h
  obtain ⟨S, ao, n, cap, ao2, n2, cap2, Ls, Hs, e, h1, h2⟩ := topo_open hn
  refine ⟨S, ao, n, cap, ao2, n2, cap2, Ls, Hs, ?_, h1, h2⟩
  simp only [Value.cells] at e
  rw [← Array.toArray_toList (xs := cs), e]
end Go.Proofs.Ytfbocionnjlilad
/- The struct api.Cube: its cells, slices of them, == of two, such that came in. Written by mk/struct.py. -/
namespace Go.Proofs.Ytfbocionnjlilad
open Go.ChangeShapes Go.WideShapes Go.ChangeAt Go.RowKit Go.Joins
set_option linter.unusedSimpArgs false
set_option linter.unusedVariables false
set_option maxRecDepth 100000

def cuE : Enc (Int × Int) where
  c := fun x => [.int .i64 x.1, .int .i64 x.2]
  n := 2
  len := fun _ => rfl
  pos := by decide
  one := by
    intro x u hu
    simp at hu
    rcases hu with rfl | rfl <;> rfl
theorem cu_cells {w : World} {g o : Nat} {x0 : Int} {x1 : Int} (h : VAt w g o (cuE.c (x0, x1))) : w.cell? ⟨g, o, none⟩ = some (.int .i64 x0) ∧ w.cell? ⟨g, o + 1, none⟩ = some (.int .i64 x1) :=
  ⟨h 0 _ rfl, h 1 _ rfl⟩
theorem cu_at {w : World} {g o : Nat} {L : List (Int × Int)} (h : GAt cuE w g o L) {n k : Nat} (hn : L.length = n) (hk : k < n) :
    ∃ (x0 : Int) (x1 : Int) (hl : k < L.length), L[k] = (x0, x1) ∧ w.cell? ⟨g, o + k * 2, none⟩ = some (.int .i64 x0) ∧ w.cell? ⟨g, o + k * 2 + 1, none⟩ = some (.int .i64 x1) :=
  have hl : k < L.length := by omega
  ⟨_, _, hl, rfl, cu_cells (h k hl)⟩
theorem cu_new (w : World) (x0 : Int) (x1 : Int) (t : TypeId) : VAt (w.alloc (Obj.cells #[.int .i64 x0, .int .i64 x1] t)) w.heap.size 0 (cuE.c (x0, x1)) := vat_new w [.int .i64 x0, .int .i64 x1] t
theorem cu_row (w : World) (x0 : Int) (x1 : Int) (t : TypeId) : GS cuE (w.alloc (Obj.cells #[.int .i64 x0, .int .i64 x1] t)) (.slice (some ⟨w.heap.size, 0, none⟩) 1 1) [(x0, x1)] := gs_one (E := cuE) w (x0, x1) t (vs := [.int .i64 x0, .int .i64 x1]) rfl
/-- Are two the same? -/
def cuB (a b : Int × Int) : Bool := (a.1 == b.1) && ((a.2 == b.2))
theorem cuB_iff (a b : Int × Int) : cuB a b = true ↔ a = b := by
  have e : cuB a b = ((a.1 == b.1) && ((a.2 == b.2))) := rfl
  rw [e]
  simp only [Bool.and_eq_true, beq_iff_eq]
  constructor
  · intro h
    obtain ⟨a0, a1⟩ := a; obtain ⟨b0, b1⟩ := b; simp at h ⊢; simp [h]
  · intro h
    subst h
    simp
theorem cu_ways (x0 : Int) (x1 : Int) (y0 : Int) (y1 : Int) :
    ((x0 == y0) = false ∧ cuB (x0, x1) (y0, y1) = false) ∨
    ((x0 == y0) = true ∧ (x1 == y1) = false ∧ cuB (x0, x1) (y0, y1) = false) ∨
    ((x0 == y0) = true ∧ (x1 == y1) = true ∧ cuB (x0, x1) (y0, y1) = true) := by
  have e : cuB (x0, x1) (y0, y1) = ((x0 == y0) && ((x1 == y1))) := rfl
  rw [e]
  cases h0 : (x0 == y0)
  · simp
  · skip
    cases h1 : (x1 == y1)
    · simp
    · skip
      simp
set_option maxRecDepth 100000 in
theorem cu_eq (x0 : Int) (x1 : Int) (y0 : Int) (y1 : Int) (w : World) : (Op.equal 35 (.agg #[.int .i64 x0, .int .i64 x1]) (.agg #[.int .i64 y0, .int .i64 y1])).run Try.prog w = .ok (cuB (x0, x1) (y0, y1)) w := by
  unfold Op.equal Op.maxDepth
  rw [run_equalIn_struct w 9999 _ _ _ (by kernel_rfl) (by kernel_rfl)]
  rcases cu_ways x0 x1 y0 y1 with ⟨e0, e⟩ | ⟨e0, e1, e⟩ | ⟨e0, e1, e⟩
  all_goals
    rw [e]
    go_simp
theorem cu_info : (Try.prog.info? 35).map (fun i => (i.zero, i.size, i.bytes)) = some (some (.agg #[.int .i64 0, .int .i64 0]), 2, 16) := by kernel_rfl
theorem cu_zero : (Value.agg #[.int .i64 0, .int .i64 0]).cells.size = 2 := by simp [Value.cells]
/-- Cells that read as one. -/
theorem cu_open {H : Type} {enc : TypeId × Value → H} {W : World} {n : Nat} {cs : List Value} {x : DataW H × List MemPlace}
    (h : DataW.trod enc Try.prog W 0 (fun _ => true) true n 35 cs = some x) : ∃ y, cs = cuE.c y := by
  obtain ⟨xs, k, _, _, hl, hlen, hf⟩ := DataW.trod_struct Try.underlying35 h
  have hC : Try.prog.cellsOf 35 = 2 := by kernel_rfl
  have hT0 : Try.prog.cellsOf 3 = 1 := by kernel_rfl
  rw [hC] at hl
  match cs, hl with
  | [c0, c1], _ =>
    match xs, hlen with
    | [z0, z1], _ =>
      have g0 := hf 0 _ rfl
      have g1 := hf 1 _ rfl
      simp [hT0] at g0 g1
      obtain ⟨v0, e0, _, _⟩ := DataW.trod_int Try.underlying3 g0
      obtain ⟨v1, e1, _, _⟩ := DataW.trod_int Try.underlying3 g1
      simp [] at e0 e1
      refine ⟨(v0, v1), ?_⟩
      simp [cuE, e0, e1]
set_option maxRecDepth 100000 in
/-- One that came in. -/
theorem cu_of {H : Type} {enc : TypeId × Value → H} {W : World} {base : Nat} {v : Value} {d : DataW H} {p : List MemPlace}
    (hv : Value.okWide Try.prog W .any base 35 v) (h : DataW.Trod enc Try.prog W 0 (fun _ => true) true 35 v d p) : ∃ (x0 : Int) (x1 : Int), v = .agg #[.int .i64 x0, .int .i64 x1] := by
  obtain ⟨cs, rfl, hsz⟩ := okWide_struct Try.underlying35 hv
  obtain ⟨n, hn⟩ := h
  obtain ⟨y, e⟩ := cu_open hn
  refine ⟨y.1, y.2, ?_⟩
  simp only [Value.cells] at e
  have e2 : cs = #[.int .i64 y.1, .int .i64 y.2] := by
    rw [← Array.toArray_toList (xs := cs), e]
    rfl
  rw [e2]
end Go.Proofs.Ytfbocionnjlilad
/- The struct api.Rule: its cells, slices of them, == of two, such that came in. Written by mk/struct.py. -/
namespace Go.Proofs.Ytfbocionnjlilad
open Go.ChangeShapes Go.WideShapes Go.ChangeAt Go.RowKit Go.Joins
set_option linter.unusedSimpArgs false
set_option linter.unusedVariables false
set_option maxRecDepth 100000

def rlE : Enc (Ru) where
  c := fun x => [.int .i64 x.p, .int .i64 x.m, .int .i64 x.b, .int .i64 x.o, .int .i64 x.s, .int .i64 x.v]
  n := 6
  len := fun _ => rfl
  pos := by decide
  one := by
    intro x u hu
    simp at hu
    rcases hu with rfl | rfl | rfl | rfl | rfl | rfl <;> rfl
theorem rl_cells {w : World} {g o : Nat} {x0 : Int} {x1 : Int} {x2 : Int} {x3 : Int} {x4 : Int} {x5 : Int} (h : VAt w g o (rlE.c ⟨x0, x1, x2, x3, x4, x5⟩)) : w.cell? ⟨g, o, none⟩ = some (.int .i64 x0) ∧ w.cell? ⟨g, o + 1, none⟩ = some (.int .i64 x1) ∧ w.cell? ⟨g, o + 2, none⟩ = some (.int .i64 x2) ∧ w.cell? ⟨g, o + 3, none⟩ = some (.int .i64 x3) ∧ w.cell? ⟨g, o + 4, none⟩ = some (.int .i64 x4) ∧ w.cell? ⟨g, o + 5, none⟩ = some (.int .i64 x5) :=
  ⟨h 0 _ rfl, h 1 _ rfl, h 2 _ rfl, h 3 _ rfl, h 4 _ rfl, h 5 _ rfl⟩
theorem rl_at {w : World} {g o : Nat} {L : List (Ru)} (h : GAt rlE w g o L) {n k : Nat} (hn : L.length = n) (hk : k < n) :
    ∃ (x0 : Int) (x1 : Int) (x2 : Int) (x3 : Int) (x4 : Int) (x5 : Int) (hl : k < L.length), L[k] = ⟨x0, x1, x2, x3, x4, x5⟩ ∧ w.cell? ⟨g, o + k * 6, none⟩ = some (.int .i64 x0) ∧ w.cell? ⟨g, o + k * 6 + 1, none⟩ = some (.int .i64 x1) ∧ w.cell? ⟨g, o + k * 6 + 2, none⟩ = some (.int .i64 x2) ∧ w.cell? ⟨g, o + k * 6 + 3, none⟩ = some (.int .i64 x3) ∧ w.cell? ⟨g, o + k * 6 + 4, none⟩ = some (.int .i64 x4) ∧ w.cell? ⟨g, o + k * 6 + 5, none⟩ = some (.int .i64 x5) :=
  have hl : k < L.length := by omega
  ⟨_, _, _, _, _, _, hl, rfl, rl_cells (h k hl)⟩
theorem rl_new (w : World) (x0 : Int) (x1 : Int) (x2 : Int) (x3 : Int) (x4 : Int) (x5 : Int) (t : TypeId) : VAt (w.alloc (Obj.cells #[.int .i64 x0, .int .i64 x1, .int .i64 x2, .int .i64 x3, .int .i64 x4, .int .i64 x5] t)) w.heap.size 0 (rlE.c ⟨x0, x1, x2, x3, x4, x5⟩) := vat_new w [.int .i64 x0, .int .i64 x1, .int .i64 x2, .int .i64 x3, .int .i64 x4, .int .i64 x5] t
theorem rl_row (w : World) (x0 : Int) (x1 : Int) (x2 : Int) (x3 : Int) (x4 : Int) (x5 : Int) (t : TypeId) : GS rlE (w.alloc (Obj.cells #[.int .i64 x0, .int .i64 x1, .int .i64 x2, .int .i64 x3, .int .i64 x4, .int .i64 x5] t)) (.slice (some ⟨w.heap.size, 0, none⟩) 1 1) [⟨x0, x1, x2, x3, x4, x5⟩] := gs_one (E := rlE) w ⟨x0, x1, x2, x3, x4, x5⟩ t (vs := [.int .i64 x0, .int .i64 x1, .int .i64 x2, .int .i64 x3, .int .i64 x4, .int .i64 x5]) rfl
/-- Are two the same? -/
def rlB (a b : Ru) : Bool := (a.p == b.p) && ((a.m == b.m) && ((a.b == b.b) && ((a.o == b.o) && ((a.s == b.s) && ((a.v == b.v))))))
theorem rlB_iff (a b : Ru) : rlB a b = true ↔ a = b := by
  have e : rlB a b = ((a.p == b.p) && ((a.m == b.m) && ((a.b == b.b) && ((a.o == b.o) && ((a.s == b.s) && ((a.v == b.v))))))) := rfl
  rw [e]
  simp only [Bool.and_eq_true, beq_iff_eq]
  constructor
  · intro h
    obtain ⟨a0, a1, a2, a3, a4, a5⟩ := a; obtain ⟨b0, b1, b2, b3, b4, b5⟩ := b; simp at h ⊢; simp [h]
  · intro h
    subst h
    simp
theorem rl_ways (x0 : Int) (x1 : Int) (x2 : Int) (x3 : Int) (x4 : Int) (x5 : Int) (y0 : Int) (y1 : Int) (y2 : Int) (y3 : Int) (y4 : Int) (y5 : Int) :
    ((x0 == y0) = false ∧ rlB ⟨x0, x1, x2, x3, x4, x5⟩ ⟨y0, y1, y2, y3, y4, y5⟩ = false) ∨
    ((x0 == y0) = true ∧ (x1 == y1) = false ∧ rlB ⟨x0, x1, x2, x3, x4, x5⟩ ⟨y0, y1, y2, y3, y4, y5⟩ = false) ∨
    ((x0 == y0) = true ∧ (x1 == y1) = true ∧ (x2 == y2) = false ∧ rlB ⟨x0, x1, x2, x3, x4, x5⟩ ⟨y0, y1, y2, y3, y4, y5⟩ = false) ∨
    ((x0 == y0) = true ∧ (x1 == y1) = true ∧ (x2 == y2) = true ∧ (x3 == y3) = false ∧ rlB ⟨x0, x1, x2, x3, x4, x5⟩ ⟨y0, y1, y2, y3, y4, y5⟩ = false) ∨
    ((x0 == y0) = true ∧ (x1 == y1) = true ∧ (x2 == y2) = true ∧ (x3 == y3) = true ∧ (x4 == y4) = false ∧ rlB ⟨x0, x1, x2, x3, x4, x5⟩ ⟨y0, y1, y2, y3, y4, y5⟩ = false) ∨
    ((x0 == y0) = true ∧ (x1 == y1) = true ∧ (x2 == y2) = true ∧ (x3 == y3) = true ∧ (x4 == y4) = true ∧ (x5 == y5) = false ∧ rlB ⟨x0, x1, x2, x3, x4, x5⟩ ⟨y0, y1, y2, y3, y4, y5⟩ = false) ∨
    ((x0 == y0) = true ∧ (x1 == y1) = true ∧ (x2 == y2) = true ∧ (x3 == y3) = true ∧ (x4 == y4) = true ∧ (x5 == y5) = true ∧ rlB ⟨x0, x1, x2, x3, x4, x5⟩ ⟨y0, y1, y2, y3, y4, y5⟩ = true) := by
  have e : rlB ⟨x0, x1, x2, x3, x4, x5⟩ ⟨y0, y1, y2, y3, y4, y5⟩ = ((x0 == y0) && ((x1 == y1) && ((x2 == y2) && ((x3 == y3) && ((x4 == y4) && ((x5 == y5))))))) := rfl
  rw [e]
  cases h0 : (x0 == y0)
  · simp
  · skip
    cases h1 : (x1 == y1)
    · simp
    · skip
      cases h2 : (x2 == y2)
      · simp
      · skip
        cases h3 : (x3 == y3)
        · simp
        · skip
          cases h4 : (x4 == y4)
          · simp
          · skip
            cases h5 : (x5 == y5)
            · simp
            · skip
              simp
set_option maxRecDepth 100000 in
theorem rl_eq (x0 : Int) (x1 : Int) (x2 : Int) (x3 : Int) (x4 : Int) (x5 : Int) (y0 : Int) (y1 : Int) (y2 : Int) (y3 : Int) (y4 : Int) (y5 : Int) (w : World) : (Op.equal 37 (.agg #[.int .i64 x0, .int .i64 x1, .int .i64 x2, .int .i64 x3, .int .i64 x4, .int .i64 x5]) (.agg #[.int .i64 y0, .int .i64 y1, .int .i64 y2, .int .i64 y3, .int .i64 y4, .int .i64 y5])).run Try.prog w = .ok (rlB ⟨x0, x1, x2, x3, x4, x5⟩ ⟨y0, y1, y2, y3, y4, y5⟩) w := by
  unfold Op.equal Op.maxDepth
  rw [run_equalIn_struct w 9999 _ _ _ (by kernel_rfl) (by kernel_rfl)]
  rcases rl_ways x0 x1 x2 x3 x4 x5 y0 y1 y2 y3 y4 y5 with ⟨e0, e⟩ | ⟨e0, e1, e⟩ | ⟨e0, e1, e2, e⟩ | ⟨e0, e1, e2, e3, e⟩ | ⟨e0, e1, e2, e3, e4, e⟩ | ⟨e0, e1, e2, e3, e4, e5, e⟩ | ⟨e0, e1, e2, e3, e4, e5, e⟩
  all_goals
    rw [e]
    go_simp
theorem rl_info : (Try.prog.info? 37).map (fun i => (i.zero, i.size, i.bytes)) = some (some (.agg #[.int .i64 0, .int .i64 0, .int .i64 0, .int .i64 0, .int .i64 0, .int .i64 0]), 6, 48) := by kernel_rfl
theorem rl_zero : (Value.agg #[.int .i64 0, .int .i64 0, .int .i64 0, .int .i64 0, .int .i64 0, .int .i64 0]).cells.size = 6 := by simp [Value.cells]
/-- Cells that read as one. -/
theorem rl_open {H : Type} {enc : TypeId × Value → H} {W : World} {n : Nat} {cs : List Value} {x : DataW H × List MemPlace}
    (h : DataW.trod enc Try.prog W 0 (fun _ => true) true n 37 cs = some x) : ∃ y, cs = rlE.c y := by
  obtain ⟨xs, k, _, _, hl, hlen, hf⟩ := DataW.trod_struct Try.underlying37 h
  have hC : Try.prog.cellsOf 37 = 6 := by kernel_rfl
  have hT0 : Try.prog.cellsOf 3 = 1 := by kernel_rfl
  have hT1 : Try.prog.cellsOf 35 = 2 := by kernel_rfl
  rw [hC] at hl
  match cs, hl with
  | [c0, c1, c2, c3, c4, c5], _ =>
    match xs, hlen with
    | [z0, z1, z2, z3, z4], _ =>
      have g0 := hf 0 _ rfl
      have g1 := hf 1 _ rfl
      have g2 := hf 2 _ rfl
      have g3 := hf 3 _ rfl
      have g4 := hf 4 _ rfl
      simp [hT0, hT1] at g0 g1 g2 g3 g4
      obtain ⟨v0, e0, _, _⟩ := DataW.trod_int Try.underlying3 g0
      obtain ⟨s1, e1⟩ := cu_open g1
      obtain ⟨v3, e2, _, _⟩ := DataW.trod_int Try.underlying3 g2
      obtain ⟨v4, e3, _, _⟩ := DataW.trod_int Try.underlying3 g3
      obtain ⟨v5, e4, _, _⟩ := DataW.trod_int Try.underlying3 g4
      simp [cuE] at e0 e1 e2 e3 e4
      refine ⟨⟨v0, s1.1, s1.2, v3, v4, v5⟩, ?_⟩
      simp [rlE, e0, e1, e2, e3, e4]
set_option maxRecDepth 100000 in
/-- One that came in. -/
theorem rl_of {H : Type} {enc : TypeId × Value → H} {W : World} {base : Nat} {v : Value} {d : DataW H} {p : List MemPlace}
    (hv : Value.okWide Try.prog W .any base 37 v) (h : DataW.Trod enc Try.prog W 0 (fun _ => true) true 37 v d p) : ∃ (x0 : Int) (x1 : Int) (x2 : Int) (x3 : Int) (x4 : Int) (x5 : Int), v = .agg #[.int .i64 x0, .int .i64 x1, .int .i64 x2, .int .i64 x3, .int .i64 x4, .int .i64 x5] := by
  obtain ⟨cs, rfl, hsz⟩ := okWide_struct Try.underlying37 hv
  obtain ⟨n, hn⟩ := h
  obtain ⟨y, e⟩ := rl_open hn
  refine ⟨y.p, y.m, y.b, y.o, y.s, y.v, ?_⟩
  simp only [Value.cells] at e
  have e2 : cs = #[.int .i64 y.p, .int .i64 y.m, .int .i64 y.b, .int .i64 y.o, .int .i64 y.s, .int .i64 y.v] := by
    rw [← Array.toArray_toList (xs := cs), e]
    rfl
  rw [e2]
/-- A slice of them that came in. -/
theorem rls_of {H : Type} {enc : TypeId × Value → H} {W : World} {base : Nat} {v : Value} {d : DataW H} {p : List MemPlace}
    (hv : Value.okWide Try.prog W .any base 39 v) (h : DataW.Trod enc Try.prog W 0 (fun _ => true) true 39 v d p) : ∃ L, GS rlE W v L :=
  gs_of (E := rlE) 39 37 Try.underlying39 (by kernel_rfl) ⟨0, 0, 0, 0, 0, 0⟩ (fun _ _ _ h => rl_open h) hv h
end Go.Proofs.Ytfbocionnjlilad
/- A net that came in: its topology, its tables. -/
namespace Go.Proofs.Ytfbocionnjlilad
open Go.ChangeShapes Go.WideShapes Go.ChangeAt Go.RowKit Go.Joins
set_option linter.unusedSimpArgs false
set_option linter.unusedVariables false
set_option maxRecDepth 100000

theorem gs_SR {w : World} {v : Value} {L : List Ru} (h : GS rlE w v L) : SR w v L := by
  rcases h with h | ⟨g, o, cap, h1, h2, h3, h4⟩
  · exact .inl h
  · refine .inr ⟨g, o, cap, h1, h2, h3, fun i hi => ?_⟩
    have hv := h4 i hi
    generalize L[i] = r at hv
    obtain ⟨p, m, b, q, s, x⟩ := r
    obtain ⟨q0, q1, q2, q3, q4, q5⟩ := rl_cells hv
    exact ⟨q0, q1, q2, q3, q4, q5⟩
set_option maxRecDepth 100000 in
theorem table_open {H : Type} {enc : TypeId × Value → H} {W : World} {fuel : Nat} {cs : List Value} {x : DataW H × List MemPlace}
    (h : DataW.trod enc Try.prog W 0 (fun _ => true) true fuel 39 cs = some x) : ∃ ao n cap L, cs = [.slice ao n cap] ∧ SR W (.slice ao n cap) L := by
  obtain ⟨ao, n, cap, L, e, hL⟩ := gs_open (E := rlE) 39 37 Try.underlying39 (by kernel_rfl) zeR (fun _ _ _ h => rl_open h) h
  exact ⟨ao, n, cap, L, e, gs_SR hL⟩
set_option maxRecDepth 100000 in
theorem tables_open {H : Type} {enc : TypeId × Value → H} {W : World} {fuel : Nat} {cs : List Value} {x : DataW H × List MemPlace}
    (hf2 : DataW.trod enc Try.prog W 0 (fun _ => true) true fuel 26 cs = some x) : ∃ ao n cap Ts, cs = [.slice ao n cap] ∧ TS W (.slice ao n cap) Ts := by
  obtain ⟨d, p⟩ := x
  have hC : Try.prog.cellsOf 39 = 1 := by kernel_rfl
  rcases Go.Deep.open_slice Try.underlying26 hf2 with ⟨hc, hx⟩ | ⟨a, len0, cap, m, k, D, Pl, hc, _, hl, hm, hmm, hx, hall⟩
  · exact ⟨_, _, _, [], hc, .inl ⟨none, 0, rfl, rfl⟩⟩
  · simp only [if_true] at hmm
    subst hmm
    rcases Nat.eq_zero_or_pos len0 with h0 | h0
    · subst h0
      exact ⟨_, _, _, [], hc, .inl ⟨_, _, rfl, rfl⟩⟩
    · have each : ∀ i, i < m → ∃ L : List Ru, ∃ ao n cap, W.cell? (a.add i) = some (.slice ao n cap) ∧ SR W (.slice ao n cap) L := by
        intro i hi
        obtain ⟨cs, h1, h2⟩ := hall i hi
        rw [hC] at h1
        obtain ⟨_, hlen, hcell⟩ := World.cells?_some h1
        obtain ⟨ao, n, cap, L, rfl, hL⟩ := table_open h2
        refine ⟨L, ao, n, cap, ?_, hL⟩
        have := hcell 0 (by simp)
        rw [Go.Deep.add_add] at this
        simpa using this
      obtain ⟨R, hR⟩ := Go.Deep.choose_lt each
      obtain ⟨sb, so, spot⟩ := a
      have hspot : spot = none := by
        obtain ⟨ao, n, cap, h1, _⟩ := hR 0 (by omega)
        simpa [Addr.add] using World.cell?_spot h1
      subst hspot
      have hadd : ∀ j, (⟨sb, so, none⟩ : Addr).add j = ⟨sb, so + j, none⟩ := by
        intro j
        simp only [Addr.add]
        first
          | rfl
          | (split
             · next h0 => rw [h0]; rfl
             · rfl)
      refine ⟨_, _, _, (List.range len0).map R, hc, .inr ⟨sb, so, _, by simp, by simpa using hl, hm, fun i hi => ?_⟩⟩
      have hi2 : i < len0 := by simpa using hi
      have e : ((List.range len0).map R)[i] = R i := by simp
      rw [e]
      obtain ⟨ao, n, cap, h1, h2⟩ := hR i (by omega)
      rw [hadd] at h1
      exact ⟨ao, n, cap, h1, h2⟩
set_option maxRecDepth 100000 in
/-- One that came in. -/
theorem net_open {H : Type} {enc : TypeId × Value → H} {W : World} {n : Nat} {cs : List Value} {x : DataW H × List MemPlace}
    (h : DataW.trod enc Try.prog W 0 (fun _ => true) true n 28 cs = some x) : ∃ S ao n cap ao2 n2 cap2 ao3 n3 cap3 Ls Hs Ts, cs = [.int .i64 S, .slice ao n cap, .slice ao2 n2 cap2, .slice ao3 n3 cap3] ∧ GS lnkE W (.slice ao n cap) Ls ∧ GS hstE W (.slice ao2 n2 cap2) Hs ∧ TS W (.slice ao3 n3 cap3) Ts := by
  obtain ⟨xs, k, _, _, hl, hlen, hf⟩ := DataW.trod_struct Try.underlying28 h
  have hC : Try.prog.cellsOf 28 = 4 := by kernel_rfl
  have hT0 : Try.prog.cellsOf 25 = 3 := by kernel_rfl
  have hT1 : Try.prog.cellsOf 26 = 1 := by kernel_rfl
  rw [hC] at hl
  match cs, hl with
  | [c0, c1, c2, c3], _ =>
    match xs, hlen with
    | [z0, z1], _ =>
      have g0 := hf 0 _ rfl
      have g1 := hf 1 _ rfl
      simp [hT0, hT1] at g0 g1
      obtain ⟨S, ao, n, cap, ao2, n2, cap2, Ls, Hs, e0, hL, hH⟩ := topo_open g0
      obtain ⟨ao3, n3, cap3, Ts, e1, hT⟩ := tables_open g1
      simp at e0 e1
      exact ⟨S, ao, n, cap, ao2, n2, cap2, ao3, n3, cap3, Ls, Hs, Ts, by simp [e0, e1], hL, hH, hT⟩
theorem net_of {H : Type} {enc : TypeId × Value → H} {W : World} {base : Nat} {v : Value} {d : DataW H} {p : List MemPlace}
    (hv : Value.okWide Try.prog W .any base 28 v) (h : DataW.Trod enc Try.prog W 0 (fun _ => true) true 28 v d p) : ∃ S ao n cap ao2 n2 cap2 ao3 n3 cap3 Ls Hs Ts, v = .agg #[.int .i64 S, .slice ao n cap, .slice ao2 n2 cap2, .slice ao3 n3 cap3] ∧ GS lnkE W (.slice ao n cap) Ls ∧ GS hstE W (.slice ao2 n2 cap2) Hs ∧ TS W (.slice ao3 n3 cap3) Ts := by
  obtain ⟨cs, rfl, hsz⟩ := okWide_struct Try.underlying28 hv
  obtain ⟨n, hn⟩ := h
  obtain ⟨S, ao, n, cap, ao2, n2, cap2, ao3, n3, cap3, Ls, Hs, Ts, e, h1, h2, h3⟩ := net_open hn
  refine ⟨S, ao, n, cap, ao2, n2, cap2, ao3, n3, cap3, Ls, Hs, Ts, ?_, h1, h2, h3⟩
  simp only [Value.cells] at e
  rw [← Array.toArray_toList (xs := cs), e]
end Go.Proofs.Ytfbocionnjlilad
/- Changes of tables in plain lists: what is wrong with one, what it makes, what is between two. No program in it. -/
namespace Go.Proofs.Ytfbocionnjlilad
open Go.RowKit

/-- Are two rules the same in all? -/
def eqR (a b : Ru) : Bool := decide (a.p = b.p) && (decide (a.m = b.m) && (decide (a.b = b.b) && (decide (a.o = b.o) && (decide (a.s = b.s) && decide (a.v = b.v)))))
theorem eq_R {a b : Ru} : eqR a b = true ↔ a = b := by
  obtain ⟨p, m, b1, o, s, v⟩ := a
  obtain ⟨p', m', b', o', s', v'⟩ := b
  simp [eqR]
theorem eq_no {a b : Ru} : eqR a b = false ↔ a ≠ b := by
  rw [← Bool.not_eq_true, Ne, eq_R]
theorem eq_rf (a : Ru) : eqR a a = true := eq_R.2 rfl
/-- Is a rule in a table? -/
def inB (L : List Ru) (r : Ru) : Bool := L.any (fun a => eqR r a)
theorem in_iff {L : List Ru} {r : Ru} : inB L r = true ↔ r ∈ L := by
  simp only [inB, List.any_eq_true, eq_R]
  exact ⟨fun ⟨x, h, e⟩ => e ▸ h, fun h => ⟨r, h, rfl⟩⟩
/-- The first place of a rule. -/
def ixN (L : List Ru) (r : Ru) : Nat := L.findIdx (fun a => eqR r a)
/-- The rules of the one that the other has not. -/
def bey (A B : List Ru) : List Ru := A.filter (fun r => !inB B r)
/-- Has one of them the Prio and Cube of a rule? -/
def hitB (L : List Ru) (r : Ru) : Bool := L.any (fun a => keyB a r)

/-- The fault of a change of a table and a rule that are right. -/
def chN (L : List Ru) (add : Bool) (r : Ru) : Int := if add then (if hitB L r then 7 else if 12 ≤ L.length then 4 else 0) else (if inB L r then 0 else 5)
/-- What it makes. -/
def chL (L : List Ru) (add : Bool) (r : Ru) : List Ru := if chN L add r = 0 then (if add then L ++ [r] else L.take (ixN L r) ++ L.drop (ixN L r + 1)) else []
/-- The fault of a change. -/
def doN (L : List Ru) (add : Bool) (r : Ru) : Int := if tbN L = 0 then (if r.n = 0 then chN L add r else r.n) else tbN L
def doL (L : List Ru) (add : Bool) (r : Ru) : List Ru := if doN L add r = 0 then chL L add r else []

/-- An op: its switch, whether it adds, its rule. -/
structure Op8 where
  w : Int
  a : Bool
  r : Ru
/-- Op by op. -/
def alN : List Ru → List Op8 → Int
  | _, [] => 0
  | L, o :: l => if doN L o.a o.r = 0 then alN (doL L o.a o.r) l else doN L o.a o.r
def alL : List Ru → List Op8 → List Ru
  | L, [] => L
  | L, o :: l => if doN L o.a o.r = 0 then alL (doL L o.a o.r) l else []
def taken (L : List Ru) : List Op8 := L.map fun r => ⟨0, false, r⟩
def added (L : List Ru) : List Op8 := L.map fun r => ⟨0, true, r⟩
/-- The fault of two tables. -/
def twN (A B : List Ru) : Int := if tbN A = 0 then tbN B else tbN A
def dfL (A B : List Ru) : List Op8 := if twN A B = 0 then taken (bey A B) ++ added (bey B A) else []
def smB (A B : List Ru) : Bool := if twN A B = 0 then (decide (A.length = B.length) && decide ((bey A B).length = 0)) else false

/-- A right table: twelve at most, each right, no two with one Prio and Cube. -/
theorem tb_iff {L : List Ru} : tbN L = 0 ↔ L.length ≤ 12 ∧ (∀ r ∈ L, r.ok = true) ∧ L.Pairwise (fun a b => keyB a b = false) := by
  rw [tb_0, cl_no, okR, List.all_eq_true, List.pairwise_iff_getElem]
  refine and_congr Iff.rfl (and_congr Iff.rfl ⟨fun h i j hi hj hij => ?_, fun h i j hij hj => ?_⟩)
  · have := h i j hij hj
    rw [getD_at hi, getD_at hj] at this
    exact this
  · rw [getD_at (by omega), getD_at hj]
    exact h i j (by omega) hj hij
theorem key_rf (a : Ru) : keyB a a = true := by simp [keyB, ord_rf]
theorem key_sy {a b : Ru} : keyB a b = keyB b a := by
  cases h : keyB b a
  · exact key_sym h
  · cases h2 : keyB a b
    · rw [key_sym h2] at h; cases h
    · rfl
theorem tb_sub {L M : List Ru} (h : tbN L = 0) (hs : M.Sublist L) : tbN M = 0 := by
  rw [tb_iff] at h ⊢
  exact ⟨Nat.le_trans hs.length_le h.1, fun r hr => h.2.1 r (hs.subset hr), h.2.2.sublist hs⟩
theorem tb_one {L : List Ru} {r : Ru} (h : tbN L = 0) (hr : r.ok = true) (hh : hitB L r = false) (hl : L.length < 12) : tbN (L ++ [r]) = 0 := by
  rw [tb_iff] at h ⊢
  refine ⟨by simp; omega, ?_, ?_⟩
  · intro x hx
    rw [List.mem_append, List.mem_singleton] at hx
    rcases hx with hx | rfl
    · exact h.2.1 x hx
    · exact hr
  · rw [List.pairwise_append]
    refine ⟨h.2.2, List.pairwise_singleton _ _, fun a ha b hb => ?_⟩
    rw [List.mem_singleton] at hb
    subst hb
    simp only [hitB, List.any_eq_false] at hh
    simpa using hh a ha
/-- No two of a right table have one Prio and Cube. -/
theorem tb_key {L : List Ru} (h : tbN L = 0) {a b : Ru} (ha : a ∈ L) (hb : b ∈ L) (hk : keyB a b = true) : a = b := by
  rw [tb_iff] at h
  have hp := h.2.2
  clear h
  induction L with
  | nil => cases ha
  | cons x l ih =>
    rw [List.pairwise_cons] at hp
    rcases List.mem_cons.1 ha with e1 | ha1
    · rcases List.mem_cons.1 hb with e2 | hb1
      · rw [e1, e2]
      · rw [e1, hp.1 b hb1] at hk; cases hk
    · rcases List.mem_cons.1 hb with e2 | hb1
      · rw [e2, key_sy, hp.1 a ha1] at hk; cases hk
      · exact ih ha1 hb1 hp.2
theorem tb_nodup {L : List Ru} (h : tbN L = 0) : L.Nodup := by
  rw [tb_iff] at h
  refine h.2.2.imp ?_
  rintro a b hk rfl
  rw [key_rf] at hk
  cases hk

theorem ix_split {L M : List Ru} {r : Ru} (h : r ∉ L) : ixN (L ++ r :: M) r = L.length := by
  induction L with
  | nil => simp [ixN, List.findIdx_cons, eq_rf]
  | cons x l ih =>
    have h1 : eqR r x = false := eq_no.2 (fun e => h (by rw [e]; exact List.mem_cons_self))
    have h2 := ih (fun hm => h (List.mem_cons_of_mem _ hm))
    simp only [ixN] at h2 ⊢
    rw [List.cons_append, List.findIdx_cons, h1, h2]
    rfl
/-- Taking away a rule that is there once. -/
theorem do_take {A B : List Ru} {r : Ru} (h : tbN (A ++ r :: B) = 0) : doN (A ++ r :: B) false r = 0 ∧ doL (A ++ r :: B) false r = A ++ B := by
  have hm : r ∈ A ++ r :: B := by simp
  have hno : r ∉ A := by
    have := tb_nodup h
    rw [List.nodup_append] at this
    intro hA
    exact this.2.2 r hA r (by simp) rfl
  have hr : r.n = 0 := n_ok ((tb_iff.1 h).2.1 r hm)
  have hc : chN (A ++ r :: B) false r = 0 := by simp [chN, in_iff.2 hm]
  have hd : doN (A ++ r :: B) false r = 0 := by rw [doN, if_pos h, if_pos hr, hc]
  refine ⟨hd, ?_⟩
  rw [doL, if_pos hd, chL, if_pos hc, ix_split hno]
  simp
theorem do_add {L : List Ru} {r : Ru} (h : tbN L = 0) (hr : r.ok = true) (hh : hitB L r = false) (hl : L.length < 12) : doN L true r = 0 ∧ doL L true r = L ++ [r] := by
  have hc : chN L true r = 0 := by
    rw [chN, hh]
    simp
    omega
  have hd : doN L true r = 0 := by rw [doN, if_pos h, if_pos (n_ok hr), hc]
  exact ⟨hd, by rw [doL, if_pos hd, chL, if_pos hc]; rfl⟩
/-- What adding asks. -/
theorem add_yes {L : List Ru} {r : Ru} (h : doN L true r = 0) : tbN L = 0 ∧ r.ok = true ∧ hitB L r = false ∧ L.length < 12 := by
  unfold doN at h
  by_cases h1 : tbN L = 0
  · rw [if_pos h1] at h
    by_cases h2 : r.n = 0
    · rw [if_pos h2, chN] at h
      simp only [if_true] at h
      cases h3 : hitB L r
      · rw [h3] at h
        by_cases h4 : 12 ≤ L.length
        · simp [h4] at h
        · exact ⟨h1, ok_n h2, rfl, by omega⟩
      · rw [h3] at h; simp at h
    · rw [if_neg h2] at h; exact absurd h h2
  · rw [if_neg h1] at h; exact absurd h h1

/-- What goes, one by one. -/
theorem al_take (o : List Ru) (ops : List Op8) : ∀ (A B : List Ru), tbN (A ++ B) = 0 → (∀ r ∈ A, inB o r = true) →
    alN (A ++ B) (taken (bey B o) ++ ops) = alN (A ++ B.filter (inB o)) ops ∧ alL (A ++ B) (taken (bey B o) ++ ops) = alL (A ++ B.filter (inB o)) ops := by
  intro A B
  induction B generalizing A with
  | nil => intro _ _; simp [bey, taken]
  | cons r B ih =>
    intro h hA
    cases hi : inB o r
    · have e : bey (r :: B) o = r :: bey B o := by simp [bey, hi]
      have e2 : (r :: B).filter (inB o) = B.filter (inB o) := by simp [hi]
      obtain ⟨d1, d2⟩ := do_take h
      have h2 : tbN (A ++ B) = 0 := tb_sub h (by
        refine List.Sublist.append (List.Sublist.refl _) ?_
        exact List.sublist_cons_self r B)
      have := ih A h2 hA
      rw [e, e2, taken, List.map_cons, List.cons_append, alN, alL]
      simp only [d1, d2, if_true]
      exact this
    · have e : bey (r :: B) o = bey B o := by simp [bey, hi]
      have e2 : (r :: B).filter (inB o) = r :: B.filter (inB o) := by simp [hi]
      have := ih (A ++ [r]) (by rw [List.append_assoc]; exact h) (by
        intro x hx
        rw [List.mem_append, List.mem_singleton] at hx
        rcases hx with hx | rfl
        · exact hA x hx
        · exact hi)
      rw [e, e2]
      rw [List.append_assoc, List.append_assoc] at this
      exact this
/-- What comes, one by one. -/
theorem al_add (o : List Ru) (ho : tbN o = 0) : ∀ (A B : List Ru), tbN A = 0 → (A ++ B).Nodup → (∀ r ∈ A ++ B, r ∈ o) → (A ++ B).length ≤ o.length → alN A (added B) = 0 ∧ alL A (added B) = A ++ B := by
  intro A B
  induction B generalizing A with
  | nil => intro _ _ _ _; simp [added, alN, alL]
  | cons r B ih =>
    intro hA hn hm hl
    have hro : r ∈ o := hm r (by simp)
    have hr : r.ok = true := (tb_iff.1 ho).2.1 r hro
    have hh : hitB A r = false := by
      simp only [hitB, List.any_eq_false]
      intro a ha hk
      have hao : a ∈ o := hm a (by simp [ha])
      have := tb_key ho hao hro hk
      rw [List.nodup_append] at hn
      exact hn.2.2 a ha r (by simp) this
    have hlen : A.length < 12 := by
      have := (tb_iff.1 ho).1
      simp at hl
      omega
    obtain ⟨d1, d2⟩ := do_add hA hr hh hlen
    have e : A ++ r :: B = (A ++ [r]) ++ B := by simp
    have := ih (A ++ [r]) (tb_one hA hr hh hlen) (by rw [← e]; exact hn) (by rw [← e]; exact hm) (by rw [← e]; exact hl)
    rw [added, List.map_cons, alN, alL]
    simp only [d1, d2, if_true]
    rw [e]
    exact this
theorem nodup_sub {M L : List Ru} (hn : M.Nodup) (h : ∀ r ∈ M, r ∈ L) : M.length ≤ L.length := by
  induction M generalizing L with
  | nil => simp
  | cons x m ih =>
    rw [List.nodup_cons] at hn
    obtain ⟨A, B, rfl⟩ := List.append_of_mem (h x (by simp))
    have := ih (L := A ++ B) hn.2 (fun r hr => by
      have := h r (by simp [hr])
      rw [List.mem_append, List.mem_cons] at this
      rw [List.mem_append]
      rcases this with h1 | rfl | h1
      · exact .inl h1
      · exact absurd hr hn.1
      · exact .inr h1)
    simp at this ⊢
    omega
/-- What is between two makes of the one the other. -/
theorem al_diff {A B : List Ru} (h : twN A B = 0) : alN A (dfL A B) = 0 ∧ smB (alL A (dfL A B)) B = true ∧ twN (alL A (dfL A B)) B = 0 := by
  obtain ⟨hA, hB⟩ : tbN A = 0 ∧ tbN B = 0 := by
    unfold twN at h
    by_cases h1 : tbN A = 0
    · rw [if_pos h1] at h; exact ⟨h1, h⟩
    · rw [if_neg h1] at h; exact absurd h h1
  have e1 : dfL A B = taken (bey A B) ++ added (bey B A) := by rw [dfL, if_pos h]
  have h1 := al_take B (added (bey B A)) [] A hA (by simp)
  simp only [List.nil_append] at h1
  have hF : tbN (A.filter (inB B)) = 0 := tb_sub hA List.filter_sublist
  have hnd : (A.filter (inB B) ++ bey B A).Nodup := by
    rw [List.nodup_append]
    refine ⟨(tb_nodup hA).sublist List.filter_sublist, (tb_nodup hB).sublist List.filter_sublist, ?_⟩
    rintro a ha b hb rfl
    rw [List.mem_filter] at ha
    rw [bey, List.mem_filter] at hb
    have := in_iff.2 ha.1
    rw [this] at hb
    simp at hb
  have hmem : ∀ r ∈ A.filter (inB B) ++ bey B A, r ∈ B := by
    intro r hr
    rw [List.mem_append] at hr
    rcases hr with hr | hr
    · exact in_iff.1 (List.mem_filter.1 hr).2
    · exact (List.mem_filter.1 hr).1
  have h2 := al_add B hB (A.filter (inB B)) (bey B A) hF hnd hmem (nodup_sub hnd hmem)
  have hlen : (A.filter (inB B) ++ bey B A).length = B.length := by
    refine Nat.le_antisymm (nodup_sub hnd hmem) (nodup_sub (tb_nodup hB) fun r hr => ?_)
    rw [List.mem_append]
    cases hi : inB A r
    · exact .inr (List.mem_filter.2 ⟨hr, by simp [hi]⟩)
    · exact .inl (List.mem_filter.2 ⟨in_iff.1 hi, in_iff.2 hr⟩)
  have hbey : (bey (A.filter (inB B) ++ bey B A) B) = [] := by
    rw [bey, List.filter_eq_nil_iff]
    intro r hr
    simp [in_iff.2 (hmem r hr)]
  have hT : tbN (A.filter (inB B) ++ bey B A) = 0 := by
    rw [tb_iff]
    refine ⟨by rw [hlen]; exact (tb_iff.1 hB).1, fun r hr => (tb_iff.1 hB).2.1 r (hmem r hr), ?_⟩
    have := hnd
    unfold List.Nodup at this
    refine (List.Pairwise.and_mem.1 this).imp ?_
    rintro a b ⟨ha, hb, hne⟩
    cases hk : keyB a b
    · rfl
    · exact absurd (tb_key hB (hmem a ha) (hmem b hb) hk) hne
  have ht2 : twN (A.filter (inB B) ++ bey B A) B = 0 := by rw [twN, if_pos hT, hB]
  rw [e1, h1.1, h1.2, h2.1, h2.2]
  refine ⟨rfl, ?_, ht2⟩
  rw [smB, if_pos ht2, hlen, hbey]
  simp
/-- A rule that is added and taken away leaves a table as it was, and makes another one meanwhile. -/
theorem do_back {L : List Ru} {r : Ru} (h : doN L true r = 0) : doL L true r = L ++ [r] ∧ doN (L ++ [r]) false r = 0 ∧ doL (L ++ [r]) false r = L ∧ twN (L ++ [r]) L = 0 ∧ smB (L ++ [r]) L = false := by
  obtain ⟨h1, h2, h3, h4⟩ := add_yes h
  have hT := tb_one h1 h2 h3 h4
  have := do_take (A := L) (B := []) (r := r) hT
  rw [List.append_nil] at this
  have h5 : twN (L ++ [r]) L = 0 := by rw [twN, if_pos hT, h1]
  refine ⟨(do_add h1 h2 h3 h4).2, this.1, this.2, h5, ?_⟩
  rw [smB, if_pos h5]
  simp
end Go.Proofs.Ytfbocionnjlilad
/- The walk of ClassSplits: it answers true, whatever table and cube it is called with, where one rule more has room. -/
namespace Go.Proofs.Ytfbocionnjlilad
open Go.RowKit
set_option linter.unusedSimpArgs false
set_option linter.unusedVariables false

theorem sr_GS {w : World} {v : Value} {L : List Ru} (h : SR w v L) : GS rlE w v L := by
  rcases h with h | ⟨g, o, cap, h1, h2, h3, h4⟩
  · exact .inl h
  · refine .inr ⟨g, o, cap, h1, h2, h3, fun i hi j u hu => ?_⟩
    obtain ⟨c0, c1, c2, c3, c4, c5⟩ := h4 i hi
    match j, hu with
    | 0, hu => cases hu; exact c0
    | 1, hu => cases hu; exact c1
    | 2, hu => cases hu; exact c2
    | 3, hu => cases hu; exact c3
    | 4, hu => cases hu; exact c4
    | 5, hu => cases hu; exact c5
/-- A cube in its box, a list among lists, and two of its numbers. -/
def CS6 (wr : World) (c : Nat) (m b : Int) (g6 q6 : Nat) (v7 : Value) (g7 q3 : Nat) (x3 : Int) (q0 : Nat) (x0 : Int) (w' : World) : Prop :=
  Below wr.heap.size wr w' ∧ w'.cell? ⟨c, 0, none⟩ = some (.int .i64 m) ∧ w'.cell? ⟨c, 1, none⟩ = some (.int .i64 b) ∧ w'.cell? ⟨g6, q6, none⟩ = some v7 ∧ w'.cell? ⟨g7, q3, none⟩ = some (.int .i64 x3) ∧ w'.cell? ⟨g7, q0, none⟩ = some (.int .i64 x0)
theorem CS6.later {wr W W' : World} {c : Nat} {m b : Int} {g6 q6 : Nat} {v7 : Value} {g7 q3 : Nat} {x3 : Int} {q0 : Nat} {x0 : Int} (hb : Below W.heap.size W W') (h : CS6 wr c m b g6 q6 v7 g7 q3 x3 q0 x0 W) : CS6 wr c m b g6 q6 v7 g7 q3 x3 q0 x0 W' := by
  obtain ⟨h0, h1, h2, h3, h4, h5⟩ := h
  exact ⟨h0.trans (hb.mono h0.size), cell_later hb h1, cell_later hb h2, cell_later hb h3, cell_later hb h4, cell_later hb h5⟩
theorem of_nil : ofL [] = [[0, 1, 2, 3, 4, 5, 6, 7, 8, 9, 10, 11, 12, 13, 14, 15]] := by decide +kernel
/-- All rules of a right table are below one of Prio 99, if none has it. -/
theorem below99 {L : List Ru} (h : tbN L = 0) (h9 : ∀ x ∈ L, x.p ≠ 99) (m b o s v : Int) : ∀ x ∈ L, x.p < (⟨99, m, b, o, s, v⟩ : Ru).p := by
  intro x hx
  have h1 := (tb_iff.1 h).2.1 x hx
  have h2 : ruOk x.p x.m x.b x.o x.s x.v = true := h1
  have h3 := (ru_ok h2).1
  have h4 := h9 x hx
  unfold ruIn ruP at h3
  simp only [Bool.and_eq_true, decide_eq_true_eq] at h3
  show x.p < 99
  omega
theorem cls_in {Ts : List (List Ru)} {k : Nat} (hk : k < (clsL Ts).length) : (clsL Ts).getD k [] ∈ clsL Ts := by
  rw [show (clsL Ts).getD k [] = (clsL Ts)[k] by simp [List.getD, hk]]
  exact List.getElem_mem hk

namespace classSplits
set_option maxHeartbeats 8000000 in
set_option maxRecDepth 100000 in
theorem walk (ao : Option Addr) (n cap : Nat) (m b : Int) (L : List Ru) (w : World) (hs : SR w (.slice ao n cap) L) (h47 : (n + 1) * 48 ≤ 140737488355328) :
    Calls Try.prog 4 #[.slice ao n cap, .agg #[.int .i64 m, .int .i64 b]] w fun e w' => e = .returned (.bool true) ∧ Below w.heap.size w w' := by
  have hb0 : Below w.heap.size w (w.alloc (Obj.cells #[.int .i64 m, .int .i64 b] 35)) := (Below.refl _ _).alloc (Nat.le_refl _) _
  have hc0 : (w.alloc (Obj.cells #[.int .i64 m, .int .i64 b] 35)).cell? ⟨w.heap.size, 0, none⟩ = some (.int .i64 m) ∧ (w.alloc (Obj.cells #[.int .i64 m, .int .i64 b] 35)).cell? ⟨w.heap.size, 1, none⟩ = some (.int .i64 b) := ⟨by simp, by simp⟩
  obtain ⟨w0, hw0⟩ : ∃ W, w.alloc (Obj.cells #[.int .i64 m, .int .i64 b] 35) = W := ⟨_, rfl⟩
  rw [hw0] at hb0 hc0
  have HW0 : Hid (w.alloc (Obj.cells #[.int .i64 m, .int .i64 b] 35) = w0) := hw0
  have HB0 : Hid (Below w.heap.size w w0) := hb0
  have HC0 : Hid (w0.cell? ⟨w.heap.size, 0, none⟩ = some (.int .i64 m) ∧ w0.cell? ⟨w.heap.size, 1, none⟩ = some (.int .i64 b)) := hc0
  have HSW : Hid (∀ W, Below w.heap.size w W → SR W (.slice ao n cap) L) := fun W hb => hs.later hb
  obtain ⟨_, _, _, e0, hn, hnm, _, hna⟩ := hs.form
  cases e0
  have HN : Hid (L.length = n) := hn
  have HNA : Hid (0 < n → ∃ g o, ao = some ⟨g, o, none⟩ ∧ RAt w g o L ∧ cap ≤ maxLen) := hna
  have n63 : n ≤ 9223372036854775806 := by omega
  have H47 : Hid ((n + 1) * 48 ≤ 140737488355328) := h47
  obtain ⟨i0, hi, hz0, hz1, hz2⟩ := info_parts infoRule
  clear hs hn hnm hna hb0 hc0 hw0 h47
  go_enter Try.func4, Try.ntmps4
  go_upto_region 1 with fail
  rw [HW0.out]
  clear HW0
  go_wp2_with fail
  refine (of_any none 0 0 [] _ (.inl ⟨none, 0, rfl, rfl⟩)).mono ?_
  rintro e w1 ⟨v1, rfl, hf1, hb1⟩
  rw [show tbN [] = 0 from rfl, no_ok rfl]
  rw [of_nil] at hf1
  obtain ⟨a1, n1, c1, rfl, en1, _, _, ha1⟩ := hf1.form
  obtain rfl : n1 = 1 := by simpa using en1.symm
  obtain ⟨g1, o1, rfl, hl1, _⟩ := ha1 (by omega)
  obtain ⟨a2, n2, c2, q0, hG2⟩ := hl1 0 (by simp)
  obtain rfl : n2 = 16 := by simpa using hG2.len.symm
  simp only [Nat.add_zero] at q0
  have HB1 : Hid (Below w.heap.size w w1) := HB0.out.trans (hb1.mono HB0.out.size)
  have HC1 : Hid (w1.cell? ⟨w.heap.size, 0, none⟩ = some (.int .i64 m) ∧ w1.cell? ⟨w.heap.size, 1, none⟩ = some (.int .i64 b)) := ⟨cell_later hb1 HC0.out.1, cell_later hb1 HC0.out.2⟩
  clear hf1 hb1 en1 ha1 hl1 hG2
  go_wp2_with fail
  refine (of_any ao n cap L _ (HSW.out _ HB1.out)).mono ?_
  rintro e w2 ⟨v2, rfl, hf2, hb2⟩
  obtain ⟨a5, n5, c5, rfl, hn5, _, _, _⟩ := hf2.form
  obtain ⟨N1, hN1⟩ : ∃ N, N = tbN L := ⟨_, rfl⟩
  have HN1 : Hid (N1 = tbN L) := hN1
  rw [← hN1]
  have HN5 : Hid ((ofL L).length = n5) := hn5
  have HB2 : Hid (Below w.heap.size w w2) := HB1.out.trans (hb2.mono HB1.out.size)
  have HC2 : Hid (w2.cell? ⟨w.heap.size, 0, none⟩ = some (.int .i64 m) ∧ w2.cell? ⟨w.heap.size, 1, none⟩ = some (.int .i64 b)) := ⟨cell_later hb2 HC1.out.1, cell_later hb2 HC1.out.2⟩
  clear hf2 hb2 hn5 hN1 q0
  go_upto_region 6 with fail
  go_wp2_with (at_builtin; refine wpList_append_GS (E := rlE) _ rfl _ _ 39 37 rfl Try.underlying39 i0 (.agg #[.int .i64 0, .int .i64 0, .int .i64 0, .int .i64 0, .int .i64 0, .int .i64 0]) 48 hi hz0 hz1 hz2 sixCells w2.heap.size (.slice none 0 0) rfl [] (World.ownsRow_nil _ _ _ _) _ rfl L (sr_GS (HSW.out _ HB2.out)) ?a1 ?a2 ?a3 ?_)
  case a1 => have := HN.out; have := H47.out; unfold maxLen; simp; omega
  case a2 => have := HN.out; have := H47.out; simp; omega
  case a3 => exact Nat.le_refl _
  intro v3 w3 ho3 hg3
  try rw [List.nil_append] at ho3
  have hb3 : Below w2.heap.size w2 w3 := (Below.refl _ w2).grown hg3 (Nat.le_refl _) (fun g hg => by cases hg)
  obtain ⟨a3, c3, hv3⟩ := own_form ho3
  subst hv3
  have HO3 : Hid (w3.ownsRow w2.heap.size 37 rlE.n (.slice a3 L.length c3) L.length (cellsG rlE L)) := ho3
  have HB3 : Hid (Below w.heap.size w w3) := HB2.out.trans (hb3.mono HB2.out.size)
  have HS3 : Hid (w2.heap.size ≤ w3.heap.size) := hb3.size
  have hc3 : w3.cell? ⟨w.heap.size, 0, none⟩ = some (.int .i64 m) ∧ w3.cell? ⟨w.heap.size, 1, none⟩ = some (.int .i64 b) := ⟨cell_later hb3 HC2.out.1, cell_later hb3 HC2.out.2⟩
  obtain ⟨k0, k1⟩ := hc3
  have HK3 : Hid (w3.cell? ⟨w.heap.size, 0, none⟩ = some (.int .i64 m) ∧ w3.cell? ⟨w.heap.size, 1, none⟩ = some (.int .i64 b)) := ⟨k0, k1⟩
  obtain ⟨n3, hn3⟩ : ∃ q, q = L.length := ⟨_, rfl⟩
  rw [← hn3]
  have HN3 : Hid (L.length = n3) := hn3.symm
  clear ho3 hg3 hb3 hn3
  go_upto_region 7 with fail
  go_wp2_with (at_builtin; refine wpList_append_blk (E := rlE) _ rfl _ _ 39 37 rfl Try.underlying39 i0 (.agg #[.int .i64 0, .int .i64 0, .int .i64 0, .int .i64 0, .int .i64 0, .int .i64 0]) 48 hi hz0 hz1 hz2 sixCells w2.heap.size (.slice a3 n3 c3) rfl L ?m0 w3.heap.size 0 1 rfl ⟨99, m, b, 3, 0, 0⟩ (rl_new w3 99 m b 3 0 0 37) ?m1 ?m2 ?m3 ?_)
  case m0 => rw [← HN3.out]; exact HO3.out.alloc _
  case m1 => have := HN.out; have := H47.out; unfold maxLen; omega
  case m2 => have := HN.out; have := H47.out; omega
  case m3 => have := HS3.out; simp; omega
  intro v4 w4 ho4 hg4 _
  have hs4 : SR w4 v4 (L ++ [⟨99, m, b, 3, 0, 0⟩]) := gs_SR (own_GS (E := rlE) (by first | exact ho4 | (rw [List.length_append]; exact ho4)))
  have hb4 : Below w2.heap.size w3 w4 := ((Below.refl _ w3).alloc HS3.out _).grown hg4 (by have := HS3.out; simp; omega) (fun g hg => (HO3.out.lt g (by rw [HN3.out]; exact hg)).1)
  obtain ⟨a4, n4, c4, rfl, _, _, _, _⟩ := hs4.form
  have HS4 : Hid (SR w4 (.slice a4 n4 c4) (L ++ [⟨99, m, b, 3, 0, 0⟩])) := hs4
  have HB4 : Hid (Below w.heap.size w w4) := HB3.out.trans (hb4.mono HB2.out.size)
  have HL2 : Hid (w.heap.size < w2.heap.size) := World.block_lt_of_cell? _ _ HC2.out.1
  have HC4 : Hid (w4.cell? ⟨w.heap.size, 0, none⟩ = some (.int .i64 m) ∧ w4.cell? ⟨w.heap.size, 1, none⟩ = some (.int .i64 b)) := ⟨(hb4.cell (p := ⟨w.heap.size, 0, none⟩) HL2.out).trans HK3.out.1, (hb4.cell (p := ⟨w.heap.size, 1, none⟩) HL2.out).trans HK3.out.2⟩
  clear hs4 hb4 hg4 ho4 k0 k1 HO3 HC2 HC1 HC0 HK3
  go_wp2
  go_loopw [10] (fun i wr => ∃ k : Nat, k ≤ n ∧ i = .int .i64 k ∧ (∀ x ∈ L.take k, x.p ≠ 99) ∧ wr = w4) (fun i _ => n - (intOf i).toNat)
  case atStart => exact ⟨0, by omega, rfl, fun x hx => by simp at hx, rfl⟩
  case round =>
    obtain ⟨k, hk, rfl, hno, hwr⟩ := hrel
    subst hwr
    have HNO : Hid (∀ x ∈ L.take k, x.p ≠ 99) := hno
    clear hno
    by_cases hlt : k < n
    · obtain ⟨_, _, _, e7, _, _, _, ha7⟩ := (HSW.out _ HB4.out).form
      cases e7
      obtain ⟨g, o, hao, hc, _⟩ := ha7 (by omega)
      subst hao
      obtain ⟨rp, rm, rb, ro, rs, rv, hl, hLk, q0, q1, q2, q3, q4, q5⟩ := hc.at HN.out hlt
      have HLK : Hid (L[k] = ⟨rp, rm, rb, ro, rs, rv⟩) := hLk
      clear ha7 hc hLk
      by_cases h9 : rp = 99
      · subst h9
        go_wp2
        go_ret
        exact ⟨rfl, HB4.out⟩
      · have h9b : (rp == 99) = false := by simpa using h9
        go_wp2
        go_roundw
        case rel => exact ⟨k + 1, by omega, by go_num, fun x hx => by
          rw [List.take_succ_eq_append_getElem hl, List.mem_append] at hx
          rcases hx with hx | hx
          · exact HNO.out x hx
          · simp only [List.mem_singleton] at hx
            rw [hx, HLK.out]
            exact h9, trivial⟩
        case measure => simp [intOf]; omega
    · obtain rfl : k = n := by omega
      have HNO2 : Hid (∀ x ∈ L, x.p ≠ 99) := by
        have := HNO.out
        rw [List.take_of_length_le (by rw [HN.out]; exact Nat.le_refl _)] at this
        exact this
      go_wp2_with fail
      refine (of_any a4 n4 c4 _ _ HS4.out).mono ?_
      rintro e w5 ⟨v5, rfl, hf5, hb5⟩
      obtain ⟨a6, n6, c6, rfl, hn6, hm6, _, ha6⟩ := hf5.form
      obtain ⟨N2, hN2⟩ : ∃ N, N = tbN (L ++ [⟨99, m, b, 3, 0, 0⟩]) := ⟨_, rfl⟩
      have HN2 : Hid (N2 = tbN (L ++ [⟨99, m, b, 3, 0, 0⟩])) := hN2
      rw [← hN2]
      have HB5 : Hid (Below w.heap.size w w5) := HB4.out.trans (hb5.mono HB4.out.size)
      have HC5 : Hid (w5.cell? ⟨w.heap.size, 0, none⟩ = some (.int .i64 m) ∧ w5.cell? ⟨w.heap.size, 1, none⟩ = some (.int .i64 b)) := ⟨cell_later hb5 HC4.out.1, cell_later hb5 HC4.out.2⟩
      have HN6 : Hid ((ofL (L ++ [⟨99, m, b, 3, 0, 0⟩])).length = n6) := hn6
      have HA6 : Hid (0 < n6 → ∃ g o, a6 = some ⟨g, o, none⟩ ∧ ILAt w5 g o (ofL (L ++ [⟨99, m, b, 3, 0, 0⟩])) ∧ c6 ≤ maxLen) := ha6
      clear hf5 hb5 hn6 hN2 ha6 hm6 HS4 HC4
      by_cases hz1 : N1 = 0
      · subst hz1
        rw [no_ok rfl]
        by_cases hz2 : N2 = 0
        · subst hz2
          rw [no_ok rfl]
          have HOF : Hid (ofL (L ++ [⟨99, m, b, 3, 0, 0⟩]) = clsL [L ++ [⟨99, m, b, 3, 0, 0⟩]]) := by
            show _ = _
            rw [ofL, if_pos HN2.out.symm]
          have HOL : Hid (ofL L = clsL [L]) := by
            show _ = _
            rw [ofL, if_pos HN1.out.symm]
          have h6a : 1 ≤ n6 := by
            have := HN6.out
            rw [HOF.out] at this
            rw [← this]
            exact cls_pos _
          have h6b : n6 ≤ 16 := by
            have := HN6.out
            rw [HOF.out] at this
            rw [← this]
            exact cls_le _
          have h5b : n5 ≤ 16 := by
            have := HN5.out
            rw [HOL.out] at this
            rw [← this]
            exact cls_le _
          have HP : Hid (∀ x ∈ L, x.p < (⟨99, m, b, 3, 0, 0⟩ : Ru).p) := below99 HN1.out.symm HNO2.out _ _ _ _ _
          have h65 : n6 ≤ n5 + 1 := by
            have h1 := more_few HP.out
            have h2 := HN6.out
            have h3 := HN5.out
            rw [HOF.out] at h2
            rw [HOL.out] at h3
            omega
          have i65 : (n6 : Int) ≤ (n5 : Int) + 1 := by omega
          have i61 : (1 : Int) ≤ (n6 : Int) := by omega
          have w5n : IntKind.i64.wrap ((n5 : Int) + 1) = (n5 : Int) + 1 := by
            rw [show (n5 : Int) + 1 = ((n5 + 1 : Nat) : Int) by omega]
            exact wrap_small (by omega) (by omega)
          go_wp2
          go_loopw [13] (fun i wr => ∃ k : Nat, k ≤ n6 ∧ i = .int .i64 k ∧ Below w5.heap.size w5 wr) (fun i _ => n6 - (intOf i).toNat)
          case atStart => exact ⟨0, by omega, rfl, Below.refl _ _⟩
          case round =>
            obtain ⟨k2, hk2, rfl, hB6⟩ := hrel
            obtain ⟨wo, hwo⟩ : ∃ X, X = wr := ⟨_, rfl⟩
            subst hwo
            have HB6 : Hid (Below w5.heap.size w5 wo) := hB6
            have HBw6 : Hid (Below w.heap.size w wo) := HB5.out.trans (hB6.mono HB5.out.size)
            clear hB6
            by_cases hlt2 : k2 < n6
            · obtain ⟨g6, o6, ha6, hl6, _⟩ := HA6.out (by omega)
              subst ha6
              obtain ⟨a7, n7, c7, q7, hG7⟩ := (hl6.later HB6.out).at HN6.out hlt2
              have HCI : Hid ((ofL (L ++ [⟨99, m, b, 3, 0, 0⟩])).getD k2 [] ∈ clsL [L ++ [⟨99, m, b, 3, 0, 0⟩]]) := by
                show _ ∈ _
                rw [HOF.out]
                refine cls_in ?_
                have := HN6.out
                rw [HOF.out] at this
                omega
              obtain ⟨C, hC⟩ : ∃ C, C = (ofL (L ++ [⟨99, m, b, 3, 0, 0⟩])).getD k2 [] := ⟨_, rfl⟩
              rw [← hC] at hG7 HCI
              have HG7 : Hid (GS inE wo (.slice a7 n7 c7) C) := hG7
              have hn7 := hG7.len
              have HN7 : Hid (C.length = n7) := hn7
              have h7s := cls_size _ C HCI.out
              have h7a : 1 ≤ n7 := by omega
              have h7b : n7 ≤ 16 := by omega
              have HQ7 : Hid (wo.cell? ⟨g6, o6 + k2, none⟩ = some (.slice a7 n7 c7)) := q7
              obtain ⟨_, _, _, e8, _, _, _, ha8⟩ := hG7.form
              cases e8
              obtain ⟨g7, o7, ha7, hc7, _⟩ := ha8 (by omega)
              subst ha7
              have HC7 : Hid (GAt inE wo g7 o7 C) := hc7
              have k2b0 : (0 : Int) ≤ (k2 : Int) := by omega
              have k2b1 : (k2 : Int) < (n6 : Int) := by omega
              clear hl6 hC hG7 hn7 h7s ha8 hc7 q7
              go_upto_region 20 with fail
              go_loopw [14] (fun i wr => ∃ k : Nat, 1 ≤ k ∧ k ≤ n7 ∧ i = .int .i64 k ∧ Below wo.heap.size wo wr) (fun i _ => n7 - (intOf i).toNat)
              case atStart => exact ⟨1, by omega, by omega, rfl, Below.refl _ _⟩
              case round =>
                obtain ⟨k3, hk31, hk3, rfl, hB7⟩ := hrel
                have HB7 : Hid (Below wo.heap.size wo wr) := hB7
                have q7 := cell_later hB7 HQ7.out
                by_cases hlt3 : k3 < n7
                · obtain ⟨x3, hx3, hC3, p3⟩ := in_at (HC7.out.later hB7) HN7.out hlt3
                  obtain ⟨x0, hx0, hC0, p0⟩ := in_at (HC7.out.later hB7) HN7.out (show 0 < n7 by omega)
                  simp only [Nat.add_zero] at p0
                  have hc8 : wr.cell? ⟨w.heap.size, 0, none⟩ = some (.int .i64 m) ∧ wr.cell? ⟨w.heap.size, 1, none⟩ = some (.int .i64 b) := ⟨cell_later hB7 (cell_later HB6.out HC5.out.1), cell_later hB7 (cell_later HB6.out HC5.out.2)⟩
                  obtain ⟨k0, k1⟩ := hc8
                  obtain ⟨Hh, hHh⟩ : ∃ H, H = hasB m b x3 := ⟨_, rfl⟩
                  have HE1 : Hid (hasB m b x3 = Hh) := hHh.symm
                  have HE2 : Hid (hasB m b x0 = Hh) := by
                    have := more_apart (r := ⟨99, m, b, 3, 0, 0⟩) HP.out HCI.out (x := x0) (y := x3) (by rw [← hC0]; exact List.getElem_mem _) (by rw [← hC3]; exact List.getElem_mem _)
                    show _ = _
                    rw [hHh]
                    exact this
                  have k3b0 : (0 : Int) ≤ (k3 : Int) := by omega
                  have k3b1 : (k3 : Int) < (n7 : Int) := by omega
                  have k30 : (0 : Int) < (n7 : Int) := by omega
                  have hn70 : ¬ n7 = 0 := by omega
                  have HCS : Hid (CS6 wr w.heap.size m b g6 (o6 + k2) (.slice (some ⟨g7, o7, none⟩) n7 c7) g7 (o7 + k3) x3 o7 x0 wr) := ⟨Below.refl _ _, k0, k1, q7, p3, p0⟩
                  clear hHh hC3 hC0 k0 k1 p3 p0
                  go_upto_region 22 with fail
                  clear q7
                  refine wp_region_quiet (C := CS6 wr w.heap.size m b g6 (o6 + k2) (.slice (some ⟨g7, o7, none⟩) n7 c7) g7 (o7 + k3) x3 o7 x0) (by kernel_rfl) (by kernel_rfl) (CS6.later (W := wr) (Below.drew (Below.refl _ _)) HCS.out) ?_
                  simp only [List.toList_toArray]
                  go_big_quiet_want
                  refine quiet_val (v := .agg #[.int .i64 m, .int .i64 b]) (fun w' hC => ?_) ?_
                  · obtain ⟨z0, z1, z2, z3, z4, z5⟩ := hC
                    go_simp
                  simp only [Act.put, List.setIfInBounds_toArray, List.set_cons_zero, List.set_cons_succ]
                  go_big_quiet_on
                  go_big_quiet_want
                  refine quiet_val (v := .slice (some ⟨g6, o6, none⟩) n6 c6) (fun w' hC => ?_) ?_
                  · obtain ⟨z0, z1, z2, z3, z4, z5⟩ := hC
                    go_simp
                  simp only [Act.put, List.setIfInBounds_toArray, List.set_cons_zero, List.set_cons_succ]
                  go_big_quiet_on
                  go_big_quiet_want
                  refine quiet_val (v := .int .i64 (k2 : Int)) (fun w' hC => ?_) ?_
                  · obtain ⟨z0, z1, z2, z3, z4, z5⟩ := hC
                    go_simp
                  simp only [Act.put, List.setIfInBounds_toArray, List.set_cons_zero, List.set_cons_succ]
                  go_big_quiet_on
                  go_big_quiet_want
                  refine quiet_val (v := .pointer (some ⟨g6, o6 + k2, none⟩)) (fun w' hC => ?_) ?_
                  · obtain ⟨z0, z1, z2, z3, z4, z5⟩ := hC
                    go_simp
                  simp only [Act.put, List.setIfInBounds_toArray, List.set_cons_zero, List.set_cons_succ]
                  go_big_quiet_on
                  go_big_quiet_want
                  refine quiet_val (v := .slice (some ⟨g7, o7, none⟩) n7 c7) (fun w' hC => ?_) ?_
                  · obtain ⟨z0, z1, z2, z3, z4, z5⟩ := hC
                    go_simp
                  simp only [Act.put, List.setIfInBounds_toArray, List.set_cons_zero, List.set_cons_succ]
                  go_big_quiet_on
                  go_big_quiet_want
                  refine quiet_val (v := .int .i64 (k3 : Int)) (fun w' hC => ?_) ?_
                  · obtain ⟨z0, z1, z2, z3, z4, z5⟩ := hC
                    go_simp
                  simp only [Act.put, List.setIfInBounds_toArray, List.set_cons_zero, List.set_cons_succ]
                  go_big_quiet_on
                  go_big_quiet_want
                  refine quiet_val (v := .pointer (some ⟨g7, o7 + k3, none⟩)) (fun w' hC => ?_) ?_
                  · obtain ⟨z0, z1, z2, z3, z4, z5⟩ := hC
                    go_simp
                  simp only [Act.put, List.setIfInBounds_toArray, List.set_cons_zero, List.set_cons_succ]
                  go_big_quiet_on
                  go_big_quiet_want
                  refine quiet_val (v := .int .i64 x3) (fun w' hC => ?_) ?_
                  · obtain ⟨z0, z1, z2, z3, z4, z5⟩ := hC
                    go_simp
                  simp only [Act.put, List.setIfInBounds_toArray, List.set_cons_zero, List.set_cons_succ]
                  go_big_quiet_on
                  go_big_quiet_want
                  refine quiet_call (f := 10) (args := #[.agg #[.int .i64 m, .int .i64 b], .int .i64 x3]) (v := .bool Hh) (fun w' => ?_) (fun w' hC => (has_any m b x3 w').mono (fun e w2 h2 => ⟨by rw [h2.1, HE1.out], CS6.later h2.2 hC⟩)) ?_
                  · go_simp
                  simp only [Act.put, List.setIfInBounds_toArray, List.set_cons_zero, List.set_cons_succ]
                  go_big_quiet_on
                  go_big_quiet_want
                  refine quiet_val (v := .agg #[.int .i64 m, .int .i64 b]) (fun w' hC => ?_) ?_
                  · obtain ⟨z0, z1, z2, z3, z4, z5⟩ := hC
                    go_simp
                  simp only [Act.put, List.setIfInBounds_toArray, List.set_cons_zero, List.set_cons_succ]
                  go_big_quiet_on
                  go_big_quiet_want
                  refine quiet_val (v := .slice (some ⟨g6, o6, none⟩) n6 c6) (fun w' hC => ?_) ?_
                  · obtain ⟨z0, z1, z2, z3, z4, z5⟩ := hC
                    go_simp
                  simp only [Act.put, List.setIfInBounds_toArray, List.set_cons_zero, List.set_cons_succ]
                  go_big_quiet_on
                  go_big_quiet_want
                  refine quiet_val (v := .int .i64 (k2 : Int)) (fun w' hC => ?_) ?_
                  · obtain ⟨z0, z1, z2, z3, z4, z5⟩ := hC
                    go_simp
                  simp only [Act.put, List.setIfInBounds_toArray, List.set_cons_zero, List.set_cons_succ]
                  go_big_quiet_on
                  go_big_quiet_want
                  refine quiet_val (v := .pointer (some ⟨g6, o6 + k2, none⟩)) (fun w' hC => ?_) ?_
                  · obtain ⟨z0, z1, z2, z3, z4, z5⟩ := hC
                    go_simp
                  simp only [Act.put, List.setIfInBounds_toArray, List.set_cons_zero, List.set_cons_succ]
                  go_big_quiet_on
                  go_big_quiet_want
                  refine quiet_val (v := .slice (some ⟨g7, o7, none⟩) n7 c7) (fun w' hC => ?_) ?_
                  · obtain ⟨z0, z1, z2, z3, z4, z5⟩ := hC
                    go_simp
                  simp only [Act.put, List.setIfInBounds_toArray, List.set_cons_zero, List.set_cons_succ]
                  go_big_quiet_on
                  go_big_quiet_want
                  refine quiet_val (v := .pointer (some ⟨g7, o7, none⟩)) (fun w' hC => ?_) ?_
                  · obtain ⟨z0, z1, z2, z3, z4, z5⟩ := hC
                    go_simp
                  simp only [Act.put, List.setIfInBounds_toArray, List.set_cons_zero, List.set_cons_succ]
                  go_big_quiet_on
                  go_big_quiet_want
                  refine quiet_val (v := .int .i64 x0) (fun w' hC => ?_) ?_
                  · obtain ⟨z0, z1, z2, z3, z4, z5⟩ := hC
                    go_simp
                  simp only [Act.put, List.setIfInBounds_toArray, List.set_cons_zero, List.set_cons_succ]
                  go_big_quiet_on
                  go_big_quiet_want
                  refine quiet_call (f := 10) (args := #[.agg #[.int .i64 m, .int .i64 b], .int .i64 x0]) (v := .bool Hh) (fun w' => ?_) (fun w' hC => (has_any m b x0 w').mono (fun e w2 h2 => ⟨by rw [h2.1, HE2.out], CS6.later h2.2 hC⟩)) ?_
                  · go_simp
                  simp only [Act.put, List.setIfInBounds_toArray, List.set_cons_zero, List.set_cons_succ]
                  go_big_quiet_on
                  go_big_quiet_want
                  refine quiet_val (v := .bool false) (fun w' hC => ?_) ?_
                  · obtain ⟨z0, z1, z2, z3, z4, z5⟩ := hC
                    go_simp
                  simp only [Act.put, List.setIfInBounds_toArray, List.set_cons_zero, List.set_cons_succ]
                  go_big_quiet_on
                  refine wpQuiet_nil ?_
                  intro w' hC
                  have HBY : Hid (Below wr.heap.size wr w') := hC.1
                  clear hC
                  go_wp2
                  go_roundw
                  case rel => exact ⟨k3 + 1, by omega, by omega, by go_num, HB7.out.trans (HBY.out.mono HB7.out.size)⟩
                  case measure => simp [intOf]; omega
                · obtain rfl : k3 = n7 := by omega
                  go_wp2
                  go_roundw
                  case rel => exact ⟨k2 + 1, by omega, by go_num, HB6.out.trans (HB7.out.mono HB6.out.size)⟩
                  case measure => simp [intOf]; omega
            · obtain rfl : k2 = n6 := by omega
              go_wp2
              go_ret
              exact ⟨rfl, HBw6.out⟩
        · rw [no_ne hz2]
          have HZ2 : Hid (N2 ≠ 0) := hz2
          clear hz2
          go_wp2
          go_ret
          exact ⟨rfl, HB5.out⟩
      · rw [no_ne hz1]
        have HZ1 : Hid (N1 ≠ 0) := hz1
        clear hz1
        go_wp2
        go_ret
        exact ⟨rfl, HB5.out⟩
end classSplits
end Go.Proofs.Ytfbocionnjlilad
