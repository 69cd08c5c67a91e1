/- The struct api.Link: its cells, slices of them, == of two, such that came in. Written by mk/struct.py. -/
import Derived.Test.YtfbocionnjliladGen
import Derived.Test.YtfbocionnjliladRows
import Derived.Lib.SmallJoins
import Derived.Laws.StructEq
import Derived.Maps.OwnOps
import Derived.Test.YtfbocionnjliladStSpot
namespace Go.Proofs.Ytfbocionnjlilad
open Go.ChangeShapes Go.WideShapes Go.ChangeAt Go.RowKit Go.Joins
set_option linter.unusedSimpArgs false
set_option linter.unusedVariables false
set_option maxRecDepth 100000

def lnkE : Enc ((Int × Int) × (Int × Int)) where
  c := fun x => [.int .i64 x.1.1, .int .i64 x.1.2, .int .i64 x.2.1, .int .i64 x.2.2]
  n := 4
  len := fun _ => rfl
  pos := by decide
  one := by
    intro x u hu
    simp at hu
    rcases hu with rfl | rfl | rfl | rfl <;> rfl
theorem lnk_cells {w : World} {g o : Nat} {x0 : Int} {x1 : Int} {x2 : Int} {x3 : Int} (h : VAt w g o (lnkE.c ((x0, x1), (x2, x3)))) : w.cell? ⟨g, o, none⟩ = some (.int .i64 x0) ∧ w.cell? ⟨g, o + 1, none⟩ = some (.int .i64 x1) ∧ w.cell? ⟨g, o + 2, none⟩ = some (.int .i64 x2) ∧ w.cell? ⟨g, o + 3, none⟩ = some (.int .i64 x3) :=
  ⟨h 0 _ rfl, h 1 _ rfl, h 2 _ rfl, h 3 _ rfl⟩
theorem lnk_at {w : World} {g o : Nat} {L : List ((Int × Int) × (Int × Int))} (h : GAt lnkE w g o L) {n k : Nat} (hn : L.length = n) (hk : k < n) :
    ∃ (x0 : Int) (x1 : Int) (x2 : Int) (x3 : Int) (hl : k < L.length), L[k] = ((x0, x1), (x2, x3)) ∧ w.cell? ⟨g, o + k * 4, none⟩ = some (.int .i64 x0) ∧ w.cell? ⟨g, o + k * 4 + 1, none⟩ = some (.int .i64 x1) ∧ w.cell? ⟨g, o + k * 4 + 2, none⟩ = some (.int .i64 x2) ∧ w.cell? ⟨g, o + k * 4 + 3, none⟩ = some (.int .i64 x3) :=
  have hl : k < L.length := by omega
  ⟨_, _, _, _, hl, rfl, lnk_cells (h k hl)⟩
theorem lnk_new (w : World) (x0 : Int) (x1 : Int) (x2 : Int) (x3 : Int) (t : TypeId) : VAt (w.alloc (Obj.cells #[.int .i64 x0, .int .i64 x1, .int .i64 x2, .int .i64 x3] t)) w.heap.size 0 (lnkE.c ((x0, x1), (x2, x3))) := vat_new w [.int .i64 x0, .int .i64 x1, .int .i64 x2, .int .i64 x3] t
theorem lnk_row (w : World) (x0 : Int) (x1 : Int) (x2 : Int) (x3 : Int) (t : TypeId) : GS lnkE (w.alloc (Obj.cells #[.int .i64 x0, .int .i64 x1, .int .i64 x2, .int .i64 x3] t)) (.slice (some ⟨w.heap.size, 0, none⟩) 1 1) [((x0, x1), (x2, x3))] := gs_one (E := lnkE) w ((x0, x1), (x2, x3)) t (vs := [.int .i64 x0, .int .i64 x1, .int .i64 x2, .int .i64 x3]) rfl
/-- Are two the same? -/
def lnkB (a b : (Int × Int) × (Int × Int)) : Bool := (a.1.1 == b.1.1) && ((a.1.2 == b.1.2) && ((a.2.1 == b.2.1) && ((a.2.2 == b.2.2))))
theorem lnkB_iff (a b : (Int × Int) × (Int × Int)) : lnkB a b = true ↔ a = b := by
  have e : lnkB a b = ((a.1.1 == b.1.1) && ((a.1.2 == b.1.2) && ((a.2.1 == b.2.1) && ((a.2.2 == b.2.2))))) := rfl
  rw [e]
  simp only [Bool.and_eq_true, beq_iff_eq]
  constructor
  · intro h
    obtain ⟨⟨a0, a1⟩, ⟨a2, a3⟩⟩ := a; obtain ⟨⟨b0, b1⟩, ⟨b2, b3⟩⟩ := b; simp at h ⊢; simp [h]
  · intro h
    subst h
    simp
theorem lnk_ways (x0 : Int) (x1 : Int) (x2 : Int) (x3 : Int) (y0 : Int) (y1 : Int) (y2 : Int) (y3 : Int) :
    ((x0 == y0) = false ∧ lnkB ((x0, x1), (x2, x3)) ((y0, y1), (y2, y3)) = false) ∨
    ((x0 == y0) = true ∧ (x1 == y1) = false ∧ lnkB ((x0, x1), (x2, x3)) ((y0, y1), (y2, y3)) = false) ∨
    ((x0 == y0) = true ∧ (x1 == y1) = true ∧ (x2 == y2) = false ∧ lnkB ((x0, x1), (x2, x3)) ((y0, y1), (y2, y3)) = false) ∨
    ((x0 == y0) = true ∧ (x1 == y1) = true ∧ (x2 == y2) = true ∧ (x3 == y3) = false ∧ lnkB ((x0, x1), (x2, x3)) ((y0, y1), (y2, y3)) = false) ∨
    ((x0 == y0) = true ∧ (x1 == y1) = true ∧ (x2 == y2) = true ∧ (x3 == y3) = true ∧ lnkB ((x0, x1), (x2, x3)) ((y0, y1), (y2, y3)) = true) := by
  have e : lnkB ((x0, x1), (x2, x3)) ((y0, y1), (y2, y3)) = ((x0 == y0) && ((x1 == y1) && ((x2 == y2) && ((x3 == y3))))) := rfl
  rw [e]
  cases h0 : (x0 == y0)
  · simp
  · skip
    cases h1 : (x1 == y1)
    · simp
    · skip
      cases h2 : (x2 == y2)
      · simp
      · skip
        cases h3 : (x3 == y3)
        · simp
        · skip
          simp
set_option maxRecDepth 100000 in
theorem lnk_eq (x0 : Int) (x1 : Int) (x2 : Int) (x3 : Int) (y0 : Int) (y1 : Int) (y2 : Int) (y3 : Int) (w : World) : (Op.equal 75 (.agg #[.int .i64 x0, .int .i64 x1, .int .i64 x2, .int .i64 x3]) (.agg #[.int .i64 y0, .int .i64 y1, .int .i64 y2, .int .i64 y3])).run Try.prog w = .ok (lnkB ((x0, x1), (x2, x3)) ((y0, y1), (y2, y3))) w := by
  unfold Op.equal Op.maxDepth
  rw [run_equalIn_struct w 9999 _ _ _ (by kernel_rfl) (by kernel_rfl)]
  rcases lnk_ways x0 x1 x2 x3 y0 y1 y2 y3 with ⟨e0, e⟩ | ⟨e0, e1, e⟩ | ⟨e0, e1, e2, e⟩ | ⟨e0, e1, e2, e3, e⟩ | ⟨e0, e1, e2, e3, e⟩
  all_goals
    rw [e]
    go_simp
theorem lnk_info : (Try.prog.info? 75).map (fun i => (i.zero, i.size, i.bytes)) = some (some (.agg #[.int .i64 0, .int .i64 0, .int .i64 0, .int .i64 0]), 4, 32) := by kernel_rfl
theorem lnk_zero : (Value.agg #[.int .i64 0, .int .i64 0, .int .i64 0, .int .i64 0]).cells.size = 4 := by simp [Value.cells]
/-- Cells that read as one. -/
theorem lnk_open {H : Type} {enc : TypeId × Value → H} {W : World} {n : Nat} {cs : List Value} {x : DataW H × List MemPlace}
    (h : DataW.trod enc Try.prog W 0 (fun _ => true) true n 75 cs = some x) : ∃ y, cs = lnkE.c y := by
  obtain ⟨xs, k, _, _, hl, hlen, hf⟩ := DataW.trod_struct Try.underlying75 h
  have hC : Try.prog.cellsOf 75 = 4 := by kernel_rfl
  have hT0 : Try.prog.cellsOf 73 = 2 := by kernel_rfl
  rw [hC] at hl
  match cs, hl with
  | [c0, c1, c2, c3], _ =>
    match xs, hlen with
    | [z0, z1], _ =>
      have g0 := hf 0 _ rfl
      have g1 := hf 1 _ rfl
      simp [hT0] at g0 g1
      obtain ⟨s0, e0⟩ := spo_open g0
      obtain ⟨s1, e1⟩ := spo_open g1
      simp [spoE] at e0 e1
      refine ⟨((s0.1, s0.2), (s1.1, s1.2)), ?_⟩
      simp [lnkE, e0, e1]
set_option maxRecDepth 100000 in
/-- One that came in. -/
theorem lnk_of {H : Type} {enc : TypeId × Value → H} {W : World} {base : Nat} {v : Value} {d : DataW H} {p : List MemPlace}
    (hv : Value.okWide Try.prog W .any base 75 v) (h : DataW.Trod enc Try.prog W 0 (fun _ => true) true 75 v d p) : ∃ (x0 : Int) (x1 : Int) (x2 : Int) (x3 : Int), v = .agg #[.int .i64 x0, .int .i64 x1, .int .i64 x2, .int .i64 x3] := by
  obtain ⟨cs, rfl, hsz⟩ := okWide_struct Try.underlying75 hv
  obtain ⟨n, hn⟩ := h
  obtain ⟨y, e⟩ := lnk_open hn
  refine ⟨y.1.1, y.1.2, y.2.1, y.2.2, ?_⟩
  simp only [Value.cells] at e
  have e2 : cs = #[.int .i64 y.1.1, .int .i64 y.1.2, .int .i64 y.2.1, .int .i64 y.2.2] := by
    rw [← Array.toArray_toList (xs := cs), e]
    rfl
  rw [e2]
/-- A slice of them that came in. -/
theorem lnks_of {H : Type} {enc : TypeId × Value → H} {W : World} {base : Nat} {v : Value} {d : DataW H} {p : List MemPlace}
    (hv : Value.okWide Try.prog W .any base 22 v) (h : DataW.Trod enc Try.prog W 0 (fun _ => true) true 22 v d p) : ∃ L, GS lnkE W v L :=
  gs_of (E := lnkE) 22 75 Try.underlying22 (by kernel_rfl) ((0, 0), (0, 0)) (fun _ _ _ h => lnk_open h) hv h
end Go.Proofs.Ytfbocionnjlilad
