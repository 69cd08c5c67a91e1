/- The struct api.Host: its cells, slices of them, == of two, such that came in. Written by mk/struct.py. -/
import Derived.Test.YtfbocionnjliladGen
import Derived.Test.YtfbocionnjliladRows
import Derived.Lib.SmallJoins
import Derived.Laws.StructEq
import Derived.Maps.OwnOps
import Derived.Test.YtfbocionnjliladStSpot
namespace Go.Proofs.Ytfbocionnjlilad
open Go.ChangeShapes Go.WideShapes Go.ChangeAt Go.RowKit Go.Joins
set_option linter.unusedSimpArgs false
set_option linter.unusedVariables false
set_option maxRecDepth 100000

def hstE : Enc (ByteArray × (Int × Int)) where
  c := fun x => [.string x.1, .int .i64 x.2.1, .int .i64 x.2.2]
  n := 3
  len := fun _ => rfl
  pos := by decide
  one := by
    intro x u hu
    simp at hu
    rcases hu with rfl | rfl | rfl <;> rfl
theorem hst_cells {w : World} {g o : Nat} {x0 : ByteArray} {x1 : Int} {x2 : Int} (h : VAt w g o (hstE.c (x0, (x1, x2)))) : w.cell? ⟨g, o, none⟩ = some (.string x0) ∧ w.cell? ⟨g, o + 1, none⟩ = some (.int .i64 x1) ∧ w.cell? ⟨g, o + 2, none⟩ = some (.int .i64 x2) :=
  ⟨h 0 _ rfl, h 1 _ rfl, h 2 _ rfl⟩
theorem hst_at {w : World} {g o : Nat} {L : List (ByteArray × (Int × Int))} (h : GAt hstE w g o L) {n k : Nat} (hn : L.length = n) (hk : k < n) :
    ∃ (x0 : ByteArray) (x1 : Int) (x2 : Int) (hl : k < L.length), L[k] = (x0, (x1, x2)) ∧ w.cell? ⟨g, o + k * 3, none⟩ = some (.string x0) ∧ w.cell? ⟨g, o + k * 3 + 1, none⟩ = some (.int .i64 x1) ∧ w.cell? ⟨g, o + k * 3 + 2, none⟩ = some (.int .i64 x2) :=
  have hl : k < L.length := by omega
  ⟨_, _, _, hl, rfl, hst_cells (h k hl)⟩
theorem hst_new (w : World) (x0 : ByteArray) (x1 : Int) (x2 : Int) (t : TypeId) : VAt (w.alloc (Obj.cells #[.string x0, .int .i64 x1, .int .i64 x2] t)) w.heap.size 0 (hstE.c (x0, (x1, x2))) := vat_new w [.string x0, .int .i64 x1, .int .i64 x2] t
theorem hst_row (w : World) (x0 : ByteArray) (x1 : Int) (x2 : Int) (t : TypeId) : GS hstE (w.alloc (Obj.cells #[.string x0, .int .i64 x1, .int .i64 x2] t)) (.slice (some ⟨w.heap.size, 0, none⟩) 1 1) [(x0, (x1, x2))] := gs_one (E := hstE) w (x0, (x1, x2)) t (vs := [.string x0, .int .i64 x1, .int .i64 x2]) rfl
/-- Are two the same? -/
def hstB (a b : ByteArray × (Int × Int)) : Bool := (a.1 == b.1) && ((a.2.1 == b.2.1) && ((a.2.2 == b.2.2)))
theorem hst_ways (x0 : ByteArray) (x1 : Int) (x2 : Int) (y0 : ByteArray) (y1 : Int) (y2 : Int) :
    ((x0.toList == y0.toList) = false ∧ hstB (x0, (x1, x2)) (y0, (y1, y2)) = false) ∨
    ((x0.toList == y0.toList) = true ∧ (x1 == y1) = false ∧ hstB (x0, (x1, x2)) (y0, (y1, y2)) = false) ∨
    ((x0.toList == y0.toList) = true ∧ (x1 == y1) = true ∧ (x2 == y2) = false ∧ hstB (x0, (x1, x2)) (y0, (y1, y2)) = false) ∨
    ((x0.toList == y0.toList) = true ∧ (x1 == y1) = true ∧ (x2 == y2) = true ∧ hstB (x0, (x1, x2)) (y0, (y1, y2)) = true) := by
  have e : hstB (x0, (x1, x2)) (y0, (y1, y2)) = ((x0.toList == y0.toList) && ((x1 == y1) && ((x2 == y2)))) := by simp only [hstB, beq_toListBytes]
  rw [e]
  cases h0 : (x0.toList == y0.toList)
  · simp
  · skip
    cases h1 : (x1 == y1)
    · simp
    · skip
      cases h2 : (x2 == y2)
      · simp
      · skip
        simp
set_option maxRecDepth 100000 in
theorem hst_eq (x0 : ByteArray) (x1 : Int) (x2 : Int) (y0 : ByteArray) (y1 : Int) (y2 : Int) (w : World) : (Op.equal 79 (.agg #[.string x0, .int .i64 x1, .int .i64 x2]) (.agg #[.string y0, .int .i64 y1, .int .i64 y2])).run Try.prog w = .ok (hstB (x0, (x1, x2)) (y0, (y1, y2))) w := by
  unfold Op.equal Op.maxDepth
  rw [run_equalIn_struct w 9999 _ _ _ (by kernel_rfl) (by kernel_rfl)]
  rcases hst_ways x0 x1 x2 y0 y1 y2 with ⟨e0, e⟩ | ⟨e0, e1, e⟩ | ⟨e0, e1, e2, e⟩ | ⟨e0, e1, e2, e⟩
  all_goals
    rw [e]
    go_simp
theorem hst_info : (Try.prog.info? 79).map (fun i => (i.zero, i.size, i.bytes)) = some (some (.agg #[.string ByteArray.empty, .int .i64 0, .int .i64 0]), 3, 32) := by kernel_rfl
theorem hst_zero : (Value.agg #[.string ByteArray.empty, .int .i64 0, .int .i64 0]).cells.size = 3 := by simp [Value.cells]
/-- Cells that read as one. -/
theorem hst_open {H : Type} {enc : TypeId × Value → H} {W : World} {n : Nat} {cs : List Value} {x : DataW H × List MemPlace}
    (h : DataW.trod enc Try.prog W 0 (fun _ => true) true n 79 cs = some x) : ∃ y, cs = hstE.c y := by
  obtain ⟨xs, k, _, _, hl, hlen, hf⟩ := DataW.trod_struct Try.underlying79 h
  have hC : Try.prog.cellsOf 79 = 3 := by kernel_rfl
  have hT0 : Try.prog.cellsOf 9 = 1 := by kernel_rfl
  have hT1 : Try.prog.cellsOf 73 = 2 := by kernel_rfl
  rw [hC] at hl
  match cs, hl with
  | [c0, c1, c2], _ =>
    match xs, hlen with
    | [z0, z1], _ =>
      have g0 := hf 0 _ rfl
      have g1 := hf 1 _ rfl
      simp [hT0, hT1] at g0 g1
      obtain ⟨v0, e0, _, _⟩ := DataW.trod_string Try.underlying9 g0
      obtain ⟨s1, e1⟩ := spo_open g1
      simp [spoE] at e0 e1
      refine ⟨(v0, (s1.1, s1.2)), ?_⟩
      simp [hstE, e0, e1]
set_option maxRecDepth 100000 in
/-- One that came in. -/
theorem hst_of {H : Type} {enc : TypeId × Value → H} {W : World} {base : Nat} {v : Value} {d : DataW H} {p : List MemPlace}
    (hv : Value.okWide Try.prog W .any base 79 v) (h : DataW.Trod enc Try.prog W 0 (fun _ => true) true 79 v d p) : ∃ (x0 : ByteArray) (x1 : Int) (x2 : Int), v = .agg #[.string x0, .int .i64 x1, .int .i64 x2] := by
  obtain ⟨cs, rfl, hsz⟩ := okWide_struct Try.underlying79 hv
  obtain ⟨n, hn⟩ := h
  obtain ⟨y, e⟩ := hst_open hn
  refine ⟨y.1, y.2.1, y.2.2, ?_⟩
  simp only [Value.cells] at e
  have e2 : cs = #[.string y.1, .int .i64 y.2.1, .int .i64 y.2.2] := by
    rw [← Array.toArray_toList (xs := cs), e]
    rfl
  rw [e2]
/-- A slice of them that came in. -/
theorem hsts_of {H : Type} {enc : TypeId × Value → H} {W : World} {base : Nat} {v : Value} {d : DataW H} {p : List MemPlace}
    (hv : Value.okWide Try.prog W .any base 23 v) (h : DataW.Trod enc Try.prog W 0 (fun _ => true) true 23 v d p) : ∃ L, GS hstE W v L :=
  gs_of (E := hstE) 23 79 Try.underlying23 (by kernel_rfl) (ByteArray.empty, (0, 0)) (fun _ _ _ h => hst_open h) hv h
end Go.Proofs.Ytfbocionnjlilad
