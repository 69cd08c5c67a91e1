/- The struct api.Hop: its cells, slices of them, == of two, such that came in. Written by mk/struct.py. -/
import Derived.Test.YtfbocionnjlilacGen
import Derived.Test.YtfbocionnjlilacRows
import Derived.Lib.SmallJoins
import Derived.Laws.StructEq
import Derived.Maps.OwnOps
import Derived.Test.YtfbocionnjlilacStSpot
namespace Go.Proofs.Ytfbocionnjlilac
open Go.ChangeShapes Go.WideShapes Go.ChangeAt Go.RowKit Go.Joins
set_option linter.unusedSimpArgs false
set_option linter.unusedVariables false
set_option maxRecDepth 100000

def hopE : Enc ((Int × Int) × Int) where
  c := fun x => [.int .i64 x.1.1, .int .i64 x.1.2, .int .i64 x.2]
  n := 3
  len := fun _ => rfl
  pos := by decide
  one := by
    intro x u hu
    simp at hu
    rcases hu with rfl | rfl | rfl <;> rfl
theorem hop_cells {w : World} {g o : Nat} {x0 : Int} {x1 : Int} {x2 : Int} (h : VAt w g o (hopE.c ((x0, x1), x2))) : w.cell? ⟨g, o, none⟩ = some (.int .i64 x0) ∧ w.cell? ⟨g, o + 1, none⟩ = some (.int .i64 x1) ∧ w.cell? ⟨g, o + 2, none⟩ = some (.int .i64 x2) :=
  ⟨h 0 _ rfl, h 1 _ rfl, h 2 _ rfl⟩
theorem hop_at {w : World} {g o : Nat} {L : List ((Int × Int) × Int)} (h : GAt hopE w g o L) {n k : Nat} (hn : L.length = n) (hk : k < n) :
    ∃ (x0 : Int) (x1 : Int) (x2 : Int) (hl : k < L.length), L[k] = ((x0, x1), x2) ∧ w.cell? ⟨g, o + k * 3, none⟩ = some (.int .i64 x0) ∧ w.cell? ⟨g, o + k * 3 + 1, none⟩ = some (.int .i64 x1) ∧ w.cell? ⟨g, o + k * 3 + 2, none⟩ = some (.int .i64 x2) :=
  have hl : k < L.length := by omega
  ⟨_, _, _, hl, rfl, hop_cells (h k hl)⟩
theorem hop_new (w : World) (x0 : Int) (x1 : Int) (x2 : Int) (t : TypeId) : VAt (w.alloc (Obj.cells #[.int .i64 x0, .int .i64 x1, .int .i64 x2] t)) w.heap.size 0 (hopE.c ((x0, x1), x2)) := vat_new w [.int .i64 x0, .int .i64 x1, .int .i64 x2] t
theorem hop_row (w : World) (x0 : Int) (x1 : Int) (x2 : Int) (t : TypeId) : GS hopE (w.alloc (Obj.cells #[.int .i64 x0, .int .i64 x1, .int .i64 x2] t)) (.slice (some ⟨w.heap.size, 0, none⟩) 1 1) [((x0, x1), x2)] := gs_one (E := hopE) w ((x0, x1), x2) t (vs := [.int .i64 x0, .int .i64 x1, .int .i64 x2]) rfl
/-- Are two the same? -/
def hopB (a b : (Int × Int) × Int) : Bool := (a.1.1 == b.1.1) && ((a.1.2 == b.1.2) && ((a.2 == b.2)))
theorem hopB_iff (a b : (Int × Int) × Int) : hopB a b = true ↔ a = b := by
  have e : hopB a b = ((a.1.1 == b.1.1) && ((a.1.2 == b.1.2) && ((a.2 == b.2)))) := rfl
  rw [e]
  simp only [Bool.and_eq_true, beq_iff_eq]
  constructor
  · intro h
    obtain ⟨⟨a0, a1⟩, a2⟩ := a; obtain ⟨⟨b0, b1⟩, b2⟩ := b; simp at h ⊢; simp [h]
  · intro h
    subst h
    simp
theorem hop_ways (x0 : Int) (x1 : Int) (x2 : Int) (y0 : Int) (y1 : Int) (y2 : Int) :
    ((x0 == y0) = false ∧ hopB ((x0, x1), x2) ((y0, y1), y2) = false) ∨
    ((x0 == y0) = true ∧ (x1 == y1) = false ∧ hopB ((x0, x1), x2) ((y0, y1), y2) = false) ∨
    ((x0 == y0) = true ∧ (x1 == y1) = true ∧ (x2 == y2) = false ∧ hopB ((x0, x1), x2) ((y0, y1), y2) = false) ∨
    ((x0 == y0) = true ∧ (x1 == y1) = true ∧ (x2 == y2) = true ∧ hopB ((x0, x1), x2) ((y0, y1), y2) = true) := by
  have e : hopB ((x0, x1), x2) ((y0, y1), y2) = ((x0 == y0) && ((x1 == y1) && ((x2 == y2)))) := rfl
  rw [e]
  cases h0 : (x0 == y0)
  · simp
  · skip
    cases h1 : (x1 == y1)
    · simp
    · skip
      cases h2 : (x2 == y2)
      · simp
      · skip
        simp
set_option maxRecDepth 100000 in
theorem hop_eq (x0 : Int) (x1 : Int) (x2 : Int) (y0 : Int) (y1 : Int) (y2 : Int) (w : World) : (Op.equal 58 (.agg #[.int .i64 x0, .int .i64 x1, .int .i64 x2]) (.agg #[.int .i64 y0, .int .i64 y1, .int .i64 y2])).run Try.prog w = .ok (hopB ((x0, x1), x2) ((y0, y1), y2)) w := by
  unfold Op.equal Op.maxDepth
  rw [run_equalIn_struct w 9999 _ _ _ (by kernel_rfl) (by kernel_rfl)]
  rcases hop_ways x0 x1 x2 y0 y1 y2 with ⟨e0, e⟩ | ⟨e0, e1, e⟩ | ⟨e0, e1, e2, e⟩ | ⟨e0, e1, e2, e⟩
  all_goals
    rw [e]
    go_simp
theorem hop_info : (Try.prog.info? 58).map (fun i => (i.zero, i.size, i.bytes)) = some (some (.agg #[.int .i64 0, .int .i64 0, .int .i64 0]), 3, 24) := by kernel_rfl
theorem hop_zero : (Value.agg #[.int .i64 0, .int .i64 0, .int .i64 0]).cells.size = 3 := by simp [Value.cells]
/-- Cells that read as one. -/
theorem hop_open {H : Type} {enc : TypeId × Value → H} {W : World} {n : Nat} {cs : List Value} {x : DataW H × List MemPlace}
    (h : DataW.trod enc Try.prog W 0 (fun _ => true) true n 58 cs = some x) : ∃ y, cs = hopE.c y := by
  obtain ⟨xs, k, _, _, hl, hlen, hf⟩ := DataW.trod_struct Try.underlying58 h
  have hC : Try.prog.cellsOf 58 = 3 := by kernel_rfl
  have hT0 : Try.prog.cellsOf 27 = 2 := by kernel_rfl
  have hT1 : Try.prog.cellsOf 3 = 1 := by kernel_rfl
  rw [hC] at hl
  match cs, hl with
  | [c0, c1, c2], _ =>
    match xs, hlen with
    | [z0, z1], _ =>
      have g0 := hf 0 _ rfl
      have g1 := hf 1 _ rfl
      simp [hT0, hT1] at g0 g1
      obtain ⟨s0, e0⟩ := spo_open g0
      obtain ⟨v2, e1, _, _⟩ := DataW.trod_int Try.underlying3 g1
      simp [spoE] at e0 e1
      refine ⟨((s0.1, s0.2), v2), ?_⟩
      simp [hopE, e0, e1]
set_option maxRecDepth 100000 in
/-- One that came in. -/
theorem hop_of {H : Type} {enc : TypeId × Value → H} {W : World} {base : Nat} {v : Value} {d : DataW H} {p : List MemPlace}
    (hv : Value.okWide Try.prog W .any base 58 v) (h : DataW.Trod enc Try.prog W 0 (fun _ => true) true 58 v d p) : ∃ (x0 : Int) (x1 : Int) (x2 : Int), v = .agg #[.int .i64 x0, .int .i64 x1, .int .i64 x2] := by
  obtain ⟨cs, rfl, hsz⟩ := okWide_struct Try.underlying58 hv
  obtain ⟨n, hn⟩ := h
  obtain ⟨y, e⟩ := hop_open hn
  refine ⟨y.1.1, y.1.2, y.2, ?_⟩
  simp only [Value.cells] at e
  have e2 : cs = #[.int .i64 y.1.1, .int .i64 y.1.2, .int .i64 y.2] := by
    rw [← Array.toArray_toList (xs := cs), e]
    rfl
  rw [e2]
/-- A slice of them that came in. -/
theorem hops_of {H : Type} {enc : TypeId × Value → H} {W : World} {base : Nat} {v : Value} {d : DataW H} {p : List MemPlace}
    (hv : Value.okWide Try.prog W .any base 51 v) (h : DataW.Trod enc Try.prog W 0 (fun _ => true) true 51 v d p) : ∃ L, GS hopE W v L :=
  gs_of (E := hopE) 51 58 Try.underlying51 (by kernel_rfl) ((0, 0), 0) (fun _ _ _ h => hop_open h) hv h
end Go.Proofs.Ytfbocionnjlilac
