/- Contracts and facts on the way to WishBase, joined into one text: StCube, StRule, NetOf. -/
import Derived.Test.YtfbocionnjliladDoorWishBaseP2
import Derived.Test.YtfbocionnjliladDoorWishBaseP1
import Derived.Test.YtfbocionnjliladDoorWishBaseP9
import Derived.Test.YtfbocionnjliladDoorWishBaseP6
import Derived.Test.YtfbocionnjliladDoorRows
import Derived.Lib.SmallJoins
import Derived.Laws.StructEq
import Derived.Maps.OwnOps
/- The struct api.Cube: its cells, slices of them, == of two, such that came in. Written by mk/struct.py. -/
namespace Go.Proofs.YtfbocionnjliladDoor
open Go.ChangeShapes Go.WideShapes Go.ChangeAt Go.RowKit Go.Joins
set_option linter.unusedSimpArgs false
set_option linter.unusedVariables false
set_option maxRecDepth 100000

def cuE : Enc (Int × Int) where
  c := fun x => [.int .i64 x.1, .int .i64 x.2]
  n := 2
  len := fun _ => rfl
  pos := by decide
  one := by
    intro x u hu
    simp at hu
    rcases hu with rfl | rfl <;> rfl
theorem cu_cells {w : World} {g o : Nat} {x0 : Int} {x1 : Int} (h : VAt w g o (cuE.c (x0, x1))) : w.cell? ⟨g, o, none⟩ = some (.int .i64 x0) ∧ w.cell? ⟨g, o + 1, none⟩ = some (.int .i64 x1) :=
  ⟨h 0 _ rfl, h 1 _ rfl⟩
theorem cu_at {w : World} {g o : Nat} {L : List (Int × Int)} (h : GAt cuE w g o L) {n k : Nat} (hn : L.length = n) (hk : k < n) :
    ∃ (x0 : Int) (x1 : Int) (hl : k < L.length), L[k] = (x0, x1) ∧ w.cell? ⟨g, o + k * 2, none⟩ = some (.int .i64 x0) ∧ w.cell? ⟨g, o + k * 2 + 1, none⟩ = some (.int .i64 x1) :=
  have hl : k < L.length := by omega
  ⟨_, _, hl, rfl, cu_cells (h k hl)⟩
theorem cu_new (w : World) (x0 : Int) (x1 : Int) (t : TypeId) : VAt (w.alloc (Obj.cells #[.int .i64 x0, .int .i64 x1] t)) w.heap.size 0 (cuE.c (x0, x1)) := vat_new w [.int .i64 x0, .int .i64 x1] t
theorem cu_row (w : World) (x0 : Int) (x1 : Int) (t : TypeId) : GS cuE (w.alloc (Obj.cells #[.int .i64 x0, .int .i64 x1] t)) (.slice (some ⟨w.heap.size, 0, none⟩) 1 1) [(x0, x1)] := gs_one (E := cuE) w (x0, x1) t (vs := [.int .i64 x0, .int .i64 x1]) rfl
/-- Are two the same? -/
def cuB (a b : Int × Int) : Bool := (a.1 == b.1) && ((a.2 == b.2))
theorem cuB_iff (a b : Int × Int) : cuB a b = true ↔ a = b := by
  have e : cuB a b = ((a.1 == b.1) && ((a.2 == b.2))) := rfl
  rw [e]
  simp only [Bool.and_eq_true, beq_iff_eq]
  constructor
  · intro h
    obtain ⟨a0, a1⟩ := a; obtain ⟨b0, b1⟩ := b; simp at h ⊢; simp [h]
  · intro h
    subst h
    simp
theorem cu_ways (x0 : Int) (x1 : Int) (y0 : Int) (y1 : Int) :
    ((x0 == y0) = false ∧ cuB (x0, x1) (y0, y1) = false) ∨
    ((x0 == y0) = true ∧ (x1 == y1) = false ∧ cuB (x0, x1) (y0, y1) = false) ∨
    ((x0 == y0) = true ∧ (x1 == y1) = true ∧ cuB (x0, x1) (y0, y1) = true) := by
  have e : cuB (x0, x1) (y0, y1) = ((x0 == y0) && ((x1 == y1))) := rfl
  rw [e]
  cases h0 : (x0 == y0)
  · simp
  · skip
    cases h1 : (x1 == y1)
    · simp
    · skip
      simp
set_option maxRecDepth 100000 in
theorem cu_eq (x0 : Int) (x1 : Int) (y0 : Int) (y1 : Int) (w : World) : (Op.equal 74 (.agg #[.int .i64 x0, .int .i64 x1]) (.agg #[.int .i64 y0, .int .i64 y1])).run Tryd.prog w = .ok (cuB (x0, x1) (y0, y1)) w := by
  unfold Op.equal Op.maxDepth
  rw [run_equalIn_struct w 9999 _ _ _ (by kernel_rfl) (by kernel_rfl)]
  rcases cu_ways x0 x1 y0 y1 with ⟨e0, e⟩ | ⟨e0, e1, e⟩ | ⟨e0, e1, e⟩
  all_goals
    rw [e]
    go_simp
theorem cu_info : (Tryd.prog.info? 74).map (fun i => (i.zero, i.size, i.bytes)) = some (some (.agg #[.int .i64 0, .int .i64 0]), 2, 16) := by kernel_rfl
theorem cu_zero : (Value.agg #[.int .i64 0, .int .i64 0]).cells.size = 2 := by simp [Value.cells]
/-- Cells that read as one. -/
theorem cu_open {H : Type} {enc : TypeId × Value → H} {W : World} {n : Nat} {cs : List Value} {x : DataW H × List MemPlace}
    (h : DataW.trod enc Tryd.prog W 0 (fun _ => true) true n 74 cs = some x) : ∃ y, cs = cuE.c y := by
  obtain ⟨xs, k, _, _, hl, hlen, hf⟩ := DataW.trod_struct Tryd.underlying74 h
  have hC : Tryd.prog.cellsOf 74 = 2 := by kernel_rfl
  have hT0 : Tryd.prog.cellsOf 3 = 1 := by kernel_rfl
  rw [hC] at hl
  match cs, hl with
  | [c0, c1], _ =>
    match xs, hlen with
    | [z0, z1], _ =>
      have g0 := hf 0 _ rfl
      have g1 := hf 1 _ rfl
      simp [hT0] at g0 g1
      obtain ⟨v0, e0, _, _⟩ := DataW.trod_int Tryd.underlying3 g0
      obtain ⟨v1, e1, _, _⟩ := DataW.trod_int Tryd.underlying3 g1
      simp [] at e0 e1
      refine ⟨(v0, v1), ?_⟩
      simp [cuE, e0, e1]
set_option maxRecDepth 100000 in
/-- One that came in. -/
theorem cu_of {H : Type} {enc : TypeId × Value → H} {W : World} {base : Nat} {v : Value} {d : DataW H} {p : List MemPlace}
    (hv : Value.okWide Tryd.prog W .any base 74 v) (h : DataW.Trod enc Tryd.prog W 0 (fun _ => true) true 74 v d p) : ∃ (x0 : Int) (x1 : Int), v = .agg #[.int .i64 x0, .int .i64 x1] := by
  obtain ⟨cs, rfl, hsz⟩ := okWide_struct Tryd.underlying74 hv
  obtain ⟨n, hn⟩ := h
  obtain ⟨y, e⟩ := cu_open hn
  refine ⟨y.1, y.2, ?_⟩
  simp only [Value.cells] at e
  have e2 : cs = #[.int .i64 y.1, .int .i64 y.2] := by
    rw [← Array.toArray_toList (xs := cs), e]
    rfl
  rw [e2]
end Go.Proofs.YtfbocionnjliladDoor
/- The struct api.Rule: its cells, slices of them, == of two, such that came in. Written by mk/struct.py. -/
namespace Go.Proofs.YtfbocionnjliladDoor
open Go.ChangeShapes Go.WideShapes Go.ChangeAt Go.RowKit Go.Joins
set_option linter.unusedSimpArgs false
set_option linter.unusedVariables false
set_option maxRecDepth 100000

def rlE : Enc (Ru) where
  c := fun x => [.int .i64 x.p, .int .i64 x.m, .int .i64 x.b, .int .i64 x.o, .int .i64 x.s, .int .i64 x.v]
  n := 6
  len := fun _ => rfl
  pos := by decide
  one := by
    intro x u hu
    simp at hu
    rcases hu with rfl | rfl | rfl | rfl | rfl | rfl <;> rfl
theorem rl_cells {w : World} {g o : Nat} {x0 : Int} {x1 : Int} {x2 : Int} {x3 : Int} {x4 : Int} {x5 : Int} (h : VAt w g o (rlE.c ⟨x0, x1, x2, x3, x4, x5⟩)) : w.cell? ⟨g, o, none⟩ = some (.int .i64 x0) ∧ w.cell? ⟨g, o + 1, none⟩ = some (.int .i64 x1) ∧ w.cell? ⟨g, o + 2, none⟩ = some (.int .i64 x2) ∧ w.cell? ⟨g, o + 3, none⟩ = some (.int .i64 x3) ∧ w.cell? ⟨g, o + 4, none⟩ = some (.int .i64 x4) ∧ w.cell? ⟨g, o + 5, none⟩ = some (.int .i64 x5) :=
  ⟨h 0 _ rfl, h 1 _ rfl, h 2 _ rfl, h 3 _ rfl, h 4 _ rfl, h 5 _ rfl⟩
theorem rl_at {w : World} {g o : Nat} {L : List (Ru)} (h : GAt rlE w g o L) {n k : Nat} (hn : L.length = n) (hk : k < n) :
    ∃ (x0 : Int) (x1 : Int) (x2 : Int) (x3 : Int) (x4 : Int) (x5 : Int) (hl : k < L.length), L[k] = ⟨x0, x1, x2, x3, x4, x5⟩ ∧ w.cell? ⟨g, o + k * 6, none⟩ = some (.int .i64 x0) ∧ w.cell? ⟨g, o + k * 6 + 1, none⟩ = some (.int .i64 x1) ∧ w.cell? ⟨g, o + k * 6 + 2, none⟩ = some (.int .i64 x2) ∧ w.cell? ⟨g, o + k * 6 + 3, none⟩ = some (.int .i64 x3) ∧ w.cell? ⟨g, o + k * 6 + 4, none⟩ = some (.int .i64 x4) ∧ w.cell? ⟨g, o + k * 6 + 5, none⟩ = some (.int .i64 x5) :=
  have hl : k < L.length := by omega
  ⟨_, _, _, _, _, _, hl, rfl, rl_cells (h k hl)⟩
theorem rl_new (w : World) (x0 : Int) (x1 : Int) (x2 : Int) (x3 : Int) (x4 : Int) (x5 : Int) (t : TypeId) : VAt (w.alloc (Obj.cells #[.int .i64 x0, .int .i64 x1, .int .i64 x2, .int .i64 x3, .int .i64 x4, .int .i64 x5] t)) w.heap.size 0 (rlE.c ⟨x0, x1, x2, x3, x4, x5⟩) := vat_new w [.int .i64 x0, .int .i64 x1, .int .i64 x2, .int .i64 x3, .int .i64 x4, .int .i64 x5] t
theorem rl_row (w : World) (x0 : Int) (x1 : Int) (x2 : Int) (x3 : Int) (x4 : Int) (x5 : Int) (t : TypeId) : GS rlE (w.alloc (Obj.cells #[.int .i64 x0, .int .i64 x1, .int .i64 x2, .int .i64 x3, .int .i64 x4, .int .i64 x5] t)) (.slice (some ⟨w.heap.size, 0, none⟩) 1 1) [⟨x0, x1, x2, x3, x4, x5⟩] := gs_one (E := rlE) w ⟨x0, x1, x2, x3, x4, x5⟩ t (vs := [.int .i64 x0, .int .i64 x1, .int .i64 x2, .int .i64 x3, .int .i64 x4, .int .i64 x5]) rfl
/-- Are two the same? -/
def rlB (a b : Ru) : Bool := (a.p == b.p) && ((a.m == b.m) && ((a.b == b.b) && ((a.o == b.o) && ((a.s == b.s) && ((a.v == b.v))))))
theorem rlB_iff (a b : Ru) : rlB a b = true ↔ a = b := by
  have e : rlB a b = ((a.p == b.p) && ((a.m == b.m) && ((a.b == b.b) && ((a.o == b.o) && ((a.s == b.s) && ((a.v == b.v))))))) := rfl
  rw [e]
  simp only [Bool.and_eq_true, beq_iff_eq]
  constructor
  · intro h
    obtain ⟨a0, a1, a2, a3, a4, a5⟩ := a; obtain ⟨b0, b1, b2, b3, b4, b5⟩ := b; simp at h ⊢; simp [h]
  · intro h
    subst h
    simp
theorem rl_ways (x0 : Int) (x1 : Int) (x2 : Int) (x3 : Int) (x4 : Int) (x5 : Int) (y0 : Int) (y1 : Int) (y2 : Int) (y3 : Int) (y4 : Int) (y5 : Int) :
    ((x0 == y0) = false ∧ rlB ⟨x0, x1, x2, x3, x4, x5⟩ ⟨y0, y1, y2, y3, y4, y5⟩ = false) ∨
    ((x0 == y0) = true ∧ (x1 == y1) = false ∧ rlB ⟨x0, x1, x2, x3, x4, x5⟩ ⟨y0, y1, y2, y3, y4, y5⟩ = false) ∨
    ((x0 == y0) = true ∧ (x1 == y1) = true ∧ (x2 == y2) = false ∧ rlB ⟨x0, x1, x2, x3, x4, x5⟩ ⟨y0, y1, y2, y3, y4, y5⟩ = false) ∨
    ((x0 == y0) = true ∧ (x1 == y1) = true ∧ (x2 == y2) = true ∧ (x3 == y3) = false ∧ rlB ⟨x0, x1, x2, x3, x4, x5⟩ ⟨y0, y1, y2, y3, y4, y5⟩ = false) ∨
    ((x0 == y0) = true ∧ (x1 == y1) = true ∧ (x2 == y2) = true ∧ (x3 == y3) = true ∧ (x4 == y4) = false ∧ rlB ⟨x0, x1, x2, x3, x4, x5⟩ ⟨y0, y1, y2, y3, y4, y5⟩ = false) ∨
    ((x0 == y0) = true ∧ (x1 == y1) = true ∧ (x2 == y2) = true ∧ (x3 == y3) = true ∧ (x4 == y4) = true ∧ (x5 == y5) = false ∧ rlB ⟨x0, x1, x2, x3, x4, x5⟩ ⟨y0, y1, y2, y3, y4, y5⟩ = false) ∨
    ((x0 == y0) = true ∧ (x1 == y1) = true ∧ (x2 == y2) = true ∧ (x3 == y3) = true ∧ (x4 == y4) = true ∧ (x5 == y5) = true ∧ rlB ⟨x0, x1, x2, x3, x4, x5⟩ ⟨y0, y1, y2, y3, y4, y5⟩ = true) := by
  have e : rlB ⟨x0, x1, x2, x3, x4, x5⟩ ⟨y0, y1, y2, y3, y4, y5⟩ = ((x0 == y0) && ((x1 == y1) && ((x2 == y2) && ((x3 == y3) && ((x4 == y4) && ((x5 == y5))))))) := rfl
  rw [e]
  cases h0 : (x0 == y0)
  · simp
  · skip
    cases h1 : (x1 == y1)
    · simp
    · skip
      cases h2 : (x2 == y2)
      · simp
      · skip
        cases h3 : (x3 == y3)
        · simp
        · skip
          cases h4 : (x4 == y4)
          · simp
          · skip
            cases h5 : (x5 == y5)
            · simp
            · skip
              simp
set_option maxRecDepth 100000 in
theorem rl_eq (x0 : Int) (x1 : Int) (x2 : Int) (x3 : Int) (x4 : Int) (x5 : Int) (y0 : Int) (y1 : Int) (y2 : Int) (y3 : Int) (y4 : Int) (y5 : Int) (w : World) : (Op.equal 76 (.agg #[.int .i64 x0, .int .i64 x1, .int .i64 x2, .int .i64 x3, .int .i64 x4, .int .i64 x5]) (.agg #[.int .i64 y0, .int .i64 y1, .int .i64 y2, .int .i64 y3, .int .i64 y4, .int .i64 y5])).run Tryd.prog w = .ok (rlB ⟨x0, x1, x2, x3, x4, x5⟩ ⟨y0, y1, y2, y3, y4, y5⟩) w := by
  unfold Op.equal Op.maxDepth
  rw [run_equalIn_struct w 9999 _ _ _ (by kernel_rfl) (by kernel_rfl)]
  rcases rl_ways x0 x1 x2 x3 x4 x5 y0 y1 y2 y3 y4 y5 with ⟨e0, e⟩ | ⟨e0, e1, e⟩ | ⟨e0, e1, e2, e⟩ | ⟨e0, e1, e2, e3, e⟩ | ⟨e0, e1, e2, e3, e4, e⟩ | ⟨e0, e1, e2, e3, e4, e5, e⟩ | ⟨e0, e1, e2, e3, e4, e5, e⟩
  all_goals
    rw [e]
    go_simp
theorem rl_info : (Tryd.prog.info? 76).map (fun i => (i.zero, i.size, i.bytes)) = some (some (.agg #[.int .i64 0, .int .i64 0, .int .i64 0, .int .i64 0, .int .i64 0, .int .i64 0]), 6, 48) := by kernel_rfl
theorem rl_zero : (Value.agg #[.int .i64 0, .int .i64 0, .int .i64 0, .int .i64 0, .int .i64 0, .int .i64 0]).cells.size = 6 := by simp [Value.cells]
/-- Cells that read as one. -/
theorem rl_open {H : Type} {enc : TypeId × Value → H} {W : World} {n : Nat} {cs : List Value} {x : DataW H × List MemPlace}
    (h : DataW.trod enc Tryd.prog W 0 (fun _ => true) true n 76 cs = some x) : ∃ y, cs = rlE.c y := by
  obtain ⟨xs, k, _, _, hl, hlen, hf⟩ := DataW.trod_struct Tryd.underlying76 h
  have hC : Tryd.prog.cellsOf 76 = 6 := by kernel_rfl
  have hT0 : Tryd.prog.cellsOf 3 = 1 := by kernel_rfl
  have hT1 : Tryd.prog.cellsOf 74 = 2 := by kernel_rfl
  rw [hC] at hl
  match cs, hl with
  | [c0, c1, c2, c3, c4, c5], _ =>
    match xs, hlen with
    | [z0, z1, z2, z3, z4], _ =>
      have g0 := hf 0 _ rfl
      have g1 := hf 1 _ rfl
      have g2 := hf 2 _ rfl
      have g3 := hf 3 _ rfl
      have g4 := hf 4 _ rfl
      simp [hT0, hT1] at g0 g1 g2 g3 g4
      obtain ⟨v0, e0, _, _⟩ := DataW.trod_int Tryd.underlying3 g0
      obtain ⟨s1, e1⟩ := cu_open g1
      obtain ⟨v3, e2, _, _⟩ := DataW.trod_int Tryd.underlying3 g2
      obtain ⟨v4, e3, _, _⟩ := DataW.trod_int Tryd.underlying3 g3
      obtain ⟨v5, e4, _, _⟩ := DataW.trod_int Tryd.underlying3 g4
      simp [cuE] at e0 e1 e2 e3 e4
      refine ⟨⟨v0, s1.1, s1.2, v3, v4, v5⟩, ?_⟩
      simp [rlE, e0, e1, e2, e3, e4]
set_option maxRecDepth 100000 in
/-- One that came in. -/
theorem rl_of {H : Type} {enc : TypeId × Value → H} {W : World} {base : Nat} {v : Value} {d : DataW H} {p : List MemPlace}
    (hv : Value.okWide Tryd.prog W .any base 76 v) (h : DataW.Trod enc Tryd.prog W 0 (fun _ => true) true 76 v d p) : ∃ (x0 : Int) (x1 : Int) (x2 : Int) (x3 : Int) (x4 : Int) (x5 : Int), v = .agg #[.int .i64 x0, .int .i64 x1, .int .i64 x2, .int .i64 x3, .int .i64 x4, .int .i64 x5] := by
  obtain ⟨cs, rfl, hsz⟩ := okWide_struct Tryd.underlying76 hv
  obtain ⟨n, hn⟩ := h
  obtain ⟨y, e⟩ := rl_open hn
  refine ⟨y.p, y.m, y.b, y.o, y.s, y.v, ?_⟩
  simp only [Value.cells] at e
  have e2 : cs = #[.int .i64 y.p, .int .i64 y.m, .int .i64 y.b, .int .i64 y.o, .int .i64 y.s, .int .i64 y.v] := by
    rw [← Array.toArray_toList (xs := cs), e]
    rfl
  rw [e2]
/-- A slice of them that came in. -/
theorem rls_of {H : Type} {enc : TypeId × Value → H} {W : World} {base : Nat} {v : Value} {d : DataW H} {p : List MemPlace}
    (hv : Value.okWide Tryd.prog W .any base 30 v) (h : DataW.Trod enc Tryd.prog W 0 (fun _ => true) true 30 v d p) : ∃ L, GS rlE W v L :=
  gs_of (E := rlE) 30 76 Tryd.underlying30 (by kernel_rfl) ⟨0, 0, 0, 0, 0, 0⟩ (fun _ _ _ h => rl_open h) hv h
end Go.Proofs.YtfbocionnjliladDoor
/- A net that came in: its topology, its tables. -/
namespace Go.Proofs.YtfbocionnjliladDoor
open Go.ChangeShapes Go.WideShapes Go.ChangeAt Go.RowKit Go.Joins
set_option linter.unusedSimpArgs false
set_option linter.unusedVariables false
set_option maxRecDepth 100000

theorem gs_SR {w : World} {v : Value} {L : List Ru} (h : GS rlE w v L) : SR w v L := by
  rcases h with h | ⟨g, o, cap, h1, h2, h3, h4⟩
  · exact .inl h
  · refine .inr ⟨g, o, cap, h1, h2, h3, fun i hi => ?_⟩
    have hv := h4 i hi
    generalize L[i] = r at hv
    obtain ⟨p, m, b, q, s, x⟩ := r
    obtain ⟨q0, q1, q2, q3, q4, q5⟩ := rl_cells hv
    exact ⟨q0, q1, q2, q3, q4, q5⟩
set_option maxRecDepth 100000 in
theorem table_open {H : Type} {enc : TypeId × Value → H} {W : World} {fuel : Nat} {cs : List Value} {x : DataW H × List MemPlace}
    (h : DataW.trod enc Tryd.prog W 0 (fun _ => true) true fuel 30 cs = some x) : ∃ ao n cap L, cs = [.slice ao n cap] ∧ SR W (.slice ao n cap) L := by
  obtain ⟨ao, n, cap, L, e, hL⟩ := gs_open (E := rlE) 30 76 Tryd.underlying30 (by kernel_rfl) zeR (fun _ _ _ h => rl_open h) h
  exact ⟨ao, n, cap, L, e, gs_SR hL⟩
set_option maxRecDepth 100000 in
theorem tables_open {H : Type} {enc : TypeId × Value → H} {W : World} {fuel : Nat} {cs : List Value} {x : DataW H × List MemPlace}
    (hf2 : DataW.trod enc Tryd.prog W 0 (fun _ => true) true fuel 26 cs = some x) : ∃ ao n cap Ts, cs = [.slice ao n cap] ∧ TS W (.slice ao n cap) Ts := by
  obtain ⟨d, p⟩ := x
  have hC : Tryd.prog.cellsOf 30 = 1 := by kernel_rfl
  rcases Go.Deep.open_slice Tryd.underlying26 hf2 with ⟨hc, hx⟩ | ⟨a, len0, cap, m, k, D, Pl, hc, _, hl, hm, hmm, hx, hall⟩
  · exact ⟨_, _, _, [], hc, .inl ⟨none, 0, rfl, rfl⟩⟩
  · simp only [if_true] at hmm
    subst hmm
    rcases Nat.eq_zero_or_pos len0 with h0 | h0
    · subst h0
      exact ⟨_, _, _, [], hc, .inl ⟨_, _, rfl, rfl⟩⟩
    · have each : ∀ i, i < m → ∃ L : List Ru, ∃ ao n cap, W.cell? (a.add i) = some (.slice ao n cap) ∧ SR W (.slice ao n cap) L := by
        intro i hi
        obtain ⟨cs, h1, h2⟩ := hall i hi
        rw [hC] at h1
        obtain ⟨_, hlen, hcell⟩ := World.cells?_some h1
        obtain ⟨ao, n, cap, L, rfl, hL⟩ := table_open h2
        refine ⟨L, ao, n, cap, ?_, hL⟩
        have := hcell 0 (by simp)
        rw [Go.Deep.add_add] at this
        simpa using this
      obtain ⟨R, hR⟩ := Go.Deep.choose_lt each
      obtain ⟨sb, so, spot⟩ := a
      have hspot : spot = none := by
        obtain ⟨ao, n, cap, h1, _⟩ := hR 0 (by omega)
        simpa [Addr.add] using World.cell?_spot h1
      subst hspot
      have hadd : ∀ j, (⟨sb, so, none⟩ : Addr).add j = ⟨sb, so + j, none⟩ := by
        intro j
        simp only [Addr.add]
        first
          | rfl
          | (split
             · next h0 => rw [h0]; rfl
             · rfl)
      refine ⟨_, _, _, (List.range len0).map R, hc, .inr ⟨sb, so, _, by simp, by simpa using hl, hm, fun i hi => ?_⟩⟩
      have hi2 : i < len0 := by simpa using hi
      have e : ((List.range len0).map R)[i] = R i := by simp
      rw [e]
      obtain ⟨ao, n, cap, h1, h2⟩ := hR i (by omega)
      rw [hadd] at h1
      exact ⟨ao, n, cap, h1, h2⟩
set_option maxRecDepth 100000 in
/-- One that came in. -/
theorem net_open {H : Type} {enc : TypeId × Value → H} {W : World} {n : Nat} {cs : List Value} {x : DataW H × List MemPlace}
    (h : DataW.trod enc Tryd.prog W 0 (fun _ => true) true n 28 cs = some x) : ∃ S ao n cap ao2 n2 cap2 ao3 n3 cap3 Ls Hs Ts, cs = [.int .i64 S, .slice ao n cap, .slice ao2 n2 cap2, .slice ao3 n3 cap3] ∧ GS lnkE W (.slice ao n cap) Ls ∧ GS hstE W (.slice ao2 n2 cap2) Hs ∧ TS W (.slice ao3 n3 cap3) Ts := by
  obtain ⟨xs, k, _, _, hl, hlen, hf⟩ := DataW.trod_struct Tryd.underlying28 h
  have hC : Tryd.prog.cellsOf 28 = 4 := by kernel_rfl
  have hT0 : Tryd.prog.cellsOf 25 = 3 := by kernel_rfl
  have hT1 : Tryd.prog.cellsOf 26 = 1 := by kernel_rfl
  rw [hC] at hl
  match cs, hl with
  | [c0, c1, c2, c3], _ =>
    match xs, hlen with
    | [z0, z1], _ =>
      have g0 := hf 0 _ rfl
      have g1 := hf 1 _ rfl
      simp [hT0, hT1] at g0 g1
      obtain ⟨S, ao, n, cap, ao2, n2, cap2, Ls, Hs, e0, hL, hH⟩ := topo_open g0
      obtain ⟨ao3, n3, cap3, Ts, e1, hT⟩ := tables_open g1
      simp at e0 e1
      exact ⟨S, ao, n, cap, ao2, n2, cap2, ao3, n3, cap3, Ls, Hs, Ts, by simp [e0, e1], hL, hH, hT⟩
theorem net_of {H : Type} {enc : TypeId × Value → H} {W : World} {base : Nat} {v : Value} {d : DataW H} {p : List MemPlace}
    (hv : Value.okWide Tryd.prog W .any base 28 v) (h : DataW.Trod enc Tryd.prog W 0 (fun _ => true) true 28 v d p) : ∃ S ao n cap ao2 n2 cap2 ao3 n3 cap3 Ls Hs Ts, v = .agg #[.int .i64 S, .slice ao n cap, .slice ao2 n2 cap2, .slice ao3 n3 cap3] ∧ GS lnkE W (.slice ao n cap) Ls ∧ GS hstE W (.slice ao2 n2 cap2) Hs ∧ TS W (.slice ao3 n3 cap3) Ts := by
  obtain ⟨cs, rfl, hsz⟩ := okWide_struct Tryd.underlying28 hv
  obtain ⟨n, hn⟩ := h
  obtain ⟨S, ao, n, cap, ao2, n2, cap2, ao3, n3, cap3, Ls, Hs, Ts, e, h1, h2, h3⟩ := net_open hn
  refine ⟨S, ao, n, cap, ao2, n2, cap2, ao3, n3, cap3, Ls, Hs, Ts, ?_, h1, h2, h3⟩
  simp only [Value.cells] at e
  rw [← Array.toArray_toList (xs := cs), e]
end Go.Proofs.YtfbocionnjliladDoor
