/- A rule that came in, opened: six numbers. -/
import Derived.Test.YtpbfgfphcjmcbaaDoorRows
import Derived.ProofKit
import Derived.OpenShut
import Derived.ChangeOld
import Derived.Lib.SmallJoins
namespace Go.Proofs.YtpbfgfphcjmcbaaDoor
open Go.ChangeShapes Go.WideShapes Go.ChangeAt Go.RowKit Go.Joins

theorem array6 {α : Type} {cs : Array α} (h : cs.size = 6) : ∃ c0 c1 c2 c3 c4 c5, cs = #[c0, c1, c2, c3, c4, c5] := by
  obtain ⟨l⟩ := cs
  match l, h with
  | [c0, c1, c2, c3, c4, c5], _ => exact ⟨c0, c1, c2, c3, c4, c5, rfl⟩

/-- Six cells that read as a rule are six numbers. -/
theorem rule_cells {H : Type} {enc : TypeId × Value → H} {W : World} {n : Nat} {cs : List Value} {x : DataW H × List MemPlace}
    (h : DataW.trod enc Tryd.prog W 0 (fun _ => true) true n 25 cs = some x) : ∃ p m b o s v : Int, cs = [.int .i64 p, .int .i64 m, .int .i64 b, .int .i64 o, .int .i64 s, .int .i64 v] := by
  obtain ⟨xs, k, _, _, hl, hlen, hf⟩ := DataW.trod_struct Tryd.underlying25 h
  have hC : Tryd.prog.cellsOf 25 = 6 := by kernel_rfl
  have hI : Tryd.prog.cellsOf 3 = 1 := by kernel_rfl
  have hK : Tryd.prog.cellsOf 23 = 2 := by kernel_rfl
  rw [hC] at hl
  obtain ⟨c0, c1, c2, c3, c4, c5, e⟩ := array6 (cs := cs.toArray) (by simpa using hl)
  have e' : cs = [c0, c1, c2, c3, c4, c5] := by simpa using congrArg Array.toList e
  subst e'
  match xs, hlen with
  | [y0, y1, y2, y3, y4], _ =>
    have g0 := hf 0 _ rfl
    have g1 := hf 1 _ rfl
    have g2 := hf 2 _ rfl
    have g3 := hf 3 _ rfl
    have g4 := hf 4 _ rfl
    simp [hI, hK] at g0 g1 g2 g3 g4
    obtain ⟨p, e0, _, _⟩ := DataW.trod_int Tryd.underlying3 g0
    obtain ⟨z0, z1, k1, _, _, f0, f1⟩ := trod_struct2 Tryd.underlying23 g1
    simp [hI] at f0 f1
    obtain ⟨m, e1, _, _⟩ := DataW.trod_int Tryd.underlying3 f0
    obtain ⟨b, e2, _, _⟩ := DataW.trod_int Tryd.underlying3 f1
    obtain ⟨o, e3, _, _⟩ := DataW.trod_int Tryd.underlying3 g2
    obtain ⟨s, e4, _, _⟩ := DataW.trod_int Tryd.underlying3 g3
    obtain ⟨v, e5, _, _⟩ := DataW.trod_int Tryd.underlying3 g4
    simp at e0 e1 e2 e3 e4 e5
    subst e0 e1 e2 e3 e4 e5
    exact ⟨p, m, b, o, s, v, rfl⟩

set_option maxRecDepth 100000 in
/-- A rule that came in is six numbers. -/
theorem rule_of {H : Type} {enc : TypeId × Value → H} {W : World} {base : Nat} {v : Value} {d : DataW H} {p : List MemPlace}
    (hv : Value.okWide Tryd.prog W .any base 25 v) (h : DataW.Trod enc Tryd.prog W 0 (fun _ => true) true 25 v d p) :
    ∃ q m b o s x : Int, v = .agg #[.int .i64 q, .int .i64 m, .int .i64 b, .int .i64 o, .int .i64 s, .int .i64 x] := by
  obtain ⟨cs, rfl, hsz⟩ := okWide_struct Tryd.underlying25 hv
  obtain ⟨n, hn⟩ := h
  obtain ⟨q, m, b, o, s, x, e⟩ := rule_cells hn
  refine ⟨q, m, b, o, s, x, ?_⟩
  have e2 : cs = #[.int .i64 q, .int .i64 m, .int .i64 b, .int .i64 o, .int .i64 s, .int .i64 x] := by
    simp only [Value.cells] at e
    rw [← Array.toArray_toList (xs := cs), e]
  rw [e2]
end Go.Proofs.YtpbfgfphcjmcbaaDoor
