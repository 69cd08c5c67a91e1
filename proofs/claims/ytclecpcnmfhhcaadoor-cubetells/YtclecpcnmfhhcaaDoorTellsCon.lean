/- What the program's functions on a cube and a text answer, whatever they are called with, and what the document tells of it. -/
import Derived.Test.YtclecpcnmfhhcaaDoorAsErr2
import Derived.Test.YtclecpcnmfhhcaaDoorCubePrint
import Derived.Test.YtclecpcnmfhhcaaDoorCubeParse
import Derived.Test.YtclecpcnmfhhcaaDoorRefHeaders
namespace Go.Proofs.YtclecpcnmfhhcaaDoor
open Go.RowKit
set_option linter.unusedSimpArgs false

/-- The error of a cube, as a value. -/
def errV (m b : Int) : Value := if okB m b then .nilIface else .iface 59 (.int .i64 (refN m b))
theorem errV_ok {m b : Int} (h : okB m b = true) : errV m b = .nilIface := by simp [errV, h]
theorem errV_no {m b : Int} (h : okB m b = false) : errV m b = .iface 59 (.int .i64 (refN m b)) := by simp [errV, h]
/-- The error of a text, as a value; its number. -/
def psV (s : ByteArray) : Value := if psOk s then .nilIface else .iface 59 (.int .i64 2)
def psN (s : ByteArray) : Int := if psOk s then 0 else 2
theorem psV_ok {s : ByteArray} (h : psOk s = true) : psV s = .nilIface := by simp [psV, h]
theorem psV_no {s : ByteArray} (h : psOk s = false) : psV s = .iface 59 (.int .i64 2) := by simp [psV, h]
theorem psN_ok {s : ByteArray} (h : psOk s = true) : psN s = 0 := by simp [psN, h]
theorem psN_no {s : ByteArray} (h : psOk s = false) : psN s = 2 := by simp [psN, h]
/-- A cube's text, if it is right. -/
def wantS (m b : Int) : ByteArray := if okB m b then prS m b else ⟨#[]⟩
theorem wantS_ok {m b : Int} (h : okB m b = true) : wantS m b = prS m b := by simp [wantS, h]
theorem wantS_no {m b : Int} (h : okB m b = false) : wantS m b = ⟨#[]⟩ := by simp [wantS, h]

theorem check_any (m b : Int) (w : World) :
    Calls Tryd.prog 7 #[.agg #[.int .i64 m, .int .i64 b]] w fun e w' => e = .returned (errV m b) ∧ Below w.heap.size w w' := by
  cases h : okB m b
  · rw [errV_no h]
    cases hr : rngB m b
    · rw [refN_range hr]; exact check_range m b w hr
    · rw [refN_shape h hr]; exact check_shape m b w hr h
  · rw [errV_ok h]; exact check_ok m b w h

theorem print_any (m b : Int) (w : World) :
    Calls Tryd.prog 9 #[.agg #[.int .i64 m, .int .i64 b]] w fun e w' => e = .returned (.tuple #[.string (wantS m b), errV m b]) ∧ Below w.heap.size w w' := by
  cases h : okB m b
  · rw [errV_no h, wantS_no h]
    cases hr : rngB m b
    · rw [refN_range hr]; exact print_range m b w hr
    · rw [refN_shape h hr]; exact print_shape m b w hr h
  · rw [errV_ok h, wantS_ok h]; exact print_ok m b w h

theorem parse_any (s : ByteArray) (w : World) :
    Calls Tryd.prog 11 #[.string s] w fun e w' => e = .returned (.tuple #[.agg #[.int .i64 (psM s), .int .i64 (psB s)], psV s]) ∧ Below w.heap.size w w' := by
  cases h : psOk s
  · have e1 : psM s = 0 := by simp [psM, h]
    have e2 : psB s = 0 := by simp [psB, h]
    rw [psV_no h, e1, e2]; exact parse_no s w h
  · rw [psV_ok h]; exact parse_yes s w h

theorem same_ref (m b : Int) (w : World) (hg : HasErr w) :
    Calls Tryd.prog 6 #[errV m b, .int .i64 (refN m b)] w fun e w' => e = .returned (.bool true) ∧ Below w.heap.size w w' := by
  cases h : okB m b
  · rw [errV_no h]
    refine (same_some _ _ w hg).mono ?_
    rintro e w' ⟨rfl, hb⟩
    exact ⟨by simp, hb⟩
  · rw [errV_ok h, refN_ok h]
    refine (same_nil _ w).mono ?_
    rintro e w' ⟨rfl, hb⟩
    exact ⟨by simp, hb⟩

theorem same_ps (s : ByteArray) (w : World) (hg : HasErr w) :
    Calls Tryd.prog 6 #[psV s, .int .i64 (psN s)] w fun e w' => e = .returned (.bool true) ∧ Below w.heap.size w w' := by
  cases h : psOk s
  · rw [psV_no h, psN_no h]
    refine (same_some _ _ w hg).mono ?_
    rintro e w' ⟨rfl, hb⟩
    exact ⟨by simp, hb⟩
  · rw [psV_ok h, psN_ok h]
    refine (same_nil _ w).mono ?_
    rintro e w' ⟨rfl, hb⟩
    exact ⟨by simp, hb⟩

/-- A list of headers that was made: its length, and its first one. -/
theorem headers_any (m b : Int) (w : World) :
    Calls Tryd.prog 13 #[.agg #[.int .i64 m, .int .i64 b]] w fun e w' => ∃ a cap, e = .returned (.slice a (hdTo m b 16).length cap) ∧
      (0 < (hdTo m b 16).length → ∃ g, a = some ⟨g, 0, none⟩ ∧ w'.cell? ⟨g, 0, none⟩ = some (.int .i64 ((hdTo m b 16).headD 0))) ∧ Below w.heap.size w w' := by
  refine (refHeaders_any m b w).mono ?_
  rintro e w' ⟨v, rfl, hown, hb⟩
  rcases Nat.eq_zero_or_pos (hdTo m b 16).length with h0 | hp
  · obtain ⟨h1, ⟨rfl, h2⟩ | ⟨g, cap, cur, rfl, h3⟩⟩ := hown
    · exact ⟨none, 0, by rw [h0], fun h => by omega, hb⟩
    · exact ⟨_, _, rfl, fun h => by omega, hb⟩
  · obtain ⟨g, cap, rfl, h1, h2⟩ := hown.form hp
    refine ⟨_, _, rfl, fun _ => ⟨g, rfl, ?_⟩, hb⟩
    have := hown.cells (g := g) rfl 0 (.int .i64 ((hdTo m b 16).headD 0)) (by
      cases hl : hdTo m b 16 with
      | nil => rw [hl] at hp; simp at hp
      | cons x r => simp)
    simpa [Addr.add] using this
end Go.Proofs.YtclecpcnmfhhcaaDoor
