/- The words of a text: the first seven, or all: a rule's words either way. No program in it. -/
import Derived.Test.YtbieljcoaocfkabGreatDoorRuleParse
import Derived.Test.YtbieljcoaocfkabGreatDoorRuleCut
namespace Go.Proofs.YtbieljcoaocfkabGreatDoor
open Go.RowKit

theorem rd_len {ws : List ByteArray} (h : rdW ws = true) : ws.length = 3 ∨ ws.length = 4 ∨ ws.length = 6 := by
  match ws, h with
  | a :: b :: c :: r, h =>
    simp only [rdW, Bool.and_eq_true] at h
    have h2 := h.2.2
    match r, h2 with
    | [], _ => simp
    | [_], _ => simp
    | [_, _, _], _ => simp
    | [_, _], h2 => simp [deOk] at h2
    | _ :: _ :: _ :: _ :: _, h2 => simp [deOk] at h2
theorem rd_no {ws : List ByteArray} (h : ¬ (ws.length = 3 ∨ ws.length = 4 ∨ ws.length = 6)) : rdW ws = false := by
  cases e : rdW ws
  · rfl
  · exact absurd (rd_len e) h
theorem pa_cut (s : ByteArray) : paN (cutB 6 s) = paN (cutA s) ∧ paV (cutB 6 s) = paV (cutA s) := by
  obtain ⟨h1, h2⟩ := cut_few 6 s
  by_cases h : (cutA s).length ≤ 7
  · rw [h1 h]
    exact ⟨rfl, rfl⟩
  · have e1 := h2 (by omega)
    have p1 : paN (cutB 6 s) = 2 := paN_no (rd_no (by omega))
    have p2 : paN (cutA s) = 2 := paN_no (rd_no (by omega))
    exact ⟨by rw [p1, p2], by rw [paV_no (by rw [p1]; decide), paV_no (by rw [p2]; decide)]⟩
end Go.Proofs.YtbieljcoaocfkabGreatDoor
