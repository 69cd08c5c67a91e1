/- What the document's own ReadRule answers, called with any text of at most 2^20 bytes: all ways in one. -/
import Derived.Test.YtbieljcoaocfkabGreatDoorRefReadRule
namespace Go.Proofs.YtbieljcoaocfkabGreatDoor
open Go.RowKit

theorem ne_true {x : Int} (h : x ≠ 0) : (x != 0) = true := by simpa using h
theorem pa_no {ws : List ByteArray} (h : rdW ws = false) : paV ws = .agg #[.int .i64 0, .int .i64 0, .int .i64 0, .int .i64 0, .int .i64 0, .int .i64 0] ∧ paN ws = 2 :=
  ⟨paV_no (by rw [paN_no h]; decide), paN_no h⟩

theorem readRule_any (s : ByteArray) (w : World) (hs : s.size ≤ 1048576) :
    Calls Tryz.prog 9 #[.string s] w fun e w' => e = .returned (.tuple #[paV (cutA s), .int .i64 (paN (cutA s))]) ∧ Below w.heap.size w w' := by
  have bad : ∀ {P : Value → Int → Prop}, rdW (cutA s) = false → P (.agg #[.int .i64 0, .int .i64 0, .int .i64 0, .int .i64 0, .int .i64 0, .int .i64 0]) 2 → P (paV (cutA s)) (paN (cutA s)) := fun {P} h hp => by
    obtain ⟨e1, e2⟩ := pa_no h
    rw [e1, e2]
    exact hp
  by_cases hl : (cutA s).length = 3 ∨ (cutA s).length = 4 ∨ (cutA s).length = 6
  · match hws : cutA s with
    | [] => rw [hws] at hl; simp at hl
    | [_] => rw [hws] at hl; simp at hl
    | [_, _] => rw [hws] at hl; simp at hl
    | [a, b, c] =>
      rw [hws] at bad
      cases h1 : dcOk a
      · exact bad (P := fun V N => Calls Tryz.prog 9 #[.string s] w fun e w' => e = .returned (.tuple #[V, .int .i64 N]) ∧ Below w.heap.size w w') (by simp [rdW, h1]) (rd_num3 s w hs a b c hws h1)
      · cases h2 : psOk b
        · exact bad (P := fun V N => Calls Tryz.prog 9 #[.string s] w fun e w' => e = .returned (.tuple #[V, .int .i64 N]) ∧ Below w.heap.size w w') (by simp [rdW, h2]) (rd_cube3 s w hs a b c hws h1 h2)
        · cases h3 : (c.toList == [100, 114, 111, 112])
          · exact bad (P := fun V N => Calls Tryz.prog 9 #[.string s] w fun e w' => e = .returned (.tuple #[V, .int .i64 N]) ∧ Below w.heap.size w w') (by simp [rdW, deOk, h3]) (rd_drop3 s w hs a b c hws h1 h2 h3)
          · have e : paN [a, b, c] = ruN (dcN a) (psM b) (psB b) 0 0 0 := paN_yes (by simp [rdW, deOk, h1, h2, h3])
            by_cases h9 : ruN (dcN a) (psM b) (psB b) 0 0 0 = 0
            · rw [paV_yes (by rw [e]; exact h9), e, h9]
              exact rd_good3 s w hs a b c hws h1 h2 h3 h9
            · rw [paV_no (by rw [e]; exact h9), e]
              exact rd_range3 s w hs a b c hws h1 h2 h3 (ne_true h9)
    | [a, b, c, d] =>
      rw [hws] at bad
      cases h1 : dcOk a
      · exact bad (P := fun V N => Calls Tryz.prog 9 #[.string s] w fun e w' => e = .returned (.tuple #[V, .int .i64 N]) ∧ Below w.heap.size w w') (by simp [rdW, h1]) (rd_num4 s w hs a b c d hws h1)
      · cases h2 : psOk b
        · exact bad (P := fun V N => Calls Tryz.prog 9 #[.string s] w fun e w' => e = .returned (.tuple #[V, .int .i64 N]) ∧ Below w.heap.size w w') (by simp [rdW, h2]) (rd_cube4 s w hs a b c d hws h1 h2)
        · cases h3 : (c.toList == [111, 117, 116])
          · exact bad (P := fun V N => Calls Tryz.prog 9 #[.string s] w fun e w' => e = .returned (.tuple #[V, .int .i64 N]) ∧ Below w.heap.size w w') (by simp [rdW, deOk, h3]) (rd_out4 s w hs a b c d hws h1 h2 h3)
          · cases h5 : dcOk d
            · exact bad (P := fun V N => Calls Tryz.prog 9 #[.string s] w fun e w' => e = .returned (.tuple #[V, .int .i64 N]) ∧ Below w.heap.size w w') (by simp [rdW, deOk, h5]) (rd_port4 s w hs a b c d hws h1 h2 h3 h5)
            · cases h6 : (dcN d == 0)
              · have e : paN [a, b, c, d] = ruN (dcN a) (psM b) (psB b) (dcN d) 0 0 := paN_yes (by simp only [rdW, deOk, h1, h2, h3, h5, h6]; rfl)
                by_cases h9 : ruN (dcN a) (psM b) (psB b) (dcN d) 0 0 = 0
                · rw [paV_yes (by rw [e]; exact h9), e, h9]
                  exact rd_good4 s w hs a b c d hws h1 h2 h3 h5 h6 h9
                · rw [paV_no (by rw [e]; exact h9), e]
                  exact rd_range4 s w hs a b c d hws h1 h2 h3 h5 h6 (ne_true h9)
              · exact bad (P := fun V N => Calls Tryz.prog 9 #[.string s] w fun e w' => e = .returned (.tuple #[V, .int .i64 N]) ∧ Below w.heap.size w w') (by simp only [rdW, deOk, h1, h2, h3, h5, h6]; rfl) (rd_zero4 s w hs a b c d hws h1 h2 h3 h5 h6)
    | [_, _, _, _, _] => rw [hws] at hl; simp at hl
    | [a, b, c, d, e, f] =>
      rw [hws] at bad
      cases h1 : dcOk a
      · exact bad (P := fun V N => Calls Tryz.prog 9 #[.string s] w fun e w' => e = .returned (.tuple #[V, .int .i64 N]) ∧ Below w.heap.size w w') (by simp [rdW, h1]) (rd_num6 s w hs a b c d e f hws h1)
      · cases h2 : psOk b
        · exact bad (P := fun V N => Calls Tryz.prog 9 #[.string s] w fun e w' => e = .returned (.tuple #[V, .int .i64 N]) ∧ Below w.heap.size w w') (by simp [rdW, h2]) (rd_cube6 s w hs a b c d e f hws h1 h2)
        · cases h3 : (c.toList == [111, 117, 116])
          · exact bad (P := fun V N => Calls Tryz.prog 9 #[.string s] w fun e w' => e = .returned (.tuple #[V, .int .i64 N]) ∧ Below w.heap.size w w') (by simp only [rdW, deOk, h1, h2, h3]; rfl) (rd_out6 s w hs a b c d e f hws h1 h2 h3)
          · cases h5 : dcOk d
            · exact bad (P := fun V N => Calls Tryz.prog 9 #[.string s] w fun e w' => e = .returned (.tuple #[V, .int .i64 N]) ∧ Below w.heap.size w w') (by simp only [rdW, deOk, h1, h2, h3, h5]; rfl) (rd_port6 s w hs a b c d e f hws h1 h2 h3 h5)
            · cases h6 : (dcN d == 0)
              · cases h7 : (e.toList == [115, 101, 116])
                · exact bad (P := fun V N => Calls Tryz.prog 9 #[.string s] w fun e w' => e = .returned (.tuple #[V, .int .i64 N]) ∧ Below w.heap.size w w') (by simp only [rdW, deOk, h1, h2, h3, h5, h6, h7]; rfl) (rd_set6 s w hs a b c d e f hws h1 h2 h3 h5 h6 h7)
                · cases h8 : psOk f
                  · exact bad (P := fun V N => Calls Tryz.prog 9 #[.string s] w fun e w' => e = .returned (.tuple #[V, .int .i64 N]) ∧ Below w.heap.size w w') (by simp only [rdW, deOk, h1, h2, h3, h5, h6, h7, h8]; rfl) (rd_what6 s w hs a b c d e f hws h1 h2 h3 h5 h6 h7 h8)
                  · cases h10 : (psM f == 0)
                    · have ee : paN [a, b, c, d, e, f] = ruN (dcN a) (psM b) (psB b) (dcN d) (psM f) (psB f) := paN_yes (by simp only [rdW, deOk, h1, h2, h3, h5, h6, h7, h8, h10]; rfl)
                      by_cases h9 : ruN (dcN a) (psM b) (psB b) (dcN d) (psM f) (psB f) = 0
                      · rw [paV_yes (by rw [ee]; exact h9), ee, h9]
                        exact rd_good6 s w hs a b c d e f hws h1 h2 h3 h5 h6 h7 h8 h10 h9
                      · rw [paV_no (by rw [ee]; exact h9), ee]
                        exact rd_range6 s w hs a b c d e f hws h1 h2 h3 h5 h6 h7 h8 h10 (ne_true h9)
                    · exact bad (P := fun V N => Calls Tryz.prog 9 #[.string s] w fun e w' => e = .returned (.tuple #[V, .int .i64 N]) ∧ Below w.heap.size w w') (by simp only [rdW, deOk, h1, h2, h3, h5, h6, h7, h8, h10]; rfl) (rd_none6 s w hs a b c d e f hws h1 h2 h3 h5 h6 h7 h8 h10)
              · exact bad (P := fun V N => Calls Tryz.prog 9 #[.string s] w fun e w' => e = .returned (.tuple #[V, .int .i64 N]) ∧ Below w.heap.size w w') (by simp only [rdW, deOk, h1, h2, h3, h5, h6]; rfl) (rd_zero6 s w hs a b c d e f hws h1 h2 h3 h5 h6)
    | _ :: _ :: _ :: _ :: _ :: _ :: _ :: _ => rw [hws] at hl; simp at hl
  · refine bad (P := fun V N => Calls Tryz.prog 9 #[.string s] w fun e w' => e = .returned (.tuple #[V, .int .i64 N]) ∧ Below w.heap.size w w') (rd_no hl) ?_
    exact rd_len0 s w hs _ rfl (fun h => hl (.inl h)) (fun h => hl (.inr (.inl h))) (fun h => hl (.inr (.inr h)))
end Go.Proofs.YtbieljcoaocfkabGreatDoor
