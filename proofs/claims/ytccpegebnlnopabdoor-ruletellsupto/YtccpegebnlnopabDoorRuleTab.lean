/- What Table of package rule answers, called with any table. -/
import Derived.Test.YtccpegebnlnopabDoorRuleOrder
namespace Go.Proofs.YtccpegebnlnopabDoor
open Go.RowKit
set_option linter.unusedSimpArgs false

/-- A rule lies at an address. -/
structure C6 (w : World) (g o : Nat) (r : Ru) : Prop where
  c0 : w.cell? ⟨g, o, none⟩ = some (.int .i64 r.p)
  c1 : w.cell? ⟨g, o + 1, none⟩ = some (.int .i64 r.m)
  c2 : w.cell? ⟨g, o + 2, none⟩ = some (.int .i64 r.b)
  c3 : w.cell? ⟨g, o + 3, none⟩ = some (.int .i64 r.o)
  c4 : w.cell? ⟨g, o + 4, none⟩ = some (.int .i64 r.s)
  c5 : w.cell? ⟨g, o + 5, none⟩ = some (.int .i64 r.v)
theorem C6.later {w w' : World} {g o : Nat} {r : Ru} (h : C6 w g o r) (hb : Below w.heap.size w w') : C6 w' g o r :=
  ⟨cell_later hb h.c0, cell_later hb h.c1, cell_later hb h.c2, cell_later hb h.c3, cell_later hb h.c4, cell_later hb h.c5⟩
theorem C6.new (w : World) (p m b o s v : Int) (t : TypeId) : C6 (w.alloc (Obj.cells #[Value.int IntKind.i64 p, Value.int IntKind.i64 m, Value.int IntKind.i64 b, Value.int IntKind.i64 o, Value.int IntKind.i64 s, Value.int IntKind.i64 v] t)) w.heap.size 0 ⟨p, m, b, o, s, v⟩ := by
  refine ⟨?_, ?_, ?_, ?_, ?_, ?_⟩ <;> simp
/-- These rules lie from an address on. -/
def RAt (w : World) (g o : Nat) (L : List Ru) : Prop := ∀ i (h : i < L.length), C6 w g (o + i * 6) L[i]
theorem RAt.later {w w' : World} {g o : Nat} {L : List Ru} (h : RAt w g o L) (hb : Below w.heap.size w w') : RAt w' g o L := fun i hi => (h i hi).later hb
theorem RAt.take {w : World} {g o : Nat} {L : List Ru} (h : RAt w g o L) (k : Nat) : RAt w g o (L.take k) := by
  intro i hi
  rw [List.getElem_take]
  exact h i (by simp at hi; omega)
/-- A value is a slice of these rules. -/
def SR (w : World) (v : Value) (L : List Ru) : Prop :=
  (∃ ao cap, v = .slice ao 0 cap ∧ L = []) ∨ ∃ g o cap, v = .slice (some ⟨g, o, none⟩) L.length cap ∧ L.length ≤ cap ∧ cap ≤ maxLen ∧ RAt w g o L
theorem SR.later {w w' : World} {v : Value} {L : List Ru} (h : SR w v L) (hb : Below w.heap.size w w') : SR w' v L := by
  rcases h with h | ⟨g, o, cap, h1, h2, h3, h4⟩
  · exact .inl h
  · exact .inr ⟨g, o, cap, h1, h2, h3, h4.later hb⟩
/-- The rule at a place, in letters. -/
theorem RAt.at {w : World} {g o : Nat} {L : List Ru} (h : RAt w g o L) {n k : Nat} (hn : L.length = n) (hk : k < n) :
    ∃ (p m b q s v : Int) (hl : k < L.length), L[k] = ⟨p, m, b, q, s, v⟩ ∧ (w.cell? ⟨g, o + k * 6, none⟩ = some (.int .i64 p) ∧ w.cell? ⟨g, o + k * 6 + 1, none⟩ = some (.int .i64 m) ∧ w.cell? ⟨g, o + k * 6 + 2, none⟩ = some (.int .i64 b) ∧
      w.cell? ⟨g, o + k * 6 + 3, none⟩ = some (.int .i64 q) ∧ w.cell? ⟨g, o + k * 6 + 4, none⟩ = some (.int .i64 s) ∧ w.cell? ⟨g, o + k * 6 + 5, none⟩ = some (.int .i64 v)) :=
  have hl : k < L.length := by omega
  have c := h k hl
  ⟨_, _, _, _, _, _, hl, rfl, c.c0, c.c1, c.c2, c.c3, c.c4, c.c5⟩

set_option maxHeartbeats 1000000 in
theorem table1_any (p m b o s v : Int) (r : Ru) (B : Nat) (w : World) (hc : C6 w B 0 r) :
    Calls Tryd.prog 40 #[.agg #[.int .i64 p, .int .i64 m, .int .i64 b, .int .i64 o, .int .i64 s, .int .i64 v], .pointer (some ⟨B, 0, none⟩)] w fun e w' => e = .returned (.bool (keyB ⟨p, m, b, o, s, v⟩ r)) ∧ Below w.heap.size w w' := by
  obtain ⟨p', m', b', o', s', v'⟩ := r
  obtain ⟨c0, c1, c2, c3, c4, c5⟩ := hc
  simp only [Nat.zero_add] at c0 c1 c2 c3 c4 c5
  have hlt : B < w.heap.size := World.block_lt_of_cell? _ _ c0
  go_enter Tryd.func40, Tryd.ntmps40
  go_wp2_with fail
  refine (order_any _ _ _ _ _ _ _ _ _ _ _ _ _).mono ?_
  rintro e w1 ⟨rfl, hb1⟩
  go_wp2
  go_ret
  exact ⟨rfl, ((Below.refl _ _).alloc (Nat.le_refl _) _).trans (hb1.mono (by simp))⟩

theorem any_nextR {L : List Ru} {f : Ru → Bool} {k : Nat} (hk : k < L.length) (h : (L.take k).any f = false) (h2 : f L[k] = false) : (L.take (k + 1)).any f = false := by
  rw [List.take_succ_eq_append_getElem hk]
  simp only [List.any_append, h, List.any_cons, List.any_nil, h2, Bool.or_false]
theorem any_hitR {L : List Ru} {f : Ru → Bool} {k : Nat} (hk : k < L.length) (h2 : f L[k] = true) : L.any f = true := List.any_eq_true.2 ⟨_, List.getElem_mem hk, h2⟩

set_option maxHeartbeats 1000000 in
theorem idxR_some (g o cap n B : Nat) (r : Ru) (L : List Ru) (w : World) (hc : RAt w g o L) (hn : L.length = n) (hn2 : n ≤ maxLen) (hr : C6 w B 0 r) :
    Calls Tryd.prog 50 #[.slice (some ⟨g, o, none⟩) n cap, .func (Fn.func 40) #[] #[.pointer (some ⟨B, 0, none⟩)]] w fun e w' => (∃ x, e = .returned (.int .i64 x) ∧ decide (0 ≤ x) = L.any (fun a => keyB a r)) ∧ Below w.heap.size w w' := by
  have HN : Hid (L.length = n) := hn
  have HR : Hid (C6 w B 0 r) := hr
  unfold maxLen at hn2
  clear hn hr
  go_enter Tryd.func50, Tryd.ntmps50
  go_wp2
  go_loopw [8] (fun i wr => ∃ k : Nat, k ≤ n ∧ i = .int .i64 k ∧ (L.take k).any (fun a => keyB a r) = false ∧ Below w.heap.size w wr)
    (fun i _ => n - (intOf i).toNat)
  case atStart => exact ⟨0, by omega, rfl, by simp, Below.refl _ _⟩
  case round =>
    obtain ⟨k, hk, rfl, hno, hB⟩ := hrel
    have HB : Hid (Below w.heap.size w wr) := hB
    have HNO : Hid ((L.take k).any (fun a => keyB a r) = false) := hno
    clear hno
    by_cases hlt : k < n
    · obtain ⟨p, m, b, q, s, v, hkl, hL, q0, q1, q2, q3, q4, q5⟩ := (hc.later hB).at HN.out hlt
      have HL : Hid (L[k] = ⟨p, m, b, q, s, v⟩) := hL
      have HC : Hid (C6 wr B 0 r) := HR.out.later hB
      clear hL hB
      cases ho : keyB ⟨p, m, b, q, s, v⟩ r
      · go_wp2_with fail
        refine (table1_any _ _ _ _ _ _ r _ _ HC.out).mono ?_
        rintro e w1 ⟨rfl, hb1⟩
        rw [ho]
        have HB1 := HB.out.trans (hb1.mono HB.out.size)
        clear hb1
        go_wp2
        go_roundw
        case rel => exact ⟨k + 1, by omega, by go_num, any_nextR hkl HNO.out (by rw [HL.out]; exact ho), HB1⟩
        case measure => simp [intOf]; omega
      · go_wp2_with fail
        refine (table1_any _ _ _ _ _ _ r _ _ HC.out).mono ?_
        rintro e w1 ⟨rfl, hb1⟩
        rw [ho]
        go_wp2
        go_ret
        exact ⟨⟨_, rfl, by rw [any_hitR hkl (by rw [HL.out]; exact ho)]; simp⟩, HB.out.trans (hb1.mono HB.out.size)⟩
    · obtain rfl : k = n := by omega
      go_wp2
      go_ret
      exact ⟨⟨_, rfl, by have := HNO.out; rw [← HN.out, List.take_length] at this; rw [this]; simp⟩, HB.out⟩

set_option maxHeartbeats 1000000 in
theorem containsR_any (g o cap n B : Nat) (r : Ru) (L : List Ru) (w : World) (hc : RAt w g o L) (hn : L.length = n) (hn2 : n ≤ maxLen) (hr : C6 w B 0 r) :
    Calls Tryd.prog 39 #[.slice (some ⟨g, o, none⟩) n cap, .func (Fn.func 40) #[] #[.pointer (some ⟨B, 0, none⟩)]] w fun e w' => e = .returned (.bool (L.any (fun a => keyB a r))) ∧ Below w.heap.size w w' := by
  have HN : Hid (L.length = n) := hn
  clear hn
  go_enter Tryd.func39, Tryd.ntmps39
  go_wp2_with fail
  refine (idxR_some g o cap n B r L _ hc HN.out hn2 hr).mono ?_
  rintro e w1 ⟨⟨x, rfl, hx⟩, hb1⟩
  have HX : Hid (decide (0 ≤ x) = L.any (fun a => keyB a r)) := hx
  clear hx
  go_wp2
  go_ret
  exact ⟨by rw [← HX.out]; rfl, hb1⟩
end Go.Proofs.YtccpegebnlnopabDoor
