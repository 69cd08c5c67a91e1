/- What Table of package rule answers, called with any table. -/
import Derived.Test.YtpbfgfphcjmcbaaDoorRuleCon
import Derived.Test.YtpbfgfphcjmcbaaDoorRuleTabMath
import Derived.Shelf.Abstract
namespace Go.Proofs.YtpbfgfphcjmcbaaDoor
open Go.RowKit
set_option linter.unusedSimpArgs false

/-- A rule lies at an address. -/
structure C6 (w : World) (g o : Nat) (r : Ru) : Prop where
  c0 : w.cell? ⟨g, o, none⟩ = some (.int .i64 r.p)
  c1 : w.cell? ⟨g, o + 1, none⟩ = some (.int .i64 r.m)
  c2 : w.cell? ⟨g, o + 2, none⟩ = some (.int .i64 r.b)
  c3 : w.cell? ⟨g, o + 3, none⟩ = some (.int .i64 r.o)
  c4 : w.cell? ⟨g, o + 4, none⟩ = some (.int .i64 r.s)
  c5 : w.cell? ⟨g, o + 5, none⟩ = some (.int .i64 r.v)
theorem C6.later {w w' : World} {g o : Nat} {r : Ru} (h : C6 w g o r) (hb : Below w.heap.size w w') : C6 w' g o r :=
  ⟨cell_later hb h.c0, cell_later hb h.c1, cell_later hb h.c2, cell_later hb h.c3, cell_later hb h.c4, cell_later hb h.c5⟩
theorem C6.new (w : World) (p m b o s v : Int) (t : TypeId) : C6 (w.alloc (Obj.cells #[Value.int IntKind.i64 p, Value.int IntKind.i64 m, Value.int IntKind.i64 b, Value.int IntKind.i64 o, Value.int IntKind.i64 s, Value.int IntKind.i64 v] t)) w.heap.size 0 ⟨p, m, b, o, s, v⟩ := by
  refine ⟨?_, ?_, ?_, ?_, ?_, ?_⟩ <;> simp
/-- These rules lie from an address on. -/
def RAt (w : World) (g o : Nat) (L : List Ru) : Prop := ∀ i (h : i < L.length), C6 w g (o + i * 6) L[i]
theorem RAt.later {w w' : World} {g o : Nat} {L : List Ru} (h : RAt w g o L) (hb : Below w.heap.size w w') : RAt w' g o L := fun i hi => (h i hi).later hb
theorem RAt.take {w : World} {g o : Nat} {L : List Ru} (h : RAt w g o L) (k : Nat) : RAt w g o (L.take k) := by
  intro i hi
  rw [List.getElem_take]
  exact h i (by simp at hi; omega)
/-- A value is a slice of these rules. -/
def SR (w : World) (v : Value) (L : List Ru) : Prop :=
  (∃ ao cap, v = .slice ao 0 cap ∧ L = []) ∨ ∃ g o cap, v = .slice (some ⟨g, o, none⟩) L.length cap ∧ L.length ≤ cap ∧ cap ≤ maxLen ∧ RAt w g o L
theorem SR.later {w w' : World} {v : Value} {L : List Ru} (h : SR w v L) (hb : Below w.heap.size w w') : SR w' v L := by
  rcases h with h | ⟨g, o, cap, h1, h2, h3, h4⟩
  · exact .inl h
  · exact .inr ⟨g, o, cap, h1, h2, h3, h4.later hb⟩
/-- The rule at a place, in letters. -/
theorem RAt.at {w : World} {g o : Nat} {L : List Ru} (h : RAt w g o L) {n k : Nat} (hn : L.length = n) (hk : k < n) :
    ∃ (p m b q s v : Int) (hl : k < L.length), L[k] = ⟨p, m, b, q, s, v⟩ ∧ (w.cell? ⟨g, o + k * 6, none⟩ = some (.int .i64 p) ∧ w.cell? ⟨g, o + k * 6 + 1, none⟩ = some (.int .i64 m) ∧ w.cell? ⟨g, o + k * 6 + 2, none⟩ = some (.int .i64 b) ∧
      w.cell? ⟨g, o + k * 6 + 3, none⟩ = some (.int .i64 q) ∧ w.cell? ⟨g, o + k * 6 + 4, none⟩ = some (.int .i64 s) ∧ w.cell? ⟨g, o + k * 6 + 5, none⟩ = some (.int .i64 v)) :=
  have hl : k < L.length := by omega
  have c := h k hl
  ⟨_, _, _, _, _, _, hl, rfl, c.c0, c.c1, c.c2, c.c3, c.c4, c.c5⟩

theorem key_ways (p m b o s v p' m' b' o' s' v' : Int) :
    ((p == p') = false ∧ keyB ⟨p, m, b, o, s, v⟩ ⟨p', m', b', o', s', v'⟩ = false) ∨ ((p == p') = true ∧ (m == m') = false ∧ keyB ⟨p, m, b, o, s, v⟩ ⟨p', m', b', o', s', v'⟩ = false) ∨
    ((p == p') = true ∧ (m == m') = true ∧ (b == b') = false ∧ keyB ⟨p, m, b, o, s, v⟩ ⟨p', m', b', o', s', v'⟩ = false) ∨ ((p == p') = true ∧ (m == m') = true ∧ (b == b') = true ∧ keyB ⟨p, m, b, o, s, v⟩ ⟨p', m', b', o', s', v'⟩ = true) := by
  rw [key_eq]
  by_cases h1 : p = p' <;> by_cases h2 : m = m' <;> by_cases h3 : b = b' <;> simp [h1, h2, h3]
set_option maxHeartbeats 1000000 in
theorem clash_any (p m b o s v p' m' b' o' s' v' : Int) (w : World) :
    Calls Tryd.prog 26 #[.agg #[.int .i64 p, .int .i64 m, .int .i64 b, .int .i64 o, .int .i64 s, .int .i64 v], .agg #[.int .i64 p', .int .i64 m', .int .i64 b', .int .i64 o', .int .i64 s', .int .i64 v']] w fun e w' => e = .returned (.bool (keyB ⟨p, m, b, o, s, v⟩ ⟨p', m', b', o', s', v'⟩)) ∧ Below w.heap.size w w' := by
  have HB : Hid (∀ o1 o2, Below w.heap.size w ((w.alloc o1).alloc o2)) := fun o1 o2 => ((Below.refl _ _).alloc (Nat.le_refl _) o1).alloc (by simp) o2
  rcases key_ways p m b o s v p' m' b' o' s' v' with ⟨e1, e⟩ | ⟨e1, e2, e⟩ | ⟨e1, e2, e3, e⟩ | ⟨e1, e2, e3, e⟩
  all_goals
    rw [e]
    clear e
    go_enter Tryd.func26, Tryd.ntmps26
    go_wp2
    go_ret
    exact ⟨rfl, HB.out _ _⟩

/-- A closure that asks something of a rule, in whatever world behind this one. -/
def Asks (w : World) (f : FuncId) (c : Value) (P : Ru → Bool) : Prop :=
  ∀ (p m b o s v : Int) (W : World), Below w.heap.size w W →
    Calls Tryd.prog f #[.agg #[.int .i64 p, .int .i64 m, .int .i64 b, .int .i64 o, .int .i64 s, .int .i64 v], c] W fun e w' => e = .returned (.bool (P ⟨p, m, b, o, s, v⟩)) ∧ Below W.heap.size W w'
theorem Asks.later {w w' : World} {f : FuncId} {c : Value} {P : Ru → Bool} (h : Asks w f c P) (hb : Below w.heap.size w w') : Asks w' f c P :=
  fun p m b o s v W hW => h p m b o s v W (hb.trans (hW.mono hb.size))

set_option maxHeartbeats 1000000 in
theorem table1_any (p m b o s v : Int) (r : Ru) (B : Nat) (w : World) (hc : C6 w B 0 r) :
    Calls Tryd.prog 25 #[.agg #[.int .i64 p, .int .i64 m, .int .i64 b, .int .i64 o, .int .i64 s, .int .i64 v], .pointer (some ⟨B, 0, none⟩)] w fun e w' => e = .returned (.bool (keyB ⟨p, m, b, o, s, v⟩ r)) ∧ Below w.heap.size w w' := by
  obtain ⟨p', m', b', o', s', v'⟩ := r
  obtain ⟨c0, c1, c2, c3, c4, c5⟩ := hc
  simp only [Nat.zero_add] at c0 c1 c2 c3 c4 c5
  have hlt : B < w.heap.size := World.block_lt_of_cell? _ _ c0
  go_enter Tryd.func25, Tryd.ntmps25
  go_wp2_with fail
  refine (clash_any _ _ _ _ _ _ _ _ _ _ _ _ _).mono ?_
  rintro e w1 ⟨rfl, hb1⟩
  go_wp2
  go_ret
  exact ⟨rfl, ((Below.refl _ _).alloc (Nat.le_refl _) _).trans (hb1.mono (by simp))⟩
theorem table1_asks (r : Ru) (B : Nat) (w : World) (hc : C6 w B 0 r) : Asks w 25 (.pointer (some ⟨B, 0, none⟩)) (fun a => keyB a r) :=
  fun p m b o s v W hW => table1_any p m b o s v r B W (hc.later hW)

theorem any_nextR {L : List Ru} {f : Ru → Bool} {k : Nat} (hk : k < L.length) (h : (L.take k).any f = false) (h2 : f L[k] = false) : (L.take (k + 1)).any f = false := by
  rw [List.take_succ_eq_append_getElem hk]
  simp only [List.any_append, h, List.any_cons, List.any_nil, h2, Bool.or_false]
theorem any_hitR {L : List Ru} {f : Ru → Bool} {k : Nat} (hk : k < L.length) (h2 : f L[k] = true) : L.any f = true := List.any_eq_true.2 ⟨_, List.getElem_mem hk, h2⟩
/-- The first place where something is so, or -1. -/
def ixP (f : Ru → Bool) (L : List Ru) : Int := if L.any f then (L.findIdx f : Int) else -1
theorem ixP_hit {L : List Ru} {f : Ru → Bool} {k : Nat} (hk : k < L.length) (h : (L.take k).any f = false) (h2 : f L[k] = true) : ixP f L = k := by
  rw [ixP, any_hitR hk h2, if_pos rfl]
  congr 1
  rw [List.findIdx_eq hk]
  refine ⟨h2, fun j hj => ?_⟩
  rw [List.any_eq_false] at h
  have := h L[j] (by rw [List.mem_take_iff_getElem]; exact ⟨j, by omega, rfl⟩)
  simpa using this
theorem ixP_no {L : List Ru} {f : Ru → Bool} (h : L.any f = false) : ixP f L = -1 := by simp [ixP, h]
theorem ixP_any (L : List Ru) (f : Ru → Bool) : decide (0 ≤ ixP f L) = L.any f := by
  unfold ixP
  cases L.any f
  · simp
  · simp
theorem SR.form {w : World} {v : Value} {L : List Ru} (h : SR w v L) : ∃ ao n cap, v = .slice ao n cap ∧ L.length = n ∧ n ≤ maxLen ∧ n ≤ cap ∧ (0 < n → ∃ g o, ao = some ⟨g, o, none⟩ ∧ RAt w g o L ∧ cap ≤ maxLen) := by
  rcases h with ⟨ao, cap, rfl, rfl⟩ | ⟨g, o, cap, rfl, h1, h2, h3⟩
  · exact ⟨ao, 0, cap, rfl, rfl, Nat.zero_le _, Nat.zero_le _, fun h => absurd h (by omega)⟩
  · exact ⟨_, _, cap, rfl, rfl, Nat.le_trans h1 h2, h1, fun _ => ⟨g, o, rfl, h3, h2⟩⟩

set_option maxHeartbeats 1000000 in
theorem idxF (ao : Option Addr) (n cap : Nat) (f : FuncId) (c : Value) (P : Ru → Bool) (L : List Ru) (w : World) (hn : L.length = n) (hn2 : n ≤ maxLen) (ha : 0 < n → ∃ g o, ao = some ⟨g, o, none⟩ ∧ RAt w g o L ∧ cap ≤ maxLen) (he : ∀ args w, (callFunc f args).run Tryd.prog w = .ok (.enter f args) w) (hf : Asks w f c P) :
    Calls Tryd.prog 32 #[.slice ao n cap, .func (Fn.func f) #[] #[c]] w fun e w' => e = .returned (.int .i64 (ixP P L)) ∧ Below w.heap.size w w' := by
  have HN : Hid (L.length = n) := hn
  have HF : Hid (Asks w f c P) := hf
  have HA : Hid (0 < n → ∃ g o, ao = some ⟨g, o, none⟩ ∧ RAt w g o L ∧ cap ≤ maxLen) := ha
  unfold maxLen at hn2
  clear hn hf ha
  go_enter Tryd.func32, Tryd.ntmps32
  go_wp2
  go_loopw [8] (fun i wr => ∃ k : Nat, k ≤ n ∧ i = .int .i64 k ∧ (L.take k).any P = false ∧ Below w.heap.size w wr)
    (fun i _ => n - (intOf i).toNat)
  case atStart => exact ⟨0, by omega, rfl, by simp, Below.refl _ _⟩
  case round =>
    obtain ⟨k, hk, rfl, hno, hB⟩ := hrel
    have HB : Hid (Below w.heap.size w wr) := hB
    have HNO : Hid ((L.take k).any P = false) := hno
    clear hno
    by_cases hlt : k < n
    · obtain ⟨g, o, hao, hc, _⟩ := HA.out (by omega)
      subst hao
      obtain ⟨p, m, b, q, s, v, hkl, hL, q0, q1, q2, q3, q4, q5⟩ := (hc.later hB).at HN.out hlt
      have HL : Hid (L[k] = ⟨p, m, b, q, s, v⟩) := hL
      clear hL hB
      cases ho : P ⟨p, m, b, q, s, v⟩
      · go_wp2_with fail
        refine (HF.out p m b q s v _ HB.out).mono ?_
        rintro e w1 ⟨rfl, hb1⟩
        rw [ho]
        have HB1 := HB.out.trans (hb1.mono HB.out.size)
        clear hb1
        go_wp2
        go_roundw
        case rel => exact ⟨k + 1, by omega, by go_num, any_nextR hkl HNO.out (by rw [HL.out]; exact ho), HB1⟩
        case measure => simp [intOf]; omega
      · go_wp2_with fail
        refine (HF.out p m b q s v _ HB.out).mono ?_
        rintro e w1 ⟨rfl, hb1⟩
        rw [ho]
        go_wp2
        go_ret
        exact ⟨by rw [ixP_hit hkl HNO.out (by rw [HL.out]; exact ho)]; rfl, HB.out.trans (hb1.mono HB.out.size)⟩
    · obtain rfl : k = n := by omega
      go_wp2
      go_ret
      exact ⟨by have := HNO.out; rw [← HN.out, List.take_length] at this; rw [ixP_no this]; rfl, HB.out⟩

set_option maxHeartbeats 1000000 in
theorem containsF (ao : Option Addr) (n cap : Nat) (f : FuncId) (c : Value) (P : Ru → Bool) (L : List Ru) (w : World) (hn : L.length = n) (hn2 : n ≤ maxLen) (ha : 0 < n → ∃ g o, ao = some ⟨g, o, none⟩ ∧ RAt w g o L ∧ cap ≤ maxLen) (he : ∀ args w, (callFunc f args).run Tryd.prog w = .ok (.enter f args) w) (hf : Asks w f c P) :
    Calls Tryd.prog 24 #[.slice ao n cap, .func (Fn.func f) #[] #[c]] w fun e w' => e = .returned (.bool (L.any P)) ∧ Below w.heap.size w w' := by
  rw [← ixP_any]
  obtain ⟨x, hx⟩ : ∃ x, x = ixP P L := ⟨_, rfl⟩
  have HX : Hid (x = ixP P L) := hx
  rw [← hx]
  clear hx
  go_enter Tryd.func24, Tryd.ntmps24
  go_wp2_with fail
  refine (idxF ao n cap f c P L _ hn hn2 ha he hf).mono ?_
  rintro e w1 ⟨rfl, hb1⟩
  rw [← HX.out]
  go_wp2
  go_ret
  exact ⟨rfl, hb1⟩
theorem containsR_any (g o cap n B : Nat) (r : Ru) (L : List Ru) (w : World) (hc : RAt w g o L) (hn : L.length = n) (hn2 : n ≤ maxLen) (hcap : cap ≤ maxLen) (hr : C6 w B 0 r) :
    Calls Tryd.prog 24 #[.slice (some ⟨g, o, none⟩) n cap, .func (Fn.func 25) #[] #[.pointer (some ⟨B, 0, none⟩)]] w fun e w' => e = .returned (.bool (L.any (fun a => keyB a r))) ∧ Below w.heap.size w w' :=
  containsF _ n cap _ _ _ L w hn hn2 (fun _ => ⟨g, o, rfl, hc, hcap⟩) (enters_of Tryd.func25 (by kernel_rfl) rfl) (table1_asks r B w hr)
end Go.Proofs.YtpbfgfphcjmcbaaDoor
