/- What order of package rule answers, called with any two rules. -/
import Derived.Test.YtpbfgfphcjmcbaaDoorRuleCon
import Derived.Test.YtpbfgfphcjmcbaaDoorRuleTabMath
import Derived.BigQuiet
import Derived.Deep.QuietTactic
import Derived.Deep.RegionHeld3
namespace Go.Proofs.YtpbfgfphcjmcbaaDoor
open Go.RowKit
set_option linter.unusedSimpArgs false

set_option maxHeartbeats 1000000 in
theorem nan_any (a : Int) (w : World) : Calls Tryd.prog 43 #[.int .i64 a] w fun e w' => e = .returned (.bool false) ∧ w' = w := by
  go_enter Tryd.func43, Tryd.ntmps43
  go_wp2
  go_ret
  exact ⟨by simp, rfl⟩

set_option maxHeartbeats 1000000 in
theorem compare_any (a b : Int) (w : World) : Calls Tryd.prog 34 #[.int .i64 a, .int .i64 b] w fun e w' => e = .returned (.int .i64 (cmpN a b)) ∧ w' = w := by
  by_cases h1 : a < b
  · have e : cmpN a b = -1 := by simp [cmpN, h1]
    rw [e]; clear e
    have g1 : decide (a < b) = true := by simpa using h1
    go_enter Tryd.func34, Tryd.ntmps34
    go_wp2_with (first | (go_at_call 43; refine (nan_any _ _).mono ?_; rintro e w' ⟨rfl, rfl⟩))
    go_ret
    exact ⟨rfl, rfl⟩
  · have g1 : decide (a < b) = false := by simpa using h1
    by_cases h2 : b < a
    · have e : cmpN a b = 1 := by simp [cmpN, h1, h2]
      rw [e]; clear e
      have g2 : decide (b < a) = true := by simpa using h2
      go_enter Tryd.func34, Tryd.ntmps34
      go_wp2_with (first | (go_at_call 43; refine (nan_any _ _).mono ?_; rintro e w' ⟨rfl, rfl⟩))
      go_ret
      exact ⟨rfl, rfl⟩
    · have e : cmpN a b = 0 := by simp [cmpN, h1, h2]
      rw [e]; clear e
      have g2 : decide (b < a) = false := by simpa using h2
      go_enter Tryd.func34, Tryd.ntmps34
      go_wp2_with (first | (go_at_call 43; refine (nan_any _ _).mono ?_; rintro e w' ⟨rfl, rfl⟩))
      go_ret
      exact ⟨rfl, rfl⟩

set_option maxHeartbeats 1000000 in
theorem or_any (x y z : Int) (g : Nat) (w : World) (h0 : w.cell? ⟨g, 0, none⟩ = some (.int .i64 x)) (h1 : w.cell? ⟨g, 1, none⟩ = some (.int .i64 y)) (h2 : w.cell? ⟨g, 2, none⟩ = some (.int .i64 z)) :
    Calls Tryd.prog 33 #[.slice (some ⟨g, 0, none⟩) 3 3] w fun e w' => e = .returned (.int .i64 (orN x y z)) ∧ w' = w := by
  generalize hq : orN x y z = q
  have HQ : Hid ((if x = 0 then (if y = 0 then z else y) else x) = q) := hq
  clear hq
  go_enter Tryd.func33, Tryd.ntmps33
  go_wp2
  go_loopw [8] (fun i wr => ∃ k : Nat, k ≤ 3 ∧ i = .int .i64 k ∧ (0 < k → x = 0) ∧ (1 < k → y = 0) ∧ (2 < k → z = 0) ∧ wr = w) (fun i _ => 3 - (intOf i).toNat)
  case atStart => exact ⟨0, by omega, rfl, by omega, by omega, by omega, rfl⟩
  case round =>
    obtain ⟨k, hk, rfl, a0, a1, a2, hw⟩ := hrel
    replace hw := hw.symm
    subst hw
    rcases (by omega : k = 0 ∨ k = 1 ∨ k = 2 ∨ k = 3) with rfl | rfl | rfl | rfl
    · clear a0 a1 a2
      by_cases hx : x = 0
      · have g1 : (x == 0) = true := by simpa using hx
        have g2 : (x != 0) = false := by simpa using hx
        go_wp2
        go_roundw
        case rel => exact ⟨1, by omega, rfl, fun _ => hx, by omega, by omega, trivial⟩
        case measure => simp [intOf]
      · have g1 : (x == 0) = false := by simpa using hx
        have g2 : (x != 0) = true := by simpa using hx
        go_wp2
        go_ret
        exact ⟨by rw [← HQ.out, if_neg hx]; rfl, rfl⟩
    · have hx := a0 (by omega)
      clear a0 a1 a2
      by_cases hy : y = 0
      · have g1 : (y == 0) = true := by simpa using hy
        have g2 : (y != 0) = false := by simpa using hy
        go_wp2
        go_roundw
        case rel => exact ⟨2, by omega, rfl, fun _ => hx, fun _ => hy, by omega, trivial⟩
        case measure => simp [intOf]
      · have g1 : (y == 0) = false := by simpa using hy
        have g2 : (y != 0) = true := by simpa using hy
        go_wp2
        go_ret
        exact ⟨by rw [← HQ.out, if_pos hx, if_neg hy]; rfl, rfl⟩
    · have hx := a0 (by omega)
      have hy := a1 (by omega)
      clear a0 a1 a2
      by_cases hz : z = 0
      · have g1 : (z == 0) = true := by simpa using hz
        have g2 : (z != 0) = false := by simpa using hz
        go_wp2
        go_roundw
        case rel => exact ⟨3, by omega, rfl, fun _ => hx, fun _ => hy, fun _ => hz, trivial⟩
        case measure => simp [intOf]
      · have g1 : (z == 0) = false := by simpa using hz
        have g2 : (z != 0) = true := by simpa using hz
        go_wp2
        go_ret
        exact ⟨by rw [← HQ.out, if_pos hx, if_pos hy]; rfl, rfl⟩
    · have hx := a0 (by omega)
      have hy := a1 (by omega)
      have hz := a2 (by omega)
      clear a0 a1 a2
      go_wp2
      go_ret
      exact ⟨by rw [← HQ.out, if_pos hx, if_pos hy, hz]; rfl, rfl⟩

theorem compare_b (a b : Int) (w : World) : Calls Tryd.prog 34 #[.int .i64 a, .int .i64 b] w fun e w' => e = .returned (.int .i64 (cmpN a b)) ∧ Below w.heap.size w w' :=
  (compare_any a b w).mono fun _ w' h => ⟨h.1, by rw [h.2]; exact Below.refl _ _⟩
theorem or_b (x y z : Int) (g : Nat) (w : World) (h0 : w.cell? ⟨g, 0, none⟩ = some (.int .i64 x)) (h1 : w.cell? ⟨g, 1, none⟩ = some (.int .i64 y)) (h2 : w.cell? ⟨g, 2, none⟩ = some (.int .i64 z)) :
    Calls Tryd.prog 33 #[.slice (some ⟨g, 0, none⟩) 3 3] w fun e w' => e = .returned (.int .i64 (orN x y z)) ∧ Below w.heap.size w w' :=
  (or_any x y z g w h0 h1 h2).mono fun _ w' h => ⟨h.1, by rw [h.2]; exact Below.refl _ _⟩
theorem cells3 {W : World} (x y z : Value) (t : TypeId) :
    (W.alloc (.cells #[x, y, z] t)).cell? ⟨W.heap.size, 0, none⟩ = some x ∧ (W.alloc (.cells #[x, y, z] t)).cell? ⟨W.heap.size, 1, none⟩ = some y ∧ (W.alloc (.cells #[x, y, z] t)).cell? ⟨W.heap.size, 2, none⟩ = some z := by
  refine ⟨?_, ?_, ?_⟩ <;> simp
/-- Two rules in the two blocks from B on, as far as order reads them. -/
def OS (w : World) (p m b p' m' b' : Int) (w' : World) : Prop :=
  Below w.heap.size w w' ∧ (w'.cell? ⟨w.heap.size, 0, none⟩ = some (.int .i64 p) ∧ w'.cell? ⟨w.heap.size, 1, none⟩ = some (.int .i64 m) ∧ w'.cell? ⟨w.heap.size, 2, none⟩ = some (.int .i64 b)) ∧
    (w'.cell? ⟨w.heap.size + 1, 0, none⟩ = some (.int .i64 p') ∧ w'.cell? ⟨w.heap.size + 1, 1, none⟩ = some (.int .i64 m') ∧ w'.cell? ⟨w.heap.size + 1, 2, none⟩ = some (.int .i64 b'))
theorem OS.later {w W W' : World} {p m b p' m' b' : Int} (hb : Below W.heap.size W W') (h : OS w p m b p' m' b' W) : OS w p m b p' m' b' W' := by
  obtain ⟨h0, ⟨h1, h2, h3⟩, ⟨h4, h5, h6⟩⟩ := h
  exact ⟨h0.trans (hb.mono h0.size), ⟨cell_later hb h1, cell_later hb h2, cell_later hb h3⟩, ⟨cell_later hb h4, cell_later hb h5, cell_later hb h6⟩⟩

set_option maxHeartbeats 400000 in
theorem order_any (p m b o s v p' m' b' o' s' v' : Int) (w : World) :
    Calls Tryd.prog 27 #[.agg #[.int .i64 p, .int .i64 m, .int .i64 b, .int .i64 o, .int .i64 s, .int .i64 v], .agg #[.int .i64 p', .int .i64 m', .int .i64 b', .int .i64 o', .int .i64 s', .int .i64 v']] w fun e w' => e = .returned (.int .i64 (ordN p m b p' m' b')) ∧ Below w.heap.size w w' := by
  have hS0 : OS w p m b p' m' b' ((w.alloc (Obj.cells #[Value.int IntKind.i64 p, Value.int IntKind.i64 m, Value.int IntKind.i64 b, Value.int IntKind.i64 o, Value.int IntKind.i64 s, Value.int IntKind.i64 v] 25)).alloc (Obj.cells #[Value.int IntKind.i64 p', Value.int IntKind.i64 m', Value.int IntKind.i64 b', Value.int IntKind.i64 o', Value.int IntKind.i64 s', Value.int IntKind.i64 v'] 25)) := by
    refine ⟨((Below.refl _ _).alloc (Nat.le_refl _) _).alloc (by simp) _, ⟨?_, ?_, ?_⟩, ⟨?_, ?_, ?_⟩⟩ <;> simp
  go_enter Tryd.func27, Tryd.ntmps27
  go_wp2
  generalize ((w.alloc (Obj.cells #[Value.int IntKind.i64 p, Value.int IntKind.i64 m, Value.int IntKind.i64 b, Value.int IntKind.i64 o, Value.int IntKind.i64 s, Value.int IntKind.i64 v] 25)).alloc (Obj.cells #[Value.int IntKind.i64 p', Value.int IntKind.i64 m', Value.int IntKind.i64 b', Value.int IntKind.i64 o', Value.int IntKind.i64 s', Value.int IntKind.i64 v'] 25)) = W0 at *
  unfold OS at hS0
  go_region_held3 (fun w' => Below w.heap.size w w' ∧ (w'.cell? ⟨w.heap.size, 0, none⟩ = some (.int .i64 p) ∧ w'.cell? ⟨w.heap.size, 1, none⟩ = some (.int .i64 m) ∧ w'.cell? ⟨w.heap.size, 2, none⟩ = some (.int .i64 b)) ∧
      (w'.cell? ⟨w.heap.size + 1, 0, none⟩ = some (.int .i64 p') ∧ w'.cell? ⟨w.heap.size + 1, 1, none⟩ = some (.int .i64 m') ∧ w'.cell? ⟨w.heap.size + 1, 2, none⟩ = some (.int .i64 b')))
    (first | assumption | exact OS.later (by assumption) (by assumption) | exact OS.later (Below.drew (Below.refl _ _)) (by assumption) | exact OS.later (Below.alloc (Below.refl _ _) (Nat.le_refl _) _) (by assumption))
    (first
      | (go_at_call 34; refine (compare_b _ _ _).mono ?_; rintro e w' ⟨rfl, hb⟩)
      | (go_at_call 33; refine (or_b (cmpN p p') (cmpN m m') (cmpN b b') _ _ (cells3 _ _ _ _).1 (cells3 _ _ _ _).2.1 (cells3 _ _ _ _).2.2).mono ?_; rintro e w' ⟨rfl, hb⟩))
  have hS := (‹Below w.heap.size w w' ∧ _›).1
  go_wp2
  go_ret
  exact ⟨rfl, hS⟩
end Go.Proofs.YtpbfgfphcjmcbaaDoor
