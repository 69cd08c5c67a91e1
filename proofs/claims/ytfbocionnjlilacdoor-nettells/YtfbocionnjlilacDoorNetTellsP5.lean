/- Contracts and facts on the way to NetTells, joined into one text: RuleOrder, RuleLook, RuleApply, NetStep1, TopoSpot, TopoPeers, TopoPeer, SlHop, HopHas, SlHost. -/
import Derived.Test.YtfbocionnjlilacDoorNetTellsP3
import Derived.Test.YtfbocionnjlilacDoorNetTellsP4
import Derived.Test.YtfbocionnjlilacDoorNetTellsP2
import Derived.BigQuiet
import Derived.Deep.QuietTactic
import Derived.Deep.RegionHeld3
import Derived.BigRegion
import Derived.Deep.RegionWith
import Derived.Deep.CutRange
import Derived.Deep.CutBlock
import Derived.Carry
import Derived.WalkKit
import Derived.WalkSpells
import Derived.Below
import Derived.Shelf.Abstract
/- What order of package rule answers, called with any two rules. -/
namespace Go.Proofs.YtfbocionnjlilacDoor
open Go.RowKit
set_option linter.unusedSimpArgs false

set_option maxHeartbeats 1000000 in
theorem nan_any (a : Int) (w : World) : Calls Tryd.prog 96 #[.int .i64 a] w fun e w' => e = .returned (.bool false) ∧ w' = w := by
  go_enter Tryd.func96, Tryd.ntmps96
  go_wp2
  go_ret
  exact ⟨by simp, rfl⟩

set_option maxHeartbeats 1000000 in
theorem compare_any (a b : Int) (w : World) : Calls Tryd.prog 95 #[.int .i64 a, .int .i64 b] w fun e w' => e = .returned (.int .i64 (cmpN a b)) ∧ w' = w := by
  by_cases h1 : a < b
  · have e : cmpN a b = -1 := by simp [cmpN, h1]
    rw [e]; clear e
    have g1 : decide (a < b) = true := by simpa using h1
    go_enter Tryd.func95, Tryd.ntmps95
    go_wp2_with (first | (go_at_call 96; refine (nan_any _ _).mono ?_; rintro e w' ⟨rfl, rfl⟩))
    go_ret
    exact ⟨rfl, rfl⟩
  · have g1 : decide (a < b) = false := by simpa using h1
    by_cases h2 : b < a
    · have e : cmpN a b = 1 := by simp [cmpN, h1, h2]
      rw [e]; clear e
      have g2 : decide (b < a) = true := by simpa using h2
      go_enter Tryd.func95, Tryd.ntmps95
      go_wp2_with (first | (go_at_call 96; refine (nan_any _ _).mono ?_; rintro e w' ⟨rfl, rfl⟩))
      go_ret
      exact ⟨rfl, rfl⟩
    · have e : cmpN a b = 0 := by simp [cmpN, h1, h2]
      rw [e]; clear e
      have g2 : decide (b < a) = false := by simpa using h2
      go_enter Tryd.func95, Tryd.ntmps95
      go_wp2_with (first | (go_at_call 96; refine (nan_any _ _).mono ?_; rintro e w' ⟨rfl, rfl⟩))
      go_ret
      exact ⟨rfl, rfl⟩

set_option maxHeartbeats 1000000 in
theorem or_any (x y z : Int) (g : Nat) (w : World) (h0 : w.cell? ⟨g, 0, none⟩ = some (.int .i64 x)) (h1 : w.cell? ⟨g, 1, none⟩ = some (.int .i64 y)) (h2 : w.cell? ⟨g, 2, none⟩ = some (.int .i64 z)) :
    Calls Tryd.prog 94 #[.slice (some ⟨g, 0, none⟩) 3 3] w fun e w' => e = .returned (.int .i64 (orN x y z)) ∧ w' = w := by
  generalize hq : orN x y z = q
  have HQ : Hid ((if x = 0 then (if y = 0 then z else y) else x) = q) := hq
  clear hq
  go_enter Tryd.func94, Tryd.ntmps94
  go_wp2
  go_loopw [8] (fun i wr => ∃ k : Nat, k ≤ 3 ∧ i = .int .i64 k ∧ (0 < k → x = 0) ∧ (1 < k → y = 0) ∧ (2 < k → z = 0) ∧ wr = w) (fun i _ => 3 - (intOf i).toNat)
  case atStart => exact ⟨0, by omega, rfl, by omega, by omega, by omega, rfl⟩
  case round =>
    obtain ⟨k, hk, rfl, a0, a1, a2, hw⟩ := hrel
    replace hw := hw.symm
    subst hw
    rcases (by omega : k = 0 ∨ k = 1 ∨ k = 2 ∨ k = 3) with rfl | rfl | rfl | rfl
    · clear a0 a1 a2
      by_cases hx : x = 0
      · have g1 : (x == 0) = true := by simpa using hx
        have g2 : (x != 0) = false := by simpa using hx
        go_wp2
        go_roundw
        case rel => exact ⟨1, by omega, rfl, fun _ => hx, by omega, by omega, trivial⟩
        case measure => simp [intOf]
      · have g1 : (x == 0) = false := by simpa using hx
        have g2 : (x != 0) = true := by simpa using hx
        go_wp2
        go_ret
        exact ⟨by rw [← HQ.out, if_neg hx]; rfl, rfl⟩
    · have hx := a0 (by omega)
      clear a0 a1 a2
      by_cases hy : y = 0
      · have g1 : (y == 0) = true := by simpa using hy
        have g2 : (y != 0) = false := by simpa using hy
        go_wp2
        go_roundw
        case rel => exact ⟨2, by omega, rfl, fun _ => hx, fun _ => hy, by omega, trivial⟩
        case measure => simp [intOf]
      · have g1 : (y == 0) = false := by simpa using hy
        have g2 : (y != 0) = true := by simpa using hy
        go_wp2
        go_ret
        exact ⟨by rw [← HQ.out, if_pos hx, if_neg hy]; rfl, rfl⟩
    · have hx := a0 (by omega)
      have hy := a1 (by omega)
      clear a0 a1 a2
      by_cases hz : z = 0
      · have g1 : (z == 0) = true := by simpa using hz
        have g2 : (z != 0) = false := by simpa using hz
        go_wp2
        go_roundw
        case rel => exact ⟨3, by omega, rfl, fun _ => hx, fun _ => hy, fun _ => hz, trivial⟩
        case measure => simp [intOf]
      · have g1 : (z == 0) = false := by simpa using hz
        have g2 : (z != 0) = true := by simpa using hz
        go_wp2
        go_ret
        exact ⟨by rw [← HQ.out, if_pos hx, if_pos hy]; rfl, rfl⟩
    · have hx := a0 (by omega)
      have hy := a1 (by omega)
      have hz := a2 (by omega)
      clear a0 a1 a2
      go_wp2
      go_ret
      exact ⟨by rw [← HQ.out, if_pos hx, if_pos hy, hz]; rfl, rfl⟩

theorem compare_b (a b : Int) (w : World) : Calls Tryd.prog 95 #[.int .i64 a, .int .i64 b] w fun e w' => e = .returned (.int .i64 (cmpN a b)) ∧ Below w.heap.size w w' :=
  (compare_any a b w).mono fun _ w' h => ⟨h.1, by rw [h.2]; exact Below.refl _ _⟩
theorem or_b (x y z : Int) (g : Nat) (w : World) (h0 : w.cell? ⟨g, 0, none⟩ = some (.int .i64 x)) (h1 : w.cell? ⟨g, 1, none⟩ = some (.int .i64 y)) (h2 : w.cell? ⟨g, 2, none⟩ = some (.int .i64 z)) :
    Calls Tryd.prog 94 #[.slice (some ⟨g, 0, none⟩) 3 3] w fun e w' => e = .returned (.int .i64 (orN x y z)) ∧ Below w.heap.size w w' :=
  (or_any x y z g w h0 h1 h2).mono fun _ w' h => ⟨h.1, by rw [h.2]; exact Below.refl _ _⟩
theorem cells3 {W : World} (x y z : Value) (t : TypeId) :
    (W.alloc (.cells #[x, y, z] t)).cell? ⟨W.heap.size, 0, none⟩ = some x ∧ (W.alloc (.cells #[x, y, z] t)).cell? ⟨W.heap.size, 1, none⟩ = some y ∧ (W.alloc (.cells #[x, y, z] t)).cell? ⟨W.heap.size, 2, none⟩ = some z := by
  refine ⟨?_, ?_, ?_⟩ <;> simp
/-- Two rules in the two blocks from B on, as far as order reads them. -/
def OS (w : World) (p m b p' m' b' : Int) (w' : World) : Prop :=
  Below w.heap.size w w' ∧ (w'.cell? ⟨w.heap.size, 0, none⟩ = some (.int .i64 p) ∧ w'.cell? ⟨w.heap.size, 1, none⟩ = some (.int .i64 m) ∧ w'.cell? ⟨w.heap.size, 2, none⟩ = some (.int .i64 b)) ∧
    (w'.cell? ⟨w.heap.size + 1, 0, none⟩ = some (.int .i64 p') ∧ w'.cell? ⟨w.heap.size + 1, 1, none⟩ = some (.int .i64 m') ∧ w'.cell? ⟨w.heap.size + 1, 2, none⟩ = some (.int .i64 b'))
theorem OS.later {w W W' : World} {p m b p' m' b' : Int} (hb : Below W.heap.size W W') (h : OS w p m b p' m' b' W) : OS w p m b p' m' b' W' := by
  obtain ⟨h0, ⟨h1, h2, h3⟩, ⟨h4, h5, h6⟩⟩ := h
  exact ⟨h0.trans (hb.mono h0.size), ⟨cell_later hb h1, cell_later hb h2, cell_later hb h3⟩, ⟨cell_later hb h4, cell_later hb h5, cell_later hb h6⟩⟩

set_option maxHeartbeats 400000 in
theorem order_any (p m b o s v p' m' b' o' s' v' : Int) (w : World) :
    Calls Tryd.prog 87 #[.agg #[.int .i64 p, .int .i64 m, .int .i64 b, .int .i64 o, .int .i64 s, .int .i64 v], .agg #[.int .i64 p', .int .i64 m', .int .i64 b', .int .i64 o', .int .i64 s', .int .i64 v']] w fun e w' => e = .returned (.int .i64 (ordN p m b p' m' b')) ∧ Below w.heap.size w w' := by
  have hS0 : OS w p m b p' m' b' ((w.alloc (Obj.cells #[Value.int IntKind.i64 p, Value.int IntKind.i64 m, Value.int IntKind.i64 b, Value.int IntKind.i64 o, Value.int IntKind.i64 s, Value.int IntKind.i64 v] 71)).alloc (Obj.cells #[Value.int IntKind.i64 p', Value.int IntKind.i64 m', Value.int IntKind.i64 b', Value.int IntKind.i64 o', Value.int IntKind.i64 s', Value.int IntKind.i64 v'] 71)) := by
    refine ⟨((Below.refl _ _).alloc (Nat.le_refl _) _).alloc (by simp) _, ⟨?_, ?_, ?_⟩, ⟨?_, ?_, ?_⟩⟩ <;> simp
  go_enter Tryd.func87, Tryd.ntmps87
  go_wp2
  generalize ((w.alloc (Obj.cells #[Value.int IntKind.i64 p, Value.int IntKind.i64 m, Value.int IntKind.i64 b, Value.int IntKind.i64 o, Value.int IntKind.i64 s, Value.int IntKind.i64 v] 71)).alloc (Obj.cells #[Value.int IntKind.i64 p', Value.int IntKind.i64 m', Value.int IntKind.i64 b', Value.int IntKind.i64 o', Value.int IntKind.i64 s', Value.int IntKind.i64 v'] 71)) = W0 at *
  unfold OS at hS0
  go_region_held3 (fun w' => Below w.heap.size w w' ∧ (w'.cell? ⟨w.heap.size, 0, none⟩ = some (.int .i64 p) ∧ w'.cell? ⟨w.heap.size, 1, none⟩ = some (.int .i64 m) ∧ w'.cell? ⟨w.heap.size, 2, none⟩ = some (.int .i64 b)) ∧
      (w'.cell? ⟨w.heap.size + 1, 0, none⟩ = some (.int .i64 p') ∧ w'.cell? ⟨w.heap.size + 1, 1, none⟩ = some (.int .i64 m') ∧ w'.cell? ⟨w.heap.size + 1, 2, none⟩ = some (.int .i64 b')))
    (first | assumption | exact OS.later (by assumption) (by assumption) | exact OS.later (Below.drew (Below.refl _ _)) (by assumption) | exact OS.later (Below.alloc (Below.refl _ _) (Nat.le_refl _) _) (by assumption))
    (first
      | (go_at_call 95; refine (compare_b _ _ _).mono ?_; rintro e w' ⟨rfl, hb⟩)
      | (go_at_call 94; refine (or_b (cmpN p p') (cmpN m m') (cmpN b b') _ _ (cells3 _ _ _ _).1 (cells3 _ _ _ _).2.1 (cells3 _ _ _ _).2.2).mono ?_; rintro e w' ⟨rfl, hb⟩))
  have hS := (‹Below w.heap.size w w' ∧ _›).1
  go_wp2
  go_ret
  exact ⟨rfl, hS⟩
end Go.Proofs.YtfbocionnjlilacDoor
/- What Lookup of package rule answers, called with any table and number. -/
namespace Go.Proofs.YtfbocionnjlilacDoor
open Go.RowKit
set_option linter.unusedSimpArgs false

/-- A rule in a new block, in letters. -/
def CA (w : World) (g : Nat) (p m b o s v : Int) (w' : World) : Prop :=
  Below w.heap.size w w' ∧ w'.cell? ⟨g, 0, none⟩ = some (.int .i64 p) ∧ w'.cell? ⟨g, 1, none⟩ = some (.int .i64 m) ∧ w'.cell? ⟨g, 2, none⟩ = some (.int .i64 b) ∧
    w'.cell? ⟨g, 3, none⟩ = some (.int .i64 o) ∧ w'.cell? ⟨g, 4, none⟩ = some (.int .i64 s) ∧ w'.cell? ⟨g, 5, none⟩ = some (.int .i64 v)
theorem CA.later {w W W' : World} {g : Nat} {p m b o s v : Int} (hb : Below W.heap.size W W') (h : CA w g p m b o s v W) : CA w g p m b o s v W' := by
  obtain ⟨h0, h1, h2, h3, h4, h5, h6⟩ := h
  exact ⟨h0.trans (hb.mono h0.size), cell_later hb h1, cell_later hb h2, cell_later hb h3, cell_later hb h4, cell_later hb h5, cell_later hb h6⟩
/-- .. and another one at an address. -/
def CB (w : World) (g : Nat) (p m b o s v : Int) (g' o' : Nat) (p' m' b' q' s' v' : Int) (w' : World) : Prop :=
  (Below w.heap.size w w' ∧ w'.cell? ⟨g, 0, none⟩ = some (.int .i64 p) ∧ w'.cell? ⟨g, 1, none⟩ = some (.int .i64 m) ∧ w'.cell? ⟨g, 2, none⟩ = some (.int .i64 b) ∧
    w'.cell? ⟨g, 3, none⟩ = some (.int .i64 o) ∧ w'.cell? ⟨g, 4, none⟩ = some (.int .i64 s) ∧ w'.cell? ⟨g, 5, none⟩ = some (.int .i64 v)) ∧
  w'.cell? ⟨g', o', none⟩ = some (.int .i64 p') ∧ w'.cell? ⟨g', o' + 1, none⟩ = some (.int .i64 m') ∧ w'.cell? ⟨g', o' + 2, none⟩ = some (.int .i64 b') ∧
    w'.cell? ⟨g', o' + 3, none⟩ = some (.int .i64 q') ∧ w'.cell? ⟨g', o' + 4, none⟩ = some (.int .i64 s') ∧ w'.cell? ⟨g', o' + 5, none⟩ = some (.int .i64 v')
theorem CB.later {w W W' : World} {g : Nat} {p m b o s v : Int} {g' o' : Nat} {p' m' b' q' s' v' : Int} (hb : Below W.heap.size W W') (h : CB w g p m b o s v g' o' p' m' b' q' s' v' W) : CB w g p m b o s v g' o' p' m' b' q' s' v' W' := by
  obtain ⟨h0, h1, h2, h3, h4, h5, h6⟩ := h
  exact ⟨CA.later hb h0, cell_later hb h1, cell_later hb h2, cell_later hb h3, cell_later hb h4, cell_later hb h5, cell_later hb h6⟩

/-- Does a rule count that has the header, behind one at x that it is held against? -/
def cntB (m b h x y : Int) : Bool := hasB m b h && (decide (x < 0) || decide (0 < y))
theorem be_next {L : List Ru} {h : Int} {k : Nat} (x : Int) (hx : x = beTo L h k) (y : Bool) (hy : ((L.getD k zeR).has h && (decide (x < 0) || decide (0 < ordR (L.getD k zeR) (L.getD x.toNat zeR)))) = y) : beTo L h (k + 1) = if y then (k : Int) else x := by
  subst hx
  rw [beTo, hy]

set_option maxHeartbeats 1000000 in
theorem counting_some (g o cap n : Nat) (h : Int) (L : List Ru) (w : World) (hc : RAt w g o L) (hn : L.length = n) (hcap2 : n ≤ maxLen) :
    Calls Tryd.prog 72 #[.slice (some ⟨g, o, none⟩) n cap, .int .i64 h] w fun e w' => e = .returned (.int .i64 (beTo L h n)) ∧ Below w.heap.size w w' := by
  have HN : Hid (L.length = n) := hn
  unfold maxLen at hcap2
  clear hn
  go_enter Tryd.func72, Tryd.ntmps72
  go_wp2
  go_loopw [5, 10] (fun x i wr => ∃ k : Nat, k ≤ n ∧ x = .int .i64 (beTo L h k) ∧ i = .int .i64 k ∧ Below w.heap.size w wr) (fun _ i _ => n - (intOf i).toNat)
  case atStart => exact ⟨0, by omega, rfl, rfl, Below.refl _ _⟩
  case round =>
    obtain ⟨k, hk, rfl, rfl, hB⟩ := hrel
    have hbd := be_bd L h k
    generalize hx : beTo L h k = x at *
    have HX : Hid (x = beTo L h k) := hx.symm
    obtain ⟨x0, x1⟩ := hbd
    clear hx
    have HB : Hid (Below w.heap.size w wr) := hB
    by_cases hlt : k < n
    · obtain ⟨p, m, b, q, s, v, hkl, hL, q0, q1, q2, q3, q4, q5⟩ := (hc.later hB).at HN.out hlt
      have HK : Hid (L.getD k zeR = ⟨p, m, b, q, s, v⟩) := (getD_at hkl).trans hL
      have HA : Hid (CA wr wr.heap.size p m b q s v (wr.alloc (Obj.cells #[Value.int IntKind.i64 p, Value.int IntKind.i64 m, Value.int IntKind.i64 b, Value.int IntKind.i64 q, Value.int IntKind.i64 s, Value.int IntKind.i64 v] 71))) := by
        refine ⟨(Below.refl _ _).alloc (Nat.le_refl _) _, ?_, ?_, ?_, ?_, ?_, ?_⟩ <;> simp
      have HCC : Hid (RAt wr g o L) := hc.later hB
      clear hL hB
      go_upto_region 5 with fail
      clear q0 q1 q2 q3 q4 q5
      go_cut [10, 31] from 10 to 33 (fun i c w' => i = .int .i64 k ∧ c = .bool (cntB m b h x (ordR ⟨p, m, b, q, s, v⟩ (L.getD x.toNat zeR))) ∧ Below wr.heap.size wr w')
      case first =>
        have hS0 := HA.out
        clear HA
        have HW0 : Hid (Below wr.heap.size wr (wr.alloc (Obj.cells #[Value.int IntKind.i64 p, Value.int IntKind.i64 m, Value.int IntKind.i64 b, Value.int IntKind.i64 q, Value.int IntKind.i64 s, Value.int IntKind.i64 v] 71))) := (Below.refl _ _).alloc (Nat.le_refl _) _
        have HW0 : Hid (Below wr.heap.size wr (wr.alloc (Obj.cells #[Value.int IntKind.i64 p, Value.int IntKind.i64 m, Value.int IntKind.i64 b, Value.int IntKind.i64 q, Value.int IntKind.i64 s, Value.int IntKind.i64 v] 71))) := (Below.refl _ _).alloc (Nat.le_refl _) _
        generalize (wr.alloc (Obj.cells #[Value.int IntKind.i64 p, Value.int IntKind.i64 m, Value.int IntKind.i64 b, Value.int IntKind.i64 q, Value.int IntKind.i64 s, Value.int IntKind.i64 v] 71)) = W0 at *
        cases hh : hasB m b h
        · refine wp_region_quiet (C := CA wr wr.heap.size p m b q s v) (by kernel_rfl) (by kernel_rfl) (CA.later (W := W0) (Below.drew (Below.refl _ _)) hS0) ?_
          simp only [List.toList_toArray]
          go_big_quiet_want
          refine quiet_val (v := .pointer (some ⟨wr.heap.size, 1, none⟩)) (fun w' hC => ?_) ?_
          · obtain ⟨z0, z1, z2, z3, z4, z5, z6⟩ := hC
            go_simp
          simp only [Act.put, List.setIfInBounds_toArray, List.set_cons_zero, List.set_cons_succ]
          go_big_quiet_on
          go_big_quiet_want
          refine quiet_val (v := .agg #[.int .i64 m, .int .i64 b]) (fun w' hC => ?_) ?_
          · obtain ⟨z0, z1, z2, z3, z4, z5, z6⟩ := hC
            go_simp
          simp only [Act.put, List.setIfInBounds_toArray, List.set_cons_zero, List.set_cons_succ]
          go_big_quiet_on
          go_big_quiet_want
          refine quiet_val (v := .int .i64 h) (fun w' hC => ?_) ?_
          · obtain ⟨z0, z1, z2, z3, z4, z5, z6⟩ := hC
            go_simp
          simp only [Act.put, List.setIfInBounds_toArray, List.set_cons_zero, List.set_cons_succ]
          go_big_quiet_on
          go_big_quiet_want
          refine quiet_call (f := 86) (args := #[.agg #[.int .i64 m, .int .i64 b], .int .i64 h]) (v := .bool false) (fun w' => ?_) (fun w' hC => (has_any m b h w').mono (fun e w2 h2 => ⟨by rw [h2.1, hh], CA.later h2.2 hC⟩)) ?_
          · go_simp
          simp only [Act.put, List.setIfInBounds_toArray, List.set_cons_zero, List.set_cons_succ]
          go_big_quiet_on
          go_big_quiet_want
          refine quiet_val (v := .bool false) (fun w' hC => ?_) ?_
          · obtain ⟨z0, z1, z2, z3, z4, z5, z6⟩ := hC
            go_simp
          simp only [Act.put, List.setIfInBounds_toArray, List.set_cons_zero, List.set_cons_succ]
          go_big_quiet_on
          go_big_quiet_skip
          go_big_quiet_skip
          go_big_quiet_skip
          go_big_quiet_skip
          go_big_quiet_skip
          go_big_quiet_skip
          go_big_quiet_skip
          go_big_quiet_skip
          go_big_quiet_skip
          go_big_quiet_skip
          go_big_quiet_skip
          go_big_quiet_want
          refine quiet_val (v := .bool false) (fun w' hC => ?_) ?_
          · obtain ⟨z0, z1, z2, z3, z4, z5, z6⟩ := hC
            go_simp
          simp only [Act.put, List.setIfInBounds_toArray, List.set_cons_zero, List.set_cons_succ]
          go_big_quiet_on
          refine wpQuiet_nil ?_
          intro w' hC
          go_wp2_with fail
          go_meet
          case rel => exact ⟨rfl, by simp [cntB, hh], hC.1⟩
        · by_cases hx0 : x < 0
          · have hx1 : decide (x < 0) = true := by simpa using hx0
            refine wp_region_quiet (C := CA wr wr.heap.size p m b q s v) (by kernel_rfl) (by kernel_rfl) (CA.later (W := W0) (Below.drew (Below.refl _ _)) hS0) ?_
            simp only [List.toList_toArray]
            go_big_quiet_want
            refine quiet_val (v := .pointer (some ⟨wr.heap.size, 1, none⟩)) (fun w' hC => ?_) ?_
            · obtain ⟨z0, z1, z2, z3, z4, z5, z6⟩ := hC
              go_simp
            simp only [Act.put, List.setIfInBounds_toArray, List.set_cons_zero, List.set_cons_succ]
            go_big_quiet_on
            go_big_quiet_want
            refine quiet_val (v := .agg #[.int .i64 m, .int .i64 b]) (fun w' hC => ?_) ?_
            · obtain ⟨z0, z1, z2, z3, z4, z5, z6⟩ := hC
              go_simp
            simp only [Act.put, List.setIfInBounds_toArray, List.set_cons_zero, List.set_cons_succ]
            go_big_quiet_on
            go_big_quiet_want
            refine quiet_val (v := .int .i64 h) (fun w' hC => ?_) ?_
            · obtain ⟨z0, z1, z2, z3, z4, z5, z6⟩ := hC
              go_simp
            simp only [Act.put, List.setIfInBounds_toArray, List.set_cons_zero, List.set_cons_succ]
            go_big_quiet_on
            go_big_quiet_want
            refine quiet_call (f := 86) (args := #[.agg #[.int .i64 m, .int .i64 b], .int .i64 h]) (v := .bool true) (fun w' => ?_) (fun w' hC => (has_any m b h w').mono (fun e w2 h2 => ⟨by rw [h2.1, hh], CA.later h2.2 hC⟩)) ?_
            · go_simp
            simp only [Act.put, List.setIfInBounds_toArray, List.set_cons_zero, List.set_cons_succ]
            go_big_quiet_on
            go_big_quiet_want
            refine quiet_val (v := .bool true) (fun w' hC => ?_) ?_
            · obtain ⟨z0, z1, z2, z3, z4, z5, z6⟩ := hC
              go_simp
            simp only [Act.put, List.setIfInBounds_toArray, List.set_cons_zero, List.set_cons_succ]
            go_big_quiet_on
            go_big_quiet_want
            refine quiet_val (v := .int .i64 x) (fun w' hC => ?_) ?_
            · obtain ⟨z0, z1, z2, z3, z4, z5, z6⟩ := hC
              go_simp
            simp only [Act.put, List.setIfInBounds_toArray, List.set_cons_zero, List.set_cons_succ]
            go_big_quiet_on
            go_big_quiet_want
            refine quiet_val (v := .bool true) (fun w' hC => ?_) ?_
            · obtain ⟨z0, z1, z2, z3, z4, z5, z6⟩ := hC
              go_simp
            simp only [Act.put, List.setIfInBounds_toArray, List.set_cons_zero, List.set_cons_succ]
            go_big_quiet_on
            go_big_quiet_want
            refine quiet_val (v := .bool true) (fun w' hC => ?_) ?_
            · obtain ⟨z0, z1, z2, z3, z4, z5, z6⟩ := hC
              go_simp
            simp only [Act.put, List.setIfInBounds_toArray, List.set_cons_zero, List.set_cons_succ]
            go_big_quiet_on
            go_big_quiet_skip
            go_big_quiet_skip
            go_big_quiet_skip
            go_big_quiet_skip
            go_big_quiet_skip
            go_big_quiet_skip
            go_big_quiet_skip
            go_big_quiet_want
            refine quiet_val (v := .bool true) (fun w' hC => ?_) ?_
            · obtain ⟨z0, z1, z2, z3, z4, z5, z6⟩ := hC
              go_simp
            simp only [Act.put, List.setIfInBounds_toArray, List.set_cons_zero, List.set_cons_succ]
            go_big_quiet_on
            go_big_quiet_want
            refine quiet_val (v := .bool true) (fun w' hC => ?_) ?_
            · obtain ⟨z0, z1, z2, z3, z4, z5, z6⟩ := hC
              go_simp
            simp only [Act.put, List.setIfInBounds_toArray, List.set_cons_zero, List.set_cons_succ]
            go_big_quiet_on
            refine wpQuiet_nil ?_
            intro w' hC
            go_wp2_with fail
            go_meet
            case rel => exact ⟨rfl, by simp [cntB, hh, hx0], hC.1⟩
          · obtain ⟨y, hy⟩ : ∃ y : Nat, x = (y : Int) := ⟨x.toNat, by omega⟩
            have hx2 : decide ((y : Int) < 0) = false := by simp
            subst hy
            obtain ⟨p2, m2, b2, q2, s2, v2, hyl, hLy, y0, y1, y2, y3, y4, y5⟩ := HCC.out.at HN.out (show y < n by omega)
            have HYL : Hid (L.getD ((y : Nat) : Int).toNat zeR = ⟨p2, m2, b2, q2, s2, v2⟩) := by
              show L.getD ((y : Nat) : Int).toNat zeR = _
              rw [Int.toNat_natCast, getD_at hyl, hLy]
            have yb0 : (0 : Int) ≤ (y : Int) := by omega
            have yb1 : ((y : Int)) < (n : Int) := by omega
            have hS1 : CB wr wr.heap.size p m b q s v g (o + y * 6) p2 m2 b2 q2 s2 v2 W0 := ⟨hS0, cell_later HW0.out y0, cell_later HW0.out y1, cell_later HW0.out y2, cell_later HW0.out y3, cell_later HW0.out y4, cell_later HW0.out y5⟩
            clear y0 y1 y2 y3 y4 y5 hLy hS0
            have hS0 := hS1
            clear hS1
            refine wp_region_quiet (C := CB wr wr.heap.size p m b q s v g (o + y * 6) p2 m2 b2 q2 s2 v2) (by kernel_rfl) (by kernel_rfl) (CB.later (W := W0) (Below.drew (Below.refl _ _)) hS0) ?_
            simp only [List.toList_toArray]
            go_big_quiet_want
            refine quiet_val (v := .pointer (some ⟨wr.heap.size, 1, none⟩)) (fun w' hC => ?_) ?_
            · obtain ⟨⟨z0, z1, z2, z3, z4, z5, z6⟩, y1, y2, y3, y4, y5, y6⟩ := hC
              go_simp
            simp only [Act.put, List.setIfInBounds_toArray, List.set_cons_zero, List.set_cons_succ]
            go_big_quiet_on
            go_big_quiet_want
            refine quiet_val (v := .agg #[.int .i64 m, .int .i64 b]) (fun w' hC => ?_) ?_
            · obtain ⟨⟨z0, z1, z2, z3, z4, z5, z6⟩, y1, y2, y3, y4, y5, y6⟩ := hC
              go_simp
            simp only [Act.put, List.setIfInBounds_toArray, List.set_cons_zero, List.set_cons_succ]
            go_big_quiet_on
            go_big_quiet_want
            refine quiet_val (v := .int .i64 h) (fun w' hC => ?_) ?_
            · obtain ⟨⟨z0, z1, z2, z3, z4, z5, z6⟩, y1, y2, y3, y4, y5, y6⟩ := hC
              go_simp
            simp only [Act.put, List.setIfInBounds_toArray, List.set_cons_zero, List.set_cons_succ]
            go_big_quiet_on
            go_big_quiet_want
            refine quiet_call (f := 86) (args := #[.agg #[.int .i64 m, .int .i64 b], .int .i64 h]) (v := .bool true) (fun w' => ?_) (fun w' hC => (has_any m b h w').mono (fun e w2 h2 => ⟨by rw [h2.1, hh], CB.later h2.2 hC⟩)) ?_
            · go_simp
            simp only [Act.put, List.setIfInBounds_toArray, List.set_cons_zero, List.set_cons_succ]
            go_big_quiet_on
            go_big_quiet_want
            refine quiet_val (v := .bool true) (fun w' hC => ?_) ?_
            · obtain ⟨⟨z0, z1, z2, z3, z4, z5, z6⟩, y1, y2, y3, y4, y5, y6⟩ := hC
              go_simp
            simp only [Act.put, List.setIfInBounds_toArray, List.set_cons_zero, List.set_cons_succ]
            go_big_quiet_on
            go_big_quiet_want
            refine quiet_val (v := .int .i64 (y : Int)) (fun w' hC => ?_) ?_
            · obtain ⟨⟨z0, z1, z2, z3, z4, z5, z6⟩, y1, y2, y3, y4, y5, y6⟩ := hC
              go_simp
            simp only [Act.put, List.setIfInBounds_toArray, List.set_cons_zero, List.set_cons_succ]
            go_big_quiet_on
            go_big_quiet_want
            refine quiet_val (v := .bool false) (fun w' hC => ?_) ?_
            · obtain ⟨⟨z0, z1, z2, z3, z4, z5, z6⟩, y1, y2, y3, y4, y5, y6⟩ := hC
              go_simp
            simp only [Act.put, List.setIfInBounds_toArray, List.set_cons_zero, List.set_cons_succ]
            go_big_quiet_on
            go_big_quiet_want
            refine quiet_val (v := .bool false) (fun w' hC => ?_) ?_
            · obtain ⟨⟨z0, z1, z2, z3, z4, z5, z6⟩, y1, y2, y3, y4, y5, y6⟩ := hC
              go_simp
            simp only [Act.put, List.setIfInBounds_toArray, List.set_cons_zero, List.set_cons_succ]
            go_big_quiet_on
            go_big_quiet_want
            refine quiet_val (v := .agg #[.int .i64 p, .int .i64 m, .int .i64 b, .int .i64 q, .int .i64 s, .int .i64 v]) (fun w' hC => ?_) ?_
            · obtain ⟨⟨z0, z1, z2, z3, z4, z5, z6⟩, y1, y2, y3, y4, y5, y6⟩ := hC
              go_simp
            simp only [Act.put, List.setIfInBounds_toArray, List.set_cons_zero, List.set_cons_succ]
            go_big_quiet_on
            go_big_quiet_want
            refine quiet_val (v := .slice (some ⟨g, o, none⟩) n cap) (fun w' hC => ?_) ?_
            · obtain ⟨⟨z0, z1, z2, z3, z4, z5, z6⟩, y1, y2, y3, y4, y5, y6⟩ := hC
              go_simp
            simp only [Act.put, List.setIfInBounds_toArray, List.set_cons_zero, List.set_cons_succ]
            go_big_quiet_on
            go_big_quiet_want
            refine quiet_val (v := .int .i64 (y : Int)) (fun w' hC => ?_) ?_
            · obtain ⟨⟨z0, z1, z2, z3, z4, z5, z6⟩, y1, y2, y3, y4, y5, y6⟩ := hC
              go_simp
            simp only [Act.put, List.setIfInBounds_toArray, List.set_cons_zero, List.set_cons_succ]
            go_big_quiet_on
            go_big_quiet_want
            refine quiet_val (v := .pointer (some ⟨g, o + y * 6, none⟩)) (fun w' hC => ?_) ?_
            · obtain ⟨⟨z0, z1, z2, z3, z4, z5, z6⟩, y1, y2, y3, y4, y5, y6⟩ := hC
              go_simp
            simp only [Act.put, List.setIfInBounds_toArray, List.set_cons_zero, List.set_cons_succ]
            go_big_quiet_on
            go_big_quiet_want
            refine quiet_val (v := .agg #[.int .i64 p2, .int .i64 m2, .int .i64 b2, .int .i64 q2, .int .i64 s2, .int .i64 v2]) (fun w' hC => ?_) ?_
            · obtain ⟨⟨z0, z1, z2, z3, z4, z5, z6⟩, y1, y2, y3, y4, y5, y6⟩ := hC
              go_simp
            simp only [Act.put, List.setIfInBounds_toArray, List.set_cons_zero, List.set_cons_succ]
            go_big_quiet_on
            go_big_quiet_want
            refine quiet_call (f := 87) (args := #[.agg #[.int .i64 p, .int .i64 m, .int .i64 b, .int .i64 q, .int .i64 s, .int .i64 v], .agg #[.int .i64 p2, .int .i64 m2, .int .i64 b2, .int .i64 q2, .int .i64 s2, .int .i64 v2]]) (v := .int .i64 (ordN p m b p2 m2 b2)) (fun w' => ?_) (fun w' hC => (order_any p m b q s v p2 m2 b2 q2 s2 v2 w').mono (fun e w2 h2 => ⟨h2.1, CB.later h2.2 hC⟩)) ?_
            · go_simp
            simp only [Act.put, List.setIfInBounds_toArray, List.set_cons_zero, List.set_cons_succ]
            go_big_quiet_on
            go_big_quiet_want
            refine quiet_val (v := .bool (decide (0 < ordN p m b p2 m2 b2))) (fun w' hC => ?_) ?_
            · obtain ⟨⟨z0, z1, z2, z3, z4, z5, z6⟩, y1, y2, y3, y4, y5, y6⟩ := hC
              go_simp
            simp only [Act.put, List.setIfInBounds_toArray, List.set_cons_zero, List.set_cons_succ]
            go_big_quiet_on
            go_big_quiet_want
            refine quiet_val (v := .bool (decide (0 < ordN p m b p2 m2 b2))) (fun w' hC => ?_) ?_
            · obtain ⟨⟨z0, z1, z2, z3, z4, z5, z6⟩, y1, y2, y3, y4, y5, y6⟩ := hC
              go_simp
            simp only [Act.put, List.setIfInBounds_toArray, List.set_cons_zero, List.set_cons_succ]
            go_big_quiet_on
            go_big_quiet_want
            refine quiet_val (v := .bool (decide (0 < ordN p m b p2 m2 b2))) (fun w' hC => ?_) ?_
            · obtain ⟨⟨z0, z1, z2, z3, z4, z5, z6⟩, y1, y2, y3, y4, y5, y6⟩ := hC
              go_simp
            simp only [Act.put, List.setIfInBounds_toArray, List.set_cons_zero, List.set_cons_succ]
            go_big_quiet_on
            refine wpQuiet_nil ?_
            intro w' hC
            go_wp2_with fail
            go_meet
            case rel => exact ⟨rfl, by rw [HYL.out]; simp [cntB, hh, hx2, ordR]; first | rfl | exact decide_eq_decide.2 Iff.rfl, hC.1.1⟩
      case rest =>
        obtain ⟨rfl, hc2, hB2⟩ := hcut
        have HB1 := HB.out.trans (hB2.mono HB.out.size)
        have HY := be_next (L := L) (h := h) (k := k) x HX.out _ rfl
        rw [HK.out] at HY
        have HYY : Hid (beTo L h (k + 1) = if cntB m b h x (ordR ⟨p, m, b, q, s, v⟩ (L.getD x.toNat zeR)) then (k : Int) else x) := HY
        clear HY hB2 HA HCC
        generalize cntB m b h x (ordR ⟨p, m, b, q, s, v⟩ (L.getD x.toNat zeR)) = Y at *
        subst hc2
        cases Y
        · go_wp2
          go_roundw
          case rel => exact ⟨k + 1, by omega, by rw [HYY.out]; rfl, by go_num, HB1⟩
          case measure => simp [intOf]; omega
        · go_wp2
          go_roundw
          case rel => exact ⟨k + 1, by omega, by rw [HYY.out]; rfl, by go_num, HB1⟩
          case measure => simp [intOf]; omega
    · obtain rfl : k = n := by omega
      go_wp2
      go_ret
      exact ⟨by rw [← HX.out]; rfl, HB.out⟩

set_option maxHeartbeats 1000000 in
theorem counting_nil (ao : Option Addr) (cap : Nat) (h : Int) (w : World) :
    Calls Tryd.prog 72 #[.slice ao 0 cap, .int .i64 h] w fun e w' => e = .returned (.int .i64 (-1)) ∧ Below w.heap.size w w' := by
  go_enter Tryd.func72, Tryd.ntmps72
  go_wp2
  go_loopw [5, 10] (fun x i wr => x = .int .i64 (-1) ∧ i = .int .i64 0 ∧ wr = w) (fun _ i _ => 0)
  case atStart => exact ⟨rfl, rfl, rfl⟩
  case round =>
    obtain ⟨rfl, rfl, rfl⟩ := hrel
    go_wp2
    go_ret
    exact ⟨rfl, Below.refl _ _⟩

theorem counting_any (x : Value) (L : List Ru) (h : Int) (w : World) (hs : SR w x L) :
    Calls Tryd.prog 72 #[x, .int .i64 h] w fun e w' => e = .returned (.int .i64 (beTo L h L.length)) ∧ Below w.heap.size w w' := by
  rcases hs with ⟨ao, cap, rfl, rfl⟩ | ⟨g, o, cap, rfl, h1, h2, hc⟩
  · exact counting_nil ao cap h w
  · exact counting_some g o cap _ h L w hc rfl (Nat.le_trans h1 h2)

end Go.Proofs.YtfbocionnjlilacDoor
/- What Apply of package rule answers, called with any rule and header. -/
namespace Go.Proofs.YtfbocionnjlilacDoor
open Go.RowKit
set_option linter.unusedSimpArgs false

set_option maxHeartbeats 1000000 in
theorem apply_any (p m b o s v h : Int) (w : World) :
    Calls Tryd.prog 73 #[.agg #[.int .i64 p, .int .i64 m, .int .i64 b, .int .i64 o, .int .i64 s, .int .i64 v], .int .i64 h] w fun e w' => e = .returned (.tuple #[.int .i64 (apR p m b o s v h), noV (apN p m b o s v h)]) ∧ Below w.heap.size w w' := by
  cases hr : ruOk p m b o s v
  · have hn := ruN_ne hr
    rw [apR_bad (by rw [apN_bad h hr]; exact hn), apN_bad h hr, no_ne hn]
    go_enter Tryd.func73, Tryd.ntmps73
    go_wp2_with fail
    refine (ruCheck_any _ _ _ _ _ _ _).mono ?_
    rintro e w1 ⟨rfl, hb1⟩
    rw [no_ne hn]
    go_wp2
    refine bodyPost_ret (v := .tuple #[.int .i64 0, .iface 85 (.int .i64 (ruN p m b o s v))]) (by simp [results, Tryd.results73, go_sem]) rfl ⟨rfl, ?_⟩
    exact ((Below.refl _ _).alloc (Nat.le_refl _) _).trans (hb1.mono (by simp))
  · have hn := ruN_ok hr
    cases hh : hdrB h
    · have e : apN p m b o s v h = 1 := by simp [apN, hr, hh]
      rw [apR_bad (by rw [e]; decide), e]
      clear e
      go_enter Tryd.func73, Tryd.ntmps73
      go_wp2_with fail
      refine (ruCheck_any _ _ _ _ _ _ _).mono ?_
      rintro e w1 ⟨rfl, hb1⟩
      rw [no_ok hn]
      go_wp2_with fail
      refine (isHeader_no _ _ hh).mono ?_
      rintro e w' ⟨rfl, rfl⟩
      go_wp2
      refine bodyPost_ret (v := .tuple #[.int .i64 0, .iface 85 (.int .i64 1)]) (by simp [results, Tryd.results73, go_sem]) rfl ⟨rfl, ?_⟩
      exact ((Below.refl _ _).alloc (Nat.le_refl _) _).trans (hb1.mono (by simp))
    · have hlt : w.heap.size < (w.alloc (Obj.cells #[Value.int IntKind.i64 p, Value.int IntKind.i64 m, Value.int IntKind.i64 b, Value.int IntKind.i64 o, Value.int IntKind.i64 s, Value.int IntKind.i64 v] 71)).heap.size := by simp
      cases ha : hasB m b h
      · have e : apN p m b o s v h = 5 := by simp [apN, hr, hh, ha]
        rw [apR_bad (by rw [e]; decide), e]
        clear e
        go_enter Tryd.func73, Tryd.ntmps73
        go_wp2_with fail
        refine (ruCheck_any _ _ _ _ _ _ _).mono ?_
        rintro e w1 ⟨rfl, hb1⟩
        rw [no_ok hn]
        obtain ⟨hc1, hf1⟩ := bcell hb1
        have hB := ((Below.refl w.heap.size w).alloc (Nat.le_refl _) (Obj.cells #[Value.int IntKind.i64 p, Value.int IntKind.i64 m, Value.int IntKind.i64 b, Value.int IntKind.i64 o, Value.int IntKind.i64 s, Value.int IntKind.i64 v] 71)).trans (hb1.mono (by simp))
        have hlt2 : w.heap.size < w1.heap.size := by have := hb1.size; omega
        clear hb1
        go_wp2_with fail
        refine (isHeader_yes _ _ hh).mono ?_
        rintro e w' ⟨rfl, rfl⟩
        go_wp2_with fail
        refine (has_any _ _ _ _).mono ?_
        rintro e w2 ⟨rfl, hb2⟩
        rw [ha]
        obtain ⟨hc2, hf2⟩ := bcell hb2
        have hB2 := hB.trans (hb2.mono (by omega))
        clear hb2 hB
        go_wp2
        refine bodyPost_ret (v := .tuple #[.int .i64 0, .iface 85 (.int .i64 5)]) (by simp [results, Tryd.results73, go_sem]) rfl ⟨rfl, ?_⟩
        exact hB2
      · cases ho : (o == 0)
        · have e : apN p m b o s v h = 0 := by simp [apN, hr, hh, ha, ho]
          have e2 : apR p m b o s v h = apV s v h := by simp [apR, e]
          rw [e2, e]
          clear e e2
          go_enter Tryd.func73, Tryd.ntmps73
          go_wp2_with fail
          refine (ruCheck_any _ _ _ _ _ _ _).mono ?_
          rintro e w1 ⟨rfl, hb1⟩
          rw [no_ok hn]
          obtain ⟨hc1, hf1⟩ := bcell hb1
          have hB := ((Below.refl w.heap.size w).alloc (Nat.le_refl _) (Obj.cells #[Value.int IntKind.i64 p, Value.int IntKind.i64 m, Value.int IntKind.i64 b, Value.int IntKind.i64 o, Value.int IntKind.i64 s, Value.int IntKind.i64 v] 71)).trans (hb1.mono (by simp))
          have hlt2 : w.heap.size < w1.heap.size := by have := hb1.size; omega
          clear hb1
          go_wp2_with fail
          refine (isHeader_yes _ _ hh).mono ?_
          rintro e w' ⟨rfl, rfl⟩
          go_wp2_with fail
          refine (has_any _ _ _ _).mono ?_
          rintro e w2 ⟨rfl, hb2⟩
          rw [ha]
          obtain ⟨hc2, hf2⟩ := bcell hb2
          have hB2 := hB.trans (hb2.mono (by omega))
          clear hb2 hB
          go_wp2
          refine bodyPost_ret (v := .tuple #[.int .i64 (apV s v h), .nilIface]) (by simp [results, Tryd.results73, go_sem, apV]) rfl ⟨rfl, ?_⟩
          exact hB2
        · have e : apN p m b o s v h = 5 := by simp [apN, hr, hh, ha, ho]
          rw [apR_bad (by rw [e]; decide), e]
          clear e
          go_enter Tryd.func73, Tryd.ntmps73
          go_wp2_with fail
          refine (ruCheck_any _ _ _ _ _ _ _).mono ?_
          rintro e w1 ⟨rfl, hb1⟩
          rw [no_ok hn]
          obtain ⟨hc1, hf1⟩ := bcell hb1
          have hB := ((Below.refl w.heap.size w).alloc (Nat.le_refl _) (Obj.cells #[Value.int IntKind.i64 p, Value.int IntKind.i64 m, Value.int IntKind.i64 b, Value.int IntKind.i64 o, Value.int IntKind.i64 s, Value.int IntKind.i64 v] 71)).trans (hb1.mono (by simp))
          have hlt2 : w.heap.size < w1.heap.size := by have := hb1.size; omega
          clear hb1
          go_wp2_with fail
          refine (isHeader_yes _ _ hh).mono ?_
          rintro e w' ⟨rfl, rfl⟩
          go_wp2_with fail
          refine (has_any _ _ _ _).mono ?_
          rintro e w2 ⟨rfl, hb2⟩
          rw [ha]
          obtain ⟨hc2, hf2⟩ := bcell hb2
          have hB2 := hB.trans (hb2.mono (by omega))
          clear hb2 hB
          go_wp2
          refine bodyPost_ret (v := .tuple #[.int .i64 0, .iface 85 (.int .i64 5)]) (by simp [results, Tryd.results73, go_sem]) rfl ⟨rfl, ?_⟩
          exact hB2
end Go.Proofs.YtfbocionnjlilacDoor
/- What net.step answers: a contract for the walks above it. -/
namespace Go.Proofs.YtfbocionnjlilacDoor
open Go.RowKit
set_option linter.unusedSimpArgs false
set_option linter.unusedVariables false

theorem st_a {t : List Ru} {x y h : Int} (e : luN t h ≠ 0) : stT t ((x, y), h) = none := if_neg e
theorem st_b {t : List Ru} {x y h p m b o s v : Int} (e : luN t h = 0) (hr : roR t h = ⟨p, m, b, o, s, v⟩) (ha : apN p m b o s v h ≠ 0) : stT t ((x, y), h) = none := by
  unfold stT
  simp only
  rw [if_pos e, hr]
  exact if_neg ha
theorem st_c {t : List Ru} {x y h p m b o s v : Int} (e : luN t h = 0) (hr : roR t h = ⟨p, m, b, o, s, v⟩) (ha : apN p m b o s v h = 0) : stT t ((x, y), h) = some ((x, o), apR p m b o s v h) := by
  unfold stT
  simp only
  rw [if_pos e, hr]
  exact if_pos ha
/-- The three boxes: a net, a hop, the answer's. -/
def sbox (w : World) (S : Int) (v1 v2 v3 : Value) (x y h : Int) : World := ((w.alloc (Obj.cells #[.int .i64 S, v1, v2, v3] 58)).alloc (Obj.cells #[.int .i64 x, .int .i64 y, .int .i64 h] 109)).alloc (Obj.cells #[.int .i64 0, .int .i64 0, .int .i64 0] 109)
structure SBox (w W : World) (S : Int) (v1 v2 v3 : Value) (x y h : Int) : Prop where
  below : Below w.heap.size w W
  n : NeBox W w.heap.size S v1 v2 v3
  i0 : W.cell? ⟨w.heap.size + 1, 0, none⟩ = some (.int .i64 x)
  i1 : W.cell? ⟨w.heap.size + 1, 1, none⟩ = some (.int .i64 y)
  i2 : W.cell? ⟨w.heap.size + 1, 2, none⟩ = some (.int .i64 h)
  r0 : W.cell? ⟨w.heap.size + 1 + 1, 0, none⟩ = some (.int .i64 0)
  r1 : W.cell? ⟨w.heap.size + 1 + 1, 1, none⟩ = some (.int .i64 0)
  r2 : W.cell? ⟨w.heap.size + 1 + 1, 2, none⟩ = some (.int .i64 0)
  f : ∀ i, W.frozen? ⟨w.heap.size + 1 + 1, i, none⟩ = false
theorem sbox_new (w : World) (S : Int) (v1 v2 v3 : Value) (x y h : Int) : SBox w (sbox w S v1 v2 v3 x y h) S v1 v2 v3 x y h := by
  have e1 : (w.alloc (Obj.cells #[.int .i64 S, v1, v2, v3] 58)).heap.size = w.heap.size + 1 := by simp
  have e2 : ((w.alloc (Obj.cells #[.int .i64 S, v1, v2, v3] 58)).alloc (Obj.cells #[.int .i64 x, .int .i64 y, .int .i64 h] 109)).heap.size = w.heap.size + 1 + 1 := by simp
  have hb : ∀ (W : World) (o : Obj), Below W.heap.size W (W.alloc o) := fun W o => (Below.refl _ _).alloc (Nat.le_refl _) _
  have hs := (vat_new (w.alloc (Obj.cells #[.int .i64 S, v1, v2, v3] 58)) [.int .i64 x, .int .i64 y, .int .i64 h] 109).later (hb _ (Obj.cells #[.int .i64 0, .int .i64 0, .int .i64 0] 109))
  rw [e1] at hs
  have hr := vat_new ((w.alloc (Obj.cells #[.int .i64 S, v1, v2, v3] 58)).alloc (Obj.cells #[.int .i64 x, .int .i64 y, .int .i64 h] 109)) [.int .i64 0, .int .i64 0, .int .i64 0] 109
  rw [e2] at hr
  have hf : ∀ k, (sbox w S v1 v2 v3 x y h).frozen? ⟨((w.alloc (Obj.cells #[.int .i64 S, v1, v2, v3] 58)).alloc (Obj.cells #[.int .i64 x, .int .i64 y, .int .i64 h] 109)).heap.size, k, none⟩ = false := fun k => by
    unfold sbox
    generalize (w.alloc (Obj.cells #[.int .i64 S, v1, v2, v3] 58)).alloc (Obj.cells #[.int .i64 x, .int .i64 y, .int .i64 h] 109) = X
    simp
  rw [e2] at hf
  exact ⟨(((Below.refl _ _).alloc (Nat.le_refl _) _).alloc (by rw [e1]; omega) _).alloc (by rw [e2]; omega) _, ((nebox_new w S v1 v2 v3 58).later (hb _ _)).later (hb _ _), hs 0 _ rfl, hs 1 _ rfl, hs 2 _ rfl, hr 0 _ rfl, hr 1 _ rfl, hr 2 _ rfl, hf⟩
theorem SBox.later {w W W' : World} {S : Int} {v1 v2 v3 : Value} {x y h : Int} (k : SBox w W S v1 v2 v3 x y h) (hb : Below W.heap.size W W') : SBox w W' S v1 v2 v3 x y h :=
  ⟨k.below.trans (hb.mono k.below.size), k.n.later hb, cell_later hb k.i0, cell_later hb k.i1, cell_later hb k.i2, cell_later hb k.r0, cell_later hb k.r1, cell_later hb k.r2, fun i => (hb.frozen (p := ⟨w.heap.size + 1 + 1, i, none⟩) (show (⟨w.heap.size + 1 + 1, 0, none⟩ : Addr).block < W.heap.size from World.block_lt_of_cell? W ⟨w.heap.size + 1 + 1, 0, none⟩ k.r0)).trans (k.f i)⟩
theorem below_three {w W : World} (h : Below w.heap.size w W) (g : Nat) (hg : w.heap.size ≤ g) (u v x : Value) : Below w.heap.size w (((W.setCell ⟨g, 0, none⟩ u).setCell ⟨g, 1, none⟩ v).setCell ⟨g, 2, none⟩ x) := ((h.setCell (p := ⟨g, 0, none⟩) hg u).setCell (p := ⟨g, 1, none⟩) hg v).setCell (p := ⟨g, 2, none⟩) hg x

set_option maxHeartbeats 4000000 in
set_option maxRecDepth 100000 in
theorem step_any (S : Int) (ao : Option Addr) (n cap : Nat) (ao2 : Option Addr) (n2 cap2 : Nat) (ao3 : Option Addr) (n3 cap3 : Nat) (Ts : List (List Ru)) (x y h : Int) (w : World)
    (hT : TS w (.slice ao3 n3 cap3) Ts) (hG : ∀ k, k < Ts.length → tbN (Ts.getD k []) = 0) (h1 : 1 ≤ x) (h2 : x ≤ (n3 : Int)) (h6 : n3 ≤ 6) :
    Calls Tryd.prog 53 #[.agg #[.int .i64 S, .slice ao n cap, .slice ao2 n2 cap2, .slice ao3 n3 cap3], .agg #[.int .i64 x, .int .i64 y, .int .i64 h]] w fun e w' => e = .returned (.tuple #[.agg #[.int .i64 ((stO Ts ((x, y), h)).getD zeH).1.1, .int .i64 ((stO Ts ((x, y), h)).getD zeH).1.2, .int .i64 ((stO Ts ((x, y), h)).getD zeH).2], .bool (stO Ts ((x, y), h)).isSome]) ∧ Below w.heap.size w w' := by
  obtain ⟨k, rfl⟩ : ∃ k : Nat, x = (k : Int) + 1 := ⟨(x - 1).toNat, by omega⟩
  have hk : k < n3 := by omega
  obtain ⟨_, _, _, e1, hTn, hTm, _, hTa⟩ := hT.form
  cases e1
  obtain ⟨g, o, rfl, hc, _⟩ := hTa (by omega)
  have hX := sbox_new w S (.slice ao n cap) (.slice ao2 n2 cap2) (.slice (some ⟨g, o, none⟩) n3 cap3) ((k : Int) + 1) y h
  obtain ⟨a4, n4, c4, q0, hs⟩ := (hc.later hX.below) k (by rw [hTn]; exact hk)
  obtain ⟨t, ht⟩ : ∃ t, t = Ts.getD k [] := ⟨_, rfl⟩
  have hs2 : SR (sbox w S (.slice ao n cap) (.slice ao2 n2 cap2) (.slice (some ⟨g, o, none⟩) n3 cap3) ((k : Int) + 1) y h) (.slice a4 n4 c4) t := by
    rw [ht, getT (by rw [hTn]; exact hk)]
    exact hs
  have HTB : Hid (tbN t = 0) := by
    show _ = _
    rw [ht]
    exact hG k (by rw [hTn]; exact hk)
  have HST : Hid (stO Ts (((k : Int) + 1, y), h) = stT t (((k : Int) + 1, y), h)) := by
    show _ = _
    unfold stO taT
    simp only
    rw [ht]
    congr 2
    omega
  obtain ⟨A, hA⟩ : ∃ A, A = stO Ts (((k : Int) + 1, y), h) := ⟨_, rfl⟩
  have HA : Hid (A = stT t (((k : Int) + 1, y), h)) := hA.trans HST.out
  rw [← hA]
  obtain ⟨w0, hw0⟩ : ∃ W, W = sbox w S (.slice ao n cap) (.slice ao2 n2 cap2) (.slice (some ⟨g, o, none⟩) n3 cap3) ((k : Int) + 1) y h := ⟨_, rfl⟩
  rw [← hw0] at hX q0 hs2
  have HX : Hid (SBox w w0 S (.slice ao n cap) (.slice ao2 n2 cap2) (.slice (some ⟨g, o, none⟩) n3 cap3) ((k : Int) + 1) y h) := hX
  have HS : Hid (SR w0 (.slice a4 n4 c4) t) := hs2
  have HW0 : Hid (((w.alloc (Obj.cells #[.int .i64 S, .slice ao n cap, .slice ao2 n2 cap2, .slice (some ⟨g, o, none⟩) n3 cap3] 58)).alloc (Obj.cells #[.int .i64 ((k : Int) + 1), .int .i64 y, .int .i64 h] 109)).alloc (Obj.cells #[.int .i64 0, .int .i64 0, .int .i64 0] 109) = w0) := hw0.symm
  have hw : IntKind.i64.wrap ((k : Int) + 1 - 1) = (k : Int) := by rw [show (k : Int) + 1 - 1 = (k : Int) from by omega]; exact wrap_small (by omega) (by omega)
  have kb0 : (0 : Int) ≤ (k : Int) := by omega
  have kb1 : (k : Int) < (n3 : Int) := by omega
  clear hT hTn hTm hTa hc hs hs2 hX hA HST hw0 ht hG
  go_enter Tryd.func53, Tryd.ntmps53
  go_upto_region 1 with fail
  rw [HW0.out]
  obtain ⟨_, ⟨b0, b1, b2, b3⟩, i0, i1, i2, r0, r1, r2, f⟩ := HX.out
  clear HW0 f r0 r1 r2
  go_wp2_with fail
  refine (counting_any (.slice a4 n4 c4) t h _ HS.out).mono ?_
  rintro e w1 ⟨rfl, hb1⟩
  have HX1 : Hid (SBox w w1 S (.slice ao n cap) (.slice ao2 n2 cap2) (.slice (some ⟨g, o, none⟩) n3 cap3) ((k : Int) + 1) y h) := HX.out.later hb1
  have HS1 : Hid (SR w1 (.slice a4 n4 c4) t) := HS.out.later hb1
  obtain ⟨I, hI⟩ : ∃ I, I = beTo t h t.length := ⟨_, rfl⟩
  have HI : Hid (I = beTo t h t.length) := hI
  rw [← hI]
  clear hI hb1 HX HS b0 b1 b2 b3 i0 i1 i2 q0
  by_cases h0 : I < 0
  · have HA2 : Hid (A = none) := by
      show _ = _
      rw [HA.out, st_a (fun e => by have := (lu_0.1 e).2.2; rw [← HI.out] at this; omega)]
    obtain ⟨hB2, ⟨b0, b1, b2, b3⟩, i0, i1, i2, r0, r1, r2, f⟩ := HX1.out
    have HB2 : Hid (Below w.heap.size w w1) := hB2
    have f0 := f 0
    have f1 := f 1
    have f2 := f 2
    clear f hB2
    go_wp2
    refine bodyPost_ret (v := .tuple #[.agg #[.int .i64 0, .int .i64 0, .int .i64 0], .bool false]) (by simp [results, Tryd.results53, go_sem, *]) rfl ⟨by rw [HA2.out]; rfl, below_three HB2.out _ (by omega) _ _ _⟩
  · have hbd := be_bd t h t.length
    obtain ⟨j, rfl⟩ : ∃ j : Nat, I = (j : Int) := ⟨I.toNat, by omega⟩
    have hjl : j < t.length := by
      have := HI.out
      omega
    obtain ⟨_, _, _, e4, hn4, hm4, _, ha4⟩ := HS1.out.form
    cases e4
    obtain ⟨g4, o4, rfl, hc4, _⟩ := ha4 (by omega)
    have hjn : j < n4 := by omega
    obtain ⟨p, m, b, q, s, v, hl, hLj, c0, c1, c2, c3, c4', c5⟩ := hc4.at hn4 hjn
    have HRO : Hid (luN t h = 0 → roR t h = ⟨p, m, b, q, s, v⟩) := by
      intro e
      rw [roR, luI, if_pos e, ← HI.out, Int.toNat_natCast, getD_at hjl, hLj]
    have HLT : Hid (hdrB h = true → luN t h = 0) := fun e => lu_0.2 ⟨HTB.out, e, by rw [← HI.out]; omega⟩
    have HC4 : Hid (RAt w1 g4 o4 t) := hc4
    have HN4 : Hid (t.length = n4) := hn4
    have HLJ : Hid (t[j] = ⟨p, m, b, q, s, v⟩) := hLj
    have jb0 : (0 : Int) ≤ (j : Int) := by omega
    have jb1 : (j : Int) < (n4 : Int) := by omega
    obtain ⟨_, ⟨b0, b1, b2, b3⟩, i0, i1, i2, r0, r1, r2, f⟩ := HX1.out
    have hlt4 : g4 < w1.heap.size := World.block_lt_of_cell? _ _ c0
    have hlt1 : w.heap.size + 1 < w1.heap.size := World.block_lt_of_cell? _ _ i0
    obtain ⟨V, hV⟩ : ∃ V, V = apR p m b q s v h := ⟨_, rfl⟩
    obtain ⟨N, hN⟩ : ∃ N, N = apN p m b q s v h := ⟨_, rfl⟩
    have HV : Hid (V = apR p m b q s v h) := hV
    have HN : Hid (N = apN p m b q s v h) := hN
    clear hV hN h0 hbd hn4 hm4 ha4 hc4 hLj f HI HTB r0 r1 r2
    go_upto_region 5 with fail
    go_cut [8, 9] from 26 to 35 (fun hd er w' => hd = .int .i64 V ∧ er = noV N ∧ Below w1.heap.size w1 w')
    case first =>
      go_region_with (go_at_call 73; refine (apply_any p m b q s v h _).mono ?_; rintro e w' ⟨rfl, hb⟩; rw [← HV.out, ← HN.out]; have HBX : Hid (Below w1.heap.size w1 w') := (Below.drew (Below.refl _ _)).trans (hb.mono (by simp)); clear hb)
      all_goals (go_wp2_with fail; go_meet)
      all_goals exact ⟨rfl, rfl, HBX.out⟩
    case rest =>
      obtain ⟨rfl, rfl, hbw⟩ := hcut
      have HX2 : Hid (SBox w wc S (.slice ao n cap) (.slice ao2 n2 cap2) (.slice (some ⟨g, o, none⟩) n3 cap3) ((k : Int) + 1) y h) := HX1.out.later hbw
      obtain ⟨p', m', b', q', s', v', hl', hLj', c0, c1, c2, c3, c4', c5⟩ := (HC4.out.later hbw).at HN4.out hjn
      rw [HLJ.out] at hLj'
      cases hLj'
      obtain ⟨hB2, ⟨b0, b1, b2, b3⟩, i0, i1, i2, r0, r1, r2, f⟩ := HX2.out
      have HB2 : Hid (Below w.heap.size w wc) := hB2
      have hlt4 : g4 < wc.heap.size := World.block_lt_of_cell? _ _ c0
      have hlt1 : w.heap.size + 1 < wc.heap.size := World.block_lt_of_cell? _ _ i0
      have hlt2 : w.heap.size + 1 + 1 < wc.heap.size := World.block_lt_of_cell? _ _ r0
      have f0 := f 0
      have f1 := f 1
      have f2 := f 2
      clear hbw f hB2 HX1 HC4
      by_cases h5 : N = 0
      · subst h5
        rw [no_ok rfl]
        have HA2 : Hid (A = some (((k : Int) + 1, q), V)) := by
          show _ = _
          have hl := HLT.out (ap_yes HN.out.symm).2.1
          rw [HA.out, st_c hl (HRO.out hl) HN.out.symm, HV.out]
        go_upto_region 8 with fail
        go_region
        all_goals
          go_wp2
          refine bodyPost_ret (v := .tuple #[.agg #[.int .i64 ((k : Int) + 1), .int .i64 q, .int .i64 V], .bool true]) (by simp [results, Tryd.results53, go_sem, *]) rfl ⟨by rw [HA2.out]; rfl, ?_⟩
          first
            | exact below_three (HB2.out.trans ((Below.drew (Below.refl _ _)).mono HB2.out.size)) _ (by omega) _ _ _
      · rw [no_ne h5]
        have HA2 : Hid (A = none) := by
          show _ = _
          by_cases hl : luN t h = 0
          · rw [HA.out, st_b hl (HRO.out hl) (by rw [← HN.out]; exact h5)]
          · rw [HA.out, st_a hl]
        clear h5
        go_wp2
        refine bodyPost_ret (v := .tuple #[.agg #[.int .i64 0, .int .i64 0, .int .i64 0], .bool false]) (by simp [results, Tryd.results53, go_sem, *]) rfl ⟨by rw [HA2.out]; rfl, below_three HB2.out _ (by omega) _ _ _⟩
end Go.Proofs.YtfbocionnjlilacDoor
/- What topo.checkSpot answers: a contract for the walks above it. -/
namespace Go.Proofs.YtfbocionnjlilacDoor
open Go.RowKit
set_option linter.unusedSimpArgs false
set_option linter.unusedVariables false

set_option maxHeartbeats 1000000 in
set_option maxRecDepth 100000 in
theorem checkSpot_any (S : Int) (ao : Option Addr) (n cap : Nat) (ao2 : Option Addr) (n2 cap2 : Nat) (Ls : List ((Int × Int) × (Int × Int))) (Hs : List (ByteArray × (Int × Int))) (x y : Int) (w : World)
    (hL : GS lnkE w (.slice ao n cap) Ls) (hH : GS hstE w (.slice ao2 n2 cap2) Hs) :
    Calls Tryd.prog 37 #[.agg #[.int .i64 S, .slice ao n cap, .slice ao2 n2 cap2], .agg #[.int .i64 x, .int .i64 y]] w fun e w' => e = .returned (noV (csN S Ls Hs (x, y))) ∧ Below w.heap.size w w' := by
  have hb1 : Below w.heap.size w (w.alloc (Obj.cells #[.int .i64 S, .slice ao n cap, .slice ao2 n2 cap2] 25)) := (Below.refl _ _).alloc (Nat.le_refl _) _
  have hb2 : Below w.heap.size w ((w.alloc (Obj.cells #[.int .i64 S, .slice ao n cap, .slice ao2 n2 cap2] 25)).alloc (Obj.cells #[.int .i64 x, .int .i64 y] 27)) := hb1.alloc hb1.size _
  have hX : TBox ((w.alloc (Obj.cells #[.int .i64 S, .slice ao n cap, .slice ao2 n2 cap2] 25)).alloc (Obj.cells #[.int .i64 x, .int .i64 y] 27)) w.heap.size S (.slice ao n cap) (.slice ao2 n2 cap2) :=
    (tbox_new w S _ _ 25).later ((Below.refl _ _).alloc (Nat.le_refl _) _)
  have hS0 : VAt ((w.alloc (Obj.cells #[.int .i64 S, .slice ao n cap, .slice ao2 n2 cap2] 25)).alloc (Obj.cells #[.int .i64 x, .int .i64 y] 27)) (w.heap.size + 1) 0 (spoE.c (x, y)) := by
    have h := spo_new (w.alloc (Obj.cells #[.int .i64 S, .slice ao n cap, .slice ao2 n2 cap2] 25)) x y 27
    simpa using h
  obtain ⟨C, hC⟩ : ∃ C, C = csN S Ls Hs (x, y) := ⟨_, rfl⟩
  have HC : Hid (C = csN S Ls Hs (x, y)) := hC
  rw [← hC]
  have HL2 : Hid (GS lnkE ((w.alloc (Obj.cells #[.int .i64 S, .slice ao n cap, .slice ao2 n2 cap2] 25)).alloc (Obj.cells #[.int .i64 x, .int .i64 y] 27)) (.slice ao n cap) Ls) := hL.later hb2
  have HH2 : Hid (GS hstE ((w.alloc (Obj.cells #[.int .i64 S, .slice ao n cap, .slice ao2 n2 cap2] 25)).alloc (Obj.cells #[.int .i64 x, .int .i64 y] 27)) (.slice ao2 n2 cap2) Hs) := hH.later hb2
  have HB2 : Hid (Below w.heap.size w ((w.alloc (Obj.cells #[.int .i64 S, .slice ao n cap, .slice ao2 n2 cap2] 25)).alloc (Obj.cells #[.int .i64 x, .int .i64 y] 27))) := hb2
  have HX : Hid (TBox ((w.alloc (Obj.cells #[.int .i64 S, .slice ao n cap, .slice ao2 n2 cap2] 25)).alloc (Obj.cells #[.int .i64 x, .int .i64 y] 27)) w.heap.size S (.slice ao n cap) (.slice ao2 n2 cap2)) := hX
  have HS0 : Hid (VAt ((w.alloc (Obj.cells #[.int .i64 S, .slice ao n cap, .slice ao2 n2 cap2] 25)).alloc (Obj.cells #[.int .i64 x, .int .i64 y] 27)) (w.heap.size + 1) 0 (spoE.c (x, y))) := hS0
  clear hC hb1 hb2 hX hS0 hL hH
  go_enter Tryd.func37, Tryd.ntmps37
  go_wp2_with fail
  refine (check_any S ao n cap ao2 n2 cap2 Ls Hs _ HL2.out HH2.out).mono ?_
  rintro e w1 ⟨rfl, hb1⟩
  obtain ⟨T, hT⟩ : ∃ T, T = tpN S Ls Hs := ⟨_, rfl⟩
  have HT : Hid (T = tpN S Ls Hs) := hT
  rw [← hT]
  have hB1 := HB2.out.trans (hb1.mono HB2.out.size)
  have HB1 : Hid (Below w.heap.size w w1) := hB1
  obtain ⟨b0, b1, b2⟩ := HX.out.later hb1
  obtain ⟨s0, s1⟩ := spo_cells (HS0.out.later hb1)
  simp only [Nat.zero_add] at s0 s1
  clear hT hb1 hB1 HX HS0 HL2 HH2 HB2
  by_cases h0 : T = 0
  · subst h0
    rw [no_ok rfl]
    go_wp2_with fail
    refine (isSpot_any S x y _).mono ?_
    rintro e w2 ⟨rfl, hb2⟩
    have HB3 : Hid (Below w.heap.size w w2) := HB1.out.trans (hb2.mono HB1.out.size)
    clear hb2
    cases hs : spB S (x, y)
    · have HC2 : Hid (C = 1) := by
        show _ = _
        rw [HC.out, csN, if_pos HT.out.symm, hs]
        rfl
      go_wp2
      go_ret
      exact ⟨by rw [HC2.out]; rfl, HB3.out⟩
    · have HC2 : Hid (C = 0) := by
        show _ = _
        rw [HC.out, csN, if_pos HT.out.symm, hs]
        rfl
      go_wp2
      go_ret
      exact ⟨by rw [HC2.out]; rfl, HB3.out⟩
  · rw [no_ne h0]
    have HC2 : Hid (C = T) := by
      show _ = _
      rw [HC.out, csN, ← HT.out, if_neg h0]
    have HN0 : Hid (T ≠ 0) := h0
    clear h0
    go_wp2
    go_ret
    exact ⟨by rw [HC2.out, no_ne HN0.out]; rfl, HB1.out⟩
end Go.Proofs.YtfbocionnjlilacDoor
/- What topo.Peers answers: a contract for the walks above it. -/
namespace Go.Proofs.YtfbocionnjlilacDoor
open Go.RowKit
set_option linter.unusedSimpArgs false
set_option linter.unusedVariables false

/-- Spots as elements. -/
def veS (p : Int × Int) : Value := .agg #[.int .i64 p.1, .int .i64 p.2]
set_option maxHeartbeats 2000000 in
set_option maxRecDepth 100000 in
theorem peers_any (ao : Option Addr) (n cap : Nat) (Ls : List ((Int × Int) × (Int × Int))) (w : World) (hL : GS lnkE w (.slice ao n cap) Ls) (hd : (spsL Ls).Nodup) (h1000 : n ≤ 1000) :
    Calls Tryd.prog 38 #[.slice ao n cap] w fun e w' => ∃ B M, e = .returned (.map (some B)) ∧ MAt spotKey veS w' B M ∧ PM M Ls ∧ Below w.heap.size w w' := by
  obtain ⟨_, _, _, e1, hLn, hLm, _, hLa⟩ := hL.form
  cases e1
  have HLN : Hid (Ls.length = n) := hLn
  have HLA : Hid (0 < n → ∃ g o, ao = some ⟨g, o, none⟩ ∧ GAt lnkE w g o Ls ∧ cap ≤ maxLen) := hLa
  have HND : Hid ((spsL Ls).Nodup) := hd
  have hmk := run_makeMap (P := Tryd.prog) 92 w
  have HM1 : Hid (MAt spotKey veS (w.alloc (.map #[] 0)) w.heap.size []) := mat_new spotKey veS w
  clear hL hLn hLm hLa hd
  go_enter Tryd.func38, Tryd.ntmps38
  go_wp2
  obtain ⟨B, hB⟩ : ∃ x, w.heap.size = x := ⟨_, rfl⟩
  have HB : Hid (w.heap.size = B) := hB
  go_loopw [9] (fun i wr => ∃ k : Nat, k ≤ n ∧ i = .int .i64 k ∧ (∃ M, MAt spotKey veS wr w.heap.size M ∧ PM M (Ls.take k)) ∧ Below w.heap.size w wr) (fun i _ => n - (intOf i).toNat)
  case atStart => exact ⟨0, by omega, rfl, ⟨[], HM1.out, by simpa using pm_nil⟩, (Below.refl _ _).alloc (Nat.le_refl _) _⟩
  case round =>
    obtain ⟨k, hk, rfl, ⟨M, hM, hP⟩, hBw⟩ := hrel
    have HM : Hid (MAt spotKey veS wr w.heap.size M) := hM
    have HP : Hid (PM M (Ls.take k)) := hP
    have HBw : Hid (Below w.heap.size w wr) := hBw
    clear hB
    by_cases hlt : k < n
    · obtain ⟨g, o, hao, hc, _⟩ := HLA.out (by omega)
      subst hao
      obtain ⟨x0, x1, x2, x3, hkl, hLk, q0, q1, q2, q3⟩ := lnk_at (hc.later hBw) HLN.out hlt
      have HLk : Hid (Ls[k] = ((x0, x1), (x2, x3))) := hLk
      obtain ⟨W0, hW0⟩ : ∃ W0, wr.alloc (Obj.cells #[Value.int IntKind.i64 x0, Value.int IntKind.i64 x1, Value.int IntKind.i64 x2, Value.int IntKind.i64 x3] 83) = W0 := ⟨_, rfl⟩
      have hBA : Below wr.heap.size wr W0 := by
        rw [← hW0]
        exact (Below.refl _ _).alloc (Nat.le_refl _) _
      obtain ⟨c0, c1, c2, c3⟩ := lnk_cells (lnk_new wr x0 x1 x2 x3 83)
      simp only [Nat.zero_add] at c0 c1 c2 c3
      rw [hW0] at c0 c1 c2 c3
      have hM0 : MAt spotKey veS W0.drew w.heap.size M := hM.later hBA.drew
      obtain ⟨w3, hu1, hM3, hg3⟩ := run_update_M hM0 92 27 Tryd.underlying92 (x0, x1) (x2, x3)
      obtain ⟨w4, hu2, hM4, hg4⟩ := run_update_M hM3 92 27 Tryd.underlying92 (x2, x3) (x0, x1)
      have hlw : w.heap.size < wr.heap.size := hM.lt
      have hlW : wr.heap.size < W0.drew.heap.size := World.block_lt_of_cell? _ _ c0
      have hk3 : ∀ i, w3.cell? ⟨wr.heap.size, i, none⟩ = W0.cell? ⟨wr.heap.size, i, none⟩ := fun i => World.cell?_of_block (w := W0) (a := ⟨wr.heap.size, i, none⟩) (hg3.block wr.heap.size hlW (fun e => by simp only [Option.some.injEq] at e; omega))
      have d0 := (hk3 0).trans c0
      have d1 := (hk3 1).trans c1
      have d2 := (hk3 2).trans c2
      have d3 := (hk3 3).trans c3
      have v1 : (Instr.mapUpdate 92 (.map (some w.heap.size)) (.agg #[.int .i64 x0, .int .i64 x1]) (.agg #[.int .i64 x2, .int .i64 x3])).run Tryd.prog W0.drew = .ok () w3 := hu1
      have v2 : (Instr.mapUpdate 92 (.map (some w.heap.size)) (.agg #[.int .i64 x2, .int .i64 x3]) (.agg #[.int .i64 x0, .int .i64 x1])).run Tryd.prog w3 = .ok () w4 := hu2
      have HM4 : Hid (MAt spotKey veS w4 w.heap.size (mput sq (x2, x3) (x0, x1) (mput sq (x0, x1) (x2, x3) M))) := hM4
      have HP4 : Hid (PM (mput sq (x2, x3) (x0, x1) (mput sq (x0, x1) (x2, x3) M)) (Ls.take (k + 1))) := by
        have e : Ls.take (k + 1) = Ls.take k ++ [((x0, x1), (x2, x3))] := by rw [List.take_succ_eq_append_getElem hkl, hLk]
        show PM _ _
        rw [e]
        refine pm_put hP ?_
        rw [← e]
        exact sps_nd HND.out _
      have HB4 : Hid (Below w.heap.size w w4) := by
        have h0 : Below w.heap.size w W0.drew := (hBw.trans (hBA.mono hBw.size)).drew
        exact (h0.grown hg3 h0.size (fun j e => by cases e; exact Nat.le_refl _)).grown hg4 (Nat.le_trans h0.size hg3.size) (fun j e => by cases e; exact Nat.le_refl _)
      have kb0 : (0 : Int) ≤ (k : Int) := by omega
      have kb1 : (k : Int) < (n : Int) := by omega
      clear hk3 hlw hlW hu1 hu2 hM3 hM4 hg3 hg4 hM0 hM hP hc hLk hBw hBA
      go_upto_region 5 with fail
      clear q0 q1 q2 q3
      go_region
      go_wp2
      go_roundw
      case rel => exact ⟨k + 1, by omega, by go_num, ⟨_, HM4.out, HP4.out⟩, HB4.out⟩
      case measure => simp [intOf]; omega
    · obtain rfl : k = n := by omega
      clear hM hP hBw
      go_wp2
      go_ret
      exact ⟨_, M, rfl, HM.out, by have := HP.out; rw [← HLN.out, List.take_length] at this; exact this, HBw.out⟩
end Go.Proofs.YtfbocionnjlilacDoor
/- What topo.Peer answers: a contract for the walks above it. -/
namespace Go.Proofs.YtfbocionnjlilacDoor
open Go.RowKit
set_option linter.unusedSimpArgs false
set_option linter.unusedVariables false

/-- The three boxes of a call: a topology, a spot, the answer. -/
def pbox (w : World) (S : Int) (v1 v2 : Value) (x y : Int) : World := ((w.alloc (Obj.cells #[.int .i64 S, v1, v2] 25)).alloc (Obj.cells #[.int .i64 x, .int .i64 y] 27)).alloc (Obj.cells #[.int .i64 0, .int .i64 0] 27)
structure PBox (w W : World) (S : Int) (v1 v2 : Value) (x y : Int) : Prop where
  below : Below w.heap.size w W
  t : TBox W w.heap.size S v1 v2
  s0 : W.cell? ⟨w.heap.size + 1, 0, none⟩ = some (.int .i64 x)
  s1 : W.cell? ⟨w.heap.size + 1, 1, none⟩ = some (.int .i64 y)
  r0 : W.cell? ⟨w.heap.size + 1 + 1, 0, none⟩ = some (.int .i64 0)
  r1 : W.cell? ⟨w.heap.size + 1 + 1, 1, none⟩ = some (.int .i64 0)
  f : ∀ i, W.frozen? ⟨w.heap.size + 1 + 1, i, none⟩ = false
theorem froz_new2 (w : World) (cs : Array Value) (t : TypeId) (k : Nat) : (w.alloc (.cells cs t)).frozen? ⟨w.heap.size, k, none⟩ = false := by simp
theorem pbox_new (w : World) (S : Int) (v1 v2 : Value) (x y : Int) : PBox w (pbox w S v1 v2 x y) S v1 v2 x y := by
  have e1 : (w.alloc (Obj.cells #[.int .i64 S, v1, v2] 25)).heap.size = w.heap.size + 1 := by simp
  have e2 : ((w.alloc (Obj.cells #[.int .i64 S, v1, v2] 25)).alloc (Obj.cells #[.int .i64 x, .int .i64 y] 27)).heap.size = w.heap.size + 1 + 1 := by simp
  have hb : ∀ (W : World) (o : Obj), Below W.heap.size W (W.alloc o) := fun W o => (Below.refl _ _).alloc (Nat.le_refl _) _
  have hs := (vat_new (w.alloc (Obj.cells #[.int .i64 S, v1, v2] 25)) [.int .i64 x, .int .i64 y] 27).later (hb _ (Obj.cells #[.int .i64 0, .int .i64 0] 27))
  rw [e1] at hs
  have hr := vat_new ((w.alloc (Obj.cells #[.int .i64 S, v1, v2] 25)).alloc (Obj.cells #[.int .i64 x, .int .i64 y] 27)) [.int .i64 0, .int .i64 0] 27
  rw [e2] at hr
  have hf := froz_new2 ((w.alloc (Obj.cells #[.int .i64 S, v1, v2] 25)).alloc (Obj.cells #[.int .i64 x, .int .i64 y] 27)) #[.int .i64 0, .int .i64 0] 27
  rw [e2] at hf
  exact ⟨(((Below.refl _ _).alloc (Nat.le_refl _) _).alloc (by rw [e1]; omega) _).alloc (by rw [e2]; omega) _, ((tbox_new w S v1 v2 25).later (hb _ _)).later (hb _ _), hs 0 _ rfl, hs 1 _ rfl, hr 0 _ rfl, hr 1 _ rfl, hf⟩
theorem PBox.later {w W W' : World} {S : Int} {v1 v2 : Value} {x y : Int} (h : PBox w W S v1 v2 x y) (hb : Below W.heap.size W W') : PBox w W' S v1 v2 x y :=
  ⟨h.below.trans (hb.mono h.below.size), h.t.later hb, cell_later hb h.s0, cell_later hb h.s1, cell_later hb h.r0, cell_later hb h.r1, fun i => (hb.frozen (p := ⟨w.heap.size + 1 + 1, i, none⟩) (show (⟨w.heap.size + 1 + 1, 0, none⟩ : Addr).block < W.heap.size from World.block_lt_of_cell? W ⟨w.heap.size + 1 + 1, 0, none⟩ h.r0)).trans (h.f i)⟩
theorem below_two2 {w W : World} (h : Below w.heap.size w W) (g : Nat) (hg : w.heap.size ≤ g) (u v : Value) : Below w.heap.size w ((W.setCell ⟨g, 0, none⟩ u).setCell ⟨g, 1, none⟩ v) := (h.setCell (p := ⟨g, 0, none⟩) hg u).setCell (p := ⟨g, 1, none⟩) hg v
theorem bdrew {w w' : World} (hb : Below w.drew.heap.size w.drew w') : Below w.heap.size w w' := (Below.drew (Below.refl _ _)).trans hb
theorem balloc {w w' : World} {o : Obj} (hb : Below (w.drew.alloc o).heap.size (w.drew.alloc o) w') : Below w.heap.size w w' := ((Below.drew (Below.refl _ _)).alloc (Nat.le_refl _) o).trans (hb.mono (by simp))
theorem ballocC {w w' : World} {a b : Value} {t : TypeId} (hb : Below (w.drew.alloc (Obj.cells #[a, b] t)).heap.size (w.drew.alloc (Obj.cells #[a, b] t)) w') : w'.cell? ⟨w.heap.size, 0, none⟩ = some a ∧ w'.cell? ⟨w.heap.size, 1, none⟩ = some b ∧ w'.frozen? ⟨w.heap.size, 0, none⟩ = false ∧ w'.frozen? ⟨w.heap.size, 1, none⟩ = false := by
  have h := vat_new w.drew [a, b] t
  have hl : w.heap.size < (w.drew.alloc (Obj.cells #[a, b] t)).heap.size := by simp
  exact ⟨cell_later hb (h 0 _ rfl), cell_later hb (h 1 _ rfl), (hb.frozen (p := ⟨w.heap.size, 0, none⟩) hl).trans (froz_new2 w.drew #[a, b] t 0), (hb.frozen (p := ⟨w.heap.size, 1, none⟩) hl).trans (froz_new2 w.drew #[a, b] t 1)⟩
theorem two_cells {w' : World} {g : Nat} {a b u v : Value} (k0 : w'.cell? ⟨g, 0, none⟩ = some u) (k1 : w'.cell? ⟨g, 1, none⟩ = some v) (ha : a.oneCell' = true) (hb : b.oneCell' = true) : ((w'.setCell ⟨g, 0, none⟩ a).setCell ⟨g, 1, none⟩ b).cell? ⟨g, 0, none⟩ = some a ∧ ((w'.setCell ⟨g, 0, none⟩ a).setCell ⟨g, 1, none⟩ b).cell? ⟨g, 1, none⟩ = some b := by
  have h1 : (w'.setCell ⟨g, 0, none⟩ a).cell? ⟨g, 1, none⟩ = some v := by
    rw [World.cell?_setCell_other _ _ _ _ (by simp)]
    exact k1
  constructor
  · rw [World.cell?_setCell_other _ _ _ _ (by simp)]
    exact World.cell?_setCell_same _ _ _ k0
  · exact World.cell?_setCell_same _ _ _ h1
/-- What a look-up of a spot answers. -/
theorem peer_look {W : World} {B : Nat} {M : List ((Int × Int) × (Int × Int))} {Ls : List ((Int × Int) × (Int × Int))} (hM : MAt spotKey veS W B M) (hP : PM M Ls) (x y : Int) :
    (Instr.lookup 92 (.map (some B)) (.agg #[.int .i64 x, .int .i64 y]) true).run Tryd.prog W = .ok (.tuple #[.agg #[.int .i64 ((peerO Ls (x, y)).getD (0, 0)).1, .int .i64 ((peerO Ls (x, y)).getD (0, 0)).2], .bool (peerO Ls (x, y)).isSome]) W := by
  have h := run_lookup_M hM 92 27 Tryd.underlying92 (.agg #[.int .i64 0, .int .i64 0]) (fun w => by kernel_rfl) (x, y) true
  rw [show mget spotKey.q (x, y) M = peerO Ls (x, y) from hP (x, y)] at h
  simp only [if_true] at h
  cases hp : peerO Ls (x, y) with
  | none => rw [hp] at h; exact h
  | some p => rw [hp] at h; exact h
set_option maxHeartbeats 2000000 in
set_option maxRecDepth 100000 in
theorem peer_any (S : Int) (ao : Option Addr) (n cap : Nat) (ao2 : Option Addr) (n2 cap2 : Nat) (Ls : List ((Int × Int) × (Int × Int))) (Hs : List (ByteArray × (Int × Int))) (x y : Int) (w : World)
    (hL : GS lnkE w (.slice ao n cap) Ls) (hH : GS hstE w (.slice ao2 n2 cap2) Hs) :
    Calls Tryd.prog 13 #[.agg #[.int .i64 S, .slice ao n cap, .slice ao2 n2 cap2], .agg #[.int .i64 x, .int .i64 y]] w fun e w' => e = .returned (.tuple #[.agg #[.int .i64 (peV S Ls Hs (x, y)).1, .int .i64 (peV S Ls Hs (x, y)).2], noV (peN S Ls Hs (x, y))]) ∧ Below w.heap.size w w' := by
  have hX := pbox_new w S (.slice ao n cap) (.slice ao2 n2 cap2) x y
  obtain ⟨R, hR⟩ : ∃ R, R = peN S Ls Hs (x, y) := ⟨_, rfl⟩
  have HR : Hid (R = peN S Ls Hs (x, y)) := hR
  obtain ⟨V1, hV1⟩ : ∃ V, V = (peV S Ls Hs (x, y)).1 := ⟨_, rfl⟩
  have HV1 : Hid (V1 = (peV S Ls Hs (x, y)).1) := hV1
  obtain ⟨V2, hV2⟩ : ∃ V, V = (peV S Ls Hs (x, y)).2 := ⟨_, rfl⟩
  have HV2 : Hid (V2 = (peV S Ls Hs (x, y)).2) := hV2
  rw [← hR, ← hV1, ← hV2]
  have HL2 : Hid (GS lnkE (pbox w S (.slice ao n cap) (.slice ao2 n2 cap2) x y) (.slice ao n cap) Ls) := hL.later hX.below
  have HH2 : Hid (GS hstE (pbox w S (.slice ao n cap) (.slice ao2 n2 cap2) x y) (.slice ao2 n2 cap2) Hs) := hH.later hX.below
  have HX : Hid (PBox w (pbox w S (.slice ao n cap) (.slice ao2 n2 cap2) x y) S (.slice ao n cap) (.slice ao2 n2 cap2) x y) := hX
  clear hR hV1 hV2 hX hL hH
  go_enter Tryd.func13, Tryd.ntmps13
  go_wp2_with fail
  refine (checkSpot_any S ao n cap ao2 n2 cap2 Ls Hs x y _ HL2.out HH2.out).mono ?_
  rintro e w1 ⟨rfl, hb1⟩
  obtain ⟨T, hT⟩ : ∃ T, T = csN S Ls Hs (x, y) := ⟨_, rfl⟩
  have HT : Hid (T = csN S Ls Hs (x, y)) := hT
  rw [← hT]
  have hX1 := HX.out.later hb1
  have HX1 : Hid (PBox w w1 S (.slice ao n cap) (.slice ao2 n2 cap2) x y) := hX1
  have HL1 : Hid (GS lnkE w1 (.slice ao n cap) Ls) := HL2.out.later hb1
  obtain ⟨_, ⟨b0, b1, b2⟩, s0, s1, r0, r1, f⟩ := hX1
  have f0 := f 0
  have f1 := f 1
  clear hT hb1 HX HL2 HH2 f
  by_cases h0 : T = 0
  · subst h0
    rw [no_ok rfl]
    have HTP : Hid (tpN S Ls Hs = 0) := by
      show _ = _
      have h := HT.out
      unfold csN at h
      by_cases e : tpN S Ls Hs = 0
      · exact e
      · rw [if_neg e] at h; exact absurd h.symm e
    have HND : Hid ((spsL Ls).Nodup) := (tp_0 HTP.out).2.2.2.1
    have HN2 : Hid (n ≤ 1000) := by
      have h1 := (tp_0 HTP.out).2.1.1
      have h2 := HL1.out.len
      show _ ≤ _
      omega
    obtain ⟨p0, hp0⟩ : ∃ p, ((peerO Ls (x, y)).getD (0, 0)).1 = p := ⟨_, rfl⟩
    obtain ⟨p1, hp1⟩ : ∃ p, ((peerO Ls (x, y)).getD (0, 0)).2 = p := ⟨_, rfl⟩
    obtain ⟨ok, hok⟩ : ∃ p, (peerO Ls (x, y)).isSome = p := ⟨_, rfl⟩
    have HLK : Hid (∀ W B M, MAt spotKey veS W B M → PM M Ls → (Instr.lookup 92 (.map (some B)) (.agg #[.int .i64 x, .int .i64 y]) true).run Tryd.prog W = .ok (.tuple #[.agg #[.int .i64 p0, .int .i64 p1], .bool ok]) W) := fun W B M h1 h2 => by
      rw [← hp0, ← hp1, ← hok]
      exact peer_look h1 h2 x y
    have HOK : Hid (R = if ok then 0 else 5) := by
      show _ = _
      rw [HR.out, peN, if_pos HT.out.symm, hok]
    have HP0 : Hid (ok = true → V1 = p0 ∧ V2 = p1) := fun h => by
      have e : R = 0 := by rw [HOK.out, h]; rfl
      have e2 : peV S Ls Hs (x, y) = (peerO Ls (x, y)).getD (0, 0) := by rw [peV, ← HR.out, e, if_pos rfl]
      exact ⟨by rw [HV1.out, e2, hp0], by rw [HV2.out, e2, hp1]⟩
    have HP5 : Hid (ok = false → V1 = 0 ∧ V2 = 0) := fun h => by
      have e : R = 5 := by rw [HOK.out, h]; rfl
      have e2 : peV S Ls Hs (x, y) = (0, 0) := by rw [peV, ← HR.out, e, if_neg (by decide)]
      exact ⟨by rw [HV1.out, e2], by rw [HV2.out, e2]⟩
    have HS : Hid (∀ W, Below w1.heap.size w1 W → W.cell? ⟨w.heap.size + 1, 0, none⟩ = some (.int .i64 x) ∧ W.cell? ⟨w.heap.size + 1, 1, none⟩ = some (.int .i64 y)) := fun W hb => ⟨cell_later hb HX1.out.s0, cell_later hb HX1.out.s1⟩
    have HLW : Hid (∀ W, Below w1.heap.size w1 W → GS lnkE W (.slice ao n cap) Ls) := fun W hb => HL1.out.later hb
    clear hp0 hp1 hok r0 r1 f0 f1
    go_upto_region 4 with fail
    go_cut [7, 8] from 16 to 23 (fun p q w' => ∃ g, p = .pointer (some ⟨g, 0, none⟩) ∧ q = .bool ok ∧ w'.cell? ⟨g, 0, none⟩ = some (.int .i64 p0) ∧ w'.cell? ⟨g, 1, none⟩ = some (.int .i64 p1) ∧ Below w1.heap.size w1 w')
    case first =>
      have hl1 : w.heap.size + 1 < w1.heap.size := World.block_lt_of_cell? _ _ s0
      have hl0 : w.heap.size < w1.heap.size := World.block_lt_of_cell? _ _ b0
      go_region_with (go_at_call 38; refine (peers_any ao n cap Ls _ (HLW.out _ (by first | exact Below.drew (Below.refl _ _) | exact (Below.drew (Below.refl _ _)).alloc (Nat.le_refl _) _)) HND.out HN2.out).mono ?_; rintro e w' ⟨B, M, rfl, hM, hPM, hb⟩; have hbx : Below w1.heap.size w1 w' := (by first | exact bdrew hb | exact balloc hb); obtain ⟨c0', c1'⟩ := HS.out _ hbx; have hl' : w.heap.size + 1 < w'.heap.size := World.block_lt_of_cell? _ _ c0'; have hlk1 := HLK.out _ _ _ hM hPM; have hlk2 := HLK.out _ _ _ (hM.later ((Below.refl _ _).alloc (Nat.le_refl _) (Obj.cells #[.int .i64 0, .int .i64 0] 27))) hPM; have HBX : Hid (Below w1.heap.size w1 w') := hbx; try (have hbc := ballocC hb; obtain ⟨k0, k1, k2, k3⟩ := hbc); clear hM hPM hbx)
      all_goals (go_wp2_with fail; go_meet)
      all_goals first
        | exact ⟨_, rfl, rfl, by simp, by simp, HBX.out.alloc HBX.out.size _⟩
        | exact ⟨_, rfl, rfl, (two_cells k0 k1 rfl rfl).1, (two_cells k0 k1 rfl rfl).2, (HBX.out.setCell (p := ⟨w1.heap.size, 0, none⟩) (Nat.le_refl _) _).setCell (p := ⟨w1.heap.size, 1, none⟩) (Nat.le_refl _) _⟩
    case rest =>
      obtain ⟨g, rfl, rfl, g0, g1, hbw⟩ := hcut
      have hX3 := HX1.out.later hbw
      have HB3 : Hid (Below w.heap.size w wc) := hX3.below
      obtain ⟨_, ⟨b0, b1, b2⟩, s0, s1, r0, r1, f⟩ := hX3
      have f0 := f 0
      have f1 := f 1
      clear hbw f HX1 HL1 HLW HS HLK
      cases ok with
      | false =>
        have HR5 : Hid (R = 5) := HOK.out
        have HV5 : Hid (V1 = 0 ∧ V2 = 0) := HP5.out rfl
        go_wp2
        refine bodyPost_ret (v := .tuple #[.agg #[.int .i64 0, .int .i64 0], .iface 85 (.int .i64 5)]) (by simp [results, Tryd.results13, go_sem, *]) rfl ⟨by rw [HR5.out, HV5.out.1, HV5.out.2]; rfl, below_two2 HB3.out _ (by omega) _ _⟩
      | true =>
        have HR0 : Hid (R = 0) := HOK.out
        have HV0 : Hid (V1 = p0 ∧ V2 = p1) := HP0.out rfl
        go_wp2
        refine bodyPost_ret (v := .tuple #[.agg #[.int .i64 p0, .int .i64 p1], .nilIface]) (by simp [results, Tryd.results13, go_sem, *]) rfl ⟨by rw [HR0.out, HV0.out.1, HV0.out.2]; rfl, below_two2 HB3.out _ (by omega) _ _⟩
  · rw [no_ne h0]
    have HR2 : Hid (R = T) := by
      show _ = _
      rw [HR.out, peN, ← HT.out, if_neg h0]
    have HV5 : Hid (V1 = 0 ∧ V2 = 0) := by
      have h2 := HR2.out
      have e : peV S Ls Hs (x, y) = (0, 0) := by rw [peV, ← HR.out, h2, if_neg h0]
      exact ⟨by rw [HV1.out, e], by rw [HV2.out, e]⟩
    have HN0 : Hid (T ≠ 0) := h0
    clear h0
    go_wp2
    refine bodyPost_ret (v := .tuple #[.agg #[.int .i64 0, .int .i64 0], .iface 85 (.int .i64 T)]) (by simp [results, Tryd.results13, go_sem, *]) rfl ⟨by rw [HR2.out, HV5.out.1, HV5.out.2, no_ne HN0.out], below_two2 HX1.out.below _ (by omega) _ _⟩
end Go.Proofs.YtfbocionnjlilacDoor
/- What package slices answers at slices of api.Hop. Written by mk/slices.py. -/
namespace Go.Proofs.YtfbocionnjlilacDoor
open Go.RowKit
set_option linter.unusedSimpArgs false
set_option linter.unusedVariables false

/-- One in a box, another one at an address: a class of worlds. -/
def hopCI (w : World) (B : Nat) (x0 : Int) (x1 : Int) (x2 : Int) (g o : Nat) (y0 : Int) (y1 : Int) (y2 : Int) (w' : World) : Prop :=
  Below w.heap.size w w' ∧ (w'.cell? ⟨B, 0, none⟩ = some (.int .i64 x0) ∧ w'.cell? ⟨B, 1, none⟩ = some (.int .i64 x1) ∧ w'.cell? ⟨B, 2, none⟩ = some (.int .i64 x2)) ∧
  w'.cell? ⟨g, o, none⟩ = some (.int .i64 y0) ∧ w'.cell? ⟨g, o + 1, none⟩ = some (.int .i64 y1) ∧ w'.cell? ⟨g, o + 2, none⟩ = some (.int .i64 y2)
theorem hopCI.later {w W W' : World} {B : Nat} {x0 : Int} {x1 : Int} {x2 : Int} {g o : Nat} {y0 : Int} {y1 : Int} {y2 : Int} (hb : Below W.heap.size W W') (h : hopCI w B x0 x1 x2 g o y0 y1 y2 W) : hopCI w B x0 x1 x2 g o y0 y1 y2 W' := by
  obtain ⟨h0, ⟨h1, h2, h3⟩, k1, k2, k3⟩ := h
  exact ⟨h0.trans (hb.mono h0.size), ⟨cell_later hb h1, cell_later hb h2, cell_later hb h3⟩, cell_later hb k1, cell_later hb k2, cell_later hb k3⟩

set_option maxHeartbeats 2000000 in
set_option maxRecDepth 100000 in
theorem hop_idx (ao : Option Addr) (n cap : Nat) (x0 : Int) (x1 : Int) (x2 : Int) (L : List ((Int × Int) × Int)) (w : World) (hn : L.length = n) (hn2 : n ≤ maxLen) (ha : 0 < n → ∃ g o, ao = some ⟨g, o, none⟩ ∧ GAt hopE w g o L ∧ cap ≤ maxLen) :
    Calls Tryd.prog 88 #[.slice ao n cap, .agg #[.int .i64 x0, .int .i64 x1, .int .i64 x2]] w fun e w' => e = .returned (.int .i64 (ixG (fun a => hopB ((x0, x1), x2) a) L)) ∧ Below w.heap.size w w' := by
  have HN : Hid (L.length = n) := hn
  have HA : Hid (0 < n → ∃ g o, ao = some ⟨g, o, none⟩ ∧ GAt hopE w g o L ∧ cap ≤ maxLen) := ha
  have HC0 := hop_new w x0 x1 x2 109
  have HB0 : Hid (Below w.heap.size w (w.alloc (Obj.cells #[Value.int IntKind.i64 x0, Value.int IntKind.i64 x1, Value.int IntKind.i64 x2] 109))) := (Below.refl _ _).alloc (Nat.le_refl _) _
  unfold maxLen at hn2
  clear hn ha
  go_enter Tryd.func88, Tryd.ntmps88
  go_wp2
  go_loopw [8] (fun i wr => ∃ k : Nat, k ≤ n ∧ i = .int .i64 k ∧ (L.take k).any (fun a => hopB ((x0, x1), x2) a) = false ∧ Below w.heap.size w wr ∧ VAt wr w.heap.size 0 (hopE.c ((x0, x1), x2)))
    (fun i _ => n - (intOf i).toNat)
  case atStart => exact ⟨0, by omega, rfl, by simp, HB0.out, HC0⟩
  case round =>
    obtain ⟨k, hk, rfl, hno, hB, hC⟩ := hrel
    have HB : Hid (Below w.heap.size w wr) := hB
    have HC : Hid (VAt wr w.heap.size 0 (hopE.c ((x0, x1), x2))) := hC
    have HNO : Hid ((L.take k).any (fun a => hopB ((x0, x1), x2) a) = false) := hno
    clear hno HC0 HB0
    by_cases hlt : k < n
    · obtain ⟨g, og, hao, hc, _⟩ := HA.out (by omega)
      subst hao
      obtain ⟨y0, y1, y2, hkl, hL, q0, q1, q2⟩ := hop_at (hc.later hB) HN.out hlt
      have HL : Hid (L[k] = ((y0, y1), y2)) := hL
      obtain ⟨r0, r1, r2⟩ := hop_cells hC
      simp only [Nat.zero_add] at r0 r1 r2
      have HCE : Hid (hopCI wr w.heap.size x0 x1 x2 g (og + k * 3) y0 y1 y2 wr) := ⟨Below.refl _ _, ⟨r0, r1, r2⟩, q0, q1, q2⟩
      clear hL hB hC HA q0 q1 q2 r0 r1 r2
      go_upto_region 4 with fail
      have kb0 : (0 : Int) ≤ (k : Int) := by omega
      have kb1 : (k : Int) < (n : Int) := by omega
      go_cut [16] from 9 to 18 (fun c w' => c = .bool (hopB ((x0, x1), x2) ((y0, y1), y2)) ∧ Below wr.heap.size wr w')
      case first =>
        as_aux_lemma =>
          refine wp_region_quiet (C := hopCI wr w.heap.size x0 x1 x2 g (og + k * 3) y0 y1 y2) (by kernel_rfl) (by kernel_rfl) (hopCI.later (W := wr) (Below.drew (Below.refl _ _)) HCE.out) ?_
          simp only [List.toList_toArray]
          go_big_quiet_want
          refine quiet_val (v := .agg #[.int .i64 x0, .int .i64 x1, .int .i64 x2]) (fun w' hC => ?_) ?_
          · obtain ⟨z, ⟨z0, z1, z2⟩, u0, u1, u2⟩ := hC
            go_simp
          simp only [Act.put, List.setIfInBounds_toArray, List.set_cons_zero, List.set_cons_succ]
          go_big_quiet_on
          go_big_quiet_want
          refine quiet_val (v := .slice (some ⟨g, og, none⟩) n cap) (fun w' hC => ?_) ?_
          · obtain ⟨z, ⟨z0, z1, z2⟩, u0, u1, u2⟩ := hC
            go_simp
          simp only [Act.put, List.setIfInBounds_toArray, List.set_cons_zero, List.set_cons_succ]
          go_big_quiet_on
          go_big_quiet_want
          refine quiet_val (v := .int .i64 (k : Int)) (fun w' hC => ?_) ?_
          · obtain ⟨z, ⟨z0, z1, z2⟩, u0, u1, u2⟩ := hC
            go_simp
          simp only [Act.put, List.setIfInBounds_toArray, List.set_cons_zero, List.set_cons_succ]
          go_big_quiet_on
          go_big_quiet_want
          refine quiet_val (v := .pointer (some ⟨g, og + k * 3, none⟩)) (fun w' hC => ?_) ?_
          · obtain ⟨z, ⟨z0, z1, z2⟩, u0, u1, u2⟩ := hC
            go_simp
          simp only [Act.put, List.setIfInBounds_toArray, List.set_cons_zero, List.set_cons_succ]
          go_big_quiet_on
          go_big_quiet_want
          refine quiet_val (v := .agg #[.int .i64 y0, .int .i64 y1, .int .i64 y2]) (fun w' hC => ?_) ?_
          · obtain ⟨z, ⟨z0, z1, z2⟩, u0, u1, u2⟩ := hC
            go_simp
          simp only [Act.put, List.setIfInBounds_toArray, List.set_cons_zero, List.set_cons_succ]
          go_big_quiet_on
          go_big_quiet_want
          refine quiet_val (v := .bool (hopB ((x0, x1), x2) ((y0, y1), y2))) (fun w' hC => exec_bin rfl (by go_simp) (run_eql_of (hop_eq x0 x1 x2 y0 y1 y2 w'))) ?_
          simp only [Act.put, List.setIfInBounds_toArray, List.set_cons_zero, List.set_cons_succ]
          go_big_quiet_on
          refine wpQuiet_nil ?_
          intro w' hC
          go_wp2_with fail
          go_meet
          case rel => exact ⟨rfl, hC.1⟩
      case rest =>
        obtain ⟨rfl, hB2⟩ := hcut
        have HB2 : Hid (Below w.heap.size w wc) := HB.out.trans (hB2.mono HB.out.size)
        have HC2 : Hid (VAt wc w.heap.size 0 (hopE.c ((x0, x1), x2))) := HC.out.later hB2
        clear hB2
        cases ho : hopB ((x0, x1), x2) ((y0, y1), y2)
        · go_wp2
          go_roundw
          case rel => exact ⟨k + 1, by omega, by go_num, any_nextG hkl HNO.out (by rw [HL.out]; exact ho), HB2.out, HC2.out⟩
          case measure => simp [intOf]; omega
        · go_wp2
          go_ret
          exact ⟨by rw [ixG_hit hkl HNO.out (by rw [HL.out]; exact ho)]; rfl, HB2.out⟩
    · obtain rfl : k = n := by omega
      go_wp2
      go_ret
      exact ⟨by have := HNO.out; rw [← HN.out, List.take_length] at this; rw [ixG_no this]; rfl, HB.out⟩

end Go.Proofs.YtfbocionnjlilacDoor
/- What slices.Contains answers at hops. -/
namespace Go.Proofs.YtfbocionnjlilacDoor
open Go.RowKit
set_option linter.unusedSimpArgs false
set_option linter.unusedVariables false

set_option maxHeartbeats 1000000 in
set_option maxRecDepth 100000 in
theorem hop_has (ao : Option Addr) (n cap : Nat) (x y h : Int) (L : List ((Int × Int) × Int)) (w : World) (hs : GS hopE w (.slice ao n cap) L) :
    Calls Tryd.prog 75 #[.slice ao n cap, .agg #[.int .i64 x, .int .i64 y, .int .i64 h]] w fun e w' => e = .returned (.bool (L.any fun a => hopB ((x, y), h) a)) ∧ Below w.heap.size w w' := by
  obtain ⟨ao', n', cap', e, hn, hn2, hn3, ha⟩ := hs.form
  cases e
  have HN : Hid (L.length = n) := hn
  have hB0 : Below w.heap.size w (w.alloc (Obj.cells #[Value.int IntKind.i64 x, Value.int IntKind.i64 y, Value.int IntKind.i64 h] 109)) := (Below.refl _ _).alloc (Nat.le_refl _) _
  have HA : Hid (0 < n → ∃ g o, ao = some ⟨g, o, none⟩ ∧ GAt hopE w g o L ∧ cap ≤ maxLen) := ha
  have HB0 : Hid (Below w.heap.size w (w.alloc (Obj.cells #[Value.int IntKind.i64 x, Value.int IntKind.i64 y, Value.int IntKind.i64 h] 109))) := hB0
  have HM : Hid (n ≤ maxLen) := hn2
  have HX : Hid ((L.any fun a => hopB ((x, y), h) a) = decide (0 ≤ ixG (fun a => hopB ((x, y), h) a) L)) := (ixG_any L (fun a => hopB ((x, y), h) a)).symm
  rw [HX.out]
  clear hn ha hs hn2 hB0 HX
  obtain ⟨z, hz⟩ : ∃ z, z = ixG (fun a => hopB ((x, y), h) a) L := ⟨_, rfl⟩
  rw [← hz]
  have HX : Hid (z = ixG (fun a => hopB ((x, y), h) a) L) := hz
  clear hz
  go_enter Tryd.func75, Tryd.ntmps75
  go_wp2_with fail
  refine (hop_idx ao n cap x y h L _ HN.out HM.out (fun h0 => by
    obtain ⟨g, o, e1, e2, e3⟩ := HA.out h0
    exact ⟨g, o, e1, e2.later HB0.out, e3⟩)).mono ?_
  rintro e w2 ⟨rfl, hb2⟩
  have HB2 : Hid (Below w.heap.size w w2) := HB0.out.trans (hb2.mono HB0.out.size)
  rw [← HX.out]
  clear hb2
  go_wp2
  go_ret
  exact ⟨rfl, HB2.out⟩
end Go.Proofs.YtfbocionnjlilacDoor
/- What package slices answers at slices of api.Host. Written by mk/slices.py. -/
namespace Go.Proofs.YtfbocionnjlilacDoor
open Go.RowKit
set_option linter.unusedSimpArgs false
set_option linter.unusedVariables false

/-- A closure that asks something, in whatever world behind this one. -/
def hstAsks (w : World) (f : FuncId) (c : Value) (P : ByteArray × (Int × Int) → Bool) : Prop :=
  ∀ (x0 : ByteArray) (x1 : Int) (x2 : Int) (W : World), Below w.heap.size w W → Calls Tryd.prog f #[.agg #[.string x0, .int .i64 x1, .int .i64 x2], c] W fun e w' => e = .returned (.bool (P (x0, (x1, x2)))) ∧ Below W.heap.size W w'
theorem hstAsks.later {w w' : World} {f : FuncId} {c : Value} {P : ByteArray × (Int × Int) → Bool} (h : hstAsks w f c P) (hb : Below w.heap.size w w') : hstAsks w' f c P :=
  fun x0 x1 x2 W hW => h x0 x1 x2 W (hb.trans (hW.mono hb.size))

set_option maxHeartbeats 1000000 in
theorem hst_idxF (ao : Option Addr) (n cap : Nat) (f : FuncId) (c : Value) (P : ByteArray × (Int × Int) → Bool) (L : List (ByteArray × (Int × Int))) (w : World) (hn : L.length = n) (hn2 : n ≤ maxLen) (ha : 0 < n → ∃ g o, ao = some ⟨g, o, none⟩ ∧ GAt hstE w g o L ∧ cap ≤ maxLen) (he : ∀ args w, (callFunc f args).run Tryd.prog w = .ok (.enter f args) w) (hf : hstAsks w f c P) :
    Calls Tryd.prog 39 #[.slice ao n cap, .func (Fn.func f) #[] #[c]] w fun e w' => e = .returned (.int .i64 (ixG P L)) ∧ Below w.heap.size w w' := by
  have HN : Hid (L.length = n) := hn
  have HF : Hid (hstAsks w f c P) := hf
  have HA : Hid (0 < n → ∃ g o, ao = some ⟨g, o, none⟩ ∧ GAt hstE w g o L ∧ cap ≤ maxLen) := ha
  unfold maxLen at hn2
  clear hn hf ha
  go_enter Tryd.func39, Tryd.ntmps39
  go_wp2
  go_loopw [8] (fun i wr => ∃ k : Nat, k ≤ n ∧ i = .int .i64 k ∧ (L.take k).any P = false ∧ Below w.heap.size w wr)
    (fun i _ => n - (intOf i).toNat)
  case atStart => exact ⟨0, by omega, rfl, by simp, Below.refl _ _⟩
  case round =>
    obtain ⟨k, hk, rfl, hno, hB⟩ := hrel
    have HB : Hid (Below w.heap.size w wr) := hB
    have HNO : Hid ((L.take k).any P = false) := hno
    clear hno
    by_cases hlt : k < n
    · obtain ⟨g, o, hao, hc, _⟩ := HA.out (by omega)
      subst hao
      obtain ⟨x0, x1, x2, hkl, hL, q0, q1, q2⟩ := hst_at (hc.later hB) HN.out hlt
      have HL : Hid (L[k] = (x0, (x1, x2))) := hL
      clear hL hB
      cases ho : P (x0, (x1, x2))
      · go_wp2_with fail
        refine (HF.out x0 x1 x2 _ HB.out).mono ?_
        rintro e w1 ⟨rfl, hb1⟩
        rw [ho]
        have HB1 := HB.out.trans (hb1.mono HB.out.size)
        clear hb1
        go_wp2
        go_roundw
        case rel => exact ⟨k + 1, by omega, by go_num, any_nextG hkl HNO.out (by rw [HL.out]; exact ho), HB1⟩
        case measure => simp [intOf]; omega
      · go_wp2_with fail
        refine (HF.out x0 x1 x2 _ HB.out).mono ?_
        rintro e w1 ⟨rfl, hb1⟩
        rw [ho]
        go_wp2
        go_ret
        exact ⟨by rw [ixG_hit hkl HNO.out (by rw [HL.out]; exact ho)]; rfl, HB.out.trans (hb1.mono HB.out.size)⟩
    · obtain rfl : k = n := by omega
      go_wp2
      go_ret
      exact ⟨by have := HNO.out; rw [← HN.out, List.take_length] at this; rw [ixG_no this]; rfl, HB.out⟩

end Go.Proofs.YtfbocionnjlilacDoor
