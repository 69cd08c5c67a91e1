/- Contracts and facts on the way to NetTurns, joined into one text: RuleLook, RuleApply, StHop, NetStep1, NetMath2, LineMath, NetMath3, NetMath4, NetLegMath, TopoSpot, TopoPeers, TopoPeer. -/
import Derived.Test.YtpmcjelihdlfeaaDoorNetTurnsP3
import Derived.Test.YtpmcjelihdlfeaaDoorNetTurnsP1
import Derived.Test.YtpmcjelihdlfeaaDoorNetTurnsP2
import Derived.Test.YtpmcjelihdlfeaaDoorRows
import Derived.Lib.SmallJoins
import Derived.Laws.StructEq
import Derived.Maps.OwnOps
import Derived.BigRegion
import Derived.Deep.RegionWith
import Derived.Deep.CutRange
import Derived.Deep.CutBlock
import Derived.Carry
import Derived.WalkKit
import Derived.WalkSpells
import Derived.Below
/- What Lookup of package rule answers, called with any table and number. -/
namespace Go.Proofs.YtpmcjelihdlfeaaDoor
open Go.RowKit
set_option linter.unusedSimpArgs false

/-- A rule in a new block, in letters. -/
def CA (w : World) (g : Nat) (p m b o s v : Int) (w' : World) : Prop :=
  Below w.heap.size w w' ∧ w'.cell? ⟨g, 0, none⟩ = some (.int .i64 p) ∧ w'.cell? ⟨g, 1, none⟩ = some (.int .i64 m) ∧ w'.cell? ⟨g, 2, none⟩ = some (.int .i64 b) ∧
    w'.cell? ⟨g, 3, none⟩ = some (.int .i64 o) ∧ w'.cell? ⟨g, 4, none⟩ = some (.int .i64 s) ∧ w'.cell? ⟨g, 5, none⟩ = some (.int .i64 v)
theorem CA.later {w W W' : World} {g : Nat} {p m b o s v : Int} (hb : Below W.heap.size W W') (h : CA w g p m b o s v W) : CA w g p m b o s v W' := by
  obtain ⟨h0, h1, h2, h3, h4, h5, h6⟩ := h
  exact ⟨h0.trans (hb.mono h0.size), cell_later hb h1, cell_later hb h2, cell_later hb h3, cell_later hb h4, cell_later hb h5, cell_later hb h6⟩
/-- .. and another one at an address. -/
def CB (w : World) (g : Nat) (p m b o s v : Int) (g' o' : Nat) (p' m' b' q' s' v' : Int) (w' : World) : Prop :=
  (Below w.heap.size w w' ∧ w'.cell? ⟨g, 0, none⟩ = some (.int .i64 p) ∧ w'.cell? ⟨g, 1, none⟩ = some (.int .i64 m) ∧ w'.cell? ⟨g, 2, none⟩ = some (.int .i64 b) ∧
    w'.cell? ⟨g, 3, none⟩ = some (.int .i64 o) ∧ w'.cell? ⟨g, 4, none⟩ = some (.int .i64 s) ∧ w'.cell? ⟨g, 5, none⟩ = some (.int .i64 v)) ∧
  w'.cell? ⟨g', o', none⟩ = some (.int .i64 p') ∧ w'.cell? ⟨g', o' + 1, none⟩ = some (.int .i64 m') ∧ w'.cell? ⟨g', o' + 2, none⟩ = some (.int .i64 b') ∧
    w'.cell? ⟨g', o' + 3, none⟩ = some (.int .i64 q') ∧ w'.cell? ⟨g', o' + 4, none⟩ = some (.int .i64 s') ∧ w'.cell? ⟨g', o' + 5, none⟩ = some (.int .i64 v')
theorem CB.later {w W W' : World} {g : Nat} {p m b o s v : Int} {g' o' : Nat} {p' m' b' q' s' v' : Int} (hb : Below W.heap.size W W') (h : CB w g p m b o s v g' o' p' m' b' q' s' v' W) : CB w g p m b o s v g' o' p' m' b' q' s' v' W' := by
  obtain ⟨h0, h1, h2, h3, h4, h5, h6⟩ := h
  exact ⟨CA.later hb h0, cell_later hb h1, cell_later hb h2, cell_later hb h3, cell_later hb h4, cell_later hb h5, cell_later hb h6⟩

/-- Does a rule count that has the header, behind one at x that it is held against? -/
def cntB (m b h x y : Int) : Bool := hasB m b h && (decide (x < 0) || decide (0 < y))
theorem be_next {L : List Ru} {h : Int} {k : Nat} (x : Int) (hx : x = beTo L h k) (y : Bool) (hy : ((L.getD k zeR).has h && (decide (x < 0) || decide (0 < ordR (L.getD k zeR) (L.getD x.toNat zeR)))) = y) : beTo L h (k + 1) = if y then (k : Int) else x := by
  subst hx
  rw [beTo, hy]

set_option maxHeartbeats 1000000 in
theorem counting_some (g o cap n : Nat) (h : Int) (L : List Ru) (w : World) (hc : RAt w g o L) (hn : L.length = n) (hcap2 : n ≤ maxLen) :
    Calls Tryd.prog 59 #[.slice (some ⟨g, o, none⟩) n cap, .int .i64 h] w fun e w' => e = .returned (.int .i64 (beTo L h n)) ∧ Below w.heap.size w w' := by
  have HN : Hid (L.length = n) := hn
  unfold maxLen at hcap2
  clear hn
  go_enter Tryd.func59, Tryd.ntmps59
  go_wp2
  go_loopw [5, 10] (fun x i wr => ∃ k : Nat, k ≤ n ∧ x = .int .i64 (beTo L h k) ∧ i = .int .i64 k ∧ Below w.heap.size w wr) (fun _ i _ => n - (intOf i).toNat)
  case atStart => exact ⟨0, by omega, rfl, rfl, Below.refl _ _⟩
  case round =>
    obtain ⟨k, hk, rfl, rfl, hB⟩ := hrel
    have hbd := be_bd L h k
    generalize hx : beTo L h k = x at *
    have HX : Hid (x = beTo L h k) := hx.symm
    obtain ⟨x0, x1⟩ := hbd
    clear hx
    have HB : Hid (Below w.heap.size w wr) := hB
    by_cases hlt : k < n
    · obtain ⟨p, m, b, q, s, v, hkl, hL, q0, q1, q2, q3, q4, q5⟩ := (hc.later hB).at HN.out hlt
      have HK : Hid (L.getD k zeR = ⟨p, m, b, q, s, v⟩) := (getD_at hkl).trans hL
      have HA : Hid (CA wr wr.heap.size p m b q s v (wr.alloc (Obj.cells #[Value.int IntKind.i64 p, Value.int IntKind.i64 m, Value.int IntKind.i64 b, Value.int IntKind.i64 q, Value.int IntKind.i64 s, Value.int IntKind.i64 v] 47))) := by
        refine ⟨(Below.refl _ _).alloc (Nat.le_refl _) _, ?_, ?_, ?_, ?_, ?_, ?_⟩ <;> simp
      have HCC : Hid (RAt wr g o L) := hc.later hB
      clear hL hB
      go_upto_region 5 with fail
      clear q0 q1 q2 q3 q4 q5
      go_cut [10, 31] from 10 to 33 (fun i c w' => i = .int .i64 k ∧ c = .bool (cntB m b h x (ordR ⟨p, m, b, q, s, v⟩ (L.getD x.toNat zeR))) ∧ Below wr.heap.size wr w')
      case first =>
        have hS0 := HA.out
        clear HA
        have HW0 : Hid (Below wr.heap.size wr (wr.alloc (Obj.cells #[Value.int IntKind.i64 p, Value.int IntKind.i64 m, Value.int IntKind.i64 b, Value.int IntKind.i64 q, Value.int IntKind.i64 s, Value.int IntKind.i64 v] 47))) := (Below.refl _ _).alloc (Nat.le_refl _) _
        have HW0 : Hid (Below wr.heap.size wr (wr.alloc (Obj.cells #[Value.int IntKind.i64 p, Value.int IntKind.i64 m, Value.int IntKind.i64 b, Value.int IntKind.i64 q, Value.int IntKind.i64 s, Value.int IntKind.i64 v] 47))) := (Below.refl _ _).alloc (Nat.le_refl _) _
        generalize (wr.alloc (Obj.cells #[Value.int IntKind.i64 p, Value.int IntKind.i64 m, Value.int IntKind.i64 b, Value.int IntKind.i64 q, Value.int IntKind.i64 s, Value.int IntKind.i64 v] 47)) = W0 at *
        cases hh : hasB m b h
        · refine wp_region_quiet (C := CA wr wr.heap.size p m b q s v) (by kernel_rfl) (by kernel_rfl) (CA.later (W := W0) (Below.drew (Below.refl _ _)) hS0) ?_
          simp only [List.toList_toArray]
          go_big_quiet_want
          refine quiet_val (v := .pointer (some ⟨wr.heap.size, 1, none⟩)) (fun w' hC => ?_) ?_
          · obtain ⟨z0, z1, z2, z3, z4, z5, z6⟩ := hC
            go_simp
          simp only [Act.put, List.setIfInBounds_toArray, List.set_cons_zero, List.set_cons_succ]
          go_big_quiet_on
          go_big_quiet_want
          refine quiet_val (v := .agg #[.int .i64 m, .int .i64 b]) (fun w' hC => ?_) ?_
          · obtain ⟨z0, z1, z2, z3, z4, z5, z6⟩ := hC
            go_simp
          simp only [Act.put, List.setIfInBounds_toArray, List.set_cons_zero, List.set_cons_succ]
          go_big_quiet_on
          go_big_quiet_want
          refine quiet_val (v := .int .i64 h) (fun w' hC => ?_) ?_
          · obtain ⟨z0, z1, z2, z3, z4, z5, z6⟩ := hC
            go_simp
          simp only [Act.put, List.setIfInBounds_toArray, List.set_cons_zero, List.set_cons_succ]
          go_big_quiet_on
          go_big_quiet_want
          refine quiet_call (f := 79) (args := #[.agg #[.int .i64 m, .int .i64 b], .int .i64 h]) (v := .bool false) (fun w' => ?_) (fun w' hC => (has_any m b h w').mono (fun e w2 h2 => ⟨by rw [h2.1, hh], CA.later h2.2 hC⟩)) ?_
          · go_simp
          simp only [Act.put, List.setIfInBounds_toArray, List.set_cons_zero, List.set_cons_succ]
          go_big_quiet_on
          go_big_quiet_want
          refine quiet_val (v := .bool false) (fun w' hC => ?_) ?_
          · obtain ⟨z0, z1, z2, z3, z4, z5, z6⟩ := hC
            go_simp
          simp only [Act.put, List.setIfInBounds_toArray, List.set_cons_zero, List.set_cons_succ]
          go_big_quiet_on
          go_big_quiet_skip
          go_big_quiet_skip
          go_big_quiet_skip
          go_big_quiet_skip
          go_big_quiet_skip
          go_big_quiet_skip
          go_big_quiet_skip
          go_big_quiet_skip
          go_big_quiet_skip
          go_big_quiet_skip
          go_big_quiet_skip
          go_big_quiet_want
          refine quiet_val (v := .bool false) (fun w' hC => ?_) ?_
          · obtain ⟨z0, z1, z2, z3, z4, z5, z6⟩ := hC
            go_simp
          simp only [Act.put, List.setIfInBounds_toArray, List.set_cons_zero, List.set_cons_succ]
          go_big_quiet_on
          refine wpQuiet_nil ?_
          intro w' hC
          go_wp2_with fail
          go_meet
          case rel => exact ⟨rfl, by simp [cntB, hh], hC.1⟩
        · by_cases hx0 : x < 0
          · have hx1 : decide (x < 0) = true := by simpa using hx0
            refine wp_region_quiet (C := CA wr wr.heap.size p m b q s v) (by kernel_rfl) (by kernel_rfl) (CA.later (W := W0) (Below.drew (Below.refl _ _)) hS0) ?_
            simp only [List.toList_toArray]
            go_big_quiet_want
            refine quiet_val (v := .pointer (some ⟨wr.heap.size, 1, none⟩)) (fun w' hC => ?_) ?_
            · obtain ⟨z0, z1, z2, z3, z4, z5, z6⟩ := hC
              go_simp
            simp only [Act.put, List.setIfInBounds_toArray, List.set_cons_zero, List.set_cons_succ]
            go_big_quiet_on
            go_big_quiet_want
            refine quiet_val (v := .agg #[.int .i64 m, .int .i64 b]) (fun w' hC => ?_) ?_
            · obtain ⟨z0, z1, z2, z3, z4, z5, z6⟩ := hC
              go_simp
            simp only [Act.put, List.setIfInBounds_toArray, List.set_cons_zero, List.set_cons_succ]
            go_big_quiet_on
            go_big_quiet_want
            refine quiet_val (v := .int .i64 h) (fun w' hC => ?_) ?_
            · obtain ⟨z0, z1, z2, z3, z4, z5, z6⟩ := hC
              go_simp
            simp only [Act.put, List.setIfInBounds_toArray, List.set_cons_zero, List.set_cons_succ]
            go_big_quiet_on
            go_big_quiet_want
            refine quiet_call (f := 79) (args := #[.agg #[.int .i64 m, .int .i64 b], .int .i64 h]) (v := .bool true) (fun w' => ?_) (fun w' hC => (has_any m b h w').mono (fun e w2 h2 => ⟨by rw [h2.1, hh], CA.later h2.2 hC⟩)) ?_
            · go_simp
            simp only [Act.put, List.setIfInBounds_toArray, List.set_cons_zero, List.set_cons_succ]
            go_big_quiet_on
            go_big_quiet_want
            refine quiet_val (v := .bool true) (fun w' hC => ?_) ?_
            · obtain ⟨z0, z1, z2, z3, z4, z5, z6⟩ := hC
              go_simp
            simp only [Act.put, List.setIfInBounds_toArray, List.set_cons_zero, List.set_cons_succ]
            go_big_quiet_on
            go_big_quiet_want
            refine quiet_val (v := .int .i64 x) (fun w' hC => ?_) ?_
            · obtain ⟨z0, z1, z2, z3, z4, z5, z6⟩ := hC
              go_simp
            simp only [Act.put, List.setIfInBounds_toArray, List.set_cons_zero, List.set_cons_succ]
            go_big_quiet_on
            go_big_quiet_want
            refine quiet_val (v := .bool true) (fun w' hC => ?_) ?_
            · obtain ⟨z0, z1, z2, z3, z4, z5, z6⟩ := hC
              go_simp
            simp only [Act.put, List.setIfInBounds_toArray, List.set_cons_zero, List.set_cons_succ]
            go_big_quiet_on
            go_big_quiet_want
            refine quiet_val (v := .bool true) (fun w' hC => ?_) ?_
            · obtain ⟨z0, z1, z2, z3, z4, z5, z6⟩ := hC
              go_simp
            simp only [Act.put, List.setIfInBounds_toArray, List.set_cons_zero, List.set_cons_succ]
            go_big_quiet_on
            go_big_quiet_skip
            go_big_quiet_skip
            go_big_quiet_skip
            go_big_quiet_skip
            go_big_quiet_skip
            go_big_quiet_skip
            go_big_quiet_skip
            go_big_quiet_want
            refine quiet_val (v := .bool true) (fun w' hC => ?_) ?_
            · obtain ⟨z0, z1, z2, z3, z4, z5, z6⟩ := hC
              go_simp
            simp only [Act.put, List.setIfInBounds_toArray, List.set_cons_zero, List.set_cons_succ]
            go_big_quiet_on
            go_big_quiet_want
            refine quiet_val (v := .bool true) (fun w' hC => ?_) ?_
            · obtain ⟨z0, z1, z2, z3, z4, z5, z6⟩ := hC
              go_simp
            simp only [Act.put, List.setIfInBounds_toArray, List.set_cons_zero, List.set_cons_succ]
            go_big_quiet_on
            refine wpQuiet_nil ?_
            intro w' hC
            go_wp2_with fail
            go_meet
            case rel => exact ⟨rfl, by simp [cntB, hh, hx0], hC.1⟩
          · obtain ⟨y, hy⟩ : ∃ y : Nat, x = (y : Int) := ⟨x.toNat, by omega⟩
            have hx2 : decide ((y : Int) < 0) = false := by simp
            subst hy
            obtain ⟨p2, m2, b2, q2, s2, v2, hyl, hLy, y0, y1, y2, y3, y4, y5⟩ := HCC.out.at HN.out (show y < n by omega)
            have HYL : Hid (L.getD ((y : Nat) : Int).toNat zeR = ⟨p2, m2, b2, q2, s2, v2⟩) := by
              show L.getD ((y : Nat) : Int).toNat zeR = _
              rw [Int.toNat_natCast, getD_at hyl, hLy]
            have yb0 : (0 : Int) ≤ (y : Int) := by omega
            have yb1 : ((y : Int)) < (n : Int) := by omega
            have hS1 : CB wr wr.heap.size p m b q s v g (o + y * 6) p2 m2 b2 q2 s2 v2 W0 := ⟨hS0, cell_later HW0.out y0, cell_later HW0.out y1, cell_later HW0.out y2, cell_later HW0.out y3, cell_later HW0.out y4, cell_later HW0.out y5⟩
            clear y0 y1 y2 y3 y4 y5 hLy hS0
            have hS0 := hS1
            clear hS1
            refine wp_region_quiet (C := CB wr wr.heap.size p m b q s v g (o + y * 6) p2 m2 b2 q2 s2 v2) (by kernel_rfl) (by kernel_rfl) (CB.later (W := W0) (Below.drew (Below.refl _ _)) hS0) ?_
            simp only [List.toList_toArray]
            go_big_quiet_want
            refine quiet_val (v := .pointer (some ⟨wr.heap.size, 1, none⟩)) (fun w' hC => ?_) ?_
            · obtain ⟨⟨z0, z1, z2, z3, z4, z5, z6⟩, y1, y2, y3, y4, y5, y6⟩ := hC
              go_simp
            simp only [Act.put, List.setIfInBounds_toArray, List.set_cons_zero, List.set_cons_succ]
            go_big_quiet_on
            go_big_quiet_want
            refine quiet_val (v := .agg #[.int .i64 m, .int .i64 b]) (fun w' hC => ?_) ?_
            · obtain ⟨⟨z0, z1, z2, z3, z4, z5, z6⟩, y1, y2, y3, y4, y5, y6⟩ := hC
              go_simp
            simp only [Act.put, List.setIfInBounds_toArray, List.set_cons_zero, List.set_cons_succ]
            go_big_quiet_on
            go_big_quiet_want
            refine quiet_val (v := .int .i64 h) (fun w' hC => ?_) ?_
            · obtain ⟨⟨z0, z1, z2, z3, z4, z5, z6⟩, y1, y2, y3, y4, y5, y6⟩ := hC
              go_simp
            simp only [Act.put, List.setIfInBounds_toArray, List.set_cons_zero, List.set_cons_succ]
            go_big_quiet_on
            go_big_quiet_want
            refine quiet_call (f := 79) (args := #[.agg #[.int .i64 m, .int .i64 b], .int .i64 h]) (v := .bool true) (fun w' => ?_) (fun w' hC => (has_any m b h w').mono (fun e w2 h2 => ⟨by rw [h2.1, hh], CB.later h2.2 hC⟩)) ?_
            · go_simp
            simp only [Act.put, List.setIfInBounds_toArray, List.set_cons_zero, List.set_cons_succ]
            go_big_quiet_on
            go_big_quiet_want
            refine quiet_val (v := .bool true) (fun w' hC => ?_) ?_
            · obtain ⟨⟨z0, z1, z2, z3, z4, z5, z6⟩, y1, y2, y3, y4, y5, y6⟩ := hC
              go_simp
            simp only [Act.put, List.setIfInBounds_toArray, List.set_cons_zero, List.set_cons_succ]
            go_big_quiet_on
            go_big_quiet_want
            refine quiet_val (v := .int .i64 (y : Int)) (fun w' hC => ?_) ?_
            · obtain ⟨⟨z0, z1, z2, z3, z4, z5, z6⟩, y1, y2, y3, y4, y5, y6⟩ := hC
              go_simp
            simp only [Act.put, List.setIfInBounds_toArray, List.set_cons_zero, List.set_cons_succ]
            go_big_quiet_on
            go_big_quiet_want
            refine quiet_val (v := .bool false) (fun w' hC => ?_) ?_
            · obtain ⟨⟨z0, z1, z2, z3, z4, z5, z6⟩, y1, y2, y3, y4, y5, y6⟩ := hC
              go_simp
            simp only [Act.put, List.setIfInBounds_toArray, List.set_cons_zero, List.set_cons_succ]
            go_big_quiet_on
            go_big_quiet_want
            refine quiet_val (v := .bool false) (fun w' hC => ?_) ?_
            · obtain ⟨⟨z0, z1, z2, z3, z4, z5, z6⟩, y1, y2, y3, y4, y5, y6⟩ := hC
              go_simp
            simp only [Act.put, List.setIfInBounds_toArray, List.set_cons_zero, List.set_cons_succ]
            go_big_quiet_on
            go_big_quiet_want
            refine quiet_val (v := .agg #[.int .i64 p, .int .i64 m, .int .i64 b, .int .i64 q, .int .i64 s, .int .i64 v]) (fun w' hC => ?_) ?_
            · obtain ⟨⟨z0, z1, z2, z3, z4, z5, z6⟩, y1, y2, y3, y4, y5, y6⟩ := hC
              go_simp
            simp only [Act.put, List.setIfInBounds_toArray, List.set_cons_zero, List.set_cons_succ]
            go_big_quiet_on
            go_big_quiet_want
            refine quiet_val (v := .slice (some ⟨g, o, none⟩) n cap) (fun w' hC => ?_) ?_
            · obtain ⟨⟨z0, z1, z2, z3, z4, z5, z6⟩, y1, y2, y3, y4, y5, y6⟩ := hC
              go_simp
            simp only [Act.put, List.setIfInBounds_toArray, List.set_cons_zero, List.set_cons_succ]
            go_big_quiet_on
            go_big_quiet_want
            refine quiet_val (v := .int .i64 (y : Int)) (fun w' hC => ?_) ?_
            · obtain ⟨⟨z0, z1, z2, z3, z4, z5, z6⟩, y1, y2, y3, y4, y5, y6⟩ := hC
              go_simp
            simp only [Act.put, List.setIfInBounds_toArray, List.set_cons_zero, List.set_cons_succ]
            go_big_quiet_on
            go_big_quiet_want
            refine quiet_val (v := .pointer (some ⟨g, o + y * 6, none⟩)) (fun w' hC => ?_) ?_
            · obtain ⟨⟨z0, z1, z2, z3, z4, z5, z6⟩, y1, y2, y3, y4, y5, y6⟩ := hC
              go_simp
            simp only [Act.put, List.setIfInBounds_toArray, List.set_cons_zero, List.set_cons_succ]
            go_big_quiet_on
            go_big_quiet_want
            refine quiet_val (v := .agg #[.int .i64 p2, .int .i64 m2, .int .i64 b2, .int .i64 q2, .int .i64 s2, .int .i64 v2]) (fun w' hC => ?_) ?_
            · obtain ⟨⟨z0, z1, z2, z3, z4, z5, z6⟩, y1, y2, y3, y4, y5, y6⟩ := hC
              go_simp
            simp only [Act.put, List.setIfInBounds_toArray, List.set_cons_zero, List.set_cons_succ]
            go_big_quiet_on
            go_big_quiet_want
            refine quiet_call (f := 80) (args := #[.agg #[.int .i64 p, .int .i64 m, .int .i64 b, .int .i64 q, .int .i64 s, .int .i64 v], .agg #[.int .i64 p2, .int .i64 m2, .int .i64 b2, .int .i64 q2, .int .i64 s2, .int .i64 v2]]) (v := .int .i64 (ordN p m b p2 m2 b2)) (fun w' => ?_) (fun w' hC => (order_any p m b q s v p2 m2 b2 q2 s2 v2 w').mono (fun e w2 h2 => ⟨h2.1, CB.later h2.2 hC⟩)) ?_
            · go_simp
            simp only [Act.put, List.setIfInBounds_toArray, List.set_cons_zero, List.set_cons_succ]
            go_big_quiet_on
            go_big_quiet_want
            refine quiet_val (v := .bool (decide (0 < ordN p m b p2 m2 b2))) (fun w' hC => ?_) ?_
            · obtain ⟨⟨z0, z1, z2, z3, z4, z5, z6⟩, y1, y2, y3, y4, y5, y6⟩ := hC
              go_simp
            simp only [Act.put, List.setIfInBounds_toArray, List.set_cons_zero, List.set_cons_succ]
            go_big_quiet_on
            go_big_quiet_want
            refine quiet_val (v := .bool (decide (0 < ordN p m b p2 m2 b2))) (fun w' hC => ?_) ?_
            · obtain ⟨⟨z0, z1, z2, z3, z4, z5, z6⟩, y1, y2, y3, y4, y5, y6⟩ := hC
              go_simp
            simp only [Act.put, List.setIfInBounds_toArray, List.set_cons_zero, List.set_cons_succ]
            go_big_quiet_on
            go_big_quiet_want
            refine quiet_val (v := .bool (decide (0 < ordN p m b p2 m2 b2))) (fun w' hC => ?_) ?_
            · obtain ⟨⟨z0, z1, z2, z3, z4, z5, z6⟩, y1, y2, y3, y4, y5, y6⟩ := hC
              go_simp
            simp only [Act.put, List.setIfInBounds_toArray, List.set_cons_zero, List.set_cons_succ]
            go_big_quiet_on
            refine wpQuiet_nil ?_
            intro w' hC
            go_wp2_with fail
            go_meet
            case rel => exact ⟨rfl, by rw [HYL.out]; simp [cntB, hh, hx2, ordR]; first | rfl | exact decide_eq_decide.2 Iff.rfl, hC.1.1⟩
      case rest =>
        obtain ⟨rfl, hc2, hB2⟩ := hcut
        have HB1 := HB.out.trans (hB2.mono HB.out.size)
        have HY := be_next (L := L) (h := h) (k := k) x HX.out _ rfl
        rw [HK.out] at HY
        have HYY : Hid (beTo L h (k + 1) = if cntB m b h x (ordR ⟨p, m, b, q, s, v⟩ (L.getD x.toNat zeR)) then (k : Int) else x) := HY
        clear HY hB2 HA HCC
        generalize cntB m b h x (ordR ⟨p, m, b, q, s, v⟩ (L.getD x.toNat zeR)) = Y at *
        subst hc2
        cases Y
        · go_wp2
          go_roundw
          case rel => exact ⟨k + 1, by omega, by rw [HYY.out]; rfl, by go_num, HB1⟩
          case measure => simp [intOf]; omega
        · go_wp2
          go_roundw
          case rel => exact ⟨k + 1, by omega, by rw [HYY.out]; rfl, by go_num, HB1⟩
          case measure => simp [intOf]; omega
    · obtain rfl : k = n := by omega
      go_wp2
      go_ret
      exact ⟨by rw [← HX.out]; rfl, HB.out⟩

set_option maxHeartbeats 1000000 in
theorem counting_nil (ao : Option Addr) (cap : Nat) (h : Int) (w : World) :
    Calls Tryd.prog 59 #[.slice ao 0 cap, .int .i64 h] w fun e w' => e = .returned (.int .i64 (-1)) ∧ Below w.heap.size w w' := by
  go_enter Tryd.func59, Tryd.ntmps59
  go_wp2
  go_loopw [5, 10] (fun x i wr => x = .int .i64 (-1) ∧ i = .int .i64 0 ∧ wr = w) (fun _ i _ => 0)
  case atStart => exact ⟨rfl, rfl, rfl⟩
  case round =>
    obtain ⟨rfl, rfl, rfl⟩ := hrel
    go_wp2
    go_ret
    exact ⟨rfl, Below.refl _ _⟩

theorem counting_any (x : Value) (L : List Ru) (h : Int) (w : World) (hs : SR w x L) :
    Calls Tryd.prog 59 #[x, .int .i64 h] w fun e w' => e = .returned (.int .i64 (beTo L h L.length)) ∧ Below w.heap.size w w' := by
  rcases hs with ⟨ao, cap, rfl, rfl⟩ | ⟨g, o, cap, rfl, h1, h2, hc⟩
  · exact counting_nil ao cap h w
  · exact counting_some g o cap _ h L w hc rfl (Nat.le_trans h1 h2)

end Go.Proofs.YtpmcjelihdlfeaaDoor
/- What Apply of package rule answers, called with any rule and header. -/
namespace Go.Proofs.YtpmcjelihdlfeaaDoor
open Go.RowKit
set_option linter.unusedSimpArgs false

set_option maxHeartbeats 1000000 in
theorem apply_any (p m b o s v h : Int) (w : World) :
    Calls Tryd.prog 60 #[.agg #[.int .i64 p, .int .i64 m, .int .i64 b, .int .i64 o, .int .i64 s, .int .i64 v], .int .i64 h] w fun e w' => e = .returned (.tuple #[.int .i64 (apR p m b o s v h), noV (apN p m b o s v h)]) ∧ Below w.heap.size w w' := by
  cases hr : ruOk p m b o s v
  · have hn := ruN_ne hr
    rw [apR_bad (by rw [apN_bad h hr]; exact hn), apN_bad h hr, no_ne hn]
    go_enter Tryd.func60, Tryd.ntmps60
    go_wp2_with fail
    refine (ruCheck_any _ _ _ _ _ _ _).mono ?_
    rintro e w1 ⟨rfl, hb1⟩
    rw [no_ne hn]
    go_wp2
    refine bodyPost_ret (v := .tuple #[.int .i64 0, .iface 75 (.int .i64 (ruN p m b o s v))]) (by simp [results, Tryd.results60, go_sem]) rfl ⟨rfl, ?_⟩
    exact ((Below.refl _ _).alloc (Nat.le_refl _) _).trans (hb1.mono (by simp))
  · have hn := ruN_ok hr
    cases hh : hdrB h
    · have e : apN p m b o s v h = 1 := by simp [apN, hr, hh]
      rw [apR_bad (by rw [e]; decide), e]
      clear e
      go_enter Tryd.func60, Tryd.ntmps60
      go_wp2_with fail
      refine (ruCheck_any _ _ _ _ _ _ _).mono ?_
      rintro e w1 ⟨rfl, hb1⟩
      rw [no_ok hn]
      go_wp2_with fail
      refine (isHeader_no _ _ hh).mono ?_
      rintro e w' ⟨rfl, rfl⟩
      go_wp2
      refine bodyPost_ret (v := .tuple #[.int .i64 0, .iface 75 (.int .i64 1)]) (by simp [results, Tryd.results60, go_sem]) rfl ⟨rfl, ?_⟩
      exact ((Below.refl _ _).alloc (Nat.le_refl _) _).trans (hb1.mono (by simp))
    · have hlt : w.heap.size < (w.alloc (Obj.cells #[Value.int IntKind.i64 p, Value.int IntKind.i64 m, Value.int IntKind.i64 b, Value.int IntKind.i64 o, Value.int IntKind.i64 s, Value.int IntKind.i64 v] 47)).heap.size := by simp
      cases ha : hasB m b h
      · have e : apN p m b o s v h = 5 := by simp [apN, hr, hh, ha]
        rw [apR_bad (by rw [e]; decide), e]
        clear e
        go_enter Tryd.func60, Tryd.ntmps60
        go_wp2_with fail
        refine (ruCheck_any _ _ _ _ _ _ _).mono ?_
        rintro e w1 ⟨rfl, hb1⟩
        rw [no_ok hn]
        obtain ⟨hc1, hf1⟩ := bcell hb1
        have hB := ((Below.refl w.heap.size w).alloc (Nat.le_refl _) (Obj.cells #[Value.int IntKind.i64 p, Value.int IntKind.i64 m, Value.int IntKind.i64 b, Value.int IntKind.i64 o, Value.int IntKind.i64 s, Value.int IntKind.i64 v] 47)).trans (hb1.mono (by simp))
        have hlt2 : w.heap.size < w1.heap.size := by have := hb1.size; omega
        clear hb1
        go_wp2_with fail
        refine (isHeader_yes _ _ hh).mono ?_
        rintro e w' ⟨rfl, rfl⟩
        go_wp2_with fail
        refine (has_any _ _ _ _).mono ?_
        rintro e w2 ⟨rfl, hb2⟩
        rw [ha]
        obtain ⟨hc2, hf2⟩ := bcell hb2
        have hB2 := hB.trans (hb2.mono (by omega))
        clear hb2 hB
        go_wp2
        refine bodyPost_ret (v := .tuple #[.int .i64 0, .iface 75 (.int .i64 5)]) (by simp [results, Tryd.results60, go_sem]) rfl ⟨rfl, ?_⟩
        exact hB2
      · cases ho : (o == 0)
        · have e : apN p m b o s v h = 0 := by simp [apN, hr, hh, ha, ho]
          have e2 : apR p m b o s v h = apV s v h := by simp [apR, e]
          rw [e2, e]
          clear e e2
          go_enter Tryd.func60, Tryd.ntmps60
          go_wp2_with fail
          refine (ruCheck_any _ _ _ _ _ _ _).mono ?_
          rintro e w1 ⟨rfl, hb1⟩
          rw [no_ok hn]
          obtain ⟨hc1, hf1⟩ := bcell hb1
          have hB := ((Below.refl w.heap.size w).alloc (Nat.le_refl _) (Obj.cells #[Value.int IntKind.i64 p, Value.int IntKind.i64 m, Value.int IntKind.i64 b, Value.int IntKind.i64 o, Value.int IntKind.i64 s, Value.int IntKind.i64 v] 47)).trans (hb1.mono (by simp))
          have hlt2 : w.heap.size < w1.heap.size := by have := hb1.size; omega
          clear hb1
          go_wp2_with fail
          refine (isHeader_yes _ _ hh).mono ?_
          rintro e w' ⟨rfl, rfl⟩
          go_wp2_with fail
          refine (has_any _ _ _ _).mono ?_
          rintro e w2 ⟨rfl, hb2⟩
          rw [ha]
          obtain ⟨hc2, hf2⟩ := bcell hb2
          have hB2 := hB.trans (hb2.mono (by omega))
          clear hb2 hB
          go_wp2
          refine bodyPost_ret (v := .tuple #[.int .i64 (apV s v h), .nilIface]) (by simp [results, Tryd.results60, go_sem, apV]) rfl ⟨rfl, ?_⟩
          exact hB2
        · have e : apN p m b o s v h = 5 := by simp [apN, hr, hh, ha, ho]
          rw [apR_bad (by rw [e]; decide), e]
          clear e
          go_enter Tryd.func60, Tryd.ntmps60
          go_wp2_with fail
          refine (ruCheck_any _ _ _ _ _ _ _).mono ?_
          rintro e w1 ⟨rfl, hb1⟩
          rw [no_ok hn]
          obtain ⟨hc1, hf1⟩ := bcell hb1
          have hB := ((Below.refl w.heap.size w).alloc (Nat.le_refl _) (Obj.cells #[Value.int IntKind.i64 p, Value.int IntKind.i64 m, Value.int IntKind.i64 b, Value.int IntKind.i64 o, Value.int IntKind.i64 s, Value.int IntKind.i64 v] 47)).trans (hb1.mono (by simp))
          have hlt2 : w.heap.size < w1.heap.size := by have := hb1.size; omega
          clear hb1
          go_wp2_with fail
          refine (isHeader_yes _ _ hh).mono ?_
          rintro e w' ⟨rfl, rfl⟩
          go_wp2_with fail
          refine (has_any _ _ _ _).mono ?_
          rintro e w2 ⟨rfl, hb2⟩
          rw [ha]
          obtain ⟨hc2, hf2⟩ := bcell hb2
          have hB2 := hB.trans (hb2.mono (by omega))
          clear hb2 hB
          go_wp2
          refine bodyPost_ret (v := .tuple #[.int .i64 0, .iface 75 (.int .i64 5)]) (by simp [results, Tryd.results60, go_sem]) rfl ⟨rfl, ?_⟩
          exact hB2
end Go.Proofs.YtpmcjelihdlfeaaDoor
/- The struct api.Hop: its cells, slices of them, == of two, such that came in. Written by mk/struct.py. -/
namespace Go.Proofs.YtpmcjelihdlfeaaDoor
open Go.ChangeShapes Go.WideShapes Go.ChangeAt Go.RowKit Go.Joins
set_option linter.unusedSimpArgs false
set_option linter.unusedVariables false
set_option maxRecDepth 100000

def hopE : Enc ((Int × Int) × Int) where
  c := fun x => [.int .i64 x.1.1, .int .i64 x.1.2, .int .i64 x.2]
  n := 3
  len := fun _ => rfl
  pos := by decide
  one := by
    intro x u hu
    simp at hu
    rcases hu with rfl | rfl | rfl <;> rfl
theorem hop_cells {w : World} {g o : Nat} {x0 : Int} {x1 : Int} {x2 : Int} (h : VAt w g o (hopE.c ((x0, x1), x2))) : w.cell? ⟨g, o, none⟩ = some (.int .i64 x0) ∧ w.cell? ⟨g, o + 1, none⟩ = some (.int .i64 x1) ∧ w.cell? ⟨g, o + 2, none⟩ = some (.int .i64 x2) :=
  ⟨h 0 _ rfl, h 1 _ rfl, h 2 _ rfl⟩
theorem hop_at {w : World} {g o : Nat} {L : List ((Int × Int) × Int)} (h : GAt hopE w g o L) {n k : Nat} (hn : L.length = n) (hk : k < n) :
    ∃ (x0 : Int) (x1 : Int) (x2 : Int) (hl : k < L.length), L[k] = ((x0, x1), x2) ∧ w.cell? ⟨g, o + k * 3, none⟩ = some (.int .i64 x0) ∧ w.cell? ⟨g, o + k * 3 + 1, none⟩ = some (.int .i64 x1) ∧ w.cell? ⟨g, o + k * 3 + 2, none⟩ = some (.int .i64 x2) :=
  have hl : k < L.length := by omega
  ⟨_, _, _, hl, rfl, hop_cells (h k hl)⟩
theorem hop_new (w : World) (x0 : Int) (x1 : Int) (x2 : Int) (t : TypeId) : VAt (w.alloc (Obj.cells #[.int .i64 x0, .int .i64 x1, .int .i64 x2] t)) w.heap.size 0 (hopE.c ((x0, x1), x2)) := vat_new w [.int .i64 x0, .int .i64 x1, .int .i64 x2] t
theorem hop_row (w : World) (x0 : Int) (x1 : Int) (x2 : Int) (t : TypeId) : GS hopE (w.alloc (Obj.cells #[.int .i64 x0, .int .i64 x1, .int .i64 x2] t)) (.slice (some ⟨w.heap.size, 0, none⟩) 1 1) [((x0, x1), x2)] := gs_one (E := hopE) w ((x0, x1), x2) t (vs := [.int .i64 x0, .int .i64 x1, .int .i64 x2]) rfl
/-- Are two the same? -/
def hopB (a b : (Int × Int) × Int) : Bool := (a.1.1 == b.1.1) && ((a.1.2 == b.1.2) && ((a.2 == b.2)))
theorem hopB_iff (a b : (Int × Int) × Int) : hopB a b = true ↔ a = b := by
  have e : hopB a b = ((a.1.1 == b.1.1) && ((a.1.2 == b.1.2) && ((a.2 == b.2)))) := rfl
  rw [e]
  simp only [Bool.and_eq_true, beq_iff_eq]
  constructor
  · intro h
    obtain ⟨⟨a0, a1⟩, a2⟩ := a; obtain ⟨⟨b0, b1⟩, b2⟩ := b; simp at h ⊢; simp [h]
  · intro h
    subst h
    simp
theorem hop_ways (x0 : Int) (x1 : Int) (x2 : Int) (y0 : Int) (y1 : Int) (y2 : Int) :
    ((x0 == y0) = false ∧ hopB ((x0, x1), x2) ((y0, y1), y2) = false) ∨
    ((x0 == y0) = true ∧ (x1 == y1) = false ∧ hopB ((x0, x1), x2) ((y0, y1), y2) = false) ∨
    ((x0 == y0) = true ∧ (x1 == y1) = true ∧ (x2 == y2) = false ∧ hopB ((x0, x1), x2) ((y0, y1), y2) = false) ∨
    ((x0 == y0) = true ∧ (x1 == y1) = true ∧ (x2 == y2) = true ∧ hopB ((x0, x1), x2) ((y0, y1), y2) = true) := by
  have e : hopB ((x0, x1), x2) ((y0, y1), y2) = ((x0 == y0) && ((x1 == y1) && ((x2 == y2)))) := rfl
  rw [e]
  cases h0 : (x0 == y0)
  · simp
  · skip
    cases h1 : (x1 == y1)
    · simp
    · skip
      cases h2 : (x2 == y2)
      · simp
      · skip
        simp
set_option maxRecDepth 100000 in
theorem hop_eq (x0 : Int) (x1 : Int) (x2 : Int) (y0 : Int) (y1 : Int) (y2 : Int) (w : World) : (Op.equal 83 (.agg #[.int .i64 x0, .int .i64 x1, .int .i64 x2]) (.agg #[.int .i64 y0, .int .i64 y1, .int .i64 y2])).run Tryd.prog w = .ok (hopB ((x0, x1), x2) ((y0, y1), y2)) w := by
  unfold Op.equal Op.maxDepth
  rw [run_equalIn_struct w 9999 _ _ _ (by kernel_rfl) (by kernel_rfl)]
  rcases hop_ways x0 x1 x2 y0 y1 y2 with ⟨e0, e⟩ | ⟨e0, e1, e⟩ | ⟨e0, e1, e2, e⟩ | ⟨e0, e1, e2, e⟩
  all_goals
    rw [e]
    go_simp
theorem hop_info : (Tryd.prog.info? 83).map (fun i => (i.zero, i.size, i.bytes)) = some (some (.agg #[.int .i64 0, .int .i64 0, .int .i64 0]), 3, 24) := by kernel_rfl
theorem hop_zero : (Value.agg #[.int .i64 0, .int .i64 0, .int .i64 0]).cells.size = 3 := by simp [Value.cells]
/-- Cells that read as one. -/
theorem hop_open {H : Type} {enc : TypeId × Value → H} {W : World} {n : Nat} {cs : List Value} {x : DataW H × List MemPlace}
    (h : DataW.trod enc Tryd.prog W 0 (fun _ => true) true n 83 cs = some x) : ∃ y, cs = hopE.c y := by
  obtain ⟨xs, k, _, _, hl, hlen, hf⟩ := DataW.trod_struct Tryd.underlying83 h
  have hC : Tryd.prog.cellsOf 83 = 3 := by kernel_rfl
  have hT0 : Tryd.prog.cellsOf 30 = 2 := by kernel_rfl
  have hT1 : Tryd.prog.cellsOf 3 = 1 := by kernel_rfl
  rw [hC] at hl
  match cs, hl with
  | [c0, c1, c2], _ =>
    match xs, hlen with
    | [z0, z1], _ =>
      have g0 := hf 0 _ rfl
      have g1 := hf 1 _ rfl
      simp [hT0, hT1] at g0 g1
      obtain ⟨s0, e0⟩ := spo_open g0
      obtain ⟨v2, e1, _, _⟩ := DataW.trod_int Tryd.underlying3 g1
      simp [spoE] at e0 e1
      refine ⟨((s0.1, s0.2), v2), ?_⟩
      simp [hopE, e0, e1]
set_option maxRecDepth 100000 in
/-- One that came in. -/
theorem hop_of {H : Type} {enc : TypeId × Value → H} {W : World} {base : Nat} {v : Value} {d : DataW H} {p : List MemPlace}
    (hv : Value.okWide Tryd.prog W .any base 83 v) (h : DataW.Trod enc Tryd.prog W 0 (fun _ => true) true 83 v d p) : ∃ (x0 : Int) (x1 : Int) (x2 : Int), v = .agg #[.int .i64 x0, .int .i64 x1, .int .i64 x2] := by
  obtain ⟨cs, rfl, hsz⟩ := okWide_struct Tryd.underlying83 hv
  obtain ⟨n, hn⟩ := h
  obtain ⟨y, e⟩ := hop_open hn
  refine ⟨y.1.1, y.1.2, y.2, ?_⟩
  simp only [Value.cells] at e
  have e2 : cs = #[.int .i64 y.1.1, .int .i64 y.1.2, .int .i64 y.2] := by
    rw [← Array.toArray_toList (xs := cs), e]
    rfl
  rw [e2]
/-- A slice of them that came in. -/
theorem hops_of {H : Type} {enc : TypeId × Value → H} {W : World} {base : Nat} {v : Value} {d : DataW H} {p : List MemPlace}
    (hv : Value.okWide Tryd.prog W .any base 38 v) (h : DataW.Trod enc Tryd.prog W 0 (fun _ => true) true 38 v d p) : ∃ L, GS hopE W v L :=
  gs_of (E := hopE) 38 83 Tryd.underlying38 (by kernel_rfl) ((0, 0), 0) (fun _ _ _ h => hop_open h) hv h
end Go.Proofs.YtpmcjelihdlfeaaDoor
/- What net.step answers: a contract for the walks above it. -/
namespace Go.Proofs.YtpmcjelihdlfeaaDoor
open Go.RowKit
set_option linter.unusedSimpArgs false
set_option linter.unusedVariables false

theorem st_a {t : List Ru} {x y h : Int} (e : luN t h ≠ 0) : stT t ((x, y), h) = none := if_neg e
theorem st_b {t : List Ru} {x y h p m b o s v : Int} (e : luN t h = 0) (hr : roR t h = ⟨p, m, b, o, s, v⟩) (ha : apN p m b o s v h ≠ 0) : stT t ((x, y), h) = none := by
  unfold stT
  simp only
  rw [if_pos e, hr]
  exact if_neg ha
theorem st_c {t : List Ru} {x y h p m b o s v : Int} (e : luN t h = 0) (hr : roR t h = ⟨p, m, b, o, s, v⟩) (ha : apN p m b o s v h = 0) : stT t ((x, y), h) = some ((x, o), apR p m b o s v h) := by
  unfold stT
  simp only
  rw [if_pos e, hr]
  exact if_pos ha
/-- The three boxes: a net, a hop, the answer's. -/
def sbox (w : World) (S : Int) (v1 v2 v3 : Value) (x y h : Int) : World := ((w.alloc (Obj.cells #[.int .i64 S, v1, v2, v3] 28)).alloc (Obj.cells #[.int .i64 x, .int .i64 y, .int .i64 h] 83)).alloc (Obj.cells #[.int .i64 0, .int .i64 0, .int .i64 0] 83)
structure SBox (w W : World) (S : Int) (v1 v2 v3 : Value) (x y h : Int) : Prop where
  below : Below w.heap.size w W
  n : NeBox W w.heap.size S v1 v2 v3
  i0 : W.cell? ⟨w.heap.size + 1, 0, none⟩ = some (.int .i64 x)
  i1 : W.cell? ⟨w.heap.size + 1, 1, none⟩ = some (.int .i64 y)
  i2 : W.cell? ⟨w.heap.size + 1, 2, none⟩ = some (.int .i64 h)
  r0 : W.cell? ⟨w.heap.size + 1 + 1, 0, none⟩ = some (.int .i64 0)
  r1 : W.cell? ⟨w.heap.size + 1 + 1, 1, none⟩ = some (.int .i64 0)
  r2 : W.cell? ⟨w.heap.size + 1 + 1, 2, none⟩ = some (.int .i64 0)
  f : ∀ i, W.frozen? ⟨w.heap.size + 1 + 1, i, none⟩ = false
theorem sbox_new (w : World) (S : Int) (v1 v2 v3 : Value) (x y h : Int) : SBox w (sbox w S v1 v2 v3 x y h) S v1 v2 v3 x y h := by
  have e1 : (w.alloc (Obj.cells #[.int .i64 S, v1, v2, v3] 28)).heap.size = w.heap.size + 1 := by simp
  have e2 : ((w.alloc (Obj.cells #[.int .i64 S, v1, v2, v3] 28)).alloc (Obj.cells #[.int .i64 x, .int .i64 y, .int .i64 h] 83)).heap.size = w.heap.size + 1 + 1 := by simp
  have hb : ∀ (W : World) (o : Obj), Below W.heap.size W (W.alloc o) := fun W o => (Below.refl _ _).alloc (Nat.le_refl _) _
  have hs := (vat_new (w.alloc (Obj.cells #[.int .i64 S, v1, v2, v3] 28)) [.int .i64 x, .int .i64 y, .int .i64 h] 83).later (hb _ (Obj.cells #[.int .i64 0, .int .i64 0, .int .i64 0] 83))
  rw [e1] at hs
  have hr := vat_new ((w.alloc (Obj.cells #[.int .i64 S, v1, v2, v3] 28)).alloc (Obj.cells #[.int .i64 x, .int .i64 y, .int .i64 h] 83)) [.int .i64 0, .int .i64 0, .int .i64 0] 83
  rw [e2] at hr
  have hf : ∀ k, (sbox w S v1 v2 v3 x y h).frozen? ⟨((w.alloc (Obj.cells #[.int .i64 S, v1, v2, v3] 28)).alloc (Obj.cells #[.int .i64 x, .int .i64 y, .int .i64 h] 83)).heap.size, k, none⟩ = false := fun k => by
    unfold sbox
    generalize (w.alloc (Obj.cells #[.int .i64 S, v1, v2, v3] 28)).alloc (Obj.cells #[.int .i64 x, .int .i64 y, .int .i64 h] 83) = X
    simp
  rw [e2] at hf
  exact ⟨(((Below.refl _ _).alloc (Nat.le_refl _) _).alloc (by rw [e1]; omega) _).alloc (by rw [e2]; omega) _, ((nebox_new w S v1 v2 v3 28).later (hb _ _)).later (hb _ _), hs 0 _ rfl, hs 1 _ rfl, hs 2 _ rfl, hr 0 _ rfl, hr 1 _ rfl, hr 2 _ rfl, hf⟩
theorem SBox.later {w W W' : World} {S : Int} {v1 v2 v3 : Value} {x y h : Int} (k : SBox w W S v1 v2 v3 x y h) (hb : Below W.heap.size W W') : SBox w W' S v1 v2 v3 x y h :=
  ⟨k.below.trans (hb.mono k.below.size), k.n.later hb, cell_later hb k.i0, cell_later hb k.i1, cell_later hb k.i2, cell_later hb k.r0, cell_later hb k.r1, cell_later hb k.r2, fun i => (hb.frozen (p := ⟨w.heap.size + 1 + 1, i, none⟩) (show (⟨w.heap.size + 1 + 1, 0, none⟩ : Addr).block < W.heap.size from World.block_lt_of_cell? W ⟨w.heap.size + 1 + 1, 0, none⟩ k.r0)).trans (k.f i)⟩
theorem below_three {w W : World} (h : Below w.heap.size w W) (g : Nat) (hg : w.heap.size ≤ g) (u v x : Value) : Below w.heap.size w (((W.setCell ⟨g, 0, none⟩ u).setCell ⟨g, 1, none⟩ v).setCell ⟨g, 2, none⟩ x) := ((h.setCell (p := ⟨g, 0, none⟩) hg u).setCell (p := ⟨g, 1, none⟩) hg v).setCell (p := ⟨g, 2, none⟩) hg x

set_option maxHeartbeats 4000000 in
set_option maxRecDepth 100000 in
theorem step_any (S : Int) (ao : Option Addr) (n cap : Nat) (ao2 : Option Addr) (n2 cap2 : Nat) (ao3 : Option Addr) (n3 cap3 : Nat) (Ts : List (List Ru)) (x y h : Int) (w : World)
    (hT : TS w (.slice ao3 n3 cap3) Ts) (hG : ∀ k, k < Ts.length → tbN (Ts.getD k []) = 0) (h1 : 1 ≤ x) (h2 : x ≤ (n3 : Int)) (h6 : n3 ≤ 6) :
    Calls Tryd.prog 34 #[.agg #[.int .i64 S, .slice ao n cap, .slice ao2 n2 cap2, .slice ao3 n3 cap3], .agg #[.int .i64 x, .int .i64 y, .int .i64 h]] w fun e w' => e = .returned (.tuple #[.agg #[.int .i64 ((stO Ts ((x, y), h)).getD zeH).1.1, .int .i64 ((stO Ts ((x, y), h)).getD zeH).1.2, .int .i64 ((stO Ts ((x, y), h)).getD zeH).2], .bool (stO Ts ((x, y), h)).isSome]) ∧ Below w.heap.size w w' := by
  obtain ⟨k, rfl⟩ : ∃ k : Nat, x = (k : Int) + 1 := ⟨(x - 1).toNat, by omega⟩
  have hk : k < n3 := by omega
  obtain ⟨_, _, _, e1, hTn, hTm, _, hTa⟩ := hT.form
  cases e1
  obtain ⟨g, o, rfl, hc, _⟩ := hTa (by omega)
  have hX := sbox_new w S (.slice ao n cap) (.slice ao2 n2 cap2) (.slice (some ⟨g, o, none⟩) n3 cap3) ((k : Int) + 1) y h
  obtain ⟨a4, n4, c4, q0, hs⟩ := (hc.later hX.below) k (by rw [hTn]; exact hk)
  obtain ⟨t, ht⟩ : ∃ t, t = Ts.getD k [] := ⟨_, rfl⟩
  have hs2 : SR (sbox w S (.slice ao n cap) (.slice ao2 n2 cap2) (.slice (some ⟨g, o, none⟩) n3 cap3) ((k : Int) + 1) y h) (.slice a4 n4 c4) t := by
    rw [ht, getT (by rw [hTn]; exact hk)]
    exact hs
  have HTB : Hid (tbN t = 0) := by
    show _ = _
    rw [ht]
    exact hG k (by rw [hTn]; exact hk)
  have HST : Hid (stO Ts (((k : Int) + 1, y), h) = stT t (((k : Int) + 1, y), h)) := by
    show _ = _
    unfold stO taT
    simp only
    rw [ht]
    congr 2
    omega
  obtain ⟨A, hA⟩ : ∃ A, A = stO Ts (((k : Int) + 1, y), h) := ⟨_, rfl⟩
  have HA : Hid (A = stT t (((k : Int) + 1, y), h)) := hA.trans HST.out
  rw [← hA]
  obtain ⟨w0, hw0⟩ : ∃ W, W = sbox w S (.slice ao n cap) (.slice ao2 n2 cap2) (.slice (some ⟨g, o, none⟩) n3 cap3) ((k : Int) + 1) y h := ⟨_, rfl⟩
  rw [← hw0] at hX q0 hs2
  have HX : Hid (SBox w w0 S (.slice ao n cap) (.slice ao2 n2 cap2) (.slice (some ⟨g, o, none⟩) n3 cap3) ((k : Int) + 1) y h) := hX
  have HS : Hid (SR w0 (.slice a4 n4 c4) t) := hs2
  have HW0 : Hid (((w.alloc (Obj.cells #[.int .i64 S, .slice ao n cap, .slice ao2 n2 cap2, .slice (some ⟨g, o, none⟩) n3 cap3] 28)).alloc (Obj.cells #[.int .i64 ((k : Int) + 1), .int .i64 y, .int .i64 h] 83)).alloc (Obj.cells #[.int .i64 0, .int .i64 0, .int .i64 0] 83) = w0) := hw0.symm
  have hw : IntKind.i64.wrap ((k : Int) + 1 - 1) = (k : Int) := by rw [show (k : Int) + 1 - 1 = (k : Int) from by omega]; exact wrap_small (by omega) (by omega)
  have kb0 : (0 : Int) ≤ (k : Int) := by omega
  have kb1 : (k : Int) < (n3 : Int) := by omega
  clear hT hTn hTm hTa hc hs hs2 hX hA HST hw0 ht hG
  go_enter Tryd.func34, Tryd.ntmps34
  go_upto_region 1 with fail
  rw [HW0.out]
  obtain ⟨_, ⟨b0, b1, b2, b3⟩, i0, i1, i2, r0, r1, r2, f⟩ := HX.out
  clear HW0 f r0 r1 r2
  go_wp2_with fail
  refine (counting_any (.slice a4 n4 c4) t h _ HS.out).mono ?_
  rintro e w1 ⟨rfl, hb1⟩
  have HX1 : Hid (SBox w w1 S (.slice ao n cap) (.slice ao2 n2 cap2) (.slice (some ⟨g, o, none⟩) n3 cap3) ((k : Int) + 1) y h) := HX.out.later hb1
  have HS1 : Hid (SR w1 (.slice a4 n4 c4) t) := HS.out.later hb1
  obtain ⟨I, hI⟩ : ∃ I, I = beTo t h t.length := ⟨_, rfl⟩
  have HI : Hid (I = beTo t h t.length) := hI
  rw [← hI]
  clear hI hb1 HX HS b0 b1 b2 b3 i0 i1 i2 q0
  by_cases h0 : I < 0
  · have HA2 : Hid (A = none) := by
      show _ = _
      rw [HA.out, st_a (fun e => by have := (lu_0.1 e).2.2; rw [← HI.out] at this; omega)]
    obtain ⟨hB2, ⟨b0, b1, b2, b3⟩, i0, i1, i2, r0, r1, r2, f⟩ := HX1.out
    have HB2 : Hid (Below w.heap.size w w1) := hB2
    have f0 := f 0
    have f1 := f 1
    have f2 := f 2
    clear f hB2
    go_wp2
    refine bodyPost_ret (v := .tuple #[.agg #[.int .i64 0, .int .i64 0, .int .i64 0], .bool false]) (by simp [results, Tryd.results34, go_sem, *]) rfl ⟨by rw [HA2.out]; rfl, below_three HB2.out _ (by omega) _ _ _⟩
  · have hbd := be_bd t h t.length
    obtain ⟨j, rfl⟩ : ∃ j : Nat, I = (j : Int) := ⟨I.toNat, by omega⟩
    have hjl : j < t.length := by
      have := HI.out
      omega
    obtain ⟨_, _, _, e4, hn4, hm4, _, ha4⟩ := HS1.out.form
    cases e4
    obtain ⟨g4, o4, rfl, hc4, _⟩ := ha4 (by omega)
    have hjn : j < n4 := by omega
    obtain ⟨p, m, b, q, s, v, hl, hLj, c0, c1, c2, c3, c4', c5⟩ := hc4.at hn4 hjn
    have HRO : Hid (luN t h = 0 → roR t h = ⟨p, m, b, q, s, v⟩) := by
      intro e
      rw [roR, luI, if_pos e, ← HI.out, Int.toNat_natCast, getD_at hjl, hLj]
    have HLT : Hid (hdrB h = true → luN t h = 0) := fun e => lu_0.2 ⟨HTB.out, e, by rw [← HI.out]; omega⟩
    have HC4 : Hid (RAt w1 g4 o4 t) := hc4
    have HN4 : Hid (t.length = n4) := hn4
    have HLJ : Hid (t[j] = ⟨p, m, b, q, s, v⟩) := hLj
    have jb0 : (0 : Int) ≤ (j : Int) := by omega
    have jb1 : (j : Int) < (n4 : Int) := by omega
    obtain ⟨_, ⟨b0, b1, b2, b3⟩, i0, i1, i2, r0, r1, r2, f⟩ := HX1.out
    have hlt4 : g4 < w1.heap.size := World.block_lt_of_cell? _ _ c0
    have hlt1 : w.heap.size + 1 < w1.heap.size := World.block_lt_of_cell? _ _ i0
    obtain ⟨V, hV⟩ : ∃ V, V = apR p m b q s v h := ⟨_, rfl⟩
    obtain ⟨N, hN⟩ : ∃ N, N = apN p m b q s v h := ⟨_, rfl⟩
    have HV : Hid (V = apR p m b q s v h) := hV
    have HN : Hid (N = apN p m b q s v h) := hN
    clear hV hN h0 hbd hn4 hm4 ha4 hc4 hLj f HI HTB r0 r1 r2
    go_upto_region 5 with fail
    go_cut [8, 9] from 26 to 35 (fun hd er w' => hd = .int .i64 V ∧ er = noV N ∧ Below w1.heap.size w1 w')
    case first =>
      go_region_with (go_at_call 60; refine (apply_any p m b q s v h _).mono ?_; rintro e w' ⟨rfl, hb⟩; rw [← HV.out, ← HN.out]; have HBX : Hid (Below w1.heap.size w1 w') := (Below.drew (Below.refl _ _)).trans (hb.mono (by simp)); clear hb)
      all_goals (go_wp2_with fail; go_meet)
      all_goals exact ⟨rfl, rfl, HBX.out⟩
    case rest =>
      obtain ⟨rfl, rfl, hbw⟩ := hcut
      have HX2 : Hid (SBox w wc S (.slice ao n cap) (.slice ao2 n2 cap2) (.slice (some ⟨g, o, none⟩) n3 cap3) ((k : Int) + 1) y h) := HX1.out.later hbw
      obtain ⟨p', m', b', q', s', v', hl', hLj', c0, c1, c2, c3, c4', c5⟩ := (HC4.out.later hbw).at HN4.out hjn
      rw [HLJ.out] at hLj'
      cases hLj'
      obtain ⟨hB2, ⟨b0, b1, b2, b3⟩, i0, i1, i2, r0, r1, r2, f⟩ := HX2.out
      have HB2 : Hid (Below w.heap.size w wc) := hB2
      have hlt4 : g4 < wc.heap.size := World.block_lt_of_cell? _ _ c0
      have hlt1 : w.heap.size + 1 < wc.heap.size := World.block_lt_of_cell? _ _ i0
      have hlt2 : w.heap.size + 1 + 1 < wc.heap.size := World.block_lt_of_cell? _ _ r0
      have f0 := f 0
      have f1 := f 1
      have f2 := f 2
      clear hbw f hB2 HX1 HC4
      by_cases h5 : N = 0
      · subst h5
        rw [no_ok rfl]
        have HA2 : Hid (A = some (((k : Int) + 1, q), V)) := by
          show _ = _
          have hl := HLT.out (ap_yes HN.out.symm).2.1
          rw [HA.out, st_c hl (HRO.out hl) HN.out.symm, HV.out]
        go_upto_region 8 with fail
        go_region
        all_goals
          go_wp2
          refine bodyPost_ret (v := .tuple #[.agg #[.int .i64 ((k : Int) + 1), .int .i64 q, .int .i64 V], .bool true]) (by simp [results, Tryd.results34, go_sem, *]) rfl ⟨by rw [HA2.out]; rfl, ?_⟩
          first
            | exact below_three (HB2.out.trans ((Below.drew (Below.refl _ _)).mono HB2.out.size)) _ (by omega) _ _ _
      · rw [no_ne h5]
        have HA2 : Hid (A = none) := by
          show _ = _
          by_cases hl : luN t h = 0
          · rw [HA.out, st_b hl (HRO.out hl) (by rw [← HN.out]; exact h5)]
          · rw [HA.out, st_a hl]
        clear h5
        go_wp2
        refine bodyPost_ret (v := .tuple #[.agg #[.int .i64 0, .int .i64 0, .int .i64 0], .bool false]) (by simp [results, Tryd.results34, go_sem, *]) rfl ⟨by rw [HA2.out]; rfl, below_three HB2.out _ (by omega) _ _ _⟩
end Go.Proofs.YtpmcjelihdlfeaaDoor
/- What becomes of a packet, hop by hop: plain lists. No program in it. -/
namespace Go.Proofs.YtpmcjelihdlfeaaDoor
open Go.RowKit
set_option linter.unusedVariables false

section
variable {Ls : List ((Int × Int) × (Int × Int))} {Hs : List (ByteArray × (Int × Int))} {Ts : List (List Ru)}
/-- One hop is behind the other. -/
def NxH (Ls : List ((Int × Int) × (Int × Int))) (Hs : List (ByteArray × (Int × Int))) (Ts : List (List Ru)) (p q : (Int × Int) × Int) : Prop := ∃ o, stO Ts p = some o ∧ atO Hs o.1 = none ∧ peerO Ls o.1 = some q.1 ∧ q.2 = o.2
def atH (l : List ((Int × Int) × Int)) (i : Nat) : (Int × Int) × Int := l.getD i zeH
def ChH (Ls : List ((Int × Int) × (Int × Int))) (Hs : List (ByteArray × (Int × Int))) (Ts : List (List Ru)) (l : List ((Int × Int) × Int)) : Prop := ∀ i, i + 1 < l.length → NxH Ls Hs Ts (atH l i) (atH l (i + 1))
/-- What it comes to at the last of these hops. -/
def enE (Ls : List ((Int × Int) × (Int × Int))) (Hs : List (ByteArray × (Int × Int))) (Ts : List (List Ru)) (l : List ((Int × Int) × Int)) (p : (Int × Int) × Int) : (Int × ByteArray) ⊕ ((Int × Int) × Int) := goE Ls Hs (taT Ts p.1.1) l p
theorem la_at (l : List ((Int × Int) × Int)) : laH l = atH l (l.length - 1) := rfl
theorem at_app (l : List ((Int × Int) × Int)) (p : (Int × Int) × Int) : atH (l ++ [p]) l.length = p := by simp [atH, List.getD]
theorem at_lt {l : List ((Int × Int) × Int)} (m : List ((Int × Int) × Int)) {i : Nat} (h : i < l.length) : atH (l ++ m) i = atH l i := by simp [atH, List.getD, List.getElem?_append_left h]
theorem at_in {l : List ((Int × Int) × Int)} {i : Nat} (h : i < l.length) : atH l i ∈ l := by
  have e : atH l i = l[i] := by simp [atH, List.getD, h]
  rw [e]
  exact List.getElem_mem h
theorem en_r {l : List ((Int × Int) × Int)} {p q : (Int × Int) × Int} (h : enE Ls Hs Ts l p = .inr q) : NxH Ls Hs Ts p q ∧ l.length ≠ 24 ∧ q ∉ l := by
  unfold enE goE at h
  cases hs : stT (taT Ts p.1.1) p with
  | none => rw [hs] at h; cases h
  | some o =>
    rw [hs] at h
    simp only at h
    cases ha : atO Hs o.1 with
    | some m => rw [ha] at h; cases h
    | none =>
      rw [ha] at h
      simp only at h
      cases hp : peerO Ls o.1 with
      | none => rw [hp] at h; cases h
      | some s =>
        rw [hp] at h
        simp only at h
        split at h
        · cases h
        · next hn =>
          cases h
          rw [not_or] at hn
          refine ⟨⟨o, hs, ha, hp, rfl⟩, hn.1, fun hm => hn.2 ?_⟩
          exact List.any_eq_true.2 ⟨_, hm, (heB_iff _ _).2 rfl⟩
/-- A next hop that is not there yet is one. -/
theorem en_go {l : List ((Int × Int) × Int)} {p q : (Int × Int) × Int} (h : NxH Ls Hs Ts p q) (h24 : l.length ≠ 24) (hq : q ∉ l) : enE Ls Hs Ts l p = .inr q := by
  obtain ⟨o, h1, h2, h3, h4⟩ := h
  unfold enE goE
  rw [show stT (taT Ts p.1.1) p = some o from h1]
  simp only [h2, h3]
  rw [if_neg]
  · obtain ⟨q1, q2⟩ := q
    simp only at h4
    rw [h4]
  · rw [not_or]
    refine ⟨h24, fun hm => hq ?_⟩
    obtain ⟨x, hx, e⟩ := List.any_eq_true.1 hm
    have e2 := (heB_iff _ _).1 e
    obtain ⟨q1, q2⟩ := q
    simp only at h4
    rw [h4, e2]
    exact hx
/-- An end that is no loop is one whatever was there. -/
theorem en_l {l : List ((Int × Int) × Int)} {p : (Int × Int) × Int} {e : Int × ByteArray} (h : enE Ls Hs Ts l p = .inl e) (h4 : e.1 ≠ 4) (m : List ((Int × Int) × Int)) : enE Ls Hs Ts m p = .inl e := by
  unfold enE goE at h ⊢
  cases hs : stT (taT Ts p.1.1) p with
  | none => rw [hs] at h; exact h
  | some o =>
    rw [hs] at h
    simp only at h ⊢
    cases ha : atO Hs o.1 with
    | some m => rw [ha] at h; exact h
    | none =>
      rw [ha] at h
      simp only at h ⊢
      cases hp : peerO Ls o.1 with
      | none => rw [hp] at h; exact h
      | some s =>
        rw [hp] at h
        simp only at h
        split at h
        · cases h
          exact absurd rfl h4
        · cases h
/-- An end, in words. -/
theorem en_end {l : List ((Int × Int) × Int)} {p : (Int × Int) × Int} {e : Int × ByteArray} (h : enE Ls Hs Ts l p = .inl e) (hn : ∀ x ∈ Hs, x.1 ≠ ByteArray.empty) : (stO Ts p = none ↔ e.1 = 2) ∧ (e.1 = 1 ↔ e.2 ≠ ByteArray.empty) := by
  unfold enE goE at h
  unfold stO
  cases hs : stT (taT Ts p.1.1) p with
  | none => rw [hs] at h; cases h; simp
  | some o =>
    rw [hs] at h
    simp only at h
    cases ha : atO Hs o.1 with
    | some m =>
      rw [ha] at h
      cases h
      refine ⟨by simp, fun _ => ?_, fun _ => rfl⟩
      rcases at_ix Hs o.1 with ⟨_, h0⟩ | ⟨k, hk, _, h1⟩
      · rw [ha] at h0; cases h0
      · rw [ha] at h1
        cases h1
        exact hn _ (List.getElem_mem hk)
    | none =>
      rw [ha] at h
      simp only at h
      cases hp : peerO Ls o.1 with
      | none => rw [hp] at h; cases h; simp
      | some s =>
        rw [hp] at h
        simp only at h
        split at h
        · cases h; simp
        · cases h
theorem fo_s (n : Nat) (l : List ((Int × Int) × Int)) : foF Ls Hs Ts (n + 1) l = match enE Ls Hs Ts l (laH l) with | .inl e => (e.1, e.2, l) | .inr p => foF Ls Hs Ts n (l ++ [p]) := rfl
/-- What is so of the hops that are told. -/
theorem fo_spec : ∀ (n : Nat) (l : List ((Int × Int) × Int)), 0 < l.length → l.length + n = 25 → 1 ≤ n → l.Nodup → ChH Ls Hs Ts l →
    ∃ rest, (foF Ls Hs Ts n l).2.2 = l ++ rest ∧ (foF Ls Hs Ts n l).2.2.length ≤ 24 ∧ (foF Ls Hs Ts n l).2.2.Nodup ∧ ChH Ls Hs Ts (foF Ls Hs Ts n l).2.2 ∧
      enE Ls Hs Ts (foF Ls Hs Ts n l).2.2 (laH (foF Ls Hs Ts n l).2.2) = .inl ((foF Ls Hs Ts n l).1, (foF Ls Hs Ts n l).2.1)
  | 0, l, _, _, h, _, _ => by omega
  | n + 1, l, h0, hl, _, hd, hc => by
    rw [fo_s]
    cases he : enE Ls Hs Ts l (laH l) with
    | inl e => exact ⟨[], by simp, by simp only; omega, hd, hc, he⟩
    | inr p =>
      obtain ⟨h1, h2, h3⟩ := en_r he
      simp only
      have hl2 : l.length < 24 := by omega
      have hd2 : (l ++ [p]).Nodup := by
        rw [List.nodup_append]
        refine ⟨hd, by simp, fun a ha b hb e => ?_⟩
        simp only [List.mem_singleton] at hb
        subst hb
        subst e
        exact h3 ha
      have hc2 : ChH Ls Hs Ts (l ++ [p]) := by
        intro i hi
        simp only [List.length_append, List.length_cons, List.length_nil] at hi
        by_cases e : i + 1 = l.length
        · rw [at_lt _ (show i < l.length by omega), e, at_app]
          rw [la_at] at h1
          have : i = l.length - 1 := by omega
          rw [this]
          exact h1
        · rw [at_lt _ (show i < l.length by omega), at_lt _ (show i + 1 < l.length by omega)]
          exact hc i (by omega)
      obtain ⟨rest, e1, e2⟩ := fo_spec n (l ++ [p]) (by simp) (by simp; omega) (by omega) hd2 hc2
      exact ⟨p :: rest, by rw [e1]; simp, e2⟩
/-- From any of the hops on it ends likewise. -/
theorem fo_tail {L : List ((Int × Int) × Int)} {e : Int × ByteArray} (hd : L.Nodup) (hc : ChH Ls Hs Ts L) (h24 : L.length ≤ 24) (he : enE Ls Hs Ts L (laH L) = .inl e) (h4 : e.1 ≠ 4) :
    ∀ (r k : Nat) (m : List ((Int × Int) × Int)) (n : Nat), k + 1 + r = L.length → 0 < m.length → m.length ≤ k + 1 → laH m = atH L k → (∀ x ∈ m, ∃ j, j ≤ k ∧ x = atH L j) → r < n →
      (foF Ls Hs Ts n m).1 = e.1 ∧ (foF Ls Hs Ts n m).2.1 = e.2 ∧ (foF Ls Hs Ts n m).2.2.length = m.length + r
  | r, k, m, 0, _, _, _, _, _, hn => by omega
  | 0, k, m, n + 1, hk, hm, hmk, hla, hin, hn => by
    rw [fo_s]
    have : laH m = laH L := by
      rw [hla, la_at]
      congr 1
      omega
    rw [this, en_l he h4 m]
    exact ⟨rfl, rfl, by simp⟩
  | r + 1, k, m, n + 1, hk, hm, hmk, hla, hin, hn => by
    rw [fo_s]
    have hnx := hc k (by omega)
    have hq : atH L (k + 1) ∉ m := by
      intro hx
      obtain ⟨j, hj, e2⟩ := hin _ hx
      have e3 : L[k + 1]'(by omega) = L[j]'(by omega) := by
        have a1 : atH L (k + 1) = L[k + 1]'(by omega) := by
          have : k + 1 < L.length := by omega
          simp [atH, List.getD, this]
        have a2 : atH L j = L[j]'(by omega) := by
          have : j < L.length := by omega
          simp [atH, List.getD, this]
        rw [← a1, ← a2]
        exact e2
      have := (List.getElem_inj hd).1 e3
      omega
    rw [hla, en_go hnx (by omega) hq]
    simp only
    have h := fo_tail hd hc h24 he h4 r (k + 1) (m ++ [atH L (k + 1)]) n (by omega) (by simp) (by simp; omega) (by
      rw [la_at]
      simp only [List.length_append, List.length_cons, List.length_nil, Nat.add_sub_cancel]
      exact at_app _ _) (by
      intro x hx
      rw [List.mem_append] at hx
      rcases hx with hx | hx
      · obtain ⟨j, hj, e2⟩ := hin x hx
        exact ⟨j, by omega, e2⟩
      · simp only [List.mem_singleton] at hx
        exact ⟨k + 1, Nat.le_refl _, hx⟩) (by omega)
    refine ⟨h.1, h.2.1, ?_⟩
    rw [h.2.2]
    simp
    omega
end
end Go.Proofs.YtpmcjelihdlfeaaDoor
/- A line of switches: plain lists. No program in it. -/
namespace Go.Proofs.YtpmcjelihdlfeaaDoor
open Go.RowKit
set_option linter.unusedVariables false

/-- The links of a line. -/
def lnTo : Nat → List ((Int × Int) × (Int × Int))
  | 0 => []
  | k + 1 => lnTo k ++ [(((k : Int) + 1, 2), ((k : Int) + 1 + 1, 1))]
theorem ln_len (k : Nat) : (lnTo k).length = k := by
  induction k with
  | zero => rfl
  | succ k ih => simp [lnTo, ih]
/-- Its hosts. -/
def lnH (n : Int) : List (ByteArray × (Int × Int)) := [(⟨#[97]⟩, (1, 3)), (⟨#[98]⟩, (n, 4))]
def lnOk (n : Nat) : Bool := decide (tpN n (lnTo (n - 1)) (lnH n) = 0)
theorem ln_ok (n : Nat) (h1 : 1 ≤ n) (h6 : n ≤ 6) : tpN n (lnTo (n - 1)) (lnH n) = 0 := by
  have h : ∀ m ∈ [1, 2, 3, 4, 5, 6], lnOk m = true := by decide +kernel
  have h2 := h n (by simp; omega)
  simpa [lnOk] using h2
theorem ln_7 : tpN 7 (lnTo 6) (lnH 7) ≠ 0 := by decide +kernel
/-- How far, and how many are near, for all lines and switches. -/
def lnAll (n a b : Nat) : Bool := decide (faN n (lnTo (n - 1)) a b = if a < b then (b : Int) - a else (a : Int) - b) && decide (((nrL n (lnTo (n - 1)) a).length : Int) = 2 - (if a = 1 then 1 else 0) - (if a = n then 1 else 0))
theorem ln_all (n a b : Nat) (h1 : 1 ≤ n) (h6 : n ≤ 6) (a1 : 1 ≤ a) (a2 : a ≤ n) (b1 : 1 ≤ b) (b2 : b ≤ n) : lnAll n a b = true := by
  have h : ∀ m ∈ [1, 2, 3, 4, 5, 6], ∀ a ∈ [1, 2, 3, 4, 5, 6], ∀ b ∈ [1, 2, 3, 4, 5, 6], a ≤ m → b ≤ m → lnAll m a b = true := by decide +kernel
  exact h n (by simp; omega) a (by simp; omega) b (by simp; omega) a2 b2
end Go.Proofs.YtpmcjelihdlfeaaDoor
/- Hops of a right net are right; two switches that send each other all: plain lists. No program in it. -/
namespace Go.Proofs.YtpmcjelihdlfeaaDoor
open Go.RowKit
set_option linter.unusedVariables false

theorem aph_fin : ∀ s v h : Fin 16, (bits .andNot .i64 ((v : Nat) : Int) ((s : Nat) : Int) == 0) = true → hdrB (apV ((s : Nat) : Int) ((v : Nat) : Int) ((h : Nat) : Int)) = true := by decide +kernel
theorem ap_hdr {p m b o s v h : Int} (hr : apN p m b o s v h = 0) : hdrB (apR p m b o s v h) = true := by
  obtain ⟨h1, h2, _, _⟩ := ap_yes hr
  obtain ⟨g1, _, g3⟩ := ru_ok h1
  obtain ⟨_, hs, hv⟩ := ru_in g1
  obtain ⟨s', rfl⟩ := small hs
  obtain ⟨v', rfl⟩ := small hv
  obtain ⟨h', rfl⟩ := small (hdr_of h2)
  simp only [ruSet, Bool.and_eq_true] at g3
  rw [apR, if_pos hr]
  exact aph_fin s' v' h' g3.1
section
variable {S : Int} {Ls : List ((Int × Int) × (Int × Int))} {Hs : List (ByteArray × (Int × Int))} {Ts : List (List Ru)}
theorem st_hdr {p o : (Int × Int) × Int} (h : stO Ts p = some o) : hdrB o.2 = true ∧ o.1.1 = p.1.1 := by
  unfold stO stT at h
  split at h
  · split at h
    · next hr =>
      cases h
      exact ⟨ap_hdr hr, rfl⟩
    · cases h
  · cases h
theorem peer_sp (ht : tpN S Ls Hs = 0) {s p : Int × Int} (h : peerO Ls s = some p) : spB S p = true := (tp_0 ht).2.2.1 p (peer_in h).2
theorem where_sp (ht : tpN S Ls Hs = 0) {n : ByteArray} {p : Int × Int} (h : whereO Hs n = some p) : spB S p = true := by
  rcases where_ix Hs n with ⟨_, h0⟩ | ⟨k, hk, _, h1⟩
  · rw [h] at h0; cases h0
  · rw [h] at h1
    cases h1
    exact ((tp_0 ht).2.2.2.2.1 _ (List.getElem_mem hk)).2
theorem name_ne (ht : tpN S Ls Hs = 0) : ∀ x ∈ Hs, x.1 ≠ ByteArray.empty := by
  intro x hx e
  have h := ((tp_0 ht).2.2.2.2.1 x hx).1
  rw [e] at h
  revert h
  decide
theorem nx_good (ht : tpN S Ls Hs = 0) {p q : (Int × Int) × Int} (h : NxH Ls Hs Ts p q) : spB S q.1 = true ∧ hdrB q.2 = true := by
  obtain ⟨o, h1, _, h3, h4⟩ := h
  exact ⟨peer_sp ht h3, by rw [h4]; exact (st_hdr h1).1⟩
end
/-- Two switches that send each other all. -/
def ruG : Ru := ⟨1, 0, 0, 2, 0, 0⟩
def ruK : Ru := ⟨1, 0, 0, 1, 0, 0⟩
def ruD (h : Int) : Ru := ⟨5, 15, h, 0, 0, 0⟩
def naA : ByteArray := ⟨#[97]⟩
theorem turn1_fin : ∀ h : Fin 16, (decide (seN 2 (lnTo 1) (lnH 2) [[ruG], [ruK]] naA ((h : Nat) : Int) = 0) && (decide ((seV 2 (lnTo 1) (lnH 2) [[ruG], [ruK]] naA ((h : Nat) : Int)).1 = 4) && decide ((seV 2 (lnTo 1) (lnH 2) [[ruG], [ruK]] naA ((h : Nat) : Int)).2.2.length = 3))) = true := by decide +kernel
theorem turn2_fin : ∀ h : Fin 16, (decide (seN 2 (lnTo 1) (lnH 2) [[ruG], [ruD ((h : Nat) : Int), ruK]] naA ((h : Nat) : Int) = 0) && (decide ((seV 2 (lnTo 1) (lnH 2) [[ruG], [ruD ((h : Nat) : Int), ruK]] naA ((h : Nat) : Int)).1 = 2) && decide ((seV 2 (lnTo 1) (lnH 2) [[ruG], [ruD ((h : Nat) : Int), ruK]] naA ((h : Nat) : Int)).2.2.length = 2))) = true := by decide +kernel
theorem turn1 {h : Int} (hh : hdrB h = true) : seN 2 (lnTo 1) (lnH 2) [[ruG], [ruK]] naA h = 0 ∧ (seV 2 (lnTo 1) (lnH 2) [[ruG], [ruK]] naA h).1 = 4 ∧ (seV 2 (lnTo 1) (lnH 2) [[ruG], [ruK]] naA h).2.2.length = 3 := by
  obtain ⟨h', rfl⟩ := small (hdr_of hh)
  simpa using turn1_fin h'
theorem turn2 {h : Int} (hh : hdrB h = true) : seN 2 (lnTo 1) (lnH 2) [[ruG], [ruD h, ruK]] naA h = 0 ∧ (seV 2 (lnTo 1) (lnH 2) [[ruG], [ruD h, ruK]] naA h).1 = 2 ∧ (seV 2 (lnTo 1) (lnH 2) [[ruG], [ruD h, ruK]] naA h).2.2.length = 2 := by
  obtain ⟨h', rfl⟩ := small (hdr_of hh)
  simpa using turn2_fin h'
theorem turn3_nt : ntN 2 (lnTo 1) (lnH 2) [[], []] = 0 ∧ weN 2 (lnTo 1) (lnH 2) naA = 0 := by decide +kernel
theorem turn3 {h : Int} (hh : hdrB h = false) : seN 2 (lnTo 1) (lnH 2) [[], []] naA h = 1 := by
  unfold seN
  rw [if_pos turn3_nt.1, if_pos turn3_nt.2, hh]
  rfl
end Go.Proofs.YtpmcjelihdlfeaaDoor
/- What becomes of a packet, one round: plain lists. No program in it. -/
namespace Go.Proofs.YtpmcjelihdlfeaaDoor
open Go.RowKit
set_option linter.unusedVariables false

section
variable {Ls : List ((Int × Int) × (Int × Int))} {Hs : List (ByteArray × (Int × Int))} {Ts : List (List Ru)} {l : List ((Int × Int) × Int)} {q : (Int × Int) × Int}
theorem fo_r (h : l.length ≤ 24) : foF Ls Hs Ts (25 - l.length) l = match enE Ls Hs Ts l (laH l) with | .inl e => (e.1, e.2, l) | .inr p => foF Ls Hs Ts (24 - l.length) (l ++ [p]) := by
  have e : 25 - l.length = (24 - l.length) + 1 := by omega
  rw [e]
  exact fo_s _ _
theorem fo_2 (h : l.length ≤ 24) (hA : stO Ts (laH l) = none) : foF Ls Hs Ts (25 - l.length) l = (2, ByteArray.empty, l) := by
  have e : enE Ls Hs Ts l (laH l) = .inl (2, ByteArray.empty) := by
    unfold enE goE
    rw [show stT (taT Ts (laH l).1.1) (laH l) = none from hA]
  rw [fo_r h, e]
theorem fo_1 (h : l.length ≤ 24) (hA : stO Ts (laH l) = some q) {m : ByteArray} (ha : atO Hs q.1 = some m) : foF Ls Hs Ts (25 - l.length) l = (1, m, l) := by
  have e : enE Ls Hs Ts l (laH l) = .inl (1, m) := by
    unfold enE goE
    rw [show stT (taT Ts (laH l).1.1) (laH l) = some q from hA]
    simp only [ha]
  rw [fo_r h, e]
theorem fo_3 (h : l.length ≤ 24) (hA : stO Ts (laH l) = some q) (ha : atO Hs q.1 = none) (hp : peerO Ls q.1 = none) : foF Ls Hs Ts (25 - l.length) l = (3, ByteArray.empty, l) := by
  have e : enE Ls Hs Ts l (laH l) = .inl (3, ByteArray.empty) := by
    unfold enE goE
    rw [show stT (taT Ts (laH l).1.1) (laH l) = some q from hA]
    simp only [ha, hp]
  rw [fo_r h, e]
theorem fo_4 (h : l.length ≤ 24) (hA : stO Ts (laH l) = some q) (ha : atO Hs q.1 = none) {s : Int × Int} (hp : peerO Ls q.1 = some s) (h4 : l.length = 24 ∨ (l.any fun x => heB (s, q.2) x) = true) : foF Ls Hs Ts (25 - l.length) l = (4, ByteArray.empty, l) := by
  have e : enE Ls Hs Ts l (laH l) = .inl (4, ByteArray.empty) := by
    unfold enE goE
    rw [show stT (taT Ts (laH l).1.1) (laH l) = some q from hA]
    simp only [ha, hp]
    rw [if_pos h4]
  rw [fo_r h, e]
theorem fo_n (h : l.length ≤ 24) (hA : stO Ts (laH l) = some q) (ha : atO Hs q.1 = none) {s : Int × Int} (hp : peerO Ls q.1 = some s) (h4 : l.length ≠ 24) (h5 : (l.any fun x => heB (s, q.2) x) = false) : foF Ls Hs Ts (25 - l.length) l = foF Ls Hs Ts (25 - (l ++ [(s, q.2)]).length) (l ++ [(s, q.2)]) := by
  have e : enE Ls Hs Ts l (laH l) = .inr (s, q.2) := by
    unfold enE goE
    rw [show stT (taT Ts (laH l).1.1) (laH l) = some q from hA]
    simp only [ha, hp]
    rw [if_neg]
    rw [not_or, h5]
    exact ⟨h4, by simp⟩
  rw [fo_r h, e]
  simp only [List.length_append, List.length_cons, List.length_nil]
  rw [show 24 - l.length = 25 - (l.length + (0 + 1)) by omega]
theorem la_app (l : List ((Int × Int) × Int)) (p : (Int × Int) × Int) : laH (l ++ [p]) = p := by
  rw [la_at]
  simp only [List.length_append, List.length_cons, List.length_nil, Nat.add_sub_cancel, Nat.zero_add]
  exact at_app l p
end
end Go.Proofs.YtpmcjelihdlfeaaDoor
/- Legs in plain lists: what a table does with a packet ahead of all hops, and as it is behind some. No program in it. -/
namespace Go.Proofs.YtpmcjelihdlfeaaDoor
open Go.RowKit
set_option linter.unusedVariables false

/-- A leg: how it ends, at whom; if it does not, where it goes on. -/
abbrev Lg := Int × ByteArray × ((Int × Int) × Int)
def lgT (Ls : List ((Int × Int) × (Int × Int))) (Hs : List (ByteArray × (Int × Int))) (t : List Ru) (p : (Int × Int) × Int) : Lg :=
  match stT t p with
  | none => (2, ByteArray.empty, zeH)
  | some q => match atO Hs q.1 with
    | some m => (1, m, zeH)
    | none => match peerO Ls q.1 with
      | none => (3, ByteArray.empty, zeH)
      | some s => (0, ByteArray.empty, (s, q.2))
/-- Behind hops: looped, if it would come where it was, or too often. -/
def afB (g : Lg) (l : List ((Int × Int) × Int)) : Bool := (g.1 == 0) && ((l.length == 24) || (l.any fun x => heB g.2.2 x))
def afL (g : Lg) (l : List ((Int × Int) × Int)) : Lg := if afB g l = true then (4, ByteArray.empty, zeH) else g
def lgE (g : Lg) : (Int × ByteArray) ⊕ ((Int × Int) × Int) := if g.1 = 0 then .inr g.2.2 else .inl (g.1, g.2.1)

section
variable {Ls : List ((Int × Int) × (Int × Int))} {Hs : List (ByteArray × (Int × Int))} {t : List Ru} {p : (Int × Int) × Int} {l : List ((Int × Int) × Int)}
theorem lg_2 (h : stT t p = none) : lgT Ls Hs t p = (2, ByteArray.empty, zeH) := by
  unfold lgT
  rw [h]
theorem lg_1 {q : (Int × Int) × Int} (h : stT t p = some q) {m : ByteArray} (ha : atO Hs q.1 = some m) : lgT Ls Hs t p = (1, m, zeH) := by
  unfold lgT
  rw [h]
  simp only [ha]
theorem lg_3 {q : (Int × Int) × Int} (h : stT t p = some q) (ha : atO Hs q.1 = none) (hp : peerO Ls q.1 = none) : lgT Ls Hs t p = (3, ByteArray.empty, zeH) := by
  unfold lgT
  rw [h]
  simp only [ha, hp]
theorem lg_0 {q : (Int × Int) × Int} (h : stT t p = some q) (ha : atO Hs q.1 = none) {s : Int × Int} (hp : peerO Ls q.1 = some s) : lgT Ls Hs t p = (0, ByteArray.empty, (s, q.2)) := by
  unfold lgT
  rw [h]
  simp only [ha, hp]
theorem af_ne {g : Lg} (h : g.1 ≠ 0) : afL g l = g := by
  unfold afL afB
  rw [if_neg (by simp [h])]
theorem af_0 {g : Lg} (h : (afL g l).1 = 0) : afL g l = g ∧ g.1 = 0 ∧ l.length ≠ 24 ∧ (l.any fun x => heB g.2.2 x) = false := by
  by_cases e : afB g l = true
  · rw [afL, if_pos e] at h
    cases h
  · have e1 : afL g l = g := by rw [afL, if_neg e]
    rw [e1] at h
    refine ⟨e1, h, ?_, ?_⟩
    · intro h24
      exact e (by simp [afB, h, h24])
    · cases hx : l.any fun x => heB g.2.2 x with
      | false => rfl
      | true => exact absurd (by simp only [afB, h, hx]; simp) e
/-- What becomes of a packet at its last hop, by its leg. -/
theorem go_lg : goE Ls Hs t l p = lgE (afL (lgT Ls Hs t p) l) := by
  unfold goE
  cases h : stT t p with
  | none => simp only [lg_2 h, af_ne (l := l) (g := (2, ByteArray.empty, zeH)) (by simp)]; rfl
  | some q =>
    cases ha : atO Hs q.1 with
    | some m => simp only [ha, lg_1 (Ls := Ls) h ha, af_ne (l := l) (g := (1, m, zeH)) (by simp)]; rfl
    | none =>
      cases hp : peerO Ls q.1 with
      | none => simp only [ha, hp, lg_3 h ha hp, af_ne (l := l) (g := (3, ByteArray.empty, zeH)) (by simp)]; rfl
      | some s =>
        simp only [ha, hp, lg_0 h ha hp]
        by_cases e : l.length = 24 ∨ l.any (fun x => heB (s, q.2) x) = true
        · rw [if_pos e, afL, if_pos]
          · rfl
          · rcases e with e | e
            · simp [afB, e]
            · simp only [afB, e]
              simp
        · rw [if_neg e, afL, if_neg]
          · rfl
          · rw [not_or] at e
            simp only [afB, Bool.and_eq_true, Bool.or_eq_true, beq_iff_eq]
            exact fun h => h.2.elim e.1 e.2
end
section
variable {S : Int} {Ls : List ((Int × Int) × (Int × Int))} {Hs : List (ByteArray × (Int × Int))} {Ts : List (List Ru)} {l : List ((Int × Int) × Int)}
/-- One round, by the leg. -/
theorem fo_end (h : l.length ≤ 24) {g : Lg} (hg : g = afL (lgT Ls Hs (taT Ts (laH l).1.1) (laH l)) l) (h0 : g.1 ≠ 0) : foF Ls Hs Ts (25 - l.length) l = (g.1, g.2.1, l) := by
  have e : enE Ls Hs Ts l (laH l) = .inl (g.1, g.2.1) := by
    show goE _ _ _ _ _ = _
    rw [go_lg, ← hg, lgE, if_neg h0]
  rw [fo_r h, e]
theorem fo_on (h : l.length ≤ 24) {g : Lg} (hg : g = afL (lgT Ls Hs (taT Ts (laH l).1.1) (laH l)) l) (h0 : g.1 = 0) : foF Ls Hs Ts (25 - l.length) l = foF Ls Hs Ts (25 - (l ++ [g.2.2]).length) (l ++ [g.2.2]) := by
  have e : enE Ls Hs Ts l (laH l) = .inr g.2.2 := by
    show goE _ _ _ _ _ = _
    rw [go_lg, ← hg, lgE, if_pos h0]
  rw [fo_r h, e]
  simp only [List.length_append, List.length_cons, List.length_nil]
  rw [show 24 - l.length = 25 - (l.length + (0 + 1)) by omega]
theorem lg_sp (ht : tpN S Ls Hs = 0) {t : List Ru} {p : (Int × Int) × Int} (h : (lgT Ls Hs t p).1 = 0) : spB S (lgT Ls Hs t p).2.2.1 = true := by
  cases h1 : stT t p with
  | none => rw [lg_2 h1] at h; cases h
  | some q =>
    cases ha : atO Hs q.1 with
    | some m => rw [lg_1 h1 ha] at h; cases h
    | none =>
      cases hp : peerO Ls q.1 with
      | none => rw [lg_3 h1 ha hp] at h; cases h
      | some s =>
        rw [lg_0 h1 ha hp]
        exact peer_sp ht hp
theorem lg_name (ht : tpN S Ls Hs = 0) (t : List Ru) (p : (Int × Int) × Int) : (lgT Ls Hs t p).2.1.size ≤ 1000000 := by
  cases h1 : stT t p with
  | none => rw [lg_2 h1]; decide
  | some q =>
    cases ha : atO Hs q.1 with
    | some m =>
      rw [lg_1 h1 ha]
      rcases at_ix Hs q.1 with ⟨_, ho⟩ | ⟨k, hk, _, ho⟩
      · rw [ha] at ho; cases ho
      · rw [ha] at ho
        cases ho
        have h := (tp_0 ht).2.2.2.2.1 Hs[k] (List.getElem_mem hk)
        have h2 := h.1
        simp only [nmB, Bool.and_eq_true, decide_eq_true_eq] at h2
        show Hs[k].1.size ≤ _
        omega
    | none =>
      cases hp : peerO Ls q.1 with
      | none => rw [lg_3 h1 ha hp]; decide
      | some s =>
        rw [lg_0 h1 ha hp]
        show ByteArray.empty.size ≤ 1000000
        decide
theorem af_name {g : Lg} (h : g.2.1.size ≤ 1000000) : (afL g l).2.1.size ≤ 1000000 := by
  unfold afL
  by_cases e : afB g l = true
  · rw [if_pos e]; decide
  · rw [if_neg e]; exact h
end
end Go.Proofs.YtpmcjelihdlfeaaDoor
/- What topo.checkSpot answers: a contract for the walks above it. -/
namespace Go.Proofs.YtpmcjelihdlfeaaDoor
open Go.RowKit
set_option linter.unusedSimpArgs false
set_option linter.unusedVariables false

end Go.Proofs.YtpmcjelihdlfeaaDoor
/- What topo.Peers answers: a contract for the walks above it. -/
namespace Go.Proofs.YtpmcjelihdlfeaaDoor
open Go.RowKit
set_option linter.unusedSimpArgs false
set_option linter.unusedVariables false

/-- Spots as elements. -/
def veS (p : Int × Int) : Value := .agg #[.int .i64 p.1, .int .i64 p.2]
set_option maxHeartbeats 2000000 in
set_option maxRecDepth 100000 in
theorem peers_any (ao : Option Addr) (n cap : Nat) (Ls : List ((Int × Int) × (Int × Int))) (w : World) (hL : GS lnkE w (.slice ao n cap) Ls) (hd : (spsL Ls).Nodup) (h1000 : n ≤ 1000) :
    Calls Tryd.prog 61 #[.slice ao n cap] w fun e w' => ∃ B M, e = .returned (.map (some B)) ∧ MAt spotKey veS w' B M ∧ PM M Ls ∧ Below w.heap.size w w' := by
  obtain ⟨_, _, _, e1, hLn, hLm, _, hLa⟩ := hL.form
  cases e1
  have HLN : Hid (Ls.length = n) := hLn
  have HLA : Hid (0 < n → ∃ g o, ao = some ⟨g, o, none⟩ ∧ GAt lnkE w g o Ls ∧ cap ≤ maxLen) := hLa
  have HND : Hid ((spsL Ls).Nodup) := hd
  have hmk := run_makeMap (P := Tryd.prog) 124 w
  have HM1 : Hid (MAt spotKey veS (w.alloc (.map #[] 0)) w.heap.size []) := mat_new spotKey veS w
  clear hL hLn hLm hLa hd
  go_enter Tryd.func61, Tryd.ntmps61
  go_wp2
  obtain ⟨B, hB⟩ : ∃ x, w.heap.size = x := ⟨_, rfl⟩
  have HB : Hid (w.heap.size = B) := hB
  go_loopw [9] (fun i wr => ∃ k : Nat, k ≤ n ∧ i = .int .i64 k ∧ (∃ M, MAt spotKey veS wr w.heap.size M ∧ PM M (Ls.take k)) ∧ Below w.heap.size w wr) (fun i _ => n - (intOf i).toNat)
  case atStart => exact ⟨0, by omega, rfl, ⟨[], HM1.out, by simpa using pm_nil⟩, (Below.refl _ _).alloc (Nat.le_refl _) _⟩
  case round =>
    obtain ⟨k, hk, rfl, ⟨M, hM, hP⟩, hBw⟩ := hrel
    have HM : Hid (MAt spotKey veS wr w.heap.size M) := hM
    have HP : Hid (PM M (Ls.take k)) := hP
    have HBw : Hid (Below w.heap.size w wr) := hBw
    clear hB
    by_cases hlt : k < n
    · obtain ⟨g, o, hao, hc, _⟩ := HLA.out (by omega)
      subst hao
      obtain ⟨x0, x1, x2, x3, hkl, hLk, q0, q1, q2, q3⟩ := lnk_at (hc.later hBw) HLN.out hlt
      have HLk : Hid (Ls[k] = ((x0, x1), (x2, x3))) := hLk
      obtain ⟨W0, hW0⟩ : ∃ W0, wr.alloc (Obj.cells #[Value.int IntKind.i64 x0, Value.int IntKind.i64 x1, Value.int IntKind.i64 x2, Value.int IntKind.i64 x3] 91) = W0 := ⟨_, rfl⟩
      have hBA : Below wr.heap.size wr W0 := by
        rw [← hW0]
        exact (Below.refl _ _).alloc (Nat.le_refl _) _
      obtain ⟨c0, c1, c2, c3⟩ := lnk_cells (lnk_new wr x0 x1 x2 x3 91)
      simp only [Nat.zero_add] at c0 c1 c2 c3
      rw [hW0] at c0 c1 c2 c3
      have hM0 : MAt spotKey veS W0.drew w.heap.size M := hM.later hBA.drew
      obtain ⟨w3, hu1, hM3, hg3⟩ := run_update_M hM0 124 30 Tryd.underlying124 (x0, x1) (x2, x3)
      obtain ⟨w4, hu2, hM4, hg4⟩ := run_update_M hM3 124 30 Tryd.underlying124 (x2, x3) (x0, x1)
      have hlw : w.heap.size < wr.heap.size := hM.lt
      have hlW : wr.heap.size < W0.drew.heap.size := World.block_lt_of_cell? _ _ c0
      have hk3 : ∀ i, w3.cell? ⟨wr.heap.size, i, none⟩ = W0.cell? ⟨wr.heap.size, i, none⟩ := fun i => World.cell?_of_block (w := W0) (a := ⟨wr.heap.size, i, none⟩) (hg3.block wr.heap.size hlW (fun e => by simp only [Option.some.injEq] at e; omega))
      have d0 := (hk3 0).trans c0
      have d1 := (hk3 1).trans c1
      have d2 := (hk3 2).trans c2
      have d3 := (hk3 3).trans c3
      have v1 : (Instr.mapUpdate 124 (.map (some w.heap.size)) (.agg #[.int .i64 x0, .int .i64 x1]) (.agg #[.int .i64 x2, .int .i64 x3])).run Tryd.prog W0.drew = .ok () w3 := hu1
      have v2 : (Instr.mapUpdate 124 (.map (some w.heap.size)) (.agg #[.int .i64 x2, .int .i64 x3]) (.agg #[.int .i64 x0, .int .i64 x1])).run Tryd.prog w3 = .ok () w4 := hu2
      have HM4 : Hid (MAt spotKey veS w4 w.heap.size (mput sq (x2, x3) (x0, x1) (mput sq (x0, x1) (x2, x3) M))) := hM4
      have HP4 : Hid (PM (mput sq (x2, x3) (x0, x1) (mput sq (x0, x1) (x2, x3) M)) (Ls.take (k + 1))) := by
        have e : Ls.take (k + 1) = Ls.take k ++ [((x0, x1), (x2, x3))] := by rw [List.take_succ_eq_append_getElem hkl, hLk]
        show PM _ _
        rw [e]
        refine pm_put hP ?_
        rw [← e]
        exact sps_nd HND.out _
      have HB4 : Hid (Below w.heap.size w w4) := by
        have h0 : Below w.heap.size w W0.drew := (hBw.trans (hBA.mono hBw.size)).drew
        exact (h0.grown hg3 h0.size (fun j e => by cases e; exact Nat.le_refl _)).grown hg4 (Nat.le_trans h0.size hg3.size) (fun j e => by cases e; exact Nat.le_refl _)
      have kb0 : (0 : Int) ≤ (k : Int) := by omega
      have kb1 : (k : Int) < (n : Int) := by omega
      clear hk3 hlw hlW hu1 hu2 hM3 hM4 hg3 hg4 hM0 hM hP hc hLk hBw hBA
      go_upto_region 5 with fail
      clear q0 q1 q2 q3
      go_region
      go_wp2
      go_roundw
      case rel => exact ⟨k + 1, by omega, by go_num, ⟨_, HM4.out, HP4.out⟩, HB4.out⟩
      case measure => simp [intOf]; omega
    · obtain rfl : k = n := by omega
      clear hM hP hBw
      go_wp2
      go_ret
      exact ⟨_, M, rfl, HM.out, by have := HP.out; rw [← HLN.out, List.take_length] at this; exact this, HBw.out⟩
end Go.Proofs.YtpmcjelihdlfeaaDoor
/- What topo.Peer answers: a contract for the walks above it. -/
namespace Go.Proofs.YtpmcjelihdlfeaaDoor
open Go.RowKit
set_option linter.unusedSimpArgs false
set_option linter.unusedVariables false

/-- The three boxes of a call: a topology, a spot, the answer. -/
def pbox (w : World) (S : Int) (v1 v2 : Value) (x y : Int) : World := ((w.alloc (Obj.cells #[.int .i64 S, v1, v2] 25)).alloc (Obj.cells #[.int .i64 x, .int .i64 y] 30)).alloc (Obj.cells #[.int .i64 0, .int .i64 0] 30)
structure PBox (w W : World) (S : Int) (v1 v2 : Value) (x y : Int) : Prop where
  below : Below w.heap.size w W
  t : TBox W w.heap.size S v1 v2
  s0 : W.cell? ⟨w.heap.size + 1, 0, none⟩ = some (.int .i64 x)
  s1 : W.cell? ⟨w.heap.size + 1, 1, none⟩ = some (.int .i64 y)
  r0 : W.cell? ⟨w.heap.size + 1 + 1, 0, none⟩ = some (.int .i64 0)
  r1 : W.cell? ⟨w.heap.size + 1 + 1, 1, none⟩ = some (.int .i64 0)
  f : ∀ i, W.frozen? ⟨w.heap.size + 1 + 1, i, none⟩ = false
theorem froz_new2 (w : World) (cs : Array Value) (t : TypeId) (k : Nat) : (w.alloc (.cells cs t)).frozen? ⟨w.heap.size, k, none⟩ = false := by simp
theorem pbox_new (w : World) (S : Int) (v1 v2 : Value) (x y : Int) : PBox w (pbox w S v1 v2 x y) S v1 v2 x y := by
  have e1 : (w.alloc (Obj.cells #[.int .i64 S, v1, v2] 25)).heap.size = w.heap.size + 1 := by simp
  have e2 : ((w.alloc (Obj.cells #[.int .i64 S, v1, v2] 25)).alloc (Obj.cells #[.int .i64 x, .int .i64 y] 30)).heap.size = w.heap.size + 1 + 1 := by simp
  have hb : ∀ (W : World) (o : Obj), Below W.heap.size W (W.alloc o) := fun W o => (Below.refl _ _).alloc (Nat.le_refl _) _
  have hs := (vat_new (w.alloc (Obj.cells #[.int .i64 S, v1, v2] 25)) [.int .i64 x, .int .i64 y] 30).later (hb _ (Obj.cells #[.int .i64 0, .int .i64 0] 30))
  rw [e1] at hs
  have hr := vat_new ((w.alloc (Obj.cells #[.int .i64 S, v1, v2] 25)).alloc (Obj.cells #[.int .i64 x, .int .i64 y] 30)) [.int .i64 0, .int .i64 0] 30
  rw [e2] at hr
  have hf := froz_new2 ((w.alloc (Obj.cells #[.int .i64 S, v1, v2] 25)).alloc (Obj.cells #[.int .i64 x, .int .i64 y] 30)) #[.int .i64 0, .int .i64 0] 30
  rw [e2] at hf
  exact ⟨(((Below.refl _ _).alloc (Nat.le_refl _) _).alloc (by rw [e1]; omega) _).alloc (by rw [e2]; omega) _, ((tbox_new w S v1 v2 25).later (hb _ _)).later (hb _ _), hs 0 _ rfl, hs 1 _ rfl, hr 0 _ rfl, hr 1 _ rfl, hf⟩
theorem PBox.later {w W W' : World} {S : Int} {v1 v2 : Value} {x y : Int} (h : PBox w W S v1 v2 x y) (hb : Below W.heap.size W W') : PBox w W' S v1 v2 x y :=
  ⟨h.below.trans (hb.mono h.below.size), h.t.later hb, cell_later hb h.s0, cell_later hb h.s1, cell_later hb h.r0, cell_later hb h.r1, fun i => (hb.frozen (p := ⟨w.heap.size + 1 + 1, i, none⟩) (show (⟨w.heap.size + 1 + 1, 0, none⟩ : Addr).block < W.heap.size from World.block_lt_of_cell? W ⟨w.heap.size + 1 + 1, 0, none⟩ h.r0)).trans (h.f i)⟩
theorem below_two2 {w W : World} (h : Below w.heap.size w W) (g : Nat) (hg : w.heap.size ≤ g) (u v : Value) : Below w.heap.size w ((W.setCell ⟨g, 0, none⟩ u).setCell ⟨g, 1, none⟩ v) := (h.setCell (p := ⟨g, 0, none⟩) hg u).setCell (p := ⟨g, 1, none⟩) hg v
theorem bdrew {w w' : World} (hb : Below w.drew.heap.size w.drew w') : Below w.heap.size w w' := (Below.drew (Below.refl _ _)).trans hb
theorem balloc {w w' : World} {o : Obj} (hb : Below (w.drew.alloc o).heap.size (w.drew.alloc o) w') : Below w.heap.size w w' := ((Below.drew (Below.refl _ _)).alloc (Nat.le_refl _) o).trans (hb.mono (by simp))
theorem ballocC {w w' : World} {a b : Value} {t : TypeId} (hb : Below (w.drew.alloc (Obj.cells #[a, b] t)).heap.size (w.drew.alloc (Obj.cells #[a, b] t)) w') : w'.cell? ⟨w.heap.size, 0, none⟩ = some a ∧ w'.cell? ⟨w.heap.size, 1, none⟩ = some b ∧ w'.frozen? ⟨w.heap.size, 0, none⟩ = false ∧ w'.frozen? ⟨w.heap.size, 1, none⟩ = false := by
  have h := vat_new w.drew [a, b] t
  have hl : w.heap.size < (w.drew.alloc (Obj.cells #[a, b] t)).heap.size := by simp
  exact ⟨cell_later hb (h 0 _ rfl), cell_later hb (h 1 _ rfl), (hb.frozen (p := ⟨w.heap.size, 0, none⟩) hl).trans (froz_new2 w.drew #[a, b] t 0), (hb.frozen (p := ⟨w.heap.size, 1, none⟩) hl).trans (froz_new2 w.drew #[a, b] t 1)⟩
theorem two_cells {w' : World} {g : Nat} {a b u v : Value} (k0 : w'.cell? ⟨g, 0, none⟩ = some u) (k1 : w'.cell? ⟨g, 1, none⟩ = some v) (ha : a.oneCell' = true) (hb : b.oneCell' = true) : ((w'.setCell ⟨g, 0, none⟩ a).setCell ⟨g, 1, none⟩ b).cell? ⟨g, 0, none⟩ = some a ∧ ((w'.setCell ⟨g, 0, none⟩ a).setCell ⟨g, 1, none⟩ b).cell? ⟨g, 1, none⟩ = some b := by
  have h1 : (w'.setCell ⟨g, 0, none⟩ a).cell? ⟨g, 1, none⟩ = some v := by
    rw [World.cell?_setCell_other _ _ _ _ (by simp)]
    exact k1
  constructor
  · rw [World.cell?_setCell_other _ _ _ _ (by simp)]
    exact World.cell?_setCell_same _ _ _ k0
  · exact World.cell?_setCell_same _ _ _ h1
/-- What a look-up of a spot answers. -/
theorem peer_look {W : World} {B : Nat} {M : List ((Int × Int) × (Int × Int))} {Ls : List ((Int × Int) × (Int × Int))} (hM : MAt spotKey veS W B M) (hP : PM M Ls) (x y : Int) :
    (Instr.lookup 124 (.map (some B)) (.agg #[.int .i64 x, .int .i64 y]) true).run Tryd.prog W = .ok (.tuple #[.agg #[.int .i64 ((peerO Ls (x, y)).getD (0, 0)).1, .int .i64 ((peerO Ls (x, y)).getD (0, 0)).2], .bool (peerO Ls (x, y)).isSome]) W := by
  have h := run_lookup_M hM 124 30 Tryd.underlying124 (.agg #[.int .i64 0, .int .i64 0]) (fun w => by kernel_rfl) (x, y) true
  rw [show mget spotKey.q (x, y) M = peerO Ls (x, y) from hP (x, y)] at h
  simp only [if_true] at h
  cases hp : peerO Ls (x, y) with
  | none => rw [hp] at h; exact h
  | some p => rw [hp] at h; exact h
end Go.Proofs.YtpmcjelihdlfeaaDoor
