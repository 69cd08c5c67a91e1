/- Contracts and facts on the way to ChangeBack, joined into one text: AlikeMath, SmTopo, TableDo2, TableBey, TableOps, TableDiff. -/
import Derived.Test.YtokkmnednhigmaeChangeBackP1
import Derived.Test.YtokkmnednhigmaeChangeBackP4
import Derived.Test.YtokkmnednhigmaeChangeBackP5
import Derived.Deep.CutRange
import Derived.Deep.CutBlock
/- Are two topologies the same, as they stand? -/
namespace Go.Proofs.Ytokkmnednhigmae
open Go.RowKit
set_option linter.unusedSimpArgs false
set_option linter.unusedVariables false

theorem hstB_iff (a b : ByteArray × (Int × Int)) : hstB a b = true ↔ a = b := by
  obtain ⟨a0, a1, a2⟩ := a
  obtain ⟨b0, b1, b2⟩ := b
  simp only [hstB, Bool.and_eq_true, beq_iff_eq, Prod.mk.injEq, ba_iff]
/-- Two topologies have all the same. -/
def tpB (S S' : Int) (Ls Ls' : List ((Int × Int) × (Int × Int))) (Hs Hs' : List (ByteArray × (Int × Int))) : Bool := decide (S = S') && (smG lnkB Ls Ls' && smG hstB Hs Hs')
theorem tpB_iff {S S' : Int} {Ls Ls' : List ((Int × Int) × (Int × Int))} {Hs Hs' : List (ByteArray × (Int × Int))} : tpB S S' Ls Ls' Hs Hs' = true ↔ S = S' ∧ Ls = Ls' ∧ Hs = Hs' := by
  simp only [tpB, Bool.and_eq_true, decide_eq_true_eq, smG_eq lnkB_iff, smG_eq hstB_iff]
/-- Two boxes, and a link of each: a class of worlds. -/
def LC (w : World) (B : Nat) (S S' : Int) (a1 a2 b1 b2 : Value) (g o : Nat) (x0 x1 x2 x3 : Int) (g' o' : Nat) (y0 y1 y2 y3 : Int) (w' : World) : Prop :=
  Below w.heap.size w w' ∧ TBox w' B S a1 a2 ∧ TBox w' (B + 1) S' b1 b2 ∧ (w'.cell? ⟨g, o, none⟩ = some (.int .i64 x0) ∧ w'.cell? ⟨g, o + 1, none⟩ = some (.int .i64 x1) ∧ w'.cell? ⟨g, o + 2, none⟩ = some (.int .i64 x2) ∧ w'.cell? ⟨g, o + 3, none⟩ = some (.int .i64 x3)) ∧
    w'.cell? ⟨g', o', none⟩ = some (.int .i64 y0) ∧ w'.cell? ⟨g', o' + 1, none⟩ = some (.int .i64 y1) ∧ w'.cell? ⟨g', o' + 2, none⟩ = some (.int .i64 y2) ∧ w'.cell? ⟨g', o' + 3, none⟩ = some (.int .i64 y3)
theorem LC.later {w W W' : World} {B : Nat} {S S' : Int} {a1 a2 b1 b2 : Value} {g o : Nat} {x0 x1 x2 x3 : Int} {g' o' : Nat} {y0 y1 y2 y3 : Int} (hb : Below W.heap.size W W') (h : LC w B S S' a1 a2 b1 b2 g o x0 x1 x2 x3 g' o' y0 y1 y2 y3 W) : LC w B S S' a1 a2 b1 b2 g o x0 x1 x2 x3 g' o' y0 y1 y2 y3 W' := by
  obtain ⟨h0, t1, t2, ⟨h1, h2, h3, h4⟩, k1, k2, k3, k4⟩ := h
  exact ⟨h0.trans (hb.mono h0.size), t1.later hb, t2.later hb, ⟨cell_later hb h1, cell_later hb h2, cell_later hb h3, cell_later hb h4⟩, cell_later hb k1, cell_later hb k2, cell_later hb k3, cell_later hb k4⟩
/-- Two boxes, and a host of each. -/
def HC (w : World) (B : Nat) (S S' : Int) (a1 a2 b1 b2 : Value) (g o : Nat) (x0 : ByteArray) (x1 x2 : Int) (g' o' : Nat) (y0 : ByteArray) (y1 y2 : Int) (w' : World) : Prop :=
  Below w.heap.size w w' ∧ TBox w' B S a1 a2 ∧ TBox w' (B + 1) S' b1 b2 ∧ (w'.cell? ⟨g, o, none⟩ = some (.string x0) ∧ w'.cell? ⟨g, o + 1, none⟩ = some (.int .i64 x1) ∧ w'.cell? ⟨g, o + 2, none⟩ = some (.int .i64 x2)) ∧
    w'.cell? ⟨g', o', none⟩ = some (.string y0) ∧ w'.cell? ⟨g', o' + 1, none⟩ = some (.int .i64 y1) ∧ w'.cell? ⟨g', o' + 2, none⟩ = some (.int .i64 y2)
theorem HC.later {w W W' : World} {B : Nat} {S S' : Int} {a1 a2 b1 b2 : Value} {g o : Nat} {x0 : ByteArray} {x1 x2 : Int} {g' o' : Nat} {y0 : ByteArray} {y1 y2 : Int} (hb : Below W.heap.size W W') (h : HC w B S S' a1 a2 b1 b2 g o x0 x1 x2 g' o' y0 y1 y2 W) : HC w B S S' a1 a2 b1 b2 g o x0 x1 x2 g' o' y0 y1 y2 W' := by
  obtain ⟨h0, t1, t2, ⟨h1, h2, h3⟩, k1, k2, k3⟩ := h
  exact ⟨h0.trans (hb.mono h0.size), t1.later hb, t2.later hb, ⟨cell_later hb h1, cell_later hb h2, cell_later hb h3⟩, cell_later hb k1, cell_later hb k2, cell_later hb k3⟩
/-- Two boxes. -/
def TT (W : World) (B : Nat) (S S' : Int) (a1 a2 b1 b2 : Value) : Prop := TBox W B S a1 a2 ∧ TBox W (B + 1) S' b1 b2
theorem tt_new (w : World) (S S' : Int) (a1 a2 b1 b2 : Value) (t : TypeId) : TT ((w.alloc (Obj.cells #[.int .i64 S, a1, a2] t)).alloc (Obj.cells #[.int .i64 S', b1, b2] t)) w.heap.size S S' a1 a2 b1 b2 := by
  refine ⟨(tbox_new w S a1 a2 t).later ((Below.refl _ _).alloc (Nat.le_refl _) _), ?_⟩
  have := tbox_new (w.alloc (Obj.cells #[.int .i64 S, a1, a2] t)) S' b1 b2 t
  simpa using this
theorem TT.later {W W' : World} {B : Nat} {S S' : Int} {a1 a2 b1 b2 : Value} (h : TT W B S S' a1 a2 b1 b2) (hb : Below W.heap.size W W') : TT W' B S S' a1 a2 b1 b2 := ⟨h.1.later hb, h.2.later hb⟩
end Go.Proofs.Ytokkmnednhigmae
/- What railsame.Topo answers at any two topologies. Written by mk/alike.py. -/
namespace Go.Proofs.Ytokkmnednhigmae
open Go.RowKit
set_option linter.unusedSimpArgs false
set_option linter.unusedVariables false

set_option maxHeartbeats 4000000 in
set_option maxRecDepth 100000 in
theorem smTopo_any (S : Int) (ao : Option Addr) (n cap : Nat) (ao2 : Option Addr) (n2 cap2 : Nat) (Ls : List ((Int × Int) × (Int × Int))) (Hs : List (ByteArray × (Int × Int))) (S' : Int) (bo : Option Addr) (m cap3 : Nat) (bo2 : Option Addr) (m2 cap4 : Nat) (Ls' : List ((Int × Int) × (Int × Int))) (Hs' : List (ByteArray × (Int × Int))) (w : World)
    (hL : GS lnkE w (.slice ao n cap) Ls) (hH : GS hstE w (.slice ao2 n2 cap2) Hs) (hL' : GS lnkE w (.slice bo m cap3) Ls') (hH' : GS hstE w (.slice bo2 m2 cap4) Hs') :
    Calls Try.prog 21 #[.agg #[.int .i64 S, .slice ao n cap, .slice ao2 n2 cap2], .agg #[.int .i64 S', .slice bo m cap3, .slice bo2 m2 cap4]] w fun e w' => e = .returned (.bool (tpB S S' Ls Ls' Hs Hs')) ∧ Below w.heap.size w w' := by
  obtain ⟨_, _, _, e, hn, hn2, hn3, ha⟩ := hL.form
  cases e
  obtain ⟨_, _, _, e, hm, hm2, hm3, hb⟩ := hL'.form
  cases e
  obtain ⟨_, _, _, e, gn, gn2, gn3, ga⟩ := hH.form
  cases e
  obtain ⟨_, _, _, e, gm, gm2, gm3, gb⟩ := hH'.form
  cases e
  have HN1 : Hid (Ls.length = n) := hn
  have HM1 : Hid (Ls'.length = m) := hm
  have HN2 : Hid (Hs.length = n2) := gn
  have HM2 : Hid (Hs'.length = m2) := gm
  have HA1 : Hid (0 < n → ∃ g o, ao = some ⟨g, o, none⟩ ∧ GAt lnkE w g o Ls ∧ cap ≤ maxLen) := ha
  have HB1 : Hid (0 < m → ∃ g o, bo = some ⟨g, o, none⟩ ∧ GAt lnkE w g o Ls' ∧ cap3 ≤ maxLen) := hb
  have HA2 : Hid (0 < n2 → ∃ g o, ao2 = some ⟨g, o, none⟩ ∧ GAt hstE w g o Hs ∧ cap2 ≤ maxLen) := ga
  have HB2 : Hid (0 < m2 → ∃ g o, bo2 = some ⟨g, o, none⟩ ∧ GAt hstE w g o Hs' ∧ cap4 ≤ maxLen) := gb
  have n63 : n ≤ 9223372036854775807 := by unfold maxLen at hn2; omega
  have n263 : n2 ≤ 9223372036854775807 := by unfold maxLen at gn2; omega
  have HT : Hid (TT ((w.alloc (Obj.cells #[.int .i64 S, .slice ao n cap, .slice ao2 n2 cap2] 25)).alloc (Obj.cells #[.int .i64 S', .slice bo m cap3, .slice bo2 m2 cap4] 25)) w.heap.size S S' (.slice ao n cap) (.slice ao2 n2 cap2) (.slice bo m cap3) (.slice bo2 m2 cap4)) := tt_new w S S' _ _ _ _ 25
  have HBW : Hid (Below w.heap.size w ((w.alloc (Obj.cells #[.int .i64 S, .slice ao n cap, .slice ao2 n2 cap2] 25)).alloc (Obj.cells #[.int .i64 S', .slice bo m cap3, .slice bo2 m2 cap4] 25))) := ((Below.refl _ _).alloc (Nat.le_refl _) _).alloc (by simp) _
  clear hL hH hL' hH' hn ha hm hb hn2 hm2 gn ga gm gb gn2 gm2
  obtain ⟨R, hR⟩ : ∃ R, R = tpB S S' Ls Ls' Hs Hs' := ⟨_, rfl⟩
  have HR : Hid (R = tpB S S' Ls Ls' Hs Hs') := hR
  rw [← hR]
  clear hR
  by_cases hl : S = S' ∧ n = m ∧ n2 = m2
  · obtain ⟨rfl, rfl, rfl⟩ := hl
    have and_no1 : smG lnkB Ls Ls' = false → tpB S S Ls Ls' Hs Hs' = false := fun h => by rw [tpB, h]; simp
    have and_no2 : smG hstB Hs Hs' = false → tpB S S Ls Ls' Hs Hs' = false := fun h => by rw [tpB, h]; simp
    have e1 : (S == S) = true := by simp
    have e2 : ((n : Int) == (n : Int)) = true := by simp
    have e3 : ((n2 : Int) == (n2 : Int)) = true := by simp
    go_enter Try.func21, Try.ntmps21
    go_wp2
    go_loopw [5] (fun i wr => ∃ k1 : Nat, k1 ≤ n ∧ i = .int .i64 k1 ∧ (∀ j, j < k1 → ∀ (h1 : j < Ls.length) (h2 : j < Ls'.length), lnkB Ls[j] Ls'[j] = true) ∧ TT wr w.heap.size S S (.slice ao n cap) (.slice ao2 n2 cap2) (.slice bo n cap3) (.slice bo2 n2 cap4) ∧ Below w.heap.size w wr) (fun i _ => n - (intOf i).toNat)
    case atStart => exact ⟨0, by omega, rfl, fun j hj => absurd hj (by omega), HT.out, HBW.out⟩
    case round =>
      obtain ⟨k1, hk, rfl, hall, hT, hB⟩ := hrel
      clear HT HBW
      have HB : Hid (Below w.heap.size w wr) := hB
      have HT2 : Hid (TT wr w.heap.size S S (.slice ao n cap) (.slice ao2 n2 cap2) (.slice bo n cap3) (.slice bo2 n2 cap4)) := hT
      have HALL : Hid (∀ j, j < k1 → ∀ (h1 : j < Ls.length) (h2 : j < Ls'.length), lnkB Ls[j] Ls'[j] = true) := hall
      obtain ⟨⟨p0, p1, p2⟩, s0, s1, s2⟩ := hT
      have hlt1 : w.heap.size < wr.heap.size := World.block_lt_of_cell? _ _ p0
      have hlt2 : w.heap.size + 1 < wr.heap.size := World.block_lt_of_cell? _ _ s0
      clear hall
      by_cases hlt : k1 < n
      · obtain ⟨g, og, hao, hc, _⟩ := HA1.out (by omega)
        obtain ⟨g2, og2, hao2, hc2, _⟩ := HB1.out (by omega)
        subst hao hao2
        obtain ⟨x0, x1, x2, x3, hkl, hLk, q0, q1, q2, q3⟩ := lnk_at (hc.later hB) HN1.out hlt
        obtain ⟨y0, y1, y2, y3, hkm, hMk, r0, r1, r2, r3⟩ := lnk_at (hc2.later hB) HM1.out hlt
        have HCE : Hid (LC w w.heap.size S S (.slice (some ⟨g, og, none⟩) n cap) (.slice ao2 n2 cap2) (.slice (some ⟨g2, og2, none⟩) n cap3) (.slice bo2 n2 cap4) g (og + k1 * 4) x0 x1 x2 x3 g2 (og2 + k1 * 4) y0 y1 y2 y3 wr) := ⟨hB, ⟨p0, p1, p2⟩, ⟨s0, s1, s2⟩, ⟨q0, q1, q2, q3⟩, r0, r1, r2, r3⟩
        have HLK : Hid (Ls[k1] = ((x0, x1), (x2, x3)) ∧ Ls'[k1] = ((y0, y1), (y2, y3))) := ⟨hLk, hMk⟩
        clear q0 q1 q2 q3 r0 r1 r2 r3 hB hc hc2 hLk hMk HA1 HB1
        go_upto_region 6 with fail
        have kb0 : (0 : Int) ≤ (k1 : Int) := by omega
        have kb1 : (k1 : Int) < (n : Int) := by omega
        clear p0 p1 p2 s0 s1 s2
        go_cut [47] from 30 to 47 (fun c w' => c = .bool (!lnkB ((x0, x1), (x2, x3)) ((y0, y1), (y2, y3))) ∧ TT w' w.heap.size S S (.slice (some ⟨g, og, none⟩) n cap) (.slice ao2 n2 cap2) (.slice (some ⟨g2, og2, none⟩) n cap3) (.slice bo2 n2 cap4) ∧ Below w.heap.size w w')
        case first =>
          as_aux_lemma =>
            refine wp_region_quiet (C := LC w w.heap.size S S (.slice (some ⟨g, og, none⟩) n cap) (.slice ao2 n2 cap2) (.slice (some ⟨g2, og2, none⟩) n cap3) (.slice bo2 n2 cap4) g (og + k1 * 4) x0 x1 x2 x3 g2 (og2 + k1 * 4) y0 y1 y2 y3) (by kernel_rfl) (by kernel_rfl) (LC.later (W := wr) (Below.drew (Below.refl _ _)) HCE.out) ?_
            simp only [List.toList_toArray]
            go_big_quiet_want
            refine quiet_val (v := .pointer (some ⟨w.heap.size, 1, none⟩)) (fun w' hC => ?_) ?_
            · obtain ⟨z, ⟨t0, t1, t2⟩, ⟨s0, s1, s2⟩, ⟨z0, z1, z2, z3⟩, u0, u1, u2, u3⟩ := hC
              go_simp
            simp only [Act.put, List.setIfInBounds_toArray, List.set_cons_zero, List.set_cons_succ]
            go_big_quiet_on
            go_big_quiet_want
            refine quiet_val (v := .slice (some ⟨g, og, none⟩) n cap) (fun w' hC => ?_) ?_
            · obtain ⟨z, ⟨t0, t1, t2⟩, ⟨s0, s1, s2⟩, ⟨z0, z1, z2, z3⟩, u0, u1, u2, u3⟩ := hC
              go_simp
            simp only [Act.put, List.setIfInBounds_toArray, List.set_cons_zero, List.set_cons_succ]
            go_big_quiet_on
            go_big_quiet_want
            refine quiet_val (v := .int .i64 (k1 : Int)) (fun w' hC => ?_) ?_
            · obtain ⟨z, ⟨t0, t1, t2⟩, ⟨s0, s1, s2⟩, ⟨z0, z1, z2, z3⟩, u0, u1, u2, u3⟩ := hC
              go_simp
            simp only [Act.put, List.setIfInBounds_toArray, List.set_cons_zero, List.set_cons_succ]
            go_big_quiet_on
            go_big_quiet_want
            refine quiet_val (v := .pointer (some ⟨g, og + k1 * 4, none⟩)) (fun w' hC => ?_) ?_
            · obtain ⟨z, ⟨t0, t1, t2⟩, ⟨s0, s1, s2⟩, ⟨z0, z1, z2, z3⟩, u0, u1, u2, u3⟩ := hC
              go_simp
            simp only [Act.put, List.setIfInBounds_toArray, List.set_cons_zero, List.set_cons_succ]
            go_big_quiet_on
            go_big_quiet_want
            refine quiet_val (v := .agg #[.int .i64 x0, .int .i64 x1, .int .i64 x2, .int .i64 x3]) (fun w' hC => ?_) ?_
            · obtain ⟨z, ⟨t0, t1, t2⟩, ⟨s0, s1, s2⟩, ⟨z0, z1, z2, z3⟩, u0, u1, u2, u3⟩ := hC
              go_simp
            simp only [Act.put, List.setIfInBounds_toArray, List.set_cons_zero, List.set_cons_succ]
            go_big_quiet_on
            go_big_quiet_want
            refine quiet_val (v := .pointer (some ⟨w.heap.size + 1, 1, none⟩)) (fun w' hC => ?_) ?_
            · obtain ⟨z, ⟨t0, t1, t2⟩, ⟨s0, s1, s2⟩, ⟨z0, z1, z2, z3⟩, u0, u1, u2, u3⟩ := hC
              go_simp
            simp only [Act.put, List.setIfInBounds_toArray, List.set_cons_zero, List.set_cons_succ]
            go_big_quiet_on
            go_big_quiet_want
            refine quiet_val (v := .slice (some ⟨g2, og2, none⟩) n cap3) (fun w' hC => ?_) ?_
            · obtain ⟨z, ⟨t0, t1, t2⟩, ⟨s0, s1, s2⟩, ⟨z0, z1, z2, z3⟩, u0, u1, u2, u3⟩ := hC
              go_simp
            simp only [Act.put, List.setIfInBounds_toArray, List.set_cons_zero, List.set_cons_succ]
            go_big_quiet_on
            go_big_quiet_want
            refine quiet_val (v := .int .i64 (k1 : Int)) (fun w' hC => ?_) ?_
            · obtain ⟨z, ⟨t0, t1, t2⟩, ⟨s0, s1, s2⟩, ⟨z0, z1, z2, z3⟩, u0, u1, u2, u3⟩ := hC
              go_simp
            simp only [Act.put, List.setIfInBounds_toArray, List.set_cons_zero, List.set_cons_succ]
            go_big_quiet_on
            go_big_quiet_want
            refine quiet_val (v := .pointer (some ⟨g2, og2 + k1 * 4, none⟩)) (fun w' hC => ?_) ?_
            · obtain ⟨z, ⟨t0, t1, t2⟩, ⟨s0, s1, s2⟩, ⟨z0, z1, z2, z3⟩, u0, u1, u2, u3⟩ := hC
              go_simp
            simp only [Act.put, List.setIfInBounds_toArray, List.set_cons_zero, List.set_cons_succ]
            go_big_quiet_on
            go_big_quiet_want
            refine quiet_val (v := .agg #[.int .i64 y0, .int .i64 y1, .int .i64 y2, .int .i64 y3]) (fun w' hC => ?_) ?_
            · obtain ⟨z, ⟨t0, t1, t2⟩, ⟨s0, s1, s2⟩, ⟨z0, z1, z2, z3⟩, u0, u1, u2, u3⟩ := hC
              go_simp
            simp only [Act.put, List.setIfInBounds_toArray, List.set_cons_zero, List.set_cons_succ]
            go_big_quiet_on
            go_big_quiet_want
            refine quiet_val (v := .bool (!lnkB ((x0, x1), (x2, x3)) ((y0, y1), (y2, y3)))) (fun w' hC => exec_bin rfl (by go_simp) (run_neq_of (lnk_eq x0 x1 x2 x3 y0 y1 y2 y3 w'))) ?_
            simp only [Act.put, List.setIfInBounds_toArray, List.set_cons_zero, List.set_cons_succ]
            go_big_quiet_on
            refine wpQuiet_nil ?_
            intro w' hC
            go_wp2_with fail
            go_meet
            case rel => exact ⟨rfl, ⟨hC.2.1, hC.2.2.1⟩, hC.1⟩
        case rest =>
          obtain ⟨rfl, hTT, hB2⟩ := hcut
          have HB3 : Hid (Below w.heap.size w wc) := hB2
          have HT3 : Hid (TT wc w.heap.size S S (.slice (some ⟨g, og, none⟩) n cap) (.slice ao2 n2 cap2) (.slice (some ⟨g2, og2, none⟩) n cap3) (.slice bo2 n2 cap4)) := hTT
          clear HCE hB2 hTT
          cases ho : lnkB ((x0, x1), (x2, x3)) ((y0, y1), (y2, y3))
          · have HF : Hid (R = false) := by
              show R = false
              rw [HR.out]
              exact and_no1 (smG_no hkl hkm (by rw [HLK.out.1, HLK.out.2]; exact ho))
            go_wp2
            go_ret
            exact ⟨by rw [HF.out]; rfl, HB3.out⟩
          · have HAL2 : Hid (∀ j, j < k1 + 1 → ∀ (h1 : j < Ls.length) (h2 : j < Ls'.length), lnkB Ls[j] Ls'[j] = true) := by
              intro j hj h1 h2
              by_cases e : j = k1
              · subst e
                rw [HLK.out.1, HLK.out.2]
                exact ho
              · exact HALL.out j (by omega) h1 h2
            clear ho
            go_wp2
            go_roundw
            case rel => exact ⟨k1 + 1, by omega, by go_num, HAL2.out, HT3.out, HB3.out⟩
            case measure => simp [intOf]; omega
      · obtain rfl : k1 = n := by omega
        have HS1 : Hid (smG lnkB Ls Ls' = true) := smG_iff.2 ⟨by rw [HN1.out, HM1.out], fun i h1 h2 => HALL.out i (by rw [HN1.out] at h1; exact h1) h1 h2⟩
        clear HALL hlt hB HA1 HB1
        go_wp2
        go_loopw [6] (fun i wr => ∃ k : Nat, k ≤ n2 ∧ i = .int .i64 k ∧ (∀ j, j < k → ∀ (h1 : j < Hs.length) (h2 : j < Hs'.length), hstB Hs[j] Hs'[j] = true) ∧ TT wr w.heap.size S S (.slice ao k1 cap) (.slice ao2 n2 cap2) (.slice bo k1 cap3) (.slice bo2 n2 cap4) ∧ Below w.heap.size w wr) (fun i _ => n2 - (intOf i).toNat)
        case atStart => exact ⟨0, by omega, rfl, fun j hj => absurd hj (by omega), HT2.out, HB.out⟩
        case round =>
          obtain ⟨k, hk, rfl, hall, hT, hB⟩ := hrel
          clear HT2 HB
          have HB : Hid (Below w.heap.size w wr) := hB
          have HT2 : Hid (TT wr w.heap.size S S (.slice ao k1 cap) (.slice ao2 n2 cap2) (.slice bo k1 cap3) (.slice bo2 n2 cap4)) := hT
          have HALL : Hid (∀ j, j < k → ∀ (h1 : j < Hs.length) (h2 : j < Hs'.length), hstB Hs[j] Hs'[j] = true) := hall
          obtain ⟨⟨p0, p1, p2⟩, s0, s1, s2⟩ := hT
          have hlt1 : w.heap.size < wr.heap.size := World.block_lt_of_cell? _ _ p0
          have hlt2 : w.heap.size + 1 < wr.heap.size := World.block_lt_of_cell? _ _ s0
          clear hall
          by_cases hlt : k < n2
          · obtain ⟨g, og, hao, hc, _⟩ := HA2.out (by omega)
            obtain ⟨g2, og2, hao2, hc2, _⟩ := HB2.out (by omega)
            subst hao hao2
            obtain ⟨x0, x1, x2, hkl, hLk, q0, q1, q2⟩ := hst_at (hc.later hB) HN2.out hlt
            obtain ⟨y0, y1, y2, hkm, hMk, r0, r1, r2⟩ := hst_at (hc2.later hB) HM2.out hlt
            have HCE : Hid (HC w w.heap.size S S (.slice ao k1 cap) (.slice (some ⟨g, og, none⟩) n2 cap2) (.slice bo k1 cap3) (.slice (some ⟨g2, og2, none⟩) n2 cap4) g (og + k * 3) x0 x1 x2 g2 (og2 + k * 3) y0 y1 y2 wr) := ⟨hB, ⟨p0, p1, p2⟩, ⟨s0, s1, s2⟩, ⟨q0, q1, q2⟩, r0, r1, r2⟩
            have HLK : Hid (Hs[k] = (x0, (x1, x2)) ∧ Hs'[k] = (y0, (y1, y2))) := ⟨hLk, hMk⟩
            clear q0 q1 q2 r0 r1 r2 hB hc hc2 hLk hMk HA2 HB2
            go_upto_region 11 with fail
            have kb0 : (0 : Int) ≤ (k : Int) := by omega
            have kb1 : (k : Int) < (n2 : Int) := by omega
            clear p0 p1 p2 s0 s1 s2
            go_cut [65] from 48 to 65 (fun c w' => c = .bool (!hstB (x0, (x1, x2)) (y0, (y1, y2))) ∧ TT w' w.heap.size S S (.slice ao k1 cap) (.slice (some ⟨g, og, none⟩) n2 cap2) (.slice bo k1 cap3) (.slice (some ⟨g2, og2, none⟩) n2 cap4) ∧ Below w.heap.size w w')
            case first =>
              as_aux_lemma =>
                refine wp_region_quiet (C := HC w w.heap.size S S (.slice ao k1 cap) (.slice (some ⟨g, og, none⟩) n2 cap2) (.slice bo k1 cap3) (.slice (some ⟨g2, og2, none⟩) n2 cap4) g (og + k * 3) x0 x1 x2 g2 (og2 + k * 3) y0 y1 y2) (by kernel_rfl) (by kernel_rfl) (HC.later (W := wr) (Below.drew (Below.refl _ _)) HCE.out) ?_
                simp only [List.toList_toArray]
                go_big_quiet_want
                refine quiet_val (v := .pointer (some ⟨w.heap.size, 2, none⟩)) (fun w' hC => ?_) ?_
                · obtain ⟨z, ⟨t0, t1, t2⟩, ⟨s0, s1, s2⟩, ⟨z0, z1, z2⟩, u0, u1, u2⟩ := hC
                  go_simp
                simp only [Act.put, List.setIfInBounds_toArray, List.set_cons_zero, List.set_cons_succ]
                go_big_quiet_on
                go_big_quiet_want
                refine quiet_val (v := .slice (some ⟨g, og, none⟩) n2 cap2) (fun w' hC => ?_) ?_
                · obtain ⟨z, ⟨t0, t1, t2⟩, ⟨s0, s1, s2⟩, ⟨z0, z1, z2⟩, u0, u1, u2⟩ := hC
                  go_simp
                simp only [Act.put, List.setIfInBounds_toArray, List.set_cons_zero, List.set_cons_succ]
                go_big_quiet_on
                go_big_quiet_want
                refine quiet_val (v := .int .i64 (k : Int)) (fun w' hC => ?_) ?_
                · obtain ⟨z, ⟨t0, t1, t2⟩, ⟨s0, s1, s2⟩, ⟨z0, z1, z2⟩, u0, u1, u2⟩ := hC
                  go_simp
                simp only [Act.put, List.setIfInBounds_toArray, List.set_cons_zero, List.set_cons_succ]
                go_big_quiet_on
                go_big_quiet_want
                refine quiet_val (v := .pointer (some ⟨g, og + k * 3, none⟩)) (fun w' hC => ?_) ?_
                · obtain ⟨z, ⟨t0, t1, t2⟩, ⟨s0, s1, s2⟩, ⟨z0, z1, z2⟩, u0, u1, u2⟩ := hC
                  go_simp
                simp only [Act.put, List.setIfInBounds_toArray, List.set_cons_zero, List.set_cons_succ]
                go_big_quiet_on
                go_big_quiet_want
                refine quiet_val (v := .agg #[.string x0, .int .i64 x1, .int .i64 x2]) (fun w' hC => ?_) ?_
                · obtain ⟨z, ⟨t0, t1, t2⟩, ⟨s0, s1, s2⟩, ⟨z0, z1, z2⟩, u0, u1, u2⟩ := hC
                  go_simp
                simp only [Act.put, List.setIfInBounds_toArray, List.set_cons_zero, List.set_cons_succ]
                go_big_quiet_on
                go_big_quiet_want
                refine quiet_val (v := .pointer (some ⟨w.heap.size + 1, 2, none⟩)) (fun w' hC => ?_) ?_
                · obtain ⟨z, ⟨t0, t1, t2⟩, ⟨s0, s1, s2⟩, ⟨z0, z1, z2⟩, u0, u1, u2⟩ := hC
                  go_simp
                simp only [Act.put, List.setIfInBounds_toArray, List.set_cons_zero, List.set_cons_succ]
                go_big_quiet_on
                go_big_quiet_want
                refine quiet_val (v := .slice (some ⟨g2, og2, none⟩) n2 cap4) (fun w' hC => ?_) ?_
                · obtain ⟨z, ⟨t0, t1, t2⟩, ⟨s0, s1, s2⟩, ⟨z0, z1, z2⟩, u0, u1, u2⟩ := hC
                  go_simp
                simp only [Act.put, List.setIfInBounds_toArray, List.set_cons_zero, List.set_cons_succ]
                go_big_quiet_on
                go_big_quiet_want
                refine quiet_val (v := .int .i64 (k : Int)) (fun w' hC => ?_) ?_
                · obtain ⟨z, ⟨t0, t1, t2⟩, ⟨s0, s1, s2⟩, ⟨z0, z1, z2⟩, u0, u1, u2⟩ := hC
                  go_simp
                simp only [Act.put, List.setIfInBounds_toArray, List.set_cons_zero, List.set_cons_succ]
                go_big_quiet_on
                go_big_quiet_want
                refine quiet_val (v := .pointer (some ⟨g2, og2 + k * 3, none⟩)) (fun w' hC => ?_) ?_
                · obtain ⟨z, ⟨t0, t1, t2⟩, ⟨s0, s1, s2⟩, ⟨z0, z1, z2⟩, u0, u1, u2⟩ := hC
                  go_simp
                simp only [Act.put, List.setIfInBounds_toArray, List.set_cons_zero, List.set_cons_succ]
                go_big_quiet_on
                go_big_quiet_want
                refine quiet_val (v := .agg #[.string y0, .int .i64 y1, .int .i64 y2]) (fun w' hC => ?_) ?_
                · obtain ⟨z, ⟨t0, t1, t2⟩, ⟨s0, s1, s2⟩, ⟨z0, z1, z2⟩, u0, u1, u2⟩ := hC
                  go_simp
                simp only [Act.put, List.setIfInBounds_toArray, List.set_cons_zero, List.set_cons_succ]
                go_big_quiet_on
                go_big_quiet_want
                refine quiet_val (v := .bool (!hstB (x0, (x1, x2)) (y0, (y1, y2)))) (fun w' hC => exec_bin rfl (by go_simp) (run_neq_of (hst_eq x0 x1 x2 y0 y1 y2 w'))) ?_
                simp only [Act.put, List.setIfInBounds_toArray, List.set_cons_zero, List.set_cons_succ]
                go_big_quiet_on
                refine wpQuiet_nil ?_
                intro w' hC
                go_wp2_with fail
                go_meet
                case rel => exact ⟨rfl, ⟨hC.2.1, hC.2.2.1⟩, hC.1⟩
            case rest =>
              obtain ⟨rfl, hTT, hB2⟩ := hcut
              have HB3 : Hid (Below w.heap.size w wc) := hB2
              have HT3 : Hid (TT wc w.heap.size S S (.slice ao k1 cap) (.slice (some ⟨g, og, none⟩) n2 cap2) (.slice bo k1 cap3) (.slice (some ⟨g2, og2, none⟩) n2 cap4)) := hTT
              clear HCE hB2 hTT
              cases ho : hstB (x0, (x1, x2)) (y0, (y1, y2))
              · have HF : Hid (R = false) := by
                  show R = false
                  rw [HR.out]
                  exact and_no2 (smG_no hkl hkm (by rw [HLK.out.1, HLK.out.2]; exact ho))
                go_wp2
                go_ret
                exact ⟨by rw [HF.out]; rfl, HB3.out⟩
              · have HAL2 : Hid (∀ j, j < k + 1 → ∀ (h1 : j < Hs.length) (h2 : j < Hs'.length), hstB Hs[j] Hs'[j] = true) := by
                  intro j hj h1 h2
                  by_cases e : j = k
                  · subst e
                    rw [HLK.out.1, HLK.out.2]
                    exact ho
                  · exact HALL.out j (by omega) h1 h2
                clear ho
                go_wp2
                go_roundw
                case rel => exact ⟨k + 1, by omega, by go_num, HAL2.out, HT3.out, HB3.out⟩
                case measure => simp [intOf]; omega
          · obtain rfl : k = n2 := by omega
            have HS2 : Hid (smG hstB Hs Hs' = true) := smG_iff.2 ⟨by rw [HN2.out, HM2.out], fun i h1 h2 => HALL.out i (by rw [HN2.out] at h1; exact h1) h1 h2⟩
            clear HALL hlt hB HA2 HB2
            have HF : Hid (R = true) := by
              show R = true
              rw [HR.out, tpB, HS1.out, HS2.out]
              simp
            go_wp2
            go_ret
            exact ⟨by rw [HF.out]; rfl, HB.out⟩
  · have HF : Hid (R = false) := by
      show R = false
      rw [HR.out]
      cases e : tpB S S' Ls Ls' Hs Hs'
      · rfl
      · obtain ⟨rfl, rfl, rfl⟩ := tpB_iff.1 e
        exact absurd ⟨rfl, by rw [← HN1.out, HM1.out], by rw [← HN2.out, HM2.out]⟩ hl
    by_cases hS : S = S'
    · subst hS
      have e1 : (S == S) = true := by simp
      by_cases h1 : n = m
      · subst h1
        have e2 : ((n : Int) == (n : Int)) = true := by simp
        have e3 : ((n2 : Int) == (m2 : Int)) = false := beq_eq_false_iff_ne.2 (fun e => hl ⟨rfl, rfl, by omega⟩)
        have e4 : ((n2 : Int) != (m2 : Int)) = true := by rw [bne, e3]; rfl
        clear hl
        go_enter Try.func21, Try.ntmps21
        go_wp2
        go_ret
        exact ⟨by rw [HF.out]; rfl, HBW.out⟩
      · have e3 : ((n : Int) == (m : Int)) = false := beq_eq_false_iff_ne.2 (by omega)
        have e4 : ((n : Int) != (m : Int)) = true := by rw [bne, e3]; rfl
        clear hl h1
        go_enter Try.func21, Try.ntmps21
        go_wp2
        go_ret
        exact ⟨by rw [HF.out]; rfl, HBW.out⟩
    · have e3 : (S == S') = false := beq_eq_false_iff_ne.2 hS
      have e4 : (S != S') = true := by rw [bne, e3]; rfl
      clear hl hS
      go_enter Try.func21, Try.ntmps21
      go_wp2
      go_ret
      exact ⟨by rw [HF.out]; rfl, HBW.out⟩
end Go.Proofs.Ytokkmnednhigmae
/- What table.Do answers, called with any table, and any rule to be added or taken away. -/
namespace Go.Proofs.Ytokkmnednhigmae
open Go.RowKit
set_option linter.unusedSimpArgs false
set_option linter.unusedVariables false

theorem do_tb {L : List Ru} {a : Bool} {r : Ru} (h : tbN L ≠ 0) : doN L a r = tbN L ∧ doL L a r = [] := by
  have e : doN L a r = tbN L := by simp [doN, h]
  exact ⟨e, by rw [doL, e, if_neg h]⟩
theorem do_ru {L : List Ru} {a : Bool} {r : Ru} (h : tbN L = 0) (h2 : r.n ≠ 0) : doN L a r = r.n ∧ doL L a r = [] := by
  have e : doN L a r = r.n := by simp [doN, h, h2]
  exact ⟨e, by rw [doL, e, if_neg h2]⟩
theorem do_ch {L : List Ru} {a : Bool} {r : Ru} (h : tbN L = 0) (h2 : r.n = 0) : doN L a r = chN L a r ∧ doL L a r = chL L a r := by
  have e : doN L a r = chN L a r := by simp [doN, h, h2]
  refine ⟨e, ?_⟩
  by_cases h3 : chN L a r = 0
  · rw [doL, e, if_pos h3]
  · rw [doL, e, if_neg h3, chL_ne h3]

set_option maxHeartbeats 2000000 in
set_option maxRecDepth 100000 in
theorem do_own (ao : Option Addr) (n cap : Nat) (a : Bool) (p m b o s v : Int) (L : List Ru) (w : World) (hs : SR w (.slice ao n cap) L) :
    Calls Try.prog 14 #[.slice ao n cap, .bool a, .agg #[.int .i64 p, .int .i64 m, .int .i64 b, .int .i64 o, .int .i64 s, .int .i64 v]] w fun e w' => ∃ u, e = .returned (.tuple #[u, noV (doN L a ⟨p, m, b, o, s, v⟩)]) ∧ NR w' w.heap.size u (doL L a ⟨p, m, b, o, s, v⟩) ∧ Below w.heap.size w w' := by
  have hB0 : Below w.heap.size w (w.alloc (Obj.cells #[Value.int IntKind.i64 p, Value.int IntKind.i64 m, Value.int IntKind.i64 b, Value.int IntKind.i64 o, Value.int IntKind.i64 s, Value.int IntKind.i64 v] 37)) := (Below.refl _ _).alloc (Nat.le_refl _) _
  have HC0 := C6.new w p m b o s v 37
  have HS0 : Hid (SR (w.alloc (Obj.cells #[Value.int IntKind.i64 p, Value.int IntKind.i64 m, Value.int IntKind.i64 b, Value.int IntKind.i64 o, Value.int IntKind.i64 s, Value.int IntKind.i64 v] 37)) (.slice ao n cap) L) := hs.later hB0
  have HB0 : Hid (Below w.heap.size w (w.alloc (Obj.cells #[Value.int IntKind.i64 p, Value.int IntKind.i64 m, Value.int IntKind.i64 b, Value.int IntKind.i64 o, Value.int IntKind.i64 s, Value.int IntKind.i64 v] 37))) := hB0
  have HLN : Hid (L.length = n) := hs.len
  clear hs hB0
  by_cases h1 : tbN L = 0
  · have HT : Hid (tbN L = 0) := h1
    by_cases h2 : (⟨p, m, b, o, s, v⟩ : Ru).n = 0
    · have HR : Hid (ruN p m b o s v = 0) := h2
      have HN1 : Hid (n ≤ 1000) := by
        have := (tb_iff.1 h1).1
        have := HLN.out
        show n ≤ 1000
        omega
      rw [(do_ch h1 h2).1, (do_ch h1 h2).2]
      clear h1 h2
      cases a
      · go_enter Try.func14, Try.ntmps14
        go_wp2_with fail
        refine (table_any _ L _ HS0.out).mono ?_
        rintro e w1 ⟨rfl, hb1⟩
        rw [no_ok HT.out]
        have HB1 : Hid (Below w.heap.size w w1) := HB0.out.trans (hb1.mono HB0.out.size)
        have HS1 : Hid (SR w1 (.slice ao n cap) L) := HS0.out.later hb1
        have HC1 : Hid (C6 w1 w.heap.size 0 ⟨p, m, b, o, s, v⟩) := HC0.later hb1
        obtain ⟨c0, c1, c2, c3, c4, c5⟩ := HC0.later hb1
        simp only [Nat.zero_add] at c0 c1 c2 c3 c4 c5
        have hlt : w.heap.size < w1.heap.size := World.block_lt_of_cell? _ _ c0
        clear hb1
        go_wp2_with fail
        refine (ruCheck_any _ _ _ _ _ _ _).mono ?_
        rintro e w2 ⟨rfl, hb2⟩
        rw [no_ok HR.out]
        have HB2 : Hid (Below w.heap.size w w2) := HB1.out.trans (hb2.mono HB1.out.size)
        have HS2 : Hid (SR w2 (.slice ao n cap) L) := HS1.out.later hb2
        obtain ⟨d0, d1, d2, d3, d4, d5⟩ := HC1.out.later hb2
        simp only [Nat.zero_add] at d0 d1 d2 d3 d4 d5
        have hlt2 : w.heap.size < w2.heap.size := World.block_lt_of_cell? _ _ d0
        clear hb2 c0 c1 c2 c3 c4 c5
        go_wp2_with fail
        refine (without_any ao n cap p m b o s v L _ HS2.out HN1.out).mono ?_
        rintro e w3 ⟨u, rfl, hsr, hb3⟩
        have HB3 : Hid (Below w.heap.size w w3) := HB2.out.trans (hb3.mono HB2.out.size)
        have HO : Hid (NR w3 w.heap.size u (chL L false ⟨p, m, b, o, s, v⟩)) := hsr.mono HB2.out.size
        clear hb3 hsr d0 d1 d2 d3 d4 d5
        generalize hE : noV (chN L false ⟨p, m, b, o, s, v⟩) = E
        have HE : Hid (noV (chN L false ⟨p, m, b, o, s, v⟩) = E) := hE
        clear hE
        go_wp2
        refine bodyPost_ret (v := .tuple #[u, E]) (by simp [results, Try.results14, go_sem]) rfl ⟨_, by rw [HE.out], HO.out, HB3.out⟩
      · go_enter Try.func14, Try.ntmps14
        go_wp2_with fail
        refine (table_any _ L _ HS0.out).mono ?_
        rintro e w1 ⟨rfl, hb1⟩
        rw [no_ok HT.out]
        have HB1 : Hid (Below w.heap.size w w1) := HB0.out.trans (hb1.mono HB0.out.size)
        have HS1 : Hid (SR w1 (.slice ao n cap) L) := HS0.out.later hb1
        have HC1 : Hid (C6 w1 w.heap.size 0 ⟨p, m, b, o, s, v⟩) := HC0.later hb1
        obtain ⟨c0, c1, c2, c3, c4, c5⟩ := HC0.later hb1
        simp only [Nat.zero_add] at c0 c1 c2 c3 c4 c5
        have hlt : w.heap.size < w1.heap.size := World.block_lt_of_cell? _ _ c0
        clear hb1
        go_wp2_with fail
        refine (ruCheck_any _ _ _ _ _ _ _).mono ?_
        rintro e w2 ⟨rfl, hb2⟩
        rw [no_ok HR.out]
        have HB2 : Hid (Below w.heap.size w w2) := HB1.out.trans (hb2.mono HB1.out.size)
        have HS2 : Hid (SR w2 (.slice ao n cap) L) := HS1.out.later hb2
        obtain ⟨d0, d1, d2, d3, d4, d5⟩ := HC1.out.later hb2
        simp only [Nat.zero_add] at d0 d1 d2 d3 d4 d5
        have hlt2 : w.heap.size < w2.heap.size := World.block_lt_of_cell? _ _ d0
        clear hb2 c0 c1 c2 c3 c4 c5
        go_wp2_with fail
        refine (with_any ao n cap p m b o s v L _ HS2.out).mono ?_
        rintro e w3 ⟨u, rfl, hsr, hb3⟩
        have HB3 : Hid (Below w.heap.size w w3) := HB2.out.trans (hb3.mono HB2.out.size)
        have HO : Hid (NR w3 w.heap.size u (chL L true ⟨p, m, b, o, s, v⟩)) := hsr.mono HB2.out.size
        clear hb3 hsr d0 d1 d2 d3 d4 d5
        generalize hE : noV (chN L true ⟨p, m, b, o, s, v⟩) = E
        have HE : Hid (noV (chN L true ⟨p, m, b, o, s, v⟩) = E) := hE
        clear hE
        go_wp2
        refine bodyPost_ret (v := .tuple #[u, E]) (by simp [results, Try.results14, go_sem]) rfl ⟨_, by rw [HE.out], HO.out, HB3.out⟩
    · have HR : Hid (ruN p m b o s v ≠ 0) := h2
      rw [(do_ru h1 h2).1, (do_ru h1 h2).2]
      have HRV : Hid (noV (Ru.n ⟨p, m, b, o, s, v⟩) = .iface 52 (.int .i64 (ruN p m b o s v))) := no_ne h2
      clear h1 h2
      go_enter Try.func14, Try.ntmps14
      go_wp2_with fail
      refine (table_any _ L _ HS0.out).mono ?_
      rintro e w1 ⟨rfl, hb1⟩
      rw [no_ok HT.out]
      have HB1 : Hid (Below w.heap.size w w1) := HB0.out.trans (hb1.mono HB0.out.size)
      obtain ⟨c0, c1, c2, c3, c4, c5⟩ := HC0.later hb1
      simp only [Nat.zero_add] at c0 c1 c2 c3 c4 c5
      have hlt : w.heap.size < w1.heap.size := World.block_lt_of_cell? _ _ c0
      clear hb1
      go_wp2_with fail
      refine (ruCheck_any _ _ _ _ _ _ _).mono ?_
      rintro e w2 ⟨rfl, hb2⟩
      rw [no_ne HR.out]
      have HB2 : Hid (Below w.heap.size w w2) := HB1.out.trans (hb2.mono HB1.out.size)
      clear hb2 c0 c1 c2 c3 c4 c5
      go_wp2
      refine bodyPost_ret (v := .tuple #[.slice none 0 0, .iface 52 (.int .i64 (ruN p m b o s v))]) (by simp [results, Try.results14, go_sem]) rfl ⟨_, by rw [HRV.out], NR.nil _ _, HB2.out⟩
  · have HT : Hid (tbN L ≠ 0) := h1
    rw [(do_tb h1).1, (do_tb h1).2, no_ne h1]
    clear h1
    go_enter Try.func14, Try.ntmps14
    go_wp2_with fail
    refine (table_any _ L _ HS0.out).mono ?_
    rintro e w1 ⟨rfl, hb1⟩
    rw [no_ne HT.out]
    have HB1 : Hid (Below w.heap.size w w1) := HB0.out.trans (hb1.mono HB0.out.size)
    clear hb1
    go_wp2
    refine bodyPost_ret (v := .tuple #[.slice none 0 0, .iface 52 (.int .i64 (tbN L))]) (by simp [results, Try.results14, go_sem]) rfl ⟨_, rfl, NR.nil _ _, HB1.out⟩
theorem do_any (ao : Option Addr) (n cap : Nat) (a : Bool) (p m b o s v : Int) (L : List Ru) (w : World) (hs : SR w (.slice ao n cap) L) :
    Calls Try.prog 14 #[.slice ao n cap, .bool a, .agg #[.int .i64 p, .int .i64 m, .int .i64 b, .int .i64 o, .int .i64 s, .int .i64 v]] w fun e w' => ∃ u, e = .returned (.tuple #[u, noV (doN L a ⟨p, m, b, o, s, v⟩)]) ∧ SR w' u (doL L a ⟨p, m, b, o, s, v⟩) ∧ Below w.heap.size w w' :=
  (do_own ao n cap a p m b o s v L w hs).mono fun _ _ ⟨u, h1, h2, h3⟩ => ⟨u, h1, h2.sr, h3⟩
end Go.Proofs.Ytokkmnednhigmae
/- What slices.Contains, slices.DeleteFunc and table.beyond answer at tables. -/
namespace Go.Proofs.Ytokkmnednhigmae
open Go.RowKit
set_option linter.unusedSimpArgs false
set_option linter.unusedVariables false

set_option maxHeartbeats 2000000 in
set_option maxRecDepth 100000 in
theorem contains_any (ao : Option Addr) (n cap : Nat) (p m b o s v : Int) (L : List Ru) (w : World) (hs : SR w (.slice ao n cap) L) :
    Calls Try.prog 51 #[.slice ao n cap, .agg #[.int .i64 p, .int .i64 m, .int .i64 b, .int .i64 o, .int .i64 s, .int .i64 v]] w fun e w' => e = .returned (.bool (inB L ⟨p, m, b, o, s, v⟩)) ∧ Below w.heap.size w w' := by
  obtain ⟨ao', n', cap', e, hn, hn2, hn3, ha⟩ := hs.form
  cases e
  have HN : Hid (L.length = n) := hn
  have hB0 : Below w.heap.size w (w.alloc (Obj.cells #[Value.int IntKind.i64 p, Value.int IntKind.i64 m, Value.int IntKind.i64 b, Value.int IntKind.i64 o, Value.int IntKind.i64 s, Value.int IntKind.i64 v] 37)) := (Below.refl _ _).alloc (Nat.le_refl _) _
  have HA : Hid (0 < n → ∃ g o, ao = some ⟨g, o, none⟩ ∧ RAt w g o L ∧ cap ≤ maxLen) := ha
  have HB0 : Hid (Below w.heap.size w (w.alloc (Obj.cells #[Value.int IntKind.i64 p, Value.int IntKind.i64 m, Value.int IntKind.i64 b, Value.int IntKind.i64 o, Value.int IntKind.i64 s, Value.int IntKind.i64 v] 37))) := hB0
  have HM : Hid (n ≤ maxLen) := hn2
  have HX : Hid (inB L ⟨p, m, b, o, s, v⟩ = decide (0 ≤ ixP (fun a => eqR ⟨p, m, b, o, s, v⟩ a) L)) := (ixP_any L (fun a => eqR ⟨p, m, b, o, s, v⟩ a)).symm
  rw [HX.out]
  clear hn ha hs hn2 hB0 HX
  obtain ⟨x, hx⟩ : ∃ x, x = ixP (fun a => eqR ⟨p, m, b, o, s, v⟩ a) L := ⟨_, rfl⟩
  rw [← hx]
  have HX : Hid (x = ixP (fun a => eqR ⟨p, m, b, o, s, v⟩ a) L) := hx
  clear hx
  go_enter Try.func51, Try.ntmps51
  go_wp2_with fail
  refine (index_any ao n cap p m b o s v L _ HN.out HM.out (fun h => by obtain ⟨g, o, e1, e2, e3⟩ := HA.out h; exact ⟨g, o, e1, e2.later HB0.out, e3⟩)).mono ?_
  rintro e w1 ⟨rfl, hb1⟩
  rw [← HX.out]
  have HB1 : Hid (Below w.heap.size w w1) := HB0.out.trans (hb1.mono HB0.out.size)
  clear hb1
  go_wp2
  go_ret
  exact ⟨rfl, HB1.out⟩

set_option maxHeartbeats 1000000 in
set_option maxRecDepth 100000 in
theorem beyond1_any (p m b o s v : Int) (ao : Option Addr) (n cap : Nat) (L : List Ru) (B : Nat) (w : World) (hc : w.cell? ⟨B, 0, none⟩ = some (.slice ao n cap)) (hs : SR w (.slice ao n cap) L) :
    Calls Try.prog 50 #[.agg #[.int .i64 p, .int .i64 m, .int .i64 b, .int .i64 o, .int .i64 s, .int .i64 v], .pointer (some ⟨B, 0, none⟩)] w fun e w' => e = .returned (.bool (inB L ⟨p, m, b, o, s, v⟩)) ∧ Below w.heap.size w w' := by
  have hlt : B < w.heap.size := World.block_lt_of_cell? _ _ hc
  have hB0 : Below w.heap.size w (w.alloc (Obj.cells #[Value.int IntKind.i64 p, Value.int IntKind.i64 m, Value.int IntKind.i64 b, Value.int IntKind.i64 o, Value.int IntKind.i64 s, Value.int IntKind.i64 v] 37)) := (Below.refl _ _).alloc (Nat.le_refl _) _
  have HS0 : Hid (SR (w.alloc (Obj.cells #[Value.int IntKind.i64 p, Value.int IntKind.i64 m, Value.int IntKind.i64 b, Value.int IntKind.i64 o, Value.int IntKind.i64 s, Value.int IntKind.i64 v] 37)) (.slice ao n cap) L) := hs.later hB0
  clear hs hB0
  go_enter Try.func50, Try.ntmps50
  go_wp2_with fail
  refine (contains_any ao n cap p m b o s v L _ HS0.out).mono ?_
  rintro e w1 ⟨rfl, hb1⟩
  go_wp2
  go_ret
  exact ⟨rfl, ((Below.refl _ _).alloc (Nat.le_refl _) _).trans (hb1.mono (by simp))⟩
theorem beyond1_asks (ao : Option Addr) (n cap : Nat) (L : List Ru) (B : Nat) (w : World) (hc : w.cell? ⟨B, 0, none⟩ = some (.slice ao n cap)) (hs : SR w (.slice ao n cap) L) : Asks w 50 (.pointer (some ⟨B, 0, none⟩)) (fun a => inB L a) :=
  fun p m b o s v W hW => beyond1_any p m b o s v ao n cap L B W (cell_later hW hc) (hs.later hW)

/-- What is left of the first j rules lies at the first i places, the others are as they were. -/
structure KI (f : Ru → Bool) (L : List Ru) (j i : Nat) (X : List Ru) : Prop where
  len : X.length = L.length
  lt : i < j
  low : X.take i = (L.take j).filter (fun a => !f a)
  high : X.drop j = L.drop j
theorem KI.start {f : Ru → Bool} {L : List Ru} {k : Nat} (hk : k < L.length) (h : (L.take k).any f = false) (h2 : f L[k] = true) : KI f L (k + 1) k L := by
  refine ⟨rfl, by omega, ?_, rfl⟩
  rw [List.take_succ_eq_append_getElem hk, List.filter_append]
  have e1 : (L.take k).filter (fun a => !f a) = L.take k := by
    rw [List.filter_eq_self]
    intro a ha
    rw [List.any_eq_false] at h
    simpa using h a ha
  rw [e1]
  simp [h2]
theorem KI.skip {f : Ru → Bool} {L X : List Ru} {j i : Nat} (h : KI f L j i X) (hj : j < L.length) (h2 : f L[j] = true) : KI f L (j + 1) i X := by
  refine ⟨h.len, by have := h.lt; omega, ?_, ?_⟩
  · rw [List.take_succ_eq_append_getElem hj, List.filter_append, ← h.low]
    simp [h2]
  · have := congrArg (List.drop 1) h.high
    simpa [List.drop_drop, Nat.add_comm] using this
theorem KI.at {f : Ru → Bool} {L X : List Ru} {j i : Nat} (h : KI f L j i X) (hj : j < L.length) : X[j]'(by rw [h.len]; exact hj) = L[j] := by
  have e1 := congrArg (fun l => l[0]?) h.high
  simp only [List.getElem?_drop, Nat.add_zero] at e1
  rw [List.getElem?_eq_getElem (by rw [h.len]; exact hj), List.getElem?_eq_getElem hj] at e1
  exact Option.some.inj e1
theorem KI.keep {f : Ru → Bool} {L X : List Ru} {j i : Nat} (h : KI f L j i X) (hj : j < L.length) (h2 : f L[j] = false) : KI f L (j + 1) (i + 1) (X.set i L[j]) := by
  have hlt := h.lt
  have hl := h.len
  refine ⟨by rw [List.length_set]; exact h.len, by omega, ?_, ?_⟩
  · rw [List.take_succ_eq_append_getElem hj, List.filter_append, ← h.low]
    have hi : i < (X.set i L[j]).length := by rw [List.length_set]; omega
    rw [List.take_succ_eq_append_getElem hi, List.take_set_of_le (Nat.le_refl _)]
    simp [h2]
  · rw [List.drop_set_of_lt (by omega)]
    have := congrArg (List.drop 1) h.high
    simpa [List.drop_drop, Nat.add_comm] using this
theorem KI.done {f : Ru → Bool} {L X : List Ru} {i : Nat} (h : KI f L L.length i X) : X.take i = L.filter (fun a => !f a) := by
  have := h.low
  rw [List.take_length] at this
  exact this

/-- A rule that is stored in a row. -/
theorem cellsR_set (X : List Ru) (i : Nat) (p m b o s v : Int) (hi : i < X.length) : cellsR (X.set i ⟨p, m, b, o, s, v⟩) = ((((((cellsR X).set (i * 6) (.int .i64 p)).set (i * 6 + 1) (.int .i64 m)).set (i * 6 + 2) (.int .i64 b)).set (i * 6 + 3) (.int .i64 o)).set (i * 6 + 4) (.int .i64 s)).set (i * 6 + 5) (.int .i64 v) := by
  induction X generalizing i with
  | nil => simp at hi
  | cons x X ih =>
    cases i with
    | zero => simp [cellsR]
    | succ i =>
      have := ih i (by simpa using hi)
      have e1 : (i + 1) * 6 = i * 6 + 1 + 1 + 1 + 1 + 1 + 1 := by omega
      simp only [cellsR, List.flatMap_cons, List.set_cons_succ] at this ⊢
      rw [this]
      simp [e1]
theorem own_set {w : World} {base e g n cap i : Nat} {X : List Ru} (h : w.ownsRow base e 6 (.slice (some ⟨g, 0, none⟩) n cap) n (cellsR X)) (hi : i < X.length) (p m b o s v : Int) :
    ((((((w.setCell ⟨g, i * 6, none⟩ (.int .i64 p)).setCell ⟨g, i * 6 + 1, none⟩ (.int .i64 m)).setCell ⟨g, i * 6 + 2, none⟩ (.int .i64 b)).setCell ⟨g, i * 6 + 3, none⟩ (.int .i64 o)).setCell ⟨g, i * 6 + 4, none⟩ (.int .i64 s)).setCell ⟨g, i * 6 + 5, none⟩ (.int .i64 v)).ownsRow base e 6 (.slice (some ⟨g, 0, none⟩) n cap) n (cellsR (X.set i ⟨p, m, b, o, s, v⟩)) := by
  rw [cellsR_set X i p m b o s v hi]
  exact ((((((h.stored _ _).1.stored _ _).1.stored _ _).1.stored _ _).1.stored _ _).1.stored _ _).1
theorem below_six {B : Nat} {a w : World} {g i : Nat} (h : Below B a w) (hg : B ≤ g) (p m b o s v : Value) :
    Below B a ((((((w.setCell ⟨g, i * 6, none⟩ p).setCell ⟨g, i * 6 + 1, none⟩ m).setCell ⟨g, i * 6 + 2, none⟩ b).setCell ⟨g, i * 6 + 3, none⟩ o).setCell ⟨g, i * 6 + 4, none⟩ s).setCell ⟨g, i * 6 + 5, none⟩ v) :=
  (((((h.setCell hg _).setCell hg _).setCell hg _).setCell hg _).setCell hg _).setCell hg _
/-- The cells of an own row's rule, none of them frozen. -/
theorem own_at {w : World} {base e g n cap i : Nat} {X : List Ru} (h : w.ownsRow base e 6 (.slice (some ⟨g, 0, none⟩) n cap) n (cellsR X)) (hn : X.length = n) (hi : i < n) :
    C6 w g (i * 6) (X[i]'(by omega)) ∧ (∀ c, w.frozen? ⟨g, c, none⟩ = false) := by
  subst hn
  obtain ⟨a0, a1, a2, a3, a4, a5⟩ := cellsR_at X i hi
  refine ⟨⟨?_, ?_, ?_, ?_, ?_, ?_⟩, fun c => h.frozenAt c⟩
  · rw [h.cellAt _ (by omega)]; exact a0
  · rw [h.cellAt _ (by omega)]; exact a1
  · rw [h.cellAt _ (by omega)]; exact a2
  · rw [h.cellAt _ (by omega)]; exact a3
  · rw [h.cellAt _ (by omega)]; exact a4
  · rw [h.cellAt _ (by omega)]; exact a5

theorem run_clear_of (w w' : World) (t e ty : TypeId) (ht : Try.prog.underlying t = some (.slice e)) (b o n c : Nat) (hn : 0 < n) (z : Value) (hv : ∀ w, (zeroValue e).run Try.prog w = .ok z w) (Z : List Value)
    (hZ : (Builtin.zeroCells z.cells n).toList = Z) (hst : (storeCells ⟨b, o, none⟩ Z 0).run Try.prog w = .ok () w') : (Builtin.clear_ #[t] ty #[.slice (some ⟨b, o, none⟩) n c]).run Try.prog w = .ok (.tuple #[]) w' := by
  obtain ⟨m, rfl⟩ : ∃ m, n = m + 1 := ⟨n - 1, by omega⟩
  simp [Builtin.clear_, run_underlying ht, hv, hZ, hst]
theorem cellsR_take (X : List Ru) (i : Nat) : (cellsR X).take (i * 6) = cellsR (X.take i) := by
  induction X generalizing i with
  | nil => simp [cellsR]
  | cons x X ih =>
    cases i with
    | zero => simp [cellsR]
    | succ i =>
      have := ih i
      have e1 : (i + 1) * 6 = i * 6 + 1 + 1 + 1 + 1 + 1 + 1 := by omega
      simp only [cellsR] at this
      simp [cellsR, e1, this]
/-- Clearing rules of a row. -/
theorem run_clear6 (w : World) (t ty : TypeId) (ht : Try.prog.underlying t = some (.slice 37)) (b o n c : Nat) (hn : 0 < n)
    (hc : ∀ j, j < n * 6 → (w.cell? ⟨b, o + j, none⟩).isSome = true) (hf : ∀ j, w.frozen? ⟨b, j, none⟩ = false) :
    (Builtin.clear_ #[t] ty #[.slice (some ⟨b, o, none⟩) n c]).run Try.prog w = .ok (.tuple #[]) (w.setCells b o (Builtin.zeroCells (Value.agg #[.int .i64 0, .int .i64 0, .int .i64 0, .int .i64 0, .int .i64 0, .int .i64 0]).cells n).toList) := by
  obtain ⟨i0, hi, hz0, hz1, hz2⟩ := info_parts infoRule
  have hv : ∀ w, (zeroValue 37).run Try.prog w = .ok (.agg #[.int .i64 0, .int .i64 0, .int .i64 0, .int .i64 0, .int .i64 0, .int .i64 0]) w := fun w => by simp [zeroValue, typeInfo, hi, hz0]
  have hl : (Builtin.zeroCells (Value.agg #[.int .i64 0, .int .i64 0, .int .i64 0, .int .i64 0, .int .i64 0, .int .i64 0]).cells n).toList.length = n * 6 := by rw [Array.length_toList, size_zeroCells, sixCells]
  have h1 : ∀ u ∈ (Builtin.zeroCells (Value.agg #[.int .i64 0, .int .i64 0, .int .i64 0, .int .i64 0, .int .i64 0, .int .i64 0]).cells n).toList, u.oneCell' = true := by
    intro u hu
    simp only [Builtin.zeroCells, Array.toList_map, List.mem_map] at hu
    obtain ⟨i, _, rfl⟩ := hu
    rw [sixCells]
    have h6 : i % 6 < 6 := Nat.mod_lt _ (by omega)
    generalize i % 6 = j at h6
    rcases (by omega : j = 0 ∨ j = 1 ∨ j = 2 ∨ j = 3 ∨ j = 4 ∨ j = 5) with rfl | rfl | rfl | rfl | rfl | rfl <;> rfl
  have hst := run_storeCells_cells (P := Try.prog) b o (Builtin.zeroCells (Value.agg #[.int .i64 0, .int .i64 0, .int .i64 0, .int .i64 0, .int .i64 0, .int .i64 0]).cells n).toList 0 w (by rw [hl]; simpa using hc) (fun j _ => hf _) h1
  simp only [Nat.add_zero] at hst
  exact run_clear_of w _ t _ ty ht b o n c hn _ hv _ rfl hst

set_option maxHeartbeats 4000000 in
set_option maxRecDepth 100000 in
/-- DeleteFunc, at a row that the caller owns. -/
theorem delete_some (g n cap : Nat) (f : FuncId) (c : Value) (P : Ru → Bool) (L : List Ru) (w0 w : World) (hn : L.length = n) (hB : Below w0.heap.size w0 w) (ho : w.ownsRow w0.heap.size 37 6 (.slice (some ⟨g, 0, none⟩) n cap) n (cellsR L))
    (he : ∀ args w, (callFunc f args).run Try.prog w = .ok (.enter f args) w) (hf : Asks w0 f c P) (h1000 : n ≤ 1000) :
    Calls Try.prog 49 #[.slice (some ⟨g, 0, none⟩) n cap, .func (Fn.func f) #[] #[c]] w fun e w' => ∃ u, e = .returned u ∧ w'.ownsRow w0.heap.size 37 6 u (L.filter (fun a => !P a)).length (cellsR (L.filter (fun a => !P a))) ∧ Below w0.heap.size w0 w' := by
  have HN : Hid (L.length = n) := hn
  have HB : Hid (Below w0.heap.size w0 w) := hB
  have HO : Hid (w.ownsRow w0.heap.size 37 6 (.slice (some ⟨g, 0, none⟩) n cap) n (cellsR L)) := ho
  have HF : Hid (Asks w0 f c P) := hf
  have hgb : w0.heap.size ≤ g ∧ n ≤ cap ∧ cap ≤ maxLen := by
    rcases ho.2 with ⟨h', _⟩ | ⟨g', cap', cur, h', hb, _, h1, h2, _⟩
    · simp at h'
    · simp only [Value.slice.injEq, Option.some.injEq, Addr.mk.injEq, and_true, true_and] at h'
      obtain ⟨rfl, rfl⟩ := h'
      exact ⟨hb, h1, h2⟩
  obtain ⟨hg0, hncap, hcm⟩ := hgb
  have HCM : Hid (cap ≤ maxLen) := hcm
  have hsr : SR w (.slice (some ⟨g, 0, none⟩) n cap) L := own_SR (by subst hn; exact ho)
  have HSR : Hid (SR w (.slice (some ⟨g, 0, none⟩) n cap) L) := hsr
  have hc63 : (cap : Int) ≤ 9223372036854775807 := by unfold maxLen at hcm; omega
  clear hn hB ho hf hsr hcm
  have HNM : Hid (n ≤ maxLen ∧ (0 < n → ∃ g' o', some (⟨g, 0, none⟩ : Addr) = some ⟨g', o', none⟩ ∧ RAt w g' o' L ∧ cap ≤ maxLen)) := by
    obtain ⟨ao', n', cap', e, hn, hn2, hn3, ha⟩ := HSR.out.form
    cases e
    exact ⟨hn2, ha⟩
  cases hany : L.any P
  · have HX : Hid (ixP P L = -1) := ixP_no hany
    have HFL : Hid (L.filter (fun a => !P a) = L) := by
      show L.filter (fun a => !P a) = L
      rw [List.filter_eq_self]
      intro a ha
      rw [List.any_eq_false] at hany
      simpa using hany a ha
    clear hany
    go_enter Try.func49, Try.ntmps49
    go_wp2_with fail
    refine (idxF _ n cap f c P L _ HN.out HNM.out.1 HNM.out.2 he (HF.out.later HB.out)).mono ?_
    rintro e w1 ⟨rfl, hb1⟩
    rw [HX.out]
    have HO1 : Hid (w1.ownsRow w0.heap.size 37 6 (.slice (some ⟨g, 0, none⟩) n cap) n (cellsR L)) := own_below HO.out hb1
    have HB1 : Hid (Below w0.heap.size w0 w1) := HB.out.trans (hb1.mono HB.out.size)
    clear hb1
    go_wp2
    go_ret
    refine ⟨_, rfl, ?_, HB1.out⟩
    rw [HFL.out, HN.out]
    exact HO1.out
  · obtain ⟨k, hk, hno, hyes⟩ : ∃ k, ∃ hk : k < L.length, (L.take k).any P = false ∧ P L[k] = true := by
      have h1 : L.findIdx P < L.length := List.findIdx_lt_length.2 (by simpa using hany)
      refine ⟨L.findIdx P, h1, ?_, List.findIdx_getElem (w := h1)⟩
      rw [List.any_eq_false]
      intro a ha
      rw [List.mem_take_iff_getElem] at ha
      obtain ⟨i, hi, rfl⟩ := ha
      have := List.not_of_lt_findIdx (p := P) (xs := L) (i := i) (by omega)
      simpa using this
    have HX : Hid (ixP P L = (k : Int)) := ixP_hit hk hno hyes
    have HK : Hid (KI P L (k + 1) k L) := KI.start hk hno hyes
    have hkn : k < n := by rw [HN.out] at hk; exact hk
    have kne : ((k : Int) == -1) = false := beq_eq_false_iff_ne.2 (by omega)
    clear hany hno hyes hk
    go_enter Try.func49, Try.ntmps49
    go_wp2_with fail
    refine (idxF _ n cap f c P L _ HN.out HNM.out.1 HNM.out.2 he (HF.out.later HB.out)).mono ?_
    rintro e w1 ⟨rfl, hb1⟩
    rw [HX.out]
    have HO1 : Hid (w1.ownsRow w0.heap.size 37 6 (.slice (some ⟨g, 0, none⟩) n cap) n (cellsR L)) := own_below HO.out hb1
    have HB1 : Hid (Below w0.heap.size w0 w1) := HB.out.trans (hb1.mono HB.out.size)
    clear hb1 HO HNM HSR
    go_wp2
    go_loopw [5, 6] (fun a b wr => ∃ i j : Nat, ∃ X, a = .int .i64 i ∧ b = .int .i64 j ∧ j ≤ n ∧ KI P L j i X ∧ wr.ownsRow w0.heap.size 37 6 (.slice (some ⟨g, 0, none⟩) n cap) n (cellsR X) ∧ Below w0.heap.size w0 wr) (fun _ b _ => n - (intOf b).toNat)
    case atStart => exact ⟨k, k + 1, L, rfl, by go_num, by omega, HK.out, HO1.out, HB1.out⟩
    case round =>
      obtain ⟨i, j, X, rfl, rfl, hj, hK, hown, hBr⟩ := hrel
      have HKR : Hid (KI P L j i X) := hK
      have HOR : Hid (wr.ownsRow w0.heap.size 37 6 (.slice (some ⟨g, 0, none⟩) n cap) n (cellsR X)) := hown
      have HBR : Hid (Below w0.heap.size w0 wr) := hBr
      have hij : i < j := hK.lt
      have HXL : Hid (X.length = n) := by have := hK.len; rw [HN.out] at this; exact this
      clear HO1 HB1 HK HX
      by_cases hlt : j < n
      · have hjl : j < L.length := by rw [HN.out]; exact hlt
        obtain ⟨hCj, hfz⟩ := own_at hown HXL.out hlt
        rw [hK.at hjl] at hCj
        have HKK : Hid (P L[j] = false → KI P L (j + 1) (i + 1) (X.set i L[j])) := fun h => hK.keep hjl h
        have HKS : Hid (P L[j] = true → KI P L (j + 1) i X) := fun h => hK.skip hjl h
        rcases hLj : L[j] with ⟨p, m, b, o, s, v⟩
        rw [hLj] at hCj HKK HKS
        obtain ⟨q0, q1, q2, q3, q4, q5⟩ := hCj
        have HC6 := C6.new wr p m b o s v 37
        have hBA : Below wr.heap.size wr (wr.alloc (Obj.cells #[Value.int IntKind.i64 p, Value.int IntKind.i64 m, Value.int IntKind.i64 b, Value.int IntKind.i64 o, Value.int IntKind.i64 s, Value.int IntKind.i64 v] 37)) := (Below.refl _ _).alloc (Nat.le_refl _) _
        have HBA : Hid (Below w0.heap.size w0 (wr.alloc (Obj.cells #[Value.int IntKind.i64 p, Value.int IntKind.i64 m, Value.int IntKind.i64 b, Value.int IntKind.i64 o, Value.int IntKind.i64 s, Value.int IntKind.i64 v] 37))) := hBr.trans (hBA.mono hBr.size)
        have HOA : Hid ((wr.alloc (Obj.cells #[Value.int IntKind.i64 p, Value.int IntKind.i64 m, Value.int IntKind.i64 b, Value.int IntKind.i64 o, Value.int IntKind.i64 s, Value.int IntKind.i64 v] 37)).ownsRow w0.heap.size 37 6 (.slice (some ⟨g, 0, none⟩) n cap) n (cellsR X)) := own_below hown hBA
        clear hown hBr hK hLj hfz hBA
        cases hP : P ⟨p, m, b, o, s, v⟩
        · go_wp2_with fail
          refine (HF.out p m b o s v _ HBA.out).mono ?_
          rintro e w2 ⟨rfl, hb2⟩
          rw [hP]
          have hO2 := own_below HOA.out hb2
          have HO2 : Hid (w2.ownsRow w0.heap.size 37 6 (.slice (some ⟨g, 0, none⟩) n cap) n (cellsR X)) := hO2
          have HB2 : Hid (Below w0.heap.size w0 w2) := HBA.out.trans (hb2.mono HBA.out.size)
          obtain ⟨d0, d1, d2, d3, d4, d5⟩ := HC6.later hb2
          simp only [Nat.zero_add] at d0 d1 d2 d3 d4 d5
          obtain ⟨hCi, hfz⟩ := own_at hO2 HXL.out (show i < n by omega)
          generalize X[i]'(by have := HXL.out; omega) = r at hCi
          obtain ⟨rp, rm, rb, ro, rs, rv⟩ := r
          obtain ⟨i0, i1, i2, i3, i4, i5⟩ := hCi
          have f0 := hfz (i * 6)
          have f1 := hfz (i * 6 + 1)
          have f2 := hfz (i * 6 + 2)
          have f3 := hfz (i * 6 + 3)
          have f4 := hfz (i * 6 + 4)
          have f5 := hfz (i * 6 + 5)
          have hgl : g < w2.heap.size := World.block_lt_of_cell? _ _ i0
          have hwl : wr.heap.size < w2.heap.size := World.block_lt_of_cell? _ _ d0
          have b0 : (0 : Int) ≤ (i : Int) := by omega
          have b1 : (i : Int) < (n : Int) := by omega
          clear hb2 hO2 q0 q1 q2 q3 q4 q5 hfz
          go_wp2
          exact ⟨⟨i + 1, j + 1, _, by go_num, by go_num, by omega, HKK.out hP, own_set HO2.out (by rw [HXL.out]; omega) p m b o s v, below_six HB2.out hg0 _ _ _ _ _ _⟩, by simp [intOf]; omega⟩
        · go_wp2_with fail
          refine (HF.out p m b o s v _ HBA.out).mono ?_
          rintro e w2 ⟨rfl, hb2⟩
          rw [hP]
          have HO2 : Hid (w2.ownsRow w0.heap.size 37 6 (.slice (some ⟨g, 0, none⟩) n cap) n (cellsR X)) := own_below HOA.out hb2
          have HB2 : Hid (Below w0.heap.size w0 w2) := HBA.out.trans (hb2.mono HBA.out.size)
          clear hb2 q0 q1 q2 q3 q4 q5
          go_wp2
          go_roundw
          case rel => exact ⟨i, j + 1, X, rfl, by go_num, by omega, HKS.out hP, HO2.out, HB2.out⟩
          case measure => simp [intOf]; omega
      · obtain rfl : j = n := by omega
        have b0 : (0 : Int) ≤ (i : Int) := by omega
        have b1 : (i : Int) ≤ (j : Int) := by omega
        have b2 : (i : Int) ≤ (cap : Int) := by omega
        have b3 : ¬ cap = i := by omega
        have HZ : Hid (∀ ty, (Builtin.clear_ #[41] ty #[.slice (some ⟨g, i * 6, none⟩) (j - i) (cap - i)]).run Try.prog wr = .ok (.tuple #[]) (wr.setCells g (i * 6) (Builtin.zeroCells (Value.agg #[.int .i64 0, .int .i64 0, .int .i64 0, .int .i64 0, .int .i64 0, .int .i64 0]).cells (j - i)).toList)) := fun ty =>
          run_clear6 wr _ ty Try.underlying41 g (i * 6) (j - i) (cap - i) (by omega) (fun t ht => by
            rw [hown.cellAt _ (by omega)]
            have h1 : i * 6 + t < (cellsR X).length := by rw [cellsR_len, HXL.out]; omega
            rw [List.getElem?_eq_getElem h1]
            rfl) (fun t => hown.frozenAt t)
        have hcl := HZ.out
        generalize (Builtin.zeroCells (Value.agg #[.int .i64 0, .int .i64 0, .int .i64 0, .int .i64 0, .int .i64 0, .int .i64 0]).cells (j - i)).toList = Z at hcl
        have hoc := own_behind Z (i * 6) wr _ (own_cut hown (show i ≤ j by omega)) (Nat.le_refl _)
        have HE : Hid (X.take i = L.filter (fun a => !P a)) := by
          have := hK
          rw [← HN.out] at this
          exact this.done
        have HOE : Hid ((wr.setCells g (i * 6) Z).ownsRow w0.heap.size 37 6 (.slice (some ⟨g, 0, none⟩) i cap) (L.filter (fun a => !P a)).length (cellsR (L.filter (fun a => !P a)))) := by
          have h1 := hoc.1
          rw [cellsR_take, HE.out] at h1
          have e1 : (L.filter (fun a => !P a)).length = i := by
            rw [← HE.out, List.length_take, HXL.out]
            omega
          show World.ownsRow _ _ _ _ _ _ _
          rw [e1]
          exact h1
        have HBE : Hid (Below w0.heap.size w0 (wr.setCells g (i * 6) Z)) := hBr.grown hoc.2 hBr.size (fun k hk => by cases hk; exact hg0)
        clear hown hBr hK hoc HZ
        go_wp2
        go_ret
        exact ⟨_, rfl, HOE.out, HBE.out⟩

set_option maxHeartbeats 1000000 in
set_option maxRecDepth 100000 in
theorem delete_nil (f : FuncId) (c : Value) (P : Ru → Bool) (w : World) (he : ∀ args w, (callFunc f args).run Try.prog w = .ok (.enter f args) w) (hf : Asks w f c P) :
    Calls Try.prog 49 #[.slice none 0 0, .func (Fn.func f) #[] #[c]] w fun e w' => e = .returned (.slice none 0 0) ∧ Below w.heap.size w w' := by
  have HX : Hid (ixP P [] = -1) := rfl
  have HF : Hid (Asks w f c P) := hf
  clear hf
  go_enter Try.func49, Try.ntmps49
  go_wp2_with fail
  refine (idxF none 0 0 f c P [] _ rfl (Nat.zero_le _) (fun h => absurd h (by omega)) he HF.out).mono ?_
  rintro e w1 ⟨rfl, hb1⟩
  rw [HX.out]
  go_wp2
  go_ret
  exact ⟨rfl, hb1⟩
theorem delete_any (v : Value) (f : FuncId) (c : Value) (P : Ru → Bool) (L : List Ru) (w0 w : World) (hB : Below w0.heap.size w0 w) (ho : w.ownsRow w0.heap.size 37 6 v L.length (cellsR L))
    (he : ∀ args w, (callFunc f args).run Try.prog w = .ok (.enter f args) w) (hf : Asks w0 f c P) (h1000 : L.length ≤ 1000) :
    Calls Try.prog 49 #[v, .func (Fn.func f) #[] #[c]] w fun e w' => ∃ u, e = .returned u ∧ w'.ownsRow w0.heap.size 37 6 u (L.filter (fun a => !P a)).length (cellsR (L.filter (fun a => !P a))) ∧ Below w0.heap.size w0 w' := by
  rcases ho.2 with ⟨rfl, h0⟩ | ⟨g, cap, cur, rfl, _⟩
  · obtain rfl : L = [] := List.length_eq_zero_iff.1 h0
    refine (delete_nil f c P w he (hf.later hB)).mono ?_
    rintro e w' ⟨rfl, hb⟩
    exact ⟨_, rfl, World.ownsRow_nil _ _ _ _, hB.trans (hb.mono hB.size)⟩
  · refine (delete_some g L.length cap f c P L w0 w rfl hB ho he hf h1000).mono ?_
    rintro e w' ⟨u, rfl, h1, h2⟩
    exact ⟨u, rfl, h1, h2⟩
/-- Two rows of two kinds lie in two blocks. -/
theorem own_apart {w : World} {b1 e1 s1 n1 b2 e2 s2 n2 : Nat} {v1 v2 : Value} {x1 x2 : List Value} (h1 : w.ownsRow b1 e1 s1 v1 n1 x1) (h2 : w.ownsRow b2 e2 s2 v2 n2 x2) (he : e1 ≠ e2) : v1.ownBlock = none ∨ v1.ownBlock ≠ v2.ownBlock := by
  rcases h1.2 with ⟨rfl, _⟩ | ⟨g, cap, cur, rfl, _, hg, _⟩
  · exact .inl rfl
  · refine .inr ?_
    rcases h2.2 with ⟨rfl, _⟩ | ⟨g2, cap2, cur2, rfl, _, hg2, _⟩
    · exact fun h => by cases h
    · intro h
      simp only [Value.ownBlock, Option.some.injEq] at h
      subst h
      rw [hg] at hg2
      simp only [Option.some.injEq, Obj.cells.injEq] at hg2
      exact he hg2.2.1
/-- One slice of rules in a new row. -/
theorem pat1 {W : World} {a1 : Option Addr} {n1 c1 : Nat} {L1 : List Ru} (t : TypeId) (h1 : SR W (.slice a1 n1 c1) L1) :
    PAt (W.alloc (.cells #[.slice a1 n1 c1] t)) W.heap.size 0 [L1] := by
  have hb : Below W.heap.size W (W.alloc (.cells #[.slice a1 n1 c1] t)) := (Below.refl _ _).alloc (Nat.le_refl _) _
  intro i hi
  match i, hi with
  | 0, _ => exact ⟨a1, n1, c1, by simp, h1.later hb⟩

set_option maxHeartbeats 2000000 in
set_option maxRecDepth 100000 in
theorem beyond_any (ao : Option Addr) (n cap : Nat) (ao2 : Option Addr) (n2 cap2 : Nat) (L M : List Ru) (w : World) (hs : SR w (.slice ao n cap) L) (ht : SR w (.slice ao2 n2 cap2) M) (h1000 : L.length ≤ 1000) :
    Calls Try.prog 34 #[.slice ao n cap, .slice ao2 n2 cap2] w fun e w' => ∃ ao3 n3 cap3, e = .returned (.slice ao3 n3 cap3) ∧ n3 = (bey L M).length ∧ w'.ownsRow w.heap.size 37 6 (.slice ao3 n3 cap3) (bey L M).length (cellsR (bey L M)) ∧ Below w.heap.size w w' := by
  have hB0 : Below w.heap.size w (w.alloc (Obj.cells #[.slice ao2 n2 cap2] 41)) := (Below.refl _ _).alloc (Nat.le_refl _) _
  have HAS : Hid (Asks (w.alloc (Obj.cells #[.slice ao2 n2 cap2] 41)) 50 (.pointer (some ⟨w.heap.size, 0, none⟩)) (fun a => inB M a)) :=
    beyond1_asks ao2 n2 cap2 M w.heap.size _ (by simp) (ht.later hB0)
  have hp := pat1 41 (hs.later hB0)
  have hB1 : Below (w.alloc (Obj.cells #[.slice ao2 n2 cap2] 41)).heap.size (w.alloc (Obj.cells #[.slice ao2 n2 cap2] 41)) ((w.alloc (Obj.cells #[.slice ao2 n2 cap2] 41)).alloc (.cells #[.slice ao n cap] 41)) := (Below.refl _ _).alloc (Nat.le_refl _) _
  have HP : Hid (PAt ((w.alloc (Obj.cells #[.slice ao2 n2 cap2] 41)).alloc (.cells #[.slice ao n cap] 41)) (w.heap.size + 1) 0 [L]) := by
    show PAt _ _ _ _
    simpa using hp
  have HB0 : Hid (Below w.heap.size w (w.alloc (Obj.cells #[.slice ao2 n2 cap2] 41))) := hB0
  have HB1 : Hid (Below (w.alloc (Obj.cells #[.slice ao2 n2 cap2] 41)).heap.size (w.alloc (Obj.cells #[.slice ao2 n2 cap2] 41)) ((w.alloc (Obj.cells #[.slice ao2 n2 cap2] 41)).alloc (.cells #[.slice ao n cap] 41))) := hB1
  have HL : Hid (L.length ≤ 1000) := h1000
  have HL2 : Hid ([L].flatten.length ≤ 1000) := by show _ ≤ 1000; simpa using h1000
  clear hs ht hB0 hp hB1 h1000
  go_enter Try.func34, Try.ntmps34
  go_wp2_with fail
  refine (concat_any _ 0 1 1 [L] _ rfl (by omega) HP.out HL2.out).mono ?_
  rintro e w1 ⟨u, rfl, hown, hb1⟩
  have HB2 : Hid (Below (w.alloc (Obj.cells #[.slice ao2 n2 cap2] 41)).heap.size (w.alloc (Obj.cells #[.slice ao2 n2 cap2] 41)) w1) := HB1.out.trans (hb1.mono HB1.out.size)
  have HO : Hid (w1.ownsRow (w.alloc (Obj.cells #[.slice ao2 n2 cap2] 41)).heap.size 37 6 u L.length (cellsR L)) := by
    show World.ownsRow _ _ _ _ _ _ _
    have h1 := own_mono hown HB1.out.size
    have e1 : [L].flatten = L := by simp
    rw [e1] at h1
    exact h1
  clear hown hb1
  go_wp2_with fail
  refine (delete_any u _ _ (fun a => inB M a) L _ _ HB2.out HO.out (enters_of Try.func50 (by kernel_rfl) rfl) HAS.out HL.out).mono ?_
  rintro e w2 ⟨u2, rfl, hsr, hb2⟩
  obtain ⟨ao3, n3, cap3, rfl, hn3, _⟩ := (own_SR hsr).form
  have HSR : Hid (w2.ownsRow w.heap.size 37 6 (.slice ao3 n3 cap3) (bey L M).length (cellsR (bey L M))) := own_mono hsr HB0.out.size
  have HN3 : Hid (n3 = (bey L M).length) := hn3.symm
  have HB3 : Hid (Below w.heap.size w w2) := HB0.out.trans (hb2.mono HB0.out.size)
  clear hsr hb2 hn3
  go_wp2
  go_ret
  exact ⟨_, _, _, rfl, HN3.out, HSR.out, HB3.out⟩
end Go.Proofs.Ytokkmnednhigmae
/- Slices of ops: where they lie, rows of them that a call owns. -/
namespace Go.Proofs.Ytokkmnednhigmae
open Go.RowKit
set_option linter.unusedSimpArgs false
set_option linter.unusedVariables false

/-- An op lies at an address. -/
structure C8 (w : World) (g o : Nat) (x : Op8) : Prop where
  c0 : w.cell? ⟨g, o, none⟩ = some (.int .i64 x.w)
  c1 : w.cell? ⟨g, o + 1, none⟩ = some (.bool x.a)
  c2 : w.cell? ⟨g, o + 2, none⟩ = some (.int .i64 x.r.p)
  c3 : w.cell? ⟨g, o + 3, none⟩ = some (.int .i64 x.r.m)
  c4 : w.cell? ⟨g, o + 4, none⟩ = some (.int .i64 x.r.b)
  c5 : w.cell? ⟨g, o + 5, none⟩ = some (.int .i64 x.r.o)
  c6 : w.cell? ⟨g, o + 6, none⟩ = some (.int .i64 x.r.s)
  c7 : w.cell? ⟨g, o + 7, none⟩ = some (.int .i64 x.r.v)
theorem C8.later {w w' : World} {g o : Nat} {x : Op8} (h : C8 w g o x) (hb : Below w.heap.size w w') : C8 w' g o x :=
  ⟨cell_later hb h.c0, cell_later hb h.c1, cell_later hb h.c2, cell_later hb h.c3, cell_later hb h.c4, cell_later hb h.c5, cell_later hb h.c6, cell_later hb h.c7⟩
theorem C8.new (w : World) (y : Int) (a : Bool) (p m b o s v : Int) (t : TypeId) : C8 (w.alloc (Obj.cells #[Value.int IntKind.i64 y, Value.bool a, Value.int IntKind.i64 p, Value.int IntKind.i64 m, Value.int IntKind.i64 b, Value.int IntKind.i64 o, Value.int IntKind.i64 s, Value.int IntKind.i64 v] t)) w.heap.size 0 ⟨y, a, ⟨p, m, b, o, s, v⟩⟩ := by
  refine ⟨?_, ?_, ?_, ?_, ?_, ?_, ?_, ?_⟩ <;> simp
/-- These ops lie from an address on. -/
def OAt (w : World) (g o : Nat) (L : List Op8) : Prop := ∀ i (h : i < L.length), C8 w g (o + i * 8) L[i]
theorem OAt.later {w w' : World} {g o : Nat} {L : List Op8} (h : OAt w g o L) (hb : Below w.heap.size w w') : OAt w' g o L := fun i hi => (h i hi).later hb
/-- A value is a slice of these ops. -/
def SO (w : World) (v : Value) (L : List Op8) : Prop :=
  (∃ ao cap, v = .slice ao 0 cap ∧ L = []) ∨ ∃ g o cap, v = .slice (some ⟨g, o, none⟩) L.length cap ∧ L.length ≤ cap ∧ cap ≤ maxLen ∧ OAt w g o L
theorem SO.later {w w' : World} {v : Value} {L : List Op8} (h : SO w v L) (hb : Below w.heap.size w w') : SO w' v L := by
  rcases h with h | ⟨g, o, cap, h1, h2, h3, h4⟩
  · exact .inl h
  · exact .inr ⟨g, o, cap, h1, h2, h3, h4.later hb⟩
theorem SO.form {w : World} {v : Value} {L : List Op8} (h : SO w v L) : ∃ ao n cap, v = .slice ao n cap ∧ L.length = n ∧ n ≤ maxLen ∧ n ≤ cap ∧ (0 < n → ∃ g o, ao = some ⟨g, o, none⟩ ∧ OAt w g o L ∧ cap ≤ maxLen) := by
  rcases h with ⟨ao, cap, rfl, rfl⟩ | ⟨g, o, cap, rfl, h1, h2, h3⟩
  · exact ⟨ao, 0, cap, rfl, rfl, Nat.zero_le _, Nat.zero_le _, fun h => absurd h (by omega)⟩
  · exact ⟨_, _, cap, rfl, rfl, Nat.le_trans h1 h2, h1, fun _ => ⟨g, o, rfl, h3, h2⟩⟩
theorem SO.nil (w : World) : SO w (.slice none 0 0) [] := .inl ⟨none, 0, rfl, rfl⟩
/-- The op at a place, in letters. -/
theorem OAt.at {w : World} {g o : Nat} {L : List Op8} (h : OAt w g o L) {n k : Nat} (hn : L.length = n) (hk : k < n) :
    ∃ (y : Int) (a : Bool) (p m b q s v : Int) (hl : k < L.length), L[k] = ⟨y, a, ⟨p, m, b, q, s, v⟩⟩ ∧ (w.cell? ⟨g, o + k * 8, none⟩ = some (.int .i64 y) ∧ w.cell? ⟨g, o + k * 8 + 1, none⟩ = some (.bool a) ∧ w.cell? ⟨g, o + k * 8 + 2, none⟩ = some (.int .i64 p) ∧ w.cell? ⟨g, o + k * 8 + 3, none⟩ = some (.int .i64 m) ∧ w.cell? ⟨g, o + k * 8 + 4, none⟩ = some (.int .i64 b) ∧
      w.cell? ⟨g, o + k * 8 + 5, none⟩ = some (.int .i64 q) ∧ w.cell? ⟨g, o + k * 8 + 6, none⟩ = some (.int .i64 s) ∧ w.cell? ⟨g, o + k * 8 + 7, none⟩ = some (.int .i64 v)) :=
  have hl : k < L.length := by omega
  have c := h k hl
  ⟨_, _, _, _, _, _, _, _, hl, rfl, c.c0, c.c1, c.c2, c.c3, c.c4, c.c5, c.c6, c.c7⟩
/-- The cells of ops. -/
def cellsO (L : List Op8) : List Value := L.flatMap fun x => [.int .i64 x.w, .bool x.a, .int .i64 x.r.p, .int .i64 x.r.m, .int .i64 x.r.b, .int .i64 x.r.o, .int .i64 x.r.s, .int .i64 x.r.v]
theorem cellsO_app (L M : List Op8) : cellsO (L ++ M) = cellsO L ++ cellsO M := by simp [cellsO]
theorem cellsO_at (L : List Op8) (i : Nat) (h : i < L.length) : (cellsO L)[i * 8]? = some (.int .i64 (L[i]).w) ∧ (cellsO L)[i * 8 + 1]? = some (.bool (L[i]).a) ∧ (cellsO L)[i * 8 + 2]? = some (.int .i64 (L[i]).r.p) ∧ (cellsO L)[i * 8 + 3]? = some (.int .i64 (L[i]).r.m) ∧
    (cellsO L)[i * 8 + 4]? = some (.int .i64 (L[i]).r.b) ∧ (cellsO L)[i * 8 + 5]? = some (.int .i64 (L[i]).r.o) ∧ (cellsO L)[i * 8 + 6]? = some (.int .i64 (L[i]).r.s) ∧ (cellsO L)[i * 8 + 7]? = some (.int .i64 (L[i]).r.v) := by
  induction L generalizing i with
  | nil => simp at h
  | cons p r ih =>
    cases i with
    | zero => simp [cellsO]
    | succ i =>
      have := ih i (by simpa using h)
      have e1 : (i + 1) * 8 = i * 8 + 1 + 1 + 1 + 1 + 1 + 1 + 1 + 1 := by omega
      simpa [cellsO, e1] using this
/-- What a call owns may be read. -/
theorem own_SO {w : World} {B e : Nat} {v : Value} {L : List Op8} (h : w.ownsRow B e 8 v L.length (cellsO L)) : SO w v L := by
  rcases h.2 with ⟨rfl, h0⟩ | ⟨g, cap, cur, rfl, _, _, h1, h2, _⟩
  · exact .inl ⟨none, 0, rfl, List.length_eq_zero_iff.1 h0⟩
  · refine .inr ⟨g, 0, cap, rfl, h1, h2, fun i hi => ?_⟩
    obtain ⟨a0, a1, a2, a3, a4, a5, a6, a7⟩ := cellsO_at L i hi
    rw [Nat.zero_add]
    refine ⟨?_, ?_, ?_, ?_, ?_, ?_, ?_, ?_⟩
    · rw [h.cellAt _ (by omega)]; exact a0
    · rw [h.cellAt _ (by omega)]; exact a1
    · rw [h.cellAt _ (by omega)]; exact a2
    · rw [h.cellAt _ (by omega)]; exact a3
    · rw [h.cellAt _ (by omega)]; exact a4
    · rw [h.cellAt _ (by omega)]; exact a5
    · rw [h.cellAt _ (by omega)]; exact a6
    · rw [h.cellAt _ (by omega)]; exact a7
theorem infoOp : (Try.prog.info? 39).map (fun i => (i.zero, i.size, i.bytes)) = some (some (.agg #[.int .i64 0, .bool false, .int .i64 0, .int .i64 0, .int .i64 0, .int .i64 0, .int .i64 0, .int .i64 0]), 8, 64) := by kernel_rfl
theorem eightCells : (Value.agg #[.int .i64 0, .bool false, .int .i64 0, .int .i64 0, .int .i64 0, .int .i64 0, .int .i64 0, .int .i64 0]).cells.size = 8 := by simp [Value.cells]

/-- Appending one op, in a new row, to a row of ops that a call owns. -/
theorem wpList_append_op (w : World) {ops : Array Oper} {rest : List Oper} {o : Oper} {a : Act} {Q : Exit → Act → World → Prop} (hgd : o.guard = none) (s x : Operand) (t : TypeId)
    (ho : o.op = .call { callee := .builtin .append, args := #[s, x], argTypes := #[t, t] }) (ht : Try.prog.underlying t = some (.slice 39)) (base : Nat)
    (v : Value) (hs : a.eval s = v) (L : List Op8) (hown : w.ownsRow base 39 8 v L.length (cellsO L)) (B : Nat) (hx : a.eval x = .slice (some ⟨B, 0, none⟩) 1 1) (y : Op8) (hM : C8 w B 0 y)
    (h100 : L.length ≤ 1000) (hbase : base ≤ w.heap.size)
    (h : ∀ v' w', w'.ownsRow base 39 8 v' (L ++ [y]).length (cellsO (L ++ [y])) → w.grownBy w' v.ownBlock → wpList Try.prog ops Q rest (a.put o.dst v') w') : wpList Try.prog ops Q (o :: rest) a w := by
  obtain ⟨i0, hi, hz0, hz1, hz2⟩ := info_parts infoOp
  refine wpList_append_own w hgd s x t ho base 39 i0 (.agg #[.int .i64 0, .bool false, .int .i64 0, .int .i64 0, .int .i64 0, .int .i64 0, .int .i64 0, .int .i64 0]) 8 64 ht hi hz0 hz1 hz2 eightCells (by decide) v _ _ hs hown ⟨B, 0, none⟩ 1 1 (cellsO [y]) hx rfl ?_ ?_ (by unfold maxLen; omega) (by omega) hbase ?_
  · intro j u hj
    rw [addr_add, Nat.zero_add]
    obtain ⟨c0, c1, c2, c3, c4, c5, c6, c7⟩ := hM
    match j, hj with
    | 0, hj => simp [cellsO] at hj; subst hj; exact c0
    | 1, hj => simp [cellsO] at hj; subst hj; exact c1
    | 2, hj => simp [cellsO] at hj; subst hj; exact c2
    | 3, hj => simp [cellsO] at hj; subst hj; exact c3
    | 4, hj => simp [cellsO] at hj; subst hj; exact c4
    | 5, hj => simp [cellsO] at hj; subst hj; exact c5
    | 6, hj => simp [cellsO] at hj; subst hj; exact c6
    | 7, hj => simp [cellsO] at hj; subst hj; exact c7
  · intro u hu
    simp [cellsO] at hu
    rcases hu with rfl | rfl | rfl | rfl | rfl | rfl | rfl | rfl <;> rfl
  · intro v' w' h1 h2 _
    refine h v' w' ?_ h2
    rw [List.length_append, cellsO_app]
    exact h1
end Go.Proofs.Ytokkmnednhigmae
/- What table.check, Same, Diff and All answer. -/
namespace Go.Proofs.Ytokkmnednhigmae
open Go.RowKit
set_option linter.unusedSimpArgs false
set_option linter.unusedVariables false

theorem tw_ne {A B : List Ru} (h : tbN A ≠ 0) : twN A B = tbN A := by simp [twN, h]
theorem tw_ok {A B : List Ru} (h : tbN A = 0) : twN A B = tbN B := by simp [twN, h]
theorem tw_two {A B : List Ru} (h : twN A B = 0) : tbN A = 0 ∧ tbN B = 0 := by
  by_cases h1 : tbN A = 0
  · rw [tw_ok h1] at h; exact ⟨h1, h⟩
  · rw [tw_ne h1] at h; exact absurd h h1
theorem df_ne {A B : List Ru} (h : twN A B ≠ 0) : dfL A B = [] := by simp [dfL, h]
theorem df_ok {A B : List Ru} (h : twN A B = 0) : dfL A B = taken (bey A B) ++ added (bey B A) := by simp [dfL, h]
theorem sm_ne {A B : List Ru} (h : twN A B ≠ 0) : smB A B = false := by simp [smB, h]
theorem sm_ok {A B : List Ru} (h : twN A B = 0) : smB A B = (decide (A.length = B.length) && decide ((bey A B).length = 0)) := by simp [smB, h]

set_option maxHeartbeats 1000000 in
set_option maxRecDepth 100000 in
theorem check_any2 (v1 v2 : Value) (L M : List Ru) (w : World) (hs : SR w v1 L) (ht : SR w v2 M) :
    Calls Try.prog 33 #[v1, v2] w fun e w' => e = .returned (noV (twN L M)) ∧ Below w.heap.size w w' := by
  have HS : Hid (SR w v1 L) := hs
  have HT : Hid (SR w v2 M) := ht
  clear hs ht
  by_cases h1 : tbN L = 0
  · rw [tw_ok h1]
    have H1 : Hid (tbN L = 0) := h1
    clear h1
    generalize hE : noV (tbN M) = E
    have HE : Hid (noV (tbN M) = E) := hE
    clear hE
    go_enter Try.func33, Try.ntmps33
    go_wp2_with fail
    refine (table_any _ L _ HS.out).mono ?_
    rintro e w1 ⟨rfl, hb1⟩
    rw [no_ok H1.out]
    have HT1 : Hid (SR w1 v2 M) := HT.out.later hb1
    have HB1 : Hid (Below w.heap.size w w1) := hb1
    clear hb1
    go_wp2_with fail
    refine (table_any _ M _ HT1.out).mono ?_
    rintro e w2 ⟨rfl, hb2⟩
    rw [HE.out]
    have HB2 : Hid (Below w.heap.size w w2) := HB1.out.trans (hb2.mono HB1.out.size)
    clear hb2
    go_wp2
    go_ret
    exact ⟨rfl, HB2.out⟩
  · rw [tw_ne h1, no_ne h1]
    have H1 : Hid (tbN L ≠ 0) := h1
    clear h1
    go_enter Try.func33, Try.ntmps33
    go_wp2_with fail
    refine (table_any _ L _ HS.out).mono ?_
    rintro e w1 ⟨rfl, hb1⟩
    rw [no_ne H1.out]
    go_wp2
    go_ret
    exact ⟨rfl, hb1⟩

set_option maxHeartbeats 2000000 in
set_option maxRecDepth 100000 in
theorem same_any2 (ao : Option Addr) (n cap : Nat) (ao2 : Option Addr) (n2 cap2 : Nat) (L M : List Ru) (w : World) (hs : SR w (.slice ao n cap) L) (ht : SR w (.slice ao2 n2 cap2) M) :
    Calls Try.prog 35 #[.slice ao n cap, .slice ao2 n2 cap2] w fun e w' => e = .returned (.tuple #[.bool (smB L M), noV (twN L M)]) ∧ Below w.heap.size w w' := by
  have HS : Hid (SR w (.slice ao n cap) L) := hs
  have HT : Hid (SR w (.slice ao2 n2 cap2) M) := ht
  have HLN : Hid (L.length = n) := hs.len
  have HMN : Hid (M.length = n2) := ht.len
  clear hs ht
  by_cases h1 : twN L M = 0
  · rw [sm_ok h1, no_ok h1, HLN.out, HMN.out]
    have H1 : Hid (twN L M = 0) := h1
    have HL : Hid (L.length ≤ 1000) := by
      have := (tb_iff.1 (tw_two h1).1).1
      show _ ≤ 1000
      omega
    clear h1
    by_cases hn : n = n2
    · subst hn
      obtain ⟨N, hN⟩ : ∃ N, N = (bey L M).length := ⟨_, rfl⟩
      rw [← hN]
      have HN : Hid (N = (bey L M).length) := hN
      clear hN
      have e1 : decide (n = n) = true := by simp
      rw [e1, Bool.true_and]
      have HD : Hid (((N : Int) == 0) = decide (N = 0)) := by
        show _ = _
        rw [Bool.eq_iff_iff]
        simp
      go_enter Try.func35, Try.ntmps35
      go_wp2_with fail
      refine (check_any2 _ _ L M _ HS.out HT.out).mono ?_
      rintro e w1 ⟨rfl, hb1⟩
      rw [no_ok H1.out]
      have HS1 : Hid (SR w1 (.slice ao n cap) L) := HS.out.later hb1
      have HT1 : Hid (SR w1 (.slice ao2 n cap2) M) := HT.out.later hb1
      have HB1 : Hid (Below w.heap.size w w1) := hb1
      clear hb1
      go_wp2_with fail
      refine (beyond_any _ _ _ _ _ _ L M _ HS1.out HT1.out HL.out).mono ?_
      rintro e w2 ⟨ao3, n3, cap3, rfl, hn3, _, hb2⟩
      rw [← HN.out] at hn3
      subst hn3
      have HB2 : Hid (Below w.heap.size w w2) := HB1.out.trans (hb2.mono HB1.out.size)
      clear hb2
      go_wp2
      refine bodyPost_ret (v := .tuple #[.bool ((n3 : Int) == 0), .nilIface]) (by simp [results, Try.results35, go_sem]) rfl ⟨by rw [HD.out], HB2.out⟩
    · have e1 : decide (n = n2) = false := by simpa using hn
      rw [e1, Bool.false_and]
      have e2 : ((n : Int) == (n2 : Int)) = false := beq_eq_false_iff_ne.2 (by omega)
      go_enter Try.func35, Try.ntmps35
      go_wp2_with fail
      refine (check_any2 _ _ L M _ HS.out HT.out).mono ?_
      rintro e w1 ⟨rfl, hb1⟩
      rw [no_ok H1.out]
      have HB1 : Hid (Below w.heap.size w w1) := hb1
      clear hb1
      go_wp2
      refine bodyPost_ret (v := .tuple #[.bool false, .nilIface]) (by simp [results, Try.results35, go_sem]) rfl ⟨rfl, HB1.out⟩
  · rw [sm_ne h1, no_ne h1]
    have H1 : Hid (twN L M ≠ 0) := h1
    clear h1
    go_enter Try.func35, Try.ntmps35
    go_wp2_with fail
    refine (check_any2 _ _ L M _ HS.out HT.out).mono ?_
    rintro e w1 ⟨rfl, hb1⟩
    rw [no_ne H1.out]
    have HB1 : Hid (Below w.heap.size w w1) := hb1
    clear hb1
    go_wp2
    refine bodyPost_ret (v := .tuple #[.bool false, .iface 52 (.int .i64 (twN L M))]) (by simp [results, Try.results35, go_sem]) rfl ⟨rfl, HB1.out⟩
end Go.Proofs.Ytokkmnednhigmae
