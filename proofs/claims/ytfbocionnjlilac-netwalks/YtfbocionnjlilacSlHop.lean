/- What package slices answers at slices of api.Hop. Written by mk/slices.py. -/
import Derived.Test.YtfbocionnjlilacStHop
import Derived.Test.YtfbocionnjlilacQuiet
import Derived.Shelf.Abstract
import Derived.Deep.CutRange
import Derived.Deep.CutBlock
namespace Go.Proofs.Ytfbocionnjlilac
open Go.RowKit
set_option linter.unusedSimpArgs false
set_option linter.unusedVariables false

/-- One in a box, another one at an address: a class of worlds. -/
def hopCI (w : World) (B : Nat) (x0 : Int) (x1 : Int) (x2 : Int) (g o : Nat) (y0 : Int) (y1 : Int) (y2 : Int) (w' : World) : Prop :=
  Below w.heap.size w w' ∧ (w'.cell? ⟨B, 0, none⟩ = some (.int .i64 x0) ∧ w'.cell? ⟨B, 1, none⟩ = some (.int .i64 x1) ∧ w'.cell? ⟨B, 2, none⟩ = some (.int .i64 x2)) ∧
  w'.cell? ⟨g, o, none⟩ = some (.int .i64 y0) ∧ w'.cell? ⟨g, o + 1, none⟩ = some (.int .i64 y1) ∧ w'.cell? ⟨g, o + 2, none⟩ = some (.int .i64 y2)
theorem hopCI.later {w W W' : World} {B : Nat} {x0 : Int} {x1 : Int} {x2 : Int} {g o : Nat} {y0 : Int} {y1 : Int} {y2 : Int} (hb : Below W.heap.size W W') (h : hopCI w B x0 x1 x2 g o y0 y1 y2 W) : hopCI w B x0 x1 x2 g o y0 y1 y2 W' := by
  obtain ⟨h0, ⟨h1, h2, h3⟩, k1, k2, k3⟩ := h
  exact ⟨h0.trans (hb.mono h0.size), ⟨cell_later hb h1, cell_later hb h2, cell_later hb h3⟩, cell_later hb k1, cell_later hb k2, cell_later hb k3⟩

set_option maxHeartbeats 2000000 in
set_option maxRecDepth 100000 in
theorem hop_idx (ao : Option Addr) (n cap : Nat) (x0 : Int) (x1 : Int) (x2 : Int) (L : List ((Int × Int) × Int)) (w : World) (hn : L.length = n) (hn2 : n ≤ maxLen) (ha : 0 < n → ∃ g o, ao = some ⟨g, o, none⟩ ∧ GAt hopE w g o L ∧ cap ≤ maxLen) :
    Calls Try.prog 48 #[.slice ao n cap, .agg #[.int .i64 x0, .int .i64 x1, .int .i64 x2]] w fun e w' => e = .returned (.int .i64 (ixG (fun a => hopB ((x0, x1), x2) a) L)) ∧ Below w.heap.size w w' := by
  have HN : Hid (L.length = n) := hn
  have HA : Hid (0 < n → ∃ g o, ao = some ⟨g, o, none⟩ ∧ GAt hopE w g o L ∧ cap ≤ maxLen) := ha
  have HC0 := hop_new w x0 x1 x2 58
  have HB0 : Hid (Below w.heap.size w (w.alloc (Obj.cells #[Value.int IntKind.i64 x0, Value.int IntKind.i64 x1, Value.int IntKind.i64 x2] 58))) := (Below.refl _ _).alloc (Nat.le_refl _) _
  unfold maxLen at hn2
  clear hn ha
  go_enter Try.func48, Try.ntmps48
  go_wp2
  go_loopw [8] (fun i wr => ∃ k : Nat, k ≤ n ∧ i = .int .i64 k ∧ (L.take k).any (fun a => hopB ((x0, x1), x2) a) = false ∧ Below w.heap.size w wr ∧ VAt wr w.heap.size 0 (hopE.c ((x0, x1), x2)))
    (fun i _ => n - (intOf i).toNat)
  case atStart => exact ⟨0, by omega, rfl, by simp, HB0.out, HC0⟩
  case round =>
    obtain ⟨k, hk, rfl, hno, hB, hC⟩ := hrel
    have HB : Hid (Below w.heap.size w wr) := hB
    have HC : Hid (VAt wr w.heap.size 0 (hopE.c ((x0, x1), x2))) := hC
    have HNO : Hid ((L.take k).any (fun a => hopB ((x0, x1), x2) a) = false) := hno
    clear hno HC0 HB0
    by_cases hlt : k < n
    · obtain ⟨g, og, hao, hc, _⟩ := HA.out (by omega)
      subst hao
      obtain ⟨y0, y1, y2, hkl, hL, q0, q1, q2⟩ := hop_at (hc.later hB) HN.out hlt
      have HL : Hid (L[k] = ((y0, y1), y2)) := hL
      obtain ⟨r0, r1, r2⟩ := hop_cells hC
      simp only [Nat.zero_add] at r0 r1 r2
      have HCE : Hid (hopCI wr w.heap.size x0 x1 x2 g (og + k * 3) y0 y1 y2 wr) := ⟨Below.refl _ _, ⟨r0, r1, r2⟩, q0, q1, q2⟩
      clear hL hB hC HA q0 q1 q2 r0 r1 r2
      go_upto_region 4 with fail
      have kb0 : (0 : Int) ≤ (k : Int) := by omega
      have kb1 : (k : Int) < (n : Int) := by omega
      go_cut [16] from 9 to 18 (fun c w' => c = .bool (hopB ((x0, x1), x2) ((y0, y1), y2)) ∧ Below wr.heap.size wr w')
      case first =>
        as_aux_lemma =>
          refine wp_region_quiet (C := hopCI wr w.heap.size x0 x1 x2 g (og + k * 3) y0 y1 y2) (by kernel_rfl) (by kernel_rfl) (hopCI.later (W := wr) (Below.drew (Below.refl _ _)) HCE.out) ?_
          simp only [List.toList_toArray]
          go_big_quiet_want
          refine quiet_val (v := .agg #[.int .i64 x0, .int .i64 x1, .int .i64 x2]) (fun w' hC => ?_) ?_
          · obtain ⟨z, ⟨z0, z1, z2⟩, u0, u1, u2⟩ := hC
            go_simp
          simp only [Act.put, List.setIfInBounds_toArray, List.set_cons_zero, List.set_cons_succ]
          go_big_quiet_on
          go_big_quiet_want
          refine quiet_val (v := .slice (some ⟨g, og, none⟩) n cap) (fun w' hC => ?_) ?_
          · obtain ⟨z, ⟨z0, z1, z2⟩, u0, u1, u2⟩ := hC
            go_simp
          simp only [Act.put, List.setIfInBounds_toArray, List.set_cons_zero, List.set_cons_succ]
          go_big_quiet_on
          go_big_quiet_want
          refine quiet_val (v := .int .i64 (k : Int)) (fun w' hC => ?_) ?_
          · obtain ⟨z, ⟨z0, z1, z2⟩, u0, u1, u2⟩ := hC
            go_simp
          simp only [Act.put, List.setIfInBounds_toArray, List.set_cons_zero, List.set_cons_succ]
          go_big_quiet_on
          go_big_quiet_want
          refine quiet_val (v := .pointer (some ⟨g, og + k * 3, none⟩)) (fun w' hC => ?_) ?_
          · obtain ⟨z, ⟨z0, z1, z2⟩, u0, u1, u2⟩ := hC
            go_simp
          simp only [Act.put, List.setIfInBounds_toArray, List.set_cons_zero, List.set_cons_succ]
          go_big_quiet_on
          go_big_quiet_want
          refine quiet_val (v := .agg #[.int .i64 y0, .int .i64 y1, .int .i64 y2]) (fun w' hC => ?_) ?_
          · obtain ⟨z, ⟨z0, z1, z2⟩, u0, u1, u2⟩ := hC
            go_simp
          simp only [Act.put, List.setIfInBounds_toArray, List.set_cons_zero, List.set_cons_succ]
          go_big_quiet_on
          go_big_quiet_want
          refine quiet_val (v := .bool (hopB ((x0, x1), x2) ((y0, y1), y2))) (fun w' hC => exec_bin rfl (by go_simp) (run_eql_of (hop_eq x0 x1 x2 y0 y1 y2 w'))) ?_
          simp only [Act.put, List.setIfInBounds_toArray, List.set_cons_zero, List.set_cons_succ]
          go_big_quiet_on
          refine wpQuiet_nil ?_
          intro w' hC
          go_wp2_with fail
          go_meet
          case rel => exact ⟨rfl, hC.1⟩
      case rest =>
        obtain ⟨rfl, hB2⟩ := hcut
        have HB2 : Hid (Below w.heap.size w wc) := HB.out.trans (hB2.mono HB.out.size)
        have HC2 : Hid (VAt wc w.heap.size 0 (hopE.c ((x0, x1), x2))) := HC.out.later hB2
        clear hB2
        cases ho : hopB ((x0, x1), x2) ((y0, y1), y2)
        · go_wp2
          go_roundw
          case rel => exact ⟨k + 1, by omega, by go_num, any_nextG hkl HNO.out (by rw [HL.out]; exact ho), HB2.out, HC2.out⟩
          case measure => simp [intOf]; omega
        · go_wp2
          go_ret
          exact ⟨by rw [ixG_hit hkl HNO.out (by rw [HL.out]; exact ho)]; rfl, HB2.out⟩
    · obtain rfl : k = n := by omega
      go_wp2
      go_ret
      exact ⟨by have := HNO.out; rw [← HN.out, List.take_length] at this; rw [ixG_no this]; rfl, HB.out⟩

end Go.Proofs.Ytfbocionnjlilac
