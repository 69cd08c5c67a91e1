/- Contracts and facts on the way to MixFew, joined into one text: MixOr, MixHopOrd, MixCmpHops, MixOrder, MixCmpMath, SlSortFate, MixSort, MixSeenI, RoundReg, TopoWhere. -/
import Derived.Test.YtmpjoepfgfbjmaaMixFewP13
import Derived.Test.YtmpjoepfgfbjmaaMixFewP8
import Derived.Test.YtmpjoepfgfbjmaaMixFewP12
import Derived.Test.YtmpjoepfgfbjmaaMixFewP4
import Derived.Test.YtmpjoepfgfbjmaaMixFewP6
import Derived.Test.YtmpjoepfgfbjmaaRows
import Derived.WalkKit
import Derived.WalkSpells
import Derived.Below
import Derived.BigQuiet
import Derived.Deep.QuietTactic
import Derived.Deep.RegionHeld3
import Derived.Shelf.SlSortCmp.WholeK
import Derived.Test.YtmpjoepfgfbjmaaProg
import Derived.OrdersIn
import Derived.RangeFuncCalls
/- What cmp.Or answers at a slice of numbers. -/
namespace Go.Proofs.Ytmpjoepfgfbjmaa
open Go.RowKit Go.Sort
set_option linter.unusedSimpArgs false
set_option linter.unusedVariables false

/-- The first of a list that is not nothing. -/
def orL : List Int → Int
  | [] => 0
  | x :: l => if x = 0 then orL l else x
theorem cmor_zero : ∀ {L : List Int}, (L.any fun x => x != 0) = false → orL L = 0
  | [], _ => rfl
  | x :: l, h => by
    simp at h
    unfold orL
    rw [if_pos h.1]
    exact cmor_zero (by simpa using h.2)
theorem cmor_hit : ∀ {L : List Int} {k : Nat} (hk : k < L.length), ((L.take k).any fun x => x != 0) = false → L[k] ≠ 0 → orL L = L[k]
  | x :: l, 0, _, _, h => by unfold orL; rw [if_neg (by simpa using h)]; rfl
  | x :: l, k + 1, hk, hn, h => by
    simp only [List.take_succ_cons, List.any_cons, Bool.or_eq_false_iff] at hn
    unfold orL
    rw [if_pos (by simpa using hn.1), cmor_hit (by simpa using hk) hn.2 (by simpa using h)]
    rfl
theorem cmor_three (a b c : Int) : orL [a, b, c] = or3 a b c := by
  unfold orL orL orL orL or3
  by_cases h1 : a = 0
  · by_cases h2 : b = 0
    · by_cases h3 : c = 0 <;> simp [h1, h2, h3]
    · simp [h1, h2]
  · simp [h1]

set_option maxHeartbeats 1000000 in
theorem cmor_any (ao : Option Addr) (n cap : Nat) (L : List Int) (w : World) (hs : GS inE w (.slice ao n cap) L) :
    Calls Try.prog 29 #[.slice ao n cap] w fun e w' => e = .returned (.int .i64 (orL L)) ∧ w' = w := by
  obtain ⟨_, _, _, e1, hn, hn2, _, ha⟩ := hs.form
  cases e1
  have HN : Hid (L.length = n) := hn
  have HA : Hid (0 < n → ∃ g o, ao = some ⟨g, o, none⟩ ∧ GAt inE w g o L ∧ cap ≤ maxLen) := ha
  unfold maxLen at hn2
  clear hn ha hs
  go_enter Try.func29, Try.ntmps29
  go_wp2
  go_loopw [8] (fun i wr => ∃ k : Nat, k ≤ n ∧ i = .int .i64 k ∧ (L.take k).any (fun x => x != 0) = false ∧ wr = w)
    (fun i _ => n - (intOf i).toNat)
  case atStart => exact ⟨0, by omega, rfl, by simp, rfl⟩
  case round =>
    obtain ⟨k, hk, rfl, hno, hW⟩ := hrel
    subst hW
    have HNO : Hid ((L.take k).any (fun x => x != 0) = false) := hno
    clear hno
    by_cases hlt : k < n
    · obtain ⟨g, o, hao, hc, _⟩ := HA.out (by omega)
      subst hao
      obtain ⟨x, hkl, hL, q0⟩ := in_at hc HN.out hlt
      have HL : Hid (L[k] = x) := hL
      clear hL hc
      by_cases ho : x = 0
      · subst ho
        go_wp2
        go_roundw
        case rel => exact ⟨k + 1, by omega, by go_num, any_nextG hkl HNO.out (by rw [HL.out]; simp), trivial⟩
        case measure => simp [intOf]; omega
      · have ho2 : (0 : Int) ≠ x := Ne.symm ho
        go_wp2
        go_ret
        exact ⟨by rw [cmor_hit hkl HNO.out (by rw [HL.out]; exact ho), HL.out]; rfl, rfl⟩
    · obtain rfl : k = n := by omega
      go_wp2
      go_ret
      exact ⟨by have := HNO.out; rw [← HN.out, List.take_length] at this; rw [cmor_zero this]; rfl, rfl⟩
end Go.Proofs.Ytmpjoepfgfbjmaa
/- What hopOrder of package mix answers. -/
namespace Go.Proofs.Ytmpjoepfgfbjmaa
open Go.RowKit Go.Shelf Go.Sort
set_option linter.unusedSimpArgs false
set_option linter.unusedVariables false

theorem Gr.refl (w : World) : Gr w w := ⟨0, #[], by rw [grow_empty]; rfl⟩
theorem hop_box (w : World) (a b c : Int) (t : TypeId) : (w.alloc (Obj.cells #[.int .i64 a, .int .i64 b, .int .i64 c] t)).cell? ⟨w.heap.size, 0, none⟩ = some (.int .i64 a) ∧ (w.alloc (Obj.cells #[.int .i64 a, .int .i64 b, .int .i64 c] t)).cell? ⟨w.heap.size, 1, none⟩ = some (.int .i64 b) ∧ (w.alloc (Obj.cells #[.int .i64 a, .int .i64 b, .int .i64 c] t)).cell? ⟨w.heap.size, 2, none⟩ = some (.int .i64 c) := by
  refine ⟨?_, ?_, ?_⟩ <;> simp
theorem hop_boxes (w : World) (a b c d e f : Int) (t : TypeId) (W : World) (hW : W = (w.alloc (Obj.cells #[.int .i64 a, .int .i64 b, .int .i64 c] t)).alloc (Obj.cells #[.int .i64 d, .int .i64 e, .int .i64 f] t)) : W.cell? ⟨w.heap.size, 0, none⟩ = some (.int .i64 a) ∧ W.cell? ⟨w.heap.size, 1, none⟩ = some (.int .i64 b) ∧ W.cell? ⟨w.heap.size, 2, none⟩ = some (.int .i64 c) ∧ W.cell? ⟨w.heap.size + 1, 0, none⟩ = some (.int .i64 d) ∧ W.cell? ⟨w.heap.size + 1, 1, none⟩ = some (.int .i64 e) ∧ W.cell? ⟨w.heap.size + 1, 2, none⟩ = some (.int .i64 f) := by
  subst hW
  obtain ⟨x0, x1, x2⟩ := hop_box w a b c t
  obtain ⟨y0, y1, y2⟩ := hop_box (w.alloc (Obj.cells #[.int .i64 a, .int .i64 b, .int .i64 c] t)) d e f t
  rw [World.size_alloc] at y0 y1 y2
  have hb : Below _ (w.alloc (Obj.cells #[.int .i64 a, .int .i64 b, .int .i64 c] t)) ((w.alloc (Obj.cells #[.int .i64 a, .int .i64 b, .int .i64 c] t)).alloc (Obj.cells #[.int .i64 d, .int .i64 e, .int .i64 f] t)) := (Below.refl _ _).alloc (Nat.le_refl _) _
  exact ⟨cell_later hb x0, cell_later hb x1, cell_later hb x2, y0, y1, y2⟩
theorem Gr.alloc {w w' : World} (h : Gr w w') (o : Obj) : Gr w (w'.alloc o) := by
  obtain ⟨q, os, rfl⟩ := h
  exact ⟨q, os ++ #[o], by rw [alloc_eq_grow, grow_grow]⟩
theorem Gr.drew {w w' : World} (h : Gr w w') : Gr w w'.drew := by
  obtain ⟨q, os, rfl⟩ := h
  exact ⟨q + 1, os, rfl⟩
theorem gs_three (W : World) (x y z : Int) (t : TypeId) : GS inE (W.alloc (Obj.cells #[.int .i64 x, .int .i64 y, .int .i64 z] t)).drew (.slice (some ⟨W.heap.size, 0, none⟩) 3 3) [x, y, z] := by
  obtain ⟨x0, x1, x2⟩ := hop_box W x y z t
  have hg : GAt inE (W.alloc (Obj.cells #[.int .i64 x, .int .i64 y, .int .i64 z] t)) W.heap.size 0 [x, y, z] := by
    intro i hi j u hu
    have hj : j = 0 := by
      have : j < 1 := (List.getElem?_eq_some_iff.1 hu).1
      omega
    subst hj
    match i, hi with
    | 0, _ => cases hu; exact x0
    | 1, _ => cases hu; exact x1
    | 2, _ => cases hu; exact x2
  exact .inr ⟨_, 0, 3, rfl, by simp, by unfold maxLen; omega, hg.later (Below.drew (Below.refl _ _))⟩
/-- The order of two hops. -/
def cmH (x y : (Int × Int) × Int) : Int := or3 (cmI x.1.1 y.1.1) (cmI x.1.2 y.1.2) (cmI x.2 y.2)
set_option maxHeartbeats 400000 in
set_option maxRecDepth 100000 in
theorem hop_order (a b c d e f : Int) (w : World) :
    Calls Try.prog 33 #[.agg #[.int .i64 a, .int .i64 b, .int .i64 c], .agg #[.int .i64 d, .int .i64 e, .int .i64 f]] w fun e' w' => e' = .returned (.int .i64 (cmH ((a, b), c) ((d, e), f))) ∧ Gr w w' := by
  have HC : Hid (∀ x y W, Calls Try.prog 30 #[.int .i64 x, .int .i64 y] W fun e w' => e = .returned (.int .i64 (cmI x y)) ∧ w' = W) := compare_int
  have HO : Hid (cmH ((a, b), c) ((d, e), f) = orL [cmI a d, cmI b e, cmI c f]) := by
    show _ = _
    rw [cmor_three]
    rfl
  rw [HO.out]
  clear HO
  go_enter Try.func33, Try.ntmps33
  go_upto_region 1 with fail
  obtain ⟨w2, hw2⟩ : ∃ W, (w.alloc (Obj.cells #[.int .i64 a, .int .i64 b, .int .i64 c] 55)).alloc (Obj.cells #[.int .i64 d, .int .i64 e, .int .i64 f] 55) = W := ⟨_, rfl⟩
  obtain ⟨q0, q1, q2, q3, q4, q5⟩ := hop_boxes w a b c d e f 55 _ hw2.symm
  have HW2 : Hid (Gr w w2) := ⟨0, _, by rw [← hw2, alloc_eq_grow, alloc_eq_grow, grow_grow]; rfl⟩
  rw [hw2]
  clear hw2
  have HSW : Hid (∀ W, Below w2.heap.size w2 W → W.cell? ⟨w.heap.size, 0, none⟩ = some (.int .i64 a) ∧ W.cell? ⟨w.heap.size, 1, none⟩ = some (.int .i64 b) ∧ W.cell? ⟨w.heap.size, 2, none⟩ = some (.int .i64 c) ∧ W.cell? ⟨w.heap.size + 1, 0, none⟩ = some (.int .i64 d) ∧ W.cell? ⟨w.heap.size + 1, 1, none⟩ = some (.int .i64 e) ∧ W.cell? ⟨w.heap.size + 1, 2, none⟩ = some (.int .i64 f)) := fun W hb => ⟨cell_later hb q0, cell_later hb q1, cell_later hb q2, cell_later hb q3, cell_later hb q4, cell_later hb q5⟩
  go_region_held3 (fun W => W.cell? ⟨w.heap.size, 0, none⟩ = some (.int .i64 a) ∧ W.cell? ⟨w.heap.size, 1, none⟩ = some (.int .i64 b) ∧ W.cell? ⟨w.heap.size, 2, none⟩ = some (.int .i64 c) ∧ W.cell? ⟨w.heap.size + 1, 0, none⟩ = some (.int .i64 d) ∧ W.cell? ⟨w.heap.size + 1, 1, none⟩ = some (.int .i64 e) ∧ W.cell? ⟨w.heap.size + 1, 2, none⟩ = some (.int .i64 f))
    (first | (with_reducible assumption) | (with_reducible exact HSW.out _ (Below.refl _ _)) | (with_reducible exact HSW.out _ (Below.drew (Below.refl _ _))) | (with_reducible exact HSW.out _ (Below.drew ((Below.refl _ _).alloc (Nat.le_refl _) _))))
    (first
      | (go_at_call 30; refine (HC.out _ _ _).mono ?_; rintro e5 w5 ⟨rfl, rfl⟩)
      | (go_at_call 29; refine (cmor_any _ _ _ [cmI a d, cmI b e, cmI c f] _ ?_).mono ?_; (focus exact gs_three _ _ _ _ _); rintro e5 w5 ⟨rfl, rfl⟩))
  go_wp2
  go_ret
  exact ⟨rfl, (HW2.out.alloc _).drew⟩
end Go.Proofs.Ytmpjoepfgfbjmaa
/- What slices.CompareFunc answers at two slices of hops. -/
namespace Go.Proofs.Ytmpjoepfgfbjmaa
open Go.RowKit Go.Shelf Go.Sort
set_option linter.unusedSimpArgs false
set_option linter.unusedVariables false

/-- The order of two rows of hops. -/
def cmL : List ((Int × Int) × Int) → List ((Int × Int) × Int) → Int
  | [], [] => 0
  | [], _ :: _ => -1
  | _ :: _, [] => 1
  | x :: l, y :: m => if cmH x y = 0 then cmL l m else cmH x y
theorem cml_same {L M : List ((Int × Int) × Int)} {k : Nat} (h : k < L.length) (h2 : k < M.length) : cmL (L.drop k) (M.drop k) = if cmH L[k] M[k] = 0 then cmL (L.drop (k + 1)) (M.drop (k + 1)) else cmH L[k] M[k] := by
  rw [List.drop_eq_getElem_cons h, List.drop_eq_getElem_cons h2]
  rfl
theorem cml_more {L M : List ((Int × Int) × Int)} {k : Nat} (h : k < L.length) (h2 : M.length ≤ k) : cmL (L.drop k) (M.drop k) = 1 := by
  rw [List.drop_eq_getElem_cons h, List.drop_eq_nil_of_le h2]
  rfl
theorem cml_less {L M : List ((Int × Int) × Int)} {k : Nat} (h : L.length ≤ k) (h2 : k < M.length) : cmL (L.drop k) (M.drop k) = -1 := by
  rw [List.drop_eq_getElem_cons h2, List.drop_eq_nil_of_le h]
  rfl
theorem cml_none {L M : List ((Int × Int) × Int)} {k : Nat} (h : L.length ≤ k) (h2 : M.length ≤ k) : cmL (L.drop k) (M.drop k) = 0 := by
  rw [List.drop_eq_nil_of_le h, List.drop_eq_nil_of_le h2]
  rfl
theorem Gr.below {w w' : World} (h : Gr w w') : Below w.heap.size w w' := by
  obtain ⟨q, os, rfl⟩ := h
  exact ⟨rfl, rfl, rfl, by rw [size_grow]; exact Nat.le_add_right _ _, fun k hk => heap_grow_old (w.drewN q) os hk⟩
theorem Gr.trans {a b c : World} (h : Gr a b) (h2 : Gr b c) : Gr a c := by
  obtain ⟨q, os, rfl⟩ := h
  obtain ⟨q2, os2, rfl⟩ := h2
  exact ⟨q + q2, os ++ os2, by rw [← grow_grow, ← World.drewN_drewN]; rfl⟩
set_option maxHeartbeats 1000000 in
theorem cmp_hops (ao : Option Addr) (n cap : Nat) (ao2 : Option Addr) (n2 cap2 : Nat) (L M : List ((Int × Int) × Int)) (w : World) (hs : GS hopE w (.slice ao n cap) L) (hs2 : GS hopE w (.slice ao2 n2 cap2) M) :
    Calls Try.prog 32 #[.slice ao n cap, .slice ao2 n2 cap2, .func (Fn.func 33) #[] #[]] w fun e w' => e = .returned (.int .i64 (cmL L M)) ∧ Gr w w' := by
  have he : ∀ args w, (callFunc 33 args).run Try.prog w = .ok (.enter 33 args) w := enters_of Try.func33 (by kernel_rfl) rfl
  obtain ⟨_, _, _, e1, hn, hn2, _, ha⟩ := hs.form
  cases e1
  obtain ⟨_, _, _, e1, hm, hm2, _, hb⟩ := hs2.form
  cases e1
  have HN : Hid (L.length = n) := hn
  have HM : Hid (M.length = n2) := hm
  have HA : Hid (0 < n → ∃ g o, ao = some ⟨g, o, none⟩ ∧ GAt hopE w g o L ∧ cap ≤ maxLen) := ha
  have HB : Hid (0 < n2 → ∃ g o, ao2 = some ⟨g, o, none⟩ ∧ GAt hopE w g o M ∧ cap2 ≤ maxLen) := hb
  unfold maxLen at hn2 hm2
  clear hn ha hs hm hb hs2
  go_enter Try.func32, Try.ntmps32
  go_wp2
  go_loopw [13] (fun i wr => ∃ k : Nat, k ≤ n ∧ k ≤ n2 ∧ i = .int .i64 k ∧ cmL L M = cmL (L.drop k) (M.drop k) ∧ Gr w wr)
    (fun i _ => n - (intOf i).toNat)
  case atStart => exact ⟨0, by omega, by omega, rfl, rfl, Gr.refl _⟩
  case round =>
    obtain ⟨k, hk, hk2, rfl, hno, hG⟩ := hrel
    have HG : Hid (Gr w wr) := hG
    have HNO : Hid (cmL L M = cmL (L.drop k) (M.drop k)) := hno
    clear hno hG
    by_cases hlt : k < n
    · obtain ⟨g, o, hao, hc, _⟩ := HA.out (by omega)
      subst hao
      obtain ⟨x0, x1, x2, hkl, hL, q0, q1, q2⟩ := hop_at (hc.later HG.out.below) HN.out hlt
      have HL : Hid (L[k] = ((x0, x1), x2)) := hL
      clear hL hc
      by_cases hlt2 : k < n2
      · obtain ⟨g', o', hao', hc', _⟩ := HB.out (by omega)
        subst hao'
        obtain ⟨y0, y1, y2, hkl', hL', p0, p1, p2⟩ := hop_at (hc'.later HG.out.below) HM.out hlt2
        have HL' : Hid (M[k] = ((y0, y1), y2)) := hL'
        clear hL' hc'
        have hgl : g' < wr.heap.size := World.block_lt_of_cell? _ _ p0
        have hgn : g' ≠ wr.heap.size := Nat.ne_of_lt hgl
        have hgn2 : wr.heap.size ≠ g' := Ne.symm hgn
        go_wp2_with fail
        refine (hop_order x0 x1 x2 y0 y1 y2 _).mono ?_
        rintro e w1 ⟨rfl, hg1⟩
        have HG1 : Hid (Gr w w1) := ((HG.out.alloc _).alloc _).trans hg1
        clear hg1
        obtain ⟨r, hr⟩ : ∃ r, cmH ((x0, x1), x2) ((y0, y1), y2) = r := ⟨_, rfl⟩
        have HR : Hid (cmH ((x0, x1), x2) ((y0, y1), y2) = r) := hr
        rw [hr]
        clear hr
        have HC : Hid (cmL L M = if r = 0 then cmL (L.drop (k + 1)) (M.drop (k + 1)) else r) := by
          show _ = _
          rw [HNO.out, cml_same hkl hkl', HL.out, HL'.out, HR.out]
        by_cases h0 : r = 0
        · subst h0
          go_wp2
          go_roundw
          case rel => exact ⟨k + 1, by omega, by omega, by go_num, by rw [HC.out]; simp, HG1.out⟩
          case measure => simp [intOf]; omega
        · have h1 : (0 : Int) ≠ r := Ne.symm h0
          have HC2 : Hid (cmL L M = r) := by
            show _ = _
            rw [HC.out, if_neg h0]
          go_wp2
          go_ret
          exact ⟨by rw [HC2.out]; rfl, HG1.out⟩
      · have hge : n2 ≤ k := by omega
        have HC2 : Hid (cmL L M = 1) := by
          show _ = _
          rw [HNO.out, cml_more hkl (by rw [HM.out]; exact hge)]
        go_wp2
        go_ret
        exact ⟨by rw [HC2.out]; rfl, HG.out.alloc _⟩
    · obtain rfl : k = n := by omega
      by_cases hlt2 : k < n2
      · have HC2 : Hid (cmL L M = -1) := by
          show _ = _
          rw [HNO.out, cml_less (by rw [HN.out]; exact Nat.le_refl _) (by rw [HM.out]; exact hlt2)]
        go_wp2
        go_ret
        exact ⟨by rw [HC2.out]; rfl, HG.out⟩
      · have HC2 : Hid (cmL L M = 0) := by
          show _ = _
          rw [HNO.out, cml_none (by rw [HN.out]; exact Nat.le_refl _) (by rw [HM.out]; omega)]
        go_wp2
        go_ret
        exact ⟨by rw [HC2.out]; rfl, HG.out⟩
end Go.Proofs.Ytmpjoepfgfbjmaa
/- What order of package mix answers. -/
namespace Go.Proofs.Ytmpjoepfgfbjmaa
open Go.RowKit Go.Shelf Go.Sort
set_option linter.unusedSimpArgs false
set_option linter.unusedVariables false

theorem val_box (w : World) (a b c : Value) (t : TypeId) : (w.alloc (Obj.cells #[a, b, c] t)).cell? ⟨w.heap.size, 0, none⟩ = some a ∧ (w.alloc (Obj.cells #[a, b, c] t)).cell? ⟨w.heap.size, 1, none⟩ = some b ∧ (w.alloc (Obj.cells #[a, b, c] t)).cell? ⟨w.heap.size, 2, none⟩ = some c := by
  refine ⟨?_, ?_, ?_⟩ <;> simp
theorem val_boxes (w : World) (a b c d e f : Value) (t : TypeId) (W : World) (hW : W = (w.alloc (Obj.cells #[a, b, c] t)).alloc (Obj.cells #[d, e, f] t)) : W.cell? ⟨w.heap.size, 0, none⟩ = some a ∧ W.cell? ⟨w.heap.size, 1, none⟩ = some b ∧ W.cell? ⟨w.heap.size, 2, none⟩ = some c ∧ W.cell? ⟨w.heap.size + 1, 0, none⟩ = some d ∧ W.cell? ⟨w.heap.size + 1, 1, none⟩ = some e ∧ W.cell? ⟨w.heap.size + 1, 2, none⟩ = some f := by
  subst hW
  obtain ⟨x0, x1, x2⟩ := val_box w a b c t
  obtain ⟨y0, y1, y2⟩ := val_box (w.alloc (Obj.cells #[a, b, c] t)) d e f t
  rw [World.size_alloc] at y0 y1 y2
  have hb : Below _ (w.alloc (Obj.cells #[a, b, c] t)) ((w.alloc (Obj.cells #[a, b, c] t)).alloc (Obj.cells #[d, e, f] t)) := (Below.refl _ _).alloc (Nat.le_refl _) _
  exact ⟨cell_later hb x0, cell_later hb x1, cell_later hb x2, y0, y1, y2⟩
/-- The order of two fates. -/
def cmF (a d : Int) (s t : ByteArray) (L M : List ((Int × Int) × Int)) : Int := or3 (cmI a d) (cmS s t) (cmL L M)
set_option maxHeartbeats 1000000 in
set_option maxRecDepth 100000 in
theorem mix_order (a d : Int) (s t : ByteArray) (ao : Option Addr) (n cap : Nat) (ao2 : Option Addr) (n2 cap2 : Nat) (L M : List ((Int × Int) × Int)) (w : World) (hs : GS hopE w (.slice ao n cap) L) (hs2 : GS hopE w (.slice ao2 n2 cap2) M) :
    Calls Try.prog 15 #[.agg #[.int .i64 a, .string s, .slice ao n cap], .agg #[.int .i64 d, .string t, .slice ao2 n2 cap2]] w fun e' w' => e' = .returned (.int .i64 (cmF a d s t L M)) ∧ Gr w w' := by
  have HC : Hid (∀ x y W, Calls Try.prog 30 #[.int .i64 x, .int .i64 y] W fun e w' => e = .returned (.int .i64 (cmI x y)) ∧ w' = W) := compare_int
  have HD : Hid (∀ x y W, Calls Try.prog 31 #[.string x, .string y] W fun e w' => e = .returned (.int .i64 (cmS x y)) ∧ w' = W) := compare_str
  have HO : Hid (cmF a d s t L M = orL [cmI a d, cmS s t, cmL L M]) := by
    show _ = _
    rw [cmor_three]
    rfl
  have HH : Hid (∀ W, Below w.heap.size w W → Calls Try.prog 32 #[.slice ao n cap, .slice ao2 n2 cap2, .func (Fn.func 33) #[] #[]] W fun e w' => e = .returned (.int .i64 (cmL L M)) ∧ Gr W w') := fun W hb => cmp_hops ao n cap ao2 n2 cap2 L M W (hs.later hb) (hs2.later hb)
  rw [HO.out]
  clear HO hs hs2
  go_enter Try.func15, Try.ntmps15
  go_upto_region 1 with fail
  obtain ⟨w2, hw2⟩ : ∃ W, (w.alloc (Obj.cells #[.int .i64 a, .string s, .slice ao n cap] 43)).alloc (Obj.cells #[.int .i64 d, .string t, .slice ao2 n2 cap2] 43) = W := ⟨_, rfl⟩
  obtain ⟨q0, q1, q2, q3, q4, q5⟩ := val_boxes w (.int .i64 a) (.string s) (.slice ao n cap) (.int .i64 d) (.string t) (.slice ao2 n2 cap2) 43 _ hw2.symm
  have HW2 : Hid (Gr w w2) := ⟨0, _, by rw [← hw2, alloc_eq_grow, alloc_eq_grow, grow_grow]; rfl⟩
  rw [hw2]
  clear hw2
  have HSW : Hid (∀ W, Below w2.heap.size w2 W → W.cell? ⟨w.heap.size, 0, none⟩ = some (.int .i64 a) ∧ W.cell? ⟨w.heap.size, 1, none⟩ = some (.string s) ∧ W.cell? ⟨w.heap.size, 2, none⟩ = some (.slice ao n cap) ∧ W.cell? ⟨w.heap.size + 1, 0, none⟩ = some (.int .i64 d) ∧ W.cell? ⟨w.heap.size + 1, 1, none⟩ = some (.string t) ∧ W.cell? ⟨w.heap.size + 1, 2, none⟩ = some (.slice ao2 n2 cap2)) := fun W hb => ⟨cell_later hb q0, cell_later hb q1, cell_later hb q2, cell_later hb q3, cell_later hb q4, cell_later hb q5⟩
  go_region_held3 (fun W => W.cell? ⟨w.heap.size, 0, none⟩ = some (.int .i64 a) ∧ W.cell? ⟨w.heap.size, 1, none⟩ = some (.string s) ∧ W.cell? ⟨w.heap.size, 2, none⟩ = some (.slice ao n cap) ∧ W.cell? ⟨w.heap.size + 1, 0, none⟩ = some (.int .i64 d) ∧ W.cell? ⟨w.heap.size + 1, 1, none⟩ = some (.string t) ∧ W.cell? ⟨w.heap.size + 1, 2, none⟩ = some (.slice ao2 n2 cap2))
    (first | (with_reducible assumption) | (with_reducible exact HSW.out _ (Below.refl _ _)) | (with_reducible exact HSW.out _ (Below.drew (Below.refl _ _))) | (with_reducible exact HSW.out _ HG3.out.below) | (with_reducible exact HSW.out _ (HG3.out.alloc _).below) | (with_reducible exact HSW.out _ (HG3.out.alloc _).drew.below))
    (first
      | (go_at_call 30; refine (HC.out _ _ _).mono ?_; rintro e5 w5 ⟨rfl, rfl⟩)
      | (go_at_call 31; refine (HD.out _ _ _).mono ?_; rintro e5 w5 ⟨rfl, rfl⟩)
      | (go_at_call 32; refine (HH.out _ (HW2.out.drew.below)).mono ?_; rintro e5 w5 ⟨rfl, hg5⟩; have HG3 : Hid (Gr w2 w5) := ((Gr.refl _).drew).trans hg5; clear hg5)
      | (go_at_call 29; refine (cmor_any _ _ _ [cmI a d, cmS s t, cmL L M] _ ?_).mono ?_; (focus first | exact gs_three _ _ _ _ _ | exact gs_three0 _ _ _ _ _); rintro e5 w5 ⟨rfl, rfl⟩))
  go_wp2
  go_ret
  exact ⟨rfl, HW2.out.trans (HG3.out.alloc _)⟩
end Go.Proofs.Ytmpjoepfgfbjmaa
/- The order of fates by numbers. -/
namespace Go.Proofs.Ytmpjoepfgfbjmaa
open Go.RowKit Go.Shelf Go.Sort
set_option linter.unusedSimpArgs false
set_option linter.unusedVariables false

/-- A number tells an order. -/
def CO {α : Type} (r : α → α → Bool) (c : α → α → Int) : Prop := ∀ a b, (c a b < 0 ↔ r a b = true) ∧ (c a b = 0 ↔ a = b)
theorem co_int : CO (fun (a b : Int) => decide (a < b)) cmI := by
  intro a b
  unfold cmI cm3
  constructor
  · by_cases h : a < b
    · simp [h]
    · by_cases h2 : b < a <;> simp [h, h2]
  · by_cases h : a < b
    · simp [h]; omega
    · by_cases h2 : b < a
      · simp [h, h2]; omega
      · simp [h, h2]; omega
theorem co_pair {α β : Type} [DecidableEq α] {r : α → α → Bool} {s : β → β → Bool} {c : α → α → Int} {d : β → β → Int} (h1 : CO r c) (h2 : CO s d) : CO (lexP r s) (fun a b => if c a.1 b.1 ≠ 0 then c a.1 b.1 else d a.2 b.2) := by
  intro a b
  obtain ⟨x1, x2⟩ := h1 a.1 b.1
  obtain ⟨y1, y2⟩ := h2 a.2 b.2
  unfold lexP
  by_cases e : a.1 = b.1
  · have z := x2.2 e
    simp only [z, ne_eq, not_true_eq_false, if_false, if_pos e]
    exact ⟨y1, y2.trans ⟨fun h => Prod.ext e h, fun h => by rw [h]⟩⟩
  · have z : c a.1 b.1 ≠ 0 := fun h => e (x2.1 h)
    simp only [ne_eq, z, not_false_eq_true, if_true, if_neg e]
    exact ⟨x1, ⟨fun h => h.elim, fun h => e (by rw [h])⟩⟩
theorem co_name : CO nmL cmS := by
  intro a b
  unfold cmS cm3
  have hi : ∀ x, nmL x x = false := lo_name.irr
  have ht := lo_name.tot a b
  constructor
  · show _ ↔ Op.bytesLess a.toList b.toList = true
    cases h : Op.bytesLess a.toList b.toList
    · cases h2 : (a.toList == b.toList) <;> simp
    · simp
  · constructor
    · intro h
      cases h3 : Op.bytesLess a.toList b.toList
      · rw [h3] at h
        cases h2 : (a.toList == b.toList)
        · rw [h2] at h
          simp at h
        · have e := eq_of_beq h2
          refine ht h3 ?_
          have := hi a
          unfold nmL at this ⊢
          rw [← e]
          exact this
      · rw [h3] at h
        simp at h
    · rintro rfl
      have := hi a
      unfold nmL at this
      rw [this]
      simp
theorem co_hop : CO (lexP (lexP (fun (a b : Int) => decide (a < b)) (fun (a b : Int) => decide (a < b))) (fun (a b : Int) => decide (a < b))) cmH := by
  intro x y
  have h := co_pair (co_pair co_int co_int) co_int x y
  have e : cmH x y = (fun a b : (Int × Int) × Int => if (fun a b : Int × Int => if cmI a.1 b.1 ≠ 0 then cmI a.1 b.1 else cmI a.2 b.2) a.1 b.1 ≠ 0 then (fun a b : Int × Int => if cmI a.1 b.1 ≠ 0 then cmI a.1 b.1 else cmI a.2 b.2) a.1 b.1 else cmI a.2 b.2) x y := by
    unfold cmH or3
    by_cases h1 : cmI x.1.1 y.1.1 = 0 <;> by_cases h2 : cmI x.1.2 y.1.2 = 0 <;> simp [h1, h2]
  rw [e]
  exact h
theorem co_hops : CO (lexL (lexP (lexP (fun (a b : Int) => decide (a < b)) (fun (a b : Int) => decide (a < b))) (fun (a b : Int) => decide (a < b)))) cmL
  | [], [] => by simp [cmL, lexL]
  | [], _ :: _ => by simp [cmL, lexL]
  | _ :: _, [] => by simp [cmL, lexL]
  | x :: l, y :: m => by
    obtain ⟨x1, x2⟩ := co_hop x y
    obtain ⟨y1, y2⟩ := co_hops l m
    unfold cmL lexL
    by_cases e : x = y
    · rw [if_pos (x2.2 e), if_pos e]
      exact ⟨y1, y2.trans ⟨fun h => by rw [e, h], fun h => by injection h⟩⟩
    · have z : cmH x y ≠ 0 := fun h => e (x2.1 h)
      rw [if_neg z, if_neg e]
      exact ⟨x1, ⟨fun h => absurd h z, fun h => absurd (by injection h) e⟩⟩
/-- order tells the order of fates. -/
theorem co_fate : CO faL (fun x y => cmF x.1 y.1 x.2.1 y.2.1 x.2.2 y.2.2) := by
  intro x y
  have h := co_pair co_int (co_pair co_name co_hops) x y
  have e : cmF x.1 y.1 x.2.1 y.2.1 x.2.2 y.2.2 = if cmI x.1 y.1 ≠ 0 then cmI x.1 y.1 else (if cmS x.2.1 y.2.1 ≠ 0 then cmS x.2.1 y.2.1 else cmL x.2.2 y.2.2) := by
    unfold cmF or3
    rfl
  show (cmF x.1 y.1 x.2.1 y.2.1 x.2.2 y.2.2 < 0 ↔ _) ∧ (cmF x.1 y.1 x.2.1 y.2.1 x.2.2 y.2.2 = 0 ↔ _)
  rw [e]
  exact h
end Go.Proofs.Ytmpjoepfgfbjmaa
/- slices.SortFunc by its contract off the shelf, laid at this program. -/
namespace Go.Proofs.Ytmpjoepfgfbjmaa
open Go.Shelf
def sortFate_ren : Go.Shelf.Ren := ⟨fun | 6 => 14 | 15 => 28 | 14 => 27 | 28 => 52 | 29 => 53 | 20 => 44 | 21 => 45 | 22 => 46 | 23 => 47 | 24 => 48 | 25 => 49 | 26 => 50 | 27 => 51 | 46 => 69 | 47 => 70 | 48 => 71 | 49 => 72 | 50 => 73 | 57 => 85 | n => n, fun | 22 => 36 | 24 => 43 | 25 => 74 | 3 => 3 | 39 => 90 | 0 => 0 | 53 => 124 | 55 => 126 | 4 => 4 | 46 => 117 | 45 => 116 | 50 => 121 | 5 => 5 | 9 => 9 | 66 => 141 | 70 => 145 | 76 => 159 | 77 => 160 | n => n, fun | n => n⟩
theorem sortFate : Go.Proofs.SlLaysF0.n6 Try.prog sortFate_ren := {
  mixed := by kernel_rfl
  f6 := ⟨Try.f14.name, by decide, Try.func14.trans (congrArg some (by kernel_rfl))⟩
  f14 := ⟨Try.f27.name, by decide, Try.func27.trans (congrArg some (by kernel_rfl))⟩
  f15 := Try.func28.trans (congrArg some (by kernel_rfl))
  f20 := ⟨Try.f44.name, by decide, Try.func44.trans (congrArg some (by kernel_rfl))⟩
  f21 := ⟨Try.f45.name, by decide, Try.func45.trans (congrArg some (by kernel_rfl))⟩
  f22 := ⟨Try.f46.name, by decide, Try.func46.trans (congrArg some (by kernel_rfl))⟩
  f23 := ⟨Try.f47.name, by decide, Try.func47.trans (congrArg some (by kernel_rfl))⟩
  f24 := ⟨Try.f48.name, by decide, Try.func48.trans (congrArg some (by kernel_rfl))⟩
  f25 := ⟨Try.f49.name, by decide, Try.func49.trans (congrArg some (by kernel_rfl))⟩
  f26 := ⟨Try.f50.name, by decide, Try.func50.trans (congrArg some (by kernel_rfl))⟩
  f27 := ⟨Try.f51.name, by decide, Try.func51.trans (congrArg some (by kernel_rfl))⟩
  f28 := Try.func52.trans (congrArg some (by kernel_rfl))
  f29 := Try.func53.trans (congrArg some (by kernel_rfl))
  f46 := ⟨Try.f69.name, by decide, Try.func69.trans (congrArg some (by kernel_rfl))⟩
  f47 := Try.func70.trans (congrArg some (by kernel_rfl))
  f48 := Try.func71.trans (congrArg some (by kernel_rfl))
  f49 := ⟨Try.f72.name, by decide, Try.func72.trans (congrArg some (by kernel_rfl))⟩
  f50 := ⟨Try.f73.name, by decide, Try.func73.trans (congrArg some (by kernel_rfl))⟩
  f57 := ⟨Try.f85.name, by decide, Try.func85.trans (congrArg some (by kernel_rfl))⟩
  t0 := Try.underlying0
  a0 := Try.isAgg0
  z0 := Try.sizeOf0
  v0 := Try.zeroValue0
  t3 := Try.underlying3
  a3 := Try.isAgg3
  z3 := Try.sizeOf3
  v3 := Try.zeroValue3
  t4 := Try.underlying4
  a4 := Try.isAgg4
  z4 := Try.sizeOf4
  v4 := Try.zeroValue4
  t5 := Try.underlying5
  a5 := Try.isAgg5
  z5 := Try.sizeOf5
  v5 := Try.zeroValue5
  t9 := Try.underlying9
  a9 := Try.isAgg9
  z9 := Try.sizeOf9
  v9 := Try.zeroValue9
  t22 := Try.underlying36
  a22 := Try.isAgg36
  z22 := Try.sizeOf36
  v22 := Try.zeroValue36
  t25 := Try.underlying74
  a25 := Try.isAgg74
  z25 := Try.sizeOf74
  v25 := Try.zeroValue74
  t39 := Try.underlying90
  a39 := Try.isAgg90
  z39 := Try.sizeOf90
  v39 := Try.zeroValue90
  t45 := Try.underlying116
  a45 := Try.isAgg116
  z45 := Try.sizeOf116
  v45 := Try.zeroValue116
  t46 := Try.underlying117
  a46 := Try.isAgg117
  z46 := Try.sizeOf117
  v46 := Try.zeroValue117
  t50 := Try.underlying121
  a50 := Try.isAgg121
  z50 := Try.sizeOf121
  v50 := Try.zeroValue121
  t53 := Try.underlying124
  a53 := Try.isAgg124
  z53 := Try.sizeOf124
  v53 := Try.zeroValue124
  t55 := Try.underlying126
  a55 := Try.isAgg126
  z55 := Try.sizeOf126
  v55 := Try.zeroValue126
  t66 := Try.underlying141
  a66 := Try.isAgg141
  z66 := Try.sizeOf141
  v66 := Try.zeroValue141
  t70 := Try.underlying145
  a70 := Try.isAgg145
  z70 := Try.sizeOf145
  v70 := Try.zeroValue145
  t76 := Try.underlying159
  a76 := Try.isAgg159
  z76 := Try.sizeOf159
  v76 := Try.zeroValue159
  t77 := Try.underlying160
  a77 := Try.isAgg160
  z77 := Try.sizeOf160
  v77 := Try.zeroValue160 }
end Go.Proofs.Ytmpjoepfgfbjmaa
/- What slices.SortFunc makes of a row of fates. -/
namespace Go.Proofs.Ytmpjoepfgfbjmaa
open Go.RowKit Go.Shelf Go.Sort
set_option linter.unusedSimpArgs false
set_option linter.unusedVariables false

/-- Fates, three cells each: their hops lie elsewhere. -/
def ftE : Enc (Ft × SlT) where
  c := fun z => [.int .i64 z.1.1, .string z.1.2.1, slV z.2]
  n := 3
  len := fun _ => rfl
  pos := by decide
  one := by
    intro x u hu
    simp at hu
    rcases hu with rfl | rfl | rfl <;> rfl
/-- A value is a slice of these fates. -/
def FTs (w : World) (v : Value) (L : List Ft) : Prop := ∃ Z : List (Ft × SlT), GS ftE w v Z ∧ Z.map Prod.fst = L ∧ ∀ z ∈ Z, GS hopE w (slV z.2) z.1.2.2
theorem FTs.later {w w' : World} {v : Value} {L : List Ft} (h : FTs w v L) (hb : Go.RowKit.Below w.heap.size w w') : FTs w' v L := by
  obtain ⟨Z, h1, h2, h3⟩ := h
  exact ⟨Z, h1.later hb, h2, fun z hz => (h3 z hz).later hb⟩
/-- What is sorted: a fate, and where its hops lie, whatever becomes of the row. -/
abbrev FaS (w : World) (B : Nat) : Type := { z : Ft × SlT // ∀ W, Kb (fun b => b ≠ B) w W → GS hopE W (slV z.2) z.1.2.2 }
theorem some_S (w : World) (B : Nat) : Nonempty (Inhabited (FaS w B)) := ⟨⟨⟨((0, ByteArray.empty, []), (none, 0, 0)), fun W _ => GS.nil W⟩⟩⟩
section
variable {w : World} {B : Nat}
def encS (x : FaS w B) : List Value := ftE.c x.1
def cfS (x y : FaS w B) : Int := cmF x.1.1.1 y.1.1.1 x.1.1.2.1 y.1.1.2.1 x.1.1.2.2 y.1.1.2.2
theorem lt_S (x y : FaS w B) : ltOf cfS x y = faL x.1.1 y.1.1 := by
  have h := (co_fate x.1.1 y.1.1).1
  unfold ltOf cfS
  cases e : faL x.1.1 y.1.1
  · refine decide_eq_false (fun h2 => ?_)
    have := h.1 h2
    rw [e] at this
    cases this
  · exact decide_eq_true (h.2 e)
theorem swo_S : SWO (ltOf (cfS (w := w) (B := B))) where
  irrefl x := by rw [lt_S]; exact lo_fate.irr _
  trans x y z h1 h2 := by rw [lt_S] at *; exact lo_fate.tr _ _ _ h1 h2
  ntrans x y z h1 h2 := by
    rw [lt_S] at *
    cases e : faL x.1.1 z.1.1
    · rfl
    · cases e2 : faL z.1.1 y.1.1
      · have e3 := lo_fate.tot _ _ h2 e2
        rw [e3, e] at h1
        cases h1
      · have e3 := lo_fate.tr _ _ _ e e2
        rw [h1] at e3
        cases e3
end
theorem kb_sort {α : Type} [Inhabited α] (enc : α → List Value) (k : Nat) (w : World) (B off m : Nat) (dk : Array α) (os : Array Obj) : Kb (fun b => b ≠ B) w (sortWorldK enc k w B off m dk os) := by
  refine ⟨rfl, rfl, rfl, size_sortWorldK_c enc k w B off m dk os, fun j hj hne => ?_⟩
  unfold sortWorldK
  show ((putRowK enc k (Sort.ahead w m) B off dk).heap ++ os)[j]? = _
  have hs : (putRowK enc k (Sort.ahead w m) B off dk).heap.size = w.heap.size := size_putRowK enc k (Sort.ahead w m) B off dk
  rw [Array.getElem?_append_left (by rw [hs]; exact hj)]
  show ((w.heap).modify B _)[j]? = _
  rw [Array.getElem?_modify, if_neg (Ne.symm hne)]
theorem get_some (l : List Value) (i : Nat) (h : i < l.length) : l[i]? = some l[i]! := by
  rw [List.getElem?_eq_getElem h, getElem!_pos l i h]
section
variable {w : World} {B : Nat} [Inhabited (FaS w B)]
theorem holds_S {e base cap : Nat} {Z : List (Ft × SlT)} (ho : w.ownsRow base e 3 (.slice (some ⟨B, 0, none⟩) Z.length cap) Z.length (cellsG ftE Z)) (d : Array (FaS w B)) (hd : d.toList.map (fun x => x.1) = Z) : HoldsK encS 3 w B 0 d := by
  intro j hj
  rw [size_flatK] at hj
  have hs : d.size = Z.length := by rw [← hd]; simp
  refine ⟨?_, ?_⟩
  · rw [Nat.zero_add, ho.cellAt j (by rw [← hs]; exact hj), get_flatK _ _ _ _ hj]
    have hi : j / 3 < Z.length := by omega
    have hm : j % 3 < ftE.n := Nat.mod_lt _ (by decide)
    have h1 := cellsG_at (E := ftE) Z (j / 3) hi (j % 3) hm
    have e1 : j / 3 * ftE.n + j % 3 = j := by show j / 3 * 3 + j % 3 = j; omega
    rw [e1] at h1
    rw [h1]
    have e2 : Z[j / 3] = d[j / 3]!.1 := by
      subst hd
      rw [getElem!_pos d (j / 3) (by omega)]
      simp
    rw [e2, get_some _ _ (by rw [ftE.len]; exact hm)]
    rfl
  · rw [Nat.zero_add]
    exact ho.frozenAt j
/-- A row of fates that lies as the sort says. -/
theorem gs_S {W : World} {cap : Nat} (d : Array (FaS w B)) (hH : HoldsK encS 3 W B 0 d) (hc : d.size ≤ cap) (hx : cap ≤ maxLen) : GS ftE W (.slice (some ⟨B, 0, none⟩) d.size cap) (d.toList.map (fun x => x.1)) := by
  refine .inr ⟨B, 0, cap, by simp, by simpa using hc, hx, fun i hi j u hu => ?_⟩
  have hi2 : i < d.size := by simpa using hi
  have hj : j < 3 := by
    have := (List.getElem?_eq_some_iff.1 hu).1
    rw [ftE.len] at this
    exact this
  have h := (hH.cell (i := i) (c := j) hi2 hj).1
  have e2 : (d.toList.map (fun x => x.1))[i] = d[i]!.1 := by
    rw [getElem!_pos d i hi2]
    simp
  rw [e2] at hu
  show W.cell? ⟨B, 0 + i * 3 + j, none⟩ = some u
  rw [h]
  have e3 := get_some (ftE.c d[i]!.1) j (by rw [ftE.len]; exact hj)
  rw [hu] at e3
  exact e3.symm
theorem pair_S (d : Array (FaS w B)) (h : SortedIn (ltOf cfS) 0 d.size d) : (d.toList.map (fun x => x.1.1)).Pairwise fun a b => faL b a = false := by
  rw [List.pairwise_iff_getElem]
  intro i j hi hj hij
  have hi2 : i < d.size := by simpa using hi
  have hj2 : j < d.size := by simpa using hj
  have h1 := h i j (Nat.zero_le _) hij hj2
  rw [lt_S, getElem!_pos d i hi2, getElem!_pos d j hj2] at h1
  simpa using h1
end
set_option maxHeartbeats 1000000 in
theorem sort_fates (B cap base e : Nat) (Z : List (Ft × SlT)) (w : World) (ho : w.ownsRow base e 3 (.slice (some ⟨B, 0, none⟩) Z.length cap) Z.length (cellsG ftE Z)) (hz : ∀ z ∈ Z, ∀ W, Kb (fun b => b ≠ B) w W → GS hopE W (slV z.2) z.1.2.2) (hl : Z.length ≤ 16777216) :
    Calls Try.prog 14 #[.slice (some ⟨B, 0, none⟩) Z.length cap, .func (Fn.func 15) #[] #[]] w fun e' w' => e' = .returned (.tuple #[]) ∧ (∃ D, D.Perm (Z.map Prod.fst) ∧ D.Pairwise (fun a b => faL b a = false) ∧ FTs w' (.slice (some ⟨B, 0, none⟩) Z.length cap) D) ∧ Kb (fun b => b ≠ B) w w' := by
  obtain ⟨inh⟩ := some_S w B
  obtain ⟨d, hd⟩ : ∃ d : Array (FaS w B), d.toList.map (fun x => x.1) = Z := by
    have key : ∀ (Y : List (Ft × SlT)), (∀ z ∈ Y, ∀ W, Kb (fun b => b ≠ B) w W → GS hopE W (slV z.2) z.1.2.2) → ∃ d : List (FaS w B), d.map (fun x => x.1) = Y := by
      intro Y
      induction Y with
      | nil => exact fun _ => ⟨[], rfl⟩
      | cons y r ih =>
        intro hy
        obtain ⟨d, hd⟩ := ih (fun z hz => hy z (List.mem_cons_of_mem _ hz))
        exact ⟨(⟨y, hy y List.mem_cons_self⟩ : FaS w B) :: d, congrArg (List.cons y) hd⟩
    obtain ⟨d, hd⟩ := key Z hz
    exact ⟨d.toArray, hd⟩
  have hs : d.size = Z.length := by rw [← hd]; simp
  have hH := holds_S ho d hd
  obtain ⟨hcap, hmx⟩ : Z.length ≤ cap ∧ cap ≤ maxLen := by
    rcases ho.2 with ⟨h, _⟩ | ⟨g, c2, cur, e1, _, _, h1, h2, _⟩
    · simp at h
    · simp only [Value.slice.injEq] at e1
      obtain ⟨_, _, rfl⟩ := e1
      exact ⟨h1, h2⟩
  have hB : B < w.heap.size := (World.ownsRow.lt ho B rfl).2
  have hcmp : CmpLays Try.prog 15 #[] (encS (w := w) (B := B)) 3 cfS B 0 d.size w := fun m os dk _ x y =>
    mix_order x.1.1.1 y.1.1.1 x.1.1.2.1 y.1.1.2.1 x.1.2.1 x.1.2.2.1 x.1.2.2.2 y.1.2.1 y.1.2.2.1 y.1.2.2.2 x.1.1.2.2 y.1.1.2.2 _ (x.2 _ (kb_sort _ _ _ _ _ _ _ _)) (y.2 _ (kb_sort _ _ _ _ _ _ _ _))
  have hcon := AnyQ.slices_SortFunc sortFate 3 Try.isAgg43 Try.sizeOf43 (encS (w := w) (B := B)) (fun x => ftE.len x.1) (fun x => ftE.one x.1) cfS swo_S 15 #[] B 0 cap d w (enters_of Try.func15 (by kernel_rfl) rfl) hcmp hH hB (by rw [hs]; omega)
  rw [hs] at hcon
  refine Calls.mono (show Calls Try.prog 14 _ _ _ from hcon) ?_
  rintro e' w' ⟨rfl, d', n, os, ⟨p1, p2, p3⟩, hso, rfl⟩
  refine ⟨rfl, ⟨d'.toList.map (fun x => x.1.1), ?_, pair_S d' (by rw [p1, hs]; exact hso), d'.toList.map (fun x => x.1), ?_, by simp, ?_⟩, kb_sort _ _ _ _ _ _ _ _⟩
  · have e1 : d'.extract 0 Z.length = d' := by rw [← hs, ← p1]; simp
    have e2 : d.extract 0 Z.length = d := by rw [← hs]; simp
    rw [e1, e2] at p3
    rw [← hd, List.map_map]
    exact p3.map _
  · have h := gs_S (cap := cap) d' (holdsK_sortWorldK_c encS 3 w B 0 d d' n os hH hB p1) (by rw [p1, hs]; exact hcap) hmx
    rw [p1, hs] at h
    exact h
  · intro z hz2
    obtain ⟨x, _, rfl⟩ := List.mem_map.1 hz2
    exact x.2 _ (kb_sort _ _ _ _ _ _ _ _)
end Go.Proofs.Ytmpjoepfgfbjmaa
/- What Seen of package mix carries along: the fates that it has put into its row, and where their hops lie. -/
namespace Go.Proofs.Ytmpjoepfgfbjmaa
open Go.RowKit Go.Shelf
set_option linter.unusedSimpArgs false
set_option linter.unusedVariables false

/-- The first k of L lie in a row of fates, whose slice lies at q; X: the blocks of it. -/
def SeI (w : World) (B q : Nat) (L : List Ft) (k : Nat) (X : Nat → Prop) (A : World) : Prop :=
  Below w.heap.size w A ∧ (∀ b, X b → B ≤ b ∧ b < A.heap.size) ∧ ∃ v Z, Boxed A q 36 v ∧ A.ownsRow B 43 ftE.n v Z.length (cellsG ftE Z) ∧ Z.map Prod.fst = L.take k ∧ (∀ g, v.ownBlock = some g → X g) ∧ ∀ z ∈ Z, A.ownsRow B 55 hopE.n (slV z.2) z.1.2.2.length (cellsG hopE z.1.2.2) ∧ ∀ g, (slV z.2).ownBlock = some g → X g
theorem SeI.kb {w : World} {B q : Nat} {L : List Ft} {k : Nat} {X : Nat → Prop} {A A' : World} {p : Nat → Prop} (h : SeI w B q L k X A) (hk : Kb p A A') (hq : p q) (hw : ∀ b, b < w.heap.size → p b) (hX : ∀ b, X b → p b) : SeI w B q L k X A' := by
  obtain ⟨h1, h2, v, Z, h3, h4, h5, h6, h7⟩ := h
  exact ⟨h1.trans (hk.below h1.size hw), fun b hb => ⟨(h2 b hb).1, Nat.lt_of_lt_of_le (h2 b hb).2 hk.size⟩, v, Z, hk.boxed h3 hq, own_kb h4 hk (fun g e => hX g (h6 g e)), h5, h6, fun z hz => ⟨own_kb (h7 z hz).1 hk (fun g e => hX g ((h7 z hz).2 g e)), (h7 z hz).2⟩⟩
theorem FTs.kb {w w' : World} {v : Value} {L : List Ft} {p : Nat → Prop} (h : FTs w v L) (hk : Kb p w w') (hp : ∀ q u, w.cell? q = some u → p q.block) : FTs w' v L := by
  obtain ⟨Z, h1, h2, h3⟩ := h
  exact ⟨Z, h1.kb hk hp, h2, fun z hz => (h3 z hz).kb hk hp⟩
theorem FTs.shut {w : World} {v : Value} {L : List Ft} {b : Nat} {ds : Option (List Deferred)} (h : FTs w v L) (hb : w.heap[b]? = some (.deferred ds)) (o : Obj) : FTs (w.putObj b o) v L :=
  h.kb (p := fun k => k ≠ b) ((Kb.refl _ _).putObj (fun _ hn => hn rfl) o) (fun q u hq e => by
    simp [World.cell?, e, hb] at hq)
theorem own_blk_lt {W : World} {B e size n : Nat} {v : Value} {xs : List Value} (h : W.ownsRow B e size v n xs) {g : Nat} (hg : v.ownBlock = some g) : B ≤ g ∧ g < W.heap.size := World.ownsRow.lt h g hg
theorem hf_ne : 55 ≠ 43 := by decide
/-- One fate more. -/
theorem se_push {w : World} {B q : Nat} {L : List Ft} {k : Nat} {X : Nat → Prop} {A A5 A6 : World} {v v' : Value} {Z : List (Ft × SlT)} (hB : Below w.heap.size w A) (hX : ∀ b, X b → B ≤ b ∧ b < A.heap.size) (hq : Boxed A q 36 v) (ho : A.ownsRow B 43 ftE.n v Z.length (cellsG ftE Z)) (hm : Z.map Prod.fst = L.take k) (hv : ∀ g, v.ownBlock = some g → X g) (hz : ∀ z ∈ Z, A.ownsRow B 55 hopE.n (slV z.2) z.1.2.2.length (cellsG hopE z.1.2.2) ∧ ∀ g, (slV z.2).ownBlock = some g → X g)
    (hqB : q < B) (hwq : w.heap.size ≤ q) (hBA : B ≤ A.heap.size) (x : Ft) (hx : L[k]? = some x) (h5 : Below A.heap.size A A5) (y : SlT) (hy : A5.ownsRow A.heap.size 55 hopE.n (slV y) x.2.2.length (cellsG hopE x.2.2))
    (h6 : A6.ownsRow B 43 ftE.n v' (Z ++ [(x, y)]).length (cellsG ftE (Z ++ [(x, y)]))) (hg : A5.grownBy A6 v.ownBlock) (hb : v'.ownBlock = v.ownBlock ∨ v'.ownBlock = some A5.heap.size) :
    (∃ X', SeI w B q L (k + 1) X' (A6.setCell ⟨q, 0, none⟩ v') ∧ ∀ b, X' b → X b ∨ A.heap.size ≤ b) ∧ ∀ p : Nat → Prop, (∀ b, p b → b ≠ q ∧ ¬ X b) → Kb p A (A6.setCell ⟨q, 0, none⟩ v') := by
  have hvA : ∀ g, v.ownBlock = some g → B ≤ g ∧ g < A.heap.size := fun g e => hX g (hv g e)
  have k6 : ∀ p : Nat → Prop, (∀ b, p b → ¬ X b) → Kb p A A6 := fun p hp => (Kb.of_below h5 (fun b hb _ => hb)).grown hg (fun r er _ hpr => hp r hpr (hv r er))
  have hsz : A.heap.size ≤ A6.heap.size := Nat.le_trans h5.size hg.size
  have k7 : ∀ p : Nat → Prop, (∀ b, p b → b ≠ q ∧ ¬ X b) → Kb p A (A6.setCell ⟨q, 0, none⟩ v') := fun p hp => (k6 p (fun b h => (hp b h).2)).setCell (q := ⟨q, 0, none⟩) (fun _ h => (hp q h).1 rfl) _
  have hq6 : Boxed A6 q 36 v := (k6 (fun b => b = q) (fun b e hb => by subst e; have := (hX b hb).1; omega)).boxed hq rfl
  have hzr : ∀ z ∈ Z, A6.ownsRow B 55 hopE.n (slV z.2) z.1.2.2.length (cellsG hopE z.1.2.2) := fun z hz2 => by
    have h1 := (hz z hz2).1
    exact (own_below h1 h5).kept hg (own_rows2 h1 ho hf_ne)
  have hyn : (slV y).ownBlock = none ∨ (slV y).ownBlock ≠ v.ownBlock := by
    by_cases e : (slV y).ownBlock = v.ownBlock
    · cases e2 : v.ownBlock with
      | none => exact .inl (e.trans e2)
      | some g =>
        have h1 := (own_blk_lt hy (e.trans e2)).1
        have h2 := (hvA g e2).2
        omega
    · exact .inr e
  have hyr := hy.kept hg hyn
  have hs7 : A6.heap.size ≤ (A6.setCell ⟨q, 0, none⟩ v').heap.size := ((Kb.refl (fun _ => False) A6).setCell (q := ⟨q, 0, none⟩) (fun _ h => h) v').size
  refine ⟨⟨fun b => X b ∨ v'.ownBlock = some b ∨ (slV y).ownBlock = some b, ⟨?_, ?_, v', Z ++ [(x, y)], hq6.set v', ownsRow_setCell_below h6 (a := ⟨q, 0, none⟩) hqB _, ?_, fun g e => .inr (.inl e), ?_⟩, ?_⟩, k7⟩
  · exact hB.trans ((k7 (fun b => b < w.heap.size) (fun b hb => ⟨by omega, fun hx2 => by have := (hX b hx2).1; omega⟩)).below hB.size (fun b hb => hb))
  · rintro b (hb | hb | hb)
    · have := hX b hb
      exact ⟨this.1, by omega⟩
    · have := own_blk_lt h6 hb
      exact ⟨this.1, by omega⟩
    · have := own_blk_lt hyr hb
      exact ⟨by omega, by omega⟩
  · rw [List.map_append, hm, List.take_add_one, hx]
    rfl
  · intro z hz2
    rcases List.mem_append.1 hz2 with hz2 | hz2
    · exact ⟨ownsRow_setCell_below (hzr z hz2) (a := ⟨q, 0, none⟩) hqB _, fun g e => .inl ((hz z hz2).2 g e)⟩
    · obtain rfl : z = (x, y) := by simpa using hz2
      exact ⟨ownsRow_setCell_below (own_mono hyr hBA) (a := ⟨q, 0, none⟩) hqB _, fun g e => .inr (.inr e)⟩
  · rintro b (hb2 | hb2 | hb2)
    · exact .inl hb2
    · rcases hb with e | e
      · exact .inl (hv b (e.symm.trans hb2))
      · have h1 := e.symm.trans hb2
        have h2 := h5.size
        refine .inr ?_
        injection h1 with h1
        omega
    · exact .inr (own_blk_lt hyr hb2).1
end Go.Proofs.Ytmpjoepfgfbjmaa
/- A region that draws its order, in a round of a range over a function. No program in it. -/
namespace Go.Proofs.Ytmpjoepfgfbjmaa
open Go.RowKit
set_option linter.unusedSimpArgs false
set_option linter.unusedVariables false

/-- It ends so, and in no other way. -/
def Nq (K : Act → World → Prop) : Exit → Act → World → Prop
  | .normal, a, w => K a w
  | _, _, _ => False
theorem nq_lets (K : Act → World → Prop) : ¬ LetsOut (Nq K) := fun ⟨_, _, h⟩ => h
def noDefer (ops : Array Oper) : Bool := ops.all fun o => match o.op with | .defer _ => false | _ => true
theorem noDefer_spec {ops : Array Oper} (h : noDefer ops = true) {j : Nat} {o : Oper} (ho : ops[j]? = some o) (c : Call) : o.op ≠ .defer c := by
  intro e
  unfold noDefer at h
  rw [Array.all_eq_true] at h
  obtain ⟨hj, hv⟩ := Array.getElem?_eq_some_iff.1 ho
  have := h j hj
  rw [hv, e] at this
  cases this
section
variable {P : Program} {ops : Array Oper} {Q : Exit → Act → World → Prop} {md : Region.Mode} {S : World → Prop} {l n : Nat}
theorem rowsIn_round {row : String} {args : Array Value} {w : World} {R : Value → World → Prop} (h : Rows P row args w R) : RowsIn (Fence.wide.inRound l) n P row args w R :=
  fun c cs _ => let ⟨v, w', r, s⟩ := h c cs; ⟨v, w', r, stepsIn_wide.2 s⟩
theorem opIn_of_op (hd : noDefer ops = true) (hL : ¬ LetsOut Q) {K : Act → World → Prop} {i : Nat} {a : Act} {w : World} (h : wpOp P ops Q i K a w) : wpOpIn (Fence.wide.inRound l) n P ops Q i K a w := by
  unfold wpOp at h
  unfold wpOpIn
  cases ho : ops[i]? with
  | none =>
    simp only [ho] at h ⊢
    exact h
  | some o =>
    simp only [ho] at h ⊢
    by_cases hw : Region.wanted o (yielded ops a.tmps) = true
    · simp only [hw, if_true] at h ⊢
      rcases h with h | ⟨_, h⟩
      · refine ⟨fun f _ => trivial, ?_⟩
        rw [Fence.inRound_round, Oper.semAt_eq _ _ _ (noDefer_spec hd ho)]
        unfold Oper.wp at h
        generalize (execOp a.eval o).run P w = r at *
        cases r with
        | ok x w' =>
          cases x <;> simp only [Oper.upon, Oper.uponIn] at h ⊢ <;>
            first
              | exact h
              | exact ⟨fun h => (by cases h), CallsIn.inRound _ (callsIn_wide.2 h)⟩
              | exact ⟨fun h => (by cases h), rowsIn_round h⟩
        | halt x w' => cases x <;> simp only [Oper.upon, Oper.uponIn] at h ⊢ <;> exact h
      · exact absurd h hL
    · simp only [hw] at h ⊢
      exact ⟨fun f _ => trivial, h⟩
theorem anyIn_of_any (hd : noDefer ops = true) (hL : ¬ LetsOut Q) : ∀ (fuel : Nat) (listed : Array Bool) (a : Act) (w : World), wpAny P md ops Q fuel listed a w → wpAnyIn (Fence.wide.inRound l) n P md ops Q fuel listed a w
  | 0, _, _, _, h => h
  | fuel + 1, _, _, _, h => ⟨h.1, fun i hi => opIn_of_op hd hL (wpOp_mono (fun a' w' h' => anyIn_of_any hd hL fuel _ a' w' h') (h.2 i hi))⟩
/-- A region in a round: whatever order is drawn. -/
theorem region_round {id : Nat} {a : Act} {w : World} (hm : P.follows .mixedOrders = true) (hd : noDefer ops = true) (hS : S w.drew) (h : S w.drew → wpAnyH P .any ops (Nq (Q .normal)) S ops.size (Array.replicate ops.size false) a w.drew) :
    (Code.region id ops true).wpIn (Fence.wide.inRound l) n P Q a w :=
  wpIn_mono (wpIn_region_any hm (anyIn_of_any hd (nq_lets _) _ _ _ _ (wpAny_of_held _ _ _ _ (h hS)))) (fun e a w h => by cases e <;> first | exact h | exact h.elim)
end
end Go.Proofs.Ytmpjoepfgfbjmaa
/- What topo.Where answers: a contract for the walks above it. -/
namespace Go.Proofs.Ytmpjoepfgfbjmaa
open Go.RowKit
set_option linter.unusedSimpArgs false
set_option linter.unusedVariables false

set_option maxHeartbeats 1000000 in
set_option maxRecDepth 100000 in
theorem where1_any (n : ByteArray) (x0 x1 : Int) (B : Nat) (m : ByteArray) (w : World) (h0 : w.cell? ⟨B, 0, none⟩ = some (.string m)) :
    Calls Try.prog 23 #[.agg #[.string n, .int .i64 x0, .int .i64 x1], .pointer (some ⟨B, 0, none⟩)] w fun e w' => e = .returned (.bool (n == m)) ∧ Below w.heap.size w w' := by
  have hlt : B < w.heap.size := World.block_lt_of_cell? _ _ h0
  have HB0 : Hid (Below w.heap.size w (w.alloc (Obj.cells #[Value.string n, Value.int IntKind.i64 x0, Value.int IntKind.i64 x1] 47))) := (Below.refl _ _).alloc (Nat.le_refl _) _
  rw [beq_toListBytes]
  go_enter Try.func23, Try.ntmps23
  go_wp2
  go_ret
  exact ⟨rfl, HB0.out⟩
theorem where1_asks (B : Nat) (m : ByteArray) (w : World) (h0 : w.cell? ⟨B, 0, none⟩ = some (.string m)) : hstAsks w 23 (.pointer (some ⟨B, 0, none⟩)) (fun h => h.1 == m) :=
  fun n x0 x1 W hW => where1_any n x0 x1 B m W (cell_later hW h0)
/-- The three boxes of a call: a topology, a name, a spot. -/
def wbox (w : World) (S : Int) (v1 v2 : Value) (m : ByteArray) : World := ((w.alloc (Obj.cells #[.int .i64 S, v1, v2] 25)).alloc (Obj.cells #[.string m] 9)).alloc (Obj.cells #[.int .i64 0, .int .i64 0] 45)
structure WBox (w W : World) (S : Int) (v1 v2 : Value) (m : ByteArray) : Prop where
  below : Below w.heap.size w W
  t : TBox W w.heap.size S v1 v2
  s : W.cell? ⟨w.heap.size + 1, 0, none⟩ = some (.string m)
  r0 : W.cell? ⟨w.heap.size + 1 + 1, 0, none⟩ = some (.int .i64 0)
  r1 : W.cell? ⟨w.heap.size + 1 + 1, 1, none⟩ = some (.int .i64 0)
  f : ∀ i, W.frozen? ⟨w.heap.size + 1 + 1, i, none⟩ = false
theorem froz_new (w : World) (cs : Array Value) (t : TypeId) (k : Nat) : (w.alloc (.cells cs t)).frozen? ⟨w.heap.size, k, none⟩ = false := by simp
theorem wbox_new (w : World) (S : Int) (v1 v2 : Value) (m : ByteArray) : WBox w (wbox w S v1 v2 m) S v1 v2 m := by
  have e1 : (w.alloc (Obj.cells #[.int .i64 S, v1, v2] 25)).heap.size = w.heap.size + 1 := by simp
  have e2 : ((w.alloc (Obj.cells #[.int .i64 S, v1, v2] 25)).alloc (Obj.cells #[.string m] 9)).heap.size = w.heap.size + 1 + 1 := by simp
  have hb : ∀ (W : World) (o : Obj), Below W.heap.size W (W.alloc o) := fun W o => (Below.refl _ _).alloc (Nat.le_refl _) _
  have hs := (vat_new (w.alloc (Obj.cells #[.int .i64 S, v1, v2] 25)) [.string m] 9).later (hb _ (Obj.cells #[.int .i64 0, .int .i64 0] 45))
  rw [e1] at hs
  have hr := vat_new ((w.alloc (Obj.cells #[.int .i64 S, v1, v2] 25)).alloc (Obj.cells #[.string m] 9)) [.int .i64 0, .int .i64 0] 45
  rw [e2] at hr
  have hf := froz_new ((w.alloc (Obj.cells #[.int .i64 S, v1, v2] 25)).alloc (Obj.cells #[.string m] 9)) #[.int .i64 0, .int .i64 0] 45
  rw [e2] at hf
  exact ⟨(((Below.refl _ _).alloc (Nat.le_refl _) _).alloc (by rw [e1]; omega) _).alloc (by rw [e2]; omega) _, ((tbox_new w S v1 v2 25).later (hb _ _)).later (hb _ _), hs 0 _ rfl, hr 0 _ rfl, hr 1 _ rfl, hf⟩
theorem WBox.later {w W W' : World} {S : Int} {v1 v2 : Value} {m : ByteArray} (h : WBox w W S v1 v2 m) (hb : Below W.heap.size W W') : WBox w W' S v1 v2 m :=
  ⟨h.below.trans (hb.mono h.below.size), h.t.later hb, cell_later hb h.s, cell_later hb h.r0, cell_later hb h.r1, fun i => (hb.frozen (p := ⟨w.heap.size + 1 + 1, i, none⟩) (show (⟨w.heap.size + 1 + 1, 0, none⟩ : Addr).block < W.heap.size from World.block_lt_of_cell? W ⟨w.heap.size + 1 + 1, 0, none⟩ h.r0)).trans (h.f i)⟩
theorem below_two {w W : World} (h : Below w.heap.size w W) (g : Nat) (hg : w.heap.size ≤ g) (u v : Value) : Below w.heap.size w ((W.setCell ⟨g, 0, none⟩ u).setCell ⟨g, 1, none⟩ v) := (h.setCell (p := ⟨g, 0, none⟩) hg u).setCell (p := ⟨g, 1, none⟩) hg v
set_option maxHeartbeats 1000000 in
set_option maxRecDepth 100000 in
theorem where_any (S : Int) (ao : Option Addr) (n cap : Nat) (ao2 : Option Addr) (n2 cap2 : Nat) (Ls : List ((Int × Int) × (Int × Int))) (Hs : List (ByteArray × (Int × Int))) (m : ByteArray) (w : World)
    (hL : GS lnkE w (.slice ao n cap) Ls) (hH : GS hstE w (.slice ao2 n2 cap2) Hs) :
    Calls Try.prog 9 #[.agg #[.int .i64 S, .slice ao n cap, .slice ao2 n2 cap2], .string m] w fun e w' => e = .returned (.tuple #[.agg #[.int .i64 (weV S Ls Hs m).1, .int .i64 (weV S Ls Hs m).2], noV (weN S Ls Hs m)]) ∧ Below w.heap.size w w' := by
  have hX := wbox_new w S (.slice ao n cap) (.slice ao2 n2 cap2) m
  obtain ⟨R, hR⟩ : ∃ R, R = weN S Ls Hs m := ⟨_, rfl⟩
  have HR : Hid (R = weN S Ls Hs m) := hR
  obtain ⟨V1, hV1⟩ : ∃ V, V = (weV S Ls Hs m).1 := ⟨_, rfl⟩
  have HV1 : Hid (V1 = (weV S Ls Hs m).1) := hV1
  obtain ⟨V2, hV2⟩ : ∃ V, V = (weV S Ls Hs m).2 := ⟨_, rfl⟩
  have HV2 : Hid (V2 = (weV S Ls Hs m).2) := hV2
  rw [← hR, ← hV1, ← hV2]
  have HL2 : Hid (GS lnkE (wbox w S (.slice ao n cap) (.slice ao2 n2 cap2) m) (.slice ao n cap) Ls) := hL.later hX.below
  have HH2 : Hid (GS hstE (wbox w S (.slice ao n cap) (.slice ao2 n2 cap2) m) (.slice ao2 n2 cap2) Hs) := hH.later hX.below
  have HX : Hid (WBox w (wbox w S (.slice ao n cap) (.slice ao2 n2 cap2) m) S (.slice ao n cap) (.slice ao2 n2 cap2) m) := hX
  clear hR hV1 hV2 hX hL hH
  go_enter Try.func9, Try.ntmps9
  go_wp2_with fail
  refine (check_any S ao n cap ao2 n2 cap2 Ls Hs _ HL2.out HH2.out).mono ?_
  rintro e w1 ⟨rfl, hb1⟩
  obtain ⟨T, hT⟩ : ∃ T, T = tpN S Ls Hs := ⟨_, rfl⟩
  have HT : Hid (T = tpN S Ls Hs) := hT
  rw [← hT]
  have hX1 := HX.out.later hb1
  have HX1 : Hid (WBox w w1 S (.slice ao n cap) (.slice ao2 n2 cap2) m) := hX1
  have HH1 : Hid (GS hstE w1 (.slice ao2 n2 cap2) Hs) := HH2.out.later hb1
  obtain ⟨_, ⟨b0, b1, b2⟩, s0, r0, r1, f⟩ := hX1
  have f0 := f 0
  have f1 := f 1
  clear hT hb1 HX HL2 HH2 f
  by_cases h0 : T = 0
  · subst h0
    rw [no_ok rfl]
    have HK : Hid (hstAsks w1 23 (.pointer (some ⟨w.heap.size + 1, 0, none⟩)) (fun h => h.1 == m)) := where1_asks _ m w1 s0
    obtain ⟨_, _, _, e2, hHn, hHm, _, hHa⟩ := HH1.out.form
    cases e2
    have HHN : Hid (Hs.length = n2) := hHn
    have HHM : Hid (n2 ≤ maxLen) := hHm
    have HHA : Hid (0 < n2 → ∃ g o, ao2 = some ⟨g, o, none⟩ ∧ GAt hstE w1 g o Hs ∧ cap2 ≤ maxLen) := hHa
    clear hHn hHm hHa s0 r0 r1 f0 f1
    go_wp2_with fail
    refine (hst_idxF ao2 n2 cap2 _ _ (fun h => h.1 == m) Hs _ HHN.out HHM.out HHA.out (enters_of Try.func23 (by kernel_rfl) rfl) HK.out).mono ?_
    rintro e w2 ⟨rfl, hb2⟩
    have hX2 := HX1.out.later hb2
    have HB3 : Hid (Below w.heap.size w w2) := hX2.below
    have HHA2 : Hid (0 < n2 → ∃ g o, ao2 = some ⟨g, o, none⟩ ∧ GAt hstE w2 g o Hs ∧ cap2 ≤ maxLen) := fun h => by
      obtain ⟨g, o, e1, e2, e3⟩ := HHA.out h
      exact ⟨g, o, e1, e2.later hb2, e3⟩
    obtain ⟨_, ⟨b0, b1, b2⟩, s0, r0, r1, f⟩ := hX2
    have f0 := f 0
    have f1 := f 1
    clear hb2 HHA HX1 f
    rcases where_ix Hs m with ⟨hi, ho⟩ | ⟨k, hk, hi, ho⟩
    · rw [hi]
      have HR5 : Hid (R = 5) := by
        show _ = _
        rw [HR.out, weN, if_pos HT.out.symm, ho]
        rfl
      have HV5 : Hid (V1 = 0 ∧ V2 = 0) := by
        have h5 := HR5.out
        have e : weV S Ls Hs m = (0, 0) := by rw [weV, ← HR.out, h5, if_neg (by decide)]
        exact ⟨by rw [HV1.out, e], by rw [HV2.out, e]⟩
      clear hi ho
      go_wp2
      refine bodyPost_ret (v := .tuple #[.agg #[.int .i64 0, .int .i64 0], .iface 67 (.int .i64 5)]) (by simp [results, Try.results9, go_sem, *]) rfl ⟨by rw [HR5.out, HV5.out.1, HV5.out.2]; rfl, below_two HB3.out _ (by omega) _ _⟩
    · rw [hi]
      have HR0 : Hid (R = 0) := by
        show _ = _
        rw [HR.out, weN, if_pos HT.out.symm, ho]
        rfl
      have hlt : k < n2 := by rw [← HHN.out]; exact hk
      obtain ⟨g, o, hao, hc, _⟩ := HHA2.out (by omega)
      subst hao
      obtain ⟨y0, y1, y2, hkl, hHk, q0, q1, q2⟩ := hst_at hc HHN.out hlt
      have HV0 : Hid (V1 = y1 ∧ V2 = y2) := by
        have h5 := HR0.out
        have e : weV S Ls Hs m = (y1, y2) := by rw [weV, ← HR.out, h5, if_pos rfl, ho, Option.getD_some, hHk]
        exact ⟨by rw [HV1.out, e], by rw [HV2.out, e]⟩
      have kb0 : (0 : Int) ≤ (k : Int) := by omega
      have kb1 : (k : Int) < (n2 : Int) := by omega
      have hk0 : ¬ (k : Int) < 0 := by omega
      clear hi ho hHk hc HHA2
      go_wp2
      refine bodyPost_ret (v := .tuple #[.agg #[.int .i64 y1, .int .i64 y2], .nilIface]) (by simp [results, Try.results9, go_sem, *]) rfl ⟨by rw [HR0.out, HV0.out.1, HV0.out.2]; rfl, below_two HB3.out _ (by omega) _ _⟩
  · rw [no_ne h0]
    have HR2 : Hid (R = T) := by
      show _ = _
      rw [HR.out, weN, ← HT.out, if_neg h0]
    have HV5 : Hid (V1 = 0 ∧ V2 = 0) := by
      have h2 := HR2.out
      have e : weV S Ls Hs m = (0, 0) := by rw [weV, ← HR.out, h2, if_neg h0]
      exact ⟨by rw [HV1.out, e], by rw [HV2.out, e]⟩
    have HN0 : Hid (T ≠ 0) := h0
    clear h0
    go_wp2
    refine bodyPost_ret (v := .tuple #[.agg #[.int .i64 0, .int .i64 0], .iface 67 (.int .i64 T)]) (by simp [results, Try.results9, go_sem, *]) rfl ⟨by rw [HR2.out, HV5.out.1, HV5.out.2, no_ne HN0.out], below_two HX1.out.below _ (by omega) _ _⟩
end Go.Proofs.Ytmpjoepfgfbjmaa
