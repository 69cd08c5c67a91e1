/- The walk of ClassSplits: it answers true, whatever table and cube it is called with, where one rule more has room. -/
import Derived.Test.YtfbocionnjliladClassFns
import Derived.Test.YtfbocionnjliladRuleOwn
import Derived.Test.YtfbocionnjliladNetOf
import Derived.Test.YtfbocionnjliladTableMath
import Derived.Test.YtfbocionnjliladQuiet
import Derived.Deep.CutRange
import Derived.Deep.CutBlock
namespace Go.Proofs.Ytfbocionnjlilad
open Go.RowKit
set_option linter.unusedSimpArgs false
set_option linter.unusedVariables false

theorem sr_GS {w : World} {v : Value} {L : List Ru} (h : SR w v L) : GS rlE w v L := by
  rcases h with h | ⟨g, o, cap, h1, h2, h3, h4⟩
  · exact .inl h
  · refine .inr ⟨g, o, cap, h1, h2, h3, fun i hi j u hu => ?_⟩
    obtain ⟨c0, c1, c2, c3, c4, c5⟩ := h4 i hi
    match j, hu with
    | 0, hu => cases hu; exact c0
    | 1, hu => cases hu; exact c1
    | 2, hu => cases hu; exact c2
    | 3, hu => cases hu; exact c3
    | 4, hu => cases hu; exact c4
    | 5, hu => cases hu; exact c5
/-- A cube in its box, a list among lists, and two of its numbers. -/
def CS6 (wr : World) (c : Nat) (m b : Int) (g6 q6 : Nat) (v7 : Value) (g7 q3 : Nat) (x3 : Int) (q0 : Nat) (x0 : Int) (w' : World) : Prop :=
  Below wr.heap.size wr w' ∧ w'.cell? ⟨c, 0, none⟩ = some (.int .i64 m) ∧ w'.cell? ⟨c, 1, none⟩ = some (.int .i64 b) ∧ w'.cell? ⟨g6, q6, none⟩ = some v7 ∧ w'.cell? ⟨g7, q3, none⟩ = some (.int .i64 x3) ∧ w'.cell? ⟨g7, q0, none⟩ = some (.int .i64 x0)
theorem CS6.later {wr W W' : World} {c : Nat} {m b : Int} {g6 q6 : Nat} {v7 : Value} {g7 q3 : Nat} {x3 : Int} {q0 : Nat} {x0 : Int} (hb : Below W.heap.size W W') (h : CS6 wr c m b g6 q6 v7 g7 q3 x3 q0 x0 W) : CS6 wr c m b g6 q6 v7 g7 q3 x3 q0 x0 W' := by
  obtain ⟨h0, h1, h2, h3, h4, h5⟩ := h
  exact ⟨h0.trans (hb.mono h0.size), cell_later hb h1, cell_later hb h2, cell_later hb h3, cell_later hb h4, cell_later hb h5⟩
theorem of_nil : ofL [] = [[0, 1, 2, 3, 4, 5, 6, 7, 8, 9, 10, 11, 12, 13, 14, 15]] := by decide +kernel
/-- All rules of a right table are below one of Prio 99, if none has it. -/
theorem below99 {L : List Ru} (h : tbN L = 0) (h9 : ∀ x ∈ L, x.p ≠ 99) (m b o s v : Int) : ∀ x ∈ L, x.p < (⟨99, m, b, o, s, v⟩ : Ru).p := by
  intro x hx
  have h1 := (tb_iff.1 h).2.1 x hx
  have h2 : ruOk x.p x.m x.b x.o x.s x.v = true := h1
  have h3 := (ru_ok h2).1
  have h4 := h9 x hx
  unfold ruIn ruP at h3
  simp only [Bool.and_eq_true, decide_eq_true_eq] at h3
  show x.p < 99
  omega
theorem cls_in {Ts : List (List Ru)} {k : Nat} (hk : k < (clsL Ts).length) : (clsL Ts).getD k [] ∈ clsL Ts := by
  rw [show (clsL Ts).getD k [] = (clsL Ts)[k] by simp [List.getD, hk]]
  exact List.getElem_mem hk

namespace classSplits
set_option maxHeartbeats 8000000 in
set_option maxRecDepth 100000 in
theorem walk (ao : Option Addr) (n cap : Nat) (m b : Int) (L : List Ru) (w : World) (hs : SR w (.slice ao n cap) L) (h47 : (n + 1) * 48 ≤ 140737488355328) :
    Calls Try.prog 4 #[.slice ao n cap, .agg #[.int .i64 m, .int .i64 b]] w fun e w' => e = .returned (.bool true) ∧ Below w.heap.size w w' := by
  have hb0 : Below w.heap.size w (w.alloc (Obj.cells #[.int .i64 m, .int .i64 b] 35)) := (Below.refl _ _).alloc (Nat.le_refl _) _
  have hc0 : (w.alloc (Obj.cells #[.int .i64 m, .int .i64 b] 35)).cell? ⟨w.heap.size, 0, none⟩ = some (.int .i64 m) ∧ (w.alloc (Obj.cells #[.int .i64 m, .int .i64 b] 35)).cell? ⟨w.heap.size, 1, none⟩ = some (.int .i64 b) := ⟨by simp, by simp⟩
  obtain ⟨w0, hw0⟩ : ∃ W, w.alloc (Obj.cells #[.int .i64 m, .int .i64 b] 35) = W := ⟨_, rfl⟩
  rw [hw0] at hb0 hc0
  have HW0 : Hid (w.alloc (Obj.cells #[.int .i64 m, .int .i64 b] 35) = w0) := hw0
  have HB0 : Hid (Below w.heap.size w w0) := hb0
  have HC0 : Hid (w0.cell? ⟨w.heap.size, 0, none⟩ = some (.int .i64 m) ∧ w0.cell? ⟨w.heap.size, 1, none⟩ = some (.int .i64 b)) := hc0
  have HSW : Hid (∀ W, Below w.heap.size w W → SR W (.slice ao n cap) L) := fun W hb => hs.later hb
  obtain ⟨_, _, _, e0, hn, hnm, _, hna⟩ := hs.form
  cases e0
  have HN : Hid (L.length = n) := hn
  have HNA : Hid (0 < n → ∃ g o, ao = some ⟨g, o, none⟩ ∧ RAt w g o L ∧ cap ≤ maxLen) := hna
  have n63 : n ≤ 9223372036854775806 := by omega
  have H47 : Hid ((n + 1) * 48 ≤ 140737488355328) := h47
  obtain ⟨i0, hi, hz0, hz1, hz2⟩ := info_parts infoRule
  clear hs hn hnm hna hb0 hc0 hw0 h47
  go_enter Try.func4, Try.ntmps4
  go_upto_region 1 with fail
  rw [HW0.out]
  clear HW0
  go_wp2_with fail
  refine (of_any none 0 0 [] _ (.inl ⟨none, 0, rfl, rfl⟩)).mono ?_
  rintro e w1 ⟨v1, rfl, hf1, hb1⟩
  rw [show tbN [] = 0 from rfl, no_ok rfl]
  rw [of_nil] at hf1
  obtain ⟨a1, n1, c1, rfl, en1, _, _, ha1⟩ := hf1.form
  obtain rfl : n1 = 1 := by simpa using en1.symm
  obtain ⟨g1, o1, rfl, hl1, _⟩ := ha1 (by omega)
  obtain ⟨a2, n2, c2, q0, hG2⟩ := hl1 0 (by simp)
  obtain rfl : n2 = 16 := by simpa using hG2.len.symm
  simp only [Nat.add_zero] at q0
  have HB1 : Hid (Below w.heap.size w w1) := HB0.out.trans (hb1.mono HB0.out.size)
  have HC1 : Hid (w1.cell? ⟨w.heap.size, 0, none⟩ = some (.int .i64 m) ∧ w1.cell? ⟨w.heap.size, 1, none⟩ = some (.int .i64 b)) := ⟨cell_later hb1 HC0.out.1, cell_later hb1 HC0.out.2⟩
  clear hf1 hb1 en1 ha1 hl1 hG2
  go_wp2_with fail
  refine (of_any ao n cap L _ (HSW.out _ HB1.out)).mono ?_
  rintro e w2 ⟨v2, rfl, hf2, hb2⟩
  obtain ⟨a5, n5, c5, rfl, hn5, _, _, _⟩ := hf2.form
  obtain ⟨N1, hN1⟩ : ∃ N, N = tbN L := ⟨_, rfl⟩
  have HN1 : Hid (N1 = tbN L) := hN1
  rw [← hN1]
  have HN5 : Hid ((ofL L).length = n5) := hn5
  have HB2 : Hid (Below w.heap.size w w2) := HB1.out.trans (hb2.mono HB1.out.size)
  have HC2 : Hid (w2.cell? ⟨w.heap.size, 0, none⟩ = some (.int .i64 m) ∧ w2.cell? ⟨w.heap.size, 1, none⟩ = some (.int .i64 b)) := ⟨cell_later hb2 HC1.out.1, cell_later hb2 HC1.out.2⟩
  clear hf2 hb2 hn5 hN1 q0
  go_upto_region 6 with fail
  go_wp2_with (at_builtin; refine wpList_append_GS (E := rlE) _ rfl _ _ 39 37 rfl Try.underlying39 i0 (.agg #[.int .i64 0, .int .i64 0, .int .i64 0, .int .i64 0, .int .i64 0, .int .i64 0]) 48 hi hz0 hz1 hz2 sixCells w2.heap.size (.slice none 0 0) rfl [] (World.ownsRow_nil _ _ _ _) _ rfl L (sr_GS (HSW.out _ HB2.out)) ?a1 ?a2 ?a3 ?_)
  case a1 => have := HN.out; have := H47.out; unfold maxLen; simp; omega
  case a2 => have := HN.out; have := H47.out; simp; omega
  case a3 => exact Nat.le_refl _
  intro v3 w3 ho3 hg3
  try rw [List.nil_append] at ho3
  have hb3 : Below w2.heap.size w2 w3 := (Below.refl _ w2).grown hg3 (Nat.le_refl _) (fun g hg => by cases hg)
  obtain ⟨a3, c3, hv3⟩ := own_form ho3
  subst hv3
  have HO3 : Hid (w3.ownsRow w2.heap.size 37 rlE.n (.slice a3 L.length c3) L.length (cellsG rlE L)) := ho3
  have HB3 : Hid (Below w.heap.size w w3) := HB2.out.trans (hb3.mono HB2.out.size)
  have HS3 : Hid (w2.heap.size ≤ w3.heap.size) := hb3.size
  have hc3 : w3.cell? ⟨w.heap.size, 0, none⟩ = some (.int .i64 m) ∧ w3.cell? ⟨w.heap.size, 1, none⟩ = some (.int .i64 b) := ⟨cell_later hb3 HC2.out.1, cell_later hb3 HC2.out.2⟩
  obtain ⟨k0, k1⟩ := hc3
  have HK3 : Hid (w3.cell? ⟨w.heap.size, 0, none⟩ = some (.int .i64 m) ∧ w3.cell? ⟨w.heap.size, 1, none⟩ = some (.int .i64 b)) := ⟨k0, k1⟩
  obtain ⟨n3, hn3⟩ : ∃ q, q = L.length := ⟨_, rfl⟩
  rw [← hn3]
  have HN3 : Hid (L.length = n3) := hn3.symm
  clear ho3 hg3 hb3 hn3
  go_upto_region 7 with fail
  go_wp2_with (at_builtin; refine wpList_append_blk (E := rlE) _ rfl _ _ 39 37 rfl Try.underlying39 i0 (.agg #[.int .i64 0, .int .i64 0, .int .i64 0, .int .i64 0, .int .i64 0, .int .i64 0]) 48 hi hz0 hz1 hz2 sixCells w2.heap.size (.slice a3 n3 c3) rfl L ?m0 w3.heap.size 0 1 rfl ⟨99, m, b, 3, 0, 0⟩ (rl_new w3 99 m b 3 0 0 37) ?m1 ?m2 ?m3 ?_)
  case m0 => rw [← HN3.out]; exact HO3.out.alloc _
  case m1 => have := HN.out; have := H47.out; unfold maxLen; omega
  case m2 => have := HN.out; have := H47.out; omega
  case m3 => have := HS3.out; simp; omega
  intro v4 w4 ho4 hg4 _
  have hs4 : SR w4 v4 (L ++ [⟨99, m, b, 3, 0, 0⟩]) := gs_SR (own_GS (E := rlE) (by first | exact ho4 | (rw [List.length_append]; exact ho4)))
  have hb4 : Below w2.heap.size w3 w4 := ((Below.refl _ w3).alloc HS3.out _).grown hg4 (by have := HS3.out; simp; omega) (fun g hg => (HO3.out.lt g (by rw [HN3.out]; exact hg)).1)
  obtain ⟨a4, n4, c4, rfl, _, _, _, _⟩ := hs4.form
  have HS4 : Hid (SR w4 (.slice a4 n4 c4) (L ++ [⟨99, m, b, 3, 0, 0⟩])) := hs4
  have HB4 : Hid (Below w.heap.size w w4) := HB3.out.trans (hb4.mono HB2.out.size)
  have HL2 : Hid (w.heap.size < w2.heap.size) := World.block_lt_of_cell? _ _ HC2.out.1
  have HC4 : Hid (w4.cell? ⟨w.heap.size, 0, none⟩ = some (.int .i64 m) ∧ w4.cell? ⟨w.heap.size, 1, none⟩ = some (.int .i64 b)) := ⟨(hb4.cell (p := ⟨w.heap.size, 0, none⟩) HL2.out).trans HK3.out.1, (hb4.cell (p := ⟨w.heap.size, 1, none⟩) HL2.out).trans HK3.out.2⟩
  clear hs4 hb4 hg4 ho4 k0 k1 HO3 HC2 HC1 HC0 HK3
  go_wp2
  go_loopw [10] (fun i wr => ∃ k : Nat, k ≤ n ∧ i = .int .i64 k ∧ (∀ x ∈ L.take k, x.p ≠ 99) ∧ wr = w4) (fun i _ => n - (intOf i).toNat)
  case atStart => exact ⟨0, by omega, rfl, fun x hx => by simp at hx, rfl⟩
  case round =>
    obtain ⟨k, hk, rfl, hno, hwr⟩ := hrel
    subst hwr
    have HNO : Hid (∀ x ∈ L.take k, x.p ≠ 99) := hno
    clear hno
    by_cases hlt : k < n
    · obtain ⟨_, _, _, e7, _, _, _, ha7⟩ := (HSW.out _ HB4.out).form
      cases e7
      obtain ⟨g, o, hao, hc, _⟩ := ha7 (by omega)
      subst hao
      obtain ⟨rp, rm, rb, ro, rs, rv, hl, hLk, q0, q1, q2, q3, q4, q5⟩ := hc.at HN.out hlt
      have HLK : Hid (L[k] = ⟨rp, rm, rb, ro, rs, rv⟩) := hLk
      clear ha7 hc hLk
      by_cases h9 : rp = 99
      · subst h9
        go_wp2
        go_ret
        exact ⟨rfl, HB4.out⟩
      · have h9b : (rp == 99) = false := by simpa using h9
        go_wp2
        go_roundw
        case rel => exact ⟨k + 1, by omega, by go_num, fun x hx => by
          rw [List.take_succ_eq_append_getElem hl, List.mem_append] at hx
          rcases hx with hx | hx
          · exact HNO.out x hx
          · simp only [List.mem_singleton] at hx
            rw [hx, HLK.out]
            exact h9, trivial⟩
        case measure => simp [intOf]; omega
    · obtain rfl : k = n := by omega
      have HNO2 : Hid (∀ x ∈ L, x.p ≠ 99) := by
        have := HNO.out
        rw [List.take_of_length_le (by rw [HN.out]; exact Nat.le_refl _)] at this
        exact this
      go_wp2_with fail
      refine (of_any a4 n4 c4 _ _ HS4.out).mono ?_
      rintro e w5 ⟨v5, rfl, hf5, hb5⟩
      obtain ⟨a6, n6, c6, rfl, hn6, hm6, _, ha6⟩ := hf5.form
      obtain ⟨N2, hN2⟩ : ∃ N, N = tbN (L ++ [⟨99, m, b, 3, 0, 0⟩]) := ⟨_, rfl⟩
      have HN2 : Hid (N2 = tbN (L ++ [⟨99, m, b, 3, 0, 0⟩])) := hN2
      rw [← hN2]
      have HB5 : Hid (Below w.heap.size w w5) := HB4.out.trans (hb5.mono HB4.out.size)
      have HC5 : Hid (w5.cell? ⟨w.heap.size, 0, none⟩ = some (.int .i64 m) ∧ w5.cell? ⟨w.heap.size, 1, none⟩ = some (.int .i64 b)) := ⟨cell_later hb5 HC4.out.1, cell_later hb5 HC4.out.2⟩
      have HN6 : Hid ((ofL (L ++ [⟨99, m, b, 3, 0, 0⟩])).length = n6) := hn6
      have HA6 : Hid (0 < n6 → ∃ g o, a6 = some ⟨g, o, none⟩ ∧ ILAt w5 g o (ofL (L ++ [⟨99, m, b, 3, 0, 0⟩])) ∧ c6 ≤ maxLen) := ha6
      clear hf5 hb5 hn6 hN2 ha6 hm6 HS4 HC4
      by_cases hz1 : N1 = 0
      · subst hz1
        rw [no_ok rfl]
        by_cases hz2 : N2 = 0
        · subst hz2
          rw [no_ok rfl]
          have HOF : Hid (ofL (L ++ [⟨99, m, b, 3, 0, 0⟩]) = clsL [L ++ [⟨99, m, b, 3, 0, 0⟩]]) := by
            show _ = _
            rw [ofL, if_pos HN2.out.symm]
          have HOL : Hid (ofL L = clsL [L]) := by
            show _ = _
            rw [ofL, if_pos HN1.out.symm]
          have h6a : 1 ≤ n6 := by
            have := HN6.out
            rw [HOF.out] at this
            rw [← this]
            exact cls_pos _
          have h6b : n6 ≤ 16 := by
            have := HN6.out
            rw [HOF.out] at this
            rw [← this]
            exact cls_le _
          have h5b : n5 ≤ 16 := by
            have := HN5.out
            rw [HOL.out] at this
            rw [← this]
            exact cls_le _
          have HP : Hid (∀ x ∈ L, x.p < (⟨99, m, b, 3, 0, 0⟩ : Ru).p) := below99 HN1.out.symm HNO2.out _ _ _ _ _
          have h65 : n6 ≤ n5 + 1 := by
            have h1 := more_few HP.out
            have h2 := HN6.out
            have h3 := HN5.out
            rw [HOF.out] at h2
            rw [HOL.out] at h3
            omega
          have i65 : (n6 : Int) ≤ (n5 : Int) + 1 := by omega
          have i61 : (1 : Int) ≤ (n6 : Int) := by omega
          have w5n : IntKind.i64.wrap ((n5 : Int) + 1) = (n5 : Int) + 1 := by
            rw [show (n5 : Int) + 1 = ((n5 + 1 : Nat) : Int) by omega]
            exact wrap_small (by omega) (by omega)
          go_wp2
          go_loopw [13] (fun i wr => ∃ k : Nat, k ≤ n6 ∧ i = .int .i64 k ∧ Below w5.heap.size w5 wr) (fun i _ => n6 - (intOf i).toNat)
          case atStart => exact ⟨0, by omega, rfl, Below.refl _ _⟩
          case round =>
            obtain ⟨k2, hk2, rfl, hB6⟩ := hrel
            obtain ⟨wo, hwo⟩ : ∃ X, X = wr := ⟨_, rfl⟩
            subst hwo
            have HB6 : Hid (Below w5.heap.size w5 wo) := hB6
            have HBw6 : Hid (Below w.heap.size w wo) := HB5.out.trans (hB6.mono HB5.out.size)
            clear hB6
            by_cases hlt2 : k2 < n6
            · obtain ⟨g6, o6, ha6, hl6, _⟩ := HA6.out (by omega)
              subst ha6
              obtain ⟨a7, n7, c7, q7, hG7⟩ := (hl6.later HB6.out).at HN6.out hlt2
              have HCI : Hid ((ofL (L ++ [⟨99, m, b, 3, 0, 0⟩])).getD k2 [] ∈ clsL [L ++ [⟨99, m, b, 3, 0, 0⟩]]) := by
                show _ ∈ _
                rw [HOF.out]
                refine cls_in ?_
                have := HN6.out
                rw [HOF.out] at this
                omega
              obtain ⟨C, hC⟩ : ∃ C, C = (ofL (L ++ [⟨99, m, b, 3, 0, 0⟩])).getD k2 [] := ⟨_, rfl⟩
              rw [← hC] at hG7 HCI
              have HG7 : Hid (GS inE wo (.slice a7 n7 c7) C) := hG7
              have hn7 := hG7.len
              have HN7 : Hid (C.length = n7) := hn7
              have h7s := cls_size _ C HCI.out
              have h7a : 1 ≤ n7 := by omega
              have h7b : n7 ≤ 16 := by omega
              have HQ7 : Hid (wo.cell? ⟨g6, o6 + k2, none⟩ = some (.slice a7 n7 c7)) := q7
              obtain ⟨_, _, _, e8, _, _, _, ha8⟩ := hG7.form
              cases e8
              obtain ⟨g7, o7, ha7, hc7, _⟩ := ha8 (by omega)
              subst ha7
              have HC7 : Hid (GAt inE wo g7 o7 C) := hc7
              have k2b0 : (0 : Int) ≤ (k2 : Int) := by omega
              have k2b1 : (k2 : Int) < (n6 : Int) := by omega
              clear hl6 hC hG7 hn7 h7s ha8 hc7 q7
              go_upto_region 20 with fail
              go_loopw [14] (fun i wr => ∃ k : Nat, 1 ≤ k ∧ k ≤ n7 ∧ i = .int .i64 k ∧ Below wo.heap.size wo wr) (fun i _ => n7 - (intOf i).toNat)
              case atStart => exact ⟨1, by omega, by omega, rfl, Below.refl _ _⟩
              case round =>
                obtain ⟨k3, hk31, hk3, rfl, hB7⟩ := hrel
                have HB7 : Hid (Below wo.heap.size wo wr) := hB7
                have q7 := cell_later hB7 HQ7.out
                by_cases hlt3 : k3 < n7
                · obtain ⟨x3, hx3, hC3, p3⟩ := in_at (HC7.out.later hB7) HN7.out hlt3
                  obtain ⟨x0, hx0, hC0, p0⟩ := in_at (HC7.out.later hB7) HN7.out (show 0 < n7 by omega)
                  simp only [Nat.add_zero] at p0
                  have hc8 : wr.cell? ⟨w.heap.size, 0, none⟩ = some (.int .i64 m) ∧ wr.cell? ⟨w.heap.size, 1, none⟩ = some (.int .i64 b) := ⟨cell_later hB7 (cell_later HB6.out HC5.out.1), cell_later hB7 (cell_later HB6.out HC5.out.2)⟩
                  obtain ⟨k0, k1⟩ := hc8
                  obtain ⟨Hh, hHh⟩ : ∃ H, H = hasB m b x3 := ⟨_, rfl⟩
                  have HE1 : Hid (hasB m b x3 = Hh) := hHh.symm
                  have HE2 : Hid (hasB m b x0 = Hh) := by
                    have := more_apart (r := ⟨99, m, b, 3, 0, 0⟩) HP.out HCI.out (x := x0) (y := x3) (by rw [← hC0]; exact List.getElem_mem _) (by rw [← hC3]; exact List.getElem_mem _)
                    show _ = _
                    rw [hHh]
                    exact this
                  have k3b0 : (0 : Int) ≤ (k3 : Int) := by omega
                  have k3b1 : (k3 : Int) < (n7 : Int) := by omega
                  have k30 : (0 : Int) < (n7 : Int) := by omega
                  have hn70 : ¬ n7 = 0 := by omega
                  have HCS : Hid (CS6 wr w.heap.size m b g6 (o6 + k2) (.slice (some ⟨g7, o7, none⟩) n7 c7) g7 (o7 + k3) x3 o7 x0 wr) := ⟨Below.refl _ _, k0, k1, q7, p3, p0⟩
                  clear hHh hC3 hC0 k0 k1 p3 p0
                  go_upto_region 22 with fail
                  clear q7
                  refine wp_region_quiet (C := CS6 wr w.heap.size m b g6 (o6 + k2) (.slice (some ⟨g7, o7, none⟩) n7 c7) g7 (o7 + k3) x3 o7 x0) (by kernel_rfl) (by kernel_rfl) (CS6.later (W := wr) (Below.drew (Below.refl _ _)) HCS.out) ?_
                  simp only [List.toList_toArray]
                  go_big_quiet_want
                  refine quiet_val (v := .agg #[.int .i64 m, .int .i64 b]) (fun w' hC => ?_) ?_
                  · obtain ⟨z0, z1, z2, z3, z4, z5⟩ := hC
                    go_simp
                  simp only [Act.put, List.setIfInBounds_toArray, List.set_cons_zero, List.set_cons_succ]
                  go_big_quiet_on
                  go_big_quiet_want
                  refine quiet_val (v := .slice (some ⟨g6, o6, none⟩) n6 c6) (fun w' hC => ?_) ?_
                  · obtain ⟨z0, z1, z2, z3, z4, z5⟩ := hC
                    go_simp
                  simp only [Act.put, List.setIfInBounds_toArray, List.set_cons_zero, List.set_cons_succ]
                  go_big_quiet_on
                  go_big_quiet_want
                  refine quiet_val (v := .int .i64 (k2 : Int)) (fun w' hC => ?_) ?_
                  · obtain ⟨z0, z1, z2, z3, z4, z5⟩ := hC
                    go_simp
                  simp only [Act.put, List.setIfInBounds_toArray, List.set_cons_zero, List.set_cons_succ]
                  go_big_quiet_on
                  go_big_quiet_want
                  refine quiet_val (v := .pointer (some ⟨g6, o6 + k2, none⟩)) (fun w' hC => ?_) ?_
                  · obtain ⟨z0, z1, z2, z3, z4, z5⟩ := hC
                    go_simp
                  simp only [Act.put, List.setIfInBounds_toArray, List.set_cons_zero, List.set_cons_succ]
                  go_big_quiet_on
                  go_big_quiet_want
                  refine quiet_val (v := .slice (some ⟨g7, o7, none⟩) n7 c7) (fun w' hC => ?_) ?_
                  · obtain ⟨z0, z1, z2, z3, z4, z5⟩ := hC
                    go_simp
                  simp only [Act.put, List.setIfInBounds_toArray, List.set_cons_zero, List.set_cons_succ]
                  go_big_quiet_on
                  go_big_quiet_want
                  refine quiet_val (v := .int .i64 (k3 : Int)) (fun w' hC => ?_) ?_
                  · obtain ⟨z0, z1, z2, z3, z4, z5⟩ := hC
                    go_simp
                  simp only [Act.put, List.setIfInBounds_toArray, List.set_cons_zero, List.set_cons_succ]
                  go_big_quiet_on
                  go_big_quiet_want
                  refine quiet_val (v := .pointer (some ⟨g7, o7 + k3, none⟩)) (fun w' hC => ?_) ?_
                  · obtain ⟨z0, z1, z2, z3, z4, z5⟩ := hC
                    go_simp
                  simp only [Act.put, List.setIfInBounds_toArray, List.set_cons_zero, List.set_cons_succ]
                  go_big_quiet_on
                  go_big_quiet_want
                  refine quiet_val (v := .int .i64 x3) (fun w' hC => ?_) ?_
                  · obtain ⟨z0, z1, z2, z3, z4, z5⟩ := hC
                    go_simp
                  simp only [Act.put, List.setIfInBounds_toArray, List.set_cons_zero, List.set_cons_succ]
                  go_big_quiet_on
                  go_big_quiet_want
                  refine quiet_call (f := 10) (args := #[.agg #[.int .i64 m, .int .i64 b], .int .i64 x3]) (v := .bool Hh) (fun w' => ?_) (fun w' hC => (has_any m b x3 w').mono (fun e w2 h2 => ⟨by rw [h2.1, HE1.out], CS6.later h2.2 hC⟩)) ?_
                  · go_simp
                  simp only [Act.put, List.setIfInBounds_toArray, List.set_cons_zero, List.set_cons_succ]
                  go_big_quiet_on
                  go_big_quiet_want
                  refine quiet_val (v := .agg #[.int .i64 m, .int .i64 b]) (fun w' hC => ?_) ?_
                  · obtain ⟨z0, z1, z2, z3, z4, z5⟩ := hC
                    go_simp
                  simp only [Act.put, List.setIfInBounds_toArray, List.set_cons_zero, List.set_cons_succ]
                  go_big_quiet_on
                  go_big_quiet_want
                  refine quiet_val (v := .slice (some ⟨g6, o6, none⟩) n6 c6) (fun w' hC => ?_) ?_
                  · obtain ⟨z0, z1, z2, z3, z4, z5⟩ := hC
                    go_simp
                  simp only [Act.put, List.setIfInBounds_toArray, List.set_cons_zero, List.set_cons_succ]
                  go_big_quiet_on
                  go_big_quiet_want
                  refine quiet_val (v := .int .i64 (k2 : Int)) (fun w' hC => ?_) ?_
                  · obtain ⟨z0, z1, z2, z3, z4, z5⟩ := hC
                    go_simp
                  simp only [Act.put, List.setIfInBounds_toArray, List.set_cons_zero, List.set_cons_succ]
                  go_big_quiet_on
                  go_big_quiet_want
                  refine quiet_val (v := .pointer (some ⟨g6, o6 + k2, none⟩)) (fun w' hC => ?_) ?_
                  · obtain ⟨z0, z1, z2, z3, z4, z5⟩ := hC
                    go_simp
                  simp only [Act.put, List.setIfInBounds_toArray, List.set_cons_zero, List.set_cons_succ]
                  go_big_quiet_on
                  go_big_quiet_want
                  refine quiet_val (v := .slice (some ⟨g7, o7, none⟩) n7 c7) (fun w' hC => ?_) ?_
                  · obtain ⟨z0, z1, z2, z3, z4, z5⟩ := hC
                    go_simp
                  simp only [Act.put, List.setIfInBounds_toArray, List.set_cons_zero, List.set_cons_succ]
                  go_big_quiet_on
                  go_big_quiet_want
                  refine quiet_val (v := .pointer (some ⟨g7, o7, none⟩)) (fun w' hC => ?_) ?_
                  · obtain ⟨z0, z1, z2, z3, z4, z5⟩ := hC
                    go_simp
                  simp only [Act.put, List.setIfInBounds_toArray, List.set_cons_zero, List.set_cons_succ]
                  go_big_quiet_on
                  go_big_quiet_want
                  refine quiet_val (v := .int .i64 x0) (fun w' hC => ?_) ?_
                  · obtain ⟨z0, z1, z2, z3, z4, z5⟩ := hC
                    go_simp
                  simp only [Act.put, List.setIfInBounds_toArray, List.set_cons_zero, List.set_cons_succ]
                  go_big_quiet_on
                  go_big_quiet_want
                  refine quiet_call (f := 10) (args := #[.agg #[.int .i64 m, .int .i64 b], .int .i64 x0]) (v := .bool Hh) (fun w' => ?_) (fun w' hC => (has_any m b x0 w').mono (fun e w2 h2 => ⟨by rw [h2.1, HE2.out], CS6.later h2.2 hC⟩)) ?_
                  · go_simp
                  simp only [Act.put, List.setIfInBounds_toArray, List.set_cons_zero, List.set_cons_succ]
                  go_big_quiet_on
                  go_big_quiet_want
                  refine quiet_val (v := .bool false) (fun w' hC => ?_) ?_
                  · obtain ⟨z0, z1, z2, z3, z4, z5⟩ := hC
                    go_simp
                  simp only [Act.put, List.setIfInBounds_toArray, List.set_cons_zero, List.set_cons_succ]
                  go_big_quiet_on
                  refine wpQuiet_nil ?_
                  intro w' hC
                  have HBY : Hid (Below wr.heap.size wr w') := hC.1
                  clear hC
                  go_wp2
                  go_roundw
                  case rel => exact ⟨k3 + 1, by omega, by omega, by go_num, HB7.out.trans (HBY.out.mono HB7.out.size)⟩
                  case measure => simp [intOf]; omega
                · obtain rfl : k3 = n7 := by omega
                  go_wp2
                  go_roundw
                  case rel => exact ⟨k2 + 1, by omega, by go_num, HB6.out.trans (HB7.out.mono HB6.out.size)⟩
                  case measure => simp [intOf]; omega
            · obtain rfl : k2 = n6 := by omega
              go_wp2
              go_ret
              exact ⟨rfl, HBw6.out⟩
        · rw [no_ne hz2]
          have HZ2 : Hid (N2 ≠ 0) := hz2
          clear hz2
          go_wp2
          go_ret
          exact ⟨rfl, HB5.out⟩
      · rw [no_ne hz1]
        have HZ1 : Hid (N1 ≠ 0) := hz1
        clear hz1
        go_wp2
        go_ret
        exact ⟨rfl, HB5.out⟩
end classSplits
end Go.Proofs.Ytfbocionnjlilad
