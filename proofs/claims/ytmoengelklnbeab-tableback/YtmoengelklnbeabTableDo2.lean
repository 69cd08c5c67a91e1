/- What table.Do answers, called with any table, and any rule to be added or taken away. -/
import Derived.Test.YtmoengelklnbeabTableDo
namespace Go.Proofs.Ytmoengelklnbeab
open Go.RowKit
set_option linter.unusedSimpArgs false
set_option linter.unusedVariables false

theorem do_tb {L : List Ru} {a : Bool} {r : Ru} (h : tbN L ≠ 0) : doN L a r = tbN L ∧ doL L a r = [] := by
  have e : doN L a r = tbN L := by simp [doN, h]
  exact ⟨e, by rw [doL, e, if_neg h]⟩
theorem do_ru {L : List Ru} {a : Bool} {r : Ru} (h : tbN L = 0) (h2 : r.n ≠ 0) : doN L a r = r.n ∧ doL L a r = [] := by
  have e : doN L a r = r.n := by simp [doN, h, h2]
  exact ⟨e, by rw [doL, e, if_neg h2]⟩
theorem do_ch {L : List Ru} {a : Bool} {r : Ru} (h : tbN L = 0) (h2 : r.n = 0) : doN L a r = chN L a r ∧ doL L a r = chL L a r := by
  have e : doN L a r = chN L a r := by simp [doN, h, h2]
  refine ⟨e, ?_⟩
  by_cases h3 : chN L a r = 0
  · rw [doL, e, if_pos h3]
  · rw [doL, e, if_neg h3, chL_ne h3]

set_option maxHeartbeats 2000000 in
set_option maxRecDepth 100000 in
theorem do_any (ao : Option Addr) (n cap : Nat) (a : Bool) (p m b o s v : Int) (L : List Ru) (w : World) (hs : SR w (.slice ao n cap) L) :
    Calls Try.prog 6 #[.slice ao n cap, .bool a, .agg #[.int .i64 p, .int .i64 m, .int .i64 b, .int .i64 o, .int .i64 s, .int .i64 v]] w fun e w' => ∃ u, e = .returned (.tuple #[u, noV (doN L a ⟨p, m, b, o, s, v⟩)]) ∧ SR w' u (doL L a ⟨p, m, b, o, s, v⟩) ∧ Below w.heap.size w w' := by
  have hB0 : Below w.heap.size w (w.alloc (Obj.cells #[Value.int IntKind.i64 p, Value.int IntKind.i64 m, Value.int IntKind.i64 b, Value.int IntKind.i64 o, Value.int IntKind.i64 s, Value.int IntKind.i64 v] 25)) := (Below.refl _ _).alloc (Nat.le_refl _) _
  have HC0 := C6.new w p m b o s v 25
  have HS0 : Hid (SR (w.alloc (Obj.cells #[Value.int IntKind.i64 p, Value.int IntKind.i64 m, Value.int IntKind.i64 b, Value.int IntKind.i64 o, Value.int IntKind.i64 s, Value.int IntKind.i64 v] 25)) (.slice ao n cap) L) := hs.later hB0
  have HB0 : Hid (Below w.heap.size w (w.alloc (Obj.cells #[Value.int IntKind.i64 p, Value.int IntKind.i64 m, Value.int IntKind.i64 b, Value.int IntKind.i64 o, Value.int IntKind.i64 s, Value.int IntKind.i64 v] 25))) := hB0
  have HLN : Hid (L.length = n) := hs.len
  clear hs hB0
  by_cases h1 : tbN L = 0
  · have HT : Hid (tbN L = 0) := h1
    by_cases h2 : (⟨p, m, b, o, s, v⟩ : Ru).n = 0
    · have HR : Hid (ruN p m b o s v = 0) := h2
      have HN1 : Hid (n ≤ 1000) := by
        have := (tb_iff.1 h1).1
        have := HLN.out
        show n ≤ 1000
        omega
      rw [(do_ch h1 h2).1, (do_ch h1 h2).2]
      clear h1 h2
      cases a
      · go_enter Try.func6, Try.ntmps6
        go_wp2_with fail
        refine (table_any _ L _ HS0.out).mono ?_
        rintro e w1 ⟨rfl, hb1⟩
        rw [no_ok HT.out]
        have HB1 : Hid (Below w.heap.size w w1) := HB0.out.trans (hb1.mono HB0.out.size)
        have HS1 : Hid (SR w1 (.slice ao n cap) L) := HS0.out.later hb1
        have HC1 : Hid (C6 w1 w.heap.size 0 ⟨p, m, b, o, s, v⟩) := HC0.later hb1
        obtain ⟨c0, c1, c2, c3, c4, c5⟩ := HC0.later hb1
        simp only [Nat.zero_add] at c0 c1 c2 c3 c4 c5
        have hlt : w.heap.size < w1.heap.size := World.block_lt_of_cell? _ _ c0
        clear hb1
        go_wp2_with fail
        refine (ruCheck_any _ _ _ _ _ _ _).mono ?_
        rintro e w2 ⟨rfl, hb2⟩
        rw [no_ok HR.out]
        have HB2 : Hid (Below w.heap.size w w2) := HB1.out.trans (hb2.mono HB1.out.size)
        have HS2 : Hid (SR w2 (.slice ao n cap) L) := HS1.out.later hb2
        obtain ⟨d0, d1, d2, d3, d4, d5⟩ := HC1.out.later hb2
        simp only [Nat.zero_add] at d0 d1 d2 d3 d4 d5
        have hlt2 : w.heap.size < w2.heap.size := World.block_lt_of_cell? _ _ d0
        clear hb2 c0 c1 c2 c3 c4 c5
        go_wp2_with fail
        refine (without_any ao n cap p m b o s v L _ HS2.out HN1.out).mono ?_
        rintro e w3 ⟨u, rfl, hsr, hb3⟩
        have HB3 : Hid (Below w.heap.size w w3) := HB2.out.trans (hb3.mono HB2.out.size)
        have HO : Hid (SR w3 u (chL L false ⟨p, m, b, o, s, v⟩)) := hsr
        clear hb3 hsr d0 d1 d2 d3 d4 d5
        generalize hE : noV (chN L false ⟨p, m, b, o, s, v⟩) = E
        have HE : Hid (noV (chN L false ⟨p, m, b, o, s, v⟩) = E) := hE
        clear hE
        go_wp2
        refine bodyPost_ret (v := .tuple #[u, E]) (by simp [results, Try.results6, go_sem]) rfl ⟨_, by rw [HE.out], HO.out, HB3.out⟩
      · go_enter Try.func6, Try.ntmps6
        go_wp2_with fail
        refine (table_any _ L _ HS0.out).mono ?_
        rintro e w1 ⟨rfl, hb1⟩
        rw [no_ok HT.out]
        have HB1 : Hid (Below w.heap.size w w1) := HB0.out.trans (hb1.mono HB0.out.size)
        have HS1 : Hid (SR w1 (.slice ao n cap) L) := HS0.out.later hb1
        have HC1 : Hid (C6 w1 w.heap.size 0 ⟨p, m, b, o, s, v⟩) := HC0.later hb1
        obtain ⟨c0, c1, c2, c3, c4, c5⟩ := HC0.later hb1
        simp only [Nat.zero_add] at c0 c1 c2 c3 c4 c5
        have hlt : w.heap.size < w1.heap.size := World.block_lt_of_cell? _ _ c0
        clear hb1
        go_wp2_with fail
        refine (ruCheck_any _ _ _ _ _ _ _).mono ?_
        rintro e w2 ⟨rfl, hb2⟩
        rw [no_ok HR.out]
        have HB2 : Hid (Below w.heap.size w w2) := HB1.out.trans (hb2.mono HB1.out.size)
        have HS2 : Hid (SR w2 (.slice ao n cap) L) := HS1.out.later hb2
        obtain ⟨d0, d1, d2, d3, d4, d5⟩ := HC1.out.later hb2
        simp only [Nat.zero_add] at d0 d1 d2 d3 d4 d5
        have hlt2 : w.heap.size < w2.heap.size := World.block_lt_of_cell? _ _ d0
        clear hb2 c0 c1 c2 c3 c4 c5
        go_wp2_with fail
        refine (with_any ao n cap p m b o s v L _ HS2.out).mono ?_
        rintro e w3 ⟨u, rfl, hsr, hb3⟩
        have HB3 : Hid (Below w.heap.size w w3) := HB2.out.trans (hb3.mono HB2.out.size)
        have HO : Hid (SR w3 u (chL L true ⟨p, m, b, o, s, v⟩)) := hsr
        clear hb3 hsr d0 d1 d2 d3 d4 d5
        generalize hE : noV (chN L true ⟨p, m, b, o, s, v⟩) = E
        have HE : Hid (noV (chN L true ⟨p, m, b, o, s, v⟩) = E) := hE
        clear hE
        go_wp2
        refine bodyPost_ret (v := .tuple #[u, E]) (by simp [results, Try.results6, go_sem]) rfl ⟨_, by rw [HE.out], HO.out, HB3.out⟩
    · have HR : Hid (ruN p m b o s v ≠ 0) := h2
      rw [(do_ru h1 h2).1, (do_ru h1 h2).2]
      have HRV : Hid (noV (Ru.n ⟨p, m, b, o, s, v⟩) = .iface 45 (.int .i64 (ruN p m b o s v))) := no_ne h2
      clear h1 h2
      go_enter Try.func6, Try.ntmps6
      go_wp2_with fail
      refine (table_any _ L _ HS0.out).mono ?_
      rintro e w1 ⟨rfl, hb1⟩
      rw [no_ok HT.out]
      have HB1 : Hid (Below w.heap.size w w1) := HB0.out.trans (hb1.mono HB0.out.size)
      obtain ⟨c0, c1, c2, c3, c4, c5⟩ := HC0.later hb1
      simp only [Nat.zero_add] at c0 c1 c2 c3 c4 c5
      have hlt : w.heap.size < w1.heap.size := World.block_lt_of_cell? _ _ c0
      clear hb1
      go_wp2_with fail
      refine (ruCheck_any _ _ _ _ _ _ _).mono ?_
      rintro e w2 ⟨rfl, hb2⟩
      rw [no_ne HR.out]
      have HB2 : Hid (Below w.heap.size w w2) := HB1.out.trans (hb2.mono HB1.out.size)
      clear hb2 c0 c1 c2 c3 c4 c5
      go_wp2
      refine bodyPost_ret (v := .tuple #[.slice none 0 0, .iface 45 (.int .i64 (ruN p m b o s v))]) (by simp [results, Try.results6, go_sem]) rfl ⟨_, by rw [HRV.out], SR.nil _, HB2.out⟩
  · have HT : Hid (tbN L ≠ 0) := h1
    rw [(do_tb h1).1, (do_tb h1).2, no_ne h1]
    clear h1
    go_enter Try.func6, Try.ntmps6
    go_wp2_with fail
    refine (table_any _ L _ HS0.out).mono ?_
    rintro e w1 ⟨rfl, hb1⟩
    rw [no_ne HT.out]
    have HB1 : Hid (Below w.heap.size w w1) := HB0.out.trans (hb1.mono HB0.out.size)
    clear hb1
    go_wp2
    refine bodyPost_ret (v := .tuple #[.slice none 0 0, .iface 45 (.int .i64 (tbN L))]) (by simp [results, Try.results6, go_sem]) rfl ⟨_, rfl, SR.nil _, HB1.out⟩
end Go.Proofs.Ytmoengelklnbeab
