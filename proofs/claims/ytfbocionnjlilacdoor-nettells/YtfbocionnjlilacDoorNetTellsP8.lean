/- Contracts and facts on the way to NetTells, joined into one text: RefRule, RefTable, RefNet, TopoWhere, RefNamed, NetPacket, NetFrom, NetSend. -/
import Derived.Test.YtfbocionnjlilacDoorNetTellsP3
import Derived.Test.YtfbocionnjlilacDoorNetTellsP4
import Derived.Test.YtfbocionnjlilacDoorNetTellsP7
import Derived.Test.YtfbocionnjlilacDoorNetTellsP5
import Derived.Test.YtfbocionnjlilacDoorNetTellsP2
import Derived.Test.YtfbocionnjlilacDoorNetTellsP6
import Derived.BigRegion
/- What the document's own Rule answers, called with any rule. -/
namespace Go.Proofs.YtfbocionnjlilacDoor
open Go.RowKit
set_option linter.unusedSimpArgs false

theorem set_okB {s v : Int} (h : rngB s v = true) : okB s v = (bits .andNot .i64 v s == 0) := by simp [okB, h]

set_option maxHeartbeats 1000000 in
theorem refRule_prio (p m b o s v : Int) (w : World) (h : ruP p o = false) :
    Calls Tryd.prog 66 #[.agg #[.int .i64 p, .int .i64 m, .int .i64 b, .int .i64 o, .int .i64 s, .int .i64 v]] w fun e w' => e = .returned (.int .i64 1) ∧ Below w.heap.size w w' := by
  have hc : p < 0 ∨ (0 ≤ p ∧ 99 < p) ∨ ((0 ≤ p ∧ p ≤ 99) ∧ o < 0) ∨ ((0 ≤ p ∧ p ≤ 99) ∧ (0 ≤ o ∧ 4 < o)) := by
    simp [ruP] at h
    omega
  clear h
  rcases hc with h1 | ⟨h1, h2⟩ | ⟨⟨h1, h2⟩, h3⟩ | ⟨⟨h1, h2⟩, h3, h4⟩
  · have e1 : decide (p < 0) = true := by simp; omega
    go_enter Tryd.func66, Tryd.ntmps66
    go_wp2_with fail
    refine (header_any _ _).mono ?_
    rintro e w' ⟨rfl, rfl⟩
    go_wp2_with fail
    refine (header_any _ _).mono ?_
    rintro e w' ⟨rfl, rfl⟩
    go_wp2
    go_ret
    exact ⟨rfl, (Below.refl _ _).alloc (Nat.le_refl _) _⟩
  · have e1 : decide (p < 0) = false := by simp; omega
    have e2 : decide (99 < p) = true := by simp; omega
    go_enter Tryd.func66, Tryd.ntmps66
    go_wp2_with fail
    refine (header_any _ _).mono ?_
    rintro e w' ⟨rfl, rfl⟩
    go_wp2_with fail
    refine (header_any _ _).mono ?_
    rintro e w' ⟨rfl, rfl⟩
    go_wp2
    go_ret
    exact ⟨rfl, (Below.refl _ _).alloc (Nat.le_refl _) _⟩
  · have e1 : decide (p < 0) = false := by simp; omega
    have e2 : decide (99 < p) = false := by simp; omega
    have e3 : decide (o < 0) = true := by simp; omega
    go_enter Tryd.func66, Tryd.ntmps66
    go_wp2_with fail
    refine (header_any _ _).mono ?_
    rintro e w' ⟨rfl, rfl⟩
    go_wp2_with fail
    refine (header_any _ _).mono ?_
    rintro e w' ⟨rfl, rfl⟩
    go_wp2
    go_ret
    exact ⟨rfl, (Below.refl _ _).alloc (Nat.le_refl _) _⟩
  · have e1 : decide (p < 0) = false := by simp; omega
    have e2 : decide (99 < p) = false := by simp; omega
    have e3 : decide (o < 0) = false := by simp; omega
    have e4 : decide (4 < o) = true := by simp; omega
    go_enter Tryd.func66, Tryd.ntmps66
    go_wp2_with fail
    refine (header_any _ _).mono ?_
    rintro e w' ⟨rfl, rfl⟩
    go_wp2_with fail
    refine (header_any _ _).mono ?_
    rintro e w' ⟨rfl, rfl⟩
    go_wp2
    go_ret
    exact ⟨rfl, (Below.refl _ _).alloc (Nat.le_refl _) _⟩

set_option maxHeartbeats 1000000 in
theorem refRule_set (p m b o s v : Int) (w : World) (h : ruP p o = true) (h2 : rngB s v = false) :
    Calls Tryd.prog 66 #[.agg #[.int .i64 p, .int .i64 m, .int .i64 b, .int .i64 o, .int .i64 s, .int .i64 v]] w fun e w' => e = .returned (.int .i64 1) ∧ Below w.heap.size w w' := by
  obtain ⟨e1, e2, e3, e4⟩ := ruP_of h
  clear h
  cases hs : hdrB s
  · clear h2
    go_enter Tryd.func66, Tryd.ntmps66
    go_wp2_with fail
    refine (header_any _ _).mono ?_
    rintro e w' ⟨rfl, rfl⟩
    rw [hs]
    go_wp2_with fail
    refine (header_any _ _).mono ?_
    rintro e w' ⟨rfl, rfl⟩
    go_wp2
    go_ret
    exact ⟨rfl, (Below.refl _ _).alloc (Nat.le_refl _) _⟩
  · have hv : hdrB v = false := by simpa [rngB, hs] using h2
    clear h2
    go_enter Tryd.func66, Tryd.ntmps66
    go_wp2_with fail
    refine (header_any _ _).mono ?_
    rintro e w' ⟨rfl, rfl⟩
    rw [hs]
    go_wp2_with fail
    refine (header_any _ _).mono ?_
    rintro e w' ⟨rfl, rfl⟩
    rw [hv]
    go_wp2
    go_ret
    exact ⟨rfl, (Below.refl _ _).alloc (Nat.le_refl _) _⟩

set_option maxHeartbeats 1000000 in
theorem refRule_cube (p m b o s v : Int) (w : World) (h : ruP p o = true) (h2 : rngB s v = true) (h3 : okB m b = false) :
    Calls Tryd.prog 66 #[.agg #[.int .i64 p, .int .i64 m, .int .i64 b, .int .i64 o, .int .i64 s, .int .i64 v]] w fun e w' => e = .returned (.int .i64 (refN m b)) ∧ Below w.heap.size w w' := by
  obtain ⟨e1, e2, e3, e4⟩ := ruP_of h
  have hs : hdrB s = true := by simp only [rngB, Bool.and_eq_true] at h2; exact h2.1
  have hv : hdrB v = true := by simp only [rngB, Bool.and_eq_true] at h2; exact h2.2
  have hn : (refN m b != 0) = true := by have := ok_refN m b; rw [h3] at this; simpa using this
  clear h h2 h3
  go_enter Tryd.func66, Tryd.ntmps66
  go_wp2_with fail
  refine (header_any _ _).mono ?_
  rintro e w' ⟨rfl, rfl⟩
  rw [hs]
  go_wp2_with fail
  refine (header_any _ _).mono ?_
  rintro e w' ⟨rfl, rfl⟩
  rw [hv]
  go_wp2_with fail
  refine (refCube_any _ _ _).mono ?_
  rintro e w1 ⟨rfl, hb1⟩
  go_wp2
  go_ret
  exact ⟨rfl, ((Below.refl _ _).alloc (Nat.le_refl _) _).trans (hb1.mono (by simp))⟩

set_option maxHeartbeats 1000000 in
theorem refRule_end (p m b o s v : Int) (w : World) (h : ruP p o = true) (h2 : rngB s v = true) (h3 : okB m b = true) (x : Int) (hx : x = if ruSet o s v then 0 else 3) :
    Calls Tryd.prog 66 #[.agg #[.int .i64 p, .int .i64 m, .int .i64 b, .int .i64 o, .int .i64 s, .int .i64 v]] w fun e w' => e = .returned (.int .i64 x) ∧ Below w.heap.size w w' := by
  obtain ⟨e1, e2, e3, e4⟩ := ruP_of h
  have hs : hdrB s = true := by simp only [rngB, Bool.and_eq_true] at h2; exact h2.1
  have hv : hdrB v = true := by simp only [rngB, Bool.and_eq_true] at h2; exact h2.2
  have hn : refN m b = 0 := refN_ok h3
  have hlt : w.heap.size < (w.alloc (Obj.cells #[Value.int IntKind.i64 p, Value.int IntKind.i64 m, Value.int IntKind.i64 b, Value.int IntKind.i64 o, Value.int IntKind.i64 s, Value.int IntKind.i64 v] 71)).heap.size := by simp
  have ha0 := set_okB h2
  clear h h2 h3
  cases ha : (bits .andNot .i64 v s == 0)
  · have hx3 : x = 3 := by rw [hx]; simp [ruSet, ha]
    subst hx3
    have hz : (refN s v != 0) = true := by have := ok_refN s v; rw [ha0, ha] at this; simpa using this
    clear hx ha0
    go_enter Tryd.func66, Tryd.ntmps66
    go_wp2_with fail
    refine (header_any _ _).mono ?_
    rintro e w' ⟨rfl, rfl⟩
    rw [hs]
    go_wp2_with fail
    refine (header_any _ _).mono ?_
    rintro e w' ⟨rfl, rfl⟩
    rw [hv]
    go_wp2_with fail
    refine (refCube_any _ _ _).mono ?_
    rintro e w1 ⟨rfl, hb1⟩
    rw [hn]
    obtain ⟨hc1, hf1⟩ := bcell hb1
    have hB := ((Below.refl w.heap.size w).alloc (Nat.le_refl _) (Obj.cells #[Value.int IntKind.i64 p, Value.int IntKind.i64 m, Value.int IntKind.i64 b, Value.int IntKind.i64 o, Value.int IntKind.i64 s, Value.int IntKind.i64 v] 71)).trans (hb1.mono (by simp))
    have hlt2 : w.heap.size < w1.heap.size := by have := hb1.size; omega
    clear hb1
    go_wp2_with fail
    refine (refCube_any _ _ _).mono ?_
    rintro e w2 ⟨rfl, hb2⟩
    generalize refN s v = N at *
    obtain ⟨hc2, hf2⟩ := bcell hb2
    have hB2 := hB.trans (hb2.mono (by omega))
    clear hb2 hB
    go_wp2
    go_ret
    exact ⟨rfl, hB2⟩
  · have hz : refN s v = 0 := refN_ok (by rw [ha0, ha])
    clear ha0
    cases ho : (o == 0)
    · have hx3 : x = 0 := by rw [hx]; simp [ruSet, ha, ho]
      subst hx3
      clear hx
      go_enter Tryd.func66, Tryd.ntmps66
      go_wp2_with fail
      refine (header_any _ _).mono ?_
      rintro e w' ⟨rfl, rfl⟩
      rw [hs]
      go_wp2_with fail
      refine (header_any _ _).mono ?_
      rintro e w' ⟨rfl, rfl⟩
      rw [hv]
      go_wp2_with fail
      refine (refCube_any _ _ _).mono ?_
      rintro e w1 ⟨rfl, hb1⟩
      rw [hn]
      obtain ⟨hc1, hf1⟩ := bcell hb1
      have hB := ((Below.refl w.heap.size w).alloc (Nat.le_refl _) (Obj.cells #[Value.int IntKind.i64 p, Value.int IntKind.i64 m, Value.int IntKind.i64 b, Value.int IntKind.i64 o, Value.int IntKind.i64 s, Value.int IntKind.i64 v] 71)).trans (hb1.mono (by simp))
      have hlt2 : w.heap.size < w1.heap.size := by have := hb1.size; omega
      clear hb1
      go_wp2_with fail
      refine (refCube_any _ _ _).mono ?_
      rintro e w2 ⟨rfl, hb2⟩
      rw [hz]
      obtain ⟨hc2, hf2⟩ := bcell hb2
      have hB2 := hB.trans (hb2.mono (by omega))
      clear hb2 hB
      go_wp2
      go_ret
      exact ⟨rfl, hB2⟩
    · have hz2 : x = if (s == 0) then 0 else 3 := by rw [hx]; simp [ruSet, ha, ho]
      clear hx
      cases hs0 : (s == 0)
      · rw [hs0] at hz2
        have hs1 : (s != 0) = true := by simpa using hs0
        simp only [Bool.false_eq_true, if_false] at hz2
        subst hz2
        go_enter Tryd.func66, Tryd.ntmps66
        go_wp2_with fail
        refine (header_any _ _).mono ?_
        rintro e w' ⟨rfl, rfl⟩
        rw [hs]
        go_wp2_with fail
        refine (header_any _ _).mono ?_
        rintro e w' ⟨rfl, rfl⟩
        rw [hv]
        go_wp2_with fail
        refine (refCube_any _ _ _).mono ?_
        rintro e w1 ⟨rfl, hb1⟩
        rw [hn]
        obtain ⟨hc1, hf1⟩ := bcell hb1
        have hB := ((Below.refl w.heap.size w).alloc (Nat.le_refl _) (Obj.cells #[Value.int IntKind.i64 p, Value.int IntKind.i64 m, Value.int IntKind.i64 b, Value.int IntKind.i64 o, Value.int IntKind.i64 s, Value.int IntKind.i64 v] 71)).trans (hb1.mono (by simp))
        have hlt2 : w.heap.size < w1.heap.size := by have := hb1.size; omega
        clear hb1
        go_wp2_with fail
        refine (refCube_any _ _ _).mono ?_
        rintro e w2 ⟨rfl, hb2⟩
        rw [hz]
        obtain ⟨hc2, hf2⟩ := bcell hb2
        have hB2 := hB.trans (hb2.mono (by omega))
        clear hb2 hB
        go_wp2
        go_ret
        exact ⟨rfl, hB2⟩
      · rw [hs0] at hz2
        have hs1 : (s != 0) = false := by simpa using hs0
        simp only [if_true] at hz2
        subst hz2
        go_enter Tryd.func66, Tryd.ntmps66
        go_wp2_with fail
        refine (header_any _ _).mono ?_
        rintro e w' ⟨rfl, rfl⟩
        rw [hs]
        go_wp2_with fail
        refine (header_any _ _).mono ?_
        rintro e w' ⟨rfl, rfl⟩
        rw [hv]
        go_wp2_with fail
        refine (refCube_any _ _ _).mono ?_
        rintro e w1 ⟨rfl, hb1⟩
        rw [hn]
        obtain ⟨hc1, hf1⟩ := bcell hb1
        have hB := ((Below.refl w.heap.size w).alloc (Nat.le_refl _) (Obj.cells #[Value.int IntKind.i64 p, Value.int IntKind.i64 m, Value.int IntKind.i64 b, Value.int IntKind.i64 o, Value.int IntKind.i64 s, Value.int IntKind.i64 v] 71)).trans (hb1.mono (by simp))
        have hlt2 : w.heap.size < w1.heap.size := by have := hb1.size; omega
        clear hb1
        go_wp2_with fail
        refine (refCube_any _ _ _).mono ?_
        rintro e w2 ⟨rfl, hb2⟩
        rw [hz]
        obtain ⟨hc2, hf2⟩ := bcell hb2
        have hB2 := hB.trans (hb2.mono (by omega))
        clear hb2 hB
        go_wp2
        go_ret
        exact ⟨rfl, hB2⟩

theorem refRule_any (p m b o s v : Int) (w : World) :
    Calls Tryd.prog 66 #[.agg #[.int .i64 p, .int .i64 m, .int .i64 b, .int .i64 o, .int .i64 s, .int .i64 v]] w fun e w' => e = .returned (.int .i64 (ruN p m b o s v)) ∧ Below w.heap.size w w' := by
  cases h1 : ruP p o
  · have e : ruN p m b o s v = 1 := by simp [ruN, ruIn, h1]
    rw [e]; exact refRule_prio p m b o s v w h1
  · cases h2 : rngB s v
    · have e : ruN p m b o s v = 1 := by simp [ruN, ruIn, h2]
      rw [e]; exact refRule_set p m b o s v w h1 h2
    · cases h3 : okB m b
      · have e : ruN p m b o s v = refN m b := by simp [ruN, ruIn, h1, h2, h3]
        rw [e]; exact refRule_cube p m b o s v w h1 h2 h3
      · exact refRule_end p m b o s v w h1 h2 h3 _ (by simp [ruN, ruIn, h1, h2, h3])
end Go.Proofs.YtfbocionnjlilacDoor
/- What the document's own Table answers, called with any table. -/
namespace Go.Proofs.YtfbocionnjlilacDoor
open Go.RowKit
set_option linter.unusedSimpArgs false

theorem to_badF {L : List Ru} {k : Nat} {r : Ru} (hk : k < L.length) (hr : L[k] = r) (h : tbTo L k = 0) (h2 : r.n ≠ 0) (h12 : L.length ≤ 12) : tbN L = r.n := by
  have e : tbTo L (k + 1) = r.n := by rw [tbTo, if_pos h, getD_at hk, hr, if_neg h2]
  rw [tbN, if_neg (by omega), ← e]
  exact to_le (by rw [e]; exact h2) hk
theorem to_clashF {L : List Ru} {k : Nat} {r : Ru} (hk : k < L.length) (hr : L[k] = r) (h : tbTo L k = 0) (h2 : r.n = 0) (h3 : (L.take k).any (fun a => keyB a r) = true) (h12 : L.length ≤ 12) : tbN L = 7 := by
  have e : tbTo L (k + 1) = 7 := by
    rw [tbTo, if_pos h, getD_at hk, hr, if_pos h2, h3]
    rfl
  rw [tbN, if_neg (by omega), ← e]
  exact to_le (by rw [e]; decide) hk
theorem to_nextF {L : List Ru} {k : Nat} {r : Ru} (hk : k < L.length) (hr : L[k] = r) (h : tbTo L k = 0) (h2 : r.n = 0) (h3 : (L.take k).any (fun a => keyB a r) = false) : tbTo L (k + 1) = 0 := by
  rw [tbTo, if_pos h, getD_at hk, hr, if_pos h2, h3]
  rfl
theorem tab_take {L : List Ru} {f : Ru → Bool} {q k : Nat} (hq : q < k) (hk : q < L.length) (h : f L[q] = true) : (L.take k).any f = true :=
  List.any_eq_true.2 ⟨_, List.mem_take_iff_getElem.2 ⟨q, by omega, rfl⟩, h⟩

set_option maxRecDepth 100000 in
set_option maxHeartbeats 4000000 in
theorem refTable_some (g o cap n : Nat) (L : List Ru) (w : World) (hc : RAt w g o L) (hn : L.length = n) (hl : n ≤ 12) :
    Calls Tryd.prog 46 #[.slice (some ⟨g, o, none⟩) n cap] w fun e w' => e = .returned (.int .i64 (tbN L)) ∧ Below w.heap.size w w' := by
  have HN : Hid (L.length = n) := hn
  clear hn
  go_enter Tryd.func46, Tryd.ntmps46
  go_wp2
  go_loopw [3] (fun i wr => ∃ k : Nat, k ≤ n ∧ i = .int .i64 k ∧ tbTo L k = 0 ∧ Below w.heap.size w wr) (fun i _ => n - (intOf i).toNat)
  case atStart => exact ⟨0, by omega, rfl, rfl, Below.refl _ _⟩
  case round =>
    obtain ⟨k, hk, rfl, hno, hB⟩ := hrel
    have HB : Hid (Below w.heap.size w wr) := hB
    have HNO : Hid (tbTo L k = 0) := hno
    clear hno
    by_cases hlt : k < n
    · obtain ⟨p, m, b, q, s, v, hkl, hL, q0, q1, q2, q3, q4, q5⟩ := (hc.later hB).at HN.out hlt
      have HL : Hid (L[k] = ⟨p, m, b, q, s, v⟩) := hL
      clear hL hB
      by_cases ho : ruN p m b q s v = 0
      · have HO : Hid (ruN p m b q s v = 0) := ho
        go_wp2_with fail
        refine (refRule_any _ _ _ _ _ _ _).mono ?_
        rintro e w1 ⟨rfl, hb1⟩
        rw [HO.out]
        have HB1 : Hid (Below w.heap.size w w1) := HB.out.trans (hb1.mono HB.out.size)
        clear hb1 q0 q1 q2 q3 q4 q5 ho
        go_wp2
        go_loopw [5] (fun j w2 => ∃ t : Nat, t ≤ k ∧ j = .int .i64 t ∧ (L.take t).any (fun a => keyB a ⟨p, m, b, q, s, v⟩) = false ∧ Below w.heap.size w w2) (fun j _ => k - (intOf j).toNat)
        case atStart => exact ⟨0, by omega, rfl, by simp, HB1.out⟩
        case round =>
          obtain ⟨t, ht, rfl, hany, hB2⟩ := hrel
          have HANY : Hid ((L.take t).any (fun a => keyB a ⟨p, m, b, q, s, v⟩) = false) := hany
          have HB2 : Hid (Below w.heap.size w wr) := hB2
          clear hany
          by_cases hq : t < k
          · obtain ⟨p4, m4, b4, o4, s4, v4, htl, hLt, y0, y1, y2, y3, y4, y5⟩ := (hc.later hB2).at HN.out (show t < n by omega)
            obtain ⟨p5, m5, b5, o5, s5, v5, _, hLk, r0, r1, r2, r3, r4, r5⟩ := (hc.later hB2).at HN.out hlt
            rw [HL.out] at hLk
            simp only [Ru.mk.injEq] at hLk
            obtain ⟨rfl, rfl, rfl, rfl, rfl, rfl⟩ := hLk
            have HLT : Hid (L[t] = ⟨p4, m4, b4, o4, s4, v4⟩) := hLt
            have HCE : Hid (CD w g (o + t * 6) p4 m4 b4 o4 s4 v4 g (o + k * 6) p m b q s v wr) := ⟨hB2, ⟨y0, y1, y2, y3, y4, y5⟩, r0, r1, r2, r3, r4, r5⟩
            clear y0 y1 y2 y3 y4 y5 r0 r1 r2 r3 r4 r5 hLt hB2
            go_upto_region 12 with fail
            have tb0 : (0 : Int) ≤ (t : Int) := by omega
            have tb1 : (t : Int) < (n : Int) := by omega
            have kb0 : (0 : Int) ≤ (k : Int) := by omega
            have kb1 : (k : Int) < (n : Int) := by omega
            go_cut [51] from 23 to 51 (fun c w' => c = .bool (keyB ⟨p4, m4, b4, o4, s4, v4⟩ ⟨p, m, b, q, s, v⟩) ∧ Below w.heap.size w w')
            case first =>
              as_aux_lemma =>
                by_cases e1 : p4 = p
                · have f1 : (p4 == p) = true := by simpa using e1
                  by_cases e2 : m4 = m ∧ b4 = b
                  · obtain ⟨e2, e3⟩ := e2
                    have hky : keyB ⟨p4, m4, b4, o4, s4, v4⟩ ⟨p, m, b, q, s, v⟩ = true := by rw [key_eq]; simp [e1, e2, e3]
                    have f2 : (m4 == m) = true := by simpa using e2
                    have f3 : (b4 == b) = true := by simpa using e3
                    have hC0 := HCE.out
                    clear e1 e2 e3
                    refine wp_region_quiet (C := CD w g (o + t * 6) p4 m4 b4 o4 s4 v4 g (o + k * 6) p m b q s v) (by kernel_rfl) (by kernel_rfl) (CD.later (W := wr) (Below.drew (Below.refl _ _)) hC0) ?_
                    simp only [List.toList_toArray]
                    go_big_quiet_want
                    refine quiet_val (v := .slice (some ⟨g, o, none⟩) n cap) (fun w' hC => ?_) ?_
                    · obtain ⟨z0, ⟨z1, z2, z3, z4, z5, z6⟩, y1, y2, y3, y4, y5, y6⟩ := hC
                      go_simp
                    simp only [Act.put, List.setIfInBounds_toArray, List.set_cons_zero, List.set_cons_succ]
                    go_big_quiet_on
                    go_big_quiet_want
                    refine quiet_val (v := .int .i64 (t : Int)) (fun w' hC => ?_) ?_
                    · obtain ⟨z0, ⟨z1, z2, z3, z4, z5, z6⟩, y1, y2, y3, y4, y5, y6⟩ := hC
                      go_simp
                    simp only [Act.put, List.setIfInBounds_toArray, List.set_cons_zero, List.set_cons_succ]
                    go_big_quiet_on
                    go_big_quiet_want
                    refine quiet_val (v := .pointer (some ⟨g, o + t * 6, none⟩)) (fun w' hC => ?_) ?_
                    · obtain ⟨z0, ⟨z1, z2, z3, z4, z5, z6⟩, y1, y2, y3, y4, y5, y6⟩ := hC
                      go_simp
                    simp only [Act.put, List.setIfInBounds_toArray, List.set_cons_zero, List.set_cons_succ]
                    go_big_quiet_on
                    go_big_quiet_want
                    refine quiet_val (v := .pointer (some ⟨g, o + t * 6, none⟩)) (fun w' hC => ?_) ?_
                    · obtain ⟨z0, ⟨z1, z2, z3, z4, z5, z6⟩, y1, y2, y3, y4, y5, y6⟩ := hC
                      go_simp
                    simp only [Act.put, List.setIfInBounds_toArray, List.set_cons_zero, List.set_cons_succ]
                    go_big_quiet_on
                    go_big_quiet_want
                    refine quiet_val (v := .int .i64 p4) (fun w' hC => ?_) ?_
                    · obtain ⟨z0, ⟨z1, z2, z3, z4, z5, z6⟩, y1, y2, y3, y4, y5, y6⟩ := hC
                      go_simp
                    simp only [Act.put, List.setIfInBounds_toArray, List.set_cons_zero, List.set_cons_succ]
                    go_big_quiet_on
                    go_big_quiet_want
                    refine quiet_val (v := .slice (some ⟨g, o, none⟩) n cap) (fun w' hC => ?_) ?_
                    · obtain ⟨z0, ⟨z1, z2, z3, z4, z5, z6⟩, y1, y2, y3, y4, y5, y6⟩ := hC
                      go_simp
                    simp only [Act.put, List.setIfInBounds_toArray, List.set_cons_zero, List.set_cons_succ]
                    go_big_quiet_on
                    go_big_quiet_want
                    refine quiet_val (v := .int .i64 (k : Int)) (fun w' hC => ?_) ?_
                    · obtain ⟨z0, ⟨z1, z2, z3, z4, z5, z6⟩, y1, y2, y3, y4, y5, y6⟩ := hC
                      go_simp
                    simp only [Act.put, List.setIfInBounds_toArray, List.set_cons_zero, List.set_cons_succ]
                    go_big_quiet_on
                    go_big_quiet_want
                    refine quiet_val (v := .pointer (some ⟨g, o + k * 6, none⟩)) (fun w' hC => ?_) ?_
                    · obtain ⟨z0, ⟨z1, z2, z3, z4, z5, z6⟩, y1, y2, y3, y4, y5, y6⟩ := hC
                      go_simp
                    simp only [Act.put, List.setIfInBounds_toArray, List.set_cons_zero, List.set_cons_succ]
                    go_big_quiet_on
                    go_big_quiet_want
                    refine quiet_val (v := .pointer (some ⟨g, o + k * 6, none⟩)) (fun w' hC => ?_) ?_
                    · obtain ⟨z0, ⟨z1, z2, z3, z4, z5, z6⟩, y1, y2, y3, y4, y5, y6⟩ := hC
                      go_simp
                    simp only [Act.put, List.setIfInBounds_toArray, List.set_cons_zero, List.set_cons_succ]
                    go_big_quiet_on
                    go_big_quiet_want
                    refine quiet_val (v := .int .i64 p) (fun w' hC => ?_) ?_
                    · obtain ⟨z0, ⟨z1, z2, z3, z4, z5, z6⟩, y1, y2, y3, y4, y5, y6⟩ := hC
                      go_simp
                    simp only [Act.put, List.setIfInBounds_toArray, List.set_cons_zero, List.set_cons_succ]
                    go_big_quiet_on
                    go_big_quiet_want
                    refine quiet_val (v := .bool true) (fun w' hC => ?_) ?_
                    · obtain ⟨z0, ⟨z1, z2, z3, z4, z5, z6⟩, y1, y2, y3, y4, y5, y6⟩ := hC
                      go_simp
                    simp only [Act.put, List.setIfInBounds_toArray, List.set_cons_zero, List.set_cons_succ]
                    go_big_quiet_on
                    go_big_quiet_want
                    refine quiet_val (v := .bool true) (fun w' hC => ?_) ?_
                    · obtain ⟨z0, ⟨z1, z2, z3, z4, z5, z6⟩, y1, y2, y3, y4, y5, y6⟩ := hC
                      go_simp
                    simp only [Act.put, List.setIfInBounds_toArray, List.set_cons_zero, List.set_cons_succ]
                    go_big_quiet_on
                    go_big_quiet_want
                    refine quiet_val (v := .slice (some ⟨g, o, none⟩) n cap) (fun w' hC => ?_) ?_
                    · obtain ⟨z0, ⟨z1, z2, z3, z4, z5, z6⟩, y1, y2, y3, y4, y5, y6⟩ := hC
                      go_simp
                    simp only [Act.put, List.setIfInBounds_toArray, List.set_cons_zero, List.set_cons_succ]
                    go_big_quiet_on
                    go_big_quiet_want
                    refine quiet_val (v := .int .i64 (t : Int)) (fun w' hC => ?_) ?_
                    · obtain ⟨z0, ⟨z1, z2, z3, z4, z5, z6⟩, y1, y2, y3, y4, y5, y6⟩ := hC
                      go_simp
                    simp only [Act.put, List.setIfInBounds_toArray, List.set_cons_zero, List.set_cons_succ]
                    go_big_quiet_on
                    go_big_quiet_want
                    refine quiet_val (v := .pointer (some ⟨g, o + t * 6, none⟩)) (fun w' hC => ?_) ?_
                    · obtain ⟨z0, ⟨z1, z2, z3, z4, z5, z6⟩, y1, y2, y3, y4, y5, y6⟩ := hC
                      go_simp
                    simp only [Act.put, List.setIfInBounds_toArray, List.set_cons_zero, List.set_cons_succ]
                    go_big_quiet_on
                    go_big_quiet_want
                    refine quiet_val (v := .pointer (some ⟨g, o + t * 6 + 1, none⟩)) (fun w' hC => ?_) ?_
                    · obtain ⟨z0, ⟨z1, z2, z3, z4, z5, z6⟩, y1, y2, y3, y4, y5, y6⟩ := hC
                      go_simp
                    simp only [Act.put, List.setIfInBounds_toArray, List.set_cons_zero, List.set_cons_succ]
                    go_big_quiet_on
                    go_big_quiet_want
                    refine quiet_val (v := .agg #[.int .i64 m4, .int .i64 b4]) (fun w' hC => ?_) ?_
                    · obtain ⟨z0, ⟨z1, z2, z3, z4, z5, z6⟩, y1, y2, y3, y4, y5, y6⟩ := hC
                      go_simp
                    simp only [Act.put, List.setIfInBounds_toArray, List.set_cons_zero, List.set_cons_succ]
                    go_big_quiet_on
                    go_big_quiet_want
                    refine quiet_val (v := .slice (some ⟨g, o, none⟩) n cap) (fun w' hC => ?_) ?_
                    · obtain ⟨z0, ⟨z1, z2, z3, z4, z5, z6⟩, y1, y2, y3, y4, y5, y6⟩ := hC
                      go_simp
                    simp only [Act.put, List.setIfInBounds_toArray, List.set_cons_zero, List.set_cons_succ]
                    go_big_quiet_on
                    go_big_quiet_want
                    refine quiet_val (v := .int .i64 (k : Int)) (fun w' hC => ?_) ?_
                    · obtain ⟨z0, ⟨z1, z2, z3, z4, z5, z6⟩, y1, y2, y3, y4, y5, y6⟩ := hC
                      go_simp
                    simp only [Act.put, List.setIfInBounds_toArray, List.set_cons_zero, List.set_cons_succ]
                    go_big_quiet_on
                    go_big_quiet_want
                    refine quiet_val (v := .pointer (some ⟨g, o + k * 6, none⟩)) (fun w' hC => ?_) ?_
                    · obtain ⟨z0, ⟨z1, z2, z3, z4, z5, z6⟩, y1, y2, y3, y4, y5, y6⟩ := hC
                      go_simp
                    simp only [Act.put, List.setIfInBounds_toArray, List.set_cons_zero, List.set_cons_succ]
                    go_big_quiet_on
                    go_big_quiet_want
                    refine quiet_val (v := .pointer (some ⟨g, o + k * 6 + 1, none⟩)) (fun w' hC => ?_) ?_
                    · obtain ⟨z0, ⟨z1, z2, z3, z4, z5, z6⟩, y1, y2, y3, y4, y5, y6⟩ := hC
                      go_simp
                    simp only [Act.put, List.setIfInBounds_toArray, List.set_cons_zero, List.set_cons_succ]
                    go_big_quiet_on
                    go_big_quiet_want
                    refine quiet_val (v := .agg #[.int .i64 m, .int .i64 b]) (fun w' hC => ?_) ?_
                    · obtain ⟨z0, ⟨z1, z2, z3, z4, z5, z6⟩, y1, y2, y3, y4, y5, y6⟩ := hC
                      go_simp
                    simp only [Act.put, List.setIfInBounds_toArray, List.set_cons_zero, List.set_cons_succ]
                    go_big_quiet_on
                    go_big_quiet_want
                    refine quiet_val (v := .bool true) (fun w' hC => ?_) ?_
                    · obtain ⟨z0, ⟨z1, z2, z3, z4, z5, z6⟩, y1, y2, y3, y4, y5, y6⟩ := hC
                      go_simp
                    simp only [Act.put, List.setIfInBounds_toArray, List.set_cons_zero, List.set_cons_succ]
                    go_big_quiet_on
                    go_big_quiet_want
                    refine quiet_val (v := .bool true) (fun w' hC => ?_) ?_
                    · obtain ⟨z0, ⟨z1, z2, z3, z4, z5, z6⟩, y1, y2, y3, y4, y5, y6⟩ := hC
                      go_simp
                    simp only [Act.put, List.setIfInBounds_toArray, List.set_cons_zero, List.set_cons_succ]
                    go_big_quiet_on
                    refine wpQuiet_nil ?_
                    intro w' hC
                    go_wp2_with fail
                    go_meet
                    case rel => exact ⟨by rw [hky], hC.1⟩
                  · have hky : keyB ⟨p4, m4, b4, o4, s4, v4⟩ ⟨p, m, b, q, s, v⟩ = false := by
                      rw [key_eq]
                      simp only [e1, decide_true, Bool.true_and, Bool.and_eq_false_iff, decide_eq_false_iff_not]
                      by_cases e3 : m4 = m
                      · exact .inr fun e4 => e2 ⟨e3, e4⟩
                      · exact .inl e3
                    by_cases e3 : m4 = m
                    · have f3 : ¬ b4 = b := fun e4 => e2 ⟨e3, e4⟩
                      have f2 : (m4 == m) = true := by simpa using e3
                      have f4 : (b4 == b) = false := by simpa using f3
                      clear e2
                      have hC0 := HCE.out
                      clear e1
                      refine wp_region_quiet (C := CD w g (o + t * 6) p4 m4 b4 o4 s4 v4 g (o + k * 6) p m b q s v) (by kernel_rfl) (by kernel_rfl) (CD.later (W := wr) (Below.drew (Below.refl _ _)) hC0) ?_
                      simp only [List.toList_toArray]
                      go_big_quiet_want
                      refine quiet_val (v := .slice (some ⟨g, o, none⟩) n cap) (fun w' hC => ?_) ?_
                      · obtain ⟨z0, ⟨z1, z2, z3, z4, z5, z6⟩, y1, y2, y3, y4, y5, y6⟩ := hC
                        go_simp
                      simp only [Act.put, List.setIfInBounds_toArray, List.set_cons_zero, List.set_cons_succ]
                      go_big_quiet_on
                      go_big_quiet_want
                      refine quiet_val (v := .int .i64 (t : Int)) (fun w' hC => ?_) ?_
                      · obtain ⟨z0, ⟨z1, z2, z3, z4, z5, z6⟩, y1, y2, y3, y4, y5, y6⟩ := hC
                        go_simp
                      simp only [Act.put, List.setIfInBounds_toArray, List.set_cons_zero, List.set_cons_succ]
                      go_big_quiet_on
                      go_big_quiet_want
                      refine quiet_val (v := .pointer (some ⟨g, o + t * 6, none⟩)) (fun w' hC => ?_) ?_
                      · obtain ⟨z0, ⟨z1, z2, z3, z4, z5, z6⟩, y1, y2, y3, y4, y5, y6⟩ := hC
                        go_simp
                      simp only [Act.put, List.setIfInBounds_toArray, List.set_cons_zero, List.set_cons_succ]
                      go_big_quiet_on
                      go_big_quiet_want
                      refine quiet_val (v := .pointer (some ⟨g, o + t * 6, none⟩)) (fun w' hC => ?_) ?_
                      · obtain ⟨z0, ⟨z1, z2, z3, z4, z5, z6⟩, y1, y2, y3, y4, y5, y6⟩ := hC
                        go_simp
                      simp only [Act.put, List.setIfInBounds_toArray, List.set_cons_zero, List.set_cons_succ]
                      go_big_quiet_on
                      go_big_quiet_want
                      refine quiet_val (v := .int .i64 p4) (fun w' hC => ?_) ?_
                      · obtain ⟨z0, ⟨z1, z2, z3, z4, z5, z6⟩, y1, y2, y3, y4, y5, y6⟩ := hC
                        go_simp
                      simp only [Act.put, List.setIfInBounds_toArray, List.set_cons_zero, List.set_cons_succ]
                      go_big_quiet_on
                      go_big_quiet_want
                      refine quiet_val (v := .slice (some ⟨g, o, none⟩) n cap) (fun w' hC => ?_) ?_
                      · obtain ⟨z0, ⟨z1, z2, z3, z4, z5, z6⟩, y1, y2, y3, y4, y5, y6⟩ := hC
                        go_simp
                      simp only [Act.put, List.setIfInBounds_toArray, List.set_cons_zero, List.set_cons_succ]
                      go_big_quiet_on
                      go_big_quiet_want
                      refine quiet_val (v := .int .i64 (k : Int)) (fun w' hC => ?_) ?_
                      · obtain ⟨z0, ⟨z1, z2, z3, z4, z5, z6⟩, y1, y2, y3, y4, y5, y6⟩ := hC
                        go_simp
                      simp only [Act.put, List.setIfInBounds_toArray, List.set_cons_zero, List.set_cons_succ]
                      go_big_quiet_on
                      go_big_quiet_want
                      refine quiet_val (v := .pointer (some ⟨g, o + k * 6, none⟩)) (fun w' hC => ?_) ?_
                      · obtain ⟨z0, ⟨z1, z2, z3, z4, z5, z6⟩, y1, y2, y3, y4, y5, y6⟩ := hC
                        go_simp
                      simp only [Act.put, List.setIfInBounds_toArray, List.set_cons_zero, List.set_cons_succ]
                      go_big_quiet_on
                      go_big_quiet_want
                      refine quiet_val (v := .pointer (some ⟨g, o + k * 6, none⟩)) (fun w' hC => ?_) ?_
                      · obtain ⟨z0, ⟨z1, z2, z3, z4, z5, z6⟩, y1, y2, y3, y4, y5, y6⟩ := hC
                        go_simp
                      simp only [Act.put, List.setIfInBounds_toArray, List.set_cons_zero, List.set_cons_succ]
                      go_big_quiet_on
                      go_big_quiet_want
                      refine quiet_val (v := .int .i64 p) (fun w' hC => ?_) ?_
                      · obtain ⟨z0, ⟨z1, z2, z3, z4, z5, z6⟩, y1, y2, y3, y4, y5, y6⟩ := hC
                        go_simp
                      simp only [Act.put, List.setIfInBounds_toArray, List.set_cons_zero, List.set_cons_succ]
                      go_big_quiet_on
                      go_big_quiet_want
                      refine quiet_val (v := .bool true) (fun w' hC => ?_) ?_
                      · obtain ⟨z0, ⟨z1, z2, z3, z4, z5, z6⟩, y1, y2, y3, y4, y5, y6⟩ := hC
                        go_simp
                      simp only [Act.put, List.setIfInBounds_toArray, List.set_cons_zero, List.set_cons_succ]
                      go_big_quiet_on
                      go_big_quiet_want
                      refine quiet_val (v := .bool true) (fun w' hC => ?_) ?_
                      · obtain ⟨z0, ⟨z1, z2, z3, z4, z5, z6⟩, y1, y2, y3, y4, y5, y6⟩ := hC
                        go_simp
                      simp only [Act.put, List.setIfInBounds_toArray, List.set_cons_zero, List.set_cons_succ]
                      go_big_quiet_on
                      go_big_quiet_want
                      refine quiet_val (v := .slice (some ⟨g, o, none⟩) n cap) (fun w' hC => ?_) ?_
                      · obtain ⟨z0, ⟨z1, z2, z3, z4, z5, z6⟩, y1, y2, y3, y4, y5, y6⟩ := hC
                        go_simp
                      simp only [Act.put, List.setIfInBounds_toArray, List.set_cons_zero, List.set_cons_succ]
                      go_big_quiet_on
                      go_big_quiet_want
                      refine quiet_val (v := .int .i64 (t : Int)) (fun w' hC => ?_) ?_
                      · obtain ⟨z0, ⟨z1, z2, z3, z4, z5, z6⟩, y1, y2, y3, y4, y5, y6⟩ := hC
                        go_simp
                      simp only [Act.put, List.setIfInBounds_toArray, List.set_cons_zero, List.set_cons_succ]
                      go_big_quiet_on
                      go_big_quiet_want
                      refine quiet_val (v := .pointer (some ⟨g, o + t * 6, none⟩)) (fun w' hC => ?_) ?_
                      · obtain ⟨z0, ⟨z1, z2, z3, z4, z5, z6⟩, y1, y2, y3, y4, y5, y6⟩ := hC
                        go_simp
                      simp only [Act.put, List.setIfInBounds_toArray, List.set_cons_zero, List.set_cons_succ]
                      go_big_quiet_on
                      go_big_quiet_want
                      refine quiet_val (v := .pointer (some ⟨g, o + t * 6 + 1, none⟩)) (fun w' hC => ?_) ?_
                      · obtain ⟨z0, ⟨z1, z2, z3, z4, z5, z6⟩, y1, y2, y3, y4, y5, y6⟩ := hC
                        go_simp
                      simp only [Act.put, List.setIfInBounds_toArray, List.set_cons_zero, List.set_cons_succ]
                      go_big_quiet_on
                      go_big_quiet_want
                      refine quiet_val (v := .agg #[.int .i64 m4, .int .i64 b4]) (fun w' hC => ?_) ?_
                      · obtain ⟨z0, ⟨z1, z2, z3, z4, z5, z6⟩, y1, y2, y3, y4, y5, y6⟩ := hC
                        go_simp
                      simp only [Act.put, List.setIfInBounds_toArray, List.set_cons_zero, List.set_cons_succ]
                      go_big_quiet_on
                      go_big_quiet_want
                      refine quiet_val (v := .slice (some ⟨g, o, none⟩) n cap) (fun w' hC => ?_) ?_
                      · obtain ⟨z0, ⟨z1, z2, z3, z4, z5, z6⟩, y1, y2, y3, y4, y5, y6⟩ := hC
                        go_simp
                      simp only [Act.put, List.setIfInBounds_toArray, List.set_cons_zero, List.set_cons_succ]
                      go_big_quiet_on
                      go_big_quiet_want
                      refine quiet_val (v := .int .i64 (k : Int)) (fun w' hC => ?_) ?_
                      · obtain ⟨z0, ⟨z1, z2, z3, z4, z5, z6⟩, y1, y2, y3, y4, y5, y6⟩ := hC
                        go_simp
                      simp only [Act.put, List.setIfInBounds_toArray, List.set_cons_zero, List.set_cons_succ]
                      go_big_quiet_on
                      go_big_quiet_want
                      refine quiet_val (v := .pointer (some ⟨g, o + k * 6, none⟩)) (fun w' hC => ?_) ?_
                      · obtain ⟨z0, ⟨z1, z2, z3, z4, z5, z6⟩, y1, y2, y3, y4, y5, y6⟩ := hC
                        go_simp
                      simp only [Act.put, List.setIfInBounds_toArray, List.set_cons_zero, List.set_cons_succ]
                      go_big_quiet_on
                      go_big_quiet_want
                      refine quiet_val (v := .pointer (some ⟨g, o + k * 6 + 1, none⟩)) (fun w' hC => ?_) ?_
                      · obtain ⟨z0, ⟨z1, z2, z3, z4, z5, z6⟩, y1, y2, y3, y4, y5, y6⟩ := hC
                        go_simp
                      simp only [Act.put, List.setIfInBounds_toArray, List.set_cons_zero, List.set_cons_succ]
                      go_big_quiet_on
                      go_big_quiet_want
                      refine quiet_val (v := .agg #[.int .i64 m, .int .i64 b]) (fun w' hC => ?_) ?_
                      · obtain ⟨z0, ⟨z1, z2, z3, z4, z5, z6⟩, y1, y2, y3, y4, y5, y6⟩ := hC
                        go_simp
                      simp only [Act.put, List.setIfInBounds_toArray, List.set_cons_zero, List.set_cons_succ]
                      go_big_quiet_on
                      go_big_quiet_want
                      refine quiet_val (v := .bool false) (fun w' hC => ?_) ?_
                      · obtain ⟨z0, ⟨z1, z2, z3, z4, z5, z6⟩, y1, y2, y3, y4, y5, y6⟩ := hC
                        go_simp
                      simp only [Act.put, List.setIfInBounds_toArray, List.set_cons_zero, List.set_cons_succ]
                      go_big_quiet_on
                      go_big_quiet_want
                      refine quiet_val (v := .bool false) (fun w' hC => ?_) ?_
                      · obtain ⟨z0, ⟨z1, z2, z3, z4, z5, z6⟩, y1, y2, y3, y4, y5, y6⟩ := hC
                        go_simp
                      simp only [Act.put, List.setIfInBounds_toArray, List.set_cons_zero, List.set_cons_succ]
                      go_big_quiet_on
                      refine wpQuiet_nil ?_
                      intro w' hC
                      go_wp2_with fail
                      go_meet
                      case rel => exact ⟨by rw [hky], hC.1⟩
                    · have f2 : (m4 == m) = false := by simpa using e3
                      clear e2
                      have hC0 := HCE.out
                      clear e1
                      refine wp_region_quiet (C := CD w g (o + t * 6) p4 m4 b4 o4 s4 v4 g (o + k * 6) p m b q s v) (by kernel_rfl) (by kernel_rfl) (CD.later (W := wr) (Below.drew (Below.refl _ _)) hC0) ?_
                      simp only [List.toList_toArray]
                      go_big_quiet_want
                      refine quiet_val (v := .slice (some ⟨g, o, none⟩) n cap) (fun w' hC => ?_) ?_
                      · obtain ⟨z0, ⟨z1, z2, z3, z4, z5, z6⟩, y1, y2, y3, y4, y5, y6⟩ := hC
                        go_simp
                      simp only [Act.put, List.setIfInBounds_toArray, List.set_cons_zero, List.set_cons_succ]
                      go_big_quiet_on
                      go_big_quiet_want
                      refine quiet_val (v := .int .i64 (t : Int)) (fun w' hC => ?_) ?_
                      · obtain ⟨z0, ⟨z1, z2, z3, z4, z5, z6⟩, y1, y2, y3, y4, y5, y6⟩ := hC
                        go_simp
                      simp only [Act.put, List.setIfInBounds_toArray, List.set_cons_zero, List.set_cons_succ]
                      go_big_quiet_on
                      go_big_quiet_want
                      refine quiet_val (v := .pointer (some ⟨g, o + t * 6, none⟩)) (fun w' hC => ?_) ?_
                      · obtain ⟨z0, ⟨z1, z2, z3, z4, z5, z6⟩, y1, y2, y3, y4, y5, y6⟩ := hC
                        go_simp
                      simp only [Act.put, List.setIfInBounds_toArray, List.set_cons_zero, List.set_cons_succ]
                      go_big_quiet_on
                      go_big_quiet_want
                      refine quiet_val (v := .pointer (some ⟨g, o + t * 6, none⟩)) (fun w' hC => ?_) ?_
                      · obtain ⟨z0, ⟨z1, z2, z3, z4, z5, z6⟩, y1, y2, y3, y4, y5, y6⟩ := hC
                        go_simp
                      simp only [Act.put, List.setIfInBounds_toArray, List.set_cons_zero, List.set_cons_succ]
                      go_big_quiet_on
                      go_big_quiet_want
                      refine quiet_val (v := .int .i64 p4) (fun w' hC => ?_) ?_
                      · obtain ⟨z0, ⟨z1, z2, z3, z4, z5, z6⟩, y1, y2, y3, y4, y5, y6⟩ := hC
                        go_simp
                      simp only [Act.put, List.setIfInBounds_toArray, List.set_cons_zero, List.set_cons_succ]
                      go_big_quiet_on
                      go_big_quiet_want
                      refine quiet_val (v := .slice (some ⟨g, o, none⟩) n cap) (fun w' hC => ?_) ?_
                      · obtain ⟨z0, ⟨z1, z2, z3, z4, z5, z6⟩, y1, y2, y3, y4, y5, y6⟩ := hC
                        go_simp
                      simp only [Act.put, List.setIfInBounds_toArray, List.set_cons_zero, List.set_cons_succ]
                      go_big_quiet_on
                      go_big_quiet_want
                      refine quiet_val (v := .int .i64 (k : Int)) (fun w' hC => ?_) ?_
                      · obtain ⟨z0, ⟨z1, z2, z3, z4, z5, z6⟩, y1, y2, y3, y4, y5, y6⟩ := hC
                        go_simp
                      simp only [Act.put, List.setIfInBounds_toArray, List.set_cons_zero, List.set_cons_succ]
                      go_big_quiet_on
                      go_big_quiet_want
                      refine quiet_val (v := .pointer (some ⟨g, o + k * 6, none⟩)) (fun w' hC => ?_) ?_
                      · obtain ⟨z0, ⟨z1, z2, z3, z4, z5, z6⟩, y1, y2, y3, y4, y5, y6⟩ := hC
                        go_simp
                      simp only [Act.put, List.setIfInBounds_toArray, List.set_cons_zero, List.set_cons_succ]
                      go_big_quiet_on
                      go_big_quiet_want
                      refine quiet_val (v := .pointer (some ⟨g, o + k * 6, none⟩)) (fun w' hC => ?_) ?_
                      · obtain ⟨z0, ⟨z1, z2, z3, z4, z5, z6⟩, y1, y2, y3, y4, y5, y6⟩ := hC
                        go_simp
                      simp only [Act.put, List.setIfInBounds_toArray, List.set_cons_zero, List.set_cons_succ]
                      go_big_quiet_on
                      go_big_quiet_want
                      refine quiet_val (v := .int .i64 p) (fun w' hC => ?_) ?_
                      · obtain ⟨z0, ⟨z1, z2, z3, z4, z5, z6⟩, y1, y2, y3, y4, y5, y6⟩ := hC
                        go_simp
                      simp only [Act.put, List.setIfInBounds_toArray, List.set_cons_zero, List.set_cons_succ]
                      go_big_quiet_on
                      go_big_quiet_want
                      refine quiet_val (v := .bool true) (fun w' hC => ?_) ?_
                      · obtain ⟨z0, ⟨z1, z2, z3, z4, z5, z6⟩, y1, y2, y3, y4, y5, y6⟩ := hC
                        go_simp
                      simp only [Act.put, List.setIfInBounds_toArray, List.set_cons_zero, List.set_cons_succ]
                      go_big_quiet_on
                      go_big_quiet_want
                      refine quiet_val (v := .bool true) (fun w' hC => ?_) ?_
                      · obtain ⟨z0, ⟨z1, z2, z3, z4, z5, z6⟩, y1, y2, y3, y4, y5, y6⟩ := hC
                        go_simp
                      simp only [Act.put, List.setIfInBounds_toArray, List.set_cons_zero, List.set_cons_succ]
                      go_big_quiet_on
                      go_big_quiet_want
                      refine quiet_val (v := .slice (some ⟨g, o, none⟩) n cap) (fun w' hC => ?_) ?_
                      · obtain ⟨z0, ⟨z1, z2, z3, z4, z5, z6⟩, y1, y2, y3, y4, y5, y6⟩ := hC
                        go_simp
                      simp only [Act.put, List.setIfInBounds_toArray, List.set_cons_zero, List.set_cons_succ]
                      go_big_quiet_on
                      go_big_quiet_want
                      refine quiet_val (v := .int .i64 (t : Int)) (fun w' hC => ?_) ?_
                      · obtain ⟨z0, ⟨z1, z2, z3, z4, z5, z6⟩, y1, y2, y3, y4, y5, y6⟩ := hC
                        go_simp
                      simp only [Act.put, List.setIfInBounds_toArray, List.set_cons_zero, List.set_cons_succ]
                      go_big_quiet_on
                      go_big_quiet_want
                      refine quiet_val (v := .pointer (some ⟨g, o + t * 6, none⟩)) (fun w' hC => ?_) ?_
                      · obtain ⟨z0, ⟨z1, z2, z3, z4, z5, z6⟩, y1, y2, y3, y4, y5, y6⟩ := hC
                        go_simp
                      simp only [Act.put, List.setIfInBounds_toArray, List.set_cons_zero, List.set_cons_succ]
                      go_big_quiet_on
                      go_big_quiet_want
                      refine quiet_val (v := .pointer (some ⟨g, o + t * 6 + 1, none⟩)) (fun w' hC => ?_) ?_
                      · obtain ⟨z0, ⟨z1, z2, z3, z4, z5, z6⟩, y1, y2, y3, y4, y5, y6⟩ := hC
                        go_simp
                      simp only [Act.put, List.setIfInBounds_toArray, List.set_cons_zero, List.set_cons_succ]
                      go_big_quiet_on
                      go_big_quiet_want
                      refine quiet_val (v := .agg #[.int .i64 m4, .int .i64 b4]) (fun w' hC => ?_) ?_
                      · obtain ⟨z0, ⟨z1, z2, z3, z4, z5, z6⟩, y1, y2, y3, y4, y5, y6⟩ := hC
                        go_simp
                      simp only [Act.put, List.setIfInBounds_toArray, List.set_cons_zero, List.set_cons_succ]
                      go_big_quiet_on
                      go_big_quiet_want
                      refine quiet_val (v := .slice (some ⟨g, o, none⟩) n cap) (fun w' hC => ?_) ?_
                      · obtain ⟨z0, ⟨z1, z2, z3, z4, z5, z6⟩, y1, y2, y3, y4, y5, y6⟩ := hC
                        go_simp
                      simp only [Act.put, List.setIfInBounds_toArray, List.set_cons_zero, List.set_cons_succ]
                      go_big_quiet_on
                      go_big_quiet_want
                      refine quiet_val (v := .int .i64 (k : Int)) (fun w' hC => ?_) ?_
                      · obtain ⟨z0, ⟨z1, z2, z3, z4, z5, z6⟩, y1, y2, y3, y4, y5, y6⟩ := hC
                        go_simp
                      simp only [Act.put, List.setIfInBounds_toArray, List.set_cons_zero, List.set_cons_succ]
                      go_big_quiet_on
                      go_big_quiet_want
                      refine quiet_val (v := .pointer (some ⟨g, o + k * 6, none⟩)) (fun w' hC => ?_) ?_
                      · obtain ⟨z0, ⟨z1, z2, z3, z4, z5, z6⟩, y1, y2, y3, y4, y5, y6⟩ := hC
                        go_simp
                      simp only [Act.put, List.setIfInBounds_toArray, List.set_cons_zero, List.set_cons_succ]
                      go_big_quiet_on
                      go_big_quiet_want
                      refine quiet_val (v := .pointer (some ⟨g, o + k * 6 + 1, none⟩)) (fun w' hC => ?_) ?_
                      · obtain ⟨z0, ⟨z1, z2, z3, z4, z5, z6⟩, y1, y2, y3, y4, y5, y6⟩ := hC
                        go_simp
                      simp only [Act.put, List.setIfInBounds_toArray, List.set_cons_zero, List.set_cons_succ]
                      go_big_quiet_on
                      go_big_quiet_want
                      refine quiet_val (v := .agg #[.int .i64 m, .int .i64 b]) (fun w' hC => ?_) ?_
                      · obtain ⟨z0, ⟨z1, z2, z3, z4, z5, z6⟩, y1, y2, y3, y4, y5, y6⟩ := hC
                        go_simp
                      simp only [Act.put, List.setIfInBounds_toArray, List.set_cons_zero, List.set_cons_succ]
                      go_big_quiet_on
                      go_big_quiet_want
                      refine quiet_val (v := .bool false) (fun w' hC => ?_) ?_
                      · obtain ⟨z0, ⟨z1, z2, z3, z4, z5, z6⟩, y1, y2, y3, y4, y5, y6⟩ := hC
                        go_simp
                      simp only [Act.put, List.setIfInBounds_toArray, List.set_cons_zero, List.set_cons_succ]
                      go_big_quiet_on
                      go_big_quiet_want
                      refine quiet_val (v := .bool false) (fun w' hC => ?_) ?_
                      · obtain ⟨z0, ⟨z1, z2, z3, z4, z5, z6⟩, y1, y2, y3, y4, y5, y6⟩ := hC
                        go_simp
                      simp only [Act.put, List.setIfInBounds_toArray, List.set_cons_zero, List.set_cons_succ]
                      go_big_quiet_on
                      refine wpQuiet_nil ?_
                      intro w' hC
                      go_wp2_with fail
                      go_meet
                      case rel => exact ⟨by rw [hky], hC.1⟩
                · have hky : keyB ⟨p4, m4, b4, o4, s4, v4⟩ ⟨p, m, b, q, s, v⟩ = false := by rw [key_eq]; simp [e1]
                  have f1 : (p4 == p) = false := by simpa using e1
                  have hC0 := HCE.out
                  clear e1
                  refine wp_region_quiet (C := CD w g (o + t * 6) p4 m4 b4 o4 s4 v4 g (o + k * 6) p m b q s v) (by kernel_rfl) (by kernel_rfl) (CD.later (W := wr) (Below.drew (Below.refl _ _)) hC0) ?_
                  simp only [List.toList_toArray]
                  go_big_quiet_want
                  refine quiet_val (v := .slice (some ⟨g, o, none⟩) n cap) (fun w' hC => ?_) ?_
                  · obtain ⟨z0, ⟨z1, z2, z3, z4, z5, z6⟩, y1, y2, y3, y4, y5, y6⟩ := hC
                    go_simp
                  simp only [Act.put, List.setIfInBounds_toArray, List.set_cons_zero, List.set_cons_succ]
                  go_big_quiet_on
                  go_big_quiet_want
                  refine quiet_val (v := .int .i64 (t : Int)) (fun w' hC => ?_) ?_
                  · obtain ⟨z0, ⟨z1, z2, z3, z4, z5, z6⟩, y1, y2, y3, y4, y5, y6⟩ := hC
                    go_simp
                  simp only [Act.put, List.setIfInBounds_toArray, List.set_cons_zero, List.set_cons_succ]
                  go_big_quiet_on
                  go_big_quiet_want
                  refine quiet_val (v := .pointer (some ⟨g, o + t * 6, none⟩)) (fun w' hC => ?_) ?_
                  · obtain ⟨z0, ⟨z1, z2, z3, z4, z5, z6⟩, y1, y2, y3, y4, y5, y6⟩ := hC
                    go_simp
                  simp only [Act.put, List.setIfInBounds_toArray, List.set_cons_zero, List.set_cons_succ]
                  go_big_quiet_on
                  go_big_quiet_want
                  refine quiet_val (v := .pointer (some ⟨g, o + t * 6, none⟩)) (fun w' hC => ?_) ?_
                  · obtain ⟨z0, ⟨z1, z2, z3, z4, z5, z6⟩, y1, y2, y3, y4, y5, y6⟩ := hC
                    go_simp
                  simp only [Act.put, List.setIfInBounds_toArray, List.set_cons_zero, List.set_cons_succ]
                  go_big_quiet_on
                  go_big_quiet_want
                  refine quiet_val (v := .int .i64 p4) (fun w' hC => ?_) ?_
                  · obtain ⟨z0, ⟨z1, z2, z3, z4, z5, z6⟩, y1, y2, y3, y4, y5, y6⟩ := hC
                    go_simp
                  simp only [Act.put, List.setIfInBounds_toArray, List.set_cons_zero, List.set_cons_succ]
                  go_big_quiet_on
                  go_big_quiet_want
                  refine quiet_val (v := .slice (some ⟨g, o, none⟩) n cap) (fun w' hC => ?_) ?_
                  · obtain ⟨z0, ⟨z1, z2, z3, z4, z5, z6⟩, y1, y2, y3, y4, y5, y6⟩ := hC
                    go_simp
                  simp only [Act.put, List.setIfInBounds_toArray, List.set_cons_zero, List.set_cons_succ]
                  go_big_quiet_on
                  go_big_quiet_want
                  refine quiet_val (v := .int .i64 (k : Int)) (fun w' hC => ?_) ?_
                  · obtain ⟨z0, ⟨z1, z2, z3, z4, z5, z6⟩, y1, y2, y3, y4, y5, y6⟩ := hC
                    go_simp
                  simp only [Act.put, List.setIfInBounds_toArray, List.set_cons_zero, List.set_cons_succ]
                  go_big_quiet_on
                  go_big_quiet_want
                  refine quiet_val (v := .pointer (some ⟨g, o + k * 6, none⟩)) (fun w' hC => ?_) ?_
                  · obtain ⟨z0, ⟨z1, z2, z3, z4, z5, z6⟩, y1, y2, y3, y4, y5, y6⟩ := hC
                    go_simp
                  simp only [Act.put, List.setIfInBounds_toArray, List.set_cons_zero, List.set_cons_succ]
                  go_big_quiet_on
                  go_big_quiet_want
                  refine quiet_val (v := .pointer (some ⟨g, o + k * 6, none⟩)) (fun w' hC => ?_) ?_
                  · obtain ⟨z0, ⟨z1, z2, z3, z4, z5, z6⟩, y1, y2, y3, y4, y5, y6⟩ := hC
                    go_simp
                  simp only [Act.put, List.setIfInBounds_toArray, List.set_cons_zero, List.set_cons_succ]
                  go_big_quiet_on
                  go_big_quiet_want
                  refine quiet_val (v := .int .i64 p) (fun w' hC => ?_) ?_
                  · obtain ⟨z0, ⟨z1, z2, z3, z4, z5, z6⟩, y1, y2, y3, y4, y5, y6⟩ := hC
                    go_simp
                  simp only [Act.put, List.setIfInBounds_toArray, List.set_cons_zero, List.set_cons_succ]
                  go_big_quiet_on
                  go_big_quiet_want
                  refine quiet_val (v := .bool false) (fun w' hC => ?_) ?_
                  · obtain ⟨z0, ⟨z1, z2, z3, z4, z5, z6⟩, y1, y2, y3, y4, y5, y6⟩ := hC
                    go_simp
                  simp only [Act.put, List.setIfInBounds_toArray, List.set_cons_zero, List.set_cons_succ]
                  go_big_quiet_on
                  go_big_quiet_want
                  refine quiet_val (v := .bool false) (fun w' hC => ?_) ?_
                  · obtain ⟨z0, ⟨z1, z2, z3, z4, z5, z6⟩, y1, y2, y3, y4, y5, y6⟩ := hC
                    go_simp
                  simp only [Act.put, List.setIfInBounds_toArray, List.set_cons_zero, List.set_cons_succ]
                  go_big_quiet_on
                  go_big_quiet_skip
                  go_big_quiet_skip
                  go_big_quiet_skip
                  go_big_quiet_skip
                  go_big_quiet_skip
                  go_big_quiet_skip
                  go_big_quiet_skip
                  go_big_quiet_skip
                  go_big_quiet_skip
                  go_big_quiet_skip
                  go_big_quiet_skip
                  go_big_quiet_want
                  refine quiet_val (v := .bool false) (fun w' hC => ?_) ?_
                  · obtain ⟨z0, ⟨z1, z2, z3, z4, z5, z6⟩, y1, y2, y3, y4, y5, y6⟩ := hC
                    go_simp
                  simp only [Act.put, List.setIfInBounds_toArray, List.set_cons_zero, List.set_cons_succ]
                  go_big_quiet_on
                  refine wpQuiet_nil ?_
                  intro w' hC
                  go_wp2_with fail
                  go_meet
                  case rel => exact ⟨by rw [hky], hC.1⟩
            case rest =>
              obtain ⟨hc2, hB3⟩ := hcut
              clear HCE
              cases hky : keyB ⟨p4, m4, b4, o4, s4, v4⟩ ⟨p, m, b, q, s, v⟩
              · rw [hky] at hc2
                subst hc2
                go_wp2
                go_roundw
                case rel => exact ⟨t + 1, by omega, by go_num, any_nextR htl HANY.out (by rw [HLT.out]; exact hky), hB3⟩
                case measure => simp [intOf]; omega
              · rw [hky] at hc2
                subst hc2
                have HT : Hid (tbN L = 7) := to_clashF hkl HL.out HNO.out HO.out (tab_take hq htl (by rw [HLT.out]; exact hky)) (by rw [HN.out]; exact hl)
                go_wp2
                go_ret
                exact ⟨by rw [HT.out]; rfl, hB3⟩
          · obtain rfl : t = k := by omega
            clear hB2
            go_wp2
            go_roundw
            case rel => exact ⟨t + 1, by omega, by go_num, to_nextF hkl HL.out HNO.out HO.out HANY.out, HB2.out⟩
            case measure => simp [intOf]; omega
      · have HT : Hid (tbN L = ruN p m b q s v) := to_badF hkl HL.out HNO.out ho (by rw [HN.out]; exact hl)
        have ho2 : (ruN p m b q s v != 0) = true := by simpa using ho
        clear ho
        go_wp2_with fail
        refine (refRule_any _ _ _ _ _ _ _).mono ?_
        rintro e w1 ⟨rfl, hb1⟩
        have HB1 := HB.out.trans (hb1.mono HB.out.size)
        clear hb1
        go_wp2
        go_ret
        exact ⟨by rw [HT.out]; rfl, HB1⟩
    · obtain rfl : k = n := by omega
      go_wp2
      go_ret
      refine ⟨?_, HB.out⟩
      have e1 : tbN L = 0 := by
        rw [tbN, if_neg (by rw [HN.out]; omega), HN.out]
        exact HNO.out
      rw [e1]
      rfl

set_option maxHeartbeats 1000000 in
theorem refTable_long (ao : Option Addr) (cap n : Nat) (w : World) (hl : 12 < n) :
    Calls Tryd.prog 46 #[.slice ao n cap] w fun e w' => e = .returned (.int .i64 4) ∧ Below w.heap.size w w' := by
  go_enter Tryd.func46, Tryd.ntmps46
  go_wp2
  go_ret
  exact ⟨rfl, Below.refl _ _⟩

set_option maxHeartbeats 1000000 in
theorem refTable_nil (ao : Option Addr) (cap : Nat) (w : World) :
    Calls Tryd.prog 46 #[.slice ao 0 cap] w fun e w' => e = .returned (.int .i64 0) ∧ Below w.heap.size w w' := by
  go_enter Tryd.func46, Tryd.ntmps46
  go_wp2
  go_loopw [3] (fun i wr => i = .int .i64 0 ∧ wr = w) (fun i _ => 0)
  case atStart => exact ⟨rfl, rfl⟩
  case round =>
    obtain ⟨rfl, rfl⟩ := hrel
    go_wp2
    go_ret
    exact ⟨rfl, Below.refl _ _⟩

theorem refTable_any (v : Value) (L : List Ru) (w : World) (h : SR w v L) :
    Calls Tryd.prog 46 #[v] w fun e w' => e = .returned (.int .i64 (tbN L)) ∧ Below w.heap.size w w' := by
  rcases h with ⟨ao, cap, rfl, rfl⟩ | ⟨g, o, cap, rfl, h1, h2, hc⟩
  · exact refTable_nil ao cap w
  · by_cases h12 : 12 < L.length
    · have e : tbN L = 4 := by simp [tbN, h12]
      rw [e]; exact refTable_long _ _ _ _ h12
    · exact refTable_some _ _ _ _ L w hc rfl (by omega)
end Go.Proofs.YtfbocionnjlilacDoor
/- What railref1.Net answers: a contract for the walks above it. -/
namespace Go.Proofs.YtfbocionnjlilacDoor
open Go.RowKit
set_option linter.unusedSimpArgs false
set_option linter.unusedVariables false

set_option maxHeartbeats 2000000 in
set_option maxRecDepth 100000 in
theorem rnet_any (S : Int) (ao : Option Addr) (n cap : Nat) (ao2 : Option Addr) (n2 cap2 : Nat) (ao3 : Option Addr) (n3 cap3 : Nat) (Ls : List ((Int × Int) × (Int × Int))) (Hs : List (ByteArray × (Int × Int))) (Ts : List (List Ru)) (w : World)
    (hL : GS lnkE w (.slice ao n cap) Ls) (hH : GS hstE w (.slice ao2 n2 cap2) Hs) (hT : TS w (.slice ao3 n3 cap3) Ts) :
    Calls Tryd.prog 23 #[.agg #[.int .i64 S, .slice ao n cap, .slice ao2 n2 cap2, .slice ao3 n3 cap3]] w fun e w' => e = .returned (.int .i64 (ntN S Ls Hs Ts)) ∧ Below w.heap.size w w' := by
  have hb1 : Below w.heap.size w (w.alloc (Obj.cells #[.int .i64 S, .slice ao n cap, .slice ao2 n2 cap2, .slice ao3 n3 cap3] 58)) := (Below.refl _ _).alloc (Nat.le_refl _) _
  obtain ⟨C, hC⟩ : ∃ C, C = ntN S Ls Hs Ts := ⟨_, rfl⟩
  have HC : Hid (C = ntN S Ls Hs Ts) := hC
  rw [← hC]
  have HL2 : Hid (GS lnkE (w.alloc (Obj.cells #[.int .i64 S, .slice ao n cap, .slice ao2 n2 cap2, .slice ao3 n3 cap3] 58)) (.slice ao n cap) Ls) := hL.later hb1
  have HH2 : Hid (GS hstE (w.alloc (Obj.cells #[.int .i64 S, .slice ao n cap, .slice ao2 n2 cap2, .slice ao3 n3 cap3] 58)) (.slice ao2 n2 cap2) Hs) := hH.later hb1
  have HT2 : Hid (TS (w.alloc (Obj.cells #[.int .i64 S, .slice ao n cap, .slice ao2 n2 cap2, .slice ao3 n3 cap3] 58)) (.slice ao3 n3 cap3) Ts) := hT.later hb1
  have HB2 : Hid (Below w.heap.size w (w.alloc (Obj.cells #[.int .i64 S, .slice ao n cap, .slice ao2 n2 cap2, .slice ao3 n3 cap3] 58))) := hb1
  have HX : Hid (NeBox (w.alloc (Obj.cells #[.int .i64 S, .slice ao n cap, .slice ao2 n2 cap2, .slice ao3 n3 cap3] 58)) w.heap.size S (.slice ao n cap) (.slice ao2 n2 cap2) (.slice ao3 n3 cap3)) := nebox_new w S _ _ _ 58
  clear hC hb1 hL hH hT
  go_enter Tryd.func23, Tryd.ntmps23
  go_wp2_with fail
  refine (rtopo_any S ao n cap ao2 n2 cap2 Ls Hs _ HL2.out HH2.out).mono ?_
  rintro e w1 ⟨rfl, hb1⟩
  obtain ⟨T, hT⟩ : ∃ T, T = tpN S Ls Hs := ⟨_, rfl⟩
  have HT : Hid (T = tpN S Ls Hs) := hT
  rw [← hT]
  have HB1 : Hid (Below w.heap.size w w1) := HB2.out.trans (hb1.mono HB2.out.size)
  obtain ⟨b0, b1, b2, b3⟩ := HX.out.later hb1
  have HT1 : Hid (TS w1 (.slice ao3 n3 cap3) Ts) := HT2.out.later hb1
  clear hT hb1 HX HL2 HH2 HB2 HT2
  by_cases h0 : T = 0
  · subst h0
    obtain ⟨_, _, _, e2, hTn, hTm, _, hTa⟩ := HT1.out.form
    cases e2
    have HTN : Hid (Ts.length = n3) := hTn
    have HTM : Hid (n3 ≤ maxLen) := hTm
    have HTA : Hid (0 < n3 → ∃ g o, ao3 = some ⟨g, o, none⟩ ∧ TAt w1 g o Ts ∧ cap3 ≤ maxLen) := hTa
    have n63 : n3 ≤ 9223372036854775807 := by unfold maxLen at hTm; omega
    clear hTn hTm hTa HT1
    by_cases hS : (n3 : Int) = S
    · have HC2 : Hid (C = tsTo Ts n3) := by
        show _ = _
        rw [HC.out, ntN, if_pos HT.out.symm, if_pos (by rw [HTN.out]; exact hS), HTN.out]
      have e1 : ((n3 : Int) != S) = false := by simp [hS]
      have HXB : Hid (NeBox w1 w.heap.size S (.slice ao n cap) (.slice ao2 n2 cap2) (.slice ao3 n3 cap3)) := ⟨b0, b1, b2, b3⟩
      clear hS HC
      go_wp2
      go_loopw [4] (fun i wr => ∃ k : Nat, k ≤ n3 ∧ i = .int .i64 k ∧ tsTo Ts k = 0 ∧ Below w1.heap.size w1 wr) (fun i _ => n3 - (intOf i).toNat)
      case atStart => exact ⟨0, by omega, rfl, rfl, Below.refl _ _⟩
      case round =>
        obtain ⟨k, hk, rfl, hz, hB⟩ := hrel
        have HZ : Hid (tsTo Ts k = 0) := hz
        have HB : Hid (Below w1.heap.size w1 wr) := hB
        have HBw : Hid (Below w.heap.size w wr) := HB1.out.trans (hB.mono HB1.out.size)
        obtain ⟨b0, b1, b2, b3⟩ := HXB.out.later hB
        clear hz
        by_cases hlt : k < n3
        · obtain ⟨g, o, hao, hc, _⟩ := HTA.out (by omega)
          subst hao
          obtain ⟨a4, n4, c4, q0, hs⟩ := (hc.later hB) k (by rw [HTN.out]; exact hlt)
          have HS4 : Hid (SR wr (.slice a4 n4 c4) (Ts.getD k [])) := by
            show SR _ _ _
            rw [getT (by rw [HTN.out]; exact hlt)]
            exact hs
          clear hs hc hB
          go_wp2_with fail
          refine (refTable_any _ (Ts.getD k []) _ HS4.out).mono ?_
          rintro e w2 ⟨rfl, hb2⟩
          obtain ⟨R, hR⟩ : ∃ R, R = tbN (Ts.getD k []) := ⟨_, rfl⟩
          have HR : Hid (tsTo Ts (k + 1) = R) := by
            show _ = _
            rw [tsTo, if_pos HZ.out, hR]
          rw [← hR]
          have HB3 : Hid (Below w1.heap.size w1 w2) := HB.out.trans (hb2.mono HB.out.size)
          have HBw3 : Hid (Below w.heap.size w w2) := HBw.out.trans (hb2.mono HBw.out.size)
          clear hR hb2 q0
          by_cases hN : R = 0
          · subst hN
            go_wp2
            go_roundw
            case rel => exact ⟨k + 1, by omega, by go_num, HR.out, HB3.out⟩
            case measure => simp [intOf]; omega
          · have e9 : (R != 0) = true := by simpa using hN
            have HCR : Hid (C = R) := by
              show _ = _
              rw [HC2.out, ts_le (k := k + 1) (by rw [HR.out]; exact hN) (by omega), HR.out]
            have HNN : Hid (R ≠ 0) := hN
            clear hN
            go_wp2
            go_ret
            exact ⟨by rw [HCR.out]; rfl, HBw3.out⟩
        · obtain rfl : k = n3 := by omega
          have HCR : Hid (C = 0) := by
            show _ = _
            rw [HC2.out, HZ.out]
          clear hB
          go_wp2
          go_ret
          exact ⟨by rw [HCR.out]; rfl, HBw.out⟩
    · have HC2 : Hid (C = 3) := by
        show _ = _
        rw [HC.out, ntN, if_pos HT.out.symm, if_neg (by rw [HTN.out]; exact hS)]
      have e1 : ((n3 : Int) != S) = true := by simpa using hS
      clear hS HC
      go_wp2
      go_ret
      exact ⟨by rw [HC2.out]; rfl, HB1.out⟩
  · have e9 : (T != 0) = true := by simpa using h0
    have HC2 : Hid (C = T) := by
      show _ = _
      rw [HC.out, ntN, ← HT.out, if_neg h0]
    have HN0 : Hid (T ≠ 0) := h0
    clear h0
    go_wp2
    go_ret
    exact ⟨by rw [HC2.out]; rfl, HB1.out⟩
end Go.Proofs.YtfbocionnjlilacDoor
/- What topo.Where answers: a contract for the walks above it. -/
namespace Go.Proofs.YtfbocionnjlilacDoor
open Go.RowKit
set_option linter.unusedSimpArgs false
set_option linter.unusedVariables false

set_option maxHeartbeats 1000000 in
set_option maxRecDepth 100000 in
theorem where1_any (n : ByteArray) (x0 x1 : Int) (B : Nat) (m : ByteArray) (w : World) (h0 : w.cell? ⟨B, 0, none⟩ = some (.string m)) :
    Calls Tryd.prog 42 #[.agg #[.string n, .int .i64 x0, .int .i64 x1], .pointer (some ⟨B, 0, none⟩)] w fun e w' => e = .returned (.bool (n == m)) ∧ Below w.heap.size w w' := by
  have hlt : B < w.heap.size := World.block_lt_of_cell? _ _ h0
  have HB0 : Hid (Below w.heap.size w (w.alloc (Obj.cells #[Value.string n, Value.int IntKind.i64 x0, Value.int IntKind.i64 x1] 38))) := (Below.refl _ _).alloc (Nat.le_refl _) _
  rw [beq_toListBytes]
  go_enter Tryd.func42, Tryd.ntmps42
  go_wp2
  go_ret
  exact ⟨rfl, HB0.out⟩
theorem where1_asks (B : Nat) (m : ByteArray) (w : World) (h0 : w.cell? ⟨B, 0, none⟩ = some (.string m)) : hstAsks w 42 (.pointer (some ⟨B, 0, none⟩)) (fun h => h.1 == m) :=
  fun n x0 x1 W hW => where1_any n x0 x1 B m W (cell_later hW h0)
/-- The three boxes of a call: a topology, a name, a spot. -/
def wbox (w : World) (S : Int) (v1 v2 : Value) (m : ByteArray) : World := ((w.alloc (Obj.cells #[.int .i64 S, v1, v2] 25)).alloc (Obj.cells #[.string m] 9)).alloc (Obj.cells #[.int .i64 0, .int .i64 0] 27)
structure WBox (w W : World) (S : Int) (v1 v2 : Value) (m : ByteArray) : Prop where
  below : Below w.heap.size w W
  t : TBox W w.heap.size S v1 v2
  s : W.cell? ⟨w.heap.size + 1, 0, none⟩ = some (.string m)
  r0 : W.cell? ⟨w.heap.size + 1 + 1, 0, none⟩ = some (.int .i64 0)
  r1 : W.cell? ⟨w.heap.size + 1 + 1, 1, none⟩ = some (.int .i64 0)
  f : ∀ i, W.frozen? ⟨w.heap.size + 1 + 1, i, none⟩ = false
theorem froz_new (w : World) (cs : Array Value) (t : TypeId) (k : Nat) : (w.alloc (.cells cs t)).frozen? ⟨w.heap.size, k, none⟩ = false := by simp
theorem wbox_new (w : World) (S : Int) (v1 v2 : Value) (m : ByteArray) : WBox w (wbox w S v1 v2 m) S v1 v2 m := by
  have e1 : (w.alloc (Obj.cells #[.int .i64 S, v1, v2] 25)).heap.size = w.heap.size + 1 := by simp
  have e2 : ((w.alloc (Obj.cells #[.int .i64 S, v1, v2] 25)).alloc (Obj.cells #[.string m] 9)).heap.size = w.heap.size + 1 + 1 := by simp
  have hb : ∀ (W : World) (o : Obj), Below W.heap.size W (W.alloc o) := fun W o => (Below.refl _ _).alloc (Nat.le_refl _) _
  have hs := (vat_new (w.alloc (Obj.cells #[.int .i64 S, v1, v2] 25)) [.string m] 9).later (hb _ (Obj.cells #[.int .i64 0, .int .i64 0] 27))
  rw [e1] at hs
  have hr := vat_new ((w.alloc (Obj.cells #[.int .i64 S, v1, v2] 25)).alloc (Obj.cells #[.string m] 9)) [.int .i64 0, .int .i64 0] 27
  rw [e2] at hr
  have hf := froz_new ((w.alloc (Obj.cells #[.int .i64 S, v1, v2] 25)).alloc (Obj.cells #[.string m] 9)) #[.int .i64 0, .int .i64 0] 27
  rw [e2] at hf
  exact ⟨(((Below.refl _ _).alloc (Nat.le_refl _) _).alloc (by rw [e1]; omega) _).alloc (by rw [e2]; omega) _, ((tbox_new w S v1 v2 25).later (hb _ _)).later (hb _ _), hs 0 _ rfl, hr 0 _ rfl, hr 1 _ rfl, hf⟩
theorem WBox.later {w W W' : World} {S : Int} {v1 v2 : Value} {m : ByteArray} (h : WBox w W S v1 v2 m) (hb : Below W.heap.size W W') : WBox w W' S v1 v2 m :=
  ⟨h.below.trans (hb.mono h.below.size), h.t.later hb, cell_later hb h.s, cell_later hb h.r0, cell_later hb h.r1, fun i => (hb.frozen (p := ⟨w.heap.size + 1 + 1, i, none⟩) (show (⟨w.heap.size + 1 + 1, 0, none⟩ : Addr).block < W.heap.size from World.block_lt_of_cell? W ⟨w.heap.size + 1 + 1, 0, none⟩ h.r0)).trans (h.f i)⟩
theorem below_two {w W : World} (h : Below w.heap.size w W) (g : Nat) (hg : w.heap.size ≤ g) (u v : Value) : Below w.heap.size w ((W.setCell ⟨g, 0, none⟩ u).setCell ⟨g, 1, none⟩ v) := (h.setCell (p := ⟨g, 0, none⟩) hg u).setCell (p := ⟨g, 1, none⟩) hg v
set_option maxHeartbeats 1000000 in
set_option maxRecDepth 100000 in
theorem where_any (S : Int) (ao : Option Addr) (n cap : Nat) (ao2 : Option Addr) (n2 cap2 : Nat) (Ls : List ((Int × Int) × (Int × Int))) (Hs : List (ByteArray × (Int × Int))) (m : ByteArray) (w : World)
    (hL : GS lnkE w (.slice ao n cap) Ls) (hH : GS hstE w (.slice ao2 n2 cap2) Hs) :
    Calls Tryd.prog 16 #[.agg #[.int .i64 S, .slice ao n cap, .slice ao2 n2 cap2], .string m] w fun e w' => e = .returned (.tuple #[.agg #[.int .i64 (weV S Ls Hs m).1, .int .i64 (weV S Ls Hs m).2], noV (weN S Ls Hs m)]) ∧ Below w.heap.size w w' := by
  have hX := wbox_new w S (.slice ao n cap) (.slice ao2 n2 cap2) m
  obtain ⟨R, hR⟩ : ∃ R, R = weN S Ls Hs m := ⟨_, rfl⟩
  have HR : Hid (R = weN S Ls Hs m) := hR
  obtain ⟨V1, hV1⟩ : ∃ V, V = (weV S Ls Hs m).1 := ⟨_, rfl⟩
  have HV1 : Hid (V1 = (weV S Ls Hs m).1) := hV1
  obtain ⟨V2, hV2⟩ : ∃ V, V = (weV S Ls Hs m).2 := ⟨_, rfl⟩
  have HV2 : Hid (V2 = (weV S Ls Hs m).2) := hV2
  rw [← hR, ← hV1, ← hV2]
  have HL2 : Hid (GS lnkE (wbox w S (.slice ao n cap) (.slice ao2 n2 cap2) m) (.slice ao n cap) Ls) := hL.later hX.below
  have HH2 : Hid (GS hstE (wbox w S (.slice ao n cap) (.slice ao2 n2 cap2) m) (.slice ao2 n2 cap2) Hs) := hH.later hX.below
  have HX : Hid (WBox w (wbox w S (.slice ao n cap) (.slice ao2 n2 cap2) m) S (.slice ao n cap) (.slice ao2 n2 cap2) m) := hX
  clear hR hV1 hV2 hX hL hH
  go_enter Tryd.func16, Tryd.ntmps16
  go_wp2_with fail
  refine (check_any S ao n cap ao2 n2 cap2 Ls Hs _ HL2.out HH2.out).mono ?_
  rintro e w1 ⟨rfl, hb1⟩
  obtain ⟨T, hT⟩ : ∃ T, T = tpN S Ls Hs := ⟨_, rfl⟩
  have HT : Hid (T = tpN S Ls Hs) := hT
  rw [← hT]
  have hX1 := HX.out.later hb1
  have HX1 : Hid (WBox w w1 S (.slice ao n cap) (.slice ao2 n2 cap2) m) := hX1
  have HH1 : Hid (GS hstE w1 (.slice ao2 n2 cap2) Hs) := HH2.out.later hb1
  obtain ⟨_, ⟨b0, b1, b2⟩, s0, r0, r1, f⟩ := hX1
  have f0 := f 0
  have f1 := f 1
  clear hT hb1 HX HL2 HH2 f
  by_cases h0 : T = 0
  · subst h0
    rw [no_ok rfl]
    have HK : Hid (hstAsks w1 42 (.pointer (some ⟨w.heap.size + 1, 0, none⟩)) (fun h => h.1 == m)) := where1_asks _ m w1 s0
    obtain ⟨_, _, _, e2, hHn, hHm, _, hHa⟩ := HH1.out.form
    cases e2
    have HHN : Hid (Hs.length = n2) := hHn
    have HHM : Hid (n2 ≤ maxLen) := hHm
    have HHA : Hid (0 < n2 → ∃ g o, ao2 = some ⟨g, o, none⟩ ∧ GAt hstE w1 g o Hs ∧ cap2 ≤ maxLen) := hHa
    clear hHn hHm hHa s0 r0 r1 f0 f1
    go_wp2_with fail
    refine (hst_idxF ao2 n2 cap2 _ _ (fun h => h.1 == m) Hs _ HHN.out HHM.out HHA.out (enters_of Tryd.func42 (by kernel_rfl) rfl) HK.out).mono ?_
    rintro e w2 ⟨rfl, hb2⟩
    have hX2 := HX1.out.later hb2
    have HB3 : Hid (Below w.heap.size w w2) := hX2.below
    have HHA2 : Hid (0 < n2 → ∃ g o, ao2 = some ⟨g, o, none⟩ ∧ GAt hstE w2 g o Hs ∧ cap2 ≤ maxLen) := fun h => by
      obtain ⟨g, o, e1, e2, e3⟩ := HHA.out h
      exact ⟨g, o, e1, e2.later hb2, e3⟩
    obtain ⟨_, ⟨b0, b1, b2⟩, s0, r0, r1, f⟩ := hX2
    have f0 := f 0
    have f1 := f 1
    clear hb2 HHA HX1 f
    rcases where_ix Hs m with ⟨hi, ho⟩ | ⟨k, hk, hi, ho⟩
    · rw [hi]
      have HR5 : Hid (R = 5) := by
        show _ = _
        rw [HR.out, weN, if_pos HT.out.symm, ho]
        rfl
      have HV5 : Hid (V1 = 0 ∧ V2 = 0) := by
        have h5 := HR5.out
        have e : weV S Ls Hs m = (0, 0) := by rw [weV, ← HR.out, h5, if_neg (by decide)]
        exact ⟨by rw [HV1.out, e], by rw [HV2.out, e]⟩
      clear hi ho
      go_wp2
      refine bodyPost_ret (v := .tuple #[.agg #[.int .i64 0, .int .i64 0], .iface 85 (.int .i64 5)]) (by simp [results, Tryd.results16, go_sem, *]) rfl ⟨by rw [HR5.out, HV5.out.1, HV5.out.2]; rfl, below_two HB3.out _ (by omega) _ _⟩
    · rw [hi]
      have HR0 : Hid (R = 0) := by
        show _ = _
        rw [HR.out, weN, if_pos HT.out.symm, ho]
        rfl
      have hlt : k < n2 := by rw [← HHN.out]; exact hk
      obtain ⟨g, o, hao, hc, _⟩ := HHA2.out (by omega)
      subst hao
      obtain ⟨y0, y1, y2, hkl, hHk, q0, q1, q2⟩ := hst_at hc HHN.out hlt
      have HV0 : Hid (V1 = y1 ∧ V2 = y2) := by
        have h5 := HR0.out
        have e : weV S Ls Hs m = (y1, y2) := by rw [weV, ← HR.out, h5, if_pos rfl, ho, Option.getD_some, hHk]
        exact ⟨by rw [HV1.out, e], by rw [HV2.out, e]⟩
      have kb0 : (0 : Int) ≤ (k : Int) := by omega
      have kb1 : (k : Int) < (n2 : Int) := by omega
      have hk0 : ¬ (k : Int) < 0 := by omega
      clear hi ho hHk hc HHA2
      go_wp2
      refine bodyPost_ret (v := .tuple #[.agg #[.int .i64 y1, .int .i64 y2], .nilIface]) (by simp [results, Tryd.results16, go_sem, *]) rfl ⟨by rw [HR0.out, HV0.out.1, HV0.out.2]; rfl, below_two HB3.out _ (by omega) _ _⟩
  · rw [no_ne h0]
    have HR2 : Hid (R = T) := by
      show _ = _
      rw [HR.out, weN, ← HT.out, if_neg h0]
    have HV5 : Hid (V1 = 0 ∧ V2 = 0) := by
      have h2 := HR2.out
      have e : weV S Ls Hs m = (0, 0) := by rw [weV, ← HR.out, h2, if_neg h0]
      exact ⟨by rw [HV1.out, e], by rw [HV2.out, e]⟩
    have HN0 : Hid (T ≠ 0) := h0
    clear h0
    go_wp2
    refine bodyPost_ret (v := .tuple #[.agg #[.int .i64 0, .int .i64 0], .iface 85 (.int .i64 T)]) (by simp [results, Tryd.results16, go_sem, *]) rfl ⟨by rw [HR2.out, HV5.out.1, HV5.out.2, no_ne HN0.out], below_two HX1.out.below _ (by omega) _ _⟩
end Go.Proofs.YtfbocionnjlilacDoor
/- What railref1.Named answers: a contract for the walks above it. -/
namespace Go.Proofs.YtfbocionnjlilacDoor
open Go.RowKit
set_option linter.unusedSimpArgs false
set_option linter.unusedVariables false

set_option maxHeartbeats 2000000 in
set_option maxRecDepth 100000 in
theorem rnamed_any (S : Int) (ao : Option Addr) (n cap : Nat) (ao2 : Option Addr) (n2 cap2 : Nat) (Hs : List (ByteArray × (Int × Int))) (m : ByteArray) (w : World) (hH : GS hstE w (.slice ao2 n2 cap2) Hs) :
    Calls Tryd.prog 15 #[.agg #[.int .i64 S, .slice ao n cap, .slice ao2 n2 cap2], .string m] w fun e w' => e = .returned (.int .i64 (whN Hs m)) ∧ Below w.heap.size w w' := by
  obtain ⟨_, _, _, e1, hHn, hHm, _, hHa⟩ := hH.form
  cases e1
  have HHN : Hid (Hs.length = n2) := hHn
  have n63 : n2 ≤ 9223372036854775807 := by unfold maxLen at hHm; omega
  have HHA : Hid (0 < n2 → ∃ g o, ao2 = some ⟨g, o, none⟩ ∧ GAt hstE w g o Hs ∧ cap2 ≤ maxLen) := hHa
  have hX := tbox_new w S (.slice ao n cap) (.slice ao2 n2 cap2) 25
  have hB : Below w.heap.size w (w.alloc (Obj.cells #[.int .i64 S, .slice ao n cap, .slice ao2 n2 cap2] 25)) := (Below.refl _ _).alloc (Nat.le_refl _) _
  obtain ⟨w0, hw0⟩ : ∃ W, w.alloc (Obj.cells #[.int .i64 S, .slice ao n cap, .slice ao2 n2 cap2] 25) = W := ⟨_, rfl⟩
  rw [hw0] at hX hB
  have HX : Hid (TBox w0 w.heap.size S (.slice ao n cap) (.slice ao2 n2 cap2)) := hX
  have HB : Hid (Below w.heap.size w w0) := hB
  have HW0 : Hid (w.alloc (Obj.cells #[.int .i64 S, .slice ao n cap, .slice ao2 n2 cap2] 25) = w0) := hw0
  clear hH hHn hHm hHa hX hw0 hB
  go_enter Tryd.func15, Tryd.ntmps15
  go_wp2
  rw [HW0.out]
  go_loopw [5] (fun i wr => ∃ k : Nat, k ≤ n2 ∧ i = .int .i64 k ∧ (Hs.take k).any (fun h => h.1 == m) = false ∧ wr = w0) (fun i _ => n2 - (intOf i).toNat)
  case atStart => exact ⟨0, by omega, rfl, by simp, rfl⟩
  case round =>
    obtain ⟨k, hk, rfl, hno, rfl⟩ := hrel
    have HNO : Hid ((Hs.take k).any (fun h => h.1 == m) = false) := hno
    obtain ⟨b0, b1, b2⟩ := HX.out
    clear hno HW0
    by_cases hlt : k < n2
    · obtain ⟨g, o, hao, hc, _⟩ := HHA.out (by omega)
      subst hao
      obtain ⟨y0, y1, y2, hkl, hHk, q0, q1, q2⟩ := hst_at (hc.later HB.out) HHN.out hlt
      have HHK : Hid (Hs[k] = (y0, (y1, y2))) := hHk
      have hr : (y0 == m) = (y0.toList == m.toList) := beq_toListBytes _ _
      clear hHk hc
      cases ho : (y0 == m)
      · have HN1 : Hid ((Hs.take (k + 1)).any (fun h => h.1 == m) = false) := any_nextG hkl HNO.out (by rw [HHK.out]; exact ho)
        rw [hr] at ho
        clear hr
        go_wp2
        go_roundw
        case rel => exact ⟨k + 1, by omega, by go_num, HN1.out, by first | rfl | trivial⟩
        case measure => simp [intOf]; omega
      · have HR : Hid (whN Hs m = k) := ixG_hit hkl HNO.out (by rw [HHK.out]; exact ho)
        rw [hr] at ho
        clear hr
        go_wp2
        go_ret
        exact ⟨by rw [HR.out]; rfl, HB.out⟩
    · obtain rfl : k = n2 := by omega
      have HR : Hid (whN Hs m = -1) := by
        have := HNO.out
        rw [← HHN.out, List.take_length] at this
        exact ixG_no this
      go_wp2
      go_ret
      exact ⟨by rw [HR.out]; rfl, HB.out⟩
end Go.Proofs.YtfbocionnjlilacDoor
/- What net.checkPacket answers: a contract for the walks above it. -/
namespace Go.Proofs.YtfbocionnjlilacDoor
open Go.RowKit
set_option linter.unusedSimpArgs false
set_option linter.unusedVariables false

set_option maxHeartbeats 2000000 in
set_option maxRecDepth 100000 in
theorem npacket_any (S : Int) (ao : Option Addr) (n cap : Nat) (ao2 : Option Addr) (n2 cap2 : Nat) (ao3 : Option Addr) (n3 cap3 : Nat) (Ls : List ((Int × Int) × (Int × Int))) (Hs : List (ByteArray × (Int × Int))) (Ts : List (List Ru)) (x y h : Int) (w : World)
    (hL : GS lnkE w (.slice ao n cap) Ls) (hH : GS hstE w (.slice ao2 n2 cap2) Hs) (hT : TS w (.slice ao3 n3 cap3) Ts) :
    Calls Tryd.prog 52 #[.agg #[.int .i64 S, .slice ao n cap, .slice ao2 n2 cap2, .slice ao3 n3 cap3], .agg #[.int .i64 x, .int .i64 y], .int .i64 h] w fun e w' => e = .returned (noV (cpN S Ls Hs Ts (x, y) h)) ∧ Below w.heap.size w w' := by
  have hb1 : Below w.heap.size w (w.alloc (Obj.cells #[.int .i64 S, .slice ao n cap, .slice ao2 n2 cap2, .slice ao3 n3 cap3] 58)) := (Below.refl _ _).alloc (Nat.le_refl _) _
  have hb2 : Below w.heap.size w ((w.alloc (Obj.cells #[.int .i64 S, .slice ao n cap, .slice ao2 n2 cap2, .slice ao3 n3 cap3] 58)).alloc (Obj.cells #[.int .i64 x, .int .i64 y] 27)) := hb1.alloc hb1.size _
  have hX : NeBox ((w.alloc (Obj.cells #[.int .i64 S, .slice ao n cap, .slice ao2 n2 cap2, .slice ao3 n3 cap3] 58)).alloc (Obj.cells #[.int .i64 x, .int .i64 y] 27)) w.heap.size S (.slice ao n cap) (.slice ao2 n2 cap2) (.slice ao3 n3 cap3) :=
    (nebox_new w S _ _ _ 58).later ((Below.refl _ _).alloc (Nat.le_refl _) _)
  have hS0 : VAt ((w.alloc (Obj.cells #[.int .i64 S, .slice ao n cap, .slice ao2 n2 cap2, .slice ao3 n3 cap3] 58)).alloc (Obj.cells #[.int .i64 x, .int .i64 y] 27)) (w.heap.size + 1) 0 (spoE.c (x, y)) := by
    have h := spo_new (w.alloc (Obj.cells #[.int .i64 S, .slice ao n cap, .slice ao2 n2 cap2, .slice ao3 n3 cap3] 58)) x y 27
    simpa using h
  obtain ⟨W2, hW2⟩ : ∃ W, W = (w.alloc (Obj.cells #[.int .i64 S, .slice ao n cap, .slice ao2 n2 cap2, .slice ao3 n3 cap3] 58)).alloc (Obj.cells #[.int .i64 x, .int .i64 y] 27) := ⟨_, rfl⟩
  rw [← hW2] at hb2 hX hS0
  obtain ⟨C, hC⟩ : ∃ C, C = cpN S Ls Hs Ts (x, y) h := ⟨_, rfl⟩
  have HC : Hid (C = cpN S Ls Hs Ts (x, y) h) := hC
  rw [← hC]
  have HL2 : Hid (GS lnkE W2 (.slice ao n cap) Ls) := hL.later hb2
  have HH2 : Hid (GS hstE W2 (.slice ao2 n2 cap2) Hs) := hH.later hb2
  have HT2 : Hid (TS W2 (.slice ao3 n3 cap3) Ts) := hT.later hb2
  have HB2 : Hid (Below w.heap.size w W2) := hb2
  have HX : Hid (NeBox W2 w.heap.size S (.slice ao n cap) (.slice ao2 n2 cap2) (.slice ao3 n3 cap3)) := hX
  have HS0 : Hid (VAt W2 (w.heap.size + 1) 0 (spoE.c (x, y))) := hS0
  have HW2 : Hid (W2 = (w.alloc (Obj.cells #[.int .i64 S, .slice ao n cap, .slice ao2 n2 cap2, .slice ao3 n3 cap3] 58)).alloc (Obj.cells #[.int .i64 x, .int .i64 y] 27)) := hW2
  clear hC hb1 hb2 hX hS0 hL hH hT hW2
  go_enter Tryd.func52, Tryd.ntmps52
  go_wp2_with fail
  rw [← HW2.out]
  refine (ncheck_any S ao n cap ao2 n2 cap2 ao3 n3 cap3 Ls Hs Ts _ HL2.out HH2.out HT2.out).mono ?_
  rintro e w1 ⟨rfl, hb1⟩
  obtain ⟨T, hT⟩ : ∃ T, T = ntN S Ls Hs Ts := ⟨_, rfl⟩
  have HT : Hid (T = ntN S Ls Hs Ts) := hT
  rw [← hT]
  have HB1 : Hid (Below w.heap.size w w1) := HB2.out.trans (hb1.mono HB2.out.size)
  obtain ⟨b0, b1, b2, b3⟩ := HX.out.later hb1
  obtain ⟨s0, s1⟩ := spo_cells (HS0.out.later hb1)
  simp only [Nat.zero_add] at s0 s1
  clear hT hb1 HX HS0 HL2 HH2 HB2 HT2 HW2
  by_cases h0 : T = 0
  · subst h0
    rw [no_ok rfl]
    have hC3 : C = if (spB S (x, y) && hdrB h) = true then 0 else 1 := by rw [HC.out, cpN, if_pos HT.out.symm]
    have HC3 : Hid (C = if (spB S (x, y) && hdrB h) = true then 0 else 1) := hC3
    clear hC3
    go_wp2_with fail
    refine (isSpot_any S x y _).mono ?_
    rintro e w2 ⟨rfl, hb2⟩
    have HB3 : Hid (Below w.heap.size w w2) := HB1.out.trans (hb2.mono HB1.out.size)
    clear hb2
    cases hs : spB S (x, y)
    · have HC2 : Hid (C = 1) := by
        show _ = _
        rw [HC3.out, hs]
        rfl
      go_wp2
      go_ret
      exact ⟨by rw [HC2.out]; rfl, HB3.out⟩
    · go_wp2_with fail
      refine (isHeader_any h _).mono ?_
      rintro e w3 ⟨rfl, rfl⟩
      have HB4 : Hid (Below w.heap.size w w3) := HB3.out
      clear HB3
      cases hh : hdrB h
      · have HC2 : Hid (C = 1) := by
          show _ = _
          rw [HC3.out, hs, hh]
          rfl
        go_wp2
        go_ret
        exact ⟨by rw [HC2.out]; rfl, HB4.out⟩
      · have HC2 : Hid (C = 0) := by
          show _ = _
          rw [HC3.out, hs, hh]
          rfl
        go_wp2
        go_ret
        exact ⟨by rw [HC2.out]; rfl, HB4.out⟩
  · rw [no_ne h0]
    have HC2 : Hid (C = T) := by
      show _ = _
      rw [HC.out, cpN, ← HT.out, if_neg h0]
    have HN0 : Hid (T ≠ 0) := h0
    clear h0
    go_wp2
    go_ret
    exact ⟨by rw [HC2.out, no_ne HN0.out]; rfl, HB1.out⟩
end Go.Proofs.YtfbocionnjlilacDoor
/- What net.From and net.Step answer: contracts for the walks above them. -/
namespace Go.Proofs.YtfbocionnjlilacDoor
open Go.RowKit
set_option linter.unusedSimpArgs false
set_option linter.unusedVariables false

/-- The boxes: a net, a spot, the answer's. -/
structure OBox (w W : World) (S : Int) (v1 v2 v3 : Value) (x y : Int) : Prop where
  below : Below w.heap.size w W
  n : NeBox W w.heap.size S v1 v2 v3
  s0 : W.cell? ⟨w.heap.size + 1, 0, none⟩ = some (.int .i64 x)
  s1 : W.cell? ⟨w.heap.size + 1, 1, none⟩ = some (.int .i64 y)
  lt : w.heap.size + 2 ≤ W.heap.size
theorem obox_new (w : World) (S : Int) (v1 v2 v3 : Value) (x y : Int) : OBox w ((w.alloc (Obj.cells #[.int .i64 S, v1, v2, v3] 58)).alloc (Obj.cells #[.int .i64 x, .int .i64 y] 27)) S v1 v2 v3 x y := by
  have e1 : (w.alloc (Obj.cells #[.int .i64 S, v1, v2, v3] 58)).heap.size = w.heap.size + 1 := by simp
  have hb : ∀ (W : World) (o : Obj), Below W.heap.size W (W.alloc o) := fun W o => (Below.refl _ _).alloc (Nat.le_refl _) _
  have hs := vat_new (w.alloc (Obj.cells #[.int .i64 S, v1, v2, v3] 58)) [.int .i64 x, .int .i64 y] 27
  rw [e1] at hs
  exact ⟨((Below.refl _ _).alloc (Nat.le_refl _) _).alloc (by rw [e1]; omega) _, (nebox_new w S v1 v2 v3 58).later (hb _ _), hs 0 _ rfl, hs 1 _ rfl, by simp⟩
theorem OBox.later {w W W' : World} {S : Int} {v1 v2 v3 : Value} {x y : Int} (k : OBox w W S v1 v2 v3 x y) (hb : Below W.heap.size W W') : OBox w W' S v1 v2 v3 x y :=
  ⟨k.below.trans (hb.mono k.below.size), k.n.later hb, cell_later hb k.s0, cell_later hb k.s1, Nat.le_trans k.lt hb.size⟩
/-- And three cells, or two, of the answer's box. -/
structure RB3 (w W : World) : Prop where
  r0 : W.cell? ⟨w.heap.size + 1 + 1, 0, none⟩ = some (.int .i64 0)
  r1 : W.cell? ⟨w.heap.size + 1 + 1, 1, none⟩ = some (.string ⟨#[]⟩)
  r2 : W.cell? ⟨w.heap.size + 1 + 1, 2, none⟩ = some (.slice none 0 0)
  f : ∀ i, W.frozen? ⟨w.heap.size + 1 + 1, i, none⟩ = false
theorem RB3.later {w W W' : World} (k : RB3 w W) (hb : Below W.heap.size W W') : RB3 w W' :=
  ⟨cell_later hb k.r0, cell_later hb k.r1, cell_later hb k.r2, fun i => (hb.frozen (p := ⟨w.heap.size + 1 + 1, i, none⟩) (show (⟨w.heap.size + 1 + 1, 0, none⟩ : Addr).block < W.heap.size from World.block_lt_of_cell? W ⟨w.heap.size + 1 + 1, 0, none⟩ k.r0)).trans (k.f i)⟩
theorem rb3_new (w X : World) (h : X.heap.size = w.heap.size + 1 + 1) : RB3 w (X.alloc (Obj.cells #[.int .i64 0, .string ⟨#[]⟩, .slice none 0 0] 64)) := by
  have hr := vat_new X [.int .i64 0, .string ⟨#[]⟩, .slice none 0 0] 64
  have hf := froz_new2 X #[.int .i64 0, .string ⟨#[]⟩, .slice none 0 0] 64
  rw [h] at hr hf
  exact ⟨hr 0 _ rfl, hr 1 _ rfl, hr 2 _ rfl, hf⟩
structure RB2 (w W : World) : Prop where
  r0 : W.cell? ⟨w.heap.size + 1 + 1, 0, none⟩ = some (.int .i64 0)
  r1 : W.cell? ⟨w.heap.size + 1 + 1, 1, none⟩ = some (.int .i64 0)
  f : ∀ i, W.frozen? ⟨w.heap.size + 1 + 1, i, none⟩ = false
theorem RB2.later {w W W' : World} (k : RB2 w W) (hb : Below W.heap.size W W') : RB2 w W' :=
  ⟨cell_later hb k.r0, cell_later hb k.r1, fun i => (hb.frozen (p := ⟨w.heap.size + 1 + 1, i, none⟩) (show (⟨w.heap.size + 1 + 1, 0, none⟩ : Addr).block < W.heap.size from World.block_lt_of_cell? W ⟨w.heap.size + 1 + 1, 0, none⟩ k.r0)).trans (k.f i)⟩
theorem rb2_new (w X : World) (h : X.heap.size = w.heap.size + 1 + 1) : RB2 w (X.alloc (Obj.cells #[.int .i64 0, .int .i64 0] 27)) := by
  have hr := vat_new X [.int .i64 0, .int .i64 0] 27
  have hf := froz_new2 X #[.int .i64 0, .int .i64 0] 27
  rw [h] at hr hf
  exact ⟨hr 0 _ rfl, hr 1 _ rfl, hf⟩
theorem own_none2 (W : World) (B : Nat) : W.ownsRow B 109 3 (.slice none 0 0) (zeF.2.2).length (cellsG hopE zeF.2.2) := World.ownsRow_nil _ _ _ _

set_option maxHeartbeats 4000000 in
set_option maxRecDepth 100000 in
theorem from_any (S : Int) (ao : Option Addr) (n cap : Nat) (ao2 : Option Addr) (n2 cap2 : Nat) (ao3 : Option Addr) (n3 cap3 : Nat) (Ls : List ((Int × Int) × (Int × Int))) (Hs : List (ByteArray × (Int × Int))) (Ts : List (List Ru)) (x y h : Int) (w : World)
    (hL : GS lnkE w (.slice ao n cap) Ls) (hH : GS hstE w (.slice ao2 n2 cap2) Hs) (hT : TS w (.slice ao3 n3 cap3) Ts) :
    Calls Tryd.prog 30 #[.agg #[.int .i64 S, .slice ao n cap, .slice ao2 n2 cap2, .slice ao3 n3 cap3], .agg #[.int .i64 x, .int .i64 y], .int .i64 h] w fun e w' => ∃ ao4 n4 cap4, e = .returned (.tuple #[.agg #[.int .i64 (frV S Ls Hs Ts (x, y) h).1, .string (frV S Ls Hs Ts (x, y) h).2.1, .slice ao4 n4 cap4], noV (cpN S Ls Hs Ts (x, y) h)]) ∧ w'.ownsRow w.heap.size 109 3 (.slice ao4 n4 cap4) (frV S Ls Hs Ts (x, y) h).2.2.length (cellsG hopE (frV S Ls Hs Ts (x, y) h).2.2) ∧ Below w.heap.size w w' := by
  obtain ⟨R, hR⟩ : ∃ R, R = cpN S Ls Hs Ts (x, y) h := ⟨_, rfl⟩
  obtain ⟨V, hV⟩ : ∃ V, V = frV S Ls Hs Ts (x, y) h := ⟨_, rfl⟩
  have HR : Hid (R = cpN S Ls Hs Ts (x, y) h) := hR
  have HV : Hid (V = frV S Ls Hs Ts (x, y) h) := hV
  rw [← hR, ← hV]
  have HLW : Hid (∀ W, Below w.heap.size w W → GS lnkE W (.slice ao n cap) Ls) := fun W hb => hL.later hb
  have HHW : Hid (∀ W, Below w.heap.size w W → GS hstE W (.slice ao2 n2 cap2) Hs) := fun W hb => hH.later hb
  have HTW : Hid (∀ W, Below w.heap.size w W → TS W (.slice ao3 n3 cap3) Ts) := fun W hb => hT.later hb
  have hX0 := obox_new w S (.slice ao n cap) (.slice ao2 n2 cap2) (.slice ao3 n3 cap3) x y
  have hsz : ((w.alloc (Obj.cells #[.int .i64 S, .slice ao n cap, .slice ao2 n2 cap2, .slice ao3 n3 cap3] 58)).alloc (Obj.cells #[.int .i64 x, .int .i64 y] 27)).heap.size = w.heap.size + 1 + 1 := by simp
  have hR0 := rb3_new w _ hsz
  have hX := hX0.later ((Below.refl _ _).alloc (Nat.le_refl _) (Obj.cells #[.int .i64 0, .string ⟨#[]⟩, .slice none 0 0] 64))
  obtain ⟨w0, hw0⟩ : ∃ W, ((w.alloc (Obj.cells #[.int .i64 S, .slice ao n cap, .slice ao2 n2 cap2, .slice ao3 n3 cap3] 58)).alloc (Obj.cells #[.int .i64 x, .int .i64 y] 27)).alloc (Obj.cells #[.int .i64 0, .string ⟨#[]⟩, .slice none 0 0] 64) = W := ⟨_, rfl⟩
  rw [hw0] at hX hR0
  have HX : Hid (OBox w w0 S (.slice ao n cap) (.slice ao2 n2 cap2) (.slice ao3 n3 cap3) x y) := hX
  have HRB : Hid (RB3 w w0) := hR0
  have HW0 : Hid (((w.alloc (Obj.cells #[.int .i64 S, .slice ao n cap, .slice ao2 n2 cap2, .slice ao3 n3 cap3] 58)).alloc (Obj.cells #[.int .i64 x, .int .i64 y] 27)).alloc (Obj.cells #[.int .i64 0, .string ⟨#[]⟩, .slice none 0 0] 64) = w0) := hw0
  clear hL hH hT hR hV hX0 hsz hR0 hX hw0
  go_enter Tryd.func30, Tryd.ntmps30
  go_upto_region 1 with fail
  rw [HW0.out]
  obtain ⟨_, ⟨b0, b1, b2, b3⟩, s0, s1, _⟩ := HX.out
  clear HW0
  go_wp2_with fail
  refine (npacket_any S ao n cap ao2 n2 cap2 ao3 n3 cap3 Ls Hs Ts x y h _ (HLW.out _ HX.out.below) (HHW.out _ HX.out.below) (HTW.out _ HX.out.below)).mono ?_
  rintro e w1 ⟨rfl, hb1⟩
  rw [← HR.out]
  have HX1 : Hid (OBox w w1 S (.slice ao n cap) (.slice ao2 n2 cap2) (.slice ao3 n3 cap3) x y) := HX.out.later hb1
  have HR1 : Hid (RB3 w w1) := HRB.out.later hb1
  obtain ⟨hB1, ⟨b0, b1, b2, b3⟩, s0, s1, hlt⟩ := HX1.out
  have HB1 : Hid (Below w.heap.size w w1) := hB1
  obtain ⟨r0, r1, r2, f⟩ := HR1.out
  have f0 := f 0
  have f1 := f 1
  have f2 := f 2
  clear hb1 HX HRB f hB1
  by_cases h0 : R = 0
  · have HC0 : Hid (cpN S Ls Hs Ts (x, y) h = 0) := HR.out.symm.trans h0
    obtain ⟨k1, k2, _⟩ := cp_0 HC0.out
    have HN0 : Hid (ntN S Ls Hs Ts = 0) := k1
    have HSP : Hid (spB S (x, y) = true) := k2
    have HV0 : Hid (V = frF Ls Hs Ts (x, y) h) := by
      show _ = _
      rw [HV.out, frV, if_pos HC0.out]
    subst h0
    rw [no_ok rfl]
    clear k1 k2 r0 r1 r2 f0 f1 f2
    go_wp2_with fail
    refine (follow_any S ao n cap ao2 n2 cap2 ao3 n3 cap3 Ls Hs Ts x y h _ (HLW.out _ HB1.out) (HHW.out _ HB1.out) (HTW.out _ HB1.out) HN0.out HSP.out).mono ?_
    rintro e w5 ⟨ao4, n4, cap4, rfl, hown, hb5⟩
    rw [← HV0.out] at hown
    rw [← HV0.out]
    have hsz : w.heap.size + 1 + 1 < w1.heap.size := World.block_lt_of_cell? _ _ HR1.out.r0
    have HOW : Hid (∀ u v x, (put3 w5 (w.heap.size + 1 + 1) u v x).ownsRow w.heap.size 109 3 (.slice ao4 n4 cap4) V.2.2.length (cellsG hopE V.2.2)) := fun u v x => own_mono (own_put3 hown _ hsz u v x) (by omega)
    have HB5 : Hid (Below w.heap.size w w5) := HB1.out.trans (hb5.mono HB1.out.size)
    obtain ⟨r0, r1, r2, f⟩ := HR1.out.later hb5
    have f0 := f 0
    have f1 := f 1
    have f2 := f 2
    obtain ⟨V1, hV1⟩ : ∃ q, q = V.1 := ⟨_, rfl⟩
    obtain ⟨V2, hV2⟩ : ∃ q, q = V.2.1 := ⟨_, rfl⟩
    have HVV : Hid (V.1 = V1 ∧ V.2.1 = V2) := ⟨hV1.symm, hV2.symm⟩
    rw [← hV1, ← hV2]
    clear hown hb5 f hV1 hV2
    go_wp2
    refine bodyPost_ret (v := .tuple #[.agg #[.int .i64 V1, .string V2, .slice ao4 n4 cap4], .nilIface]) (by simp [results, Tryd.results30, go_sem, *]) rfl ⟨ao4, n4, cap4, by rw [HVV.out.1, HVV.out.2]; rfl, HOW.out _ _ _, below_put3 HB5.out _ (by omega) _ _ _⟩
  · rw [no_ne h0]
    have HNE : Hid (R ≠ 0) := h0
    have HV1 : Hid (V = zeF) := by
      show _ = _
      rw [HV.out, frV, if_neg (by rw [← HR.out]; exact h0)]
    clear h0
    go_wp2
    refine bodyPost_ret (v := .tuple #[.agg #[.int .i64 0, .string ⟨#[]⟩, .slice none 0 0], .iface 85 (.int .i64 R)]) (by simp [results, Tryd.results30, go_sem, *]) rfl ⟨_, _, _, by rw [HV1.out, no_ne HNE.out]; rfl, by rw [HV1.out]; exact own_none2 _ _, below_put3 HB1.out _ (by omega) _ _ _⟩

set_option maxHeartbeats 4000000 in
set_option maxRecDepth 100000 in
theorem stepA_any (S : Int) (ao : Option Addr) (n cap : Nat) (ao2 : Option Addr) (n2 cap2 : Nat) (ao3 : Option Addr) (n3 cap3 : Nat) (Ls : List ((Int × Int) × (Int × Int))) (Hs : List (ByteArray × (Int × Int))) (Ts : List (List Ru)) (x y h : Int) (w : World)
    (hL : GS lnkE w (.slice ao n cap) Ls) (hH : GS hstE w (.slice ao2 n2 cap2) Hs) (hT : TS w (.slice ao3 n3 cap3) Ts) :
    Calls Tryd.prog 29 #[.agg #[.int .i64 S, .slice ao n cap, .slice ao2 n2 cap2, .slice ao3 n3 cap3], .agg #[.int .i64 x, .int .i64 y], .int .i64 h] w fun e w' => e = .returned (.tuple #[.agg #[.int .i64 (spV S Ls Hs Ts (x, y) h).1.1, .int .i64 (spV S Ls Hs Ts (x, y) h).1.2], .int .i64 (spV S Ls Hs Ts (x, y) h).2, noV (spN S Ls Hs Ts (x, y) h)]) ∧ Below w.heap.size w w' := by
  obtain ⟨R, hR⟩ : ∃ R, R = spN S Ls Hs Ts (x, y) h := ⟨_, rfl⟩
  obtain ⟨V1, hV1⟩ : ∃ V, V = (spV S Ls Hs Ts (x, y) h).1.1 := ⟨_, rfl⟩
  obtain ⟨V2, hV2⟩ : ∃ V, V = (spV S Ls Hs Ts (x, y) h).1.2 := ⟨_, rfl⟩
  obtain ⟨V3, hV3⟩ : ∃ V, V = (spV S Ls Hs Ts (x, y) h).2 := ⟨_, rfl⟩
  have HR : Hid (R = spN S Ls Hs Ts (x, y) h) := hR
  have HV : Hid (spV S Ls Hs Ts (x, y) h = ((V1, V2), V3)) := by
    show _ = _
    rw [hV1, hV2, hV3]
  rw [← hR, ← hV1, ← hV2, ← hV3]
  have HLW : Hid (∀ W, Below w.heap.size w W → GS lnkE W (.slice ao n cap) Ls) := fun W hb => hL.later hb
  have HHW : Hid (∀ W, Below w.heap.size w W → GS hstE W (.slice ao2 n2 cap2) Hs) := fun W hb => hH.later hb
  have HTW : Hid (∀ W, Below w.heap.size w W → TS W (.slice ao3 n3 cap3) Ts) := fun W hb => hT.later hb
  have hTn := hT.len
  have HTN : Hid (Ts.length = n3) := hTn
  have hX0 := obox_new w S (.slice ao n cap) (.slice ao2 n2 cap2) (.slice ao3 n3 cap3) x y
  have hsz : ((w.alloc (Obj.cells #[.int .i64 S, .slice ao n cap, .slice ao2 n2 cap2, .slice ao3 n3 cap3] 58)).alloc (Obj.cells #[.int .i64 x, .int .i64 y] 27)).heap.size = w.heap.size + 1 + 1 := by simp
  have hR0 := rb2_new w _ hsz
  have hX := hX0.later ((Below.refl _ _).alloc (Nat.le_refl _) (Obj.cells #[.int .i64 0, .int .i64 0] 27))
  obtain ⟨w0, hw0⟩ : ∃ W, ((w.alloc (Obj.cells #[.int .i64 S, .slice ao n cap, .slice ao2 n2 cap2, .slice ao3 n3 cap3] 58)).alloc (Obj.cells #[.int .i64 x, .int .i64 y] 27)).alloc (Obj.cells #[.int .i64 0, .int .i64 0] 27) = W := ⟨_, rfl⟩
  rw [hw0] at hX hR0
  have HX : Hid (OBox w w0 S (.slice ao n cap) (.slice ao2 n2 cap2) (.slice ao3 n3 cap3) x y) := hX
  have HRB : Hid (RB2 w w0) := hR0
  have HW0 : Hid (((w.alloc (Obj.cells #[.int .i64 S, .slice ao n cap, .slice ao2 n2 cap2, .slice ao3 n3 cap3] 58)).alloc (Obj.cells #[.int .i64 x, .int .i64 y] 27)).alloc (Obj.cells #[.int .i64 0, .int .i64 0] 27) = w0) := hw0
  clear hL hH hT hR hV1 hV2 hV3 hX0 hsz hR0 hX hw0 hTn
  go_enter Tryd.func29, Tryd.ntmps29
  go_upto_region 1 with fail
  rw [HW0.out]
  obtain ⟨_, ⟨b0, b1, b2, b3⟩, s0, s1, _⟩ := HX.out
  clear HW0
  go_wp2_with fail
  refine (npacket_any S ao n cap ao2 n2 cap2 ao3 n3 cap3 Ls Hs Ts x y h _ (HLW.out _ HX.out.below) (HHW.out _ HX.out.below) (HTW.out _ HX.out.below)).mono ?_
  rintro e w1 ⟨rfl, hb1⟩
  obtain ⟨C, hC⟩ : ∃ C, C = cpN S Ls Hs Ts (x, y) h := ⟨_, rfl⟩
  have HC : Hid (C = cpN S Ls Hs Ts (x, y) h) := hC
  rw [← hC]
  have HX1 : Hid (OBox w w1 S (.slice ao n cap) (.slice ao2 n2 cap2) (.slice ao3 n3 cap3) x y) := HX.out.later hb1
  have HR1 : Hid (RB2 w w1) := HRB.out.later hb1
  obtain ⟨hB1, ⟨b0, b1, b2, b3⟩, s0, s1, hlt⟩ := HX1.out
  have HB1 : Hid (Below w.heap.size w w1) := hB1
  obtain ⟨r0, r1, f⟩ := HR1.out
  have f0 := f 0
  have f1 := f 1
  clear hb1 HX HRB f hB1 hC
  by_cases h0 : C = 0
  · have HC0 : Hid (cpN S Ls Hs Ts (x, y) h = 0) := HC.out.symm.trans h0
    obtain ⟨k1, k2, _⟩ := cp_0 HC0.out
    have k3 := sp_of k2
    simp only at k3
    have k4 := nt_0 k1
    have hS6 := (tp_0 k4.1).1
    have HTT : Hid (∀ k, k < Ts.length → tbN (Ts.getD k []) = 0) := k4.2.2
    have HS1 : Hid (1 ≤ x) := k3.1
    have HS2 : Hid (x ≤ (n3 : Int)) := by
      show _ ≤ _
      have := HTN.out
      have := k4.2.1
      omega
    have HS6 : Hid (n3 ≤ 6) := by
      show _ ≤ _
      have := HTN.out
      have := k4.2.1
      omega
    obtain ⟨A, hA⟩ : ∃ A, A = stO Ts ((x, y), h) := ⟨_, rfl⟩
    have HA : Hid (stO Ts ((x, y), h) = A) := hA.symm
    have HRA : Hid (R = if A.isSome then 0 else 5) := by
      show _ = _
      rw [HR.out, spN, if_pos HC0.out, hA]
    have HVA : Hid (A.getD zeH = ((V1, V2), V3)) := by
      show _ = _
      rw [← HV.out, spV, if_pos HC0.out, hA]
    subst h0
    rw [no_ok rfl]
    clear k1 k2 k3 k4 hS6 hA r0 r1 f0 f1
    go_wp2_with fail
    refine (step_any S ao n cap ao2 n2 cap2 ao3 n3 cap3 Ts x y h _ (HTW.out _ HB1.out) HTT.out HS1.out HS2.out HS6.out).mono ?_
    rintro e w2 ⟨rfl, hb2⟩
    rw [HA.out, HVA.out]
    simp only
    have hal : Below w2.heap.size w2 (w2.alloc (Obj.cells #[.int .i64 V1, .int .i64 V2, .int .i64 V3] 109)) := (Below.refl _ _).alloc (Nat.le_refl _) _
    have hva := hop_new w2 V1 V2 V3 109
    have hXa := (HX1.out.later hb2).later hal
    have hRa := (HR1.out.later hb2).later hal
    obtain ⟨w3, hw3⟩ : ∃ W, w2.alloc (Obj.cells #[.int .i64 V1, .int .i64 V2, .int .i64 V3] 109) = W := ⟨_, rfl⟩
    obtain ⟨g3, hg3⟩ : ∃ g, w2.heap.size = g := ⟨_, rfl⟩
    rw [hw3] at hXa hRa
    rw [hw3, hg3] at hva
    have HW3 : Hid (w2.alloc (Obj.cells #[.int .i64 V1, .int .i64 V2, .int .i64 V3] 109) = w3) := hw3
    have HG3 : Hid (w2.heap.size = g3) := hg3
    obtain ⟨t0, t1, t2⟩ := hop_cells hva
    simp only [Nat.zero_add] at t0 t1 t2
    have HB3 : Hid (Below w.heap.size w w3) := hXa.below
    obtain ⟨r0, r1, f⟩ := hRa
    have f0 := f 0
    have f1 := f 1
    have hl3 : g3 < w3.heap.size := World.block_lt_of_cell? _ _ t0
    have hlr : w.heap.size + 1 + 1 < w3.heap.size := World.block_lt_of_cell? _ _ r0
    obtain ⟨okb, hokb⟩ : ∃ q, q = A.isSome := ⟨_, rfl⟩
    have HOKB : Hid (A.isSome = okb) := hokb.symm
    rw [← hokb]
    clear hb2 hal hva hXa hw3 hg3 f hokb
    go_upto_region 5 with fail
    rw [HW3.out, HG3.out]
    clear HW3 HG3
    cases okb with
    | false =>
      have HR5 : Hid (R = 5) := by
        show _ = _
        rw [HRA.out, HOKB.out]
        rfl
      have HVZ : Hid (V1 = 0 ∧ V2 = 0 ∧ V3 = 0) := by
        have h1 := HOKB.out
        have h2 := HVA.out
        cases A with
        | none =>
          have e : zeH = ((V1, V2), V3) := h2
          simp only [zeH, Prod.mk.injEq] at e
          exact ⟨e.1.1.symm, e.1.2.symm, e.2.symm⟩
        | some _ => cases h1
      go_wp2
      refine bodyPost_ret (v := .tuple #[.agg #[.int .i64 0, .int .i64 0], .int .i64 0, .iface 85 (.int .i64 5)]) (by simp [results, Tryd.results29, go_sem, *]) rfl ⟨by rw [HR5.out, HVZ.out.1, HVZ.out.2.1, HVZ.out.2.2]; rfl, below_two2 HB3.out _ (by omega) _ _⟩
    | true =>
      have HR0 : Hid (R = 0) := by
        show _ = _
        rw [HRA.out, HOKB.out]
        rfl
      go_wp2_with fail
      go_region
      all_goals
        go_wp2
        refine bodyPost_ret (v := .tuple #[.agg #[.int .i64 V1, .int .i64 V2], .int .i64 V3, .nilIface]) (by simp [results, Tryd.results29, go_sem, *]) rfl ⟨by rw [HR0.out]; rfl, below_two2 (HB3.out.trans ((Below.drew (Below.refl _ _)).mono HB3.out.size)) _ (by omega) _ _⟩
  · rw [no_ne h0]
    have HNE : Hid (C ≠ 0) := h0
    have HRC : Hid (R = C) := by
      show _ = _
      rw [HR.out, spN, if_neg (by rw [← HC.out]; exact h0), HC.out]
    have HVZ : Hid (V1 = 0 ∧ V2 = 0 ∧ V3 = 0) := by
      have h2 := HV.out
      rw [spV, if_neg (by rw [← HC.out]; exact h0)] at h2
      simp only [zeH, Prod.mk.injEq] at h2
      exact ⟨h2.1.1.symm, h2.1.2.symm, h2.2.symm⟩
    clear h0
    go_wp2
    refine bodyPost_ret (v := .tuple #[.agg #[.int .i64 0, .int .i64 0], .int .i64 0, .iface 85 (.int .i64 C)]) (by simp [results, Tryd.results29, go_sem, *]) rfl ⟨by rw [HRC.out, HVZ.out.1, HVZ.out.2.1, HVZ.out.2.2, no_ne HNE.out], below_two2 HB1.out _ (by omega) _ _⟩
end Go.Proofs.YtfbocionnjlilacDoor
/- What net.Send answers: a contract for the walks above it. -/
namespace Go.Proofs.YtfbocionnjlilacDoor
open Go.RowKit
set_option linter.unusedSimpArgs false
set_option linter.unusedVariables false

/-- The boxes: a net, the answer's. -/
structure VBox (w W : World) (S : Int) (v1 v2 v3 : Value) : Prop where
  below : Below w.heap.size w W
  n : NeBox W w.heap.size S v1 v2 v3
  r0 : W.cell? ⟨w.heap.size + 1, 0, none⟩ = some (.int .i64 0)
  r1 : W.cell? ⟨w.heap.size + 1, 1, none⟩ = some (.string ⟨#[]⟩)
  r2 : W.cell? ⟨w.heap.size + 1, 2, none⟩ = some (.slice none 0 0)
  f : ∀ i, W.frozen? ⟨w.heap.size + 1, i, none⟩ = false
theorem vbox_new (w : World) (S : Int) (v1 v2 v3 : Value) : VBox w ((w.alloc (Obj.cells #[.int .i64 S, v1, v2, v3] 58)).alloc (Obj.cells #[.int .i64 0, .string ⟨#[]⟩, .slice none 0 0] 64)) S v1 v2 v3 := by
  have e1 : (w.alloc (Obj.cells #[.int .i64 S, v1, v2, v3] 58)).heap.size = w.heap.size + 1 := by simp
  have hb : ∀ (W : World) (o : Obj), Below W.heap.size W (W.alloc o) := fun W o => (Below.refl _ _).alloc (Nat.le_refl _) _
  have hn := (nebox_new w S v1 v2 v3 58).later (hb _ (Obj.cells #[.int .i64 0, .string ⟨#[]⟩, .slice none 0 0] 64))
  have hB := ((Below.refl w.heap.size w).alloc (Nat.le_refl _) (Obj.cells #[.int .i64 S, v1, v2, v3] 58)).alloc (by rw [e1]; omega) (Obj.cells #[.int .i64 0, .string ⟨#[]⟩, .slice none 0 0] 64)
  generalize w.alloc (Obj.cells #[.int .i64 S, v1, v2, v3] 58) = X at e1 hn hB
  have hr := vat_new X [.int .i64 0, .string ⟨#[]⟩, .slice none 0 0] 64
  have hf := froz_new2 X #[.int .i64 0, .string ⟨#[]⟩, .slice none 0 0] 64
  rw [e1] at hr hf
  exact ⟨hB, hn, hr 0 _ rfl, hr 1 _ rfl, hr 2 _ rfl, hf⟩
theorem VBox.later {w W W' : World} {S : Int} {v1 v2 v3 : Value} (k : VBox w W S v1 v2 v3) (hb : Below W.heap.size W W') : VBox w W' S v1 v2 v3 :=
  ⟨k.below.trans (hb.mono k.below.size), k.n.later hb, cell_later hb k.r0, cell_later hb k.r1, cell_later hb k.r2, fun i => (hb.frozen (p := ⟨w.heap.size + 1, i, none⟩) (show (⟨w.heap.size + 1, 0, none⟩ : Addr).block < W.heap.size from World.block_lt_of_cell? W ⟨w.heap.size + 1, 0, none⟩ k.r0)).trans (k.f i)⟩
/-- No fate. -/
theorem own_none (W : World) (B : Nat) : W.ownsRow B 109 3 (.slice none 0 0) (zeF.2.2).length (cellsG hopE zeF.2.2) := World.ownsRow_nil _ _ _ _

set_option maxHeartbeats 4000000 in
set_option maxRecDepth 100000 in
theorem send_any (S : Int) (ao : Option Addr) (n cap : Nat) (ao2 : Option Addr) (n2 cap2 : Nat) (ao3 : Option Addr) (n3 cap3 : Nat) (Ls : List ((Int × Int) × (Int × Int))) (Hs : List (ByteArray × (Int × Int))) (Ts : List (List Ru)) (m : ByteArray) (h : Int) (w : World)
    (hL : GS lnkE w (.slice ao n cap) Ls) (hH : GS hstE w (.slice ao2 n2 cap2) Hs) (hT : TS w (.slice ao3 n3 cap3) Ts) :
    Calls Tryd.prog 32 #[.agg #[.int .i64 S, .slice ao n cap, .slice ao2 n2 cap2, .slice ao3 n3 cap3], .string m, .int .i64 h] w fun e w' => ∃ ao4 n4 cap4, e = .returned (.tuple #[.agg #[.int .i64 (seV S Ls Hs Ts m h).1, .string (seV S Ls Hs Ts m h).2.1, .slice ao4 n4 cap4], noV (seN S Ls Hs Ts m h)]) ∧ w'.ownsRow w.heap.size 109 3 (.slice ao4 n4 cap4) (seV S Ls Hs Ts m h).2.2.length (cellsG hopE (seV S Ls Hs Ts m h).2.2) ∧ Below w.heap.size w w' := by
  obtain ⟨R, hR⟩ : ∃ R, R = seN S Ls Hs Ts m h := ⟨_, rfl⟩
  obtain ⟨V, hV⟩ : ∃ V, V = seV S Ls Hs Ts m h := ⟨_, rfl⟩
  have HR : Hid (R = seN S Ls Hs Ts m h) := hR
  have HV : Hid (V = seV S Ls Hs Ts m h) := hV
  rw [← hR, ← hV]
  have HLW : Hid (∀ W, Below w.heap.size w W → GS lnkE W (.slice ao n cap) Ls) := fun W hb => hL.later hb
  have HHW : Hid (∀ W, Below w.heap.size w W → GS hstE W (.slice ao2 n2 cap2) Hs) := fun W hb => hH.later hb
  have HTW : Hid (∀ W, Below w.heap.size w W → TS W (.slice ao3 n3 cap3) Ts) := fun W hb => hT.later hb
  have hX := vbox_new w S (.slice ao n cap) (.slice ao2 n2 cap2) (.slice ao3 n3 cap3)
  obtain ⟨w0, hw0⟩ : ∃ W, (w.alloc (Obj.cells #[.int .i64 S, .slice ao n cap, .slice ao2 n2 cap2, .slice ao3 n3 cap3] 58)).alloc (Obj.cells #[.int .i64 0, .string ⟨#[]⟩, .slice none 0 0] 64) = W := ⟨_, rfl⟩
  rw [hw0] at hX
  have HX : Hid (VBox w w0 S (.slice ao n cap) (.slice ao2 n2 cap2) (.slice ao3 n3 cap3)) := hX
  have HW0 : Hid ((w.alloc (Obj.cells #[.int .i64 S, .slice ao n cap, .slice ao2 n2 cap2, .slice ao3 n3 cap3] 58)).alloc (Obj.cells #[.int .i64 0, .string ⟨#[]⟩, .slice none 0 0] 64) = w0) := hw0
  clear hL hH hT hR hV hX hw0
  go_enter Tryd.func32, Tryd.ntmps32
  go_upto_region 1 with fail
  rw [HW0.out]
  obtain ⟨_, ⟨b0, b1, b2, b3⟩, r0, r1, r2, f⟩ := HX.out
  clear HW0 f r0 r1 r2
  go_wp2_with fail
  refine (ncheck_any S ao n cap ao2 n2 cap2 ao3 n3 cap3 Ls Hs Ts _ (HLW.out _ HX.out.below) (HHW.out _ HX.out.below) (HTW.out _ HX.out.below)).mono ?_
  rintro e w1 ⟨rfl, hb1⟩
  obtain ⟨T, hT⟩ : ∃ T, T = ntN S Ls Hs Ts := ⟨_, rfl⟩
  have HT : Hid (T = ntN S Ls Hs Ts) := hT
  rw [← hT]
  have HX1 : Hid (VBox w w1 S (.slice ao n cap) (.slice ao2 n2 cap2) (.slice ao3 n3 cap3)) := HX.out.later hb1
  obtain ⟨hB1, ⟨b0, b1, b2, b3⟩, r0, r1, r2, f⟩ := HX1.out
  have HB1 : Hid (Below w.heap.size w w1) := hB1
  have f0 := f 0
  have f1 := f 1
  have f2 := f 2
  clear hT hb1 HX f hB1
  by_cases h0 : T = 0
  · have HN0 : Hid (ntN S Ls Hs Ts = 0) := HT.out.symm.trans h0
    subst h0
    rw [no_ok rfl]
    clear r0 r1 r2 f0 f1 f2
    go_wp2_with fail
    refine (where_any S ao n cap ao2 n2 cap2 Ls Hs m _ (HLW.out _ HX1.out.below) (HHW.out _ HX1.out.below)).mono ?_
    rintro e w2 ⟨rfl, hb2⟩
    obtain ⟨WN, hWN⟩ : ∃ q, q = weN S Ls Hs m := ⟨_, rfl⟩
    obtain ⟨X1, hX1⟩ : ∃ q, q = (weV S Ls Hs m).1 := ⟨_, rfl⟩
    obtain ⟨X2, hX2⟩ : ∃ q, q = (weV S Ls Hs m).2 := ⟨_, rfl⟩
    have HWN : Hid (WN = weN S Ls Hs m) := hWN
    have HXV : Hid (weV S Ls Hs m = (X1, X2)) := by
      show _ = _
      rw [hX1, hX2]
    rw [← hWN, ← hX1, ← hX2]
    have hal : Below w2.heap.size w2 (w2.alloc (Obj.cells #[.int .i64 X1, .int .i64 X2] 27)) := (Below.refl _ _).alloc (Nat.le_refl _) _
    have hXa := (HX1.out.later hb2).later hal
    have hva := vat_new w2 [.int .i64 X1, .int .i64 X2] 27
    obtain ⟨w3, hw3⟩ : ∃ W, w2.alloc (Obj.cells #[.int .i64 X1, .int .i64 X2] 27) = W := ⟨_, rfl⟩
    obtain ⟨g3, hg3⟩ : ∃ g, w2.heap.size = g := ⟨_, rfl⟩
    have hva2 : VAt w3 g3 0 [.int .i64 X1, .int .i64 X2] := by
      rw [← hw3, ← hg3]
      exact hva
    rw [hw3] at hXa
    have HX3 : Hid (VBox w w3 S (.slice ao n cap) (.slice ao2 n2 cap2) (.slice ao3 n3 cap3)) := hXa
    have HW3 : Hid (w2.alloc (Obj.cells #[.int .i64 X1, .int .i64 X2] 27) = w3) := hw3
    have HG3 : Hid (w2.heap.size = g3) := hg3
    have s0 : w3.cell? ⟨g3, 0, none⟩ = some (.int .i64 X1) := hva2 0 _ rfl
    have s1 : w3.cell? ⟨g3, 1, none⟩ = some (.int .i64 X2) := hva2 1 _ rfl
    obtain ⟨hB3, ⟨b0, b1, b2, b3⟩, r0, r1, r2, f⟩ := HX3.out
    have HB3 : Hid (Below w.heap.size w w3) := hB3
    have f0 := f 0
    have f1 := f 1
    have f2 := f 2
    clear hWN hX1 hX2 hb2 hal hXa hva hva2 hw3 hg3 hB3 f HX1 HB1
    go_upto_region 5 with fail
    rw [HW3.out, HG3.out]
    clear HW3 HG3
    by_cases h5 : WN = 0
    · have HW0 : Hid (weN S Ls Hs m = 0) := HWN.out.symm.trans h5
      subst h5
      rw [no_ok rfl]
      cases hh : hdrB h
      · have HR1 : Hid (R = 1) := by
          show _ = _
          rw [HR.out, seN, if_pos HN0.out, if_pos HW0.out, hh]
          rfl
        have HV1 : Hid (V = zeF) := by
          show _ = _
          rw [HV.out, seV, ← HR.out, HR1.out]
          rfl
        go_wp2_with fail
        refine (isHeader_any h _).mono ?_
        rintro e w4 ⟨rfl, hw4⟩
        subst hw4
        rw [hh]
        go_wp2
        refine bodyPost_ret (v := .tuple #[.agg #[.int .i64 0, .string ⟨#[]⟩, .slice none 0 0], .iface 85 (.int .i64 1)]) (by simp [results, Tryd.results32, go_sem, *]) rfl ⟨_, _, _, by rw [HR1.out, HV1.out]; rfl, by rw [HV1.out]; exact own_none _ _, below_put3 HB3.out _ (by omega) _ _ _⟩
      · have HR0 : Hid (R = 0) := by
          show _ = _
          rw [HR.out, seN, if_pos HN0.out, if_pos HW0.out, hh]
          rfl
        have HV0 : Hid (V = frF Ls Hs Ts (X1, X2) h) := by
          show _ = _
          rw [HV.out, seV, ← HR.out, HR0.out, if_pos rfl, HXV.out]
        have HSP : Hid (spB S (X1, X2) = true) := by
          show _ = _
          have ht := (nt_0 HN0.out).1
          have hw := HW0.out
          rw [weN, if_pos ht] at hw
          have hv := HXV.out
          rw [weV, HW0.out, if_pos rfl] at hv
          cases hp : whereO Hs m with
          | none => rw [hp] at hw; simp at hw
          | some p =>
            rw [hp, Option.getD_some] at hv
            rw [← hv]
            exact where_sp ht hp
        clear r0 r1 r2 f0 f1 f2
        go_wp2_with fail
        refine (isHeader_any h _).mono ?_
        rintro e w4 ⟨rfl, hw4⟩
        subst hw4
        rw [hh]
        go_wp2_with fail
        refine (follow_any S ao n cap ao2 n2 cap2 ao3 n3 cap3 Ls Hs Ts X1 X2 h _ (HLW.out _ HB3.out) (HHW.out _ HB3.out) (HTW.out _ HB3.out) HN0.out HSP.out).mono ?_
        rintro e w5 ⟨ao4, n4, cap4, rfl, hown, hb5⟩
        rw [← HV0.out] at hown
        rw [← HV0.out]
        have hsz : w.heap.size + 1 < w4.heap.size := World.block_lt_of_cell? _ _ HX3.out.r0
        have HOW : Hid (∀ u v x, (put3 w5 (w.heap.size + 1) u v x).ownsRow w.heap.size 109 3 (.slice ao4 n4 cap4) V.2.2.length (cellsG hopE V.2.2)) := fun u v x => own_mono (own_put3 hown _ hsz u v x) (by omega)
        have HX5 : Hid (VBox w w5 S (.slice ao n cap) (.slice ao2 n2 cap2) (.slice ao3 n3 cap3)) := HX3.out.later hb5
        obtain ⟨hB5, ⟨b0, b1, b2, b3⟩, r0, r1, r2, f⟩ := HX5.out
        have HB5 : Hid (Below w.heap.size w w5) := hB5
        have f0 := f 0
        have f1 := f 1
        have f2 := f 2
        obtain ⟨V1, hV1⟩ : ∃ q, q = V.1 := ⟨_, rfl⟩
        obtain ⟨V2, hV2⟩ : ∃ q, q = V.2.1 := ⟨_, rfl⟩
        have HVV : Hid (V.1 = V1 ∧ V.2.1 = V2) := ⟨hV1.symm, hV2.symm⟩
        rw [← hV1, ← hV2]
        clear hown hb5 hB5 f hV1 hV2
        go_wp2
        refine bodyPost_ret (v := .tuple #[.agg #[.int .i64 V1, .string V2, .slice ao4 n4 cap4], .nilIface]) (by simp [results, Tryd.results32, go_sem, *]) rfl ⟨ao4, n4, cap4, by rw [HR0.out, HVV.out.1, HVV.out.2]; rfl, HOW.out _ _ _, below_put3 HB5.out _ (by omega) _ _ _⟩
    · rw [no_ne h5]
      have HNE : Hid (WN ≠ 0) := h5
      have HR1 : Hid (R = WN) := by
        show _ = _
        rw [HR.out, seN, if_pos HN0.out, if_neg (by rw [← HWN.out]; exact h5), HWN.out]
      have HV1 : Hid (V = zeF) := by
        show _ = _
        rw [HV.out, seV, ← HR.out, HR1.out, if_neg h5]
      clear h5
      go_wp2
      refine bodyPost_ret (v := .tuple #[.agg #[.int .i64 0, .string ⟨#[]⟩, .slice none 0 0], .iface 85 (.int .i64 WN)]) (by simp [results, Tryd.results32, go_sem, *]) rfl ⟨_, _, _, by rw [HR1.out, HV1.out, no_ne HNE.out]; rfl, by rw [HV1.out]; exact own_none _ _, below_put3 HB3.out _ (by omega) _ _ _⟩
  · rw [no_ne h0]
    have HNE : Hid (T ≠ 0) := h0
    have HR1 : Hid (R = T) := by
      show _ = _
      rw [HR.out, seN, if_neg (by rw [← HT.out]; exact h0), HT.out]
    have HV1 : Hid (V = zeF) := by
      show _ = _
      rw [HV.out, seV, ← HR.out, HR1.out, if_neg h0]
    clear h0
    go_wp2
    refine bodyPost_ret (v := .tuple #[.agg #[.int .i64 0, .string ⟨#[]⟩, .slice none 0 0], .iface 85 (.int .i64 T)]) (by simp [results, Tryd.results32, go_sem, *]) rfl ⟨_, _, _, by rw [HR1.out, HV1.out, no_ne HNE.out]; rfl, by rw [HV1.out]; exact own_none _ _, below_put3 HB1.out _ (by omega) _ _ _⟩
end Go.Proofs.YtfbocionnjlilacDoor
