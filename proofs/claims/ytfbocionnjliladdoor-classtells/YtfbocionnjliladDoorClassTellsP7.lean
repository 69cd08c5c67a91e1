/- Contracts and facts on the way to ClassTells, joined into one text: RefRule, RefTable, RefNet, AsErr, AsErr2, SameNo, ClassTells, TopoOf, StCube, StRule. -/
import Derived.Test.YtfbocionnjliladDoorClassTellsP5
import Derived.Test.YtfbocionnjliladDoorClassTellsP3
import Derived.Test.YtfbocionnjliladDoorClassTellsP4
import Derived.Test.YtfbocionnjliladDoorClassTellsP6
import Derived.Test.YtfbocionnjliladDoorClassTellsP2
import Derived.Test.YtfbocionnjliladDoorClassTellsP1
import Derived.Test.YtfbocionnjliladDoorRows
import Derived.WalkSpells
import Derived.Below
import Derived.WalkKit
import Derived.LaidEql
import Derived.Stop.Asserts
import Derived.RowKitTokens
import Derived.Deep.CutRange
import Derived.Deep.CutBlock
import Derived.Lib.SmallJoins
import Derived.Laws.StructEq
import Derived.Maps.OwnOps
/- What the document's own Rule answers, called with any rule. -/
namespace Go.Proofs.YtfbocionnjliladDoor
open Go.RowKit
set_option linter.unusedSimpArgs false

theorem set_okB {s v : Int} (h : rngB s v = true) : okB s v = (bits .andNot .i64 v s == 0) := by simp [okB, h]

set_option maxHeartbeats 1000000 in
theorem refRule_prio (p m b o s v : Int) (w : World) (h : ruP p o = false) :
    Calls Tryd.prog 22 #[.agg #[.int .i64 p, .int .i64 m, .int .i64 b, .int .i64 o, .int .i64 s, .int .i64 v]] w fun e w' => e = .returned (.int .i64 1) ∧ Below w.heap.size w w' := by
  have hc : p < 0 ∨ (0 ≤ p ∧ 99 < p) ∨ ((0 ≤ p ∧ p ≤ 99) ∧ o < 0) ∨ ((0 ≤ p ∧ p ≤ 99) ∧ (0 ≤ o ∧ 4 < o)) := by
    simp [ruP] at h
    omega
  clear h
  rcases hc with h1 | ⟨h1, h2⟩ | ⟨⟨h1, h2⟩, h3⟩ | ⟨⟨h1, h2⟩, h3, h4⟩
  · have e1 : decide (p < 0) = true := by simp; omega
    go_enter Tryd.func22, Tryd.ntmps22
    go_wp2_with fail
    refine (header_any _ _).mono ?_
    rintro e w' ⟨rfl, rfl⟩
    go_wp2_with fail
    refine (header_any _ _).mono ?_
    rintro e w' ⟨rfl, rfl⟩
    go_wp2
    go_ret
    exact ⟨rfl, (Below.refl _ _).alloc (Nat.le_refl _) _⟩
  · have e1 : decide (p < 0) = false := by simp; omega
    have e2 : decide (99 < p) = true := by simp; omega
    go_enter Tryd.func22, Tryd.ntmps22
    go_wp2_with fail
    refine (header_any _ _).mono ?_
    rintro e w' ⟨rfl, rfl⟩
    go_wp2_with fail
    refine (header_any _ _).mono ?_
    rintro e w' ⟨rfl, rfl⟩
    go_wp2
    go_ret
    exact ⟨rfl, (Below.refl _ _).alloc (Nat.le_refl _) _⟩
  · have e1 : decide (p < 0) = false := by simp; omega
    have e2 : decide (99 < p) = false := by simp; omega
    have e3 : decide (o < 0) = true := by simp; omega
    go_enter Tryd.func22, Tryd.ntmps22
    go_wp2_with fail
    refine (header_any _ _).mono ?_
    rintro e w' ⟨rfl, rfl⟩
    go_wp2_with fail
    refine (header_any _ _).mono ?_
    rintro e w' ⟨rfl, rfl⟩
    go_wp2
    go_ret
    exact ⟨rfl, (Below.refl _ _).alloc (Nat.le_refl _) _⟩
  · have e1 : decide (p < 0) = false := by simp; omega
    have e2 : decide (99 < p) = false := by simp; omega
    have e3 : decide (o < 0) = false := by simp; omega
    have e4 : decide (4 < o) = true := by simp; omega
    go_enter Tryd.func22, Tryd.ntmps22
    go_wp2_with fail
    refine (header_any _ _).mono ?_
    rintro e w' ⟨rfl, rfl⟩
    go_wp2_with fail
    refine (header_any _ _).mono ?_
    rintro e w' ⟨rfl, rfl⟩
    go_wp2
    go_ret
    exact ⟨rfl, (Below.refl _ _).alloc (Nat.le_refl _) _⟩

set_option maxHeartbeats 1000000 in
theorem refRule_set (p m b o s v : Int) (w : World) (h : ruP p o = true) (h2 : rngB s v = false) :
    Calls Tryd.prog 22 #[.agg #[.int .i64 p, .int .i64 m, .int .i64 b, .int .i64 o, .int .i64 s, .int .i64 v]] w fun e w' => e = .returned (.int .i64 1) ∧ Below w.heap.size w w' := by
  obtain ⟨e1, e2, e3, e4⟩ := ruP_of h
  clear h
  cases hs : hdrB s
  · clear h2
    go_enter Tryd.func22, Tryd.ntmps22
    go_wp2_with fail
    refine (header_any _ _).mono ?_
    rintro e w' ⟨rfl, rfl⟩
    rw [hs]
    go_wp2_with fail
    refine (header_any _ _).mono ?_
    rintro e w' ⟨rfl, rfl⟩
    go_wp2
    go_ret
    exact ⟨rfl, (Below.refl _ _).alloc (Nat.le_refl _) _⟩
  · have hv : hdrB v = false := by simpa [rngB, hs] using h2
    clear h2
    go_enter Tryd.func22, Tryd.ntmps22
    go_wp2_with fail
    refine (header_any _ _).mono ?_
    rintro e w' ⟨rfl, rfl⟩
    rw [hs]
    go_wp2_with fail
    refine (header_any _ _).mono ?_
    rintro e w' ⟨rfl, rfl⟩
    rw [hv]
    go_wp2
    go_ret
    exact ⟨rfl, (Below.refl _ _).alloc (Nat.le_refl _) _⟩

set_option maxHeartbeats 1000000 in
theorem refRule_cube (p m b o s v : Int) (w : World) (h : ruP p o = true) (h2 : rngB s v = true) (h3 : okB m b = false) :
    Calls Tryd.prog 22 #[.agg #[.int .i64 p, .int .i64 m, .int .i64 b, .int .i64 o, .int .i64 s, .int .i64 v]] w fun e w' => e = .returned (.int .i64 (refN m b)) ∧ Below w.heap.size w w' := by
  obtain ⟨e1, e2, e3, e4⟩ := ruP_of h
  have hs : hdrB s = true := by simp only [rngB, Bool.and_eq_true] at h2; exact h2.1
  have hv : hdrB v = true := by simp only [rngB, Bool.and_eq_true] at h2; exact h2.2
  have hn : (refN m b != 0) = true := by have := ok_refN m b; rw [h3] at this; simpa using this
  clear h h2 h3
  go_enter Tryd.func22, Tryd.ntmps22
  go_wp2_with fail
  refine (header_any _ _).mono ?_
  rintro e w' ⟨rfl, rfl⟩
  rw [hs]
  go_wp2_with fail
  refine (header_any _ _).mono ?_
  rintro e w' ⟨rfl, rfl⟩
  rw [hv]
  go_wp2_with fail
  refine (refCube_any _ _ _).mono ?_
  rintro e w1 ⟨rfl, hb1⟩
  go_wp2
  go_ret
  exact ⟨rfl, ((Below.refl _ _).alloc (Nat.le_refl _) _).trans (hb1.mono (by simp))⟩

set_option maxHeartbeats 1000000 in
theorem refRule_end (p m b o s v : Int) (w : World) (h : ruP p o = true) (h2 : rngB s v = true) (h3 : okB m b = true) (x : Int) (hx : x = if ruSet o s v then 0 else 3) :
    Calls Tryd.prog 22 #[.agg #[.int .i64 p, .int .i64 m, .int .i64 b, .int .i64 o, .int .i64 s, .int .i64 v]] w fun e w' => e = .returned (.int .i64 x) ∧ Below w.heap.size w w' := by
  obtain ⟨e1, e2, e3, e4⟩ := ruP_of h
  have hs : hdrB s = true := by simp only [rngB, Bool.and_eq_true] at h2; exact h2.1
  have hv : hdrB v = true := by simp only [rngB, Bool.and_eq_true] at h2; exact h2.2
  have hn : refN m b = 0 := refN_ok h3
  have hlt : w.heap.size < (w.alloc (Obj.cells #[Value.int IntKind.i64 p, Value.int IntKind.i64 m, Value.int IntKind.i64 b, Value.int IntKind.i64 o, Value.int IntKind.i64 s, Value.int IntKind.i64 v] 76)).heap.size := by simp
  have ha0 := set_okB h2
  clear h h2 h3
  cases ha : (bits .andNot .i64 v s == 0)
  · have hx3 : x = 3 := by rw [hx]; simp [ruSet, ha]
    subst hx3
    have hz : (refN s v != 0) = true := by have := ok_refN s v; rw [ha0, ha] at this; simpa using this
    clear hx ha0
    go_enter Tryd.func22, Tryd.ntmps22
    go_wp2_with fail
    refine (header_any _ _).mono ?_
    rintro e w' ⟨rfl, rfl⟩
    rw [hs]
    go_wp2_with fail
    refine (header_any _ _).mono ?_
    rintro e w' ⟨rfl, rfl⟩
    rw [hv]
    go_wp2_with fail
    refine (refCube_any _ _ _).mono ?_
    rintro e w1 ⟨rfl, hb1⟩
    rw [hn]
    obtain ⟨hc1, hf1⟩ := bcell hb1
    have hB := ((Below.refl w.heap.size w).alloc (Nat.le_refl _) (Obj.cells #[Value.int IntKind.i64 p, Value.int IntKind.i64 m, Value.int IntKind.i64 b, Value.int IntKind.i64 o, Value.int IntKind.i64 s, Value.int IntKind.i64 v] 76)).trans (hb1.mono (by simp))
    have hlt2 : w.heap.size < w1.heap.size := by have := hb1.size; omega
    clear hb1
    go_wp2_with fail
    refine (refCube_any _ _ _).mono ?_
    rintro e w2 ⟨rfl, hb2⟩
    generalize refN s v = N at *
    obtain ⟨hc2, hf2⟩ := bcell hb2
    have hB2 := hB.trans (hb2.mono (by omega))
    clear hb2 hB
    go_wp2
    go_ret
    exact ⟨rfl, hB2⟩
  · have hz : refN s v = 0 := refN_ok (by rw [ha0, ha])
    clear ha0
    cases ho : (o == 0)
    · have hx3 : x = 0 := by rw [hx]; simp [ruSet, ha, ho]
      subst hx3
      clear hx
      go_enter Tryd.func22, Tryd.ntmps22
      go_wp2_with fail
      refine (header_any _ _).mono ?_
      rintro e w' ⟨rfl, rfl⟩
      rw [hs]
      go_wp2_with fail
      refine (header_any _ _).mono ?_
      rintro e w' ⟨rfl, rfl⟩
      rw [hv]
      go_wp2_with fail
      refine (refCube_any _ _ _).mono ?_
      rintro e w1 ⟨rfl, hb1⟩
      rw [hn]
      obtain ⟨hc1, hf1⟩ := bcell hb1
      have hB := ((Below.refl w.heap.size w).alloc (Nat.le_refl _) (Obj.cells #[Value.int IntKind.i64 p, Value.int IntKind.i64 m, Value.int IntKind.i64 b, Value.int IntKind.i64 o, Value.int IntKind.i64 s, Value.int IntKind.i64 v] 76)).trans (hb1.mono (by simp))
      have hlt2 : w.heap.size < w1.heap.size := by have := hb1.size; omega
      clear hb1
      go_wp2_with fail
      refine (refCube_any _ _ _).mono ?_
      rintro e w2 ⟨rfl, hb2⟩
      rw [hz]
      obtain ⟨hc2, hf2⟩ := bcell hb2
      have hB2 := hB.trans (hb2.mono (by omega))
      clear hb2 hB
      go_wp2
      go_ret
      exact ⟨rfl, hB2⟩
    · have hz2 : x = if (s == 0) then 0 else 3 := by rw [hx]; simp [ruSet, ha, ho]
      clear hx
      cases hs0 : (s == 0)
      · rw [hs0] at hz2
        have hs1 : (s != 0) = true := by simpa using hs0
        simp only [Bool.false_eq_true, if_false] at hz2
        subst hz2
        go_enter Tryd.func22, Tryd.ntmps22
        go_wp2_with fail
        refine (header_any _ _).mono ?_
        rintro e w' ⟨rfl, rfl⟩
        rw [hs]
        go_wp2_with fail
        refine (header_any _ _).mono ?_
        rintro e w' ⟨rfl, rfl⟩
        rw [hv]
        go_wp2_with fail
        refine (refCube_any _ _ _).mono ?_
        rintro e w1 ⟨rfl, hb1⟩
        rw [hn]
        obtain ⟨hc1, hf1⟩ := bcell hb1
        have hB := ((Below.refl w.heap.size w).alloc (Nat.le_refl _) (Obj.cells #[Value.int IntKind.i64 p, Value.int IntKind.i64 m, Value.int IntKind.i64 b, Value.int IntKind.i64 o, Value.int IntKind.i64 s, Value.int IntKind.i64 v] 76)).trans (hb1.mono (by simp))
        have hlt2 : w.heap.size < w1.heap.size := by have := hb1.size; omega
        clear hb1
        go_wp2_with fail
        refine (refCube_any _ _ _).mono ?_
        rintro e w2 ⟨rfl, hb2⟩
        rw [hz]
        obtain ⟨hc2, hf2⟩ := bcell hb2
        have hB2 := hB.trans (hb2.mono (by omega))
        clear hb2 hB
        go_wp2
        go_ret
        exact ⟨rfl, hB2⟩
      · rw [hs0] at hz2
        have hs1 : (s != 0) = false := by simpa using hs0
        simp only [if_true] at hz2
        subst hz2
        go_enter Tryd.func22, Tryd.ntmps22
        go_wp2_with fail
        refine (header_any _ _).mono ?_
        rintro e w' ⟨rfl, rfl⟩
        rw [hs]
        go_wp2_with fail
        refine (header_any _ _).mono ?_
        rintro e w' ⟨rfl, rfl⟩
        rw [hv]
        go_wp2_with fail
        refine (refCube_any _ _ _).mono ?_
        rintro e w1 ⟨rfl, hb1⟩
        rw [hn]
        obtain ⟨hc1, hf1⟩ := bcell hb1
        have hB := ((Below.refl w.heap.size w).alloc (Nat.le_refl _) (Obj.cells #[Value.int IntKind.i64 p, Value.int IntKind.i64 m, Value.int IntKind.i64 b, Value.int IntKind.i64 o, Value.int IntKind.i64 s, Value.int IntKind.i64 v] 76)).trans (hb1.mono (by simp))
        have hlt2 : w.heap.size < w1.heap.size := by have := hb1.size; omega
        clear hb1
        go_wp2_with fail
        refine (refCube_any _ _ _).mono ?_
        rintro e w2 ⟨rfl, hb2⟩
        rw [hz]
        obtain ⟨hc2, hf2⟩ := bcell hb2
        have hB2 := hB.trans (hb2.mono (by omega))
        clear hb2 hB
        go_wp2
        go_ret
        exact ⟨rfl, hB2⟩

theorem refRule_any (p m b o s v : Int) (w : World) :
    Calls Tryd.prog 22 #[.agg #[.int .i64 p, .int .i64 m, .int .i64 b, .int .i64 o, .int .i64 s, .int .i64 v]] w fun e w' => e = .returned (.int .i64 (ruN p m b o s v)) ∧ Below w.heap.size w w' := by
  cases h1 : ruP p o
  · have e : ruN p m b o s v = 1 := by simp [ruN, ruIn, h1]
    rw [e]; exact refRule_prio p m b o s v w h1
  · cases h2 : rngB s v
    · have e : ruN p m b o s v = 1 := by simp [ruN, ruIn, h2]
      rw [e]; exact refRule_set p m b o s v w h1 h2
    · cases h3 : okB m b
      · have e : ruN p m b o s v = refN m b := by simp [ruN, ruIn, h1, h2, h3]
        rw [e]; exact refRule_cube p m b o s v w h1 h2 h3
      · exact refRule_end p m b o s v w h1 h2 h3 _ (by simp [ruN, ruIn, h1, h2, h3])
end Go.Proofs.YtfbocionnjliladDoor
/- What the document's own Table answers, called with any table. -/
namespace Go.Proofs.YtfbocionnjliladDoor
open Go.RowKit
set_option linter.unusedSimpArgs false

theorem to_badF {L : List Ru} {k : Nat} {r : Ru} (hk : k < L.length) (hr : L[k] = r) (h : tbTo L k = 0) (h2 : r.n ≠ 0) (h12 : L.length ≤ 12) : tbN L = r.n := by
  have e : tbTo L (k + 1) = r.n := by rw [tbTo, if_pos h, getD_at hk, hr, if_neg h2]
  rw [tbN, if_neg (by omega), ← e]
  exact to_le (by rw [e]; exact h2) hk
theorem to_clashF {L : List Ru} {k : Nat} {r : Ru} (hk : k < L.length) (hr : L[k] = r) (h : tbTo L k = 0) (h2 : r.n = 0) (h3 : (L.take k).any (fun a => keyB a r) = true) (h12 : L.length ≤ 12) : tbN L = 7 := by
  have e : tbTo L (k + 1) = 7 := by
    rw [tbTo, if_pos h, getD_at hk, hr, if_pos h2, h3]
    rfl
  rw [tbN, if_neg (by omega), ← e]
  exact to_le (by rw [e]; decide) hk
theorem to_nextF {L : List Ru} {k : Nat} {r : Ru} (hk : k < L.length) (hr : L[k] = r) (h : tbTo L k = 0) (h2 : r.n = 0) (h3 : (L.take k).any (fun a => keyB a r) = false) : tbTo L (k + 1) = 0 := by
  rw [tbTo, if_pos h, getD_at hk, hr, if_pos h2, h3]
  rfl
theorem tab_take {L : List Ru} {f : Ru → Bool} {q k : Nat} (hq : q < k) (hk : q < L.length) (h : f L[q] = true) : (L.take k).any f = true :=
  List.any_eq_true.2 ⟨_, List.mem_take_iff_getElem.2 ⟨q, by omega, rfl⟩, h⟩

set_option maxRecDepth 100000 in
set_option maxHeartbeats 4000000 in
theorem refTable_some (g o cap n : Nat) (L : List Ru) (w : World) (hc : RAt w g o L) (hn : L.length = n) (hl : n ≤ 12) :
    Calls Tryd.prog 6 #[.slice (some ⟨g, o, none⟩) n cap] w fun e w' => e = .returned (.int .i64 (tbN L)) ∧ Below w.heap.size w w' := by
  have HN : Hid (L.length = n) := hn
  clear hn
  go_enter Tryd.func6, Tryd.ntmps6
  go_wp2
  go_loopw [3] (fun i wr => ∃ k : Nat, k ≤ n ∧ i = .int .i64 k ∧ tbTo L k = 0 ∧ Below w.heap.size w wr) (fun i _ => n - (intOf i).toNat)
  case atStart => exact ⟨0, by omega, rfl, rfl, Below.refl _ _⟩
  case round =>
    obtain ⟨k, hk, rfl, hno, hB⟩ := hrel
    have HB : Hid (Below w.heap.size w wr) := hB
    have HNO : Hid (tbTo L k = 0) := hno
    clear hno
    by_cases hlt : k < n
    · obtain ⟨p, m, b, q, s, v, hkl, hL, q0, q1, q2, q3, q4, q5⟩ := (hc.later hB).at HN.out hlt
      have HL : Hid (L[k] = ⟨p, m, b, q, s, v⟩) := hL
      clear hL hB
      by_cases ho : ruN p m b q s v = 0
      · have HO : Hid (ruN p m b q s v = 0) := ho
        go_wp2_with fail
        refine (refRule_any _ _ _ _ _ _ _).mono ?_
        rintro e w1 ⟨rfl, hb1⟩
        rw [HO.out]
        have HB1 : Hid (Below w.heap.size w w1) := HB.out.trans (hb1.mono HB.out.size)
        clear hb1 q0 q1 q2 q3 q4 q5 ho
        go_wp2
        go_loopw [5] (fun j w2 => ∃ t : Nat, t ≤ k ∧ j = .int .i64 t ∧ (L.take t).any (fun a => keyB a ⟨p, m, b, q, s, v⟩) = false ∧ Below w.heap.size w w2) (fun j _ => k - (intOf j).toNat)
        case atStart => exact ⟨0, by omega, rfl, by simp, HB1.out⟩
        case round =>
          obtain ⟨t, ht, rfl, hany, hB2⟩ := hrel
          have HANY : Hid ((L.take t).any (fun a => keyB a ⟨p, m, b, q, s, v⟩) = false) := hany
          have HB2 : Hid (Below w.heap.size w wr) := hB2
          clear hany
          by_cases hq : t < k
          · obtain ⟨p4, m4, b4, o4, s4, v4, htl, hLt, y0, y1, y2, y3, y4, y5⟩ := (hc.later hB2).at HN.out (show t < n by omega)
            obtain ⟨p5, m5, b5, o5, s5, v5, _, hLk, r0, r1, r2, r3, r4, r5⟩ := (hc.later hB2).at HN.out hlt
            rw [HL.out] at hLk
            simp only [Ru.mk.injEq] at hLk
            obtain ⟨rfl, rfl, rfl, rfl, rfl, rfl⟩ := hLk
            have HLT : Hid (L[t] = ⟨p4, m4, b4, o4, s4, v4⟩) := hLt
            have HCE : Hid (CD w g (o + t * 6) p4 m4 b4 o4 s4 v4 g (o + k * 6) p m b q s v wr) := ⟨hB2, ⟨y0, y1, y2, y3, y4, y5⟩, r0, r1, r2, r3, r4, r5⟩
            clear y0 y1 y2 y3 y4 y5 r0 r1 r2 r3 r4 r5 hLt hB2
            go_upto_region 12 with fail
            have tb0 : (0 : Int) ≤ (t : Int) := by omega
            have tb1 : (t : Int) < (n : Int) := by omega
            have kb0 : (0 : Int) ≤ (k : Int) := by omega
            have kb1 : (k : Int) < (n : Int) := by omega
            go_cut [51] from 23 to 51 (fun c w' => c = .bool (keyB ⟨p4, m4, b4, o4, s4, v4⟩ ⟨p, m, b, q, s, v⟩) ∧ Below w.heap.size w w')
            case first =>
              as_aux_lemma =>
                by_cases e1 : p4 = p
                · have f1 : (p4 == p) = true := by simpa using e1
                  by_cases e2 : m4 = m ∧ b4 = b
                  · obtain ⟨e2, e3⟩ := e2
                    have hky : keyB ⟨p4, m4, b4, o4, s4, v4⟩ ⟨p, m, b, q, s, v⟩ = true := by rw [key_eq]; simp [e1, e2, e3]
                    have f2 : (m4 == m) = true := by simpa using e2
                    have f3 : (b4 == b) = true := by simpa using e3
                    have hC0 := HCE.out
                    clear e1 e2 e3
                    refine wp_region_quiet (C := CD w g (o + t * 6) p4 m4 b4 o4 s4 v4 g (o + k * 6) p m b q s v) (by kernel_rfl) (by kernel_rfl) (CD.later (W := wr) (Below.drew (Below.refl _ _)) hC0) ?_
                    simp only [List.toList_toArray]
                    go_big_quiet_want
                    refine quiet_val (v := .slice (some ⟨g, o, none⟩) n cap) (fun w' hC => ?_) ?_
                    · obtain ⟨z0, ⟨z1, z2, z3, z4, z5, z6⟩, y1, y2, y3, y4, y5, y6⟩ := hC
                      go_simp
                    simp only [Act.put, List.setIfInBounds_toArray, List.set_cons_zero, List.set_cons_succ]
                    go_big_quiet_on
                    go_big_quiet_want
                    refine quiet_val (v := .int .i64 (t : Int)) (fun w' hC => ?_) ?_
                    · obtain ⟨z0, ⟨z1, z2, z3, z4, z5, z6⟩, y1, y2, y3, y4, y5, y6⟩ := hC
                      go_simp
                    simp only [Act.put, List.setIfInBounds_toArray, List.set_cons_zero, List.set_cons_succ]
                    go_big_quiet_on
                    go_big_quiet_want
                    refine quiet_val (v := .pointer (some ⟨g, o + t * 6, none⟩)) (fun w' hC => ?_) ?_
                    · obtain ⟨z0, ⟨z1, z2, z3, z4, z5, z6⟩, y1, y2, y3, y4, y5, y6⟩ := hC
                      go_simp
                    simp only [Act.put, List.setIfInBounds_toArray, List.set_cons_zero, List.set_cons_succ]
                    go_big_quiet_on
                    go_big_quiet_want
                    refine quiet_val (v := .pointer (some ⟨g, o + t * 6, none⟩)) (fun w' hC => ?_) ?_
                    · obtain ⟨z0, ⟨z1, z2, z3, z4, z5, z6⟩, y1, y2, y3, y4, y5, y6⟩ := hC
                      go_simp
                    simp only [Act.put, List.setIfInBounds_toArray, List.set_cons_zero, List.set_cons_succ]
                    go_big_quiet_on
                    go_big_quiet_want
                    refine quiet_val (v := .int .i64 p4) (fun w' hC => ?_) ?_
                    · obtain ⟨z0, ⟨z1, z2, z3, z4, z5, z6⟩, y1, y2, y3, y4, y5, y6⟩ := hC
                      go_simp
                    simp only [Act.put, List.setIfInBounds_toArray, List.set_cons_zero, List.set_cons_succ]
                    go_big_quiet_on
                    go_big_quiet_want
                    refine quiet_val (v := .slice (some ⟨g, o, none⟩) n cap) (fun w' hC => ?_) ?_
                    · obtain ⟨z0, ⟨z1, z2, z3, z4, z5, z6⟩, y1, y2, y3, y4, y5, y6⟩ := hC
                      go_simp
                    simp only [Act.put, List.setIfInBounds_toArray, List.set_cons_zero, List.set_cons_succ]
                    go_big_quiet_on
                    go_big_quiet_want
                    refine quiet_val (v := .int .i64 (k : Int)) (fun w' hC => ?_) ?_
                    · obtain ⟨z0, ⟨z1, z2, z3, z4, z5, z6⟩, y1, y2, y3, y4, y5, y6⟩ := hC
                      go_simp
                    simp only [Act.put, List.setIfInBounds_toArray, List.set_cons_zero, List.set_cons_succ]
                    go_big_quiet_on
                    go_big_quiet_want
                    refine quiet_val (v := .pointer (some ⟨g, o + k * 6, none⟩)) (fun w' hC => ?_) ?_
                    · obtain ⟨z0, ⟨z1, z2, z3, z4, z5, z6⟩, y1, y2, y3, y4, y5, y6⟩ := hC
                      go_simp
                    simp only [Act.put, List.setIfInBounds_toArray, List.set_cons_zero, List.set_cons_succ]
                    go_big_quiet_on
                    go_big_quiet_want
                    refine quiet_val (v := .pointer (some ⟨g, o + k * 6, none⟩)) (fun w' hC => ?_) ?_
                    · obtain ⟨z0, ⟨z1, z2, z3, z4, z5, z6⟩, y1, y2, y3, y4, y5, y6⟩ := hC
                      go_simp
                    simp only [Act.put, List.setIfInBounds_toArray, List.set_cons_zero, List.set_cons_succ]
                    go_big_quiet_on
                    go_big_quiet_want
                    refine quiet_val (v := .int .i64 p) (fun w' hC => ?_) ?_
                    · obtain ⟨z0, ⟨z1, z2, z3, z4, z5, z6⟩, y1, y2, y3, y4, y5, y6⟩ := hC
                      go_simp
                    simp only [Act.put, List.setIfInBounds_toArray, List.set_cons_zero, List.set_cons_succ]
                    go_big_quiet_on
                    go_big_quiet_want
                    refine quiet_val (v := .bool true) (fun w' hC => ?_) ?_
                    · obtain ⟨z0, ⟨z1, z2, z3, z4, z5, z6⟩, y1, y2, y3, y4, y5, y6⟩ := hC
                      go_simp
                    simp only [Act.put, List.setIfInBounds_toArray, List.set_cons_zero, List.set_cons_succ]
                    go_big_quiet_on
                    go_big_quiet_want
                    refine quiet_val (v := .bool true) (fun w' hC => ?_) ?_
                    · obtain ⟨z0, ⟨z1, z2, z3, z4, z5, z6⟩, y1, y2, y3, y4, y5, y6⟩ := hC
                      go_simp
                    simp only [Act.put, List.setIfInBounds_toArray, List.set_cons_zero, List.set_cons_succ]
                    go_big_quiet_on
                    go_big_quiet_want
                    refine quiet_val (v := .slice (some ⟨g, o, none⟩) n cap) (fun w' hC => ?_) ?_
                    · obtain ⟨z0, ⟨z1, z2, z3, z4, z5, z6⟩, y1, y2, y3, y4, y5, y6⟩ := hC
                      go_simp
                    simp only [Act.put, List.setIfInBounds_toArray, List.set_cons_zero, List.set_cons_succ]
                    go_big_quiet_on
                    go_big_quiet_want
                    refine quiet_val (v := .int .i64 (t : Int)) (fun w' hC => ?_) ?_
                    · obtain ⟨z0, ⟨z1, z2, z3, z4, z5, z6⟩, y1, y2, y3, y4, y5, y6⟩ := hC
                      go_simp
                    simp only [Act.put, List.setIfInBounds_toArray, List.set_cons_zero, List.set_cons_succ]
                    go_big_quiet_on
                    go_big_quiet_want
                    refine quiet_val (v := .pointer (some ⟨g, o + t * 6, none⟩)) (fun w' hC => ?_) ?_
                    · obtain ⟨z0, ⟨z1, z2, z3, z4, z5, z6⟩, y1, y2, y3, y4, y5, y6⟩ := hC
                      go_simp
                    simp only [Act.put, List.setIfInBounds_toArray, List.set_cons_zero, List.set_cons_succ]
                    go_big_quiet_on
                    go_big_quiet_want
                    refine quiet_val (v := .pointer (some ⟨g, o + t * 6 + 1, none⟩)) (fun w' hC => ?_) ?_
                    · obtain ⟨z0, ⟨z1, z2, z3, z4, z5, z6⟩, y1, y2, y3, y4, y5, y6⟩ := hC
                      go_simp
                    simp only [Act.put, List.setIfInBounds_toArray, List.set_cons_zero, List.set_cons_succ]
                    go_big_quiet_on
                    go_big_quiet_want
                    refine quiet_val (v := .agg #[.int .i64 m4, .int .i64 b4]) (fun w' hC => ?_) ?_
                    · obtain ⟨z0, ⟨z1, z2, z3, z4, z5, z6⟩, y1, y2, y3, y4, y5, y6⟩ := hC
                      go_simp
                    simp only [Act.put, List.setIfInBounds_toArray, List.set_cons_zero, List.set_cons_succ]
                    go_big_quiet_on
                    go_big_quiet_want
                    refine quiet_val (v := .slice (some ⟨g, o, none⟩) n cap) (fun w' hC => ?_) ?_
                    · obtain ⟨z0, ⟨z1, z2, z3, z4, z5, z6⟩, y1, y2, y3, y4, y5, y6⟩ := hC
                      go_simp
                    simp only [Act.put, List.setIfInBounds_toArray, List.set_cons_zero, List.set_cons_succ]
                    go_big_quiet_on
                    go_big_quiet_want
                    refine quiet_val (v := .int .i64 (k : Int)) (fun w' hC => ?_) ?_
                    · obtain ⟨z0, ⟨z1, z2, z3, z4, z5, z6⟩, y1, y2, y3, y4, y5, y6⟩ := hC
                      go_simp
                    simp only [Act.put, List.setIfInBounds_toArray, List.set_cons_zero, List.set_cons_succ]
                    go_big_quiet_on
                    go_big_quiet_want
                    refine quiet_val (v := .pointer (some ⟨g, o + k * 6, none⟩)) (fun w' hC => ?_) ?_
                    · obtain ⟨z0, ⟨z1, z2, z3, z4, z5, z6⟩, y1, y2, y3, y4, y5, y6⟩ := hC
                      go_simp
                    simp only [Act.put, List.setIfInBounds_toArray, List.set_cons_zero, List.set_cons_succ]
                    go_big_quiet_on
                    go_big_quiet_want
                    refine quiet_val (v := .pointer (some ⟨g, o + k * 6 + 1, none⟩)) (fun w' hC => ?_) ?_
                    · obtain ⟨z0, ⟨z1, z2, z3, z4, z5, z6⟩, y1, y2, y3, y4, y5, y6⟩ := hC
                      go_simp
                    simp only [Act.put, List.setIfInBounds_toArray, List.set_cons_zero, List.set_cons_succ]
                    go_big_quiet_on
                    go_big_quiet_want
                    refine quiet_val (v := .agg #[.int .i64 m, .int .i64 b]) (fun w' hC => ?_) ?_
                    · obtain ⟨z0, ⟨z1, z2, z3, z4, z5, z6⟩, y1, y2, y3, y4, y5, y6⟩ := hC
                      go_simp
                    simp only [Act.put, List.setIfInBounds_toArray, List.set_cons_zero, List.set_cons_succ]
                    go_big_quiet_on
                    go_big_quiet_want
                    refine quiet_val (v := .bool true) (fun w' hC => ?_) ?_
                    · obtain ⟨z0, ⟨z1, z2, z3, z4, z5, z6⟩, y1, y2, y3, y4, y5, y6⟩ := hC
                      go_simp
                    simp only [Act.put, List.setIfInBounds_toArray, List.set_cons_zero, List.set_cons_succ]
                    go_big_quiet_on
                    go_big_quiet_want
                    refine quiet_val (v := .bool true) (fun w' hC => ?_) ?_
                    · obtain ⟨z0, ⟨z1, z2, z3, z4, z5, z6⟩, y1, y2, y3, y4, y5, y6⟩ := hC
                      go_simp
                    simp only [Act.put, List.setIfInBounds_toArray, List.set_cons_zero, List.set_cons_succ]
                    go_big_quiet_on
                    refine wpQuiet_nil ?_
                    intro w' hC
                    go_wp2_with fail
                    go_meet
                    case rel => exact ⟨by rw [hky], hC.1⟩
                  · have hky : keyB ⟨p4, m4, b4, o4, s4, v4⟩ ⟨p, m, b, q, s, v⟩ = false := by
                      rw [key_eq]
                      simp only [e1, decide_true, Bool.true_and, Bool.and_eq_false_iff, decide_eq_false_iff_not]
                      by_cases e3 : m4 = m
                      · exact .inr fun e4 => e2 ⟨e3, e4⟩
                      · exact .inl e3
                    by_cases e3 : m4 = m
                    · have f3 : ¬ b4 = b := fun e4 => e2 ⟨e3, e4⟩
                      have f2 : (m4 == m) = true := by simpa using e3
                      have f4 : (b4 == b) = false := by simpa using f3
                      clear e2
                      have hC0 := HCE.out
                      clear e1
                      refine wp_region_quiet (C := CD w g (o + t * 6) p4 m4 b4 o4 s4 v4 g (o + k * 6) p m b q s v) (by kernel_rfl) (by kernel_rfl) (CD.later (W := wr) (Below.drew (Below.refl _ _)) hC0) ?_
                      simp only [List.toList_toArray]
                      go_big_quiet_want
                      refine quiet_val (v := .slice (some ⟨g, o, none⟩) n cap) (fun w' hC => ?_) ?_
                      · obtain ⟨z0, ⟨z1, z2, z3, z4, z5, z6⟩, y1, y2, y3, y4, y5, y6⟩ := hC
                        go_simp
                      simp only [Act.put, List.setIfInBounds_toArray, List.set_cons_zero, List.set_cons_succ]
                      go_big_quiet_on
                      go_big_quiet_want
                      refine quiet_val (v := .int .i64 (t : Int)) (fun w' hC => ?_) ?_
                      · obtain ⟨z0, ⟨z1, z2, z3, z4, z5, z6⟩, y1, y2, y3, y4, y5, y6⟩ := hC
                        go_simp
                      simp only [Act.put, List.setIfInBounds_toArray, List.set_cons_zero, List.set_cons_succ]
                      go_big_quiet_on
                      go_big_quiet_want
                      refine quiet_val (v := .pointer (some ⟨g, o + t * 6, none⟩)) (fun w' hC => ?_) ?_
                      · obtain ⟨z0, ⟨z1, z2, z3, z4, z5, z6⟩, y1, y2, y3, y4, y5, y6⟩ := hC
                        go_simp
                      simp only [Act.put, List.setIfInBounds_toArray, List.set_cons_zero, List.set_cons_succ]
                      go_big_quiet_on
                      go_big_quiet_want
                      refine quiet_val (v := .pointer (some ⟨g, o + t * 6, none⟩)) (fun w' hC => ?_) ?_
                      · obtain ⟨z0, ⟨z1, z2, z3, z4, z5, z6⟩, y1, y2, y3, y4, y5, y6⟩ := hC
                        go_simp
                      simp only [Act.put, List.setIfInBounds_toArray, List.set_cons_zero, List.set_cons_succ]
                      go_big_quiet_on
                      go_big_quiet_want
                      refine quiet_val (v := .int .i64 p4) (fun w' hC => ?_) ?_
                      · obtain ⟨z0, ⟨z1, z2, z3, z4, z5, z6⟩, y1, y2, y3, y4, y5, y6⟩ := hC
                        go_simp
                      simp only [Act.put, List.setIfInBounds_toArray, List.set_cons_zero, List.set_cons_succ]
                      go_big_quiet_on
                      go_big_quiet_want
                      refine quiet_val (v := .slice (some ⟨g, o, none⟩) n cap) (fun w' hC => ?_) ?_
                      · obtain ⟨z0, ⟨z1, z2, z3, z4, z5, z6⟩, y1, y2, y3, y4, y5, y6⟩ := hC
                        go_simp
                      simp only [Act.put, List.setIfInBounds_toArray, List.set_cons_zero, List.set_cons_succ]
                      go_big_quiet_on
                      go_big_quiet_want
                      refine quiet_val (v := .int .i64 (k : Int)) (fun w' hC => ?_) ?_
                      · obtain ⟨z0, ⟨z1, z2, z3, z4, z5, z6⟩, y1, y2, y3, y4, y5, y6⟩ := hC
                        go_simp
                      simp only [Act.put, List.setIfInBounds_toArray, List.set_cons_zero, List.set_cons_succ]
                      go_big_quiet_on
                      go_big_quiet_want
                      refine quiet_val (v := .pointer (some ⟨g, o + k * 6, none⟩)) (fun w' hC => ?_) ?_
                      · obtain ⟨z0, ⟨z1, z2, z3, z4, z5, z6⟩, y1, y2, y3, y4, y5, y6⟩ := hC
                        go_simp
                      simp only [Act.put, List.setIfInBounds_toArray, List.set_cons_zero, List.set_cons_succ]
                      go_big_quiet_on
                      go_big_quiet_want
                      refine quiet_val (v := .pointer (some ⟨g, o + k * 6, none⟩)) (fun w' hC => ?_) ?_
                      · obtain ⟨z0, ⟨z1, z2, z3, z4, z5, z6⟩, y1, y2, y3, y4, y5, y6⟩ := hC
                        go_simp
                      simp only [Act.put, List.setIfInBounds_toArray, List.set_cons_zero, List.set_cons_succ]
                      go_big_quiet_on
                      go_big_quiet_want
                      refine quiet_val (v := .int .i64 p) (fun w' hC => ?_) ?_
                      · obtain ⟨z0, ⟨z1, z2, z3, z4, z5, z6⟩, y1, y2, y3, y4, y5, y6⟩ := hC
                        go_simp
                      simp only [Act.put, List.setIfInBounds_toArray, List.set_cons_zero, List.set_cons_succ]
                      go_big_quiet_on
                      go_big_quiet_want
                      refine quiet_val (v := .bool true) (fun w' hC => ?_) ?_
                      · obtain ⟨z0, ⟨z1, z2, z3, z4, z5, z6⟩, y1, y2, y3, y4, y5, y6⟩ := hC
                        go_simp
                      simp only [Act.put, List.setIfInBounds_toArray, List.set_cons_zero, List.set_cons_succ]
                      go_big_quiet_on
                      go_big_quiet_want
                      refine quiet_val (v := .bool true) (fun w' hC => ?_) ?_
                      · obtain ⟨z0, ⟨z1, z2, z3, z4, z5, z6⟩, y1, y2, y3, y4, y5, y6⟩ := hC
                        go_simp
                      simp only [Act.put, List.setIfInBounds_toArray, List.set_cons_zero, List.set_cons_succ]
                      go_big_quiet_on
                      go_big_quiet_want
                      refine quiet_val (v := .slice (some ⟨g, o, none⟩) n cap) (fun w' hC => ?_) ?_
                      · obtain ⟨z0, ⟨z1, z2, z3, z4, z5, z6⟩, y1, y2, y3, y4, y5, y6⟩ := hC
                        go_simp
                      simp only [Act.put, List.setIfInBounds_toArray, List.set_cons_zero, List.set_cons_succ]
                      go_big_quiet_on
                      go_big_quiet_want
                      refine quiet_val (v := .int .i64 (t : Int)) (fun w' hC => ?_) ?_
                      · obtain ⟨z0, ⟨z1, z2, z3, z4, z5, z6⟩, y1, y2, y3, y4, y5, y6⟩ := hC
                        go_simp
                      simp only [Act.put, List.setIfInBounds_toArray, List.set_cons_zero, List.set_cons_succ]
                      go_big_quiet_on
                      go_big_quiet_want
                      refine quiet_val (v := .pointer (some ⟨g, o + t * 6, none⟩)) (fun w' hC => ?_) ?_
                      · obtain ⟨z0, ⟨z1, z2, z3, z4, z5, z6⟩, y1, y2, y3, y4, y5, y6⟩ := hC
                        go_simp
                      simp only [Act.put, List.setIfInBounds_toArray, List.set_cons_zero, List.set_cons_succ]
                      go_big_quiet_on
                      go_big_quiet_want
                      refine quiet_val (v := .pointer (some ⟨g, o + t * 6 + 1, none⟩)) (fun w' hC => ?_) ?_
                      · obtain ⟨z0, ⟨z1, z2, z3, z4, z5, z6⟩, y1, y2, y3, y4, y5, y6⟩ := hC
                        go_simp
                      simp only [Act.put, List.setIfInBounds_toArray, List.set_cons_zero, List.set_cons_succ]
                      go_big_quiet_on
                      go_big_quiet_want
                      refine quiet_val (v := .agg #[.int .i64 m4, .int .i64 b4]) (fun w' hC => ?_) ?_
                      · obtain ⟨z0, ⟨z1, z2, z3, z4, z5, z6⟩, y1, y2, y3, y4, y5, y6⟩ := hC
                        go_simp
                      simp only [Act.put, List.setIfInBounds_toArray, List.set_cons_zero, List.set_cons_succ]
                      go_big_quiet_on
                      go_big_quiet_want
                      refine quiet_val (v := .slice (some ⟨g, o, none⟩) n cap) (fun w' hC => ?_) ?_
                      · obtain ⟨z0, ⟨z1, z2, z3, z4, z5, z6⟩, y1, y2, y3, y4, y5, y6⟩ := hC
                        go_simp
                      simp only [Act.put, List.setIfInBounds_toArray, List.set_cons_zero, List.set_cons_succ]
                      go_big_quiet_on
                      go_big_quiet_want
                      refine quiet_val (v := .int .i64 (k : Int)) (fun w' hC => ?_) ?_
                      · obtain ⟨z0, ⟨z1, z2, z3, z4, z5, z6⟩, y1, y2, y3, y4, y5, y6⟩ := hC
                        go_simp
                      simp only [Act.put, List.setIfInBounds_toArray, List.set_cons_zero, List.set_cons_succ]
                      go_big_quiet_on
                      go_big_quiet_want
                      refine quiet_val (v := .pointer (some ⟨g, o + k * 6, none⟩)) (fun w' hC => ?_) ?_
                      · obtain ⟨z0, ⟨z1, z2, z3, z4, z5, z6⟩, y1, y2, y3, y4, y5, y6⟩ := hC
                        go_simp
                      simp only [Act.put, List.setIfInBounds_toArray, List.set_cons_zero, List.set_cons_succ]
                      go_big_quiet_on
                      go_big_quiet_want
                      refine quiet_val (v := .pointer (some ⟨g, o + k * 6 + 1, none⟩)) (fun w' hC => ?_) ?_
                      · obtain ⟨z0, ⟨z1, z2, z3, z4, z5, z6⟩, y1, y2, y3, y4, y5, y6⟩ := hC
                        go_simp
                      simp only [Act.put, List.setIfInBounds_toArray, List.set_cons_zero, List.set_cons_succ]
                      go_big_quiet_on
                      go_big_quiet_want
                      refine quiet_val (v := .agg #[.int .i64 m, .int .i64 b]) (fun w' hC => ?_) ?_
                      · obtain ⟨z0, ⟨z1, z2, z3, z4, z5, z6⟩, y1, y2, y3, y4, y5, y6⟩ := hC
                        go_simp
                      simp only [Act.put, List.setIfInBounds_toArray, List.set_cons_zero, List.set_cons_succ]
                      go_big_quiet_on
                      go_big_quiet_want
                      refine quiet_val (v := .bool false) (fun w' hC => ?_) ?_
                      · obtain ⟨z0, ⟨z1, z2, z3, z4, z5, z6⟩, y1, y2, y3, y4, y5, y6⟩ := hC
                        go_simp
                      simp only [Act.put, List.setIfInBounds_toArray, List.set_cons_zero, List.set_cons_succ]
                      go_big_quiet_on
                      go_big_quiet_want
                      refine quiet_val (v := .bool false) (fun w' hC => ?_) ?_
                      · obtain ⟨z0, ⟨z1, z2, z3, z4, z5, z6⟩, y1, y2, y3, y4, y5, y6⟩ := hC
                        go_simp
                      simp only [Act.put, List.setIfInBounds_toArray, List.set_cons_zero, List.set_cons_succ]
                      go_big_quiet_on
                      refine wpQuiet_nil ?_
                      intro w' hC
                      go_wp2_with fail
                      go_meet
                      case rel => exact ⟨by rw [hky], hC.1⟩
                    · have f2 : (m4 == m) = false := by simpa using e3
                      clear e2
                      have hC0 := HCE.out
                      clear e1
                      refine wp_region_quiet (C := CD w g (o + t * 6) p4 m4 b4 o4 s4 v4 g (o + k * 6) p m b q s v) (by kernel_rfl) (by kernel_rfl) (CD.later (W := wr) (Below.drew (Below.refl _ _)) hC0) ?_
                      simp only [List.toList_toArray]
                      go_big_quiet_want
                      refine quiet_val (v := .slice (some ⟨g, o, none⟩) n cap) (fun w' hC => ?_) ?_
                      · obtain ⟨z0, ⟨z1, z2, z3, z4, z5, z6⟩, y1, y2, y3, y4, y5, y6⟩ := hC
                        go_simp
                      simp only [Act.put, List.setIfInBounds_toArray, List.set_cons_zero, List.set_cons_succ]
                      go_big_quiet_on
                      go_big_quiet_want
                      refine quiet_val (v := .int .i64 (t : Int)) (fun w' hC => ?_) ?_
                      · obtain ⟨z0, ⟨z1, z2, z3, z4, z5, z6⟩, y1, y2, y3, y4, y5, y6⟩ := hC
                        go_simp
                      simp only [Act.put, List.setIfInBounds_toArray, List.set_cons_zero, List.set_cons_succ]
                      go_big_quiet_on
                      go_big_quiet_want
                      refine quiet_val (v := .pointer (some ⟨g, o + t * 6, none⟩)) (fun w' hC => ?_) ?_
                      · obtain ⟨z0, ⟨z1, z2, z3, z4, z5, z6⟩, y1, y2, y3, y4, y5, y6⟩ := hC
                        go_simp
                      simp only [Act.put, List.setIfInBounds_toArray, List.set_cons_zero, List.set_cons_succ]
                      go_big_quiet_on
                      go_big_quiet_want
                      refine quiet_val (v := .pointer (some ⟨g, o + t * 6, none⟩)) (fun w' hC => ?_) ?_
                      · obtain ⟨z0, ⟨z1, z2, z3, z4, z5, z6⟩, y1, y2, y3, y4, y5, y6⟩ := hC
                        go_simp
                      simp only [Act.put, List.setIfInBounds_toArray, List.set_cons_zero, List.set_cons_succ]
                      go_big_quiet_on
                      go_big_quiet_want
                      refine quiet_val (v := .int .i64 p4) (fun w' hC => ?_) ?_
                      · obtain ⟨z0, ⟨z1, z2, z3, z4, z5, z6⟩, y1, y2, y3, y4, y5, y6⟩ := hC
                        go_simp
                      simp only [Act.put, List.setIfInBounds_toArray, List.set_cons_zero, List.set_cons_succ]
                      go_big_quiet_on
                      go_big_quiet_want
                      refine quiet_val (v := .slice (some ⟨g, o, none⟩) n cap) (fun w' hC => ?_) ?_
                      · obtain ⟨z0, ⟨z1, z2, z3, z4, z5, z6⟩, y1, y2, y3, y4, y5, y6⟩ := hC
                        go_simp
                      simp only [Act.put, List.setIfInBounds_toArray, List.set_cons_zero, List.set_cons_succ]
                      go_big_quiet_on
                      go_big_quiet_want
                      refine quiet_val (v := .int .i64 (k : Int)) (fun w' hC => ?_) ?_
                      · obtain ⟨z0, ⟨z1, z2, z3, z4, z5, z6⟩, y1, y2, y3, y4, y5, y6⟩ := hC
                        go_simp
                      simp only [Act.put, List.setIfInBounds_toArray, List.set_cons_zero, List.set_cons_succ]
                      go_big_quiet_on
                      go_big_quiet_want
                      refine quiet_val (v := .pointer (some ⟨g, o + k * 6, none⟩)) (fun w' hC => ?_) ?_
                      · obtain ⟨z0, ⟨z1, z2, z3, z4, z5, z6⟩, y1, y2, y3, y4, y5, y6⟩ := hC
                        go_simp
                      simp only [Act.put, List.setIfInBounds_toArray, List.set_cons_zero, List.set_cons_succ]
                      go_big_quiet_on
                      go_big_quiet_want
                      refine quiet_val (v := .pointer (some ⟨g, o + k * 6, none⟩)) (fun w' hC => ?_) ?_
                      · obtain ⟨z0, ⟨z1, z2, z3, z4, z5, z6⟩, y1, y2, y3, y4, y5, y6⟩ := hC
                        go_simp
                      simp only [Act.put, List.setIfInBounds_toArray, List.set_cons_zero, List.set_cons_succ]
                      go_big_quiet_on
                      go_big_quiet_want
                      refine quiet_val (v := .int .i64 p) (fun w' hC => ?_) ?_
                      · obtain ⟨z0, ⟨z1, z2, z3, z4, z5, z6⟩, y1, y2, y3, y4, y5, y6⟩ := hC
                        go_simp
                      simp only [Act.put, List.setIfInBounds_toArray, List.set_cons_zero, List.set_cons_succ]
                      go_big_quiet_on
                      go_big_quiet_want
                      refine quiet_val (v := .bool true) (fun w' hC => ?_) ?_
                      · obtain ⟨z0, ⟨z1, z2, z3, z4, z5, z6⟩, y1, y2, y3, y4, y5, y6⟩ := hC
                        go_simp
                      simp only [Act.put, List.setIfInBounds_toArray, List.set_cons_zero, List.set_cons_succ]
                      go_big_quiet_on
                      go_big_quiet_want
                      refine quiet_val (v := .bool true) (fun w' hC => ?_) ?_
                      · obtain ⟨z0, ⟨z1, z2, z3, z4, z5, z6⟩, y1, y2, y3, y4, y5, y6⟩ := hC
                        go_simp
                      simp only [Act.put, List.setIfInBounds_toArray, List.set_cons_zero, List.set_cons_succ]
                      go_big_quiet_on
                      go_big_quiet_want
                      refine quiet_val (v := .slice (some ⟨g, o, none⟩) n cap) (fun w' hC => ?_) ?_
                      · obtain ⟨z0, ⟨z1, z2, z3, z4, z5, z6⟩, y1, y2, y3, y4, y5, y6⟩ := hC
                        go_simp
                      simp only [Act.put, List.setIfInBounds_toArray, List.set_cons_zero, List.set_cons_succ]
                      go_big_quiet_on
                      go_big_quiet_want
                      refine quiet_val (v := .int .i64 (t : Int)) (fun w' hC => ?_) ?_
                      · obtain ⟨z0, ⟨z1, z2, z3, z4, z5, z6⟩, y1, y2, y3, y4, y5, y6⟩ := hC
                        go_simp
                      simp only [Act.put, List.setIfInBounds_toArray, List.set_cons_zero, List.set_cons_succ]
                      go_big_quiet_on
                      go_big_quiet_want
                      refine quiet_val (v := .pointer (some ⟨g, o + t * 6, none⟩)) (fun w' hC => ?_) ?_
                      · obtain ⟨z0, ⟨z1, z2, z3, z4, z5, z6⟩, y1, y2, y3, y4, y5, y6⟩ := hC
                        go_simp
                      simp only [Act.put, List.setIfInBounds_toArray, List.set_cons_zero, List.set_cons_succ]
                      go_big_quiet_on
                      go_big_quiet_want
                      refine quiet_val (v := .pointer (some ⟨g, o + t * 6 + 1, none⟩)) (fun w' hC => ?_) ?_
                      · obtain ⟨z0, ⟨z1, z2, z3, z4, z5, z6⟩, y1, y2, y3, y4, y5, y6⟩ := hC
                        go_simp
                      simp only [Act.put, List.setIfInBounds_toArray, List.set_cons_zero, List.set_cons_succ]
                      go_big_quiet_on
                      go_big_quiet_want
                      refine quiet_val (v := .agg #[.int .i64 m4, .int .i64 b4]) (fun w' hC => ?_) ?_
                      · obtain ⟨z0, ⟨z1, z2, z3, z4, z5, z6⟩, y1, y2, y3, y4, y5, y6⟩ := hC
                        go_simp
                      simp only [Act.put, List.setIfInBounds_toArray, List.set_cons_zero, List.set_cons_succ]
                      go_big_quiet_on
                      go_big_quiet_want
                      refine quiet_val (v := .slice (some ⟨g, o, none⟩) n cap) (fun w' hC => ?_) ?_
                      · obtain ⟨z0, ⟨z1, z2, z3, z4, z5, z6⟩, y1, y2, y3, y4, y5, y6⟩ := hC
                        go_simp
                      simp only [Act.put, List.setIfInBounds_toArray, List.set_cons_zero, List.set_cons_succ]
                      go_big_quiet_on
                      go_big_quiet_want
                      refine quiet_val (v := .int .i64 (k : Int)) (fun w' hC => ?_) ?_
                      · obtain ⟨z0, ⟨z1, z2, z3, z4, z5, z6⟩, y1, y2, y3, y4, y5, y6⟩ := hC
                        go_simp
                      simp only [Act.put, List.setIfInBounds_toArray, List.set_cons_zero, List.set_cons_succ]
                      go_big_quiet_on
                      go_big_quiet_want
                      refine quiet_val (v := .pointer (some ⟨g, o + k * 6, none⟩)) (fun w' hC => ?_) ?_
                      · obtain ⟨z0, ⟨z1, z2, z3, z4, z5, z6⟩, y1, y2, y3, y4, y5, y6⟩ := hC
                        go_simp
                      simp only [Act.put, List.setIfInBounds_toArray, List.set_cons_zero, List.set_cons_succ]
                      go_big_quiet_on
                      go_big_quiet_want
                      refine quiet_val (v := .pointer (some ⟨g, o + k * 6 + 1, none⟩)) (fun w' hC => ?_) ?_
                      · obtain ⟨z0, ⟨z1, z2, z3, z4, z5, z6⟩, y1, y2, y3, y4, y5, y6⟩ := hC
                        go_simp
                      simp only [Act.put, List.setIfInBounds_toArray, List.set_cons_zero, List.set_cons_succ]
                      go_big_quiet_on
                      go_big_quiet_want
                      refine quiet_val (v := .agg #[.int .i64 m, .int .i64 b]) (fun w' hC => ?_) ?_
                      · obtain ⟨z0, ⟨z1, z2, z3, z4, z5, z6⟩, y1, y2, y3, y4, y5, y6⟩ := hC
                        go_simp
                      simp only [Act.put, List.setIfInBounds_toArray, List.set_cons_zero, List.set_cons_succ]
                      go_big_quiet_on
                      go_big_quiet_want
                      refine quiet_val (v := .bool false) (fun w' hC => ?_) ?_
                      · obtain ⟨z0, ⟨z1, z2, z3, z4, z5, z6⟩, y1, y2, y3, y4, y5, y6⟩ := hC
                        go_simp
                      simp only [Act.put, List.setIfInBounds_toArray, List.set_cons_zero, List.set_cons_succ]
                      go_big_quiet_on
                      go_big_quiet_want
                      refine quiet_val (v := .bool false) (fun w' hC => ?_) ?_
                      · obtain ⟨z0, ⟨z1, z2, z3, z4, z5, z6⟩, y1, y2, y3, y4, y5, y6⟩ := hC
                        go_simp
                      simp only [Act.put, List.setIfInBounds_toArray, List.set_cons_zero, List.set_cons_succ]
                      go_big_quiet_on
                      refine wpQuiet_nil ?_
                      intro w' hC
                      go_wp2_with fail
                      go_meet
                      case rel => exact ⟨by rw [hky], hC.1⟩
                · have hky : keyB ⟨p4, m4, b4, o4, s4, v4⟩ ⟨p, m, b, q, s, v⟩ = false := by rw [key_eq]; simp [e1]
                  have f1 : (p4 == p) = false := by simpa using e1
                  have hC0 := HCE.out
                  clear e1
                  refine wp_region_quiet (C := CD w g (o + t * 6) p4 m4 b4 o4 s4 v4 g (o + k * 6) p m b q s v) (by kernel_rfl) (by kernel_rfl) (CD.later (W := wr) (Below.drew (Below.refl _ _)) hC0) ?_
                  simp only [List.toList_toArray]
                  go_big_quiet_want
                  refine quiet_val (v := .slice (some ⟨g, o, none⟩) n cap) (fun w' hC => ?_) ?_
                  · obtain ⟨z0, ⟨z1, z2, z3, z4, z5, z6⟩, y1, y2, y3, y4, y5, y6⟩ := hC
                    go_simp
                  simp only [Act.put, List.setIfInBounds_toArray, List.set_cons_zero, List.set_cons_succ]
                  go_big_quiet_on
                  go_big_quiet_want
                  refine quiet_val (v := .int .i64 (t : Int)) (fun w' hC => ?_) ?_
                  · obtain ⟨z0, ⟨z1, z2, z3, z4, z5, z6⟩, y1, y2, y3, y4, y5, y6⟩ := hC
                    go_simp
                  simp only [Act.put, List.setIfInBounds_toArray, List.set_cons_zero, List.set_cons_succ]
                  go_big_quiet_on
                  go_big_quiet_want
                  refine quiet_val (v := .pointer (some ⟨g, o + t * 6, none⟩)) (fun w' hC => ?_) ?_
                  · obtain ⟨z0, ⟨z1, z2, z3, z4, z5, z6⟩, y1, y2, y3, y4, y5, y6⟩ := hC
                    go_simp
                  simp only [Act.put, List.setIfInBounds_toArray, List.set_cons_zero, List.set_cons_succ]
                  go_big_quiet_on
                  go_big_quiet_want
                  refine quiet_val (v := .pointer (some ⟨g, o + t * 6, none⟩)) (fun w' hC => ?_) ?_
                  · obtain ⟨z0, ⟨z1, z2, z3, z4, z5, z6⟩, y1, y2, y3, y4, y5, y6⟩ := hC
                    go_simp
                  simp only [Act.put, List.setIfInBounds_toArray, List.set_cons_zero, List.set_cons_succ]
                  go_big_quiet_on
                  go_big_quiet_want
                  refine quiet_val (v := .int .i64 p4) (fun w' hC => ?_) ?_
                  · obtain ⟨z0, ⟨z1, z2, z3, z4, z5, z6⟩, y1, y2, y3, y4, y5, y6⟩ := hC
                    go_simp
                  simp only [Act.put, List.setIfInBounds_toArray, List.set_cons_zero, List.set_cons_succ]
                  go_big_quiet_on
                  go_big_quiet_want
                  refine quiet_val (v := .slice (some ⟨g, o, none⟩) n cap) (fun w' hC => ?_) ?_
                  · obtain ⟨z0, ⟨z1, z2, z3, z4, z5, z6⟩, y1, y2, y3, y4, y5, y6⟩ := hC
                    go_simp
                  simp only [Act.put, List.setIfInBounds_toArray, List.set_cons_zero, List.set_cons_succ]
                  go_big_quiet_on
                  go_big_quiet_want
                  refine quiet_val (v := .int .i64 (k : Int)) (fun w' hC => ?_) ?_
                  · obtain ⟨z0, ⟨z1, z2, z3, z4, z5, z6⟩, y1, y2, y3, y4, y5, y6⟩ := hC
                    go_simp
                  simp only [Act.put, List.setIfInBounds_toArray, List.set_cons_zero, List.set_cons_succ]
                  go_big_quiet_on
                  go_big_quiet_want
                  refine quiet_val (v := .pointer (some ⟨g, o + k * 6, none⟩)) (fun w' hC => ?_) ?_
                  · obtain ⟨z0, ⟨z1, z2, z3, z4, z5, z6⟩, y1, y2, y3, y4, y5, y6⟩ := hC
                    go_simp
                  simp only [Act.put, List.setIfInBounds_toArray, List.set_cons_zero, List.set_cons_succ]
                  go_big_quiet_on
                  go_big_quiet_want
                  refine quiet_val (v := .pointer (some ⟨g, o + k * 6, none⟩)) (fun w' hC => ?_) ?_
                  · obtain ⟨z0, ⟨z1, z2, z3, z4, z5, z6⟩, y1, y2, y3, y4, y5, y6⟩ := hC
                    go_simp
                  simp only [Act.put, List.setIfInBounds_toArray, List.set_cons_zero, List.set_cons_succ]
                  go_big_quiet_on
                  go_big_quiet_want
                  refine quiet_val (v := .int .i64 p) (fun w' hC => ?_) ?_
                  · obtain ⟨z0, ⟨z1, z2, z3, z4, z5, z6⟩, y1, y2, y3, y4, y5, y6⟩ := hC
                    go_simp
                  simp only [Act.put, List.setIfInBounds_toArray, List.set_cons_zero, List.set_cons_succ]
                  go_big_quiet_on
                  go_big_quiet_want
                  refine quiet_val (v := .bool false) (fun w' hC => ?_) ?_
                  · obtain ⟨z0, ⟨z1, z2, z3, z4, z5, z6⟩, y1, y2, y3, y4, y5, y6⟩ := hC
                    go_simp
                  simp only [Act.put, List.setIfInBounds_toArray, List.set_cons_zero, List.set_cons_succ]
                  go_big_quiet_on
                  go_big_quiet_want
                  refine quiet_val (v := .bool false) (fun w' hC => ?_) ?_
                  · obtain ⟨z0, ⟨z1, z2, z3, z4, z5, z6⟩, y1, y2, y3, y4, y5, y6⟩ := hC
                    go_simp
                  simp only [Act.put, List.setIfInBounds_toArray, List.set_cons_zero, List.set_cons_succ]
                  go_big_quiet_on
                  go_big_quiet_skip
                  go_big_quiet_skip
                  go_big_quiet_skip
                  go_big_quiet_skip
                  go_big_quiet_skip
                  go_big_quiet_skip
                  go_big_quiet_skip
                  go_big_quiet_skip
                  go_big_quiet_skip
                  go_big_quiet_skip
                  go_big_quiet_skip
                  go_big_quiet_want
                  refine quiet_val (v := .bool false) (fun w' hC => ?_) ?_
                  · obtain ⟨z0, ⟨z1, z2, z3, z4, z5, z6⟩, y1, y2, y3, y4, y5, y6⟩ := hC
                    go_simp
                  simp only [Act.put, List.setIfInBounds_toArray, List.set_cons_zero, List.set_cons_succ]
                  go_big_quiet_on
                  refine wpQuiet_nil ?_
                  intro w' hC
                  go_wp2_with fail
                  go_meet
                  case rel => exact ⟨by rw [hky], hC.1⟩
            case rest =>
              obtain ⟨hc2, hB3⟩ := hcut
              clear HCE
              cases hky : keyB ⟨p4, m4, b4, o4, s4, v4⟩ ⟨p, m, b, q, s, v⟩
              · rw [hky] at hc2
                subst hc2
                go_wp2
                go_roundw
                case rel => exact ⟨t + 1, by omega, by go_num, any_nextR htl HANY.out (by rw [HLT.out]; exact hky), hB3⟩
                case measure => simp [intOf]; omega
              · rw [hky] at hc2
                subst hc2
                have HT : Hid (tbN L = 7) := to_clashF hkl HL.out HNO.out HO.out (tab_take hq htl (by rw [HLT.out]; exact hky)) (by rw [HN.out]; exact hl)
                go_wp2
                go_ret
                exact ⟨by rw [HT.out]; rfl, hB3⟩
          · obtain rfl : t = k := by omega
            clear hB2
            go_wp2
            go_roundw
            case rel => exact ⟨t + 1, by omega, by go_num, to_nextF hkl HL.out HNO.out HO.out HANY.out, HB2.out⟩
            case measure => simp [intOf]; omega
      · have HT : Hid (tbN L = ruN p m b q s v) := to_badF hkl HL.out HNO.out ho (by rw [HN.out]; exact hl)
        have ho2 : (ruN p m b q s v != 0) = true := by simpa using ho
        clear ho
        go_wp2_with fail
        refine (refRule_any _ _ _ _ _ _ _).mono ?_
        rintro e w1 ⟨rfl, hb1⟩
        have HB1 := HB.out.trans (hb1.mono HB.out.size)
        clear hb1
        go_wp2
        go_ret
        exact ⟨by rw [HT.out]; rfl, HB1⟩
    · obtain rfl : k = n := by omega
      go_wp2
      go_ret
      refine ⟨?_, HB.out⟩
      have e1 : tbN L = 0 := by
        rw [tbN, if_neg (by rw [HN.out]; omega), HN.out]
        exact HNO.out
      rw [e1]
      rfl

set_option maxHeartbeats 1000000 in
theorem refTable_long (ao : Option Addr) (cap n : Nat) (w : World) (hl : 12 < n) :
    Calls Tryd.prog 6 #[.slice ao n cap] w fun e w' => e = .returned (.int .i64 4) ∧ Below w.heap.size w w' := by
  go_enter Tryd.func6, Tryd.ntmps6
  go_wp2
  go_ret
  exact ⟨rfl, Below.refl _ _⟩

set_option maxHeartbeats 1000000 in
theorem refTable_nil (ao : Option Addr) (cap : Nat) (w : World) :
    Calls Tryd.prog 6 #[.slice ao 0 cap] w fun e w' => e = .returned (.int .i64 0) ∧ Below w.heap.size w w' := by
  go_enter Tryd.func6, Tryd.ntmps6
  go_wp2
  go_loopw [3] (fun i wr => i = .int .i64 0 ∧ wr = w) (fun i _ => 0)
  case atStart => exact ⟨rfl, rfl⟩
  case round =>
    obtain ⟨rfl, rfl⟩ := hrel
    go_wp2
    go_ret
    exact ⟨rfl, Below.refl _ _⟩

theorem refTable_any (v : Value) (L : List Ru) (w : World) (h : SR w v L) :
    Calls Tryd.prog 6 #[v] w fun e w' => e = .returned (.int .i64 (tbN L)) ∧ Below w.heap.size w w' := by
  rcases h with ⟨ao, cap, rfl, rfl⟩ | ⟨g, o, cap, rfl, h1, h2, hc⟩
  · exact refTable_nil ao cap w
  · by_cases h12 : 12 < L.length
    · have e : tbN L = 4 := by simp [tbN, h12]
      rw [e]; exact refTable_long _ _ _ _ h12
    · exact refTable_some _ _ _ _ L w hc rfl (by omega)
end Go.Proofs.YtfbocionnjliladDoor
/- What railref1.Net answers: a contract for the walks above it. -/
namespace Go.Proofs.YtfbocionnjliladDoor
open Go.RowKit
set_option linter.unusedSimpArgs false
set_option linter.unusedVariables false

set_option maxHeartbeats 2000000 in
set_option maxRecDepth 100000 in
theorem rnet_any (S : Int) (ao : Option Addr) (n cap : Nat) (ao2 : Option Addr) (n2 cap2 : Nat) (ao3 : Option Addr) (n3 cap3 : Nat) (Ls : List ((Int × Int) × (Int × Int))) (Hs : List (ByteArray × (Int × Int))) (Ts : List (List Ru)) (w : World)
    (hL : GS lnkE w (.slice ao n cap) Ls) (hH : GS hstE w (.slice ao2 n2 cap2) Hs) (hT : TS w (.slice ao3 n3 cap3) Ts) :
    Calls Tryd.prog 11 #[.agg #[.int .i64 S, .slice ao n cap, .slice ao2 n2 cap2, .slice ao3 n3 cap3]] w fun e w' => e = .returned (.int .i64 (ntN S Ls Hs Ts)) ∧ Below w.heap.size w w' := by
  have hb1 : Below w.heap.size w (w.alloc (Obj.cells #[.int .i64 S, .slice ao n cap, .slice ao2 n2 cap2, .slice ao3 n3 cap3] 28)) := (Below.refl _ _).alloc (Nat.le_refl _) _
  obtain ⟨C, hC⟩ : ∃ C, C = ntN S Ls Hs Ts := ⟨_, rfl⟩
  have HC : Hid (C = ntN S Ls Hs Ts) := hC
  rw [← hC]
  have HL2 : Hid (GS lnkE (w.alloc (Obj.cells #[.int .i64 S, .slice ao n cap, .slice ao2 n2 cap2, .slice ao3 n3 cap3] 28)) (.slice ao n cap) Ls) := hL.later hb1
  have HH2 : Hid (GS hstE (w.alloc (Obj.cells #[.int .i64 S, .slice ao n cap, .slice ao2 n2 cap2, .slice ao3 n3 cap3] 28)) (.slice ao2 n2 cap2) Hs) := hH.later hb1
  have HT2 : Hid (TS (w.alloc (Obj.cells #[.int .i64 S, .slice ao n cap, .slice ao2 n2 cap2, .slice ao3 n3 cap3] 28)) (.slice ao3 n3 cap3) Ts) := hT.later hb1
  have HB2 : Hid (Below w.heap.size w (w.alloc (Obj.cells #[.int .i64 S, .slice ao n cap, .slice ao2 n2 cap2, .slice ao3 n3 cap3] 28))) := hb1
  have HX : Hid (NeBox (w.alloc (Obj.cells #[.int .i64 S, .slice ao n cap, .slice ao2 n2 cap2, .slice ao3 n3 cap3] 28)) w.heap.size S (.slice ao n cap) (.slice ao2 n2 cap2) (.slice ao3 n3 cap3)) := nebox_new w S _ _ _ 28
  clear hC hb1 hL hH hT
  go_enter Tryd.func11, Tryd.ntmps11
  go_wp2_with fail
  refine (rtopo_any S ao n cap ao2 n2 cap2 Ls Hs _ HL2.out HH2.out).mono ?_
  rintro e w1 ⟨rfl, hb1⟩
  obtain ⟨T, hT⟩ : ∃ T, T = tpN S Ls Hs := ⟨_, rfl⟩
  have HT : Hid (T = tpN S Ls Hs) := hT
  rw [← hT]
  have HB1 : Hid (Below w.heap.size w w1) := HB2.out.trans (hb1.mono HB2.out.size)
  obtain ⟨b0, b1, b2, b3⟩ := HX.out.later hb1
  have HT1 : Hid (TS w1 (.slice ao3 n3 cap3) Ts) := HT2.out.later hb1
  clear hT hb1 HX HL2 HH2 HB2 HT2
  by_cases h0 : T = 0
  · subst h0
    obtain ⟨_, _, _, e2, hTn, hTm, _, hTa⟩ := HT1.out.form
    cases e2
    have HTN : Hid (Ts.length = n3) := hTn
    have HTM : Hid (n3 ≤ maxLen) := hTm
    have HTA : Hid (0 < n3 → ∃ g o, ao3 = some ⟨g, o, none⟩ ∧ TAt w1 g o Ts ∧ cap3 ≤ maxLen) := hTa
    have n63 : n3 ≤ 9223372036854775807 := by unfold maxLen at hTm; omega
    clear hTn hTm hTa HT1
    by_cases hS : (n3 : Int) = S
    · have HC2 : Hid (C = tsTo Ts n3) := by
        show _ = _
        rw [HC.out, ntN, if_pos HT.out.symm, if_pos (by rw [HTN.out]; exact hS), HTN.out]
      have e1 : ((n3 : Int) != S) = false := by simp [hS]
      have HXB : Hid (NeBox w1 w.heap.size S (.slice ao n cap) (.slice ao2 n2 cap2) (.slice ao3 n3 cap3)) := ⟨b0, b1, b2, b3⟩
      clear hS HC
      go_wp2
      go_loopw [4] (fun i wr => ∃ k : Nat, k ≤ n3 ∧ i = .int .i64 k ∧ tsTo Ts k = 0 ∧ Below w1.heap.size w1 wr) (fun i _ => n3 - (intOf i).toNat)
      case atStart => exact ⟨0, by omega, rfl, rfl, Below.refl _ _⟩
      case round =>
        obtain ⟨k, hk, rfl, hz, hB⟩ := hrel
        have HZ : Hid (tsTo Ts k = 0) := hz
        have HB : Hid (Below w1.heap.size w1 wr) := hB
        have HBw : Hid (Below w.heap.size w wr) := HB1.out.trans (hB.mono HB1.out.size)
        obtain ⟨b0, b1, b2, b3⟩ := HXB.out.later hB
        clear hz
        by_cases hlt : k < n3
        · obtain ⟨g, o, hao, hc, _⟩ := HTA.out (by omega)
          subst hao
          obtain ⟨a4, n4, c4, q0, hs⟩ := (hc.later hB) k (by rw [HTN.out]; exact hlt)
          have HS4 : Hid (SR wr (.slice a4 n4 c4) (Ts.getD k [])) := by
            show SR _ _ _
            rw [getT (by rw [HTN.out]; exact hlt)]
            exact hs
          clear hs hc hB
          go_wp2_with fail
          refine (refTable_any _ (Ts.getD k []) _ HS4.out).mono ?_
          rintro e w2 ⟨rfl, hb2⟩
          obtain ⟨R, hR⟩ : ∃ R, R = tbN (Ts.getD k []) := ⟨_, rfl⟩
          have HR : Hid (tsTo Ts (k + 1) = R) := by
            show _ = _
            rw [tsTo, if_pos HZ.out, hR]
          rw [← hR]
          have HB3 : Hid (Below w1.heap.size w1 w2) := HB.out.trans (hb2.mono HB.out.size)
          have HBw3 : Hid (Below w.heap.size w w2) := HBw.out.trans (hb2.mono HBw.out.size)
          clear hR hb2 q0
          by_cases hN : R = 0
          · subst hN
            go_wp2
            go_roundw
            case rel => exact ⟨k + 1, by omega, by go_num, HR.out, HB3.out⟩
            case measure => simp [intOf]; omega
          · have e9 : (R != 0) = true := by simpa using hN
            have HCR : Hid (C = R) := by
              show _ = _
              rw [HC2.out, ts_le (k := k + 1) (by rw [HR.out]; exact hN) (by omega), HR.out]
            have HNN : Hid (R ≠ 0) := hN
            clear hN
            go_wp2
            go_ret
            exact ⟨by rw [HCR.out]; rfl, HBw3.out⟩
        · obtain rfl : k = n3 := by omega
          have HCR : Hid (C = 0) := by
            show _ = _
            rw [HC2.out, HZ.out]
          clear hB
          go_wp2
          go_ret
          exact ⟨by rw [HCR.out]; rfl, HBw.out⟩
    · have HC2 : Hid (C = 3) := by
        show _ = _
        rw [HC.out, ntN, if_pos HT.out.symm, if_neg (by rw [HTN.out]; exact hS)]
      have e1 : ((n3 : Int) != S) = true := by simpa using hS
      clear hS HC
      go_wp2
      go_ret
      exact ⟨by rw [HC2.out]; rfl, HB1.out⟩
  · have e9 : (T != 0) = true := by simpa using h0
    have HC2 : Hid (C = T) := by
      show _ = _
      rw [HC.out, ntN, ← HT.out, if_neg h0]
    have HN0 : Hid (T ≠ 0) := h0
    clear h0
    go_wp2
    go_ret
    exact ⟨by rw [HC2.out]; rfl, HB1.out⟩
end Go.Proofs.YtfbocionnjliladDoor
/- What errors.As, plain.Told and railsame.Error answer for no error and for an Errno: contracts for the walks above them. -/
namespace Go.Proofs.YtfbocionnjliladDoor
open Go.RowKit Go.Extern.Stop Go.Stop Go.Extern
set_option linter.unusedSimpArgs false

/-- What package errors' variable holds: the handle of the type error. -/
def HasErr (w : World) : Prop := w.cell? ⟨0, 0, none⟩ = some (.iface 154 (.agg #[.pointer (some ⟨1, 35, none⟩)]))
theorem HasErr.later {w w' : World} (h : HasErr w) (hb : Below w.heap.size w w') : HasErr w' := cell_later hb h
theorem HasErr.alloc {w : World} (h : HasErr w) (o : Obj) : HasErr (w.alloc o) := h.later ((Below.refl _ _).alloc (Nat.le_refl _) _)

theorem vOfP (t : Addr) (w : World) : (ReflectliteValue.unpack (.iface 107 (.pointer (some t)))).run Tryd.prog w
    = .ok (.agg #[.pointer (some ⟨1, 107, none⟩), .pointer (some ⟨w.heap.size, 0, none⟩), .int .u64 150]) (w.alloc (.cells #[.pointer (some t)] 107)) := by kernel_rfl
theorem typeP (a : Addr) (w : World) : (ReflectliteValue.methodAny (ReflectliteValue.valueError "reflectlite.Value.Type" 0) (fun t _ _ _ => ReflectliteType.toType t) #[.agg #[.pointer (some ⟨1, 107, none⟩), .pointer (some a), .int .u64 150]]).run Tryd.prog w
    = .ok (.iface 154 (.agg #[.pointer (some ⟨1, 107, none⟩)])) w := by kernel_rfl
theorem methKind (h : Value) (w : World) : (Go.method 307 154 (.agg #[h]) "Kind").run Tryd.prog w = .ok (116, h) w := by kernel_rfl
theorem kindP (w : World) : ((ReflectliteType.abiMethod fun t => Functor.map (fun a : Nat => Value.int IntKind.u8 (a : Int)) (Rtype.kind t)) #[.pointer (some ⟨1, 107, none⟩)]).run Tryd.prog w = .ok (.int .u8 22) w := by kernel_rfl
theorem kindE (w : World) : ((ReflectliteType.abiMethod fun t => Functor.map (fun a : Nat => Value.int IntKind.u8 (a : Int)) (Rtype.kind t)) #[.pointer (some ⟨1, 78, none⟩)]).run Tryd.prog w = .ok (.int .u8 2) w := by kernel_rfl
theorem partsP (a : Addr) (w : World) : (ReflectliteValue.parts (.agg #[.pointer (some ⟨1, 107, none⟩), .pointer (some a), .int .u64 150])).run Tryd.prog w = .ok (some (107, a, 150)) w := by kernel_rfl
theorem isNilP (a p : Addr) (W : World) (ha : W.cell? a = some (.pointer (some p))) :
    (ReflectliteValue.method (ReflectliteValue.valueError "reflectlite.Value.IsNil" 0) ReflectliteValue.isNil #[.agg #[.pointer (some ⟨1, 107, none⟩), .pointer (some a), .int .u64 150]]).run Tryd.prog W = .ok (.bool false) W := by
  change Sem.run _ (ReflectliteValue.parts (.agg #[.pointer (some ⟨1, 107, none⟩), .pointer (some a), .int .u64 150]) >>= _) _ = _
  rw [Sem.run_bind, partsP]
  simp only [Result.andThen]
  simp [ReflectliteValue.isNil, loadVar, isAgg, underlying, Tryd.underlying107, ha, Result.andThen]
theorem methElem (h : Value) (w : World) : (Go.method 307 154 (.agg #[h]) "Elem").run Tryd.prog w = .ok (126, .agg #[h]) w := by kernel_rfl
theorem methImpl (h : Value) (w : World) : (Go.method 307 154 (.agg #[h]) "Implements").run Tryd.prog w = .ok (127, .agg #[h]) w := by kernel_rfl
theorem methAssign (h : Value) (w : World) : (Go.method 307 154 (.agg #[h]) "AssignableTo").run Tryd.prog w = .ok (124, .agg #[h]) w := by kernel_rfl
theorem elemP (w : World) : (ReflectliteType.method ReflectliteType.elem #[.agg #[.pointer (some ⟨1, 107, none⟩)]]).run Tryd.prog w = .ok (.iface 154 (.agg #[.pointer (some ⟨1, 78, none⟩)])) w := by kernel_rfl
theorem implE (w : World) : (ReflectliteType.relation "Implements" ReflectliteType.implements_ #[.agg #[.pointer (some ⟨1, 78, none⟩)], .iface 154 (.agg #[.pointer (some ⟨1, 35, none⟩)])]).run Tryd.prog w = .ok (.bool true) w := by kernel_rfl
theorem typeOfE (v : Value) (w : World) : (ReflectliteType.typeOf #[.iface 78 v]).run Tryd.prog w = .ok (.iface 154 (.agg #[.pointer (some ⟨1, 78, none⟩)])) w := by kernel_rfl
theorem assignE (w : World) : (ReflectliteType.relation "AssignableTo" ReflectliteType.assignableTo #[.agg #[.pointer (some ⟨1, 78, none⟩)], .iface 154 (.agg #[.pointer (some ⟨1, 78, none⟩)])]).run Tryd.prog w = .ok (.bool true) w := by kernel_rfl
theorem vOfE (n : Int) (w : World) : (ReflectliteValue.unpack (.iface 78 (.int .i64 n))).run Tryd.prog w
    = .ok (.agg #[.pointer (some ⟨1, 78, none⟩), .pointer (some ⟨w.heap.size, 0, none⟩), .int .u64 130]) (w.alloc (.cells #[.int .i64 n] 78)) := by kernel_rfl
theorem elemOfP (w : World) : (Rtype.elem? 107).run Tryd.prog w = .ok (some 78) w := by kernel_rfl
theorem mkE (p : Addr) (w : World) : (ReflectliteValue.mk 78 p ReflectliteValue.flagAddr).run Tryd.prog w = .ok (.agg #[.pointer (some ⟨1, 78, none⟩), .pointer (some p), .int .u64 386]) w := by kernel_rfl
theorem elemVP (a p : Addr) (W : World) (ha : W.cell? a = some (.pointer (some p))) :
    (ReflectliteValue.method (ReflectliteValue.valueError "reflectlite.Value.Elem" 0) ReflectliteValue.elem #[.agg #[.pointer (some ⟨1, 107, none⟩), .pointer (some a), .int .u64 150]]).run Tryd.prog W
      = .ok (.agg #[.pointer (some ⟨1, 78, none⟩), .pointer (some p), .int .u64 386]) W := by
  change Sem.run _ (ReflectliteValue.parts (.agg #[.pointer (some ⟨1, 107, none⟩), .pointer (some a), .int .u64 150]) >>= _) _ = _
  rw [Sem.run_bind, partsP]
  simp only [Result.andThen]
  simp [ReflectliteValue.elem, loadVar, isAgg, underlying, Tryd.underlying107, ha, Result.andThen, elemOfP, mkE]
theorem partsEa (a : Addr) (w : World) : (ReflectliteValue.parts (.agg #[.pointer (some ⟨1, 78, none⟩), .pointer (some a), .int .u64 386])).run Tryd.prog w = .ok (some (78, a, 386)) w := by kernel_rfl
theorem partsE (a : Addr) (w : World) : (ReflectliteValue.parts (.agg #[.pointer (some ⟨1, 78, none⟩), .pointer (some a), .int .u64 130])).run Tryd.prog w = .ok (some (78, a, 130)) w := by kernel_rfl
theorem directE (w : World) : (Rtype.directlyAssignable 78 78).run Tryd.prog w = .ok true w := by kernel_rfl
/-- Set: the Errno variable at 'ta' gets what the Value's own variable 'b' holds. -/
theorem setE (ta b : Addr) (n : Int) (old : Value) (W : World) (hb : W.cell? b = some (.int .i64 n)) (ht : W.cell? ta = some old) (hf : W.frozen? ta = false) :
    (ReflectliteValue.set #[.agg #[.pointer (some ⟨1, 78, none⟩), .pointer (some ta), .int .u64 386], .agg #[.pointer (some ⟨1, 78, none⟩), .pointer (some b), .int .u64 130]]).run Tryd.prog W
      = .ok (.tuple #[]) (W.setCell ta (.int .i64 n)) := by
  change Sem.run _ (ReflectliteValue.parts (.agg #[.pointer (some ⟨1, 78, none⟩), .pointer (some ta), .int .u64 386]) >>= _) _ = _
  rw [Sem.run_bind, partsEa]
  simp only [Result.andThen]
  change Sem.run _ (ReflectliteValue.parts (.agg #[.pointer (some ⟨1, 78, none⟩), .pointer (some b), .int .u64 130]) >>= _) _ = _
  rw [Sem.run_bind, partsE]
  simp only [Result.andThen]
  simp [ReflectliteValue.flagAddr, loadVar, isAgg, underlying, Tryd.underlying78, hb, Result.andThen, directE, storeVar, Value.cells, storeCells, Addr.add]
  rw [run_store Tryd.prog W ta _ _ (by rfl)]
  simp [ht, hf]
end Go.Proofs.YtfbocionnjliladDoor
/- What errors.As, plain.Told and railsame.Error answer for no error and for an Errno: the walks. -/
namespace Go.Proofs.YtfbocionnjliladDoor
open Go.RowKit Go.Extern.Stop Go.Stop Go.Extern
set_option linter.unusedSimpArgs false

set_option maxHeartbeats 4000000 in
theorem as_hit (n : Int) (t : Addr) (old : Value) (w : World) (hg : HasErr w) (ht0 : w.cell? t = some old) (hf0 : w.frozen? t = false) :
    Calls Tryd.prog 52 #[.iface 78 (.int .i64 n), .iface 107 (.pointer (some t))] w fun ev w' => ev = .returned (.bool true) ∧ w' = ((((w.alloc (.cells #[.pointer (some t)] 107)).alloc (.cells #[.pointer (some ⟨1, 107, none⟩), .pointer (some ⟨w.heap.size, 0, none⟩), .int .u64 150] 134)).alloc (.cells #[.pointer (some ⟨1, 107, none⟩), .pointer (some ⟨w.heap.size, 0, none⟩), .int .u64 150] 134)).alloc (.cells #[.int .i64 n] 78)).setCell t (.int .i64 n) := by
  unfold HasErr at hg
  have h6 := @run_callFunc_extern Tryd.prog 71 _ (fun args => ReflectliteValue.unpack (args.getD 0 (.tuple #[]))) Tryd.func71 (by kernel_rfl) (by kernel_rfl) (by kernel_rfl) (by kernel_rfl)
  have h7 := @run_callFunc_extern Tryd.prog 72 _ (ReflectliteValue.methodAny (ReflectliteValue.valueError "reflectlite.Value.Type" 0) (fun t _ _ _ => ReflectliteType.toType t)) Tryd.func72 (by kernel_rfl) (by kernel_rfl) (by kernel_rfl) (by kernel_rfl)
  have h8 := @run_callFunc_extern Tryd.prog 73 _ (ReflectliteValue.method (ReflectliteValue.valueError "reflectlite.Value.IsNil" 0) ReflectliteValue.isNil) Tryd.func73 (by kernel_rfl) (by kernel_rfl) (by kernel_rfl) (by kernel_rfl)
  have h27 := @run_callFunc_extern Tryd.prog 116 _ (ReflectliteType.abiMethod fun t => do pure (.int .u8 (← Rtype.kind t))) Tryd.func116 (by kernel_rfl) (by kernel_rfl) (by kernel_rfl) (by kernel_rfl)
  have h37 := @run_callFunc_extern Tryd.prog 126 _ (ReflectliteType.method ReflectliteType.elem) Tryd.func126 (by kernel_rfl) (by kernel_rfl) (by kernel_rfl) (by kernel_rfl)
  have h38 := @run_callFunc_extern Tryd.prog 127 _ (ReflectliteType.relation "Implements" ReflectliteType.implements_) Tryd.func127 (by kernel_rfl) (by kernel_rfl) (by kernel_rfl) (by kernel_rfl)
  have h10 := @run_callFunc_extern Tryd.prog 88 _ ReflectliteType.typeOf Tryd.func88 (by kernel_rfl) (by kernel_rfl) (by kernel_rfl) (by kernel_rfl)
  have h35 := @run_callFunc_extern Tryd.prog 124 _ (ReflectliteType.relation "AssignableTo" ReflectliteType.assignableTo) Tryd.func124 (by kernel_rfl) (by kernel_rfl) (by kernel_rfl) (by kernel_rfl)
  have h11 := @run_callFunc_extern Tryd.prog 89 _ (ReflectliteValue.method (ReflectliteValue.valueError "reflectlite.Value.Elem" 0) ReflectliteValue.elem) Tryd.func89 (by kernel_rfl) (by kernel_rfl) (by kernel_rfl) (by kernel_rfl)
  have h12 := @run_callFunc_extern Tryd.prog 90 _ ReflectliteValue.set Tryd.func90 (by kernel_rfl) (by kernel_rfl) (by kernel_rfl) (by kernel_rfl)
  have tO := typeOfE
  have mA := methAssign
  have a25 := assignE
  have v25 := vOfE
  have f6 := vOfP
  have f7 := typeP
  have mK := methKind
  have mE := methElem
  have mI := methImpl
  have k27 := kindP
  have k25 := kindE
  have e27 := elemP
  have i25 := implE
  have hlt : 0 < w.heap.size := World.block_lt_of_cell? _ _ hg
  have htl : t.block < w.heap.size := World.block_lt_of_cell? _ _ ht0
  have n8 := isNilP ⟨w.heap.size, 0, none⟩ t ((w.alloc (.cells #[.pointer (some t)] 107)).alloc (.cells #[.pointer (some ⟨1, 107, none⟩), .pointer (some ⟨w.heap.size, 0, none⟩), .int .u64 150] 134)) (by simp)
  have hg2 : ((w.alloc (.cells #[.pointer (some t)] 107)).alloc (.cells #[.pointer (some ⟨1, 107, none⟩), .pointer (some ⟨w.heap.size, 0, none⟩), .int .u64 150] 134)).cell? ⟨0, 0, none⟩ = some (.iface 154 (.agg #[.pointer (some ⟨1, 35, none⟩)])) := by
    rw [World.cell?_alloc_lt _ _ ⟨0, 0, none⟩ (by simp <;> omega), World.cell?_alloc_lt _ _ ⟨0, 0, none⟩ hlt]; exact hg
  have el := elemVP ⟨w.heap.size, 0, none⟩ t (((w.alloc (.cells #[.pointer (some t)] 107)).alloc (.cells #[.pointer (some ⟨1, 107, none⟩), .pointer (some ⟨w.heap.size, 0, none⟩), .int .u64 150] 134)).alloc (.cells #[.pointer (some ⟨1, 107, none⟩), .pointer (some ⟨w.heap.size, 0, none⟩), .int .u64 150] 134)) (by rw [World.cell?_alloc_lt _ _ ⟨w.heap.size, 0, none⟩ (by simp; omega)]; simp)
  have st := setE t ⟨w.heap.size + 1 + 1 + 1, 0, none⟩ n old ((((w.alloc (.cells #[.pointer (some t)] 107)).alloc (.cells #[.pointer (some ⟨1, 107, none⟩), .pointer (some ⟨w.heap.size, 0, none⟩), .int .u64 150] 134)).alloc (.cells #[.pointer (some ⟨1, 107, none⟩), .pointer (some ⟨w.heap.size, 0, none⟩), .int .u64 150] 134)).alloc (.cells #[.int .i64 n] 78))
    (by rw [World.cell?_alloc_at _ _ _ _ (by simp)]; rfl)
    (by rw [World.cell?_alloc_lt _ _ t (by simp; omega), World.cell?_alloc_lt _ _ t (by simp; omega), World.cell?_alloc_lt _ _ t (by simp; omega), World.cell?_alloc_lt _ _ t htl]; exact ht0)
    (by rw [World.frozen?_alloc_old _ _ t (by simp; omega), World.frozen?_alloc_old _ _ t (by simp; omega), World.frozen?_alloc_old _ _ t (by simp; omega), World.frozen?_alloc_old _ _ t (Nat.ne_of_lt htl)]; exact hf0)
  go_enter Tryd.func52, Tryd.ntmps52
  go_wp2
  refine wp_loop_rounds 1 ?_
  rw [rounds_succ]
  go_wp2
  go_ret
  exact ⟨rfl, rfl⟩

set_option maxHeartbeats 1000000 in
theorem told_nil (w : World) :
    Calls Tryd.prog 25 #[.nilIface] w fun e w' => e = .returned (.int .i64 0) ∧ Below w.heap.size w w' := by
  go_enter Tryd.func25, Tryd.ntmps25
  go_wp2
  go_ret
  exact ⟨rfl, Below.refl _ _⟩

set_option maxHeartbeats 1000000 in
theorem told_some (n : Int) (w : World) (hg : HasErr w) :
    Calls Tryd.prog 25 #[.iface 78 (.int .i64 n)] w fun e w' => e = .returned (.int .i64 n) ∧ Below w.heap.size w w' := by
  have HG : Hid (HasErr w) := hg
  clear hg
  go_enter Tryd.func25, Tryd.ntmps25
  go_wp2_with fail
  refine (as_hit n _ (.int .i64 0) _ (HG.out.alloc _) (by simp) (by simp)).mono ?_
  rintro e w' ⟨rfl, rfl⟩
  go_wp2
  go_ret
  refine ⟨rfl, ?_⟩
  exact ((((((Below.refl _ _).alloc (Nat.le_refl _) _).alloc (by simp) _).alloc (by simp; omega) _).alloc (by simp; omega) _).alloc (by simp; omega) _)

set_option maxHeartbeats 1000000 in
theorem same_nil (k : Int) (w : World) :
    Calls Tryd.prog 9 #[.nilIface, .int .i64 k] w fun e w' => e = .returned (.bool (0 == k)) ∧ Below w.heap.size w w' := by
  go_enter Tryd.func9, Tryd.ntmps9
  go_wp2_with fail
  refine (told_nil _).mono ?_
  rintro e w' ⟨rfl, hb⟩
  go_wp2
  go_ret
  exact ⟨rfl, hb⟩

set_option maxHeartbeats 1000000 in
theorem same_some (n k : Int) (w : World) (hg : HasErr w) :
    Calls Tryd.prog 9 #[.iface 78 (.int .i64 n), .int .i64 k] w fun e w' => e = .returned (.bool (n == k)) ∧ Below w.heap.size w w' := by
  have HG : Hid (HasErr w) := hg
  clear hg
  go_enter Tryd.func9, Tryd.ntmps9
  go_wp2_with fail
  refine (told_some n _ HG.out).mono ?_
  rintro e w' ⟨rfl, hb⟩
  go_wp2
  go_ret
  exact ⟨rfl, hb⟩
end Go.Proofs.YtfbocionnjliladDoor
/- What railsame.Error answers at the error of a number and this number. -/
namespace Go.Proofs.YtfbocionnjliladDoor
open Go.RowKit

theorem same_noV (n : Int) (w : World) (hg : HasErr w) :
    Calls Tryd.prog 9 #[noV n, .int .i64 n] w fun e w' => e = .returned (.bool true) ∧ Below w.heap.size w w' := by
  by_cases h : n = 0
  · subst h
    refine (same_nil _ w).mono ?_
    rintro e w' ⟨rfl, hb⟩
    exact ⟨by simp, hb⟩
  · rw [no_ne h]
    refine (same_some _ _ w hg).mono ?_
    rintro e w' ⟨rfl, hb⟩
    exact ⟨by simp, hb⟩
end Go.Proofs.YtfbocionnjliladDoor
/- The walk of ClassTells: it answers true, whatever net, table, lists and number it is called with. -/
namespace Go.Proofs.YtfbocionnjliladDoor
open Go.RowKit
set_option linter.unusedSimpArgs false
set_option linter.unusedVariables false

/-- 0 or 5: is a number there? -/
def e5 (b : Bool) : Int := if b then 0 else 5
theorem nt_pos {S : Int} {Ls : List ((Int × Int) × (Int × Int))} {Hs : List (ByteArray × (Int × Int))} {Ts : List (List Ru)} (h : ntN S Ls Hs Ts = 0) : 0 < Ts.length := by
  obtain ⟨h1, h2, _⟩ := nt_0 h
  have := (tp_0 h1).1.1
  omega
theorem getL {Ms : List (List Int)} {k : Nat} (hk : k < Ms.length) : Ms.getD k [] = Ms[k] := by
  rw [List.getD, List.getElem?_eq_getElem hk]
  rfl

namespace classTells
set_option maxHeartbeats 8000000 in
set_option maxRecDepth 100000 in
theorem walk (S : Int) (ao : Option Addr) (n cap : Nat) (ao2 : Option Addr) (n2 cap2 : Nat) (ao3 : Option Addr) (n3 cap3 : Nat) (Ls : List ((Int × Int) × (Int × Int))) (Hs : List (ByteArray × (Int × Int))) (Ts : List (List Ru)) (a4 : Option Addr) (n4 c4 : Nat) (L : List Ru) (a5 : Option Addr) (n5 c5 : Nat) (Ms : List (List Int)) (h : Int) (w : World)
    (hL : GS lnkE w (.slice ao n cap) Ls) (hH : GS hstE w (.slice ao2 n2 cap2) Hs) (hT : TS w (.slice ao3 n3 cap3) Ts) (hs : SR w (.slice a4 n4 c4) L) (hl : ILS w (.slice a5 n5 c5) Ms) (hg : HasErr w) :
    Calls Tryd.prog 3 #[.agg #[.int .i64 S, .slice ao n cap, .slice ao2 n2 cap2, .slice ao3 n3 cap3], .slice a4 n4 c4, .slice a5 n5 c5, .int .i64 h] w fun e w' => e = .returned (.bool true) ∧ Below w.heap.size w w' := by
  have hb0 : Below w.heap.size w (w.alloc (Obj.cells #[.int .i64 S, .slice ao n cap, .slice ao2 n2 cap2, .slice ao3 n3 cap3] 28)) := (Below.refl _ _).alloc (Nat.le_refl _) _
  have HX := nebox_new w S (.slice ao n cap) (.slice ao2 n2 cap2) (.slice ao3 n3 cap3) 28
  obtain ⟨w0, hw0⟩ : ∃ W, w.alloc (Obj.cells #[.int .i64 S, .slice ao n cap, .slice ao2 n2 cap2, .slice ao3 n3 cap3] 28) = W := ⟨_, rfl⟩
  rw [hw0] at hb0 HX
  have HW0 : Hid (w.alloc (Obj.cells #[.int .i64 S, .slice ao n cap, .slice ao2 n2 cap2, .slice ao3 n3 cap3] 28) = w0) := hw0
  have HB0 : Hid (Below w.heap.size w w0) := hb0
  have HALL : Hid (∀ W, Below w0.heap.size w0 W → GS lnkE W (.slice ao n cap) Ls ∧ GS hstE W (.slice ao2 n2 cap2) Hs ∧ TS W (.slice ao3 n3 cap3) Ts ∧ SR W (.slice a4 n4 c4) L ∧ ILS W (.slice a5 n5 c5) Ms ∧ HasErr W ∧ NeBox W w.heap.size S (.slice ao n cap) (.slice ao2 n2 cap2) (.slice ao3 n3 cap3)) := fun W hb =>
    ⟨(hL.later hb0).later hb, (hH.later hb0).later hb, (hT.later hb0).later hb, (hs.later hb0).later hb, (hl.later hb0).later hb, (hg.later hb0).later hb, HX.later hb⟩
  have HN3 : Hid (Ts.length = n3) := hT.len
  obtain ⟨_, _, _, em, hm5, hm5x, _, hma⟩ := hl.form
  cases em
  have HM5 : Hid (Ms.length = n5) := hm5
  have n563 : n5 ≤ 9223372036854775807 := by unfold maxLen at hm5x; omega
  obtain ⟨N1, hN1⟩ : ∃ N, N = tbN L := ⟨_, rfl⟩
  obtain ⟨N2, hN2⟩ : ∃ N, N = ntN S Ls Hs Ts := ⟨_, rfl⟩
  obtain ⟨PN, hPN⟩ : ∃ N, N = ptN S Ls Hs Ts h := ⟨_, rfl⟩
  obtain ⟨RN, hRN⟩ : ∃ N, N = rpN Ms h := ⟨_, rfl⟩
  obtain ⟨RV, hRV⟩ : ∃ N, N = rpV Ms h := ⟨_, rfl⟩
  have HN1 : Hid (tbN L = N1) := hN1.symm
  have HN2 : Hid (ntN S Ls Hs Ts = N2) := hN2.symm
  have HPN : Hid (ptN S Ls Hs Ts h = PN) := hPN.symm
  have HRF : Hid (rpV Ms h = RV ∧ rpN Ms h = RN) := ⟨hRV.symm, hRN.symm⟩
  clear hL hH hT hs hl hg hb0 hw0 HX hm5 hm5x hma hN1 hN2 hPN hRN hRV
  go_enter Tryd.func3, Tryd.ntmps3
  go_upto_region 1 with fail
  rw [HW0.out]
  clear HW0
  go_wp2_with fail
  refine (refTable_any _ L _ (HALL.out _ (Below.refl _ _)).2.2.2.1).mono ?_
  rintro e w1 ⟨rfl, hb1⟩
  rw [HN1.out]
  have HB1 : Hid (Below w0.heap.size w0 w1) := hb1
  clear hb1
  go_upto_if 31 with fail
  go_cut [10] from 30 (fun v w' => ∃ a m c, v = .slice a m c ∧ ILS w' (.slice a m c) (ofL L) ∧ Below w0.heap.size w0 w')
  case first =>
    as_aux_lemma =>
      by_cases h0 : N1 = 0
      · have HOF : Hid (ofL L = clsL [L]) := by
          show _ = _
          rw [ofL, if_pos (by rw [HN1.out]; exact h0)]
        subst h0
        go_wp2_with fail
        refine (rclasses_any (some ⟨w1.heap.size, 0, none⟩) 1 1 [L] _ (tsone1 w1 a4 n4 c4 L _ (HALL.out _ HB1.out).2.2.2.1) (by omega) (by omega)).mono ?_
        rintro e w2 ⟨v, u, vs, us, rfl, hCP, hb2⟩
        have hv := hCP.ls
        obtain ⟨a, m, c, rfl, _, _, _, _⟩ := hv.form
        have HV : Hid (ILS w2 (.slice a m c) (ofL L)) := by
          show ILS _ _ _
          rw [HOF.out]
          exact hv
        have HB2 : Hid (Below w0.heap.size w0 w2) := (HB1.out.alloc HB1.out.size _).trans (hb2.mono (by have := HB1.out.size; simp; omega))
        clear hCP hb2 hv
        go_wp2_with fail
        go_meet
        case rel => exact ⟨_, _, _, rfl, HV.out, HB2.out⟩
      · have HOF : Hid (ofL L = []) := by
          show _ = _
          rw [ofL, if_neg (by rw [HN1.out]; exact h0)]
        have e1 : (N1 == 0) = false := by simpa using h0
        clear h0
        go_wp2_with fail
        go_meet
        case rel => exact ⟨_, _, _, rfl, by rw [HOF.out]; exact ILS.nil _, HB1.out⟩
  obtain ⟨aA, mA, cA, rfl, hIA, hBA⟩ := hcut
  obtain ⟨wA, hwA⟩ : ∃ X, X = wc := ⟨_, rfl⟩
  subst hwA
  have HIA : Hid (∀ W, Below wA.heap.size wA W → ILS W (.slice aA mA cA) (ofL L)) := fun W hb => hIA.later hb
  have HBA : Hid (Below w0.heap.size w0 wA) := hBA
  clear hIA hBA HB1
  go_wp2_with fail
  refine (of_any a4 n4 c4 L _ (HALL.out _ HBA.out).2.2.2.1).mono ?_
  rintro e w3 ⟨v3, rfl, hf3, hb3⟩
  rw [HN1.out]
  obtain ⟨a6, n6, c6, rfl, _, _, _, _⟩ := hf3.form
  have HI3 : Hid (∀ W, Below w3.heap.size w3 W → ILS W (.slice a6 n6 c6) (ofL L) ∧ ILS W (.slice aA mA cA) (ofL L)) := fun W hb => ⟨hf3.later hb, HIA.out _ (hb3.trans (hb.mono hb3.size))⟩
  have HB3 : Hid (Below w0.heap.size w0 w3) := HBA.out.trans (hb3.mono HBA.out.size)
  clear hf3 hb3 HIA
  go_wp2_with fail
  refine (same_noV N1 _ (HALL.out _ HB3.out).2.2.2.2.2.1).mono ?_
  rintro e w4 ⟨rfl, hb4⟩
  have HI4 : Hid (ILS w4 (.slice a6 n6 c6) (ofL L) ∧ ILS w4 (.slice aA mA cA) (ofL L)) := HI3.out _ hb4
  have HB4 : Hid (Below w0.heap.size w0 w4) := HB3.out.trans (hb4.mono HB3.out.size)
  clear hb4 HI3
  go_wp2_with fail
  refine (smlists_any a6 aA n6 mA c6 cA (ofL L) _ HI4.out.1 HI4.out.2).mono ?_
  rintro e w5 ⟨rfl, hb5⟩
  have HB5 : Hid (Below w0.heap.size w0 w5) := HB4.out.trans (hb5.mono HB4.out.size)
  obtain ⟨b0, b1, b2, b3⟩ := (HALL.out _ HB5.out).2.2.2.2.2.2
  clear hb5 HI4
  go_wp2_with fail
  refine (rnet_any S ao n cap ao2 n2 cap2 ao3 n3 cap3 Ls Hs Ts _ (HALL.out _ HB5.out).1 (HALL.out _ HB5.out).2.1 (HALL.out _ HB5.out).2.2.1).mono ?_
  rintro e w6 ⟨rfl, hb6⟩
  rw [HN2.out]
  have HB6 : Hid (Below w0.heap.size w0 w6) := HB5.out.trans (hb6.mono HB5.out.size)
  clear hb6 b0 b1 b2 b3
  obtain ⟨b0, b1, b2, b3⟩ := (HALL.out _ HB6.out).2.2.2.2.2.2
  go_upto_if 49 with fail
  go_cut [10] from 48 (fun v w' => ∃ a m c, v = .slice a m c ∧ ILS w' (.slice a m c) (acL S Ls Hs Ts) ∧ Below w0.heap.size w0 w')
  case first =>
    as_aux_lemma =>
      by_cases h0 : N2 = 0
      · have HAC : Hid (acL S Ls Hs Ts = clsL Ts) := by
          show _ = _
          rw [acL, if_pos (by rw [HN2.out]; exact h0)]
        have HP3 : Hid (0 < n3 ∧ n3 ≤ 8) := by
          have h1 := nt_pos (show ntN S Ls Hs Ts = 0 by rw [HN2.out]; exact h0)
          have h2 := nt_8 (show ntN S Ls Hs Ts = 0 by rw [HN2.out]; exact h0)
          have h3 := HN3.out
          exact ⟨by omega, by omega⟩
        subst h0
        go_wp2_with fail
        refine (rclasses_any ao3 n3 cap3 Ts _ (HALL.out _ HB6.out).2.2.1 HP3.out.1 HP3.out.2).mono ?_
        rintro e w7 ⟨v, u, vs, us, rfl, hCP, hb7⟩
        have hv := hCP.ls
        obtain ⟨a, m, c, rfl, _, _, _, _⟩ := hv.form
        have HV : Hid (ILS w7 (.slice a m c) (acL S Ls Hs Ts)) := by
          show ILS _ _ _
          rw [HAC.out]
          exact hv
        have HB7 : Hid (Below w0.heap.size w0 w7) := HB6.out.trans (hb7.mono HB6.out.size)
        clear hCP hb7 hv b0 b1 b2 b3
        go_wp2_with fail
        go_meet
        case rel => exact ⟨_, _, _, rfl, HV.out, HB7.out⟩
      · have HAC : Hid (acL S Ls Hs Ts = []) := by
          show _ = _
          rw [acL, if_neg (by rw [HN2.out]; exact h0)]
        have e1 : (N2 == 0) = false := by simpa using h0
        clear h0 b0 b1 b2 b3
        go_wp2_with fail
        go_meet
        case rel => exact ⟨_, _, _, rfl, by rw [HAC.out]; exact ILS.nil _, HB6.out⟩
  obtain ⟨aB, mB, cB, rfl, hIB, hBB⟩ := hcut
  obtain ⟨wB, hwB⟩ : ∃ X, X = wc := ⟨_, rfl⟩
  subst hwB
  have HIB : Hid (∀ W, Below wB.heap.size wB W → ILS W (.slice aB mB cB) (acL S Ls Hs Ts)) := fun W hb => hIB.later hb
  have HBB : Hid (Below w0.heap.size w0 wB) := hBB
  clear hIB hBB HB6 b0 b1 b2 b3
  obtain ⟨b0, b1, b2, b3⟩ := (HALL.out _ HBB.out).2.2.2.2.2.2
  go_wp2_with fail
  refine (allC_any S ao n cap ao2 n2 cap2 ao3 n3 cap3 Ls Hs Ts _ (HALL.out _ HBB.out).1 (HALL.out _ HBB.out).2.1 (HALL.out _ HBB.out).2.2.1).mono ?_
  rintro e w8 ⟨v8, rfl, hf8, hb8⟩
  rw [HN2.out]
  obtain ⟨a8, n8, c8, rfl, _, _, _, _⟩ := hf8.form
  have HI8 : Hid (∀ W, Below w8.heap.size w8 W → ILS W (.slice a8 n8 c8) (acL S Ls Hs Ts) ∧ ILS W (.slice aB mB cB) (acL S Ls Hs Ts)) := fun W hb => ⟨hf8.later hb, HIB.out _ (hb8.trans (hb.mono hb8.size))⟩
  have HB8 : Hid (Below w0.heap.size w0 w8) := HBB.out.trans (hb8.mono HBB.out.size)
  clear hf8 hb8 HIB b0 b1 b2 b3
  go_wp2_with fail
  refine (same_noV N2 _ (HALL.out _ HB8.out).2.2.2.2.2.1).mono ?_
  rintro e w9 ⟨rfl, hb9⟩
  have HI9 : Hid (ILS w9 (.slice a8 n8 c8) (acL S Ls Hs Ts) ∧ ILS w9 (.slice aB mB cB) (acL S Ls Hs Ts)) := HI8.out _ hb9
  have HB9 : Hid (Below w0.heap.size w0 w9) := HB8.out.trans (hb9.mono HB8.out.size)
  clear hb9 HI8
  go_wp2_with fail
  refine (smlists_any a8 aB n8 mB c8 cB (acL S Ls Hs Ts) _ HI9.out.1 HI9.out.2).mono ?_
  rintro e wC ⟨rfl, hbC⟩
  have HBC : Hid (Below w0.heap.size w0 wC) := HB9.out.trans (hbC.mono HB9.out.size)
  clear hbC HI9
  obtain ⟨ok, hok⟩ : ∃ q, q = hdrB h := ⟨_, rfl⟩
  have HOK : Hid (hdrB h = ok) := hok.symm
  go_wp2_with fail
  refine (header_any h _).mono ?_
  rintro e wD ⟨rfl, hwD⟩
  subst hwD
  rw [HOK.out]
  clear hok
  go_upto_region 16 with fail
  go_cut [71] from 66 (fun c w' => c = .bool (decide (N2 = 0) && !ok) ∧ w' = wD)
  case first =>
    as_aux_lemma =>
      by_cases h0 : N2 = 0
      · subst h0
        cases ok
        · go_wp2_with fail
          go_meet
          case rel => exact ⟨rfl, rfl⟩
        · go_wp2_with fail
          go_meet
          case rel => exact ⟨rfl, rfl⟩
      · have e1 : (N2 == 0) = false := by simpa using h0
        have e2 : decide (N2 = 0) = false := by simpa using h0
        have E2 : Hid (decide (N2 = 0) = false) := e2
        clear h0 e2
        go_wp2_with fail
        go_meet
        case rel => exact ⟨by rw [E2.out]; rfl, rfl⟩
  obtain ⟨rfl, hwc⟩ := hcut
  subst hwc
  obtain ⟨wD2, hwD2⟩ : ∃ X, X = wc := ⟨_, rfl⟩
  subst hwD2
  go_upto_if 71 with fail
  go_cut [9] from 66 (fun f w' => f = .int .i64 PN ∧ w' = wD2)
  case first =>
    as_aux_lemma =>
      by_cases h0 : N2 = 0
      · have HTT : Hid (ntN S Ls Hs Ts = 0) := HN2.out.trans h0
        subst h0
        cases ok
        · have HC1 : Hid (PN = 1) := by
            show _ = _
            rw [← HPN.out, ptN, if_pos HTT.out, HOK.out]
            rfl
          go_wp2_with fail
          go_meet
          case rel => exact ⟨by rw [HC1.out], rfl⟩
        · have HC1 : Hid (PN = 0) := by
            show _ = _
            rw [← HPN.out, ptN, if_pos HTT.out, HOK.out]
            rfl
          go_wp2_with fail
          go_meet
          case rel => exact ⟨by rw [HC1.out], rfl⟩
      · have HTT : Hid (PN = N2) := by
          show _ = _
          rw [← HPN.out, ptN, if_neg (by rw [HN2.out]; exact h0), HN2.out]
        have e2 : (decide (N2 = 0) && !ok) = false := by simp [h0]
        clear h0
        rw [e2]
        go_wp2_with fail
        go_meet
        case rel => exact ⟨by rw [HTT.out], rfl⟩
  obtain ⟨rfl, hwd⟩ := hcut
  subst hwd
  obtain ⟨wE, hwE⟩ : ∃ X, X = wc := ⟨_, rfl⟩
  subst hwE
  obtain ⟨b0, b1, b2, b3⟩ := (HALL.out _ HBC.out).2.2.2.2.2.2
  go_upto_if 73 with fail
  go_cut [18] from 72 (fun v w' => ∃ a m c, v = .slice a m c ∧ GS inE w' (.slice a m c) (ptL S Ls Hs Ts h) ∧ Below w0.heap.size w0 w')
  case first =>
    as_aux_lemma =>
      by_cases h0 : PN = 0
      · have HPL : Hid (ptL S Ls Hs Ts h = pthL Ts h) := by
          show _ = _
          rw [ptL, if_pos (by rw [HPN.out]; exact h0)]
        have H38 : Hid (n3 ≤ 8) := by
          have hz : ntN S Ls Hs Ts = 0 := by
            have h1 : ptN S Ls Hs Ts h = 0 := by rw [HPN.out]; exact h0
            unfold ptN at h1
            by_cases h2 : ntN S Ls Hs Ts = 0
            · exact h2
            · rw [if_neg h2] at h1
              exact absurd h1 h2
          have h2 := nt_8 hz
          have h3 := HN3.out
          show _ ≤ _
          omega
        subst h0
        go_wp2_with fail
        refine (rpath_any ao3 n3 cap3 Ts h _ (HALL.out _ HBC.out).2.2.1 H38.out).mono ?_
        rintro e wF ⟨a2, c2, rfl, hownF, hbF⟩
        have HGF : Hid (GS inE wF (.slice a2 n3 c2) (ptL S Ls Hs Ts h)) := by
          show GS _ _ _ _
          rw [HPL.out]
          exact own_GS hownF
        have HBF : Hid (Below w0.heap.size w0 wF) := HBC.out.trans (hbF.mono HBC.out.size)
        clear hownF hbF b0 b1 b2 b3
        go_wp2_with fail
        go_meet
        case rel => exact ⟨_, _, _, rfl, HGF.out, HBF.out⟩
      · have HPL : Hid (ptL S Ls Hs Ts h = []) := by
          show _ = _
          rw [ptL, if_neg (by rw [HPN.out]; exact h0)]
        have e1 : (PN == 0) = false := by simpa using h0
        clear h0 b0 b1 b2 b3
        go_wp2_with fail
        go_meet
        case rel => exact ⟨_, _, _, rfl, by rw [HPL.out]; exact GS.nil _, HBC.out⟩
  obtain ⟨aG, mG, cG, rfl, hIG, hBG⟩ := hcut
  obtain ⟨wG, hwG⟩ : ∃ X, X = wc := ⟨_, rfl⟩
  subst hwG
  have HIG : Hid (∀ W, Below wG.heap.size wG W → GS inE W (.slice aG mG cG) (ptL S Ls Hs Ts h)) := fun W hb => hIG.later hb
  have HBG : Hid (Below w0.heap.size w0 wG) := hBG
  clear hIG hBG HBC b0 b1 b2 b3
  obtain ⟨b0, b1, b2, b3⟩ := (HALL.out _ HBG.out).2.2.2.2.2.2
  go_wp2_with fail
  refine (pathC_any S ao n cap ao2 n2 cap2 ao3 n3 cap3 Ls Hs Ts h _ (HALL.out _ HBG.out).1 (HALL.out _ HBG.out).2.1 (HALL.out _ HBG.out).2.2.1).mono ?_
  rintro e wH ⟨aH, nH, cH, rfl, hgH, hbH⟩
  rw [HPN.out]
  have HIH : Hid (∀ W, Below wH.heap.size wH W → GS inE W (.slice aH nH cH) (ptL S Ls Hs Ts h) ∧ GS inE W (.slice aG mG cG) (ptL S Ls Hs Ts h)) := fun W hb => ⟨hgH.later hb, HIG.out _ (hbH.trans (hb.mono hbH.size))⟩
  have HBH : Hid (Below w0.heap.size w0 wH) := HBG.out.trans (hbH.mono HBG.out.size)
  clear hgH hbH HIG b0 b1 b2 b3
  go_wp2_with fail
  refine (same_noV PN _ (HALL.out _ HBH.out).2.2.2.2.2.1).mono ?_
  rintro e wI ⟨rfl, hbI⟩
  have HII : Hid (GS inE wI (.slice aH nH cH) (ptL S Ls Hs Ts h) ∧ GS inE wI (.slice aG mG cG) (ptL S Ls Hs Ts h)) := HIH.out _ hbI
  have HBI : Hid (Below w0.heap.size w0 wI) := HBH.out.trans (hbI.mono HBH.out.size)
  clear hbI HIH
  go_wp2_with fail
  refine (smints_any aH aG nH mG cH cG _ _ _ HII.out.1 HII.out.2).mono ?_
  rintro e wk ⟨rfl, hbk⟩
  have HBk : Hid (Below w0.heap.size w0 wk) := HBI.out.trans (hbk.mono HBI.out.size)
  rw [show (ptL S Ls Hs Ts h == ptL S Ls Hs Ts h) = true by simp]
  clear hbk HII
  go_wp2
  go_loopw [9, 22, 23] (fun e r i wr => ∃ k : Nat, k ≤ n5 ∧ e = .int .i64 (rpN (Ms.take k) h) ∧ r = .int .i64 (rpV (Ms.take k) h) ∧ i = .int .i64 k ∧ wr = wk) (fun _ _ i _ => n5 - (intOf i).toNat)
  case atStart => exact ⟨0, by omega, by rw [List.take_zero, (rp_nil h).1], by rw [List.take_zero, (rp_nil h).2], rfl, rfl⟩
  case round =>
    obtain ⟨k, hk, rfl, rfl, rfl, hwr⟩ := hrel
    subst hwr
    obtain ⟨E, hE⟩ : ∃ E, E = rpN (Ms.take k) h := ⟨_, rfl⟩
    obtain ⟨R, hR⟩ : ∃ R, R = rpV (Ms.take k) h := ⟨_, rfl⟩
    have HE : Hid (rpN (Ms.take k) h = E) := hE.symm
    have HR : Hid (rpV (Ms.take k) h = R) := hR.symm
    rw [← hE, ← hR]
    clear hE hR
    by_cases hE0 : E = 0
    · subst hE0
      have hRF2 := rp_found HE.out
      have hRR : R = RV := by rw [← HR.out, ← hRF2.2, HRF.out.1]
      have hNN : RN = 0 := by rw [← HRF.out.2, hRF2.1]
      subst hRR hNN
      clear hRF2
      by_cases hkn : k < n5
      · have kd : (k : Int) < (n5 : Int) := by omega
        go_wp2_with fail
        refine (rep_any _ _ _ h Ms _ (HALL.out _ HBk.out).2.2.2.2.1).mono ?_
        rintro e wx ⟨rfl, hbx⟩
        have HBx : Hid (Below w0.heap.size w0 wx) := HBk.out.trans (hbx.mono HBk.out.size)
        clear hbx
        rw [HRF.out.1, HRF.out.2]
        go_wp2_with fail
        refine (same_noV _ _ (HALL.out _ HBx.out).2.2.2.2.2.1).mono ?_
        rintro e wy ⟨rfl, hby⟩
        have HBy : Hid (Below w.heap.size w wy) := HB0.out.trans ((HBx.out.trans (hby.mono HBx.out.size)).mono HB0.out.size)
        clear hby
        go_wp2
        go_ret
        exact ⟨by simp, HBy.out⟩
      · have kd : ¬ (k : Int) < (n5 : Int) := by omega
        go_wp2_with fail
        refine (rep_any _ _ _ h Ms _ (HALL.out _ HBk.out).2.2.2.2.1).mono ?_
        rintro e wx ⟨rfl, hbx⟩
        have HBx : Hid (Below w0.heap.size w0 wx) := HBk.out.trans (hbx.mono HBk.out.size)
        clear hbx
        rw [HRF.out.1, HRF.out.2]
        go_wp2_with fail
        refine (same_noV _ _ (HALL.out _ HBx.out).2.2.2.2.2.1).mono ?_
        rintro e wy ⟨rfl, hby⟩
        have HBy : Hid (Below w.heap.size w wy) := HB0.out.trans ((HBx.out.trans (hby.mono HBx.out.size)).mono HB0.out.size)
        clear hby
        go_wp2
        go_ret
        exact ⟨by simp, HBy.out⟩
    · obtain ⟨hneg, hE5, hR0⟩ := rp_none (Ls := Ms.take k) (h := h) (by rw [HE.out]; exact hE0)
      rw [HE.out] at hE5
      rw [HR.out] at hR0
      subst hE5 hR0
      clear hneg hE0
      by_cases hkn : k < n5
      · have kd : (k : Int) < (n5 : Int) := by omega
        have kd0 : (0 : Int) ≤ (k : Int) := by omega
        have hkl : k < Ms.length := by rw [HM5.out]; exact hkn
        obtain ⟨_, _, _, e9, _, _, _, ha9⟩ := (HALL.out _ HBk.out).2.2.2.2.1.form
        cases e9
        obtain ⟨g9, o9, ha99, hl9, _⟩ := ha9 (by omega)
        subst ha99
        obtain ⟨aC, nC, cC, qC, hGC⟩ := hl9.at HM5.out hkn
        obtain ⟨C, hC⟩ : ∃ C, C = Ms.getD k [] := ⟨_, rfl⟩
        have HC : Hid (Ms.getD k [] = C) := hC.symm
        rw [← hC] at hGC
        have HNC : Hid (C.length = nC) := hGC.len
        obtain ⟨_, _, _, eC, _, hnCm, _, haC⟩ := hGC.form
        cases eC
        have nC63 : nC ≤ 9223372036854775807 := by unfold maxLen at hnCm; omega
        have HAC : Hid (0 < nC → ∃ g o, aC = some ⟨g, o, none⟩ ∧ GAt inE wr g o C ∧ cC ≤ maxLen) := haC
        clear hC hGC ha9 hl9 hnCm haC
        go_upto_region 30 with fail
        go_loopw [9, 24] (fun e i wr' => ∃ t : Nat, t ≤ nC ∧ e = .int .i64 (e5 (hasL h (C.take t))) ∧ i = .int .i64 t ∧ wr' = wr) (fun _ i _ => nC - (intOf i).toNat)
        case atStart => exact ⟨0, by omega, by simp [hasL, e5], rfl, rfl⟩
        case round =>
          obtain ⟨t, ht, rfl, rfl, hwt⟩ := hrel
          subst hwt
          obtain ⟨B, hB⟩ : ∃ B, B = hasL h (C.take t) := ⟨_, rfl⟩
          have HBt : Hid (hasL h (C.take t) = B) := hB.symm
          rw [← hB]
          clear hB
          by_cases htn : t < nC
          · obtain ⟨gC, oC, haC, hcC, _⟩ := HAC.out (by omega)
            subst haC
            obtain ⟨x, hxl, hxC, p0⟩ := in_at hcC HNC.out htn
            have HNX : Hid (hasL h (C.take (t + 1)) = (B || (x == h))) := by
              show _ = _
              rw [has_next hxl, HBt.out, hxC]
            have t0 : (0 : Int) ≤ (t : Int) := by omega
            have t1 : (t : Int) < (nC : Int) := by omega
            clear hcC hxC hxl
            by_cases hxh : x = h
            · subst hxh
              have HE1 : Hid (e5 (hasL x (C.take (t + 1))) = 0) := by
                show _ = _
                rw [HNX.out]
                simp [e5]
              go_wp2
              go_roundw
              case rel => exact ⟨t + 1, by omega, by rw [HE1.out], by go_num, trivial⟩
              case measure => simp [intOf]; omega
            · have hxb : (x == h) = false := by simpa using hxh
              have HE1 : Hid (e5 (hasL h (C.take (t + 1))) = e5 B) := by
                show _ = _
                rw [HNX.out, hxb, Bool.or_false]
              go_wp2
              go_roundw
              case rel => exact ⟨t + 1, by omega, by rw [HE1.out], by go_num, trivial⟩
              case measure => simp [intOf]; omega
          · obtain rfl : t = nC := by omega
            have hBC : hasL h C = B := by
              have h9 := HBt.out
              rw [List.take_of_length_le (by rw [HNC.out]; exact Nat.le_refl _)] at h9
              exact h9
            have HBC2 : Hid (hasL h C = B) := hBC
            clear hBC
            cases B with
            | false =>
              have HNXT := rp_no (Ls := Ms) (h := h) hkl HE.out (by rw [HC.out]; exact HBC2.out)
              have HNX1 : Hid (rpN (Ms.take (k + 1)) h = 5 ∧ rpV (Ms.take (k + 1)) h = 0) := HNXT
              rw [show e5 false = 5 from rfl]
              clear HNXT
              go_upto_region 35 with fail
              go_loopw [22, 25] (fun r i wr' => r = .int .i64 0 ∧ i = .int .i64 0 ∧ wr' = wr) (fun _ _ _ => 0)
              case atStart => exact ⟨rfl, rfl, rfl⟩
              case round =>
                obtain ⟨rfl, rfl, hwt⟩ := hrel
                subst hwt
                by_cases hz : 0 < t
                · have hz1 : (0 : Int) < (t : Int) := by omega
                  go_wp2
                  go_roundw
                  case rel => exact ⟨k + 1, by omega, by rw [HNX1.out.1], by rw [HNX1.out.2], by go_num, trivial⟩
                  case measure => simp [intOf]; omega
                · have hz1 : ¬ (0 : Int) < (t : Int) := by omega
                  obtain rfl : t = 0 := by omega
                  go_wp2
                  go_roundw
                  case rel => exact ⟨k + 1, by omega, by rw [HNX1.out.1], by rw [HNX1.out.2], by go_num, trivial⟩
                  case measure => simp [intOf]; omega
            | true =>
              have HNXT := rp_yes (Ls := Ms) (h := h) hkl HE.out (by rw [HC.out]; exact HBC2.out)
              rw [HC.out, HNC.out] at HNXT
              have HNX1 : Hid (rpN (Ms.take (k + 1)) h = 0 ∧ rpV (Ms.take (k + 1)) h = mnTo C t) := HNXT
              rw [show e5 true = 0 from rfl]
              clear HNXT
              go_upto_region 35 with fail
              go_loopw [22, 25] (fun r i wr' => ∃ q : Nat, q ≤ t ∧ r = .int .i64 (mnTo C q) ∧ i = .int .i64 q ∧ wr' = wr) (fun _ i _ => t - (intOf i).toNat)
              case atStart => exact ⟨0, by omega, rfl, rfl, rfl⟩
              case round =>
                obtain ⟨q, hq, rfl, rfl, hwt⟩ := hrel
                subst hwt
                obtain ⟨M, hM⟩ : ∃ M, M = mnTo C q := ⟨_, rfl⟩
                have HM : Hid (mnTo C q = M) := hM.symm
                rw [← hM]
                clear hM
                by_cases hqt : q < t
                · obtain ⟨gC, oC, haC, hcC, _⟩ := HAC.out (by omega)
                  subst haC
                  obtain ⟨x, hxl, hxC, p0⟩ := in_at hcC HNC.out hqt
                  have hxD : C.getD q 0 = x := by
                    rw [← hxC, List.getD, List.getElem?_eq_getElem hxl]
                    rfl
                  have HXD : Hid (C.getD q 0 = x) := hxD
                  have q0 : (0 : Int) ≤ (q : Int) := by omega
                  have q1 : (q : Int) < (t : Int) := by omega
                  clear hcC hxC hxl hxD
                  by_cases hq0 : q = 0
                  · subst hq0
                    rw [Nat.add_zero] at p0
                    have HR1 : Hid (mnTo C (0 + 1) = x) := by
                      show _ = _
                      rw [mnTo, if_pos (.inl rfl), HXD.out]
                    go_wp2
                    go_roundw
                    case rel => exact ⟨0 + 1, by omega, by rw [HR1.out], by go_num, trivial⟩
                    case measure => simp [intOf]; omega
                  · have hq0i : ¬ (q : Int) = 0 := by omega
                    have hq0b : ((q : Int) == 0) = false := by simpa using hq0
                    by_cases hxm : x < M
                    · have HR1 : Hid (mnTo C (q + 1) = x) := by
                        show _ = _
                        rw [mnTo, HXD.out, HM.out, if_pos (.inr hxm)]
                      go_wp2
                      go_roundw
                      case rel => exact ⟨q + 1, by omega, by rw [HR1.out], by go_num, trivial⟩
                      case measure => simp [intOf]; omega
                    · have HR1 : Hid (mnTo C (q + 1) = M) := by
                        show _ = _
                        rw [mnTo, HXD.out, HM.out, if_neg]
                        rintro (h8 | h8)
                        · exact hq0 h8
                        · exact hxm h8
                      go_wp2
                      go_roundw
                      case rel => exact ⟨q + 1, by omega, by rw [HR1.out], by go_num, trivial⟩
                      case measure => simp [intOf]; omega
                · obtain rfl : q = t := by omega
                  have hqd : ¬ (q : Int) < (q : Int) := by omega
                  go_wp2
                  go_roundw
                  case rel => exact ⟨k + 1, by omega, by rw [HNX1.out.1], by rw [HNX1.out.2, HM.out], by go_num, trivial⟩
                  case measure => simp [intOf]; omega
      · obtain rfl : k = n5 := by omega
        have hRN5 : RN = 5 := by
          rw [← HRF.out.2, ← HE.out, List.take_of_length_le (by rw [HM5.out]; exact Nat.le_refl _)]
        have hRV0 : RV = 0 := by
          rw [← HRF.out.1, ← HR.out, List.take_of_length_le (by rw [HM5.out]; exact Nat.le_refl _)]
        subst hRN5 hRV0
        have kd : ¬ (k : Int) < (k : Int) := by omega
        go_wp2_with fail
        refine (rep_any _ _ _ h Ms _ (HALL.out _ HBk.out).2.2.2.2.1).mono ?_
        rintro e wx ⟨rfl, hbx⟩
        have HBx : Hid (Below w0.heap.size w0 wx) := HBk.out.trans (hbx.mono HBk.out.size)
        clear hbx
        rw [HRF.out.1, HRF.out.2]
        go_wp2_with fail
        refine (same_noV _ _ (HALL.out _ HBx.out).2.2.2.2.2.1).mono ?_
        rintro e wy ⟨rfl, hby⟩
        have HBy : Hid (Below w.heap.size w wy) := HB0.out.trans ((HBx.out.trans (hby.mono HBx.out.size)).mono HB0.out.size)
        clear hby
        go_wp2
        go_ret
        exact ⟨by simp, HBy.out⟩
end classTells
end Go.Proofs.YtfbocionnjliladDoor
/- A topology that came in: its number of switches, its links, its hosts. -/
namespace Go.Proofs.YtfbocionnjliladDoor
open Go.ChangeShapes Go.WideShapes Go.ChangeAt Go.RowKit Go.Joins
set_option linter.unusedSimpArgs false
set_option linter.unusedVariables false
set_option maxRecDepth 100000

section
variable {P : Program} {α : Type} {E : Enc α}
set_option maxRecDepth 100000 in
/-- A cell that reads as a slice lies where it says. -/
theorem gs_open {H : Type} {enc : TypeId × Value → H} {W : World} {fuel : Nat} {cs : List Value} {x : DataW H × List MemPlace} (ts te : TypeId) (hu : P.underlying ts = some (.slice te)) (hC : P.cellsOf te = E.n) (x0 : α)
    (hel : ∀ (n : Nat) (cs : List Value) (x : DataW H × List MemPlace), DataW.trod enc P W 0 (fun _ => true) true n te cs = some x → ∃ y, cs = E.c y)
    (hf2 : DataW.trod enc P W 0 (fun _ => true) true fuel ts cs = some x) : ∃ ao n cap L, cs = [.slice ao n cap] ∧ GS E W (.slice ao n cap) L := by
  obtain ⟨d, p⟩ := x
  rcases Go.Deep.open_slice hu hf2 with ⟨hc, hx⟩ | ⟨a, len0, cap, m, k, D, Pl, hc, _, hl, hm, hmm, hx, hall⟩
  · exact ⟨_, _, _, [], hc, .inl ⟨none, 0, rfl, rfl⟩⟩
  · simp only [if_true] at hmm
    subst hmm
    rcases Nat.eq_zero_or_pos len0 with h0 | h0
    · subst h0
      exact ⟨_, _, _, [], hc, .inl ⟨_, _, rfl, rfl⟩⟩
    · have each : ∀ i, i < m → ∃ y : α, ∀ j, j < E.n → W.cell? (a.add (i * E.n + j)) = (E.c y)[j]? := by
        intro i hi
        obtain ⟨cs, h1, h2⟩ := hall i hi
        rw [hC] at h1
        obtain ⟨_, hlen, hcell⟩ := World.cells?_some h1
        obtain ⟨y, rfl⟩ := hel _ _ _ h2
        refine ⟨y, fun j hj => ?_⟩
        have := hcell j (by omega)
        rw [Go.Deep.add_add] at this
        exact this
      have iR : Inhabited α := ⟨x0⟩
      obtain ⟨R, hR⟩ := Go.Deep.choose_lt each
      obtain ⟨sb, so, spot⟩ := a
      have hspot : spot = none := by
        have h1 := hR 0 (by omega) 0 E.pos
        have h2 : (E.c (R 0))[0]?.isSome = true := by
          rw [List.getElem?_eq_getElem (by rw [E.len]; exact E.pos)]
          rfl
        obtain ⟨u, hu2⟩ := Option.isSome_iff_exists.1 h2
        rw [hu2] at h1
        simpa [Addr.add] using World.cell?_spot h1
      subst hspot
      have hadd : ∀ j, (⟨sb, so, none⟩ : Addr).add j = ⟨sb, so + j, none⟩ := by
        intro j
        simp only [Addr.add]
        first
          | rfl
          | (split
             · next h0 => rw [h0]; rfl
             · rfl)
      refine ⟨_, _, _, (List.range len0).map R, hc, .inr ⟨sb, so, _, by simp, by simpa using hl, hm, fun i hi j u hu2 => ?_⟩⟩
      have hi2 : i < len0 := by simpa using hi
      have e : ((List.range len0).map R)[i] = R i := by simp
      rw [e] at hu2
      have hj : j < E.n := by
        have := (List.getElem?_eq_some_iff.1 hu2).1
        rw [E.len] at this
        exact this
      have hc := hR i (by omega) j hj
      rw [hadd, hu2, ← Nat.add_assoc] at hc
      exact hc
end
set_option maxRecDepth 100000 in
/-- One that came in. -/
theorem topo_open {H : Type} {enc : TypeId × Value → H} {W : World} {n : Nat} {cs : List Value} {x : DataW H × List MemPlace}
    (h : DataW.trod enc Tryd.prog W 0 (fun _ => true) true n 25 cs = some x) : ∃ S ao n cap ao2 n2 cap2 Ls Hs, cs = [.int .i64 S, .slice ao n cap, .slice ao2 n2 cap2] ∧ GS lnkE W (.slice ao n cap) Ls ∧ GS hstE W (.slice ao2 n2 cap2) Hs := by
  obtain ⟨xs, k, _, _, hl, hlen, hf⟩ := DataW.trod_struct Tryd.underlying25 h
  have hC : Tryd.prog.cellsOf 25 = 3 := by kernel_rfl
  have hT0 : Tryd.prog.cellsOf 3 = 1 := by kernel_rfl
  have hT1 : Tryd.prog.cellsOf 22 = 1 := by kernel_rfl
  have hT2 : Tryd.prog.cellsOf 23 = 1 := by kernel_rfl
  rw [hC] at hl
  match cs, hl with
  | [c0, c1, c2], _ =>
    match xs, hlen with
    | [z0, z1, z2], _ =>
      have g0 := hf 0 _ rfl
      have g1 := hf 1 _ rfl
      have g2 := hf 2 _ rfl
      simp [hT0, hT1, hT2] at g0 g1 g2
      obtain ⟨v0, e0, _, _⟩ := DataW.trod_int Tryd.underlying3 g0
      obtain ⟨ao, n, cap, Ls, e1, hL⟩ := gs_open (E := lnkE) 22 110 Tryd.underlying22 (by kernel_rfl) ((0, 0), (0, 0)) (fun _ _ _ h => lnk_open h) g1
      obtain ⟨ao2, n2, cap2, Hs, e2, hH⟩ := gs_open (E := hstE) 23 55 Tryd.underlying23 (by kernel_rfl) (ByteArray.empty, (0, 0)) (fun _ _ _ h => hst_open h) g2
      simp at e0 e1 e2
      exact ⟨v0, ao, n, cap, ao2, n2, cap2, Ls, Hs, by simp [e0, e1, e2], hL, hH⟩
theorem topo_of {H : Type} {enc : TypeId × Value → H} {W : World} {base : Nat} {v : Value} {d : DataW H} {p : List MemPlace}
    (hv : Value.okWide Tryd.prog W .any base 25 v) (h : DataW.Trod enc Tryd.prog W 0 (fun _ => true) true 25 v d p) : ∃ S ao n cap ao2 n2 cap2 Ls Hs, v = .agg #[.int .i64 S, .slice ao n cap, .slice ao2 n2 cap2] ∧ GS lnkE W (.slice ao n cap) Ls ∧ GS hstE W (.slice ao2 n2 cap2) Hs := by
  obtain ⟨cs, rfl, hsz⟩ := okWide_struct Tryd.underlying25 hv
  obtain ⟨n, hn⟩ := h
  obtain ⟨S, ao, n, cap, ao2, n2, cap2, Ls, Hs, e, h1, h2⟩ := topo_open hn
  refine ⟨S, ao, n, cap, ao2, n2, cap2, Ls, Hs, ?_, h1, h2⟩
  simp only [Value.cells] at e
  rw [← Array.toArray_toList (xs := cs), e]
end Go.Proofs.YtfbocionnjliladDoor
/- The struct api.Cube: its cells, slices of them, == of two, such that came in. Written by mk/struct.py. -/
namespace Go.Proofs.YtfbocionnjliladDoor
open Go.ChangeShapes Go.WideShapes Go.ChangeAt Go.RowKit Go.Joins
set_option linter.unusedSimpArgs false
set_option linter.unusedVariables false
set_option maxRecDepth 100000

def cuE : Enc (Int × Int) where
  c := fun x => [.int .i64 x.1, .int .i64 x.2]
  n := 2
  len := fun _ => rfl
  pos := by decide
  one := by
    intro x u hu
    simp at hu
    rcases hu with rfl | rfl <;> rfl
theorem cu_cells {w : World} {g o : Nat} {x0 : Int} {x1 : Int} (h : VAt w g o (cuE.c (x0, x1))) : w.cell? ⟨g, o, none⟩ = some (.int .i64 x0) ∧ w.cell? ⟨g, o + 1, none⟩ = some (.int .i64 x1) :=
  ⟨h 0 _ rfl, h 1 _ rfl⟩
theorem cu_at {w : World} {g o : Nat} {L : List (Int × Int)} (h : GAt cuE w g o L) {n k : Nat} (hn : L.length = n) (hk : k < n) :
    ∃ (x0 : Int) (x1 : Int) (hl : k < L.length), L[k] = (x0, x1) ∧ w.cell? ⟨g, o + k * 2, none⟩ = some (.int .i64 x0) ∧ w.cell? ⟨g, o + k * 2 + 1, none⟩ = some (.int .i64 x1) :=
  have hl : k < L.length := by omega
  ⟨_, _, hl, rfl, cu_cells (h k hl)⟩
theorem cu_new (w : World) (x0 : Int) (x1 : Int) (t : TypeId) : VAt (w.alloc (Obj.cells #[.int .i64 x0, .int .i64 x1] t)) w.heap.size 0 (cuE.c (x0, x1)) := vat_new w [.int .i64 x0, .int .i64 x1] t
theorem cu_row (w : World) (x0 : Int) (x1 : Int) (t : TypeId) : GS cuE (w.alloc (Obj.cells #[.int .i64 x0, .int .i64 x1] t)) (.slice (some ⟨w.heap.size, 0, none⟩) 1 1) [(x0, x1)] := gs_one (E := cuE) w (x0, x1) t (vs := [.int .i64 x0, .int .i64 x1]) rfl
/-- Are two the same? -/
def cuB (a b : Int × Int) : Bool := (a.1 == b.1) && ((a.2 == b.2))
theorem cuB_iff (a b : Int × Int) : cuB a b = true ↔ a = b := by
  have e : cuB a b = ((a.1 == b.1) && ((a.2 == b.2))) := rfl
  rw [e]
  simp only [Bool.and_eq_true, beq_iff_eq]
  constructor
  · intro h
    obtain ⟨a0, a1⟩ := a; obtain ⟨b0, b1⟩ := b; simp at h ⊢; simp [h]
  · intro h
    subst h
    simp
theorem cu_ways (x0 : Int) (x1 : Int) (y0 : Int) (y1 : Int) :
    ((x0 == y0) = false ∧ cuB (x0, x1) (y0, y1) = false) ∨
    ((x0 == y0) = true ∧ (x1 == y1) = false ∧ cuB (x0, x1) (y0, y1) = false) ∨
    ((x0 == y0) = true ∧ (x1 == y1) = true ∧ cuB (x0, x1) (y0, y1) = true) := by
  have e : cuB (x0, x1) (y0, y1) = ((x0 == y0) && ((x1 == y1))) := rfl
  rw [e]
  cases h0 : (x0 == y0)
  · simp
  · skip
    cases h1 : (x1 == y1)
    · simp
    · skip
      simp
set_option maxRecDepth 100000 in
theorem cu_eq (x0 : Int) (x1 : Int) (y0 : Int) (y1 : Int) (w : World) : (Op.equal 74 (.agg #[.int .i64 x0, .int .i64 x1]) (.agg #[.int .i64 y0, .int .i64 y1])).run Tryd.prog w = .ok (cuB (x0, x1) (y0, y1)) w := by
  unfold Op.equal Op.maxDepth
  rw [run_equalIn_struct w 9999 _ _ _ (by kernel_rfl) (by kernel_rfl)]
  rcases cu_ways x0 x1 y0 y1 with ⟨e0, e⟩ | ⟨e0, e1, e⟩ | ⟨e0, e1, e⟩
  all_goals
    rw [e]
    go_simp
theorem cu_info : (Tryd.prog.info? 74).map (fun i => (i.zero, i.size, i.bytes)) = some (some (.agg #[.int .i64 0, .int .i64 0]), 2, 16) := by kernel_rfl
theorem cu_zero : (Value.agg #[.int .i64 0, .int .i64 0]).cells.size = 2 := by simp [Value.cells]
/-- Cells that read as one. -/
theorem cu_open {H : Type} {enc : TypeId × Value → H} {W : World} {n : Nat} {cs : List Value} {x : DataW H × List MemPlace}
    (h : DataW.trod enc Tryd.prog W 0 (fun _ => true) true n 74 cs = some x) : ∃ y, cs = cuE.c y := by
  obtain ⟨xs, k, _, _, hl, hlen, hf⟩ := DataW.trod_struct Tryd.underlying74 h
  have hC : Tryd.prog.cellsOf 74 = 2 := by kernel_rfl
  have hT0 : Tryd.prog.cellsOf 3 = 1 := by kernel_rfl
  rw [hC] at hl
  match cs, hl with
  | [c0, c1], _ =>
    match xs, hlen with
    | [z0, z1], _ =>
      have g0 := hf 0 _ rfl
      have g1 := hf 1 _ rfl
      simp [hT0] at g0 g1
      obtain ⟨v0, e0, _, _⟩ := DataW.trod_int Tryd.underlying3 g0
      obtain ⟨v1, e1, _, _⟩ := DataW.trod_int Tryd.underlying3 g1
      simp [] at e0 e1
      refine ⟨(v0, v1), ?_⟩
      simp [cuE, e0, e1]
set_option maxRecDepth 100000 in
/-- One that came in. -/
theorem cu_of {H : Type} {enc : TypeId × Value → H} {W : World} {base : Nat} {v : Value} {d : DataW H} {p : List MemPlace}
    (hv : Value.okWide Tryd.prog W .any base 74 v) (h : DataW.Trod enc Tryd.prog W 0 (fun _ => true) true 74 v d p) : ∃ (x0 : Int) (x1 : Int), v = .agg #[.int .i64 x0, .int .i64 x1] := by
  obtain ⟨cs, rfl, hsz⟩ := okWide_struct Tryd.underlying74 hv
  obtain ⟨n, hn⟩ := h
  obtain ⟨y, e⟩ := cu_open hn
  refine ⟨y.1, y.2, ?_⟩
  simp only [Value.cells] at e
  have e2 : cs = #[.int .i64 y.1, .int .i64 y.2] := by
    rw [← Array.toArray_toList (xs := cs), e]
    rfl
  rw [e2]
end Go.Proofs.YtfbocionnjliladDoor
/- The struct api.Rule: its cells, slices of them, == of two, such that came in. Written by mk/struct.py. -/
namespace Go.Proofs.YtfbocionnjliladDoor
open Go.ChangeShapes Go.WideShapes Go.ChangeAt Go.RowKit Go.Joins
set_option linter.unusedSimpArgs false
set_option linter.unusedVariables false
set_option maxRecDepth 100000

def rlE : Enc (Ru) where
  c := fun x => [.int .i64 x.p, .int .i64 x.m, .int .i64 x.b, .int .i64 x.o, .int .i64 x.s, .int .i64 x.v]
  n := 6
  len := fun _ => rfl
  pos := by decide
  one := by
    intro x u hu
    simp at hu
    rcases hu with rfl | rfl | rfl | rfl | rfl | rfl <;> rfl
theorem rl_cells {w : World} {g o : Nat} {x0 : Int} {x1 : Int} {x2 : Int} {x3 : Int} {x4 : Int} {x5 : Int} (h : VAt w g o (rlE.c ⟨x0, x1, x2, x3, x4, x5⟩)) : w.cell? ⟨g, o, none⟩ = some (.int .i64 x0) ∧ w.cell? ⟨g, o + 1, none⟩ = some (.int .i64 x1) ∧ w.cell? ⟨g, o + 2, none⟩ = some (.int .i64 x2) ∧ w.cell? ⟨g, o + 3, none⟩ = some (.int .i64 x3) ∧ w.cell? ⟨g, o + 4, none⟩ = some (.int .i64 x4) ∧ w.cell? ⟨g, o + 5, none⟩ = some (.int .i64 x5) :=
  ⟨h 0 _ rfl, h 1 _ rfl, h 2 _ rfl, h 3 _ rfl, h 4 _ rfl, h 5 _ rfl⟩
theorem rl_at {w : World} {g o : Nat} {L : List (Ru)} (h : GAt rlE w g o L) {n k : Nat} (hn : L.length = n) (hk : k < n) :
    ∃ (x0 : Int) (x1 : Int) (x2 : Int) (x3 : Int) (x4 : Int) (x5 : Int) (hl : k < L.length), L[k] = ⟨x0, x1, x2, x3, x4, x5⟩ ∧ w.cell? ⟨g, o + k * 6, none⟩ = some (.int .i64 x0) ∧ w.cell? ⟨g, o + k * 6 + 1, none⟩ = some (.int .i64 x1) ∧ w.cell? ⟨g, o + k * 6 + 2, none⟩ = some (.int .i64 x2) ∧ w.cell? ⟨g, o + k * 6 + 3, none⟩ = some (.int .i64 x3) ∧ w.cell? ⟨g, o + k * 6 + 4, none⟩ = some (.int .i64 x4) ∧ w.cell? ⟨g, o + k * 6 + 5, none⟩ = some (.int .i64 x5) :=
  have hl : k < L.length := by omega
  ⟨_, _, _, _, _, _, hl, rfl, rl_cells (h k hl)⟩
theorem rl_new (w : World) (x0 : Int) (x1 : Int) (x2 : Int) (x3 : Int) (x4 : Int) (x5 : Int) (t : TypeId) : VAt (w.alloc (Obj.cells #[.int .i64 x0, .int .i64 x1, .int .i64 x2, .int .i64 x3, .int .i64 x4, .int .i64 x5] t)) w.heap.size 0 (rlE.c ⟨x0, x1, x2, x3, x4, x5⟩) := vat_new w [.int .i64 x0, .int .i64 x1, .int .i64 x2, .int .i64 x3, .int .i64 x4, .int .i64 x5] t
theorem rl_row (w : World) (x0 : Int) (x1 : Int) (x2 : Int) (x3 : Int) (x4 : Int) (x5 : Int) (t : TypeId) : GS rlE (w.alloc (Obj.cells #[.int .i64 x0, .int .i64 x1, .int .i64 x2, .int .i64 x3, .int .i64 x4, .int .i64 x5] t)) (.slice (some ⟨w.heap.size, 0, none⟩) 1 1) [⟨x0, x1, x2, x3, x4, x5⟩] := gs_one (E := rlE) w ⟨x0, x1, x2, x3, x4, x5⟩ t (vs := [.int .i64 x0, .int .i64 x1, .int .i64 x2, .int .i64 x3, .int .i64 x4, .int .i64 x5]) rfl
/-- Are two the same? -/
def rlB (a b : Ru) : Bool := (a.p == b.p) && ((a.m == b.m) && ((a.b == b.b) && ((a.o == b.o) && ((a.s == b.s) && ((a.v == b.v))))))
theorem rlB_iff (a b : Ru) : rlB a b = true ↔ a = b := by
  have e : rlB a b = ((a.p == b.p) && ((a.m == b.m) && ((a.b == b.b) && ((a.o == b.o) && ((a.s == b.s) && ((a.v == b.v))))))) := rfl
  rw [e]
  simp only [Bool.and_eq_true, beq_iff_eq]
  constructor
  · intro h
    obtain ⟨a0, a1, a2, a3, a4, a5⟩ := a; obtain ⟨b0, b1, b2, b3, b4, b5⟩ := b; simp at h ⊢; simp [h]
  · intro h
    subst h
    simp
theorem rl_ways (x0 : Int) (x1 : Int) (x2 : Int) (x3 : Int) (x4 : Int) (x5 : Int) (y0 : Int) (y1 : Int) (y2 : Int) (y3 : Int) (y4 : Int) (y5 : Int) :
    ((x0 == y0) = false ∧ rlB ⟨x0, x1, x2, x3, x4, x5⟩ ⟨y0, y1, y2, y3, y4, y5⟩ = false) ∨
    ((x0 == y0) = true ∧ (x1 == y1) = false ∧ rlB ⟨x0, x1, x2, x3, x4, x5⟩ ⟨y0, y1, y2, y3, y4, y5⟩ = false) ∨
    ((x0 == y0) = true ∧ (x1 == y1) = true ∧ (x2 == y2) = false ∧ rlB ⟨x0, x1, x2, x3, x4, x5⟩ ⟨y0, y1, y2, y3, y4, y5⟩ = false) ∨
    ((x0 == y0) = true ∧ (x1 == y1) = true ∧ (x2 == y2) = true ∧ (x3 == y3) = false ∧ rlB ⟨x0, x1, x2, x3, x4, x5⟩ ⟨y0, y1, y2, y3, y4, y5⟩ = false) ∨
    ((x0 == y0) = true ∧ (x1 == y1) = true ∧ (x2 == y2) = true ∧ (x3 == y3) = true ∧ (x4 == y4) = false ∧ rlB ⟨x0, x1, x2, x3, x4, x5⟩ ⟨y0, y1, y2, y3, y4, y5⟩ = false) ∨
    ((x0 == y0) = true ∧ (x1 == y1) = true ∧ (x2 == y2) = true ∧ (x3 == y3) = true ∧ (x4 == y4) = true ∧ (x5 == y5) = false ∧ rlB ⟨x0, x1, x2, x3, x4, x5⟩ ⟨y0, y1, y2, y3, y4, y5⟩ = false) ∨
    ((x0 == y0) = true ∧ (x1 == y1) = true ∧ (x2 == y2) = true ∧ (x3 == y3) = true ∧ (x4 == y4) = true ∧ (x5 == y5) = true ∧ rlB ⟨x0, x1, x2, x3, x4, x5⟩ ⟨y0, y1, y2, y3, y4, y5⟩ = true) := by
  have e : rlB ⟨x0, x1, x2, x3, x4, x5⟩ ⟨y0, y1, y2, y3, y4, y5⟩ = ((x0 == y0) && ((x1 == y1) && ((x2 == y2) && ((x3 == y3) && ((x4 == y4) && ((x5 == y5))))))) := rfl
  rw [e]
  cases h0 : (x0 == y0)
  · simp
  · skip
    cases h1 : (x1 == y1)
    · simp
    · skip
      cases h2 : (x2 == y2)
      · simp
      · skip
        cases h3 : (x3 == y3)
        · simp
        · skip
          cases h4 : (x4 == y4)
          · simp
          · skip
            cases h5 : (x5 == y5)
            · simp
            · skip
              simp
set_option maxRecDepth 100000 in
theorem rl_eq (x0 : Int) (x1 : Int) (x2 : Int) (x3 : Int) (x4 : Int) (x5 : Int) (y0 : Int) (y1 : Int) (y2 : Int) (y3 : Int) (y4 : Int) (y5 : Int) (w : World) : (Op.equal 76 (.agg #[.int .i64 x0, .int .i64 x1, .int .i64 x2, .int .i64 x3, .int .i64 x4, .int .i64 x5]) (.agg #[.int .i64 y0, .int .i64 y1, .int .i64 y2, .int .i64 y3, .int .i64 y4, .int .i64 y5])).run Tryd.prog w = .ok (rlB ⟨x0, x1, x2, x3, x4, x5⟩ ⟨y0, y1, y2, y3, y4, y5⟩) w := by
  unfold Op.equal Op.maxDepth
  rw [run_equalIn_struct w 9999 _ _ _ (by kernel_rfl) (by kernel_rfl)]
  rcases rl_ways x0 x1 x2 x3 x4 x5 y0 y1 y2 y3 y4 y5 with ⟨e0, e⟩ | ⟨e0, e1, e⟩ | ⟨e0, e1, e2, e⟩ | ⟨e0, e1, e2, e3, e⟩ | ⟨e0, e1, e2, e3, e4, e⟩ | ⟨e0, e1, e2, e3, e4, e5, e⟩ | ⟨e0, e1, e2, e3, e4, e5, e⟩
  all_goals
    rw [e]
    go_simp
theorem rl_info : (Tryd.prog.info? 76).map (fun i => (i.zero, i.size, i.bytes)) = some (some (.agg #[.int .i64 0, .int .i64 0, .int .i64 0, .int .i64 0, .int .i64 0, .int .i64 0]), 6, 48) := by kernel_rfl
theorem rl_zero : (Value.agg #[.int .i64 0, .int .i64 0, .int .i64 0, .int .i64 0, .int .i64 0, .int .i64 0]).cells.size = 6 := by simp [Value.cells]
/-- Cells that read as one. -/
theorem rl_open {H : Type} {enc : TypeId × Value → H} {W : World} {n : Nat} {cs : List Value} {x : DataW H × List MemPlace}
    (h : DataW.trod enc Tryd.prog W 0 (fun _ => true) true n 76 cs = some x) : ∃ y, cs = rlE.c y := by
  obtain ⟨xs, k, _, _, hl, hlen, hf⟩ := DataW.trod_struct Tryd.underlying76 h
  have hC : Tryd.prog.cellsOf 76 = 6 := by kernel_rfl
  have hT0 : Tryd.prog.cellsOf 3 = 1 := by kernel_rfl
  have hT1 : Tryd.prog.cellsOf 74 = 2 := by kernel_rfl
  rw [hC] at hl
  match cs, hl with
  | [c0, c1, c2, c3, c4, c5], _ =>
    match xs, hlen with
    | [z0, z1, z2, z3, z4], _ =>
      have g0 := hf 0 _ rfl
      have g1 := hf 1 _ rfl
      have g2 := hf 2 _ rfl
      have g3 := hf 3 _ rfl
      have g4 := hf 4 _ rfl
      simp [hT0, hT1] at g0 g1 g2 g3 g4
      obtain ⟨v0, e0, _, _⟩ := DataW.trod_int Tryd.underlying3 g0
      obtain ⟨s1, e1⟩ := cu_open g1
      obtain ⟨v3, e2, _, _⟩ := DataW.trod_int Tryd.underlying3 g2
      obtain ⟨v4, e3, _, _⟩ := DataW.trod_int Tryd.underlying3 g3
      obtain ⟨v5, e4, _, _⟩ := DataW.trod_int Tryd.underlying3 g4
      simp [cuE] at e0 e1 e2 e3 e4
      refine ⟨⟨v0, s1.1, s1.2, v3, v4, v5⟩, ?_⟩
      simp [rlE, e0, e1, e2, e3, e4]
set_option maxRecDepth 100000 in
/-- One that came in. -/
theorem rl_of {H : Type} {enc : TypeId × Value → H} {W : World} {base : Nat} {v : Value} {d : DataW H} {p : List MemPlace}
    (hv : Value.okWide Tryd.prog W .any base 76 v) (h : DataW.Trod enc Tryd.prog W 0 (fun _ => true) true 76 v d p) : ∃ (x0 : Int) (x1 : Int) (x2 : Int) (x3 : Int) (x4 : Int) (x5 : Int), v = .agg #[.int .i64 x0, .int .i64 x1, .int .i64 x2, .int .i64 x3, .int .i64 x4, .int .i64 x5] := by
  obtain ⟨cs, rfl, hsz⟩ := okWide_struct Tryd.underlying76 hv
  obtain ⟨n, hn⟩ := h
  obtain ⟨y, e⟩ := rl_open hn
  refine ⟨y.p, y.m, y.b, y.o, y.s, y.v, ?_⟩
  simp only [Value.cells] at e
  have e2 : cs = #[.int .i64 y.p, .int .i64 y.m, .int .i64 y.b, .int .i64 y.o, .int .i64 y.s, .int .i64 y.v] := by
    rw [← Array.toArray_toList (xs := cs), e]
    rfl
  rw [e2]
/-- A slice of them that came in. -/
theorem rls_of {H : Type} {enc : TypeId × Value → H} {W : World} {base : Nat} {v : Value} {d : DataW H} {p : List MemPlace}
    (hv : Value.okWide Tryd.prog W .any base 30 v) (h : DataW.Trod enc Tryd.prog W 0 (fun _ => true) true 30 v d p) : ∃ L, GS rlE W v L :=
  gs_of (E := rlE) 30 76 Tryd.underlying30 (by kernel_rfl) ⟨0, 0, 0, 0, 0, 0⟩ (fun _ _ _ h => rl_open h) hv h
end Go.Proofs.YtfbocionnjliladDoor
