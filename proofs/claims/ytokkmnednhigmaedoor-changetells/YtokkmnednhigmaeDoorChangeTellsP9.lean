/- Contracts and facts on the way to ChangeTells, joined into one text: RefRule, RefApply, RefDiff, RefChanges, RefAlike, RefTopo1, RefName. -/
import Derived.Test.YtokkmnednhigmaeDoorChangeTellsP8
import Derived.Test.YtokkmnednhigmaeDoorChangeTellsP1
import Derived.Test.YtokkmnednhigmaeDoorChangeTellsP7
import Derived.Test.YtokkmnednhigmaeDoorChangeTellsP6
import Derived.Test.YtokkmnednhigmaeDoorChangeTellsP5
import Derived.Test.YtokkmnednhigmaeDoorChangeTellsP3
import Derived.Test.YtokkmnednhigmaeDoorChangeTellsP4
import Derived.Deep.RegionHeld3
import Derived.Deep.CutRange
import Derived.Deep.CutBlock
import Derived.Lib.Strings
import Derived.Test.YtokkmnednhigmaeDoorRows
import Derived.WalkKit
import Derived.WalkSpells
import Derived.Below
/- What the document's own Rule answers, called with any rule. -/
namespace Go.Proofs.YtokkmnednhigmaeDoor
open Go.RowKit
set_option linter.unusedSimpArgs false

theorem set_okB {s v : Int} (h : rngB s v = true) : okB s v = (bits .andNot .i64 v s == 0) := by simp [okB, h]

set_option maxHeartbeats 1000000 in
theorem refRule_prio (p m b o s v : Int) (w : World) (h : ruP p o = false) :
    Calls Tryd.prog 18 #[.agg #[.int .i64 p, .int .i64 m, .int .i64 b, .int .i64 o, .int .i64 s, .int .i64 v]] w fun e w' => e = .returned (.int .i64 1) ∧ Below w.heap.size w w' := by
  have hc : p < 0 ∨ (0 ≤ p ∧ 99 < p) ∨ ((0 ≤ p ∧ p ≤ 99) ∧ o < 0) ∨ ((0 ≤ p ∧ p ≤ 99) ∧ (0 ≤ o ∧ 4 < o)) := by
    simp [ruP] at h
    omega
  clear h
  rcases hc with h1 | ⟨h1, h2⟩ | ⟨⟨h1, h2⟩, h3⟩ | ⟨⟨h1, h2⟩, h3, h4⟩
  · have e1 : decide (p < 0) = true := by simp; omega
    go_enter Tryd.func18, Tryd.ntmps18
    go_wp2_with fail
    refine (header_any _ _).mono ?_
    rintro e w' ⟨rfl, rfl⟩
    go_wp2_with fail
    refine (header_any _ _).mono ?_
    rintro e w' ⟨rfl, rfl⟩
    go_wp2
    go_ret
    exact ⟨rfl, (Below.refl _ _).alloc (Nat.le_refl _) _⟩
  · have e1 : decide (p < 0) = false := by simp; omega
    have e2 : decide (99 < p) = true := by simp; omega
    go_enter Tryd.func18, Tryd.ntmps18
    go_wp2_with fail
    refine (header_any _ _).mono ?_
    rintro e w' ⟨rfl, rfl⟩
    go_wp2_with fail
    refine (header_any _ _).mono ?_
    rintro e w' ⟨rfl, rfl⟩
    go_wp2
    go_ret
    exact ⟨rfl, (Below.refl _ _).alloc (Nat.le_refl _) _⟩
  · have e1 : decide (p < 0) = false := by simp; omega
    have e2 : decide (99 < p) = false := by simp; omega
    have e3 : decide (o < 0) = true := by simp; omega
    go_enter Tryd.func18, Tryd.ntmps18
    go_wp2_with fail
    refine (header_any _ _).mono ?_
    rintro e w' ⟨rfl, rfl⟩
    go_wp2_with fail
    refine (header_any _ _).mono ?_
    rintro e w' ⟨rfl, rfl⟩
    go_wp2
    go_ret
    exact ⟨rfl, (Below.refl _ _).alloc (Nat.le_refl _) _⟩
  · have e1 : decide (p < 0) = false := by simp; omega
    have e2 : decide (99 < p) = false := by simp; omega
    have e3 : decide (o < 0) = false := by simp; omega
    have e4 : decide (4 < o) = true := by simp; omega
    go_enter Tryd.func18, Tryd.ntmps18
    go_wp2_with fail
    refine (header_any _ _).mono ?_
    rintro e w' ⟨rfl, rfl⟩
    go_wp2_with fail
    refine (header_any _ _).mono ?_
    rintro e w' ⟨rfl, rfl⟩
    go_wp2
    go_ret
    exact ⟨rfl, (Below.refl _ _).alloc (Nat.le_refl _) _⟩

set_option maxHeartbeats 1000000 in
theorem refRule_set (p m b o s v : Int) (w : World) (h : ruP p o = true) (h2 : rngB s v = false) :
    Calls Tryd.prog 18 #[.agg #[.int .i64 p, .int .i64 m, .int .i64 b, .int .i64 o, .int .i64 s, .int .i64 v]] w fun e w' => e = .returned (.int .i64 1) ∧ Below w.heap.size w w' := by
  obtain ⟨e1, e2, e3, e4⟩ := ruP_of h
  clear h
  cases hs : hdrB s
  · clear h2
    go_enter Tryd.func18, Tryd.ntmps18
    go_wp2_with fail
    refine (header_any _ _).mono ?_
    rintro e w' ⟨rfl, rfl⟩
    rw [hs]
    go_wp2_with fail
    refine (header_any _ _).mono ?_
    rintro e w' ⟨rfl, rfl⟩
    go_wp2
    go_ret
    exact ⟨rfl, (Below.refl _ _).alloc (Nat.le_refl _) _⟩
  · have hv : hdrB v = false := by simpa [rngB, hs] using h2
    clear h2
    go_enter Tryd.func18, Tryd.ntmps18
    go_wp2_with fail
    refine (header_any _ _).mono ?_
    rintro e w' ⟨rfl, rfl⟩
    rw [hs]
    go_wp2_with fail
    refine (header_any _ _).mono ?_
    rintro e w' ⟨rfl, rfl⟩
    rw [hv]
    go_wp2
    go_ret
    exact ⟨rfl, (Below.refl _ _).alloc (Nat.le_refl _) _⟩

set_option maxHeartbeats 1000000 in
theorem refRule_cube (p m b o s v : Int) (w : World) (h : ruP p o = true) (h2 : rngB s v = true) (h3 : okB m b = false) :
    Calls Tryd.prog 18 #[.agg #[.int .i64 p, .int .i64 m, .int .i64 b, .int .i64 o, .int .i64 s, .int .i64 v]] w fun e w' => e = .returned (.int .i64 (refN m b)) ∧ Below w.heap.size w w' := by
  obtain ⟨e1, e2, e3, e4⟩ := ruP_of h
  have hs : hdrB s = true := by simp only [rngB, Bool.and_eq_true] at h2; exact h2.1
  have hv : hdrB v = true := by simp only [rngB, Bool.and_eq_true] at h2; exact h2.2
  have hn : (refN m b != 0) = true := by have := ok_refN m b; rw [h3] at this; simpa using this
  clear h h2 h3
  go_enter Tryd.func18, Tryd.ntmps18
  go_wp2_with fail
  refine (header_any _ _).mono ?_
  rintro e w' ⟨rfl, rfl⟩
  rw [hs]
  go_wp2_with fail
  refine (header_any _ _).mono ?_
  rintro e w' ⟨rfl, rfl⟩
  rw [hv]
  go_wp2_with fail
  refine (refCube_any _ _ _).mono ?_
  rintro e w1 ⟨rfl, hb1⟩
  go_wp2
  go_ret
  exact ⟨rfl, ((Below.refl _ _).alloc (Nat.le_refl _) _).trans (hb1.mono (by simp))⟩

set_option maxHeartbeats 1000000 in
theorem refRule_end (p m b o s v : Int) (w : World) (h : ruP p o = true) (h2 : rngB s v = true) (h3 : okB m b = true) (x : Int) (hx : x = if ruSet o s v then 0 else 3) :
    Calls Tryd.prog 18 #[.agg #[.int .i64 p, .int .i64 m, .int .i64 b, .int .i64 o, .int .i64 s, .int .i64 v]] w fun e w' => e = .returned (.int .i64 x) ∧ Below w.heap.size w w' := by
  obtain ⟨e1, e2, e3, e4⟩ := ruP_of h
  have hs : hdrB s = true := by simp only [rngB, Bool.and_eq_true] at h2; exact h2.1
  have hv : hdrB v = true := by simp only [rngB, Bool.and_eq_true] at h2; exact h2.2
  have hn : refN m b = 0 := refN_ok h3
  have hlt : w.heap.size < (w.alloc (Obj.cells #[Value.int IntKind.i64 p, Value.int IntKind.i64 m, Value.int IntKind.i64 b, Value.int IntKind.i64 o, Value.int IntKind.i64 s, Value.int IntKind.i64 v] 51)).heap.size := by simp
  have ha0 := set_okB h2
  clear h h2 h3
  cases ha : (bits .andNot .i64 v s == 0)
  · have hx3 : x = 3 := by rw [hx]; simp [ruSet, ha]
    subst hx3
    have hz : (refN s v != 0) = true := by have := ok_refN s v; rw [ha0, ha] at this; simpa using this
    clear hx ha0
    go_enter Tryd.func18, Tryd.ntmps18
    go_wp2_with fail
    refine (header_any _ _).mono ?_
    rintro e w' ⟨rfl, rfl⟩
    rw [hs]
    go_wp2_with fail
    refine (header_any _ _).mono ?_
    rintro e w' ⟨rfl, rfl⟩
    rw [hv]
    go_wp2_with fail
    refine (refCube_any _ _ _).mono ?_
    rintro e w1 ⟨rfl, hb1⟩
    rw [hn]
    obtain ⟨hc1, hf1⟩ := bcell hb1
    have hB := ((Below.refl w.heap.size w).alloc (Nat.le_refl _) (Obj.cells #[Value.int IntKind.i64 p, Value.int IntKind.i64 m, Value.int IntKind.i64 b, Value.int IntKind.i64 o, Value.int IntKind.i64 s, Value.int IntKind.i64 v] 51)).trans (hb1.mono (by simp))
    have hlt2 : w.heap.size < w1.heap.size := by have := hb1.size; omega
    clear hb1
    go_wp2_with fail
    refine (refCube_any _ _ _).mono ?_
    rintro e w2 ⟨rfl, hb2⟩
    generalize refN s v = N at *
    obtain ⟨hc2, hf2⟩ := bcell hb2
    have hB2 := hB.trans (hb2.mono (by omega))
    clear hb2 hB
    go_wp2
    go_ret
    exact ⟨rfl, hB2⟩
  · have hz : refN s v = 0 := refN_ok (by rw [ha0, ha])
    clear ha0
    cases ho : (o == 0)
    · have hx3 : x = 0 := by rw [hx]; simp [ruSet, ha, ho]
      subst hx3
      clear hx
      go_enter Tryd.func18, Tryd.ntmps18
      go_wp2_with fail
      refine (header_any _ _).mono ?_
      rintro e w' ⟨rfl, rfl⟩
      rw [hs]
      go_wp2_with fail
      refine (header_any _ _).mono ?_
      rintro e w' ⟨rfl, rfl⟩
      rw [hv]
      go_wp2_with fail
      refine (refCube_any _ _ _).mono ?_
      rintro e w1 ⟨rfl, hb1⟩
      rw [hn]
      obtain ⟨hc1, hf1⟩ := bcell hb1
      have hB := ((Below.refl w.heap.size w).alloc (Nat.le_refl _) (Obj.cells #[Value.int IntKind.i64 p, Value.int IntKind.i64 m, Value.int IntKind.i64 b, Value.int IntKind.i64 o, Value.int IntKind.i64 s, Value.int IntKind.i64 v] 51)).trans (hb1.mono (by simp))
      have hlt2 : w.heap.size < w1.heap.size := by have := hb1.size; omega
      clear hb1
      go_wp2_with fail
      refine (refCube_any _ _ _).mono ?_
      rintro e w2 ⟨rfl, hb2⟩
      rw [hz]
      obtain ⟨hc2, hf2⟩ := bcell hb2
      have hB2 := hB.trans (hb2.mono (by omega))
      clear hb2 hB
      go_wp2
      go_ret
      exact ⟨rfl, hB2⟩
    · have hz2 : x = if (s == 0) then 0 else 3 := by rw [hx]; simp [ruSet, ha, ho]
      clear hx
      cases hs0 : (s == 0)
      · rw [hs0] at hz2
        have hs1 : (s != 0) = true := by simpa using hs0
        simp only [Bool.false_eq_true, if_false] at hz2
        subst hz2
        go_enter Tryd.func18, Tryd.ntmps18
        go_wp2_with fail
        refine (header_any _ _).mono ?_
        rintro e w' ⟨rfl, rfl⟩
        rw [hs]
        go_wp2_with fail
        refine (header_any _ _).mono ?_
        rintro e w' ⟨rfl, rfl⟩
        rw [hv]
        go_wp2_with fail
        refine (refCube_any _ _ _).mono ?_
        rintro e w1 ⟨rfl, hb1⟩
        rw [hn]
        obtain ⟨hc1, hf1⟩ := bcell hb1
        have hB := ((Below.refl w.heap.size w).alloc (Nat.le_refl _) (Obj.cells #[Value.int IntKind.i64 p, Value.int IntKind.i64 m, Value.int IntKind.i64 b, Value.int IntKind.i64 o, Value.int IntKind.i64 s, Value.int IntKind.i64 v] 51)).trans (hb1.mono (by simp))
        have hlt2 : w.heap.size < w1.heap.size := by have := hb1.size; omega
        clear hb1
        go_wp2_with fail
        refine (refCube_any _ _ _).mono ?_
        rintro e w2 ⟨rfl, hb2⟩
        rw [hz]
        obtain ⟨hc2, hf2⟩ := bcell hb2
        have hB2 := hB.trans (hb2.mono (by omega))
        clear hb2 hB
        go_wp2
        go_ret
        exact ⟨rfl, hB2⟩
      · rw [hs0] at hz2
        have hs1 : (s != 0) = false := by simpa using hs0
        simp only [if_true] at hz2
        subst hz2
        go_enter Tryd.func18, Tryd.ntmps18
        go_wp2_with fail
        refine (header_any _ _).mono ?_
        rintro e w' ⟨rfl, rfl⟩
        rw [hs]
        go_wp2_with fail
        refine (header_any _ _).mono ?_
        rintro e w' ⟨rfl, rfl⟩
        rw [hv]
        go_wp2_with fail
        refine (refCube_any _ _ _).mono ?_
        rintro e w1 ⟨rfl, hb1⟩
        rw [hn]
        obtain ⟨hc1, hf1⟩ := bcell hb1
        have hB := ((Below.refl w.heap.size w).alloc (Nat.le_refl _) (Obj.cells #[Value.int IntKind.i64 p, Value.int IntKind.i64 m, Value.int IntKind.i64 b, Value.int IntKind.i64 o, Value.int IntKind.i64 s, Value.int IntKind.i64 v] 51)).trans (hb1.mono (by simp))
        have hlt2 : w.heap.size < w1.heap.size := by have := hb1.size; omega
        clear hb1
        go_wp2_with fail
        refine (refCube_any _ _ _).mono ?_
        rintro e w2 ⟨rfl, hb2⟩
        rw [hz]
        obtain ⟨hc2, hf2⟩ := bcell hb2
        have hB2 := hB.trans (hb2.mono (by omega))
        clear hb2 hB
        go_wp2
        go_ret
        exact ⟨rfl, hB2⟩

theorem refRule_any (p m b o s v : Int) (w : World) :
    Calls Tryd.prog 18 #[.agg #[.int .i64 p, .int .i64 m, .int .i64 b, .int .i64 o, .int .i64 s, .int .i64 v]] w fun e w' => e = .returned (.int .i64 (ruN p m b o s v)) ∧ Below w.heap.size w w' := by
  cases h1 : ruP p o
  · have e : ruN p m b o s v = 1 := by simp [ruN, ruIn, h1]
    rw [e]; exact refRule_prio p m b o s v w h1
  · cases h2 : rngB s v
    · have e : ruN p m b o s v = 1 := by simp [ruN, ruIn, h2]
      rw [e]; exact refRule_set p m b o s v w h1 h2
    · cases h3 : okB m b
      · have e : ruN p m b o s v = refN m b := by simp [ruN, ruIn, h1, h2, h3]
        rw [e]; exact refRule_cube p m b o s v w h1 h2 h3
      · exact refRule_end p m b o s v w h1 h2 h3 _ (by simp [ruN, ruIn, h1, h2, h3])
end Go.Proofs.YtokkmnednhigmaeDoor
/- What the document's own Apply answers: a net that is right, behind ops. -/
namespace Go.Proofs.YtokkmnednhigmaeDoor
open Go.RowKit
set_option linter.unusedSimpArgs false
set_option linter.unusedVariables false

set_option maxHeartbeats 8000000 in
set_option maxRecDepth 100000 in
theorem refApply_own (S : Int) (ao : Option Addr) (n cap : Nat) (ao2 : Option Addr) (n2 cap2 : Nat) (ao3 : Option Addr) (n3 cap3 : Nat) (a4 : Option Addr) (n4 c4 : Nat) (Ls : List ((Int × Int) × (Int × Int))) (Hs : List (ByteArray × (Int × Int))) (Ts : List (List Ru)) (l : List Op8) (w0 w : World)
    (hT : TS w0 (.slice ao3 n3 cap3) Ts) (hw0 : Below w0.heap.size w0 w) (hl : GS opE w (.slice a4 n4 c4) l) (hN : ntN S Ls Hs Ts = 0) :
    Calls Tryd.prog 5 #[.agg #[.int .i64 S, .slice ao n cap, .slice ao2 n2 cap2, .slice ao3 n3 cap3], .slice a4 n4 c4] w fun e w' => ∃ b3 k3 d3, e = .returned (.tuple #[.agg #[.int .i64 (nvS (cgN S Ls Hs Ts l) S), nvV (cgN S Ls Hs Ts l) (.slice ao n cap), nvV (cgN S Ls Hs Ts l) (.slice ao2 n2 cap2), .slice b3 k3 d3], .int .i64 (cgN S Ls Hs Ts l)]) ∧ (∃ vs, TR 58 w' w0.heap.size w.heap.size (.slice b3 k3 d3) vs (nvL (cgN S Ls Hs Ts l) (caT Ts l))) ∧ Below w.heap.size w w' := by
  have HW0 : Hid (Below w0.heap.size w0 w) := hw0
  have hb0 : Below w.heap.size w ((w.alloc (Obj.cells #[.int .i64 S, .slice ao n cap, .slice ao2 n2 cap2, .slice ao3 n3 cap3] 28)).alloc (Obj.cells #[.int .i64 0, .slice none 0 0, .slice none 0 0, .slice none 0 0] 28)) := ((Below.refl _ _).alloc (Nat.le_refl _) _).alloc (by simp) _
  have HAB0 := ab_new w S (.slice ao n cap) (.slice ao2 n2 cap2) (.slice ao3 n3 cap3) 28
  have HB0 : Hid (Below w.heap.size w ((w.alloc (Obj.cells #[.int .i64 S, .slice ao n cap, .slice ao2 n2 cap2, .slice ao3 n3 cap3] 28)).alloc (Obj.cells #[.int .i64 0, .slice none 0 0, .slice none 0 0, .slice none 0 0] 28))) := hb0
  have HT0 := hT
  obtain ⟨_, _, _, e, hn, hn2, hn3, ha⟩ := hl.form
  cases e
  have HN : Hid (l.length = n4) := hn
  have HA : Hid (0 < n4 → ∃ g o, a4 = some ⟨g, o, none⟩ ∧ GAt opE w g o l ∧ c4 ≤ maxLen) := ha
  have HNT : Hid (ntN S Ls Hs Ts = 0) := hN
  obtain ⟨t1, t2, t3⟩ := nt_0 hN
  have HOK : Hid (tsOk Ts) := ok_ts t3
  have HSL : Hid ((Ts.length : Int) = S) := t2
  have hS6 : 1 ≤ S ∧ S ≤ 1000 := by
    unfold tpN at t1
    cases e : (decide (1 ≤ S) && decide (S ≤ 6))
    · rw [e] at t1
      simp at t1
    · simp at e
      omega
  have n63 : n4 ≤ 9223372036854775807 := by unfold maxLen at hn2; omega
  have HTL : Hid (Ts.length ≤ 1000000) := by
    show _ ≤ _
    omega
  clear hT hl hN hn hn2 ha hb0 t1 t2 t3 hw0
  obtain ⟨X, hX⟩ : ∃ X, X = cgN S Ls Hs Ts l := ⟨_, rfl⟩
  have HX : Hid (X = if 200 < l.length then 4 else caN S Ts l) := by
    show _ = _
    rw [hX, cgN, if_pos HNT.out]
  rw [← hX]
  clear hX
  by_cases h200 : 200 < n4
  · have HX4 : Hid (X = 4) := by
      show _ = _
      rw [HX.out, if_pos (by rw [HN.out]; exact h200)]
    obtain ⟨q0, q1, q2, q3⟩ := HAB0.r
    have rf := HAB0.f
    have f0 := rf 0
    have f1 := rf 1
    have f2 := rf 2
    have f3 := rf 3
    have e4 : decide ((200 : Int) < (n4 : Int)) = true := by simp; omega
    clear rf
    go_enter Tryd.func5, Tryd.ntmps5
    go_wp2
    refine bodyPost_ret (v := .tuple #[.agg #[.int .i64 0, .slice none 0 0, .slice none 0 0, .slice none 0 0], .int .i64 4]) (by simp [results, Tryd.results5, go_sem, *]) rfl ?_
    rw [HX4.out]
    exact ⟨_, _, _, rfl, ⟨[], tr_nil _ _ _ _⟩, HB0.out⟩
  · have HXC : Hid (X = caN S Ts l) := by
      show _ = _
      rw [HX.out, if_neg (by rw [HN.out]; exact h200)]
    have e4 : decide ((200 : Int) < (n4 : Int)) = false := by simp; omega
    have HSZ : Hid (((w.alloc (Obj.cells #[.int .i64 S, .slice ao n cap, .slice ao2 n2 cap2, .slice ao3 n3 cap3] 28)).alloc (Obj.cells #[.int .i64 0, .slice none 0 0, .slice none 0 0, .slice none 0 0] 28)).heap.size = w.heap.size + 2) := by
      show _ = _
      simp
    go_enter Tryd.func5, Tryd.ntmps5
    go_wp2_with (at_builtin; refine wpList_append_tabs _ rfl _ _ 26 rfl Tryd.underlying26 rfl _ rfl Ts w0 HT0 (HW0.out.trans (HB0.out.mono HW0.out.size)) HTL.out ?_)
    intro v' w1 vs hTR hg
    replace hTR : TR 58 w1 w0.heap.size (w.heap.size + 2) v' vs Ts := by first | exact hTR | (have h := hTR; simp only [World.size_alloc] at h; exact h) | (have h := hTR; rw [HSZ.out] at h; exact h)
    have HAB1 : Hid (AB w1 w.heap.size S (.slice ao n cap) (.slice ao2 n2 cap2) (.slice ao3 n3 cap3)) := HAB0.grown hg (fun g hg => by cases hg)
    have HB1 : Hid (Below w.heap.size w w1) := HB0.out.grown hg HB0.out.size (fun g hg => by cases hg)
    obtain ⟨g, cap', rfl⟩ : ∃ g cap', v' = .slice (some ⟨g, 0, none⟩) Ts.length cap' := by
      have hlv := hTR.lv
      have hts := HSL.out
      rcases hTR.ov.2 with ⟨_, h0⟩ | ⟨g, cap', _, rfl, _⟩
      · omega
      · exact ⟨g, cap', by rw [hlv]⟩
    have HTR1 : Hid (TR 58 w1 w0.heap.size (w.heap.size + 2) (.slice (some ⟨g, 0, none⟩) Ts.length cap') vs Ts) := hTR
    obtain ⟨N, hNN⟩ : ∃ N, N = Ts.length := ⟨_, rfl⟩
    have HNN : Hid (N = Ts.length) := hNN
    have HNS : Hid ((N : Int) = S) := by
      show _ = _
      rw [hNN]
      exact HSL.out
    rw [← hNN]
    rw [← hNN] at HTR1
    clear hTR hg HAB0 HB0 HSZ HT0 hNN
    go_wp2
    go_loopw [7] (fun i wr => ∃ (k : Nat) (vs : List SlT), k ≤ n4 ∧ i = .int .i64 k ∧ caN S Ts (l.take k) = 0 ∧ TR 58 wr w0.heap.size (w.heap.size + 2) (.slice (some ⟨g, 0, none⟩) N cap') vs (caT Ts (l.take k)) ∧ AB wr w.heap.size S (.slice ao n cap) (.slice ao2 n2 cap2) (.slice ao3 n3 cap3) ∧ Below w.heap.size w wr) (fun i _ => n4 - (intOf i).toNat)
    case atStart => exact ⟨0, vs, by omega, rfl, rfl, HTR1.out, HAB1.out, HB1.out⟩
    case round =>
      obtain ⟨k, vs, hk, rfl, hca, hTR, hAB, hB⟩ := hrel
      clear HTR1 HAB1 HB1
      have HB : Hid (Below w.heap.size w wr) := hB
      have HCA : Hid (caN S Ts (l.take k) = 0) := hca
      have HAB : Hid (AB wr w.heap.size S (.slice ao n cap) (.slice ao2 n2 cap2) (.slice ao3 n3 cap3)) := hAB
      obtain ⟨Tk, hTk⟩ : ∃ T, T = caT Ts (l.take k) := ⟨_, rfl⟩
      have HTK : Hid (Tk = caT Ts (l.take k)) := hTk
      rw [← hTk] at hTR
      have HTR : Hid (TR 58 wr w0.heap.size (w.heap.size + 2) (.slice (some ⟨g, 0, none⟩) N cap') vs Tk) := hTR
      have HTkL : Hid (Tk.length = N) := by
        show _ = _
        rw [hTk, ca_len, HNN.out]
      have HOKk : Hid (tsOk Tk) := by
        rw [hTk]
        exact ca_right HOK.out hca
      clear hca hTR hTk
      by_cases hlt : k < n4
      · obtain ⟨gl, ol, hao, hc, _⟩ := HA.out (by omega)
        subst hao
        obtain ⟨y0, ya, p, m, b, q, s, v, hkl, hLk, r0, r1, r2, r3, r4, r5, r6, r7⟩ := op_at (hc.later hB) HN.out hlt
        have HLK : Hid (l[k] = ⟨y0, ya, ⟨p, m, b, q, s, v⟩⟩) := hLk
        have HCAT : Hid (caN S Ts l = caN S Tk (⟨y0, ya, ⟨p, m, b, q, s, v⟩⟩ :: l.drop (k + 1))) := by
          show _ = _
          rw [HTK.out, ← hLk, ca_split hkl HCA.out]
        have hltl : gl < wr.heap.size := World.block_lt_of_cell? _ _ r0
        obtain ⟨q0, q1, q2, q3⟩ := hAB.r
        obtain ⟨n0, _, _, _⟩ := hAB.n
        have hltB := hAB.lt
        have hlt0 : w.heap.size < wr.heap.size := by omega
        have f0 := hAB.f 0
        have f1 := hAB.f 1
        have f2 := hAB.f 2
        have f3 := hAB.f 3
        have kb0 : (0 : Int) ≤ (k : Int) := by omega
        have kb1 : (k : Int) < (n4 : Int) := by omega
        clear hLk hB hc hAB
        cases hsw : swB S y0
        · have HX1 : Hid (X = 1) := by
            show _ = _
            rw [HXC.out, HCAT.out, caN, hsw]
            rfl
          by_cases hy : y0 < 1
          · have e5 : decide (y0 < 1) = true := by simpa using hy
            go_wp2
            refine bodyPost_ret (v := .tuple #[.agg #[.int .i64 0, .slice none 0 0, .slice none 0 0, .slice none 0 0], .int .i64 1]) (by simp [results, Tryd.results5, go_sem, *]) rfl ?_
            rw [HX1.out]
            exact ⟨_, _, _, by rw [nvS, nvV, nvV, if_neg (by decide), if_neg (by decide), if_neg (by decide)], ⟨[], by rw [nvL, if_neg (by decide)]; exact tr_nil _ _ _ _⟩, (below_put4 HB.out (w.heap.size + 1) (by omega) _ _ _ _).alloc (Nat.le_trans HB.out.size (grown_put4 wr (w.heap.size + 1) _ _ _ _).size) _⟩
          · have e5 : decide (y0 < 1) = false := by simpa using hy
            have e6 : decide (S < y0) = true := by
              simp only [swB, Bool.and_eq_false_iff, decide_eq_false_iff_not] at hsw
              simp
              omega
            go_wp2
            refine bodyPost_ret (v := .tuple #[.agg #[.int .i64 0, .slice none 0 0, .slice none 0 0, .slice none 0 0], .int .i64 1]) (by simp [results, Tryd.results5, go_sem, *]) rfl ?_
            rw [HX1.out]
            exact ⟨_, _, _, by rw [nvS, nvV, nvV, if_neg (by decide), if_neg (by decide), if_neg (by decide)], ⟨[], by rw [nvL, if_neg (by decide)]; exact tr_nil _ _ _ _⟩, (below_put4 HB.out (w.heap.size + 1) (by omega) _ _ _ _).alloc (Nat.le_trans HB.out.size (grown_put4 wr (w.heap.size + 1) _ _ _ _).size) _⟩
        · have hw := sw_of.1 hsw
          obtain ⟨i, hi⟩ : ∃ i : Nat, y0 = (i : Int) + 1 := ⟨(y0 - 1).toNat, by omega⟩
          have HI : Hid (y0 = (i : Int) + 1) := hi
          have hiN : i < N := by have := HNS.out; omega
          have e5 : decide (y0 < 1) = false := by simp; omega
          have e6 : decide (S < y0) = false := by simp; omega
          have iw : IntKind.i64.wrap (y0 - 1) = (i : Int) := by rw [IntKind.wrap_i64]; omega
          have ib0 : (0 : Int) ≤ (i : Int) := by omega
          have ib1 : (i : Int) < (N : Int) := by omega
          have hBA : Below wr.heap.size wr (wr.alloc (Obj.cells #[.int .i64 y0, .bool ya, .int .i64 p, .int .i64 m, .int .i64 b, .int .i64 q, .int .i64 s, .int .i64 v] 53)) := (Below.refl _ _).alloc (Nat.le_refl _) _
          have HBA : Hid (Below wr.heap.size wr (wr.alloc (Obj.cells #[.int .i64 y0, .bool ya, .int .i64 p, .int .i64 m, .int .i64 b, .int .i64 q, .int .i64 s, .int .i64 v] 53))) := hBA
          have HOB := op_new wr y0 ya p m b q s v 53
          have HTA : Hid (taT Tk y0 = Tk.getD i []) := by
            show _ = _
            rw [taT]
            congr 1
            omega
          have HTO : Hid (tbN (taT Tk y0) = 0) := HOKk.out _ (ta_mem (by omega) (by rw [HTkL.out]; have := HNS.out; omega))
          have HXI : Hid (X = if doN (taT Tk y0) ya ⟨p, m, b, q, s, v⟩ = 0 then caN S (Tk.set i (doL (taT Tk y0) ya ⟨p, m, b, q, s, v⟩)) (l.drop (k + 1)) else doN (taT Tk y0) ya ⟨p, m, b, q, s, v⟩) := by
            show _ = _
            have e7 : (y0 - 1).toNat = i := by have := HI.out; omega
            rw [HXC.out, HCAT.out, caN, hsw, if_pos rfl, e7]
          clear hBA hsw hw hi
          go_wp2_with fail
          refine (refRule_any _ _ _ _ _ _ _).mono ?_
          rintro e w2 ⟨rfl, hb2⟩
          obtain ⟨RN, hRN⟩ : ∃ r, r = ruN p m b q s v := ⟨_, rfl⟩
          have HRN : Hid (RN = ruN p m b q s v) := hRN
          rw [← hRN]
          have HBr : Hid (Below wr.heap.size wr w2) := HBA.out.trans (hb2.mono HBA.out.size)
          have HB2 : Hid (Below w.heap.size w w2) := HB.out.trans (HBr.out.mono HB.out.size)
          have HAB2 : Hid (AB w2 w.heap.size S (.slice ao n cap) (.slice ao2 n2 cap2) (.slice ao3 n3 cap3)) := HAB.out.later HBr.out
          have HTR2 : Hid (TR 58 w2 w0.heap.size (w.heap.size + 2) (.slice (some ⟨g, 0, none⟩) N cap') vs Tk) := HTR.out.later HBr.out
          have HOB2 : Hid (VAt w2 wr.heap.size 0 (opE.c ⟨y0, ya, ⟨p, m, b, q, s, v⟩⟩)) := HOB.later hb2
          have hltw : wr.heap.size < w2.heap.size := World.block_lt_of_cell? _ _ (op_cells HOB2.out).1
          clear hb2 hRN HBA HOB q0 q1 q2 q3 f0 f1 f2 f3 n0 r0 r1 r2 r3 r4 r5 r6 r7
          obtain ⟨q0, q1, q2, q3⟩ := HAB2.out.r
          have hltB2 := HAB2.out.lt
          have hlt02 : w.heap.size < w2.heap.size := by omega
          have f0 := HAB2.out.f 0
          have f1 := HAB2.out.f 1
          have f2 := HAB2.out.f 2
          have f3 := HAB2.out.f 3
          by_cases hR : RN = 0
          · subst hR
            have HDN : Hid (doN (taT Tk y0) ya ⟨p, m, b, q, s, v⟩ = chN (taT Tk y0) ya ⟨p, m, b, q, s, v⟩ ∧ doL (taT Tk y0) ya ⟨p, m, b, q, s, v⟩ = chL (taT Tk y0) ya ⟨p, m, b, q, s, v⟩) := do_ch2 HTO.out HRN.out.symm
            obtain ⟨x, hx1, hx2, hx3, hx0, hx4, hx5⟩ := HTR2.out.at (i := i) (by rw [HTkL.out]; exact hiN)
            clear hx0
            obtain ⟨a5, n5, c5⟩ := x
            have HSR : Hid (SR w2 (.slice a5 n5 c5) (taT Tk y0)) := by
              rw [HTA.out]
              exact hx2
            have hx1' : w2.cell? ⟨g, i, none⟩ = some (.slice a5 n5 c5) := hx1
            have HDO : Hid (∀ W, Below w2.heap.size w2 W → Calls Tryd.prog 19 #[.slice a5 n5 c5, .bool ya, .agg #[.int .i64 p, .int .i64 m, .int .i64 b, .int .i64 q, .int .i64 s, .int .i64 v]] W fun e w' => ∃ u, e = .returned (.tuple #[u, .int .i64 (chN (taT Tk y0) ya ⟨p, m, b, q, s, v⟩)]) ∧ NR w' w2.heap.size u (chL (taT Tk y0) ya ⟨p, m, b, q, s, v⟩) ∧ Below w2.heap.size w2 w') := fun W hW => by
              refine (refDo_any a5 n5 c5 ya p m b q s v _ W (HSR.out.later hW) HTO.out).mono ?_
              rintro e w' ⟨u, h1, h2, h3⟩
              exact ⟨u, h1, h2.mono hW.size, hW.trans (h3.mono hW.size)⟩
            have HMK : Hid (∀ W, Below w2.heap.size w2 W → Below w2.heap.size w2 W ∧ W.cell? ⟨g, i, none⟩ = some (.slice a5 n5 c5) ∧ W.cell? ⟨wr.heap.size, 0, none⟩ = some (.int .i64 y0) ∧ W.cell? ⟨wr.heap.size, 1, none⟩ = some (.bool ya) ∧ W.cell? ⟨wr.heap.size, 2, none⟩ = some (.int .i64 p) ∧ W.cell? ⟨wr.heap.size, 3, none⟩ = some (.int .i64 m) ∧ W.cell? ⟨wr.heap.size, 4, none⟩ = some (.int .i64 b) ∧ W.cell? ⟨wr.heap.size, 5, none⟩ = some (.int .i64 q) ∧ W.cell? ⟨wr.heap.size, 6, none⟩ = some (.int .i64 s) ∧ W.cell? ⟨wr.heap.size, 7, none⟩ = some (.int .i64 v)) := by
              intro W hW
              obtain ⟨c0, c1, c2, c3, c4, c5, c6, c7⟩ := op_cells (HOB2.out.later hW)
              simp only [Nat.zero_add] at c0 c1 c2 c3 c4 c5 c6 c7
              exact ⟨hW, cell_later hW hx1', c0, c1, c2, c3, c4, c5, c6, c7⟩
            obtain ⟨_, _, d0, d1, d2, d3, d4, d5, d6, d7⟩ := HMK.out w2 (Below.refl _ _)
            go_upto_region 14 with fail
            clear q0 q1 q2 q3 f0 f1 f2 f3 hx3 hx4 hltB2 hlt02
            go_cut [9, 10] from 19 to 71 (fun e t w' => e = .int .i64 (chN (taT Tk y0) ya ⟨p, m, b, q, s, v⟩) ∧ NR w' w2.heap.size t (chL (taT Tk y0) ya ⟨p, m, b, q, s, v⟩) ∧ Below w2.heap.size w2 w')
            case first =>
              clear HXI HCAT HDN HTO HTA HLK HCA HTK HTR HTR2 HAB HAB2 HB HB2 HOB2 HSR HBr hx1 hx2 hx5
              go_region_held3 (fun W => Below w2.heap.size w2 W ∧ W.cell? ⟨g, i, none⟩ = some (.slice a5 n5 c5) ∧ W.cell? ⟨wr.heap.size, 0, none⟩ = some (.int .i64 y0) ∧ W.cell? ⟨wr.heap.size, 1, none⟩ = some (.bool ya) ∧ W.cell? ⟨wr.heap.size, 2, none⟩ = some (.int .i64 p) ∧ W.cell? ⟨wr.heap.size, 3, none⟩ = some (.int .i64 m) ∧ W.cell? ⟨wr.heap.size, 4, none⟩ = some (.int .i64 b) ∧ W.cell? ⟨wr.heap.size, 5, none⟩ = some (.int .i64 q) ∧ W.cell? ⟨wr.heap.size, 6, none⟩ = some (.int .i64 s) ∧ W.cell? ⟨wr.heap.size, 7, none⟩ = some (.int .i64 v))
                (first | assumption | exact HMK.out _ (Below.drew (Below.refl _ _)) | exact HMK.out _ HBX.out)
                (first | (go_at_call 19; refine (HDO.out _ (by first | exact Below.drew (Below.refl _ _) | exact Below.refl _ _)).mono ?_; rintro e w' ⟨u, rfl, hG, hb⟩; have HBX : Hid (Below w2.heap.size w2 w') := hb; have HGX : Hid (NR w' w2.heap.size u (chL (taT Tk y0) ya ⟨p, m, b, q, s, v⟩)) := hG; clear hb hG))
              all_goals (go_wp2_with fail; go_meet)
              all_goals exact ⟨rfl, HGX.out, HBX.out⟩
            case rest =>
              obtain ⟨rfl, hG, hb3⟩ := hcut
              have HB3 : Hid (Below w.heap.size w wc) := HB2.out.trans (hb3.mono HB2.out.size)
              have HAB3 : Hid (AB wc w.heap.size S (.slice ao n cap) (.slice ao2 n2 cap2) (.slice ao3 n3 cap3)) := HAB2.out.later hb3
              have HTR3 : Hid (TR 58 wc w0.heap.size (w.heap.size + 2) (.slice (some ⟨g, 0, none⟩) N cap') vs Tk) := HTR2.out.later hb3
              obtain ⟨_, _, d0, d1, d2, d3, d4, d5, d6, d7⟩ := HMK.out wc hb3
              have hltw3 : wr.heap.size < wc.heap.size := World.block_lt_of_cell? _ _ d0
              obtain ⟨⟨a6, n6, c6⟩, hx, hoff⟩ := hG.sl
              replace hx : _ = Value.slice a6 n6 c6 := hx
              subst hx
              have HG3 : Hid (SR wc (.slice a6 n6 c6) (chL (taT Tk y0) ya ⟨p, m, b, q, s, v⟩)) := hG.sr
              have HOFF : Hid (∀ b, b < w2.heap.size → offB (a6, n6, c6) b) := hoff
              obtain ⟨C, hC⟩ : ∃ c, c = chN (taT Tk y0) ya ⟨p, m, b, q, s, v⟩ := ⟨_, rfl⟩
              have HC : Hid (C = chN (taT Tk y0) ya ⟨p, m, b, q, s, v⟩) := hC
              rw [← hC]
              clear hb3 hG hC hoff HMK HDO
              obtain ⟨q0, q1, q2, q3⟩ := HAB3.out.r
              have hltB3 := HAB3.out.lt
              have hlt03 : w.heap.size < wc.heap.size := by omega
              have f0 := HAB3.out.f 0
              have f1 := HAB3.out.f 1
              have f2 := HAB3.out.f 2
              have f3 := HAB3.out.f 3
              by_cases h0 : C = 0
              · subst h0
                obtain ⟨yx, hy1, hy2, hy3, hy0, hy4, hy5⟩ := HTR3.out.at (i := i) (by rw [HTkL.out]; exact hiN)
                clear hy0 hy2
                have HTR4 : Hid (TR 58 (wc.setCell ⟨g, i, none⟩ (.slice a6 n6 c6)) w0.heap.size (w.heap.size + 2) (.slice (some ⟨g, 0, none⟩) N cap') (vs.set i (a6, n6, c6)) (caT Ts (l.take (k + 1)))) := by
                  have := HTR3.out.put (i := i) (x := (a6, n6, c6)) HG3.out (HOFF.out g hx5) (fun b h1 h2 => HOFF.out b (by omega))
                  rw [(cs_take hkl HCA.out).2, ← HTK.out, HLK.out, caT, caT, HDN.out.2]
                  have e7 : (y0 - 1).toNat = i := by have := HI.out; omega
                  rw [e7]
                  exact this
                have HCA4 : Hid (caN S Ts (l.take (k + 1)) = 0) := by
                  show _ = _
                  rw [(cs_take hkl HCA.out).1, ← HTK.out, HLK.out, caN]
                  show (if swB S y0 = true then (if doN (taT Tk y0) ya ⟨p, m, b, q, s, v⟩ = 0 then _ else _) else _) = _
                  rw [if_pos (sw_of.2 ⟨by have := HI.out; omega, by have := HI.out; have := HNS.out; omega⟩), HDN.out.1, ← HC.out, if_pos rfl, caN]
                have HAB4 : Hid (AB (wc.setCell ⟨g, i, none⟩ (.slice a6 n6 c6)) w.heap.size S (.slice ao n cap) (.slice ao2 n2 cap2) (.slice ao3 n3 cap3)) := HAB3.out.grown (grown_set wc g i (.slice a6 n6 c6)) (fun b hb => by cases hb; exact hy4)
                have HB4 : Hid (Below w.heap.size w (wc.setCell ⟨g, i, none⟩ (.slice a6 n6 c6))) := HB3.out.setCell (p := ⟨g, i, none⟩) (show w.heap.size ≤ g by omega) _
                go_wp2
                go_roundw
                case rel => exact ⟨k + 1, vs.set i (a6, n6, c6), by omega, by go_num, HCA4.out, HTR4.out, HAB4.out, HB4.out⟩
                case measure => simp [intOf]; omega
              · have HNZ : Hid (C ≠ 0) := h0
                have HXC2 : Hid (X = C) := by
                  show _ = _
                  rw [HXI.out, HDN.out.1, ← HC.out, if_neg h0]
                have e9 : (C == 0) = false := by simpa using h0
                have e10 : (C != 0) = true := by rw [bne, e9]; rfl
                clear h0
                go_wp2
                refine bodyPost_ret (v := .tuple #[.agg #[.int .i64 0, .slice none 0 0, .slice none 0 0, .slice none 0 0], .int .i64 C]) (by simp [results, Tryd.results5, go_sem, *]) rfl ?_
                rw [HXC2.out]
                exact ⟨_, _, _, by rw [nvS, nvV, nvV, if_neg (HNZ.out), if_neg (HNZ.out), if_neg (HNZ.out)], ⟨[], by rw [nvL, if_neg (HNZ.out)]; exact tr_nil _ _ _ _⟩, below_put4 HB3.out (w.heap.size + 1) (by omega) _ _ _ _⟩
          · have HNZ : Hid (RN ≠ 0) := hR
            have HXC2 : Hid (X = RN) := by
              show _ = _
              have e8 : doN (taT Tk y0) ya ⟨p, m, b, q, s, v⟩ = RN := (do_ru2 (r := ⟨p, m, b, q, s, v⟩) HTO.out (show ruN p m b q s v ≠ 0 by rw [← HRN.out]; exact hR)).trans HRN.out.symm
              rw [HXI.out, e8, if_neg hR]
            have e9 : (RN == 0) = false := by simpa using hR
            have e10 : (RN != 0) = true := by rw [bne, e9]; rfl
            clear hR
            go_wp2
            refine bodyPost_ret (v := .tuple #[.agg #[.int .i64 0, .slice none 0 0, .slice none 0 0, .slice none 0 0], .int .i64 RN]) (by simp [results, Tryd.results5, go_sem, *]) rfl ?_
            rw [HXC2.out]
            exact ⟨_, _, _, by rw [nvS, nvV, nvV, if_neg (HNZ.out), if_neg (HNZ.out), if_neg (HNZ.out)], ⟨[], by rw [nvL, if_neg (HNZ.out)]; exact tr_nil _ _ _ _⟩, below_put4 HB2.out (w.heap.size + 1) (by omega) _ _ _ _⟩
      · obtain rfl : k = n4 := by omega
        have HX0 : Hid (X = 0) := by
          show _ = _
          have := HCA.out
          rw [← HN.out, List.take_length] at this
          rw [HXC.out, this]
        have HTE : Hid (Tk = caT Ts l) := by
          show _ = _
          rw [HTK.out, ← HN.out, List.take_length]
        obtain ⟨q0, q1, q2, q3⟩ := hAB.r
        obtain ⟨n0, n1, n2_, n3_⟩ := hAB.n
        have hltB := hAB.lt
        have hlt0 : w.heap.size < wr.heap.size := by omega
        have f0 := hAB.f 0
        have f1 := hAB.f 1
        have f2 := hAB.f 2
        have f3 := hAB.f 3
        clear hB hAB
        go_wp2
        refine bodyPost_ret (v := .tuple #[.agg #[.int .i64 S, .slice ao n cap, .slice ao2 n2 cap2, .slice (some ⟨g, 0, none⟩) N cap'], .int .i64 0]) (by simp [results, Tryd.results5, go_sem, *]) rfl ?_
        rw [HX0.out]
        have hBE := below_put4 HB.out (w.heap.size + 1) (by omega) (.int .i64 S) (.slice ao n cap) (.slice ao2 n2 cap2) (.slice (some ⟨g, 0, none⟩) N cap')
        have hTE := (HTR.out.grown (grown_put4 wr (w.heap.size + 1) (.int .i64 S) (.slice ao n cap) (.slice ao2 n2 cap2) (.slice (some ⟨g, 0, none⟩) N cap')) (Nat.le_trans HW0.out.size (by omega)) (by omega)).mono (B' := w.heap.size) (by omega)
        rw [HTE.out] at hTE
        exact ⟨_, _, _, rfl, ⟨vs, hTE⟩, hBE⟩
end Go.Proofs.YtokkmnednhigmaeDoor
/- What the document's own Diff answers: what is between two tables, of a switch. -/
namespace Go.Proofs.YtokkmnednhigmaeDoor
open Go.RowKit
set_option linter.unusedSimpArgs false
set_option linter.unusedVariables false

theorem bey_no {A B : List Ru} {k : Nat} {r : Ru} (hk : k < A.length) (hr : A[k] = r) (h : inB B r = true) : bey (A.take (k + 1)) B = bey (A.take k) B := by
  rw [List.take_succ_eq_append_getElem hk, hr]
  simp [bey, h]
theorem bey_yes {A B : List Ru} {k : Nat} {r : Ru} (hk : k < A.length) (hr : A[k] = r) (h : inB B r = false) : bey (A.take (k + 1)) B = bey (A.take k) B ++ [r] := by
  rw [List.take_succ_eq_append_getElem hk, hr]
  simp [bey, h]
/-- Ops of a switch that take away, or add. -/
def opsS (s : Int) (a : Bool) (L : List Ru) : List Op8 := L.map fun r => ⟨s, a, r⟩
theorem ops_app (s : Int) (a : Bool) (L : List Ru) (r : Ru) : opsS s a (L ++ [r]) = opsS s a L ++ [⟨s, a, r⟩] := by simp [opsS]
theorem ops_len (s : Int) (a : Bool) (L : List Ru) : (opsS s a L).length = L.length := by simp [opsS]
theorem opsS_of {A B : List Ru} (s : Int) (h : twN A B = 0) : opsS s false (bey A B) ++ opsS s true (bey B A) = ofS s (dfL A B) := by
  rw [dfL, if_pos h]
  simp only [opsS, ofS, taken, added, List.map_append, List.map_map]
  rfl
theorem bey_few (A B : List Ru) (k : Nat) : (bey (A.take k) B).length ≤ A.length := by
  have h1 : (bey (A.take k) B).length ≤ (A.take k).length := List.length_filter_le _ _
  have h2 := List.length_take_le' k A
  omega
set_option maxHeartbeats 4000000 in
set_option maxRecDepth 100000 in
theorem refDiff_any (ao : Option Addr) (n cap : Nat) (ao2 : Option Addr) (n2 cap2 : Nat) (s : Int) (A B : List Ru) (w : World) (hA : SR w (.slice ao n cap) A) (hB : SR w (.slice ao2 n2 cap2) B) (h1 : A.length ≤ 12) (h2 : B.length ≤ 12) :
    Calls Tryd.prog 27 #[.slice ao n cap, .slice ao2 n2 cap2, .int .i64 s] w fun e w' => ∃ v, e = .returned v ∧ NO w' w.heap.size v (opsS s false (bey A B) ++ opsS s true (bey B A)) ∧ Below w.heap.size w w' := by
  obtain ⟨ao', n', cap', e, hn, hn2, hn3, ha⟩ := hA.form
  cases e
  obtain ⟨ao', n', cap', e, hm, hm2, hm3, hb⟩ := hB.form
  cases e
  have HN : Hid (A.length = n) := hn
  have HM : Hid (B.length = n2) := hm
  have HA : Hid (0 < n → ∃ g o, ao = some ⟨g, o, none⟩ ∧ RAt w g o A ∧ cap ≤ maxLen) := ha
  have HA2 : Hid (0 < n2 → ∃ g o, ao2 = some ⟨g, o, none⟩ ∧ RAt w g o B ∧ cap2 ≤ maxLen) := hb
  have HSA : Hid (SR w (.slice ao n cap) A) := hA
  have HSB : Hid (SR w (.slice ao2 n2 cap2) B) := hB
  have n12 : n ≤ 12 := by omega
  have m12 : n2 ≤ 12 := by omega
  clear hn ha hm hb hA hB hn2 hm2 h1 h2
  go_enter Tryd.func27, Tryd.ntmps27
  go_wp2
  go_loopw [7, 8] (fun x i wr => ∃ k : Nat, k ≤ n ∧ i = .int .i64 k ∧ NO wr w.heap.size x (opsS s false (bey (A.take k) B)) ∧ Below w.heap.size w wr) (fun x i _ => n - (intOf i).toNat)
  case atStart => exact ⟨0, by omega, rfl, NO.nil _ _, Below.refl _ _⟩
  case round =>
    obtain ⟨k, hk, rfl, hO, hB⟩ := hrel
    have HB : Hid (Below w.heap.size w wr) := hB
    have HO : Hid (NO wr w.heap.size u7 (opsS s false (bey (A.take k) B))) := hO
    clear hO
    by_cases hlt : k < n
    · obtain ⟨g, og, hao, hc, _⟩ := HA.out (by omega)
      subst hao
      have HCk : Hid (RAt w g og A) := hc
      obtain ⟨p, m, b, q, t, v, hkl, hL, q0, q1, q2, q3, q4, q5⟩ := (hc.later hB).at HN.out hlt
      have HL : Hid (A[k] = ⟨p, m, b, q, t, v⟩) := hL
      have hlt0 : g < wr.heap.size := World.block_lt_of_cell? _ _ q0
      clear hL hB hc
      go_wp2_with fail
      refine (refIn_any ao2 n2 cap2 p m b q t v B _ (HSB.out.later HB.out)).mono ?_
      rintro e w1 ⟨rfl, hb1⟩
      have HB1 : Hid (Below w.heap.size w w1) := HB.out.trans (hb1.mono HB.out.size)
      have HO1 : Hid (NO w1 w.heap.size u7 (opsS s false (bey (A.take k) B))) := HO.out.later hb1
      clear hb1 q0 q1 q2 q3 q4 q5
      cases hi : inB B ⟨p, m, b, q, t, v⟩
      · obtain ⟨p', m', b', q', t', v', _, hL2, q0, q1, q2, q3, q4, q5⟩ := (HCk.out.later HB1.out).at HN.out hlt
        rw [HL.out] at hL2
        simp only [Ru.mk.injEq] at hL2
        obtain ⟨rfl, rfl, rfl, rfl, rfl, rfl⟩ := hL2
        have hBB : Below w1.heap.size w1 (w1.alloc (Obj.cells #[.int .i64 s, .bool false, .int .i64 p, .int .i64 m, .int .i64 b, .int .i64 q, .int .i64 t, .int .i64 v] 53)) := (Below.refl _ _).alloc (Nat.le_refl _) _
        have HRW := op_row w1 s false p m b q t v 53
        have HLN : Hid ((opsS s false (bey (A.take k) B)).length ≤ 12) := by
          have := bey_few A B k
          show _ ≤ _
          rw [ops_len]
          have := HN.out
          omega
        go_wp2_with (at_builtin; refine wpList_append_ops _ rfl _ _ 29 rfl Tryd.underlying29 w.heap.size _ rfl _ (HO1.out.later hBB) _ rfl _ HRW (by have := HLN.out; simp at this ⊢; omega) (HB1.out.trans (hBB.mono HB1.out.size)).size ?_)
        intro v' w3 hown3 hgrow
        have HO3 : Hid (NO w3 w.heap.size v' (opsS s false (bey (A.take (k + 1)) B))) := by
          show NO _ _ _ _
          rw [bey_yes hkl HL.out hi, ops_app]
          exact hown3
        have HB3 : Hid (Below w.heap.size w w3) := (HB1.out.trans (hBB.mono HB1.out.size)).grown hgrow (HB1.out.trans (hBB.mono HB1.out.size)).size (fun g hg => ((HO1.out.later hBB).lt g hg).1)
        clear hown3 hgrow hBB HRW q0 q1 q2 q3 q4 q5
        go_wp2
        go_roundw
        case rel => exact ⟨k + 1, by omega, by go_num, HO3.out, HB3.out⟩
        case measure => simp [intOf]; omega
      · go_wp2
        go_roundw
        case rel => exact ⟨k + 1, by omega, by go_num, by rw [bey_no hkl HL.out hi]; exact HO1.out, HB1.out⟩
        case measure => simp [intOf]; omega
    · obtain rfl : k = n := by omega
      have HO2 : Hid (NO wr w.heap.size u7 (opsS s false (bey A B))) := by
        have := HO.out
        rw [← HN.out, List.take_length] at this
        exact this
      clear HO hB HA hlt
      go_wp2
      go_loopw [7, 10] (fun x i w2 => ∃ j : Nat, j ≤ n2 ∧ i = .int .i64 j ∧ NO w2 w.heap.size x (opsS s false (bey A B) ++ opsS s true (bey (B.take j) A)) ∧ Below w.heap.size w w2) (fun x i _ => n2 - (intOf i).toNat)
      case atStart => exact ⟨0, by omega, rfl, by simpa [opsS, bey] using HO2.out, HB.out⟩
      case round =>
        obtain ⟨j, hj, rfl, hO, hB⟩ := hrel
        clear HB HO2
        have HB : Hid (Below w.heap.size w wr) := hB
        have HO : Hid (NO wr w.heap.size u7 (opsS s false (bey A B) ++ opsS s true (bey (B.take j) A))) := hO
        clear hO
        by_cases hlt : j < n2
        · obtain ⟨g, og, hao, hc, _⟩ := HA2.out (by omega)
          subst hao
          have HCk : Hid (RAt w g og B) := hc
          obtain ⟨p, m, b, q, t, v, hkl, hL, q0, q1, q2, q3, q4, q5⟩ := (hc.later hB).at HM.out hlt
          have HL : Hid (B[j] = ⟨p, m, b, q, t, v⟩) := hL
          clear hL hB hc
          go_wp2_with fail
          refine (refIn_any ao k cap p m b q t v A _ (HSA.out.later HB.out)).mono ?_
          rintro e w1 ⟨rfl, hb1⟩
          have HB1 : Hid (Below w.heap.size w w1) := HB.out.trans (hb1.mono HB.out.size)
          have HO1 : Hid (NO w1 w.heap.size u7 (opsS s false (bey A B) ++ opsS s true (bey (B.take j) A))) := HO.out.later hb1
          clear hb1 q0 q1 q2 q3 q4 q5
          cases hi : inB A ⟨p, m, b, q, t, v⟩
          · obtain ⟨p', m', b', q', t', v', _, hL2, q0, q1, q2, q3, q4, q5⟩ := (HCk.out.later HB1.out).at HM.out hlt
            rw [HL.out] at hL2
            simp only [Ru.mk.injEq] at hL2
            obtain ⟨rfl, rfl, rfl, rfl, rfl, rfl⟩ := hL2
            have hBB : Below w1.heap.size w1 (w1.alloc (Obj.cells #[.int .i64 s, .bool true, .int .i64 p, .int .i64 m, .int .i64 b, .int .i64 q, .int .i64 t, .int .i64 v] 53)) := (Below.refl _ _).alloc (Nat.le_refl _) _
            have HRW := op_row w1 s true p m b q t v 53
            have HLN : Hid ((opsS s false (bey A B) ++ opsS s true (bey (B.take j) A)).length ≤ 24) := by
              have h1 := bey_few B A j
              have h2 : (bey A B).length ≤ A.length := List.length_filter_le _ _
              show _ ≤ _
              rw [List.length_append, ops_len, ops_len]
              have := HN.out
              have := HM.out
              omega
            go_wp2_with (at_builtin; refine wpList_append_ops _ rfl _ _ 29 rfl Tryd.underlying29 w.heap.size _ rfl _ (HO1.out.later hBB) _ rfl _ HRW (by have := HLN.out; simp at this ⊢; omega) (HB1.out.trans (hBB.mono HB1.out.size)).size ?_)
            intro v' w3 hown3 hgrow
            have HO3 : Hid (NO w3 w.heap.size v' (opsS s false (bey A B) ++ opsS s true (bey (B.take (j + 1)) A))) := by
              show NO _ _ _ _
              rw [bey_yes hkl HL.out hi, ops_app]
              exact hown3
            have HB3 : Hid (Below w.heap.size w w3) := (HB1.out.trans (hBB.mono HB1.out.size)).grown hgrow (HB1.out.trans (hBB.mono HB1.out.size)).size (fun g hg => ((HO1.out.later hBB).lt g hg).1)
            clear hown3 hgrow hBB HRW q0 q1 q2 q3 q4 q5
            go_wp2
            go_roundw
            case rel => exact ⟨j + 1, by omega, by go_num, HO3.out, HB3.out⟩
            case measure => simp [intOf]; omega
          · go_wp2
            go_roundw
            case rel => exact ⟨j + 1, by omega, by go_num, by rw [bey_no hkl HL.out hi]; exact HO1.out, HB1.out⟩
            case measure => simp [intOf]; omega
        · obtain rfl : j = n2 := by omega
          have HO2 : Hid (NO wr w.heap.size u7 (opsS s false (bey A B) ++ opsS s true (bey B A))) := by
            have := HO.out
            rw [← HM.out, List.take_length] at this
            exact this
          clear HO hB hlt
          go_wp2
          go_ret
          exact ⟨_, rfl, HO2.out, HB.out⟩
end Go.Proofs.YtokkmnednhigmaeDoor
/- What the document's own Changes answers: what is between two nets that are right. -/
namespace Go.Proofs.YtokkmnednhigmaeDoor
open Go.RowKit
set_option linter.unusedSimpArgs false
set_option linter.unusedVariables false

theorem cd_next {As Bs : List (List Ru)} {k : Nat} (h : twN (As.getD k []) (Bs.getD k []) = 0) : cdL As Bs k ++ (opsS ((k + 1 : Nat) : Int) false (bey (As.getD k []) (Bs.getD k [])) ++ opsS ((k + 1 : Nat) : Int) true (bey (Bs.getD k []) (As.getD k []))) = cdL As Bs (k + 1) := by
  rw [opsS_of _ h, cdL]
  rfl
set_option maxHeartbeats 4000000 in
set_option maxRecDepth 100000 in
theorem refChanges_any (S : Int) (v1 v2 : Value) (ao3 : Option Addr) (n3 cap3 : Nat) (S' : Int) (u1 u2 : Value) (bo3 : Option Addr) (m3 dap3 : Nat) (As Bs : List (List Ru)) (w : World) (h1 : v1.oneCell' = true) (h2 : v2.oneCell' = true) (h3 : u1.oneCell' = true) (h4 : u2.oneCell' = true)
    (hT : TS w (.slice ao3 n3 cap3) As) (hT' : TS w (.slice bo3 m3 dap3) Bs) (hl : As.length = Bs.length) (h8 : As.length ≤ 1000) (ht : ∀ j, twN (As.getD j []) (Bs.getD j []) = 0) :
    Calls Tryd.prog 11 #[.agg #[.int .i64 S, v1, v2, .slice ao3 n3 cap3], .agg #[.int .i64 S', u1, u2, .slice bo3 m3 dap3]] w fun e w' => ∃ v, e = .returned v ∧ NO w' w.heap.size v (cdL As Bs As.length) ∧ Below w.heap.size w w' := by
  have hb0 : Below w.heap.size w ((w.alloc (Obj.cells #[.int .i64 S, v1, v2, .slice ao3 n3 cap3] 28)).alloc (Obj.cells #[.int .i64 S', u1, u2, .slice bo3 m3 dap3] 28)) := ((Below.refl _ _).alloc (Nat.le_refl _) _).alloc (by simp) _
  have HNN := nn_new w S v1 v2 (.slice ao3 n3 cap3) S' u1 u2 (.slice bo3 m3 dap3) 28
  have HB0 : Hid (Below w.heap.size w ((w.alloc (Obj.cells #[.int .i64 S, v1, v2, .slice ao3 n3 cap3] 28)).alloc (Obj.cells #[.int .i64 S', u1, u2, .slice bo3 m3 dap3] 28))) := hb0
  obtain ⟨_, _, _, e, hn, hn2, hn3, ha⟩ := hT.form
  cases e
  obtain ⟨_, _, _, e, hm, hm2, hm3, hb⟩ := hT'.form
  cases e
  obtain rfl : n3 = m3 := by omega
  have HN : Hid (As.length = n3) := hn
  have HM : Hid (Bs.length = n3) := hm
  have HA : Hid (0 < n3 → ∃ g o, ao3 = some ⟨g, o, none⟩ ∧ TAt w g o As ∧ cap3 ≤ maxLen) := ha
  have HA2 : Hid (0 < n3 → ∃ g o, bo3 = some ⟨g, o, none⟩ ∧ TAt w g o Bs ∧ dap3 ≤ maxLen) := hb
  have HTW : Hid (∀ j, twN (As.getD j []) (Bs.getD j []) = 0) := ht
  have n1000 : n3 ≤ 1000 := by omega
  clear hT hT' hn ha hm hb hn2 hm2 hb0 ht hl h8
  go_enter Tryd.func11, Tryd.ntmps11
  go_wp2
  go_loopw [5, 6] (fun x i wr => ∃ k : Nat, k ≤ n3 ∧ i = .int .i64 k ∧ NO wr (w.heap.size + 2) x (cdL As Bs k) ∧ NN wr w.heap.size S v1 v2 (.slice ao3 n3 cap3) S' u1 u2 (.slice bo3 n3 dap3) ∧ Below w.heap.size w wr) (fun x i _ => n3 - (intOf i).toNat)
  case atStart => exact ⟨0, by omega, rfl, NO.nil _ _, HNN, HB0.out⟩
  case round =>
    obtain ⟨k, hk, rfl, hO, hX, hB⟩ := hrel
    clear HNN HB0
    have HB : Hid (Below w.heap.size w wr) := hB
    have HO : Hid (NO wr (w.heap.size + 2) u5 (cdL As Bs k)) := hO
    have HX : Hid (NN wr w.heap.size S v1 v2 (.slice ao3 n3 cap3) S' u1 u2 (.slice bo3 n3 dap3)) := hX
    obtain ⟨⟨p0, p1, p2, p3⟩, s0, s1, s2, s3⟩ := hX
    have hlt1 : w.heap.size < wr.heap.size := World.block_lt_of_cell? _ _ p0
    have hlt2 : w.heap.size + 1 < wr.heap.size := World.block_lt_of_cell? _ _ s0
    clear hO
    by_cases hlt : k < n3
    · obtain ⟨g, og, hao, hc, _⟩ := HA.out (by omega)
      obtain ⟨f, of, hbo, hd, _⟩ := HA2.out (by omega)
      subst hao hbo
      obtain ⟨a3, l3, c3, r0, hG3⟩ := (hc.later hB) k (by rw [HN.out]; exact hlt)
      obtain ⟨a4, l4, c4, r1, hG4⟩ := (hd.later hB) k (by rw [HM.out]; exact hlt)
      have HG3 : Hid (SR wr (.slice a3 l3 c3) (As.getD k [])) := by
        show SR _ _ _
        rw [getT (by rw [HN.out]; exact hlt)]
        exact hG3
      have HG4 : Hid (SR wr (.slice a4 l4 c4) (Bs.getD k [])) := by
        show SR _ _ _
        rw [getT (by rw [HM.out]; exact hlt)]
        exact hG4
      have kb0 : (0 : Int) ≤ (k : Int) := by omega
      have kb1 : (k : Int) < (n3 : Int) := by omega
      have kw : IntKind.i64.wrap ((k : Int) + 1) = ((k + 1 : Nat) : Int) := by rw [IntKind.wrap_i64]; omega
      have HDF : Hid (∀ W, Below wr.heap.size wr W → Calls Tryd.prog 27 #[.slice a3 l3 c3, .slice a4 l4 c4, .int .i64 ((k + 1 : Nat) : Int)] W fun e w' => ∃ v, e = .returned v ∧ NO w' wr.heap.size v (opsS ((k + 1 : Nat) : Int) false (bey (As.getD k []) (Bs.getD k [])) ++ opsS ((k + 1 : Nat) : Int) true (bey (Bs.getD k []) (As.getD k []))) ∧ Below wr.heap.size wr w') := fun W hW => by
        have hw0 := tw_two (HTW.out k)
        refine (refDiff_any a3 l3 c3 a4 l4 c4 _ _ _ W (HG3.out.later hW) (HG4.out.later hW) (tb_iff.1 hw0.1).1 (tb_iff.1 hw0.2).1).mono ?_
        rintro e w' ⟨v, e1, e2, e3⟩
        exact ⟨v, e1, e2.mono hW.size, hW.trans (e3.mono hW.size)⟩
      have HMK : Hid (∀ W, Below wr.heap.size wr W → Below wr.heap.size wr W ∧ W.cell? ⟨w.heap.size, 3, none⟩ = some (.slice (some ⟨g, og, none⟩) n3 cap3) ∧ W.cell? ⟨w.heap.size + 1, 3, none⟩ = some (.slice (some ⟨f, of, none⟩) n3 dap3) ∧ W.cell? ⟨g, og + k, none⟩ = some (.slice a3 l3 c3) ∧ W.cell? ⟨f, of + k, none⟩ = some (.slice a4 l4 c4)) := by
        intro W hW
        obtain ⟨⟨_, _, _, c1⟩, _, _, _, c2⟩ := HX.out.later hW
        exact ⟨hW, c1, c2, cell_later hW r0, cell_later hW r1⟩
      have HLN : Hid ((cdL As Bs k).length ≤ 24000 ∧ (opsS ((k + 1 : Nat) : Int) false (bey (As.getD k []) (Bs.getD k [])) ++ opsS ((k + 1 : Nat) : Int) true (bey (Bs.getD k []) (As.getD k []))).length ≤ 24000) := by
        have h1 := cd_few HTW.out k
        have h2 := cd_few HTW.out (k + 1)
        rw [← cd_next (HTW.out k), List.length_append] at h2
        constructor <;> omega
      clear hc hd hB hG3 hG4
      go_upto_region 5 with fail
      go_cut [7] from 8 to 30 (fun v w' => NO w' wr.heap.size v (opsS ((k + 1 : Nat) : Int) false (bey (As.getD k []) (Bs.getD k [])) ++ opsS ((k + 1 : Nat) : Int) true (bey (Bs.getD k []) (As.getD k []))) ∧ Below wr.heap.size wr w')
      case first =>
        go_region_held3 (fun W => Below wr.heap.size wr W ∧ W.cell? ⟨w.heap.size, 3, none⟩ = some (.slice (some ⟨g, og, none⟩) n3 cap3) ∧ W.cell? ⟨w.heap.size + 1, 3, none⟩ = some (.slice (some ⟨f, of, none⟩) n3 dap3) ∧ W.cell? ⟨g, og + k, none⟩ = some (.slice a3 l3 c3) ∧ W.cell? ⟨f, of + k, none⟩ = some (.slice a4 l4 c4))
          (first | assumption | exact HMK.out _ (Below.drew (Below.refl _ _)) | exact HMK.out _ HBX.out)
          (first | (go_at_call 27; refine (HDF.out _ (by first | exact Below.drew (Below.refl _ _) | exact Below.refl _ _)).mono ?_; rintro e w' ⟨v, rfl, hG, hb⟩; have HBX : Hid (Below wr.heap.size wr w') := hb; have HGX : Hid (NO w' wr.heap.size v (opsS ((k + 1 : Nat) : Int) false (bey (As.getD k []) (Bs.getD k [])) ++ opsS ((k + 1 : Nat) : Int) true (bey (Bs.getD k []) (As.getD k [])))) := hG; clear hb hG))
        all_goals (go_wp2_with fail; go_meet)
        all_goals exact ⟨HGX.out, HBX.out⟩
      case rest =>
        obtain ⟨hG, hb⟩ := hcut
        have HBc : Hid (Below w.heap.size w wc) := HB.out.trans (hb.mono HB.out.size)
        have HOc : Hid (NO wc (w.heap.size + 2) u5 (cdL As Bs k)) := HO.out.later hb
        have HXc : Hid (NN wc w.heap.size S v1 v2 (.slice (some ⟨g, og, none⟩) n3 cap3) S' u1 u2 (.slice (some ⟨f, of, none⟩) n3 dap3)) := HX.out.later hb
        have HGc := hG.gs
        have HSZ : Hid (w.heap.size + 2 ≤ wc.heap.size) := Nat.le_trans (by omega) hb.size
        clear hG hb HDF HMK r0 r1 p0 p1 p2 p3 s0 s1 s2 s3
        go_wp2_with (at_builtin; refine wpList_append_ops _ rfl _ _ 29 rfl Tryd.underlying29 (w.heap.size + 2) _ rfl _ HOc.out _ rfl _ HGc (by have := HLN.out; omega) HSZ.out ?_)
        intro v' w3 hown3 hgrow
        have HO3 : Hid (NO w3 (w.heap.size + 2) v' (cdL As Bs (k + 1))) := by
          show NO _ _ _ _
          rw [← cd_next (HTW.out k)]
          exact hown3
        have HB3 : Hid (Below w.heap.size w w3) := HBc.out.grown hgrow HBc.out.size (fun g hg => by have := (HOc.out.lt g hg).1; omega)
        have HX3 : Hid (NN w3 w.heap.size S v1 v2 (.slice (some ⟨g, og, none⟩) n3 cap3) S' u1 u2 (.slice (some ⟨f, of, none⟩) n3 dap3)) := HXc.out.grown hgrow (fun g hg => (HOc.out.lt g hg).1)
        clear hown3 hgrow HGc
        go_wp2
        go_roundw
        case rel => exact ⟨k + 1, by omega, by go_num, HO3.out, HX3.out, HB3.out⟩
        case measure => simp [intOf]; omega
    · obtain rfl : k = n3 := by omega
      have HO2 : Hid (NO wr w.heap.size u5 (cdL As Bs As.length)) := by
        show NO _ _ _ _
        rw [HN.out]
        exact HO.out.mono (by omega)
      clear hB
      go_wp2
      go_ret
      exact ⟨_, rfl, HO2.out, HB.out⟩
end Go.Proofs.YtokkmnednhigmaeDoor
/- What railref1.Alike answers at any two topologies. Written by mk/alike.py. -/
namespace Go.Proofs.YtokkmnednhigmaeDoor
open Go.RowKit
set_option linter.unusedSimpArgs false
set_option linter.unusedVariables false

set_option maxHeartbeats 4000000 in
set_option maxRecDepth 100000 in
theorem refAlike_any (S : Int) (ao : Option Addr) (n cap : Nat) (ao2 : Option Addr) (n2 cap2 : Nat) (Ls : List ((Int × Int) × (Int × Int))) (Hs : List (ByteArray × (Int × Int))) (S' : Int) (bo : Option Addr) (m cap3 : Nat) (bo2 : Option Addr) (m2 cap4 : Nat) (Ls' : List ((Int × Int) × (Int × Int))) (Hs' : List (ByteArray × (Int × Int))) (w : World)
    (hL : GS lnkE w (.slice ao n cap) Ls) (hH : GS hstE w (.slice ao2 n2 cap2) Hs) (hL' : GS lnkE w (.slice bo m cap3) Ls') (hH' : GS hstE w (.slice bo2 m2 cap4) Hs') :
    Calls Tryd.prog 10 #[.agg #[.int .i64 S, .slice ao n cap, .slice ao2 n2 cap2], .agg #[.int .i64 S', .slice bo m cap3, .slice bo2 m2 cap4]] w fun e w' => e = .returned (.bool (tpB S S' Ls Ls' Hs Hs')) ∧ Below w.heap.size w w' := by
  obtain ⟨_, _, _, e, hn, hn2, hn3, ha⟩ := hL.form
  cases e
  obtain ⟨_, _, _, e, hm, hm2, hm3, hb⟩ := hL'.form
  cases e
  obtain ⟨_, _, _, e, gn, gn2, gn3, ga⟩ := hH.form
  cases e
  obtain ⟨_, _, _, e, gm, gm2, gm3, gb⟩ := hH'.form
  cases e
  have HN1 : Hid (Ls.length = n) := hn
  have HM1 : Hid (Ls'.length = m) := hm
  have HN2 : Hid (Hs.length = n2) := gn
  have HM2 : Hid (Hs'.length = m2) := gm
  have HA1 : Hid (0 < n → ∃ g o, ao = some ⟨g, o, none⟩ ∧ GAt lnkE w g o Ls ∧ cap ≤ maxLen) := ha
  have HB1 : Hid (0 < m → ∃ g o, bo = some ⟨g, o, none⟩ ∧ GAt lnkE w g o Ls' ∧ cap3 ≤ maxLen) := hb
  have HA2 : Hid (0 < n2 → ∃ g o, ao2 = some ⟨g, o, none⟩ ∧ GAt hstE w g o Hs ∧ cap2 ≤ maxLen) := ga
  have HB2 : Hid (0 < m2 → ∃ g o, bo2 = some ⟨g, o, none⟩ ∧ GAt hstE w g o Hs' ∧ cap4 ≤ maxLen) := gb
  have n63 : n ≤ 9223372036854775807 := by unfold maxLen at hn2; omega
  have n263 : n2 ≤ 9223372036854775807 := by unfold maxLen at gn2; omega
  have HT : Hid (TT ((w.alloc (Obj.cells #[.int .i64 S, .slice ao n cap, .slice ao2 n2 cap2] 25)).alloc (Obj.cells #[.int .i64 S', .slice bo m cap3, .slice bo2 m2 cap4] 25)) w.heap.size S S' (.slice ao n cap) (.slice ao2 n2 cap2) (.slice bo m cap3) (.slice bo2 m2 cap4)) := tt_new w S S' _ _ _ _ 25
  have HBW : Hid (Below w.heap.size w ((w.alloc (Obj.cells #[.int .i64 S, .slice ao n cap, .slice ao2 n2 cap2] 25)).alloc (Obj.cells #[.int .i64 S', .slice bo m cap3, .slice bo2 m2 cap4] 25))) := ((Below.refl _ _).alloc (Nat.le_refl _) _).alloc (by simp) _
  clear hL hH hL' hH' hn ha hm hb hn2 hm2 gn ga gm gb gn2 gm2
  obtain ⟨R, hR⟩ : ∃ R, R = tpB S S' Ls Ls' Hs Hs' := ⟨_, rfl⟩
  have HR : Hid (R = tpB S S' Ls Ls' Hs Hs') := hR
  rw [← hR]
  clear hR
  by_cases hl : S = S' ∧ n = m ∧ n2 = m2
  · obtain ⟨rfl, rfl, rfl⟩ := hl
    have and_no1 : smG lnkB Ls Ls' = false → tpB S S Ls Ls' Hs Hs' = false := fun h => by rw [tpB, h]; simp
    have and_no2 : smG hstB Hs Hs' = false → tpB S S Ls Ls' Hs Hs' = false := fun h => by rw [tpB, h]; simp
    have e1 : (S == S) = true := by simp
    have e2 : ((n : Int) == (n : Int)) = true := by simp
    have e3 : ((n2 : Int) == (n2 : Int)) = true := by simp
    go_enter Tryd.func10, Tryd.ntmps10
    go_wp2
    go_loopw [5] (fun i wr => ∃ k1 : Nat, k1 ≤ n ∧ i = .int .i64 k1 ∧ (∀ j, j < k1 → ∀ (h1 : j < Ls.length) (h2 : j < Ls'.length), lnkB Ls[j] Ls'[j] = true) ∧ TT wr w.heap.size S S (.slice ao n cap) (.slice ao2 n2 cap2) (.slice bo n cap3) (.slice bo2 n2 cap4) ∧ Below w.heap.size w wr) (fun i _ => n - (intOf i).toNat)
    case atStart => exact ⟨0, by omega, rfl, fun j hj => absurd hj (by omega), HT.out, HBW.out⟩
    case round =>
      obtain ⟨k1, hk, rfl, hall, hT, hB⟩ := hrel
      clear HT HBW
      have HB : Hid (Below w.heap.size w wr) := hB
      have HT2 : Hid (TT wr w.heap.size S S (.slice ao n cap) (.slice ao2 n2 cap2) (.slice bo n cap3) (.slice bo2 n2 cap4)) := hT
      have HALL : Hid (∀ j, j < k1 → ∀ (h1 : j < Ls.length) (h2 : j < Ls'.length), lnkB Ls[j] Ls'[j] = true) := hall
      obtain ⟨⟨p0, p1, p2⟩, s0, s1, s2⟩ := hT
      have hlt1 : w.heap.size < wr.heap.size := World.block_lt_of_cell? _ _ p0
      have hlt2 : w.heap.size + 1 < wr.heap.size := World.block_lt_of_cell? _ _ s0
      clear hall
      by_cases hlt : k1 < n
      · obtain ⟨g, og, hao, hc, _⟩ := HA1.out (by omega)
        obtain ⟨g2, og2, hao2, hc2, _⟩ := HB1.out (by omega)
        subst hao hao2
        obtain ⟨x0, x1, x2, x3, hkl, hLk, q0, q1, q2, q3⟩ := lnk_at (hc.later hB) HN1.out hlt
        obtain ⟨y0, y1, y2, y3, hkm, hMk, r0, r1, r2, r3⟩ := lnk_at (hc2.later hB) HM1.out hlt
        have HCE : Hid (LC w w.heap.size S S (.slice (some ⟨g, og, none⟩) n cap) (.slice ao2 n2 cap2) (.slice (some ⟨g2, og2, none⟩) n cap3) (.slice bo2 n2 cap4) g (og + k1 * 4) x0 x1 x2 x3 g2 (og2 + k1 * 4) y0 y1 y2 y3 wr) := ⟨hB, ⟨p0, p1, p2⟩, ⟨s0, s1, s2⟩, ⟨q0, q1, q2, q3⟩, r0, r1, r2, r3⟩
        have HLK : Hid (Ls[k1] = ((x0, x1), (x2, x3)) ∧ Ls'[k1] = ((y0, y1), (y2, y3))) := ⟨hLk, hMk⟩
        clear q0 q1 q2 q3 r0 r1 r2 r3 hB hc hc2 hLk hMk HA1 HB1
        go_upto_region 6 with fail
        have kb0 : (0 : Int) ≤ (k1 : Int) := by omega
        have kb1 : (k1 : Int) < (n : Int) := by omega
        clear p0 p1 p2 s0 s1 s2
        go_cut [47] from 30 to 47 (fun c w' => c = .bool (!lnkB ((x0, x1), (x2, x3)) ((y0, y1), (y2, y3))) ∧ TT w' w.heap.size S S (.slice (some ⟨g, og, none⟩) n cap) (.slice ao2 n2 cap2) (.slice (some ⟨g2, og2, none⟩) n cap3) (.slice bo2 n2 cap4) ∧ Below w.heap.size w w')
        case first =>
          as_aux_lemma =>
            refine wp_region_quiet (C := LC w w.heap.size S S (.slice (some ⟨g, og, none⟩) n cap) (.slice ao2 n2 cap2) (.slice (some ⟨g2, og2, none⟩) n cap3) (.slice bo2 n2 cap4) g (og + k1 * 4) x0 x1 x2 x3 g2 (og2 + k1 * 4) y0 y1 y2 y3) (by kernel_rfl) (by kernel_rfl) (LC.later (W := wr) (Below.drew (Below.refl _ _)) HCE.out) ?_
            simp only [List.toList_toArray]
            go_big_quiet_want
            refine quiet_val (v := .pointer (some ⟨w.heap.size, 1, none⟩)) (fun w' hC => ?_) ?_
            · obtain ⟨z, ⟨t0, t1, t2⟩, ⟨s0, s1, s2⟩, ⟨z0, z1, z2, z3⟩, u0, u1, u2, u3⟩ := hC
              go_simp
            simp only [Act.put, List.setIfInBounds_toArray, List.set_cons_zero, List.set_cons_succ]
            go_big_quiet_on
            go_big_quiet_want
            refine quiet_val (v := .slice (some ⟨g, og, none⟩) n cap) (fun w' hC => ?_) ?_
            · obtain ⟨z, ⟨t0, t1, t2⟩, ⟨s0, s1, s2⟩, ⟨z0, z1, z2, z3⟩, u0, u1, u2, u3⟩ := hC
              go_simp
            simp only [Act.put, List.setIfInBounds_toArray, List.set_cons_zero, List.set_cons_succ]
            go_big_quiet_on
            go_big_quiet_want
            refine quiet_val (v := .int .i64 (k1 : Int)) (fun w' hC => ?_) ?_
            · obtain ⟨z, ⟨t0, t1, t2⟩, ⟨s0, s1, s2⟩, ⟨z0, z1, z2, z3⟩, u0, u1, u2, u3⟩ := hC
              go_simp
            simp only [Act.put, List.setIfInBounds_toArray, List.set_cons_zero, List.set_cons_succ]
            go_big_quiet_on
            go_big_quiet_want
            refine quiet_val (v := .pointer (some ⟨g, og + k1 * 4, none⟩)) (fun w' hC => ?_) ?_
            · obtain ⟨z, ⟨t0, t1, t2⟩, ⟨s0, s1, s2⟩, ⟨z0, z1, z2, z3⟩, u0, u1, u2, u3⟩ := hC
              go_simp
            simp only [Act.put, List.setIfInBounds_toArray, List.set_cons_zero, List.set_cons_succ]
            go_big_quiet_on
            go_big_quiet_want
            refine quiet_val (v := .agg #[.int .i64 x0, .int .i64 x1, .int .i64 x2, .int .i64 x3]) (fun w' hC => ?_) ?_
            · obtain ⟨z, ⟨t0, t1, t2⟩, ⟨s0, s1, s2⟩, ⟨z0, z1, z2, z3⟩, u0, u1, u2, u3⟩ := hC
              go_simp
            simp only [Act.put, List.setIfInBounds_toArray, List.set_cons_zero, List.set_cons_succ]
            go_big_quiet_on
            go_big_quiet_want
            refine quiet_val (v := .pointer (some ⟨w.heap.size + 1, 1, none⟩)) (fun w' hC => ?_) ?_
            · obtain ⟨z, ⟨t0, t1, t2⟩, ⟨s0, s1, s2⟩, ⟨z0, z1, z2, z3⟩, u0, u1, u2, u3⟩ := hC
              go_simp
            simp only [Act.put, List.setIfInBounds_toArray, List.set_cons_zero, List.set_cons_succ]
            go_big_quiet_on
            go_big_quiet_want
            refine quiet_val (v := .slice (some ⟨g2, og2, none⟩) n cap3) (fun w' hC => ?_) ?_
            · obtain ⟨z, ⟨t0, t1, t2⟩, ⟨s0, s1, s2⟩, ⟨z0, z1, z2, z3⟩, u0, u1, u2, u3⟩ := hC
              go_simp
            simp only [Act.put, List.setIfInBounds_toArray, List.set_cons_zero, List.set_cons_succ]
            go_big_quiet_on
            go_big_quiet_want
            refine quiet_val (v := .int .i64 (k1 : Int)) (fun w' hC => ?_) ?_
            · obtain ⟨z, ⟨t0, t1, t2⟩, ⟨s0, s1, s2⟩, ⟨z0, z1, z2, z3⟩, u0, u1, u2, u3⟩ := hC
              go_simp
            simp only [Act.put, List.setIfInBounds_toArray, List.set_cons_zero, List.set_cons_succ]
            go_big_quiet_on
            go_big_quiet_want
            refine quiet_val (v := .pointer (some ⟨g2, og2 + k1 * 4, none⟩)) (fun w' hC => ?_) ?_
            · obtain ⟨z, ⟨t0, t1, t2⟩, ⟨s0, s1, s2⟩, ⟨z0, z1, z2, z3⟩, u0, u1, u2, u3⟩ := hC
              go_simp
            simp only [Act.put, List.setIfInBounds_toArray, List.set_cons_zero, List.set_cons_succ]
            go_big_quiet_on
            go_big_quiet_want
            refine quiet_val (v := .agg #[.int .i64 y0, .int .i64 y1, .int .i64 y2, .int .i64 y3]) (fun w' hC => ?_) ?_
            · obtain ⟨z, ⟨t0, t1, t2⟩, ⟨s0, s1, s2⟩, ⟨z0, z1, z2, z3⟩, u0, u1, u2, u3⟩ := hC
              go_simp
            simp only [Act.put, List.setIfInBounds_toArray, List.set_cons_zero, List.set_cons_succ]
            go_big_quiet_on
            go_big_quiet_want
            refine quiet_val (v := .bool (!lnkB ((x0, x1), (x2, x3)) ((y0, y1), (y2, y3)))) (fun w' hC => exec_bin rfl (by go_simp) (run_neq_of (lnk_eq x0 x1 x2 x3 y0 y1 y2 y3 w'))) ?_
            simp only [Act.put, List.setIfInBounds_toArray, List.set_cons_zero, List.set_cons_succ]
            go_big_quiet_on
            refine wpQuiet_nil ?_
            intro w' hC
            go_wp2_with fail
            go_meet
            case rel => exact ⟨rfl, ⟨hC.2.1, hC.2.2.1⟩, hC.1⟩
        case rest =>
          obtain ⟨rfl, hTT, hB2⟩ := hcut
          have HB3 : Hid (Below w.heap.size w wc) := hB2
          have HT3 : Hid (TT wc w.heap.size S S (.slice (some ⟨g, og, none⟩) n cap) (.slice ao2 n2 cap2) (.slice (some ⟨g2, og2, none⟩) n cap3) (.slice bo2 n2 cap4)) := hTT
          clear HCE hB2 hTT
          cases ho : lnkB ((x0, x1), (x2, x3)) ((y0, y1), (y2, y3))
          · have HF : Hid (R = false) := by
              show R = false
              rw [HR.out]
              exact and_no1 (smG_no hkl hkm (by rw [HLK.out.1, HLK.out.2]; exact ho))
            go_wp2
            go_ret
            exact ⟨by rw [HF.out]; rfl, HB3.out⟩
          · have HAL2 : Hid (∀ j, j < k1 + 1 → ∀ (h1 : j < Ls.length) (h2 : j < Ls'.length), lnkB Ls[j] Ls'[j] = true) := by
              intro j hj h1 h2
              by_cases e : j = k1
              · subst e
                rw [HLK.out.1, HLK.out.2]
                exact ho
              · exact HALL.out j (by omega) h1 h2
            clear ho
            go_wp2
            go_roundw
            case rel => exact ⟨k1 + 1, by omega, by go_num, HAL2.out, HT3.out, HB3.out⟩
            case measure => simp [intOf]; omega
      · obtain rfl : k1 = n := by omega
        have HS1 : Hid (smG lnkB Ls Ls' = true) := smG_iff.2 ⟨by rw [HN1.out, HM1.out], fun i h1 h2 => HALL.out i (by rw [HN1.out] at h1; exact h1) h1 h2⟩
        clear HALL hlt hB HA1 HB1
        go_wp2
        go_loopw [6] (fun i wr => ∃ k : Nat, k ≤ n2 ∧ i = .int .i64 k ∧ (∀ j, j < k → ∀ (h1 : j < Hs.length) (h2 : j < Hs'.length), hstB Hs[j] Hs'[j] = true) ∧ TT wr w.heap.size S S (.slice ao k1 cap) (.slice ao2 n2 cap2) (.slice bo k1 cap3) (.slice bo2 n2 cap4) ∧ Below w.heap.size w wr) (fun i _ => n2 - (intOf i).toNat)
        case atStart => exact ⟨0, by omega, rfl, fun j hj => absurd hj (by omega), HT2.out, HB.out⟩
        case round =>
          obtain ⟨k, hk, rfl, hall, hT, hB⟩ := hrel
          clear HT2 HB
          have HB : Hid (Below w.heap.size w wr) := hB
          have HT2 : Hid (TT wr w.heap.size S S (.slice ao k1 cap) (.slice ao2 n2 cap2) (.slice bo k1 cap3) (.slice bo2 n2 cap4)) := hT
          have HALL : Hid (∀ j, j < k → ∀ (h1 : j < Hs.length) (h2 : j < Hs'.length), hstB Hs[j] Hs'[j] = true) := hall
          obtain ⟨⟨p0, p1, p2⟩, s0, s1, s2⟩ := hT
          have hlt1 : w.heap.size < wr.heap.size := World.block_lt_of_cell? _ _ p0
          have hlt2 : w.heap.size + 1 < wr.heap.size := World.block_lt_of_cell? _ _ s0
          clear hall
          by_cases hlt : k < n2
          · obtain ⟨g, og, hao, hc, _⟩ := HA2.out (by omega)
            obtain ⟨g2, og2, hao2, hc2, _⟩ := HB2.out (by omega)
            subst hao hao2
            obtain ⟨x0, x1, x2, hkl, hLk, q0, q1, q2⟩ := hst_at (hc.later hB) HN2.out hlt
            obtain ⟨y0, y1, y2, hkm, hMk, r0, r1, r2⟩ := hst_at (hc2.later hB) HM2.out hlt
            have HCE : Hid (HC w w.heap.size S S (.slice ao k1 cap) (.slice (some ⟨g, og, none⟩) n2 cap2) (.slice bo k1 cap3) (.slice (some ⟨g2, og2, none⟩) n2 cap4) g (og + k * 3) x0 x1 x2 g2 (og2 + k * 3) y0 y1 y2 wr) := ⟨hB, ⟨p0, p1, p2⟩, ⟨s0, s1, s2⟩, ⟨q0, q1, q2⟩, r0, r1, r2⟩
            have HLK : Hid (Hs[k] = (x0, (x1, x2)) ∧ Hs'[k] = (y0, (y1, y2))) := ⟨hLk, hMk⟩
            clear q0 q1 q2 r0 r1 r2 hB hc hc2 hLk hMk HA2 HB2
            go_upto_region 11 with fail
            have kb0 : (0 : Int) ≤ (k : Int) := by omega
            have kb1 : (k : Int) < (n2 : Int) := by omega
            clear p0 p1 p2 s0 s1 s2
            go_cut [65] from 48 to 65 (fun c w' => c = .bool (!hstB (x0, (x1, x2)) (y0, (y1, y2))) ∧ TT w' w.heap.size S S (.slice ao k1 cap) (.slice (some ⟨g, og, none⟩) n2 cap2) (.slice bo k1 cap3) (.slice (some ⟨g2, og2, none⟩) n2 cap4) ∧ Below w.heap.size w w')
            case first =>
              as_aux_lemma =>
                refine wp_region_quiet (C := HC w w.heap.size S S (.slice ao k1 cap) (.slice (some ⟨g, og, none⟩) n2 cap2) (.slice bo k1 cap3) (.slice (some ⟨g2, og2, none⟩) n2 cap4) g (og + k * 3) x0 x1 x2 g2 (og2 + k * 3) y0 y1 y2) (by kernel_rfl) (by kernel_rfl) (HC.later (W := wr) (Below.drew (Below.refl _ _)) HCE.out) ?_
                simp only [List.toList_toArray]
                go_big_quiet_want
                refine quiet_val (v := .pointer (some ⟨w.heap.size, 2, none⟩)) (fun w' hC => ?_) ?_
                · obtain ⟨z, ⟨t0, t1, t2⟩, ⟨s0, s1, s2⟩, ⟨z0, z1, z2⟩, u0, u1, u2⟩ := hC
                  go_simp
                simp only [Act.put, List.setIfInBounds_toArray, List.set_cons_zero, List.set_cons_succ]
                go_big_quiet_on
                go_big_quiet_want
                refine quiet_val (v := .slice (some ⟨g, og, none⟩) n2 cap2) (fun w' hC => ?_) ?_
                · obtain ⟨z, ⟨t0, t1, t2⟩, ⟨s0, s1, s2⟩, ⟨z0, z1, z2⟩, u0, u1, u2⟩ := hC
                  go_simp
                simp only [Act.put, List.setIfInBounds_toArray, List.set_cons_zero, List.set_cons_succ]
                go_big_quiet_on
                go_big_quiet_want
                refine quiet_val (v := .int .i64 (k : Int)) (fun w' hC => ?_) ?_
                · obtain ⟨z, ⟨t0, t1, t2⟩, ⟨s0, s1, s2⟩, ⟨z0, z1, z2⟩, u0, u1, u2⟩ := hC
                  go_simp
                simp only [Act.put, List.setIfInBounds_toArray, List.set_cons_zero, List.set_cons_succ]
                go_big_quiet_on
                go_big_quiet_want
                refine quiet_val (v := .pointer (some ⟨g, og + k * 3, none⟩)) (fun w' hC => ?_) ?_
                · obtain ⟨z, ⟨t0, t1, t2⟩, ⟨s0, s1, s2⟩, ⟨z0, z1, z2⟩, u0, u1, u2⟩ := hC
                  go_simp
                simp only [Act.put, List.setIfInBounds_toArray, List.set_cons_zero, List.set_cons_succ]
                go_big_quiet_on
                go_big_quiet_want
                refine quiet_val (v := .agg #[.string x0, .int .i64 x1, .int .i64 x2]) (fun w' hC => ?_) ?_
                · obtain ⟨z, ⟨t0, t1, t2⟩, ⟨s0, s1, s2⟩, ⟨z0, z1, z2⟩, u0, u1, u2⟩ := hC
                  go_simp
                simp only [Act.put, List.setIfInBounds_toArray, List.set_cons_zero, List.set_cons_succ]
                go_big_quiet_on
                go_big_quiet_want
                refine quiet_val (v := .pointer (some ⟨w.heap.size + 1, 2, none⟩)) (fun w' hC => ?_) ?_
                · obtain ⟨z, ⟨t0, t1, t2⟩, ⟨s0, s1, s2⟩, ⟨z0, z1, z2⟩, u0, u1, u2⟩ := hC
                  go_simp
                simp only [Act.put, List.setIfInBounds_toArray, List.set_cons_zero, List.set_cons_succ]
                go_big_quiet_on
                go_big_quiet_want
                refine quiet_val (v := .slice (some ⟨g2, og2, none⟩) n2 cap4) (fun w' hC => ?_) ?_
                · obtain ⟨z, ⟨t0, t1, t2⟩, ⟨s0, s1, s2⟩, ⟨z0, z1, z2⟩, u0, u1, u2⟩ := hC
                  go_simp
                simp only [Act.put, List.setIfInBounds_toArray, List.set_cons_zero, List.set_cons_succ]
                go_big_quiet_on
                go_big_quiet_want
                refine quiet_val (v := .int .i64 (k : Int)) (fun w' hC => ?_) ?_
                · obtain ⟨z, ⟨t0, t1, t2⟩, ⟨s0, s1, s2⟩, ⟨z0, z1, z2⟩, u0, u1, u2⟩ := hC
                  go_simp
                simp only [Act.put, List.setIfInBounds_toArray, List.set_cons_zero, List.set_cons_succ]
                go_big_quiet_on
                go_big_quiet_want
                refine quiet_val (v := .pointer (some ⟨g2, og2 + k * 3, none⟩)) (fun w' hC => ?_) ?_
                · obtain ⟨z, ⟨t0, t1, t2⟩, ⟨s0, s1, s2⟩, ⟨z0, z1, z2⟩, u0, u1, u2⟩ := hC
                  go_simp
                simp only [Act.put, List.setIfInBounds_toArray, List.set_cons_zero, List.set_cons_succ]
                go_big_quiet_on
                go_big_quiet_want
                refine quiet_val (v := .agg #[.string y0, .int .i64 y1, .int .i64 y2]) (fun w' hC => ?_) ?_
                · obtain ⟨z, ⟨t0, t1, t2⟩, ⟨s0, s1, s2⟩, ⟨z0, z1, z2⟩, u0, u1, u2⟩ := hC
                  go_simp
                simp only [Act.put, List.setIfInBounds_toArray, List.set_cons_zero, List.set_cons_succ]
                go_big_quiet_on
                go_big_quiet_want
                refine quiet_val (v := .bool (!hstB (x0, (x1, x2)) (y0, (y1, y2)))) (fun w' hC => exec_bin rfl (by go_simp) (run_neq_of (hst_eq x0 x1 x2 y0 y1 y2 w'))) ?_
                simp only [Act.put, List.setIfInBounds_toArray, List.set_cons_zero, List.set_cons_succ]
                go_big_quiet_on
                refine wpQuiet_nil ?_
                intro w' hC
                go_wp2_with fail
                go_meet
                case rel => exact ⟨rfl, ⟨hC.2.1, hC.2.2.1⟩, hC.1⟩
            case rest =>
              obtain ⟨rfl, hTT, hB2⟩ := hcut
              have HB3 : Hid (Below w.heap.size w wc) := hB2
              have HT3 : Hid (TT wc w.heap.size S S (.slice ao k1 cap) (.slice (some ⟨g, og, none⟩) n2 cap2) (.slice bo k1 cap3) (.slice (some ⟨g2, og2, none⟩) n2 cap4)) := hTT
              clear HCE hB2 hTT
              cases ho : hstB (x0, (x1, x2)) (y0, (y1, y2))
              · have HF : Hid (R = false) := by
                  show R = false
                  rw [HR.out]
                  exact and_no2 (smG_no hkl hkm (by rw [HLK.out.1, HLK.out.2]; exact ho))
                go_wp2
                go_ret
                exact ⟨by rw [HF.out]; rfl, HB3.out⟩
              · have HAL2 : Hid (∀ j, j < k + 1 → ∀ (h1 : j < Hs.length) (h2 : j < Hs'.length), hstB Hs[j] Hs'[j] = true) := by
                  intro j hj h1 h2
                  by_cases e : j = k
                  · subst e
                    rw [HLK.out.1, HLK.out.2]
                    exact ho
                  · exact HALL.out j (by omega) h1 h2
                clear ho
                go_wp2
                go_roundw
                case rel => exact ⟨k + 1, by omega, by go_num, HAL2.out, HT3.out, HB3.out⟩
                case measure => simp [intOf]; omega
          · obtain rfl : k = n2 := by omega
            have HS2 : Hid (smG hstB Hs Hs' = true) := smG_iff.2 ⟨by rw [HN2.out, HM2.out], fun i h1 h2 => HALL.out i (by rw [HN2.out] at h1; exact h1) h1 h2⟩
            clear HALL hlt hB HA2 HB2
            have HF : Hid (R = true) := by
              show R = true
              rw [HR.out, tpB, HS1.out, HS2.out]
              simp
            go_wp2
            go_ret
            exact ⟨by rw [HF.out]; rfl, HB.out⟩
  · have HF : Hid (R = false) := by
      show R = false
      rw [HR.out]
      cases e : tpB S S' Ls Ls' Hs Hs'
      · rfl
      · obtain ⟨rfl, rfl, rfl⟩ := tpB_iff.1 e
        exact absurd ⟨rfl, by rw [← HN1.out, HM1.out], by rw [← HN2.out, HM2.out]⟩ hl
    by_cases hS : S = S'
    · subst hS
      have e1 : (S == S) = true := by simp
      by_cases h1 : n = m
      · subst h1
        have e2 : ((n : Int) == (n : Int)) = true := by simp
        have e3 : ((n2 : Int) == (m2 : Int)) = false := beq_eq_false_iff_ne.2 (fun e => hl ⟨rfl, rfl, by omega⟩)
        have e4 : ((n2 : Int) != (m2 : Int)) = true := by rw [bne, e3]; rfl
        clear hl
        go_enter Tryd.func10, Tryd.ntmps10
        go_wp2
        go_ret
        exact ⟨by rw [HF.out]; rfl, HBW.out⟩
      · have e3 : ((n : Int) == (m : Int)) = false := beq_eq_false_iff_ne.2 (by omega)
        have e4 : ((n : Int) != (m : Int)) = true := by rw [bne, e3]; rfl
        clear hl h1
        go_enter Tryd.func10, Tryd.ntmps10
        go_wp2
        go_ret
        exact ⟨by rw [HF.out]; rfl, HBW.out⟩
    · have e3 : (S == S') = false := beq_eq_false_iff_ne.2 hS
      have e4 : (S != S') = true := by rw [bne, e3]; rfl
      clear hl hS
      go_enter Tryd.func10, Tryd.ntmps10
      go_wp2
      go_ret
      exact ⟨by rw [HF.out]; rfl, HBW.out⟩
end Go.Proofs.YtokkmnednhigmaeDoor
/- What railref1.Spot, Host, Named, Peer, Joined answer: contracts for the walks above them. -/
namespace Go.Proofs.YtokkmnednhigmaeDoor
open Go.RowKit
set_option linter.unusedSimpArgs false
set_option linter.unusedVariables false

/-- Two boxes: a topology, a spot. -/
structure B2 (w W : World) (S : Int) (v1 v2 : Value) (x y : Int) : Prop where
  below : Below w.heap.size w W
  t : TBox W w.heap.size S v1 v2
  s0 : W.cell? ⟨w.heap.size + 1, 0, none⟩ = some (.int .i64 x)
  s1 : W.cell? ⟨w.heap.size + 1, 1, none⟩ = some (.int .i64 y)
theorem B2.later {w W W' : World} {S : Int} {v1 v2 : Value} {x y : Int} (h : B2 w W S v1 v2 x y) (hb : Below W.heap.size W W') : B2 w W' S v1 v2 x y :=
  ⟨h.below.trans (hb.mono h.below.size), h.t.later hb, cell_later hb h.s0, cell_later hb h.s1⟩
theorem b2_new (w : World) (S : Int) (v1 v2 : Value) (x y : Int) : B2 w ((w.alloc (Obj.cells #[.int .i64 S, v1, v2] 25)).alloc (Obj.cells #[.int .i64 x, .int .i64 y] 71)) S v1 v2 x y := by
  have hb1 : Below w.heap.size w (w.alloc (Obj.cells #[.int .i64 S, v1, v2] 25)) := (Below.refl _ _).alloc (Nat.le_refl _) _
  have h := spo_new (w.alloc (Obj.cells #[.int .i64 S, v1, v2] 25)) x y 71
  have e1 : (w.alloc (Obj.cells #[.int .i64 S, v1, v2] 25)).heap.size = w.heap.size + 1 := by simp
  rw [e1] at h
  obtain ⟨s0, s1⟩ := spo_cells h
  exact ⟨hb1.alloc hb1.size _, (tbox_new w S v1 v2 25).later ((Below.refl _ _).alloc (Nat.le_refl _) _), s0, s1⟩

set_option maxHeartbeats 1000000 in
set_option maxRecDepth 100000 in
theorem rspot_any (S : Int) (ao : Option Addr) (n cap : Nat) (ao2 : Option Addr) (n2 cap2 : Nat) (x y : Int) (w : World) :
    Calls Tryd.prog 34 #[.agg #[.int .i64 S, .slice ao n cap, .slice ao2 n2 cap2], .agg #[.int .i64 x, .int .i64 y]] w fun e w' => e = .returned (.bool (spB S (x, y))) ∧ Below w.heap.size w w' := by
  have HB : Hid (Below w.heap.size w ((w.alloc (Obj.cells #[.int .i64 S, .slice ao n cap, .slice ao2 n2 cap2] 25)).alloc (Obj.cells #[.int .i64 x, .int .i64 y] 71))) := (b2_new w S _ _ x y).below
  have hr : spB S (x, y) = (decide (1 ≤ x) && (decide (x ≤ S) && (decide (1 ≤ y) && decide (y ≤ 4)))) := rfl
  rw [hr]
  clear hr
  cases g1 : decide (1 ≤ x)
  · simp only [Bool.false_and]
    go_enter Tryd.func34, Tryd.ntmps34
    go_wp2
    go_ret
    exact ⟨rfl, HB.out⟩
  · cases g2 : decide (x ≤ S)
    · simp only [Bool.false_and, Bool.and_false]
      go_enter Tryd.func34, Tryd.ntmps34
      go_wp2
      go_ret
      exact ⟨rfl, HB.out⟩
    · cases g3 : decide (1 ≤ y)
      · simp only [Bool.false_and, Bool.and_false]
        go_enter Tryd.func34, Tryd.ntmps34
        go_wp2
        go_ret
        exact ⟨rfl, HB.out⟩
      · simp only [Bool.true_and]
        obtain ⟨r, hr⟩ : ∃ r, r = decide (y ≤ 4) := ⟨_, rfl⟩
        go_enter Tryd.func34, Tryd.ntmps34
        go_wp2
        go_ret
        exact ⟨rfl, HB.out⟩

end Go.Proofs.YtokkmnednhigmaeDoor
/- What railref1.Name answers: a contract for the walks above it. -/
namespace Go.Proofs.YtokkmnednhigmaeDoor
open Go.RowKit
set_option linter.unusedSimpArgs false
set_option linter.unusedVariables false

theorem byte_lst (s : ByteArray) : s.toList = s.data.toList := by rw [Lib.toList_data]
theorem size_lst (s : ByteArray) : s.data.toList.length = s.size := by simp
/-- Is a byte a letter? -/
def ltB (c : UInt8) : Bool := decide (97 ≤ c.toNat) && decide (c.toNat ≤ 122)
theorem lt_at (s : ByteArray) (k : Nat) (h : k < s.size) : s.data.toList[k]'(by simpa using h) = s[k] := by simp [ByteArray.getElem_eq_getElem_data]
theorem rnm_eq (s : ByteArray) : nmB s = (decide (1 ≤ s.size) && (decide (s.size ≤ 6) && s.data.toList.all ltB)) := rfl

set_option maxHeartbeats 1000000 in
set_option maxRecDepth 100000 in
theorem rname_any (s : ByteArray) (w : World) :
    Calls Tryd.prog 35 #[.string s] w fun e w' => e = .returned (.bool (nmB s)) ∧ w' = w := by
  by_cases h0 : s.size = 0
  · have e0 : s.toList.isEmpty = true := by
      rw [byte_lst, List.isEmpty_iff, ← List.length_eq_zero_iff, size_lst, h0]
    have HR : Hid (nmB s = false) := by
      show _ = _
      rw [rnm_eq, h0]
      rfl
    rw [HR.out]
    go_enter Tryd.func35, Tryd.ntmps35
    go_wp2
    go_ret
    exact ⟨rfl, rfl⟩
  · have e0 : s.toList.isEmpty = false := by
      rw [byte_lst, ← Bool.not_eq_true, List.isEmpty_iff, ← List.length_eq_zero_iff, size_lst]; exact h0
    by_cases h6 : 6 < s.size
    · have e6 : decide ((6 : Int) < (s.size : Int)) = true := by simp; omega
      have HR : Hid (nmB s = false) := by
        show _ = _
        have : ¬ s.size ≤ 6 := by omega
        rw [rnm_eq]
        simp [this]
      rw [HR.out]
      go_enter Tryd.func35, Tryd.ntmps35
      go_wp2
      go_ret
      exact ⟨rfl, rfl⟩
    · have e6 : decide ((6 : Int) < (s.size : Int)) = false := by simp; omega
      have HR : Hid (nmB s = s.data.toList.all ltB) := by
        show _ = _
        have h1 : 1 ≤ s.size := by omega
        have h2 : s.size ≤ 6 := by omega
        rw [rnm_eq]
        simp [h1, h2]
      obtain ⟨R, hR⟩ : ∃ R, R = nmB s := ⟨_, rfl⟩
      have HRR : Hid (R = nmB s) := hR
      rw [← hR]
      clear hR
      go_enter Tryd.func35, Tryd.ntmps35
      go_wp2
      go_loopw [3] (fun i wr => ∃ k : Nat, k ≤ s.size ∧ i = .int .i64 k ∧ (s.data.toList.take k).all ltB = true ∧ wr = w) (fun i _ => s.size - (intOf i).toNat)
      case atStart => exact ⟨0, by omega, rfl, by simp, rfl⟩
      case round =>
        obtain ⟨k, hk, rfl, hall, rfl⟩ := hrel
        have HALL : Hid ((s.data.toList.take k).all ltB = true) := hall
        clear hall
        by_cases hlt : k < s.size
        · have HNX : Hid (ltB s[k] = true → (s.data.toList.take (k + 1)).all ltB = true) := fun hy => by
            have hk2 : k < s.data.toList.length := by simpa using hlt
            rw [List.take_succ_eq_append_getElem hk2, List.all_append, HALL.out, lt_at s k hlt]
            simp [hy]
          have HNO : Hid (ltB s[k] = false → R = false) := fun hn => by
            rw [HRR.out, HR.out]
            cases ha : s.data.toList.all ltB
            · rfl
            · have hk2 : k < s.data.toList.length := by simpa using hlt
              have := List.all_eq_true.1 ha _ (List.getElem_mem hk2)
              rw [lt_at s k hlt, hn] at this
              cases this
          by_cases g1 : s[k].toNat < 97
          · have d1 : decide ((s[k].toNat : Int) < 97) = true := by simp; omega
            have HF : Hid (R = false) := HNO.out (by unfold ltB; simp; omega)
            go_wp2
            go_ret
            exact ⟨by rw [HF.out]; rfl, rfl⟩
          · have d1 : decide ((s[k].toNat : Int) < 97) = false := by simp; omega
            by_cases g2 : 122 < s[k].toNat
            · have d2 : decide (122 < (s[k].toNat : Int)) = true := by simp; omega
              have HF : Hid (R = false) := HNO.out (by unfold ltB; simp; omega)
              go_wp2
              go_ret
              exact ⟨by rw [HF.out]; rfl, rfl⟩
            · have d2 : decide (122 < (s[k].toNat : Int)) = false := by simp; omega
              have HY : Hid ((s.data.toList.take (k + 1)).all ltB = true) := HNX.out (by unfold ltB; simp; omega)
              go_wp2
              go_roundw
              case rel => exact ⟨k + 1, by omega, by go_num, HY.out, by first | rfl | trivial⟩
              case measure => simp [intOf]; omega
        · obtain rfl : k = s.size := by omega
          have HF : Hid (R = true) := by
            show _ = _
            have h1 := HALL.out
            rw [← size_lst, List.take_length] at h1
            rw [HRR.out, HR.out, h1]
          go_wp2
          go_ret
          exact ⟨by rw [HF.out]; rfl, rfl⟩
end Go.Proofs.YtokkmnednhigmaeDoor
