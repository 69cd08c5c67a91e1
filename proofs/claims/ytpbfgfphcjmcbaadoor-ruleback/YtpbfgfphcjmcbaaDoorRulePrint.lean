/- What Print of package rule answers, called with any rule. -/
import Derived.Test.YtpbfgfphcjmcbaaDoorRuleCon
import Derived.Test.YtpbfgfphcjmcbaaDoorRuleItoa
import Derived.Test.YtpbfgfphcjmcbaaDoorCubePrint
namespace Go.Proofs.YtpbfgfphcjmcbaaDoor
open Go.RowKit
set_option linter.unusedSimpArgs false

/-- A rule as text. -/
def rsH (p m b : Int) : ByteArray := dgS p ++ ⟨#[32]⟩ ++ prS m b
def rsO (p m b o : Int) : ByteArray := rsH p m b ++ (⟨#[32, 111, 117, 116, 32]⟩ ++ dgS o)
def rsS (p m b o s v : Int) : ByteArray :=
  if o = 0 then rsH p m b ++ ⟨#[32, 100, 114, 111, 112]⟩ else if s = 0 then rsO p m b o else rsO p m b o ++ (⟨#[32, 115, 101, 116, 32]⟩ ++ prS s v)

theorem dg_size (p : Int) : (dgS p).size ≤ 2 := by
  unfold dgS
  split
  · exact Nat.le_succ 1
  · exact Nat.le_refl 2
theorem pr_size (m b : Int) : (prS m b).size = 4 := rfl
theorem set_ok {p o s v : Int} (h1 : ruIn p o s v = true) (h2 : ruSet o s v = true) : okB s v = true := by
  simp only [ruIn, Bool.and_eq_true] at h1
  simp only [ruSet, Bool.and_eq_true] at h2
  simp [okB, h1.2, h2.1]

theorem cells6 {w w1 : World} {p m b o s v : Int} (hb : Below (w.alloc (Obj.cells #[Value.int IntKind.i64 p, Value.int IntKind.i64 m, Value.int IntKind.i64 b, Value.int IntKind.i64 o, Value.int IntKind.i64 s, Value.int IntKind.i64 v] 25)).heap.size (w.alloc (Obj.cells #[Value.int IntKind.i64 p, Value.int IntKind.i64 m, Value.int IntKind.i64 b, Value.int IntKind.i64 o, Value.int IntKind.i64 s, Value.int IntKind.i64 v] 25)) w1) :
    (w1.cell? ⟨w.heap.size, 0, none⟩ = some (.int .i64 p) ∧ w1.cell? ⟨w.heap.size, 1, none⟩ = some (.int .i64 m) ∧ w1.cell? ⟨w.heap.size, 2, none⟩ = some (.int .i64 b) ∧ w1.cell? ⟨w.heap.size, 3, none⟩ = some (.int .i64 o) ∧ w1.cell? ⟨w.heap.size, 4, none⟩ = some (.int .i64 s) ∧ w1.cell? ⟨w.heap.size, 5, none⟩ = some (.int .i64 v)) ∧ w.heap.size < w1.heap.size := by
  have hs := hb.size
  simp at hs
  refine ⟨⟨?_, ?_, ?_, ?_, ?_, ?_⟩, by omega⟩ <;> (rw [hb.cell (p := ⟨w.heap.size, _, none⟩) (by simp)]; simp)

theorem below_one {w w1 : World} {o : Obj} (hb : Below (w.alloc o).heap.size (w.alloc o) w1) : Below w.heap.size w w1 :=
  ((Below.refl _ _).alloc (Nat.le_refl _) _).trans (hb.mono (by simp))

set_option maxHeartbeats 1000000 in
theorem ruPrint_bad (p m b o s v : Int) (w : World) (h : ruOk p m b o s v = false) :
    Calls Tryd.prog 5 #[.agg #[.int .i64 p, .int .i64 m, .int .i64 b, .int .i64 o, .int .i64 s, .int .i64 v]] w fun e w' => e = .returned (.tuple #[.string ⟨#[]⟩, .iface 40 (.int .i64 (ruN p m b o s v))]) ∧ Below w.heap.size w w' := by
  have hn := ruN_ne h
  go_enter Tryd.func5, Tryd.ntmps5
  go_wp2_with fail
  refine (ruCheck_any _ _ _ _ _ _ _).mono ?_
  rintro e w1 ⟨rfl, hb1⟩
  rw [no_ne hn]
  go_wp2
  refine bodyPost_ret (v := .tuple #[.string ⟨#[]⟩, .iface 40 (.int .i64 (ruN p m b o s v))]) (by simp [results, Tryd.results5, go_sem]) rfl ⟨rfl, ?_⟩
  exact ((Below.refl _ _).alloc (Nat.le_refl _) _).trans (hb1.mono (by simp))

set_option maxHeartbeats 1000000 in
theorem ruPrint_ok (p m b o s v : Int) (w : World) (h : ruOk p m b o s v = true) :
    Calls Tryd.prog 5 #[.agg #[.int .i64 p, .int .i64 m, .int .i64 b, .int .i64 o, .int .i64 s, .int .i64 v]] w fun e w' => e = .returned (.tuple #[.string (rsS p m b o s v), .nilIface]) ∧ Below w.heap.size w w' := by
  have hn := ruN_ok h
  obtain ⟨g1, g2, g3⟩ := ru_ok h
  have g4 := set_ok g1 g3
  obtain ⟨⟨⟨p0, p1⟩, ⟨o0, o1⟩⟩, _⟩ := ru_in g1
  have d1 := dg_size p
  have d2 := dg_size o
  have d3 := pr_size m b
  have d4 := pr_size s v
  by_cases ho : o = 0
  · have e : rsS p m b o s v = rsH p m b ++ ⟨#[32, 100, 114, 111, 112]⟩ := by simp [rsS, ho]
    rw [e]
    clear e h g1 g3
    have ho2 : (o == 0) = true := by simpa using ho
    clear ho
    go_enter Tryd.func5, Tryd.ntmps5
    go_wp2_with fail
    refine (ruCheck_any _ _ _ _ _ _ _).mono ?_
    rintro e w1 ⟨rfl, hb1⟩
    rw [no_ok hn]
    obtain ⟨⟨q0, q1, q2, q3, q4, q5⟩, lt1⟩ := cells6 hb1
    have hB := below_one hb1
    clear hb1
    go_wp2_with fail
    refine (print_ok _ _ _ g2).mono ?_
    rintro e w2 ⟨rfl, hb2⟩
    have r0 := cell_later hb2 q0
    have r3 := cell_later hb2 q3
    have hB2 := hB.trans (hb2.mono hB.size)
    have lt2 := Nat.lt_of_lt_of_le lt1 hb2.size
    clear hb2 q0 q1 q2 q3 q4 q5 hB
    go_wp2_with fail
    refine (itoa_any _ _ p0 (by omega)).mono ?_
    rintro e w' ⟨rfl, rfl⟩
    go_wp2
    refine bodyPost_ret (v := .tuple #[.string (rsH p m b ++ ⟨#[32, 100, 114, 111, 112]⟩), .nilIface]) (by simp [results, Tryd.results5, go_sem, rsH]) rfl ⟨rfl, ?_⟩
    exact hB2
  · have ho2 : (o == 0) = false := by simpa using ho
    by_cases hz : s = 0
    · have e : rsS p m b o s v = rsO p m b o := by simp [rsS, ho, hz]
      rw [e]
      have hz2 : (s == 0) = true := by simpa using hz
      have hz3 : (s != 0) = false := by simpa using hz
      clear e h g1 g3 ho hz
      go_enter Tryd.func5, Tryd.ntmps5
      go_wp2_with fail
      refine (ruCheck_any _ _ _ _ _ _ _).mono ?_
      rintro e w1 ⟨rfl, hb1⟩
      rw [no_ok hn]
      obtain ⟨⟨q0, q1, q2, q3, q4, q5⟩, lt1⟩ := cells6 hb1
      have hB := below_one hb1
      clear hb1
      go_wp2_with fail
      refine (print_ok _ _ _ g2).mono ?_
      rintro e w2 ⟨rfl, hb2⟩
      have r0 := cell_later hb2 q0
      have r3 := cell_later hb2 q3
      have r4 := cell_later hb2 q4
      have hB2 := hB.trans (hb2.mono hB.size)
      have lt2 := Nat.lt_of_lt_of_le lt1 hb2.size
      clear hb2 q0 q1 q2 q3 q4 q5 hB
      go_wp2_with fail
      refine (itoa_any _ _ p0 (by omega)).mono ?_
      rintro e w' ⟨rfl, rfl⟩
      go_wp2_with fail
      refine (itoa_any _ _ o0 (by omega)).mono ?_
      rintro e w' ⟨rfl, rfl⟩
      go_wp2
      refine bodyPost_ret (v := .tuple #[.string (rsO p m b o), .nilIface]) (by simp [results, Tryd.results5, go_sem, rsH, rsO]) rfl ⟨rfl, ?_⟩
      exact hB2
    · have e : rsS p m b o s v = rsO p m b o ++ (⟨#[32, 115, 101, 116, 32]⟩ ++ prS s v) := by simp [rsS, ho, hz]
      rw [e]
      have hz2 : (s == 0) = false := by simpa using hz
      have hz3 : (s != 0) = true := by simpa using hz
      clear e h g1 g3 ho hz
      go_enter Tryd.func5, Tryd.ntmps5
      go_wp2_with fail
      refine (ruCheck_any _ _ _ _ _ _ _).mono ?_
      rintro e w1 ⟨rfl, hb1⟩
      rw [no_ok hn]
      obtain ⟨⟨q0, q1, q2, q3, q4, q5⟩, lt1⟩ := cells6 hb1
      have hB := below_one hb1
      clear hb1
      go_wp2_with fail
      refine (print_ok _ _ _ g2).mono ?_
      rintro e w2 ⟨rfl, hb2⟩
      have r0 := cell_later hb2 q0
      have r3 := cell_later hb2 q3
      have r4 := cell_later hb2 q4
      have r5 := cell_later hb2 q5
      have hB2 := hB.trans (hb2.mono hB.size)
      have lt2 := Nat.lt_of_lt_of_le lt1 hb2.size
      clear hb2 q0 q1 q2 q3 q4 q5 hB
      go_wp2_with fail
      refine (itoa_any _ _ p0 (by omega)).mono ?_
      rintro e w' ⟨rfl, rfl⟩
      go_wp2_with fail
      refine (itoa_any _ _ o0 (by omega)).mono ?_
      rintro e w' ⟨rfl, rfl⟩
      go_wp2_with fail
      refine (print_ok _ _ _ g4).mono ?_
      rintro e w3 ⟨rfl, hb3⟩
      have hB3 := hB2.trans (hb3.mono hB2.size)
      clear hb3 hB2
      go_wp2
      refine bodyPost_ret (v := .tuple #[.string (rsO p m b o ++ (⟨#[32, 115, 101, 116, 32]⟩ ++ prS s v)), .nilIface]) (by simp [results, Tryd.results5, go_sem, rsH, rsO]) rfl ⟨rfl, ?_⟩
      exact hB3
end Go.Proofs.YtpbfgfphcjmcbaaDoor
