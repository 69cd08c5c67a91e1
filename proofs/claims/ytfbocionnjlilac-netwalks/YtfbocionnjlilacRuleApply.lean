/- What Apply of package rule answers, called with any rule and header. -/
import Derived.Test.YtfbocionnjlilacRuleCon
namespace Go.Proofs.Ytfbocionnjlilac
open Go.RowKit
set_option linter.unusedSimpArgs false

set_option maxHeartbeats 1000000 in
theorem apply_any (p m b o s v h : Int) (w : World) :
    Calls Try.prog 38 #[.agg #[.int .i64 p, .int .i64 m, .int .i64 b, .int .i64 o, .int .i64 s, .int .i64 v], .int .i64 h] w fun e w' => e = .returned (.tuple #[.int .i64 (apR p m b o s v h), noV (apN p m b o s v h)]) ∧ Below w.heap.size w w' := by
  cases hr : ruOk p m b o s v
  · have hn := ruN_ne hr
    rw [apR_bad (by rw [apN_bad h hr]; exact hn), apN_bad h hr, no_ne hn]
    go_enter Try.func38, Try.ntmps38
    go_wp2_with fail
    refine (ruCheck_any _ _ _ _ _ _ _).mono ?_
    rintro e w1 ⟨rfl, hb1⟩
    rw [no_ne hn]
    go_wp2
    refine bodyPost_ret (v := .tuple #[.int .i64 0, .iface 66 (.int .i64 (ruN p m b o s v))]) (by simp [results, Try.results38, go_sem]) rfl ⟨rfl, ?_⟩
    exact ((Below.refl _ _).alloc (Nat.le_refl _) _).trans (hb1.mono (by simp))
  · have hn := ruN_ok hr
    cases hh : hdrB h
    · have e : apN p m b o s v h = 1 := by simp [apN, hr, hh]
      rw [apR_bad (by rw [e]; decide), e]
      clear e
      go_enter Try.func38, Try.ntmps38
      go_wp2_with fail
      refine (ruCheck_any _ _ _ _ _ _ _).mono ?_
      rintro e w1 ⟨rfl, hb1⟩
      rw [no_ok hn]
      go_wp2_with fail
      refine (isHeader_no _ _ hh).mono ?_
      rintro e w' ⟨rfl, rfl⟩
      go_wp2
      refine bodyPost_ret (v := .tuple #[.int .i64 0, .iface 66 (.int .i64 1)]) (by simp [results, Try.results38, go_sem]) rfl ⟨rfl, ?_⟩
      exact ((Below.refl _ _).alloc (Nat.le_refl _) _).trans (hb1.mono (by simp))
    · have hlt : w.heap.size < (w.alloc (Obj.cells #[Value.int IntKind.i64 p, Value.int IntKind.i64 m, Value.int IntKind.i64 b, Value.int IntKind.i64 o, Value.int IntKind.i64 s, Value.int IntKind.i64 v] 48)).heap.size := by simp
      cases ha : hasB m b h
      · have e : apN p m b o s v h = 5 := by simp [apN, hr, hh, ha]
        rw [apR_bad (by rw [e]; decide), e]
        clear e
        go_enter Try.func38, Try.ntmps38
        go_wp2_with fail
        refine (ruCheck_any _ _ _ _ _ _ _).mono ?_
        rintro e w1 ⟨rfl, hb1⟩
        rw [no_ok hn]
        obtain ⟨hc1, hf1⟩ := bcell hb1
        have hB := ((Below.refl w.heap.size w).alloc (Nat.le_refl _) (Obj.cells #[Value.int IntKind.i64 p, Value.int IntKind.i64 m, Value.int IntKind.i64 b, Value.int IntKind.i64 o, Value.int IntKind.i64 s, Value.int IntKind.i64 v] 48)).trans (hb1.mono (by simp))
        have hlt2 : w.heap.size < w1.heap.size := by have := hb1.size; omega
        clear hb1
        go_wp2_with fail
        refine (isHeader_yes _ _ hh).mono ?_
        rintro e w' ⟨rfl, rfl⟩
        go_wp2_with fail
        refine (has_any _ _ _ _).mono ?_
        rintro e w2 ⟨rfl, hb2⟩
        rw [ha]
        obtain ⟨hc2, hf2⟩ := bcell hb2
        have hB2 := hB.trans (hb2.mono (by omega))
        clear hb2 hB
        go_wp2
        refine bodyPost_ret (v := .tuple #[.int .i64 0, .iface 66 (.int .i64 5)]) (by simp [results, Try.results38, go_sem]) rfl ⟨rfl, ?_⟩
        exact hB2
      · cases ho : (o == 0)
        · have e : apN p m b o s v h = 0 := by simp [apN, hr, hh, ha, ho]
          have e2 : apR p m b o s v h = apV s v h := by simp [apR, e]
          rw [e2, e]
          clear e e2
          go_enter Try.func38, Try.ntmps38
          go_wp2_with fail
          refine (ruCheck_any _ _ _ _ _ _ _).mono ?_
          rintro e w1 ⟨rfl, hb1⟩
          rw [no_ok hn]
          obtain ⟨hc1, hf1⟩ := bcell hb1
          have hB := ((Below.refl w.heap.size w).alloc (Nat.le_refl _) (Obj.cells #[Value.int IntKind.i64 p, Value.int IntKind.i64 m, Value.int IntKind.i64 b, Value.int IntKind.i64 o, Value.int IntKind.i64 s, Value.int IntKind.i64 v] 48)).trans (hb1.mono (by simp))
          have hlt2 : w.heap.size < w1.heap.size := by have := hb1.size; omega
          clear hb1
          go_wp2_with fail
          refine (isHeader_yes _ _ hh).mono ?_
          rintro e w' ⟨rfl, rfl⟩
          go_wp2_with fail
          refine (has_any _ _ _ _).mono ?_
          rintro e w2 ⟨rfl, hb2⟩
          rw [ha]
          obtain ⟨hc2, hf2⟩ := bcell hb2
          have hB2 := hB.trans (hb2.mono (by omega))
          clear hb2 hB
          go_wp2
          refine bodyPost_ret (v := .tuple #[.int .i64 (apV s v h), .nilIface]) (by simp [results, Try.results38, go_sem, apV]) rfl ⟨rfl, ?_⟩
          exact hB2
        · have e : apN p m b o s v h = 5 := by simp [apN, hr, hh, ha, ho]
          rw [apR_bad (by rw [e]; decide), e]
          clear e
          go_enter Try.func38, Try.ntmps38
          go_wp2_with fail
          refine (ruCheck_any _ _ _ _ _ _ _).mono ?_
          rintro e w1 ⟨rfl, hb1⟩
          rw [no_ok hn]
          obtain ⟨hc1, hf1⟩ := bcell hb1
          have hB := ((Below.refl w.heap.size w).alloc (Nat.le_refl _) (Obj.cells #[Value.int IntKind.i64 p, Value.int IntKind.i64 m, Value.int IntKind.i64 b, Value.int IntKind.i64 o, Value.int IntKind.i64 s, Value.int IntKind.i64 v] 48)).trans (hb1.mono (by simp))
          have hlt2 : w.heap.size < w1.heap.size := by have := hb1.size; omega
          clear hb1
          go_wp2_with fail
          refine (isHeader_yes _ _ hh).mono ?_
          rintro e w' ⟨rfl, rfl⟩
          go_wp2_with fail
          refine (has_any _ _ _ _).mono ?_
          rintro e w2 ⟨rfl, hb2⟩
          rw [ha]
          obtain ⟨hc2, hf2⟩ := bcell hb2
          have hB2 := hB.trans (hb2.mono (by omega))
          clear hb2 hB
          go_wp2
          refine bodyPost_ret (v := .tuple #[.int .i64 0, .iface 66 (.int .i64 5)]) (by simp [results, Try.results38, go_sem]) rfl ⟨rfl, ?_⟩
          exact hB2
end Go.Proofs.Ytfbocionnjlilac
