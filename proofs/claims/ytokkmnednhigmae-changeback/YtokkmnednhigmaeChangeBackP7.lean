/- Contracts and facts on the way to ChangeBack, joined into one text: TableDiff2, RuleTwo, TableSame, SmNet, ChangeMath, ChangeBox. -/
import Derived.Test.YtokkmnednhigmaeChangeBackP6
import Derived.Test.YtokkmnednhigmaeChangeBackP1
import Derived.Test.YtokkmnednhigmaeChangeBackP5
import Derived.Test.YtokkmnednhigmaeChangeBackP2
import Derived.Test.YtokkmnednhigmaeChangeBackP3
/- What table.Diff answers. -/
namespace Go.Proofs.Ytokkmnednhigmae
open Go.RowKit
set_option linter.unusedSimpArgs false
set_option linter.unusedVariables false

theorem bey_le (A B : List Ru) : (bey A B).length ≤ A.length := List.length_filter_le _ _
theorem taken_next {D : List Ru} {k : Nat} (hk : k < D.length) : taken (D.take (k + 1)) = taken (D.take k) ++ [⟨0, false, D[k]⟩] := by
  rw [List.take_succ_eq_append_getElem hk]
  simp only [taken, List.map_append, List.map_cons, List.map_nil]
theorem added_next {D : List Ru} {k : Nat} (hk : k < D.length) (C : List Op8) : C ++ added (D.take (k + 1)) = (C ++ added (D.take k)) ++ [⟨0, true, D[k]⟩] := by
  rw [List.take_succ_eq_append_getElem hk]
  simp only [added, List.map_append, List.map_cons, List.map_nil, List.append_assoc]
theorem taken_len (D : List Ru) : (taken D).length = D.length := by simp [taken]
theorem added_len (D : List Ru) : (added D).length = D.length := by simp [added]

set_option maxHeartbeats 10000000 in
set_option maxRecDepth 100000 in
theorem diff_own (ao : Option Addr) (n cap : Nat) (ao2 : Option Addr) (n2 cap2 : Nat) (L M : List Ru) (w : World) (hs : SR w (.slice ao n cap) L) (ht : SR w (.slice ao2 n2 cap2) M) (h0 : twN L M = 0) :
    Calls Try.prog 17 #[.slice ao n cap, .slice ao2 n2 cap2] w fun e w' => ∃ u, e = .returned (.tuple #[u, .nilIface]) ∧ w'.ownsRow w.heap.size 39 8 u (taken (bey L M) ++ added (bey M L)).length (cellsO (taken (bey L M) ++ added (bey M L))) ∧ Below w.heap.size w w' := by
  have HS : Hid (SR w (.slice ao n cap) L) := hs
  have HT : Hid (SR w (.slice ao2 n2 cap2) M) := ht
  have H0 : Hid (twN L M = 0) := h0
  have HL : Hid (L.length ≤ 12 ∧ M.length ≤ 12) := ⟨(tb_iff.1 (tw_two h0).1).1, (tb_iff.1 (tw_two h0).2).1⟩
  clear hs ht h0
  go_enter Try.func17, Try.ntmps17
  go_wp2_with fail
  refine (check_any2 _ _ L M _ HS.out HT.out).mono ?_
  rintro e w1 ⟨rfl, hb1⟩
  rw [no_ok H0.out]
  have HS1 : Hid (SR w1 (.slice ao n cap) L) := HS.out.later hb1
  have HT1 : Hid (SR w1 (.slice ao2 n2 cap2) M) := HT.out.later hb1
  have HB1 : Hid (Below w.heap.size w w1) := hb1
  clear hb1
  go_wp2_with fail
  refine (beyond_any _ _ _ _ _ _ L M _ HS1.out HT1.out (by have := HL.out; omega)).mono ?_
  rintro e w2 ⟨ao3, n3, cap3, rfl, hn3, hown, hb2⟩
  have HD0 : Hid ((bey L M).length ≤ 12) := Nat.le_trans (bey_le L M) HL.out.1
  obtain ⟨D, hD⟩ : ∃ D, D = bey L M := ⟨_, rfl⟩
  rw [← hD] at hn3 hown HD0
  have HD : Hid (D = bey L M) := hD
  have HN3 : Hid (D.length = n3) := hn3.symm
  have hn12 : n3 ≤ 12 := by have := HD0.out; omega
  have HR : Hid (w2.ownsRow w.heap.size 37 6 (.slice ao3 n3 cap3) D.length (cellsR D)) := own_mono hown HB1.out.size
  have HB2 : Hid (Below w.heap.size w w2) := HB1.out.trans (hb2.mono HB1.out.size)
  clear hn3 hown hb2 hD HS1 HT1 HB1
  go_upto_block 0 with fail
  go_cut [7] from 6 (fun u w' => w'.ownsRow w.heap.size 39 8 u (taken (bey L M)).length (cellsO (taken (bey L M))) ∧ Below w.heap.size w w')
  case first =>
    go_wp2
    go_loopw [7, 22] (fun u i wr => ∃ k : Nat, k ≤ n3 ∧ i = .int .i64 k ∧ wr.ownsRow w.heap.size 39 8 u (taken (D.take k)).length (cellsO (taken (D.take k))) ∧ wr.ownsRow w.heap.size 37 6 (.slice ao3 n3 cap3) D.length (cellsR D) ∧ Below w.heap.size w wr) (fun _ i _ => n3 - (intOf i).toNat)
    case atStart => exact ⟨0, by omega, rfl, World.ownsRow_nil _ _ _ _, HR.out, HB2.out⟩
    case round =>
      obtain ⟨k, hk, rfl, hop, hru, hB⟩ := hrel
      have HOP : Hid (wr.ownsRow w.heap.size 39 8 u7 (taken (D.take k)).length (cellsO (taken (D.take k)))) := hop
      have HRU : Hid (wr.ownsRow w.heap.size 37 6 (.slice ao3 n3 cap3) D.length (cellsR D)) := hru
      have HB : Hid (Below w.heap.size w wr) := hB
      clear hop hB HR HB2
      by_cases hlt : k < n3
      · obtain ⟨ao', n', cap', e, _, _, _, ha⟩ := (own_SR hru).form
        cases e
        obtain ⟨g, og, rfl, hRA, _⟩ := ha (by omega)
        obtain ⟨p, m, b, q, s, v, hkl, hLk, q0, q1, q2, q3, q4, q5⟩ := hRA.at HN3.out hlt
        have HT2 : Hid (taken (D.take (k + 1)) = taken (D.take k) ++ [⟨0, false, ⟨p, m, b, q, s, v⟩⟩]) := by
          show _ = _
          rw [taken_next hkl, hLk]
        have HK : Hid ((taken (D.take k)).length ≤ 1000) := by
          show _ ≤ 1000
          rw [taken_len, List.length_take]
          omega
        have hBA := (Below.refl wr.heap.size wr).alloc (Nat.le_refl _) (Obj.cells #[Value.int IntKind.i64 p, Value.int IntKind.i64 m, Value.int IntKind.i64 b, Value.int IntKind.i64 q, Value.int IntKind.i64 s, Value.int IntKind.i64 v] 37)
        have hBB := hBA.alloc (by simp) (Obj.cells #[Value.int IntKind.i64 0, Value.bool false, Value.int IntKind.i64 p, Value.int IntKind.i64 m, Value.int IntKind.i64 b, Value.int IntKind.i64 q, Value.int IntKind.i64 s, Value.int IntKind.i64 v] 39)
        have HBB := hBB
        have HC8 := C8.new (wr.alloc (Obj.cells #[Value.int IntKind.i64 p, Value.int IntKind.i64 m, Value.int IntKind.i64 b, Value.int IntKind.i64 q, Value.int IntKind.i64 s, Value.int IntKind.i64 v] 37)) 0 false p m b q s v 39
        simp only [World.size_alloc] at HC8
        clear hRA hLk ha hBA hru
        go_wp2_with (at_builtin; refine wpList_append_op _ rfl _ _ 29 rfl Try.underlying29 w.heap.size _ rfl _ (own_below HOP.out hBB) _ rfl _ HC8 HK.out (HB.out.trans (hBB.mono HB.out.size)).size ?_)
        intro v' w3 hown3 hgrow
        have hO3 := own_below HOP.out hBB
        have HR3 : Hid (w3.ownsRow w.heap.size 37 6 (.slice (some ⟨g, og, none⟩) n3 cap3) D.length (cellsR D)) := (own_below HRU.out hBB).kept hgrow (own_apart (own_below HRU.out hBB) hO3 (by decide))
        have HB3 : Hid (Below w.heap.size w w3) := (HB.out.trans (hBB.mono HB.out.size)).grown hgrow (HB.out.trans (hBB.mono HB.out.size)).size (fun g hg => (hO3.lt g hg).1)
        have HO3 : Hid (w3.ownsRow w.heap.size 39 8 v' (taken (D.take (k + 1))).length (cellsO (taken (D.take (k + 1))))) := by
          show World.ownsRow _ _ _ _ _ _ _
          rw [HT2.out, List.length_append]
          exact hown3
        clear hown3 hgrow hO3 hBB HBB HC8 q0 q1 q2 q3 q4 q5
        go_wp2
        go_roundw
        case rel => exact ⟨k + 1, by omega, by go_num, HO3.out, HR3.out, HB3.out⟩
        case measure => simp [intOf]; omega
      · obtain rfl : k = n3 := by omega
        go_wp2_with fail
        go_meet
        case rel =>
          refine ⟨?_, HB.out⟩
          have h1 := HOP.out
          rw [← HN3.out, List.take_length, HD.out] at h1
          exact h1
  case rest =>
    obtain ⟨hop, hB⟩ := hcut
    obtain ⟨C, hC⟩ : ∃ C, C = taken (bey L M) := ⟨_, rfl⟩
    have HC : Hid (C = taken (bey L M)) := hC
    have HCL : Hid (C.length ≤ 12) := by
      show C.length ≤ 12
      rw [hC, taken_len]
      exact Nat.le_trans (bey_le L M) HL.out.1
    rw [← hC] at hop
    have HOC : Hid (wc.ownsRow w.heap.size 39 8 u7 C.length (cellsO C)) := hop
    have HBC : Hid (Below w.heap.size w wc) := hB
    have HS1 : Hid (SR wc (.slice ao n cap) L) := HS.out.later hB
    have HT1 : Hid (SR wc (.slice ao2 n2 cap2) M) := HT.out.later hB
    clear hop hB hC HR HB2 HN3 HD HD0 hn12
    clear D
    go_wp2_with fail
    refine (beyond_any _ _ _ _ _ _ M L _ HT1.out HS1.out (by have := HL.out; omega)).mono ?_
    rintro e w2 ⟨ao3, n3, cap3, rfl, hn3, hown, hb2⟩
    have HD0 : Hid ((bey M L).length ≤ 12) := Nat.le_trans (bey_le M L) HL.out.2
    obtain ⟨D, hD⟩ : ∃ D, D = bey M L := ⟨_, rfl⟩
    rw [← hD] at hn3 hown HD0
    have HD : Hid (D = bey M L) := hD
    have HN3 : Hid (D.length = n3) := hn3.symm
    have hn12 : n3 ≤ 12 := by have := HD0.out; omega
    have HR : Hid (w2.ownsRow w.heap.size 37 6 (.slice ao3 n3 cap3) D.length (cellsR D)) := own_mono hown HBC.out.size
    have HOC2 : Hid (w2.ownsRow w.heap.size 39 8 u7 C.length (cellsO C)) := own_below HOC.out hb2
    have HB2 : Hid (Below w.heap.size w w2) := HBC.out.trans (hb2.mono HBC.out.size)
    clear hn3 hown hb2 hD HS1 HT1
    go_wp2
    go_loopw [7, 36] (fun u i wr => ∃ k : Nat, k ≤ n3 ∧ i = .int .i64 k ∧ wr.ownsRow w.heap.size 39 8 u (C ++ added (D.take k)).length (cellsO (C ++ added (D.take k))) ∧ wr.ownsRow w.heap.size 37 6 (.slice ao3 n3 cap3) D.length (cellsR D) ∧ Below w.heap.size w wr) (fun _ i _ => n3 - (intOf i).toNat)
    case atStart => exact ⟨0, by omega, rfl, by have := HOC2.out; simpa [added] using this, HR.out, HB2.out⟩
    case round =>
      obtain ⟨k, hk, rfl, hop, hru, hB⟩ := hrel
      have HOP : Hid (wr.ownsRow w.heap.size 39 8 u7 (C ++ added (D.take k)).length (cellsO (C ++ added (D.take k)))) := hop
      have HRU : Hid (wr.ownsRow w.heap.size 37 6 (.slice ao3 n3 cap3) D.length (cellsR D)) := hru
      have HB : Hid (Below w.heap.size w wr) := hB
      clear hop hB HR HB2 HOC2
      by_cases hlt : k < n3
      · obtain ⟨ao', n', cap', e, _, _, _, ha⟩ := (own_SR hru).form
        cases e
        obtain ⟨g, og, rfl, hRA, _⟩ := ha (by omega)
        obtain ⟨p, m, b, q, s, v, hkl, hLk, q0, q1, q2, q3, q4, q5⟩ := hRA.at HN3.out hlt
        have HT2 : Hid (C ++ added (D.take (k + 1)) = C ++ added (D.take k) ++ [⟨0, true, ⟨p, m, b, q, s, v⟩⟩]) := by
          show _ = _
          rw [added_next hkl, hLk]
        have HK : Hid ((C ++ added (D.take k)).length ≤ 1000) := by
          show _ ≤ 1000
          rw [List.length_append, added_len, List.length_take]
          have := HCL.out
          omega
        have hBA := (Below.refl wr.heap.size wr).alloc (Nat.le_refl _) (Obj.cells #[Value.int IntKind.i64 p, Value.int IntKind.i64 m, Value.int IntKind.i64 b, Value.int IntKind.i64 q, Value.int IntKind.i64 s, Value.int IntKind.i64 v] 37)
        have hBB := hBA.alloc (by simp) (Obj.cells #[Value.int IntKind.i64 0, Value.bool true, Value.int IntKind.i64 p, Value.int IntKind.i64 m, Value.int IntKind.i64 b, Value.int IntKind.i64 q, Value.int IntKind.i64 s, Value.int IntKind.i64 v] 39)
        have HBB := hBB
        have HC8 := C8.new (wr.alloc (Obj.cells #[Value.int IntKind.i64 p, Value.int IntKind.i64 m, Value.int IntKind.i64 b, Value.int IntKind.i64 q, Value.int IntKind.i64 s, Value.int IntKind.i64 v] 37)) 0 true p m b q s v 39
        simp only [World.size_alloc] at HC8
        clear hRA hLk ha hBA hru
        go_wp2_with (at_builtin; refine wpList_append_op _ rfl _ _ 29 rfl Try.underlying29 w.heap.size _ rfl _ (own_below HOP.out hBB) _ rfl _ HC8 HK.out (HB.out.trans (hBB.mono HB.out.size)).size ?_)
        intro v' w3 hown3 hgrow
        have hO3 := own_below HOP.out hBB
        have HR3 : Hid (w3.ownsRow w.heap.size 37 6 (.slice (some ⟨g, og, none⟩) n3 cap3) D.length (cellsR D)) := (own_below HRU.out hBB).kept hgrow (own_apart (own_below HRU.out hBB) hO3 (by decide))
        have HB3 : Hid (Below w.heap.size w w3) := (HB.out.trans (hBB.mono HB.out.size)).grown hgrow (HB.out.trans (hBB.mono HB.out.size)).size (fun g hg => (hO3.lt g hg).1)
        have HO3 : Hid (w3.ownsRow w.heap.size 39 8 v' (C ++ added (D.take (k + 1))).length (cellsO (C ++ added (D.take (k + 1))))) := by
          show World.ownsRow _ _ _ _ _ _ _
          rw [HT2.out, List.append_assoc, List.length_append, List.length_append]
          exact hown3
        clear hown3 hgrow hO3 hBB HBB HC8 q0 q1 q2 q3 q4 q5
        go_wp2
        go_roundw
        case rel => exact ⟨k + 1, by omega, by go_num, HO3.out, HR3.out, HB3.out⟩
        case measure => simp [intOf]; omega
      · obtain rfl : k = n3 := by omega
        have HFI : Hid (wr.ownsRow w.heap.size 39 8 u7 (taken (bey L M) ++ added (bey M L)).length (cellsO (taken (bey L M) ++ added (bey M L)))) := by
          have h1 := HOP.out
          rw [← HN3.out, List.take_length, HD.out, HC.out] at h1
          exact h1
        go_wp2
        refine bodyPost_ret (v := .tuple #[u7, .nilIface]) (by simp [results, Try.results17, go_sem]) rfl ⟨_, rfl, HFI.out, HB.out⟩

theorem diff_ok (ao : Option Addr) (n cap : Nat) (ao2 : Option Addr) (n2 cap2 : Nat) (L M : List Ru) (w : World) (hs : SR w (.slice ao n cap) L) (ht : SR w (.slice ao2 n2 cap2) M) (h0 : twN L M = 0) :
    Calls Try.prog 17 #[.slice ao n cap, .slice ao2 n2 cap2] w fun e w' => ∃ u, e = .returned (.tuple #[u, .nilIface]) ∧ SO w' u (taken (bey L M) ++ added (bey M L)) ∧ Below w.heap.size w w' :=
  (diff_own ao n cap ao2 n2 cap2 L M w hs ht h0).mono fun _ _ ⟨u, h1, h2, h3⟩ => ⟨u, h1, own_SO h2, h3⟩
set_option maxHeartbeats 1000000 in
set_option maxRecDepth 100000 in
theorem diff_any (ao : Option Addr) (n cap : Nat) (ao2 : Option Addr) (n2 cap2 : Nat) (L M : List Ru) (w : World) (hs : SR w (.slice ao n cap) L) (ht : SR w (.slice ao2 n2 cap2) M) :
    Calls Try.prog 17 #[.slice ao n cap, .slice ao2 n2 cap2] w fun e w' => ∃ u, e = .returned (.tuple #[u, noV (twN L M)]) ∧ SO w' u (dfL L M) ∧ Below w.heap.size w w' := by
  by_cases h1 : twN L M = 0
  · rw [no_ok h1, df_ok h1]
    exact diff_ok ao n cap ao2 n2 cap2 L M w hs ht h1
  · rw [no_ne h1, df_ne h1]
    have HS : Hid (SR w (.slice ao n cap) L) := hs
    have HT : Hid (SR w (.slice ao2 n2 cap2) M) := ht
    have H1 : Hid (twN L M ≠ 0) := h1
    clear hs ht h1
    go_enter Try.func17, Try.ntmps17
    go_wp2_with fail
    refine (check_any2 _ _ L M _ HS.out HT.out).mono ?_
    rintro e w1 ⟨rfl, hb1⟩
    rw [no_ne H1.out]
    have HB1 : Hid (Below w.heap.size w w1) := hb1
    clear hb1
    go_wp2
    refine bodyPost_ret (v := .tuple #[.slice none 0 0, .iface 52 (.int .i64 (twN L M))]) (by simp [results, Try.results17, go_sem]) rfl ⟨_, rfl, SO.nil _, HB1.out⟩

theorem al_step {L : List Ru} {O : List Op8} {k : Nat} (hk : k < O.length) : alN L (O.drop k) = (if doN L (O[k]).a (O[k]).r = 0 then alN (doL L (O[k]).a (O[k]).r) (O.drop (k + 1)) else doN L (O[k]).a (O[k]).r) ∧ alL L (O.drop k) = (if doN L (O[k]).a (O[k]).r = 0 then alL (doL L (O[k]).a (O[k]).r) (O.drop (k + 1)) else []) := by
  rw [List.drop_eq_getElem_cons hk, alN, alL]
  exact ⟨rfl, rfl⟩

end Go.Proofs.Ytokkmnednhigmae
/- Two rules at two addresses: a class of worlds. -/
namespace Go.Proofs.Ytokkmnednhigmae
open Go.RowKit

/-- Two rules at two addresses. -/
def CD (w : World) (g o : Nat) (p m b q s v : Int) (g' o' : Nat) (p' m' b' q' s' v' : Int) (w' : World) : Prop :=
  Below w.heap.size w w' ∧ (w'.cell? ⟨g, o, none⟩ = some (.int .i64 p) ∧ w'.cell? ⟨g, o + 1, none⟩ = some (.int .i64 m) ∧ w'.cell? ⟨g, o + 2, none⟩ = some (.int .i64 b) ∧
    w'.cell? ⟨g, o + 3, none⟩ = some (.int .i64 q) ∧ w'.cell? ⟨g, o + 4, none⟩ = some (.int .i64 s) ∧ w'.cell? ⟨g, o + 5, none⟩ = some (.int .i64 v)) ∧
  w'.cell? ⟨g', o', none⟩ = some (.int .i64 p') ∧ w'.cell? ⟨g', o' + 1, none⟩ = some (.int .i64 m') ∧ w'.cell? ⟨g', o' + 2, none⟩ = some (.int .i64 b') ∧
    w'.cell? ⟨g', o' + 3, none⟩ = some (.int .i64 q') ∧ w'.cell? ⟨g', o' + 4, none⟩ = some (.int .i64 s') ∧ w'.cell? ⟨g', o' + 5, none⟩ = some (.int .i64 v')
theorem CD.later {w W W' : World} {g o : Nat} {p m b q s v : Int} {g' o' : Nat} {p' m' b' q' s' v' : Int} (hb : Below W.heap.size W W') (h : CD w g o p m b q s v g' o' p' m' b' q' s' v' W) : CD w g o p m b q s v g' o' p' m' b' q' s' v' W' := by
  obtain ⟨h0, ⟨h1, h2, h3, h4, h5, h6⟩, k1, k2, k3, k4, k5, k6⟩ := h
  exact ⟨h0.trans (hb.mono h0.size), ⟨cell_later hb h1, cell_later hb h2, cell_later hb h3, cell_later hb h4, cell_later hb h5, cell_later hb h6⟩, cell_later hb k1, cell_later hb k2, cell_later hb k3, cell_later hb k4, cell_later hb k5, cell_later hb k6⟩

end Go.Proofs.Ytokkmnednhigmae
/- What railsame.Table answers at two tables that are the same. -/
namespace Go.Proofs.Ytokkmnednhigmae
open Go.RowKit
set_option linter.unusedSimpArgs false
set_option linter.unusedVariables false

set_option maxHeartbeats 2000000 in
set_option maxRecDepth 100000 in
theorem tabs_any (ao : Option Addr) (n cap : Nat) (ao2 : Option Addr) (n2 cap2 : Nat) (L : List Ru) (w : World) (hs : SR w (.slice ao n cap) L) (ht : SR w (.slice ao2 n2 cap2) L) :
    Calls Try.prog 22 #[.slice ao n cap, .slice ao2 n2 cap2] w fun e w' => e = .returned (.bool true) ∧ Below w.heap.size w w' := by
  obtain ⟨ao', n', cap', e, hn, hn2, hn3, ha⟩ := hs.form
  cases e
  obtain ⟨ao', n', cap', e, hm, hm2, hm3, hb⟩ := ht.form
  cases e
  obtain rfl : n = n2 := by omega
  have HN : Hid (L.length = n) := hn
  have HA : Hid (0 < n → ∃ g o, ao = some ⟨g, o, none⟩ ∧ RAt w g o L ∧ cap ≤ maxLen) := ha
  have HA2 : Hid (0 < n → ∃ g o, ao2 = some ⟨g, o, none⟩ ∧ RAt w g o L ∧ cap2 ≤ maxLen) := hb
  have hn63 : n ≤ 9223372036854775807 := by unfold maxLen at hn2; omega
  clear hs ht hn ha hm hb hn2 hm2
  go_enter Try.func22, Try.ntmps22
  go_wp2
  go_loopw [5] (fun i wr => ∃ k : Nat, k ≤ n ∧ i = .int .i64 k ∧ Below w.heap.size w wr) (fun i _ => n - (intOf i).toNat)
  case atStart => exact ⟨0, by omega, rfl, Below.refl _ _⟩
  case round =>
    obtain ⟨k, hk, rfl, hB⟩ := hrel
    have HB : Hid (Below w.heap.size w wr) := hB
    by_cases hlt : k < n
    · obtain ⟨g, og, hao, hc, _⟩ := HA.out (by omega)
      obtain ⟨g2, og2, hao2, hc2, _⟩ := HA2.out (by omega)
      subst hao hao2
      obtain ⟨p, m, b, q, s, v, hkl, hLk, q0, q1, q2, q3, q4, q5⟩ := (hc.later hB).at HN.out hlt
      obtain ⟨p', m', b', q', s', v', _, hLk2, r0, r1, r2, r3, r4, r5⟩ := (hc2.later hB).at HN.out hlt
      rw [hLk] at hLk2
      simp only [Ru.mk.injEq] at hLk2
      obtain ⟨rfl, rfl, rfl, rfl, rfl, rfl⟩ := hLk2
      have HCE : Hid (CD w g (og + k * 6) p m b q s v g2 (og2 + k * 6) p m b q s v wr) := ⟨hB, ⟨q0, q1, q2, q3, q4, q5⟩, r0, r1, r2, r3, r4, r5⟩
      clear q0 q1 q2 q3 q4 q5 r0 r1 r2 r3 r4 r5 hB hc hc2 hLk HA HA2
      go_upto_region 6 with fail
      have kb0 : (0 : Int) ≤ (k : Int) := by omega
      have kb1 : (k : Int) < (n : Int) := by omega
      go_cut [25] from 11 to 25 (fun c w' => c = .bool false ∧ Below w.heap.size w w')
      case first =>
        as_aux_lemma =>
          refine wp_region_quiet (C := CD w g (og + k * 6) p m b q s v g2 (og2 + k * 6) p m b q s v) (by kernel_rfl) (by kernel_rfl) (CD.later (W := wr) (Below.drew (Below.refl _ _)) HCE.out) ?_
          simp only [List.toList_toArray]
          go_big_quiet_want
          refine quiet_val (v := .slice (some ⟨g, og, none⟩) n cap) (fun w' hC => ?_) ?_
          · obtain ⟨z0, ⟨z1, z2, z3, z4, z5, z6⟩, y1, y2, y3, y4, y5, y6⟩ := hC
            go_simp
          simp only [Act.put, List.setIfInBounds_toArray, List.set_cons_zero, List.set_cons_succ]
          go_big_quiet_on
          go_big_quiet_want
          refine quiet_val (v := .int .i64 (k : Int)) (fun w' hC => ?_) ?_
          · obtain ⟨z0, ⟨z1, z2, z3, z4, z5, z6⟩, y1, y2, y3, y4, y5, y6⟩ := hC
            go_simp
          simp only [Act.put, List.setIfInBounds_toArray, List.set_cons_zero, List.set_cons_succ]
          go_big_quiet_on
          go_big_quiet_want
          refine quiet_val (v := .pointer (some ⟨g, og + k * 6, none⟩)) (fun w' hC => ?_) ?_
          · obtain ⟨z0, ⟨z1, z2, z3, z4, z5, z6⟩, y1, y2, y3, y4, y5, y6⟩ := hC
            go_simp
          simp only [Act.put, List.setIfInBounds_toArray, List.set_cons_zero, List.set_cons_succ]
          go_big_quiet_on
          go_big_quiet_want
          refine quiet_val (v := .agg #[.int .i64 p, .int .i64 m, .int .i64 b, .int .i64 q, .int .i64 s, .int .i64 v]) (fun w' hC => ?_) ?_
          · obtain ⟨z0, ⟨z1, z2, z3, z4, z5, z6⟩, y1, y2, y3, y4, y5, y6⟩ := hC
            go_simp
          simp only [Act.put, List.setIfInBounds_toArray, List.set_cons_zero, List.set_cons_succ]
          go_big_quiet_on
          go_big_quiet_want
          refine quiet_val (v := .slice (some ⟨g2, og2, none⟩) n cap2) (fun w' hC => ?_) ?_
          · obtain ⟨z0, ⟨z1, z2, z3, z4, z5, z6⟩, y1, y2, y3, y4, y5, y6⟩ := hC
            go_simp
          simp only [Act.put, List.setIfInBounds_toArray, List.set_cons_zero, List.set_cons_succ]
          go_big_quiet_on
          go_big_quiet_want
          refine quiet_val (v := .int .i64 (k : Int)) (fun w' hC => ?_) ?_
          · obtain ⟨z0, ⟨z1, z2, z3, z4, z5, z6⟩, y1, y2, y3, y4, y5, y6⟩ := hC
            go_simp
          simp only [Act.put, List.setIfInBounds_toArray, List.set_cons_zero, List.set_cons_succ]
          go_big_quiet_on
          go_big_quiet_want
          refine quiet_val (v := .pointer (some ⟨g2, og2 + k * 6, none⟩)) (fun w' hC => ?_) ?_
          · obtain ⟨z0, ⟨z1, z2, z3, z4, z5, z6⟩, y1, y2, y3, y4, y5, y6⟩ := hC
            go_simp
          simp only [Act.put, List.setIfInBounds_toArray, List.set_cons_zero, List.set_cons_succ]
          go_big_quiet_on
          go_big_quiet_want
          refine quiet_val (v := .agg #[.int .i64 p, .int .i64 m, .int .i64 b, .int .i64 q, .int .i64 s, .int .i64 v]) (fun w' hC => ?_) ?_
          · obtain ⟨z0, ⟨z1, z2, z3, z4, z5, z6⟩, y1, y2, y3, y4, y5, y6⟩ := hC
            go_simp
          simp only [Act.put, List.setIfInBounds_toArray, List.set_cons_zero, List.set_cons_succ]
          go_big_quiet_on
          go_big_quiet_want
          refine quiet_val (v := .bool false) (fun w' hC => ?_) ?_
          · obtain ⟨z0, ⟨z1, z2, z3, z4, z5, z6⟩, y1, y2, y3, y4, y5, y6⟩ := hC
            go_simp
          simp only [Act.put, List.setIfInBounds_toArray, List.set_cons_zero, List.set_cons_succ]
          go_big_quiet_on
          refine wpQuiet_nil ?_
          intro w' hC
          go_wp2_with fail
          go_meet
          case rel => exact ⟨rfl, hC.1⟩
      case rest =>
        obtain ⟨rfl, hB2⟩ := hcut
        clear HCE
        go_wp2
        go_roundw
        case rel => exact ⟨k + 1, by omega, by go_num, hB2⟩
        case measure => simp [intOf]; omega
    · obtain rfl : k = n := by omega
      go_wp2
      go_ret
      exact ⟨rfl, HB.out⟩
end Go.Proofs.Ytokkmnednhigmae
/- What railsame.Net answers of two nets that are the same. -/
namespace Go.Proofs.Ytokkmnednhigmae
open Go.RowKit
set_option linter.unusedSimpArgs false
set_option linter.unusedVariables false

/-- Two boxes of nets. -/
def NN (W : World) (B : Nat) (S : Int) (a1 a2 a3 : Value) (S' : Int) (b1 b2 b3 : Value) : Prop := NeBox W B S a1 a2 a3 ∧ NeBox W (B + 1) S' b1 b2 b3
theorem nn_new (w : World) (S : Int) (a1 a2 a3 : Value) (S' : Int) (b1 b2 b3 : Value) (t : TypeId) : NN ((w.alloc (Obj.cells #[.int .i64 S, a1, a2, a3] t)).alloc (Obj.cells #[.int .i64 S', b1, b2, b3] t)) w.heap.size S a1 a2 a3 S' b1 b2 b3 := by
  refine ⟨(nebox_new w S a1 a2 a3 t).later ((Below.refl _ _).alloc (Nat.le_refl _) _), ?_⟩
  have := nebox_new (w.alloc (Obj.cells #[.int .i64 S, a1, a2, a3] t)) S' b1 b2 b3 t
  simpa using this
theorem NN.later {W W' : World} {B : Nat} {S : Int} {a1 a2 a3 : Value} {S' : Int} {b1 b2 b3 : Value} (h : NN W B S a1 a2 a3 S' b1 b2 b3) (hb : Below W.heap.size W W') : NN W' B S a1 a2 a3 S' b1 b2 b3 := ⟨h.1.later hb, h.2.later hb⟩
theorem NeBox.grown {W W' : World} {g : Nat} {S : Int} {v1 v2 v3 : Value} {row : Option Nat} (h : NeBox W g S v1 v2 v3) (hg : W.grownBy W' row) (hne : some g ≠ row) : NeBox W' g S v1 v2 v3 :=
  ⟨hg.cell h.1 hne, hg.cell h.2.1 hne, hg.cell h.2.2.1 hne, hg.cell h.2.2.2 hne⟩
theorem NN.grown {W W' : World} {B : Nat} {S : Int} {a1 a2 a3 : Value} {S' : Int} {b1 b2 b3 : Value} {row : Option Nat} (h : NN W B S a1 a2 a3 S' b1 b2 b3) (hg : W.grownBy W' row) (hr : ∀ g, row = some g → B + 2 ≤ g) : NN W' B S a1 a2 a3 S' b1 b2 b3 :=
  ⟨h.1.grown hg (fun e => by have := hr _ e.symm; omega), h.2.grown hg (fun e => by have := hr _ e.symm; omega)⟩
/-- Two boxes, and a table of each. -/
def NC (wr : World) (B : Nat) (S : Int) (a1 a2 a3 : Value) (S' : Int) (b1 b2 b3 : Value) (g q : Nat) (u : Value) (f p : Nat) (v : Value) (L M : List Ru) (w' : World) : Prop :=
  Below wr.heap.size wr w' ∧ NN w' B S a1 a2 a3 S' b1 b2 b3 ∧ w'.cell? ⟨g, q, none⟩ = some u ∧ w'.cell? ⟨f, p, none⟩ = some v ∧ SR w' u L ∧ SR w' v M
theorem NC.later {wr W W' : World} {B : Nat} {S : Int} {a1 a2 a3 : Value} {S' : Int} {b1 b2 b3 : Value} {g q : Nat} {u : Value} {f p : Nat} {v : Value} {L M : List Ru} (hb : Below W.heap.size W W') (h : NC wr B S a1 a2 a3 S' b1 b2 b3 g q u f p v L M W) : NC wr B S a1 a2 a3 S' b1 b2 b3 g q u f p v L M W' :=
  ⟨h.1.trans (hb.mono h.1.size), h.2.1.later hb, cell_later hb h.2.2.1, cell_later hb h.2.2.2.1, h.2.2.2.2.1.later hb, h.2.2.2.2.2.later hb⟩
set_option maxHeartbeats 4000000 in
set_option maxRecDepth 100000 in
theorem smNet_any (S : Int) (ao : Option Addr) (n cap : Nat) (ao2 : Option Addr) (n2 cap2 : Nat) (ao3 : Option Addr) (n3 cap3 : Nat) (bo : Option Addr) (m dap : Nat) (bo2 : Option Addr) (m2 dap2 : Nat) (bo3 : Option Addr) (m3 dap3 : Nat) (Ls : List ((Int × Int) × (Int × Int))) (Hs : List (ByteArray × (Int × Int))) (Ts : List (List Ru)) (w : World)
    (hL : GS lnkE w (.slice ao n cap) Ls) (hH : GS hstE w (.slice ao2 n2 cap2) Hs) (hT : TS w (.slice ao3 n3 cap3) Ts) (hL' : GS lnkE w (.slice bo m dap) Ls) (hH' : GS hstE w (.slice bo2 m2 dap2) Hs) (hT' : TS w (.slice bo3 m3 dap3) Ts) :
    Calls Try.prog 10 #[.agg #[.int .i64 S, .slice ao n cap, .slice ao2 n2 cap2, .slice ao3 n3 cap3], .agg #[.int .i64 S, .slice bo m dap, .slice bo2 m2 dap2, .slice bo3 m3 dap3]] w fun e w' => e = .returned (.bool true) ∧ Below w.heap.size w w' := by
  have hb0 : Below w.heap.size w ((w.alloc (Obj.cells #[.int .i64 S, .slice ao n cap, .slice ao2 n2 cap2, .slice ao3 n3 cap3] 28)).alloc (Obj.cells #[.int .i64 S, .slice bo m dap, .slice bo2 m2 dap2, .slice bo3 m3 dap3] 28)) := ((Below.refl _ _).alloc (Nat.le_refl _) _).alloc (by simp) _
  have HNN := nn_new w S (.slice ao n cap) (.slice ao2 n2 cap2) (.slice ao3 n3 cap3) S (.slice bo m dap) (.slice bo2 m2 dap2) (.slice bo3 m3 dap3) 28
  have HL1 := hL.later hb0
  have HL2 := hL'.later hb0
  have HH1 := hH.later hb0
  have HH2 := hH'.later hb0
  have HT1 : Hid (∀ W, Below w.heap.size w W → TS W (.slice ao3 n3 cap3) Ts ∧ TS W (.slice bo3 m3 dap3) Ts) := fun W h => ⟨hT.later h, hT'.later h⟩
  have HB0 : Hid (Below w.heap.size w ((w.alloc (Obj.cells #[.int .i64 S, .slice ao n cap, .slice ao2 n2 cap2, .slice ao3 n3 cap3] 28)).alloc (Obj.cells #[.int .i64 S, .slice bo m dap, .slice bo2 m2 dap2, .slice bo3 m3 dap3] 28))) := hb0
  obtain ⟨_, _, _, e, hn, hn2, hn3, ha⟩ := hT.form
  cases e
  obtain ⟨_, _, _, e, hm, hm2, hm3, hb⟩ := hT'.form
  cases e
  obtain rfl : n3 = m3 := by omega
  have HN : Hid (Ts.length = n3) := hn
  have HA : Hid (0 < n3 → ∃ g o, ao3 = some ⟨g, o, none⟩ ∧ TAt w g o Ts ∧ cap3 ≤ maxLen) := ha
  have HA2 : Hid (0 < n3 → ∃ g o, bo3 = some ⟨g, o, none⟩ ∧ TAt w g o Ts ∧ dap3 ≤ maxLen) := hb
  have n63 : n3 ≤ 9223372036854775807 := by unfold maxLen at hn2; omega
  have e3 : ((n3 : Int) == (n3 : Int)) = true := by simp
  clear hL hL' hH hH' hT hT' hn ha hm hb hn2 hm2 hb0
  go_enter Try.func10, Try.ntmps10
  go_wp2_with fail
  refine (smTopo_any S ao n cap ao2 n2 cap2 Ls Hs S bo m dap bo2 m2 dap2 Ls Hs _ HL1 HH1 HL2 HH2).mono ?_
  rintro e w1 ⟨rfl, hb1⟩
  rw [tpB_iff.2 ⟨rfl, rfl, rfl⟩]
  have HB1 : Hid (Below w.heap.size w w1) := HB0.out.trans (hb1.mono HB0.out.size)
  have HN1 : Hid (NN w1 w.heap.size S (.slice ao n cap) (.slice ao2 n2 cap2) (.slice ao3 n3 cap3) S (.slice bo m dap) (.slice bo2 m2 dap2) (.slice bo3 n3 dap3)) := HNN.later hb1
  obtain ⟨⟨p0, p1, p2, p3⟩, s0, s1, s2, s3⟩ := HNN.later hb1
  have hlt1 : w.heap.size < w1.heap.size := World.block_lt_of_cell? _ _ p0
  have hlt2 : w.heap.size + 1 < w1.heap.size := World.block_lt_of_cell? _ _ s0
  clear hb1 HL1 HL2 HH1 HH2 HB0 HNN
  go_wp2
  go_loopw [6] (fun i wr => ∃ k : Nat, k ≤ n3 ∧ i = .int .i64 k ∧ NN wr w.heap.size S (.slice ao n cap) (.slice ao2 n2 cap2) (.slice ao3 n3 cap3) S (.slice bo m dap) (.slice bo2 m2 dap2) (.slice bo3 n3 dap3) ∧ Below w.heap.size w wr) (fun i _ => n3 - (intOf i).toNat)
  case atStart => exact ⟨0, by omega, rfl, HN1.out, HB1.out⟩
  case round =>
    obtain ⟨k, hk, rfl, hX, hB⟩ := hrel
    clear HN1 p0 p1 p2 p3 s0 s1 s2 s3 hlt1 hlt2 HB1
    have HB : Hid (Below w.heap.size w wr) := hB
    have HX : Hid (NN wr w.heap.size S (.slice ao n cap) (.slice ao2 n2 cap2) (.slice ao3 n3 cap3) S (.slice bo m dap) (.slice bo2 m2 dap2) (.slice bo3 n3 dap3)) := hX
    obtain ⟨⟨p0, p1, p2, p3⟩, s0, s1, s2, s3⟩ := hX
    have hlt1 : w.heap.size < wr.heap.size := World.block_lt_of_cell? _ _ p0
    have hlt2 : w.heap.size + 1 < wr.heap.size := World.block_lt_of_cell? _ _ s0
    by_cases hlt : k < n3
    · obtain ⟨g, og, hao, hc, _⟩ := HA.out (by omega)
      obtain ⟨f, of, hbo, hd, _⟩ := HA2.out (by omega)
      subst hao hbo
      obtain ⟨a3, l3, c3, r0, hG3⟩ := (hc.later hB) k (by rw [HN.out]; exact hlt)
      obtain ⟨a4, l4, c4, r1, hG4⟩ := (hd.later hB) k (by rw [HN.out]; exact hlt)
      have HCL : Hid (NC wr w.heap.size S (.slice ao n cap) (.slice ao2 n2 cap2) (.slice (some ⟨g, og, none⟩) n3 cap3) S (.slice bo m dap) (.slice bo2 m2 dap2) (.slice (some ⟨f, of, none⟩) n3 dap3) g (og + k) (.slice a3 l3 c3) f (of + k) (.slice a4 l4 c4) (Ts[k]'(by rw [HN.out]; exact hlt)) (Ts[k]'(by rw [HN.out]; exact hlt)) wr) := ⟨Below.refl _ _, HX.out, r0, r1, hG3, hG4⟩
      have kb0 : (0 : Int) ≤ (k : Int) := by omega
      have kb1 : (k : Int) < (n3 : Int) := by omega
      clear hc hd hB r0 r1 hG3 hG4
      go_upto_region 7 with fail
      clear p0 p1 p2 p3 s0 s1 s2 s3
      refine wp_region_quiet (C := NC wr w.heap.size S (.slice ao n cap) (.slice ao2 n2 cap2) (.slice (some ⟨g, og, none⟩) n3 cap3) S (.slice bo m dap) (.slice bo2 m2 dap2) (.slice (some ⟨f, of, none⟩) n3 dap3) g (og + k) (.slice a3 l3 c3) f (of + k) (.slice a4 l4 c4) (Ts[k]'(by rw [HN.out]; exact hlt)) (Ts[k]'(by rw [HN.out]; exact hlt))) (by kernel_rfl) (by kernel_rfl) (NC.later (W := wr) (Below.drew (Below.refl _ _)) HCL.out) ?_
      simp only [List.toList_toArray]
      go_big_quiet_want
      refine quiet_val (v := .pointer (some ⟨w.heap.size, 3, none⟩)) (fun w' hC => ?_) ?_
      · obtain ⟨z, ⟨⟨z0, z1, z2, z3⟩, y0, y1, y2, y3⟩, x0, x1, x2, x3⟩ := hC
        go_simp
      simp only [Act.put, List.setIfInBounds_toArray, List.set_cons_zero, List.set_cons_succ]
      go_big_quiet_on
      go_big_quiet_want
      refine quiet_val (v := .slice (some ⟨g, og, none⟩) n3 cap3) (fun w' hC => ?_) ?_
      · obtain ⟨z, ⟨⟨z0, z1, z2, z3⟩, y0, y1, y2, y3⟩, x0, x1, x2, x3⟩ := hC
        go_simp
      simp only [Act.put, List.setIfInBounds_toArray, List.set_cons_zero, List.set_cons_succ]
      go_big_quiet_on
      go_big_quiet_want
      refine quiet_val (v := .int .i64 (k : Int)) (fun w' hC => ?_) ?_
      · obtain ⟨z, ⟨⟨z0, z1, z2, z3⟩, y0, y1, y2, y3⟩, x0, x1, x2, x3⟩ := hC
        go_simp
      simp only [Act.put, List.setIfInBounds_toArray, List.set_cons_zero, List.set_cons_succ]
      go_big_quiet_on
      go_big_quiet_want
      refine quiet_val (v := .pointer (some ⟨g, og + k, none⟩)) (fun w' hC => ?_) ?_
      · obtain ⟨z, ⟨⟨z0, z1, z2, z3⟩, y0, y1, y2, y3⟩, x0, x1, x2, x3⟩ := hC
        go_simp
      simp only [Act.put, List.setIfInBounds_toArray, List.set_cons_zero, List.set_cons_succ]
      go_big_quiet_on
      go_big_quiet_want
      refine quiet_val (v := .slice a3 l3 c3) (fun w' hC => ?_) ?_
      · obtain ⟨z, ⟨⟨z0, z1, z2, z3⟩, y0, y1, y2, y3⟩, x0, x1, x2, x3⟩ := hC
        go_simp
      simp only [Act.put, List.setIfInBounds_toArray, List.set_cons_zero, List.set_cons_succ]
      go_big_quiet_on
      go_big_quiet_want
      refine quiet_val (v := .pointer (some ⟨w.heap.size + 1, 3, none⟩)) (fun w' hC => ?_) ?_
      · obtain ⟨z, ⟨⟨z0, z1, z2, z3⟩, y0, y1, y2, y3⟩, x0, x1, x2, x3⟩ := hC
        go_simp
      simp only [Act.put, List.setIfInBounds_toArray, List.set_cons_zero, List.set_cons_succ]
      go_big_quiet_on
      go_big_quiet_want
      refine quiet_val (v := .slice (some ⟨f, of, none⟩) n3 dap3) (fun w' hC => ?_) ?_
      · obtain ⟨z, ⟨⟨z0, z1, z2, z3⟩, y0, y1, y2, y3⟩, x0, x1, x2, x3⟩ := hC
        go_simp
      simp only [Act.put, List.setIfInBounds_toArray, List.set_cons_zero, List.set_cons_succ]
      go_big_quiet_on
      go_big_quiet_want
      refine quiet_val (v := .int .i64 (k : Int)) (fun w' hC => ?_) ?_
      · obtain ⟨z, ⟨⟨z0, z1, z2, z3⟩, y0, y1, y2, y3⟩, x0, x1, x2, x3⟩ := hC
        go_simp
      simp only [Act.put, List.setIfInBounds_toArray, List.set_cons_zero, List.set_cons_succ]
      go_big_quiet_on
      go_big_quiet_want
      refine quiet_val (v := .pointer (some ⟨f, of + k, none⟩)) (fun w' hC => ?_) ?_
      · obtain ⟨z, ⟨⟨z0, z1, z2, z3⟩, y0, y1, y2, y3⟩, x0, x1, x2, x3⟩ := hC
        go_simp
      simp only [Act.put, List.setIfInBounds_toArray, List.set_cons_zero, List.set_cons_succ]
      go_big_quiet_on
      go_big_quiet_want
      refine quiet_val (v := .slice a4 l4 c4) (fun w' hC => ?_) ?_
      · obtain ⟨z, ⟨⟨z0, z1, z2, z3⟩, y0, y1, y2, y3⟩, x0, x1, x2, x3⟩ := hC
        go_simp
      simp only [Act.put, List.setIfInBounds_toArray, List.set_cons_zero, List.set_cons_succ]
      go_big_quiet_on
      go_big_quiet_want
      refine quiet_call (f := 22) (args := #[.slice a3 l3 c3, .slice a4 l4 c4]) (v := .bool true) (fun w' => ?_) (fun w' hC => (tabs_any a3 l3 c3 a4 l4 c4 _ w' hC.2.2.2.2.1 hC.2.2.2.2.2).mono (fun e w2 h2 => ⟨h2.1, NC.later h2.2 hC⟩)) ?_
      · go_simp
      simp only [Act.put, List.setIfInBounds_toArray, List.set_cons_zero, List.set_cons_succ]
      go_big_quiet_on
      go_big_quiet_want
      refine quiet_val (v := .bool true) (fun w' hC => ?_) ?_
      · obtain ⟨z, ⟨⟨z0, z1, z2, z3⟩, y0, y1, y2, y3⟩, x0, x1, x2, x3⟩ := hC
        go_simp
      simp only [Act.put, List.setIfInBounds_toArray, List.set_cons_zero, List.set_cons_succ]
      go_big_quiet_on
      refine wpQuiet_nil ?_
      intro w' hC
      have HBY : Hid (Below wr.heap.size wr w') := hC.1
      have HXY : Hid (NN w' w.heap.size S (.slice ao n cap) (.slice ao2 n2 cap2) (.slice (some ⟨g, og, none⟩) n3 cap3) S (.slice bo m dap) (.slice bo2 m2 dap2) (.slice (some ⟨f, of, none⟩) n3 dap3)) := hC.2.1
      clear hC
      go_wp2
      go_roundw
      case rel => exact ⟨k + 1, by omega, by go_num, HXY.out, HB.out.trans (HBY.out.mono HB.out.size)⟩
      case measure => simp [intOf]; omega
    · obtain rfl : k = n3 := by omega
      clear hB
      go_wp2
      go_ret
      exact ⟨rfl, HB.out⟩
end Go.Proofs.Ytokkmnednhigmae
/- Changes of nets in plain lists: op by op, what takes all back, what is between two. No program in it. -/
namespace Go.Proofs.Ytokkmnednhigmae
open Go.RowKit
set_option linter.unusedVariables false

/-- The fault of ops, one by one, of tables that are right. -/
def caN (S : Int) : List (List Ru) → List Op8 → Int
  | _, [] => 0
  | Ts, o :: l => if swB S o.w = true then (if doN (taT Ts o.w) o.a o.r = 0 then caN S (Ts.set (o.w - 1).toNat (doL (taT Ts o.w) o.a o.r)) l else doN (taT Ts o.w) o.a o.r) else 1
/-- What they make. -/
def caT : List (List Ru) → List Op8 → List (List Ru)
  | Ts, [] => Ts
  | Ts, o :: l => caT (Ts.set (o.w - 1).toNat (doL (taT Ts o.w) o.a o.r)) l
/-- Each table is right. -/
def tsOk (Ts : List (List Ru)) : Prop := ∀ L ∈ Ts, tbN L = 0
/-- Each table has the rules of the other one's. -/
def tsPm (As Bs : List (List Ru)) : Prop := As.length = Bs.length ∧ ∀ k, (As.getD k []).Perm (Bs.getD k [])
def tu1 (o : Op8) : Op8 := ⟨o.w, !o.a, o.r⟩
/-- What takes all back: the last first. -/
def tuL (l : List Op8) : List Op8 := (l.map tu1).reverse

theorem ca_len (Ts : List (List Ru)) (l : List Op8) : (caT Ts l).length = Ts.length := by
  induction l generalizing Ts with
  | nil => rfl
  | cons o l ih => rw [caT, ih, List.length_set]
theorem ca_app (S : Int) (Ts : List (List Ru)) (a b : List Op8) : caN S Ts (a ++ b) = if caN S Ts a = 0 then caN S (caT Ts a) b else caN S Ts a := by
  induction a generalizing Ts with
  | nil => simp [caN, caT]
  | cons o l ih =>
    rw [List.cons_append, caN, caN, caT]
    by_cases h1 : swB S o.w = true
    · rw [if_pos h1, if_pos h1]
      by_cases h2 : doN (taT Ts o.w) o.a o.r = 0
      · rw [if_pos h2, if_pos h2, ih]
      · rw [if_neg h2, if_neg h2, if_neg h2]
    · rw [if_neg h1, if_neg h1]; rfl
theorem cj_app (Ts : List (List Ru)) (a b : List Op8) : caT Ts (a ++ b) = caT (caT Ts a) b := by
  induction a generalizing Ts with
  | nil => rfl
  | cons o l ih => rw [List.cons_append, caT, caT, ih]
theorem ca_cons {S : Int} {Ts : List (List Ru)} {o : Op8} {l : List Op8} (h : caN S Ts (o :: l) = 0) :
    swB S o.w = true ∧ doN (taT Ts o.w) o.a o.r = 0 ∧ caN S (Ts.set (o.w - 1).toNat (doL (taT Ts o.w) o.a o.r)) l = 0 := by
  rw [caN] at h
  by_cases h1 : swB S o.w = true
  · rw [if_pos h1] at h
    by_cases h2 : doN (taT Ts o.w) o.a o.r = 0
    · rw [if_pos h2] at h; exact ⟨h1, h2, h⟩
    · rw [if_neg h2] at h; exact absurd h h2
  · rw [if_neg h1] at h; omega
theorem ta_mem {Ts : List (List Ru)} {w : Int} (h1 : 1 ≤ w) (h2 : w ≤ Ts.length) : taT Ts w ∈ Ts := by
  have h : (w - 1).toNat < Ts.length := by omega
  rw [taT, List.getD_eq_getElem?_getD, List.getElem?_eq_getElem h]
  exact List.getElem_mem h

/-- What taking away asks. -/
theorem take_yes {L : List Ru} {r : Ru} (h : doN L false r = 0) : tbN L = 0 ∧ ∃ A B, L = A ++ r :: B ∧ doL L false r = A ++ B := by
  have h0 := h
  unfold doN at h
  by_cases h1 : tbN L = 0
  · rw [if_pos h1] at h
    by_cases h2 : r.n = 0
    · rw [if_pos h2, chN] at h
      simp only [Bool.false_eq_true, if_false] at h
      cases h3 : inB L r
      · rw [h3] at h; simp at h
      · obtain ⟨A, B, rfl⟩ := List.append_of_mem (in_iff.1 h3)
        exact ⟨h1, A, B, rfl, (do_take h1).2⟩
    · rw [if_neg h2] at h; exact absurd h h2
  · rw [if_neg h1] at h; exact absurd h h1
theorem do_right {L : List Ru} {a : Bool} {r : Ru} (h : doN L a r = 0) : tbN (doL L a r) = 0 := by
  cases a with
  | true =>
    obtain ⟨h1, h2, h3, h4⟩ := add_yes h
    rw [(do_add h1 h2 h3 h4).2]
    exact tb_one h1 h2 h3 h4
  | false =>
    obtain ⟨h1, A, B, rfl, e⟩ := take_yes h
    rw [e]
    exact tb_sub h1 (List.Sublist.append (List.Sublist.refl _) (List.sublist_cons_self r B))
theorem ok_set {Ts : List (List Ru)} {k : Nat} {L : List Ru} (h : tsOk Ts) (hL : tbN L = 0) : tsOk (Ts.set k L) := by
  intro x hx
  rcases List.mem_or_eq_of_mem_set hx with h1 | rfl
  · exact h x h1
  · exact hL
theorem ca_right {S : Int} : ∀ {l : List Op8} {Ts : List (List Ru)}, tsOk Ts → caN S Ts l = 0 → tsOk (caT Ts l)
  | [], _, h, _ => h
  | o :: l, Ts, h, e => by
    obtain ⟨h1, h2, h3⟩ := ca_cons e
    rw [caT]
    exact ca_right (ok_set h (do_right h2)) h3

theorem tb_pm {L M : List Ru} (h : L.Perm M) (hM : tbN M = 0) : tbN L = 0 := by
  rw [tb_iff] at hM ⊢
  refine ⟨by rw [h.length_eq]; exact hM.1, fun r hr => hM.2.1 r (h.subset hr), ?_⟩
  exact h.symm.pairwise hM.2.2 (fun {a b} hk => by rw [key_sy]; exact hk)
theorem hit_pm {L M : List Ru} (h : L.Perm M) (r : Ru) : hitB L r = hitB M r := by
  rw [Bool.eq_iff_iff, hitB, hitB, List.any_eq_true, List.any_eq_true]
  exact ⟨fun ⟨x, hx, e⟩ => ⟨x, h.subset hx, e⟩, fun ⟨x, hx, e⟩ => ⟨x, h.symm.subset hx, e⟩⟩
/-- One op taken back, at a table that has the same rules. -/
theorem do_turn {L M : List Ru} {a : Bool} {r : Ru} (h : doN L a r = 0) (hM : M.Perm (doL L a r)) : doN M (!a) r = 0 ∧ (doL M (!a) r).Perm L := by
  have hr := tb_pm hM (do_right h)
  cases a with
  | true =>
    obtain ⟨h1, h2, h3, h4⟩ := add_yes h
    rw [(do_add h1 h2 h3 h4).2] at hM
    obtain ⟨A, B, rfl⟩ := List.append_of_mem (hM.symm.subset (show r ∈ L ++ [r] by simp))
    obtain ⟨d1, d2⟩ := do_take hr
    refine ⟨d1, ?_⟩
    show (doL (A ++ r :: B) false r).Perm L
    rw [d2]
    have e1 : (r :: (A ++ B)).Perm (r :: L) := (List.perm_middle.symm.trans hM).trans (List.perm_append_comm (l₁ := L) (l₂ := [r]))
    exact e1.cons_inv
  | false =>
    obtain ⟨h1, A, B, rfl, e⟩ := take_yes h
    rw [e] at hM
    have hk := (tb_iff.1 h1)
    have ok : r.ok = true := hk.2.1 r (by simp)
    have hh : hitB M r = false := by
      rw [hit_pm hM]
      simp only [hitB, List.any_eq_false]
      intro x hx hkey
      have hx2 : x ∈ A ++ r :: B := by
        rw [List.mem_append] at hx ⊢
        rcases hx with hx | hx
        · exact .inl hx
        · exact .inr (List.mem_cons_of_mem _ hx)
      have := tb_key h1 hx2 (by simp) hkey
      subst this
      have hn := tb_nodup h1
      rw [List.nodup_append] at hn
      rw [List.mem_append] at hx
      rcases hx with hx | hx
      · exact hn.2.2 x hx x (by simp) rfl
      · exact (List.nodup_cons.1 hn.2.1).1 hx
    have hl : M.length < 12 := by
      have := hM.length_eq
      have := hk.1
      simp at this ⊢
      rw [hM.length_eq, List.length_append]
      omega
    obtain ⟨d1, d2⟩ := do_add hr ok hh hl
    refine ⟨d1, ?_⟩
    show (doL M true r).Perm (A ++ r :: B)
    rw [d2]
    have e3 : (r :: (A ++ B)).Perm (A ++ r :: B) := List.perm_middle.symm
    exact ((hM.append_right [r]).trans (List.perm_append_comm (l₁ := A ++ B) (l₂ := [r]))).trans e3

theorem pm_rf (Ts : List (List Ru)) : tsPm Ts Ts := ⟨rfl, fun _ => List.Perm.refl _⟩
theorem getD_set (Ts : List (List Ru)) (k j : Nat) (L : List Ru) : (Ts.set k L).getD j [] = if j = k ∧ k < Ts.length then L else Ts.getD j [] := by
  rw [List.getD_eq_getElem?_getD, List.getElem?_set, List.getD_eq_getElem?_getD]
  by_cases h : k = j
  · subst h
    by_cases h2 : k < Ts.length
    · simp [h2]
    · rw [if_pos rfl, if_neg h2, if_neg (by omega), List.getElem?_eq_none (by omega)]
  · rw [if_neg h, if_neg (by omega)]
/-- Tables that are the same but for one. -/
theorem pm_off {As Bs : List (List Ru)} {k : Nat} {L : List Ru} (h : tsPm As (Bs.set k L)) {M : List Ru} (hM : M.Perm (Bs.getD k [])) : tsPm (As.set k M) Bs := by
  obtain ⟨h1, h2⟩ := h
  rw [List.length_set] at h1
  refine ⟨by rw [List.length_set]; exact h1, fun j => ?_⟩
  have h3 := h2 j
  rw [getD_set] at h3 ⊢
  by_cases e : j = k ∧ k < As.length
  · rw [if_pos e, e.1]
    exact hM
  · rw [if_neg e]
    rw [if_neg (by omega)] at h3
    exact h3
theorem ta_set {Ts : List (List Ru)} {w : Int} {L : List Ru} (h1 : 1 ≤ w) (h2 : w ≤ Ts.length) : taT (Ts.set (w - 1).toNat L) w = L := by
  have h : (w - 1).toNat < Ts.length := by omega
  rw [taT, List.getD_eq_getElem?_getD, List.getElem?_set_self h]
  rfl

/-- THERE AND BACK: what takes ops back, done behind them, has no fault, and each table has the rules that it had. -/
theorem ca_back {S : Int} : ∀ {l : List Op8} {Ts : List (List Ru)}, (Ts.length : Int) = S → caN S Ts l = 0 → caN S (caT Ts l) (tuL l) = 0 ∧ tsPm (caT (caT Ts l) (tuL l)) Ts
  | [], Ts, _, _ => ⟨rfl, pm_rf Ts⟩
  | o :: l, Ts, hS, e => by
    obtain ⟨h1, h2, h3⟩ := ca_cons e
    have hw := sw_of.1 h1
    obtain ⟨i1, i2⟩ := ca_back (l := l) (Ts := Ts.set (o.w - 1).toNat (doL (taT Ts o.w) o.a o.r)) (by rw [List.length_set]; exact hS) h3
    have et : tuL (o :: l) = tuL l ++ [tu1 o] := by simp [tuL]
    rw [et, caT, ca_app, if_pos i1, cj_app]
    have hp : (taT (caT (caT (Ts.set (o.w - 1).toNat (doL (taT Ts o.w) o.a o.r)) l) (tuL l)) o.w).Perm (doL (taT Ts o.w) o.a o.r) := by
      have := i2.2 (o.w - 1).toNat
      have e2 := ta_set (Ts := Ts) (L := doL (taT Ts o.w) o.a o.r) hw.1 (by omega)
      rw [taT] at e2
      rw [e2] at this
      exact this
    obtain ⟨d1, d2⟩ := do_turn h2 hp
    constructor
    · rw [caN]
      show (if swB S o.w = true then _ else _) = _
      rw [if_pos h1]
      show (if doN (taT _ o.w) (!o.a) o.r = 0 then _ else _) = _
      rw [if_pos d1, caN]
    · rw [caT, caT]
      exact pm_off i2 d2

theorem sm_pm {L M : List Ru} (h : L.Perm M) (hM : tbN M = 0) : twN L M = 0 ∧ smB L M = true := by
  have hL := tb_pm h hM
  have ht : twN L M = 0 := by rw [twN, if_pos hL, hM]
  refine ⟨ht, ?_⟩
  have hb : bey L M = [] := by
    rw [bey, List.filter_eq_nil_iff]
    intro r hr
    simp [in_iff.2 (h.subset hr)]
  rw [smB, if_pos ht, h.length_eq, hb]
  simp
/-- Two right tables are the same just if there is nothing between them. -/
theorem sm_df {A B : List Ru} (h : twN A B = 0) : smB A B = decide ((dfL A B).length = 0) := by
  obtain ⟨hA, hB⟩ : tbN A = 0 ∧ tbN B = 0 := by
    unfold twN at h
    by_cases h1 : tbN A = 0
    · rw [if_pos h1] at h; exact ⟨h1, h⟩
    · rw [if_neg h1] at h; exact absurd h h1
  have sub {X Y : List Ru} (e : bey X Y = []) : ∀ r ∈ X, r ∈ Y := by
    intro r hr
    rw [bey, List.filter_eq_nil_iff] at e
    have := e r hr
    simp at this
    exact in_iff.1 this
  rw [smB, if_pos h, dfL, if_pos h, Bool.eq_iff_iff]
  simp only [taken, added, List.length_append, List.length_map, Bool.and_eq_true, decide_eq_true_eq]
  constructor
  · rintro ⟨h1, h2⟩
    have hs := sub (List.length_eq_zero_iff.1 h2)
    rw [h2, Nat.zero_add]
    rw [List.length_eq_zero_iff, bey, List.filter_eq_nil_iff]
    intro r hr
    cases hi : inB A r
    · exfalso
      have hno : r ∉ A := fun hm => by rw [in_iff.2 hm] at hi; cases hi
      have := nodup_sub (M := r :: A) (L := B) (List.nodup_cons.2 ⟨hno, tb_nodup hA⟩) (fun x hx => by
        rcases List.mem_cons.1 hx with rfl | hx
        · exact hr
        · exact hs x hx)
      rw [List.length_cons] at this
      omega
    · simp
  · intro h1
    have e1 : (bey A B).length = 0 := by omega
    have e2 : (bey B A).length = 0 := by omega
    refine ⟨Nat.le_antisymm (nodup_sub (tb_nodup hA) (sub (List.length_eq_zero_iff.1 e1))) (nodup_sub (tb_nodup hB) (sub (List.length_eq_zero_iff.1 e2))), e1⟩

/-- Ops of one switch. -/
def ofS (w : Int) (l : List Op8) : List Op8 := l.map fun o => ⟨w, o.a, o.r⟩
theorem ca_of {S w : Int} (hs : swB S w = true) : ∀ {l : List Op8} {Ts : List (List Ru)}, (Ts.length : Int) = S → alN (taT Ts w) l = 0 → caN S Ts (ofS w l) = 0 ∧ caT Ts (ofS w l) = Ts.set (w - 1).toNat (alL (taT Ts w) l)
  | [], Ts, hS, _ => by
    have hw := sw_of.1 hs
    have h : (w - 1).toNat < Ts.length := by omega
    refine ⟨rfl, ?_⟩
    show Ts = Ts.set (w - 1).toNat (taT Ts w)
    rw [taT, List.getD_eq_getElem?_getD, List.getElem?_eq_getElem h]
    simp
  | o :: l, Ts, hS, e => by
    have hw := sw_of.1 hs
    rw [alN] at e
    by_cases h2 : doN (taT Ts w) o.a o.r = 0
    · rw [if_pos h2] at e
      have et := ta_set (Ts := Ts) (L := doL (taT Ts w) o.a o.r) hw.1 (by omega)
      obtain ⟨i1, i2⟩ := ca_of hs (l := l) (Ts := Ts.set (w - 1).toNat (doL (taT Ts w) o.a o.r)) (by rw [List.length_set]; exact hS) (by rw [et]; exact e)
      refine ⟨?_, ?_⟩
      · show caN S Ts (⟨w, o.a, o.r⟩ :: ofS w l) = 0
        rw [caN]
        show (if swB S w = true then (if doN (taT Ts w) o.a o.r = 0 then _ else _) else _) = _
        rw [if_pos hs, if_pos h2]
        exact i1
      · show caT Ts (⟨w, o.a, o.r⟩ :: ofS w l) = _
        rw [caT]
        show caT (Ts.set (w - 1).toNat (doL (taT Ts w) o.a o.r)) (ofS w l) = _
        rw [i2, et, List.set_set, alL, if_pos h2]
    · rw [if_neg h2] at e; exact absurd e h2
/-- What is between the first k tables of two nets. -/
def cdL (As Bs : List (List Ru)) : Nat → List Op8
  | 0 => []
  | k + 1 => cdL As Bs k ++ ofS (k + 1) (dfL (As.getD k []) (Bs.getD k []))
/-- The tables are the Same, one by one, the first k. -/
def csB (As Bs : List (List Ru)) : Nat → Bool
  | 0 => true
  | k + 1 => csB As Bs k && smB (As.getD k []) (Bs.getD k [])
theorem cs_iff {As Bs : List (List Ru)} : ∀ {k : Nat}, csB As Bs k = true ↔ ∀ j, j < k → smB (As.getD j []) (Bs.getD j []) = true
  | 0 => by simp [csB]
  | k + 1 => by
    rw [csB, Bool.and_eq_true, cs_iff]
    refine ⟨fun ⟨h1, h2⟩ j hj => ?_, fun h => ⟨fun j hj => h j (by omega), h k (by omega)⟩⟩
    by_cases e : j = k
    · rw [e]; exact h2
    · exact h1 j (by omega)
theorem cs_cd {As Bs : List (List Ru)} : ∀ {k : Nat}, (∀ j, j < k → twN (As.getD j []) (Bs.getD j []) = 0) → csB As Bs k = decide ((cdL As Bs k).length = 0)
  | 0, _ => rfl
  | k + 1, h => by
    rw [csB, cs_cd (k := k) (fun j hj => h j (by omega)), sm_df (h k (by omega)), cdL, List.length_append, ofS, List.length_map, Bool.eq_iff_iff]
    simp only [Bool.and_eq_true, decide_eq_true_eq]
    omega
/-- WHAT IS BETWEEN TWO MAKES OF THE ONE THE OTHER. -/
theorem ca_diff {S : Int} {As Bs : List (List Ru)} (hS : (As.length : Int) = S) (ht : ∀ j, j < As.length → twN (As.getD j []) (Bs.getD j []) = 0) : ∀ {k : Nat}, k ≤ As.length →
    caN S As (cdL As Bs k) = 0 ∧ ∀ j, (caT As (cdL As Bs k)).getD j [] = if j < k then alL (As.getD j []) (dfL (As.getD j []) (Bs.getD j [])) else As.getD j []
  | 0, _ => ⟨rfl, fun j => by simp [cdL, caT]⟩
  | k + 1, hk => by
    obtain ⟨i1, i2⟩ := ca_diff hS ht (k := k) (by omega)
    have hs : swB S ((k : Int) + 1) = true := sw_of.2 ⟨by omega, by omega⟩
    have e0 : ((k : Int) + 1 - 1).toNat = k := by omega
    have et : taT (caT As (cdL As Bs k)) ((k : Int) + 1) = As.getD k [] := by
      rw [taT, e0, i2, if_neg (by omega)]
    have hl : ((caT As (cdL As Bs k)).length : Int) = S := by rw [ca_len]; exact hS
    obtain ⟨c1, c2⟩ := ca_of hs hl (l := dfL (As.getD k []) (Bs.getD k [])) (by rw [et]; exact (al_diff (ht k (by omega))).1)
    rw [cdL]
    refine ⟨by rw [ca_app, if_pos i1]; exact c1, fun j => ?_⟩
    rw [cj_app, c2, et, e0]
    have hlen : k < (caT As (cdL As Bs k)).length := by rw [ca_len]; omega
    by_cases e : j = k
    · subst e
      rw [if_pos (by omega), List.getD_eq_getElem?_getD, List.getElem?_set_self hlen]
      rfl
    · rw [List.getD_eq_getElem?_getD, List.getElem?_set_ne (by omega), ← List.getD_eq_getElem?_getD, i2]
      by_cases h : j < k
      · rw [if_pos h, if_pos (by omega)]
      · rw [if_neg h, if_neg (by omega)]
theorem tu_len (l : List Op8) : (tuL l).length = l.length := by simp [tuL]
theorem cd_few {As Bs : List (List Ru)} (ht : ∀ j, twN (As.getD j []) (Bs.getD j []) = 0) : ∀ k, (cdL As Bs k).length ≤ 24 * k
  | 0 => by simp [cdL]
  | k + 1 => by
    have h1 := cd_few ht k
    have h2 : (dfL (As.getD k []) (Bs.getD k [])).length ≤ 24 := by
      have h := ht k
      rw [dfL, if_pos h]
      obtain ⟨hA, hB⟩ : tbN (As.getD k []) = 0 ∧ tbN (Bs.getD k []) = 0 := by
        unfold twN at h
        by_cases h1 : tbN (As.getD k []) = 0
        · rw [if_pos h1] at h; exact ⟨h1, h⟩
        · rw [if_neg h1] at h; exact absurd h h1
      have a := (tb_iff.1 hA).1
      have b := (tb_iff.1 hB).1
      have c : (bey (As.getD k []) (Bs.getD k [])).length ≤ (As.getD k []).length := List.length_filter_le _ _
      have d : (bey (Bs.getD k []) (As.getD k [])).length ≤ (Bs.getD k []).length := List.length_filter_le _ _
      simp only [taken, added, List.length_append, List.length_map]
      omega
    rw [cdL, List.length_append, ofS, List.length_map]
    omega

/-- The fault of ops at a net. -/
def cgN (S : Int) (Ls : List ((Int × Int) × (Int × Int))) (Hs : List (ByteArray × (Int × Int))) (Ts : List (List Ru)) (l : List Op8) : Int :=
  if ntN S Ls Hs Ts = 0 then (if 200 < l.length then 4 else caN S Ts l) else ntN S Ls Hs Ts
theorem ts_ok {Ts : List (List Ru)} (h : tsOk Ts) : ∀ n, tsTo Ts n = 0
  | 0 => rfl
  | n + 1 => by
    rw [tsTo, if_pos (ts_ok h n), List.getD_eq_getElem?_getD]
    by_cases e : n < Ts.length
    · rw [List.getElem?_eq_getElem e]; exact h _ (List.getElem_mem e)
    · rw [List.getElem?_eq_none (by omega)]; rfl
theorem ok_ts {Ts : List (List Ru)} (h : ∀ k, k < Ts.length → tbN (Ts.getD k []) = 0) : tsOk Ts := by
  intro L hL
  obtain ⟨k, hk, rfl⟩ := List.getElem_of_mem hL
  have := h k hk
  rw [List.getD_eq_getElem?_getD, List.getElem?_eq_getElem hk] at this
  exact this
theorem nt_of {S : Int} {Ls : List ((Int × Int) × (Int × Int))} {Hs : List (ByteArray × (Int × Int))} {Ts : List (List Ru)} (h1 : tpN S Ls Hs = 0) (h2 : (Ts.length : Int) = S) (h3 : tsOk Ts) : ntN S Ls Hs Ts = 0 := by
  rw [ntN, if_pos h1, if_pos h2, ts_ok h3]
theorem cg_0 {S : Int} {Ls : List ((Int × Int) × (Int × Int))} {Hs : List (ByteArray × (Int × Int))} {Ts : List (List Ru)} {l : List Op8} (h : cgN S Ls Hs Ts l = 0) : ntN S Ls Hs Ts = 0 ∧ l.length ≤ 200 ∧ caN S Ts l = 0 := by
  unfold cgN at h
  by_cases e : ntN S Ls Hs Ts = 0
  · rw [if_pos e] at h
    by_cases e2 : 200 < l.length
    · rw [if_pos e2] at h; omega
    · rw [if_neg e2] at h; exact ⟨e, by omega, h⟩
  · rw [if_neg e] at h; exact absurd h e
theorem cg_of {S : Int} {Ls : List ((Int × Int) × (Int × Int))} {Hs : List (ByteArray × (Int × Int))} {Ts : List (List Ru)} {l : List Op8} (h1 : ntN S Ls Hs Ts = 0) (h2 : l.length ≤ 200) (h3 : caN S Ts l = 0) : cgN S Ls Hs Ts l = 0 := by
  rw [cgN, if_pos h1, if_neg (by omega), h3]
/-- The net behind ops is right. -/
theorem nt_ca {S : Int} {Ls : List ((Int × Int) × (Int × Int))} {Hs : List (ByteArray × (Int × Int))} {Ts : List (List Ru)} {l : List Op8} (h : ntN S Ls Hs Ts = 0) (hl : caN S Ts l = 0) : ntN S Ls Hs (caT Ts l) = 0 := by
  obtain ⟨h1, h2, h3⟩ := nt_0 h
  exact nt_of h1 (by rw [ca_len]; exact h2) (ca_right (ok_ts h3) hl)
/-- In parts, or at once. -/
theorem cg_parts {S : Int} {Ls : List ((Int × Int) × (Int × Int))} {Hs : List (ByteArray × (Int × Int))} {Ts : List (List Ru)} {a b : List Op8} (h : cgN S Ls Hs Ts (a ++ b) = 0) :
    cgN S Ls Hs Ts a = 0 ∧ cgN S Ls Hs (caT Ts a) b = 0 := by
  obtain ⟨h1, h2, h3⟩ := cg_0 h
  rw [List.length_append] at h2
  rw [ca_app] at h3
  by_cases e : caN S Ts a = 0
  · rw [if_pos e] at h3
    exact ⟨cg_of h1 (by omega) e, cg_of (nt_ca h1 e) (by omega) h3⟩
  · rw [if_neg e] at h3; exact absurd h3 e
/-- Ops, and then what takes them back. -/
theorem cg_back {S : Int} {Ls : List ((Int × Int) × (Int × Int))} {Hs : List (ByteArray × (Int × Int))} {Ts : List (List Ru)} {l : List Op8} (h : cgN S Ls Hs Ts l = 0) :
    ntN S Ls Hs (caT Ts l) = 0 ∧ cgN S Ls Hs (caT Ts l) (tuL l) = 0 ∧ ntN S Ls Hs (caT (caT Ts l) (tuL l)) = 0 ∧ csB (caT (caT Ts l) (tuL l)) Ts Ts.length = true := by
  obtain ⟨h1, h2, h3⟩ := cg_0 h
  obtain ⟨t1, t2, t3⟩ := nt_0 h1
  obtain ⟨b1, b2⟩ := ca_back t2 h3
  have n1 := nt_ca h1 h3
  refine ⟨n1, cg_of n1 (by rw [tu_len]; exact h2) b1, nt_ca n1 b1, ?_⟩
  rw [cs_iff]
  intro j hj
  exact (sm_pm (b2.2 j) (t3 j hj)).2
/-- What is between two right nets with as many switches. -/
theorem cg_diff {S : Int} {Ls : List ((Int × Int) × (Int × Int))} {Hs : List (ByteArray × (Int × Int))} {As Bs : List (List Ru)} (hA : ntN S Ls Hs As = 0) (hB : ntN S Ls Hs Bs = 0) (hl : (cdL As Bs As.length).length ≤ 200) :
    cgN S Ls Hs As (cdL As Bs As.length) = 0 ∧ csB (caT As (cdL As Bs As.length)) Bs As.length = true := by
  obtain ⟨t1, t2, t3⟩ := nt_0 hA
  obtain ⟨s1, s2, s3⟩ := nt_0 hB
  have ht : ∀ j, j < As.length → twN (As.getD j []) (Bs.getD j []) = 0 := fun j hj => by rw [twN, if_pos (t3 j hj), s3 j (by omega)]
  obtain ⟨d1, d2⟩ := ca_diff t2 ht (Nat.le_refl _)
  refine ⟨cg_of hA hl d1, ?_⟩
  rw [cs_iff]
  intro j hj
  rw [d2, if_pos hj]
  exact (al_diff (ht j hj)).2.1
end Go.Proofs.Ytokkmnednhigmae
/- Ops one by one, boxes of nets: what the program's Apply and the document's both want. -/
namespace Go.Proofs.Ytokkmnednhigmae
open Go.RowKit
set_option linter.unusedSimpArgs false
set_option linter.unusedVariables false

theorem ca_split {S : Int} {Ts : List (List Ru)} {l : List Op8} {k : Nat} (hk : k < l.length) (h : caN S Ts (l.take k) = 0) : caN S Ts l = caN S (caT Ts (l.take k)) (l[k] :: l.drop (k + 1)) := by
  have e : l = l.take k ++ (l[k] :: l.drop (k + 1)) := by simp
  conv => lhs; rw [e]
  rw [ca_app, if_pos h]
theorem cs_take {S : Int} {Ts : List (List Ru)} {l : List Op8} {k : Nat} (hk : k < l.length) (h : caN S Ts (l.take k) = 0) : caN S Ts (l.take (k + 1)) = caN S (caT Ts (l.take k)) [l[k]] ∧ caT Ts (l.take (k + 1)) = caT (caT Ts (l.take k)) [l[k]] := by
  rw [List.take_succ_eq_append_getElem hk, ca_app, if_pos h, cj_app]
  exact ⟨rfl, rfl⟩
theorem do_ch2 {L : List Ru} {a : Bool} {r : Ru} (h : tbN L = 0) (h2 : r.n = 0) : doN L a r = chN L a r ∧ doL L a r = chL L a r := by
  have e : doN L a r = chN L a r := by simp [doN, h, h2]
  refine ⟨e, ?_⟩
  by_cases h3 : chN L a r = 0
  · rw [doL, e, if_pos h3]
  · rw [doL, e, if_neg h3, chL_ne h3]
theorem do_ru2 {L : List Ru} {a : Bool} {r : Ru} (h : tbN L = 0) (h2 : r.n ≠ 0) : doN L a r = r.n := by simp [doN, h, h2]
/-- What comes out where there is no fault. -/
def nvS (X S : Int) : Int := if X = 0 then S else 0
def nvL {α : Type} (X : Int) (L : List α) : List α := if X = 0 then L else []
/-- The box of a net, and the place of the answer. -/
structure AB (W : World) (B : Nat) (S : Int) (v1 v2 v3 : Value) : Prop where
  n : NeBox W B S v1 v2 v3
  r : NeBox W (B + 1) 0 (.slice none 0 0) (.slice none 0 0) (.slice none 0 0)
  f : ∀ c, W.frozen? ⟨B + 1, c, none⟩ = false
theorem ab_new (w : World) (S : Int) (v1 v2 v3 : Value) (t : TypeId) : AB ((w.alloc (Obj.cells #[.int .i64 S, v1, v2, v3] t)).alloc (Obj.cells #[.int .i64 0, .slice none 0 0, .slice none 0 0, .slice none 0 0] t)) w.heap.size S v1 v2 v3 := by
  obtain ⟨h1, h2⟩ := nn_new w S v1 v2 v3 0 (.slice none 0 0) (.slice none 0 0) (.slice none 0 0) t
  refine ⟨h1, h2, fun c => ?_⟩
  have h := heap_alloc_new (w.alloc (Obj.cells #[.int .i64 S, v1, v2, v3] t)) (Obj.cells #[.int .i64 0, .slice none 0 0, .slice none 0 0, .slice none 0 0] t)
  rw [World.size_alloc] at h
  simp only [World.frozen?, h]
  simp
theorem AB.lt {W : World} {B : Nat} {S : Int} {v1 v2 v3 : Value} (h : AB W B S v1 v2 v3) : B + 1 < W.heap.size := World.block_lt_of_cell? W ⟨B + 1, 0, none⟩ h.r.1
theorem AB.grown {W W' : World} {B : Nat} {S : Int} {v1 v2 v3 : Value} {row : Option Nat} (h : AB W B S v1 v2 v3) (hg : W.grownBy W' row) (hr : ∀ g, row = some g → B + 2 ≤ g) : AB W' B S v1 v2 v3 :=
  ⟨h.n.grown hg (fun e => by have := hr _ e.symm; omega), h.r.grown hg (fun e => by have := hr _ e.symm; omega), fun c => (World.frozen?_of_block (hg.block (B + 1) h.lt (fun e => by have := hr _ e.symm; omega))).trans (h.f c)⟩
theorem AB.later {W W' : World} {B : Nat} {S : Int} {v1 v2 v3 : Value} (h : AB W B S v1 v2 v3) (hb : Below W.heap.size W W') : AB W' B S v1 v2 v3 := h.grown (grown_below hb) (fun g hg => by cases hg)
/-- The answer is put in its place. -/
def put4 (W : World) (b : Nat) (x y z u : Value) : World := (((W.setCell ⟨b, 0, none⟩ x).setCell ⟨b, 1, none⟩ y).setCell ⟨b, 2, none⟩ z).setCell ⟨b, 3, none⟩ u
theorem below_put4 {B : Nat} {a W : World} (h : Below B a W) (b : Nat) (hb : B ≤ b) (x y z u : Value) : Below B a (put4 W b x y z u) := (((h.setCell hb _).setCell hb _).setCell hb _).setCell hb _
theorem grown_put4 (W : World) (b : Nat) (x y z u : Value) : W.grownBy (put4 W b x y z u) (some b) := by
  have h1 := grown_set W b 0 x
  have h2 := grown_set (W.setCell ⟨b, 0, none⟩ x) b 1 y
  have h3 := grown_set ((W.setCell ⟨b, 0, none⟩ x).setCell ⟨b, 1, none⟩ y) b 2 z
  have h4 := grown_set (((W.setCell ⟨b, 0, none⟩ x).setCell ⟨b, 1, none⟩ y).setCell ⟨b, 2, none⟩ z) b 3 u
  exact ⟨rfl, rfl, rfl, Nat.le_trans (Nat.le_trans (Nat.le_trans h1.size h2.size) h3.size) h4.size, fun k hk hne => (((h4.block k (Nat.lt_of_lt_of_le hk (Nat.le_trans (Nat.le_trans h1.size h2.size) h3.size)) hne).trans (h3.block k (Nat.lt_of_lt_of_le hk (Nat.le_trans h1.size h2.size)) hne)).trans (h2.block k (Nat.lt_of_lt_of_le hk h1.size) hne)).trans (h1.block k hk hne)⟩
end Go.Proofs.Ytokkmnednhigmae
