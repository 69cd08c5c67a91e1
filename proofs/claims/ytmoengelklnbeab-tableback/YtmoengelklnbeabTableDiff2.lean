/- What table.Diff answers. -/
import Derived.Test.YtmoengelklnbeabTableDiff
namespace Go.Proofs.Ytmoengelklnbeab
open Go.RowKit
set_option linter.unusedSimpArgs false
set_option linter.unusedVariables false

theorem bey_le (A B : List Ru) : (bey A B).length ≤ A.length := List.length_filter_le _ _
theorem taken_next {D : List Ru} {k : Nat} (hk : k < D.length) : taken (D.take (k + 1)) = taken (D.take k) ++ [⟨0, false, D[k]⟩] := by
  rw [List.take_succ_eq_append_getElem hk]
  simp only [taken, List.map_append, List.map_cons, List.map_nil]
theorem added_next {D : List Ru} {k : Nat} (hk : k < D.length) (C : List Op8) : C ++ added (D.take (k + 1)) = (C ++ added (D.take k)) ++ [⟨0, true, D[k]⟩] := by
  rw [List.take_succ_eq_append_getElem hk]
  simp only [added, List.map_append, List.map_cons, List.map_nil, List.append_assoc]
theorem taken_len (D : List Ru) : (taken D).length = D.length := by simp [taken]
theorem added_len (D : List Ru) : (added D).length = D.length := by simp [added]

set_option maxHeartbeats 10000000 in
set_option maxRecDepth 100000 in
theorem diff_ok (ao : Option Addr) (n cap : Nat) (ao2 : Option Addr) (n2 cap2 : Nat) (L M : List Ru) (w : World) (hs : SR w (.slice ao n cap) L) (ht : SR w (.slice ao2 n2 cap2) M) (h0 : twN L M = 0) :
    Calls Try.prog 7 #[.slice ao n cap, .slice ao2 n2 cap2] w fun e w' => ∃ u, e = .returned (.tuple #[u, .nilIface]) ∧ SO w' u (taken (bey L M) ++ added (bey M L)) ∧ Below w.heap.size w w' := by
  have HS : Hid (SR w (.slice ao n cap) L) := hs
  have HT : Hid (SR w (.slice ao2 n2 cap2) M) := ht
  have H0 : Hid (twN L M = 0) := h0
  have HL : Hid (L.length ≤ 12 ∧ M.length ≤ 12) := ⟨(tb_iff.1 (tw_two h0).1).1, (tb_iff.1 (tw_two h0).2).1⟩
  clear hs ht h0
  go_enter Try.func7, Try.ntmps7
  go_wp2_with fail
  refine (check_any2 _ _ L M _ HS.out HT.out).mono ?_
  rintro e w1 ⟨rfl, hb1⟩
  rw [no_ok H0.out]
  have HS1 : Hid (SR w1 (.slice ao n cap) L) := HS.out.later hb1
  have HT1 : Hid (SR w1 (.slice ao2 n2 cap2) M) := HT.out.later hb1
  have HB1 : Hid (Below w.heap.size w w1) := hb1
  clear hb1
  go_wp2_with fail
  refine (beyond_any _ _ _ _ _ _ L M _ HS1.out HT1.out (by have := HL.out; omega)).mono ?_
  rintro e w2 ⟨ao3, n3, cap3, rfl, hn3, hown, hb2⟩
  have HD0 : Hid ((bey L M).length ≤ 12) := Nat.le_trans (bey_le L M) HL.out.1
  obtain ⟨D, hD⟩ : ∃ D, D = bey L M := ⟨_, rfl⟩
  rw [← hD] at hn3 hown HD0
  have HD : Hid (D = bey L M) := hD
  have HN3 : Hid (D.length = n3) := hn3.symm
  have hn12 : n3 ≤ 12 := by have := HD0.out; omega
  have HR : Hid (w2.ownsRow w.heap.size 25 6 (.slice ao3 n3 cap3) D.length (cellsR D)) := own_mono hown HB1.out.size
  have HB2 : Hid (Below w.heap.size w w2) := HB1.out.trans (hb2.mono HB1.out.size)
  clear hn3 hown hb2 hD HS1 HT1 HB1
  go_upto_block 0 with fail
  go_cut [7] from 6 (fun u w' => w'.ownsRow w.heap.size 52 8 u (taken (bey L M)).length (cellsO (taken (bey L M))) ∧ Below w.heap.size w w')
  case first =>
    go_wp2
    go_loopw [7, 22] (fun u i wr => ∃ k : Nat, k ≤ n3 ∧ i = .int .i64 k ∧ wr.ownsRow w.heap.size 52 8 u (taken (D.take k)).length (cellsO (taken (D.take k))) ∧ wr.ownsRow w.heap.size 25 6 (.slice ao3 n3 cap3) D.length (cellsR D) ∧ Below w.heap.size w wr) (fun _ i _ => n3 - (intOf i).toNat)
    case atStart => exact ⟨0, by omega, rfl, World.ownsRow_nil _ _ _ _, HR.out, HB2.out⟩
    case round =>
      obtain ⟨k, hk, rfl, hop, hru, hB⟩ := hrel
      have HOP : Hid (wr.ownsRow w.heap.size 52 8 u7 (taken (D.take k)).length (cellsO (taken (D.take k)))) := hop
      have HRU : Hid (wr.ownsRow w.heap.size 25 6 (.slice ao3 n3 cap3) D.length (cellsR D)) := hru
      have HB : Hid (Below w.heap.size w wr) := hB
      clear hop hB HR HB2
      by_cases hlt : k < n3
      · obtain ⟨ao', n', cap', e, _, _, _, ha⟩ := (own_SR hru).form
        cases e
        obtain ⟨g, og, rfl, hRA, _⟩ := ha (by omega)
        obtain ⟨p, m, b, q, s, v, hkl, hLk, q0, q1, q2, q3, q4, q5⟩ := hRA.at HN3.out hlt
        have HT2 : Hid (taken (D.take (k + 1)) = taken (D.take k) ++ [⟨0, false, ⟨p, m, b, q, s, v⟩⟩]) := by
          show _ = _
          rw [taken_next hkl, hLk]
        have HK : Hid ((taken (D.take k)).length ≤ 1000) := by
          show _ ≤ 1000
          rw [taken_len, List.length_take]
          omega
        have hBA := (Below.refl wr.heap.size wr).alloc (Nat.le_refl _) (Obj.cells #[Value.int IntKind.i64 p, Value.int IntKind.i64 m, Value.int IntKind.i64 b, Value.int IntKind.i64 q, Value.int IntKind.i64 s, Value.int IntKind.i64 v] 25)
        have hBB := hBA.alloc (by simp) (Obj.cells #[Value.int IntKind.i64 0, Value.bool false, Value.int IntKind.i64 p, Value.int IntKind.i64 m, Value.int IntKind.i64 b, Value.int IntKind.i64 q, Value.int IntKind.i64 s, Value.int IntKind.i64 v] 52)
        have HBB := hBB
        have HC8 := C8.new (wr.alloc (Obj.cells #[Value.int IntKind.i64 p, Value.int IntKind.i64 m, Value.int IntKind.i64 b, Value.int IntKind.i64 q, Value.int IntKind.i64 s, Value.int IntKind.i64 v] 25)) 0 false p m b q s v 52
        simp only [World.size_alloc] at HC8
        clear hRA hLk ha hBA hru
        go_wp2_with (at_builtin; refine wpList_append_op _ rfl _ _ 35 rfl Try.underlying35 w.heap.size _ rfl _ (own_below HOP.out hBB) _ rfl _ HC8 HK.out (HB.out.trans (hBB.mono HB.out.size)).size ?_)
        intro v' w3 hown3 hgrow
        have hO3 := own_below HOP.out hBB
        have HR3 : Hid (w3.ownsRow w.heap.size 25 6 (.slice (some ⟨g, og, none⟩) n3 cap3) D.length (cellsR D)) := (own_below HRU.out hBB).kept hgrow (own_apart (own_below HRU.out hBB) hO3 (by decide))
        have HB3 : Hid (Below w.heap.size w w3) := (HB.out.trans (hBB.mono HB.out.size)).grown hgrow (HB.out.trans (hBB.mono HB.out.size)).size (fun g hg => (hO3.lt g hg).1)
        have HO3 : Hid (w3.ownsRow w.heap.size 52 8 v' (taken (D.take (k + 1))).length (cellsO (taken (D.take (k + 1))))) := by
          show World.ownsRow _ _ _ _ _ _ _
          rw [HT2.out, List.length_append]
          exact hown3
        clear hown3 hgrow hO3 hBB HBB HC8 q0 q1 q2 q3 q4 q5
        go_wp2
        go_roundw
        case rel => exact ⟨k + 1, by omega, by go_num, HO3.out, HR3.out, HB3.out⟩
        case measure => simp [intOf]; omega
      · obtain rfl : k = n3 := by omega
        go_wp2_with fail
        go_meet
        case rel =>
          refine ⟨?_, HB.out⟩
          have h1 := HOP.out
          rw [← HN3.out, List.take_length, HD.out] at h1
          exact h1
  case rest =>
    obtain ⟨hop, hB⟩ := hcut
    obtain ⟨C, hC⟩ : ∃ C, C = taken (bey L M) := ⟨_, rfl⟩
    have HC : Hid (C = taken (bey L M)) := hC
    have HCL : Hid (C.length ≤ 12) := by
      show C.length ≤ 12
      rw [hC, taken_len]
      exact Nat.le_trans (bey_le L M) HL.out.1
    rw [← hC] at hop
    have HOC : Hid (wc.ownsRow w.heap.size 52 8 u7 C.length (cellsO C)) := hop
    have HBC : Hid (Below w.heap.size w wc) := hB
    have HS1 : Hid (SR wc (.slice ao n cap) L) := HS.out.later hB
    have HT1 : Hid (SR wc (.slice ao2 n2 cap2) M) := HT.out.later hB
    clear hop hB hC HR HB2 HN3 HD HD0 hn12
    clear D
    go_wp2_with fail
    refine (beyond_any _ _ _ _ _ _ M L _ HT1.out HS1.out (by have := HL.out; omega)).mono ?_
    rintro e w2 ⟨ao3, n3, cap3, rfl, hn3, hown, hb2⟩
    have HD0 : Hid ((bey M L).length ≤ 12) := Nat.le_trans (bey_le M L) HL.out.2
    obtain ⟨D, hD⟩ : ∃ D, D = bey M L := ⟨_, rfl⟩
    rw [← hD] at hn3 hown HD0
    have HD : Hid (D = bey M L) := hD
    have HN3 : Hid (D.length = n3) := hn3.symm
    have hn12 : n3 ≤ 12 := by have := HD0.out; omega
    have HR : Hid (w2.ownsRow w.heap.size 25 6 (.slice ao3 n3 cap3) D.length (cellsR D)) := own_mono hown HBC.out.size
    have HOC2 : Hid (w2.ownsRow w.heap.size 52 8 u7 C.length (cellsO C)) := own_below HOC.out hb2
    have HB2 : Hid (Below w.heap.size w w2) := HBC.out.trans (hb2.mono HBC.out.size)
    clear hn3 hown hb2 hD HS1 HT1
    go_wp2
    go_loopw [7, 36] (fun u i wr => ∃ k : Nat, k ≤ n3 ∧ i = .int .i64 k ∧ wr.ownsRow w.heap.size 52 8 u (C ++ added (D.take k)).length (cellsO (C ++ added (D.take k))) ∧ wr.ownsRow w.heap.size 25 6 (.slice ao3 n3 cap3) D.length (cellsR D) ∧ Below w.heap.size w wr) (fun _ i _ => n3 - (intOf i).toNat)
    case atStart => exact ⟨0, by omega, rfl, by have := HOC2.out; simpa [added] using this, HR.out, HB2.out⟩
    case round =>
      obtain ⟨k, hk, rfl, hop, hru, hB⟩ := hrel
      have HOP : Hid (wr.ownsRow w.heap.size 52 8 u7 (C ++ added (D.take k)).length (cellsO (C ++ added (D.take k)))) := hop
      have HRU : Hid (wr.ownsRow w.heap.size 25 6 (.slice ao3 n3 cap3) D.length (cellsR D)) := hru
      have HB : Hid (Below w.heap.size w wr) := hB
      clear hop hB HR HB2 HOC2
      by_cases hlt : k < n3
      · obtain ⟨ao', n', cap', e, _, _, _, ha⟩ := (own_SR hru).form
        cases e
        obtain ⟨g, og, rfl, hRA, _⟩ := ha (by omega)
        obtain ⟨p, m, b, q, s, v, hkl, hLk, q0, q1, q2, q3, q4, q5⟩ := hRA.at HN3.out hlt
        have HT2 : Hid (C ++ added (D.take (k + 1)) = C ++ added (D.take k) ++ [⟨0, true, ⟨p, m, b, q, s, v⟩⟩]) := by
          show _ = _
          rw [added_next hkl, hLk]
        have HK : Hid ((C ++ added (D.take k)).length ≤ 1000) := by
          show _ ≤ 1000
          rw [List.length_append, added_len, List.length_take]
          have := HCL.out
          omega
        have hBA := (Below.refl wr.heap.size wr).alloc (Nat.le_refl _) (Obj.cells #[Value.int IntKind.i64 p, Value.int IntKind.i64 m, Value.int IntKind.i64 b, Value.int IntKind.i64 q, Value.int IntKind.i64 s, Value.int IntKind.i64 v] 25)
        have hBB := hBA.alloc (by simp) (Obj.cells #[Value.int IntKind.i64 0, Value.bool true, Value.int IntKind.i64 p, Value.int IntKind.i64 m, Value.int IntKind.i64 b, Value.int IntKind.i64 q, Value.int IntKind.i64 s, Value.int IntKind.i64 v] 52)
        have HBB := hBB
        have HC8 := C8.new (wr.alloc (Obj.cells #[Value.int IntKind.i64 p, Value.int IntKind.i64 m, Value.int IntKind.i64 b, Value.int IntKind.i64 q, Value.int IntKind.i64 s, Value.int IntKind.i64 v] 25)) 0 true p m b q s v 52
        simp only [World.size_alloc] at HC8
        clear hRA hLk ha hBA hru
        go_wp2_with (at_builtin; refine wpList_append_op _ rfl _ _ 35 rfl Try.underlying35 w.heap.size _ rfl _ (own_below HOP.out hBB) _ rfl _ HC8 HK.out (HB.out.trans (hBB.mono HB.out.size)).size ?_)
        intro v' w3 hown3 hgrow
        have hO3 := own_below HOP.out hBB
        have HR3 : Hid (w3.ownsRow w.heap.size 25 6 (.slice (some ⟨g, og, none⟩) n3 cap3) D.length (cellsR D)) := (own_below HRU.out hBB).kept hgrow (own_apart (own_below HRU.out hBB) hO3 (by decide))
        have HB3 : Hid (Below w.heap.size w w3) := (HB.out.trans (hBB.mono HB.out.size)).grown hgrow (HB.out.trans (hBB.mono HB.out.size)).size (fun g hg => (hO3.lt g hg).1)
        have HO3 : Hid (w3.ownsRow w.heap.size 52 8 v' (C ++ added (D.take (k + 1))).length (cellsO (C ++ added (D.take (k + 1))))) := by
          show World.ownsRow _ _ _ _ _ _ _
          rw [HT2.out, List.append_assoc, List.length_append, List.length_append]
          exact hown3
        clear hown3 hgrow hO3 hBB HBB HC8 q0 q1 q2 q3 q4 q5
        go_wp2
        go_roundw
        case rel => exact ⟨k + 1, by omega, by go_num, HO3.out, HR3.out, HB3.out⟩
        case measure => simp [intOf]; omega
      · obtain rfl : k = n3 := by omega
        have HFI : Hid (SO wr u7 (taken (bey L M) ++ added (bey M L))) := by
          have h1 := HOP.out
          rw [← HN3.out, List.take_length, HD.out] at h1
          have h2 := own_SO h1
          rw [HC.out] at h2
          exact h2
        go_wp2
        refine bodyPost_ret (v := .tuple #[u7, .nilIface]) (by simp [results, Try.results7, go_sem]) rfl ⟨_, rfl, HFI.out, HB.out⟩

set_option maxHeartbeats 1000000 in
set_option maxRecDepth 100000 in
theorem diff_any (ao : Option Addr) (n cap : Nat) (ao2 : Option Addr) (n2 cap2 : Nat) (L M : List Ru) (w : World) (hs : SR w (.slice ao n cap) L) (ht : SR w (.slice ao2 n2 cap2) M) :
    Calls Try.prog 7 #[.slice ao n cap, .slice ao2 n2 cap2] w fun e w' => ∃ u, e = .returned (.tuple #[u, noV (twN L M)]) ∧ SO w' u (dfL L M) ∧ Below w.heap.size w w' := by
  by_cases h1 : twN L M = 0
  · rw [no_ok h1, df_ok h1]
    exact diff_ok ao n cap ao2 n2 cap2 L M w hs ht h1
  · rw [no_ne h1, df_ne h1]
    have HS : Hid (SR w (.slice ao n cap) L) := hs
    have HT : Hid (SR w (.slice ao2 n2 cap2) M) := ht
    have H1 : Hid (twN L M ≠ 0) := h1
    clear hs ht h1
    go_enter Try.func7, Try.ntmps7
    go_wp2_with fail
    refine (check_any2 _ _ L M _ HS.out HT.out).mono ?_
    rintro e w1 ⟨rfl, hb1⟩
    rw [no_ne H1.out]
    have HB1 : Hid (Below w.heap.size w w1) := hb1
    clear hb1
    go_wp2
    refine bodyPost_ret (v := .tuple #[.slice none 0 0, .iface 45 (.int .i64 (twN L M))]) (by simp [results, Try.results7, go_sem]) rfl ⟨_, rfl, SO.nil _, HB1.out⟩

theorem al_step {L : List Ru} {O : List Op8} {k : Nat} (hk : k < O.length) : alN L (O.drop k) = (if doN L (O[k]).a (O[k]).r = 0 then alN (doL L (O[k]).a (O[k]).r) (O.drop (k + 1)) else doN L (O[k]).a (O[k]).r) ∧ alL L (O.drop k) = (if doN L (O[k]).a (O[k]).r = 0 then alL (doL L (O[k]).a (O[k]).r) (O.drop (k + 1)) else []) := by
  rw [List.drop_eq_getElem_cons hk, alN, alL]
  exact ⟨rfl, rfl⟩

set_option maxHeartbeats 4000000 in
set_option maxRecDepth 100000 in
theorem all_any (ao : Option Addr) (n cap : Nat) (ao2 : Option Addr) (n2 cap2 : Nat) (L : List Ru) (O : List Op8) (w : World) (hs : SR w (.slice ao n cap) L) (ht : SO w (.slice ao2 n2 cap2) O) (h1000 : L.length ≤ 1000) :
    Calls Try.prog 8 #[.slice ao n cap, .slice ao2 n2 cap2] w fun e w' => ∃ u, e = .returned (.tuple #[u, noV (alN L O)]) ∧ SR w' u (alL L O) ∧ Below w.heap.size w w' := by
  have hp := pat1 32 hs
  have hB0 : Below w.heap.size w (w.alloc (.cells #[.slice ao n cap] 32)) := (Below.refl _ _).alloc (Nat.le_refl _) _
  have HP : Hid (PAt (w.alloc (.cells #[.slice ao n cap] 32)) w.heap.size 0 [L]) := hp
  have HB0 : Hid (Below w.heap.size w (w.alloc (.cells #[.slice ao n cap] 32))) := hB0
  have HL2 : Hid ([L].flatten.length ≤ 1000) := by show _ ≤ 1000; simpa using h1000
  obtain ⟨ao', n', cap', e, hn, hn2, hn3, ha⟩ := ht.form
  cases e
  have HN : Hid (O.length = n2) := hn
  have HA : Hid (0 < n2 → ∃ g o, ao2 = some ⟨g, o, none⟩ ∧ OAt w g o O ∧ cap2 ≤ maxLen) := ha
  have hn63 : n2 ≤ 9223372036854775807 := by unfold maxLen at hn2; omega
  clear hs ht hp hB0 h1000 hn ha hn2
  obtain ⟨N, hN⟩ : ∃ N, N = alN L O := ⟨_, rfl⟩
  obtain ⟨R, hR⟩ : ∃ R, R = alL L O := ⟨_, rfl⟩
  rw [← hN, ← hR]
  have HNN : Hid (N = alN L O) := hN
  have HRR : Hid (R = alL L O) := hR
  clear hN hR
  go_enter Try.func8, Try.ntmps8
  go_wp2_with fail
  refine (concat_any _ 0 1 1 [L] _ rfl (by omega) HP.out HL2.out).mono ?_
  rintro e w1 ⟨u, rfl, hown, hb1⟩
  have hsr := own_SR hown
  obtain ⟨ao3, n3, cap3, rfl, _⟩ := hsr.form
  have HS1 : Hid (SR w1 (.slice ao3 n3 cap3) L) := by
    have e1 : [L].flatten = L := by simp
    rw [e1] at hsr
    exact hsr
  have HB1 : Hid (Below w.heap.size w w1) := HB0.out.trans (hb1.mono HB0.out.size)
  clear hown hb1 hsr HP HL2
  go_wp2
  go_loopw [6, 16] (fun u i wr => ∃ k : Nat, k ≤ n2 ∧ i = .int .i64 k ∧ (∃ a4 n4 c4 K, u = .slice a4 n4 c4 ∧ SR wr (.slice a4 n4 c4) K ∧ N = alN K (O.drop k) ∧ R = alL K (O.drop k)) ∧ Below w.heap.size w wr) (fun _ i _ => n2 - (intOf i).toNat)
  case atStart => exact ⟨0, by omega, rfl, ⟨_, _, _, L, rfl, HS1.out, by rw [HNN.out]; rfl, by rw [HRR.out]; rfl⟩, HB1.out⟩
  case round =>
    obtain ⟨k, hk, rfl, ⟨a4, n4, c4, K, rfl, hsr, hN, hR⟩, hB⟩ := hrel
    have HS : Hid (SR wr (.slice a4 n4 c4) K) := hsr
    have HB : Hid (Below w.heap.size w wr) := hB
    have HN4 : Hid (N = alN K (O.drop k)) := hN
    have HR4 : Hid (R = alL K (O.drop k)) := hR
    clear HS1 HB1 hsr hN hR
    by_cases hlt : k < n2
    · obtain ⟨g, og, hao, hOA, _⟩ := HA.out (by omega)
      subst hao
      obtain ⟨y, a, p, m, b, q, s, v, hkl, hOk, q0, q1, q2, q3, q4, q5, q6, q7⟩ := (hOA.later hB).at HN.out hlt
      have hBA : Below wr.heap.size wr (wr.alloc (Obj.cells #[Value.int IntKind.i64 y, Value.bool a, Value.int IntKind.i64 p, Value.int IntKind.i64 m, Value.int IntKind.i64 b, Value.int IntKind.i64 q, Value.int IntKind.i64 s, Value.int IntKind.i64 v] 52)) := (Below.refl _ _).alloc (Nat.le_refl _) _
      have HSA : Hid (SR (wr.alloc (Obj.cells #[Value.int IntKind.i64 y, Value.bool a, Value.int IntKind.i64 p, Value.int IntKind.i64 m, Value.int IntKind.i64 b, Value.int IntKind.i64 q, Value.int IntKind.i64 s, Value.int IntKind.i64 v] 52)) (.slice a4 n4 c4) K) := HS.out.later hBA
      have HBA : Hid (Below w.heap.size w (wr.alloc (Obj.cells #[Value.int IntKind.i64 y, Value.bool a, Value.int IntKind.i64 p, Value.int IntKind.i64 m, Value.int IntKind.i64 b, Value.int IntKind.i64 q, Value.int IntKind.i64 s, Value.int IntKind.i64 v] 52))) := hB.trans (hBA.mono hB.size)
      have hst := al_step (L := K) hkl
      rw [hOk] at hst
      simp only at hst
      have HA2 : Hid (0 < n2 → ∃ g' o', some (⟨g, og, none⟩ : Addr) = some ⟨g', o', none⟩ ∧ OAt w g' o' O ∧ cap2 ≤ maxLen) := HA.out
      clear hOA hOk hB hBA HA HS
      by_cases hd : doN K a ⟨p, m, b, q, s, v⟩ = 0
      · have HD : Hid (doN K a ⟨p, m, b, q, s, v⟩ = 0) := hd
        rw [if_pos hd, if_pos hd] at hst
        have HN5 : Hid (N = alN (doL K a ⟨p, m, b, q, s, v⟩) (O.drop (k + 1))) := HN4.out.trans hst.1
        have HR5 : Hid (R = alL (doL K a ⟨p, m, b, q, s, v⟩) (O.drop (k + 1))) := HR4.out.trans hst.2
        clear hd hst
        go_wp2_with fail
        refine (do_any a4 n4 c4 a p m b q s v K _ HSA.out).mono ?_
        rintro e w2 ⟨x, rfl, hx, hb2⟩
        rw [no_ok HD.out]
        obtain ⟨a5, n5, c5, rfl, _⟩ := hx.form
        have HX : Hid (SR w2 (.slice a5 n5 c5) (doL K a ⟨p, m, b, q, s, v⟩)) := hx
        have HB2 : Hid (Below w.heap.size w w2) := HBA.out.trans (hb2.mono HBA.out.size)
        clear hb2 hx q0 q1 q2 q3 q4 q5 q6 q7
        go_wp2
        go_roundw
        case rel => exact ⟨k + 1, by omega, by go_num, ⟨_, _, _, _, rfl, HX.out, HN5.out, HR5.out⟩, HB2.out⟩
        case measure => simp [intOf]; omega
      · have HD : Hid (doN K a ⟨p, m, b, q, s, v⟩ ≠ 0) := hd
        rw [if_neg hd, if_neg hd] at hst
        have HN5 : Hid (N = doN K a ⟨p, m, b, q, s, v⟩) := HN4.out.trans hst.1
        have HR5 : Hid (R = []) := HR4.out.trans hst.2
        clear hd hst
        go_wp2_with fail
        refine (do_any a4 n4 c4 a p m b q s v K _ HSA.out).mono ?_
        rintro e w2 ⟨x, rfl, hx, hb2⟩
        rw [no_ne HD.out]
        have HB2 : Hid (Below w.heap.size w w2) := HBA.out.trans (hb2.mono HBA.out.size)
        clear hb2 hx q0 q1 q2 q3 q4 q5 q6 q7
        go_wp2
        refine bodyPost_ret (v := .tuple #[.slice none 0 0, .iface 45 (.int .i64 (doN K a ⟨p, m, b, q, s, v⟩))]) (by simp [results, Try.results8, go_sem]) rfl ⟨_, by rw [HN5.out, no_ne HD.out], by rw [HR5.out]; exact SR.nil _, HB2.out⟩
    · obtain rfl : k = n2 := by omega
      have HE : Hid (N = 0 ∧ R = K) := by
        have e1 : O.drop k = [] := List.drop_eq_nil_of_le (by rw [HN.out]; exact Nat.le_refl _)
        have h1 := HN4.out
        have h2 := HR4.out
        rw [e1] at h1 h2
        exact ⟨h1, h2⟩
      clear hB
      go_wp2
      refine bodyPost_ret (v := .tuple #[.slice a4 n4 c4, .nilIface]) (by simp [results, Try.results8, go_sem]) rfl ⟨_, by rw [HE.out.1]; rfl, by rw [HE.out.2]; exact HS.out, HB.out⟩
end Go.Proofs.Ytmoengelklnbeab
