/- What topo.Check answers: a contract for the walks above it. -/
import Derived.Test.YtfbocionnjliladTopoSettle
import Derived.Carry
namespace Go.Proofs.Ytfbocionnjlilad
open Go.RowKit
set_option linter.unusedSimpArgs false
set_option linter.unusedVariables false

/-- A topology in a box. -/
def TBox (W : World) (g : Nat) (S : Int) (v1 v2 : Value) : Prop := W.cell? ⟨g, 0, none⟩ = some (.int .i64 S) ∧ W.cell? ⟨g, 1, none⟩ = some v1 ∧ W.cell? ⟨g, 2, none⟩ = some v2
theorem tbox_new (w : World) (S : Int) (v1 v2 : Value) (t : TypeId) : TBox (w.alloc (Obj.cells #[.int .i64 S, v1, v2] t)) w.heap.size S v1 v2 := by
  refine ⟨?_, ?_, ?_⟩ <;> simp
theorem TBox.lt {W : World} {g : Nat} {S : Int} {v1 v2 : Value} (h : TBox W g S v1 v2) : g < W.heap.size := World.block_lt_of_cell? _ _ h.1
theorem TBox.but {X : List Nat} {W W' : World} {g : Nat} {S : Int} {v1 v2 : Value} (h : TBox W g S v1 v2) (hb : But X W W') (hX : g ∉ X) : TBox W' g S v1 v2 :=
  ⟨(hb.cell (p := ⟨g, 0, none⟩) h.lt hX).trans h.1, (hb.cell (p := ⟨g, 1, none⟩) h.lt hX).trans h.2.1, (hb.cell (p := ⟨g, 2, none⟩) h.lt hX).trans h.2.2⟩
theorem TBox.later {W W' : World} {g : Nat} {S : Int} {v1 v2 : Value} (h : TBox W g S v1 v2) (hb : Below W.heap.size W W') : TBox W' g S v1 v2 := h.but (X := []) (But.of_below hb) (by simp)

set_option maxHeartbeats 1000000 in
set_option maxRecDepth 100000 in
theorem tcheck_range (S : Int) (v1 v2 : Value) (w : World) (h : ¬ (1 ≤ S ∧ S ≤ 6)) :
    Calls Try.prog 27 #[.agg #[.int .i64 S, v1, v2]] w fun e w' => e = .returned (.iface 57 (.int .i64 1)) ∧ Below w.heap.size w w' := by
  have HB0 : Hid (Below w.heap.size w (w.alloc (Obj.cells #[.int .i64 S, v1, v2] 25))) := (Below.refl _ _).alloc (Nat.le_refl _) _
  by_cases h1 : S < 1
  · clear h
    go_enter Try.func27, Try.ntmps27
    go_wp2
    go_ret
    exact ⟨rfl, HB0.out⟩
  · have h6 : 6 < S := by omega
    clear h
    go_enter Try.func27, Try.ntmps27
    go_wp2
    go_ret
    exact ⟨rfl, HB0.out⟩
set_option maxHeartbeats 1000000 in
set_option maxRecDepth 100000 in
theorem check_full (S : Int) (ao : Option Addr) (n cap : Nat) (ao2 : Option Addr) (n2 cap2 : Nat) (w : World) (h1 : 1 ≤ S) (h6 : S ≤ 6) (h : 200 < n ∨ 8 < n2) :
    Calls Try.prog 27 #[.agg #[.int .i64 S, .slice ao n cap, .slice ao2 n2 cap2]] w fun e w' => e = .returned (.iface 57 (.int .i64 4)) ∧ Below w.heap.size w w' := by
  have HB0 : Hid (Below w.heap.size w (w.alloc (Obj.cells #[.int .i64 S, .slice ao n cap, .slice ao2 n2 cap2] 25))) := (Below.refl _ _).alloc (Nat.le_refl _) _
  have g1 : ¬ S < 1 := by omega
  have g6 : ¬ 6 < S := by omega
  by_cases hn : (200 : Int) < (n : Int)
  · clear h
    go_enter Try.func27, Try.ntmps27
    go_wp2
    go_ret
    exact ⟨rfl, HB0.out⟩
  · have hn2 : (8 : Int) < (n2 : Int) := by omega
    clear h
    go_enter Try.func27, Try.ntmps27
    go_wp2
    go_ret
    exact ⟨rfl, HB0.out⟩

set_option maxHeartbeats 2000000 in
set_option maxRecDepth 100000 in
theorem check_walk (S : Int) (ao : Option Addr) (n cap : Nat) (ao2 : Option Addr) (n2 cap2 : Nat) (Ls : List ((Int × Int) × (Int × Int))) (Hs : List (ByteArray × (Int × Int))) (w : World)
    (hL : GS lnkE w (.slice ao n cap) Ls) (hH : GS hstE w (.slice ao2 n2 cap2) Hs) (h1 : 1 ≤ S) (h6 : S ≤ 6) (hn : n ≤ 200) (hn2 : n2 ≤ 8) (T : Int) (hT : T = tpN S Ls Hs) :
    Calls Try.prog 27 #[.agg #[.int .i64 S, .slice ao n cap, .slice ao2 n2 cap2]] w fun e w' => e = .returned (noV T) ∧ Below w.heap.size w w' := by
  obtain ⟨_, _, _, e1, hLn, _, _, hLa⟩ := hL.form
  cases e1
  obtain ⟨_, _, _, e2, hHn, _, _, hHa⟩ := hH.form
  cases e2
  have HLN : Hid (Ls.length = n) := hLn
  have HHN : Hid (Hs.length = n2) := hHn
  have HLA : Hid (0 < n → ∃ g o, ao = some ⟨g, o, none⟩ ∧ GAt lnkE w g o Ls ∧ cap ≤ maxLen) := hLa
  have HHA : Hid (0 < n2 → ∃ g o, ao2 = some ⟨g, o, none⟩ ∧ GAt hstE w g o Hs ∧ cap2 ≤ maxLen) := hHa
  have HT : Hid (T = if lkN S Ls [] = 0 then hoN S Hs [] (spsL Ls) else lkN S Ls []) := by
    show T = _
    rw [hT, tpN, if_pos (by simp [h1, h6]), if_pos (by simp [hLn, hHn, hn, hn2])]
  have g1 : ¬ S < 1 := by omega
  have g6 : ¬ 6 < S := by omega
  have gn : ¬ (200 : Int) < (n : Int) := by omega
  have gn2 : ¬ (8 : Int) < (n2 : Int) := by omega
  clear hL hH hLn hHn hLa hHa hT h1 h6
  have hX := tbox_new w S (.slice ao n cap) (.slice ao2 n2 cap2) 25
  have hB0 : Below w.heap.size w (w.alloc (Obj.cells #[.int .i64 S, .slice ao n cap, .slice ao2 n2 cap2] 25)) := (Below.refl _ _).alloc (Nat.le_refl _) _
  have HX : Hid (TBox (w.alloc (Obj.cells #[.int .i64 S, .slice ao n cap, .slice ao2 n2 cap2] 25)) w.heap.size S (.slice ao n cap) (.slice ao2 n2 cap2)) := hX
  have HB0 : Hid (Below w.heap.size w (w.alloc (Obj.cells #[.int .i64 S, .slice ao n cap, .slice ao2 n2 cap2] 25))) := hB0
  have hsz0 : (w.alloc (Obj.cells #[.int .i64 S, .slice ao n cap, .slice ao2 n2 cap2] 25)).heap.size = w.heap.size + 1 := by simp
  clear hX hB0
  go_enter Try.func27, Try.ntmps27
  go_upto_region 5 with fail
  generalize hw0 : w.alloc (Obj.cells #[.int .i64 S, .slice ao n cap, .slice ao2 n2 cap2] 25) = w0 at *
  have HW0 : Hid (w.alloc (Obj.cells #[.int .i64 S, .slice ao n cap, .slice ao2 n2 cap2] 25) = w0) := hw0
  have HSZ0 : Hid (w0.heap.size = w.heap.size + 1) := hsz0
  clear hw0 hsz0
  have hmk := run_makeMap (P := Try.prog) 71 w0
  have HM1 : Hid (MAt spotKey veI (w0.alloc (.map #[] 0)) w0.heap.size []) := mat_new spotKey veI w0
  have hbm : Below w0.heap.size w0 (w0.alloc (.map #[] 0)) := (Below.refl _ _).alloc (Nat.le_refl _) _
  have HX1 : Hid (TBox (w0.alloc (.map #[] 0)) w.heap.size S (.slice ao n cap) (.slice ao2 n2 cap2)) := HX.out.later hbm
  have HB1 : Hid (Below w.heap.size w (w0.alloc (.map #[] 0))) := HB0.out.trans (hbm.mono HB0.out.size)
  clear hbm
  obtain ⟨d0, d1, d2⟩ := HX1.out
  go_wp2
  clear d0 d1 d2
  obtain ⟨w1, hw1⟩ : ∃ x, w0.alloc (.map #[] 0) = x := ⟨_, rfl⟩
  obtain ⟨B, hBe⟩ : ∃ x, w0.heap.size = x := ⟨_, rfl⟩
  rw [hw1] at HX1 HB1
  rw [hw1, hBe] at HM1 ⊢
  have HBW : Hid (B = w.heap.size + 1) := by
    show B = _
    rw [← hBe, HSZ0.out]
  have HSZ1 : Hid (w1.heap.size = w.heap.size + 2) := by
    show _ = _
    rw [← hw1]
    have := HSZ0.out
    simp [this]
  clear hw1 hBe hmk HSZ0 HW0 HX HB0
  go_loopw [35] (fun i wr => ∃ k : Nat, k ≤ n ∧ i = .int .i64 k ∧ (∃ M, MAt spotKey veI wr B M ∧ TK sq M (spsL (Ls.take k))) ∧ lkN S Ls [] = lkN S (Ls.drop k) (spsL (Ls.take k)) ∧ But [B] w1 wr)
    (fun i _ => n - (intOf i).toNat)
  case atStart => exact ⟨0, by omega, rfl, ⟨[], HM1.out, by simpa [spsL] using tk_nil sq⟩, by simp [spsL], But.refl _ _⟩
  case round =>
    obtain ⟨k, hk, rfl, ⟨M, hM, hTK⟩, hlk, hBt⟩ := hrel
    have hnB : w.heap.size ∉ [B] := by simp [HBW.out]
    have hXr := HX1.out.but hBt hnB
    have hBw : Below w.heap.size w wr := HB1.out.trans (hBt.below (by rw [HSZ1.out]; omega) (by simp [HBW.out]))
    have HXr : Hid (TBox wr w.heap.size S (.slice ao n cap) (.slice ao2 n2 cap2)) := hXr
    have HBw : Hid (Below w.heap.size w wr) := hBw
    have HM : Hid (MAt spotKey veI wr B M) := hM
    have HTK : Hid (TK sq M (spsL (Ls.take k))) := hTK
    have HLK : Hid (lkN S Ls [] = lkN S (Ls.drop k) (spsL (Ls.take k))) := hlk
    have HBt : Hid (But [B] w1 wr) := hBt
    obtain ⟨b0, b1, b2⟩ := hXr
    have hlw : w.heap.size < wr.heap.size := World.block_lt_of_cell? _ _ b0
    clear hM hTK hlk hBt HM1
    by_cases hlt : k < n
    · obtain ⟨g, o, hao, hc, _⟩ := HLA.out (by omega)
      subst hao
      obtain ⟨x0, x1, x2, x3, hkl, hLk, q0, q1, q2, q3⟩ := lnk_at (hc.later hBw) HLN.out hlt
      have HLk : Hid (Ls[k] = ((x0, x1), (x2, x3))) := hLk
      have hBA : Below wr.heap.size wr (wr.alloc (Obj.cells #[Value.int IntKind.i64 x0, Value.int IntKind.i64 x1, Value.int IntKind.i64 x2, Value.int IntKind.i64 x3] 75)) := (Below.refl _ _).alloc (Nat.le_refl _) _
      have HBA : Hid (Below wr.heap.size wr (wr.alloc (Obj.cells #[Value.int IntKind.i64 x0, Value.int IntKind.i64 x1, Value.int IntKind.i64 x2, Value.int IntKind.i64 x3] 75))) := hBA
      have HUL : Hid ((spsL (Ls.take k)).length ≤ 1000) := by
        show _ ≤ 1000
        rw [sps_len, List.length_take]
        omega
      have HST : Hid (lkN S Ls [] = if lk1 S (spsL (Ls.take k)) ((x0, x1), (x2, x3)) = 0 then lkN S (Ls.drop (k + 1)) (spsL (Ls.take (k + 1))) else lk1 S (spsL (Ls.take k)) ((x0, x1), (x2, x3))) := by
        show _ = _
        rw [HLK.out, List.drop_eq_getElem_cons hkl, lk_step, hLk, sps_take hkl, hLk]
      have HSP : Hid (spsL (Ls.take (k + 1)) = spsL (Ls.take k) ++ [(x0, x1), (x2, x3)]) := by
        show _ = _
        rw [sps_take hkl, hLk]
      clear hLk hBA hBw hc HLA
      go_wp2_with fail
      refine (lay_any S x0 x1 x2 x3 B M _ _ (HM.out.later HBA.out) HTK.out HUL.out).mono ?_
      rintro e w3 ⟨rfl, hQ⟩
      have hst := HST.out
      generalize lk1 S (spsL (Ls.take k)) ((x0, x1), (x2, x3)) = N at hQ hst ⊢
      have HST2 : Hid (lkN S Ls [] = if N = 0 then lkN S (Ls.drop (k + 1)) (spsL (Ls.take (k + 1))) else N) := hst
      obtain ⟨M', hM', hTK', hBt'⟩ := hQ
      have HM' : Hid (MAt spotKey veI w3 B M') := hM'
      have HTK' : Hid (N = 0 → TK sq M' (spsL (Ls.take (k + 1)))) := fun h => by rw [HSP.out]; exact hTK' h
      have HBt3 : Hid (But [B] w1 w3) := (HBt.out.trans (But.of_below HBA.out)).trans hBt'
      have HBw3 : Hid (Below w.heap.size w w3) := HB1.out.trans (HBt3.out.below (by rw [HSZ1.out]; omega) (by simp [HBW.out]))
      clear hst HST hM' hTK' hBt' HSP HM HTK HLK HBt HBA HUL b0 b1 b2 q0 q1 q2 q3
      by_cases hN : N = 0
      · subst hN
        rw [no_ok rfl]
        have HTK2 : Hid (TK sq M' (spsL (Ls.take (k + 1)))) := HTK'.out rfl
        have HLK2 : Hid (lkN S Ls [] = lkN S (Ls.drop (k + 1)) (spsL (Ls.take (k + 1)))) := by
          show _ = _
          rw [HST2.out, if_pos rfl]
        clear HTK' HST2
        go_wp2
        go_roundw
        case rel => exact ⟨k + 1, by omega, by go_num, ⟨M', HM'.out, HTK2.out⟩, HLK2.out, HBt3.out⟩
        case measure => simp [intOf]; omega
      · rw [no_ne hN]
        have HTN : Hid (T = N) := by
          show _ = _
          have e := HST2.out
          rw [if_neg hN] at e
          rw [HT.out, e, if_neg hN]
        have HNN : Hid (N ≠ 0) := hN
        clear hN HTK' HST2
        go_wp2
        go_ret
        exact ⟨by rw [HTN.out, no_ne HNN.out]; rfl, HBw3.out⟩
    · obtain rfl : k = n := by omega
      have HLK0 : Hid (lkN S Ls [] = 0) := by
        show _ = _
        rw [HLK.out, ← HLN.out, List.drop_length]
        rfl
      have HTKL : Hid (TK sq M (spsL Ls)) := by
        show TK _ _ _
        have h := HTK.out
        rw [← HLN.out, List.take_length] at h
        exact h
      have HTL : Hid (T = hoN S Hs [] (spsL Ls)) := by
        show _ = _
        rw [HT.out, if_pos HLK0.out]
      have hwr := HBt.out.size
      rw [HSZ1.out] at hwr
      obtain ⟨w5, hw5⟩ : ∃ x, x = wr := ⟨_, rfl⟩
      subst hw5
      have HWR : Hid (w.heap.size + 2 ≤ w5.heap.size) := hwr
      clear HLK HTK HT HLK0 hBw hwr
      go_upto_region 13 with fail
      have hmk := run_makeMap (P := Try.prog) 77 w5
      have hbm : Below w5.heap.size w5 (w5.alloc (.map #[] 0)) := (Below.refl _ _).alloc (Nat.le_refl _) _
      have HM2 : Hid (MAt spotKey veI (w5.alloc (.map #[] 0)) B M) := HM.out.later hbm
      have HR2 : Hid (MAt strKey veI (w5.alloc (.map #[] 0)) w5.heap.size []) := mat_new strKey veI w5
      have hX2 : TBox (w5.alloc (.map #[] 0)) w.heap.size S (.slice ao k cap) (.slice ao2 n2 cap2) := HXr.out.later hbm
      have HX2 : Hid (TBox (w5.alloc (.map #[] 0)) w.heap.size S (.slice ao k cap) (.slice ao2 n2 cap2)) := hX2
      have HB2 : Hid (Below w.heap.size w (w5.alloc (.map #[] 0))) := HBw.out.trans (hbm.mono HBw.out.size)
      obtain ⟨d0, d1, d2⟩ := hX2
      clear hbm b0 b1 b2 HXr HBw HM HBt HX1 HB1
      go_wp2
      obtain ⟨w6, hw6⟩ : ∃ x, w5.alloc (.map #[] 0) = x := ⟨_, rfl⟩
      obtain ⟨C, hCe⟩ : ∃ x, w5.heap.size = x := ⟨_, rfl⟩
      rw [hw6] at HM2 HX2 HB2 d0 d1 d2
      rw [hw6, hCe] at HR2 ⊢
      have HC2 : Hid (w.heap.size + 2 ≤ C) := by
        show _ ≤ _
        rw [← hCe]
        exact HWR.out
      have HSZ6 : Hid (w6.heap.size = C + 1) := by
        show _ = _
        rw [← hw6, ← hCe]
        simp
      clear hw6 hCe hmk HWR
      go_loopw [52] (fun i wr => ∃ j : Nat, j ≤ n2 ∧ i = .int .i64 j ∧ (∃ M R, MAt spotKey veI wr B M ∧ MAt strKey veI wr C R ∧ TK sq M (spsL Ls ++ (Hs.take j).map (·.2)) ∧ TK (fun a b => a == b) R ((Hs.take j).map (·.1))) ∧ hoN S Hs [] (spsL Ls) = hoN S (Hs.drop j) ((Hs.take j).map (·.1)) (spsL Ls ++ (Hs.take j).map (·.2)) ∧ But [B, C] w6 wr)
        (fun i _ => n2 - (intOf i).toNat)
      case atStart => exact ⟨0, by omega, rfl, ⟨M, [], HM2.out, HR2.out, by simpa using HTKL.out, tk_nil _⟩, by simp, But.refl _ _⟩
      case round =>
        obtain ⟨j, hj, rfl, ⟨M3, R3, hM3, hR3, hTM3, hTR3⟩, hho, hBt⟩ := hrel
        have hnX : w.heap.size ∉ [B, C] := by
          have h1 := HBW.out
          have h2 := HC2.out
          simp only [List.mem_cons, List.not_mem_nil, or_false, not_or]
          omega
        have hBC : B ≠ C := by
          have h1 := HBW.out
          have h2 := HC2.out
          omega
        have hXr := HX2.out.but hBt hnX
        have hge : ∀ x ∈ [B, C], w.heap.size ≤ x := by
          have h1 := HBW.out
          have h2 := HC2.out
          intro x hx
          simp only [List.mem_cons, List.not_mem_nil, or_false] at hx
          omega
        have hsz6 : w.heap.size ≤ w6.heap.size := HB2.out.size
        have HGE : Hid (∀ x ∈ [B, C], w.heap.size ≤ x) := hge
        have hBw : Below w.heap.size w wr := HB2.out.trans (hBt.below hsz6 hge)
        have HBw : Hid (Below w.heap.size w wr) := hBw
        have HM3 : Hid (MAt spotKey veI wr B M3) := hM3
        have HR3 : Hid (MAt strKey veI wr C R3) := hR3
        have HTM3 : Hid (TK sq M3 (spsL Ls ++ (Hs.take j).map (·.2))) := hTM3
        have HTR3 : Hid (TK (fun a b => a == b) R3 ((Hs.take j).map (·.1))) := hTR3
        have HHO : Hid (hoN S Hs [] (spsL Ls) = hoN S (Hs.drop j) ((Hs.take j).map (·.1)) (spsL Ls ++ (Hs.take j).map (·.2))) := hho
        have HBt : Hid (But [B, C] w6 wr) := hBt
        have HBC : Hid (B ≠ C) := hBC
        obtain ⟨b0, b1, b2⟩ := hXr
        have hlw : w.heap.size < wr.heap.size := World.block_lt_of_cell? _ _ b0
        clear hM3 hR3 hTM3 hTR3 hho hBt HM2 HR2 hnX hge hBC d0 d1 d2
        by_cases hlt2 : j < n2
        · obtain ⟨g, o, hao, hc, _⟩ := HHA.out (by omega)
          subst hao
          obtain ⟨y0, y1, y2, hjl, hHk, q0, q1, q2⟩ := hst_at (hc.later hBw) HHN.out hlt2
          have HHk : Hid (Hs[j] = (y0, (y1, y2))) := hHk
          have HBA : Hid (Below wr.heap.size wr (wr.alloc (Obj.cells #[Value.string y0, Value.int IntKind.i64 y1, Value.int IntKind.i64 y2] 79))) := (Below.refl _ _).alloc (Nat.le_refl _) _
          have HUL : Hid ((spsL Ls ++ (Hs.take j).map (·.2)).length ≤ 1000) := by
            show _ ≤ 1000
            rw [List.length_append, sps_len, List.length_map, List.length_take, HLN.out]
            omega
          have HZL : Hid (((Hs.take j).map (·.1)).length ≤ 1000) := by
            show _ ≤ 1000
            rw [List.length_map, List.length_take]
            omega
          have HS2 : Hid (spsL Ls ++ (Hs.take (j + 1)).map (·.2) = (spsL Ls ++ (Hs.take j).map (·.2)) ++ [(y1, y2)]) := by
            show _ = _
            rw [List.take_succ_eq_append_getElem hjl, hHk]
            simp
          have HS1 : Hid ((Hs.take (j + 1)).map (·.1) = (Hs.take j).map (·.1) ++ [y0]) := by
            show _ = _
            rw [List.take_succ_eq_append_getElem hjl, hHk]
            simp
          have HST : Hid (hoN S Hs [] (spsL Ls) = if ho1 S ((Hs.take j).map (·.1)) (spsL Ls ++ (Hs.take j).map (·.2)) (y0, (y1, y2)) = 0 then hoN S (Hs.drop (j + 1)) ((Hs.take (j + 1)).map (·.1)) (spsL Ls ++ (Hs.take (j + 1)).map (·.2)) else ho1 S ((Hs.take j).map (·.1)) (spsL Ls ++ (Hs.take j).map (·.2)) (y0, (y1, y2))) := by
            show _ = _
            rw [HHO.out, List.drop_eq_getElem_cons hjl, ho_step, hHk, HS1.out, HS2.out]
          clear hHk hBw hc HHA HLA
          go_wp2_with fail
          refine (settle_any S y0 y1 y2 B C HBC.out M3 R3 _ _ _ (HM3.out.later HBA.out) (HR3.out.later HBA.out) HTM3.out HTR3.out HUL.out HZL.out).mono ?_
          rintro e w3 ⟨rfl, hQ⟩
          have hst := HST.out
          generalize ho1 S ((Hs.take j).map (·.1)) (spsL Ls ++ (Hs.take j).map (·.2)) (y0, (y1, y2)) = N at hQ hst ⊢
          have HST2 : Hid (hoN S Hs [] (spsL Ls) = if N = 0 then hoN S (Hs.drop (j + 1)) ((Hs.take (j + 1)).map (·.1)) (spsL Ls ++ (Hs.take (j + 1)).map (·.2)) else N) := hst
          obtain ⟨M', R', hM', hR', hTK', hBt'⟩ := hQ
          have HM' : Hid (MAt spotKey veI w3 B M') := hM'
          have HR' : Hid (MAt strKey veI w3 C R') := hR'
          have HTK' : Hid (N = 0 → TK sq M' (spsL Ls ++ (Hs.take (j + 1)).map (·.2)) ∧ TK (fun a b => a == b) R' ((Hs.take (j + 1)).map (·.1))) := fun h => by rw [HS1.out, HS2.out]; exact hTK' h
          have HBt3 : Hid (But [B, C] w6 w3) := (HBt.out.trans (But.of_below HBA.out)).trans hBt'
          have HBw3 : Hid (Below w.heap.size w w3) := HB2.out.trans (HBt3.out.below HB2.out.size HGE.out)
          clear hst HST hM' hR' hTK' hBt' HS1 HS2 HM3 HR3 HTM3 HTR3 HHO HBt HBA HUL HZL b0 b1 b2 q0 q1 q2
          by_cases hN : N = 0
          · subst hN
            rw [no_ok rfl]
            have HTK2 : Hid (TK sq M' (spsL Ls ++ (Hs.take (j + 1)).map (·.2)) ∧ TK (fun a b => a == b) R' ((Hs.take (j + 1)).map (·.1))) := HTK'.out rfl
            have HHO2 : Hid (hoN S Hs [] (spsL Ls) = hoN S (Hs.drop (j + 1)) ((Hs.take (j + 1)).map (·.1)) (spsL Ls ++ (Hs.take (j + 1)).map (·.2))) := by
              show _ = _
              rw [HST2.out, if_pos rfl]
            clear HTK' HST2
            go_wp2
            go_roundw
            case rel => exact ⟨j + 1, by omega, by go_num, ⟨M', R', HM'.out, HR'.out, HTK2.out.1, HTK2.out.2⟩, HHO2.out, HBt3.out⟩
            case measure => simp [intOf]; omega
          · rw [no_ne hN]
            have HTN : Hid (T = N) := by
              show _ = _
              rw [HTL.out, HST2.out, if_neg hN]
            have HNN : Hid (N ≠ 0) := hN
            clear hN HTK' HST2
            go_wp2
            go_ret
            exact ⟨by rw [HTN.out, no_ne HNN.out]; rfl, HBw3.out⟩
        · obtain rfl : j = n2 := by omega
          have HT0 : Hid (T = 0) := by
            show _ = _
            rw [HTL.out, HHO.out, ← HHN.out, List.drop_length]
            rfl
          clear hBw HHO HTM3 HTR3
          go_wp2
          go_ret
          exact ⟨by rw [HT0.out, no_ok rfl]; rfl, HBw.out⟩
theorem check_any (S : Int) (ao : Option Addr) (n cap : Nat) (ao2 : Option Addr) (n2 cap2 : Nat) (Ls : List ((Int × Int) × (Int × Int))) (Hs : List (ByteArray × (Int × Int))) (w : World)
    (hL : GS lnkE w (.slice ao n cap) Ls) (hH : GS hstE w (.slice ao2 n2 cap2) Hs) :
    Calls Try.prog 27 #[.agg #[.int .i64 S, .slice ao n cap, .slice ao2 n2 cap2]] w fun e w' => e = .returned (noV (tpN S Ls Hs)) ∧ Below w.heap.size w w' := by
  have hLn := hL.len
  have hHn := hH.len
  by_cases h1 : 1 ≤ S ∧ S ≤ 6
  · by_cases h2 : n ≤ 200 ∧ n2 ≤ 8
    · exact check_walk S ao n cap ao2 n2 cap2 Ls Hs w hL hH h1.1 h1.2 h2.1 h2.2 _ rfl
    · have e : tpN S Ls Hs = 4 := by
        rw [tpN, if_pos (by simp [h1]), if_neg (by rw [hLn, hHn]; simpa using fun h => Nat.lt_of_not_le fun h3 => h2 ⟨h, h3⟩)]
      rw [e]
      exact check_full S ao n cap ao2 n2 cap2 w h1.1 h1.2 (by omega)
  · have e : tpN S Ls Hs = 1 := by
      rw [tpN, if_neg (by simpa using fun h => Int.lt_of_not_ge fun h3 => h1 ⟨h, h3⟩)]
    rw [e]
    exact tcheck_range S _ _ w h1
end Go.Proofs.Ytfbocionnjlilad
