/- Contracts and facts on the way to NetWalks, joined into one text: TopoCheck, CubeMath, CubeCon, CubeHas, RuleMath, RuleCon, RuleTabMath, RuleTab, RuleTab2, NetMath. -/
import Derived.Test.YtpmcjelihdlfeaaNetWalksP2
import Derived.Carry
import Derived.WalkKit
import Derived.Laws.BytesArg
import Derived.Test.YtpmcjelihdlfeaaRows
import Derived.WalkSpells
import Derived.Below
import Derived.Shelf.Abstract
import Derived.Deep.CutRange
import Derived.Deep.CutBlock
/- What topo.Check answers: a contract for the walks above it. -/
namespace Go.Proofs.Ytpmcjelihdlfeaa
open Go.RowKit
set_option linter.unusedSimpArgs false
set_option linter.unusedVariables false

/-- A topology in a box. -/
def TBox (W : World) (g : Nat) (S : Int) (v1 v2 : Value) : Prop := W.cell? ⟨g, 0, none⟩ = some (.int .i64 S) ∧ W.cell? ⟨g, 1, none⟩ = some v1 ∧ W.cell? ⟨g, 2, none⟩ = some v2
theorem tbox_new (w : World) (S : Int) (v1 v2 : Value) (t : TypeId) : TBox (w.alloc (Obj.cells #[.int .i64 S, v1, v2] t)) w.heap.size S v1 v2 := by
  refine ⟨?_, ?_, ?_⟩ <;> simp
theorem TBox.lt {W : World} {g : Nat} {S : Int} {v1 v2 : Value} (h : TBox W g S v1 v2) : g < W.heap.size := World.block_lt_of_cell? _ _ h.1
theorem TBox.but {X : List Nat} {W W' : World} {g : Nat} {S : Int} {v1 v2 : Value} (h : TBox W g S v1 v2) (hb : But X W W') (hX : g ∉ X) : TBox W' g S v1 v2 :=
  ⟨(hb.cell (p := ⟨g, 0, none⟩) h.lt hX).trans h.1, (hb.cell (p := ⟨g, 1, none⟩) h.lt hX).trans h.2.1, (hb.cell (p := ⟨g, 2, none⟩) h.lt hX).trans h.2.2⟩
theorem TBox.later {W W' : World} {g : Nat} {S : Int} {v1 v2 : Value} (h : TBox W g S v1 v2) (hb : Below W.heap.size W W') : TBox W' g S v1 v2 := h.but (X := []) (But.of_below hb) (by simp)

set_option maxHeartbeats 1000000 in
set_option maxRecDepth 100000 in
theorem tcheck_range (S : Int) (v1 v2 : Value) (w : World) (h : ¬ (1 ≤ S ∧ S ≤ 6)) :
    Calls Try.prog 16 #[.agg #[.int .i64 S, v1, v2]] w fun e w' => e = .returned (.iface 57 (.int .i64 1)) ∧ Below w.heap.size w w' := by
  have HB0 : Hid (Below w.heap.size w (w.alloc (Obj.cells #[.int .i64 S, v1, v2] 25))) := (Below.refl _ _).alloc (Nat.le_refl _) _
  by_cases h1 : S < 1
  · clear h
    go_enter Try.func16, Try.ntmps16
    go_wp2
    go_ret
    exact ⟨rfl, HB0.out⟩
  · have h6 : 6 < S := by omega
    clear h
    go_enter Try.func16, Try.ntmps16
    go_wp2
    go_ret
    exact ⟨rfl, HB0.out⟩
set_option maxHeartbeats 1000000 in
set_option maxRecDepth 100000 in
theorem check_full (S : Int) (ao : Option Addr) (n cap : Nat) (ao2 : Option Addr) (n2 cap2 : Nat) (w : World) (h1 : 1 ≤ S) (h6 : S ≤ 6) (h : 200 < n ∨ 8 < n2) :
    Calls Try.prog 16 #[.agg #[.int .i64 S, .slice ao n cap, .slice ao2 n2 cap2]] w fun e w' => e = .returned (.iface 57 (.int .i64 4)) ∧ Below w.heap.size w w' := by
  have HB0 : Hid (Below w.heap.size w (w.alloc (Obj.cells #[.int .i64 S, .slice ao n cap, .slice ao2 n2 cap2] 25))) := (Below.refl _ _).alloc (Nat.le_refl _) _
  have g1 : ¬ S < 1 := by omega
  have g6 : ¬ 6 < S := by omega
  by_cases hn : (200 : Int) < (n : Int)
  · clear h
    go_enter Try.func16, Try.ntmps16
    go_wp2
    go_ret
    exact ⟨rfl, HB0.out⟩
  · have hn2 : (8 : Int) < (n2 : Int) := by omega
    clear h
    go_enter Try.func16, Try.ntmps16
    go_wp2
    go_ret
    exact ⟨rfl, HB0.out⟩

set_option maxHeartbeats 2000000 in
set_option maxRecDepth 100000 in
theorem check_walk (S : Int) (ao : Option Addr) (n cap : Nat) (ao2 : Option Addr) (n2 cap2 : Nat) (Ls : List ((Int × Int) × (Int × Int))) (Hs : List (ByteArray × (Int × Int))) (w : World)
    (hL : GS lnkE w (.slice ao n cap) Ls) (hH : GS hstE w (.slice ao2 n2 cap2) Hs) (h1 : 1 ≤ S) (h6 : S ≤ 6) (hn : n ≤ 200) (hn2 : n2 ≤ 8) (T : Int) (hT : T = tpN S Ls Hs) :
    Calls Try.prog 16 #[.agg #[.int .i64 S, .slice ao n cap, .slice ao2 n2 cap2]] w fun e w' => e = .returned (noV T) ∧ Below w.heap.size w w' := by
  obtain ⟨_, _, _, e1, hLn, _, _, hLa⟩ := hL.form
  cases e1
  obtain ⟨_, _, _, e2, hHn, _, _, hHa⟩ := hH.form
  cases e2
  have HLN : Hid (Ls.length = n) := hLn
  have HHN : Hid (Hs.length = n2) := hHn
  have HLA : Hid (0 < n → ∃ g o, ao = some ⟨g, o, none⟩ ∧ GAt lnkE w g o Ls ∧ cap ≤ maxLen) := hLa
  have HHA : Hid (0 < n2 → ∃ g o, ao2 = some ⟨g, o, none⟩ ∧ GAt hstE w g o Hs ∧ cap2 ≤ maxLen) := hHa
  have HT : Hid (T = if lkN S Ls [] = 0 then hoN S Hs [] (spsL Ls) else lkN S Ls []) := by
    show T = _
    rw [hT, tpN, if_pos (by simp [h1, h6]), if_pos (by simp [hLn, hHn, hn, hn2])]
  have g1 : ¬ S < 1 := by omega
  have g6 : ¬ 6 < S := by omega
  have gn : ¬ (200 : Int) < (n : Int) := by omega
  have gn2 : ¬ (8 : Int) < (n2 : Int) := by omega
  clear hL hH hLn hHn hLa hHa hT h1 h6
  have hX := tbox_new w S (.slice ao n cap) (.slice ao2 n2 cap2) 25
  have hB0 : Below w.heap.size w (w.alloc (Obj.cells #[.int .i64 S, .slice ao n cap, .slice ao2 n2 cap2] 25)) := (Below.refl _ _).alloc (Nat.le_refl _) _
  have HX : Hid (TBox (w.alloc (Obj.cells #[.int .i64 S, .slice ao n cap, .slice ao2 n2 cap2] 25)) w.heap.size S (.slice ao n cap) (.slice ao2 n2 cap2)) := hX
  have HB0 : Hid (Below w.heap.size w (w.alloc (Obj.cells #[.int .i64 S, .slice ao n cap, .slice ao2 n2 cap2] 25))) := hB0
  have hsz0 : (w.alloc (Obj.cells #[.int .i64 S, .slice ao n cap, .slice ao2 n2 cap2] 25)).heap.size = w.heap.size + 1 := by simp
  clear hX hB0
  go_enter Try.func16, Try.ntmps16
  go_upto_region 5 with fail
  generalize hw0 : w.alloc (Obj.cells #[.int .i64 S, .slice ao n cap, .slice ao2 n2 cap2] 25) = w0 at *
  have HW0 : Hid (w.alloc (Obj.cells #[.int .i64 S, .slice ao n cap, .slice ao2 n2 cap2] 25) = w0) := hw0
  have HSZ0 : Hid (w0.heap.size = w.heap.size + 1) := hsz0
  clear hw0 hsz0
  have hmk := run_makeMap (P := Try.prog) 81 w0
  have HM1 : Hid (MAt spotKey veI (w0.alloc (.map #[] 0)) w0.heap.size []) := mat_new spotKey veI w0
  have hbm : Below w0.heap.size w0 (w0.alloc (.map #[] 0)) := (Below.refl _ _).alloc (Nat.le_refl _) _
  have HX1 : Hid (TBox (w0.alloc (.map #[] 0)) w.heap.size S (.slice ao n cap) (.slice ao2 n2 cap2)) := HX.out.later hbm
  have HB1 : Hid (Below w.heap.size w (w0.alloc (.map #[] 0))) := HB0.out.trans (hbm.mono HB0.out.size)
  clear hbm
  obtain ⟨d0, d1, d2⟩ := HX1.out
  go_wp2
  clear d0 d1 d2
  obtain ⟨w1, hw1⟩ : ∃ x, w0.alloc (.map #[] 0) = x := ⟨_, rfl⟩
  obtain ⟨B, hBe⟩ : ∃ x, w0.heap.size = x := ⟨_, rfl⟩
  rw [hw1] at HX1 HB1
  rw [hw1, hBe] at HM1 ⊢
  have HBW : Hid (B = w.heap.size + 1) := by
    show B = _
    rw [← hBe, HSZ0.out]
  have HSZ1 : Hid (w1.heap.size = w.heap.size + 2) := by
    show _ = _
    rw [← hw1]
    have := HSZ0.out
    simp [this]
  clear hw1 hBe hmk HSZ0 HW0 HX HB0
  go_loopw [35] (fun i wr => ∃ k : Nat, k ≤ n ∧ i = .int .i64 k ∧ (∃ M, MAt spotKey veI wr B M ∧ TK sq M (spsL (Ls.take k))) ∧ lkN S Ls [] = lkN S (Ls.drop k) (spsL (Ls.take k)) ∧ But [B] w1 wr)
    (fun i _ => n - (intOf i).toNat)
  case atStart => exact ⟨0, by omega, rfl, ⟨[], HM1.out, by simpa [spsL] using tk_nil sq⟩, by simp [spsL], But.refl _ _⟩
  case round =>
    obtain ⟨k, hk, rfl, ⟨M, hM, hTK⟩, hlk, hBt⟩ := hrel
    have hnB : w.heap.size ∉ [B] := by simp [HBW.out]
    have hXr := HX1.out.but hBt hnB
    have hBw : Below w.heap.size w wr := HB1.out.trans (hBt.below (by rw [HSZ1.out]; omega) (by simp [HBW.out]))
    have HXr : Hid (TBox wr w.heap.size S (.slice ao n cap) (.slice ao2 n2 cap2)) := hXr
    have HBw : Hid (Below w.heap.size w wr) := hBw
    have HM : Hid (MAt spotKey veI wr B M) := hM
    have HTK : Hid (TK sq M (spsL (Ls.take k))) := hTK
    have HLK : Hid (lkN S Ls [] = lkN S (Ls.drop k) (spsL (Ls.take k))) := hlk
    have HBt : Hid (But [B] w1 wr) := hBt
    obtain ⟨b0, b1, b2⟩ := hXr
    have hlw : w.heap.size < wr.heap.size := World.block_lt_of_cell? _ _ b0
    clear hM hTK hlk hBt HM1
    by_cases hlt : k < n
    · obtain ⟨g, o, hao, hc, _⟩ := HLA.out (by omega)
      subst hao
      obtain ⟨x0, x1, x2, x3, hkl, hLk, q0, q1, q2, q3⟩ := lnk_at (hc.later hBw) HLN.out hlt
      have HLk : Hid (Ls[k] = ((x0, x1), (x2, x3))) := hLk
      have hBA : Below wr.heap.size wr (wr.alloc (Obj.cells #[Value.int IntKind.i64 x0, Value.int IntKind.i64 x1, Value.int IntKind.i64 x2, Value.int IntKind.i64 x3] 80)) := (Below.refl _ _).alloc (Nat.le_refl _) _
      have HBA : Hid (Below wr.heap.size wr (wr.alloc (Obj.cells #[Value.int IntKind.i64 x0, Value.int IntKind.i64 x1, Value.int IntKind.i64 x2, Value.int IntKind.i64 x3] 80))) := hBA
      have HUL : Hid ((spsL (Ls.take k)).length ≤ 1000) := by
        show _ ≤ 1000
        rw [sps_len, List.length_take]
        omega
      have HST : Hid (lkN S Ls [] = if lk1 S (spsL (Ls.take k)) ((x0, x1), (x2, x3)) = 0 then lkN S (Ls.drop (k + 1)) (spsL (Ls.take (k + 1))) else lk1 S (spsL (Ls.take k)) ((x0, x1), (x2, x3))) := by
        show _ = _
        rw [HLK.out, List.drop_eq_getElem_cons hkl, lk_step, hLk, sps_take hkl, hLk]
      have HSP : Hid (spsL (Ls.take (k + 1)) = spsL (Ls.take k) ++ [(x0, x1), (x2, x3)]) := by
        show _ = _
        rw [sps_take hkl, hLk]
      clear hLk hBA hBw hc HLA
      go_wp2_with fail
      refine (lay_any S x0 x1 x2 x3 B M _ _ (HM.out.later HBA.out) HTK.out HUL.out).mono ?_
      rintro e w3 ⟨rfl, hQ⟩
      have hst := HST.out
      generalize lk1 S (spsL (Ls.take k)) ((x0, x1), (x2, x3)) = N at hQ hst ⊢
      have HST2 : Hid (lkN S Ls [] = if N = 0 then lkN S (Ls.drop (k + 1)) (spsL (Ls.take (k + 1))) else N) := hst
      obtain ⟨M', hM', hTK', hBt'⟩ := hQ
      have HM' : Hid (MAt spotKey veI w3 B M') := hM'
      have HTK' : Hid (N = 0 → TK sq M' (spsL (Ls.take (k + 1)))) := fun h => by rw [HSP.out]; exact hTK' h
      have HBt3 : Hid (But [B] w1 w3) := (HBt.out.trans (But.of_below HBA.out)).trans hBt'
      have HBw3 : Hid (Below w.heap.size w w3) := HB1.out.trans (HBt3.out.below (by rw [HSZ1.out]; omega) (by simp [HBW.out]))
      clear hst HST hM' hTK' hBt' HSP HM HTK HLK HBt HBA HUL b0 b1 b2 q0 q1 q2 q3
      by_cases hN : N = 0
      · subst hN
        rw [no_ok rfl]
        have HTK2 : Hid (TK sq M' (spsL (Ls.take (k + 1)))) := HTK'.out rfl
        have HLK2 : Hid (lkN S Ls [] = lkN S (Ls.drop (k + 1)) (spsL (Ls.take (k + 1)))) := by
          show _ = _
          rw [HST2.out, if_pos rfl]
        clear HTK' HST2
        go_wp2
        go_roundw
        case rel => exact ⟨k + 1, by omega, by go_num, ⟨M', HM'.out, HTK2.out⟩, HLK2.out, HBt3.out⟩
        case measure => simp [intOf]; omega
      · rw [no_ne hN]
        have HTN : Hid (T = N) := by
          show _ = _
          have e := HST2.out
          rw [if_neg hN] at e
          rw [HT.out, e, if_neg hN]
        have HNN : Hid (N ≠ 0) := hN
        clear hN HTK' HST2
        go_wp2
        go_ret
        exact ⟨by rw [HTN.out, no_ne HNN.out]; rfl, HBw3.out⟩
    · obtain rfl : k = n := by omega
      have HLK0 : Hid (lkN S Ls [] = 0) := by
        show _ = _
        rw [HLK.out, ← HLN.out, List.drop_length]
        rfl
      have HTKL : Hid (TK sq M (spsL Ls)) := by
        show TK _ _ _
        have h := HTK.out
        rw [← HLN.out, List.take_length] at h
        exact h
      have HTL : Hid (T = hoN S Hs [] (spsL Ls)) := by
        show _ = _
        rw [HT.out, if_pos HLK0.out]
      have hwr := HBt.out.size
      rw [HSZ1.out] at hwr
      obtain ⟨w5, hw5⟩ : ∃ x, x = wr := ⟨_, rfl⟩
      subst hw5
      have HWR : Hid (w.heap.size + 2 ≤ w5.heap.size) := hwr
      clear HLK HTK HT HLK0 hBw hwr
      go_upto_region 13 with fail
      have hmk := run_makeMap (P := Try.prog) 83 w5
      have hbm : Below w5.heap.size w5 (w5.alloc (.map #[] 0)) := (Below.refl _ _).alloc (Nat.le_refl _) _
      have HM2 : Hid (MAt spotKey veI (w5.alloc (.map #[] 0)) B M) := HM.out.later hbm
      have HR2 : Hid (MAt strKey veI (w5.alloc (.map #[] 0)) w5.heap.size []) := mat_new strKey veI w5
      have hX2 : TBox (w5.alloc (.map #[] 0)) w.heap.size S (.slice ao k cap) (.slice ao2 n2 cap2) := HXr.out.later hbm
      have HX2 : Hid (TBox (w5.alloc (.map #[] 0)) w.heap.size S (.slice ao k cap) (.slice ao2 n2 cap2)) := hX2
      have HB2 : Hid (Below w.heap.size w (w5.alloc (.map #[] 0))) := HBw.out.trans (hbm.mono HBw.out.size)
      obtain ⟨d0, d1, d2⟩ := hX2
      clear hbm b0 b1 b2 HXr HBw HM HBt HX1 HB1
      go_wp2
      obtain ⟨w6, hw6⟩ : ∃ x, w5.alloc (.map #[] 0) = x := ⟨_, rfl⟩
      obtain ⟨C, hCe⟩ : ∃ x, w5.heap.size = x := ⟨_, rfl⟩
      rw [hw6] at HM2 HX2 HB2 d0 d1 d2
      rw [hw6, hCe] at HR2 ⊢
      have HC2 : Hid (w.heap.size + 2 ≤ C) := by
        show _ ≤ _
        rw [← hCe]
        exact HWR.out
      have HSZ6 : Hid (w6.heap.size = C + 1) := by
        show _ = _
        rw [← hw6, ← hCe]
        simp
      clear hw6 hCe hmk HWR
      go_loopw [52] (fun i wr => ∃ j : Nat, j ≤ n2 ∧ i = .int .i64 j ∧ (∃ M R, MAt spotKey veI wr B M ∧ MAt strKey veI wr C R ∧ TK sq M (spsL Ls ++ (Hs.take j).map (·.2)) ∧ TK (fun a b => a == b) R ((Hs.take j).map (·.1))) ∧ hoN S Hs [] (spsL Ls) = hoN S (Hs.drop j) ((Hs.take j).map (·.1)) (spsL Ls ++ (Hs.take j).map (·.2)) ∧ But [B, C] w6 wr)
        (fun i _ => n2 - (intOf i).toNat)
      case atStart => exact ⟨0, by omega, rfl, ⟨M, [], HM2.out, HR2.out, by simpa using HTKL.out, tk_nil _⟩, by simp, But.refl _ _⟩
      case round =>
        obtain ⟨j, hj, rfl, ⟨M3, R3, hM3, hR3, hTM3, hTR3⟩, hho, hBt⟩ := hrel
        have hnX : w.heap.size ∉ [B, C] := by
          have h1 := HBW.out
          have h2 := HC2.out
          simp only [List.mem_cons, List.not_mem_nil, or_false, not_or]
          omega
        have hBC : B ≠ C := by
          have h1 := HBW.out
          have h2 := HC2.out
          omega
        have hXr := HX2.out.but hBt hnX
        have hge : ∀ x ∈ [B, C], w.heap.size ≤ x := by
          have h1 := HBW.out
          have h2 := HC2.out
          intro x hx
          simp only [List.mem_cons, List.not_mem_nil, or_false] at hx
          omega
        have hsz6 : w.heap.size ≤ w6.heap.size := HB2.out.size
        have HGE : Hid (∀ x ∈ [B, C], w.heap.size ≤ x) := hge
        have hBw : Below w.heap.size w wr := HB2.out.trans (hBt.below hsz6 hge)
        have HBw : Hid (Below w.heap.size w wr) := hBw
        have HM3 : Hid (MAt spotKey veI wr B M3) := hM3
        have HR3 : Hid (MAt strKey veI wr C R3) := hR3
        have HTM3 : Hid (TK sq M3 (spsL Ls ++ (Hs.take j).map (·.2))) := hTM3
        have HTR3 : Hid (TK (fun a b => a == b) R3 ((Hs.take j).map (·.1))) := hTR3
        have HHO : Hid (hoN S Hs [] (spsL Ls) = hoN S (Hs.drop j) ((Hs.take j).map (·.1)) (spsL Ls ++ (Hs.take j).map (·.2))) := hho
        have HBt : Hid (But [B, C] w6 wr) := hBt
        have HBC : Hid (B ≠ C) := hBC
        obtain ⟨b0, b1, b2⟩ := hXr
        have hlw : w.heap.size < wr.heap.size := World.block_lt_of_cell? _ _ b0
        clear hM3 hR3 hTM3 hTR3 hho hBt HM2 HR2 hnX hge hBC d0 d1 d2
        by_cases hlt2 : j < n2
        · obtain ⟨g, o, hao, hc, _⟩ := HHA.out (by omega)
          subst hao
          obtain ⟨y0, y1, y2, hjl, hHk, q0, q1, q2⟩ := hst_at (hc.later hBw) HHN.out hlt2
          have HHk : Hid (Hs[j] = (y0, (y1, y2))) := hHk
          have HBA : Hid (Below wr.heap.size wr (wr.alloc (Obj.cells #[Value.string y0, Value.int IntKind.i64 y1, Value.int IntKind.i64 y2] 32))) := (Below.refl _ _).alloc (Nat.le_refl _) _
          have HUL : Hid ((spsL Ls ++ (Hs.take j).map (·.2)).length ≤ 1000) := by
            show _ ≤ 1000
            rw [List.length_append, sps_len, List.length_map, List.length_take, HLN.out]
            omega
          have HZL : Hid (((Hs.take j).map (·.1)).length ≤ 1000) := by
            show _ ≤ 1000
            rw [List.length_map, List.length_take]
            omega
          have HS2 : Hid (spsL Ls ++ (Hs.take (j + 1)).map (·.2) = (spsL Ls ++ (Hs.take j).map (·.2)) ++ [(y1, y2)]) := by
            show _ = _
            rw [List.take_succ_eq_append_getElem hjl, hHk]
            simp
          have HS1 : Hid ((Hs.take (j + 1)).map (·.1) = (Hs.take j).map (·.1) ++ [y0]) := by
            show _ = _
            rw [List.take_succ_eq_append_getElem hjl, hHk]
            simp
          have HST : Hid (hoN S Hs [] (spsL Ls) = if ho1 S ((Hs.take j).map (·.1)) (spsL Ls ++ (Hs.take j).map (·.2)) (y0, (y1, y2)) = 0 then hoN S (Hs.drop (j + 1)) ((Hs.take (j + 1)).map (·.1)) (spsL Ls ++ (Hs.take (j + 1)).map (·.2)) else ho1 S ((Hs.take j).map (·.1)) (spsL Ls ++ (Hs.take j).map (·.2)) (y0, (y1, y2))) := by
            show _ = _
            rw [HHO.out, List.drop_eq_getElem_cons hjl, ho_step, hHk, HS1.out, HS2.out]
          clear hHk hBw hc HHA HLA
          go_wp2_with fail
          refine (settle_any S y0 y1 y2 B C HBC.out M3 R3 _ _ _ (HM3.out.later HBA.out) (HR3.out.later HBA.out) HTM3.out HTR3.out HUL.out HZL.out).mono ?_
          rintro e w3 ⟨rfl, hQ⟩
          have hst := HST.out
          generalize ho1 S ((Hs.take j).map (·.1)) (spsL Ls ++ (Hs.take j).map (·.2)) (y0, (y1, y2)) = N at hQ hst ⊢
          have HST2 : Hid (hoN S Hs [] (spsL Ls) = if N = 0 then hoN S (Hs.drop (j + 1)) ((Hs.take (j + 1)).map (·.1)) (spsL Ls ++ (Hs.take (j + 1)).map (·.2)) else N) := hst
          obtain ⟨M', R', hM', hR', hTK', hBt'⟩ := hQ
          have HM' : Hid (MAt spotKey veI w3 B M') := hM'
          have HR' : Hid (MAt strKey veI w3 C R') := hR'
          have HTK' : Hid (N = 0 → TK sq M' (spsL Ls ++ (Hs.take (j + 1)).map (·.2)) ∧ TK (fun a b => a == b) R' ((Hs.take (j + 1)).map (·.1))) := fun h => by rw [HS1.out, HS2.out]; exact hTK' h
          have HBt3 : Hid (But [B, C] w6 w3) := (HBt.out.trans (But.of_below HBA.out)).trans hBt'
          have HBw3 : Hid (Below w.heap.size w w3) := HB2.out.trans (HBt3.out.below HB2.out.size HGE.out)
          clear hst HST hM' hR' hTK' hBt' HS1 HS2 HM3 HR3 HTM3 HTR3 HHO HBt HBA HUL HZL b0 b1 b2 q0 q1 q2
          by_cases hN : N = 0
          · subst hN
            rw [no_ok rfl]
            have HTK2 : Hid (TK sq M' (spsL Ls ++ (Hs.take (j + 1)).map (·.2)) ∧ TK (fun a b => a == b) R' ((Hs.take (j + 1)).map (·.1))) := HTK'.out rfl
            have HHO2 : Hid (hoN S Hs [] (spsL Ls) = hoN S (Hs.drop (j + 1)) ((Hs.take (j + 1)).map (·.1)) (spsL Ls ++ (Hs.take (j + 1)).map (·.2))) := by
              show _ = _
              rw [HST2.out, if_pos rfl]
            clear HTK' HST2
            go_wp2
            go_roundw
            case rel => exact ⟨j + 1, by omega, by go_num, ⟨M', R', HM'.out, HR'.out, HTK2.out.1, HTK2.out.2⟩, HHO2.out, HBt3.out⟩
            case measure => simp [intOf]; omega
          · rw [no_ne hN]
            have HTN : Hid (T = N) := by
              show _ = _
              rw [HTL.out, HST2.out, if_neg hN]
            have HNN : Hid (N ≠ 0) := hN
            clear hN HTK' HST2
            go_wp2
            go_ret
            exact ⟨by rw [HTN.out, no_ne HNN.out]; rfl, HBw3.out⟩
        · obtain rfl : j = n2 := by omega
          have HT0 : Hid (T = 0) := by
            show _ = _
            rw [HTL.out, HHO.out, ← HHN.out, List.drop_length]
            rfl
          clear hBw HHO HTM3 HTR3
          go_wp2
          go_ret
          exact ⟨by rw [HT0.out, no_ok rfl]; rfl, HBw.out⟩
theorem check_any (S : Int) (ao : Option Addr) (n cap : Nat) (ao2 : Option Addr) (n2 cap2 : Nat) (Ls : List ((Int × Int) × (Int × Int))) (Hs : List (ByteArray × (Int × Int))) (w : World)
    (hL : GS lnkE w (.slice ao n cap) Ls) (hH : GS hstE w (.slice ao2 n2 cap2) Hs) :
    Calls Try.prog 16 #[.agg #[.int .i64 S, .slice ao n cap, .slice ao2 n2 cap2]] w fun e w' => e = .returned (noV (tpN S Ls Hs)) ∧ Below w.heap.size w w' := by
  have hLn := hL.len
  have hHn := hH.len
  by_cases h1 : 1 ≤ S ∧ S ≤ 6
  · by_cases h2 : n ≤ 200 ∧ n2 ≤ 8
    · exact check_walk S ao n cap ao2 n2 cap2 Ls Hs w hL hH h1.1 h1.2 h2.1 h2.2 _ rfl
    · have e : tpN S Ls Hs = 4 := by
        rw [tpN, if_pos (by simp [h1]), if_neg (by rw [hLn, hHn]; simpa using fun h => Nat.lt_of_not_le fun h3 => h2 ⟨h, h3⟩)]
      rw [e]
      exact check_full S ao n cap ao2 n2 cap2 w h1.1 h1.2 (by omega)
  · have e : tpN S Ls Hs = 1 := by
      rw [tpN, if_neg (by simpa using fun h => Int.lt_of_not_ge fun h3 => h1 ⟨h, h3⟩)]
    rw [e]
    exact tcheck_range S _ _ w h1
end Go.Proofs.Ytpmcjelihdlfeaa
/- What cubes of headers come to, in plain numbers: no program in it. -/
namespace Go.Proofs.Ytpmcjelihdlfeaa
open Go.RowKit

/-- Is it a header? -/
def hdrB (n : Int) : Bool := decide (0 ≤ n) && decide (n < 16)
/-- Are both numbers of a cube headers? -/
def rngB (m b : Int) : Bool := hdrB m && hdrB b
/-- Is a cube right? -/
def okB (m b : Int) : Bool := rngB m b && (bits .andNot .i64 b m == 0)
/-- Do two cubes meet? -/
def mtOk (m b n c : Int) : Bool := okB m b && okB n c && (bits .and .i64 (bits .and .i64 (bits .xor .i64 b c) m) n == 0)
def mtM (m b n c : Int) : Int := if mtOk m b n c then bits .or .i64 m n else 0
def mtB (m b n c : Int) : Int := if mtOk m b n c then bits .or .i64 b c else 0
/-- Is the one in the other? -/
def insB (m b n c : Int) : Bool := mtOk m b n c && (mtM m b n c == m && mtB m b n c == b)
/-- How many bits a small number has. -/
def pop (m : Int) : Int := m % 2 + m / 2 % 2 + m / 4 % 2 + m / 8 % 2
def cntN (m b : Int) : Int := if okB m b then 2 ^ (4 - pop m).toNat else 0
def fstN (m b : Int) : Int := if okB m b then b else 0

theorem hdr_of {n : Int} (h : hdrB n = true) : 0 ≤ n ∧ n < 16 := by simpa [hdrB] using h
theorem hdr_no {n : Int} (h : hdrB n = false) : n < 0 ∨ 16 ≤ n := by simp [hdrB] at h; omega
theorem hdr_mk {n : Int} (h : 0 ≤ n ∧ n < 16) : hdrB n = true := by simpa [hdrB] using h
theorem rng_of {m b : Int} (h : rngB m b = true) : (0 ≤ m ∧ m < 16) ∧ (0 ≤ b ∧ b < 16) := by
  simp only [rngB, Bool.and_eq_true] at h; exact ⟨hdr_of h.1, hdr_of h.2⟩
theorem ok_rng {m b : Int} (h : okB m b = true) : rngB m b = true := by
  simp only [okB, Bool.and_eq_true] at h; exact h.1
theorem ok_of {m b : Int} (h : okB m b = true) : (0 ≤ m ∧ m < 16) ∧ (0 ≤ b ∧ b < 16) := rng_of (ok_rng h)

/-- A small number is the cast of one of sixteen. -/
theorem small {n : Int} (h : 0 ≤ n ∧ n < 16) : ∃ k : Fin 16, n = ((k : Nat) : Int) := ⟨⟨n.toNat, by omega⟩, by simp; omega⟩

theorem pop_le (m : Int) : 0 ≤ pop m ∧ pop m ≤ 4 := by unfold pop; omega

/-- The letter of one bit. -/
def ltr (m b x : Int) : Int := if bits .and .i64 m x == 0 then 42 else if bits .and .i64 b x == 0 then 48 else 49
def bitN (i : Nat) : Int := 2 ^ (3 - i)
def ltrAt (m b : Int) (i : Nat) : Int := ltr m b (bitN i)
theorem ltr_bd (m b x : Int) : 42 ≤ ltr m b x ∧ ltr m b x ≤ 49 := by unfold ltr; split <;> (try split) <;> omega
/-- A cube as text. -/
def prS (m b : Int) : ByteArray := strOfNums [ltrAt m b 0, ltrAt m b 1, ltrAt m b 2, ltrAt m b 3]
/-- What has been written of a cube's text behind k rounds. -/
def ltrTo (m b : Int) (k j : Nat) : Int := if j < k then ltrAt m b j else 0

/-- One byte of a text read: Mask, Bits. -/
def rdM (c : Nat) (i : Nat) (m : Int) : Int := if c = 49 ∨ c = 48 then bits .or .i64 m (bitN i) else m
def rdB (c : Nat) (i : Nat) (b : Int) : Int := if c = 49 then bits .or .i64 b (bitN i) else b
/-- May a byte stand in a cube's text? -/
def mayB (c : Nat) : Bool := c == 49 || c == 48 || c == 42
def byteN (s : ByteArray) (i : Nat) : Nat := (s.data.toList.getD i 0).toNat
def psMTo (s : ByteArray) : Nat → Int
  | 0 => 0
  | k + 1 => rdM (byteN s k) k (psMTo s k)
def psBTo (s : ByteArray) : Nat → Int
  | 0 => 0
  | k + 1 => rdB (byteN s k) k (psBTo s k)
def mayTo (s : ByteArray) : Nat → Bool
  | 0 => true
  | k + 1 => mayTo s k && mayB (byteN s k)
/-- Is a text a cube's? -/
def psOk (s : ByteArray) : Bool := s.size == 4 && mayTo s 4
def psM (s : ByteArray) : Int := if psOk s then psMTo s 4 else 0
def psB (s : ByteArray) : Int := if psOk s then psBTo s 4 else 0

/-- Is a header in a cube? -/
def hasB (m b h : Int) : Bool := hdrB h && (okB m b && (bits .and .i64 h m == b))
/-- The fault's number of a cube. -/
def refN (m b : Int) : Int := if okB m b then 0 else if rngB m b then 3 else 1
theorem refN_ok {m b : Int} (h : okB m b = true) : refN m b = 0 := by simp [refN, h]
theorem refN_shape {m b : Int} (h : okB m b = false) (h2 : rngB m b = true) : refN m b = 3 := by simp [refN, h, h2]
theorem refN_range {m b : Int} (h2 : rngB m b = false) : refN m b = 1 := by simp [refN, okB, h2]
theorem refN_bd (m b : Int) : 0 ≤ refN m b ∧ refN m b ≤ 3 := by unfold refN; split <;> (try split) <;> omega
theorem ok_refN (m b : Int) : (refN m b == 0) = okB m b := by
  cases h : okB m b
  · cases h2 : rngB m b
    · simp [refN_range h2]
    · simp [refN_shape h h2]
  · simp [refN_ok h]
theorem andEq_fin : ∀ m b : Fin 16, (bits .and .i64 ((b : Nat) : Int) ((m : Nat) : Int) == ((b : Nat) : Int)) = (bits .andNot .i64 ((b : Nat) : Int) ((m : Nat) : Int) == 0) := by decide +kernel
theorem andEq {m b : Int} (h : rngB m b = true) : (bits .and .i64 b m == b) = okB m b := by
  obtain ⟨h1, h2⟩ := rng_of h
  have e : okB m b = (bits .andNot .i64 b m == 0) := by simp [okB, h]
  rw [e]
  obtain ⟨x, rfl⟩ := small h1
  obtain ⟨y, rfl⟩ := small h2
  exact andEq_fin x y
/-- The i-th bit of a small number. -/
def bitB (x : Int) (i : Nat) : Bool := x / 2 ^ i % 2 == 1
end Go.Proofs.Ytpmcjelihdlfeaa
/- What each function of package cube answers, called with any cubes: contracts for the walks above them. -/
namespace Go.Proofs.Ytpmcjelihdlfeaa
open Go.RowKit
set_option linter.unusedSimpArgs false

theorem bcell {W w1 : World} (hb : Below W.heap.size W w1) : (∀ b o, b < W.heap.size → w1.cell? ⟨b, o, none⟩ = W.cell? ⟨b, o, none⟩) ∧ (∀ b o, b < W.heap.size → w1.frozen? ⟨b, o, none⟩ = W.frozen? ⟨b, o, none⟩) :=
  ⟨fun b o h => hb.cell (p := ⟨b, o, none⟩) h, fun b o h => hb.frozen (p := ⟨b, o, none⟩) h⟩

/-- What a call left alone below B: cells and marks. -/
theorem bcellB {B : Nat} {W w1 : World} (hb : Below B W w1) : (∀ b o, b < B → w1.cell? ⟨b, o, none⟩ = W.cell? ⟨b, o, none⟩) ∧ (∀ b o, b < B → w1.frozen? ⟨b, o, none⟩ = W.frozen? ⟨b, o, none⟩) :=
  ⟨fun b o h => hb.cell (p := ⟨b, o, none⟩) h, fun b o h => hb.frozen (p := ⟨b, o, none⟩) h⟩

set_option maxHeartbeats 400000 in
theorem isHeader_yes (n : Int) (w : World) (h : hdrB n = true) :
    Calls Try.prog 10 #[.int .i64 n] w fun e w' => e = .returned (.bool true) ∧ w' = w := by
  obtain ⟨h1, h2⟩ := hdr_of h
  clear h
  go_enter Try.func10, Try.ntmps10
  go_wp2
  go_ret
  exact ⟨rfl, rfl⟩

set_option maxHeartbeats 400000 in
theorem isHeader_no (n : Int) (w : World) (h : hdrB n = false) :
    Calls Try.prog 10 #[.int .i64 n] w fun e w' => e = .returned (.bool false) ∧ w' = w := by
  rcases hdr_no h with h1 | h1
  · clear h
    go_enter Try.func10, Try.ntmps10
    go_wp2
    go_ret
    exact ⟨rfl, rfl⟩
  · have h2 : 0 ≤ n := by omega
    have h3 : decide (n < 16) = false := by simp; omega
    clear h
    go_enter Try.func10, Try.ntmps10
    go_wp2
    go_ret
    exact ⟨rfl, rfl⟩

set_option maxHeartbeats 400000 in
theorem check_range (m b : Int) (w : World) (h : rngB m b = false) :
    Calls Try.prog 39 #[.agg #[.int .i64 m, .int .i64 b]] w fun e w' => e = .returned (.iface 57 (.int .i64 1)) ∧ Below w.heap.size w w' := by
  by_cases hm : hdrB m = true
  · have hb : hdrB b = false := by simpa [rngB, hm] using h
    clear h
    go_enter Try.func39, Try.ntmps39
    go_wp2_with fail
    refine (isHeader_yes _ _ hm).mono ?_
    rintro e w' ⟨rfl, rfl⟩
    go_wp2_with fail
    refine (isHeader_no _ _ hb).mono ?_
    rintro e w' ⟨rfl, rfl⟩
    go_wp2
    go_ret
    exact ⟨rfl, (Below.refl _ _).alloc (Nat.le_refl _) _⟩
  · have hm' : hdrB m = false := by simpa using hm
    clear h hm
    go_enter Try.func39, Try.ntmps39
    go_wp2_with fail
    refine (isHeader_no _ _ hm').mono ?_
    rintro e w' ⟨rfl, rfl⟩
    go_wp2
    go_ret
    exact ⟨rfl, (Below.refl _ _).alloc (Nat.le_refl _) _⟩

set_option maxHeartbeats 400000 in
theorem check_shape (m b : Int) (w : World) (h : rngB m b = true) (h2 : okB m b = false) :
    Calls Try.prog 39 #[.agg #[.int .i64 m, .int .i64 b]] w fun e w' => e = .returned (.iface 57 (.int .i64 3)) ∧ Below w.heap.size w w' := by
  have hm : hdrB m = true := by simp only [rngB, Bool.and_eq_true] at h; exact h.1
  have hb : hdrB b = true := by simp only [rngB, Bool.and_eq_true] at h; exact h.2
  have hz : (bits .andNot .i64 b m == 0) = false := by simpa [okB, h] using h2
  clear h h2
  go_enter Try.func39, Try.ntmps39
  go_wp2_with fail
  refine (isHeader_yes _ _ hm).mono ?_
  rintro e w' ⟨rfl, rfl⟩
  go_wp2_with fail
  refine (isHeader_yes _ _ hb).mono ?_
  rintro e w' ⟨rfl, rfl⟩
  go_wp2
  go_ret
  exact ⟨rfl, (Below.refl _ _).alloc (Nat.le_refl _) _⟩

set_option maxHeartbeats 400000 in
theorem check_ok (m b : Int) (w : World) (h : okB m b = true) :
    Calls Try.prog 39 #[.agg #[.int .i64 m, .int .i64 b]] w fun e w' => e = .returned .nilIface ∧ Below w.heap.size w w' := by
  have hm : hdrB m = true := hdr_mk (ok_of h).1
  have hb : hdrB b = true := hdr_mk (ok_of h).2
  have hz : (bits .andNot .i64 b m == 0) = true := by simp only [okB, Bool.and_eq_true] at h; exact h.2
  clear h
  go_enter Try.func39, Try.ntmps39
  go_wp2_with fail
  refine (isHeader_yes _ _ hm).mono ?_
  rintro e w' ⟨rfl, rfl⟩
  go_wp2_with fail
  refine (isHeader_yes _ _ hb).mono ?_
  rintro e w' ⟨rfl, rfl⟩
  go_wp2
  go_ret
  exact ⟨rfl, (Below.refl _ _).alloc (Nat.le_refl _) _⟩

set_option maxHeartbeats 400000 in
theorem isRight_any (m b : Int) (w : World) :
    Calls Try.prog 42 #[.agg #[.int .i64 m, .int .i64 b]] w fun e w' => e = .returned (.bool (okB m b)) ∧ Below w.heap.size w w' := by
  cases hr : rngB m b
  · have ho : okB m b = false := by simp [okB, hr]
    rw [ho]
    clear ho
    go_enter Try.func42, Try.ntmps42
    go_wp2_with fail
    refine (check_range _ _ _ hr).mono ?_
    rintro e w' ⟨rfl, hb⟩
    go_wp2
    go_ret
    exact ⟨rfl, ((Below.refl _ _).alloc (Nat.le_refl _) _).trans (hb.mono (by simp))⟩
  · cases ho : okB m b
    · go_enter Try.func42, Try.ntmps42
      go_wp2_with fail
      refine (check_shape _ _ _ hr ho).mono ?_
      rintro e w' ⟨rfl, hb⟩
      go_wp2
      go_ret
      exact ⟨rfl, ((Below.refl _ _).alloc (Nat.le_refl _) _).trans (hb.mono (by simp))⟩
    · go_enter Try.func42, Try.ntmps42
      go_wp2_with fail
      refine (check_ok _ _ _ ho).mono ?_
      rintro e w' ⟨rfl, hb⟩
      go_wp2
      go_ret
      exact ⟨rfl, ((Below.refl _ _).alloc (Nat.le_refl _) _).trans (hb.mono (by simp))⟩

end Go.Proofs.Ytpmcjelihdlfeaa
/- What Has of package cube answers, called with any cube and number. -/
namespace Go.Proofs.Ytpmcjelihdlfeaa
open Go.RowKit
set_option linter.unusedSimpArgs false

theorem isHeader_any (n : Int) (w : World) :
    Calls Try.prog 10 #[.int .i64 n] w fun e w' => e = .returned (.bool (hdrB n)) ∧ w' = w := by
  cases h : hdrB n
  · exact isHeader_no n w h
  · exact isHeader_yes n w h

set_option maxHeartbeats 400000 in
theorem has_any (m b h : Int) (w : World) :
    Calls Try.prog 36 #[.agg #[.int .i64 m, .int .i64 b], .int .i64 h] w fun e w' => e = .returned (.bool (hasB m b h)) ∧ Below w.heap.size w w' := by
  cases ho : okB m b
  · have e : hasB m b h = false := by simp [hasB, ho]
    rw [e]; clear e
    go_enter Try.func36, Try.ntmps36
    go_wp2_with fail
    refine (isRight_any _ _ _).mono ?_
    rintro e w1 ⟨rfl, hb1⟩
    go_wp2
    go_ret
    exact ⟨rfl, ((Below.refl _ _).alloc (Nat.le_refl _) _).trans (hb1.mono (by simp))⟩
  · cases hh : hdrB h
    · have e : hasB m b h = false := by simp [hasB, hh]
      rw [e]; clear e
      go_enter Try.func36, Try.ntmps36
      go_wp2_with fail
      refine (isRight_any _ _ _).mono ?_
      rintro e w1 ⟨rfl, hb1⟩
      rw [ho]
      go_wp2_with fail
      refine (isHeader_any _ _).mono ?_
      rintro e w' ⟨rfl, rfl⟩
      go_wp2
      go_ret
      exact ⟨rfl, ((Below.refl _ _).alloc (Nat.le_refl _) _).trans (hb1.mono (by simp))⟩
    · have e : hasB m b h = (bits .and .i64 h m == b) := by simp [hasB, hh, ho]
      rw [e]; clear e
      go_enter Try.func36, Try.ntmps36
      go_wp2_with fail
      refine (isRight_any _ _ _).mono ?_
      rintro e w1 ⟨rfl, hb1⟩
      rw [ho]
      obtain ⟨hc1, hf1⟩ := bcell hb1
      go_wp2_with fail
      refine (isHeader_any _ _).mono ?_
      rintro e w' ⟨rfl, rfl⟩
      go_wp2
      go_ret
      exact ⟨rfl, ((Below.refl _ _).alloc (Nat.le_refl _) _).trans (hb1.mono (by simp))⟩
end Go.Proofs.Ytpmcjelihdlfeaa
/- What one rule comes to, in plain numbers: no program in it. A rule is Prio p, its Cube's Mask m and Bits b, Out o, Set s, Value v. -/
namespace Go.Proofs.Ytpmcjelihdlfeaa
open Go.RowKit

/-- Are a rule's own numbers in their bounds? -/
def ruP (p o : Int) : Bool := decide (0 ≤ p) && (decide (p ≤ 99) && (decide (0 ≤ o) && decide (o ≤ 4)))
def ruIn (p o s v : Int) : Bool := ruP p o && rngB s v
/-- Is what a rule sets right? -/
def ruSet (o s v : Int) : Bool := (bits .andNot .i64 v s == 0) && (!(o == 0) || s == 0)
/-- The fault's number of a rule. -/
def ruN (p m b o s v : Int) : Int := if ruIn p o s v then (if okB m b then (if ruSet o s v then 0 else 3) else refN m b) else 1
/-- Is a rule right? -/
def ruOk (p m b o s v : Int) : Bool := ruIn p o s v && (okB m b && ruSet o s v)
/-- The fault's number of a rule and a header that it is applied to. -/
def apN (p m b o s v h : Int) : Int := if ruOk p m b o s v then (if hdrB h then (if hasB m b h && !(o == 0) then 0 else 5) else 1) else ruN p m b o s v
/-- What a rule makes of a header. -/
def apV (s v h : Int) : Int := bits .or .i64 (bits .andNot .i64 h s) v
def apR (p m b o s v h : Int) : Int := if apN p m b o s v h = 0 then apV s v h else 0

theorem ru_ok {p m b o s v : Int} (h : ruOk p m b o s v = true) : ruIn p o s v = true ∧ okB m b = true ∧ ruSet o s v = true := by
  simpa [ruOk] using h
theorem ruN_ok {p m b o s v : Int} (h : ruOk p m b o s v = true) : ruN p m b o s v = 0 := by
  obtain ⟨h1, h2, h3⟩ := ru_ok h
  simp [ruN, h1, h2, h3]
theorem ruN_ne {p m b o s v : Int} (h : ruOk p m b o s v = false) : ruN p m b o s v ≠ 0 := by
  unfold ruN
  cases h1 : ruIn p o s v
  · simp
  · cases h2 : okB m b
    · simp only [if_true]
      have := ok_refN m b
      rw [h2] at this
      simpa using this
    · cases h3 : ruSet o s v
      · simp
      · simp [ruOk, h1, h2, h3] at h
theorem ruN_bd (p m b o s v : Int) : 0 ≤ ruN p m b o s v ∧ ruN p m b o s v ≤ 3 := by
  unfold ruN
  have := refN_bd m b
  split
  · split
    · split <;> omega
    · omega
  · omega
theorem ru_in {p o s v : Int} (h : ruIn p o s v = true) : ((0 ≤ p ∧ p ≤ 99) ∧ (0 ≤ o ∧ o ≤ 4)) ∧ (0 ≤ s ∧ s < 16) ∧ (0 ≤ v ∧ v < 16) := by
  simp only [ruIn, Bool.and_eq_true] at h
  obtain ⟨h1, h2⟩ := h
  have h3 := rng_of h2
  simp only [ruP, Bool.and_eq_true, decide_eq_true_eq] at h1
  exact ⟨⟨⟨h1.1, h1.2.1⟩, ⟨h1.2.2.1, h1.2.2.2⟩⟩, h3⟩
theorem apN_bad {p m b o s v : Int} (h : Int) (hr : ruOk p m b o s v = false) : apN p m b o s v h = ruN p m b o s v := by simp [apN, hr]
theorem apR_bad {p m b o s v h : Int} (hr : apN p m b o s v h ≠ 0) : apR p m b o s v h = 0 := by simp [apR, hr]
theorem ap_yes {p m b o s v h : Int} (hr : apN p m b o s v h = 0) : ruOk p m b o s v = true ∧ hdrB h = true ∧ hasB m b h = true ∧ (o == 0) = false := by
  cases h1 : ruOk p m b o s v
  · rw [apN_bad h h1] at hr
    exact absurd hr (ruN_ne h1)
  · cases h2 : hdrB h
    · simp [apN, h1, h2] at hr
    · simp only [apN, h1, h2, if_true] at hr
      cases h3 : (hasB m b h && !(o == 0))
      · simp [h3] at hr
      · simpa using h3
end Go.Proofs.Ytpmcjelihdlfeaa
/- What Check of package rule answers, called with any rule: contracts for the walks above them. -/
namespace Go.Proofs.Ytpmcjelihdlfeaa
open Go.RowKit
set_option linter.unusedSimpArgs false

/-- The cube's error by its number. -/
theorem check_no (m b : Int) (w : World) :
    Calls Try.prog 39 #[.agg #[.int .i64 m, .int .i64 b]] w fun e w' => e = .returned (noV (refN m b)) ∧ Below w.heap.size w w' := by
  cases hr : rngB m b
  · have e : noV (refN m b) = .iface 57 (.int .i64 1) := by rw [refN_range hr]; rfl
    rw [e]; exact check_range m b w hr
  · cases ho : okB m b
    · have e : noV (refN m b) = .iface 57 (.int .i64 3) := by rw [refN_shape ho hr]; rfl
      rw [e]; exact check_shape m b w hr ho
    · have e : noV (refN m b) = .nilIface := by rw [refN_ok ho]; rfl
      rw [e]; exact check_ok m b w ho

theorem below1 {w w1 : World} {o : Obj} (hb : Below (w.heap.size + 1) (w.alloc o) w1) : Below w.heap.size w w1 :=
  ((Below.refl _ _).alloc (Nat.le_refl _) o).trans (hb.mono (by omega))

set_option maxHeartbeats 1000000 in
theorem ruCheck_prio (p m b o s v : Int) (w : World) (h : ruP p o = false) :
    Calls Try.prog 28 #[.agg #[.int .i64 p, .int .i64 m, .int .i64 b, .int .i64 o, .int .i64 s, .int .i64 v]] w fun e w' => e = .returned (.iface 57 (.int .i64 1)) ∧ Below w.heap.size w w' := by
  have hc : p < 0 ∨ (0 ≤ p ∧ 99 < p) ∨ ((0 ≤ p ∧ p ≤ 99) ∧ o < 0) ∨ ((0 ≤ p ∧ p ≤ 99) ∧ (0 ≤ o ∧ 4 < o)) := by
    simp [ruP] at h
    omega
  clear h
  rcases hc with h1 | ⟨h1, h2⟩ | ⟨⟨h1, h2⟩, h3⟩ | ⟨⟨h1, h2⟩, h3, h4⟩
  · have e1 : decide (p < 0) = true := by simp; omega
    go_enter Try.func28, Try.ntmps28
    go_wp2
    go_ret
    exact ⟨rfl, (Below.refl _ _).alloc (Nat.le_refl _) _⟩
  · have e1 : decide (p < 0) = false := by simp; omega
    have e2 : decide (99 < p) = true := by simp; omega
    go_enter Try.func28, Try.ntmps28
    go_wp2
    go_ret
    exact ⟨rfl, (Below.refl _ _).alloc (Nat.le_refl _) _⟩
  · have e1 : decide (p < 0) = false := by simp; omega
    have e2 : decide (99 < p) = false := by simp; omega
    have e3 : decide (o < 0) = true := by simp; omega
    go_enter Try.func28, Try.ntmps28
    go_wp2
    go_ret
    exact ⟨rfl, (Below.refl _ _).alloc (Nat.le_refl _) _⟩
  · have e1 : decide (p < 0) = false := by simp; omega
    have e2 : decide (99 < p) = false := by simp; omega
    have e3 : decide (o < 0) = false := by simp; omega
    have e4 : decide (4 < o) = true := by simp; omega
    go_enter Try.func28, Try.ntmps28
    go_wp2
    go_ret
    exact ⟨rfl, (Below.refl _ _).alloc (Nat.le_refl _) _⟩

theorem ruP_of {p o : Int} (h : ruP p o = true) : decide (p < 0) = false ∧ decide (99 < p) = false ∧ decide (o < 0) = false ∧ decide (4 < o) = false := by
  simp only [ruP, Bool.and_eq_true, decide_eq_true_eq] at h
  refine ⟨?_, ?_, ?_, ?_⟩ <;> simp <;> omega

set_option maxHeartbeats 1000000 in
theorem ruCheck_set (p m b o s v : Int) (w : World) (h : ruP p o = true) (h2 : rngB s v = false) :
    Calls Try.prog 28 #[.agg #[.int .i64 p, .int .i64 m, .int .i64 b, .int .i64 o, .int .i64 s, .int .i64 v]] w fun e w' => e = .returned (.iface 57 (.int .i64 1)) ∧ Below w.heap.size w w' := by
  obtain ⟨e1, e2, e3, e4⟩ := ruP_of h
  clear h
  cases hs : hdrB s
  · clear h2
    go_enter Try.func28, Try.ntmps28
    go_wp2_with fail
    refine (isHeader_no _ _ hs).mono ?_
    rintro e w' ⟨rfl, rfl⟩
    go_wp2
    go_ret
    exact ⟨rfl, (Below.refl _ _).alloc (Nat.le_refl _) _⟩
  · have hv : hdrB v = false := by simpa [rngB, hs] using h2
    clear h2
    go_enter Try.func28, Try.ntmps28
    go_wp2_with fail
    refine (isHeader_yes _ _ hs).mono ?_
    rintro e w' ⟨rfl, rfl⟩
    go_wp2_with fail
    refine (isHeader_no _ _ hv).mono ?_
    rintro e w' ⟨rfl, rfl⟩
    go_wp2
    go_ret
    exact ⟨rfl, (Below.refl _ _).alloc (Nat.le_refl _) _⟩

set_option maxHeartbeats 1000000 in
theorem ruCheck_cube (p m b o s v : Int) (w : World) (h : ruP p o = true) (h2 : rngB s v = true) (h3 : okB m b = false) :
    Calls Try.prog 28 #[.agg #[.int .i64 p, .int .i64 m, .int .i64 b, .int .i64 o, .int .i64 s, .int .i64 v]] w fun e w' => e = .returned (.iface 57 (.int .i64 (refN m b))) ∧ Below w.heap.size w w' := by
  obtain ⟨e1, e2, e3, e4⟩ := ruP_of h
  have hs : hdrB s = true := by simp only [rngB, Bool.and_eq_true] at h2; exact h2.1
  have hv : hdrB v = true := by simp only [rngB, Bool.and_eq_true] at h2; exact h2.2
  have hn : refN m b ≠ 0 := by have := ok_refN m b; rw [h3] at this; simpa using this
  clear h h2 h3
  go_enter Try.func28, Try.ntmps28
  go_wp2_with fail
  refine (isHeader_yes _ _ hs).mono ?_
  rintro e w' ⟨rfl, rfl⟩
  go_wp2_with fail
  refine (isHeader_yes _ _ hv).mono ?_
  rintro e w' ⟨rfl, rfl⟩
  go_wp2_with fail
  refine (check_no _ _ _).mono ?_
  rintro e w1 ⟨rfl, hb1⟩
  rw [no_ne hn]
  go_wp2
  go_ret
  exact ⟨rfl, ((Below.refl _ _).alloc (Nat.le_refl _) _).trans (hb1.mono (by simp))⟩

set_option maxHeartbeats 1000000 in
theorem ruCheck_end (p m b o s v : Int) (w : World) (h : ruP p o = true) (h2 : rngB s v = true) (h3 : okB m b = true) :
    Calls Try.prog 28 #[.agg #[.int .i64 p, .int .i64 m, .int .i64 b, .int .i64 o, .int .i64 s, .int .i64 v]] w fun e w' => e = .returned (if ruSet o s v then .nilIface else .iface 57 (.int .i64 3)) ∧ Below w.heap.size w w' := by
  obtain ⟨e1, e2, e3, e4⟩ := ruP_of h
  have hs : hdrB s = true := by simp only [rngB, Bool.and_eq_true] at h2; exact h2.1
  have hv : hdrB v = true := by simp only [rngB, Bool.and_eq_true] at h2; exact h2.2
  have hn : refN m b = 0 := refN_ok h3
  have hlt : w.heap.size < (w.alloc (Obj.cells #[Value.int IntKind.i64 p, Value.int IntKind.i64 m, Value.int IntKind.i64 b, Value.int IntKind.i64 o, Value.int IntKind.i64 s, Value.int IntKind.i64 v] 36)).heap.size := by simp
  clear h h2 h3
  cases ha : (bits .andNot .i64 v s == 0)
  · have e : ruSet o s v = false := by simp [ruSet, ha]
    rw [e]; clear e
    simp only [Bool.false_eq_true, if_false]
    have ha2 : (bits .andNot .i64 v s != 0) = true := by simpa using ha
    go_enter Try.func28, Try.ntmps28
    go_wp2_with fail
    refine (isHeader_yes _ _ hs).mono ?_
    rintro e w' ⟨rfl, rfl⟩
    go_wp2_with fail
    refine (isHeader_yes _ _ hv).mono ?_
    rintro e w' ⟨rfl, rfl⟩
    go_wp2_with fail
    refine (check_no _ _ _).mono ?_
    rintro e w1 ⟨rfl, hb1⟩
    rw [no_ok hn]
    obtain ⟨hc1, hf1⟩ := bcell hb1
    have hB := ((Below.refl w.heap.size w).alloc (Nat.le_refl _) (Obj.cells #[Value.int IntKind.i64 p, Value.int IntKind.i64 m, Value.int IntKind.i64 b, Value.int IntKind.i64 o, Value.int IntKind.i64 s, Value.int IntKind.i64 v] 36)).trans (hb1.mono (by simp))
    clear hb1
    go_wp2
    go_ret
    exact ⟨rfl, hB⟩
  · cases ho : (o == 0)
    · have e : ruSet o s v = true := by simp [ruSet, ha, ho]
      rw [e]; clear e
      simp only [if_true]
      have ha2 : (bits .andNot .i64 v s != 0) = false := by simpa using ha
      go_enter Try.func28, Try.ntmps28
      go_wp2_with fail
      refine (isHeader_yes _ _ hs).mono ?_
      rintro e w' ⟨rfl, rfl⟩
      go_wp2_with fail
      refine (isHeader_yes _ _ hv).mono ?_
      rintro e w' ⟨rfl, rfl⟩
      go_wp2_with fail
      refine (check_no _ _ _).mono ?_
      rintro e w1 ⟨rfl, hb1⟩
      rw [no_ok hn]
      obtain ⟨hc1, hf1⟩ := bcell hb1
      have hB := ((Below.refl w.heap.size w).alloc (Nat.le_refl _) (Obj.cells #[Value.int IntKind.i64 p, Value.int IntKind.i64 m, Value.int IntKind.i64 b, Value.int IntKind.i64 o, Value.int IntKind.i64 s, Value.int IntKind.i64 v] 36)).trans (hb1.mono (by simp))
      clear hb1
      go_wp2
      go_ret
      exact ⟨rfl, hB⟩
    · cases hz : (s == 0)
      · have e : ruSet o s v = false := by simp [ruSet, ha, ho, hz]
        rw [e]; clear e
        simp only [Bool.false_eq_true, if_false]
        have ha2 : (bits .andNot .i64 v s != 0) = false := by simpa using ha
        go_enter Try.func28, Try.ntmps28
        go_wp2_with fail
        refine (isHeader_yes _ _ hs).mono ?_
        rintro e w' ⟨rfl, rfl⟩
        go_wp2_with fail
        refine (isHeader_yes _ _ hv).mono ?_
        rintro e w' ⟨rfl, rfl⟩
        go_wp2_with fail
        refine (check_no _ _ _).mono ?_
        rintro e w1 ⟨rfl, hb1⟩
        rw [no_ok hn]
        obtain ⟨hc1, hf1⟩ := bcell hb1
        have hB := ((Below.refl w.heap.size w).alloc (Nat.le_refl _) (Obj.cells #[Value.int IntKind.i64 p, Value.int IntKind.i64 m, Value.int IntKind.i64 b, Value.int IntKind.i64 o, Value.int IntKind.i64 s, Value.int IntKind.i64 v] 36)).trans (hb1.mono (by simp))
        clear hb1
        go_wp2
        go_ret
        exact ⟨rfl, hB⟩
      · have e : ruSet o s v = true := by simp [ruSet, ha, ho, hz]
        rw [e]; clear e
        simp only [if_true]
        have ha2 : (bits .andNot .i64 v s != 0) = false := by simpa using ha
        go_enter Try.func28, Try.ntmps28
        go_wp2_with fail
        refine (isHeader_yes _ _ hs).mono ?_
        rintro e w' ⟨rfl, rfl⟩
        go_wp2_with fail
        refine (isHeader_yes _ _ hv).mono ?_
        rintro e w' ⟨rfl, rfl⟩
        go_wp2_with fail
        refine (check_no _ _ _).mono ?_
        rintro e w1 ⟨rfl, hb1⟩
        rw [no_ok hn]
        obtain ⟨hc1, hf1⟩ := bcell hb1
        have hB := ((Below.refl w.heap.size w).alloc (Nat.le_refl _) (Obj.cells #[Value.int IntKind.i64 p, Value.int IntKind.i64 m, Value.int IntKind.i64 b, Value.int IntKind.i64 o, Value.int IntKind.i64 s, Value.int IntKind.i64 v] 36)).trans (hb1.mono (by simp))
        clear hb1
        go_wp2
        go_ret
        exact ⟨rfl, hB⟩

theorem ruCheck_any (p m b o s v : Int) (w : World) :
    Calls Try.prog 28 #[.agg #[.int .i64 p, .int .i64 m, .int .i64 b, .int .i64 o, .int .i64 s, .int .i64 v]] w fun e w' => e = .returned (noV (ruN p m b o s v)) ∧ Below w.heap.size w w' := by
  cases h1 : ruP p o
  · have e : noV (ruN p m b o s v) = .iface 57 (.int .i64 1) := by simp [ruN, ruIn, h1, noV]
    rw [e]; exact ruCheck_prio p m b o s v w h1
  · cases h2 : rngB s v
    · have e : noV (ruN p m b o s v) = .iface 57 (.int .i64 1) := by simp [ruN, ruIn, h2, noV]
      rw [e]; exact ruCheck_set p m b o s v w h1 h2
    · cases h3 : okB m b
      · have hn : refN m b ≠ 0 := by have := ok_refN m b; rw [h3] at this; simpa using this
        have e : noV (ruN p m b o s v) = .iface 57 (.int .i64 (refN m b)) := by simp [ruN, ruIn, h1, h2, h3, noV, hn]
        rw [e]; exact ruCheck_cube p m b o s v w h1 h2 h3
      · have e : noV (ruN p m b o s v) = (if ruSet o s v then .nilIface else .iface 57 (.int .i64 3)) := by
          cases h4 : ruSet o s v <;> simp [ruN, ruIn, h1, h2, h3, noV, h4]
        rw [e]; exact ruCheck_end p m b o s v w h1 h2 h3

end Go.Proofs.Ytpmcjelihdlfeaa
/- Tables of rules in plain lists: what is wrong with one, which rule counts. No program in it. -/
namespace Go.Proofs.Ytpmcjelihdlfeaa
open Go.RowKit

/-- -1, 0 or 1: is the one below, as great as, above the other? -/
def cmpN (a b : Int) : Int := if a < b then -1 else if b < a then 1 else 0
/-- The first of three numbers that is not 0. -/
def orN (x y z : Int) : Int := if x = 0 then (if y = 0 then z else y) else x
/-- Above 0: the one counts ahead of the other; 0: they have one Prio and one Cube. -/
def ordN (p m b p' m' b' : Int) : Int := orN (cmpN p p') (cmpN m m') (cmpN b b')

structure Ru where
  p : Int
  m : Int
  b : Int
  o : Int
  s : Int
  v : Int

def Ru.n (r : Ru) : Int := ruN r.p r.m r.b r.o r.s r.v
def Ru.ok (r : Ru) : Bool := ruOk r.p r.m r.b r.o r.s r.v
def Ru.has (r : Ru) (h : Int) : Bool := hasB r.m r.b h
def ordR (a b : Ru) : Int := ordN a.p a.m a.b b.p b.m b.b
/-- Have two rules one Prio and one Cube? -/
def keyB (a b : Ru) : Bool := ordR a b == 0
def zeR : Ru := ⟨0, 0, 0, 0, 0, 0⟩

theorem cmp_0 {a b : Int} : cmpN a b = 0 ↔ a = b := by unfold cmpN; split <;> (try split) <;> omega
theorem ord_0 {a b : Ru} : ordR a b = 0 ↔ a.p = b.p ∧ a.m = b.m ∧ a.b = b.b := by
  unfold ordR ordN orN
  by_cases h1 : a.p = b.p
  · rw [if_pos (cmp_0.2 h1)]
    by_cases h2 : a.m = b.m
    · rw [if_pos (cmp_0.2 h2), cmp_0]
      exact ⟨fun h => ⟨h1, h2, h⟩, fun h => h.2.2⟩
    · rw [if_neg (fun h => h2 (cmp_0.1 h)), cmp_0]
      exact ⟨fun h => absurd h h2, fun h => h.2.1⟩
  · rw [if_neg (fun h => h1 (cmp_0.1 h)), cmp_0]
    exact ⟨fun h => absurd h h1, fun h => h.1⟩
theorem ord_le {a b : Ru} : ordR a b ≤ 0 ↔ (a.p < b.p ∨ a.p = b.p ∧ (a.m < b.m ∨ a.m = b.m ∧ a.b ≤ b.b)) := by
  unfold ordR ordN orN cmpN
  split <;> split <;> (try split) <;> (try split) <;> (try split) <;> (try split) <;> omega
theorem ord_tr {a b c : Ru} (h1 : ordR a b ≤ 0) (h2 : 0 < ordR c b) : ordR a c ≤ 0 := by
  have h3 : ¬ ordR c b ≤ 0 := by omega
  rw [ord_le] at h1 h3 ⊢
  omega
theorem ord_as {a b : Ru} (h1 : ordR a b ≤ 0) (h2 : ordR b a ≤ 0) : ordR a b = 0 := by
  rw [ord_le] at h1 h2
  rw [ord_0]
  omega
theorem ord_rf (a : Ru) : ordR a a = 0 := ord_0.2 ⟨rfl, rfl, rfl⟩
theorem key_sym {a b : Ru} (h : keyB a b = false) : keyB b a = false := by
  simp only [keyB, beq_eq_false_iff_ne, ne_eq, ord_0] at h ⊢
  exact fun h' => h ⟨h'.1.symm, h'.2.1.symm, h'.2.2.symm⟩

theorem key_eq (a b : Ru) : keyB a b = (decide (a.p = b.p) && (decide (a.m = b.m) && decide (a.b = b.b))) := by
  rw [Bool.eq_iff_iff, keyB, beq_iff_eq, ord_0]
  simp

/-- Is there one among the first k that has the Prio and the Cube of one ahead? -/
def clTo (L : List Ru) : Nat → Bool
  | 0 => false
  | k + 1 => clTo L k || (L.take k).any (fun a => keyB a (L.getD k zeR))
def okR (L : List Ru) : Bool := L.all Ru.ok
/-- The fault of the first k rules: what is wrong with the first that has a fault: by itself, or that it has the Prio and the Cube of one ahead. -/
def tbTo (L : List Ru) : Nat → Int
  | 0 => 0
  | k + 1 => if tbTo L k = 0 then (if (L.getD k zeR).n = 0 then (if (L.take k).any (fun a => keyB a (L.getD k zeR)) then 7 else 0) else (L.getD k zeR).n) else tbTo L k
/-- The fault of a table. -/
def tbN (L : List Ru) : Int := if 12 < L.length then 4 else tbTo L L.length

theorem n_ne {r : Ru} (h : r.ok = false) : r.n ≠ 0 := ruN_ne h
theorem n_ok {r : Ru} (h : r.ok = true) : r.n = 0 := ruN_ok h
theorem ok_n {r : Ru} (h : r.n = 0) : r.ok = true := by
  cases e : r.ok
  · exact absurd h (n_ne e)
  · rfl
theorem okR_next {L : List Ru} {k : Nat} (hk : k < L.length) (h : okR (L.take k) = true) (h2 : (L[k]).ok = true) : okR (L.take (k + 1)) = true := by
  rw [List.take_succ_eq_append_getElem hk]
  simp only [okR, List.all_append, List.all_cons, List.all_nil, Bool.and_true, Bool.and_eq_true]
  exact ⟨h, h2⟩
/-- A fault among the first ones is the table's. -/
theorem to_le {L : List Ru} {k : Nat} (h : tbTo L k ≠ 0) : ∀ {n : Nat}, k ≤ n → tbTo L n = tbTo L k
  | 0, hn => by
    obtain rfl : k = 0 := by omega
    rfl
  | n + 1, hn => by
    by_cases e : k = n + 1
    · subst e; rfl
    · have := to_le h (show k ≤ n by omega)
      rw [tbTo, if_neg (by rw [this]; exact h), this]
theorem getD_at {L : List Ru} {k : Nat} (hk : k < L.length) : L.getD k zeR = L[k] := by simp [List.getD, hk]

theorem cl_le {L : List Ru} : ∀ {k n : Nat}, k ≤ n → clTo L n = false → clTo L k = false
  | k, 0, h, hc => by
    obtain rfl : k = 0 := by omega
    exact hc
  | k, n + 1, h, hc => by
    by_cases e : k = n + 1
    · subst e; exact hc
    · simp only [clTo, Bool.or_eq_false_iff] at hc
      exact cl_le (by omega) hc.1
theorem cl_hit {L : List Ru} {k : Nat} (hk : k < L.length) (h : (L.take k).any (fun a => keyB a (L.getD k zeR)) = true) : clTo L L.length = true := by
  cases e : clTo L L.length
  · have := cl_le (show k + 1 ≤ L.length by omega) e
    simp only [clTo, h, Bool.or_true] at this
    cases this
  · rfl
/-- No clash: no two have one Prio and one Cube. -/
theorem cl_no {L : List Ru} : clTo L L.length = false ↔ ∀ i j, i < j → j < L.length → keyB (L.getD i zeR) (L.getD j zeR) = false := by
  constructor
  · intro h i j hij hj
    have := cl_le (show j + 1 ≤ L.length by omega) h
    simp only [clTo, Bool.or_eq_false_iff] at this
    have h2 := this.2
    rw [List.any_eq_false] at h2
    have hm : L.getD i zeR ∈ L.take j := by
      rw [getD_at (by omega)]
      rw [List.mem_take_iff_getElem]
      exact ⟨i, by omega, rfl⟩
    simpa using h2 _ hm
  · intro h
    have : ∀ n, n ≤ L.length → clTo L n = false := by
      intro n
      induction n with
      | zero => intro _; rfl
      | succ n ih =>
        intro hn
        simp only [clTo, Bool.or_eq_false_iff]
        refine ⟨ih (by omega), ?_⟩
        rw [List.any_eq_false]
        intro a ha
        rw [List.mem_take_iff_getElem] at ha
        obtain ⟨i, hi, rfl⟩ := ha
        have := h i n (by omega) (by omega)
        rw [getD_at (by omega)] at this
        simpa using this
    exact this _ (Nat.le_refl _)
theorem to_0 {L : List Ru} : ∀ {k : Nat}, k ≤ L.length → (tbTo L k = 0 ↔ okR (L.take k) = true ∧ clTo L k = false)
  | 0, _ => by simp [tbTo, okR, clTo]
  | k + 1, hk => by
    have ih := to_0 (show k ≤ L.length by omega)
    have hl : k < L.length := by omega
    rw [tbTo, clTo]
    by_cases h1 : tbTo L k = 0
    · obtain ⟨i1, i2⟩ := ih.1 h1
      rw [if_pos h1, i2, Bool.false_or]
      by_cases h2 : (L.getD k zeR).n = 0
      · rw [if_pos h2]
        have h3 := okR_next hl i1 (by rw [← getD_at hl]; exact ok_n h2)
        cases h4 : (L.take k).any (fun a => keyB a (L.getD k zeR))
        · simp [h3]
        · simp
      · rw [if_neg h2]
        refine ⟨fun h => absurd h h2, fun h => ?_⟩
        exfalso
        have h5 := h.1
        rw [okR, List.all_eq_true] at h5
        exact h2 (n_ok (by rw [getD_at hl]; exact h5 _ (by rw [List.mem_take_iff_getElem]; exact ⟨k, by omega, rfl⟩)))
    · rw [if_neg h1]
      refine ⟨fun h => absurd h h1, fun h => ?_⟩
      exfalso
      obtain ⟨h5, h6⟩ := h
      simp only [Bool.or_eq_false_iff] at h6
      refine h1 (ih.2 ⟨?_, h6.1⟩)
      rw [okR, List.all_eq_true] at h5 ⊢
      intro x hx
      refine h5 x ?_
      rw [List.mem_take_iff_getElem] at hx ⊢
      obtain ⟨i, hi, e⟩ := hx
      exact ⟨i, by omega, e⟩
/-- A table that is right. -/
theorem tb_0 {L : List Ru} : tbN L = 0 ↔ L.length ≤ 12 ∧ okR L = true ∧ clTo L L.length = false := by
  unfold tbN
  by_cases h1 : 12 < L.length
  · rw [if_pos h1]
    constructor
    · intro h; cases h
    · intro h; omega
  · rw [if_neg h1, to_0 (Nat.le_refl _), List.take_length]
    exact ⟨fun h => ⟨by omega, h⟩, fun h => h.2⟩

theorem rev_at {L : List Ru} {i : Nat} (h : i < L.length) : L.reverse.getD i zeR = L.getD (L.length - 1 - i) zeR := by
  rw [getD_at (by simpa using h), getD_at (by omega), List.getElem_reverse]
theorem tb_rev {L : List Ru} (h : tbN L = 0) : tbN L.reverse = 0 := by
  rw [tb_0] at h ⊢
  obtain ⟨h1, h2, h3⟩ := h
  refine ⟨by simpa using h1, by simpa [okR] using h2, ?_⟩
  rw [cl_no] at h3 ⊢
  intro i j hij hj
  rw [List.length_reverse] at hj
  rw [rev_at (by omega), rev_at hj]
  exact key_sym (h3 _ _ (by omega) (by omega))

/-- The place of the rule that counts among the first k; -1: none. -/
def beTo (L : List Ru) (h : Int) : Nat → Int
  | 0 => -1
  | k + 1 => if ((L.getD k zeR).has h && (decide (beTo L h k < 0) || decide (0 < ordR (L.getD k zeR) (L.getD (beTo L h k).toNat zeR)))) = true then (k : Int) else beTo L h k
theorem be_bd (L : List Ru) (h : Int) : ∀ k : Nat, -1 ≤ beTo L h k ∧ beTo L h k < k
  | 0 => by simp [beTo]
  | k + 1 => by
    have := be_bd L h k
    unfold beTo
    split <;> omega
theorem be_no {L : List Ru} {h : Int} : ∀ {k : Nat}, beTo L h k < 0 → ∀ j, j < k → (L.getD j zeR).has h = false
  | 0, _, j, hj => by omega
  | k + 1, hb, j, hj => by
    unfold beTo at hb
    split at hb
    · omega
    · next hn =>
      by_cases e : j = k
      · subst e
        cases hh : (L.getD j zeR).has h
        · rfl
        · exact absurd (by rw [hh]; simp [hb]) hn
      · exact be_no hb j (by omega)
theorem be_yes {L : List Ru} {h : Int} : ∀ {k : Nat}, 0 ≤ beTo L h k → (L.getD (beTo L h k).toNat zeR).has h = true ∧ ∀ j, j < k → (L.getD j zeR).has h = true → ordR (L.getD j zeR) (L.getD (beTo L h k).toNat zeR) ≤ 0
  | 0, hb => by simp [beTo] at hb
  | k + 1, hb => by
    unfold beTo at hb ⊢
    split
    · next hy =>
      simp only [Bool.and_eq_true, Bool.or_eq_true, decide_eq_true_eq] at hy
      obtain ⟨y1, y2⟩ := hy
      simp only [Int.toNat_natCast]
      refine ⟨y1, fun j hj hh => ?_⟩
      by_cases e : j = k
      · subst e
        rw [ord_rf]
        exact Int.le_refl _
      · rcases y2 with y2 | y2
        · rw [be_no y2 j (by omega)] at hh
          cases hh
        · have h0 : 0 ≤ beTo L h k := by
            rcases Int.lt_or_le (beTo L h k) 0 with h' | h'
            · rw [be_no h' j (by omega)] at hh
              cases hh
            · exact h'
          exact ord_tr ((be_yes h0).2 j (by omega) hh) y2
    · next hn =>
      rw [if_neg hn] at hb
      obtain ⟨i1, i2⟩ := be_yes hb
      refine ⟨i1, fun j hj hh => ?_⟩
      by_cases e : j = k
      · subst e
        rw [hh] at hn
        simp only [Bool.true_and, Bool.or_eq_true, decide_eq_true_eq, not_or] at hn
        omega
      · exact i2 j (by omega) hh

/-- The fault of a look into a table, and the place. -/
def luN (L : List Ru) (h : Int) : Int := if tbN L = 0 then (if hdrB h then (if beTo L h L.length < 0 then 5 else 0) else 1) else tbN L
def luI (L : List Ru) (h : Int) : Int := if luN L h = 0 then beTo L h L.length else 0
theorem lu_0 {L : List Ru} {h : Int} : luN L h = 0 ↔ tbN L = 0 ∧ hdrB h = true ∧ 0 ≤ beTo L h L.length := by
  unfold luN
  by_cases h1 : tbN L = 0
  · rw [if_pos h1]
    cases h2 : hdrB h
    · simp
    · by_cases h3 : beTo L h L.length < 0
      · simp [h1, h3] <;> omega
      · simp [h1, h3] <;> omega
  · rw [if_neg h1]
    simp [h1]
theorem lu_rev {L : List Ru} {h : Int} (h0 : luN L h = 0) : luN L.reverse h = 0 := by
  rw [lu_0] at h0 ⊢
  obtain ⟨h1, h2, h3⟩ := h0
  refine ⟨tb_rev h1, h2, ?_⟩
  rcases Int.lt_or_le (beTo L.reverse h L.reverse.length) 0 with h' | h'
  · exfalso
    have hb := be_bd L h L.length
    have := be_no h' (L.length - 1 - (beTo L h L.length).toNat) (by rw [List.length_reverse]; omega)
    rw [rev_at (by omega), show L.length - 1 - (L.length - 1 - (beTo L h L.length).toNat) = (beTo L h L.length).toNat by omega, (be_yes h3).1] at this
    cases this
  · exact h'
theorem lu_iff {L : List Ru} {h : Int} : luN L.reverse h = 0 ↔ luN L h = 0 :=
  ⟨fun e => by have := lu_rev e; rwa [List.reverse_reverse] at this, lu_rev⟩
/-- However a table stands, the same rule counts. -/
theorem lu_same {L : List Ru} {h : Int} (h0 : luN L h = 0) : L.reverse.getD (luI L.reverse h).toNat zeR = L.getD (luI L h).toNat zeR ∧ (luI L.reverse h).toNat < L.length ∧ (luI L h).toNat < L.length ∧ 0 ≤ luI L.reverse h ∧ 0 ≤ luI L h := by
  have h1 := lu_rev h0
  have e1 : luI L h = beTo L h L.length := by simp [luI, h0]
  have e2 : luI L.reverse h = beTo L.reverse h L.reverse.length := by rw [luI, if_pos h1]
  rw [e1, e2]
  obtain ⟨a1, _, a3⟩ := lu_0.1 h0
  obtain ⟨_, _, b3⟩ := lu_0.1 h1
  have c1 := be_bd L h L.length
  have c2 := be_bd L.reverse h L.reverse.length
  rw [List.length_reverse] at *
  obtain ⟨d1, d2⟩ := be_yes a3
  obtain ⟨f1, f2⟩ := be_yes b3
  generalize hi : (beTo L h L.length).toNat = i at *
  generalize hk : (beTo L.reverse h L.length).toNat = k at *
  have hil : i < L.length := by omega
  have hkl : k < L.length := by omega
  refine ⟨?_, hkl, hil, b3, a3⟩
  rw [rev_at hkl] at f1 f2 ⊢
  have g1 := d2 (L.length - 1 - k) (by omega) f1
  have g2 := f2 (L.length - 1 - i) (by omega) (by rw [rev_at (by omega), show L.length - 1 - (L.length - 1 - i) = i by omega]; exact d1)
  rw [rev_at (by omega), show L.length - 1 - (L.length - 1 - i) = i by omega] at g2
  have g3 := ord_as g2 g1
  have hc := cl_no.1 (tb_0.1 a1).2.2
  rcases Nat.lt_trichotomy i (L.length - 1 - k) with h' | h' | h'
  · have := hc _ _ h' (by omega)
    rw [keyB, g3] at this
    cases this
  · rw [← h']
  · have := key_sym (hc _ _ h' hil)
    rw [keyB, g3] at this
    cases this
/-- The rule that counts has the header, and none that has it has a greater Prio. -/
theorem lu_top {L : List Ru} {h : Int} (h0 : luN L h = 0) : (L.getD (luI L h).toNat zeR).has h = true ∧ ∀ j, j < L.length → (L.getD j zeR).has h = true → (L.getD j zeR).p ≤ (L.getD (luI L h).toNat zeR).p := by
  have e1 : luI L h = beTo L h L.length := by simp [luI, h0]
  rw [e1]
  obtain ⟨d1, d2⟩ := be_yes (lu_0.1 h0).2.2
  refine ⟨d1, fun j hj hh => ?_⟩
  have := d2 j hj hh
  rw [ord_le] at this
  omega
end Go.Proofs.Ytpmcjelihdlfeaa
/- What Table of package rule answers, called with any table. -/
namespace Go.Proofs.Ytpmcjelihdlfeaa
open Go.RowKit
set_option linter.unusedSimpArgs false

/-- A rule lies at an address. -/
structure C6 (w : World) (g o : Nat) (r : Ru) : Prop where
  c0 : w.cell? ⟨g, o, none⟩ = some (.int .i64 r.p)
  c1 : w.cell? ⟨g, o + 1, none⟩ = some (.int .i64 r.m)
  c2 : w.cell? ⟨g, o + 2, none⟩ = some (.int .i64 r.b)
  c3 : w.cell? ⟨g, o + 3, none⟩ = some (.int .i64 r.o)
  c4 : w.cell? ⟨g, o + 4, none⟩ = some (.int .i64 r.s)
  c5 : w.cell? ⟨g, o + 5, none⟩ = some (.int .i64 r.v)
theorem C6.later {w w' : World} {g o : Nat} {r : Ru} (h : C6 w g o r) (hb : Below w.heap.size w w') : C6 w' g o r :=
  ⟨cell_later hb h.c0, cell_later hb h.c1, cell_later hb h.c2, cell_later hb h.c3, cell_later hb h.c4, cell_later hb h.c5⟩
theorem C6.new (w : World) (p m b o s v : Int) (t : TypeId) : C6 (w.alloc (Obj.cells #[Value.int IntKind.i64 p, Value.int IntKind.i64 m, Value.int IntKind.i64 b, Value.int IntKind.i64 o, Value.int IntKind.i64 s, Value.int IntKind.i64 v] t)) w.heap.size 0 ⟨p, m, b, o, s, v⟩ := by
  refine ⟨?_, ?_, ?_, ?_, ?_, ?_⟩ <;> simp
/-- These rules lie from an address on. -/
def RAt (w : World) (g o : Nat) (L : List Ru) : Prop := ∀ i (h : i < L.length), C6 w g (o + i * 6) L[i]
theorem RAt.later {w w' : World} {g o : Nat} {L : List Ru} (h : RAt w g o L) (hb : Below w.heap.size w w') : RAt w' g o L := fun i hi => (h i hi).later hb
theorem RAt.take {w : World} {g o : Nat} {L : List Ru} (h : RAt w g o L) (k : Nat) : RAt w g o (L.take k) := by
  intro i hi
  rw [List.getElem_take]
  exact h i (by simp at hi; omega)
/-- A value is a slice of these rules. -/
def SR (w : World) (v : Value) (L : List Ru) : Prop :=
  (∃ ao cap, v = .slice ao 0 cap ∧ L = []) ∨ ∃ g o cap, v = .slice (some ⟨g, o, none⟩) L.length cap ∧ L.length ≤ cap ∧ cap ≤ maxLen ∧ RAt w g o L
theorem SR.later {w w' : World} {v : Value} {L : List Ru} (h : SR w v L) (hb : Below w.heap.size w w') : SR w' v L := by
  rcases h with h | ⟨g, o, cap, h1, h2, h3, h4⟩
  · exact .inl h
  · exact .inr ⟨g, o, cap, h1, h2, h3, h4.later hb⟩
/-- The rule at a place, in letters. -/
theorem RAt.at {w : World} {g o : Nat} {L : List Ru} (h : RAt w g o L) {n k : Nat} (hn : L.length = n) (hk : k < n) :
    ∃ (p m b q s v : Int) (hl : k < L.length), L[k] = ⟨p, m, b, q, s, v⟩ ∧ (w.cell? ⟨g, o + k * 6, none⟩ = some (.int .i64 p) ∧ w.cell? ⟨g, o + k * 6 + 1, none⟩ = some (.int .i64 m) ∧ w.cell? ⟨g, o + k * 6 + 2, none⟩ = some (.int .i64 b) ∧
      w.cell? ⟨g, o + k * 6 + 3, none⟩ = some (.int .i64 q) ∧ w.cell? ⟨g, o + k * 6 + 4, none⟩ = some (.int .i64 s) ∧ w.cell? ⟨g, o + k * 6 + 5, none⟩ = some (.int .i64 v)) :=
  have hl : k < L.length := by omega
  have c := h k hl
  ⟨_, _, _, _, _, _, hl, rfl, c.c0, c.c1, c.c2, c.c3, c.c4, c.c5⟩

theorem key_ways (p m b o s v p' m' b' o' s' v' : Int) :
    ((p == p') = false ∧ keyB ⟨p, m, b, o, s, v⟩ ⟨p', m', b', o', s', v'⟩ = false) ∨ ((p == p') = true ∧ (m == m') = false ∧ keyB ⟨p, m, b, o, s, v⟩ ⟨p', m', b', o', s', v'⟩ = false) ∨
    ((p == p') = true ∧ (m == m') = true ∧ (b == b') = false ∧ keyB ⟨p, m, b, o, s, v⟩ ⟨p', m', b', o', s', v'⟩ = false) ∨ ((p == p') = true ∧ (m == m') = true ∧ (b == b') = true ∧ keyB ⟨p, m, b, o, s, v⟩ ⟨p', m', b', o', s', v'⟩ = true) := by
  rw [key_eq]
  by_cases h1 : p = p' <;> by_cases h2 : m = m' <;> by_cases h3 : b = b' <;> simp [h1, h2, h3]
set_option maxHeartbeats 1000000 in
theorem clash_any (p m b o s v p' m' b' o' s' v' : Int) (w : World) :
    Calls Try.prog 31 #[.agg #[.int .i64 p, .int .i64 m, .int .i64 b, .int .i64 o, .int .i64 s, .int .i64 v], .agg #[.int .i64 p', .int .i64 m', .int .i64 b', .int .i64 o', .int .i64 s', .int .i64 v']] w fun e w' => e = .returned (.bool (keyB ⟨p, m, b, o, s, v⟩ ⟨p', m', b', o', s', v'⟩)) ∧ Below w.heap.size w w' := by
  have HB : Hid (∀ o1 o2, Below w.heap.size w ((w.alloc o1).alloc o2)) := fun o1 o2 => ((Below.refl _ _).alloc (Nat.le_refl _) o1).alloc (by simp) o2
  rcases key_ways p m b o s v p' m' b' o' s' v' with ⟨e1, e⟩ | ⟨e1, e2, e⟩ | ⟨e1, e2, e3, e⟩ | ⟨e1, e2, e3, e⟩
  all_goals
    rw [e]
    clear e
    go_enter Try.func31, Try.ntmps31
    go_wp2
    go_ret
    exact ⟨rfl, HB.out _ _⟩

/-- A closure that asks something of a rule, in whatever world behind this one. -/
def Asks (w : World) (f : FuncId) (c : Value) (P : Ru → Bool) : Prop :=
  ∀ (p m b o s v : Int) (W : World), Below w.heap.size w W →
    Calls Try.prog f #[.agg #[.int .i64 p, .int .i64 m, .int .i64 b, .int .i64 o, .int .i64 s, .int .i64 v], c] W fun e w' => e = .returned (.bool (P ⟨p, m, b, o, s, v⟩)) ∧ Below W.heap.size W w'
theorem Asks.later {w w' : World} {f : FuncId} {c : Value} {P : Ru → Bool} (h : Asks w f c P) (hb : Below w.heap.size w w') : Asks w' f c P :=
  fun p m b o s v W hW => h p m b o s v W (hb.trans (hW.mono hb.size))

set_option maxHeartbeats 1000000 in
theorem table1_any (p m b o s v : Int) (r : Ru) (B : Nat) (w : World) (hc : C6 w B 0 r) :
    Calls Try.prog 30 #[.agg #[.int .i64 p, .int .i64 m, .int .i64 b, .int .i64 o, .int .i64 s, .int .i64 v], .pointer (some ⟨B, 0, none⟩)] w fun e w' => e = .returned (.bool (keyB ⟨p, m, b, o, s, v⟩ r)) ∧ Below w.heap.size w w' := by
  obtain ⟨p', m', b', o', s', v'⟩ := r
  obtain ⟨c0, c1, c2, c3, c4, c5⟩ := hc
  simp only [Nat.zero_add] at c0 c1 c2 c3 c4 c5
  have hlt : B < w.heap.size := World.block_lt_of_cell? _ _ c0
  go_enter Try.func30, Try.ntmps30
  go_wp2_with fail
  refine (clash_any _ _ _ _ _ _ _ _ _ _ _ _ _).mono ?_
  rintro e w1 ⟨rfl, hb1⟩
  go_wp2
  go_ret
  exact ⟨rfl, ((Below.refl _ _).alloc (Nat.le_refl _) _).trans (hb1.mono (by simp))⟩
theorem table1_asks (r : Ru) (B : Nat) (w : World) (hc : C6 w B 0 r) : Asks w 30 (.pointer (some ⟨B, 0, none⟩)) (fun a => keyB a r) :=
  fun p m b o s v W hW => table1_any p m b o s v r B W (hc.later hW)

theorem any_nextR {L : List Ru} {f : Ru → Bool} {k : Nat} (hk : k < L.length) (h : (L.take k).any f = false) (h2 : f L[k] = false) : (L.take (k + 1)).any f = false := by
  rw [List.take_succ_eq_append_getElem hk]
  simp only [List.any_append, h, List.any_cons, List.any_nil, h2, Bool.or_false]
theorem any_hitR {L : List Ru} {f : Ru → Bool} {k : Nat} (hk : k < L.length) (h2 : f L[k] = true) : L.any f = true := List.any_eq_true.2 ⟨_, List.getElem_mem hk, h2⟩
/-- The first place where something is so, or -1. -/
def ixP (f : Ru → Bool) (L : List Ru) : Int := if L.any f then (L.findIdx f : Int) else -1
theorem ixP_hit {L : List Ru} {f : Ru → Bool} {k : Nat} (hk : k < L.length) (h : (L.take k).any f = false) (h2 : f L[k] = true) : ixP f L = k := by
  rw [ixP, any_hitR hk h2, if_pos rfl]
  congr 1
  rw [List.findIdx_eq hk]
  refine ⟨h2, fun j hj => ?_⟩
  rw [List.any_eq_false] at h
  have := h L[j] (by rw [List.mem_take_iff_getElem]; exact ⟨j, by omega, rfl⟩)
  simpa using this
theorem ixP_no {L : List Ru} {f : Ru → Bool} (h : L.any f = false) : ixP f L = -1 := by simp [ixP, h]
theorem ixP_any (L : List Ru) (f : Ru → Bool) : decide (0 ≤ ixP f L) = L.any f := by
  unfold ixP
  cases L.any f
  · simp
  · simp
theorem SR.form {w : World} {v : Value} {L : List Ru} (h : SR w v L) : ∃ ao n cap, v = .slice ao n cap ∧ L.length = n ∧ n ≤ maxLen ∧ n ≤ cap ∧ (0 < n → ∃ g o, ao = some ⟨g, o, none⟩ ∧ RAt w g o L ∧ cap ≤ maxLen) := by
  rcases h with ⟨ao, cap, rfl, rfl⟩ | ⟨g, o, cap, rfl, h1, h2, h3⟩
  · exact ⟨ao, 0, cap, rfl, rfl, Nat.zero_le _, Nat.zero_le _, fun h => absurd h (by omega)⟩
  · exact ⟨_, _, cap, rfl, rfl, Nat.le_trans h1 h2, h1, fun _ => ⟨g, o, rfl, h3, h2⟩⟩

set_option maxHeartbeats 1000000 in
theorem idxF (ao : Option Addr) (n cap : Nat) (f : FuncId) (c : Value) (P : Ru → Bool) (L : List Ru) (w : World) (hn : L.length = n) (hn2 : n ≤ maxLen) (ha : 0 < n → ∃ g o, ao = some ⟨g, o, none⟩ ∧ RAt w g o L ∧ cap ≤ maxLen) (he : ∀ args w, (callFunc f args).run Try.prog w = .ok (.enter f args) w) (hf : Asks w f c P) :
    Calls Try.prog 40 #[.slice ao n cap, .func (Fn.func f) #[] #[c]] w fun e w' => e = .returned (.int .i64 (ixP P L)) ∧ Below w.heap.size w w' := by
  have HN : Hid (L.length = n) := hn
  have HF : Hid (Asks w f c P) := hf
  have HA : Hid (0 < n → ∃ g o, ao = some ⟨g, o, none⟩ ∧ RAt w g o L ∧ cap ≤ maxLen) := ha
  unfold maxLen at hn2
  clear hn hf ha
  go_enter Try.func40, Try.ntmps40
  go_wp2
  go_loopw [8] (fun i wr => ∃ k : Nat, k ≤ n ∧ i = .int .i64 k ∧ (L.take k).any P = false ∧ Below w.heap.size w wr)
    (fun i _ => n - (intOf i).toNat)
  case atStart => exact ⟨0, by omega, rfl, by simp, Below.refl _ _⟩
  case round =>
    obtain ⟨k, hk, rfl, hno, hB⟩ := hrel
    have HB : Hid (Below w.heap.size w wr) := hB
    have HNO : Hid ((L.take k).any P = false) := hno
    clear hno
    by_cases hlt : k < n
    · obtain ⟨g, o, hao, hc, _⟩ := HA.out (by omega)
      subst hao
      obtain ⟨p, m, b, q, s, v, hkl, hL, q0, q1, q2, q3, q4, q5⟩ := (hc.later hB).at HN.out hlt
      have HL : Hid (L[k] = ⟨p, m, b, q, s, v⟩) := hL
      clear hL hB
      cases ho : P ⟨p, m, b, q, s, v⟩
      · go_wp2_with fail
        refine (HF.out p m b q s v _ HB.out).mono ?_
        rintro e w1 ⟨rfl, hb1⟩
        rw [ho]
        have HB1 := HB.out.trans (hb1.mono HB.out.size)
        clear hb1
        go_wp2
        go_roundw
        case rel => exact ⟨k + 1, by omega, by go_num, any_nextR hkl HNO.out (by rw [HL.out]; exact ho), HB1⟩
        case measure => simp [intOf]; omega
      · go_wp2_with fail
        refine (HF.out p m b q s v _ HB.out).mono ?_
        rintro e w1 ⟨rfl, hb1⟩
        rw [ho]
        go_wp2
        go_ret
        exact ⟨by rw [ixP_hit hkl HNO.out (by rw [HL.out]; exact ho)]; rfl, HB.out.trans (hb1.mono HB.out.size)⟩
    · obtain rfl : k = n := by omega
      go_wp2
      go_ret
      exact ⟨by have := HNO.out; rw [← HN.out, List.take_length] at this; rw [ixP_no this]; rfl, HB.out⟩

set_option maxHeartbeats 1000000 in
theorem containsF (ao : Option Addr) (n cap : Nat) (f : FuncId) (c : Value) (P : Ru → Bool) (L : List Ru) (w : World) (hn : L.length = n) (hn2 : n ≤ maxLen) (ha : 0 < n → ∃ g o, ao = some ⟨g, o, none⟩ ∧ RAt w g o L ∧ cap ≤ maxLen) (he : ∀ args w, (callFunc f args).run Try.prog w = .ok (.enter f args) w) (hf : Asks w f c P) :
    Calls Try.prog 29 #[.slice ao n cap, .func (Fn.func f) #[] #[c]] w fun e w' => e = .returned (.bool (L.any P)) ∧ Below w.heap.size w w' := by
  rw [← ixP_any]
  obtain ⟨x, hx⟩ : ∃ x, x = ixP P L := ⟨_, rfl⟩
  have HX : Hid (x = ixP P L) := hx
  rw [← hx]
  clear hx
  go_enter Try.func29, Try.ntmps29
  go_wp2_with fail
  refine (idxF ao n cap f c P L _ hn hn2 ha he hf).mono ?_
  rintro e w1 ⟨rfl, hb1⟩
  rw [← HX.out]
  go_wp2
  go_ret
  exact ⟨rfl, hb1⟩
theorem containsR_any (g o cap n B : Nat) (r : Ru) (L : List Ru) (w : World) (hc : RAt w g o L) (hn : L.length = n) (hn2 : n ≤ maxLen) (hcap : cap ≤ maxLen) (hr : C6 w B 0 r) :
    Calls Try.prog 29 #[.slice (some ⟨g, o, none⟩) n cap, .func (Fn.func 30) #[] #[.pointer (some ⟨B, 0, none⟩)]] w fun e w' => e = .returned (.bool (L.any (fun a => keyB a r))) ∧ Below w.heap.size w w' :=
  containsF _ n cap _ _ _ L w hn hn2 (fun _ => ⟨g, o, rfl, hc, hcap⟩) (enters_of Try.func30 (by kernel_rfl) rfl) (table1_asks r B w hr)
end Go.Proofs.Ytpmcjelihdlfeaa
/- What Table of package rule answers, called with any table: the loop. -/
namespace Go.Proofs.Ytpmcjelihdlfeaa
open Go.RowKit
set_option linter.unusedSimpArgs false

theorem tb_long {L : List Ru} (h : 12 < L.length) : tbN L = 4 := by simp [tbN, h]
theorem tb_at {L : List Ru} (h : L.length ≤ 12) {k : Nat} (hk : k < L.length) {x : Int} (h1 : tbTo L (k + 1) = x) (h2 : x ≠ 0) : tbN L = x := by
  subst h1
  rw [tbN, if_neg (by omega)]
  exact to_le h2 hk
theorem to_bad {L : List Ru} {k : Nat} {r : Ru} (hk : k < L.length) (hr : L[k] = r) (h : tbTo L k = 0) (h2 : r.n ≠ 0) : tbTo L (k + 1) = r.n := by
  rw [tbTo, if_pos h, getD_at hk, hr, if_neg h2]
theorem to_clash {L : List Ru} {k : Nat} {r : Ru} (hk : k < L.length) (hr : L[k] = r) (h : tbTo L k = 0) (h2 : r.n = 0) (h3 : (L.take k).any (fun a => keyB a r) = true) : tbTo L (k + 1) = 7 := by
  rw [tbTo, if_pos h, getD_at hk, hr, if_pos h2, h3]
  rfl
theorem to_next {L : List Ru} {k : Nat} {r : Ru} (hk : k < L.length) (hr : L[k] = r) (h : tbTo L k = 0) (h2 : r.n = 0) (h3 : (L.take k).any (fun a => keyB a r) = false) : tbTo L (k + 1) = 0 := by
  rw [tbTo, if_pos h, getD_at hk, hr, if_pos h2, h3]
  rfl

set_option maxHeartbeats 1000000 in
theorem table_some (g o cap n : Nat) (L : List Ru) (w : World) (hc : RAt w g o L) (hn : L.length = n) (hl : n ≤ 12) (hcap : n ≤ cap) (hcap2 : cap ≤ maxLen) :
    Calls Try.prog 17 #[.slice (some ⟨g, o, none⟩) n cap] w fun e w' => e = .returned (noV (tbN L)) ∧ Below w.heap.size w w' := by
  have HN : Hid (L.length = n) := hn
  unfold maxLen at hcap2
  clear hn
  go_enter Try.func17, Try.ntmps17
  go_wp2
  go_loopw [12] (fun i wr => ∃ k : Nat, k ≤ n ∧ i = .int .i64 k ∧ tbTo L k = 0 ∧ Below w.heap.size w wr) (fun i _ => n - (intOf i).toNat)
  case atStart => exact ⟨0, by omega, rfl, rfl, Below.refl _ _⟩
  case round =>
    obtain ⟨k, hk, rfl, hno, hB⟩ := hrel
    have HB : Hid (Below w.heap.size w wr) := hB
    have HNO : Hid (tbTo L k = 0) := hno
    clear hno
    by_cases hlt : k < n
    · obtain ⟨p, m, b, q, s, v, hkl, hL, q0, q1, q2, q3, q4, q5⟩ := (hc.later hB).at HN.out hlt
      have HL : Hid (L[k] = ⟨p, m, b, q, s, v⟩) := hL
      have HC6 := C6.new wr p m b q s v 36
      have HRT := ((hc.later hB).later ((Below.refl _ _).alloc (Nat.le_refl _) (Obj.cells #[Value.int IntKind.i64 p, Value.int IntKind.i64 m, Value.int IntKind.i64 b, Value.int IntKind.i64 q, Value.int IntKind.i64 s, Value.int IntKind.i64 v] 36))).take k
      have HTL : Hid ((L.take k).length = k) := by show (L.take k).length = k; simp; omega
      have hk2 : k ≤ cap := by omega
      clear hL hB
      by_cases ho : ruN p m b q s v = 0
      · go_wp2_with fail
        refine (ruCheck_any _ _ _ _ _ _ _).mono ?_
        rintro e w1 ⟨rfl, hb1⟩
        rw [no_ok ho]
        have HB1 := HB.out.trans (((Below.refl _ _).alloc (Nat.le_refl _) _).trans (hb1.mono (by simp)) |>.mono HB.out.size)
        have HC7 := HC6.later hb1
        have HR7 := HRT.later hb1
        clear hb1 HC6 HRT
        cases ho2 : (L.take k).any (fun a => keyB a ⟨p, m, b, q, s, v⟩)
        · go_wp2_with fail
          refine (containsR_any _ _ _ k _ ⟨p, m, b, q, s, v⟩ (L.take k) _ HR7 HTL.out (by unfold maxLen; omega) (by unfold maxLen; omega) HC7).mono ?_
          rintro e w2 ⟨rfl, hb2⟩
          rw [ho2]
          have HB2 := HB1.trans (hb2.mono HB1.size)
          clear hb2
          go_wp2
          go_roundw
          case rel => exact ⟨k + 1, by omega, by go_num, to_next hkl HL.out HNO.out ho ho2, HB2⟩
          case measure => simp [intOf]; omega
        · go_wp2_with fail
          refine (containsR_any _ _ _ k _ ⟨p, m, b, q, s, v⟩ (L.take k) _ HR7 HTL.out (by unfold maxLen; omega) (by unfold maxLen; omega) HC7).mono ?_
          rintro e w2 ⟨rfl, hb2⟩
          rw [ho2]
          have HB2 := HB1.trans (hb2.mono HB1.size)
          clear hb2
          go_wp2
          go_ret
          refine ⟨?_, HB2⟩
          rw [tb_at (by rw [HN.out]; exact hl) hkl (to_clash hkl HL.out HNO.out ho ho2) (by decide)]
          rfl
      · go_wp2_with fail
        refine (ruCheck_any _ _ _ _ _ _ _).mono ?_
        rintro e w1 ⟨rfl, hb1⟩
        rw [no_ne ho]
        have HB1 := HB.out.trans (((Below.refl _ _).alloc (Nat.le_refl _) _).trans (hb1.mono (by simp)) |>.mono HB.out.size)
        clear hb1
        go_wp2
        go_ret
        refine ⟨?_, HB1⟩
        rw [tb_at (by rw [HN.out]; exact hl) hkl (to_bad hkl HL.out HNO.out ho) ho, no_ne (show Ru.n ⟨p, m, b, q, s, v⟩ ≠ 0 from ho)]
        rfl
    · obtain rfl : k = n := by omega
      go_wp2
      go_ret
      refine ⟨?_, HB.out⟩
      have e1 : tbN L = 0 := by
        rw [tbN, if_neg (by rw [HN.out]; omega), HN.out]
        exact HNO.out
      rw [e1]
      rfl

set_option maxHeartbeats 1000000 in
theorem table_long (ao : Option Addr) (cap n : Nat) (w : World) (hl : 12 < n) :
    Calls Try.prog 17 #[.slice ao n cap] w fun e w' => e = .returned (.iface 57 (.int .i64 4)) ∧ Below w.heap.size w w' := by
  go_enter Try.func17, Try.ntmps17
  go_wp2
  go_ret
  exact ⟨rfl, Below.refl _ _⟩

set_option maxHeartbeats 1000000 in
theorem table_nil (ao : Option Addr) (cap : Nat) (w : World) :
    Calls Try.prog 17 #[.slice ao 0 cap] w fun e w' => e = .returned .nilIface ∧ Below w.heap.size w w' := by
  go_enter Try.func17, Try.ntmps17
  go_wp2
  go_loopw [12] (fun i wr => i = .int .i64 0 ∧ wr = w) (fun i _ => 0)
  case atStart => exact ⟨rfl, rfl⟩
  case round =>
    obtain ⟨rfl, rfl⟩ := hrel
    go_wp2
    go_ret
    exact ⟨rfl, Below.refl _ _⟩

theorem table_any (v : Value) (L : List Ru) (w : World) (h : SR w v L) :
    Calls Try.prog 17 #[v] w fun e w' => e = .returned (noV (tbN L)) ∧ Below w.heap.size w w' := by
  rcases h with ⟨ao, cap, rfl, rfl⟩ | ⟨g, o, cap, rfl, h1, h2, hc⟩
  · exact table_nil ao cap w
  · by_cases h12 : 12 < L.length
    · rw [tb_long h12]; exact table_long _ _ _ _ h12
    · exact table_some _ _ _ _ L w hc rfl (by omega) h1 h2
end Go.Proofs.Ytpmcjelihdlfeaa
/- Nets in plain lists: what is wrong with one, where a packet goes out, what becomes of it. No program in it. -/
namespace Go.Proofs.Ytpmcjelihdlfeaa
open Go.RowKit
set_option linter.unusedVariables false

/-- The fault of the first k tables. -/
def tsTo (Ts : List (List Ru)) : Nat → Int
  | 0 => 0
  | k + 1 => if tsTo Ts k = 0 then tbN (Ts.getD k []) else tsTo Ts k
theorem ts_le {Ts : List (List Ru)} {k : Nat} (h : tsTo Ts k ≠ 0) : ∀ {n : Nat}, k ≤ n → tsTo Ts n = tsTo Ts k
  | 0, hn => by
    obtain rfl : k = 0 := by omega
    rfl
  | n + 1, hn => by
    by_cases e : k = n + 1
    · subst e; rfl
    · have := ts_le h (show k ≤ n by omega)
      rw [tsTo, if_neg (by rw [this]; exact h), this]
/-- The fault of a net. -/
def ntN (S : Int) (Ls : List ((Int × Int) × (Int × Int))) (Hs : List (ByteArray × (Int × Int))) (Ts : List (List Ru)) : Int :=
  if tpN S Ls Hs = 0 then (if (Ts.length : Int) = S then tsTo Ts Ts.length else 3) else tpN S Ls Hs
theorem ts_0 {Ts : List (List Ru)} : ∀ {n : Nat}, tsTo Ts n = 0 → ∀ k, k < n → tbN (Ts.getD k []) = 0
  | 0, _, k, hk => by omega
  | n + 1, h, k, hk => by
    unfold tsTo at h
    by_cases e : tsTo Ts n = 0
    · rw [if_pos e] at h
      by_cases ek : k = n
      · subst ek; exact h
      · exact ts_0 e k (by omega)
    · rw [if_neg e] at h
      exact absurd h e
theorem nt_0 {S : Int} {Ls : List ((Int × Int) × (Int × Int))} {Hs : List (ByteArray × (Int × Int))} {Ts : List (List Ru)} (h : ntN S Ls Hs Ts = 0) : tpN S Ls Hs = 0 ∧ (Ts.length : Int) = S ∧ ∀ k, k < Ts.length → tbN (Ts.getD k []) = 0 := by
  unfold ntN at h
  by_cases e : tpN S Ls Hs = 0
  · rw [if_pos e] at h
    by_cases e2 : (Ts.length : Int) = S
    · rw [if_pos e2] at h
      exact ⟨e, e2, ts_0 h⟩
    · rw [if_neg e2] at h
      omega
  · rw [if_neg e] at h
    exact absurd h e
/-- The fault of a packet: of the net, else of the spot or the header. -/
def cpN (S : Int) (Ls : List ((Int × Int) × (Int × Int))) (Hs : List (ByteArray × (Int × Int))) (Ts : List (List Ru)) (s : Int × Int) (h : Int) : Int :=
  if ntN S Ls Hs Ts = 0 then (if spB S s && hdrB h then 0 else 1) else ntN S Ls Hs Ts
theorem cp_0 {S : Int} {Ls : List ((Int × Int) × (Int × Int))} {Hs : List (ByteArray × (Int × Int))} {Ts : List (List Ru)} {s : Int × Int} {h : Int} (e : cpN S Ls Hs Ts s h = 0) : ntN S Ls Hs Ts = 0 ∧ spB S s = true ∧ hdrB h = true := by
  unfold cpN at e
  by_cases e1 : ntN S Ls Hs Ts = 0
  · rw [if_pos e1] at e
    cases e2 : spB S s && hdrB h
    · rw [e2] at e
      simp at e
    · rw [Bool.and_eq_true] at e2
      exact ⟨e1, e2.1, e2.2⟩
  · rw [if_neg e1] at e
    exact absurd e e1

/-- The rule that counts, if one does, in a table. -/
def roR (t : List Ru) (h : Int) : Ru := t.getD (luI t h).toNat zeR
def Ru.apN (r : Ru) (h : Int) : Int := Proofs.Ytpmcjelihdlfeaa.apN r.p r.m r.b r.o r.s r.v h
def Ru.apR (r : Ru) (h : Int) : Int := Proofs.Ytpmcjelihdlfeaa.apR r.p r.m r.b r.o r.s r.v h
/-- Where, and with which header, a packet goes out that a table meets. -/
def stT (t : List Ru) (p : (Int × Int) × Int) : Option ((Int × Int) × Int) :=
  if luN t p.2 = 0 then (if (roR t p.2).apN p.2 = 0 then some ((p.1.1, (roR t p.2).o), (roR t p.2).apR p.2) else none) else none
def taT (Ts : List (List Ru)) (s : Int) : List Ru := Ts.getD (s - 1).toNat []
def stO (Ts : List (List Ru)) (p : (Int × Int) × Int) : Option ((Int × Int) × Int) := stT (taT Ts p.1.1) p
/-- Are two hops the same? -/
def heB (a b : (Int × Int) × Int) : Bool := (a.1.1 == b.1.1) && ((a.1.2 == b.1.2) && ((a.2 == b.2)))
theorem heB_iff (a b : (Int × Int) × Int) : heB a b = true ↔ a = b := by
  obtain ⟨⟨a1, a2⟩, a3⟩ := a
  obtain ⟨⟨b1, b2⟩, b3⟩ := b
  simp [heB, and_assoc]
/-- What becomes of a packet at its last hop: it ends so, or there is a next hop. -/
def goE (Ls : List ((Int × Int) × (Int × Int))) (Hs : List (ByteArray × (Int × Int))) (t : List Ru) (l : List ((Int × Int) × Int)) (p : (Int × Int) × Int) : (Int × ByteArray) ⊕ ((Int × Int) × Int) :=
  match stT t p with
  | none => .inl (2, ByteArray.empty)
  | some q => match atO Hs q.1 with
    | some m => .inl (1, m)
    | none => match peerO Ls q.1 with
      | none => .inl (3, ByteArray.empty)
      | some s => if l.length = 24 ∨ l.any (fun x => heB (s, q.2) x) = true then .inl (4, ByteArray.empty) else .inr (s, q.2)
def zeH : (Int × Int) × Int := ((0, 0), 0)
def laH (l : List ((Int × Int) × Int)) : (Int × Int) × Int := l.getD (l.length - 1) zeH
/-- What becomes of a packet that has had these hops. -/
def foF (Ls : List ((Int × Int) × (Int × Int))) (Hs : List (ByteArray × (Int × Int))) (Ts : List (List Ru)) : Nat → List ((Int × Int) × Int) → Int × ByteArray × List ((Int × Int) × Int)
  | 0, l => (4, ByteArray.empty, l)
  | n + 1, l => match goE Ls Hs (taT Ts (laH l).1.1) l (laH l) with
    | .inl e => (e.1, e.2, l)
    | .inr p => foF Ls Hs Ts n (l ++ [p])
/-- What becomes of a packet that comes in. -/
def frF (Ls : List ((Int × Int) × (Int × Int))) (Hs : List (ByteArray × (Int × Int))) (Ts : List (List Ru)) (s : Int × Int) (h : Int) : Int × ByteArray × List ((Int × Int) × Int) := foF Ls Hs Ts 24 [(s, h)]
/-- No fate at all. -/
def zeF : Int × ByteArray × List ((Int × Int) × Int) := (0, ByteArray.empty, [])
/-- The answers. -/
def spN (S : Int) (Ls : List ((Int × Int) × (Int × Int))) (Hs : List (ByteArray × (Int × Int))) (Ts : List (List Ru)) (s : Int × Int) (h : Int) : Int :=
  if cpN S Ls Hs Ts s h = 0 then (if (stO Ts (s, h)).isSome then 0 else 5) else cpN S Ls Hs Ts s h
def spV (S : Int) (Ls : List ((Int × Int) × (Int × Int))) (Hs : List (ByteArray × (Int × Int))) (Ts : List (List Ru)) (s : Int × Int) (h : Int) : (Int × Int) × Int :=
  if cpN S Ls Hs Ts s h = 0 then (stO Ts (s, h)).getD zeH else zeH
def frV (S : Int) (Ls : List ((Int × Int) × (Int × Int))) (Hs : List (ByteArray × (Int × Int))) (Ts : List (List Ru)) (s : Int × Int) (h : Int) : Int × ByteArray × List ((Int × Int) × Int) :=
  if cpN S Ls Hs Ts s h = 0 then frF Ls Hs Ts s h else zeF
def seN (S : Int) (Ls : List ((Int × Int) × (Int × Int))) (Hs : List (ByteArray × (Int × Int))) (Ts : List (List Ru)) (m : ByteArray) (h : Int) : Int :=
  if ntN S Ls Hs Ts = 0 then (if weN S Ls Hs m = 0 then (if hdrB h then 0 else 1) else weN S Ls Hs m) else ntN S Ls Hs Ts
def seV (S : Int) (Ls : List ((Int × Int) × (Int × Int))) (Hs : List (ByteArray × (Int × Int))) (Ts : List (List Ru)) (m : ByteArray) (h : Int) : Int × ByteArray × List ((Int × Int) × Int) :=
  if seN S Ls Hs Ts m h = 0 then frF Ls Hs Ts (weV S Ls Hs m) h else zeF
end Go.Proofs.Ytpmcjelihdlfeaa
