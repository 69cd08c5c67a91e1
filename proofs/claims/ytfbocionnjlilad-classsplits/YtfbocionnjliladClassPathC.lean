/- What class.path answers: a contract for the walks above it. -/
import Derived.Test.YtfbocionnjliladClassMem
import Derived.Test.YtfbocionnjliladClassPath
import Derived.Test.YtfbocionnjliladNetCheck
import Derived.Test.YtfbocionnjliladRuleLook
import Derived.Test.YtfbocionnjliladOwnRow
namespace Go.Proofs.Ytfbocionnjlilad
open Go.RowKit
set_option linter.unusedSimpArgs false
set_option linter.unusedVariables false

theorem set_mid {α : Type} (A : List α) (m : Nat) (z x : α) {k : Nat} (hk : A.length = k) : (A ++ List.replicate (m + 1) z).set k x = (A ++ [x]) ++ List.replicate m z := by
  subst hk
  rw [List.set_append_right _ _ (Nat.le_refl _), Nat.sub_self, List.replicate_succ, List.set_cons_zero, List.append_assoc]
  rfl
/-- The places so far, then noughts. -/
def plL (Ts : List (List Ru)) (h : Int) (n k : Nat) : List Int := pthL (Ts.take k) h ++ List.replicate (n - k) 0
theorem pl_len {Ts : List (List Ru)} {h : Int} {n k : Nat} (hn : Ts.length = n) (hk : k ≤ n) : (plL Ts h n k).length = n := by
  unfold plL
  rw [List.length_append, pth_len, List.length_take, List.length_replicate]
  omega
theorem pl_next {Ts : List (List Ru)} {h : Int} {n k : Nat} (hn : Ts.length = n) (hk : k < n) : (plL Ts h n k).set k (beTo (Ts.getD k []) h (Ts.getD k []).length) = plL Ts h n (k + 1) := by
  unfold plL
  rw [show n - k = (n - (k + 1)) + 1 by omega, set_mid _ _ _ _ (by rw [pth_len, List.length_take]; omega), pth_next Ts h k (by omega)]
theorem pl_0 {Ts : List (List Ru)} {h : Int} {n : Nat} : plL Ts h n 0 = List.replicate n 0 := by
  simp [plL, pthL]
theorem pl_all {Ts : List (List Ru)} {h : Int} {n : Nat} (hn : Ts.length = n) : plL Ts h n n = pthL Ts h := by
  unfold plL
  rw [List.take_of_length_le (by omega)]
  simp

set_option maxHeartbeats 2000000 in
set_option maxRecDepth 100000 in
theorem path_any (ao : Option Addr) (n cap : Nat) (Ts : List (List Ru)) (h : Int) (w : World) (hT : TS w (.slice ao n cap) Ts) (hn8 : n ≤ 8) :
    Calls Try.prog 19 #[.slice ao n cap, .int .i64 h] w fun e w' => e = .returned (.slice (some ⟨w.heap.size, 0, none⟩) n n) ∧ w'.ownsRow w.heap.size 3 inE.n (.slice (some ⟨w.heap.size, 0, none⟩) n n) (pthL Ts h).length (cellsG inE (pthL Ts h)) ∧ Below w.heap.size w w' := by
  obtain ⟨_, _, _, e1, hTn, hTm, _, hTa⟩ := hT.form
  cases e1
  have HTN : Hid (Ts.length = n) := hTn
  have HTA : Hid (0 < n → ∃ g o, ao = some ⟨g, o, none⟩ ∧ TAt w g o Ts ∧ cap ≤ maxLen) := hTa
  obtain ⟨i0, hi, hz0, hz1, hz2⟩ := info_parts infoInt
  obtain ⟨w1, hmk, hown0, hgr⟩ := run_make_full (P := Try.prog) w w.heap.size 40 3 i0 (.int .i64 0) 1 Try.underlying40 hi hz0 hz1 .i64 .i64 n (by rw [hz2]; omega) (by unfold maxLen; omega) (Nat.le_refl _)
  have hb1 : Below w.heap.size w w1 := ⟨hgr.os, hgr.tape, hgr.output, hgr.size, fun k hk => hgr.block k hk (by simp)⟩
  have HB1 : Hid (Below w.heap.size w w1) := hb1
  have HO1 : Hid (w1.ownsRow w.heap.size 3 1 (.slice (some ⟨w.heap.size, 0, none⟩) n n) n (cellsG inE (plL Ts h n 0))) := by
    show World.ownsRow _ _ _ _ _ _ _
    rw [in_cells, pl_0, List.map_replicate]
    have e : (madeCells (Value.int .i64 0).cells (n * 1)).toList = List.replicate n (Value.int .i64 0) := by
      rw [Nat.mul_one]
      exact toList_madeCells_one _ _
    rw [← e]
    exact hown0
  clear hT hTn hTm hTa hown0 hgr hb1 hi hz0 hz1 hz2
  go_enter Try.func19, Try.ntmps19
  go_wp2
  clear hmk
  go_loopw [13] (fun i wr => ∃ k : Nat, k ≤ n ∧ i = .int .i64 k ∧ wr.ownsRow w.heap.size 3 1 (.slice (some ⟨w.heap.size, 0, none⟩) n n) n (cellsG inE (plL Ts h n k)) ∧ Below w.heap.size w wr) (fun i _ => n - (intOf i).toNat)
  case atStart => exact ⟨0, by omega, rfl, HO1.out, HB1.out⟩
  case round =>
    obtain ⟨k, hk, rfl, hO, hB⟩ := hrel
    have HO : Hid (wr.ownsRow w.heap.size 3 1 (.slice (some ⟨w.heap.size, 0, none⟩) n n) n (cellsG inE (plL Ts h n k))) := hO
    have HB : Hid (Below w.heap.size w wr) := hB
    clear hO HO1 HB1
    by_cases hlt : k < n
    · obtain ⟨g, o, hao, hc, _⟩ := HTA.out (by omega)
      subst hao
      obtain ⟨a4, n4, c4, q0, hs⟩ := (hc.later hB) k (by rw [HTN.out]; exact hlt)
      have HS4 : Hid (SR wr (.slice a4 n4 c4) (Ts.getD k [])) := by
        show SR _ _ _
        rw [getT (by rw [HTN.out]; exact hlt)]
        exact hs
      have kb0 : (0 : Int) ≤ (k : Int) := by omega
      have kb1 : (k : Int) < (n : Int) := by omega
      clear hB hs hc
      go_wp2_with fail
      refine (counting_any _ (Ts.getD k []) h _ HS4.out).mono ?_
      rintro e w2 ⟨rfl, hb2⟩
      obtain ⟨x, hx⟩ : ∃ x, x = beTo (Ts.getD k []) h (Ts.getD k []).length := ⟨_, rfl⟩
      have HX : Hid (beTo (Ts.getD k []) h (Ts.getD k []).length = x) := hx.symm
      rw [← hx]
      have HO2 : Hid (w2.ownsRow w.heap.size 3 1 (.slice (some ⟨w.heap.size, 0, none⟩) n n) n (cellsG inE (plL Ts h n k))) := own_below HO.out hb2
      have HB2 : Hid (Below w.heap.size w w2) := HB.out.trans (hb2.mono HB.out.size)
      have hfz := HO2.out.frozenAt k
      have hcl : ∃ y, w2.cell? ⟨w.heap.size, k, none⟩ = some y := by
        have hl := pl_len (h := h) HTN.out hk
        have := HO2.out.cellAt k (by omega)
        rw [this, in_cells, List.getElem?_map, List.getElem?_eq_getElem (by omega)]
        exact ⟨_, rfl⟩
      obtain ⟨y, hy⟩ := hcl
      have HO3 : Hid ((w2.setCell ⟨w.heap.size, k, none⟩ (.int .i64 x)).ownsRow w.heap.size 3 1 (.slice (some ⟨w.heap.size, 0, none⟩) n n) n (cellsG inE (plL Ts h n (k + 1)))) := by
        show World.ownsRow _ _ _ _ _ _ _
        rw [← pl_next HTN.out hlt, HX.out, in_cells, List.map_set, ← in_cells]
        exact (HO2.out.stored k _).1
      have HB3 : Hid (Below w.heap.size w (w2.setCell ⟨w.heap.size, k, none⟩ (.int .i64 x))) := HB2.out.setCell (p := ⟨w.heap.size, k, none⟩) (Nat.le_refl _) _
      clear hx hb2 q0
      go_wp2
      go_roundw
      case rel => exact ⟨k + 1, by omega, by go_num, HO3.out, HB3.out⟩
      case measure => simp [intOf]; omega
    · obtain rfl : k = n := by omega
      clear hB
      go_wp2
      go_ret
      exact ⟨rfl, by rw [pth_len, HTN.out, ← pl_all HTN.out]; exact HO.out, HB.out⟩
end Go.Proofs.Ytfbocionnjlilad
