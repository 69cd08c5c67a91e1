/- The walk of ClassHolds: it answers true, whatever net and two headers it is called with. -/
import Derived.Test.YtfbocionnjliladClassFns
import Derived.Test.YtfbocionnjliladSmInts
import Derived.Test.YtfbocionnjliladNetOf
import Derived.Deep.CutRange
import Derived.Deep.CutBlock
namespace Go.Proofs.Ytfbocionnjlilad
open Go.RowKit
set_option linter.unusedSimpArgs false
set_option linter.unusedVariables false

/-- How often a number is in the lists ahead of the i-th, and in the first k of that one. -/
def cntP (Ls : List (List Int)) (i k : Nat) (x : Int) : Nat := ((Ls.take i).flatten ++ (Ls.getD i []).take k).count x
theorem cnt_0 (Ls : List (List Int)) (x : Int) : cntP Ls 0 0 x = 0 := by simp [cntP]
theorem cnt_next {Ls : List (List Int)} {i k : Nat} (hk : k < (Ls.getD i []).length) (x : Int) : cntP Ls i (k + 1) x = cntP Ls i k x + if (Ls.getD i [])[k] = x then 1 else 0 := by
  unfold cntP
  rw [List.take_succ_eq_append_getElem hk, ← List.append_assoc, List.count_append, List.count_singleton]
  simp only [beq_iff_eq]
theorem cnt_row {Ls : List (List Int)} {i : Nat} (hi : i < Ls.length) (x : Int) : cntP Ls i (Ls.getD i []).length x = cntP Ls (i + 1) 0 x := by
  unfold cntP
  rw [List.take_length, List.take_succ_eq_append_getElem hi, show Ls.getD i [] = Ls[i] by simp [List.getD, hi], List.flatten_append, List.flatten_cons, List.flatten_nil, List.append_nil, List.take_zero, List.append_nil]
theorem cnt_all (Ls : List (List Int)) (x : Int) : cntP Ls Ls.length 0 x = Ls.flatten.count x := by
  unfold cntP
  rw [List.take_length]
  simp
theorem cnt_le {Ls : List (List Int)} {i k : Nat} (hi : i < Ls.length) (x : Int) : cntP Ls i k x ≤ Ls.flatten.count x := by
  have e : Ls = Ls.take i ++ Ls[i] :: Ls.drop (i + 1) := by
    rw [← List.drop_eq_getElem_cons hi, List.take_append_drop]
  have h2 : ((Ls.getD i []).take k).count x ≤ (Ls[i]).count x := by
    rw [show Ls.getD i [] = Ls[i] by simp [List.getD, hi]]
    exact (List.take_sublist _ _).count_le _
  unfold cntP
  rw [List.count_append]
  have h3 : Ls.flatten.count x = (Ls.take i).flatten.count x + ((Ls[i]).count x + (Ls.drop (i + 1)).flatten.count x) := by
    conv => lhs; rw [e]
    rw [List.flatten_append, List.flatten_cons, List.count_append, List.count_append]
  omega
/-- Sixteen counts. -/
def TM (W : World) (g : Nat) (f : Int → Nat) : Prop := ∀ x : Nat, x < 16 → W.cell? ⟨g, x, none⟩ = some (.int .i64 (f (x : Int) : Int)) ∧ W.frozen? ⟨g, x, none⟩ = false
theorem TM.put {W : World} {g : Nat} {f f' : Int → Nat} (h : TM W g f) {x : Nat} (hx : x < 16) (hf : ∀ y : Int, f' y = f y + if (x : Int) = y then 1 else 0) : TM (W.setCell ⟨g, x, none⟩ (.int .i64 ((f (x : Int) : Int) + 1))) g f' := by
  intro y hy
  refine ⟨?_, by simp [(h y hy).2]⟩
  by_cases e : x = y
  · subst e
    rw [World.cell?_setCell_same _ _ _ (h x hx).1, hf, if_pos rfl]
    simp
  · rw [World.cell?_setCell_other _ _ _ _ (by simp [e]), (h y hy).1, hf, if_neg (by omega)]
    simp
theorem TM.eq {W : World} {g : Nat} {f f' : Int → Nat} (h : TM W g f) (hf : ∀ y : Int, f' y = f y) : TM W g f' := fun x hx => by
  rw [hf]
  exact h x hx
theorem TM.later {W W' : World} {g : Nat} {f : Int → Nat} (h : TM W g f) (hb : Below W.heap.size W W') : TM W' g f := fun x hx =>
  ⟨cell_later hb (h x hx).1, (hb.frozen (p := ⟨g, x, none⟩) (World.block_lt_of_cell? _ _ (h x hx).1)).trans (h x hx).2⟩
theorem tm_new (W : World) (t : TypeId) : TM (W.alloc (Obj.cells #[.int .i64 0, .int .i64 0, .int .i64 0, .int .i64 0, .int .i64 0, .int .i64 0, .int .i64 0, .int .i64 0, .int .i64 0, .int .i64 0, .int .i64 0, .int .i64 0, .int .i64 0, .int .i64 0, .int .i64 0, .int .i64 0] t)) W.heap.size (fun _ => 0) := by
  intro x hx
  have h := vat_new W (List.replicate 16 (.int .i64 0)) t
  refine ⟨?_, ?_⟩
  · have := h x (.int .i64 0) (by rw [List.getElem?_replicate, if_pos hx])
    rw [Nat.zero_add] at this
    exact this
  · simp
theorem of_one : ofL [⟨1, 8, 8, 1, 0, 0⟩] = [[0, 1, 2, 3, 4, 5, 6, 7], [8, 9, 10, 11, 12, 13, 14, 15]] := by decide +kernel
theorem tb_one : tbN [⟨1, 8, 8, 1, 0, 0⟩] = 0 := by decide +kernel
theorem cls_num {Ts : List (List Ru)} {i k : Nat} (hi : i < (clsL Ts).length) (hk : k < ((clsL Ts).getD i []).length) : 0 ≤ ((clsL Ts).getD i [])[k] ∧ ((clsL Ts).getD i [])[k] < 16 := by
  have hm : ((clsL Ts).getD i [])[k] ∈ (clsL Ts).getD i [] := List.getElem_mem hk
  have e : (clsL Ts).getD i [] = (clsL Ts)[i] := by simp [List.getD, hi]
  generalize ((clsL Ts).getD i [])[k] = x at hm ⊢
  rw [e] at hm
  have hi2 : i < (kcTo (pthL Ts) 16).2.length := by
    have h1 := kc_len (pthL Ts) 16
    have h2 : i < (kcTo (pthL Ts) 16).1.length := hi
    omega
  obtain ⟨y, hy, rfl, _⟩ := (kc_in (f := pthL Ts) hi hi2).1 hm
  omega
theorem cls_count (Ts : List (List Ru)) (x : Int) : (clsL Ts).flatten.count x = if 0 ≤ x ∧ x < 16 then 1 else 0 := by
  have := kc_count (pthL Ts) x 16
  exact this

namespace classHolds
set_option maxHeartbeats 8000000 in
set_option maxRecDepth 100000 in
theorem walk (S : Int) (ao : Option Addr) (n cap : Nat) (ao2 : Option Addr) (n2 cap2 : Nat) (ao3 : Option Addr) (n3 cap3 : Nat) (Ls : List ((Int × Int) × (Int × Int))) (Hs : List (ByteArray × (Int × Int))) (Ts : List (List Ru)) (h o : Int) (w : World)
    (hL : GS lnkE w (.slice ao n cap) Ls) (hH : GS hstE w (.slice ao2 n2 cap2) Hs) (hT : TS w (.slice ao3 n3 cap3) Ts) :
    Calls Try.prog 3 #[.agg #[.int .i64 S, .slice ao n cap, .slice ao2 n2 cap2, .slice ao3 n3 cap3], .int .i64 h, .int .i64 o] w fun e w' => e = .returned (.bool true) ∧ Below w.heap.size w w' := by
  have hb0 : Below w.heap.size w (w.alloc (Obj.cells #[.int .i64 S, .slice ao n cap, .slice ao2 n2 cap2, .slice ao3 n3 cap3] 28)) := (Below.refl _ _).alloc (Nat.le_refl _) _
  have HX := nebox_new w S (.slice ao n cap) (.slice ao2 n2 cap2) (.slice ao3 n3 cap3) 28
  obtain ⟨w0, hw0⟩ : ∃ W, w.alloc (Obj.cells #[.int .i64 S, .slice ao n cap, .slice ao2 n2 cap2, .slice ao3 n3 cap3] 28) = W := ⟨_, rfl⟩
  rw [hw0] at hb0 HX
  have HW0 : Hid (w.alloc (Obj.cells #[.int .i64 S, .slice ao n cap, .slice ao2 n2 cap2, .slice ao3 n3 cap3] 28) = w0) := hw0
  have HB0 : Hid (Below w.heap.size w w0) := hb0
  have HLW : Hid (∀ W, Below w.heap.size w W → GS lnkE W (.slice ao n cap) Ls) := fun W hb => hL.later hb
  have HHW : Hid (∀ W, Below w.heap.size w W → GS hstE W (.slice ao2 n2 cap2) Hs) := fun W hb => hH.later hb
  have HTW : Hid (∀ W, Below w.heap.size w W → TS W (.slice ao3 n3 cap3) Ts) := fun W hb => hT.later hb
  have HXB : Hid (NeBox w0 w.heap.size S (.slice ao n cap) (.slice ao2 n2 cap2) (.slice ao3 n3 cap3)) := HX
  clear hL hH hT hb0 hw0 HX
  go_enter Try.func3, Try.ntmps3
  go_upto_region 1 with fail
  rw [HW0.out]
  clear HW0
  go_wp2_with fail
  refine (of_any (some ⟨w0.heap.size, 0, none⟩) 1 1 [⟨1, 8, 8, 1, 0, 0⟩] _ (gs_SR (rl_row w0 1 8 8 1 0 0 _))).mono ?_
  rintro e w1 ⟨v1, rfl, hf1, hb1⟩
  rw [tb_one, no_ok rfl]
  rw [of_one] at hf1
  have hb01 : Below w0.heap.size w0 w1 := ((Below.refl _ _).alloc (Nat.le_refl _) _).trans (hb1.mono (by simp))
  obtain ⟨a1, n1, c1, rfl, en1, _, _, ha1⟩ := hf1.form
  obtain rfl : n1 = 2 := by simpa using en1.symm
  obtain ⟨g1, o1, rfl, hl1, _⟩ := ha1 (by omega)
  obtain ⟨a4, n4, c4, q0, hG4⟩ := hl1 0 (by simp)
  obtain rfl : n4 = 8 := by simpa using hG4.len.symm
  obtain ⟨a5, n5, c5, q1, hG5⟩ := hl1 1 (by simp)
  obtain rfl : n5 = 8 := by simpa using hG5.len.symm
  obtain ⟨_, _, _, e5, _, _, _, ha5⟩ := hG5.form
  cases e5
  obtain ⟨g5, o5, rfl, hc5, _⟩ := ha5 (by omega)
  obtain ⟨x5, hx5, hL5, q5⟩ := in_at hc5 (n := 8) rfl (show 0 < 8 by omega)
  obtain rfl : x5 = 8 := by simpa using hL5.symm
  simp only [Nat.add_zero] at q0 q5
  have HB1 : Hid (Below w.heap.size w w1) := HB0.out.trans (hb01.mono HB0.out.size)
  have HX1 : Hid (NeBox w1 w.heap.size S (.slice ao n cap) (.slice ao2 n2 cap2) (.slice ao3 n3 cap3)) := HXB.out.later hb01
  obtain ⟨b0, b1, b2, b3⟩ := HX1.out
  clear hf1 hb1 hb01 en1 ha1 hl1 hG4 hG5 ha5 hc5 hx5 hL5
  go_wp2_with fail
  refine (allC_any S ao n cap ao2 n2 cap2 ao3 n3 cap3 Ls Hs Ts _ (HLW.out _ HB1.out) (HHW.out _ HB1.out) (HTW.out _ HB1.out)).mono ?_
  rintro e w2 ⟨v9, rfl, hf9, hb2⟩
  obtain ⟨a9, n9, c9, rfl, hn9, _, _, ha9⟩ := hf9.form
  obtain ⟨N, hN⟩ : ∃ N, N = ntN S Ls Hs Ts := ⟨_, rfl⟩
  have HN : Hid (N = ntN S Ls Hs Ts) := hN
  rw [← hN]
  have HB2 : Hid (Below w.heap.size w w2) := HB1.out.trans (hb2.mono HB1.out.size)
  have HX2 : Hid (NeBox w2 w.heap.size S (.slice ao n cap) (.slice ao2 n2 cap2) (.slice ao3 n3 cap3)) := HX1.out.later hb2
  have HF9 : Hid (ILS w2 (.slice a9 n9 c9) (acL S Ls Hs Ts)) := hf9
  clear hN hb2 b0 b1 b2 b3 q0 q1 q5 ha9 hf9
  by_cases h0 : N = 0
  · subst h0
    rw [no_ok rfl]
    have HAC : Hid (acL S Ls Hs Ts = clsL Ts) := by
      show _ = _
      rw [acL, if_pos HN.out.symm]
    have hn9b : (clsL Ts).length = n9 := by rw [← HAC.out]; exact hn9
    have HN9 : Hid ((clsL Ts).length = n9) := hn9b
    have h9p : 1 ≤ n9 := by rw [← hn9b]; exact cls_pos _
    have h9l : n9 ≤ 16 := by rw [← hn9b]; exact cls_le _
    have hf9 := HF9.out
    rw [HAC.out] at hf9
    obtain ⟨_, _, _, e9, _, _, _, ha9⟩ := hf9.form
    cases e9
    obtain ⟨g9, o9, ha99, hl9, _⟩ := ha9 (by omega)
    subst ha99
    have HL9 : Hid (∀ W, Below w2.heap.size w2 W → ILAt W g9 o9 (clsL Ts)) := fun W hb => hl9.later hb
    have HF9b : Hid (∀ W, Below w2.heap.size w2 W → ILS W (.slice (some ⟨g9, o9, none⟩) n9 c9) (clsL Ts)) := fun W hb => hf9.later hb
    clear hn9 hn9b ha9 hl9 hf9 HF9
    have htm := tm_new w2 42
    obtain ⟨w3, hw3⟩ : ∃ W, w2.alloc (Obj.cells #[.int .i64 0, .int .i64 0, .int .i64 0, .int .i64 0, .int .i64 0, .int .i64 0, .int .i64 0, .int .i64 0, .int .i64 0, .int .i64 0, .int .i64 0, .int .i64 0, .int .i64 0, .int .i64 0, .int .i64 0, .int .i64 0] 42) = W := ⟨_, rfl⟩
    have hb3 : Below w2.heap.size w2 w3 := by
      rw [← hw3]
      exact (Below.refl _ _).alloc (Nat.le_refl _) _
    rw [hw3] at htm
    obtain ⟨gt, hgt⟩ : ∃ g, w2.heap.size = g := ⟨_, rfl⟩
    have HGT : Hid (w2.heap.size = gt) := hgt
    rw [hgt] at htm
    have HTM3 : Hid (TM w3 gt (cntP (clsL Ts) 0 0)) := htm.eq (fun y => cnt_0 _ y)
    have HB3 : Hid (Below w2.heap.size w2 w3) := hb3
    have HW3 : Hid (w2.alloc (Obj.cells #[.int .i64 0, .int .i64 0, .int .i64 0, .int .i64 0, .int .i64 0, .int .i64 0, .int .i64 0, .int .i64 0, .int .i64 0, .int .i64 0, .int .i64 0, .int .i64 0, .int .i64 0, .int .i64 0, .int .i64 0, .int .i64 0] 42) = w3) := hw3
    clear htm hb3 hw3 hgt
    go_upto_region 8 with fail
    rw [HW3.out, HGT.out]
    clear HW3
    go_wp2_with fail
    go_loopw [12] (fun i wr => ∃ k : Nat, k ≤ n9 ∧ i = .int .i64 k ∧ TM wr gt (cntP (clsL Ts) k 0) ∧ Below w2.heap.size w2 wr) (fun i _ => n9 - (intOf i).toNat)
    case atStart => exact ⟨0, by omega, rfl, HTM3.out, HB3.out⟩
    case round =>
      obtain ⟨k, hk, rfl, hTM, hB⟩ := hrel
      obtain ⟨wo, hwo⟩ : ∃ X, X = wr := ⟨_, rfl⟩
      subst hwo
      have HTMo : Hid (TM wo gt (cntP (clsL Ts) k 0)) := hTM
      have HBo : Hid (Below w2.heap.size w2 wo) := hB
      clear hTM hB HTM3 HB3
      by_cases hlt : k < n9
      · obtain ⟨a7, n7, c7, q7, hG7⟩ := (HL9.out _ HBo.out).at HN9.out hlt
        obtain ⟨C, hC⟩ : ∃ C, C = (clsL Ts).getD k [] := ⟨_, rfl⟩
        rw [← hC] at hG7
        have HC : Hid ((clsL Ts).getD k [] = C) := hC.symm
        have HN7 : Hid (C.length = n7) := hG7.len
        have hci : k < (clsL Ts).length := by rw [HN9.out]; exact hlt
        have HCI : Hid (k < (clsL Ts).length) := hci
        have h7s : 0 < C.length ∧ C.length ≤ 16 := by
          refine cls_size Ts C ?_
          have e : (clsL Ts).getD k [] = (clsL Ts)[k] := by
            rw [List.getD, List.getElem?_eq_getElem hci]
            rfl
          rw [hC, e]
          exact List.getElem_mem _
        have h7a : 1 ≤ n7 := by have := HN7.out; omega
        have h7b : n7 ≤ 16 := by have := HN7.out; omega
        obtain ⟨_, _, _, e7, _, _, _, ha7⟩ := hG7.form
        cases e7
        obtain ⟨g7, o7, ha77, hc7, _⟩ := ha7 (by omega)
        subst ha77
        have HQ7 : Hid (∀ W, Below w2.heap.size w2 W → W.cell? ⟨g9, o9 + k, none⟩ = some (.slice (some ⟨g7, o7, none⟩) n7 c7) ∧ GAt inE W g7 o7 C) := by
          intro W hb
          obtain ⟨a8, n8, c8, q8, hG8⟩ := (HL9.out w2 (Below.refl _ _)).at HN9.out hlt
          have e1 := cell_later HBo.out q8
          rw [q7] at e1
          cases e1
          rw [HC.out] at hG8
          refine ⟨cell_later hb q8, ?_⟩
          obtain ⟨_, _, _, e7, _, _, _, ha7⟩ := (hG8.later hb).form
          cases e7
          obtain ⟨g', o', e9, hc', _⟩ := ha7 (by omega)
          cases e9
          exact hc'
        have k2b0 : (0 : Int) ≤ (k : Int) := by omega
        have k2b1 : (k : Int) < (n9 : Int) := by omega
        have HTMo2 : Hid (TM wo gt (cntP (clsL Ts) k 0)) := HTMo.out
        clear hC hG7 hci h7s ha7 hc7
        go_upto_region 12 with fail
        clear q7
        go_loopw [13] (fun i wr => ∃ j : Nat, j ≤ n7 ∧ i = .int .i64 j ∧ TM wr gt (cntP (clsL Ts) k j) ∧ Below w2.heap.size w2 wr) (fun i _ => n7 - (intOf i).toNat)
        case atStart => exact ⟨0, by omega, rfl, HTMo2.out, HBo.out⟩
        case round =>
          obtain ⟨j, hj, rfl, hTMj, hBj⟩ := hrel
          obtain ⟨q7, hc7⟩ := HQ7.out _ hBj
          have HTMj : Hid (TM wr gt (cntP (clsL Ts) k j)) := hTMj
          have HBj : Hid (Below w2.heap.size w2 wr) := hBj
          clear hTMj hBj
          by_cases hlt2 : j < n7
          · obtain ⟨x, hxl, hxC, p0⟩ := in_at hc7 HN7.out hlt2
            have hx16 : 0 ≤ x ∧ x < 16 := by
              have := cls_num (Ts := Ts) HCI.out (k := j) (by rw [HC.out]; exact hxl)
              simp only [HC.out] at this
              rw [hxC] at this
              exact this
            obtain ⟨X, rfl⟩ : ∃ X : Nat, x = (X : Int) := ⟨x.toNat, by omega⟩
            have hX : X < 16 := by omega
            have hXi : (X : Int) < 16 := by omega
            have hX0 : (0 : Int) ≤ (X : Int) := by omega
            have hXn : ¬ (X : Int) < 0 := by omega
            have hXg : ¬ (15 : Int) < (X : Int) := by omega
            obtain ⟨t0, tz⟩ := HTMj.out X hX
            have HNX : Hid (∀ y : Int, cntP (clsL Ts) k (j + 1) y = cntP (clsL Ts) k j y + if (X : Int) = y then 1 else 0) := by
              intro y
              have h1 := cnt_next (Ls := clsL Ts) (i := k) (k := j) (by rw [HC.out]; exact hxl) y
              simp only [HC.out] at h1
              rw [hxC] at h1
              exact h1
            have hle : cntP (clsL Ts) k j (X : Int) ≤ 1 := by
              have h1 := cnt_le (k := j) HCI.out (X : Int)
              rw [cls_count] at h1
              split at h1 <;> omega
            obtain ⟨M, hM⟩ : ∃ M, M = cntP (clsL Ts) k j (X : Int) := ⟨_, rfl⟩
            rw [← hM] at t0 hle
            have HM : Hid (M = cntP (clsL Ts) k j (X : Int)) := hM
            have hwr : IntKind.i64.wrap ((M : Int) + 1) = (M : Int) + 1 := by
              rw [show (M : Int) + 1 = ((M + 1 : Nat) : Int) by omega]
              exact wrap_small (by omega) (by omega)
            have HPUT : Hid (TM (wr.setCell ⟨gt, X, none⟩ (.int .i64 ((M : Int) + 1))) gt (cntP (clsL Ts) k (j + 1))) := by
              have := HTMj.out.put hX HNX.out
              rw [← hM] at this
              exact this
            have HBP : Hid (Below w2.heap.size w2 (wr.setCell ⟨gt, X, none⟩ (.int .i64 ((M : Int) + 1)))) := HBj.out.setCell (p := ⟨gt, X, none⟩) (by show _ ≤ gt; rw [HGT.out]; exact Nat.le_refl _) _
            have jb0 : (0 : Int) ≤ (j : Int) := by omega
            have jb1 : (j : Int) < (n7 : Int) := by omega
            clear hxC hxl hx16 hc7 hM hle
            go_wp2
            go_roundw
            case rel => exact ⟨j + 1, by omega, by go_num, HPUT.out, HBP.out⟩
            case measure => simp [intOf]; omega
          · obtain rfl : j = n7 := by omega
            have HTMn : Hid (TM wr gt (cntP (clsL Ts) (k + 1) 0)) := HTMj.out.eq (fun y => by
              rw [← cnt_row HCI.out, HC.out, HN7.out])
            clear hc7
            go_wp2
            go_roundw
            case rel => exact ⟨k + 1, by omega, by go_num, HTMn.out, HBj.out⟩
            case measure => simp [intOf]; omega
      · obtain rfl : k = n9 := by omega
        have HONE : Hid (∀ x : Nat, x < 16 → wo.cell? ⟨gt, x, none⟩ = some (.int .i64 1)) := by
          intro x hx
          have h1 := (HTMo.out x hx).1
          have h2 := cnt_all (clsL Ts) (x : Int)
          rw [HN9.out, cls_count, if_pos (by omega)] at h2
          rw [h2] at h1
          exact h1
        clear HTMo
        go_wp2
        go_loopw [15] (fun i wr => ∃ k : Nat, k ≤ 16 ∧ i = .int .i64 k ∧ wr = wo) (fun i _ => 16 - (intOf i).toNat)
        case atStart => exact ⟨0, by omega, rfl, rfl⟩
        case round =>
          obtain ⟨j, hj, rfl, hwr⟩ := hrel
          subst hwr
          by_cases hlt2 : j < 16
          · have t0 := HONE.out j hlt2
            have jb0 : (0 : Int) ≤ (j : Int) := by omega
            have jb1 : (j : Int) < 16 := by omega
            go_wp2
            go_roundw
            case rel => exact ⟨j + 1, by omega, by go_num, trivial⟩
            case measure => simp [intOf]; omega
          · obtain rfl : j = 16 := by omega
            have HBwo : Hid (Below w.heap.size w wr) := HB2.out.trans (HBo.out.mono HB2.out.size)
            by_cases h1 : h < 0
            · go_wp2
              go_ret
              exact ⟨rfl, HBwo.out⟩
            · by_cases h2 : 15 < h
              · go_wp2
                go_ret
                exact ⟨rfl, HBwo.out⟩
              · by_cases o1 : o < 0
                · go_wp2
                  go_ret
                  exact ⟨rfl, HBwo.out⟩
                · by_cases o2 : 15 < o
                  · go_wp2
                    go_ret
                    exact ⟨rfl, HBwo.out⟩
                  · obtain ⟨_, _, _, hRh, _, _, _⟩ := rp_of (f := pthL Ts) (k := 16) (h := h) (by omega) (by omega)
                    obtain ⟨_, _, _, hRo, _, _, _⟩ := rp_of (f := pthL Ts) (k := 16) (h := o) (by omega) (by omega)
                    have HRH : Hid (rpN (clsL Ts) h = 0) := hRh
                    have HRO : Hid (rpN (clsL Ts) o = 0) := hRo
                    have hsm := rp_same (f := pthL Ts) (k := 16) (h := h) (o := o) (by omega) (by omega) (by omega) (by omega)
                    have HSM : Hid ((rpV (clsL Ts) h == rpV (clsL Ts) o) = (pthL Ts h == pthL Ts o)) := by
                      show _ = _
                      rw [Bool.eq_iff_iff, beq_iff_eq, beq_iff_eq]
                      exact hsm
                    have hdh : hdrB h = true := by
                      simp only [hdrB, Bool.and_eq_true, decide_eq_true_eq]
                      omega
                    have hdo : hdrB o = true := by
                      simp only [hdrB, Bool.and_eq_true, decide_eq_true_eq]
                      omega
                    have HPH : Hid (ptN S Ls Hs Ts h = 0 ∧ ptL S Ls Hs Ts h = pthL Ts h) := by
                      have e : ptN S Ls Hs Ts h = 0 := by rw [ptN, if_pos HN.out.symm, hdh]; rfl
                      exact ⟨e, by rw [ptL, if_pos e]⟩
                    have HPO : Hid (ptN S Ls Hs Ts o = 0 ∧ ptL S Ls Hs Ts o = pthL Ts o) := by
                      have e : ptN S Ls Hs Ts o = 0 := by rw [ptN, if_pos HN.out.symm, hdo]; rfl
                      exact ⟨e, by rw [ptL, if_pos e]⟩
                    clear hRh hRo hsm hdh hdo
                    go_wp2_with fail
                    refine (rep_any (some ⟨g9, o9, none⟩) _ c9 h (clsL Ts) _ (HF9b.out _ HBo.out)).mono ?_
                    rintro e w5 ⟨rfl, hb5⟩
                    rw [no_ok HRH.out]
                    have HB5 : Hid (Below w2.heap.size w2 w5) := HBo.out.trans (hb5.mono HBo.out.size)
                    clear hb5
                    go_wp2_with fail
                    refine (rep_any (some ⟨g9, o9, none⟩) _ c9 o (clsL Ts) _ (HF9b.out _ HB5.out)).mono ?_
                    rintro e w6 ⟨rfl, hb6⟩
                    rw [no_ok HRO.out]
                    have HB6 : Hid (Below w2.heap.size w2 w6) := HB5.out.trans (hb6.mono HB5.out.size)
                    have HBw6 : Hid (Below w.heap.size w w6) := HB2.out.trans (HB6.out.mono HB2.out.size)
                    obtain ⟨b0, b1, b2, b3⟩ := HX2.out.later HB6.out
                    obtain ⟨A, hA⟩ : ∃ A, A = rpV (clsL Ts) h := ⟨_, rfl⟩
                    obtain ⟨B, hB⟩ : ∃ B, B = rpV (clsL Ts) o := ⟨_, rfl⟩
                    rw [← hA, ← hB]
                    have HA : Hid (rpV (clsL Ts) h = A) := hA.symm
                    have HB : Hid (rpV (clsL Ts) o = B) := hB.symm
                    clear hb6 hA hB
                    go_wp2_with fail
                    refine (pathC_any S ao n cap ao2 n2 cap2 ao3 n3 cap3 Ls Hs Ts h _ (HLW.out _ HBw6.out) (HHW.out _ HBw6.out) (HTW.out _ HBw6.out)).mono ?_
                    rintro e w7 ⟨a7, n7, c7, rfl, hg7, hb7⟩
                    rw [no_ok HPH.out.1]
                    rw [HPH.out.2] at hg7
                    have HG7 : Hid (∀ W, Below w7.heap.size w7 W → GS inE W (.slice a7 n7 c7) (pthL Ts h)) := fun W hb => hg7.later hb
                    have HB7 : Hid (Below w2.heap.size w2 w7) := HB6.out.trans (hb7.mono HB6.out.size)
                    have HBw7 : Hid (Below w.heap.size w w7) := HB2.out.trans (HB7.out.mono HB2.out.size)
                    clear b0 b1 b2 b3 hg7 hb7
                    obtain ⟨b0, b1, b2, b3⟩ := HX2.out.later HB7.out
                    go_wp2_with fail
                    refine (pathC_any S ao n cap ao2 n2 cap2 ao3 n3 cap3 Ls Hs Ts o _ (HLW.out _ HBw7.out) (HHW.out _ HBw7.out) (HTW.out _ HBw7.out)).mono ?_
                    rintro e w8 ⟨a8, n8, c8, rfl, hg8, hb8⟩
                    rw [no_ok HPO.out.1]
                    rw [HPO.out.2] at hg8
                    have HG8 : Hid (GS inE w8 (.slice a8 n8 c8) (pthL Ts o)) := hg8
                    have HG78 : Hid (GS inE w8 (.slice a7 n7 c7) (pthL Ts h)) := HG7.out _ hb8
                    have HBw8 : Hid (Below w.heap.size w w8) := HBw7.out.trans (hb8.mono HBw7.out.size)
                    clear b0 b1 b2 b3 hg8 hb8
                    go_wp2_with fail
                    refine (smints_any a7 a8 n7 n8 c7 c8 _ _ _ HG78.out HG8.out).mono ?_
                    rintro e w10 ⟨rfl, hb10⟩
                    obtain ⟨Q, hQ⟩ : ∃ Q, Q = (pthL Ts h == pthL Ts o) := ⟨_, rfl⟩
                    rw [← hQ]
                    have hAB : (A == B) = Q := by
                      rw [hQ, ← HSM.out, HA.out, HB.out]
                    have HBw10 : Hid (Below w.heap.size w w10) := HBw8.out.trans (hb10.mono HBw8.out.size)
                    clear hb10 hQ
                    go_wp2
                    go_ret
                    exact ⟨by simp, HBw10.out⟩
  · rw [no_ne h0]
    have HN0 : Hid (N ≠ 0) := h0
    clear h0
    go_wp2
    go_ret
    exact ⟨rfl, HB2.out⟩
end classHolds
end Go.Proofs.Ytfbocionnjlilad
