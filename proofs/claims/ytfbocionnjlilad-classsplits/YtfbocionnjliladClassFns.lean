/- What Of, All, Path and Rep of package class answer: contracts for the walks above them. -/
import Derived.Test.YtfbocionnjliladClassAlike
import Derived.Test.YtfbocionnjliladClassRep
import Derived.Test.YtfbocionnjliladSlNum
import Derived.Test.YtfbocionnjliladNetMath3
namespace Go.Proofs.Ytfbocionnjlilad
open Go.RowKit
set_option linter.unusedSimpArgs false
set_option linter.unusedVariables false

/-- One table in a new row. -/
theorem tsone1 (W : World) (a : Option Addr) (n c : Nat) (L : List Ru) (t : TypeId) (h : SR W (.slice a n c) L) : TS (W.alloc (Obj.cells #[.slice a n c] t)) (.slice (some ⟨W.heap.size, 0, none⟩) 1 1) [L] := by
  have hb : Below W.heap.size W (W.alloc (Obj.cells #[.slice a n c] t)) := (Below.refl _ _).alloc (Nat.le_refl _) _
  refine .inr ⟨W.heap.size, 0, 1, rfl, Nat.le_refl _, by unfold maxLen; omega, fun i hi => ?_⟩
  obtain rfl : i = 0 := by simp at hi; omega
  exact ⟨a, n, c, by simp, h.later hb⟩
/-- The classes of a table, if it is right. -/
def ofL (L : List Ru) : List (List Int) := if tbN L = 0 then clsL [L] else []
set_option maxHeartbeats 1000000 in
theorem of_any (a : Option Addr) (n c : Nat) (L : List Ru) (w : World) (hs : SR w (.slice a n c) L) :
    Calls Try.prog 5 #[.slice a n c] w fun e w' => ∃ v, e = .returned (.tuple #[v, noV (tbN L)]) ∧ ILS w' v (ofL L) ∧ Below w.heap.size w w' := by
  have HS : Hid (SR w (.slice a n c) L) := hs
  clear hs
  go_enter Try.func5, Try.ntmps5
  go_wp2_with fail
  refine (table_any _ L _ HS.out).mono ?_
  rintro e w1 ⟨rfl, hb1⟩
  obtain ⟨N, hN⟩ : ∃ N, N = tbN L := ⟨_, rfl⟩
  have HN : Hid (N = tbN L) := hN
  rw [← hN]
  have HB1 : Hid (Below w.heap.size w w1) := hb1
  have HS1 : Hid (SR w1 (.slice a n c) L) := HS.out.later hb1
  clear hN hb1
  by_cases h0 : N = 0
  · subst h0
    rw [no_ok rfl]
    have HL : Hid (ofL L = clsL [L]) := by
      show _ = _
      rw [ofL, if_pos HN.out.symm]
    go_wp2_with fail
    refine (alike_any _ 1 1 [L] _ (tsone1 w1 a n c L _ HS1.out) (by omega)).mono ?_
    rintro e w2 ⟨v, u, vs, us, rfl, hCP, hb2⟩
    have HB2 : Hid (Below w.heap.size w w2) := (HB1.out.alloc HB1.out.size _).trans (hb2.mono (by have := HB1.out.size; simp; omega))
    have HLS : Hid (ILS w2 v (ofL L)) := by
      show ILS _ _ _
      rw [HL.out]
      exact hCP.ls
    clear hCP hb2
    go_wp2
    refine bodyPost_ret (v := .tuple #[v, .nilIface]) (by simp [results, Try.results5, go_sem]) rfl ⟨v, by rw [← HN.out]; rfl, HLS.out, HB2.out⟩
  · rw [no_ne h0]
    have HL : Hid (ofL L = []) := by
      show _ = _
      rw [ofL, if_neg (by rw [← HN.out]; exact h0)]
    have HN0 : Hid (N ≠ 0) := h0
    clear h0
    go_wp2
    refine bodyPost_ret (v := .tuple #[.slice none 0 0, .iface 57 (.int .i64 N)]) (by simp [results, Try.results5, go_sem]) rfl ⟨_, by rw [← HN.out, no_ne HN0.out], ?_, HB1.out⟩
    rw [HL.out]
    exact ILS.nil _
/-- The classes of a net, if it is right. -/
def acL (S : Int) (Ls : List ((Int × Int) × (Int × Int))) (Hs : List (ByteArray × (Int × Int))) (Ts : List (List Ru)) : List (List Int) := if ntN S Ls Hs Ts = 0 then clsL Ts else []
theorem nt_8 {S : Int} {Ls : List ((Int × Int) × (Int × Int))} {Hs : List (ByteArray × (Int × Int))} {Ts : List (List Ru)} (h : ntN S Ls Hs Ts = 0) : Ts.length ≤ 8 := by
  obtain ⟨h1, h2, _⟩ := nt_0 h
  have := (tp_0 h1).1.2
  omega
set_option maxHeartbeats 1000000 in
theorem allC_any (S : Int) (ao : Option Addr) (n cap : Nat) (ao2 : Option Addr) (n2 cap2 : Nat) (ao3 : Option Addr) (n3 cap3 : Nat) (Ls : List ((Int × Int) × (Int × Int))) (Hs : List (ByteArray × (Int × Int))) (Ts : List (List Ru)) (w : World)
    (hL : GS lnkE w (.slice ao n cap) Ls) (hH : GS hstE w (.slice ao2 n2 cap2) Hs) (hT : TS w (.slice ao3 n3 cap3) Ts) :
    Calls Try.prog 6 #[.agg #[.int .i64 S, .slice ao n cap, .slice ao2 n2 cap2, .slice ao3 n3 cap3]] w fun e w' => ∃ v, e = .returned (.tuple #[v, noV (ntN S Ls Hs Ts)]) ∧ ILS w' v (acL S Ls Hs Ts) ∧ Below w.heap.size w w' := by
  have hb0 : Below w.heap.size w (w.alloc (Obj.cells #[.int .i64 S, .slice ao n cap, .slice ao2 n2 cap2, .slice ao3 n3 cap3] 28)) := (Below.refl _ _).alloc (Nat.le_refl _) _
  have HX := nebox_new w S (.slice ao n cap) (.slice ao2 n2 cap2) (.slice ao3 n3 cap3) 28
  obtain ⟨w0, hw0⟩ : ∃ W, w.alloc (Obj.cells #[.int .i64 S, .slice ao n cap, .slice ao2 n2 cap2, .slice ao3 n3 cap3] 28) = W := ⟨_, rfl⟩
  rw [hw0] at hb0 HX
  have HW0 : Hid (w.alloc (Obj.cells #[.int .i64 S, .slice ao n cap, .slice ao2 n2 cap2, .slice ao3 n3 cap3] 28) = w0) := hw0
  have HB0 : Hid (Below w.heap.size w w0) := hb0
  have HL0 : Hid (GS lnkE w0 (.slice ao n cap) Ls) := hL.later hb0
  have HH0 : Hid (GS hstE w0 (.slice ao2 n2 cap2) Hs) := hH.later hb0
  have HT0 : Hid (TS w0 (.slice ao3 n3 cap3) Ts) := hT.later hb0
  have HXB : Hid (NeBox w0 w.heap.size S (.slice ao n cap) (.slice ao2 n2 cap2) (.slice ao3 n3 cap3)) := HX
  obtain ⟨b0, b1, b2, b3⟩ := HX
  have HN3 : Hid (Ts.length = n3) := hT.len
  clear hL hH hT hb0 hw0
  go_enter Try.func6, Try.ntmps6
  go_upto_region 1 with fail
  rw [HW0.out]
  clear HW0
  go_wp2_with fail
  refine (ncheck_any S ao n cap ao2 n2 cap2 ao3 n3 cap3 Ls Hs Ts _ HL0.out HH0.out HT0.out).mono ?_
  rintro e w1 ⟨rfl, hb1⟩
  obtain ⟨N, hN⟩ : ∃ N, N = ntN S Ls Hs Ts := ⟨_, rfl⟩
  have HN : Hid (N = ntN S Ls Hs Ts) := hN
  rw [← hN]
  have HB1 : Hid (Below w.heap.size w w1) := HB0.out.trans (hb1.mono HB0.out.size)
  have HT1 : Hid (TS w1 (.slice ao3 n3 cap3) Ts) := HT0.out.later hb1
  have hx1 := HXB.out.later hb1
  clear hN hb1 b0 b1 b2 b3
  obtain ⟨b0, b1, b2, b3⟩ := hx1
  by_cases h0 : N = 0
  · subst h0
    rw [no_ok rfl]
    have HA : Hid (acL S Ls Hs Ts = clsL Ts) := by
      show _ = _
      rw [acL, if_pos HN.out.symm]
    have H8 : Hid (n3 ≤ 8) := by
      have := nt_8 HN.out.symm
      have h3 := HN3.out
      show _ ≤ _
      omega
    go_wp2_with fail
    refine (alike_any ao3 n3 cap3 Ts _ HT1.out H8.out).mono ?_
    rintro e w2 ⟨v, u, vs, us, rfl, hCP, hb2⟩
    have HB2 : Hid (Below w.heap.size w w2) := HB1.out.trans (hb2.mono HB1.out.size)
    have HLS : Hid (ILS w2 v (acL S Ls Hs Ts)) := by
      show ILS _ _ _
      rw [HA.out]
      exact hCP.ls
    clear hCP hb2 b0 b1 b2 b3
    go_wp2
    refine bodyPost_ret (v := .tuple #[v, .nilIface]) (by simp [results, Try.results6, go_sem]) rfl ⟨v, by rw [← HN.out]; rfl, HLS.out, HB2.out⟩
  · rw [no_ne h0]
    have HA : Hid (acL S Ls Hs Ts = []) := by
      show _ = _
      rw [acL, if_neg (by rw [← HN.out]; exact h0)]
    have HN0 : Hid (N ≠ 0) := h0
    clear h0 b0 b1 b2 b3
    go_wp2
    refine bodyPost_ret (v := .tuple #[.slice none 0 0, .iface 57 (.int .i64 N)]) (by simp [results, Try.results6, go_sem]) rfl ⟨_, by rw [← HN.out, no_ne HN0.out], ?_, HB1.out⟩
    rw [HA.out]
    exact ILS.nil _
/-- The fault of a path, and the path. -/
def ptN (S : Int) (Ls : List ((Int × Int) × (Int × Int))) (Hs : List (ByteArray × (Int × Int))) (Ts : List (List Ru)) (h : Int) : Int := if ntN S Ls Hs Ts = 0 then (if hdrB h then 0 else 1) else ntN S Ls Hs Ts
def ptL (S : Int) (Ls : List ((Int × Int) × (Int × Int))) (Hs : List (ByteArray × (Int × Int))) (Ts : List (List Ru)) (h : Int) : List Int := if ptN S Ls Hs Ts h = 0 then pthL Ts h else []
set_option maxHeartbeats 1000000 in
theorem pathC_any (S : Int) (ao : Option Addr) (n cap : Nat) (ao2 : Option Addr) (n2 cap2 : Nat) (ao3 : Option Addr) (n3 cap3 : Nat) (Ls : List ((Int × Int) × (Int × Int))) (Hs : List (ByteArray × (Int × Int))) (Ts : List (List Ru)) (h : Int) (w : World)
    (hL : GS lnkE w (.slice ao n cap) Ls) (hH : GS hstE w (.slice ao2 n2 cap2) Hs) (hT : TS w (.slice ao3 n3 cap3) Ts) :
    Calls Try.prog 8 #[.agg #[.int .i64 S, .slice ao n cap, .slice ao2 n2 cap2, .slice ao3 n3 cap3], .int .i64 h] w fun e w' => ∃ a4 n4 c4, e = .returned (.tuple #[.slice a4 n4 c4, noV (ptN S Ls Hs Ts h)]) ∧ GS inE w' (.slice a4 n4 c4) (ptL S Ls Hs Ts h) ∧ Below w.heap.size w w' := by
  have hb0 : Below w.heap.size w (w.alloc (Obj.cells #[.int .i64 S, .slice ao n cap, .slice ao2 n2 cap2, .slice ao3 n3 cap3] 28)) := (Below.refl _ _).alloc (Nat.le_refl _) _
  have HX := nebox_new w S (.slice ao n cap) (.slice ao2 n2 cap2) (.slice ao3 n3 cap3) 28
  obtain ⟨w0, hw0⟩ : ∃ W, w.alloc (Obj.cells #[.int .i64 S, .slice ao n cap, .slice ao2 n2 cap2, .slice ao3 n3 cap3] 28) = W := ⟨_, rfl⟩
  rw [hw0] at hb0 HX
  have HW0 : Hid (w.alloc (Obj.cells #[.int .i64 S, .slice ao n cap, .slice ao2 n2 cap2, .slice ao3 n3 cap3] 28) = w0) := hw0
  have HB0 : Hid (Below w.heap.size w w0) := hb0
  have HL0 : Hid (GS lnkE w0 (.slice ao n cap) Ls) := hL.later hb0
  have HH0 : Hid (GS hstE w0 (.slice ao2 n2 cap2) Hs) := hH.later hb0
  have HT0 : Hid (TS w0 (.slice ao3 n3 cap3) Ts) := hT.later hb0
  have HXB : Hid (NeBox w0 w.heap.size S (.slice ao n cap) (.slice ao2 n2 cap2) (.slice ao3 n3 cap3)) := HX
  obtain ⟨b0, b1, b2, b3⟩ := HX
  have HN3 : Hid (Ts.length = n3) := hT.len
  obtain ⟨M, hM⟩ : ∃ M, M = ptN S Ls Hs Ts h := ⟨_, rfl⟩
  have HM : Hid (M = ptN S Ls Hs Ts h) := hM
  rw [← hM]
  clear hL hH hT hb0 hw0 hM
  go_enter Try.func8, Try.ntmps8
  go_upto_region 1 with fail
  rw [HW0.out]
  clear HW0
  go_wp2_with fail
  refine (ncheck_any S ao n cap ao2 n2 cap2 ao3 n3 cap3 Ls Hs Ts _ HL0.out HH0.out HT0.out).mono ?_
  rintro e w1 ⟨rfl, hb1⟩
  obtain ⟨N, hN⟩ : ∃ N, N = ntN S Ls Hs Ts := ⟨_, rfl⟩
  have HN : Hid (N = ntN S Ls Hs Ts) := hN
  rw [← hN]
  have HB1 : Hid (Below w.heap.size w w1) := HB0.out.trans (hb1.mono HB0.out.size)
  have HT1 : Hid (TS w1 (.slice ao3 n3 cap3) Ts) := HT0.out.later hb1
  have hx1 := HXB.out.later hb1
  clear hN hb1 b0 b1 b2 b3
  obtain ⟨b0, b1, b2, b3⟩ := hx1
  by_cases h0 : N = 0
  · subst h0
    rw [no_ok rfl]
    have H8 : Hid (n3 ≤ 8) := by
      have := nt_8 HN.out.symm
      have h3 := HN3.out
      show _ ≤ _
      omega
    cases hh : hdrB h
    · have HM1 : Hid (M = 1) := by
        show _ = _
        rw [HM.out, ptN, if_pos HN.out.symm, hh]
        rfl
      have HP : Hid (ptL S Ls Hs Ts h = []) := by
        show _ = _
        rw [ptL, ← HM.out, HM1.out]
        rfl
      go_wp2_with fail
      refine (isHeader_no _ _ hh).mono ?_
      rintro e w' ⟨rfl, hw'⟩
      subst hw'
      clear b0 b1 b2 b3
      go_wp2
      refine bodyPost_ret (v := .tuple #[.slice none 0 0, .iface 57 (.int .i64 1)]) (by simp [results, Try.results8, go_sem]) rfl ⟨_, _, _, by rw [HM1.out]; rfl, ?_, HB1.out⟩
      rw [HP.out]
      exact GS.nil _
    · have HM1 : Hid (M = 0) := by
        show _ = _
        rw [HM.out, ptN, if_pos HN.out.symm, hh]
        rfl
      have HP : Hid (ptL S Ls Hs Ts h = pthL Ts h) := by
        show _ = _
        rw [ptL, ← HM.out, HM1.out]
        rfl
      go_wp2_with fail
      refine (isHeader_yes _ _ hh).mono ?_
      rintro e w' ⟨rfl, hw'⟩
      subst hw'
      go_wp2_with fail
      refine (path_any ao3 n3 cap3 Ts h _ HT1.out H8.out).mono ?_
      rintro e w2 ⟨rfl, hown2, hb2⟩
      have HB2 := HB1.out.trans (hb2.mono HB1.out.size)
      have HG2 : Hid (GS inE w2 (.slice (some ⟨w'.heap.size, 0, none⟩) n3 n3) (ptL S Ls Hs Ts h)) := by
        show GS _ _ _ _
        rw [HP.out]
        exact own_GS hown2
      clear hown2 hb2 b0 b1 b2 b3
      go_wp2
      refine bodyPost_ret (v := .tuple #[.slice (some ⟨w'.heap.size, 0, none⟩) n3 n3, .nilIface]) (by simp [results, Try.results8, go_sem]) rfl ⟨_, _, _, by rw [HM1.out]; rfl, HG2.out, HB2⟩
  · rw [no_ne h0]
    have HM1 : Hid (M = N) := by
      show _ = _
      rw [HM.out, ptN, if_neg (by rw [← HN.out]; exact h0), HN.out]
    have HP : Hid (ptL S Ls Hs Ts h = []) := by
      show _ = _
      rw [ptL, ← HM.out, HM1.out, if_neg h0]
    have HN0 : Hid (N ≠ 0) := h0
    clear h0 b0 b1 b2 b3
    go_wp2
    refine bodyPost_ret (v := .tuple #[.slice none 0 0, .iface 57 (.int .i64 N)]) (by simp [results, Try.results8, go_sem]) rfl ⟨_, _, _, by rw [HM1.out, no_ne HN0.out], ?_, HB1.out⟩
    rw [HP.out]
    exact GS.nil _
theorem enters_rep1 : ∀ args w, (callFunc 15 args).run Try.prog w = .ok (.enter 15 args) w := enters_of Try.func15 (by kernel_rfl) rfl
set_option maxHeartbeats 1000000 in
theorem rep1_any (ao : Option Addr) (n c b : Nat) (h : Int) (L : List Int) (W : World) (hb : W.cell? ⟨b, 0, none⟩ = some (.int .i64 h)) (hL : GS inE W (.slice ao n c) L) :
    Calls Try.prog 15 #[.slice ao n c, .pointer (some ⟨b, 0, none⟩)] W fun e w' => e = .returned (.bool (hasL h L)) ∧ Below W.heap.size W w' := by
  go_enter Try.func15, Try.ntmps15
  go_wp2_with fail
  refine (num_has ao n c h L _ hL).mono ?_
  rintro e w1 ⟨rfl, hb1⟩
  go_wp2
  go_ret
  exact ⟨rfl, hb1⟩
set_option maxHeartbeats 1000000 in
theorem rep_any (a : Option Addr) (n c : Nat) (h : Int) (Ls : List (List Int)) (w : World) (hs : ILS w (.slice a n c) Ls) :
    Calls Try.prog 7 #[.slice a n c, .int .i64 h] w fun e w' => e = .returned (.tuple #[.int .i64 (rpV Ls h), noV (rpN Ls h)]) ∧ Below w.heap.size w w' := by
  have hb0 : Below w.heap.size w (w.alloc (Obj.cells #[.int .i64 h] 3)) := (Below.refl _ _).alloc (Nat.le_refl _) _
  have hc0 : (w.alloc (Obj.cells #[.int .i64 h] 3)).cell? ⟨w.heap.size, 0, none⟩ = some (.int .i64 h) := by simp
  obtain ⟨w0, hw0⟩ : ∃ W, w.alloc (Obj.cells #[.int .i64 h] 3) = W := ⟨_, rfl⟩
  rw [hw0] at hb0 hc0
  have HW0 : Hid (w.alloc (Obj.cells #[.int .i64 h] 3) = w0) := hw0
  have HB0 : Hid (Below w.heap.size w w0) := hb0
  have HS0 : Hid (ILS w0 (.slice a n c) Ls) := hs.later hb0
  have HASK : Hid (ilAsks w0 15 (.pointer (some ⟨w.heap.size, 0, none⟩)) (hasL h)) := fun ao n cap L W hb hG => rep1_any ao n cap _ h L W (cell_later hb hc0) hG
  clear hs hb0 hw0 hc0
  go_enter Try.func7, Try.ntmps7
  go_upto_region 1 with fail
  rw [HW0.out]
  clear HW0
  go_wp2_with fail
  refine (il_idxF a n c 15 (.pointer (some ⟨w.heap.size, 0, none⟩)) (hasL h) Ls _ HS0.out enters_rep1 HASK.out).mono ?_
  rintro e w1 ⟨rfl, hb1⟩
  obtain ⟨I, hI⟩ : ∃ I, I = rpI Ls h := ⟨_, rfl⟩
  have HI : Hid (I = rpI Ls h) := hI
  rw [show ixG (hasL h) Ls = I from hI.symm]
  have HB1 : Hid (Below w.heap.size w w1) := HB0.out.trans (hb1.mono HB0.out.size)
  have HS1 : Hid (ILS w1 (.slice a n c) Ls) := HS0.out.later hb1
  clear hI hb1 HASK
  by_cases hneg : I < 0
  · have HN : Hid (rpN Ls h = 5 ∧ rpV Ls h = 0) := by
      show _ ∧ _
      rw [rpN, rpV, ← HI.out, if_pos hneg, if_pos hneg]
      exact ⟨rfl, rfl⟩
    go_wp2
    refine bodyPost_ret (v := .tuple #[.int .i64 0, .iface 57 (.int .i64 5)]) (by simp [results, Try.results7, go_sem]) rfl ⟨?_, HB1.out⟩
    rw [HN.out.1, HN.out.2]
    rfl
  · obtain ⟨j, rfl⟩ : ∃ j : Nat, I = (j : Int) := ⟨I.toNat, by omega⟩
    have hI2 : (j : Int) = ixG (hasL h) Ls := HI.out
    obtain ⟨q1, q2⟩ := ixG_lt (q := hasL h) (L := Ls) (by omega)
    have hjl : j < Ls.length := by omega
    have hjh : hasL h Ls[j] = true := by
      have := q2 q1
      have e : (ixG (hasL h) Ls).toNat = j := by omega
      simp only [e] at this
      exact this
    have HN : Hid (rpN Ls h = 0 ∧ rpV Ls h = mnTo Ls[j] Ls[j].length) := by
      show _ ∧ _
      rw [rpN, rpV, ← HI.out, if_neg hneg, if_neg hneg]
      refine ⟨rfl, ?_⟩
      rw [Int.toNat_natCast, show Ls.getD j [] = Ls[j] by simp [List.getD, hjl]]
    obtain ⟨_, _, _, e5, hn5, _, _, ha5⟩ := HS1.out.form
    cases e5
    obtain ⟨g, o, hao, hc, _⟩ := ha5 (by omega)
    subst hao
    obtain ⟨a2, n2, c2, t0, hG⟩ := hc j hjl
    have HG : Hid (GS inE w1 (.slice a2 n2 c2) Ls[j]) := hG
    have hn2 : 0 < n2 := by
      have := hG.len
      have h3 := List.length_pos_of_mem (hasL_iff.1 hjh)
      omega
    have jb0 : (0 : Int) ≤ (j : Int) := by omega
    have jb1 : (j : Int) < (n : Int) := by omega
    clear hI2 q1 q2 hn5 ha5 hc hG hjh
    go_wp2_with fail
    refine (num_min a2 n2 c2 _ _ HG.out hn2).mono ?_
    rintro e w2 ⟨rfl, hb2⟩
    have HB2 : Hid (Below w.heap.size w w2) := HB1.out.trans (hb2.mono HB1.out.size)
    clear hb2 t0
    go_wp2
    refine bodyPost_ret (v := .tuple #[.int .i64 (mnTo Ls[j] Ls[j].length), .nilIface]) (by simp [results, Try.results7, go_sem]) rfl ⟨?_, HB2.out⟩
    rw [HN.out.1, HN.out.2]
    rfl
end Go.Proofs.Ytfbocionnjlilad
