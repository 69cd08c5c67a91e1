/- Contracts and facts on the way to MixTells, joined into one text: RefFate2, MixHas, RefLess, RefPut, RefDo, RefDiff. -/
import Derived.Test.YtglnnoglbieaeaaGreatDoorMixTellsP4
import Derived.Test.YtglnnoglbieaeaaGreatDoorMixTellsP2
import Derived.Test.YtglnnoglbieaeaaGreatDoorMixTellsP9
import Derived.Test.YtglnnoglbieaeaaGreatDoorMixTellsP14
import Derived.Test.YtglnnoglbieaeaaGreatDoorMixTellsP12
import Derived.Test.YtglnnoglbieaeaaGreatDoorMixTellsP7
import Derived.Test.YtglnnoglbieaeaaGreatDoorMixTellsP8
import Derived.Deep.QuietTactic
import Derived.BigQuiet
import Derived.Deep.CutRange
import Derived.Deep.CutBlock
/- What railsame.Fate answers of any two fates: are they the same? A contract for the walks above it. -/
namespace Go.Proofs.YtglnnoglbieaeaaGreatDoor
open Go.RowKit
set_option linter.unusedSimpArgs false
set_option linter.unusedVariables false

/-- Are two fates the same? -/
def fqB (f g : Ft) : Bool := (f.1 == g.1) && ((f.2.1.toList == g.2.1.toList) && smG hopB f.2.2 g.2.2)
theorem fq_iff (f g : Ft) : fqB f g = true ↔ f = g := by
  obtain ⟨a, b, c⟩ := f
  obtain ⟨d, e, k⟩ := g
  unfold fqB
  rw [Bool.and_eq_true, Bool.and_eq_true, smG_eq hopB_iff]
  constructor
  · rintro ⟨h1, h2, h3⟩
    have e1 : a = d := by simpa using h1
    have e2 : b = e := nm_inj (eq_of_beq h2)
    have e3 : c = k := h3
    rw [e1, e2, e3]
  · intro h
    cases h
    simp
/-- Two fates in their boxes. -/
structure FT2 (w W : World) (V1 : Int) (V2 : ByteArray) (u : Value) (U1 : Int) (U2 : ByteArray) (v : Value) : Prop where
  below : Below w.heap.size w W
  a0 : W.cell? ⟨w.heap.size, 0, none⟩ = some (.int .i64 V1)
  a1 : W.cell? ⟨w.heap.size, 1, none⟩ = some (.string V2)
  a2 : W.cell? ⟨w.heap.size, 2, none⟩ = some u
  b0 : W.cell? ⟨w.heap.size + 1, 0, none⟩ = some (.int .i64 U1)
  b1 : W.cell? ⟨w.heap.size + 1, 1, none⟩ = some (.string U2)
  b2 : W.cell? ⟨w.heap.size + 1, 2, none⟩ = some v
theorem FT2.later {w W W' : World} {V1 : Int} {V2 : ByteArray} {u : Value} {U1 : Int} {U2 : ByteArray} {v : Value} (h : FT2 w W V1 V2 u U1 U2 v) (hb : Below W.heap.size W W') : FT2 w W' V1 V2 u U1 U2 v :=
  ⟨h.below.trans (hb.mono h.below.size), cell_later hb h.a0, cell_later hb h.a1, cell_later hb h.a2, cell_later hb h.b0, cell_later hb h.b1, cell_later hb h.b2⟩
theorem ft2_new (w : World) (V1 : Int) (V2 : ByteArray) (u : Value) (U1 : Int) (U2 : ByteArray) (v : Value) : FT2 w ((w.alloc (Obj.cells #[.int .i64 V1, .string V2, u] 77)).alloc (Obj.cells #[.int .i64 U1, .string U2, v] 77)) V1 V2 u U1 U2 v := by
  have e1 : (w.alloc (Obj.cells #[.int .i64 V1, .string V2, u] 77)).heap.size = w.heap.size + 1 := by simp
  have hb : ∀ (W : World) (o : Obj), Below W.heap.size W (W.alloc o) := fun W o => (Below.refl _ _).alloc (Nat.le_refl _) _
  have ha := (vat_new w [.int .i64 V1, .string V2, u] 77).later (hb _ (Obj.cells #[.int .i64 U1, .string U2, v] 77))
  have hs := vat_new (w.alloc (Obj.cells #[.int .i64 V1, .string V2, u] 77)) [.int .i64 U1, .string U2, v] 77
  rw [e1] at hs
  exact ⟨((Below.refl _ _).alloc (Nat.le_refl _) _).alloc (by rw [e1]; omega) _, ha 0 _ rfl, ha 1 _ rfl, ha 2 _ rfl, hs 0 _ rfl, hs 1 _ rfl, hs 2 _ rfl⟩
def fqCD (w : World) (u v : Value) (g o : Nat) (x0 x1 x2 : Int) (g' o' : Nat) (y0 y1 y2 : Int) (V1 : Int) (V2 : ByteArray) (U1 : Int) (U2 : ByteArray) (w' : World) : Prop :=
  FT2 w w' V1 V2 u U1 U2 v ∧ (w'.cell? ⟨g, o, none⟩ = some (.int .i64 x0) ∧ w'.cell? ⟨g, o + 1, none⟩ = some (.int .i64 x1) ∧ w'.cell? ⟨g, o + 2, none⟩ = some (.int .i64 x2)) ∧ (w'.cell? ⟨g', o', none⟩ = some (.int .i64 y0) ∧ w'.cell? ⟨g', o' + 1, none⟩ = some (.int .i64 y1) ∧ w'.cell? ⟨g', o' + 2, none⟩ = some (.int .i64 y2))
theorem fqCD.later {w : World} {u v : Value} {g o : Nat} {x0 x1 x2 : Int} {g' o' : Nat} {y0 y1 y2 : Int} {V1 : Int} {V2 : ByteArray} {U1 : Int} {U2 : ByteArray} {W W' : World} (hb : Below W.heap.size W W') (h : fqCD w u v g o x0 x1 x2 g' o' y0 y1 y2 V1 V2 U1 U2 W) : fqCD w u v g o x0 x1 x2 g' o' y0 y1 y2 V1 V2 U1 U2 W' := by
  obtain ⟨h0, ⟨h1, h2, h3⟩, h4, h5, h6⟩ := h
  exact ⟨h0.later hb, ⟨cell_later hb h1, cell_later hb h2, cell_later hb h3⟩, cell_later hb h4, cell_later hb h5, cell_later hb h6⟩

set_option maxHeartbeats 2000000 in
set_option maxRecDepth 100000 in
theorem fate_all (V1 : Int) (V2 : ByteArray) (ao : Option Addr) (n cap : Nat) (U1 : Int) (U2 : ByteArray) (bo : Option Addr) (m cbp : Nat) (L M : List ((Int × Int) × Int)) (w : World) (hn1000 : L.length ≤ 1000)
    (h1 : GS hopE w (.slice ao n cap) L) (h2 : GS hopE w (.slice bo m cbp) M) :
    Calls Tryz.prog 32 #[.agg #[.int .i64 V1, .string V2, .slice ao n cap], .agg #[.int .i64 U1, .string U2, .slice bo m cbp]] w fun e w' => e = .returned (.bool (fqB (V1, V2, L) (U1, U2, M))) ∧ Below w.heap.size w w' := by
  have hn := h1.len
  have hm := h2.len
  obtain ⟨_, _, _, e1, _, _, _, ha⟩ := h1.form
  cases e1
  obtain ⟨_, _, _, e2, _, _, _, hb⟩ := h2.form
  cases e2
  have HN : Hid (L.length = n) := hn
  have HM : Hid (M.length = m) := hm
  have HA : Hid (0 < n → ∃ g o, ao = some ⟨g, o, none⟩ ∧ GAt hopE w g o L ∧ cap ≤ maxLen) := ha
  have HB : Hid (0 < m → ∃ g o, bo = some ⟨g, o, none⟩ ∧ GAt hopE w g o M ∧ cbp ≤ maxLen) := hb
  have hm1000 : n ≤ 1000 := by omega
  have hX := ft2_new w V1 V2 (.slice ao n cap) U1 U2 (.slice bo m cbp)
  obtain ⟨w0, hw0⟩ : ∃ W, (w.alloc (Obj.cells #[.int .i64 V1, .string V2, .slice ao n cap] 77)).alloc (Obj.cells #[.int .i64 U1, .string U2, .slice bo m cbp] 77) = W := ⟨_, rfl⟩
  rw [hw0] at hX
  have HX : Hid (FT2 w w0 V1 V2 (.slice ao n cap) U1 U2 (.slice bo m cbp)) := hX
  have HW0 : Hid ((w.alloc (Obj.cells #[.int .i64 V1, .string V2, .slice ao n cap] 77)).alloc (Obj.cells #[.int .i64 U1, .string U2, .slice bo m cbp] 77) = w0) := hw0
  obtain ⟨R, hR⟩ : ∃ R, R = fqB (V1, V2, L) (U1, U2, M) := ⟨_, rfl⟩
  have HR : Hid (R = fqB (V1, V2, L) (U1, U2, M)) := hR
  rw [← hR]
  clear hn hm h1 h2 ha hb hX hw0 hn1000 hR
  go_enter Tryz.func32, Tryz.ntmps32
  go_upto_region 1 with fail
  rw [HW0.out]
  clear HW0
  obtain ⟨_, a0, a1, a2, b0, b1, b2⟩ := HX.out
  by_cases q1 : V1 = U1
  · by_cases q2 : V2 = U2
    · by_cases q3 : n = m
      · subst q1
        subst q2
        subst q3
        have HRS : Hid (R = smG hopB L M) := by
          show _ = _
          rw [HR.out]
          simp [fqB]
        go_wp2
        clear a0 a1 a2 b0 b1 b2
        go_loopw [5] (fun i wr => ∃ k : Nat, k ≤ n ∧ i = .int .i64 k ∧ (∀ j, j < k → ∀ (h1 : j < L.length) (h2 : j < M.length), hopB L[j] M[j] = true) ∧ FT2 w wr V1 V2 (.slice ao n cap) V1 V2 (.slice bo n cbp)) (fun i _ => n - (intOf i).toNat)
        case atStart => exact ⟨0, by omega, rfl, fun j hj => absurd hj (by omega), HX.out⟩
        case round =>
          obtain ⟨k, hk, rfl, hall, hF⟩ := hrel
          have HALL : Hid (∀ j, j < k → ∀ (h1 : j < L.length) (h2 : j < M.length), hopB L[j] M[j] = true) := hall
          have HF : Hid (FT2 w wr V1 V2 (.slice ao n cap) V1 V2 (.slice bo n cbp)) := hF
          obtain ⟨hB, a0, a1, a2, b0, b1, b2⟩ := hF
          have HBe : Hid (Below w.heap.size w wr) := hB
          clear hall
          by_cases hlt : k < n
          · obtain ⟨g, o, hao, hc, _⟩ := HA.out (by omega)
            subst hao
            obtain ⟨g', o', hbo, hd, _⟩ := HB.out (by omega)
            subst hbo
            obtain ⟨x0, x1, x2, hkl, hLk, c0, c1, c2⟩ := hop_at (hc.later hB) HN.out hlt
            obtain ⟨y0, y1, y2, hkm, hMk, d0, d1, d2⟩ := hop_at (hd.later hB) HM.out hlt
            have HCE : Hid (fqCD w (.slice (some ⟨g, o, none⟩) n cap) (.slice (some ⟨g', o', none⟩) n cbp) g (o + k * 3) x0 x1 x2 g' (o' + k * 3) y0 y1 y2 V1 V2 V1 V2 wr) := ⟨HF.out, ⟨c0, c1, c2⟩, d0, d1, d2⟩
            have HLK : Hid (L[k] = ((x0, x1), x2) ∧ M[k] = ((y0, y1), y2)) := ⟨hLk, hMk⟩
            clear hc hd hLk hMk hB c0 c1 c2 d0 d1 d2 b0 b1 a0 a1
            have kb0 : (0 : Int) ≤ (k : Int) := by omega
            have kb1 : (k : Int) < (n : Int) := by omega
            go_upto_region 6 with fail
            clear a2 b2
            go_cut [44] from 34 to 45 (fun c w' => c = .bool (!hopB ((x0, x1), x2) ((y0, y1), y2)) ∧ FT2 w w' V1 V2 (.slice (some ⟨g, o, none⟩) n cap) V1 V2 (.slice (some ⟨g', o', none⟩) n cbp))
            case first =>
              as_aux_lemma =>
                refine wp_region_quiet (C := fqCD w (.slice (some ⟨g, o, none⟩) n cap) (.slice (some ⟨g', o', none⟩) n cbp) g (o + k * 3) x0 x1 x2 g' (o' + k * 3) y0 y1 y2 V1 V2 V1 V2) (by kernel_rfl) (by kernel_rfl) (fqCD.later (W := wr) (Below.drew (Below.refl _ _)) HCE.out) ?_
                simp only [List.toList_toArray]
                go_big_quiet_want
                refine quiet_val (v := .pointer (some ⟨w.heap.size, 2, none⟩)) (fun w' hC => ?_) ?_
                · obtain ⟨⟨zb, z0, z1, z2, z3, z4, z5⟩, ⟨u0, u1, u2⟩, u3, u4, u5⟩ := hC
                  go_simp
                simp only [Act.put, List.setIfInBounds_toArray, List.set_cons_zero, List.set_cons_succ]
                go_big_quiet_on
                go_big_quiet_want
                refine quiet_val (v := .slice (some ⟨g, o, none⟩) n cap) (fun w' hC => ?_) ?_
                · obtain ⟨⟨zb, z0, z1, z2, z3, z4, z5⟩, ⟨u0, u1, u2⟩, u3, u4, u5⟩ := hC
                  go_simp
                simp only [Act.put, List.setIfInBounds_toArray, List.set_cons_zero, List.set_cons_succ]
                go_big_quiet_on
                go_big_quiet_want
                refine quiet_val (v := .int .i64 (k : Int)) (fun w' hC => ?_) ?_
                · obtain ⟨⟨zb, z0, z1, z2, z3, z4, z5⟩, ⟨u0, u1, u2⟩, u3, u4, u5⟩ := hC
                  go_simp
                simp only [Act.put, List.setIfInBounds_toArray, List.set_cons_zero, List.set_cons_succ]
                go_big_quiet_on
                go_big_quiet_want
                refine quiet_val (v := .pointer (some ⟨g, o + k * 3, none⟩)) (fun w' hC => ?_) ?_
                · obtain ⟨⟨zb, z0, z1, z2, z3, z4, z5⟩, ⟨u0, u1, u2⟩, u3, u4, u5⟩ := hC
                  go_simp
                simp only [Act.put, List.setIfInBounds_toArray, List.set_cons_zero, List.set_cons_succ]
                go_big_quiet_on
                go_big_quiet_want
                refine quiet_val (v := .agg #[.int .i64 x0, .int .i64 x1, .int .i64 x2]) (fun w' hC => ?_) ?_
                · obtain ⟨⟨zb, z0, z1, z2, z3, z4, z5⟩, ⟨u0, u1, u2⟩, u3, u4, u5⟩ := hC
                  go_simp
                simp only [Act.put, List.setIfInBounds_toArray, List.set_cons_zero, List.set_cons_succ]
                go_big_quiet_on
                go_big_quiet_want
                refine quiet_val (v := .pointer (some ⟨w.heap.size + 1, 2, none⟩)) (fun w' hC => ?_) ?_
                · obtain ⟨⟨zb, z0, z1, z2, z3, z4, z5⟩, ⟨u0, u1, u2⟩, u3, u4, u5⟩ := hC
                  go_simp
                simp only [Act.put, List.setIfInBounds_toArray, List.set_cons_zero, List.set_cons_succ]
                go_big_quiet_on
                go_big_quiet_want
                refine quiet_val (v := .slice (some ⟨g', o', none⟩) n cbp) (fun w' hC => ?_) ?_
                · obtain ⟨⟨zb, z0, z1, z2, z3, z4, z5⟩, ⟨u0, u1, u2⟩, u3, u4, u5⟩ := hC
                  go_simp
                simp only [Act.put, List.setIfInBounds_toArray, List.set_cons_zero, List.set_cons_succ]
                go_big_quiet_on
                go_big_quiet_want
                refine quiet_val (v := .int .i64 (k : Int)) (fun w' hC => ?_) ?_
                · obtain ⟨⟨zb, z0, z1, z2, z3, z4, z5⟩, ⟨u0, u1, u2⟩, u3, u4, u5⟩ := hC
                  go_simp
                simp only [Act.put, List.setIfInBounds_toArray, List.set_cons_zero, List.set_cons_succ]
                go_big_quiet_on
                go_big_quiet_want
                refine quiet_val (v := .pointer (some ⟨g', o' + k * 3, none⟩)) (fun w' hC => ?_) ?_
                · obtain ⟨⟨zb, z0, z1, z2, z3, z4, z5⟩, ⟨u0, u1, u2⟩, u3, u4, u5⟩ := hC
                  go_simp
                simp only [Act.put, List.setIfInBounds_toArray, List.set_cons_zero, List.set_cons_succ]
                go_big_quiet_on
                go_big_quiet_want
                refine quiet_val (v := .agg #[.int .i64 y0, .int .i64 y1, .int .i64 y2]) (fun w' hC => ?_) ?_
                · obtain ⟨⟨zb, z0, z1, z2, z3, z4, z5⟩, ⟨u0, u1, u2⟩, u3, u4, u5⟩ := hC
                  go_simp
                simp only [Act.put, List.setIfInBounds_toArray, List.set_cons_zero, List.set_cons_succ]
                go_big_quiet_on
                go_big_quiet_want
                refine quiet_val (v := .bool (!hopB ((x0, x1), x2) ((y0, y1), y2))) (fun w' hC => exec_bin rfl (by go_simp) (run_neq_of (hop_eq x0 x1 x2 y0 y1 y2 w'))) ?_
                simp only [Act.put, List.setIfInBounds_toArray, List.set_cons_zero, List.set_cons_succ]
                go_big_quiet_on
                refine wpQuiet_nil ?_
                intro w' hC
                go_wp2_with fail
                go_meet
                case rel => exact ⟨rfl, hC.1⟩
            case rest =>
              obtain ⟨rfl, hB2⟩ := hcut
              have HB2 : Hid (FT2 w wc V1 V2 (.slice (some ⟨g, o, none⟩) n cap) V1 V2 (.slice (some ⟨g', o', none⟩) n cbp)) := hB2
              clear HCE hB2
              cases hoo : hopB ((x0, x1), x2) ((y0, y1), y2)
              · have HFF : Hid (R = false) := by
                  show R = false
                  rw [HRS.out]
                  exact smG_no hkl hkm (by rw [HLK.out.1, HLK.out.2]; exact hoo)
                go_wp2
                go_ret
                exact ⟨by rw [HFF.out]; rfl, HB2.out.below⟩
              · have HALL2 : Hid (∀ j, j < k + 1 → ∀ (h1 : j < L.length) (h2 : j < M.length), hopB L[j] M[j] = true) := by
                  intro j hj h1 h2
                  by_cases e : j = k
                  · subst e
                    rw [HLK.out.1, HLK.out.2]
                    exact hoo
                  · exact HALL.out j (by omega) h1 h2
                go_wp2
                go_roundw
                case rel => exact ⟨k + 1, by omega, by go_num, HALL2.out, HB2.out⟩
                case measure => simp [intOf]; omega
          · obtain rfl : k = n := by omega
            have HT : Hid (R = true) := by
              show R = true
              rw [HRS.out, smG_iff]
              exact ⟨HN.out.trans HM.out.symm, fun i h1 h2 => HALL.out i (by rw [← HN.out]; exact h1) h1 h2⟩
            clear hB
            go_wp2
            go_ret
            exact ⟨by rw [HT.out]; rfl, HBe.out⟩
      · have HFF : Hid (R = false) := by
          show R = false
          rw [HR.out]
          have : smG hopB L M = false := smG_len (by rw [HN.out, HM.out]; exact q3)
          simp [fqB, this]
        have d3 : ((n : Int) == (m : Int)) = false := by simp; omega
        have HB0 : Hid (Below w.heap.size w w0) := HX.out.below
        subst q1
        subst q2
        go_wp2
        go_ret
        exact ⟨by rw [HFF.out]; rfl, HB0.out⟩
    · have HFF : Hid (R = false) := by
        show R = false
        rw [HR.out]
        have e : (V2.toList == U2.toList) = false := by
          cases e : (V2.toList == U2.toList)
          · rfl
          · exact absurd (nm_inj (eq_of_beq e)) q2
        simp only [fqB, e, Bool.false_and, Bool.and_false]
      have d2 : (V2.toList == U2.toList) = false := by
        cases e : (V2.toList == U2.toList)
        · rfl
        · exact absurd (nm_inj (eq_of_beq e)) q2
      have HB0 : Hid (Below w.heap.size w w0) := HX.out.below
      subst q1
      go_wp2
      go_ret
      exact ⟨by rw [HFF.out]; rfl, HB0.out⟩
  · have HFF : Hid (R = false) := by
      show R = false
      rw [HR.out]
      simp [fqB, q1]
    have d1 : (V1 == U1) = false := by simpa using q1
    have HB0 : Hid (Below w.heap.size w w0) := HX.out.below
    go_wp2
    go_ret
    exact ⟨by rw [HFF.out]; rfl, HB0.out⟩
end Go.Proofs.YtglnnoglbieaeaaGreatDoor
/- What raillaw2.has answers: is a fate in a list? A contract for the walks above it. -/
namespace Go.Proofs.YtglnnoglbieaeaaGreatDoor
open Go.RowKit
set_option linter.unusedSimpArgs false
set_option linter.unusedVariables false

def CHs (wr : World) (g q : Nat) (x : Ft) (a3 : Option Addr) (n3 c3 : Nat) (f : Nat) (y : Ft) (a4 : Option Addr) (n4 c4 : Nat) (w' : World) : Prop :=
  Below wr.heap.size wr w' ∧ w'.cell? ⟨g, q, none⟩ = some (.int .i64 x.1) ∧ w'.cell? ⟨g, q + 1, none⟩ = some (.string x.2.1) ∧ w'.cell? ⟨g, q + 2, none⟩ = some (.slice a3 n3 c3) ∧ w'.cell? ⟨f, 0, none⟩ = some (.int .i64 y.1) ∧ w'.cell? ⟨f, 1, none⟩ = some (.string y.2.1) ∧ w'.cell? ⟨f, 2, none⟩ = some (.slice a4 n4 c4) ∧ GS hopE w' (.slice a3 n3 c3) x.2.2 ∧ GS hopE w' (.slice a4 n4 c4) y.2.2
theorem CHs.later {wr W W' : World} {g q : Nat} {x : Ft} {a3 : Option Addr} {n3 c3 : Nat} {f : Nat} {y : Ft} {a4 : Option Addr} {n4 c4 : Nat} (hb : Below W.heap.size W W') (h : CHs wr g q x a3 n3 c3 f y a4 n4 c4 W) : CHs wr g q x a3 n3 c3 f y a4 n4 c4 W' := by
  obtain ⟨h0, h1, h2, h3, h4, h5, h6, h7, h8⟩ := h
  exact ⟨h0.trans (hb.mono h0.size), cell_later hb h1, cell_later hb h2, cell_later hb h3, cell_later hb h4, cell_later hb h5, cell_later hb h6, h7.later hb, h8.later hb⟩
end Go.Proofs.YtglnnoglbieaeaaGreatDoor
/- What railref2.less answers: is a fate ahead of another one? A contract for the walks above it. -/
namespace Go.Proofs.YtglnnoglbieaeaaGreatDoor
open Go.RowKit
set_option linter.unusedSimpArgs false
set_option linter.unusedVariables false

/-- Hops: by switch, port, header. -/
def hpL : ((Int × Int) × Int) → ((Int × Int) × Int) → Bool := lexP (lexP (fun (a b : Int) => decide (a < b)) (fun (a b : Int) => decide (a < b))) (fun (a b : Int) => decide (a < b))
theorem fa_1 {V1 U1 : Int} {V2 U2 : ByteArray} {L M : List ((Int × Int) × Int)} (h : V1 ≠ U1) : faL (V1, V2, L) (U1, U2, M) = decide (V1 < U1) := by
  show (if V1 = U1 then _ else _) = _
  rw [if_neg h]
theorem fa_2 {V1 : Int} {V2 U2 : ByteArray} {L M : List ((Int × Int) × Int)} (h : V2 ≠ U2) : faL (V1, V2, L) (V1, U2, M) = Op.bytesLess V2.toList U2.toList := by
  show (if V1 = V1 then (if V2 = U2 then _ else _) else _) = _
  rw [if_pos rfl, if_neg h]
  rfl
theorem fa_3 {V1 : Int} {V2 : ByteArray} {L M : List ((Int × Int) × Int)} : faL (V1, V2, L) (V1, V2, M) = lexL hpL L M := by
  show (if V1 = V1 then (if V2 = V2 then _ else _) else _) = _
  rw [if_pos rfl, if_pos rfl]
  rfl
theorem lex_at {L M : List ((Int × Int) × Int)} {k : Nat} (h1 : k < L.length) (h2 : k < M.length) : lexL hpL (L.drop k) (M.drop k) = if L[k] = M[k] then lexL hpL (L.drop (k + 1)) (M.drop (k + 1)) else hpL L[k] M[k] := by
  rw [List.drop_eq_getElem_cons h1, List.drop_eq_getElem_cons h2]
  rfl
theorem lex_end {L M : List ((Int × Int) × Int)} {k : Nat} (h1 : k ≤ L.length) (h2 : k ≤ M.length) (h : k = L.length ∨ k = M.length) : lexL hpL (L.drop k) (M.drop k) = decide (L.length < M.length) := by
  by_cases e : k = M.length
  · subst e
    rw [List.drop_length]
    have : ¬ L.length < M.length := by omega
    simp [lexL, this]
  · have e1 : k = L.length := by omega
    subst e1
    rw [List.drop_length, List.drop_eq_getElem_cons (by omega)]
    have : L.length < M.length := by omega
    simp [lexL, this]
set_option maxHeartbeats 4000000 in
set_option maxRecDepth 100000 in
theorem less_any (V1 : Int) (V2 : ByteArray) (ao : Option Addr) (n cap : Nat) (U1 : Int) (U2 : ByteArray) (bo : Option Addr) (m cbp : Nat) (L M : List ((Int × Int) × Int)) (w : World) (hn1000 : L.length ≤ 1000)
    (h1 : GS hopE w (.slice ao n cap) L) (h2 : GS hopE w (.slice bo m cbp) M) :
    Calls Tryz.prog 72 #[.agg #[.int .i64 V1, .string V2, .slice ao n cap], .agg #[.int .i64 U1, .string U2, .slice bo m cbp]] w fun e w' => e = .returned (.bool (faL (V1, V2, L) (U1, U2, M))) ∧ Below w.heap.size w w' := by
  have hn := h1.len
  have hm := h2.len
  obtain ⟨_, _, _, e1, _, _, _, ha⟩ := h1.form
  cases e1
  obtain ⟨_, _, _, e2, _, _, _, hb⟩ := h2.form
  cases e2
  have HN : Hid (L.length = n) := hn
  have HM : Hid (M.length = m) := hm
  have HA : Hid (0 < n → ∃ g o, ao = some ⟨g, o, none⟩ ∧ GAt hopE w g o L ∧ cap ≤ maxLen) := ha
  have HB : Hid (0 < m → ∃ g o, bo = some ⟨g, o, none⟩ ∧ GAt hopE w g o M ∧ cbp ≤ maxLen) := hb
  have hm1000 : n ≤ 1000 := by omega
  have hX := ft2_new w V1 V2 (.slice ao n cap) U1 U2 (.slice bo m cbp)
  obtain ⟨w0, hw0⟩ : ∃ W, (w.alloc (Obj.cells #[.int .i64 V1, .string V2, .slice ao n cap] 77)).alloc (Obj.cells #[.int .i64 U1, .string U2, .slice bo m cbp] 77) = W := ⟨_, rfl⟩
  rw [hw0] at hX
  have HX : Hid (FT2 w w0 V1 V2 (.slice ao n cap) U1 U2 (.slice bo m cbp)) := hX
  have HW0 : Hid ((w.alloc (Obj.cells #[.int .i64 V1, .string V2, .slice ao n cap] 77)).alloc (Obj.cells #[.int .i64 U1, .string U2, .slice bo m cbp] 77) = w0) := hw0
  obtain ⟨R, hR⟩ : ∃ R, R = faL (V1, V2, L) (U1, U2, M) := ⟨_, rfl⟩
  have HR : Hid (R = faL (V1, V2, L) (U1, U2, M)) := hR
  rw [← hR]
  clear hn hm h1 h2 ha hb hX hw0 hn1000 hR
  go_enter Tryz.func72, Tryz.ntmps72
  go_upto_region 1 with fail
  rw [HW0.out]
  clear HW0
  obtain ⟨_, a0, a1, a2, b0, b1, b2⟩ := HX.out
  have HB0 : Hid (Below w.heap.size w w0) := HX.out.below
  by_cases q1 : V1 = U1
  · by_cases q2 : V2 = U2
    · subst q1
      subst q2
      have HRS : Hid (R = lexL hpL L M) := HR.out.trans fa_3
      go_wp2
      clear a0 a1 a2 b0 b1 b2
      go_loopw [5] (fun i wr => ∃ k : Nat, (k ≤ n ∧ k ≤ m) ∧ i = .int .i64 k ∧ R = lexL hpL (L.drop k) (M.drop k) ∧ FT2 w wr V1 V2 (.slice ao n cap) V1 V2 (.slice bo m cbp)) (fun i _ => n - (intOf i).toNat)
      case atStart => exact ⟨0, by omega, rfl, HRS.out, HX.out⟩
      case round =>
        obtain ⟨k, ⟨hk, hk2⟩, rfl, hRk, hF⟩ := hrel
        have HRK : Hid (R = lexL hpL (L.drop k) (M.drop k)) := hRk
        have HF : Hid (FT2 w wr V1 V2 (.slice ao n cap) V1 V2 (.slice bo m cbp)) := hF
        obtain ⟨hB, a0, a1, a2, b0, b1, b2⟩ := hF
        have HBe : Hid (Below w.heap.size w wr) := hB
        clear hRk
        by_cases hlt : k < n
        · by_cases hlm : k < m
          · obtain ⟨g, o, hao, hc, _⟩ := HA.out (by omega)
            subst hao
            obtain ⟨g', o', hbo, hd, _⟩ := HB.out (by omega)
            subst hbo
            obtain ⟨x0, x1, x2, hkl, hLk, c0, c1, c2⟩ := hop_at (hc.later hB) HN.out hlt
            obtain ⟨y0, y1, y2, hkm, hMk, d0, d1, d2⟩ := hop_at (hd.later hB) HM.out hlm
            have HRX : Hid (R = if ((x0, x1), x2) = ((y0, y1), y2) then lexL hpL (L.drop (k + 1)) (M.drop (k + 1)) else hpL ((x0, x1), x2) ((y0, y1), y2)) := by
              show _ = _
              rw [HRK.out, lex_at hkl hkm, hLk, hMk]
            have m1 : g < wr.heap.size := World.block_lt_of_cell? _ _ c0
            have m2 : g' < wr.heap.size := World.block_lt_of_cell? _ _ d0
            have m3 : w.heap.size < wr.heap.size := World.block_lt_of_cell? _ _ a0
            have m4 : w.heap.size + 1 < wr.heap.size := World.block_lt_of_cell? _ _ b0
            have p1 : g' ≠ wr.heap.size := by omega
            have p2 : w.heap.size + 1 ≠ wr.heap.size := by omega
            have p3 : g ≠ wr.heap.size := by omega
            have kb0 : (0 : Int) ≤ (k : Int) := by omega
            have kb1 : (k : Int) < (n : Int) := by omega
            have kb2 : (k : Int) < (m : Int) := by omega
            have dk1 : decide ((k : Int) < (n : Int)) = true := by simp; omega
            have dk2 : decide ((k : Int) < (m : Int)) = true := by simp; omega
            have HBA : Hid (∀ o o2 : Obj, Below wr.heap.size wr ((wr.alloc o).alloc o2)) := fun o o2 => ((Below.refl _ _).alloc (Nat.le_refl _) _).alloc (by simp) _
            clear hc hd hLk hMk hB
            by_cases e0 : x0 = y0
            · by_cases e1 : x1 = y1
              · by_cases e2 : x2 = y2
                · subst e0
                  subst e1
                  subst e2
                  have HRN : Hid (R = lexL hpL (L.drop (k + 1)) (M.drop (k + 1))) := by
                    show _ = _
                    rw [HRX.out, if_pos rfl]
                  go_wp2
                  go_roundw
                  case rel => exact ⟨k + 1, by omega, by go_num, HRN.out, HF.out.later (HBA.out _ _)⟩
                  case measure => simp [intOf]; omega
                · subst e0
                  subst e1
                  have HRN : Hid (R = decide (x2 < y2)) := by
                    show _ = _
                    rw [HRX.out, if_neg (by simp [e2])]
                    simp [hpL, lexP]
                  have de : (x2 == y2) = false := by simpa using e2
                  go_wp2
                  go_ret
                  exact ⟨by rw [HRN.out]; rfl, HBe.out.trans ((HBA.out _ _).mono HBe.out.size)⟩
              · subst e0
                have HRN : Hid (R = decide (x1 < y1)) := by
                  show _ = _
                  rw [HRX.out, if_neg (by simp [e1])]
                  simp [hpL, lexP, e1]
                have de : (x1 == y1) = false := by simpa using e1
                go_wp2
                go_ret
                exact ⟨by rw [HRN.out]; rfl, HBe.out.trans ((HBA.out _ _).mono HBe.out.size)⟩
            · have HRN : Hid (R = decide (x0 < y0)) := by
                show _ = _
                rw [HRX.out, if_neg (by simp [e0])]
                simp [hpL, lexP, e0]
              have de : (x0 == y0) = false := by simpa using e0
              go_wp2
              go_ret
              exact ⟨by rw [HRN.out]; rfl, HBe.out.trans ((HBA.out _ _).mono HBe.out.size)⟩
          · have HRN : Hid (R = decide (n < m)) := by
              show _ = _
              rw [HRK.out, lex_end (by rw [HN.out]; exact hk) (by rw [HM.out]; exact hk2) (.inr (by rw [HM.out]; omega)), HN.out, HM.out]
            have dk1 : decide ((k : Int) < (n : Int)) = true := by simp; omega
            have dk2 : decide ((k : Int) < (m : Int)) = false := by simp; omega
            clear hB
            go_wp2
            go_ret
            exact ⟨by rw [HRN.out]; rfl, HBe.out⟩
        · have HRN : Hid (R = decide (n < m)) := by
            show _ = _
            rw [HRK.out, lex_end (by rw [HN.out]; exact hk) (by rw [HM.out]; exact hk2) (.inl (by rw [HN.out]; omega)), HN.out, HM.out]
          have dk1 : decide ((k : Int) < (n : Int)) = false := by simp; omega
          clear hB
          go_wp2
          go_ret
          exact ⟨by rw [HRN.out]; rfl, HBe.out⟩
    · subst q1
      have HRN : Hid (R = Op.bytesLess V2.toList U2.toList) := HR.out.trans (fa_2 q2)
      have d2 : (V2.toList == U2.toList) = false := by
        cases e : (V2.toList == U2.toList)
        · rfl
        · exact absurd (nm_inj (eq_of_beq e)) q2
      go_wp2
      go_ret
      exact ⟨by rw [HRN.out]; rfl, HB0.out⟩
  · have HRN : Hid (R = decide (V1 < U1)) := HR.out.trans (fa_1 q1)
    have d1 : (V1 == U1) = false := by simpa using q1
    go_wp2
    go_ret
    exact ⟨by rw [HRN.out]; rfl, HB0.out⟩
end Go.Proofs.YtglnnoglbieaeaaGreatDoor
/- What railref2.put answers: a fate more in a list that is sorted, once. A contract for the walks above it. -/
namespace Go.Proofs.YtglnnoglbieaeaaGreatDoor
open Go.RowKit
set_option linter.unusedSimpArgs false
set_option linter.unusedVariables false

theorem fate_zero : (Value.agg #[.int .i64 0, .string ⟨#[]⟩, .slice none 0 0]).cells.size = 3 := by simp [Value.cells]
/-- Appending fates to a row that a call owns. -/
theorem wpList_append_fts (w : World) {ops : Array Oper} {rest : List Oper} {o : Oper} {a : Act} {Q : Exit → Act → World → Prop} (hgd : o.guard = none) (s x : Operand) (t : TypeId)
    (ho : o.op = .call { callee := .builtin .append, args := #[s, x], argTypes := #[t, t] }) (ht : Tryz.prog.underlying t = some (.slice 77)) (base : Nat)
    (v : Value) (hs : a.eval s = v) (L : List (Ft × SlT)) (hown : w.ownsRow base 77 ftE.n v L.length (cellsG ftE L)) (u : Value) (hx : a.eval x = u) (M : List (Ft × SlT)) (hM : GS ftE w u M)
    (h1 : L.length + M.length ≤ 100000000) (hbase : base ≤ w.heap.size)
    (h : ∀ v' w', w'.ownsRow base 77 ftE.n v' (L ++ M).length (cellsG ftE (L ++ M)) → w.grownBy w' v.ownBlock → wpList Tryz.prog ops Q rest (a.put o.dst v') w') : wpList Tryz.prog ops Q (o :: rest) a w := by
  obtain ⟨i0, hi, hz0, hz1, hz2⟩ := info_parts fate_info
  exact wpList_append_GS (E := ftE) w hgd s x t 77 ho ht i0 _ 48 hi hz0 hz1 hz2 fate_zero base v hs L hown u hx M hM (by unfold maxLen; omega) (by omega) hbase h
theorem hid_len {α : Type} {l : List α} {x : α} {k : Nat} (h : l.length = k) : (l ++ [x]).length = k + 1 := by simp [h]
set_option maxHeartbeats 4000000 in
set_option maxRecDepth 100000 in
theorem put_any (ao : Option Addr) (n c : Nat) (y : Ft) (a4 : Option Addr) (n4 c4 : Nat) (L : List Ft) (w : World) (h1 : FTs w (.slice ao n c) L) (h2 : GS hopE w (.slice a4 n4 c4) y.2.2) (hR : Ris faL L) (hs : ∀ x ∈ L, x.2.2.length ≤ 1000) (hy : y.2.2.length ≤ 1000) (hl : L.length ≤ 50000000) (hao : (ao = none ∧ n = 0 ∧ c = 0) ∨ 0 < n) :
    Calls Tryz.prog 44 #[.slice ao n c, .agg #[.int .i64 y.1, .string y.2.1, .slice a4 n4 c4]] w fun e w' => ∃ a5 n5 c5, e = .returned (.slice a5 n5 c5) ∧ FTs w' (.slice a5 n5 c5) (puR faL y L) ∧ 0 < n5 ∧ Below w.heap.size w w' := by
  have hn := h1.len
  obtain ⟨_, _, _, e1, _, hn2, _⟩ := h1.form
  cases e1
  have HX : Hid (L.length = n) := hn
  have HS : Hid (∀ x ∈ L, x.2.2.length ≤ 1000) := hs
  have HY : Hid (y.2.2.length ≤ 1000) := hy
  have HRI : Hid (Ris faL L) := hR
  have HLL : Hid (L.length ≤ 50000000) := hl
  have hn50 : n ≤ 50000000 := by omega
  have hb0 : Below w.heap.size w (w.alloc (Obj.cells #[.int .i64 y.1, .string y.2.1, .slice a4 n4 c4] 77)) := (Below.refl _ _).alloc (Nat.le_refl _) _
  have HA : Hid (∀ W, Below (w.alloc (Obj.cells #[.int .i64 y.1, .string y.2.1, .slice a4 n4 c4] 77)).heap.size (w.alloc (Obj.cells #[.int .i64 y.1, .string y.2.1, .slice a4 n4 c4] 77)) W → FTs W (.slice ao n c) L ∧ GS hopE W (.slice a4 n4 c4) y.2.2 ∧ VAt W w.heap.size 0 [.int .i64 y.1, .string y.2.1, .slice a4 n4 c4]) := fun W hb => ⟨(h1.later hb0).later hb, (h2.later hb0).later hb, (vat_new w [.int .i64 y.1, .string y.2.1, .slice a4 n4 c4] 77).later hb⟩
  obtain ⟨w0, hw0⟩ : ∃ W, w.alloc (Obj.cells #[.int .i64 y.1, .string y.2.1, .slice a4 n4 c4] 77) = W := ⟨_, rfl⟩
  have HW0 : Hid (w.alloc (Obj.cells #[.int .i64 y.1, .string y.2.1, .slice a4 n4 c4] 77) = w0) := hw0
  rw [hw0] at HA hb0
  have HB0 : Hid (Below w.heap.size w w0) := hb0
  unfold maxLen at hn2
  clear hn h1 h2 hs hy hR hl hb0 hw0
  go_enter Tryz.func44, Tryz.ntmps44
  go_upto_block 0 with fail
  rw [HW0.out]
  clear HW0
  go_cut [5] from 10 to 23 (fun i w' => ∃ k : Nat, k ≤ n ∧ i = .int .i64 k ∧ (∀ j x, k ≤ j → L[j]? = some x → faL y x = true) ∧ (∀ x, 0 < k → L[k - 1]? = some x → faL y x = false) ∧ Below w0.heap.size w0 w')
  case first =>
    go_wp2_with fail
    go_loopw [5] (fun i wr => ∃ k : Nat, k ≤ n ∧ i = .int .i64 k ∧ (∀ j x, k ≤ j → L[j]? = some x → faL y x = true) ∧ Below w0.heap.size w0 wr) (fun i _ => (intOf i).toNat)
    case atStart => exact ⟨n, Nat.le_refl _, rfl, fun j x hj hx => by
      have := (List.getElem?_eq_some_iff.1 hx).1
      have := HX.out
      omega, Below.refl _ _⟩
    case round =>
      obtain ⟨k, hk, rfl, hall, hB⟩ := hrel
      have HB : Hid (Below w0.heap.size w0 wr) := hB
      have HALL : Hid (∀ j x, k ≤ j → L[j]? = some x → faL y x = true) := hall
      clear hall
      obtain ⟨hF, hG, hV⟩ := HA.out wr hB
      by_cases hk0 : 0 < k
      · obtain ⟨j, rfl⟩ : ∃ j, k = j + 1 := ⟨k - 1, by omega⟩
        obtain ⟨g, o, x, a3, n3, c3, hao, hx, r0, r1, r2, hG3⟩ := hF.at (k := j) (by omega)
        subst hao
        have HXJ : Hid (L[j]? = some x) := hx
        have HCL : Hid (CHs wr g (o + j * 3) x a3 n3 c3 w.heap.size y a4 n4 c4 wr) := ⟨Below.refl _ _, r0, r1, r2, hV 0 _ rfl, hV 1 _ rfl, hV 2 _ rfl, hG3, hG⟩
        have hsub : IntKind.i64.wrap (((j + 1 : Nat) : Int) - 1) = (j : Int) := by rw [IntKind.wrap_i64]; omega
        have jb0 : (0 : Int) ≤ (j : Int) := by omega
        have jb1 : (j : Int) < (n : Int) := by omega
        have kb0 : decide ((0 : Int) < ((j + 1 : Nat) : Int)) = true := by simp
        obtain ⟨K, hK⟩ : ∃ K, K = j + 1 := ⟨_, rfl⟩
        rw [← hK] at hsub kb0 hk hk0 ⊢
        have HKJ : Hid (K = j + 1) := hK
        obtain ⟨B, hBf⟩ : ∃ B, B = faL y x := ⟨_, rfl⟩
        have HBF : Hid (faL y x = B) := hBf.symm
        have HBF2 : Hid (faL (y.1, y.2.1, y.2.2) (x.1, x.2.1, x.2.2) = B) := hBf.symm
        clear hB hx r0 r1 r2 hG3 hF hG hV hK hBf
        go_upto_region 2 with fail
        go_cut [20] from 10 to 21 (fun q w' => q = .bool B ∧ Below wr.heap.size wr w')
        case first =>
          as_aux_lemma =>
            refine wp_region_quiet (C := CHs wr g (o + j * 3) x a3 n3 c3 w.heap.size y a4 n4 c4) (by kernel_rfl) (by kernel_rfl) (CHs.later (W := wr) (Below.drew (Below.refl _ _)) HCL.out) ?_
            simp only [List.toList_toArray]
            go_big_quiet_want
            refine quiet_val (v := .int .i64 (K : Int)) (fun w' hC => ?_) ?_
            · obtain ⟨z0, z1, z2, z3, z4, z5, z6, z7, z8⟩ := hC
              go_simp
            simp only [Act.put, List.setIfInBounds_toArray, List.set_cons_zero, List.set_cons_succ]
            go_big_quiet_on
            go_big_quiet_want
            refine quiet_val (v := .bool true) (fun w' hC => ?_) ?_
            · obtain ⟨z0, z1, z2, z3, z4, z5, z6, z7, z8⟩ := hC
              go_simp
            simp only [Act.put, List.setIfInBounds_toArray, List.set_cons_zero, List.set_cons_succ]
            go_big_quiet_on
            go_big_quiet_want
            refine quiet_val (v := .bool true) (fun w' hC => ?_) ?_
            · obtain ⟨z0, z1, z2, z3, z4, z5, z6, z7, z8⟩ := hC
              go_simp
            simp only [Act.put, List.setIfInBounds_toArray, List.set_cons_zero, List.set_cons_succ]
            go_big_quiet_on
            go_big_quiet_want
            refine quiet_val (v := .agg #[.int .i64 y.1, .string y.2.1, .slice a4 n4 c4]) (fun w' hC => ?_) ?_
            · obtain ⟨z0, z1, z2, z3, z4, z5, z6, z7, z8⟩ := hC
              go_simp
            simp only [Act.put, List.setIfInBounds_toArray, List.set_cons_zero, List.set_cons_succ]
            go_big_quiet_on
            go_big_quiet_want
            refine quiet_val (v := .slice (some ⟨g, o, none⟩) n c) (fun w' hC => ?_) ?_
            · obtain ⟨z0, z1, z2, z3, z4, z5, z6, z7, z8⟩ := hC
              go_simp
            simp only [Act.put, List.setIfInBounds_toArray, List.set_cons_zero, List.set_cons_succ]
            go_big_quiet_on
            go_big_quiet_want
            refine quiet_val (v := .int .i64 (K : Int)) (fun w' hC => ?_) ?_
            · obtain ⟨z0, z1, z2, z3, z4, z5, z6, z7, z8⟩ := hC
              go_simp
            simp only [Act.put, List.setIfInBounds_toArray, List.set_cons_zero, List.set_cons_succ]
            go_big_quiet_on
            go_big_quiet_want
            refine quiet_val (v := .int .i64 (j : Int)) (fun w' hC => ?_) ?_
            · obtain ⟨z0, z1, z2, z3, z4, z5, z6, z7, z8⟩ := hC
              go_simp
            simp only [Act.put, List.setIfInBounds_toArray, List.set_cons_zero, List.set_cons_succ]
            go_big_quiet_on
            go_big_quiet_want
            refine quiet_val (v := .pointer (some ⟨g, o + j * 3, none⟩)) (fun w' hC => ?_) ?_
            · obtain ⟨z0, z1, z2, z3, z4, z5, z6, z7, z8⟩ := hC
              go_simp
            simp only [Act.put, List.setIfInBounds_toArray, List.set_cons_zero, List.set_cons_succ]
            go_big_quiet_on
            go_big_quiet_want
            refine quiet_val (v := .agg #[.int .i64 x.1, .string x.2.1, .slice a3 n3 c3]) (fun w' hC => ?_) ?_
            · obtain ⟨z0, z1, z2, z3, z4, z5, z6, z7, z8⟩ := hC
              go_simp
            simp only [Act.put, List.setIfInBounds_toArray, List.set_cons_zero, List.set_cons_succ]
            go_big_quiet_on
            go_big_quiet_want
            refine quiet_call (f := 72) (args := #[.agg #[.int .i64 y.1, .string y.2.1, .slice a4 n4 c4], .agg #[.int .i64 x.1, .string x.2.1, .slice a3 n3 c3]]) (v := .bool B) (fun w' => ?_) (fun w' hC => (less_any y.1 y.2.1 a4 n4 c4 x.1 x.2.1 a3 n3 c3 y.2.2 x.2.2 w' HY.out hC.2.2.2.2.2.2.2.2 hC.2.2.2.2.2.2.2.1).mono (fun e w2 h2 => ⟨by rw [h2.1, HBF2.out], CHs.later h2.2 hC⟩)) ?_
            · go_simp
            simp only [Act.put, List.setIfInBounds_toArray, List.set_cons_zero, List.set_cons_succ]
            go_big_quiet_on
            go_big_quiet_want
            refine quiet_val (v := .bool B) (fun w' hC => ?_) ?_
            · obtain ⟨z0, z1, z2, z3, z4, z5, z6, z7, z8⟩ := hC
              go_simp
            simp only [Act.put, List.setIfInBounds_toArray, List.set_cons_zero, List.set_cons_succ]
            go_big_quiet_on
            refine wpQuiet_nil ?_
            intro w' hC
            go_wp2_with fail
            go_meet
            case rel => exact ⟨rfl, hC.1⟩
        case rest =>
          obtain ⟨rfl, hB2⟩ := hcut
          have HB2 : Hid (Below w0.heap.size w0 wc) := HB.out.trans (hB2.mono HB.out.size)
          clear HCL hB2
          cases B with
          | false =>
            have HE : Hid (∀ x, 0 < K → L[K - 1]? = some x → faL y x = false) := fun x' _ hx' => by
              have e : K - 1 = j := by have := HKJ.out; omega
              rw [e, HXJ.out] at hx'
              cases hx'
              exact HBF.out
            go_wp2_with fail
            go_meet
            case rel => exact ⟨K, hk, rfl, fun i x' hi hx' => HALL.out i x' (by have := HKJ.out; omega) hx', HE.out, HB2.out⟩
          | true =>
            have HALL2 : Hid (∀ i x, j ≤ i → L[i]? = some x → faL y x = true) := fun i x' hi hx' => by
              by_cases e : i = j
              · subst e
                rw [HXJ.out] at hx'
                cases hx'
                exact HBF.out
              · exact HALL.out i x' (by have := HKJ.out; omega) hx'
            go_wp2
            go_roundw
            case rel => exact ⟨j, by have := HKJ.out; omega, by first | rfl | (simp only [hsub]), HALL2.out, HB2.out⟩
            case measure => simp [intOf, hsub]; have := HKJ.out; omega
      · obtain rfl : k = 0 := by omega
        have HCL : Hid (Below wr.heap.size wr wr) := Below.refl _ _
        have HE : Hid (∀ x, 0 < 0 → L[0 - 1]? = some x → faL y x = false) := fun x h => absurd h (by omega)
        clear hF hG hV hB
        go_upto_region 2 with fail
        go_cut [20] from 10 to 21 (fun q w' => q = .bool false ∧ Below wr.heap.size wr w')
        case first =>
          as_aux_lemma =>
            refine wp_region_quiet (C := fun W => Below wr.heap.size wr W) (by kernel_rfl) (by kernel_rfl) (Below.drew (Below.refl _ _)) ?_
            simp only [List.toList_toArray]
            go_big_quiet_want
            refine quiet_val (v := .int .i64 0) (fun w' hC => ?_) ?_
            · obtain z0 := hC
              go_simp
            simp only [Act.put, List.setIfInBounds_toArray, List.set_cons_zero, List.set_cons_succ]
            go_big_quiet_on
            go_big_quiet_want
            refine quiet_val (v := .bool false) (fun w' hC => ?_) ?_
            · obtain z0 := hC
              go_simp
            simp only [Act.put, List.setIfInBounds_toArray, List.set_cons_zero, List.set_cons_succ]
            go_big_quiet_on
            go_big_quiet_want
            refine quiet_val (v := .bool false) (fun w' hC => ?_) ?_
            · obtain z0 := hC
              go_simp
            simp only [Act.put, List.setIfInBounds_toArray, List.set_cons_zero, List.set_cons_succ]
            go_big_quiet_on
            go_big_quiet_skip
            go_big_quiet_skip
            go_big_quiet_skip
            go_big_quiet_skip
            go_big_quiet_skip
            go_big_quiet_skip
            go_big_quiet_skip
            go_big_quiet_want
            refine quiet_val (v := .bool false) (fun w' hC => ?_) ?_
            · obtain z0 := hC
              go_simp
            simp only [Act.put, List.setIfInBounds_toArray, List.set_cons_zero, List.set_cons_succ]
            go_big_quiet_on
            refine wpQuiet_nil ?_
            intro w' hC
            go_wp2_with fail
            go_meet
            case rel => exact ⟨rfl, hC⟩
        case rest =>
          obtain ⟨rfl, hB2⟩ := hcut
          have HB2 : Hid (Below w0.heap.size w0 wc) := HB.out.trans (hB2.mono HB.out.size)
          clear HCL hB2
          go_wp2_with fail
          go_meet
          case rel => exact ⟨0, by omega, rfl, HALL.out, HE.out, HB2.out⟩
  case rest =>
    obtain ⟨k, hk, rfl, hall, hend, hB⟩ := hcut
    have HB : Hid (Below w0.heap.size w0 wc) := hB
    have HALL : Hid (∀ j x, k ≤ j → L[j]? = some x → faL y x = true) := hall
    have HEND : Hid (∀ x, 0 < k → L[k - 1]? = some x → faL y x = false) := hend
    obtain ⟨wz, hwz⟩ : ∃ W, W = wc := ⟨wc, rfl⟩
    subst hwz
    clear hall hend
    go_upto_if 24 with fail
    go_cut [6] from 23 to 35 (fun _ w' => (∀ j x, j < k → L[j]? = some x → faL x y = true) ∧ Below wz.heap.size wz w')
    case first =>
      by_cases hk0 : 0 < k
      · obtain ⟨j, hK⟩ : ∃ j, k = j + 1 := ⟨k - 1, by omega⟩
        obtain ⟨hF, hG, hV⟩ := HA.out wz hB
        obtain ⟨g, o, x, a3, n3, c3, hao2, hx, r0, r1, r2, hG3⟩ := hF.at (k := j) (by omega)
        subst hao2
        have HXJ : Hid (L[j]? = some x) := hx
        have HSX : Hid (x.2.2.length ≤ 1000) := HS.out x (List.mem_of_getElem? hx)
        have HCL : Hid (CHs wz g (o + j * 3) x a3 n3 c3 w.heap.size y a4 n4 c4 wz) := ⟨Below.refl _ _, r0, r1, r2, hV 0 _ rfl, hV 1 _ rfl, hV 2 _ rfl, hG3, hG⟩
        have HNF : Hid (faL y x = false) := HEND.out x hk0 (by rw [show k - 1 = j by omega]; exact hx)
        have HFZ : Hid (∀ W, Below wz.heap.size wz W → FTs W (.slice (some ⟨g, o, none⟩) n c) L) := fun W hb => hF.later hb
        have hsub : IntKind.i64.wrap ((k : Int) - 1) = (j : Int) := by rw [IntKind.wrap_i64]; omega
        have jb0 : (0 : Int) ≤ (j : Int) := by omega
        have jb1 : (j : Int) < (n : Int) := by omega
        have kb0 : decide ((0 : Int) < (k : Int)) = true := by simp; omega
        have HKJ : Hid (k = j + 1) := hK
        obtain ⟨B, hBf⟩ : ∃ B, B = faL x y := ⟨_, rfl⟩
        have HBF : Hid (faL x y = B) := hBf.symm
        have HBF2 : Hid (faL (x.1, x.2.1, x.2.2) (y.1, y.2.1, y.2.2) = B) := hBf.symm
        clear hB hx r0 r1 r2 hG3 hF hG hV hK hBf HEND HALL
        go_upto_region 5 with fail
        go_cut [6] from 25 to 33 (fun q w' => q = .bool B ∧ Below wz.heap.size wz w')
        case first =>
          as_aux_lemma =>
            refine wp_region_quiet (C := CHs wz g (o + j * 3) x a3 n3 c3 w.heap.size y a4 n4 c4) (by kernel_rfl) (by kernel_rfl) (CHs.later (W := wz) (Below.drew (Below.refl _ _)) HCL.out) ?_
            simp only [List.toList_toArray]
            go_big_quiet_want
            refine quiet_val (v := .slice (some ⟨g, o, none⟩) n c) (fun w' hC => ?_) ?_
            · obtain ⟨z0, z1, z2, z3, z4, z5, z6, z7, z8⟩ := hC
              go_simp
            simp only [Act.put, List.setIfInBounds_toArray, List.set_cons_zero, List.set_cons_succ]
            go_big_quiet_on
            go_big_quiet_want
            refine quiet_val (v := .int .i64 (k : Int)) (fun w' hC => ?_) ?_
            · obtain ⟨z0, z1, z2, z3, z4, z5, z6, z7, z8⟩ := hC
              go_simp
            simp only [Act.put, List.setIfInBounds_toArray, List.set_cons_zero, List.set_cons_succ]
            go_big_quiet_on
            go_big_quiet_want
            refine quiet_val (v := .int .i64 (j : Int)) (fun w' hC => ?_) ?_
            · obtain ⟨z0, z1, z2, z3, z4, z5, z6, z7, z8⟩ := hC
              go_simp
            simp only [Act.put, List.setIfInBounds_toArray, List.set_cons_zero, List.set_cons_succ]
            go_big_quiet_on
            go_big_quiet_want
            refine quiet_val (v := .pointer (some ⟨g, o + j * 3, none⟩)) (fun w' hC => ?_) ?_
            · obtain ⟨z0, z1, z2, z3, z4, z5, z6, z7, z8⟩ := hC
              go_simp
            simp only [Act.put, List.setIfInBounds_toArray, List.set_cons_zero, List.set_cons_succ]
            go_big_quiet_on
            go_big_quiet_want
            refine quiet_val (v := .agg #[.int .i64 x.1, .string x.2.1, .slice a3 n3 c3]) (fun w' hC => ?_) ?_
            · obtain ⟨z0, z1, z2, z3, z4, z5, z6, z7, z8⟩ := hC
              go_simp
            simp only [Act.put, List.setIfInBounds_toArray, List.set_cons_zero, List.set_cons_succ]
            go_big_quiet_on
            go_big_quiet_want
            refine quiet_val (v := .agg #[.int .i64 y.1, .string y.2.1, .slice a4 n4 c4]) (fun w' hC => ?_) ?_
            · obtain ⟨z0, z1, z2, z3, z4, z5, z6, z7, z8⟩ := hC
              go_simp
            simp only [Act.put, List.setIfInBounds_toArray, List.set_cons_zero, List.set_cons_succ]
            go_big_quiet_on
            go_big_quiet_want
            refine quiet_call (f := 72) (args := #[.agg #[.int .i64 x.1, .string x.2.1, .slice a3 n3 c3], .agg #[.int .i64 y.1, .string y.2.1, .slice a4 n4 c4]]) (v := .bool B) (fun w' => ?_) (fun w' hC => (less_any x.1 x.2.1 a3 n3 c3 y.1 y.2.1 a4 n4 c4 x.2.2 y.2.2 w' HSX.out hC.2.2.2.2.2.2.2.1 hC.2.2.2.2.2.2.2.2).mono (fun e w2 h2 => ⟨by rw [h2.1, HBF2.out], CHs.later h2.2 hC⟩)) ?_
            · go_simp
            simp only [Act.put, List.setIfInBounds_toArray, List.set_cons_zero, List.set_cons_succ]
            go_big_quiet_on
            go_big_quiet_want
            refine quiet_val (v := .bool B) (fun w' hC => ?_) ?_
            · obtain ⟨z0, z1, z2, z3, z4, z5, z6, z7, z8⟩ := hC
              go_simp
            simp only [Act.put, List.setIfInBounds_toArray, List.set_cons_zero, List.set_cons_succ]
            go_big_quiet_on
            refine wpQuiet_nil ?_
            intro w' hC
            go_wp2_with fail
            go_meet
            case rel => exact ⟨rfl, hC.1⟩
        case rest =>
          obtain ⟨rfl, hB2⟩ := hcut
          have HB2 : Hid (Below wz.heap.size wz wc) := hB2
          clear HCL hB2
          cases B with
          | false =>
            have HPU : Hid (puR faL y L = L) := by
              have e : x = y := lo_fate.tot _ _ HBF.out HNF.out
              exact pu_in lo_fate HRI.out (by rw [← e]; exact List.mem_of_getElem? HXJ.out)
            have HFW : Hid (FTs wc (.slice (some ⟨g, o, none⟩) n c) L) := HFZ.out _ HB2.out
            go_wp2
            go_ret
            exact ⟨some ⟨g, o, none⟩, n, c, rfl, by rw [HPU.out]; exact HFW.out, by omega, HB0.out.trans ((HB.out.trans (HB2.out.mono HB.out.size)).mono HB0.out.size)⟩
          | true =>
            have HLT : Hid (∀ i x, i < k → L[i]? = some x → faL x y = true) := fun i x' hi hx' => by
              by_cases e : i = j
              · subst e
                rw [HXJ.out] at hx'
                cases hx'
                exact HBF.out
              · exact lo_fate.tr _ _ _ (ris_lt lo_fate HRI.out (by have := HKJ.out; omega) hx' HXJ.out) HBF.out
            go_wp2_with fail
            go_meet
            case rel => exact ⟨HLT.out, HB2.out⟩
      · obtain rfl : k = 0 := by omega
        clear hB
        go_wp2_with fail
        go_meet
        case rel => exact ⟨fun j x h => absurd h (by omega), Below.refl _ _⟩
    case rest =>
      obtain ⟨hlt, hBc⟩ := hcut
      have hw0c : Below w0.heap.size w0 wc := hB.trans (hBc.mono hB.size)
      have HPU : Hid (puR faL y L = L.take k ++ [y] ++ L.drop k) := pu_at lo_fate HRI.out (by rw [HX.out]; exact hk) HALL.out hlt
      obtain ⟨⟨Z, hZ1, hZ2, hZ3⟩, hG, hV⟩ := HA.out wc hw0c
      have HWC : Hid (Below w.heap.size w wc) := HB0.out.trans (hw0c.mono HB0.out.size)
      have HZ : Hid (GS ftE wc (.slice ao n c) Z ∧ Z.map Prod.fst = L ∧ ∀ z ∈ Z, GS hopE wc (slV z.2) z.1.2.2) := ⟨hZ1, hZ2, hZ3⟩
      have HGY : Hid (GS hopE wc (.slice a4 n4 c4) y.2.2) := hG
      have HVY : Hid (∀ W, Below wc.heap.size wc W → W.cell? ⟨w.heap.size, 0, none⟩ = some (.int .i64 y.1) ∧ W.cell? ⟨w.heap.size, 1, none⟩ = some (.string y.2.1) ∧ W.cell? ⟨w.heap.size, 2, none⟩ = some (.slice a4 n4 c4)) := fun W hb => by
        have q := hV.later hb
        exact ⟨q 0 _ rfl, q 1 _ rfl, q 2 _ rfl⟩
      have hZn : Z.length = n := hZ1.len
      obtain ⟨Z1, hq1⟩ : ∃ q, q = Z.take k := ⟨_, rfl⟩
      obtain ⟨Z2, hq2⟩ : ∃ q, q = Z.drop k := ⟨_, rfl⟩
      have HZ1L : Hid (Z1.length = k) := show Z1.length = k by rw [hq1, List.length_take]; omega
      have HZ2L : Hid (Z2.length = n - k) := show Z2.length = n - k by rw [hq2, List.length_drop]; omega
      have HM1 : Hid (Z1.map Prod.fst = L.take k) := show Z1.map Prod.fst = L.take k by rw [hq1, List.map_take, hZ2]
      have HM2 : Hid (Z2.map Prod.fst = L.drop k) := show Z2.map Prod.fst = L.drop k by rw [hq2, List.map_drop, hZ2]
      have HI1 : Hid (∀ z ∈ Z1, z ∈ Z) := fun z hz => List.mem_of_mem_take (by rw [hq1] at hz; exact hz)
      have HI2 : Hid (∀ z ∈ Z2, z ∈ Z) := fun z hz => List.mem_of_mem_drop (by rw [hq2] at hz; exact hz)
      have HT1 : Hid (GS ftE wc (.slice ao k c) Z1) := show GS ftE wc (.slice ao k c) Z1 by rw [hq1]; exact hZ1.take hk
      have HD : Hid (∀ g o, ao = some ⟨g, o, none⟩ → GS ftE wc (.slice (some ⟨g, o + k * 3, none⟩) (n - k) (c - k)) Z2) := show ∀ g o, ao = some ⟨g, o, none⟩ → GS ftE wc (.slice (some ⟨g, o + k * 3, none⟩) (n - k) (c - k)) Z2 by
        rintro g o rfl
        rw [hq2]
        exact hZ1.drop hk
      clear hB hlt hBc hw0c hZ1 hZ2 hZ3 hG hV HALL HEND HB hq1 hq2 hZn
      obtain ⟨i0, hi, hz0, hz1, hz2⟩ := info_parts fate_info
      cases ao with
      | none =>
        obtain ⟨rfl, rfl⟩ : n = 0 ∧ c = 0 := by
          rcases hao with ⟨_, h⟩ | h
          · exact h
          · rcases HZ.out.1 with ⟨_, _, e, _⟩ | ⟨_, _, _, e, _⟩
            · cases e
              omega
            · cases e
        obtain rfl : k = 0 := by omega
        have HT2 : Hid (GS ftE wc (.slice none 0 0) Z2) := .inl ⟨none, 0, rfl, List.length_eq_zero_iff.1 (by have := HZ2L.out; omega)⟩
        go_upto_region 9 with fail
        go_wp2_with (at_builtin; refine wpList_append_fts _ rfl _ _ 34 rfl Tryz.underlying34 wc.heap.size (.slice none 0 0) rfl [] (World.ownsRow_nil _ _ _ _) _ rfl Z1 ?a1 ?a2 (Nat.le_refl _) ?_)
        case a1 => exact HT1.out
        case a2 => have := HZ1L.out; simp; omega
        intro v1 w1 ho1 hg1
        try rw [List.nil_append] at ho1
        have hb1 : Below wc.heap.size wc w1 := (Below.refl _ wc).grown hg1 (Nat.le_refl _) (fun g hg => by cases hg)
        obtain ⟨a1, c1, hv1⟩ := own_form ho1
        subst hv1
        rw [HZ1L.out] at ho1 ⊢
        have HO1 : Hid (w1.ownsRow wc.heap.size 77 ftE.n (.slice a1 0 c1) 0 (cellsG ftE Z1)) := ho1
        have HB1 : Hid (Below wc.heap.size wc w1) := hb1
        obtain ⟨q0, q1, q2⟩ := HVY.out _ hb1
        clear ho1 hg1 hb1
        go_upto_region 10 with fail
        go_wp2_with (at_builtin; refine wpList_append_blk (E := ftE) _ rfl _ _ 34 77 rfl Tryz.underlying34 i0 (.agg #[.int .i64 0, .string ⟨#[]⟩, .slice none 0 0]) 48 hi hz0 hz1 hz2 fate_zero wc.heap.size (.slice a1 0 c1) rfl Z1 ?m0 w1.heap.size 0 1 rfl (y, (a4, n4, c4)) (vat_new w1 [.int .i64 y.1, .string y.2.1, .slice a4 n4 c4] 77) ?m1 ?m2 ?m3 ?_)
        case m0 => rw [HZ1L.out]; exact HO1.out.alloc _
        case m1 => rw [HZ1L.out]; unfold maxLen; omega
        case m2 => rw [HZ1L.out]; omega
        case m3 => have := HB1.out.size; simp; omega
        intro v2 w2 ho2 hg2 _
        have hb2 : Below wc.heap.size w1 w2 := ((Below.refl _ w1).alloc HB1.out.size _).grown hg2 (by have := HB1.out.size; simp; omega) (fun g hg => (HO1.out.lt g hg).1)
        have HB2 : Hid (Below wc.heap.size wc w2) := HB1.out.trans hb2
        obtain ⟨a2, c2, hv2⟩ := own_form ho2
        subst hv2
        have HL2 : Hid ((Z1 ++ [(y, (a4, n4, c4))]).length = 0 + 1) := hid_len HZ1L.out
        try rw [List.length_append] at ho2 ⊢
        try simp only [List.length_cons, List.length_nil, Nat.zero_add] at ho2 ⊢
        rw [HZ1L.out] at ho2 ⊢
        have HO2 : Hid (w2.ownsRow wc.heap.size 77 ftE.n (.slice a2 (0 + 1) c2) (0 + 1) (cellsG ftE (Z1 ++ [(y, (a4, n4, c4))]))) := ho2
        clear ho2 hg2 hb2 q0 q1 q2
        go_upto_region 11 with fail
        go_wp2_with (at_builtin; refine wpList_append_fts _ rfl _ _ 34 rfl Tryz.underlying34 wc.heap.size (.slice a2 (0 + 1) c2) rfl (Z1 ++ [(y, (a4, n4, c4))]) ?b0 _ rfl Z2 ?b1 ?b2 ?b3 ?_)
        case b0 => rw [HL2.out]; exact HO2.out
        case b1 => exact HT2.out.later HB2.out
        case b2 => rw [HL2.out, HZ2L.out]; omega
        case b3 => exact HB2.out.size
        intro v3 w3 ho3 hg3
        have hb3 : Below wc.heap.size w2 w3 := (Below.refl _ w2).grown hg3 HB2.out.size (fun g hg => (HO2.out.lt g hg).1)
        have HB3 : Hid (Below wc.heap.size wc w3) := HB2.out.trans hb3
        have hG3 : GS ftE w3 v3 (Z1 ++ [(y, (a4, n4, c4))] ++ Z2) := own_GS (by simpa using ho3)
        obtain ⟨a3, n3, c3, hv3, hn3, _⟩ := hG3.form
        subst hv3
        have HG3 : Hid (GS ftE w3 (.slice a3 n3 c3) (Z1 ++ [(y, (a4, n4, c4))] ++ Z2)) := hG3
        have hn30 : 0 < n3 := by rw [← hn3]; simp; omega
        clear ho3 hg3 hb3 hG3 hn3
        go_wp2
        go_ret
        refine ⟨a3, n3, c3, rfl, ⟨_, HG3.out, ?_, ?_⟩, hn30, HWC.out.trans (HB3.out.mono HWC.out.size)⟩
        · rw [HPU.out, List.map_append, List.map_append, HM1.out, HM2.out]
          rfl
        · intro z hz
          rcases List.mem_append.1 hz with hz | hz
          · rcases List.mem_append.1 hz with hz | hz
            · exact (HZ.out.2.2 z (HI1.out z hz)).later HB3.out
            · obtain rfl : z = (y, (a4, n4, c4)) := by simpa using hz
              exact HGY.out.later HB3.out
          · exact (HZ.out.2.2 z (HI2.out z hz)).later HB3.out
      | some ad =>
        obtain ⟨g, o, rfl⟩ : ∃ g o, ad = ⟨g, o, none⟩ := by
          rcases HZ.out.1 with ⟨_, _, e, _⟩ | ⟨_, _, _, e, _⟩
          · cases e
            rcases hao with ⟨h, _⟩ | h
            · cases h
            · omega
          · cases e
            exact ⟨_, _, rfl⟩
        by_cases hck : c = k
        · obtain rfl : n = k := by omega
          obtain rfl : n = c := by omega
          have HT2 : Hid (GS ftE wc (.slice (some ⟨g, o, none⟩) 0 0) Z2) := .inl ⟨_, _, rfl, List.length_eq_zero_iff.1 (by have := HZ2L.out; omega)⟩
          go_upto_region 9 with fail
          go_wp2_with (at_builtin; refine wpList_append_fts _ rfl _ _ 34 rfl Tryz.underlying34 wc.heap.size (.slice none 0 0) rfl [] (World.ownsRow_nil _ _ _ _) _ rfl Z1 ?a1 ?a2 (Nat.le_refl _) ?_)
          case a1 => exact HT1.out
          case a2 => have := HZ1L.out; simp; omega
          intro v1 w1 ho1 hg1
          try rw [List.nil_append] at ho1
          have hb1 : Below wc.heap.size wc w1 := (Below.refl _ wc).grown hg1 (Nat.le_refl _) (fun g hg => by cases hg)
          obtain ⟨a1, c1, hv1⟩ := own_form ho1
          subst hv1
          rw [HZ1L.out] at ho1 ⊢
          have HO1 : Hid (w1.ownsRow wc.heap.size 77 ftE.n (.slice a1 n c1) n (cellsG ftE Z1)) := ho1
          have HB1 : Hid (Below wc.heap.size wc w1) := hb1
          obtain ⟨q0, q1, q2⟩ := HVY.out _ hb1
          clear ho1 hg1 hb1
          go_upto_region 10 with fail
          go_wp2_with (at_builtin; refine wpList_append_blk (E := ftE) _ rfl _ _ 34 77 rfl Tryz.underlying34 i0 (.agg #[.int .i64 0, .string ⟨#[]⟩, .slice none 0 0]) 48 hi hz0 hz1 hz2 fate_zero wc.heap.size (.slice a1 n c1) rfl Z1 ?m0 w1.heap.size 0 1 rfl (y, (a4, n4, c4)) (vat_new w1 [.int .i64 y.1, .string y.2.1, .slice a4 n4 c4] 77) ?m1 ?m2 ?m3 ?_)
          case m0 => rw [HZ1L.out]; exact HO1.out.alloc _
          case m1 => rw [HZ1L.out]; unfold maxLen; omega
          case m2 => rw [HZ1L.out]; omega
          case m3 => have := HB1.out.size; simp; omega
          intro v2 w2 ho2 hg2 _
          have hb2 : Below wc.heap.size w1 w2 := ((Below.refl _ w1).alloc HB1.out.size _).grown hg2 (by have := HB1.out.size; simp; omega) (fun g hg => (HO1.out.lt g hg).1)
          have HB2 : Hid (Below wc.heap.size wc w2) := HB1.out.trans hb2
          obtain ⟨a2, c2, hv2⟩ := own_form ho2
          subst hv2
          have HL2 : Hid ((Z1 ++ [(y, (a4, n4, c4))]).length = n + 1) := hid_len HZ1L.out
          try rw [List.length_append] at ho2 ⊢
          try simp only [List.length_cons, List.length_nil, Nat.zero_add] at ho2 ⊢
          rw [HZ1L.out] at ho2 ⊢
          have HO2 : Hid (w2.ownsRow wc.heap.size 77 ftE.n (.slice a2 (n + 1) c2) (n + 1) (cellsG ftE (Z1 ++ [(y, (a4, n4, c4))]))) := ho2
          clear ho2 hg2 hb2 q0 q1 q2
          go_upto_region 11 with fail
          go_wp2_with (at_builtin; refine wpList_append_fts _ rfl _ _ 34 rfl Tryz.underlying34 wc.heap.size (.slice a2 (n + 1) c2) rfl (Z1 ++ [(y, (a4, n4, c4))]) ?b0 _ rfl Z2 ?b1 ?b2 ?b3 ?_)
          case b0 => rw [HL2.out]; exact HO2.out
          case b1 => exact HT2.out.later HB2.out
          case b2 => rw [HL2.out, HZ2L.out]; omega
          case b3 => exact HB2.out.size
          intro v3 w3 ho3 hg3
          have hb3 : Below wc.heap.size w2 w3 := (Below.refl _ w2).grown hg3 HB2.out.size (fun g hg => (HO2.out.lt g hg).1)
          have HB3 : Hid (Below wc.heap.size wc w3) := HB2.out.trans hb3
          have hG3 : GS ftE w3 v3 (Z1 ++ [(y, (a4, n4, c4))] ++ Z2) := own_GS (by simpa using ho3)
          obtain ⟨a3, n3, c3, hv3, hn3, _⟩ := hG3.form
          subst hv3
          have HG3 : Hid (GS ftE w3 (.slice a3 n3 c3) (Z1 ++ [(y, (a4, n4, c4))] ++ Z2)) := hG3
          have hn30 : 0 < n3 := by rw [← hn3]; simp; omega
          clear ho3 hg3 hb3 hG3 hn3
          go_wp2
          go_ret
          refine ⟨a3, n3, c3, rfl, ⟨_, HG3.out, ?_, ?_⟩, hn30, HWC.out.trans (HB3.out.mono HWC.out.size)⟩
          · rw [HPU.out, List.map_append, List.map_append, HM1.out, HM2.out]
            rfl
          · intro z hz
            rcases List.mem_append.1 hz with hz | hz
            · rcases List.mem_append.1 hz with hz | hz
              · exact (HZ.out.2.2 z (HI1.out z hz)).later HB3.out
              · obtain rfl : z = (y, (a4, n4, c4)) := by simpa using hz
                exact HGY.out.later HB3.out
            · exact (HZ.out.2.2 z (HI2.out z hz)).later HB3.out
        · have HT2 : Hid (GS ftE wc (.slice (some ⟨g, o + k * 3, none⟩) (n - k) (c - k)) Z2) := HD.out g o rfl
          go_upto_region 9 with fail
          go_wp2_with (at_builtin; refine wpList_append_fts _ rfl _ _ 34 rfl Tryz.underlying34 wc.heap.size (.slice none 0 0) rfl [] (World.ownsRow_nil _ _ _ _) _ rfl Z1 ?a1 ?a2 (Nat.le_refl _) ?_)
          case a1 => exact HT1.out
          case a2 => have := HZ1L.out; simp; omega
          intro v1 w1 ho1 hg1
          try rw [List.nil_append] at ho1
          have hb1 : Below wc.heap.size wc w1 := (Below.refl _ wc).grown hg1 (Nat.le_refl _) (fun g hg => by cases hg)
          obtain ⟨a1, c1, hv1⟩ := own_form ho1
          subst hv1
          rw [HZ1L.out] at ho1 ⊢
          have HO1 : Hid (w1.ownsRow wc.heap.size 77 ftE.n (.slice a1 k c1) k (cellsG ftE Z1)) := ho1
          have HB1 : Hid (Below wc.heap.size wc w1) := hb1
          obtain ⟨q0, q1, q2⟩ := HVY.out _ hb1
          clear ho1 hg1 hb1
          go_upto_region 10 with fail
          go_wp2_with (at_builtin; refine wpList_append_blk (E := ftE) _ rfl _ _ 34 77 rfl Tryz.underlying34 i0 (.agg #[.int .i64 0, .string ⟨#[]⟩, .slice none 0 0]) 48 hi hz0 hz1 hz2 fate_zero wc.heap.size (.slice a1 k c1) rfl Z1 ?m0 w1.heap.size 0 1 rfl (y, (a4, n4, c4)) (vat_new w1 [.int .i64 y.1, .string y.2.1, .slice a4 n4 c4] 77) ?m1 ?m2 ?m3 ?_)
          case m0 => rw [HZ1L.out]; exact HO1.out.alloc _
          case m1 => rw [HZ1L.out]; unfold maxLen; omega
          case m2 => rw [HZ1L.out]; omega
          case m3 => have := HB1.out.size; simp; omega
          intro v2 w2 ho2 hg2 _
          have hb2 : Below wc.heap.size w1 w2 := ((Below.refl _ w1).alloc HB1.out.size _).grown hg2 (by have := HB1.out.size; simp; omega) (fun g hg => (HO1.out.lt g hg).1)
          have HB2 : Hid (Below wc.heap.size wc w2) := HB1.out.trans hb2
          obtain ⟨a2, c2, hv2⟩ := own_form ho2
          subst hv2
          have HL2 : Hid ((Z1 ++ [(y, (a4, n4, c4))]).length = k + 1) := hid_len HZ1L.out
          try rw [List.length_append] at ho2 ⊢
          try simp only [List.length_cons, List.length_nil, Nat.zero_add] at ho2 ⊢
          rw [HZ1L.out] at ho2 ⊢
          have HO2 : Hid (w2.ownsRow wc.heap.size 77 ftE.n (.slice a2 (k + 1) c2) (k + 1) (cellsG ftE (Z1 ++ [(y, (a4, n4, c4))]))) := ho2
          clear ho2 hg2 hb2 q0 q1 q2
          go_upto_region 11 with fail
          go_wp2_with (at_builtin; refine wpList_append_fts _ rfl _ _ 34 rfl Tryz.underlying34 wc.heap.size (.slice a2 (k + 1) c2) rfl (Z1 ++ [(y, (a4, n4, c4))]) ?b0 _ rfl Z2 ?b1 ?b2 ?b3 ?_)
          case b0 => rw [HL2.out]; exact HO2.out
          case b1 => exact HT2.out.later HB2.out
          case b2 => rw [HL2.out, HZ2L.out]; omega
          case b3 => exact HB2.out.size
          intro v3 w3 ho3 hg3
          have hb3 : Below wc.heap.size w2 w3 := (Below.refl _ w2).grown hg3 HB2.out.size (fun g hg => (HO2.out.lt g hg).1)
          have HB3 : Hid (Below wc.heap.size wc w3) := HB2.out.trans hb3
          have hG3 : GS ftE w3 v3 (Z1 ++ [(y, (a4, n4, c4))] ++ Z2) := own_GS (by simpa using ho3)
          obtain ⟨a3, n3, c3, hv3, hn3, _⟩ := hG3.form
          subst hv3
          have HG3 : Hid (GS ftE w3 (.slice a3 n3 c3) (Z1 ++ [(y, (a4, n4, c4))] ++ Z2)) := hG3
          have hn30 : 0 < n3 := by rw [← hn3]; simp; omega
          clear ho3 hg3 hb3 hG3 hn3
          go_wp2
          go_ret
          refine ⟨a3, n3, c3, rfl, ⟨_, HG3.out, ?_, ?_⟩, hn30, HWC.out.trans (HB3.out.mono HWC.out.size)⟩
          · rw [HPU.out, List.map_append, List.map_append, HM1.out, HM2.out]
            rfl
          · intro z hz
            rcases List.mem_append.1 hz with hz | hz
            · rcases List.mem_append.1 hz with hz | hz
              · exact (HZ.out.2.2 z (HI1.out z hz)).later HB3.out
              · obtain rfl : z = (y, (a4, n4, c4)) := by simpa using hz
                exact HGY.out.later HB3.out
            · exact (HZ.out.2.2 z (HI2.out z hz)).later HB3.out
end Go.Proofs.YtglnnoglbieaeaaGreatDoor
/- What the document's own in and Do answer: a change of a table that is right. -/
namespace Go.Proofs.YtglnnoglbieaeaaGreatDoor
open Go.RowKit
set_option linter.unusedSimpArgs false
set_option linter.unusedVariables false

theorem eqR_sy (a b : Ru) : eqR a b = eqR b a := by
  cases h : eqR b a
  · exact eq_no.2 (fun e => (eq_no.1 h) e.symm)
  · exact eq_R.2 (eq_R.1 h).symm
set_option maxHeartbeats 2000000 in
set_option maxRecDepth 100000 in
theorem refIn_any (ao : Option Addr) (n cap : Nat) (p m b o s v : Int) (L : List Ru) (w : World) (hs : SR w (.slice ao n cap) L) :
    Calls Tryz.prog 73 #[.slice ao n cap, .agg #[.int .i64 p, .int .i64 m, .int .i64 b, .int .i64 o, .int .i64 s, .int .i64 v]] w fun e w' => e = .returned (.bool (inB L ⟨p, m, b, o, s, v⟩)) ∧ Below w.heap.size w w' := by
  obtain ⟨ao', n', cap', e, hn, hn2, hn3, ha⟩ := hs.form
  cases e
  have HN : Hid (L.length = n) := hn
  have HA : Hid (0 < n → ∃ g o, ao = some ⟨g, o, none⟩ ∧ RAt w g o L ∧ cap ≤ maxLen) := ha
  have HC0 := C6.new w p m b o s v 66
  have HB0 : Hid (Below w.heap.size w (w.alloc (Obj.cells #[Value.int IntKind.i64 p, Value.int IntKind.i64 m, Value.int IntKind.i64 b, Value.int IntKind.i64 o, Value.int IntKind.i64 s, Value.int IntKind.i64 v] 66))) := (Below.refl _ _).alloc (Nat.le_refl _) _
  unfold maxLen at hn2
  clear hn ha hs
  go_enter Tryz.func73, Tryz.ntmps73
  go_wp2
  go_loopw [5] (fun i wr => ∃ k : Nat, k ≤ n ∧ i = .int .i64 k ∧ (L.take k).any (fun a => eqR ⟨p, m, b, o, s, v⟩ a) = false ∧ Below w.heap.size w wr ∧ C6 wr w.heap.size 0 ⟨p, m, b, o, s, v⟩)
    (fun i _ => n - (intOf i).toNat)
  case atStart => exact ⟨0, by omega, rfl, by simp, HB0.out, HC0⟩
  case round =>
    obtain ⟨k, hk, rfl, hno, hB, hC⟩ := hrel
    have HB : Hid (Below w.heap.size w wr) := hB
    have HC : Hid (C6 wr w.heap.size 0 ⟨p, m, b, o, s, v⟩) := hC
    have HNO : Hid ((L.take k).any (fun a => eqR ⟨p, m, b, o, s, v⟩ a) = false) := hno
    clear hno HC0 HB0
    by_cases hlt : k < n
    · obtain ⟨g, og, hao, hc, _⟩ := HA.out (by omega)
      subst hao
      obtain ⟨p', m', b', o', s', v', hkl, hL, q0, q1, q2, q3, q4, q5⟩ := (hc.later hB).at HN.out hlt
      have HL : Hid (L[k] = ⟨p', m', b', o', s', v'⟩) := hL
      obtain ⟨r0, r1, r2, r3, r4, r5⟩ := hC
      simp only [Nat.zero_add] at r0 r1 r2 r3 r4 r5
      have HCE : Hid (CI wr w.heap.size p m b o s v g (og + k * 6) p' m' b' o' s' v' wr) := ⟨Below.refl _ _, ⟨r0, r1, r2, r3, r4, r5⟩, q0, q1, q2, q3, q4, q5⟩
      clear hL hB HA q0 q1 q2 q3 q4 q5 r0 r1 r2 r3 r4 r5
      go_upto_region 4 with fail
      have kb0 : (0 : Int) ≤ (k : Int) := by omega
      have kb1 : (k : Int) < (n : Int) := by omega
      go_cut [17] from 6 to 17 (fun c w' => c = .bool (eqR ⟨p', m', b', o', s', v'⟩ ⟨p, m, b, o, s, v⟩) ∧ Below wr.heap.size wr w')
      case first =>
        as_aux_lemma =>
          refine wp_region_quiet (C := CI wr w.heap.size p m b o s v g (og + k * 6) p' m' b' o' s' v') (by kernel_rfl) (by kernel_rfl) (CI.later (W := wr) (Below.drew (Below.refl _ _)) HCE.out) ?_
          simp only [List.toList_toArray]
          go_big_quiet_want
          refine quiet_val (v := .slice (some ⟨g, og, none⟩) n cap) (fun w' hC => ?_) ?_
          · obtain ⟨z0, ⟨z1, z2, z3, z4, z5, z6⟩, y1, y2, y3, y4, y5, y6⟩ := hC
            go_simp
          simp only [Act.put, List.setIfInBounds_toArray, List.set_cons_zero, List.set_cons_succ]
          go_big_quiet_on
          go_big_quiet_want
          refine quiet_val (v := .int .i64 (k : Int)) (fun w' hC => ?_) ?_
          · obtain ⟨z0, ⟨z1, z2, z3, z4, z5, z6⟩, y1, y2, y3, y4, y5, y6⟩ := hC
            go_simp
          simp only [Act.put, List.setIfInBounds_toArray, List.set_cons_zero, List.set_cons_succ]
          go_big_quiet_on
          go_big_quiet_want
          refine quiet_val (v := .pointer (some ⟨g, og + k * 6, none⟩)) (fun w' hC => ?_) ?_
          · obtain ⟨z0, ⟨z1, z2, z3, z4, z5, z6⟩, y1, y2, y3, y4, y5, y6⟩ := hC
            go_simp
          simp only [Act.put, List.setIfInBounds_toArray, List.set_cons_zero, List.set_cons_succ]
          go_big_quiet_on
          go_big_quiet_want
          refine quiet_val (v := .agg #[.int .i64 p', .int .i64 m', .int .i64 b', .int .i64 o', .int .i64 s', .int .i64 v']) (fun w' hC => ?_) ?_
          · obtain ⟨z0, ⟨z1, z2, z3, z4, z5, z6⟩, y1, y2, y3, y4, y5, y6⟩ := hC
            go_simp
          simp only [Act.put, List.setIfInBounds_toArray, List.set_cons_zero, List.set_cons_succ]
          go_big_quiet_on
          go_big_quiet_want
          refine quiet_val (v := .agg #[.int .i64 p, .int .i64 m, .int .i64 b, .int .i64 o, .int .i64 s, .int .i64 v]) (fun w' hC => ?_) ?_
          · obtain ⟨z0, ⟨z1, z2, z3, z4, z5, z6⟩, y1, y2, y3, y4, y5, y6⟩ := hC
            go_simp
          simp only [Act.put, List.setIfInBounds_toArray, List.set_cons_zero, List.set_cons_succ]
          go_big_quiet_on
          go_big_quiet_want
          refine quiet_val (v := .bool (eqR ⟨p', m', b', o', s', v'⟩ ⟨p, m, b, o, s, v⟩)) (fun w' hC => exec_bin rfl (by go_simp) (run_eqlR p' m' b' o' s' v' p m b o s v w')) ?_
          simp only [Act.put, List.setIfInBounds_toArray, List.set_cons_zero, List.set_cons_succ]
          go_big_quiet_on
          refine wpQuiet_nil ?_
          intro w' hC
          go_wp2_with fail
          go_meet
          case rel => exact ⟨rfl, hC.1⟩
      case rest =>
        obtain ⟨rfl, hB2⟩ := hcut
        have HB2 : Hid (Below w.heap.size w wc) := HB.out.trans (hB2.mono HB.out.size)
        have HC2 : Hid (C6 wc w.heap.size 0 ⟨p, m, b, o, s, v⟩) := HC.out.later hB2
        clear hB2
        cases ho : eqR ⟨p', m', b', o', s', v'⟩ ⟨p, m, b, o, s, v⟩
        · go_wp2
          go_roundw
          case rel => exact ⟨k + 1, by omega, by go_num, any_nextR hkl HNO.out (by rw [HL.out, eqR_sy]; exact ho), HB2.out, HC2.out⟩
          case measure => simp [intOf]; omega
        · go_wp2
          go_ret
          exact ⟨by rw [inB, any_hitR hkl (by rw [HL.out, eqR_sy]; exact ho)]; rfl, HB2.out⟩
    · obtain rfl : k = n := by omega
      go_wp2
      go_ret
      exact ⟨by have := HNO.out; rw [← HN.out, List.take_length] at this; rw [inB, this]; rfl, HB.out⟩

/-- Where a rule stands among the first k, or -1. -/
def atTo (L : List Ru) (r : Ru) (k : Nat) : Int := if inB (L.take k) r then (ixN L r : Int) else -1
theorem at_0 (L : List Ru) (r : Ru) : atTo L r 0 = -1 := by simp [atTo, inB]
theorem at_no {L : List Ru} {r x : Ru} {k : Nat} (hk : k < L.length) (hx : L[k] = x) (h : eqR x r = false) : atTo L r (k + 1) = atTo L r k := by
  have e : inB (L.take (k + 1)) r = inB (L.take k) r := by
    rw [List.take_succ_eq_append_getElem hk, hx]
    simp [inB, eqR_sy r x, h]
  rw [atTo, atTo, e]
theorem at_yes {L : List Ru} {r x : Ru} {k : Nat} (hk : k < L.length) (hx : L[k] = x) (hL : tbN L = 0) (h : eqR x r = true) : atTo L r (k + 1) = (k : Int) := by
  obtain rfl := eq_R.1 h
  have e : inB (L.take (k + 1)) x = true := in_iff.2 (by rw [List.take_succ_eq_append_getElem hk, hx]; simp)
  have hn := tb_nodup hL
  have hsp : L = L.take k ++ x :: L.drop (k + 1) := by
    rw [← hx]
    simp
  have hno : x ∉ L.take k := by
    intro hm
    rw [hsp, List.nodup_append] at hn
    exact hn.2.2 x hm x (by simp) rfl
  rw [atTo, e, if_pos rfl]
  have := ix_split (M := L.drop (k + 1)) hno
  rw [← hsp] at this
  rw [this, List.length_take]
  omega
theorem key_of_eq {a b : Ru} (h : keyB a b = false) : eqR a b = false := by
  cases e : eqR a b
  · rfl
  · rw [eq_R.1 e, key_rf] at h; cases h
theorem at_all {L : List Ru} {r : Ru} : atTo L r L.length = if inB L r then (ixN L r : Int) else -1 := by rw [atTo, List.take_length]
theorem any_step {L : List Ru} {f : Ru → Bool} {k : Nat} {x : Ru} (hk : k < L.length) (hx : L[k] = x) : (L.take (k + 1)).any f = ((L.take k).any f || f x) := by
  rw [List.take_succ_eq_append_getElem hk, hx]
  simp
theorem SR.later' {w w' : World} {v : Value} {L : List Ru} (h : SR w v L) (hb : Below w.heap.size w w') : SR w' v L := h.later hb
theorem append_le {L : List Ru} {n : Nat} (h : L.length = n) (h2 : tbN L = 0) : n ≤ 12 := by
  have := (tb_iff.1 h2).1
  omega
set_option maxHeartbeats 4000000 in
set_option maxRecDepth 100000 in
theorem refDo_any (ao : Option Addr) (n cap : Nat) (a : Bool) (p m b o s v : Int) (L : List Ru) (w : World) (hs : SR w (.slice ao n cap) L) (h0 : tbN L = 0) :
    Calls Tryz.prog 21 #[.slice ao n cap, .bool a, .agg #[.int .i64 p, .int .i64 m, .int .i64 b, .int .i64 o, .int .i64 s, .int .i64 v]] w fun e w' => ∃ u, e = .returned (.tuple #[u, .int .i64 (chN L a ⟨p, m, b, o, s, v⟩)]) ∧ NR w' w.heap.size u (chL L a ⟨p, m, b, o, s, v⟩) ∧ Below w.heap.size w w' := by
  obtain ⟨ao', n', cap', e, hn, hn2, hn3, ha⟩ := hs.form
  cases e
  have HN : Hid (L.length = n) := hn
  have HA : Hid (0 < n → ∃ g o, ao = some ⟨g, o, none⟩ ∧ RAt w g o L ∧ cap ≤ maxLen) := ha
  have H0 : Hid (tbN L = 0) := h0
  have HS : Hid (SR w (.slice ao n cap) L) := hs
  have hn12 := append_le hn h0
  have HC0 := C6.new w p m b o s v 66
  have HB0 : Hid (Below w.heap.size w (w.alloc (Obj.cells #[Value.int IntKind.i64 p, Value.int IntKind.i64 m, Value.int IntKind.i64 b, Value.int IntKind.i64 o, Value.int IntKind.i64 s, Value.int IntKind.i64 v] 66))) := (Below.refl _ _).alloc (Nat.le_refl _) _
  clear hn ha hs hn2 h0
  go_enter Tryz.func21, Tryz.ntmps21
  go_wp2
  go_loopw [8, 9, 10] (fun x y i wr => ∃ k : Nat, k ≤ n ∧ i = .int .i64 k ∧ x = .int .i64 (atTo L ⟨p, m, b, o, s, v⟩ k) ∧ y = .bool ((L.take k).any fun a => keyB a ⟨p, m, b, o, s, v⟩) ∧ Below w.heap.size w wr ∧ C6 wr w.heap.size 0 ⟨p, m, b, o, s, v⟩)
    (fun x y i _ => n - (intOf i).toNat)
  case atStart => exact ⟨0, by omega, rfl, by rw [at_0], by simp, HB0.out, HC0⟩
  case round =>
    obtain ⟨k, hk, rfl, rfl, rfl, hB, hC⟩ := hrel
    have HB : Hid (Below w.heap.size w wr) := hB
    have HC : Hid (C6 wr w.heap.size 0 ⟨p, m, b, o, s, v⟩) := hC
    clear HC0 HB0
    by_cases hlt : k < n
    · obtain ⟨g, og, hao, hc, _⟩ := HA.out (by omega)
      subst hao
      obtain ⟨p', m', b', o', s', v', hkl, hL, q0, q1, q2, q3, q4, q5⟩ := (hc.later hB).at HN.out hlt
      have HL : Hid (L[k] = ⟨p', m', b', o', s', v'⟩) := hL
      obtain ⟨r0, r1, r2, r3, r4, r5⟩ := hC
      simp only [Nat.zero_add] at r0 r1 r2 r3 r4 r5
      have HCE : Hid (CI wr w.heap.size p m b o s v g (og + k * 6) p' m' b' o' s' v' wr) := ⟨Below.refl _ _, ⟨r0, r1, r2, r3, r4, r5⟩, q0, q1, q2, q3, q4, q5⟩
      obtain ⟨X, hX⟩ : ∃ X, X = atTo L ⟨p, m, b, o, s, v⟩ k := ⟨_, rfl⟩
      obtain ⟨Y, hY⟩ : ∃ Y, Y = ((L.take k).any fun a => keyB a ⟨p, m, b, o, s, v⟩) := ⟨_, rfl⟩
      have HX : Hid (X = atTo L ⟨p, m, b, o, s, v⟩ k) := hX
      have HY : Hid (Y = ((L.take k).any fun a => keyB a ⟨p, m, b, o, s, v⟩)) := hY
      rw [← hX, ← hY]
      clear hX hY hL hB HA q0 q1 q2 q3 q4 q5 r0 r1 r2 r3 r4 r5
      go_upto_region 6 with fail
      have kb0 : (0 : Int) ≤ (k : Int) := by omega
      have kb1 : (k : Int) < (n : Int) := by omega
      go_cut [35] from 12 to 42 (fun c w' => c = .bool (keyB ⟨p', m', b', o', s', v'⟩ ⟨p, m, b, o, s, v⟩) ∧ Below wr.heap.size wr w')
      case first =>
        as_aux_lemma =>
          by_cases e1 : p' = p
          · have f1 : (p' == p) = true := by simpa using e1
            by_cases e2 : m' = m
            · have f2 : (m' == m) = true := by simpa using e2
              by_cases e3 : b' = b
              · have f3 : (b' == b) = true := by simpa using e3
                have hky : keyB ⟨p', m', b', o', s', v'⟩ ⟨p, m, b, o, s, v⟩ = true := by rw [key_eq]; simp [e1, e2, e3]
                clear e1 e2 e3
                refine wp_region_quiet (C := CI wr w.heap.size p m b o s v g (og + k * 6) p' m' b' o' s' v') (by kernel_rfl) (by kernel_rfl) (CI.later (W := wr) (Below.drew (Below.refl _ _)) HCE.out) ?_
                simp only [List.toList_toArray]
                go_big_quiet_want
                refine quiet_val (v := .slice (some ⟨g, og, none⟩) n cap) (fun w' hC => ?_) ?_
                · obtain ⟨z0, ⟨z1, z2, z3, z4, z5, z6⟩, y1, y2, y3, y4, y5, y6⟩ := hC
                  go_simp
                simp only [Act.put, List.setIfInBounds_toArray, List.set_cons_zero, List.set_cons_succ]
                go_big_quiet_on
                go_big_quiet_want
                refine quiet_val (v := .int .i64 (k : Int)) (fun w' hC => ?_) ?_
                · obtain ⟨z0, ⟨z1, z2, z3, z4, z5, z6⟩, y1, y2, y3, y4, y5, y6⟩ := hC
                  go_simp
                simp only [Act.put, List.setIfInBounds_toArray, List.set_cons_zero, List.set_cons_succ]
                go_big_quiet_on
                go_big_quiet_want
                refine quiet_val (v := .pointer (some ⟨g, og + k * 6, none⟩)) (fun w' hC => ?_) ?_
                · obtain ⟨z0, ⟨z1, z2, z3, z4, z5, z6⟩, y1, y2, y3, y4, y5, y6⟩ := hC
                  go_simp
                simp only [Act.put, List.setIfInBounds_toArray, List.set_cons_zero, List.set_cons_succ]
                go_big_quiet_on
                go_big_quiet_want
                refine quiet_val (v := .pointer (some ⟨g, og + k * 6, none⟩)) (fun w' hC => ?_) ?_
                · obtain ⟨z0, ⟨z1, z2, z3, z4, z5, z6⟩, y1, y2, y3, y4, y5, y6⟩ := hC
                  go_simp
                simp only [Act.put, List.setIfInBounds_toArray, List.set_cons_zero, List.set_cons_succ]
                go_big_quiet_on
                go_big_quiet_want
                refine quiet_val (v := .int .i64 p') (fun w' hC => ?_) ?_
                · obtain ⟨z0, ⟨z1, z2, z3, z4, z5, z6⟩, y1, y2, y3, y4, y5, y6⟩ := hC
                  go_simp
                simp only [Act.put, List.setIfInBounds_toArray, List.set_cons_zero, List.set_cons_succ]
                go_big_quiet_on
                go_big_quiet_want
                refine quiet_val (v := .pointer (some ⟨w.heap.size, 0, none⟩)) (fun w' hC => ?_) ?_
                · obtain ⟨z0, ⟨z1, z2, z3, z4, z5, z6⟩, y1, y2, y3, y4, y5, y6⟩ := hC
                  go_simp
                simp only [Act.put, List.setIfInBounds_toArray, List.set_cons_zero, List.set_cons_succ]
                go_big_quiet_on
                go_big_quiet_want
                refine quiet_val (v := .int .i64 p) (fun w' hC => ?_) ?_
                · obtain ⟨z0, ⟨z1, z2, z3, z4, z5, z6⟩, y1, y2, y3, y4, y5, y6⟩ := hC
                  go_simp
                simp only [Act.put, List.setIfInBounds_toArray, List.set_cons_zero, List.set_cons_succ]
                go_big_quiet_on
                go_big_quiet_want
                refine quiet_val (v := .bool true) (fun w' hC => ?_) ?_
                · obtain ⟨z0, ⟨z1, z2, z3, z4, z5, z6⟩, y1, y2, y3, y4, y5, y6⟩ := hC
                  go_simp
                simp only [Act.put, List.setIfInBounds_toArray, List.set_cons_zero, List.set_cons_succ]
                go_big_quiet_on
                go_big_quiet_want
                refine quiet_val (v := .bool true) (fun w' hC => ?_) ?_
                · obtain ⟨z0, ⟨z1, z2, z3, z4, z5, z6⟩, y1, y2, y3, y4, y5, y6⟩ := hC
                  go_simp
                simp only [Act.put, List.setIfInBounds_toArray, List.set_cons_zero, List.set_cons_succ]
                go_big_quiet_on
                go_big_quiet_want
                refine quiet_val (v := .slice (some ⟨g, og, none⟩) n cap) (fun w' hC => ?_) ?_
                · obtain ⟨z0, ⟨z1, z2, z3, z4, z5, z6⟩, y1, y2, y3, y4, y5, y6⟩ := hC
                  go_simp
                simp only [Act.put, List.setIfInBounds_toArray, List.set_cons_zero, List.set_cons_succ]
                go_big_quiet_on
                go_big_quiet_want
                refine quiet_val (v := .int .i64 (k : Int)) (fun w' hC => ?_) ?_
                · obtain ⟨z0, ⟨z1, z2, z3, z4, z5, z6⟩, y1, y2, y3, y4, y5, y6⟩ := hC
                  go_simp
                simp only [Act.put, List.setIfInBounds_toArray, List.set_cons_zero, List.set_cons_succ]
                go_big_quiet_on
                go_big_quiet_want
                refine quiet_val (v := .pointer (some ⟨g, og + k * 6, none⟩)) (fun w' hC => ?_) ?_
                · obtain ⟨z0, ⟨z1, z2, z3, z4, z5, z6⟩, y1, y2, y3, y4, y5, y6⟩ := hC
                  go_simp
                simp only [Act.put, List.setIfInBounds_toArray, List.set_cons_zero, List.set_cons_succ]
                go_big_quiet_on
                go_big_quiet_want
                refine quiet_val (v := .pointer (some ⟨g, og + k * 6 + 1, none⟩)) (fun w' hC => ?_) ?_
                · obtain ⟨z0, ⟨z1, z2, z3, z4, z5, z6⟩, y1, y2, y3, y4, y5, y6⟩ := hC
                  go_simp
                simp only [Act.put, List.setIfInBounds_toArray, List.set_cons_zero, List.set_cons_succ]
                go_big_quiet_on
                go_big_quiet_want
                refine quiet_val (v := .agg #[.int .i64 m', .int .i64 b']) (fun w' hC => ?_) ?_
                · obtain ⟨z0, ⟨z1, z2, z3, z4, z5, z6⟩, y1, y2, y3, y4, y5, y6⟩ := hC
                  go_simp
                simp only [Act.put, List.setIfInBounds_toArray, List.set_cons_zero, List.set_cons_succ]
                go_big_quiet_on
                go_big_quiet_want
                refine quiet_val (v := .pointer (some ⟨w.heap.size, 1, none⟩)) (fun w' hC => ?_) ?_
                · obtain ⟨z0, ⟨z1, z2, z3, z4, z5, z6⟩, y1, y2, y3, y4, y5, y6⟩ := hC
                  go_simp
                simp only [Act.put, List.setIfInBounds_toArray, List.set_cons_zero, List.set_cons_succ]
                go_big_quiet_on
                go_big_quiet_want
                refine quiet_val (v := .agg #[.int .i64 m, .int .i64 b]) (fun w' hC => ?_) ?_
                · obtain ⟨z0, ⟨z1, z2, z3, z4, z5, z6⟩, y1, y2, y3, y4, y5, y6⟩ := hC
                  go_simp
                simp only [Act.put, List.setIfInBounds_toArray, List.set_cons_zero, List.set_cons_succ]
                go_big_quiet_on
                go_big_quiet_want
                refine quiet_val (v := .bool true) (fun w' hC => ?_) ?_
                · obtain ⟨z0, ⟨z1, z2, z3, z4, z5, z6⟩, y1, y2, y3, y4, y5, y6⟩ := hC
                  go_simp
                simp only [Act.put, List.setIfInBounds_toArray, List.set_cons_zero, List.set_cons_succ]
                go_big_quiet_on
                go_big_quiet_want
                refine quiet_val (v := .bool true) (fun w' hC => ?_) ?_
                · obtain ⟨z0, ⟨z1, z2, z3, z4, z5, z6⟩, y1, y2, y3, y4, y5, y6⟩ := hC
                  go_simp
                simp only [Act.put, List.setIfInBounds_toArray, List.set_cons_zero, List.set_cons_succ]
                go_big_quiet_on
                refine wpQuiet_nil ?_
                intro w' hC
                go_wp2_with fail
                go_meet
                case rel => exact ⟨by rw [hky], hC.1⟩
              · have f3 : (b' == b) = false := by simpa using e3
                have hky : keyB ⟨p', m', b', o', s', v'⟩ ⟨p, m, b, o, s, v⟩ = false := by rw [key_eq]; simp [e1, e2, e3]
                clear e1 e2 e3
                refine wp_region_quiet (C := CI wr w.heap.size p m b o s v g (og + k * 6) p' m' b' o' s' v') (by kernel_rfl) (by kernel_rfl) (CI.later (W := wr) (Below.drew (Below.refl _ _)) HCE.out) ?_
                simp only [List.toList_toArray]
                go_big_quiet_want
                refine quiet_val (v := .slice (some ⟨g, og, none⟩) n cap) (fun w' hC => ?_) ?_
                · obtain ⟨z0, ⟨z1, z2, z3, z4, z5, z6⟩, y1, y2, y3, y4, y5, y6⟩ := hC
                  go_simp
                simp only [Act.put, List.setIfInBounds_toArray, List.set_cons_zero, List.set_cons_succ]
                go_big_quiet_on
                go_big_quiet_want
                refine quiet_val (v := .int .i64 (k : Int)) (fun w' hC => ?_) ?_
                · obtain ⟨z0, ⟨z1, z2, z3, z4, z5, z6⟩, y1, y2, y3, y4, y5, y6⟩ := hC
                  go_simp
                simp only [Act.put, List.setIfInBounds_toArray, List.set_cons_zero, List.set_cons_succ]
                go_big_quiet_on
                go_big_quiet_want
                refine quiet_val (v := .pointer (some ⟨g, og + k * 6, none⟩)) (fun w' hC => ?_) ?_
                · obtain ⟨z0, ⟨z1, z2, z3, z4, z5, z6⟩, y1, y2, y3, y4, y5, y6⟩ := hC
                  go_simp
                simp only [Act.put, List.setIfInBounds_toArray, List.set_cons_zero, List.set_cons_succ]
                go_big_quiet_on
                go_big_quiet_want
                refine quiet_val (v := .pointer (some ⟨g, og + k * 6, none⟩)) (fun w' hC => ?_) ?_
                · obtain ⟨z0, ⟨z1, z2, z3, z4, z5, z6⟩, y1, y2, y3, y4, y5, y6⟩ := hC
                  go_simp
                simp only [Act.put, List.setIfInBounds_toArray, List.set_cons_zero, List.set_cons_succ]
                go_big_quiet_on
                go_big_quiet_want
                refine quiet_val (v := .int .i64 p') (fun w' hC => ?_) ?_
                · obtain ⟨z0, ⟨z1, z2, z3, z4, z5, z6⟩, y1, y2, y3, y4, y5, y6⟩ := hC
                  go_simp
                simp only [Act.put, List.setIfInBounds_toArray, List.set_cons_zero, List.set_cons_succ]
                go_big_quiet_on
                go_big_quiet_want
                refine quiet_val (v := .pointer (some ⟨w.heap.size, 0, none⟩)) (fun w' hC => ?_) ?_
                · obtain ⟨z0, ⟨z1, z2, z3, z4, z5, z6⟩, y1, y2, y3, y4, y5, y6⟩ := hC
                  go_simp
                simp only [Act.put, List.setIfInBounds_toArray, List.set_cons_zero, List.set_cons_succ]
                go_big_quiet_on
                go_big_quiet_want
                refine quiet_val (v := .int .i64 p) (fun w' hC => ?_) ?_
                · obtain ⟨z0, ⟨z1, z2, z3, z4, z5, z6⟩, y1, y2, y3, y4, y5, y6⟩ := hC
                  go_simp
                simp only [Act.put, List.setIfInBounds_toArray, List.set_cons_zero, List.set_cons_succ]
                go_big_quiet_on
                go_big_quiet_want
                refine quiet_val (v := .bool true) (fun w' hC => ?_) ?_
                · obtain ⟨z0, ⟨z1, z2, z3, z4, z5, z6⟩, y1, y2, y3, y4, y5, y6⟩ := hC
                  go_simp
                simp only [Act.put, List.setIfInBounds_toArray, List.set_cons_zero, List.set_cons_succ]
                go_big_quiet_on
                go_big_quiet_want
                refine quiet_val (v := .bool true) (fun w' hC => ?_) ?_
                · obtain ⟨z0, ⟨z1, z2, z3, z4, z5, z6⟩, y1, y2, y3, y4, y5, y6⟩ := hC
                  go_simp
                simp only [Act.put, List.setIfInBounds_toArray, List.set_cons_zero, List.set_cons_succ]
                go_big_quiet_on
                go_big_quiet_want
                refine quiet_val (v := .slice (some ⟨g, og, none⟩) n cap) (fun w' hC => ?_) ?_
                · obtain ⟨z0, ⟨z1, z2, z3, z4, z5, z6⟩, y1, y2, y3, y4, y5, y6⟩ := hC
                  go_simp
                simp only [Act.put, List.setIfInBounds_toArray, List.set_cons_zero, List.set_cons_succ]
                go_big_quiet_on
                go_big_quiet_want
                refine quiet_val (v := .int .i64 (k : Int)) (fun w' hC => ?_) ?_
                · obtain ⟨z0, ⟨z1, z2, z3, z4, z5, z6⟩, y1, y2, y3, y4, y5, y6⟩ := hC
                  go_simp
                simp only [Act.put, List.setIfInBounds_toArray, List.set_cons_zero, List.set_cons_succ]
                go_big_quiet_on
                go_big_quiet_want
                refine quiet_val (v := .pointer (some ⟨g, og + k * 6, none⟩)) (fun w' hC => ?_) ?_
                · obtain ⟨z0, ⟨z1, z2, z3, z4, z5, z6⟩, y1, y2, y3, y4, y5, y6⟩ := hC
                  go_simp
                simp only [Act.put, List.setIfInBounds_toArray, List.set_cons_zero, List.set_cons_succ]
                go_big_quiet_on
                go_big_quiet_want
                refine quiet_val (v := .pointer (some ⟨g, og + k * 6 + 1, none⟩)) (fun w' hC => ?_) ?_
                · obtain ⟨z0, ⟨z1, z2, z3, z4, z5, z6⟩, y1, y2, y3, y4, y5, y6⟩ := hC
                  go_simp
                simp only [Act.put, List.setIfInBounds_toArray, List.set_cons_zero, List.set_cons_succ]
                go_big_quiet_on
                go_big_quiet_want
                refine quiet_val (v := .agg #[.int .i64 m', .int .i64 b']) (fun w' hC => ?_) ?_
                · obtain ⟨z0, ⟨z1, z2, z3, z4, z5, z6⟩, y1, y2, y3, y4, y5, y6⟩ := hC
                  go_simp
                simp only [Act.put, List.setIfInBounds_toArray, List.set_cons_zero, List.set_cons_succ]
                go_big_quiet_on
                go_big_quiet_want
                refine quiet_val (v := .pointer (some ⟨w.heap.size, 1, none⟩)) (fun w' hC => ?_) ?_
                · obtain ⟨z0, ⟨z1, z2, z3, z4, z5, z6⟩, y1, y2, y3, y4, y5, y6⟩ := hC
                  go_simp
                simp only [Act.put, List.setIfInBounds_toArray, List.set_cons_zero, List.set_cons_succ]
                go_big_quiet_on
                go_big_quiet_want
                refine quiet_val (v := .agg #[.int .i64 m, .int .i64 b]) (fun w' hC => ?_) ?_
                · obtain ⟨z0, ⟨z1, z2, z3, z4, z5, z6⟩, y1, y2, y3, y4, y5, y6⟩ := hC
                  go_simp
                simp only [Act.put, List.setIfInBounds_toArray, List.set_cons_zero, List.set_cons_succ]
                go_big_quiet_on
                go_big_quiet_want
                refine quiet_val (v := .bool false) (fun w' hC => ?_) ?_
                · obtain ⟨z0, ⟨z1, z2, z3, z4, z5, z6⟩, y1, y2, y3, y4, y5, y6⟩ := hC
                  go_simp
                simp only [Act.put, List.setIfInBounds_toArray, List.set_cons_zero, List.set_cons_succ]
                go_big_quiet_on
                go_big_quiet_want
                refine quiet_val (v := .bool false) (fun w' hC => ?_) ?_
                · obtain ⟨z0, ⟨z1, z2, z3, z4, z5, z6⟩, y1, y2, y3, y4, y5, y6⟩ := hC
                  go_simp
                simp only [Act.put, List.setIfInBounds_toArray, List.set_cons_zero, List.set_cons_succ]
                go_big_quiet_on
                refine wpQuiet_nil ?_
                intro w' hC
                go_wp2_with fail
                go_meet
                case rel => exact ⟨by rw [hky], hC.1⟩
            · have f2 : (m' == m) = false := by simpa using e2
              have hky : keyB ⟨p', m', b', o', s', v'⟩ ⟨p, m, b, o, s, v⟩ = false := by rw [key_eq]; simp [e1, e2]
              clear e1 e2
              refine wp_region_quiet (C := CI wr w.heap.size p m b o s v g (og + k * 6) p' m' b' o' s' v') (by kernel_rfl) (by kernel_rfl) (CI.later (W := wr) (Below.drew (Below.refl _ _)) HCE.out) ?_
              simp only [List.toList_toArray]
              go_big_quiet_want
              refine quiet_val (v := .slice (some ⟨g, og, none⟩) n cap) (fun w' hC => ?_) ?_
              · obtain ⟨z0, ⟨z1, z2, z3, z4, z5, z6⟩, y1, y2, y3, y4, y5, y6⟩ := hC
                go_simp
              simp only [Act.put, List.setIfInBounds_toArray, List.set_cons_zero, List.set_cons_succ]
              go_big_quiet_on
              go_big_quiet_want
              refine quiet_val (v := .int .i64 (k : Int)) (fun w' hC => ?_) ?_
              · obtain ⟨z0, ⟨z1, z2, z3, z4, z5, z6⟩, y1, y2, y3, y4, y5, y6⟩ := hC
                go_simp
              simp only [Act.put, List.setIfInBounds_toArray, List.set_cons_zero, List.set_cons_succ]
              go_big_quiet_on
              go_big_quiet_want
              refine quiet_val (v := .pointer (some ⟨g, og + k * 6, none⟩)) (fun w' hC => ?_) ?_
              · obtain ⟨z0, ⟨z1, z2, z3, z4, z5, z6⟩, y1, y2, y3, y4, y5, y6⟩ := hC
                go_simp
              simp only [Act.put, List.setIfInBounds_toArray, List.set_cons_zero, List.set_cons_succ]
              go_big_quiet_on
              go_big_quiet_want
              refine quiet_val (v := .pointer (some ⟨g, og + k * 6, none⟩)) (fun w' hC => ?_) ?_
              · obtain ⟨z0, ⟨z1, z2, z3, z4, z5, z6⟩, y1, y2, y3, y4, y5, y6⟩ := hC
                go_simp
              simp only [Act.put, List.setIfInBounds_toArray, List.set_cons_zero, List.set_cons_succ]
              go_big_quiet_on
              go_big_quiet_want
              refine quiet_val (v := .int .i64 p') (fun w' hC => ?_) ?_
              · obtain ⟨z0, ⟨z1, z2, z3, z4, z5, z6⟩, y1, y2, y3, y4, y5, y6⟩ := hC
                go_simp
              simp only [Act.put, List.setIfInBounds_toArray, List.set_cons_zero, List.set_cons_succ]
              go_big_quiet_on
              go_big_quiet_want
              refine quiet_val (v := .pointer (some ⟨w.heap.size, 0, none⟩)) (fun w' hC => ?_) ?_
              · obtain ⟨z0, ⟨z1, z2, z3, z4, z5, z6⟩, y1, y2, y3, y4, y5, y6⟩ := hC
                go_simp
              simp only [Act.put, List.setIfInBounds_toArray, List.set_cons_zero, List.set_cons_succ]
              go_big_quiet_on
              go_big_quiet_want
              refine quiet_val (v := .int .i64 p) (fun w' hC => ?_) ?_
              · obtain ⟨z0, ⟨z1, z2, z3, z4, z5, z6⟩, y1, y2, y3, y4, y5, y6⟩ := hC
                go_simp
              simp only [Act.put, List.setIfInBounds_toArray, List.set_cons_zero, List.set_cons_succ]
              go_big_quiet_on
              go_big_quiet_want
              refine quiet_val (v := .bool true) (fun w' hC => ?_) ?_
              · obtain ⟨z0, ⟨z1, z2, z3, z4, z5, z6⟩, y1, y2, y3, y4, y5, y6⟩ := hC
                go_simp
              simp only [Act.put, List.setIfInBounds_toArray, List.set_cons_zero, List.set_cons_succ]
              go_big_quiet_on
              go_big_quiet_want
              refine quiet_val (v := .bool true) (fun w' hC => ?_) ?_
              · obtain ⟨z0, ⟨z1, z2, z3, z4, z5, z6⟩, y1, y2, y3, y4, y5, y6⟩ := hC
                go_simp
              simp only [Act.put, List.setIfInBounds_toArray, List.set_cons_zero, List.set_cons_succ]
              go_big_quiet_on
              go_big_quiet_want
              refine quiet_val (v := .slice (some ⟨g, og, none⟩) n cap) (fun w' hC => ?_) ?_
              · obtain ⟨z0, ⟨z1, z2, z3, z4, z5, z6⟩, y1, y2, y3, y4, y5, y6⟩ := hC
                go_simp
              simp only [Act.put, List.setIfInBounds_toArray, List.set_cons_zero, List.set_cons_succ]
              go_big_quiet_on
              go_big_quiet_want
              refine quiet_val (v := .int .i64 (k : Int)) (fun w' hC => ?_) ?_
              · obtain ⟨z0, ⟨z1, z2, z3, z4, z5, z6⟩, y1, y2, y3, y4, y5, y6⟩ := hC
                go_simp
              simp only [Act.put, List.setIfInBounds_toArray, List.set_cons_zero, List.set_cons_succ]
              go_big_quiet_on
              go_big_quiet_want
              refine quiet_val (v := .pointer (some ⟨g, og + k * 6, none⟩)) (fun w' hC => ?_) ?_
              · obtain ⟨z0, ⟨z1, z2, z3, z4, z5, z6⟩, y1, y2, y3, y4, y5, y6⟩ := hC
                go_simp
              simp only [Act.put, List.setIfInBounds_toArray, List.set_cons_zero, List.set_cons_succ]
              go_big_quiet_on
              go_big_quiet_want
              refine quiet_val (v := .pointer (some ⟨g, og + k * 6 + 1, none⟩)) (fun w' hC => ?_) ?_
              · obtain ⟨z0, ⟨z1, z2, z3, z4, z5, z6⟩, y1, y2, y3, y4, y5, y6⟩ := hC
                go_simp
              simp only [Act.put, List.setIfInBounds_toArray, List.set_cons_zero, List.set_cons_succ]
              go_big_quiet_on
              go_big_quiet_want
              refine quiet_val (v := .agg #[.int .i64 m', .int .i64 b']) (fun w' hC => ?_) ?_
              · obtain ⟨z0, ⟨z1, z2, z3, z4, z5, z6⟩, y1, y2, y3, y4, y5, y6⟩ := hC
                go_simp
              simp only [Act.put, List.setIfInBounds_toArray, List.set_cons_zero, List.set_cons_succ]
              go_big_quiet_on
              go_big_quiet_want
              refine quiet_val (v := .pointer (some ⟨w.heap.size, 1, none⟩)) (fun w' hC => ?_) ?_
              · obtain ⟨z0, ⟨z1, z2, z3, z4, z5, z6⟩, y1, y2, y3, y4, y5, y6⟩ := hC
                go_simp
              simp only [Act.put, List.setIfInBounds_toArray, List.set_cons_zero, List.set_cons_succ]
              go_big_quiet_on
              go_big_quiet_want
              refine quiet_val (v := .agg #[.int .i64 m, .int .i64 b]) (fun w' hC => ?_) ?_
              · obtain ⟨z0, ⟨z1, z2, z3, z4, z5, z6⟩, y1, y2, y3, y4, y5, y6⟩ := hC
                go_simp
              simp only [Act.put, List.setIfInBounds_toArray, List.set_cons_zero, List.set_cons_succ]
              go_big_quiet_on
              go_big_quiet_want
              refine quiet_val (v := .bool false) (fun w' hC => ?_) ?_
              · obtain ⟨z0, ⟨z1, z2, z3, z4, z5, z6⟩, y1, y2, y3, y4, y5, y6⟩ := hC
                go_simp
              simp only [Act.put, List.setIfInBounds_toArray, List.set_cons_zero, List.set_cons_succ]
              go_big_quiet_on
              go_big_quiet_want
              refine quiet_val (v := .bool false) (fun w' hC => ?_) ?_
              · obtain ⟨z0, ⟨z1, z2, z3, z4, z5, z6⟩, y1, y2, y3, y4, y5, y6⟩ := hC
                go_simp
              simp only [Act.put, List.setIfInBounds_toArray, List.set_cons_zero, List.set_cons_succ]
              go_big_quiet_on
              refine wpQuiet_nil ?_
              intro w' hC
              go_wp2_with fail
              go_meet
              case rel => exact ⟨by rw [hky], hC.1⟩
          · have f1 : (p' == p) = false := by simpa using e1
            have hky : keyB ⟨p', m', b', o', s', v'⟩ ⟨p, m, b, o, s, v⟩ = false := by rw [key_eq]; simp [e1]
            clear e1
            refine wp_region_quiet (C := CI wr w.heap.size p m b o s v g (og + k * 6) p' m' b' o' s' v') (by kernel_rfl) (by kernel_rfl) (CI.later (W := wr) (Below.drew (Below.refl _ _)) HCE.out) ?_
            simp only [List.toList_toArray]
            go_big_quiet_want
            refine quiet_val (v := .slice (some ⟨g, og, none⟩) n cap) (fun w' hC => ?_) ?_
            · obtain ⟨z0, ⟨z1, z2, z3, z4, z5, z6⟩, y1, y2, y3, y4, y5, y6⟩ := hC
              go_simp
            simp only [Act.put, List.setIfInBounds_toArray, List.set_cons_zero, List.set_cons_succ]
            go_big_quiet_on
            go_big_quiet_want
            refine quiet_val (v := .int .i64 (k : Int)) (fun w' hC => ?_) ?_
            · obtain ⟨z0, ⟨z1, z2, z3, z4, z5, z6⟩, y1, y2, y3, y4, y5, y6⟩ := hC
              go_simp
            simp only [Act.put, List.setIfInBounds_toArray, List.set_cons_zero, List.set_cons_succ]
            go_big_quiet_on
            go_big_quiet_want
            refine quiet_val (v := .pointer (some ⟨g, og + k * 6, none⟩)) (fun w' hC => ?_) ?_
            · obtain ⟨z0, ⟨z1, z2, z3, z4, z5, z6⟩, y1, y2, y3, y4, y5, y6⟩ := hC
              go_simp
            simp only [Act.put, List.setIfInBounds_toArray, List.set_cons_zero, List.set_cons_succ]
            go_big_quiet_on
            go_big_quiet_want
            refine quiet_val (v := .pointer (some ⟨g, og + k * 6, none⟩)) (fun w' hC => ?_) ?_
            · obtain ⟨z0, ⟨z1, z2, z3, z4, z5, z6⟩, y1, y2, y3, y4, y5, y6⟩ := hC
              go_simp
            simp only [Act.put, List.setIfInBounds_toArray, List.set_cons_zero, List.set_cons_succ]
            go_big_quiet_on
            go_big_quiet_want
            refine quiet_val (v := .int .i64 p') (fun w' hC => ?_) ?_
            · obtain ⟨z0, ⟨z1, z2, z3, z4, z5, z6⟩, y1, y2, y3, y4, y5, y6⟩ := hC
              go_simp
            simp only [Act.put, List.setIfInBounds_toArray, List.set_cons_zero, List.set_cons_succ]
            go_big_quiet_on
            go_big_quiet_want
            refine quiet_val (v := .pointer (some ⟨w.heap.size, 0, none⟩)) (fun w' hC => ?_) ?_
            · obtain ⟨z0, ⟨z1, z2, z3, z4, z5, z6⟩, y1, y2, y3, y4, y5, y6⟩ := hC
              go_simp
            simp only [Act.put, List.setIfInBounds_toArray, List.set_cons_zero, List.set_cons_succ]
            go_big_quiet_on
            go_big_quiet_want
            refine quiet_val (v := .int .i64 p) (fun w' hC => ?_) ?_
            · obtain ⟨z0, ⟨z1, z2, z3, z4, z5, z6⟩, y1, y2, y3, y4, y5, y6⟩ := hC
              go_simp
            simp only [Act.put, List.setIfInBounds_toArray, List.set_cons_zero, List.set_cons_succ]
            go_big_quiet_on
            go_big_quiet_want
            refine quiet_val (v := .bool false) (fun w' hC => ?_) ?_
            · obtain ⟨z0, ⟨z1, z2, z3, z4, z5, z6⟩, y1, y2, y3, y4, y5, y6⟩ := hC
              go_simp
            simp only [Act.put, List.setIfInBounds_toArray, List.set_cons_zero, List.set_cons_succ]
            go_big_quiet_on
            go_big_quiet_want
            refine quiet_val (v := .bool false) (fun w' hC => ?_) ?_
            · obtain ⟨z0, ⟨z1, z2, z3, z4, z5, z6⟩, y1, y2, y3, y4, y5, y6⟩ := hC
              go_simp
            simp only [Act.put, List.setIfInBounds_toArray, List.set_cons_zero, List.set_cons_succ]
            go_big_quiet_on
            go_big_quiet_skip
            go_big_quiet_skip
            go_big_quiet_skip
            go_big_quiet_skip
            go_big_quiet_skip
            go_big_quiet_skip
            go_big_quiet_skip
            go_big_quiet_skip
            go_big_quiet_want
            refine quiet_val (v := .bool false) (fun w' hC => ?_) ?_
            · obtain ⟨z0, ⟨z1, z2, z3, z4, z5, z6⟩, y1, y2, y3, y4, y5, y6⟩ := hC
              go_simp
            simp only [Act.put, List.setIfInBounds_toArray, List.set_cons_zero, List.set_cons_succ]
            go_big_quiet_on
            refine wpQuiet_nil ?_
            intro w' hC
            go_wp2_with fail
            go_meet
            case rel => exact ⟨by rw [hky], hC.1⟩
      case rest =>
        obtain ⟨rfl, hB2⟩ := hcut
        have HBk : Hid (Below wr.heap.size wr wc) := hB2
        have HB2 : Hid (Below w.heap.size w wc) := HB.out.trans (hB2.mono HB.out.size)
        have HC2 : Hid (C6 wc w.heap.size 0 ⟨p, m, b, o, s, v⟩) := HC.out.later hB2
        have HCE2 : Hid (CI wr w.heap.size p m b o s v g (og + k * 6) p' m' b' o' s' v' wc) := CI.later hB2 HCE.out
        clear hB2 HCE
        cases hky : keyB ⟨p', m', b', o', s', v'⟩ ⟨p, m, b, o, s, v⟩
        · go_wp2
          go_roundw
          case rel => exact ⟨k + 1, by omega, by go_num, by rw [HX.out, at_no hkl HL.out (key_of_eq hky)], by rw [HY.out, any_step hkl HL.out, hky, Bool.or_false], HB2.out, HC2.out⟩
          case measure => simp [intOf]; omega
        · go_upto_region 8 with fail
          go_cut [41] from 12 to 42 (fun c w' => c = .bool (eqR ⟨p', m', b', o', s', v'⟩ ⟨p, m, b, o, s, v⟩) ∧ Below wr.heap.size wr w')
          case first =>
            as_aux_lemma =>
              refine wp_region_quiet (C := CI wr w.heap.size p m b o s v g (og + k * 6) p' m' b' o' s' v') (by kernel_rfl) (by kernel_rfl) (CI.later (W := wc) (Below.drew (Below.refl _ _)) HCE2.out) ?_
              simp only [List.toList_toArray]
              go_big_quiet_want
              refine quiet_val (v := .slice (some ⟨g, og, none⟩) n cap) (fun w' hC => ?_) ?_
              · obtain ⟨z0, ⟨z1, z2, z3, z4, z5, z6⟩, y1, y2, y3, y4, y5, y6⟩ := hC
                go_simp
              simp only [Act.put, List.setIfInBounds_toArray, List.set_cons_zero, List.set_cons_succ]
              go_big_quiet_on
              go_big_quiet_want
              refine quiet_val (v := .int .i64 (k : Int)) (fun w' hC => ?_) ?_
              · obtain ⟨z0, ⟨z1, z2, z3, z4, z5, z6⟩, y1, y2, y3, y4, y5, y6⟩ := hC
                go_simp
              simp only [Act.put, List.setIfInBounds_toArray, List.set_cons_zero, List.set_cons_succ]
              go_big_quiet_on
              go_big_quiet_want
              refine quiet_val (v := .pointer (some ⟨g, og + k * 6, none⟩)) (fun w' hC => ?_) ?_
              · obtain ⟨z0, ⟨z1, z2, z3, z4, z5, z6⟩, y1, y2, y3, y4, y5, y6⟩ := hC
                go_simp
              simp only [Act.put, List.setIfInBounds_toArray, List.set_cons_zero, List.set_cons_succ]
              go_big_quiet_on
              go_big_quiet_want
              refine quiet_val (v := .agg #[.int .i64 p', .int .i64 m', .int .i64 b', .int .i64 o', .int .i64 s', .int .i64 v']) (fun w' hC => ?_) ?_
              · obtain ⟨z0, ⟨z1, z2, z3, z4, z5, z6⟩, y1, y2, y3, y4, y5, y6⟩ := hC
                go_simp
              simp only [Act.put, List.setIfInBounds_toArray, List.set_cons_zero, List.set_cons_succ]
              go_big_quiet_on
              go_big_quiet_want
              refine quiet_val (v := .agg #[.int .i64 p, .int .i64 m, .int .i64 b, .int .i64 o, .int .i64 s, .int .i64 v]) (fun w' hC => ?_) ?_
              · obtain ⟨z0, ⟨z1, z2, z3, z4, z5, z6⟩, y1, y2, y3, y4, y5, y6⟩ := hC
                go_simp
              simp only [Act.put, List.setIfInBounds_toArray, List.set_cons_zero, List.set_cons_succ]
              go_big_quiet_on
              go_big_quiet_want
              refine quiet_val (v := .bool (eqR ⟨p', m', b', o', s', v'⟩ ⟨p, m, b, o, s, v⟩)) (fun w' hC => exec_bin rfl (by go_simp) (run_eqlR p' m' b' o' s' v' p m b o s v w')) ?_
              simp only [Act.put, List.setIfInBounds_toArray, List.set_cons_zero, List.set_cons_succ]
              go_big_quiet_on
              refine wpQuiet_nil ?_
              intro w' hC
              go_wp2_with fail
              go_meet
              case rel => exact ⟨rfl, hC.1⟩
          case rest =>
            obtain ⟨rfl, hB3⟩ := hcut
            have HB3 : Hid (Below w.heap.size w wc) := HB.out.trans (hB3.mono HB.out.size)
            have HC3 : Hid (C6 wc w.heap.size 0 ⟨p, m, b, o, s, v⟩) := HC.out.later hB3
            clear hB3 HCE2 HBk HB2 HC2
            cases ho : eqR ⟨p', m', b', o', s', v'⟩ ⟨p, m, b, o, s, v⟩
            · go_wp2
              go_roundw
              case rel => exact ⟨k + 1, by omega, by go_num, by rw [HX.out, at_no hkl HL.out ho], by rw [any_step hkl HL.out, hky, Bool.or_true], HB3.out, HC3.out⟩
              case measure => simp [intOf]; omega
            · go_wp2
              go_roundw
              case rel => exact ⟨k + 1, by omega, by go_num, by rw [at_yes hkl HL.out H0.out ho], by rw [any_step hkl HL.out, hky, Bool.or_true], HB3.out, HC3.out⟩
              case measure => simp [intOf]; omega
    · obtain rfl : k = n := by omega
      have HS1 : Hid (SR wr (.slice ao k cap) L) := HS.out.later' HB.out
      obtain ⟨X, hX⟩ : ∃ X, X = atTo L ⟨p, m, b, o, s, v⟩ k := ⟨_, rfl⟩
      have HX : Hid (X = if inB L ⟨p, m, b, o, s, v⟩ then (ixN L ⟨p, m, b, o, s, v⟩ : Int) else -1) := by
        show _ = _
        rw [hX, ← HN.out, at_all]
      have hY : ((L.take k).any fun a => keyB a ⟨p, m, b, o, s, v⟩) = hitB L ⟨p, m, b, o, s, v⟩ := by rw [← HN.out, List.take_length]; rfl
      rw [← hX, hY]
      obtain ⟨r0, r1, r2, r3, r4, r5⟩ := hC
      simp only [Nat.zero_add] at r0 r1 r2 r3 r4 r5
      have hlt0 : w.heap.size < wr.heap.size := World.block_lt_of_cell? _ _ r0
      clear hX hY hB hlt
      cases a with
      | true =>
        cases hh : hitB L ⟨p, m, b, o, s, v⟩
        · by_cases h12 : 12 ≤ k
          · have HCN : Hid (chN L true ⟨p, m, b, o, s, v⟩ = 4) := ch_full hh (by rw [HN.out]; exact h12)
            have HCL : Hid (chL L true ⟨p, m, b, o, s, v⟩ = []) := chL_ne (by rw [ch_full hh (by rw [HN.out]; exact h12)]; decide)
            clear hh
            go_wp2
            refine bodyPost_ret (v := .tuple #[.slice none 0 0, .int .i64 4]) (by simp [results, Tryz.results21, go_sem]) rfl ⟨_, by rw [HCN.out], by rw [HCL.out]; exact NR.nil _ _, HB.out⟩
          · have HCN : Hid (chN L true ⟨p, m, b, o, s, v⟩ = 0) := ch_add hh (by rw [HN.out]; exact h12)
            have HCL : Hid (chL L true ⟨p, m, b, o, s, v⟩ = L ++ [⟨p, m, b, o, s, v⟩]) := chL_add (ch_add hh (by rw [HN.out]; exact h12))
            clear hh
            go_wp2_with (at_builtin; refine wpList_append_SR _ rfl _ _ 62 rfl Tryz.underlying62 w.heap.size _ rfl [] (World.ownsRow_nil _ _ _ _) _ rfl _ HS1.out (by simp [HN.out]; omega) HB.out.size ?_)
            intro v1 w1 hown1 hg1
            have HB1 : Hid (Below w.heap.size w w1) := HB.out.grown hg1 HB.out.size (fun g hg => by cases hg)
            have hBr : Below wr.heap.size wr w1 := (Below.refl _ _).grown hg1 (Nat.le_refl _) (fun g hg => by cases hg)
            have HO1 : Hid (w1.ownsRow w.heap.size 66 6 v1 L.length (cellsR L)) := hown1
            obtain ⟨d0, d1, d2, d3, d4, d5⟩ := HC.out.later hBr
            simp only [Nat.zero_add] at d0 d1 d2 d3 d4 d5
            have hlt1 : w.heap.size < w1.heap.size := World.block_lt_of_cell? _ _ d0
            have hBB : Below w1.heap.size w1 (w1.alloc (Obj.cells #[Value.int IntKind.i64 p, Value.int IntKind.i64 m, Value.int IntKind.i64 b, Value.int IntKind.i64 o, Value.int IntKind.i64 s, Value.int IntKind.i64 v] 66)) := (Below.refl _ _).alloc (Nat.le_refl _) _
            have HSO := sr_one w1 p m b o s v 66
            clear hown1 hg1 hBr r0 r1 r2 r3 r4 r5
            go_wp2_with (at_builtin; refine wpList_append_SR _ rfl _ _ 62 rfl Tryz.underlying62 w.heap.size _ rfl L (own_below HO1.out hBB) _ rfl [⟨p, m, b, o, s, v⟩] HSO (by simp [HN.out]; omega) (HB1.out.trans (hBB.mono HB1.out.size)).size ?_)
            intro v2 w2 hown2 hg2
            have HO2 : Hid (NR w2 w.heap.size v2 (L ++ [⟨p, m, b, o, s, v⟩])) := NR.ofn hown2 (by simp)
            have HB2 : Hid (Below w.heap.size w w2) := (HB1.out.trans (hBB.mono HB1.out.size)).grown hg2 (HB1.out.trans (hBB.mono HB1.out.size)).size (fun g hg => ((own_below HO1.out hBB).lt g hg).1)
            clear hown2 hg2 hBB HSO d0 d1 d2 d3 d4 d5
            go_wp2
            refine bodyPost_ret (v := .tuple #[v2, .int .i64 0]) (by simp [results, Tryz.results21, go_sem]) rfl ⟨_, by rw [HCN.out], by rw [HCL.out]; exact HO2.out, HB2.out⟩
        · have HCN : Hid (chN L true ⟨p, m, b, o, s, v⟩ = 7) := ch_hit hh
          have HCL : Hid (chL L true ⟨p, m, b, o, s, v⟩ = []) := chL_ne (by rw [ch_hit hh]; decide)
          clear hh
          go_wp2
          refine bodyPost_ret (v := .tuple #[.slice none 0 0, .int .i64 7]) (by simp [results, Tryz.results21, go_sem]) rfl ⟨_, by rw [HCN.out], by rw [HCL.out]; exact NR.nil _ _, HB.out⟩
      | false =>
        generalize hitB L ⟨p, m, b, o, s, v⟩ = Y
        cases hh : inB L ⟨p, m, b, o, s, v⟩
        · have HCN : Hid (chN L false ⟨p, m, b, o, s, v⟩ = 5) := ch_none hh
          have HCL : Hid (chL L false ⟨p, m, b, o, s, v⟩ = []) := chL_ne (by rw [ch_none hh]; decide)
          obtain rfl : X = -1 := by rw [HX.out, hh]; rfl
          clear hh HX
          go_wp2
          refine bodyPost_ret (v := .tuple #[.slice none 0 0, .int .i64 5]) (by simp [results, Tryz.results21, go_sem]) rfl ⟨_, by rw [HCN.out], by rw [HCL.out]; exact NR.nil _ _, HB.out⟩
        · have HCN : Hid (chN L false ⟨p, m, b, o, s, v⟩ = 0) := ch_take hh
          have HCL : Hid (chL L false ⟨p, m, b, o, s, v⟩ = L.take (ixN L ⟨p, m, b, o, s, v⟩) ++ L.drop (ixN L ⟨p, m, b, o, s, v⟩ + 1)) := chL_take (ch_take hh)
          obtain rfl : X = (ixN L ⟨p, m, b, o, s, v⟩ : Int) := by rw [HX.out, hh, if_pos rfl]
          have hi : ixN L ⟨p, m, b, o, s, v⟩ < k := by
            have := ix_lt hh
            rw [HN.out] at this
            exact this
          obtain ⟨g, og, hao, hRA, hcm⟩ := HA.out (by omega)
          subst hao
          generalize ixN L ⟨p, m, b, o, s, v⟩ = i at *
          have HRA : Hid (RAt wr g og L) := hRA.later HB.out
          have HCM : Hid (cap ≤ maxLen) := hcm
          have hc63 : (cap : Int) ≤ 9223372036854775807 := by unfold maxLen at hcm; omega
          clear hh hRA hcm HA HX
          have i0 : ¬ ((i : Int) < 0) := by omega
          have i01 : (0 : Int) ≤ (i : Int) := by omega
          have i1 : (i : Int) ≤ (cap : Int) := by omega
          have i2 : ((i + 1 : Nat) : Int) ≤ (k : Int) := by omega
          have i21 : (0 : Int) ≤ ((i + 1 : Nat) : Int) := by omega
          have i3 : IntKind.i64.wrap ((i : Int) + 1) = ((i + 1 : Nat) : Int) := by rw [IntKind.wrap_i64]; omega
          have HT1 : Hid (SR wr (.slice (some ⟨g, og, none⟩) i cap) (L.take i)) := by
            have e1 : (L.take i).length = i := by rw [List.length_take, HN.out]; omega
            exact .inr ⟨g, og, cap, by rw [e1], by rw [e1]; omega, HCM.out, HRA.out.take i⟩
          have HL1 : Hid ((L.take i).length ≤ 12) := by
            show _ ≤ _
            rw [List.length_take]
            omega
          have HL2 : Hid ((L.drop (i + 1)).length ≤ 12) := by
            show _ ≤ _
            rw [List.length_drop, HN.out]
            omega
          go_wp2_with (at_builtin; refine wpList_append_SR _ rfl _ _ 62 rfl Tryz.underlying62 w.heap.size _ rfl [] (World.ownsRow_nil _ _ _ _) _ rfl _ HT1.out (by have := HL1.out; simp at this ⊢; omega) HB.out.size ?_)
          intro v1 w1 hown1 hg1
          have HB1 : Hid (Below w.heap.size w w1) := HB.out.grown hg1 HB.out.size (fun g hg => by cases hg)
          have hBr : Below wr.heap.size wr w1 := (Below.refl _ _).grown hg1 (Nat.le_refl _) (fun g hg => by cases hg)
          have HO1 : Hid (w1.ownsRow w.heap.size 66 6 v1 (L.take i).length (cellsR (L.take i))) := NR.ofn hown1 (by simp)
          have HR1 : Hid (RAt w1 g og L) := HRA.out.later hBr
          clear hown1 hg1 hBr r0 r1 r2 r3 r4 r5
          by_cases hcj : cap = i + 1
          · have HT2 : Hid (SR w1 (.slice (some ⟨g, og, none⟩) 0 0) (L.drop (i + 1))) := .inl ⟨_, _, rfl, List.drop_eq_nil_of_le (by rw [HN.out]; omega)⟩
            have hkj : k = i + 1 := by omega
            generalize hj : i + 1 = j at i2 i21 i3 hcj hkj HT2 HL2
            subst hcj
            go_wp2_with (at_builtin; refine wpList_append_SR _ rfl _ _ 62 rfl Tryz.underlying62 w.heap.size _ rfl _ HO1.out _ rfl _ HT2.out (by have := HL1.out; have := HL2.out; omega) HB1.out.size ?_)
            intro v2 w2 hown2 hg2
            have HO2 : Hid (NR w2 w.heap.size v2 (L.take i ++ L.drop (i + 1))) := by
              rw [hj]
              exact NR.ofn hown2 (by simp)
            have HB2 : Hid (Below w.heap.size w w2) := HB1.out.grown hg2 HB1.out.size (fun g hg => (HO1.out.lt g hg).1)
            clear hown2 hg2
            go_wp2
            refine bodyPost_ret (v := .tuple #[v2, .int .i64 0]) (by simp [results, Tryz.results21, go_sem]) rfl ⟨_, by rw [HCN.out], by rw [HCL.out]; exact HO2.out, HB2.out⟩
          · have HT2 : Hid (SR w1 (.slice (some ⟨g, og + (i + 1) * 6, none⟩) (k - (i + 1)) (cap - (i + 1))) (L.drop (i + 1))) := by
              have e1 : (L.drop (i + 1)).length = k - (i + 1) := by rw [List.length_drop, HN.out]
              exact .inr ⟨g, og + (i + 1) * 6, cap - (i + 1), by rw [e1], by rw [e1]; omega, Nat.le_trans (Nat.sub_le _ _) HCM.out, HR1.out.drop (i + 1)⟩
            generalize hj : i + 1 = j at i2 i21 i3 hcj HT2 HL2
            go_wp2_with (at_builtin; refine wpList_append_SR _ rfl _ _ 62 rfl Tryz.underlying62 w.heap.size _ rfl _ HO1.out _ rfl _ HT2.out (by have := HL1.out; have := HL2.out; omega) HB1.out.size ?_)
            intro v2 w2 hown2 hg2
            have HO2 : Hid (NR w2 w.heap.size v2 (L.take i ++ L.drop (i + 1))) := by
              rw [hj]
              exact NR.ofn hown2 (by simp)
            have HB2 : Hid (Below w.heap.size w w2) := HB1.out.grown hg2 HB1.out.size (fun g hg => (HO1.out.lt g hg).1)
            clear hown2 hg2
            go_wp2
            refine bodyPost_ret (v := .tuple #[v2, .int .i64 0]) (by simp [results, Tryz.results21, go_sem]) rfl ⟨_, by rw [HCN.out], by rw [HCL.out]; exact HO2.out, HB2.out⟩
end Go.Proofs.YtglnnoglbieaeaaGreatDoor
/- What the document's own Diff answers: what is between two tables, of a switch. -/
namespace Go.Proofs.YtglnnoglbieaeaaGreatDoor
open Go.RowKit
set_option linter.unusedSimpArgs false
set_option linter.unusedVariables false

theorem bey_no {A B : List Ru} {k : Nat} {r : Ru} (hk : k < A.length) (hr : A[k] = r) (h : inB B r = true) : bey (A.take (k + 1)) B = bey (A.take k) B := by
  rw [List.take_succ_eq_append_getElem hk, hr]
  simp [bey, h]
theorem bey_yes {A B : List Ru} {k : Nat} {r : Ru} (hk : k < A.length) (hr : A[k] = r) (h : inB B r = false) : bey (A.take (k + 1)) B = bey (A.take k) B ++ [r] := by
  rw [List.take_succ_eq_append_getElem hk, hr]
  simp [bey, h]
/-- Ops of a switch that take away, or add. -/
def opsS (s : Int) (a : Bool) (L : List Ru) : List Op8 := L.map fun r => ⟨s, a, r⟩
theorem ops_app (s : Int) (a : Bool) (L : List Ru) (r : Ru) : opsS s a (L ++ [r]) = opsS s a L ++ [⟨s, a, r⟩] := by simp [opsS]
theorem ops_len (s : Int) (a : Bool) (L : List Ru) : (opsS s a L).length = L.length := by simp [opsS]
theorem opsS_of {A B : List Ru} (s : Int) (h : twN A B = 0) : opsS s false (bey A B) ++ opsS s true (bey B A) = ofS s (dfL A B) := by
  rw [dfL, if_pos h]
  simp only [opsS, ofS, taken, added, List.map_append, List.map_map]
  rfl
theorem bey_few (A B : List Ru) (k : Nat) : (bey (A.take k) B).length ≤ A.length := by
  have h1 : (bey (A.take k) B).length ≤ (A.take k).length := List.length_filter_le _ _
  have h2 := List.length_take_le' k A
  omega
set_option maxHeartbeats 4000000 in
set_option maxRecDepth 100000 in
theorem refDiff_any (ao : Option Addr) (n cap : Nat) (ao2 : Option Addr) (n2 cap2 : Nat) (s : Int) (A B : List Ru) (w : World) (hA : SR w (.slice ao n cap) A) (hB : SR w (.slice ao2 n2 cap2) B) (h1 : A.length ≤ 12) (h2 : B.length ≤ 12) :
    Calls Tryz.prog 45 #[.slice ao n cap, .slice ao2 n2 cap2, .int .i64 s] w fun e w' => ∃ v, e = .returned v ∧ NO w' w.heap.size v (opsS s false (bey A B) ++ opsS s true (bey B A)) ∧ Below w.heap.size w w' := by
  obtain ⟨ao', n', cap', e, hn, hn2, hn3, ha⟩ := hA.form
  cases e
  obtain ⟨ao', n', cap', e, hm, hm2, hm3, hb⟩ := hB.form
  cases e
  have HN : Hid (A.length = n) := hn
  have HM : Hid (B.length = n2) := hm
  have HA : Hid (0 < n → ∃ g o, ao = some ⟨g, o, none⟩ ∧ RAt w g o A ∧ cap ≤ maxLen) := ha
  have HA2 : Hid (0 < n2 → ∃ g o, ao2 = some ⟨g, o, none⟩ ∧ RAt w g o B ∧ cap2 ≤ maxLen) := hb
  have HSA : Hid (SR w (.slice ao n cap) A) := hA
  have HSB : Hid (SR w (.slice ao2 n2 cap2) B) := hB
  have n12 : n ≤ 12 := by omega
  have m12 : n2 ≤ 12 := by omega
  clear hn ha hm hb hA hB hn2 hm2 h1 h2
  go_enter Tryz.func45, Tryz.ntmps45
  go_wp2
  go_loopw [7, 8] (fun x i wr => ∃ k : Nat, k ≤ n ∧ i = .int .i64 k ∧ NO wr w.heap.size x (opsS s false (bey (A.take k) B)) ∧ Below w.heap.size w wr) (fun x i _ => n - (intOf i).toNat)
  case atStart => exact ⟨0, by omega, rfl, NO.nil _ _, Below.refl _ _⟩
  case round =>
    obtain ⟨k, hk, rfl, hO, hB⟩ := hrel
    have HB : Hid (Below w.heap.size w wr) := hB
    have HO : Hid (NO wr w.heap.size u7 (opsS s false (bey (A.take k) B))) := hO
    clear hO
    by_cases hlt : k < n
    · obtain ⟨g, og, hao, hc, _⟩ := HA.out (by omega)
      subst hao
      have HCk : Hid (RAt w g og A) := hc
      obtain ⟨p, m, b, q, t, v, hkl, hL, q0, q1, q2, q3, q4, q5⟩ := (hc.later hB).at HN.out hlt
      have HL : Hid (A[k] = ⟨p, m, b, q, t, v⟩) := hL
      have hlt0 : g < wr.heap.size := World.block_lt_of_cell? _ _ q0
      clear hL hB hc
      go_wp2_with fail
      refine (refIn_any ao2 n2 cap2 p m b q t v B _ (HSB.out.later HB.out)).mono ?_
      rintro e w1 ⟨rfl, hb1⟩
      have HB1 : Hid (Below w.heap.size w w1) := HB.out.trans (hb1.mono HB.out.size)
      have HO1 : Hid (NO w1 w.heap.size u7 (opsS s false (bey (A.take k) B))) := HO.out.later hb1
      clear hb1 q0 q1 q2 q3 q4 q5
      cases hi : inB B ⟨p, m, b, q, t, v⟩
      · obtain ⟨p', m', b', q', t', v', _, hL2, q0, q1, q2, q3, q4, q5⟩ := (HCk.out.later HB1.out).at HN.out hlt
        rw [HL.out] at hL2
        simp only [Ru.mk.injEq] at hL2
        obtain ⟨rfl, rfl, rfl, rfl, rfl, rfl⟩ := hL2
        have hBB : Below w1.heap.size w1 (w1.alloc (Obj.cells #[.int .i64 s, .bool false, .int .i64 p, .int .i64 m, .int .i64 b, .int .i64 q, .int .i64 t, .int .i64 v] 68)) := (Below.refl _ _).alloc (Nat.le_refl _) _
        have HRW := op_row w1 s false p m b q t v 68
        have HLN : Hid ((opsS s false (bey (A.take k) B)).length ≤ 12) := by
          have := bey_few A B k
          show _ ≤ _
          rw [ops_len]
          have := HN.out
          omega
        go_wp2_with (at_builtin; refine wpList_append_ops _ rfl _ _ 29 rfl Tryz.underlying29 w.heap.size _ rfl _ (HO1.out.later hBB) _ rfl _ HRW (by have := HLN.out; simp at this ⊢; omega) (HB1.out.trans (hBB.mono HB1.out.size)).size ?_)
        intro v' w3 hown3 hgrow
        have HO3 : Hid (NO w3 w.heap.size v' (opsS s false (bey (A.take (k + 1)) B))) := by
          show NO _ _ _ _
          rw [bey_yes hkl HL.out hi, ops_app]
          exact hown3
        have HB3 : Hid (Below w.heap.size w w3) := (HB1.out.trans (hBB.mono HB1.out.size)).grown hgrow (HB1.out.trans (hBB.mono HB1.out.size)).size (fun g hg => ((HO1.out.later hBB).lt g hg).1)
        clear hown3 hgrow hBB HRW q0 q1 q2 q3 q4 q5
        go_wp2
        go_roundw
        case rel => exact ⟨k + 1, by omega, by go_num, HO3.out, HB3.out⟩
        case measure => simp [intOf]; omega
      · go_wp2
        go_roundw
        case rel => exact ⟨k + 1, by omega, by go_num, by rw [bey_no hkl HL.out hi]; exact HO1.out, HB1.out⟩
        case measure => simp [intOf]; omega
    · obtain rfl : k = n := by omega
      have HO2 : Hid (NO wr w.heap.size u7 (opsS s false (bey A B))) := by
        have := HO.out
        rw [← HN.out, List.take_length] at this
        exact this
      clear HO hB HA hlt
      go_wp2
      go_loopw [7, 10] (fun x i w2 => ∃ j : Nat, j ≤ n2 ∧ i = .int .i64 j ∧ NO w2 w.heap.size x (opsS s false (bey A B) ++ opsS s true (bey (B.take j) A)) ∧ Below w.heap.size w w2) (fun x i _ => n2 - (intOf i).toNat)
      case atStart => exact ⟨0, by omega, rfl, by simpa [opsS, bey] using HO2.out, HB.out⟩
      case round =>
        obtain ⟨j, hj, rfl, hO, hB⟩ := hrel
        clear HB HO2
        have HB : Hid (Below w.heap.size w wr) := hB
        have HO : Hid (NO wr w.heap.size u7 (opsS s false (bey A B) ++ opsS s true (bey (B.take j) A))) := hO
        clear hO
        by_cases hlt : j < n2
        · obtain ⟨g, og, hao, hc, _⟩ := HA2.out (by omega)
          subst hao
          have HCk : Hid (RAt w g og B) := hc
          obtain ⟨p, m, b, q, t, v, hkl, hL, q0, q1, q2, q3, q4, q5⟩ := (hc.later hB).at HM.out hlt
          have HL : Hid (B[j] = ⟨p, m, b, q, t, v⟩) := hL
          clear hL hB hc
          go_wp2_with fail
          refine (refIn_any ao k cap p m b q t v A _ (HSA.out.later HB.out)).mono ?_
          rintro e w1 ⟨rfl, hb1⟩
          have HB1 : Hid (Below w.heap.size w w1) := HB.out.trans (hb1.mono HB.out.size)
          have HO1 : Hid (NO w1 w.heap.size u7 (opsS s false (bey A B) ++ opsS s true (bey (B.take j) A))) := HO.out.later hb1
          clear hb1 q0 q1 q2 q3 q4 q5
          cases hi : inB A ⟨p, m, b, q, t, v⟩
          · obtain ⟨p', m', b', q', t', v', _, hL2, q0, q1, q2, q3, q4, q5⟩ := (HCk.out.later HB1.out).at HM.out hlt
            rw [HL.out] at hL2
            simp only [Ru.mk.injEq] at hL2
            obtain ⟨rfl, rfl, rfl, rfl, rfl, rfl⟩ := hL2
            have hBB : Below w1.heap.size w1 (w1.alloc (Obj.cells #[.int .i64 s, .bool true, .int .i64 p, .int .i64 m, .int .i64 b, .int .i64 q, .int .i64 t, .int .i64 v] 68)) := (Below.refl _ _).alloc (Nat.le_refl _) _
            have HRW := op_row w1 s true p m b q t v 68
            have HLN : Hid ((opsS s false (bey A B) ++ opsS s true (bey (B.take j) A)).length ≤ 24) := by
              have h1 := bey_few B A j
              have h2 : (bey A B).length ≤ A.length := List.length_filter_le _ _
              show _ ≤ _
              rw [List.length_append, ops_len, ops_len]
              have := HN.out
              have := HM.out
              omega
            go_wp2_with (at_builtin; refine wpList_append_ops _ rfl _ _ 29 rfl Tryz.underlying29 w.heap.size _ rfl _ (HO1.out.later hBB) _ rfl _ HRW (by have := HLN.out; simp at this ⊢; omega) (HB1.out.trans (hBB.mono HB1.out.size)).size ?_)
            intro v' w3 hown3 hgrow
            have HO3 : Hid (NO w3 w.heap.size v' (opsS s false (bey A B) ++ opsS s true (bey (B.take (j + 1)) A))) := by
              show NO _ _ _ _
              rw [bey_yes hkl HL.out hi, ops_app]
              exact hown3
            have HB3 : Hid (Below w.heap.size w w3) := (HB1.out.trans (hBB.mono HB1.out.size)).grown hgrow (HB1.out.trans (hBB.mono HB1.out.size)).size (fun g hg => ((HO1.out.later hBB).lt g hg).1)
            clear hown3 hgrow hBB HRW q0 q1 q2 q3 q4 q5
            go_wp2
            go_roundw
            case rel => exact ⟨j + 1, by omega, by go_num, HO3.out, HB3.out⟩
            case measure => simp [intOf]; omega
          · go_wp2
            go_roundw
            case rel => exact ⟨j + 1, by omega, by go_num, by rw [bey_no hkl HL.out hi]; exact HO1.out, HB1.out⟩
            case measure => simp [intOf]; omega
        · obtain rfl : j = n2 := by omega
          have HO2 : Hid (NO wr w.heap.size u7 (opsS s false (bey A B) ++ opsS s true (bey B A))) := by
            have := HO.out
            rw [← HM.out, List.take_length] at this
            exact this
          clear HO hB hlt
          go_wp2
          go_ret
          exact ⟨_, rfl, HO2.out, HB.out⟩
end Go.Proofs.YtglnnoglbieaeaaGreatDoor
