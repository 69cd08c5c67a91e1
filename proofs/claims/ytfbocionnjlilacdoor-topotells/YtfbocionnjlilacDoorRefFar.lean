/- What railref1.Far answers of a right topology and two of its switches: a contract for the walks above it. -/
import Derived.Test.YtfbocionnjlilacDoorRefJoined
import Derived.Test.YtfbocionnjlilacDoorRefFarMath
import Derived.Laws.MakeOwn
import Derived.Deep.QuietTactic
import Derived.BigQuiet
import Derived.BigRegion
namespace Go.Proofs.YtfbocionnjlilacDoor
open Go.RowKit
set_option linter.unusedSimpArgs false
set_option linter.unusedVariables false

/-- Seven marks. -/
def MK (W : World) (g : Nat) (f : Nat → Bool) : Prop := ∀ i, i < 7 → W.cell? ⟨g, i, none⟩ = some (.bool (f i)) ∧ W.frozen? ⟨g, i, none⟩ = false
theorem MK.lt {W : World} {g : Nat} {f : Nat → Bool} (h : MK W g f) : g < W.heap.size := World.block_lt_of_cell? W ⟨g, 0, none⟩ (h 0 (by decide)).1
theorem MK.later {W W' : World} {g : Nat} {f : Nat → Bool} (h : MK W g f) (hb : Below W.heap.size W W') : MK W' g f := fun i hi => ⟨cell_later hb (h i hi).1, (hb.frozen (p := ⟨g, i, none⟩) h.lt).trans (h i hi).2⟩
theorem MK.congr {W : World} {g : Nat} {f f' : Nat → Bool} (h : MK W g f) (e : ∀ i, i < 7 → f i = f' i) : MK W g f' := fun i hi => by
  rw [← e i hi]
  exact h i hi
theorem MK.set {W : World} {g : Nat} {f : Nat → Bool} (h : MK W g f) (j : Nat) (hj : j < 7) (b : Bool) : MK (W.setCell ⟨g, j, none⟩ (.bool b)) g (fun i => if i = j then b else f i) := fun i hi => by
  refine ⟨?_, by simpa using (h i hi).2⟩
  show _ = some (Value.bool (if i = j then b else f i))
  by_cases e : i = j
  · subst e
    rw [if_pos rfl]
    exact World.cell?_setCell_same _ _ _ (h i hi).1
  · rw [if_neg e, World.cell?_setCell_other _ _ _ _ (fun e2 => by simp only [Addr.mk.injEq, and_true, true_and] at e2; exact e e2.symm)]
    exact (h i hi).1
theorem MK.other {W : World} {g : Nat} {f : Nat → Bool} (h : MK W g f) {g' : Nat} (hg : g' ≠ g) (j : Nat) (v : Value) : MK (W.setCell ⟨g', j, none⟩ v) g f := fun i hi => by
  refine ⟨?_, by simpa using (h i hi).2⟩
  rw [World.cell?_setCell_other _ _ _ _ (fun e2 => by simp only [Addr.mk.injEq] at e2; exact hg e2.1)]
  exact (h i hi).1
/-- Seven cells that are new. -/
def seven : Array Value := madeCells (Value.bool false).cells 7
theorem seven_at {i : Nat} (h : i < 7) : seven[i]? = some (.bool false) := by simp [seven, madeCells, h, Value.cells, Nat.mod_one]
theorem mk_new (W : World) (t : TypeId) : MK (W.alloc (.cells seven t)) W.heap.size (fun _ => false) := fun i hi => by
  refine ⟨?_, by simp⟩
  rw [World.cell?_alloc_new]
  exact seven_at hi

theorem infoBool : (Tryd.prog.info? 4).map (fun i => (i.zero, i.size, i.bytes)) = some (some (.bool false), 1, 1) := by kernel_rfl
theorem make7 (w : World) : (Instr.makeSlice 99 (.int .i64 7) (.int .i64 7)).run Tryd.prog w = .ok (.slice (some ⟨w.heap.size, 0, none⟩) 7 7) (w.alloc (.cells seven 4)) := by
  obtain ⟨i0, hi, hz0, hz1, hz2⟩ := info_parts infoBool
  have h := run_make (P := Tryd.prog) w 99 4 i0 (.bool false) Tryd.underlying99 hi hz0 .i64 .i64 7 7 (by omega) (by omega) (by rw [hz2]; omega) (by omega)
  rw [hz1] at h
  exact h

set_option maxHeartbeats 8000000 in
set_option maxRecDepth 100000 in
theorem rfar_any (N A B : Nat) (ao : Option Addr) (n cap : Nat) (ao2 : Option Addr) (n2 cap2 : Nat) (Ls : List ((Int × Int) × (Int × Int))) (w : World) (hL : GS lnkE w (.slice ao n cap) Ls)
    (h1 : 1 ≤ N) (h6 : N ≤ 6) (a1 : 1 ≤ A) (a2 : A ≤ N) (b1 : 1 ≤ B) (b2 : B ≤ N) :
    Calls Tryd.prog 20 #[.agg #[.int .i64 (N : Int), .slice ao n cap, .slice ao2 n2 cap2], .int .i64 (A : Int), .int .i64 (B : Int)] w fun e w' => e = .returned (.int .i64 (faN N Ls A B)) ∧ Below w.heap.size w w' := by
  obtain ⟨J, hJ⟩ : ∃ J : Nat → Nat → Bool, J = fun (x y : Nat) => joinB Ls (x : Int) (y : Int) := ⟨_, rfl⟩
  obtain ⟨F, hF⟩ : ∃ F, F = faN N Ls A B := ⟨_, rfl⟩
  have HF : Hid (F = fstB (fun n => rcB N J A n B) 7 0) := by
    show _ = _
    rw [hF, faN, farN, hJ]
    simp
  rw [← hF]
  have HJ : Hid (∀ x y : Nat, joinB Ls ((x : Int) + 1) ((y : Int) + 1) = J (x + 1) (y + 1)) := fun x y => by
    rw [hJ]
    simp
  have HLW : Hid (∀ W, Below w.heap.size w W → GS lnkE W (.slice ao n cap) Ls) := fun W hb => hL.later hb
  have hX := tbox_new w (N : Int) (.slice ao n cap) (.slice ao2 n2 cap2) 25
  have hB : Below w.heap.size w (w.alloc (Obj.cells #[.int .i64 (N : Int), .slice ao n cap, .slice ao2 n2 cap2] 25)) := (Below.refl _ _).alloc (Nat.le_refl _) _
  obtain ⟨w0, hw0⟩ : ∃ W, w.alloc (Obj.cells #[.int .i64 (N : Int), .slice ao n cap, .slice ao2 n2 cap2] 25) = W := ⟨_, rfl⟩
  rw [hw0] at hX hB
  have HX : Hid (TBox w0 w.heap.size (N : Int) (.slice ao n cap) (.slice ao2 n2 cap2)) := hX
  have HB : Hid (Below w.heap.size w w0) := hB
  have HW0 : Hid (w.alloc (Obj.cells #[.int .i64 (N : Int), .slice ao n cap, .slice ao2 n2 cap2] 25) = w0) := hw0
  have ab0 : (0 : Int) ≤ (A : Int) := by omega
  have ab1 : (A : Int) < 7 := by omega
  have bb0 : (0 : Int) ≤ (B : Int) := by omega
  have bb1 : (B : Int) < 7 := by omega
  clear hF hJ hL hX hB hw0
  go_enter Tryd.func20, Tryd.ntmps20
  go_upto_region 1 with fail
  rw [HW0.out]
  have hmk := make7 w0
  have hMa := mk_new w0 4
  have hBa : Below w0.heap.size w0 (w0.alloc (.cells seven 4)) := (Below.refl _ _).alloc (Nat.le_refl _) _
  obtain ⟨wa, hwa⟩ : ∃ W, w0.alloc (.cells seven 4) = W := ⟨_, rfl⟩
  rw [hwa] at hmk hMa hBa
  have HM0 : Hid (MK (wa.setCell ⟨w0.heap.size, A, none⟩ (.bool true)) w0.heap.size (rcB N J A 0)) := (hMa.set A (by omega) true).congr (fun i _ => by
    by_cases e : i = A
    · simp [rcB, e]
    · simp [rcB, e])
  have HBa : Hid (Below w0.heap.size w0 wa) := hBa
  obtain ⟨ca, fa⟩ := hMa A (by omega)
  clear hwa hMa hBa
  go_wp2
  clear hmk ca fa
  go_loopw [7, 8] (fun v i wr => ∃ k g : Nat, k ≤ 7 ∧ i = .int .i64 k ∧ v = .slice (some ⟨g, 0, none⟩) 7 7 ∧ MK wr g (rcB N J A k) ∧ w0.heap.size ≤ g ∧ Below w0.heap.size w0 wr ∧ F = fstB (fun n => rcB N J A n B) (7 - k) k) (fun _ i _ => 7 - (intOf i).toNat)
  case atStart => exact ⟨0, w0.heap.size, by omega, rfl, rfl, HM0.out, Nat.le_refl _, HBa.out.setCell (p := ⟨w0.heap.size, A, none⟩) (Nat.le_refl _) _, HF.out⟩
  case round =>
    obtain ⟨k, g, hk, rfl, rfl, hM, hg, hBr, hFk⟩ := hrel
    obtain ⟨wo, hwo⟩ : ∃ x, x = wr := ⟨_, rfl⟩
    subst hwo
    have HM : Hid (MK wo g (rcB N J A k)) := hM
    have HG : Hid (w0.heap.size ≤ g) := hg
    have HBr : Hid (Below w0.heap.size w0 wo) := hBr
    have HBw : Hid (Below w.heap.size w wo) := HB.out.trans (hBr.mono HB.out.size)
    have HFK : Hid (F = fstB (fun n => rcB N J A n B) (7 - k) k) := hFk
    have HX2 : Hid (TBox wo w.heap.size (N : Int) (.slice ao n cap) (.slice ao2 n2 cap2)) := HX.out.later hBr
    have hgl : g < wo.heap.size := hM.lt
    clear hM hg hBr hFk HM0 HF HW0
    by_cases h7 : k < 7
    · have hc := (HM.out B (by omega)).1
      have k6 : (k : Int) ≤ 6 := by omega
      cases hr : rcB N J A k B
      · rw [hr] at hc
        have HFN : Hid (F = fstB (fun n => rcB N J A n B) (7 - (k + 1)) (k + 1)) := by
          show _ = _
          have e : 7 - k = (7 - (k + 1)) + 1 := by omega
          rw [HFK.out, e]
          exact fst_from hr
        have hmk := make7 wo
        have HM2 : Hid (MK (wo.alloc (.cells seven 4)) wo.heap.size (nwB N J A k 0)) := (mk_new wo 4).congr (fun i _ => nw_0.symm)
        obtain ⟨b0, b1, b2⟩ := HX2.out
        go_wp2
        clear hmk hc b0 b1 b2
        go_loopw [10] (fun i wz => ∃ q : Nat, q ≤ N ∧ i = .int .i64 ((q : Int) + 1) ∧ MK wz wo.heap.size (nwB N J A k q) ∧ MK wz g (rcB N J A k) ∧ Below w0.heap.size w0 wz) (fun i _ => N + 1 - (intOf i).toNat)
        case atStart => exact ⟨0, by omega, rfl, HM2.out, HM.out.later ((Below.refl _ _).alloc (Nat.le_refl _) _), HBr.out.alloc HBr.out.size _⟩
        case round =>
          obtain ⟨q, hq, rfl, hM1, hM0, hBz⟩ := hrel
          obtain ⟨wm, hwm⟩ : ∃ x, x = wr := ⟨_, rfl⟩
          subst hwm
          have H1 : Hid (MK wm wo.heap.size (nwB N J A k q)) := hM1
          have H0 : Hid (MK wm g (rcB N J A k)) := hM0
          have HBz : Hid (Below w0.heap.size w0 wm) := hBz
          obtain ⟨b0, b1, b2⟩ := HX.out.later hBz
          have hl1 : wo.heap.size < wm.heap.size := hM1.lt
          have hl0 : g < wm.heap.size := hM0.lt
          have hlw : w.heap.size < wm.heap.size := World.block_lt_of_cell? _ _ b0
          clear hM1 hM0 hBz HM2
          by_cases hqN : q < N
          · have q1 : (q : Int) + 1 ≤ (N : Int) := by omega
            have q0 : (0 : Int) ≤ (q : Int) + 1 := by omega
            have q7 : (q : Int) + 1 < 7 := by omega
            have hnat : ((q : Int) + 1).toNat = q + 1 := by omega
            have c1 := (H1.out (q + 1) (by omega)).1
            have f1 := (H1.out (q + 1) (by omega)).2
            have c0 := (H0.out (q + 1) (by omega)).1
            have HS1 : Hid (MK (wm.setCell ⟨wo.heap.size, q + 1, none⟩ (.bool (rcB N J A k (q + 1)))) wo.heap.size (fun i => if i = q + 1 then nxB (rcB N J A k) J (q + 1) 0 else nwB N J A k q i)) := H1.out.set (q + 1) (by omega) _
            have HS0 : Hid (MK (wm.setCell ⟨wo.heap.size, q + 1, none⟩ (.bool (rcB N J A k (q + 1)))) g (rcB N J A k)) := H0.out.other (by omega) _ _
            have HSB : Hid (Below w0.heap.size w0 (wm.setCell ⟨wo.heap.size, q + 1, none⟩ (.bool (rcB N J A k (q + 1))))) := HBz.out.setCell (p := ⟨wo.heap.size, q + 1, none⟩) HBr.out.size _
            go_wp2
            obtain ⟨ws, hws⟩ : ∃ W, wm.setCell ⟨wo.heap.size, q + 1, none⟩ (.bool (rcB N J A k (q + 1))) = W := ⟨_, rfl⟩
            rw [hws] at HS1 HS0 HSB ⊢
            clear hws c1 f1 c0 b0 b1 b2 hl1 hl0 hlw
            go_loopw [11] (fun i wy => ∃ r : Nat, r ≤ N ∧ i = .int .i64 ((r : Int) + 1) ∧ MK wy wo.heap.size (fun i => if i = q + 1 then nxB (rcB N J A k) J (q + 1) r else nwB N J A k q i) ∧ MK wy g (rcB N J A k) ∧ Below w0.heap.size w0 wy) (fun i _ => N + 1 - (intOf i).toNat)
            case atStart => exact ⟨0, by omega, rfl, HS1.out, HS0.out, HSB.out⟩
            case round =>
              obtain ⟨r, hr, rfl, hM1, hM0, hBy⟩ := hrel
              have H1y : Hid (MK wr wo.heap.size (fun i => if i = q + 1 then nxB (rcB N J A k) J (q + 1) r else nwB N J A k q i)) := hM1
              have H0y : Hid (MK wr g (rcB N J A k)) := hM0
              have HBy : Hid (Below w0.heap.size w0 wr) := hBy
              have HByw : Hid (Below w.heap.size w wr) := HB.out.trans (hBy.mono HB.out.size)
              have hXy := HX.out.later hBy
              have HXy : Hid (TBox wr w.heap.size (N : Int) (.slice ao n cap) (.slice ao2 n2 cap2)) := hXy
              obtain ⟨b0, b1, b2⟩ := hXy
              clear hM1 hM0 hBy HS1 HS0 HSB
              by_cases hrN : r < N
              · have r1 : (r : Int) + 1 ≤ (N : Int) := by omega
                have r0 : (0 : Int) ≤ (r : Int) + 1 := by omega
                have r7 : (r : Int) + 1 < 7 := by omega
                have hnr : ((r : Int) + 1).toNat = r + 1 := by omega
                go_wp2_with fail
                refine (rjoined_any (N : Int) ao n cap ao2 n2 cap2 Ls ((r : Int) + 1) ((q : Int) + 1) _ (HLW.out _ HByw.out)).mono ?_
                rintro e w5 ⟨rfl, hb5⟩
                rw [HJ.out r q]
                have hM1 := H1y.out.later hb5
                have hM0 := H0y.out.later hb5
                have HB5 : Hid (Below w0.heap.size w0 w5) := HBy.out.trans (hb5.mono HBy.out.size)
                obtain ⟨b0, b1, b2⟩ := HXy.out.later hb5
                have hl1 : wo.heap.size < w5.heap.size := hM1.lt
                have hl0 : g < w5.heap.size := hM0.lt
                have hlw : w.heap.size < w5.heap.size := World.block_lt_of_cell? _ _ b0
                have HX5 : Hid (∀ b : Bool, nxB (rcB N J A k) J (q + 1) (r + 1) = b → MK (w5.setCell ⟨wo.heap.size, q + 1, none⟩ (.bool b)) wo.heap.size (fun i => if i = q + 1 then nxB (rcB N J A k) J (q + 1) (r + 1) else nwB N J A k q i)) := fun b hb => (hM1.set (q + 1) (by omega) b).congr (fun i _ => by
                  by_cases e : i = q + 1
                  · simp [e, hb]
                  · simp [e])
                have HX6 : Hid (∀ b : Bool, MK (w5.setCell ⟨wo.heap.size, q + 1, none⟩ (.bool b)) g (rcB N J A k)) := fun b => hM0.other (by omega) _ _
                obtain ⟨c1, f1⟩ := hM1 (q + 1) (by omega)
                obtain ⟨c0, _⟩ := hM0 (r + 1) (by omega)
                simp only [if_true] at c1
                have HBs : Hid (∀ b : Bool, Below w0.heap.size w0 (w5.setCell ⟨wo.heap.size, q + 1, none⟩ (.bool b))) := fun b => HB5.out.setCell (p := ⟨wo.heap.size, q + 1, none⟩) HBr.out.size _
                have HNX : Hid (nxB (rcB N J A k) J (q + 1) (r + 1) = (nxB (rcB N J A k) J (q + 1) r || (rcB N J A k (r + 1) && J (r + 1) (q + 1)))) := rfl
                clear hb5 hM1 hM0
                cases z1 : nxB (rcB N J A k) J (q + 1) r
                · rw [z1] at c1
                  cases z2 : rcB N J A k (r + 1)
                  · rw [z2] at c0
                    have HE : Hid (nxB (rcB N J A k) J (q + 1) (r + 1) = false) := by
                      show _ = _
                      rw [HNX.out, z1, z2]
                      rfl
                    go_wp2
                    go_roundw
                    case rel => exact ⟨r + 1, by omega, by go_num, HX5.out _ HE.out, HX6.out _, HBs.out _⟩
                    case measure => simp [intOf]; omega
                  · rw [z2] at c0
                    have HE : Hid (nxB (rcB N J A k) J (q + 1) (r + 1) = J (r + 1) (q + 1)) := by
                      show _ = _
                      rw [HNX.out, z1, z2]
                      rfl
                    go_wp2
                    go_roundw
                    case rel => exact ⟨r + 1, by omega, by go_num, HX5.out _ HE.out, HX6.out _, HBs.out _⟩
                    case measure => simp [intOf]; omega
                · rw [z1] at c1
                  have HE : Hid (nxB (rcB N J A k) J (q + 1) (r + 1) = true) := by
                    show _ = _
                    rw [HNX.out, z1]
                    rfl
                  go_wp2
                  go_roundw
                  case rel => exact ⟨r + 1, by omega, by go_num, HX5.out _ HE.out, HX6.out _, HBs.out _⟩
                  case measure => simp [intOf]; omega
              · obtain rfl : r = N := by omega
                have HM1 : Hid (MK wr wo.heap.size (nwB r J A k (q + 1))) := H1y.out.congr (fun i _ => by
                  by_cases e : i = q + 1
                  · rw [if_pos e, e, nw_self (by omega)]
                  · rw [if_neg e, nw_other e])
                go_wp2
                go_roundw
                case rel => exact ⟨q + 1, by omega, by go_num, HM1.out, H0y.out, HBy.out⟩
                case measure => simp [intOf]; omega
          · obtain rfl : q = N := by omega
            have HM1 : Hid (MK wm wo.heap.size (rcB q J A (k + 1))) := H1.out.congr (fun i _ => nw_all a1 a2)
            go_wp2
            go_roundw
            case rel => exact ⟨k + 1, wo.heap.size, by omega, by go_num, rfl, HM1.out, HBr.out.size, HBz.out, HFN.out⟩
            case measure => simp [intOf]; omega
      · rw [hr] at hc
        have HFK2 : Hid (F = k) := by
          show _ = _
          have e : 7 - k = (7 - (k + 1)) + 1 := by omega
          rw [HFK.out, e, fstB, if_pos hr]
        go_wp2
        go_ret
        exact ⟨by rw [HFK2.out]; rfl, HBw.out⟩
    · obtain rfl : k = 7 := by omega
      have HFN : Hid (F = -1) := HFK.out
      go_wp2
      go_ret
      exact ⟨by rw [HFN.out]; rfl, HBw.out⟩
end Go.Proofs.YtfbocionnjlilacDoor
