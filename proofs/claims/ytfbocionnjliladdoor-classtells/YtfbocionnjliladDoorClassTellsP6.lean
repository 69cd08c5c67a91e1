/- Contracts and facts on the way to ClassTells, joined into one text: RefPath, RefClasses, RefTopo1, RefName, RefTopo. -/
import Derived.Test.YtfbocionnjliladDoorClassTellsP1
import Derived.Test.YtfbocionnjliladDoorClassTellsP4
import Derived.Test.YtfbocionnjliladDoorClassTellsP5
import Derived.Test.YtfbocionnjliladDoorClassTellsP2
import Derived.Test.YtfbocionnjliladDoorClassTellsP3
import Derived.BigQuiet
import Derived.Deep.QuietTactic
import Derived.Deep.CutRange
import Derived.Deep.CutBlock
import Derived.Lib.Strings
import Derived.Test.YtfbocionnjliladDoorRows
import Derived.WalkKit
import Derived.WalkSpells
import Derived.Below
/- What railref1.Path answers: a contract for the walks above it. -/
namespace Go.Proofs.YtfbocionnjliladDoor
open Go.RowKit
set_option linter.unusedSimpArgs false
set_option linter.unusedVariables false

theorem vat_n2 {W : World} {g q : Nat} {y : Int} (h : W.cell? ⟨g, q, none⟩ = some (.int .i64 y)) : VAt W g q (inE.c y) := by
  intro j z hz
  match j, hz with
  | 0, hz => cases hz; exact h
set_option maxHeartbeats 2000000 in
set_option maxRecDepth 100000 in
theorem rpath_any (ao : Option Addr) (n cap : Nat) (Ts : List (List Ru)) (h : Int) (w : World) (hT : TS w (.slice ao n cap) Ts) (hn8 : n ≤ 8) :
    Calls Tryd.prog 14 #[.slice ao n cap, .int .i64 h] w fun e w' => ∃ a2 c2, e = .returned (.slice a2 n c2) ∧ w'.ownsRow w.heap.size 3 inE.n (.slice a2 n c2) (pthL Ts h).length (cellsG inE (pthL Ts h)) ∧ Below w.heap.size w w' := by
  obtain ⟨_, _, _, e1, hTn, hTm, _, hTa⟩ := hT.form
  cases e1
  have HTN : Hid (Ts.length = n) := hTn
  have HTA : Hid (0 < n → ∃ g o, ao = some ⟨g, o, none⟩ ∧ TAt w g o Ts ∧ cap ≤ maxLen) := hTa
  obtain ⟨i0, hi, hz0, hz1, hz2⟩ := info_parts infoInt
  clear hT hTn hTm hTa
  go_enter Tryd.func14, Tryd.ntmps14
  go_wp2
  go_loopw [5, 6] (fun v i wr => ∃ k : Nat, k ≤ n ∧ i = .int .i64 k ∧ wr.ownsRow w.heap.size 3 inE.n v (pthL (Ts.take k) h).length (cellsG inE (pthL (Ts.take k) h)) ∧ Below w.heap.size w wr) (fun _ i _ => n - (intOf i).toNat)
  case atStart => exact ⟨0, by omega, rfl, World.ownsRow_nil _ _ _ _, Below.refl _ _⟩
  case round =>
    obtain ⟨k, hk, rfl, hO, hB⟩ := hrel
    have HB : Hid (Below w.heap.size w wr) := hB
    have hpl : (pthL (Ts.take k) h).length = k := by
      rw [pth_len, List.length_take, HTN.out]
      omega
    obtain ⟨a5, c5, hv5⟩ := own_form hO
    rw [hpl] at hv5
    subst hv5
    have HO : Hid (wr.ownsRow w.heap.size 3 inE.n (.slice a5 k c5) (pthL (Ts.take k) h).length (cellsG inE (pthL (Ts.take k) h))) := hO
    have HPL : Hid ((pthL (Ts.take k) h).length = k) := hpl
    clear hO hpl
    by_cases hlt : k < n
    · obtain ⟨g, o, hao, hc, _⟩ := HTA.out (by omega)
      subst hao
      obtain ⟨a4, n4, c4, q0, hs⟩ := (hc.later hB) k (by rw [HTN.out]; exact hlt)
      have HS4 : Hid (SR wr (.slice a4 n4 c4) (Ts.getD k [])) := by
        show SR _ _ _
        rw [getT (by rw [HTN.out]; exact hlt)]
        exact hs
      have kb0 : (0 : Int) ≤ (k : Int) := by omega
      have kb1 : (k : Int) < (n : Int) := by omega
      clear hB hs hc
      go_wp2_with fail
      refine (find_any _ (Ts.getD k []) h _ HS4.out).mono ?_
      rintro e w2 ⟨rfl, hb2⟩
      obtain ⟨x, hx⟩ : ∃ x, x = beTo (Ts.getD k []) h (Ts.getD k []).length := ⟨_, rfl⟩
      have HX : Hid (beTo (Ts.getD k []) h (Ts.getD k []).length = x) := hx.symm
      rw [← hx]
      have HO2 : Hid (w2.ownsRow w.heap.size 3 inE.n (.slice a5 k c5) (pthL (Ts.take k) h).length (cellsG inE (pthL (Ts.take k) h))) := own_below HO.out hb2
      have HB2 : Hid (Below w.heap.size w w2) := HB.out.trans (hb2.mono HB.out.size)
      clear hx hb2 q0
      go_upto_region 6 with fail
      go_wp2_with (at_builtin; refine wpList_append_blk (E := inE) _ rfl _ _ 43 3 rfl Tryd.underlying43 i0 (.int .i64 0) 8 hi hz0 hz1 hz2 rfl w.heap.size (.slice a5 k c5) rfl (pthL (Ts.take k) h) (HO2.out.alloc _) w2.heap.size 0 1 rfl x (vat_n2 (by simp)) ?a1 ?a2 ?a3 ?_)
      case a1 => have := HPL.out; unfold maxLen; omega
      case a2 => have := HPL.out; omega
      case a3 => have := HB2.out.size; simp; omega
      intro v7 w7 ho7 hg7 _
      have HO7 : Hid (w7.ownsRow w.heap.size 3 inE.n v7 (pthL (Ts.take (k + 1)) h).length (cellsG inE (pthL (Ts.take (k + 1)) h))) := by
        show World.ownsRow _ _ _ _ _ _ _
        rw [pth_next Ts h k (by rw [HTN.out]; exact hlt), HX.out]
        first | exact ho7 | (rw [List.length_append]; exact ho7)
      have HB7 : Hid (Below w.heap.size w w7) := by
        have b1 : Below w.heap.size w (w2.alloc (Obj.cells #[.int .i64 x] 3)) := HB2.out.alloc HB2.out.size _
        refine b1.trans ⟨hg7.os, hg7.tape, hg7.output, hg7.size, fun q hq => hg7.block q (by have := b1.size; omega) (fun e => ?_)⟩
        have := (HO2.out.lt q e.symm).1
        omega
      clear ho7 hg7
      go_wp2
      go_roundw
      case rel => exact ⟨k + 1, by omega, by go_num, HO7.out, HB7.out⟩
      case measure => simp [intOf]; omega
    · obtain rfl : k = n := by omega
      have HOE : Hid (wr.ownsRow w.heap.size 3 inE.n (.slice a5 k c5) (pthL Ts h).length (cellsG inE (pthL Ts h))) := by
        have := HO.out
        rw [List.take_of_length_le (by rw [HTN.out]; exact Nat.le_refl _)] at this
        exact this
      clear hB
      go_wp2
      go_ret
      exact ⟨_, _, rfl, HOE.out, HB.out⟩
end Go.Proofs.YtfbocionnjliladDoor
/- What railref1.Classes answers: a contract for the walks above it. -/
namespace Go.Proofs.YtfbocionnjliladDoor
open Go.RowKit
set_option linter.unusedSimpArgs false
set_option linter.unusedVariables false

theorem infoSl2 : (Tryd.prog.info? 43).map (fun i => (i.zero, i.size, i.bytes)) = some (some (.slice none 0 0), 1, 24) := by kernel_rfl
theorem vat_s2 {W : World} {g q : Nat} {y : SlT} (h : W.cell? ⟨g, q, none⟩ = some (slV y)) : VAt W g q (slE.c y) := by
  intro j z hz
  match j, hz with
  | 0, hz => cases hz; exact h
theorem own_num2 {B : Nat} (w : World) (y : Int) (hB : B ≤ w.heap.size) : (w.alloc (Obj.cells #[.int .i64 y] 3)).ownsRow B 3 inE.n (slV (some ⟨w.heap.size, 0, none⟩, 1, 1)) [y].length (cellsG inE [y]) :=
  World.ownsRow_lit w #[.int .i64 y] 1 hB (by unfold maxLen; omega) rfl
theorem szc1 (W : World) (o : Obj) : (W.alloc o).heap.size = W.heap.size + 1 := by simp
/-- All that is said is as long as there are tables. -/
theorem kc_long {Ts : List (List Ru)} {k : Nat} : ∀ p ∈ (kcTo (pthL Ts) k).2, p.length = Ts.length := by
  intro p hp
  obtain ⟨x, _, rfl⟩ := (kc_mem (pthL Ts) k p).1 hp
  exact pth_len _ _
/-- The place so far. -/
theorem ix_no {q : List Int → Bool} {Ps : List (List Int)} {j : Nat} (hj : j < Ps.length) (h : ixG q (Ps.take j) < 0) (hq : q Ps[j] = false) : ixG q (Ps.take (j + 1)) = -1 := by
  refine ixG_no (any_nextG hj ?_ hq)
  rw [List.any_eq_false]
  intro x hx
  rw [ixG_neg h x hx]
  simp
theorem ix_yes {q : List Int → Bool} {Ps : List (List Int)} {j : Nat} (hj : j < Ps.length) (h : ixG q (Ps.take j) < 0) (hq : q Ps[j] = true) : ixG q (Ps.take (j + 1)) = (j : Int) := by
  have hl : j < (Ps.take (j + 1)).length := by rw [List.length_take]; omega
  refine ixG_hit hl ?_ (by rw [List.getElem_take]; exact hq)
  rw [List.take_take, Nat.min_eq_left (by omega), List.any_eq_false]
  intro x hx
  rw [ixG_neg h x hx]
  simp
theorem ix_m1 {q : List Int → Bool} {Ps : List (List Int)} (h : ixG q Ps < 0) : ixG q Ps = -1 := by
  unfold ixG at h ⊢
  cases e : Ps.any q
  · simp
  · rw [e] at h
    simp at h
    omega
theorem beq_next {xs ys : List Int} {k : Nat} (hx : k < xs.length) (hy : k < ys.length) : (xs.take (k + 1) == ys.take (k + 1)) = ((xs.take k == ys.take k) && (xs[k] == ys[k])) := by
  rw [List.take_succ_eq_append_getElem hx, List.take_succ_eq_append_getElem hy, Bool.eq_iff_iff]
  simp only [beq_iff_eq, Bool.and_eq_true]
  constructor
  · intro h
    have := List.append_inj h (by rw [List.length_take, List.length_take]; omega)
    exact ⟨this.1, by simpa using this.2⟩
  · rintro ⟨h1, h2⟩
    rw [h1, h2]

set_option maxHeartbeats 4000000 in
set_option maxRecDepth 100000 in
theorem rclasses_any (ao : Option Addr) (n cap : Nat) (Ts : List (List Ru)) (w : World) (hT : TS w (.slice ao n cap) Ts) (hn0 : 0 < n) (hn8 : n ≤ 8) :
    Calls Tryd.prog 7 #[.slice ao n cap] w fun e w' => ∃ v u vs us, e = .returned v ∧ CP 3 43 w' w.heap.size v u vs us (kcTo (pthL Ts) 16).1 (kcTo (pthL Ts) 16).2 ∧ Below w.heap.size w w' := by
  have HTL : Hid (Ts.length = n) := hT.len
  have HTW : Hid (∀ W, Below w.heap.size w W → TS W (.slice ao n cap) Ts) := fun W hb => hT.later hb
  have HN8 : Hid (n ≤ 8) := hn8
  clear hT
  go_enter Tryd.func7, Tryd.ntmps7
  go_wp2
  go_loopw [3, 4, 5] (fun v u i wr => ∃ (k : Nat) (vs us : List SlT), k ≤ 16 ∧ i = .int .i64 k ∧ CP 3 43 wr w.heap.size v u vs us (kcTo (pthL Ts) k).1 (kcTo (pthL Ts) k).2 ∧ Below w.heap.size w wr) (fun _ _ i _ => 16 - (intOf i).toNat)
  case atStart => exact ⟨0, [], [], by omega, rfl, cp_nil _ _ _ _, Below.refl _ _⟩
  case round =>
    obtain ⟨k, vs, us, hk, rfl, hCP, hB⟩ := hrel
    obtain ⟨wo, hwo⟩ : ∃ X, X = wr := ⟨_, rfl⟩
    subst hwo
    have HB : Hid (Below w.heap.size w wo) := hB
    obtain ⟨a3, c3, hv3⟩ := own_form hCP.ov
    obtain ⟨a4, c4, hu4⟩ := own_form hCP.ou
    obtain ⟨n3, hn3⟩ : ∃ m, m = vs.length := ⟨_, rfl⟩
    obtain ⟨n4, hn4⟩ : ∃ m, m = us.length := ⟨_, rfl⟩
    rw [← hn3] at hv3
    rw [← hn4] at hu4
    subst hv3 hu4
    have HCP : Hid (CP 3 43 wo w.heap.size (.slice a3 n3 c3) (.slice a4 n4 c4) vs us (kcTo (pthL Ts) k).1 (kcTo (pthL Ts) k).2) := hCP
    have HN3 : Hid (vs.length = n3) := hn3.symm
    have HN4 : Hid (us.length = n4) := hn4.symm
    clear hB hCP hn3 hn4
    by_cases hlt : k < 16
    · have hki : (k : Int) < 16 := by omega
      go_wp2_with fail
      refine (rpath_any ao n cap Ts (k : Int) _ (HTW.out _ HB.out) HN8.out).mono ?_
      rintro e w1 ⟨a2, c2, rfl, hown1, hb1⟩
      have hgp : ∃ g, a2 = some ⟨g, 0, none⟩ := by
        rcases hown1.2 with ⟨h9, _⟩ | ⟨g, _, _, h9, _⟩
        · simp only [Value.slice.injEq] at h9
          omega
        · simp only [Value.slice.injEq] at h9
          exact ⟨g, h9.1⟩
      obtain ⟨gp, rfl⟩ := hgp
      have HGP : Hid (wo.heap.size ≤ gp ∧ gp < w1.heap.size) := hown1.lt gp rfl
      have HP1 : Hid (w1.ownsRow w.heap.size 3 inE.n (.slice (some ⟨gp, 0, none⟩) n c2) (pthL Ts (k : Int)).length (cellsG inE (pthL Ts (k : Int)))) := own_mono hown1 HB.out.size
      have HC1 : Hid (CP 3 43 w1 w.heap.size (.slice a3 n3 c3) (.slice a4 n4 c4) vs us (kcTo (pthL Ts) k).1 (kcTo (pthL Ts) k).2) := HCP.out.later hb1
      have HB1 : Hid (Below w.heap.size w w1) := HB.out.trans (hb1.mono HB.out.size)
      have hle := kc_len (pthL Ts) k
      have hlv := HCP.out.lv
      have hlu := HCP.out.lu
      have HLV : Hid (vs.length + 1 ≤ 17) := by
        show _ ≤ _
        omega
      have HLU : Hid (us.length + 1 ≤ 17) := by
        show _ ≤ _
        omega
      have HPN : Hid ((kcTo (pthL Ts) k).2.length = n4) := by
        have := HN4.out
        show _ = _
        omega
      have hn417 : n4 ≤ 16 := by have := HN4.out; omega
      have HILS : Hid (∀ W, Below w1.heap.size w1 W → ILS W (.slice a4 n4 c4) (kcTo (pthL Ts) k).2) := fun W hb => (HC1.out.later hb).swap.ls
      have HGSP : Hid (∀ W, Below w1.heap.size w1 W → GS inE W (.slice (some ⟨gp, 0, none⟩) n c2) (pthL Ts (k : Int))) := fun W hb => own_GS (own_below HP1.out hb)
      obtain ⟨P, hP⟩ : ∃ P, P = pthL Ts (k : Int) := ⟨_, rfl⟩
      have HPD : Hid (P = pthL Ts (k : Int)) := hP
      have HPLN : Hid (P.length = n) := by
        show _ = _
        rw [hP, pth_len, HTL.out]
      rw [← hP] at HGSP
      obtain ⟨Ps, hPs⟩ : ∃ Ps, Ps = (kcTo (pthL Ts) k).2 := ⟨_, rfl⟩
      have HPS : Hid (Ps = (kcTo (pthL Ts) k).2) := hPs
      have HLNG : Hid (∀ p ∈ Ps, p.length = n) := by
        intro p hp
        rw [hPs] at hp
        rw [kc_long p hp, HTL.out]
      rw [← hPs] at HILS HPN
      clear hown1 hb1 hle hlv hlu hP hPs
      go_wp2
      go_loopw [7, 8] (fun a i wr => ∃ j : Nat, j ≤ n4 ∧ i = .int .i64 j ∧ a = .int .i64 (ixG (fun p => p == P) (Ps.take j)) ∧ Below w1.heap.size w1 wr) (fun _ i _ => n4 - (intOf i).toNat)
      case atStart => exact ⟨0, by omega, rfl, by simp [ixG], Below.refl _ _⟩
      case round =>
        obtain ⟨j, hj, rfl, rfl, hBj⟩ := hrel
        obtain ⟨wl, hwl⟩ : ∃ X, X = wr := ⟨_, rfl⟩
        subst hwl
        have HBj : Hid (Below w1.heap.size w1 wl) := hBj
        obtain ⟨I, hI⟩ : ∃ I, I = ixG (fun p => p == P) (Ps.take j) := ⟨_, rfl⟩
        have HIJ : Hid (ixG (fun p => p == P) (Ps.take j) = I) := hI.symm
        rw [← hI]
        clear hBj hI
        by_cases hgo : j < n4 ∧ I < 0
        · obtain ⟨hjn, hIn⟩ := hgo
          have hI1 : I = -1 := by
            have h9 := HIJ.out
            rw [← h9]
            exact ix_m1 (by rw [h9]; exact hIn)
          subst hI1
          have hjl : j < Ps.length := by rw [HPN.out]; exact hjn
          obtain ⟨_, _, _, e6, _, _, _, ha6⟩ := (HILS.out _ HBj.out).form
          cases e6
          obtain ⟨g6, o6, ha66, hl6, _⟩ := ha6 (by omega)
          subst ha66
          obtain ⟨a7, n7, c7, q7, hG7⟩ := hl6 j hjl
          have hn7 : n7 = n := by
            have h8 := hG7.len
            rw [HLNG.out _ (List.getElem_mem hjl)] at h8
            exact h8.symm
          subst hn7
          have HG7 : Hid (∀ W, Below wl.heap.size wl W → GS inE W (.slice a7 n7 c7) Ps[j] ∧ W.cell? ⟨g6, o6 + j, none⟩ = some (.slice a7 n7 c7)) := fun W hb => ⟨hG7.later hb, cell_later hb q7⟩
          have HLJ : Hid (Ps[j].length = n7) := HLNG.out _ (List.getElem_mem hjl)
          have j0 : (0 : Int) ≤ (j : Int) := by omega
          have j1 : (j : Int) < (n4 : Int) := by omega
          clear ha6 hl6 q7 hG7
          go_upto_region 13 with fail
          go_loopw [9, 10] (fun s i wr => ∃ t : Nat, t ≤ n7 ∧ i = .int .i64 t ∧ s = .bool (P.take t == Ps[j].take t) ∧ Below wl.heap.size wl wr) (fun _ i _ => n7 - (intOf i).toNat)
          case atStart => exact ⟨0, by omega, rfl, by simp, Below.refl _ _⟩
          case round =>
            obtain ⟨t, ht, rfl, rfl, hBt⟩ := hrel
            have HBt : Hid (Below wl.heap.size wl wr) := hBt
            have HBt1 : Hid (Below w1.heap.size w1 wr) := HBj.out.trans (hBt.mono HBj.out.size)
            obtain ⟨B, hBB⟩ : ∃ B, B = (P.take t == Ps[j].take t) := ⟨_, rfl⟩
            have HBB : Hid ((P.take t == Ps[j].take t) = B) := hBB.symm
            rw [← hBB]
            clear hBB
            by_cases htn : t < n7
            · obtain ⟨_, _, _, e8, _, _, _, ha8⟩ := (HGSP.out _ HBt1.out).form
              cases e8
              obtain ⟨gq, oq, e9, hcq, _⟩ := ha8 (by omega)
              cases e9
              obtain ⟨x, hxl, hxP, p0⟩ := in_at hcq HPLN.out htn
              simp only [Nat.zero_add] at p0
              obtain ⟨hG8, q8⟩ := HG7.out _ hBt
              obtain ⟨_, _, _, e8, _, _, _, ha9⟩ := hG8.form
              cases e8
              obtain ⟨g7, o7, ha77, hc7, _⟩ := ha9 (by omega)
              subst ha77
              obtain ⟨y, hyl, hyP, p1⟩ := in_at hc7 HLJ.out htn
              have HNX : Hid ((P.take (t + 1) == Ps[j].take (t + 1)) = (B && (x == y))) := by
                show _ = _
                rw [beq_next hxl hyl, HBB.out, hxP, hyP]
              have t0 : (0 : Int) ≤ (t : Int) := by omega
              have t1 : (t : Int) < (n7 : Int) := by omega
              clear ha8 hcq hxP hxl hG8 ha9 hc7 hyP hyl hBt
              cases B with
              | false =>
                go_wp2_with fail
                go_quiet (fail)
                go_wp2
                go_roundw
                case rel => exact ⟨t + 1, by omega, by go_num, by rw [HNX.out]; rfl, HBt.out.trans ⟨rfl, rfl, rfl, Nat.le_refl _, fun _ _ => rfl⟩⟩
                case measure => simp [intOf]; omega
              | true =>
                by_cases hxy : x = y
                · subst hxy
                  go_wp2_with fail
                  go_quiet (fail)
                  go_wp2
                  go_roundw
                  case rel => exact ⟨t + 1, by omega, by go_num, by rw [HNX.out]; simp, HBt.out.trans ⟨rfl, rfl, rfl, Nat.le_refl _, fun _ _ => rfl⟩⟩
                  case measure => simp [intOf]; omega
                · have hxyb : (x == y) = false := by simpa using hxy
                  go_wp2_with fail
                  go_quiet (fail)
                  go_wp2
                  go_roundw
                  case rel => exact ⟨t + 1, by omega, by go_num, by rw [HNX.out, hxyb]; rfl, HBt.out.trans ⟨rfl, rfl, rfl, Nat.le_refl _, fun _ _ => rfl⟩⟩
                  case measure => simp [intOf]; omega
            · obtain rfl : t = n7 := by omega
              have HFULL : Hid ((Ps[j] == P) = B) := by
                have h9 := HBB.out
                rw [List.take_of_length_le (by rw [HPLN.out]; exact Nat.le_refl _), List.take_of_length_le (by rw [HLJ.out]; exact Nat.le_refl _)] at h9
                show _ = _
                rw [← h9, Bool.eq_iff_iff, beq_iff_eq, beq_iff_eq]
                exact eq_comm
              clear hBt
              cases B with
              | false =>
                have HNXT : Hid (ixG (fun p => p == P) (Ps.take (j + 1)) = -1) := ix_no hjl (by rw [HIJ.out]; omega) HFULL.out
                go_wp2
                go_roundw
                case rel => exact ⟨j + 1, by omega, by go_num, by rw [HNXT.out], HBt1.out⟩
                case measure => simp [intOf]; omega
              | true =>
                have HNXT : Hid (ixG (fun p => p == P) (Ps.take (j + 1)) = (j : Int)) := ix_yes hjl (by rw [HIJ.out]; omega) HFULL.out
                go_wp2
                go_roundw
                case rel => exact ⟨j + 1, by omega, by go_num, by rw [HNXT.out], HBt1.out⟩
                case measure => simp [intOf]; omega
        · obtain ⟨jl, hjl0⟩ : ∃ x, x = j := ⟨_, rfl⟩
          subst hjl0
          have HI : Hid (I = ixC (pthL Ts) k (kcTo (pthL Ts) k).2) := by
            show _ = ixG (fun p => p == pthL Ts (k : Int)) (kcTo (pthL Ts) k).2
            rw [← HPD.out, ← HPS.out]
            by_cases hneg : I < 0
            · have hjn : jl = n4 := by omega
              rw [← HIJ.out, List.take_of_length_le (by rw [HPN.out]; omega)]
            · rw [← HIJ.out]
              exact (ixG_take (by rw [HIJ.out]; omega)).symm
          obtain ⟨wi, hwi⟩ : ∃ X, X = wl := ⟨_, rfl⟩
          subst hwi
          have HCi : Hid (CP 3 43 wi w.heap.size (.slice a3 n3 c3) (.slice a4 n4 c4) vs us (kcTo (pthL Ts) k).1 (kcTo (pthL Ts) k).2) := HC1.out.later HBj.out
          have HPi : Hid (wi.ownsRow w.heap.size 3 inE.n (.slice (some ⟨gp, 0, none⟩) n c2) (pthL Ts (k : Int)).length (cellsG inE (pthL Ts (k : Int)))) := own_below HP1.out HBj.out
          have HBi : Hid (Below w.heap.size w wi) := HB1.out.trans (HBj.out.mono HB1.out.size)
          have HWI : Hid (wo.heap.size ≤ wi.heap.size ∧ w.heap.size ≤ wi.heap.size ∧ gp < wi.heap.size) := by
            have h1 := HGP.out
            have h2 := HBj.out.size
            have h3 := HBi.out.size
            exact ⟨by omega, by omega, by omega⟩
          obtain ⟨j1, hj1, hy0, hy1, hy2⟩ := info_parts infoSl2
          obtain ⟨i0, hi, hz0, hz1, hz2⟩ := info_parts infoInt
          have hgo2 : (¬ jl < n4) ∨ (¬ I < 0) := by omega
          clear HILS HGSP HPLN HLNG HIJ HBj
          by_cases hneg : I < 0
          · have hjn : ¬ jl < n4 := by omega
            have hd0 : ¬ (jl : Int) < (n4 : Int) := by omega
            go_upto_region 19 with fail
            go_wp2_with (at_builtin; refine wpList_append_blk (E := slE) _ rfl _ _ 31 43 rfl Tryd.underlying31 j1 (.slice none 0 0) 24 hj1 hy0 hy1 hy2 rfl w.heap.size (.slice a4 n4 c4) rfl us ?u0 wi.heap.size 0 1 rfl (some ⟨gp, 0, none⟩, n, c2) (vat_s2 (by simp [slV])) ?u1 ?u2 ?u3 ?_)
            case u0 => exact (HCi.out.keep (gnn_alloc (gnn_refl _) _)).ou
            case u1 => have := HLU.out; unfold maxLen; omega
            case u2 => have := HLU.out; omega
            case u3 => have := HWI.out; simp; omega
            intro u6 w6 ho6 hg6 hb6
            obtain ⟨a6, c6, hu6⟩ := own_form ho6
            subst hu6
            have HU6 : Hid (w6.ownsRow w.heap.size 43 slE.n (.slice a6 (us.length + 1) c6) (us ++ [((some ⟨gp, 0, none⟩, n, c2) : SlT)]).length (cellsG slE (us ++ [((some ⟨gp, 0, none⟩, n, c2) : SlT)]))) := by
              show World.ownsRow _ _ _ _ _ _ _
              rw [List.length_append]
              exact ho6
            have HG6 : Hid ((wi.alloc (Obj.cells #[.slice (some ⟨gp, 0, none⟩) n c2] 43)).grownBy w6 (Value.slice a4 n4 c4).ownBlock) := hg6
            have HB6 : Hid ((slV (a6, us.length + 1, c6)).ownBlock = (Value.slice a4 n4 c4).ownBlock ∨ (slV (a6, us.length + 1, c6)).ownBlock = some (wi.alloc (Obj.cells #[.slice (some ⟨gp, 0, none⟩) n c2] 43)).heap.size) := by
              rcases hb6 with h | h
              · exact .inl h
              · exact .inr (by rw [show (slV (a6, us.length + 1, c6)).ownBlock = _ from h]; simp)
            have HV6 : Hid (w6.ownsRow w.heap.size 43 slE.n (.slice a3 n3 c3) vs.length (cellsG slE vs)) := ((HCi.out.keep (gnn_alloc (gnn_refl _) _)).ov).kept hg6 HCi.out.ne
            have HS6 : Hid (wi.heap.size + 1 ≤ w6.heap.size) := by
              have := hg6.size
              rw [szc1] at this
              exact this
            clear ho6 hg6 hb6
            go_upto_region 20 with fail
            go_wp2_with (at_builtin; refine wpList_append_blk (E := slE) _ rfl _ _ 31 43 rfl Tryd.underlying31 j1 (.slice none 0 0) 24 hj1 hy0 hy1 hy2 rfl w.heap.size (.slice a3 n3 c3) rfl vs ?v0 (w6.heap.size + 1) 0 1 rfl (some ⟨w6.heap.size, 0, none⟩, 1, 1) (vat_s2 (by simp [slV])) ?v1 ?v2 ?v3 ?_)
            case v0 => exact HV6.out.kept (gnn_alloc (gnn_alloc (gnn_refl _) _) _) (none_or _)
            case v1 => have := HLV.out; unfold maxLen; omega
            case v2 => have := HLV.out; omega
            case v3 => have := HWI.out; have := HS6.out; simp; omega
            intro v5 w5 ho5 hg5 hb5
            have HFIN : Hid (CP 3 43 w5 w.heap.size v5 (.slice a6 (us.length + 1) c6) (vs ++ [((some ⟨w6.heap.size, 0, none⟩, 1, 1) : SlT)]) (us ++ [((some ⟨gp, 0, none⟩, n, c2) : SlT)]) (kcTo (pthL Ts) (k + 1)).1 (kcTo (pthL Ts) (k + 1)).2 ∧ Below w.heap.size w w5) := by
              have hI := HI.out
              rw [hI] at hneg
              show _ ∧ _
              rw [kc_yes hneg]
              have hw := HWI.out
              have hs6 := HS6.out
              have hgp := HGP.out
              have x1 := (own_num2 (B := w.heap.size) w6 (k : Int) (by omega)).kept (gnn_alloc (gnn_refl (w6.alloc (Obj.cells #[.int .i64 (k : Int)] 3))) (Obj.cells #[.slice (some ⟨w6.heap.size, 0, none⟩) 1 1] 43)) (none_or _)
              have p1 : (wi.alloc (Obj.cells #[.slice (some ⟨gp, 0, none⟩) n c2] 43)).ownsRow w.heap.size 3 inE.n (slV (some ⟨gp, 0, none⟩, n, c2)) (pthL Ts (k : Int)).length (cellsG inE (pthL Ts (k : Int))) := HPi.out.kept (gnn_alloc (gnn_refl _) _) (none_or _)
              have ho5' : w5.ownsRow w.heap.size 43 slE.n v5 (vs ++ [((some ⟨w6.heap.size, 0, none⟩, 1, 1) : SlT)]).length (cellsG slE (vs ++ [((some ⟨w6.heap.size, 0, none⟩, 1, 1) : SlT)])) := by
                rw [List.length_append]
                exact ho5
              have hb5' : v5.ownBlock = (Value.slice a3 n3 c3).ownBlock ∨ v5.ownBlock = some ((w6.alloc (Obj.cells #[.int .i64 (k : Int)] 3)).alloc (Obj.cells #[.slice (some ⟨w6.heap.size, 0, none⟩) 1 1] 43)).heap.size := by
                rcases hb5 with h | h
                · exact .inl h
                · exact .inr (by rw [h]; simp)
              obtain ⟨r1, r2⟩ := HCi.out.swap.seq (by decide) hw.2.1 p1 (fun y hy e => by
                  have hy' : y ∈ vs ++ us := by
                    rw [List.mem_append] at hy ⊢
                    exact hy.symm
                  have := HCP.out.old y hy' gp e
                  omega) x1 (fun y hy e => by
                  have hy' : y ∈ vs ++ us := by
                    rw [List.mem_append] at hy ⊢
                    exact hy.symm
                  have := HCi.out.old y hy' w6.heap.size e
                  omega) (fun e => by
                  have e2 : some gp = some w6.heap.size := e
                  simp at e2
                  omega) (gnn_alloc (gnn_refl _) _) HG6.out HU6.out HB6.out (gnn_alloc (gnn_alloc (gnn_refl _) _) _) hg5 ho5' hb5' (gnn_refl _)
              exact ⟨r1.swap, HBi.out.trans r2⟩
            clear ho5 hg5 hb5
            go_wp2
            go_roundw
            case rel => exact ⟨k + 1, _, _, by omega, by go_num, HFIN.out.1, HFIN.out.2⟩
            case measure => simp [intOf]; omega
          · obtain ⟨j, hj9⟩ : ∃ jx : Nat, I = (jx : Int) := ⟨I.toNat, by omega⟩
            have hIn := HI.out
            obtain ⟨q1, _⟩ := ixG_lt (show 0 ≤ ixG (fun p => p == pthL Ts (k : Int)) (kcTo (pthL Ts) k).2 by
              have h9 : I = ixG (fun p => p == pthL Ts (k : Int)) (kcTo (pthL Ts) k).2 := hIn
              omega)
            have q2 : j < (kcTo (pthL Ts) k).2.length := by
              have h9 : I = ixG (fun p => p == pthL Ts (k : Int)) (kcTo (pthL Ts) k).2 := hIn
              omega
            have q3 := kc_len (pthL Ts) k
            have hjC : j < (kcTo (pthL Ts) k).1.length := by omega
            have hjv : j < vs.length := by rw [HCi.out.lv]; exact hjC
            have HKN : Hid (kcTo (pthL Ts) (k + 1) = ((kcTo (pthL Ts) k).1.set j ((kcTo (pthL Ts) k).1[j] ++ [(k : Int)]), (kcTo (pthL Ts) k).2)) := by
              show _ = _
              rw [kc_no (by rw [← hIn]; exact hneg), ← hIn, hj9, Int.toNat_natCast]
              congr 2
              simp [List.getD, hjC]
            have HSZ : Hid ((kcTo (pthL Ts) k).1[j].length ≤ 16) := by
              have := (kc_size (f := pthL Ts) hjC).2
              show _ ≤ _
              omega
            obtain ⟨L, hL⟩ : ∃ L, L = (kcTo (pthL Ts) k).1[j] := ⟨_, rfl⟩
            rw [← hL] at HKN HSZ
            have HRW := HCi.out.rv j vs[j] L (List.getElem?_eq_getElem hjv) (by rw [hL]; exact List.getElem?_eq_getElem hjC)
            obtain ⟨x, hx⟩ : ∃ x, x = vs[j] := ⟨_, rfl⟩
            rw [← hx] at HRW
            have HX : Hid (vs[j]? = some x) := by
              show _ = _
              rw [hx]
              exact List.getElem?_eq_getElem hjv
            have HRX : Hid (wi.ownsRow w.heap.size 3 inE.n (slV x) L.length (cellsG inE L)) := HRW
            have hgv : ∃ g, a3 = some ⟨g, 0, none⟩ := by
              rcases HCi.out.ov.2 with ⟨_, h0⟩ | ⟨g, _, _, h0, _⟩
              · omega
              · simp only [Value.slice.injEq] at h0
                exact ⟨g, h0.1⟩
            obtain ⟨g3, hg3⟩ := hgv
            subst hg3
            have hcl : ∀ W : World, W.ownsRow w.heap.size 43 slE.n (.slice (some ⟨g3, 0, none⟩) n3 c3) vs.length (cellsG slE vs) → W.cell? ⟨g3, j, none⟩ = some (slV x) ∧ W.frozen? ⟨g3, j, none⟩ = false := by
              intro W h
              have hl : vs.length = n3 := HN3.out
              rw [hl] at h
              refine ⟨?_, h.frozenAt j⟩
              rw [h.cellAt j (by show j < n3 * 1; omega), sl_cells, List.getElem?_map, HX.out]
              rfl
            have HCLW : Hid (∀ W : World, W.ownsRow w.heap.size 43 slE.n (.slice (some ⟨g3, 0, none⟩) n3 c3) vs.length (cellsG slE vs) → W.cell? ⟨g3, j, none⟩ = some (slV x) ∧ W.frozen? ⟨g3, j, none⟩ = false) := hcl
            obtain ⟨xa, xn, xc⟩ := x
            have d0 : wi.cell? ⟨g3, j, none⟩ = some (.slice xa xn xc) := (hcl _ HCi.out.ov).1
            have jb0 : (0 : Int) ≤ (j : Int) := by omega
            have jb1 : (j : Int) < (n3 : Int) := by have := HN3.out; omega
            have HC9 : Hid (CP 3 43 (wi.alloc (Obj.cells #[.int .i64 (k : Int)] 3)) w.heap.size (.slice (some ⟨g3, 0, none⟩) n3 c3) (.slice a4 n4 c4) vs us (kcTo (pthL Ts) k).1 (kcTo (pthL Ts) k).2) := HCi.out.keep (gnn_alloc (gnn_refl _) _)
            have HR9 : Hid ((wi.alloc (Obj.cells #[.int .i64 (k : Int)] 3)).ownsRow w.heap.size 3 inE.n (.slice xa xn xc) L.length (cellsG inE L)) := HRX.out.kept (gnn_alloc (gnn_refl _) _) (none_or _)
            have hd0 : ¬ (j : Int) < 0 := by omega
            subst hj9
            clear hneg hIn q1 q2 q3 hjC hjv hL HRW hx hcl HI HRX
            by_cases hjn : jl < n4
            · have hjd : (jl : Int) < (n4 : Int) := by omega
              go_upto_region 21 with fail
              go_wp2_with (at_builtin; refine wpList_append_blk (E := inE) _ rfl _ _ 43 3 rfl Tryd.underlying43 i0 (.int .i64 0) 8 hi hz0 hz1 hz2 rfl w.heap.size (.slice xa xn xc) rfl L HR9.out wi.heap.size 0 1 rfl (k : Int) (vat_n2 (by simp)) ?a1 ?a2 ?a3 ?_)
              case a1 => have := HSZ.out; unfold maxLen; omega
              case a2 => have := HSZ.out; omega
              case a3 => have := HWI.out; simp; omega
              intro v7 w7 ho7 hg7 hb7
              obtain ⟨a7, c7, hv7⟩ := own_form ho7
              obtain ⟨n7, hn7⟩ : ∃ m, m = L.length + 1 := ⟨_, rfl⟩
              rw [← hn7] at hv7
              subst hv7
              have hov7 := HC9.out.ov.kept hg7 (own_rows2 HC9.out.ov HR9.out (by decide))
              obtain ⟨d7, z7⟩ := HCLW.out _ hov7
              have hd7 : w7.cell? ⟨g3, j, none⟩ = some (.slice xa xn xc) := d7
              have HPUT : Hid (CP 3 43 (w7.setCell ⟨g3, j, none⟩ (.slice a7 n7 c7)) w.heap.size (.slice (some ⟨g3, 0, none⟩) n3 c3) (.slice a4 n4 c4) (vs.set j (a7, n7, c7)) us (kcTo (pthL Ts) (k + 1)).1 (kcTo (pthL Ts) (k + 1)).2) := by
                have ho8 : w7.ownsRow w.heap.size 3 inE.n (slV (a7, n7, c7)) (L ++ [(k : Int)]).length (cellsG inE (L ++ [(k : Int)])) := by
                  rw [List.length_append]
                  exact ho7
                have hb8 : (slV (a7, n7, c7)).ownBlock = (slV (xa, xn, xc)).ownBlock ∨ (slV (a7, n7, c7)).ownBlock = some (wi.alloc (Obj.cells #[.int .i64 (k : Int)] 3)).heap.size := by
                  rcases hb7 with h | h
                  · exact .inl h
                  · exact .inr (by rw [show (slV (a7, n7, c7)).ownBlock = _ from h]; simp)
                have := HC9.out.put (by decide) (x' := (a7, n7, c7)) HX.out hg7 ho8 hb8 rfl
                rw [HKN.out]
                exact this
              have HBP : Hid (Below w.heap.size w (w7.setCell ⟨g3, j, none⟩ (.slice a7 n7 c7))) := by
                have b1 : Below w.heap.size w (wi.alloc (Obj.cells #[.int .i64 (k : Int)] 3)) := HBi.out.alloc HBi.out.size _
                have b2 := b1.trans (below_grown hg7 b1.size (fun q e => (HR9.out.lt q e).1))
                exact b2.setCell (p := ⟨g3, j, none⟩) ((HC9.out.ov.lt g3 rfl).1) _
              clear ho7 hg7 hb7 hov7 d7 hn7 d0 HC9 HR9
              go_wp2
              go_roundw
              case rel => exact ⟨k + 1, _, us, by omega, by go_num, HPUT.out, HBP.out⟩
              case measure => simp [intOf]; omega
            · have hjd : ¬ (jl : Int) < (n4 : Int) := by omega
              go_upto_region 21 with fail
              go_wp2_with (at_builtin; refine wpList_append_blk (E := inE) _ rfl _ _ 43 3 rfl Tryd.underlying43 i0 (.int .i64 0) 8 hi hz0 hz1 hz2 rfl w.heap.size (.slice xa xn xc) rfl L HR9.out wi.heap.size 0 1 rfl (k : Int) (vat_n2 (by simp)) ?a1 ?a2 ?a3 ?_)
              case a1 => have := HSZ.out; unfold maxLen; omega
              case a2 => have := HSZ.out; omega
              case a3 => have := HWI.out; simp; omega
              intro v7 w7 ho7 hg7 hb7
              obtain ⟨a7, c7, hv7⟩ := own_form ho7
              obtain ⟨n7, hn7⟩ : ∃ m, m = L.length + 1 := ⟨_, rfl⟩
              rw [← hn7] at hv7
              subst hv7
              have hov7 := HC9.out.ov.kept hg7 (own_rows2 HC9.out.ov HR9.out (by decide))
              obtain ⟨d7, z7⟩ := HCLW.out _ hov7
              have hd7 : w7.cell? ⟨g3, j, none⟩ = some (.slice xa xn xc) := d7
              have HPUT : Hid (CP 3 43 (w7.setCell ⟨g3, j, none⟩ (.slice a7 n7 c7)) w.heap.size (.slice (some ⟨g3, 0, none⟩) n3 c3) (.slice a4 n4 c4) (vs.set j (a7, n7, c7)) us (kcTo (pthL Ts) (k + 1)).1 (kcTo (pthL Ts) (k + 1)).2) := by
                have ho8 : w7.ownsRow w.heap.size 3 inE.n (slV (a7, n7, c7)) (L ++ [(k : Int)]).length (cellsG inE (L ++ [(k : Int)])) := by
                  rw [List.length_append]
                  exact ho7
                have hb8 : (slV (a7, n7, c7)).ownBlock = (slV (xa, xn, xc)).ownBlock ∨ (slV (a7, n7, c7)).ownBlock = some (wi.alloc (Obj.cells #[.int .i64 (k : Int)] 3)).heap.size := by
                  rcases hb7 with h | h
                  · exact .inl h
                  · exact .inr (by rw [show (slV (a7, n7, c7)).ownBlock = _ from h]; simp)
                have := HC9.out.put (by decide) (x' := (a7, n7, c7)) HX.out hg7 ho8 hb8 rfl
                rw [HKN.out]
                exact this
              have HBP : Hid (Below w.heap.size w (w7.setCell ⟨g3, j, none⟩ (.slice a7 n7 c7))) := by
                have b1 : Below w.heap.size w (wi.alloc (Obj.cells #[.int .i64 (k : Int)] 3)) := HBi.out.alloc HBi.out.size _
                have b2 := b1.trans (below_grown hg7 b1.size (fun q e => (HR9.out.lt q e).1))
                exact b2.setCell (p := ⟨g3, j, none⟩) ((HC9.out.ov.lt g3 rfl).1) _
              clear ho7 hg7 hb7 hov7 d7 hn7 d0 HC9 HR9
              go_wp2
              go_roundw
              case rel => exact ⟨k + 1, _, us, by omega, by go_num, HPUT.out, HBP.out⟩
              case measure => simp [intOf]; omega
    · obtain rfl : k = 16 := by omega
      go_wp2
      go_ret
      exact ⟨_, _, vs, us, rfl, HCP.out, HB.out⟩
end Go.Proofs.YtfbocionnjliladDoor
/- What railref1.Spot, Host, Named, Peer, Joined answer: contracts for the walks above them. -/
namespace Go.Proofs.YtfbocionnjliladDoor
open Go.RowKit
set_option linter.unusedSimpArgs false
set_option linter.unusedVariables false

/-- Two boxes: a topology, a spot. -/
structure B2 (w W : World) (S : Int) (v1 v2 : Value) (x y : Int) : Prop where
  below : Below w.heap.size w W
  t : TBox W w.heap.size S v1 v2
  s0 : W.cell? ⟨w.heap.size + 1, 0, none⟩ = some (.int .i64 x)
  s1 : W.cell? ⟨w.heap.size + 1, 1, none⟩ = some (.int .i64 y)
theorem B2.later {w W W' : World} {S : Int} {v1 v2 : Value} {x y : Int} (h : B2 w W S v1 v2 x y) (hb : Below W.heap.size W W') : B2 w W' S v1 v2 x y :=
  ⟨h.below.trans (hb.mono h.below.size), h.t.later hb, cell_later hb h.s0, cell_later hb h.s1⟩
theorem b2_new (w : World) (S : Int) (v1 v2 : Value) (x y : Int) : B2 w ((w.alloc (Obj.cells #[.int .i64 S, v1, v2] 25)).alloc (Obj.cells #[.int .i64 x, .int .i64 y] 53)) S v1 v2 x y := by
  have hb1 : Below w.heap.size w (w.alloc (Obj.cells #[.int .i64 S, v1, v2] 25)) := (Below.refl _ _).alloc (Nat.le_refl _) _
  have h := spo_new (w.alloc (Obj.cells #[.int .i64 S, v1, v2] 25)) x y 53
  have e1 : (w.alloc (Obj.cells #[.int .i64 S, v1, v2] 25)).heap.size = w.heap.size + 1 := by simp
  rw [e1] at h
  obtain ⟨s0, s1⟩ := spo_cells h
  exact ⟨hb1.alloc hb1.size _, (tbox_new w S v1 v2 25).later ((Below.refl _ _).alloc (Nat.le_refl _) _), s0, s1⟩

set_option maxHeartbeats 1000000 in
set_option maxRecDepth 100000 in
theorem rspot_any (S : Int) (ao : Option Addr) (n cap : Nat) (ao2 : Option Addr) (n2 cap2 : Nat) (x y : Int) (w : World) :
    Calls Tryd.prog 53 #[.agg #[.int .i64 S, .slice ao n cap, .slice ao2 n2 cap2], .agg #[.int .i64 x, .int .i64 y]] w fun e w' => e = .returned (.bool (spB S (x, y))) ∧ Below w.heap.size w w' := by
  have HB : Hid (Below w.heap.size w ((w.alloc (Obj.cells #[.int .i64 S, .slice ao n cap, .slice ao2 n2 cap2] 25)).alloc (Obj.cells #[.int .i64 x, .int .i64 y] 53))) := (b2_new w S _ _ x y).below
  have hr : spB S (x, y) = (decide (1 ≤ x) && (decide (x ≤ S) && (decide (1 ≤ y) && decide (y ≤ 4)))) := rfl
  rw [hr]
  clear hr
  cases g1 : decide (1 ≤ x)
  · simp only [Bool.false_and]
    go_enter Tryd.func53, Tryd.ntmps53
    go_wp2
    go_ret
    exact ⟨rfl, HB.out⟩
  · cases g2 : decide (x ≤ S)
    · simp only [Bool.false_and, Bool.and_false]
      go_enter Tryd.func53, Tryd.ntmps53
      go_wp2
      go_ret
      exact ⟨rfl, HB.out⟩
    · cases g3 : decide (1 ≤ y)
      · simp only [Bool.false_and, Bool.and_false]
        go_enter Tryd.func53, Tryd.ntmps53
        go_wp2
        go_ret
        exact ⟨rfl, HB.out⟩
      · simp only [Bool.true_and]
        obtain ⟨r, hr⟩ : ∃ r, r = decide (y ≤ 4) := ⟨_, rfl⟩
        go_enter Tryd.func53, Tryd.ntmps53
        go_wp2
        go_ret
        exact ⟨rfl, HB.out⟩

end Go.Proofs.YtfbocionnjliladDoor
/- What railref1.Name answers: a contract for the walks above it. -/
namespace Go.Proofs.YtfbocionnjliladDoor
open Go.RowKit
set_option linter.unusedSimpArgs false
set_option linter.unusedVariables false

theorem byte_lst (s : ByteArray) : s.toList = s.data.toList := by rw [Lib.toList_data]
theorem size_lst (s : ByteArray) : s.data.toList.length = s.size := by simp
/-- Is a byte a letter? -/
def ltB (c : UInt8) : Bool := decide (97 ≤ c.toNat) && decide (c.toNat ≤ 122)
theorem lt_at (s : ByteArray) (k : Nat) (h : k < s.size) : s.data.toList[k]'(by simpa using h) = s[k] := by simp [ByteArray.getElem_eq_getElem_data]
theorem rnm_eq (s : ByteArray) : nmB s = (decide (1 ≤ s.size) && (decide (s.size ≤ 6) && s.data.toList.all ltB)) := rfl

set_option maxHeartbeats 1000000 in
set_option maxRecDepth 100000 in
theorem rname_any (s : ByteArray) (w : World) :
    Calls Tryd.prog 54 #[.string s] w fun e w' => e = .returned (.bool (nmB s)) ∧ w' = w := by
  by_cases h0 : s.size = 0
  · have e0 : s.toList.isEmpty = true := by
      rw [byte_lst, List.isEmpty_iff, ← List.length_eq_zero_iff, size_lst, h0]
    have HR : Hid (nmB s = false) := by
      show _ = _
      rw [rnm_eq, h0]
      rfl
    rw [HR.out]
    go_enter Tryd.func54, Tryd.ntmps54
    go_wp2
    go_ret
    exact ⟨rfl, rfl⟩
  · have e0 : s.toList.isEmpty = false := by
      rw [byte_lst, ← Bool.not_eq_true, List.isEmpty_iff, ← List.length_eq_zero_iff, size_lst]; exact h0
    by_cases h6 : 6 < s.size
    · have e6 : decide ((6 : Int) < (s.size : Int)) = true := by simp; omega
      have HR : Hid (nmB s = false) := by
        show _ = _
        have : ¬ s.size ≤ 6 := by omega
        rw [rnm_eq]
        simp [this]
      rw [HR.out]
      go_enter Tryd.func54, Tryd.ntmps54
      go_wp2
      go_ret
      exact ⟨rfl, rfl⟩
    · have e6 : decide ((6 : Int) < (s.size : Int)) = false := by simp; omega
      have HR : Hid (nmB s = s.data.toList.all ltB) := by
        show _ = _
        have h1 : 1 ≤ s.size := by omega
        have h2 : s.size ≤ 6 := by omega
        rw [rnm_eq]
        simp [h1, h2]
      obtain ⟨R, hR⟩ : ∃ R, R = nmB s := ⟨_, rfl⟩
      have HRR : Hid (R = nmB s) := hR
      rw [← hR]
      clear hR
      go_enter Tryd.func54, Tryd.ntmps54
      go_wp2
      go_loopw [3] (fun i wr => ∃ k : Nat, k ≤ s.size ∧ i = .int .i64 k ∧ (s.data.toList.take k).all ltB = true ∧ wr = w) (fun i _ => s.size - (intOf i).toNat)
      case atStart => exact ⟨0, by omega, rfl, by simp, rfl⟩
      case round =>
        obtain ⟨k, hk, rfl, hall, rfl⟩ := hrel
        have HALL : Hid ((s.data.toList.take k).all ltB = true) := hall
        clear hall
        by_cases hlt : k < s.size
        · have HNX : Hid (ltB s[k] = true → (s.data.toList.take (k + 1)).all ltB = true) := fun hy => by
            have hk2 : k < s.data.toList.length := by simpa using hlt
            rw [List.take_succ_eq_append_getElem hk2, List.all_append, HALL.out, lt_at s k hlt]
            simp [hy]
          have HNO : Hid (ltB s[k] = false → R = false) := fun hn => by
            rw [HRR.out, HR.out]
            cases ha : s.data.toList.all ltB
            · rfl
            · have hk2 : k < s.data.toList.length := by simpa using hlt
              have := List.all_eq_true.1 ha _ (List.getElem_mem hk2)
              rw [lt_at s k hlt, hn] at this
              cases this
          by_cases g1 : s[k].toNat < 97
          · have d1 : decide ((s[k].toNat : Int) < 97) = true := by simp; omega
            have HF : Hid (R = false) := HNO.out (by unfold ltB; simp; omega)
            go_wp2
            go_ret
            exact ⟨by rw [HF.out]; rfl, rfl⟩
          · have d1 : decide ((s[k].toNat : Int) < 97) = false := by simp; omega
            by_cases g2 : 122 < s[k].toNat
            · have d2 : decide (122 < (s[k].toNat : Int)) = true := by simp; omega
              have HF : Hid (R = false) := HNO.out (by unfold ltB; simp; omega)
              go_wp2
              go_ret
              exact ⟨by rw [HF.out]; rfl, rfl⟩
            · have d2 : decide (122 < (s[k].toNat : Int)) = false := by simp; omega
              have HY : Hid ((s.data.toList.take (k + 1)).all ltB = true) := HNX.out (by unfold ltB; simp; omega)
              go_wp2
              go_roundw
              case rel => exact ⟨k + 1, by omega, by go_num, HY.out, by first | rfl | trivial⟩
              case measure => simp [intOf]; omega
        · obtain rfl : k = s.size := by omega
          have HF : Hid (R = true) := by
            show _ = _
            have h1 := HALL.out
            rw [← size_lst, List.take_length] at h1
            rw [HRR.out, HR.out, h1]
          go_wp2
          go_ret
          exact ⟨by rw [HF.out]; rfl, rfl⟩
end Go.Proofs.YtfbocionnjliladDoor
/- What railref1.Topo answers: a contract for the walks above it. -/
namespace Go.Proofs.YtfbocionnjliladDoor
open Go.RowKit
set_option linter.unusedSimpArgs false
set_option linter.unusedVariables false

theorem below_drewN (w : World) (n : Nat) : Below w.heap.size w (w.drewN n) := ⟨rfl, rfl, rfl, Nat.le_refl _, fun _ _ => rfl⟩
theorem eq2_ways (a b c d : Int) : ((a == c && b == d) = true ∧ (a == c) = true ∧ (b == d) = true) ∨ ((a == c && b == d) = false ∧ (a == c) = true ∧ (b == d) = false) ∨ ((a == c && b == d) = false ∧ (a == c) = false) := by
  cases a == c <;> cases b == d <;> simp
theorem pr_beq (a b c d : Int) : (((a, b) : Int × Int) == (c, d)) = (a == c && b == d) := rfl
theorem any_take {α : Type} {L : List α} {f : α → Bool} (h : (L.take L.length).any f = false) : L.any f = false := by simpa using h

theorem own_two {W : World} {B e : Nat} {v : Value} {U : List (Int × Int)} {m : Nat} {x0 x1 x2 x3 : Int} (hm : U.length = m) (h : W.ownsRow B e 2 v (m + 1 + 1) (cellsG spoE U ++ [.int .i64 x0, .int .i64 x1, .int .i64 x2, .int .i64 x3])) :
    W.ownsRow B e 2 v (U ++ [(x0, x1), (x2, x3)]).length (cellsG spoE (U ++ [(x0, x1), (x2, x3)])) := by
  subst hm
  have e1 : cellsG spoE (U ++ [(x0, x1), (x2, x3)]) = cellsG spoE U ++ [.int .i64 x0, .int .i64 x1, .int .i64 x2, .int .i64 x3] := by
    rw [cellsG_app]
    simp [cellsG, spoE]
  rw [e1]
  simpa using h
theorem own_one1 {W : World} {B e : Nat} {v : Value} {U : List (Int × Int)} {m : Nat} {x0 x1 : Int} (hm : U.length = m) (h : W.ownsRow B e 2 v (m + 1) (cellsG spoE U ++ [.int .i64 x0, .int .i64 x1])) :
    W.ownsRow B e 2 v (U ++ [(x0, x1)]).length (cellsG spoE (U ++ [(x0, x1)])) := by
  subst hm
  have e1 : cellsG spoE (U ++ [(x0, x1)]) = cellsG spoE U ++ [.int .i64 x0, .int .i64 x1] := by
    rw [cellsG_app]
    simp [cellsG, spoE]
  rw [e1]
  simpa using h
/-- A block that is not the row's own is as it was. -/
theorem grown_cell {W w' : World} {v : Value} {g : Nat} (h : W.grownBy w' v.ownBlock) (hl : g < W.heap.size) (hn : ∀ k, v.ownBlock = some k → k ≠ g) (i : Nat) : w'.cell? ⟨g, i, none⟩ = W.cell? ⟨g, i, none⟩ :=
  World.cell?_of_block (w := W) (a := ⟨g, i, none⟩) (h.block g hl (fun e => hn g (by first | exact e | exact e.symm) rfl))

set_option maxHeartbeats 8000000 in
set_option maxRecDepth 100000 in
theorem rtopo_any (S : Int) (ao : Option Addr) (n cap : Nat) (ao2 : Option Addr) (n2 cap2 : Nat) (Ls : List ((Int × Int) × (Int × Int))) (Hs : List (ByteArray × (Int × Int))) (w : World)
    (hL : GS lnkE w (.slice ao n cap) Ls) (hH : GS hstE w (.slice ao2 n2 cap2) Hs) :
    Calls Tryd.prog 26 #[.agg #[.int .i64 S, .slice ao n cap, .slice ao2 n2 cap2]] w fun e w' => e = .returned (.int .i64 (tpN S Ls Hs)) ∧ Below w.heap.size w w' := by
  obtain ⟨_, _, _, e1, hLn, hLm, _, hLa⟩ := hL.form
  cases e1
  obtain ⟨_, _, _, e2, hHn, hHm, _, hHa⟩ := hH.form
  cases e2
  have HLN : Hid (Ls.length = n) := hLn
  have HHN : Hid (Hs.length = n2) := hHn
  have HLA : Hid (0 < n → ∃ g o, ao = some ⟨g, o, none⟩ ∧ GAt lnkE w g o Ls ∧ cap ≤ maxLen) := hLa
  have HHA : Hid (0 < n2 → ∃ g o, ao2 = some ⟨g, o, none⟩ ∧ GAt hstE w g o Hs ∧ cap2 ≤ maxLen) := hHa
  obtain ⟨T, hT⟩ : ∃ T, T = tpN S Ls Hs := ⟨_, rfl⟩
  have HT : Hid (T = tpN S Ls Hs) := hT
  rw [← hT]
  have hX := tbox_new w S (.slice ao n cap) (.slice ao2 n2 cap2) 25
  have hB : Below w.heap.size w (w.alloc (Obj.cells #[.int .i64 S, .slice ao n cap, .slice ao2 n2 cap2] 25)) := (Below.refl _ _).alloc (Nat.le_refl _) _
  have HB0' : Hid (Below w.heap.size w (w.alloc (Obj.cells #[.int .i64 S, .slice ao n cap, .slice ao2 n2 cap2] 25))) := hB
  by_cases h1 : 1 ≤ S
  · by_cases h6 : S ≤ 6
    · by_cases h2 : n ≤ 200
      · by_cases h8 : n2 ≤ 8
        · have s1 : decide (S < 1) = false := by simp; omega
          have s2 : decide (6 < S) = false := by simp; omega
          have s3 : decide (200 < (n : Int)) = false := by simp; omega
          have s4 : decide (8 < (n2 : Int)) = false := by simp; omega
          have HM : Hid (T = if lkN S Ls [] = 0 then hoN S Hs [] (spsL Ls) else lkN S Ls []) := by
            show _ = _
            rw [hT]
            unfold tpN
            have e3 : (decide (1 ≤ S) && decide (S ≤ 6)) = true := by simp [h1, h6]
            have e4 : (decide (Ls.length ≤ 200) && decide (Hs.length ≤ 8)) = true := by simp [hLn, hHn, h2, h8]
            rw [if_pos e3, if_pos e4]
          obtain ⟨w0, hw0⟩ : ∃ W, w.alloc (Obj.cells #[.int .i64 S, .slice ao n cap, .slice ao2 n2 cap2] 25) = W := ⟨_, rfl⟩
          rw [hw0] at hX hB
          have HX : Hid (TBox w0 w.heap.size S (.slice ao n cap) (.slice ao2 n2 cap2)) := hX
          have HB : Hid (Below w.heap.size w w0) := hB
          have HW0 : Hid (w.alloc (Obj.cells #[.int .i64 S, .slice ao n cap, .slice ao2 n2 cap2] 25) = w0) := hw0
          have H2 : Hid (n ≤ 200) := h2
          have H8 : Hid (n2 ≤ 8) := h8
          obtain ⟨i0, hi, hz0, hz1, hz2⟩ := info_parts spo_info
          clear hL hH hLn hLm hLa hHn hHm hHa hT hX hB hw0 h1 h6 h2 h8 HB0' HT
          go_enter Tryd.func26, Tryd.ntmps26
          go_wp2
          rw [HW0.out]
          go_loopw [3, 4] (fun u i wr => ∃ k : Nat, k ≤ n ∧ i = .int .i64 k ∧ wr.ownsRow w0.heap.size 53 2 u (spsL (Ls.take k)).length (cellsG spoE (spsL (Ls.take k))) ∧ lkN S Ls [] = lkN S (Ls.drop k) (spsL (Ls.take k)) ∧ Below w0.heap.size w0 wr) (fun _ i _ => n - (intOf i).toNat)
          case atStart => exact ⟨0, by omega, rfl, by simpa [spsL, cellsG] using World.ownsRow_nil _ _ _ _, by simp [spsL], Below.refl _ _⟩
          case round =>
            rename_i u3 u4
            obtain ⟨k, hk, rfl, hown, hlk, hBr⟩ := hrel
            obtain ⟨ao3, cap3, rfl⟩ := own_form hown
            obtain ⟨wo, hwo⟩ : ∃ x, x = wr := ⟨_, rfl⟩
            subst hwo
            have HOWN : Hid (wo.ownsRow w0.heap.size 53 2 (.slice ao3 (spsL (Ls.take k)).length cap3) (spsL (Ls.take k)).length (cellsG spoE (spsL (Ls.take k)))) := hown
            have HLK : Hid (lkN S Ls [] = lkN S (Ls.drop k) (spsL (Ls.take k))) := hlk
            have HBr : Hid (Below w0.heap.size w0 wo) := hBr
            have HBw : Hid (Below w.heap.size w wo) := HB.out.trans (hBr.mono HB.out.size)
            have HXr : Hid (TBox wo w.heap.size S (.slice ao n cap) (.slice ao2 n2 cap2)) := HX.out.later hBr
            obtain ⟨b0, b1, b2⟩ := HXr.out
            have hlw : w.heap.size < wo.heap.size := World.block_lt_of_cell? _ _ b0
            have hn200 : n ≤ 200 := H2.out
            have hlen : (spsL (Ls.take k)).length ≤ 400 := by
              rw [sps_len, List.length_take]
              omega
            obtain ⟨U, hU⟩ : ∃ U, U = spsL (Ls.take k) := ⟨_, rfl⟩
            have HU : Hid (U = spsL (Ls.take k)) := hU
            rw [← hU] at HOWN HLK hlen
            rw [← hU]
            obtain ⟨m, hm⟩ : ∃ m, m = U.length := ⟨_, rfl⟩
            have HMU : Hid (U.length = m) := hm.symm
            rw [← hm] at HOWN hlen
            rw [← hm]
            clear hown hlk hBr hU hm HW0
            by_cases hlt : k < n
            · have HK1 : Hid (k + 1 ≤ n) := hlt
              obtain ⟨g, o, hao, hc, _⟩ := HLA.out (by omega)
              subst hao
              obtain ⟨x0, x1, x2, x3, hkl, hLk, q0, q1, q2, q3⟩ := lnk_at (hc.later HBw.out) HLN.out hlt
              have HLK1 : Hid (lkN S Ls [] = if lk1 S U ((x0, x1), (x2, x3)) = 0 then lkN S (Ls.drop (k + 1)) (U ++ [(x0, x1), (x2, x3)]) else lk1 S U ((x0, x1), (x2, x3))) := by
                show _ = _
                rw [HLK.out, List.drop_eq_getElem_cons hkl, lk_step, hLk]
              have HUN : Hid (spsL (Ls.take (k + 1)) = U ++ [(x0, x1), (x2, x3)]) := by
                show _ = _
                rw [sps_take hkl, hLk, HU.out]
              have HT7 : Hid (lk1 S U ((x0, x1), (x2, x3)) ≠ 0 → T = lk1 S U ((x0, x1), (x2, x3))) := fun h => by
                have e := HLK1.out
                rw [if_neg h] at e
                rw [HM.out, e, if_neg h]
              have HBA : Hid (Below wo.heap.size wo (wo.alloc (Obj.cells #[Value.int IntKind.i64 x0, Value.int IntKind.i64 x1, Value.int IntKind.i64 x2, Value.int IntKind.i64 x3] 110))) := (Below.refl _ _).alloc (Nat.le_refl _) _
              have HBX : Hid (VAt (wo.alloc (Obj.cells #[Value.int IntKind.i64 x0, Value.int IntKind.i64 x1, Value.int IntKind.i64 x2, Value.int IntKind.i64 x3] 110)) wo.heap.size 0 (lnkE.c ((x0, x1), (x2, x3)))) := lnk_new wo x0 x1 x2 x3 110
              clear hLk hc
              go_wp2_with fail
              refine (rspot_any S (some ⟨g, o, none⟩) n cap ao2 n2 cap2 x0 x1 _).mono ?_
              rintro e w2 ⟨rfl, hb2⟩
              have hB2 : Below wo.heap.size wo w2 := HBA.out.trans (hb2.mono HBA.out.size)
              have HB2 : Hid (Below wo.heap.size wo w2) := hB2
              have HV2 : Hid (VAt w2 wo.heap.size 0 (lnkE.c ((x0, x1), (x2, x3)))) := HBX.out.later hb2
              obtain ⟨b0, b1, b2⟩ := HXr.out.later hB2
              obtain ⟨l0, l1, l2, l3⟩ := lnk_cells HV2.out
              simp only [Nat.zero_add] at l0 l1 l2 l3
              have hll : wo.heap.size < w2.heap.size := World.block_lt_of_cell? _ _ l0
              clear hb2 hB2 HBA HBX q0 q1 q2 q3
              go_wp2_with fail
              refine (rspot_any S (some ⟨g, o, none⟩) n cap ao2 n2 cap2 x2 x3 _).mono ?_
              rintro e w3 ⟨rfl, hb3⟩
              have hB3 : Below wo.heap.size wo w3 := HB2.out.trans (hb3.mono HB2.out.size)
              have HB3 : Hid (Below wo.heap.size wo w3) := hB3
              have HB3w : Hid (Below w.heap.size w w3) := HBw.out.trans (hB3.mono HBw.out.size)
              have HV3 : Hid (VAt w3 wo.heap.size 0 (lnkE.c ((x0, x1), (x2, x3)))) := HV2.out.later hb3
              obtain ⟨b0, b1, b2⟩ := HXr.out.later hB3
              obtain ⟨l0, l1, l2, l3⟩ := lnk_cells HV3.out
              simp only [Nat.zero_add] at l0 l1 l2 l3
              have hll : wo.heap.size < w3.heap.size := World.block_lt_of_cell? _ _ l0
              clear hb3 hB3 HV2 HB2
              cases hsa : spB S (x0, x1)
              · have HT1 : Hid (T = 1) := by
                  have e : lk1 S U ((x0, x1), (x2, x3)) = 1 := by simp [lk1, hsa]
                  have := HT7.out (by rw [e]; decide)
                  rw [e] at this
                  exact this
                go_wp2
                go_ret
                exact ⟨by rw [HT1.out]; rfl, HB3w.out⟩
              · cases hsb : spB S (x2, x3)
                · have HT1 : Hid (T = 1) := by
                    have e : lk1 S U ((x0, x1), (x2, x3)) = 1 := by simp [lk1, hsa, hsb]
                    have := HT7.out (by rw [e]; decide)
                    rw [e] at this
                    exact this
                  go_wp2
                  go_ret
                  exact ⟨by rw [HT1.out]; rfl, HB3w.out⟩
                · have HL7 : Hid (lk1 S U ((x0, x1), (x2, x3)) = if (x0 == x2 && x1 == x3) || (U.any fun u => u == (x0, x1) || u == (x2, x3)) then 7 else 0) := by
                    show _ = _
                    simp only [lk1, hsa, hsb, Bool.and_self, if_true, pr_beq]
                  rcases eq2_ways x0 x1 x2 x3 with ⟨g0, g1, g2⟩ | hne
                  · have HT1 : Hid (T = 7) := by
                      have e : lk1 S U ((x0, x1), (x2, x3)) = 7 := by rw [HL7.out, g0]; rfl
                      have := HT7.out (by rw [e]; decide)
                      rw [e] at this
                      exact this
                    go_wp2
                    go_ret
                    exact ⟨by rw [HT1.out]; rfl, HB3w.out⟩
                  · have hg0 : (x0 == x2 && x1 == x3) = false := by
                      rcases hne with ⟨h, _⟩ | ⟨h, _⟩ <;> exact h
                    have HL8 : Hid (lk1 S U ((x0, x1), (x2, x3)) = if (U.any fun u => u == (x0, x1) || u == (x2, x3)) then 7 else 0) := by
                      show _ = _
                      rw [HL7.out, hg0, Bool.false_or]
                    obtain ⟨_, _, _, e5, hUn, hUm, _, hUa⟩ := (own_GS (E := spoE) (L := U) (by rw [HMU.out]; exact HOWN.out) : GS spoE wo (.slice ao3 m cap3) U).form
                    cases e5
                    have HUA : Hid (0 < m → ∃ g o, ao3 = some ⟨g, o, none⟩ ∧ GAt spoE wo g o U ∧ cap3 ≤ maxLen) := hUa
                    clear hUn hUm hUa hg0
                    go_upto_region 14 with fail
                    go_cut [63] from 59 to 63 (fun c w' => c = .bool false ∧ w' = w3)
                    case first =>
                      rcases hne with ⟨_, g1, g2⟩ | ⟨_, g1⟩
                      · go_wp2_with fail
                        go_meet
                        case rel => exact ⟨rfl, rfl⟩
                      · go_wp2_with fail
                        go_meet
                        case rel => exact ⟨rfl, rfl⟩
                    case rest =>
                      obtain ⟨rfl, hwc⟩ := hcut
                      subst hwc
                      clear hne
                      go_wp2
                      go_loopw [8] (fun j wz => ∃ q : Nat, q ≤ m ∧ j = .int .i64 q ∧ (U.take q).any (fun u => u == (x0, x1) || u == (x2, x3)) = false ∧ Below wc.heap.size wc wz) (fun j _ => m - (intOf j).toNat)
                      case atStart => exact ⟨0, by omega, rfl, by simp, Below.refl _ _⟩
                      case round =>
                        obtain ⟨q, hq, rfl, hno, hBz⟩ := hrel
                        have HNO : Hid ((U.take q).any (fun u => u == (x0, x1) || u == (x2, x3)) = false) := hno
                        have HBz : Hid (Below wo.heap.size wo wr) := HB3.out.trans (hBz.mono HB3.out.size)
                        have HBc : Hid (Below wc.heap.size wc wr) := hBz
                        have HBzw : Hid (Below w.heap.size w wr) := HBw.out.trans (HBz.out.mono HBw.out.size)
                        obtain ⟨b0, b1, b2⟩ := HXr.out.later HBz.out
                        have HVz : Hid (VAt wr wo.heap.size 0 (lnkE.c ((x0, x1), (x2, x3)))) := HV3.out.later hBz
                        obtain ⟨l0, l1, l2, l3⟩ := lnk_cells HVz.out
                        simp only [Nat.zero_add] at l0 l1 l2 l3
                        have hll : wo.heap.size < wr.heap.size := World.block_lt_of_cell? _ _ l0
                        clear hno hBz
                        by_cases hqm : q < m
                        · obtain ⟨g3, o3, hao3, hc3, _⟩ := HUA.out (by omega)
                          subst hao3
                          obtain ⟨v0, v1, hql, hUq, p0, p1⟩ := spo_at (hc3.later HBz.out) HMU.out hqm
                          have HUQ : Hid (U[q] = (v0, v1)) := hUq
                          have qb0 : (0 : Int) ≤ (q : Int) := by omega
                          have qb1 : (q : Int) < (m : Int) := by omega
                          have hgl3 : g3 < wr.heap.size := World.block_lt_of_cell? _ _ p0
                          have HHIT : Hid (((v0 == x0 && v1 == x1) || (v0 == x2 && v1 == x3)) = true → T = 7) := fun hy => by
                            have e : lk1 S U ((x0, x1), (x2, x3)) = 7 := by
                              rw [HL8.out, any_hitG hql (by rw [HUQ.out]; exact hy)]
                              rfl
                            have := HT7.out (by rw [e]; decide)
                            rw [e] at this
                            exact this
                          have HNXT : Hid (((v0 == x0 && v1 == x1) || (v0 == x2 && v1 == x3)) = false → (U.take (q + 1)).any (fun u => u == (x0, x1) || u == (x2, x3)) = false) := fun hy => any_nextG hql HNO.out (by rw [HUQ.out]; exact hy)
                          clear hc3 hUq
                          rcases eq2_ways v0 v1 x0 x1 with ⟨f0, f1, f2⟩ | ⟨f0, f1, f2⟩ | ⟨f0, f1⟩
                          · have HT1 : Hid (T = 7) := HHIT.out (by rw [f0]; rfl)
                            go_wp2_with fail
                            go_quiet (fail)
                            go_wp2
                            go_ret
                            exact ⟨by rw [HT1.out]; rfl, HBzw.out.trans ((below_drewN _ _).mono HBzw.out.size)⟩
                          · rcases eq2_ways v0 v1 x2 x3 with ⟨d0, d1, d2⟩ | ⟨d0, d1, d2⟩ | ⟨d0, d1⟩
                            · have HT1 : Hid (T = 7) := HHIT.out (by rw [f0, d0]; rfl)
                              go_wp2_with fail
                              go_quiet (fail)
                              go_wp2
                              go_ret
                              exact ⟨by rw [HT1.out]; rfl, HBzw.out.trans ((below_drewN _ _).mono HBzw.out.size)⟩
                            · have HN1 : Hid ((U.take (q + 1)).any (fun u => u == (x0, x1) || u == (x2, x3)) = false) := HNXT.out (by rw [f0, d0]; rfl)
                              go_wp2_with fail
                              go_quiet (fail)
                              go_wp2
                              go_roundw
                              case rel => exact ⟨q + 1, by omega, by go_num, HN1.out, HBc.out.trans ((below_drewN _ _).mono HBc.out.size)⟩
                              case measure => simp [intOf]; omega
                            · have HN1 : Hid ((U.take (q + 1)).any (fun u => u == (x0, x1) || u == (x2, x3)) = false) := HNXT.out (by rw [f0, d0]; rfl)
                              go_wp2_with fail
                              go_quiet (fail)
                              go_wp2
                              go_roundw
                              case rel => exact ⟨q + 1, by omega, by go_num, HN1.out, HBc.out.trans ((below_drewN _ _).mono HBc.out.size)⟩
                              case measure => simp [intOf]; omega
                          · rcases eq2_ways v0 v1 x2 x3 with ⟨d0, d1, d2⟩ | ⟨d0, d1, d2⟩ | ⟨d0, d1⟩
                            · have HT1 : Hid (T = 7) := HHIT.out (by rw [f0, d0]; rfl)
                              go_wp2_with fail
                              go_quiet (fail)
                              go_wp2
                              go_ret
                              exact ⟨by rw [HT1.out]; rfl, HBzw.out.trans ((below_drewN _ _).mono HBzw.out.size)⟩
                            · have HN1 : Hid ((U.take (q + 1)).any (fun u => u == (x0, x1) || u == (x2, x3)) = false) := HNXT.out (by rw [f0, d0]; rfl)
                              go_wp2_with fail
                              go_quiet (fail)
                              go_wp2
                              go_roundw
                              case rel => exact ⟨q + 1, by omega, by go_num, HN1.out, HBc.out.trans ((below_drewN _ _).mono HBc.out.size)⟩
                              case measure => simp [intOf]; omega
                            · have HN1 : Hid ((U.take (q + 1)).any (fun u => u == (x0, x1) || u == (x2, x3)) = false) := HNXT.out (by rw [f0, d0]; rfl)
                              go_wp2_with fail
                              go_quiet (fail)
                              go_wp2
                              go_roundw
                              case rel => exact ⟨q + 1, by omega, by go_num, HN1.out, HBc.out.trans ((below_drewN _ _).mono HBc.out.size)⟩
                              case measure => simp [intOf]; omega
                        · obtain rfl : q = m := by omega
                          have HAN : Hid ((U.any fun u => u == (x0, x1) || u == (x2, x3)) = false) := by
                            have := HNO.out
                            rw [← HMU.out] at this
                            exact any_take this
                          have HL0 : Hid (lkN S Ls [] = lkN S (Ls.drop (k + 1)) (U ++ [(x0, x1), (x2, x3)])) := by
                            show _ = _
                            have e : lk1 S U ((x0, x1), (x2, x3)) = 0 := by
                              rw [HL8.out, HAN.out]
                              rfl
                            rw [HLK1.out, if_pos e]
                          have HOZ : Hid (wr.ownsRow w0.heap.size 53 2 (.slice ao3 q cap3) q (cellsG spoE U)) := own_below HOWN.out HBz.out
                          have HBz0 : Hid (Below w0.heap.size w0 wr) := HBr.out.trans (HBz.out.mono HBr.out.size)
                          have hsz0 : w0.heap.size ≤ wr.heap.size := HBz0.out.size
                          go_wp2_with (at_builtin; refine wpList_append_own _ rfl _ _ 108 rfl w0.heap.size 53 i0 (.agg #[.int .i64 0, .int .i64 0]) 2 16 Tryd.underlying108 hi hz0 hz1 hz2 spo_zero (by decide) _ _ _ rfl (HOZ.out.alloc _) ⟨wr.heap.size, 0, none⟩ 1 1 [.int .i64 x0, .int .i64 x1] rfl rfl ?m1 ?m2 ?m3 ?m4 ?m5 ?_)
                          case m1 =>
                            intro j u hj
                            match j, hj with
                            | 0, hj => simp at hj; subst hj; simp [Addr.add]
                            | 1, hj => simp at hj; subst hj; simp [Addr.add]
                          case m2 => intro u hu; simp at hu; rcases hu with rfl | rfl <;> rfl
                          case m3 => unfold maxLen; omega
                          case m4 => omega
                          case m5 => simp; omega
                          intro v5 w5 hown5 hgrow5 _
                          obtain ⟨ao5, cap5, rfl⟩ := own_form hown5
                          have hb5 : Below w0.heap.size wr w5 := ((Below.refl _ wr).alloc hsz0 _).grown hgrow5 (by simp; omega) (fun g hg => (HOZ.out.lt g hg).1)
                          have HB5 : Hid (Below w0.heap.size w0 w5) := HBz0.out.trans hb5
                          have hk5 : ∀ i, w5.cell? ⟨wo.heap.size, i, none⟩ = (wr.alloc (Obj.cells #[.int .i64 x0, .int .i64 x1] 53)).cell? ⟨wo.heap.size, i, none⟩ := fun i => grown_cell hgrow5 (by simp; omega) (fun g hg e => by
                            have := (HOWN.out.lt g hg).2
                            omega) i
                          have l2' := (hk5 2).trans (cell_later ((Below.refl _ wr).alloc (Nat.le_refl _) _) l2)
                          have l3' := (hk5 3).trans (cell_later ((Below.refl _ wr).alloc (Nat.le_refl _) _) l3)
                          obtain ⟨b0', b1', b2'⟩ := HX.out.later HB5.out
                          have HO5 : Hid (w5.ownsRow w0.heap.size 53 2 (.slice ao5 (q + 1) cap5) (q + 1) (cellsG spoE U ++ [.int .i64 x0, .int .i64 x1])) := hown5
                          have hsz5 : w0.heap.size ≤ w5.heap.size := HB5.out.size
                          clear hb5 hk5 hgrow5 hown5 b0 b1 b2 l0 l1 l2 l3
                          go_wp2_with (at_builtin; refine wpList_append_own _ rfl _ _ 108 rfl w0.heap.size 53 i0 (.agg #[.int .i64 0, .int .i64 0]) 2 16 Tryd.underlying108 hi hz0 hz1 hz2 spo_zero (by decide) _ _ _ rfl (HO5.out.alloc _) ⟨w5.heap.size, 0, none⟩ 1 1 [.int .i64 x2, .int .i64 x3] rfl rfl ?k1 ?k2 ?k3 ?k4 ?k5 ?_)
                          case k1 =>
                            intro j u hj
                            match j, hj with
                            | 0, hj => simp at hj; subst hj; simp [Addr.add]
                            | 1, hj => simp at hj; subst hj; simp [Addr.add]
                          case k2 => intro u hu; simp at hu; rcases hu with rfl | rfl <;> rfl
                          case k3 => unfold maxLen; omega
                          case k4 => omega
                          case k5 => simp; omega
                          intro v6 w6 hown6 hgrow6 _
                          obtain ⟨ao6, cap6, rfl⟩ := own_form hown6
                          have hb6 : Below w0.heap.size w5 w6 := ((Below.refl _ w5).alloc hsz5 _).grown hgrow6 (by simp; omega) (fun g hg => (HO5.out.lt g hg).1)
                          have HB6 : Hid (Below w0.heap.size w0 w6) := HB5.out.trans hb6
                          have HO6 : Hid (w6.ownsRow w0.heap.size 53 2 (.slice ao6 (q + 1 + 1) cap6) (spsL (Ls.take (k + 1))).length (cellsG spoE (spsL (Ls.take (k + 1))))) := by
                            show World.ownsRow _ _ _ _ _ _ _
                            rw [HUN.out]
                            exact own_two HMU.out hown6
                          have HL1 : Hid (lkN S Ls [] = lkN S (Ls.drop (k + 1)) (spsL (Ls.take (k + 1)))) := by
                            show _ = _
                            rw [HL0.out, HUN.out]
                          clear hb6 hgrow6 hown6 b0' b1' b2' l2' l3'
                          go_wp2
                          go_roundw
                          case rel => exact ⟨k + 1, HK1.out, by go_num, HO6.out, HL1.out, HB6.out⟩
                          case measure =>
                            have := HK1.out
                            simp [intOf]
                            omega
            · obtain rfl : k = n := by omega
              have hU2 : U = spsL Ls := by
                rw [HU.out, ← HLN.out, List.take_length]
              have HM2 : Hid (T = hoN S Hs [] (spsL Ls)) := by
                show _ = _
                have e : lkN S Ls [] = 0 := by
                  rw [HLK.out, ← HLN.out, List.drop_length]
                  rfl
                rw [HM.out, if_pos e]
              subst hU2
              clear HLK HU HLA HM
              go_wp2
              go_loopw [3, 9] (fun u i wz => ∃ j : Nat, j ≤ n2 ∧ i = .int .i64 j ∧ wz.ownsRow w0.heap.size 53 2 u (spsL Ls ++ (Hs.take j).map (·.2)).length (cellsG spoE (spsL Ls ++ (Hs.take j).map (·.2))) ∧ T = hoN S (Hs.drop j) ((Hs.take j).map (·.1)) (spsL Ls ++ (Hs.take j).map (·.2)) ∧ Below w0.heap.size w0 wz) (fun _ i _ => n2 - (intOf i).toNat)
              case atStart => exact ⟨0, by omega, rfl, by simpa [HMU.out] using HOWN.out, by simpa using HM2.out, HBr.out⟩
              case round =>
                clear HMU HOWN HM2 HBr HBw HXr b0 b1 b2 hlw hlen
                obtain ⟨j, hj, rfl, hown, hTj, hBz⟩ := hrel
                obtain ⟨ao3, cap3, rfl⟩ := own_form hown
                obtain ⟨wp, hwp⟩ : ∃ x, x = wr := ⟨_, rfl⟩
                subst hwp
                have hn8 : n2 ≤ 8 := H8.out
                obtain ⟨U, hU⟩ : ∃ U, U = spsL Ls ++ (Hs.take j).map (·.2) := ⟨_, rfl⟩
                obtain ⟨N, hN⟩ : ∃ N, N = (Hs.take j).map (·.1) := ⟨_, rfl⟩
                have HU : Hid (U = spsL Ls ++ (Hs.take j).map (·.2)) := hU
                have HN : Hid (N = (Hs.take j).map (·.1)) := hN
                rw [← hU] at hown
                rw [← hU, ← hN] at hTj
                rw [← hU]
                have hlen : U.length ≤ 410 := by
                  rw [hU, List.length_append, sps_len, List.length_map, List.length_take]
                  have := HLN.out
                  omega
                obtain ⟨m, hm⟩ : ∃ m, m = U.length := ⟨_, rfl⟩
                have HMU : Hid (U.length = m) := hm.symm
                rw [← hm] at hown hlen
                rw [← hm]
                have HOWN : Hid (wp.ownsRow w0.heap.size 53 2 (.slice ao3 m cap3) m (cellsG spoE U)) := hown
                have HTJ : Hid (T = hoN S (Hs.drop j) N U) := hTj
                have HBr : Hid (Below w0.heap.size w0 wp) := hBz
                have HBw : Hid (Below w.heap.size w wp) := HB.out.trans (hBz.mono HB.out.size)
                have HXr : Hid (TBox wp w.heap.size S (.slice ao k cap) (.slice ao2 n2 cap2)) := HX.out.later hBz
                obtain ⟨b0, b1, b2⟩ := HXr.out
                have hlw : w.heap.size < wp.heap.size := World.block_lt_of_cell? _ _ b0
                clear hown hTj hBz hU hN hm
                by_cases hlt : j < n2
                · have HK1 : Hid (j + 1 ≤ n2) := hlt
                  obtain ⟨g, o, hao, hc, _⟩ := HHA.out (by omega)
                  subst hao
                  obtain ⟨y0, y1, y2, hkl, hHk, q0, q1, q2⟩ := hst_at (hc.later HBw.out) HHN.out hlt
                  have HHC : Hid (GAt hstE wp g o Hs) := hc.later HBw.out
                  have HTN : Hid (T = if ho1 S N U (y0, (y1, y2)) = 0 then hoN S (Hs.drop (j + 1)) (N ++ [y0]) (U ++ [(y1, y2)]) else ho1 S N U (y0, (y1, y2))) := by
                    show _ = _
                    rw [HTJ.out, List.drop_eq_getElem_cons hkl, ho_step, hHk]
                  have HT7 : Hid (ho1 S N U (y0, (y1, y2)) ≠ 0 → T = ho1 S N U (y0, (y1, y2))) := fun h => by
                    have e := HTN.out
                    rw [if_neg h] at e
                    exact e
                  have HUN : Hid (spsL Ls ++ (Hs.take (j + 1)).map (·.2) = U ++ [(y1, y2)]) := by
                    show _ = _
                    rw [List.take_succ_eq_append_getElem hkl, List.map_append, hHk, HU.out, List.append_assoc]
                    rfl
                  have HNN : Hid ((Hs.take (j + 1)).map (·.1) = N ++ [y0]) := by
                    show _ = _
                    rw [List.take_succ_eq_append_getElem hkl, List.map_append, hHk, HN.out]
                    rfl
                  have HBA : Hid (Below wp.heap.size wp (wp.alloc (Obj.cells #[Value.string y0, Value.int IntKind.i64 y1, Value.int IntKind.i64 y2] 55))) := (Below.refl _ _).alloc (Nat.le_refl _) _
                  have HVA : Hid (VAt (wp.alloc (Obj.cells #[Value.string y0, Value.int IntKind.i64 y1, Value.int IntKind.i64 y2] 55)) wp.heap.size 0 (hstE.c (y0, (y1, y2)))) := hst_new wp y0 y1 y2 55
                  clear hHk hc
                  go_wp2_with fail
                  refine (rname_any y0 _).mono ?_
                  rintro e w2 ⟨rfl, hw2⟩
                  subst hw2
                  obtain ⟨w2, hw2⟩ : ∃ W, wp.alloc (Obj.cells #[Value.string y0, Value.int IntKind.i64 y1, Value.int IntKind.i64 y2] 55) = W := ⟨_, rfl⟩
                  rw [hw2] at HBA HVA ⊢
                  have HB2w : Hid (Below w.heap.size w w2) := HBw.out.trans (HBA.out.mono HBw.out.size)
                  obtain ⟨b0, b1, b2⟩ := HXr.out.later HBA.out
                  obtain ⟨l0, l1, l2⟩ := hst_cells HVA.out
                  simp only [Nat.zero_add] at l0 l1 l2
                  clear hw2 q0 q1 q2
                  cases hna : nmB y0
                  · have HT1 : Hid (T = 2) := by
                      have e : ho1 S N U (y0, (y1, y2)) = 2 := by simp [ho1, hna]
                      have := HT7.out (by rw [e]; decide)
                      rw [e] at this
                      exact this
                    go_wp2
                    go_ret
                    exact ⟨by rw [HT1.out]; rfl, HB2w.out⟩
                  · go_wp2_with fail
                    refine (rspot_any S ao k cap (some ⟨g, o, none⟩) n2 cap2 y1 y2 _).mono ?_
                    rintro e w3 ⟨rfl, hb3⟩
                    have hB3 : Below wp.heap.size wp w3 := HBA.out.trans (hb3.mono HBA.out.size)
                    have HB3 : Hid (Below wp.heap.size wp w3) := hB3
                    have HB3w : Hid (Below w.heap.size w w3) := HBw.out.trans (hB3.mono HBw.out.size)
                    have HV3 : Hid (VAt w3 wp.heap.size 0 (hstE.c (y0, (y1, y2)))) := HVA.out.later hb3
                    obtain ⟨b0, b1, b2⟩ := HXr.out.later hB3
                    obtain ⟨l0, l1, l2⟩ := hst_cells HV3.out
                    simp only [Nat.zero_add] at l0 l1 l2
                    clear hb3 hB3 HBA HVA HB2w
                    cases hsp : spB S (y1, y2)
                    · have HT1 : Hid (T = 1) := by
                        have e : ho1 S N U (y0, (y1, y2)) = 1 := by simp [ho1, hna, hsp]
                        have := HT7.out (by rw [e]; decide)
                        rw [e] at this
                        exact this
                      go_wp2
                      go_ret
                      exact ⟨by rw [HT1.out]; rfl, HB3w.out⟩
                    · have HL7 : Hid (ho1 S N U (y0, (y1, y2)) = if (N.any fun n => n == y0) || (U.any fun u => u == (y1, y2)) then 7 else 0) := by
                        show _ = _
                        simp only [ho1, hna, hsp, if_true]
                      have HNL : Hid (N.length = j) := by
                        show _ = _
                        rw [HN.out, List.length_map, List.length_take, HHN.out]
                        omega
                      have HNQ : Hid (∀ q (h1 : q < N.length) (h2 : q < Hs.length), N[q] = (Hs[q]).1) := fun q h1 h2 => by
                        have e := HN.out
                        subst e
                        simp
                      obtain ⟨_, _, _, e5, hUn, hUm, _, hUa⟩ := (own_GS (E := spoE) (L := U) (by rw [HMU.out]; exact HOWN.out) : GS spoE wp (.slice ao3 m cap3) U).form
                      cases e5
                      have HUA : Hid (0 < m → ∃ g o, ao3 = some ⟨g, o, none⟩ ∧ GAt spoE wp g o U ∧ cap3 ≤ maxLen) := hUa
                      clear hUn hUm hUa b0 b1 b2 l0 l1 l2
                      go_wp2
                      go_loopw [13] (fun i wz => ∃ q : Nat, q ≤ j ∧ i = .int .i64 q ∧ (N.take q).any (fun n => n == y0) = false ∧ Below w3.heap.size w3 wz) (fun i _ => j - (intOf i).toNat)
                      case atStart => exact ⟨0, by omega, rfl, by simp, Below.refl _ _⟩
                      case round =>
                        obtain ⟨q, hq, rfl, hno, hBz⟩ := hrel
                        obtain ⟨wn, hwn⟩ : ∃ x, x = wr := ⟨_, rfl⟩
                        subst hwn
                        have HNO : Hid ((N.take q).any (fun n => n == y0) = false) := hno
                        have HBz : Hid (Below wp.heap.size wp wn) := HB3.out.trans (hBz.mono HB3.out.size)
                        have HBc : Hid (Below w3.heap.size w3 wn) := hBz
                        have HBzw : Hid (Below w.heap.size w wn) := HBw.out.trans (HBz.out.mono HBw.out.size)
                        obtain ⟨b0, b1, b2⟩ := HXr.out.later HBz.out
                        have HVz : Hid (VAt wn wp.heap.size 0 (hstE.c (y0, (y1, y2)))) := HV3.out.later hBz
                        obtain ⟨l0, l1, l2⟩ := hst_cells HVz.out
                        simp only [Nat.zero_add] at l0 l1 l2
                        have hll : wp.heap.size < wn.heap.size := World.block_lt_of_cell? _ _ l0
                        have hlw : w.heap.size < wn.heap.size := World.block_lt_of_cell? _ _ b0
                        clear hno hBz
                        by_cases hqj : q < j
                        · obtain ⟨z0, z1, z2, hql, hHq, p0, p1, p2⟩ := hst_at (HHC.out.later HBz.out) HHN.out (show q < n2 by omega)
                          have hqN : q < N.length := by rw [HNL.out]; exact hqj
                          have hNq : N[q] = z0 := by rw [HNQ.out q hqN hql, hHq]
                          have qb0 : (0 : Int) ≤ (q : Int) := by omega
                          have qb1 : (q : Int) < (n2 : Int) := by omega
                          have hgl3 : g < wn.heap.size := World.block_lt_of_cell? _ _ p0
                          have HHIT : Hid ((z0 == y0) = true → T = 7) := fun hy => by
                            have e : ho1 S N U (y0, (y1, y2)) = 7 := by
                              rw [HL7.out, any_hitG hqN (by rw [hNq]; exact hy)]
                              rfl
                            have := HT7.out (by rw [e]; decide)
                            rw [e] at this
                            exact this
                          have HNXT : Hid ((z0 == y0) = false → (N.take (q + 1)).any (fun n => n == y0) = false) := fun hy => any_nextG hqN HNO.out (by rw [hNq]; exact hy)
                          have hbe := beq_toListBytes z0 y0
                          clear hHq hNq
                          cases hz : (z0 == y0)
                          · have HN1 : Hid ((N.take (q + 1)).any (fun n => n == y0) = false) := HNXT.out hz
                            rw [hbe] at hz
                            clear hbe
                            go_wp2_with fail
                            go_quiet (fail)
                            go_wp2
                            go_roundw
                            case rel => exact ⟨q + 1, by omega, by go_num, HN1.out, HBc.out.trans ((below_drewN _ _).mono HBc.out.size)⟩
                            case measure => simp [intOf]; omega
                          · have HT1 : Hid (T = 7) := HHIT.out hz
                            rw [hbe] at hz
                            clear hbe
                            go_wp2_with fail
                            go_quiet (fail)
                            go_wp2
                            go_ret
                            exact ⟨by rw [HT1.out]; rfl, HBzw.out.trans ((below_drewN _ _).mono HBzw.out.size)⟩
                        · obtain rfl : q = j := by omega
                          have HAN : Hid ((N.any fun n => n == y0) = false) := by
                            have := HNO.out
                            rw [← HNL.out] at this
                            exact any_take this
                          have HL8 : Hid (ho1 S N U (y0, (y1, y2)) = if (U.any fun u => u == (y1, y2)) then 7 else 0) := by
                            show _ = _
                            rw [HL7.out, HAN.out, Bool.false_or]
                          clear b0 b1 b2 l0 l1 l2
                          go_wp2
                          go_loopw [14] (fun i wz => ∃ q : Nat, q ≤ m ∧ i = .int .i64 q ∧ (U.take q).any (fun u => u == (y1, y2)) = false ∧ Below wn.heap.size wn wz) (fun i _ => m - (intOf i).toNat)
                          case atStart => exact ⟨0, by omega, rfl, by simp, Below.refl _ _⟩
                          case round =>
                            obtain ⟨r, hr, rfl, hno, hBy⟩ := hrel
                            have HNO2 : Hid ((U.take r).any (fun u => u == (y1, y2)) = false) := hno
                            have HBy : Hid (Below wp.heap.size wp wr) := HBz.out.trans (hBy.mono HBz.out.size)
                            have HBcy : Hid (Below wn.heap.size wn wr) := hBy
                            have HByw : Hid (Below w.heap.size w wr) := HBw.out.trans (HBy.out.mono HBw.out.size)
                            obtain ⟨b0, b1, b2⟩ := HXr.out.later HBy.out
                            have HVy : Hid (VAt wr wp.heap.size 0 (hstE.c (y0, (y1, y2)))) := HVz.out.later hBy
                            obtain ⟨l0, l1, l2⟩ := hst_cells HVy.out
                            simp only [Nat.zero_add] at l0 l1 l2
                            have hll : wp.heap.size < wr.heap.size := World.block_lt_of_cell? _ _ l0
                            clear hno hBy
                            by_cases hrm : r < m
                            · obtain ⟨g3, o3, hao3, hc3, _⟩ := HUA.out (by omega)
                              subst hao3
                              obtain ⟨v0, v1, hql, hUq, p0, p1⟩ := spo_at (hc3.later HBy.out) HMU.out hrm
                              have HUQ : Hid (U[r] = (v0, v1)) := hUq
                              have qb0 : (0 : Int) ≤ (r : Int) := by omega
                              have qb1 : (r : Int) < (m : Int) := by omega
                              have hgl3 : g3 < wr.heap.size := World.block_lt_of_cell? _ _ p0
                              have HHIT : Hid ((v0 == y1 && v1 == y2) = true → T = 7) := fun hy => by
                                have e : ho1 S N U (y0, (y1, y2)) = 7 := by
                                  rw [HL8.out, any_hitG hql (by rw [HUQ.out]; exact hy)]
                                  rfl
                                have := HT7.out (by rw [e]; decide)
                                rw [e] at this
                                exact this
                              have HNXT : Hid ((v0 == y1 && v1 == y2) = false → (U.take (r + 1)).any (fun u => u == (y1, y2)) = false) := fun hy => any_nextG hql HNO2.out (by rw [HUQ.out]; exact hy)
                              clear hc3 hUq
                              rcases eq2_ways v0 v1 y1 y2 with ⟨f0, f1, f2⟩ | ⟨f0, f1, f2⟩ | ⟨f0, f1⟩
                              · have HT1 : Hid (T = 7) := HHIT.out f0
                                go_wp2_with fail
                                go_quiet (fail)
                                go_wp2
                                go_ret
                                exact ⟨by rw [HT1.out]; rfl, HByw.out.trans ((below_drewN _ _).mono HByw.out.size)⟩
                              · have HN1 : Hid ((U.take (r + 1)).any (fun u => u == (y1, y2)) = false) := HNXT.out f0
                                go_wp2_with fail
                                go_quiet (fail)
                                go_wp2
                                go_roundw
                                case rel => exact ⟨r + 1, by omega, by go_num, HN1.out, HBcy.out.trans ((below_drewN _ _).mono HBcy.out.size)⟩
                                case measure => simp [intOf]; omega
                              · have HN1 : Hid ((U.take (r + 1)).any (fun u => u == (y1, y2)) = false) := HNXT.out f0
                                go_wp2_with fail
                                go_quiet (fail)
                                go_wp2
                                go_roundw
                                case rel => exact ⟨r + 1, by omega, by go_num, HN1.out, HBcy.out.trans ((below_drewN _ _).mono HBcy.out.size)⟩
                                case measure => simp [intOf]; omega
                            · obtain rfl : r = m := by omega
                              have HT0 : Hid (T = hoN S (Hs.drop (q + 1)) ((Hs.take (q + 1)).map (·.1)) (spsL Ls ++ (Hs.take (q + 1)).map (·.2))) := by
                                show _ = _
                                have e : ho1 S N U (y0, (y1, y2)) = 0 := by
                                  have h2 := HNO2.out
                                  rw [← HMU.out] at h2
                                  rw [HL8.out, any_take h2]
                                  rfl
                                rw [HTN.out, if_pos e, HUN.out, HNN.out]
                              have HOZ : Hid (wr.ownsRow w0.heap.size 53 2 (.slice ao3 r cap3) r (cellsG spoE U)) := own_below HOWN.out HBy.out
                              have HBz0 : Hid (Below w0.heap.size w0 wr) := HBr.out.trans (HBy.out.mono HBr.out.size)
                              have hsz0 : w0.heap.size ≤ wr.heap.size := HBz0.out.size
                              go_wp2_with (at_builtin; refine wpList_append_own _ rfl _ _ 108 rfl w0.heap.size 53 i0 (.agg #[.int .i64 0, .int .i64 0]) 2 16 Tryd.underlying108 hi hz0 hz1 hz2 spo_zero (by decide) _ _ _ rfl (HOZ.out.alloc _) ⟨wr.heap.size, 0, none⟩ 1 1 [.int .i64 y1, .int .i64 y2] rfl rfl ?n1 ?n2 ?n3 ?n4 ?n5 ?_)
                              case n1 =>
                                intro j u hj
                                match j, hj with
                                | 0, hj => simp at hj; subst hj; simp [Addr.add]
                                | 1, hj => simp at hj; subst hj; simp [Addr.add]
                              case n2 => intro u hu; simp at hu; rcases hu with rfl | rfl <;> rfl
                              case n3 => unfold maxLen; omega
                              case n4 => omega
                              case n5 => simp; omega
                              intro v5 w5 hown5 hgrow5 _
                              obtain ⟨ao5, cap5, rfl⟩ := own_form hown5
                              have hb5 : Below w0.heap.size wr w5 := ((Below.refl _ wr).alloc hsz0 _).grown hgrow5 (by simp; omega) (fun g hg => (HOZ.out.lt g hg).1)
                              have HB5 : Hid (Below w0.heap.size w0 w5) := HBz0.out.trans hb5
                              have HO5 : Hid (w5.ownsRow w0.heap.size 53 2 (.slice ao5 (r + 1) cap5) (spsL Ls ++ (Hs.take (q + 1)).map (·.2)).length (cellsG spoE (spsL Ls ++ (Hs.take (q + 1)).map (·.2)))) := by
                                show World.ownsRow _ _ _ _ _ _ _
                                rw [HUN.out]
                                exact own_one1 HMU.out hown5
                              clear hb5 hgrow5 hown5 b0 b1 b2 l0 l1 l2
                              go_wp2
                              go_roundw
                              case rel => exact ⟨q + 1, HK1.out, by go_num, HO5.out, HT0.out, HB5.out⟩
                              case measure =>
                                have := HK1.out
                                simp [intOf]
                                omega
                · obtain rfl : j = n2 := by omega
                  have HT0 : Hid (T = 0) := by
                    show _ = _
                    rw [HTJ.out, ← HHN.out, List.drop_length]
                    rfl
                  go_wp2
                  go_ret
                  exact ⟨by rw [HT0.out]; rfl, HBw.out⟩
        · have s1 : decide (S < 1) = false := by simp; omega
          have s2 : decide (6 < S) = false := by simp; omega
          have s3 : decide (200 < (n : Int)) = false := by simp; omega
          have s4 : decide (8 < (n2 : Int)) = true := by simp; omega
          have HTE : Hid (T = 4) := by
            show _ = _
            have e1 : (decide (1 ≤ S) && decide (S ≤ 6)) = true := by simp [h1, h6]
            have e2 : (decide (Ls.length ≤ 200) && decide (Hs.length ≤ 8)) = false := by simp [hLn, hHn, h2]; omega
            rw [hT, tpN, if_pos e1, e2]
            rfl
          clear hX hB HT hT hL hH hLn hHn hLm hHm hLa hHa h1 h6 h2 h8
          go_enter Tryd.func26, Tryd.ntmps26
          go_wp2
          go_ret
          exact ⟨by rw [HTE.out]; rfl, HB0'.out⟩
      · have s1 : decide (S < 1) = false := by simp; omega
        have s2 : decide (6 < S) = false := by simp; omega
        have s3 : decide (200 < (n : Int)) = true := by simp; omega
        have HTE : Hid (T = 4) := by
          show _ = _
          have e1 : (decide (1 ≤ S) && decide (S ≤ 6)) = true := by simp [h1, h6]
          have e2 : (decide (Ls.length ≤ 200) && decide (Hs.length ≤ 8)) = false := by simp [hLn]; omega
          rw [hT, tpN, if_pos e1, e2]
          rfl
        clear hX hB HT hT hL hH hLn hHn hLm hHm hLa hHa h1 h6 h2
        go_enter Tryd.func26, Tryd.ntmps26
        go_wp2
        go_ret
        exact ⟨by rw [HTE.out]; rfl, HB0'.out⟩
    · have s1 : decide (S < 1) = false := by simp; omega
      have s2 : decide (6 < S) = true := by simp; omega
      have HTE : Hid (T = 1) := by
        show _ = _
        have e1 : (decide (1 ≤ S) && decide (S ≤ 6)) = false := by simp; omega
        rw [hT, tpN, e1]
        rfl
      clear hX hB HT hT hL hH hLn hHn hLm hHm hLa hHa h1 h6
      go_enter Tryd.func26, Tryd.ntmps26
      go_wp2
      go_ret
      exact ⟨by rw [HTE.out]; rfl, HB0'.out⟩
  · have s1 : decide (S < 1) = true := by simp; omega
    have HTE : Hid (T = 1) := by
      show _ = _
      have e1 : (decide (1 ≤ S) && decide (S ≤ 6)) = false := by simp; omega
      rw [hT, tpN, e1]
      rfl
    clear hX hB HT hT hL hH hLn hHn hLm hHm hLa hHa h1
    go_enter Tryd.func26, Tryd.ntmps26
    go_wp2
    go_ret
    exact ⟨by rw [HTE.out]; rfl, HB0'.out⟩
end Go.Proofs.YtfbocionnjliladDoor
