/- What class.alike answers: a contract for the walks above it. -/
import Derived.Test.YtfbocionnjliladClassAlike1
import Derived.Test.YtfbocionnjliladClassTwo
import Derived.Test.YtfbocionnjliladOwnInts
import Derived.Deep.RegionHeld3
import Derived.Deep.CutRange
import Derived.Deep.CutBlock
namespace Go.Proofs.Ytfbocionnjlilad
open Go.RowKit
set_option linter.unusedSimpArgs false
set_option linter.unusedVariables false

theorem infoSl : (Try.prog.info? 40).map (fun i => (i.zero, i.size, i.bytes)) = some (some (.slice none 0 0), 1, 24) := by kernel_rfl
theorem enters_alike1 : ∀ args w, (callFunc 25 args).run Try.prog w = .ok (.enter 25 args) w := enters_of Try.func25 (by kernel_rfl) rfl
theorem vat_one {W : World} {g q : Nat} {y : SlT} (h : W.cell? ⟨g, q, none⟩ = some (slV y)) : VAt W g q (slE.c y) := by
  intro j z hz
  match j, hz with
  | 0, hz => cases hz; exact h
theorem sz1 (W : World) (o : Obj) : (W.alloc o).heap.size = W.heap.size + 1 := by simp
theorem sz2 (W : World) (o o2 : Obj) : ((W.alloc o).alloc o2).heap.size = W.heap.size + 1 + 1 := by simp
theorem cel1 (W : World) (v : Value) (t : TypeId) {g : Nat} (hg : W.heap.size = g) : ((W.alloc (Obj.cells #[v] t)).drew).cell? ⟨g, 0, none⟩ = some v := by
  subst hg
  have h : (W.alloc (Obj.cells #[v] t)).cell? ⟨W.heap.size, 0, none⟩ = some v := by simp
  exact cell_later (Below.drew (Below.refl _ _)) h
theorem cel2 (W : World) (v : Value) (t : TypeId) (o : Obj) {g : Nat} (hg : W.heap.size = g) : (((W.alloc (Obj.cells #[v] t)).alloc o).drew).cell? ⟨g, 0, none⟩ = some v := by
  subst hg
  have h : (W.alloc (Obj.cells #[v] t)).cell? ⟨W.heap.size, 0, none⟩ = some v := by simp
  exact cell_later (Below.drew ((Below.refl _ _).alloc (Nat.le_refl _) o)) h
theorem cel3 (W : World) (v : Value) (t : TypeId) (o o2 : Obj) {g : Nat} (hg : W.heap.size = g) : ((((W.alloc (Obj.cells #[v] t)).alloc o).alloc o2).drew).cell? ⟨g, 0, none⟩ = some v := by
  subst hg
  have h : (W.alloc (Obj.cells #[v] t)).cell? ⟨W.heap.size, 0, none⟩ = some v := by simp
  exact cell_later (Below.drew (((Below.refl _ _).alloc (Nat.le_refl _) o).alloc (by simp) o2)) h
theorem vat_num {W : World} {g q : Nat} {y : Int} (h : W.cell? ⟨g, q, none⟩ = some (.int .i64 y)) : VAt W g q (inE.c y) := by
  intro j z hz
  match j, hz with
  | 0, hz => cases hz; exact h
theorem own_num {B : Nat} (w : World) (y : Int) (hB : B ≤ w.heap.size) : (w.alloc (Obj.cells #[.int .i64 y] 3)).ownsRow B 3 inE.n (slV (some ⟨w.heap.size, 0, none⟩, 1, 1)) [y].length (cellsG inE [y]) :=
  World.ownsRow_lit w #[.int .i64 y] 1 hB (by unfold maxLen; omega) rfl

set_option maxHeartbeats 4000000 in
set_option maxRecDepth 100000 in
theorem alike_any (ao : Option Addr) (n cap : Nat) (Ts : List (List Ru)) (w : World) (hT : TS w (.slice ao n cap) Ts) (hn8 : n ≤ 8) :
    Calls Try.prog 12 #[.slice ao n cap] w fun e w' => ∃ v u vs us, e = .returned v ∧ CP 3 40 w' w.heap.size v u vs us (kcTo (pthL Ts) 16).1 (kcTo (pthL Ts) 16).2 ∧ Below w.heap.size w w' := by
  have HTW : Hid (∀ W, Below w.heap.size w W → TS W (.slice ao n cap) Ts) := fun W hb => hT.later hb
  have HN8 : Hid (n ≤ 8) := hn8
  clear hT
  go_enter Try.func12, Try.ntmps12
  go_wp2
  go_loopw [3, 4, 8] (fun v u i wr => ∃ (k : Nat) (vs us : List SlT), k ≤ 16 ∧ i = .int .i64 k ∧ CP 3 40 wr w.heap.size v u vs us (kcTo (pthL Ts) k).1 (kcTo (pthL Ts) k).2 ∧ Below w.heap.size w wr) (fun _ _ i _ => 16 - (intOf i).toNat)
  case atStart => exact ⟨0, [], [], by omega, rfl, cp_nil _ _ _ _, Below.refl _ _⟩
  case round =>
    obtain ⟨k, vs, us, hk, rfl, hCP, hB⟩ := hrel
    obtain ⟨wo, hwo⟩ : ∃ X, X = wr := ⟨_, rfl⟩
    subst hwo
    have HB : Hid (Below w.heap.size w wo) := hB
    obtain ⟨a3, c3, hv3⟩ := own_form hCP.ov
    obtain ⟨a4, c4, hu4⟩ := own_form hCP.ou
    obtain ⟨n3, hn3⟩ : ∃ m, m = vs.length := ⟨_, rfl⟩
    obtain ⟨n4, hn4⟩ : ∃ m, m = us.length := ⟨_, rfl⟩
    rw [← hn3] at hv3
    rw [← hn4] at hu4
    subst hv3 hu4
    have HCP : Hid (CP 3 40 wo w.heap.size (.slice a3 n3 c3) (.slice a4 n4 c4) vs us (kcTo (pthL Ts) k).1 (kcTo (pthL Ts) k).2) := hCP
    have HN3 : Hid (vs.length = n3) := hn3.symm
    have HN4 : Hid (us.length = n4) := hn4.symm
    clear hB hCP hn3 hn4
    by_cases hlt : k < 16
    · have hki : (k : Int) < 16 := by omega
      go_wp2_with fail
      refine (path_any ao n cap Ts (k : Int) _ (HTW.out _ HB.out) HN8.out).mono ?_
      rintro e w1 ⟨rfl, hown1, hb1⟩
      have hs1 := hb1.size
      have hlt1 : wo.heap.size < w1.heap.size := (hown1.lt wo.heap.size rfl).2
      obtain ⟨gp, hgp⟩ : ∃ g, g = wo.heap.size := ⟨_, rfl⟩
      obtain ⟨b, hb⟩ : ∃ b, b = w1.heap.size := ⟨_, rfl⟩
      obtain ⟨w2, hw2⟩ : ∃ W, w1.alloc (Obj.cells #[.slice (some ⟨gp, 0, none⟩) n n] 40) = W := ⟨_, rfl⟩
      have hb2 : Below w1.heap.size w1 w2 := by
        rw [← hw2]
        exact (Below.refl _ _).alloc (Nat.le_refl _) _
      have hcell : w2.cell? ⟨b, 0, none⟩ = some (.slice (some ⟨gp, 0, none⟩) n n) := by
        rw [← hw2, hb]
        simp
      rw [← hgp] at hown1
      have hP2 : w2.ownsRow w.heap.size 3 inE.n (.slice (some ⟨gp, 0, none⟩) n n) (pthL Ts (k : Int)).length (cellsG inE (pthL Ts (k : Int))) := by
        refine own_mono (own_below hown1 hb2) ?_
        rw [hgp]
        exact HB.out.size
      have hb12 : Below wo.heap.size wo w2 := hb1.trans (hb2.mono hs1)
      have HC2 : Hid (CP 3 40 w2 w.heap.size (.slice a3 n3 c3) (.slice a4 n4 c4) vs us (kcTo (pthL Ts) k).1 (kcTo (pthL Ts) k).2) := HCP.out.later hb12
      have HP2 : Hid (w2.ownsRow w.heap.size 3 inE.n (.slice (some ⟨gp, 0, none⟩) n n) (pthL Ts (k : Int)).length (cellsG inE (pthL Ts (k : Int)))) := hP2
      have HB2 : Hid (Below w.heap.size w w2) := HB.out.trans (hb12.mono HB.out.size)
      have HCELL : Hid (w2.cell? ⟨b, 0, none⟩ = some (.slice (some ⟨gp, 0, none⟩) n n)) := hcell
      have HGP : Hid (gp = wo.heap.size) := hgp
      have HGB : Hid (wo.heap.size ≤ b ∧ gp < b) := ⟨by omega, by omega⟩
      have HW2 : Hid (w1.alloc (Obj.cells #[.slice (some ⟨gp, 0, none⟩) n n] 40) = w2) := hw2
      have HBB : Hid (b = w1.heap.size) := hb
      have HASK : Hid (ilAsks w2 25 (.pointer (some ⟨b, 0, none⟩)) (fun L => L == pthL Ts (k : Int))) := fun ao n cap L W hb hG => alike1_any ao _ n _ cap _ b L _ W (cell_later hb HCELL.out) hG (own_GS (own_below HP2.out hb))
      rw [← hgp]
      clear hown1 hb1 hs1 hlt1 hgp hb hw2 hb2 hcell hP2 hb12
      go_upto_region 6 with fail
      rw [HW2.out, ← HBB.out]
      clear HW2 HBB
      go_wp2_with fail
      refine (il_idxF a4 n4 c4 25 (.pointer (some ⟨b, 0, none⟩)) (fun L => L == pthL Ts (k : Int)) (kcTo (pthL Ts) k).2 _ HC2.out.swap.ls enters_alike1 HASK.out).mono ?_
      rintro e wi ⟨rfl, hbi⟩
      obtain ⟨I, hI⟩ : ∃ I, I = ixC (pthL Ts) k (kcTo (pthL Ts) k).2 := ⟨_, rfl⟩
      have HI : Hid (I = ixC (pthL Ts) k (kcTo (pthL Ts) k).2) := hI
      rw [show ixG (fun L => L == pthL Ts (k : Int)) (kcTo (pthL Ts) k).2 = I from hI.symm]
      have HCi : Hid (CP 3 40 wi w.heap.size (.slice a3 n3 c3) (.slice a4 n4 c4) vs us (kcTo (pthL Ts) k).1 (kcTo (pthL Ts) k).2) := HC2.out.later hbi
      have HPi : Hid (wi.ownsRow w.heap.size 3 inE.n (.slice (some ⟨gp, 0, none⟩) n n) (pthL Ts (k : Int)).length (cellsG inE (pthL Ts (k : Int)))) := own_below HP2.out hbi
      have HBi : Hid (Below w.heap.size w wi) := HB2.out.trans (hbi.mono HB2.out.size)
      have hcell := cell_later hbi HCELL.out
      clear hI hbi HC2 HP2 HB2 HCELL HASK
      have hle := kc_len (pthL Ts) k
      have hlv := HCi.out.lv
      have hlu := HCi.out.lu
      have HLV : Hid (vs.length + 1 ≤ 17) := by
        show _ ≤ _
        omega
      have HLU : Hid (us.length + 1 ≤ 17) := by
        show _ ≤ _
        omega
      have HLV1 : Hid (vs.length + 1 ≤ maxLen) := Nat.le_trans HLV.out (by unfold maxLen; omega)
      have HLV2 : Hid ((vs.length + 1) * 24 ≤ 140737488355328) := by
        have := HLV.out
        show _ ≤ _
        omega
      have HLU1 : Hid (us.length + 1 ≤ maxLen) := Nat.le_trans HLU.out (by unfold maxLen; omega)
      have HLU2 : Hid ((us.length + 1) * 24 ≤ 140737488355328) := by
        have := HLU.out
        show _ ≤ _
        omega
      have HVB : Hid (∀ j, (Value.slice a3 n3 c3).ownBlock = some j → j < wo.heap.size) := fun j e => (HCP.out.ov.lt j e).2
      have HUB : Hid (∀ j, (Value.slice a4 n4 c4).ownBlock = some j → j < wo.heap.size) := fun j e => (HCP.out.ou.lt j e).2
      have HWI : Hid (wo.heap.size ≤ wi.heap.size ∧ w.heap.size ≤ wi.heap.size ∧ gp < wi.heap.size ∧ b < wi.heap.size) := by
        have h1 := (HPi.out.lt gp rfl).2
        have h2 : b < wi.heap.size := World.block_lt_of_cell? _ _ hcell
        have h3 := HGB.out.1
        exact ⟨by omega, HBi.out.size, h1, h2⟩
      obtain ⟨j1, hj, hy0, hy1, hy2⟩ := info_parts infoSl
      obtain ⟨i0, hi, hz0, hz1, hz2⟩ := info_parts infoInt
      clear hle hlv hlu
      by_cases hneg : I < 0
      · have HKV : Hid (∀ W, wi.grownBy W none → W.ownsRow w.heap.size 40 slE.n (.slice a3 n3 c3) vs.length (cellsG slE vs)) := fun W h => (HCi.out.keep h).ov
        have HKU : Hid (∀ W, wi.grownBy W none → W.ownsRow w.heap.size 40 slE.n (.slice a4 n4 c4) us.length (cellsG slE us)) := fun W h => (HCi.out.keep h).ou
        have HKP : Hid (∀ W, wi.grownBy W none → W.ownsRow w.heap.size 3 inE.n (slV (some ⟨gp, 0, none⟩, n, n)) (pthL Ts (k : Int)).length (cellsG inE (pthL Ts (k : Int)))) := fun W h => HPi.out.kept h (none_or _)
        have HNE : Hid ((Value.slice a4 n4 c4).ownBlock = none ∨ (Value.slice a4 n4 c4).ownBlock ≠ (Value.slice a3 n3 c3).ownBlock) := HCi.out.swap.ne
        have HX0 : Hid (∀ W, (wi.alloc (Obj.cells #[.int .i64 (k : Int)] 3)).grownBy W none → W.ownsRow w.heap.size 3 inE.n (slV (some ⟨wi.heap.size, 0, none⟩, 1, 1)) [(k : Int)].length (cellsG inE [(k : Int)])) := fun W h => (own_num wi k HWI.out.2.1).kept h (none_or _)
        have HX1 : Hid (∀ W, ((wi.alloc (Obj.cells #[.slice (some ⟨gp, 0, none⟩) n n] 40)).alloc (Obj.cells #[.int .i64 (k : Int)] 3)).grownBy W none → W.ownsRow w.heap.size 3 inE.n (slV (some ⟨wi.heap.size + 1, 0, none⟩, 1, 1)) [(k : Int)].length (cellsG inE [(k : Int)])) := fun W h => by
          have e : (wi.alloc (Obj.cells #[.slice (some ⟨gp, 0, none⟩) n n] 40)).heap.size = wi.heap.size + 1 := by simp
          have hB : w.heap.size ≤ (wi.alloc (Obj.cells #[.slice (some ⟨gp, 0, none⟩) n n] 40)).heap.size := by
            have := HWI.out.2.1
            omega
          have := own_num (wi.alloc (Obj.cells #[.slice (some ⟨gp, 0, none⟩) n n] 40)) (k : Int) hB
          rw [e] at this
          exact this.kept h (none_or _)
        have HFIN : Hid (∀ (GX : Nat) (W1 w5 W2 w6 : World) (v5 u6 : Value), wi.heap.size ≤ GX → wi.grownBy W1 none → W1.ownsRow w.heap.size 3 inE.n (slV (some ⟨GX, 0, none⟩, 1, 1)) [(k : Int)].length (cellsG inE [(k : Int)]) → W1.grownBy w5 (Value.slice a3 n3 c3).ownBlock → w5.ownsRow w.heap.size 40 slE.n v5 (vs ++ [((some ⟨GX, 0, none⟩, 1, 1) : SlT)]).length (cellsG slE (vs ++ [((some ⟨GX, 0, none⟩, 1, 1) : SlT)])) → (v5.ownBlock = (Value.slice a3 n3 c3).ownBlock ∨ v5.ownBlock = some W1.heap.size) → w5.grownBy W2 none → W2.grownBy w6 (Value.slice a4 n4 c4).ownBlock → w6.ownsRow w.heap.size 40 slE.n u6 (us ++ [((some ⟨gp, 0, none⟩, n, n) : SlT)]).length (cellsG slE (us ++ [((some ⟨gp, 0, none⟩, n, n) : SlT)])) → (u6.ownBlock = (Value.slice a4 n4 c4).ownBlock ∨ u6.ownBlock = some W2.heap.size) →
            CP 3 40 w6 w.heap.size v5 u6 (vs ++ [((some ⟨GX, 0, none⟩, 1, 1) : SlT)]) (us ++ [((some ⟨gp, 0, none⟩, n, n) : SlT)]) (kcTo (pthL Ts) (k + 1)).1 (kcTo (pthL Ts) (k + 1)).2 ∧ Below w.heap.size w w6) := by
          intro GX W1 w5 W2 w6 v5 u6 hGX c1 x1 g1 o1 b1 c2 g2 o2 b2
          have hI := HI.out
          rw [hI] at hneg
          rw [kc_yes hneg]
          have hgp := HGP.out
          have hw := HWI.out
          have hp1 := HKP.out W1 c1
          have hp2 := (hp1.kept g1 (own_rows2 hp1 (HKV.out W1 c1) (by decide))).kept c2 (none_or _)
          obtain ⟨r1, r2⟩ := HCi.out.seq (by decide) hw.2.1 x1 (fun y hy e => by
              have := HCi.out.old y hy GX e
              omega) hp2 (fun y hy e => by
              have := HCP.out.old y hy gp e
              omega) (fun e => by
              have e2 : some GX = some gp := e
              simp at e2
              omega) c1 g1 o1 b1 c2 g2 o2 b2 (gnn_refl _)
          exact ⟨r1, HBi.out.trans r2⟩
        have HKC : Hid (∀ W, wi.grownBy W none → W.cell? ⟨b, 0, none⟩ = some (.slice (some ⟨gp, 0, none⟩) n n)) := fun W h => h.cell hcell (by simp)
        clear HI
        go_upto_region 8 with fail
        go_region_held3 (fun w' => w'.cell? ⟨b, 0, none⟩ = some (.slice (some ⟨gp, 0, none⟩) n n)) (first | assumption | (refine HKC.out _ ?_; first | exact gnn_drew (gnn_alloc (gnn_refl _) _) | exact gnn_drew (gnn_alloc (gnn_alloc (gnn_refl _) _) _) | exact gnn_drew (gnn_alloc (gnn_alloc (gnn_alloc (gnn_refl _) _) _) _)) | exact cell_later ((Below.refl _ _).alloc (Nat.le_refl _) _) ‹_› | (focus (refine hg5.cell ‹_› ?_; intro e; have h1 := HVB.out b e.symm; have h2 := HGB.out; omega)) | (focus (refine hg6.cell ‹_› ?_; intro e; have h1 := HUB.out b e.symm; have h2 := HGB.out; omega)))
          (first
            | ((refine step_append_blk (E := slE) _ (by rfl) _ _ 29 40 (by rfl) Try.underlying29 j1 (.slice none 0 0) 24 hj hy0 hy1 hy2 (by rfl) w.heap.size (.slice a3 n3 c3) (by rfl) vs (HKV.out _ ?_) _ 0 1 (by rfl) (some ⟨wi.heap.size, 0, none⟩, 1, 1) (vat_one ?_) HLV1.out HLV2.out ?_ ?_; (focus (first | exact gnn_drew (gnn_alloc (gnn_refl _) _) | exact gnn_drew (gnn_alloc (gnn_alloc (gnn_refl _) _) _) | exact gnn_drew (gnn_alloc (gnn_alloc (gnn_alloc (gnn_refl _) _) _) _))); (focus (first | exact cel1 _ _ _ rfl | exact cel1 _ _ _ (sz1 _ _) | exact cel1 _ _ _ (sz2 _ _ _) | exact cel2 _ _ _ _ rfl | exact cel2 _ _ _ _ (sz1 _ _) | exact cel3 _ _ _ _ _ rfl)); (focus (have := HWI.out; simp; omega)); intro v5 w5 ho5 hg5 hb5))
            | ((refine step_append_blk (E := slE) _ (by rfl) _ _ 29 40 (by rfl) Try.underlying29 j1 (.slice none 0 0) 24 hj hy0 hy1 hy2 (by rfl) w.heap.size (.slice a3 n3 c3) (by rfl) vs (HKV.out _ ?_) _ 0 1 (by rfl) (some ⟨wi.heap.size + 1, 0, none⟩, 1, 1) (vat_one ?_) HLV1.out HLV2.out ?_ ?_; (focus (first | exact gnn_drew (gnn_alloc (gnn_refl _) _) | exact gnn_drew (gnn_alloc (gnn_alloc (gnn_refl _) _) _) | exact gnn_drew (gnn_alloc (gnn_alloc (gnn_alloc (gnn_refl _) _) _) _))); (focus (first | exact cel1 _ _ _ rfl | exact cel1 _ _ _ (sz1 _ _) | exact cel1 _ _ _ (sz2 _ _ _) | exact cel2 _ _ _ _ rfl | exact cel2 _ _ _ _ (sz1 _ _) | exact cel3 _ _ _ _ _ rfl)); (focus (have := HWI.out; simp; omega)); intro v5 w5 ho5 hg5 hb5))
            | ((refine step_append_blk (E := slE) _ (by rfl) _ _ 29 40 (by rfl) Try.underlying29 j1 (.slice none 0 0) 24 hj hy0 hy1 hy2 (by rfl) w.heap.size (.slice a4 n4 c4) (by rfl) us (((HKU.out _ ?_).kept hg5 HNE.out).kept ?_ (none_or _)) _ 0 1 (by rfl) (some ⟨gp, 0, none⟩, n, n) (vat_one ?_) HLU1.out HLU2.out ?_ ?_; (focus (first | exact gnn_drew (gnn_alloc (gnn_refl _) _) | exact gnn_drew (gnn_alloc (gnn_alloc (gnn_refl _) _) _) | exact gnn_drew (gnn_alloc (gnn_alloc (gnn_alloc (gnn_refl _) _) _) _))); (focus (first | exact gnn_refl _ | exact gnn_alloc (gnn_refl _) _ | exact gnn_drew (gnn_refl _) | exact gnn_drew (gnn_alloc (gnn_refl _) _))); (focus (first | (simp [slV]; done) | (refine hg5.cell ?_ ?_; (focus (first | exact cel1 _ _ _ rfl | exact cel1 _ _ _ (sz1 _ _) | exact cel1 _ _ _ (sz2 _ _ _) | exact cel2 _ _ _ _ rfl | exact cel2 _ _ _ _ (sz1 _ _) | exact cel3 _ _ _ _ _ rfl)); (focus (intro e; have h1 := HVB.out _ e.symm; have h2 := HWI.out; try dsimp only at h1; omega))))); (focus (have := HWI.out; have := hg5.size; simp at *; omega)); intro u6 w6 ho6 hg6 hb6)))
        all_goals go_wp2
        all_goals go_roundw
        all_goals first
          | (simp [intOf]; omega)
          | exact ⟨k + 1, _, _, by omega, by go_num, HFIN.out wi.heap.size _ w5 _ w6 v5 u6 (Nat.le_refl _) (by first | exact gnn_drew (gnn_alloc (gnn_alloc (gnn_refl _) _) _) | exact gnn_drew (gnn_alloc (gnn_alloc (gnn_alloc (gnn_refl _) _) _) _)) (HX0.out _ (by first | exact gnn_drew (gnn_alloc (gnn_refl _) _) | exact gnn_drew (gnn_alloc (gnn_alloc (gnn_refl _) _) _))) hg5 ho5 hb5 (by first | exact gnn_refl _ | exact gnn_alloc (gnn_refl _) _) hg6 ho6 hb6⟩
          | exact ⟨k + 1, _, _, by omega, by go_num, HFIN.out (wi.heap.size + 1) _ w5 _ w6 v5 u6 (Nat.le_succ _) (by first | exact gnn_drew (gnn_alloc (gnn_alloc (gnn_refl _) _) _) | exact gnn_drew (gnn_alloc (gnn_alloc (gnn_alloc (gnn_refl _) _) _) _)) (HX1.out _ (by first | exact gnn_drew (gnn_alloc (gnn_refl _) _) | exact gnn_drew (gnn_alloc (gnn_alloc (gnn_refl _) _) _))) hg5 ho5 hb5 (by first | exact gnn_refl _ | exact gnn_alloc (gnn_refl _) _) hg6 ho6 hb6⟩
      · obtain ⟨j, hj9⟩ : ∃ j : Nat, I = (j : Int) := ⟨I.toNat, by omega⟩
        have hIn := HI.out
        obtain ⟨q1, _⟩ := ixG_lt (show 0 ≤ ixG (fun p => p == pthL Ts (k : Int)) (kcTo (pthL Ts) k).2 by
          have h9 : I = ixG (fun p => p == pthL Ts (k : Int)) (kcTo (pthL Ts) k).2 := hIn
          omega)
        have q2 : j < (kcTo (pthL Ts) k).2.length := by
          have h9 : I = ixG (fun p => p == pthL Ts (k : Int)) (kcTo (pthL Ts) k).2 := hIn
          omega
        have q3 := kc_len (pthL Ts) k
        have hjC : j < (kcTo (pthL Ts) k).1.length := by omega
        have hjv : j < vs.length := by rw [HCi.out.lv]; exact hjC
        have HKN : Hid (kcTo (pthL Ts) (k + 1) = ((kcTo (pthL Ts) k).1.set j ((kcTo (pthL Ts) k).1[j] ++ [(k : Int)]), (kcTo (pthL Ts) k).2)) := by
          show _ = _
          rw [kc_no (by rw [← hIn]; exact hneg), ← hIn, hj9, Int.toNat_natCast]
          congr 2
          simp [List.getD, hjC]
        have HSZ : Hid ((kcTo (pthL Ts) k).1[j].length ≤ 16) := by
          have := (kc_size (f := pthL Ts) hjC).2
          show _ ≤ _
          omega
        obtain ⟨L, hL⟩ : ∃ L, L = (kcTo (pthL Ts) k).1[j] := ⟨_, rfl⟩
        rw [← hL] at HKN HSZ
        have HRW := HCi.out.rv j vs[j] L (List.getElem?_eq_getElem hjv) (by rw [hL]; exact List.getElem?_eq_getElem hjC)
        obtain ⟨x, hx⟩ : ∃ x, x = vs[j] := ⟨_, rfl⟩
        rw [← hx] at HRW
        have HX : Hid (vs[j]? = some x) := by
          show _ = _
          rw [hx]
          exact List.getElem?_eq_getElem hjv
        have HRX : Hid (wi.ownsRow w.heap.size 3 inE.n (slV x) L.length (cellsG inE L)) := HRW
        have hgv : ∃ g, a3 = some ⟨g, 0, none⟩ := by
          rcases HCi.out.ov.2 with ⟨_, h0⟩ | ⟨g, _, _, h0, _⟩
          · omega
          · simp only [Value.slice.injEq] at h0
            exact ⟨g, h0.1⟩
        obtain ⟨g3, hg3⟩ := hgv
        subst hg3
        have hcl : ∀ W : World, W.ownsRow w.heap.size 40 slE.n (.slice (some ⟨g3, 0, none⟩) n3 c3) vs.length (cellsG slE vs) → W.cell? ⟨g3, j, none⟩ = some (slV x) ∧ W.frozen? ⟨g3, j, none⟩ = false := by
          intro W h
          have hl : vs.length = n3 := HN3.out
          rw [hl] at h
          refine ⟨?_, h.frozenAt j⟩
          rw [h.cellAt j (by show j < n3 * 1; omega), sl_cells, List.getElem?_map, HX.out]
          rfl
        have HCLW : Hid (∀ W : World, W.ownsRow w.heap.size 40 slE.n (.slice (some ⟨g3, 0, none⟩) n3 c3) vs.length (cellsG slE vs) → W.cell? ⟨g3, j, none⟩ = some (slV x) ∧ W.frozen? ⟨g3, j, none⟩ = false) := hcl
        obtain ⟨xa, xn, xc⟩ := x
        have d0 : wi.cell? ⟨g3, j, none⟩ = some (.slice xa xn xc) := (hcl _ HCi.out.ov).1
        have jb0 : (0 : Int) ≤ (j : Int) := by omega
        have jb1 : (j : Int) < (n3 : Int) := by have := HN3.out; omega
        have HC9 : Hid (CP 3 40 (wi.alloc (Obj.cells #[.int .i64 (k : Int)] 3)) w.heap.size (.slice (some ⟨g3, 0, none⟩) n3 c3) (.slice a4 n4 c4) vs us (kcTo (pthL Ts) k).1 (kcTo (pthL Ts) k).2) := HCi.out.keep (gnn_alloc (gnn_refl _) _)
        have HR9 : Hid ((wi.alloc (Obj.cells #[.int .i64 (k : Int)] 3)).ownsRow w.heap.size 3 inE.n (.slice xa xn xc) L.length (cellsG inE L)) := HRX.out.kept (gnn_alloc (gnn_refl _) _) (none_or _)
        have hd0 : ¬ (j : Int) < 0 := by omega
        subst hj9
        clear hneg hIn q1 q2 q3 hjC hjv hL HRW hx hcl HI HRX
        go_upto_region 9 with fail
        go_wp2_with (at_builtin; refine wpList_append_blk (E := inE) _ rfl _ _ 40 3 rfl Try.underlying40 i0 (.int .i64 0) 8 hi hz0 hz1 hz2 rfl w.heap.size (.slice xa xn xc) rfl L HR9.out wi.heap.size 0 1 rfl (k : Int) (vat_num (by simp)) ?a1 ?a2 ?a3 ?_)
        case a1 => have := HSZ.out; unfold maxLen; omega
        case a2 => have := HSZ.out; omega
        case a3 => have := HWI.out; simp; omega
        intro v7 w7 ho7 hg7 hb7
        obtain ⟨a7, c7, hv7⟩ := own_form ho7
        obtain ⟨n7, hn7⟩ : ∃ m, m = L.length + 1 := ⟨_, rfl⟩
        rw [← hn7] at hv7
        subst hv7
        have hov7 := HC9.out.ov.kept hg7 (own_rows2 HC9.out.ov HR9.out (by decide))
        obtain ⟨d7, z7⟩ := HCLW.out _ hov7
        have hd7 : w7.cell? ⟨g3, j, none⟩ = some (.slice xa xn xc) := d7
        have HPUT : Hid (CP 3 40 (w7.setCell ⟨g3, j, none⟩ (.slice a7 n7 c7)) w.heap.size (.slice (some ⟨g3, 0, none⟩) n3 c3) (.slice a4 n4 c4) (vs.set j (a7, n7, c7)) us (kcTo (pthL Ts) (k + 1)).1 (kcTo (pthL Ts) (k + 1)).2) := by
          have ho8 : w7.ownsRow w.heap.size 3 inE.n (slV (a7, n7, c7)) (L ++ [(k : Int)]).length (cellsG inE (L ++ [(k : Int)])) := by
            rw [List.length_append]
            exact ho7
          have hb8 : (slV (a7, n7, c7)).ownBlock = (slV (xa, xn, xc)).ownBlock ∨ (slV (a7, n7, c7)).ownBlock = some (wi.alloc (Obj.cells #[.int .i64 (k : Int)] 3)).heap.size := by
            rcases hb7 with h | h
            · exact .inl h
            · exact .inr (by rw [show (slV (a7, n7, c7)).ownBlock = _ from h]; simp)
          have := HC9.out.put (by decide) (x' := (a7, n7, c7)) HX.out hg7 ho8 hb8 rfl
          rw [HKN.out]
          exact this
        have HBP : Hid (Below w.heap.size w (w7.setCell ⟨g3, j, none⟩ (.slice a7 n7 c7))) := by
          have b1 : Below w.heap.size w (wi.alloc (Obj.cells #[.int .i64 (k : Int)] 3)) := HBi.out.alloc HBi.out.size _
          have b2 := b1.trans (below_grown hg7 b1.size (fun q e => (HR9.out.lt q e).1))
          exact b2.setCell (p := ⟨g3, j, none⟩) ((HC9.out.ov.lt g3 rfl).1) _
        clear ho7 hg7 hb7 hov7 d7 hn7 d0 HC9 HR9
        go_wp2
        go_roundw
        case rel => exact ⟨k + 1, _, us, by omega, by go_num, HPUT.out, HBP.out⟩
        case measure => simp [intOf]; omega
    · obtain rfl : k = 16 := by omega
      go_wp2
      go_ret
      exact ⟨_, _, vs, us, rfl, HCP.out, HB.out⟩
end Go.Proofs.Ytfbocionnjlilad
