/- Contracts and facts on the way to ClassTells, joined into one text: ClassAlike, ClassRep, SlNum, NetMath2, LineMath, NetMath3, ClassFns, SmInts, SmLists, RefCube, RuleTwo, RuleText, RuleRefMath, RefFind. -/
import Derived.Test.YtfbocionnjliladDoorClassTellsP4
import Derived.Test.YtfbocionnjliladDoorClassTellsP1
import Derived.Test.YtfbocionnjliladDoorClassTellsP2
import Derived.Test.YtfbocionnjliladDoorClassTellsP3
import Derived.Deep.RegionHeld3
import Derived.Deep.CutRange
import Derived.Deep.CutBlock
import Derived.Test.YtfbocionnjliladDoorRows
import Derived.WalkKit
import Derived.WalkSpells
import Derived.Below
import Derived.BigQuiet
import Derived.Deep.QuietTactic
import Derived.Lib.Bytealg
import Derived.Lib.IndexLaws
/- What class.alike answers: a contract for the walks above it. -/
namespace Go.Proofs.YtfbocionnjliladDoor
open Go.RowKit
set_option linter.unusedSimpArgs false
set_option linter.unusedVariables false

theorem infoSl : (Tryd.prog.info? 43).map (fun i => (i.zero, i.size, i.bytes)) = some (some (.slice none 0 0), 1, 24) := by kernel_rfl
theorem enters_alike1 : ∀ args w, (callFunc 50 args).run Tryd.prog w = .ok (.enter 50 args) w := enters_of Tryd.func50 (by kernel_rfl) rfl
theorem vat_one {W : World} {g q : Nat} {y : SlT} (h : W.cell? ⟨g, q, none⟩ = some (slV y)) : VAt W g q (slE.c y) := by
  intro j z hz
  match j, hz with
  | 0, hz => cases hz; exact h
theorem sz1 (W : World) (o : Obj) : (W.alloc o).heap.size = W.heap.size + 1 := by simp
theorem sz2 (W : World) (o o2 : Obj) : ((W.alloc o).alloc o2).heap.size = W.heap.size + 1 + 1 := by simp
theorem cel1 (W : World) (v : Value) (t : TypeId) {g : Nat} (hg : W.heap.size = g) : ((W.alloc (Obj.cells #[v] t)).drew).cell? ⟨g, 0, none⟩ = some v := by
  subst hg
  have h : (W.alloc (Obj.cells #[v] t)).cell? ⟨W.heap.size, 0, none⟩ = some v := by simp
  exact cell_later (Below.drew (Below.refl _ _)) h
theorem cel2 (W : World) (v : Value) (t : TypeId) (o : Obj) {g : Nat} (hg : W.heap.size = g) : (((W.alloc (Obj.cells #[v] t)).alloc o).drew).cell? ⟨g, 0, none⟩ = some v := by
  subst hg
  have h : (W.alloc (Obj.cells #[v] t)).cell? ⟨W.heap.size, 0, none⟩ = some v := by simp
  exact cell_later (Below.drew ((Below.refl _ _).alloc (Nat.le_refl _) o)) h
theorem cel3 (W : World) (v : Value) (t : TypeId) (o o2 : Obj) {g : Nat} (hg : W.heap.size = g) : ((((W.alloc (Obj.cells #[v] t)).alloc o).alloc o2).drew).cell? ⟨g, 0, none⟩ = some v := by
  subst hg
  have h : (W.alloc (Obj.cells #[v] t)).cell? ⟨W.heap.size, 0, none⟩ = some v := by simp
  exact cell_later (Below.drew (((Below.refl _ _).alloc (Nat.le_refl _) o).alloc (by simp) o2)) h
theorem vat_num {W : World} {g q : Nat} {y : Int} (h : W.cell? ⟨g, q, none⟩ = some (.int .i64 y)) : VAt W g q (inE.c y) := by
  intro j z hz
  match j, hz with
  | 0, hz => cases hz; exact h
theorem own_num {B : Nat} (w : World) (y : Int) (hB : B ≤ w.heap.size) : (w.alloc (Obj.cells #[.int .i64 y] 3)).ownsRow B 3 inE.n (slV (some ⟨w.heap.size, 0, none⟩, 1, 1)) [y].length (cellsG inE [y]) :=
  World.ownsRow_lit w #[.int .i64 y] 1 hB (by unfold maxLen; omega) rfl

set_option maxHeartbeats 4000000 in
set_option maxRecDepth 100000 in
theorem alike_any (ao : Option Addr) (n cap : Nat) (Ts : List (List Ru)) (w : World) (hT : TS w (.slice ao n cap) Ts) (hn8 : n ≤ 8) :
    Calls Tryd.prog 24 #[.slice ao n cap] w fun e w' => ∃ v u vs us, e = .returned v ∧ CP 3 43 w' w.heap.size v u vs us (kcTo (pthL Ts) 16).1 (kcTo (pthL Ts) 16).2 ∧ Below w.heap.size w w' := by
  have HTW : Hid (∀ W, Below w.heap.size w W → TS W (.slice ao n cap) Ts) := fun W hb => hT.later hb
  have HN8 : Hid (n ≤ 8) := hn8
  clear hT
  go_enter Tryd.func24, Tryd.ntmps24
  go_wp2
  go_loopw [3, 4, 8] (fun v u i wr => ∃ (k : Nat) (vs us : List SlT), k ≤ 16 ∧ i = .int .i64 k ∧ CP 3 43 wr w.heap.size v u vs us (kcTo (pthL Ts) k).1 (kcTo (pthL Ts) k).2 ∧ Below w.heap.size w wr) (fun _ _ i _ => 16 - (intOf i).toNat)
  case atStart => exact ⟨0, [], [], by omega, rfl, cp_nil _ _ _ _, Below.refl _ _⟩
  case round =>
    obtain ⟨k, vs, us, hk, rfl, hCP, hB⟩ := hrel
    obtain ⟨wo, hwo⟩ : ∃ X, X = wr := ⟨_, rfl⟩
    subst hwo
    have HB : Hid (Below w.heap.size w wo) := hB
    obtain ⟨a3, c3, hv3⟩ := own_form hCP.ov
    obtain ⟨a4, c4, hu4⟩ := own_form hCP.ou
    obtain ⟨n3, hn3⟩ : ∃ m, m = vs.length := ⟨_, rfl⟩
    obtain ⟨n4, hn4⟩ : ∃ m, m = us.length := ⟨_, rfl⟩
    rw [← hn3] at hv3
    rw [← hn4] at hu4
    subst hv3 hu4
    have HCP : Hid (CP 3 43 wo w.heap.size (.slice a3 n3 c3) (.slice a4 n4 c4) vs us (kcTo (pthL Ts) k).1 (kcTo (pthL Ts) k).2) := hCP
    have HN3 : Hid (vs.length = n3) := hn3.symm
    have HN4 : Hid (us.length = n4) := hn4.symm
    clear hB hCP hn3 hn4
    by_cases hlt : k < 16
    · have hki : (k : Int) < 16 := by omega
      go_wp2_with fail
      refine (path_any ao n cap Ts (k : Int) _ (HTW.out _ HB.out) HN8.out).mono ?_
      rintro e w1 ⟨rfl, hown1, hb1⟩
      have hs1 := hb1.size
      have hlt1 : wo.heap.size < w1.heap.size := (hown1.lt wo.heap.size rfl).2
      obtain ⟨gp, hgp⟩ : ∃ g, g = wo.heap.size := ⟨_, rfl⟩
      obtain ⟨b, hb⟩ : ∃ b, b = w1.heap.size := ⟨_, rfl⟩
      obtain ⟨w2, hw2⟩ : ∃ W, w1.alloc (Obj.cells #[.slice (some ⟨gp, 0, none⟩) n n] 43) = W := ⟨_, rfl⟩
      have hb2 : Below w1.heap.size w1 w2 := by
        rw [← hw2]
        exact (Below.refl _ _).alloc (Nat.le_refl _) _
      have hcell : w2.cell? ⟨b, 0, none⟩ = some (.slice (some ⟨gp, 0, none⟩) n n) := by
        rw [← hw2, hb]
        simp
      rw [← hgp] at hown1
      have hP2 : w2.ownsRow w.heap.size 3 inE.n (.slice (some ⟨gp, 0, none⟩) n n) (pthL Ts (k : Int)).length (cellsG inE (pthL Ts (k : Int))) := by
        refine own_mono (own_below hown1 hb2) ?_
        rw [hgp]
        exact HB.out.size
      have hb12 : Below wo.heap.size wo w2 := hb1.trans (hb2.mono hs1)
      have HC2 : Hid (CP 3 43 w2 w.heap.size (.slice a3 n3 c3) (.slice a4 n4 c4) vs us (kcTo (pthL Ts) k).1 (kcTo (pthL Ts) k).2) := HCP.out.later hb12
      have HP2 : Hid (w2.ownsRow w.heap.size 3 inE.n (.slice (some ⟨gp, 0, none⟩) n n) (pthL Ts (k : Int)).length (cellsG inE (pthL Ts (k : Int)))) := hP2
      have HB2 : Hid (Below w.heap.size w w2) := HB.out.trans (hb12.mono HB.out.size)
      have HCELL : Hid (w2.cell? ⟨b, 0, none⟩ = some (.slice (some ⟨gp, 0, none⟩) n n)) := hcell
      have HGP : Hid (gp = wo.heap.size) := hgp
      have HGB : Hid (wo.heap.size ≤ b ∧ gp < b) := ⟨by omega, by omega⟩
      have HW2 : Hid (w1.alloc (Obj.cells #[.slice (some ⟨gp, 0, none⟩) n n] 43) = w2) := hw2
      have HBB : Hid (b = w1.heap.size) := hb
      have HASK : Hid (ilAsks w2 50 (.pointer (some ⟨b, 0, none⟩)) (fun L => L == pthL Ts (k : Int))) := fun ao n cap L W hb hG => alike1_any ao _ n _ cap _ b L _ W (cell_later hb HCELL.out) hG (own_GS (own_below HP2.out hb))
      rw [← hgp]
      clear hown1 hb1 hs1 hlt1 hgp hb hw2 hb2 hcell hP2 hb12
      go_upto_region 6 with fail
      rw [HW2.out, ← HBB.out]
      clear HW2 HBB
      go_wp2_with fail
      refine (il_idxF a4 n4 c4 50 (.pointer (some ⟨b, 0, none⟩)) (fun L => L == pthL Ts (k : Int)) (kcTo (pthL Ts) k).2 _ HC2.out.swap.ls enters_alike1 HASK.out).mono ?_
      rintro e wi ⟨rfl, hbi⟩
      obtain ⟨I, hI⟩ : ∃ I, I = ixC (pthL Ts) k (kcTo (pthL Ts) k).2 := ⟨_, rfl⟩
      have HI : Hid (I = ixC (pthL Ts) k (kcTo (pthL Ts) k).2) := hI
      rw [show ixG (fun L => L == pthL Ts (k : Int)) (kcTo (pthL Ts) k).2 = I from hI.symm]
      have HCi : Hid (CP 3 43 wi w.heap.size (.slice a3 n3 c3) (.slice a4 n4 c4) vs us (kcTo (pthL Ts) k).1 (kcTo (pthL Ts) k).2) := HC2.out.later hbi
      have HPi : Hid (wi.ownsRow w.heap.size 3 inE.n (.slice (some ⟨gp, 0, none⟩) n n) (pthL Ts (k : Int)).length (cellsG inE (pthL Ts (k : Int)))) := own_below HP2.out hbi
      have HBi : Hid (Below w.heap.size w wi) := HB2.out.trans (hbi.mono HB2.out.size)
      have hcell := cell_later hbi HCELL.out
      clear hI hbi HC2 HP2 HB2 HCELL HASK
      have hle := kc_len (pthL Ts) k
      have hlv := HCi.out.lv
      have hlu := HCi.out.lu
      have HLV : Hid (vs.length + 1 ≤ 17) := by
        show _ ≤ _
        omega
      have HLU : Hid (us.length + 1 ≤ 17) := by
        show _ ≤ _
        omega
      have HLV1 : Hid (vs.length + 1 ≤ maxLen) := Nat.le_trans HLV.out (by unfold maxLen; omega)
      have HLV2 : Hid ((vs.length + 1) * 24 ≤ 140737488355328) := by
        have := HLV.out
        show _ ≤ _
        omega
      have HLU1 : Hid (us.length + 1 ≤ maxLen) := Nat.le_trans HLU.out (by unfold maxLen; omega)
      have HLU2 : Hid ((us.length + 1) * 24 ≤ 140737488355328) := by
        have := HLU.out
        show _ ≤ _
        omega
      have HVB : Hid (∀ j, (Value.slice a3 n3 c3).ownBlock = some j → j < wo.heap.size) := fun j e => (HCP.out.ov.lt j e).2
      have HUB : Hid (∀ j, (Value.slice a4 n4 c4).ownBlock = some j → j < wo.heap.size) := fun j e => (HCP.out.ou.lt j e).2
      have HWI : Hid (wo.heap.size ≤ wi.heap.size ∧ w.heap.size ≤ wi.heap.size ∧ gp < wi.heap.size ∧ b < wi.heap.size) := by
        have h1 := (HPi.out.lt gp rfl).2
        have h2 : b < wi.heap.size := World.block_lt_of_cell? _ _ hcell
        have h3 := HGB.out.1
        exact ⟨by omega, HBi.out.size, h1, h2⟩
      obtain ⟨j1, hj, hy0, hy1, hy2⟩ := info_parts infoSl
      obtain ⟨i0, hi, hz0, hz1, hz2⟩ := info_parts infoInt
      clear hle hlv hlu
      by_cases hneg : I < 0
      · have HKV : Hid (∀ W, wi.grownBy W none → W.ownsRow w.heap.size 43 slE.n (.slice a3 n3 c3) vs.length (cellsG slE vs)) := fun W h => (HCi.out.keep h).ov
        have HKU : Hid (∀ W, wi.grownBy W none → W.ownsRow w.heap.size 43 slE.n (.slice a4 n4 c4) us.length (cellsG slE us)) := fun W h => (HCi.out.keep h).ou
        have HKP : Hid (∀ W, wi.grownBy W none → W.ownsRow w.heap.size 3 inE.n (slV (some ⟨gp, 0, none⟩, n, n)) (pthL Ts (k : Int)).length (cellsG inE (pthL Ts (k : Int)))) := fun W h => HPi.out.kept h (none_or _)
        have HNE : Hid ((Value.slice a4 n4 c4).ownBlock = none ∨ (Value.slice a4 n4 c4).ownBlock ≠ (Value.slice a3 n3 c3).ownBlock) := HCi.out.swap.ne
        have HX0 : Hid (∀ W, (wi.alloc (Obj.cells #[.int .i64 (k : Int)] 3)).grownBy W none → W.ownsRow w.heap.size 3 inE.n (slV (some ⟨wi.heap.size, 0, none⟩, 1, 1)) [(k : Int)].length (cellsG inE [(k : Int)])) := fun W h => (own_num wi k HWI.out.2.1).kept h (none_or _)
        have HX1 : Hid (∀ W, ((wi.alloc (Obj.cells #[.slice (some ⟨gp, 0, none⟩) n n] 43)).alloc (Obj.cells #[.int .i64 (k : Int)] 3)).grownBy W none → W.ownsRow w.heap.size 3 inE.n (slV (some ⟨wi.heap.size + 1, 0, none⟩, 1, 1)) [(k : Int)].length (cellsG inE [(k : Int)])) := fun W h => by
          have e : (wi.alloc (Obj.cells #[.slice (some ⟨gp, 0, none⟩) n n] 43)).heap.size = wi.heap.size + 1 := by simp
          have hB : w.heap.size ≤ (wi.alloc (Obj.cells #[.slice (some ⟨gp, 0, none⟩) n n] 43)).heap.size := by
            have := HWI.out.2.1
            omega
          have := own_num (wi.alloc (Obj.cells #[.slice (some ⟨gp, 0, none⟩) n n] 43)) (k : Int) hB
          rw [e] at this
          exact this.kept h (none_or _)
        have HFIN : Hid (∀ (GX : Nat) (W1 w5 W2 w6 : World) (v5 u6 : Value), wi.heap.size ≤ GX → wi.grownBy W1 none → W1.ownsRow w.heap.size 3 inE.n (slV (some ⟨GX, 0, none⟩, 1, 1)) [(k : Int)].length (cellsG inE [(k : Int)]) → W1.grownBy w5 (Value.slice a3 n3 c3).ownBlock → w5.ownsRow w.heap.size 43 slE.n v5 (vs ++ [((some ⟨GX, 0, none⟩, 1, 1) : SlT)]).length (cellsG slE (vs ++ [((some ⟨GX, 0, none⟩, 1, 1) : SlT)])) → (v5.ownBlock = (Value.slice a3 n3 c3).ownBlock ∨ v5.ownBlock = some W1.heap.size) → w5.grownBy W2 none → W2.grownBy w6 (Value.slice a4 n4 c4).ownBlock → w6.ownsRow w.heap.size 43 slE.n u6 (us ++ [((some ⟨gp, 0, none⟩, n, n) : SlT)]).length (cellsG slE (us ++ [((some ⟨gp, 0, none⟩, n, n) : SlT)])) → (u6.ownBlock = (Value.slice a4 n4 c4).ownBlock ∨ u6.ownBlock = some W2.heap.size) →
            CP 3 43 w6 w.heap.size v5 u6 (vs ++ [((some ⟨GX, 0, none⟩, 1, 1) : SlT)]) (us ++ [((some ⟨gp, 0, none⟩, n, n) : SlT)]) (kcTo (pthL Ts) (k + 1)).1 (kcTo (pthL Ts) (k + 1)).2 ∧ Below w.heap.size w w6) := by
          intro GX W1 w5 W2 w6 v5 u6 hGX c1 x1 g1 o1 b1 c2 g2 o2 b2
          have hI := HI.out
          rw [hI] at hneg
          rw [kc_yes hneg]
          have hgp := HGP.out
          have hw := HWI.out
          have hp1 := HKP.out W1 c1
          have hp2 := (hp1.kept g1 (own_rows2 hp1 (HKV.out W1 c1) (by decide))).kept c2 (none_or _)
          obtain ⟨r1, r2⟩ := HCi.out.seq (by decide) hw.2.1 x1 (fun y hy e => by
              have := HCi.out.old y hy GX e
              omega) hp2 (fun y hy e => by
              have := HCP.out.old y hy gp e
              omega) (fun e => by
              have e2 : some GX = some gp := e
              simp at e2
              omega) c1 g1 o1 b1 c2 g2 o2 b2 (gnn_refl _)
          exact ⟨r1, HBi.out.trans r2⟩
        have HKC : Hid (∀ W, wi.grownBy W none → W.cell? ⟨b, 0, none⟩ = some (.slice (some ⟨gp, 0, none⟩) n n)) := fun W h => h.cell hcell (by simp)
        clear HI
        go_upto_region 8 with fail
        go_region_held3 (fun w' => w'.cell? ⟨b, 0, none⟩ = some (.slice (some ⟨gp, 0, none⟩) n n)) (first | assumption | (refine HKC.out _ ?_; first | exact gnn_drew (gnn_alloc (gnn_refl _) _) | exact gnn_drew (gnn_alloc (gnn_alloc (gnn_refl _) _) _) | exact gnn_drew (gnn_alloc (gnn_alloc (gnn_alloc (gnn_refl _) _) _) _)) | exact cell_later ((Below.refl _ _).alloc (Nat.le_refl _) _) ‹_› | (focus (refine hg5.cell ‹_› ?_; intro e; have h1 := HVB.out b e.symm; have h2 := HGB.out; omega)) | (focus (refine hg6.cell ‹_› ?_; intro e; have h1 := HUB.out b e.symm; have h2 := HGB.out; omega)))
          (first
            | ((refine step_append_blk (E := slE) _ (by rfl) _ _ 31 43 (by rfl) Tryd.underlying31 j1 (.slice none 0 0) 24 hj hy0 hy1 hy2 (by rfl) w.heap.size (.slice a3 n3 c3) (by rfl) vs (HKV.out _ ?_) _ 0 1 (by rfl) (some ⟨wi.heap.size, 0, none⟩, 1, 1) (vat_one ?_) HLV1.out HLV2.out ?_ ?_; (focus (first | exact gnn_drew (gnn_alloc (gnn_refl _) _) | exact gnn_drew (gnn_alloc (gnn_alloc (gnn_refl _) _) _) | exact gnn_drew (gnn_alloc (gnn_alloc (gnn_alloc (gnn_refl _) _) _) _))); (focus (first | exact cel1 _ _ _ rfl | exact cel1 _ _ _ (sz1 _ _) | exact cel1 _ _ _ (sz2 _ _ _) | exact cel2 _ _ _ _ rfl | exact cel2 _ _ _ _ (sz1 _ _) | exact cel3 _ _ _ _ _ rfl)); (focus (have := HWI.out; simp; omega)); intro v5 w5 ho5 hg5 hb5))
            | ((refine step_append_blk (E := slE) _ (by rfl) _ _ 31 43 (by rfl) Tryd.underlying31 j1 (.slice none 0 0) 24 hj hy0 hy1 hy2 (by rfl) w.heap.size (.slice a3 n3 c3) (by rfl) vs (HKV.out _ ?_) _ 0 1 (by rfl) (some ⟨wi.heap.size + 1, 0, none⟩, 1, 1) (vat_one ?_) HLV1.out HLV2.out ?_ ?_; (focus (first | exact gnn_drew (gnn_alloc (gnn_refl _) _) | exact gnn_drew (gnn_alloc (gnn_alloc (gnn_refl _) _) _) | exact gnn_drew (gnn_alloc (gnn_alloc (gnn_alloc (gnn_refl _) _) _) _))); (focus (first | exact cel1 _ _ _ rfl | exact cel1 _ _ _ (sz1 _ _) | exact cel1 _ _ _ (sz2 _ _ _) | exact cel2 _ _ _ _ rfl | exact cel2 _ _ _ _ (sz1 _ _) | exact cel3 _ _ _ _ _ rfl)); (focus (have := HWI.out; simp; omega)); intro v5 w5 ho5 hg5 hb5))
            | ((refine step_append_blk (E := slE) _ (by rfl) _ _ 31 43 (by rfl) Tryd.underlying31 j1 (.slice none 0 0) 24 hj hy0 hy1 hy2 (by rfl) w.heap.size (.slice a4 n4 c4) (by rfl) us (((HKU.out _ ?_).kept hg5 HNE.out).kept ?_ (none_or _)) _ 0 1 (by rfl) (some ⟨gp, 0, none⟩, n, n) (vat_one ?_) HLU1.out HLU2.out ?_ ?_; (focus (first | exact gnn_drew (gnn_alloc (gnn_refl _) _) | exact gnn_drew (gnn_alloc (gnn_alloc (gnn_refl _) _) _) | exact gnn_drew (gnn_alloc (gnn_alloc (gnn_alloc (gnn_refl _) _) _) _))); (focus (first | exact gnn_refl _ | exact gnn_alloc (gnn_refl _) _ | exact gnn_drew (gnn_refl _) | exact gnn_drew (gnn_alloc (gnn_refl _) _))); (focus (first | (simp [slV]; done) | (refine hg5.cell ?_ ?_; (focus (first | exact cel1 _ _ _ rfl | exact cel1 _ _ _ (sz1 _ _) | exact cel1 _ _ _ (sz2 _ _ _) | exact cel2 _ _ _ _ rfl | exact cel2 _ _ _ _ (sz1 _ _) | exact cel3 _ _ _ _ _ rfl)); (focus (intro e; have h1 := HVB.out _ e.symm; have h2 := HWI.out; try dsimp only at h1; omega))))); (focus (have := HWI.out; have := hg5.size; simp at *; omega)); intro u6 w6 ho6 hg6 hb6)))
        all_goals go_wp2
        all_goals go_roundw
        all_goals first
          | (simp [intOf]; omega)
          | exact ⟨k + 1, _, _, by omega, by go_num, HFIN.out wi.heap.size _ w5 _ w6 v5 u6 (Nat.le_refl _) (by first | exact gnn_drew (gnn_alloc (gnn_alloc (gnn_refl _) _) _) | exact gnn_drew (gnn_alloc (gnn_alloc (gnn_alloc (gnn_refl _) _) _) _)) (HX0.out _ (by first | exact gnn_drew (gnn_alloc (gnn_refl _) _) | exact gnn_drew (gnn_alloc (gnn_alloc (gnn_refl _) _) _))) hg5 ho5 hb5 (by first | exact gnn_refl _ | exact gnn_alloc (gnn_refl _) _) hg6 ho6 hb6⟩
          | exact ⟨k + 1, _, _, by omega, by go_num, HFIN.out (wi.heap.size + 1) _ w5 _ w6 v5 u6 (Nat.le_succ _) (by first | exact gnn_drew (gnn_alloc (gnn_alloc (gnn_refl _) _) _) | exact gnn_drew (gnn_alloc (gnn_alloc (gnn_alloc (gnn_refl _) _) _) _)) (HX1.out _ (by first | exact gnn_drew (gnn_alloc (gnn_refl _) _) | exact gnn_drew (gnn_alloc (gnn_alloc (gnn_refl _) _) _))) hg5 ho5 hb5 (by first | exact gnn_refl _ | exact gnn_alloc (gnn_refl _) _) hg6 ho6 hb6⟩
      · obtain ⟨j, hj9⟩ : ∃ j : Nat, I = (j : Int) := ⟨I.toNat, by omega⟩
        have hIn := HI.out
        obtain ⟨q1, _⟩ := ixG_lt (show 0 ≤ ixG (fun p => p == pthL Ts (k : Int)) (kcTo (pthL Ts) k).2 by
          have h9 : I = ixG (fun p => p == pthL Ts (k : Int)) (kcTo (pthL Ts) k).2 := hIn
          omega)
        have q2 : j < (kcTo (pthL Ts) k).2.length := by
          have h9 : I = ixG (fun p => p == pthL Ts (k : Int)) (kcTo (pthL Ts) k).2 := hIn
          omega
        have q3 := kc_len (pthL Ts) k
        have hjC : j < (kcTo (pthL Ts) k).1.length := by omega
        have hjv : j < vs.length := by rw [HCi.out.lv]; exact hjC
        have HKN : Hid (kcTo (pthL Ts) (k + 1) = ((kcTo (pthL Ts) k).1.set j ((kcTo (pthL Ts) k).1[j] ++ [(k : Int)]), (kcTo (pthL Ts) k).2)) := by
          show _ = _
          rw [kc_no (by rw [← hIn]; exact hneg), ← hIn, hj9, Int.toNat_natCast]
          congr 2
          simp [List.getD, hjC]
        have HSZ : Hid ((kcTo (pthL Ts) k).1[j].length ≤ 16) := by
          have := (kc_size (f := pthL Ts) hjC).2
          show _ ≤ _
          omega
        obtain ⟨L, hL⟩ : ∃ L, L = (kcTo (pthL Ts) k).1[j] := ⟨_, rfl⟩
        rw [← hL] at HKN HSZ
        have HRW := HCi.out.rv j vs[j] L (List.getElem?_eq_getElem hjv) (by rw [hL]; exact List.getElem?_eq_getElem hjC)
        obtain ⟨x, hx⟩ : ∃ x, x = vs[j] := ⟨_, rfl⟩
        rw [← hx] at HRW
        have HX : Hid (vs[j]? = some x) := by
          show _ = _
          rw [hx]
          exact List.getElem?_eq_getElem hjv
        have HRX : Hid (wi.ownsRow w.heap.size 3 inE.n (slV x) L.length (cellsG inE L)) := HRW
        have hgv : ∃ g, a3 = some ⟨g, 0, none⟩ := by
          rcases HCi.out.ov.2 with ⟨_, h0⟩ | ⟨g, _, _, h0, _⟩
          · omega
          · simp only [Value.slice.injEq] at h0
            exact ⟨g, h0.1⟩
        obtain ⟨g3, hg3⟩ := hgv
        subst hg3
        have hcl : ∀ W : World, W.ownsRow w.heap.size 43 slE.n (.slice (some ⟨g3, 0, none⟩) n3 c3) vs.length (cellsG slE vs) → W.cell? ⟨g3, j, none⟩ = some (slV x) ∧ W.frozen? ⟨g3, j, none⟩ = false := by
          intro W h
          have hl : vs.length = n3 := HN3.out
          rw [hl] at h
          refine ⟨?_, h.frozenAt j⟩
          rw [h.cellAt j (by show j < n3 * 1; omega), sl_cells, List.getElem?_map, HX.out]
          rfl
        have HCLW : Hid (∀ W : World, W.ownsRow w.heap.size 43 slE.n (.slice (some ⟨g3, 0, none⟩) n3 c3) vs.length (cellsG slE vs) → W.cell? ⟨g3, j, none⟩ = some (slV x) ∧ W.frozen? ⟨g3, j, none⟩ = false) := hcl
        obtain ⟨xa, xn, xc⟩ := x
        have d0 : wi.cell? ⟨g3, j, none⟩ = some (.slice xa xn xc) := (hcl _ HCi.out.ov).1
        have jb0 : (0 : Int) ≤ (j : Int) := by omega
        have jb1 : (j : Int) < (n3 : Int) := by have := HN3.out; omega
        have HC9 : Hid (CP 3 43 (wi.alloc (Obj.cells #[.int .i64 (k : Int)] 3)) w.heap.size (.slice (some ⟨g3, 0, none⟩) n3 c3) (.slice a4 n4 c4) vs us (kcTo (pthL Ts) k).1 (kcTo (pthL Ts) k).2) := HCi.out.keep (gnn_alloc (gnn_refl _) _)
        have HR9 : Hid ((wi.alloc (Obj.cells #[.int .i64 (k : Int)] 3)).ownsRow w.heap.size 3 inE.n (.slice xa xn xc) L.length (cellsG inE L)) := HRX.out.kept (gnn_alloc (gnn_refl _) _) (none_or _)
        have hd0 : ¬ (j : Int) < 0 := by omega
        subst hj9
        clear hneg hIn q1 q2 q3 hjC hjv hL HRW hx hcl HI HRX
        go_upto_region 9 with fail
        go_wp2_with (at_builtin; refine wpList_append_blk (E := inE) _ rfl _ _ 43 3 rfl Tryd.underlying43 i0 (.int .i64 0) 8 hi hz0 hz1 hz2 rfl w.heap.size (.slice xa xn xc) rfl L HR9.out wi.heap.size 0 1 rfl (k : Int) (vat_num (by simp)) ?a1 ?a2 ?a3 ?_)
        case a1 => have := HSZ.out; unfold maxLen; omega
        case a2 => have := HSZ.out; omega
        case a3 => have := HWI.out; simp; omega
        intro v7 w7 ho7 hg7 hb7
        obtain ⟨a7, c7, hv7⟩ := own_form ho7
        obtain ⟨n7, hn7⟩ : ∃ m, m = L.length + 1 := ⟨_, rfl⟩
        rw [← hn7] at hv7
        subst hv7
        have hov7 := HC9.out.ov.kept hg7 (own_rows2 HC9.out.ov HR9.out (by decide))
        obtain ⟨d7, z7⟩ := HCLW.out _ hov7
        have hd7 : w7.cell? ⟨g3, j, none⟩ = some (.slice xa xn xc) := d7
        have HPUT : Hid (CP 3 43 (w7.setCell ⟨g3, j, none⟩ (.slice a7 n7 c7)) w.heap.size (.slice (some ⟨g3, 0, none⟩) n3 c3) (.slice a4 n4 c4) (vs.set j (a7, n7, c7)) us (kcTo (pthL Ts) (k + 1)).1 (kcTo (pthL Ts) (k + 1)).2) := by
          have ho8 : w7.ownsRow w.heap.size 3 inE.n (slV (a7, n7, c7)) (L ++ [(k : Int)]).length (cellsG inE (L ++ [(k : Int)])) := by
            rw [List.length_append]
            exact ho7
          have hb8 : (slV (a7, n7, c7)).ownBlock = (slV (xa, xn, xc)).ownBlock ∨ (slV (a7, n7, c7)).ownBlock = some (wi.alloc (Obj.cells #[.int .i64 (k : Int)] 3)).heap.size := by
            rcases hb7 with h | h
            · exact .inl h
            · exact .inr (by rw [show (slV (a7, n7, c7)).ownBlock = _ from h]; simp)
          have := HC9.out.put (by decide) (x' := (a7, n7, c7)) HX.out hg7 ho8 hb8 rfl
          rw [HKN.out]
          exact this
        have HBP : Hid (Below w.heap.size w (w7.setCell ⟨g3, j, none⟩ (.slice a7 n7 c7))) := by
          have b1 : Below w.heap.size w (wi.alloc (Obj.cells #[.int .i64 (k : Int)] 3)) := HBi.out.alloc HBi.out.size _
          have b2 := b1.trans (below_grown hg7 b1.size (fun q e => (HR9.out.lt q e).1))
          exact b2.setCell (p := ⟨g3, j, none⟩) ((HC9.out.ov.lt g3 rfl).1) _
        clear ho7 hg7 hb7 hov7 d7 hn7 d0 HC9 HR9
        go_wp2
        go_roundw
        case rel => exact ⟨k + 1, _, us, by omega, by go_num, HPUT.out, HBP.out⟩
        case measure => simp [intOf]; omega
    · obtain rfl : k = 16 := by omega
      go_wp2
      go_ret
      exact ⟨_, _, vs, us, rfl, HCP.out, HB.out⟩
end Go.Proofs.YtfbocionnjliladDoor
/- The first list that has a number, list by list, in plain lists. No program in it. -/
namespace Go.Proofs.YtfbocionnjliladDoor
open Go.RowKit
set_option linter.unusedVariables false

theorem ixG_take {α : Type} {q : α → Bool} {L : List α} {k : Nat} (h : 0 ≤ ixG q (L.take k)) : ixG q L = ixG q (L.take k) := by
  obtain ⟨h1, h2⟩ := ixG_lt h
  have h3 := h2 h1
  have hl : (ixG q (L.take k)).toNat < L.length := by
    rw [List.length_take] at h1
    omega
  have e : (((ixG q (L.take k)).toNat : Nat) : Int) = ixG q (L.take k) := by omega
  rw [List.getElem_take] at h3
  rw [← e]
  refine ixG_hit hl ?_ h3
  rw [List.any_eq_false]
  intro x hx hq
  obtain ⟨j, hj, rfl⟩ := List.getElem_of_mem hx
  rw [List.length_take] at hj
  rw [List.getElem_take] at hq
  have hjk : j < (L.take k).length := by omega
  have : (L.take k)[j] = L[j] := List.getElem_take
  have h4 : ¬ j < (L.take k).findIdx q := by
    intro h5
    have := List.not_of_lt_findIdx h5
    rw [List.getElem_take] at this
    rw [hq] at this; cases this
  have h5 : ixG q (L.take k) = ((L.take k).findIdx q : Int) := by
    unfold ixG at h ⊢
    cases e2 : (L.take k).any q
    · rw [e2] at h; simp at h
    · simp
  omega
theorem rp_none {Ls : List (List Int)} {h : Int} (h1 : rpN Ls h ≠ 0) : rpI Ls h < 0 ∧ rpN Ls h = 5 ∧ rpV Ls h = 0 := by
  unfold rpN at h1 ⊢
  unfold rpV
  by_cases hn : rpI Ls h < 0
  · rw [if_pos hn, if_pos hn]; exact ⟨hn, rfl, rfl⟩
  · rw [if_neg hn] at h1; exact absurd rfl h1
theorem rp_nil (h : Int) : rpN [] h = 5 ∧ rpV [] h = 0 := by
  unfold rpN rpV rpI ixG
  simp
theorem rp_any {Ls : List (List Int)} {h : Int} (h1 : rpN Ls h = 5) : Ls.any (hasL h) = false := by
  unfold rpN at h1
  by_cases hn : rpI Ls h < 0
  · rw [List.any_eq_false]
    intro x hx
    rw [ixG_neg hn x hx]
    simp
  · rw [if_neg hn] at h1; cases h1
theorem rp_of_any {Ls : List (List Int)} {h : Int} (h1 : Ls.any (hasL h) = false) : rpN Ls h = 5 ∧ rpV Ls h = 0 := by
  have : rpI Ls h < 0 := by
    unfold rpI
    rw [ixG_no h1]
    omega
  unfold rpN rpV
  rw [if_pos this, if_pos this]
  exact ⟨rfl, rfl⟩
theorem rp_no {Ls : List (List Int)} {h : Int} {k : Nat} (hk : k < Ls.length) (h1 : rpN (Ls.take k) h = 5) (h2 : hasL h (Ls.getD k []) = false) : rpN (Ls.take (k + 1)) h = 5 ∧ rpV (Ls.take (k + 1)) h = 0 := by
  refine rp_of_any ?_
  rw [show Ls.getD k [] = Ls[k] by simp [List.getD, hk]] at h2
  exact any_nextG hk (rp_any h1) h2
theorem rp_yes {Ls : List (List Int)} {h : Int} {k : Nat} (hk : k < Ls.length) (h1 : rpN (Ls.take k) h = 5) (h2 : hasL h (Ls.getD k []) = true) : rpN (Ls.take (k + 1)) h = 0 ∧ rpV (Ls.take (k + 1)) h = mnTo (Ls.getD k []) (Ls.getD k []).length := by
  rw [show Ls.getD k [] = Ls[k] by simp [List.getD, hk]] at h2 ⊢
  have hl : k < (Ls.take (k + 1)).length := by rw [List.length_take]; omega
  have e : rpI (Ls.take (k + 1)) h = (k : Int) := by
    unfold rpI
    refine ixG_hit hl ?_ (by rw [List.getElem_take]; exact h2)
    rw [List.take_take, Nat.min_eq_left (by omega)]
    exact rp_any h1
  unfold rpN rpV
  rw [e, if_neg (by omega), if_neg (by omega)]
  refine ⟨rfl, ?_⟩
  have : (Ls.take (k + 1)).getD (k : Int).toNat [] = Ls[k] := by
    simp [List.getD, hk]
  rw [this]
theorem rp_found {Ls : List (List Int)} {h : Int} {k : Nat} (h1 : rpN (Ls.take k) h = 0) : rpN Ls h = 0 ∧ rpV Ls h = rpV (Ls.take k) h := by
  have hn : ¬ rpI (Ls.take k) h < 0 := by
    intro hn
    unfold rpN at h1
    rw [if_pos hn] at h1
    cases h1
  have e : rpI Ls h = rpI (Ls.take k) h := ixG_take (Int.not_lt.1 hn)
  unfold rpN rpV
  rw [e, if_neg hn, if_neg hn, if_neg hn]
  refine ⟨rfl, ?_⟩
  have hlt := (ixG_lt (Int.not_lt.1 hn)).1
  have : (Ls.take k).getD (rpI (Ls.take k) h).toNat [] = Ls.getD (rpI (Ls.take k) h).toNat [] := by
    have h3 : (rpI (Ls.take k) h).toNat < (Ls.take k).length := hlt
    have h4 : (rpI (Ls.take k) h).toNat < k := by rw [List.length_take] at h3; omega
    rw [List.getD, List.getD, List.getElem?_take, if_pos h4]
  rw [this]
theorem has_next {L : List Int} {h : Int} {k : Nat} (hk : k < L.length) : hasL h (L.take (k + 1)) = (hasL h (L.take k) || (L[k] == h)) := by
  unfold hasL
  rw [List.take_succ_eq_append_getElem hk, List.any_append]
  simp
end Go.Proofs.YtfbocionnjliladDoor
/- What slices.Contains and slices.Min answer at a slice of numbers. -/
namespace Go.Proofs.YtfbocionnjliladDoor
open Go.RowKit
set_option linter.unusedSimpArgs false
set_option linter.unusedVariables false

set_option maxHeartbeats 1000000 in
theorem num_idx (ao : Option Addr) (n cap : Nat) (h : Int) (L : List Int) (w : World) (hs : GS inE w (.slice ao n cap) L) :
    Calls Tryd.prog 58 #[.slice ao n cap, .int .i64 h] w fun e w' => e = .returned (.int .i64 (ixG (fun x => x == h) L)) ∧ Below w.heap.size w w' := by
  obtain ⟨_, _, _, e1, hn, hn2, _, ha⟩ := hs.form
  cases e1
  have HN : Hid (L.length = n) := hn
  have HA : Hid (0 < n → ∃ g o, ao = some ⟨g, o, none⟩ ∧ GAt inE w g o L ∧ cap ≤ maxLen) := ha
  unfold maxLen at hn2
  clear hn ha hs
  go_enter Tryd.func58, Tryd.ntmps58
  go_wp2
  go_loopw [8] (fun i wr => ∃ k : Nat, k ≤ n ∧ i = .int .i64 k ∧ (L.take k).any (fun x => x == h) = false ∧ Below w.heap.size w wr)
    (fun i _ => n - (intOf i).toNat)
  case atStart => exact ⟨0, by omega, rfl, by simp, Below.refl _ _⟩
  case round =>
    obtain ⟨k, hk, rfl, hno, hB⟩ := hrel
    have HB : Hid (Below w.heap.size w wr) := hB
    have HNO : Hid ((L.take k).any (fun x => x == h) = false) := hno
    clear hno
    by_cases hlt : k < n
    · obtain ⟨g, o, hao, hc, _⟩ := HA.out (by omega)
      subst hao
      obtain ⟨x, hkl, hL, q0⟩ := in_at (hc.later hB) HN.out hlt
      have HL : Hid (L[k] = x) := hL
      clear hB hL hc
      by_cases ho : x = h
      · subst ho
        go_wp2
        go_ret
        exact ⟨by rw [ixG_hit hkl HNO.out (by rw [HL.out]; simp)]; rfl, HB.out⟩
      · have ho2 : h ≠ x := Ne.symm ho
        go_wp2
        go_roundw
        case rel => exact ⟨k + 1, by omega, by go_num, any_nextG hkl HNO.out (by rw [HL.out]; simpa using ho), HB.out⟩
        case measure => simp [intOf]; omega
    · obtain rfl : k = n := by omega
      go_wp2
      go_ret
      exact ⟨by have := HNO.out; rw [← HN.out, List.take_length] at this; rw [ixG_no this]; rfl, HB.out⟩
set_option maxHeartbeats 1000000 in
theorem num_has (ao : Option Addr) (n cap : Nat) (h : Int) (L : List Int) (w : World) (hs : GS inE w (.slice ao n cap) L) :
    Calls Tryd.prog 33 #[.slice ao n cap, .int .i64 h] w fun e w' => e = .returned (.bool (hasL h L)) ∧ Below w.heap.size w w' := by
  have HX : Hid (hasL h L = decide (0 ≤ ixG (fun x => x == h) L)) := (ixG_any L (fun x => x == h)).symm
  rw [HX.out]
  obtain ⟨z, hz⟩ : ∃ z, z = ixG (fun x => x == h) L := ⟨_, rfl⟩
  rw [← hz]
  have HZ : Hid (z = ixG (fun x => x == h) L) := hz
  clear hz HX
  go_enter Tryd.func33, Tryd.ntmps33
  go_wp2_with fail
  refine (num_idx ao n cap h L _ hs).mono ?_
  rintro e w2 ⟨rfl, hb2⟩
  rw [← HZ.out]
  go_wp2
  go_ret
  exact ⟨rfl, hb2⟩
set_option maxHeartbeats 1000000 in
theorem num_min (ao : Option Addr) (n cap : Nat) (L : List Int) (w : World) (hs : GS inE w (.slice ao n cap) L) (hn1 : 0 < n) :
    Calls Tryd.prog 34 #[.slice ao n cap] w fun e w' => e = .returned (.int .i64 (mnTo L L.length)) ∧ Below w.heap.size w w' := by
  obtain ⟨_, _, _, e1, hn, hn2, _, ha⟩ := hs.form
  cases e1
  have HN : Hid (L.length = n) := hn
  obtain ⟨g, o, hao, hc, _⟩ := ha hn1
  subst hao
  have HC : Hid (GAt inE w g o L) := hc
  obtain ⟨x0, hx0, hL0, q0⟩ := in_at hc hn hn1
  have HX0 : Hid (mnTo L 1 = x0) := by
    show _ = _
    rw [mnTo, if_pos (.inl rfl), ← hL0]
    simp [List.getD, hx0]
  unfold maxLen at hn2
  have hn3 : ¬ (n : Int) < 1 := by omega
  rw [hn]
  simp only [Nat.add_zero] at q0
  clear hn ha hs hc hL0 hx0
  go_enter Tryd.func34, Tryd.ntmps34
  go_wp2
  go_loopw [3, 4] (fun m i wr => ∃ k : Nat, 0 < k ∧ k ≤ n ∧ m = .int .i64 (mnTo L k) ∧ i = .int .i64 k ∧ wr = w) (fun _ i _ => n - (intOf i).toNat)
  case atStart => exact ⟨1, by omega, by omega, by rw [HX0.out], rfl, rfl⟩
  case round =>
    obtain ⟨k, hk0, hk, rfl, rfl, hw⟩ := hrel
    subst hw
    by_cases hlt : k < n
    · obtain ⟨x, hkl, hL, q1⟩ := in_at HC.out HN.out hlt
      have HL : Hid (L.getD k 0 = x) := by
        show _ = _
        rw [← hL]
        simp [List.getD, hkl]
      clear hL q0
      obtain ⟨M, hM⟩ : ∃ M, M = mnTo L k := ⟨_, rfl⟩
      have HM : Hid (mnTo L k = M) := hM.symm
      rw [← hM]
      clear hM
      by_cases ho : x < M
      · have HR : Hid (mnTo L (k + 1) = x) := by
          show _ = _
          rw [mnTo, HL.out, HM.out, if_pos (.inr ho)]
        go_wp2
        go_roundw
        case rel => exact ⟨k + 1, by omega, by omega, by rw [HR.out], by go_num, trivial⟩
        case measure => simp [intOf]; omega
      · have HR : Hid (mnTo L (k + 1) = M) := by
          show _ = _
          rw [mnTo, HL.out, HM.out, if_neg]
          rintro (h1 | h1)
          · omega
          · exact ho h1
        go_wp2
        go_roundw
        case rel => exact ⟨k + 1, by omega, by omega, by rw [HR.out], by go_num, trivial⟩
        case measure => simp [intOf]; omega
    · obtain rfl : k = n := by omega
      clear q0
      go_wp2
      go_ret
      exact ⟨rfl, Below.refl _ _⟩
end Go.Proofs.YtfbocionnjliladDoor
/- What becomes of a packet, hop by hop: plain lists. No program in it. -/
namespace Go.Proofs.YtfbocionnjliladDoor
open Go.RowKit
set_option linter.unusedVariables false

section
variable {Ls : List ((Int × Int) × (Int × Int))} {Hs : List (ByteArray × (Int × Int))} {Ts : List (List Ru)}
/-- One hop is behind the other. -/
def NxH (Ls : List ((Int × Int) × (Int × Int))) (Hs : List (ByteArray × (Int × Int))) (Ts : List (List Ru)) (p q : (Int × Int) × Int) : Prop := ∃ o, stO Ts p = some o ∧ atO Hs o.1 = none ∧ peerO Ls o.1 = some q.1 ∧ q.2 = o.2
def atH (l : List ((Int × Int) × Int)) (i : Nat) : (Int × Int) × Int := l.getD i zeH
def ChH (Ls : List ((Int × Int) × (Int × Int))) (Hs : List (ByteArray × (Int × Int))) (Ts : List (List Ru)) (l : List ((Int × Int) × Int)) : Prop := ∀ i, i + 1 < l.length → NxH Ls Hs Ts (atH l i) (atH l (i + 1))
/-- What it comes to at the last of these hops. -/
def enE (Ls : List ((Int × Int) × (Int × Int))) (Hs : List (ByteArray × (Int × Int))) (Ts : List (List Ru)) (l : List ((Int × Int) × Int)) (p : (Int × Int) × Int) : (Int × ByteArray) ⊕ ((Int × Int) × Int) := goE Ls Hs (taT Ts p.1.1) l p
theorem la_at (l : List ((Int × Int) × Int)) : laH l = atH l (l.length - 1) := rfl
theorem at_app (l : List ((Int × Int) × Int)) (p : (Int × Int) × Int) : atH (l ++ [p]) l.length = p := by simp [atH, List.getD]
theorem at_lt {l : List ((Int × Int) × Int)} (m : List ((Int × Int) × Int)) {i : Nat} (h : i < l.length) : atH (l ++ m) i = atH l i := by simp [atH, List.getD, List.getElem?_append_left h]
theorem at_in {l : List ((Int × Int) × Int)} {i : Nat} (h : i < l.length) : atH l i ∈ l := by
  have e : atH l i = l[i] := by simp [atH, List.getD, h]
  rw [e]
  exact List.getElem_mem h
theorem en_r {l : List ((Int × Int) × Int)} {p q : (Int × Int) × Int} (h : enE Ls Hs Ts l p = .inr q) : NxH Ls Hs Ts p q ∧ l.length ≠ 24 ∧ q ∉ l := by
  unfold enE goE at h
  cases hs : stT (taT Ts p.1.1) p with
  | none => rw [hs] at h; cases h
  | some o =>
    rw [hs] at h
    simp only at h
    cases ha : atO Hs o.1 with
    | some m => rw [ha] at h; cases h
    | none =>
      rw [ha] at h
      simp only at h
      cases hp : peerO Ls o.1 with
      | none => rw [hp] at h; cases h
      | some s =>
        rw [hp] at h
        simp only at h
        split at h
        · cases h
        · next hn =>
          cases h
          rw [not_or] at hn
          refine ⟨⟨o, hs, ha, hp, rfl⟩, hn.1, fun hm => hn.2 ?_⟩
          exact List.any_eq_true.2 ⟨_, hm, (heB_iff _ _).2 rfl⟩
/-- A next hop that is not there yet is one. -/
theorem en_go {l : List ((Int × Int) × Int)} {p q : (Int × Int) × Int} (h : NxH Ls Hs Ts p q) (h24 : l.length ≠ 24) (hq : q ∉ l) : enE Ls Hs Ts l p = .inr q := by
  obtain ⟨o, h1, h2, h3, h4⟩ := h
  unfold enE goE
  rw [show stT (taT Ts p.1.1) p = some o from h1]
  simp only [h2, h3]
  rw [if_neg]
  · obtain ⟨q1, q2⟩ := q
    simp only at h4
    rw [h4]
  · rw [not_or]
    refine ⟨h24, fun hm => hq ?_⟩
    obtain ⟨x, hx, e⟩ := List.any_eq_true.1 hm
    have e2 := (heB_iff _ _).1 e
    obtain ⟨q1, q2⟩ := q
    simp only at h4
    rw [h4, e2]
    exact hx
/-- An end that is no loop is one whatever was there. -/
theorem en_l {l : List ((Int × Int) × Int)} {p : (Int × Int) × Int} {e : Int × ByteArray} (h : enE Ls Hs Ts l p = .inl e) (h4 : e.1 ≠ 4) (m : List ((Int × Int) × Int)) : enE Ls Hs Ts m p = .inl e := by
  unfold enE goE at h ⊢
  cases hs : stT (taT Ts p.1.1) p with
  | none => rw [hs] at h; exact h
  | some o =>
    rw [hs] at h
    simp only at h ⊢
    cases ha : atO Hs o.1 with
    | some m => rw [ha] at h; exact h
    | none =>
      rw [ha] at h
      simp only at h ⊢
      cases hp : peerO Ls o.1 with
      | none => rw [hp] at h; exact h
      | some s =>
        rw [hp] at h
        simp only at h
        split at h
        · cases h
          exact absurd rfl h4
        · cases h
/-- An end, in words. -/
theorem en_end {l : List ((Int × Int) × Int)} {p : (Int × Int) × Int} {e : Int × ByteArray} (h : enE Ls Hs Ts l p = .inl e) (hn : ∀ x ∈ Hs, x.1 ≠ ByteArray.empty) : (stO Ts p = none ↔ e.1 = 2) ∧ (e.1 = 1 ↔ e.2 ≠ ByteArray.empty) := by
  unfold enE goE at h
  unfold stO
  cases hs : stT (taT Ts p.1.1) p with
  | none => rw [hs] at h; cases h; simp
  | some o =>
    rw [hs] at h
    simp only at h
    cases ha : atO Hs o.1 with
    | some m =>
      rw [ha] at h
      cases h
      refine ⟨by simp, fun _ => ?_, fun _ => rfl⟩
      rcases at_ix Hs o.1 with ⟨_, h0⟩ | ⟨k, hk, _, h1⟩
      · rw [ha] at h0; cases h0
      · rw [ha] at h1
        cases h1
        exact hn _ (List.getElem_mem hk)
    | none =>
      rw [ha] at h
      simp only at h
      cases hp : peerO Ls o.1 with
      | none => rw [hp] at h; cases h; simp
      | some s =>
        rw [hp] at h
        simp only at h
        split at h
        · cases h; simp
        · cases h
theorem fo_s (n : Nat) (l : List ((Int × Int) × Int)) : foF Ls Hs Ts (n + 1) l = match enE Ls Hs Ts l (laH l) with | .inl e => (e.1, e.2, l) | .inr p => foF Ls Hs Ts n (l ++ [p]) := rfl
/-- What is so of the hops that are told. -/
theorem fo_spec : ∀ (n : Nat) (l : List ((Int × Int) × Int)), 0 < l.length → l.length + n = 25 → 1 ≤ n → l.Nodup → ChH Ls Hs Ts l →
    ∃ rest, (foF Ls Hs Ts n l).2.2 = l ++ rest ∧ (foF Ls Hs Ts n l).2.2.length ≤ 24 ∧ (foF Ls Hs Ts n l).2.2.Nodup ∧ ChH Ls Hs Ts (foF Ls Hs Ts n l).2.2 ∧
      enE Ls Hs Ts (foF Ls Hs Ts n l).2.2 (laH (foF Ls Hs Ts n l).2.2) = .inl ((foF Ls Hs Ts n l).1, (foF Ls Hs Ts n l).2.1)
  | 0, l, _, _, h, _, _ => by omega
  | n + 1, l, h0, hl, _, hd, hc => by
    rw [fo_s]
    cases he : enE Ls Hs Ts l (laH l) with
    | inl e => exact ⟨[], by simp, by simp only; omega, hd, hc, he⟩
    | inr p =>
      obtain ⟨h1, h2, h3⟩ := en_r he
      simp only
      have hl2 : l.length < 24 := by omega
      have hd2 : (l ++ [p]).Nodup := by
        rw [List.nodup_append]
        refine ⟨hd, by simp, fun a ha b hb e => ?_⟩
        simp only [List.mem_singleton] at hb
        subst hb
        subst e
        exact h3 ha
      have hc2 : ChH Ls Hs Ts (l ++ [p]) := by
        intro i hi
        simp only [List.length_append, List.length_cons, List.length_nil] at hi
        by_cases e : i + 1 = l.length
        · rw [at_lt _ (show i < l.length by omega), e, at_app]
          rw [la_at] at h1
          have : i = l.length - 1 := by omega
          rw [this]
          exact h1
        · rw [at_lt _ (show i < l.length by omega), at_lt _ (show i + 1 < l.length by omega)]
          exact hc i (by omega)
      obtain ⟨rest, e1, e2⟩ := fo_spec n (l ++ [p]) (by simp) (by simp; omega) (by omega) hd2 hc2
      exact ⟨p :: rest, by rw [e1]; simp, e2⟩
/-- From any of the hops on it ends likewise. -/
theorem fo_tail {L : List ((Int × Int) × Int)} {e : Int × ByteArray} (hd : L.Nodup) (hc : ChH Ls Hs Ts L) (h24 : L.length ≤ 24) (he : enE Ls Hs Ts L (laH L) = .inl e) (h4 : e.1 ≠ 4) :
    ∀ (r k : Nat) (m : List ((Int × Int) × Int)) (n : Nat), k + 1 + r = L.length → 0 < m.length → m.length ≤ k + 1 → laH m = atH L k → (∀ x ∈ m, ∃ j, j ≤ k ∧ x = atH L j) → r < n →
      (foF Ls Hs Ts n m).1 = e.1 ∧ (foF Ls Hs Ts n m).2.1 = e.2 ∧ (foF Ls Hs Ts n m).2.2.length = m.length + r
  | r, k, m, 0, _, _, _, _, _, hn => by omega
  | 0, k, m, n + 1, hk, hm, hmk, hla, hin, hn => by
    rw [fo_s]
    have : laH m = laH L := by
      rw [hla, la_at]
      congr 1
      omega
    rw [this, en_l he h4 m]
    exact ⟨rfl, rfl, by simp⟩
  | r + 1, k, m, n + 1, hk, hm, hmk, hla, hin, hn => by
    rw [fo_s]
    have hnx := hc k (by omega)
    have hq : atH L (k + 1) ∉ m := by
      intro hx
      obtain ⟨j, hj, e2⟩ := hin _ hx
      have e3 : L[k + 1]'(by omega) = L[j]'(by omega) := by
        have a1 : atH L (k + 1) = L[k + 1]'(by omega) := by
          have : k + 1 < L.length := by omega
          simp [atH, List.getD, this]
        have a2 : atH L j = L[j]'(by omega) := by
          have : j < L.length := by omega
          simp [atH, List.getD, this]
        rw [← a1, ← a2]
        exact e2
      have := (List.getElem_inj hd).1 e3
      omega
    rw [hla, en_go hnx (by omega) hq]
    simp only
    have h := fo_tail hd hc h24 he h4 r (k + 1) (m ++ [atH L (k + 1)]) n (by omega) (by simp) (by simp; omega) (by
      rw [la_at]
      simp only [List.length_append, List.length_cons, List.length_nil, Nat.add_sub_cancel]
      exact at_app _ _) (by
      intro x hx
      rw [List.mem_append] at hx
      rcases hx with hx | hx
      · obtain ⟨j, hj, e2⟩ := hin x hx
        exact ⟨j, by omega, e2⟩
      · simp only [List.mem_singleton] at hx
        exact ⟨k + 1, Nat.le_refl _, hx⟩) (by omega)
    refine ⟨h.1, h.2.1, ?_⟩
    rw [h.2.2]
    simp
    omega
end
end Go.Proofs.YtfbocionnjliladDoor
/- A line of switches: plain lists. No program in it. -/
namespace Go.Proofs.YtfbocionnjliladDoor
open Go.RowKit
set_option linter.unusedVariables false

/-- The links of a line. -/
def lnTo : Nat → List ((Int × Int) × (Int × Int))
  | 0 => []
  | k + 1 => lnTo k ++ [(((k : Int) + 1, 2), ((k : Int) + 1 + 1, 1))]
theorem ln_len (k : Nat) : (lnTo k).length = k := by
  induction k with
  | zero => rfl
  | succ k ih => simp [lnTo, ih]
/-- Its hosts. -/
def lnH (n : Int) : List (ByteArray × (Int × Int)) := [(⟨#[97]⟩, (1, 3)), (⟨#[98]⟩, (n, 4))]
def lnOk (n : Nat) : Bool := decide (tpN n (lnTo (n - 1)) (lnH n) = 0)
theorem ln_ok (n : Nat) (h1 : 1 ≤ n) (h6 : n ≤ 6) : tpN n (lnTo (n - 1)) (lnH n) = 0 := by
  have h : ∀ m ∈ [1, 2, 3, 4, 5, 6], lnOk m = true := by decide +kernel
  have h2 := h n (by simp; omega)
  simpa [lnOk] using h2
theorem ln_7 : tpN 7 (lnTo 6) (lnH 7) ≠ 0 := by decide +kernel
/-- How far, and how many are near, for all lines and switches. -/
def lnAll (n a b : Nat) : Bool := decide (faN n (lnTo (n - 1)) a b = if a < b then (b : Int) - a else (a : Int) - b) && decide (((nrL n (lnTo (n - 1)) a).length : Int) = 2 - (if a = 1 then 1 else 0) - (if a = n then 1 else 0))
theorem ln_all (n a b : Nat) (h1 : 1 ≤ n) (h6 : n ≤ 6) (a1 : 1 ≤ a) (a2 : a ≤ n) (b1 : 1 ≤ b) (b2 : b ≤ n) : lnAll n a b = true := by
  have h : ∀ m ∈ [1, 2, 3, 4, 5, 6], ∀ a ∈ [1, 2, 3, 4, 5, 6], ∀ b ∈ [1, 2, 3, 4, 5, 6], a ≤ m → b ≤ m → lnAll m a b = true := by decide +kernel
  exact h n (by simp; omega) a (by simp; omega) b (by simp; omega) a2 b2
end Go.Proofs.YtfbocionnjliladDoor
/- Hops of a right net are right; two switches that send each other all: plain lists. No program in it. -/
namespace Go.Proofs.YtfbocionnjliladDoor
open Go.RowKit
set_option linter.unusedVariables false

theorem aph_fin : ∀ s v h : Fin 16, (bits .andNot .i64 ((v : Nat) : Int) ((s : Nat) : Int) == 0) = true → hdrB (apV ((s : Nat) : Int) ((v : Nat) : Int) ((h : Nat) : Int)) = true := by decide +kernel
theorem ap_hdr {p m b o s v h : Int} (hr : apN p m b o s v h = 0) : hdrB (apR p m b o s v h) = true := by
  obtain ⟨h1, h2, _, _⟩ := ap_yes hr
  obtain ⟨g1, _, g3⟩ := ru_ok h1
  obtain ⟨_, hs, hv⟩ := ru_in g1
  obtain ⟨s', rfl⟩ := small hs
  obtain ⟨v', rfl⟩ := small hv
  obtain ⟨h', rfl⟩ := small (hdr_of h2)
  simp only [ruSet, Bool.and_eq_true] at g3
  rw [apR, if_pos hr]
  exact aph_fin s' v' h' g3.1
section
variable {S : Int} {Ls : List ((Int × Int) × (Int × Int))} {Hs : List (ByteArray × (Int × Int))} {Ts : List (List Ru)}
theorem st_hdr {p o : (Int × Int) × Int} (h : stO Ts p = some o) : hdrB o.2 = true ∧ o.1.1 = p.1.1 := by
  unfold stO stT at h
  split at h
  · split at h
    · next hr =>
      cases h
      exact ⟨ap_hdr hr, rfl⟩
    · cases h
  · cases h
theorem peer_sp (ht : tpN S Ls Hs = 0) {s p : Int × Int} (h : peerO Ls s = some p) : spB S p = true := (tp_0 ht).2.2.1 p (peer_in h).2
theorem where_sp (ht : tpN S Ls Hs = 0) {n : ByteArray} {p : Int × Int} (h : whereO Hs n = some p) : spB S p = true := by
  rcases where_ix Hs n with ⟨_, h0⟩ | ⟨k, hk, _, h1⟩
  · rw [h] at h0; cases h0
  · rw [h] at h1
    cases h1
    exact ((tp_0 ht).2.2.2.2.1 _ (List.getElem_mem hk)).2
theorem name_ne (ht : tpN S Ls Hs = 0) : ∀ x ∈ Hs, x.1 ≠ ByteArray.empty := by
  intro x hx e
  have h := ((tp_0 ht).2.2.2.2.1 x hx).1
  rw [e] at h
  revert h
  decide
theorem nx_good (ht : tpN S Ls Hs = 0) {p q : (Int × Int) × Int} (h : NxH Ls Hs Ts p q) : spB S q.1 = true ∧ hdrB q.2 = true := by
  obtain ⟨o, h1, _, h3, h4⟩ := h
  exact ⟨peer_sp ht h3, by rw [h4]; exact (st_hdr h1).1⟩
end
/-- Two switches that send each other all. -/
def ruG : Ru := ⟨1, 0, 0, 2, 0, 0⟩
def ruK : Ru := ⟨1, 0, 0, 1, 0, 0⟩
def ruD (h : Int) : Ru := ⟨5, 15, h, 0, 0, 0⟩
def naA : ByteArray := ⟨#[97]⟩
theorem turn1_fin : ∀ h : Fin 16, (decide (seN 2 (lnTo 1) (lnH 2) [[ruG], [ruK]] naA ((h : Nat) : Int) = 0) && (decide ((seV 2 (lnTo 1) (lnH 2) [[ruG], [ruK]] naA ((h : Nat) : Int)).1 = 4) && decide ((seV 2 (lnTo 1) (lnH 2) [[ruG], [ruK]] naA ((h : Nat) : Int)).2.2.length = 3))) = true := by decide +kernel
theorem turn2_fin : ∀ h : Fin 16, (decide (seN 2 (lnTo 1) (lnH 2) [[ruG], [ruD ((h : Nat) : Int), ruK]] naA ((h : Nat) : Int) = 0) && (decide ((seV 2 (lnTo 1) (lnH 2) [[ruG], [ruD ((h : Nat) : Int), ruK]] naA ((h : Nat) : Int)).1 = 2) && decide ((seV 2 (lnTo 1) (lnH 2) [[ruG], [ruD ((h : Nat) : Int), ruK]] naA ((h : Nat) : Int)).2.2.length = 2))) = true := by decide +kernel
theorem turn1 {h : Int} (hh : hdrB h = true) : seN 2 (lnTo 1) (lnH 2) [[ruG], [ruK]] naA h = 0 ∧ (seV 2 (lnTo 1) (lnH 2) [[ruG], [ruK]] naA h).1 = 4 ∧ (seV 2 (lnTo 1) (lnH 2) [[ruG], [ruK]] naA h).2.2.length = 3 := by
  obtain ⟨h', rfl⟩ := small (hdr_of hh)
  simpa using turn1_fin h'
theorem turn2 {h : Int} (hh : hdrB h = true) : seN 2 (lnTo 1) (lnH 2) [[ruG], [ruD h, ruK]] naA h = 0 ∧ (seV 2 (lnTo 1) (lnH 2) [[ruG], [ruD h, ruK]] naA h).1 = 2 ∧ (seV 2 (lnTo 1) (lnH 2) [[ruG], [ruD h, ruK]] naA h).2.2.length = 2 := by
  obtain ⟨h', rfl⟩ := small (hdr_of hh)
  simpa using turn2_fin h'
theorem turn3_nt : ntN 2 (lnTo 1) (lnH 2) [[], []] = 0 ∧ weN 2 (lnTo 1) (lnH 2) naA = 0 := by decide +kernel
theorem turn3 {h : Int} (hh : hdrB h = false) : seN 2 (lnTo 1) (lnH 2) [[], []] naA h = 1 := by
  unfold seN
  rw [if_pos turn3_nt.1, if_pos turn3_nt.2, hh]
  rfl
end Go.Proofs.YtfbocionnjliladDoor
/- What Of, All, Path and Rep of package class answer: contracts for the walks above them. -/
namespace Go.Proofs.YtfbocionnjliladDoor
open Go.RowKit
set_option linter.unusedSimpArgs false
set_option linter.unusedVariables false

/-- One table in a new row. -/
theorem tsone1 (W : World) (a : Option Addr) (n c : Nat) (L : List Ru) (t : TypeId) (h : SR W (.slice a n c) L) : TS (W.alloc (Obj.cells #[.slice a n c] t)) (.slice (some ⟨W.heap.size, 0, none⟩) 1 1) [L] := by
  have hb : Below W.heap.size W (W.alloc (Obj.cells #[.slice a n c] t)) := (Below.refl _ _).alloc (Nat.le_refl _) _
  refine .inr ⟨W.heap.size, 0, 1, rfl, Nat.le_refl _, by unfold maxLen; omega, fun i hi => ?_⟩
  obtain rfl : i = 0 := by simp at hi; omega
  exact ⟨a, n, c, by simp, h.later hb⟩
/-- The classes of a table, if it is right. -/
def ofL (L : List Ru) : List (List Int) := if tbN L = 0 then clsL [L] else []
set_option maxHeartbeats 1000000 in
theorem of_any (a : Option Addr) (n c : Nat) (L : List Ru) (w : World) (hs : SR w (.slice a n c) L) :
    Calls Tryd.prog 8 #[.slice a n c] w fun e w' => ∃ v, e = .returned (.tuple #[v, noV (tbN L)]) ∧ ILS w' v (ofL L) ∧ Below w.heap.size w w' := by
  have HS : Hid (SR w (.slice a n c) L) := hs
  clear hs
  go_enter Tryd.func8, Tryd.ntmps8
  go_wp2_with fail
  refine (table_any _ L _ HS.out).mono ?_
  rintro e w1 ⟨rfl, hb1⟩
  obtain ⟨N, hN⟩ : ∃ N, N = tbN L := ⟨_, rfl⟩
  have HN : Hid (N = tbN L) := hN
  rw [← hN]
  have HB1 : Hid (Below w.heap.size w w1) := hb1
  have HS1 : Hid (SR w1 (.slice a n c) L) := HS.out.later hb1
  clear hN hb1
  by_cases h0 : N = 0
  · subst h0
    rw [no_ok rfl]
    have HL : Hid (ofL L = clsL [L]) := by
      show _ = _
      rw [ofL, if_pos HN.out.symm]
    go_wp2_with fail
    refine (alike_any _ 1 1 [L] _ (tsone1 w1 a n c L _ HS1.out) (by omega)).mono ?_
    rintro e w2 ⟨v, u, vs, us, rfl, hCP, hb2⟩
    have HB2 : Hid (Below w.heap.size w w2) := (HB1.out.alloc HB1.out.size _).trans (hb2.mono (by have := HB1.out.size; simp; omega))
    have HLS : Hid (ILS w2 v (ofL L)) := by
      show ILS _ _ _
      rw [HL.out]
      exact hCP.ls
    clear hCP hb2
    go_wp2
    refine bodyPost_ret (v := .tuple #[v, .nilIface]) (by simp [results, Tryd.results8, go_sem]) rfl ⟨v, by rw [← HN.out]; rfl, HLS.out, HB2.out⟩
  · rw [no_ne h0]
    have HL : Hid (ofL L = []) := by
      show _ = _
      rw [ofL, if_neg (by rw [← HN.out]; exact h0)]
    have HN0 : Hid (N ≠ 0) := h0
    clear h0
    go_wp2
    refine bodyPost_ret (v := .tuple #[.slice none 0 0, .iface 78 (.int .i64 N)]) (by simp [results, Tryd.results8, go_sem]) rfl ⟨_, by rw [← HN.out, no_ne HN0.out], ?_, HB1.out⟩
    rw [HL.out]
    exact ILS.nil _
/-- The classes of a net, if it is right. -/
def acL (S : Int) (Ls : List ((Int × Int) × (Int × Int))) (Hs : List (ByteArray × (Int × Int))) (Ts : List (List Ru)) : List (List Int) := if ntN S Ls Hs Ts = 0 then clsL Ts else []
theorem nt_8 {S : Int} {Ls : List ((Int × Int) × (Int × Int))} {Hs : List (ByteArray × (Int × Int))} {Ts : List (List Ru)} (h : ntN S Ls Hs Ts = 0) : Ts.length ≤ 8 := by
  obtain ⟨h1, h2, _⟩ := nt_0 h
  have := (tp_0 h1).1.2
  omega
set_option maxHeartbeats 1000000 in
theorem allC_any (S : Int) (ao : Option Addr) (n cap : Nat) (ao2 : Option Addr) (n2 cap2 : Nat) (ao3 : Option Addr) (n3 cap3 : Nat) (Ls : List ((Int × Int) × (Int × Int))) (Hs : List (ByteArray × (Int × Int))) (Ts : List (List Ru)) (w : World)
    (hL : GS lnkE w (.slice ao n cap) Ls) (hH : GS hstE w (.slice ao2 n2 cap2) Hs) (hT : TS w (.slice ao3 n3 cap3) Ts) :
    Calls Tryd.prog 12 #[.agg #[.int .i64 S, .slice ao n cap, .slice ao2 n2 cap2, .slice ao3 n3 cap3]] w fun e w' => ∃ v, e = .returned (.tuple #[v, noV (ntN S Ls Hs Ts)]) ∧ ILS w' v (acL S Ls Hs Ts) ∧ Below w.heap.size w w' := by
  have hb0 : Below w.heap.size w (w.alloc (Obj.cells #[.int .i64 S, .slice ao n cap, .slice ao2 n2 cap2, .slice ao3 n3 cap3] 28)) := (Below.refl _ _).alloc (Nat.le_refl _) _
  have HX := nebox_new w S (.slice ao n cap) (.slice ao2 n2 cap2) (.slice ao3 n3 cap3) 28
  obtain ⟨w0, hw0⟩ : ∃ W, w.alloc (Obj.cells #[.int .i64 S, .slice ao n cap, .slice ao2 n2 cap2, .slice ao3 n3 cap3] 28) = W := ⟨_, rfl⟩
  rw [hw0] at hb0 HX
  have HW0 : Hid (w.alloc (Obj.cells #[.int .i64 S, .slice ao n cap, .slice ao2 n2 cap2, .slice ao3 n3 cap3] 28) = w0) := hw0
  have HB0 : Hid (Below w.heap.size w w0) := hb0
  have HL0 : Hid (GS lnkE w0 (.slice ao n cap) Ls) := hL.later hb0
  have HH0 : Hid (GS hstE w0 (.slice ao2 n2 cap2) Hs) := hH.later hb0
  have HT0 : Hid (TS w0 (.slice ao3 n3 cap3) Ts) := hT.later hb0
  have HXB : Hid (NeBox w0 w.heap.size S (.slice ao n cap) (.slice ao2 n2 cap2) (.slice ao3 n3 cap3)) := HX
  obtain ⟨b0, b1, b2, b3⟩ := HX
  have HN3 : Hid (Ts.length = n3) := hT.len
  clear hL hH hT hb0 hw0
  go_enter Tryd.func12, Tryd.ntmps12
  go_upto_region 1 with fail
  rw [HW0.out]
  clear HW0
  go_wp2_with fail
  refine (ncheck_any S ao n cap ao2 n2 cap2 ao3 n3 cap3 Ls Hs Ts _ HL0.out HH0.out HT0.out).mono ?_
  rintro e w1 ⟨rfl, hb1⟩
  obtain ⟨N, hN⟩ : ∃ N, N = ntN S Ls Hs Ts := ⟨_, rfl⟩
  have HN : Hid (N = ntN S Ls Hs Ts) := hN
  rw [← hN]
  have HB1 : Hid (Below w.heap.size w w1) := HB0.out.trans (hb1.mono HB0.out.size)
  have HT1 : Hid (TS w1 (.slice ao3 n3 cap3) Ts) := HT0.out.later hb1
  have hx1 := HXB.out.later hb1
  clear hN hb1 b0 b1 b2 b3
  obtain ⟨b0, b1, b2, b3⟩ := hx1
  by_cases h0 : N = 0
  · subst h0
    rw [no_ok rfl]
    have HA : Hid (acL S Ls Hs Ts = clsL Ts) := by
      show _ = _
      rw [acL, if_pos HN.out.symm]
    have H8 : Hid (n3 ≤ 8) := by
      have := nt_8 HN.out.symm
      have h3 := HN3.out
      show _ ≤ _
      omega
    go_wp2_with fail
    refine (alike_any ao3 n3 cap3 Ts _ HT1.out H8.out).mono ?_
    rintro e w2 ⟨v, u, vs, us, rfl, hCP, hb2⟩
    have HB2 : Hid (Below w.heap.size w w2) := HB1.out.trans (hb2.mono HB1.out.size)
    have HLS : Hid (ILS w2 v (acL S Ls Hs Ts)) := by
      show ILS _ _ _
      rw [HA.out]
      exact hCP.ls
    clear hCP hb2 b0 b1 b2 b3
    go_wp2
    refine bodyPost_ret (v := .tuple #[v, .nilIface]) (by simp [results, Tryd.results12, go_sem]) rfl ⟨v, by rw [← HN.out]; rfl, HLS.out, HB2.out⟩
  · rw [no_ne h0]
    have HA : Hid (acL S Ls Hs Ts = []) := by
      show _ = _
      rw [acL, if_neg (by rw [← HN.out]; exact h0)]
    have HN0 : Hid (N ≠ 0) := h0
    clear h0 b0 b1 b2 b3
    go_wp2
    refine bodyPost_ret (v := .tuple #[.slice none 0 0, .iface 78 (.int .i64 N)]) (by simp [results, Tryd.results12, go_sem]) rfl ⟨_, by rw [← HN.out, no_ne HN0.out], ?_, HB1.out⟩
    rw [HA.out]
    exact ILS.nil _
/-- The fault of a path, and the path. -/
def ptN (S : Int) (Ls : List ((Int × Int) × (Int × Int))) (Hs : List (ByteArray × (Int × Int))) (Ts : List (List Ru)) (h : Int) : Int := if ntN S Ls Hs Ts = 0 then (if hdrB h then 0 else 1) else ntN S Ls Hs Ts
def ptL (S : Int) (Ls : List ((Int × Int) × (Int × Int))) (Hs : List (ByteArray × (Int × Int))) (Ts : List (List Ru)) (h : Int) : List Int := if ptN S Ls Hs Ts h = 0 then pthL Ts h else []
set_option maxHeartbeats 1000000 in
theorem pathC_any (S : Int) (ao : Option Addr) (n cap : Nat) (ao2 : Option Addr) (n2 cap2 : Nat) (ao3 : Option Addr) (n3 cap3 : Nat) (Ls : List ((Int × Int) × (Int × Int))) (Hs : List (ByteArray × (Int × Int))) (Ts : List (List Ru)) (h : Int) (w : World)
    (hL : GS lnkE w (.slice ao n cap) Ls) (hH : GS hstE w (.slice ao2 n2 cap2) Hs) (hT : TS w (.slice ao3 n3 cap3) Ts) :
    Calls Tryd.prog 15 #[.agg #[.int .i64 S, .slice ao n cap, .slice ao2 n2 cap2, .slice ao3 n3 cap3], .int .i64 h] w fun e w' => ∃ a4 n4 c4, e = .returned (.tuple #[.slice a4 n4 c4, noV (ptN S Ls Hs Ts h)]) ∧ GS inE w' (.slice a4 n4 c4) (ptL S Ls Hs Ts h) ∧ Below w.heap.size w w' := by
  have hb0 : Below w.heap.size w (w.alloc (Obj.cells #[.int .i64 S, .slice ao n cap, .slice ao2 n2 cap2, .slice ao3 n3 cap3] 28)) := (Below.refl _ _).alloc (Nat.le_refl _) _
  have HX := nebox_new w S (.slice ao n cap) (.slice ao2 n2 cap2) (.slice ao3 n3 cap3) 28
  obtain ⟨w0, hw0⟩ : ∃ W, w.alloc (Obj.cells #[.int .i64 S, .slice ao n cap, .slice ao2 n2 cap2, .slice ao3 n3 cap3] 28) = W := ⟨_, rfl⟩
  rw [hw0] at hb0 HX
  have HW0 : Hid (w.alloc (Obj.cells #[.int .i64 S, .slice ao n cap, .slice ao2 n2 cap2, .slice ao3 n3 cap3] 28) = w0) := hw0
  have HB0 : Hid (Below w.heap.size w w0) := hb0
  have HL0 : Hid (GS lnkE w0 (.slice ao n cap) Ls) := hL.later hb0
  have HH0 : Hid (GS hstE w0 (.slice ao2 n2 cap2) Hs) := hH.later hb0
  have HT0 : Hid (TS w0 (.slice ao3 n3 cap3) Ts) := hT.later hb0
  have HXB : Hid (NeBox w0 w.heap.size S (.slice ao n cap) (.slice ao2 n2 cap2) (.slice ao3 n3 cap3)) := HX
  obtain ⟨b0, b1, b2, b3⟩ := HX
  have HN3 : Hid (Ts.length = n3) := hT.len
  obtain ⟨M, hM⟩ : ∃ M, M = ptN S Ls Hs Ts h := ⟨_, rfl⟩
  have HM : Hid (M = ptN S Ls Hs Ts h) := hM
  rw [← hM]
  clear hL hH hT hb0 hw0 hM
  go_enter Tryd.func15, Tryd.ntmps15
  go_upto_region 1 with fail
  rw [HW0.out]
  clear HW0
  go_wp2_with fail
  refine (ncheck_any S ao n cap ao2 n2 cap2 ao3 n3 cap3 Ls Hs Ts _ HL0.out HH0.out HT0.out).mono ?_
  rintro e w1 ⟨rfl, hb1⟩
  obtain ⟨N, hN⟩ : ∃ N, N = ntN S Ls Hs Ts := ⟨_, rfl⟩
  have HN : Hid (N = ntN S Ls Hs Ts) := hN
  rw [← hN]
  have HB1 : Hid (Below w.heap.size w w1) := HB0.out.trans (hb1.mono HB0.out.size)
  have HT1 : Hid (TS w1 (.slice ao3 n3 cap3) Ts) := HT0.out.later hb1
  have hx1 := HXB.out.later hb1
  clear hN hb1 b0 b1 b2 b3
  obtain ⟨b0, b1, b2, b3⟩ := hx1
  by_cases h0 : N = 0
  · subst h0
    rw [no_ok rfl]
    have H8 : Hid (n3 ≤ 8) := by
      have := nt_8 HN.out.symm
      have h3 := HN3.out
      show _ ≤ _
      omega
    cases hh : hdrB h
    · have HM1 : Hid (M = 1) := by
        show _ = _
        rw [HM.out, ptN, if_pos HN.out.symm, hh]
        rfl
      have HP : Hid (ptL S Ls Hs Ts h = []) := by
        show _ = _
        rw [ptL, ← HM.out, HM1.out]
        rfl
      go_wp2_with fail
      refine (isHeader_no _ _ hh).mono ?_
      rintro e w' ⟨rfl, hw'⟩
      subst hw'
      clear b0 b1 b2 b3
      go_wp2
      refine bodyPost_ret (v := .tuple #[.slice none 0 0, .iface 78 (.int .i64 1)]) (by simp [results, Tryd.results15, go_sem]) rfl ⟨_, _, _, by rw [HM1.out]; rfl, ?_, HB1.out⟩
      rw [HP.out]
      exact GS.nil _
    · have HM1 : Hid (M = 0) := by
        show _ = _
        rw [HM.out, ptN, if_pos HN.out.symm, hh]
        rfl
      have HP : Hid (ptL S Ls Hs Ts h = pthL Ts h) := by
        show _ = _
        rw [ptL, ← HM.out, HM1.out]
        rfl
      go_wp2_with fail
      refine (isHeader_yes _ _ hh).mono ?_
      rintro e w' ⟨rfl, hw'⟩
      subst hw'
      go_wp2_with fail
      refine (path_any ao3 n3 cap3 Ts h _ HT1.out H8.out).mono ?_
      rintro e w2 ⟨rfl, hown2, hb2⟩
      have HB2 := HB1.out.trans (hb2.mono HB1.out.size)
      have HG2 : Hid (GS inE w2 (.slice (some ⟨w'.heap.size, 0, none⟩) n3 n3) (ptL S Ls Hs Ts h)) := by
        show GS _ _ _ _
        rw [HP.out]
        exact own_GS hown2
      clear hown2 hb2 b0 b1 b2 b3
      go_wp2
      refine bodyPost_ret (v := .tuple #[.slice (some ⟨w'.heap.size, 0, none⟩) n3 n3, .nilIface]) (by simp [results, Tryd.results15, go_sem]) rfl ⟨_, _, _, by rw [HM1.out]; rfl, HG2.out, HB2⟩
  · rw [no_ne h0]
    have HM1 : Hid (M = N) := by
      show _ = _
      rw [HM.out, ptN, if_neg (by rw [← HN.out]; exact h0), HN.out]
    have HP : Hid (ptL S Ls Hs Ts h = []) := by
      show _ = _
      rw [ptL, ← HM.out, HM1.out, if_neg h0]
    have HN0 : Hid (N ≠ 0) := h0
    clear h0 b0 b1 b2 b3
    go_wp2
    refine bodyPost_ret (v := .tuple #[.slice none 0 0, .iface 78 (.int .i64 N)]) (by simp [results, Tryd.results15, go_sem]) rfl ⟨_, _, _, by rw [HM1.out, no_ne HN0.out], ?_, HB1.out⟩
    rw [HP.out]
    exact GS.nil _
theorem enters_rep1 : ∀ args w, (callFunc 32 args).run Tryd.prog w = .ok (.enter 32 args) w := enters_of Tryd.func32 (by kernel_rfl) rfl
set_option maxHeartbeats 1000000 in
theorem rep1_any (ao : Option Addr) (n c b : Nat) (h : Int) (L : List Int) (W : World) (hb : W.cell? ⟨b, 0, none⟩ = some (.int .i64 h)) (hL : GS inE W (.slice ao n c) L) :
    Calls Tryd.prog 32 #[.slice ao n c, .pointer (some ⟨b, 0, none⟩)] W fun e w' => e = .returned (.bool (hasL h L)) ∧ Below W.heap.size W w' := by
  go_enter Tryd.func32, Tryd.ntmps32
  go_wp2_with fail
  refine (num_has ao n c h L _ hL).mono ?_
  rintro e w1 ⟨rfl, hb1⟩
  go_wp2
  go_ret
  exact ⟨rfl, hb1⟩
set_option maxHeartbeats 1000000 in
theorem rep_any (a : Option Addr) (n c : Nat) (h : Int) (Ls : List (List Int)) (w : World) (hs : ILS w (.slice a n c) Ls) :
    Calls Tryd.prog 17 #[.slice a n c, .int .i64 h] w fun e w' => e = .returned (.tuple #[.int .i64 (rpV Ls h), noV (rpN Ls h)]) ∧ Below w.heap.size w w' := by
  have hb0 : Below w.heap.size w (w.alloc (Obj.cells #[.int .i64 h] 3)) := (Below.refl _ _).alloc (Nat.le_refl _) _
  have hc0 : (w.alloc (Obj.cells #[.int .i64 h] 3)).cell? ⟨w.heap.size, 0, none⟩ = some (.int .i64 h) := by simp
  obtain ⟨w0, hw0⟩ : ∃ W, w.alloc (Obj.cells #[.int .i64 h] 3) = W := ⟨_, rfl⟩
  rw [hw0] at hb0 hc0
  have HW0 : Hid (w.alloc (Obj.cells #[.int .i64 h] 3) = w0) := hw0
  have HB0 : Hid (Below w.heap.size w w0) := hb0
  have HS0 : Hid (ILS w0 (.slice a n c) Ls) := hs.later hb0
  have HASK : Hid (ilAsks w0 32 (.pointer (some ⟨w.heap.size, 0, none⟩)) (hasL h)) := fun ao n cap L W hb hG => rep1_any ao n cap _ h L W (cell_later hb hc0) hG
  clear hs hb0 hw0 hc0
  go_enter Tryd.func17, Tryd.ntmps17
  go_upto_region 1 with fail
  rw [HW0.out]
  clear HW0
  go_wp2_with fail
  refine (il_idxF a n c 32 (.pointer (some ⟨w.heap.size, 0, none⟩)) (hasL h) Ls _ HS0.out enters_rep1 HASK.out).mono ?_
  rintro e w1 ⟨rfl, hb1⟩
  obtain ⟨I, hI⟩ : ∃ I, I = rpI Ls h := ⟨_, rfl⟩
  have HI : Hid (I = rpI Ls h) := hI
  rw [show ixG (hasL h) Ls = I from hI.symm]
  have HB1 : Hid (Below w.heap.size w w1) := HB0.out.trans (hb1.mono HB0.out.size)
  have HS1 : Hid (ILS w1 (.slice a n c) Ls) := HS0.out.later hb1
  clear hI hb1 HASK
  by_cases hneg : I < 0
  · have HN : Hid (rpN Ls h = 5 ∧ rpV Ls h = 0) := by
      show _ ∧ _
      rw [rpN, rpV, ← HI.out, if_pos hneg, if_pos hneg]
      exact ⟨rfl, rfl⟩
    go_wp2
    refine bodyPost_ret (v := .tuple #[.int .i64 0, .iface 78 (.int .i64 5)]) (by simp [results, Tryd.results17, go_sem]) rfl ⟨?_, HB1.out⟩
    rw [HN.out.1, HN.out.2]
    rfl
  · obtain ⟨j, rfl⟩ : ∃ j : Nat, I = (j : Int) := ⟨I.toNat, by omega⟩
    have hI2 : (j : Int) = ixG (hasL h) Ls := HI.out
    obtain ⟨q1, q2⟩ := ixG_lt (q := hasL h) (L := Ls) (by omega)
    have hjl : j < Ls.length := by omega
    have hjh : hasL h Ls[j] = true := by
      have := q2 q1
      have e : (ixG (hasL h) Ls).toNat = j := by omega
      simp only [e] at this
      exact this
    have HN : Hid (rpN Ls h = 0 ∧ rpV Ls h = mnTo Ls[j] Ls[j].length) := by
      show _ ∧ _
      rw [rpN, rpV, ← HI.out, if_neg hneg, if_neg hneg]
      refine ⟨rfl, ?_⟩
      rw [Int.toNat_natCast, show Ls.getD j [] = Ls[j] by simp [List.getD, hjl]]
    obtain ⟨_, _, _, e5, hn5, _, _, ha5⟩ := HS1.out.form
    cases e5
    obtain ⟨g, o, hao, hc, _⟩ := ha5 (by omega)
    subst hao
    obtain ⟨a2, n2, c2, t0, hG⟩ := hc j hjl
    have HG : Hid (GS inE w1 (.slice a2 n2 c2) Ls[j]) := hG
    have hn2 : 0 < n2 := by
      have := hG.len
      have h3 := List.length_pos_of_mem (hasL_iff.1 hjh)
      omega
    have jb0 : (0 : Int) ≤ (j : Int) := by omega
    have jb1 : (j : Int) < (n : Int) := by omega
    clear hI2 q1 q2 hn5 ha5 hc hG hjh
    go_wp2_with fail
    refine (num_min a2 n2 c2 _ _ HG.out hn2).mono ?_
    rintro e w2 ⟨rfl, hb2⟩
    have HB2 : Hid (Below w.heap.size w w2) := HB1.out.trans (hb2.mono HB1.out.size)
    clear hb2 t0
    go_wp2
    refine bodyPost_ret (v := .tuple #[.int .i64 (mnTo Ls[j] Ls[j].length), .nilIface]) (by simp [results, Tryd.results17, go_sem]) rfl ⟨?_, HB2.out⟩
    rw [HN.out.1, HN.out.2]
    rfl
end Go.Proofs.YtfbocionnjliladDoor
/- What railsame.Ints answers of two slices of numbers, whoever made them. -/
namespace Go.Proofs.YtfbocionnjliladDoor
open Go.RowKit
set_option linter.unusedSimpArgs false
set_option linter.unusedVariables false

theorem smi_next {xs ys : List Int} {k : Nat} (h : xs.take k = ys.take k) (hx : k < xs.length) (hy : k < ys.length) (he : xs[k] = ys[k]) : xs.take (k + 1) = ys.take (k + 1) := by
  rw [List.take_succ_eq_append_getElem hx, List.take_succ_eq_append_getElem hy, h, he]
set_option maxHeartbeats 2000000 in
theorem smints_any (ao bo : Option Addr) (n m c d : Nat) (xs ys : List Int) (w : World) (h1 : GS inE w (.slice ao n c) xs) (h2 : GS inE w (.slice bo m d) ys) :
    Calls Tryd.prog 16 #[.slice ao n c, .slice bo m d] w fun e w' => e = .returned (.bool (xs == ys)) ∧ Below w.heap.size w w' := by
  obtain ⟨_, _, _, e1, hn, hn2, _, ha⟩ := h1.form
  cases e1
  obtain ⟨_, _, _, e2, hm, hm2, _, hb⟩ := h2.form
  cases e2
  by_cases hl : n = m
  · subst hl
    have HX : Hid (xs.length = n) := hn
    have HY : Hid (ys.length = n) := hm
    have HA : Hid (0 < n → ∃ g o, ao = some ⟨g, o, none⟩ ∧ GAt inE w g o xs ∧ c ≤ maxLen) := ha
    have HB2 : Hid (0 < n → ∃ g o, bo = some ⟨g, o, none⟩ ∧ GAt inE w g o ys ∧ d ≤ maxLen) := hb
    unfold maxLen at hn2
    clear hn hm hm2 ha hb h1 h2
    go_enter Tryd.func16, Tryd.ntmps16
    go_wp2
    go_loopw [5] (fun i wr => ∃ k : Nat, k ≤ n ∧ i = .int .i64 k ∧ xs.take k = ys.take k ∧ Below w.heap.size w wr) (fun i _ => n - (intOf i).toNat)
    case atStart => exact ⟨0, by omega, rfl, by simp, Below.refl _ _⟩
    case round =>
      obtain ⟨k, hk, rfl, he, hB⟩ := hrel
      have HB : Hid (Below w.heap.size w wr) := hB
      have HE : Hid (xs.take k = ys.take k) := he
      clear he
      by_cases hlt : k < n
      · obtain ⟨g, o, hao, hc, _⟩ := HA.out (by omega)
        obtain ⟨f, q, hbo, hd, _⟩ := HB2.out (by omega)
        subst hao hbo
        obtain ⟨x, hkx, hxk, r0⟩ := in_at (hc.later hB) HX.out hlt
        obtain ⟨y, hky, hyk, r1⟩ := in_at (hd.later hB) HY.out hlt
        have HXK : Hid (xs[k] = x) := hxk
        have HYK : Hid (ys[k] = y) := hyk
        clear hxk hyk hc hd hB
        by_cases hne : x = y
        · subst hne
          go_wp2
          go_quiet (fail)
          go_wp2
          go_roundw
          case rel => exact ⟨k + 1, by omega, by go_num, smi_next HE.out hkx hky (HXK.out.trans HYK.out.symm), HB.out.trans ⟨rfl, rfl, rfl, Nat.le_refl _, fun _ _ => rfl⟩⟩
          case measure => simp [intOf]; omega
        · go_wp2
          go_quiet (fail)
          go_wp2
          go_ret
          exact ⟨by
            have : (xs == ys) = false := by
              simp only [beq_eq_false_iff_ne, ne_eq]
              intro h; subst h
              exact hne (HXK.out.symm.trans HYK.out)
            rw [this]; rfl, HB.out.trans ⟨rfl, rfl, rfl, Nat.le_refl _, fun _ _ => rfl⟩⟩
      · obtain rfl : k = n := by omega
        go_wp2
        go_ret
        exact ⟨by
          have h3 := HE.out
          rw [List.take_of_length_le (by rw [HX.out]; exact Nat.le_refl _), List.take_of_length_le (by rw [HY.out]; exact Nat.le_refl _)] at h3
          rw [h3]; simp, HB.out⟩
  · have e : (xs == ys) = false := by
      simp only [beq_eq_false_iff_ne, ne_eq]
      intro h; subst h; exact hl (hn.symm.trans hm)
    rw [e]
    have h3 : (n : Int) ≠ (m : Int) := by omega
    clear e ha hb h1 h2
    go_enter Tryd.func16, Tryd.ntmps16
    go_wp2
    go_ret
    exact ⟨rfl, Below.refl _ _⟩
end Go.Proofs.YtfbocionnjliladDoor
/- What railsame.Lists answers of two slices of lists that are the same: a contract for the walks above it. -/
namespace Go.Proofs.YtfbocionnjliladDoor
open Go.RowKit
set_option linter.unusedSimpArgs false
set_option linter.unusedVariables false

def CL2 (wr : World) (g q : Nat) (u : Value) (f p : Nat) (v : Value) (L : List Int) (w' : World) : Prop :=
  Below wr.heap.size wr w' ∧ w'.cell? ⟨g, q, none⟩ = some u ∧ w'.cell? ⟨f, p, none⟩ = some v ∧ GS inE w' u L ∧ GS inE w' v L
theorem CL2.later {wr W W' : World} {g q : Nat} {u : Value} {f p : Nat} {v : Value} {L : List Int} (hb : Below W.heap.size W W') (h : CL2 wr g q u f p v L W) : CL2 wr g q u f p v L W' :=
  ⟨h.1.trans (hb.mono h.1.size), cell_later hb h.2.1, cell_later hb h.2.2.1, h.2.2.2.1.later hb, h.2.2.2.2.later hb⟩
set_option maxHeartbeats 2000000 in
set_option maxRecDepth 100000 in
theorem smlists_any (ao bo : Option Addr) (n m c d : Nat) (Ls : List (List Int)) (w : World) (h1 : ILS w (.slice ao n c) Ls) (h2 : ILS w (.slice bo m d) Ls) :
    Calls Tryd.prog 10 #[.slice ao n c, .slice bo m d] w fun e w' => e = .returned (.bool true) ∧ Below w.heap.size w w' := by
  obtain ⟨_, _, _, e1, hn, hn2, _, ha⟩ := h1.form
  cases e1
  obtain ⟨_, _, _, e2, hm, hm2, _, hb⟩ := h2.form
  cases e2
  obtain rfl : n = m := by omega
  have HX : Hid (Ls.length = n) := hn
  have HA : Hid (0 < n → ∃ g o, ao = some ⟨g, o, none⟩ ∧ ILAt w g o Ls ∧ c ≤ maxLen) := ha
  have HB2 : Hid (0 < n → ∃ g o, bo = some ⟨g, o, none⟩ ∧ ILAt w g o Ls ∧ d ≤ maxLen) := hb
  unfold maxLen at hn2
  clear hn hm hm2 ha hb h1 h2
  go_enter Tryd.func10, Tryd.ntmps10
  go_wp2
  go_loopw [5] (fun i wr => ∃ k : Nat, k ≤ n ∧ i = .int .i64 k ∧ Below w.heap.size w wr) (fun i _ => n - (intOf i).toNat)
  case atStart => exact ⟨0, by omega, rfl, Below.refl _ _⟩
  case round =>
    obtain ⟨k, hk, rfl, hB⟩ := hrel
    have HB : Hid (Below w.heap.size w wr) := hB
    by_cases hlt : k < n
    · obtain ⟨g, o, hao, hc, _⟩ := HA.out (by omega)
      obtain ⟨f, q, hbo, hd, _⟩ := HB2.out (by omega)
      subst hao hbo
      obtain ⟨a3, n3, c3, r0, hG3⟩ := (hc.later hB).at HX.out hlt
      obtain ⟨a4, n4, c4, r1, hG4⟩ := (hd.later hB).at HX.out hlt
      have HCL : Hid (CL2 wr g (o + k) (.slice a3 n3 c3) f (q + k) (.slice a4 n4 c4) (Ls.getD k []) wr) := ⟨Below.refl _ _, r0, r1, hG3, hG4⟩
      have kb0 : (0 : Int) ≤ (k : Int) := by omega
      have kb1 : (k : Int) < (n : Int) := by omega
      clear hc hd hB r0 r1 hG3 hG4
      go_upto_region 6 with fail
      refine wp_region_quiet (C := CL2 wr g (o + k) (.slice a3 n3 c3) f (q + k) (.slice a4 n4 c4) (Ls.getD k [])) (by kernel_rfl) (by kernel_rfl) (CL2.later (W := wr) (Below.drew (Below.refl _ _)) HCL.out) ?_
      simp only [List.toList_toArray]
      go_big_quiet_want
      refine quiet_val (v := .slice (some ⟨g, o, none⟩) n c) (fun w' hC => ?_) ?_
      · obtain ⟨z0, z1, z2, z3, z4⟩ := hC
        go_simp
      simp only [Act.put, List.setIfInBounds_toArray, List.set_cons_zero, List.set_cons_succ]
      go_big_quiet_on
      go_big_quiet_want
      refine quiet_val (v := .int .i64 (k : Int)) (fun w' hC => ?_) ?_
      · obtain ⟨z0, z1, z2, z3, z4⟩ := hC
        go_simp
      simp only [Act.put, List.setIfInBounds_toArray, List.set_cons_zero, List.set_cons_succ]
      go_big_quiet_on
      go_big_quiet_want
      refine quiet_val (v := .pointer (some ⟨g, o + k, none⟩)) (fun w' hC => ?_) ?_
      · obtain ⟨z0, z1, z2, z3, z4⟩ := hC
        go_simp
      simp only [Act.put, List.setIfInBounds_toArray, List.set_cons_zero, List.set_cons_succ]
      go_big_quiet_on
      go_big_quiet_want
      refine quiet_val (v := .slice a3 n3 c3) (fun w' hC => ?_) ?_
      · obtain ⟨z0, z1, z2, z3, z4⟩ := hC
        go_simp
      simp only [Act.put, List.setIfInBounds_toArray, List.set_cons_zero, List.set_cons_succ]
      go_big_quiet_on
      go_big_quiet_want
      refine quiet_val (v := .slice (some ⟨f, q, none⟩) n d) (fun w' hC => ?_) ?_
      · obtain ⟨z0, z1, z2, z3, z4⟩ := hC
        go_simp
      simp only [Act.put, List.setIfInBounds_toArray, List.set_cons_zero, List.set_cons_succ]
      go_big_quiet_on
      go_big_quiet_want
      refine quiet_val (v := .int .i64 (k : Int)) (fun w' hC => ?_) ?_
      · obtain ⟨z0, z1, z2, z3, z4⟩ := hC
        go_simp
      simp only [Act.put, List.setIfInBounds_toArray, List.set_cons_zero, List.set_cons_succ]
      go_big_quiet_on
      go_big_quiet_want
      refine quiet_val (v := .pointer (some ⟨f, q + k, none⟩)) (fun w' hC => ?_) ?_
      · obtain ⟨z0, z1, z2, z3, z4⟩ := hC
        go_simp
      simp only [Act.put, List.setIfInBounds_toArray, List.set_cons_zero, List.set_cons_succ]
      go_big_quiet_on
      go_big_quiet_want
      refine quiet_val (v := .slice a4 n4 c4) (fun w' hC => ?_) ?_
      · obtain ⟨z0, z1, z2, z3, z4⟩ := hC
        go_simp
      simp only [Act.put, List.setIfInBounds_toArray, List.set_cons_zero, List.set_cons_succ]
      go_big_quiet_on
      go_big_quiet_want
      refine quiet_call (f := 16) (args := #[.slice a3 n3 c3, .slice a4 n4 c4]) (v := .bool true) (fun w' => ?_) (fun w' hC => (smints_any a3 a4 n3 n4 c3 c4 _ _ w' hC.2.2.2.1 hC.2.2.2.2).mono (fun e w2 h2 => ⟨by rw [h2.1]; simp, CL2.later h2.2 hC⟩)) ?_
      · go_simp
      simp only [Act.put, List.setIfInBounds_toArray, List.set_cons_zero, List.set_cons_succ]
      go_big_quiet_on
      go_big_quiet_want
      refine quiet_val (v := .bool true) (fun w' hC => ?_) ?_
      · obtain ⟨z0, z1, z2, z3, z4⟩ := hC
        go_simp
      simp only [Act.put, List.setIfInBounds_toArray, List.set_cons_zero, List.set_cons_succ]
      go_big_quiet_on
      refine wpQuiet_nil ?_
      intro w' hC
      have HBY : Hid (Below wr.heap.size wr w') := hC.1
      clear hC
      go_wp2
      go_roundw
      case rel => exact ⟨k + 1, by omega, by go_num, HB.out.trans (HBY.out.mono HB.out.size)⟩
      case measure => simp [intOf]; omega
    · obtain rfl : k = n := by omega
      clear hB
      go_wp2
      go_ret
      exact ⟨rfl, HB.out⟩
end Go.Proofs.YtfbocionnjliladDoor
/- What the document's own functions on one cube answer: contracts for the walks above them. -/
namespace Go.Proofs.YtfbocionnjliladDoor
open Go.RowKit
set_option linter.unusedSimpArgs false

set_option maxHeartbeats 400000 in
theorem header_yes (n : Int) (w : World) (h : hdrB n = true) :
    Calls Tryd.prog 13 #[.int .i64 n] w fun e w' => e = .returned (.bool true) ∧ w' = w := by
  obtain ⟨h1, h2⟩ := hdr_of h
  clear h
  go_enter Tryd.func13, Tryd.ntmps13
  go_wp2
  go_ret
  exact ⟨rfl, rfl⟩

set_option maxHeartbeats 400000 in
theorem header_no (n : Int) (w : World) (h : hdrB n = false) :
    Calls Tryd.prog 13 #[.int .i64 n] w fun e w' => e = .returned (.bool false) ∧ w' = w := by
  rcases hdr_no h with h1 | h1
  · clear h
    go_enter Tryd.func13, Tryd.ntmps13
    go_wp2
    go_ret
    exact ⟨rfl, rfl⟩
  · have h2 : 0 ≤ n := by omega
    have h3 : decide (n < 16) = false := by simp; omega
    clear h
    go_enter Tryd.func13, Tryd.ntmps13
    go_wp2
    go_ret
    exact ⟨rfl, rfl⟩

theorem header_any (n : Int) (w : World) :
    Calls Tryd.prog 13 #[.int .i64 n] w fun e w' => e = .returned (.bool (hdrB n)) ∧ w' = w := by
  cases h : hdrB n
  · exact header_no n w h
  · exact header_yes n w h

set_option maxHeartbeats 400000 in
theorem refCube_any (m b : Int) (w : World) :
    Calls Tryd.prog 45 #[.agg #[.int .i64 m, .int .i64 b]] w fun e w' => e = .returned (.int .i64 (refN m b)) ∧ Below w.heap.size w w' := by
  cases hr : rngB m b
  · rw [refN_range hr]
    have HH : hdrB m = false ∨ (hdrB m = true ∧ hdrB b = false) := by
      cases h1 : hdrB m
      · exact .inl rfl
      · exact .inr ⟨rfl, by simpa [rngB, h1] using hr⟩
    rcases HH with hm | ⟨hm, hb⟩
    all_goals
      clear hr
      go_enter Tryd.func45, Tryd.ntmps45
      go_wp2_with fail
      refine (header_any _ _).mono ?_
      rintro e w' ⟨rfl, rfl⟩
      go_wp2_with fail
      refine (header_any _ _).mono ?_
      rintro e w' ⟨rfl, rfl⟩
      go_wp2
      go_ret
      exact ⟨rfl, (Below.refl _ _).alloc (Nat.le_refl _) _⟩
  · have hm : hdrB m = true := hdr_mk (rng_of hr).1
    have hb : hdrB b = true := hdr_mk (rng_of hr).2
    cases ho : okB m b
    · rw [refN_shape ho hr]
      have hz : (bits .and .i64 b m == b) = false := by rw [andEq hr, ho]
      clear hr ho
      go_enter Tryd.func45, Tryd.ntmps45
      go_wp2_with fail
      refine (header_any _ _).mono ?_
      rintro e w' ⟨rfl, rfl⟩
      go_wp2_with fail
      refine (header_any _ _).mono ?_
      rintro e w' ⟨rfl, rfl⟩
      go_wp2
      go_ret
      exact ⟨rfl, (Below.refl _ _).alloc (Nat.le_refl _) _⟩
    · rw [refN_ok ho]
      have hz : (bits .and .i64 b m == b) = true := by rw [andEq hr, ho]
      clear hr ho
      go_enter Tryd.func45, Tryd.ntmps45
      go_wp2_with fail
      refine (header_any _ _).mono ?_
      rintro e w' ⟨rfl, rfl⟩
      go_wp2_with fail
      refine (header_any _ _).mono ?_
      rintro e w' ⟨rfl, rfl⟩
      go_wp2
      go_ret
      exact ⟨rfl, (Below.refl _ _).alloc (Nat.le_refl _) _⟩

set_option maxHeartbeats 400000 in
theorem refHas_any (m b h : Int) (w : World) :
    Calls Tryd.prog 55 #[.agg #[.int .i64 m, .int .i64 b], .int .i64 h] w fun e w' => e = .returned (.bool (hasB m b h)) ∧ Below w.heap.size w w' := by
  cases hh : hdrB h
  · have e : hasB m b h = false := by simp [hasB, hh]
    rw [e]; clear e
    go_enter Tryd.func55, Tryd.ntmps55
    go_wp2_with fail
    refine (header_any _ _).mono ?_
    rintro e w' ⟨rfl, rfl⟩
    go_wp2
    go_ret
    exact ⟨rfl, (Below.refl _ _).alloc (Nat.le_refl _) _⟩
  · cases ho : okB m b
    · have e : hasB m b h = false := by simp [hasB, ho]
      have hz : (refN m b == 0) = false := by rw [ok_refN, ho]
      rw [e]; clear e ho
      go_enter Tryd.func55, Tryd.ntmps55
      go_wp2_with fail
      refine (header_any _ _).mono ?_
      rintro e w' ⟨rfl, rfl⟩
      go_wp2_with fail
      refine (refCube_any _ _ _).mono ?_
      rintro e w1 ⟨rfl, hb1⟩
      go_wp2
      go_ret
      exact ⟨rfl, ((Below.refl _ _).alloc (Nat.le_refl _) _).trans (hb1.mono (by simp))⟩
    · have e : hasB m b h = (bits .and .i64 h m == b) := by simp [hasB, hh, ho]
      rw [e, ]; clear e
      go_enter Tryd.func55, Tryd.ntmps55
      go_wp2_with fail
      refine (header_any _ _).mono ?_
      rintro e w' ⟨rfl, rfl⟩
      go_wp2_with fail
      refine (refCube_any _ _ _).mono ?_
      rintro e w1 ⟨rfl, hb1⟩
      rw [refN_ok ho]
      obtain ⟨hc1, hf1⟩ := bcell hb1
      go_wp2
      go_ret
      exact ⟨rfl, ((Below.refl _ _).alloc (Nat.le_refl _) _).trans (hb1.mono (by simp))⟩

end Go.Proofs.YtfbocionnjliladDoor
/- Two rules at two addresses: a class of worlds. -/
namespace Go.Proofs.YtfbocionnjliladDoor
open Go.RowKit

/-- Two rules at two addresses. -/
def CD (w : World) (g o : Nat) (p m b q s v : Int) (g' o' : Nat) (p' m' b' q' s' v' : Int) (w' : World) : Prop :=
  Below w.heap.size w w' ∧ (w'.cell? ⟨g, o, none⟩ = some (.int .i64 p) ∧ w'.cell? ⟨g, o + 1, none⟩ = some (.int .i64 m) ∧ w'.cell? ⟨g, o + 2, none⟩ = some (.int .i64 b) ∧
    w'.cell? ⟨g, o + 3, none⟩ = some (.int .i64 q) ∧ w'.cell? ⟨g, o + 4, none⟩ = some (.int .i64 s) ∧ w'.cell? ⟨g, o + 5, none⟩ = some (.int .i64 v)) ∧
  w'.cell? ⟨g', o', none⟩ = some (.int .i64 p') ∧ w'.cell? ⟨g', o' + 1, none⟩ = some (.int .i64 m') ∧ w'.cell? ⟨g', o' + 2, none⟩ = some (.int .i64 b') ∧
    w'.cell? ⟨g', o' + 3, none⟩ = some (.int .i64 q') ∧ w'.cell? ⟨g', o' + 4, none⟩ = some (.int .i64 s') ∧ w'.cell? ⟨g', o' + 5, none⟩ = some (.int .i64 v')
theorem CD.later {w W W' : World} {g o : Nat} {p m b q s v : Int} {g' o' : Nat} {p' m' b' q' s' v' : Int} (hb : Below W.heap.size W W') (h : CD w g o p m b q s v g' o' p' m' b' q' s' v' W) : CD w g o p m b q s v g' o' p' m' b' q' s' v' W' := by
  obtain ⟨h0, ⟨h1, h2, h3, h4, h5, h6⟩, k1, k2, k3, k4, k5, k6⟩ := h
  exact ⟨h0.trans (hb.mono h0.size), ⟨cell_later hb h1, cell_later hb h2, cell_later hb h3, cell_later hb h4, cell_later hb h5, cell_later hb h6⟩, cell_later hb k1, cell_later hb k2, cell_later hb k3, cell_later hb k4, cell_later hb k5, cell_later hb k6⟩

end Go.Proofs.YtfbocionnjliladDoor
/- Rules as text, in plain bytes: no program in it. -/
namespace Go.Proofs.YtfbocionnjliladDoor
open Go.RowKit

/-- A number from 0 to 99 in digits. -/
def dgS (p : Int) : ByteArray := if p < 10 then strOfNums [48 + p] else strOfNums [48 + p / 10, 48 + p % 10]
/-- The number that the first digits of a text come to. -/
def dcTo (s : ByteArray) : Nat → Int
  | 0 => 0
  | k + 1 => 10 * dcTo s k + ((byteN s k : Nat) - 48)
def digB (c : Nat) : Bool := decide (48 ≤ c) && decide (c ≤ 57)
def dgTo (s : ByteArray) : Nat → Bool
  | 0 => true
  | k + 1 => dgTo s k && digB (byteN s k)
/-- Is the length of a number's text right, and has it no needless 0? -/
def dcHd (s : ByteArray) : Bool := decide (1 ≤ s.size) && (decide (s.size ≤ 9) && (!(byteN s 0 == 48) || s.size == 1))
/-- Is a text a number's? -/
def dcOk (s : ByteArray) : Bool := dcHd s && dgTo s s.size
def dcN (s : ByteArray) : Int := if dcOk s then dcTo s s.size else 0

theorem dg_le {s : ByteArray} : ∀ {n k : Nat}, k < n → dgTo s n = true → digB (byteN s k) = true
  | 0, _, h, _ => absurd h (Nat.not_lt_zero _)
  | n + 1, k, h, hm => by
    simp only [dgTo, Bool.and_eq_true] at hm
    by_cases e : k = n
    · subst e; exact hm.2
    · exact dg_le (by omega) hm.1
theorem dig_of {c : Nat} (h : digB c = true) : 48 ≤ c ∧ c ≤ 57 := by simpa [digB] using h
theorem dc_bd {s : ByteArray} : ∀ {k : Nat}, dgTo s k = true → 0 ≤ dcTo s k ∧ dcTo s k < 10 ^ k
  | 0, _ => by simp [dcTo]
  | k + 1, h => by
    simp only [dgTo, Bool.and_eq_true] at h
    have h1 := dc_bd h.1
    have h2 := dig_of h.2
    simp only [dcTo, Int.pow_succ]
    omega

/-- The place of the first blank. -/
def blAt (s : ByteArray) : Int := Lib.indexByte s.data.toList 32
/-- A text cut at its first k blanks. -/
def cutB : Nat → ByteArray → List ByteArray
  | 0, s => [s]
  | k + 1, s => if blAt s = -1 then [s] else s.extract 0 (blAt s).toNat :: cutB k (s.extract ((blAt s).toNat + 1) s.size)

theorem cut_miss {s : ByteArray} (k : Nat) (h : blAt s = -1) : cutB k s = [s] := by
  cases k with
  | zero => rfl
  | succ k => rw [cutB, if_pos h]
theorem cut_hit {s : ByteArray} (k : Nat) {i : Nat} (h : blAt s = i) : cutB (k + 1) s = s.extract 0 i :: cutB k (s.extract (i + 1) s.size) := by
  have hm : ¬ blAt s = -1 := by omega
  have e : (blAt s).toNat = i := by omega
  rw [cutB, if_neg hm, e]
theorem bl_cases (s : ByteArray) : blAt s = -1 ∨ ∃ i : Nat, blAt s = i ∧ i < s.size := by
  have h := Lib.indexByte_ge s.data.toList 32
  by_cases e : blAt s = -1
  · exact .inl e
  · right
    have e' : 0 ≤ blAt s := by unfold blAt at *; omega
    obtain ⟨i, hi⟩ := Int.eq_ofNat_of_zero_le e'
    refine ⟨i, hi, ?_⟩
    have := (Lib.indexByte_some hi).1
    have hlt := (List.getElem?_eq_some_iff.1 this).1
    simpa using hlt
theorem cut_len : ∀ (k : Nat) (s : ByteArray), (cutB k s).length ≤ k + 1 ∧ 1 ≤ (cutB k s).length
  | 0, _ => by simp [cutB]
  | k + 1, s => by
    rcases bl_cases s with h | ⟨i, h, _⟩
    · rw [cut_miss _ h]; simp
    · rw [cut_hit _ h]
      have := cut_len k (s.extract (i + 1) s.size)
      simp
      omega
end Go.Proofs.YtfbocionnjliladDoor
/- What the document's own functions on rules and tables come to, in plain numbers: no program in it. -/
namespace Go.Proofs.YtfbocionnjliladDoor
open Go.RowKit

/-- Is the i-th bit of what a rule makes of a header set? -/
def tuB (s v h : Int) (i : Nat) : Bool := bitB s i && bitB v i || !bitB s i && bitB h i
/-- The upper k bits of it. -/
def tuTo (s v h : Int) : Nat → Int
  | 0 => 0
  | k + 1 => if tuB s v h (3 - k) then tuTo s v h k * 2 + 1 else tuTo s v h k * 2
theorem tu_bd (s v h : Int) : ∀ k, 0 ≤ tuTo s v h k ∧ tuTo s v h k < 2 ^ k
  | 0 => by simp [tuTo]
  | k + 1 => by
    have := tu_bd s v h k
    have e : (2 : Int) ^ (k + 1) = 2 ^ k * 2 := Int.pow_succ ..
    unfold tuTo
    split <;> omega
set_option maxRecDepth 100000 in
theorem tu_fin : ∀ (s v h : Fin 16), ((bits .andNot .i64 ((v : Nat) : Int) ((s : Nat) : Int) == 0) && !(tuTo ((s : Nat) : Int) ((v : Nat) : Int) ((h : Nat) : Int) 4 == apV ((s : Nat) : Int) ((v : Nat) : Int) ((h : Nat) : Int))) = false := by decide +kernel
theorem fin16 {x : Int} (h : 0 ≤ x ∧ x < 16) : ∃ i : Fin 16, x = ((i : Nat) : Int) := ⟨⟨x.toNat, by omega⟩, by simp; omega⟩
/-- Bit by bit it is what the program reckons at once. -/
theorem tu_ap {s v h : Int} (hs : 0 ≤ s ∧ s < 16) (hv : 0 ≤ v ∧ v < 16) (hh : 0 ≤ h ∧ h < 16) (hz : (bits .andNot .i64 v s == 0) = true) : tuTo s v h 4 = apV s v h := by
  obtain ⟨a, rfl⟩ := fin16 hs
  obtain ⟨b, rfl⟩ := fin16 hv
  obtain ⟨c, rfl⟩ := fin16 hh
  have := tu_fin a b c
  rw [hz] at this
  simpa using this
/-- Does a header count for the rule at a place, among the first k headers? -/
def shB (L : List Ru) (i k : Nat) : Bool := (List.range k).any fun h => beTo L (h : Int) L.length == (i : Int)
theorem sh_0 (L : List Ru) (i : Nat) : shB L i 0 = false := rfl
theorem shB_next (L : List Ru) (i k : Nat) : shB L i (k + 1) = (shB L i k || (beTo L (k : Int) L.length == (i : Int))) := by
  simp [shB, List.range_succ]
/-- The places of rules among the first k that count for no header. -/
def deTo (L : List Ru) : Nat → List Int
  | 0 => []
  | k + 1 => if shB L k 16 then deTo L k else deTo L k ++ [(k : Int)]
theorem deTo_len (L : List Ru) : ∀ k, (deTo L k).length ≤ k
  | 0 => by simp [deTo]
  | k + 1 => by
    have := deTo_len L k
    unfold deTo
    split
    · omega
    · simp; omega
def deadL (L : List Ru) : List Int := if tbN L = 0 then deTo L L.length else []
theorem tb_le {L : List Ru} (h : tbN L = 0) : L.length ≤ 12 := (tb_0.1 h).1
theorem dead_len (L : List Ru) : (deadL L).length ≤ 12 := by
  unfold deadL
  split
  · next h => exact Nat.le_trans (deTo_len L _) (tb_le h)
  · simp
/-- Does a rule count ahead of another one, in the document's words? -/
def abB (a b : Ru) : Bool := if a.p = b.p then (if a.m = b.m then decide (b.b < a.b) else decide (b.m < a.m)) else decide (b.p < a.p)
theorem ab_ord (a b : Ru) : abB a b = decide (0 < ordR a b) := by
  have h : ordR a b ≤ 0 ↔ _ := ord_le (a := a) (b := b)
  unfold abB
  split
  · split <;> (rw [decide_eq_decide]; omega)
  · rw [decide_eq_decide]; omega
end Go.Proofs.YtfbocionnjliladDoor
/- What the document's own above and Find answer, called with any rules and any table. -/
namespace Go.Proofs.YtfbocionnjliladDoor
open Go.RowKit
set_option linter.unusedSimpArgs false

set_option maxHeartbeats 1000000 in
theorem above_abB (p m b o s v p' m' b' o' s' v' : Int) (w : World) :
    Calls Tryd.prog 56 #[.agg #[.int .i64 p, .int .i64 m, .int .i64 b, .int .i64 o, .int .i64 s, .int .i64 v], .agg #[.int .i64 p', .int .i64 m', .int .i64 b', .int .i64 o', .int .i64 s', .int .i64 v']] w fun e w' => e = .returned (.bool (abB ⟨p, m, b, o, s, v⟩ ⟨p', m', b', o', s', v'⟩)) ∧ Below w.heap.size w w' := by
  by_cases h1 : p = p'
  · subst h1
    by_cases h2 : m = m'
    · subst h2
      have e : abB ⟨p, m, b, o, s, v⟩ ⟨p, m, b', o', s', v'⟩ = decide (b' < b) := by simp [abB]
      rw [e]; clear e
      go_enter Tryd.func56, Tryd.ntmps56
      go_wp2
      go_ret
      exact ⟨rfl, ((Below.refl _ _).alloc (Nat.le_refl _) _).alloc (by simp) _⟩
    · have e : abB ⟨p, m, b, o, s, v⟩ ⟨p, m', b', o', s', v'⟩ = decide (m' < m) := by simp [abB, h2]
      have h3 : (m != m') = true := by simpa using h2
      rw [e]; clear e
      go_enter Tryd.func56, Tryd.ntmps56
      go_wp2
      go_ret
      exact ⟨rfl, ((Below.refl _ _).alloc (Nat.le_refl _) _).alloc (by simp) _⟩
  · have e : abB ⟨p, m, b, o, s, v⟩ ⟨p', m', b', o', s', v'⟩ = decide (p' < p) := by simp [abB, h1]
    have h3 : (p != p') = true := by simpa using h1
    rw [e]; clear e
    go_enter Tryd.func56, Tryd.ntmps56
    go_wp2
    go_ret
    exact ⟨rfl, ((Below.refl _ _).alloc (Nat.le_refl _) _).alloc (by simp) _⟩

theorem above_any (p m b o s v p' m' b' o' s' v' : Int) (w : World) :
    Calls Tryd.prog 56 #[.agg #[.int .i64 p, .int .i64 m, .int .i64 b, .int .i64 o, .int .i64 s, .int .i64 v], .agg #[.int .i64 p', .int .i64 m', .int .i64 b', .int .i64 o', .int .i64 s', .int .i64 v']] w fun e w' => e = .returned (.bool (decide (0 < ordR ⟨p, m, b, o, s, v⟩ ⟨p', m', b', o', s', v'⟩))) ∧ Below w.heap.size w w' :=
  (above_abB p m b o s v p' m' b' o' s' v' w).mono fun e w' h => ⟨by rw [h.1, ab_ord], h.2⟩

theorem be_nextF {L : List Ru} {h : Int} {k : Nat} (x : Int) (hx : x = beTo L h k) (y : Bool) (hy : ((L.getD k zeR).has h && (decide (x < 0) || decide (0 < ordR (L.getD k zeR) (L.getD x.toNat zeR)))) = y) : beTo L h (k + 1) = if y then (k : Int) else x := by
  subst hx
  rw [beTo, hy]

set_option maxHeartbeats 1000000 in
theorem find_some (g o cap n : Nat) (h : Int) (L : List Ru) (w : World) (hc : RAt w g o L) (hn : L.length = n) (hcap2 : n ≤ maxLen) :
    Calls Tryd.prog 28 #[.slice (some ⟨g, o, none⟩) n cap, .int .i64 h] w fun e w' => e = .returned (.int .i64 (beTo L h n)) ∧ Below w.heap.size w w' := by
  have HN : Hid (L.length = n) := hn
  unfold maxLen at hcap2
  clear hn
  go_enter Tryd.func28, Tryd.ntmps28
  go_wp2
  go_loopw [5, 6] (fun x i wr => ∃ k : Nat, k ≤ n ∧ x = .int .i64 (beTo L h k) ∧ i = .int .i64 k ∧ Below w.heap.size w wr) (fun _ i _ => n - (intOf i).toNat)
  case atStart => exact ⟨0, by omega, rfl, rfl, Below.refl _ _⟩
  case round =>
    obtain ⟨k, hk, rfl, rfl, hB⟩ := hrel
    have hbd := be_bd L h k
    generalize hx : beTo L h k = x at *
    have HX : Hid (x = beTo L h k) := hx.symm
    obtain ⟨x0, x1⟩ := hbd
    clear hx
    have HB : Hid (Below w.heap.size w wr) := hB
    by_cases hlt : k < n
    · obtain ⟨p, m, b, q, s, v, hkl, hL, q0, q1, q2, q3, q4, q5⟩ := (hc.later hB).at HN.out hlt
      have HK : Hid (L.getD k zeR = ⟨p, m, b, q, s, v⟩) := (getD_at hkl).trans hL
      have HCC : Hid (RAt wr g o L) := hc.later hB
      clear hL hB
      go_wp2_with fail
      refine (refHas_any _ _ _ _).mono ?_
      rintro e w1 ⟨rfl, hb1⟩
      have HCC1 : Hid (RAt w1 g o L) := HCC.out.later hb1
      have HB1 : Hid (Below w.heap.size w w1) := HB.out.trans (hb1.mono HB.out.size)
      clear hb1 q0 q1 q2 q3 q4 q5 HCC
      generalize hY : hasB m b h = Y
      have HY : Hid (hasB m b h = Y) := hY
      clear hY
      go_upto_region 6 with fail
      have kb0 : (0 : Int) ≤ (k : Int) := by omega
      have kb1 : (k : Int) < (n : Int) := by omega
      go_cut [36] from 8 to 37 (fun c w' => c = .bool (Y && (decide (x < 0) || decide (0 < ordR (L.getD k zeR) (L.getD x.toNat zeR)))) ∧ Below w.heap.size w w')
      case first =>
        cases Y
        · refine wp_region_quiet (C := fun w' => Below w.heap.size w w') (by kernel_rfl) (by kernel_rfl) (Below.drew HB1.out) ?_
          simp only [List.toList_toArray]
          go_big_quiet_want
          refine quiet_val (v := .bool false) (fun w' hC => ?_) ?_
          · obtain z0 := hC
            go_simp
          simp only [Act.put, List.setIfInBounds_toArray, List.set_cons_zero, List.set_cons_succ]
          go_big_quiet_on
          go_big_quiet_want
          refine quiet_val (v := .bool false) (fun w' hC => ?_) ?_
          · obtain z0 := hC
            go_simp
          simp only [Act.put, List.setIfInBounds_toArray, List.set_cons_zero, List.set_cons_succ]
          go_big_quiet_on
          go_big_quiet_skip
          go_big_quiet_skip
          go_big_quiet_skip
          go_big_quiet_skip
          go_big_quiet_skip
          go_big_quiet_skip
          go_big_quiet_skip
          go_big_quiet_skip
          go_big_quiet_skip
          go_big_quiet_skip
          go_big_quiet_skip
          go_big_quiet_skip
          go_big_quiet_skip
          go_big_quiet_want
          refine quiet_val (v := .bool false) (fun w' hC => ?_) ?_
          · obtain z0 := hC
            go_simp
          simp only [Act.put, List.setIfInBounds_toArray, List.set_cons_zero, List.set_cons_succ]
          go_big_quiet_on
          refine wpQuiet_nil ?_
          intro w' hC
          go_wp2_with fail
          go_meet
          case rel => exact ⟨rfl, hC⟩
        · by_cases hx0 : x < 0
          · have hx1 : decide (x < 0) = true := by simpa using hx0
            refine wp_region_quiet (C := fun w' => Below w.heap.size w w') (by kernel_rfl) (by kernel_rfl) (Below.drew HB1.out) ?_
            simp only [List.toList_toArray]
            go_big_quiet_want
            refine quiet_val (v := .bool true) (fun w' hC => ?_) ?_
            · obtain z0 := hC
              go_simp
            simp only [Act.put, List.setIfInBounds_toArray, List.set_cons_zero, List.set_cons_succ]
            go_big_quiet_on
            go_big_quiet_want
            refine quiet_val (v := .bool true) (fun w' hC => ?_) ?_
            · obtain z0 := hC
              go_simp
            simp only [Act.put, List.setIfInBounds_toArray, List.set_cons_zero, List.set_cons_succ]
            go_big_quiet_on
            go_big_quiet_want
            refine quiet_val (v := .int .i64 x) (fun w' hC => ?_) ?_
            · obtain z0 := hC
              go_simp
            simp only [Act.put, List.setIfInBounds_toArray, List.set_cons_zero, List.set_cons_succ]
            go_big_quiet_on
            go_big_quiet_want
            refine quiet_val (v := .bool true) (fun w' hC => ?_) ?_
            · obtain z0 := hC
              go_simp
            simp only [Act.put, List.setIfInBounds_toArray, List.set_cons_zero, List.set_cons_succ]
            go_big_quiet_on
            go_big_quiet_want
            refine quiet_val (v := .bool true) (fun w' hC => ?_) ?_
            · obtain z0 := hC
              go_simp
            simp only [Act.put, List.setIfInBounds_toArray, List.set_cons_zero, List.set_cons_succ]
            go_big_quiet_on
            go_big_quiet_skip
            go_big_quiet_skip
            go_big_quiet_skip
            go_big_quiet_skip
            go_big_quiet_skip
            go_big_quiet_skip
            go_big_quiet_skip
            go_big_quiet_skip
            go_big_quiet_skip
            go_big_quiet_want
            refine quiet_val (v := .bool true) (fun w' hC => ?_) ?_
            · obtain z0 := hC
              go_simp
            simp only [Act.put, List.setIfInBounds_toArray, List.set_cons_zero, List.set_cons_succ]
            go_big_quiet_on
            go_big_quiet_want
            refine quiet_val (v := .bool true) (fun w' hC => ?_) ?_
            · obtain z0 := hC
              go_simp
            simp only [Act.put, List.setIfInBounds_toArray, List.set_cons_zero, List.set_cons_succ]
            go_big_quiet_on
            refine wpQuiet_nil ?_
            intro w' hC
            go_wp2_with fail
            go_meet
            case rel => exact ⟨by rw [hx1]; rfl, hC⟩
          · obtain ⟨y, hy⟩ : ∃ y : Nat, x = (y : Int) := ⟨x.toNat, by omega⟩
            have hx2 : decide ((y : Int) < 0) = false := by simp
            subst hy
            obtain ⟨p2, m2, b2, q2, s2, v2, hyl, hLy, y0, y1, y2, y3, y4, y5⟩ := HCC1.out.at HN.out (show y < n by omega)
            obtain ⟨p1, m1, b1, q1, s1, v1, hkl1, hLk, r0, r1, r2, r3, r4, r5⟩ := HCC1.out.at HN.out hlt
            have E := HK.out
            rw [getD_at hkl1, hLk] at E
            simp only [Ru.mk.injEq] at E
            obtain ⟨rfl, rfl, rfl, rfl, rfl, rfl⟩ := E
            have HYL : Hid (L.getD ((y : Nat) : Int).toNat zeR = ⟨p2, m2, b2, q2, s2, v2⟩) := by
              show L.getD ((y : Nat) : Int).toNat zeR = _
              rw [Int.toNat_natCast, getD_at hyl, hLy]
            have yb0 : (0 : Int) ≤ (y : Int) := by omega
            have yb1 : ((y : Int)) < (n : Int) := by omega
            have hS0 : CD w g (o + k * 6) p1 m1 b1 q1 s1 v1 g (o + y * 6) p2 m2 b2 q2 s2 v2 w1 := ⟨HB1.out, ⟨r0, r1, r2, r3, r4, r5⟩, y0, y1, y2, y3, y4, y5⟩
            clear y0 y1 y2 y3 y4 y5 r0 r1 r2 r3 r4 r5 hLy hLk
            refine wp_region_quiet (C := CD w g (o + k * 6) p1 m1 b1 q1 s1 v1 g (o + y * 6) p2 m2 b2 q2 s2 v2) (by kernel_rfl) (by kernel_rfl) (CD.later (W := w1) (Below.drew (Below.refl _ _)) hS0) ?_
            simp only [List.toList_toArray]
            go_big_quiet_want
            refine quiet_val (v := .bool true) (fun w' hC => ?_) ?_
            · obtain ⟨z0, ⟨z1, z2, z3, z4, z5, z6⟩, y1, y2, y3, y4, y5, y6⟩ := hC
              go_simp
            simp only [Act.put, List.setIfInBounds_toArray, List.set_cons_zero, List.set_cons_succ]
            go_big_quiet_on
            go_big_quiet_want
            refine quiet_val (v := .bool true) (fun w' hC => ?_) ?_
            · obtain ⟨z0, ⟨z1, z2, z3, z4, z5, z6⟩, y1, y2, y3, y4, y5, y6⟩ := hC
              go_simp
            simp only [Act.put, List.setIfInBounds_toArray, List.set_cons_zero, List.set_cons_succ]
            go_big_quiet_on
            go_big_quiet_want
            refine quiet_val (v := .int .i64 (y : Int)) (fun w' hC => ?_) ?_
            · obtain ⟨z0, ⟨z1, z2, z3, z4, z5, z6⟩, y1, y2, y3, y4, y5, y6⟩ := hC
              go_simp
            simp only [Act.put, List.setIfInBounds_toArray, List.set_cons_zero, List.set_cons_succ]
            go_big_quiet_on
            go_big_quiet_want
            refine quiet_val (v := .bool false) (fun w' hC => ?_) ?_
            · obtain ⟨z0, ⟨z1, z2, z3, z4, z5, z6⟩, y1, y2, y3, y4, y5, y6⟩ := hC
              go_simp
            simp only [Act.put, List.setIfInBounds_toArray, List.set_cons_zero, List.set_cons_succ]
            go_big_quiet_on
            go_big_quiet_want
            refine quiet_val (v := .bool false) (fun w' hC => ?_) ?_
            · obtain ⟨z0, ⟨z1, z2, z3, z4, z5, z6⟩, y1, y2, y3, y4, y5, y6⟩ := hC
              go_simp
            simp only [Act.put, List.setIfInBounds_toArray, List.set_cons_zero, List.set_cons_succ]
            go_big_quiet_on
            go_big_quiet_want
            refine quiet_val (v := .slice (some ⟨g, o, none⟩) n cap) (fun w' hC => ?_) ?_
            · obtain ⟨z0, ⟨z1, z2, z3, z4, z5, z6⟩, y1, y2, y3, y4, y5, y6⟩ := hC
              go_simp
            simp only [Act.put, List.setIfInBounds_toArray, List.set_cons_zero, List.set_cons_succ]
            go_big_quiet_on
            go_big_quiet_want
            refine quiet_val (v := .int .i64 (k : Int)) (fun w' hC => ?_) ?_
            · obtain ⟨z0, ⟨z1, z2, z3, z4, z5, z6⟩, y1, y2, y3, y4, y5, y6⟩ := hC
              go_simp
            simp only [Act.put, List.setIfInBounds_toArray, List.set_cons_zero, List.set_cons_succ]
            go_big_quiet_on
            go_big_quiet_want
            refine quiet_val (v := .pointer (some ⟨g, o + k * 6, none⟩)) (fun w' hC => ?_) ?_
            · obtain ⟨z0, ⟨z1, z2, z3, z4, z5, z6⟩, y1, y2, y3, y4, y5, y6⟩ := hC
              go_simp
            simp only [Act.put, List.setIfInBounds_toArray, List.set_cons_zero, List.set_cons_succ]
            go_big_quiet_on
            go_big_quiet_want
            refine quiet_val (v := .agg #[.int .i64 p1, .int .i64 m1, .int .i64 b1, .int .i64 q1, .int .i64 s1, .int .i64 v1]) (fun w' hC => ?_) ?_
            · obtain ⟨z0, ⟨z1, z2, z3, z4, z5, z6⟩, y1, y2, y3, y4, y5, y6⟩ := hC
              go_simp
            simp only [Act.put, List.setIfInBounds_toArray, List.set_cons_zero, List.set_cons_succ]
            go_big_quiet_on
            go_big_quiet_want
            refine quiet_val (v := .slice (some ⟨g, o, none⟩) n cap) (fun w' hC => ?_) ?_
            · obtain ⟨z0, ⟨z1, z2, z3, z4, z5, z6⟩, y1, y2, y3, y4, y5, y6⟩ := hC
              go_simp
            simp only [Act.put, List.setIfInBounds_toArray, List.set_cons_zero, List.set_cons_succ]
            go_big_quiet_on
            go_big_quiet_want
            refine quiet_val (v := .int .i64 (y : Int)) (fun w' hC => ?_) ?_
            · obtain ⟨z0, ⟨z1, z2, z3, z4, z5, z6⟩, y1, y2, y3, y4, y5, y6⟩ := hC
              go_simp
            simp only [Act.put, List.setIfInBounds_toArray, List.set_cons_zero, List.set_cons_succ]
            go_big_quiet_on
            go_big_quiet_want
            refine quiet_val (v := .pointer (some ⟨g, o + y * 6, none⟩)) (fun w' hC => ?_) ?_
            · obtain ⟨z0, ⟨z1, z2, z3, z4, z5, z6⟩, y1, y2, y3, y4, y5, y6⟩ := hC
              go_simp
            simp only [Act.put, List.setIfInBounds_toArray, List.set_cons_zero, List.set_cons_succ]
            go_big_quiet_on
            go_big_quiet_want
            refine quiet_val (v := .agg #[.int .i64 p2, .int .i64 m2, .int .i64 b2, .int .i64 q2, .int .i64 s2, .int .i64 v2]) (fun w' hC => ?_) ?_
            · obtain ⟨z0, ⟨z1, z2, z3, z4, z5, z6⟩, y1, y2, y3, y4, y5, y6⟩ := hC
              go_simp
            simp only [Act.put, List.setIfInBounds_toArray, List.set_cons_zero, List.set_cons_succ]
            go_big_quiet_on
            go_big_quiet_want
            refine quiet_call (f := 56) (args := #[.agg #[.int .i64 p1, .int .i64 m1, .int .i64 b1, .int .i64 q1, .int .i64 s1, .int .i64 v1], .agg #[.int .i64 p2, .int .i64 m2, .int .i64 b2, .int .i64 q2, .int .i64 s2, .int .i64 v2]]) (v := .bool (decide (0 < ordR ⟨p1, m1, b1, q1, s1, v1⟩ ⟨p2, m2, b2, q2, s2, v2⟩))) (fun w' => ?_) (fun w' hC => (above_any p1 m1 b1 q1 s1 v1 p2 m2 b2 q2 s2 v2 w').mono (fun e w2 h2 => ⟨h2.1, CD.later h2.2 hC⟩)) ?_
            · go_simp
            simp only [Act.put, List.setIfInBounds_toArray, List.set_cons_zero, List.set_cons_succ]
            go_big_quiet_on
            go_big_quiet_want
            refine quiet_val (v := .bool (decide (0 < ordR ⟨p1, m1, b1, q1, s1, v1⟩ ⟨p2, m2, b2, q2, s2, v2⟩))) (fun w' hC => ?_) ?_
            · obtain ⟨z0, ⟨z1, z2, z3, z4, z5, z6⟩, y1, y2, y3, y4, y5, y6⟩ := hC
              go_simp
            simp only [Act.put, List.setIfInBounds_toArray, List.set_cons_zero, List.set_cons_succ]
            go_big_quiet_on
            go_big_quiet_want
            refine quiet_val (v := .bool (decide (0 < ordR ⟨p1, m1, b1, q1, s1, v1⟩ ⟨p2, m2, b2, q2, s2, v2⟩))) (fun w' hC => ?_) ?_
            · obtain ⟨z0, ⟨z1, z2, z3, z4, z5, z6⟩, y1, y2, y3, y4, y5, y6⟩ := hC
              go_simp
            simp only [Act.put, List.setIfInBounds_toArray, List.set_cons_zero, List.set_cons_succ]
            go_big_quiet_on
            refine wpQuiet_nil ?_
            intro w' hC
            go_wp2_with fail
            go_meet
            case rel => exact ⟨by rw [HYL.out, HK.out, hx2]; rfl, hC.1⟩
      case rest =>
        obtain ⟨hc2, hB2⟩ := hcut
        have HYY : Hid (beTo L h (k + 1) = if (Y && (decide (x < 0) || decide (0 < ordR (L.getD k zeR) (L.getD x.toNat zeR)))) then (k : Int) else x) := be_nextF x HX.out _ (by rw [HK.out, ← HY.out]; rfl)
        clear HCC1
        generalize (Y && (decide (x < 0) || decide (0 < ordR (L.getD k zeR) (L.getD x.toNat zeR)))) = Z at *
        subst hc2
        cases Z
        · go_wp2
          go_roundw
          case rel => exact ⟨k + 1, by omega, by rw [HYY.out]; rfl, by go_num, hB2⟩
          case measure => simp [intOf]; omega
        · go_wp2
          go_roundw
          case rel => exact ⟨k + 1, by omega, by rw [HYY.out]; rfl, by go_num, hB2⟩
          case measure => simp [intOf]; omega
    · obtain rfl : k = n := by omega
      go_wp2
      go_ret
      exact ⟨by rw [← HX.out]; rfl, HB.out⟩

set_option maxHeartbeats 1000000 in
theorem find_nil (ao : Option Addr) (cap : Nat) (h : Int) (w : World) :
    Calls Tryd.prog 28 #[.slice ao 0 cap, .int .i64 h] w fun e w' => e = .returned (.int .i64 (-1)) ∧ Below w.heap.size w w' := by
  go_enter Tryd.func28, Tryd.ntmps28
  go_wp2
  go_loopw [5, 6] (fun x i wr => x = .int .i64 (-1) ∧ i = .int .i64 0 ∧ wr = w) (fun _ i _ => 0)
  case atStart => exact ⟨rfl, rfl, rfl⟩
  case round =>
    obtain ⟨rfl, rfl, rfl⟩ := hrel
    go_wp2
    go_ret
    exact ⟨rfl, Below.refl _ _⟩

theorem find_any (x : Value) (L : List Ru) (h : Int) (w : World) (hs : SR w x L) :
    Calls Tryd.prog 28 #[x, .int .i64 h] w fun e w' => e = .returned (.int .i64 (beTo L h L.length)) ∧ Below w.heap.size w w' := by
  rcases hs with ⟨ao, cap, rfl, rfl⟩ | ⟨g, o, cap, rfl, h1, h2, hc⟩
  · exact find_nil ao cap h w
  · exact find_some g o cap _ h L w hc rfl (Nat.le_trans h1 h2)
end Go.Proofs.YtfbocionnjliladDoor
