/- Contracts and facts on the way to MixFew, joined into one text: MixSeen, MixTwo, MixFewMath, RefFate, SmFates, NetSend, ChangeBN, TopoOf. -/
import Derived.Test.YtmpjoepfgfbjmaaMixFewP3
import Derived.Test.YtmpjoepfgfbjmaaMixFewP13
import Derived.Test.YtmpjoepfgfbjmaaMixFewP14
import Derived.Test.YtmpjoepfgfbjmaaMixFewP4
import Derived.Test.YtmpjoepfgfbjmaaMixFewP9
import Derived.Test.YtmpjoepfgfbjmaaMixFewP5
import Derived.Test.YtmpjoepfgfbjmaaMixFewP2
import Derived.Test.YtmpjoepfgfbjmaaMixFewP12
import Derived.Test.YtmpjoepfgfbjmaaMixFewP10
import Derived.Test.YtmpjoepfgfbjmaaMixFewP11
import Derived.Deep.QuietTactic
import Derived.BigQuiet
import Derived.Deep.CutRange
import Derived.Deep.CutBlock
/- What Seen of package mix answers. -/
namespace Go.Proofs.Ytmpjoepfgfbjmaa
open Go.RowKit Go.Shelf
set_option linter.unusedSimpArgs false
set_option linter.unusedVariables false
attribute [local go_sem] Oper.semAt_some

theorem fate_info : (Try.prog.info? 43).map (fun i => (i.zero, i.size, i.bytes)) = some (some (.agg #[.int .i64 0, .string ⟨#[]⟩, .slice none 0 0]), 3, 48) := by kernel_rfl
set_option maxRecDepth 100000 in
set_option maxHeartbeats 4000000 in
theorem seen_in (n : Nat) (h4 : 4 ≤ n) (S : Int) (ao : Option Addr) (n1 cap : Nat) (ao2 : Option Addr) (n2 cap2 : Nat) (ao3 : Option Addr) (n3 cap3 : Nat) (a4 : Option Addr) (n4 c4 : Nat) (Ls : List ((Int × Int) × (Int × Int))) (Hs : List (ByteArray × (Int × Int))) (Ts : List (List Ru)) (l : List Op8) (m : ByteArray) (h : Int) (w : World)
    (hL : GS lnkE w (.slice ao n1 cap) Ls) (hH : GS hstE w (.slice ao2 n2 cap2) Hs) (hT : TS w (.slice ao3 n3 cap3) Ts) (hl : GS opE w (.slice a4 n4 c4) l) :
    CallsIn Fence.wide n Try.prog 5 #[.agg #[.int .i64 S, .slice ao n1 cap, .slice ao2 n2 cap2, .slice ao3 n3 cap3], .slice a4 n4 c4, .string m, .int .i64 h] w fun e W' => ∃ a5 n5 c5, e = .returned (.tuple #[.slice a5 n5 c5, noV (snN S Ls Hs Ts l m h)]) ∧ FTs W' (.slice a5 n5 c5) (snL S Ls Hs Ts l m h) ∧ Below w.heap.size w W' := by
  have h1 : 1 ≤ n := by omega
  have h2 : 1 ≤ n - 1 - 1 := by omega
  have HLW : Hid (∀ W, Below w.heap.size w W → GS lnkE W (.slice ao n1 cap) Ls) := fun W hb => hL.later hb
  have HHW : Hid (∀ W, Below w.heap.size w W → GS hstE W (.slice ao2 n2 cap2) Hs) := fun W hb => hH.later hb
  have HTW : Hid (∀ W, Below w.heap.size w W → TS W (.slice ao3 n3 cap3) Ts) := fun W hb => hT.later hb
  have HlW : Hid (∀ W, Below w.heap.size w W → GS opE W (.slice a4 n4 c4) l) := fun W hb => hl.later hb
  have HTN : Hid (Ts.length = n3) := hT.len
  clear hL hH hT hl
  refine callsIn_of_wp_marks Try.func5 rfl trivial ?_ rfl
  simp only [Try.ntmps5, List.size_toArray, List.length_cons, List.length_nil, Nat.reduceAdd, Nat.reduceSub, Array.replicate_succ, Array.replicate_zero, List.push_toArray, List.append_toArray, List.nil_append, List.cons_append]
  gi_wp2_with fail
  have hA0 : Below w.heap.size w (w.alloc (Obj.cells #[.int .i64 S, .slice ao n1 cap, .slice ao2 n2 cap2, .slice ao3 n3 cap3] 28)) := (Below.refl _ w).alloc (Nat.le_refl _) _
  have hne := nebox_new w S (.slice ao n1 cap) (.slice ao2 n2 cap2) (.slice ao3 n3 cap3) 28
  obtain ⟨w0, hw0⟩ : ∃ W, w.alloc (Obj.cells #[.int .i64 S, .slice ao n1 cap, .slice ao2 n2 cap2, .slice ao3 n3 cap3] 28) = W := ⟨_, rfl⟩
  rw [hw0] at hA0 hne ⊢
  have HA0 : Hid (Below w.heap.size w w0) := hA0
  refine ⟨trivial, (callsIn_wide.2 (during_any S ao n1 cap ao2 n2 cap2 ao3 n3 cap3 a4 n4 c4 Ls Hs Ts l w0 (HLW.out _ hA0) (HHW.out _ hA0) (HTW.out _ hA0) (HlW.out _ hA0))).mono ?_⟩
  rintro e w1 ⟨p7, j7, e7, p8, j8, e8, rfl, hDu, hb1⟩
  have hB1 : Below w.heap.size w w1 := hA0.trans (hb1.mono hA0.size)
  have HNE1 : Hid (NeBox w1 w.heap.size S (.slice ao n1 cap) (.slice ao2 n2 cap2) (.slice ao3 n3 cap3)) := hne.later hb1
  have HB1 : Hid (Below w.heap.size w w1) := hB1
  obtain ⟨N, hN⟩ : ∃ N, N = cgN S Ls Hs Ts l := ⟨_, rfl⟩
  have HN : Hid (cgN S Ls Hs Ts l = N) := hN.symm
  rw [← hN] at hDu ⊢
  have HDU : Hid (DuQ N w1 0 (.slice p7 j7 e7) (.slice p8 j8 e8) Ls Hs Ts l n3) := hDu
  clear hne hA0 hb1 hB1 hw0 hDu hN HA0
  by_cases h0 : N = 0
  · subst h0
    rw [no_ok rfl]
    obtain ⟨b0, b1, b2, b3⟩ := HNE1.out
    have hlw : w.heap.size < w1.heap.size := World.block_lt_of_cell? _ _ b0
    have nw : w.heap.size ≠ w1.heap.size := by omega
    gi_wp2_with fail
    have hal1 : Below w1.heap.size w1 (w1.alloc (Obj.cells #[.slice p7 j7 e7, .slice p8 j8 e8] 61)) := (Below.refl _ _).alloc (Nat.le_refl _) _
    have hvc := vat_new w1 [.slice p7 j7 e7, .slice p8 j8 e8] 61
    obtain ⟨w2, hw2⟩ : ∃ W, w1.alloc (Obj.cells #[.slice p7 j7 e7, .slice p8 j8 e8] 61) = W := ⟨_, rfl⟩
    change VAt (w1.alloc (Obj.cells #[.slice p7 j7 e7, .slice p8 j8 e8] 61)) _ _ _ at hvc
    rw [hw2] at hal1 hvc ⊢
    obtain ⟨bc, hbc⟩ : ∃ bc, w1.heap.size = bc := ⟨_, rfl⟩
    rw [hbc] at hvc ⊢
    have HB2 : Hid (Below w.heap.size w w2) := HB1.out.trans (hal1.mono HB1.out.size)
    refine ⟨trivial, (callsIn_wide.2 (where_any S ao n1 cap ao2 n2 cap2 Ls Hs m w2 (HLW.out _ HB2.out) (HHW.out _ HB2.out))).mono ?_⟩
    rintro e w3 ⟨rfl, hb3⟩
    have HB3 : Hid (Below w.heap.size w w3) := HB2.out.trans (hb3.mono HB2.out.size)
    have hvc3 := hvc.later hb3
    have HD3 : Hid (LGs w3 0 (.slice p7 j7 e7) (lgF Ls Hs Ts) n3 ∧ LGs w3 0 (.slice p8 j8 e8) (lgF Ls Hs (caT Ts l)) n3) := by
      obtain ⟨g1, g2⟩ := HDU.out rfl
      exact ⟨(g1.later hal1).later hb3, (g2.later hal1).later hb3⟩
    obtain ⟨M, hM⟩ : ∃ M, M = weN S Ls Hs m := ⟨_, rfl⟩
    have HM : Hid (weN S Ls Hs m = M) := hM.symm
    obtain ⟨⟨y1, y2⟩, hy⟩ : ∃ y, y = weV S Ls Hs m := ⟨_, rfl⟩
    have HY : Hid (weV S Ls Hs m = (y1, y2)) := hy.symm
    rw [← hM, ← hy]
    dsimp only
    have c0 := hvc3 0 _ rfl
    have c1 := hvc3 1 _ rfl
    rw [Nat.zero_add] at c0 c1
    have hlc : bc < w3.heap.size := World.block_lt_of_cell? _ _ c0
    clear b0 b1 b2 b3 hlw nw hal1 hvc hvc3 hb3 hM hy hw2 hbc HNE1 HDU HB1
    by_cases hm0 : M = 0
    · subst hm0
      rw [no_ok rfl]
      have nc : bc ≠ w3.heap.size := by omega
      gi_wp2_with fail
      refine ⟨trivial, (callsIn_wide.2 (isHeader_any h _)).mono ?_⟩
      rintro e w4 ⟨rfl, rfl⟩
      cases hh : hdrB h with
      | false =>
        have HH0 : Hid (hdrB h = false) := hh
        clear hh
        gi_wp2
        obtain ⟨e1, e2⟩ := sn_3 HN.out HM.out HH0.out
        exact ⟨.tuple #[.slice none 0 0, .iface 67 (.int .i64 1)], by simp [results, Try.results5, go_sem], none, 0, 0, by rw [e1, no_ne (by decide)], by rw [e2]; exact ⟨[], GS.nil _, rfl, fun z hz => by cases hz⟩, HB3.out.trans (((Below.refl _ _).alloc (Nat.le_refl _) _).mono HB3.out.size)⟩
      | true =>
        have HH0 : Hid (hdrB h = true) := hh
        clear hh
        gi_wp2_with fail
        have hB : ∀ (W : World) (o : Obj), Below W.heap.size W (W.alloc o) := fun W o => (Below.refl _ _).alloc (Nat.le_refl _) _
        obtain ⟨wq, hwq⟩ : ∃ W, w3.alloc (Obj.cells #[.int .i64 y1, .int .i64 y2] 45) = W := ⟨_, rfl⟩
        have hbq : Below w3.heap.size w3 wq := by rw [← hwq]; exact hB _ _
        have hsq : wq.heap.size = w3.heap.size + 1 := by rw [← hwq]; simp
        rw [hwq, ← hsq]
        obtain ⟨q, hq⟩ : ∃ q, wq.heap.size = q := ⟨_, rfl⟩
        have HBQ : Hid (Below w.heap.size w wq) := HB3.out.trans (hbq.mono HB3.out.size)
        have HDQ : Hid (LGs wq 0 (.slice p7 j7 e7) (lgF Ls Hs Ts) n3 ∧ LGs wq 0 (.slice p8 j8 e8) (lgF Ls Hs (caT Ts l)) n3) := ⟨HD3.out.1.later hbq, HD3.out.2.later hbq⟩
        have HWQ : Hid (w.heap.size ≤ q) := by show _ ≤ _; rw [← hq]; exact HBQ.out.size
        clear hwq hbq hsq HD3 HB3 c0 c1 hlc nc
        refine ⟨trivial, (callsIn_wide.2 (fates_val (.slice p7 j7 e7) (.slice p8 j8 e8) y1 y2 h _)).mono ?_⟩
        rintro e w5 ⟨rfl, hw5⟩
        have hox := Boxed.new wq 36 (.slice none 0 0)
        obtain ⟨wr, hwr⟩ : ∃ W, wq.alloc (Obj.cells #[.slice none 0 0] 36) = W := ⟨_, rfl⟩
        have hbr : Below wq.heap.size wq wr := by rw [← hwr]; exact hB _ _
        have hsr : wr.heap.size = q + 1 := by rw [← hwr, World.size_alloc, hq]
        rw [hwr, hq] at hox
        rw [hwr] at hw5
        rw [hwr, hq, hsr]
        have hx1 := (vat_new wr [.slice p7 j7 e7, .slice p8 j8 e8] 61).later (hB (wr.alloc (.cells #[.slice p7 j7 e7, .slice p8 j8 e8] 61)) (.cells #[.int .i64 y1, .int .i64 y2, .int .i64 h] 55))
        have hx2 := vat_new (wr.alloc (.cells #[.slice p7 j7 e7, .slice p8 j8 e8] 61)) [.int .i64 y1, .int .i64 y2, .int .i64 h] 55
        rw [World.size_alloc] at hx2
        have hb5 : Below wr.heap.size wr w5 := by
          rw [hw5]
          exact ((Below.refl _ _).alloc (Nat.le_refl _) _).alloc (by simp) _
        have hs5 : w5.heap.size = q + 3 := by rw [hw5]; simp [hsr]
        change VAt ((wr.alloc (.cells #[.slice p7 j7 e7, .slice p8 j8 e8] 61)).alloc (.cells #[.int .i64 y1, .int .i64 y2, .int .i64 h] 55)) _ _ _ at hx1
        change VAt ((wr.alloc (.cells #[.slice p7 j7 e7, .slice p8 j8 e8] 61)).alloc (.cells #[.int .i64 y1, .int .i64 y2, .int .i64 h] 55)) _ _ _ at hx2
        rw [← hw5, hsr] at hx1 hx2
        obtain ⟨ht, hS, hA, hBs⟩ := cg_ok HN.out
        have hsp : spB S (y1, y2) = true := by rw [← HY.out]; exact we_sp ht HM.out
        obtain rfl : S = (n3 : Int) := by rw [← hS, HTN.out]
        have hm6 : n3 ≤ 6 := by have := (tp_0 ht).1; omega
        have hbq5 : Below wq.heap.size wq w5 := hbr.trans (hb5.mono hbr.size)
        have hit := fates2_it (.slice p7 j7 e7) (.slice p8 j8 e8) n3 Ls Hs Ts (caT Ts l) (q + 1) (q + 1 + 1) y1 y2 h wq w5 hbq5 (hx1 0 _ rfl) (hx1 1 _ rfl) (hx2 0 _ rfl) (hx2 1 _ rfl) (hx2 2 _ rfl) hm6 ht HDQ.out.1 HDQ.out.2 hsp HH0.out
        rw [hq] at hit
        obtain ⟨L, hLd⟩ : ∃ L, L = pwS Ls Hs Ts (caT Ts l) (y1, y2) h := ⟨_, rfl⟩
        rw [← hLd] at hit
        have HB5 : Hid (Below w.heap.size w w5) := HBQ.out.trans (hbq5.mono HBQ.out.size)
        have hbx : Boxed w5 q 36 (.slice none 0 0) := (hb5.block q (by omega)).trans hox
        have hsm : ∀ x ∈ L, x.2.1.size ≤ 1000000 ∧ x.2.2.length < 25 ∧ 0 < x.2.2.length := fun x hx => ps_small ht (by rw [hLd] at hx; exact hx)
        have HSM : Hid (∀ x ∈ L, x.2.1.size ≤ 1000000 ∧ x.2.2.length < 25 ∧ 0 < x.2.2.length) := hsm
        have HLL : Hid (L.length ≤ 16777216 ∧ 0 < L.length) := by
          show _ ∧ _
          rw [hLd]
          exact ⟨ps_le _ _, ps_some ht hA hBs hsp h⟩
        have HSO : Hid (∀ D : List Ft, D.Perm L → D.Pairwise (fun a b => faL b a = false) → D = seeL Ls Hs Ts (caT Ts l) (y1, y2) h) := fun D h1 h2 => ps_sorted ht hA hBs hsp h (by rw [← hLd]; exact h1) h2
        have HS5 : Hid (w5.heap.size = q + 3) := hs5
        clear hw5 hwr hLd hq hs5 hsr hx1 hx2 hox hbr hb5 hbq5 hsm hsp hA hBs hS ht hm6 hB
        gi_wp2_with fail
        refine wpIn_rangeFunc_itG h1 (gf := 24) (lb := #[.pointer (some ⟨q + 1, 0, none⟩), .pointer (some ⟨q + 1 + 1, 0, none⟩)]) rfl (enters_of Try.func24 (by kernel_rfl) rfl) (Vl := FtV) (n₁ := w5.heap.size) (n₀ := q) (L := L) (w0 := w5) hit (Below.refl _ _) (Nat.le_refl _) (by have := HS5.out; omega) (fun A args x hx => by obtain ⟨_, _, _, rfl, _⟩ := hx; rfl)
          (SeI w (w5.heap.size + 2) q L) (fun _ _ => False)
          (fun k X A h b hx => h.2.1 b hx)
          (fun k X A A' h hk => h.kb hk (.inl (by have := HS5.out; omega)) (fun b hb => .inl (by have := HWQ.out; have := HS5.out; omega)) (fun b hb => .inr hb))
          (fun c A A' h _ => h)
          ⟨HB5.out, fun b hb => hb.elim, .slice none 0 0, [], hbx, World.ownsRow_nil _ _ _ _, rfl, fun g e => (by cases e), fun z hz => (by cases hz)⟩ ?round ?done ?stop
        case round =>
          rintro l' k X Y x args W hl' hBW hI hLk ⟨ao5, nn, cap5, rfl, hG⟩ hY hnl
          obtain ⟨xa, xb, xl⟩ := x
          have hxm := HSM.out _ (List.mem_of_getElem? hLk)
          dsimp only at hG hxm
          have hkL : k < L.length := (List.getElem?_eq_some_iff.1 hLk).1
          gi_wp2
          refine ⟨(Kb.refl _ _).alloc _, fun W2 hk2 => ?_⟩
          have hs5 := HS5.out
          have hBA : Below W.heap.size W (W.alloc (Obj.cells #[.int .i64 xa, .string xb, .slice ao5 nn cap5] 43)) := (Below.refl _ _).alloc (Nat.le_refl _) _
          have hfb := fabox_new W xa xb (.slice ao5 nn cap5) 43
          have hnl2 : ∀ p u, (W.alloc (Obj.cells #[.int .i64 xa, .string xb, .slice ao5 nn cap5] 43)).cell? p = some u → p.block ≠ l' := by
            intro p u hp e
            have hlt : p.block < W.heap.size := by rw [e, hl']; omega
            have h := (hBA.cell (p := p) hlt).symm.trans hp
            rw [hnl p e] at h
            cases h
          have hG2 := (hG.later hBA).kb hk2 hnl2
          have hf2 : FaBox W2 W.heap.size xa xb (.slice ao5 nn cap5) := ⟨hk2.at hfb.1 (hnl2 _ _ hfb.1), hk2.at hfb.2.1 (hnl2 _ _ hfb.2.1), hk2.at hfb.2.2 (hnl2 _ _ hfb.2.2)⟩
          have hWW : W.heap.size < W2.heap.size := World.block_lt_of_cell? _ _ hf2.1
          have hX0 := hI.2.1
          have hI2 : SeI w (w5.heap.size + 2) q L k X W2 := (hI.kb (Kb.of_below hBA (fun b hb _ => hb) : Kb (fun _ => True) _ _) trivial (fun _ _ => trivial) (fun _ _ => trivial)).kb hk2 (by omega) (fun b hb => by have := HWQ.out; omega) (fun b hb => by have := (hX0 b hb).1; omega)
          obtain ⟨hBw, hXb, v, Z, hqb, hov, hmz, hvx, hzs⟩ := hI2
          have hlen : nn = xl.length := hG2.len.symm
          have hZk : Z.length ≤ 16777216 := by
            have h1 : (Z.map Prod.fst).length = (L.take k).length := by rw [hmz]
            have h2 := HLL.out.1
            rw [List.length_map, List.length_take] at h1
            omega
          obtain ⟨i0, hi, hz0, hz1, hz2⟩ := info_parts fate_info
          have H5 : Hid (∀ V, Below W2.heap.size W2 V → Calls Try.prog 12 #[.string xb] V fun e w' => e = .returned (.string xb) ∧ Below V.heap.size V w') := fun V _ => clone_any xb V hxm.1
          have H8 : Hid (∀ V, Below W2.heap.size W2 V → Calls Try.prog 13 #[.slice ao5 nn cap5] V fun e w' => ∃ (ya : Option Addr) (yn yc : Nat), e = .returned (.slice ya yn yc) ∧ w'.ownsRow V.heap.size 55 hopE.n (.slice ya yn yc) xl.length (cellsG hopE xl) ∧ Below V.heap.size V w') := fun V hb => (hclone_any ao5 nn cap5 xl V (hG2.later hb) (by omega) (by omega)).mono (by
            rintro e w' ⟨⟨ya, yn, yc⟩, rfl, h1, h2⟩
            exact ⟨ya, yn, yc, rfl, h1, h2⟩)
          have HQ : Hid (∀ V, Below W2.heap.size W2 V → V.cell? ⟨q, 0, none⟩ = some v) := fun V hb => cell_later hb hqb.cell
          have HFB : Hid (∀ V, Below W2.heap.size W2 V → V.cell? ⟨W.heap.size, 0, none⟩ = some (.int .i64 xa) ∧ V.cell? ⟨W.heap.size, 1, none⟩ = some (.string xb) ∧ V.cell? ⟨W.heap.size, 2, none⟩ = some (.slice ao5 nn cap5)) := fun V hb => hf2.later hb
          have HOV : Hid (∀ V, Below W2.heap.size W2 V → V.ownsRow (w5.heap.size + 2) 43 ftE.n v Z.length (cellsG ftE Z)) := fun V hb => own_below hov hb
          have HL1 : Hid (Z.length + 1 ≤ maxLen) := by show _ ≤ _; unfold maxLen; omega
          have HL2 : Hid ((Z.length + 1) * 48 ≤ 140737488355328) := by show _ ≤ _; omega
          have HBA : Hid (w5.heap.size + 2 ≤ W2.heap.size) := by show _ ≤ _; omega
          have HPUSH : Hid (∀ (V : World) (ya : Option Addr) (yn yc : Nat) (v9 : Value) (w9 : World), Below W2.heap.size W2 V → V.ownsRow W2.heap.size 55 hopE.n (.slice ya yn yc) xl.length (cellsG hopE xl) → w9.ownsRow (w5.heap.size + 2) 43 ftE.n v9 (Z ++ [((xa, xb, xl), (ya, yn, yc))]).length (cellsG ftE (Z ++ [((xa, xb, xl), (ya, yn, yc))])) → V.grownBy w9 v.ownBlock → (v9.ownBlock = v.ownBlock ∨ v9.ownBlock = some V.heap.size) →
              (Kb (fun b => b < q ∨ b = w5.heap.size ∨ b = l' ∨ Y b) W2 (w9.setCell ⟨q, 0, none⟩ v9) ∧ ∃ X', SeI w (w5.heap.size + 2) q L (k + 1) X' (w9.setCell ⟨q, 0, none⟩ v9) ∧ ∀ b, X' b → X b ∨ W.heap.size ≤ b) ∧
              ((w9.cell? ⟨W.heap.size, 0, none⟩ = some (.int .i64 xa) ∧ w9.cell? ⟨W.heap.size, 1, none⟩ = some (.string xb) ∧ w9.cell? ⟨W.heap.size, 2, none⟩ = some (.slice ao5 nn cap5)) ∧ ((w9.setCell ⟨q, 0, none⟩ v9).cell? ⟨W.heap.size, 0, none⟩ = some (.int .i64 xa) ∧ (w9.setCell ⟨q, 0, none⟩ v9).cell? ⟨W.heap.size, 1, none⟩ = some (.string xb) ∧ (w9.setCell ⟨q, 0, none⟩ v9).cell? ⟨W.heap.size, 2, none⟩ = some (.slice ao5 nn cap5))) ∧
              w9.cell? ⟨q, 0, none⟩ = some v ∧ w9.frozen? ⟨q, 0, none⟩ = false ∧ ∃ a9 n9 c9, v9 = .slice a9 n9 c9) := fun V ya yn yc v9 w9 hV hy h9 hg hb9 => by
            obtain ⟨⟨X', hs, hX'⟩, hkp⟩ := se_push hBw hXb hqb hov hmz hvx hzs (by omega) HWQ.out (by omega) (xa, xb, xl) hLk hV (ya, yn, yc) hy h9 hg hb9
            have hvW : ∀ g, v.ownBlock = some g → g < W.heap.size ∧ w5.heap.size + 2 ≤ g := fun g e => ⟨(hX0 g (hvx g e)).2, (hX0 g (hvx g e)).1⟩
            have k9 : Kb (fun b => b = q ∨ b = W.heap.size) W2 w9 := (Kb.of_below hV (fun b hb _ => hb)).grown hg (fun r er _ hp => by have := hvW r er; omega)
            have k10 : Kb (fun b => b = W.heap.size) W2 (w9.setCell ⟨q, 0, none⟩ v9) := (k9.mono (fun b _ e => .inr e)).setCell (q := ⟨q, 0, none⟩) (fun _ e => by have h1 : q = W.heap.size := e; omega) _
            have b9 : Boxed w9 q 36 v := k9.boxed hqb (.inl rfl)
            obtain ⟨a9, c9, e9⟩ := own_form h9
            refine ⟨⟨hkp _ (fun b hb => ?_), X', hs, fun b hb => (hX' b hb).imp id (fun h => by omega)⟩, ⟨⟨k9.at hf2.1 (.inr rfl), k9.at hf2.2.1 (.inr rfl), k9.at hf2.2.2 (.inr rfl)⟩, ⟨k10.at hf2.1 rfl, k10.at hf2.2.1 rfl, k10.at hf2.2.2 rfl⟩⟩, b9.cell, b9.frozen, a9, _, c9, e9⟩
            rcases hb with hb | hb | hb | hb
            · exact ⟨by omega, fun hx => by have := (hXb b hx).1; omega⟩
            · exact ⟨by omega, fun hx => by have := (hXb b hx).1; omega⟩
            · exact ⟨by omega, fun hx => by have := (hXb b hx).1; omega⟩
            · exact ⟨by have := (hY b hb).1; omega, (hY b hb).2⟩
          clear hs5 hG2 hI hG hxm hBA hfb hnl2 hX0 hBw hXb hqb hov hmz hvx hzs hlen hZk hk2 hY hnl hLk
          gi_wp2_with fail
          refine region_round (S := fun V => V.cell? ⟨W.heap.size, 0, none⟩ = some (.int .i64 xa) ∧ V.cell? ⟨W.heap.size, 1, none⟩ = some (.string xb) ∧ V.cell? ⟨W.heap.size, 2, none⟩ = some (.slice ao5 nn cap5)) (by kernel_rfl) (by kernel_rfl) hf2 (fun hHeld => ?_)
          refine wpAnyH_take (i := 1) (v := .pointer (some ⟨W.heap.size, 0, none⟩)) rfl (by kernel_rfl) (by kernel_rfl) (by kernel_rfl) (fun _ _ _ h => h) (Or.inl ⟨by rfl, ?_⟩) hHeld ?_
          · intro V hV; obtain ⟨v0, v1, v2⟩ := hV; go_simp
          try simp only [Act.put, List.setIfInBounds_toArray, List.set_cons_zero, List.set_cons_succ]
          refine wpAnyH_take (i := 2) (v := .int .i64 xa) rfl (by kernel_rfl) (by kernel_rfl) (by kernel_rfl) (fun _ _ _ h => h) (Or.inl ⟨by rfl, ?_⟩) hHeld ?_
          · intro V hV; obtain ⟨v0, v1, v2⟩ := hV; go_simp
          try simp only [Act.put, List.setIfInBounds_toArray, List.set_cons_zero, List.set_cons_succ]
          refine wpAnyH_take (i := 3) (v := .pointer (some ⟨W.heap.size, 1, none⟩)) rfl (by kernel_rfl) (by kernel_rfl) (by kernel_rfl) (fun _ _ _ h => h) (Or.inl ⟨by rfl, ?_⟩) hHeld ?_
          · intro V hV; obtain ⟨v0, v1, v2⟩ := hV; go_simp
          try simp only [Act.put, List.setIfInBounds_toArray, List.set_cons_zero, List.set_cons_succ]
          refine wpAnyH_take (i := 4) (v := .string xb) rfl (by kernel_rfl) (by kernel_rfl) (by kernel_rfl) (fun _ _ _ h => h) (Or.inl ⟨by rfl, ?_⟩) hHeld ?_
          · intro V hV; obtain ⟨v0, v1, v2⟩ := hV; go_simp
          try simp only [Act.put, List.setIfInBounds_toArray, List.set_cons_zero, List.set_cons_succ]
          refine wpAnyH_take (i := 6) (v := .pointer (some ⟨W.heap.size, 2, none⟩)) rfl (by kernel_rfl) (by kernel_rfl) (by kernel_rfl) (fun _ _ _ h => h) (Or.inl ⟨by rfl, ?_⟩) hHeld ?_
          · intro V hV; obtain ⟨v0, v1, v2⟩ := hV; go_simp
          try simp only [Act.put, List.setIfInBounds_toArray, List.set_cons_zero, List.set_cons_succ]
          refine wpAnyH_take (i := 7) (v := .slice ao5 nn cap5) rfl (by kernel_rfl) (by kernel_rfl) (by kernel_rfl) (fun _ _ _ h => h) (Or.inl ⟨by rfl, ?_⟩) hHeld ?_
          · intro V hV; obtain ⟨v0, v1, v2⟩ := hV; go_simp
          try simp only [Act.put, List.setIfInBounds_toArray, List.set_cons_zero, List.set_cons_succ]
          refine wpAnyH_ready (rs := [0, 5]) (by kernel_rfl) (by simp) ?_
          refine AllReadyH.cons rfl (fun K hK => ?_) (AllReadyH.cons rfl (fun K hK => ?_) AllReadyH.nil)
          · skip
            have cq := HQ.out _ (Below.drew (Below.refl _ _))
            go_simp
            refine hK.out _ _ hHeld (fun hHeld => ?_)
            clear hK K cq
            refine wpAnyH_ready (rs := [5]) (by kernel_rfl) (by simp) ?_
            refine AllReadyH.cons rfl (fun K hK => ?_) AllReadyH.nil
            go_simp
            refine (H5.out _ (Below.drew (Below.refl _ _))).mono ?_
            rintro e5 w6 ⟨rfl, hb6⟩
            have HB6 : Hid (Below W2.heap.size W2 w6) := bdrew hb6
            refine hK.out _ _ (HFB.out _ HB6.out) (fun hHeld => ?_)
            clear hK K hb6
            refine wpAnyH_ready (rs := [8]) (by kernel_rfl) (by simp) ?_
            refine AllReadyH.cons rfl (fun K hK => ?_) AllReadyH.nil
            go_simp
            refine (H8.out _ HB6.out).mono ?_
            rintro e5 w7 ⟨ya, yn, yc, rfl, ho7, hb7⟩
            have HB7 : Hid (Below W2.heap.size W2 w7) := HB6.out.trans (hb7.mono HB6.out.size)
            have HO7 : Hid (w7.ownsRow W2.heap.size 55 hopE.n (.slice ya yn yc) xl.length (cellsG hopE xl)) := own_mono ho7 HB6.out.size
            refine hK.out _ _ (HFB.out _ HB7.out) (fun hHeld => ?_)
            clear hK K hb7 ho7
            refine wpAnyH_take (i := 9) (v := .agg #[.int .i64 xa, .string xb, .slice ya yn yc]) rfl (by kernel_rfl) (by kernel_rfl) (by kernel_rfl) (fun _ _ _ h => h) (Or.inl ⟨by rfl, ?_⟩) hHeld ?_
            · intro V hV; go_simp
            try simp only [Act.put, List.setIfInBounds_toArray, List.set_cons_zero, List.set_cons_succ]
            refine wpAnyH_ready (rs := [10]) (by kernel_rfl) (by simp) ?_
            refine AllReadyH.cons rfl (fun K hK => ?_) AllReadyH.nil
            go_simp
            have hb8 : Below w7.heap.size w7 (w7.alloc (Obj.cells #[.int .i64 xa, .string xb, .slice ya yn yc] 43)) := (Below.refl _ _).alloc (Nat.le_refl _) _
            have HVA : Hid (VAt (w7.alloc (Obj.cells #[.int .i64 xa, .string xb, .slice ya yn yc] 43)) w7.heap.size 0 (ftE.c ((xa, xb, xl), (ya, yn, yc)))) := vat_new w7 [.int .i64 xa, .string xb, .slice ya yn yc] 43
            have HB8 : Hid (Below W2.heap.size W2 (w7.alloc (Obj.cells #[.int .i64 xa, .string xb, .slice ya yn yc] 43))) := HB7.out.trans (hb8.mono HB7.out.size)
            have HO8 : Hid ((w7.alloc (Obj.cells #[.int .i64 xa, .string xb, .slice ya yn yc] 43)).ownsRow W2.heap.size 55 hopE.n (.slice ya yn yc) xl.length (cellsG hopE xl)) := own_below HO7.out hb8
            refine hK.out _ _ (HFB.out _ HB8.out) (fun hHeld => ?_)
            clear hK K hb8
            refine wpAnyH_ready (rs := [11]) (by kernel_rfl) (by simp) ?_
            refine AllReadyH.cons rfl (fun K hK => ?_) AllReadyH.nil
            refine step_append_blk (E := ftE) _ (by rfl) _ _ 36 43 (by rfl) Try.underlying36 i0 (.agg #[.int .i64 0, .string ⟨#[]⟩, .slice none 0 0]) 48 hi hz0 hz1 hz2 rfl (w5.heap.size + 2) v (by rfl) Z (HOV.out _ HB8.out) w7.heap.size 0 1 (by rfl) ((xa, xb, xl), (ya, yn, yc)) HVA.out HL1.out HL2.out (Nat.le_trans HBA.out HB8.out.size) ?_
            intro v9 w9 ho9 hg9 hb9
            obtain ⟨HFIN9, HF9, hc9, hf9, ⟨a9, n9, c9, rfl⟩⟩ := HPUSH.out _ ya yn yc v9 w9 HB8.out HO8.out ho9 hg9 hb9
            refine hK.out _ _ HF9.1 (fun hHeld => ?_)
            clear hK K ho9 hg9 hb9
            refine wpAnyH_ready (rs := [12]) (by kernel_rfl) (by simp) ?_
            refine AllReadyH.cons rfl (fun K hK => ?_) AllReadyH.nil
            go_simp
            refine hK.out _ _ HF9.2 (fun hHeld => ?_)
            clear hK K
            refine wpAnyH_done (by kernel_rfl) ?_ _
            exact HFIN9
          · skip
            go_simp
            refine (H5.out _ (Below.drew (Below.refl _ _))).mono ?_
            rintro e5 w6 ⟨rfl, hb6⟩
            have HB6 : Hid (Below W2.heap.size W2 w6) := bdrew hb6
            refine hK.out _ _ (HFB.out _ HB6.out) (fun hHeld => ?_)
            clear hK K hb6
            refine wpAnyH_ready (rs := [0, 8]) (by kernel_rfl) (by simp) ?_
            refine AllReadyH.cons rfl (fun K hK => ?_) (AllReadyH.cons rfl (fun K hK => ?_) AllReadyH.nil)
            · skip
              have cq := HQ.out w6 HB6.out
              go_simp
              refine hK.out _ _ hHeld (fun hHeld => ?_)
              clear hK K cq
              refine wpAnyH_ready (rs := [8]) (by kernel_rfl) (by simp) ?_
              refine AllReadyH.cons rfl (fun K hK => ?_) AllReadyH.nil
              go_simp
              refine (H8.out _ HB6.out).mono ?_
              rintro e5 w7 ⟨ya, yn, yc, rfl, ho7, hb7⟩
              have HB7 : Hid (Below W2.heap.size W2 w7) := HB6.out.trans (hb7.mono HB6.out.size)
              have HO7 : Hid (w7.ownsRow W2.heap.size 55 hopE.n (.slice ya yn yc) xl.length (cellsG hopE xl)) := own_mono ho7 HB6.out.size
              refine hK.out _ _ (HFB.out _ HB7.out) (fun hHeld => ?_)
              clear hK K hb7 ho7
              refine wpAnyH_take (i := 9) (v := .agg #[.int .i64 xa, .string xb, .slice ya yn yc]) rfl (by kernel_rfl) (by kernel_rfl) (by kernel_rfl) (fun _ _ _ h => h) (Or.inl ⟨by rfl, ?_⟩) hHeld ?_
              · intro V hV; go_simp
              try simp only [Act.put, List.setIfInBounds_toArray, List.set_cons_zero, List.set_cons_succ]
              refine wpAnyH_ready (rs := [10]) (by kernel_rfl) (by simp) ?_
              refine AllReadyH.cons rfl (fun K hK => ?_) AllReadyH.nil
              go_simp
              have hb8 : Below w7.heap.size w7 (w7.alloc (Obj.cells #[.int .i64 xa, .string xb, .slice ya yn yc] 43)) := (Below.refl _ _).alloc (Nat.le_refl _) _
              have HVA : Hid (VAt (w7.alloc (Obj.cells #[.int .i64 xa, .string xb, .slice ya yn yc] 43)) w7.heap.size 0 (ftE.c ((xa, xb, xl), (ya, yn, yc)))) := vat_new w7 [.int .i64 xa, .string xb, .slice ya yn yc] 43
              have HB8 : Hid (Below W2.heap.size W2 (w7.alloc (Obj.cells #[.int .i64 xa, .string xb, .slice ya yn yc] 43))) := HB7.out.trans (hb8.mono HB7.out.size)
              have HO8 : Hid ((w7.alloc (Obj.cells #[.int .i64 xa, .string xb, .slice ya yn yc] 43)).ownsRow W2.heap.size 55 hopE.n (.slice ya yn yc) xl.length (cellsG hopE xl)) := own_below HO7.out hb8
              refine hK.out _ _ (HFB.out _ HB8.out) (fun hHeld => ?_)
              clear hK K hb8
              refine wpAnyH_ready (rs := [11]) (by kernel_rfl) (by simp) ?_
              refine AllReadyH.cons rfl (fun K hK => ?_) AllReadyH.nil
              refine step_append_blk (E := ftE) _ (by rfl) _ _ 36 43 (by rfl) Try.underlying36 i0 (.agg #[.int .i64 0, .string ⟨#[]⟩, .slice none 0 0]) 48 hi hz0 hz1 hz2 rfl (w5.heap.size + 2) v (by rfl) Z (HOV.out _ HB8.out) w7.heap.size 0 1 (by rfl) ((xa, xb, xl), (ya, yn, yc)) HVA.out HL1.out HL2.out (Nat.le_trans HBA.out HB8.out.size) ?_
              intro v9 w9 ho9 hg9 hb9
              obtain ⟨HFIN9, HF9, hc9, hf9, ⟨a9, n9, c9, rfl⟩⟩ := HPUSH.out _ ya yn yc v9 w9 HB8.out HO8.out ho9 hg9 hb9
              refine hK.out _ _ HF9.1 (fun hHeld => ?_)
              clear hK K ho9 hg9 hb9
              refine wpAnyH_ready (rs := [12]) (by kernel_rfl) (by simp) ?_
              refine AllReadyH.cons rfl (fun K hK => ?_) AllReadyH.nil
              go_simp
              refine hK.out _ _ HF9.2 (fun hHeld => ?_)
              clear hK K
              refine wpAnyH_done (by kernel_rfl) ?_ _
              exact HFIN9
            · skip
              go_simp
              refine (H8.out _ HB6.out).mono ?_
              rintro e5 w7 ⟨ya, yn, yc, rfl, ho7, hb7⟩
              have HB7 : Hid (Below W2.heap.size W2 w7) := HB6.out.trans (hb7.mono HB6.out.size)
              have HO7 : Hid (w7.ownsRow W2.heap.size 55 hopE.n (.slice ya yn yc) xl.length (cellsG hopE xl)) := own_mono ho7 HB6.out.size
              refine hK.out _ _ (HFB.out _ HB7.out) (fun hHeld => ?_)
              clear hK K hb7 ho7
              refine wpAnyH_take (i := 9) (v := .agg #[.int .i64 xa, .string xb, .slice ya yn yc]) rfl (by kernel_rfl) (by kernel_rfl) (by kernel_rfl) (fun _ _ _ h => h) (Or.inl ⟨by rfl, ?_⟩) hHeld ?_
              · intro V hV; go_simp
              try simp only [Act.put, List.setIfInBounds_toArray, List.set_cons_zero, List.set_cons_succ]
              refine wpAnyH_ready (rs := [0, 10]) (by kernel_rfl) (by simp) ?_
              refine AllReadyH.cons rfl (fun K hK => ?_) (AllReadyH.cons rfl (fun K hK => ?_) AllReadyH.nil)
              · skip
                have cq := HQ.out w7 HB7.out
                go_simp
                refine hK.out _ _ hHeld (fun hHeld => ?_)
                clear hK K cq
                refine wpAnyH_ready (rs := [10]) (by kernel_rfl) (by simp) ?_
                refine AllReadyH.cons rfl (fun K hK => ?_) AllReadyH.nil
                go_simp
                have hb8 : Below w7.heap.size w7 (w7.alloc (Obj.cells #[.int .i64 xa, .string xb, .slice ya yn yc] 43)) := (Below.refl _ _).alloc (Nat.le_refl _) _
                have HVA : Hid (VAt (w7.alloc (Obj.cells #[.int .i64 xa, .string xb, .slice ya yn yc] 43)) w7.heap.size 0 (ftE.c ((xa, xb, xl), (ya, yn, yc)))) := vat_new w7 [.int .i64 xa, .string xb, .slice ya yn yc] 43
                have HB8 : Hid (Below W2.heap.size W2 (w7.alloc (Obj.cells #[.int .i64 xa, .string xb, .slice ya yn yc] 43))) := HB7.out.trans (hb8.mono HB7.out.size)
                have HO8 : Hid ((w7.alloc (Obj.cells #[.int .i64 xa, .string xb, .slice ya yn yc] 43)).ownsRow W2.heap.size 55 hopE.n (.slice ya yn yc) xl.length (cellsG hopE xl)) := own_below HO7.out hb8
                refine hK.out _ _ (HFB.out _ HB8.out) (fun hHeld => ?_)
                clear hK K hb8
                refine wpAnyH_ready (rs := [11]) (by kernel_rfl) (by simp) ?_
                refine AllReadyH.cons rfl (fun K hK => ?_) AllReadyH.nil
                refine step_append_blk (E := ftE) _ (by rfl) _ _ 36 43 (by rfl) Try.underlying36 i0 (.agg #[.int .i64 0, .string ⟨#[]⟩, .slice none 0 0]) 48 hi hz0 hz1 hz2 rfl (w5.heap.size + 2) v (by rfl) Z (HOV.out _ HB8.out) w7.heap.size 0 1 (by rfl) ((xa, xb, xl), (ya, yn, yc)) HVA.out HL1.out HL2.out (Nat.le_trans HBA.out HB8.out.size) ?_
                intro v9 w9 ho9 hg9 hb9
                obtain ⟨HFIN9, HF9, hc9, hf9, ⟨a9, n9, c9, rfl⟩⟩ := HPUSH.out _ ya yn yc v9 w9 HB8.out HO8.out ho9 hg9 hb9
                refine hK.out _ _ HF9.1 (fun hHeld => ?_)
                clear hK K ho9 hg9 hb9
                refine wpAnyH_ready (rs := [12]) (by kernel_rfl) (by simp) ?_
                refine AllReadyH.cons rfl (fun K hK => ?_) AllReadyH.nil
                go_simp
                refine hK.out _ _ HF9.2 (fun hHeld => ?_)
                clear hK K
                refine wpAnyH_done (by kernel_rfl) ?_ _
                exact HFIN9
              · skip
                go_simp
                have hb8 : Below w7.heap.size w7 (w7.alloc (Obj.cells #[.int .i64 xa, .string xb, .slice ya yn yc] 43)) := (Below.refl _ _).alloc (Nat.le_refl _) _
                have HVA : Hid (VAt (w7.alloc (Obj.cells #[.int .i64 xa, .string xb, .slice ya yn yc] 43)) w7.heap.size 0 (ftE.c ((xa, xb, xl), (ya, yn, yc)))) := vat_new w7 [.int .i64 xa, .string xb, .slice ya yn yc] 43
                have HB8 : Hid (Below W2.heap.size W2 (w7.alloc (Obj.cells #[.int .i64 xa, .string xb, .slice ya yn yc] 43))) := HB7.out.trans (hb8.mono HB7.out.size)
                have HO8 : Hid ((w7.alloc (Obj.cells #[.int .i64 xa, .string xb, .slice ya yn yc] 43)).ownsRow W2.heap.size 55 hopE.n (.slice ya yn yc) xl.length (cellsG hopE xl)) := own_below HO7.out hb8
                refine hK.out _ _ (HFB.out _ HB8.out) (fun hHeld => ?_)
                clear hK K hb8
                refine wpAnyH_ready (rs := [0]) (by kernel_rfl) (by simp) ?_
                refine AllReadyH.cons rfl (fun K hK => ?_) AllReadyH.nil
                have cq := HQ.out _ HB8.out
                go_simp
                refine hK.out _ _ hHeld (fun hHeld => ?_)
                clear hK K cq
                refine wpAnyH_ready (rs := [11]) (by kernel_rfl) (by simp) ?_
                refine AllReadyH.cons rfl (fun K hK => ?_) AllReadyH.nil
                refine step_append_blk (E := ftE) _ (by rfl) _ _ 36 43 (by rfl) Try.underlying36 i0 (.agg #[.int .i64 0, .string ⟨#[]⟩, .slice none 0 0]) 48 hi hz0 hz1 hz2 rfl (w5.heap.size + 2) v (by rfl) Z (HOV.out _ HB8.out) w7.heap.size 0 1 (by rfl) ((xa, xb, xl), (ya, yn, yc)) HVA.out HL1.out HL2.out (Nat.le_trans HBA.out HB8.out.size) ?_
                intro v9 w9 ho9 hg9 hb9
                obtain ⟨HFIN9, HF9, hc9, hf9, ⟨a9, n9, c9, rfl⟩⟩ := HPUSH.out _ ya yn yc v9 w9 HB8.out HO8.out ho9 hg9 hb9
                refine hK.out _ _ HF9.1 (fun hHeld => ?_)
                clear hK K ho9 hg9 hb9
                refine wpAnyH_ready (rs := [12]) (by kernel_rfl) (by simp) ?_
                refine AllReadyH.cons rfl (fun K hK => ?_) AllReadyH.nil
                go_simp
                refine hK.out _ _ HF9.2 (fun hHeld => ?_)
                clear hK K
                refine wpAnyH_done (by kernel_rfl) ?_ _
                exact HFIN9
        case done =>
          rintro X W ⟨hBw, hXb, v, Z, hqb, hov, hmz, hvx, hzs⟩ hK
          rw [List.take_length] at hmz
          have hZL : Z.length = L.length := by rw [← hmz, List.length_map]
          have hL := HLL.out
          have hs5 := HS5.out
          rcases hov.2 with ⟨_, h0⟩ | ⟨g, capv, cur, rfl, hgB, _, _, _, _⟩
          · omega
          have hzz : ∀ z ∈ Z, ∀ W', Kb (fun b => b ≠ g) W W' → GS hopE W' (slV z.2) z.1.2.2 := fun z hz W' hk => own_GS (own_kb (hzs z hz).1 hk (fun b e => by
            rcases own_rows2 (hzs z hz).1 hov hf_ne with h | h
            · rw [h] at e; cases e
            · rw [e] at h
              exact fun e2 => h (by rw [e2]; rfl)))
          have HOV : Hid (W.ownsRow (w5.heap.size + 2) 43 ftE.n (.slice (some ⟨g, 0, none⟩) Z.length capv) Z.length (cellsG ftE Z)) := hov
          have HZZ : Hid (∀ z ∈ Z, ∀ W', Kb (fun b => b ≠ g) W W' → GS hopE W' (slV z.2) z.1.2.2) := hzz
          have HQB : Hid (Boxed W q 36 (.slice (some ⟨g, 0, none⟩) Z.length capv)) := hqb
          have HBw : Hid (Below w.heap.size w W) := hBw
          have HK : Hid (W.heap[w5.heap.size]? = some (.deferred (some []))) := hK
          have HG : Hid (w5.heap.size + 2 ≤ g) := hgB
          have HZL : Hid (Z.length ≤ 16777216) := by show _ ≤ _; omega
          have HMZ : Hid (Z.map Prod.fst = L) := hmz
          have cq := hqb.cell
          clear hBw hXb hqb hov hmz hvx hzs hK hZL hL hs5 hgB hzz
          gi_wp2_with fail
          refine ⟨trivial, (callsIn_wide.2 (sort_fates g capv _ _ Z W HOV.out HZZ.out HZL.out)).mono ?_⟩
          rintro e W6 ⟨rfl, ⟨D, hp, hd, hF⟩, hk6⟩
          have hs5 := HS5.out
          have hg2 := HG.out
          have hb6 : Boxed W6 q 36 (.slice (some ⟨g, 0, none⟩) Z.length capv) := hk6.boxed HQB.out (by omega)
          have hK6 : W6.heap[w5.heap.size]? = some (.deferred (some [])) := (hk6.block _ (Array.getElem?_eq_some_iff.1 HK.out).1 (by omega)).trans HK.out
          have HK6 : Hid (W6.heap[w5.heap.size]? = some (.deferred (some []))) := hK6
          have HF : Hid (FTs W6 (.slice (some ⟨g, 0, none⟩) Z.length capv) D) := hF
          have HB6 : Hid (Below w.heap.size w W6) := HBw.out.trans (hk6.below HBw.out.size (fun b hb => by have := HWQ.out; omega))
          have HD : Hid (D = seeL Ls Hs Ts (caT Ts l) (y1, y2) h) := HSO.out D (by rw [← HMZ.out]; exact hp) hd
          have cq6 := hb6.cell
          clear hs5 hg2 hb6 hK6 hF hk6 hp hd cq
          gi_wp2
          refine ⟨by simp, .inl ⟨_, _, rfl, run_takeDeferred HK6.out, ?_⟩⟩
          obtain ⟨e1, e2⟩ := sn_0 HN.out HM.out HH0.out
          refine ⟨.tuple #[.slice (some ⟨g, 0, none⟩) Z.length capv, .nilIface], by simp [results, Try.results5, go_sem], some ⟨g, 0, none⟩, Z.length, capv, by rw [e1, no_ok rfl], ?_, HB6.out.trans (belowK_b (w := w) (Nat.le_refl _) W6 _ _ _ (by have := HS5.out; have := HWQ.out; omega) HK6.out rfl rfl)⟩
          rw [e2, HY.out, ← HD.out]
          exact HF.out.shut HK6.out _
        case stop =>
          rintro c W h _
          exact h.elim
    · rw [no_ne hm0]
      have HMZ : Hid (M ≠ 0) := hm0
      clear hm0
      gi_wp2
      obtain ⟨e1, e2⟩ := sn_2 (h := h) HN.out (by rw [HM.out]; exact HMZ.out)
      exact ⟨.tuple #[.slice none 0 0, .iface 67 (.int .i64 M)], by simp [results, Try.results5, go_sem], none, 0, 0, by rw [e1, HM.out, no_ne HMZ.out], by rw [e2]; exact ⟨[], GS.nil _, rfl, fun z hz => by cases hz⟩, HB3.out.trans (((Below.refl _ _).alloc (Nat.le_refl _) _).mono HB3.out.size)⟩
  · rw [no_ne h0]
    have HNZ : Hid (N ≠ 0) := h0
    clear h0
    gi_wp2
    obtain ⟨e1, e2⟩ := sn_1 (m := m) (h := h) (by rw [HN.out]; exact HNZ.out)
    exact ⟨.tuple #[.slice none 0 0, .iface 67 (.int .i64 N)], by simp [results, Try.results5, go_sem], none, 0, 0, by rw [e1, HN.out, no_ne HNZ.out], by rw [e2]; exact ⟨[], GS.nil _, rfl, fun z hz => by cases hz⟩, HB1.out.trans (((Below.refl _ _).alloc (Nat.le_refl _) _).mono HB1.out.size)⟩
theorem seen_any (S : Int) (ao : Option Addr) (n1 cap : Nat) (ao2 : Option Addr) (n2 cap2 : Nat) (ao3 : Option Addr) (n3 cap3 : Nat) (a4 : Option Addr) (n4 c4 : Nat) (Ls : List ((Int × Int) × (Int × Int))) (Hs : List (ByteArray × (Int × Int))) (Ts : List (List Ru)) (l : List Op8) (m : ByteArray) (h : Int) (w : World)
    (hL : GS lnkE w (.slice ao n1 cap) Ls) (hH : GS hstE w (.slice ao2 n2 cap2) Hs) (hT : TS w (.slice ao3 n3 cap3) Ts) (hl : GS opE w (.slice a4 n4 c4) l) :
    Calls Try.prog 5 #[.agg #[.int .i64 S, .slice ao n1 cap, .slice ao2 n2 cap2, .slice ao3 n3 cap3], .slice a4 n4 c4, .string m, .int .i64 h] w fun e W' => ∃ a5 n5 c5, e = .returned (.tuple #[.slice a5 n5 c5, noV (snN S Ls Hs Ts l m h)]) ∧ FTs W' (.slice a5 n5 c5) (snL S Ls Hs Ts l m h) ∧ Below w.heap.size w W' :=
  (callsIn_wide (n := 4)).1 (seen_in 4 (by omega) S ao n1 cap ao2 n2 cap2 ao3 n3 cap3 a4 n4 c4 Ls Hs Ts l m h w hL hH hT hl)
end Go.Proofs.Ytmpjoepfgfbjmaa
/- As MixMath4, where a switch's number is 1 at least. No program in it. -/
namespace Go.Proofs.Ytmpjoepfgfbjmaa
open Go.RowKit
set_option linter.unusedSimpArgs false
set_option linter.unusedVariables false
section
variable {S : Int} {Ls : List ((Int × Int) × (Int × Int))} {Hs : List (ByteArray × (Int × Int))} {As Bs : List (List Ru)}
theorem la_app2 (l : List ((Int × Int) × Int)) (p : (Int × Int) × Int) : laH (l ++ [p]) = p := by simp [laH, List.getD]
theorem go_one (ht : tpN S Ls Hs = 0) {t : List Ru} {l : List ((Int × Int) × Int)} {p q : (Int × Int) × Int} (h : goE Ls Hs t l p = .inr q) : 1 ≤ q.1.1 := by
  unfold goE at h
  cases h1 : stT t p with
  | none => rw [h1] at h; cases h
  | some r =>
    rw [h1] at h
    simp only at h
    cases h2 : atO Hs r.1 with
    | some m => rw [h2] at h; cases h
    | none =>
      rw [h2] at h
      simp only at h
      cases h3 : peerO Ls r.1 with
      | none => rw [h3] at h; cases h
      | some s =>
        rw [h3] at h
        simp only at h
        split at h
        · cases h
        · cases h
          exact (sp_of (peer_sp ht h3)).1
variable {s0 : Int}
/-- Behind the new table there is no choice. -/
theorem wk_new1 (ht : tpN S Ls Hs = 0) (h0 : chB As Bs s0 = true) (hc : ∀ s, 1 ≤ s → s ≠ s0 → chB As Bs s = false) : ∀ (n : Nat) (l : List ((Int × Int) × Int)), l.length + n = 25 → 1 ≤ n → 1 ≤ (laH l).1.1 → ∃ f, ∀ a, wkL Ls Hs As Bs n l [s0] a = puR faL f a
  | 0, l, h1, h2, hp => by omega
  | n + 1, l, h1, h2, hp => by
    have on : ∀ (t : List Ru), ∃ f, ∀ a, onL (fun l' a' => wkL Ls Hs As Bs n l' [s0] a') l a (goE Ls Hs t l (laH l)) = puR faL f a := by
      intro t
      cases hg : goE Ls Hs t l (laH l) with
      | inl e => exact ⟨_, fun a => rfl⟩
      | inr p =>
        have h24 := go_24 hg
        exact wk_new1 ht h0 hc n (l ++ [p]) (by simp; omega) (by omega) (by rw [la_app2]; exact go_one ht hg)
    by_cases hs : (laH l).1.1 = s0
    · obtain ⟨f, hf⟩ := on (taT Bs s0)
      refine ⟨f, fun a => ?_⟩
      rw [wkL, hs, if_pos h0]
      simp only [List.mem_singleton, if_true]
      exact hf a
    · obtain ⟨f, hf⟩ := on (taT As (laH l).1.1)
      refine ⟨f, fun a => ?_⟩
      rw [wkL, hc _ hp hs]
      simp only [Bool.false_eq_true, if_false, List.mem_singleton, hs]
      exact hf a
/-- Nor behind the old one, if that switch is not met again. -/
theorem wk_old1 (ht : tpN S Ls Hs = 0) (h0 : chB As Bs s0 = true) (hc : ∀ s, 1 ≤ s → s ≠ s0 → chB As Bs s = false) : ∀ (n : Nat) (l : List ((Int × Int) × Int)) (p : (Int × Int) × Int), (l ++ [p]).length + n = 25 → 1 ≤ n → 1 ≤ p.1.1 → 1 ≤ cnS s0 l → (∀ x ∈ wkL Ls Hs As Bs n (l ++ [p]) [] [], cnS s0 x.2.2 ≤ 1) → ∃ f, ∀ a, wkL Ls Hs As Bs n (l ++ [p]) [] a = puR faL f a
  | 0, l, p, h1, h2, hp, h3, h4 => by omega
  | n + 1, l, p, h1, h2, hp, h3, h4 => by
    have hla : laH (l ++ [p]) = p := by simp [laH, List.getD]
    have hs : ¬ p.1.1 = s0 := by
      intro e
      obtain ⟨x, hx⟩ := wk_some (Ls := Ls) (Hs := Hs) (As := As) (Bs := Bs) (n + 1) (l ++ [p]) [] h1 h2 (fun s h => absurd h List.not_mem_nil)
      have q1 := h4 x hx
      have q2 := cn_pre (s := s0) (wk_pre _ _ _ _ hx)
      rw [cn_app, if_pos e] at q2
      omega
    have ew : ∀ a, wkL Ls Hs As Bs (n + 1) (l ++ [p]) [] a = onL (fun l' a' => wkL Ls Hs As Bs n l' [] a') (l ++ [p]) a (goE Ls Hs (taT As p.1.1) (l ++ [p]) p) := by
      intro a
      rw [wkL, hla, hc _ hp hs]
      simp only [Bool.false_eq_true, if_false, List.not_mem_nil]
    cases hg : goE Ls Hs (taT As p.1.1) (l ++ [p]) p with
    | inl e =>
      refine ⟨(e.1, e.2, l ++ [p]), fun a => ?_⟩
      rw [ew, hg]
      rfl
    | inr q =>
      have h24 := go_24 hg
      have h5 : ∀ x ∈ wkL Ls Hs As Bs n (l ++ [p] ++ [q]) [] [], cnS s0 x.2.2 ≤ 1 := by
        intro x hx
        refine h4 x ?_
        rw [ew, hg]
        exact hx
      obtain ⟨f, hf⟩ := wk_old1 ht h0 hc n (l ++ [p]) q (by simp at h1 h24 ⊢; omega) (by simp at h1 h24; omega) (go_one ht hg) (by rw [cn_app]; omega) h5
      refine ⟨f, fun a => ?_⟩
      rw [ew, hg]
      exact hf a
/-- TWO AT MOST. -/
theorem wk_two1 (ht : tpN S Ls Hs = 0) (h0 : chB As Bs s0 = true) (hc : ∀ s, 1 ≤ s → s ≠ s0 → chB As Bs s = false) : ∀ (n : Nat) (l : List ((Int × Int) × Int)) (p : (Int × Int) × Int), (l ++ [p]).length + n = 25 → 1 ≤ n → 1 ≤ p.1.1 → (∀ x ∈ wkL Ls Hs As Bs n (l ++ [p]) [] [], cnS s0 x.2.2 ≤ 1) → (wkL Ls Hs As Bs n (l ++ [p]) [] []).length ≤ 2
  | 0, l, p, h1, h2, hp, h4 => by omega
  | n + 1, l, p, h1, h2, hp, h4 => by
    have hla : laH (l ++ [p]) = p := by simp [laH, List.getD]
    by_cases hs : p.1.1 = s0
    · have ew : wkL Ls Hs As Bs (n + 1) (l ++ [p]) [] [] = onL (fun l' a' => wkL Ls Hs As Bs n l' [s0] a') (l ++ [p]) (onL (fun l' a' => wkL Ls Hs As Bs n l' [] a') (l ++ [p]) [] (goE Ls Hs (taT As s0) (l ++ [p]) p)) (goE Ls Hs (taT Bs s0) (l ++ [p]) p) := by
        rw [wkL, hla, hs, if_pos h0]
        simp only [List.not_mem_nil, if_false, List.nil_append]
      have hold : (onL (fun l' a' => wkL Ls Hs As Bs n l' [] a') (l ++ [p]) [] (goE Ls Hs (taT As s0) (l ++ [p]) p)).length ≤ 1 := by
        cases hg : goE Ls Hs (taT As s0) (l ++ [p]) p with
        | inl e => simp [onL, puR]
        | inr q =>
          have h24 := go_24 hg
          have h5 : ∀ x ∈ wkL Ls Hs As Bs n (l ++ [p] ++ [q]) [] [], cnS s0 x.2.2 ≤ 1 := by
            intro x hx
            refine h4 x ?_
            rw [ew, hg]
            exact (on_mem (fun l' a x => wk_mem n l' _ a x) _ _ _ _).2 (.inl hx)
          obtain ⟨f, hf⟩ := wk_old1 ht h0 hc n (l ++ [p]) q (by simp at h1 h24 ⊢; omega) (by simp at h1 h24; omega) (go_one ht hg) (by rw [cn_app, if_pos hs]; omega) h5
          show (wkL Ls Hs As Bs n (l ++ [p] ++ [q]) [] []).length ≤ 1
          rw [hf]
          simp [puR]
      rw [ew]
      generalize onL (fun l' a' => wkL Ls Hs As Bs n l' [] a') (l ++ [p]) [] (goE Ls Hs (taT As s0) (l ++ [p]) p) = O at hold
      cases hg : goE Ls Hs (taT Bs s0) (l ++ [p]) p with
      | inl e =>
        have := pu_len (r := faL) (e.1, e.2, l ++ [p]) O
        show (puR faL _ O).length ≤ 2
        omega
      | inr q =>
        have h24 := go_24 hg
        obtain ⟨f, hf⟩ := wk_new1 (Ls := Ls) (Hs := Hs) ht h0 hc n (l ++ [p] ++ [q]) (by simp at h1 h24 ⊢; omega) (by simp at h1 h24; omega) (by rw [la_app2]; exact go_one ht hg)
        show (wkL Ls Hs As Bs n (l ++ [p] ++ [q]) [s0] O).length ≤ 2
        rw [hf]
        have := pu_len (r := faL) f O
        omega
    · have ew : wkL Ls Hs As Bs (n + 1) (l ++ [p]) [] [] = onL (fun l' a' => wkL Ls Hs As Bs n l' [] a') (l ++ [p]) [] (goE Ls Hs (taT As p.1.1) (l ++ [p]) p) := by
        rw [wkL, hla, hc _ hp hs]
        simp only [Bool.false_eq_true, if_false, List.not_mem_nil]
      cases hg : goE Ls Hs (taT As p.1.1) (l ++ [p]) p with
      | inl e => rw [ew, hg]; simp [onL, puR]
      | inr q =>
        have h24 := go_24 hg
        have h5 : ∀ x ∈ wkL Ls Hs As Bs n (l ++ [p] ++ [q]) [] [], cnS s0 x.2.2 ≤ 1 := by
          intro x hx
          refine h4 x ?_
          rw [ew, hg]
          exact hx
        rw [ew, hg]
        exact wk_two1 ht h0 hc n (l ++ [p]) q (by simp at h1 h24 ⊢; omega) (by simp at h1 h24; omega) (go_one ht hg) h5
end
end Go.Proofs.Ytmpjoepfgfbjmaa
/- With no ops one fate is seen; with one op of one switch, that each fate meets once at most, two at most. No program in it. -/
namespace Go.Proofs.Ytmpjoepfgfbjmaa
open Go.RowKit
set_option linter.unusedSimpArgs false
set_option linter.unusedVariables false
theorem in_self (L : List Ru) : ∀ r ∈ L, inB L r = true := fun r hr => List.any_eq_true.2 ⟨r, hr, eq_rf r⟩
theorem bey_self (L : List Ru) : bey L L = [] := by
  unfold bey
  rw [List.filter_eq_nil_iff]
  intro r hr
  simp [in_self L r hr]
theorem ch_eq {As Bs : List (List Ru)} {s : Int} (h : taT Bs s = taT As s) : chB As Bs s = false := by
  unfold chB
  rw [h, bey_self]
  rfl
section
variable {S : Int} {Ls : List ((Int × Int) × (Int × Int))} {Hs : List (ByteArray × (Int × Int))} {Ts : List (List Ru)} {l : List Op8} {m : ByteArray} {h : Int}
theorem sn_parts (h0 : snN S Ls Hs Ts l m h = 0) : cgN S Ls Hs Ts l = 0 ∧ weN S Ls Hs m = 0 ∧ hdrB h = true := by
  by_cases e1 : cgN S Ls Hs Ts l = 0
  · by_cases e2 : weN S Ls Hs m = 0
    · cases e3 : hdrB h
      · rw [(sn_3 e1 e2 e3).1] at h0; cases h0
      · exact ⟨e1, e2, rfl⟩
    · rw [(sn_2 e1 e2).1] at h0
      exact absurd h0 e2
  · rw [(sn_1 e1).1] at h0
    exact absurd h0 e1
/-- NO CHOICE. -/
theorem few_one (h0 : snN S Ls Hs Ts [] m h = 0) : seN S Ls Hs Ts m h = 0 ∧ snL S Ls Hs Ts [] m h = [seV S Ls Hs Ts m h] := by
  obtain ⟨e1, e2, e3⟩ := sn_parts h0
  have e4 : seN S Ls Hs Ts m h = 0 := by
    unfold seN
    rw [if_pos (cg_nt e1).1, if_pos e2, e3]
    rfl
  refine ⟨e4, ?_⟩
  rw [(sn_0 e1 e2 e3).2]
  unfold seV
  rw [if_pos e4]
  exact see_same (fun s => ch_eq rfl) _ _
/-- NO MORE. -/
theorem few_two {s : Int} {r : Ru} (h0 : snN S Ls Hs Ts [⟨s, true, r⟩] m h = 0) : 1 ≤ (snL S Ls Hs Ts [⟨s, true, r⟩] m h).length ∧ ((∀ x ∈ snL S Ls Hs Ts [⟨s, true, r⟩] m h, cnS s x.2.2 ≤ 1) → (snL S Ls Hs Ts [⟨s, true, r⟩] m h).length ≤ 2) := by
  obtain ⟨e1, e2, e3⟩ := sn_parts h0
  obtain ⟨ht, hS, hA, hB⟩ := cg_ok e1
  have hsp := we_sp ht e2
  rw [(sn_0 e1 e2 e3).2]
  constructor
  · obtain ⟨x, hx⟩ := wk_some (Ls := Ls) (Hs := Hs) (As := Ts) (Bs := caT Ts [⟨s, true, r⟩]) 24 [(weV S Ls Hs m, h)] [] rfl (by omega) (by simp)
    exact List.length_pos_of_mem hx
  · intro hc
    have hw : swB S s = true := by
      have h1 := (cg_nt e1).2
      unfold caN at h1
      cases e : swB S s
      · rw [e] at h1; cases h1
      · rfl
    have hs1 : 1 ≤ s := by
      unfold swB at hw
      simp at hw
      omega
    have hoth : ∀ t, 1 ≤ t → t ≠ s → chB Ts (caT Ts [⟨s, true, r⟩]) t = false := by
      intro t ht1 hts
      refine ch_eq ?_
      unfold caT caT taT
      rw [List.getD_eq_getElem?_getD, List.getD_eq_getElem?_getD, List.getElem?_set_ne (by show (s - 1).toNat ≠ (t - 1).toNat; omega)]
      simp [List.getD]
    cases e : chB Ts (caT Ts [⟨s, true, r⟩]) s
    · have hall : ∀ t, chB Ts (caT Ts [⟨s, true, r⟩]) t = false := by
        intro t
        by_cases ht1 : 1 ≤ t
        · by_cases ets : t = s
          · rw [ets]; exact e
          · exact hoth t ht1 ets
        · have e1 : ∀ Us : List (List Ru), taT Us t = taT Us 1 := fun Us => by unfold taT; rw [show (t - 1).toNat = ((1 : Int) - 1).toNat by omega]
          have e2 : chB Ts (caT Ts [⟨s, true, r⟩]) 1 = false := by
            by_cases ets : (1 : Int) = s
            · rw [ets]; exact e
            · exact hoth 1 (by omega) ets
          unfold chB at e2 ⊢
          rw [e1, e1]
          exact e2
      have h2 : seeL Ls Hs Ts (caT Ts [⟨s, true, r⟩]) (weV S Ls Hs m) h = _ := see_same hall _ _
      rw [h2]
      simp
    · exact wk_two1 ht e hoth 24 [] (weV S Ls Hs m, h) rfl (by omega) (sp_of hsp).1 hc
end
/-- The net of one switch. -/
theorem one_few : ∀ k : Fin 16, cgN 1 [] (lnH 1) [[⟨1, 0, 0, 4, 0, 0⟩]] [] = 0 ∧ weN 1 [] (lnH 1) ⟨#[97]⟩ = 0 ∧ (frF [] (lnH 1) [[⟨1, 0, 0, 4, 0, 0⟩]] (weV 1 [] (lnH 1) ⟨#[97]⟩) (k.val : Int)).2.1 = ⟨#[98]⟩ := by decide +kernel
theorem one_seen {h : Int} (h1 : hdrB h = true) : snN 1 [] (lnH 1) [[⟨1, 0, 0, 4, 0, 0⟩]] [] ⟨#[97]⟩ h = 0 ∧ ∃ a L, snL 1 [] (lnH 1) [[⟨1, 0, 0, 4, 0, 0⟩]] [] ⟨#[97]⟩ h = [(a, ⟨#[98]⟩, L)] := by
  have h2 : 0 ≤ h ∧ h < 16 := by unfold hdrB at h1; simpa using h1
  obtain ⟨e1, e2, e3⟩ := one_few ⟨h.toNat, by omega⟩
  obtain ⟨s1, s2⟩ := sn_0 e1 e2 h1
  refine ⟨s1, ?_⟩
  rw [s2]
  simp only [caT]
  rw [see_same (fun s => ch_eq rfl)]
  have e4 : ((⟨h.toNat, by omega⟩ : Fin 16).val : Int) = h := by show (h.toNat : Int) = h; omega
  rw [e4] at e3
  exact ⟨_, _, by rw [← e3]⟩
theorem one_not {h : Int} (h1 : hdrB h = false) : snN 1 [] (lnH 1) [[⟨1, 0, 0, 4, 0, 0⟩]] [] ⟨#[97]⟩ h = 1 := by
  obtain ⟨e1, e2, e3⟩ := one_few ⟨0, by omega⟩
  exact (sn_3 e1 e2 h1).1
end Go.Proofs.Ytmpjoepfgfbjmaa
/- What railsame.Fate answers of two fates that are the same: a contract for the walks above it. -/
namespace Go.Proofs.Ytmpjoepfgfbjmaa
open Go.RowKit
set_option linter.unusedSimpArgs false
set_option linter.unusedVariables false

theorem fate_drewN (w : World) (n : Nat) : Below w.heap.size w (w.drewN n) := ⟨rfl, rfl, rfl, Nat.le_refl _, fun _ _ => rfl⟩
/-- Two fates in their boxes. -/
structure FT (w W : World) (V1 : Int) (V2 : ByteArray) (u v : Value) : Prop where
  below : Below w.heap.size w W
  a0 : W.cell? ⟨w.heap.size, 0, none⟩ = some (.int .i64 V1)
  a1 : W.cell? ⟨w.heap.size, 1, none⟩ = some (.string V2)
  a2 : W.cell? ⟨w.heap.size, 2, none⟩ = some u
  b0 : W.cell? ⟨w.heap.size + 1, 0, none⟩ = some (.int .i64 V1)
  b1 : W.cell? ⟨w.heap.size + 1, 1, none⟩ = some (.string V2)
  b2 : W.cell? ⟨w.heap.size + 1, 2, none⟩ = some v
theorem FT.later {w W W' : World} {V1 : Int} {V2 : ByteArray} {u v : Value} (h : FT w W V1 V2 u v) (hb : Below W.heap.size W W') : FT w W' V1 V2 u v :=
  ⟨h.below.trans (hb.mono h.below.size), cell_later hb h.a0, cell_later hb h.a1, cell_later hb h.a2, cell_later hb h.b0, cell_later hb h.b1, cell_later hb h.b2⟩
theorem ft_new (w : World) (V1 : Int) (V2 : ByteArray) (u v : Value) : FT w ((w.alloc (Obj.cells #[.int .i64 V1, .string V2, u] 43)).alloc (Obj.cells #[.int .i64 V1, .string V2, v] 43)) V1 V2 u v := by
  have e1 : (w.alloc (Obj.cells #[.int .i64 V1, .string V2, u] 43)).heap.size = w.heap.size + 1 := by simp
  have hb : ∀ (W : World) (o : Obj), Below W.heap.size W (W.alloc o) := fun W o => (Below.refl _ _).alloc (Nat.le_refl _) _
  have ha := (vat_new w [.int .i64 V1, .string V2, u] 43).later (hb _ (Obj.cells #[.int .i64 V1, .string V2, v] 43))
  have hs := vat_new (w.alloc (Obj.cells #[.int .i64 V1, .string V2, u] 43)) [.int .i64 V1, .string V2, v] 43
  rw [e1] at hs
  exact ⟨((Below.refl _ _).alloc (Nat.le_refl _) _).alloc (by rw [e1]; omega) _, ha 0 _ rfl, ha 1 _ rfl, ha 2 _ rfl, hs 0 _ rfl, hs 1 _ rfl, hs 2 _ rfl⟩

set_option maxHeartbeats 2000000 in
set_option maxRecDepth 100000 in
theorem fate_any (V1 : Int) (V2 : ByteArray) (ao : Option Addr) (n cap : Nat) (bo : Option Addr) (m cbp : Nat) (L : List ((Int × Int) × Int)) (w : World) (hn1000 : L.length ≤ 1000)
    (h1 : GS hopE w (.slice ao n cap) L) (h2 : GS hopE w (.slice bo m cbp) L) :
    Calls Try.prog 18 #[.agg #[.int .i64 V1, .string V2, .slice ao n cap], .agg #[.int .i64 V1, .string V2, .slice bo m cbp]] w fun e w' => e = .returned (.bool true) ∧ Below w.heap.size w w' := by
  have hn := h1.len
  have hm := h2.len
  obtain rfl : m = n := by omega
  obtain ⟨_, _, _, e1, _, _, _, ha⟩ := h1.form
  cases e1
  obtain ⟨_, _, _, e2, _, _, _, hb⟩ := h2.form
  cases e2
  have HN : Hid (L.length = m) := hn
  have HA : Hid (0 < m → ∃ g o, ao = some ⟨g, o, none⟩ ∧ GAt hopE w g o L ∧ cap ≤ maxLen) := ha
  have HB : Hid (0 < m → ∃ g o, bo = some ⟨g, o, none⟩ ∧ GAt hopE w g o L ∧ cbp ≤ maxLen) := hb
  have hm1000 : m ≤ 1000 := by omega
  have hX := ft_new w V1 V2 (.slice ao m cap) (.slice bo m cbp)
  obtain ⟨w0, hw0⟩ : ∃ W, (w.alloc (Obj.cells #[.int .i64 V1, .string V2, .slice ao m cap] 43)).alloc (Obj.cells #[.int .i64 V1, .string V2, .slice bo m cbp] 43) = W := ⟨_, rfl⟩
  rw [hw0] at hX
  have HX : Hid (FT w w0 V1 V2 (.slice ao m cap) (.slice bo m cbp)) := hX
  have HW0 : Hid ((w.alloc (Obj.cells #[.int .i64 V1, .string V2, .slice ao m cap] 43)).alloc (Obj.cells #[.int .i64 V1, .string V2, .slice bo m cbp] 43) = w0) := hw0
  clear hn hm h1 h2 ha hb hX hw0 hn1000
  go_enter Try.func18, Try.ntmps18
  go_upto_region 1 with fail
  rw [HW0.out]
  obtain ⟨_, a0, a1, a2, b0, b1, b2⟩ := HX.out
  go_wp2
  clear a0 a1 a2 b0 b1 b2
  go_loopw [5] (fun i wr => ∃ k : Nat, k ≤ m ∧ i = .int .i64 k ∧ FT w wr V1 V2 (.slice ao m cap) (.slice bo m cbp)) (fun i _ => m - (intOf i).toNat)
  case atStart => exact ⟨0, by omega, rfl, HX.out⟩
  case round =>
    obtain ⟨k, hk, rfl, hF⟩ := hrel
    have HF : Hid (FT w wr V1 V2 (.slice ao m cap) (.slice bo m cbp)) := hF
    obtain ⟨hB, a0, a1, a2, b0, b1, b2⟩ := hF
    have HBe : Hid (Below w.heap.size w wr) := hB
    by_cases hlt : k < m
    · obtain ⟨g, o, hao, hc, _⟩ := HA.out (by omega)
      subst hao
      obtain ⟨g', o', hbo, hd, _⟩ := HB.out (by omega)
      subst hbo
      obtain ⟨x0, x1, x2, hkl, hLk, c0, c1, c2⟩ := hop_at (hc.later hB) HN.out hlt
      obtain ⟨y0, y1, y2, hkl', hLk', d0, d1, d2⟩ := hop_at (hd.later hB) HN.out hlt
      rw [hLk] at hLk'
      cases hLk'
      have m1 : g < wr.heap.size := World.block_lt_of_cell? _ _ c0
      have m2 : g' < wr.heap.size := World.block_lt_of_cell? _ _ d0
      have m3 : w.heap.size < wr.heap.size := World.block_lt_of_cell? _ _ a0
      have m4 : w.heap.size + 1 < wr.heap.size := World.block_lt_of_cell? _ _ b0
      have kb0 : (0 : Int) ≤ (k : Int) := by omega
      have kb1 : (k : Int) < (m : Int) := by omega
      clear hc hd hLk hB
      go_wp2_with fail
      go_quiet (fail)
      go_wp2
      go_roundw
      case rel => exact ⟨k + 1, by omega, by go_num, HF.out.later (fate_drewN _ _)⟩
      case measure => simp [intOf]; omega
    · obtain rfl : k = m := by omega
      go_wp2
      go_ret
      exact ⟨rfl, HBe.out⟩
end Go.Proofs.Ytmpjoepfgfbjmaa
/- What railsame.Fates answers of two slices of fates that are the same: a contract for the walks above it. -/
namespace Go.Proofs.Ytmpjoepfgfbjmaa
open Go.RowKit
set_option linter.unusedSimpArgs false
set_option linter.unusedVariables false

theorem FTs.len {w : World} {ao : Option Addr} {n cap : Nat} {L : List Ft} (h : FTs w (.slice ao n cap) L) : L.length = n := by
  obtain ⟨Z, h1, h2, _⟩ := h
  rw [← h2, List.length_map]
  exact h1.len
theorem FTs.form {w : World} {v : Value} {L : List Ft} (h : FTs w v L) : ∃ ao n cap, v = .slice ao n cap ∧ L.length = n ∧ n ≤ maxLen ∧ n ≤ cap := by
  obtain ⟨Z, h1, h2, _⟩ := id h
  obtain ⟨ao, n, cap, rfl, _, h4, h5, _⟩ := h1.form
  exact ⟨ao, n, cap, rfl, h.len, h4, h5⟩
/-- The k-th of a slice of fates. -/
theorem FTs.at {w : World} {ao : Option Addr} {n cap : Nat} {L : List Ft} (h : FTs w (.slice ao n cap) L) {k : Nat} (hk : k < n) : ∃ (g o : Nat) (x : Ft) (a3 : Option Addr) (n3 c3 : Nat), ao = some ⟨g, o, none⟩ ∧ L[k]? = some x ∧ w.cell? ⟨g, o + k * 3, none⟩ = some (.int .i64 x.1) ∧ w.cell? ⟨g, o + k * 3 + 1, none⟩ = some (.string x.2.1) ∧ w.cell? ⟨g, o + k * 3 + 2, none⟩ = some (.slice a3 n3 c3) ∧ GS hopE w (.slice a3 n3 c3) x.2.2 := by
  obtain ⟨Z, h1, h2, h3⟩ := h
  obtain ⟨_, _, _, e, hn, _, _, ha⟩ := h1.form
  cases e
  obtain ⟨g, o, rfl, hG, _⟩ := ha (by omega)
  have hkZ : k < Z.length := by omega
  have hv := hG k hkZ
  refine ⟨g, o, Z[k].1, Z[k].2.1, Z[k].2.2.1, Z[k].2.2.2, rfl, ?_, hv 0 _ rfl, hv 1 _ rfl, hv 2 _ rfl, h3 _ (List.getElem_mem hkZ)⟩
  rw [← h2, List.getElem?_map, List.getElem?_eq_getElem hkZ]
  rfl
def CF2 (wr : World) (g q : Nat) (f p : Nat) (x : Ft) (a3 : Option Addr) (n3 c3 : Nat) (a4 : Option Addr) (n4 c4 : Nat) (w' : World) : Prop :=
  Below wr.heap.size wr w' ∧ w'.cell? ⟨g, q, none⟩ = some (.int .i64 x.1) ∧ w'.cell? ⟨g, q + 1, none⟩ = some (.string x.2.1) ∧ w'.cell? ⟨g, q + 2, none⟩ = some (.slice a3 n3 c3) ∧ w'.cell? ⟨f, p, none⟩ = some (.int .i64 x.1) ∧ w'.cell? ⟨f, p + 1, none⟩ = some (.string x.2.1) ∧ w'.cell? ⟨f, p + 2, none⟩ = some (.slice a4 n4 c4) ∧ GS hopE w' (.slice a3 n3 c3) x.2.2 ∧ GS hopE w' (.slice a4 n4 c4) x.2.2
theorem CF2.later {wr W W' : World} {g q f p : Nat} {x : Ft} {a3 : Option Addr} {n3 c3 : Nat} {a4 : Option Addr} {n4 c4 : Nat} (hb : Below W.heap.size W W') (h : CF2 wr g q f p x a3 n3 c3 a4 n4 c4 W) : CF2 wr g q f p x a3 n3 c3 a4 n4 c4 W' := by
  obtain ⟨h0, h1, h2, h3, h4, h5, h6, h7, h8⟩ := h
  exact ⟨h0.trans (hb.mono h0.size), cell_later hb h1, cell_later hb h2, cell_later hb h3, cell_later hb h4, cell_later hb h5, cell_later hb h6, h7.later hb, h8.later hb⟩
set_option maxHeartbeats 2000000 in
set_option maxRecDepth 100000 in
theorem smfates_any (ao bo : Option Addr) (n m c d : Nat) (L : List Ft) (w : World) (h1 : FTs w (.slice ao n c) L) (h2 : FTs w (.slice bo m d) L) (hs : ∀ x ∈ L, x.2.2.length ≤ 1000) :
    Calls Try.prog 7 #[.slice ao n c, .slice bo m d] w fun e w' => e = .returned (.bool true) ∧ Below w.heap.size w w' := by
  have hn := h1.len
  have hm := h2.len
  obtain ⟨_, _, _, e1, _, hn2, _⟩ := h1.form
  cases e1
  obtain rfl : m = n := by omega
  have HX : Hid (L.length = m) := hn
  have HA : Hid (FTs w (.slice ao m c) L) := h1
  have HB2 : Hid (FTs w (.slice bo m d) L) := h2
  have HS : Hid (∀ x ∈ L, x.2.2.length ≤ 1000) := hs
  unfold maxLen at hn2
  clear hn hm h1 h2 hs
  go_enter Try.func7, Try.ntmps7
  go_wp2
  go_loopw [5] (fun i wr => ∃ k : Nat, k ≤ m ∧ i = .int .i64 k ∧ Below w.heap.size w wr) (fun i _ => m - (intOf i).toNat)
  case atStart => exact ⟨0, by omega, rfl, Below.refl _ _⟩
  case round =>
    obtain ⟨k, hk, rfl, hB⟩ := hrel
    have HB : Hid (Below w.heap.size w wr) := hB
    by_cases hlt : k < m
    · obtain ⟨g, o, x, a3, n3, c3, hao, hx, r0, r1, r2, hG3⟩ := (HA.out.later hB).at hlt
      obtain ⟨f, q, y, a4, n4, c4, hbo, hy, s0, s1, s2, hG4⟩ := (HB2.out.later hB).at hlt
      rw [hx] at hy
      cases hy
      subst hao hbo
      have HSX : Hid (x.2.2.length ≤ 1000) := HS.out x (List.mem_of_getElem? hx)
      have HCL : Hid (CF2 wr g (o + k * 3) f (q + k * 3) x a3 n3 c3 a4 n4 c4 wr) := ⟨Below.refl _ _, r0, r1, r2, s0, s1, s2, hG3, hG4⟩
      have kb0 : (0 : Int) ≤ (k : Int) := by omega
      have kb1 : (k : Int) < (m : Int) := by omega
      clear hB r0 r1 r2 s0 s1 s2 hG3 hG4 hx
      go_upto_region 6 with fail
      refine wp_region_quiet (C := CF2 wr g (o + k * 3) f (q + k * 3) x a3 n3 c3 a4 n4 c4) (by kernel_rfl) (by kernel_rfl) (CF2.later (W := wr) (Below.drew (Below.refl _ _)) HCL.out) ?_
      simp only [List.toList_toArray]
      go_big_quiet_want
      refine quiet_val (v := .slice (some ⟨g, o, none⟩) m c) (fun w' hC => ?_) ?_
      · obtain ⟨z0, z1, z2, z3, z4, z5, z6, z7, z8⟩ := hC
        go_simp
      simp only [Act.put, List.setIfInBounds_toArray, List.set_cons_zero, List.set_cons_succ]
      go_big_quiet_on
      go_big_quiet_want
      refine quiet_val (v := .int .i64 (k : Int)) (fun w' hC => ?_) ?_
      · obtain ⟨z0, z1, z2, z3, z4, z5, z6, z7, z8⟩ := hC
        go_simp
      simp only [Act.put, List.setIfInBounds_toArray, List.set_cons_zero, List.set_cons_succ]
      go_big_quiet_on
      go_big_quiet_want
      refine quiet_val (v := .pointer (some ⟨g, o + k * 3, none⟩)) (fun w' hC => ?_) ?_
      · obtain ⟨z0, z1, z2, z3, z4, z5, z6, z7, z8⟩ := hC
        go_simp
      simp only [Act.put, List.setIfInBounds_toArray, List.set_cons_zero, List.set_cons_succ]
      go_big_quiet_on
      go_big_quiet_want
      refine quiet_val (v := .agg #[.int .i64 x.1, .string x.2.1, .slice a3 n3 c3]) (fun w' hC => ?_) ?_
      · obtain ⟨z0, z1, z2, z3, z4, z5, z6, z7, z8⟩ := hC
        go_simp
      simp only [Act.put, List.setIfInBounds_toArray, List.set_cons_zero, List.set_cons_succ]
      go_big_quiet_on
      go_big_quiet_want
      refine quiet_val (v := .slice (some ⟨f, q, none⟩) m d) (fun w' hC => ?_) ?_
      · obtain ⟨z0, z1, z2, z3, z4, z5, z6, z7, z8⟩ := hC
        go_simp
      simp only [Act.put, List.setIfInBounds_toArray, List.set_cons_zero, List.set_cons_succ]
      go_big_quiet_on
      go_big_quiet_want
      refine quiet_val (v := .int .i64 (k : Int)) (fun w' hC => ?_) ?_
      · obtain ⟨z0, z1, z2, z3, z4, z5, z6, z7, z8⟩ := hC
        go_simp
      simp only [Act.put, List.setIfInBounds_toArray, List.set_cons_zero, List.set_cons_succ]
      go_big_quiet_on
      go_big_quiet_want
      refine quiet_val (v := .pointer (some ⟨f, q + k * 3, none⟩)) (fun w' hC => ?_) ?_
      · obtain ⟨z0, z1, z2, z3, z4, z5, z6, z7, z8⟩ := hC
        go_simp
      simp only [Act.put, List.setIfInBounds_toArray, List.set_cons_zero, List.set_cons_succ]
      go_big_quiet_on
      go_big_quiet_want
      refine quiet_val (v := .agg #[.int .i64 x.1, .string x.2.1, .slice a4 n4 c4]) (fun w' hC => ?_) ?_
      · obtain ⟨z0, z1, z2, z3, z4, z5, z6, z7, z8⟩ := hC
        go_simp
      simp only [Act.put, List.setIfInBounds_toArray, List.set_cons_zero, List.set_cons_succ]
      go_big_quiet_on
      go_big_quiet_want
      refine quiet_call (f := 18) (args := #[.agg #[.int .i64 x.1, .string x.2.1, .slice a3 n3 c3], .agg #[.int .i64 x.1, .string x.2.1, .slice a4 n4 c4]]) (v := .bool true) (fun w' => ?_) (fun w' hC => (fate_any x.1 x.2.1 a3 n3 c3 a4 n4 c4 x.2.2 w' HSX.out hC.2.2.2.2.2.2.2.1 hC.2.2.2.2.2.2.2.2).mono (fun e w2 h2 => ⟨by rw [h2.1], CF2.later h2.2 hC⟩)) ?_
      · go_simp
      simp only [Act.put, List.setIfInBounds_toArray, List.set_cons_zero, List.set_cons_succ]
      go_big_quiet_on
      go_big_quiet_want
      refine quiet_val (v := .bool true) (fun w' hC => ?_) ?_
      · obtain ⟨z0, z1, z2, z3, z4, z5, z6, z7, z8⟩ := hC
        go_simp
      simp only [Act.put, List.setIfInBounds_toArray, List.set_cons_zero, List.set_cons_succ]
      go_big_quiet_on
      refine wpQuiet_nil ?_
      intro w' hC
      have HBY : Hid (Below wr.heap.size wr w') := hC.1
      clear hC
      go_wp2
      go_roundw
      case rel => exact ⟨k + 1, by omega, by go_num, HB.out.trans (HBY.out.mono HB.out.size)⟩
      case measure => simp [intOf]; omega
    · obtain rfl : k = m := by omega
      clear hB
      go_wp2
      go_ret
      exact ⟨rfl, HB.out⟩
end Go.Proofs.Ytmpjoepfgfbjmaa
/- What net.Send answers: a contract for the walks above it. -/
namespace Go.Proofs.Ytmpjoepfgfbjmaa
open Go.RowKit
set_option linter.unusedSimpArgs false
set_option linter.unusedVariables false

/-- The boxes: a net, the answer's. -/
structure VBox (w W : World) (S : Int) (v1 v2 v3 : Value) : Prop where
  below : Below w.heap.size w W
  n : NeBox W w.heap.size S v1 v2 v3
  r0 : W.cell? ⟨w.heap.size + 1, 0, none⟩ = some (.int .i64 0)
  r1 : W.cell? ⟨w.heap.size + 1, 1, none⟩ = some (.string ⟨#[]⟩)
  r2 : W.cell? ⟨w.heap.size + 1, 2, none⟩ = some (.slice none 0 0)
  f : ∀ i, W.frozen? ⟨w.heap.size + 1, i, none⟩ = false
theorem vbox_new (w : World) (S : Int) (v1 v2 v3 : Value) : VBox w ((w.alloc (Obj.cells #[.int .i64 S, v1, v2, v3] 28)).alloc (Obj.cells #[.int .i64 0, .string ⟨#[]⟩, .slice none 0 0] 43)) S v1 v2 v3 := by
  have e1 : (w.alloc (Obj.cells #[.int .i64 S, v1, v2, v3] 28)).heap.size = w.heap.size + 1 := by simp
  have hb : ∀ (W : World) (o : Obj), Below W.heap.size W (W.alloc o) := fun W o => (Below.refl _ _).alloc (Nat.le_refl _) _
  have hn := (nebox_new w S v1 v2 v3 28).later (hb _ (Obj.cells #[.int .i64 0, .string ⟨#[]⟩, .slice none 0 0] 43))
  have hB := ((Below.refl w.heap.size w).alloc (Nat.le_refl _) (Obj.cells #[.int .i64 S, v1, v2, v3] 28)).alloc (by rw [e1]; omega) (Obj.cells #[.int .i64 0, .string ⟨#[]⟩, .slice none 0 0] 43)
  generalize w.alloc (Obj.cells #[.int .i64 S, v1, v2, v3] 28) = X at e1 hn hB
  have hr := vat_new X [.int .i64 0, .string ⟨#[]⟩, .slice none 0 0] 43
  have hf := froz_new2 X #[.int .i64 0, .string ⟨#[]⟩, .slice none 0 0] 43
  rw [e1] at hr hf
  exact ⟨hB, hn, hr 0 _ rfl, hr 1 _ rfl, hr 2 _ rfl, hf⟩
theorem VBox.later {w W W' : World} {S : Int} {v1 v2 v3 : Value} (k : VBox w W S v1 v2 v3) (hb : Below W.heap.size W W') : VBox w W' S v1 v2 v3 :=
  ⟨k.below.trans (hb.mono k.below.size), k.n.later hb, cell_later hb k.r0, cell_later hb k.r1, cell_later hb k.r2, fun i => (hb.frozen (p := ⟨w.heap.size + 1, i, none⟩) (show (⟨w.heap.size + 1, 0, none⟩ : Addr).block < W.heap.size from World.block_lt_of_cell? W ⟨w.heap.size + 1, 0, none⟩ k.r0)).trans (k.f i)⟩
/-- No fate. -/
theorem own_none (W : World) (B : Nat) : W.ownsRow B 55 3 (.slice none 0 0) (zeF.2.2).length (cellsG hopE zeF.2.2) := World.ownsRow_nil _ _ _ _

set_option maxHeartbeats 4000000 in
set_option maxRecDepth 100000 in
theorem send_any (S : Int) (ao : Option Addr) (n cap : Nat) (ao2 : Option Addr) (n2 cap2 : Nat) (ao3 : Option Addr) (n3 cap3 : Nat) (Ls : List ((Int × Int) × (Int × Int))) (Hs : List (ByteArray × (Int × Int))) (Ts : List (List Ru)) (m : ByteArray) (h : Int) (w : World)
    (hL : GS lnkE w (.slice ao n cap) Ls) (hH : GS hstE w (.slice ao2 n2 cap2) Hs) (hT : TS w (.slice ao3 n3 cap3) Ts) :
    Calls Try.prog 6 #[.agg #[.int .i64 S, .slice ao n cap, .slice ao2 n2 cap2, .slice ao3 n3 cap3], .string m, .int .i64 h] w fun e w' => ∃ ao4 n4 cap4, e = .returned (.tuple #[.agg #[.int .i64 (seV S Ls Hs Ts m h).1, .string (seV S Ls Hs Ts m h).2.1, .slice ao4 n4 cap4], noV (seN S Ls Hs Ts m h)]) ∧ w'.ownsRow w.heap.size 55 3 (.slice ao4 n4 cap4) (seV S Ls Hs Ts m h).2.2.length (cellsG hopE (seV S Ls Hs Ts m h).2.2) ∧ Below w.heap.size w w' := by
  obtain ⟨R, hR⟩ : ∃ R, R = seN S Ls Hs Ts m h := ⟨_, rfl⟩
  obtain ⟨V, hV⟩ : ∃ V, V = seV S Ls Hs Ts m h := ⟨_, rfl⟩
  have HR : Hid (R = seN S Ls Hs Ts m h) := hR
  have HV : Hid (V = seV S Ls Hs Ts m h) := hV
  rw [← hR, ← hV]
  have HLW : Hid (∀ W, Below w.heap.size w W → GS lnkE W (.slice ao n cap) Ls) := fun W hb => hL.later hb
  have HHW : Hid (∀ W, Below w.heap.size w W → GS hstE W (.slice ao2 n2 cap2) Hs) := fun W hb => hH.later hb
  have HTW : Hid (∀ W, Below w.heap.size w W → TS W (.slice ao3 n3 cap3) Ts) := fun W hb => hT.later hb
  have hX := vbox_new w S (.slice ao n cap) (.slice ao2 n2 cap2) (.slice ao3 n3 cap3)
  obtain ⟨w0, hw0⟩ : ∃ W, (w.alloc (Obj.cells #[.int .i64 S, .slice ao n cap, .slice ao2 n2 cap2, .slice ao3 n3 cap3] 28)).alloc (Obj.cells #[.int .i64 0, .string ⟨#[]⟩, .slice none 0 0] 43) = W := ⟨_, rfl⟩
  rw [hw0] at hX
  have HX : Hid (VBox w w0 S (.slice ao n cap) (.slice ao2 n2 cap2) (.slice ao3 n3 cap3)) := hX
  have HW0 : Hid ((w.alloc (Obj.cells #[.int .i64 S, .slice ao n cap, .slice ao2 n2 cap2, .slice ao3 n3 cap3] 28)).alloc (Obj.cells #[.int .i64 0, .string ⟨#[]⟩, .slice none 0 0] 43) = w0) := hw0
  clear hL hH hT hR hV hX hw0
  go_enter Try.func6, Try.ntmps6
  go_upto_region 1 with fail
  rw [HW0.out]
  obtain ⟨_, ⟨b0, b1, b2, b3⟩, r0, r1, r2, f⟩ := HX.out
  clear HW0 f r0 r1 r2
  go_wp2_with fail
  refine (ncheck_any S ao n cap ao2 n2 cap2 ao3 n3 cap3 Ls Hs Ts _ (HLW.out _ HX.out.below) (HHW.out _ HX.out.below) (HTW.out _ HX.out.below)).mono ?_
  rintro e w1 ⟨rfl, hb1⟩
  obtain ⟨T, hT⟩ : ∃ T, T = ntN S Ls Hs Ts := ⟨_, rfl⟩
  have HT : Hid (T = ntN S Ls Hs Ts) := hT
  rw [← hT]
  have HX1 : Hid (VBox w w1 S (.slice ao n cap) (.slice ao2 n2 cap2) (.slice ao3 n3 cap3)) := HX.out.later hb1
  obtain ⟨hB1, ⟨b0, b1, b2, b3⟩, r0, r1, r2, f⟩ := HX1.out
  have HB1 : Hid (Below w.heap.size w w1) := hB1
  have f0 := f 0
  have f1 := f 1
  have f2 := f 2
  clear hT hb1 HX f hB1
  by_cases h0 : T = 0
  · have HN0 : Hid (ntN S Ls Hs Ts = 0) := HT.out.symm.trans h0
    subst h0
    rw [no_ok rfl]
    clear r0 r1 r2 f0 f1 f2
    go_wp2_with fail
    refine (where_any S ao n cap ao2 n2 cap2 Ls Hs m _ (HLW.out _ HX1.out.below) (HHW.out _ HX1.out.below)).mono ?_
    rintro e w2 ⟨rfl, hb2⟩
    obtain ⟨WN, hWN⟩ : ∃ q, q = weN S Ls Hs m := ⟨_, rfl⟩
    obtain ⟨X1, hX1⟩ : ∃ q, q = (weV S Ls Hs m).1 := ⟨_, rfl⟩
    obtain ⟨X2, hX2⟩ : ∃ q, q = (weV S Ls Hs m).2 := ⟨_, rfl⟩
    have HWN : Hid (WN = weN S Ls Hs m) := hWN
    have HXV : Hid (weV S Ls Hs m = (X1, X2)) := by
      show _ = _
      rw [hX1, hX2]
    rw [← hWN, ← hX1, ← hX2]
    have hal : Below w2.heap.size w2 (w2.alloc (Obj.cells #[.int .i64 X1, .int .i64 X2] 45)) := (Below.refl _ _).alloc (Nat.le_refl _) _
    have hXa := (HX1.out.later hb2).later hal
    have hva := vat_new w2 [.int .i64 X1, .int .i64 X2] 45
    obtain ⟨w3, hw3⟩ : ∃ W, w2.alloc (Obj.cells #[.int .i64 X1, .int .i64 X2] 45) = W := ⟨_, rfl⟩
    obtain ⟨g3, hg3⟩ : ∃ g, w2.heap.size = g := ⟨_, rfl⟩
    have hva2 : VAt w3 g3 0 [.int .i64 X1, .int .i64 X2] := by
      rw [← hw3, ← hg3]
      exact hva
    rw [hw3] at hXa
    have HX3 : Hid (VBox w w3 S (.slice ao n cap) (.slice ao2 n2 cap2) (.slice ao3 n3 cap3)) := hXa
    have HW3 : Hid (w2.alloc (Obj.cells #[.int .i64 X1, .int .i64 X2] 45) = w3) := hw3
    have HG3 : Hid (w2.heap.size = g3) := hg3
    have s0 : w3.cell? ⟨g3, 0, none⟩ = some (.int .i64 X1) := hva2 0 _ rfl
    have s1 : w3.cell? ⟨g3, 1, none⟩ = some (.int .i64 X2) := hva2 1 _ rfl
    obtain ⟨hB3, ⟨b0, b1, b2, b3⟩, r0, r1, r2, f⟩ := HX3.out
    have HB3 : Hid (Below w.heap.size w w3) := hB3
    have f0 := f 0
    have f1 := f 1
    have f2 := f 2
    clear hWN hX1 hX2 hb2 hal hXa hva hva2 hw3 hg3 hB3 f HX1 HB1
    go_upto_region 5 with fail
    rw [HW3.out, HG3.out]
    clear HW3 HG3
    by_cases h5 : WN = 0
    · have HW0 : Hid (weN S Ls Hs m = 0) := HWN.out.symm.trans h5
      subst h5
      rw [no_ok rfl]
      cases hh : hdrB h
      · have HR1 : Hid (R = 1) := by
          show _ = _
          rw [HR.out, seN, if_pos HN0.out, if_pos HW0.out, hh]
          rfl
        have HV1 : Hid (V = zeF) := by
          show _ = _
          rw [HV.out, seV, ← HR.out, HR1.out]
          rfl
        go_wp2_with fail
        refine (isHeader_any h _).mono ?_
        rintro e w4 ⟨rfl, hw4⟩
        subst hw4
        rw [hh]
        go_wp2
        refine bodyPost_ret (v := .tuple #[.agg #[.int .i64 0, .string ⟨#[]⟩, .slice none 0 0], .iface 67 (.int .i64 1)]) (by simp [results, Try.results6, go_sem, *]) rfl ⟨_, _, _, by rw [HR1.out, HV1.out]; rfl, by rw [HV1.out]; exact own_none _ _, below_put3 HB3.out _ (by omega) _ _ _⟩
      · have HR0 : Hid (R = 0) := by
          show _ = _
          rw [HR.out, seN, if_pos HN0.out, if_pos HW0.out, hh]
          rfl
        have HV0 : Hid (V = frF Ls Hs Ts (X1, X2) h) := by
          show _ = _
          rw [HV.out, seV, ← HR.out, HR0.out, if_pos rfl, HXV.out]
        have HSP : Hid (spB S (X1, X2) = true) := by
          show _ = _
          have ht := (nt_0 HN0.out).1
          have hw := HW0.out
          rw [weN, if_pos ht] at hw
          have hv := HXV.out
          rw [weV, HW0.out, if_pos rfl] at hv
          cases hp : whereO Hs m with
          | none => rw [hp] at hw; simp at hw
          | some p =>
            rw [hp, Option.getD_some] at hv
            rw [← hv]
            exact where_sp ht hp
        clear r0 r1 r2 f0 f1 f2
        go_wp2_with fail
        refine (isHeader_any h _).mono ?_
        rintro e w4 ⟨rfl, hw4⟩
        subst hw4
        rw [hh]
        go_wp2_with fail
        refine (follow_any S ao n cap ao2 n2 cap2 ao3 n3 cap3 Ls Hs Ts X1 X2 h _ (HLW.out _ HB3.out) (HHW.out _ HB3.out) (HTW.out _ HB3.out) HN0.out HSP.out).mono ?_
        rintro e w5 ⟨ao4, n4, cap4, rfl, hown, hb5⟩
        rw [← HV0.out] at hown
        rw [← HV0.out]
        have hsz : w.heap.size + 1 < w4.heap.size := World.block_lt_of_cell? _ _ HX3.out.r0
        have HOW : Hid (∀ u v x, (put3 w5 (w.heap.size + 1) u v x).ownsRow w.heap.size 55 3 (.slice ao4 n4 cap4) V.2.2.length (cellsG hopE V.2.2)) := fun u v x => own_mono (own_put3 hown _ hsz u v x) (by omega)
        have HX5 : Hid (VBox w w5 S (.slice ao n cap) (.slice ao2 n2 cap2) (.slice ao3 n3 cap3)) := HX3.out.later hb5
        obtain ⟨hB5, ⟨b0, b1, b2, b3⟩, r0, r1, r2, f⟩ := HX5.out
        have HB5 : Hid (Below w.heap.size w w5) := hB5
        have f0 := f 0
        have f1 := f 1
        have f2 := f 2
        obtain ⟨V1, hV1⟩ : ∃ q, q = V.1 := ⟨_, rfl⟩
        obtain ⟨V2, hV2⟩ : ∃ q, q = V.2.1 := ⟨_, rfl⟩
        have HVV : Hid (V.1 = V1 ∧ V.2.1 = V2) := ⟨hV1.symm, hV2.symm⟩
        rw [← hV1, ← hV2]
        clear hown hb5 hB5 f hV1 hV2
        go_wp2
        refine bodyPost_ret (v := .tuple #[.agg #[.int .i64 V1, .string V2, .slice ao4 n4 cap4], .nilIface]) (by simp [results, Try.results6, go_sem, *]) rfl ⟨ao4, n4, cap4, by rw [HR0.out, HVV.out.1, HVV.out.2]; rfl, HOW.out _ _ _, below_put3 HB5.out _ (by omega) _ _ _⟩
    · rw [no_ne h5]
      have HNE : Hid (WN ≠ 0) := h5
      have HR1 : Hid (R = WN) := by
        show _ = _
        rw [HR.out, seN, if_pos HN0.out, if_neg (by rw [← HWN.out]; exact h5), HWN.out]
      have HV1 : Hid (V = zeF) := by
        show _ = _
        rw [HV.out, seV, ← HR.out, HR1.out, if_neg h5]
      clear h5
      go_wp2
      refine bodyPost_ret (v := .tuple #[.agg #[.int .i64 0, .string ⟨#[]⟩, .slice none 0 0], .iface 67 (.int .i64 WN)]) (by simp [results, Try.results6, go_sem, *]) rfl ⟨_, _, _, by rw [HR1.out, HV1.out, no_ne HNE.out]; rfl, by rw [HV1.out]; exact own_none _ _, below_put3 HB3.out _ (by omega) _ _ _⟩
  · rw [no_ne h0]
    have HNE : Hid (T ≠ 0) := h0
    have HR1 : Hid (R = T) := by
      show _ = _
      rw [HR.out, seN, if_neg (by rw [← HT.out]; exact h0), HT.out]
    have HV1 : Hid (V = zeF) := by
      show _ = _
      rw [HV.out, seV, ← HR.out, HR1.out, if_neg h0]
    clear h0
    go_wp2
    refine bodyPost_ret (v := .tuple #[.agg #[.int .i64 0, .string ⟨#[]⟩, .slice none 0 0], .iface 67 (.int .i64 T)]) (by simp [results, Try.results6, go_sem, *]) rfl ⟨_, _, _, by rw [HR1.out, HV1.out, no_ne HNE.out]; rfl, by rw [HV1.out]; exact own_none _ _, below_put3 HB1.out _ (by omega) _ _ _⟩
end Go.Proofs.Ytmpjoepfgfbjmaa
/- Nets in boxes: what the laws of package change carry along. -/
namespace Go.Proofs.Ytmpjoepfgfbjmaa
open Go.RowKit
set_option linter.unusedSimpArgs false
set_option linter.unusedVariables false

/-- A net lies in these four cells. -/
structure BN (W : World) (b : Nat) (S : Int) (v1 v2 v3 : Value) (Ls : List ((Int × Int) × (Int × Int))) (Hs : List (ByteArray × (Int × Int))) (Ts : List (List Ru)) : Prop where
  c : NeBox W b S v1 v2 v3
  l : GS lnkE W v1 Ls
  h : GS hstE W v2 Hs
  t : TS W v3 Ts
theorem BN.later {W W' : World} {b : Nat} {S : Int} {v1 v2 v3 : Value} {Ls : List ((Int × Int) × (Int × Int))} {Hs : List (ByteArray × (Int × Int))} {Ts : List (List Ru)} (h : BN W b S v1 v2 v3 Ls Hs Ts) (hb : Below W.heap.size W W') : BN W' b S v1 v2 v3 Ls Hs Ts := ⟨h.c.later hb, h.l.later hb, h.h.later hb, h.t.later hb⟩
theorem BN.lt {W : World} {b : Nat} {S : Int} {v1 v2 v3 : Value} {Ls : List ((Int × Int) × (Int × Int))} {Hs : List (ByteArray × (Int × Int))} {Ts : List (List Ru)} (h : BN W b S v1 v2 v3 Ls Hs Ts) : b < W.heap.size := World.block_lt_of_cell? W ⟨b, 0, none⟩ h.c.1
/-- A pointer to a net, and an empty error. -/
def PN (W : World) (p : Value) (S : Int) (Ls : List ((Int × Int) × (Int × Int))) (Hs : List (ByteArray × (Int × Int))) (Ts : List (List Ru)) : Prop :=
  ∃ b ao n cap ao2 n2 cap2 ao3 n3 cap3, p = .pointer (some ⟨b, 0, none⟩) ∧ BN W b S (.slice ao n cap) (.slice ao2 n2 cap2) (.slice ao3 n3 cap3) Ls Hs Ts
theorem bn_new {w : World} {S : Int} {v1 v2 v3 : Value} {Ls : List ((Int × Int) × (Int × Int))} {Hs : List (ByteArray × (Int × Int))} {Ts : List (List Ru)} (t : TypeId) (h1 : GS lnkE w v1 Ls) (h2 : GS hstE w v2 Hs) (h3 : TS w v3 Ts) : BN (w.alloc (Obj.cells #[.int .i64 S, v1, v2, v3] t)) w.heap.size S v1 v2 v3 Ls Hs Ts := by
  have hb : Below w.heap.size w (w.alloc (Obj.cells #[.int .i64 S, v1, v2, v3] t)) := (Below.refl _ _).alloc (Nat.le_refl _) _
  exact ⟨nebox_new w S v1 v2 v3 t, h1.later hb, h2.later hb, h3.later hb⟩
theorem balloc4 {w w' : World} {a b c d : Value} {t : TypeId} (hb : Below (w.drew.alloc (Obj.cells #[a, b, c, d] t)).heap.size (w.drew.alloc (Obj.cells #[a, b, c, d] t)) w') : (w'.cell? ⟨w.heap.size, 0, none⟩ = some a ∧ w'.cell? ⟨w.heap.size, 1, none⟩ = some b ∧ w'.cell? ⟨w.heap.size, 2, none⟩ = some c ∧ w'.cell? ⟨w.heap.size, 3, none⟩ = some d) ∧ ∀ i, w'.frozen? ⟨w.heap.size, i, none⟩ = false := by
  have h := vat_new w.drew [a, b, c, d] t
  have hl : w.heap.size < (w.drew.alloc (Obj.cells #[a, b, c, d] t)).heap.size := by simp
  refine ⟨⟨cell_later hb (h 0 _ rfl), cell_later hb (h 1 _ rfl), cell_later hb (h 2 _ rfl), cell_later hb (h 3 _ rfl)⟩, fun i => (hb.frozen (p := ⟨w.heap.size, i, none⟩) hl).trans ?_⟩
  have h2 := heap_alloc_new w.drew (Obj.cells #[a, b, c, d] t)
  have e : w.drew.heap.size = w.heap.size := rfl
  rw [e] at h2
  simp only [World.frozen?, h2]
  simp
theorem put4_cells {W : World} {g : Nat} {a b c d u v x y : Value} (k : W.cell? ⟨g, 0, none⟩ = some u ∧ W.cell? ⟨g, 1, none⟩ = some v ∧ W.cell? ⟨g, 2, none⟩ = some x ∧ W.cell? ⟨g, 3, none⟩ = some y) : (put4 W g a b c d).cell? ⟨g, 0, none⟩ = some a ∧ (put4 W g a b c d).cell? ⟨g, 1, none⟩ = some b ∧ (put4 W g a b c d).cell? ⟨g, 2, none⟩ = some c ∧ (put4 W g a b c d).cell? ⟨g, 3, none⟩ = some d := by
  obtain ⟨k0, k1, k2, k3⟩ := k
  unfold put4
  have o : ∀ (W : World) (i j : Nat) (x : Value), i ≠ j → (W.setCell ⟨g, i, none⟩ x).cell? ⟨g, j, none⟩ = W.cell? ⟨g, j, none⟩ := fun W i j x h => World.cell?_setCell_other _ _ _ _ (by intro e; exact h (by injection e))
  refine ⟨?_, ?_, ?_, ?_⟩
  · rw [o _ _ _ _ (by decide), o _ _ _ _ (by decide), o _ _ _ _ (by decide)]; exact World.cell?_setCell_same _ _ _ k0
  · rw [o _ _ _ _ (by decide), o _ _ _ _ (by decide)]; exact World.cell?_setCell_same _ _ _ (by rw [o _ _ _ _ (by decide)]; exact k1)
  · rw [o _ _ _ _ (by decide)]; exact World.cell?_setCell_same _ _ _ (by rw [o _ _ _ _ (by decide), o _ _ _ _ (by decide)]; exact k2)
  · exact World.cell?_setCell_same _ _ _ (by rw [o _ _ _ _ (by decide), o _ _ _ _ (by decide), o _ _ _ _ (by decide)]; exact k3)
theorem pn_new {W : World} {B : Nat} {S : Int} {a1 : Option Addr} {k1 d1 : Nat} {a2 : Option Addr} {k2 d2 : Nat} {a3 : Option Addr} {k3 d3 : Nat} {Ls : List ((Int × Int) × (Int × Int))} {Hs : List (ByteArray × (Int × Int))} {Ts : List (List Ru)} (t : TypeId) (h : NA W B (.slice a1 k1 d1) (.slice a2 k2 d2) (.slice a3 k3 d3) Ls Hs Ts) :
    PN (W.alloc (Obj.cells #[.int .i64 S, .slice a1 k1 d1, .slice a2 k2 d2, .slice a3 k3 d3] t)) (.pointer (some ⟨W.heap.size, 0, none⟩)) S Ls Hs Ts := ⟨_, _, _, _, _, _, _, _, _, _, rfl, bn_new t h.gs.1 h.gs.2.1 h.gs.2.2⟩
theorem pn_put {W : World} {B g : Nat} {S : Int} {a1 : Option Addr} {k1 d1 : Nat} {a2 : Option Addr} {k2 d2 : Nat} {a3 : Option Addr} {k3 d3 : Nat} {Ls : List ((Int × Int) × (Int × Int))} {Hs : List (ByteArray × (Int × Int))} {Ts : List (List Ru)} {x y z u : Value} (h : NA W B (.slice a1 k1 d1) (.slice a2 k2 d2) (.slice a3 k3 d3) Ls Hs Ts) (hg : g < B) (k : W.cell? ⟨g, 0, none⟩ = some u ∧ W.cell? ⟨g, 1, none⟩ = some x ∧ W.cell? ⟨g, 2, none⟩ = some y ∧ W.cell? ⟨g, 3, none⟩ = some z) :
    PN (put4 W g (.int .i64 S) (.slice a1 k1 d1) (.slice a2 k2 d2) (.slice a3 k3 d3)) (.pointer (some ⟨g, 0, none⟩)) S Ls Hs Ts := by
  have h2 := (h.put (grown_put4 W g (.int .i64 S) (.slice a1 k1 d1) (.slice a2 k2 d2) (.slice a3 k3 d3)) hg).gs
  exact ⟨_, _, _, _, _, _, _, _, _, _, rfl, put4_cells k, h2.1, h2.2.1, h2.2.2⟩
/-- An empty net in its box. -/
def ZB (W : World) (g : Nat) : Prop := (W.cell? ⟨g, 0, none⟩ = some (.int .i64 0) ∧ W.cell? ⟨g, 1, none⟩ = some (.slice none 0 0) ∧ W.cell? ⟨g, 2, none⟩ = some (.slice none 0 0) ∧ W.cell? ⟨g, 3, none⟩ = some (.slice none 0 0)) ∧ ∀ i, W.frozen? ⟨g, i, none⟩ = false
theorem ZB.lt {W : World} {g : Nat} (h : ZB W g) : g < W.heap.size := World.block_lt_of_cell? W ⟨g, 0, none⟩ h.1.1
theorem ZB.later {W W' : World} {g : Nat} (h : ZB W g) (hb : Below W.heap.size W W') : ZB W' g := ⟨⟨cell_later hb h.1.1, cell_later hb h.1.2.1, cell_later hb h.1.2.2.1, cell_later hb h.1.2.2.2⟩, fun i => (hb.frozen (p := ⟨g, i, none⟩) h.lt).trans (h.2 i)⟩
theorem zb_d {w w' : World} {t : TypeId} (hb : Below (w.drew.alloc (Obj.cells #[.int .i64 0, .slice none 0 0, .slice none 0 0, .slice none 0 0] t)).heap.size (w.drew.alloc (Obj.cells #[.int .i64 0, .slice none 0 0, .slice none 0 0, .slice none 0 0] t)) w') : ZB w' w.heap.size := balloc4 hb
theorem zb_a {w w' : World} {t : TypeId} (hb : Below (w.alloc (Obj.cells #[.int .i64 0, .slice none 0 0, .slice none 0 0, .slice none 0 0] t)).heap.size (w.alloc (Obj.cells #[.int .i64 0, .slice none 0 0, .slice none 0 0, .slice none 0 0] t)) w') : ZB w' w.heap.size :=
  have h := wb_new w 0 (.slice none 0 0) (.slice none 0 0) (.slice none 0 0) t
  ZB.later (W := w.alloc (Obj.cells #[.int .i64 0, .slice none 0 0, .slice none 0 0, .slice none 0 0] t)) ⟨h.c, h.f⟩ hb
end Go.Proofs.Ytmpjoepfgfbjmaa
/- A topology that came in: its number of switches, its links, its hosts. -/
namespace Go.Proofs.Ytmpjoepfgfbjmaa
open Go.ChangeShapes Go.WideShapes Go.ChangeAt Go.RowKit Go.Joins
set_option linter.unusedSimpArgs false
set_option linter.unusedVariables false
set_option maxRecDepth 100000

section
variable {P : Program} {α : Type} {E : Enc α}
set_option maxRecDepth 100000 in
/-- A cell that reads as a slice lies where it says. -/
theorem gs_open {H : Type} {enc : TypeId × Value → H} {W : World} {fuel : Nat} {cs : List Value} {x : DataW H × List MemPlace} (ts te : TypeId) (hu : P.underlying ts = some (.slice te)) (hC : P.cellsOf te = E.n) (x0 : α)
    (hel : ∀ (n : Nat) (cs : List Value) (x : DataW H × List MemPlace), DataW.trod enc P W 0 (fun _ => true) true n te cs = some x → ∃ y, cs = E.c y)
    (hf2 : DataW.trod enc P W 0 (fun _ => true) true fuel ts cs = some x) : ∃ ao n cap L, cs = [.slice ao n cap] ∧ GS E W (.slice ao n cap) L := by
  obtain ⟨d, p⟩ := x
  rcases Go.Deep.open_slice hu hf2 with ⟨hc, hx⟩ | ⟨a, len0, cap, m, k, D, Pl, hc, _, hl, hm, hmm, hx, hall⟩
  · exact ⟨_, _, _, [], hc, .inl ⟨none, 0, rfl, rfl⟩⟩
  · simp only [if_true] at hmm
    subst hmm
    rcases Nat.eq_zero_or_pos len0 with h0 | h0
    · subst h0
      exact ⟨_, _, _, [], hc, .inl ⟨_, _, rfl, rfl⟩⟩
    · have each : ∀ i, i < m → ∃ y : α, ∀ j, j < E.n → W.cell? (a.add (i * E.n + j)) = (E.c y)[j]? := by
        intro i hi
        obtain ⟨cs, h1, h2⟩ := hall i hi
        rw [hC] at h1
        obtain ⟨_, hlen, hcell⟩ := World.cells?_some h1
        obtain ⟨y, rfl⟩ := hel _ _ _ h2
        refine ⟨y, fun j hj => ?_⟩
        have := hcell j (by omega)
        rw [Go.Deep.add_add] at this
        exact this
      have iR : Inhabited α := ⟨x0⟩
      obtain ⟨R, hR⟩ := Go.Deep.choose_lt each
      obtain ⟨sb, so, spot⟩ := a
      have hspot : spot = none := by
        have h1 := hR 0 (by omega) 0 E.pos
        have h2 : (E.c (R 0))[0]?.isSome = true := by
          rw [List.getElem?_eq_getElem (by rw [E.len]; exact E.pos)]
          rfl
        obtain ⟨u, hu2⟩ := Option.isSome_iff_exists.1 h2
        rw [hu2] at h1
        simpa [Addr.add] using World.cell?_spot h1
      subst hspot
      have hadd : ∀ j, (⟨sb, so, none⟩ : Addr).add j = ⟨sb, so + j, none⟩ := by
        intro j
        simp only [Addr.add]
        first
          | rfl
          | (split
             · next h0 => rw [h0]; rfl
             · rfl)
      refine ⟨_, _, _, (List.range len0).map R, hc, .inr ⟨sb, so, _, by simp, by simpa using hl, hm, fun i hi j u hu2 => ?_⟩⟩
      have hi2 : i < len0 := by simpa using hi
      have e : ((List.range len0).map R)[i] = R i := by simp
      rw [e] at hu2
      have hj : j < E.n := by
        have := (List.getElem?_eq_some_iff.1 hu2).1
        rw [E.len] at this
        exact this
      have hc := hR i (by omega) j hj
      rw [hadd, hu2, ← Nat.add_assoc] at hc
      exact hc
end
set_option maxRecDepth 100000 in
/-- One that came in. -/
theorem topo_open {H : Type} {enc : TypeId × Value → H} {W : World} {n : Nat} {cs : List Value} {x : DataW H × List MemPlace}
    (h : DataW.trod enc Try.prog W 0 (fun _ => true) true n 25 cs = some x) : ∃ S ao n cap ao2 n2 cap2 Ls Hs, cs = [.int .i64 S, .slice ao n cap, .slice ao2 n2 cap2] ∧ GS lnkE W (.slice ao n cap) Ls ∧ GS hstE W (.slice ao2 n2 cap2) Hs := by
  obtain ⟨xs, k, _, _, hl, hlen, hf⟩ := DataW.trod_struct Try.underlying25 h
  have hC : Try.prog.cellsOf 25 = 3 := by kernel_rfl
  have hT0 : Try.prog.cellsOf 3 = 1 := by kernel_rfl
  have hT1 : Try.prog.cellsOf 22 = 1 := by kernel_rfl
  have hT2 : Try.prog.cellsOf 23 = 1 := by kernel_rfl
  rw [hC] at hl
  match cs, hl with
  | [c0, c1, c2], _ =>
    match xs, hlen with
    | [z0, z1, z2], _ =>
      have g0 := hf 0 _ rfl
      have g1 := hf 1 _ rfl
      have g2 := hf 2 _ rfl
      simp [hT0, hT1, hT2] at g0 g1 g2
      obtain ⟨v0, e0, _, _⟩ := DataW.trod_int Try.underlying3 g0
      obtain ⟨ao, n, cap, Ls, e1, hL⟩ := gs_open (E := lnkE) 22 58 Try.underlying22 (by kernel_rfl) ((0, 0), (0, 0)) (fun _ _ _ h => lnk_open h) g1
      obtain ⟨ao2, n2, cap2, Hs, e2, hH⟩ := gs_open (E := hstE) 23 47 Try.underlying23 (by kernel_rfl) (ByteArray.empty, (0, 0)) (fun _ _ _ h => hst_open h) g2
      simp at e0 e1 e2
      exact ⟨v0, ao, n, cap, ao2, n2, cap2, Ls, Hs, by simp [e0, e1, e2], hL, hH⟩
theorem topo_of {H : Type} {enc : TypeId × Value → H} {W : World} {base : Nat} {v : Value} {d : DataW H} {p : List MemPlace}
    (hv : Value.okWide Try.prog W .any base 25 v) (h : DataW.Trod enc Try.prog W 0 (fun _ => true) true 25 v d p) : ∃ S ao n cap ao2 n2 cap2 Ls Hs, v = .agg #[.int .i64 S, .slice ao n cap, .slice ao2 n2 cap2] ∧ GS lnkE W (.slice ao n cap) Ls ∧ GS hstE W (.slice ao2 n2 cap2) Hs := by
  obtain ⟨cs, rfl, hsz⟩ := okWide_struct Try.underlying25 hv
  obtain ⟨n, hn⟩ := h
  obtain ⟨S, ao, n, cap, ao2, n2, cap2, Ls, Hs, e, h1, h2⟩ := topo_open hn
  refine ⟨S, ao, n, cap, ao2, n2, cap2, Ls, Hs, ?_, h1, h2⟩
  simp only [Value.cells] at e
  rw [← Array.toArray_toList (xs := cs), e]
end Go.Proofs.Ytmpjoepfgfbjmaa
