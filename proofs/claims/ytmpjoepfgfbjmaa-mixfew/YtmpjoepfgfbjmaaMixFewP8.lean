/- Contracts and facts on the way to MixFew, joined into one text: MixLegs, CcLink, StCube, StRule, StOp, ClassMath, ClassMem. -/
import Derived.Test.YtmpjoepfgfbjmaaMixFewP6
import Derived.Test.YtmpjoepfgfbjmaaMixFewP7
import Derived.Test.YtmpjoepfgfbjmaaMixFewP4
import Derived.Test.YtmpjoepfgfbjmaaMixFewP2
import Derived.Test.YtmpjoepfgfbjmaaMixFewP1
import Derived.Deep.CutRange
import Derived.Deep.CutBlock
import Derived.Test.YtmpjoepfgfbjmaaRows
import Derived.Lib.SmallJoins
import Derived.Laws.StructEq
import Derived.Maps.OwnOps
import Derived.Laws.OwnMore
/- What net.Legs answers: rows of legs that a call has made. -/
namespace Go.Proofs.Ytmpjoepfgfbjmaa
open Go.RowKit
set_option linter.unusedSimpArgs false
set_option linter.unusedVariables false

/-- Rows of sixteen legs, k of them. -/
def LGs (W : World) (B : Nat) (v : Value) (f : Nat → Nat → Lg) (k : Nat) : Prop :=
  ∃ vs : List Value, W.ownsRow B 107 1 v k vs ∧ ∀ i, i < k → ∃ u, vs[i]? = some u ∧ W.ownsRow B 100 5 u 16 (cellsG legE ((List.range 16).map (f i)))
theorem LGs.later {W W' : World} {B : Nat} {v : Value} {f : Nat → Nat → Lg} {k : Nat} (h : LGs W B v f k) (hb : Below W.heap.size W W') : LGs W' B v f k := by
  obtain ⟨vs, h1, h2⟩ := h
  refine ⟨vs, own_below h1 hb, fun i hi => ?_⟩
  obtain ⟨u, e, h3⟩ := h2 i hi
  exact ⟨u, e, own_below h3 hb⟩
theorem LGs.mono {W : World} {B B' : Nat} {v : Value} {f : Nat → Nat → Lg} {k : Nat} (h : LGs W B v f k) (hB : B' ≤ B) : LGs W B' v f k := by
  obtain ⟨vs, h1, h2⟩ := h
  refine ⟨vs, own_mono h1 hB, fun i hi => ?_⟩
  obtain ⟨u, e, h3⟩ := h2 i hi
  exact ⟨u, e, own_mono h3 hB⟩
theorem lgs_nil (W : World) (B : Nat) (f : Nat → Nat → Lg) : LGs W B (.slice none 0 0) f 0 := ⟨[], World.ownsRow_nil _ _ _ _, fun i hi => by omega⟩
theorem LGs.push {W W' : World} {B : Nat} {v v' u : Value} {f : Nat → Nat → Lg} {k : Nat} (h : LGs W B v f k) (hu : W.ownsRow B 100 5 u 16 (cellsG legE ((List.range 16).map (f k)))) (hg : W.grownBy W' v.ownBlock) (hv : ∀ vs, W.ownsRow B 107 1 v k vs → W'.ownsRow B 107 1 v' (k + 1) (vs ++ [u])) : LGs W' B v' f (k + 1) := by
  obtain ⟨vs, h1, h2⟩ := h
  have hl : vs.length = k := by simpa using h1.1
  refine ⟨vs ++ [u], hv vs h1, fun i hi => ?_⟩
  by_cases e : i = k
  · subst e
    refine ⟨u, by rw [List.getElem?_append_right (by omega), hl]; simp, hu.kept hg ?_⟩
    exact own_apart hu h1 (by decide)
  · obtain ⟨y, e1, h3⟩ := h2 i (by omega)
    refine ⟨y, by rw [List.getElem?_append_left (by omega)]; exact e1, h3.kept hg ?_⟩
    exact own_apart h3 h1 (by decide)
theorem own_uniq {W : World} {B B' e size n : Nat} {v : Value} {xs ys : List Value} (h : W.ownsRow B e size v n xs) (k : W.ownsRow B' e size v n ys) : xs = ys := by
  rcases h.2 with ⟨rfl, rfl⟩ | ⟨g, cap, cur, rfl, _, hg, _, _, _, ht⟩
  · have h1 := h.1
    have h2 := k.1
    simp at h1 h2
    rw [h1, h2]
  · rcases k.2 with ⟨h, _⟩ | ⟨g', cap', cur', e, _, hg', _, _, _, ht'⟩
    · simp at h
    · simp only [Value.slice.injEq, Option.some.injEq, Addr.mk.injEq, and_true, true_and] at e
      obtain ⟨rfl, rfl⟩ := e
      rw [hg] at hg'
      cases hg'
      rw [← ht, ← ht']
theorem legs_info : (Try.prog.info? 107).map (fun i => (i.zero, i.size, i.bytes)) = some (some (.slice none 0 0), 1, 24) := by kernel_rfl
theorem range_succ_map {α : Type} (f : Nat → α) (h : Nat) : (List.range (h + 1)).map f = (List.range h).map f ++ [f h] := by simp [List.range_succ]

set_option maxHeartbeats 8000000 in
set_option maxRecDepth 100000 in
theorem legs_any (S : Int) (ao : Option Addr) (n cap : Nat) (ao2 : Option Addr) (n2 cap2 : Nat) (ao3 : Option Addr) (n3 cap3 : Nat) (Ls : List ((Int × Int) × (Int × Int))) (Hs : List (ByteArray × (Int × Int))) (Ts : List (List Ru)) (w : World)
    (hL : GS lnkE w (.slice ao n cap) Ls) (hH : GS hstE w (.slice ao2 n2 cap2) Hs) (hT : TS w (.slice ao3 n3 cap3) Ts) (hN : ntN S Ls Hs Ts = 0) :
    Calls Try.prog 20 #[.agg #[.int .i64 S, .slice ao n cap, .slice ao2 n2 cap2, .slice ao3 n3 cap3]] w fun e w' => ∃ v, e = .returned v ∧ LGs w' w.heap.size v (fun (a h : Nat) => lgT Ls Hs (taT Ts ((a : Int) + 1)) (((a : Int) + 1, 0), (h : Int))) n3 ∧ Below w.heap.size w w' := by
  obtain ⟨hTP, hTL, hTT⟩ := nt_0 hN
  have hS := (tp_0 hTP).1
  have hnd := (tp_0 hTP).2.2.2.1
  have hTn := hT.len
  have hLn := hL.len
  have hl2 := (tp_0 hTP).2.1
  have H36 : Hid (n3 ≤ 6) := by show _ ≤ _; omega
  have h36 : n3 ≤ 6 := H36.out
  obtain rfl : S = (n3 : Int) := by omega
  have HND : Hid ((spsL Ls).Nodup) := hnd
  have HN1 : Hid (n ≤ 1000) := by show _ ≤ _; omega
  have HTT : Hid (∀ k, k < Ts.length → tbN (Ts.getD k []) = 0) := hTT
  have HLW : Hid (∀ W, Below w.heap.size w W → GS lnkE W (.slice ao n cap) Ls) := fun W hb => hL.later hb
  have HHW : Hid (∀ W, Below w.heap.size w W → GS hstE W (.slice ao2 n2 cap2) Hs) := fun W hb => hH.later hb
  have HTW : Hid (∀ W, Below w.heap.size w W → TS W (.slice ao3 n3 cap3) Ts) := fun W hb => hT.later hb
  obtain ⟨f, hf⟩ : ∃ f : Nat → Nat → Lg, f = fun (a h : Nat) => lgT Ls Hs (taT Ts ((a : Int) + 1)) (((a : Int) + 1, 0), (h : Int)) := ⟨_, rfl⟩
  have HF : Hid (∀ a h : Nat, lgT Ls Hs (taT Ts ((a : Int) + 1)) (((a : Int) + 1, 0), (h : Int)) = f a h) := fun a h => by rw [hf]
  rw [← hf]
  have hX := nebox_new w (n3 : Int) (.slice ao n cap) (.slice ao2 n2 cap2) (.slice ao3 n3 cap3) 28
  have hB0 : Below w.heap.size w (w.alloc (Obj.cells #[.int .i64 (n3 : Int), .slice ao n cap, .slice ao2 n2 cap2, .slice ao3 n3 cap3] 28)) := (Below.refl _ _).alloc (Nat.le_refl _) _
  obtain ⟨w0, hw0⟩ : ∃ W, w.alloc (Obj.cells #[.int .i64 (n3 : Int), .slice ao n cap, .slice ao2 n2 cap2, .slice ao3 n3 cap3] 28) = W := ⟨_, rfl⟩
  rw [hw0] at hX hB0
  have HX : Hid (NeBox w0 w.heap.size (n3 : Int) (.slice ao n cap) (.slice ao2 n2 cap2) (.slice ao3 n3 cap3)) := hX
  have HB0 : Hid (Below w.heap.size w w0) := hB0
  have HW0 : Hid (w.alloc (Obj.cells #[.int .i64 (n3 : Int), .slice ao n cap, .slice ao2 n2 cap2, .slice ao3 n3 cap3] 28) = w0) := hw0
  clear hL hH hT hN hTP hTL hTT hS hnd hTn hLn hl2 hf hX hB0 hw0
  go_enter Try.func20, Try.ntmps20
  go_upto_region 1 with fail
  rw [HW0.out]
  clear HW0
  obtain ⟨b0, b1, b2, b3⟩ := HX.out
  go_wp2_with fail
  refine (peers_any ao n cap Ls _ (HLW.out _ HB0.out) HND.out HN1.out).mono ?_
  rintro e w1 ⟨B, M, rfl, hM, hPM, hb1⟩
  have HM : Hid (MAt spotKey veS w1 B M) := hM
  have HPM : Hid (PM M Ls) := hPM
  have HX1 : Hid (NeBox w1 w.heap.size (n3 : Int) (.slice ao n cap) (.slice ao2 n2 cap2) (.slice ao3 n3 cap3)) := HX.out.later hb1
  have HB1 : Hid (Below w.heap.size w w1) := HB0.out.trans (hb1.mono HB0.out.size)
  clear hM hPM hb1 HX HB0 b0 b1 b2 b3
  go_wp2
  go_loopw [4, 5] (fun v i wr => ∃ k : Nat, k ≤ n3 ∧ i = .int .i64 ((k : Int) + 1) ∧ LGs wr w1.heap.size v f k ∧ Below w1.heap.size w1 wr) (fun _ i _ => n3 + 1 - (intOf i).toNat)
  case atStart => exact ⟨0, by omega, rfl, lgs_nil _ _ _, Below.refl _ _⟩
  case round =>
    obtain ⟨k, hk, rfl, hG, hB⟩ := hrel
    obtain ⟨v4, hv4⟩ : ∃ X, X = u4 := ⟨_, rfl⟩
    subst hv4
    obtain ⟨wo, hwo⟩ : ∃ X, X = wr := ⟨_, rfl⟩
    subst hwo
    have HG : Hid (LGs wo w1.heap.size v4 f k) := hG
    have HB : Hid (Below w1.heap.size w1 wo) := hB
    have HBw : Hid (Below w.heap.size w wo) := HB1.out.trans (hB.mono HB1.out.size)
    have HXr : Hid (NeBox wo w.heap.size (n3 : Int) (.slice ao n cap) (.slice ao2 n2 cap2) (.slice ao3 n3 cap3)) := HX1.out.later hB
    have HMr : Hid (MAt spotKey veS wo B M) := HM.out.later hB
    obtain ⟨b0, b1, b2, b3⟩ := HXr.out
    clear hG hB
    by_cases hlt : k < n3
    · have dk : decide (((k : Int) + 1) ≤ (n3 : Int)) = true := by simp; omega
      have hle : (k : Int) + 1 ≤ (n3 : Int) := by omega
      go_upto_region 7 with fail
      clear dk hle
      go_wp2
      go_loopw [6, 19] (fun u i W => ∃ h : Nat, h ≤ 16 ∧ i = .int .i64 h ∧ W.ownsRow wo.heap.size 100 5 u h (cellsG legE ((List.range h).map (f k))) ∧ Below wo.heap.size wo W) (fun _ i _ => 16 - (intOf i).toNat)
      case atStart => exact ⟨0, by omega, rfl, World.ownsRow_nil _ _ _ _, Below.refl _ _⟩
      case round =>
        obtain ⟨h, hh, rfl, hown, hBi⟩ := hrel
        obtain ⟨ao6, cap6, rfl⟩ := own_form hown
        have HOWN : Hid (wr.ownsRow wo.heap.size 100 5 (.slice ao6 h cap6) h (cellsG legE ((List.range h).map (f k)))) := hown
        have HBi : Hid (Below wo.heap.size wo wr) := hBi
        have HBw2 : Hid (Below w.heap.size w wr) := HBw.out.trans (hBi.mono HBw.out.size)
        obtain ⟨b0, b1, b2, b3⟩ := HXr.out.later hBi
        clear hown
        by_cases hlt16 : h < 16
        · obtain ⟨G, hG⟩ : ∃ G, G = f k h := ⟨_, rfl⟩
          have HLEG : Hid (Calls Try.prog 36 #[.agg #[.int .i64 (n3 : Int), .slice ao n cap, .slice ao2 n2 cap2, .slice ao3 n3 cap3], .map (some B), .agg #[.int .i64 ((k : Int) + 1), .int .i64 0, .int .i64 (h : Int)]] wr fun e w' => e = .returned (legV G) ∧ Below wr.heap.size wr w') := by
            have h := leg_any (n3 : Int) ao n cap ao2 n2 cap2 ao3 n3 cap3 Ls Hs Ts B M ((k : Int) + 1) 0 (h : Int) wr (HHW.out _ HBw2.out) (HTW.out _ HBw2.out) (HMr.out.later hBi) HPM.out HTT.out (by omega) (by omega) H36.out
            rw [HF.out, ← hG] at h
            exact h
          have HG5 : Hid ((List.range (h + 1)).map (f k) = (List.range h).map (f k) ++ [G]) := by
            show _ = _
            rw [range_succ_map, hG]
          clear hBi hG
          obtain ⟨x0, x1, ⟨x2, x3⟩, x4⟩ := G
          unfold legV at HLEG
          dsimp only at HLEG
          go_wp2_with fail
          refine HLEG.out.mono ?_
          rintro e w3 ⟨rfl, hb3⟩
          have HO3 : Hid (w3.ownsRow wo.heap.size 100 5 (.slice ao6 h cap6) h (cellsG legE ((List.range h).map (f k)))) := own_below HOWN.out hb3
          have HB3 : Hid (Below wo.heap.size wo w3) := HBi.out.trans (hb3.mono HBi.out.size)
          have hs3 : wo.heap.size ≤ w3.heap.size := HB3.out.size
          obtain ⟨j0, hj, hy0, hy1, hy2⟩ := info_parts leg_info
          clear hb3 b0 b1 b2 b3 HLEG
          go_wp2_with (at_builtin; refine wpList_append_own _ rfl _ _ 107 rfl wo.heap.size 100 j0 (.agg #[.int .i64 0, .string ByteArray.empty, .int .i64 0, .int .i64 0, .int .i64 0]) 5 48 Try.underlying107 hj hy0 hy1 hy2 leg_zero (by decide) _ _ _ rfl (HO3.out.alloc _) ⟨w3.heap.size, 0, none⟩ 1 1 [.int .i64 x0, .string x1, .int .i64 x2, .int .i64 x3, .int .i64 x4] rfl rfl ?m1 ?m2 ?m3 ?m4 ?m5 ?_)
          case m1 =>
            intro j u hj
            match j, hj with
            | 0, hj => simp at hj; subst hj; simp [Addr.add]
            | 1, hj => simp at hj; subst hj; simp [Addr.add]
            | 2, hj => simp at hj; subst hj; simp [Addr.add]
            | 3, hj => simp at hj; subst hj; simp [Addr.add]
            | 4, hj => simp at hj; subst hj; simp [Addr.add]
          case m2 => intro u hu; simp at hu; rcases hu with rfl | rfl | rfl | rfl | rfl <;> rfl
          case m3 => unfold maxLen; omega
          case m4 => omega
          case m5 => simp; omega
          intro v5 w5 hown5 hgrow5 _
          obtain ⟨ao7, cap7, rfl⟩ := own_form hown5
          have hb5 : Below wo.heap.size w3 w5 := ((Below.refl _ w3).alloc hs3 _).grown hgrow5 (by simp; omega) (fun g hg => (HO3.out.lt g hg).1)
          have HB5 : Hid (Below wo.heap.size wo w5) := HB3.out.trans hb5
          have HO5 : Hid (w5.ownsRow wo.heap.size 100 5 (.slice ao7 (h + 1) cap7) (h + 1) (cellsG legE ((List.range (h + 1)).map (f k)))) := by
            show World.ownsRow _ _ _ _ _ _ _
            rw [HG5.out, cellsG_app, cellsG_one]
            exact hown5
          clear hb5 hgrow5 hown5
          go_wp2
          go_roundw
          case rel => exact ⟨h + 1, by omega, by go_num, HO5.out, HB5.out⟩
          case measure => simp [intOf]; omega
        · obtain rfl : h = 16 := by omega
          have HG3 : Hid (LGs wr w1.heap.size v4 f k) := HG.out.later hBi
          have HU3 : Hid (wr.ownsRow w1.heap.size 100 5 (.slice ao6 16 cap6) 16 (cellsG legE ((List.range 16).map (f k)))) := own_mono HOWN.out HB.out.size
          have HB3 : Hid (Below w1.heap.size w1 wr) := HB.out.trans (hBi.mono HB.out.size)
          have hs3 : w1.heap.size ≤ wr.heap.size := HB3.out.size
          obtain ⟨vs, hvs, _⟩ := HG3.out
          have HVS : Hid (wr.ownsRow w1.heap.size 107 1 v4 k vs) := hvs
          obtain ⟨ao8, cap8, rfl⟩ := own_form hvs
          obtain ⟨j0, hj, hy0, hy1, hy2⟩ := info_parts legs_info
          clear hBi hvs b0 b1 b2 b3
          go_wp2_with (at_builtin; refine wpList_append_own _ rfl _ _ 59 rfl w1.heap.size 107 j0 (.slice none 0 0) 1 24 Try.underlying59 hj hy0 hy1 hy2 rfl (by decide) _ _ _ rfl (HVS.out.alloc _) ⟨wr.heap.size, 0, none⟩ 1 1 [.slice ao6 16 cap6] rfl rfl ?n1 ?n2 ?n3 ?n4 ?n5 ?_)
          case n1 =>
            intro j u hj
            match j, hj with
            | 0, hj => simp at hj; subst hj; simp [Addr.add]
          case n2 => intro u hu; simp at hu; subst hu; rfl
          case n3 => unfold maxLen; omega
          case n4 => omega
          case n5 => simp; omega
          intro v5 w5 hown5 hgrow5 _
          obtain ⟨ao7, cap7, rfl⟩ := own_form hown5
          have hal : Below wr.heap.size wr (wr.alloc (Obj.cells #[.slice ao6 16 cap6] 107)) := (Below.refl _ _).alloc (Nat.le_refl _) _
          have hb5 : Below w1.heap.size wr w5 := ((Below.refl _ wr).alloc hs3 _).grown hgrow5 (by simp; omega) (fun g hg => (HVS.out.lt g hg).1)
          have HB5 : Hid (Below w1.heap.size w1 w5) := HB3.out.trans hb5
          have HG5 : Hid (LGs w5 w1.heap.size (.slice ao7 (k + 1) cap7) f (k + 1)) := by
            refine LGs.push (HG3.out.later hal) (own_below HU3.out hal) hgrow5 (fun vs' h' => ?_)
            have e : vs' = vs := by
              have h2 := own_below HVS.out hal
              exact own_uniq h' h2
            rw [e]
            exact hown5
          clear hb5 hgrow5 hown5 hal
          go_wp2
          go_roundw
          case rel => exact ⟨k + 1, by omega, by go_num, HG5.out, HB5.out⟩
          case measure => simp [intOf]; omega
    · obtain rfl : k = n3 := by omega
      have dk : decide (((k : Int) + 1) ≤ (k : Int)) = false := by simp; omega
      have hle : ¬ ((k : Int) + 1 ≤ (k : Int)) := by omega
      go_wp2
      go_ret
      exact ⟨_, rfl, HG.out.mono HB1.out.size, HB1.out.trans (HB.out.mono HB1.out.size)⟩
end Go.Proofs.Ytmpjoepfgfbjmaa
/- What slices.Grow of nil and slices.Concat answer at []api.Link. Written by mk/concat.py. -/
namespace Go.Proofs.Ytmpjoepfgfbjmaa
open Go.RowKit
set_option linter.unusedSimpArgs false
set_option linter.unusedVariables false

set_option maxHeartbeats 2000000 in
set_option maxRecDepth 100000 in
/-- Grow of nil: a row of the call's own, with nothing in it. -/
theorem lnk_grow_nil (n : Nat) (w : World) (hn : n ≤ 1000) :
    Calls Try.prog 79 #[.slice none 0 0, .int .i64 n] w fun e w' => ∃ v, e = .returned v ∧ w'.ownsRow w.heap.size 58 4 v 0 [] ∧ Below w.heap.size w w' := by
  have h1 : ¬ ((n : Int) < 0) := by omega
  by_cases h0 : n = 0
  · subst h0
    go_enter Try.func79, Try.ntmps79
    go_wp2
    go_ret
    exact ⟨_, rfl, World.ownsRow_nil _ _ _ _, Below.refl _ _⟩
  · obtain ⟨i0, hi, hz0, hz1, hz2⟩ := info_parts lnk_info
    have h3 : wrap64 ((n : Int) - 0) = (n : Int) := by unfold wrap64; omega
    have h4 : (n : Int) > 0 := by omega
    have hrz : ∀ ty, (Builtin.append_ #[22, 3] ty #[.slice none 0 0, .int .i64 n]).run Try.prog w =
        .ok (.slice (some ⟨w.heap.size, 0, none⟩) n (grownCap w n 0 58)) (w.drew.alloc (.cells (Builtin.zeroCells (Value.agg #[.int .i64 0, .int .i64 0, .int .i64 0, .int .i64 0]).cells n ++ Builtin.zeroCells (Value.agg #[.int .i64 0, .int .i64 0, .int .i64 0, .int .i64 0]).cells (grownCap w n 0 58 - n)) 58)) := fun ty =>
      Lib.run_append_nil_zeros w 22 3 ty 58 i0 _ .i64 .i64 Try.underlying22 Try.underlying3 hi hz0 n (by omega) (by rw [hz1]; decide) (by omega) (by rw [hz2]; omega)
    have hGn : n ≤ grownCap w n 0 58 := grownCap_ge w _ _ _
    have hGm : grownCap w n 0 58 ≤ maxLen := grownCap_le_maxLen w n 0 58 (by unfold maxLen; omega)
    generalize grownCap w n 0 58 = G at *
    have HM : Hid (G ≤ maxLen) := hGm
    have hG63 : G ≤ 9223372036854775807 := by unfold maxLen at hGm; omega
    have HO : Hid ((w.drew.alloc (.cells (Builtin.zeroCells (Value.agg #[.int .i64 0, .int .i64 0, .int .i64 0, .int .i64 0]).cells n ++ Builtin.zeroCells (Value.agg #[.int .i64 0, .int .i64 0, .int .i64 0, .int .i64 0]).cells (G - n)) 58)).ownsRow w.heap.size 58 4 (.slice (some ⟨w.heap.size, 0, none⟩) 0 G) 0 []) :=
      World.ownsRow_made w.drew _ G (Nat.le_refl _) HM.out (by
        simp only [Array.size_append, size_zeroCells, lnk_zero, ← Nat.add_mul]
        congr 1
        omega)
    clear hGm
    go_enter Try.func79, Try.ntmps79
    go_wp2_with (at_builtin; refine Lib.wpList_append_run _ rfl _ _ _ _ rfl _ _ rfl rfl _ _ (hrz _) ?_)
    all_goals (go_ret; exact ⟨_, rfl, HO.out, ((Below.refl _ _).drew).alloc (Nat.le_refl _) _⟩)

/-- These slices lie one behind the other. -/
def lnkPt (w : World) (g o : Nat) (Ls : List (List ((Int × Int) × (Int × Int)))) : Prop := ∀ i (h : i < Ls.length), ∃ ao n cap, w.cell? ⟨g, o + i, none⟩ = some (.slice ao n cap) ∧ GS lnkE w (.slice ao n cap) Ls[i]
theorem lnkPt.later {w w' : World} {g o : Nat} {Ls : List (List ((Int × Int) × (Int × Int)))} (h : lnkPt w g o Ls) (hb : Below w.heap.size w w') : lnkPt w' g o Ls := fun i hi => by
  obtain ⟨ao, n, cap, h1, h2⟩ := h i hi
  exact ⟨ao, n, cap, cell_later hb h1, h2.later hb⟩
theorem lnk_flat_next {Ls : List (List ((Int × Int) × (Int × Int)))} {k : Nat} (hk : k < Ls.length) : (Ls.take (k + 1)).flatten = (Ls.take k).flatten ++ Ls[k] := by
  rw [List.take_succ_eq_append_getElem hk]
  simp only [List.flatten_append, List.flatten_cons, List.flatten_nil, List.append_nil]
theorem lnk_flat_le {Ls : List (List ((Int × Int) × (Int × Int)))} (k : Nat) : (Ls.take k).flatten.length ≤ Ls.flatten.length := by
  have : Ls.flatten = (Ls.take k).flatten ++ (Ls.drop k).flatten := by rw [← List.flatten_append, List.take_append_drop]
  rw [this, List.length_append]
  omega
/-- Appending to a row that a call owns. -/
theorem lnk_append (w : World) {ops : Array Oper} {rest : List Oper} {o : Oper} {a : Act} {Q : Exit → Act → World → Prop} (hgd : o.guard = none) (s x : Operand) (t : TypeId)
    (ho : o.op = .call { callee := .builtin .append, args := #[s, x], argTypes := #[t, t] }) (ht : Try.prog.underlying t = some (.slice 58)) (base : Nat)
    (v : Value) (hs : a.eval s = v) (L : List ((Int × Int) × (Int × Int))) (hown : w.ownsRow base 58 4 v L.length (cellsG lnkE L)) (u : Value) (hx : a.eval x = u) (M : List ((Int × Int) × (Int × Int))) (hM : GS lnkE w u M)
    (h100 : L.length + M.length ≤ 1000000) (hbase : base ≤ w.heap.size)
    (h : ∀ v' w', w'.ownsRow base 58 4 v' (L ++ M).length (cellsG lnkE (L ++ M)) → w.grownBy w' v.ownBlock → wpList Try.prog ops Q rest (a.put o.dst v') w') : wpList Try.prog ops Q (o :: rest) a w := by
  obtain ⟨i0, hi, hz0, hz1, hz2⟩ := info_parts lnk_info
  exact wpList_append_GS (E := lnkE) w hgd s x t 58 ho ht i0 _ 32 hi hz0 hz1 hz2 lnk_zero base v hs L hown u hx M hM (by unfold maxLen; omega) (by omega) hbase h

set_option maxHeartbeats 4000000 in
set_option maxRecDepth 100000 in
theorem lnk_concat (g o m cap : Nat) (Ls : List (List ((Int × Int) × (Int × Int)))) (w : World) (hm : Ls.length = m) (hm2 : m ≤ 1000) (hc : lnkPt w g o Ls) (hs : Ls.flatten.length ≤ 1000) :
    Calls Try.prog 63 #[.slice (some ⟨g, o, none⟩) m cap] w fun e w' => ∃ v, e = .returned v ∧ w'.ownsRow w.heap.size 58 4 v Ls.flatten.length (cellsG lnkE Ls.flatten) ∧ Below w.heap.size w w' := by
  have HM : Hid (Ls.length = m) := hm
  have HC : Hid (lnkPt w g o Ls) := hc
  have HS : Hid (Ls.flatten.length ≤ 1000) := hs
  obtain ⟨N, hN⟩ : ∃ N, N = Ls.flatten.length := ⟨_, rfl⟩
  have HN : Hid (N = Ls.flatten.length) := hN
  have hN2 : N ≤ 1000 := by omega
  clear hm hc hs hN
  go_enter Try.func63, Try.ntmps63
  go_upto_block 0 with fail
  go_cut [3] from 3 (fun z w' => z = .int .i64 (N : Int) ∧ w' = w)
  case first =>
    go_wp2
    go_loopw [3, 11] (fun z i wr => ∃ k : Nat, k ≤ m ∧ i = .int .i64 k ∧ z = .int .i64 ((Ls.take k).flatten.length : Int) ∧ wr = w) (fun _ i _ => m - (intOf i).toNat)
    case atStart => exact ⟨0, by omega, rfl, rfl, rfl⟩
    case round =>
      obtain ⟨k, hk, rfl, rfl, rfl⟩ := hrel
      by_cases hlt : k < m
      · have hkl : k < Ls.length := by rw [HM.out]; exact hlt
        obtain ⟨ao, n, cap2, q0, hsr⟩ := HC.out k hkl
        have HT : Hid ((Ls.take (k + 1)).flatten.length = (Ls.take k).flatten.length + n) := by
          show _ = _
          rw [lnk_flat_next hkl, List.length_append, hsr.len]
        have hb1 : (Ls.take k).flatten.length + n ≤ 1000 := by
          have h1 := lnk_flat_le (Ls := Ls) (k + 1)
          have h2 := HS.out
          have h3 := HT.out
          omega
        generalize (Ls.take k).flatten.length = z at *
        clear hsr
        go_wp2
        go_roundw
        case rel => exact ⟨k + 1, by omega, by go_num, by rw [HT.out]; go_num, by simp⟩
        case measure => simp [intOf]; omega
      · obtain rfl : k = m := by omega
        go_wp2_with fail
        go_meet
        case rel => exact ⟨by rw [← HM.out, List.take_length, HN.out], rfl⟩
  case rest =>
    obtain ⟨rfl, rfl⟩ := hcut
    go_wp2_with fail
    refine (lnk_grow_nil N _ hN2).mono ?_
    rintro e w1 ⟨v, rfl, hown, hB⟩
    have HO : Hid (w1.ownsRow wc.heap.size 58 4 v 0 []) := hown
    have HB : Hid (Below wc.heap.size wc w1) := hB
    clear hown hB
    go_wp2
    go_loopw [6, 27] (fun u i wr => ∃ k : Nat, k ≤ m ∧ i = .int .i64 k ∧ wr.ownsRow wc.heap.size 58 4 u (Ls.take k).flatten.length (cellsG lnkE (Ls.take k).flatten) ∧ Below wc.heap.size wc wr) (fun _ i _ => m - (intOf i).toNat)
    case atStart => exact ⟨0, by omega, rfl, HO.out, HB.out⟩
    case round =>
      obtain ⟨k, hk, rfl, hown, hB⟩ := hrel
      have HOW : Hid (wr.ownsRow wc.heap.size 58 4 u6 (Ls.take k).flatten.length (cellsG lnkE (Ls.take k).flatten)) := hown
      have HBW : Hid (Below wc.heap.size wc wr) := hB
      clear hown
      by_cases hlt : k < m
      · have hkl : k < Ls.length := by rw [HM.out]; exact hlt
        obtain ⟨ao, n, cap2, q0, hsr⟩ := (HC.out.later hB) k hkl
        have HSR : Hid (GS lnkE wr (.slice ao n cap2) Ls[k]) := hsr
        have HL1 : Hid ((Ls.take k).flatten.length + Ls[k].length ≤ 1000000) := by
          have h1 := lnk_flat_le (Ls := Ls) (k + 1)
          rw [lnk_flat_next hkl, List.length_append] at h1
          have h2 := HS.out
          show _ ≤ _
          omega
        clear hsr hB
        go_wp2_with (at_builtin; refine lnk_append _ rfl _ _ 22 rfl Try.underlying22 wc.heap.size _ rfl _ HOW.out _ rfl _ HSR.out HL1.out HBW.out.size ?_)
        intro v' w3 hown3 hgrow
        have HO5 : Hid (w3.ownsRow wc.heap.size 58 4 v' (Ls.take (k + 1)).flatten.length (cellsG lnkE (Ls.take (k + 1)).flatten)) := by
          show w3.ownsRow _ _ _ _ _ _
          rw [lnk_flat_next hkl, show ((Ls.take k).flatten ++ Ls[k]).length = (List.take k (List.map List.length Ls)).sum + Ls[k].length by simp]
          exact hown3
        have HB5 : Hid (Below wc.heap.size wc w3) := HBW.out.grown hgrow HBW.out.size (fun g hg => (HOW.out.lt g hg).1)
        clear hown3 hgrow q0
        go_wp2
        go_roundw
        case rel => exact ⟨k + 1, by omega, by go_num, HO5.out, HB5.out⟩
        case measure => simp [intOf]; omega
      · obtain rfl : k = m := by omega
        go_wp2
        go_ret
        refine ⟨_, rfl, ?_, HBW.out⟩
        have := HOW.out
        rw [← HM.out, List.take_length] at this
        exact this
end Go.Proofs.Ytmpjoepfgfbjmaa
/- The struct api.Cube: its cells, slices of them, == of two, such that came in. Written by mk/struct.py. -/
namespace Go.Proofs.Ytmpjoepfgfbjmaa
open Go.ChangeShapes Go.WideShapes Go.ChangeAt Go.RowKit Go.Joins
set_option linter.unusedSimpArgs false
set_option linter.unusedVariables false
set_option maxRecDepth 100000

def cuE : Enc (Int × Int) where
  c := fun x => [.int .i64 x.1, .int .i64 x.2]
  n := 2
  len := fun _ => rfl
  pos := by decide
  one := by
    intro x u hu
    simp at hu
    rcases hu with rfl | rfl <;> rfl
theorem cu_cells {w : World} {g o : Nat} {x0 : Int} {x1 : Int} (h : VAt w g o (cuE.c (x0, x1))) : w.cell? ⟨g, o, none⟩ = some (.int .i64 x0) ∧ w.cell? ⟨g, o + 1, none⟩ = some (.int .i64 x1) :=
  ⟨h 0 _ rfl, h 1 _ rfl⟩
theorem cu_at {w : World} {g o : Nat} {L : List (Int × Int)} (h : GAt cuE w g o L) {n k : Nat} (hn : L.length = n) (hk : k < n) :
    ∃ (x0 : Int) (x1 : Int) (hl : k < L.length), L[k] = (x0, x1) ∧ w.cell? ⟨g, o + k * 2, none⟩ = some (.int .i64 x0) ∧ w.cell? ⟨g, o + k * 2 + 1, none⟩ = some (.int .i64 x1) :=
  have hl : k < L.length := by omega
  ⟨_, _, hl, rfl, cu_cells (h k hl)⟩
theorem cu_new (w : World) (x0 : Int) (x1 : Int) (t : TypeId) : VAt (w.alloc (Obj.cells #[.int .i64 x0, .int .i64 x1] t)) w.heap.size 0 (cuE.c (x0, x1)) := vat_new w [.int .i64 x0, .int .i64 x1] t
theorem cu_row (w : World) (x0 : Int) (x1 : Int) (t : TypeId) : GS cuE (w.alloc (Obj.cells #[.int .i64 x0, .int .i64 x1] t)) (.slice (some ⟨w.heap.size, 0, none⟩) 1 1) [(x0, x1)] := gs_one (E := cuE) w (x0, x1) t (vs := [.int .i64 x0, .int .i64 x1]) rfl
/-- Are two the same? -/
def cuB (a b : Int × Int) : Bool := (a.1 == b.1) && ((a.2 == b.2))
theorem cuB_iff (a b : Int × Int) : cuB a b = true ↔ a = b := by
  have e : cuB a b = ((a.1 == b.1) && ((a.2 == b.2))) := rfl
  rw [e]
  simp only [Bool.and_eq_true, beq_iff_eq]
  constructor
  · intro h
    obtain ⟨a0, a1⟩ := a; obtain ⟨b0, b1⟩ := b; simp at h ⊢; simp [h]
  · intro h
    subst h
    simp
theorem cu_ways (x0 : Int) (x1 : Int) (y0 : Int) (y1 : Int) :
    ((x0 == y0) = false ∧ cuB (x0, x1) (y0, y1) = false) ∨
    ((x0 == y0) = true ∧ (x1 == y1) = false ∧ cuB (x0, x1) (y0, y1) = false) ∨
    ((x0 == y0) = true ∧ (x1 == y1) = true ∧ cuB (x0, x1) (y0, y1) = true) := by
  have e : cuB (x0, x1) (y0, y1) = ((x0 == y0) && ((x1 == y1))) := rfl
  rw [e]
  cases h0 : (x0 == y0)
  · simp
  · skip
    cases h1 : (x1 == y1)
    · simp
    · skip
      simp
set_option maxRecDepth 100000 in
theorem cu_eq (x0 : Int) (x1 : Int) (y0 : Int) (y1 : Int) (w : World) : (Op.equal 30 (.agg #[.int .i64 x0, .int .i64 x1]) (.agg #[.int .i64 y0, .int .i64 y1])).run Try.prog w = .ok (cuB (x0, x1) (y0, y1)) w := by
  unfold Op.equal Op.maxDepth
  rw [run_equalIn_struct w 9999 _ _ _ (by kernel_rfl) (by kernel_rfl)]
  rcases cu_ways x0 x1 y0 y1 with ⟨e0, e⟩ | ⟨e0, e1, e⟩ | ⟨e0, e1, e⟩
  all_goals
    rw [e]
    go_simp
theorem cu_info : (Try.prog.info? 30).map (fun i => (i.zero, i.size, i.bytes)) = some (some (.agg #[.int .i64 0, .int .i64 0]), 2, 16) := by kernel_rfl
theorem cu_zero : (Value.agg #[.int .i64 0, .int .i64 0]).cells.size = 2 := by simp [Value.cells]
/-- Cells that read as one. -/
theorem cu_open {H : Type} {enc : TypeId × Value → H} {W : World} {n : Nat} {cs : List Value} {x : DataW H × List MemPlace}
    (h : DataW.trod enc Try.prog W 0 (fun _ => true) true n 30 cs = some x) : ∃ y, cs = cuE.c y := by
  obtain ⟨xs, k, _, _, hl, hlen, hf⟩ := DataW.trod_struct Try.underlying30 h
  have hC : Try.prog.cellsOf 30 = 2 := by kernel_rfl
  have hT0 : Try.prog.cellsOf 3 = 1 := by kernel_rfl
  rw [hC] at hl
  match cs, hl with
  | [c0, c1], _ =>
    match xs, hlen with
    | [z0, z1], _ =>
      have g0 := hf 0 _ rfl
      have g1 := hf 1 _ rfl
      simp [hT0] at g0 g1
      obtain ⟨v0, e0, _, _⟩ := DataW.trod_int Try.underlying3 g0
      obtain ⟨v1, e1, _, _⟩ := DataW.trod_int Try.underlying3 g1
      simp [] at e0 e1
      refine ⟨(v0, v1), ?_⟩
      simp [cuE, e0, e1]
set_option maxRecDepth 100000 in
/-- One that came in. -/
theorem cu_of {H : Type} {enc : TypeId × Value → H} {W : World} {base : Nat} {v : Value} {d : DataW H} {p : List MemPlace}
    (hv : Value.okWide Try.prog W .any base 30 v) (h : DataW.Trod enc Try.prog W 0 (fun _ => true) true 30 v d p) : ∃ (x0 : Int) (x1 : Int), v = .agg #[.int .i64 x0, .int .i64 x1] := by
  obtain ⟨cs, rfl, hsz⟩ := okWide_struct Try.underlying30 hv
  obtain ⟨n, hn⟩ := h
  obtain ⟨y, e⟩ := cu_open hn
  refine ⟨y.1, y.2, ?_⟩
  simp only [Value.cells] at e
  have e2 : cs = #[.int .i64 y.1, .int .i64 y.2] := by
    rw [← Array.toArray_toList (xs := cs), e]
    rfl
  rw [e2]
end Go.Proofs.Ytmpjoepfgfbjmaa
/- The struct api.Rule: its cells, slices of them, == of two, such that came in. Written by mk/struct.py. -/
namespace Go.Proofs.Ytmpjoepfgfbjmaa
open Go.ChangeShapes Go.WideShapes Go.ChangeAt Go.RowKit Go.Joins
set_option linter.unusedSimpArgs false
set_option linter.unusedVariables false
set_option maxRecDepth 100000

def rlE : Enc (Ru) where
  c := fun x => [.int .i64 x.p, .int .i64 x.m, .int .i64 x.b, .int .i64 x.o, .int .i64 x.s, .int .i64 x.v]
  n := 6
  len := fun _ => rfl
  pos := by decide
  one := by
    intro x u hu
    simp at hu
    rcases hu with rfl | rfl | rfl | rfl | rfl | rfl <;> rfl
theorem rl_cells {w : World} {g o : Nat} {x0 : Int} {x1 : Int} {x2 : Int} {x3 : Int} {x4 : Int} {x5 : Int} (h : VAt w g o (rlE.c ⟨x0, x1, x2, x3, x4, x5⟩)) : w.cell? ⟨g, o, none⟩ = some (.int .i64 x0) ∧ w.cell? ⟨g, o + 1, none⟩ = some (.int .i64 x1) ∧ w.cell? ⟨g, o + 2, none⟩ = some (.int .i64 x2) ∧ w.cell? ⟨g, o + 3, none⟩ = some (.int .i64 x3) ∧ w.cell? ⟨g, o + 4, none⟩ = some (.int .i64 x4) ∧ w.cell? ⟨g, o + 5, none⟩ = some (.int .i64 x5) :=
  ⟨h 0 _ rfl, h 1 _ rfl, h 2 _ rfl, h 3 _ rfl, h 4 _ rfl, h 5 _ rfl⟩
theorem rl_at {w : World} {g o : Nat} {L : List (Ru)} (h : GAt rlE w g o L) {n k : Nat} (hn : L.length = n) (hk : k < n) :
    ∃ (x0 : Int) (x1 : Int) (x2 : Int) (x3 : Int) (x4 : Int) (x5 : Int) (hl : k < L.length), L[k] = ⟨x0, x1, x2, x3, x4, x5⟩ ∧ w.cell? ⟨g, o + k * 6, none⟩ = some (.int .i64 x0) ∧ w.cell? ⟨g, o + k * 6 + 1, none⟩ = some (.int .i64 x1) ∧ w.cell? ⟨g, o + k * 6 + 2, none⟩ = some (.int .i64 x2) ∧ w.cell? ⟨g, o + k * 6 + 3, none⟩ = some (.int .i64 x3) ∧ w.cell? ⟨g, o + k * 6 + 4, none⟩ = some (.int .i64 x4) ∧ w.cell? ⟨g, o + k * 6 + 5, none⟩ = some (.int .i64 x5) :=
  have hl : k < L.length := by omega
  ⟨_, _, _, _, _, _, hl, rfl, rl_cells (h k hl)⟩
theorem rl_new (w : World) (x0 : Int) (x1 : Int) (x2 : Int) (x3 : Int) (x4 : Int) (x5 : Int) (t : TypeId) : VAt (w.alloc (Obj.cells #[.int .i64 x0, .int .i64 x1, .int .i64 x2, .int .i64 x3, .int .i64 x4, .int .i64 x5] t)) w.heap.size 0 (rlE.c ⟨x0, x1, x2, x3, x4, x5⟩) := vat_new w [.int .i64 x0, .int .i64 x1, .int .i64 x2, .int .i64 x3, .int .i64 x4, .int .i64 x5] t
theorem rl_row (w : World) (x0 : Int) (x1 : Int) (x2 : Int) (x3 : Int) (x4 : Int) (x5 : Int) (t : TypeId) : GS rlE (w.alloc (Obj.cells #[.int .i64 x0, .int .i64 x1, .int .i64 x2, .int .i64 x3, .int .i64 x4, .int .i64 x5] t)) (.slice (some ⟨w.heap.size, 0, none⟩) 1 1) [⟨x0, x1, x2, x3, x4, x5⟩] := gs_one (E := rlE) w ⟨x0, x1, x2, x3, x4, x5⟩ t (vs := [.int .i64 x0, .int .i64 x1, .int .i64 x2, .int .i64 x3, .int .i64 x4, .int .i64 x5]) rfl
/-- Are two the same? -/
def rlB (a b : Ru) : Bool := (a.p == b.p) && ((a.m == b.m) && ((a.b == b.b) && ((a.o == b.o) && ((a.s == b.s) && ((a.v == b.v))))))
theorem rlB_iff (a b : Ru) : rlB a b = true ↔ a = b := by
  have e : rlB a b = ((a.p == b.p) && ((a.m == b.m) && ((a.b == b.b) && ((a.o == b.o) && ((a.s == b.s) && ((a.v == b.v))))))) := rfl
  rw [e]
  simp only [Bool.and_eq_true, beq_iff_eq]
  constructor
  · intro h
    obtain ⟨a0, a1, a2, a3, a4, a5⟩ := a; obtain ⟨b0, b1, b2, b3, b4, b5⟩ := b; simp at h ⊢; simp [h]
  · intro h
    subst h
    simp
theorem rl_ways (x0 : Int) (x1 : Int) (x2 : Int) (x3 : Int) (x4 : Int) (x5 : Int) (y0 : Int) (y1 : Int) (y2 : Int) (y3 : Int) (y4 : Int) (y5 : Int) :
    ((x0 == y0) = false ∧ rlB ⟨x0, x1, x2, x3, x4, x5⟩ ⟨y0, y1, y2, y3, y4, y5⟩ = false) ∨
    ((x0 == y0) = true ∧ (x1 == y1) = false ∧ rlB ⟨x0, x1, x2, x3, x4, x5⟩ ⟨y0, y1, y2, y3, y4, y5⟩ = false) ∨
    ((x0 == y0) = true ∧ (x1 == y1) = true ∧ (x2 == y2) = false ∧ rlB ⟨x0, x1, x2, x3, x4, x5⟩ ⟨y0, y1, y2, y3, y4, y5⟩ = false) ∨
    ((x0 == y0) = true ∧ (x1 == y1) = true ∧ (x2 == y2) = true ∧ (x3 == y3) = false ∧ rlB ⟨x0, x1, x2, x3, x4, x5⟩ ⟨y0, y1, y2, y3, y4, y5⟩ = false) ∨
    ((x0 == y0) = true ∧ (x1 == y1) = true ∧ (x2 == y2) = true ∧ (x3 == y3) = true ∧ (x4 == y4) = false ∧ rlB ⟨x0, x1, x2, x3, x4, x5⟩ ⟨y0, y1, y2, y3, y4, y5⟩ = false) ∨
    ((x0 == y0) = true ∧ (x1 == y1) = true ∧ (x2 == y2) = true ∧ (x3 == y3) = true ∧ (x4 == y4) = true ∧ (x5 == y5) = false ∧ rlB ⟨x0, x1, x2, x3, x4, x5⟩ ⟨y0, y1, y2, y3, y4, y5⟩ = false) ∨
    ((x0 == y0) = true ∧ (x1 == y1) = true ∧ (x2 == y2) = true ∧ (x3 == y3) = true ∧ (x4 == y4) = true ∧ (x5 == y5) = true ∧ rlB ⟨x0, x1, x2, x3, x4, x5⟩ ⟨y0, y1, y2, y3, y4, y5⟩ = true) := by
  have e : rlB ⟨x0, x1, x2, x3, x4, x5⟩ ⟨y0, y1, y2, y3, y4, y5⟩ = ((x0 == y0) && ((x1 == y1) && ((x2 == y2) && ((x3 == y3) && ((x4 == y4) && ((x5 == y5))))))) := rfl
  rw [e]
  cases h0 : (x0 == y0)
  · simp
  · skip
    cases h1 : (x1 == y1)
    · simp
    · skip
      cases h2 : (x2 == y2)
      · simp
      · skip
        cases h3 : (x3 == y3)
        · simp
        · skip
          cases h4 : (x4 == y4)
          · simp
          · skip
            cases h5 : (x5 == y5)
            · simp
            · skip
              simp
set_option maxRecDepth 100000 in
theorem rl_eq (x0 : Int) (x1 : Int) (x2 : Int) (x3 : Int) (x4 : Int) (x5 : Int) (y0 : Int) (y1 : Int) (y2 : Int) (y3 : Int) (y4 : Int) (y5 : Int) (w : World) : (Op.equal 32 (.agg #[.int .i64 x0, .int .i64 x1, .int .i64 x2, .int .i64 x3, .int .i64 x4, .int .i64 x5]) (.agg #[.int .i64 y0, .int .i64 y1, .int .i64 y2, .int .i64 y3, .int .i64 y4, .int .i64 y5])).run Try.prog w = .ok (rlB ⟨x0, x1, x2, x3, x4, x5⟩ ⟨y0, y1, y2, y3, y4, y5⟩) w := by
  unfold Op.equal Op.maxDepth
  rw [run_equalIn_struct w 9999 _ _ _ (by kernel_rfl) (by kernel_rfl)]
  rcases rl_ways x0 x1 x2 x3 x4 x5 y0 y1 y2 y3 y4 y5 with ⟨e0, e⟩ | ⟨e0, e1, e⟩ | ⟨e0, e1, e2, e⟩ | ⟨e0, e1, e2, e3, e⟩ | ⟨e0, e1, e2, e3, e4, e⟩ | ⟨e0, e1, e2, e3, e4, e5, e⟩ | ⟨e0, e1, e2, e3, e4, e5, e⟩
  all_goals
    rw [e]
    go_simp
theorem rl_info : (Try.prog.info? 32).map (fun i => (i.zero, i.size, i.bytes)) = some (some (.agg #[.int .i64 0, .int .i64 0, .int .i64 0, .int .i64 0, .int .i64 0, .int .i64 0]), 6, 48) := by kernel_rfl
theorem rl_zero : (Value.agg #[.int .i64 0, .int .i64 0, .int .i64 0, .int .i64 0, .int .i64 0, .int .i64 0]).cells.size = 6 := by simp [Value.cells]
/-- Cells that read as one. -/
theorem rl_open {H : Type} {enc : TypeId × Value → H} {W : World} {n : Nat} {cs : List Value} {x : DataW H × List MemPlace}
    (h : DataW.trod enc Try.prog W 0 (fun _ => true) true n 32 cs = some x) : ∃ y, cs = rlE.c y := by
  obtain ⟨xs, k, _, _, hl, hlen, hf⟩ := DataW.trod_struct Try.underlying32 h
  have hC : Try.prog.cellsOf 32 = 6 := by kernel_rfl
  have hT0 : Try.prog.cellsOf 3 = 1 := by kernel_rfl
  have hT1 : Try.prog.cellsOf 30 = 2 := by kernel_rfl
  rw [hC] at hl
  match cs, hl with
  | [c0, c1, c2, c3, c4, c5], _ =>
    match xs, hlen with
    | [z0, z1, z2, z3, z4], _ =>
      have g0 := hf 0 _ rfl
      have g1 := hf 1 _ rfl
      have g2 := hf 2 _ rfl
      have g3 := hf 3 _ rfl
      have g4 := hf 4 _ rfl
      simp [hT0, hT1] at g0 g1 g2 g3 g4
      obtain ⟨v0, e0, _, _⟩ := DataW.trod_int Try.underlying3 g0
      obtain ⟨s1, e1⟩ := cu_open g1
      obtain ⟨v3, e2, _, _⟩ := DataW.trod_int Try.underlying3 g2
      obtain ⟨v4, e3, _, _⟩ := DataW.trod_int Try.underlying3 g3
      obtain ⟨v5, e4, _, _⟩ := DataW.trod_int Try.underlying3 g4
      simp [cuE] at e0 e1 e2 e3 e4
      refine ⟨⟨v0, s1.1, s1.2, v3, v4, v5⟩, ?_⟩
      simp [rlE, e0, e1, e2, e3, e4]
set_option maxRecDepth 100000 in
/-- One that came in. -/
theorem rl_of {H : Type} {enc : TypeId × Value → H} {W : World} {base : Nat} {v : Value} {d : DataW H} {p : List MemPlace}
    (hv : Value.okWide Try.prog W .any base 32 v) (h : DataW.Trod enc Try.prog W 0 (fun _ => true) true 32 v d p) : ∃ (x0 : Int) (x1 : Int) (x2 : Int) (x3 : Int) (x4 : Int) (x5 : Int), v = .agg #[.int .i64 x0, .int .i64 x1, .int .i64 x2, .int .i64 x3, .int .i64 x4, .int .i64 x5] := by
  obtain ⟨cs, rfl, hsz⟩ := okWide_struct Try.underlying32 hv
  obtain ⟨n, hn⟩ := h
  obtain ⟨y, e⟩ := rl_open hn
  refine ⟨y.p, y.m, y.b, y.o, y.s, y.v, ?_⟩
  simp only [Value.cells] at e
  have e2 : cs = #[.int .i64 y.p, .int .i64 y.m, .int .i64 y.b, .int .i64 y.o, .int .i64 y.s, .int .i64 y.v] := by
    rw [← Array.toArray_toList (xs := cs), e]
    rfl
  rw [e2]
/-- A slice of them that came in. -/
theorem rls_of {H : Type} {enc : TypeId × Value → H} {W : World} {base : Nat} {v : Value} {d : DataW H} {p : List MemPlace}
    (hv : Value.okWide Try.prog W .any base 35 v) (h : DataW.Trod enc Try.prog W 0 (fun _ => true) true 35 v d p) : ∃ L, GS rlE W v L :=
  gs_of (E := rlE) 35 32 Try.underlying35 (by kernel_rfl) ⟨0, 0, 0, 0, 0, 0⟩ (fun _ _ _ h => rl_open h) hv h
end Go.Proofs.Ytmpjoepfgfbjmaa
/- The struct api.Op: its cells, slices of them, == of two, such that came in. Written by mk/struct.py. -/
namespace Go.Proofs.Ytmpjoepfgfbjmaa
open Go.ChangeShapes Go.WideShapes Go.ChangeAt Go.RowKit Go.Joins
set_option linter.unusedSimpArgs false
set_option linter.unusedVariables false
set_option maxRecDepth 100000

def opE : Enc (Op8) where
  c := fun x => [.int .i64 x.w, .bool x.a, .int .i64 x.r.p, .int .i64 x.r.m, .int .i64 x.r.b, .int .i64 x.r.o, .int .i64 x.r.s, .int .i64 x.r.v]
  n := 8
  len := fun _ => rfl
  pos := by decide
  one := by
    intro x u hu
    simp at hu
    rcases hu with rfl | rfl | rfl | rfl | rfl | rfl | rfl | rfl <;> rfl
theorem op_cells {w : World} {g o : Nat} {x0 : Int} {x1 : Bool} {x2 : Int} {x3 : Int} {x4 : Int} {x5 : Int} {x6 : Int} {x7 : Int} (h : VAt w g o (opE.c ⟨x0, x1, ⟨x2, x3, x4, x5, x6, x7⟩⟩)) : w.cell? ⟨g, o, none⟩ = some (.int .i64 x0) ∧ w.cell? ⟨g, o + 1, none⟩ = some (.bool x1) ∧ w.cell? ⟨g, o + 2, none⟩ = some (.int .i64 x2) ∧ w.cell? ⟨g, o + 3, none⟩ = some (.int .i64 x3) ∧ w.cell? ⟨g, o + 4, none⟩ = some (.int .i64 x4) ∧ w.cell? ⟨g, o + 5, none⟩ = some (.int .i64 x5) ∧ w.cell? ⟨g, o + 6, none⟩ = some (.int .i64 x6) ∧ w.cell? ⟨g, o + 7, none⟩ = some (.int .i64 x7) :=
  ⟨h 0 _ rfl, h 1 _ rfl, h 2 _ rfl, h 3 _ rfl, h 4 _ rfl, h 5 _ rfl, h 6 _ rfl, h 7 _ rfl⟩
theorem op_at {w : World} {g o : Nat} {L : List (Op8)} (h : GAt opE w g o L) {n k : Nat} (hn : L.length = n) (hk : k < n) :
    ∃ (x0 : Int) (x1 : Bool) (x2 : Int) (x3 : Int) (x4 : Int) (x5 : Int) (x6 : Int) (x7 : Int) (hl : k < L.length), L[k] = ⟨x0, x1, ⟨x2, x3, x4, x5, x6, x7⟩⟩ ∧ w.cell? ⟨g, o + k * 8, none⟩ = some (.int .i64 x0) ∧ w.cell? ⟨g, o + k * 8 + 1, none⟩ = some (.bool x1) ∧ w.cell? ⟨g, o + k * 8 + 2, none⟩ = some (.int .i64 x2) ∧ w.cell? ⟨g, o + k * 8 + 3, none⟩ = some (.int .i64 x3) ∧ w.cell? ⟨g, o + k * 8 + 4, none⟩ = some (.int .i64 x4) ∧ w.cell? ⟨g, o + k * 8 + 5, none⟩ = some (.int .i64 x5) ∧ w.cell? ⟨g, o + k * 8 + 6, none⟩ = some (.int .i64 x6) ∧ w.cell? ⟨g, o + k * 8 + 7, none⟩ = some (.int .i64 x7) :=
  have hl : k < L.length := by omega
  ⟨_, _, _, _, _, _, _, _, hl, rfl, op_cells (h k hl)⟩
theorem op_new (w : World) (x0 : Int) (x1 : Bool) (x2 : Int) (x3 : Int) (x4 : Int) (x5 : Int) (x6 : Int) (x7 : Int) (t : TypeId) : VAt (w.alloc (Obj.cells #[.int .i64 x0, .bool x1, .int .i64 x2, .int .i64 x3, .int .i64 x4, .int .i64 x5, .int .i64 x6, .int .i64 x7] t)) w.heap.size 0 (opE.c ⟨x0, x1, ⟨x2, x3, x4, x5, x6, x7⟩⟩) := vat_new w [.int .i64 x0, .bool x1, .int .i64 x2, .int .i64 x3, .int .i64 x4, .int .i64 x5, .int .i64 x6, .int .i64 x7] t
theorem op_row (w : World) (x0 : Int) (x1 : Bool) (x2 : Int) (x3 : Int) (x4 : Int) (x5 : Int) (x6 : Int) (x7 : Int) (t : TypeId) : GS opE (w.alloc (Obj.cells #[.int .i64 x0, .bool x1, .int .i64 x2, .int .i64 x3, .int .i64 x4, .int .i64 x5, .int .i64 x6, .int .i64 x7] t)) (.slice (some ⟨w.heap.size, 0, none⟩) 1 1) [⟨x0, x1, ⟨x2, x3, x4, x5, x6, x7⟩⟩] := gs_one (E := opE) w ⟨x0, x1, ⟨x2, x3, x4, x5, x6, x7⟩⟩ t (vs := [.int .i64 x0, .bool x1, .int .i64 x2, .int .i64 x3, .int .i64 x4, .int .i64 x5, .int .i64 x6, .int .i64 x7]) rfl
/-- Are two the same? -/
def opB (a b : Op8) : Bool := (a.w == b.w) && ((a.a == b.a) && ((a.r.p == b.r.p) && ((a.r.m == b.r.m) && ((a.r.b == b.r.b) && ((a.r.o == b.r.o) && ((a.r.s == b.r.s) && ((a.r.v == b.r.v))))))))
theorem opB_iff (a b : Op8) : opB a b = true ↔ a = b := by
  have e : opB a b = ((a.w == b.w) && ((a.a == b.a) && ((a.r.p == b.r.p) && ((a.r.m == b.r.m) && ((a.r.b == b.r.b) && ((a.r.o == b.r.o) && ((a.r.s == b.r.s) && ((a.r.v == b.r.v))))))))) := rfl
  rw [e]
  simp only [Bool.and_eq_true, beq_iff_eq]
  constructor
  · intro h
    obtain ⟨a0, a1, ⟨a2, a3, a4, a5, a6, a7⟩⟩ := a; obtain ⟨b0, b1, ⟨b2, b3, b4, b5, b6, b7⟩⟩ := b; simp at h ⊢; simp [h]
  · intro h
    subst h
    simp
theorem op_ways (x0 : Int) (x1 : Bool) (x2 : Int) (x3 : Int) (x4 : Int) (x5 : Int) (x6 : Int) (x7 : Int) (y0 : Int) (y1 : Bool) (y2 : Int) (y3 : Int) (y4 : Int) (y5 : Int) (y6 : Int) (y7 : Int) :
    ((x0 == y0) = false ∧ opB ⟨x0, x1, ⟨x2, x3, x4, x5, x6, x7⟩⟩ ⟨y0, y1, ⟨y2, y3, y4, y5, y6, y7⟩⟩ = false) ∨
    ((x0 == y0) = true ∧ (x1 == y1) = false ∧ opB ⟨x0, x1, ⟨x2, x3, x4, x5, x6, x7⟩⟩ ⟨y0, y1, ⟨y2, y3, y4, y5, y6, y7⟩⟩ = false) ∨
    ((x0 == y0) = true ∧ (x1 == y1) = true ∧ (x2 == y2) = false ∧ opB ⟨x0, x1, ⟨x2, x3, x4, x5, x6, x7⟩⟩ ⟨y0, y1, ⟨y2, y3, y4, y5, y6, y7⟩⟩ = false) ∨
    ((x0 == y0) = true ∧ (x1 == y1) = true ∧ (x2 == y2) = true ∧ (x3 == y3) = false ∧ opB ⟨x0, x1, ⟨x2, x3, x4, x5, x6, x7⟩⟩ ⟨y0, y1, ⟨y2, y3, y4, y5, y6, y7⟩⟩ = false) ∨
    ((x0 == y0) = true ∧ (x1 == y1) = true ∧ (x2 == y2) = true ∧ (x3 == y3) = true ∧ (x4 == y4) = false ∧ opB ⟨x0, x1, ⟨x2, x3, x4, x5, x6, x7⟩⟩ ⟨y0, y1, ⟨y2, y3, y4, y5, y6, y7⟩⟩ = false) ∨
    ((x0 == y0) = true ∧ (x1 == y1) = true ∧ (x2 == y2) = true ∧ (x3 == y3) = true ∧ (x4 == y4) = true ∧ (x5 == y5) = false ∧ opB ⟨x0, x1, ⟨x2, x3, x4, x5, x6, x7⟩⟩ ⟨y0, y1, ⟨y2, y3, y4, y5, y6, y7⟩⟩ = false) ∨
    ((x0 == y0) = true ∧ (x1 == y1) = true ∧ (x2 == y2) = true ∧ (x3 == y3) = true ∧ (x4 == y4) = true ∧ (x5 == y5) = true ∧ (x6 == y6) = false ∧ opB ⟨x0, x1, ⟨x2, x3, x4, x5, x6, x7⟩⟩ ⟨y0, y1, ⟨y2, y3, y4, y5, y6, y7⟩⟩ = false) ∨
    ((x0 == y0) = true ∧ (x1 == y1) = true ∧ (x2 == y2) = true ∧ (x3 == y3) = true ∧ (x4 == y4) = true ∧ (x5 == y5) = true ∧ (x6 == y6) = true ∧ (x7 == y7) = false ∧ opB ⟨x0, x1, ⟨x2, x3, x4, x5, x6, x7⟩⟩ ⟨y0, y1, ⟨y2, y3, y4, y5, y6, y7⟩⟩ = false) ∨
    ((x0 == y0) = true ∧ (x1 == y1) = true ∧ (x2 == y2) = true ∧ (x3 == y3) = true ∧ (x4 == y4) = true ∧ (x5 == y5) = true ∧ (x6 == y6) = true ∧ (x7 == y7) = true ∧ opB ⟨x0, x1, ⟨x2, x3, x4, x5, x6, x7⟩⟩ ⟨y0, y1, ⟨y2, y3, y4, y5, y6, y7⟩⟩ = true) := by
  have e : opB ⟨x0, x1, ⟨x2, x3, x4, x5, x6, x7⟩⟩ ⟨y0, y1, ⟨y2, y3, y4, y5, y6, y7⟩⟩ = ((x0 == y0) && ((x1 == y1) && ((x2 == y2) && ((x3 == y3) && ((x4 == y4) && ((x5 == y5) && ((x6 == y6) && ((x7 == y7))))))))) := rfl
  rw [e]
  cases h0 : (x0 == y0)
  · simp
  · skip
    cases h1 : (x1 == y1)
    · simp
    · skip
      cases h2 : (x2 == y2)
      · simp
      · skip
        cases h3 : (x3 == y3)
        · simp
        · skip
          cases h4 : (x4 == y4)
          · simp
          · skip
            cases h5 : (x5 == y5)
            · simp
            · skip
              cases h6 : (x6 == y6)
              · simp
              · skip
                cases h7 : (x7 == y7)
                · simp
                · skip
                  simp
set_option maxRecDepth 100000 in
theorem op_eq (x0 : Int) (x1 : Bool) (x2 : Int) (x3 : Int) (x4 : Int) (x5 : Int) (x6 : Int) (x7 : Int) (y0 : Int) (y1 : Bool) (y2 : Int) (y3 : Int) (y4 : Int) (y5 : Int) (y6 : Int) (y7 : Int) (w : World) : (Op.equal 52 (.agg #[.int .i64 x0, .bool x1, .int .i64 x2, .int .i64 x3, .int .i64 x4, .int .i64 x5, .int .i64 x6, .int .i64 x7]) (.agg #[.int .i64 y0, .bool y1, .int .i64 y2, .int .i64 y3, .int .i64 y4, .int .i64 y5, .int .i64 y6, .int .i64 y7])).run Try.prog w = .ok (opB ⟨x0, x1, ⟨x2, x3, x4, x5, x6, x7⟩⟩ ⟨y0, y1, ⟨y2, y3, y4, y5, y6, y7⟩⟩) w := by
  unfold Op.equal Op.maxDepth
  rw [run_equalIn_struct w 9999 _ _ _ (by kernel_rfl) (by kernel_rfl)]
  rcases op_ways x0 x1 x2 x3 x4 x5 x6 x7 y0 y1 y2 y3 y4 y5 y6 y7 with ⟨e0, e⟩ | ⟨e0, e1, e⟩ | ⟨e0, e1, e2, e⟩ | ⟨e0, e1, e2, e3, e⟩ | ⟨e0, e1, e2, e3, e4, e⟩ | ⟨e0, e1, e2, e3, e4, e5, e⟩ | ⟨e0, e1, e2, e3, e4, e5, e6, e⟩ | ⟨e0, e1, e2, e3, e4, e5, e6, e7, e⟩ | ⟨e0, e1, e2, e3, e4, e5, e6, e7, e⟩
  all_goals
    rw [e]
    go_simp
theorem op_info : (Try.prog.info? 52).map (fun i => (i.zero, i.size, i.bytes)) = some (some (.agg #[.int .i64 0, .bool false, .int .i64 0, .int .i64 0, .int .i64 0, .int .i64 0, .int .i64 0, .int .i64 0]), 8, 64) := by kernel_rfl
theorem op_zero : (Value.agg #[.int .i64 0, .bool false, .int .i64 0, .int .i64 0, .int .i64 0, .int .i64 0, .int .i64 0, .int .i64 0]).cells.size = 8 := by simp [Value.cells]
/-- Cells that read as one. -/
theorem op_open {H : Type} {enc : TypeId × Value → H} {W : World} {n : Nat} {cs : List Value} {x : DataW H × List MemPlace}
    (h : DataW.trod enc Try.prog W 0 (fun _ => true) true n 52 cs = some x) : ∃ y, cs = opE.c y := by
  obtain ⟨xs, k, _, _, hl, hlen, hf⟩ := DataW.trod_struct Try.underlying52 h
  have hC : Try.prog.cellsOf 52 = 8 := by kernel_rfl
  have hT0 : Try.prog.cellsOf 3 = 1 := by kernel_rfl
  have hT1 : Try.prog.cellsOf 4 = 1 := by kernel_rfl
  have hT2 : Try.prog.cellsOf 32 = 6 := by kernel_rfl
  rw [hC] at hl
  match cs, hl with
  | [c0, c1, c2, c3, c4, c5, c6, c7], _ =>
    match xs, hlen with
    | [z0, z1, z2], _ =>
      have g0 := hf 0 _ rfl
      have g1 := hf 1 _ rfl
      have g2 := hf 2 _ rfl
      simp [hT0, hT1, hT2] at g0 g1 g2
      obtain ⟨v0, e0, _, _⟩ := DataW.trod_int Try.underlying3 g0
      obtain ⟨v1, e1, _⟩ := DataW.trod_bool Try.underlying4 g1
      obtain ⟨s2, e2⟩ := rl_open g2
      simp [rlE] at e0 e1 e2
      refine ⟨⟨v0, v1, ⟨s2.p, s2.m, s2.b, s2.o, s2.s, s2.v⟩⟩, ?_⟩
      simp [opE, e0, e1, e2]
set_option maxRecDepth 100000 in
/-- One that came in. -/
theorem op_of {H : Type} {enc : TypeId × Value → H} {W : World} {base : Nat} {v : Value} {d : DataW H} {p : List MemPlace}
    (hv : Value.okWide Try.prog W .any base 52 v) (h : DataW.Trod enc Try.prog W 0 (fun _ => true) true 52 v d p) : ∃ (x0 : Int) (x1 : Bool) (x2 : Int) (x3 : Int) (x4 : Int) (x5 : Int) (x6 : Int) (x7 : Int), v = .agg #[.int .i64 x0, .bool x1, .int .i64 x2, .int .i64 x3, .int .i64 x4, .int .i64 x5, .int .i64 x6, .int .i64 x7] := by
  obtain ⟨cs, rfl, hsz⟩ := okWide_struct Try.underlying52 hv
  obtain ⟨n, hn⟩ := h
  obtain ⟨y, e⟩ := op_open hn
  refine ⟨y.w, y.a, y.r.p, y.r.m, y.r.b, y.r.o, y.r.s, y.r.v, ?_⟩
  simp only [Value.cells] at e
  have e2 : cs = #[.int .i64 y.w, .bool y.a, .int .i64 y.r.p, .int .i64 y.r.m, .int .i64 y.r.b, .int .i64 y.r.o, .int .i64 y.r.s, .int .i64 y.r.v] := by
    rw [← Array.toArray_toList (xs := cs), e]
    rfl
  rw [e2]
/-- A slice of them that came in. -/
theorem ops_of {H : Type} {enc : TypeId × Value → H} {W : World} {base : Nat} {v : Value} {d : DataW H} {p : List MemPlace}
    (hv : Value.okWide Try.prog W .any base 53 v) (h : DataW.Trod enc Try.prog W 0 (fun _ => true) true 53 v d p) : ∃ L, GS opE W v L :=
  gs_of (E := opE) 53 52 Try.underlying53 (by kernel_rfl) ⟨0, false, ⟨0, 0, 0, 0, 0, 0⟩⟩ (fun _ _ _ h => op_open h) hv h
end Go.Proofs.Ytmpjoepfgfbjmaa
/- Classes of numbers by what a function says of them, in plain lists. No program in it. -/
namespace Go.Proofs.Ytmpjoepfgfbjmaa
open Go.RowKit
set_option linter.unusedVariables false

/-- The place of the class of k among what was said of the classes so far; -1: none. -/
def ixC (f : Int → List Int) (k : Int) (Ps : List (List Int)) : Int := ixG (fun p => p == f k) Ps
/-- The classes of the first k numbers, and what the function says of each. -/
def kcTo (f : Int → List Int) : Nat → List (List Int) × List (List Int)
  | 0 => ([], [])
  | k + 1 =>
    if ixC f k (kcTo f k).2 < 0 then ((kcTo f k).1 ++ [[(k : Int)]], (kcTo f k).2 ++ [f k])
    else ((kcTo f k).1.set (ixC f k (kcTo f k).2).toNat ((kcTo f k).1.getD (ixC f k (kcTo f k).2).toNat [] ++ [(k : Int)]), (kcTo f k).2)
theorem ixG_lt {α : Type} {q : α → Bool} {L : List α} (h : 0 ≤ ixG q L) : (ixG q L).toNat < L.length ∧ ∀ (hl : (ixG q L).toNat < L.length), q L[(ixG q L).toNat] = true := by
  unfold ixG at h ⊢
  cases e : L.any q
  · rw [e] at h
    simp at h
  · simp only [if_true, Int.toNat_natCast]
    have h1 : ∃ x, x ∈ L ∧ q x = true := by
      rw [List.any_eq_true] at e
      exact e
    have h2 := List.findIdx_lt_length.2 h1
    exact ⟨h2, fun hl => List.findIdx_getElem (w := hl)⟩
theorem ixG_neg {α : Type} {q : α → Bool} {L : List α} (h : ixG q L < 0) : ∀ x ∈ L, q x = false := by
  unfold ixG at h
  cases e : L.any q
  · rw [List.any_eq_false] at e
    intro x hx
    simpa using e x hx
  · rw [e] at h
    simp at h
    omega
theorem kc_yes {f : Int → List Int} {k : Nat} (h : ixC f k (kcTo f k).2 < 0) : kcTo f (k + 1) = ((kcTo f k).1 ++ [[(k : Int)]], (kcTo f k).2 ++ [f k]) := by rw [kcTo, if_pos h]
theorem kc_no {f : Int → List Int} {k : Nat} (h : ¬ ixC f k (kcTo f k).2 < 0) : kcTo f (k + 1) = ((kcTo f k).1.set (ixC f k (kcTo f k).2).toNat ((kcTo f k).1.getD (ixC f k (kcTo f k).2).toNat [] ++ [(k : Int)]), (kcTo f k).2) := by rw [kcTo, if_neg h]
theorem kc_len (f : Int → List Int) : ∀ k : Nat, (kcTo f k).1.length = (kcTo f k).2.length ∧ (kcTo f k).2.length ≤ k
  | 0 => by simp [kcTo]
  | k + 1 => by
    have ih := kc_len f k
    by_cases h : ixC f k (kcTo f k).2 < 0
    · rw [kc_yes h]
      simp only [List.length_append, List.length_cons, List.length_nil]
      omega
    · rw [kc_no h]
      simp only [List.length_set]
      omega
theorem kc_mem (f : Int → List Int) : ∀ (k : Nat) (p : List Int), p ∈ (kcTo f k).2 ↔ ∃ x : Nat, x < k ∧ p = f x
  | 0, p => by simp [kcTo]
  | k + 1, p => by
    have ih := kc_mem f k
    by_cases h : ixC f k (kcTo f k).2 < 0
    · rw [kc_yes h]
      simp only [List.mem_append, List.mem_singleton, ih]
      constructor
      · rintro (⟨x, h1, h2⟩ | h1)
        · exact ⟨x, by omega, h2⟩
        · exact ⟨k, by omega, h1⟩
      · rintro ⟨x, h1, h2⟩
        by_cases hx : x = k
        · subst hx; exact .inr h2
        · exact .inl ⟨x, by omega, h2⟩
    · rw [kc_no h]
      simp only [ih]
      constructor
      · rintro ⟨x, h1, h2⟩
        exact ⟨x, by omega, h2⟩
      · rintro ⟨x, h1, h2⟩
        by_cases hx : x = k
        · subst hx
          obtain ⟨j1, j2⟩ := ixG_lt (Int.not_lt.1 h)
          have j3 := eq_of_beq (j2 j1)
          rw [h2, ← j3]
          exact (ih _).1 (List.getElem_mem j1)
        · exact ⟨x, by omega, h2⟩
theorem kc_nd (f : Int → List Int) : ∀ (k : Nat), (kcTo f k).2.Nodup
  | 0 => by simp [kcTo]
  | k + 1 => by
    have ih := kc_nd f k
    by_cases h : ixC f k (kcTo f k).2 < 0
    · rw [kc_yes h]
      simp only [List.nodup_append]
      refine ⟨ih, by simp, ?_⟩
      intro a ha b hb hab
      simp at hb
      subst hb hab
      have := ixG_neg h _ ha
      simp at this
    · rw [kc_no h]
      exact ih
theorem nd_at {α : Type} {L : List α} (h : L.Nodup) {i j : Nat} {x : α} (hi : L[i]? = some x) (hj : L[j]? = some x) : i = j := by
  obtain ⟨i1, i2⟩ := List.getElem?_eq_some_iff.1 hi
  obtain ⟨j1, j2⟩ := List.getElem?_eq_some_iff.1 hj
  have := List.pairwise_iff_getElem.1 h
  rcases Nat.lt_trichotomy i j with h6 | h6 | h6
  · exact absurd (i2.trans j2.symm) (this i j i1 j1 h6)
  · exact h6
  · exact absurd (j2.trans i2.symm) (this j i j1 i1 h6)
/-- Those of the first k numbers of which this is said. -/
def saidL (f : Int → List Int) (k : Nat) (p : List Int) : List Int := ((List.range k).filter (fun (x : Nat) => f x == p)).map (fun (x : Nat) => (x : Int))
theorem said_next (f : Int → List Int) (k : Nat) (p : List Int) : saidL f (k + 1) p = saidL f k p ++ (if f k = p then [(k : Int)] else []) := by
  unfold saidL
  rw [List.range_succ, List.filter_append, List.map_append]
  by_cases h : f k = p
  · rw [if_pos h]; simp [h]
  · rw [if_neg h]; simp [h]
/-- What is so of the classes: the numbers of the i-th one are those of which the i-th thing is said. -/
theorem kc_said (f : Int → List Int) : ∀ (k i : Nat) (p : List Int), (kcTo f k).2[i]? = some p → (kcTo f k).1[i]? = some (saidL f k p)
  | 0, i, p, h => by simp [kcTo] at h
  | k + 1, i, p, hp => by
    have hl := kc_len f k
    have ih := kc_said f k i
    by_cases h : ixC f k (kcTo f k).2 < 0
    · rw [kc_yes h] at hp ⊢
      have hno := ixG_neg h
      by_cases hi : i < (kcTo f k).2.length
      · simp only [List.getElem?_append_left hi] at hp
        simp only [List.getElem?_append_left (show i < (kcTo f k).1.length by omega)]
        rw [ih p hp, said_next, if_neg, List.append_nil]
        intro h3
        have := hno p (List.mem_of_getElem? hp)
        simp [h3] at this
      · have hi2 : i = (kcTo f k).2.length := by
          have := (List.getElem?_eq_some_iff.1 hp).1
          simp at this
          omega
        subst hi2
        simp at hp
        subst hp
        have e : (kcTo f k).2.length = (kcTo f k).1.length := hl.1.symm
        rw [e]
        simp only [List.getElem?_concat_length, Option.some.injEq, said_next, if_true]
        have : saidL f k (f k) = [] := by
          unfold saidL
          rw [List.map_eq_nil_iff, List.filter_eq_nil_iff]
          intro x hx h3
          simp at hx h3
          have hm := (kc_mem f k (f x)).2 ⟨x, hx, rfl⟩
          have := hno _ hm
          simp [h3] at this
        rw [this]
        rfl
    · have hnd := kc_nd f k
      rw [kc_no h] at hp ⊢
      simp only at hp ⊢
      obtain ⟨j1, j2⟩ := ixG_lt (Int.not_lt.1 h)
      have j3 := eq_of_beq (j2 j1)
      have j5 : (kcTo f k).2[(ixC f k (kcTo f k).2).toNat]? = some (f k) := by
        show (kcTo f k).2[(ixG (fun p => p == f k) (kcTo f k).2).toNat]? = _
        rw [List.getElem?_eq_getElem j1, j3]
      have j6 : (ixC f k (kcTo f k).2).toNat < (kcTo f k).2.length := j1
      generalize (ixC f k (kcTo f k).2).toNat = j at j5 j6
      by_cases hij : j = i
      · subst hij
        rw [hp] at j5
        cases j5
        have h1 := ih _ hp
        have h2 : (kcTo f k).1.getD j [] = saidL f k (f k) := by rw [List.getD, h1]; rfl
        rw [List.getElem?_set_self (by omega), h2, said_next, if_pos rfl]
      · rw [List.getElem?_set_ne hij, ih p hp, said_next, if_neg, List.append_nil]
        intro h3
        rw [← h3] at hp
        exact hij (nd_at hnd j5 hp)
theorem kc_row (f : Int → List Int) (k i : Nat) (h1 : i < (kcTo f k).1.length) (h2 : i < (kcTo f k).2.length) : (kcTo f k).1[i] = ((List.range k).filter (fun (x : Nat) => f x == (kcTo f k).2[i])).map (fun (x : Nat) => (x : Int)) := by
  have := kc_said f k i _ (List.getElem?_eq_getElem h2)
  rw [List.getElem?_eq_getElem h1] at this
  exact Option.some.inj this
/-- A number is in the i-th class just if the i-th thing is said of it. -/
theorem kc_in {f : Int → List Int} {k i : Nat} (h1 : i < (kcTo f k).1.length) (h2 : i < (kcTo f k).2.length) {x : Int} : x ∈ (kcTo f k).1[i] ↔ ∃ y : Nat, y < k ∧ x = y ∧ f y = (kcTo f k).2[i] := by
  rw [kc_row f k i h1 h2]
  simp only [List.mem_map, List.mem_filter, List.mem_range, beq_iff_eq]
  constructor
  · rintro ⟨y, ⟨h3, h4⟩, rfl⟩
    exact ⟨y, h3, rfl, h4⟩
  · rintro ⟨y, h3, rfl, h4⟩
    exact ⟨y, ⟨h3, h4⟩, rfl⟩
theorem kc_size {f : Int → List Int} {k i : Nat} (h1 : i < (kcTo f k).1.length) : 0 < (kcTo f k).1[i].length ∧ (kcTo f k).1[i].length ≤ k := by
  have h2 : i < (kcTo f k).2.length := by have := kc_len f k; omega
  constructor
  · obtain ⟨x, hx, he⟩ := (kc_mem f k _).1 (List.getElem_mem h2)
    exact List.length_pos_of_mem ((kc_in h1 h2).2 ⟨x, hx, rfl, he.symm⟩)
  · rw [kc_row f k i h1 h2, List.length_map]
    exact Nat.le_trans (List.length_filter_le _ _) (by simp)
theorem kc_sizes {f : Int → List Int} {k : Nat} : ∀ C ∈ (kcTo f k).1, 0 < C.length ∧ C.length ≤ k := by
  intro C hC
  obtain ⟨i, hi, rfl⟩ := List.getElem_of_mem hC
  exact kc_size hi
/-- How often a number is there when one row has one more. -/
theorem count_set (x y : Int) : ∀ (L : List (List Int)) (i : Nat), i < L.length → (L.set i (L.getD i [] ++ [y])).flatten.count x = L.flatten.count x + if y = x then 1 else 0
  | [], i, h => by simp at h
  | a :: l, 0, _ => by
    simp only [List.set_cons_zero, List.getD_cons_zero, List.flatten_cons, List.count_append, List.count_singleton, beq_iff_eq]
    omega
  | a :: l, i + 1, h => by
    have := count_set x y l i (by simpa using h)
    simp only [List.set_cons_succ, List.getD_cons_succ, List.flatten_cons, List.count_append]
    rw [this]
    omega
/-- Each number is there once. -/
theorem kc_count (f : Int → List Int) (x : Int) : ∀ k : Nat, (kcTo f k).1.flatten.count x = if 0 ≤ x ∧ x < k then 1 else 0
  | 0 => by
    simp only [kcTo]
    rw [if_neg (by omega)]
    rfl
  | k + 1 => by
    have ih := kc_count f x k
    have key : (kcTo f (k + 1)).1.flatten.count x = (kcTo f k).1.flatten.count x + if (k : Int) = x then 1 else 0 := by
      by_cases h : ixC f k (kcTo f k).2 < 0
      · rw [kc_yes h]
        simp only [List.flatten_append, List.count_append, List.flatten_cons, List.flatten_nil, List.append_nil, List.count_singleton, beq_iff_eq]
      · rw [kc_no h]
        obtain ⟨j1, _⟩ := ixG_lt (Int.not_lt.1 h)
        have := kc_len f k
        exact count_set x k _ _ (by unfold ixC; omega)
    rw [key, ih]
    by_cases h1 : (k : Int) = x
    · rw [if_pos h1, if_neg (by omega), if_pos (by omega)]
    · rw [if_neg h1]
      by_cases h2 : 0 ≤ x ∧ x < (k : Int)
      · rw [if_pos h2, if_pos (by omega)]
      · rw [if_neg h2, if_neg (by omega)]
/-- The least of the first k. -/
def mnTo (L : List Int) : Nat → Int
  | 0 => 0
  | k + 1 => if k = 0 ∨ L.getD k 0 < mnTo L k then L.getD k 0 else mnTo L k
theorem mn_mem {L : List Int} : ∀ k, 0 < k → k ≤ L.length → mnTo L k ∈ L
  | 0, h, _ => by omega
  | k + 1, _, h => by
    have e : L.getD k 0 ∈ L := by
      rw [show L.getD k 0 = L[k] by simp [List.getD, show k < L.length by omega]]
      exact List.getElem_mem _
    rw [mnTo]
    split
    · exact e
    · next h1 => exact mn_mem k (by omega) (by omega)
/-- The place of the first list that has a number, the fault and the answer of Rep. -/
def hasL (h : Int) (C : List Int) : Bool := C.any (fun x => x == h)
def rpI (Ls : List (List Int)) (h : Int) : Int := ixG (hasL h) Ls
def rpN (Ls : List (List Int)) (h : Int) : Int := if rpI Ls h < 0 then 5 else 0
def rpV (Ls : List (List Int)) (h : Int) : Int := if rpI Ls h < 0 then 0 else mnTo (Ls.getD (rpI Ls h).toNat []) (Ls.getD (rpI Ls h).toNat []).length
theorem hasL_iff {h : Int} {C : List Int} : hasL h C = true ↔ h ∈ C := by
  simp [hasL]
/-- The first number's class: which thing is said of it, which is its least one. -/
theorem rp_of {f : Int → List Int} {k : Nat} {h : Int} (h0 : 0 ≤ h) (h1 : h < k) : ∃ i, ∃ (hi : i < (kcTo f k).1.length) (hj : i < (kcTo f k).2.length), rpN (kcTo f k).1 h = 0 ∧ rpV (kcTo f k).1 h = mnTo (kcTo f k).1[i] (kcTo f k).1[i].length ∧ f h = (kcTo f k).2[i] ∧ rpV (kcTo f k).1 h ∈ (kcTo f k).1[i] := by
  obtain ⟨y, rfl⟩ := Int.eq_ofNat_of_zero_le h0
  have hy : y < k := by omega
  obtain ⟨i, hi, he⟩ := List.getElem_of_mem ((kc_mem f k (f y)).2 ⟨y, hy, rfl⟩)
  have hi1 : i < (kcTo f k).1.length := by have := kc_len f k; omega
  have hin : (y : Int) ∈ (kcTo f k).1[i] := (kc_in hi1 hi).2 ⟨y, hy, rfl, he.symm⟩
  have hpos : 0 ≤ rpI (kcTo f k).1 y := by
    rcases Int.lt_or_le (rpI (kcTo f k).1 y) 0 with h2 | h2
    · have := ixG_neg h2 _ (List.getElem_mem hi1)
      rw [hasL_iff.2 hin] at this
      cases this
    · exact h2
  obtain ⟨j1, j2⟩ := ixG_lt hpos
  have j3 := hasL_iff.1 (j2 j1)
  have j4 : (ixG (hasL (y : Int)) (kcTo f k).1).toNat < (kcTo f k).2.length := by have := kc_len f k; omega
  obtain ⟨z, hz1, hz2, hz3⟩ := (kc_in j1 j4).1 j3
  have hzy : z = y := by omega
  subst hzy
  have eV : rpV (kcTo f k).1 z = mnTo (kcTo f k).1[(ixG (hasL (z : Int)) (kcTo f k).1).toNat] (kcTo f k).1[(ixG (hasL (z : Int)) (kcTo f k).1).toNat].length := by
    unfold rpV
    rw [if_neg (by omega)]
    have : (kcTo f k).1.getD (rpI (kcTo f k).1 z).toNat [] = (kcTo f k).1[(ixG (hasL (z : Int)) (kcTo f k).1).toNat] := by
      show (kcTo f k).1.getD (ixG (hasL (z : Int)) (kcTo f k).1).toNat [] = _
      simp only [List.getD, List.getElem?_eq_getElem j1, Option.getD_some]
    rw [this]
  refine ⟨_, j1, j4, ?_, eV, hz3, ?_⟩
  · unfold rpN
    rw [if_neg (by omega)]
  · rw [eV]
    exact mn_mem _ (kc_size j1).1 (Nat.le_refl _)
/-- ALIKE IS ALIKE: two have one least just if the same is said of both. -/
theorem rp_same {f : Int → List Int} {k : Nat} {h o : Int} (h0 : 0 ≤ h) (h1 : h < k) (o0 : 0 ≤ o) (o1 : o < k) : rpV (kcTo f k).1 h = rpV (kcTo f k).1 o ↔ f h = f o := by
  obtain ⟨i, i1, i2, _, i3, i4, i5⟩ := rp_of (f := f) h0 h1
  obtain ⟨j, j1, j2, _, j3, j4, j5⟩ := rp_of (f := f) o0 o1
  constructor
  · intro he
    rw [he] at i5
    obtain ⟨y, _, e1, e2⟩ := (kc_in i1 i2).1 i5
    obtain ⟨z, _, e3, e4⟩ := (kc_in j1 j2).1 j5
    have : y = z := by omega
    rw [i4, j4, ← e2, ← e4, this]
  · intro he
    have hij : i = j := by
      rw [i4, j4] at he
      exact nd_at (kc_nd f k) (List.getElem?_eq_getElem i2) (by rw [List.getElem?_eq_getElem j2, he])
    subst hij
    rw [i3, j3]
theorem nd_sub {α : Type} [BEq α] [LawfulBEq α] : ∀ {A B : List α}, A.Nodup → A ⊆ B → A.length ≤ B.length
  | [], _, _, _ => by simp
  | a :: A, B, h, hs => by
    have ha : a ∈ B := hs List.mem_cons_self
    have h1 : A ⊆ B.erase a := fun x hx => (List.mem_erase_of_ne (by rintro rfl; exact (List.nodup_cons.1 h).1 hx)).2 (hs (List.mem_cons_of_mem _ hx))
    have h2 := nd_sub (List.nodup_cons.1 h).2 h1
    rw [List.length_erase_of_mem ha] at h2
    have h3 := List.length_pos_of_mem ha
    simp only [List.length_cons]
    omega
/-- Of two functions of which the second says what the first says, or one thing more: it has one class more at most. -/
theorem kc_few {f g : Int → List Int} {k : Nat} (q : List Int) (h : ∀ x : Nat, x < k → g x = f x ∨ g x = q) : (kcTo g k).1.length ≤ (kcTo f k).1.length + 1 := by
  rw [(kc_len g k).1, (kc_len f k).1]
  have hsub : (kcTo g k).2 ⊆ q :: (kcTo f k).2 := by
    intro p hp
    obtain ⟨x, hx, rfl⟩ := (kc_mem g k p).1 hp
    rcases h x hx with e | e
    · rw [e]
      exact List.mem_cons_of_mem _ ((kc_mem f k _).2 ⟨x, hx, rfl⟩)
    · rw [e]
      exact List.mem_cons_self
  have := nd_sub (kc_nd g k) hsub
  simpa using this
theorem kc_pos {f : Int → List Int} {k : Nat} (hk : 0 < k) : 1 ≤ (kcTo f k).1.length := by
  have := (kc_mem f k (f (0 : Nat))).2 ⟨0, hk, rfl⟩
  have := List.length_pos_of_mem this
  have := kc_len f k
  omega
end Go.Proofs.Ytmpjoepfgfbjmaa
/- Lists of lists of numbers: where they lie, and such that a call owns, each in a block of its own. No program in it. -/
namespace Go.Proofs.Ytmpjoepfgfbjmaa
open Go.RowKit
set_option linter.unusedVariables false
set_option linter.unusedSimpArgs false

/-- Numbers, a cell each. -/
def inE : Enc Int where
  c := fun x => [.int .i64 x]
  n := 1
  len := fun _ => rfl
  pos := by decide
  one := by
    intro x u hu
    simp at hu
    subst hu
    rfl
theorem in_cells (L : List Int) : cellsG inE L = L.map (Value.int .i64) := by
  induction L with
  | nil => rfl
  | cons x r ih =>
    simp only [cellsG, List.flatMap_cons, List.map_cons] at *
    rw [ih]
    rfl
theorem in_at {w : World} {g o : Nat} {L : List Int} (h : GAt inE w g o L) {n k : Nat} (hn : L.length = n) (hk : k < n) : ∃ (x : Int) (hl : k < L.length), L[k] = x ∧ w.cell? ⟨g, o + k, none⟩ = some (.int .i64 x) := by
  have hl : k < L.length := by omega
  have := h k hl 0 _ rfl
  refine ⟨_, hl, rfl, ?_⟩
  have e : o + k * inE.n + 0 = o + k := by show o + k * 1 + 0 = o + k; omega
  rw [e] at this
  exact this
/-- A slice's three parts. -/
abbrev SlT : Type := Option Addr × Nat × Nat
def slV (x : SlT) : Value := .slice x.1 x.2.1 x.2.2
def slE : Enc SlT where
  c := fun x => [slV x]
  n := 1
  len := fun _ => rfl
  pos := by decide
  one := by
    intro x u hu
    simp at hu
    subst hu
    rfl
theorem sl_cells (L : List SlT) : cellsG slE L = L.map slV := by
  induction L with
  | nil => rfl
  | cons x r ih =>
    simp only [cellsG, List.flatMap_cons, List.map_cons] at *
    rw [ih]
    rfl
/-- These lists lie one behind the other. -/
def ILAt (w : World) (g o : Nat) (Ls : List (List Int)) : Prop := ∀ i (h : i < Ls.length), ∃ ao n cap, w.cell? ⟨g, o + i, none⟩ = some (.slice ao n cap) ∧ GS inE w (.slice ao n cap) Ls[i]
theorem ILAt.later {w w' : World} {g o : Nat} {Ls : List (List Int)} (h : ILAt w g o Ls) (hb : Below w.heap.size w w') : ILAt w' g o Ls := fun i hi => by
  obtain ⟨ao, n, cap, h1, h2⟩ := h i hi
  exact ⟨ao, n, cap, cell_later hb h1, h2.later hb⟩
/-- A value is a slice of these lists. -/
def ILS (w : World) (v : Value) (Ls : List (List Int)) : Prop :=
  (∃ ao cap, v = .slice ao 0 cap ∧ Ls = []) ∨ ∃ g o cap, v = .slice (some ⟨g, o, none⟩) Ls.length cap ∧ Ls.length ≤ cap ∧ cap ≤ maxLen ∧ ILAt w g o Ls
theorem ILS.later {w w' : World} {v : Value} {Ls : List (List Int)} (h : ILS w v Ls) (hb : Below w.heap.size w w') : ILS w' v Ls := by
  rcases h with h | ⟨g, o, cap, h1, h2, h3, h4⟩
  · exact .inl h
  · exact .inr ⟨g, o, cap, h1, h2, h3, h4.later hb⟩
theorem ILS.nil (w : World) : ILS w (.slice none 0 0) [] := .inl ⟨none, 0, rfl, rfl⟩
theorem ILS.form {w : World} {v : Value} {Ls : List (List Int)} (h : ILS w v Ls) : ∃ ao n cap, v = .slice ao n cap ∧ Ls.length = n ∧ n ≤ maxLen ∧ n ≤ cap ∧ (0 < n → ∃ g o, ao = some ⟨g, o, none⟩ ∧ ILAt w g o Ls ∧ cap ≤ maxLen) := by
  rcases h with ⟨ao, cap, rfl, rfl⟩ | ⟨g, o, cap, rfl, h1, h2, h3⟩
  · exact ⟨ao, 0, cap, rfl, rfl, Nat.zero_le _, Nat.zero_le _, fun h => absurd h (by omega)⟩
  · exact ⟨_, _, cap, rfl, rfl, Nat.le_trans h1 h2, h1, fun _ => ⟨g, o, rfl, h3, h2⟩⟩
/-- The k-th of such a list. -/
theorem ILAt.at {w : World} {g o : Nat} {Ls : List (List Int)} (h : ILAt w g o Ls) {n k : Nat} (hn : Ls.length = n) (hk : k < n) : ∃ ao m cap, w.cell? ⟨g, o + k, none⟩ = some (.slice ao m cap) ∧ GS inE w (.slice ao m cap) (Ls.getD k []) := by
  have hl : k < Ls.length := by omega
  obtain ⟨ao, m, cap, h1, h2⟩ := h k hl
  refine ⟨ao, m, cap, h1, ?_⟩
  rw [show Ls.getD k [] = Ls[k] by simp [List.getD, hl]]
  exact h2

/-- Two rows of two kinds lie in two blocks. -/
theorem own_rows2 {w : World} {b1 e1 s1 n1 b2 e2 s2 n2 : Nat} {v1 v2 : Value} {x1 x2 : List Value} (h1 : w.ownsRow b1 e1 s1 v1 n1 x1) (h2 : w.ownsRow b2 e2 s2 v2 n2 x2) (he : e1 ≠ e2) : v1.ownBlock = none ∨ v1.ownBlock ≠ v2.ownBlock := by
  rcases h1.2 with ⟨rfl, _⟩ | ⟨g, cap, cur, rfl, _, hg, _⟩
  · exact .inl rfl
  · refine .inr ?_
    rcases h2.2 with ⟨rfl, _⟩ | ⟨g2, cap2, cur2, rfl, _, hg2, _⟩
    · exact fun h => by cases h
    · intro h
      simp only [Value.ownBlock, Option.some.injEq] at h
      subst h
      rw [hg] at hg2
      simp only [Option.some.injEq, Obj.cells.injEq] at hg2
      exact he hg2.2.1
theorem grown_below {w w' : World} (hb : Below w.heap.size w w') : w.grownBy w' none := ⟨hb.os, hb.tape, hb.output, hb.size, fun k hk _ => hb.block k hk⟩
theorem grown_set (w : World) (b i : Nat) (v : Value) : w.grownBy (w.setCell ⟨b, i, none⟩ v) (some b) :=
  ⟨rfl, rfl, rfl, by simp [World.setCell], fun k _ hk => Below.heap_setCell _ _ _ _ (fun e => hk (by simp [e]))⟩
theorem none_or (o : Option Nat) : o = none ∨ o ≠ none := by cases o <;> simp
/-- Where a row lies behind one more thing: where it lay, or in a new block. -/
theorem run_append_blk {P : Program} {w : World} {base : Nat} (t ty e : TypeId) (i : TypeInfo) (z : Value) (ht : P.underlying t = some (.slice e)) (hi : P.info? e = some i) (hz : i.zero = some z)
    (v : Value) (n : Nat) (xs : List Value) (hown : w.ownsRow base e i.size v n xs)
    (a : Addr) (c : Nat) (news : List Value) (hl : news.length = 1 * i.size) (hnews : ∀ j u, news[j]? = some u → w.cell? (a.add j) = some u) (h1 : ∀ u ∈ news, u.oneCell' = true)
    (h63 : n + 1 ≤ maxLen) (hbytes : (n + 1) * i.bytes ≤ 140737488355328) {v' : Value} {w' : World} (hr : (Builtin.append_ #[t, t] ty #[v, .slice (some a) 1 c]).run P w = .ok v' w') : v'.ownBlock = v.ownBlock ∨ v'.ownBlock = some w.heap.size := by
  have hm : n + 1 ≤ 9223372036854775807 := by simp only [maxLen] at h63; omega
  rcases hown.2 with ⟨rfl, rfl⟩ | ⟨g, cap, cur, rfl, hbg, hg, hnc, hcm, hcs, htake⟩
  · rw [run_append_nil (P := P) w t ty e i z ht hi hz a 1 c news hl hnews (by omega) (by omega) (by have hb := hbytes; simp only [Nat.zero_add] at hb; omega)] at hr
    cases hr
    exact .inr rfl
  · by_cases hroom : n + 1 ≤ cap
    · have hfit : n * i.size + news.length ≤ cur.size := by rw [hl, hcs, ← Nat.add_mul]; exact Nat.mul_le_mul_right _ hroom
      rw [run_append_room (P := P) w t ty e i ht hi g n cap cur hg a 1 c news hl hnews h1 hroom hfit] at hr
      cases hr
      exact .inl rfl
    · rw [run_append_grow (P := P) w t ty e i z ht hi hz ⟨g, 0, none⟩ n cap xs hown.1 (hown.cells (g := g) rfl) a 1 c news hl hnews (by omega) (by omega) (growslice_fits (by omega) hbytes)] at hr
      cases hr
      exact .inr rfl
/-- Appending one thing to a row that a call owns: where the row lies then. -/
theorem wpList_append_blk {P : Program} {α : Type} {E : Enc α} (w : World) {ops : Array Oper} {rest : List Oper} {o : Oper} {a : Act} {Q : Exit → Act → World → Prop} (hgd : o.guard = none) (s x : Operand) (t e : TypeId)
    (ho : o.op = .call { callee := .builtin .append, args := #[s, x], argTypes := #[t, t] }) (ht : P.underlying t = some (.slice e)) (i : TypeInfo) (z : Value) (bytes : Nat) (hi : P.info? e = some i) (hz : i.zero = some z)
    (hsize : i.size = E.n) (hby : i.bytes = bytes) (hzs : z.cells.size = E.n) (base : Nat)
    (v : Value) (hs : a.eval s = v) (L : List α) (hown : w.ownsRow base e E.n v L.length (cellsG E L)) (g q c : Nat) (hx : a.eval x = .slice (some ⟨g, q, none⟩) 1 c) (y : α) (hM : VAt w g q (E.c y))
    (h63 : L.length + 1 ≤ maxLen) (hbytes : (L.length + 1) * bytes ≤ 140737488355328) (hbase : base ≤ w.heap.size)
    (h : ∀ v' w', w'.ownsRow base e E.n v' (L ++ [y]).length (cellsG E (L ++ [y])) → w.grownBy w' v.ownBlock → v'.ownBlock = v.ownBlock ∨ v'.ownBlock = some w.heap.size → wpList P ops Q rest (a.put o.dst v') w') : wpList P ops Q (o :: rest) a w := by
  have hG : GAt E w g q [y] := by
    intro k hk
    obtain rfl : k = 0 := by simp at hk; omega
    simpa using hM
  have hc := hG.cells
  rw [cellsG_one] at hc
  have hl : (E.c y).length = 1 * E.n := by rw [E.len]; omega
  obtain ⟨v', w', hr, h2, h3, _⟩ := run_append_own (P := P) w base t o.type e i z E.n bytes ht hi hz hsize hby hzs E.pos v _ _ hown ⟨g, q, none⟩ 1 c (E.c y) hl hc (E.one y) h63 hbytes hbase
  have hb := run_append_blk (P := P) t o.type e i z ht hi hz v _ _ (by rw [hsize]; exact hown) ⟨g, q, none⟩ c (E.c y) (by rw [hsize]; exact hl) hc (E.one y) h63 (by rw [hby]; exact hbytes) hr
  refine wpList_plain hgd fun K hK => ?_
  unfold Oper.wp execOp
  simp only [ho, resolve, invoke, builtin, Sem.run_bind, Sem.run_pure, Result.andThen_ok, List.map_toArray, List.map_cons, List.map_nil, hs, hx, hr]
  exact hK _ _ (h v' w' (by rw [List.length_append, cellsG_app, cellsG_one]; exact h2) h3 hb)

/-- Two lists of lists that a call owns (the classes, and what is said of each), each list in a block of its own. -/
structure CP (e1 e2 : TypeId) (w : World) (B : Nat) (v u : Value) (vs us : List SlT) (Cs Ps : List (List Int)) : Prop where
  ov : w.ownsRow B e2 slE.n v vs.length (cellsG slE vs)
  ou : w.ownsRow B e2 slE.n u us.length (cellsG slE us)
  ne : v.ownBlock = none ∨ v.ownBlock ≠ u.ownBlock
  lv : vs.length = Cs.length
  lu : us.length = Ps.length
  rv : ∀ (i : Nat) (x : SlT) (L : List Int), vs[i]? = some x → Cs[i]? = some L → w.ownsRow B e1 inE.n (slV x) L.length (cellsG inE L)
  ru : ∀ (i : Nat) (x : SlT) (L : List Int), us[i]? = some x → Ps[i]? = some L → w.ownsRow B e1 inE.n (slV x) L.length (cellsG inE L)
  dd : ((vs ++ us).map fun x => (slV x).ownBlock).Nodup
section
variable {e1 e2 : TypeId} {w w' : World} {B : Nat} {v u : Value} {vs us : List SlT} {Cs Ps : List (List Int)}
theorem cp_nil (e1 e2 : TypeId) (w : World) (B : Nat) : CP e1 e2 w B (.slice none 0 0) (.slice none 0 0) [] [] [] [] :=
  ⟨World.ownsRow_nil w B e2 slE.n, World.ownsRow_nil w B e2 slE.n, .inl rfl, rfl, rfl, fun i x L h => by simp at h, fun i x L h => by simp at h, by simp⟩
theorem CP.keep (h : CP e1 e2 w B v u vs us Cs Ps) (hg : w.grownBy w' none) : CP e1 e2 w' B v u vs us Cs Ps :=
  ⟨h.ov.kept hg (none_or _), h.ou.kept hg (none_or _), h.ne, h.lv, h.lu, fun i x L h1 h2 => (h.rv i x L h1 h2).kept hg (none_or _), fun i x L h1 h2 => (h.ru i x L h1 h2).kept hg (none_or _), h.dd⟩
theorem CP.later (h : CP e1 e2 w B v u vs us Cs Ps) (hb : Below w.heap.size w w') : CP e1 e2 w' B v u vs us Cs Ps := h.keep (grown_below hb)
theorem CP.swap (h : CP e1 e2 w B v u vs us Cs Ps) : CP e1 e2 w B u v us vs Ps Cs := by
  refine ⟨h.ou, h.ov, ?_, h.lu, h.lv, h.ru, h.rv, ?_⟩
  · rcases h.ne with h1 | h1
    · rw [h1]; exact none_or _
    · exact .inr (Ne.symm h1)
  · have := h.dd
    rw [List.map_append] at this ⊢
    exact (List.perm_append_comm.nodup_iff).1 this
/-- All blocks of the lists are old ones. -/
theorem CP.old (h : CP e1 e2 w B v u vs us Cs Ps) : ∀ y ∈ vs ++ us, ∀ k, (slV y).ownBlock = some k → k < w.heap.size := by
  intro y hy k hk
  rcases List.mem_append.1 hy with hy | hy
  · obtain ⟨i, hi, rfl⟩ := List.getElem_of_mem hy
    have hi2 : i < Cs.length := by rw [← h.lv]; exact hi
    exact ((h.rv i _ _ (List.getElem?_eq_getElem hi) (List.getElem?_eq_getElem hi2)).lt k hk).2
  · obtain ⟨i, hi, rfl⟩ := List.getElem_of_mem hy
    have hi2 : i < Ps.length := by rw [← h.lu]; exact hi
    exact ((h.ru i _ _ (List.getElem?_eq_getElem hi) (List.getElem?_eq_getElem hi2)).lt k hk).2
/-- One list more. -/
theorem CP.push (h : CP e1 e2 w B v u vs us Cs Ps) (he : e1 ≠ e2) {x : SlT} {L : List Int} (hx : w.ownsRow B e1 inE.n (slV x) L.length (cellsG inE L)) (hnew : ∀ y ∈ vs ++ us, (slV y).ownBlock ≠ (slV x).ownBlock) {v' : Value}
    (hg : w.grownBy w' v.ownBlock) (ho : w'.ownsRow B e2 slE.n v' (vs ++ [x]).length (cellsG slE (vs ++ [x]))) (hb : v'.ownBlock = v.ownBlock ∨ v'.ownBlock = some w.heap.size) : CP e1 e2 w' B v' u (vs ++ [x]) us (Cs ++ [L]) Ps := by
  have hu : u.ownBlock = none ∨ u.ownBlock ≠ v.ownBlock := h.swap.ne
  have inner : ∀ {y : SlT} {M : List Int}, w.ownsRow B e1 inE.n (slV y) M.length (cellsG inE M) → w'.ownsRow B e1 inE.n (slV y) M.length (cellsG inE M) := fun hy => hy.kept hg (own_rows2 hy h.ov he)
  refine ⟨ho, h.ou.kept hg hu, ?_, by simp [h.lv], h.lu, ?_, fun i y M h1 h2 => inner (h.ru i y M h1 h2), ?_⟩
  · rcases hb with hb | hb
    · rw [hb]; exact h.ne
    · refine .inr ?_
      rw [hb]
      intro h3
      have := (h.ou.lt _ h3.symm).2
      omega
  · intro i y M h1 h2
    by_cases hi : i < vs.length
    · rw [List.getElem?_append_left hi] at h1
      rw [List.getElem?_append_left (by rw [← h.lv]; exact hi)] at h2
      exact inner (h.rv i y M h1 h2)
    · have hi2 : i = vs.length := by
        have := (List.getElem?_eq_some_iff.1 h1).1
        simp at this
        omega
      subst hi2
      simp at h1
      rw [h.lv] at h2
      simp at h2
      subst h1 h2
      exact inner hx
  · have hd := h.dd
    have hp : (((vs ++ [x]) ++ us).map fun x => (slV x).ownBlock).Perm ((slV x).ownBlock :: ((vs ++ us).map fun x => (slV x).ownBlock)) := by
      have : ((vs ++ [x]) ++ us).Perm (x :: (vs ++ us)) := by
        rw [List.append_assoc]
        exact List.perm_middle
      exact this.map _
    refine hp.nodup_iff.2 (List.nodup_cons.2 ⟨?_, hd⟩)
    intro hm
    obtain ⟨y, hy, he2⟩ := List.mem_map.1 hm
    exact hnew y hy he2
/-- One number more in one of the lists. -/
theorem CP.put (h : CP e1 e2 w B v u vs us Cs Ps) (he : e1 ≠ e2) {i : Nat} {x x' : SlT} {L' : List Int} (hx : vs[i]? = some x)
    (hg : w.grownBy w' (slV x).ownBlock) (ho : w'.ownsRow B e1 inE.n (slV x') L'.length (cellsG inE L')) (hb : (slV x').ownBlock = (slV x).ownBlock ∨ (slV x').ownBlock = some w.heap.size)
    {g n cap : Nat} (hv : v = .slice (some ⟨g, 0, none⟩) n cap) : CP e1 e2 (w'.setCell ⟨g, i, none⟩ (slV x')) B v u (vs.set i x') us (Cs.set i L') Ps := by
  have hiv : i < vs.length := (List.getElem?_eq_some_iff.1 hx).1
  have hiC : i < Cs.length := by rw [← h.lv]; exact hiv
  have hrow := h.rv i x _ hx (List.getElem?_eq_getElem hiC)
  have hxo : ∀ {y : Value} {n : Nat} {X : List Value}, w.ownsRow B e2 slE.n y n X → w'.ownsRow B e2 slE.n y n X := fun hy => hy.kept hg (own_rows2 hy hrow (Ne.symm he))
  have h1 := hxo h.ov
  have h2 := hxo h.ou
  subst hv
  have hgw : w'.grownBy (w'.setCell ⟨g, i, none⟩ (slV x')) (some g) := grown_set w' g i (slV x')
  have hug : u.ownBlock = none ∨ u.ownBlock ≠ some g := h.swap.ne
  have apart : ∀ {j : Nat} {y : SlT}, (vs ++ us)[j]? = some y → j ≠ i → (slV y).ownBlock ≠ (slV x).ownBlock := by
    intro j y hy hj heq
    have hd := h.dd
    have a1 : ((vs ++ us).map fun x => (slV x).ownBlock)[j]? = some (slV y).ownBlock := by rw [List.getElem?_map, hy]; rfl
    have a2 : ((vs ++ us).map fun x => (slV x).ownBlock)[i]? = some (slV y).ownBlock := by rw [List.getElem?_map, List.getElem?_append_left hiv, hx, heq]; rfl
    exact hj (nd_at hd a1 a2)
  have inner : ∀ {y : SlT} {M : List Int}, (slV y).ownBlock = none ∨ (slV y).ownBlock ≠ (slV x).ownBlock → w.ownsRow B e1 inE.n (slV y) M.length (cellsG inE M) → (w'.setCell ⟨g, i, none⟩ (slV x')).ownsRow B e1 inE.n (slV y) M.length (cellsG inE M) := by
    intro y M hne hy
    have hy' := hy.kept hg hne
    exact hy'.kept hgw (own_rows2 hy' h1 he)
  refine ⟨?_, h2.kept hgw hug, h.ne, by simp [h.lv], h.lu, ?_, ?_, ?_⟩
  · have hn : n = vs.length := by
      rcases h1.2 with ⟨h3, _⟩ | ⟨_, _, _, h3, _⟩
      · cases h3
      · simp only [Value.slice.injEq] at h3
        exact h3.2.1
    rw [List.length_set, sl_cells, List.map_set]
    rw [sl_cells, ← hn] at h1
    rw [← hn]
    exact (h1.stored _ _).1
  · intro j y M a1 a2
    by_cases hij : i = j
    · subst hij
      rw [List.getElem?_set_self hiv] at a1
      rw [List.getElem?_set_self hiC] at a2
      cases a1
      cases a2
      exact ho.kept hgw (own_rows2 ho h1 he)
    · rw [List.getElem?_set_ne hij] at a1 a2
      have hj : j < vs.length := (List.getElem?_eq_some_iff.1 a1).1
      exact inner (.inr (apart (j := j) (by rw [List.getElem?_append_left hj]; exact a1) (Ne.symm hij))) (h.rv j y M a1 a2)
  · intro j y M a1 a2
    exact inner (.inr (apart (j := vs.length + j) (by rw [List.getElem?_append_right (by omega)]; simpa using a1) (by omega))) (h.ru j y M a1 a2)
  · have hd := h.dd
    rw [List.Nodup, List.pairwise_iff_getElem] at hd ⊢
    have key : ∀ j (hj : j < (((vs.set i x') ++ us).map fun x => (slV x).ownBlock).length), (((vs.set i x') ++ us).map fun x => (slV x).ownBlock)[j] = if j = i then (slV x').ownBlock else ((vs ++ us).map fun x => (slV x).ownBlock)[j]'(by simpa using hj) := by
      intro j hj
      simp only [List.getElem_map, ← List.set_append_left _ _ hiv, List.getElem_set]
      by_cases e : i = j
      · subst e; simp
      · rw [if_neg e, if_neg (Ne.symm e)]
    have xin : ((vs ++ us).map fun x => (slV x).ownBlock)[i]'(by simp; omega) = (slV x).ownBlock := by
      have : ((vs ++ us).map fun x => (slV x).ownBlock)[i]? = some (slV x).ownBlock := by rw [List.getElem?_map, List.getElem?_append_left hiv, hx]; rfl
      obtain ⟨_, h3⟩ := List.getElem?_eq_some_iff.1 this
      exact h3
    have fresh : ∀ j (hj : j < ((vs ++ us).map fun x => (slV x).ownBlock).length), j ≠ i → ((vs ++ us).map fun x => (slV x).ownBlock)[j] ≠ (slV x').ownBlock := by
      intro j hj hji heq
      have hj2 : j < (vs ++ us).length := by simpa using hj
      rcases hb with hb | hb
      · have := apart (j := j) (y := (vs ++ us)[j]) (List.getElem?_eq_getElem hj2) hji
        rw [List.getElem_map] at heq
        exact this (heq.trans hb)
      · rw [List.getElem_map, hb] at heq
        have := h.old _ (List.getElem_mem hj2) _ heq
        omega
    intro a b ha hb' hab
    rw [key a ha, key b hb']
    by_cases ea : a = i
    · rw [if_pos ea, if_neg (by omega)]
      exact (fresh b (by simpa using hb') (by omega)).symm
    · rw [if_neg ea]
      by_cases eb : b = i
      · rw [if_pos eb]
        exact fresh a (by simpa using ha) ea
      · rw [if_neg eb]
        exact hd a b _ _ hab
/-- What such a call owns may be read. -/
theorem CP.ls (h : CP e1 e2 w B v u vs us Cs Ps) : ILS w v Cs := by
  rcases own_GS h.ov with ⟨ao, cap, rfl, h0⟩ | ⟨g, o, cap, rfl, h1, h2, h3⟩
  · refine .inl ⟨ao, cap, rfl, ?_⟩
    have := h.lv
    rw [h0] at this
    exact List.length_eq_zero_iff.1 this.symm
  · refine .inr ⟨g, o, cap, by rw [h.lv], by rw [← h.lv]; exact h1, h2, fun i hi => ?_⟩
    have hi2 : i < vs.length := by rw [h.lv]; exact hi
    have := h3 i hi2 0 _ rfl
    have e : o + i * slE.n + 0 = o + i := by show o + i * 1 + 0 = o + i; omega
    rw [e] at this
    exact ⟨_, _, _, this, own_GS (h.rv i _ _ (List.getElem?_eq_getElem hi2) (List.getElem?_eq_getElem hi))⟩
end
end Go.Proofs.Ytmpjoepfgfbjmaa
