/- What is wrong with any cubes, which headers they have, what is left of one, and whether two have the same: the walk of CubesTells. -/
import Derived.Test.YtclecpcnmfhhcaaDoorCubesTellsCon
import Derived.Deep.CutBlock
import Derived.Deep.CutRange
namespace Go.Proofs.YtclecpcnmfhhcaaDoor.tellsC
open Go.RowKit Go.Proofs.YtclecpcnmfhhcaaDoor
set_option linter.unusedSimpArgs false

/-- What the walk keeps: old memory, and the cube's own place. -/
structure KT (w : World) (m b : Int) (W : World) : Prop where
  below : Below w.heap.size w W
  size : w.heap.size < W.heap.size
  c0 : W.cell? ⟨w.heap.size, 0, none⟩ = some (.int .i64 m)
  c1 : W.cell? ⟨w.heap.size, 1, none⟩ = some (.int .i64 b)
theorem KT.grow {w W W' : World} {m b : Int} (h : KT w m b W) (hb : Below (w.heap.size + 1) W W') : KT w m b W' :=
  ⟨h.below.trans (hb.mono (by omega)), Nat.lt_of_lt_of_le h.size hb.size, (hb.cell (p := ⟨w.heap.size, 0, none⟩) (by simp)).trans h.c0, (hb.cell (p := ⟨w.heap.size, 1, none⟩) (by simp)).trans h.c1⟩
theorem KT.later {w W W' : World} {m b : Int} (h : KT w m b W) (hb : Below W.heap.size W W') : KT w m b W' := h.grow (hb.mono h.size)
theorem KT.start (w : World) (m b : Int) : KT w m b (w.alloc (.cells #[.int .i64 m, .int .i64 b] 23)) :=
  ⟨(Below.refl _ _).alloc (Nat.le_refl _) _, by simp, by simp, by simp⟩
/-- And a list of numbers of its own. -/
structure KA (w : World) (m b : Int) (X : List Int) (v : Value) (W : World) : Prop where
  kt : KT w m b W
  own : W.ownsRow (w.heap.size + 1) 3 1 v X.length (X.map (Value.int .i64))
theorem KA.later {w W W' : World} {m b : Int} {X : List Int} {v : Value} (h : KA w m b X v W) (hb : Below W.heap.size W W') : KA w m b X v W' :=
  ⟨h.kt.later hb, own_below h.own hb⟩
theorem KA.nil {w W : World} {m b : Int} (h : KT w m b W) : KA w m b [] (.slice none 0 0) W := ⟨h, World.ownsRow_nil _ _ _ _⟩

set_option maxRecDepth 100000 in
set_option maxHeartbeats 8000000 in
theorem walk (s t : Value) (L M : List (Int × Int)) (m b h : Int) (w : World) (hs : SL w s L) (ht : SL w t M) (hg : HasErr w) :
    Calls Tryd.prog 4 #[s, t, .agg #[.int .i64 m, .int .i64 b], .int .i64 h] w fun e w' => e = .returned (.bool true) ∧ Below w.heap.size w w' := by
  obtain ⟨i0, hi, hz0, hz1, hz2⟩ := info_parts infoInt
  have HST : Hid (∀ W, KT w m b W → SL W s L ∧ SL W t M ∧ HasErr W) := fun W hW => ⟨hs.later hW.below, ht.later hW.below, hg.later hW.below⟩
  have HK0 : Hid (KT w m b (w.alloc (.cells #[.int .i64 m, .int .i64 b] 23))) := KT.start w m b
  clear hs ht hg
  go_enter Tryd.func4, Tryd.ntmps4
  go_wp2_with fail
  refine (refCubes_any s L _ (HST.out _ HK0.out).1).mono ?_
  rintro e w1 ⟨rfl, hb1⟩
  have HK1 : Hid (KT w m b w1) := HK0.out.later hb1
  clear hb1 HK0
  go_wp2_with fail
  refine (csCheck_any s L _ (HST.out _ HK1.out).1).mono ?_
  rintro e w2 ⟨rfl, hb2⟩
  rw [csV_errOf]
  have HK2 : Hid (KT w m b w2) := HK1.out.later hb2
  clear hb2 HK1
  go_wp2_with fail
  refine (same_errOf _ _ (HST.out _ HK2.out).2.2).mono ?_
  rintro e w3 ⟨rfl, hb3⟩
  have HK3 : Hid (KT w m b w3) := HK2.out.later hb3
  clear hb3 HK2
  go_upto_block 0 with fail
  go_cut [9, 10, 11] from 9 (fun e one all w' => e = .int .i64 (fcN L) ∧ one = .bool true ∧ KA w m b (hsOf L) all w')
  case first =>
    as_aux_lemma =>
      by_cases hf : fcN L = 0
      · have HE1 : Hid (hsOf L = hsTo L 16) := by show hsOf L = hsTo L 16; simp [hsOf, hf]
        have HF : Hid (fcN L = 0) := hf
        rw [hf]
        clear hf
        go_wp2_with fail
        go_loopw [11, 12] (fun v i wr => ∃ k : Nat, k ≤ 16 ∧ i = .int .i64 k ∧ KA w m b (hsTo L k) v wr)
          (fun _ i _ => 16 - (intOf i).toNat)
        case atStart => exact ⟨0, by omega, rfl, KA.nil HK3.out⟩
        case round =>
          clear HK3
          obtain ⟨k, hk, rfl, hKA⟩ := hrel
          have HKA : Hid (KA w m b (hsTo L k) u11 wr) := hKA
          clear hKA
          by_cases hlt : k < 16
          · go_wp2_with fail
            refine (refAny_any s L _ _ (HST.out _ HKA.out.kt).1).mono ?_
            rintro e w4 ⟨rfl, hb4⟩
            have HKA4 : Hid (KA w m b (hsTo L k) u11 w4) := HKA.out.later hb4
            have hle := hs_le L k
            clear hb4 HKA
            cases hh : anyB L (k : Int)
            · go_wp2
              go_roundw
              case rel => exact ⟨k + 1, by omega, by go_num, by rw [hs_miss hh]; exact HKA4.out⟩
              case measure => simp [intOf]; omega
            · have HH : Hid (anyB L (k : Int) = true) := hh
              have hsz4 : w.heap.size + 1 ≤ w4.heap.size := HKA4.out.kt.size
              clear hh
              go_wp2_with (at_builtin; refine wpList_append_own _ rfl _ _ 37 rfl (w.heap.size + 1) 3 i0 (.int .i64 0) 1 8 Tryd.underlying37 hi hz0 hz1 hz2 rfl (by decide) _ _ _ rfl (HKA4.out.own.alloc _) ⟨w4.heap.size, 0, none⟩ 1 1 [.int .i64 k] rfl rfl ?c1 ?c2 ?c3 ?c4 ?c5 ?_)
              case c1 =>
                intro j u hj
                match j, hj with
                | 0, hj => simp at hj; subst hj; simp [Addr.add]
              case c2 => intro u hu; simp at hu; subst hu; rfl
              case c3 => unfold maxLen; omega
              case c4 => omega
              case c5 => simp; omega
              intro v' w5 hown5 hgrow _
              have HKA5 : Hid (KA w m b (hsTo L (k + 1)) v' w5) := ⟨HKA4.out.kt.grow (((Below.refl _ _).alloc hsz4 _).grown hgrow (by simp; omega) (fun g hg => (HKA4.out.own.lt g hg).1)), by rw [hs_hit HH.out]; simpa using hown5⟩
              clear hown5 hgrow
              go_wp2
              go_roundw
              case rel => exact ⟨k + 1, by omega, by go_num, HKA5.out⟩
              case measure => simp [intOf]; omega
          · obtain rfl : k = 16 := by omega
            go_wp2_with fail
            go_meet
            case rel => exact ⟨by first | rfl | rw [HF.out], rfl, by rw [HE1.out]; exact HKA.out⟩
      · have HE1 : Hid (hsOf L = []) := by show hsOf L = []; simp [hsOf, hf]
        go_wp2_with fail
        go_loopw [11, 12] (fun v i wr => v = .slice none 0 0 ∧ i = .int .i64 0 ∧ wr = w3) (fun _ _ _ => 0)
        case atStart => exact ⟨rfl, rfl, rfl⟩
        case round =>
          obtain ⟨rfl, rfl, rfl⟩ := hrel
          go_wp2_with fail
          go_meet
          case rel => exact ⟨rfl, rfl, by rw [HE1.out]; exact KA.nil HK3.out⟩
  case rest =>
    obtain ⟨rfl, rfl, hKA⟩ := hcut
    clear HK3
    obtain ⟨bo, cx, rfl⟩ := own_form hKA.own
    obtain ⟨nx, hnx⟩ : ∃ nx, (hsOf L).length = nx := ⟨_, rfl⟩
    have HNX : Hid ((hsOf L).length = nx) := hnx
    rw [hnx] at hKA ⊢
    have HKA : Hid (KA w m b (hsOf L) (.slice bo nx cx) wc) := hKA
    clear hKA hnx
    go_wp2_with fail
    refine (csHeaders_any s L _ (HST.out _ HKA.out.kt).1).mono ?_
    rintro e w4 ⟨x, rfl, ownx, hb4⟩
    rw [csV_errOf]
    have HKA4 : Hid (KA w m b (hsOf L) (.slice bo nx cx) w4) := HKA.out.later hb4
    have HX4 : Hid (w4.ownsRow wc.heap.size 3 1 x (hsOf L).length ((hsOf L).map (Value.int .i64))) := ownx
    clear hb4 HKA ownx
    go_wp2_with fail
    refine (same_errOf _ _ (HST.out _ HKA4.out.kt).2.2).mono ?_
    rintro e w5 ⟨rfl, hb5⟩
    have HKA5 : Hid (KA w m b (hsOf L) (.slice bo nx cx) w5) := HKA4.out.later hb5
    have HX5 : Hid (w5.ownsRow wc.heap.size 3 1 x (hsOf L).length ((hsOf L).map (Value.int .i64))) := own_below HX4.out hb5
    clear hb5 HKA4 HX4
    go_wp2_with fail
    refine (ints_any x (.slice bo nx cx) (hsOf L) (hsOf L) _ _ _ _ (hsOf_len L) HX5.out HKA5.out.own).mono ?_
    rintro e w6 ⟨rfl, hb6⟩
    rw [beq_self_eq_true]
    have HKA6 : Hid (KA w m b (hsOf L) (.slice bo nx cx) w6) := HKA5.out.later hb6
    clear hb6 HKA5 HX5
    go_wp2_with fail
    refine (csCount_any s L _ (HST.out _ HKA6.out.kt).1).mono ?_
    rintro e w7 ⟨rfl, hb7⟩
    rw [csV_errOf, HNX.out]
    have HKA7 : Hid (KA w m b (hsOf L) (.slice bo nx cx) w7) := HKA6.out.later hb7
    clear hb7 HKA6
    go_wp2_with fail
    refine (same_errOf _ _ (HST.out _ HKA7.out.kt).2.2).mono ?_
    rintro e w8 ⟨rfl, hb8⟩
    have HKA8 : Hid (KA w m b (hsOf L) (.slice bo nx cx) w8) := HKA7.out.later hb8
    clear hb8 HKA7
    go_wp2_with fail
    refine (csHas_any s L h _ (HST.out _ HKA8.out.kt).1).mono ?_
    rintro e w9 ⟨rfl, hb9⟩
    have HKA9 : Hid (KA w m b (hsOf L) (.slice bo nx cx) w9) := HKA8.out.later hb9
    clear hb9 HKA8
    go_wp2_with fail
    refine (refAny_any s L h _ (HST.out _ HKA9.out.kt).1).mono ?_
    rintro e w10 ⟨rfl, hb10⟩
    have HKA10 : Hid (KA w m b (hsOf L) (.slice bo nx cx) w10) := HKA9.out.later hb10
    generalize anyB L h = P
    clear hb10 HKA9
    go_wp2_with fail
    refine (csApart_any s L _ (HST.out _ HKA10.out.kt).1).mono ?_
    rintro e w11 ⟨y, rfl, owny, hb11⟩
    rw [csV_errOf]
    have HKA11 : Hid (KA w m b (hsOf L) (.slice bo nx cx) w11) := HKA10.out.later hb11
    have HY11 : Hid (SL w11 y (apOf L)) := own_SL owny
    clear hb11 HKA10 owny
    go_wp2_with fail
    refine (same_errOf _ _ (HST.out _ HKA11.out.kt).2.2).mono ?_
    rintro e w12 ⟨rfl, hb12⟩
    have HKA12 : Hid (KA w m b (hsOf L) (.slice bo nx cx) w12) := HKA11.out.later hb12
    have HY12 : Hid (SL w12 y (apOf L)) := HY11.out.later hb12
    clear hb12 HKA11 HY11
    go_wp2_with fail
    obtain ⟨f, hpf, hwf⟩ := ap_want L
    refine (lawApart y (.slice bo nx cx) (apOf L) f _ _ _ HY12.out hpf (by have := HKA12.out.own; rw [hwf] at this; exact this)).mono ?_
    rintro e w13 ⟨rfl, hb13⟩
    have HK13 : Hid (KT w m b w13) := HKA12.out.kt.later hb13
    clear hb13 HKA12 HY12 hpf hwf HNX
    obtain ⟨_, _, k0, k1⟩ := id HK13.out
    go_wp2_with fail
    refine (refCube_any m b _).mono ?_
    rintro e w14 ⟨rfl, hb14⟩
    have HK14 : Hid (KT w m b w14) := HK13.out.later hb14
    clear hb14 HK13 k0 k1
    go_upto_if 106 with fail
    go_cut [9, 10, 16, 17, 19, 21, 22, 23] from 9 (fun e one two like three four fits f w' => e = .int .i64 (fcN L) ∧ one = .bool true ∧ two = .bool true ∧ like = .bool true ∧ three = .bool true ∧ four = .bool true ∧ fits = .bool true ∧ f = .int .i64 (mnN m b L) ∧ KT w m b w')
    case first =>
      as_aux_lemma =>
        by_cases hr : refN m b = 0
        · have HR : Hid (mnN m b L = fcN L) := by show mnN m b L = fcN L; simp [mnN, hr]
          go_wp2_with fail
          go_meet
          case rel => exact ⟨rfl, rfl, rfl, rfl, rfl, rfl, rfl, by rw [HR.out], HK14.out⟩
        · have HR : Hid (mnN m b L = refN m b) := by show mnN m b L = refN m b; simp [mnN, hr]
          go_wp2_with fail
          go_meet
          case rel => exact ⟨rfl, rfl, rfl, rfl, rfl, rfl, rfl, by rw [HR.out], HK14.out⟩
    case rest =>
      obtain ⟨rfl, rfl, rfl, rfl, rfl, rfl, rfl, rfl, hK⟩ := hcut
      have HK : Hid (KT w m b wc) := hK
      clear hK HK14
      go_upto_block 2 with fail
      go_cut [9, 10, 16, 17, 19, 21, 22, 23, 24] from 9 (fun e one two like three four fits f left w' => e = .int .i64 (fcN L) ∧ one = .bool true ∧ two = .bool true ∧ like = .bool true ∧ three = .bool true ∧ four = .bool true ∧ fits = .bool true ∧ f = .int .i64 (mnN m b L) ∧ KA w m b (lfOf m b L) left w')
      case first =>
        as_aux_lemma =>
          by_cases hf : mnN m b L = 0
          · have HE1 : Hid (lfOf m b L = lfTo m b L 16) := by show lfOf m b L = lfTo m b L 16; simp [lfOf, hf]
            have HF : Hid (mnN m b L = 0) := hf
            rw [hf]
            clear hf
            go_wp2_with fail
            go_loopw [24, 25] (fun v i wr => ∃ k : Nat, k ≤ 16 ∧ i = .int .i64 k ∧ KA w m b (lfTo m b L k) v wr)
              (fun _ i _ => 16 - (intOf i).toNat)
            case atStart => exact ⟨0, by omega, rfl, KA.nil HK.out⟩
            case round =>
              clear HK
              obtain ⟨k, hk, rfl, hKA⟩ := hrel
              have HKA : Hid (KA w m b (lfTo m b L k) u24 wr) := hKA
              obtain ⟨_, _, k0, k1⟩ := id hKA.kt
              clear hKA
              by_cases hlt : k < 16
              · go_wp2_with fail
                refine (refHas_any _ _ _ _).mono ?_
                rintro e w4 ⟨rfl, hb4⟩
                have HKA4 : Hid (KA w m b (lfTo m b L k) u24 w4) := HKA.out.later hb4
                have hle := lf_le m b L k
                clear hb4 HKA k0 k1
                go_wp2_with fail
                refine (refAny_any s L _ _ (HST.out _ HKA4.out.kt).1).mono ?_
                rintro e w5 ⟨rfl, hb5⟩
                have HKA5 : Hid (KA w m b (lfTo m b L k) u24 w5) := HKA4.out.later hb5
                clear hb5 HKA4
                cases hh : hasB m b (k : Int)
                · go_wp2
                  go_roundw
                  case rel => exact ⟨k + 1, by omega, by go_num, by rw [lf_miss (.inl hh)]; exact HKA5.out⟩
                  case measure => simp [intOf]; omega
                · cases ha : anyB L (k : Int)
                  · have HH : Hid (lfTo m b L (k + 1) = lfTo m b L k ++ [(k : Int)]) := lf_hit hh ha
                    have hsz5 : w.heap.size + 1 ≤ w5.heap.size := HKA5.out.kt.size
                    clear hh ha
                    go_wp2_with (at_builtin; refine wpList_append_own _ rfl _ _ 37 rfl (w.heap.size + 1) 3 i0 (.int .i64 0) 1 8 Tryd.underlying37 hi hz0 hz1 hz2 rfl (by decide) _ _ _ rfl (HKA5.out.own.alloc _) ⟨w5.heap.size, 0, none⟩ 1 1 [.int .i64 k] rfl rfl ?d1 ?d2 ?d3 ?d4 ?d5 ?_)
                    case d1 =>
                      intro j u hj
                      match j, hj with
                      | 0, hj => simp at hj; subst hj; simp [Addr.add]
                    case d2 => intro u hu; simp at hu; subst hu; rfl
                    case d3 => unfold maxLen; omega
                    case d4 => omega
                    case d5 => simp; omega
                    intro v' w6 hown6 hgrow _
                    have HKA6 : Hid (KA w m b (lfTo m b L (k + 1)) v' w6) := ⟨HKA5.out.kt.grow (((Below.refl _ _).alloc hsz5 _).grown hgrow (by simp; omega) (fun g hg => (HKA5.out.own.lt g hg).1)), by rw [HH.out]; simpa using hown6⟩
                    clear hown6 hgrow
                    go_wp2
                    go_roundw
                    case rel => exact ⟨k + 1, by omega, by go_num, HKA6.out⟩
                    case measure => simp [intOf]; omega
                  · go_wp2
                    go_roundw
                    case rel => exact ⟨k + 1, by omega, by go_num, by rw [lf_miss (.inr ha)]; exact HKA5.out⟩
                    case measure => simp [intOf]; omega
              · obtain rfl : k = 16 := by omega
                go_wp2_with fail
                go_meet
                case rel => exact ⟨rfl, rfl, rfl, rfl, rfl, rfl, rfl, by first | rfl | rw [HF.out], by rw [HE1.out]; exact HKA.out⟩
          · have HE1 : Hid (lfOf m b L = []) := by show lfOf m b L = []; simp [lfOf, hf]
            go_wp2_with fail
            go_loopw [24, 25] (fun v i wr => v = .slice none 0 0 ∧ i = .int .i64 0 ∧ wr = wc) (fun _ _ _ => 0)
            case atStart => exact ⟨rfl, rfl, rfl⟩
            case round =>
              obtain ⟨rfl, rfl, rfl⟩ := hrel
              go_wp2_with fail
              go_meet
              case rel => exact ⟨rfl, rfl, rfl, rfl, rfl, rfl, rfl, rfl, by rw [HE1.out]; exact KA.nil HK.out⟩
      case rest =>
        obtain ⟨rfl, rfl, rfl, rfl, rfl, rfl, rfl, rfl, hKA⟩ := hcut
        clear HK
        obtain ⟨bl, cl, rfl⟩ := own_form hKA.own
        obtain ⟨nl, hnl⟩ : ∃ nl, (lfOf m b L).length = nl := ⟨_, rfl⟩
        rw [hnl] at hKA ⊢
        have HKA : Hid (KA w m b (lfOf m b L) (.slice bl nl cl) wc) := hKA
        obtain ⟨_, _, k0, k1⟩ := id hKA.kt
        clear hKA hnl
        go_wp2_with fail
        refine (csMinus_any m b s L _ (HST.out _ HKA.out.kt).1).mono ?_
        rintro e w4 ⟨z, rfl, ownz, hb4⟩
        rw [mnV_errOf]
        have HKA4 : Hid (KA w m b (lfOf m b L) (.slice bl nl cl) w4) := HKA.out.later hb4
        have HZ4 : Hid (SL w4 z (mnOf m b L)) := own_SL ownz
        clear hb4 HKA ownz k0 k1
        go_wp2_with fail
        refine (same_errOf _ _ (HST.out _ HKA4.out.kt).2.2).mono ?_
        rintro e w5 ⟨rfl, hb5⟩
        have HKA5 : Hid (KA w m b (lfOf m b L) (.slice bl nl cl) w5) := HKA4.out.later hb5
        have HZ5 : Hid (SL w5 z (mnOf m b L)) := HZ4.out.later hb5
        clear hb5 HKA4 HZ4
        go_wp2_with fail
        obtain ⟨f, hpf, hwf⟩ := mn_want m b L
        refine (lawApart z (.slice bl nl cl) (mnOf m b L) f _ _ _ HZ5.out hpf (by have := HKA5.out.own; rw [hwf] at this; exact this)).mono ?_
        rintro e w6 ⟨rfl, hb6⟩
        have HK6 : Hid (KT w m b w6) := HKA5.out.kt.later hb6
        clear hb6 HKA5 HZ5 hpf hwf
        go_upto_if 145 with fail
        go_cut [10, 16, 17, 19, 21, 22, 29, 30, 31] from 9 (fun one two like three four fits five also g w' => one = .bool true ∧ two = .bool true ∧ like = .bool true ∧ three = .bool true ∧ four = .bool true ∧ fits = .bool true ∧ five = .bool true ∧ also = .bool true ∧ g = .int .i64 (smN L M) ∧ KT w m b w')
        case first =>
          as_aux_lemma =>
            by_cases hf : fcN L = 0
            · have HR : Hid (smN L M = fcN M) := by show smN L M = fcN M; simp [smN, hf]
              go_wp2_with fail
              refine (refCubes_any t M _ (HST.out _ HK6.out).2.1).mono ?_
              rintro e w7 ⟨rfl, hb7⟩
              have HK7 : Hid (KT w m b w7) := HK6.out.later hb7
              clear hb7
              go_wp2_with fail
              go_meet
              case rel => exact ⟨rfl, rfl, rfl, rfl, rfl, rfl, rfl, rfl, by rw [HR.out], HK7.out⟩
            · have HR : Hid (smN L M = fcN L) := by show smN L M = fcN L; simp [smN, hf]
              go_wp2_with fail
              go_meet
              case rel => exact ⟨rfl, rfl, rfl, rfl, rfl, rfl, rfl, rfl, by rw [HR.out], HK6.out⟩
        case rest =>
          obtain ⟨rfl, rfl, rfl, rfl, rfl, rfl, rfl, rfl, rfl, hK⟩ := hcut
          have HK : Hid (KT w m b wc) := hK
          have HS0 : Hid (smTo L M 0 = decide (smN L M = 0)) := by show smTo L M 0 = decide (smN L M = 0); simp [smTo]
          clear hK HK6
          go_upto_block 4 with fail
          go_cut [10, 16, 17, 19, 21, 22, 29, 30, 31, 32] from 9 (fun one two like three four fits five also g same w' => one = .bool true ∧ two = .bool true ∧ like = .bool true ∧ three = .bool true ∧ four = .bool true ∧ fits = .bool true ∧ five = .bool true ∧ also = .bool true ∧ g = .int .i64 (smN L M) ∧ same = .bool (smTo L M 16) ∧ KT w m b w')
          case first =>
            as_aux_lemma =>
              go_wp2_with fail
              go_loopw [32, 33] (fun v i wr => ∃ k : Nat, k ≤ 16 ∧ i = .int .i64 k ∧ v = .bool (smTo L M k) ∧ KT w m b wr)
                (fun _ i _ => 16 - (intOf i).toNat)
              case atStart => exact ⟨0, by omega, rfl, by rw [HS0.out]; first | rfl | simp, HK.out⟩
              case round =>
                clear HK
                obtain ⟨k, hk, rfl, rfl, hK⟩ := hrel
                have HK : Hid (KT w m b wr) := hK
                clear hK
                by_cases hlt : k < 16
                · have HSN : Hid (smTo L M (k + 1) = (smTo L M k && (anyB L (k : Int) == anyB M (k : Int)))) := sm_next L M k
                  generalize smTo L M k = I at *
                  go_wp2_with fail
                  refine (refAny_any s L _ _ (HST.out _ HK.out).1).mono ?_
                  rintro e w7 ⟨rfl, hb7⟩
                  have HK7 : Hid (KT w m b w7) := HK.out.later hb7
                  clear hb7 HK
                  go_wp2_with fail
                  refine (refAny_any t M _ _ (HST.out _ HK7.out).2.1).mono ?_
                  rintro e w8 ⟨rfl, hb8⟩
                  have HK8 : Hid (KT w m b w8) := HK7.out.later hb8
                  clear hb8 HK7
                  generalize anyB L (k : Int) = P at *
                  generalize anyB M (k : Int) = Q at *
                  cases I
                  all_goals
                    go_wp2
                    go_roundw
                    case rel => exact ⟨k + 1, by omega, by go_num, by rw [HSN.out]; rfl, HK8.out⟩
                    case measure => simp [intOf]; omega
                · obtain rfl : k = 16 := by omega
                  generalize smTo L M 16 = I at *
                  go_wp2_with fail
                  go_meet
                  case rel => exact ⟨rfl, rfl, rfl, rfl, rfl, rfl, rfl, rfl, rfl, rfl, HK.out⟩
          case rest =>
            obtain ⟨rfl, rfl, rfl, rfl, rfl, rfl, rfl, rfl, rfl, rfl, hK⟩ := hcut
            have HK2 : Hid (KT w m b wc) := hK
            clear hK HK HS0
            go_wp2_with fail
            refine (csSame_full s t L M _ (HST.out _ HK2.out).1 (HST.out _ HK2.out).2.1).mono ?_
            rintro e w7 ⟨rfl, hb7⟩
            have HK7 : Hid (KT w m b w7) := HK2.out.later hb7
            clear hb7 HK2
            go_wp2_with fail
            refine (same_errOf _ _ (HST.out _ HK7.out).2.2).mono ?_
            rintro e w8 ⟨rfl, hb8⟩
            have HK8 : Hid (KT w m b w8) := HK7.out.later hb8
            clear hb8 HK7
            generalize smTo L M 16 = I
            go_wp2
            go_ret
            exact ⟨rfl, HK8.out.below⟩
end Go.Proofs.YtclecpcnmfhhcaaDoor.tellsC
