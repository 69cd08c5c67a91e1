/- The walk of RuleBack: it answers true, whatever rule, text, header and table it is called with. -/
import Derived.Test.YtpbfgfphcjmcbaaDoorRuleBackMath2
import Derived.Test.YtpbfgfphcjmcbaaDoorRuleLook
import Derived.Test.YtpbfgfphcjmcbaaDoorRuleOwn
import Derived.Test.YtpbfgfphcjmcbaaDoorRuleTwo
import Derived.Deep.CutRange
import Derived.Deep.CutBlock
import Derived.BigQuiet
import Derived.Deep.QuietTactic
namespace Go.Proofs.YtpbfgfphcjmcbaaDoor.ruleBack
open Go.RowKit
set_option linter.unusedVariables false
set_option linter.unusedSimpArgs false

/-- What holds of the world all along: the rule lies in the first new block. -/
structure KB (w W : World) (r : Ru) : Prop where
  below : Below w.heap.size w W
  lt : w.heap.size < W.heap.size
  c : C6 W w.heap.size 0 r
theorem KB.grow {w W W' : World} {r : Ru} (h : KB w W r) (hb : Below (w.heap.size + 1) W W') : KB w W' r := by
  have hc : ∀ k u, W.cell? ⟨w.heap.size, k, none⟩ = some u → W'.cell? ⟨w.heap.size, k, none⟩ = some u := fun k u e => (hb.cell (p := ⟨w.heap.size, k, none⟩) (by simp)).trans e
  exact ⟨h.below.trans (hb.mono (by omega)), Nat.lt_of_lt_of_le h.lt hb.size, ⟨hc _ _ h.c.c0, hc _ _ h.c.c1, hc _ _ h.c.c2, hc _ _ h.c.c3, hc _ _ h.c.c4, hc _ _ h.c.c5⟩⟩
theorem KB.later {w W W' : World} {r : Ru} (h : KB w W r) (hb : Below W.heap.size W W') : KB w W' r := h.grow (hb.mono (by have := h.lt; omega))
theorem KB.alloc {w W : World} {r : Ru} (h : KB w W r) (o : Obj) : KB w (W.alloc o) r := h.later ((Below.refl _ _).alloc (Nat.le_refl _) o)

theorem rs_size (p m b o s v : Int) : (rsS p m b o s v).size < 4611686018427387904 := by
  have h1 := dg_size p
  have h2 := dg_size o
  unfold rsS rsO rsH
  split
  · simp only [ByteArray.size_append, pr_size]
    have e1 : (⟨#[32]⟩ : ByteArray).size = 1 := rfl
    have e2 : (⟨#[32, 100, 114, 111, 112]⟩ : ByteArray).size = 5 := rfl
    omega
  · have e1 : (⟨#[32]⟩ : ByteArray).size = 1 := rfl
    have e2 : (⟨#[32, 111, 117, 116, 32]⟩ : ByteArray).size = 5 := rfl
    have e3 : (⟨#[32, 115, 101, 116, 32]⟩ : ByteArray).size = 5 := rfl
    split
    · simp only [ByteArray.size_append, pr_size]
      omega
    · simp only [ByteArray.size_append, pr_size]
      omega

set_option maxRecDepth 100000 in
set_option maxHeartbeats 10000000 in
theorem walk (p m b o s v h : Int) (t : ByteArray) (ao : Option Addr) (n cap : Nat) (L : List Ru) (w : World) (hs : SR w (.slice ao n cap) L) (ht : t.size < 4611686018427387904) :
    Calls Tryd.prog 3 #[.agg #[.int .i64 p, .int .i64 m, .int .i64 b, .int .i64 o, .int .i64 s, .int .i64 v], .string t, .int .i64 h, .slice ao n cap] w fun e w' => e = .returned (.bool true) ∧ Below w.heap.size w w' := by
  go_enter Tryd.func3, Tryd.ntmps3
  go_wp2_with fail
  refine (ruParse_any _ _ (by decide)).mono ?_
  rintro e w1 ⟨rfl, hb1⟩
  rw [paV_yes seven.1, no_ok seven.1, seven.2.1, seven.2.2.1, seven.2.2.2.1, seven.2.2.2.2]
  generalize rM _ = m7
  generalize rB _ = b7
  have hK : KB w w1 ⟨p, m, b, o, s, v⟩ :=
    KB.later (W := w.alloc (Obj.cells #[Value.int IntKind.i64 p, Value.int IntKind.i64 m, Value.int IntKind.i64 b, Value.int IntKind.i64 o, Value.int IntKind.i64 s, Value.int IntKind.i64 v] 25))
      ⟨(Below.refl _ _).alloc (Nat.le_refl _) _, by simp, C6.new w p m b o s v _⟩ hb1
  clear hb1
  go_upto_region 4 with fail
  go_cut [11, 12] from 9 (fun u e w' => KB w w' ⟨p, m, b, o, s, v⟩ ∧ ((ruOk p m b o s v = true ∧ u = .string (rsS p m b o s v) ∧ e = .nilIface) ∨ (∃ k, u = .string ⟨#[]⟩ ∧ e = .iface 40 (.int .i64 k))))
  case first =>
    as_aux_lemma =>
      have hK' := hK.alloc (Obj.cells #[Value.int IntKind.i64 7, Value.int IntKind.i64 m7, Value.int IntKind.i64 b7, Value.int IntKind.i64 2, Value.int IntKind.i64 3, Value.int IntKind.i64 3] 25)
      generalize w1.alloc (Obj.cells #[Value.int IntKind.i64 7, Value.int IntKind.i64 m7, Value.int IntKind.i64 b7, Value.int IntKind.i64 2, Value.int IntKind.i64 3, Value.int IntKind.i64 3] 25) = W1 at *
      have HK : Hid (KB w W1 ⟨p, m, b, o, s, v⟩) := hK'
      obtain ⟨_, lt1, q0, q1, q2, q3, q4, q5⟩ := hK'
      simp only [Nat.zero_add] at q0 q1 q2 q3 q4 q5
      cases hr : ruOk p m b o s v
      · go_wp2_with fail
        refine (ruPrint_bad _ _ _ _ _ _ _ hr).mono ?_
        rintro e w2 ⟨rfl, hb2⟩
        go_wp2_with fail
        go_meet
        case rel => exact ⟨HK.out.later hb2, .inr ⟨_, rfl, rfl⟩⟩
      · go_wp2_with fail
        refine (ruPrint_ok _ _ _ _ _ _ _ hr).mono ?_
        rintro e w2 ⟨rfl, hb2⟩
        go_wp2_with fail
        go_meet
        case rel => exact ⟨HK.out.later hb2, .inl ⟨hr, rfl, rfl⟩⟩
  case rest =>
    clear hK
    go_upto_region 5 with fail
    go_cut [11, 56] from 9 (fun u q w' => KB w w' ⟨p, m, b, o, s, v⟩ ∧ ((ruOk p m b o s v = true ∧ u = .string (rsS p m b o s v) ∧ q = .bool true) ∨ q = .bool false))
    case first =>
      as_aux_lemma =>
        obtain ⟨hK, h1 | h1⟩ := hcut
        · obtain ⟨ho, rfl, rfl⟩ := h1
          go_wp2_with fail
          go_meet
          case rel => exact ⟨hK, .inl ⟨ho, rfl, rfl⟩⟩
        · obtain ⟨k, rfl, rfl⟩ := h1
          go_wp2_with fail
          go_meet
          case rel => exact ⟨hK, .inr rfl⟩
    case rest =>
      go_upto_if 56 with fail
      go_cut [] from 9 (fun w' => KB w w' ⟨p, m, b, o, s, v⟩)
      case first =>
        as_aux_lemma =>
          obtain ⟨hK, h1 | h1⟩ := hcut
          · obtain ⟨ho, rfl, rfl⟩ := h1
            have HO : Hid (ruOk p m b o s v = true) := ho
            clear ho
            go_wp2_with fail
            refine (ruParse_any _ _ (rs_size p m b o s v)).mono ?_
            rintro e w2 ⟨rfl, hb2⟩
            rw [(rule_back HO.out).2, no_ok (rule_back HO.out).1]
            have HK : Hid (KB w w2 ⟨p, m, b, o, s, v⟩) := hK.later hb2
            obtain ⟨_, lt1, q0, q1, q2, q3, q4, q5⟩ := hK.later hb2
            simp only [Nat.zero_add] at q0 q1 q2 q3 q4 q5
            clear hb2 hK
            go_wp2_with fail
            go_meet
            case rel => exact HK.out.alloc _
          · subst h1
            go_wp2_with fail
            go_meet
            case rel => exact hK
      case rest =>
        go_upto_region 9 with fail
        go_cut [12, 15] from 9 (fun e q w' => KB w w' ⟨p, m, b, o, s, v⟩ ∧ ((paN (cutB 6 t) = 0 ∧ e = .nilIface ∧ ∃ B, q = .pointer (some ⟨B, 0, none⟩) ∧ C6 w' B 0 ⟨rP (cutB 6 t), rM (cutB 6 t), rB (cutB 6 t), rO (cutB 6 t), rS (cutB 6 t), rV (cutB 6 t)⟩) ∨ (∃ k, e = .iface 40 (.int .i64 k))))
        case first =>
          as_aux_lemma =>
            by_cases hp : paN (cutB 6 t) = 0
            · go_wp2_with fail
              refine (ruParse_any _ _ ht).mono ?_
              rintro e w2 ⟨rfl, hb2⟩
              rw [paV_yes hp, no_ok hp]
              go_wp2_with fail
              go_meet
              case rel => exact ⟨(hcut.later hb2).alloc _, .inl ⟨hp, rfl, _, rfl, C6.new _ _ _ _ _ _ _ _⟩⟩
            · go_wp2_with fail
              refine (ruParse_any _ _ ht).mono ?_
              rintro e w2 ⟨rfl, hb2⟩
              rw [paV_no hp, no_ne hp]
              go_wp2_with fail
              go_meet
              case rel => exact ⟨(hcut.later hb2).alloc _, .inr ⟨_, rfl⟩⟩
        case rest =>
          go_upto_region 10 with fail
          go_cut [15, 75] from 9 (fun q c w' => KB w w' ⟨p, m, b, o, s, v⟩ ∧ ((paN (cutB 6 t) = 0 ∧ c = .bool true ∧ ∃ B, q = .pointer (some ⟨B, 0, none⟩) ∧ C6 w' B 0 ⟨rP (cutB 6 t), rM (cutB 6 t), rB (cutB 6 t), rO (cutB 6 t), rS (cutB 6 t), rV (cutB 6 t)⟩) ∨ c = .bool false))
          case first =>
            as_aux_lemma =>
              obtain ⟨hK, h1 | h1⟩ := hcut
              · obtain ⟨hp, rfl, B, rfl, hc⟩ := h1
                go_wp2_with fail
                go_meet
                case rel => exact ⟨hK, .inl ⟨hp, rfl, _, rfl, hc⟩⟩
              · obtain ⟨k, rfl⟩ := h1
                go_wp2_with fail
                go_meet
                case rel => exact ⟨hK, .inr rfl⟩
          case rest =>
            go_upto_if 75 with fail
            go_cut [] from 9 (fun w' => KB w w' ⟨p, m, b, o, s, v⟩)
            case first =>
              as_aux_lemma =>
                obtain ⟨hK, h1 | h1⟩ := hcut
                · obtain ⟨hp, rfl, B, rfl, hc⟩ := h1
                  have HP : Hid (paN (cutB 6 t) = 0) := hp
                  obtain ⟨z0, z1, z2, z3, z4, z5⟩ := hc
                  simp only [Nat.zero_add] at z0 z1 z2 z3 z4 z5
                  clear hp
                  go_wp2_with fail
                  refine (ruPrint_ok _ _ _ _ _ _ _ (rule_read HP.out).1).mono ?_
                  rintro e w2 ⟨rfl, hb2⟩
                  rw [(rule_read HP.out).2]
                  go_wp2_with fail
                  go_meet
                  case rel => exact hK.later hb2
                · subst h1
                  go_wp2_with fail
                  go_meet
                  case rel => exact hK
            case rest =>
              have hKc := hcut
              have HSL : Hid (SR w (.slice ao n cap) L) := hs
              have HN : Hid (L.length = n) := by
                show L.length = n
                rcases hs with ⟨_, _, e, rfl⟩ | ⟨_, _, _, e, _⟩
                · simp at e; simp [e]
                · simp at e; exact e.2.1.symm
              have hnm : (n : Int) ≤ 9223372036854775807 := by
                rcases hs with ⟨_, _, e, rfl⟩ | ⟨_, _, _, e, h1, h2, _⟩
                · simp at e; omega
                · have := HN.out
                  unfold maxLen at h2
                  omega
              clear hcut hs
              go_upto_block 0 with fail
              go_cut [18] from 9 (fun u w' => KB w w' ⟨p, m, b, o, s, v⟩ ∧ ∃ M, M = (if n ≤ 100 then L.reverse else []) ∧ w'.ownsRow (w.heap.size + 1) 25 6 u M.length (cellsR M))
              case first =>
                obtain ⟨i0, hi, hz0, hz1, hz2⟩ := info_parts infoRule
                go_wp2
                go_loopw [18, 19] (fun u i wr => ∃ r : Nat, r ≤ n ∧ i = .int .i64 ((r : Int) - 1) ∧ (100 < n → r = n) ∧ wr.ownsRow (w.heap.size + 1) 25 6 u (L.reverse.take (n - r)).length (cellsR (L.reverse.take (n - r))) ∧ KB w wr ⟨p, m, b, o, s, v⟩)
                  (fun _ i _ => (intOf i + 1).toNat)
                case atStart => exact ⟨n, Nat.le_refl _, rfl, fun _ => rfl, by simp only [Nat.sub_self, List.take_zero]; exact World.ownsRow_nil _ _ _ _, hKc⟩
                case round =>
                  obtain ⟨r, hr, rfl, h100, hown, hK⟩ := hrel
                  have HKR : Hid (KB w wr ⟨p, m, b, o, s, v⟩) := hK
                  by_cases h0 : r = 0
                  · subst h0
                    have HE : Hid (L.reverse.take (n - 0) = L.reverse) := by
                      show L.reverse.take (n - 0) = L.reverse
                      exact List.take_of_length_le (by rw [List.length_reverse, HN.out]; omega)
                    have h1 : n ≤ 100 := by omega
                    have HOWN : Hid (wr.ownsRow (w.heap.size + 1) 25 6 u18 (L.reverse.take (n - 0)).length (cellsR (L.reverse.take (n - 0)))) := hown
                    clear hown hK
                    go_wp2_with fail
                    go_meet
                    case rel =>
                      have := HOWN.out
                      rw [HE.out] at this
                      exact ⟨HKR.out, _, (if_pos h1).symm, this⟩
                  · obtain ⟨j, rfl⟩ : ∃ j, r = j + 1 := ⟨r - 1, by omega⟩
                    have HOWN : Hid (wr.ownsRow (w.heap.size + 1) 25 6 u18 (L.reverse.take (n - (j + 1))).length (cellsR (L.reverse.take (n - (j + 1))))) := hown
                    rw [show (((j + 1 : Nat) : Int) - 1) = (j : Int) by omega]
                    by_cases h1 : n ≤ 100
                    · obtain ⟨g, og, hao, hRA⟩ : ∃ g og, ao = some ⟨g, og, none⟩ ∧ RAt w g og L := by
                        rcases HSL.out with ⟨_, _, e, _⟩ | ⟨g, og, _, e, _, _, hRA⟩
                        · simp at e; omega
                        · simp at e; exact ⟨g, og, e.1, hRA⟩
                      subst hao
                      obtain ⟨p2, m2, b2, o2, s2, v2, hjl, hLj, q0, q1, q2, q3, q4, q5⟩ := (hRA.later hK.below).at HN.out (show j < n by omega)
                      have hlt := hK.lt
                      have HT : Hid (L.reverse.take (n - j) = L.reverse.take (n - (j + 1)) ++ [⟨p2, m2, b2, o2, s2, v2⟩]) := by
                        show L.reverse.take (n - j) = _
                        have hN := HN.out
                        have hk : n - (j + 1) < L.reverse.length := by rw [List.length_reverse]; omega
                        rw [show n - j = n - (j + 1) + 1 by omega, List.take_succ_eq_append_getElem hk, List.getElem_reverse]
                        congr 2
                        rw [← hLj]
                        congr 1
                        omega
                      have hTL : (L.reverse.take (n - (j + 1))).length ≤ 100 := by simp; omega
                      clear hown hK h100
                      generalize L.reverse.take (n - (j + 1)) = D at *
                      go_wp2_with (at_builtin; refine wpList_append_own _ rfl _ _ 27 rfl (w.heap.size + 1) 25 i0 (.agg #[.int .i64 0, .int .i64 0, .int .i64 0, .int .i64 0, .int .i64 0, .int .i64 0]) 6 48 Tryd.underlying27 hi hz0 hz1 hz2 sixCells (by decide) _ _ _ rfl (HOWN.out.alloc _) ⟨wr.heap.size, 0, none⟩ 1 1 [.int .i64 p2, .int .i64 m2, .int .i64 b2, .int .i64 o2, .int .i64 s2, .int .i64 v2] rfl rfl ?c1 ?c2 ?c3 ?c4 ?c5 ?_)
                      case c1 =>
                        intro j u hj
                        have hc6 := C6.new wr p2 m2 b2 o2 s2 v2 25
                        match j, hj with
                        | 0, hj => simp at hj; subst hj; exact hc6.c0
                        | 1, hj => simp at hj; subst hj; exact hc6.c1
                        | 2, hj => simp at hj; subst hj; exact hc6.c2
                        | 3, hj => simp at hj; subst hj; exact hc6.c3
                        | 4, hj => simp at hj; subst hj; exact hc6.c4
                        | 5, hj => simp at hj; subst hj; exact hc6.c5
                      case c2 => intro u hu; simp at hu; rcases hu with rfl | rfl | rfl | rfl | rfl | rfl <;> rfl
                      case c3 => unfold maxLen; omega
                      case c4 => omega
                      case c5 => simp; omega
                      intro v' w3 hown3 hgrow _
                      have hK3 : KB w w3 ⟨p, m, b, o, s, v⟩ := HKR.out.grow (((Below.refl _ _).alloc (by omega) _).grown hgrow (by simp; omega) (fun g hg => (HOWN.out.lt g hg).1))
                      have HO4 := own_pushR hown3
                      rw [← HT.out] at HO4
                      have HO5 : Hid (w3.ownsRow (w.heap.size + 1) 25 6 v' (L.reverse.take (n - j)).length (cellsR (L.reverse.take (n - j)))) := HO4
                      have HK5 : Hid (KB w w3 ⟨p, m, b, o, s, v⟩) := hK3
                      clear hgrow hown3 HO4 hK3 q0 q1 q2 q3 q4 q5
                      go_wp2
                      exact ⟨⟨j, by omega, rfl, by omega, HO5.out, HK5.out⟩, by simp [intOf]⟩
                    · have hj : decide ((j : Int) < 100) = false := by simp; omega
                      have HE : Hid (L.reverse.take (n - (j + 1)) = []) := by
                        show L.reverse.take (n - (j + 1)) = []
                        rw [show n - (j + 1) = 0 by omega]
                        rfl
                      clear hown hK
                      go_wp2_with fail
                      go_meet
                      case rel =>
                        have := HOWN.out
                        rw [HE.out] at this
                        exact ⟨HKR.out, _, (if_neg h1).symm, this⟩
              case rest =>
                obtain ⟨hK, M, hM, hown⟩ := hcut
                by_cases h1 : n ≤ 100
                · rw [if_pos h1] at hM
                  subst hM
                  have HS2 : Hid (SR wc u18 L.reverse) := own_SR hown
                  obtain ⟨ao2, cap2, hu⟩ : ∃ ao2 cap2, u18 = .slice ao2 n cap2 := by
                    rcases HS2.out with ⟨a, c, e, h0⟩ | ⟨g, og, c, e, _⟩
                    · have := HN.out
                      rw [List.reverse_eq_nil_iff] at h0
                      subst h0
                      simp at this
                      subst this
                      exact ⟨a, c, e⟩
                    · rw [List.length_reverse, HN.out] at e
                      exact ⟨_, c, e⟩
                  subst hu
                  have HKC : Hid (KB w wc ⟨p, m, b, o, s, v⟩) := hK
                  clear hown hK hKc
                  go_wp2_with fail
                  refine (lookup_any _ L h _ (HSL.out.later HKC.out.below)).mono ?_
                  rintro e w2 ⟨rfl, hb2⟩
                  have HS3 : Hid (SR w2 (.slice ao2 n cap2) L.reverse) := HS2.out.later hb2
                  have HK2 : Hid (KB w w2 ⟨p, m, b, o, s, v⟩) := HKC.out.later hb2
                  clear hb2
                  go_wp2_with fail
                  refine (lookup_any _ L.reverse h _ HS3.out).mono ?_
                  rintro e w3 ⟨rfl, hb3⟩
                  have HS4 : Hid (SR w3 (.slice ao2 n cap2) L.reverse) := HS3.out.later hb3
                  have HK3 : Hid (KB w w3 ⟨p, m, b, o, s, v⟩) := HK2.out.later hb3
                  clear hb3
                  by_cases hl : luN L h = 0
                  · have hl2 : luN L.reverse h = 0 := lu_iff.2 hl
                    have HS0 : Hid (SR w (.slice ao n cap) L) := HSL.out
                    obtain ⟨E1, kb, ib, k0, i0⟩ := lu_same hl
                    have htop := lu_top hl
                    rw [no_ok hl, no_ok hl2]
                    generalize luI L h = I at *
                    generalize luI L.reverse h = J at *
                    obtain ⟨i, rfl⟩ : ∃ i : Nat, I = (i : Int) := ⟨I.toNat, by omega⟩
                    obtain ⟨k, rfl⟩ : ∃ k : Nat, J = (k : Int) := ⟨J.toNat, by omega⟩
                    simp only [Int.toNat_natCast] at E1 kb ib htop
                    rw [HN.out] at kb ib
                    obtain ⟨g, og, hao, hRA⟩ : ∃ g og, ao = some ⟨g, og, none⟩ ∧ RAt w g og L := by
                      rcases HS0.out with ⟨_, _, e, _⟩ | ⟨g, og, _, e, _, _, hRA⟩
                      · simp at e; omega
                      · simp at e; exact ⟨g, og, e.1, hRA⟩
                    obtain ⟨g2, og2, hao2, hRA2⟩ : ∃ g og, ao2 = some ⟨g, og, none⟩ ∧ RAt w3 g og L.reverse := by
                      rcases HS4.out with ⟨_, _, e, _⟩ | ⟨g, og, _, e, _, _, hRA⟩
                      · simp at e; omega
                      · simp at e; exact ⟨g, og, e.1, hRA⟩
                    subst hao hao2
                    obtain ⟨p2, m2, b2, o2, s2, v2, hil, hLi, q0, q1, q2, q3, q4, q5⟩ := (hRA.later HK3.out.below).at HN.out ib
                    obtain ⟨p3, m3, b3, o3, s3, v3, hkl, hLk, r0, r1, r2, r3, r4, r5⟩ := hRA2.at (show L.reverse.length = n by rw [List.length_reverse]; exact HN.out) kb
                    rw [getD_at hil, getD_at hkl, hLi, hLk] at E1
                    simp only [Ru.mk.injEq] at E1
                    obtain ⟨rfl, rfl, rfl, rfl, rfl, rfl⟩ := E1
                    have hx2 : hasB m3 b3 h = true := by
                      have := htop.1
                      rw [getD_at hil, hLi] at this
                      exact this
                    have HTOP : Hid (∀ j, j < L.length → (L.getD j zeR).has h = true → (L.getD j zeR).p ≤ p3) := by
                      have := htop.2
                      rw [getD_at hil, hLi] at this
                      exact this
                    have HLI : Hid (L[i] = ⟨p3, m3, b3, o3, s3, v3⟩) := hLi
                    have hCD : CD w g2 (og2 + k * 6) p3 m3 b3 o3 s3 v3 g (og + i * 6) p3 m3 b3 o3 s3 v3 w3 := ⟨HK3.out.below, ⟨r0, r1, r2, r3, r4, r5⟩, q0, q1, q2, q3, q4, q5⟩
                    have HCD : Hid (CD w g2 (og2 + k * 6) p3 m3 b3 o3 s3 v3 g (og + i * 6) p3 m3 b3 o3 s3 v3 w3) := hCD
                    have HRA : Hid (RAt w g og L) := hRA
                    clear q0 q1 q2 q3 q4 q5 r0 r1 r2 r3 r4 r5 hCD hRA hRA2 htop hLi hLk hl hl2 HS0 k0 i0
                    go_wp2_with fail
                    go_quiet (fail)
                    go_upto_region 27 with fail
                    have ib0 : (0 : Int) ≤ (i : Int) := by omega
                    have ib1 : (i : Int) < (n : Int) := by omega
                    have kb0 : (0 : Int) ≤ (k : Int) := by omega
                    have kb1 : (k : Int) < (n : Int) := by omega
                    go_cut [20, 148] from 9 (fun x c w' => x = .int .i64 (i : Int) ∧ c = .bool false ∧ Below w.heap.size w w')
                    case first =>
                      as_aux_lemma =>
                        refine wp_region_quiet (C := CD w g2 (og2 + k * 6) p3 m3 b3 o3 s3 v3 g (og + i * 6) p3 m3 b3 o3 s3 v3) (by kernel_rfl) (by kernel_rfl) (CD.later (W := w3) ⟨rfl, rfl, rfl, Nat.le_refl _, fun _ _ => rfl⟩ HCD.out) ?_
                        simp only [List.toList_toArray]
                        go_big_quiet_want
                        refine quiet_val (v := .slice (some ⟨g2, og2, none⟩) n cap2) (fun w' hC => ?_) ?_
                        · obtain ⟨z0, ⟨z1, z2, z3, z4, z5, z6⟩, y1, y2, y3, y4, y5, y6⟩ := hC
                          go_simp
                        simp only [Act.put, List.setIfInBounds_toArray, List.set_cons_zero, List.set_cons_succ]
                        go_big_quiet_on
                        go_big_quiet_want
                        refine quiet_val (v := .int .i64 (k : Int)) (fun w' hC => ?_) ?_
                        · obtain ⟨z0, ⟨z1, z2, z3, z4, z5, z6⟩, y1, y2, y3, y4, y5, y6⟩ := hC
                          go_simp
                        simp only [Act.put, List.setIfInBounds_toArray, List.set_cons_zero, List.set_cons_succ]
                        go_big_quiet_on
                        go_big_quiet_want
                        refine quiet_val (v := .pointer (some ⟨g2, og2 + k * 6, none⟩)) (fun w' hC => ?_) ?_
                        · obtain ⟨z0, ⟨z1, z2, z3, z4, z5, z6⟩, y1, y2, y3, y4, y5, y6⟩ := hC
                          go_simp
                        simp only [Act.put, List.setIfInBounds_toArray, List.set_cons_zero, List.set_cons_succ]
                        go_big_quiet_on
                        go_big_quiet_want
                        refine quiet_val (v := .agg #[.int .i64 p3, .int .i64 m3, .int .i64 b3, .int .i64 o3, .int .i64 s3, .int .i64 v3]) (fun w' hC => ?_) ?_
                        · obtain ⟨z0, ⟨z1, z2, z3, z4, z5, z6⟩, y1, y2, y3, y4, y5, y6⟩ := hC
                          go_simp
                        simp only [Act.put, List.setIfInBounds_toArray, List.set_cons_zero, List.set_cons_succ]
                        go_big_quiet_on
                        go_big_quiet_want
                        refine quiet_val (v := .slice (some ⟨g, og, none⟩) n cap) (fun w' hC => ?_) ?_
                        · obtain ⟨z0, ⟨z1, z2, z3, z4, z5, z6⟩, y1, y2, y3, y4, y5, y6⟩ := hC
                          go_simp
                        simp only [Act.put, List.setIfInBounds_toArray, List.set_cons_zero, List.set_cons_succ]
                        go_big_quiet_on
                        go_big_quiet_want
                        refine quiet_val (v := .int .i64 (i : Int)) (fun w' hC => ?_) ?_
                        · obtain ⟨z0, ⟨z1, z2, z3, z4, z5, z6⟩, y1, y2, y3, y4, y5, y6⟩ := hC
                          go_simp
                        simp only [Act.put, List.setIfInBounds_toArray, List.set_cons_zero, List.set_cons_succ]
                        go_big_quiet_on
                        go_big_quiet_want
                        refine quiet_val (v := .pointer (some ⟨g, og + i * 6, none⟩)) (fun w' hC => ?_) ?_
                        · obtain ⟨z0, ⟨z1, z2, z3, z4, z5, z6⟩, y1, y2, y3, y4, y5, y6⟩ := hC
                          go_simp
                        simp only [Act.put, List.setIfInBounds_toArray, List.set_cons_zero, List.set_cons_succ]
                        go_big_quiet_on
                        go_big_quiet_want
                        refine quiet_val (v := .agg #[.int .i64 p3, .int .i64 m3, .int .i64 b3, .int .i64 o3, .int .i64 s3, .int .i64 v3]) (fun w' hC => ?_) ?_
                        · obtain ⟨z0, ⟨z1, z2, z3, z4, z5, z6⟩, y1, y2, y3, y4, y5, y6⟩ := hC
                          go_simp
                        simp only [Act.put, List.setIfInBounds_toArray, List.set_cons_zero, List.set_cons_succ]
                        go_big_quiet_on
                        go_big_quiet_want
                        refine quiet_val (v := .bool false) (fun w' hC => ?_) ?_
                        · obtain ⟨z0, ⟨z1, z2, z3, z4, z5, z6⟩, y1, y2, y3, y4, y5, y6⟩ := hC
                          go_simp
                        simp only [Act.put, List.setIfInBounds_toArray, List.set_cons_zero, List.set_cons_succ]
                        go_big_quiet_on
                        go_big_quiet_want
                        refine quiet_val (v := .bool false) (fun w' hC => ?_) ?_
                        · obtain ⟨z0, ⟨z1, z2, z3, z4, z5, z6⟩, y1, y2, y3, y4, y5, y6⟩ := hC
                          go_simp
                        simp only [Act.put, List.setIfInBounds_toArray, List.set_cons_zero, List.set_cons_succ]
                        go_big_quiet_on
                        go_big_quiet_want
                        refine quiet_val (v := .slice (some ⟨g, og, none⟩) n cap) (fun w' hC => ?_) ?_
                        · obtain ⟨z0, ⟨z1, z2, z3, z4, z5, z6⟩, y1, y2, y3, y4, y5, y6⟩ := hC
                          go_simp
                        simp only [Act.put, List.setIfInBounds_toArray, List.set_cons_zero, List.set_cons_succ]
                        go_big_quiet_on
                        go_big_quiet_want
                        refine quiet_val (v := .int .i64 (i : Int)) (fun w' hC => ?_) ?_
                        · obtain ⟨z0, ⟨z1, z2, z3, z4, z5, z6⟩, y1, y2, y3, y4, y5, y6⟩ := hC
                          go_simp
                        simp only [Act.put, List.setIfInBounds_toArray, List.set_cons_zero, List.set_cons_succ]
                        go_big_quiet_on
                        go_big_quiet_want
                        refine quiet_val (v := .pointer (some ⟨g, og + i * 6, none⟩)) (fun w' hC => ?_) ?_
                        · obtain ⟨z0, ⟨z1, z2, z3, z4, z5, z6⟩, y1, y2, y3, y4, y5, y6⟩ := hC
                          go_simp
                        simp only [Act.put, List.setIfInBounds_toArray, List.set_cons_zero, List.set_cons_succ]
                        go_big_quiet_on
                        go_big_quiet_want
                        refine quiet_val (v := .pointer (some ⟨g, og + i * 6 + 1, none⟩)) (fun w' hC => ?_) ?_
                        · obtain ⟨z0, ⟨z1, z2, z3, z4, z5, z6⟩, y1, y2, y3, y4, y5, y6⟩ := hC
                          go_simp
                        simp only [Act.put, List.setIfInBounds_toArray, List.set_cons_zero, List.set_cons_succ]
                        go_big_quiet_on
                        go_big_quiet_want
                        refine quiet_val (v := .agg #[.int .i64 m3, .int .i64 b3]) (fun w' hC => ?_) ?_
                        · obtain ⟨z0, ⟨z1, z2, z3, z4, z5, z6⟩, y1, y2, y3, y4, y5, y6⟩ := hC
                          go_simp
                        simp only [Act.put, List.setIfInBounds_toArray, List.set_cons_zero, List.set_cons_succ]
                        go_big_quiet_on
                        go_big_quiet_want
                        refine quiet_val (v := .int .i64 h) (fun w' hC => ?_) ?_
                        · obtain ⟨z0, ⟨z1, z2, z3, z4, z5, z6⟩, y1, y2, y3, y4, y5, y6⟩ := hC
                          go_simp
                        simp only [Act.put, List.setIfInBounds_toArray, List.set_cons_zero, List.set_cons_succ]
                        go_big_quiet_on
                        go_big_quiet_want
                        refine quiet_call (f := 7) (args := #[.agg #[.int .i64 m3, .int .i64 b3], .int .i64 h]) (v := .bool true) (fun w' => ?_) (fun w' hC => (has_any m3 b3 h w').mono (fun e w2 h2 => ⟨by rw [h2.1, hx2], CD.later h2.2 hC⟩)) ?_
                        · go_simp
                        simp only [Act.put, List.setIfInBounds_toArray, List.set_cons_zero, List.set_cons_succ]
                        go_big_quiet_on
                        go_big_quiet_want
                        refine quiet_val (v := .bool false) (fun w' hC => ?_) ?_
                        · obtain ⟨z0, ⟨z1, z2, z3, z4, z5, z6⟩, y1, y2, y3, y4, y5, y6⟩ := hC
                          go_simp
                        simp only [Act.put, List.setIfInBounds_toArray, List.set_cons_zero, List.set_cons_succ]
                        go_big_quiet_on
                        go_big_quiet_want
                        refine quiet_val (v := .bool false) (fun w' hC => ?_) ?_
                        · obtain ⟨z0, ⟨z1, z2, z3, z4, z5, z6⟩, y1, y2, y3, y4, y5, y6⟩ := hC
                          go_simp
                        simp only [Act.put, List.setIfInBounds_toArray, List.set_cons_zero, List.set_cons_succ]
                        go_big_quiet_on
                        refine wpQuiet_nil ?_
                        intro w' hC
                        go_wp2_with fail
                        go_meet
                        case rel => exact ⟨rfl, rfl, hC.1⟩
                    case rest =>
                      obtain ⟨rfl, rfl, hB⟩ := hcut
                      have HBC : Hid (Below w.heap.size w wc) := hB
                      clear hB
                      go_wp2
                      go_loopw [23] (fun j wr => ∃ q : Nat, q ≤ n ∧ j = .int .i64 q ∧ Below w.heap.size w wr) (fun j _ => n - (intOf j).toNat)
                      case atStart => exact ⟨0, by omega, rfl, HBC.out⟩
                      case round =>
                        obtain ⟨j, hj, rfl, hB⟩ := hrel
                        have HB : Hid (Below w.heap.size w wr) := hB
                        by_cases hlt : j < n
                        · obtain ⟨p4, m4, b4, o4, s4, v4, hjl, hLj, q0, q1, q2, q3, q4, q5⟩ := (HRA.out.later hB).at HN.out hlt
                          obtain ⟨p5, m5, b5, o5, s5, v5, _, hLi5, r0, r1, r2, r3, r4, r5⟩ := (HRA.out.later hB).at HN.out ib
                          rw [HLI.out] at hLi5
                          simp only [Ru.mk.injEq] at hLi5
                          obtain ⟨rfl, rfl, rfl, rfl, rfl, rfl⟩ := hLi5
                          have hle : hasB m4 b4 h = true → p4 ≤ p3 := by
                            intro hh
                            have := HTOP.out j hjl
                            rw [getD_at hjl, hLj] at this
                            exact this hh
                          have HCE : Hid (CD w g (og + j * 6) p4 m4 b4 o4 s4 v4 g (og + i * 6) p3 m3 b3 o3 s3 v3 wr) := ⟨hB, ⟨q0, q1, q2, q3, q4, q5⟩, r0, r1, r2, r3, r4, r5⟩
                          clear q0 q1 q2 q3 q4 q5 r0 r1 r2 r3 r4 r5 hLj hB
                          go_upto_region 32 with fail
                          have jb0 : (0 : Int) ≤ (j : Int) := by omega
                          have jb1 : (j : Int) < (n : Int) := by omega
                          go_cut [174] from 149 to 174 (fun c w' => c = .bool false ∧ Below w.heap.size w w')
                          case first =>
                            as_aux_lemma =>
                              cases hh : hasB m4 b4 h
                              · refine wp_region_quiet (C := CD w g (og + j * 6) p4 m4 b4 o4 s4 v4 g (og + i * 6) p3 m3 b3 o3 s3 v3) (by kernel_rfl) (by kernel_rfl) (CD.later (W := wr) (Below.drew (Below.refl _ _)) HCE.out) ?_
                                simp only [List.toList_toArray]
                                go_big_quiet_want
                                refine quiet_val (v := .slice (some ⟨g, og, none⟩) n cap) (fun w' hC => ?_) ?_
                                · obtain ⟨z0, ⟨z1, z2, z3, z4, z5, z6⟩, y1, y2, y3, y4, y5, y6⟩ := hC
                                  go_simp
                                simp only [Act.put, List.setIfInBounds_toArray, List.set_cons_zero, List.set_cons_succ]
                                go_big_quiet_on
                                go_big_quiet_want
                                refine quiet_val (v := .int .i64 (j : Int)) (fun w' hC => ?_) ?_
                                · obtain ⟨z0, ⟨z1, z2, z3, z4, z5, z6⟩, y1, y2, y3, y4, y5, y6⟩ := hC
                                  go_simp
                                simp only [Act.put, List.setIfInBounds_toArray, List.set_cons_zero, List.set_cons_succ]
                                go_big_quiet_on
                                go_big_quiet_want
                                refine quiet_val (v := .pointer (some ⟨g, og + j * 6, none⟩)) (fun w' hC => ?_) ?_
                                · obtain ⟨z0, ⟨z1, z2, z3, z4, z5, z6⟩, y1, y2, y3, y4, y5, y6⟩ := hC
                                  go_simp
                                simp only [Act.put, List.setIfInBounds_toArray, List.set_cons_zero, List.set_cons_succ]
                                go_big_quiet_on
                                go_big_quiet_want
                                refine quiet_val (v := .pointer (some ⟨g, og + j * 6 + 1, none⟩)) (fun w' hC => ?_) ?_
                                · obtain ⟨z0, ⟨z1, z2, z3, z4, z5, z6⟩, y1, y2, y3, y4, y5, y6⟩ := hC
                                  go_simp
                                simp only [Act.put, List.setIfInBounds_toArray, List.set_cons_zero, List.set_cons_succ]
                                go_big_quiet_on
                                go_big_quiet_want
                                refine quiet_val (v := .agg #[.int .i64 m4, .int .i64 b4]) (fun w' hC => ?_) ?_
                                · obtain ⟨z0, ⟨z1, z2, z3, z4, z5, z6⟩, y1, y2, y3, y4, y5, y6⟩ := hC
                                  go_simp
                                simp only [Act.put, List.setIfInBounds_toArray, List.set_cons_zero, List.set_cons_succ]
                                go_big_quiet_on
                                go_big_quiet_want
                                refine quiet_val (v := .int .i64 h) (fun w' hC => ?_) ?_
                                · obtain ⟨z0, ⟨z1, z2, z3, z4, z5, z6⟩, y1, y2, y3, y4, y5, y6⟩ := hC
                                  go_simp
                                simp only [Act.put, List.setIfInBounds_toArray, List.set_cons_zero, List.set_cons_succ]
                                go_big_quiet_on
                                go_big_quiet_want
                                refine quiet_call (f := 7) (args := #[.agg #[.int .i64 m4, .int .i64 b4], .int .i64 h]) (v := .bool false) (fun w' => ?_) (fun w' hC => (has_any m4 b4 h w').mono (fun e w2 h2 => ⟨by rw [h2.1, hh], CD.later h2.2 hC⟩)) ?_
                                · go_simp
                                simp only [Act.put, List.setIfInBounds_toArray, List.set_cons_zero, List.set_cons_succ]
                                go_big_quiet_on
                                go_big_quiet_want
                                refine quiet_val (v := .bool false) (fun w' hC => ?_) ?_
                                · obtain ⟨z0, ⟨z1, z2, z3, z4, z5, z6⟩, y1, y2, y3, y4, y5, y6⟩ := hC
                                  go_simp
                                simp only [Act.put, List.setIfInBounds_toArray, List.set_cons_zero, List.set_cons_succ]
                                go_big_quiet_on
                                go_big_quiet_skip
                                go_big_quiet_skip
                                go_big_quiet_skip
                                go_big_quiet_skip
                                go_big_quiet_skip
                                go_big_quiet_skip
                                go_big_quiet_skip
                                go_big_quiet_skip
                                go_big_quiet_skip
                                go_big_quiet_skip
                                go_big_quiet_skip
                                go_big_quiet_want
                                refine quiet_val (v := .bool false) (fun w' hC => ?_) ?_
                                · obtain ⟨z0, ⟨z1, z2, z3, z4, z5, z6⟩, y1, y2, y3, y4, y5, y6⟩ := hC
                                  go_simp
                                simp only [Act.put, List.setIfInBounds_toArray, List.set_cons_zero, List.set_cons_succ]
                                go_big_quiet_on
                                refine wpQuiet_nil ?_
                                intro w' hC
                                go_wp2_with fail
                                go_meet
                                case rel => exact ⟨rfl, hC.1⟩
                              · have hpp : decide (p3 < p4) = false := by
                                  have := hle hh
                                  simp
                                  omega
                                refine wp_region_quiet (C := CD w g (og + j * 6) p4 m4 b4 o4 s4 v4 g (og + i * 6) p3 m3 b3 o3 s3 v3) (by kernel_rfl) (by kernel_rfl) (CD.later (W := wr) (Below.drew (Below.refl _ _)) HCE.out) ?_
                                simp only [List.toList_toArray]
                                go_big_quiet_want
                                refine quiet_val (v := .slice (some ⟨g, og, none⟩) n cap) (fun w' hC => ?_) ?_
                                · obtain ⟨z0, ⟨z1, z2, z3, z4, z5, z6⟩, y1, y2, y3, y4, y5, y6⟩ := hC
                                  go_simp
                                simp only [Act.put, List.setIfInBounds_toArray, List.set_cons_zero, List.set_cons_succ]
                                go_big_quiet_on
                                go_big_quiet_want
                                refine quiet_val (v := .int .i64 (j : Int)) (fun w' hC => ?_) ?_
                                · obtain ⟨z0, ⟨z1, z2, z3, z4, z5, z6⟩, y1, y2, y3, y4, y5, y6⟩ := hC
                                  go_simp
                                simp only [Act.put, List.setIfInBounds_toArray, List.set_cons_zero, List.set_cons_succ]
                                go_big_quiet_on
                                go_big_quiet_want
                                refine quiet_val (v := .pointer (some ⟨g, og + j * 6, none⟩)) (fun w' hC => ?_) ?_
                                · obtain ⟨z0, ⟨z1, z2, z3, z4, z5, z6⟩, y1, y2, y3, y4, y5, y6⟩ := hC
                                  go_simp
                                simp only [Act.put, List.setIfInBounds_toArray, List.set_cons_zero, List.set_cons_succ]
                                go_big_quiet_on
                                go_big_quiet_want
                                refine quiet_val (v := .pointer (some ⟨g, og + j * 6 + 1, none⟩)) (fun w' hC => ?_) ?_
                                · obtain ⟨z0, ⟨z1, z2, z3, z4, z5, z6⟩, y1, y2, y3, y4, y5, y6⟩ := hC
                                  go_simp
                                simp only [Act.put, List.setIfInBounds_toArray, List.set_cons_zero, List.set_cons_succ]
                                go_big_quiet_on
                                go_big_quiet_want
                                refine quiet_val (v := .agg #[.int .i64 m4, .int .i64 b4]) (fun w' hC => ?_) ?_
                                · obtain ⟨z0, ⟨z1, z2, z3, z4, z5, z6⟩, y1, y2, y3, y4, y5, y6⟩ := hC
                                  go_simp
                                simp only [Act.put, List.setIfInBounds_toArray, List.set_cons_zero, List.set_cons_succ]
                                go_big_quiet_on
                                go_big_quiet_want
                                refine quiet_val (v := .int .i64 h) (fun w' hC => ?_) ?_
                                · obtain ⟨z0, ⟨z1, z2, z3, z4, z5, z6⟩, y1, y2, y3, y4, y5, y6⟩ := hC
                                  go_simp
                                simp only [Act.put, List.setIfInBounds_toArray, List.set_cons_zero, List.set_cons_succ]
                                go_big_quiet_on
                                go_big_quiet_want
                                refine quiet_call (f := 7) (args := #[.agg #[.int .i64 m4, .int .i64 b4], .int .i64 h]) (v := .bool true) (fun w' => ?_) (fun w' hC => (has_any m4 b4 h w').mono (fun e w2 h2 => ⟨by rw [h2.1, hh], CD.later h2.2 hC⟩)) ?_
                                · go_simp
                                simp only [Act.put, List.setIfInBounds_toArray, List.set_cons_zero, List.set_cons_succ]
                                go_big_quiet_on
                                go_big_quiet_want
                                refine quiet_val (v := .bool true) (fun w' hC => ?_) ?_
                                · obtain ⟨z0, ⟨z1, z2, z3, z4, z5, z6⟩, y1, y2, y3, y4, y5, y6⟩ := hC
                                  go_simp
                                simp only [Act.put, List.setIfInBounds_toArray, List.set_cons_zero, List.set_cons_succ]
                                go_big_quiet_on
                                go_big_quiet_want
                                refine quiet_val (v := .slice (some ⟨g, og, none⟩) n cap) (fun w' hC => ?_) ?_
                                · obtain ⟨z0, ⟨z1, z2, z3, z4, z5, z6⟩, y1, y2, y3, y4, y5, y6⟩ := hC
                                  go_simp
                                simp only [Act.put, List.setIfInBounds_toArray, List.set_cons_zero, List.set_cons_succ]
                                go_big_quiet_on
                                go_big_quiet_want
                                refine quiet_val (v := .int .i64 (j : Int)) (fun w' hC => ?_) ?_
                                · obtain ⟨z0, ⟨z1, z2, z3, z4, z5, z6⟩, y1, y2, y3, y4, y5, y6⟩ := hC
                                  go_simp
                                simp only [Act.put, List.setIfInBounds_toArray, List.set_cons_zero, List.set_cons_succ]
                                go_big_quiet_on
                                go_big_quiet_want
                                refine quiet_val (v := .pointer (some ⟨g, og + j * 6, none⟩)) (fun w' hC => ?_) ?_
                                · obtain ⟨z0, ⟨z1, z2, z3, z4, z5, z6⟩, y1, y2, y3, y4, y5, y6⟩ := hC
                                  go_simp
                                simp only [Act.put, List.setIfInBounds_toArray, List.set_cons_zero, List.set_cons_succ]
                                go_big_quiet_on
                                go_big_quiet_want
                                refine quiet_val (v := .pointer (some ⟨g, og + j * 6, none⟩)) (fun w' hC => ?_) ?_
                                · obtain ⟨z0, ⟨z1, z2, z3, z4, z5, z6⟩, y1, y2, y3, y4, y5, y6⟩ := hC
                                  go_simp
                                simp only [Act.put, List.setIfInBounds_toArray, List.set_cons_zero, List.set_cons_succ]
                                go_big_quiet_on
                                go_big_quiet_want
                                refine quiet_val (v := .int .i64 p4) (fun w' hC => ?_) ?_
                                · obtain ⟨z0, ⟨z1, z2, z3, z4, z5, z6⟩, y1, y2, y3, y4, y5, y6⟩ := hC
                                  go_simp
                                simp only [Act.put, List.setIfInBounds_toArray, List.set_cons_zero, List.set_cons_succ]
                                go_big_quiet_on
                                go_big_quiet_want
                                refine quiet_val (v := .slice (some ⟨g, og, none⟩) n cap) (fun w' hC => ?_) ?_
                                · obtain ⟨z0, ⟨z1, z2, z3, z4, z5, z6⟩, y1, y2, y3, y4, y5, y6⟩ := hC
                                  go_simp
                                simp only [Act.put, List.setIfInBounds_toArray, List.set_cons_zero, List.set_cons_succ]
                                go_big_quiet_on
                                go_big_quiet_want
                                refine quiet_val (v := .int .i64 (i : Int)) (fun w' hC => ?_) ?_
                                · obtain ⟨z0, ⟨z1, z2, z3, z4, z5, z6⟩, y1, y2, y3, y4, y5, y6⟩ := hC
                                  go_simp
                                simp only [Act.put, List.setIfInBounds_toArray, List.set_cons_zero, List.set_cons_succ]
                                go_big_quiet_on
                                go_big_quiet_want
                                refine quiet_val (v := .pointer (some ⟨g, og + i * 6, none⟩)) (fun w' hC => ?_) ?_
                                · obtain ⟨z0, ⟨z1, z2, z3, z4, z5, z6⟩, y1, y2, y3, y4, y5, y6⟩ := hC
                                  go_simp
                                simp only [Act.put, List.setIfInBounds_toArray, List.set_cons_zero, List.set_cons_succ]
                                go_big_quiet_on
                                go_big_quiet_want
                                refine quiet_val (v := .pointer (some ⟨g, og + i * 6, none⟩)) (fun w' hC => ?_) ?_
                                · obtain ⟨z0, ⟨z1, z2, z3, z4, z5, z6⟩, y1, y2, y3, y4, y5, y6⟩ := hC
                                  go_simp
                                simp only [Act.put, List.setIfInBounds_toArray, List.set_cons_zero, List.set_cons_succ]
                                go_big_quiet_on
                                go_big_quiet_want
                                refine quiet_val (v := .int .i64 p3) (fun w' hC => ?_) ?_
                                · obtain ⟨z0, ⟨z1, z2, z3, z4, z5, z6⟩, y1, y2, y3, y4, y5, y6⟩ := hC
                                  go_simp
                                simp only [Act.put, List.setIfInBounds_toArray, List.set_cons_zero, List.set_cons_succ]
                                go_big_quiet_on
                                go_big_quiet_want
                                refine quiet_val (v := .bool false) (fun w' hC => ?_) ?_
                                · obtain ⟨z0, ⟨z1, z2, z3, z4, z5, z6⟩, y1, y2, y3, y4, y5, y6⟩ := hC
                                  go_simp
                                simp only [Act.put, List.setIfInBounds_toArray, List.set_cons_zero, List.set_cons_succ]
                                go_big_quiet_on
                                go_big_quiet_want
                                refine quiet_val (v := .bool false) (fun w' hC => ?_) ?_
                                · obtain ⟨z0, ⟨z1, z2, z3, z4, z5, z6⟩, y1, y2, y3, y4, y5, y6⟩ := hC
                                  go_simp
                                simp only [Act.put, List.setIfInBounds_toArray, List.set_cons_zero, List.set_cons_succ]
                                go_big_quiet_on
                                refine wpQuiet_nil ?_
                                intro w' hC
                                go_wp2_with fail
                                go_meet
                                case rel => exact ⟨rfl, hC.1⟩
                          case rest =>
                            obtain ⟨rfl, hB2⟩ := hcut
                            clear HCE
                            go_wp2
                            go_roundw
                            case rel => exact ⟨j + 1, by omega, by go_num, hB2⟩
                            case measure => simp [intOf]; omega
                        · obtain rfl : j = n := by omega
                          go_wp2
                          go_ret
                          exact ⟨rfl, HB.out⟩
                  · have hl2 : luN L.reverse h ≠ 0 := fun e => hl (lu_iff.1 e)
                    rw [no_ne hl, no_ne hl2]
                    go_wp2_with fail
                    go_quiet (fail)
                    go_wp2
                    go_ret
                    exact ⟨rfl, HK3.out.below.trans ⟨rfl, rfl, rfl, Nat.le_refl _, fun _ _ => rfl⟩⟩
                · rw [if_neg h1] at hM
                  subst hM
                  have hn0 : ((0 : Int) == (n : Int)) = false := by simp; omega
                  have hn1 : ((0 : Int) != (n : Int)) = true := by simp; omega
                  have HB : Hid (Below w.heap.size w wc) := hK.below
                  rcases hown.2 with ⟨rfl, _⟩ | ⟨g, cap2, cur, rfl, _⟩
                  · clear hown hK hKc
                    go_wp2
                    go_ret
                    exact ⟨rfl, HB.out⟩
                  · clear hown hK hKc
                    simp only [List.length_nil]
                    go_wp2
                    go_ret
                    exact ⟨rfl, HB.out⟩
end Go.Proofs.YtpbfgfphcjmcbaaDoor.ruleBack
