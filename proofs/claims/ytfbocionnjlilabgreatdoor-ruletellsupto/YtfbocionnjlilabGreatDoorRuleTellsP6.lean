/- Contracts and facts on the way to RuleTells, joined into one text: RuleTellsLaw, RuleOf, RuleOwn, RuleLaid, RuleTellsRow. -/
import Derived.Test.YtfbocionnjlilabGreatDoorRuleTellsP1
import Derived.Test.YtfbocionnjlilabGreatDoorRuleTellsP5
import Derived.Test.YtfbocionnjlilabGreatDoorRuleTellsP4
import Derived.Deep.CutRange
import Derived.Deep.CutBlock
import Derived.Test.YtfbocionnjlilabGreatDoorRows
import Derived.ProofKit
import Derived.OpenShut
import Derived.ChangeOld
import Derived.Lib.SmallJoins
import Derived.Deep.Slices
import Derived.WalkKit
import GoSem.PinnedTables
import Derived.ShutString
import Derived.Below
import Derived.ChangeSame
import Derived.ChangeVars
import Derived.JoinedOf
import Derived.RowKit
import Derived.RowKitTokens
import Derived.LaidLaws
import Derived.LaidHandle
import Derived.Stop.Joined
import Derived.Deep.DeepHandedRow
import Derived.Deep.DeepWitnessRowRef
/- The walk of RuleTells: it answers true, whatever rule, text of at most 2^20 bytes, header and table it is called with. -/
namespace Go.Proofs.YtfbocionnjlilabGreatDoor.ruleTells
open Go.RowKit
set_option linter.unusedVariables false
set_option linter.unusedSimpArgs false

theorem sh_stop {L : List Ru} {i k : Nat} {x : Int} (hx : beTo L (k : Int) L.length = x) (y : Bool) (hy : (x == (i : Int)) = y) : shB L i (k + 1) = (shB L i k || y) := by
  rw [shB_next, hx, hy]

set_option maxRecDepth 100000 in
set_option maxHeartbeats 10000000 in
theorem walk (p m b o s v h : Int) (t : ByteArray) (ao : Option Addr) (n cap : Nat) (L : List Ru) (w : World) (hs : SR w (.slice ao n cap) L) (ht : t.size ≤ 1048576) (hg : HasErr w) :
    Calls Tryz.prog 3 #[.agg #[.int .i64 p, .int .i64 m, .int .i64 b, .int .i64 o, .int .i64 s, .int .i64 v], .string t, .int .i64 h, .slice ao n cap] w fun e w' => e = .returned (.bool true) ∧ Below w.heap.size w w' := by
  have HG : Hid (HasErr w) := hg
  have HS : Hid (SR w (.slice ao n cap) L) := hs
  have HN : Hid (L.length = n) := by
    show L.length = n
    rcases hs with ⟨_, _, e, rfl⟩ | ⟨_, _, _, e, _⟩
    · simp at e; simp [e]
    · simp at e; exact e.2.1.symm
  obtain ⟨x6, hx6⟩ := paV_six (cutA t)
  have HX6 : Hid (paV (cutA t) = .agg #[.int .i64 x6.p, .int .i64 x6.m, .int .i64 x6.b, .int .i64 x6.o, .int .i64 x6.s, .int .i64 x6.v]) := hx6
  clear hs hg hx6
  go_enter Tryz.func3, Tryz.ntmps3
  go_wp2_with fail
  refine (refRule_any _ _ _ _ _ _ _).mono ?_
  rintro e w1 ⟨rfl, hb1⟩
  generalize hNr : ruN p m b o s v = N
  have HNr : Hid (ruN p m b o s v = N) := hNr
  clear hNr
  have HK1 : Hid (KB w w1 ⟨p, m, b, o, s, v⟩) :=
    KB.later (W := w.alloc (Obj.cells #[Value.int IntKind.i64 p, Value.int IntKind.i64 m, Value.int IntKind.i64 b, Value.int IntKind.i64 o, Value.int IntKind.i64 s, Value.int IntKind.i64 v] 25))
      ⟨(Below.refl _ _).alloc (Nat.le_refl _) _, by simp, C6.new w p m b o s v _⟩ hb1
  clear hb1
  obtain ⟨_, lt1, q0, q1, q2, q3, q4, q5⟩ := HK1.out
  simp only [Nat.zero_add] at q0 q1 q2 q3 q4 q5
  go_wp2_with fail
  refine (ruCheck_any _ _ _ _ _ _ _).mono ?_
  rintro e w2 ⟨rfl, hb2⟩
  rw [HNr.out]
  have HK2 : Hid (KB w w2 ⟨p, m, b, o, s, v⟩) := HK1.out.later hb2
  clear hb2 lt1 q0 q1 q2 q3 q4 q5
  go_wp2_with fail
  refine (same_noV _ _ (HG.out.later HK2.out.below)).mono ?_
  rintro e w3 ⟨rfl, hb3⟩
  have HK3 : Hid (KB w w3 ⟨p, m, b, o, s, v⟩) := HK2.out.later hb3
  clear hb3 HK1 HK2
  go_upto_if 42 with fail
  go_cut [11] from 35 (fun y w' => y = .string (wtS p m b o s v) ∧ KB w w' ⟨p, m, b, o, s, v⟩)
  case first =>
    as_aux_lemma =>
      obtain ⟨_, lt1, q0, q1, q2, q3, q4, q5⟩ := HK3.out
      simp only [Nat.zero_add] at q0 q1 q2 q3 q4 q5
      by_cases hN : N = 0
      · subst hN
        have HW : Hid (wtS p m b o s v = rsS p m b o s v) := if_pos HNr.out
        have HO : Hid (ruOk p m b o s v = true) := ok_of_n HNr.out
        go_wp2_with fail
        refine (showRule_any _ _ _ _ _ _ _ HO.out).mono ?_
        rintro e w4 ⟨rfl, hb4⟩
        have HK4 : Hid (KB w w4 ⟨p, m, b, o, s, v⟩) := HK3.out.later hb4
        clear hb4 lt1 q0 q1 q2 q3 q4 q5
        go_wp2_with fail
        go_meet
        case rel => exact ⟨by rw [HW.out], HK4.out⟩
      · have HW : Hid (wtS p m b o s v = ⟨#[]⟩) := if_neg (by rw [HNr.out]; exact hN)
        have hN2 : (N == 0) = false := by simpa using hN
        clear lt1 q0 q1 q2 q3 q4 q5 hN
        go_wp2_with fail
        go_meet
        case rel => exact ⟨by rw [HW.out], HK3.out⟩
  case rest =>
    obtain ⟨rfl, hK⟩ := hcut
    have HK4 : Hid (KB w wc ⟨p, m, b, o, s, v⟩) := hK
    clear hK HK3
    obtain ⟨_, lt1, q0, q1, q2, q3, q4, q5⟩ := HK4.out
    simp only [Nat.zero_add] at q0 q1 q2 q3 q4 q5
    go_wp2_with fail
    refine (print_any _ _ _ _ _ _ _).mono ?_
    rintro e w5 ⟨rfl, hb5⟩
    rw [HNr.out]
    have HK5 : Hid (KB w w5 ⟨p, m, b, o, s, v⟩) := HK4.out.later hb5
    clear hb5 lt1 q0 q1 q2 q3 q4 q5
    go_wp2_with fail
    refine (same_noV _ _ (HG.out.later HK5.out.below)).mono ?_
    rintro e w6 ⟨rfl, hb6⟩
    have HK6 : Hid (KB w w6 ⟨p, m, b, o, s, v⟩) := HK5.out.later hb6
    clear hb6 HK4 HK5
    go_wp2_with fail
    refine (readRule_any _ _ ht).mono ?_
    rintro e w7 ⟨rfl, hb7⟩
    rw [HX6.out]
    have HK7 : Hid (KB w w7 ⟨p, m, b, o, s, v⟩) := HK6.out.later hb7
    clear hb7 HK6
    go_wp2_with fail
    refine (parse_all _ _ ht).mono ?_
    rintro e w8 ⟨rfl, hb8⟩
    rw [HX6.out]
    have HK8 : Hid (KX w (w8.alloc (Obj.cells #[Value.int IntKind.i64 x6.p, Value.int IntKind.i64 x6.m, Value.int IntKind.i64 x6.b, Value.int IntKind.i64 x6.o, Value.int IntKind.i64 x6.s, Value.int IntKind.i64 x6.v] 25)) ⟨p, m, b, o, s, v⟩ x6 w7.heap.size w8.heap.size) :=
      ⟨((HK7.out.alloc _).later hb8).alloc _, ((C6.new w7 x6.p x6.m x6.b x6.o x6.s x6.v _).later hb8).later ((Below.refl _ _).alloc (Nat.le_refl _) _), C6.new w8 x6.p x6.m x6.b x6.o x6.s x6.v _⟩
    clear hb8 HK7
    go_upto_region 10 with fail
    generalize w8.alloc (Obj.cells #[Value.int IntKind.i64 x6.p, Value.int IntKind.i64 x6.m, Value.int IntKind.i64 x6.b, Value.int IntKind.i64 x6.o, Value.int IntKind.i64 x6.s, Value.int IntKind.i64 x6.v] 25) = W8 at *
    generalize w7.heap.size = X at *
    generalize w8.heap.size = Y at *
    go_wp2_with fail
    refine (same_noV _ _ (HG.out.later HK8.out.kb.below)).mono ?_
    rintro e w9 ⟨rfl, hb9⟩
    have HK9 : Hid (KX w w9 ⟨p, m, b, o, s, v⟩ x6 X Y) := HK8.out.later hb9
    clear hb9 HK8
    go_wp2_with fail
    refine (header_any _ _).mono ?_
    rintro e w' ⟨rfl, hw'⟩
    replace hw' := hw'.symm
    subst hw'
    generalize hH : hdrB h = Hh
    have HH : Hid (hdrB h = Hh) := hH
    clear hH
    obtain ⟨_, lt1, q0, q1, q2, q3, q4, q5⟩ := HK9.out.kb
    simp only [Nat.zero_add] at q0 q1 q2 q3 q4 q5
    go_wp2_with fail
    refine (refHas_any _ _ _ _).mono ?_
    rintro e w10 ⟨rfl, hb10⟩
    generalize hHb : hasB m b h = Hb
    have HHb : Hid (hasB m b h = Hb) := hHb
    clear hHb
    have HK10 : Hid (KX w w10 ⟨p, m, b, o, s, v⟩ x6 X Y) := HK9.out.later hb10
    clear hb10 lt1 q0 q1 q2 q3 q4 q5 HK9
    go_upto_region 13 with fail
    go_cut [77] from 35 (fun c w' => c = .bool ((N == 0) && !Hh) ∧ KX w w' ⟨p, m, b, o, s, v⟩ x6 X Y)
    case first =>
      as_aux_lemma =>
        by_cases hN : N = 0
        · subst hN
          cases Hh
          · go_wp2_with fail
            go_meet
            case rel => exact ⟨rfl, HK10.out⟩
          · go_wp2_with fail
            go_meet
            case rel => exact ⟨rfl, HK10.out⟩
        · have hN2 : (N == 0) = false := by simpa using hN
          clear hN
          go_wp2_with fail
          go_meet
          case rel => exact ⟨by rw [hN2]; rfl, HK10.out⟩
    case rest =>
      obtain ⟨rfl, hK⟩ := hcut
      have HK11 : Hid (KX w wc ⟨p, m, b, o, s, v⟩ x6 X Y) := hK
      clear hK HK10
      go_upto_if 77 with fail
      go_cut [9] from 35 (fun e w' => e = .int .i64 (apN p m b o s v h) ∧ KX w w' ⟨p, m, b, o, s, v⟩ x6 X Y)
      case first =>
        as_aux_lemma =>
          obtain ⟨_, lt1, q0, q1, q2, q3, q4, q5⟩ := HK11.out.kb
          simp only [Nat.zero_add] at q0 q1 q2 q3 q4 q5
          by_cases hN : N = 0
          · subst hN
            cases Hh
            · have HA : Hid (apN p m b o s v h = 1) := apN_hdr h HNr.out HH.out
              clear lt1 q0 q1 q2 q3 q4 q5
              go_wp2_with fail
              go_meet
              case rel => exact ⟨by rw [HA.out], HK11.out⟩
            · cases Hb
              · have HA : Hid (apN p m b o s v h = 5) := apN_none h HNr.out HH.out (by rw [HHb.out]; rfl)
                go_wp2_with fail
                go_meet
                case rel => exact ⟨by rw [HA.out], HK11.out⟩
              · cases ho : (o == 0)
                · have HA : Hid (apN p m b o s v h = 0) := apN_yes h HNr.out HH.out (by rw [HHb.out, ho]; rfl)
                  go_wp2_with fail
                  go_meet
                  case rel => exact ⟨by rw [HA.out], HK11.out⟩
                · have HA : Hid (apN p m b o s v h = 5) := apN_none h HNr.out HH.out (by rw [HHb.out, ho]; rfl)
                  go_wp2_with fail
                  go_meet
                  case rel => exact ⟨by rw [HA.out], HK11.out⟩
          · have hN2 : (N == 0) = false := by simpa using hN
            have HA : Hid (apN p m b o s v h = N) := by
              show apN p m b o s v h = N
              rw [apN_ne h (by rw [HNr.out]; exact hN), HNr.out]
            clear lt1 q0 q1 q2 q3 q4 q5 hN
            simp only [hN2, Bool.false_and]
            go_wp2_with fail
            go_meet
            case rel => exact ⟨by rw [HA.out], HK11.out⟩
      case rest =>
        obtain ⟨rfl, hK⟩ := hcut
        have HK12 : Hid (KX w wc ⟨p, m, b, o, s, v⟩ x6 X Y) := hK
        clear hK HK11
        generalize hAr : apN p m b o s v h = A
        have HAr : Hid (apN p m b o s v h = A) := hAr
        clear hAr
        go_upto_if 90 with fail
        go_cut [21] from 35 (fun y w' => y = .int .i64 (apR p m b o s v h) ∧ KX w w' ⟨p, m, b, o, s, v⟩ x6 X Y)
        case first =>
          as_aux_lemma =>
            obtain ⟨_, lt1, q0, q1, q2, q3, q4, q5⟩ := HK12.out.kb
            simp only [Nat.zero_add] at q0 q1 q2 q3 q4 q5
            by_cases hA : A = 0
            · subst hA
              obtain ⟨g1, g2, g3, g4⟩ := tu_apR HAr.out
              have HT : Hid (tuTo s v h 4 = apR p m b o s v h) := g4
              clear g4
              go_wp2_with fail
              refine (turned_any _ _ _ _ _ _ _ _ g1 g2 g3).mono ?_
              rintro e w13 ⟨rfl, hb13⟩
              rw [HT.out]
              have HK13 : Hid (KX w w13 ⟨p, m, b, o, s, v⟩ x6 X Y) := HK12.out.later hb13
              clear hb13 lt1 q0 q1 q2 q3 q4 q5
              go_wp2_with fail
              go_meet
              case rel => exact ⟨rfl, HK13.out⟩
            · have hA2 : (A == 0) = false := by simpa using hA
              have HR : Hid (apR p m b o s v h = 0) := apR_bad (by rw [HAr.out]; exact hA)
              clear lt1 q0 q1 q2 q3 q4 q5 hA
              go_wp2_with fail
              go_meet
              case rel => exact ⟨by rw [HR.out], HK12.out⟩
        case rest =>
          obtain ⟨rfl, hK⟩ := hcut
          have HK13 : Hid (KX w wc ⟨p, m, b, o, s, v⟩ x6 X Y) := hK
          clear hK HK12
          obtain ⟨_, lt1, q0, q1, q2, q3, q4, q5⟩ := HK13.out.kb
          simp only [Nat.zero_add] at q0 q1 q2 q3 q4 q5
          go_wp2_with fail
          refine (apply_any _ _ _ _ _ _ _ _).mono ?_
          rintro e w14 ⟨rfl, hb14⟩
          rw [HAr.out]
          have HK14 : Hid (KX w w14 ⟨p, m, b, o, s, v⟩ x6 X Y) := HK13.out.later hb14
          clear hb14 lt1 q0 q1 q2 q3 q4 q5 HK13
          go_wp2_with fail
          refine (same_noV _ _ (HG.out.later HK14.out.kb.below)).mono ?_
          rintro e w15 ⟨rfl, hb15⟩
          have HK15 : Hid (KX w w15 ⟨p, m, b, o, s, v⟩ x6 X Y) := HK14.out.later hb15
          clear hb15 HK14
          go_wp2_with fail
          refine (refTable_any _ L _ (HS.out.later HK15.out.kb.below)).mono ?_
          rintro e w16 ⟨rfl, hb16⟩
          generalize hTr : tbN L = T
          have HTr : Hid (tbN L = T) := hTr
          clear hTr
          have HK16 : Hid (KX w w16 ⟨p, m, b, o, s, v⟩ x6 X Y) := HK15.out.later hb16
          clear hb16 HK15
          go_wp2_with fail
          refine (table_any _ L _ (HS.out.later HK16.out.kb.below)).mono ?_
          rintro e w17 ⟨rfl, hb17⟩
          rw [HTr.out]
          have HK17 : Hid (KX w w17 ⟨p, m, b, o, s, v⟩ x6 X Y) := HK16.out.later hb17
          clear hb17 HK16
          go_wp2_with fail
          refine (same_noV _ _ (HG.out.later HK17.out.kb.below)).mono ?_
          rintro e w18 ⟨rfl, hb18⟩
          have HK18 : Hid (KX w w18 ⟨p, m, b, o, s, v⟩ x6 X Y) := HK17.out.later hb18
          clear hb18 HK17
          have hltB : w.heap.size < w18.heap.size := HK18.out.kb.lt
          have hXB : X < w18.heap.size := HK18.out.cx.lt
          have hYB : Y < w18.heap.size := HK18.out.cy.lt
          go_upto_block 0 with fail
          go_cut [25] from 35 (fun y w' => w'.ownsRow w18.heap.size 3 1 y (deadL L).length ((deadL L).map (Value.int .i64)) ∧ KX w w' ⟨p, m, b, o, s, v⟩ x6 X Y)
          case first =>
            by_cases hT : T = 0
            · subst hT
              have HD : Hid (deadL L = deTo L n) := by
                show deadL L = deTo L n
                rw [deadL, if_pos HTr.out, HN.out]
              have hl12 : n ≤ 12 := by have := tb_le HTr.out; rw [HN.out] at this; exact this
              obtain ⟨i0, hi, hz0, hz1, hz2⟩ := info_parts infoInt
              go_wp2
              go_loopw [25, 26] (fun y i wr => ∃ q : Nat, q ≤ n ∧ i = .int .i64 q ∧ wr.ownsRow w18.heap.size 3 1 y (deTo L q).length ((deTo L q).map (Value.int .i64)) ∧ KX w wr ⟨p, m, b, o, s, v⟩ x6 X Y ∧ w18.heap.size ≤ wr.heap.size) (fun _ i _ => n - (intOf i).toNat)
              case atStart => exact ⟨0, by omega, rfl, World.ownsRow_nil _ _ _ _, HK18.out, Nat.le_refl _⟩
              case round =>
                obtain ⟨q, hq, rfl, hown, hK, hsz⟩ := hrel
                have HKQ : Hid (KX w wr ⟨p, m, b, o, s, v⟩ x6 X Y) := hK
                have HOWN : Hid (wr.ownsRow w18.heap.size 3 1 u25 (deTo L q).length ((deTo L q).map (Value.int .i64))) := hown
                clear hK hown
                by_cases hlt : q < n
                · go_wp2
                  go_loopw [27, 28] (fun c i wz => ∃ k : Nat, k ≤ 16 ∧ i = .int .i64 k ∧ c = .bool (!shB L q k) ∧ wz.ownsRow w18.heap.size 3 1 u25 (deTo L q).length ((deTo L q).map (Value.int .i64)) ∧ KX w wz ⟨p, m, b, o, s, v⟩ x6 X Y ∧ w18.heap.size ≤ wz.heap.size) (fun _ i _ => 16 - (intOf i).toNat)
                  case atStart => exact ⟨0, by omega, rfl, rfl, HOWN.out, HKQ.out, hsz⟩
                  case round =>
                    obtain ⟨k, hk, rfl, rfl, hown, hK, hsz2⟩ := hrel
                    have HKR : Hid (KX w wr ⟨p, m, b, o, s, v⟩ x6 X Y) := hK
                    have HOWR : Hid (wr.ownsRow w18.heap.size 3 1 u25 (deTo L q).length ((deTo L q).map (Value.int .i64))) := hown
                    clear hK hown
                    by_cases hk16 : k < 16
                    · go_wp2_with fail
                      refine (find_any _ L _ _ (HS.out.later HKR.out.kb.below)).mono ?_
                      rintro e wf ⟨rfl, hbf⟩
                      have HKF : Hid (KX w wf ⟨p, m, b, o, s, v⟩ x6 X Y) := HKR.out.later hbf
                      have HOWF : Hid (wf.ownsRow w18.heap.size 3 1 u25 (deTo L q).length ((deTo L q).map (Value.int .i64))) := own_below HOWR.out hbf
                      have hszf : w18.heap.size ≤ wf.heap.size := Nat.le_trans hsz2 hbf.size
                      clear hbf
                      cases hy : (beTo L (k : Int) L.length == (q : Int))
                      · have HSH : Hid (shB L q (k + 1) = shB L q k) := by
                          show shB L q (k + 1) = shB L q k
                          rw [sh_stop rfl _ hy, Bool.or_false]
                        go_wp2
                        go_roundw
                        case rel => exact ⟨k + 1, by omega, by go_num, by rw [HSH.out], HOWF.out, HKF.out, hszf⟩
                        case measure => simp [intOf]; omega
                      · have HSH : Hid (shB L q (k + 1) = true) := by
                          show shB L q (k + 1) = true
                          rw [sh_stop rfl _ hy, Bool.or_true]
                        go_wp2
                        go_roundw
                        case rel => exact ⟨k + 1, by omega, by go_num, by rw [HSH.out]; rfl, HOWF.out, HKF.out, hszf⟩
                        case measure => simp [intOf]; omega
                    · have HS16 : Hid (shB L q k = shB L q 16) := by
                        show shB L q k = shB L q 16
                        rw [show k = 16 by omega]
                      rw [HS16.out]
                      have hle := deTo_len L q
                      cases hsb : shB L q 16
                      · have HSB : Hid (shB L q 16 = false) := hsb
                        clear hsb
                        go_wp2_with (at_builtin; refine wpList_append_own _ rfl _ _ 47 rfl w18.heap.size 3 i0 (.int .i64 0) 1 8 Tryz.underlying47 hi hz0 hz1 hz2 rfl (by decide) _ _ _ rfl (HOWR.out.alloc _) ⟨wr.heap.size, 0, none⟩ 1 1 [.int .i64 q] rfl rfl ?c1 ?c2 ?c3 ?c4 ?c5 ?_)
                        case c1 =>
                          intro j u hj
                          match j, hj with
                          | 0, hj => simp at hj; subst hj; simp [Addr.add]
                        case c2 => intro u hu; simp at hu; subst hu; rfl
                        case c3 => unfold maxLen; omega
                        case c4 => omega
                        case c5 => simp; omega
                        intro v' w3 hown3 hgrow _
                        have HK3' : Hid (KX w w3 ⟨p, m, b, o, s, v⟩ x6 X Y) := HKR.out.grow (((Below.refl _ _).alloc hsz2 _).grown hgrow (by simp; omega) (fun g hg => (HOWR.out.lt g hg).1)) hltB hXB hYB
                        have hsz3 : w18.heap.size ≤ w3.heap.size := Nat.le_trans hsz2 (((Below.refl w18.heap.size wr).alloc hsz2 _).grown hgrow (by simp; omega) (fun g hg => (HOWR.out.lt g hg).1)).size
                        clear hgrow
                        go_wp2
                        go_roundw
                        case rel => exact ⟨q + 1, by omega, by go_num, by rw [de_miss HSB.out]; simpa using hown3, HK3'.out, hsz3⟩
                        case measure => simp [intOf]; omega
                      · have HSB : Hid (shB L q 16 = true) := hsb
                        clear hsb
                        go_wp2
                        go_roundw
                        case rel => exact ⟨q + 1, by omega, by go_num, by rw [de_hit HSB.out]; exact HOWR.out, HKR.out, hsz2⟩
                        case measure => simp [intOf]; omega
                · have HEQ : Hid (deTo L q = deadL L) := by
                    show deTo L q = deadL L
                    rw [HD.out, show q = n by omega]
                  go_wp2_with fail
                  go_meet
                  case rel =>
                    have := HOWN.out
                    rw [HEQ.out] at this
                    exact ⟨this, HKQ.out⟩
            · have HD : Hid (deadL L = []) := if_neg (by rw [HTr.out]; exact hT)
              have hT2 : (T == 0) = false := by simpa using hT
              clear hT
              go_wp2
              go_loopw [25, 26] (fun y i wr => i = .int .i64 0 ∧ y = .slice none 0 0 ∧ wr = w18) (fun _ i _ => 0)
              case atStart => exact ⟨rfl, rfl, rfl⟩
              case round =>
                obtain ⟨rfl, rfl, rfl⟩ := hrel
                by_cases hn0 : (0 : Int) < (n : Int)
                · go_wp2_with fail
                  go_meet
                  case rel => exact ⟨by rw [HD.out]; exact World.ownsRow_nil _ _ _ _, HK18.out⟩
                · go_wp2_with fail
                  go_meet
                  case rel => exact ⟨by rw [HD.out]; exact World.ownsRow_nil _ _ _ _, HK18.out⟩
          case rest =>
            obtain ⟨hown, hK⟩ := hcut
            have HK19 : Hid (KX w wc ⟨p, m, b, o, s, v⟩ x6 X Y) := hK
            have HOD : Hid (wc.ownsRow w18.heap.size 3 1 u25 (deadL L).length ((deadL L).map (Value.int .i64))) := hown
            clear hK hown HK18
            go_wp2_with fail
            refine (shadowed_any _ L _ (HS.out.later HK19.out.kb.below)).mono ?_
            rintro e w20 ⟨l, rfl, hownL, hb20⟩
            rw [HTr.out]
            have HK20 : Hid (KX w w20 ⟨p, m, b, o, s, v⟩ x6 X Y) := HK19.out.later hb20
            have HOD2 : Hid (w20.ownsRow w18.heap.size 3 1 u25 (deadL L).length ((deadL L).map (Value.int .i64))) := own_below HOD.out hb20
            have HOL2 : Hid (w20.ownsRow wc.heap.size 3 1 l (deadL L).length ((deadL L).map (Value.int .i64))) := hownL
            clear hb20 hownL HK19 HOD
            go_wp2_with fail
            refine (same_noV _ _ (HG.out.later HK20.out.kb.below)).mono ?_
            rintro e w21 ⟨rfl, hb21⟩
            have HK21 : Hid (KX w w21 ⟨p, m, b, o, s, v⟩ x6 X Y) := HK20.out.later hb21
            have HOD3 : Hid (w21.ownsRow w18.heap.size 3 1 u25 (deadL L).length ((deadL L).map (Value.int .i64))) := own_below HOD2.out hb21
            have HOL3 : Hid (w21.ownsRow wc.heap.size 3 1 l (deadL L).length ((deadL L).map (Value.int .i64))) := own_below HOL2.out hb21
            clear hb21 HK20 HOD2 HOL2
            go_wp2_with fail
            refine (ints_any _ _ _ _ _ _ _ _ (by have := dead_len L; omega) HOL3.out HOD3.out).mono ?_
            rintro e w22 ⟨rfl, hb22⟩
            rw [beq_self_eq_true]
            have HK22 : Hid (KX w w22 ⟨p, m, b, o, s, v⟩ x6 X Y) := HK21.out.later hb22
            clear hb22 HK21 HOD3 HOL3
            go_upto_region 40 with fail
            go_cut [149] from 35 (fun c w' => c = .bool ((T == 0) && !Hh) ∧ KX w w' ⟨p, m, b, o, s, v⟩ x6 X Y)
            case first =>
              as_aux_lemma =>
                by_cases hT : T = 0
                · subst hT
                  cases Hh
                  · go_wp2_with fail
                    go_meet
                    case rel => exact ⟨rfl, HK22.out⟩
                  · go_wp2_with fail
                    go_meet
                    case rel => exact ⟨rfl, HK22.out⟩
                · have hN2 : (T == 0) = false := by simpa using hT
                  clear hT
                  go_wp2_with fail
                  go_meet
                  case rel => exact ⟨by rw [hN2]; rfl, HK22.out⟩
            case rest =>
              obtain ⟨rfl, hK⟩ := hcut
              have HK23 : Hid (KX w wc ⟨p, m, b, o, s, v⟩ x6 X Y) := hK
              clear hK HK22
              go_upto_if 149 with fail
              go_cut [9] from 35 (fun e w' => e = .int .i64 (if T = 0 then (if Hh then 0 else 1) else T) ∧ KX w w' ⟨p, m, b, o, s, v⟩ x6 X Y)
              case first =>
                as_aux_lemma =>
                  by_cases hT : T = 0
                  · subst hT
                    cases Hh
                    · go_wp2_with fail
                      go_meet
                      case rel => exact ⟨rfl, HK23.out⟩
                    · go_wp2_with fail
                      go_meet
                      case rel => exact ⟨rfl, HK23.out⟩
                  · have hN2 : (T == 0) = false := by simpa using hT
                    have HTN : Hid (¬ T = 0) := hT
                    clear hT
                    simp only [hN2, Bool.false_and]
                    go_wp2_with fail
                    go_meet
                    case rel => exact ⟨by rw [if_neg HTN.out], HK23.out⟩
              case rest =>
                obtain ⟨rfl, hK⟩ := hcut
                have HK24 : Hid (KX w wc ⟨p, m, b, o, s, v⟩ x6 X Y) := hK
                clear hK HK23
                generalize hE : (if T = 0 then (if Hh then (0 : Int) else 1) else T) = E
                have HE : Hid ((if tbN L = 0 then (if hdrB h then (0 : Int) else 1) else tbN L) = E) := by
                  show (if tbN L = 0 then (if hdrB h then (0 : Int) else 1) else tbN L) = E
                  rw [HTr.out, HH.out]
                  exact hE
                clear hE
                go_upto_if 151 with fail
                go_cut [9, 32] from 35 (fun e y w' => e = .int .i64 (luN L h) ∧ y = .int .i64 (luI L h) ∧ KX w w' ⟨p, m, b, o, s, v⟩ x6 X Y)
                case first =>
                  as_aux_lemma =>
                    by_cases hE0 : E = 0
                    · have hT : tbN L = 0 := by
                        by_cases hT : tbN L = 0
                        · exact hT
                        · have := HE.out
                          rw [if_neg hT] at this
                          omega
                      have hh : hdrB h = true := by
                        cases hh : hdrB h
                        · have := HE.out
                          rw [if_pos hT, hh] at this
                          simp at this
                          omega
                        · rfl
                      subst hE0
                      go_wp2_with fail
                      refine (find_any _ L _ _ (HS.out.later HK24.out.kb.below)).mono ?_
                      rintro e w25 ⟨rfl, hb25⟩
                      have HX : Hid (hdrB h = true ∧ tbN L = 0) := ⟨hh, hT⟩
                      clear hh hT
                      have HK25 : Hid (KX w w25 ⟨p, m, b, o, s, v⟩ x6 X Y) := HK24.out.later hb25
                      clear hb25
                      by_cases hb : beTo L h L.length < 0
                      · have HL1 : Hid (luN L h = 5) := by show luN L h = 5; simp [luN, HX.out.1, HX.out.2, hb]
                        have HL2 : Hid (luI L h = 0) := by show luI L h = 0; simp [luI, HL1.out]
                        have hb2 : decide (beTo L h L.length < 0) = true := by simpa using hb
                        clear hb
                        go_wp2_with fail
                        go_meet
                        case rel => exact ⟨by rw [HL1.out], by rw [HL2.out], HK25.out⟩
                      · have HL1 : Hid (luN L h = 0) := by show luN L h = 0; simp [luN, HX.out.1, HX.out.2, hb]
                        have HL2 : Hid (luI L h = beTo L h L.length) := by show luI L h = beTo L h L.length; simp [luI, HL1.out]
                        have hb2 : decide (beTo L h L.length < 0) = false := by simpa using hb
                        clear hb
                        go_wp2_with fail
                        go_meet
                        case rel => exact ⟨by rw [HL1.out], by rw [HL2.out], HK25.out⟩
                    · have HL1 : Hid (luN L h = E) := by
                        show luN L h = E
                        rw [← HE.out]
                        by_cases hT : tbN L = 0
                        · cases hh : hdrB h
                          · simp [luN, hT, hh]
                          · exfalso
                            have := HE.out
                            rw [if_pos hT, hh] at this
                            exact hE0 this.symm
                        · simp [luN, hT]
                      have HL2 : Hid (luI L h = 0) := by
                        show luI L h = 0
                        rw [luI, HL1.out, if_neg hE0]
                      have hE2 : (E == 0) = false := by simpa using hE0
                      clear hE0
                      go_wp2_with fail
                      go_meet
                      case rel => exact ⟨by rw [HL1.out], by rw [HL2.out], HK24.out⟩
                case rest =>
                  obtain ⟨rfl, rfl, hK⟩ := hcut
                  have HK26 : Hid (KX w wc ⟨p, m, b, o, s, v⟩ x6 X Y) := hK
                  clear hK HK24
                  go_wp2_with fail
                  refine (lookup_any _ L _ _ (HS.out.later HK26.out.kb.below)).mono ?_
                  rintro e w27 ⟨rfl, hb27⟩
                  have HK27 : Hid (KX w w27 ⟨p, m, b, o, s, v⟩ x6 X Y) := HK26.out.later hb27
                  clear hb27 HK26
                  go_wp2_with fail
                  refine (same_noV _ _ (HG.out.later HK27.out.kb.below)).mono ?_
                  rintro e w28 ⟨rfl, hb28⟩
                  have HK28 : Hid (KX w w28 ⟨p, m, b, o, s, v⟩ x6 X Y) := HK27.out.later hb28
                  clear hb28 HK27
                  obtain ⟨_, ⟨x0, x1, x2, x3, x4, x5⟩, y0, y1, y2, y3, y4, y5⟩ := HK28.out
                  simp only [Nat.zero_add] at x0 x1 x2 x3 x4 x5 y0 y1 y2 y3 y4 y5
                  have HB : Hid (Below w.heap.size w w28) := HK28.out.kb.below
                  go_wp2
                  go_ret
                  exact ⟨rfl, HB.out⟩
end Go.Proofs.YtfbocionnjlilabGreatDoor.ruleTells
/- A rule that came in, opened: six numbers. -/
namespace Go.Proofs.YtfbocionnjlilabGreatDoor
open Go.ChangeShapes Go.WideShapes Go.ChangeAt Go.RowKit Go.Joins

theorem array6 {α : Type} {cs : Array α} (h : cs.size = 6) : ∃ c0 c1 c2 c3 c4 c5, cs = #[c0, c1, c2, c3, c4, c5] := by
  obtain ⟨l⟩ := cs
  match l, h with
  | [c0, c1, c2, c3, c4, c5], _ => exact ⟨c0, c1, c2, c3, c4, c5, rfl⟩

/-- Six cells that read as a rule are six numbers. -/
theorem rule_cells {H : Type} {enc : TypeId × Value → H} {W : World} {n : Nat} {cs : List Value} {x : DataW H × List MemPlace}
    (h : DataW.trod enc Tryz.prog W 0 (fun _ => true) true n 25 cs = some x) : ∃ p m b o s v : Int, cs = [.int .i64 p, .int .i64 m, .int .i64 b, .int .i64 o, .int .i64 s, .int .i64 v] := by
  obtain ⟨xs, k, _, _, hl, hlen, hf⟩ := DataW.trod_struct Tryz.underlying25 h
  have hC : Tryz.prog.cellsOf 25 = 6 := by kernel_rfl
  have hI : Tryz.prog.cellsOf 3 = 1 := by kernel_rfl
  have hK : Tryz.prog.cellsOf 23 = 2 := by kernel_rfl
  rw [hC] at hl
  obtain ⟨c0, c1, c2, c3, c4, c5, e⟩ := array6 (cs := cs.toArray) (by simpa using hl)
  have e' : cs = [c0, c1, c2, c3, c4, c5] := by simpa using congrArg Array.toList e
  subst e'
  match xs, hlen with
  | [y0, y1, y2, y3, y4], _ =>
    have g0 := hf 0 _ rfl
    have g1 := hf 1 _ rfl
    have g2 := hf 2 _ rfl
    have g3 := hf 3 _ rfl
    have g4 := hf 4 _ rfl
    simp [hI, hK] at g0 g1 g2 g3 g4
    obtain ⟨p, e0, _, _⟩ := DataW.trod_int Tryz.underlying3 g0
    obtain ⟨z0, z1, k1, _, _, f0, f1⟩ := trod_struct2 Tryz.underlying23 g1
    simp [hI] at f0 f1
    obtain ⟨m, e1, _, _⟩ := DataW.trod_int Tryz.underlying3 f0
    obtain ⟨b, e2, _, _⟩ := DataW.trod_int Tryz.underlying3 f1
    obtain ⟨o, e3, _, _⟩ := DataW.trod_int Tryz.underlying3 g2
    obtain ⟨s, e4, _, _⟩ := DataW.trod_int Tryz.underlying3 g3
    obtain ⟨v, e5, _, _⟩ := DataW.trod_int Tryz.underlying3 g4
    simp at e0 e1 e2 e3 e4 e5
    subst e0 e1 e2 e3 e4 e5
    exact ⟨p, m, b, o, s, v, rfl⟩

set_option maxRecDepth 100000 in
/-- A rule that came in is six numbers. -/
theorem rule_of {H : Type} {enc : TypeId × Value → H} {W : World} {base : Nat} {v : Value} {d : DataW H} {p : List MemPlace}
    (hv : Value.okWide Tryz.prog W .any base 25 v) (h : DataW.Trod enc Tryz.prog W 0 (fun _ => true) true 25 v d p) :
    ∃ q m b o s x : Int, v = .agg #[.int .i64 q, .int .i64 m, .int .i64 b, .int .i64 o, .int .i64 s, .int .i64 x] := by
  obtain ⟨cs, rfl, hsz⟩ := okWide_struct Tryz.underlying25 hv
  obtain ⟨n, hn⟩ := h
  obtain ⟨q, m, b, o, s, x, e⟩ := rule_cells hn
  refine ⟨q, m, b, o, s, x, ?_⟩
  have e2 : cs = #[.int .i64 q, .int .i64 m, .int .i64 b, .int .i64 o, .int .i64 s, .int .i64 x] := by
    simp only [Value.cells] at e
    rw [← Array.toArray_toList (xs := cs), e]
  rw [e2]
end Go.Proofs.YtfbocionnjlilabGreatDoor
/- Rows of rules that a call owns; a table that came in. -/
namespace Go.Proofs.YtfbocionnjlilabGreatDoor
open Go.ChangeShapes Go.WideShapes Go.ChangeAt Go.RowKit

/-- The cells of rules. -/
def cellsR (L : List Ru) : List Value := L.flatMap fun r => [.int .i64 r.p, .int .i64 r.m, .int .i64 r.b, .int .i64 r.o, .int .i64 r.s, .int .i64 r.v]
theorem cellsR_len (L : List Ru) : (cellsR L).length = L.length * 6 := by
  induction L with
  | nil => rfl
  | cons p r ih => simp only [cellsR, List.flatMap_cons, List.length_append, List.length_cons, List.length_nil] at *; omega
theorem cellsR_app (L M : List Ru) : cellsR (L ++ M) = cellsR L ++ cellsR M := by simp [cellsR]
theorem cellsR_at (L : List Ru) (i : Nat) (h : i < L.length) : (cellsR L)[i * 6]? = some (.int .i64 (L[i]).p) ∧ (cellsR L)[i * 6 + 1]? = some (.int .i64 (L[i]).m) ∧ (cellsR L)[i * 6 + 2]? = some (.int .i64 (L[i]).b) ∧
    (cellsR L)[i * 6 + 3]? = some (.int .i64 (L[i]).o) ∧ (cellsR L)[i * 6 + 4]? = some (.int .i64 (L[i]).s) ∧ (cellsR L)[i * 6 + 5]? = some (.int .i64 (L[i]).v) := by
  induction L generalizing i with
  | nil => simp at h
  | cons p r ih =>
    cases i with
    | zero => simp [cellsR]
    | succ i =>
      have := ih i (by simpa using h)
      have e1 : (i + 1) * 6 = i * 6 + 1 + 1 + 1 + 1 + 1 + 1 := by omega
      simpa [cellsR, e1] using this
theorem cellsR_one (L : List Ru) : ∀ u ∈ cellsR L, u.oneCell' = true := by
  intro u hu
  simp only [cellsR, List.mem_flatMap] at hu
  obtain ⟨p, _, hp⟩ := hu
  simp at hp
  rcases hp with rfl | rfl | rfl | rfl | rfl | rfl <;> rfl
/-- What a call owns may be read. -/
theorem own_SR {w : World} {B e : Nat} {v : Value} {L : List Ru} (h : w.ownsRow B e 6 v L.length (cellsR L)) : SR w v L := by
  rcases h.2 with ⟨rfl, h0⟩ | ⟨g, cap, cur, rfl, _, _, h1, h2, _⟩
  · exact .inl ⟨none, 0, rfl, List.length_eq_zero_iff.1 h0⟩
  · refine .inr ⟨g, 0, cap, rfl, h1, h2, fun i hi => ?_⟩
    obtain ⟨a0, a1, a2, a3, a4, a5⟩ := cellsR_at L i hi
    refine ⟨?_, ?_, ?_, ?_, ?_, ?_⟩
    · have := h.cellAt (i * 6) (by omega)
      rw [a0] at this
      simpa using this
    · have := h.cellAt (i * 6 + 1) (by omega)
      rw [a1] at this
      simpa using this
    · have := h.cellAt (i * 6 + 2) (by omega)
      rw [a2] at this
      simpa using this
    · have := h.cellAt (i * 6 + 3) (by omega)
      rw [a3] at this
      simpa using this
    · have := h.cellAt (i * 6 + 4) (by omega)
      rw [a4] at this
      simpa using this
    · have := h.cellAt (i * 6 + 5) (by omega)
      rw [a5] at this
      simpa using this
theorem infoRule : (Tryz.prog.info? 25).map (fun i => (i.zero, i.size, i.bytes)) = some (some (.agg #[.int .i64 0, .int .i64 0, .int .i64 0, .int .i64 0, .int .i64 0, .int .i64 0]), 6, 48) := by kernel_rfl
theorem sixCells : (Value.agg #[.int .i64 0, .int .i64 0, .int .i64 0, .int .i64 0, .int .i64 0, .int .i64 0]).cells.size = 6 := by simp [Value.cells]
theorem own_pushR {W : World} {B e : Nat} {v : Value} {out : List Ru} {p m b o s x : Int} (h : W.ownsRow B e 6 v (out.length + 1) (cellsR out ++ [.int .i64 p, .int .i64 m, .int .i64 b, .int .i64 o, .int .i64 s, .int .i64 x])) :
    W.ownsRow B e 6 v (out ++ [(⟨p, m, b, o, s, x⟩ : Ru)]).length (cellsR (out ++ [(⟨p, m, b, o, s, x⟩ : Ru)])) := by
  have e1 : (out ++ [(⟨p, m, b, o, s, x⟩ : Ru)]).length = out.length + 1 := by simp
  rw [e1, cellsR_app]
  exact h

set_option maxRecDepth 100000 in
/-- A table that came in lies where its slice says. -/
theorem rules_of {H : Type} {enc : TypeId × Value → H} {W : World} {base : Nat} {v : Value} {d : DataW H} {p : List MemPlace}
    (hv : Value.okWide Tryz.prog W .any base 27 v) (h : DataW.Trod enc Tryz.prog W 0 (fun _ => true) true 27 v d p) : ∃ L, SR W v L := by
  obtain ⟨a0, len0, cap0, rfl⟩ := okWide_slice Tryz.underlying27 hv
  obtain ⟨fuel, hf⟩ := h
  have hf2 : DataW.trod enc Tryz.prog W 0 (fun _ => true) true fuel 27 [.slice a0 len0 cap0] = some (d, p) := hf
  rcases Go.Deep.open_slice Tryz.underlying27 hf2 with ⟨hc, hx⟩ | ⟨a, len, cap, m, k, D, Pl, hc, _, hl, hm, hmm, hx, hall⟩
  · simp only [List.cons.injEq, and_true, Value.slice.injEq] at hc
    obtain ⟨rfl, rfl, rfl⟩ := hc
    exact ⟨[], .inl ⟨none, 0, rfl, rfl⟩⟩
  · simp only [List.cons.injEq, and_true, Value.slice.injEq] at hc
    obtain ⟨rfl, rfl, rfl⟩ := hc
    simp only [if_true] at hmm
    subst hmm
    have hC : Tryz.prog.cellsOf 25 = 6 := by kernel_rfl
    rcases Nat.eq_zero_or_pos len0 with h0 | h0
    · subst h0
      exact ⟨[], .inl ⟨_, _, rfl, rfl⟩⟩
    · have each : ∀ i, i < m → ∃ r : Ru, ∀ j, j < 6 → W.cell? (a.add (i * 6 + j)) = (cellsR [r])[j]? := by
        intro i hi
        obtain ⟨cs, h1, h2⟩ := hall i hi
        rw [hC] at h1
        obtain ⟨_, hlen, hcell⟩ := World.cells?_some h1
        obtain ⟨q, n, b, o, s, x, rfl⟩ := rule_cells h2
        refine ⟨⟨q, n, b, o, s, x⟩, fun j hj => ?_⟩
        have := hcell j (by omega)
        rw [Go.Deep.add_add] at this
        rw [this]
        rcases (by omega : j = 0 ∨ j = 1 ∨ j = 2 ∨ j = 3 ∨ j = 4 ∨ j = 5) with rfl | rfl | rfl | rfl | rfl | rfl <;> simp [cellsR]
      have iR : Inhabited Ru := ⟨zeR⟩
      obtain ⟨R, hR⟩ := Go.Deep.choose_lt each
      obtain ⟨sb, so, spot⟩ := a
      have hspot : spot = none := by
        have := hR 0 (by omega) 0 (by omega)
        have h2 : W.cell? ((⟨sb, so, spot⟩ : Addr).add (0 * 6 + 0)) = some (.int .i64 (R 0).p) := by rw [this]; simp [cellsR]
        simpa [Addr.add] using World.cell?_spot h2
      subst hspot
      have hadd : ∀ j, (⟨sb, so, none⟩ : Addr).add j = ⟨sb, so + j, none⟩ := by
        intro j
        simp only [Addr.add]
        first
          | rfl
          | (split
             · next h0 => rw [h0]; rfl
             · rfl)
      refine ⟨(List.range len0).map R, .inr ⟨sb, so, _, by simp, by simpa using hl, hm, fun i hi => ?_⟩⟩
      have hi2 : i < len0 := by simpa using hi
      have hc := hR i (by omega)
      simp only [hadd] at hc
      have e : ((List.range len0).map R)[i] = R i := by simp
      rw [e]
      refine ⟨?_, ?_, ?_, ?_, ?_, ?_⟩
      · have := hc 0 (by omega); simpa [cellsR] using this
      · have := hc 1 (by omega); simpa [cellsR, Nat.add_assoc] using this
      · have := hc 2 (by omega); simpa [cellsR, Nat.add_assoc] using this
      · have := hc 3 (by omega); simpa [cellsR, Nat.add_assoc] using this
      · have := hc 4 (by omega); simpa [cellsR, Nat.add_assoc] using this
      · have := hc 5 (by omega); simpa [cellsR, Nat.add_assoc] using this
end Go.Proofs.YtfbocionnjlilabGreatDoor
/- The tables of Go's library that a row lists, as they lie in memory: for a witness. -/
namespace Go.Proofs.YtfbocionnjlilabGreatDoor

def cellsOfNums (k : IntKind) (l : List Nat) : Array Value := (l.map fun (n : Nat) => Value.int k (n : Int)).toArray
def db32 : List Nat := [0, 1, 28, 2, 29, 14, 24, 3, 30, 22, 20, 15, 25, 17, 4, 8, 31, 27, 13, 23, 21, 19, 16, 7, 26, 12, 18, 6, 11, 5, 10, 9]
def db64 : List Nat := [0, 1, 56, 2, 57, 49, 28, 3, 61, 58, 42, 50, 38, 29, 17, 4, 62, 47, 59, 36, 45, 43, 51, 22, 53, 39, 33, 30, 24, 18, 12, 5, 63, 55, 48, 27, 60, 41, 37, 16, 46, 35, 44, 21, 52, 32, 23, 11, 54, 26, 40, 15, 34, 20, 31, 10, 25, 14, 19, 9, 13, 8, 7, 6]
def pow10 : List Nat := (List.range 20).map fun (n : Nat) => 10 ^ n
def accepts : List Nat := [128, 191, 160, 191, 128, 159, 144, 191, 128, 143] ++ List.replicate 22 0
/-- A variable's cells are turned. -/
def lay (cs : Array Value) : Obj → Obj
  | .cells _ t frozen => .cells cs t frozen
  | o => o
/-- The tables are laid. -/
def layTables (h : Array Obj) : Array Obj :=
  ((((h.modify 5 (lay (cellsOfNums .u8 db32))).modify 6 (lay (cellsOfNums .u8 db64))).modify 1 (lay (cellsOfNums .u64 pow10))).modify 4 (lay (cellsOfNums .u8 accepts))).modify 3 (lay (cellsOfNums .u8 Go.Pinned.utf8FirstZ))
end Go.Proofs.YtfbocionnjlilabGreatDoor
/- The row of RuleTells: it answers true, whatever rule, text, header and table it is called with, where these are together of bulk at most 2^20; the listed variables are as the program's text lays them. -/
namespace Go.Proofs.YtfbocionnjlilabGreatDoor.ruleTells
open Go.ChangeShapes Go.WideShapes Go.ChangeAt Go.RowKit
open Go.ChangeMaps (open_string shut_string)
set_option linter.unusedVariables false
set_option linter.unusedSimpArgs false

theorem own : ownKnob Tryz.prog.godebug = none := by kernel_rfl
theorem laidOut : laidOutB Tryz.prog = true := by kernel_rfl
theorem et : Tryz.prog.globalNamed "errors.errorType" = some 0 := by kernel_rfl
theorem oneRow : ((List.range 173).filter fun t => Tryz.prog.rowNamed t [101, 114, 114, 111, 114]) = [31] := by kernel_rfl
theorem tsize : Tryz.prog.types.size = 173 := by kernel_rfl

/-- What the row lists of errors.errorType. -/
theorem handle_of_laid {W : World} (h : laidMetH Tryz.prog Rows.ruleTellsUptoRow.laid W) : HasErr W := by
  have h' : laidMet Tryz.prog (Rows.ruleTellsUptoRow.laid.filter fun x => x.2.handleName?.isNone) W ∧ handlesMet Tryz.prog [("errors.errorType", Rows.laid_errors_errorType)] W := h
  obtain ⟨name, u, ty, e1, e2, e3, e4, e5⟩ := h'.2 _ (List.mem_singleton.2 rfl)
  have en : name = [101, 114, 114, 111, 114] := (Option.some.inj e1).symm
  subst en
  have hu : some u = some 106 := e2.symm.trans (by kernel_rfl)
  obtain rfl := Option.some.inj hu
  have hm : ty ∈ (List.range 173).filter fun t => Tryz.prog.rowNamed t [101, 114, 114, 111, 114] := List.mem_filter.2 ⟨List.mem_range.2 (by rw [← tsize]; exact e3), e4⟩
  rw [oneRow] at hm
  obtain rfl := List.mem_singleton.1 hm
  have hh : typeHandle Tryz.prog 31 = .pointer (some ⟨7, 31, none⟩) := by kernel_rfl
  rw [hh] at e5
  unfold HasErr
  simpa using World.var?_cell et e5 0

/-- The text's length, by the bound on what is read. -/
theorem short {H : Type} {d0 d2 d3 : DataW H} {t : ByteArray} (h : Rows.uptoSmall H [d0, .lit (.string t.data.toList), d2, d3] = true) : t.size ≤ 1048576 := by
  have h1 : Rows.uptoBulkAll [d0, .lit (.string t.data.toList), d2, d3] ≤ 1048576 := of_decide_eq_true h
  simp only [Rows.uptoBulkAll, Rows.uptoBulk] at h1
  have h2 : t.data.toList.length = t.size := by simp
  omega

set_option maxRecDepth 100000 in
/-- What the walk gives, for every argument and every world that holds what is listed. -/
theorem contract (H : Type) (enc : TypeId × Value → H) (W : World) (base : Nat) (args : Array Value) (ds gs : List (DataW H)) (before : List MemPlace)
    (hval0 : ∀ (j : Nat) t v, Tryz.f3.params[j]? = some t → args[j]? = some v → Value.okWide Tryz.prog W .any base t v)
    (hW : DataW.Whole enc Tryz.prog Tryz.f3.params.toList Rows.ruleTellsSpec.vars false W args.toList ds gs before) (hL : laidMetH Tryz.prog Rows.ruleTellsUptoRow.laid W)
    (hsmall : Rows.uptoSmall H (ds ++ gs) = true) :
    Calls Tryz.prog 3 args W fun e W' => ∃ v, e = .returned v ∧ Rows.ruleTellsSpec.post enc Tryz.prog Tryz.f3 false true false false W args v W' := by
  have hval : ∀ (j : Nat) t v, Tryz.f3.params[j]? = some t → args[j]? = some v → Value.okWide Tryz.prog W .any base t v := hval0
  have hW' := hW
  obtain ⟨p, q, hA0, hV0, rfl, hfz, hnd⟩ := hW
  have hA : DataW.TrodAll enc Tryz.prog W 0 (fun _ => true) true Tryz.f3.params.toList args.toList ds p := hA0
  have hV : DataW.TrodVars enc Tryz.prog W (fun _ => true) [] gs q := hV0
  rw [Tryz.params3] at hA hval
  obtain ⟨v0, vs0, d0, ds0, p0, q0, hargs, rfl, rfl, h0, r0⟩ := trodAll_cons hA
  obtain ⟨v1, vs1, d1, ds1, p1, q1, rfl, rfl, rfl, h1, r1⟩ := trodAll_cons r0
  obtain ⟨v2, vs2, d2, ds2, p2, q2, rfl, rfl, rfl, h2, r2⟩ := trodAll_cons r1
  obtain ⟨v3, vs3, d3, ds3, p3, q3, rfl, rfl, rfl, h3, r3⟩ := trodAll_cons r2
  obtain ⟨rfl, rfl, rfl⟩ := trodAll_nil r3
  obtain rfl : args = #[v0, v1, v2, v3] := by cases args; simp_all
  have hg := handle_of_laid hL
  obtain ⟨rfl, rfl⟩ : gs = [] ∧ q = [] := by
    cases gs with
    | nil => exact ⟨rfl, hV⟩
    | cons g r => exact absurd hV (by intro h; cases h)
  have k0 := h0
  have lt0 : ∀ x ∈ p0, x.block < W.heap.size := by obtain ⟨m, hm⟩ := k0; exact DataW.trod_lt m _ _ _ hm
  have k3 := h3
  have lt3 : ∀ x ∈ p3, x.block < W.heap.size := by obtain ⟨m, hm⟩ := k3; exact DataW.trod_lt m _ _ _ hm
  obtain ⟨a0, a1, a2, a3, a4, a5, rfl⟩ := rule_of (hval 0 25 v0 rfl rfl) h0
  obtain ⟨s, rfl, rfl, rfl, ws⟩ := open_string Tryz.underlying9 (hval 1 9 v1 rfl rfl) h1
  obtain ⟨t, rfl, rfl, rfl, wt⟩ := open_int Tryz.underlying3 (hval 2 3 v2 rfl rfl) h2
  obtain ⟨L, hs⟩ := rules_of (hval 3 27 v3 rfl rfl) h3
  obtain ⟨ao, n, cap, rfl⟩ := okWide_slice Tryz.underlying27 (hval 3 27 v3 rfl rfl)
  have hsz : s.size ≤ 1048576 := short (by simpa using hsmall)
  clear hA0 hval0
  refine (walk a0 a1 a2 a3 a4 a5 t s ao n cap L W hs hsz hg).mono fun e W' ⟨he, bel⟩ => ?_
  subst he
  exact ⟨_, rfl, _, _, _, [], _, [], hW', trodAll_mk1 (shut_bool Tryz.underlying4 _), (trodAll_cons_mk (Below.trod laidOut (by kernel_rfl) (of_decide_eq_true (by kernel_rfl)) k0 bel lt0) (trodAll_cons_mk (shut_string Tryz.underlying9 ws) (trodAll_cons_mk (shut_int Tryz.underlying3 wt) (trodAll_cons_mk (Below.trod laidOut (by kernel_rfl) (of_decide_eq_true (by kernel_rfl)) k3 bel lt3) trodAll_mk0)))), rfl, bel.frame _, fun h => by cases h⟩

/-- All that the row lists is laid. -/
def layAll (h : Array Obj) : Array Obj := (layTables h).modify 0 (lay #[.iface 106 (.agg #[.pointer (some ⟨7, 31, none⟩)])])
set_option maxRecDepth 100000 in
theorem laid_met (os : Os) (args : Array Value) : laidMetH Tryz.prog Rows.ruleTellsUptoRow.laid (({ World.holding Tryz.prog os ⟨#[], #[], []⟩ with heap := layAll (World.holding Tryz.prog os ⟨#[], #[], []⟩).heap } : World).forCall (fun _ _ => 0) ⟨#[], args, []⟩).memory :=
  laidMetH_of_parts (laidMet_of_run' 8 (by kernel_rfl) (by kernel_rfl)) (by kernel_rfl)
theorem reads (os : Os) {H : Type} (enc : TypeId × Value → H) : ∃ x, DataW.whole enc Tryz.prog (({ World.holding Tryz.prog os ⟨#[], #[], []⟩ with heap := layAll (World.holding Tryz.prog os ⟨#[], #[], []⟩).heap } : World).forCall (fun _ _ => 0) ⟨#[], #[.agg #[.int .i64 0, .int .i64 0, .int .i64 0, .int .i64 0, .int .i64 0, .int .i64 0], .string ByteArray.empty, .int .i64 0, .slice none 0 0], []⟩).memory Tryz.f3.params.toList Rows.ruleTellsSpec.vars false #[Value.agg #[.int .i64 0, .int .i64 0, .int .i64 0, .int .i64 0, .int .i64 0, .int .i64 0], .string ByteArray.empty, .int .i64 0, .slice none 0 0].toList 8 = some ([.agg [.lit (.int .i64 0), .agg [.lit (.int .i64 0), .lit (.int .i64 0)], .lit (.int .i64 0), .lit (.int .i64 0), .lit (.int .i64 0)], .lit (.string []), .lit (.int .i64 0), .nil], [], x) :=
  ⟨[], by kernel_rfl⟩

set_option maxRecDepth 100000 in
theorem lifted (os : Os) (started : os.Started) (H : Type) (enc : TypeId × Value → H) (F : Stop.Interp) :
    ReturnsInHanded {} Tryz.checked os 3 .any ((Rows.OpenSpec.upto Rows.ruleTellsSpec).preRow enc Tryz.prog Tryz.f3 Rows.ruleTellsUptoRow.domain false Rows.ruleTellsUptoRow.laid) (((Rows.OpenSpec.upto Rows.ruleTellsSpec).at F).post enc Tryz.prog Tryz.f3 false true false false) := by
  obtain ⟨x, hx⟩ := reads os enc
  refine returnsInHanded_of_row (C := Tryz.checked) (s := Rows.OpenSpec.upto Rows.ruleTellsSpec) own started (by kernel_rfl) Tryz.func3
    (witness_row_atRef (enc := enc) (C := Tryz.checked) false { World.holding Tryz.prog os ⟨#[], #[], []⟩ with heap := layAll (World.holding Tryz.prog os ⟨#[], #[], []⟩).heap } #[.agg #[.int .i64 0, .int .i64 0, .int .i64 0, .int .i64 0, .int .i64 0, .int .i64 0], .string ByteArray.empty, .int .i64 0, .slice none 0 0] rfl (by kernel_rfl) (by kernel_rfl) (by kernel_rfl)
      (OpenSpec.preRow_of_cond 8 hx (by kernel_rfl) (fun k hk => by cases hk; kernel_rfl) (by kernel_rfl) (laid_met os _))) ?_
  intro W base args ds gs before hval hW _ hcond _ hL _ _
  exact contract H enc W base args ds gs before hval hW hL (hcond _ rfl)

theorem over : Rows.RuleTellsUptoSaid :=
  OpenClaim.holds_of_cond 3 Tryz.f3 rfl rfl rfl rfl rfl rfl rfl ⟨rfl, rfl, rfl, rfl, rfl⟩ rfl rfl rfl rfl rfl (by kernel_rfl) Tryz.func3 (by kernel_rfl)
    (of_decide_eq_true (by kernel_rfl)) (by unfold Func.isWrapper; first | (rw [if_pos (by decide +kernel)]; kernel_rfl) | (rw [if_neg (by decide +kernel)]; exact ⟨rfl, rfl⟩))
    (fun os started H enc _ F => by rw [OpenClaim.pre_eq_preRow]; exact lifted os started H enc F)
end Go.Proofs.YtfbocionnjlilabGreatDoor.ruleTells
