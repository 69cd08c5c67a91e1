/- The walk of RuleTells: it answers true, whatever rule, text of at most 2^20 bytes, header and table it is called with. -/
import Derived.Test.YtbieljcoaocfkabGreatDoorRuleApply
import Derived.Test.YtbieljcoaocfkabGreatDoorRuleTellsCon
import Derived.Deep.CutRange
import Derived.Deep.CutBlock
namespace Go.Proofs.YtbieljcoaocfkabGreatDoor.ruleTells
open Go.RowKit
set_option linter.unusedVariables false
set_option linter.unusedSimpArgs false

theorem sh_stop {L : List Ru} {i k : Nat} {x : Int} (hx : beTo L (k : Int) L.length = x) (y : Bool) (hy : (x == (i : Int)) = y) : shB L i (k + 1) = (shB L i k || y) := by
  rw [shB_next, hx, hy]

set_option maxRecDepth 100000 in
set_option maxHeartbeats 10000000 in
theorem walk (p m b o s v h : Int) (t : ByteArray) (ao : Option Addr) (n cap : Nat) (L : List Ru) (w : World) (hs : SR w (.slice ao n cap) L) (ht : t.size ≤ 1048576) (hg : HasErr w) :
    Calls Tryz.prog 3 #[.agg #[.int .i64 p, .int .i64 m, .int .i64 b, .int .i64 o, .int .i64 s, .int .i64 v], .string t, .int .i64 h, .slice ao n cap] w fun e w' => e = .returned (.bool true) ∧ Below w.heap.size w w' := by
  have HG : Hid (HasErr w) := hg
  have HS : Hid (SR w (.slice ao n cap) L) := hs
  have HN : Hid (L.length = n) := by
    show L.length = n
    rcases hs with ⟨_, _, e, rfl⟩ | ⟨_, _, _, e, _⟩
    · simp at e; simp [e]
    · simp at e; exact e.2.1.symm
  obtain ⟨x6, hx6⟩ := paV_six (cutA t)
  have HX6 : Hid (paV (cutA t) = .agg #[.int .i64 x6.p, .int .i64 x6.m, .int .i64 x6.b, .int .i64 x6.o, .int .i64 x6.s, .int .i64 x6.v]) := hx6
  clear hs hg hx6
  go_enter Tryz.func3, Tryz.ntmps3
  go_wp2_with fail
  refine (refRule_any _ _ _ _ _ _ _).mono ?_
  rintro e w1 ⟨rfl, hb1⟩
  generalize hNr : ruN p m b o s v = N
  have HNr : Hid (ruN p m b o s v = N) := hNr
  clear hNr
  have HK1 : Hid (KB w w1 ⟨p, m, b, o, s, v⟩) :=
    KB.later (W := w.alloc (Obj.cells #[Value.int IntKind.i64 p, Value.int IntKind.i64 m, Value.int IntKind.i64 b, Value.int IntKind.i64 o, Value.int IntKind.i64 s, Value.int IntKind.i64 v] 25))
      ⟨(Below.refl _ _).alloc (Nat.le_refl _) _, by simp, C6.new w p m b o s v _⟩ hb1
  clear hb1
  obtain ⟨_, lt1, q0, q1, q2, q3, q4, q5⟩ := HK1.out
  simp only [Nat.zero_add] at q0 q1 q2 q3 q4 q5
  go_wp2_with fail
  refine (ruCheck_any _ _ _ _ _ _ _).mono ?_
  rintro e w2 ⟨rfl, hb2⟩
  rw [HNr.out]
  have HK2 : Hid (KB w w2 ⟨p, m, b, o, s, v⟩) := HK1.out.later hb2
  clear hb2 lt1 q0 q1 q2 q3 q4 q5
  go_wp2_with fail
  refine (same_noV _ _ (HG.out.later HK2.out.below)).mono ?_
  rintro e w3 ⟨rfl, hb3⟩
  have HK3 : Hid (KB w w3 ⟨p, m, b, o, s, v⟩) := HK2.out.later hb3
  clear hb3 HK1 HK2
  go_upto_if 42 with fail
  go_cut [11] from 35 (fun y w' => y = .string (wtS p m b o s v) ∧ KB w w' ⟨p, m, b, o, s, v⟩)
  case first =>
    as_aux_lemma =>
      obtain ⟨_, lt1, q0, q1, q2, q3, q4, q5⟩ := HK3.out
      simp only [Nat.zero_add] at q0 q1 q2 q3 q4 q5
      by_cases hN : N = 0
      · subst hN
        have HW : Hid (wtS p m b o s v = rsS p m b o s v) := if_pos HNr.out
        have HO : Hid (ruOk p m b o s v = true) := ok_of_n HNr.out
        go_wp2_with fail
        refine (showRule_any _ _ _ _ _ _ _ HO.out).mono ?_
        rintro e w4 ⟨rfl, hb4⟩
        have HK4 : Hid (KB w w4 ⟨p, m, b, o, s, v⟩) := HK3.out.later hb4
        clear hb4 lt1 q0 q1 q2 q3 q4 q5
        go_wp2_with fail
        go_meet
        case rel => exact ⟨by rw [HW.out], HK4.out⟩
      · have HW : Hid (wtS p m b o s v = ⟨#[]⟩) := if_neg (by rw [HNr.out]; exact hN)
        have hN2 : (N == 0) = false := by simpa using hN
        clear lt1 q0 q1 q2 q3 q4 q5 hN
        go_wp2_with fail
        go_meet
        case rel => exact ⟨by rw [HW.out], HK3.out⟩
  case rest =>
    obtain ⟨rfl, hK⟩ := hcut
    have HK4 : Hid (KB w wc ⟨p, m, b, o, s, v⟩) := hK
    clear hK HK3
    obtain ⟨_, lt1, q0, q1, q2, q3, q4, q5⟩ := HK4.out
    simp only [Nat.zero_add] at q0 q1 q2 q3 q4 q5
    go_wp2_with fail
    refine (print_any _ _ _ _ _ _ _).mono ?_
    rintro e w5 ⟨rfl, hb5⟩
    rw [HNr.out]
    have HK5 : Hid (KB w w5 ⟨p, m, b, o, s, v⟩) := HK4.out.later hb5
    clear hb5 lt1 q0 q1 q2 q3 q4 q5
    go_wp2_with fail
    refine (same_noV _ _ (HG.out.later HK5.out.below)).mono ?_
    rintro e w6 ⟨rfl, hb6⟩
    have HK6 : Hid (KB w w6 ⟨p, m, b, o, s, v⟩) := HK5.out.later hb6
    clear hb6 HK4 HK5
    go_wp2_with fail
    refine (readRule_any _ _ ht).mono ?_
    rintro e w7 ⟨rfl, hb7⟩
    rw [HX6.out]
    have HK7 : Hid (KB w w7 ⟨p, m, b, o, s, v⟩) := HK6.out.later hb7
    clear hb7 HK6
    go_wp2_with fail
    refine (parse_all _ _ ht).mono ?_
    rintro e w8 ⟨rfl, hb8⟩
    rw [HX6.out]
    have HK8 : Hid (KX w (w8.alloc (Obj.cells #[Value.int IntKind.i64 x6.p, Value.int IntKind.i64 x6.m, Value.int IntKind.i64 x6.b, Value.int IntKind.i64 x6.o, Value.int IntKind.i64 x6.s, Value.int IntKind.i64 x6.v] 25)) ⟨p, m, b, o, s, v⟩ x6 w7.heap.size w8.heap.size) :=
      ⟨((HK7.out.alloc _).later hb8).alloc _, ((C6.new w7 x6.p x6.m x6.b x6.o x6.s x6.v _).later hb8).later ((Below.refl _ _).alloc (Nat.le_refl _) _), C6.new w8 x6.p x6.m x6.b x6.o x6.s x6.v _⟩
    clear hb8 HK7
    go_upto_region 10 with fail
    generalize w8.alloc (Obj.cells #[Value.int IntKind.i64 x6.p, Value.int IntKind.i64 x6.m, Value.int IntKind.i64 x6.b, Value.int IntKind.i64 x6.o, Value.int IntKind.i64 x6.s, Value.int IntKind.i64 x6.v] 25) = W8 at *
    generalize w7.heap.size = X at *
    generalize w8.heap.size = Y at *
    go_wp2_with fail
    refine (same_noV _ _ (HG.out.later HK8.out.kb.below)).mono ?_
    rintro e w9 ⟨rfl, hb9⟩
    have HK9 : Hid (KX w w9 ⟨p, m, b, o, s, v⟩ x6 X Y) := HK8.out.later hb9
    clear hb9 HK8
    go_wp2_with fail
    refine (header_any _ _).mono ?_
    rintro e w' ⟨rfl, hw'⟩
    replace hw' := hw'.symm
    subst hw'
    generalize hH : hdrB h = Hh
    have HH : Hid (hdrB h = Hh) := hH
    clear hH
    obtain ⟨_, lt1, q0, q1, q2, q3, q4, q5⟩ := HK9.out.kb
    simp only [Nat.zero_add] at q0 q1 q2 q3 q4 q5
    go_wp2_with fail
    refine (refHas_any _ _ _ _).mono ?_
    rintro e w10 ⟨rfl, hb10⟩
    generalize hHb : hasB m b h = Hb
    have HHb : Hid (hasB m b h = Hb) := hHb
    clear hHb
    have HK10 : Hid (KX w w10 ⟨p, m, b, o, s, v⟩ x6 X Y) := HK9.out.later hb10
    clear hb10 lt1 q0 q1 q2 q3 q4 q5 HK9
    go_upto_region 13 with fail
    go_cut [77] from 35 (fun c w' => c = .bool ((N == 0) && !Hh) ∧ KX w w' ⟨p, m, b, o, s, v⟩ x6 X Y)
    case first =>
      as_aux_lemma =>
        by_cases hN : N = 0
        · subst hN
          cases Hh
          · go_wp2_with fail
            go_meet
            case rel => exact ⟨rfl, HK10.out⟩
          · go_wp2_with fail
            go_meet
            case rel => exact ⟨rfl, HK10.out⟩
        · have hN2 : (N == 0) = false := by simpa using hN
          clear hN
          go_wp2_with fail
          go_meet
          case rel => exact ⟨by rw [hN2]; rfl, HK10.out⟩
    case rest =>
      obtain ⟨rfl, hK⟩ := hcut
      have HK11 : Hid (KX w wc ⟨p, m, b, o, s, v⟩ x6 X Y) := hK
      clear hK HK10
      go_upto_if 77 with fail
      go_cut [9] from 35 (fun e w' => e = .int .i64 (apN p m b o s v h) ∧ KX w w' ⟨p, m, b, o, s, v⟩ x6 X Y)
      case first =>
        as_aux_lemma =>
          obtain ⟨_, lt1, q0, q1, q2, q3, q4, q5⟩ := HK11.out.kb
          simp only [Nat.zero_add] at q0 q1 q2 q3 q4 q5
          by_cases hN : N = 0
          · subst hN
            cases Hh
            · have HA : Hid (apN p m b o s v h = 1) := apN_hdr h HNr.out HH.out
              clear lt1 q0 q1 q2 q3 q4 q5
              go_wp2_with fail
              go_meet
              case rel => exact ⟨by rw [HA.out], HK11.out⟩
            · cases Hb
              · have HA : Hid (apN p m b o s v h = 5) := apN_none h HNr.out HH.out (by rw [HHb.out]; rfl)
                go_wp2_with fail
                go_meet
                case rel => exact ⟨by rw [HA.out], HK11.out⟩
              · cases ho : (o == 0)
                · have HA : Hid (apN p m b o s v h = 0) := apN_yes h HNr.out HH.out (by rw [HHb.out, ho]; rfl)
                  go_wp2_with fail
                  go_meet
                  case rel => exact ⟨by rw [HA.out], HK11.out⟩
                · have HA : Hid (apN p m b o s v h = 5) := apN_none h HNr.out HH.out (by rw [HHb.out, ho]; rfl)
                  go_wp2_with fail
                  go_meet
                  case rel => exact ⟨by rw [HA.out], HK11.out⟩
          · have hN2 : (N == 0) = false := by simpa using hN
            have HA : Hid (apN p m b o s v h = N) := by
              show apN p m b o s v h = N
              rw [apN_ne h (by rw [HNr.out]; exact hN), HNr.out]
            clear lt1 q0 q1 q2 q3 q4 q5 hN
            simp only [hN2, Bool.false_and]
            go_wp2_with fail
            go_meet
            case rel => exact ⟨by rw [HA.out], HK11.out⟩
      case rest =>
        obtain ⟨rfl, hK⟩ := hcut
        have HK12 : Hid (KX w wc ⟨p, m, b, o, s, v⟩ x6 X Y) := hK
        clear hK HK11
        generalize hAr : apN p m b o s v h = A
        have HAr : Hid (apN p m b o s v h = A) := hAr
        clear hAr
        go_upto_if 90 with fail
        go_cut [21] from 35 (fun y w' => y = .int .i64 (apR p m b o s v h) ∧ KX w w' ⟨p, m, b, o, s, v⟩ x6 X Y)
        case first =>
          as_aux_lemma =>
            obtain ⟨_, lt1, q0, q1, q2, q3, q4, q5⟩ := HK12.out.kb
            simp only [Nat.zero_add] at q0 q1 q2 q3 q4 q5
            by_cases hA : A = 0
            · subst hA
              obtain ⟨g1, g2, g3, g4⟩ := tu_apR HAr.out
              have HT : Hid (tuTo s v h 4 = apR p m b o s v h) := g4
              clear g4
              go_wp2_with fail
              refine (turned_any _ _ _ _ _ _ _ _ g1 g2 g3).mono ?_
              rintro e w13 ⟨rfl, hb13⟩
              rw [HT.out]
              have HK13 : Hid (KX w w13 ⟨p, m, b, o, s, v⟩ x6 X Y) := HK12.out.later hb13
              clear hb13 lt1 q0 q1 q2 q3 q4 q5
              go_wp2_with fail
              go_meet
              case rel => exact ⟨rfl, HK13.out⟩
            · have hA2 : (A == 0) = false := by simpa using hA
              have HR : Hid (apR p m b o s v h = 0) := apR_bad (by rw [HAr.out]; exact hA)
              clear lt1 q0 q1 q2 q3 q4 q5 hA
              go_wp2_with fail
              go_meet
              case rel => exact ⟨by rw [HR.out], HK12.out⟩
        case rest =>
          obtain ⟨rfl, hK⟩ := hcut
          have HK13 : Hid (KX w wc ⟨p, m, b, o, s, v⟩ x6 X Y) := hK
          clear hK HK12
          obtain ⟨_, lt1, q0, q1, q2, q3, q4, q5⟩ := HK13.out.kb
          simp only [Nat.zero_add] at q0 q1 q2 q3 q4 q5
          go_wp2_with fail
          refine (apply_any _ _ _ _ _ _ _ _).mono ?_
          rintro e w14 ⟨rfl, hb14⟩
          rw [HAr.out]
          have HK14 : Hid (KX w w14 ⟨p, m, b, o, s, v⟩ x6 X Y) := HK13.out.later hb14
          clear hb14 lt1 q0 q1 q2 q3 q4 q5 HK13
          go_wp2_with fail
          refine (same_noV _ _ (HG.out.later HK14.out.kb.below)).mono ?_
          rintro e w15 ⟨rfl, hb15⟩
          have HK15 : Hid (KX w w15 ⟨p, m, b, o, s, v⟩ x6 X Y) := HK14.out.later hb15
          clear hb15 HK14
          go_wp2_with fail
          refine (refTable_any _ L _ (HS.out.later HK15.out.kb.below)).mono ?_
          rintro e w16 ⟨rfl, hb16⟩
          generalize hTr : tbN L = T
          have HTr : Hid (tbN L = T) := hTr
          clear hTr
          have HK16 : Hid (KX w w16 ⟨p, m, b, o, s, v⟩ x6 X Y) := HK15.out.later hb16
          clear hb16 HK15
          go_wp2_with fail
          refine (table_any _ L _ (HS.out.later HK16.out.kb.below)).mono ?_
          rintro e w17 ⟨rfl, hb17⟩
          rw [HTr.out]
          have HK17 : Hid (KX w w17 ⟨p, m, b, o, s, v⟩ x6 X Y) := HK16.out.later hb17
          clear hb17 HK16
          go_wp2_with fail
          refine (same_noV _ _ (HG.out.later HK17.out.kb.below)).mono ?_
          rintro e w18 ⟨rfl, hb18⟩
          have HK18 : Hid (KX w w18 ⟨p, m, b, o, s, v⟩ x6 X Y) := HK17.out.later hb18
          clear hb18 HK17
          have hltB : w.heap.size < w18.heap.size := HK18.out.kb.lt
          have hXB : X < w18.heap.size := HK18.out.cx.lt
          have hYB : Y < w18.heap.size := HK18.out.cy.lt
          go_upto_block 0 with fail
          go_cut [25] from 35 (fun y w' => w'.ownsRow w18.heap.size 3 1 y (deadL L).length ((deadL L).map (Value.int .i64)) ∧ KX w w' ⟨p, m, b, o, s, v⟩ x6 X Y)
          case first =>
            by_cases hT : T = 0
            · subst hT
              have HD : Hid (deadL L = deTo L n) := by
                show deadL L = deTo L n
                rw [deadL, if_pos HTr.out, HN.out]
              have hl12 : n ≤ 12 := by have := tb_le HTr.out; rw [HN.out] at this; exact this
              obtain ⟨i0, hi, hz0, hz1, hz2⟩ := info_parts infoInt
              go_wp2
              go_loopw [25, 26] (fun y i wr => ∃ q : Nat, q ≤ n ∧ i = .int .i64 q ∧ wr.ownsRow w18.heap.size 3 1 y (deTo L q).length ((deTo L q).map (Value.int .i64)) ∧ KX w wr ⟨p, m, b, o, s, v⟩ x6 X Y ∧ w18.heap.size ≤ wr.heap.size) (fun _ i _ => n - (intOf i).toNat)
              case atStart => exact ⟨0, by omega, rfl, World.ownsRow_nil _ _ _ _, HK18.out, Nat.le_refl _⟩
              case round =>
                obtain ⟨q, hq, rfl, hown, hK, hsz⟩ := hrel
                have HKQ : Hid (KX w wr ⟨p, m, b, o, s, v⟩ x6 X Y) := hK
                have HOWN : Hid (wr.ownsRow w18.heap.size 3 1 u25 (deTo L q).length ((deTo L q).map (Value.int .i64))) := hown
                clear hK hown
                by_cases hlt : q < n
                · go_wp2
                  go_loopw [27, 28] (fun c i wz => ∃ k : Nat, k ≤ 16 ∧ i = .int .i64 k ∧ c = .bool (!shB L q k) ∧ wz.ownsRow w18.heap.size 3 1 u25 (deTo L q).length ((deTo L q).map (Value.int .i64)) ∧ KX w wz ⟨p, m, b, o, s, v⟩ x6 X Y ∧ w18.heap.size ≤ wz.heap.size) (fun _ i _ => 16 - (intOf i).toNat)
                  case atStart => exact ⟨0, by omega, rfl, rfl, HOWN.out, HKQ.out, hsz⟩
                  case round =>
                    obtain ⟨k, hk, rfl, rfl, hown, hK, hsz2⟩ := hrel
                    have HKR : Hid (KX w wr ⟨p, m, b, o, s, v⟩ x6 X Y) := hK
                    have HOWR : Hid (wr.ownsRow w18.heap.size 3 1 u25 (deTo L q).length ((deTo L q).map (Value.int .i64))) := hown
                    clear hK hown
                    by_cases hk16 : k < 16
                    · go_wp2_with fail
                      refine (find_any _ L _ _ (HS.out.later HKR.out.kb.below)).mono ?_
                      rintro e wf ⟨rfl, hbf⟩
                      have HKF : Hid (KX w wf ⟨p, m, b, o, s, v⟩ x6 X Y) := HKR.out.later hbf
                      have HOWF : Hid (wf.ownsRow w18.heap.size 3 1 u25 (deTo L q).length ((deTo L q).map (Value.int .i64))) := own_below HOWR.out hbf
                      have hszf : w18.heap.size ≤ wf.heap.size := Nat.le_trans hsz2 hbf.size
                      clear hbf
                      cases hy : (beTo L (k : Int) L.length == (q : Int))
                      · have HSH : Hid (shB L q (k + 1) = shB L q k) := by
                          show shB L q (k + 1) = shB L q k
                          rw [sh_stop rfl _ hy, Bool.or_false]
                        go_wp2
                        go_roundw
                        case rel => exact ⟨k + 1, by omega, by go_num, by rw [HSH.out], HOWF.out, HKF.out, hszf⟩
                        case measure => simp [intOf]; omega
                      · have HSH : Hid (shB L q (k + 1) = true) := by
                          show shB L q (k + 1) = true
                          rw [sh_stop rfl _ hy, Bool.or_true]
                        go_wp2
                        go_roundw
                        case rel => exact ⟨k + 1, by omega, by go_num, by rw [HSH.out]; rfl, HOWF.out, HKF.out, hszf⟩
                        case measure => simp [intOf]; omega
                    · have HS16 : Hid (shB L q k = shB L q 16) := by
                        show shB L q k = shB L q 16
                        rw [show k = 16 by omega]
                      rw [HS16.out]
                      have hle := deTo_len L q
                      cases hsb : shB L q 16
                      · have HSB : Hid (shB L q 16 = false) := hsb
                        clear hsb
                        go_wp2_with (at_builtin; refine wpList_append_own _ rfl _ _ 47 rfl w18.heap.size 3 i0 (.int .i64 0) 1 8 Tryz.underlying47 hi hz0 hz1 hz2 rfl (by decide) _ _ _ rfl (HOWR.out.alloc _) ⟨wr.heap.size, 0, none⟩ 1 1 [.int .i64 q] rfl rfl ?c1 ?c2 ?c3 ?c4 ?c5 ?_)
                        case c1 =>
                          intro j u hj
                          match j, hj with
                          | 0, hj => simp at hj; subst hj; simp [Addr.add]
                        case c2 => intro u hu; simp at hu; subst hu; rfl
                        case c3 => unfold maxLen; omega
                        case c4 => omega
                        case c5 => simp; omega
                        intro v' w3 hown3 hgrow _
                        have HK3' : Hid (KX w w3 ⟨p, m, b, o, s, v⟩ x6 X Y) := HKR.out.grow (((Below.refl _ _).alloc hsz2 _).grown hgrow (by simp; omega) (fun g hg => (HOWR.out.lt g hg).1)) hltB hXB hYB
                        have hsz3 : w18.heap.size ≤ w3.heap.size := Nat.le_trans hsz2 (((Below.refl w18.heap.size wr).alloc hsz2 _).grown hgrow (by simp; omega) (fun g hg => (HOWR.out.lt g hg).1)).size
                        clear hgrow
                        go_wp2
                        go_roundw
                        case rel => exact ⟨q + 1, by omega, by go_num, by rw [de_miss HSB.out]; simpa using hown3, HK3'.out, hsz3⟩
                        case measure => simp [intOf]; omega
                      · have HSB : Hid (shB L q 16 = true) := hsb
                        clear hsb
                        go_wp2
                        go_roundw
                        case rel => exact ⟨q + 1, by omega, by go_num, by rw [de_hit HSB.out]; exact HOWR.out, HKR.out, hsz2⟩
                        case measure => simp [intOf]; omega
                · have HEQ : Hid (deTo L q = deadL L) := by
                    show deTo L q = deadL L
                    rw [HD.out, show q = n by omega]
                  go_wp2_with fail
                  go_meet
                  case rel =>
                    have := HOWN.out
                    rw [HEQ.out] at this
                    exact ⟨this, HKQ.out⟩
            · have HD : Hid (deadL L = []) := if_neg (by rw [HTr.out]; exact hT)
              have hT2 : (T == 0) = false := by simpa using hT
              clear hT
              go_wp2
              go_loopw [25, 26] (fun y i wr => i = .int .i64 0 ∧ y = .slice none 0 0 ∧ wr = w18) (fun _ i _ => 0)
              case atStart => exact ⟨rfl, rfl, rfl⟩
              case round =>
                obtain ⟨rfl, rfl, rfl⟩ := hrel
                by_cases hn0 : (0 : Int) < (n : Int)
                · go_wp2_with fail
                  go_meet
                  case rel => exact ⟨by rw [HD.out]; exact World.ownsRow_nil _ _ _ _, HK18.out⟩
                · go_wp2_with fail
                  go_meet
                  case rel => exact ⟨by rw [HD.out]; exact World.ownsRow_nil _ _ _ _, HK18.out⟩
          case rest =>
            obtain ⟨hown, hK⟩ := hcut
            have HK19 : Hid (KX w wc ⟨p, m, b, o, s, v⟩ x6 X Y) := hK
            have HOD : Hid (wc.ownsRow w18.heap.size 3 1 u25 (deadL L).length ((deadL L).map (Value.int .i64))) := hown
            clear hK hown HK18
            go_wp2_with fail
            refine (shadowed_any _ L _ (HS.out.later HK19.out.kb.below)).mono ?_
            rintro e w20 ⟨l, rfl, hownL, hb20⟩
            rw [HTr.out]
            have HK20 : Hid (KX w w20 ⟨p, m, b, o, s, v⟩ x6 X Y) := HK19.out.later hb20
            have HOD2 : Hid (w20.ownsRow w18.heap.size 3 1 u25 (deadL L).length ((deadL L).map (Value.int .i64))) := own_below HOD.out hb20
            have HOL2 : Hid (w20.ownsRow wc.heap.size 3 1 l (deadL L).length ((deadL L).map (Value.int .i64))) := hownL
            clear hb20 hownL HK19 HOD
            go_wp2_with fail
            refine (same_noV _ _ (HG.out.later HK20.out.kb.below)).mono ?_
            rintro e w21 ⟨rfl, hb21⟩
            have HK21 : Hid (KX w w21 ⟨p, m, b, o, s, v⟩ x6 X Y) := HK20.out.later hb21
            have HOD3 : Hid (w21.ownsRow w18.heap.size 3 1 u25 (deadL L).length ((deadL L).map (Value.int .i64))) := own_below HOD2.out hb21
            have HOL3 : Hid (w21.ownsRow wc.heap.size 3 1 l (deadL L).length ((deadL L).map (Value.int .i64))) := own_below HOL2.out hb21
            clear hb21 HK20 HOD2 HOL2
            go_wp2_with fail
            refine (ints_any _ _ _ _ _ _ _ _ (by have := dead_len L; omega) HOL3.out HOD3.out).mono ?_
            rintro e w22 ⟨rfl, hb22⟩
            rw [beq_self_eq_true]
            have HK22 : Hid (KX w w22 ⟨p, m, b, o, s, v⟩ x6 X Y) := HK21.out.later hb22
            clear hb22 HK21 HOD3 HOL3
            go_upto_region 40 with fail
            go_cut [149] from 35 (fun c w' => c = .bool ((T == 0) && !Hh) ∧ KX w w' ⟨p, m, b, o, s, v⟩ x6 X Y)
            case first =>
              as_aux_lemma =>
                by_cases hT : T = 0
                · subst hT
                  cases Hh
                  · go_wp2_with fail
                    go_meet
                    case rel => exact ⟨rfl, HK22.out⟩
                  · go_wp2_with fail
                    go_meet
                    case rel => exact ⟨rfl, HK22.out⟩
                · have hN2 : (T == 0) = false := by simpa using hT
                  clear hT
                  go_wp2_with fail
                  go_meet
                  case rel => exact ⟨by rw [hN2]; rfl, HK22.out⟩
            case rest =>
              obtain ⟨rfl, hK⟩ := hcut
              have HK23 : Hid (KX w wc ⟨p, m, b, o, s, v⟩ x6 X Y) := hK
              clear hK HK22
              go_upto_if 149 with fail
              go_cut [9] from 35 (fun e w' => e = .int .i64 (if T = 0 then (if Hh then 0 else 1) else T) ∧ KX w w' ⟨p, m, b, o, s, v⟩ x6 X Y)
              case first =>
                as_aux_lemma =>
                  by_cases hT : T = 0
                  · subst hT
                    cases Hh
                    · go_wp2_with fail
                      go_meet
                      case rel => exact ⟨rfl, HK23.out⟩
                    · go_wp2_with fail
                      go_meet
                      case rel => exact ⟨rfl, HK23.out⟩
                  · have hN2 : (T == 0) = false := by simpa using hT
                    have HTN : Hid (¬ T = 0) := hT
                    clear hT
                    simp only [hN2, Bool.false_and]
                    go_wp2_with fail
                    go_meet
                    case rel => exact ⟨by rw [if_neg HTN.out], HK23.out⟩
              case rest =>
                obtain ⟨rfl, hK⟩ := hcut
                have HK24 : Hid (KX w wc ⟨p, m, b, o, s, v⟩ x6 X Y) := hK
                clear hK HK23
                generalize hE : (if T = 0 then (if Hh then (0 : Int) else 1) else T) = E
                have HE : Hid ((if tbN L = 0 then (if hdrB h then (0 : Int) else 1) else tbN L) = E) := by
                  show (if tbN L = 0 then (if hdrB h then (0 : Int) else 1) else tbN L) = E
                  rw [HTr.out, HH.out]
                  exact hE
                clear hE
                go_upto_if 151 with fail
                go_cut [9, 32] from 35 (fun e y w' => e = .int .i64 (luN L h) ∧ y = .int .i64 (luI L h) ∧ KX w w' ⟨p, m, b, o, s, v⟩ x6 X Y)
                case first =>
                  as_aux_lemma =>
                    by_cases hE0 : E = 0
                    · have hT : tbN L = 0 := by
                        by_cases hT : tbN L = 0
                        · exact hT
                        · have := HE.out
                          rw [if_neg hT] at this
                          omega
                      have hh : hdrB h = true := by
                        cases hh : hdrB h
                        · have := HE.out
                          rw [if_pos hT, hh] at this
                          simp at this
                          omega
                        · rfl
                      subst hE0
                      go_wp2_with fail
                      refine (find_any _ L _ _ (HS.out.later HK24.out.kb.below)).mono ?_
                      rintro e w25 ⟨rfl, hb25⟩
                      have HX : Hid (hdrB h = true ∧ tbN L = 0) := ⟨hh, hT⟩
                      clear hh hT
                      have HK25 : Hid (KX w w25 ⟨p, m, b, o, s, v⟩ x6 X Y) := HK24.out.later hb25
                      clear hb25
                      by_cases hb : beTo L h L.length < 0
                      · have HL1 : Hid (luN L h = 5) := by show luN L h = 5; simp [luN, HX.out.1, HX.out.2, hb]
                        have HL2 : Hid (luI L h = 0) := by show luI L h = 0; simp [luI, HL1.out]
                        have hb2 : decide (beTo L h L.length < 0) = true := by simpa using hb
                        clear hb
                        go_wp2_with fail
                        go_meet
                        case rel => exact ⟨by rw [HL1.out], by rw [HL2.out], HK25.out⟩
                      · have HL1 : Hid (luN L h = 0) := by show luN L h = 0; simp [luN, HX.out.1, HX.out.2, hb]
                        have HL2 : Hid (luI L h = beTo L h L.length) := by show luI L h = beTo L h L.length; simp [luI, HL1.out]
                        have hb2 : decide (beTo L h L.length < 0) = false := by simpa using hb
                        clear hb
                        go_wp2_with fail
                        go_meet
                        case rel => exact ⟨by rw [HL1.out], by rw [HL2.out], HK25.out⟩
                    · have HL1 : Hid (luN L h = E) := by
                        show luN L h = E
                        rw [← HE.out]
                        by_cases hT : tbN L = 0
                        · cases hh : hdrB h
                          · simp [luN, hT, hh]
                          · exfalso
                            have := HE.out
                            rw [if_pos hT, hh] at this
                            exact hE0 this.symm
                        · simp [luN, hT]
                      have HL2 : Hid (luI L h = 0) := by
                        show luI L h = 0
                        rw [luI, HL1.out, if_neg hE0]
                      have hE2 : (E == 0) = false := by simpa using hE0
                      clear hE0
                      go_wp2_with fail
                      go_meet
                      case rel => exact ⟨by rw [HL1.out], by rw [HL2.out], HK24.out⟩
                case rest =>
                  obtain ⟨rfl, rfl, hK⟩ := hcut
                  have HK26 : Hid (KX w wc ⟨p, m, b, o, s, v⟩ x6 X Y) := hK
                  clear hK HK24
                  go_wp2_with fail
                  refine (lookup_any _ L _ _ (HS.out.later HK26.out.kb.below)).mono ?_
                  rintro e w27 ⟨rfl, hb27⟩
                  have HK27 : Hid (KX w w27 ⟨p, m, b, o, s, v⟩ x6 X Y) := HK26.out.later hb27
                  clear hb27 HK26
                  go_wp2_with fail
                  refine (same_noV _ _ (HG.out.later HK27.out.kb.below)).mono ?_
                  rintro e w28 ⟨rfl, hb28⟩
                  have HK28 : Hid (KX w w28 ⟨p, m, b, o, s, v⟩ x6 X Y) := HK27.out.later hb28
                  clear hb28 HK27
                  obtain ⟨_, ⟨x0, x1, x2, x3, x4, x5⟩, y0, y1, y2, y3, y4, y5⟩ := HK28.out
                  simp only [Nat.zero_add] at x0 x1 x2 x3 x4 x5 y0 y1 y2 y3 y4 y5
                  have HB : Hid (Below w.heap.size w w28) := HK28.out.kb.below
                  go_wp2
                  go_ret
                  exact ⟨rfl, HB.out⟩
end Go.Proofs.YtbieljcoaocfkabGreatDoor.ruleTells
