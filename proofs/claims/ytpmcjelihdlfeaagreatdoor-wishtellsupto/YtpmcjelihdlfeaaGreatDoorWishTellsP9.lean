/- Contracts and facts on the way to WishTells, joined into one text: RefTopo, TopoWhere, RefNamed, RuleItoa, RefDigits, WishPrint, RefWishes. -/
import Derived.Test.YtpmcjelihdlfeaaGreatDoorWishTellsP3
import Derived.Test.YtpmcjelihdlfeaaGreatDoorWishTellsP8
import Derived.Test.YtpmcjelihdlfeaaGreatDoorWishTellsP5
import Derived.Test.YtpmcjelihdlfeaaGreatDoorWishTellsP2
import Derived.Test.YtpmcjelihdlfeaaGreatDoorWishTellsP4
import Derived.Deep.QuietTactic
import Derived.BigQuiet
import Derived.Test.YtpmcjelihdlfeaaGreatDoorRows
import Derived.WalkKit
import Derived.WalkSpells
import Derived.Below
import Derived.Lib.Strings
/- What railref1.Topo answers: a contract for the walks above it. -/
namespace Go.Proofs.YtpmcjelihdlfeaaGreatDoor
open Go.RowKit
set_option linter.unusedSimpArgs false
set_option linter.unusedVariables false

theorem below_drewN (w : World) (n : Nat) : Below w.heap.size w (w.drewN n) := ⟨rfl, rfl, rfl, Nat.le_refl _, fun _ _ => rfl⟩
theorem eq2_ways (a b c d : Int) : ((a == c && b == d) = true ∧ (a == c) = true ∧ (b == d) = true) ∨ ((a == c && b == d) = false ∧ (a == c) = true ∧ (b == d) = false) ∨ ((a == c && b == d) = false ∧ (a == c) = false) := by
  cases a == c <;> cases b == d <;> simp
theorem pr_beq (a b c d : Int) : (((a, b) : Int × Int) == (c, d)) = (a == c && b == d) := rfl
theorem any_take {α : Type} {L : List α} {f : α → Bool} (h : (L.take L.length).any f = false) : L.any f = false := by simpa using h

theorem own_two {W : World} {B e : Nat} {v : Value} {U : List (Int × Int)} {m : Nat} {x0 x1 x2 x3 : Int} (hm : U.length = m) (h : W.ownsRow B e 2 v (m + 1 + 1) (cellsG spoE U ++ [.int .i64 x0, .int .i64 x1, .int .i64 x2, .int .i64 x3])) :
    W.ownsRow B e 2 v (U ++ [(x0, x1), (x2, x3)]).length (cellsG spoE (U ++ [(x0, x1), (x2, x3)])) := by
  subst hm
  have e1 : cellsG spoE (U ++ [(x0, x1), (x2, x3)]) = cellsG spoE U ++ [.int .i64 x0, .int .i64 x1, .int .i64 x2, .int .i64 x3] := by
    rw [cellsG_app]
    simp [cellsG, spoE]
  rw [e1]
  simpa using h
theorem own_one1 {W : World} {B e : Nat} {v : Value} {U : List (Int × Int)} {m : Nat} {x0 x1 : Int} (hm : U.length = m) (h : W.ownsRow B e 2 v (m + 1) (cellsG spoE U ++ [.int .i64 x0, .int .i64 x1])) :
    W.ownsRow B e 2 v (U ++ [(x0, x1)]).length (cellsG spoE (U ++ [(x0, x1)])) := by
  subst hm
  have e1 : cellsG spoE (U ++ [(x0, x1)]) = cellsG spoE U ++ [.int .i64 x0, .int .i64 x1] := by
    rw [cellsG_app]
    simp [cellsG, spoE]
  rw [e1]
  simpa using h
/-- A block that is not the row's own is as it was. -/
theorem grown_cell {W w' : World} {v : Value} {g : Nat} (h : W.grownBy w' v.ownBlock) (hl : g < W.heap.size) (hn : ∀ k, v.ownBlock = some k → k ≠ g) (i : Nat) : w'.cell? ⟨g, i, none⟩ = W.cell? ⟨g, i, none⟩ :=
  World.cell?_of_block (w := W) (a := ⟨g, i, none⟩) (h.block g hl (fun e => hn g (by first | exact e | exact e.symm) rfl))

set_option maxHeartbeats 8000000 in
set_option maxRecDepth 100000 in
theorem rtopo_any (S : Int) (ao : Option Addr) (n cap : Nat) (ao2 : Option Addr) (n2 cap2 : Nat) (Ls : List ((Int × Int) × (Int × Int))) (Hs : List (ByteArray × (Int × Int))) (w : World)
    (hL : GS lnkE w (.slice ao n cap) Ls) (hH : GS hstE w (.slice ao2 n2 cap2) Hs) :
    Calls Tryz.prog 19 #[.agg #[.int .i64 S, .slice ao n cap, .slice ao2 n2 cap2]] w fun e w' => e = .returned (.int .i64 (tpN S Ls Hs)) ∧ Below w.heap.size w w' := by
  obtain ⟨_, _, _, e1, hLn, hLm, _, hLa⟩ := hL.form
  cases e1
  obtain ⟨_, _, _, e2, hHn, hHm, _, hHa⟩ := hH.form
  cases e2
  have HLN : Hid (Ls.length = n) := hLn
  have HHN : Hid (Hs.length = n2) := hHn
  have HLA : Hid (0 < n → ∃ g o, ao = some ⟨g, o, none⟩ ∧ GAt lnkE w g o Ls ∧ cap ≤ maxLen) := hLa
  have HHA : Hid (0 < n2 → ∃ g o, ao2 = some ⟨g, o, none⟩ ∧ GAt hstE w g o Hs ∧ cap2 ≤ maxLen) := hHa
  obtain ⟨T, hT⟩ : ∃ T, T = tpN S Ls Hs := ⟨_, rfl⟩
  have HT : Hid (T = tpN S Ls Hs) := hT
  rw [← hT]
  have hX := tbox_new w S (.slice ao n cap) (.slice ao2 n2 cap2) 25
  have hB : Below w.heap.size w (w.alloc (Obj.cells #[.int .i64 S, .slice ao n cap, .slice ao2 n2 cap2] 25)) := (Below.refl _ _).alloc (Nat.le_refl _) _
  have HB0' : Hid (Below w.heap.size w (w.alloc (Obj.cells #[.int .i64 S, .slice ao n cap, .slice ao2 n2 cap2] 25))) := hB
  by_cases h1 : 1 ≤ S
  · by_cases h6 : S ≤ 6
    · by_cases h2 : n ≤ 200
      · by_cases h8 : n2 ≤ 8
        · have s1 : decide (S < 1) = false := by simp; omega
          have s2 : decide (6 < S) = false := by simp; omega
          have s3 : decide (200 < (n : Int)) = false := by simp; omega
          have s4 : decide (8 < (n2 : Int)) = false := by simp; omega
          have HM : Hid (T = if lkN S Ls [] = 0 then hoN S Hs [] (spsL Ls) else lkN S Ls []) := by
            show _ = _
            rw [hT]
            unfold tpN
            have e3 : (decide (1 ≤ S) && decide (S ≤ 6)) = true := by simp [h1, h6]
            have e4 : (decide (Ls.length ≤ 200) && decide (Hs.length ≤ 8)) = true := by simp [hLn, hHn, h2, h8]
            rw [if_pos e3, if_pos e4]
          obtain ⟨w0, hw0⟩ : ∃ W, w.alloc (Obj.cells #[.int .i64 S, .slice ao n cap, .slice ao2 n2 cap2] 25) = W := ⟨_, rfl⟩
          rw [hw0] at hX hB
          have HX : Hid (TBox w0 w.heap.size S (.slice ao n cap) (.slice ao2 n2 cap2)) := hX
          have HB : Hid (Below w.heap.size w w0) := hB
          have HW0 : Hid (w.alloc (Obj.cells #[.int .i64 S, .slice ao n cap, .slice ao2 n2 cap2] 25) = w0) := hw0
          have H2 : Hid (n ≤ 200) := h2
          have H8 : Hid (n2 ≤ 8) := h8
          obtain ⟨i0, hi, hz0, hz1, hz2⟩ := info_parts spo_info
          clear hL hH hLn hLm hLa hHn hHm hHa hT hX hB hw0 h1 h6 h2 h8 HB0' HT
          go_enter Tryz.func19, Tryz.ntmps19
          go_wp2
          rw [HW0.out]
          go_loopw [3, 4] (fun u i wr => ∃ k : Nat, k ≤ n ∧ i = .int .i64 k ∧ wr.ownsRow w0.heap.size 80 2 u (spsL (Ls.take k)).length (cellsG spoE (spsL (Ls.take k))) ∧ lkN S Ls [] = lkN S (Ls.drop k) (spsL (Ls.take k)) ∧ Below w0.heap.size w0 wr) (fun _ i _ => n - (intOf i).toNat)
          case atStart => exact ⟨0, by omega, rfl, by simpa [spsL, cellsG] using World.ownsRow_nil _ _ _ _, by simp [spsL], Below.refl _ _⟩
          case round =>
            rename_i u3 u4
            obtain ⟨k, hk, rfl, hown, hlk, hBr⟩ := hrel
            obtain ⟨ao3, cap3, rfl⟩ := own_form hown
            obtain ⟨wo, hwo⟩ : ∃ x, x = wr := ⟨_, rfl⟩
            subst hwo
            have HOWN : Hid (wo.ownsRow w0.heap.size 80 2 (.slice ao3 (spsL (Ls.take k)).length cap3) (spsL (Ls.take k)).length (cellsG spoE (spsL (Ls.take k)))) := hown
            have HLK : Hid (lkN S Ls [] = lkN S (Ls.drop k) (spsL (Ls.take k))) := hlk
            have HBr : Hid (Below w0.heap.size w0 wo) := hBr
            have HBw : Hid (Below w.heap.size w wo) := HB.out.trans (hBr.mono HB.out.size)
            have HXr : Hid (TBox wo w.heap.size S (.slice ao n cap) (.slice ao2 n2 cap2)) := HX.out.later hBr
            obtain ⟨b0, b1, b2⟩ := HXr.out
            have hlw : w.heap.size < wo.heap.size := World.block_lt_of_cell? _ _ b0
            have hn200 : n ≤ 200 := H2.out
            have hlen : (spsL (Ls.take k)).length ≤ 400 := by
              rw [sps_len, List.length_take]
              omega
            obtain ⟨U, hU⟩ : ∃ U, U = spsL (Ls.take k) := ⟨_, rfl⟩
            have HU : Hid (U = spsL (Ls.take k)) := hU
            rw [← hU] at HOWN HLK hlen
            rw [← hU]
            obtain ⟨m, hm⟩ : ∃ m, m = U.length := ⟨_, rfl⟩
            have HMU : Hid (U.length = m) := hm.symm
            rw [← hm] at HOWN hlen
            rw [← hm]
            clear hown hlk hBr hU hm HW0
            by_cases hlt : k < n
            · have HK1 : Hid (k + 1 ≤ n) := hlt
              obtain ⟨g, o, hao, hc, _⟩ := HLA.out (by omega)
              subst hao
              obtain ⟨x0, x1, x2, x3, hkl, hLk, q0, q1, q2, q3⟩ := lnk_at (hc.later HBw.out) HLN.out hlt
              have HLK1 : Hid (lkN S Ls [] = if lk1 S U ((x0, x1), (x2, x3)) = 0 then lkN S (Ls.drop (k + 1)) (U ++ [(x0, x1), (x2, x3)]) else lk1 S U ((x0, x1), (x2, x3))) := by
                show _ = _
                rw [HLK.out, List.drop_eq_getElem_cons hkl, lk_step, hLk]
              have HUN : Hid (spsL (Ls.take (k + 1)) = U ++ [(x0, x1), (x2, x3)]) := by
                show _ = _
                rw [sps_take hkl, hLk, HU.out]
              have HT7 : Hid (lk1 S U ((x0, x1), (x2, x3)) ≠ 0 → T = lk1 S U ((x0, x1), (x2, x3))) := fun h => by
                have e := HLK1.out
                rw [if_neg h] at e
                rw [HM.out, e, if_neg h]
              have HBA : Hid (Below wo.heap.size wo (wo.alloc (Obj.cells #[Value.int IntKind.i64 x0, Value.int IntKind.i64 x1, Value.int IntKind.i64 x2, Value.int IntKind.i64 x3] 101))) := (Below.refl _ _).alloc (Nat.le_refl _) _
              have HBX : Hid (VAt (wo.alloc (Obj.cells #[Value.int IntKind.i64 x0, Value.int IntKind.i64 x1, Value.int IntKind.i64 x2, Value.int IntKind.i64 x3] 101)) wo.heap.size 0 (lnkE.c ((x0, x1), (x2, x3)))) := lnk_new wo x0 x1 x2 x3 101
              clear hLk hc
              go_wp2_with fail
              refine (rspot_any S (some ⟨g, o, none⟩) n cap ao2 n2 cap2 x0 x1 _).mono ?_
              rintro e w2 ⟨rfl, hb2⟩
              have hB2 : Below wo.heap.size wo w2 := HBA.out.trans (hb2.mono HBA.out.size)
              have HB2 : Hid (Below wo.heap.size wo w2) := hB2
              have HV2 : Hid (VAt w2 wo.heap.size 0 (lnkE.c ((x0, x1), (x2, x3)))) := HBX.out.later hb2
              obtain ⟨b0, b1, b2⟩ := HXr.out.later hB2
              obtain ⟨l0, l1, l2, l3⟩ := lnk_cells HV2.out
              simp only [Nat.zero_add] at l0 l1 l2 l3
              have hll : wo.heap.size < w2.heap.size := World.block_lt_of_cell? _ _ l0
              clear hb2 hB2 HBA HBX q0 q1 q2 q3
              go_wp2_with fail
              refine (rspot_any S (some ⟨g, o, none⟩) n cap ao2 n2 cap2 x2 x3 _).mono ?_
              rintro e w3 ⟨rfl, hb3⟩
              have hB3 : Below wo.heap.size wo w3 := HB2.out.trans (hb3.mono HB2.out.size)
              have HB3 : Hid (Below wo.heap.size wo w3) := hB3
              have HB3w : Hid (Below w.heap.size w w3) := HBw.out.trans (hB3.mono HBw.out.size)
              have HV3 : Hid (VAt w3 wo.heap.size 0 (lnkE.c ((x0, x1), (x2, x3)))) := HV2.out.later hb3
              obtain ⟨b0, b1, b2⟩ := HXr.out.later hB3
              obtain ⟨l0, l1, l2, l3⟩ := lnk_cells HV3.out
              simp only [Nat.zero_add] at l0 l1 l2 l3
              have hll : wo.heap.size < w3.heap.size := World.block_lt_of_cell? _ _ l0
              clear hb3 hB3 HV2 HB2
              cases hsa : spB S (x0, x1)
              · have HT1 : Hid (T = 1) := by
                  have e : lk1 S U ((x0, x1), (x2, x3)) = 1 := by simp [lk1, hsa]
                  have := HT7.out (by rw [e]; decide)
                  rw [e] at this
                  exact this
                go_wp2
                go_ret
                exact ⟨by rw [HT1.out]; rfl, HB3w.out⟩
              · cases hsb : spB S (x2, x3)
                · have HT1 : Hid (T = 1) := by
                    have e : lk1 S U ((x0, x1), (x2, x3)) = 1 := by simp [lk1, hsa, hsb]
                    have := HT7.out (by rw [e]; decide)
                    rw [e] at this
                    exact this
                  go_wp2
                  go_ret
                  exact ⟨by rw [HT1.out]; rfl, HB3w.out⟩
                · have HL7 : Hid (lk1 S U ((x0, x1), (x2, x3)) = if (x0 == x2 && x1 == x3) || (U.any fun u => u == (x0, x1) || u == (x2, x3)) then 7 else 0) := by
                    show _ = _
                    simp only [lk1, hsa, hsb, Bool.and_self, if_true, pr_beq]
                  rcases eq2_ways x0 x1 x2 x3 with ⟨g0, g1, g2⟩ | hne
                  · have HT1 : Hid (T = 7) := by
                      have e : lk1 S U ((x0, x1), (x2, x3)) = 7 := by rw [HL7.out, g0]; rfl
                      have := HT7.out (by rw [e]; decide)
                      rw [e] at this
                      exact this
                    go_wp2
                    go_ret
                    exact ⟨by rw [HT1.out]; rfl, HB3w.out⟩
                  · have hg0 : (x0 == x2 && x1 == x3) = false := by
                      rcases hne with ⟨h, _⟩ | ⟨h, _⟩ <;> exact h
                    have HL8 : Hid (lk1 S U ((x0, x1), (x2, x3)) = if (U.any fun u => u == (x0, x1) || u == (x2, x3)) then 7 else 0) := by
                      show _ = _
                      rw [HL7.out, hg0, Bool.false_or]
                    obtain ⟨_, _, _, e5, hUn, hUm, _, hUa⟩ := (own_GS (E := spoE) (L := U) (by rw [HMU.out]; exact HOWN.out) : GS spoE wo (.slice ao3 m cap3) U).form
                    cases e5
                    have HUA : Hid (0 < m → ∃ g o, ao3 = some ⟨g, o, none⟩ ∧ GAt spoE wo g o U ∧ cap3 ≤ maxLen) := hUa
                    clear hUn hUm hUa hg0
                    go_upto_region 14 with fail
                    go_cut [63] from 59 to 63 (fun c w' => c = .bool false ∧ w' = w3)
                    case first =>
                      rcases hne with ⟨_, g1, g2⟩ | ⟨_, g1⟩
                      · go_wp2_with fail
                        go_meet
                        case rel => exact ⟨rfl, rfl⟩
                      · go_wp2_with fail
                        go_meet
                        case rel => exact ⟨rfl, rfl⟩
                    case rest =>
                      obtain ⟨rfl, hwc⟩ := hcut
                      subst hwc
                      clear hne
                      go_wp2
                      go_loopw [8] (fun j wz => ∃ q : Nat, q ≤ m ∧ j = .int .i64 q ∧ (U.take q).any (fun u => u == (x0, x1) || u == (x2, x3)) = false ∧ Below wc.heap.size wc wz) (fun j _ => m - (intOf j).toNat)
                      case atStart => exact ⟨0, by omega, rfl, by simp, Below.refl _ _⟩
                      case round =>
                        obtain ⟨q, hq, rfl, hno, hBz⟩ := hrel
                        have HNO : Hid ((U.take q).any (fun u => u == (x0, x1) || u == (x2, x3)) = false) := hno
                        have HBz : Hid (Below wo.heap.size wo wr) := HB3.out.trans (hBz.mono HB3.out.size)
                        have HBc : Hid (Below wc.heap.size wc wr) := hBz
                        have HBzw : Hid (Below w.heap.size w wr) := HBw.out.trans (HBz.out.mono HBw.out.size)
                        obtain ⟨b0, b1, b2⟩ := HXr.out.later HBz.out
                        have HVz : Hid (VAt wr wo.heap.size 0 (lnkE.c ((x0, x1), (x2, x3)))) := HV3.out.later hBz
                        obtain ⟨l0, l1, l2, l3⟩ := lnk_cells HVz.out
                        simp only [Nat.zero_add] at l0 l1 l2 l3
                        have hll : wo.heap.size < wr.heap.size := World.block_lt_of_cell? _ _ l0
                        clear hno hBz
                        by_cases hqm : q < m
                        · obtain ⟨g3, o3, hao3, hc3, _⟩ := HUA.out (by omega)
                          subst hao3
                          obtain ⟨v0, v1, hql, hUq, p0, p1⟩ := spo_at (hc3.later HBz.out) HMU.out hqm
                          have HUQ : Hid (U[q] = (v0, v1)) := hUq
                          have qb0 : (0 : Int) ≤ (q : Int) := by omega
                          have qb1 : (q : Int) < (m : Int) := by omega
                          have hgl3 : g3 < wr.heap.size := World.block_lt_of_cell? _ _ p0
                          have HHIT : Hid (((v0 == x0 && v1 == x1) || (v0 == x2 && v1 == x3)) = true → T = 7) := fun hy => by
                            have e : lk1 S U ((x0, x1), (x2, x3)) = 7 := by
                              rw [HL8.out, any_hitG hql (by rw [HUQ.out]; exact hy)]
                              rfl
                            have := HT7.out (by rw [e]; decide)
                            rw [e] at this
                            exact this
                          have HNXT : Hid (((v0 == x0 && v1 == x1) || (v0 == x2 && v1 == x3)) = false → (U.take (q + 1)).any (fun u => u == (x0, x1) || u == (x2, x3)) = false) := fun hy => any_nextG hql HNO.out (by rw [HUQ.out]; exact hy)
                          clear hc3 hUq
                          rcases eq2_ways v0 v1 x0 x1 with ⟨f0, f1, f2⟩ | ⟨f0, f1, f2⟩ | ⟨f0, f1⟩
                          · have HT1 : Hid (T = 7) := HHIT.out (by rw [f0]; rfl)
                            go_wp2_with fail
                            go_quiet (fail)
                            go_wp2
                            go_ret
                            exact ⟨by rw [HT1.out]; rfl, HBzw.out.trans ((below_drewN _ _).mono HBzw.out.size)⟩
                          · rcases eq2_ways v0 v1 x2 x3 with ⟨d0, d1, d2⟩ | ⟨d0, d1, d2⟩ | ⟨d0, d1⟩
                            · have HT1 : Hid (T = 7) := HHIT.out (by rw [f0, d0]; rfl)
                              go_wp2_with fail
                              go_quiet (fail)
                              go_wp2
                              go_ret
                              exact ⟨by rw [HT1.out]; rfl, HBzw.out.trans ((below_drewN _ _).mono HBzw.out.size)⟩
                            · have HN1 : Hid ((U.take (q + 1)).any (fun u => u == (x0, x1) || u == (x2, x3)) = false) := HNXT.out (by rw [f0, d0]; rfl)
                              go_wp2_with fail
                              go_quiet (fail)
                              go_wp2
                              go_roundw
                              case rel => exact ⟨q + 1, by omega, by go_num, HN1.out, HBc.out.trans ((below_drewN _ _).mono HBc.out.size)⟩
                              case measure => simp [intOf]; omega
                            · have HN1 : Hid ((U.take (q + 1)).any (fun u => u == (x0, x1) || u == (x2, x3)) = false) := HNXT.out (by rw [f0, d0]; rfl)
                              go_wp2_with fail
                              go_quiet (fail)
                              go_wp2
                              go_roundw
                              case rel => exact ⟨q + 1, by omega, by go_num, HN1.out, HBc.out.trans ((below_drewN _ _).mono HBc.out.size)⟩
                              case measure => simp [intOf]; omega
                          · rcases eq2_ways v0 v1 x2 x3 with ⟨d0, d1, d2⟩ | ⟨d0, d1, d2⟩ | ⟨d0, d1⟩
                            · have HT1 : Hid (T = 7) := HHIT.out (by rw [f0, d0]; rfl)
                              go_wp2_with fail
                              go_quiet (fail)
                              go_wp2
                              go_ret
                              exact ⟨by rw [HT1.out]; rfl, HBzw.out.trans ((below_drewN _ _).mono HBzw.out.size)⟩
                            · have HN1 : Hid ((U.take (q + 1)).any (fun u => u == (x0, x1) || u == (x2, x3)) = false) := HNXT.out (by rw [f0, d0]; rfl)
                              go_wp2_with fail
                              go_quiet (fail)
                              go_wp2
                              go_roundw
                              case rel => exact ⟨q + 1, by omega, by go_num, HN1.out, HBc.out.trans ((below_drewN _ _).mono HBc.out.size)⟩
                              case measure => simp [intOf]; omega
                            · have HN1 : Hid ((U.take (q + 1)).any (fun u => u == (x0, x1) || u == (x2, x3)) = false) := HNXT.out (by rw [f0, d0]; rfl)
                              go_wp2_with fail
                              go_quiet (fail)
                              go_wp2
                              go_roundw
                              case rel => exact ⟨q + 1, by omega, by go_num, HN1.out, HBc.out.trans ((below_drewN _ _).mono HBc.out.size)⟩
                              case measure => simp [intOf]; omega
                        · obtain rfl : q = m := by omega
                          have HAN : Hid ((U.any fun u => u == (x0, x1) || u == (x2, x3)) = false) := by
                            have := HNO.out
                            rw [← HMU.out] at this
                            exact any_take this
                          have HL0 : Hid (lkN S Ls [] = lkN S (Ls.drop (k + 1)) (U ++ [(x0, x1), (x2, x3)])) := by
                            show _ = _
                            have e : lk1 S U ((x0, x1), (x2, x3)) = 0 := by
                              rw [HL8.out, HAN.out]
                              rfl
                            rw [HLK1.out, if_pos e]
                          have HOZ : Hid (wr.ownsRow w0.heap.size 80 2 (.slice ao3 q cap3) q (cellsG spoE U)) := own_below HOWN.out HBz.out
                          have HBz0 : Hid (Below w0.heap.size w0 wr) := HBr.out.trans (HBz.out.mono HBr.out.size)
                          have hsz0 : w0.heap.size ≤ wr.heap.size := HBz0.out.size
                          go_wp2_with (at_builtin; refine wpList_append_own _ rfl _ _ 109 rfl w0.heap.size 80 i0 (.agg #[.int .i64 0, .int .i64 0]) 2 16 Tryz.underlying109 hi hz0 hz1 hz2 spo_zero (by decide) _ _ _ rfl (HOZ.out.alloc _) ⟨wr.heap.size, 0, none⟩ 1 1 [.int .i64 x0, .int .i64 x1] rfl rfl ?m1 ?m2 ?m3 ?m4 ?m5 ?_)
                          case m1 =>
                            intro j u hj
                            match j, hj with
                            | 0, hj => simp at hj; subst hj; simp [Addr.add]
                            | 1, hj => simp at hj; subst hj; simp [Addr.add]
                          case m2 => intro u hu; simp at hu; rcases hu with rfl | rfl <;> rfl
                          case m3 => unfold maxLen; omega
                          case m4 => omega
                          case m5 => simp; omega
                          intro v5 w5 hown5 hgrow5 _
                          obtain ⟨ao5, cap5, rfl⟩ := own_form hown5
                          have hb5 : Below w0.heap.size wr w5 := ((Below.refl _ wr).alloc hsz0 _).grown hgrow5 (by simp; omega) (fun g hg => (HOZ.out.lt g hg).1)
                          have HB5 : Hid (Below w0.heap.size w0 w5) := HBz0.out.trans hb5
                          have hk5 : ∀ i, w5.cell? ⟨wo.heap.size, i, none⟩ = (wr.alloc (Obj.cells #[.int .i64 x0, .int .i64 x1] 80)).cell? ⟨wo.heap.size, i, none⟩ := fun i => grown_cell hgrow5 (by simp; omega) (fun g hg e => by
                            have := (HOWN.out.lt g hg).2
                            omega) i
                          have l2' := (hk5 2).trans (cell_later ((Below.refl _ wr).alloc (Nat.le_refl _) _) l2)
                          have l3' := (hk5 3).trans (cell_later ((Below.refl _ wr).alloc (Nat.le_refl _) _) l3)
                          obtain ⟨b0', b1', b2'⟩ := HX.out.later HB5.out
                          have HO5 : Hid (w5.ownsRow w0.heap.size 80 2 (.slice ao5 (q + 1) cap5) (q + 1) (cellsG spoE U ++ [.int .i64 x0, .int .i64 x1])) := hown5
                          have hsz5 : w0.heap.size ≤ w5.heap.size := HB5.out.size
                          clear hb5 hk5 hgrow5 hown5 b0 b1 b2 l0 l1 l2 l3
                          go_wp2_with (at_builtin; refine wpList_append_own _ rfl _ _ 109 rfl w0.heap.size 80 i0 (.agg #[.int .i64 0, .int .i64 0]) 2 16 Tryz.underlying109 hi hz0 hz1 hz2 spo_zero (by decide) _ _ _ rfl (HO5.out.alloc _) ⟨w5.heap.size, 0, none⟩ 1 1 [.int .i64 x2, .int .i64 x3] rfl rfl ?k1 ?k2 ?k3 ?k4 ?k5 ?_)
                          case k1 =>
                            intro j u hj
                            match j, hj with
                            | 0, hj => simp at hj; subst hj; simp [Addr.add]
                            | 1, hj => simp at hj; subst hj; simp [Addr.add]
                          case k2 => intro u hu; simp at hu; rcases hu with rfl | rfl <;> rfl
                          case k3 => unfold maxLen; omega
                          case k4 => omega
                          case k5 => simp; omega
                          intro v6 w6 hown6 hgrow6 _
                          obtain ⟨ao6, cap6, rfl⟩ := own_form hown6
                          have hb6 : Below w0.heap.size w5 w6 := ((Below.refl _ w5).alloc hsz5 _).grown hgrow6 (by simp; omega) (fun g hg => (HO5.out.lt g hg).1)
                          have HB6 : Hid (Below w0.heap.size w0 w6) := HB5.out.trans hb6
                          have HO6 : Hid (w6.ownsRow w0.heap.size 80 2 (.slice ao6 (q + 1 + 1) cap6) (spsL (Ls.take (k + 1))).length (cellsG spoE (spsL (Ls.take (k + 1))))) := by
                            show World.ownsRow _ _ _ _ _ _ _
                            rw [HUN.out]
                            exact own_two HMU.out hown6
                          have HL1 : Hid (lkN S Ls [] = lkN S (Ls.drop (k + 1)) (spsL (Ls.take (k + 1)))) := by
                            show _ = _
                            rw [HL0.out, HUN.out]
                          clear hb6 hgrow6 hown6 b0' b1' b2' l2' l3'
                          go_wp2
                          go_roundw
                          case rel => exact ⟨k + 1, HK1.out, by go_num, HO6.out, HL1.out, HB6.out⟩
                          case measure =>
                            have := HK1.out
                            simp [intOf]
                            omega
            · obtain rfl : k = n := by omega
              have hU2 : U = spsL Ls := by
                rw [HU.out, ← HLN.out, List.take_length]
              have HM2 : Hid (T = hoN S Hs [] (spsL Ls)) := by
                show _ = _
                have e : lkN S Ls [] = 0 := by
                  rw [HLK.out, ← HLN.out, List.drop_length]
                  rfl
                rw [HM.out, if_pos e]
              subst hU2
              clear HLK HU HLA HM
              go_wp2
              go_loopw [3, 9] (fun u i wz => ∃ j : Nat, j ≤ n2 ∧ i = .int .i64 j ∧ wz.ownsRow w0.heap.size 80 2 u (spsL Ls ++ (Hs.take j).map (·.2)).length (cellsG spoE (spsL Ls ++ (Hs.take j).map (·.2))) ∧ T = hoN S (Hs.drop j) ((Hs.take j).map (·.1)) (spsL Ls ++ (Hs.take j).map (·.2)) ∧ Below w0.heap.size w0 wz) (fun _ i _ => n2 - (intOf i).toNat)
              case atStart => exact ⟨0, by omega, rfl, by simpa [HMU.out] using HOWN.out, by simpa using HM2.out, HBr.out⟩
              case round =>
                clear HMU HOWN HM2 HBr HBw HXr b0 b1 b2 hlw hlen
                obtain ⟨j, hj, rfl, hown, hTj, hBz⟩ := hrel
                obtain ⟨ao3, cap3, rfl⟩ := own_form hown
                obtain ⟨wp, hwp⟩ : ∃ x, x = wr := ⟨_, rfl⟩
                subst hwp
                have hn8 : n2 ≤ 8 := H8.out
                obtain ⟨U, hU⟩ : ∃ U, U = spsL Ls ++ (Hs.take j).map (·.2) := ⟨_, rfl⟩
                obtain ⟨N, hN⟩ : ∃ N, N = (Hs.take j).map (·.1) := ⟨_, rfl⟩
                have HU : Hid (U = spsL Ls ++ (Hs.take j).map (·.2)) := hU
                have HN : Hid (N = (Hs.take j).map (·.1)) := hN
                rw [← hU] at hown
                rw [← hU, ← hN] at hTj
                rw [← hU]
                have hlen : U.length ≤ 410 := by
                  rw [hU, List.length_append, sps_len, List.length_map, List.length_take]
                  have := HLN.out
                  omega
                obtain ⟨m, hm⟩ : ∃ m, m = U.length := ⟨_, rfl⟩
                have HMU : Hid (U.length = m) := hm.symm
                rw [← hm] at hown hlen
                rw [← hm]
                have HOWN : Hid (wp.ownsRow w0.heap.size 80 2 (.slice ao3 m cap3) m (cellsG spoE U)) := hown
                have HTJ : Hid (T = hoN S (Hs.drop j) N U) := hTj
                have HBr : Hid (Below w0.heap.size w0 wp) := hBz
                have HBw : Hid (Below w.heap.size w wp) := HB.out.trans (hBz.mono HB.out.size)
                have HXr : Hid (TBox wp w.heap.size S (.slice ao k cap) (.slice ao2 n2 cap2)) := HX.out.later hBz
                obtain ⟨b0, b1, b2⟩ := HXr.out
                have hlw : w.heap.size < wp.heap.size := World.block_lt_of_cell? _ _ b0
                clear hown hTj hBz hU hN hm
                by_cases hlt : j < n2
                · have HK1 : Hid (j + 1 ≤ n2) := hlt
                  obtain ⟨g, o, hao, hc, _⟩ := HHA.out (by omega)
                  subst hao
                  obtain ⟨y0, y1, y2, hkl, hHk, q0, q1, q2⟩ := hst_at (hc.later HBw.out) HHN.out hlt
                  have HHC : Hid (GAt hstE wp g o Hs) := hc.later HBw.out
                  have HTN : Hid (T = if ho1 S N U (y0, (y1, y2)) = 0 then hoN S (Hs.drop (j + 1)) (N ++ [y0]) (U ++ [(y1, y2)]) else ho1 S N U (y0, (y1, y2))) := by
                    show _ = _
                    rw [HTJ.out, List.drop_eq_getElem_cons hkl, ho_step, hHk]
                  have HT7 : Hid (ho1 S N U (y0, (y1, y2)) ≠ 0 → T = ho1 S N U (y0, (y1, y2))) := fun h => by
                    have e := HTN.out
                    rw [if_neg h] at e
                    exact e
                  have HUN : Hid (spsL Ls ++ (Hs.take (j + 1)).map (·.2) = U ++ [(y1, y2)]) := by
                    show _ = _
                    rw [List.take_succ_eq_append_getElem hkl, List.map_append, hHk, HU.out, List.append_assoc]
                    rfl
                  have HNN : Hid ((Hs.take (j + 1)).map (·.1) = N ++ [y0]) := by
                    show _ = _
                    rw [List.take_succ_eq_append_getElem hkl, List.map_append, hHk, HN.out]
                    rfl
                  have HBA : Hid (Below wp.heap.size wp (wp.alloc (Obj.cells #[Value.string y0, Value.int IntKind.i64 y1, Value.int IntKind.i64 y2] 82))) := (Below.refl _ _).alloc (Nat.le_refl _) _
                  have HVA : Hid (VAt (wp.alloc (Obj.cells #[Value.string y0, Value.int IntKind.i64 y1, Value.int IntKind.i64 y2] 82)) wp.heap.size 0 (hstE.c (y0, (y1, y2)))) := hst_new wp y0 y1 y2 82
                  clear hHk hc
                  go_wp2_with fail
                  refine (rname_any y0 _).mono ?_
                  rintro e w2 ⟨rfl, hw2⟩
                  subst hw2
                  obtain ⟨w2, hw2⟩ : ∃ W, wp.alloc (Obj.cells #[Value.string y0, Value.int IntKind.i64 y1, Value.int IntKind.i64 y2] 82) = W := ⟨_, rfl⟩
                  rw [hw2] at HBA HVA ⊢
                  have HB2w : Hid (Below w.heap.size w w2) := HBw.out.trans (HBA.out.mono HBw.out.size)
                  obtain ⟨b0, b1, b2⟩ := HXr.out.later HBA.out
                  obtain ⟨l0, l1, l2⟩ := hst_cells HVA.out
                  simp only [Nat.zero_add] at l0 l1 l2
                  clear hw2 q0 q1 q2
                  cases hna : nmB y0
                  · have HT1 : Hid (T = 2) := by
                      have e : ho1 S N U (y0, (y1, y2)) = 2 := by simp [ho1, hna]
                      have := HT7.out (by rw [e]; decide)
                      rw [e] at this
                      exact this
                    go_wp2
                    go_ret
                    exact ⟨by rw [HT1.out]; rfl, HB2w.out⟩
                  · go_wp2_with fail
                    refine (rspot_any S ao k cap (some ⟨g, o, none⟩) n2 cap2 y1 y2 _).mono ?_
                    rintro e w3 ⟨rfl, hb3⟩
                    have hB3 : Below wp.heap.size wp w3 := HBA.out.trans (hb3.mono HBA.out.size)
                    have HB3 : Hid (Below wp.heap.size wp w3) := hB3
                    have HB3w : Hid (Below w.heap.size w w3) := HBw.out.trans (hB3.mono HBw.out.size)
                    have HV3 : Hid (VAt w3 wp.heap.size 0 (hstE.c (y0, (y1, y2)))) := HVA.out.later hb3
                    obtain ⟨b0, b1, b2⟩ := HXr.out.later hB3
                    obtain ⟨l0, l1, l2⟩ := hst_cells HV3.out
                    simp only [Nat.zero_add] at l0 l1 l2
                    clear hb3 hB3 HBA HVA HB2w
                    cases hsp : spB S (y1, y2)
                    · have HT1 : Hid (T = 1) := by
                        have e : ho1 S N U (y0, (y1, y2)) = 1 := by simp [ho1, hna, hsp]
                        have := HT7.out (by rw [e]; decide)
                        rw [e] at this
                        exact this
                      go_wp2
                      go_ret
                      exact ⟨by rw [HT1.out]; rfl, HB3w.out⟩
                    · have HL7 : Hid (ho1 S N U (y0, (y1, y2)) = if (N.any fun n => n == y0) || (U.any fun u => u == (y1, y2)) then 7 else 0) := by
                        show _ = _
                        simp only [ho1, hna, hsp, if_true]
                      have HNL : Hid (N.length = j) := by
                        show _ = _
                        rw [HN.out, List.length_map, List.length_take, HHN.out]
                        omega
                      have HNQ : Hid (∀ q (h1 : q < N.length) (h2 : q < Hs.length), N[q] = (Hs[q]).1) := fun q h1 h2 => by
                        have e := HN.out
                        subst e
                        simp
                      obtain ⟨_, _, _, e5, hUn, hUm, _, hUa⟩ := (own_GS (E := spoE) (L := U) (by rw [HMU.out]; exact HOWN.out) : GS spoE wp (.slice ao3 m cap3) U).form
                      cases e5
                      have HUA : Hid (0 < m → ∃ g o, ao3 = some ⟨g, o, none⟩ ∧ GAt spoE wp g o U ∧ cap3 ≤ maxLen) := hUa
                      clear hUn hUm hUa b0 b1 b2 l0 l1 l2
                      go_wp2
                      go_loopw [13] (fun i wz => ∃ q : Nat, q ≤ j ∧ i = .int .i64 q ∧ (N.take q).any (fun n => n == y0) = false ∧ Below w3.heap.size w3 wz) (fun i _ => j - (intOf i).toNat)
                      case atStart => exact ⟨0, by omega, rfl, by simp, Below.refl _ _⟩
                      case round =>
                        obtain ⟨q, hq, rfl, hno, hBz⟩ := hrel
                        obtain ⟨wn, hwn⟩ : ∃ x, x = wr := ⟨_, rfl⟩
                        subst hwn
                        have HNO : Hid ((N.take q).any (fun n => n == y0) = false) := hno
                        have HBz : Hid (Below wp.heap.size wp wn) := HB3.out.trans (hBz.mono HB3.out.size)
                        have HBc : Hid (Below w3.heap.size w3 wn) := hBz
                        have HBzw : Hid (Below w.heap.size w wn) := HBw.out.trans (HBz.out.mono HBw.out.size)
                        obtain ⟨b0, b1, b2⟩ := HXr.out.later HBz.out
                        have HVz : Hid (VAt wn wp.heap.size 0 (hstE.c (y0, (y1, y2)))) := HV3.out.later hBz
                        obtain ⟨l0, l1, l2⟩ := hst_cells HVz.out
                        simp only [Nat.zero_add] at l0 l1 l2
                        have hll : wp.heap.size < wn.heap.size := World.block_lt_of_cell? _ _ l0
                        have hlw : w.heap.size < wn.heap.size := World.block_lt_of_cell? _ _ b0
                        clear hno hBz
                        by_cases hqj : q < j
                        · obtain ⟨z0, z1, z2, hql, hHq, p0, p1, p2⟩ := hst_at (HHC.out.later HBz.out) HHN.out (show q < n2 by omega)
                          have hqN : q < N.length := by rw [HNL.out]; exact hqj
                          have hNq : N[q] = z0 := by rw [HNQ.out q hqN hql, hHq]
                          have qb0 : (0 : Int) ≤ (q : Int) := by omega
                          have qb1 : (q : Int) < (n2 : Int) := by omega
                          have hgl3 : g < wn.heap.size := World.block_lt_of_cell? _ _ p0
                          have HHIT : Hid ((z0 == y0) = true → T = 7) := fun hy => by
                            have e : ho1 S N U (y0, (y1, y2)) = 7 := by
                              rw [HL7.out, any_hitG hqN (by rw [hNq]; exact hy)]
                              rfl
                            have := HT7.out (by rw [e]; decide)
                            rw [e] at this
                            exact this
                          have HNXT : Hid ((z0 == y0) = false → (N.take (q + 1)).any (fun n => n == y0) = false) := fun hy => any_nextG hqN HNO.out (by rw [hNq]; exact hy)
                          have hbe := beq_toListBytes z0 y0
                          clear hHq hNq
                          cases hz : (z0 == y0)
                          · have HN1 : Hid ((N.take (q + 1)).any (fun n => n == y0) = false) := HNXT.out hz
                            rw [hbe] at hz
                            clear hbe
                            go_wp2_with fail
                            go_quiet (fail)
                            go_wp2
                            go_roundw
                            case rel => exact ⟨q + 1, by omega, by go_num, HN1.out, HBc.out.trans ((below_drewN _ _).mono HBc.out.size)⟩
                            case measure => simp [intOf]; omega
                          · have HT1 : Hid (T = 7) := HHIT.out hz
                            rw [hbe] at hz
                            clear hbe
                            go_wp2_with fail
                            go_quiet (fail)
                            go_wp2
                            go_ret
                            exact ⟨by rw [HT1.out]; rfl, HBzw.out.trans ((below_drewN _ _).mono HBzw.out.size)⟩
                        · obtain rfl : q = j := by omega
                          have HAN : Hid ((N.any fun n => n == y0) = false) := by
                            have := HNO.out
                            rw [← HNL.out] at this
                            exact any_take this
                          have HL8 : Hid (ho1 S N U (y0, (y1, y2)) = if (U.any fun u => u == (y1, y2)) then 7 else 0) := by
                            show _ = _
                            rw [HL7.out, HAN.out, Bool.false_or]
                          clear b0 b1 b2 l0 l1 l2
                          go_wp2
                          go_loopw [14] (fun i wz => ∃ q : Nat, q ≤ m ∧ i = .int .i64 q ∧ (U.take q).any (fun u => u == (y1, y2)) = false ∧ Below wn.heap.size wn wz) (fun i _ => m - (intOf i).toNat)
                          case atStart => exact ⟨0, by omega, rfl, by simp, Below.refl _ _⟩
                          case round =>
                            obtain ⟨r, hr, rfl, hno, hBy⟩ := hrel
                            have HNO2 : Hid ((U.take r).any (fun u => u == (y1, y2)) = false) := hno
                            have HBy : Hid (Below wp.heap.size wp wr) := HBz.out.trans (hBy.mono HBz.out.size)
                            have HBcy : Hid (Below wn.heap.size wn wr) := hBy
                            have HByw : Hid (Below w.heap.size w wr) := HBw.out.trans (HBy.out.mono HBw.out.size)
                            obtain ⟨b0, b1, b2⟩ := HXr.out.later HBy.out
                            have HVy : Hid (VAt wr wp.heap.size 0 (hstE.c (y0, (y1, y2)))) := HVz.out.later hBy
                            obtain ⟨l0, l1, l2⟩ := hst_cells HVy.out
                            simp only [Nat.zero_add] at l0 l1 l2
                            have hll : wp.heap.size < wr.heap.size := World.block_lt_of_cell? _ _ l0
                            clear hno hBy
                            by_cases hrm : r < m
                            · obtain ⟨g3, o3, hao3, hc3, _⟩ := HUA.out (by omega)
                              subst hao3
                              obtain ⟨v0, v1, hql, hUq, p0, p1⟩ := spo_at (hc3.later HBy.out) HMU.out hrm
                              have HUQ : Hid (U[r] = (v0, v1)) := hUq
                              have qb0 : (0 : Int) ≤ (r : Int) := by omega
                              have qb1 : (r : Int) < (m : Int) := by omega
                              have hgl3 : g3 < wr.heap.size := World.block_lt_of_cell? _ _ p0
                              have HHIT : Hid ((v0 == y1 && v1 == y2) = true → T = 7) := fun hy => by
                                have e : ho1 S N U (y0, (y1, y2)) = 7 := by
                                  rw [HL8.out, any_hitG hql (by rw [HUQ.out]; exact hy)]
                                  rfl
                                have := HT7.out (by rw [e]; decide)
                                rw [e] at this
                                exact this
                              have HNXT : Hid ((v0 == y1 && v1 == y2) = false → (U.take (r + 1)).any (fun u => u == (y1, y2)) = false) := fun hy => any_nextG hql HNO2.out (by rw [HUQ.out]; exact hy)
                              clear hc3 hUq
                              rcases eq2_ways v0 v1 y1 y2 with ⟨f0, f1, f2⟩ | ⟨f0, f1, f2⟩ | ⟨f0, f1⟩
                              · have HT1 : Hid (T = 7) := HHIT.out f0
                                go_wp2_with fail
                                go_quiet (fail)
                                go_wp2
                                go_ret
                                exact ⟨by rw [HT1.out]; rfl, HByw.out.trans ((below_drewN _ _).mono HByw.out.size)⟩
                              · have HN1 : Hid ((U.take (r + 1)).any (fun u => u == (y1, y2)) = false) := HNXT.out f0
                                go_wp2_with fail
                                go_quiet (fail)
                                go_wp2
                                go_roundw
                                case rel => exact ⟨r + 1, by omega, by go_num, HN1.out, HBcy.out.trans ((below_drewN _ _).mono HBcy.out.size)⟩
                                case measure => simp [intOf]; omega
                              · have HN1 : Hid ((U.take (r + 1)).any (fun u => u == (y1, y2)) = false) := HNXT.out f0
                                go_wp2_with fail
                                go_quiet (fail)
                                go_wp2
                                go_roundw
                                case rel => exact ⟨r + 1, by omega, by go_num, HN1.out, HBcy.out.trans ((below_drewN _ _).mono HBcy.out.size)⟩
                                case measure => simp [intOf]; omega
                            · obtain rfl : r = m := by omega
                              have HT0 : Hid (T = hoN S (Hs.drop (q + 1)) ((Hs.take (q + 1)).map (·.1)) (spsL Ls ++ (Hs.take (q + 1)).map (·.2))) := by
                                show _ = _
                                have e : ho1 S N U (y0, (y1, y2)) = 0 := by
                                  have h2 := HNO2.out
                                  rw [← HMU.out] at h2
                                  rw [HL8.out, any_take h2]
                                  rfl
                                rw [HTN.out, if_pos e, HUN.out, HNN.out]
                              have HOZ : Hid (wr.ownsRow w0.heap.size 80 2 (.slice ao3 r cap3) r (cellsG spoE U)) := own_below HOWN.out HBy.out
                              have HBz0 : Hid (Below w0.heap.size w0 wr) := HBr.out.trans (HBy.out.mono HBr.out.size)
                              have hsz0 : w0.heap.size ≤ wr.heap.size := HBz0.out.size
                              go_wp2_with (at_builtin; refine wpList_append_own _ rfl _ _ 109 rfl w0.heap.size 80 i0 (.agg #[.int .i64 0, .int .i64 0]) 2 16 Tryz.underlying109 hi hz0 hz1 hz2 spo_zero (by decide) _ _ _ rfl (HOZ.out.alloc _) ⟨wr.heap.size, 0, none⟩ 1 1 [.int .i64 y1, .int .i64 y2] rfl rfl ?n1 ?n2 ?n3 ?n4 ?n5 ?_)
                              case n1 =>
                                intro j u hj
                                match j, hj with
                                | 0, hj => simp at hj; subst hj; simp [Addr.add]
                                | 1, hj => simp at hj; subst hj; simp [Addr.add]
                              case n2 => intro u hu; simp at hu; rcases hu with rfl | rfl <;> rfl
                              case n3 => unfold maxLen; omega
                              case n4 => omega
                              case n5 => simp; omega
                              intro v5 w5 hown5 hgrow5 _
                              obtain ⟨ao5, cap5, rfl⟩ := own_form hown5
                              have hb5 : Below w0.heap.size wr w5 := ((Below.refl _ wr).alloc hsz0 _).grown hgrow5 (by simp; omega) (fun g hg => (HOZ.out.lt g hg).1)
                              have HB5 : Hid (Below w0.heap.size w0 w5) := HBz0.out.trans hb5
                              have HO5 : Hid (w5.ownsRow w0.heap.size 80 2 (.slice ao5 (r + 1) cap5) (spsL Ls ++ (Hs.take (q + 1)).map (·.2)).length (cellsG spoE (spsL Ls ++ (Hs.take (q + 1)).map (·.2)))) := by
                                show World.ownsRow _ _ _ _ _ _ _
                                rw [HUN.out]
                                exact own_one1 HMU.out hown5
                              clear hb5 hgrow5 hown5 b0 b1 b2 l0 l1 l2
                              go_wp2
                              go_roundw
                              case rel => exact ⟨q + 1, HK1.out, by go_num, HO5.out, HT0.out, HB5.out⟩
                              case measure =>
                                have := HK1.out
                                simp [intOf]
                                omega
                · obtain rfl : j = n2 := by omega
                  have HT0 : Hid (T = 0) := by
                    show _ = _
                    rw [HTJ.out, ← HHN.out, List.drop_length]
                    rfl
                  go_wp2
                  go_ret
                  exact ⟨by rw [HT0.out]; rfl, HBw.out⟩
        · have s1 : decide (S < 1) = false := by simp; omega
          have s2 : decide (6 < S) = false := by simp; omega
          have s3 : decide (200 < (n : Int)) = false := by simp; omega
          have s4 : decide (8 < (n2 : Int)) = true := by simp; omega
          have HTE : Hid (T = 4) := by
            show _ = _
            have e1 : (decide (1 ≤ S) && decide (S ≤ 6)) = true := by simp [h1, h6]
            have e2 : (decide (Ls.length ≤ 200) && decide (Hs.length ≤ 8)) = false := by simp [hLn, hHn, h2]; omega
            rw [hT, tpN, if_pos e1, e2]
            rfl
          clear hX hB HT hT hL hH hLn hHn hLm hHm hLa hHa h1 h6 h2 h8
          go_enter Tryz.func19, Tryz.ntmps19
          go_wp2
          go_ret
          exact ⟨by rw [HTE.out]; rfl, HB0'.out⟩
      · have s1 : decide (S < 1) = false := by simp; omega
        have s2 : decide (6 < S) = false := by simp; omega
        have s3 : decide (200 < (n : Int)) = true := by simp; omega
        have HTE : Hid (T = 4) := by
          show _ = _
          have e1 : (decide (1 ≤ S) && decide (S ≤ 6)) = true := by simp [h1, h6]
          have e2 : (decide (Ls.length ≤ 200) && decide (Hs.length ≤ 8)) = false := by simp [hLn]; omega
          rw [hT, tpN, if_pos e1, e2]
          rfl
        clear hX hB HT hT hL hH hLn hHn hLm hHm hLa hHa h1 h6 h2
        go_enter Tryz.func19, Tryz.ntmps19
        go_wp2
        go_ret
        exact ⟨by rw [HTE.out]; rfl, HB0'.out⟩
    · have s1 : decide (S < 1) = false := by simp; omega
      have s2 : decide (6 < S) = true := by simp; omega
      have HTE : Hid (T = 1) := by
        show _ = _
        have e1 : (decide (1 ≤ S) && decide (S ≤ 6)) = false := by simp; omega
        rw [hT, tpN, e1]
        rfl
      clear hX hB HT hT hL hH hLn hHn hLm hHm hLa hHa h1 h6
      go_enter Tryz.func19, Tryz.ntmps19
      go_wp2
      go_ret
      exact ⟨by rw [HTE.out]; rfl, HB0'.out⟩
  · have s1 : decide (S < 1) = true := by simp; omega
    have HTE : Hid (T = 1) := by
      show _ = _
      have e1 : (decide (1 ≤ S) && decide (S ≤ 6)) = false := by simp; omega
      rw [hT, tpN, e1]
      rfl
    clear hX hB HT hT hL hH hLn hHn hLm hHm hLa hHa h1
    go_enter Tryz.func19, Tryz.ntmps19
    go_wp2
    go_ret
    exact ⟨by rw [HTE.out]; rfl, HB0'.out⟩
end Go.Proofs.YtpmcjelihdlfeaaGreatDoor
/- What topo.Where answers: a contract for the walks above it. -/
namespace Go.Proofs.YtpmcjelihdlfeaaGreatDoor
open Go.RowKit
set_option linter.unusedSimpArgs false
set_option linter.unusedVariables false

/-- The three boxes of a call: a topology, a name, a spot. -/
def wbox (w : World) (S : Int) (v1 v2 : Value) (m : ByteArray) : World := ((w.alloc (Obj.cells #[.int .i64 S, v1, v2] 25)).alloc (Obj.cells #[.string m] 9)).alloc (Obj.cells #[.int .i64 0, .int .i64 0] 80)
structure WBox (w W : World) (S : Int) (v1 v2 : Value) (m : ByteArray) : Prop where
  below : Below w.heap.size w W
  t : TBox W w.heap.size S v1 v2
  s : W.cell? ⟨w.heap.size + 1, 0, none⟩ = some (.string m)
  r0 : W.cell? ⟨w.heap.size + 1 + 1, 0, none⟩ = some (.int .i64 0)
  r1 : W.cell? ⟨w.heap.size + 1 + 1, 1, none⟩ = some (.int .i64 0)
  f : ∀ i, W.frozen? ⟨w.heap.size + 1 + 1, i, none⟩ = false
theorem froz_new (w : World) (cs : Array Value) (t : TypeId) (k : Nat) : (w.alloc (.cells cs t)).frozen? ⟨w.heap.size, k, none⟩ = false := by simp
theorem wbox_new (w : World) (S : Int) (v1 v2 : Value) (m : ByteArray) : WBox w (wbox w S v1 v2 m) S v1 v2 m := by
  have e1 : (w.alloc (Obj.cells #[.int .i64 S, v1, v2] 25)).heap.size = w.heap.size + 1 := by simp
  have e2 : ((w.alloc (Obj.cells #[.int .i64 S, v1, v2] 25)).alloc (Obj.cells #[.string m] 9)).heap.size = w.heap.size + 1 + 1 := by simp
  have hb : ∀ (W : World) (o : Obj), Below W.heap.size W (W.alloc o) := fun W o => (Below.refl _ _).alloc (Nat.le_refl _) _
  have hs := (vat_new (w.alloc (Obj.cells #[.int .i64 S, v1, v2] 25)) [.string m] 9).later (hb _ (Obj.cells #[.int .i64 0, .int .i64 0] 80))
  rw [e1] at hs
  have hr := vat_new ((w.alloc (Obj.cells #[.int .i64 S, v1, v2] 25)).alloc (Obj.cells #[.string m] 9)) [.int .i64 0, .int .i64 0] 80
  rw [e2] at hr
  have hf := froz_new ((w.alloc (Obj.cells #[.int .i64 S, v1, v2] 25)).alloc (Obj.cells #[.string m] 9)) #[.int .i64 0, .int .i64 0] 80
  rw [e2] at hf
  exact ⟨(((Below.refl _ _).alloc (Nat.le_refl _) _).alloc (by rw [e1]; omega) _).alloc (by rw [e2]; omega) _, ((tbox_new w S v1 v2 25).later (hb _ _)).later (hb _ _), hs 0 _ rfl, hr 0 _ rfl, hr 1 _ rfl, hf⟩
theorem WBox.later {w W W' : World} {S : Int} {v1 v2 : Value} {m : ByteArray} (h : WBox w W S v1 v2 m) (hb : Below W.heap.size W W') : WBox w W' S v1 v2 m :=
  ⟨h.below.trans (hb.mono h.below.size), h.t.later hb, cell_later hb h.s, cell_later hb h.r0, cell_later hb h.r1, fun i => (hb.frozen (p := ⟨w.heap.size + 1 + 1, i, none⟩) (show (⟨w.heap.size + 1 + 1, 0, none⟩ : Addr).block < W.heap.size from World.block_lt_of_cell? W ⟨w.heap.size + 1 + 1, 0, none⟩ h.r0)).trans (h.f i)⟩
theorem below_two {w W : World} (h : Below w.heap.size w W) (g : Nat) (hg : w.heap.size ≤ g) (u v : Value) : Below w.heap.size w ((W.setCell ⟨g, 0, none⟩ u).setCell ⟨g, 1, none⟩ v) := (h.setCell (p := ⟨g, 0, none⟩) hg u).setCell (p := ⟨g, 1, none⟩) hg v
end Go.Proofs.YtpmcjelihdlfeaaGreatDoor
/- What railref1.Named answers: a contract for the walks above it. -/
namespace Go.Proofs.YtpmcjelihdlfeaaGreatDoor
open Go.RowKit
set_option linter.unusedSimpArgs false
set_option linter.unusedVariables false

set_option maxHeartbeats 2000000 in
set_option maxRecDepth 100000 in
theorem rnamed_any (S : Int) (ao : Option Addr) (n cap : Nat) (ao2 : Option Addr) (n2 cap2 : Nat) (Hs : List (ByteArray × (Int × Int))) (m : ByteArray) (w : World) (hH : GS hstE w (.slice ao2 n2 cap2) Hs) :
    Calls Tryz.prog 20 #[.agg #[.int .i64 S, .slice ao n cap, .slice ao2 n2 cap2], .string m] w fun e w' => e = .returned (.int .i64 (whN Hs m)) ∧ Below w.heap.size w w' := by
  obtain ⟨_, _, _, e1, hHn, hHm, _, hHa⟩ := hH.form
  cases e1
  have HHN : Hid (Hs.length = n2) := hHn
  have n63 : n2 ≤ 9223372036854775807 := by unfold maxLen at hHm; omega
  have HHA : Hid (0 < n2 → ∃ g o, ao2 = some ⟨g, o, none⟩ ∧ GAt hstE w g o Hs ∧ cap2 ≤ maxLen) := hHa
  have hX := tbox_new w S (.slice ao n cap) (.slice ao2 n2 cap2) 25
  have hB : Below w.heap.size w (w.alloc (Obj.cells #[.int .i64 S, .slice ao n cap, .slice ao2 n2 cap2] 25)) := (Below.refl _ _).alloc (Nat.le_refl _) _
  obtain ⟨w0, hw0⟩ : ∃ W, w.alloc (Obj.cells #[.int .i64 S, .slice ao n cap, .slice ao2 n2 cap2] 25) = W := ⟨_, rfl⟩
  rw [hw0] at hX hB
  have HX : Hid (TBox w0 w.heap.size S (.slice ao n cap) (.slice ao2 n2 cap2)) := hX
  have HB : Hid (Below w.heap.size w w0) := hB
  have HW0 : Hid (w.alloc (Obj.cells #[.int .i64 S, .slice ao n cap, .slice ao2 n2 cap2] 25) = w0) := hw0
  clear hH hHn hHm hHa hX hw0 hB
  go_enter Tryz.func20, Tryz.ntmps20
  go_wp2
  rw [HW0.out]
  go_loopw [5] (fun i wr => ∃ k : Nat, k ≤ n2 ∧ i = .int .i64 k ∧ (Hs.take k).any (fun h => h.1 == m) = false ∧ wr = w0) (fun i _ => n2 - (intOf i).toNat)
  case atStart => exact ⟨0, by omega, rfl, by simp, rfl⟩
  case round =>
    obtain ⟨k, hk, rfl, hno, rfl⟩ := hrel
    have HNO : Hid ((Hs.take k).any (fun h => h.1 == m) = false) := hno
    obtain ⟨b0, b1, b2⟩ := HX.out
    clear hno HW0
    by_cases hlt : k < n2
    · obtain ⟨g, o, hao, hc, _⟩ := HHA.out (by omega)
      subst hao
      obtain ⟨y0, y1, y2, hkl, hHk, q0, q1, q2⟩ := hst_at (hc.later HB.out) HHN.out hlt
      have HHK : Hid (Hs[k] = (y0, (y1, y2))) := hHk
      have hr : (y0 == m) = (y0.toList == m.toList) := beq_toListBytes _ _
      clear hHk hc
      cases ho : (y0 == m)
      · have HN1 : Hid ((Hs.take (k + 1)).any (fun h => h.1 == m) = false) := any_nextG hkl HNO.out (by rw [HHK.out]; exact ho)
        rw [hr] at ho
        clear hr
        go_wp2
        go_roundw
        case rel => exact ⟨k + 1, by omega, by go_num, HN1.out, by first | rfl | trivial⟩
        case measure => simp [intOf]; omega
      · have HR : Hid (whN Hs m = k) := ixG_hit hkl HNO.out (by rw [HHK.out]; exact ho)
        rw [hr] at ho
        clear hr
        go_wp2
        go_ret
        exact ⟨by rw [HR.out]; rfl, HB.out⟩
    · obtain rfl : k = n2 := by omega
      have HR : Hid (whN Hs m = -1) := by
        have := HNO.out
        rw [← HHN.out, List.take_length] at this
        exact ixG_no this
      go_wp2
      go_ret
      exact ⟨by rw [HR.out]; rfl, HB.out⟩
end Go.Proofs.YtpmcjelihdlfeaaGreatDoor
/- What strconv.Itoa answers at the numbers from 0 to 99, and where stringslite finds a blank. -/
namespace Go.Proofs.YtpmcjelihdlfeaaGreatDoor
open Go.RowKit
set_option linter.unusedSimpArgs false

theorem ret_str {a b : ByteArray} (h : a = b) : Ending.returned (.string a) = .returned (.string b) := by rw [h]

theorem small1 : ∀ k : Fin 10, (⟨#[48, 49, 50, 51, 52, 53, 54, 55, 56, 57, 97, 98, 99, 100, 101, 102, 103, 104, 105, 106, 107, 108, 109, 110, 111, 112, 113, 114, 115, 116, 117, 118, 119, 120, 121, 122]⟩ : ByteArray).extract ((k : Nat) : Int).toNat (((k : Nat) : Int) + 1).toNat = dgS ((k : Nat) : Int) := by
  decide +kernel
set_option maxRecDepth 100000 in
theorem small2 : ∀ k : Fin 100, 10 ≤ k.val → (⟨#[48, 48, 48, 49, 48, 50, 48, 51, 48, 52, 48, 53, 48, 54, 48, 55, 48, 56, 48, 57, 49, 48, 49, 49, 49, 50, 49, 51, 49, 52, 49, 53, 49, 54, 49, 55, 49, 56, 49, 57, 50, 48, 50, 49, 50, 50, 50, 51, 50, 52, 50, 53, 50, 54, 50, 55, 50, 56, 50, 57, 51, 48, 51, 49, 51, 50, 51, 51, 51, 52, 51, 53, 51, 54, 51, 55, 51, 56, 51, 57, 52, 48, 52, 49, 52, 50, 52, 51, 52, 52, 52, 53, 52, 54, 52, 55, 52, 56, 52, 57, 53, 48, 53, 49, 53, 50, 53, 51, 53, 52, 53, 53, 53, 54, 53, 55, 53, 56, 53, 57, 54, 48, 54, 49, 54, 50, 54, 51, 54, 52, 54, 53, 54, 54, 54, 55, 54, 56, 54, 57, 55, 48, 55, 49, 55, 50, 55, 51, 55, 52, 55, 53, 55, 54, 55, 55, 55, 56, 55, 57, 56, 48, 56, 49, 56, 50, 56, 51, 56, 52, 56, 53, 56, 54, 56, 55, 56, 56, 56, 57, 57, 48, 57, 49, 57, 50, 57, 51, 57, 52, 57, 53, 57, 54, 57, 55, 57, 56, 57, 57]⟩ : ByteArray).extract (((k : Nat) : Int) * 2).toNat (((k : Nat) : Int) * 2 + 2).toNat = dgS ((k : Nat) : Int) := by
  decide +kernel

set_option maxRecDepth 100000 in
set_option maxHeartbeats 1000000 in
theorem small_any (p : Int) (w : World) (h0 : 0 ≤ p) (h1 : p < 100) :
    Calls Tryz.prog 105 #[.int .i64 p] w fun e w' => e = .returned (.string (dgS p)) ∧ w' = w := by
  by_cases h : p < 10
  · have e1 : decide (p < 10) = true := by simpa using h
    go_enter Tryz.func105, Tryz.ntmps105
    go_wp2
    go_ret
    refine ⟨ret_str ?_, rfl⟩
    obtain ⟨k, rfl⟩ : ∃ k : Fin 10, p = ((k : Nat) : Int) := ⟨⟨p.toNat, by omega⟩, by simp; omega⟩
    exact small1 k
  · have e1 : decide (p < 10) = false := by simpa using h
    go_enter Tryz.func105, Tryz.ntmps105
    go_wp2
    go_ret
    refine ⟨ret_str ?_, rfl⟩
    obtain ⟨k, rfl⟩ : ∃ k : Fin 100, p = ((k : Nat) : Int) := ⟨⟨p.toNat, by omega⟩, by simp; omega⟩
    exact small2 k (by omega)

set_option maxHeartbeats 1000000 in
theorem format_any (p : Int) (w : World) (h0 : 0 ≤ p) (h1 : p < 100) :
    Calls Tryz.prog 76 #[.int .i64 p, .int .i64 10] w fun e w' => e = .returned (.string (dgS p)) ∧ w' = w := by
  have e0 : decide (0 ≤ p) = true := by simpa using h0
  have e1 : decide (p < 100) = true := by simpa using h1
  go_enter Tryz.func76, Tryz.ntmps76
  go_wp2_with fail
  refine (small_any _ _ h0 h1).mono ?_
  rintro e w' ⟨rfl, rfl⟩
  go_wp2
  go_ret
  exact ⟨rfl, rfl⟩

set_option maxHeartbeats 1000000 in
theorem itoa1_any (p : Int) (w : World) (h0 : 0 ≤ p) (h1 : p < 100) :
    Calls Tryz.prog 50 #[.int .i64 p] w fun e w' => e = .returned (.string (dgS p)) ∧ w' = w := by
  go_enter Tryz.func50, Tryz.ntmps50
  go_wp2_with fail
  refine (format_any _ _ h0 h1).mono ?_
  rintro e w' ⟨rfl, rfl⟩
  go_wp2
  go_ret
  exact ⟨rfl, rfl⟩

set_option maxHeartbeats 1000000 in
theorem itoa_any (p : Int) (w : World) (h0 : 0 ≤ p) (h1 : p < 100) :
    Calls Tryz.prog 24 #[.int .i64 p] w fun e w' => e = .returned (.string (dgS p)) ∧ w' = w := by
  go_enter Tryz.func24, Tryz.ntmps24
  go_wp2_with fail
  refine (itoa1_any _ _ h0 h1).mono ?_
  rintro e w' ⟨rfl, rfl⟩
  go_wp2
  go_ret
  exact ⟨rfl, rfl⟩

set_option maxHeartbeats 1000000 in
set_option maxRecDepth 100000 in
theorem indexByte_any (s : ByteArray) (w : World) :
    Calls Tryz.prog 130 #[.string s, .int .u8 32] w fun e w' => e = .returned (.int .i64 (blAt s)) ∧ w' = w := by
  go_enter Tryz.func130, Tryz.ntmps130
  go_wp2
  rw [run_callFunc_extern Tryz.func140 (by kernel_rfl) (by kernel_rfl) (by kernel_rfl) (e := Extern.BytealgIndexByte.indexByte) (by kernel_rfl), Lib.run_indexByteString]
  simp only [Result.andThen]
  rw [Oper.upon_value]
  go_wp2
  go_ret
  exact ⟨rfl, rfl⟩

set_option maxHeartbeats 1000000 in
set_option maxRecDepth 100000 in
theorem index1_any (s : ByteArray) (w : World) :
    Calls Tryz.prog 112 #[.string s, .string ⟨#[32]⟩] w fun e w' => e = .returned (.int .i64 (blAt s)) ∧ w' = w := by
  cases hs : ([32] == s.toList)
  · go_enter Tryz.func112, Tryz.ntmps112
    go_wp2_with fail
    refine (indexByte_any _ _).mono ?_
    rintro e w' ⟨rfl, rfl⟩
    go_wp2
    go_ret
    exact ⟨rfl, rfl⟩
  · have hb : blAt s = 0 := by
      have e : s.data.toList = [32] := by
        rw [← Lib.toList_data]
        exact (beq_iff_eq.1 hs).symm
      rw [blAt, e]
      decide
    rw [hb]
    clear hb
    go_enter Tryz.func112, Tryz.ntmps112
    go_wp2
    go_ret
    exact ⟨rfl, rfl⟩

set_option maxHeartbeats 1000000 in
theorem index_any (s : ByteArray) (w : World) :
    Calls Tryz.prog 79 #[.string s, .string ⟨#[32]⟩] w fun e w' => e = .returned (.int .i64 (blAt s)) ∧ w' = w := by
  go_enter Tryz.func79, Tryz.ntmps79
  go_wp2_with fail
  refine (index1_any _ _).mono ?_
  rintro e w' ⟨rfl, rfl⟩
  go_wp2
  go_ret
  exact ⟨rfl, rfl⟩
end Go.Proofs.YtpmcjelihdlfeaaGreatDoor
/- What railref1.Digits answers: a number below 100 in digits. -/
namespace Go.Proofs.YtpmcjelihdlfeaaGreatDoor
open Go.RowKit
set_option linter.unusedSimpArgs false
set_option linter.unusedVariables false

theorem dig1 : ∀ k : Fin 10, (⟨#[48, 49, 50, 51, 52, 53, 54, 55, 56, 57]⟩ : ByteArray).extract ((k : Nat) : Int).toNat (((k : Nat) : Int) + 1).toNat = dgS ((k : Nat) : Int) := by
  decide +kernel
set_option maxRecDepth 100000 in
set_option maxHeartbeats 1000000 in
theorem digits_lo (p : Int) (w : World) (h0 : 0 ≤ p) (h1 : p < 10) :
    Calls Tryz.prog 22 #[.int .i64 p] w fun e w' => e = .returned (.string (dgS p)) ∧ w' = w := by
  have e1 : decide (p < 10) = true := by simpa using h1
  go_enter Tryz.func22, Tryz.ntmps22
  go_wp2
  go_ret
  refine ⟨ret_str ?_, rfl⟩
  obtain ⟨k, rfl⟩ : ∃ k : Fin 10, p = ((k : Nat) : Int) := ⟨⟨p.toNat, by omega⟩, by simp; omega⟩
  exact dig1 k
end Go.Proofs.YtpmcjelihdlfeaaGreatDoor
/- What checkText and Print of package wish answer: contracts for the walks above them. -/
namespace Go.Proofs.YtpmcjelihdlfeaaGreatDoor
open Go.RowKit
set_option linter.unusedSimpArgs false
set_option linter.unusedVariables false

/-- The words of package wish lie in their variable. -/
def HasWords (w : World) : Prop := w.cell? ⟨0, 0, none⟩ = some (.string ⟨#[]⟩) ∧ w.cell? ⟨0, 1, none⟩ = some (.string reaS) ∧ w.cell? ⟨0, 2, none⟩ = some (.string apaS) ∧ w.cell? ⟨0, 3, none⟩ = some (.string wayS) ∧ w.cell? ⟨0, 4, none⟩ = some (.string looS)
theorem HasWords.later {w w' : World} (h : HasWords w) (hb : Below w.heap.size w w') : HasWords w' :=
  ⟨cell_later hb h.1, cell_later hb h.2.1, cell_later hb h.2.2.1, cell_later hb h.2.2.2.1, cell_later hb h.2.2.2.2⟩
theorem HasWords.lt {w : World} (h : HasWords w) : 0 < w.heap.size := World.block_lt_of_cell? _ _ h.1

set_option maxHeartbeats 4000000 in
set_option maxRecDepth 100000 in
theorem checkText_any (k : Int) (f t : ByteArray) (v : Int) (w : World) :
    Calls Tryz.prog 23 #[.agg #[.int .i64 k, .string f, .string t, .int .i64 v]] w fun e w' => e = .returned (noV (shN ⟨k, f, t, v⟩)) ∧ Below w.heap.size w w' := by
  have hb0 : Below w.heap.size w (w.alloc (Obj.cells #[.int .i64 k, .string f, .string t, .int .i64 v] 31)) := (Below.refl _ _).alloc (Nat.le_refl _) _
  have hx0 := wibox_new w k f t v 31
  obtain ⟨w0, hw0⟩ : ∃ W, w.alloc (Obj.cells #[.int .i64 k, .string f, .string t, .int .i64 v] 31) = W := ⟨_, rfl⟩
  rw [hw0] at hb0 hx0
  have HW0 : Hid (w.alloc (Obj.cells #[.int .i64 k, .string f, .string t, .int .i64 v] 31) = w0) := hw0
  have HB0 : Hid (Below w.heap.size w w0) := hb0
  have HX0 : Hid (WiBox w0 w.heap.size k f t v) := hx0
  obtain ⟨R, hR⟩ : ∃ R, R = shN ⟨k, f, t, v⟩ := ⟨_, rfl⟩
  obtain ⟨Q1, hQ1⟩ : ∃ q, q = (!wkB k || !viB ⟨k, f, t, v⟩ 6) := ⟨_, rfl⟩
  obtain ⟨Q2, hQ2⟩ : ∃ q, q = ((k != 4) && !(nmB f && nmB t)) := ⟨_, rfl⟩
  obtain ⟨Q3, hQ3⟩ : ∃ q, q = (veB ⟨k, f, t, v⟩ || ((k == 4) && !nlB ⟨k, f, t, v⟩)) := ⟨_, rfl⟩
  have HR : Hid (R = if Q1 then 1 else if Q2 then 2 else if Q3 then 3 else 0) := by
    show _ = _
    rw [hR, hQ1, hQ2, hQ3]
    rfl
  have HQ1 : Hid ((!wkB k || !viB ⟨k, f, t, v⟩ 6) = Q1) := hQ1.symm
  have HQ2 : Hid (((k != 4) && !(nmB f && nmB t)) = Q2) := hQ2.symm
  have HQ3 : Hid ((veB ⟨k, f, t, v⟩ || ((k == 4) && !nlB ⟨k, f, t, v⟩)) = Q3) := hQ3.symm
  rw [← hR]
  clear hb0 hx0 hw0 hR hQ1 hQ2 hQ3
  go_enter Tryz.func23, Tryz.ntmps23
  go_upto_region 1 with fail
  rw [HW0.out]
  obtain ⟨x0, x1, x2, x3⟩ := HX0.out
  clear HW0
  go_cut [11] from 3 to 12 (fun c w' => c = .bool Q1 ∧ Below w0.heap.size w0 w')
  case first =>
    go_wp2_with fail
    refine (isWhat_any k _).mono ?_
    rintro e w1 ⟨rfl, hb1⟩
    obtain ⟨WK, hWK⟩ : ∃ q, q = wkB k := ⟨_, rfl⟩
    have HQ : Hid ((!WK || !viB ⟨k, f, t, v⟩ 6) = Q1) := by
      show _ = _
      rw [hWK]
      exact HQ1.out
    rw [← hWK]
    have HB1 : Hid (Below w0.heap.size w0 w1) := hb1
    have HX1 : Hid (WiBox w1 w.heap.size k f t v) := HX0.out.later hb1
    clear hWK hb1 x0 x1 x2 x3
    obtain ⟨x0, x1, x2, x3⟩ := HX1.out
    cases WK with
    | false =>
      have hq : true = Q1 := HQ.out
      subst hq
      go_wp2_with fail
      go_meet
      exact ⟨rfl, HB1.out⟩
    | true =>
      have hq : (!viB ⟨k, f, t, v⟩ 6) = Q1 := HQ.out
      have HQ' : Hid ((!viB ⟨k, f, t, v⟩ 6) = Q1) := hq
      clear hq
      go_wp2_with fail
      refine (isVia_any k f t v 6 _).mono ?_
      rintro e w2 ⟨rfl, hb2⟩
      have HB2 : Hid (Below w0.heap.size w0 w2) := HB1.out.trans (hb2.mono HB1.out.size)
      obtain ⟨VI, hVI⟩ : ∃ q, q = viB ⟨k, f, t, v⟩ 6 := ⟨_, rfl⟩
      rw [← hVI]
      have hq : (!VI) = Q1 := by rw [hVI]; exact HQ'.out
      subst hq
      clear hb2 hVI
      go_wp2_with fail
      go_meet
      exact ⟨rfl, HB2.out⟩
  case rest =>
  obtain ⟨rfl, hbc⟩ := hcut
  have HBc : Hid (Below w.heap.size w wc) := HB0.out.trans (hbc.mono HB0.out.size)
  have HXc : Hid (WiBox wc w.heap.size k f t v) := HX0.out.later hbc
  clear hbc HX0 HB0 x0 x1 x2 x3
  obtain ⟨x0, x1, x2, x3⟩ := HXc.out
  cases Q1 with
  | true =>
    have HR1 : Hid (R = 1) := by
      show _ = _
      rw [HR.out, if_pos rfl]
    go_wp2
    go_ret
    exact ⟨by rw [HR1.out]; rfl, HBc.out⟩
  | false =>
    have HR1 : Hid (R = if Q2 then 2 else if Q3 then 3 else 0) := by
      show _ = _
      rw [HR.out, if_neg (by decide)]
    clear HR HQ1
    go_upto_region 3 with fail
    go_cut [26] from 13 to 27 (fun c w' => c = .bool Q2 ∧ Below wc.heap.size wc w')
    case first =>
      by_cases k4 : k = 4
      · subst k4
        have hq : false = Q2 := HQ2.out
        subst hq
        go_wp2_with fail
        go_meet
        exact ⟨rfl, Below.refl _ _⟩
      · have HQ : Hid ((!(nmB f && nmB t)) = Q2) := by
          show _ = _
          rw [← HQ2.out]
          simp [k4]
        have hkk : (k != 4) = true := by simp [k4]
        go_wp2_with fail
        refine (name_any f _).mono ?_
        rintro e w1 ⟨rfl, hb1⟩
        obtain ⟨NF, hNF⟩ : ∃ q, q = nmB f := ⟨_, rfl⟩
        have HQ' : Hid ((!(NF && nmB t)) = Q2) := by
          show _ = _
          rw [hNF]
          exact HQ.out
        rw [← hNF]
        have HB1 : Hid (Below wc.heap.size wc w1) := hb1
        have HX1 : Hid (WiBox w1 w.heap.size k f t v) := HXc.out.later hb1
        clear hNF hb1 HQ x0 x1 x2 x3
        obtain ⟨x0, x1, x2, x3⟩ := HX1.out
        cases NF with
        | false =>
          have hq : true = Q2 := HQ'.out
          subst hq
          go_wp2_with fail
          go_meet
          exact ⟨by simp [hkk], HB1.out⟩
        | true =>
          go_wp2_with fail
          refine (name_any t _).mono ?_
          rintro e w2 ⟨rfl, hb2⟩
          have HB2 : Hid (Below wc.heap.size wc w2) := HB1.out.trans (hb2.mono HB1.out.size)
          obtain ⟨NT, hNT⟩ : ∃ q, q = nmB t := ⟨_, rfl⟩
          rw [← hNT]
          have hq : (!NT) = Q2 := by rw [hNT]; exact HQ'.out
          subst hq
          clear hb2 hNT
          go_wp2_with fail
          go_meet
          exact ⟨by simp [hkk], HB2.out⟩
    case rest =>
    obtain ⟨rfl, hbc2⟩ := hcut
    have HBd : Hid (Below w.heap.size w wc) := HBc.out.trans (hbc2.mono HBc.out.size)
    have HXd : Hid (WiBox wc w.heap.size k f t v) := HXc.out.later hbc2
    clear hbc2 HXc HBc x0 x1 x2 x3
    obtain ⟨x0, x1, x2, x3⟩ := HXd.out
    cases Q2 with
    | true =>
      have HR2 : Hid (R = 2) := by
        show _ = _
        rw [HR1.out, if_pos rfl]
      go_wp2
      go_ret
      exact ⟨by rw [HR2.out]; rfl, HBd.out⟩
    | false =>
      have HR2 : Hid (R = if Q3 then 3 else 0) := by
        show _ = _
        rw [HR1.out, if_neg (by decide)]
      clear HR1 HQ2
      go_upto_region 5 with fail
      go_cut [45] from 28 to 46 (fun c w' => c = .bool Q3 ∧ Below wc.heap.size wc w')
      case first =>
        by_cases k4 : k = 4
        · subst k4
          by_cases v0 : v = 0
          · subst v0
            have HQ : Hid ((!nlB ⟨4, f, t, 0⟩) = Q3) := HQ3.out
            go_wp2_with fail
            refine (isNameless_any 4 f t 0 _).mono ?_
            rintro e w2 ⟨rfl, hb2⟩
            have HB2 : Hid (Below wc.heap.size wc w2) := hb2
            obtain ⟨NL, hNL⟩ : ∃ q, q = nlB ⟨4, f, t, 0⟩ := ⟨_, rfl⟩
            rw [← hNL]
            have hq : (!NL) = Q3 := by rw [hNL]; exact HQ.out
            subst hq
            clear hb2 hNL
            go_wp2_with fail
            go_meet
            exact ⟨rfl, HB2.out⟩
          · have hq : true = Q3 := by
              rw [← HQ3.out]
              simp [veB, v0]
            subst hq
            go_wp2_with fail
            go_meet
            exact ⟨by simp [v0], Below.refl _ _⟩
        · have hq : (k != 3 && v != 0) = Q3 := by
            rw [← HQ3.out]
            simp [veB, k4]
          by_cases k3 : k = 3
          · subst k3
            have hq2 : false = Q3 := hq
            subst hq2
            go_wp2_with fail
            go_meet
            exact ⟨rfl, Below.refl _ _⟩
          · by_cases v0 : v = 0
            · subst v0
              have hq2 : false = Q3 := by rw [← hq]; simp
              subst hq2
              clear hq
              go_wp2_with fail
              go_meet
              exact ⟨by simp [k4], Below.refl _ _⟩
            · have hq2 : true = Q3 := by rw [← hq]; simp [k3, v0]
              subst hq2
              clear hq
              go_wp2_with fail
              go_meet
              exact ⟨by simp [k3, v0], Below.refl _ _⟩
      case rest =>
      obtain ⟨rfl, hbc3⟩ := hcut
      have HBe : Hid (Below w.heap.size w wc) := HBd.out.trans (hbc3.mono HBd.out.size)
      clear hbc3
      cases Q3 with
      | true =>
        have HR3 : Hid (R = 3) := by
          show _ = _
          rw [HR2.out, if_pos rfl]
        go_wp2
        go_ret
        exact ⟨by rw [HR3.out]; rfl, HBe.out⟩
      | false =>
        have HR3 : Hid (R = 0) := by
          show _ = _
          rw [HR2.out, if_neg (by decide)]
        go_wp2
        go_ret
        exact ⟨by rw [HR3.out]; rfl, HBe.out⟩

theorem nm_size {a : ByteArray} (h : nmB a = true) : a.size ≤ 6 := by
  simp only [nmB, Bool.and_eq_true, decide_eq_true_eq] at h
  exact h.2.1
theorem dgs_size (p : Int) : (dgS p).size ≤ 2 := by
  unfold dgS
  split <;> exact Nat.le_of_ble_eq_true rfl
theorem ret_two {a b : ByteArray} {x : Value} (h : a = b) : Ending.returned (.tuple #[.string a, x]) = .returned (.tuple #[.string b, x]) := by rw [h]
theorem shT_4 {f t : ByteArray} {v : Int} : shT ⟨4, f, t, v⟩ = looS := rfl
theorem shT_3 {f t : ByteArray} {v : Int} : shT ⟨3, f, t, v⟩ = wayS ++ (⟨#[32]⟩ ++ f ++ ⟨#[32]⟩ ++ t) ++ (⟨#[32]⟩ ++ dgS v) := by
  show wayS ++ (blW ++ (f ++ (blW ++ (t ++ (blW ++ dgS v))))) = _
  simp only [wa_as]
  rfl
theorem shT_2 {f t : ByteArray} {v : Int} : shT ⟨2, f, t, v⟩ = apaS ++ (⟨#[32]⟩ ++ f ++ ⟨#[32]⟩ ++ t) := by
  show apaS ++ (blW ++ (f ++ (blW ++ t))) = _
  simp only [wa_as]
  rfl
theorem shT_1 {f t : ByteArray} {v : Int} : shT ⟨1, f, t, v⟩ = reaS ++ (⟨#[32]⟩ ++ f ++ ⟨#[32]⟩ ++ t) := by
  show reaS ++ (blW ++ (f ++ (blW ++ t))) = _
  simp only [wa_as]
  rfl

set_option maxHeartbeats 4000000 in
set_option maxRecDepth 100000 in
theorem print_any (k : Int) (f t : ByteArray) (v : Int) (w : World) (hw : HasWords w) :
    Calls Tryz.prog 8 #[.agg #[.int .i64 k, .string f, .string t, .int .i64 v]] w fun e w' => e = .returned (.tuple #[.string (shV ⟨k, f, t, v⟩), noV (shN ⟨k, f, t, v⟩)]) ∧ Below w.heap.size w w' := by
  have hb0 : Below w.heap.size w (w.alloc (Obj.cells #[.int .i64 k, .string f, .string t, .int .i64 v] 31)) := (Below.refl _ _).alloc (Nat.le_refl _) _
  have hx0 := wibox_new w k f t v 31
  obtain ⟨w0, hw0⟩ : ∃ W, w.alloc (Obj.cells #[.int .i64 k, .string f, .string t, .int .i64 v] 31) = W := ⟨_, rfl⟩
  rw [hw0] at hb0 hx0
  have HW0 : Hid (w.alloc (Obj.cells #[.int .i64 k, .string f, .string t, .int .i64 v] 31) = w0) := hw0
  have HB0 : Hid (Below w.heap.size w w0) := hb0
  have HX0 : Hid (WiBox w0 w.heap.size k f t v) := hx0
  have HD0 : Hid (HasWords w0) := hw.later hb0
  obtain ⟨R, hR⟩ : ∃ R, R = shN ⟨k, f, t, v⟩ := ⟨_, rfl⟩
  obtain ⟨V, hV⟩ : ∃ V, V = shV ⟨k, f, t, v⟩ := ⟨_, rfl⟩
  have HR : Hid (shN ⟨k, f, t, v⟩ = R) := hR.symm
  have HV : Hid (V = shV ⟨k, f, t, v⟩) := hV
  rw [← hR, ← hV]
  clear hb0 hx0 hw0 hR hV hw
  go_enter Tryz.func8, Tryz.ntmps8
  go_upto_region 1 with fail
  rw [HW0.out]
  obtain ⟨x0, x1, x2, x3⟩ := HX0.out
  clear HW0
  go_wp2_with fail
  refine (checkText_any k f t v _).mono ?_
  rintro e w1 ⟨rfl, hb1⟩
  rw [HR.out]
  have HB1 : Hid (Below w.heap.size w w1) := HB0.out.trans (hb1.mono HB0.out.size)
  have HX1 : Hid (WiBox w1 w.heap.size k f t v) := HX0.out.later hb1
  have HD1 : Hid (HasWords w1) := HD0.out.later hb1
  clear hb1 HB0 HX0 HD0 x0 x1 x2 x3
  by_cases h0 : R = 0
  · have HS : Hid (shN ⟨k, f, t, v⟩ = 0) := HR.out.trans h0
    have HVT : Hid (V = shT ⟨k, f, t, v⟩) := by
      show _ = _
      rw [HV.out, shV, if_pos HS.out]
    have hsh := shw_0 HS.out
    subst h0
    rw [no_ok rfl]
    obtain ⟨x0, x1, x2, x3⟩ := HX1.out
    obtain ⟨d0, d1, d2, d3, d4⟩ := HD1.out
    have hlt := HD1.out.lt
    clear HR HV
    have s1 : reaS.size = 5 := rfl
    have s2 : apaS.size = 5 := rfl
    have s3 : wayS.size = 3 := rfl
    have s4 : looS.size = 5 := rfl
    rcases hsh with ⟨e, _⟩ | ⟨e | e, n1, n2, _⟩ | ⟨e, n1, n2, e1, e6⟩
    · simp only at e
      subst e
      go_wp2
      refine bodyPost_ret (v := .tuple #[.string looS, .nilIface]) (by simp [results, Tryz.results8, go_sem]) rfl ⟨by rw [HVT.out, shT_4, no_ok rfl], HB1.out⟩
    · simp only at e n1 n2
      subst e
      have d1 := nm_size n1
      have d2 := nm_size n2
      clear n1 n2
      go_wp2
      refine bodyPost_ret (v := .tuple #[.string (reaS ++ (⟨#[32]⟩ ++ f ++ ⟨#[32]⟩ ++ t)), .nilIface]) (by simp [results, Tryz.results8, go_sem]) rfl ⟨by rw [HVT.out, shT_1, no_ok rfl], HB1.out⟩
    · simp only at e n1 n2
      subst e
      have d1 := nm_size n1
      have d2 := nm_size n2
      clear n1 n2
      go_wp2
      refine bodyPost_ret (v := .tuple #[.string (apaS ++ (⟨#[32]⟩ ++ f ++ ⟨#[32]⟩ ++ t)), .nilIface]) (by simp [results, Tryz.results8, go_sem]) rfl ⟨by rw [HVT.out, shT_2, no_ok rfl], HB1.out⟩
    · simp only at e e1 e6 n1 n2
      subst e
      have d1 := nm_size n1
      have d2 := nm_size n2
      have d3 := dgs_size v
      clear n1 n2
      go_wp2_with fail
      refine (itoa_any v _ (by omega) (by omega)).mono ?_
      rintro e w2 ⟨rfl, hw2⟩
      subst hw2
      go_wp2
      refine bodyPost_ret (v := .tuple #[.string (wayS ++ (⟨#[32]⟩ ++ f ++ ⟨#[32]⟩ ++ t) ++ (⟨#[32]⟩ ++ dgS v)), .nilIface]) (by simp [results, Tryz.results8, go_sem]) rfl ⟨by rw [HVT.out, shT_3, no_ok rfl], HB1.out⟩
  · rw [no_ne h0]
    have HNE : Hid (R ≠ 0) := h0
    have HVT : Hid (V = ByteArray.empty) := by
      show _ = _
      rw [HV.out, shV, if_neg (by rw [HR.out]; exact h0)]
    clear h0
    go_wp2
    refine bodyPost_ret (v := .tuple #[.string ⟨#[]⟩, .iface 57 (.int .i64 R)]) (by simp [results, Tryz.results8, go_sem]) rfl ⟨by rw [HVT.out, no_ne HNE.out]; rfl, HB1.out⟩
end Go.Proofs.YtpmcjelihdlfeaaGreatDoor
/- What railref1.Wishes and railref1.ShowWish answer: contracts for the walks above them. -/
namespace Go.Proofs.YtpmcjelihdlfeaaGreatDoor
open Go.RowKit
set_option linter.unusedSimpArgs false
set_option linter.unusedVariables false

theorem ho_wh (Hs : List (ByteArray × (Int × Int))) (m : ByteArray) : decide (whN Hs m < 0) = !hoB Hs m := by
  have h := ixG_any Hs (fun h => h.1 == m)
  have e : hoB Hs m = decide (0 ≤ whN Hs m) := h.symm
  rw [e]
  by_cases h0 : whN Hs m < 0
  · simp [h0]
  · have : 0 ≤ whN Hs m := by omega
    simp [h0, this]
set_option maxHeartbeats 8000000 in
set_option maxRecDepth 100000 in
theorem rwishes_any (S : Int) (ao : Option Addr) (n cap : Nat) (ao2 : Option Addr) (n2 cap2 : Nat) (a4 : Option Addr) (n4 c4 : Nat) (Ls : List ((Int × Int) × (Int × Int))) (Hs : List (ByteArray × (Int × Int))) (l : List Wi) (w : World)
    (hL : GS lnkE w (.slice ao n cap) Ls) (hH : GS hstE w (.slice ao2 n2 cap2) Hs) (hl : GS wisE w (.slice a4 n4 c4) l) :
    Calls Tryz.prog 6 #[.agg #[.int .i64 S, .slice ao n cap, .slice ao2 n2 cap2], .slice a4 n4 c4] w fun e w' => e = .returned (.int .i64 (wsN S Ls Hs l)) ∧ Below w.heap.size w w' := by
  have hX := tbox_new w S (.slice ao n cap) (.slice ao2 n2 cap2) 25
  have hB0 : Below w.heap.size w (w.alloc (Obj.cells #[.int .i64 S, .slice ao n cap, .slice ao2 n2 cap2] 25)) := (Below.refl _ _).alloc (Nat.le_refl _) _
  obtain ⟨w0, hw0⟩ : ∃ W, w.alloc (Obj.cells #[.int .i64 S, .slice ao n cap, .slice ao2 n2 cap2] 25) = W := ⟨_, rfl⟩
  rw [hw0] at hX hB0
  have HX : Hid (TBox w0 w.heap.size S (.slice ao n cap) (.slice ao2 n2 cap2)) := hX
  have HW0 : Hid (w.alloc (Obj.cells #[.int .i64 S, .slice ao n cap, .slice ao2 n2 cap2] 25) = w0) := hw0
  have HB0 : Hid (Below w.heap.size w w0) := hB0
  have HLW : Hid (∀ W, Below w.heap.size w W → GS lnkE W (.slice ao n cap) Ls) := fun W hb => hL.later hb
  have HHW : Hid (∀ W, Below w.heap.size w W → GS hstE W (.slice ao2 n2 cap2) Hs) := fun W hb => hH.later hb
  obtain ⟨_, _, _, e5, hGn, hGm, _, hGa⟩ := hl.form
  cases e5
  have HGN : Hid (l.length = n4) := hGn
  have HGA : Hid (0 < n4 → ∃ g o, a4 = some ⟨g, o, none⟩ ∧ GAt wisE w g o l ∧ c4 ≤ maxLen) := hGa
  obtain ⟨R, hR⟩ : ∃ R, R = wsN S Ls Hs l := ⟨_, rfl⟩
  have HR : Hid (R = wsN S Ls Hs l) := hR
  rw [← hR]
  have hn4 : n4 ≤ maxLen := hGm
  unfold maxLen at hn4
  clear hX hB0 hw0 hL hH hl hGn hGm hGa hR
  go_enter Tryz.func6, Tryz.ntmps6
  go_upto_region 1 with fail
  rw [HW0.out]
  obtain ⟨b0, b1, b2⟩ := HX.out
  clear HW0
  go_wp2_with fail
  refine (rtopo_any S ao n cap ao2 n2 cap2 Ls Hs _ (HLW.out _ HB0.out) (HHW.out _ HB0.out)).mono ?_
  rintro e w1 ⟨rfl, hb1⟩
  obtain ⟨T, hT⟩ : ∃ T, T = tpN S Ls Hs := ⟨_, rfl⟩
  have HT : Hid (T = tpN S Ls Hs) := hT
  rw [← hT]
  have HB1 : Hid (Below w.heap.size w w1) := HB0.out.trans (hb1.mono HB0.out.size)
  have HX1 : Hid (TBox w1 w.heap.size S (.slice ao n cap) (.slice ao2 n2 cap2)) := HX.out.later hb1
  clear hT hb1 b0 b1 b2 HX
  by_cases h0 : T = 0
  · have HR1 : Hid (R = if 8 < l.length then 4 else wsTo S Hs l l.length) := by
      show _ = _
      rw [HR.out, wsN, if_pos (HT.out.symm.trans h0)]
    subst h0
    by_cases h8 : 8 < n4
    · have HR2 : Hid (R = 4) := by
        show _ = _
        rw [HR1.out, if_pos (by rw [HGN.out]; exact h8)]
      have h8' : (8 : Int) < (n4 : Int) := by omega
      go_wp2
      go_ret
      exact ⟨by rw [HR2.out]; rfl, HB1.out⟩
    · have HR2 : Hid (R = wsTo S Hs l n4) := by
        show _ = _
        rw [HR1.out, if_neg (by rw [HGN.out]; exact h8), HGN.out]
      have h8' : ¬ (8 : Int) < (n4 : Int) := by omega
      clear HR HR1
      go_wp2
      go_loopw [6] (fun i wr => ∃ j : Nat, j ≤ n4 ∧ i = .int .i64 j ∧ wsTo S Hs l j = 0 ∧ Below w1.heap.size w1 wr) (fun i _ => n4 - (intOf i).toNat)
      case atStart => exact ⟨0, by omega, rfl, rfl, Below.refl _ _⟩
      case round =>
        obtain ⟨j, hj, rfl, hno, hB⟩ := hrel
        have HB : Hid (Below w1.heap.size w1 wr) := hB
        have HBw : Hid (Below w.heap.size w wr) := HB1.out.trans (hB.mono HB1.out.size)
        have HNO : Hid (wsTo S Hs l j = 0) := hno
        have HXr : Hid (TBox wr w.heap.size S (.slice ao n cap) (.slice ao2 n2 cap2)) := HX1.out.later hB
        clear hno hB
        by_cases hlt : j < n4
        · obtain ⟨g, o, hao, hc, _⟩ := HGA.out (by omega)
          subst hao
          obtain ⟨k, f, t, v, hkl, hLk, q0, q1, q2, q3⟩ := wis_at (hc.later HBw.out) HGN.out hlt
          obtain ⟨N, hN⟩ : ∃ q, q = woN S Hs ⟨k, f, t, v⟩ := ⟨_, rfl⟩
          have HN : Hid (woN S Hs ⟨k, f, t, v⟩ = N) := hN.symm
          have HST : Hid (wsTo S Hs l (j + 1) = N) := by
            show _ = _
            rw [wsTo, if_pos HNO.out, getW hkl, hLk, ← hN]
          have hba : Below wr.heap.size wr (wr.alloc (Obj.cells #[Value.int IntKind.i64 k, Value.string f, Value.string t, Value.int IntKind.i64 v] 31)) := (Below.refl _ _).alloc (Nat.le_refl _) _
          have hwb := wibox_new wr k f t v 31
          have hxa := HXr.out.later hba
          obtain ⟨w2, hw2⟩ : ∃ W, wr.alloc (Obj.cells #[Value.int IntKind.i64 k, Value.string f, Value.string t, Value.int IntKind.i64 v] 31) = W := ⟨_, rfl⟩
          obtain ⟨gw, hgw⟩ : ∃ q, q = wr.heap.size := ⟨_, rfl⟩
          rw [hw2] at hba hwb hxa
          rw [← hgw] at hwb
          have HW2 : Hid (wr.alloc (Obj.cells #[Value.int IntKind.i64 k, Value.string f, Value.string t, Value.int IntKind.i64 v] 31) = w2) := hw2
          have HGW : Hid (wr.heap.size = gw) := hgw.symm
          have HWB : Hid (WiBox w2 gw k f t v) := hwb
          have HX2 : Hid (TBox w2 w.heap.size S (.slice ao n cap) (.slice ao2 n2 cap2)) := hxa
          have HB2 : Hid (Below w1.heap.size w1 w2) := HB.out.trans (hba.mono HB.out.size)
          have kb0 : (0 : Int) ≤ (j : Int) := by omega
          have kb1 : (j : Int) < (n4 : Int) := by omega
          clear hc hLk hN hba hwb hxa hw2 hgw
          go_upto_region 10 with fail
          rw [HW2.out, HGW.out]
          try rw [show decide ((j : Int) < (n4 : Int)) = true from by simp; omega]
          clear HW2 HGW q0 q1 q2 q3 HXr
          obtain ⟨x0, x1, x2, x3⟩ := HWB.out
          obtain ⟨b0, b1, b2⟩ := HX2.out
          obtain ⟨Q, hQ⟩ : ∃ q, q = (!wkB k || (!viB ⟨k, f, t, v⟩ S || veB ⟨k, f, t, v⟩)) := ⟨_, rfl⟩
          have HQ : Hid ((!wkB k || (!viB ⟨k, f, t, v⟩ S || veB ⟨k, f, t, v⟩)) = Q) := hQ.symm
          have HNQ : Hid (N = if Q then 1 else if k = 4 then (if nlB ⟨k, f, t, v⟩ then 0 else 3) else if hoB Hs f && hoB Hs t then 0 else 5) := by
            show _ = _
            rw [← HN.out, hQ]
            rfl
          clear hQ HN
          go_cut [60] from 26 to 61 (fun c w' => c = .bool Q ∧ w' = w2)
          case first =>
            by_cases k1 : k < 1
            · have hq : true = Q := by
                rw [← HQ.out]
                have : wkB k = false := by simp [wkB]; omega
                simp [this]
              subst hq
              go_wp2_with fail
              go_meet
              exact ⟨by first | rfl | simp [k1], rfl⟩
            · by_cases k4 : 4 < k
              · have hq : true = Q := by
                  rw [← HQ.out]
                  have : wkB k = false := by simp [wkB]; omega
                  simp [this]
                subst hq
                go_wp2_with fail
                go_meet
                exact ⟨by first | rfl | simp [k1, k4], rfl⟩
              · have hwk : wkB k = true := by simp [wkB]; omega
                by_cases k3 : k = 3
                · subst k3
                  by_cases v1 : v < 1
                  · have hq : true = Q := by
                      rw [← HQ.out]
                      have : viB ⟨3, f, t, v⟩ S = false := by simp [viB, swB]; omega
                      simp [this]
                    subst hq
                    go_wp2_with fail
                    go_meet
                    exact ⟨by first | rfl | simp [v1], rfl⟩
                  · by_cases v2 : S < v
                    · have hq : true = Q := by
                        rw [← HQ.out]
                        have : viB ⟨3, f, t, v⟩ S = false := by simp [viB, swB]; omega
                        simp [this]
                      subst hq
                      go_wp2_with fail
                      go_meet
                      exact ⟨by first | rfl | simp [v1, v2], rfl⟩
                    · have hq : false = Q := by
                        rw [← HQ.out]
                        have h1 : viB ⟨3, f, t, v⟩ S = true := by simp [viB, swB]; omega
                        have h2 : veB ⟨3, f, t, v⟩ = false := by simp [veB]
                        rw [hwk, h1, h2]
                        rfl
                      subst hq
                      go_wp2_with fail
                      go_meet
                      exact ⟨by first | rfl | simp [v1, v2], rfl⟩
                · have hvi : viB ⟨k, f, t, v⟩ S = true := by simp [viB, k3]
                  by_cases v0 : v = 0
                  · subst v0
                    have hq : false = Q := by
                      rw [← HQ.out]
                      have h2 : veB ⟨k, f, t, 0⟩ = false := by simp [veB]
                      rw [hwk, hvi, h2]
                      rfl
                    subst hq
                    go_wp2_with fail
                    go_meet
                    exact ⟨by first | rfl | simp [k1, k3, k4], rfl⟩
                  · have hq : true = Q := by
                      rw [← HQ.out]
                      have h2 : veB ⟨k, f, t, v⟩ = true := by simp [veB, k3, v0]
                      rw [h2]
                      simp
                    subst hq
                    go_wp2_with fail
                    go_meet
                    exact ⟨by first | rfl | simp [k1, k3, k4, v0], rfl⟩
          case rest =>
          obtain ⟨rfl, hwc⟩ := hcut
          subst hwc
          have HBw2 : Hid (Below w.heap.size w wc) := HB1.out.trans (HB2.out.mono HB1.out.size)
          cases Q with
          | true =>
            have HR3 : Hid (R = 1) := by
              show _ = _
              have h1 : N = 1 := by rw [HNQ.out, if_pos rfl]
              rw [HR2.out, ws_le (k := j + 1) (by rw [HST.out, h1]; decide) (by omega), HST.out, h1]
            go_wp2
            go_ret
            exact ⟨by rw [HR3.out]; rfl, HBw2.out⟩
          | false =>
            by_cases k4 : k = 4
            · subst k4
              have HN1 : Hid (N = if nlB ⟨4, f, t, v⟩ then 0 else 3) := by
                show _ = _
                rw [HNQ.out, if_neg (by decide), if_pos rfl]
              cases hf : f.toList.isEmpty
              · have HR3 : Hid (R = 3) := by
                  show _ = _
                  have h1 : nlB ⟨4, f, t, v⟩ = false := by simp [nlB, ← emp_lst, hf]
                  have h2 : N = 3 := by rw [HN1.out, h1]; rfl
                  rw [HR2.out, ws_le (k := j + 1) (by rw [HST.out, h2]; decide) (by omega), HST.out, h2]
                go_wp2
                go_ret
                exact ⟨by rw [HR3.out]; rfl, HBw2.out⟩
              · cases ht : t.toList.isEmpty
                · have HR3 : Hid (R = 3) := by
                    show _ = _
                    have h1 : nlB ⟨4, f, t, v⟩ = false := by simp [nlB, ← emp_lst, ht]
                    have h2 : N = 3 := by rw [HN1.out, h1]; rfl
                    rw [HR2.out, ws_le (k := j + 1) (by rw [HST.out, h2]; decide) (by omega), HST.out, h2]
                  go_wp2
                  go_ret
                  exact ⟨by rw [HR3.out]; rfl, HBw2.out⟩
                · have HS2 : Hid (wsTo S Hs l (j + 1) = 0) := by
                    show _ = _
                    have h1 : nlB ⟨4, f, t, v⟩ = true := by simp [nlB, ← emp_lst, hf, ht]
                    rw [HST.out, HN1.out, h1]
                    rfl
                  go_wp2
                  go_roundw
                  case rel => exact ⟨j + 1, by omega, by go_num, HS2.out, HB2.out⟩
                  case measure => simp [intOf]; omega
            · have HN1 : Hid (N = if hoB Hs f && hoB Hs t then 0 else 5) := by
                show _ = _
                rw [HNQ.out, if_neg (by decide), if_neg k4]
              have hk4 : (k == 4) = false := by simp [k4]
              clear HNQ
              go_wp2_with fail
              refine (rnamed_any S ao n cap ao2 n2 cap2 Hs f _ (HHW.out _ HBw2.out)).mono ?_
              rintro e w3 ⟨rfl, hb3⟩
              obtain ⟨I1, hI1⟩ : ∃ q, q = whN Hs f := ⟨_, rfl⟩
              have HI1 : Hid (decide (I1 < 0) = !hoB Hs f) := by
                show _ = _
                rw [hI1]
                exact ho_wh Hs f
              rw [← hI1]
              have HX3 : Hid (TBox w3 w.heap.size S (.slice ao n cap) (.slice ao2 n2 cap2)) := HX2.out.later hb3
              have HWB3 : Hid (WiBox w3 gw k f t v) := HWB.out.later hb3
              have HB3 : Hid (Below w1.heap.size w1 w3) := HB2.out.trans (hb3.mono HB2.out.size)
              have HBw3 : Hid (Below w.heap.size w w3) := HBw2.out.trans (hb3.mono HBw2.out.size)
              clear hI1 hb3 x0 x1 x2 x3 b0 b1 b2
              obtain ⟨x0, x1, x2, x3⟩ := HWB3.out
              obtain ⟨b0, b1, b2⟩ := HX3.out
              by_cases i1 : I1 < 0
              · have HR3 : Hid (R = 5) := by
                  show _ = _
                  have h0 := HI1.out
                  have h1 : hoB Hs f = false := by simpa [i1] using h0
                  have h2 : N = 5 := by rw [HN1.out, h1]; rfl
                  rw [HR2.out, ws_le (k := j + 1) (by rw [HST.out, h2]; decide) (by omega), HST.out, h2]
                go_wp2
                go_ret
                exact ⟨by rw [HR3.out]; rfl, HBw3.out⟩
              · have HF1 : Hid (hoB Hs f = true) := by
                  show _ = _
                  have h0 := HI1.out
                  simpa [i1] using h0
                go_wp2_with fail
                refine (rnamed_any S ao n cap ao2 n2 cap2 Hs t _ (HHW.out _ HBw3.out)).mono ?_
                rintro e w5 ⟨rfl, hb5⟩
                obtain ⟨I2, hI2⟩ : ∃ q, q = whN Hs t := ⟨_, rfl⟩
                have HI2 : Hid (decide (I2 < 0) = !hoB Hs t) := by
                  show _ = _
                  rw [hI2]
                  exact ho_wh Hs t
                rw [← hI2]
                have HB5 : Hid (Below w1.heap.size w1 w5) := HB3.out.trans (hb5.mono HB3.out.size)
                have HBw5 : Hid (Below w.heap.size w w5) := HBw3.out.trans (hb5.mono HBw3.out.size)
                clear hI2 hb5
                by_cases i2 : I2 < 0
                · have HR3 : Hid (R = 5) := by
                    show _ = _
                    have h0 := HI2.out
                    have h1 : hoB Hs t = false := by simpa [i2] using h0
                    have h2 : N = 5 := by rw [HN1.out, h1, Bool.and_false]; rfl
                    rw [HR2.out, ws_le (k := j + 1) (by rw [HST.out, h2]; decide) (by omega), HST.out, h2]
                  go_wp2
                  go_ret
                  exact ⟨by rw [HR3.out]; rfl, HBw5.out⟩
                · have HS2 : Hid (wsTo S Hs l (j + 1) = 0) := by
                    show _ = _
                    have h0 := HI2.out
                    have h1 : hoB Hs t = true := by simpa [i2] using h0
                    rw [HST.out, HN1.out, HF1.out, h1]
                    rfl
                  go_wp2
                  go_roundw
                  case rel => exact ⟨j + 1, by omega, by go_num, HS2.out, HB5.out⟩
                  case measure => simp [intOf]; omega
        · obtain rfl : j = n4 := by omega
          have HR3 : Hid (R = 0) := by
            show _ = _
            rw [HR2.out, HNO.out]
          have kb1 : ¬ (j : Int) < (j : Int) := by omega
          go_wp2
          go_ret
          exact ⟨by rw [HR3.out]; rfl, HBw.out⟩
  · have HR1 : Hid (R = T) := by
      show _ = _
      rw [HR.out, wsN, if_neg (by rw [← HT.out]; exact h0), HT.out]
    have hT0 : (T != 0) = true := by simp [h0]
    go_wp2
    go_ret
    exact ⟨by rw [HR1.out]; rfl, HB1.out⟩
end Go.Proofs.YtpmcjelihdlfeaaGreatDoor
