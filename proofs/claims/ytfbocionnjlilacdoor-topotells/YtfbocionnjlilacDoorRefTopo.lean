/- What railref1.Topo answers: a contract for the walks above it. -/
import Derived.Test.YtfbocionnjlilacDoorRefTopo1
import Derived.Test.YtfbocionnjlilacDoorRefName
import Derived.Test.YtfbocionnjlilacDoorOwnRow
import Derived.Test.YtfbocionnjlilacDoorOwnInts
import Derived.Test.YtfbocionnjlilacDoorTopoLay
import Derived.Deep.QuietTactic
import Derived.BigQuiet
namespace Go.Proofs.YtfbocionnjlilacDoor
open Go.RowKit
set_option linter.unusedSimpArgs false
set_option linter.unusedVariables false

theorem below_drewN (w : World) (n : Nat) : Below w.heap.size w (w.drewN n) := ⟨rfl, rfl, rfl, Nat.le_refl _, fun _ _ => rfl⟩
theorem eq2_ways (a b c d : Int) : ((a == c && b == d) = true ∧ (a == c) = true ∧ (b == d) = true) ∨ ((a == c && b == d) = false ∧ (a == c) = true ∧ (b == d) = false) ∨ ((a == c && b == d) = false ∧ (a == c) = false) := by
  cases a == c <;> cases b == d <;> simp
theorem pr_beq (a b c d : Int) : (((a, b) : Int × Int) == (c, d)) = (a == c && b == d) := rfl
theorem any_take {α : Type} {L : List α} {f : α → Bool} (h : (L.take L.length).any f = false) : L.any f = false := by simpa using h

theorem own_two {W : World} {B e : Nat} {v : Value} {U : List (Int × Int)} {m : Nat} {x0 x1 x2 x3 : Int} (hm : U.length = m) (h : W.ownsRow B e 2 v (m + 1 + 1) (cellsG spoE U ++ [.int .i64 x0, .int .i64 x1, .int .i64 x2, .int .i64 x3])) :
    W.ownsRow B e 2 v (U ++ [(x0, x1), (x2, x3)]).length (cellsG spoE (U ++ [(x0, x1), (x2, x3)])) := by
  subst hm
  have e1 : cellsG spoE (U ++ [(x0, x1), (x2, x3)]) = cellsG spoE U ++ [.int .i64 x0, .int .i64 x1, .int .i64 x2, .int .i64 x3] := by
    rw [cellsG_app]
    simp [cellsG, spoE]
  rw [e1]
  simpa using h
theorem own_one1 {W : World} {B e : Nat} {v : Value} {U : List (Int × Int)} {m : Nat} {x0 x1 : Int} (hm : U.length = m) (h : W.ownsRow B e 2 v (m + 1) (cellsG spoE U ++ [.int .i64 x0, .int .i64 x1])) :
    W.ownsRow B e 2 v (U ++ [(x0, x1)]).length (cellsG spoE (U ++ [(x0, x1)])) := by
  subst hm
  have e1 : cellsG spoE (U ++ [(x0, x1)]) = cellsG spoE U ++ [.int .i64 x0, .int .i64 x1] := by
    rw [cellsG_app]
    simp [cellsG, spoE]
  rw [e1]
  simpa using h
/-- A block that is not the row's own is as it was. -/
theorem grown_cell {W w' : World} {v : Value} {g : Nat} (h : W.grownBy w' v.ownBlock) (hl : g < W.heap.size) (hn : ∀ k, v.ownBlock = some k → k ≠ g) (i : Nat) : w'.cell? ⟨g, i, none⟩ = W.cell? ⟨g, i, none⟩ :=
  World.cell?_of_block (w := W) (a := ⟨g, i, none⟩) (h.block g hl (fun e => hn g (by first | exact e | exact e.symm) rfl))

set_option maxHeartbeats 8000000 in
set_option maxRecDepth 100000 in
theorem rtopo_any (S : Int) (ao : Option Addr) (n cap : Nat) (ao2 : Option Addr) (n2 cap2 : Nat) (Ls : List ((Int × Int) × (Int × Int))) (Hs : List (ByteArray × (Int × Int))) (w : World)
    (hL : GS lnkE w (.slice ao n cap) Ls) (hH : GS hstE w (.slice ao2 n2 cap2) Hs) :
    Calls Tryd.prog 7 #[.agg #[.int .i64 S, .slice ao n cap, .slice ao2 n2 cap2]] w fun e w' => e = .returned (.int .i64 (tpN S Ls Hs)) ∧ Below w.heap.size w w' := by
  obtain ⟨_, _, _, e1, hLn, hLm, _, hLa⟩ := hL.form
  cases e1
  obtain ⟨_, _, _, e2, hHn, hHm, _, hHa⟩ := hH.form
  cases e2
  have HLN : Hid (Ls.length = n) := hLn
  have HHN : Hid (Hs.length = n2) := hHn
  have HLA : Hid (0 < n → ∃ g o, ao = some ⟨g, o, none⟩ ∧ GAt lnkE w g o Ls ∧ cap ≤ maxLen) := hLa
  have HHA : Hid (0 < n2 → ∃ g o, ao2 = some ⟨g, o, none⟩ ∧ GAt hstE w g o Hs ∧ cap2 ≤ maxLen) := hHa
  obtain ⟨T, hT⟩ : ∃ T, T = tpN S Ls Hs := ⟨_, rfl⟩
  have HT : Hid (T = tpN S Ls Hs) := hT
  rw [← hT]
  have hX := tbox_new w S (.slice ao n cap) (.slice ao2 n2 cap2) 25
  have hB : Below w.heap.size w (w.alloc (Obj.cells #[.int .i64 S, .slice ao n cap, .slice ao2 n2 cap2] 25)) := (Below.refl _ _).alloc (Nat.le_refl _) _
  have HB0' : Hid (Below w.heap.size w (w.alloc (Obj.cells #[.int .i64 S, .slice ao n cap, .slice ao2 n2 cap2] 25))) := hB
  by_cases h1 : 1 ≤ S
  · by_cases h6 : S ≤ 6
    · by_cases h2 : n ≤ 200
      · by_cases h8 : n2 ≤ 8
        · have s1 : decide (S < 1) = false := by simp; omega
          have s2 : decide (6 < S) = false := by simp; omega
          have s3 : decide (200 < (n : Int)) = false := by simp; omega
          have s4 : decide (8 < (n2 : Int)) = false := by simp; omega
          have HM : Hid (T = if lkN S Ls [] = 0 then hoN S Hs [] (spsL Ls) else lkN S Ls []) := by
            show _ = _
            rw [hT]
            unfold tpN
            have e3 : (decide (1 ≤ S) && decide (S ≤ 6)) = true := by simp [h1, h6]
            have e4 : (decide (Ls.length ≤ 200) && decide (Hs.length ≤ 8)) = true := by simp [hLn, hHn, h2, h8]
            rw [if_pos e3, if_pos e4]
          obtain ⟨w0, hw0⟩ : ∃ W, w.alloc (Obj.cells #[.int .i64 S, .slice ao n cap, .slice ao2 n2 cap2] 25) = W := ⟨_, rfl⟩
          rw [hw0] at hX hB
          have HX : Hid (TBox w0 w.heap.size S (.slice ao n cap) (.slice ao2 n2 cap2)) := hX
          have HB : Hid (Below w.heap.size w w0) := hB
          have HW0 : Hid (w.alloc (Obj.cells #[.int .i64 S, .slice ao n cap, .slice ao2 n2 cap2] 25) = w0) := hw0
          have H2 : Hid (n ≤ 200) := h2
          have H8 : Hid (n2 ≤ 8) := h8
          obtain ⟨i0, hi, hz0, hz1, hz2⟩ := info_parts spo_info
          clear hL hH hLn hLm hLa hHn hHm hHa hT hX hB hw0 h1 h6 h2 h8 HB0' HT
          go_enter Tryd.func7, Tryd.ntmps7
          go_wp2
          rw [HW0.out]
          go_loopw [3, 4] (fun u i wr => ∃ k : Nat, k ≤ n ∧ i = .int .i64 k ∧ wr.ownsRow w0.heap.size 27 2 u (spsL (Ls.take k)).length (cellsG spoE (spsL (Ls.take k))) ∧ lkN S Ls [] = lkN S (Ls.drop k) (spsL (Ls.take k)) ∧ Below w0.heap.size w0 wr) (fun _ i _ => n - (intOf i).toNat)
          case atStart => exact ⟨0, by omega, rfl, by simpa [spsL, cellsG] using World.ownsRow_nil _ _ _ _, by simp [spsL], Below.refl _ _⟩
          case round =>
            rename_i u3 u4
            obtain ⟨k, hk, rfl, hown, hlk, hBr⟩ := hrel
            obtain ⟨ao3, cap3, rfl⟩ := own_form hown
            obtain ⟨wo, hwo⟩ : ∃ x, x = wr := ⟨_, rfl⟩
            subst hwo
            have HOWN : Hid (wo.ownsRow w0.heap.size 27 2 (.slice ao3 (spsL (Ls.take k)).length cap3) (spsL (Ls.take k)).length (cellsG spoE (spsL (Ls.take k)))) := hown
            have HLK : Hid (lkN S Ls [] = lkN S (Ls.drop k) (spsL (Ls.take k))) := hlk
            have HBr : Hid (Below w0.heap.size w0 wo) := hBr
            have HBw : Hid (Below w.heap.size w wo) := HB.out.trans (hBr.mono HB.out.size)
            have HXr : Hid (TBox wo w.heap.size S (.slice ao n cap) (.slice ao2 n2 cap2)) := HX.out.later hBr
            obtain ⟨b0, b1, b2⟩ := HXr.out
            have hlw : w.heap.size < wo.heap.size := World.block_lt_of_cell? _ _ b0
            have hn200 : n ≤ 200 := H2.out
            have hlen : (spsL (Ls.take k)).length ≤ 400 := by
              rw [sps_len, List.length_take]
              omega
            obtain ⟨U, hU⟩ : ∃ U, U = spsL (Ls.take k) := ⟨_, rfl⟩
            have HU : Hid (U = spsL (Ls.take k)) := hU
            rw [← hU] at HOWN HLK hlen
            rw [← hU]
            obtain ⟨m, hm⟩ : ∃ m, m = U.length := ⟨_, rfl⟩
            have HMU : Hid (U.length = m) := hm.symm
            rw [← hm] at HOWN hlen
            rw [← hm]
            clear hown hlk hBr hU hm HW0
            by_cases hlt : k < n
            · have HK1 : Hid (k + 1 ≤ n) := hlt
              obtain ⟨g, o, hao, hc, _⟩ := HLA.out (by omega)
              subst hao
              obtain ⟨x0, x1, x2, x3, hkl, hLk, q0, q1, q2, q3⟩ := lnk_at (hc.later HBw.out) HLN.out hlt
              have HLK1 : Hid (lkN S Ls [] = if lk1 S U ((x0, x1), (x2, x3)) = 0 then lkN S (Ls.drop (k + 1)) (U ++ [(x0, x1), (x2, x3)]) else lk1 S U ((x0, x1), (x2, x3))) := by
                show _ = _
                rw [HLK.out, List.drop_eq_getElem_cons hkl, lk_step, hLk]
              have HUN : Hid (spsL (Ls.take (k + 1)) = U ++ [(x0, x1), (x2, x3)]) := by
                show _ = _
                rw [sps_take hkl, hLk, HU.out]
              have HT7 : Hid (lk1 S U ((x0, x1), (x2, x3)) ≠ 0 → T = lk1 S U ((x0, x1), (x2, x3))) := fun h => by
                have e := HLK1.out
                rw [if_neg h] at e
                rw [HM.out, e, if_neg h]
              have HBA : Hid (Below wo.heap.size wo (wo.alloc (Obj.cells #[Value.int IntKind.i64 x0, Value.int IntKind.i64 x1, Value.int IntKind.i64 x2, Value.int IntKind.i64 x3] 83))) := (Below.refl _ _).alloc (Nat.le_refl _) _
              have HBX : Hid (VAt (wo.alloc (Obj.cells #[Value.int IntKind.i64 x0, Value.int IntKind.i64 x1, Value.int IntKind.i64 x2, Value.int IntKind.i64 x3] 83)) wo.heap.size 0 (lnkE.c ((x0, x1), (x2, x3)))) := lnk_new wo x0 x1 x2 x3 83
              clear hLk hc
              go_wp2_with fail
              refine (rspot_any S (some ⟨g, o, none⟩) n cap ao2 n2 cap2 x0 x1 _).mono ?_
              rintro e w2 ⟨rfl, hb2⟩
              have hB2 : Below wo.heap.size wo w2 := HBA.out.trans (hb2.mono HBA.out.size)
              have HB2 : Hid (Below wo.heap.size wo w2) := hB2
              have HV2 : Hid (VAt w2 wo.heap.size 0 (lnkE.c ((x0, x1), (x2, x3)))) := HBX.out.later hb2
              obtain ⟨b0, b1, b2⟩ := HXr.out.later hB2
              obtain ⟨l0, l1, l2, l3⟩ := lnk_cells HV2.out
              simp only [Nat.zero_add] at l0 l1 l2 l3
              have hll : wo.heap.size < w2.heap.size := World.block_lt_of_cell? _ _ l0
              clear hb2 hB2 HBA HBX q0 q1 q2 q3
              go_wp2_with fail
              refine (rspot_any S (some ⟨g, o, none⟩) n cap ao2 n2 cap2 x2 x3 _).mono ?_
              rintro e w3 ⟨rfl, hb3⟩
              have hB3 : Below wo.heap.size wo w3 := HB2.out.trans (hb3.mono HB2.out.size)
              have HB3 : Hid (Below wo.heap.size wo w3) := hB3
              have HB3w : Hid (Below w.heap.size w w3) := HBw.out.trans (hB3.mono HBw.out.size)
              have HV3 : Hid (VAt w3 wo.heap.size 0 (lnkE.c ((x0, x1), (x2, x3)))) := HV2.out.later hb3
              obtain ⟨b0, b1, b2⟩ := HXr.out.later hB3
              obtain ⟨l0, l1, l2, l3⟩ := lnk_cells HV3.out
              simp only [Nat.zero_add] at l0 l1 l2 l3
              have hll : wo.heap.size < w3.heap.size := World.block_lt_of_cell? _ _ l0
              clear hb3 hB3 HV2 HB2
              cases hsa : spB S (x0, x1)
              · have HT1 : Hid (T = 1) := by
                  have e : lk1 S U ((x0, x1), (x2, x3)) = 1 := by simp [lk1, hsa]
                  have := HT7.out (by rw [e]; decide)
                  rw [e] at this
                  exact this
                go_wp2
                go_ret
                exact ⟨by rw [HT1.out]; rfl, HB3w.out⟩
              · cases hsb : spB S (x2, x3)
                · have HT1 : Hid (T = 1) := by
                    have e : lk1 S U ((x0, x1), (x2, x3)) = 1 := by simp [lk1, hsa, hsb]
                    have := HT7.out (by rw [e]; decide)
                    rw [e] at this
                    exact this
                  go_wp2
                  go_ret
                  exact ⟨by rw [HT1.out]; rfl, HB3w.out⟩
                · have HL7 : Hid (lk1 S U ((x0, x1), (x2, x3)) = if (x0 == x2 && x1 == x3) || (U.any fun u => u == (x0, x1) || u == (x2, x3)) then 7 else 0) := by
                    show _ = _
                    simp only [lk1, hsa, hsb, Bool.and_self, if_true, pr_beq]
                  rcases eq2_ways x0 x1 x2 x3 with ⟨g0, g1, g2⟩ | hne
                  · have HT1 : Hid (T = 7) := by
                      have e : lk1 S U ((x0, x1), (x2, x3)) = 7 := by rw [HL7.out, g0]; rfl
                      have := HT7.out (by rw [e]; decide)
                      rw [e] at this
                      exact this
                    go_wp2
                    go_ret
                    exact ⟨by rw [HT1.out]; rfl, HB3w.out⟩
                  · have hg0 : (x0 == x2 && x1 == x3) = false := by
                      rcases hne with ⟨h, _⟩ | ⟨h, _⟩ <;> exact h
                    have HL8 : Hid (lk1 S U ((x0, x1), (x2, x3)) = if (U.any fun u => u == (x0, x1) || u == (x2, x3)) then 7 else 0) := by
                      show _ = _
                      rw [HL7.out, hg0, Bool.false_or]
                    obtain ⟨_, _, _, e5, hUn, hUm, _, hUa⟩ := (own_GS (E := spoE) (L := U) (by rw [HMU.out]; exact HOWN.out) : GS spoE wo (.slice ao3 m cap3) U).form
                    cases e5
                    have HUA : Hid (0 < m → ∃ g o, ao3 = some ⟨g, o, none⟩ ∧ GAt spoE wo g o U ∧ cap3 ≤ maxLen) := hUa
                    clear hUn hUm hUa hg0
                    go_upto_region 14 with fail
                    go_cut [63] from 59 to 63 (fun c w' => c = .bool false ∧ w' = w3)
                    case first =>
                      rcases hne with ⟨_, g1, g2⟩ | ⟨_, g1⟩
                      · go_wp2_with fail
                        go_meet
                        case rel => exact ⟨rfl, rfl⟩
                      · go_wp2_with fail
                        go_meet
                        case rel => exact ⟨rfl, rfl⟩
                    case rest =>
                      obtain ⟨rfl, hwc⟩ := hcut
                      subst hwc
                      clear hne
                      go_wp2
                      go_loopw [8] (fun j wz => ∃ q : Nat, q ≤ m ∧ j = .int .i64 q ∧ (U.take q).any (fun u => u == (x0, x1) || u == (x2, x3)) = false ∧ Below wc.heap.size wc wz) (fun j _ => m - (intOf j).toNat)
                      case atStart => exact ⟨0, by omega, rfl, by simp, Below.refl _ _⟩
                      case round =>
                        obtain ⟨q, hq, rfl, hno, hBz⟩ := hrel
                        have HNO : Hid ((U.take q).any (fun u => u == (x0, x1) || u == (x2, x3)) = false) := hno
                        have HBz : Hid (Below wo.heap.size wo wr) := HB3.out.trans (hBz.mono HB3.out.size)
                        have HBc : Hid (Below wc.heap.size wc wr) := hBz
                        have HBzw : Hid (Below w.heap.size w wr) := HBw.out.trans (HBz.out.mono HBw.out.size)
                        obtain ⟨b0, b1, b2⟩ := HXr.out.later HBz.out
                        have HVz : Hid (VAt wr wo.heap.size 0 (lnkE.c ((x0, x1), (x2, x3)))) := HV3.out.later hBz
                        obtain ⟨l0, l1, l2, l3⟩ := lnk_cells HVz.out
                        simp only [Nat.zero_add] at l0 l1 l2 l3
                        have hll : wo.heap.size < wr.heap.size := World.block_lt_of_cell? _ _ l0
                        clear hno hBz
                        by_cases hqm : q < m
                        · obtain ⟨g3, o3, hao3, hc3, _⟩ := HUA.out (by omega)
                          subst hao3
                          obtain ⟨v0, v1, hql, hUq, p0, p1⟩ := spo_at (hc3.later HBz.out) HMU.out hqm
                          have HUQ : Hid (U[q] = (v0, v1)) := hUq
                          have qb0 : (0 : Int) ≤ (q : Int) := by omega
                          have qb1 : (q : Int) < (m : Int) := by omega
                          have hgl3 : g3 < wr.heap.size := World.block_lt_of_cell? _ _ p0
                          have HHIT : Hid (((v0 == x0 && v1 == x1) || (v0 == x2 && v1 == x3)) = true → T = 7) := fun hy => by
                            have e : lk1 S U ((x0, x1), (x2, x3)) = 7 := by
                              rw [HL8.out, any_hitG hql (by rw [HUQ.out]; exact hy)]
                              rfl
                            have := HT7.out (by rw [e]; decide)
                            rw [e] at this
                            exact this
                          have HNXT : Hid (((v0 == x0 && v1 == x1) || (v0 == x2 && v1 == x3)) = false → (U.take (q + 1)).any (fun u => u == (x0, x1) || u == (x2, x3)) = false) := fun hy => any_nextG hql HNO.out (by rw [HUQ.out]; exact hy)
                          clear hc3 hUq
                          rcases eq2_ways v0 v1 x0 x1 with ⟨f0, f1, f2⟩ | ⟨f0, f1, f2⟩ | ⟨f0, f1⟩
                          · have HT1 : Hid (T = 7) := HHIT.out (by rw [f0]; rfl)
                            go_wp2_with fail
                            go_quiet (fail)
                            go_wp2
                            go_ret
                            exact ⟨by rw [HT1.out]; rfl, HBzw.out.trans ((below_drewN _ _).mono HBzw.out.size)⟩
                          · rcases eq2_ways v0 v1 x2 x3 with ⟨d0, d1, d2⟩ | ⟨d0, d1, d2⟩ | ⟨d0, d1⟩
                            · have HT1 : Hid (T = 7) := HHIT.out (by rw [f0, d0]; rfl)
                              go_wp2_with fail
                              go_quiet (fail)
                              go_wp2
                              go_ret
                              exact ⟨by rw [HT1.out]; rfl, HBzw.out.trans ((below_drewN _ _).mono HBzw.out.size)⟩
                            · have HN1 : Hid ((U.take (q + 1)).any (fun u => u == (x0, x1) || u == (x2, x3)) = false) := HNXT.out (by rw [f0, d0]; rfl)
                              go_wp2_with fail
                              go_quiet (fail)
                              go_wp2
                              go_roundw
                              case rel => exact ⟨q + 1, by omega, by go_num, HN1.out, HBc.out.trans ((below_drewN _ _).mono HBc.out.size)⟩
                              case measure => simp [intOf]; omega
                            · have HN1 : Hid ((U.take (q + 1)).any (fun u => u == (x0, x1) || u == (x2, x3)) = false) := HNXT.out (by rw [f0, d0]; rfl)
                              go_wp2_with fail
                              go_quiet (fail)
                              go_wp2
                              go_roundw
                              case rel => exact ⟨q + 1, by omega, by go_num, HN1.out, HBc.out.trans ((below_drewN _ _).mono HBc.out.size)⟩
                              case measure => simp [intOf]; omega
                          · rcases eq2_ways v0 v1 x2 x3 with ⟨d0, d1, d2⟩ | ⟨d0, d1, d2⟩ | ⟨d0, d1⟩
                            · have HT1 : Hid (T = 7) := HHIT.out (by rw [f0, d0]; rfl)
                              go_wp2_with fail
                              go_quiet (fail)
                              go_wp2
                              go_ret
                              exact ⟨by rw [HT1.out]; rfl, HBzw.out.trans ((below_drewN _ _).mono HBzw.out.size)⟩
                            · have HN1 : Hid ((U.take (q + 1)).any (fun u => u == (x0, x1) || u == (x2, x3)) = false) := HNXT.out (by rw [f0, d0]; rfl)
                              go_wp2_with fail
                              go_quiet (fail)
                              go_wp2
                              go_roundw
                              case rel => exact ⟨q + 1, by omega, by go_num, HN1.out, HBc.out.trans ((below_drewN _ _).mono HBc.out.size)⟩
                              case measure => simp [intOf]; omega
                            · have HN1 : Hid ((U.take (q + 1)).any (fun u => u == (x0, x1) || u == (x2, x3)) = false) := HNXT.out (by rw [f0, d0]; rfl)
                              go_wp2_with fail
                              go_quiet (fail)
                              go_wp2
                              go_roundw
                              case rel => exact ⟨q + 1, by omega, by go_num, HN1.out, HBc.out.trans ((below_drewN _ _).mono HBc.out.size)⟩
                              case measure => simp [intOf]; omega
                        · obtain rfl : q = m := by omega
                          have HAN : Hid ((U.any fun u => u == (x0, x1) || u == (x2, x3)) = false) := by
                            have := HNO.out
                            rw [← HMU.out] at this
                            exact any_take this
                          have HL0 : Hid (lkN S Ls [] = lkN S (Ls.drop (k + 1)) (U ++ [(x0, x1), (x2, x3)])) := by
                            show _ = _
                            have e : lk1 S U ((x0, x1), (x2, x3)) = 0 := by
                              rw [HL8.out, HAN.out]
                              rfl
                            rw [HLK1.out, if_pos e]
                          have HOZ : Hid (wr.ownsRow w0.heap.size 27 2 (.slice ao3 q cap3) q (cellsG spoE U)) := own_below HOWN.out HBz.out
                          have HBz0 : Hid (Below w0.heap.size w0 wr) := HBr.out.trans (HBz.out.mono HBr.out.size)
                          have hsz0 : w0.heap.size ≤ wr.heap.size := HBz0.out.size
                          go_wp2_with (at_builtin; refine wpList_append_own _ rfl _ _ 81 rfl w0.heap.size 27 i0 (.agg #[.int .i64 0, .int .i64 0]) 2 16 Tryd.underlying81 hi hz0 hz1 hz2 spo_zero (by decide) _ _ _ rfl (HOZ.out.alloc _) ⟨wr.heap.size, 0, none⟩ 1 1 [.int .i64 x0, .int .i64 x1] rfl rfl ?m1 ?m2 ?m3 ?m4 ?m5 ?_)
                          case m1 =>
                            intro j u hj
                            match j, hj with
                            | 0, hj => simp at hj; subst hj; simp [Addr.add]
                            | 1, hj => simp at hj; subst hj; simp [Addr.add]
                          case m2 => intro u hu; simp at hu; rcases hu with rfl | rfl <;> rfl
                          case m3 => unfold maxLen; omega
                          case m4 => omega
                          case m5 => simp; omega
                          intro v5 w5 hown5 hgrow5 _
                          obtain ⟨ao5, cap5, rfl⟩ := own_form hown5
                          have hb5 : Below w0.heap.size wr w5 := ((Below.refl _ wr).alloc hsz0 _).grown hgrow5 (by simp; omega) (fun g hg => (HOZ.out.lt g hg).1)
                          have HB5 : Hid (Below w0.heap.size w0 w5) := HBz0.out.trans hb5
                          have hk5 : ∀ i, w5.cell? ⟨wo.heap.size, i, none⟩ = (wr.alloc (Obj.cells #[.int .i64 x0, .int .i64 x1] 27)).cell? ⟨wo.heap.size, i, none⟩ := fun i => grown_cell hgrow5 (by simp; omega) (fun g hg e => by
                            have := (HOWN.out.lt g hg).2
                            omega) i
                          have l2' := (hk5 2).trans (cell_later ((Below.refl _ wr).alloc (Nat.le_refl _) _) l2)
                          have l3' := (hk5 3).trans (cell_later ((Below.refl _ wr).alloc (Nat.le_refl _) _) l3)
                          obtain ⟨b0', b1', b2'⟩ := HX.out.later HB5.out
                          have HO5 : Hid (w5.ownsRow w0.heap.size 27 2 (.slice ao5 (q + 1) cap5) (q + 1) (cellsG spoE U ++ [.int .i64 x0, .int .i64 x1])) := hown5
                          have hsz5 : w0.heap.size ≤ w5.heap.size := HB5.out.size
                          clear hb5 hk5 hgrow5 hown5 b0 b1 b2 l0 l1 l2 l3
                          go_wp2_with (at_builtin; refine wpList_append_own _ rfl _ _ 81 rfl w0.heap.size 27 i0 (.agg #[.int .i64 0, .int .i64 0]) 2 16 Tryd.underlying81 hi hz0 hz1 hz2 spo_zero (by decide) _ _ _ rfl (HO5.out.alloc _) ⟨w5.heap.size, 0, none⟩ 1 1 [.int .i64 x2, .int .i64 x3] rfl rfl ?k1 ?k2 ?k3 ?k4 ?k5 ?_)
                          case k1 =>
                            intro j u hj
                            match j, hj with
                            | 0, hj => simp at hj; subst hj; simp [Addr.add]
                            | 1, hj => simp at hj; subst hj; simp [Addr.add]
                          case k2 => intro u hu; simp at hu; rcases hu with rfl | rfl <;> rfl
                          case k3 => unfold maxLen; omega
                          case k4 => omega
                          case k5 => simp; omega
                          intro v6 w6 hown6 hgrow6 _
                          obtain ⟨ao6, cap6, rfl⟩ := own_form hown6
                          have hb6 : Below w0.heap.size w5 w6 := ((Below.refl _ w5).alloc hsz5 _).grown hgrow6 (by simp; omega) (fun g hg => (HO5.out.lt g hg).1)
                          have HB6 : Hid (Below w0.heap.size w0 w6) := HB5.out.trans hb6
                          have HO6 : Hid (w6.ownsRow w0.heap.size 27 2 (.slice ao6 (q + 1 + 1) cap6) (spsL (Ls.take (k + 1))).length (cellsG spoE (spsL (Ls.take (k + 1))))) := by
                            show World.ownsRow _ _ _ _ _ _ _
                            rw [HUN.out]
                            exact own_two HMU.out hown6
                          have HL1 : Hid (lkN S Ls [] = lkN S (Ls.drop (k + 1)) (spsL (Ls.take (k + 1)))) := by
                            show _ = _
                            rw [HL0.out, HUN.out]
                          clear hb6 hgrow6 hown6 b0' b1' b2' l2' l3'
                          go_wp2
                          go_roundw
                          case rel => exact ⟨k + 1, HK1.out, by go_num, HO6.out, HL1.out, HB6.out⟩
                          case measure =>
                            have := HK1.out
                            simp [intOf]
                            omega
            · obtain rfl : k = n := by omega
              have hU2 : U = spsL Ls := by
                rw [HU.out, ← HLN.out, List.take_length]
              have HM2 : Hid (T = hoN S Hs [] (spsL Ls)) := by
                show _ = _
                have e : lkN S Ls [] = 0 := by
                  rw [HLK.out, ← HLN.out, List.drop_length]
                  rfl
                rw [HM.out, if_pos e]
              subst hU2
              clear HLK HU HLA HM
              go_wp2
              go_loopw [3, 9] (fun u i wz => ∃ j : Nat, j ≤ n2 ∧ i = .int .i64 j ∧ wz.ownsRow w0.heap.size 27 2 u (spsL Ls ++ (Hs.take j).map (·.2)).length (cellsG spoE (spsL Ls ++ (Hs.take j).map (·.2))) ∧ T = hoN S (Hs.drop j) ((Hs.take j).map (·.1)) (spsL Ls ++ (Hs.take j).map (·.2)) ∧ Below w0.heap.size w0 wz) (fun _ i _ => n2 - (intOf i).toNat)
              case atStart => exact ⟨0, by omega, rfl, by simpa [HMU.out] using HOWN.out, by simpa using HM2.out, HBr.out⟩
              case round =>
                clear HMU HOWN HM2 HBr HBw HXr b0 b1 b2 hlw hlen
                obtain ⟨j, hj, rfl, hown, hTj, hBz⟩ := hrel
                obtain ⟨ao3, cap3, rfl⟩ := own_form hown
                obtain ⟨wp, hwp⟩ : ∃ x, x = wr := ⟨_, rfl⟩
                subst hwp
                have hn8 : n2 ≤ 8 := H8.out
                obtain ⟨U, hU⟩ : ∃ U, U = spsL Ls ++ (Hs.take j).map (·.2) := ⟨_, rfl⟩
                obtain ⟨N, hN⟩ : ∃ N, N = (Hs.take j).map (·.1) := ⟨_, rfl⟩
                have HU : Hid (U = spsL Ls ++ (Hs.take j).map (·.2)) := hU
                have HN : Hid (N = (Hs.take j).map (·.1)) := hN
                rw [← hU] at hown
                rw [← hU, ← hN] at hTj
                rw [← hU]
                have hlen : U.length ≤ 410 := by
                  rw [hU, List.length_append, sps_len, List.length_map, List.length_take]
                  have := HLN.out
                  omega
                obtain ⟨m, hm⟩ : ∃ m, m = U.length := ⟨_, rfl⟩
                have HMU : Hid (U.length = m) := hm.symm
                rw [← hm] at hown hlen
                rw [← hm]
                have HOWN : Hid (wp.ownsRow w0.heap.size 27 2 (.slice ao3 m cap3) m (cellsG spoE U)) := hown
                have HTJ : Hid (T = hoN S (Hs.drop j) N U) := hTj
                have HBr : Hid (Below w0.heap.size w0 wp) := hBz
                have HBw : Hid (Below w.heap.size w wp) := HB.out.trans (hBz.mono HB.out.size)
                have HXr : Hid (TBox wp w.heap.size S (.slice ao k cap) (.slice ao2 n2 cap2)) := HX.out.later hBz
                obtain ⟨b0, b1, b2⟩ := HXr.out
                have hlw : w.heap.size < wp.heap.size := World.block_lt_of_cell? _ _ b0
                clear hown hTj hBz hU hN hm
                by_cases hlt : j < n2
                · have HK1 : Hid (j + 1 ≤ n2) := hlt
                  obtain ⟨g, o, hao, hc, _⟩ := HHA.out (by omega)
                  subst hao
                  obtain ⟨y0, y1, y2, hkl, hHk, q0, q1, q2⟩ := hst_at (hc.later HBw.out) HHN.out hlt
                  have HHC : Hid (GAt hstE wp g o Hs) := hc.later HBw.out
                  have HTN : Hid (T = if ho1 S N U (y0, (y1, y2)) = 0 then hoN S (Hs.drop (j + 1)) (N ++ [y0]) (U ++ [(y1, y2)]) else ho1 S N U (y0, (y1, y2))) := by
                    show _ = _
                    rw [HTJ.out, List.drop_eq_getElem_cons hkl, ho_step, hHk]
                  have HT7 : Hid (ho1 S N U (y0, (y1, y2)) ≠ 0 → T = ho1 S N U (y0, (y1, y2))) := fun h => by
                    have e := HTN.out
                    rw [if_neg h] at e
                    exact e
                  have HUN : Hid (spsL Ls ++ (Hs.take (j + 1)).map (·.2) = U ++ [(y1, y2)]) := by
                    show _ = _
                    rw [List.take_succ_eq_append_getElem hkl, List.map_append, hHk, HU.out, List.append_assoc]
                    rfl
                  have HNN : Hid ((Hs.take (j + 1)).map (·.1) = N ++ [y0]) := by
                    show _ = _
                    rw [List.take_succ_eq_append_getElem hkl, List.map_append, hHk, HN.out]
                    rfl
                  have HBA : Hid (Below wp.heap.size wp (wp.alloc (Obj.cells #[Value.string y0, Value.int IntKind.i64 y1, Value.int IntKind.i64 y2] 38))) := (Below.refl _ _).alloc (Nat.le_refl _) _
                  have HVA : Hid (VAt (wp.alloc (Obj.cells #[Value.string y0, Value.int IntKind.i64 y1, Value.int IntKind.i64 y2] 38)) wp.heap.size 0 (hstE.c (y0, (y1, y2)))) := hst_new wp y0 y1 y2 38
                  clear hHk hc
                  go_wp2_with fail
                  refine (rname_any y0 _).mono ?_
                  rintro e w2 ⟨rfl, hw2⟩
                  subst hw2
                  obtain ⟨w2, hw2⟩ : ∃ W, wp.alloc (Obj.cells #[Value.string y0, Value.int IntKind.i64 y1, Value.int IntKind.i64 y2] 38) = W := ⟨_, rfl⟩
                  rw [hw2] at HBA HVA ⊢
                  have HB2w : Hid (Below w.heap.size w w2) := HBw.out.trans (HBA.out.mono HBw.out.size)
                  obtain ⟨b0, b1, b2⟩ := HXr.out.later HBA.out
                  obtain ⟨l0, l1, l2⟩ := hst_cells HVA.out
                  simp only [Nat.zero_add] at l0 l1 l2
                  clear hw2 q0 q1 q2
                  cases hna : nmB y0
                  · have HT1 : Hid (T = 2) := by
                      have e : ho1 S N U (y0, (y1, y2)) = 2 := by simp [ho1, hna]
                      have := HT7.out (by rw [e]; decide)
                      rw [e] at this
                      exact this
                    go_wp2
                    go_ret
                    exact ⟨by rw [HT1.out]; rfl, HB2w.out⟩
                  · go_wp2_with fail
                    refine (rspot_any S ao k cap (some ⟨g, o, none⟩) n2 cap2 y1 y2 _).mono ?_
                    rintro e w3 ⟨rfl, hb3⟩
                    have hB3 : Below wp.heap.size wp w3 := HBA.out.trans (hb3.mono HBA.out.size)
                    have HB3 : Hid (Below wp.heap.size wp w3) := hB3
                    have HB3w : Hid (Below w.heap.size w w3) := HBw.out.trans (hB3.mono HBw.out.size)
                    have HV3 : Hid (VAt w3 wp.heap.size 0 (hstE.c (y0, (y1, y2)))) := HVA.out.later hb3
                    obtain ⟨b0, b1, b2⟩ := HXr.out.later hB3
                    obtain ⟨l0, l1, l2⟩ := hst_cells HV3.out
                    simp only [Nat.zero_add] at l0 l1 l2
                    clear hb3 hB3 HBA HVA HB2w
                    cases hsp : spB S (y1, y2)
                    · have HT1 : Hid (T = 1) := by
                        have e : ho1 S N U (y0, (y1, y2)) = 1 := by simp [ho1, hna, hsp]
                        have := HT7.out (by rw [e]; decide)
                        rw [e] at this
                        exact this
                      go_wp2
                      go_ret
                      exact ⟨by rw [HT1.out]; rfl, HB3w.out⟩
                    · have HL7 : Hid (ho1 S N U (y0, (y1, y2)) = if (N.any fun n => n == y0) || (U.any fun u => u == (y1, y2)) then 7 else 0) := by
                        show _ = _
                        simp only [ho1, hna, hsp, if_true]
                      have HNL : Hid (N.length = j) := by
                        show _ = _
                        rw [HN.out, List.length_map, List.length_take, HHN.out]
                        omega
                      have HNQ : Hid (∀ q (h1 : q < N.length) (h2 : q < Hs.length), N[q] = (Hs[q]).1) := fun q h1 h2 => by
                        have e := HN.out
                        subst e
                        simp
                      obtain ⟨_, _, _, e5, hUn, hUm, _, hUa⟩ := (own_GS (E := spoE) (L := U) (by rw [HMU.out]; exact HOWN.out) : GS spoE wp (.slice ao3 m cap3) U).form
                      cases e5
                      have HUA : Hid (0 < m → ∃ g o, ao3 = some ⟨g, o, none⟩ ∧ GAt spoE wp g o U ∧ cap3 ≤ maxLen) := hUa
                      clear hUn hUm hUa b0 b1 b2 l0 l1 l2
                      go_wp2
                      go_loopw [13] (fun i wz => ∃ q : Nat, q ≤ j ∧ i = .int .i64 q ∧ (N.take q).any (fun n => n == y0) = false ∧ Below w3.heap.size w3 wz) (fun i _ => j - (intOf i).toNat)
                      case atStart => exact ⟨0, by omega, rfl, by simp, Below.refl _ _⟩
                      case round =>
                        obtain ⟨q, hq, rfl, hno, hBz⟩ := hrel
                        obtain ⟨wn, hwn⟩ : ∃ x, x = wr := ⟨_, rfl⟩
                        subst hwn
                        have HNO : Hid ((N.take q).any (fun n => n == y0) = false) := hno
                        have HBz : Hid (Below wp.heap.size wp wn) := HB3.out.trans (hBz.mono HB3.out.size)
                        have HBc : Hid (Below w3.heap.size w3 wn) := hBz
                        have HBzw : Hid (Below w.heap.size w wn) := HBw.out.trans (HBz.out.mono HBw.out.size)
                        obtain ⟨b0, b1, b2⟩ := HXr.out.later HBz.out
                        have HVz : Hid (VAt wn wp.heap.size 0 (hstE.c (y0, (y1, y2)))) := HV3.out.later hBz
                        obtain ⟨l0, l1, l2⟩ := hst_cells HVz.out
                        simp only [Nat.zero_add] at l0 l1 l2
                        have hll : wp.heap.size < wn.heap.size := World.block_lt_of_cell? _ _ l0
                        have hlw : w.heap.size < wn.heap.size := World.block_lt_of_cell? _ _ b0
                        clear hno hBz
                        by_cases hqj : q < j
                        · obtain ⟨z0, z1, z2, hql, hHq, p0, p1, p2⟩ := hst_at (HHC.out.later HBz.out) HHN.out (show q < n2 by omega)
                          have hqN : q < N.length := by rw [HNL.out]; exact hqj
                          have hNq : N[q] = z0 := by rw [HNQ.out q hqN hql, hHq]
                          have qb0 : (0 : Int) ≤ (q : Int) := by omega
                          have qb1 : (q : Int) < (n2 : Int) := by omega
                          have hgl3 : g < wn.heap.size := World.block_lt_of_cell? _ _ p0
                          have HHIT : Hid ((z0 == y0) = true → T = 7) := fun hy => by
                            have e : ho1 S N U (y0, (y1, y2)) = 7 := by
                              rw [HL7.out, any_hitG hqN (by rw [hNq]; exact hy)]
                              rfl
                            have := HT7.out (by rw [e]; decide)
                            rw [e] at this
                            exact this
                          have HNXT : Hid ((z0 == y0) = false → (N.take (q + 1)).any (fun n => n == y0) = false) := fun hy => any_nextG hqN HNO.out (by rw [hNq]; exact hy)
                          have hbe := beq_toListBytes z0 y0
                          clear hHq hNq
                          cases hz : (z0 == y0)
                          · have HN1 : Hid ((N.take (q + 1)).any (fun n => n == y0) = false) := HNXT.out hz
                            rw [hbe] at hz
                            clear hbe
                            go_wp2_with fail
                            go_quiet (fail)
                            go_wp2
                            go_roundw
                            case rel => exact ⟨q + 1, by omega, by go_num, HN1.out, HBc.out.trans ((below_drewN _ _).mono HBc.out.size)⟩
                            case measure => simp [intOf]; omega
                          · have HT1 : Hid (T = 7) := HHIT.out hz
                            rw [hbe] at hz
                            clear hbe
                            go_wp2_with fail
                            go_quiet (fail)
                            go_wp2
                            go_ret
                            exact ⟨by rw [HT1.out]; rfl, HBzw.out.trans ((below_drewN _ _).mono HBzw.out.size)⟩
                        · obtain rfl : q = j := by omega
                          have HAN : Hid ((N.any fun n => n == y0) = false) := by
                            have := HNO.out
                            rw [← HNL.out] at this
                            exact any_take this
                          have HL8 : Hid (ho1 S N U (y0, (y1, y2)) = if (U.any fun u => u == (y1, y2)) then 7 else 0) := by
                            show _ = _
                            rw [HL7.out, HAN.out, Bool.false_or]
                          clear b0 b1 b2 l0 l1 l2
                          go_wp2
                          go_loopw [14] (fun i wz => ∃ q : Nat, q ≤ m ∧ i = .int .i64 q ∧ (U.take q).any (fun u => u == (y1, y2)) = false ∧ Below wn.heap.size wn wz) (fun i _ => m - (intOf i).toNat)
                          case atStart => exact ⟨0, by omega, rfl, by simp, Below.refl _ _⟩
                          case round =>
                            obtain ⟨r, hr, rfl, hno, hBy⟩ := hrel
                            have HNO2 : Hid ((U.take r).any (fun u => u == (y1, y2)) = false) := hno
                            have HBy : Hid (Below wp.heap.size wp wr) := HBz.out.trans (hBy.mono HBz.out.size)
                            have HBcy : Hid (Below wn.heap.size wn wr) := hBy
                            have HByw : Hid (Below w.heap.size w wr) := HBw.out.trans (HBy.out.mono HBw.out.size)
                            obtain ⟨b0, b1, b2⟩ := HXr.out.later HBy.out
                            have HVy : Hid (VAt wr wp.heap.size 0 (hstE.c (y0, (y1, y2)))) := HVz.out.later hBy
                            obtain ⟨l0, l1, l2⟩ := hst_cells HVy.out
                            simp only [Nat.zero_add] at l0 l1 l2
                            have hll : wp.heap.size < wr.heap.size := World.block_lt_of_cell? _ _ l0
                            clear hno hBy
                            by_cases hrm : r < m
                            · obtain ⟨g3, o3, hao3, hc3, _⟩ := HUA.out (by omega)
                              subst hao3
                              obtain ⟨v0, v1, hql, hUq, p0, p1⟩ := spo_at (hc3.later HBy.out) HMU.out hrm
                              have HUQ : Hid (U[r] = (v0, v1)) := hUq
                              have qb0 : (0 : Int) ≤ (r : Int) := by omega
                              have qb1 : (r : Int) < (m : Int) := by omega
                              have hgl3 : g3 < wr.heap.size := World.block_lt_of_cell? _ _ p0
                              have HHIT : Hid ((v0 == y1 && v1 == y2) = true → T = 7) := fun hy => by
                                have e : ho1 S N U (y0, (y1, y2)) = 7 := by
                                  rw [HL8.out, any_hitG hql (by rw [HUQ.out]; exact hy)]
                                  rfl
                                have := HT7.out (by rw [e]; decide)
                                rw [e] at this
                                exact this
                              have HNXT : Hid ((v0 == y1 && v1 == y2) = false → (U.take (r + 1)).any (fun u => u == (y1, y2)) = false) := fun hy => any_nextG hql HNO2.out (by rw [HUQ.out]; exact hy)
                              clear hc3 hUq
                              rcases eq2_ways v0 v1 y1 y2 with ⟨f0, f1, f2⟩ | ⟨f0, f1, f2⟩ | ⟨f0, f1⟩
                              · have HT1 : Hid (T = 7) := HHIT.out f0
                                go_wp2_with fail
                                go_quiet (fail)
                                go_wp2
                                go_ret
                                exact ⟨by rw [HT1.out]; rfl, HByw.out.trans ((below_drewN _ _).mono HByw.out.size)⟩
                              · have HN1 : Hid ((U.take (r + 1)).any (fun u => u == (y1, y2)) = false) := HNXT.out f0
                                go_wp2_with fail
                                go_quiet (fail)
                                go_wp2
                                go_roundw
                                case rel => exact ⟨r + 1, by omega, by go_num, HN1.out, HBcy.out.trans ((below_drewN _ _).mono HBcy.out.size)⟩
                                case measure => simp [intOf]; omega
                              · have HN1 : Hid ((U.take (r + 1)).any (fun u => u == (y1, y2)) = false) := HNXT.out f0
                                go_wp2_with fail
                                go_quiet (fail)
                                go_wp2
                                go_roundw
                                case rel => exact ⟨r + 1, by omega, by go_num, HN1.out, HBcy.out.trans ((below_drewN _ _).mono HBcy.out.size)⟩
                                case measure => simp [intOf]; omega
                            · obtain rfl : r = m := by omega
                              have HT0 : Hid (T = hoN S (Hs.drop (q + 1)) ((Hs.take (q + 1)).map (·.1)) (spsL Ls ++ (Hs.take (q + 1)).map (·.2))) := by
                                show _ = _
                                have e : ho1 S N U (y0, (y1, y2)) = 0 := by
                                  have h2 := HNO2.out
                                  rw [← HMU.out] at h2
                                  rw [HL8.out, any_take h2]
                                  rfl
                                rw [HTN.out, if_pos e, HUN.out, HNN.out]
                              have HOZ : Hid (wr.ownsRow w0.heap.size 27 2 (.slice ao3 r cap3) r (cellsG spoE U)) := own_below HOWN.out HBy.out
                              have HBz0 : Hid (Below w0.heap.size w0 wr) := HBr.out.trans (HBy.out.mono HBr.out.size)
                              have hsz0 : w0.heap.size ≤ wr.heap.size := HBz0.out.size
                              go_wp2_with (at_builtin; refine wpList_append_own _ rfl _ _ 81 rfl w0.heap.size 27 i0 (.agg #[.int .i64 0, .int .i64 0]) 2 16 Tryd.underlying81 hi hz0 hz1 hz2 spo_zero (by decide) _ _ _ rfl (HOZ.out.alloc _) ⟨wr.heap.size, 0, none⟩ 1 1 [.int .i64 y1, .int .i64 y2] rfl rfl ?n1 ?n2 ?n3 ?n4 ?n5 ?_)
                              case n1 =>
                                intro j u hj
                                match j, hj with
                                | 0, hj => simp at hj; subst hj; simp [Addr.add]
                                | 1, hj => simp at hj; subst hj; simp [Addr.add]
                              case n2 => intro u hu; simp at hu; rcases hu with rfl | rfl <;> rfl
                              case n3 => unfold maxLen; omega
                              case n4 => omega
                              case n5 => simp; omega
                              intro v5 w5 hown5 hgrow5 _
                              obtain ⟨ao5, cap5, rfl⟩ := own_form hown5
                              have hb5 : Below w0.heap.size wr w5 := ((Below.refl _ wr).alloc hsz0 _).grown hgrow5 (by simp; omega) (fun g hg => (HOZ.out.lt g hg).1)
                              have HB5 : Hid (Below w0.heap.size w0 w5) := HBz0.out.trans hb5
                              have HO5 : Hid (w5.ownsRow w0.heap.size 27 2 (.slice ao5 (r + 1) cap5) (spsL Ls ++ (Hs.take (q + 1)).map (·.2)).length (cellsG spoE (spsL Ls ++ (Hs.take (q + 1)).map (·.2)))) := by
                                show World.ownsRow _ _ _ _ _ _ _
                                rw [HUN.out]
                                exact own_one1 HMU.out hown5
                              clear hb5 hgrow5 hown5 b0 b1 b2 l0 l1 l2
                              go_wp2
                              go_roundw
                              case rel => exact ⟨q + 1, HK1.out, by go_num, HO5.out, HT0.out, HB5.out⟩
                              case measure =>
                                have := HK1.out
                                simp [intOf]
                                omega
                · obtain rfl : j = n2 := by omega
                  have HT0 : Hid (T = 0) := by
                    show _ = _
                    rw [HTJ.out, ← HHN.out, List.drop_length]
                    rfl
                  go_wp2
                  go_ret
                  exact ⟨by rw [HT0.out]; rfl, HBw.out⟩
        · have s1 : decide (S < 1) = false := by simp; omega
          have s2 : decide (6 < S) = false := by simp; omega
          have s3 : decide (200 < (n : Int)) = false := by simp; omega
          have s4 : decide (8 < (n2 : Int)) = true := by simp; omega
          have HTE : Hid (T = 4) := by
            show _ = _
            have e1 : (decide (1 ≤ S) && decide (S ≤ 6)) = true := by simp [h1, h6]
            have e2 : (decide (Ls.length ≤ 200) && decide (Hs.length ≤ 8)) = false := by simp [hLn, hHn, h2]; omega
            rw [hT, tpN, if_pos e1, e2]
            rfl
          clear hX hB HT hT hL hH hLn hHn hLm hHm hLa hHa h1 h6 h2 h8
          go_enter Tryd.func7, Tryd.ntmps7
          go_wp2
          go_ret
          exact ⟨by rw [HTE.out]; rfl, HB0'.out⟩
      · have s1 : decide (S < 1) = false := by simp; omega
        have s2 : decide (6 < S) = false := by simp; omega
        have s3 : decide (200 < (n : Int)) = true := by simp; omega
        have HTE : Hid (T = 4) := by
          show _ = _
          have e1 : (decide (1 ≤ S) && decide (S ≤ 6)) = true := by simp [h1, h6]
          have e2 : (decide (Ls.length ≤ 200) && decide (Hs.length ≤ 8)) = false := by simp [hLn]; omega
          rw [hT, tpN, if_pos e1, e2]
          rfl
        clear hX hB HT hT hL hH hLn hHn hLm hHm hLa hHa h1 h6 h2
        go_enter Tryd.func7, Tryd.ntmps7
        go_wp2
        go_ret
        exact ⟨by rw [HTE.out]; rfl, HB0'.out⟩
    · have s1 : decide (S < 1) = false := by simp; omega
      have s2 : decide (6 < S) = true := by simp; omega
      have HTE : Hid (T = 1) := by
        show _ = _
        have e1 : (decide (1 ≤ S) && decide (S ≤ 6)) = false := by simp; omega
        rw [hT, tpN, e1]
        rfl
      clear hX hB HT hT hL hH hLn hHn hLm hHm hLa hHa h1 h6
      go_enter Tryd.func7, Tryd.ntmps7
      go_wp2
      go_ret
      exact ⟨by rw [HTE.out]; rfl, HB0'.out⟩
  · have s1 : decide (S < 1) = true := by simp; omega
    have HTE : Hid (T = 1) := by
      show _ = _
      have e1 : (decide (1 ≤ S) && decide (S ≤ 6)) = false := by simp; omega
      rw [hT, tpN, e1]
      rfl
    clear hX hB HT hT hL hH hLn hHn hLm hHm hLa hHa h1
    go_enter Tryd.func7, Tryd.ntmps7
    go_wp2
    go_ret
    exact ⟨by rw [HTE.out]; rfl, HB0'.out⟩
end Go.Proofs.YtfbocionnjlilacDoor
