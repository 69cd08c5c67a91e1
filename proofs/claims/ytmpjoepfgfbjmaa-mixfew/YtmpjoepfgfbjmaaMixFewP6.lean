/- Contracts and facts on the way to MixFew, joined into one text: NetStep1, TopoSpot, TopoPeers, TopoPeer, SlHop, HopHas, SlHost, OwnRow, OwnInts, NetLeg, StLeg, RuleOf. -/
import Derived.Test.YtmpjoepfgfbjmaaMixFewP5
import Derived.Test.YtmpjoepfgfbjmaaMixFewP4
import Derived.Test.YtmpjoepfgfbjmaaMixFewP2
import Derived.Test.YtmpjoepfgfbjmaaMixFewP3
import Derived.BigRegion
import Derived.Deep.RegionWith
import Derived.Deep.CutRange
import Derived.Deep.CutBlock
import Derived.Carry
import Derived.WalkKit
import Derived.WalkSpells
import Derived.Below
import Derived.Shelf.Abstract
import Derived.Test.YtmpjoepfgfbjmaaRows
import Derived.Lib.SmallJoins
import Derived.Laws.StructEq
import Derived.Maps.OwnOps
import Derived.ProofKit
import Derived.OpenShut
import Derived.ChangeOld
/- What net.step answers: a contract for the walks above it. -/
namespace Go.Proofs.Ytmpjoepfgfbjmaa
open Go.RowKit
set_option linter.unusedSimpArgs false
set_option linter.unusedVariables false

theorem st_a {t : List Ru} {x y h : Int} (e : luN t h ≠ 0) : stT t ((x, y), h) = none := if_neg e
theorem st_b {t : List Ru} {x y h p m b o s v : Int} (e : luN t h = 0) (hr : roR t h = ⟨p, m, b, o, s, v⟩) (ha : apN p m b o s v h ≠ 0) : stT t ((x, y), h) = none := by
  unfold stT
  simp only
  rw [if_pos e, hr]
  exact if_neg ha
theorem st_c {t : List Ru} {x y h p m b o s v : Int} (e : luN t h = 0) (hr : roR t h = ⟨p, m, b, o, s, v⟩) (ha : apN p m b o s v h = 0) : stT t ((x, y), h) = some ((x, o), apR p m b o s v h) := by
  unfold stT
  simp only
  rw [if_pos e, hr]
  exact if_pos ha
/-- The three boxes: a net, a hop, the answer's. -/
def sbox (w : World) (S : Int) (v1 v2 v3 : Value) (x y h : Int) : World := ((w.alloc (Obj.cells #[.int .i64 S, v1, v2, v3] 28)).alloc (Obj.cells #[.int .i64 x, .int .i64 y, .int .i64 h] 55)).alloc (Obj.cells #[.int .i64 0, .int .i64 0, .int .i64 0] 55)
structure SBox (w W : World) (S : Int) (v1 v2 v3 : Value) (x y h : Int) : Prop where
  below : Below w.heap.size w W
  n : NeBox W w.heap.size S v1 v2 v3
  i0 : W.cell? ⟨w.heap.size + 1, 0, none⟩ = some (.int .i64 x)
  i1 : W.cell? ⟨w.heap.size + 1, 1, none⟩ = some (.int .i64 y)
  i2 : W.cell? ⟨w.heap.size + 1, 2, none⟩ = some (.int .i64 h)
  r0 : W.cell? ⟨w.heap.size + 1 + 1, 0, none⟩ = some (.int .i64 0)
  r1 : W.cell? ⟨w.heap.size + 1 + 1, 1, none⟩ = some (.int .i64 0)
  r2 : W.cell? ⟨w.heap.size + 1 + 1, 2, none⟩ = some (.int .i64 0)
  f : ∀ i, W.frozen? ⟨w.heap.size + 1 + 1, i, none⟩ = false
theorem sbox_new (w : World) (S : Int) (v1 v2 v3 : Value) (x y h : Int) : SBox w (sbox w S v1 v2 v3 x y h) S v1 v2 v3 x y h := by
  have e1 : (w.alloc (Obj.cells #[.int .i64 S, v1, v2, v3] 28)).heap.size = w.heap.size + 1 := by simp
  have e2 : ((w.alloc (Obj.cells #[.int .i64 S, v1, v2, v3] 28)).alloc (Obj.cells #[.int .i64 x, .int .i64 y, .int .i64 h] 55)).heap.size = w.heap.size + 1 + 1 := by simp
  have hb : ∀ (W : World) (o : Obj), Below W.heap.size W (W.alloc o) := fun W o => (Below.refl _ _).alloc (Nat.le_refl _) _
  have hs := (vat_new (w.alloc (Obj.cells #[.int .i64 S, v1, v2, v3] 28)) [.int .i64 x, .int .i64 y, .int .i64 h] 55).later (hb _ (Obj.cells #[.int .i64 0, .int .i64 0, .int .i64 0] 55))
  rw [e1] at hs
  have hr := vat_new ((w.alloc (Obj.cells #[.int .i64 S, v1, v2, v3] 28)).alloc (Obj.cells #[.int .i64 x, .int .i64 y, .int .i64 h] 55)) [.int .i64 0, .int .i64 0, .int .i64 0] 55
  rw [e2] at hr
  have hf : ∀ k, (sbox w S v1 v2 v3 x y h).frozen? ⟨((w.alloc (Obj.cells #[.int .i64 S, v1, v2, v3] 28)).alloc (Obj.cells #[.int .i64 x, .int .i64 y, .int .i64 h] 55)).heap.size, k, none⟩ = false := fun k => by
    unfold sbox
    generalize (w.alloc (Obj.cells #[.int .i64 S, v1, v2, v3] 28)).alloc (Obj.cells #[.int .i64 x, .int .i64 y, .int .i64 h] 55) = X
    simp
  rw [e2] at hf
  exact ⟨(((Below.refl _ _).alloc (Nat.le_refl _) _).alloc (by rw [e1]; omega) _).alloc (by rw [e2]; omega) _, ((nebox_new w S v1 v2 v3 28).later (hb _ _)).later (hb _ _), hs 0 _ rfl, hs 1 _ rfl, hs 2 _ rfl, hr 0 _ rfl, hr 1 _ rfl, hr 2 _ rfl, hf⟩
theorem SBox.later {w W W' : World} {S : Int} {v1 v2 v3 : Value} {x y h : Int} (k : SBox w W S v1 v2 v3 x y h) (hb : Below W.heap.size W W') : SBox w W' S v1 v2 v3 x y h :=
  ⟨k.below.trans (hb.mono k.below.size), k.n.later hb, cell_later hb k.i0, cell_later hb k.i1, cell_later hb k.i2, cell_later hb k.r0, cell_later hb k.r1, cell_later hb k.r2, fun i => (hb.frozen (p := ⟨w.heap.size + 1 + 1, i, none⟩) (show (⟨w.heap.size + 1 + 1, 0, none⟩ : Addr).block < W.heap.size from World.block_lt_of_cell? W ⟨w.heap.size + 1 + 1, 0, none⟩ k.r0)).trans (k.f i)⟩
theorem below_three {w W : World} (h : Below w.heap.size w W) (g : Nat) (hg : w.heap.size ≤ g) (u v x : Value) : Below w.heap.size w (((W.setCell ⟨g, 0, none⟩ u).setCell ⟨g, 1, none⟩ v).setCell ⟨g, 2, none⟩ x) := ((h.setCell (p := ⟨g, 0, none⟩) hg u).setCell (p := ⟨g, 1, none⟩) hg v).setCell (p := ⟨g, 2, none⟩) hg x

set_option maxHeartbeats 4000000 in
set_option maxRecDepth 100000 in
theorem step_any (S : Int) (ao : Option Addr) (n cap : Nat) (ao2 : Option Addr) (n2 cap2 : Nat) (ao3 : Option Addr) (n3 cap3 : Nat) (Ts : List (List Ru)) (x y h : Int) (w : World)
    (hT : TS w (.slice ao3 n3 cap3) Ts) (hG : ∀ k, k < Ts.length → tbN (Ts.getD k []) = 0) (h1 : 1 ≤ x) (h2 : x ≤ (n3 : Int)) (h6 : n3 ≤ 6) :
    Calls Try.prog 60 #[.agg #[.int .i64 S, .slice ao n cap, .slice ao2 n2 cap2, .slice ao3 n3 cap3], .agg #[.int .i64 x, .int .i64 y, .int .i64 h]] w fun e w' => e = .returned (.tuple #[.agg #[.int .i64 ((stO Ts ((x, y), h)).getD zeH).1.1, .int .i64 ((stO Ts ((x, y), h)).getD zeH).1.2, .int .i64 ((stO Ts ((x, y), h)).getD zeH).2], .bool (stO Ts ((x, y), h)).isSome]) ∧ Below w.heap.size w w' := by
  obtain ⟨k, rfl⟩ : ∃ k : Nat, x = (k : Int) + 1 := ⟨(x - 1).toNat, by omega⟩
  have hk : k < n3 := by omega
  obtain ⟨_, _, _, e1, hTn, hTm, _, hTa⟩ := hT.form
  cases e1
  obtain ⟨g, o, rfl, hc, _⟩ := hTa (by omega)
  have hX := sbox_new w S (.slice ao n cap) (.slice ao2 n2 cap2) (.slice (some ⟨g, o, none⟩) n3 cap3) ((k : Int) + 1) y h
  obtain ⟨a4, n4, c4, q0, hs⟩ := (hc.later hX.below) k (by rw [hTn]; exact hk)
  obtain ⟨t, ht⟩ : ∃ t, t = Ts.getD k [] := ⟨_, rfl⟩
  have hs2 : SR (sbox w S (.slice ao n cap) (.slice ao2 n2 cap2) (.slice (some ⟨g, o, none⟩) n3 cap3) ((k : Int) + 1) y h) (.slice a4 n4 c4) t := by
    rw [ht, getT (by rw [hTn]; exact hk)]
    exact hs
  have HTB : Hid (tbN t = 0) := by
    show _ = _
    rw [ht]
    exact hG k (by rw [hTn]; exact hk)
  have HST : Hid (stO Ts (((k : Int) + 1, y), h) = stT t (((k : Int) + 1, y), h)) := by
    show _ = _
    unfold stO taT
    simp only
    rw [ht]
    congr 2
    omega
  obtain ⟨A, hA⟩ : ∃ A, A = stO Ts (((k : Int) + 1, y), h) := ⟨_, rfl⟩
  have HA : Hid (A = stT t (((k : Int) + 1, y), h)) := hA.trans HST.out
  rw [← hA]
  obtain ⟨w0, hw0⟩ : ∃ W, W = sbox w S (.slice ao n cap) (.slice ao2 n2 cap2) (.slice (some ⟨g, o, none⟩) n3 cap3) ((k : Int) + 1) y h := ⟨_, rfl⟩
  rw [← hw0] at hX q0 hs2
  have HX : Hid (SBox w w0 S (.slice ao n cap) (.slice ao2 n2 cap2) (.slice (some ⟨g, o, none⟩) n3 cap3) ((k : Int) + 1) y h) := hX
  have HS : Hid (SR w0 (.slice a4 n4 c4) t) := hs2
  have HW0 : Hid (((w.alloc (Obj.cells #[.int .i64 S, .slice ao n cap, .slice ao2 n2 cap2, .slice (some ⟨g, o, none⟩) n3 cap3] 28)).alloc (Obj.cells #[.int .i64 ((k : Int) + 1), .int .i64 y, .int .i64 h] 55)).alloc (Obj.cells #[.int .i64 0, .int .i64 0, .int .i64 0] 55) = w0) := hw0.symm
  have hw : IntKind.i64.wrap ((k : Int) + 1 - 1) = (k : Int) := by rw [show (k : Int) + 1 - 1 = (k : Int) from by omega]; exact wrap_small (by omega) (by omega)
  have kb0 : (0 : Int) ≤ (k : Int) := by omega
  have kb1 : (k : Int) < (n3 : Int) := by omega
  clear hT hTn hTm hTa hc hs hs2 hX hA HST hw0 ht hG
  go_enter Try.func60, Try.ntmps60
  go_upto_region 1 with fail
  rw [HW0.out]
  obtain ⟨_, ⟨b0, b1, b2, b3⟩, i0, i1, i2, r0, r1, r2, f⟩ := HX.out
  clear HW0 f r0 r1 r2
  go_wp2_with fail
  refine (counting_any (.slice a4 n4 c4) t h _ HS.out).mono ?_
  rintro e w1 ⟨rfl, hb1⟩
  have HX1 : Hid (SBox w w1 S (.slice ao n cap) (.slice ao2 n2 cap2) (.slice (some ⟨g, o, none⟩) n3 cap3) ((k : Int) + 1) y h) := HX.out.later hb1
  have HS1 : Hid (SR w1 (.slice a4 n4 c4) t) := HS.out.later hb1
  obtain ⟨I, hI⟩ : ∃ I, I = beTo t h t.length := ⟨_, rfl⟩
  have HI : Hid (I = beTo t h t.length) := hI
  rw [← hI]
  clear hI hb1 HX HS b0 b1 b2 b3 i0 i1 i2 q0
  by_cases h0 : I < 0
  · have HA2 : Hid (A = none) := by
      show _ = _
      rw [HA.out, st_a (fun e => by have := (lu_0.1 e).2.2; rw [← HI.out] at this; omega)]
    obtain ⟨hB2, ⟨b0, b1, b2, b3⟩, i0, i1, i2, r0, r1, r2, f⟩ := HX1.out
    have HB2 : Hid (Below w.heap.size w w1) := hB2
    have f0 := f 0
    have f1 := f 1
    have f2 := f 2
    clear f hB2
    go_wp2
    refine bodyPost_ret (v := .tuple #[.agg #[.int .i64 0, .int .i64 0, .int .i64 0], .bool false]) (by simp [results, Try.results60, go_sem, *]) rfl ⟨by rw [HA2.out]; rfl, below_three HB2.out _ (by omega) _ _ _⟩
  · have hbd := be_bd t h t.length
    obtain ⟨j, rfl⟩ : ∃ j : Nat, I = (j : Int) := ⟨I.toNat, by omega⟩
    have hjl : j < t.length := by
      have := HI.out
      omega
    obtain ⟨_, _, _, e4, hn4, hm4, _, ha4⟩ := HS1.out.form
    cases e4
    obtain ⟨g4, o4, rfl, hc4, _⟩ := ha4 (by omega)
    have hjn : j < n4 := by omega
    obtain ⟨p, m, b, q, s, v, hl, hLj, c0, c1, c2, c3, c4', c5⟩ := hc4.at hn4 hjn
    have HRO : Hid (luN t h = 0 → roR t h = ⟨p, m, b, q, s, v⟩) := by
      intro e
      rw [roR, luI, if_pos e, ← HI.out, Int.toNat_natCast, getD_at hjl, hLj]
    have HLT : Hid (hdrB h = true → luN t h = 0) := fun e => lu_0.2 ⟨HTB.out, e, by rw [← HI.out]; omega⟩
    have HC4 : Hid (RAt w1 g4 o4 t) := hc4
    have HN4 : Hid (t.length = n4) := hn4
    have HLJ : Hid (t[j] = ⟨p, m, b, q, s, v⟩) := hLj
    have jb0 : (0 : Int) ≤ (j : Int) := by omega
    have jb1 : (j : Int) < (n4 : Int) := by omega
    obtain ⟨_, ⟨b0, b1, b2, b3⟩, i0, i1, i2, r0, r1, r2, f⟩ := HX1.out
    have hlt4 : g4 < w1.heap.size := World.block_lt_of_cell? _ _ c0
    have hlt1 : w.heap.size + 1 < w1.heap.size := World.block_lt_of_cell? _ _ i0
    obtain ⟨V, hV⟩ : ∃ V, V = apR p m b q s v h := ⟨_, rfl⟩
    obtain ⟨N, hN⟩ : ∃ N, N = apN p m b q s v h := ⟨_, rfl⟩
    have HV : Hid (V = apR p m b q s v h) := hV
    have HN : Hid (N = apN p m b q s v h) := hN
    clear hV hN h0 hbd hn4 hm4 ha4 hc4 hLj f HI HTB r0 r1 r2
    go_upto_region 5 with fail
    go_cut [8, 9] from 26 to 35 (fun hd er w' => hd = .int .i64 V ∧ er = noV N ∧ Below w1.heap.size w1 w')
    case first =>
      go_region_with (go_at_call 77; refine (apply_any p m b q s v h _).mono ?_; rintro e w' ⟨rfl, hb⟩; rw [← HV.out, ← HN.out]; have HBX : Hid (Below w1.heap.size w1 w') := (Below.drew (Below.refl _ _)).trans (hb.mono (by simp)); clear hb)
      all_goals (go_wp2_with fail; go_meet)
      all_goals exact ⟨rfl, rfl, HBX.out⟩
    case rest =>
      obtain ⟨rfl, rfl, hbw⟩ := hcut
      have HX2 : Hid (SBox w wc S (.slice ao n cap) (.slice ao2 n2 cap2) (.slice (some ⟨g, o, none⟩) n3 cap3) ((k : Int) + 1) y h) := HX1.out.later hbw
      obtain ⟨p', m', b', q', s', v', hl', hLj', c0, c1, c2, c3, c4', c5⟩ := (HC4.out.later hbw).at HN4.out hjn
      rw [HLJ.out] at hLj'
      cases hLj'
      obtain ⟨hB2, ⟨b0, b1, b2, b3⟩, i0, i1, i2, r0, r1, r2, f⟩ := HX2.out
      have HB2 : Hid (Below w.heap.size w wc) := hB2
      have hlt4 : g4 < wc.heap.size := World.block_lt_of_cell? _ _ c0
      have hlt1 : w.heap.size + 1 < wc.heap.size := World.block_lt_of_cell? _ _ i0
      have hlt2 : w.heap.size + 1 + 1 < wc.heap.size := World.block_lt_of_cell? _ _ r0
      have f0 := f 0
      have f1 := f 1
      have f2 := f 2
      clear hbw f hB2 HX1 HC4
      by_cases h5 : N = 0
      · subst h5
        rw [no_ok rfl]
        have HA2 : Hid (A = some (((k : Int) + 1, q), V)) := by
          show _ = _
          have hl := HLT.out (ap_yes HN.out.symm).2.1
          rw [HA.out, st_c hl (HRO.out hl) HN.out.symm, HV.out]
        go_upto_region 8 with fail
        go_region
        all_goals
          go_wp2
          refine bodyPost_ret (v := .tuple #[.agg #[.int .i64 ((k : Int) + 1), .int .i64 q, .int .i64 V], .bool true]) (by simp [results, Try.results60, go_sem, *]) rfl ⟨by rw [HA2.out]; rfl, ?_⟩
          first
            | exact below_three (HB2.out.trans ((Below.drew (Below.refl _ _)).mono HB2.out.size)) _ (by omega) _ _ _
      · rw [no_ne h5]
        have HA2 : Hid (A = none) := by
          show _ = _
          by_cases hl : luN t h = 0
          · rw [HA.out, st_b hl (HRO.out hl) (by rw [← HN.out]; exact h5)]
          · rw [HA.out, st_a hl]
        clear h5
        go_wp2
        refine bodyPost_ret (v := .tuple #[.agg #[.int .i64 0, .int .i64 0, .int .i64 0], .bool false]) (by simp [results, Try.results60, go_sem, *]) rfl ⟨by rw [HA2.out]; rfl, below_three HB2.out _ (by omega) _ _ _⟩
end Go.Proofs.Ytmpjoepfgfbjmaa
/- What topo.checkSpot answers: a contract for the walks above it. -/
namespace Go.Proofs.Ytmpjoepfgfbjmaa
open Go.RowKit
set_option linter.unusedSimpArgs false
set_option linter.unusedVariables false

end Go.Proofs.Ytmpjoepfgfbjmaa
/- What topo.Peers answers: a contract for the walks above it. -/
namespace Go.Proofs.Ytmpjoepfgfbjmaa
open Go.RowKit
set_option linter.unusedSimpArgs false
set_option linter.unusedVariables false

/-- Spots as elements. -/
def veS (p : Int × Int) : Value := .agg #[.int .i64 p.1, .int .i64 p.2]
set_option maxHeartbeats 2000000 in
set_option maxRecDepth 100000 in
theorem peers_any (ao : Option Addr) (n cap : Nat) (Ls : List ((Int × Int) × (Int × Int))) (w : World) (hL : GS lnkE w (.slice ao n cap) Ls) (hd : (spsL Ls).Nodup) (h1000 : n ≤ 1000) :
    Calls Try.prog 35 #[.slice ao n cap] w fun e w' => ∃ B M, e = .returned (.map (some B)) ∧ MAt spotKey veS w' B M ∧ PM M Ls ∧ Below w.heap.size w w' := by
  obtain ⟨_, _, _, e1, hLn, hLm, _, hLa⟩ := hL.form
  cases e1
  have HLN : Hid (Ls.length = n) := hLn
  have HLA : Hid (0 < n → ∃ g o, ao = some ⟨g, o, none⟩ ∧ GAt lnkE w g o Ls ∧ cap ≤ maxLen) := hLa
  have HND : Hid ((spsL Ls).Nodup) := hd
  have hmk := run_makeMap (P := Try.prog) 97 w
  have HM1 : Hid (MAt spotKey veS (w.alloc (.map #[] 0)) w.heap.size []) := mat_new spotKey veS w
  clear hL hLn hLm hLa hd
  go_enter Try.func35, Try.ntmps35
  go_wp2
  obtain ⟨B, hB⟩ : ∃ x, w.heap.size = x := ⟨_, rfl⟩
  have HB : Hid (w.heap.size = B) := hB
  go_loopw [9] (fun i wr => ∃ k : Nat, k ≤ n ∧ i = .int .i64 k ∧ (∃ M, MAt spotKey veS wr w.heap.size M ∧ PM M (Ls.take k)) ∧ Below w.heap.size w wr) (fun i _ => n - (intOf i).toNat)
  case atStart => exact ⟨0, by omega, rfl, ⟨[], HM1.out, by simpa using pm_nil⟩, (Below.refl _ _).alloc (Nat.le_refl _) _⟩
  case round =>
    obtain ⟨k, hk, rfl, ⟨M, hM, hP⟩, hBw⟩ := hrel
    have HM : Hid (MAt spotKey veS wr w.heap.size M) := hM
    have HP : Hid (PM M (Ls.take k)) := hP
    have HBw : Hid (Below w.heap.size w wr) := hBw
    clear hB
    by_cases hlt : k < n
    · obtain ⟨g, o, hao, hc, _⟩ := HLA.out (by omega)
      subst hao
      obtain ⟨x0, x1, x2, x3, hkl, hLk, q0, q1, q2, q3⟩ := lnk_at (hc.later hBw) HLN.out hlt
      have HLk : Hid (Ls[k] = ((x0, x1), (x2, x3))) := hLk
      obtain ⟨W0, hW0⟩ : ∃ W0, wr.alloc (Obj.cells #[Value.int IntKind.i64 x0, Value.int IntKind.i64 x1, Value.int IntKind.i64 x2, Value.int IntKind.i64 x3] 58) = W0 := ⟨_, rfl⟩
      have hBA : Below wr.heap.size wr W0 := by
        rw [← hW0]
        exact (Below.refl _ _).alloc (Nat.le_refl _) _
      obtain ⟨c0, c1, c2, c3⟩ := lnk_cells (lnk_new wr x0 x1 x2 x3 58)
      simp only [Nat.zero_add] at c0 c1 c2 c3
      rw [hW0] at c0 c1 c2 c3
      have hM0 : MAt spotKey veS W0.drew w.heap.size M := hM.later hBA.drew
      obtain ⟨w3, hu1, hM3, hg3⟩ := run_update_M hM0 97 45 Try.underlying97 (x0, x1) (x2, x3)
      obtain ⟨w4, hu2, hM4, hg4⟩ := run_update_M hM3 97 45 Try.underlying97 (x2, x3) (x0, x1)
      have hlw : w.heap.size < wr.heap.size := hM.lt
      have hlW : wr.heap.size < W0.drew.heap.size := World.block_lt_of_cell? _ _ c0
      have hk3 : ∀ i, w3.cell? ⟨wr.heap.size, i, none⟩ = W0.cell? ⟨wr.heap.size, i, none⟩ := fun i => World.cell?_of_block (w := W0) (a := ⟨wr.heap.size, i, none⟩) (hg3.block wr.heap.size hlW (fun e => by simp only [Option.some.injEq] at e; omega))
      have d0 := (hk3 0).trans c0
      have d1 := (hk3 1).trans c1
      have d2 := (hk3 2).trans c2
      have d3 := (hk3 3).trans c3
      have v1 : (Instr.mapUpdate 97 (.map (some w.heap.size)) (.agg #[.int .i64 x0, .int .i64 x1]) (.agg #[.int .i64 x2, .int .i64 x3])).run Try.prog W0.drew = .ok () w3 := hu1
      have v2 : (Instr.mapUpdate 97 (.map (some w.heap.size)) (.agg #[.int .i64 x2, .int .i64 x3]) (.agg #[.int .i64 x0, .int .i64 x1])).run Try.prog w3 = .ok () w4 := hu2
      have HM4 : Hid (MAt spotKey veS w4 w.heap.size (mput sq (x2, x3) (x0, x1) (mput sq (x0, x1) (x2, x3) M))) := hM4
      have HP4 : Hid (PM (mput sq (x2, x3) (x0, x1) (mput sq (x0, x1) (x2, x3) M)) (Ls.take (k + 1))) := by
        have e : Ls.take (k + 1) = Ls.take k ++ [((x0, x1), (x2, x3))] := by rw [List.take_succ_eq_append_getElem hkl, hLk]
        show PM _ _
        rw [e]
        refine pm_put hP ?_
        rw [← e]
        exact sps_nd HND.out _
      have HB4 : Hid (Below w.heap.size w w4) := by
        have h0 : Below w.heap.size w W0.drew := (hBw.trans (hBA.mono hBw.size)).drew
        exact (h0.grown hg3 h0.size (fun j e => by cases e; exact Nat.le_refl _)).grown hg4 (Nat.le_trans h0.size hg3.size) (fun j e => by cases e; exact Nat.le_refl _)
      have kb0 : (0 : Int) ≤ (k : Int) := by omega
      have kb1 : (k : Int) < (n : Int) := by omega
      clear hk3 hlw hlW hu1 hu2 hM3 hM4 hg3 hg4 hM0 hM hP hc hLk hBw hBA
      go_upto_region 5 with fail
      clear q0 q1 q2 q3
      go_region
      go_wp2
      go_roundw
      case rel => exact ⟨k + 1, by omega, by go_num, ⟨_, HM4.out, HP4.out⟩, HB4.out⟩
      case measure => simp [intOf]; omega
    · obtain rfl : k = n := by omega
      clear hM hP hBw
      go_wp2
      go_ret
      exact ⟨_, M, rfl, HM.out, by have := HP.out; rw [← HLN.out, List.take_length] at this; exact this, HBw.out⟩
end Go.Proofs.Ytmpjoepfgfbjmaa
/- What topo.Peer answers: a contract for the walks above it. -/
namespace Go.Proofs.Ytmpjoepfgfbjmaa
open Go.RowKit
set_option linter.unusedSimpArgs false
set_option linter.unusedVariables false

/-- The three boxes of a call: a topology, a spot, the answer. -/
def pbox (w : World) (S : Int) (v1 v2 : Value) (x y : Int) : World := ((w.alloc (Obj.cells #[.int .i64 S, v1, v2] 25)).alloc (Obj.cells #[.int .i64 x, .int .i64 y] 45)).alloc (Obj.cells #[.int .i64 0, .int .i64 0] 45)
structure PBox (w W : World) (S : Int) (v1 v2 : Value) (x y : Int) : Prop where
  below : Below w.heap.size w W
  t : TBox W w.heap.size S v1 v2
  s0 : W.cell? ⟨w.heap.size + 1, 0, none⟩ = some (.int .i64 x)
  s1 : W.cell? ⟨w.heap.size + 1, 1, none⟩ = some (.int .i64 y)
  r0 : W.cell? ⟨w.heap.size + 1 + 1, 0, none⟩ = some (.int .i64 0)
  r1 : W.cell? ⟨w.heap.size + 1 + 1, 1, none⟩ = some (.int .i64 0)
  f : ∀ i, W.frozen? ⟨w.heap.size + 1 + 1, i, none⟩ = false
theorem froz_new2 (w : World) (cs : Array Value) (t : TypeId) (k : Nat) : (w.alloc (.cells cs t)).frozen? ⟨w.heap.size, k, none⟩ = false := by simp
theorem pbox_new (w : World) (S : Int) (v1 v2 : Value) (x y : Int) : PBox w (pbox w S v1 v2 x y) S v1 v2 x y := by
  have e1 : (w.alloc (Obj.cells #[.int .i64 S, v1, v2] 25)).heap.size = w.heap.size + 1 := by simp
  have e2 : ((w.alloc (Obj.cells #[.int .i64 S, v1, v2] 25)).alloc (Obj.cells #[.int .i64 x, .int .i64 y] 45)).heap.size = w.heap.size + 1 + 1 := by simp
  have hb : ∀ (W : World) (o : Obj), Below W.heap.size W (W.alloc o) := fun W o => (Below.refl _ _).alloc (Nat.le_refl _) _
  have hs := (vat_new (w.alloc (Obj.cells #[.int .i64 S, v1, v2] 25)) [.int .i64 x, .int .i64 y] 45).later (hb _ (Obj.cells #[.int .i64 0, .int .i64 0] 45))
  rw [e1] at hs
  have hr := vat_new ((w.alloc (Obj.cells #[.int .i64 S, v1, v2] 25)).alloc (Obj.cells #[.int .i64 x, .int .i64 y] 45)) [.int .i64 0, .int .i64 0] 45
  rw [e2] at hr
  have hf := froz_new2 ((w.alloc (Obj.cells #[.int .i64 S, v1, v2] 25)).alloc (Obj.cells #[.int .i64 x, .int .i64 y] 45)) #[.int .i64 0, .int .i64 0] 45
  rw [e2] at hf
  exact ⟨(((Below.refl _ _).alloc (Nat.le_refl _) _).alloc (by rw [e1]; omega) _).alloc (by rw [e2]; omega) _, ((tbox_new w S v1 v2 25).later (hb _ _)).later (hb _ _), hs 0 _ rfl, hs 1 _ rfl, hr 0 _ rfl, hr 1 _ rfl, hf⟩
theorem PBox.later {w W W' : World} {S : Int} {v1 v2 : Value} {x y : Int} (h : PBox w W S v1 v2 x y) (hb : Below W.heap.size W W') : PBox w W' S v1 v2 x y :=
  ⟨h.below.trans (hb.mono h.below.size), h.t.later hb, cell_later hb h.s0, cell_later hb h.s1, cell_later hb h.r0, cell_later hb h.r1, fun i => (hb.frozen (p := ⟨w.heap.size + 1 + 1, i, none⟩) (show (⟨w.heap.size + 1 + 1, 0, none⟩ : Addr).block < W.heap.size from World.block_lt_of_cell? W ⟨w.heap.size + 1 + 1, 0, none⟩ h.r0)).trans (h.f i)⟩
theorem below_two2 {w W : World} (h : Below w.heap.size w W) (g : Nat) (hg : w.heap.size ≤ g) (u v : Value) : Below w.heap.size w ((W.setCell ⟨g, 0, none⟩ u).setCell ⟨g, 1, none⟩ v) := (h.setCell (p := ⟨g, 0, none⟩) hg u).setCell (p := ⟨g, 1, none⟩) hg v
theorem bdrew {w w' : World} (hb : Below w.drew.heap.size w.drew w') : Below w.heap.size w w' := (Below.drew (Below.refl _ _)).trans hb
theorem balloc {w w' : World} {o : Obj} (hb : Below (w.drew.alloc o).heap.size (w.drew.alloc o) w') : Below w.heap.size w w' := ((Below.drew (Below.refl _ _)).alloc (Nat.le_refl _) o).trans (hb.mono (by simp))
theorem ballocC {w w' : World} {a b : Value} {t : TypeId} (hb : Below (w.drew.alloc (Obj.cells #[a, b] t)).heap.size (w.drew.alloc (Obj.cells #[a, b] t)) w') : w'.cell? ⟨w.heap.size, 0, none⟩ = some a ∧ w'.cell? ⟨w.heap.size, 1, none⟩ = some b ∧ w'.frozen? ⟨w.heap.size, 0, none⟩ = false ∧ w'.frozen? ⟨w.heap.size, 1, none⟩ = false := by
  have h := vat_new w.drew [a, b] t
  have hl : w.heap.size < (w.drew.alloc (Obj.cells #[a, b] t)).heap.size := by simp
  exact ⟨cell_later hb (h 0 _ rfl), cell_later hb (h 1 _ rfl), (hb.frozen (p := ⟨w.heap.size, 0, none⟩) hl).trans (froz_new2 w.drew #[a, b] t 0), (hb.frozen (p := ⟨w.heap.size, 1, none⟩) hl).trans (froz_new2 w.drew #[a, b] t 1)⟩
theorem two_cells {w' : World} {g : Nat} {a b u v : Value} (k0 : w'.cell? ⟨g, 0, none⟩ = some u) (k1 : w'.cell? ⟨g, 1, none⟩ = some v) (ha : a.oneCell' = true) (hb : b.oneCell' = true) : ((w'.setCell ⟨g, 0, none⟩ a).setCell ⟨g, 1, none⟩ b).cell? ⟨g, 0, none⟩ = some a ∧ ((w'.setCell ⟨g, 0, none⟩ a).setCell ⟨g, 1, none⟩ b).cell? ⟨g, 1, none⟩ = some b := by
  have h1 : (w'.setCell ⟨g, 0, none⟩ a).cell? ⟨g, 1, none⟩ = some v := by
    rw [World.cell?_setCell_other _ _ _ _ (by simp)]
    exact k1
  constructor
  · rw [World.cell?_setCell_other _ _ _ _ (by simp)]
    exact World.cell?_setCell_same _ _ _ k0
  · exact World.cell?_setCell_same _ _ _ h1
/-- What a look-up of a spot answers. -/
theorem peer_look {W : World} {B : Nat} {M : List ((Int × Int) × (Int × Int))} {Ls : List ((Int × Int) × (Int × Int))} (hM : MAt spotKey veS W B M) (hP : PM M Ls) (x y : Int) :
    (Instr.lookup 97 (.map (some B)) (.agg #[.int .i64 x, .int .i64 y]) true).run Try.prog W = .ok (.tuple #[.agg #[.int .i64 ((peerO Ls (x, y)).getD (0, 0)).1, .int .i64 ((peerO Ls (x, y)).getD (0, 0)).2], .bool (peerO Ls (x, y)).isSome]) W := by
  have h := run_lookup_M hM 97 45 Try.underlying97 (.agg #[.int .i64 0, .int .i64 0]) (fun w => by kernel_rfl) (x, y) true
  rw [show mget spotKey.q (x, y) M = peerO Ls (x, y) from hP (x, y)] at h
  simp only [if_true] at h
  cases hp : peerO Ls (x, y) with
  | none => rw [hp] at h; exact h
  | some p => rw [hp] at h; exact h
end Go.Proofs.Ytmpjoepfgfbjmaa
/- What package slices answers at slices of api.Hop. Written by mk/slices.py. -/
namespace Go.Proofs.Ytmpjoepfgfbjmaa
open Go.RowKit
set_option linter.unusedSimpArgs false
set_option linter.unusedVariables false

/-- One in a box, another one at an address: a class of worlds. -/
def hopCI (w : World) (B : Nat) (x0 : Int) (x1 : Int) (x2 : Int) (g o : Nat) (y0 : Int) (y1 : Int) (y2 : Int) (w' : World) : Prop :=
  Below w.heap.size w w' ∧ (w'.cell? ⟨B, 0, none⟩ = some (.int .i64 x0) ∧ w'.cell? ⟨B, 1, none⟩ = some (.int .i64 x1) ∧ w'.cell? ⟨B, 2, none⟩ = some (.int .i64 x2)) ∧
  w'.cell? ⟨g, o, none⟩ = some (.int .i64 y0) ∧ w'.cell? ⟨g, o + 1, none⟩ = some (.int .i64 y1) ∧ w'.cell? ⟨g, o + 2, none⟩ = some (.int .i64 y2)
theorem hopCI.later {w W W' : World} {B : Nat} {x0 : Int} {x1 : Int} {x2 : Int} {g o : Nat} {y0 : Int} {y1 : Int} {y2 : Int} (hb : Below W.heap.size W W') (h : hopCI w B x0 x1 x2 g o y0 y1 y2 W) : hopCI w B x0 x1 x2 g o y0 y1 y2 W' := by
  obtain ⟨h0, ⟨h1, h2, h3⟩, k1, k2, k3⟩ := h
  exact ⟨h0.trans (hb.mono h0.size), ⟨cell_later hb h1, cell_later hb h2, cell_later hb h3⟩, cell_later hb k1, cell_later hb k2, cell_later hb k3⟩

set_option maxHeartbeats 2000000 in
set_option maxRecDepth 100000 in
theorem hop_idx (ao : Option Addr) (n cap : Nat) (x0 : Int) (x1 : Int) (x2 : Int) (L : List ((Int × Int) × Int)) (w : World) (hn : L.length = n) (hn2 : n ≤ maxLen) (ha : 0 < n → ∃ g o, ao = some ⟨g, o, none⟩ ∧ GAt hopE w g o L ∧ cap ≤ maxLen) :
    Calls Try.prog 78 #[.slice ao n cap, .agg #[.int .i64 x0, .int .i64 x1, .int .i64 x2]] w fun e w' => e = .returned (.int .i64 (ixG (fun a => hopB ((x0, x1), x2) a) L)) ∧ Below w.heap.size w w' := by
  have HN : Hid (L.length = n) := hn
  have HA : Hid (0 < n → ∃ g o, ao = some ⟨g, o, none⟩ ∧ GAt hopE w g o L ∧ cap ≤ maxLen) := ha
  have HC0 := hop_new w x0 x1 x2 55
  have HB0 : Hid (Below w.heap.size w (w.alloc (Obj.cells #[Value.int IntKind.i64 x0, Value.int IntKind.i64 x1, Value.int IntKind.i64 x2] 55))) := (Below.refl _ _).alloc (Nat.le_refl _) _
  unfold maxLen at hn2
  clear hn ha
  go_enter Try.func78, Try.ntmps78
  go_wp2
  go_loopw [8] (fun i wr => ∃ k : Nat, k ≤ n ∧ i = .int .i64 k ∧ (L.take k).any (fun a => hopB ((x0, x1), x2) a) = false ∧ Below w.heap.size w wr ∧ VAt wr w.heap.size 0 (hopE.c ((x0, x1), x2)))
    (fun i _ => n - (intOf i).toNat)
  case atStart => exact ⟨0, by omega, rfl, by simp, HB0.out, HC0⟩
  case round =>
    obtain ⟨k, hk, rfl, hno, hB, hC⟩ := hrel
    have HB : Hid (Below w.heap.size w wr) := hB
    have HC : Hid (VAt wr w.heap.size 0 (hopE.c ((x0, x1), x2))) := hC
    have HNO : Hid ((L.take k).any (fun a => hopB ((x0, x1), x2) a) = false) := hno
    clear hno HC0 HB0
    by_cases hlt : k < n
    · obtain ⟨g, og, hao, hc, _⟩ := HA.out (by omega)
      subst hao
      obtain ⟨y0, y1, y2, hkl, hL, q0, q1, q2⟩ := hop_at (hc.later hB) HN.out hlt
      have HL : Hid (L[k] = ((y0, y1), y2)) := hL
      obtain ⟨r0, r1, r2⟩ := hop_cells hC
      simp only [Nat.zero_add] at r0 r1 r2
      have HCE : Hid (hopCI wr w.heap.size x0 x1 x2 g (og + k * 3) y0 y1 y2 wr) := ⟨Below.refl _ _, ⟨r0, r1, r2⟩, q0, q1, q2⟩
      clear hL hB hC HA q0 q1 q2 r0 r1 r2
      go_upto_region 4 with fail
      have kb0 : (0 : Int) ≤ (k : Int) := by omega
      have kb1 : (k : Int) < (n : Int) := by omega
      go_cut [16] from 9 to 18 (fun c w' => c = .bool (hopB ((x0, x1), x2) ((y0, y1), y2)) ∧ Below wr.heap.size wr w')
      case first =>
        as_aux_lemma =>
          refine wp_region_quiet (C := hopCI wr w.heap.size x0 x1 x2 g (og + k * 3) y0 y1 y2) (by kernel_rfl) (by kernel_rfl) (hopCI.later (W := wr) (Below.drew (Below.refl _ _)) HCE.out) ?_
          simp only [List.toList_toArray]
          go_big_quiet_want
          refine quiet_val (v := .agg #[.int .i64 x0, .int .i64 x1, .int .i64 x2]) (fun w' hC => ?_) ?_
          · obtain ⟨z, ⟨z0, z1, z2⟩, u0, u1, u2⟩ := hC
            go_simp
          simp only [Act.put, List.setIfInBounds_toArray, List.set_cons_zero, List.set_cons_succ]
          go_big_quiet_on
          go_big_quiet_want
          refine quiet_val (v := .slice (some ⟨g, og, none⟩) n cap) (fun w' hC => ?_) ?_
          · obtain ⟨z, ⟨z0, z1, z2⟩, u0, u1, u2⟩ := hC
            go_simp
          simp only [Act.put, List.setIfInBounds_toArray, List.set_cons_zero, List.set_cons_succ]
          go_big_quiet_on
          go_big_quiet_want
          refine quiet_val (v := .int .i64 (k : Int)) (fun w' hC => ?_) ?_
          · obtain ⟨z, ⟨z0, z1, z2⟩, u0, u1, u2⟩ := hC
            go_simp
          simp only [Act.put, List.setIfInBounds_toArray, List.set_cons_zero, List.set_cons_succ]
          go_big_quiet_on
          go_big_quiet_want
          refine quiet_val (v := .pointer (some ⟨g, og + k * 3, none⟩)) (fun w' hC => ?_) ?_
          · obtain ⟨z, ⟨z0, z1, z2⟩, u0, u1, u2⟩ := hC
            go_simp
          simp only [Act.put, List.setIfInBounds_toArray, List.set_cons_zero, List.set_cons_succ]
          go_big_quiet_on
          go_big_quiet_want
          refine quiet_val (v := .agg #[.int .i64 y0, .int .i64 y1, .int .i64 y2]) (fun w' hC => ?_) ?_
          · obtain ⟨z, ⟨z0, z1, z2⟩, u0, u1, u2⟩ := hC
            go_simp
          simp only [Act.put, List.setIfInBounds_toArray, List.set_cons_zero, List.set_cons_succ]
          go_big_quiet_on
          go_big_quiet_want
          refine quiet_val (v := .bool (hopB ((x0, x1), x2) ((y0, y1), y2))) (fun w' hC => exec_bin rfl (by go_simp) (run_eql_of (hop_eq x0 x1 x2 y0 y1 y2 w'))) ?_
          simp only [Act.put, List.setIfInBounds_toArray, List.set_cons_zero, List.set_cons_succ]
          go_big_quiet_on
          refine wpQuiet_nil ?_
          intro w' hC
          go_wp2_with fail
          go_meet
          case rel => exact ⟨rfl, hC.1⟩
      case rest =>
        obtain ⟨rfl, hB2⟩ := hcut
        have HB2 : Hid (Below w.heap.size w wc) := HB.out.trans (hB2.mono HB.out.size)
        have HC2 : Hid (VAt wc w.heap.size 0 (hopE.c ((x0, x1), x2))) := HC.out.later hB2
        clear hB2
        cases ho : hopB ((x0, x1), x2) ((y0, y1), y2)
        · go_wp2
          go_roundw
          case rel => exact ⟨k + 1, by omega, by go_num, any_nextG hkl HNO.out (by rw [HL.out]; exact ho), HB2.out, HC2.out⟩
          case measure => simp [intOf]; omega
        · go_wp2
          go_ret
          exact ⟨by rw [ixG_hit hkl HNO.out (by rw [HL.out]; exact ho)]; rfl, HB2.out⟩
    · obtain rfl : k = n := by omega
      go_wp2
      go_ret
      exact ⟨by have := HNO.out; rw [← HN.out, List.take_length] at this; rw [ixG_no this]; rfl, HB.out⟩

end Go.Proofs.Ytmpjoepfgfbjmaa
/- What slices.Contains answers at hops. -/
namespace Go.Proofs.Ytmpjoepfgfbjmaa
open Go.RowKit
set_option linter.unusedSimpArgs false
set_option linter.unusedVariables false

set_option maxHeartbeats 1000000 in
set_option maxRecDepth 100000 in
theorem hop_has (ao : Option Addr) (n cap : Nat) (x y h : Int) (L : List ((Int × Int) × Int)) (w : World) (hs : GS hopE w (.slice ao n cap) L) :
    Calls Try.prog 62 #[.slice ao n cap, .agg #[.int .i64 x, .int .i64 y, .int .i64 h]] w fun e w' => e = .returned (.bool (L.any fun a => hopB ((x, y), h) a)) ∧ Below w.heap.size w w' := by
  obtain ⟨ao', n', cap', e, hn, hn2, hn3, ha⟩ := hs.form
  cases e
  have HN : Hid (L.length = n) := hn
  have hB0 : Below w.heap.size w (w.alloc (Obj.cells #[Value.int IntKind.i64 x, Value.int IntKind.i64 y, Value.int IntKind.i64 h] 55)) := (Below.refl _ _).alloc (Nat.le_refl _) _
  have HA : Hid (0 < n → ∃ g o, ao = some ⟨g, o, none⟩ ∧ GAt hopE w g o L ∧ cap ≤ maxLen) := ha
  have HB0 : Hid (Below w.heap.size w (w.alloc (Obj.cells #[Value.int IntKind.i64 x, Value.int IntKind.i64 y, Value.int IntKind.i64 h] 55))) := hB0
  have HM : Hid (n ≤ maxLen) := hn2
  have HX : Hid ((L.any fun a => hopB ((x, y), h) a) = decide (0 ≤ ixG (fun a => hopB ((x, y), h) a) L)) := (ixG_any L (fun a => hopB ((x, y), h) a)).symm
  rw [HX.out]
  clear hn ha hs hn2 hB0 HX
  obtain ⟨z, hz⟩ : ∃ z, z = ixG (fun a => hopB ((x, y), h) a) L := ⟨_, rfl⟩
  rw [← hz]
  have HX : Hid (z = ixG (fun a => hopB ((x, y), h) a) L) := hz
  clear hz
  go_enter Try.func62, Try.ntmps62
  go_wp2_with fail
  refine (hop_idx ao n cap x y h L _ HN.out HM.out (fun h0 => by
    obtain ⟨g, o, e1, e2, e3⟩ := HA.out h0
    exact ⟨g, o, e1, e2.later HB0.out, e3⟩)).mono ?_
  rintro e w2 ⟨rfl, hb2⟩
  have HB2 : Hid (Below w.heap.size w w2) := HB0.out.trans (hb2.mono HB0.out.size)
  rw [← HX.out]
  clear hb2
  go_wp2
  go_ret
  exact ⟨rfl, HB2.out⟩
end Go.Proofs.Ytmpjoepfgfbjmaa
/- What package slices answers at slices of api.Host. Written by mk/slices.py. -/
namespace Go.Proofs.Ytmpjoepfgfbjmaa
open Go.RowKit
set_option linter.unusedSimpArgs false
set_option linter.unusedVariables false

/-- A closure that asks something, in whatever world behind this one. -/
def hstAsks (w : World) (f : FuncId) (c : Value) (P : ByteArray × (Int × Int) → Bool) : Prop :=
  ∀ (x0 : ByteArray) (x1 : Int) (x2 : Int) (W : World), Below w.heap.size w W → Calls Try.prog f #[.agg #[.string x0, .int .i64 x1, .int .i64 x2], c] W fun e w' => e = .returned (.bool (P (x0, (x1, x2)))) ∧ Below W.heap.size W w'
theorem hstAsks.later {w w' : World} {f : FuncId} {c : Value} {P : ByteArray × (Int × Int) → Bool} (h : hstAsks w f c P) (hb : Below w.heap.size w w') : hstAsks w' f c P :=
  fun x0 x1 x2 W hW => h x0 x1 x2 W (hb.trans (hW.mono hb.size))

set_option maxHeartbeats 1000000 in
theorem hst_idxF (ao : Option Addr) (n cap : Nat) (f : FuncId) (c : Value) (P : ByteArray × (Int × Int) → Bool) (L : List (ByteArray × (Int × Int))) (w : World) (hn : L.length = n) (hn2 : n ≤ maxLen) (ha : 0 < n → ∃ g o, ao = some ⟨g, o, none⟩ ∧ GAt hstE w g o L ∧ cap ≤ maxLen) (he : ∀ args w, (callFunc f args).run Try.prog w = .ok (.enter f args) w) (hf : hstAsks w f c P) :
    Calls Try.prog 22 #[.slice ao n cap, .func (Fn.func f) #[] #[c]] w fun e w' => e = .returned (.int .i64 (ixG P L)) ∧ Below w.heap.size w w' := by
  have HN : Hid (L.length = n) := hn
  have HF : Hid (hstAsks w f c P) := hf
  have HA : Hid (0 < n → ∃ g o, ao = some ⟨g, o, none⟩ ∧ GAt hstE w g o L ∧ cap ≤ maxLen) := ha
  unfold maxLen at hn2
  clear hn hf ha
  go_enter Try.func22, Try.ntmps22
  go_wp2
  go_loopw [8] (fun i wr => ∃ k : Nat, k ≤ n ∧ i = .int .i64 k ∧ (L.take k).any P = false ∧ Below w.heap.size w wr)
    (fun i _ => n - (intOf i).toNat)
  case atStart => exact ⟨0, by omega, rfl, by simp, Below.refl _ _⟩
  case round =>
    obtain ⟨k, hk, rfl, hno, hB⟩ := hrel
    have HB : Hid (Below w.heap.size w wr) := hB
    have HNO : Hid ((L.take k).any P = false) := hno
    clear hno
    by_cases hlt : k < n
    · obtain ⟨g, o, hao, hc, _⟩ := HA.out (by omega)
      subst hao
      obtain ⟨x0, x1, x2, hkl, hL, q0, q1, q2⟩ := hst_at (hc.later hB) HN.out hlt
      have HL : Hid (L[k] = (x0, (x1, x2))) := hL
      clear hL hB
      cases ho : P (x0, (x1, x2))
      · go_wp2_with fail
        refine (HF.out x0 x1 x2 _ HB.out).mono ?_
        rintro e w1 ⟨rfl, hb1⟩
        rw [ho]
        have HB1 := HB.out.trans (hb1.mono HB.out.size)
        clear hb1
        go_wp2
        go_roundw
        case rel => exact ⟨k + 1, by omega, by go_num, any_nextG hkl HNO.out (by rw [HL.out]; exact ho), HB1⟩
        case measure => simp [intOf]; omega
      · go_wp2_with fail
        refine (HF.out x0 x1 x2 _ HB.out).mono ?_
        rintro e w1 ⟨rfl, hb1⟩
        rw [ho]
        go_wp2
        go_ret
        exact ⟨by rw [ixG_hit hkl HNO.out (by rw [HL.out]; exact ho)]; rfl, HB.out.trans (hb1.mono HB.out.size)⟩
    · obtain rfl : k = n := by omega
      go_wp2
      go_ret
      exact ⟨by have := HNO.out; rw [← HN.out, List.take_length] at this; rw [ixG_no this]; rfl, HB.out⟩

end Go.Proofs.Ytmpjoepfgfbjmaa
/- Rows that a call owns, behind other calls. -/
namespace Go.Proofs.Ytmpjoepfgfbjmaa
open Go.RowKit

theorem own_below {w w' : World} {B e size n : Nat} {v : Value} {xs : List Value} (h : w.ownsRow B e size v n xs) (hb : Below w.heap.size w w') : w'.ownsRow B e size v n xs := by
  obtain ⟨h1, h2 | ⟨g, cap, cur, hv, hB, hg, h3⟩⟩ := h
  · exact ⟨h1, .inl h2⟩
  · have hlt : g < w.heap.size := by
      rcases Nat.lt_or_ge g w.heap.size with h | h
      · exact h
      · rw [Array.getElem?_eq_none h] at hg; cases hg
    exact ⟨h1, .inr ⟨g, cap, cur, hv, hB, (hb.block g hlt).trans hg, h3⟩⟩

theorem own_mono {w : World} {B B' e size n : Nat} {v : Value} {xs : List Value} (h : w.ownsRow B e size v n xs) (hB : B' ≤ B) : w.ownsRow B' e size v n xs := by
  obtain ⟨h1, h2 | ⟨g, cap, cur, hv, hb, h3⟩⟩ := h
  · exact ⟨h1, .inl h2⟩
  · exact ⟨h1, .inr ⟨g, cap, cur, hv, Nat.le_trans hB hb, h3⟩⟩

theorem infoInt : (Try.prog.info? 3).map (fun i => (i.zero, i.size, i.bytes)) = some (some (.int .i64 0), 1, 8) := by kernel_rfl
theorem own_later {w w' : World} {B e size n : Nat} {v : Value} {xs : List Value} {B' : Nat} (h : w.ownsRow B e size v n xs) (hb : Below B' w w') (hB : w.heap.size ≤ B') : w'.ownsRow B e size v n xs := own_below h (hb.mono hB)
end Go.Proofs.Ytmpjoepfgfbjmaa
/- Rows of numbers that a call owns. -/
namespace Go.Proofs.Ytmpjoepfgfbjmaa
open Go.RowKit

/-- The length of a row that a call owns. -/
theorem own_form {w : World} {B e size n : Nat} {v : Value} {xs : List Value} (h : w.ownsRow B e size v n xs) : ∃ ao cap, v = .slice ao n cap := by
  rcases h.2 with ⟨rfl, rfl⟩ | ⟨g, cap, cur, rfl, _⟩
  · exact ⟨none, 0, rfl⟩
  · exact ⟨_, cap, rfl⟩

/-- These numbers lie where a value says. -/
theorem own_ints {w : World} {B e : Nat} {v : Value} {xs : List Int} (h : w.ownsRow B e 1 v xs.length (xs.map (Value.int .i64))) :
    (v = .slice none 0 0 ∧ xs = []) ∨ ∃ g cap, v = .slice (some ⟨g, 0, none⟩) xs.length cap ∧ ∀ i (hi : i < xs.length), w.cell? ⟨g, i, none⟩ = some (.int .i64 xs[i]) := by
  rcases h.2 with ⟨rfl, h0⟩ | ⟨g, cap, cur, rfl, _⟩
  · exact .inl ⟨rfl, List.length_eq_zero_iff.1 h0⟩
  · refine .inr ⟨g, cap, rfl, fun i hi => ?_⟩
    rw [h.cellAt i (by omega)]
    simp [hi]

/-- Are two lists of numbers alike up to a place? -/
def eqTo (a b : List Int) (k : Nat) : Bool := a.take k == b.take k

end Go.Proofs.Ytmpjoepfgfbjmaa
/- What net.leg and Leg.After answer: contracts for the walks above them. -/
namespace Go.Proofs.Ytmpjoepfgfbjmaa
open Go.RowKit
set_option linter.unusedSimpArgs false
set_option linter.unusedVariables false

def legV (g : Lg) : Value := .agg #[.int .i64 g.1, .string g.2.1, .int .i64 g.2.2.1.1, .int .i64 g.2.2.1.2, .int .i64 g.2.2.2]
set_option maxHeartbeats 1000000 in
set_option maxRecDepth 100000 in
theorem leg1_any (n : ByteArray) (x0 x1 : Int) (B : Nat) (x y : Int) (w : World) (h0 : w.cell? ⟨B, 0, none⟩ = some (.int .i64 x)) (h1 : w.cell? ⟨B, 1, none⟩ = some (.int .i64 y)) :
    Calls Try.prog 61 #[.agg #[.string n, .int .i64 x0, .int .i64 x1], .pointer (some ⟨B, 0, none⟩)] w fun e w' => e = .returned (.bool (sq (x0, x1) (x, y))) ∧ Below w.heap.size w w' := by
  have hlt : B < w.heap.size := World.block_lt_of_cell? _ _ h0
  have HB0 : Hid (Below w.heap.size w (w.alloc (Obj.cells #[Value.string n, Value.int IntKind.i64 x0, Value.int IntKind.i64 x1] 47))) := (Below.refl _ _).alloc (Nat.le_refl _) _
  have hr : sq (x0, x1) (x, y) = (x0 == x && x1 == y) := rfl
  rw [hr]
  clear hr
  cases g1 : (x0 == x) <;> cases g2 : (x1 == y)
  all_goals
    simp only [Bool.and_true, Bool.and_false, Bool.and_self]
    go_enter Try.func61, Try.ntmps61
    go_wp2
    go_ret
    exact ⟨rfl, HB0.out⟩
theorem leg1_asks (B : Nat) (x y : Int) (w : World) (h0 : w.cell? ⟨B, 0, none⟩ = some (.int .i64 x)) (h1 : w.cell? ⟨B, 1, none⟩ = some (.int .i64 y)) : hstAsks w 61 (.pointer (some ⟨B, 0, none⟩)) (fun h => sq h.2 (x, y)) :=
  fun n x0 x1 W hW => leg1_any n x0 x1 B x y W (cell_later hW h0) (cell_later hW h1)
/-- Five cells of one block are set. -/
def put5 (W : World) (g : Nat) (a b c d e : Value) : World := ((((W.setCell ⟨g, 0, none⟩ a).setCell ⟨g, 1, none⟩ b).setCell ⟨g, 2, none⟩ c).setCell ⟨g, 3, none⟩ d).setCell ⟨g, 4, none⟩ e
theorem below_put5 {B : Nat} {w W : World} (h : Below B w W) (g : Nat) (hg : B ≤ g) (a b c d e : Value) : Below B w (put5 W g a b c d e) := ((((h.setCell (p := ⟨g, 0, none⟩) hg a).setCell (p := ⟨g, 1, none⟩) hg b).setCell (p := ⟨g, 2, none⟩) hg c).setCell (p := ⟨g, 3, none⟩) hg d).setCell (p := ⟨g, 4, none⟩) hg e
/-- The boxes: a net, a hop, a leg. -/
def lgbox (w : World) (S : Int) (v1 v2 v3 : Value) (x y h : Int) : World := ((w.alloc (Obj.cells #[.int .i64 S, v1, v2, v3] 28)).alloc (Obj.cells #[.int .i64 x, .int .i64 y, .int .i64 h] 55)).alloc (Obj.cells #[.int .i64 0, .string ⟨#[]⟩, .int .i64 0, .int .i64 0, .int .i64 0] 100)
structure LgBox (w W : World) (S : Int) (v1 v2 v3 : Value) (x y h : Int) : Prop where
  below : Below w.heap.size w W
  n : NeBox W w.heap.size S v1 v2 v3
  i0 : W.cell? ⟨w.heap.size + 1, 0, none⟩ = some (.int .i64 x)
  i1 : W.cell? ⟨w.heap.size + 1, 1, none⟩ = some (.int .i64 y)
  i2 : W.cell? ⟨w.heap.size + 1, 2, none⟩ = some (.int .i64 h)
  r0 : W.cell? ⟨w.heap.size + 1 + 1, 0, none⟩ = some (.int .i64 0)
  r1 : W.cell? ⟨w.heap.size + 1 + 1, 1, none⟩ = some (.string ⟨#[]⟩)
  r2 : W.cell? ⟨w.heap.size + 1 + 1, 2, none⟩ = some (.int .i64 0)
  r3 : W.cell? ⟨w.heap.size + 1 + 1, 3, none⟩ = some (.int .i64 0)
  r4 : W.cell? ⟨w.heap.size + 1 + 1, 4, none⟩ = some (.int .i64 0)
  f : ∀ i, W.frozen? ⟨w.heap.size + 1 + 1, i, none⟩ = false
theorem lgbox_new (w : World) (S : Int) (v1 v2 v3 : Value) (x y h : Int) : LgBox w (lgbox w S v1 v2 v3 x y h) S v1 v2 v3 x y h := by
  have e1 : (w.alloc (Obj.cells #[.int .i64 S, v1, v2, v3] 28)).heap.size = w.heap.size + 1 := by simp
  have e2 : ((w.alloc (Obj.cells #[.int .i64 S, v1, v2, v3] 28)).alloc (Obj.cells #[.int .i64 x, .int .i64 y, .int .i64 h] 55)).heap.size = w.heap.size + 1 + 1 := by simp
  have hb : ∀ (W : World) (o : Obj), Below W.heap.size W (W.alloc o) := fun W o => (Below.refl _ _).alloc (Nat.le_refl _) _
  have hs := (vat_new (w.alloc (Obj.cells #[.int .i64 S, v1, v2, v3] 28)) [.int .i64 x, .int .i64 y, .int .i64 h] 55).later (hb _ (Obj.cells #[.int .i64 0, .string ⟨#[]⟩, .int .i64 0, .int .i64 0, .int .i64 0] 100))
  rw [e1] at hs
  have hr := vat_new ((w.alloc (Obj.cells #[.int .i64 S, v1, v2, v3] 28)).alloc (Obj.cells #[.int .i64 x, .int .i64 y, .int .i64 h] 55)) [.int .i64 0, .string ⟨#[]⟩, .int .i64 0, .int .i64 0, .int .i64 0] 100
  rw [e2] at hr
  have hf : ∀ k, (lgbox w S v1 v2 v3 x y h).frozen? ⟨((w.alloc (Obj.cells #[.int .i64 S, v1, v2, v3] 28)).alloc (Obj.cells #[.int .i64 x, .int .i64 y, .int .i64 h] 55)).heap.size, k, none⟩ = false := fun k => by
    unfold lgbox
    generalize (w.alloc (Obj.cells #[.int .i64 S, v1, v2, v3] 28)).alloc (Obj.cells #[.int .i64 x, .int .i64 y, .int .i64 h] 55) = X
    simp
  rw [e2] at hf
  exact ⟨(((Below.refl _ _).alloc (Nat.le_refl _) _).alloc (by rw [e1]; omega) _).alloc (by rw [e2]; omega) _, ((nebox_new w S v1 v2 v3 28).later (hb _ _)).later (hb _ _), hs 0 _ rfl, hs 1 _ rfl, hs 2 _ rfl, hr 0 _ rfl, hr 1 _ rfl, hr 2 _ rfl, hr 3 _ rfl, hr 4 _ rfl, hf⟩
theorem LgBox.later {w W W' : World} {S : Int} {v1 v2 v3 : Value} {x y h : Int} (k : LgBox w W S v1 v2 v3 x y h) (hb : Below W.heap.size W W') : LgBox w W' S v1 v2 v3 x y h :=
  ⟨k.below.trans (hb.mono k.below.size), k.n.later hb, cell_later hb k.i0, cell_later hb k.i1, cell_later hb k.i2, cell_later hb k.r0, cell_later hb k.r1, cell_later hb k.r2, cell_later hb k.r3, cell_later hb k.r4, fun i => (hb.frozen (p := ⟨w.heap.size + 1 + 1, i, none⟩) (show (⟨w.heap.size + 1 + 1, 0, none⟩ : Addr).block < W.heap.size from World.block_lt_of_cell? W ⟨w.heap.size + 1 + 1, 0, none⟩ k.r0)).trans (k.f i)⟩

set_option maxHeartbeats 4000000 in
set_option maxRecDepth 100000 in
theorem leg_any (S : Int) (ao : Option Addr) (n cap : Nat) (ao2 : Option Addr) (n2 cap2 : Nat) (ao3 : Option Addr) (n3 cap3 : Nat) (Ls : List ((Int × Int) × (Int × Int))) (Hs : List (ByteArray × (Int × Int))) (Ts : List (List Ru)) (B : Nat) (M : List ((Int × Int) × (Int × Int))) (x y h : Int) (w : World)
    (hH : GS hstE w (.slice ao2 n2 cap2) Hs) (hT : TS w (.slice ao3 n3 cap3) Ts) (hM : MAt spotKey veS w B M) (hPM : PM M Ls) (hG : ∀ k, k < Ts.length → tbN (Ts.getD k []) = 0) (h1 : 1 ≤ x) (h2 : x ≤ (n3 : Int)) (h6 : n3 ≤ 6) :
    Calls Try.prog 36 #[.agg #[.int .i64 S, .slice ao n cap, .slice ao2 n2 cap2, .slice ao3 n3 cap3], .map (some B), .agg #[.int .i64 x, .int .i64 y, .int .i64 h]] w fun e w' => e = .returned (legV (lgT Ls Hs (taT Ts x) ((x, y), h))) ∧ Below w.heap.size w w' := by
  obtain ⟨G, hGd⟩ : ∃ G, G = lgT Ls Hs (taT Ts x) ((x, y), h) := ⟨_, rfl⟩
  have HG : Hid (G = lgT Ls Hs (taT Ts x) ((x, y), h)) := hGd
  rw [← hGd]
  have HHW : Hid (∀ W, Below w.heap.size w W → GS hstE W (.slice ao2 n2 cap2) Hs) := fun W hb => hH.later hb
  have HTW : Hid (∀ W, Below w.heap.size w W → TS W (.slice ao3 n3 cap3) Ts) := fun W hb => hT.later hb
  have HMW : Hid (∀ W, Below w.heap.size w W → MAt spotKey veS W B M) := fun W hb => hM.later hb
  have HPM : Hid (PM M Ls) := hPM
  have HTT : Hid (∀ k, k < Ts.length → tbN (Ts.getD k []) = 0) := hG
  have HS1 : Hid (1 ≤ x) := h1
  have HS2 : Hid (x ≤ (n3 : Int)) := h2
  have H36 : Hid (n3 ≤ 6) := h6
  have hX := lgbox_new w S (.slice ao n cap) (.slice ao2 n2 cap2) (.slice ao3 n3 cap3) x y h
  obtain ⟨w0, hw0⟩ : ∃ W, W = lgbox w S (.slice ao n cap) (.slice ao2 n2 cap2) (.slice ao3 n3 cap3) x y h := ⟨_, rfl⟩
  rw [← hw0] at hX
  have HX : Hid (LgBox w w0 S (.slice ao n cap) (.slice ao2 n2 cap2) (.slice ao3 n3 cap3) x y h) := hX
  have HW0 : Hid (((w.alloc (Obj.cells #[.int .i64 S, .slice ao n cap, .slice ao2 n2 cap2, .slice ao3 n3 cap3] 28)).alloc (Obj.cells #[.int .i64 x, .int .i64 y, .int .i64 h] 55)).alloc (Obj.cells #[.int .i64 0, .string ⟨#[]⟩, .int .i64 0, .int .i64 0, .int .i64 0] 100) = w0) := hw0.symm
  clear hH hT hM hPM hG h1 h2 h6 hGd hX hw0
  go_enter Try.func36, Try.ntmps36
  go_upto_region 1 with fail
  rw [HW0.out]
  obtain ⟨_, ⟨b0, b1, b2, b3⟩, i0, i1, i2, r0, r1, r2, r3, r4, f⟩ := HX.out
  clear HW0 f r0 r1 r2 r3 r4
  go_wp2_with fail
  refine (step_any S ao n cap ao2 n2 cap2 ao3 n3 cap3 Ts x y h _ (HTW.out _ HX.out.below) HTT.out HS1.out HS2.out H36.out).mono ?_
  rintro e w1 ⟨rfl, hb1⟩
  obtain ⟨A, hA⟩ : ∃ A, A = stO Ts ((x, y), h) := ⟨_, rfl⟩
  have HA : Hid (stT (taT Ts x) ((x, y), h) = A) := hA.symm
  rw [← hA]
  obtain ⟨Q1, hQ1⟩ : ∃ q, q = (A.getD zeH).1.1 := ⟨_, rfl⟩
  obtain ⟨Q2, hQ2⟩ : ∃ q, q = (A.getD zeH).1.2 := ⟨_, rfl⟩
  obtain ⟨Q3, hQ3⟩ : ∃ q, q = (A.getD zeH).2 := ⟨_, rfl⟩
  obtain ⟨okb, hokb⟩ : ∃ q, q = A.isSome := ⟨_, rfl⟩
  have HQ1 : Hid ((A.getD zeH).1.1 = Q1) := hQ1.symm
  have HQ2 : Hid ((A.getD zeH).1.2 = Q2) := hQ2.symm
  have HQ3 : Hid ((A.getD zeH).2 = Q3) := hQ3.symm
  have HOKB : Hid (A.isSome = okb) := hokb.symm
  rw [← hQ1, ← hQ2, ← hQ3, ← hokb]
  have hal : Below w1.heap.size w1 (w1.alloc (Obj.cells #[.int .i64 Q1, .int .i64 Q2, .int .i64 Q3] 55)) := (Below.refl _ _).alloc (Nat.le_refl _) _
  have hXa := (HX.out.later hb1).later hal
  have hva := hop_new w1 Q1 Q2 Q3 55
  obtain ⟨w2, hw2⟩ : ∃ W, w1.alloc (Obj.cells #[.int .i64 Q1, .int .i64 Q2, .int .i64 Q3] 55) = W := ⟨_, rfl⟩
  obtain ⟨g, hg⟩ : ∃ g, w1.heap.size = g := ⟨_, rfl⟩
  rw [hw2] at hXa hva
  rw [hg] at hva
  have HD : Hid (VAt w2 g 0 (hopE.c ((Q1, Q2), Q3))) := hva
  have HX2 : Hid (LgBox w w2 S (.slice ao n cap) (.slice ao2 n2 cap2) (.slice ao3 n3 cap3) x y h) := hXa
  have HW2 : Hid (w1.alloc (Obj.cells #[.int .i64 Q1, .int .i64 Q2, .int .i64 Q3] 55) = w2) := hw2
  have HGG : Hid (w1.heap.size = g) := hg
  obtain ⟨d0, d1, d2⟩ := hop_cells HD.out
  simp only [Nat.zero_add] at d0 d1 d2
  obtain ⟨hB2, ⟨b0, b1, b2, b3⟩, i0, i1, i2, r0, r1, r2, r3, r4, f⟩ := HX2.out
  have HB2 : Hid (Below w.heap.size w w2) := hB2
  have f0 := f 0
  have f1 := f 1
  have f2 := f 2
  have f3 := f 3
  have f4 := f 4
  clear hb1 hA hQ1 hQ2 hQ3 hokb hal hXa hva hw2 hg HX f hB2
  go_upto_region 2 with fail
  rw [HW2.out, HGG.out]
  clear HW2 HGG
  cases okb with
  | false =>
    have HF2 : Hid (G = (2, ByteArray.empty, zeH)) := by
      show _ = _
      rw [HG.out]
      refine lg_2 ?_
      rw [HA.out]
      have := HOKB.out
      cases A with
      | none => rfl
      | some _ => cases this
    go_wp2
    refine bodyPost_ret (v := .agg #[.int .i64 2, .string ⟨#[]⟩, .int .i64 0, .int .i64 0, .int .i64 0]) (by simp [results, Try.results36, go_sem, *]) rfl ⟨by rw [HF2.out]; rfl, below_put5 HB2.out _ (by omega) _ _ _ _ _⟩
  | true =>
    have HAS : Hid (A = some ((Q1, Q2), Q3)) := by
      show _ = _
      have h1 := HOKB.out
      have h2 := HQ1.out
      have h3 := HQ2.out
      have h4 := HQ3.out
      cases A with
      | none => cases h1
      | some q =>
        obtain ⟨⟨q1, q2⟩, q3⟩ := q
        simp only [Option.getD_some] at h2 h3 h4
        rw [h2, h3, h4]
    have HK : Hid (hstAsks w2 61 (.pointer (some ⟨g, 0, none⟩)) (fun h => sq h.2 (Q1, Q2))) := leg1_asks g Q1 Q2 w2 d0 d1
    obtain ⟨_, _, _, e6, hHn, hHm, _, hHa⟩ := (HHW.out _ HB2.out).form
    cases e6
    have HHN : Hid (Hs.length = n2) := hHn
    have HHM : Hid (n2 ≤ maxLen) := hHm
    have HHA : Hid (0 < n2 → ∃ g o, ao2 = some ⟨g, o, none⟩ ∧ GAt hstE w2 g o Hs ∧ cap2 ≤ maxLen) := hHa
    clear hHn hHm hHa r0 r1 r2 r3 r4 f0 f1 f2 f3 f4
    go_wp2_with fail
    refine (hst_idxF ao2 n2 cap2 _ _ (fun h => sq h.2 (Q1, Q2)) Hs _ HHN.out HHM.out HHA.out (enters_of Try.func61 (by kernel_rfl) rfl) HK.out).mono ?_
    rintro e w3 ⟨rfl, hb3⟩
    have HX3 : Hid (LgBox w w3 S (.slice ao n cap) (.slice ao2 n2 cap2) (.slice ao3 n3 cap3) x y h) := HX2.out.later hb3
    have HHA3 : Hid (0 < n2 → ∃ g o, ao2 = some ⟨g, o, none⟩ ∧ GAt hstE w3 g o Hs ∧ cap2 ≤ maxLen) := fun h => by
      obtain ⟨g, o, e1, e2, e3⟩ := HHA.out h
      exact ⟨g, o, e1, e2.later hb3, e3⟩
    have HD3 : Hid (VAt w3 g 0 (hopE.c ((Q1, Q2), Q3))) := HD.out.later hb3
    obtain ⟨d0, d1, d2⟩ := hop_cells HD3.out
    simp only [Nat.zero_add] at d0 d1 d2
    obtain ⟨hB3, ⟨b0, b1, b2, b3⟩, i0, i1, i2, r0, r1, r2, r3, r4, f⟩ := HX3.out
    have HB3 : Hid (Below w.heap.size w w3) := hB3
    have f0 := f 0
    have f1 := f 1
    have f2 := f 2
    have f3 := f 3
    have f4 := f 4
    have hlg : g < w3.heap.size := World.block_lt_of_cell? _ _ d0
    have hlr : w.heap.size + 1 + 1 < w3.heap.size := World.block_lt_of_cell? _ _ r0
    have hlw : w.heap.size < w3.heap.size := World.block_lt_of_cell? _ _ b0
    clear hb3 f hB3 HX2 HHA HK HD HB2
    rcases at_ix Hs (Q1, Q2) with ⟨hi, ho⟩ | ⟨k, hk, hi, ho⟩
    · rw [hi]
      have HAT : Hid (atO Hs (Q1, Q2) = none) := ho
      have hlk := peer_look (HMW.out _ HB3.out) HPM.out Q1 Q2
      obtain ⟨P, hP⟩ : ∃ P, P = peerO Ls (Q1, Q2) := ⟨_, rfl⟩
      have HP : Hid (peerO Ls (Q1, Q2) = P) := hP.symm
      rw [← hP] at hlk
      clear hi ho hP
      cases P with
      | none =>
        have HF2 : Hid (G = (3, ByteArray.empty, zeH)) := by
          show _ = _
          rw [HG.out]
          exact lg_3 (HA.out.trans HAS.out) HAT.out HP.out
        simp only [Option.getD_none, Option.isSome_none] at hlk
        have hlr3 : w.heap.size + 1 + 1 < w3.heap.size + 1 := by omega
        go_wp2
        refine bodyPost_ret (v := .agg #[.int .i64 3, .string ⟨#[]⟩, .int .i64 0, .int .i64 0, .int .i64 0]) (by simp [results, Try.results36, go_sem, *]) rfl ⟨by rw [HF2.out]; rfl, (below_put5 HB3.out _ (by omega) _ _ _ _ _).alloc (below_put5 HB3.out _ (by omega) _ _ _ _ _).size _⟩
      | some s =>
        obtain ⟨P1, P2⟩ := s
        have HF2 : Hid (G = (0, ByteArray.empty, ((P1, P2), Q3))) := by
          show _ = _
          rw [HG.out]
          exact lg_0 (HA.out.trans HAS.out) HAT.out HP.out
        simp only [Option.getD_some, Option.isSome_some] at hlk
        have hlr3 : w.heap.size + 1 + 1 < w3.heap.size + 1 := by omega
        go_wp2
        refine bodyPost_ret (v := .agg #[.int .i64 0, .string ⟨#[]⟩, .int .i64 P1, .int .i64 P2, .int .i64 Q3]) (by simp [results, Try.results36, go_sem, *]) rfl ⟨by rw [HF2.out]; rfl, (below_put5 HB3.out _ (by omega) _ _ _ _ _).alloc (below_put5 HB3.out _ (by omega) _ _ _ _ _).size _⟩
    · rw [hi]
      have hlt : k < n2 := by rw [← HHN.out]; exact hk
      obtain ⟨gh, oh, hao, hc, _⟩ := HHA3.out (by omega)
      subst hao
      obtain ⟨y0, y1, y2, hkl, hHk, q0, q1, q2⟩ := hst_at hc HHN.out hlt
      have HF2 : Hid (G = (1, y0, zeH)) := by
        show _ = _
        rw [HG.out]
        refine lg_1 (HA.out.trans HAS.out) ?_
        rw [ho, hHk]
      have kb0 : (0 : Int) ≤ (k : Int) := by omega
      have kb1 : (k : Int) < (n2 : Int) := by omega
      clear hi ho hHk hc HHA3
      go_wp2
      refine bodyPost_ret (v := .agg #[.int .i64 1, .string y0, .int .i64 0, .int .i64 0, .int .i64 0]) (by simp [results, Try.results36, go_sem, *]) rfl ⟨by rw [HF2.out]; rfl, below_put5 HB3.out _ (by omega) _ _ _ _ _⟩

/-- The boxes: a leg, the answer's. -/
structure ABox (w W : World) (a : Int) (b : ByteArray) (c d e : Int) : Prop where
  below : Below w.heap.size w W
  i0 : W.cell? ⟨w.heap.size, 0, none⟩ = some (.int .i64 a)
  i1 : W.cell? ⟨w.heap.size, 1, none⟩ = some (.string b)
  i2 : W.cell? ⟨w.heap.size, 2, none⟩ = some (.int .i64 c)
  i3 : W.cell? ⟨w.heap.size, 3, none⟩ = some (.int .i64 d)
  i4 : W.cell? ⟨w.heap.size, 4, none⟩ = some (.int .i64 e)
  r0 : W.cell? ⟨w.heap.size + 1, 0, none⟩ = some (.int .i64 0)
  r1 : W.cell? ⟨w.heap.size + 1, 1, none⟩ = some (.string ⟨#[]⟩)
  r2 : W.cell? ⟨w.heap.size + 1, 2, none⟩ = some (.int .i64 0)
  r3 : W.cell? ⟨w.heap.size + 1, 3, none⟩ = some (.int .i64 0)
  r4 : W.cell? ⟨w.heap.size + 1, 4, none⟩ = some (.int .i64 0)
  f : ∀ i, W.frozen? ⟨w.heap.size + 1, i, none⟩ = false
theorem abox_new (w : World) (a : Int) (b : ByteArray) (c d e : Int) : ABox w ((w.alloc (Obj.cells #[.int .i64 a, .string b, .int .i64 c, .int .i64 d, .int .i64 e] 100)).alloc (Obj.cells #[.int .i64 0, .string ⟨#[]⟩, .int .i64 0, .int .i64 0, .int .i64 0] 100)) a b c d e := by
  have e1 : (w.alloc (Obj.cells #[.int .i64 a, .string b, .int .i64 c, .int .i64 d, .int .i64 e] 100)).heap.size = w.heap.size + 1 := by simp
  have hb : ∀ (W : World) (o : Obj), Below W.heap.size W (W.alloc o) := fun W o => (Below.refl _ _).alloc (Nat.le_refl _) _
  have hs := (vat_new w [.int .i64 a, .string b, .int .i64 c, .int .i64 d, .int .i64 e] 100).later (hb _ (Obj.cells #[.int .i64 0, .string ⟨#[]⟩, .int .i64 0, .int .i64 0, .int .i64 0] 100))
  have hB := ((Below.refl w.heap.size w).alloc (Nat.le_refl _) (Obj.cells #[.int .i64 a, .string b, .int .i64 c, .int .i64 d, .int .i64 e] 100)).alloc (by rw [e1]; omega) (Obj.cells #[.int .i64 0, .string ⟨#[]⟩, .int .i64 0, .int .i64 0, .int .i64 0] 100)
  have h0 := hs 0 _ rfl
  have h1 := hs 1 _ rfl
  have h2 := hs 2 _ rfl
  have h3 := hs 3 _ rfl
  have h4 := hs 4 _ rfl
  clear hs
  generalize w.alloc (Obj.cells #[.int .i64 a, .string b, .int .i64 c, .int .i64 d, .int .i64 e] 100) = X at e1 h0 h1 h2 h3 h4 hB
  have hr := vat_new X [.int .i64 0, .string ⟨#[]⟩, .int .i64 0, .int .i64 0, .int .i64 0] 100
  have hf := froz_new2 X #[.int .i64 0, .string ⟨#[]⟩, .int .i64 0, .int .i64 0, .int .i64 0] 100
  rw [e1] at hr hf
  exact ⟨hB, h0, h1, h2, h3, h4, hr 0 _ rfl, hr 1 _ rfl, hr 2 _ rfl, hr 3 _ rfl, hr 4 _ rfl, hf⟩
theorem ABox.later {w W W' : World} {a : Int} {b : ByteArray} {c d e : Int} (k : ABox w W a b c d e) (hb : Below W.heap.size W W') : ABox w W' a b c d e :=
  ⟨k.below.trans (hb.mono k.below.size), cell_later hb k.i0, cell_later hb k.i1, cell_later hb k.i2, cell_later hb k.i3, cell_later hb k.i4, cell_later hb k.r0, cell_later hb k.r1, cell_later hb k.r2, cell_later hb k.r3, cell_later hb k.r4, fun i => (hb.frozen (p := ⟨w.heap.size + 1, i, none⟩) (show (⟨w.heap.size + 1, 0, none⟩ : Addr).block < W.heap.size from World.block_lt_of_cell? W ⟨w.heap.size + 1, 0, none⟩ k.r0)).trans (k.f i)⟩

set_option maxHeartbeats 4000000 in
set_option maxRecDepth 100000 in
theorem after_any (g : Lg) (ao : Option Addr) (n cap : Nat) (l : List ((Int × Int) × Int)) (w : World) (hl : GS hopE w (.slice ao n cap) l) :
    Calls Try.prog 37 #[legV g, .slice ao n cap] w fun e w' => e = .returned (legV (afL g l)) ∧ Below w.heap.size w w' := by
  have hn := hl.len
  obtain ⟨G, hG⟩ : ∃ G, G = afL g l := ⟨_, rfl⟩
  have HG : Hid (G = afL g l) := hG
  rw [← hG]
  clear hG
  obtain ⟨a, b, ⟨c, d⟩, e⟩ := g
  have HL : Hid (GS hopE w (.slice ao n cap) l) := hl
  have HN : Hid (l.length = n) := by
    show _ = _
    first | exact hn | exact hn.symm
  have hX := abox_new w a b c d e
  obtain ⟨w0, hw0⟩ : ∃ W, (w.alloc (Obj.cells #[.int .i64 a, .string b, .int .i64 c, .int .i64 d, .int .i64 e] 100)).alloc (Obj.cells #[.int .i64 0, .string ⟨#[]⟩, .int .i64 0, .int .i64 0, .int .i64 0] 100) = W := ⟨_, rfl⟩
  rw [hw0] at hX
  have HX : Hid (ABox w w0 a b c d e) := hX
  have HW0 : Hid ((w.alloc (Obj.cells #[.int .i64 a, .string b, .int .i64 c, .int .i64 d, .int .i64 e] 100)).alloc (Obj.cells #[.int .i64 0, .string ⟨#[]⟩, .int .i64 0, .int .i64 0, .int .i64 0] 100) = w0) := hw0
  unfold legV
  dsimp only
  clear hl hn hX hw0
  go_enter Try.func37, Try.ntmps37
  go_upto_region 1 with fail
  rw [HW0.out]
  obtain ⟨hB0, i0, i1, i2, i3, i4, r0, r1, r2, r3, r4, f⟩ := HX.out
  have HB0 : Hid (Below w.heap.size w w0) := hB0
  have f0 := f 0
  have f1 := f 1
  have f2 := f 2
  have f3 := f 3
  have f4 := f 4
  clear HW0 f hB0
  by_cases ha : a = 0
  · subst ha
    by_cases h24 : n = 24
    · have HF : Hid (G = (4, ByteArray.empty, zeH)) := by
        show _ = _
        rw [HG.out, afL, if_pos]
        simp [afB, HN.out, h24]
      have e24 : ((n : Int) == 24) = true := by simp [h24]
      clear h24
      go_wp2
      refine bodyPost_ret (v := .agg #[.int .i64 4, .string ⟨#[]⟩, .int .i64 0, .int .i64 0, .int .i64 0]) (by simp [results, Try.results37, go_sem, *]) rfl ⟨by rw [HF.out]; rfl, below_put5 HB0.out _ (by omega) _ _ _ _ _⟩
    · have e24 : ((n : Int) == 24) = false := by simp; omega
      have HN24 : Hid (l.length ≠ 24) := by
        show _ ≠ _
        rw [HN.out]
        exact h24
      clear h24 r0 r1 r2 r3 r4 f0 f1 f2 f3 f4
      go_wp2_with fail
      refine (hop_has ao n cap c d e l _ (HL.out.later HB0.out)).mono ?_
      rintro e5 w1 ⟨rfl, hb1⟩
      obtain ⟨q, hq⟩ : ∃ q, q = l.any fun x => hopB ((c, d), e) x := ⟨_, rfl⟩
      have HQ : Hid ((l.any fun x => heB ((c, d), e) x) = q) := hq.symm
      rw [← hq]
      have HX1 : Hid (ABox w w1 0 b c d e) := HX.out.later hb1
      obtain ⟨hB1, i0, i1, i2, i3, i4, r0, r1, r2, r3, r4, f⟩ := HX1.out
      have HB1 : Hid (Below w.heap.size w w1) := hB1
      have f0 := f 0
      have f1 := f 1
      have f2 := f 2
      have f3 := f 3
      have f4 := f 4
      clear hq hb1 f hB1
      cases q with
      | true =>
        have HF : Hid (G = (4, ByteArray.empty, zeH)) := by
          show _ = _
          rw [HG.out, afL, if_pos]
          simp only [afB, HQ.out]
          simp
        go_wp2
        refine bodyPost_ret (v := .agg #[.int .i64 4, .string ⟨#[]⟩, .int .i64 0, .int .i64 0, .int .i64 0]) (by simp [results, Try.results37, go_sem, *]) rfl ⟨by rw [HF.out]; rfl, below_put5 HB1.out _ (by omega) _ _ _ _ _⟩
      | false =>
        have HF : Hid (G = (0, b, ((c, d), e))) := by
          show _ = _
          rw [HG.out, afL, if_neg]
          simp only [afB, HQ.out]
          simp [HN24.out]
        go_wp2
        refine bodyPost_ret (v := .agg #[.int .i64 0, .string b, .int .i64 c, .int .i64 d, .int .i64 e]) (by simp [results, Try.results37, go_sem, *]) rfl ⟨by rw [HF.out], below_put5 HB1.out _ (by omega) _ _ _ _ _⟩
  · have HF : Hid (G = (a, b, ((c, d), e))) := by
      show _ = _
      rw [HG.out, afL, if_neg]
      simp [afB, ha]
    have ea : (a == 0) = false := by simp [ha]
    clear ha
    go_wp2
    refine bodyPost_ret (v := .agg #[.int .i64 a, .string b, .int .i64 c, .int .i64 d, .int .i64 e]) (by simp [results, Try.results37, go_sem, *]) rfl ⟨by rw [HF.out], below_put5 HB0.out _ (by omega) _ _ _ _ _⟩
end Go.Proofs.Ytmpjoepfgfbjmaa
/- The struct net.Leg: its cells, slices of them, == of two, such that came in. Written by mk/struct.py. -/
namespace Go.Proofs.Ytmpjoepfgfbjmaa
open Go.ChangeShapes Go.WideShapes Go.ChangeAt Go.RowKit Go.Joins
set_option linter.unusedSimpArgs false
set_option linter.unusedVariables false
set_option maxRecDepth 100000

def legE : Enc (Int × ByteArray × ((Int × Int) × Int)) where
  c := fun x => [.int .i64 x.1, .string x.2.1, .int .i64 x.2.2.1.1, .int .i64 x.2.2.1.2, .int .i64 x.2.2.2]
  n := 5
  len := fun _ => rfl
  pos := by decide
  one := by
    intro x u hu
    simp at hu
    rcases hu with rfl | rfl | rfl | rfl | rfl <;> rfl
theorem leg_cells {w : World} {g o : Nat} {x0 : Int} {x1 : ByteArray} {x2 : Int} {x3 : Int} {x4 : Int} (h : VAt w g o (legE.c (x0, x1, ((x2, x3), x4)))) : w.cell? ⟨g, o, none⟩ = some (.int .i64 x0) ∧ w.cell? ⟨g, o + 1, none⟩ = some (.string x1) ∧ w.cell? ⟨g, o + 2, none⟩ = some (.int .i64 x2) ∧ w.cell? ⟨g, o + 3, none⟩ = some (.int .i64 x3) ∧ w.cell? ⟨g, o + 4, none⟩ = some (.int .i64 x4) :=
  ⟨h 0 _ rfl, h 1 _ rfl, h 2 _ rfl, h 3 _ rfl, h 4 _ rfl⟩
theorem leg_at {w : World} {g o : Nat} {L : List (Int × ByteArray × ((Int × Int) × Int))} (h : GAt legE w g o L) {n k : Nat} (hn : L.length = n) (hk : k < n) :
    ∃ (x0 : Int) (x1 : ByteArray) (x2 : Int) (x3 : Int) (x4 : Int) (hl : k < L.length), L[k] = (x0, x1, ((x2, x3), x4)) ∧ w.cell? ⟨g, o + k * 5, none⟩ = some (.int .i64 x0) ∧ w.cell? ⟨g, o + k * 5 + 1, none⟩ = some (.string x1) ∧ w.cell? ⟨g, o + k * 5 + 2, none⟩ = some (.int .i64 x2) ∧ w.cell? ⟨g, o + k * 5 + 3, none⟩ = some (.int .i64 x3) ∧ w.cell? ⟨g, o + k * 5 + 4, none⟩ = some (.int .i64 x4) :=
  have hl : k < L.length := by omega
  ⟨_, _, _, _, _, hl, rfl, leg_cells (h k hl)⟩
theorem leg_new (w : World) (x0 : Int) (x1 : ByteArray) (x2 : Int) (x3 : Int) (x4 : Int) (t : TypeId) : VAt (w.alloc (Obj.cells #[.int .i64 x0, .string x1, .int .i64 x2, .int .i64 x3, .int .i64 x4] t)) w.heap.size 0 (legE.c (x0, x1, ((x2, x3), x4))) := vat_new w [.int .i64 x0, .string x1, .int .i64 x2, .int .i64 x3, .int .i64 x4] t
theorem leg_row (w : World) (x0 : Int) (x1 : ByteArray) (x2 : Int) (x3 : Int) (x4 : Int) (t : TypeId) : GS legE (w.alloc (Obj.cells #[.int .i64 x0, .string x1, .int .i64 x2, .int .i64 x3, .int .i64 x4] t)) (.slice (some ⟨w.heap.size, 0, none⟩) 1 1) [(x0, x1, ((x2, x3), x4))] := gs_one (E := legE) w (x0, x1, ((x2, x3), x4)) t (vs := [.int .i64 x0, .string x1, .int .i64 x2, .int .i64 x3, .int .i64 x4]) rfl
/-- Are two the same? -/
def legB (a b : Int × ByteArray × ((Int × Int) × Int)) : Bool := (a.1 == b.1) && ((a.2.1 == b.2.1) && ((a.2.2.1.1 == b.2.2.1.1) && ((a.2.2.1.2 == b.2.2.1.2) && ((a.2.2.2 == b.2.2.2)))))
theorem leg_ways (x0 : Int) (x1 : ByteArray) (x2 : Int) (x3 : Int) (x4 : Int) (y0 : Int) (y1 : ByteArray) (y2 : Int) (y3 : Int) (y4 : Int) :
    ((x0 == y0) = false ∧ legB (x0, x1, ((x2, x3), x4)) (y0, y1, ((y2, y3), y4)) = false) ∨
    ((x0 == y0) = true ∧ (x1.toList == y1.toList) = false ∧ legB (x0, x1, ((x2, x3), x4)) (y0, y1, ((y2, y3), y4)) = false) ∨
    ((x0 == y0) = true ∧ (x1.toList == y1.toList) = true ∧ (x2 == y2) = false ∧ legB (x0, x1, ((x2, x3), x4)) (y0, y1, ((y2, y3), y4)) = false) ∨
    ((x0 == y0) = true ∧ (x1.toList == y1.toList) = true ∧ (x2 == y2) = true ∧ (x3 == y3) = false ∧ legB (x0, x1, ((x2, x3), x4)) (y0, y1, ((y2, y3), y4)) = false) ∨
    ((x0 == y0) = true ∧ (x1.toList == y1.toList) = true ∧ (x2 == y2) = true ∧ (x3 == y3) = true ∧ (x4 == y4) = false ∧ legB (x0, x1, ((x2, x3), x4)) (y0, y1, ((y2, y3), y4)) = false) ∨
    ((x0 == y0) = true ∧ (x1.toList == y1.toList) = true ∧ (x2 == y2) = true ∧ (x3 == y3) = true ∧ (x4 == y4) = true ∧ legB (x0, x1, ((x2, x3), x4)) (y0, y1, ((y2, y3), y4)) = true) := by
  have e : legB (x0, x1, ((x2, x3), x4)) (y0, y1, ((y2, y3), y4)) = ((x0 == y0) && ((x1.toList == y1.toList) && ((x2 == y2) && ((x3 == y3) && ((x4 == y4)))))) := by simp only [legB, beq_toListBytes]
  rw [e]
  cases h0 : (x0 == y0)
  · simp
  · skip
    cases h1 : (x1.toList == y1.toList)
    · simp
    · skip
      cases h2 : (x2 == y2)
      · simp
      · skip
        cases h3 : (x3 == y3)
        · simp
        · skip
          cases h4 : (x4 == y4)
          · simp
          · skip
            simp
set_option maxRecDepth 100000 in
theorem leg_eq (x0 : Int) (x1 : ByteArray) (x2 : Int) (x3 : Int) (x4 : Int) (y0 : Int) (y1 : ByteArray) (y2 : Int) (y3 : Int) (y4 : Int) (w : World) : (Op.equal 100 (.agg #[.int .i64 x0, .string x1, .int .i64 x2, .int .i64 x3, .int .i64 x4]) (.agg #[.int .i64 y0, .string y1, .int .i64 y2, .int .i64 y3, .int .i64 y4])).run Try.prog w = .ok (legB (x0, x1, ((x2, x3), x4)) (y0, y1, ((y2, y3), y4))) w := by
  unfold Op.equal Op.maxDepth
  rw [run_equalIn_struct w 9999 _ _ _ (by kernel_rfl) (by kernel_rfl)]
  rcases leg_ways x0 x1 x2 x3 x4 y0 y1 y2 y3 y4 with ⟨e0, e⟩ | ⟨e0, e1, e⟩ | ⟨e0, e1, e2, e⟩ | ⟨e0, e1, e2, e3, e⟩ | ⟨e0, e1, e2, e3, e4, e⟩ | ⟨e0, e1, e2, e3, e4, e⟩
  all_goals
    rw [e]
    go_simp
theorem leg_info : (Try.prog.info? 100).map (fun i => (i.zero, i.size, i.bytes)) = some (some (.agg #[.int .i64 0, .string ByteArray.empty, .int .i64 0, .int .i64 0, .int .i64 0]), 5, 48) := by kernel_rfl
theorem leg_zero : (Value.agg #[.int .i64 0, .string ByteArray.empty, .int .i64 0, .int .i64 0, .int .i64 0]).cells.size = 5 := by simp [Value.cells]
/-- Cells that read as one. -/
theorem leg_open {H : Type} {enc : TypeId × Value → H} {W : World} {n : Nat} {cs : List Value} {x : DataW H × List MemPlace}
    (h : DataW.trod enc Try.prog W 0 (fun _ => true) true n 100 cs = some x) : ∃ y, cs = legE.c y := by
  obtain ⟨xs, k, _, _, hl, hlen, hf⟩ := DataW.trod_struct Try.underlying100 h
  have hC : Try.prog.cellsOf 100 = 5 := by kernel_rfl
  have hT0 : Try.prog.cellsOf 3 = 1 := by kernel_rfl
  have hT1 : Try.prog.cellsOf 9 = 1 := by kernel_rfl
  have hT2 : Try.prog.cellsOf 55 = 3 := by kernel_rfl
  rw [hC] at hl
  match cs, hl with
  | [c0, c1, c2, c3, c4], _ =>
    match xs, hlen with
    | [z0, z1, z2], _ =>
      have g0 := hf 0 _ rfl
      have g1 := hf 1 _ rfl
      have g2 := hf 2 _ rfl
      simp [hT0, hT1, hT2] at g0 g1 g2
      obtain ⟨v0, e0, _, _⟩ := DataW.trod_int Try.underlying3 g0
      obtain ⟨v1, e1, _, _⟩ := DataW.trod_string Try.underlying9 g1
      obtain ⟨s2, e2⟩ := hop_open g2
      simp [hopE] at e0 e1 e2
      refine ⟨(v0, v1, ((s2.1.1, s2.1.2), s2.2)), ?_⟩
      simp [legE, e0, e1, e2]
set_option maxRecDepth 100000 in
/-- One that came in. -/
theorem leg_of {H : Type} {enc : TypeId × Value → H} {W : World} {base : Nat} {v : Value} {d : DataW H} {p : List MemPlace}
    (hv : Value.okWide Try.prog W .any base 100 v) (h : DataW.Trod enc Try.prog W 0 (fun _ => true) true 100 v d p) : ∃ (x0 : Int) (x1 : ByteArray) (x2 : Int) (x3 : Int) (x4 : Int), v = .agg #[.int .i64 x0, .string x1, .int .i64 x2, .int .i64 x3, .int .i64 x4] := by
  obtain ⟨cs, rfl, hsz⟩ := okWide_struct Try.underlying100 hv
  obtain ⟨n, hn⟩ := h
  obtain ⟨y, e⟩ := leg_open hn
  refine ⟨y.1, y.2.1, y.2.2.1.1, y.2.2.1.2, y.2.2.2, ?_⟩
  simp only [Value.cells] at e
  have e2 : cs = #[.int .i64 y.1, .string y.2.1, .int .i64 y.2.2.1.1, .int .i64 y.2.2.1.2, .int .i64 y.2.2.2] := by
    rw [← Array.toArray_toList (xs := cs), e]
    rfl
  rw [e2]
/-- A slice of them that came in. -/
theorem legs_of {H : Type} {enc : TypeId × Value → H} {W : World} {base : Nat} {v : Value} {d : DataW H} {p : List MemPlace}
    (hv : Value.okWide Try.prog W .any base 107 v) (h : DataW.Trod enc Try.prog W 0 (fun _ => true) true 107 v d p) : ∃ L, GS legE W v L :=
  gs_of (E := legE) 107 100 Try.underlying107 (by kernel_rfl) (0, ByteArray.empty, ((0, 0), 0)) (fun _ _ _ h => leg_open h) hv h
end Go.Proofs.Ytmpjoepfgfbjmaa
/- A rule that came in, opened: six numbers. -/
namespace Go.Proofs.Ytmpjoepfgfbjmaa
open Go.ChangeShapes Go.WideShapes Go.ChangeAt Go.RowKit Go.Joins

theorem array6 {α : Type} {cs : Array α} (h : cs.size = 6) : ∃ c0 c1 c2 c3 c4 c5, cs = #[c0, c1, c2, c3, c4, c5] := by
  obtain ⟨l⟩ := cs
  match l, h with
  | [c0, c1, c2, c3, c4, c5], _ => exact ⟨c0, c1, c2, c3, c4, c5, rfl⟩

/-- Six cells that read as a rule are six numbers. -/
theorem rule_cells {H : Type} {enc : TypeId × Value → H} {W : World} {n : Nat} {cs : List Value} {x : DataW H × List MemPlace}
    (h : DataW.trod enc Try.prog W 0 (fun _ => true) true n 32 cs = some x) : ∃ p m b o s v : Int, cs = [.int .i64 p, .int .i64 m, .int .i64 b, .int .i64 o, .int .i64 s, .int .i64 v] := by
  obtain ⟨xs, k, _, _, hl, hlen, hf⟩ := DataW.trod_struct Try.underlying32 h
  have hC : Try.prog.cellsOf 32 = 6 := by kernel_rfl
  have hI : Try.prog.cellsOf 3 = 1 := by kernel_rfl
  have hK : Try.prog.cellsOf 30 = 2 := by kernel_rfl
  rw [hC] at hl
  obtain ⟨c0, c1, c2, c3, c4, c5, e⟩ := array6 (cs := cs.toArray) (by simpa using hl)
  have e' : cs = [c0, c1, c2, c3, c4, c5] := by simpa using congrArg Array.toList e
  subst e'
  match xs, hlen with
  | [y0, y1, y2, y3, y4], _ =>
    have g0 := hf 0 _ rfl
    have g1 := hf 1 _ rfl
    have g2 := hf 2 _ rfl
    have g3 := hf 3 _ rfl
    have g4 := hf 4 _ rfl
    simp [hI, hK] at g0 g1 g2 g3 g4
    obtain ⟨p, e0, _, _⟩ := DataW.trod_int Try.underlying3 g0
    obtain ⟨z0, z1, k1, _, _, f0, f1⟩ := trod_struct2 Try.underlying30 g1
    simp [hI] at f0 f1
    obtain ⟨m, e1, _, _⟩ := DataW.trod_int Try.underlying3 f0
    obtain ⟨b, e2, _, _⟩ := DataW.trod_int Try.underlying3 f1
    obtain ⟨o, e3, _, _⟩ := DataW.trod_int Try.underlying3 g2
    obtain ⟨s, e4, _, _⟩ := DataW.trod_int Try.underlying3 g3
    obtain ⟨v, e5, _, _⟩ := DataW.trod_int Try.underlying3 g4
    simp at e0 e1 e2 e3 e4 e5
    subst e0 e1 e2 e3 e4 e5
    exact ⟨p, m, b, o, s, v, rfl⟩

set_option maxRecDepth 100000 in
/-- A rule that came in is six numbers. -/
theorem rule_of {H : Type} {enc : TypeId × Value → H} {W : World} {base : Nat} {v : Value} {d : DataW H} {p : List MemPlace}
    (hv : Value.okWide Try.prog W .any base 32 v) (h : DataW.Trod enc Try.prog W 0 (fun _ => true) true 32 v d p) :
    ∃ q m b o s x : Int, v = .agg #[.int .i64 q, .int .i64 m, .int .i64 b, .int .i64 o, .int .i64 s, .int .i64 x] := by
  obtain ⟨cs, rfl, hsz⟩ := okWide_struct Try.underlying32 hv
  obtain ⟨n, hn⟩ := h
  obtain ⟨q, m, b, o, s, x, e⟩ := rule_cells hn
  refine ⟨q, m, b, o, s, x, ?_⟩
  have e2 : cs = #[.int .i64 q, .int .i64 m, .int .i64 b, .int .i64 o, .int .i64 s, .int .i64 x] := by
    simp only [Value.cells] at e
    rw [← Array.toArray_toList (xs := cs), e]
  rw [e2]
end Go.Proofs.Ytmpjoepfgfbjmaa
