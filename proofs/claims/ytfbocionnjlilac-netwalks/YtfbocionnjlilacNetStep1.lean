/- What net.step answers: a contract for the walks above it. -/
import Derived.Test.YtfbocionnjlilacNetCheck
import Derived.Test.YtfbocionnjlilacRuleLook
import Derived.Test.YtfbocionnjlilacRuleApply
import Derived.Test.YtfbocionnjlilacStHop
import Derived.BigRegion
import Derived.Deep.RegionWith
import Derived.Deep.CutRange
import Derived.Deep.CutBlock
namespace Go.Proofs.Ytfbocionnjlilac
open Go.RowKit
set_option linter.unusedSimpArgs false
set_option linter.unusedVariables false

theorem st_a {t : List Ru} {x y h : Int} (e : luN t h ≠ 0) : stT t ((x, y), h) = none := if_neg e
theorem st_b {t : List Ru} {x y h p m b o s v : Int} (e : luN t h = 0) (hr : roR t h = ⟨p, m, b, o, s, v⟩) (ha : apN p m b o s v h ≠ 0) : stT t ((x, y), h) = none := by
  unfold stT
  simp only
  rw [if_pos e, hr]
  exact if_neg ha
theorem st_c {t : List Ru} {x y h p m b o s v : Int} (e : luN t h = 0) (hr : roR t h = ⟨p, m, b, o, s, v⟩) (ha : apN p m b o s v h = 0) : stT t ((x, y), h) = some ((x, o), apR p m b o s v h) := by
  unfold stT
  simp only
  rw [if_pos e, hr]
  exact if_pos ha
/-- The three boxes: a net, a hop, the answer's. -/
def sbox (w : World) (S : Int) (v1 v2 v3 : Value) (x y h : Int) : World := ((w.alloc (Obj.cells #[.int .i64 S, v1, v2, v3] 42)).alloc (Obj.cells #[.int .i64 x, .int .i64 y, .int .i64 h] 58)).alloc (Obj.cells #[.int .i64 0, .int .i64 0, .int .i64 0] 58)
structure SBox (w W : World) (S : Int) (v1 v2 v3 : Value) (x y h : Int) : Prop where
  below : Below w.heap.size w W
  n : NeBox W w.heap.size S v1 v2 v3
  i0 : W.cell? ⟨w.heap.size + 1, 0, none⟩ = some (.int .i64 x)
  i1 : W.cell? ⟨w.heap.size + 1, 1, none⟩ = some (.int .i64 y)
  i2 : W.cell? ⟨w.heap.size + 1, 2, none⟩ = some (.int .i64 h)
  r0 : W.cell? ⟨w.heap.size + 1 + 1, 0, none⟩ = some (.int .i64 0)
  r1 : W.cell? ⟨w.heap.size + 1 + 1, 1, none⟩ = some (.int .i64 0)
  r2 : W.cell? ⟨w.heap.size + 1 + 1, 2, none⟩ = some (.int .i64 0)
  f : ∀ i, W.frozen? ⟨w.heap.size + 1 + 1, i, none⟩ = false
theorem sbox_new (w : World) (S : Int) (v1 v2 v3 : Value) (x y h : Int) : SBox w (sbox w S v1 v2 v3 x y h) S v1 v2 v3 x y h := by
  have e1 : (w.alloc (Obj.cells #[.int .i64 S, v1, v2, v3] 42)).heap.size = w.heap.size + 1 := by simp
  have e2 : ((w.alloc (Obj.cells #[.int .i64 S, v1, v2, v3] 42)).alloc (Obj.cells #[.int .i64 x, .int .i64 y, .int .i64 h] 58)).heap.size = w.heap.size + 1 + 1 := by simp
  have hb : ∀ (W : World) (o : Obj), Below W.heap.size W (W.alloc o) := fun W o => (Below.refl _ _).alloc (Nat.le_refl _) _
  have hs := (vat_new (w.alloc (Obj.cells #[.int .i64 S, v1, v2, v3] 42)) [.int .i64 x, .int .i64 y, .int .i64 h] 58).later (hb _ (Obj.cells #[.int .i64 0, .int .i64 0, .int .i64 0] 58))
  rw [e1] at hs
  have hr := vat_new ((w.alloc (Obj.cells #[.int .i64 S, v1, v2, v3] 42)).alloc (Obj.cells #[.int .i64 x, .int .i64 y, .int .i64 h] 58)) [.int .i64 0, .int .i64 0, .int .i64 0] 58
  rw [e2] at hr
  have hf : ∀ k, (sbox w S v1 v2 v3 x y h).frozen? ⟨((w.alloc (Obj.cells #[.int .i64 S, v1, v2, v3] 42)).alloc (Obj.cells #[.int .i64 x, .int .i64 y, .int .i64 h] 58)).heap.size, k, none⟩ = false := fun k => by
    unfold sbox
    generalize (w.alloc (Obj.cells #[.int .i64 S, v1, v2, v3] 42)).alloc (Obj.cells #[.int .i64 x, .int .i64 y, .int .i64 h] 58) = X
    simp
  rw [e2] at hf
  exact ⟨(((Below.refl _ _).alloc (Nat.le_refl _) _).alloc (by rw [e1]; omega) _).alloc (by rw [e2]; omega) _, ((nebox_new w S v1 v2 v3 42).later (hb _ _)).later (hb _ _), hs 0 _ rfl, hs 1 _ rfl, hs 2 _ rfl, hr 0 _ rfl, hr 1 _ rfl, hr 2 _ rfl, hf⟩
theorem SBox.later {w W W' : World} {S : Int} {v1 v2 v3 : Value} {x y h : Int} (k : SBox w W S v1 v2 v3 x y h) (hb : Below W.heap.size W W') : SBox w W' S v1 v2 v3 x y h :=
  ⟨k.below.trans (hb.mono k.below.size), k.n.later hb, cell_later hb k.i0, cell_later hb k.i1, cell_later hb k.i2, cell_later hb k.r0, cell_later hb k.r1, cell_later hb k.r2, fun i => (hb.frozen (p := ⟨w.heap.size + 1 + 1, i, none⟩) (show (⟨w.heap.size + 1 + 1, 0, none⟩ : Addr).block < W.heap.size from World.block_lt_of_cell? W ⟨w.heap.size + 1 + 1, 0, none⟩ k.r0)).trans (k.f i)⟩
theorem below_three {w W : World} (h : Below w.heap.size w W) (g : Nat) (hg : w.heap.size ≤ g) (u v x : Value) : Below w.heap.size w (((W.setCell ⟨g, 0, none⟩ u).setCell ⟨g, 1, none⟩ v).setCell ⟨g, 2, none⟩ x) := ((h.setCell (p := ⟨g, 0, none⟩) hg u).setCell (p := ⟨g, 1, none⟩) hg v).setCell (p := ⟨g, 2, none⟩) hg x

set_option maxHeartbeats 4000000 in
set_option maxRecDepth 100000 in
theorem step_any (S : Int) (ao : Option Addr) (n cap : Nat) (ao2 : Option Addr) (n2 cap2 : Nat) (ao3 : Option Addr) (n3 cap3 : Nat) (Ts : List (List Ru)) (x y h : Int) (w : World)
    (hT : TS w (.slice ao3 n3 cap3) Ts) (hG : ∀ k, k < Ts.length → tbN (Ts.getD k []) = 0) (h1 : 1 ≤ x) (h2 : x ≤ (n3 : Int)) (h6 : n3 ≤ 6) :
    Calls Try.prog 25 #[.agg #[.int .i64 S, .slice ao n cap, .slice ao2 n2 cap2, .slice ao3 n3 cap3], .agg #[.int .i64 x, .int .i64 y, .int .i64 h]] w fun e w' => e = .returned (.tuple #[.agg #[.int .i64 ((stO Ts ((x, y), h)).getD zeH).1.1, .int .i64 ((stO Ts ((x, y), h)).getD zeH).1.2, .int .i64 ((stO Ts ((x, y), h)).getD zeH).2], .bool (stO Ts ((x, y), h)).isSome]) ∧ Below w.heap.size w w' := by
  obtain ⟨k, rfl⟩ : ∃ k : Nat, x = (k : Int) + 1 := ⟨(x - 1).toNat, by omega⟩
  have hk : k < n3 := by omega
  obtain ⟨_, _, _, e1, hTn, hTm, _, hTa⟩ := hT.form
  cases e1
  obtain ⟨g, o, rfl, hc, _⟩ := hTa (by omega)
  have hX := sbox_new w S (.slice ao n cap) (.slice ao2 n2 cap2) (.slice (some ⟨g, o, none⟩) n3 cap3) ((k : Int) + 1) y h
  obtain ⟨a4, n4, c4, q0, hs⟩ := (hc.later hX.below) k (by rw [hTn]; exact hk)
  obtain ⟨t, ht⟩ : ∃ t, t = Ts.getD k [] := ⟨_, rfl⟩
  have hs2 : SR (sbox w S (.slice ao n cap) (.slice ao2 n2 cap2) (.slice (some ⟨g, o, none⟩) n3 cap3) ((k : Int) + 1) y h) (.slice a4 n4 c4) t := by
    rw [ht, getT (by rw [hTn]; exact hk)]
    exact hs
  have HTB : Hid (tbN t = 0) := by
    show _ = _
    rw [ht]
    exact hG k (by rw [hTn]; exact hk)
  have HST : Hid (stO Ts (((k : Int) + 1, y), h) = stT t (((k : Int) + 1, y), h)) := by
    show _ = _
    unfold stO taT
    simp only
    rw [ht]
    congr 2
    omega
  obtain ⟨A, hA⟩ : ∃ A, A = stO Ts (((k : Int) + 1, y), h) := ⟨_, rfl⟩
  have HA : Hid (A = stT t (((k : Int) + 1, y), h)) := hA.trans HST.out
  rw [← hA]
  obtain ⟨w0, hw0⟩ : ∃ W, W = sbox w S (.slice ao n cap) (.slice ao2 n2 cap2) (.slice (some ⟨g, o, none⟩) n3 cap3) ((k : Int) + 1) y h := ⟨_, rfl⟩
  rw [← hw0] at hX q0 hs2
  have HX : Hid (SBox w w0 S (.slice ao n cap) (.slice ao2 n2 cap2) (.slice (some ⟨g, o, none⟩) n3 cap3) ((k : Int) + 1) y h) := hX
  have HS : Hid (SR w0 (.slice a4 n4 c4) t) := hs2
  have HW0 : Hid (((w.alloc (Obj.cells #[.int .i64 S, .slice ao n cap, .slice ao2 n2 cap2, .slice (some ⟨g, o, none⟩) n3 cap3] 42)).alloc (Obj.cells #[.int .i64 ((k : Int) + 1), .int .i64 y, .int .i64 h] 58)).alloc (Obj.cells #[.int .i64 0, .int .i64 0, .int .i64 0] 58) = w0) := hw0.symm
  have hw : IntKind.i64.wrap ((k : Int) + 1 - 1) = (k : Int) := by rw [show (k : Int) + 1 - 1 = (k : Int) from by omega]; exact wrap_small (by omega) (by omega)
  have kb0 : (0 : Int) ≤ (k : Int) := by omega
  have kb1 : (k : Int) < (n3 : Int) := by omega
  clear hT hTn hTm hTa hc hs hs2 hX hA HST hw0 ht hG
  go_enter Try.func25, Try.ntmps25
  go_upto_region 1 with fail
  rw [HW0.out]
  obtain ⟨_, ⟨b0, b1, b2, b3⟩, i0, i1, i2, r0, r1, r2, f⟩ := HX.out
  clear HW0 f r0 r1 r2
  go_wp2_with fail
  refine (counting_any (.slice a4 n4 c4) t h _ HS.out).mono ?_
  rintro e w1 ⟨rfl, hb1⟩
  have HX1 : Hid (SBox w w1 S (.slice ao n cap) (.slice ao2 n2 cap2) (.slice (some ⟨g, o, none⟩) n3 cap3) ((k : Int) + 1) y h) := HX.out.later hb1
  have HS1 : Hid (SR w1 (.slice a4 n4 c4) t) := HS.out.later hb1
  obtain ⟨I, hI⟩ : ∃ I, I = beTo t h t.length := ⟨_, rfl⟩
  have HI : Hid (I = beTo t h t.length) := hI
  rw [← hI]
  clear hI hb1 HX HS b0 b1 b2 b3 i0 i1 i2 q0
  by_cases h0 : I < 0
  · have HA2 : Hid (A = none) := by
      show _ = _
      rw [HA.out, st_a (fun e => by have := (lu_0.1 e).2.2; rw [← HI.out] at this; omega)]
    obtain ⟨hB2, ⟨b0, b1, b2, b3⟩, i0, i1, i2, r0, r1, r2, f⟩ := HX1.out
    have HB2 : Hid (Below w.heap.size w w1) := hB2
    have f0 := f 0
    have f1 := f 1
    have f2 := f 2
    clear f hB2
    go_wp2
    refine bodyPost_ret (v := .tuple #[.agg #[.int .i64 0, .int .i64 0, .int .i64 0], .bool false]) (by simp [results, Try.results25, go_sem, *]) rfl ⟨by rw [HA2.out]; rfl, below_three HB2.out _ (by omega) _ _ _⟩
  · have hbd := be_bd t h t.length
    obtain ⟨j, rfl⟩ : ∃ j : Nat, I = (j : Int) := ⟨I.toNat, by omega⟩
    have hjl : j < t.length := by
      have := HI.out
      omega
    obtain ⟨_, _, _, e4, hn4, hm4, _, ha4⟩ := HS1.out.form
    cases e4
    obtain ⟨g4, o4, rfl, hc4, _⟩ := ha4 (by omega)
    have hjn : j < n4 := by omega
    obtain ⟨p, m, b, q, s, v, hl, hLj, c0, c1, c2, c3, c4', c5⟩ := hc4.at hn4 hjn
    have HRO : Hid (luN t h = 0 → roR t h = ⟨p, m, b, q, s, v⟩) := by
      intro e
      rw [roR, luI, if_pos e, ← HI.out, Int.toNat_natCast, getD_at hjl, hLj]
    have HLT : Hid (hdrB h = true → luN t h = 0) := fun e => lu_0.2 ⟨HTB.out, e, by rw [← HI.out]; omega⟩
    have HC4 : Hid (RAt w1 g4 o4 t) := hc4
    have HN4 : Hid (t.length = n4) := hn4
    have HLJ : Hid (t[j] = ⟨p, m, b, q, s, v⟩) := hLj
    have jb0 : (0 : Int) ≤ (j : Int) := by omega
    have jb1 : (j : Int) < (n4 : Int) := by omega
    obtain ⟨_, ⟨b0, b1, b2, b3⟩, i0, i1, i2, r0, r1, r2, f⟩ := HX1.out
    have hlt4 : g4 < w1.heap.size := World.block_lt_of_cell? _ _ c0
    have hlt1 : w.heap.size + 1 < w1.heap.size := World.block_lt_of_cell? _ _ i0
    obtain ⟨V, hV⟩ : ∃ V, V = apR p m b q s v h := ⟨_, rfl⟩
    obtain ⟨N, hN⟩ : ∃ N, N = apN p m b q s v h := ⟨_, rfl⟩
    have HV : Hid (V = apR p m b q s v h) := hV
    have HN : Hid (N = apN p m b q s v h) := hN
    clear hV hN h0 hbd hn4 hm4 ha4 hc4 hLj f HI HTB r0 r1 r2
    go_upto_region 5 with fail
    go_cut [8, 9] from 26 to 35 (fun hd er w' => hd = .int .i64 V ∧ er = noV N ∧ Below w1.heap.size w1 w')
    case first =>
      go_region_with (go_at_call 38; refine (apply_any p m b q s v h _).mono ?_; rintro e w' ⟨rfl, hb⟩; rw [← HV.out, ← HN.out]; have HBX : Hid (Below w1.heap.size w1 w') := (Below.drew (Below.refl _ _)).trans (hb.mono (by simp)); clear hb)
      all_goals (go_wp2_with fail; go_meet)
      all_goals exact ⟨rfl, rfl, HBX.out⟩
    case rest =>
      obtain ⟨rfl, rfl, hbw⟩ := hcut
      have HX2 : Hid (SBox w wc S (.slice ao n cap) (.slice ao2 n2 cap2) (.slice (some ⟨g, o, none⟩) n3 cap3) ((k : Int) + 1) y h) := HX1.out.later hbw
      obtain ⟨p', m', b', q', s', v', hl', hLj', c0, c1, c2, c3, c4', c5⟩ := (HC4.out.later hbw).at HN4.out hjn
      rw [HLJ.out] at hLj'
      cases hLj'
      obtain ⟨hB2, ⟨b0, b1, b2, b3⟩, i0, i1, i2, r0, r1, r2, f⟩ := HX2.out
      have HB2 : Hid (Below w.heap.size w wc) := hB2
      have hlt4 : g4 < wc.heap.size := World.block_lt_of_cell? _ _ c0
      have hlt1 : w.heap.size + 1 < wc.heap.size := World.block_lt_of_cell? _ _ i0
      have hlt2 : w.heap.size + 1 + 1 < wc.heap.size := World.block_lt_of_cell? _ _ r0
      have f0 := f 0
      have f1 := f 1
      have f2 := f 2
      clear hbw f hB2 HX1 HC4
      by_cases h5 : N = 0
      · subst h5
        rw [no_ok rfl]
        have HA2 : Hid (A = some (((k : Int) + 1, q), V)) := by
          show _ = _
          have hl := HLT.out (ap_yes HN.out.symm).2.1
          rw [HA.out, st_c hl (HRO.out hl) HN.out.symm, HV.out]
        go_upto_region 8 with fail
        go_region
        all_goals
          go_wp2
          refine bodyPost_ret (v := .tuple #[.agg #[.int .i64 ((k : Int) + 1), .int .i64 q, .int .i64 V], .bool true]) (by simp [results, Try.results25, go_sem, *]) rfl ⟨by rw [HA2.out]; rfl, ?_⟩
          first
            | exact below_three (HB2.out.trans ((Below.drew (Below.refl _ _)).mono HB2.out.size)) _ (by omega) _ _ _
      · rw [no_ne h5]
        have HA2 : Hid (A = none) := by
          show _ = _
          by_cases hl : luN t h = 0
          · rw [HA.out, st_b hl (HRO.out hl) (by rw [← HN.out]; exact h5)]
          · rw [HA.out, st_a hl]
        clear h5
        go_wp2
        refine bodyPost_ret (v := .tuple #[.agg #[.int .i64 0, .int .i64 0, .int .i64 0], .bool false]) (by simp [results, Try.results25, go_sem, *]) rfl ⟨by rw [HA2.out]; rfl, below_three HB2.out _ (by omega) _ _ _⟩
end Go.Proofs.Ytfbocionnjlilac
