/- Contracts and facts on the way to NetTurns, joined into one text: NetStep1, NetMath2, LineMath, NetMath3, NetMath4, TopoSpot, TopoPeers. -/
import Derived.Test.YtbieljcoaocfkacDoorNetTurnsP7
import Derived.Test.YtbieljcoaocfkacDoorNetTurnsP8
import Derived.Test.YtbieljcoaocfkacDoorNetTurnsP3
import Derived.Test.YtbieljcoaocfkacDoorNetTurnsP5
import Derived.BigRegion
import Derived.Deep.RegionWith
import Derived.Deep.CutRange
import Derived.Deep.CutBlock
import Derived.Carry
import Derived.WalkKit
import Derived.WalkSpells
import Derived.Below
/- What net.step answers: a contract for the walks above it. -/
namespace Go.Proofs.YtbieljcoaocfkacDoor
open Go.RowKit
set_option linter.unusedSimpArgs false
set_option linter.unusedVariables false

theorem st_a {t : List Ru} {x y h : Int} (e : luN t h ≠ 0) : stT t ((x, y), h) = none := if_neg e
theorem st_b {t : List Ru} {x y h p m b o s v : Int} (e : luN t h = 0) (hr : roR t h = ⟨p, m, b, o, s, v⟩) (ha : apN p m b o s v h ≠ 0) : stT t ((x, y), h) = none := by
  unfold stT
  simp only
  rw [if_pos e, hr]
  exact if_neg ha
theorem st_c {t : List Ru} {x y h p m b o s v : Int} (e : luN t h = 0) (hr : roR t h = ⟨p, m, b, o, s, v⟩) (ha : apN p m b o s v h = 0) : stT t ((x, y), h) = some ((x, o), apR p m b o s v h) := by
  unfold stT
  simp only
  rw [if_pos e, hr]
  exact if_pos ha
/-- The three boxes: a net, a hop, the answer's. -/
def sbox (w : World) (S : Int) (v1 v2 v3 : Value) (x y h : Int) : World := ((w.alloc (Obj.cells #[.int .i64 S, v1, v2, v3] 58)).alloc (Obj.cells #[.int .i64 x, .int .i64 y, .int .i64 h] 109)).alloc (Obj.cells #[.int .i64 0, .int .i64 0, .int .i64 0] 109)
structure SBox (w W : World) (S : Int) (v1 v2 v3 : Value) (x y h : Int) : Prop where
  below : Below w.heap.size w W
  n : NeBox W w.heap.size S v1 v2 v3
  i0 : W.cell? ⟨w.heap.size + 1, 0, none⟩ = some (.int .i64 x)
  i1 : W.cell? ⟨w.heap.size + 1, 1, none⟩ = some (.int .i64 y)
  i2 : W.cell? ⟨w.heap.size + 1, 2, none⟩ = some (.int .i64 h)
  r0 : W.cell? ⟨w.heap.size + 1 + 1, 0, none⟩ = some (.int .i64 0)
  r1 : W.cell? ⟨w.heap.size + 1 + 1, 1, none⟩ = some (.int .i64 0)
  r2 : W.cell? ⟨w.heap.size + 1 + 1, 2, none⟩ = some (.int .i64 0)
  f : ∀ i, W.frozen? ⟨w.heap.size + 1 + 1, i, none⟩ = false
theorem sbox_new (w : World) (S : Int) (v1 v2 v3 : Value) (x y h : Int) : SBox w (sbox w S v1 v2 v3 x y h) S v1 v2 v3 x y h := by
  have e1 : (w.alloc (Obj.cells #[.int .i64 S, v1, v2, v3] 58)).heap.size = w.heap.size + 1 := by simp
  have e2 : ((w.alloc (Obj.cells #[.int .i64 S, v1, v2, v3] 58)).alloc (Obj.cells #[.int .i64 x, .int .i64 y, .int .i64 h] 109)).heap.size = w.heap.size + 1 + 1 := by simp
  have hb : ∀ (W : World) (o : Obj), Below W.heap.size W (W.alloc o) := fun W o => (Below.refl _ _).alloc (Nat.le_refl _) _
  have hs := (vat_new (w.alloc (Obj.cells #[.int .i64 S, v1, v2, v3] 58)) [.int .i64 x, .int .i64 y, .int .i64 h] 109).later (hb _ (Obj.cells #[.int .i64 0, .int .i64 0, .int .i64 0] 109))
  rw [e1] at hs
  have hr := vat_new ((w.alloc (Obj.cells #[.int .i64 S, v1, v2, v3] 58)).alloc (Obj.cells #[.int .i64 x, .int .i64 y, .int .i64 h] 109)) [.int .i64 0, .int .i64 0, .int .i64 0] 109
  rw [e2] at hr
  have hf : ∀ k, (sbox w S v1 v2 v3 x y h).frozen? ⟨((w.alloc (Obj.cells #[.int .i64 S, v1, v2, v3] 58)).alloc (Obj.cells #[.int .i64 x, .int .i64 y, .int .i64 h] 109)).heap.size, k, none⟩ = false := fun k => by
    unfold sbox
    generalize (w.alloc (Obj.cells #[.int .i64 S, v1, v2, v3] 58)).alloc (Obj.cells #[.int .i64 x, .int .i64 y, .int .i64 h] 109) = X
    simp
  rw [e2] at hf
  exact ⟨(((Below.refl _ _).alloc (Nat.le_refl _) _).alloc (by rw [e1]; omega) _).alloc (by rw [e2]; omega) _, ((nebox_new w S v1 v2 v3 58).later (hb _ _)).later (hb _ _), hs 0 _ rfl, hs 1 _ rfl, hs 2 _ rfl, hr 0 _ rfl, hr 1 _ rfl, hr 2 _ rfl, hf⟩
theorem SBox.later {w W W' : World} {S : Int} {v1 v2 v3 : Value} {x y h : Int} (k : SBox w W S v1 v2 v3 x y h) (hb : Below W.heap.size W W') : SBox w W' S v1 v2 v3 x y h :=
  ⟨k.below.trans (hb.mono k.below.size), k.n.later hb, cell_later hb k.i0, cell_later hb k.i1, cell_later hb k.i2, cell_later hb k.r0, cell_later hb k.r1, cell_later hb k.r2, fun i => (hb.frozen (p := ⟨w.heap.size + 1 + 1, i, none⟩) (show (⟨w.heap.size + 1 + 1, 0, none⟩ : Addr).block < W.heap.size from World.block_lt_of_cell? W ⟨w.heap.size + 1 + 1, 0, none⟩ k.r0)).trans (k.f i)⟩
theorem below_three {w W : World} (h : Below w.heap.size w W) (g : Nat) (hg : w.heap.size ≤ g) (u v x : Value) : Below w.heap.size w (((W.setCell ⟨g, 0, none⟩ u).setCell ⟨g, 1, none⟩ v).setCell ⟨g, 2, none⟩ x) := ((h.setCell (p := ⟨g, 0, none⟩) hg u).setCell (p := ⟨g, 1, none⟩) hg v).setCell (p := ⟨g, 2, none⟩) hg x

set_option maxHeartbeats 4000000 in
set_option maxRecDepth 100000 in
theorem step_any (S : Int) (ao : Option Addr) (n cap : Nat) (ao2 : Option Addr) (n2 cap2 : Nat) (ao3 : Option Addr) (n3 cap3 : Nat) (Ts : List (List Ru)) (x y h : Int) (w : World)
    (hT : TS w (.slice ao3 n3 cap3) Ts) (h1 : 1 ≤ x) (h2 : x ≤ (n3 : Int)) (h6 : n3 ≤ 6) :
    Calls Tryd.prog 53 #[.agg #[.int .i64 S, .slice ao n cap, .slice ao2 n2 cap2, .slice ao3 n3 cap3], .agg #[.int .i64 x, .int .i64 y, .int .i64 h]] w fun e w' => e = .returned (.tuple #[.agg #[.int .i64 ((stO Ts ((x, y), h)).getD zeH).1.1, .int .i64 ((stO Ts ((x, y), h)).getD zeH).1.2, .int .i64 ((stO Ts ((x, y), h)).getD zeH).2], .bool (stO Ts ((x, y), h)).isSome]) ∧ Below w.heap.size w w' := by
  obtain ⟨k, rfl⟩ : ∃ k : Nat, x = (k : Int) + 1 := ⟨(x - 1).toNat, by omega⟩
  have hk : k < n3 := by omega
  obtain ⟨_, _, _, e1, hTn, hTm, _, hTa⟩ := hT.form
  cases e1
  obtain ⟨g, o, rfl, hc, _⟩ := hTa (by omega)
  have hX := sbox_new w S (.slice ao n cap) (.slice ao2 n2 cap2) (.slice (some ⟨g, o, none⟩) n3 cap3) ((k : Int) + 1) y h
  obtain ⟨a4, n4, c4, q0, hs⟩ := (hc.later hX.below) k (by rw [hTn]; exact hk)
  obtain ⟨t, ht⟩ : ∃ t, t = Ts.getD k [] := ⟨_, rfl⟩
  have hs2 : SR (sbox w S (.slice ao n cap) (.slice ao2 n2 cap2) (.slice (some ⟨g, o, none⟩) n3 cap3) ((k : Int) + 1) y h) (.slice a4 n4 c4) t := by
    rw [ht, getT (by rw [hTn]; exact hk)]
    exact hs
  have HST : Hid (stO Ts (((k : Int) + 1, y), h) = stT t (((k : Int) + 1, y), h)) := by
    show _ = _
    unfold stO taT
    simp only
    rw [ht]
    congr 2
    omega
  obtain ⟨A, hA⟩ : ∃ A, A = stO Ts (((k : Int) + 1, y), h) := ⟨_, rfl⟩
  have HA : Hid (A = stT t (((k : Int) + 1, y), h)) := hA.trans HST.out
  rw [← hA]
  obtain ⟨w0, hw0⟩ : ∃ W, W = sbox w S (.slice ao n cap) (.slice ao2 n2 cap2) (.slice (some ⟨g, o, none⟩) n3 cap3) ((k : Int) + 1) y h := ⟨_, rfl⟩
  rw [← hw0] at hX q0 hs2
  have HX : Hid (SBox w w0 S (.slice ao n cap) (.slice ao2 n2 cap2) (.slice (some ⟨g, o, none⟩) n3 cap3) ((k : Int) + 1) y h) := hX
  have HS : Hid (SR w0 (.slice a4 n4 c4) t) := hs2
  have HW0 : Hid (((w.alloc (Obj.cells #[.int .i64 S, .slice ao n cap, .slice ao2 n2 cap2, .slice (some ⟨g, o, none⟩) n3 cap3] 58)).alloc (Obj.cells #[.int .i64 ((k : Int) + 1), .int .i64 y, .int .i64 h] 109)).alloc (Obj.cells #[.int .i64 0, .int .i64 0, .int .i64 0] 109) = w0) := hw0.symm
  have hw : IntKind.i64.wrap ((k : Int) + 1 - 1) = (k : Int) := by rw [show (k : Int) + 1 - 1 = (k : Int) from by omega]; exact wrap_small (by omega) (by omega)
  have kb0 : (0 : Int) ≤ (k : Int) := by omega
  have kb1 : (k : Int) < (n3 : Int) := by omega
  clear hT hTn hTm hTa hc hs hs2 hX hA HST hw0 ht
  go_enter Tryd.func53, Tryd.ntmps53
  go_upto_region 1 with fail
  rw [HW0.out]
  obtain ⟨_, ⟨b0, b1, b2, b3⟩, i0, i1, i2, r0, r1, r2, f⟩ := HX.out
  clear HW0 f r0 r1 r2
  go_wp2_with fail
  refine (lookup_any (.slice a4 n4 c4) t h _ HS.out).mono ?_
  rintro e w1 ⟨rfl, hb1⟩
  have HX1 : Hid (SBox w w1 S (.slice ao n cap) (.slice ao2 n2 cap2) (.slice (some ⟨g, o, none⟩) n3 cap3) ((k : Int) + 1) y h) := HX.out.later hb1
  have HS1 : Hid (SR w1 (.slice a4 n4 c4) t) := HS.out.later hb1
  obtain ⟨R, hR⟩ : ∃ R, R = luN t h := ⟨_, rfl⟩
  obtain ⟨I, hI⟩ : ∃ I, I = luI t h := ⟨_, rfl⟩
  have HR : Hid (R = luN t h) := hR
  have HI : Hid (I = luI t h) := hI
  rw [← hR, ← hI]
  clear hR hI hb1 HX HS b0 b1 b2 b3 i0 i1 i2 q0
  by_cases h0 : R = 0
  · subst h0
    rw [no_ok rfl]
    have hl0 := lu_0.1 HR.out.symm
    have hbd := be_bd t h t.length
    have hI2 : I = beTo t h t.length := by rw [HI.out, luI, if_pos HR.out.symm]
    obtain ⟨j, rfl⟩ : ∃ j : Nat, I = (j : Int) := ⟨I.toNat, by omega⟩
    have hjl : j < t.length := by omega
    obtain ⟨_, _, _, e4, hn4, hm4, _, ha4⟩ := HS1.out.form
    cases e4
    obtain ⟨g4, o4, rfl, hc4, _⟩ := ha4 (by omega)
    have hjn : j < n4 := by omega
    obtain ⟨p, m, b, q, s, v, hl, hLj, c0, c1, c2, c3, c4', c5⟩ := hc4.at hn4 hjn
    have HRO : Hid (roR t h = ⟨p, m, b, q, s, v⟩) := by
      show _ = _
      rw [roR, ← HI.out, Int.toNat_natCast, getD_at hjl, hLj]
    have HC4 : Hid (RAt w1 g4 o4 t) := hc4
    have HN4 : Hid (t.length = n4) := hn4
    have HLJ : Hid (t[j] = ⟨p, m, b, q, s, v⟩) := hLj
    have HLU : Hid (luN t h = 0) := HR.out.symm
    have jb0 : (0 : Int) ≤ (j : Int) := by omega
    have jb1 : (j : Int) < (n4 : Int) := by omega
    obtain ⟨_, ⟨b0, b1, b2, b3⟩, i0, i1, i2, r0, r1, r2, f⟩ := HX1.out
    have hlt4 : g4 < w1.heap.size := World.block_lt_of_cell? _ _ c0
    have hlt1 : w.heap.size + 1 < w1.heap.size := World.block_lt_of_cell? _ _ i0
    obtain ⟨V, hV⟩ : ∃ V, V = apR p m b q s v h := ⟨_, rfl⟩
    obtain ⟨N, hN⟩ : ∃ N, N = apN p m b q s v h := ⟨_, rfl⟩
    have HV : Hid (V = apR p m b q s v h) := hV
    have HN : Hid (N = apN p m b q s v h) := hN
    clear hV hN hl0 hbd hI2 hn4 hm4 ha4 hc4 hLj f HR HI r0 r1 r2
    go_upto_region 5 with fail
    go_cut [9, 8] from 28 to 37 (fun hd er w' => hd = .int .i64 V ∧ er = noV N ∧ Below w1.heap.size w1 w')
    case first =>
      go_region_with (go_at_call 73; refine (apply_any p m b q s v h _).mono ?_; rintro e w' ⟨rfl, hb⟩; rw [← HV.out, ← HN.out]; have HBX : Hid (Below w1.heap.size w1 w') := (Below.drew (Below.refl _ _)).trans (hb.mono (by simp)); clear hb)
      all_goals (go_wp2_with fail; go_meet)
      all_goals exact ⟨rfl, rfl, HBX.out⟩
    case rest =>
      obtain ⟨rfl, rfl, hbw⟩ := hcut
      have HX2 : Hid (SBox w wc S (.slice ao n cap) (.slice ao2 n2 cap2) (.slice (some ⟨g, o, none⟩) n3 cap3) ((k : Int) + 1) y h) := HX1.out.later hbw
      obtain ⟨p', m', b', q', s', v', hl', hLj', c0, c1, c2, c3, c4', c5⟩ := (HC4.out.later hbw).at HN4.out hjn
      rw [HLJ.out] at hLj'
      cases hLj'
      obtain ⟨hB2, ⟨b0, b1, b2, b3⟩, i0, i1, i2, r0, r1, r2, f⟩ := HX2.out
      have HB2 : Hid (Below w.heap.size w wc) := hB2
      have hlt4 : g4 < wc.heap.size := World.block_lt_of_cell? _ _ c0
      have hlt1 : w.heap.size + 1 < wc.heap.size := World.block_lt_of_cell? _ _ i0
      have hlt2 : w.heap.size + 1 + 1 < wc.heap.size := World.block_lt_of_cell? _ _ r0
      have f0 := f 0
      have f1 := f 1
      have f2 := f 2
      clear hbw f hB2 HX1 HC4
      by_cases h5 : N = 0
      · subst h5
        rw [no_ok rfl]
        have HA2 : Hid (A = some (((k : Int) + 1, q), V)) := by
          show _ = _
          rw [HA.out, st_c HLU.out HRO.out HN.out.symm, HV.out]
        go_upto_region 8 with fail
        go_region
        all_goals
          go_wp2
          refine bodyPost_ret (v := .tuple #[.agg #[.int .i64 ((k : Int) + 1), .int .i64 q, .int .i64 V], .bool true]) (by simp [results, Tryd.results53, go_sem, *]) rfl ⟨by rw [HA2.out]; rfl, ?_⟩
          first
            | exact below_three (HB2.out.trans ((Below.drew (Below.refl _ _)).mono HB2.out.size)) _ (by omega) _ _ _
      · rw [no_ne h5]
        have HA2 : Hid (A = none) := by
          show _ = _
          rw [HA.out, st_b HLU.out HRO.out (by rw [← HN.out]; exact h5)]
        clear h5
        go_wp2
        refine bodyPost_ret (v := .tuple #[.agg #[.int .i64 0, .int .i64 0, .int .i64 0], .bool false]) (by simp [results, Tryd.results53, go_sem, *]) rfl ⟨by rw [HA2.out]; rfl, below_three HB2.out _ (by omega) _ _ _⟩
  · rw [no_ne h0]
    have HA2 : Hid (A = none) := by
      show _ = _
      rw [HA.out, st_a (by rw [← HR.out]; exact h0)]
    obtain ⟨hB2, ⟨b0, b1, b2, b3⟩, i0, i1, i2, r0, r1, r2, f⟩ := HX1.out
    have HB2 : Hid (Below w.heap.size w w1) := hB2
    have f0 := f 0
    have f1 := f 1
    have f2 := f 2
    clear h0 f hB2
    go_wp2
    refine bodyPost_ret (v := .tuple #[.agg #[.int .i64 0, .int .i64 0, .int .i64 0], .bool false]) (by simp [results, Tryd.results53, go_sem, *]) rfl ⟨by rw [HA2.out]; rfl, below_three HB2.out _ (by omega) _ _ _⟩
end Go.Proofs.YtbieljcoaocfkacDoor
/- What becomes of a packet, hop by hop: plain lists. No program in it. -/
namespace Go.Proofs.YtbieljcoaocfkacDoor
open Go.RowKit
set_option linter.unusedVariables false

section
variable {Ls : List ((Int × Int) × (Int × Int))} {Hs : List (ByteArray × (Int × Int))} {Ts : List (List Ru)}
/-- One hop is behind the other. -/
def NxH (Ls : List ((Int × Int) × (Int × Int))) (Hs : List (ByteArray × (Int × Int))) (Ts : List (List Ru)) (p q : (Int × Int) × Int) : Prop := ∃ o, stO Ts p = some o ∧ atO Hs o.1 = none ∧ peerO Ls o.1 = some q.1 ∧ q.2 = o.2
def atH (l : List ((Int × Int) × Int)) (i : Nat) : (Int × Int) × Int := l.getD i zeH
def ChH (Ls : List ((Int × Int) × (Int × Int))) (Hs : List (ByteArray × (Int × Int))) (Ts : List (List Ru)) (l : List ((Int × Int) × Int)) : Prop := ∀ i, i + 1 < l.length → NxH Ls Hs Ts (atH l i) (atH l (i + 1))
/-- What it comes to at the last of these hops. -/
def enE (Ls : List ((Int × Int) × (Int × Int))) (Hs : List (ByteArray × (Int × Int))) (Ts : List (List Ru)) (l : List ((Int × Int) × Int)) (p : (Int × Int) × Int) : (Int × ByteArray) ⊕ ((Int × Int) × Int) := goE Ls Hs (taT Ts p.1.1) l p
theorem la_at (l : List ((Int × Int) × Int)) : laH l = atH l (l.length - 1) := rfl
theorem at_app (l : List ((Int × Int) × Int)) (p : (Int × Int) × Int) : atH (l ++ [p]) l.length = p := by simp [atH, List.getD]
theorem at_lt {l : List ((Int × Int) × Int)} (m : List ((Int × Int) × Int)) {i : Nat} (h : i < l.length) : atH (l ++ m) i = atH l i := by simp [atH, List.getD, List.getElem?_append_left h]
theorem at_in {l : List ((Int × Int) × Int)} {i : Nat} (h : i < l.length) : atH l i ∈ l := by
  have e : atH l i = l[i] := by simp [atH, List.getD, h]
  rw [e]
  exact List.getElem_mem h
theorem en_r {l : List ((Int × Int) × Int)} {p q : (Int × Int) × Int} (h : enE Ls Hs Ts l p = .inr q) : NxH Ls Hs Ts p q ∧ l.length ≠ 24 ∧ q ∉ l := by
  unfold enE goE at h
  cases hs : stT (taT Ts p.1.1) p with
  | none => rw [hs] at h; cases h
  | some o =>
    rw [hs] at h
    simp only at h
    cases ha : atO Hs o.1 with
    | some m => rw [ha] at h; cases h
    | none =>
      rw [ha] at h
      simp only at h
      cases hp : peerO Ls o.1 with
      | none => rw [hp] at h; cases h
      | some s =>
        rw [hp] at h
        simp only at h
        split at h
        · cases h
        · next hn =>
          cases h
          rw [not_or] at hn
          refine ⟨⟨o, hs, ha, hp, rfl⟩, hn.1, fun hm => hn.2 ?_⟩
          exact List.any_eq_true.2 ⟨_, hm, (heB_iff _ _).2 rfl⟩
/-- A next hop that is not there yet is one. -/
theorem en_go {l : List ((Int × Int) × Int)} {p q : (Int × Int) × Int} (h : NxH Ls Hs Ts p q) (h24 : l.length ≠ 24) (hq : q ∉ l) : enE Ls Hs Ts l p = .inr q := by
  obtain ⟨o, h1, h2, h3, h4⟩ := h
  unfold enE goE
  rw [show stT (taT Ts p.1.1) p = some o from h1]
  simp only [h2, h3]
  rw [if_neg]
  · obtain ⟨q1, q2⟩ := q
    simp only at h4
    rw [h4]
  · rw [not_or]
    refine ⟨h24, fun hm => hq ?_⟩
    obtain ⟨x, hx, e⟩ := List.any_eq_true.1 hm
    have e2 := (heB_iff _ _).1 e
    obtain ⟨q1, q2⟩ := q
    simp only at h4
    rw [h4, e2]
    exact hx
/-- An end that is no loop is one whatever was there. -/
theorem en_l {l : List ((Int × Int) × Int)} {p : (Int × Int) × Int} {e : Int × ByteArray} (h : enE Ls Hs Ts l p = .inl e) (h4 : e.1 ≠ 4) (m : List ((Int × Int) × Int)) : enE Ls Hs Ts m p = .inl e := by
  unfold enE goE at h ⊢
  cases hs : stT (taT Ts p.1.1) p with
  | none => rw [hs] at h; exact h
  | some o =>
    rw [hs] at h
    simp only at h ⊢
    cases ha : atO Hs o.1 with
    | some m => rw [ha] at h; exact h
    | none =>
      rw [ha] at h
      simp only at h ⊢
      cases hp : peerO Ls o.1 with
      | none => rw [hp] at h; exact h
      | some s =>
        rw [hp] at h
        simp only at h
        split at h
        · cases h
          exact absurd rfl h4
        · cases h
/-- An end, in words. -/
theorem en_end {l : List ((Int × Int) × Int)} {p : (Int × Int) × Int} {e : Int × ByteArray} (h : enE Ls Hs Ts l p = .inl e) (hn : ∀ x ∈ Hs, x.1 ≠ ByteArray.empty) : (stO Ts p = none ↔ e.1 = 2) ∧ (e.1 = 1 ↔ e.2 ≠ ByteArray.empty) := by
  unfold enE goE at h
  unfold stO
  cases hs : stT (taT Ts p.1.1) p with
  | none => rw [hs] at h; cases h; simp
  | some o =>
    rw [hs] at h
    simp only at h
    cases ha : atO Hs o.1 with
    | some m =>
      rw [ha] at h
      cases h
      refine ⟨by simp, fun _ => ?_, fun _ => rfl⟩
      rcases at_ix Hs o.1 with ⟨_, h0⟩ | ⟨k, hk, _, h1⟩
      · rw [ha] at h0; cases h0
      · rw [ha] at h1
        cases h1
        exact hn _ (List.getElem_mem hk)
    | none =>
      rw [ha] at h
      simp only at h
      cases hp : peerO Ls o.1 with
      | none => rw [hp] at h; cases h; simp
      | some s =>
        rw [hp] at h
        simp only at h
        split at h
        · cases h; simp
        · cases h
theorem fo_s (n : Nat) (l : List ((Int × Int) × Int)) : foF Ls Hs Ts (n + 1) l = match enE Ls Hs Ts l (laH l) with | .inl e => (e.1, e.2, l) | .inr p => foF Ls Hs Ts n (l ++ [p]) := rfl
/-- What is so of the hops that are told. -/
theorem fo_spec : ∀ (n : Nat) (l : List ((Int × Int) × Int)), 0 < l.length → l.length + n = 25 → 1 ≤ n → l.Nodup → ChH Ls Hs Ts l →
    ∃ rest, (foF Ls Hs Ts n l).2.2 = l ++ rest ∧ (foF Ls Hs Ts n l).2.2.length ≤ 24 ∧ (foF Ls Hs Ts n l).2.2.Nodup ∧ ChH Ls Hs Ts (foF Ls Hs Ts n l).2.2 ∧
      enE Ls Hs Ts (foF Ls Hs Ts n l).2.2 (laH (foF Ls Hs Ts n l).2.2) = .inl ((foF Ls Hs Ts n l).1, (foF Ls Hs Ts n l).2.1)
  | 0, l, _, _, h, _, _ => by omega
  | n + 1, l, h0, hl, _, hd, hc => by
    rw [fo_s]
    cases he : enE Ls Hs Ts l (laH l) with
    | inl e => exact ⟨[], by simp, by simp only; omega, hd, hc, he⟩
    | inr p =>
      obtain ⟨h1, h2, h3⟩ := en_r he
      simp only
      have hl2 : l.length < 24 := by omega
      have hd2 : (l ++ [p]).Nodup := by
        rw [List.nodup_append]
        refine ⟨hd, by simp, fun a ha b hb e => ?_⟩
        simp only [List.mem_singleton] at hb
        subst hb
        subst e
        exact h3 ha
      have hc2 : ChH Ls Hs Ts (l ++ [p]) := by
        intro i hi
        simp only [List.length_append, List.length_cons, List.length_nil] at hi
        by_cases e : i + 1 = l.length
        · rw [at_lt _ (show i < l.length by omega), e, at_app]
          rw [la_at] at h1
          have : i = l.length - 1 := by omega
          rw [this]
          exact h1
        · rw [at_lt _ (show i < l.length by omega), at_lt _ (show i + 1 < l.length by omega)]
          exact hc i (by omega)
      obtain ⟨rest, e1, e2⟩ := fo_spec n (l ++ [p]) (by simp) (by simp; omega) (by omega) hd2 hc2
      exact ⟨p :: rest, by rw [e1]; simp, e2⟩
/-- From any of the hops on it ends likewise. -/
theorem fo_tail {L : List ((Int × Int) × Int)} {e : Int × ByteArray} (hd : L.Nodup) (hc : ChH Ls Hs Ts L) (h24 : L.length ≤ 24) (he : enE Ls Hs Ts L (laH L) = .inl e) (h4 : e.1 ≠ 4) :
    ∀ (r k : Nat) (m : List ((Int × Int) × Int)) (n : Nat), k + 1 + r = L.length → 0 < m.length → m.length ≤ k + 1 → laH m = atH L k → (∀ x ∈ m, ∃ j, j ≤ k ∧ x = atH L j) → r < n →
      (foF Ls Hs Ts n m).1 = e.1 ∧ (foF Ls Hs Ts n m).2.1 = e.2 ∧ (foF Ls Hs Ts n m).2.2.length = m.length + r
  | r, k, m, 0, _, _, _, _, _, hn => by omega
  | 0, k, m, n + 1, hk, hm, hmk, hla, hin, hn => by
    rw [fo_s]
    have : laH m = laH L := by
      rw [hla, la_at]
      congr 1
      omega
    rw [this, en_l he h4 m]
    exact ⟨rfl, rfl, by simp⟩
  | r + 1, k, m, n + 1, hk, hm, hmk, hla, hin, hn => by
    rw [fo_s]
    have hnx := hc k (by omega)
    have hq : atH L (k + 1) ∉ m := by
      intro hx
      obtain ⟨j, hj, e2⟩ := hin _ hx
      have e3 : L[k + 1]'(by omega) = L[j]'(by omega) := by
        have a1 : atH L (k + 1) = L[k + 1]'(by omega) := by
          have : k + 1 < L.length := by omega
          simp [atH, List.getD, this]
        have a2 : atH L j = L[j]'(by omega) := by
          have : j < L.length := by omega
          simp [atH, List.getD, this]
        rw [← a1, ← a2]
        exact e2
      have := (List.getElem_inj hd).1 e3
      omega
    rw [hla, en_go hnx (by omega) hq]
    simp only
    have h := fo_tail hd hc h24 he h4 r (k + 1) (m ++ [atH L (k + 1)]) n (by omega) (by simp) (by simp; omega) (by
      rw [la_at]
      simp only [List.length_append, List.length_cons, List.length_nil, Nat.add_sub_cancel]
      exact at_app _ _) (by
      intro x hx
      rw [List.mem_append] at hx
      rcases hx with hx | hx
      · obtain ⟨j, hj, e2⟩ := hin x hx
        exact ⟨j, by omega, e2⟩
      · simp only [List.mem_singleton] at hx
        exact ⟨k + 1, Nat.le_refl _, hx⟩) (by omega)
    refine ⟨h.1, h.2.1, ?_⟩
    rw [h.2.2]
    simp
    omega
end
end Go.Proofs.YtbieljcoaocfkacDoor
/- A line of switches: plain lists. No program in it. -/
namespace Go.Proofs.YtbieljcoaocfkacDoor
open Go.RowKit
set_option linter.unusedVariables false

/-- The links of a line. -/
def lnTo : Nat → List ((Int × Int) × (Int × Int))
  | 0 => []
  | k + 1 => lnTo k ++ [(((k : Int) + 1, 2), ((k : Int) + 1 + 1, 1))]
theorem ln_len (k : Nat) : (lnTo k).length = k := by
  induction k with
  | zero => rfl
  | succ k ih => simp [lnTo, ih]
/-- Its hosts. -/
def lnH (n : Int) : List (ByteArray × (Int × Int)) := [(⟨#[97]⟩, (1, 3)), (⟨#[98]⟩, (n, 4))]
def lnOk (n : Nat) : Bool := decide (tpN n (lnTo (n - 1)) (lnH n) = 0)
theorem ln_ok (n : Nat) (h1 : 1 ≤ n) (h6 : n ≤ 6) : tpN n (lnTo (n - 1)) (lnH n) = 0 := by
  have h : ∀ m ∈ [1, 2, 3, 4, 5, 6], lnOk m = true := by decide +kernel
  have h2 := h n (by simp; omega)
  simpa [lnOk] using h2
theorem ln_7 : tpN 7 (lnTo 6) (lnH 7) ≠ 0 := by decide +kernel
/-- How far, and how many are near, for all lines and switches. -/
def lnAll (n a b : Nat) : Bool := decide (faN n (lnTo (n - 1)) a b = if a < b then (b : Int) - a else (a : Int) - b) && decide (((nrL n (lnTo (n - 1)) a).length : Int) = 2 - (if a = 1 then 1 else 0) - (if a = n then 1 else 0))
theorem ln_all (n a b : Nat) (h1 : 1 ≤ n) (h6 : n ≤ 6) (a1 : 1 ≤ a) (a2 : a ≤ n) (b1 : 1 ≤ b) (b2 : b ≤ n) : lnAll n a b = true := by
  have h : ∀ m ∈ [1, 2, 3, 4, 5, 6], ∀ a ∈ [1, 2, 3, 4, 5, 6], ∀ b ∈ [1, 2, 3, 4, 5, 6], a ≤ m → b ≤ m → lnAll m a b = true := by decide +kernel
  exact h n (by simp; omega) a (by simp; omega) b (by simp; omega) a2 b2
end Go.Proofs.YtbieljcoaocfkacDoor
/- Hops of a right net are right; two switches that send each other all: plain lists. No program in it. -/
namespace Go.Proofs.YtbieljcoaocfkacDoor
open Go.RowKit
set_option linter.unusedVariables false

theorem aph_fin : ∀ s v h : Fin 16, (bits .andNot .i64 ((v : Nat) : Int) ((s : Nat) : Int) == 0) = true → hdrB (apV ((s : Nat) : Int) ((v : Nat) : Int) ((h : Nat) : Int)) = true := by decide +kernel
theorem ap_hdr {p m b o s v h : Int} (hr : apN p m b o s v h = 0) : hdrB (apR p m b o s v h) = true := by
  obtain ⟨h1, h2, _, _⟩ := ap_yes hr
  obtain ⟨g1, _, g3⟩ := ru_ok h1
  obtain ⟨_, hs, hv⟩ := ru_in g1
  obtain ⟨s', rfl⟩ := small hs
  obtain ⟨v', rfl⟩ := small hv
  obtain ⟨h', rfl⟩ := small (hdr_of h2)
  simp only [ruSet, Bool.and_eq_true] at g3
  rw [apR, if_pos hr]
  exact aph_fin s' v' h' g3.1
section
variable {S : Int} {Ls : List ((Int × Int) × (Int × Int))} {Hs : List (ByteArray × (Int × Int))} {Ts : List (List Ru)}
theorem st_hdr {p o : (Int × Int) × Int} (h : stO Ts p = some o) : hdrB o.2 = true ∧ o.1.1 = p.1.1 := by
  unfold stO stT at h
  split at h
  · split at h
    · next hr =>
      cases h
      exact ⟨ap_hdr hr, rfl⟩
    · cases h
  · cases h
theorem peer_sp (ht : tpN S Ls Hs = 0) {s p : Int × Int} (h : peerO Ls s = some p) : spB S p = true := (tp_0 ht).2.2.1 p (peer_in h).2
theorem where_sp (ht : tpN S Ls Hs = 0) {n : ByteArray} {p : Int × Int} (h : whereO Hs n = some p) : spB S p = true := by
  rcases where_ix Hs n with ⟨_, h0⟩ | ⟨k, hk, _, h1⟩
  · rw [h] at h0; cases h0
  · rw [h] at h1
    cases h1
    exact ((tp_0 ht).2.2.2.2.1 _ (List.getElem_mem hk)).2
theorem name_ne (ht : tpN S Ls Hs = 0) : ∀ x ∈ Hs, x.1 ≠ ByteArray.empty := by
  intro x hx e
  have h := ((tp_0 ht).2.2.2.2.1 x hx).1
  rw [e] at h
  revert h
  decide
theorem nx_good (ht : tpN S Ls Hs = 0) {p q : (Int × Int) × Int} (h : NxH Ls Hs Ts p q) : spB S q.1 = true ∧ hdrB q.2 = true := by
  obtain ⟨o, h1, _, h3, h4⟩ := h
  exact ⟨peer_sp ht h3, by rw [h4]; exact (st_hdr h1).1⟩
end
/-- Two switches that send each other all. -/
def ruG : Ru := ⟨1, 0, 0, 2, 0, 0⟩
def ruK : Ru := ⟨1, 0, 0, 1, 0, 0⟩
def ruD (h : Int) : Ru := ⟨5, 15, h, 0, 0, 0⟩
def naA : ByteArray := ⟨#[97]⟩
theorem turn1_fin : ∀ h : Fin 16, (decide (seN 2 (lnTo 1) (lnH 2) [[ruG], [ruK]] naA ((h : Nat) : Int) = 0) && (decide ((seV 2 (lnTo 1) (lnH 2) [[ruG], [ruK]] naA ((h : Nat) : Int)).1 = 4) && decide ((seV 2 (lnTo 1) (lnH 2) [[ruG], [ruK]] naA ((h : Nat) : Int)).2.2.length = 3))) = true := by decide +kernel
theorem turn2_fin : ∀ h : Fin 16, (decide (seN 2 (lnTo 1) (lnH 2) [[ruG], [ruD ((h : Nat) : Int), ruK]] naA ((h : Nat) : Int) = 0) && (decide ((seV 2 (lnTo 1) (lnH 2) [[ruG], [ruD ((h : Nat) : Int), ruK]] naA ((h : Nat) : Int)).1 = 2) && decide ((seV 2 (lnTo 1) (lnH 2) [[ruG], [ruD ((h : Nat) : Int), ruK]] naA ((h : Nat) : Int)).2.2.length = 2))) = true := by decide +kernel
theorem turn1 {h : Int} (hh : hdrB h = true) : seN 2 (lnTo 1) (lnH 2) [[ruG], [ruK]] naA h = 0 ∧ (seV 2 (lnTo 1) (lnH 2) [[ruG], [ruK]] naA h).1 = 4 ∧ (seV 2 (lnTo 1) (lnH 2) [[ruG], [ruK]] naA h).2.2.length = 3 := by
  obtain ⟨h', rfl⟩ := small (hdr_of hh)
  simpa using turn1_fin h'
theorem turn2 {h : Int} (hh : hdrB h = true) : seN 2 (lnTo 1) (lnH 2) [[ruG], [ruD h, ruK]] naA h = 0 ∧ (seV 2 (lnTo 1) (lnH 2) [[ruG], [ruD h, ruK]] naA h).1 = 2 ∧ (seV 2 (lnTo 1) (lnH 2) [[ruG], [ruD h, ruK]] naA h).2.2.length = 2 := by
  obtain ⟨h', rfl⟩ := small (hdr_of hh)
  simpa using turn2_fin h'
theorem turn3_nt : ntN 2 (lnTo 1) (lnH 2) [[], []] = 0 ∧ weN 2 (lnTo 1) (lnH 2) naA = 0 := by decide +kernel
theorem turn3 {h : Int} (hh : hdrB h = false) : seN 2 (lnTo 1) (lnH 2) [[], []] naA h = 1 := by
  unfold seN
  rw [if_pos turn3_nt.1, if_pos turn3_nt.2, hh]
  rfl
end Go.Proofs.YtbieljcoaocfkacDoor
/- What becomes of a packet, one round: plain lists. No program in it. -/
namespace Go.Proofs.YtbieljcoaocfkacDoor
open Go.RowKit
set_option linter.unusedVariables false

section
variable {Ls : List ((Int × Int) × (Int × Int))} {Hs : List (ByteArray × (Int × Int))} {Ts : List (List Ru)} {l : List ((Int × Int) × Int)} {q : (Int × Int) × Int}
theorem fo_r (h : l.length ≤ 24) : foF Ls Hs Ts (25 - l.length) l = match enE Ls Hs Ts l (laH l) with | .inl e => (e.1, e.2, l) | .inr p => foF Ls Hs Ts (24 - l.length) (l ++ [p]) := by
  have e : 25 - l.length = (24 - l.length) + 1 := by omega
  rw [e]
  exact fo_s _ _
theorem fo_2 (h : l.length ≤ 24) (hA : stO Ts (laH l) = none) : foF Ls Hs Ts (25 - l.length) l = (2, ByteArray.empty, l) := by
  have e : enE Ls Hs Ts l (laH l) = .inl (2, ByteArray.empty) := by
    unfold enE goE
    rw [show stT (taT Ts (laH l).1.1) (laH l) = none from hA]
  rw [fo_r h, e]
theorem fo_1 (h : l.length ≤ 24) (hA : stO Ts (laH l) = some q) {m : ByteArray} (ha : atO Hs q.1 = some m) : foF Ls Hs Ts (25 - l.length) l = (1, m, l) := by
  have e : enE Ls Hs Ts l (laH l) = .inl (1, m) := by
    unfold enE goE
    rw [show stT (taT Ts (laH l).1.1) (laH l) = some q from hA]
    simp only [ha]
  rw [fo_r h, e]
theorem fo_3 (h : l.length ≤ 24) (hA : stO Ts (laH l) = some q) (ha : atO Hs q.1 = none) (hp : peerO Ls q.1 = none) : foF Ls Hs Ts (25 - l.length) l = (3, ByteArray.empty, l) := by
  have e : enE Ls Hs Ts l (laH l) = .inl (3, ByteArray.empty) := by
    unfold enE goE
    rw [show stT (taT Ts (laH l).1.1) (laH l) = some q from hA]
    simp only [ha, hp]
  rw [fo_r h, e]
theorem fo_4 (h : l.length ≤ 24) (hA : stO Ts (laH l) = some q) (ha : atO Hs q.1 = none) {s : Int × Int} (hp : peerO Ls q.1 = some s) (h4 : l.length = 24 ∨ (l.any fun x => heB (s, q.2) x) = true) : foF Ls Hs Ts (25 - l.length) l = (4, ByteArray.empty, l) := by
  have e : enE Ls Hs Ts l (laH l) = .inl (4, ByteArray.empty) := by
    unfold enE goE
    rw [show stT (taT Ts (laH l).1.1) (laH l) = some q from hA]
    simp only [ha, hp]
    rw [if_pos h4]
  rw [fo_r h, e]
theorem fo_n (h : l.length ≤ 24) (hA : stO Ts (laH l) = some q) (ha : atO Hs q.1 = none) {s : Int × Int} (hp : peerO Ls q.1 = some s) (h4 : l.length ≠ 24) (h5 : (l.any fun x => heB (s, q.2) x) = false) : foF Ls Hs Ts (25 - l.length) l = foF Ls Hs Ts (25 - (l ++ [(s, q.2)]).length) (l ++ [(s, q.2)]) := by
  have e : enE Ls Hs Ts l (laH l) = .inr (s, q.2) := by
    unfold enE goE
    rw [show stT (taT Ts (laH l).1.1) (laH l) = some q from hA]
    simp only [ha, hp]
    rw [if_neg]
    rw [not_or, h5]
    exact ⟨h4, by simp⟩
  rw [fo_r h, e]
  simp only [List.length_append, List.length_cons, List.length_nil]
  rw [show 24 - l.length = 25 - (l.length + (0 + 1)) by omega]
theorem la_app (l : List ((Int × Int) × Int)) (p : (Int × Int) × Int) : laH (l ++ [p]) = p := by
  rw [la_at]
  simp only [List.length_append, List.length_cons, List.length_nil, Nat.add_sub_cancel, Nat.zero_add]
  exact at_app l p
end
end Go.Proofs.YtbieljcoaocfkacDoor
/- What topo.checkSpot answers: a contract for the walks above it. -/
namespace Go.Proofs.YtbieljcoaocfkacDoor
open Go.RowKit
set_option linter.unusedSimpArgs false
set_option linter.unusedVariables false

set_option maxHeartbeats 1000000 in
set_option maxRecDepth 100000 in
theorem checkSpot_any (S : Int) (ao : Option Addr) (n cap : Nat) (ao2 : Option Addr) (n2 cap2 : Nat) (Ls : List ((Int × Int) × (Int × Int))) (Hs : List (ByteArray × (Int × Int))) (x y : Int) (w : World)
    (hL : GS lnkE w (.slice ao n cap) Ls) (hH : GS hstE w (.slice ao2 n2 cap2) Hs) :
    Calls Tryd.prog 37 #[.agg #[.int .i64 S, .slice ao n cap, .slice ao2 n2 cap2], .agg #[.int .i64 x, .int .i64 y]] w fun e w' => e = .returned (noV (csN S Ls Hs (x, y))) ∧ Below w.heap.size w w' := by
  have hb1 : Below w.heap.size w (w.alloc (Obj.cells #[.int .i64 S, .slice ao n cap, .slice ao2 n2 cap2] 25)) := (Below.refl _ _).alloc (Nat.le_refl _) _
  have hb2 : Below w.heap.size w ((w.alloc (Obj.cells #[.int .i64 S, .slice ao n cap, .slice ao2 n2 cap2] 25)).alloc (Obj.cells #[.int .i64 x, .int .i64 y] 27)) := hb1.alloc hb1.size _
  have hX : TBox ((w.alloc (Obj.cells #[.int .i64 S, .slice ao n cap, .slice ao2 n2 cap2] 25)).alloc (Obj.cells #[.int .i64 x, .int .i64 y] 27)) w.heap.size S (.slice ao n cap) (.slice ao2 n2 cap2) :=
    (tbox_new w S _ _ 25).later ((Below.refl _ _).alloc (Nat.le_refl _) _)
  have hS0 : VAt ((w.alloc (Obj.cells #[.int .i64 S, .slice ao n cap, .slice ao2 n2 cap2] 25)).alloc (Obj.cells #[.int .i64 x, .int .i64 y] 27)) (w.heap.size + 1) 0 (spoE.c (x, y)) := by
    have h := spo_new (w.alloc (Obj.cells #[.int .i64 S, .slice ao n cap, .slice ao2 n2 cap2] 25)) x y 27
    simpa using h
  obtain ⟨C, hC⟩ : ∃ C, C = csN S Ls Hs (x, y) := ⟨_, rfl⟩
  have HC : Hid (C = csN S Ls Hs (x, y)) := hC
  rw [← hC]
  have HL2 : Hid (GS lnkE ((w.alloc (Obj.cells #[.int .i64 S, .slice ao n cap, .slice ao2 n2 cap2] 25)).alloc (Obj.cells #[.int .i64 x, .int .i64 y] 27)) (.slice ao n cap) Ls) := hL.later hb2
  have HH2 : Hid (GS hstE ((w.alloc (Obj.cells #[.int .i64 S, .slice ao n cap, .slice ao2 n2 cap2] 25)).alloc (Obj.cells #[.int .i64 x, .int .i64 y] 27)) (.slice ao2 n2 cap2) Hs) := hH.later hb2
  have HB2 : Hid (Below w.heap.size w ((w.alloc (Obj.cells #[.int .i64 S, .slice ao n cap, .slice ao2 n2 cap2] 25)).alloc (Obj.cells #[.int .i64 x, .int .i64 y] 27))) := hb2
  have HX : Hid (TBox ((w.alloc (Obj.cells #[.int .i64 S, .slice ao n cap, .slice ao2 n2 cap2] 25)).alloc (Obj.cells #[.int .i64 x, .int .i64 y] 27)) w.heap.size S (.slice ao n cap) (.slice ao2 n2 cap2)) := hX
  have HS0 : Hid (VAt ((w.alloc (Obj.cells #[.int .i64 S, .slice ao n cap, .slice ao2 n2 cap2] 25)).alloc (Obj.cells #[.int .i64 x, .int .i64 y] 27)) (w.heap.size + 1) 0 (spoE.c (x, y))) := hS0
  clear hC hb1 hb2 hX hS0 hL hH
  go_enter Tryd.func37, Tryd.ntmps37
  go_wp2_with fail
  refine (check_any S ao n cap ao2 n2 cap2 Ls Hs _ HL2.out HH2.out).mono ?_
  rintro e w1 ⟨rfl, hb1⟩
  obtain ⟨T, hT⟩ : ∃ T, T = tpN S Ls Hs := ⟨_, rfl⟩
  have HT : Hid (T = tpN S Ls Hs) := hT
  rw [← hT]
  have hB1 := HB2.out.trans (hb1.mono HB2.out.size)
  have HB1 : Hid (Below w.heap.size w w1) := hB1
  obtain ⟨b0, b1, b2⟩ := HX.out.later hb1
  obtain ⟨s0, s1⟩ := spo_cells (HS0.out.later hb1)
  simp only [Nat.zero_add] at s0 s1
  clear hT hb1 hB1 HX HS0 HL2 HH2 HB2
  by_cases h0 : T = 0
  · subst h0
    rw [no_ok rfl]
    go_wp2_with fail
    refine (isSpot_any S x y _).mono ?_
    rintro e w2 ⟨rfl, hb2⟩
    have HB3 : Hid (Below w.heap.size w w2) := HB1.out.trans (hb2.mono HB1.out.size)
    clear hb2
    cases hs : spB S (x, y)
    · have HC2 : Hid (C = 1) := by
        show _ = _
        rw [HC.out, csN, if_pos HT.out.symm, hs]
        rfl
      go_wp2
      go_ret
      exact ⟨by rw [HC2.out]; rfl, HB3.out⟩
    · have HC2 : Hid (C = 0) := by
        show _ = _
        rw [HC.out, csN, if_pos HT.out.symm, hs]
        rfl
      go_wp2
      go_ret
      exact ⟨by rw [HC2.out]; rfl, HB3.out⟩
  · rw [no_ne h0]
    have HC2 : Hid (C = T) := by
      show _ = _
      rw [HC.out, csN, ← HT.out, if_neg h0]
    have HN0 : Hid (T ≠ 0) := h0
    clear h0
    go_wp2
    go_ret
    exact ⟨by rw [HC2.out, no_ne HN0.out]; rfl, HB1.out⟩
end Go.Proofs.YtbieljcoaocfkacDoor
/- What topo.Peers answers: a contract for the walks above it. -/
namespace Go.Proofs.YtbieljcoaocfkacDoor
open Go.RowKit
set_option linter.unusedSimpArgs false
set_option linter.unusedVariables false

/-- Spots as elements. -/
def veS (p : Int × Int) : Value := .agg #[.int .i64 p.1, .int .i64 p.2]
set_option maxHeartbeats 2000000 in
set_option maxRecDepth 100000 in
theorem peers_any (ao : Option Addr) (n cap : Nat) (Ls : List ((Int × Int) × (Int × Int))) (w : World) (hL : GS lnkE w (.slice ao n cap) Ls) (hd : (spsL Ls).Nodup) (h1000 : n ≤ 1000) :
    Calls Tryd.prog 38 #[.slice ao n cap] w fun e w' => ∃ B M, e = .returned (.map (some B)) ∧ MAt spotKey veS w' B M ∧ PM M Ls ∧ Below w.heap.size w w' := by
  obtain ⟨_, _, _, e1, hLn, hLm, _, hLa⟩ := hL.form
  cases e1
  have HLN : Hid (Ls.length = n) := hLn
  have HLA : Hid (0 < n → ∃ g o, ao = some ⟨g, o, none⟩ ∧ GAt lnkE w g o Ls ∧ cap ≤ maxLen) := hLa
  have HND : Hid ((spsL Ls).Nodup) := hd
  have hmk := run_makeMap (P := Tryd.prog) 92 w
  have HM1 : Hid (MAt spotKey veS (w.alloc (.map #[] 0)) w.heap.size []) := mat_new spotKey veS w
  clear hL hLn hLm hLa hd
  go_enter Tryd.func38, Tryd.ntmps38
  go_wp2
  obtain ⟨B, hB⟩ : ∃ x, w.heap.size = x := ⟨_, rfl⟩
  have HB : Hid (w.heap.size = B) := hB
  go_loopw [9] (fun i wr => ∃ k : Nat, k ≤ n ∧ i = .int .i64 k ∧ (∃ M, MAt spotKey veS wr w.heap.size M ∧ PM M (Ls.take k)) ∧ Below w.heap.size w wr) (fun i _ => n - (intOf i).toNat)
  case atStart => exact ⟨0, by omega, rfl, ⟨[], HM1.out, by simpa using pm_nil⟩, (Below.refl _ _).alloc (Nat.le_refl _) _⟩
  case round =>
    obtain ⟨k, hk, rfl, ⟨M, hM, hP⟩, hBw⟩ := hrel
    have HM : Hid (MAt spotKey veS wr w.heap.size M) := hM
    have HP : Hid (PM M (Ls.take k)) := hP
    have HBw : Hid (Below w.heap.size w wr) := hBw
    clear hB
    by_cases hlt : k < n
    · obtain ⟨g, o, hao, hc, _⟩ := HLA.out (by omega)
      subst hao
      obtain ⟨x0, x1, x2, x3, hkl, hLk, q0, q1, q2, q3⟩ := lnk_at (hc.later hBw) HLN.out hlt
      have HLk : Hid (Ls[k] = ((x0, x1), (x2, x3))) := hLk
      obtain ⟨W0, hW0⟩ : ∃ W0, wr.alloc (Obj.cells #[Value.int IntKind.i64 x0, Value.int IntKind.i64 x1, Value.int IntKind.i64 x2, Value.int IntKind.i64 x3] 83) = W0 := ⟨_, rfl⟩
      have hBA : Below wr.heap.size wr W0 := by
        rw [← hW0]
        exact (Below.refl _ _).alloc (Nat.le_refl _) _
      obtain ⟨c0, c1, c2, c3⟩ := lnk_cells (lnk_new wr x0 x1 x2 x3 83)
      simp only [Nat.zero_add] at c0 c1 c2 c3
      rw [hW0] at c0 c1 c2 c3
      have hM0 : MAt spotKey veS W0.drew w.heap.size M := hM.later hBA.drew
      obtain ⟨w3, hu1, hM3, hg3⟩ := run_update_M hM0 92 27 Tryd.underlying92 (x0, x1) (x2, x3)
      obtain ⟨w4, hu2, hM4, hg4⟩ := run_update_M hM3 92 27 Tryd.underlying92 (x2, x3) (x0, x1)
      have hlw : w.heap.size < wr.heap.size := hM.lt
      have hlW : wr.heap.size < W0.drew.heap.size := World.block_lt_of_cell? _ _ c0
      have hk3 : ∀ i, w3.cell? ⟨wr.heap.size, i, none⟩ = W0.cell? ⟨wr.heap.size, i, none⟩ := fun i => World.cell?_of_block (w := W0) (a := ⟨wr.heap.size, i, none⟩) (hg3.block wr.heap.size hlW (fun e => by simp only [Option.some.injEq] at e; omega))
      have d0 := (hk3 0).trans c0
      have d1 := (hk3 1).trans c1
      have d2 := (hk3 2).trans c2
      have d3 := (hk3 3).trans c3
      have v1 : (Instr.mapUpdate 92 (.map (some w.heap.size)) (.agg #[.int .i64 x0, .int .i64 x1]) (.agg #[.int .i64 x2, .int .i64 x3])).run Tryd.prog W0.drew = .ok () w3 := hu1
      have v2 : (Instr.mapUpdate 92 (.map (some w.heap.size)) (.agg #[.int .i64 x2, .int .i64 x3]) (.agg #[.int .i64 x0, .int .i64 x1])).run Tryd.prog w3 = .ok () w4 := hu2
      have HM4 : Hid (MAt spotKey veS w4 w.heap.size (mput sq (x2, x3) (x0, x1) (mput sq (x0, x1) (x2, x3) M))) := hM4
      have HP4 : Hid (PM (mput sq (x2, x3) (x0, x1) (mput sq (x0, x1) (x2, x3) M)) (Ls.take (k + 1))) := by
        have e : Ls.take (k + 1) = Ls.take k ++ [((x0, x1), (x2, x3))] := by rw [List.take_succ_eq_append_getElem hkl, hLk]
        show PM _ _
        rw [e]
        refine pm_put hP ?_
        rw [← e]
        exact sps_nd HND.out _
      have HB4 : Hid (Below w.heap.size w w4) := by
        have h0 : Below w.heap.size w W0.drew := (hBw.trans (hBA.mono hBw.size)).drew
        exact (h0.grown hg3 h0.size (fun j e => by cases e; exact Nat.le_refl _)).grown hg4 (Nat.le_trans h0.size hg3.size) (fun j e => by cases e; exact Nat.le_refl _)
      have kb0 : (0 : Int) ≤ (k : Int) := by omega
      have kb1 : (k : Int) < (n : Int) := by omega
      clear hk3 hlw hlW hu1 hu2 hM3 hM4 hg3 hg4 hM0 hM hP hc hLk hBw hBA
      go_upto_region 5 with fail
      clear q0 q1 q2 q3
      go_region
      go_wp2
      go_roundw
      case rel => exact ⟨k + 1, by omega, by go_num, ⟨_, HM4.out, HP4.out⟩, HB4.out⟩
      case measure => simp [intOf]; omega
    · obtain rfl : k = n := by omega
      clear hM hP hBw
      go_wp2
      go_ret
      exact ⟨_, M, rfl, HM.out, by have := HP.out; rw [← HLN.out, List.take_length] at this; exact this, HBw.out⟩
end Go.Proofs.YtbieljcoaocfkacDoor
