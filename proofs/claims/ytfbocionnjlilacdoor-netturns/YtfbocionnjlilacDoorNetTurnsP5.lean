/- Contracts and facts on the way to NetTurns, joined into one text: TopoSpot, TopoPeers, TopoPeer, SlHop, HopHas, SlHost, StrClone, OwnRow, OwnInts, NetFollow, TopoWhere. -/
import Derived.Test.YtfbocionnjlilacDoorNetTurnsP3
import Derived.Test.YtfbocionnjlilacDoorNetTurnsP2
import Derived.Test.YtfbocionnjlilacDoorNetTurnsP4
import Derived.BigRegion
import Derived.Carry
import Derived.WalkKit
import Derived.WalkSpells
import Derived.Below
import Derived.Deep.CutRange
import Derived.Deep.CutBlock
import Derived.Deep.RegionWith
import Derived.Shelf.Abstract
import Derived.Test.YtfbocionnjlilacDoorRows
import Derived.Lib.Strings
import Derived.Lib.Walk
import Derived.Lib.BufferWrite
import Derived.Lib.UnsafeStr
import Derived.Laws.MakeOwn
import Derived.Deep.RegionHeld3
/- What topo.checkSpot answers: a contract for the walks above it. -/
namespace Go.Proofs.YtfbocionnjlilacDoor
open Go.RowKit
set_option linter.unusedSimpArgs false
set_option linter.unusedVariables false

set_option maxHeartbeats 1000000 in
set_option maxRecDepth 100000 in
theorem checkSpot_any (S : Int) (ao : Option Addr) (n cap : Nat) (ao2 : Option Addr) (n2 cap2 : Nat) (Ls : List ((Int × Int) × (Int × Int))) (Hs : List (ByteArray × (Int × Int))) (x y : Int) (w : World)
    (hL : GS lnkE w (.slice ao n cap) Ls) (hH : GS hstE w (.slice ao2 n2 cap2) Hs) :
    Calls Tryd.prog 37 #[.agg #[.int .i64 S, .slice ao n cap, .slice ao2 n2 cap2], .agg #[.int .i64 x, .int .i64 y]] w fun e w' => e = .returned (noV (csN S Ls Hs (x, y))) ∧ Below w.heap.size w w' := by
  have hb1 : Below w.heap.size w (w.alloc (Obj.cells #[.int .i64 S, .slice ao n cap, .slice ao2 n2 cap2] 25)) := (Below.refl _ _).alloc (Nat.le_refl _) _
  have hb2 : Below w.heap.size w ((w.alloc (Obj.cells #[.int .i64 S, .slice ao n cap, .slice ao2 n2 cap2] 25)).alloc (Obj.cells #[.int .i64 x, .int .i64 y] 27)) := hb1.alloc hb1.size _
  have hX : TBox ((w.alloc (Obj.cells #[.int .i64 S, .slice ao n cap, .slice ao2 n2 cap2] 25)).alloc (Obj.cells #[.int .i64 x, .int .i64 y] 27)) w.heap.size S (.slice ao n cap) (.slice ao2 n2 cap2) :=
    (tbox_new w S _ _ 25).later ((Below.refl _ _).alloc (Nat.le_refl _) _)
  have hS0 : VAt ((w.alloc (Obj.cells #[.int .i64 S, .slice ao n cap, .slice ao2 n2 cap2] 25)).alloc (Obj.cells #[.int .i64 x, .int .i64 y] 27)) (w.heap.size + 1) 0 (spoE.c (x, y)) := by
    have h := spo_new (w.alloc (Obj.cells #[.int .i64 S, .slice ao n cap, .slice ao2 n2 cap2] 25)) x y 27
    simpa using h
  obtain ⟨C, hC⟩ : ∃ C, C = csN S Ls Hs (x, y) := ⟨_, rfl⟩
  have HC : Hid (C = csN S Ls Hs (x, y)) := hC
  rw [← hC]
  have HL2 : Hid (GS lnkE ((w.alloc (Obj.cells #[.int .i64 S, .slice ao n cap, .slice ao2 n2 cap2] 25)).alloc (Obj.cells #[.int .i64 x, .int .i64 y] 27)) (.slice ao n cap) Ls) := hL.later hb2
  have HH2 : Hid (GS hstE ((w.alloc (Obj.cells #[.int .i64 S, .slice ao n cap, .slice ao2 n2 cap2] 25)).alloc (Obj.cells #[.int .i64 x, .int .i64 y] 27)) (.slice ao2 n2 cap2) Hs) := hH.later hb2
  have HB2 : Hid (Below w.heap.size w ((w.alloc (Obj.cells #[.int .i64 S, .slice ao n cap, .slice ao2 n2 cap2] 25)).alloc (Obj.cells #[.int .i64 x, .int .i64 y] 27))) := hb2
  have HX : Hid (TBox ((w.alloc (Obj.cells #[.int .i64 S, .slice ao n cap, .slice ao2 n2 cap2] 25)).alloc (Obj.cells #[.int .i64 x, .int .i64 y] 27)) w.heap.size S (.slice ao n cap) (.slice ao2 n2 cap2)) := hX
  have HS0 : Hid (VAt ((w.alloc (Obj.cells #[.int .i64 S, .slice ao n cap, .slice ao2 n2 cap2] 25)).alloc (Obj.cells #[.int .i64 x, .int .i64 y] 27)) (w.heap.size + 1) 0 (spoE.c (x, y))) := hS0
  clear hC hb1 hb2 hX hS0 hL hH
  go_enter Tryd.func37, Tryd.ntmps37
  go_wp2_with fail
  refine (check_any S ao n cap ao2 n2 cap2 Ls Hs _ HL2.out HH2.out).mono ?_
  rintro e w1 ⟨rfl, hb1⟩
  obtain ⟨T, hT⟩ : ∃ T, T = tpN S Ls Hs := ⟨_, rfl⟩
  have HT : Hid (T = tpN S Ls Hs) := hT
  rw [← hT]
  have hB1 := HB2.out.trans (hb1.mono HB2.out.size)
  have HB1 : Hid (Below w.heap.size w w1) := hB1
  obtain ⟨b0, b1, b2⟩ := HX.out.later hb1
  obtain ⟨s0, s1⟩ := spo_cells (HS0.out.later hb1)
  simp only [Nat.zero_add] at s0 s1
  clear hT hb1 hB1 HX HS0 HL2 HH2 HB2
  by_cases h0 : T = 0
  · subst h0
    rw [no_ok rfl]
    go_wp2_with fail
    refine (isSpot_any S x y _).mono ?_
    rintro e w2 ⟨rfl, hb2⟩
    have HB3 : Hid (Below w.heap.size w w2) := HB1.out.trans (hb2.mono HB1.out.size)
    clear hb2
    cases hs : spB S (x, y)
    · have HC2 : Hid (C = 1) := by
        show _ = _
        rw [HC.out, csN, if_pos HT.out.symm, hs]
        rfl
      go_wp2
      go_ret
      exact ⟨by rw [HC2.out]; rfl, HB3.out⟩
    · have HC2 : Hid (C = 0) := by
        show _ = _
        rw [HC.out, csN, if_pos HT.out.symm, hs]
        rfl
      go_wp2
      go_ret
      exact ⟨by rw [HC2.out]; rfl, HB3.out⟩
  · rw [no_ne h0]
    have HC2 : Hid (C = T) := by
      show _ = _
      rw [HC.out, csN, ← HT.out, if_neg h0]
    have HN0 : Hid (T ≠ 0) := h0
    clear h0
    go_wp2
    go_ret
    exact ⟨by rw [HC2.out, no_ne HN0.out]; rfl, HB1.out⟩
end Go.Proofs.YtfbocionnjlilacDoor
/- What topo.Peers answers: a contract for the walks above it. -/
namespace Go.Proofs.YtfbocionnjlilacDoor
open Go.RowKit
set_option linter.unusedSimpArgs false
set_option linter.unusedVariables false

/-- Spots as elements. -/
def veS (p : Int × Int) : Value := .agg #[.int .i64 p.1, .int .i64 p.2]
set_option maxHeartbeats 2000000 in
set_option maxRecDepth 100000 in
theorem peers_any (ao : Option Addr) (n cap : Nat) (Ls : List ((Int × Int) × (Int × Int))) (w : World) (hL : GS lnkE w (.slice ao n cap) Ls) (hd : (spsL Ls).Nodup) (h1000 : n ≤ 1000) :
    Calls Tryd.prog 38 #[.slice ao n cap] w fun e w' => ∃ B M, e = .returned (.map (some B)) ∧ MAt spotKey veS w' B M ∧ PM M Ls ∧ Below w.heap.size w w' := by
  obtain ⟨_, _, _, e1, hLn, hLm, _, hLa⟩ := hL.form
  cases e1
  have HLN : Hid (Ls.length = n) := hLn
  have HLA : Hid (0 < n → ∃ g o, ao = some ⟨g, o, none⟩ ∧ GAt lnkE w g o Ls ∧ cap ≤ maxLen) := hLa
  have HND : Hid ((spsL Ls).Nodup) := hd
  have hmk := run_makeMap (P := Tryd.prog) 92 w
  have HM1 : Hid (MAt spotKey veS (w.alloc (.map #[] 0)) w.heap.size []) := mat_new spotKey veS w
  clear hL hLn hLm hLa hd
  go_enter Tryd.func38, Tryd.ntmps38
  go_wp2
  obtain ⟨B, hB⟩ : ∃ x, w.heap.size = x := ⟨_, rfl⟩
  have HB : Hid (w.heap.size = B) := hB
  go_loopw [9] (fun i wr => ∃ k : Nat, k ≤ n ∧ i = .int .i64 k ∧ (∃ M, MAt spotKey veS wr w.heap.size M ∧ PM M (Ls.take k)) ∧ Below w.heap.size w wr) (fun i _ => n - (intOf i).toNat)
  case atStart => exact ⟨0, by omega, rfl, ⟨[], HM1.out, by simpa using pm_nil⟩, (Below.refl _ _).alloc (Nat.le_refl _) _⟩
  case round =>
    obtain ⟨k, hk, rfl, ⟨M, hM, hP⟩, hBw⟩ := hrel
    have HM : Hid (MAt spotKey veS wr w.heap.size M) := hM
    have HP : Hid (PM M (Ls.take k)) := hP
    have HBw : Hid (Below w.heap.size w wr) := hBw
    clear hB
    by_cases hlt : k < n
    · obtain ⟨g, o, hao, hc, _⟩ := HLA.out (by omega)
      subst hao
      obtain ⟨x0, x1, x2, x3, hkl, hLk, q0, q1, q2, q3⟩ := lnk_at (hc.later hBw) HLN.out hlt
      have HLk : Hid (Ls[k] = ((x0, x1), (x2, x3))) := hLk
      obtain ⟨W0, hW0⟩ : ∃ W0, wr.alloc (Obj.cells #[Value.int IntKind.i64 x0, Value.int IntKind.i64 x1, Value.int IntKind.i64 x2, Value.int IntKind.i64 x3] 83) = W0 := ⟨_, rfl⟩
      have hBA : Below wr.heap.size wr W0 := by
        rw [← hW0]
        exact (Below.refl _ _).alloc (Nat.le_refl _) _
      obtain ⟨c0, c1, c2, c3⟩ := lnk_cells (lnk_new wr x0 x1 x2 x3 83)
      simp only [Nat.zero_add] at c0 c1 c2 c3
      rw [hW0] at c0 c1 c2 c3
      have hM0 : MAt spotKey veS W0.drew w.heap.size M := hM.later hBA.drew
      obtain ⟨w3, hu1, hM3, hg3⟩ := run_update_M hM0 92 27 Tryd.underlying92 (x0, x1) (x2, x3)
      obtain ⟨w4, hu2, hM4, hg4⟩ := run_update_M hM3 92 27 Tryd.underlying92 (x2, x3) (x0, x1)
      have hlw : w.heap.size < wr.heap.size := hM.lt
      have hlW : wr.heap.size < W0.drew.heap.size := World.block_lt_of_cell? _ _ c0
      have hk3 : ∀ i, w3.cell? ⟨wr.heap.size, i, none⟩ = W0.cell? ⟨wr.heap.size, i, none⟩ := fun i => World.cell?_of_block (w := W0) (a := ⟨wr.heap.size, i, none⟩) (hg3.block wr.heap.size hlW (fun e => by simp only [Option.some.injEq] at e; omega))
      have d0 := (hk3 0).trans c0
      have d1 := (hk3 1).trans c1
      have d2 := (hk3 2).trans c2
      have d3 := (hk3 3).trans c3
      have v1 : (Instr.mapUpdate 92 (.map (some w.heap.size)) (.agg #[.int .i64 x0, .int .i64 x1]) (.agg #[.int .i64 x2, .int .i64 x3])).run Tryd.prog W0.drew = .ok () w3 := hu1
      have v2 : (Instr.mapUpdate 92 (.map (some w.heap.size)) (.agg #[.int .i64 x2, .int .i64 x3]) (.agg #[.int .i64 x0, .int .i64 x1])).run Tryd.prog w3 = .ok () w4 := hu2
      have HM4 : Hid (MAt spotKey veS w4 w.heap.size (mput sq (x2, x3) (x0, x1) (mput sq (x0, x1) (x2, x3) M))) := hM4
      have HP4 : Hid (PM (mput sq (x2, x3) (x0, x1) (mput sq (x0, x1) (x2, x3) M)) (Ls.take (k + 1))) := by
        have e : Ls.take (k + 1) = Ls.take k ++ [((x0, x1), (x2, x3))] := by rw [List.take_succ_eq_append_getElem hkl, hLk]
        show PM _ _
        rw [e]
        refine pm_put hP ?_
        rw [← e]
        exact sps_nd HND.out _
      have HB4 : Hid (Below w.heap.size w w4) := by
        have h0 : Below w.heap.size w W0.drew := (hBw.trans (hBA.mono hBw.size)).drew
        exact (h0.grown hg3 h0.size (fun j e => by cases e; exact Nat.le_refl _)).grown hg4 (Nat.le_trans h0.size hg3.size) (fun j e => by cases e; exact Nat.le_refl _)
      have kb0 : (0 : Int) ≤ (k : Int) := by omega
      have kb1 : (k : Int) < (n : Int) := by omega
      clear hk3 hlw hlW hu1 hu2 hM3 hM4 hg3 hg4 hM0 hM hP hc hLk hBw hBA
      go_upto_region 5 with fail
      clear q0 q1 q2 q3
      go_region
      go_wp2
      go_roundw
      case rel => exact ⟨k + 1, by omega, by go_num, ⟨_, HM4.out, HP4.out⟩, HB4.out⟩
      case measure => simp [intOf]; omega
    · obtain rfl : k = n := by omega
      clear hM hP hBw
      go_wp2
      go_ret
      exact ⟨_, M, rfl, HM.out, by have := HP.out; rw [← HLN.out, List.take_length] at this; exact this, HBw.out⟩
end Go.Proofs.YtfbocionnjlilacDoor
/- What topo.Peer answers: a contract for the walks above it. -/
namespace Go.Proofs.YtfbocionnjlilacDoor
open Go.RowKit
set_option linter.unusedSimpArgs false
set_option linter.unusedVariables false

/-- The three boxes of a call: a topology, a spot, the answer. -/
def pbox (w : World) (S : Int) (v1 v2 : Value) (x y : Int) : World := ((w.alloc (Obj.cells #[.int .i64 S, v1, v2] 25)).alloc (Obj.cells #[.int .i64 x, .int .i64 y] 27)).alloc (Obj.cells #[.int .i64 0, .int .i64 0] 27)
structure PBox (w W : World) (S : Int) (v1 v2 : Value) (x y : Int) : Prop where
  below : Below w.heap.size w W
  t : TBox W w.heap.size S v1 v2
  s0 : W.cell? ⟨w.heap.size + 1, 0, none⟩ = some (.int .i64 x)
  s1 : W.cell? ⟨w.heap.size + 1, 1, none⟩ = some (.int .i64 y)
  r0 : W.cell? ⟨w.heap.size + 1 + 1, 0, none⟩ = some (.int .i64 0)
  r1 : W.cell? ⟨w.heap.size + 1 + 1, 1, none⟩ = some (.int .i64 0)
  f : ∀ i, W.frozen? ⟨w.heap.size + 1 + 1, i, none⟩ = false
theorem froz_new2 (w : World) (cs : Array Value) (t : TypeId) (k : Nat) : (w.alloc (.cells cs t)).frozen? ⟨w.heap.size, k, none⟩ = false := by simp
theorem pbox_new (w : World) (S : Int) (v1 v2 : Value) (x y : Int) : PBox w (pbox w S v1 v2 x y) S v1 v2 x y := by
  have e1 : (w.alloc (Obj.cells #[.int .i64 S, v1, v2] 25)).heap.size = w.heap.size + 1 := by simp
  have e2 : ((w.alloc (Obj.cells #[.int .i64 S, v1, v2] 25)).alloc (Obj.cells #[.int .i64 x, .int .i64 y] 27)).heap.size = w.heap.size + 1 + 1 := by simp
  have hb : ∀ (W : World) (o : Obj), Below W.heap.size W (W.alloc o) := fun W o => (Below.refl _ _).alloc (Nat.le_refl _) _
  have hs := (vat_new (w.alloc (Obj.cells #[.int .i64 S, v1, v2] 25)) [.int .i64 x, .int .i64 y] 27).later (hb _ (Obj.cells #[.int .i64 0, .int .i64 0] 27))
  rw [e1] at hs
  have hr := vat_new ((w.alloc (Obj.cells #[.int .i64 S, v1, v2] 25)).alloc (Obj.cells #[.int .i64 x, .int .i64 y] 27)) [.int .i64 0, .int .i64 0] 27
  rw [e2] at hr
  have hf := froz_new2 ((w.alloc (Obj.cells #[.int .i64 S, v1, v2] 25)).alloc (Obj.cells #[.int .i64 x, .int .i64 y] 27)) #[.int .i64 0, .int .i64 0] 27
  rw [e2] at hf
  exact ⟨(((Below.refl _ _).alloc (Nat.le_refl _) _).alloc (by rw [e1]; omega) _).alloc (by rw [e2]; omega) _, ((tbox_new w S v1 v2 25).later (hb _ _)).later (hb _ _), hs 0 _ rfl, hs 1 _ rfl, hr 0 _ rfl, hr 1 _ rfl, hf⟩
theorem PBox.later {w W W' : World} {S : Int} {v1 v2 : Value} {x y : Int} (h : PBox w W S v1 v2 x y) (hb : Below W.heap.size W W') : PBox w W' S v1 v2 x y :=
  ⟨h.below.trans (hb.mono h.below.size), h.t.later hb, cell_later hb h.s0, cell_later hb h.s1, cell_later hb h.r0, cell_later hb h.r1, fun i => (hb.frozen (p := ⟨w.heap.size + 1 + 1, i, none⟩) (show (⟨w.heap.size + 1 + 1, 0, none⟩ : Addr).block < W.heap.size from World.block_lt_of_cell? W ⟨w.heap.size + 1 + 1, 0, none⟩ h.r0)).trans (h.f i)⟩
theorem below_two2 {w W : World} (h : Below w.heap.size w W) (g : Nat) (hg : w.heap.size ≤ g) (u v : Value) : Below w.heap.size w ((W.setCell ⟨g, 0, none⟩ u).setCell ⟨g, 1, none⟩ v) := (h.setCell (p := ⟨g, 0, none⟩) hg u).setCell (p := ⟨g, 1, none⟩) hg v
theorem bdrew {w w' : World} (hb : Below w.drew.heap.size w.drew w') : Below w.heap.size w w' := (Below.drew (Below.refl _ _)).trans hb
theorem balloc {w w' : World} {o : Obj} (hb : Below (w.drew.alloc o).heap.size (w.drew.alloc o) w') : Below w.heap.size w w' := ((Below.drew (Below.refl _ _)).alloc (Nat.le_refl _) o).trans (hb.mono (by simp))
theorem ballocC {w w' : World} {a b : Value} {t : TypeId} (hb : Below (w.drew.alloc (Obj.cells #[a, b] t)).heap.size (w.drew.alloc (Obj.cells #[a, b] t)) w') : w'.cell? ⟨w.heap.size, 0, none⟩ = some a ∧ w'.cell? ⟨w.heap.size, 1, none⟩ = some b ∧ w'.frozen? ⟨w.heap.size, 0, none⟩ = false ∧ w'.frozen? ⟨w.heap.size, 1, none⟩ = false := by
  have h := vat_new w.drew [a, b] t
  have hl : w.heap.size < (w.drew.alloc (Obj.cells #[a, b] t)).heap.size := by simp
  exact ⟨cell_later hb (h 0 _ rfl), cell_later hb (h 1 _ rfl), (hb.frozen (p := ⟨w.heap.size, 0, none⟩) hl).trans (froz_new2 w.drew #[a, b] t 0), (hb.frozen (p := ⟨w.heap.size, 1, none⟩) hl).trans (froz_new2 w.drew #[a, b] t 1)⟩
theorem two_cells {w' : World} {g : Nat} {a b u v : Value} (k0 : w'.cell? ⟨g, 0, none⟩ = some u) (k1 : w'.cell? ⟨g, 1, none⟩ = some v) (ha : a.oneCell' = true) (hb : b.oneCell' = true) : ((w'.setCell ⟨g, 0, none⟩ a).setCell ⟨g, 1, none⟩ b).cell? ⟨g, 0, none⟩ = some a ∧ ((w'.setCell ⟨g, 0, none⟩ a).setCell ⟨g, 1, none⟩ b).cell? ⟨g, 1, none⟩ = some b := by
  have h1 : (w'.setCell ⟨g, 0, none⟩ a).cell? ⟨g, 1, none⟩ = some v := by
    rw [World.cell?_setCell_other _ _ _ _ (by simp)]
    exact k1
  constructor
  · rw [World.cell?_setCell_other _ _ _ _ (by simp)]
    exact World.cell?_setCell_same _ _ _ k0
  · exact World.cell?_setCell_same _ _ _ h1
/-- What a look-up of a spot answers. -/
theorem peer_look {W : World} {B : Nat} {M : List ((Int × Int) × (Int × Int))} {Ls : List ((Int × Int) × (Int × Int))} (hM : MAt spotKey veS W B M) (hP : PM M Ls) (x y : Int) :
    (Instr.lookup 92 (.map (some B)) (.agg #[.int .i64 x, .int .i64 y]) true).run Tryd.prog W = .ok (.tuple #[.agg #[.int .i64 ((peerO Ls (x, y)).getD (0, 0)).1, .int .i64 ((peerO Ls (x, y)).getD (0, 0)).2], .bool (peerO Ls (x, y)).isSome]) W := by
  have h := run_lookup_M hM 92 27 Tryd.underlying92 (.agg #[.int .i64 0, .int .i64 0]) (fun w => by kernel_rfl) (x, y) true
  rw [show mget spotKey.q (x, y) M = peerO Ls (x, y) from hP (x, y)] at h
  simp only [if_true] at h
  cases hp : peerO Ls (x, y) with
  | none => rw [hp] at h; exact h
  | some p => rw [hp] at h; exact h
set_option maxHeartbeats 2000000 in
set_option maxRecDepth 100000 in
theorem peer_any (S : Int) (ao : Option Addr) (n cap : Nat) (ao2 : Option Addr) (n2 cap2 : Nat) (Ls : List ((Int × Int) × (Int × Int))) (Hs : List (ByteArray × (Int × Int))) (x y : Int) (w : World)
    (hL : GS lnkE w (.slice ao n cap) Ls) (hH : GS hstE w (.slice ao2 n2 cap2) Hs) :
    Calls Tryd.prog 13 #[.agg #[.int .i64 S, .slice ao n cap, .slice ao2 n2 cap2], .agg #[.int .i64 x, .int .i64 y]] w fun e w' => e = .returned (.tuple #[.agg #[.int .i64 (peV S Ls Hs (x, y)).1, .int .i64 (peV S Ls Hs (x, y)).2], noV (peN S Ls Hs (x, y))]) ∧ Below w.heap.size w w' := by
  have hX := pbox_new w S (.slice ao n cap) (.slice ao2 n2 cap2) x y
  obtain ⟨R, hR⟩ : ∃ R, R = peN S Ls Hs (x, y) := ⟨_, rfl⟩
  have HR : Hid (R = peN S Ls Hs (x, y)) := hR
  obtain ⟨V1, hV1⟩ : ∃ V, V = (peV S Ls Hs (x, y)).1 := ⟨_, rfl⟩
  have HV1 : Hid (V1 = (peV S Ls Hs (x, y)).1) := hV1
  obtain ⟨V2, hV2⟩ : ∃ V, V = (peV S Ls Hs (x, y)).2 := ⟨_, rfl⟩
  have HV2 : Hid (V2 = (peV S Ls Hs (x, y)).2) := hV2
  rw [← hR, ← hV1, ← hV2]
  have HL2 : Hid (GS lnkE (pbox w S (.slice ao n cap) (.slice ao2 n2 cap2) x y) (.slice ao n cap) Ls) := hL.later hX.below
  have HH2 : Hid (GS hstE (pbox w S (.slice ao n cap) (.slice ao2 n2 cap2) x y) (.slice ao2 n2 cap2) Hs) := hH.later hX.below
  have HX : Hid (PBox w (pbox w S (.slice ao n cap) (.slice ao2 n2 cap2) x y) S (.slice ao n cap) (.slice ao2 n2 cap2) x y) := hX
  clear hR hV1 hV2 hX hL hH
  go_enter Tryd.func13, Tryd.ntmps13
  go_wp2_with fail
  refine (checkSpot_any S ao n cap ao2 n2 cap2 Ls Hs x y _ HL2.out HH2.out).mono ?_
  rintro e w1 ⟨rfl, hb1⟩
  obtain ⟨T, hT⟩ : ∃ T, T = csN S Ls Hs (x, y) := ⟨_, rfl⟩
  have HT : Hid (T = csN S Ls Hs (x, y)) := hT
  rw [← hT]
  have hX1 := HX.out.later hb1
  have HX1 : Hid (PBox w w1 S (.slice ao n cap) (.slice ao2 n2 cap2) x y) := hX1
  have HL1 : Hid (GS lnkE w1 (.slice ao n cap) Ls) := HL2.out.later hb1
  obtain ⟨_, ⟨b0, b1, b2⟩, s0, s1, r0, r1, f⟩ := hX1
  have f0 := f 0
  have f1 := f 1
  clear hT hb1 HX HL2 HH2 f
  by_cases h0 : T = 0
  · subst h0
    rw [no_ok rfl]
    have HTP : Hid (tpN S Ls Hs = 0) := by
      show _ = _
      have h := HT.out
      unfold csN at h
      by_cases e : tpN S Ls Hs = 0
      · exact e
      · rw [if_neg e] at h; exact absurd h.symm e
    have HND : Hid ((spsL Ls).Nodup) := (tp_0 HTP.out).2.2.2.1
    have HN2 : Hid (n ≤ 1000) := by
      have h1 := (tp_0 HTP.out).2.1.1
      have h2 := HL1.out.len
      show _ ≤ _
      omega
    obtain ⟨p0, hp0⟩ : ∃ p, ((peerO Ls (x, y)).getD (0, 0)).1 = p := ⟨_, rfl⟩
    obtain ⟨p1, hp1⟩ : ∃ p, ((peerO Ls (x, y)).getD (0, 0)).2 = p := ⟨_, rfl⟩
    obtain ⟨ok, hok⟩ : ∃ p, (peerO Ls (x, y)).isSome = p := ⟨_, rfl⟩
    have HLK : Hid (∀ W B M, MAt spotKey veS W B M → PM M Ls → (Instr.lookup 92 (.map (some B)) (.agg #[.int .i64 x, .int .i64 y]) true).run Tryd.prog W = .ok (.tuple #[.agg #[.int .i64 p0, .int .i64 p1], .bool ok]) W) := fun W B M h1 h2 => by
      rw [← hp0, ← hp1, ← hok]
      exact peer_look h1 h2 x y
    have HOK : Hid (R = if ok then 0 else 5) := by
      show _ = _
      rw [HR.out, peN, if_pos HT.out.symm, hok]
    have HP0 : Hid (ok = true → V1 = p0 ∧ V2 = p1) := fun h => by
      have e : R = 0 := by rw [HOK.out, h]; rfl
      have e2 : peV S Ls Hs (x, y) = (peerO Ls (x, y)).getD (0, 0) := by rw [peV, ← HR.out, e, if_pos rfl]
      exact ⟨by rw [HV1.out, e2, hp0], by rw [HV2.out, e2, hp1]⟩
    have HP5 : Hid (ok = false → V1 = 0 ∧ V2 = 0) := fun h => by
      have e : R = 5 := by rw [HOK.out, h]; rfl
      have e2 : peV S Ls Hs (x, y) = (0, 0) := by rw [peV, ← HR.out, e, if_neg (by decide)]
      exact ⟨by rw [HV1.out, e2], by rw [HV2.out, e2]⟩
    have HS : Hid (∀ W, Below w1.heap.size w1 W → W.cell? ⟨w.heap.size + 1, 0, none⟩ = some (.int .i64 x) ∧ W.cell? ⟨w.heap.size + 1, 1, none⟩ = some (.int .i64 y)) := fun W hb => ⟨cell_later hb HX1.out.s0, cell_later hb HX1.out.s1⟩
    have HLW : Hid (∀ W, Below w1.heap.size w1 W → GS lnkE W (.slice ao n cap) Ls) := fun W hb => HL1.out.later hb
    clear hp0 hp1 hok r0 r1 f0 f1
    go_upto_region 4 with fail
    go_cut [7, 8] from 16 to 23 (fun p q w' => ∃ g, p = .pointer (some ⟨g, 0, none⟩) ∧ q = .bool ok ∧ w'.cell? ⟨g, 0, none⟩ = some (.int .i64 p0) ∧ w'.cell? ⟨g, 1, none⟩ = some (.int .i64 p1) ∧ Below w1.heap.size w1 w')
    case first =>
      have hl1 : w.heap.size + 1 < w1.heap.size := World.block_lt_of_cell? _ _ s0
      have hl0 : w.heap.size < w1.heap.size := World.block_lt_of_cell? _ _ b0
      go_region_with (go_at_call 38; refine (peers_any ao n cap Ls _ (HLW.out _ (by first | exact Below.drew (Below.refl _ _) | exact (Below.drew (Below.refl _ _)).alloc (Nat.le_refl _) _)) HND.out HN2.out).mono ?_; rintro e w' ⟨B, M, rfl, hM, hPM, hb⟩; have hbx : Below w1.heap.size w1 w' := (by first | exact bdrew hb | exact balloc hb); obtain ⟨c0', c1'⟩ := HS.out _ hbx; have hl' : w.heap.size + 1 < w'.heap.size := World.block_lt_of_cell? _ _ c0'; have hlk1 := HLK.out _ _ _ hM hPM; have hlk2 := HLK.out _ _ _ (hM.later ((Below.refl _ _).alloc (Nat.le_refl _) (Obj.cells #[.int .i64 0, .int .i64 0] 27))) hPM; have HBX : Hid (Below w1.heap.size w1 w') := hbx; try (have hbc := ballocC hb; obtain ⟨k0, k1, k2, k3⟩ := hbc); clear hM hPM hbx)
      all_goals (go_wp2_with fail; go_meet)
      all_goals first
        | exact ⟨_, rfl, rfl, by simp, by simp, HBX.out.alloc HBX.out.size _⟩
        | exact ⟨_, rfl, rfl, (two_cells k0 k1 rfl rfl).1, (two_cells k0 k1 rfl rfl).2, (HBX.out.setCell (p := ⟨w1.heap.size, 0, none⟩) (Nat.le_refl _) _).setCell (p := ⟨w1.heap.size, 1, none⟩) (Nat.le_refl _) _⟩
    case rest =>
      obtain ⟨g, rfl, rfl, g0, g1, hbw⟩ := hcut
      have hX3 := HX1.out.later hbw
      have HB3 : Hid (Below w.heap.size w wc) := hX3.below
      obtain ⟨_, ⟨b0, b1, b2⟩, s0, s1, r0, r1, f⟩ := hX3
      have f0 := f 0
      have f1 := f 1
      clear hbw f HX1 HL1 HLW HS HLK
      cases ok with
      | false =>
        have HR5 : Hid (R = 5) := HOK.out
        have HV5 : Hid (V1 = 0 ∧ V2 = 0) := HP5.out rfl
        go_wp2
        refine bodyPost_ret (v := .tuple #[.agg #[.int .i64 0, .int .i64 0], .iface 85 (.int .i64 5)]) (by simp [results, Tryd.results13, go_sem, *]) rfl ⟨by rw [HR5.out, HV5.out.1, HV5.out.2]; rfl, below_two2 HB3.out _ (by omega) _ _⟩
      | true =>
        have HR0 : Hid (R = 0) := HOK.out
        have HV0 : Hid (V1 = p0 ∧ V2 = p1) := HP0.out rfl
        go_wp2
        refine bodyPost_ret (v := .tuple #[.agg #[.int .i64 p0, .int .i64 p1], .nilIface]) (by simp [results, Tryd.results13, go_sem, *]) rfl ⟨by rw [HR0.out, HV0.out.1, HV0.out.2]; rfl, below_two2 HB3.out _ (by omega) _ _⟩
  · rw [no_ne h0]
    have HR2 : Hid (R = T) := by
      show _ = _
      rw [HR.out, peN, ← HT.out, if_neg h0]
    have HV5 : Hid (V1 = 0 ∧ V2 = 0) := by
      have h2 := HR2.out
      have e : peV S Ls Hs (x, y) = (0, 0) := by rw [peV, ← HR.out, h2, if_neg h0]
      exact ⟨by rw [HV1.out, e], by rw [HV2.out, e]⟩
    have HN0 : Hid (T ≠ 0) := h0
    clear h0
    go_wp2
    refine bodyPost_ret (v := .tuple #[.agg #[.int .i64 0, .int .i64 0], .iface 85 (.int .i64 T)]) (by simp [results, Tryd.results13, go_sem, *]) rfl ⟨by rw [HR2.out, HV5.out.1, HV5.out.2, no_ne HN0.out], below_two2 HX1.out.below _ (by omega) _ _⟩
end Go.Proofs.YtfbocionnjlilacDoor
/- What package slices answers at slices of api.Hop. Written by mk/slices.py. -/
namespace Go.Proofs.YtfbocionnjlilacDoor
open Go.RowKit
set_option linter.unusedSimpArgs false
set_option linter.unusedVariables false

/-- One in a box, another one at an address: a class of worlds. -/
def hopCI (w : World) (B : Nat) (x0 : Int) (x1 : Int) (x2 : Int) (g o : Nat) (y0 : Int) (y1 : Int) (y2 : Int) (w' : World) : Prop :=
  Below w.heap.size w w' ∧ (w'.cell? ⟨B, 0, none⟩ = some (.int .i64 x0) ∧ w'.cell? ⟨B, 1, none⟩ = some (.int .i64 x1) ∧ w'.cell? ⟨B, 2, none⟩ = some (.int .i64 x2)) ∧
  w'.cell? ⟨g, o, none⟩ = some (.int .i64 y0) ∧ w'.cell? ⟨g, o + 1, none⟩ = some (.int .i64 y1) ∧ w'.cell? ⟨g, o + 2, none⟩ = some (.int .i64 y2)
theorem hopCI.later {w W W' : World} {B : Nat} {x0 : Int} {x1 : Int} {x2 : Int} {g o : Nat} {y0 : Int} {y1 : Int} {y2 : Int} (hb : Below W.heap.size W W') (h : hopCI w B x0 x1 x2 g o y0 y1 y2 W) : hopCI w B x0 x1 x2 g o y0 y1 y2 W' := by
  obtain ⟨h0, ⟨h1, h2, h3⟩, k1, k2, k3⟩ := h
  exact ⟨h0.trans (hb.mono h0.size), ⟨cell_later hb h1, cell_later hb h2, cell_later hb h3⟩, cell_later hb k1, cell_later hb k2, cell_later hb k3⟩

set_option maxHeartbeats 2000000 in
set_option maxRecDepth 100000 in
theorem hop_idx (ao : Option Addr) (n cap : Nat) (x0 : Int) (x1 : Int) (x2 : Int) (L : List ((Int × Int) × Int)) (w : World) (hn : L.length = n) (hn2 : n ≤ maxLen) (ha : 0 < n → ∃ g o, ao = some ⟨g, o, none⟩ ∧ GAt hopE w g o L ∧ cap ≤ maxLen) :
    Calls Tryd.prog 88 #[.slice ao n cap, .agg #[.int .i64 x0, .int .i64 x1, .int .i64 x2]] w fun e w' => e = .returned (.int .i64 (ixG (fun a => hopB ((x0, x1), x2) a) L)) ∧ Below w.heap.size w w' := by
  have HN : Hid (L.length = n) := hn
  have HA : Hid (0 < n → ∃ g o, ao = some ⟨g, o, none⟩ ∧ GAt hopE w g o L ∧ cap ≤ maxLen) := ha
  have HC0 := hop_new w x0 x1 x2 109
  have HB0 : Hid (Below w.heap.size w (w.alloc (Obj.cells #[Value.int IntKind.i64 x0, Value.int IntKind.i64 x1, Value.int IntKind.i64 x2] 109))) := (Below.refl _ _).alloc (Nat.le_refl _) _
  unfold maxLen at hn2
  clear hn ha
  go_enter Tryd.func88, Tryd.ntmps88
  go_wp2
  go_loopw [8] (fun i wr => ∃ k : Nat, k ≤ n ∧ i = .int .i64 k ∧ (L.take k).any (fun a => hopB ((x0, x1), x2) a) = false ∧ Below w.heap.size w wr ∧ VAt wr w.heap.size 0 (hopE.c ((x0, x1), x2)))
    (fun i _ => n - (intOf i).toNat)
  case atStart => exact ⟨0, by omega, rfl, by simp, HB0.out, HC0⟩
  case round =>
    obtain ⟨k, hk, rfl, hno, hB, hC⟩ := hrel
    have HB : Hid (Below w.heap.size w wr) := hB
    have HC : Hid (VAt wr w.heap.size 0 (hopE.c ((x0, x1), x2))) := hC
    have HNO : Hid ((L.take k).any (fun a => hopB ((x0, x1), x2) a) = false) := hno
    clear hno HC0 HB0
    by_cases hlt : k < n
    · obtain ⟨g, og, hao, hc, _⟩ := HA.out (by omega)
      subst hao
      obtain ⟨y0, y1, y2, hkl, hL, q0, q1, q2⟩ := hop_at (hc.later hB) HN.out hlt
      have HL : Hid (L[k] = ((y0, y1), y2)) := hL
      obtain ⟨r0, r1, r2⟩ := hop_cells hC
      simp only [Nat.zero_add] at r0 r1 r2
      have HCE : Hid (hopCI wr w.heap.size x0 x1 x2 g (og + k * 3) y0 y1 y2 wr) := ⟨Below.refl _ _, ⟨r0, r1, r2⟩, q0, q1, q2⟩
      clear hL hB hC HA q0 q1 q2 r0 r1 r2
      go_upto_region 4 with fail
      have kb0 : (0 : Int) ≤ (k : Int) := by omega
      have kb1 : (k : Int) < (n : Int) := by omega
      go_cut [16] from 9 to 18 (fun c w' => c = .bool (hopB ((x0, x1), x2) ((y0, y1), y2)) ∧ Below wr.heap.size wr w')
      case first =>
        as_aux_lemma =>
          refine wp_region_quiet (C := hopCI wr w.heap.size x0 x1 x2 g (og + k * 3) y0 y1 y2) (by kernel_rfl) (by kernel_rfl) (hopCI.later (W := wr) (Below.drew (Below.refl _ _)) HCE.out) ?_
          simp only [List.toList_toArray]
          go_big_quiet_want
          refine quiet_val (v := .agg #[.int .i64 x0, .int .i64 x1, .int .i64 x2]) (fun w' hC => ?_) ?_
          · obtain ⟨z, ⟨z0, z1, z2⟩, u0, u1, u2⟩ := hC
            go_simp
          simp only [Act.put, List.setIfInBounds_toArray, List.set_cons_zero, List.set_cons_succ]
          go_big_quiet_on
          go_big_quiet_want
          refine quiet_val (v := .slice (some ⟨g, og, none⟩) n cap) (fun w' hC => ?_) ?_
          · obtain ⟨z, ⟨z0, z1, z2⟩, u0, u1, u2⟩ := hC
            go_simp
          simp only [Act.put, List.setIfInBounds_toArray, List.set_cons_zero, List.set_cons_succ]
          go_big_quiet_on
          go_big_quiet_want
          refine quiet_val (v := .int .i64 (k : Int)) (fun w' hC => ?_) ?_
          · obtain ⟨z, ⟨z0, z1, z2⟩, u0, u1, u2⟩ := hC
            go_simp
          simp only [Act.put, List.setIfInBounds_toArray, List.set_cons_zero, List.set_cons_succ]
          go_big_quiet_on
          go_big_quiet_want
          refine quiet_val (v := .pointer (some ⟨g, og + k * 3, none⟩)) (fun w' hC => ?_) ?_
          · obtain ⟨z, ⟨z0, z1, z2⟩, u0, u1, u2⟩ := hC
            go_simp
          simp only [Act.put, List.setIfInBounds_toArray, List.set_cons_zero, List.set_cons_succ]
          go_big_quiet_on
          go_big_quiet_want
          refine quiet_val (v := .agg #[.int .i64 y0, .int .i64 y1, .int .i64 y2]) (fun w' hC => ?_) ?_
          · obtain ⟨z, ⟨z0, z1, z2⟩, u0, u1, u2⟩ := hC
            go_simp
          simp only [Act.put, List.setIfInBounds_toArray, List.set_cons_zero, List.set_cons_succ]
          go_big_quiet_on
          go_big_quiet_want
          refine quiet_val (v := .bool (hopB ((x0, x1), x2) ((y0, y1), y2))) (fun w' hC => exec_bin rfl (by go_simp) (run_eql_of (hop_eq x0 x1 x2 y0 y1 y2 w'))) ?_
          simp only [Act.put, List.setIfInBounds_toArray, List.set_cons_zero, List.set_cons_succ]
          go_big_quiet_on
          refine wpQuiet_nil ?_
          intro w' hC
          go_wp2_with fail
          go_meet
          case rel => exact ⟨rfl, hC.1⟩
      case rest =>
        obtain ⟨rfl, hB2⟩ := hcut
        have HB2 : Hid (Below w.heap.size w wc) := HB.out.trans (hB2.mono HB.out.size)
        have HC2 : Hid (VAt wc w.heap.size 0 (hopE.c ((x0, x1), x2))) := HC.out.later hB2
        clear hB2
        cases ho : hopB ((x0, x1), x2) ((y0, y1), y2)
        · go_wp2
          go_roundw
          case rel => exact ⟨k + 1, by omega, by go_num, any_nextG hkl HNO.out (by rw [HL.out]; exact ho), HB2.out, HC2.out⟩
          case measure => simp [intOf]; omega
        · go_wp2
          go_ret
          exact ⟨by rw [ixG_hit hkl HNO.out (by rw [HL.out]; exact ho)]; rfl, HB2.out⟩
    · obtain rfl : k = n := by omega
      go_wp2
      go_ret
      exact ⟨by have := HNO.out; rw [← HN.out, List.take_length] at this; rw [ixG_no this]; rfl, HB.out⟩

end Go.Proofs.YtfbocionnjlilacDoor
/- What slices.Contains answers at hops. -/
namespace Go.Proofs.YtfbocionnjlilacDoor
open Go.RowKit
set_option linter.unusedSimpArgs false
set_option linter.unusedVariables false

set_option maxHeartbeats 1000000 in
set_option maxRecDepth 100000 in
theorem hop_has (ao : Option Addr) (n cap : Nat) (x y h : Int) (L : List ((Int × Int) × Int)) (w : World) (hs : GS hopE w (.slice ao n cap) L) :
    Calls Tryd.prog 75 #[.slice ao n cap, .agg #[.int .i64 x, .int .i64 y, .int .i64 h]] w fun e w' => e = .returned (.bool (L.any fun a => hopB ((x, y), h) a)) ∧ Below w.heap.size w w' := by
  obtain ⟨ao', n', cap', e, hn, hn2, hn3, ha⟩ := hs.form
  cases e
  have HN : Hid (L.length = n) := hn
  have hB0 : Below w.heap.size w (w.alloc (Obj.cells #[Value.int IntKind.i64 x, Value.int IntKind.i64 y, Value.int IntKind.i64 h] 109)) := (Below.refl _ _).alloc (Nat.le_refl _) _
  have HA : Hid (0 < n → ∃ g o, ao = some ⟨g, o, none⟩ ∧ GAt hopE w g o L ∧ cap ≤ maxLen) := ha
  have HB0 : Hid (Below w.heap.size w (w.alloc (Obj.cells #[Value.int IntKind.i64 x, Value.int IntKind.i64 y, Value.int IntKind.i64 h] 109))) := hB0
  have HM : Hid (n ≤ maxLen) := hn2
  have HX : Hid ((L.any fun a => hopB ((x, y), h) a) = decide (0 ≤ ixG (fun a => hopB ((x, y), h) a) L)) := (ixG_any L (fun a => hopB ((x, y), h) a)).symm
  rw [HX.out]
  clear hn ha hs hn2 hB0 HX
  obtain ⟨z, hz⟩ : ∃ z, z = ixG (fun a => hopB ((x, y), h) a) L := ⟨_, rfl⟩
  rw [← hz]
  have HX : Hid (z = ixG (fun a => hopB ((x, y), h) a) L) := hz
  clear hz
  go_enter Tryd.func75, Tryd.ntmps75
  go_wp2_with fail
  refine (hop_idx ao n cap x y h L _ HN.out HM.out (fun h0 => by
    obtain ⟨g, o, e1, e2, e3⟩ := HA.out h0
    exact ⟨g, o, e1, e2.later HB0.out, e3⟩)).mono ?_
  rintro e w2 ⟨rfl, hb2⟩
  have HB2 : Hid (Below w.heap.size w w2) := HB0.out.trans (hb2.mono HB0.out.size)
  rw [← HX.out]
  clear hb2
  go_wp2
  go_ret
  exact ⟨rfl, HB2.out⟩
end Go.Proofs.YtfbocionnjlilacDoor
/- What package slices answers at slices of api.Host. Written by mk/slices.py. -/
namespace Go.Proofs.YtfbocionnjlilacDoor
open Go.RowKit
set_option linter.unusedSimpArgs false
set_option linter.unusedVariables false

/-- A closure that asks something, in whatever world behind this one. -/
def hstAsks (w : World) (f : FuncId) (c : Value) (P : ByteArray × (Int × Int) → Bool) : Prop :=
  ∀ (x0 : ByteArray) (x1 : Int) (x2 : Int) (W : World), Below w.heap.size w W → Calls Tryd.prog f #[.agg #[.string x0, .int .i64 x1, .int .i64 x2], c] W fun e w' => e = .returned (.bool (P (x0, (x1, x2)))) ∧ Below W.heap.size W w'
theorem hstAsks.later {w w' : World} {f : FuncId} {c : Value} {P : ByteArray × (Int × Int) → Bool} (h : hstAsks w f c P) (hb : Below w.heap.size w w') : hstAsks w' f c P :=
  fun x0 x1 x2 W hW => h x0 x1 x2 W (hb.trans (hW.mono hb.size))

set_option maxHeartbeats 1000000 in
theorem hst_idxF (ao : Option Addr) (n cap : Nat) (f : FuncId) (c : Value) (P : ByteArray × (Int × Int) → Bool) (L : List (ByteArray × (Int × Int))) (w : World) (hn : L.length = n) (hn2 : n ≤ maxLen) (ha : 0 < n → ∃ g o, ao = some ⟨g, o, none⟩ ∧ GAt hstE w g o L ∧ cap ≤ maxLen) (he : ∀ args w, (callFunc f args).run Tryd.prog w = .ok (.enter f args) w) (hf : hstAsks w f c P) :
    Calls Tryd.prog 39 #[.slice ao n cap, .func (Fn.func f) #[] #[c]] w fun e w' => e = .returned (.int .i64 (ixG P L)) ∧ Below w.heap.size w w' := by
  have HN : Hid (L.length = n) := hn
  have HF : Hid (hstAsks w f c P) := hf
  have HA : Hid (0 < n → ∃ g o, ao = some ⟨g, o, none⟩ ∧ GAt hstE w g o L ∧ cap ≤ maxLen) := ha
  unfold maxLen at hn2
  clear hn hf ha
  go_enter Tryd.func39, Tryd.ntmps39
  go_wp2
  go_loopw [8] (fun i wr => ∃ k : Nat, k ≤ n ∧ i = .int .i64 k ∧ (L.take k).any P = false ∧ Below w.heap.size w wr)
    (fun i _ => n - (intOf i).toNat)
  case atStart => exact ⟨0, by omega, rfl, by simp, Below.refl _ _⟩
  case round =>
    obtain ⟨k, hk, rfl, hno, hB⟩ := hrel
    have HB : Hid (Below w.heap.size w wr) := hB
    have HNO : Hid ((L.take k).any P = false) := hno
    clear hno
    by_cases hlt : k < n
    · obtain ⟨g, o, hao, hc, _⟩ := HA.out (by omega)
      subst hao
      obtain ⟨x0, x1, x2, hkl, hL, q0, q1, q2⟩ := hst_at (hc.later hB) HN.out hlt
      have HL : Hid (L[k] = (x0, (x1, x2))) := hL
      clear hL hB
      cases ho : P (x0, (x1, x2))
      · go_wp2_with fail
        refine (HF.out x0 x1 x2 _ HB.out).mono ?_
        rintro e w1 ⟨rfl, hb1⟩
        rw [ho]
        have HB1 := HB.out.trans (hb1.mono HB.out.size)
        clear hb1
        go_wp2
        go_roundw
        case rel => exact ⟨k + 1, by omega, by go_num, any_nextG hkl HNO.out (by rw [HL.out]; exact ho), HB1⟩
        case measure => simp [intOf]; omega
      · go_wp2_with fail
        refine (HF.out x0 x1 x2 _ HB.out).mono ?_
        rintro e w1 ⟨rfl, hb1⟩
        rw [ho]
        go_wp2
        go_ret
        exact ⟨by rw [ixG_hit hkl HNO.out (by rw [HL.out]; exact ho)]; rfl, HB.out.trans (hb1.mono HB.out.size)⟩
    · obtain rfl : k = n := by omega
      go_wp2
      go_ret
      exact ⟨by have := HNO.out; rw [← HN.out, List.take_length] at this; rw [ixG_no this]; rfl, HB.out⟩

end Go.Proofs.YtfbocionnjlilacDoor
/- What strings.Clone answers: the text itself. -/
namespace Go.Proofs.YtfbocionnjlilacDoor
open Go.RowKit
set_option linter.unusedSimpArgs false
set_option linter.unusedVariables false

theorem infoByte : (Tryd.prog.info? 5).map (fun i => (i.zero, i.size, i.bytes)) = some (some (.int .u8 0), 1, 1) := by kernel_rfl
set_option maxHeartbeats 1000000 in
set_option maxRecDepth 100000 in
theorem liteClone (s : ByteArray) (w : World) (hlim : s.size ≤ 1000000) :
    Calls Tryd.prog 59 #[.string s] w fun e w' => e = .returned (.string s) ∧ Below w.heap.size w w' := by
  by_cases h0 : s.size = 0
  · have hs : s = ⟨#[]⟩ := by
      apply ByteArray.ext
      exact Array.eq_empty_of_size_eq_zero h0
    subst hs
    go_enter Tryd.func59, Tryd.ntmps59
    go_wp2
    go_ret
    exact ⟨rfl, Below.refl _ _⟩
  · obtain ⟨i0, hi, hz0, hz1, hz2⟩ := info_parts infoByte
    have hinfo : (Tryd.prog.info? 5).map (·.size) = some 1 := by rw [hi]; simp [hz1]
    have hco : Tryd.prog.cellsOf 5 = 1 := by simp [Program.cellsOf, hi, hz1]
    obtain ⟨M, hM⟩ : ∃ M, M = madeCells (Value.int .u8 0).cells (((s.size : Nat) : Int).toNat * i0.size) := ⟨_, rfl⟩
    have hMs : M.size = s.size := by rw [hM, size_madeCells, hz1]; simp
    have hmk : (Instr.makeSlice 144 (.int .i64 (s.size : Int)) (.int .i64 (s.size : Int))).run Tryd.prog w = .ok (.slice (some ⟨w.heap.size, 0, none⟩) s.size s.size) (w.alloc (.cells M 5)) := by
      have h := run_make (P := Tryd.prog) w 144 5 i0 (.int .u8 0) Tryd.underlying144 hi hz0 .i64 .i64 (s.size : Int) (s.size : Int) (by omega) (by omega) (by rw [hz2]; omega) (by omega)
      rw [← hM] at h
      simpa using h
    clear hM
    have hcp := Lib.run_copy_row_string (P := Tryd.prog) (w.alloc (.cells M 5)) 144 9 3 5 w.heap.size 0 s.size s.size s M 5 Tryd.underlying144 hinfo (heap_alloc_new w _) (Nat.le_refl _) (by omega)
    obtain ⟨Y, hY⟩ : ∃ Y, Y = (M.toList.take 0 ++ Lib.byteCells s.data.toList ++ M.toList.drop (0 + s.size)).toArray := ⟨_, rfl⟩
    rw [← hY] at hcp
    have hYl : Y.toList = Lib.byteCells s.data.toList := by
      rw [hY, List.toList_toArray, List.take_zero, List.nil_append, List.drop_of_length_le (by rw [Array.length_toList]; omega), List.append_nil]
    have hYs : Y.size = s.size := by rw [← Array.length_toList, hYl, Lib.byteCells_length, ← Lib.size_eq]
    have hgY : ((w.alloc (.cells M 5)).setRow w.heap.size Y).heap[w.heap.size]? = some (.cells Y 5 (0, 0)) := setRow_heap _ _ M _ 5 (0, 0) (heap_alloc_new w _)
    have hne : s.data.toList ≠ [] := fun e => h0 (by rw [Lib.size_eq, e]; rfl)
    have hUS := Lib.run_unsafeString_row (P := Tryd.prog) ((w.alloc (.cells M 5)).setRow w.heap.size Y) 146 3 9 5 Tryd.underlying146 hco w.heap.size Y.size (by unfold World.shape?; rw [hgY]) s.data.toList hne (by rw [← Lib.size_eq]; omega) (by rw [← Lib.size_eq]; omega)
      (fun j x hx => Lib.cells_of_row hgY Y.size j _ (by rw [List.take_of_length_le (by rw [Array.length_toList]; exact Nat.le_refl _), hYl]; simp [Lib.byteCells, hx]))
    rw [← Lib.size_eq] at hUS
    clear hY
    go_enter Tryd.func59, Tryd.ntmps59
    go_wp2
    go_ret
    have hb1 : Below w.heap.size w (w.alloc (.cells M 5)) := (Below.refl _ w).alloc (Nat.le_refl _) _
    have hb2 : Below w.heap.size (w.alloc (.cells M 5)) ((w.alloc (.cells M 5)).setRow w.heap.size Y) := ⟨rfl, rfl, rfl, by simp, fun k hk => setRow_other _ _ _ _ (by omega)⟩
    exact ⟨rfl, Lib.below_freeze (hb1.trans hb2) (p := ⟨w.heap.size, 0, none⟩) (Nat.le_refl _) _⟩
set_option maxHeartbeats 1000000 in
theorem clone_any (s : ByteArray) (w : World) (hlim : s.size ≤ 1000000) :
    Calls Tryd.prog 41 #[.string s] w fun e w' => e = .returned (.string s) ∧ Below w.heap.size w w' := by
  go_enter Tryd.func41, Tryd.ntmps41
  go_wp2_with fail
  refine (liteClone s _ hlim).mono ?_
  rintro e w1 ⟨rfl, hb1⟩
  go_wp2
  go_ret
  exact ⟨rfl, hb1⟩
end Go.Proofs.YtfbocionnjlilacDoor
/- Rows that a call owns, behind other calls. -/
namespace Go.Proofs.YtfbocionnjlilacDoor
open Go.RowKit

theorem own_below {w w' : World} {B e size n : Nat} {v : Value} {xs : List Value} (h : w.ownsRow B e size v n xs) (hb : Below w.heap.size w w') : w'.ownsRow B e size v n xs := by
  obtain ⟨h1, h2 | ⟨g, cap, cur, hv, hB, hg, h3⟩⟩ := h
  · exact ⟨h1, .inl h2⟩
  · have hlt : g < w.heap.size := by
      rcases Nat.lt_or_ge g w.heap.size with h | h
      · exact h
      · rw [Array.getElem?_eq_none h] at hg; cases hg
    exact ⟨h1, .inr ⟨g, cap, cur, hv, hB, (hb.block g hlt).trans hg, h3⟩⟩

theorem own_mono {w : World} {B B' e size n : Nat} {v : Value} {xs : List Value} (h : w.ownsRow B e size v n xs) (hB : B' ≤ B) : w.ownsRow B' e size v n xs := by
  obtain ⟨h1, h2 | ⟨g, cap, cur, hv, hb, h3⟩⟩ := h
  · exact ⟨h1, .inl h2⟩
  · exact ⟨h1, .inr ⟨g, cap, cur, hv, Nat.le_trans hB hb, h3⟩⟩

theorem infoInt : (Tryd.prog.info? 3).map (fun i => (i.zero, i.size, i.bytes)) = some (some (.int .i64 0), 1, 8) := by kernel_rfl
theorem own_later {w w' : World} {B e size n : Nat} {v : Value} {xs : List Value} {B' : Nat} (h : w.ownsRow B e size v n xs) (hb : Below B' w w') (hB : w.heap.size ≤ B') : w'.ownsRow B e size v n xs := own_below h (hb.mono hB)
end Go.Proofs.YtfbocionnjlilacDoor
/- Rows of numbers that a call owns. -/
namespace Go.Proofs.YtfbocionnjlilacDoor
open Go.RowKit

/-- The length of a row that a call owns. -/
theorem own_form {w : World} {B e size n : Nat} {v : Value} {xs : List Value} (h : w.ownsRow B e size v n xs) : ∃ ao cap, v = .slice ao n cap := by
  rcases h.2 with ⟨rfl, rfl⟩ | ⟨g, cap, cur, rfl, _⟩
  · exact ⟨none, 0, rfl⟩
  · exact ⟨_, cap, rfl⟩

/-- These numbers lie where a value says. -/
theorem own_ints {w : World} {B e : Nat} {v : Value} {xs : List Int} (h : w.ownsRow B e 1 v xs.length (xs.map (Value.int .i64))) :
    (v = .slice none 0 0 ∧ xs = []) ∨ ∃ g cap, v = .slice (some ⟨g, 0, none⟩) xs.length cap ∧ ∀ i (hi : i < xs.length), w.cell? ⟨g, i, none⟩ = some (.int .i64 xs[i]) := by
  rcases h.2 with ⟨rfl, h0⟩ | ⟨g, cap, cur, rfl, _⟩
  · exact .inl ⟨rfl, List.length_eq_zero_iff.1 h0⟩
  · refine .inr ⟨g, cap, rfl, fun i hi => ?_⟩
    rw [h.cellAt i (by omega)]
    simp [hi]

/-- Are two lists of numbers alike up to a place? -/
def eqTo (a b : List Int) (k : Nat) : Bool := a.take k == b.take k

end Go.Proofs.YtfbocionnjlilacDoor
/- What net.follow answers: a contract for the walks above it. -/
namespace Go.Proofs.YtfbocionnjlilacDoor
open Go.RowKit
set_option linter.unusedSimpArgs false
set_option linter.unusedVariables false

set_option maxHeartbeats 1000000 in
set_option maxRecDepth 100000 in
theorem follow1_any (n : ByteArray) (x0 x1 : Int) (B : Nat) (x y : Int) (w : World) (h0 : w.cell? ⟨B, 0, none⟩ = some (.int .i64 x)) (h1 : w.cell? ⟨B, 1, none⟩ = some (.int .i64 y)) :
    Calls Tryd.prog 74 #[.agg #[.string n, .int .i64 x0, .int .i64 x1], .pointer (some ⟨B, 0, none⟩)] w fun e w' => e = .returned (.bool (sq (x0, x1) (x, y))) ∧ Below w.heap.size w w' := by
  have hlt : B < w.heap.size := World.block_lt_of_cell? _ _ h0
  have HB0 : Hid (Below w.heap.size w (w.alloc (Obj.cells #[Value.string n, Value.int IntKind.i64 x0, Value.int IntKind.i64 x1] 38))) := (Below.refl _ _).alloc (Nat.le_refl _) _
  have hr : sq (x0, x1) (x, y) = (x0 == x && x1 == y) := rfl
  rw [hr]
  clear hr
  cases g1 : (x0 == x) <;> cases g2 : (x1 == y)
  all_goals
    simp only [Bool.and_true, Bool.and_false, Bool.and_self]
    go_enter Tryd.func74, Tryd.ntmps74
    go_wp2
    go_ret
    exact ⟨rfl, HB0.out⟩
theorem follow1_asks (B : Nat) (x y : Int) (w : World) (h0 : w.cell? ⟨B, 0, none⟩ = some (.int .i64 x)) (h1 : w.cell? ⟨B, 1, none⟩ = some (.int .i64 y)) : hstAsks w 74 (.pointer (some ⟨B, 0, none⟩)) (fun h => sq h.2 (x, y)) :=
  fun n x0 x1 W hW => follow1_any n x0 x1 B x y W (cell_later hW h0) (cell_later hW h1)
/-- The boxes: a net, a hop, the answer's. -/
def fbox (w : World) (S : Int) (v1 v2 v3 : Value) (x y h : Int) : World := ((w.alloc (Obj.cells #[.int .i64 S, v1, v2, v3] 58)).alloc (Obj.cells #[.int .i64 x, .int .i64 y, .int .i64 h] 109)).alloc (Obj.cells #[.int .i64 0, .string ⟨#[]⟩, .slice none 0 0] 64)
structure FBox (w W : World) (S : Int) (v1 v2 v3 : Value) (x y h : Int) : Prop where
  below : Below w.heap.size w W
  n : NeBox W w.heap.size S v1 v2 v3
  i0 : W.cell? ⟨w.heap.size + 1, 0, none⟩ = some (.int .i64 x)
  i1 : W.cell? ⟨w.heap.size + 1, 1, none⟩ = some (.int .i64 y)
  i2 : W.cell? ⟨w.heap.size + 1, 2, none⟩ = some (.int .i64 h)
  r0 : W.cell? ⟨w.heap.size + 1 + 1, 0, none⟩ = some (.int .i64 0)
  r1 : W.cell? ⟨w.heap.size + 1 + 1, 1, none⟩ = some (.string ⟨#[]⟩)
  r2 : W.cell? ⟨w.heap.size + 1 + 1, 2, none⟩ = some (.slice none 0 0)
  f : ∀ i, W.frozen? ⟨w.heap.size + 1 + 1, i, none⟩ = false
theorem fbox_new (w : World) (S : Int) (v1 v2 v3 : Value) (x y h : Int) : FBox w (fbox w S v1 v2 v3 x y h) S v1 v2 v3 x y h := by
  have e1 : (w.alloc (Obj.cells #[.int .i64 S, v1, v2, v3] 58)).heap.size = w.heap.size + 1 := by simp
  have e2 : ((w.alloc (Obj.cells #[.int .i64 S, v1, v2, v3] 58)).alloc (Obj.cells #[.int .i64 x, .int .i64 y, .int .i64 h] 109)).heap.size = w.heap.size + 1 + 1 := by simp
  have hb : ∀ (W : World) (o : Obj), Below W.heap.size W (W.alloc o) := fun W o => (Below.refl _ _).alloc (Nat.le_refl _) _
  have hs := (vat_new (w.alloc (Obj.cells #[.int .i64 S, v1, v2, v3] 58)) [.int .i64 x, .int .i64 y, .int .i64 h] 109).later (hb _ (Obj.cells #[.int .i64 0, .string ⟨#[]⟩, .slice none 0 0] 64))
  rw [e1] at hs
  have hr := vat_new ((w.alloc (Obj.cells #[.int .i64 S, v1, v2, v3] 58)).alloc (Obj.cells #[.int .i64 x, .int .i64 y, .int .i64 h] 109)) [.int .i64 0, .string ⟨#[]⟩, .slice none 0 0] 64
  rw [e2] at hr
  have hf : ∀ k, (fbox w S v1 v2 v3 x y h).frozen? ⟨((w.alloc (Obj.cells #[.int .i64 S, v1, v2, v3] 58)).alloc (Obj.cells #[.int .i64 x, .int .i64 y, .int .i64 h] 109)).heap.size, k, none⟩ = false := fun k => by
    unfold fbox
    generalize (w.alloc (Obj.cells #[.int .i64 S, v1, v2, v3] 58)).alloc (Obj.cells #[.int .i64 x, .int .i64 y, .int .i64 h] 109) = X
    simp
  rw [e2] at hf
  exact ⟨(((Below.refl _ _).alloc (Nat.le_refl _) _).alloc (by rw [e1]; omega) _).alloc (by rw [e2]; omega) _, ((nebox_new w S v1 v2 v3 58).later (hb _ _)).later (hb _ _), hs 0 _ rfl, hs 1 _ rfl, hs 2 _ rfl, hr 0 _ rfl, hr 1 _ rfl, hr 2 _ rfl, hf⟩
theorem FBox.lt {w W : World} {S : Int} {v1 v2 v3 : Value} {x y h : Int} (k : FBox w W S v1 v2 v3 x y h) : w.heap.size + 3 ≤ W.heap.size := World.block_lt_of_cell? W ⟨w.heap.size + 1 + 1, 0, none⟩ k.r0
theorem FBox.later {w W W' : World} {S : Int} {v1 v2 v3 : Value} {x y h : Int} (k : FBox w W S v1 v2 v3 x y h) {B : Nat} (hB : w.heap.size + 3 ≤ B) (hb : Below B W W') : FBox w W' S v1 v2 v3 x y h :=
  have hc : ∀ (g i : Nat) (x : Value), g < w.heap.size + 3 → W.cell? ⟨g, i, none⟩ = some x → W'.cell? ⟨g, i, none⟩ = some x := fun g i x hg e => (hb.cell (p := ⟨g, i, none⟩) (show g < B by omega)).trans e
  ⟨k.below.trans (hb.mono (by omega)), ⟨hc _ _ _ (by omega) k.n.1, hc _ _ _ (by omega) k.n.2.1, hc _ _ _ (by omega) k.n.2.2.1, hc _ _ _ (by omega) k.n.2.2.2⟩, hc _ _ _ (by omega) k.i0, hc _ _ _ (by omega) k.i1, hc _ _ _ (by omega) k.i2, hc _ _ _ (by omega) k.r0, hc _ _ _ (by omega) k.r1, hc _ _ _ (by omega) k.r2, fun i => (hb.frozen (p := ⟨w.heap.size + 1 + 1, i, none⟩) (show w.heap.size + 1 + 1 < B by omega)).trans (k.f i)⟩

theorem ballocD {w w' : World} {a b c : Value} {t : TypeId} (hb : Below (w.drew.alloc (Obj.cells #[a, b, c] t)).heap.size (w.drew.alloc (Obj.cells #[a, b, c] t)) w') : (w'.cell? ⟨w.heap.size, 0, none⟩ = some a ∧ w'.cell? ⟨w.heap.size, 1, none⟩ = some b ∧ w'.cell? ⟨w.heap.size, 2, none⟩ = some c) ∧ w'.frozen? ⟨w.heap.size, 0, none⟩ = false ∧ w'.frozen? ⟨w.heap.size, 1, none⟩ = false ∧ w'.frozen? ⟨w.heap.size, 2, none⟩ = false := by
  have h := vat_new w.drew [a, b, c] t
  have hl : w.heap.size < (w.drew.alloc (Obj.cells #[a, b, c] t)).heap.size := by simp
  exact ⟨⟨cell_later hb (h 0 _ rfl), cell_later hb (h 1 _ rfl), cell_later hb (h 2 _ rfl)⟩, (hb.frozen (p := ⟨w.heap.size, 0, none⟩) hl).trans (froz_new2 w.drew #[a, b, c] t 0), (hb.frozen (p := ⟨w.heap.size, 1, none⟩) hl).trans (froz_new2 w.drew #[a, b, c] t 1), (hb.frozen (p := ⟨w.heap.size, 2, none⟩) hl).trans (froz_new2 w.drew #[a, b, c] t 2)⟩
/-- Three cells of one block are set. -/
def put3 (W : World) (g : Nat) (u v x : Value) : World := ((W.setCell ⟨g, 0, none⟩ u).setCell ⟨g, 1, none⟩ v).setCell ⟨g, 2, none⟩ x
theorem put3_cells {W : World} {g : Nat} {a b c u v x : Value} (k : W.cell? ⟨g, 0, none⟩ = some u ∧ W.cell? ⟨g, 1, none⟩ = some v ∧ W.cell? ⟨g, 2, none⟩ = some x) : (put3 W g a b c).cell? ⟨g, 0, none⟩ = some a ∧ (put3 W g a b c).cell? ⟨g, 1, none⟩ = some b ∧ (put3 W g a b c).cell? ⟨g, 2, none⟩ = some c := by
  unfold put3
  have h1 : (W.setCell ⟨g, 0, none⟩ a).cell? ⟨g, 1, none⟩ = some v := by
    rw [World.cell?_setCell_other _ _ _ _ (by simp)]
    exact k.2.1
  have h2 : ((W.setCell ⟨g, 0, none⟩ a).setCell ⟨g, 1, none⟩ b).cell? ⟨g, 2, none⟩ = some x := by
    rw [World.cell?_setCell_other _ _ _ _ (by simp), World.cell?_setCell_other _ _ _ _ (by simp)]
    exact k.2.2
  refine ⟨?_, ?_, World.cell?_setCell_same _ _ _ h2⟩
  · rw [World.cell?_setCell_other _ _ _ _ (by simp), World.cell?_setCell_other _ _ _ _ (by simp)]
    exact World.cell?_setCell_same _ _ _ k.1
  · rw [World.cell?_setCell_other _ _ _ _ (by simp)]
    exact World.cell?_setCell_same _ _ _ h1
theorem below_put3 {B : Nat} {w W : World} (h : Below B w W) (g : Nat) (hg : B ≤ g) (u v x : Value) : Below B w (put3 W g u v x) := ((h.setCell (p := ⟨g, 0, none⟩) hg u).setCell (p := ⟨g, 1, none⟩) hg v).setCell (p := ⟨g, 2, none⟩) hg x
theorem own_put3 {W : World} {B e size n : Nat} {v : Value} {xs : List Value} (h : W.ownsRow B e size v n xs) (g : Nat) (hg : g < B) (a b c : Value) : (put3 W g a b c).ownsRow B e size v n xs := ownsRow_setCell_below (ownsRow_setCell_below (ownsRow_setCell_below h hg _) hg _) hg _
theorem hop_in {x y h : Int} {p : (Int × Int) × Int} (e : p = ((x, y), h)) : p.1.1 = x ∧ p.1.2 = y ∧ p.2 = h := by
  subst e
  exact ⟨rfl, rfl, rfl⟩
def sliL : Value → Nat
  | .slice _ n _ => n
  | _ => 0

set_option maxHeartbeats 8000000 in
set_option maxRecDepth 100000 in
theorem follow_any (S : Int) (ao : Option Addr) (n cap : Nat) (ao2 : Option Addr) (n2 cap2 : Nat) (ao3 : Option Addr) (n3 cap3 : Nat) (Ls : List ((Int × Int) × (Int × Int))) (Hs : List (ByteArray × (Int × Int))) (Ts : List (List Ru)) (x y h : Int) (w : World)
    (hL : GS lnkE w (.slice ao n cap) Ls) (hH : GS hstE w (.slice ao2 n2 cap2) Hs) (hT : TS w (.slice ao3 n3 cap3) Ts) (hN : ntN S Ls Hs Ts = 0) (hx : spB S (x, y) = true) :
    Calls Tryd.prog 54 #[.agg #[.int .i64 S, .slice ao n cap, .slice ao2 n2 cap2, .slice ao3 n3 cap3], .agg #[.int .i64 x, .int .i64 y, .int .i64 h]] w fun e w' => ∃ ao4 n4 cap4, e = .returned (.agg #[.int .i64 (frF Ls Hs Ts (x, y) h).1, .string (frF Ls Hs Ts (x, y) h).2.1, .slice ao4 n4 cap4]) ∧ w'.ownsRow w.heap.size 109 3 (.slice ao4 n4 cap4) (frF Ls Hs Ts (x, y) h).2.2.length (cellsG hopE (frF Ls Hs Ts (x, y) h).2.2) ∧ Below w.heap.size w w' := by
  obtain ⟨hTP, hTL, hTT⟩ := nt_0 hN
  have hS := (tp_0 hTP).1
  have hnd := (tp_0 hTP).2.2.2.1
  have hTn := hT.len
  have hLn := hL.len
  have hl2 := (tp_0 hTP).2.1
  have HTP : Hid (tpN S Ls Hs = 0) := hTP
  have HND : Hid ((spsL Ls).Nodup) := hnd
  have HN1 : Hid (n ≤ 1000) := by show _ ≤ _; omega
  have HTT : Hid (∀ k, k < Ts.length → tbN (Ts.getD k []) = 0) := hTT
  have H36 : Hid (n3 ≤ 6) := by show _ ≤ _; omega
  have H3S : Hid ((n3 : Int) = S) := by show _ = _; omega
  have HLW : Hid (∀ W, Below w.heap.size w W → GS lnkE W (.slice ao n cap) Ls) := fun W hb => hL.later hb
  have HHW : Hid (∀ W, Below w.heap.size w W → GS hstE W (.slice ao2 n2 cap2) Hs) := fun W hb => hH.later hb
  have HTW : Hid (∀ W, Below w.heap.size w W → TS W (.slice ao3 n3 cap3) Ts) := fun W hb => hT.later hb
  obtain ⟨F, hF⟩ : ∃ F, F = frF Ls Hs Ts (x, y) h := ⟨_, rfl⟩
  have HF : Hid (F = foF Ls Hs Ts 24 [((x, y), h)]) := hF
  rw [← hF]
  have hX := fbox_new w S (.slice ao n cap) (.slice ao2 n2 cap2) (.slice ao3 n3 cap3) x y h
  obtain ⟨w0, hw0⟩ : ∃ W, W = fbox w S (.slice ao n cap) (.slice ao2 n2 cap2) (.slice ao3 n3 cap3) x y h := ⟨_, rfl⟩
  rw [← hw0] at hX
  have HX : Hid (FBox w w0 S (.slice ao n cap) (.slice ao2 n2 cap2) (.slice ao3 n3 cap3) x y h) := hX
  have HW0 : Hid (((w.alloc (Obj.cells #[.int .i64 S, .slice ao n cap, .slice ao2 n2 cap2, .slice ao3 n3 cap3] 58)).alloc (Obj.cells #[.int .i64 x, .int .i64 y, .int .i64 h] 109)).alloc (Obj.cells #[.int .i64 0, .string ⟨#[]⟩, .slice none 0 0] 64) = w0) := hw0.symm
  have HXX : Hid (spB S (x, y) = true) := hx
  clear hL hH hT hN hTP hTL hTT hS hnd hTn hLn hl2 hF hX hw0 hx
  go_enter Tryd.func54, Tryd.ntmps54
  go_upto_region 1 with fail
  rw [HW0.out]
  obtain ⟨_, ⟨b0, b1, b2, b3⟩, i0, i1, i2, r0, r1, r2, f⟩ := HX.out
  clear HW0 f
  go_wp2_with fail
  refine (peers_any ao n cap Ls _ (HLW.out _ HX.out.below) HND.out HN1.out).mono ?_
  rintro e w1 ⟨B, M, rfl, hM, hPM, hb1⟩
  have HM : Hid (MAt spotKey veS w1 B M) := hM
  have HPM : Hid (PM M Ls) := hPM
  have HX1 : Hid (FBox w w1 S (.slice ao n cap) (.slice ao2 n2 cap2) (.slice ao3 n3 cap3) x y h) := HX.out.later HX.out.lt hb1
  have hlB : B < w1.heap.size := hM.lt
  obtain ⟨_, ⟨b0, b1, b2, b3⟩, i0, i1, i2, r0, r1, r2, f⟩ := HX1.out
  clear f hM hPM hb1 HX
  go_wp2
  have HLW1 : Hid (w.heap.size + 3 ≤ w1.heap.size) := HX1.out.lt
  have HO1 : Hid ((w1.alloc (Obj.cells #[.int .i64 x, .int .i64 y, .int .i64 h] 109)).ownsRow w1.heap.size 109 3 (.slice (some ⟨w1.heap.size, 0, none⟩) 1 1) ([((x, y), h)] : List ((Int × Int) × Int)).length (cellsG hopE [((x, y), h)])) :=
    World.ownsRow_lit (base := w1.heap.size) (e := 109) (size := 3) w1 #[.int .i64 x, .int .i64 y, .int .i64 h] 1 (Nat.le_refl _) (by decide) rfl
  clear b0 b1 b2 b3 i0 i1 i2 r0 r1 r2
  go_loopw [6] (fun v wr => ∃ l : List ((Int × Int) × Int), (0 < l.length ∧ l.length ≤ 24) ∧ wr.ownsRow w1.heap.size 109 3 v l.length (cellsG hopE l) ∧ F = foF Ls Hs Ts (25 - l.length) l ∧ spB S (laH l).1 = true ∧ Below w1.heap.size w1 wr) (fun v _ => 25 - sliL v)
  case atStart => exact ⟨[((x, y), h)], by simp, HO1.out, HF.out, HXX.out, (Below.refl _ _).alloc (Nat.le_refl _) _⟩
  case round =>
    obtain ⟨l, ⟨hl0, hl24⟩, hown, hFl, hsp, hBr⟩ := hrel
    obtain ⟨ao5, cap5, rfl⟩ := own_form hown
    obtain ⟨wo, hwo⟩ : ∃ X, X = wr := ⟨_, rfl⟩
    subst hwo
    obtain ⟨m, hm⟩ : ∃ m, m = l.length := ⟨_, rfl⟩
    have HML : Hid (l.length = m) := hm.symm
    rw [← hm] at hown hl0 hl24 hFl
    rw [← hm]
    have HOWN : Hid (wo.ownsRow w1.heap.size 109 3 (.slice ao5 m cap5) m (cellsG hopE l)) := hown
    have HFL : Hid (F = foF Ls Hs Ts (25 - l.length) l) := by
      show _ = _
      rw [← hm]
      exact hFl
    have HL24 : Hid (l.length ≤ 24) := by
      show _ ≤ _
      omega
    have HBr : Hid (Below w1.heap.size w1 wo) := hBr
    have HXo : Hid (FBox w wo S (.slice ao n cap) (.slice ao2 n2 cap2) (.slice ao3 n3 cap3) x y h) := HX1.out.later HX1.out.lt hBr
    have HMo : Hid (MAt spotKey veS wo B M) := HM.out.later hBr
    obtain ⟨_, _, _, e5, hGn, hGm, _, hGa⟩ := (own_GS (E := hopE) (L := l) (by rw [← hm]; exact hown) : GS hopE wo (.slice ao5 m cap5) l).form
    cases e5
    obtain ⟨g5, o5, hao5, hc5, _⟩ := hGa hl0
    subst hao5
    obtain ⟨p0, p1, p2, hkl, hLk, c0, c1, c2⟩ := hop_at hc5 HML.out (show m - 1 < m by omega)
    have hla : laH l = ((p0, p1), p2) := by
      have e : laH l = l[m - 1] := by
        unfold laH
        rw [← hm]
        simp [List.getD, hkl]
      rw [e, hLk]
    have HLA : Hid (laH l = ((p0, p1), p2)) := hla
    rw [hla] at hsp
    have hsp2 := sp_of hsp
    simp only at hsp2
    have HS1 : Hid (1 ≤ p0) := hsp2.1
    have HS2 : Hid (p0 ≤ (n3 : Int)) := by
      show _ ≤ _
      rw [H3S.out]
      exact hsp2.2.1
    obtain ⟨A, hA⟩ : ∃ A, A = stO Ts ((p0, p1), p2) := ⟨_, rfl⟩
    have HA : Hid (stO Ts (laH l) = A) := by
      show _ = _
      rw [hla, hA]
    have HA2 : Hid (stO Ts ((p0, p1), p2) = A) := hA.symm
    obtain ⟨Q1, hQ1⟩ : ∃ q, q = (A.getD zeH).1.1 := ⟨_, rfl⟩
    obtain ⟨Q2, hQ2⟩ : ∃ q, q = (A.getD zeH).1.2 := ⟨_, rfl⟩
    obtain ⟨Q3, hQ3⟩ : ∃ q, q = (A.getD zeH).2 := ⟨_, rfl⟩
    obtain ⟨okb, hokb⟩ : ∃ q, q = A.isSome := ⟨_, rfl⟩
    have HQ1 : Hid ((A.getD zeH).1.1 = Q1) := hQ1.symm
    have HQ2 : Hid ((A.getD zeH).1.2 = Q2) := hQ2.symm
    have HQ3 : Hid ((A.getD zeH).2 = Q3) := hQ3.symm
    have HOKB : Hid (A.isSome = okb) := hokb.symm
    have hmi : IntKind.i64.wrap ((m : Int) - 1) = ((m - 1 : Nat) : Int) := by
      rw [show (m : Int) - 1 = ((m - 1 : Nat) : Int) by omega]
      exact wrap_small (by omega) (by omega)
    have mb0 : (0 : Int) ≤ ((m - 1 : Nat) : Int) := by omega
    have mb1 : ((m - 1 : Nat) : Int) < (m : Int) := by omega
    obtain ⟨_, ⟨b0, b1, b2, b3⟩, i0, i1, i2, r0, r1, r2, f⟩ := HXo.out
    have hlw : w.heap.size < wo.heap.size := World.block_lt_of_cell? _ _ b0
    have hlg : g5 < wo.heap.size := World.block_lt_of_cell? _ _ c0
    clear hown hFl hsp hBr hm hGn hGm hGa hc5 hLk hla hsp2 hA hQ1 hQ2 hQ3 hokb f HO1 HF HXX HX1 HM i0 i1 i2 r0 r1 r2
    go_upto_region 3 with fail
    go_cut [7, 8] from 18 to 28 (fun p q w' => ∃ g, p = .pointer (some ⟨g, 0, none⟩) ∧ q = .bool okb ∧ (w'.cell? ⟨g, 0, none⟩ = some (.int .i64 Q1) ∧ w'.cell? ⟨g, 1, none⟩ = some (.int .i64 Q2) ∧ w'.cell? ⟨g, 2, none⟩ = some (.int .i64 Q3)) ∧ Below wo.heap.size wo w')
    case first =>
      go_region_with (go_at_call 53; refine (step_any S ao n cap ao2 n2 cap2 ao3 n3 cap3 Ts p0 p1 p2 _ (HTW.out _ (HXo.out.below.trans (Below.mono (by first | exact Below.drew (Below.refl _ _) | exact (Below.drew (Below.refl _ _)).alloc (Nat.le_refl _) _) HXo.out.below.size))) HTT.out HS1.out HS2.out H36.out).mono ?_; rintro e w' ⟨rfl, hb⟩; rw [HA2.out, HQ1.out, HQ2.out, HQ3.out, HOKB.out]; have HBX : Hid (Below wo.heap.size wo w') := (by first | exact bdrew hb | exact balloc hb); try (have hbc := ballocD hb; obtain ⟨kc, kf0, kf1, kf2⟩ := hbc; obtain ⟨k0, k1, k2⟩ := kc); clear hb)
      all_goals (go_wp2_with fail; go_meet)
      all_goals first
        | exact ⟨_, rfl, rfl, ⟨by simp, by simp, by simp⟩, HBX.out.alloc HBX.out.size _⟩
        | exact ⟨_, rfl, rfl, put3_cells ⟨k0, k1, k2⟩, below_put3 HBX.out _ (Nat.le_refl _) _ _ _⟩
    case rest =>
      obtain ⟨g, rfl, rfl, ⟨d0, d1, d2⟩, hbw⟩ := hcut
      have HXc : Hid (FBox w wc S (.slice ao n cap) (.slice ao2 n2 cap2) (.slice ao3 n3 cap3) x y h) := HXo.out.later HXo.out.lt hbw
      have HOc : Hid (wc.ownsRow w1.heap.size 109 3 (.slice (some ⟨g5, o5, none⟩) m cap5) m (cellsG hopE l)) := own_below HOWN.out hbw
      have HMc : Hid (MAt spotKey veS wc B M) := HMo.out.later hbw
      have HBc : Hid (Below w1.heap.size w1 wc) := HBr.out.trans (hbw.mono HBr.out.size)
      obtain ⟨hBw, ⟨b0, b1, b2, b3⟩, i0, i1, i2, r0, r1, r2, f⟩ := HXc.out
      have HBw : Hid (Below w.heap.size w wc) := hBw
      have f0 := f 0
      have f1 := f 1
      have f2 := f 2
      have hlw1 : w.heap.size + 3 ≤ w1.heap.size := HLW1.out
      clear hbw f hBw HXo HOWN HMo HBr c0 c1 c2
      cases okb with
      | false =>
        have HF2 : Hid (F = (2, ByteArray.empty, l)) := by
          show _ = _
          rw [HFL.out]
          refine fo_2 HL24.out ?_
          rw [HA.out]
          have := HOKB.out
          cases A with
          | none => rfl
          | some _ => cases this
        go_wp2
        refine bodyPost_ret (v := .agg #[.int .i64 2, .string ⟨#[]⟩, .slice (some ⟨g5, o5, none⟩) m cap5]) (by simp [results, Tryd.results54, go_sem, *]) rfl ⟨_, _, _, by rw [HF2.out]; rfl, ?_, below_put3 HBw.out _ (by omega) _ _ _⟩
        rw [HF2.out]
        exact own_mono (B := w1.heap.size) (by rw [HML.out]; exact own_put3 HOc.out _ (by omega) _ _ _) (by have := HLW1.out; omega)
      | true =>
        have HAS : Hid (A = some ((Q1, Q2), Q3)) := by
          show _ = _
          have h1 := HOKB.out
          have h2 := HQ1.out
          have h3 := HQ2.out
          have h4 := HQ3.out
          cases A with
          | none => cases h1
          | some q =>
            obtain ⟨⟨q1, q2⟩, q3⟩ := q
            simp only [Option.getD_some] at h2 h3 h4
            rw [h2, h3, h4]
        have HK : Hid (hstAsks wc 74 (.pointer (some ⟨g, 0, none⟩)) (fun h => sq h.2 (Q1, Q2))) := follow1_asks g Q1 Q2 wc d0 d1
        obtain ⟨_, _, _, e6, hHn, hHm, _, hHa⟩ := (HHW.out _ HBw.out).form
        cases e6
        have HHN : Hid (Hs.length = n2) := hHn
        have HHM : Hid (n2 ≤ maxLen) := hHm
        have HHA : Hid (0 < n2 → ∃ g o, ao2 = some ⟨g, o, none⟩ ∧ GAt hstE wc g o Hs ∧ cap2 ≤ maxLen) := hHa
        have HD : Hid (VAt wc g 0 (hopE.c ((Q1, Q2), Q3))) := by
          intro j u hu
          match j, hu with
          | 0, hu => cases hu; exact d0
          | 1, hu => cases hu; exact d1
          | 2, hu => cases hu; exact d2
        clear hHn hHm hHa r0 r1 r2 f0 f1 f2
        go_wp2_with fail
        refine (hst_idxF ao2 n2 cap2 _ _ (fun h => sq h.2 (Q1, Q2)) Hs _ HHN.out HHM.out HHA.out (enters_of Tryd.func74 (by kernel_rfl) rfl) HK.out).mono ?_
        rintro e w2 ⟨rfl, hb2⟩
        have HX2 : Hid (FBox w w2 S (.slice ao n cap) (.slice ao2 n2 cap2) (.slice ao3 n3 cap3) x y h) := HXc.out.later HXc.out.lt hb2
        have HO2 : Hid (w2.ownsRow w1.heap.size 109 3 (.slice (some ⟨g5, o5, none⟩) m cap5) m (cellsG hopE l)) := own_below HOc.out hb2
        have HM2 : Hid (MAt spotKey veS w2 B M) := HMc.out.later hb2
        have HB2 : Hid (Below w1.heap.size w1 w2) := HBc.out.trans (hb2.mono HBc.out.size)
        have HHA2 : Hid (0 < n2 → ∃ g o, ao2 = some ⟨g, o, none⟩ ∧ GAt hstE w2 g o Hs ∧ cap2 ≤ maxLen) := fun h => by
          obtain ⟨g, o, e1, e2, e3⟩ := HHA.out h
          exact ⟨g, o, e1, e2.later hb2, e3⟩
        have HD2 : Hid (VAt w2 g 0 (hopE.c ((Q1, Q2), Q3))) := HD.out.later hb2
        obtain ⟨d0, d1, d2⟩ := hop_cells HD2.out
        simp only [Nat.zero_add] at d0 d1 d2
        obtain ⟨hBw2, ⟨b0, b1, b2, b3⟩, i0, i1, i2, r0, r1, r2, f⟩ := HX2.out
        have HBw2 : Hid (Below w.heap.size w w2) := hBw2
        have f0 := f 0
        have f1 := f 1
        have f2 := f 2
        have hlg2 : g < w2.heap.size := World.block_lt_of_cell? _ _ d0
        have hlr2 : w.heap.size + 1 + 1 < w2.heap.size := World.block_lt_of_cell? _ _ r0
        have hlw2 : w.heap.size < w2.heap.size := World.block_lt_of_cell? _ _ b0
        have hs12 : w1.heap.size ≤ w2.heap.size := HB2.out.size
        clear hb2 f hBw2 HXc HOc HMc HBc HHA HK HD HBw
        rcases at_ix Hs (Q1, Q2) with ⟨hi, ho⟩ | ⟨k, hk, hi, ho⟩
        · rw [hi]
          have HAT : Hid (atO Hs (Q1, Q2) = none) := ho
          have hlk := peer_look HM2.out HPM.out Q1 Q2
          obtain ⟨P, hP⟩ : ∃ P, P = peerO Ls (Q1, Q2) := ⟨_, rfl⟩
          have HP : Hid (peerO Ls (Q1, Q2) = P) := hP.symm
          rw [← hP] at hlk
          clear hi ho hP
          cases P with
          | none =>
            have HF2 : Hid (F = (3, ByteArray.empty, l)) := by
              show _ = _
              rw [HFL.out]
              exact fo_3 HL24.out (HA.out.trans HAS.out) HAT.out HP.out
            simp only [Option.getD_none, Option.isSome_none] at hlk
            go_wp2
            refine bodyPost_ret (v := .agg #[.int .i64 3, .string ⟨#[]⟩, .slice (some ⟨g5, o5, none⟩) m cap5]) (by simp [results, Tryd.results54, go_sem, *]) rfl ⟨_, _, _, by rw [HF2.out]; rfl, ?_, (below_put3 HBw2.out _ (by omega) _ _ _).alloc (below_put3 HBw2.out _ (by omega) _ _ _).size _⟩
            rw [HF2.out]
            exact own_mono (B := w1.heap.size) (by rw [HML.out]; exact (own_put3 HO2.out _ (by omega) _ _ _).alloc _) (by have := HLW1.out; omega)
          | some s =>
            obtain ⟨P1, P2⟩ := s
            simp only [Option.getD_some, Option.isSome_some] at hlk
            by_cases h24 : m = 24
            · have e24 : ((m : Int) == 24) = true := by simp [h24]
              have HF2 : Hid (F = (4, ByteArray.empty, l)) := by
                show _ = _
                rw [HFL.out]
                exact fo_4 HL24.out (HA.out.trans HAS.out) HAT.out HP.out (.inl (HML.out.trans h24))
              clear h24
              have hlr3 : w.heap.size + 1 + 1 < w2.heap.size + 1 := by omega
              go_wp2
              clear e24
              refine bodyPost_ret (v := .agg #[.int .i64 4, .string ⟨#[]⟩, .slice (some ⟨g5, o5, none⟩) m cap5]) (by simp [results, Tryd.results54, go_sem, *]) rfl ⟨_, _, _, by rw [HF2.out]; rfl, ?_, ((below_put3 HBw2.out _ (by omega) _ _ _).alloc (below_put3 HBw2.out _ (by omega) _ _ _).size _).alloc ((below_put3 HBw2.out _ (by omega) _ _ _).alloc (below_put3 HBw2.out _ (by omega) _ _ _).size _).size _⟩
              rw [HF2.out]
              exact own_mono (B := w1.heap.size) (by rw [HML.out]; exact ((own_put3 HO2.out _ (by omega) _ _ _).alloc _).alloc _) (by have := HLW1.out; omega)
            · have e24 : ((m : Int) == 24) = false := by simp; omega
              have HN24 : Hid (l.length ≠ 24) := by
                show _ ≠ _
                rw [HML.out]
                exact h24
              have hbA : Below w2.heap.size w2 ((w2.alloc (Obj.cells #[.int .i64 P1, .int .i64 P2] 27)).alloc (Obj.cells #[.int .i64 P1, .int .i64 P2, .int .i64 Q3] 109)) := ((Below.refl _ _).alloc (Nat.le_refl _) _).alloc (by simp) _
              have hvA := hop_new (w2.alloc (Obj.cells #[.int .i64 P1, .int .i64 P2] 27)) P1 P2 Q3 109
              rw [show (w2.alloc (Obj.cells #[.int .i64 P1, .int .i64 P2] 27)).heap.size = w2.heap.size + 1 by simp] at hvA
              obtain ⟨w3, hw3⟩ : ∃ W, (w2.alloc (Obj.cells #[.int .i64 P1, .int .i64 P2] 27)).alloc (Obj.cells #[.int .i64 P1, .int .i64 P2, .int .i64 Q3] 109) = W := ⟨_, rfl⟩
              rw [hw3] at hbA hvA
              have HVA : Hid (VAt w3 (w2.heap.size + 1) 0 (hopE.c ((P1, P2), Q3))) := hvA
              have HBA : Hid (Below w2.heap.size w2 w3) := hbA
              have HW3 : Hid ((w2.alloc (Obj.cells #[.int .i64 P1, .int .i64 P2] 27)).alloc (Obj.cells #[.int .i64 P1, .int .i64 P2, .int .i64 Q3] 109) = w3) := hw3
              have HO3 : Hid (w3.ownsRow w1.heap.size 109 3 (.slice (some ⟨g5, o5, none⟩) m cap5) m (cellsG hopE l)) := own_below HO2.out hbA
              clear h24 hbA hvA hw3
              go_wp2_with fail
              rw [HW3.out]
              refine (hop_has (some ⟨g5, o5, none⟩) m cap5 P1 P2 Q3 l _ (own_GS (by rw [HML.out]; exact HO3.out))).mono ?_
              rintro e w4 ⟨rfl, hb4⟩
              obtain ⟨c, hc⟩ : ∃ c, c = l.any fun a => hopB ((P1, P2), Q3) a := ⟨_, rfl⟩
              have HC : Hid ((l.any fun a => hopB ((P1, P2), Q3) a) = c) := hc.symm
              rw [← hc]
              have hB24 : Below w2.heap.size w2 w4 := HBA.out.trans (hb4.mono HBA.out.size)
              have HX4 : Hid (FBox w w4 S (.slice ao n cap) (.slice ao2 n2 cap2) (.slice ao3 n3 cap3) x y h) := HX2.out.later HX2.out.lt hB24
              have HO4 : Hid (w4.ownsRow w1.heap.size 109 3 (.slice (some ⟨g5, o5, none⟩) m cap5) m (cellsG hopE l)) := own_below HO3.out hb4
              have HB4 : Hid (Below w1.heap.size w1 w4) := HB2.out.trans (hB24.mono HB2.out.size)
              obtain ⟨t0, t1, t2⟩ := hop_cells (HVA.out.later hb4)
              simp only [Nat.zero_add] at t0 t1 t2
              obtain ⟨hBw4, ⟨b0, b1, b2, b3⟩, i0, i1, i2, r0, r1, r2, f⟩ := HX4.out
              have HBw4 : Hid (Below w.heap.size w w4) := hBw4
              have f0 := f 0
              have f1 := f 1
              have f2 := f 2
              have hs14 : w1.heap.size ≤ w4.heap.size := HB4.out.size
              clear hc hb4 hB24 f hBw4 hlk HX2 HO2 HO3 HB2 HD2 HM2 HVA HBA HW3 d0 d1 d2
              cases c with
              | true =>
                have HF2 : Hid (F = (4, ByteArray.empty, l)) := by
                  show _ = _
                  rw [HFL.out]
                  exact fo_4 HL24.out (HA.out.trans HAS.out) HAT.out HP.out (.inr HC.out)
                go_wp2
                refine bodyPost_ret (v := .agg #[.int .i64 4, .string ⟨#[]⟩, .slice (some ⟨g5, o5, none⟩) m cap5]) (by simp [results, Tryd.results54, go_sem, *]) rfl ⟨_, _, _, by rw [HF2.out]; rfl, ?_, below_put3 HBw4.out _ (by omega) _ _ _⟩
                rw [HF2.out]
                exact own_mono (B := w1.heap.size) (by rw [HML.out]; exact own_put3 HO4.out _ (by omega) _ _ _) (by have := HLW1.out; omega)
              | false =>
                have HFN : Hid (F = foF Ls Hs Ts (25 - (l ++ [((P1, P2), Q3)]).length) (l ++ [((P1, P2), Q3)])) := by
                  show _ = _
                  rw [HFL.out]
                  exact fo_n HL24.out (HA.out.trans HAS.out) HAT.out HP.out HN24.out HC.out
                have HSPN : Hid (spB S (laH (l ++ [((P1, P2), Q3)])).1 = true) := by
                  show _ = _
                  rw [la_app]
                  exact peer_sp HTP.out HP.out
                have hm23 : m ≤ 23 := by
                  have h1 := HN24.out
                  rw [HML.out] at h1
                  omega
                obtain ⟨j0, hj, hy0, hy1, hy2⟩ := info_parts hop_info
                go_wp2_with (at_builtin; refine wpList_append_own _ rfl _ _ 62 rfl w1.heap.size 109 j0 (.agg #[.int .i64 0, .int .i64 0, .int .i64 0]) 3 24 Tryd.underlying62 hj hy0 hy1 hy2 hop_zero (by decide) _ _ _ rfl (HO4.out.alloc _) ⟨w4.heap.size, 0, none⟩ 1 1 [.int .i64 P1, .int .i64 P2, .int .i64 Q3] rfl rfl ?m1 ?m2 ?m3 ?m4 ?m5 ?_)
                case m1 =>
                  intro j u hj
                  match j, hj with
                  | 0, hj => simp at hj; subst hj; simp [Addr.add]
                  | 1, hj => simp at hj; subst hj; simp [Addr.add]
                  | 2, hj => simp at hj; subst hj; simp [Addr.add]
                case m2 => intro u hu; simp at hu; rcases hu with rfl | rfl | rfl <;> rfl
                case m3 => unfold maxLen; omega
                case m4 => omega
                case m5 => simp; omega
                intro v5 w5 hown5 hgrow5 _
                obtain ⟨ao6, cap6, rfl⟩ := own_form hown5
                have hb5 : Below w1.heap.size w4 w5 := ((Below.refl _ w4).alloc hs14 _).grown hgrow5 (by simp; omega) (fun g hg => (HO4.out.lt g hg).1)
                have HB5 : Hid (Below w1.heap.size w1 w5) := HB4.out.trans hb5
                have HO5 : Hid (w5.ownsRow w1.heap.size 109 3 (.slice ao6 (m + 1) cap6) (l ++ [((P1, P2), Q3)]).length (cellsG hopE (l ++ [((P1, P2), Q3)]))) := by
                  show World.ownsRow _ _ _ _ _ _ _
                  rw [List.length_append, HML.out, cellsG_app, cellsG_one]
                  exact hown5
                have HLL : Hid (0 < (l ++ [((P1, P2), Q3)]).length ∧ (l ++ [((P1, P2), Q3)]).length ≤ 24) := by
                  rw [List.length_append, HML.out]
                  exact ⟨by simp, by simp; omega⟩
                clear hb5 hgrow5 hown5
                go_wp2
                go_roundw
                case rel => exact ⟨l ++ [((P1, P2), Q3)], HLL.out, HO5.out, HFN.out, HSPN.out, HB5.out⟩
                case measure => simp [sliL]; omega
        · rw [hi]
          have hlt : k < n2 := by rw [← HHN.out]; exact hk
          obtain ⟨gh, oh, hao, hc, _⟩ := HHA2.out (by omega)
          subst hao
          obtain ⟨y0, y1, y2, hkl, hHk, q0, q1, q2⟩ := hst_at hc HHN.out hlt
          have HF2 : Hid (F = (1, y0, l)) := by
            show _ = _
            rw [HFL.out]
            refine fo_1 HL24.out (HA.out.trans HAS.out) ?_
            rw [ho, hHk]
          have HSZ : Hid (y0.size ≤ 1000000) := by
            show _ ≤ _
            have h := (tp_0 HTP.out).2.2.2.2.1 Hs[k] (List.getElem_mem hk)
            rw [hHk] at h
            have h2 := h.1
            simp only [nmB, Bool.and_eq_true, decide_eq_true_eq] at h2
            omega
          have kb0 : (0 : Int) ≤ (k : Int) := by omega
          have kb1 : (k : Int) < (n2 : Int) := by omega
          clear hi ho hHk hc HHA2 r0 r1 r2 f0 f1 f2
          go_wp2_with fail
          refine (clone_any y0 _ HSZ.out).mono ?_
          rintro e w3 ⟨rfl, hb3⟩
          have HO3 : Hid (w3.ownsRow w1.heap.size 109 3 (.slice (some ⟨g5, o5, none⟩) m cap5) m (cellsG hopE l)) := own_below HO2.out hb3
          have HX3 : Hid (FBox w w3 S (.slice ao n cap) (.slice (some ⟨gh, oh, none⟩) n2 cap2) (.slice ao3 n3 cap3) x y h) := HX2.out.later HX2.out.lt hb3
          obtain ⟨hBw3, ⟨b0, b1, b2, b3⟩, i0, i1, i2, r0, r1, r2, f⟩ := HX3.out
          have HBw3 : Hid (Below w.heap.size w w3) := hBw3
          have f0 := f 0
          have f1 := f 1
          have f2 := f 2
          clear hb3 f hBw3
          go_wp2
          refine bodyPost_ret (v := .agg #[.int .i64 1, .string y0, .slice (some ⟨g5, o5, none⟩) m cap5]) (by simp [results, Tryd.results54, go_sem, *]) rfl ⟨_, _, _, by rw [HF2.out], ?_, below_put3 HBw3.out _ (by omega) _ _ _⟩
          rw [HF2.out]
          exact own_mono (B := w1.heap.size) (by rw [HML.out]; exact own_put3 HO3.out _ (by omega) _ _ _) (by have := HLW1.out; omega)
end Go.Proofs.YtfbocionnjlilacDoor
/- What topo.Where answers: a contract for the walks above it. -/
namespace Go.Proofs.YtfbocionnjlilacDoor
open Go.RowKit
set_option linter.unusedSimpArgs false
set_option linter.unusedVariables false

set_option maxHeartbeats 1000000 in
set_option maxRecDepth 100000 in
theorem where1_any (n : ByteArray) (x0 x1 : Int) (B : Nat) (m : ByteArray) (w : World) (h0 : w.cell? ⟨B, 0, none⟩ = some (.string m)) :
    Calls Tryd.prog 42 #[.agg #[.string n, .int .i64 x0, .int .i64 x1], .pointer (some ⟨B, 0, none⟩)] w fun e w' => e = .returned (.bool (n == m)) ∧ Below w.heap.size w w' := by
  have hlt : B < w.heap.size := World.block_lt_of_cell? _ _ h0
  have HB0 : Hid (Below w.heap.size w (w.alloc (Obj.cells #[Value.string n, Value.int IntKind.i64 x0, Value.int IntKind.i64 x1] 38))) := (Below.refl _ _).alloc (Nat.le_refl _) _
  rw [beq_toListBytes]
  go_enter Tryd.func42, Tryd.ntmps42
  go_wp2
  go_ret
  exact ⟨rfl, HB0.out⟩
theorem where1_asks (B : Nat) (m : ByteArray) (w : World) (h0 : w.cell? ⟨B, 0, none⟩ = some (.string m)) : hstAsks w 42 (.pointer (some ⟨B, 0, none⟩)) (fun h => h.1 == m) :=
  fun n x0 x1 W hW => where1_any n x0 x1 B m W (cell_later hW h0)
/-- The three boxes of a call: a topology, a name, a spot. -/
def wbox (w : World) (S : Int) (v1 v2 : Value) (m : ByteArray) : World := ((w.alloc (Obj.cells #[.int .i64 S, v1, v2] 25)).alloc (Obj.cells #[.string m] 9)).alloc (Obj.cells #[.int .i64 0, .int .i64 0] 27)
structure WBox (w W : World) (S : Int) (v1 v2 : Value) (m : ByteArray) : Prop where
  below : Below w.heap.size w W
  t : TBox W w.heap.size S v1 v2
  s : W.cell? ⟨w.heap.size + 1, 0, none⟩ = some (.string m)
  r0 : W.cell? ⟨w.heap.size + 1 + 1, 0, none⟩ = some (.int .i64 0)
  r1 : W.cell? ⟨w.heap.size + 1 + 1, 1, none⟩ = some (.int .i64 0)
  f : ∀ i, W.frozen? ⟨w.heap.size + 1 + 1, i, none⟩ = false
theorem froz_new (w : World) (cs : Array Value) (t : TypeId) (k : Nat) : (w.alloc (.cells cs t)).frozen? ⟨w.heap.size, k, none⟩ = false := by simp
theorem wbox_new (w : World) (S : Int) (v1 v2 : Value) (m : ByteArray) : WBox w (wbox w S v1 v2 m) S v1 v2 m := by
  have e1 : (w.alloc (Obj.cells #[.int .i64 S, v1, v2] 25)).heap.size = w.heap.size + 1 := by simp
  have e2 : ((w.alloc (Obj.cells #[.int .i64 S, v1, v2] 25)).alloc (Obj.cells #[.string m] 9)).heap.size = w.heap.size + 1 + 1 := by simp
  have hb : ∀ (W : World) (o : Obj), Below W.heap.size W (W.alloc o) := fun W o => (Below.refl _ _).alloc (Nat.le_refl _) _
  have hs := (vat_new (w.alloc (Obj.cells #[.int .i64 S, v1, v2] 25)) [.string m] 9).later (hb _ (Obj.cells #[.int .i64 0, .int .i64 0] 27))
  rw [e1] at hs
  have hr := vat_new ((w.alloc (Obj.cells #[.int .i64 S, v1, v2] 25)).alloc (Obj.cells #[.string m] 9)) [.int .i64 0, .int .i64 0] 27
  rw [e2] at hr
  have hf := froz_new ((w.alloc (Obj.cells #[.int .i64 S, v1, v2] 25)).alloc (Obj.cells #[.string m] 9)) #[.int .i64 0, .int .i64 0] 27
  rw [e2] at hf
  exact ⟨(((Below.refl _ _).alloc (Nat.le_refl _) _).alloc (by rw [e1]; omega) _).alloc (by rw [e2]; omega) _, ((tbox_new w S v1 v2 25).later (hb _ _)).later (hb _ _), hs 0 _ rfl, hr 0 _ rfl, hr 1 _ rfl, hf⟩
theorem WBox.later {w W W' : World} {S : Int} {v1 v2 : Value} {m : ByteArray} (h : WBox w W S v1 v2 m) (hb : Below W.heap.size W W') : WBox w W' S v1 v2 m :=
  ⟨h.below.trans (hb.mono h.below.size), h.t.later hb, cell_later hb h.s, cell_later hb h.r0, cell_later hb h.r1, fun i => (hb.frozen (p := ⟨w.heap.size + 1 + 1, i, none⟩) (show (⟨w.heap.size + 1 + 1, 0, none⟩ : Addr).block < W.heap.size from World.block_lt_of_cell? W ⟨w.heap.size + 1 + 1, 0, none⟩ h.r0)).trans (h.f i)⟩
theorem below_two {w W : World} (h : Below w.heap.size w W) (g : Nat) (hg : w.heap.size ≤ g) (u v : Value) : Below w.heap.size w ((W.setCell ⟨g, 0, none⟩ u).setCell ⟨g, 1, none⟩ v) := (h.setCell (p := ⟨g, 0, none⟩) hg u).setCell (p := ⟨g, 1, none⟩) hg v
set_option maxHeartbeats 1000000 in
set_option maxRecDepth 100000 in
theorem where_any (S : Int) (ao : Option Addr) (n cap : Nat) (ao2 : Option Addr) (n2 cap2 : Nat) (Ls : List ((Int × Int) × (Int × Int))) (Hs : List (ByteArray × (Int × Int))) (m : ByteArray) (w : World)
    (hL : GS lnkE w (.slice ao n cap) Ls) (hH : GS hstE w (.slice ao2 n2 cap2) Hs) :
    Calls Tryd.prog 16 #[.agg #[.int .i64 S, .slice ao n cap, .slice ao2 n2 cap2], .string m] w fun e w' => e = .returned (.tuple #[.agg #[.int .i64 (weV S Ls Hs m).1, .int .i64 (weV S Ls Hs m).2], noV (weN S Ls Hs m)]) ∧ Below w.heap.size w w' := by
  have hX := wbox_new w S (.slice ao n cap) (.slice ao2 n2 cap2) m
  obtain ⟨R, hR⟩ : ∃ R, R = weN S Ls Hs m := ⟨_, rfl⟩
  have HR : Hid (R = weN S Ls Hs m) := hR
  obtain ⟨V1, hV1⟩ : ∃ V, V = (weV S Ls Hs m).1 := ⟨_, rfl⟩
  have HV1 : Hid (V1 = (weV S Ls Hs m).1) := hV1
  obtain ⟨V2, hV2⟩ : ∃ V, V = (weV S Ls Hs m).2 := ⟨_, rfl⟩
  have HV2 : Hid (V2 = (weV S Ls Hs m).2) := hV2
  rw [← hR, ← hV1, ← hV2]
  have HL2 : Hid (GS lnkE (wbox w S (.slice ao n cap) (.slice ao2 n2 cap2) m) (.slice ao n cap) Ls) := hL.later hX.below
  have HH2 : Hid (GS hstE (wbox w S (.slice ao n cap) (.slice ao2 n2 cap2) m) (.slice ao2 n2 cap2) Hs) := hH.later hX.below
  have HX : Hid (WBox w (wbox w S (.slice ao n cap) (.slice ao2 n2 cap2) m) S (.slice ao n cap) (.slice ao2 n2 cap2) m) := hX
  clear hR hV1 hV2 hX hL hH
  go_enter Tryd.func16, Tryd.ntmps16
  go_wp2_with fail
  refine (check_any S ao n cap ao2 n2 cap2 Ls Hs _ HL2.out HH2.out).mono ?_
  rintro e w1 ⟨rfl, hb1⟩
  obtain ⟨T, hT⟩ : ∃ T, T = tpN S Ls Hs := ⟨_, rfl⟩
  have HT : Hid (T = tpN S Ls Hs) := hT
  rw [← hT]
  have hX1 := HX.out.later hb1
  have HX1 : Hid (WBox w w1 S (.slice ao n cap) (.slice ao2 n2 cap2) m) := hX1
  have HH1 : Hid (GS hstE w1 (.slice ao2 n2 cap2) Hs) := HH2.out.later hb1
  obtain ⟨_, ⟨b0, b1, b2⟩, s0, r0, r1, f⟩ := hX1
  have f0 := f 0
  have f1 := f 1
  clear hT hb1 HX HL2 HH2 f
  by_cases h0 : T = 0
  · subst h0
    rw [no_ok rfl]
    have HK : Hid (hstAsks w1 42 (.pointer (some ⟨w.heap.size + 1, 0, none⟩)) (fun h => h.1 == m)) := where1_asks _ m w1 s0
    obtain ⟨_, _, _, e2, hHn, hHm, _, hHa⟩ := HH1.out.form
    cases e2
    have HHN : Hid (Hs.length = n2) := hHn
    have HHM : Hid (n2 ≤ maxLen) := hHm
    have HHA : Hid (0 < n2 → ∃ g o, ao2 = some ⟨g, o, none⟩ ∧ GAt hstE w1 g o Hs ∧ cap2 ≤ maxLen) := hHa
    clear hHn hHm hHa s0 r0 r1 f0 f1
    go_wp2_with fail
    refine (hst_idxF ao2 n2 cap2 _ _ (fun h => h.1 == m) Hs _ HHN.out HHM.out HHA.out (enters_of Tryd.func42 (by kernel_rfl) rfl) HK.out).mono ?_
    rintro e w2 ⟨rfl, hb2⟩
    have hX2 := HX1.out.later hb2
    have HB3 : Hid (Below w.heap.size w w2) := hX2.below
    have HHA2 : Hid (0 < n2 → ∃ g o, ao2 = some ⟨g, o, none⟩ ∧ GAt hstE w2 g o Hs ∧ cap2 ≤ maxLen) := fun h => by
      obtain ⟨g, o, e1, e2, e3⟩ := HHA.out h
      exact ⟨g, o, e1, e2.later hb2, e3⟩
    obtain ⟨_, ⟨b0, b1, b2⟩, s0, r0, r1, f⟩ := hX2
    have f0 := f 0
    have f1 := f 1
    clear hb2 HHA HX1 f
    rcases where_ix Hs m with ⟨hi, ho⟩ | ⟨k, hk, hi, ho⟩
    · rw [hi]
      have HR5 : Hid (R = 5) := by
        show _ = _
        rw [HR.out, weN, if_pos HT.out.symm, ho]
        rfl
      have HV5 : Hid (V1 = 0 ∧ V2 = 0) := by
        have h5 := HR5.out
        have e : weV S Ls Hs m = (0, 0) := by rw [weV, ← HR.out, h5, if_neg (by decide)]
        exact ⟨by rw [HV1.out, e], by rw [HV2.out, e]⟩
      clear hi ho
      go_wp2
      refine bodyPost_ret (v := .tuple #[.agg #[.int .i64 0, .int .i64 0], .iface 85 (.int .i64 5)]) (by simp [results, Tryd.results16, go_sem, *]) rfl ⟨by rw [HR5.out, HV5.out.1, HV5.out.2]; rfl, below_two HB3.out _ (by omega) _ _⟩
    · rw [hi]
      have HR0 : Hid (R = 0) := by
        show _ = _
        rw [HR.out, weN, if_pos HT.out.symm, ho]
        rfl
      have hlt : k < n2 := by rw [← HHN.out]; exact hk
      obtain ⟨g, o, hao, hc, _⟩ := HHA2.out (by omega)
      subst hao
      obtain ⟨y0, y1, y2, hkl, hHk, q0, q1, q2⟩ := hst_at hc HHN.out hlt
      have HV0 : Hid (V1 = y1 ∧ V2 = y2) := by
        have h5 := HR0.out
        have e : weV S Ls Hs m = (y1, y2) := by rw [weV, ← HR.out, h5, if_pos rfl, ho, Option.getD_some, hHk]
        exact ⟨by rw [HV1.out, e], by rw [HV2.out, e]⟩
      have kb0 : (0 : Int) ≤ (k : Int) := by omega
      have kb1 : (k : Int) < (n2 : Int) := by omega
      have hk0 : ¬ (k : Int) < 0 := by omega
      clear hi ho hHk hc HHA2
      go_wp2
      refine bodyPost_ret (v := .tuple #[.agg #[.int .i64 y1, .int .i64 y2], .nilIface]) (by simp [results, Tryd.results16, go_sem, *]) rfl ⟨by rw [HR0.out, HV0.out.1, HV0.out.2]; rfl, below_two HB3.out _ (by omega) _ _⟩
  · rw [no_ne h0]
    have HR2 : Hid (R = T) := by
      show _ = _
      rw [HR.out, weN, ← HT.out, if_neg h0]
    have HV5 : Hid (V1 = 0 ∧ V2 = 0) := by
      have h2 := HR2.out
      have e : weV S Ls Hs m = (0, 0) := by rw [weV, ← HR.out, h2, if_neg h0]
      exact ⟨by rw [HV1.out, e], by rw [HV2.out, e]⟩
    have HN0 : Hid (T ≠ 0) := h0
    clear h0
    go_wp2
    refine bodyPost_ret (v := .tuple #[.agg #[.int .i64 0, .int .i64 0], .iface 85 (.int .i64 T)]) (by simp [results, Tryd.results16, go_sem, *]) rfl ⟨by rw [HR2.out, HV5.out.1, HV5.out.2, no_ne HN0.out], below_two HX1.out.below _ (by omega) _ _⟩
end Go.Proofs.YtfbocionnjlilacDoor
