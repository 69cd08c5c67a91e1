/- Contracts and facts on the way to NetTurns, joined into one text: TopoPeer, SlHop, HopHas, SlHost, StrClone, OwnRow, OwnInts. -/
import Derived.Test.YtbieljcoaocfkacDoorNetTurnsP9
import Derived.Test.YtbieljcoaocfkacDoorNetTurnsP8
import Derived.Test.YtbieljcoaocfkacDoorNetTurnsP7
import Derived.Test.YtbieljcoaocfkacDoorNetTurnsP4
import Derived.Deep.RegionWith
import Derived.Shelf.Abstract
import Derived.Deep.CutRange
import Derived.Deep.CutBlock
import Derived.Test.YtbieljcoaocfkacDoorRows
import Derived.Lib.Strings
import Derived.Lib.Walk
import Derived.Lib.BufferWrite
import Derived.Lib.UnsafeStr
import Derived.Laws.MakeOwn
import Derived.WalkKit
import Derived.WalkSpells
import Derived.Below
/- What topo.Peer answers: a contract for the walks above it. -/
namespace Go.Proofs.YtbieljcoaocfkacDoor
open Go.RowKit
set_option linter.unusedSimpArgs false
set_option linter.unusedVariables false

/-- The three boxes of a call: a topology, a spot, the answer. -/
def pbox (w : World) (S : Int) (v1 v2 : Value) (x y : Int) : World := ((w.alloc (Obj.cells #[.int .i64 S, v1, v2] 25)).alloc (Obj.cells #[.int .i64 x, .int .i64 y] 27)).alloc (Obj.cells #[.int .i64 0, .int .i64 0] 27)
structure PBox (w W : World) (S : Int) (v1 v2 : Value) (x y : Int) : Prop where
  below : Below w.heap.size w W
  t : TBox W w.heap.size S v1 v2
  s0 : W.cell? ⟨w.heap.size + 1, 0, none⟩ = some (.int .i64 x)
  s1 : W.cell? ⟨w.heap.size + 1, 1, none⟩ = some (.int .i64 y)
  r0 : W.cell? ⟨w.heap.size + 1 + 1, 0, none⟩ = some (.int .i64 0)
  r1 : W.cell? ⟨w.heap.size + 1 + 1, 1, none⟩ = some (.int .i64 0)
  f : ∀ i, W.frozen? ⟨w.heap.size + 1 + 1, i, none⟩ = false
theorem froz_new2 (w : World) (cs : Array Value) (t : TypeId) (k : Nat) : (w.alloc (.cells cs t)).frozen? ⟨w.heap.size, k, none⟩ = false := by simp
theorem pbox_new (w : World) (S : Int) (v1 v2 : Value) (x y : Int) : PBox w (pbox w S v1 v2 x y) S v1 v2 x y := by
  have e1 : (w.alloc (Obj.cells #[.int .i64 S, v1, v2] 25)).heap.size = w.heap.size + 1 := by simp
  have e2 : ((w.alloc (Obj.cells #[.int .i64 S, v1, v2] 25)).alloc (Obj.cells #[.int .i64 x, .int .i64 y] 27)).heap.size = w.heap.size + 1 + 1 := by simp
  have hb : ∀ (W : World) (o : Obj), Below W.heap.size W (W.alloc o) := fun W o => (Below.refl _ _).alloc (Nat.le_refl _) _
  have hs := (vat_new (w.alloc (Obj.cells #[.int .i64 S, v1, v2] 25)) [.int .i64 x, .int .i64 y] 27).later (hb _ (Obj.cells #[.int .i64 0, .int .i64 0] 27))
  rw [e1] at hs
  have hr := vat_new ((w.alloc (Obj.cells #[.int .i64 S, v1, v2] 25)).alloc (Obj.cells #[.int .i64 x, .int .i64 y] 27)) [.int .i64 0, .int .i64 0] 27
  rw [e2] at hr
  have hf := froz_new2 ((w.alloc (Obj.cells #[.int .i64 S, v1, v2] 25)).alloc (Obj.cells #[.int .i64 x, .int .i64 y] 27)) #[.int .i64 0, .int .i64 0] 27
  rw [e2] at hf
  exact ⟨(((Below.refl _ _).alloc (Nat.le_refl _) _).alloc (by rw [e1]; omega) _).alloc (by rw [e2]; omega) _, ((tbox_new w S v1 v2 25).later (hb _ _)).later (hb _ _), hs 0 _ rfl, hs 1 _ rfl, hr 0 _ rfl, hr 1 _ rfl, hf⟩
theorem PBox.later {w W W' : World} {S : Int} {v1 v2 : Value} {x y : Int} (h : PBox w W S v1 v2 x y) (hb : Below W.heap.size W W') : PBox w W' S v1 v2 x y :=
  ⟨h.below.trans (hb.mono h.below.size), h.t.later hb, cell_later hb h.s0, cell_later hb h.s1, cell_later hb h.r0, cell_later hb h.r1, fun i => (hb.frozen (p := ⟨w.heap.size + 1 + 1, i, none⟩) (show (⟨w.heap.size + 1 + 1, 0, none⟩ : Addr).block < W.heap.size from World.block_lt_of_cell? W ⟨w.heap.size + 1 + 1, 0, none⟩ h.r0)).trans (h.f i)⟩
theorem below_two2 {w W : World} (h : Below w.heap.size w W) (g : Nat) (hg : w.heap.size ≤ g) (u v : Value) : Below w.heap.size w ((W.setCell ⟨g, 0, none⟩ u).setCell ⟨g, 1, none⟩ v) := (h.setCell (p := ⟨g, 0, none⟩) hg u).setCell (p := ⟨g, 1, none⟩) hg v
theorem bdrew {w w' : World} (hb : Below w.drew.heap.size w.drew w') : Below w.heap.size w w' := (Below.drew (Below.refl _ _)).trans hb
theorem balloc {w w' : World} {o : Obj} (hb : Below (w.drew.alloc o).heap.size (w.drew.alloc o) w') : Below w.heap.size w w' := ((Below.drew (Below.refl _ _)).alloc (Nat.le_refl _) o).trans (hb.mono (by simp))
theorem ballocC {w w' : World} {a b : Value} {t : TypeId} (hb : Below (w.drew.alloc (Obj.cells #[a, b] t)).heap.size (w.drew.alloc (Obj.cells #[a, b] t)) w') : w'.cell? ⟨w.heap.size, 0, none⟩ = some a ∧ w'.cell? ⟨w.heap.size, 1, none⟩ = some b ∧ w'.frozen? ⟨w.heap.size, 0, none⟩ = false ∧ w'.frozen? ⟨w.heap.size, 1, none⟩ = false := by
  have h := vat_new w.drew [a, b] t
  have hl : w.heap.size < (w.drew.alloc (Obj.cells #[a, b] t)).heap.size := by simp
  exact ⟨cell_later hb (h 0 _ rfl), cell_later hb (h 1 _ rfl), (hb.frozen (p := ⟨w.heap.size, 0, none⟩) hl).trans (froz_new2 w.drew #[a, b] t 0), (hb.frozen (p := ⟨w.heap.size, 1, none⟩) hl).trans (froz_new2 w.drew #[a, b] t 1)⟩
theorem two_cells {w' : World} {g : Nat} {a b u v : Value} (k0 : w'.cell? ⟨g, 0, none⟩ = some u) (k1 : w'.cell? ⟨g, 1, none⟩ = some v) (ha : a.oneCell' = true) (hb : b.oneCell' = true) : ((w'.setCell ⟨g, 0, none⟩ a).setCell ⟨g, 1, none⟩ b).cell? ⟨g, 0, none⟩ = some a ∧ ((w'.setCell ⟨g, 0, none⟩ a).setCell ⟨g, 1, none⟩ b).cell? ⟨g, 1, none⟩ = some b := by
  have h1 : (w'.setCell ⟨g, 0, none⟩ a).cell? ⟨g, 1, none⟩ = some v := by
    rw [World.cell?_setCell_other _ _ _ _ (by simp)]
    exact k1
  constructor
  · rw [World.cell?_setCell_other _ _ _ _ (by simp)]
    exact World.cell?_setCell_same _ _ _ k0
  · exact World.cell?_setCell_same _ _ _ h1
/-- What a look-up of a spot answers. -/
theorem peer_look {W : World} {B : Nat} {M : List ((Int × Int) × (Int × Int))} {Ls : List ((Int × Int) × (Int × Int))} (hM : MAt spotKey veS W B M) (hP : PM M Ls) (x y : Int) :
    (Instr.lookup 92 (.map (some B)) (.agg #[.int .i64 x, .int .i64 y]) true).run Tryd.prog W = .ok (.tuple #[.agg #[.int .i64 ((peerO Ls (x, y)).getD (0, 0)).1, .int .i64 ((peerO Ls (x, y)).getD (0, 0)).2], .bool (peerO Ls (x, y)).isSome]) W := by
  have h := run_lookup_M hM 92 27 Tryd.underlying92 (.agg #[.int .i64 0, .int .i64 0]) (fun w => by kernel_rfl) (x, y) true
  rw [show mget spotKey.q (x, y) M = peerO Ls (x, y) from hP (x, y)] at h
  simp only [if_true] at h
  cases hp : peerO Ls (x, y) with
  | none => rw [hp] at h; exact h
  | some p => rw [hp] at h; exact h
set_option maxHeartbeats 2000000 in
set_option maxRecDepth 100000 in
theorem peer_any (S : Int) (ao : Option Addr) (n cap : Nat) (ao2 : Option Addr) (n2 cap2 : Nat) (Ls : List ((Int × Int) × (Int × Int))) (Hs : List (ByteArray × (Int × Int))) (x y : Int) (w : World)
    (hL : GS lnkE w (.slice ao n cap) Ls) (hH : GS hstE w (.slice ao2 n2 cap2) Hs) :
    Calls Tryd.prog 13 #[.agg #[.int .i64 S, .slice ao n cap, .slice ao2 n2 cap2], .agg #[.int .i64 x, .int .i64 y]] w fun e w' => e = .returned (.tuple #[.agg #[.int .i64 (peV S Ls Hs (x, y)).1, .int .i64 (peV S Ls Hs (x, y)).2], noV (peN S Ls Hs (x, y))]) ∧ Below w.heap.size w w' := by
  have hX := pbox_new w S (.slice ao n cap) (.slice ao2 n2 cap2) x y
  obtain ⟨R, hR⟩ : ∃ R, R = peN S Ls Hs (x, y) := ⟨_, rfl⟩
  have HR : Hid (R = peN S Ls Hs (x, y)) := hR
  obtain ⟨V1, hV1⟩ : ∃ V, V = (peV S Ls Hs (x, y)).1 := ⟨_, rfl⟩
  have HV1 : Hid (V1 = (peV S Ls Hs (x, y)).1) := hV1
  obtain ⟨V2, hV2⟩ : ∃ V, V = (peV S Ls Hs (x, y)).2 := ⟨_, rfl⟩
  have HV2 : Hid (V2 = (peV S Ls Hs (x, y)).2) := hV2
  rw [← hR, ← hV1, ← hV2]
  have HL2 : Hid (GS lnkE (pbox w S (.slice ao n cap) (.slice ao2 n2 cap2) x y) (.slice ao n cap) Ls) := hL.later hX.below
  have HH2 : Hid (GS hstE (pbox w S (.slice ao n cap) (.slice ao2 n2 cap2) x y) (.slice ao2 n2 cap2) Hs) := hH.later hX.below
  have HX : Hid (PBox w (pbox w S (.slice ao n cap) (.slice ao2 n2 cap2) x y) S (.slice ao n cap) (.slice ao2 n2 cap2) x y) := hX
  clear hR hV1 hV2 hX hL hH
  go_enter Tryd.func13, Tryd.ntmps13
  go_wp2_with fail
  refine (checkSpot_any S ao n cap ao2 n2 cap2 Ls Hs x y _ HL2.out HH2.out).mono ?_
  rintro e w1 ⟨rfl, hb1⟩
  obtain ⟨T, hT⟩ : ∃ T, T = csN S Ls Hs (x, y) := ⟨_, rfl⟩
  have HT : Hid (T = csN S Ls Hs (x, y)) := hT
  rw [← hT]
  have hX1 := HX.out.later hb1
  have HX1 : Hid (PBox w w1 S (.slice ao n cap) (.slice ao2 n2 cap2) x y) := hX1
  have HL1 : Hid (GS lnkE w1 (.slice ao n cap) Ls) := HL2.out.later hb1
  obtain ⟨_, ⟨b0, b1, b2⟩, s0, s1, r0, r1, f⟩ := hX1
  have f0 := f 0
  have f1 := f 1
  clear hT hb1 HX HL2 HH2 f
  by_cases h0 : T = 0
  · subst h0
    rw [no_ok rfl]
    have HTP : Hid (tpN S Ls Hs = 0) := by
      show _ = _
      have h := HT.out
      unfold csN at h
      by_cases e : tpN S Ls Hs = 0
      · exact e
      · rw [if_neg e] at h; exact absurd h.symm e
    have HND : Hid ((spsL Ls).Nodup) := (tp_0 HTP.out).2.2.2.1
    have HN2 : Hid (n ≤ 1000) := by
      have h1 := (tp_0 HTP.out).2.1.1
      have h2 := HL1.out.len
      show _ ≤ _
      omega
    obtain ⟨p0, hp0⟩ : ∃ p, ((peerO Ls (x, y)).getD (0, 0)).1 = p := ⟨_, rfl⟩
    obtain ⟨p1, hp1⟩ : ∃ p, ((peerO Ls (x, y)).getD (0, 0)).2 = p := ⟨_, rfl⟩
    obtain ⟨ok, hok⟩ : ∃ p, (peerO Ls (x, y)).isSome = p := ⟨_, rfl⟩
    have HLK : Hid (∀ W B M, MAt spotKey veS W B M → PM M Ls → (Instr.lookup 92 (.map (some B)) (.agg #[.int .i64 x, .int .i64 y]) true).run Tryd.prog W = .ok (.tuple #[.agg #[.int .i64 p0, .int .i64 p1], .bool ok]) W) := fun W B M h1 h2 => by
      rw [← hp0, ← hp1, ← hok]
      exact peer_look h1 h2 x y
    have HOK : Hid (R = if ok then 0 else 5) := by
      show _ = _
      rw [HR.out, peN, if_pos HT.out.symm, hok]
    have HP0 : Hid (ok = true → V1 = p0 ∧ V2 = p1) := fun h => by
      have e : R = 0 := by rw [HOK.out, h]; rfl
      have e2 : peV S Ls Hs (x, y) = (peerO Ls (x, y)).getD (0, 0) := by rw [peV, ← HR.out, e, if_pos rfl]
      exact ⟨by rw [HV1.out, e2, hp0], by rw [HV2.out, e2, hp1]⟩
    have HP5 : Hid (ok = false → V1 = 0 ∧ V2 = 0) := fun h => by
      have e : R = 5 := by rw [HOK.out, h]; rfl
      have e2 : peV S Ls Hs (x, y) = (0, 0) := by rw [peV, ← HR.out, e, if_neg (by decide)]
      exact ⟨by rw [HV1.out, e2], by rw [HV2.out, e2]⟩
    have HS : Hid (∀ W, Below w1.heap.size w1 W → W.cell? ⟨w.heap.size + 1, 0, none⟩ = some (.int .i64 x) ∧ W.cell? ⟨w.heap.size + 1, 1, none⟩ = some (.int .i64 y)) := fun W hb => ⟨cell_later hb HX1.out.s0, cell_later hb HX1.out.s1⟩
    have HLW : Hid (∀ W, Below w1.heap.size w1 W → GS lnkE W (.slice ao n cap) Ls) := fun W hb => HL1.out.later hb
    clear hp0 hp1 hok r0 r1 f0 f1
    go_upto_region 4 with fail
    go_cut [7, 8] from 16 to 23 (fun p q w' => ∃ g, p = .pointer (some ⟨g, 0, none⟩) ∧ q = .bool ok ∧ w'.cell? ⟨g, 0, none⟩ = some (.int .i64 p0) ∧ w'.cell? ⟨g, 1, none⟩ = some (.int .i64 p1) ∧ Below w1.heap.size w1 w')
    case first =>
      have hl1 : w.heap.size + 1 < w1.heap.size := World.block_lt_of_cell? _ _ s0
      have hl0 : w.heap.size < w1.heap.size := World.block_lt_of_cell? _ _ b0
      go_region_with (go_at_call 38; refine (peers_any ao n cap Ls _ (HLW.out _ (by first | exact Below.drew (Below.refl _ _) | exact (Below.drew (Below.refl _ _)).alloc (Nat.le_refl _) _)) HND.out HN2.out).mono ?_; rintro e w' ⟨B, M, rfl, hM, hPM, hb⟩; have hbx : Below w1.heap.size w1 w' := (by first | exact bdrew hb | exact balloc hb); obtain ⟨c0', c1'⟩ := HS.out _ hbx; have hl' : w.heap.size + 1 < w'.heap.size := World.block_lt_of_cell? _ _ c0'; have hlk1 := HLK.out _ _ _ hM hPM; have hlk2 := HLK.out _ _ _ (hM.later ((Below.refl _ _).alloc (Nat.le_refl _) (Obj.cells #[.int .i64 0, .int .i64 0] 27))) hPM; have HBX : Hid (Below w1.heap.size w1 w') := hbx; try (have hbc := ballocC hb; obtain ⟨k0, k1, k2, k3⟩ := hbc); clear hM hPM hbx)
      all_goals (go_wp2_with fail; go_meet)
      all_goals first
        | exact ⟨_, rfl, rfl, by simp, by simp, HBX.out.alloc HBX.out.size _⟩
        | exact ⟨_, rfl, rfl, (two_cells k0 k1 rfl rfl).1, (two_cells k0 k1 rfl rfl).2, (HBX.out.setCell (p := ⟨w1.heap.size, 0, none⟩) (Nat.le_refl _) _).setCell (p := ⟨w1.heap.size, 1, none⟩) (Nat.le_refl _) _⟩
    case rest =>
      obtain ⟨g, rfl, rfl, g0, g1, hbw⟩ := hcut
      have hX3 := HX1.out.later hbw
      have HB3 : Hid (Below w.heap.size w wc) := hX3.below
      obtain ⟨_, ⟨b0, b1, b2⟩, s0, s1, r0, r1, f⟩ := hX3
      have f0 := f 0
      have f1 := f 1
      clear hbw f HX1 HL1 HLW HS HLK
      cases ok with
      | false =>
        have HR5 : Hid (R = 5) := HOK.out
        have HV5 : Hid (V1 = 0 ∧ V2 = 0) := HP5.out rfl
        go_wp2
        refine bodyPost_ret (v := .tuple #[.agg #[.int .i64 0, .int .i64 0], .iface 85 (.int .i64 5)]) (by simp [results, Tryd.results13, go_sem, *]) rfl ⟨by rw [HR5.out, HV5.out.1, HV5.out.2]; rfl, below_two2 HB3.out _ (by omega) _ _⟩
      | true =>
        have HR0 : Hid (R = 0) := HOK.out
        have HV0 : Hid (V1 = p0 ∧ V2 = p1) := HP0.out rfl
        go_wp2
        refine bodyPost_ret (v := .tuple #[.agg #[.int .i64 p0, .int .i64 p1], .nilIface]) (by simp [results, Tryd.results13, go_sem, *]) rfl ⟨by rw [HR0.out, HV0.out.1, HV0.out.2]; rfl, below_two2 HB3.out _ (by omega) _ _⟩
  · rw [no_ne h0]
    have HR2 : Hid (R = T) := by
      show _ = _
      rw [HR.out, peN, ← HT.out, if_neg h0]
    have HV5 : Hid (V1 = 0 ∧ V2 = 0) := by
      have h2 := HR2.out
      have e : peV S Ls Hs (x, y) = (0, 0) := by rw [peV, ← HR.out, h2, if_neg h0]
      exact ⟨by rw [HV1.out, e], by rw [HV2.out, e]⟩
    have HN0 : Hid (T ≠ 0) := h0
    clear h0
    go_wp2
    refine bodyPost_ret (v := .tuple #[.agg #[.int .i64 0, .int .i64 0], .iface 85 (.int .i64 T)]) (by simp [results, Tryd.results13, go_sem, *]) rfl ⟨by rw [HR2.out, HV5.out.1, HV5.out.2, no_ne HN0.out], below_two2 HX1.out.below _ (by omega) _ _⟩
end Go.Proofs.YtbieljcoaocfkacDoor
/- What package slices answers at slices of api.Hop. Written by mk/slices.py. -/
namespace Go.Proofs.YtbieljcoaocfkacDoor
open Go.RowKit
set_option linter.unusedSimpArgs false
set_option linter.unusedVariables false

/-- One in a box, another one at an address: a class of worlds. -/
def hopCI (w : World) (B : Nat) (x0 : Int) (x1 : Int) (x2 : Int) (g o : Nat) (y0 : Int) (y1 : Int) (y2 : Int) (w' : World) : Prop :=
  Below w.heap.size w w' ∧ (w'.cell? ⟨B, 0, none⟩ = some (.int .i64 x0) ∧ w'.cell? ⟨B, 1, none⟩ = some (.int .i64 x1) ∧ w'.cell? ⟨B, 2, none⟩ = some (.int .i64 x2)) ∧
  w'.cell? ⟨g, o, none⟩ = some (.int .i64 y0) ∧ w'.cell? ⟨g, o + 1, none⟩ = some (.int .i64 y1) ∧ w'.cell? ⟨g, o + 2, none⟩ = some (.int .i64 y2)
theorem hopCI.later {w W W' : World} {B : Nat} {x0 : Int} {x1 : Int} {x2 : Int} {g o : Nat} {y0 : Int} {y1 : Int} {y2 : Int} (hb : Below W.heap.size W W') (h : hopCI w B x0 x1 x2 g o y0 y1 y2 W) : hopCI w B x0 x1 x2 g o y0 y1 y2 W' := by
  obtain ⟨h0, ⟨h1, h2, h3⟩, k1, k2, k3⟩ := h
  exact ⟨h0.trans (hb.mono h0.size), ⟨cell_later hb h1, cell_later hb h2, cell_later hb h3⟩, cell_later hb k1, cell_later hb k2, cell_later hb k3⟩

set_option maxHeartbeats 2000000 in
set_option maxRecDepth 100000 in
theorem hop_idx (ao : Option Addr) (n cap : Nat) (x0 : Int) (x1 : Int) (x2 : Int) (L : List ((Int × Int) × Int)) (w : World) (hn : L.length = n) (hn2 : n ≤ maxLen) (ha : 0 < n → ∃ g o, ao = some ⟨g, o, none⟩ ∧ GAt hopE w g o L ∧ cap ≤ maxLen) :
    Calls Tryd.prog 88 #[.slice ao n cap, .agg #[.int .i64 x0, .int .i64 x1, .int .i64 x2]] w fun e w' => e = .returned (.int .i64 (ixG (fun a => hopB ((x0, x1), x2) a) L)) ∧ Below w.heap.size w w' := by
  have HN : Hid (L.length = n) := hn
  have HA : Hid (0 < n → ∃ g o, ao = some ⟨g, o, none⟩ ∧ GAt hopE w g o L ∧ cap ≤ maxLen) := ha
  have HC0 := hop_new w x0 x1 x2 109
  have HB0 : Hid (Below w.heap.size w (w.alloc (Obj.cells #[Value.int IntKind.i64 x0, Value.int IntKind.i64 x1, Value.int IntKind.i64 x2] 109))) := (Below.refl _ _).alloc (Nat.le_refl _) _
  unfold maxLen at hn2
  clear hn ha
  go_enter Tryd.func88, Tryd.ntmps88
  go_wp2
  go_loopw [8] (fun i wr => ∃ k : Nat, k ≤ n ∧ i = .int .i64 k ∧ (L.take k).any (fun a => hopB ((x0, x1), x2) a) = false ∧ Below w.heap.size w wr ∧ VAt wr w.heap.size 0 (hopE.c ((x0, x1), x2)))
    (fun i _ => n - (intOf i).toNat)
  case atStart => exact ⟨0, by omega, rfl, by simp, HB0.out, HC0⟩
  case round =>
    obtain ⟨k, hk, rfl, hno, hB, hC⟩ := hrel
    have HB : Hid (Below w.heap.size w wr) := hB
    have HC : Hid (VAt wr w.heap.size 0 (hopE.c ((x0, x1), x2))) := hC
    have HNO : Hid ((L.take k).any (fun a => hopB ((x0, x1), x2) a) = false) := hno
    clear hno HC0 HB0
    by_cases hlt : k < n
    · obtain ⟨g, og, hao, hc, _⟩ := HA.out (by omega)
      subst hao
      obtain ⟨y0, y1, y2, hkl, hL, q0, q1, q2⟩ := hop_at (hc.later hB) HN.out hlt
      have HL : Hid (L[k] = ((y0, y1), y2)) := hL
      obtain ⟨r0, r1, r2⟩ := hop_cells hC
      simp only [Nat.zero_add] at r0 r1 r2
      have HCE : Hid (hopCI wr w.heap.size x0 x1 x2 g (og + k * 3) y0 y1 y2 wr) := ⟨Below.refl _ _, ⟨r0, r1, r2⟩, q0, q1, q2⟩
      clear hL hB hC HA q0 q1 q2 r0 r1 r2
      go_upto_region 4 with fail
      have kb0 : (0 : Int) ≤ (k : Int) := by omega
      have kb1 : (k : Int) < (n : Int) := by omega
      go_cut [16] from 9 to 18 (fun c w' => c = .bool (hopB ((x0, x1), x2) ((y0, y1), y2)) ∧ Below wr.heap.size wr w')
      case first =>
        as_aux_lemma =>
          refine wp_region_quiet (C := hopCI wr w.heap.size x0 x1 x2 g (og + k * 3) y0 y1 y2) (by kernel_rfl) (by kernel_rfl) (hopCI.later (W := wr) (Below.drew (Below.refl _ _)) HCE.out) ?_
          simp only [List.toList_toArray]
          go_big_quiet_want
          refine quiet_val (v := .agg #[.int .i64 x0, .int .i64 x1, .int .i64 x2]) (fun w' hC => ?_) ?_
          · obtain ⟨z, ⟨z0, z1, z2⟩, u0, u1, u2⟩ := hC
            go_simp
          simp only [Act.put, List.setIfInBounds_toArray, List.set_cons_zero, List.set_cons_succ]
          go_big_quiet_on
          go_big_quiet_want
          refine quiet_val (v := .slice (some ⟨g, og, none⟩) n cap) (fun w' hC => ?_) ?_
          · obtain ⟨z, ⟨z0, z1, z2⟩, u0, u1, u2⟩ := hC
            go_simp
          simp only [Act.put, List.setIfInBounds_toArray, List.set_cons_zero, List.set_cons_succ]
          go_big_quiet_on
          go_big_quiet_want
          refine quiet_val (v := .int .i64 (k : Int)) (fun w' hC => ?_) ?_
          · obtain ⟨z, ⟨z0, z1, z2⟩, u0, u1, u2⟩ := hC
            go_simp
          simp only [Act.put, List.setIfInBounds_toArray, List.set_cons_zero, List.set_cons_succ]
          go_big_quiet_on
          go_big_quiet_want
          refine quiet_val (v := .pointer (some ⟨g, og + k * 3, none⟩)) (fun w' hC => ?_) ?_
          · obtain ⟨z, ⟨z0, z1, z2⟩, u0, u1, u2⟩ := hC
            go_simp
          simp only [Act.put, List.setIfInBounds_toArray, List.set_cons_zero, List.set_cons_succ]
          go_big_quiet_on
          go_big_quiet_want
          refine quiet_val (v := .agg #[.int .i64 y0, .int .i64 y1, .int .i64 y2]) (fun w' hC => ?_) ?_
          · obtain ⟨z, ⟨z0, z1, z2⟩, u0, u1, u2⟩ := hC
            go_simp
          simp only [Act.put, List.setIfInBounds_toArray, List.set_cons_zero, List.set_cons_succ]
          go_big_quiet_on
          go_big_quiet_want
          refine quiet_val (v := .bool (hopB ((x0, x1), x2) ((y0, y1), y2))) (fun w' hC => exec_bin rfl (by go_simp) (run_eql_of (hop_eq x0 x1 x2 y0 y1 y2 w'))) ?_
          simp only [Act.put, List.setIfInBounds_toArray, List.set_cons_zero, List.set_cons_succ]
          go_big_quiet_on
          refine wpQuiet_nil ?_
          intro w' hC
          go_wp2_with fail
          go_meet
          case rel => exact ⟨rfl, hC.1⟩
      case rest =>
        obtain ⟨rfl, hB2⟩ := hcut
        have HB2 : Hid (Below w.heap.size w wc) := HB.out.trans (hB2.mono HB.out.size)
        have HC2 : Hid (VAt wc w.heap.size 0 (hopE.c ((x0, x1), x2))) := HC.out.later hB2
        clear hB2
        cases ho : hopB ((x0, x1), x2) ((y0, y1), y2)
        · go_wp2
          go_roundw
          case rel => exact ⟨k + 1, by omega, by go_num, any_nextG hkl HNO.out (by rw [HL.out]; exact ho), HB2.out, HC2.out⟩
          case measure => simp [intOf]; omega
        · go_wp2
          go_ret
          exact ⟨by rw [ixG_hit hkl HNO.out (by rw [HL.out]; exact ho)]; rfl, HB2.out⟩
    · obtain rfl : k = n := by omega
      go_wp2
      go_ret
      exact ⟨by have := HNO.out; rw [← HN.out, List.take_length] at this; rw [ixG_no this]; rfl, HB.out⟩

end Go.Proofs.YtbieljcoaocfkacDoor
/- What slices.Contains answers at hops. -/
namespace Go.Proofs.YtbieljcoaocfkacDoor
open Go.RowKit
set_option linter.unusedSimpArgs false
set_option linter.unusedVariables false

set_option maxHeartbeats 1000000 in
set_option maxRecDepth 100000 in
theorem hop_has (ao : Option Addr) (n cap : Nat) (x y h : Int) (L : List ((Int × Int) × Int)) (w : World) (hs : GS hopE w (.slice ao n cap) L) :
    Calls Tryd.prog 75 #[.slice ao n cap, .agg #[.int .i64 x, .int .i64 y, .int .i64 h]] w fun e w' => e = .returned (.bool (L.any fun a => hopB ((x, y), h) a)) ∧ Below w.heap.size w w' := by
  obtain ⟨ao', n', cap', e, hn, hn2, hn3, ha⟩ := hs.form
  cases e
  have HN : Hid (L.length = n) := hn
  have hB0 : Below w.heap.size w (w.alloc (Obj.cells #[Value.int IntKind.i64 x, Value.int IntKind.i64 y, Value.int IntKind.i64 h] 109)) := (Below.refl _ _).alloc (Nat.le_refl _) _
  have HA : Hid (0 < n → ∃ g o, ao = some ⟨g, o, none⟩ ∧ GAt hopE w g o L ∧ cap ≤ maxLen) := ha
  have HB0 : Hid (Below w.heap.size w (w.alloc (Obj.cells #[Value.int IntKind.i64 x, Value.int IntKind.i64 y, Value.int IntKind.i64 h] 109))) := hB0
  have HM : Hid (n ≤ maxLen) := hn2
  have HX : Hid ((L.any fun a => hopB ((x, y), h) a) = decide (0 ≤ ixG (fun a => hopB ((x, y), h) a) L)) := (ixG_any L (fun a => hopB ((x, y), h) a)).symm
  rw [HX.out]
  clear hn ha hs hn2 hB0 HX
  obtain ⟨z, hz⟩ : ∃ z, z = ixG (fun a => hopB ((x, y), h) a) L := ⟨_, rfl⟩
  rw [← hz]
  have HX : Hid (z = ixG (fun a => hopB ((x, y), h) a) L) := hz
  clear hz
  go_enter Tryd.func75, Tryd.ntmps75
  go_wp2_with fail
  refine (hop_idx ao n cap x y h L _ HN.out HM.out (fun h0 => by
    obtain ⟨g, o, e1, e2, e3⟩ := HA.out h0
    exact ⟨g, o, e1, e2.later HB0.out, e3⟩)).mono ?_
  rintro e w2 ⟨rfl, hb2⟩
  have HB2 : Hid (Below w.heap.size w w2) := HB0.out.trans (hb2.mono HB0.out.size)
  rw [← HX.out]
  clear hb2
  go_wp2
  go_ret
  exact ⟨rfl, HB2.out⟩
end Go.Proofs.YtbieljcoaocfkacDoor
/- What package slices answers at slices of api.Host. Written by mk/slices.py. -/
namespace Go.Proofs.YtbieljcoaocfkacDoor
open Go.RowKit
set_option linter.unusedSimpArgs false
set_option linter.unusedVariables false

/-- A closure that asks something, in whatever world behind this one. -/
def hstAsks (w : World) (f : FuncId) (c : Value) (P : ByteArray × (Int × Int) → Bool) : Prop :=
  ∀ (x0 : ByteArray) (x1 : Int) (x2 : Int) (W : World), Below w.heap.size w W → Calls Tryd.prog f #[.agg #[.string x0, .int .i64 x1, .int .i64 x2], c] W fun e w' => e = .returned (.bool (P (x0, (x1, x2)))) ∧ Below W.heap.size W w'
theorem hstAsks.later {w w' : World} {f : FuncId} {c : Value} {P : ByteArray × (Int × Int) → Bool} (h : hstAsks w f c P) (hb : Below w.heap.size w w') : hstAsks w' f c P :=
  fun x0 x1 x2 W hW => h x0 x1 x2 W (hb.trans (hW.mono hb.size))

set_option maxHeartbeats 1000000 in
theorem hst_idxF (ao : Option Addr) (n cap : Nat) (f : FuncId) (c : Value) (P : ByteArray × (Int × Int) → Bool) (L : List (ByteArray × (Int × Int))) (w : World) (hn : L.length = n) (hn2 : n ≤ maxLen) (ha : 0 < n → ∃ g o, ao = some ⟨g, o, none⟩ ∧ GAt hstE w g o L ∧ cap ≤ maxLen) (he : ∀ args w, (callFunc f args).run Tryd.prog w = .ok (.enter f args) w) (hf : hstAsks w f c P) :
    Calls Tryd.prog 39 #[.slice ao n cap, .func (Fn.func f) #[] #[c]] w fun e w' => e = .returned (.int .i64 (ixG P L)) ∧ Below w.heap.size w w' := by
  have HN : Hid (L.length = n) := hn
  have HF : Hid (hstAsks w f c P) := hf
  have HA : Hid (0 < n → ∃ g o, ao = some ⟨g, o, none⟩ ∧ GAt hstE w g o L ∧ cap ≤ maxLen) := ha
  unfold maxLen at hn2
  clear hn hf ha
  go_enter Tryd.func39, Tryd.ntmps39
  go_wp2
  go_loopw [8] (fun i wr => ∃ k : Nat, k ≤ n ∧ i = .int .i64 k ∧ (L.take k).any P = false ∧ Below w.heap.size w wr)
    (fun i _ => n - (intOf i).toNat)
  case atStart => exact ⟨0, by omega, rfl, by simp, Below.refl _ _⟩
  case round =>
    obtain ⟨k, hk, rfl, hno, hB⟩ := hrel
    have HB : Hid (Below w.heap.size w wr) := hB
    have HNO : Hid ((L.take k).any P = false) := hno
    clear hno
    by_cases hlt : k < n
    · obtain ⟨g, o, hao, hc, _⟩ := HA.out (by omega)
      subst hao
      obtain ⟨x0, x1, x2, hkl, hL, q0, q1, q2⟩ := hst_at (hc.later hB) HN.out hlt
      have HL : Hid (L[k] = (x0, (x1, x2))) := hL
      clear hL hB
      cases ho : P (x0, (x1, x2))
      · go_wp2_with fail
        refine (HF.out x0 x1 x2 _ HB.out).mono ?_
        rintro e w1 ⟨rfl, hb1⟩
        rw [ho]
        have HB1 := HB.out.trans (hb1.mono HB.out.size)
        clear hb1
        go_wp2
        go_roundw
        case rel => exact ⟨k + 1, by omega, by go_num, any_nextG hkl HNO.out (by rw [HL.out]; exact ho), HB1⟩
        case measure => simp [intOf]; omega
      · go_wp2_with fail
        refine (HF.out x0 x1 x2 _ HB.out).mono ?_
        rintro e w1 ⟨rfl, hb1⟩
        rw [ho]
        go_wp2
        go_ret
        exact ⟨by rw [ixG_hit hkl HNO.out (by rw [HL.out]; exact ho)]; rfl, HB.out.trans (hb1.mono HB.out.size)⟩
    · obtain rfl : k = n := by omega
      go_wp2
      go_ret
      exact ⟨by have := HNO.out; rw [← HN.out, List.take_length] at this; rw [ixG_no this]; rfl, HB.out⟩

end Go.Proofs.YtbieljcoaocfkacDoor
/- What strings.Clone answers: the text itself. -/
namespace Go.Proofs.YtbieljcoaocfkacDoor
open Go.RowKit
set_option linter.unusedSimpArgs false
set_option linter.unusedVariables false

theorem infoByte : (Tryd.prog.info? 5).map (fun i => (i.zero, i.size, i.bytes)) = some (some (.int .u8 0), 1, 1) := by kernel_rfl
set_option maxHeartbeats 1000000 in
set_option maxRecDepth 100000 in
theorem liteClone (s : ByteArray) (w : World) (hlim : s.size ≤ 1000000) :
    Calls Tryd.prog 59 #[.string s] w fun e w' => e = .returned (.string s) ∧ Below w.heap.size w w' := by
  by_cases h0 : s.size = 0
  · have hs : s = ⟨#[]⟩ := by
      apply ByteArray.ext
      exact Array.eq_empty_of_size_eq_zero h0
    subst hs
    go_enter Tryd.func59, Tryd.ntmps59
    go_wp2
    go_ret
    exact ⟨rfl, Below.refl _ _⟩
  · obtain ⟨i0, hi, hz0, hz1, hz2⟩ := info_parts infoByte
    have hinfo : (Tryd.prog.info? 5).map (·.size) = some 1 := by rw [hi]; simp [hz1]
    have hco : Tryd.prog.cellsOf 5 = 1 := by simp [Program.cellsOf, hi, hz1]
    obtain ⟨M, hM⟩ : ∃ M, M = madeCells (Value.int .u8 0).cells (((s.size : Nat) : Int).toNat * i0.size) := ⟨_, rfl⟩
    have hMs : M.size = s.size := by rw [hM, size_madeCells, hz1]; simp
    have hmk : (Instr.makeSlice 145 (.int .i64 (s.size : Int)) (.int .i64 (s.size : Int))).run Tryd.prog w = .ok (.slice (some ⟨w.heap.size, 0, none⟩) s.size s.size) (w.alloc (.cells M 5)) := by
      have h := run_make (P := Tryd.prog) w 145 5 i0 (.int .u8 0) Tryd.underlying145 hi hz0 .i64 .i64 (s.size : Int) (s.size : Int) (by omega) (by omega) (by rw [hz2]; omega) (by omega)
      rw [← hM] at h
      simpa using h
    clear hM
    have hcp := Lib.run_copy_row_string (P := Tryd.prog) (w.alloc (.cells M 5)) 145 9 3 5 w.heap.size 0 s.size s.size s M 5 Tryd.underlying145 hinfo (heap_alloc_new w _) (Nat.le_refl _) (by omega)
    obtain ⟨Y, hY⟩ : ∃ Y, Y = (M.toList.take 0 ++ Lib.byteCells s.data.toList ++ M.toList.drop (0 + s.size)).toArray := ⟨_, rfl⟩
    rw [← hY] at hcp
    have hYl : Y.toList = Lib.byteCells s.data.toList := by
      rw [hY, List.toList_toArray, List.take_zero, List.nil_append, List.drop_of_length_le (by rw [Array.length_toList]; omega), List.append_nil]
    have hYs : Y.size = s.size := by rw [← Array.length_toList, hYl, Lib.byteCells_length, ← Lib.size_eq]
    have hgY : ((w.alloc (.cells M 5)).setRow w.heap.size Y).heap[w.heap.size]? = some (.cells Y 5 (0, 0)) := setRow_heap _ _ M _ 5 (0, 0) (heap_alloc_new w _)
    have hne : s.data.toList ≠ [] := fun e => h0 (by rw [Lib.size_eq, e]; rfl)
    have hUS := Lib.run_unsafeString_row (P := Tryd.prog) ((w.alloc (.cells M 5)).setRow w.heap.size Y) 147 3 9 5 Tryd.underlying147 hco w.heap.size Y.size (by unfold World.shape?; rw [hgY]) s.data.toList hne (by rw [← Lib.size_eq]; omega) (by rw [← Lib.size_eq]; omega)
      (fun j x hx => Lib.cells_of_row hgY Y.size j _ (by rw [List.take_of_length_le (by rw [Array.length_toList]; exact Nat.le_refl _), hYl]; simp [Lib.byteCells, hx]))
    rw [← Lib.size_eq] at hUS
    clear hY
    go_enter Tryd.func59, Tryd.ntmps59
    go_wp2
    go_ret
    have hb1 : Below w.heap.size w (w.alloc (.cells M 5)) := (Below.refl _ w).alloc (Nat.le_refl _) _
    have hb2 : Below w.heap.size (w.alloc (.cells M 5)) ((w.alloc (.cells M 5)).setRow w.heap.size Y) := ⟨rfl, rfl, rfl, by simp, fun k hk => setRow_other _ _ _ _ (by omega)⟩
    exact ⟨rfl, Lib.below_freeze (hb1.trans hb2) (p := ⟨w.heap.size, 0, none⟩) (Nat.le_refl _) _⟩
set_option maxHeartbeats 1000000 in
theorem clone_any (s : ByteArray) (w : World) (hlim : s.size ≤ 1000000) :
    Calls Tryd.prog 41 #[.string s] w fun e w' => e = .returned (.string s) ∧ Below w.heap.size w w' := by
  go_enter Tryd.func41, Tryd.ntmps41
  go_wp2_with fail
  refine (liteClone s _ hlim).mono ?_
  rintro e w1 ⟨rfl, hb1⟩
  go_wp2
  go_ret
  exact ⟨rfl, hb1⟩
end Go.Proofs.YtbieljcoaocfkacDoor
/- Rows that a call owns, behind other calls. -/
namespace Go.Proofs.YtbieljcoaocfkacDoor
open Go.RowKit

theorem own_below {w w' : World} {B e size n : Nat} {v : Value} {xs : List Value} (h : w.ownsRow B e size v n xs) (hb : Below w.heap.size w w') : w'.ownsRow B e size v n xs := by
  obtain ⟨h1, h2 | ⟨g, cap, cur, hv, hB, hg, h3⟩⟩ := h
  · exact ⟨h1, .inl h2⟩
  · have hlt : g < w.heap.size := by
      rcases Nat.lt_or_ge g w.heap.size with h | h
      · exact h
      · rw [Array.getElem?_eq_none h] at hg; cases hg
    exact ⟨h1, .inr ⟨g, cap, cur, hv, hB, (hb.block g hlt).trans hg, h3⟩⟩

theorem own_mono {w : World} {B B' e size n : Nat} {v : Value} {xs : List Value} (h : w.ownsRow B e size v n xs) (hB : B' ≤ B) : w.ownsRow B' e size v n xs := by
  obtain ⟨h1, h2 | ⟨g, cap, cur, hv, hb, h3⟩⟩ := h
  · exact ⟨h1, .inl h2⟩
  · exact ⟨h1, .inr ⟨g, cap, cur, hv, Nat.le_trans hB hb, h3⟩⟩

theorem infoInt : (Tryd.prog.info? 3).map (fun i => (i.zero, i.size, i.bytes)) = some (some (.int .i64 0), 1, 8) := by kernel_rfl
theorem own_later {w w' : World} {B e size n : Nat} {v : Value} {xs : List Value} {B' : Nat} (h : w.ownsRow B e size v n xs) (hb : Below B' w w') (hB : w.heap.size ≤ B') : w'.ownsRow B e size v n xs := own_below h (hb.mono hB)
end Go.Proofs.YtbieljcoaocfkacDoor
/- Rows of numbers that a call owns. -/
namespace Go.Proofs.YtbieljcoaocfkacDoor
open Go.RowKit

/-- The length of a row that a call owns. -/
theorem own_form {w : World} {B e size n : Nat} {v : Value} {xs : List Value} (h : w.ownsRow B e size v n xs) : ∃ ao cap, v = .slice ao n cap := by
  rcases h.2 with ⟨rfl, rfl⟩ | ⟨g, cap, cur, rfl, _⟩
  · exact ⟨none, 0, rfl⟩
  · exact ⟨_, cap, rfl⟩

/-- These numbers lie where a value says. -/
theorem own_ints {w : World} {B e : Nat} {v : Value} {xs : List Int} (h : w.ownsRow B e 1 v xs.length (xs.map (Value.int .i64))) :
    (v = .slice none 0 0 ∧ xs = []) ∨ ∃ g cap, v = .slice (some ⟨g, 0, none⟩) xs.length cap ∧ ∀ i (hi : i < xs.length), w.cell? ⟨g, i, none⟩ = some (.int .i64 xs[i]) := by
  rcases h.2 with ⟨rfl, h0⟩ | ⟨g, cap, cur, rfl, _⟩
  · exact .inl ⟨rfl, List.length_eq_zero_iff.1 h0⟩
  · refine .inr ⟨g, cap, rfl, fun i hi => ?_⟩
    rw [h.cellAt i (by omega)]
    simp [hi]

/-- Are two lists of numbers alike up to a place? -/
def eqTo (a b : List Int) (k : Nat) : Bool := a.take k == b.take k

end Go.Proofs.YtbieljcoaocfkacDoor
