/- What topo.Peer answers: a contract for the walks above it. -/
import Derived.Test.YtfbocionnjlilacDoorTopoSpot
import Derived.Test.YtfbocionnjlilacDoorTopoPeers
import Derived.Deep.RegionWith
namespace Go.Proofs.YtfbocionnjlilacDoor
open Go.RowKit
set_option linter.unusedSimpArgs false
set_option linter.unusedVariables false

/-- The three boxes of a call: a topology, a spot, the answer. -/
def pbox (w : World) (S : Int) (v1 v2 : Value) (x y : Int) : World := ((w.alloc (Obj.cells #[.int .i64 S, v1, v2] 25)).alloc (Obj.cells #[.int .i64 x, .int .i64 y] 27)).alloc (Obj.cells #[.int .i64 0, .int .i64 0] 27)
structure PBox (w W : World) (S : Int) (v1 v2 : Value) (x y : Int) : Prop where
  below : Below w.heap.size w W
  t : TBox W w.heap.size S v1 v2
  s0 : W.cell? ⟨w.heap.size + 1, 0, none⟩ = some (.int .i64 x)
  s1 : W.cell? ⟨w.heap.size + 1, 1, none⟩ = some (.int .i64 y)
  r0 : W.cell? ⟨w.heap.size + 1 + 1, 0, none⟩ = some (.int .i64 0)
  r1 : W.cell? ⟨w.heap.size + 1 + 1, 1, none⟩ = some (.int .i64 0)
  f : ∀ i, W.frozen? ⟨w.heap.size + 1 + 1, i, none⟩ = false
theorem froz_new2 (w : World) (cs : Array Value) (t : TypeId) (k : Nat) : (w.alloc (.cells cs t)).frozen? ⟨w.heap.size, k, none⟩ = false := by simp
theorem pbox_new (w : World) (S : Int) (v1 v2 : Value) (x y : Int) : PBox w (pbox w S v1 v2 x y) S v1 v2 x y := by
  have e1 : (w.alloc (Obj.cells #[.int .i64 S, v1, v2] 25)).heap.size = w.heap.size + 1 := by simp
  have e2 : ((w.alloc (Obj.cells #[.int .i64 S, v1, v2] 25)).alloc (Obj.cells #[.int .i64 x, .int .i64 y] 27)).heap.size = w.heap.size + 1 + 1 := by simp
  have hb : ∀ (W : World) (o : Obj), Below W.heap.size W (W.alloc o) := fun W o => (Below.refl _ _).alloc (Nat.le_refl _) _
  have hs := (vat_new (w.alloc (Obj.cells #[.int .i64 S, v1, v2] 25)) [.int .i64 x, .int .i64 y] 27).later (hb _ (Obj.cells #[.int .i64 0, .int .i64 0] 27))
  rw [e1] at hs
  have hr := vat_new ((w.alloc (Obj.cells #[.int .i64 S, v1, v2] 25)).alloc (Obj.cells #[.int .i64 x, .int .i64 y] 27)) [.int .i64 0, .int .i64 0] 27
  rw [e2] at hr
  have hf := froz_new2 ((w.alloc (Obj.cells #[.int .i64 S, v1, v2] 25)).alloc (Obj.cells #[.int .i64 x, .int .i64 y] 27)) #[.int .i64 0, .int .i64 0] 27
  rw [e2] at hf
  exact ⟨(((Below.refl _ _).alloc (Nat.le_refl _) _).alloc (by rw [e1]; omega) _).alloc (by rw [e2]; omega) _, ((tbox_new w S v1 v2 25).later (hb _ _)).later (hb _ _), hs 0 _ rfl, hs 1 _ rfl, hr 0 _ rfl, hr 1 _ rfl, hf⟩
theorem PBox.later {w W W' : World} {S : Int} {v1 v2 : Value} {x y : Int} (h : PBox w W S v1 v2 x y) (hb : Below W.heap.size W W') : PBox w W' S v1 v2 x y :=
  ⟨h.below.trans (hb.mono h.below.size), h.t.later hb, cell_later hb h.s0, cell_later hb h.s1, cell_later hb h.r0, cell_later hb h.r1, fun i => (hb.frozen (p := ⟨w.heap.size + 1 + 1, i, none⟩) (show (⟨w.heap.size + 1 + 1, 0, none⟩ : Addr).block < W.heap.size from World.block_lt_of_cell? W ⟨w.heap.size + 1 + 1, 0, none⟩ h.r0)).trans (h.f i)⟩
theorem below_two2 {w W : World} (h : Below w.heap.size w W) (g : Nat) (hg : w.heap.size ≤ g) (u v : Value) : Below w.heap.size w ((W.setCell ⟨g, 0, none⟩ u).setCell ⟨g, 1, none⟩ v) := (h.setCell (p := ⟨g, 0, none⟩) hg u).setCell (p := ⟨g, 1, none⟩) hg v
theorem bdrew {w w' : World} (hb : Below w.drew.heap.size w.drew w') : Below w.heap.size w w' := (Below.drew (Below.refl _ _)).trans hb
theorem balloc {w w' : World} {o : Obj} (hb : Below (w.drew.alloc o).heap.size (w.drew.alloc o) w') : Below w.heap.size w w' := ((Below.drew (Below.refl _ _)).alloc (Nat.le_refl _) o).trans (hb.mono (by simp))
theorem ballocC {w w' : World} {a b : Value} {t : TypeId} (hb : Below (w.drew.alloc (Obj.cells #[a, b] t)).heap.size (w.drew.alloc (Obj.cells #[a, b] t)) w') : w'.cell? ⟨w.heap.size, 0, none⟩ = some a ∧ w'.cell? ⟨w.heap.size, 1, none⟩ = some b ∧ w'.frozen? ⟨w.heap.size, 0, none⟩ = false ∧ w'.frozen? ⟨w.heap.size, 1, none⟩ = false := by
  have h := vat_new w.drew [a, b] t
  have hl : w.heap.size < (w.drew.alloc (Obj.cells #[a, b] t)).heap.size := by simp
  exact ⟨cell_later hb (h 0 _ rfl), cell_later hb (h 1 _ rfl), (hb.frozen (p := ⟨w.heap.size, 0, none⟩) hl).trans (froz_new2 w.drew #[a, b] t 0), (hb.frozen (p := ⟨w.heap.size, 1, none⟩) hl).trans (froz_new2 w.drew #[a, b] t 1)⟩
theorem two_cells {w' : World} {g : Nat} {a b u v : Value} (k0 : w'.cell? ⟨g, 0, none⟩ = some u) (k1 : w'.cell? ⟨g, 1, none⟩ = some v) (ha : a.oneCell' = true) (hb : b.oneCell' = true) : ((w'.setCell ⟨g, 0, none⟩ a).setCell ⟨g, 1, none⟩ b).cell? ⟨g, 0, none⟩ = some a ∧ ((w'.setCell ⟨g, 0, none⟩ a).setCell ⟨g, 1, none⟩ b).cell? ⟨g, 1, none⟩ = some b := by
  have h1 : (w'.setCell ⟨g, 0, none⟩ a).cell? ⟨g, 1, none⟩ = some v := by
    rw [World.cell?_setCell_other _ _ _ _ (by simp)]
    exact k1
  constructor
  · rw [World.cell?_setCell_other _ _ _ _ (by simp)]
    exact World.cell?_setCell_same _ _ _ k0
  · exact World.cell?_setCell_same _ _ _ h1
/-- What a look-up of a spot answers. -/
theorem peer_look {W : World} {B : Nat} {M : List ((Int × Int) × (Int × Int))} {Ls : List ((Int × Int) × (Int × Int))} (hM : MAt spotKey veS W B M) (hP : PM M Ls) (x y : Int) :
    (Instr.lookup 92 (.map (some B)) (.agg #[.int .i64 x, .int .i64 y]) true).run Tryd.prog W = .ok (.tuple #[.agg #[.int .i64 ((peerO Ls (x, y)).getD (0, 0)).1, .int .i64 ((peerO Ls (x, y)).getD (0, 0)).2], .bool (peerO Ls (x, y)).isSome]) W := by
  have h := run_lookup_M hM 92 27 Tryd.underlying92 (.agg #[.int .i64 0, .int .i64 0]) (fun w => by kernel_rfl) (x, y) true
  rw [show mget spotKey.q (x, y) M = peerO Ls (x, y) from hP (x, y)] at h
  simp only [if_true] at h
  cases hp : peerO Ls (x, y) with
  | none => rw [hp] at h; exact h
  | some p => rw [hp] at h; exact h
set_option maxHeartbeats 2000000 in
set_option maxRecDepth 100000 in
theorem peer_any (S : Int) (ao : Option Addr) (n cap : Nat) (ao2 : Option Addr) (n2 cap2 : Nat) (Ls : List ((Int × Int) × (Int × Int))) (Hs : List (ByteArray × (Int × Int))) (x y : Int) (w : World)
    (hL : GS lnkE w (.slice ao n cap) Ls) (hH : GS hstE w (.slice ao2 n2 cap2) Hs) :
    Calls Tryd.prog 13 #[.agg #[.int .i64 S, .slice ao n cap, .slice ao2 n2 cap2], .agg #[.int .i64 x, .int .i64 y]] w fun e w' => e = .returned (.tuple #[.agg #[.int .i64 (peV S Ls Hs (x, y)).1, .int .i64 (peV S Ls Hs (x, y)).2], noV (peN S Ls Hs (x, y))]) ∧ Below w.heap.size w w' := by
  have hX := pbox_new w S (.slice ao n cap) (.slice ao2 n2 cap2) x y
  obtain ⟨R, hR⟩ : ∃ R, R = peN S Ls Hs (x, y) := ⟨_, rfl⟩
  have HR : Hid (R = peN S Ls Hs (x, y)) := hR
  obtain ⟨V1, hV1⟩ : ∃ V, V = (peV S Ls Hs (x, y)).1 := ⟨_, rfl⟩
  have HV1 : Hid (V1 = (peV S Ls Hs (x, y)).1) := hV1
  obtain ⟨V2, hV2⟩ : ∃ V, V = (peV S Ls Hs (x, y)).2 := ⟨_, rfl⟩
  have HV2 : Hid (V2 = (peV S Ls Hs (x, y)).2) := hV2
  rw [← hR, ← hV1, ← hV2]
  have HL2 : Hid (GS lnkE (pbox w S (.slice ao n cap) (.slice ao2 n2 cap2) x y) (.slice ao n cap) Ls) := hL.later hX.below
  have HH2 : Hid (GS hstE (pbox w S (.slice ao n cap) (.slice ao2 n2 cap2) x y) (.slice ao2 n2 cap2) Hs) := hH.later hX.below
  have HX : Hid (PBox w (pbox w S (.slice ao n cap) (.slice ao2 n2 cap2) x y) S (.slice ao n cap) (.slice ao2 n2 cap2) x y) := hX
  clear hR hV1 hV2 hX hL hH
  go_enter Tryd.func13, Tryd.ntmps13
  go_wp2_with fail
  refine (checkSpot_any S ao n cap ao2 n2 cap2 Ls Hs x y _ HL2.out HH2.out).mono ?_
  rintro e w1 ⟨rfl, hb1⟩
  obtain ⟨T, hT⟩ : ∃ T, T = csN S Ls Hs (x, y) := ⟨_, rfl⟩
  have HT : Hid (T = csN S Ls Hs (x, y)) := hT
  rw [← hT]
  have hX1 := HX.out.later hb1
  have HX1 : Hid (PBox w w1 S (.slice ao n cap) (.slice ao2 n2 cap2) x y) := hX1
  have HL1 : Hid (GS lnkE w1 (.slice ao n cap) Ls) := HL2.out.later hb1
  obtain ⟨_, ⟨b0, b1, b2⟩, s0, s1, r0, r1, f⟩ := hX1
  have f0 := f 0
  have f1 := f 1
  clear hT hb1 HX HL2 HH2 f
  by_cases h0 : T = 0
  · subst h0
    rw [no_ok rfl]
    have HTP : Hid (tpN S Ls Hs = 0) := by
      show _ = _
      have h := HT.out
      unfold csN at h
      by_cases e : tpN S Ls Hs = 0
      · exact e
      · rw [if_neg e] at h; exact absurd h.symm e
    have HND : Hid ((spsL Ls).Nodup) := (tp_0 HTP.out).2.2.2.1
    have HN2 : Hid (n ≤ 1000) := by
      have h1 := (tp_0 HTP.out).2.1.1
      have h2 := HL1.out.len
      show _ ≤ _
      omega
    obtain ⟨p0, hp0⟩ : ∃ p, ((peerO Ls (x, y)).getD (0, 0)).1 = p := ⟨_, rfl⟩
    obtain ⟨p1, hp1⟩ : ∃ p, ((peerO Ls (x, y)).getD (0, 0)).2 = p := ⟨_, rfl⟩
    obtain ⟨ok, hok⟩ : ∃ p, (peerO Ls (x, y)).isSome = p := ⟨_, rfl⟩
    have HLK : Hid (∀ W B M, MAt spotKey veS W B M → PM M Ls → (Instr.lookup 92 (.map (some B)) (.agg #[.int .i64 x, .int .i64 y]) true).run Tryd.prog W = .ok (.tuple #[.agg #[.int .i64 p0, .int .i64 p1], .bool ok]) W) := fun W B M h1 h2 => by
      rw [← hp0, ← hp1, ← hok]
      exact peer_look h1 h2 x y
    have HOK : Hid (R = if ok then 0 else 5) := by
      show _ = _
      rw [HR.out, peN, if_pos HT.out.symm, hok]
    have HP0 : Hid (ok = true → V1 = p0 ∧ V2 = p1) := fun h => by
      have e : R = 0 := by rw [HOK.out, h]; rfl
      have e2 : peV S Ls Hs (x, y) = (peerO Ls (x, y)).getD (0, 0) := by rw [peV, ← HR.out, e, if_pos rfl]
      exact ⟨by rw [HV1.out, e2, hp0], by rw [HV2.out, e2, hp1]⟩
    have HP5 : Hid (ok = false → V1 = 0 ∧ V2 = 0) := fun h => by
      have e : R = 5 := by rw [HOK.out, h]; rfl
      have e2 : peV S Ls Hs (x, y) = (0, 0) := by rw [peV, ← HR.out, e, if_neg (by decide)]
      exact ⟨by rw [HV1.out, e2], by rw [HV2.out, e2]⟩
    have HS : Hid (∀ W, Below w1.heap.size w1 W → W.cell? ⟨w.heap.size + 1, 0, none⟩ = some (.int .i64 x) ∧ W.cell? ⟨w.heap.size + 1, 1, none⟩ = some (.int .i64 y)) := fun W hb => ⟨cell_later hb HX1.out.s0, cell_later hb HX1.out.s1⟩
    have HLW : Hid (∀ W, Below w1.heap.size w1 W → GS lnkE W (.slice ao n cap) Ls) := fun W hb => HL1.out.later hb
    clear hp0 hp1 hok r0 r1 f0 f1
    go_upto_region 4 with fail
    go_cut [7, 8] from 16 to 23 (fun p q w' => ∃ g, p = .pointer (some ⟨g, 0, none⟩) ∧ q = .bool ok ∧ w'.cell? ⟨g, 0, none⟩ = some (.int .i64 p0) ∧ w'.cell? ⟨g, 1, none⟩ = some (.int .i64 p1) ∧ Below w1.heap.size w1 w')
    case first =>
      have hl1 : w.heap.size + 1 < w1.heap.size := World.block_lt_of_cell? _ _ s0
      have hl0 : w.heap.size < w1.heap.size := World.block_lt_of_cell? _ _ b0
      go_region_with (go_at_call 38; refine (peers_any ao n cap Ls _ (HLW.out _ (by first | exact Below.drew (Below.refl _ _) | exact (Below.drew (Below.refl _ _)).alloc (Nat.le_refl _) _)) HND.out HN2.out).mono ?_; rintro e w' ⟨B, M, rfl, hM, hPM, hb⟩; have hbx : Below w1.heap.size w1 w' := (by first | exact bdrew hb | exact balloc hb); obtain ⟨c0', c1'⟩ := HS.out _ hbx; have hl' : w.heap.size + 1 < w'.heap.size := World.block_lt_of_cell? _ _ c0'; have hlk1 := HLK.out _ _ _ hM hPM; have hlk2 := HLK.out _ _ _ (hM.later ((Below.refl _ _).alloc (Nat.le_refl _) (Obj.cells #[.int .i64 0, .int .i64 0] 27))) hPM; have HBX : Hid (Below w1.heap.size w1 w') := hbx; try (have hbc := ballocC hb; obtain ⟨k0, k1, k2, k3⟩ := hbc); clear hM hPM hbx)
      all_goals (go_wp2_with fail; go_meet)
      all_goals first
        | exact ⟨_, rfl, rfl, by simp, by simp, HBX.out.alloc HBX.out.size _⟩
        | exact ⟨_, rfl, rfl, (two_cells k0 k1 rfl rfl).1, (two_cells k0 k1 rfl rfl).2, (HBX.out.setCell (p := ⟨w1.heap.size, 0, none⟩) (Nat.le_refl _) _).setCell (p := ⟨w1.heap.size, 1, none⟩) (Nat.le_refl _) _⟩
    case rest =>
      obtain ⟨g, rfl, rfl, g0, g1, hbw⟩ := hcut
      have hX3 := HX1.out.later hbw
      have HB3 : Hid (Below w.heap.size w wc) := hX3.below
      obtain ⟨_, ⟨b0, b1, b2⟩, s0, s1, r0, r1, f⟩ := hX3
      have f0 := f 0
      have f1 := f 1
      clear hbw f HX1 HL1 HLW HS HLK
      cases ok with
      | false =>
        have HR5 : Hid (R = 5) := HOK.out
        have HV5 : Hid (V1 = 0 ∧ V2 = 0) := HP5.out rfl
        go_wp2
        refine bodyPost_ret (v := .tuple #[.agg #[.int .i64 0, .int .i64 0], .iface 85 (.int .i64 5)]) (by simp [results, Tryd.results13, go_sem, *]) rfl ⟨by rw [HR5.out, HV5.out.1, HV5.out.2]; rfl, below_two2 HB3.out _ (by omega) _ _⟩
      | true =>
        have HR0 : Hid (R = 0) := HOK.out
        have HV0 : Hid (V1 = p0 ∧ V2 = p1) := HP0.out rfl
        go_wp2
        refine bodyPost_ret (v := .tuple #[.agg #[.int .i64 p0, .int .i64 p1], .nilIface]) (by simp [results, Tryd.results13, go_sem, *]) rfl ⟨by rw [HR0.out, HV0.out.1, HV0.out.2]; rfl, below_two2 HB3.out _ (by omega) _ _⟩
  · rw [no_ne h0]
    have HR2 : Hid (R = T) := by
      show _ = _
      rw [HR.out, peN, ← HT.out, if_neg h0]
    have HV5 : Hid (V1 = 0 ∧ V2 = 0) := by
      have h2 := HR2.out
      have e : peV S Ls Hs (x, y) = (0, 0) := by rw [peV, ← HR.out, h2, if_neg h0]
      exact ⟨by rw [HV1.out, e], by rw [HV2.out, e]⟩
    have HN0 : Hid (T ≠ 0) := h0
    clear h0
    go_wp2
    refine bodyPost_ret (v := .tuple #[.agg #[.int .i64 0, .int .i64 0], .iface 85 (.int .i64 T)]) (by simp [results, Tryd.results13, go_sem, *]) rfl ⟨by rw [HR2.out, HV5.out.1, HV5.out.2, no_ne HN0.out], below_two2 HX1.out.below _ (by omega) _ _⟩
end Go.Proofs.YtfbocionnjlilacDoor
