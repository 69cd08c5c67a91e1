/- Contracts and facts on the way to WishTells, joined into one text: WishParse, RefReadW, RefRule, RefTable. -/
import Derived.Test.YtpmcjelihdlfeaaGreatDoorWishTellsP10
import Derived.Test.YtpmcjelihdlfeaaGreatDoorWishTellsP6
import Derived.Test.YtpmcjelihdlfeaaGreatDoorWishTellsP5
import Derived.Test.YtpmcjelihdlfeaaGreatDoorWishTellsP4
import Derived.BigRegion
import Derived.Deep.RegionWith
import Derived.Deep.RegionHeld3
/- What wish.Parse answers: a contract for the walks above it. -/
namespace Go.Proofs.YtpmcjelihdlfeaaGreatDoor
open Go.RowKit
set_option linter.unusedSimpArgs false
set_option linter.unusedVariables false

/-- The number and the answer of a text. -/
def paE (s : ByteArray) : Int := if (rdO s).isSome then 0 else 2
def paW (s : ByteArray) : Wi := (rdO s).getD zeW
/-- What holds all along: the words, the answer's box, the box of the wish. -/
structure PK (w W : World) (gW gB : Nat) (c : List ByteArray) (k : Int) (f t : ByteArray) (v : Int) : Prop where
  below : Below w.heap.size w W
  ws : WAt W gW 0 c
  wd : HasWords W
  nm : HasNum W
  r : WiBox W w.heap.size 0 ⟨#[]⟩ ⟨#[]⟩ 0
  rf : ∀ i, W.frozen? ⟨w.heap.size, i, none⟩ = false
  x : WiBox W gB k f t v
  xf : ∀ i, W.frozen? ⟨gB, i, none⟩ = false
theorem froz_later {W W' : World} {g : Nat} {a : Value} (h : ∀ i, W.frozen? ⟨g, i, none⟩ = false) (hc : W.cell? ⟨g, 0, none⟩ = some a) (hb : Below W.heap.size W W') : ∀ i, W'.frozen? ⟨g, i, none⟩ = false :=
  fun i => (hb.frozen (p := ⟨g, i, none⟩) (show (⟨g, 0, none⟩ : Addr).block < W.heap.size from World.block_lt_of_cell? W ⟨g, 0, none⟩ hc)).trans (h i)
theorem PK.later {w W W' : World} {gW gB : Nat} {c : List ByteArray} {k : Int} {f t : ByteArray} {v : Int} (h : PK w W gW gB c k f t v) (hb : Below W.heap.size W W') : PK w W' gW gB c k f t v :=
  ⟨h.below.trans (hb.mono h.below.size), h.ws.later hb, h.wd.later hb, h.nm.later hb, h.r.later hb, froz_later h.rf h.r.1 hb, h.x.later hb, froz_later h.xf h.x.1 hb⟩
theorem other {W : World} {g b o j : Nat} {u v : Value} (hne : b ≠ g) (h : W.cell? ⟨b, o, none⟩ = some u) : (W.setCell ⟨g, j, none⟩ v).cell? ⟨b, o, none⟩ = some u := by
  rw [World.cell?_setCell_other _ _ _ _ (by simp [hne])]
  exact h
theorem other2 {W : World} {g o j : Nat} {u v : Value} (hne : o ≠ j) (h : W.cell? ⟨g, o, none⟩ = some u) : (W.setCell ⟨g, j, none⟩ v).cell? ⟨g, o, none⟩ = some u := by
  rw [World.cell?_setCell_other _ _ _ _ (by simp [hne])]
  exact h
theorem froz_set {W : World} {g j : Nat} {v : Value} (b i : Nat) : (W.setCell ⟨g, j, none⟩ v).frozen? ⟨b, i, none⟩ = W.frozen? ⟨b, i, none⟩ := by simp
/-- A cell of the wish's box is stored. -/
structure PA (w W : World) (gW gB : Nat) (c : List ByteArray) : Prop where
  below : Below w.heap.size w W
  ws : WAt W gW 0 c
  wd : HasWords W
  nm : HasNum W
  r : WiBox W w.heap.size 0 ⟨#[]⟩ ⟨#[]⟩ 0
  rf : ∀ i, W.frozen? ⟨w.heap.size, i, none⟩ = false
  xf : ∀ i, W.frozen? ⟨gB, i, none⟩ = false
theorem PA.set {w W : World} {gW gB : Nat} {c : List ByteArray} (h : PA w W gW gB c) (h1 : w.heap.size < gB) (h2 : gW ≠ gB) (hg : 0 < w.heap.size ∧ 2 < w.heap.size ∧ 3 < w.heap.size) (j : Nat) (u : Value) : PA w (W.setCell ⟨gB, j, none⟩ u) gW gB c := by
  obtain ⟨b, ws, ⟨d0, d1, d2, d3, d4⟩, ⟨⟨a, n1, n2⟩, a', n3, n4⟩, ⟨r0, r1, r2, r3⟩, rf, xf⟩ := h
  have g0 : 0 ≠ gB := by omega
  have g1 : 2 ≠ gB := by omega
  have g2 : 3 ≠ gB := by omega
  have g3 : w.heap.size ≠ gB := by omega
  exact ⟨b.setCell (p := ⟨gB, j, none⟩) (Nat.le_of_lt h1) u, fun i hi => other h2 (ws i hi), ⟨other g0 d0, other g0 d1, other g0 d2, other g0 d3, other g0 d4⟩, ⟨⟨a, other g1 n1, n2⟩, a', other g2 n3, n4⟩,
    ⟨other g3 r0, other g3 r1, other g3 r2, other g3 r3⟩, fun i => by rw [froz_set]; exact rf i, fun i => by rw [froz_set]; exact xf i⟩
theorem PK.pa {w W : World} {gW gB : Nat} {c : List ByteArray} {k : Int} {f t : ByteArray} {v : Int} (h : PK w W gW gB c k f t v) : PA w W gW gB c := ⟨h.below, h.ws, h.wd, h.nm, h.r, h.rf, h.xf⟩
theorem PA.pk {w W : World} {gW gB : Nat} {c : List ByteArray} {k : Int} {f t : ByteArray} {v : Int} (h : PA w W gW gB c) (hx : WiBox W gB k f t v) : PK w W gW gB c k f t v := ⟨h.below, h.ws, h.wd, h.nm, h.r, h.rf, hx, h.xf⟩
theorem same_cell {W : World} {g j : Nat} {u v : Value} (h : W.cell? ⟨g, j, none⟩ = some u) : (W.setCell ⟨g, j, none⟩ v).cell? ⟨g, j, none⟩ = some v := World.cell?_setCell_same _ _ _ h
theorem PK.set12 {w W : World} {gW gB : Nat} {c : List ByteArray} {k : Int} {f t : ByteArray} {v : Int} (h : PK w W gW gB c k f t v) (h1 : w.heap.size < gB) (h2 : gW ≠ gB) (hg : 0 < w.heap.size ∧ 2 < w.heap.size ∧ 3 < w.heap.size) (a b : ByteArray) : PK w ((W.setCell ⟨gB, 1, none⟩ (.string a)).setCell ⟨gB, 2, none⟩ (.string b)) gW gB c k a b v := by
  obtain ⟨x0, x1, x2, x3⟩ := h.x
  refine ((h.pa.set h1 h2 hg 1 _).set h1 h2 hg 2 _).pk ⟨?_, ?_, ?_, ?_⟩
  · exact other2 (by decide) (other2 (by decide) x0)
  · exact other2 (by decide) (same_cell x1)
  · exact same_cell (other2 (by decide) x2)
  · exact other2 (by decide) (other2 (by decide) x3)
theorem PK.set21 {w W : World} {gW gB : Nat} {c : List ByteArray} {k : Int} {f t : ByteArray} {v : Int} (h : PK w W gW gB c k f t v) (h1 : w.heap.size < gB) (h2 : gW ≠ gB) (hg : 0 < w.heap.size ∧ 2 < w.heap.size ∧ 3 < w.heap.size) (a b : ByteArray) : PK w ((W.setCell ⟨gB, 2, none⟩ (.string b)).setCell ⟨gB, 1, none⟩ (.string a)) gW gB c k a b v := by
  obtain ⟨x0, x1, x2, x3⟩ := h.x
  refine ((h.pa.set h1 h2 hg 2 _).set h1 h2 hg 1 _).pk ⟨?_, ?_, ?_, ?_⟩
  · exact other2 (by decide) (other2 (by decide) x0)
  · exact same_cell (other2 (by decide) x1)
  · exact other2 (by decide) (same_cell x2)
  · exact other2 (by decide) (other2 (by decide) x3)
theorem PK.set3 {w W : World} {gW gB : Nat} {c : List ByteArray} {k : Int} {f t : ByteArray} {v : Int} (h : PK w W gW gB c k f t v) (h1 : w.heap.size < gB) (h2 : gW ≠ gB) (hg : 0 < w.heap.size ∧ 2 < w.heap.size ∧ 3 < w.heap.size) (a : Int) : PK w (W.setCell ⟨gB, 3, none⟩ (.int .i64 a)) gW gB c k f t a := by
  obtain ⟨x0, x1, x2, x3⟩ := h.x
  refine (h.pa.set h1 h2 hg 3 _).pk ⟨?_, ?_, ?_, ?_⟩
  · exact other2 (by decide) x0
  · exact other2 (by decide) x1
  · exact other2 (by decide) x2
  · exact same_cell x3
theorem pk_drew {w W : World} {gW gB : Nat} {c : List ByteArray} {k : Int} {f t : ByteArray} {v : Int} (h : PK w W gW gB c k f t v) : PK w W.drew gW gB c k f t v := h.later (Below.drew (Below.refl _ _))

theorem below_put4 {B : Nat} {w W : World} (h : Below B w W) (g : Nat) (hg : B ≤ g) (u v x y : Value) : Below B w ((((W.setCell ⟨g, 0, none⟩ u).setCell ⟨g, 1, none⟩ v).setCell ⟨g, 2, none⟩ x).setCell ⟨g, 3, none⟩ y) := (((h.setCell (p := ⟨g, 0, none⟩) hg u).setCell (p := ⟨g, 1, none⟩) hg v).setCell (p := ⟨g, 2, none⟩) hg x).setCell (p := ⟨g, 3, none⟩) hg y
theorem sh_small {w : Wi} (h : shN w = 0) : w.f.size ≤ 6 ∧ w.t.size ≤ 6 := by
  rcases shw_0 h with ⟨_, e1, e2, _⟩ | ⟨_, e1, e2, _⟩ | ⟨_, e1, e2, _⟩
  · rw [e1, e2]; exact ⟨Nat.zero_le _, Nat.zero_le _⟩
  · exact ⟨nm_size e1, nm_size e2⟩
  · exact ⟨nm_size e1, nm_size e2⟩
theorem dg_ne {p : Int} (h1 : 1 ≤ p) (h6 : p ≤ 6) : ByteArray.empty ≠ dgS p := by
  intro e
  have h := (via_back (p := p) ⟨by omega, h6⟩).1
  rw [← e] at h
  revert h
  decide
theorem getB {c : List ByteArray} {k : Nat} (hk : k < c.length) : c.getD k ByteArray.empty = c[k] := by simp [List.getD, hk]
theorem getB_no {c : List ByteArray} {k : Nat} (hk : c.length ≤ k) : c.getD k ByteArray.empty = ByteArray.empty := by simp [List.getD, hk]
theorem cut_size : ∀ (k : Nat) (s : ByteArray) (a : ByteArray), a ∈ cutB k s → a.size ≤ s.size
  | 0, s, a, h => by
    simp only [cutB, List.mem_singleton] at h
    rw [h]
    exact Nat.le_refl _
  | k + 1, s, a, h => by
    rcases bl_cases s with e | ⟨i, e, hi⟩
    · rw [cut_miss _ e, List.mem_singleton] at h
      rw [h]
      exact Nat.le_refl _
    · rw [cut_hit _ e, List.mem_cons] at h
      rcases h with rfl | h
      · rw [ByteArray.size_extract]; omega
      · have := cut_size k _ a h
        rw [ByteArray.size_extract] at this
        omega

set_option maxHeartbeats 16000000 in
set_option maxRecDepth 100000 in
theorem parse_any (s : ByteArray) (w : World) (hs : s.size ≤ 281474976710656) (hw : HasWords w) (hn : HasNum w) :
    Calls Tryz.prog 10 #[.string s] w fun e w' => e = .returned (.tuple #[.agg #[.int .i64 (paW s).k, .string (paW s).f, .string (paW s).t, .int .i64 (paW s).v], noV (paE s)]) ∧ Below w.heap.size w w' := by
  obtain ⟨E, hE⟩ : ∃ q, q = paE s := ⟨_, rfl⟩
  obtain ⟨X, hX⟩ : ∃ q, q = paW s := ⟨_, rfl⟩
  have HE : Hid (E = paE s) := hE
  have HW : Hid (X = paW s) := hX
  rw [← hE, ← hX]
  have HGL : Hid (0 < w.heap.size ∧ 2 < w.heap.size ∧ 3 < w.heap.size) := by
    obtain ⟨⟨a, h1, _⟩, b, h2, _⟩ := hn
    exact ⟨World.block_lt_of_cell? _ _ hw.1, World.block_lt_of_cell? _ _ h1, World.block_lt_of_cell? _ _ h2⟩
  have hb0 : Below w.heap.size w (w.alloc (Obj.cells #[.int .i64 0, .string ⟨#[]⟩, .string ⟨#[]⟩, .int .i64 0] 31)) := (Below.refl _ _).alloc (Nat.le_refl _) _
  have hr0 := wibox_new w 0 ⟨#[]⟩ ⟨#[]⟩ 0 31
  have hrf0 : ∀ i, (w.alloc (Obj.cells #[.int .i64 0, .string ⟨#[]⟩, .string ⟨#[]⟩, .int .i64 0] 31)).frozen? ⟨w.heap.size, i, none⟩ = false := fun i => by simp
  obtain ⟨w0, hw0⟩ : ∃ W, w.alloc (Obj.cells #[.int .i64 0, .string ⟨#[]⟩, .string ⟨#[]⟩, .int .i64 0] 31) = W := ⟨_, rfl⟩
  rw [hw0] at hb0 hr0 hrf0
  have HW0 : Hid (w.alloc (Obj.cells #[.int .i64 0, .string ⟨#[]⟩, .string ⟨#[]⟩, .int .i64 0] 31) = w0) := hw0
  have HB0 : Hid (Below w.heap.size w w0) := hb0
  have HR0 : Hid (WiBox w0 w.heap.size 0 ⟨#[]⟩ ⟨#[]⟩ 0) := hr0
  have HF0 : Hid (∀ i, w0.frozen? ⟨w.heap.size, i, none⟩ = false) := hrf0
  have HWD0 : Hid (HasWords w0) := hw.later hb0
  have HNM0 : Hid (HasNum w0) := hn.later hb0
  have HSZ : Hid (s.size ≤ 281474976710656) := hs
  clear hE hX hb0 hr0 hrf0 hw0 hw hn hs
  go_enter Tryz.func10, Tryz.ntmps10
  go_upto_region 1 with fail
  rw [HW0.out]
  clear HW0
  go_wp2_with fail
  refine (splitN4_any s _ (by have := HSZ.out; omega)).mono ?_
  rintro e w1 ⟨cap, rfl, hc1, hc2, hws, hb1⟩
  obtain ⟨c, hc⟩ : ∃ q, q = cutB 3 s := ⟨_, rfl⟩
  have HCS : Hid (cutB 3 s = c) := hc.symm
  have hcl := cut_len 3 s
  have hcz : ∀ a ∈ c, a.size ≤ s.size := fun a ha => cut_size 3 s a (by rw [← hc]; exact ha)
  rw [← hc] at hws hc1 hcl ⊢
  obtain ⟨n, hn⟩ : ∃ q, q = c.length := ⟨_, rfl⟩
  have HCN : Hid (c.length = n) := hn.symm
  have HCZ : Hid (∀ a ∈ c, a.size ≤ s.size) := hcz
  rw [← hn] at hc1 hcl ⊢
  obtain ⟨gW, hgW⟩ : ∃ q, q = w0.heap.size := ⟨_, rfl⟩
  rw [← hgW] at hws ⊢
  have HWS : Hid (WAt w1 gW 0 c) := hws
  have hn4 : n ≤ 4 := hcl.1
  have hn1 : 1 ≤ n := hcl.2
  have hn0 : ¬ n = 0 := by omega
  have hni : (0 : Int) < (n : Int) := by omega
  have q0 : w1.cell? ⟨gW, 0, none⟩ = some (.string (c.getD 0 ByteArray.empty)) := by
    have := hws 0 (by rw [← hn]; omega)
    rw [getB (by rw [← hn]; omega)]
    simpa using this
  obtain ⟨a0, ha0⟩ : ∃ q, q = c.getD 0 ByteArray.empty := ⟨_, rfl⟩
  have HA0 : Hid (c.getD 0 ByteArray.empty = a0) := ha0.symm
  rw [← ha0] at q0
  obtain ⟨K, hK⟩ : ∃ q, q = whW a0 := ⟨_, rfl⟩
  have HKW : Hid (whW a0 = K) := hK.symm
  have HB1 : Hid (Below w.heap.size w w1) := HB0.out.trans (hb1.mono HB0.out.size)
  have HR1 : Hid (WiBox w1 w.heap.size 0 ⟨#[]⟩ ⟨#[]⟩ 0) := HR0.out.later hb1
  have HF1' : Hid (∀ i, w1.frozen? ⟨w.heap.size, i, none⟩ = false) := froz_later HF0.out HR0.out.1 hb1
  have HWD1 : Hid (HasWords w1) := HWD0.out.later hb1
  have HNM1 : Hid (HasNum w1) := HNM0.out.later hb1
  have HGW : Hid (gW < w1.heap.size) := World.block_lt_of_cell? _ _ q0
  clear hc hn hcl hcz hws hgW ha0 hK hb1 HR0 HF0 HWD0 HNM0 HB0
  go_wp2_with fail
  refine (whatOf_any a0 _ HWD1.out).mono ?_
  rintro e w2 ⟨rfl, hw2⟩
  subst hw2
  rw [HKW.out]
  have ha2 : Below w2.heap.size w2 (w2.alloc (Obj.cells #[.int .i64 K, .string ⟨#[]⟩, .string ⟨#[]⟩, .int .i64 0] 31)) := (Below.refl _ _).alloc (Nat.le_refl _) _
  have hx2 := wibox_new w2 K ⟨#[]⟩ ⟨#[]⟩ 0 31
  have hxf2 : ∀ i, (w2.alloc (Obj.cells #[.int .i64 K, .string ⟨#[]⟩, .string ⟨#[]⟩, .int .i64 0] 31)).frozen? ⟨w2.heap.size, i, none⟩ = false := fun i => by simp
  have hk2 : PK w (w2.alloc (Obj.cells #[.int .i64 K, .string ⟨#[]⟩, .string ⟨#[]⟩, .int .i64 0] 31)) gW w2.heap.size c K ⟨#[]⟩ ⟨#[]⟩ 0 :=
    ⟨HB1.out.trans (ha2.mono HB1.out.size), HWS.out.later ha2, HWD1.out.later ha2, HNM1.out.later ha2, HR1.out.later ha2, froz_later HF1'.out HR1.out.1 ha2, hx2, hxf2⟩
  obtain ⟨w3, hw3⟩ : ∃ W, w2.alloc (Obj.cells #[.int .i64 K, .string ⟨#[]⟩, .string ⟨#[]⟩, .int .i64 0] 31) = W := ⟨_, rfl⟩
  obtain ⟨gB, hgB⟩ : ∃ q, q = w2.heap.size := ⟨_, rfl⟩
  rw [hw3, ← hgB] at hk2
  have HK3 : Hid (PK w w3 gW gB c K ⟨#[]⟩ ⟨#[]⟩ 0) := hk2
  have HW3 : Hid (w2.alloc (Obj.cells #[.int .i64 K, .string ⟨#[]⟩, .string ⟨#[]⟩, .int .i64 0] 31) = w3) := hw3
  have HGB : Hid (w2.heap.size = gB) := hgB.symm
  have hne : ¬ gW = gB := by have := HGW.out; rw [hgB]; omega
  have HNE : Hid (gW ≠ gB) := hne
  have HLB : Hid (w.heap.size < gB) := by
    show _ < _
    rw [hgB]
    exact World.block_lt_of_cell? _ _ HR1.out.1
  clear ha2 hx2 hxf2 hk2 hw3 hgB HR1 HF1' HWD1 HNM1 HB1 HWS HGW q0
  go_upto_region 3 with fail
  rw [HW3.out, HGB.out]
  clear HW3 HGB
  by_cases hn2 : 2 < n
  · have hni2 : (2 : Int) < (n : Int) := by omega
    have hni1 : (1 : Int) < (n : Int) := by omega
    have q1 : w3.cell? ⟨gW, 1, none⟩ = some (.string (c.getD 1 ByteArray.empty)) := by
      have := HK3.out.ws 1 (by rw [HCN.out]; omega)
      rw [getB (by rw [HCN.out]; omega)]
      simpa using this
    have q2 : w3.cell? ⟨gW, 2, none⟩ = some (.string (c.getD 2 ByteArray.empty)) := by
      have := HK3.out.ws 2 (by rw [HCN.out]; omega)
      rw [getB (by rw [HCN.out]; omega)]
      simpa using this
    obtain ⟨f, hf⟩ : ∃ q, q = c.getD 1 ByteArray.empty := ⟨_, rfl⟩
    obtain ⟨t, ht⟩ : ∃ q, q = c.getD 2 ByteArray.empty := ⟨_, rfl⟩
    have HFC : Hid (c.getD 1 ByteArray.empty = f) := hf.symm
    have HTC : Hid (c.getD 2 ByteArray.empty = t) := ht.symm
    rw [← hf] at q1
    rw [← ht] at q2
    have hx3 := HK3.out.x
    obtain ⟨x0, x1, x2, x3⟩ := hx3
    have xf1 := HK3.out.xf 1
    have xf2 := HK3.out.xf 2
    have hlb : gB < w3.heap.size := World.block_lt_of_cell? _ _ x0
    have hlw : gW < w3.heap.size := World.block_lt_of_cell? _ _ q1
    clear hf ht
    go_upto_region 4 with fail
    go_cut [5] from 18 to 26 (fun p w' => p = .pointer (some ⟨gB, 0, none⟩) ∧ PK w w' gW gB c K f t 0)
    case first =>
      go_region
      all_goals
        go_wp2_with fail
        go_meet
        first
          | exact ⟨rfl, (pk_drew HK3.out).set12 HLB.out HNE.out HGL.out f t⟩
          | exact ⟨rfl, (pk_drew HK3.out).set21 HLB.out HNE.out HGL.out f t⟩
    case rest =>
      obtain ⟨rfl, hk4⟩ := hcut
      have HK4 : Hid (PK w wc gW gB c K f t 0) := hk4
      clear hk4 HK3 q1 q2 x0 x1 x2 x3 xf1 xf2 hlb hlw
      by_cases hn3 : 3 < n
      · have hni3 : (3 : Int) < (n : Int) := by omega
        have q3 : wc.cell? ⟨gW, 3, none⟩ = some (.string (c.getD 3 ByteArray.empty)) := by
          have := HK4.out.ws 3 (by rw [HCN.out]; omega)
          rw [getB (by rw [HCN.out]; omega)]
          simpa using this
        obtain ⟨d, hd⟩ : ∃ q, q = c.getD 3 ByteArray.empty := ⟨_, rfl⟩
        have HDC : Hid (c.getD 3 ByteArray.empty = d) := hd.symm
        rw [← hd] at q3
        have HDZ : Hid (d.size ≤ 281474976710656) := by
          show _ ≤ _
          have h1 : d ∈ c := by
            rw [hd, getB (by rw [HCN.out]; omega)]
            exact List.getElem_mem _
          exact Nat.le_trans (HCZ.out _ h1) HSZ.out
        clear hd
        go_wp2_with fail
        refine (atoi_any d _ HDZ.out HK4.out.nm).mono ?_
        rintro e w5 ⟨⟨V, ev, rfl, hV⟩, hb5⟩
        have hk5 := HK4.out.later hb5
        have HV : Hid (∀ p : Int, 1 ≤ p → p ≤ 6 → (cutB 3 s).getD 3 ByteArray.empty = dgS p → V = p) := fun p h1 h6 he => hV p h1 h6 (by rw [← HDC.out, ← HCS.out]; exact he)
        have HK : Hid (PK w (w5.setCell ⟨gB, 3, none⟩ (.int .i64 V)) gW gB c K f t V) := hk5.set3 HLB.out HNE.out HGL.out V
        have hwx := hk5.x
        obtain ⟨x0, x1, x2, x3⟩ := hwx
        have xf3 := hk5.xf 3
        obtain ⟨v, hvV⟩ : ∃ q : Int, q = V := ⟨_, rfl⟩
        clear hV hb5 hk5 q3 HK4
        go_upto_region 7 with fail
        generalize w5.setCell ⟨gB, 3, none⟩ (.int .i64 V) = w7 at *
        subst hvV
        clear x0 x1 x2 x3 xf3
        have HWK : Hid (wkW c v = ⟨K, f, t, v⟩) := by
          show _ = _
          rw [wkW, if_pos (by rw [HCN.out]; exact hn2), if_pos (by rw [HCN.out]; exact hn2), if_pos (by rw [HCN.out]; exact hn3), HA0.out, HKW.out, HFC.out, HTC.out]
        obtain ⟨PS, hPS⟩ : ∃ q, q = shV ⟨K, f, t, v⟩ := ⟨_, rfl⟩
        obtain ⟨PN, hPN⟩ : ∃ q, q = shN ⟨K, f, t, v⟩ := ⟨_, rfl⟩
        have HPS : Hid (shV ⟨K, f, t, v⟩ = PS) := hPS.symm
        have HPN : Hid (shN ⟨K, f, t, v⟩ = PN) := hPN.symm
        have hwx := HK.out.x
        obtain ⟨x0, x1, x2, x3⟩ := hwx
        clear hPS hPN
        go_wp2_with fail
        refine (print_any K f t v _ HK.out.wd).mono ?_
        rintro e w6 ⟨rfl, hb6⟩
        rw [HPS.out, HPN.out]
        have HK6 : Hid (PK w w6 gW gB c K f t v) := HK.out.later hb6
        clear hb6 HK x0 x1 x2 x3
        have HBAD : Hid (¬ (PN = 0 ∧ (PS.toList == s.toList) = true) → rdO s = none) := fun h => (wk_rd s HV.out).2 (fun hh => h (by
          rw [HCS.out, HWK.out] at hh
          refine ⟨HPN.out.symm.trans hh.1, ?_⟩
          rw [← HPS.out, shV, if_pos hh.1, hh.2]
          simp))
        have HGOOD : Hid (PN = 0 → (PS.toList == s.toList) = true → rdO s = some ⟨K, f, t, v⟩) := fun h1 h2 => by
          have hq : shN ⟨K, f, t, v⟩ = 0 := HPN.out.trans h1
          have h3 := (wk_rd s HV.out).1 (by
            rw [HCS.out, HWK.out]
            refine ⟨hq, ?_⟩
            have h4 : PS = s := ba_eq.1 (by rw [beq_toListBytes]; exact h2)
            rw [← h4, ← HPS.out, shV, if_pos hq])
          rw [HCS.out, HWK.out] at h3
          exact h3
        by_cases h0 : PN = 0
        · cases hq : (PS.toList == s.toList)
          · have HN : Hid (rdO s = none) := HBAD.out (fun h => by rw [hq] at h; cases h.2)
            have hq2 : (PS.toList != s.toList) = true := by simp [bne, hq]
            subst h0
            rw [no_ok rfl]
            have hr := HK6.out.r
            obtain ⟨r0, r1, r2, r3⟩ := hr
            have f0 := HK6.out.rf 0
            have f1 := HK6.out.rf 1
            have f2 := HK6.out.rf 2
            have f3 := HK6.out.rf 3
            have HB6 : Hid (Below w.heap.size w w6) := HK6.out.below
            clear HBAD HGOOD
            go_wp2
            refine bodyPost_ret (v := .tuple #[.agg #[.int .i64 0, .string ⟨#[]⟩, .string ⟨#[]⟩, .int .i64 0], .iface 57 (.int .i64 2)]) (by simp [results, Tryz.results10, go_sem, *]) rfl ⟨by rw [HE.out, HW.out, paE, paW, HN.out]; rfl, below_put4 HB6.out _ (Nat.le_refl _) _ _ _ _⟩
          · have HS : Hid (rdO s = some ⟨K, f, t, v⟩) := HGOOD.out h0 hq
            have hq2 : (PS.toList != s.toList) = false := by simp [bne, hq]
            have HSH : Hid (shN ⟨K, f, t, v⟩ = 0) := HPN.out.trans h0
            have hfs : f.size ≤ 6 ∧ t.size ≤ 6 := sh_small HSH.out
            have HF1 : Hid (f.size ≤ 1000000) := by show _ ≤ _; omega
            have HT1 : Hid (t.size ≤ 1000000) := by show _ ≤ _; omega
            subst h0
            rw [no_ok rfl]
            clear HBAD HGOOD hfs
            go_upto_region 10 with fail
            clear hq hq2
            obtain ⟨x0, x1, x2, x3⟩ := HK6.out.x
            have xf1 := HK6.out.xf 1
            have xf2 := HK6.out.xf 2
            have hlb : gB < w6.heap.size := World.block_lt_of_cell? _ _ x0
            go_cut [5] from 51 to 59 (fun p w' => p = .pointer (some ⟨gB, 0, none⟩) ∧ PK w w' gW gB c K f t v)
            case first =>
              go_region_with (go_at_call 30; (first | refine (clone_any f _ HF1.out).mono ?_ | refine (clone_any t _ HT1.out).mono ?_); rintro e wz ⟨rfl, hb⟩; have HKz : Hid (PK w wz gW gB c K f t v) := (by first | exact HKz.out.later hb | exact HK6.out.later (bdrew hb) | exact HK6.out.later hb); clear hb x0 x1 x2 x3 xf1 xf2 hlb; obtain ⟨x0, x1, x2, x3⟩ := HKz.out.x; have xf1 := HKz.out.xf 1; have xf2 := HKz.out.xf 2; have hlb : gB < wz.heap.size := World.block_lt_of_cell? _ _ x0)
              all_goals
                go_wp2_with fail
                go_meet
                first
                  | exact ⟨rfl, HKz.out.set12 HLB.out HNE.out HGL.out f t⟩
                  | exact ⟨rfl, HKz.out.set21 HLB.out HNE.out HGL.out f t⟩
            case rest =>
              obtain ⟨rfl, hk7⟩ := hcut
              have HK7 : Hid (PK w wc gW gB c K f t v) := hk7
              clear hk7 HK6 x0 x1 x2 x3 xf1 xf2 hlb
              obtain ⟨x0, x1, x2, x3⟩ := HK7.out.x
              obtain ⟨r0, r1, r2, r3⟩ := HK7.out.r
              have f0 := HK7.out.rf 0
              have f1 := HK7.out.rf 1
              have f2 := HK7.out.rf 2
              have f3 := HK7.out.rf 3
              have HB7 : Hid (Below w.heap.size w wc) := HK7.out.below
              go_wp2
              refine bodyPost_ret (v := .tuple #[.agg #[.int .i64 K, .string f, .string t, .int .i64 v], .nilIface]) (by simp [results, Tryz.results10, go_sem, *]) rfl ⟨by rw [HE.out, HW.out, paE, paW, HS.out]; rfl, below_put4 HB7.out _ (Nat.le_refl _) _ _ _ _⟩
        · have HN : Hid (rdO s = none) := HBAD.out (fun h => h0 h.1)
          rw [no_ne h0]
          have hr := HK6.out.r
          obtain ⟨r0, r1, r2, r3⟩ := hr
          have f0 := HK6.out.rf 0
          have f1 := HK6.out.rf 1
          have f2 := HK6.out.rf 2
          have f3 := HK6.out.rf 3
          have HB6 : Hid (Below w.heap.size w w6) := HK6.out.below
          clear HBAD HGOOD h0
          go_wp2
          refine bodyPost_ret (v := .tuple #[.agg #[.int .i64 0, .string ⟨#[]⟩, .string ⟨#[]⟩, .int .i64 0], .iface 57 (.int .i64 2)]) (by simp [results, Tryz.results10, go_sem, *]) rfl ⟨by rw [HE.out, HW.out, paE, paW, HN.out]; rfl, below_put4 HB6.out _ (Nat.le_refl _) _ _ _ _⟩
      · have hni3 : ¬ (3 : Int) < (n : Int) := by omega
        obtain ⟨v, hv0⟩ : ∃ q : Int, q = 0 := ⟨_, rfl⟩
        obtain ⟨V, hV0⟩ : ∃ q : Int, q = 0 := ⟨_, rfl⟩
        have HV : Hid (∀ p : Int, 1 ≤ p → p ≤ 6 → (cutB 3 s).getD 3 ByteArray.empty = dgS p → V = p) := fun p h1 h6 he => by
          rw [HCS.out, getB_no (by rw [HCN.out]; omega)] at he
          exact absurd he (dg_ne h1 h6)
        have HK : Hid (PK w wc gW gB c K f t v) := by rw [hv0]; exact HK4.out
        have HV0 : Hid (v = 0) := hv0
        clear hV0 hv0 HK4
        go_upto_region 7 with fail
        have HWK : Hid (wkW c V = ⟨K, f, t, v⟩) := by
          show _ = _
          rw [wkW, if_pos (by rw [HCN.out]; exact hn2), if_pos (by rw [HCN.out]; exact hn2), if_neg (by rw [HCN.out]; exact hn3), HA0.out, HKW.out, HFC.out, HTC.out, HV0.out]
        obtain ⟨PS, hPS⟩ : ∃ q, q = shV ⟨K, f, t, v⟩ := ⟨_, rfl⟩
        obtain ⟨PN, hPN⟩ : ∃ q, q = shN ⟨K, f, t, v⟩ := ⟨_, rfl⟩
        have HPS : Hid (shV ⟨K, f, t, v⟩ = PS) := hPS.symm
        have HPN : Hid (shN ⟨K, f, t, v⟩ = PN) := hPN.symm
        have hwx := HK.out.x
        obtain ⟨x0, x1, x2, x3⟩ := hwx
        clear hPS hPN
        go_wp2_with fail
        refine (print_any K f t v _ HK.out.wd).mono ?_
        rintro e w6 ⟨rfl, hb6⟩
        rw [HPS.out, HPN.out]
        have HK6 : Hid (PK w w6 gW gB c K f t v) := HK.out.later hb6
        clear hb6 HK x0 x1 x2 x3
        have HBAD : Hid (¬ (PN = 0 ∧ (PS.toList == s.toList) = true) → rdO s = none) := fun h => (wk_rd s HV.out).2 (fun hh => h (by
          rw [HCS.out, HWK.out] at hh
          refine ⟨HPN.out.symm.trans hh.1, ?_⟩
          rw [← HPS.out, shV, if_pos hh.1, hh.2]
          simp))
        have HGOOD : Hid (PN = 0 → (PS.toList == s.toList) = true → rdO s = some ⟨K, f, t, v⟩) := fun h1 h2 => by
          have hq : shN ⟨K, f, t, v⟩ = 0 := HPN.out.trans h1
          have h3 := (wk_rd s HV.out).1 (by
            rw [HCS.out, HWK.out]
            refine ⟨hq, ?_⟩
            have h4 : PS = s := ba_eq.1 (by rw [beq_toListBytes]; exact h2)
            rw [← h4, ← HPS.out, shV, if_pos hq])
          rw [HCS.out, HWK.out] at h3
          exact h3
        by_cases h0 : PN = 0
        · cases hq : (PS.toList == s.toList)
          · have HN : Hid (rdO s = none) := HBAD.out (fun h => by rw [hq] at h; cases h.2)
            have hq2 : (PS.toList != s.toList) = true := by simp [bne, hq]
            subst h0
            rw [no_ok rfl]
            have hr := HK6.out.r
            obtain ⟨r0, r1, r2, r3⟩ := hr
            have f0 := HK6.out.rf 0
            have f1 := HK6.out.rf 1
            have f2 := HK6.out.rf 2
            have f3 := HK6.out.rf 3
            have HB6 : Hid (Below w.heap.size w w6) := HK6.out.below
            clear HBAD HGOOD
            go_wp2
            refine bodyPost_ret (v := .tuple #[.agg #[.int .i64 0, .string ⟨#[]⟩, .string ⟨#[]⟩, .int .i64 0], .iface 57 (.int .i64 2)]) (by simp [results, Tryz.results10, go_sem, *]) rfl ⟨by rw [HE.out, HW.out, paE, paW, HN.out]; rfl, below_put4 HB6.out _ (Nat.le_refl _) _ _ _ _⟩
          · have HS : Hid (rdO s = some ⟨K, f, t, v⟩) := HGOOD.out h0 hq
            have hq2 : (PS.toList != s.toList) = false := by simp [bne, hq]
            have HSH : Hid (shN ⟨K, f, t, v⟩ = 0) := HPN.out.trans h0
            have hfs : f.size ≤ 6 ∧ t.size ≤ 6 := sh_small HSH.out
            have HF1 : Hid (f.size ≤ 1000000) := by show _ ≤ _; omega
            have HT1 : Hid (t.size ≤ 1000000) := by show _ ≤ _; omega
            subst h0
            rw [no_ok rfl]
            clear HBAD HGOOD hfs
            go_upto_region 10 with fail
            clear hq hq2
            obtain ⟨x0, x1, x2, x3⟩ := HK6.out.x
            have xf1 := HK6.out.xf 1
            have xf2 := HK6.out.xf 2
            have hlb : gB < w6.heap.size := World.block_lt_of_cell? _ _ x0
            go_cut [5] from 51 to 59 (fun p w' => p = .pointer (some ⟨gB, 0, none⟩) ∧ PK w w' gW gB c K f t v)
            case first =>
              go_region_with (go_at_call 30; (first | refine (clone_any f _ HF1.out).mono ?_ | refine (clone_any t _ HT1.out).mono ?_); rintro e wz ⟨rfl, hb⟩; have HKz : Hid (PK w wz gW gB c K f t v) := (by first | exact HKz.out.later hb | exact HK6.out.later (bdrew hb) | exact HK6.out.later hb); clear hb x0 x1 x2 x3 xf1 xf2 hlb; obtain ⟨x0, x1, x2, x3⟩ := HKz.out.x; have xf1 := HKz.out.xf 1; have xf2 := HKz.out.xf 2; have hlb : gB < wz.heap.size := World.block_lt_of_cell? _ _ x0)
              all_goals
                go_wp2_with fail
                go_meet
                first
                  | exact ⟨rfl, HKz.out.set12 HLB.out HNE.out HGL.out f t⟩
                  | exact ⟨rfl, HKz.out.set21 HLB.out HNE.out HGL.out f t⟩
            case rest =>
              obtain ⟨rfl, hk7⟩ := hcut
              have HK7 : Hid (PK w wc gW gB c K f t v) := hk7
              clear hk7 HK6 x0 x1 x2 x3 xf1 xf2 hlb
              obtain ⟨x0, x1, x2, x3⟩ := HK7.out.x
              obtain ⟨r0, r1, r2, r3⟩ := HK7.out.r
              have f0 := HK7.out.rf 0
              have f1 := HK7.out.rf 1
              have f2 := HK7.out.rf 2
              have f3 := HK7.out.rf 3
              have HB7 : Hid (Below w.heap.size w wc) := HK7.out.below
              go_wp2
              refine bodyPost_ret (v := .tuple #[.agg #[.int .i64 K, .string f, .string t, .int .i64 v], .nilIface]) (by simp [results, Tryz.results10, go_sem, *]) rfl ⟨by rw [HE.out, HW.out, paE, paW, HS.out]; rfl, below_put4 HB7.out _ (Nat.le_refl _) _ _ _ _⟩
        · have HN : Hid (rdO s = none) := HBAD.out (fun h => h0 h.1)
          rw [no_ne h0]
          have hr := HK6.out.r
          obtain ⟨r0, r1, r2, r3⟩ := hr
          have f0 := HK6.out.rf 0
          have f1 := HK6.out.rf 1
          have f2 := HK6.out.rf 2
          have f3 := HK6.out.rf 3
          have HB6 : Hid (Below w.heap.size w w6) := HK6.out.below
          clear HBAD HGOOD h0
          go_wp2
          refine bodyPost_ret (v := .tuple #[.agg #[.int .i64 0, .string ⟨#[]⟩, .string ⟨#[]⟩, .int .i64 0], .iface 57 (.int .i64 2)]) (by simp [results, Tryz.results10, go_sem, *]) rfl ⟨by rw [HE.out, HW.out, paE, paW, HN.out]; rfl, below_put4 HB6.out _ (Nat.le_refl _) _ _ _ _⟩
  · have hni2 : ¬ (2 : Int) < (n : Int) := by omega
    have hni3 : ¬ (3 : Int) < (n : Int) := by omega
    obtain ⟨v, hv0⟩ : ∃ q : Int, q = 0 := ⟨_, rfl⟩
    obtain ⟨V, hV0⟩ : ∃ q : Int, q = 0 := ⟨_, rfl⟩
    obtain ⟨f, hf⟩ : ∃ q : ByteArray, q = ⟨#[]⟩ := ⟨_, rfl⟩
    obtain ⟨t, ht⟩ : ∃ q : ByteArray, q = ⟨#[]⟩ := ⟨_, rfl⟩
    have HV : Hid (∀ p : Int, 1 ≤ p → p ≤ 6 → (cutB 3 s).getD 3 ByteArray.empty = dgS p → V = p) := fun p h1 h6 he => by
      rw [HCS.out, getB_no (by rw [HCN.out]; omega)] at he
      exact absurd he (dg_ne h1 h6)
    have HK : Hid (PK w w3 gW gB c K f t v) := by rw [hv0, hf, ht]; exact HK3.out
    have HV0 : Hid (v = 0 ∧ f = ByteArray.empty ∧ t = ByteArray.empty) := ⟨hv0, hf, ht⟩
    clear hV0 hv0 hf ht HK3
    go_upto_region 7 with fail
    have HWK : Hid (wkW c V = ⟨K, f, t, v⟩) := by
      show _ = _
      rw [wkW, if_neg (by rw [HCN.out]; exact hn2), if_neg (by rw [HCN.out]; exact hn2), if_neg (by rw [HCN.out]; omega), HA0.out, HKW.out, HV0.out.1, HV0.out.2.1, HV0.out.2.2]
    obtain ⟨PS, hPS⟩ : ∃ q, q = shV ⟨K, f, t, v⟩ := ⟨_, rfl⟩
    obtain ⟨PN, hPN⟩ : ∃ q, q = shN ⟨K, f, t, v⟩ := ⟨_, rfl⟩
    have HPS : Hid (shV ⟨K, f, t, v⟩ = PS) := hPS.symm
    have HPN : Hid (shN ⟨K, f, t, v⟩ = PN) := hPN.symm
    have hwx := HK.out.x
    obtain ⟨x0, x1, x2, x3⟩ := hwx
    clear hPS hPN
    go_wp2_with fail
    refine (print_any K f t v _ HK.out.wd).mono ?_
    rintro e w6 ⟨rfl, hb6⟩
    rw [HPS.out, HPN.out]
    have HK6 : Hid (PK w w6 gW gB c K f t v) := HK.out.later hb6
    clear hb6 HK x0 x1 x2 x3
    have HBAD : Hid (¬ (PN = 0 ∧ (PS.toList == s.toList) = true) → rdO s = none) := fun h => (wk_rd s HV.out).2 (fun hh => h (by
      rw [HCS.out, HWK.out] at hh
      refine ⟨HPN.out.symm.trans hh.1, ?_⟩
      rw [← HPS.out, shV, if_pos hh.1, hh.2]
      simp))
    have HGOOD : Hid (PN = 0 → (PS.toList == s.toList) = true → rdO s = some ⟨K, f, t, v⟩) := fun h1 h2 => by
      have hq : shN ⟨K, f, t, v⟩ = 0 := HPN.out.trans h1
      have h3 := (wk_rd s HV.out).1 (by
        rw [HCS.out, HWK.out]
        refine ⟨hq, ?_⟩
        have h4 : PS = s := ba_eq.1 (by rw [beq_toListBytes]; exact h2)
        rw [← h4, ← HPS.out, shV, if_pos hq])
      rw [HCS.out, HWK.out] at h3
      exact h3
    by_cases h0 : PN = 0
    · cases hq : (PS.toList == s.toList)
      · have HN : Hid (rdO s = none) := HBAD.out (fun h => by rw [hq] at h; cases h.2)
        have hq2 : (PS.toList != s.toList) = true := by simp [bne, hq]
        subst h0
        rw [no_ok rfl]
        have hr := HK6.out.r
        obtain ⟨r0, r1, r2, r3⟩ := hr
        have f0 := HK6.out.rf 0
        have f1 := HK6.out.rf 1
        have f2 := HK6.out.rf 2
        have f3 := HK6.out.rf 3
        have HB6 : Hid (Below w.heap.size w w6) := HK6.out.below
        clear HBAD HGOOD
        go_wp2
        refine bodyPost_ret (v := .tuple #[.agg #[.int .i64 0, .string ⟨#[]⟩, .string ⟨#[]⟩, .int .i64 0], .iface 57 (.int .i64 2)]) (by simp [results, Tryz.results10, go_sem, *]) rfl ⟨by rw [HE.out, HW.out, paE, paW, HN.out]; rfl, below_put4 HB6.out _ (Nat.le_refl _) _ _ _ _⟩
      · have HS : Hid (rdO s = some ⟨K, f, t, v⟩) := HGOOD.out h0 hq
        have hq2 : (PS.toList != s.toList) = false := by simp [bne, hq]
        have HSH : Hid (shN ⟨K, f, t, v⟩ = 0) := HPN.out.trans h0
        have hfs : f.size ≤ 6 ∧ t.size ≤ 6 := sh_small HSH.out
        have HF1 : Hid (f.size ≤ 1000000) := by show _ ≤ _; omega
        have HT1 : Hid (t.size ≤ 1000000) := by show _ ≤ _; omega
        subst h0
        rw [no_ok rfl]
        clear HBAD HGOOD hfs
        go_upto_region 10 with fail
        clear hq hq2
        obtain ⟨x0, x1, x2, x3⟩ := HK6.out.x
        have xf1 := HK6.out.xf 1
        have xf2 := HK6.out.xf 2
        have hlb : gB < w6.heap.size := World.block_lt_of_cell? _ _ x0
        go_cut [5] from 51 to 59 (fun p w' => p = .pointer (some ⟨gB, 0, none⟩) ∧ PK w w' gW gB c K f t v)
        case first =>
          go_region_with (go_at_call 30; (first | refine (clone_any f _ HF1.out).mono ?_ | refine (clone_any t _ HT1.out).mono ?_); rintro e wz ⟨rfl, hb⟩; have HKz : Hid (PK w wz gW gB c K f t v) := (by first | exact HKz.out.later hb | exact HK6.out.later (bdrew hb) | exact HK6.out.later hb); clear hb x0 x1 x2 x3 xf1 xf2 hlb; obtain ⟨x0, x1, x2, x3⟩ := HKz.out.x; have xf1 := HKz.out.xf 1; have xf2 := HKz.out.xf 2; have hlb : gB < wz.heap.size := World.block_lt_of_cell? _ _ x0)
          all_goals
            go_wp2_with fail
            go_meet
            first
              | exact ⟨rfl, HKz.out.set12 HLB.out HNE.out HGL.out f t⟩
              | exact ⟨rfl, HKz.out.set21 HLB.out HNE.out HGL.out f t⟩
        case rest =>
          obtain ⟨rfl, hk7⟩ := hcut
          have HK7 : Hid (PK w wc gW gB c K f t v) := hk7
          clear hk7 HK6 x0 x1 x2 x3 xf1 xf2 hlb
          obtain ⟨x0, x1, x2, x3⟩ := HK7.out.x
          obtain ⟨r0, r1, r2, r3⟩ := HK7.out.r
          have f0 := HK7.out.rf 0
          have f1 := HK7.out.rf 1
          have f2 := HK7.out.rf 2
          have f3 := HK7.out.rf 3
          have HB7 : Hid (Below w.heap.size w wc) := HK7.out.below
          go_wp2
          refine bodyPost_ret (v := .tuple #[.agg #[.int .i64 K, .string f, .string t, .int .i64 v], .nilIface]) (by simp [results, Tryz.results10, go_sem, *]) rfl ⟨by rw [HE.out, HW.out, paE, paW, HS.out]; rfl, below_put4 HB7.out _ (Nat.le_refl _) _ _ _ _⟩
    · have HN : Hid (rdO s = none) := HBAD.out (fun h => h0 h.1)
      rw [no_ne h0]
      have hr := HK6.out.r
      obtain ⟨r0, r1, r2, r3⟩ := hr
      have f0 := HK6.out.rf 0
      have f1 := HK6.out.rf 1
      have f2 := HK6.out.rf 2
      have f3 := HK6.out.rf 3
      have HB6 : Hid (Below w.heap.size w w6) := HK6.out.below
      clear HBAD HGOOD h0
      go_wp2
      refine bodyPost_ret (v := .tuple #[.agg #[.int .i64 0, .string ⟨#[]⟩, .string ⟨#[]⟩, .int .i64 0], .iface 57 (.int .i64 2)]) (by simp [results, Tryz.results10, go_sem, *]) rfl ⟨by rw [HE.out, HW.out, paE, paW, HN.out]; rfl, below_put4 HB6.out _ (Nat.le_refl _) _ _ _ _⟩
end Go.Proofs.YtpmcjelihdlfeaaGreatDoor
/- What railref1.ReadWish answers: a contract for the walks above it. Written by mk/refreadw.py. -/
namespace Go.Proofs.YtpmcjelihdlfeaaGreatDoor
open Go.RowKit
set_option linter.unusedSimpArgs false
set_option linter.unusedVariables false

/-- What holds all along: the words, the answer's box, the box of the wish. -/
structure RK (w W : World) (gW gB : Nat) (c : List ByteArray) (k : Int) (f t : ByteArray) (v : Int) : Prop where
  below : Below w.heap.size w W
  ws : WAt W gW 0 c
  r : WiBox W w.heap.size 0 ⟨#[]⟩ ⟨#[]⟩ 0
  rf : ∀ i, W.frozen? ⟨w.heap.size, i, none⟩ = false
  x : WiBox W gB k f t v
  xf : ∀ i, W.frozen? ⟨gB, i, none⟩ = false
theorem RK.later {w W W' : World} {gW gB : Nat} {c : List ByteArray} {k : Int} {f t : ByteArray} {v : Int} (h : RK w W gW gB c k f t v) (hb : Below W.heap.size W W') : RK w W' gW gB c k f t v :=
  ⟨h.below.trans (hb.mono h.below.size), h.ws.later hb, h.r.later hb, froz_later h.rf h.r.1 hb, h.x.later hb, froz_later h.xf h.x.1 hb⟩
theorem RK.set {w W : World} {gW gB : Nat} {c : List ByteArray} {k : Int} {f t : ByteArray} {v : Int} (h : RK w W gW gB c k f t v) (h1 : w.heap.size < gB) (h2 : gW ≠ gB) (j : Nat) (u : Value) {k' : Int} {f' t' : ByteArray} {v' : Int} (hx : WiBox (W.setCell ⟨gB, j, none⟩ u) gB k' f' t' v') : RK w (W.setCell ⟨gB, j, none⟩ u) gW gB c k' f' t' v' := by
  obtain ⟨b, ws, ⟨r0, r1, r2, r3⟩, rf, _, xf⟩ := h
  have g3 : w.heap.size ≠ gB := by omega
  exact ⟨b.setCell (p := ⟨gB, j, none⟩) (Nat.le_of_lt h1) u, fun i hi => other h2 (ws i hi), ⟨other g3 r0, other g3 r1, other g3 r2, other g3 r3⟩, fun i => by rw [froz_set]; exact rf i, hx, fun i => by rw [froz_set]; exact xf i⟩
theorem RK.set0 {w W : World} {gW gB : Nat} {c : List ByteArray} {k : Int} {f t : ByteArray} {v : Int} (h : RK w W gW gB c k f t v) (h1 : w.heap.size < gB) (h2 : gW ≠ gB) (a : Int) : RK w (W.setCell ⟨gB, 0, none⟩ (.int .i64 a)) gW gB c a f t v :=
  h.set h1 h2 0 _ ⟨same_cell h.x.1, other2 (by decide) h.x.2.1, other2 (by decide) h.x.2.2.1, other2 (by decide) h.x.2.2.2⟩
theorem RK.set3 {w W : World} {gW gB : Nat} {c : List ByteArray} {k : Int} {f t : ByteArray} {v : Int} (h : RK w W gW gB c k f t v) (h1 : w.heap.size < gB) (h2 : gW ≠ gB) (a : Int) : RK w (W.setCell ⟨gB, 3, none⟩ (.int .i64 a)) gW gB c k f t a :=
  h.set h1 h2 3 _ ⟨other2 (by decide) h.x.1, other2 (by decide) h.x.2.1, other2 (by decide) h.x.2.2.1, same_cell h.x.2.2.2⟩
theorem word_is {a b : ByteArray} {l : List UInt8} (h : (a.toList == l) = true) (hb : b.data.toList = l) : a = b := by
  rw [byte_lst, beq_iff_eq] at h
  exact wa_ext (h.trans hb.symm)
theorem word_no {a b : ByteArray} {l : List UInt8} (h : (a.toList == l) = false) (hb : b.data.toList = l) : (a == b) = false := by
  cases e : (a == b) with
  | false => rfl
  | true =>
    rw [ba_eq.1 e, byte_lst, hb] at h
    simp at h
theorem wr_1 : wrK reaS = 1 := rfl
theorem wr_2 : wrK apaS = 2 := rfl
theorem wr_3 : wrK wayS = 3 := rfl
theorem wr_0 {a : ByteArray} (h1 : (a == reaS) = false) (h2 : (a == apaS) = false) (h3 : (a == wayS) = false) : wrK a = 0 := by
  unfold wrK
  rw [h1, h2, h3]
  rfl
theorem three {c : List ByteArray} (h : c.length = 3) : c = [c.getD 0 ByteArray.empty, c.getD 1 ByteArray.empty, c.getD 2 ByteArray.empty] := by
  match c, h with
  | [a, b, d], _ => rfl
theorem four {c : List ByteArray} (h : c.length = 4) : c = [c.getD 0 ByteArray.empty, c.getD 1 ByteArray.empty, c.getD 2 ByteArray.empty, c.getD 3 ByteArray.empty] := by
  match c, h with
  | [a, b, d, e], _ => rfl
theorem rd_none {c : List ByteArray} (h3 : c.length ≠ 3) (h4 : c.length ≠ 4) : rdL c = none := by
  match c with
  | [] => rfl
  | [_] => rfl
  | [_, _] => rfl
  | [_, _, _] => exact absurd rfl h3
  | [_, _, _, _] => exact absurd rfl h4
  | _ :: _ :: _ :: _ :: _ :: _ => rfl

set_option maxHeartbeats 16000000 in
set_option maxRecDepth 100000 in
theorem rread_any (s : ByteArray) (w : World) (hs : s.size ≤ 1048576) :
    Calls Tryz.prog 9 #[.string s] w fun e w' => e = .returned (.tuple #[.agg #[.int .i64 (paW s).k, .string (paW s).f, .string (paW s).t, .int .i64 (paW s).v], .bool (rdO s).isSome]) ∧ Below w.heap.size w w' := by
  obtain ⟨E, hE⟩ : ∃ q, q = (rdO s).isSome := ⟨_, rfl⟩
  obtain ⟨X, hX⟩ : ∃ q, q = paW s := ⟨_, rfl⟩
  have HE : Hid (E = (rdO s).isSome) := hE
  have HW : Hid (X = paW s) := hX
  rw [← hE, ← hX]
  have hb0 : Below w.heap.size w (w.alloc (Obj.cells #[.int .i64 0, .string ⟨#[]⟩, .string ⟨#[]⟩, .int .i64 0] 31)) := (Below.refl _ _).alloc (Nat.le_refl _) _
  have hr0 := wibox_new w 0 ⟨#[]⟩ ⟨#[]⟩ 0 31
  have hrf0 : ∀ i, (w.alloc (Obj.cells #[.int .i64 0, .string ⟨#[]⟩, .string ⟨#[]⟩, .int .i64 0] 31)).frozen? ⟨w.heap.size, i, none⟩ = false := fun i => by simp
  obtain ⟨w0, hw0⟩ : ∃ W, w.alloc (Obj.cells #[.int .i64 0, .string ⟨#[]⟩, .string ⟨#[]⟩, .int .i64 0] 31) = W := ⟨_, rfl⟩
  rw [hw0] at hb0 hr0 hrf0
  have HW0 : Hid (w.alloc (Obj.cells #[.int .i64 0, .string ⟨#[]⟩, .string ⟨#[]⟩, .int .i64 0] 31) = w0) := hw0
  have HB0 : Hid (Below w.heap.size w w0) := hb0
  have HR0 : Hid (WiBox w0 w.heap.size 0 ⟨#[]⟩ ⟨#[]⟩ 0) := hr0
  have HF0 : Hid (∀ i, w0.frozen? ⟨w.heap.size, i, none⟩ = false) := hrf0
  have HSZ : Hid (s.size ≤ 1048576) := hs
  obtain ⟨BL, hBL⟩ : ∃ q, q = (s.toList == [108, 111, 111, 112, 115]) := ⟨_, rfl⟩
  have hbl : (s.toList == [108, 111, 111, 112, 115]) = BL := hBL.symm
  clear hE hX hb0 hr0 hrf0 hw0 hs hBL
  go_enter Tryz.func9, Tryz.ntmps9
  go_upto_region 1 with fail
  rw [HW0.out]
  clear HW0
  cases BL with
  | true =>
    have HS : Hid (rdO s = some ⟨4, ByteArray.empty, ByteArray.empty, 0⟩) := by
      show _ = _
      have e : s = looS := word_is hbl rfl
      rw [rdO, if_pos (ba_eq.2 e)]
    obtain ⟨r0, r1, r2, r3⟩ := HR0.out
    have f0 := HF0.out 0
    have f1 := HF0.out 1
    have f2 := HF0.out 2
    have f3 := HF0.out 3
    go_wp2
    refine bodyPost_ret (v := .tuple #[.agg #[.int .i64 4, .string ⟨#[]⟩, .string ⟨#[]⟩, .int .i64 0], .bool true]) (by simp [results, Tryz.results9, go_sem, *]) rfl ⟨by rw [HE.out, HW.out, paW, HS.out]; rfl, below_put4 HB0.out _ (Nat.le_refl _) _ _ _ _⟩
  | false =>
    have HRD : Hid (rdO s = rdL (cutA s)) := by
      show _ = _
      have e : (s == looS) = false := word_no hbl rfl
      rw [rdO, e]
      rfl
    go_wp2_with fail
    refine (cut_any s _ HSZ.out).mono ?_
    rintro e w1 ⟨vv, rfl, hown, hb1⟩
    obtain ⟨gW, cap, rfl, hgB, hcc, _, hws⟩ := own_words hown (cutA_len s).1
    obtain ⟨c, hc⟩ : ∃ q, q = cutA s := ⟨_, rfl⟩
    have HRC : Hid (rdO s = rdL c) := by
      show _ = _
      rw [hc]
      exact HRD.out
    have hcl := (cutA_len s).1
    rw [← hc] at hws hcc hcl ⊢
    obtain ⟨n, hn⟩ : ∃ q, q = c.length := ⟨_, rfl⟩
    have HCN : Hid (c.length = n) := hn.symm
    rw [← hn] at hcc hcl ⊢
    have HB1 : Hid (Below w.heap.size w w1) := HB0.out.trans (hb1.mono HB0.out.size)
    have HR1 : Hid (WiBox w1 w.heap.size 0 ⟨#[]⟩ ⟨#[]⟩ 0) := HR0.out.later hb1
    have HF1 : Hid (∀ i, w1.frozen? ⟨w.heap.size, i, none⟩ = false) := froz_later HF0.out HR0.out.1 hb1
    have HWS : Hid (WAt w1 gW 0 c) := hws
    have HGWL : Hid (gW < w1.heap.size) := by
      have := hws 0 (by rw [← hn]; omega)
      exact World.block_lt_of_cell? _ _ this
    clear hc hn hown hb1 hgB hws HB0 HR0 HF0 HRD hbl
    by_cases hn34 : n ≠ 3 ∧ n ≠ 4
    · have HS : Hid (rdO s = none) := by
        show _ = _
        rw [HRC.out]
        exact rd_none (by rw [HCN.out]; exact hn34.1) (by rw [HCN.out]; exact hn34.2)
      have e3 : ((n : Int) != 3) = true := by have := hn34.1; simp; omega
      have e4 : ((n : Int) != 4) = true := by have := hn34.2; simp; omega
      obtain ⟨r0, r1, r2, r3⟩ := HR1.out
      have f0 := HF1.out 0
      have f1 := HF1.out 1
      have f2 := HF1.out 2
      have f3 := HF1.out 3
      have HB1' : Hid (Below w.heap.size w w1) := HB1.out
      go_wp2
      refine bodyPost_ret (v := .tuple #[.agg #[.int .i64 0, .string ⟨#[]⟩, .string ⟨#[]⟩, .int .i64 0], .bool false]) (by simp [results, Tryz.results9, go_sem, *]) rfl ⟨by rw [HE.out, HW.out, paW, HS.out]; rfl, below_put4 HB1'.out _ (Nat.le_refl _) _ _ _ _⟩
    · have hn3 : n = 3 ∨ n = 4 := by omega
      have hni0 : (0 : Int) < (n : Int) := by omega
      have hni1 : (1 : Int) < (n : Int) := by omega
      have hni2 : (2 : Int) < (n : Int) := by omega
      have hn0 : ¬ n = 0 := by omega
      have q0 : w1.cell? ⟨gW, 0, none⟩ = some (.string (c.getD 0 ByteArray.empty)) := by
        have := HWS.out 0 (by rw [HCN.out]; omega)
        rw [getB (by rw [HCN.out]; omega)]
        simpa using this
      have q1 : w1.cell? ⟨gW, 1, none⟩ = some (.string (c.getD 1 ByteArray.empty)) := by
        have := HWS.out 1 (by rw [HCN.out]; omega)
        rw [getB (by rw [HCN.out]; omega)]
        simpa using this
      have q2 : w1.cell? ⟨gW, 2, none⟩ = some (.string (c.getD 2 ByteArray.empty)) := by
        have := HWS.out 2 (by rw [HCN.out]; omega)
        rw [getB (by rw [HCN.out]; omega)]
        simpa using this
      obtain ⟨a, ha⟩ : ∃ q, q = c.getD 0 ByteArray.empty := ⟨_, rfl⟩
      obtain ⟨f, hf⟩ : ∃ q, q = c.getD 1 ByteArray.empty := ⟨_, rfl⟩
      obtain ⟨t, ht⟩ : ∃ q, q = c.getD 2 ByteArray.empty := ⟨_, rfl⟩
      have HA : Hid (c.getD 0 ByteArray.empty = a) := ha.symm
      have HFC : Hid (c.getD 1 ByteArray.empty = f) := hf.symm
      have HTC : Hid (c.getD 2 ByteArray.empty = t) := ht.symm
      rw [← ha] at q0
      rw [← hf] at q1
      rw [← ht] at q2
      have hlg : gW < w1.heap.size := HGWL.out
      obtain ⟨gB, hgB⟩ : ∃ q, q = w1.heap.size := ⟨_, rfl⟩
      have HNE : Hid (gW ≠ gB) := by
        show _ ≠ _
        have := HGWL.out
        omega
      have HLB : Hid (w.heap.size < gB) := by
        show _ < _
        rw [hgB]
        exact World.block_lt_of_cell? _ _ HR1.out.1
      have HGB : Hid (w1.heap.size = gB) := hgB.symm
      have HRK : Hid (∀ W, Below w1.heap.size w1 W → RK w (W.alloc (Obj.cells #[.int .i64 0, .string f, .string t, .int .i64 0] 31)) gW W.heap.size c 0 f t 0) := fun W hW => by
        have ha2 : Below W.heap.size W (W.alloc (Obj.cells #[.int .i64 0, .string f, .string t, .int .i64 0] 31)) := (Below.refl _ _).alloc (Nat.le_refl _) _
        have h2 := hW.trans (ha2.mono hW.size)
        exact ⟨HB1.out.trans (h2.mono HB1.out.size), HWS.out.later h2, HR1.out.later h2, froz_later HF1.out HR1.out.1 h2, wibox_new W 0 f t 0 31, fun i => by simp⟩
      have HSZ1 : Hid (w1.drew.heap.size = w1.heap.size) := rfl
      clear ha hf ht hgB
      go_upto_region 4 with fail
      go_cut [22] from 15 to 23 (fun c w' => c = .bool false ∧ w' = w1)
      case first =>
        rcases hn3 with e3 | e4
        · have z3 : ((n : Int) != 3) = false := by rw [e3]; rfl
          go_wp2_with fail
          go_meet
          exact ⟨by first | rfl | simp [z3], rfl⟩
        · have z3 : ((n : Int) != 3) = true := by rw [e4]; rfl
          have z4 : ((n : Int) != 4) = false := by rw [e4]; rfl
          go_wp2_with fail
          go_meet
          exact ⟨by first | rfl | simp [z3, z4], rfl⟩
      case rest =>
      obtain ⟨rfl, hwc⟩ := hcut
      have hwc := hwc.symm
      subst hwc
      go_upto_region 6 with fail
      go_cut [5] from 24 to 31 (fun p w' => p = .pointer (some ⟨gB, 0, none⟩) ∧ RK w w' gW gB c 0 f t 0)
      case first =>
        go_region
        all_goals
          go_wp2_with fail
          go_meet
          refine ⟨?_, ?_⟩
          · rw [← HGB.out]
          · have := HRK.out w1.drew (Below.drew (Below.refl _ _))
            rw [HSZ1.out, HGB.out] at this
            exact this
      case rest =>
      obtain ⟨rfl, hk2⟩ := hcut
      obtain ⟨w2, hw2⟩ : ∃ W, W = wc := ⟨_, rfl⟩
      subst hw2
      have HK2 : Hid (RK w w2 gW gB c 0 f t 0) := hk2
      have q0 : w2.cell? ⟨gW, 0, none⟩ = some (.string (c.getD 0 ByteArray.empty)) := by
        have := hk2.ws 0 (by rw [HCN.out]; omega)
        rw [getB (by rw [HCN.out]; omega)]
        simpa using this
      rw [HA.out] at q0
      have hne : ¬ gW = gB := HNE.out
      obtain ⟨x0, x1, x2, x3⟩ := hk2.x
      have xf0 := hk2.xf 0
      have hlb : gB < w2.heap.size := World.block_lt_of_cell? _ _ x0
      clear hk2 HRK HSZ1 HWS HR1 HF1 HB1 HGWL HGB q1 q2 hlg
      obtain ⟨B1, hB1⟩ : ∃ q, q = (a.toList == [114, 101, 97, 99, 104]) := ⟨_, rfl⟩
      obtain ⟨B2, hB2⟩ : ∃ q, q = (a.toList == [97, 112, 97, 114, 116]) := ⟨_, rfl⟩
      obtain ⟨B3, hB3⟩ : ∃ q, q = (a.toList == [119, 97, 121]) := ⟨_, rfl⟩
      have h1 : (a.toList == [114, 101, 97, 99, 104]) = B1 := hB1.symm
      have h2 : (a.toList == [97, 112, 97, 114, 116]) = B2 := hB2.symm
      have h3 : (a.toList == [119, 97, 121]) = B3 := hB3.symm
      clear hB1 hB2 hB3
      cases B1 with
      | true =>
        have k2 : B2 = false := by
          have e := word_is (b := reaS) h1 rfl
          rw [← h2, e, byte_lst]
          rfl
        have k3 : B3 = false := by
          have e := word_is (b := reaS) h1 rfl
          rw [← h3, e, byte_lst]
          rfl
        subst k2
        subst k3
        have HKI : Hid (wrK a = 1) := by
          show _ = _
          rw [word_is (b := reaS) h1 rfl]
          exact wr_1
        have HK3 : Hid (RK w (w2.setCell ⟨gB, 0, none⟩ (.int .i64 1)) gW gB c 1 f t 0) := HK2.out.set0 HLB.out HNE.out 1
        have q0b : (w2.setCell ⟨gB, 0, none⟩ (.int .i64 1)).cell? ⟨gW, 0, none⟩ = some (.string a) := other hne q0
        go_upto_region 13 with fail
        generalize w2.setCell ⟨gB, 0, none⟩ (.int .i64 1) = w3 at *
        clear HK2 x0 x1 x2 x3 xf0 hlb q0
        rcases hn3 with e3 | e4
        · have HRV : Hid (rdO s = okW ⟨1, f, t, 0⟩) := by
            show _ = _
            rw [HRC.out, three (HCN.out.trans e3), HA.out, HFC.out, HTC.out]
            show okW ⟨wrK a, f, t, 0⟩ = _
            rw [HKI.out]
          have en4 : ((n : Int) == 4) = false := by rw [e3]; rfl
          clear h1 h2 h3
          obtain ⟨PN, hPN⟩ : ∃ q, q = shN ⟨1, f, t, 0⟩ := ⟨_, rfl⟩
          have HPN : Hid (shN ⟨1, f, t, 0⟩ = PN) := hPN.symm
          obtain ⟨x0, x1, x2, x3⟩ := HK3.out.x
          clear hPN
          go_wp2_with fail
          refine (rshow_any 1 f t 0 _).mono ?_
          rintro e w8 ⟨rfl, hb8⟩
          rw [HPN.out]
          have HK8 : Hid (RK w w8 gW gB c 1 f t 0) := HK3.out.later hb8
          clear hb8 x0 x1 x2 x3 HK3
          by_cases h0 : PN = 0
          · have HS : Hid (rdO s = some ⟨1, f, t, 0⟩) := by
              show _ = _
              rw [HRV.out, okW, if_pos (HPN.out.trans h0)]
            subst h0
            obtain ⟨x0, x1, x2, x3⟩ := HK8.out.x
            obtain ⟨r0, r1, r2, r3⟩ := HK8.out.r
            have f0 := HK8.out.rf 0
            have f1 := HK8.out.rf 1
            have f2 := HK8.out.rf 2
            have f3 := HK8.out.rf 3
            have HBZ : Hid (Below w.heap.size w w8) := HK8.out.below
            go_wp2
            refine bodyPost_ret (v := .tuple #[.agg #[.int .i64 1, .string f, .string t, .int .i64 0], .bool true]) (by simp [results, Tryz.results9, go_sem, *]) rfl ⟨by rw [HE.out, HW.out, paW, HS.out]; rfl, below_put4 HBZ.out _ (Nat.le_refl _) _ _ _ _⟩
          · have hpn0 : (PN != 0) = true := by simp [h0]
            have HS : Hid (rdO s = none) := by
              show _ = _
              rw [HRV.out, okW, if_neg (by rw [HPN.out]; exact h0)]
            obtain ⟨r0, r1, r2, r3⟩ := HK8.out.r
            have f0 := HK8.out.rf 0
            have f1 := HK8.out.rf 1
            have f2 := HK8.out.rf 2
            have f3 := HK8.out.rf 3
            have HBZ : Hid (Below w.heap.size w w8) := HK8.out.below
            go_wp2
            refine bodyPost_ret (v := .tuple #[.agg #[.int .i64 0, .string ⟨#[]⟩, .string ⟨#[]⟩, .int .i64 0], .bool false]) (by simp [results, Tryz.results9, go_sem, *]) rfl ⟨by rw [HE.out, HW.out, paW, HS.out]; rfl, below_put4 HBZ.out _ (Nat.le_refl _) _ _ _ _⟩
        · have HR4 : Hid (rdO s = if dcOk (c.getD 3 ByteArray.empty) && ((a == wayS) && !(dcN (c.getD 3 ByteArray.empty) == 0)) then okW ⟨1, f, t, dcN (c.getD 3 ByteArray.empty)⟩ else none) := by
            show _ = _
            rw [HRC.out, four (HCN.out.trans e4), HA.out, HFC.out, HTC.out]
            show (if dcOk (c.getD 3 ByteArray.empty) && ((a == wayS) && !(dcN (c.getD 3 ByteArray.empty) == 0)) then okW ⟨wrK a, f, t, dcN (c.getD 3 ByteArray.empty)⟩ else none) = _
            rw [HKI.out]
            rfl
          have en4 : ((n : Int) == 4) = true := by rw [e4]; rfl
          have hni3 : (3 : Int) < (n : Int) := by omega
          have q3 : w3.cell? ⟨gW, 3, none⟩ = some (.string (c.getD 3 ByteArray.empty)) := by
            have := HK3.out.ws 3 (by rw [HCN.out]; omega)
            rw [getB (by rw [HCN.out]; omega)]
            simpa using this
          obtain ⟨d, hd⟩ : ∃ q, q = c.getD 3 ByteArray.empty := ⟨_, rfl⟩
          rw [← hd] at q3
          have HR5 : Hid (rdO s = if dcOk d && ((a == wayS) && !(dcN d == 0)) then okW ⟨1, f, t, dcN d⟩ else none) := by
            show _ = _
            rw [hd]
            exact HR4.out
          clear hd HR4
          go_wp2_with fail
          refine (num_any d _).mono ?_
          rintro e w5 ⟨rfl, hw5⟩
          subst hw5
          obtain ⟨OK, hOK⟩ : ∃ q, q = dcOk d := ⟨_, rfl⟩
          obtain ⟨D, hD⟩ : ∃ q, q = dcN d := ⟨_, rfl⟩
          rw [← hOK, ← hD]
          have HR6 : Hid (rdO s = if OK && ((a == wayS) && !(D == 0)) then okW ⟨1, f, t, D⟩ else none) := by
            show _ = _
            rw [hOK, hD]
            exact HR5.out
          obtain ⟨x0, x1, x2, x3⟩ := HK3.out.x
          have xf3 := HK3.out.xf 3
          have hlb : gB < w5.heap.size := World.block_lt_of_cell? _ _ x0
          clear hOK hD HR5
          cases OK with
          | false =>
            have HS : Hid (rdO s = none) := by rw [HR6.out]; rfl
            obtain ⟨r0, r1, r2, r3⟩ := HK3.out.r
            have f0 := HK3.out.rf 0
            have f1 := HK3.out.rf 1
            have f2 := HK3.out.rf 2
            have f3 := HK3.out.rf 3
            have HBZ : Hid (Below w.heap.size w w5) := HK3.out.below
            go_wp2
            refine bodyPost_ret (v := .tuple #[.agg #[.int .i64 0, .string ⟨#[]⟩, .string ⟨#[]⟩, .int .i64 0], .bool false]) (by simp [results, Tryz.results9, go_sem, *]) rfl ⟨by rw [HE.out, HW.out, paW, HS.out]; rfl, below_put4 HBZ.out _ (Nat.le_refl _) _ _ _ _⟩
          | true =>
            have hw3 : (a == wayS) = false := word_no h3 rfl
            clear h1 h2 h3
            have HS : Hid (rdO s = none) := by rw [HR6.out, hw3]; rfl
            obtain ⟨r0, r1, r2, r3⟩ := HK3.out.r
            have f0 := HK3.out.rf 0
            have f1 := HK3.out.rf 1
            have f2 := HK3.out.rf 2
            have f3 := HK3.out.rf 3
            have HBZ : Hid (Below w.heap.size w w5) := HK3.out.below
            go_wp2
            refine bodyPost_ret (v := .tuple #[.agg #[.int .i64 0, .string ⟨#[]⟩, .string ⟨#[]⟩, .int .i64 0], .bool false]) (by simp [results, Tryz.results9, go_sem, *]) rfl ⟨by rw [HE.out, HW.out, paW, HS.out]; rfl, below_put4 HBZ.out _ (Nat.le_refl _) _ _ _ _⟩
      | false =>
        cases B2 with
        | true =>
          have k3 : B3 = false := by
            have e := word_is (b := apaS) h2 rfl
            rw [← h3, e, byte_lst]
            rfl
          subst k3
          have HKI : Hid (wrK a = 2) := by
            show _ = _
            rw [word_is (b := apaS) h2 rfl]
            exact wr_2
          have HK3 : Hid (RK w (w2.setCell ⟨gB, 0, none⟩ (.int .i64 2)) gW gB c 2 f t 0) := HK2.out.set0 HLB.out HNE.out 2
          have q0b : (w2.setCell ⟨gB, 0, none⟩ (.int .i64 2)).cell? ⟨gW, 0, none⟩ = some (.string a) := other hne q0
          go_upto_region 13 with fail
          generalize w2.setCell ⟨gB, 0, none⟩ (.int .i64 2) = w3 at *
          clear HK2 x0 x1 x2 x3 xf0 hlb q0
          rcases hn3 with e3 | e4
          · have HRV : Hid (rdO s = okW ⟨2, f, t, 0⟩) := by
              show _ = _
              rw [HRC.out, three (HCN.out.trans e3), HA.out, HFC.out, HTC.out]
              show okW ⟨wrK a, f, t, 0⟩ = _
              rw [HKI.out]
            have en4 : ((n : Int) == 4) = false := by rw [e3]; rfl
            clear h1 h2 h3
            obtain ⟨PN, hPN⟩ : ∃ q, q = shN ⟨2, f, t, 0⟩ := ⟨_, rfl⟩
            have HPN : Hid (shN ⟨2, f, t, 0⟩ = PN) := hPN.symm
            obtain ⟨x0, x1, x2, x3⟩ := HK3.out.x
            clear hPN
            go_wp2_with fail
            refine (rshow_any 2 f t 0 _).mono ?_
            rintro e w8 ⟨rfl, hb8⟩
            rw [HPN.out]
            have HK8 : Hid (RK w w8 gW gB c 2 f t 0) := HK3.out.later hb8
            clear hb8 x0 x1 x2 x3 HK3
            by_cases h0 : PN = 0
            · have HS : Hid (rdO s = some ⟨2, f, t, 0⟩) := by
                show _ = _
                rw [HRV.out, okW, if_pos (HPN.out.trans h0)]
              subst h0
              obtain ⟨x0, x1, x2, x3⟩ := HK8.out.x
              obtain ⟨r0, r1, r2, r3⟩ := HK8.out.r
              have f0 := HK8.out.rf 0
              have f1 := HK8.out.rf 1
              have f2 := HK8.out.rf 2
              have f3 := HK8.out.rf 3
              have HBZ : Hid (Below w.heap.size w w8) := HK8.out.below
              go_wp2
              refine bodyPost_ret (v := .tuple #[.agg #[.int .i64 2, .string f, .string t, .int .i64 0], .bool true]) (by simp [results, Tryz.results9, go_sem, *]) rfl ⟨by rw [HE.out, HW.out, paW, HS.out]; rfl, below_put4 HBZ.out _ (Nat.le_refl _) _ _ _ _⟩
            · have hpn0 : (PN != 0) = true := by simp [h0]
              have HS : Hid (rdO s = none) := by
                show _ = _
                rw [HRV.out, okW, if_neg (by rw [HPN.out]; exact h0)]
              obtain ⟨r0, r1, r2, r3⟩ := HK8.out.r
              have f0 := HK8.out.rf 0
              have f1 := HK8.out.rf 1
              have f2 := HK8.out.rf 2
              have f3 := HK8.out.rf 3
              have HBZ : Hid (Below w.heap.size w w8) := HK8.out.below
              go_wp2
              refine bodyPost_ret (v := .tuple #[.agg #[.int .i64 0, .string ⟨#[]⟩, .string ⟨#[]⟩, .int .i64 0], .bool false]) (by simp [results, Tryz.results9, go_sem, *]) rfl ⟨by rw [HE.out, HW.out, paW, HS.out]; rfl, below_put4 HBZ.out _ (Nat.le_refl _) _ _ _ _⟩
          · have HR4 : Hid (rdO s = if dcOk (c.getD 3 ByteArray.empty) && ((a == wayS) && !(dcN (c.getD 3 ByteArray.empty) == 0)) then okW ⟨2, f, t, dcN (c.getD 3 ByteArray.empty)⟩ else none) := by
              show _ = _
              rw [HRC.out, four (HCN.out.trans e4), HA.out, HFC.out, HTC.out]
              show (if dcOk (c.getD 3 ByteArray.empty) && ((a == wayS) && !(dcN (c.getD 3 ByteArray.empty) == 0)) then okW ⟨wrK a, f, t, dcN (c.getD 3 ByteArray.empty)⟩ else none) = _
              rw [HKI.out]
              rfl
            have en4 : ((n : Int) == 4) = true := by rw [e4]; rfl
            have hni3 : (3 : Int) < (n : Int) := by omega
            have q3 : w3.cell? ⟨gW, 3, none⟩ = some (.string (c.getD 3 ByteArray.empty)) := by
              have := HK3.out.ws 3 (by rw [HCN.out]; omega)
              rw [getB (by rw [HCN.out]; omega)]
              simpa using this
            obtain ⟨d, hd⟩ : ∃ q, q = c.getD 3 ByteArray.empty := ⟨_, rfl⟩
            rw [← hd] at q3
            have HR5 : Hid (rdO s = if dcOk d && ((a == wayS) && !(dcN d == 0)) then okW ⟨2, f, t, dcN d⟩ else none) := by
              show _ = _
              rw [hd]
              exact HR4.out
            clear hd HR4
            go_wp2_with fail
            refine (num_any d _).mono ?_
            rintro e w5 ⟨rfl, hw5⟩
            subst hw5
            obtain ⟨OK, hOK⟩ : ∃ q, q = dcOk d := ⟨_, rfl⟩
            obtain ⟨D, hD⟩ : ∃ q, q = dcN d := ⟨_, rfl⟩
            rw [← hOK, ← hD]
            have HR6 : Hid (rdO s = if OK && ((a == wayS) && !(D == 0)) then okW ⟨2, f, t, D⟩ else none) := by
              show _ = _
              rw [hOK, hD]
              exact HR5.out
            obtain ⟨x0, x1, x2, x3⟩ := HK3.out.x
            have xf3 := HK3.out.xf 3
            have hlb : gB < w5.heap.size := World.block_lt_of_cell? _ _ x0
            clear hOK hD HR5
            cases OK with
            | false =>
              have HS : Hid (rdO s = none) := by rw [HR6.out]; rfl
              obtain ⟨r0, r1, r2, r3⟩ := HK3.out.r
              have f0 := HK3.out.rf 0
              have f1 := HK3.out.rf 1
              have f2 := HK3.out.rf 2
              have f3 := HK3.out.rf 3
              have HBZ : Hid (Below w.heap.size w w5) := HK3.out.below
              go_wp2
              refine bodyPost_ret (v := .tuple #[.agg #[.int .i64 0, .string ⟨#[]⟩, .string ⟨#[]⟩, .int .i64 0], .bool false]) (by simp [results, Tryz.results9, go_sem, *]) rfl ⟨by rw [HE.out, HW.out, paW, HS.out]; rfl, below_put4 HBZ.out _ (Nat.le_refl _) _ _ _ _⟩
            | true =>
              have hw3 : (a == wayS) = false := word_no h3 rfl
              clear h1 h2 h3
              have HS : Hid (rdO s = none) := by rw [HR6.out, hw3]; rfl
              obtain ⟨r0, r1, r2, r3⟩ := HK3.out.r
              have f0 := HK3.out.rf 0
              have f1 := HK3.out.rf 1
              have f2 := HK3.out.rf 2
              have f3 := HK3.out.rf 3
              have HBZ : Hid (Below w.heap.size w w5) := HK3.out.below
              go_wp2
              refine bodyPost_ret (v := .tuple #[.agg #[.int .i64 0, .string ⟨#[]⟩, .string ⟨#[]⟩, .int .i64 0], .bool false]) (by simp [results, Tryz.results9, go_sem, *]) rfl ⟨by rw [HE.out, HW.out, paW, HS.out]; rfl, below_put4 HBZ.out _ (Nat.le_refl _) _ _ _ _⟩
        | false =>
          cases B3 with
          | true =>
            have HKI : Hid (wrK a = 3) := by
              show _ = _
              rw [word_is (b := wayS) h3 rfl]
              exact wr_3
            have HK3 : Hid (RK w (w2.setCell ⟨gB, 0, none⟩ (.int .i64 3)) gW gB c 3 f t 0) := HK2.out.set0 HLB.out HNE.out 3
            have q0b : (w2.setCell ⟨gB, 0, none⟩ (.int .i64 3)).cell? ⟨gW, 0, none⟩ = some (.string a) := other hne q0
            go_upto_region 13 with fail
            generalize w2.setCell ⟨gB, 0, none⟩ (.int .i64 3) = w3 at *
            clear HK2 x0 x1 x2 x3 xf0 hlb q0
            rcases hn3 with e3 | e4
            · have HRV : Hid (rdO s = okW ⟨3, f, t, 0⟩) := by
                show _ = _
                rw [HRC.out, three (HCN.out.trans e3), HA.out, HFC.out, HTC.out]
                show okW ⟨wrK a, f, t, 0⟩ = _
                rw [HKI.out]
              have en4 : ((n : Int) == 4) = false := by rw [e3]; rfl
              clear h1 h2 h3
              obtain ⟨PN, hPN⟩ : ∃ q, q = shN ⟨3, f, t, 0⟩ := ⟨_, rfl⟩
              have HPN : Hid (shN ⟨3, f, t, 0⟩ = PN) := hPN.symm
              obtain ⟨x0, x1, x2, x3⟩ := HK3.out.x
              clear hPN
              go_wp2_with fail
              refine (rshow_any 3 f t 0 _).mono ?_
              rintro e w8 ⟨rfl, hb8⟩
              rw [HPN.out]
              have HK8 : Hid (RK w w8 gW gB c 3 f t 0) := HK3.out.later hb8
              clear hb8 x0 x1 x2 x3 HK3
              by_cases h0 : PN = 0
              · have HS : Hid (rdO s = some ⟨3, f, t, 0⟩) := by
                  show _ = _
                  rw [HRV.out, okW, if_pos (HPN.out.trans h0)]
                subst h0
                obtain ⟨x0, x1, x2, x3⟩ := HK8.out.x
                obtain ⟨r0, r1, r2, r3⟩ := HK8.out.r
                have f0 := HK8.out.rf 0
                have f1 := HK8.out.rf 1
                have f2 := HK8.out.rf 2
                have f3 := HK8.out.rf 3
                have HBZ : Hid (Below w.heap.size w w8) := HK8.out.below
                go_wp2
                refine bodyPost_ret (v := .tuple #[.agg #[.int .i64 3, .string f, .string t, .int .i64 0], .bool true]) (by simp [results, Tryz.results9, go_sem, *]) rfl ⟨by rw [HE.out, HW.out, paW, HS.out]; rfl, below_put4 HBZ.out _ (Nat.le_refl _) _ _ _ _⟩
              · have hpn0 : (PN != 0) = true := by simp [h0]
                have HS : Hid (rdO s = none) := by
                  show _ = _
                  rw [HRV.out, okW, if_neg (by rw [HPN.out]; exact h0)]
                obtain ⟨r0, r1, r2, r3⟩ := HK8.out.r
                have f0 := HK8.out.rf 0
                have f1 := HK8.out.rf 1
                have f2 := HK8.out.rf 2
                have f3 := HK8.out.rf 3
                have HBZ : Hid (Below w.heap.size w w8) := HK8.out.below
                go_wp2
                refine bodyPost_ret (v := .tuple #[.agg #[.int .i64 0, .string ⟨#[]⟩, .string ⟨#[]⟩, .int .i64 0], .bool false]) (by simp [results, Tryz.results9, go_sem, *]) rfl ⟨by rw [HE.out, HW.out, paW, HS.out]; rfl, below_put4 HBZ.out _ (Nat.le_refl _) _ _ _ _⟩
            · have HR4 : Hid (rdO s = if dcOk (c.getD 3 ByteArray.empty) && ((a == wayS) && !(dcN (c.getD 3 ByteArray.empty) == 0)) then okW ⟨3, f, t, dcN (c.getD 3 ByteArray.empty)⟩ else none) := by
                show _ = _
                rw [HRC.out, four (HCN.out.trans e4), HA.out, HFC.out, HTC.out]
                show (if dcOk (c.getD 3 ByteArray.empty) && ((a == wayS) && !(dcN (c.getD 3 ByteArray.empty) == 0)) then okW ⟨wrK a, f, t, dcN (c.getD 3 ByteArray.empty)⟩ else none) = _
                rw [HKI.out]
                rfl
              have en4 : ((n : Int) == 4) = true := by rw [e4]; rfl
              have hni3 : (3 : Int) < (n : Int) := by omega
              have q3 : w3.cell? ⟨gW, 3, none⟩ = some (.string (c.getD 3 ByteArray.empty)) := by
                have := HK3.out.ws 3 (by rw [HCN.out]; omega)
                rw [getB (by rw [HCN.out]; omega)]
                simpa using this
              obtain ⟨d, hd⟩ : ∃ q, q = c.getD 3 ByteArray.empty := ⟨_, rfl⟩
              rw [← hd] at q3
              have HR5 : Hid (rdO s = if dcOk d && ((a == wayS) && !(dcN d == 0)) then okW ⟨3, f, t, dcN d⟩ else none) := by
                show _ = _
                rw [hd]
                exact HR4.out
              clear hd HR4
              go_wp2_with fail
              refine (num_any d _).mono ?_
              rintro e w5 ⟨rfl, hw5⟩
              subst hw5
              obtain ⟨OK, hOK⟩ : ∃ q, q = dcOk d := ⟨_, rfl⟩
              obtain ⟨D, hD⟩ : ∃ q, q = dcN d := ⟨_, rfl⟩
              rw [← hOK, ← hD]
              have HR6 : Hid (rdO s = if OK && ((a == wayS) && !(D == 0)) then okW ⟨3, f, t, D⟩ else none) := by
                show _ = _
                rw [hOK, hD]
                exact HR5.out
              obtain ⟨x0, x1, x2, x3⟩ := HK3.out.x
              have xf3 := HK3.out.xf 3
              have hlb : gB < w5.heap.size := World.block_lt_of_cell? _ _ x0
              clear hOK hD HR5
              cases OK with
              | false =>
                have HS : Hid (rdO s = none) := by rw [HR6.out]; rfl
                obtain ⟨r0, r1, r2, r3⟩ := HK3.out.r
                have f0 := HK3.out.rf 0
                have f1 := HK3.out.rf 1
                have f2 := HK3.out.rf 2
                have f3 := HK3.out.rf 3
                have HBZ : Hid (Below w.heap.size w w5) := HK3.out.below
                go_wp2
                refine bodyPost_ret (v := .tuple #[.agg #[.int .i64 0, .string ⟨#[]⟩, .string ⟨#[]⟩, .int .i64 0], .bool false]) (by simp [results, Tryz.results9, go_sem, *]) rfl ⟨by rw [HE.out, HW.out, paW, HS.out]; rfl, below_put4 HBZ.out _ (Nat.le_refl _) _ _ _ _⟩
              | true =>
                have hw3 : (a == wayS) = true := ba_eq.2 (word_is h3 rfl)
                have HR7 : Hid (rdO s = if !(D == 0) then okW ⟨3, f, t, D⟩ else none) := by
                  show _ = _
                  rw [HR6.out, hw3]
                  rfl
                clear h1 h2 h3 hw3 HR6
                by_cases d0 : D = 0
                · subst d0
                  have HS : Hid (rdO s = none) := by rw [HR7.out]; rfl
                  obtain ⟨r0, r1, r2, r3⟩ := HK3.out.r
                  have f0 := HK3.out.rf 0
                  have f1 := HK3.out.rf 1
                  have f2 := HK3.out.rf 2
                  have f3 := HK3.out.rf 3
                  have HBZ : Hid (Below w.heap.size w w5) := HK3.out.below
                  go_wp2
                  refine bodyPost_ret (v := .tuple #[.agg #[.int .i64 0, .string ⟨#[]⟩, .string ⟨#[]⟩, .int .i64 0], .bool false]) (by simp [results, Tryz.results9, go_sem, *]) rfl ⟨by rw [HE.out, HW.out, paW, HS.out]; rfl, below_put4 HBZ.out _ (Nat.le_refl _) _ _ _ _⟩
                · have HRV : Hid (rdO s = okW ⟨3, f, t, D⟩) := by
                    show _ = _
                    rw [HR7.out]
                    simp [d0]
                  have hd0 : (D == 0) = false := by simp [d0]
                  have HK6 : Hid (RK w (w5.setCell ⟨gB, 3, none⟩ (.int .i64 D)) gW gB c 3 f t D) := HK3.out.set3 HLB.out HNE.out D
                  go_upto_region 18 with fail
                  generalize w5.setCell ⟨gB, 3, none⟩ (.int .i64 D) = w6 at *
                  clear x0 x1 x2 x3 xf3 hlb HK3 q3 d0 hd0
                  obtain ⟨PN, hPN⟩ : ∃ q, q = shN ⟨3, f, t, D⟩ := ⟨_, rfl⟩
                  have HPN : Hid (shN ⟨3, f, t, D⟩ = PN) := hPN.symm
                  obtain ⟨x0, x1, x2, x3⟩ := HK6.out.x
                  clear hPN
                  go_wp2_with fail
                  refine (rshow_any 3 f t D _).mono ?_
                  rintro e w8 ⟨rfl, hb8⟩
                  rw [HPN.out]
                  have HK8 : Hid (RK w w8 gW gB c 3 f t D) := HK6.out.later hb8
                  clear hb8 x0 x1 x2 x3 HK6
                  by_cases h0 : PN = 0
                  · have HS : Hid (rdO s = some ⟨3, f, t, D⟩) := by
                      show _ = _
                      rw [HRV.out, okW, if_pos (HPN.out.trans h0)]
                    subst h0
                    obtain ⟨x0, x1, x2, x3⟩ := HK8.out.x
                    obtain ⟨r0, r1, r2, r3⟩ := HK8.out.r
                    have f0 := HK8.out.rf 0
                    have f1 := HK8.out.rf 1
                    have f2 := HK8.out.rf 2
                    have f3 := HK8.out.rf 3
                    have HBZ : Hid (Below w.heap.size w w8) := HK8.out.below
                    go_wp2
                    refine bodyPost_ret (v := .tuple #[.agg #[.int .i64 3, .string f, .string t, .int .i64 D], .bool true]) (by simp [results, Tryz.results9, go_sem, *]) rfl ⟨by rw [HE.out, HW.out, paW, HS.out]; rfl, below_put4 HBZ.out _ (Nat.le_refl _) _ _ _ _⟩
                  · have hpn0 : (PN != 0) = true := by simp [h0]
                    have HS : Hid (rdO s = none) := by
                      show _ = _
                      rw [HRV.out, okW, if_neg (by rw [HPN.out]; exact h0)]
                    obtain ⟨r0, r1, r2, r3⟩ := HK8.out.r
                    have f0 := HK8.out.rf 0
                    have f1 := HK8.out.rf 1
                    have f2 := HK8.out.rf 2
                    have f3 := HK8.out.rf 3
                    have HBZ : Hid (Below w.heap.size w w8) := HK8.out.below
                    go_wp2
                    refine bodyPost_ret (v := .tuple #[.agg #[.int .i64 0, .string ⟨#[]⟩, .string ⟨#[]⟩, .int .i64 0], .bool false]) (by simp [results, Tryz.results9, go_sem, *]) rfl ⟨by rw [HE.out, HW.out, paW, HS.out]; rfl, below_put4 HBZ.out _ (Nat.le_refl _) _ _ _ _⟩
          | false =>
            have HKI : Hid (wrK a = 0) := wr_0 (word_no h1 rfl) (word_no h2 rfl) (word_no h3 rfl)
            obtain ⟨w3, hw3⟩ : ∃ W, W = w2 := ⟨_, rfl⟩
            have HK3 : Hid (RK w w3 gW gB c 0 f t 0) := by rw [hw3]; exact HK2.out
            go_upto_region 13 with fail
            rw [← hw3]
            clear hw3
            clear HK2 x0 x1 x2 x3 xf0 hlb q0
            rcases hn3 with e3 | e4
            · have HRV : Hid (rdO s = okW ⟨0, f, t, 0⟩) := by
                show _ = _
                rw [HRC.out, three (HCN.out.trans e3), HA.out, HFC.out, HTC.out]
                show okW ⟨wrK a, f, t, 0⟩ = _
                rw [HKI.out]
              have en4 : ((n : Int) == 4) = false := by rw [e3]; rfl
              clear h1 h2 h3
              obtain ⟨PN, hPN⟩ : ∃ q, q = shN ⟨0, f, t, 0⟩ := ⟨_, rfl⟩
              have HPN : Hid (shN ⟨0, f, t, 0⟩ = PN) := hPN.symm
              obtain ⟨x0, x1, x2, x3⟩ := HK3.out.x
              clear hPN
              go_wp2_with fail
              refine (rshow_any 0 f t 0 _).mono ?_
              rintro e w8 ⟨rfl, hb8⟩
              rw [HPN.out]
              have HK8 : Hid (RK w w8 gW gB c 0 f t 0) := HK3.out.later hb8
              clear hb8 x0 x1 x2 x3 HK3
              by_cases h0 : PN = 0
              · have HS : Hid (rdO s = some ⟨0, f, t, 0⟩) := by
                  show _ = _
                  rw [HRV.out, okW, if_pos (HPN.out.trans h0)]
                subst h0
                obtain ⟨x0, x1, x2, x3⟩ := HK8.out.x
                obtain ⟨r0, r1, r2, r3⟩ := HK8.out.r
                have f0 := HK8.out.rf 0
                have f1 := HK8.out.rf 1
                have f2 := HK8.out.rf 2
                have f3 := HK8.out.rf 3
                have HBZ : Hid (Below w.heap.size w w8) := HK8.out.below
                go_wp2
                refine bodyPost_ret (v := .tuple #[.agg #[.int .i64 0, .string f, .string t, .int .i64 0], .bool true]) (by simp [results, Tryz.results9, go_sem, *]) rfl ⟨by rw [HE.out, HW.out, paW, HS.out]; rfl, below_put4 HBZ.out _ (Nat.le_refl _) _ _ _ _⟩
              · have hpn0 : (PN != 0) = true := by simp [h0]
                have HS : Hid (rdO s = none) := by
                  show _ = _
                  rw [HRV.out, okW, if_neg (by rw [HPN.out]; exact h0)]
                obtain ⟨r0, r1, r2, r3⟩ := HK8.out.r
                have f0 := HK8.out.rf 0
                have f1 := HK8.out.rf 1
                have f2 := HK8.out.rf 2
                have f3 := HK8.out.rf 3
                have HBZ : Hid (Below w.heap.size w w8) := HK8.out.below
                go_wp2
                refine bodyPost_ret (v := .tuple #[.agg #[.int .i64 0, .string ⟨#[]⟩, .string ⟨#[]⟩, .int .i64 0], .bool false]) (by simp [results, Tryz.results9, go_sem, *]) rfl ⟨by rw [HE.out, HW.out, paW, HS.out]; rfl, below_put4 HBZ.out _ (Nat.le_refl _) _ _ _ _⟩
            · have HR4 : Hid (rdO s = if dcOk (c.getD 3 ByteArray.empty) && ((a == wayS) && !(dcN (c.getD 3 ByteArray.empty) == 0)) then okW ⟨0, f, t, dcN (c.getD 3 ByteArray.empty)⟩ else none) := by
                show _ = _
                rw [HRC.out, four (HCN.out.trans e4), HA.out, HFC.out, HTC.out]
                show (if dcOk (c.getD 3 ByteArray.empty) && ((a == wayS) && !(dcN (c.getD 3 ByteArray.empty) == 0)) then okW ⟨wrK a, f, t, dcN (c.getD 3 ByteArray.empty)⟩ else none) = _
                rw [HKI.out]
                rfl
              have en4 : ((n : Int) == 4) = true := by rw [e4]; rfl
              have hni3 : (3 : Int) < (n : Int) := by omega
              have q3 : w3.cell? ⟨gW, 3, none⟩ = some (.string (c.getD 3 ByteArray.empty)) := by
                have := HK3.out.ws 3 (by rw [HCN.out]; omega)
                rw [getB (by rw [HCN.out]; omega)]
                simpa using this
              obtain ⟨d, hd⟩ : ∃ q, q = c.getD 3 ByteArray.empty := ⟨_, rfl⟩
              rw [← hd] at q3
              have HR5 : Hid (rdO s = if dcOk d && ((a == wayS) && !(dcN d == 0)) then okW ⟨0, f, t, dcN d⟩ else none) := by
                show _ = _
                rw [hd]
                exact HR4.out
              clear hd HR4
              go_wp2_with fail
              refine (num_any d _).mono ?_
              rintro e w5 ⟨rfl, hw5⟩
              subst hw5
              obtain ⟨OK, hOK⟩ : ∃ q, q = dcOk d := ⟨_, rfl⟩
              obtain ⟨D, hD⟩ : ∃ q, q = dcN d := ⟨_, rfl⟩
              rw [← hOK, ← hD]
              have HR6 : Hid (rdO s = if OK && ((a == wayS) && !(D == 0)) then okW ⟨0, f, t, D⟩ else none) := by
                show _ = _
                rw [hOK, hD]
                exact HR5.out
              obtain ⟨x0, x1, x2, x3⟩ := HK3.out.x
              have xf3 := HK3.out.xf 3
              have hlb : gB < w5.heap.size := World.block_lt_of_cell? _ _ x0
              clear hOK hD HR5
              cases OK with
              | false =>
                have HS : Hid (rdO s = none) := by rw [HR6.out]; rfl
                obtain ⟨r0, r1, r2, r3⟩ := HK3.out.r
                have f0 := HK3.out.rf 0
                have f1 := HK3.out.rf 1
                have f2 := HK3.out.rf 2
                have f3 := HK3.out.rf 3
                have HBZ : Hid (Below w.heap.size w w5) := HK3.out.below
                go_wp2
                refine bodyPost_ret (v := .tuple #[.agg #[.int .i64 0, .string ⟨#[]⟩, .string ⟨#[]⟩, .int .i64 0], .bool false]) (by simp [results, Tryz.results9, go_sem, *]) rfl ⟨by rw [HE.out, HW.out, paW, HS.out]; rfl, below_put4 HBZ.out _ (Nat.le_refl _) _ _ _ _⟩
              | true =>
                have hw3 : (a == wayS) = false := word_no h3 rfl
                clear h1 h2 h3
                have HS : Hid (rdO s = none) := by rw [HR6.out, hw3]; rfl
                obtain ⟨r0, r1, r2, r3⟩ := HK3.out.r
                have f0 := HK3.out.rf 0
                have f1 := HK3.out.rf 1
                have f2 := HK3.out.rf 2
                have f3 := HK3.out.rf 3
                have HBZ : Hid (Below w.heap.size w w5) := HK3.out.below
                go_wp2
                refine bodyPost_ret (v := .tuple #[.agg #[.int .i64 0, .string ⟨#[]⟩, .string ⟨#[]⟩, .int .i64 0], .bool false]) (by simp [results, Tryz.results9, go_sem, *]) rfl ⟨by rw [HE.out, HW.out, paW, HS.out]; rfl, below_put4 HBZ.out _ (Nat.le_refl _) _ _ _ _⟩
end Go.Proofs.YtpmcjelihdlfeaaGreatDoor
/- What the document's own Rule answers, called with any rule. -/
namespace Go.Proofs.YtpmcjelihdlfeaaGreatDoor
open Go.RowKit
set_option linter.unusedSimpArgs false

theorem set_okB {s v : Int} (h : rngB s v = true) : okB s v = (bits .andNot .i64 v s == 0) := by simp [okB, h]

set_option maxHeartbeats 1000000 in
theorem refRule_prio (p m b o s v : Int) (w : World) (h : ruP p o = false) :
    Calls Tryz.prog 55 #[.agg #[.int .i64 p, .int .i64 m, .int .i64 b, .int .i64 o, .int .i64 s, .int .i64 v]] w fun e w' => e = .returned (.int .i64 1) ∧ Below w.heap.size w w' := by
  have hc : p < 0 ∨ (0 ≤ p ∧ 99 < p) ∨ ((0 ≤ p ∧ p ≤ 99) ∧ o < 0) ∨ ((0 ≤ p ∧ p ≤ 99) ∧ (0 ≤ o ∧ 4 < o)) := by
    simp [ruP] at h
    omega
  clear h
  rcases hc with h1 | ⟨h1, h2⟩ | ⟨⟨h1, h2⟩, h3⟩ | ⟨⟨h1, h2⟩, h3, h4⟩
  · have e1 : decide (p < 0) = true := by simp; omega
    go_enter Tryz.func55, Tryz.ntmps55
    go_wp2_with fail
    refine (header_any _ _).mono ?_
    rintro e w' ⟨rfl, rfl⟩
    go_wp2_with fail
    refine (header_any _ _).mono ?_
    rintro e w' ⟨rfl, rfl⟩
    go_wp2
    go_ret
    exact ⟨rfl, (Below.refl _ _).alloc (Nat.le_refl _) _⟩
  · have e1 : decide (p < 0) = false := by simp; omega
    have e2 : decide (99 < p) = true := by simp; omega
    go_enter Tryz.func55, Tryz.ntmps55
    go_wp2_with fail
    refine (header_any _ _).mono ?_
    rintro e w' ⟨rfl, rfl⟩
    go_wp2_with fail
    refine (header_any _ _).mono ?_
    rintro e w' ⟨rfl, rfl⟩
    go_wp2
    go_ret
    exact ⟨rfl, (Below.refl _ _).alloc (Nat.le_refl _) _⟩
  · have e1 : decide (p < 0) = false := by simp; omega
    have e2 : decide (99 < p) = false := by simp; omega
    have e3 : decide (o < 0) = true := by simp; omega
    go_enter Tryz.func55, Tryz.ntmps55
    go_wp2_with fail
    refine (header_any _ _).mono ?_
    rintro e w' ⟨rfl, rfl⟩
    go_wp2_with fail
    refine (header_any _ _).mono ?_
    rintro e w' ⟨rfl, rfl⟩
    go_wp2
    go_ret
    exact ⟨rfl, (Below.refl _ _).alloc (Nat.le_refl _) _⟩
  · have e1 : decide (p < 0) = false := by simp; omega
    have e2 : decide (99 < p) = false := by simp; omega
    have e3 : decide (o < 0) = false := by simp; omega
    have e4 : decide (4 < o) = true := by simp; omega
    go_enter Tryz.func55, Tryz.ntmps55
    go_wp2_with fail
    refine (header_any _ _).mono ?_
    rintro e w' ⟨rfl, rfl⟩
    go_wp2_with fail
    refine (header_any _ _).mono ?_
    rintro e w' ⟨rfl, rfl⟩
    go_wp2
    go_ret
    exact ⟨rfl, (Below.refl _ _).alloc (Nat.le_refl _) _⟩

set_option maxHeartbeats 1000000 in
theorem refRule_set (p m b o s v : Int) (w : World) (h : ruP p o = true) (h2 : rngB s v = false) :
    Calls Tryz.prog 55 #[.agg #[.int .i64 p, .int .i64 m, .int .i64 b, .int .i64 o, .int .i64 s, .int .i64 v]] w fun e w' => e = .returned (.int .i64 1) ∧ Below w.heap.size w w' := by
  obtain ⟨e1, e2, e3, e4⟩ := ruP_of h
  clear h
  cases hs : hdrB s
  · clear h2
    go_enter Tryz.func55, Tryz.ntmps55
    go_wp2_with fail
    refine (header_any _ _).mono ?_
    rintro e w' ⟨rfl, rfl⟩
    rw [hs]
    go_wp2_with fail
    refine (header_any _ _).mono ?_
    rintro e w' ⟨rfl, rfl⟩
    go_wp2
    go_ret
    exact ⟨rfl, (Below.refl _ _).alloc (Nat.le_refl _) _⟩
  · have hv : hdrB v = false := by simpa [rngB, hs] using h2
    clear h2
    go_enter Tryz.func55, Tryz.ntmps55
    go_wp2_with fail
    refine (header_any _ _).mono ?_
    rintro e w' ⟨rfl, rfl⟩
    rw [hs]
    go_wp2_with fail
    refine (header_any _ _).mono ?_
    rintro e w' ⟨rfl, rfl⟩
    rw [hv]
    go_wp2
    go_ret
    exact ⟨rfl, (Below.refl _ _).alloc (Nat.le_refl _) _⟩

set_option maxHeartbeats 1000000 in
theorem refRule_cube (p m b o s v : Int) (w : World) (h : ruP p o = true) (h2 : rngB s v = true) (h3 : okB m b = false) :
    Calls Tryz.prog 55 #[.agg #[.int .i64 p, .int .i64 m, .int .i64 b, .int .i64 o, .int .i64 s, .int .i64 v]] w fun e w' => e = .returned (.int .i64 (refN m b)) ∧ Below w.heap.size w w' := by
  obtain ⟨e1, e2, e3, e4⟩ := ruP_of h
  have hs : hdrB s = true := by simp only [rngB, Bool.and_eq_true] at h2; exact h2.1
  have hv : hdrB v = true := by simp only [rngB, Bool.and_eq_true] at h2; exact h2.2
  have hn : (refN m b != 0) = true := by have := ok_refN m b; rw [h3] at this; simpa using this
  clear h h2 h3
  go_enter Tryz.func55, Tryz.ntmps55
  go_wp2_with fail
  refine (header_any _ _).mono ?_
  rintro e w' ⟨rfl, rfl⟩
  rw [hs]
  go_wp2_with fail
  refine (header_any _ _).mono ?_
  rintro e w' ⟨rfl, rfl⟩
  rw [hv]
  go_wp2_with fail
  refine (refCube_any _ _ _).mono ?_
  rintro e w1 ⟨rfl, hb1⟩
  go_wp2
  go_ret
  exact ⟨rfl, ((Below.refl _ _).alloc (Nat.le_refl _) _).trans (hb1.mono (by simp))⟩

set_option maxHeartbeats 1000000 in
theorem refRule_end (p m b o s v : Int) (w : World) (h : ruP p o = true) (h2 : rngB s v = true) (h3 : okB m b = true) (x : Int) (hx : x = if ruSet o s v then 0 else 3) :
    Calls Tryz.prog 55 #[.agg #[.int .i64 p, .int .i64 m, .int .i64 b, .int .i64 o, .int .i64 s, .int .i64 v]] w fun e w' => e = .returned (.int .i64 x) ∧ Below w.heap.size w w' := by
  obtain ⟨e1, e2, e3, e4⟩ := ruP_of h
  have hs : hdrB s = true := by simp only [rngB, Bool.and_eq_true] at h2; exact h2.1
  have hv : hdrB v = true := by simp only [rngB, Bool.and_eq_true] at h2; exact h2.2
  have hn : refN m b = 0 := refN_ok h3
  have hlt : w.heap.size < (w.alloc (Obj.cells #[Value.int IntKind.i64 p, Value.int IntKind.i64 m, Value.int IntKind.i64 b, Value.int IntKind.i64 o, Value.int IntKind.i64 s, Value.int IntKind.i64 v] 117)).heap.size := by simp
  have ha0 := set_okB h2
  clear h h2 h3
  cases ha : (bits .andNot .i64 v s == 0)
  · have hx3 : x = 3 := by rw [hx]; simp [ruSet, ha]
    subst hx3
    have hz : (refN s v != 0) = true := by have := ok_refN s v; rw [ha0, ha] at this; simpa using this
    clear hx ha0
    go_enter Tryz.func55, Tryz.ntmps55
    go_wp2_with fail
    refine (header_any _ _).mono ?_
    rintro e w' ⟨rfl, rfl⟩
    rw [hs]
    go_wp2_with fail
    refine (header_any _ _).mono ?_
    rintro e w' ⟨rfl, rfl⟩
    rw [hv]
    go_wp2_with fail
    refine (refCube_any _ _ _).mono ?_
    rintro e w1 ⟨rfl, hb1⟩
    rw [hn]
    obtain ⟨hc1, hf1⟩ := bcell hb1
    have hB := ((Below.refl w.heap.size w).alloc (Nat.le_refl _) (Obj.cells #[Value.int IntKind.i64 p, Value.int IntKind.i64 m, Value.int IntKind.i64 b, Value.int IntKind.i64 o, Value.int IntKind.i64 s, Value.int IntKind.i64 v] 117)).trans (hb1.mono (by simp))
    have hlt2 : w.heap.size < w1.heap.size := by have := hb1.size; omega
    clear hb1
    go_wp2_with fail
    refine (refCube_any _ _ _).mono ?_
    rintro e w2 ⟨rfl, hb2⟩
    generalize refN s v = N at *
    obtain ⟨hc2, hf2⟩ := bcell hb2
    have hB2 := hB.trans (hb2.mono (by omega))
    clear hb2 hB
    go_wp2
    go_ret
    exact ⟨rfl, hB2⟩
  · have hz : refN s v = 0 := refN_ok (by rw [ha0, ha])
    clear ha0
    cases ho : (o == 0)
    · have hx3 : x = 0 := by rw [hx]; simp [ruSet, ha, ho]
      subst hx3
      clear hx
      go_enter Tryz.func55, Tryz.ntmps55
      go_wp2_with fail
      refine (header_any _ _).mono ?_
      rintro e w' ⟨rfl, rfl⟩
      rw [hs]
      go_wp2_with fail
      refine (header_any _ _).mono ?_
      rintro e w' ⟨rfl, rfl⟩
      rw [hv]
      go_wp2_with fail
      refine (refCube_any _ _ _).mono ?_
      rintro e w1 ⟨rfl, hb1⟩
      rw [hn]
      obtain ⟨hc1, hf1⟩ := bcell hb1
      have hB := ((Below.refl w.heap.size w).alloc (Nat.le_refl _) (Obj.cells #[Value.int IntKind.i64 p, Value.int IntKind.i64 m, Value.int IntKind.i64 b, Value.int IntKind.i64 o, Value.int IntKind.i64 s, Value.int IntKind.i64 v] 117)).trans (hb1.mono (by simp))
      have hlt2 : w.heap.size < w1.heap.size := by have := hb1.size; omega
      clear hb1
      go_wp2_with fail
      refine (refCube_any _ _ _).mono ?_
      rintro e w2 ⟨rfl, hb2⟩
      rw [hz]
      obtain ⟨hc2, hf2⟩ := bcell hb2
      have hB2 := hB.trans (hb2.mono (by omega))
      clear hb2 hB
      go_wp2
      go_ret
      exact ⟨rfl, hB2⟩
    · have hz2 : x = if (s == 0) then 0 else 3 := by rw [hx]; simp [ruSet, ha, ho]
      clear hx
      cases hs0 : (s == 0)
      · rw [hs0] at hz2
        have hs1 : (s != 0) = true := by simpa using hs0
        simp only [Bool.false_eq_true, if_false] at hz2
        subst hz2
        go_enter Tryz.func55, Tryz.ntmps55
        go_wp2_with fail
        refine (header_any _ _).mono ?_
        rintro e w' ⟨rfl, rfl⟩
        rw [hs]
        go_wp2_with fail
        refine (header_any _ _).mono ?_
        rintro e w' ⟨rfl, rfl⟩
        rw [hv]
        go_wp2_with fail
        refine (refCube_any _ _ _).mono ?_
        rintro e w1 ⟨rfl, hb1⟩
        rw [hn]
        obtain ⟨hc1, hf1⟩ := bcell hb1
        have hB := ((Below.refl w.heap.size w).alloc (Nat.le_refl _) (Obj.cells #[Value.int IntKind.i64 p, Value.int IntKind.i64 m, Value.int IntKind.i64 b, Value.int IntKind.i64 o, Value.int IntKind.i64 s, Value.int IntKind.i64 v] 117)).trans (hb1.mono (by simp))
        have hlt2 : w.heap.size < w1.heap.size := by have := hb1.size; omega
        clear hb1
        go_wp2_with fail
        refine (refCube_any _ _ _).mono ?_
        rintro e w2 ⟨rfl, hb2⟩
        rw [hz]
        obtain ⟨hc2, hf2⟩ := bcell hb2
        have hB2 := hB.trans (hb2.mono (by omega))
        clear hb2 hB
        go_wp2
        go_ret
        exact ⟨rfl, hB2⟩
      · rw [hs0] at hz2
        have hs1 : (s != 0) = false := by simpa using hs0
        simp only [if_true] at hz2
        subst hz2
        go_enter Tryz.func55, Tryz.ntmps55
        go_wp2_with fail
        refine (header_any _ _).mono ?_
        rintro e w' ⟨rfl, rfl⟩
        rw [hs]
        go_wp2_with fail
        refine (header_any _ _).mono ?_
        rintro e w' ⟨rfl, rfl⟩
        rw [hv]
        go_wp2_with fail
        refine (refCube_any _ _ _).mono ?_
        rintro e w1 ⟨rfl, hb1⟩
        rw [hn]
        obtain ⟨hc1, hf1⟩ := bcell hb1
        have hB := ((Below.refl w.heap.size w).alloc (Nat.le_refl _) (Obj.cells #[Value.int IntKind.i64 p, Value.int IntKind.i64 m, Value.int IntKind.i64 b, Value.int IntKind.i64 o, Value.int IntKind.i64 s, Value.int IntKind.i64 v] 117)).trans (hb1.mono (by simp))
        have hlt2 : w.heap.size < w1.heap.size := by have := hb1.size; omega
        clear hb1
        go_wp2_with fail
        refine (refCube_any _ _ _).mono ?_
        rintro e w2 ⟨rfl, hb2⟩
        rw [hz]
        obtain ⟨hc2, hf2⟩ := bcell hb2
        have hB2 := hB.trans (hb2.mono (by omega))
        clear hb2 hB
        go_wp2
        go_ret
        exact ⟨rfl, hB2⟩

theorem refRule_any (p m b o s v : Int) (w : World) :
    Calls Tryz.prog 55 #[.agg #[.int .i64 p, .int .i64 m, .int .i64 b, .int .i64 o, .int .i64 s, .int .i64 v]] w fun e w' => e = .returned (.int .i64 (ruN p m b o s v)) ∧ Below w.heap.size w w' := by
  cases h1 : ruP p o
  · have e : ruN p m b o s v = 1 := by simp [ruN, ruIn, h1]
    rw [e]; exact refRule_prio p m b o s v w h1
  · cases h2 : rngB s v
    · have e : ruN p m b o s v = 1 := by simp [ruN, ruIn, h2]
      rw [e]; exact refRule_set p m b o s v w h1 h2
    · cases h3 : okB m b
      · have e : ruN p m b o s v = refN m b := by simp [ruN, ruIn, h1, h2, h3]
        rw [e]; exact refRule_cube p m b o s v w h1 h2 h3
      · exact refRule_end p m b o s v w h1 h2 h3 _ (by simp [ruN, ruIn, h1, h2, h3])
end Go.Proofs.YtpmcjelihdlfeaaGreatDoor
/- What the document's own Table answers, called with any table. -/
namespace Go.Proofs.YtpmcjelihdlfeaaGreatDoor
open Go.RowKit
set_option linter.unusedSimpArgs false

theorem to_badF {L : List Ru} {k : Nat} {r : Ru} (hk : k < L.length) (hr : L[k] = r) (h : tbTo L k = 0) (h2 : r.n ≠ 0) (h12 : L.length ≤ 12) : tbN L = r.n := by
  have e : tbTo L (k + 1) = r.n := by rw [tbTo, if_pos h, getD_at hk, hr, if_neg h2]
  rw [tbN, if_neg (by omega), ← e]
  exact to_le (by rw [e]; exact h2) hk
theorem to_clashF {L : List Ru} {k : Nat} {r : Ru} (hk : k < L.length) (hr : L[k] = r) (h : tbTo L k = 0) (h2 : r.n = 0) (h3 : (L.take k).any (fun a => keyB a r) = true) (h12 : L.length ≤ 12) : tbN L = 7 := by
  have e : tbTo L (k + 1) = 7 := by
    rw [tbTo, if_pos h, getD_at hk, hr, if_pos h2, h3]
    rfl
  rw [tbN, if_neg (by omega), ← e]
  exact to_le (by rw [e]; decide) hk
theorem to_nextF {L : List Ru} {k : Nat} {r : Ru} (hk : k < L.length) (hr : L[k] = r) (h : tbTo L k = 0) (h2 : r.n = 0) (h3 : (L.take k).any (fun a => keyB a r) = false) : tbTo L (k + 1) = 0 := by
  rw [tbTo, if_pos h, getD_at hk, hr, if_pos h2, h3]
  rfl
theorem tab_take {L : List Ru} {f : Ru → Bool} {q k : Nat} (hq : q < k) (hk : q < L.length) (h : f L[q] = true) : (L.take k).any f = true :=
  List.any_eq_true.2 ⟨_, List.mem_take_iff_getElem.2 ⟨q, by omega, rfl⟩, h⟩

set_option maxRecDepth 100000 in
set_option maxHeartbeats 4000000 in
theorem refTable_some (g o cap n : Nat) (L : List Ru) (w : World) (hc : RAt w g o L) (hn : L.length = n) (hl : n ≤ 12) :
    Calls Tryz.prog 31 #[.slice (some ⟨g, o, none⟩) n cap] w fun e w' => e = .returned (.int .i64 (tbN L)) ∧ Below w.heap.size w w' := by
  have HN : Hid (L.length = n) := hn
  clear hn
  go_enter Tryz.func31, Tryz.ntmps31
  go_wp2
  go_loopw [3] (fun i wr => ∃ k : Nat, k ≤ n ∧ i = .int .i64 k ∧ tbTo L k = 0 ∧ Below w.heap.size w wr) (fun i _ => n - (intOf i).toNat)
  case atStart => exact ⟨0, by omega, rfl, rfl, Below.refl _ _⟩
  case round =>
    obtain ⟨k, hk, rfl, hno, hB⟩ := hrel
    have HB : Hid (Below w.heap.size w wr) := hB
    have HNO : Hid (tbTo L k = 0) := hno
    clear hno
    by_cases hlt : k < n
    · obtain ⟨p, m, b, q, s, v, hkl, hL, q0, q1, q2, q3, q4, q5⟩ := (hc.later hB).at HN.out hlt
      have HL : Hid (L[k] = ⟨p, m, b, q, s, v⟩) := hL
      clear hL hB
      by_cases ho : ruN p m b q s v = 0
      · have HO : Hid (ruN p m b q s v = 0) := ho
        go_wp2_with fail
        refine (refRule_any _ _ _ _ _ _ _).mono ?_
        rintro e w1 ⟨rfl, hb1⟩
        rw [HO.out]
        have HB1 : Hid (Below w.heap.size w w1) := HB.out.trans (hb1.mono HB.out.size)
        clear hb1 q0 q1 q2 q3 q4 q5 ho
        go_wp2
        go_loopw [5] (fun j w2 => ∃ t : Nat, t ≤ k ∧ j = .int .i64 t ∧ (L.take t).any (fun a => keyB a ⟨p, m, b, q, s, v⟩) = false ∧ Below w.heap.size w w2) (fun j _ => k - (intOf j).toNat)
        case atStart => exact ⟨0, by omega, rfl, by simp, HB1.out⟩
        case round =>
          obtain ⟨t, ht, rfl, hany, hB2⟩ := hrel
          have HANY : Hid ((L.take t).any (fun a => keyB a ⟨p, m, b, q, s, v⟩) = false) := hany
          have HB2 : Hid (Below w.heap.size w wr) := hB2
          clear hany
          by_cases hq : t < k
          · obtain ⟨p4, m4, b4, o4, s4, v4, htl, hLt, y0, y1, y2, y3, y4, y5⟩ := (hc.later hB2).at HN.out (show t < n by omega)
            obtain ⟨p5, m5, b5, o5, s5, v5, _, hLk, r0, r1, r2, r3, r4, r5⟩ := (hc.later hB2).at HN.out hlt
            rw [HL.out] at hLk
            simp only [Ru.mk.injEq] at hLk
            obtain ⟨rfl, rfl, rfl, rfl, rfl, rfl⟩ := hLk
            have HLT : Hid (L[t] = ⟨p4, m4, b4, o4, s4, v4⟩) := hLt
            have HCE : Hid (CD w g (o + t * 6) p4 m4 b4 o4 s4 v4 g (o + k * 6) p m b q s v wr) := ⟨hB2, ⟨y0, y1, y2, y3, y4, y5⟩, r0, r1, r2, r3, r4, r5⟩
            clear y0 y1 y2 y3 y4 y5 r0 r1 r2 r3 r4 r5 hLt hB2
            go_upto_region 12 with fail
            have tb0 : (0 : Int) ≤ (t : Int) := by omega
            have tb1 : (t : Int) < (n : Int) := by omega
            have kb0 : (0 : Int) ≤ (k : Int) := by omega
            have kb1 : (k : Int) < (n : Int) := by omega
            go_cut [51] from 23 to 51 (fun c w' => c = .bool (keyB ⟨p4, m4, b4, o4, s4, v4⟩ ⟨p, m, b, q, s, v⟩) ∧ Below w.heap.size w w')
            case first =>
              as_aux_lemma =>
                by_cases e1 : p4 = p
                · have f1 : (p4 == p) = true := by simpa using e1
                  by_cases e2 : m4 = m ∧ b4 = b
                  · obtain ⟨e2, e3⟩ := e2
                    have hky : keyB ⟨p4, m4, b4, o4, s4, v4⟩ ⟨p, m, b, q, s, v⟩ = true := by rw [key_eq]; simp [e1, e2, e3]
                    have f2 : (m4 == m) = true := by simpa using e2
                    have f3 : (b4 == b) = true := by simpa using e3
                    have hC0 := HCE.out
                    clear e1 e2 e3
                    refine wp_region_quiet (C := CD w g (o + t * 6) p4 m4 b4 o4 s4 v4 g (o + k * 6) p m b q s v) (by kernel_rfl) (by kernel_rfl) (CD.later (W := wr) (Below.drew (Below.refl _ _)) hC0) ?_
                    simp only [List.toList_toArray]
                    go_big_quiet_want
                    refine quiet_val (v := .slice (some ⟨g, o, none⟩) n cap) (fun w' hC => ?_) ?_
                    · obtain ⟨z0, ⟨z1, z2, z3, z4, z5, z6⟩, y1, y2, y3, y4, y5, y6⟩ := hC
                      go_simp
                    simp only [Act.put, List.setIfInBounds_toArray, List.set_cons_zero, List.set_cons_succ]
                    go_big_quiet_on
                    go_big_quiet_want
                    refine quiet_val (v := .int .i64 (t : Int)) (fun w' hC => ?_) ?_
                    · obtain ⟨z0, ⟨z1, z2, z3, z4, z5, z6⟩, y1, y2, y3, y4, y5, y6⟩ := hC
                      go_simp
                    simp only [Act.put, List.setIfInBounds_toArray, List.set_cons_zero, List.set_cons_succ]
                    go_big_quiet_on
                    go_big_quiet_want
                    refine quiet_val (v := .pointer (some ⟨g, o + t * 6, none⟩)) (fun w' hC => ?_) ?_
                    · obtain ⟨z0, ⟨z1, z2, z3, z4, z5, z6⟩, y1, y2, y3, y4, y5, y6⟩ := hC
                      go_simp
                    simp only [Act.put, List.setIfInBounds_toArray, List.set_cons_zero, List.set_cons_succ]
                    go_big_quiet_on
                    go_big_quiet_want
                    refine quiet_val (v := .pointer (some ⟨g, o + t * 6, none⟩)) (fun w' hC => ?_) ?_
                    · obtain ⟨z0, ⟨z1, z2, z3, z4, z5, z6⟩, y1, y2, y3, y4, y5, y6⟩ := hC
                      go_simp
                    simp only [Act.put, List.setIfInBounds_toArray, List.set_cons_zero, List.set_cons_succ]
                    go_big_quiet_on
                    go_big_quiet_want
                    refine quiet_val (v := .int .i64 p4) (fun w' hC => ?_) ?_
                    · obtain ⟨z0, ⟨z1, z2, z3, z4, z5, z6⟩, y1, y2, y3, y4, y5, y6⟩ := hC
                      go_simp
                    simp only [Act.put, List.setIfInBounds_toArray, List.set_cons_zero, List.set_cons_succ]
                    go_big_quiet_on
                    go_big_quiet_want
                    refine quiet_val (v := .slice (some ⟨g, o, none⟩) n cap) (fun w' hC => ?_) ?_
                    · obtain ⟨z0, ⟨z1, z2, z3, z4, z5, z6⟩, y1, y2, y3, y4, y5, y6⟩ := hC
                      go_simp
                    simp only [Act.put, List.setIfInBounds_toArray, List.set_cons_zero, List.set_cons_succ]
                    go_big_quiet_on
                    go_big_quiet_want
                    refine quiet_val (v := .int .i64 (k : Int)) (fun w' hC => ?_) ?_
                    · obtain ⟨z0, ⟨z1, z2, z3, z4, z5, z6⟩, y1, y2, y3, y4, y5, y6⟩ := hC
                      go_simp
                    simp only [Act.put, List.setIfInBounds_toArray, List.set_cons_zero, List.set_cons_succ]
                    go_big_quiet_on
                    go_big_quiet_want
                    refine quiet_val (v := .pointer (some ⟨g, o + k * 6, none⟩)) (fun w' hC => ?_) ?_
                    · obtain ⟨z0, ⟨z1, z2, z3, z4, z5, z6⟩, y1, y2, y3, y4, y5, y6⟩ := hC
                      go_simp
                    simp only [Act.put, List.setIfInBounds_toArray, List.set_cons_zero, List.set_cons_succ]
                    go_big_quiet_on
                    go_big_quiet_want
                    refine quiet_val (v := .pointer (some ⟨g, o + k * 6, none⟩)) (fun w' hC => ?_) ?_
                    · obtain ⟨z0, ⟨z1, z2, z3, z4, z5, z6⟩, y1, y2, y3, y4, y5, y6⟩ := hC
                      go_simp
                    simp only [Act.put, List.setIfInBounds_toArray, List.set_cons_zero, List.set_cons_succ]
                    go_big_quiet_on
                    go_big_quiet_want
                    refine quiet_val (v := .int .i64 p) (fun w' hC => ?_) ?_
                    · obtain ⟨z0, ⟨z1, z2, z3, z4, z5, z6⟩, y1, y2, y3, y4, y5, y6⟩ := hC
                      go_simp
                    simp only [Act.put, List.setIfInBounds_toArray, List.set_cons_zero, List.set_cons_succ]
                    go_big_quiet_on
                    go_big_quiet_want
                    refine quiet_val (v := .bool true) (fun w' hC => ?_) ?_
                    · obtain ⟨z0, ⟨z1, z2, z3, z4, z5, z6⟩, y1, y2, y3, y4, y5, y6⟩ := hC
                      go_simp
                    simp only [Act.put, List.setIfInBounds_toArray, List.set_cons_zero, List.set_cons_succ]
                    go_big_quiet_on
                    go_big_quiet_want
                    refine quiet_val (v := .bool true) (fun w' hC => ?_) ?_
                    · obtain ⟨z0, ⟨z1, z2, z3, z4, z5, z6⟩, y1, y2, y3, y4, y5, y6⟩ := hC
                      go_simp
                    simp only [Act.put, List.setIfInBounds_toArray, List.set_cons_zero, List.set_cons_succ]
                    go_big_quiet_on
                    go_big_quiet_want
                    refine quiet_val (v := .slice (some ⟨g, o, none⟩) n cap) (fun w' hC => ?_) ?_
                    · obtain ⟨z0, ⟨z1, z2, z3, z4, z5, z6⟩, y1, y2, y3, y4, y5, y6⟩ := hC
                      go_simp
                    simp only [Act.put, List.setIfInBounds_toArray, List.set_cons_zero, List.set_cons_succ]
                    go_big_quiet_on
                    go_big_quiet_want
                    refine quiet_val (v := .int .i64 (t : Int)) (fun w' hC => ?_) ?_
                    · obtain ⟨z0, ⟨z1, z2, z3, z4, z5, z6⟩, y1, y2, y3, y4, y5, y6⟩ := hC
                      go_simp
                    simp only [Act.put, List.setIfInBounds_toArray, List.set_cons_zero, List.set_cons_succ]
                    go_big_quiet_on
                    go_big_quiet_want
                    refine quiet_val (v := .pointer (some ⟨g, o + t * 6, none⟩)) (fun w' hC => ?_) ?_
                    · obtain ⟨z0, ⟨z1, z2, z3, z4, z5, z6⟩, y1, y2, y3, y4, y5, y6⟩ := hC
                      go_simp
                    simp only [Act.put, List.setIfInBounds_toArray, List.set_cons_zero, List.set_cons_succ]
                    go_big_quiet_on
                    go_big_quiet_want
                    refine quiet_val (v := .pointer (some ⟨g, o + t * 6 + 1, none⟩)) (fun w' hC => ?_) ?_
                    · obtain ⟨z0, ⟨z1, z2, z3, z4, z5, z6⟩, y1, y2, y3, y4, y5, y6⟩ := hC
                      go_simp
                    simp only [Act.put, List.setIfInBounds_toArray, List.set_cons_zero, List.set_cons_succ]
                    go_big_quiet_on
                    go_big_quiet_want
                    refine quiet_val (v := .agg #[.int .i64 m4, .int .i64 b4]) (fun w' hC => ?_) ?_
                    · obtain ⟨z0, ⟨z1, z2, z3, z4, z5, z6⟩, y1, y2, y3, y4, y5, y6⟩ := hC
                      go_simp
                    simp only [Act.put, List.setIfInBounds_toArray, List.set_cons_zero, List.set_cons_succ]
                    go_big_quiet_on
                    go_big_quiet_want
                    refine quiet_val (v := .slice (some ⟨g, o, none⟩) n cap) (fun w' hC => ?_) ?_
                    · obtain ⟨z0, ⟨z1, z2, z3, z4, z5, z6⟩, y1, y2, y3, y4, y5, y6⟩ := hC
                      go_simp
                    simp only [Act.put, List.setIfInBounds_toArray, List.set_cons_zero, List.set_cons_succ]
                    go_big_quiet_on
                    go_big_quiet_want
                    refine quiet_val (v := .int .i64 (k : Int)) (fun w' hC => ?_) ?_
                    · obtain ⟨z0, ⟨z1, z2, z3, z4, z5, z6⟩, y1, y2, y3, y4, y5, y6⟩ := hC
                      go_simp
                    simp only [Act.put, List.setIfInBounds_toArray, List.set_cons_zero, List.set_cons_succ]
                    go_big_quiet_on
                    go_big_quiet_want
                    refine quiet_val (v := .pointer (some ⟨g, o + k * 6, none⟩)) (fun w' hC => ?_) ?_
                    · obtain ⟨z0, ⟨z1, z2, z3, z4, z5, z6⟩, y1, y2, y3, y4, y5, y6⟩ := hC
                      go_simp
                    simp only [Act.put, List.setIfInBounds_toArray, List.set_cons_zero, List.set_cons_succ]
                    go_big_quiet_on
                    go_big_quiet_want
                    refine quiet_val (v := .pointer (some ⟨g, o + k * 6 + 1, none⟩)) (fun w' hC => ?_) ?_
                    · obtain ⟨z0, ⟨z1, z2, z3, z4, z5, z6⟩, y1, y2, y3, y4, y5, y6⟩ := hC
                      go_simp
                    simp only [Act.put, List.setIfInBounds_toArray, List.set_cons_zero, List.set_cons_succ]
                    go_big_quiet_on
                    go_big_quiet_want
                    refine quiet_val (v := .agg #[.int .i64 m, .int .i64 b]) (fun w' hC => ?_) ?_
                    · obtain ⟨z0, ⟨z1, z2, z3, z4, z5, z6⟩, y1, y2, y3, y4, y5, y6⟩ := hC
                      go_simp
                    simp only [Act.put, List.setIfInBounds_toArray, List.set_cons_zero, List.set_cons_succ]
                    go_big_quiet_on
                    go_big_quiet_want
                    refine quiet_val (v := .bool true) (fun w' hC => ?_) ?_
                    · obtain ⟨z0, ⟨z1, z2, z3, z4, z5, z6⟩, y1, y2, y3, y4, y5, y6⟩ := hC
                      go_simp
                    simp only [Act.put, List.setIfInBounds_toArray, List.set_cons_zero, List.set_cons_succ]
                    go_big_quiet_on
                    go_big_quiet_want
                    refine quiet_val (v := .bool true) (fun w' hC => ?_) ?_
                    · obtain ⟨z0, ⟨z1, z2, z3, z4, z5, z6⟩, y1, y2, y3, y4, y5, y6⟩ := hC
                      go_simp
                    simp only [Act.put, List.setIfInBounds_toArray, List.set_cons_zero, List.set_cons_succ]
                    go_big_quiet_on
                    refine wpQuiet_nil ?_
                    intro w' hC
                    go_wp2_with fail
                    go_meet
                    case rel => exact ⟨by rw [hky], hC.1⟩
                  · have hky : keyB ⟨p4, m4, b4, o4, s4, v4⟩ ⟨p, m, b, q, s, v⟩ = false := by
                      rw [key_eq]
                      simp only [e1, decide_true, Bool.true_and, Bool.and_eq_false_iff, decide_eq_false_iff_not]
                      by_cases e3 : m4 = m
                      · exact .inr fun e4 => e2 ⟨e3, e4⟩
                      · exact .inl e3
                    by_cases e3 : m4 = m
                    · have f3 : ¬ b4 = b := fun e4 => e2 ⟨e3, e4⟩
                      have f2 : (m4 == m) = true := by simpa using e3
                      have f4 : (b4 == b) = false := by simpa using f3
                      clear e2
                      have hC0 := HCE.out
                      clear e1
                      refine wp_region_quiet (C := CD w g (o + t * 6) p4 m4 b4 o4 s4 v4 g (o + k * 6) p m b q s v) (by kernel_rfl) (by kernel_rfl) (CD.later (W := wr) (Below.drew (Below.refl _ _)) hC0) ?_
                      simp only [List.toList_toArray]
                      go_big_quiet_want
                      refine quiet_val (v := .slice (some ⟨g, o, none⟩) n cap) (fun w' hC => ?_) ?_
                      · obtain ⟨z0, ⟨z1, z2, z3, z4, z5, z6⟩, y1, y2, y3, y4, y5, y6⟩ := hC
                        go_simp
                      simp only [Act.put, List.setIfInBounds_toArray, List.set_cons_zero, List.set_cons_succ]
                      go_big_quiet_on
                      go_big_quiet_want
                      refine quiet_val (v := .int .i64 (t : Int)) (fun w' hC => ?_) ?_
                      · obtain ⟨z0, ⟨z1, z2, z3, z4, z5, z6⟩, y1, y2, y3, y4, y5, y6⟩ := hC
                        go_simp
                      simp only [Act.put, List.setIfInBounds_toArray, List.set_cons_zero, List.set_cons_succ]
                      go_big_quiet_on
                      go_big_quiet_want
                      refine quiet_val (v := .pointer (some ⟨g, o + t * 6, none⟩)) (fun w' hC => ?_) ?_
                      · obtain ⟨z0, ⟨z1, z2, z3, z4, z5, z6⟩, y1, y2, y3, y4, y5, y6⟩ := hC
                        go_simp
                      simp only [Act.put, List.setIfInBounds_toArray, List.set_cons_zero, List.set_cons_succ]
                      go_big_quiet_on
                      go_big_quiet_want
                      refine quiet_val (v := .pointer (some ⟨g, o + t * 6, none⟩)) (fun w' hC => ?_) ?_
                      · obtain ⟨z0, ⟨z1, z2, z3, z4, z5, z6⟩, y1, y2, y3, y4, y5, y6⟩ := hC
                        go_simp
                      simp only [Act.put, List.setIfInBounds_toArray, List.set_cons_zero, List.set_cons_succ]
                      go_big_quiet_on
                      go_big_quiet_want
                      refine quiet_val (v := .int .i64 p4) (fun w' hC => ?_) ?_
                      · obtain ⟨z0, ⟨z1, z2, z3, z4, z5, z6⟩, y1, y2, y3, y4, y5, y6⟩ := hC
                        go_simp
                      simp only [Act.put, List.setIfInBounds_toArray, List.set_cons_zero, List.set_cons_succ]
                      go_big_quiet_on
                      go_big_quiet_want
                      refine quiet_val (v := .slice (some ⟨g, o, none⟩) n cap) (fun w' hC => ?_) ?_
                      · obtain ⟨z0, ⟨z1, z2, z3, z4, z5, z6⟩, y1, y2, y3, y4, y5, y6⟩ := hC
                        go_simp
                      simp only [Act.put, List.setIfInBounds_toArray, List.set_cons_zero, List.set_cons_succ]
                      go_big_quiet_on
                      go_big_quiet_want
                      refine quiet_val (v := .int .i64 (k : Int)) (fun w' hC => ?_) ?_
                      · obtain ⟨z0, ⟨z1, z2, z3, z4, z5, z6⟩, y1, y2, y3, y4, y5, y6⟩ := hC
                        go_simp
                      simp only [Act.put, List.setIfInBounds_toArray, List.set_cons_zero, List.set_cons_succ]
                      go_big_quiet_on
                      go_big_quiet_want
                      refine quiet_val (v := .pointer (some ⟨g, o + k * 6, none⟩)) (fun w' hC => ?_) ?_
                      · obtain ⟨z0, ⟨z1, z2, z3, z4, z5, z6⟩, y1, y2, y3, y4, y5, y6⟩ := hC
                        go_simp
                      simp only [Act.put, List.setIfInBounds_toArray, List.set_cons_zero, List.set_cons_succ]
                      go_big_quiet_on
                      go_big_quiet_want
                      refine quiet_val (v := .pointer (some ⟨g, o + k * 6, none⟩)) (fun w' hC => ?_) ?_
                      · obtain ⟨z0, ⟨z1, z2, z3, z4, z5, z6⟩, y1, y2, y3, y4, y5, y6⟩ := hC
                        go_simp
                      simp only [Act.put, List.setIfInBounds_toArray, List.set_cons_zero, List.set_cons_succ]
                      go_big_quiet_on
                      go_big_quiet_want
                      refine quiet_val (v := .int .i64 p) (fun w' hC => ?_) ?_
                      · obtain ⟨z0, ⟨z1, z2, z3, z4, z5, z6⟩, y1, y2, y3, y4, y5, y6⟩ := hC
                        go_simp
                      simp only [Act.put, List.setIfInBounds_toArray, List.set_cons_zero, List.set_cons_succ]
                      go_big_quiet_on
                      go_big_quiet_want
                      refine quiet_val (v := .bool true) (fun w' hC => ?_) ?_
                      · obtain ⟨z0, ⟨z1, z2, z3, z4, z5, z6⟩, y1, y2, y3, y4, y5, y6⟩ := hC
                        go_simp
                      simp only [Act.put, List.setIfInBounds_toArray, List.set_cons_zero, List.set_cons_succ]
                      go_big_quiet_on
                      go_big_quiet_want
                      refine quiet_val (v := .bool true) (fun w' hC => ?_) ?_
                      · obtain ⟨z0, ⟨z1, z2, z3, z4, z5, z6⟩, y1, y2, y3, y4, y5, y6⟩ := hC
                        go_simp
                      simp only [Act.put, List.setIfInBounds_toArray, List.set_cons_zero, List.set_cons_succ]
                      go_big_quiet_on
                      go_big_quiet_want
                      refine quiet_val (v := .slice (some ⟨g, o, none⟩) n cap) (fun w' hC => ?_) ?_
                      · obtain ⟨z0, ⟨z1, z2, z3, z4, z5, z6⟩, y1, y2, y3, y4, y5, y6⟩ := hC
                        go_simp
                      simp only [Act.put, List.setIfInBounds_toArray, List.set_cons_zero, List.set_cons_succ]
                      go_big_quiet_on
                      go_big_quiet_want
                      refine quiet_val (v := .int .i64 (t : Int)) (fun w' hC => ?_) ?_
                      · obtain ⟨z0, ⟨z1, z2, z3, z4, z5, z6⟩, y1, y2, y3, y4, y5, y6⟩ := hC
                        go_simp
                      simp only [Act.put, List.setIfInBounds_toArray, List.set_cons_zero, List.set_cons_succ]
                      go_big_quiet_on
                      go_big_quiet_want
                      refine quiet_val (v := .pointer (some ⟨g, o + t * 6, none⟩)) (fun w' hC => ?_) ?_
                      · obtain ⟨z0, ⟨z1, z2, z3, z4, z5, z6⟩, y1, y2, y3, y4, y5, y6⟩ := hC
                        go_simp
                      simp only [Act.put, List.setIfInBounds_toArray, List.set_cons_zero, List.set_cons_succ]
                      go_big_quiet_on
                      go_big_quiet_want
                      refine quiet_val (v := .pointer (some ⟨g, o + t * 6 + 1, none⟩)) (fun w' hC => ?_) ?_
                      · obtain ⟨z0, ⟨z1, z2, z3, z4, z5, z6⟩, y1, y2, y3, y4, y5, y6⟩ := hC
                        go_simp
                      simp only [Act.put, List.setIfInBounds_toArray, List.set_cons_zero, List.set_cons_succ]
                      go_big_quiet_on
                      go_big_quiet_want
                      refine quiet_val (v := .agg #[.int .i64 m4, .int .i64 b4]) (fun w' hC => ?_) ?_
                      · obtain ⟨z0, ⟨z1, z2, z3, z4, z5, z6⟩, y1, y2, y3, y4, y5, y6⟩ := hC
                        go_simp
                      simp only [Act.put, List.setIfInBounds_toArray, List.set_cons_zero, List.set_cons_succ]
                      go_big_quiet_on
                      go_big_quiet_want
                      refine quiet_val (v := .slice (some ⟨g, o, none⟩) n cap) (fun w' hC => ?_) ?_
                      · obtain ⟨z0, ⟨z1, z2, z3, z4, z5, z6⟩, y1, y2, y3, y4, y5, y6⟩ := hC
                        go_simp
                      simp only [Act.put, List.setIfInBounds_toArray, List.set_cons_zero, List.set_cons_succ]
                      go_big_quiet_on
                      go_big_quiet_want
                      refine quiet_val (v := .int .i64 (k : Int)) (fun w' hC => ?_) ?_
                      · obtain ⟨z0, ⟨z1, z2, z3, z4, z5, z6⟩, y1, y2, y3, y4, y5, y6⟩ := hC
                        go_simp
                      simp only [Act.put, List.setIfInBounds_toArray, List.set_cons_zero, List.set_cons_succ]
                      go_big_quiet_on
                      go_big_quiet_want
                      refine quiet_val (v := .pointer (some ⟨g, o + k * 6, none⟩)) (fun w' hC => ?_) ?_
                      · obtain ⟨z0, ⟨z1, z2, z3, z4, z5, z6⟩, y1, y2, y3, y4, y5, y6⟩ := hC
                        go_simp
                      simp only [Act.put, List.setIfInBounds_toArray, List.set_cons_zero, List.set_cons_succ]
                      go_big_quiet_on
                      go_big_quiet_want
                      refine quiet_val (v := .pointer (some ⟨g, o + k * 6 + 1, none⟩)) (fun w' hC => ?_) ?_
                      · obtain ⟨z0, ⟨z1, z2, z3, z4, z5, z6⟩, y1, y2, y3, y4, y5, y6⟩ := hC
                        go_simp
                      simp only [Act.put, List.setIfInBounds_toArray, List.set_cons_zero, List.set_cons_succ]
                      go_big_quiet_on
                      go_big_quiet_want
                      refine quiet_val (v := .agg #[.int .i64 m, .int .i64 b]) (fun w' hC => ?_) ?_
                      · obtain ⟨z0, ⟨z1, z2, z3, z4, z5, z6⟩, y1, y2, y3, y4, y5, y6⟩ := hC
                        go_simp
                      simp only [Act.put, List.setIfInBounds_toArray, List.set_cons_zero, List.set_cons_succ]
                      go_big_quiet_on
                      go_big_quiet_want
                      refine quiet_val (v := .bool false) (fun w' hC => ?_) ?_
                      · obtain ⟨z0, ⟨z1, z2, z3, z4, z5, z6⟩, y1, y2, y3, y4, y5, y6⟩ := hC
                        go_simp
                      simp only [Act.put, List.setIfInBounds_toArray, List.set_cons_zero, List.set_cons_succ]
                      go_big_quiet_on
                      go_big_quiet_want
                      refine quiet_val (v := .bool false) (fun w' hC => ?_) ?_
                      · obtain ⟨z0, ⟨z1, z2, z3, z4, z5, z6⟩, y1, y2, y3, y4, y5, y6⟩ := hC
                        go_simp
                      simp only [Act.put, List.setIfInBounds_toArray, List.set_cons_zero, List.set_cons_succ]
                      go_big_quiet_on
                      refine wpQuiet_nil ?_
                      intro w' hC
                      go_wp2_with fail
                      go_meet
                      case rel => exact ⟨by rw [hky], hC.1⟩
                    · have f2 : (m4 == m) = false := by simpa using e3
                      clear e2
                      have hC0 := HCE.out
                      clear e1
                      refine wp_region_quiet (C := CD w g (o + t * 6) p4 m4 b4 o4 s4 v4 g (o + k * 6) p m b q s v) (by kernel_rfl) (by kernel_rfl) (CD.later (W := wr) (Below.drew (Below.refl _ _)) hC0) ?_
                      simp only [List.toList_toArray]
                      go_big_quiet_want
                      refine quiet_val (v := .slice (some ⟨g, o, none⟩) n cap) (fun w' hC => ?_) ?_
                      · obtain ⟨z0, ⟨z1, z2, z3, z4, z5, z6⟩, y1, y2, y3, y4, y5, y6⟩ := hC
                        go_simp
                      simp only [Act.put, List.setIfInBounds_toArray, List.set_cons_zero, List.set_cons_succ]
                      go_big_quiet_on
                      go_big_quiet_want
                      refine quiet_val (v := .int .i64 (t : Int)) (fun w' hC => ?_) ?_
                      · obtain ⟨z0, ⟨z1, z2, z3, z4, z5, z6⟩, y1, y2, y3, y4, y5, y6⟩ := hC
                        go_simp
                      simp only [Act.put, List.setIfInBounds_toArray, List.set_cons_zero, List.set_cons_succ]
                      go_big_quiet_on
                      go_big_quiet_want
                      refine quiet_val (v := .pointer (some ⟨g, o + t * 6, none⟩)) (fun w' hC => ?_) ?_
                      · obtain ⟨z0, ⟨z1, z2, z3, z4, z5, z6⟩, y1, y2, y3, y4, y5, y6⟩ := hC
                        go_simp
                      simp only [Act.put, List.setIfInBounds_toArray, List.set_cons_zero, List.set_cons_succ]
                      go_big_quiet_on
                      go_big_quiet_want
                      refine quiet_val (v := .pointer (some ⟨g, o + t * 6, none⟩)) (fun w' hC => ?_) ?_
                      · obtain ⟨z0, ⟨z1, z2, z3, z4, z5, z6⟩, y1, y2, y3, y4, y5, y6⟩ := hC
                        go_simp
                      simp only [Act.put, List.setIfInBounds_toArray, List.set_cons_zero, List.set_cons_succ]
                      go_big_quiet_on
                      go_big_quiet_want
                      refine quiet_val (v := .int .i64 p4) (fun w' hC => ?_) ?_
                      · obtain ⟨z0, ⟨z1, z2, z3, z4, z5, z6⟩, y1, y2, y3, y4, y5, y6⟩ := hC
                        go_simp
                      simp only [Act.put, List.setIfInBounds_toArray, List.set_cons_zero, List.set_cons_succ]
                      go_big_quiet_on
                      go_big_quiet_want
                      refine quiet_val (v := .slice (some ⟨g, o, none⟩) n cap) (fun w' hC => ?_) ?_
                      · obtain ⟨z0, ⟨z1, z2, z3, z4, z5, z6⟩, y1, y2, y3, y4, y5, y6⟩ := hC
                        go_simp
                      simp only [Act.put, List.setIfInBounds_toArray, List.set_cons_zero, List.set_cons_succ]
                      go_big_quiet_on
                      go_big_quiet_want
                      refine quiet_val (v := .int .i64 (k : Int)) (fun w' hC => ?_) ?_
                      · obtain ⟨z0, ⟨z1, z2, z3, z4, z5, z6⟩, y1, y2, y3, y4, y5, y6⟩ := hC
                        go_simp
                      simp only [Act.put, List.setIfInBounds_toArray, List.set_cons_zero, List.set_cons_succ]
                      go_big_quiet_on
                      go_big_quiet_want
                      refine quiet_val (v := .pointer (some ⟨g, o + k * 6, none⟩)) (fun w' hC => ?_) ?_
                      · obtain ⟨z0, ⟨z1, z2, z3, z4, z5, z6⟩, y1, y2, y3, y4, y5, y6⟩ := hC
                        go_simp
                      simp only [Act.put, List.setIfInBounds_toArray, List.set_cons_zero, List.set_cons_succ]
                      go_big_quiet_on
                      go_big_quiet_want
                      refine quiet_val (v := .pointer (some ⟨g, o + k * 6, none⟩)) (fun w' hC => ?_) ?_
                      · obtain ⟨z0, ⟨z1, z2, z3, z4, z5, z6⟩, y1, y2, y3, y4, y5, y6⟩ := hC
                        go_simp
                      simp only [Act.put, List.setIfInBounds_toArray, List.set_cons_zero, List.set_cons_succ]
                      go_big_quiet_on
                      go_big_quiet_want
                      refine quiet_val (v := .int .i64 p) (fun w' hC => ?_) ?_
                      · obtain ⟨z0, ⟨z1, z2, z3, z4, z5, z6⟩, y1, y2, y3, y4, y5, y6⟩ := hC
                        go_simp
                      simp only [Act.put, List.setIfInBounds_toArray, List.set_cons_zero, List.set_cons_succ]
                      go_big_quiet_on
                      go_big_quiet_want
                      refine quiet_val (v := .bool true) (fun w' hC => ?_) ?_
                      · obtain ⟨z0, ⟨z1, z2, z3, z4, z5, z6⟩, y1, y2, y3, y4, y5, y6⟩ := hC
                        go_simp
                      simp only [Act.put, List.setIfInBounds_toArray, List.set_cons_zero, List.set_cons_succ]
                      go_big_quiet_on
                      go_big_quiet_want
                      refine quiet_val (v := .bool true) (fun w' hC => ?_) ?_
                      · obtain ⟨z0, ⟨z1, z2, z3, z4, z5, z6⟩, y1, y2, y3, y4, y5, y6⟩ := hC
                        go_simp
                      simp only [Act.put, List.setIfInBounds_toArray, List.set_cons_zero, List.set_cons_succ]
                      go_big_quiet_on
                      go_big_quiet_want
                      refine quiet_val (v := .slice (some ⟨g, o, none⟩) n cap) (fun w' hC => ?_) ?_
                      · obtain ⟨z0, ⟨z1, z2, z3, z4, z5, z6⟩, y1, y2, y3, y4, y5, y6⟩ := hC
                        go_simp
                      simp only [Act.put, List.setIfInBounds_toArray, List.set_cons_zero, List.set_cons_succ]
                      go_big_quiet_on
                      go_big_quiet_want
                      refine quiet_val (v := .int .i64 (t : Int)) (fun w' hC => ?_) ?_
                      · obtain ⟨z0, ⟨z1, z2, z3, z4, z5, z6⟩, y1, y2, y3, y4, y5, y6⟩ := hC
                        go_simp
                      simp only [Act.put, List.setIfInBounds_toArray, List.set_cons_zero, List.set_cons_succ]
                      go_big_quiet_on
                      go_big_quiet_want
                      refine quiet_val (v := .pointer (some ⟨g, o + t * 6, none⟩)) (fun w' hC => ?_) ?_
                      · obtain ⟨z0, ⟨z1, z2, z3, z4, z5, z6⟩, y1, y2, y3, y4, y5, y6⟩ := hC
                        go_simp
                      simp only [Act.put, List.setIfInBounds_toArray, List.set_cons_zero, List.set_cons_succ]
                      go_big_quiet_on
                      go_big_quiet_want
                      refine quiet_val (v := .pointer (some ⟨g, o + t * 6 + 1, none⟩)) (fun w' hC => ?_) ?_
                      · obtain ⟨z0, ⟨z1, z2, z3, z4, z5, z6⟩, y1, y2, y3, y4, y5, y6⟩ := hC
                        go_simp
                      simp only [Act.put, List.setIfInBounds_toArray, List.set_cons_zero, List.set_cons_succ]
                      go_big_quiet_on
                      go_big_quiet_want
                      refine quiet_val (v := .agg #[.int .i64 m4, .int .i64 b4]) (fun w' hC => ?_) ?_
                      · obtain ⟨z0, ⟨z1, z2, z3, z4, z5, z6⟩, y1, y2, y3, y4, y5, y6⟩ := hC
                        go_simp
                      simp only [Act.put, List.setIfInBounds_toArray, List.set_cons_zero, List.set_cons_succ]
                      go_big_quiet_on
                      go_big_quiet_want
                      refine quiet_val (v := .slice (some ⟨g, o, none⟩) n cap) (fun w' hC => ?_) ?_
                      · obtain ⟨z0, ⟨z1, z2, z3, z4, z5, z6⟩, y1, y2, y3, y4, y5, y6⟩ := hC
                        go_simp
                      simp only [Act.put, List.setIfInBounds_toArray, List.set_cons_zero, List.set_cons_succ]
                      go_big_quiet_on
                      go_big_quiet_want
                      refine quiet_val (v := .int .i64 (k : Int)) (fun w' hC => ?_) ?_
                      · obtain ⟨z0, ⟨z1, z2, z3, z4, z5, z6⟩, y1, y2, y3, y4, y5, y6⟩ := hC
                        go_simp
                      simp only [Act.put, List.setIfInBounds_toArray, List.set_cons_zero, List.set_cons_succ]
                      go_big_quiet_on
                      go_big_quiet_want
                      refine quiet_val (v := .pointer (some ⟨g, o + k * 6, none⟩)) (fun w' hC => ?_) ?_
                      · obtain ⟨z0, ⟨z1, z2, z3, z4, z5, z6⟩, y1, y2, y3, y4, y5, y6⟩ := hC
                        go_simp
                      simp only [Act.put, List.setIfInBounds_toArray, List.set_cons_zero, List.set_cons_succ]
                      go_big_quiet_on
                      go_big_quiet_want
                      refine quiet_val (v := .pointer (some ⟨g, o + k * 6 + 1, none⟩)) (fun w' hC => ?_) ?_
                      · obtain ⟨z0, ⟨z1, z2, z3, z4, z5, z6⟩, y1, y2, y3, y4, y5, y6⟩ := hC
                        go_simp
                      simp only [Act.put, List.setIfInBounds_toArray, List.set_cons_zero, List.set_cons_succ]
                      go_big_quiet_on
                      go_big_quiet_want
                      refine quiet_val (v := .agg #[.int .i64 m, .int .i64 b]) (fun w' hC => ?_) ?_
                      · obtain ⟨z0, ⟨z1, z2, z3, z4, z5, z6⟩, y1, y2, y3, y4, y5, y6⟩ := hC
                        go_simp
                      simp only [Act.put, List.setIfInBounds_toArray, List.set_cons_zero, List.set_cons_succ]
                      go_big_quiet_on
                      go_big_quiet_want
                      refine quiet_val (v := .bool false) (fun w' hC => ?_) ?_
                      · obtain ⟨z0, ⟨z1, z2, z3, z4, z5, z6⟩, y1, y2, y3, y4, y5, y6⟩ := hC
                        go_simp
                      simp only [Act.put, List.setIfInBounds_toArray, List.set_cons_zero, List.set_cons_succ]
                      go_big_quiet_on
                      go_big_quiet_want
                      refine quiet_val (v := .bool false) (fun w' hC => ?_) ?_
                      · obtain ⟨z0, ⟨z1, z2, z3, z4, z5, z6⟩, y1, y2, y3, y4, y5, y6⟩ := hC
                        go_simp
                      simp only [Act.put, List.setIfInBounds_toArray, List.set_cons_zero, List.set_cons_succ]
                      go_big_quiet_on
                      refine wpQuiet_nil ?_
                      intro w' hC
                      go_wp2_with fail
                      go_meet
                      case rel => exact ⟨by rw [hky], hC.1⟩
                · have hky : keyB ⟨p4, m4, b4, o4, s4, v4⟩ ⟨p, m, b, q, s, v⟩ = false := by rw [key_eq]; simp [e1]
                  have f1 : (p4 == p) = false := by simpa using e1
                  have hC0 := HCE.out
                  clear e1
                  refine wp_region_quiet (C := CD w g (o + t * 6) p4 m4 b4 o4 s4 v4 g (o + k * 6) p m b q s v) (by kernel_rfl) (by kernel_rfl) (CD.later (W := wr) (Below.drew (Below.refl _ _)) hC0) ?_
                  simp only [List.toList_toArray]
                  go_big_quiet_want
                  refine quiet_val (v := .slice (some ⟨g, o, none⟩) n cap) (fun w' hC => ?_) ?_
                  · obtain ⟨z0, ⟨z1, z2, z3, z4, z5, z6⟩, y1, y2, y3, y4, y5, y6⟩ := hC
                    go_simp
                  simp only [Act.put, List.setIfInBounds_toArray, List.set_cons_zero, List.set_cons_succ]
                  go_big_quiet_on
                  go_big_quiet_want
                  refine quiet_val (v := .int .i64 (t : Int)) (fun w' hC => ?_) ?_
                  · obtain ⟨z0, ⟨z1, z2, z3, z4, z5, z6⟩, y1, y2, y3, y4, y5, y6⟩ := hC
                    go_simp
                  simp only [Act.put, List.setIfInBounds_toArray, List.set_cons_zero, List.set_cons_succ]
                  go_big_quiet_on
                  go_big_quiet_want
                  refine quiet_val (v := .pointer (some ⟨g, o + t * 6, none⟩)) (fun w' hC => ?_) ?_
                  · obtain ⟨z0, ⟨z1, z2, z3, z4, z5, z6⟩, y1, y2, y3, y4, y5, y6⟩ := hC
                    go_simp
                  simp only [Act.put, List.setIfInBounds_toArray, List.set_cons_zero, List.set_cons_succ]
                  go_big_quiet_on
                  go_big_quiet_want
                  refine quiet_val (v := .pointer (some ⟨g, o + t * 6, none⟩)) (fun w' hC => ?_) ?_
                  · obtain ⟨z0, ⟨z1, z2, z3, z4, z5, z6⟩, y1, y2, y3, y4, y5, y6⟩ := hC
                    go_simp
                  simp only [Act.put, List.setIfInBounds_toArray, List.set_cons_zero, List.set_cons_succ]
                  go_big_quiet_on
                  go_big_quiet_want
                  refine quiet_val (v := .int .i64 p4) (fun w' hC => ?_) ?_
                  · obtain ⟨z0, ⟨z1, z2, z3, z4, z5, z6⟩, y1, y2, y3, y4, y5, y6⟩ := hC
                    go_simp
                  simp only [Act.put, List.setIfInBounds_toArray, List.set_cons_zero, List.set_cons_succ]
                  go_big_quiet_on
                  go_big_quiet_want
                  refine quiet_val (v := .slice (some ⟨g, o, none⟩) n cap) (fun w' hC => ?_) ?_
                  · obtain ⟨z0, ⟨z1, z2, z3, z4, z5, z6⟩, y1, y2, y3, y4, y5, y6⟩ := hC
                    go_simp
                  simp only [Act.put, List.setIfInBounds_toArray, List.set_cons_zero, List.set_cons_succ]
                  go_big_quiet_on
                  go_big_quiet_want
                  refine quiet_val (v := .int .i64 (k : Int)) (fun w' hC => ?_) ?_
                  · obtain ⟨z0, ⟨z1, z2, z3, z4, z5, z6⟩, y1, y2, y3, y4, y5, y6⟩ := hC
                    go_simp
                  simp only [Act.put, List.setIfInBounds_toArray, List.set_cons_zero, List.set_cons_succ]
                  go_big_quiet_on
                  go_big_quiet_want
                  refine quiet_val (v := .pointer (some ⟨g, o + k * 6, none⟩)) (fun w' hC => ?_) ?_
                  · obtain ⟨z0, ⟨z1, z2, z3, z4, z5, z6⟩, y1, y2, y3, y4, y5, y6⟩ := hC
                    go_simp
                  simp only [Act.put, List.setIfInBounds_toArray, List.set_cons_zero, List.set_cons_succ]
                  go_big_quiet_on
                  go_big_quiet_want
                  refine quiet_val (v := .pointer (some ⟨g, o + k * 6, none⟩)) (fun w' hC => ?_) ?_
                  · obtain ⟨z0, ⟨z1, z2, z3, z4, z5, z6⟩, y1, y2, y3, y4, y5, y6⟩ := hC
                    go_simp
                  simp only [Act.put, List.setIfInBounds_toArray, List.set_cons_zero, List.set_cons_succ]
                  go_big_quiet_on
                  go_big_quiet_want
                  refine quiet_val (v := .int .i64 p) (fun w' hC => ?_) ?_
                  · obtain ⟨z0, ⟨z1, z2, z3, z4, z5, z6⟩, y1, y2, y3, y4, y5, y6⟩ := hC
                    go_simp
                  simp only [Act.put, List.setIfInBounds_toArray, List.set_cons_zero, List.set_cons_succ]
                  go_big_quiet_on
                  go_big_quiet_want
                  refine quiet_val (v := .bool false) (fun w' hC => ?_) ?_
                  · obtain ⟨z0, ⟨z1, z2, z3, z4, z5, z6⟩, y1, y2, y3, y4, y5, y6⟩ := hC
                    go_simp
                  simp only [Act.put, List.setIfInBounds_toArray, List.set_cons_zero, List.set_cons_succ]
                  go_big_quiet_on
                  go_big_quiet_want
                  refine quiet_val (v := .bool false) (fun w' hC => ?_) ?_
                  · obtain ⟨z0, ⟨z1, z2, z3, z4, z5, z6⟩, y1, y2, y3, y4, y5, y6⟩ := hC
                    go_simp
                  simp only [Act.put, List.setIfInBounds_toArray, List.set_cons_zero, List.set_cons_succ]
                  go_big_quiet_on
                  go_big_quiet_skip
                  go_big_quiet_skip
                  go_big_quiet_skip
                  go_big_quiet_skip
                  go_big_quiet_skip
                  go_big_quiet_skip
                  go_big_quiet_skip
                  go_big_quiet_skip
                  go_big_quiet_skip
                  go_big_quiet_skip
                  go_big_quiet_skip
                  go_big_quiet_want
                  refine quiet_val (v := .bool false) (fun w' hC => ?_) ?_
                  · obtain ⟨z0, ⟨z1, z2, z3, z4, z5, z6⟩, y1, y2, y3, y4, y5, y6⟩ := hC
                    go_simp
                  simp only [Act.put, List.setIfInBounds_toArray, List.set_cons_zero, List.set_cons_succ]
                  go_big_quiet_on
                  refine wpQuiet_nil ?_
                  intro w' hC
                  go_wp2_with fail
                  go_meet
                  case rel => exact ⟨by rw [hky], hC.1⟩
            case rest =>
              obtain ⟨hc2, hB3⟩ := hcut
              clear HCE
              cases hky : keyB ⟨p4, m4, b4, o4, s4, v4⟩ ⟨p, m, b, q, s, v⟩
              · rw [hky] at hc2
                subst hc2
                go_wp2
                go_roundw
                case rel => exact ⟨t + 1, by omega, by go_num, any_nextR htl HANY.out (by rw [HLT.out]; exact hky), hB3⟩
                case measure => simp [intOf]; omega
              · rw [hky] at hc2
                subst hc2
                have HT : Hid (tbN L = 7) := to_clashF hkl HL.out HNO.out HO.out (tab_take hq htl (by rw [HLT.out]; exact hky)) (by rw [HN.out]; exact hl)
                go_wp2
                go_ret
                exact ⟨by rw [HT.out]; rfl, hB3⟩
          · obtain rfl : t = k := by omega
            clear hB2
            go_wp2
            go_roundw
            case rel => exact ⟨t + 1, by omega, by go_num, to_nextF hkl HL.out HNO.out HO.out HANY.out, HB2.out⟩
            case measure => simp [intOf]; omega
      · have HT : Hid (tbN L = ruN p m b q s v) := to_badF hkl HL.out HNO.out ho (by rw [HN.out]; exact hl)
        have ho2 : (ruN p m b q s v != 0) = true := by simpa using ho
        clear ho
        go_wp2_with fail
        refine (refRule_any _ _ _ _ _ _ _).mono ?_
        rintro e w1 ⟨rfl, hb1⟩
        have HB1 := HB.out.trans (hb1.mono HB.out.size)
        clear hb1
        go_wp2
        go_ret
        exact ⟨by rw [HT.out]; rfl, HB1⟩
    · obtain rfl : k = n := by omega
      go_wp2
      go_ret
      refine ⟨?_, HB.out⟩
      have e1 : tbN L = 0 := by
        rw [tbN, if_neg (by rw [HN.out]; omega), HN.out]
        exact HNO.out
      rw [e1]
      rfl

set_option maxHeartbeats 1000000 in
theorem refTable_long (ao : Option Addr) (cap n : Nat) (w : World) (hl : 12 < n) :
    Calls Tryz.prog 31 #[.slice ao n cap] w fun e w' => e = .returned (.int .i64 4) ∧ Below w.heap.size w w' := by
  go_enter Tryz.func31, Tryz.ntmps31
  go_wp2
  go_ret
  exact ⟨rfl, Below.refl _ _⟩

set_option maxHeartbeats 1000000 in
theorem refTable_nil (ao : Option Addr) (cap : Nat) (w : World) :
    Calls Tryz.prog 31 #[.slice ao 0 cap] w fun e w' => e = .returned (.int .i64 0) ∧ Below w.heap.size w w' := by
  go_enter Tryz.func31, Tryz.ntmps31
  go_wp2
  go_loopw [3] (fun i wr => i = .int .i64 0 ∧ wr = w) (fun i _ => 0)
  case atStart => exact ⟨rfl, rfl⟩
  case round =>
    obtain ⟨rfl, rfl⟩ := hrel
    go_wp2
    go_ret
    exact ⟨rfl, Below.refl _ _⟩

theorem refTable_any (v : Value) (L : List Ru) (w : World) (h : SR w v L) :
    Calls Tryz.prog 31 #[v] w fun e w' => e = .returned (.int .i64 (tbN L)) ∧ Below w.heap.size w w' := by
  rcases h with ⟨ao, cap, rfl, rfl⟩ | ⟨g, o, cap, rfl, h1, h2, hc⟩
  · exact refTable_nil ao cap w
  · by_cases h12 : 12 < L.length
    · have e : tbN L = 4 := by simp [tbN, h12]
      rw [e]; exact refTable_long _ _ _ _ h12
    · exact refTable_some _ _ _ _ L w hc rfl (by omega)
end Go.Proofs.YtpmcjelihdlfeaaGreatDoor
