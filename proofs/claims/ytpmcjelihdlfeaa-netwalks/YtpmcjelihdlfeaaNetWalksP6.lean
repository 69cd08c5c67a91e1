/- Contracts and facts on the way to NetWalks, joined into one text: NetFollow, NetPacket, NetFrom, TopoWhere, NetSend, NetWalksMath. -/
import Derived.Test.YtpmcjelihdlfeaaNetWalksP5
import Derived.Test.YtpmcjelihdlfeaaNetWalksP4
import Derived.Test.YtpmcjelihdlfeaaNetWalksP2
import Derived.Test.YtpmcjelihdlfeaaNetWalksP3
import Derived.BigRegion
import Derived.Deep.RegionWith
import Derived.Deep.RegionHeld3
import Derived.Deep.CutRange
import Derived.Deep.CutBlock
/- What net.follow answers: a contract for the walks above it. -/
namespace Go.Proofs.Ytpmcjelihdlfeaa
open Go.RowKit
set_option linter.unusedSimpArgs false
set_option linter.unusedVariables false

/-- The boxes: a net, a hop, the answer's. -/
def fbox (w : World) (S : Int) (v1 v2 v3 : Value) (x y h : Int) : World := ((w.alloc (Obj.cells #[.int .i64 S, v1, v2, v3] 28)).alloc (Obj.cells #[.int .i64 x, .int .i64 y, .int .i64 h] 48)).alloc (Obj.cells #[.int .i64 0, .string ⟨#[]⟩, .slice none 0 0] 41)
structure FBox (w W : World) (S : Int) (v1 v2 v3 : Value) (x y h : Int) : Prop where
  below : Below w.heap.size w W
  n : NeBox W w.heap.size S v1 v2 v3
  i0 : W.cell? ⟨w.heap.size + 1, 0, none⟩ = some (.int .i64 x)
  i1 : W.cell? ⟨w.heap.size + 1, 1, none⟩ = some (.int .i64 y)
  i2 : W.cell? ⟨w.heap.size + 1, 2, none⟩ = some (.int .i64 h)
  r0 : W.cell? ⟨w.heap.size + 1 + 1, 0, none⟩ = some (.int .i64 0)
  r1 : W.cell? ⟨w.heap.size + 1 + 1, 1, none⟩ = some (.string ⟨#[]⟩)
  r2 : W.cell? ⟨w.heap.size + 1 + 1, 2, none⟩ = some (.slice none 0 0)
  f : ∀ i, W.frozen? ⟨w.heap.size + 1 + 1, i, none⟩ = false
theorem fbox_new (w : World) (S : Int) (v1 v2 v3 : Value) (x y h : Int) : FBox w (fbox w S v1 v2 v3 x y h) S v1 v2 v3 x y h := by
  have e1 : (w.alloc (Obj.cells #[.int .i64 S, v1, v2, v3] 28)).heap.size = w.heap.size + 1 := by simp
  have e2 : ((w.alloc (Obj.cells #[.int .i64 S, v1, v2, v3] 28)).alloc (Obj.cells #[.int .i64 x, .int .i64 y, .int .i64 h] 48)).heap.size = w.heap.size + 1 + 1 := by simp
  have hb : ∀ (W : World) (o : Obj), Below W.heap.size W (W.alloc o) := fun W o => (Below.refl _ _).alloc (Nat.le_refl _) _
  have hs := (vat_new (w.alloc (Obj.cells #[.int .i64 S, v1, v2, v3] 28)) [.int .i64 x, .int .i64 y, .int .i64 h] 48).later (hb _ (Obj.cells #[.int .i64 0, .string ⟨#[]⟩, .slice none 0 0] 41))
  rw [e1] at hs
  have hr := vat_new ((w.alloc (Obj.cells #[.int .i64 S, v1, v2, v3] 28)).alloc (Obj.cells #[.int .i64 x, .int .i64 y, .int .i64 h] 48)) [.int .i64 0, .string ⟨#[]⟩, .slice none 0 0] 41
  rw [e2] at hr
  have hf : ∀ k, (fbox w S v1 v2 v3 x y h).frozen? ⟨((w.alloc (Obj.cells #[.int .i64 S, v1, v2, v3] 28)).alloc (Obj.cells #[.int .i64 x, .int .i64 y, .int .i64 h] 48)).heap.size, k, none⟩ = false := fun k => by
    unfold fbox
    generalize (w.alloc (Obj.cells #[.int .i64 S, v1, v2, v3] 28)).alloc (Obj.cells #[.int .i64 x, .int .i64 y, .int .i64 h] 48) = X
    simp
  rw [e2] at hf
  exact ⟨(((Below.refl _ _).alloc (Nat.le_refl _) _).alloc (by rw [e1]; omega) _).alloc (by rw [e2]; omega) _, ((nebox_new w S v1 v2 v3 28).later (hb _ _)).later (hb _ _), hs 0 _ rfl, hs 1 _ rfl, hs 2 _ rfl, hr 0 _ rfl, hr 1 _ rfl, hr 2 _ rfl, hf⟩
theorem FBox.lt {w W : World} {S : Int} {v1 v2 v3 : Value} {x y h : Int} (k : FBox w W S v1 v2 v3 x y h) : w.heap.size + 3 ≤ W.heap.size := World.block_lt_of_cell? W ⟨w.heap.size + 1 + 1, 0, none⟩ k.r0
theorem FBox.later {w W W' : World} {S : Int} {v1 v2 v3 : Value} {x y h : Int} (k : FBox w W S v1 v2 v3 x y h) {B : Nat} (hB : w.heap.size + 3 ≤ B) (hb : Below B W W') : FBox w W' S v1 v2 v3 x y h :=
  have hc : ∀ (g i : Nat) (x : Value), g < w.heap.size + 3 → W.cell? ⟨g, i, none⟩ = some x → W'.cell? ⟨g, i, none⟩ = some x := fun g i x hg e => (hb.cell (p := ⟨g, i, none⟩) (show g < B by omega)).trans e
  ⟨k.below.trans (hb.mono (by omega)), ⟨hc _ _ _ (by omega) k.n.1, hc _ _ _ (by omega) k.n.2.1, hc _ _ _ (by omega) k.n.2.2.1, hc _ _ _ (by omega) k.n.2.2.2⟩, hc _ _ _ (by omega) k.i0, hc _ _ _ (by omega) k.i1, hc _ _ _ (by omega) k.i2, hc _ _ _ (by omega) k.r0, hc _ _ _ (by omega) k.r1, hc _ _ _ (by omega) k.r2, fun i => (hb.frozen (p := ⟨w.heap.size + 1 + 1, i, none⟩) (show w.heap.size + 1 + 1 < B by omega)).trans (k.f i)⟩

theorem ballocD {w w' : World} {a b c : Value} {t : TypeId} (hb : Below (w.drew.alloc (Obj.cells #[a, b, c] t)).heap.size (w.drew.alloc (Obj.cells #[a, b, c] t)) w') : (w'.cell? ⟨w.heap.size, 0, none⟩ = some a ∧ w'.cell? ⟨w.heap.size, 1, none⟩ = some b ∧ w'.cell? ⟨w.heap.size, 2, none⟩ = some c) ∧ w'.frozen? ⟨w.heap.size, 0, none⟩ = false ∧ w'.frozen? ⟨w.heap.size, 1, none⟩ = false ∧ w'.frozen? ⟨w.heap.size, 2, none⟩ = false := by
  have h := vat_new w.drew [a, b, c] t
  have hl : w.heap.size < (w.drew.alloc (Obj.cells #[a, b, c] t)).heap.size := by simp
  exact ⟨⟨cell_later hb (h 0 _ rfl), cell_later hb (h 1 _ rfl), cell_later hb (h 2 _ rfl)⟩, (hb.frozen (p := ⟨w.heap.size, 0, none⟩) hl).trans (froz_new2 w.drew #[a, b, c] t 0), (hb.frozen (p := ⟨w.heap.size, 1, none⟩) hl).trans (froz_new2 w.drew #[a, b, c] t 1), (hb.frozen (p := ⟨w.heap.size, 2, none⟩) hl).trans (froz_new2 w.drew #[a, b, c] t 2)⟩
/-- Three cells of one block are set. -/
def put3 (W : World) (g : Nat) (u v x : Value) : World := ((W.setCell ⟨g, 0, none⟩ u).setCell ⟨g, 1, none⟩ v).setCell ⟨g, 2, none⟩ x
theorem put3_cells {W : World} {g : Nat} {a b c u v x : Value} (k : W.cell? ⟨g, 0, none⟩ = some u ∧ W.cell? ⟨g, 1, none⟩ = some v ∧ W.cell? ⟨g, 2, none⟩ = some x) : (put3 W g a b c).cell? ⟨g, 0, none⟩ = some a ∧ (put3 W g a b c).cell? ⟨g, 1, none⟩ = some b ∧ (put3 W g a b c).cell? ⟨g, 2, none⟩ = some c := by
  unfold put3
  have h1 : (W.setCell ⟨g, 0, none⟩ a).cell? ⟨g, 1, none⟩ = some v := by
    rw [World.cell?_setCell_other _ _ _ _ (by simp)]
    exact k.2.1
  have h2 : ((W.setCell ⟨g, 0, none⟩ a).setCell ⟨g, 1, none⟩ b).cell? ⟨g, 2, none⟩ = some x := by
    rw [World.cell?_setCell_other _ _ _ _ (by simp), World.cell?_setCell_other _ _ _ _ (by simp)]
    exact k.2.2
  refine ⟨?_, ?_, World.cell?_setCell_same _ _ _ h2⟩
  · rw [World.cell?_setCell_other _ _ _ _ (by simp), World.cell?_setCell_other _ _ _ _ (by simp)]
    exact World.cell?_setCell_same _ _ _ k.1
  · rw [World.cell?_setCell_other _ _ _ _ (by simp)]
    exact World.cell?_setCell_same _ _ _ h1
theorem below_put3 {B : Nat} {w W : World} (h : Below B w W) (g : Nat) (hg : B ≤ g) (u v x : Value) : Below B w (put3 W g u v x) := ((h.setCell (p := ⟨g, 0, none⟩) hg u).setCell (p := ⟨g, 1, none⟩) hg v).setCell (p := ⟨g, 2, none⟩) hg x
theorem own_put3 {W : World} {B e size n : Nat} {v : Value} {xs : List Value} (h : W.ownsRow B e size v n xs) (g : Nat) (hg : g < B) (a b c : Value) : (put3 W g a b c).ownsRow B e size v n xs := ownsRow_setCell_below (ownsRow_setCell_below (ownsRow_setCell_below h hg _) hg _) hg _
theorem hop_in {x y h : Int} {p : (Int × Int) × Int} (e : p = ((x, y), h)) : p.1.1 = x ∧ p.1.2 = y ∧ p.2 = h := by
  subst e
  exact ⟨rfl, rfl, rfl⟩
/-- A leg lies in these cells. -/
def LAt (W : World) (g : Nat) (a : Int) (b : ByteArray) (c d e : Int) : Prop := W.cell? ⟨g, 0, none⟩ = some (.int .i64 a) ∧ W.cell? ⟨g, 1, none⟩ = some (.string b) ∧ W.cell? ⟨g, 2, none⟩ = some (.int .i64 c) ∧ W.cell? ⟨g, 3, none⟩ = some (.int .i64 d) ∧ W.cell? ⟨g, 4, none⟩ = some (.int .i64 e)
theorem lat_of {W : World} {g : Nat} {a : Int} {b : ByteArray} {c d e : Int} (h0 : W.cell? ⟨g, 0, none⟩ = some (.int .i64 a)) (h1 : W.cell? ⟨g, 1, none⟩ = some (.string b)) (h2 : W.cell? ⟨g, 2, none⟩ = some (.int .i64 c)) (h3 : W.cell? ⟨g, 3, none⟩ = some (.int .i64 d)) (h4 : W.cell? ⟨g, 4, none⟩ = some (.int .i64 e)) : LAt W g a b c d e := ⟨h0, h1, h2, h3, h4⟩
theorem LAt.later {W W' : World} {g : Nat} {a : Int} {b : ByteArray} {c d e : Int} (h : LAt W g a b c d e) (hb : Below W.heap.size W W') : LAt W' g a b c d e := ⟨cell_later hb h.1, cell_later hb h.2.1, cell_later hb h.2.2.1, cell_later hb h.2.2.2.1, cell_later hb h.2.2.2.2⟩
theorem lat_new (W : World) (a : Int) (b : ByteArray) (c d e : Int) (t : TypeId) : LAt (W.alloc (Obj.cells #[.int .i64 a, .string b, .int .i64 c, .int .i64 d, .int .i64 e] t)) W.heap.size a b c d e :=
  have h := vat_new W [.int .i64 a, .string b, .int .i64 c, .int .i64 d, .int .i64 e] t
  ⟨h 0 _ rfl, h 1 _ rfl, h 2 _ rfl, h 3 _ rfl, h 4 _ rfl⟩
theorem lat_put5 {W : World} {g : Nat} {a' : Int} {b' : ByteArray} {c' d' e' : Int} (k : LAt W g a' b' c' d' e') (a : Int) (b : ByteArray) (c d e : Int) : LAt (put5 W g (.int .i64 a) (.string b) (.int .i64 c) (.int .i64 d) (.int .i64 e)) g a b c d e := by
  obtain ⟨k0, k1, k2, k3, k4⟩ := k
  unfold put5
  have o : ∀ (W : World) (i j : Nat) (x : Value), i ≠ j → (W.setCell ⟨g, i, none⟩ x).cell? ⟨g, j, none⟩ = W.cell? ⟨g, j, none⟩ := fun W i j x h => World.cell?_setCell_other _ _ _ _ (by intro e; exact h (by injection e))
  refine ⟨?_, ?_, ?_, ?_, ?_⟩
  · rw [o _ _ _ _ (by decide), o _ _ _ _ (by decide), o _ _ _ _ (by decide), o _ _ _ _ (by decide)]; exact World.cell?_setCell_same _ _ _ k0
  · rw [o _ _ _ _ (by decide), o _ _ _ _ (by decide), o _ _ _ _ (by decide)]; exact World.cell?_setCell_same _ _ _ (by rw [o _ _ _ _ (by decide)]; exact k1)
  · rw [o _ _ _ _ (by decide), o _ _ _ _ (by decide)]; exact World.cell?_setCell_same _ _ _ (by rw [o _ _ _ _ (by decide), o _ _ _ _ (by decide)]; exact k2)
  · rw [o _ _ _ _ (by decide)]; exact World.cell?_setCell_same _ _ _ (by rw [o _ _ _ _ (by decide), o _ _ _ _ (by decide), o _ _ _ _ (by decide)]; exact k3)
  · exact World.cell?_setCell_same _ _ _ (by rw [o _ _ _ _ (by decide), o _ _ _ _ (by decide), o _ _ _ _ (by decide), o _ _ _ _ (by decide)]; exact k4)
theorem below_5 {B : Nat} {w W : World} (h : Below B w W) (g : Nat) (hg : B ≤ g) (a b c d e : Value) : Below B w (((((W.setCell ⟨g, 0, none⟩ a).setCell ⟨g, 1, none⟩ b).setCell ⟨g, 2, none⟩ c).setCell ⟨g, 3, none⟩ d).setCell ⟨g, 4, none⟩ e) := below_put5 h g hg a b c d e
theorem lat_5 {W : World} {g : Nat} {a' : Int} {b' : ByteArray} {c' d' e' : Int} (k : LAt W g a' b' c' d' e') (a : Int) (b : ByteArray) (c d e : Int) : LAt (((((W.setCell ⟨g, 0, none⟩ (.int .i64 a)).setCell ⟨g, 1, none⟩ (.string b)).setCell ⟨g, 2, none⟩ (.int .i64 c)).setCell ⟨g, 3, none⟩ (.int .i64 d)).setCell ⟨g, 4, none⟩ (.int .i64 e)) g a b c d e := lat_put5 k a b c d e
/-- An empty leg in its box. -/
def ZL (W : World) (g : Nat) : Prop := LAt W g 0 ⟨#[]⟩ 0 0 0 ∧ ∀ i, W.frozen? ⟨g, i, none⟩ = false
theorem ZL.lt {W : World} {g : Nat} (h : ZL W g) : g < W.heap.size := World.block_lt_of_cell? W ⟨g, 0, none⟩ h.1.1
theorem ZL.later {W W' : World} {g : Nat} (h : ZL W g) (hb : Below W.heap.size W W') : ZL W' g := ⟨h.1.later hb, fun i => (hb.frozen (p := ⟨g, i, none⟩) h.lt).trans (h.2 i)⟩
theorem zl_new (W : World) (t : TypeId) : ZL (W.alloc (Obj.cells #[.int .i64 0, .string ⟨#[]⟩, .int .i64 0, .int .i64 0, .int .i64 0] t)) W.heap.size := ⟨lat_new W 0 ⟨#[]⟩ 0 0 0 t, froz_new2 W _ t⟩
theorem zl_a {W W' : World} {t : TypeId} (hb : Below (W.alloc (Obj.cells #[.int .i64 0, .string ⟨#[]⟩, .int .i64 0, .int .i64 0, .int .i64 0] t)).heap.size (W.alloc (Obj.cells #[.int .i64 0, .string ⟨#[]⟩, .int .i64 0, .int .i64 0, .int .i64 0] t)) W') : ZL W' W.heap.size := (zl_new W t).later hb
theorem zl_d {W W' : World} {t : TypeId} (hb : Below (W.drew.alloc (Obj.cells #[.int .i64 0, .string ⟨#[]⟩, .int .i64 0, .int .i64 0, .int .i64 0] t)).heap.size (W.drew.alloc (Obj.cells #[.int .i64 0, .string ⟨#[]⟩, .int .i64 0, .int .i64 0, .int .i64 0] t)) W') : ZL W' W.heap.size := (zl_new W.drew t).later hb

def sliL : Value → Nat
  | .slice _ n _ => n
  | _ => 0

set_option maxHeartbeats 8000000 in
set_option maxRecDepth 100000 in
theorem follow_any (S : Int) (ao : Option Addr) (n cap : Nat) (ao2 : Option Addr) (n2 cap2 : Nat) (ao3 : Option Addr) (n3 cap3 : Nat) (Ls : List ((Int × Int) × (Int × Int))) (Hs : List (ByteArray × (Int × Int))) (Ts : List (List Ru)) (x y h : Int) (w : World)
    (hL : GS lnkE w (.slice ao n cap) Ls) (hH : GS hstE w (.slice ao2 n2 cap2) Hs) (hT : TS w (.slice ao3 n3 cap3) Ts) (hN : ntN S Ls Hs Ts = 0) (hx : spB S (x, y) = true) :
    Calls Try.prog 11 #[.agg #[.int .i64 S, .slice ao n cap, .slice ao2 n2 cap2, .slice ao3 n3 cap3], .agg #[.int .i64 x, .int .i64 y, .int .i64 h]] w fun e w' => ∃ ao4 n4 cap4, e = .returned (.agg #[.int .i64 (frF Ls Hs Ts (x, y) h).1, .string (frF Ls Hs Ts (x, y) h).2.1, .slice ao4 n4 cap4]) ∧ w'.ownsRow w.heap.size 48 3 (.slice ao4 n4 cap4) (frF Ls Hs Ts (x, y) h).2.2.length (cellsG hopE (frF Ls Hs Ts (x, y) h).2.2) ∧ Below w.heap.size w w' := by
  obtain ⟨hTP, hTL, hTT⟩ := nt_0 hN
  have hS := (tp_0 hTP).1
  have hnd := (tp_0 hTP).2.2.2.1
  have hTn := hT.len
  have hLn := hL.len
  have hl2 := (tp_0 hTP).2.1
  have HTP : Hid (tpN S Ls Hs = 0) := hTP
  have HND : Hid ((spsL Ls).Nodup) := hnd
  have HN1 : Hid (n ≤ 1000) := by show _ ≤ _; omega
  have HTT : Hid (∀ k, k < Ts.length → tbN (Ts.getD k []) = 0) := hTT
  have H36 : Hid (n3 ≤ 6) := by show _ ≤ _; omega
  have H3S : Hid ((n3 : Int) = S) := by show _ = _; omega
  have HLW : Hid (∀ W, Below w.heap.size w W → GS lnkE W (.slice ao n cap) Ls) := fun W hb => hL.later hb
  have HHW : Hid (∀ W, Below w.heap.size w W → GS hstE W (.slice ao2 n2 cap2) Hs) := fun W hb => hH.later hb
  have HTW : Hid (∀ W, Below w.heap.size w W → TS W (.slice ao3 n3 cap3) Ts) := fun W hb => hT.later hb
  obtain ⟨F, hF⟩ : ∃ F, F = frF Ls Hs Ts (x, y) h := ⟨_, rfl⟩
  have HF : Hid (F = foF Ls Hs Ts 24 [((x, y), h)]) := hF
  rw [← hF]
  have hX := fbox_new w S (.slice ao n cap) (.slice ao2 n2 cap2) (.slice ao3 n3 cap3) x y h
  obtain ⟨w0, hw0⟩ : ∃ W, W = fbox w S (.slice ao n cap) (.slice ao2 n2 cap2) (.slice ao3 n3 cap3) x y h := ⟨_, rfl⟩
  rw [← hw0] at hX
  have HX : Hid (FBox w w0 S (.slice ao n cap) (.slice ao2 n2 cap2) (.slice ao3 n3 cap3) x y h) := hX
  have HW0 : Hid (((w.alloc (Obj.cells #[.int .i64 S, .slice ao n cap, .slice ao2 n2 cap2, .slice ao3 n3 cap3] 28)).alloc (Obj.cells #[.int .i64 x, .int .i64 y, .int .i64 h] 48)).alloc (Obj.cells #[.int .i64 0, .string ⟨#[]⟩, .slice none 0 0] 41) = w0) := hw0.symm
  have HXX : Hid (spB S (x, y) = true) := hx
  clear hL hH hT hN hTP hTL hTT hS hnd hTn hLn hl2 hF hX hw0 hx
  go_enter Try.func11, Try.ntmps11
  go_upto_region 1 with fail
  rw [HW0.out]
  obtain ⟨_, ⟨b0, b1, b2, b3⟩, i0, i1, i2, r0, r1, r2, f⟩ := HX.out
  clear HW0 f
  go_wp2_with fail
  refine (peers_any ao n cap Ls _ (HLW.out _ HX.out.below) HND.out HN1.out).mono ?_
  rintro e w1 ⟨B, M, rfl, hM, hPM, hb1⟩
  have HM : Hid (MAt spotKey veS w1 B M) := hM
  have HPM : Hid (PM M Ls) := hPM
  have HX1 : Hid (FBox w w1 S (.slice ao n cap) (.slice ao2 n2 cap2) (.slice ao3 n3 cap3) x y h) := HX.out.later HX.out.lt hb1
  have hlB : B < w1.heap.size := hM.lt
  obtain ⟨_, ⟨b0, b1, b2, b3⟩, i0, i1, i2, r0, r1, r2, f⟩ := HX1.out
  clear f hM hPM hb1 HX
  go_wp2
  have HLW1 : Hid (w.heap.size + 3 ≤ w1.heap.size) := HX1.out.lt
  have HO1 : Hid ((w1.alloc (Obj.cells #[.int .i64 x, .int .i64 y, .int .i64 h] 48)).ownsRow w1.heap.size 48 3 (.slice (some ⟨w1.heap.size, 0, none⟩) 1 1) ([((x, y), h)] : List ((Int × Int) × Int)).length (cellsG hopE [((x, y), h)])) :=
    World.ownsRow_lit (base := w1.heap.size) (e := 48) (size := 3) w1 #[.int .i64 x, .int .i64 y, .int .i64 h] 1 (Nat.le_refl _) (by decide) rfl
  clear b0 b1 b2 b3 i0 i1 i2 r0 r1 r2
  go_loopw [6] (fun v wr => ∃ l : List ((Int × Int) × Int), (0 < l.length ∧ l.length ≤ 24) ∧ wr.ownsRow w1.heap.size 48 3 v l.length (cellsG hopE l) ∧ F = foF Ls Hs Ts (25 - l.length) l ∧ spB S (laH l).1 = true ∧ Below w1.heap.size w1 wr) (fun v _ => 25 - sliL v)
  case atStart => exact ⟨[((x, y), h)], by simp, HO1.out, HF.out, HXX.out, (Below.refl _ _).alloc (Nat.le_refl _) _⟩
  case round =>
    obtain ⟨l, ⟨hl0, hl24⟩, hown, hFl, hsp, hBr⟩ := hrel
    obtain ⟨ao5, cap5, rfl⟩ := own_form hown
    obtain ⟨wo, hwo⟩ : ∃ X, X = wr := ⟨_, rfl⟩
    subst hwo
    obtain ⟨m, hm⟩ : ∃ m, m = l.length := ⟨_, rfl⟩
    have HML : Hid (l.length = m) := hm.symm
    rw [← hm] at hown hl0 hl24 hFl
    rw [← hm]
    have HOWN : Hid (wo.ownsRow w1.heap.size 48 3 (.slice ao5 m cap5) m (cellsG hopE l)) := hown
    have HFL : Hid (F = foF Ls Hs Ts (25 - l.length) l) := by
      show _ = _
      rw [← hm]
      exact hFl
    have HL24 : Hid (l.length ≤ 24) := by
      show _ ≤ _
      omega
    have HBr : Hid (Below w1.heap.size w1 wo) := hBr
    have HXo : Hid (FBox w wo S (.slice ao n cap) (.slice ao2 n2 cap2) (.slice ao3 n3 cap3) x y h) := HX1.out.later HX1.out.lt hBr
    have HMo : Hid (MAt spotKey veS wo B M) := HM.out.later hBr
    obtain ⟨_, _, _, e5, hGn, hGm, _, hGa⟩ := (own_GS (E := hopE) (L := l) (by rw [← hm]; exact hown) : GS hopE wo (.slice ao5 m cap5) l).form
    cases e5
    obtain ⟨g5, o5, hao5, hc5, _⟩ := hGa hl0
    subst hao5
    obtain ⟨p0, p1, p2, hkl, hLk, c0, c1, c2⟩ := hop_at hc5 HML.out (show m - 1 < m by omega)
    have hla : laH l = ((p0, p1), p2) := by
      have e : laH l = l[m - 1] := by
        unfold laH
        rw [← hm]
        simp [List.getD, hkl]
      rw [e, hLk]
    have HLA : Hid (laH l = ((p0, p1), p2)) := hla
    rw [hla] at hsp
    have hsp2 := sp_of hsp
    simp only at hsp2
    have HS1 : Hid (1 ≤ p0) := hsp2.1
    have HS2 : Hid (p0 ≤ (n3 : Int)) := by
      show _ ≤ _
      rw [H3S.out]
      exact hsp2.2.1
    obtain ⟨G0, hG0⟩ : ∃ G, G = lgT Ls Hs (taT Ts p0) ((p0, p1), p2) := ⟨_, rfl⟩
    obtain ⟨G, hG⟩ : ∃ G, G = afL G0 l := ⟨_, rfl⟩
    have HGL : Hid (G = afL (lgT Ls Hs (taT Ts (laH l).1.1) (laH l)) l) := by
      show _ = _
      rw [hG, hG0, hla]
    have HGN : Hid (G.2.1.size ≤ 1000000) := by
      show _ ≤ _
      rw [hG, hG0]
      exact af_name (lg_name HTP.out _ _)
    have HLEG : Hid (∀ W, Below wo.heap.size wo W → Calls Try.prog 20 #[.agg #[.int .i64 S, .slice ao n cap, .slice ao2 n2 cap2, .slice ao3 n3 cap3], .map (some B), .agg #[.int .i64 p0, .int .i64 p1, .int .i64 p2]] W fun e w' => e = .returned (legV G0) ∧ Below W.heap.size W w') := fun W hW => by
      have hx := HXo.out.below.trans (hW.mono HXo.out.below.size)
      rw [hG0]
      exact leg_any S ao n cap ao2 n2 cap2 ao3 n3 cap3 Ls Hs Ts B M p0 p1 p2 W (HHW.out W hx) (HTW.out W hx) (HMo.out.later hW) HPM.out HTT.out HS1.out HS2.out H36.out
    have HAFT : Hid (∀ W, Below wo.heap.size wo W → Calls Try.prog 21 #[legV G0, .slice (some ⟨g5, o5, none⟩) m cap5] W fun e w' => e = .returned (legV G) ∧ Below W.heap.size W w') := fun W hW => by
      rw [hG]
      exact after_any G0 (some ⟨g5, o5, none⟩) m cap5 l W ((own_GS (E := hopE) (L := l) (by rw [HML.out]; exact HOWN.out) : GS hopE wo (.slice (some ⟨g5, o5, none⟩) m cap5) l).later hW)
    clear hG hG0
    obtain ⟨a0, a1, ⟨a2, a3⟩, a4⟩ := G0
    obtain ⟨k0, k1, ⟨k2, k3⟩, k4⟩ := G
    unfold legV at HLEG HAFT
    dsimp only at HLEG HAFT HGN
    have hmi : IntKind.i64.wrap ((m : Int) - 1) = ((m - 1 : Nat) : Int) := by
      rw [show (m : Int) - 1 = ((m - 1 : Nat) : Int) by omega]
      exact wrap_small (by omega) (by omega)
    have mb0 : (0 : Int) ≤ ((m - 1 : Nat) : Int) := by omega
    have mb1 : ((m - 1 : Nat) : Int) < (m : Int) := by omega
    obtain ⟨_, ⟨b0, b1, b2, b3⟩, i0, i1, i2, r0, r1, r2, f⟩ := HXo.out
    have hlw : w.heap.size < wo.heap.size := World.block_lt_of_cell? _ _ b0
    have hlg : g5 < wo.heap.size := World.block_lt_of_cell? _ _ c0
    have HSW : Hid (∀ W, Below wo.heap.size wo W → W.cell? ⟨w.heap.size, 0, none⟩ = some (.int .i64 S) ∧ W.cell? ⟨w.heap.size, 1, none⟩ = some (.slice ao n cap) ∧ W.cell? ⟨w.heap.size, 2, none⟩ = some (.slice ao2 n2 cap2) ∧ W.cell? ⟨w.heap.size, 3, none⟩ = some (.slice ao3 n3 cap3) ∧ W.cell? ⟨g5, o5 + (m - 1) * 3, none⟩ = some (.int .i64 p0) ∧ W.cell? ⟨g5, o5 + (m - 1) * 3 + 1, none⟩ = some (.int .i64 p1) ∧ W.cell? ⟨g5, o5 + (m - 1) * 3 + 2, none⟩ = some (.int .i64 p2)) := fun W hW => ⟨cell_later hW b0, cell_later hW b1, cell_later hW b2, cell_later hW b3, cell_later hW c0, cell_later hW c1, cell_later hW c2⟩
    clear hown hFl hsp hBr hm hGn hGm hGa hc5 hLk hla hsp2 f HO1 HF HXX HX1 HM i0 i1 i2 r0 r1 r2
    go_upto_region 3 with fail
    go_cut [7] from 14 to 39 (fun p w' => ∃ g, p = .pointer (some ⟨g, 0, none⟩) ∧ (LAt w' g k0 k1 k2 k3 k4 ∧ wo.heap.size ≤ g) ∧ Below wo.heap.size wo w')
    case first =>
      go_region_held3 (fun W => W.cell? ⟨w.heap.size, 0, none⟩ = some (.int .i64 S) ∧ W.cell? ⟨w.heap.size, 1, none⟩ = some (.slice ao n cap) ∧ W.cell? ⟨w.heap.size, 2, none⟩ = some (.slice ao2 n2 cap2) ∧ W.cell? ⟨w.heap.size, 3, none⟩ = some (.slice ao3 n3 cap3) ∧ W.cell? ⟨g5, o5 + (m - 1) * 3, none⟩ = some (.int .i64 p0) ∧ W.cell? ⟨g5, o5 + (m - 1) * 3 + 1, none⟩ = some (.int .i64 p1) ∧ W.cell? ⟨g5, o5 + (m - 1) * 3 + 2, none⟩ = some (.int .i64 p2))
        (first | (with_reducible assumption) | (with_reducible exact HSW.out _ (Below.drew (Below.refl _ _))) | (with_reducible exact HSW.out _ ((Below.drew (Below.refl _ _)).alloc (Nat.le_refl _) _)) | (with_reducible exact HSW.out _ ((Below.refl _ _).alloc (Nat.le_refl _) _).drew) | (with_reducible exact HSW.out _ HBX.out) | (with_reducible exact HSW.out _ (HBX.out.alloc HBX.out.size _)) | (with_reducible exact HSW.out _ HBY.out) | (with_reducible exact HSW.out _ (HBY.out.alloc HBY.out.size _)) | (with_reducible exact HSW.out _ (below_5 HBY.out _ (Nat.le_refl _) _ _ _ _ _)) | (with_reducible exact HSW.out _ (below_5 HBY.out _ HBX.out.size _ _ _ _ _)))
        (first
          | (go_at_call 20; refine (HLEG.out _ (by first | exact Below.drew (Below.refl _ _) | exact (Below.drew (Below.refl _ _)).alloc (Nat.le_refl _) _)).mono ?_; rintro e w' ⟨rfl, hb⟩; have HBX : Hid (Below wo.heap.size wo w') := (by first | exact bdrew hb | exact balloc hb); (try (have HZ : Hid (ZL w' wo.heap.size) := zl_d hb)); clear hb)
          | (go_at_call 21; refine (HAFT.out _ (by first | exact HBX.out | exact HBX.out.alloc HBX.out.size _)).mono ?_; rintro e w'' ⟨rfl, hb⟩; have HBY : Hid (Below wo.heap.size wo w'') := (by first | exact HBX.out.trans (hb.mono HBX.out.size) | exact (HBX.out.alloc HBX.out.size _).trans (hb.mono (HBX.out.alloc HBX.out.size _).size)); (try (have hbc := HZ.out.later hb; obtain ⟨⟨y0, y1, y2, y3, y4⟩, yf⟩ := hbc; have yf0 := yf 0; have yf1 := yf 1; have yf2 := yf 2; have yf3 := yf 3; have yf4 := yf 4; clear yf)); (try (have hbc := zl_a hb; obtain ⟨⟨y0, y1, y2, y3, y4⟩, yf⟩ := hbc; have yf0 := yf 0; have yf1 := yf 1; have yf2 := yf 2; have yf3 := yf 3; have yf4 := yf 4; clear yf)); clear hb))
      all_goals (go_wp2_with fail; go_meet)
      all_goals refine ⟨_, rfl, ?_⟩
      all_goals first
        | (with_reducible exact ⟨⟨lat_new _ _ _ _ _ _ _, HBY.out.size⟩, HBY.out.alloc HBY.out.size _⟩)
        | (with_reducible exact ⟨⟨lat_5 (lat_of y0 y1 y2 y3 y4) _ _ _ _ _, Nat.le_refl _⟩, below_5 HBY.out _ (Nat.le_refl _) _ _ _ _ _⟩)
        | (with_reducible exact ⟨⟨lat_5 (lat_of y0 y1 y2 y3 y4) _ _ _ _ _, HBX.out.size⟩, below_5 HBY.out _ HBX.out.size _ _ _ _ _⟩)
    case rest =>
      obtain ⟨g, rfl, ⟨⟨d0, d1, d2, d3, d4⟩, hgo⟩, hbw⟩ := hcut
      have HXc : Hid (FBox w wc S (.slice ao n cap) (.slice ao2 n2 cap2) (.slice ao3 n3 cap3) x y h) := HXo.out.later HXo.out.lt hbw
      have HOc : Hid (wc.ownsRow w1.heap.size 48 3 (.slice (some ⟨g5, o5, none⟩) m cap5) m (cellsG hopE l)) := own_below HOWN.out hbw
      have HBc : Hid (Below w1.heap.size w1 wc) := HBr.out.trans (hbw.mono HBr.out.size)
      obtain ⟨hBw, ⟨b0, b1, b2, b3⟩, i0, i1, i2, r0, r1, r2, f⟩ := HXc.out
      have HBw : Hid (Below w.heap.size w wc) := hBw
      have f0 := f 0
      have f1 := f 1
      have f2 := f 2
      have hlw1 : w.heap.size + 3 ≤ w1.heap.size := HLW1.out
      have hs1c : w1.heap.size ≤ wc.heap.size := HBc.out.size
      have HLT : Hid (LAt wc g k0 k1 k2 k3 k4) := ⟨d0, d1, d2, d3, d4⟩
      clear hbw f hBw HXo HOWN HMo HBr HSW HLEG HAFT hgo c0 c1 c2
      by_cases hk : k0 = 0
      · subst hk
        have HFN : Hid (F = foF Ls Hs Ts (25 - (l ++ [((k2, k3), k4)]).length) (l ++ [((k2, k3), k4)])) := by
          show _ = _
          rw [HFL.out]
          exact fo_on HL24.out HGL.out rfl
        have HG4 : Hid (afL (lgT Ls Hs (taT Ts (laH l).1.1) (laH l)) l = lgT Ls Hs (taT Ts (laH l).1.1) (laH l) ∧ (lgT Ls Hs (taT Ts (laH l).1.1) (laH l)).1 = 0 ∧ l.length ≠ 24) := by
          have h := af_0 (g := lgT Ls Hs (taT Ts (laH l).1.1) (laH l)) (l := l) (by rw [← HGL.out])
          exact ⟨h.1, h.2.1, h.2.2.1⟩
        have HSPN : Hid (spB S (laH (l ++ [((k2, k3), k4)])).1 = true) := by
          show _ = _
          rw [la_app]
          have h2 := lg_sp HTP.out HG4.out.2.1
          rw [← HG4.out.1, ← HGL.out] at h2
          exact h2
        have hm23 : m ≤ 23 := by
          have h1 := HG4.out.2.2
          rw [HML.out] at h1
          omega
        obtain ⟨j0, hj, hy0, hy1, hy2⟩ := info_parts hop_info
        have hlgc : g < wc.heap.size := World.block_lt_of_cell? _ _ d0
        clear r0 r1 r2 f0 f1 f2 HG4
        go_wp2_with (at_builtin; refine wpList_append_own _ rfl _ _ 39 rfl w1.heap.size 48 j0 (.agg #[.int .i64 0, .int .i64 0, .int .i64 0]) 3 24 Try.underlying39 hj hy0 hy1 hy2 hop_zero (by decide) _ _ _ rfl (HOc.out.alloc _) ⟨wc.heap.size, 0, none⟩ 1 1 [.int .i64 k2, .int .i64 k3, .int .i64 k4] rfl rfl ?m1 ?m2 ?m3 ?m4 ?m5 ?_)
        case m1 =>
          intro j u hj
          match j, hj with
          | 0, hj => simp at hj; subst hj; simp [Addr.add]
          | 1, hj => simp at hj; subst hj; simp [Addr.add]
          | 2, hj => simp at hj; subst hj; simp [Addr.add]
        case m2 => intro u hu; simp at hu; rcases hu with rfl | rfl | rfl <;> rfl
        case m3 => unfold maxLen; omega
        case m4 => omega
        case m5 => simp; omega
        intro v5 w5 hown5 hgrow5 _
        obtain ⟨ao6, cap6, rfl⟩ := own_form hown5
        have hb5 : Below w1.heap.size wc w5 := ((Below.refl _ wc).alloc hs1c _).grown hgrow5 (by simp; omega) (fun g hg => (HOc.out.lt g hg).1)
        have HB5 : Hid (Below w1.heap.size w1 w5) := HBc.out.trans hb5
        have HO5 : Hid (w5.ownsRow w1.heap.size 48 3 (.slice ao6 (m + 1) cap6) (l ++ [((k2, k3), k4)]).length (cellsG hopE (l ++ [((k2, k3), k4)]))) := by
          show World.ownsRow _ _ _ _ _ _ _
          rw [List.length_append, HML.out, cellsG_app, cellsG_one]
          exact hown5
        have HLL : Hid (0 < (l ++ [((k2, k3), k4)]).length ∧ (l ++ [((k2, k3), k4)]).length ≤ 24) := by
          rw [List.length_append, HML.out]
          exact ⟨by simp, by simp; omega⟩
        clear hb5 hgrow5 hown5
        go_wp2
        go_roundw
        case rel => exact ⟨l ++ [((k2, k3), k4)], HLL.out, HO5.out, HFN.out, HSPN.out, HB5.out⟩
        case measure => simp [sliL]; omega
      · have HF2 : Hid (F = (k0, k1, l)) := by
          show _ = _
          rw [HFL.out]
          exact fo_end HL24.out HGL.out hk
        have ek : (k0 != 0) = true := by simp [hk]
        have hlgc : g < wc.heap.size := World.block_lt_of_cell? _ _ d0
        clear hk d2 d3 d4 r0 r1 r2 f0 f1 f2
        go_upto_region 5 with fail
        go_region_with (go_at_call 22; refine (clone_any k1 _ HGN.out).mono ?_; rintro e w3 ⟨rfl, hb3⟩; have hbz := bdrew hb3; have HO3 : Hid (w3.ownsRow w1.heap.size 48 3 (.slice (some ⟨g5, o5, none⟩) m cap5) m (cellsG hopE l)) := own_below HOc.out hbz; have HX3 : Hid (FBox w w3 S (.slice ao n cap) (.slice ao2 n2 cap2) (.slice ao3 n3 cap3) x y h) := HXc.out.later HXc.out.lt hbz; have hld := HLT.out.later hbz; obtain ⟨d0, d1, d2, d3, d4⟩ := hld; obtain ⟨hBw3, ⟨b0, b1, b2, b3⟩, i0, i1, i2, r0, r1, r2, f⟩ := HX3.out; have HBw3 : Hid (Below w.heap.size w w3) := hBw3; have f0 := f 0; have f1 := f 1; have f2 := f 2; clear hb3 hbz f hBw3)
        all_goals
          go_wp2
          refine bodyPost_ret (v := .agg #[.int .i64 k0, .string k1, .slice (some ⟨g5, o5, none⟩) m cap5]) (by simp [results, Try.results11, go_sem, *]) rfl ⟨_, _, _, by rw [HF2.out], ?_, below_put3 HBw3.out _ (by omega) _ _ _⟩
          rw [HF2.out]
          exact own_mono (B := w1.heap.size) (by rw [HML.out]; exact own_put3 HO3.out _ (by omega) _ _ _) (by have := HLW1.out; omega)
end Go.Proofs.Ytpmcjelihdlfeaa
/- What net.checkPacket answers: a contract for the walks above it. -/
namespace Go.Proofs.Ytpmcjelihdlfeaa
open Go.RowKit
set_option linter.unusedSimpArgs false
set_option linter.unusedVariables false

set_option maxHeartbeats 2000000 in
set_option maxRecDepth 100000 in
theorem npacket_any (S : Int) (ao : Option Addr) (n cap : Nat) (ao2 : Option Addr) (n2 cap2 : Nat) (ao3 : Option Addr) (n3 cap3 : Nat) (Ls : List ((Int × Int) × (Int × Int))) (Hs : List (ByteArray × (Int × Int))) (Ts : List (List Ru)) (x y h : Int) (w : World)
    (hL : GS lnkE w (.slice ao n cap) Ls) (hH : GS hstE w (.slice ao2 n2 cap2) Hs) (hT : TS w (.slice ao3 n3 cap3) Ts) :
    Calls Try.prog 12 #[.agg #[.int .i64 S, .slice ao n cap, .slice ao2 n2 cap2, .slice ao3 n3 cap3], .agg #[.int .i64 x, .int .i64 y], .int .i64 h] w fun e w' => e = .returned (noV (cpN S Ls Hs Ts (x, y) h)) ∧ Below w.heap.size w w' := by
  have hb1 : Below w.heap.size w (w.alloc (Obj.cells #[.int .i64 S, .slice ao n cap, .slice ao2 n2 cap2, .slice ao3 n3 cap3] 28)) := (Below.refl _ _).alloc (Nat.le_refl _) _
  have hb2 : Below w.heap.size w ((w.alloc (Obj.cells #[.int .i64 S, .slice ao n cap, .slice ao2 n2 cap2, .slice ao3 n3 cap3] 28)).alloc (Obj.cells #[.int .i64 x, .int .i64 y] 30)) := hb1.alloc hb1.size _
  have hX : NeBox ((w.alloc (Obj.cells #[.int .i64 S, .slice ao n cap, .slice ao2 n2 cap2, .slice ao3 n3 cap3] 28)).alloc (Obj.cells #[.int .i64 x, .int .i64 y] 30)) w.heap.size S (.slice ao n cap) (.slice ao2 n2 cap2) (.slice ao3 n3 cap3) :=
    (nebox_new w S _ _ _ 28).later ((Below.refl _ _).alloc (Nat.le_refl _) _)
  have hS0 : VAt ((w.alloc (Obj.cells #[.int .i64 S, .slice ao n cap, .slice ao2 n2 cap2, .slice ao3 n3 cap3] 28)).alloc (Obj.cells #[.int .i64 x, .int .i64 y] 30)) (w.heap.size + 1) 0 (spoE.c (x, y)) := by
    have h := spo_new (w.alloc (Obj.cells #[.int .i64 S, .slice ao n cap, .slice ao2 n2 cap2, .slice ao3 n3 cap3] 28)) x y 30
    simpa using h
  obtain ⟨W2, hW2⟩ : ∃ W, W = (w.alloc (Obj.cells #[.int .i64 S, .slice ao n cap, .slice ao2 n2 cap2, .slice ao3 n3 cap3] 28)).alloc (Obj.cells #[.int .i64 x, .int .i64 y] 30) := ⟨_, rfl⟩
  rw [← hW2] at hb2 hX hS0
  obtain ⟨C, hC⟩ : ∃ C, C = cpN S Ls Hs Ts (x, y) h := ⟨_, rfl⟩
  have HC : Hid (C = cpN S Ls Hs Ts (x, y) h) := hC
  rw [← hC]
  have HL2 : Hid (GS lnkE W2 (.slice ao n cap) Ls) := hL.later hb2
  have HH2 : Hid (GS hstE W2 (.slice ao2 n2 cap2) Hs) := hH.later hb2
  have HT2 : Hid (TS W2 (.slice ao3 n3 cap3) Ts) := hT.later hb2
  have HB2 : Hid (Below w.heap.size w W2) := hb2
  have HX : Hid (NeBox W2 w.heap.size S (.slice ao n cap) (.slice ao2 n2 cap2) (.slice ao3 n3 cap3)) := hX
  have HS0 : Hid (VAt W2 (w.heap.size + 1) 0 (spoE.c (x, y))) := hS0
  have HW2 : Hid (W2 = (w.alloc (Obj.cells #[.int .i64 S, .slice ao n cap, .slice ao2 n2 cap2, .slice ao3 n3 cap3] 28)).alloc (Obj.cells #[.int .i64 x, .int .i64 y] 30)) := hW2
  clear hC hb1 hb2 hX hS0 hL hH hT hW2
  go_enter Try.func12, Try.ntmps12
  go_wp2_with fail
  rw [← HW2.out]
  refine (ncheck_any S ao n cap ao2 n2 cap2 ao3 n3 cap3 Ls Hs Ts _ HL2.out HH2.out HT2.out).mono ?_
  rintro e w1 ⟨rfl, hb1⟩
  obtain ⟨T, hT⟩ : ∃ T, T = ntN S Ls Hs Ts := ⟨_, rfl⟩
  have HT : Hid (T = ntN S Ls Hs Ts) := hT
  rw [← hT]
  have HB1 : Hid (Below w.heap.size w w1) := HB2.out.trans (hb1.mono HB2.out.size)
  obtain ⟨b0, b1, b2, b3⟩ := HX.out.later hb1
  obtain ⟨s0, s1⟩ := spo_cells (HS0.out.later hb1)
  simp only [Nat.zero_add] at s0 s1
  clear hT hb1 HX HS0 HL2 HH2 HB2 HT2 HW2
  by_cases h0 : T = 0
  · subst h0
    rw [no_ok rfl]
    have hC3 : C = if (spB S (x, y) && hdrB h) = true then 0 else 1 := by rw [HC.out, cpN, if_pos HT.out.symm]
    have HC3 : Hid (C = if (spB S (x, y) && hdrB h) = true then 0 else 1) := hC3
    clear hC3
    go_wp2_with fail
    refine (isSpot_any S x y _).mono ?_
    rintro e w2 ⟨rfl, hb2⟩
    have HB3 : Hid (Below w.heap.size w w2) := HB1.out.trans (hb2.mono HB1.out.size)
    clear hb2
    cases hs : spB S (x, y)
    · have HC2 : Hid (C = 1) := by
        show _ = _
        rw [HC3.out, hs]
        rfl
      go_wp2
      go_ret
      exact ⟨by rw [HC2.out]; rfl, HB3.out⟩
    · go_wp2_with fail
      refine (isHeader_any h _).mono ?_
      rintro e w3 ⟨rfl, rfl⟩
      have HB4 : Hid (Below w.heap.size w w3) := HB3.out
      clear HB3
      cases hh : hdrB h
      · have HC2 : Hid (C = 1) := by
          show _ = _
          rw [HC3.out, hs, hh]
          rfl
        go_wp2
        go_ret
        exact ⟨by rw [HC2.out]; rfl, HB4.out⟩
      · have HC2 : Hid (C = 0) := by
          show _ = _
          rw [HC3.out, hs, hh]
          rfl
        go_wp2
        go_ret
        exact ⟨by rw [HC2.out]; rfl, HB4.out⟩
  · rw [no_ne h0]
    have HC2 : Hid (C = T) := by
      show _ = _
      rw [HC.out, cpN, ← HT.out, if_neg h0]
    have HN0 : Hid (T ≠ 0) := h0
    clear h0
    go_wp2
    go_ret
    exact ⟨by rw [HC2.out, no_ne HN0.out]; rfl, HB1.out⟩
end Go.Proofs.Ytpmcjelihdlfeaa
/- What net.From and net.Step answer: contracts for the walks above them. -/
namespace Go.Proofs.Ytpmcjelihdlfeaa
open Go.RowKit
set_option linter.unusedSimpArgs false
set_option linter.unusedVariables false

/-- The boxes: a net, a spot, the answer's. -/
structure OBox (w W : World) (S : Int) (v1 v2 v3 : Value) (x y : Int) : Prop where
  below : Below w.heap.size w W
  n : NeBox W w.heap.size S v1 v2 v3
  s0 : W.cell? ⟨w.heap.size + 1, 0, none⟩ = some (.int .i64 x)
  s1 : W.cell? ⟨w.heap.size + 1, 1, none⟩ = some (.int .i64 y)
  lt : w.heap.size + 2 ≤ W.heap.size
theorem obox_new (w : World) (S : Int) (v1 v2 v3 : Value) (x y : Int) : OBox w ((w.alloc (Obj.cells #[.int .i64 S, v1, v2, v3] 28)).alloc (Obj.cells #[.int .i64 x, .int .i64 y] 30)) S v1 v2 v3 x y := by
  have e1 : (w.alloc (Obj.cells #[.int .i64 S, v1, v2, v3] 28)).heap.size = w.heap.size + 1 := by simp
  have hb : ∀ (W : World) (o : Obj), Below W.heap.size W (W.alloc o) := fun W o => (Below.refl _ _).alloc (Nat.le_refl _) _
  have hs := vat_new (w.alloc (Obj.cells #[.int .i64 S, v1, v2, v3] 28)) [.int .i64 x, .int .i64 y] 30
  rw [e1] at hs
  exact ⟨((Below.refl _ _).alloc (Nat.le_refl _) _).alloc (by rw [e1]; omega) _, (nebox_new w S v1 v2 v3 28).later (hb _ _), hs 0 _ rfl, hs 1 _ rfl, by simp⟩
theorem OBox.later {w W W' : World} {S : Int} {v1 v2 v3 : Value} {x y : Int} (k : OBox w W S v1 v2 v3 x y) (hb : Below W.heap.size W W') : OBox w W' S v1 v2 v3 x y :=
  ⟨k.below.trans (hb.mono k.below.size), k.n.later hb, cell_later hb k.s0, cell_later hb k.s1, Nat.le_trans k.lt hb.size⟩
/-- And three cells, or two, of the answer's box. -/
structure RB3 (w W : World) : Prop where
  r0 : W.cell? ⟨w.heap.size + 1 + 1, 0, none⟩ = some (.int .i64 0)
  r1 : W.cell? ⟨w.heap.size + 1 + 1, 1, none⟩ = some (.string ⟨#[]⟩)
  r2 : W.cell? ⟨w.heap.size + 1 + 1, 2, none⟩ = some (.slice none 0 0)
  f : ∀ i, W.frozen? ⟨w.heap.size + 1 + 1, i, none⟩ = false
theorem RB3.later {w W W' : World} (k : RB3 w W) (hb : Below W.heap.size W W') : RB3 w W' :=
  ⟨cell_later hb k.r0, cell_later hb k.r1, cell_later hb k.r2, fun i => (hb.frozen (p := ⟨w.heap.size + 1 + 1, i, none⟩) (show (⟨w.heap.size + 1 + 1, 0, none⟩ : Addr).block < W.heap.size from World.block_lt_of_cell? W ⟨w.heap.size + 1 + 1, 0, none⟩ k.r0)).trans (k.f i)⟩
theorem rb3_new (w X : World) (h : X.heap.size = w.heap.size + 1 + 1) : RB3 w (X.alloc (Obj.cells #[.int .i64 0, .string ⟨#[]⟩, .slice none 0 0] 41)) := by
  have hr := vat_new X [.int .i64 0, .string ⟨#[]⟩, .slice none 0 0] 41
  have hf := froz_new2 X #[.int .i64 0, .string ⟨#[]⟩, .slice none 0 0] 41
  rw [h] at hr hf
  exact ⟨hr 0 _ rfl, hr 1 _ rfl, hr 2 _ rfl, hf⟩
structure RB2 (w W : World) : Prop where
  r0 : W.cell? ⟨w.heap.size + 1 + 1, 0, none⟩ = some (.int .i64 0)
  r1 : W.cell? ⟨w.heap.size + 1 + 1, 1, none⟩ = some (.int .i64 0)
  f : ∀ i, W.frozen? ⟨w.heap.size + 1 + 1, i, none⟩ = false
theorem RB2.later {w W W' : World} (k : RB2 w W) (hb : Below W.heap.size W W') : RB2 w W' :=
  ⟨cell_later hb k.r0, cell_later hb k.r1, fun i => (hb.frozen (p := ⟨w.heap.size + 1 + 1, i, none⟩) (show (⟨w.heap.size + 1 + 1, 0, none⟩ : Addr).block < W.heap.size from World.block_lt_of_cell? W ⟨w.heap.size + 1 + 1, 0, none⟩ k.r0)).trans (k.f i)⟩
theorem rb2_new (w X : World) (h : X.heap.size = w.heap.size + 1 + 1) : RB2 w (X.alloc (Obj.cells #[.int .i64 0, .int .i64 0] 30)) := by
  have hr := vat_new X [.int .i64 0, .int .i64 0] 30
  have hf := froz_new2 X #[.int .i64 0, .int .i64 0] 30
  rw [h] at hr hf
  exact ⟨hr 0 _ rfl, hr 1 _ rfl, hf⟩
theorem own_none2 (W : World) (B : Nat) : W.ownsRow B 48 3 (.slice none 0 0) (zeF.2.2).length (cellsG hopE zeF.2.2) := World.ownsRow_nil _ _ _ _

set_option maxHeartbeats 4000000 in
set_option maxRecDepth 100000 in
theorem from_any (S : Int) (ao : Option Addr) (n cap : Nat) (ao2 : Option Addr) (n2 cap2 : Nat) (ao3 : Option Addr) (n3 cap3 : Nat) (Ls : List ((Int × Int) × (Int × Int))) (Hs : List (ByteArray × (Int × Int))) (Ts : List (List Ru)) (x y h : Int) (w : World)
    (hL : GS lnkE w (.slice ao n cap) Ls) (hH : GS hstE w (.slice ao2 n2 cap2) Hs) (hT : TS w (.slice ao3 n3 cap3) Ts) :
    Calls Try.prog 5 #[.agg #[.int .i64 S, .slice ao n cap, .slice ao2 n2 cap2, .slice ao3 n3 cap3], .agg #[.int .i64 x, .int .i64 y], .int .i64 h] w fun e w' => ∃ ao4 n4 cap4, e = .returned (.tuple #[.agg #[.int .i64 (frV S Ls Hs Ts (x, y) h).1, .string (frV S Ls Hs Ts (x, y) h).2.1, .slice ao4 n4 cap4], noV (cpN S Ls Hs Ts (x, y) h)]) ∧ w'.ownsRow w.heap.size 48 3 (.slice ao4 n4 cap4) (frV S Ls Hs Ts (x, y) h).2.2.length (cellsG hopE (frV S Ls Hs Ts (x, y) h).2.2) ∧ Below w.heap.size w w' := by
  obtain ⟨R, hR⟩ : ∃ R, R = cpN S Ls Hs Ts (x, y) h := ⟨_, rfl⟩
  obtain ⟨V, hV⟩ : ∃ V, V = frV S Ls Hs Ts (x, y) h := ⟨_, rfl⟩
  have HR : Hid (R = cpN S Ls Hs Ts (x, y) h) := hR
  have HV : Hid (V = frV S Ls Hs Ts (x, y) h) := hV
  rw [← hR, ← hV]
  have HLW : Hid (∀ W, Below w.heap.size w W → GS lnkE W (.slice ao n cap) Ls) := fun W hb => hL.later hb
  have HHW : Hid (∀ W, Below w.heap.size w W → GS hstE W (.slice ao2 n2 cap2) Hs) := fun W hb => hH.later hb
  have HTW : Hid (∀ W, Below w.heap.size w W → TS W (.slice ao3 n3 cap3) Ts) := fun W hb => hT.later hb
  have hX0 := obox_new w S (.slice ao n cap) (.slice ao2 n2 cap2) (.slice ao3 n3 cap3) x y
  have hsz : ((w.alloc (Obj.cells #[.int .i64 S, .slice ao n cap, .slice ao2 n2 cap2, .slice ao3 n3 cap3] 28)).alloc (Obj.cells #[.int .i64 x, .int .i64 y] 30)).heap.size = w.heap.size + 1 + 1 := by simp
  have hR0 := rb3_new w _ hsz
  have hX := hX0.later ((Below.refl _ _).alloc (Nat.le_refl _) (Obj.cells #[.int .i64 0, .string ⟨#[]⟩, .slice none 0 0] 41))
  obtain ⟨w0, hw0⟩ : ∃ W, ((w.alloc (Obj.cells #[.int .i64 S, .slice ao n cap, .slice ao2 n2 cap2, .slice ao3 n3 cap3] 28)).alloc (Obj.cells #[.int .i64 x, .int .i64 y] 30)).alloc (Obj.cells #[.int .i64 0, .string ⟨#[]⟩, .slice none 0 0] 41) = W := ⟨_, rfl⟩
  rw [hw0] at hX hR0
  have HX : Hid (OBox w w0 S (.slice ao n cap) (.slice ao2 n2 cap2) (.slice ao3 n3 cap3) x y) := hX
  have HRB : Hid (RB3 w w0) := hR0
  have HW0 : Hid (((w.alloc (Obj.cells #[.int .i64 S, .slice ao n cap, .slice ao2 n2 cap2, .slice ao3 n3 cap3] 28)).alloc (Obj.cells #[.int .i64 x, .int .i64 y] 30)).alloc (Obj.cells #[.int .i64 0, .string ⟨#[]⟩, .slice none 0 0] 41) = w0) := hw0
  clear hL hH hT hR hV hX0 hsz hR0 hX hw0
  go_enter Try.func5, Try.ntmps5
  go_upto_region 1 with fail
  rw [HW0.out]
  obtain ⟨_, ⟨b0, b1, b2, b3⟩, s0, s1, _⟩ := HX.out
  clear HW0
  go_wp2_with fail
  refine (npacket_any S ao n cap ao2 n2 cap2 ao3 n3 cap3 Ls Hs Ts x y h _ (HLW.out _ HX.out.below) (HHW.out _ HX.out.below) (HTW.out _ HX.out.below)).mono ?_
  rintro e w1 ⟨rfl, hb1⟩
  rw [← HR.out]
  have HX1 : Hid (OBox w w1 S (.slice ao n cap) (.slice ao2 n2 cap2) (.slice ao3 n3 cap3) x y) := HX.out.later hb1
  have HR1 : Hid (RB3 w w1) := HRB.out.later hb1
  obtain ⟨hB1, ⟨b0, b1, b2, b3⟩, s0, s1, hlt⟩ := HX1.out
  have HB1 : Hid (Below w.heap.size w w1) := hB1
  obtain ⟨r0, r1, r2, f⟩ := HR1.out
  have f0 := f 0
  have f1 := f 1
  have f2 := f 2
  clear hb1 HX HRB f hB1
  by_cases h0 : R = 0
  · have HC0 : Hid (cpN S Ls Hs Ts (x, y) h = 0) := HR.out.symm.trans h0
    obtain ⟨k1, k2, _⟩ := cp_0 HC0.out
    have HN0 : Hid (ntN S Ls Hs Ts = 0) := k1
    have HSP : Hid (spB S (x, y) = true) := k2
    have HV0 : Hid (V = frF Ls Hs Ts (x, y) h) := by
      show _ = _
      rw [HV.out, frV, if_pos HC0.out]
    subst h0
    rw [no_ok rfl]
    clear k1 k2 r0 r1 r2 f0 f1 f2
    go_wp2_with fail
    refine (follow_any S ao n cap ao2 n2 cap2 ao3 n3 cap3 Ls Hs Ts x y h _ (HLW.out _ HB1.out) (HHW.out _ HB1.out) (HTW.out _ HB1.out) HN0.out HSP.out).mono ?_
    rintro e w5 ⟨ao4, n4, cap4, rfl, hown, hb5⟩
    rw [← HV0.out] at hown
    rw [← HV0.out]
    have hsz : w.heap.size + 1 + 1 < w1.heap.size := World.block_lt_of_cell? _ _ HR1.out.r0
    have HOW : Hid (∀ u v x, (put3 w5 (w.heap.size + 1 + 1) u v x).ownsRow w.heap.size 48 3 (.slice ao4 n4 cap4) V.2.2.length (cellsG hopE V.2.2)) := fun u v x => own_mono (own_put3 hown _ hsz u v x) (by omega)
    have HB5 : Hid (Below w.heap.size w w5) := HB1.out.trans (hb5.mono HB1.out.size)
    obtain ⟨r0, r1, r2, f⟩ := HR1.out.later hb5
    have f0 := f 0
    have f1 := f 1
    have f2 := f 2
    obtain ⟨V1, hV1⟩ : ∃ q, q = V.1 := ⟨_, rfl⟩
    obtain ⟨V2, hV2⟩ : ∃ q, q = V.2.1 := ⟨_, rfl⟩
    have HVV : Hid (V.1 = V1 ∧ V.2.1 = V2) := ⟨hV1.symm, hV2.symm⟩
    rw [← hV1, ← hV2]
    clear hown hb5 f hV1 hV2
    go_wp2
    refine bodyPost_ret (v := .tuple #[.agg #[.int .i64 V1, .string V2, .slice ao4 n4 cap4], .nilIface]) (by simp [results, Try.results5, go_sem, *]) rfl ⟨ao4, n4, cap4, by rw [HVV.out.1, HVV.out.2]; rfl, HOW.out _ _ _, below_put3 HB5.out _ (by omega) _ _ _⟩
  · rw [no_ne h0]
    have HNE : Hid (R ≠ 0) := h0
    have HV1 : Hid (V = zeF) := by
      show _ = _
      rw [HV.out, frV, if_neg (by rw [← HR.out]; exact h0)]
    clear h0
    go_wp2
    refine bodyPost_ret (v := .tuple #[.agg #[.int .i64 0, .string ⟨#[]⟩, .slice none 0 0], .iface 57 (.int .i64 R)]) (by simp [results, Try.results5, go_sem, *]) rfl ⟨_, _, _, by rw [HV1.out, no_ne HNE.out]; rfl, by rw [HV1.out]; exact own_none2 _ _, below_put3 HB1.out _ (by omega) _ _ _⟩

set_option maxHeartbeats 4000000 in
set_option maxRecDepth 100000 in
theorem stepA_any (S : Int) (ao : Option Addr) (n cap : Nat) (ao2 : Option Addr) (n2 cap2 : Nat) (ao3 : Option Addr) (n3 cap3 : Nat) (Ls : List ((Int × Int) × (Int × Int))) (Hs : List (ByteArray × (Int × Int))) (Ts : List (List Ru)) (x y h : Int) (w : World)
    (hL : GS lnkE w (.slice ao n cap) Ls) (hH : GS hstE w (.slice ao2 n2 cap2) Hs) (hT : TS w (.slice ao3 n3 cap3) Ts) :
    Calls Try.prog 6 #[.agg #[.int .i64 S, .slice ao n cap, .slice ao2 n2 cap2, .slice ao3 n3 cap3], .agg #[.int .i64 x, .int .i64 y], .int .i64 h] w fun e w' => e = .returned (.tuple #[.agg #[.int .i64 (spV S Ls Hs Ts (x, y) h).1.1, .int .i64 (spV S Ls Hs Ts (x, y) h).1.2], .int .i64 (spV S Ls Hs Ts (x, y) h).2, noV (spN S Ls Hs Ts (x, y) h)]) ∧ Below w.heap.size w w' := by
  obtain ⟨R, hR⟩ : ∃ R, R = spN S Ls Hs Ts (x, y) h := ⟨_, rfl⟩
  obtain ⟨V1, hV1⟩ : ∃ V, V = (spV S Ls Hs Ts (x, y) h).1.1 := ⟨_, rfl⟩
  obtain ⟨V2, hV2⟩ : ∃ V, V = (spV S Ls Hs Ts (x, y) h).1.2 := ⟨_, rfl⟩
  obtain ⟨V3, hV3⟩ : ∃ V, V = (spV S Ls Hs Ts (x, y) h).2 := ⟨_, rfl⟩
  have HR : Hid (R = spN S Ls Hs Ts (x, y) h) := hR
  have HV : Hid (spV S Ls Hs Ts (x, y) h = ((V1, V2), V3)) := by
    show _ = _
    rw [hV1, hV2, hV3]
  rw [← hR, ← hV1, ← hV2, ← hV3]
  have HLW : Hid (∀ W, Below w.heap.size w W → GS lnkE W (.slice ao n cap) Ls) := fun W hb => hL.later hb
  have HHW : Hid (∀ W, Below w.heap.size w W → GS hstE W (.slice ao2 n2 cap2) Hs) := fun W hb => hH.later hb
  have HTW : Hid (∀ W, Below w.heap.size w W → TS W (.slice ao3 n3 cap3) Ts) := fun W hb => hT.later hb
  have hTn := hT.len
  have HTN : Hid (Ts.length = n3) := hTn
  have hX0 := obox_new w S (.slice ao n cap) (.slice ao2 n2 cap2) (.slice ao3 n3 cap3) x y
  have hsz : ((w.alloc (Obj.cells #[.int .i64 S, .slice ao n cap, .slice ao2 n2 cap2, .slice ao3 n3 cap3] 28)).alloc (Obj.cells #[.int .i64 x, .int .i64 y] 30)).heap.size = w.heap.size + 1 + 1 := by simp
  have hR0 := rb2_new w _ hsz
  have hX := hX0.later ((Below.refl _ _).alloc (Nat.le_refl _) (Obj.cells #[.int .i64 0, .int .i64 0] 30))
  obtain ⟨w0, hw0⟩ : ∃ W, ((w.alloc (Obj.cells #[.int .i64 S, .slice ao n cap, .slice ao2 n2 cap2, .slice ao3 n3 cap3] 28)).alloc (Obj.cells #[.int .i64 x, .int .i64 y] 30)).alloc (Obj.cells #[.int .i64 0, .int .i64 0] 30) = W := ⟨_, rfl⟩
  rw [hw0] at hX hR0
  have HX : Hid (OBox w w0 S (.slice ao n cap) (.slice ao2 n2 cap2) (.slice ao3 n3 cap3) x y) := hX
  have HRB : Hid (RB2 w w0) := hR0
  have HW0 : Hid (((w.alloc (Obj.cells #[.int .i64 S, .slice ao n cap, .slice ao2 n2 cap2, .slice ao3 n3 cap3] 28)).alloc (Obj.cells #[.int .i64 x, .int .i64 y] 30)).alloc (Obj.cells #[.int .i64 0, .int .i64 0] 30) = w0) := hw0
  clear hL hH hT hR hV1 hV2 hV3 hX0 hsz hR0 hX hw0 hTn
  go_enter Try.func6, Try.ntmps6
  go_upto_region 1 with fail
  rw [HW0.out]
  obtain ⟨_, ⟨b0, b1, b2, b3⟩, s0, s1, _⟩ := HX.out
  clear HW0
  go_wp2_with fail
  refine (npacket_any S ao n cap ao2 n2 cap2 ao3 n3 cap3 Ls Hs Ts x y h _ (HLW.out _ HX.out.below) (HHW.out _ HX.out.below) (HTW.out _ HX.out.below)).mono ?_
  rintro e w1 ⟨rfl, hb1⟩
  obtain ⟨C, hC⟩ : ∃ C, C = cpN S Ls Hs Ts (x, y) h := ⟨_, rfl⟩
  have HC : Hid (C = cpN S Ls Hs Ts (x, y) h) := hC
  rw [← hC]
  have HX1 : Hid (OBox w w1 S (.slice ao n cap) (.slice ao2 n2 cap2) (.slice ao3 n3 cap3) x y) := HX.out.later hb1
  have HR1 : Hid (RB2 w w1) := HRB.out.later hb1
  obtain ⟨hB1, ⟨b0, b1, b2, b3⟩, s0, s1, hlt⟩ := HX1.out
  have HB1 : Hid (Below w.heap.size w w1) := hB1
  obtain ⟨r0, r1, f⟩ := HR1.out
  have f0 := f 0
  have f1 := f 1
  clear hb1 HX HRB f hB1 hC
  by_cases h0 : C = 0
  · have HC0 : Hid (cpN S Ls Hs Ts (x, y) h = 0) := HC.out.symm.trans h0
    obtain ⟨k1, k2, _⟩ := cp_0 HC0.out
    have k3 := sp_of k2
    simp only at k3
    have k4 := nt_0 k1
    have hS6 := (tp_0 k4.1).1
    have HTT : Hid (∀ k, k < Ts.length → tbN (Ts.getD k []) = 0) := k4.2.2
    have HS1 : Hid (1 ≤ x) := k3.1
    have HS2 : Hid (x ≤ (n3 : Int)) := by
      show _ ≤ _
      have := HTN.out
      have := k4.2.1
      omega
    have HS6 : Hid (n3 ≤ 6) := by
      show _ ≤ _
      have := HTN.out
      have := k4.2.1
      omega
    obtain ⟨A, hA⟩ : ∃ A, A = stO Ts ((x, y), h) := ⟨_, rfl⟩
    have HA : Hid (stO Ts ((x, y), h) = A) := hA.symm
    have HRA : Hid (R = if A.isSome then 0 else 5) := by
      show _ = _
      rw [HR.out, spN, if_pos HC0.out, hA]
    have HVA : Hid (A.getD zeH = ((V1, V2), V3)) := by
      show _ = _
      rw [← HV.out, spV, if_pos HC0.out, hA]
    subst h0
    rw [no_ok rfl]
    clear k1 k2 k3 k4 hS6 hA r0 r1 f0 f1
    go_wp2_with fail
    refine (step_any S ao n cap ao2 n2 cap2 ao3 n3 cap3 Ts x y h _ (HTW.out _ HB1.out) HTT.out HS1.out HS2.out HS6.out).mono ?_
    rintro e w2 ⟨rfl, hb2⟩
    rw [HA.out, HVA.out]
    simp only
    have hal : Below w2.heap.size w2 (w2.alloc (Obj.cells #[.int .i64 V1, .int .i64 V2, .int .i64 V3] 48)) := (Below.refl _ _).alloc (Nat.le_refl _) _
    have hva := hop_new w2 V1 V2 V3 48
    have hXa := (HX1.out.later hb2).later hal
    have hRa := (HR1.out.later hb2).later hal
    obtain ⟨w3, hw3⟩ : ∃ W, w2.alloc (Obj.cells #[.int .i64 V1, .int .i64 V2, .int .i64 V3] 48) = W := ⟨_, rfl⟩
    obtain ⟨g3, hg3⟩ : ∃ g, w2.heap.size = g := ⟨_, rfl⟩
    rw [hw3] at hXa hRa
    rw [hw3, hg3] at hva
    have HW3 : Hid (w2.alloc (Obj.cells #[.int .i64 V1, .int .i64 V2, .int .i64 V3] 48) = w3) := hw3
    have HG3 : Hid (w2.heap.size = g3) := hg3
    obtain ⟨t0, t1, t2⟩ := hop_cells hva
    simp only [Nat.zero_add] at t0 t1 t2
    have HB3 : Hid (Below w.heap.size w w3) := hXa.below
    obtain ⟨r0, r1, f⟩ := hRa
    have f0 := f 0
    have f1 := f 1
    have hl3 : g3 < w3.heap.size := World.block_lt_of_cell? _ _ t0
    have hlr : w.heap.size + 1 + 1 < w3.heap.size := World.block_lt_of_cell? _ _ r0
    obtain ⟨okb, hokb⟩ : ∃ q, q = A.isSome := ⟨_, rfl⟩
    have HOKB : Hid (A.isSome = okb) := hokb.symm
    rw [← hokb]
    clear hb2 hal hva hXa hw3 hg3 f hokb
    go_upto_region 5 with fail
    rw [HW3.out, HG3.out]
    clear HW3 HG3
    cases okb with
    | false =>
      have HR5 : Hid (R = 5) := by
        show _ = _
        rw [HRA.out, HOKB.out]
        rfl
      have HVZ : Hid (V1 = 0 ∧ V2 = 0 ∧ V3 = 0) := by
        have h1 := HOKB.out
        have h2 := HVA.out
        cases A with
        | none =>
          have e : zeH = ((V1, V2), V3) := h2
          simp only [zeH, Prod.mk.injEq] at e
          exact ⟨e.1.1.symm, e.1.2.symm, e.2.symm⟩
        | some _ => cases h1
      go_wp2
      refine bodyPost_ret (v := .tuple #[.agg #[.int .i64 0, .int .i64 0], .int .i64 0, .iface 57 (.int .i64 5)]) (by simp [results, Try.results6, go_sem, *]) rfl ⟨by rw [HR5.out, HVZ.out.1, HVZ.out.2.1, HVZ.out.2.2]; rfl, below_two2 HB3.out _ (by omega) _ _⟩
    | true =>
      have HR0 : Hid (R = 0) := by
        show _ = _
        rw [HRA.out, HOKB.out]
        rfl
      go_wp2_with fail
      go_region
      all_goals
        go_wp2
        refine bodyPost_ret (v := .tuple #[.agg #[.int .i64 V1, .int .i64 V2], .int .i64 V3, .nilIface]) (by simp [results, Try.results6, go_sem, *]) rfl ⟨by rw [HR0.out]; rfl, below_two2 (HB3.out.trans ((Below.drew (Below.refl _ _)).mono HB3.out.size)) _ (by omega) _ _⟩
  · rw [no_ne h0]
    have HNE : Hid (C ≠ 0) := h0
    have HRC : Hid (R = C) := by
      show _ = _
      rw [HR.out, spN, if_neg (by rw [← HC.out]; exact h0), HC.out]
    have HVZ : Hid (V1 = 0 ∧ V2 = 0 ∧ V3 = 0) := by
      have h2 := HV.out
      rw [spV, if_neg (by rw [← HC.out]; exact h0)] at h2
      simp only [zeH, Prod.mk.injEq] at h2
      exact ⟨h2.1.1.symm, h2.1.2.symm, h2.2.symm⟩
    clear h0
    go_wp2
    refine bodyPost_ret (v := .tuple #[.agg #[.int .i64 0, .int .i64 0], .int .i64 0, .iface 57 (.int .i64 C)]) (by simp [results, Try.results6, go_sem, *]) rfl ⟨by rw [HRC.out, HVZ.out.1, HVZ.out.2.1, HVZ.out.2.2, no_ne HNE.out], below_two2 HB1.out _ (by omega) _ _⟩
end Go.Proofs.Ytpmcjelihdlfeaa
/- What topo.Where answers: a contract for the walks above it. -/
namespace Go.Proofs.Ytpmcjelihdlfeaa
open Go.RowKit
set_option linter.unusedSimpArgs false
set_option linter.unusedVariables false

set_option maxHeartbeats 1000000 in
set_option maxRecDepth 100000 in
theorem where1_any (n : ByteArray) (x0 x1 : Int) (B : Nat) (m : ByteArray) (w : World) (h0 : w.cell? ⟨B, 0, none⟩ = some (.string m)) :
    Calls Try.prog 19 #[.agg #[.string n, .int .i64 x0, .int .i64 x1], .pointer (some ⟨B, 0, none⟩)] w fun e w' => e = .returned (.bool (n == m)) ∧ Below w.heap.size w w' := by
  have hlt : B < w.heap.size := World.block_lt_of_cell? _ _ h0
  have HB0 : Hid (Below w.heap.size w (w.alloc (Obj.cells #[Value.string n, Value.int IntKind.i64 x0, Value.int IntKind.i64 x1] 32))) := (Below.refl _ _).alloc (Nat.le_refl _) _
  rw [beq_toListBytes]
  go_enter Try.func19, Try.ntmps19
  go_wp2
  go_ret
  exact ⟨rfl, HB0.out⟩
theorem where1_asks (B : Nat) (m : ByteArray) (w : World) (h0 : w.cell? ⟨B, 0, none⟩ = some (.string m)) : hstAsks w 19 (.pointer (some ⟨B, 0, none⟩)) (fun h => h.1 == m) :=
  fun n x0 x1 W hW => where1_any n x0 x1 B m W (cell_later hW h0)
/-- The three boxes of a call: a topology, a name, a spot. -/
def wbox (w : World) (S : Int) (v1 v2 : Value) (m : ByteArray) : World := ((w.alloc (Obj.cells #[.int .i64 S, v1, v2] 25)).alloc (Obj.cells #[.string m] 9)).alloc (Obj.cells #[.int .i64 0, .int .i64 0] 30)
structure WBox (w W : World) (S : Int) (v1 v2 : Value) (m : ByteArray) : Prop where
  below : Below w.heap.size w W
  t : TBox W w.heap.size S v1 v2
  s : W.cell? ⟨w.heap.size + 1, 0, none⟩ = some (.string m)
  r0 : W.cell? ⟨w.heap.size + 1 + 1, 0, none⟩ = some (.int .i64 0)
  r1 : W.cell? ⟨w.heap.size + 1 + 1, 1, none⟩ = some (.int .i64 0)
  f : ∀ i, W.frozen? ⟨w.heap.size + 1 + 1, i, none⟩ = false
theorem froz_new (w : World) (cs : Array Value) (t : TypeId) (k : Nat) : (w.alloc (.cells cs t)).frozen? ⟨w.heap.size, k, none⟩ = false := by simp
theorem wbox_new (w : World) (S : Int) (v1 v2 : Value) (m : ByteArray) : WBox w (wbox w S v1 v2 m) S v1 v2 m := by
  have e1 : (w.alloc (Obj.cells #[.int .i64 S, v1, v2] 25)).heap.size = w.heap.size + 1 := by simp
  have e2 : ((w.alloc (Obj.cells #[.int .i64 S, v1, v2] 25)).alloc (Obj.cells #[.string m] 9)).heap.size = w.heap.size + 1 + 1 := by simp
  have hb : ∀ (W : World) (o : Obj), Below W.heap.size W (W.alloc o) := fun W o => (Below.refl _ _).alloc (Nat.le_refl _) _
  have hs := (vat_new (w.alloc (Obj.cells #[.int .i64 S, v1, v2] 25)) [.string m] 9).later (hb _ (Obj.cells #[.int .i64 0, .int .i64 0] 30))
  rw [e1] at hs
  have hr := vat_new ((w.alloc (Obj.cells #[.int .i64 S, v1, v2] 25)).alloc (Obj.cells #[.string m] 9)) [.int .i64 0, .int .i64 0] 30
  rw [e2] at hr
  have hf := froz_new ((w.alloc (Obj.cells #[.int .i64 S, v1, v2] 25)).alloc (Obj.cells #[.string m] 9)) #[.int .i64 0, .int .i64 0] 30
  rw [e2] at hf
  exact ⟨(((Below.refl _ _).alloc (Nat.le_refl _) _).alloc (by rw [e1]; omega) _).alloc (by rw [e2]; omega) _, ((tbox_new w S v1 v2 25).later (hb _ _)).later (hb _ _), hs 0 _ rfl, hr 0 _ rfl, hr 1 _ rfl, hf⟩
theorem WBox.later {w W W' : World} {S : Int} {v1 v2 : Value} {m : ByteArray} (h : WBox w W S v1 v2 m) (hb : Below W.heap.size W W') : WBox w W' S v1 v2 m :=
  ⟨h.below.trans (hb.mono h.below.size), h.t.later hb, cell_later hb h.s, cell_later hb h.r0, cell_later hb h.r1, fun i => (hb.frozen (p := ⟨w.heap.size + 1 + 1, i, none⟩) (show (⟨w.heap.size + 1 + 1, 0, none⟩ : Addr).block < W.heap.size from World.block_lt_of_cell? W ⟨w.heap.size + 1 + 1, 0, none⟩ h.r0)).trans (h.f i)⟩
theorem below_two {w W : World} (h : Below w.heap.size w W) (g : Nat) (hg : w.heap.size ≤ g) (u v : Value) : Below w.heap.size w ((W.setCell ⟨g, 0, none⟩ u).setCell ⟨g, 1, none⟩ v) := (h.setCell (p := ⟨g, 0, none⟩) hg u).setCell (p := ⟨g, 1, none⟩) hg v
set_option maxHeartbeats 1000000 in
set_option maxRecDepth 100000 in
theorem where_any (S : Int) (ao : Option Addr) (n cap : Nat) (ao2 : Option Addr) (n2 cap2 : Nat) (Ls : List ((Int × Int) × (Int × Int))) (Hs : List (ByteArray × (Int × Int))) (m : ByteArray) (w : World)
    (hL : GS lnkE w (.slice ao n cap) Ls) (hH : GS hstE w (.slice ao2 n2 cap2) Hs) :
    Calls Try.prog 9 #[.agg #[.int .i64 S, .slice ao n cap, .slice ao2 n2 cap2], .string m] w fun e w' => e = .returned (.tuple #[.agg #[.int .i64 (weV S Ls Hs m).1, .int .i64 (weV S Ls Hs m).2], noV (weN S Ls Hs m)]) ∧ Below w.heap.size w w' := by
  have hX := wbox_new w S (.slice ao n cap) (.slice ao2 n2 cap2) m
  obtain ⟨R, hR⟩ : ∃ R, R = weN S Ls Hs m := ⟨_, rfl⟩
  have HR : Hid (R = weN S Ls Hs m) := hR
  obtain ⟨V1, hV1⟩ : ∃ V, V = (weV S Ls Hs m).1 := ⟨_, rfl⟩
  have HV1 : Hid (V1 = (weV S Ls Hs m).1) := hV1
  obtain ⟨V2, hV2⟩ : ∃ V, V = (weV S Ls Hs m).2 := ⟨_, rfl⟩
  have HV2 : Hid (V2 = (weV S Ls Hs m).2) := hV2
  rw [← hR, ← hV1, ← hV2]
  have HL2 : Hid (GS lnkE (wbox w S (.slice ao n cap) (.slice ao2 n2 cap2) m) (.slice ao n cap) Ls) := hL.later hX.below
  have HH2 : Hid (GS hstE (wbox w S (.slice ao n cap) (.slice ao2 n2 cap2) m) (.slice ao2 n2 cap2) Hs) := hH.later hX.below
  have HX : Hid (WBox w (wbox w S (.slice ao n cap) (.slice ao2 n2 cap2) m) S (.slice ao n cap) (.slice ao2 n2 cap2) m) := hX
  clear hR hV1 hV2 hX hL hH
  go_enter Try.func9, Try.ntmps9
  go_wp2_with fail
  refine (check_any S ao n cap ao2 n2 cap2 Ls Hs _ HL2.out HH2.out).mono ?_
  rintro e w1 ⟨rfl, hb1⟩
  obtain ⟨T, hT⟩ : ∃ T, T = tpN S Ls Hs := ⟨_, rfl⟩
  have HT : Hid (T = tpN S Ls Hs) := hT
  rw [← hT]
  have hX1 := HX.out.later hb1
  have HX1 : Hid (WBox w w1 S (.slice ao n cap) (.slice ao2 n2 cap2) m) := hX1
  have HH1 : Hid (GS hstE w1 (.slice ao2 n2 cap2) Hs) := HH2.out.later hb1
  obtain ⟨_, ⟨b0, b1, b2⟩, s0, r0, r1, f⟩ := hX1
  have f0 := f 0
  have f1 := f 1
  clear hT hb1 HX HL2 HH2 f
  by_cases h0 : T = 0
  · subst h0
    rw [no_ok rfl]
    have HK : Hid (hstAsks w1 19 (.pointer (some ⟨w.heap.size + 1, 0, none⟩)) (fun h => h.1 == m)) := where1_asks _ m w1 s0
    obtain ⟨_, _, _, e2, hHn, hHm, _, hHa⟩ := HH1.out.form
    cases e2
    have HHN : Hid (Hs.length = n2) := hHn
    have HHM : Hid (n2 ≤ maxLen) := hHm
    have HHA : Hid (0 < n2 → ∃ g o, ao2 = some ⟨g, o, none⟩ ∧ GAt hstE w1 g o Hs ∧ cap2 ≤ maxLen) := hHa
    clear hHn hHm hHa s0 r0 r1 f0 f1
    go_wp2_with fail
    refine (hst_idxF ao2 n2 cap2 _ _ (fun h => h.1 == m) Hs _ HHN.out HHM.out HHA.out (enters_of Try.func19 (by kernel_rfl) rfl) HK.out).mono ?_
    rintro e w2 ⟨rfl, hb2⟩
    have hX2 := HX1.out.later hb2
    have HB3 : Hid (Below w.heap.size w w2) := hX2.below
    have HHA2 : Hid (0 < n2 → ∃ g o, ao2 = some ⟨g, o, none⟩ ∧ GAt hstE w2 g o Hs ∧ cap2 ≤ maxLen) := fun h => by
      obtain ⟨g, o, e1, e2, e3⟩ := HHA.out h
      exact ⟨g, o, e1, e2.later hb2, e3⟩
    obtain ⟨_, ⟨b0, b1, b2⟩, s0, r0, r1, f⟩ := hX2
    have f0 := f 0
    have f1 := f 1
    clear hb2 HHA HX1 f
    rcases where_ix Hs m with ⟨hi, ho⟩ | ⟨k, hk, hi, ho⟩
    · rw [hi]
      have HR5 : Hid (R = 5) := by
        show _ = _
        rw [HR.out, weN, if_pos HT.out.symm, ho]
        rfl
      have HV5 : Hid (V1 = 0 ∧ V2 = 0) := by
        have h5 := HR5.out
        have e : weV S Ls Hs m = (0, 0) := by rw [weV, ← HR.out, h5, if_neg (by decide)]
        exact ⟨by rw [HV1.out, e], by rw [HV2.out, e]⟩
      clear hi ho
      go_wp2
      refine bodyPost_ret (v := .tuple #[.agg #[.int .i64 0, .int .i64 0], .iface 57 (.int .i64 5)]) (by simp [results, Try.results9, go_sem, *]) rfl ⟨by rw [HR5.out, HV5.out.1, HV5.out.2]; rfl, below_two HB3.out _ (by omega) _ _⟩
    · rw [hi]
      have HR0 : Hid (R = 0) := by
        show _ = _
        rw [HR.out, weN, if_pos HT.out.symm, ho]
        rfl
      have hlt : k < n2 := by rw [← HHN.out]; exact hk
      obtain ⟨g, o, hao, hc, _⟩ := HHA2.out (by omega)
      subst hao
      obtain ⟨y0, y1, y2, hkl, hHk, q0, q1, q2⟩ := hst_at hc HHN.out hlt
      have HV0 : Hid (V1 = y1 ∧ V2 = y2) := by
        have h5 := HR0.out
        have e : weV S Ls Hs m = (y1, y2) := by rw [weV, ← HR.out, h5, if_pos rfl, ho, Option.getD_some, hHk]
        exact ⟨by rw [HV1.out, e], by rw [HV2.out, e]⟩
      have kb0 : (0 : Int) ≤ (k : Int) := by omega
      have kb1 : (k : Int) < (n2 : Int) := by omega
      have hk0 : ¬ (k : Int) < 0 := by omega
      clear hi ho hHk hc HHA2
      go_wp2
      refine bodyPost_ret (v := .tuple #[.agg #[.int .i64 y1, .int .i64 y2], .nilIface]) (by simp [results, Try.results9, go_sem, *]) rfl ⟨by rw [HR0.out, HV0.out.1, HV0.out.2]; rfl, below_two HB3.out _ (by omega) _ _⟩
  · rw [no_ne h0]
    have HR2 : Hid (R = T) := by
      show _ = _
      rw [HR.out, weN, ← HT.out, if_neg h0]
    have HV5 : Hid (V1 = 0 ∧ V2 = 0) := by
      have h2 := HR2.out
      have e : weV S Ls Hs m = (0, 0) := by rw [weV, ← HR.out, h2, if_neg h0]
      exact ⟨by rw [HV1.out, e], by rw [HV2.out, e]⟩
    have HN0 : Hid (T ≠ 0) := h0
    clear h0
    go_wp2
    refine bodyPost_ret (v := .tuple #[.agg #[.int .i64 0, .int .i64 0], .iface 57 (.int .i64 T)]) (by simp [results, Try.results9, go_sem, *]) rfl ⟨by rw [HR2.out, HV5.out.1, HV5.out.2, no_ne HN0.out], below_two HX1.out.below _ (by omega) _ _⟩
end Go.Proofs.Ytpmcjelihdlfeaa
/- What net.Send answers: a contract for the walks above it. -/
namespace Go.Proofs.Ytpmcjelihdlfeaa
open Go.RowKit
set_option linter.unusedSimpArgs false
set_option linter.unusedVariables false

/-- The boxes: a net, the answer's. -/
structure VBox (w W : World) (S : Int) (v1 v2 v3 : Value) : Prop where
  below : Below w.heap.size w W
  n : NeBox W w.heap.size S v1 v2 v3
  r0 : W.cell? ⟨w.heap.size + 1, 0, none⟩ = some (.int .i64 0)
  r1 : W.cell? ⟨w.heap.size + 1, 1, none⟩ = some (.string ⟨#[]⟩)
  r2 : W.cell? ⟨w.heap.size + 1, 2, none⟩ = some (.slice none 0 0)
  f : ∀ i, W.frozen? ⟨w.heap.size + 1, i, none⟩ = false
theorem vbox_new (w : World) (S : Int) (v1 v2 v3 : Value) : VBox w ((w.alloc (Obj.cells #[.int .i64 S, v1, v2, v3] 28)).alloc (Obj.cells #[.int .i64 0, .string ⟨#[]⟩, .slice none 0 0] 41)) S v1 v2 v3 := by
  have e1 : (w.alloc (Obj.cells #[.int .i64 S, v1, v2, v3] 28)).heap.size = w.heap.size + 1 := by simp
  have hb : ∀ (W : World) (o : Obj), Below W.heap.size W (W.alloc o) := fun W o => (Below.refl _ _).alloc (Nat.le_refl _) _
  have hn := (nebox_new w S v1 v2 v3 28).later (hb _ (Obj.cells #[.int .i64 0, .string ⟨#[]⟩, .slice none 0 0] 41))
  have hB := ((Below.refl w.heap.size w).alloc (Nat.le_refl _) (Obj.cells #[.int .i64 S, v1, v2, v3] 28)).alloc (by rw [e1]; omega) (Obj.cells #[.int .i64 0, .string ⟨#[]⟩, .slice none 0 0] 41)
  generalize w.alloc (Obj.cells #[.int .i64 S, v1, v2, v3] 28) = X at e1 hn hB
  have hr := vat_new X [.int .i64 0, .string ⟨#[]⟩, .slice none 0 0] 41
  have hf := froz_new2 X #[.int .i64 0, .string ⟨#[]⟩, .slice none 0 0] 41
  rw [e1] at hr hf
  exact ⟨hB, hn, hr 0 _ rfl, hr 1 _ rfl, hr 2 _ rfl, hf⟩
theorem VBox.later {w W W' : World} {S : Int} {v1 v2 v3 : Value} (k : VBox w W S v1 v2 v3) (hb : Below W.heap.size W W') : VBox w W' S v1 v2 v3 :=
  ⟨k.below.trans (hb.mono k.below.size), k.n.later hb, cell_later hb k.r0, cell_later hb k.r1, cell_later hb k.r2, fun i => (hb.frozen (p := ⟨w.heap.size + 1, i, none⟩) (show (⟨w.heap.size + 1, 0, none⟩ : Addr).block < W.heap.size from World.block_lt_of_cell? W ⟨w.heap.size + 1, 0, none⟩ k.r0)).trans (k.f i)⟩
/-- No fate. -/
theorem own_none (W : World) (B : Nat) : W.ownsRow B 48 3 (.slice none 0 0) (zeF.2.2).length (cellsG hopE zeF.2.2) := World.ownsRow_nil _ _ _ _

set_option maxHeartbeats 4000000 in
set_option maxRecDepth 100000 in
theorem send_any (S : Int) (ao : Option Addr) (n cap : Nat) (ao2 : Option Addr) (n2 cap2 : Nat) (ao3 : Option Addr) (n3 cap3 : Nat) (Ls : List ((Int × Int) × (Int × Int))) (Hs : List (ByteArray × (Int × Int))) (Ts : List (List Ru)) (m : ByteArray) (h : Int) (w : World)
    (hL : GS lnkE w (.slice ao n cap) Ls) (hH : GS hstE w (.slice ao2 n2 cap2) Hs) (hT : TS w (.slice ao3 n3 cap3) Ts) :
    Calls Try.prog 4 #[.agg #[.int .i64 S, .slice ao n cap, .slice ao2 n2 cap2, .slice ao3 n3 cap3], .string m, .int .i64 h] w fun e w' => ∃ ao4 n4 cap4, e = .returned (.tuple #[.agg #[.int .i64 (seV S Ls Hs Ts m h).1, .string (seV S Ls Hs Ts m h).2.1, .slice ao4 n4 cap4], noV (seN S Ls Hs Ts m h)]) ∧ w'.ownsRow w.heap.size 48 3 (.slice ao4 n4 cap4) (seV S Ls Hs Ts m h).2.2.length (cellsG hopE (seV S Ls Hs Ts m h).2.2) ∧ Below w.heap.size w w' := by
  obtain ⟨R, hR⟩ : ∃ R, R = seN S Ls Hs Ts m h := ⟨_, rfl⟩
  obtain ⟨V, hV⟩ : ∃ V, V = seV S Ls Hs Ts m h := ⟨_, rfl⟩
  have HR : Hid (R = seN S Ls Hs Ts m h) := hR
  have HV : Hid (V = seV S Ls Hs Ts m h) := hV
  rw [← hR, ← hV]
  have HLW : Hid (∀ W, Below w.heap.size w W → GS lnkE W (.slice ao n cap) Ls) := fun W hb => hL.later hb
  have HHW : Hid (∀ W, Below w.heap.size w W → GS hstE W (.slice ao2 n2 cap2) Hs) := fun W hb => hH.later hb
  have HTW : Hid (∀ W, Below w.heap.size w W → TS W (.slice ao3 n3 cap3) Ts) := fun W hb => hT.later hb
  have hX := vbox_new w S (.slice ao n cap) (.slice ao2 n2 cap2) (.slice ao3 n3 cap3)
  obtain ⟨w0, hw0⟩ : ∃ W, (w.alloc (Obj.cells #[.int .i64 S, .slice ao n cap, .slice ao2 n2 cap2, .slice ao3 n3 cap3] 28)).alloc (Obj.cells #[.int .i64 0, .string ⟨#[]⟩, .slice none 0 0] 41) = W := ⟨_, rfl⟩
  rw [hw0] at hX
  have HX : Hid (VBox w w0 S (.slice ao n cap) (.slice ao2 n2 cap2) (.slice ao3 n3 cap3)) := hX
  have HW0 : Hid ((w.alloc (Obj.cells #[.int .i64 S, .slice ao n cap, .slice ao2 n2 cap2, .slice ao3 n3 cap3] 28)).alloc (Obj.cells #[.int .i64 0, .string ⟨#[]⟩, .slice none 0 0] 41) = w0) := hw0
  clear hL hH hT hR hV hX hw0
  go_enter Try.func4, Try.ntmps4
  go_upto_region 1 with fail
  rw [HW0.out]
  obtain ⟨_, ⟨b0, b1, b2, b3⟩, r0, r1, r2, f⟩ := HX.out
  clear HW0 f r0 r1 r2
  go_wp2_with fail
  refine (ncheck_any S ao n cap ao2 n2 cap2 ao3 n3 cap3 Ls Hs Ts _ (HLW.out _ HX.out.below) (HHW.out _ HX.out.below) (HTW.out _ HX.out.below)).mono ?_
  rintro e w1 ⟨rfl, hb1⟩
  obtain ⟨T, hT⟩ : ∃ T, T = ntN S Ls Hs Ts := ⟨_, rfl⟩
  have HT : Hid (T = ntN S Ls Hs Ts) := hT
  rw [← hT]
  have HX1 : Hid (VBox w w1 S (.slice ao n cap) (.slice ao2 n2 cap2) (.slice ao3 n3 cap3)) := HX.out.later hb1
  obtain ⟨hB1, ⟨b0, b1, b2, b3⟩, r0, r1, r2, f⟩ := HX1.out
  have HB1 : Hid (Below w.heap.size w w1) := hB1
  have f0 := f 0
  have f1 := f 1
  have f2 := f 2
  clear hT hb1 HX f hB1
  by_cases h0 : T = 0
  · have HN0 : Hid (ntN S Ls Hs Ts = 0) := HT.out.symm.trans h0
    subst h0
    rw [no_ok rfl]
    clear r0 r1 r2 f0 f1 f2
    go_wp2_with fail
    refine (where_any S ao n cap ao2 n2 cap2 Ls Hs m _ (HLW.out _ HX1.out.below) (HHW.out _ HX1.out.below)).mono ?_
    rintro e w2 ⟨rfl, hb2⟩
    obtain ⟨WN, hWN⟩ : ∃ q, q = weN S Ls Hs m := ⟨_, rfl⟩
    obtain ⟨X1, hX1⟩ : ∃ q, q = (weV S Ls Hs m).1 := ⟨_, rfl⟩
    obtain ⟨X2, hX2⟩ : ∃ q, q = (weV S Ls Hs m).2 := ⟨_, rfl⟩
    have HWN : Hid (WN = weN S Ls Hs m) := hWN
    have HXV : Hid (weV S Ls Hs m = (X1, X2)) := by
      show _ = _
      rw [hX1, hX2]
    rw [← hWN, ← hX1, ← hX2]
    have hal : Below w2.heap.size w2 (w2.alloc (Obj.cells #[.int .i64 X1, .int .i64 X2] 30)) := (Below.refl _ _).alloc (Nat.le_refl _) _
    have hXa := (HX1.out.later hb2).later hal
    have hva := vat_new w2 [.int .i64 X1, .int .i64 X2] 30
    obtain ⟨w3, hw3⟩ : ∃ W, w2.alloc (Obj.cells #[.int .i64 X1, .int .i64 X2] 30) = W := ⟨_, rfl⟩
    obtain ⟨g3, hg3⟩ : ∃ g, w2.heap.size = g := ⟨_, rfl⟩
    have hva2 : VAt w3 g3 0 [.int .i64 X1, .int .i64 X2] := by
      rw [← hw3, ← hg3]
      exact hva
    rw [hw3] at hXa
    have HX3 : Hid (VBox w w3 S (.slice ao n cap) (.slice ao2 n2 cap2) (.slice ao3 n3 cap3)) := hXa
    have HW3 : Hid (w2.alloc (Obj.cells #[.int .i64 X1, .int .i64 X2] 30) = w3) := hw3
    have HG3 : Hid (w2.heap.size = g3) := hg3
    have s0 : w3.cell? ⟨g3, 0, none⟩ = some (.int .i64 X1) := hva2 0 _ rfl
    have s1 : w3.cell? ⟨g3, 1, none⟩ = some (.int .i64 X2) := hva2 1 _ rfl
    obtain ⟨hB3, ⟨b0, b1, b2, b3⟩, r0, r1, r2, f⟩ := HX3.out
    have HB3 : Hid (Below w.heap.size w w3) := hB3
    have f0 := f 0
    have f1 := f 1
    have f2 := f 2
    clear hWN hX1 hX2 hb2 hal hXa hva hva2 hw3 hg3 hB3 f HX1 HB1
    go_upto_region 5 with fail
    rw [HW3.out, HG3.out]
    clear HW3 HG3
    by_cases h5 : WN = 0
    · have HW0 : Hid (weN S Ls Hs m = 0) := HWN.out.symm.trans h5
      subst h5
      rw [no_ok rfl]
      cases hh : hdrB h
      · have HR1 : Hid (R = 1) := by
          show _ = _
          rw [HR.out, seN, if_pos HN0.out, if_pos HW0.out, hh]
          rfl
        have HV1 : Hid (V = zeF) := by
          show _ = _
          rw [HV.out, seV, ← HR.out, HR1.out]
          rfl
        go_wp2_with fail
        refine (isHeader_any h _).mono ?_
        rintro e w4 ⟨rfl, hw4⟩
        subst hw4
        rw [hh]
        go_wp2
        refine bodyPost_ret (v := .tuple #[.agg #[.int .i64 0, .string ⟨#[]⟩, .slice none 0 0], .iface 57 (.int .i64 1)]) (by simp [results, Try.results4, go_sem, *]) rfl ⟨_, _, _, by rw [HR1.out, HV1.out]; rfl, by rw [HV1.out]; exact own_none _ _, below_put3 HB3.out _ (by omega) _ _ _⟩
      · have HR0 : Hid (R = 0) := by
          show _ = _
          rw [HR.out, seN, if_pos HN0.out, if_pos HW0.out, hh]
          rfl
        have HV0 : Hid (V = frF Ls Hs Ts (X1, X2) h) := by
          show _ = _
          rw [HV.out, seV, ← HR.out, HR0.out, if_pos rfl, HXV.out]
        have HSP : Hid (spB S (X1, X2) = true) := by
          show _ = _
          have ht := (nt_0 HN0.out).1
          have hw := HW0.out
          rw [weN, if_pos ht] at hw
          have hv := HXV.out
          rw [weV, HW0.out, if_pos rfl] at hv
          cases hp : whereO Hs m with
          | none => rw [hp] at hw; simp at hw
          | some p =>
            rw [hp, Option.getD_some] at hv
            rw [← hv]
            exact where_sp ht hp
        clear r0 r1 r2 f0 f1 f2
        go_wp2_with fail
        refine (isHeader_any h _).mono ?_
        rintro e w4 ⟨rfl, hw4⟩
        subst hw4
        rw [hh]
        go_wp2_with fail
        refine (follow_any S ao n cap ao2 n2 cap2 ao3 n3 cap3 Ls Hs Ts X1 X2 h _ (HLW.out _ HB3.out) (HHW.out _ HB3.out) (HTW.out _ HB3.out) HN0.out HSP.out).mono ?_
        rintro e w5 ⟨ao4, n4, cap4, rfl, hown, hb5⟩
        rw [← HV0.out] at hown
        rw [← HV0.out]
        have hsz : w.heap.size + 1 < w4.heap.size := World.block_lt_of_cell? _ _ HX3.out.r0
        have HOW : Hid (∀ u v x, (put3 w5 (w.heap.size + 1) u v x).ownsRow w.heap.size 48 3 (.slice ao4 n4 cap4) V.2.2.length (cellsG hopE V.2.2)) := fun u v x => own_mono (own_put3 hown _ hsz u v x) (by omega)
        have HX5 : Hid (VBox w w5 S (.slice ao n cap) (.slice ao2 n2 cap2) (.slice ao3 n3 cap3)) := HX3.out.later hb5
        obtain ⟨hB5, ⟨b0, b1, b2, b3⟩, r0, r1, r2, f⟩ := HX5.out
        have HB5 : Hid (Below w.heap.size w w5) := hB5
        have f0 := f 0
        have f1 := f 1
        have f2 := f 2
        obtain ⟨V1, hV1⟩ : ∃ q, q = V.1 := ⟨_, rfl⟩
        obtain ⟨V2, hV2⟩ : ∃ q, q = V.2.1 := ⟨_, rfl⟩
        have HVV : Hid (V.1 = V1 ∧ V.2.1 = V2) := ⟨hV1.symm, hV2.symm⟩
        rw [← hV1, ← hV2]
        clear hown hb5 hB5 f hV1 hV2
        go_wp2
        refine bodyPost_ret (v := .tuple #[.agg #[.int .i64 V1, .string V2, .slice ao4 n4 cap4], .nilIface]) (by simp [results, Try.results4, go_sem, *]) rfl ⟨ao4, n4, cap4, by rw [HR0.out, HVV.out.1, HVV.out.2]; rfl, HOW.out _ _ _, below_put3 HB5.out _ (by omega) _ _ _⟩
    · rw [no_ne h5]
      have HNE : Hid (WN ≠ 0) := h5
      have HR1 : Hid (R = WN) := by
        show _ = _
        rw [HR.out, seN, if_pos HN0.out, if_neg (by rw [← HWN.out]; exact h5), HWN.out]
      have HV1 : Hid (V = zeF) := by
        show _ = _
        rw [HV.out, seV, ← HR.out, HR1.out, if_neg h5]
      clear h5
      go_wp2
      refine bodyPost_ret (v := .tuple #[.agg #[.int .i64 0, .string ⟨#[]⟩, .slice none 0 0], .iface 57 (.int .i64 WN)]) (by simp [results, Try.results4, go_sem, *]) rfl ⟨_, _, _, by rw [HR1.out, HV1.out, no_ne HNE.out]; rfl, by rw [HV1.out]; exact own_none _ _, below_put3 HB3.out _ (by omega) _ _ _⟩
  · rw [no_ne h0]
    have HNE : Hid (T ≠ 0) := h0
    have HR1 : Hid (R = T) := by
      show _ = _
      rw [HR.out, seN, if_neg (by rw [← HT.out]; exact h0), HT.out]
    have HV1 : Hid (V = zeF) := by
      show _ = _
      rw [HV.out, seV, ← HR.out, HR1.out, if_neg h0]
    clear h0
    go_wp2
    refine bodyPost_ret (v := .tuple #[.agg #[.int .i64 0, .string ⟨#[]⟩, .slice none 0 0], .iface 57 (.int .i64 T)]) (by simp [results, Try.results4, go_sem, *]) rfl ⟨_, _, _, by rw [HR1.out, HV1.out, no_ne HNE.out]; rfl, by rw [HV1.out]; exact own_none _ _, below_put3 HB1.out _ (by omega) _ _ _⟩
end Go.Proofs.Ytpmcjelihdlfeaa
/- What NetWalks asks of the hops of a packet: plain lists. No program in it. -/
namespace Go.Proofs.Ytpmcjelihdlfeaa
open Go.RowKit
set_option linter.unusedVariables false
set_option linter.unusedSimpArgs false

/-- The fact that is tried first. -/
theorem walks_one : seN 1 [] [(⟨#[97]⟩, (1, 2))] [[⟨1, 0, 0, 2, 0, 0⟩]] ⟨#[97]⟩ 5 = 0 ∧ (seV 1 [] [(⟨#[97]⟩, (1, 2))] [[⟨1, 0, 0, 2, 0, 0⟩]] ⟨#[97]⟩ 5).1 = 1 ∧ (seV 1 [] [(⟨#[97]⟩, (1, 2))] [[⟨1, 0, 0, 2, 0, 0⟩]] ⟨#[97]⟩ 5).2.1.data = #[97] ∧ (seV 1 [] [(⟨#[97]⟩, (1, 2))] [[⟨1, 0, 0, 2, 0, 0⟩]] ⟨#[97]⟩ 5).2.2.length = 1 := by decide +kernel
section
variable {S : Int} {Ls : List ((Int × Int) × (Int × Int))} {Hs : List (ByteArray × (Int × Int))} {Ts : List (List Ru)} {s : Int × Int} {h : Int}
/-- What is so of what becomes of a packet in a right net. -/
structure WF (S : Int) (Ls : List ((Int × Int) × (Int × Int))) (Hs : List (ByteArray × (Int × Int))) (Ts : List (List Ru)) (s : Int × Int) (h : Int) (V : Int × ByteArray × List ((Int × Int) × Int)) : Prop where
  l1 : 0 < V.2.2.length
  l24 : V.2.2.length ≤ 24
  nd : V.2.2.Nodup
  ch : ChH Ls Hs Ts V.2.2
  en : enE Ls Hs Ts V.2.2 (laH V.2.2) = .inl (V.1, V.2.1)
  at0 : atH V.2.2 0 = (s, h)
  good : ∀ i, i < V.2.2.length → cpN S Ls Hs Ts (atH V.2.2 i).1 (atH V.2.2 i).2 = 0
theorem cp_mk (h1 : ntN S Ls Hs Ts = 0) (h2 : spB S s = true) (h3 : hdrB h = true) : cpN S Ls Hs Ts s h = 0 := by
  rw [cpN, if_pos h1, h2, h3]
  rfl
theorem wf_of (hc : cpN S Ls Hs Ts s h = 0) : WF S Ls Hs Ts s h (frF Ls Hs Ts s h) := by
  obtain ⟨h1, h2, h3⟩ := cp_0 hc
  have hch : ChH Ls Hs Ts [(s, h)] := fun i hi => by simp at hi
  obtain ⟨rest, e1, e2, e3, e4, e5⟩ := fo_spec (Ls := Ls) (Hs := Hs) (Ts := Ts) 24 [(s, h)] (by simp) (by simp) (by omega) (by simp) hch
  have hl : 0 < (frF Ls Hs Ts s h).2.2.length := by
    show 0 < (foF Ls Hs Ts 24 [(s, h)]).2.2.length
    rw [e1]
    simp
  have h0 : atH (frF Ls Hs Ts s h).2.2 0 = (s, h) := by
    show atH (foF Ls Hs Ts 24 [(s, h)]).2.2 0 = _
    rw [e1]
    rfl
  refine ⟨hl, e2, e3, e4, e5, h0, ?_⟩
  intro i
  cases i with
  | zero =>
    intro _
    rw [h0]
    exact hc
  | succ i =>
    intro hi
    have hn := e4 i hi
    obtain ⟨g1, g2⟩ := nx_good (nt_0 h1).1 hn
    exact cp_mk h1 g1 g2
variable {V : Int × ByteArray × List ((Int × Int) × Int)}
/-- The last hop: it goes nowhere just if it is dropped. -/
theorem wf_last (hw : WF S Ls Hs Ts s h V) (hn : ntN S Ls Hs Ts = 0) : (spN S Ls Hs Ts (laH V.2.2).1 (laH V.2.2).2 ≠ 0 ↔ V.1 = 2) ∧ (V.1 = 1 ↔ V.2.1 ≠ ByteArray.empty) := by
  have he := en_end hw.en (name_ne (nt_0 hn).1)
  have hg := hw.good (V.2.2.length - 1) (by have := hw.l1; omega)
  rw [← la_at] at hg
  refine ⟨?_, he.2⟩
  rw [← he.1, spN, if_pos hg]
  cases hs : stO Ts ((laH V.2.2).1, (laH V.2.2).2) with
  | none => 
    have e : stO Ts (laH V.2.2) = none := hs
    simp [e]
  | some q =>
    have e : stO Ts (laH V.2.2) = some q := hs
    simp [e]
/-- A hop that is not the last: it goes on. -/
theorem wf_next (hw : WF S Ls Hs Ts s h V) (hn : ntN S Ls Hs Ts = 0) {i : Nat} (hi : i + 1 < V.2.2.length) :
    spN S Ls Hs Ts (atH V.2.2 i).1 (atH V.2.2 i).2 = 0 ∧ peN S Ls Hs (spV S Ls Hs Ts (atH V.2.2 i).1 (atH V.2.2 i).2).1 = 0 ∧ peV S Ls Hs (spV S Ls Hs Ts (atH V.2.2 i).1 (atH V.2.2 i).2).1 = (atH V.2.2 (i + 1)).1 ∧ (spV S Ls Hs Ts (atH V.2.2 i).1 (atH V.2.2 i).2).2 = (atH V.2.2 (i + 1)).2 := by
  have hg := hw.good i (by omega)
  obtain ⟨o, h1, h2, h3, h4⟩ := hw.ch i hi
  have h1' : stO Ts ((atH V.2.2 i).1, (atH V.2.2 i).2) = some o := h1
  have ht := (nt_0 hn).1
  have e1 : spN S Ls Hs Ts (atH V.2.2 i).1 (atH V.2.2 i).2 = 0 := by
    rw [spN, if_pos hg, h1']
    rfl
  have e2 : spV S Ls Hs Ts (atH V.2.2 i).1 (atH V.2.2 i).2 = o := by
    rw [spV, if_pos hg, h1']
    rfl
  rw [e2]
  have hsp : spB S o.1 = true := (tp_0 ht).2.2.1 o.1 (peer_in h3).1
  have hcs : csN S Ls Hs o.1 = 0 := by
    rw [csN, if_pos ht, hsp]
    rfl
  have hpe : peN S Ls Hs o.1 = 0 := by
    rw [peN, if_pos hcs, h3]
    rfl
  refine ⟨e1, hpe, ?_, h4.symm⟩
  rw [peV, if_pos hpe, h3]
  rfl
/-- From any hop on it ends likewise. -/
theorem wf_cut (hw : WF S Ls Hs Ts s h V) (h4 : V.1 ≠ 4) {k : Nat} (hk : k < V.2.2.length) :
    (frV S Ls Hs Ts (atH V.2.2 k).1 (atH V.2.2 k).2).1 = V.1 ∧ (frV S Ls Hs Ts (atH V.2.2 k).1 (atH V.2.2 k).2).2.1 = V.2.1 ∧ (frV S Ls Hs Ts (atH V.2.2 k).1 (atH V.2.2 k).2).2.2.length = V.2.2.length - k := by
  have hg := hw.good k hk
  have e : frV S Ls Hs Ts (atH V.2.2 k).1 (atH V.2.2 k).2 = foF Ls Hs Ts 24 [atH V.2.2 k] := by
    rw [frV, if_pos hg]
    rfl
  rw [e]
  have h := fo_tail hw.nd hw.ch hw.l24 hw.en h4 (V.2.2.length - k - 1) k [atH V.2.2 k] 24 (by omega) (by simp) (by simp) rfl (by
    intro x hx
    simp only [List.mem_singleton] at hx
    exact ⟨k, Nat.le_refl _, hx⟩) (by have := hw.l24; omega)
  refine ⟨h.1, h.2.1, ?_⟩
  rw [h.2.2]
  simp
  omega
end
end Go.Proofs.Ytpmcjelihdlfeaa
