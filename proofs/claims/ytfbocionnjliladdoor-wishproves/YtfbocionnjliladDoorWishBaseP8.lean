/- Contracts and facts on the way to WishBase, joined into one text: NetFollow, WishBreak, WishCheck. -/
import Derived.Test.YtfbocionnjliladDoorWishBaseP6
import Derived.Test.YtfbocionnjliladDoorWishBaseP7
import Derived.Test.YtfbocionnjliladDoorWishBaseP5
import Derived.BigRegion
import Derived.Deep.RegionWith
import Derived.Deep.RegionHeld3
import Derived.Deep.CutRange
import Derived.Deep.CutBlock
/- What net.follow answers: a contract for the walks above it. -/
namespace Go.Proofs.YtfbocionnjliladDoor
open Go.RowKit
set_option linter.unusedSimpArgs false
set_option linter.unusedVariables false

set_option maxHeartbeats 1000000 in
set_option maxRecDepth 100000 in
theorem follow1_any (n : ByteArray) (x0 x1 : Int) (B : Nat) (x y : Int) (w : World) (h0 : w.cell? ⟨B, 0, none⟩ = some (.int .i64 x)) (h1 : w.cell? ⟨B, 1, none⟩ = some (.int .i64 y)) :
    Calls Tryd.prog 64 #[.agg #[.string n, .int .i64 x0, .int .i64 x1], .pointer (some ⟨B, 0, none⟩)] w fun e w' => e = .returned (.bool (sq (x0, x1) (x, y))) ∧ Below w.heap.size w w' := by
  have hlt : B < w.heap.size := World.block_lt_of_cell? _ _ h0
  have HB0 : Hid (Below w.heap.size w (w.alloc (Obj.cells #[Value.string n, Value.int IntKind.i64 x0, Value.int IntKind.i64 x1] 55))) := (Below.refl _ _).alloc (Nat.le_refl _) _
  have hr : sq (x0, x1) (x, y) = (x0 == x && x1 == y) := rfl
  rw [hr]
  clear hr
  cases g1 : (x0 == x) <;> cases g2 : (x1 == y)
  all_goals
    simp only [Bool.and_true, Bool.and_false, Bool.and_self]
    go_enter Tryd.func64, Tryd.ntmps64
    go_wp2
    go_ret
    exact ⟨rfl, HB0.out⟩
theorem follow1_asks (B : Nat) (x y : Int) (w : World) (h0 : w.cell? ⟨B, 0, none⟩ = some (.int .i64 x)) (h1 : w.cell? ⟨B, 1, none⟩ = some (.int .i64 y)) : hstAsks w 64 (.pointer (some ⟨B, 0, none⟩)) (fun h => sq h.2 (x, y)) :=
  fun n x0 x1 W hW => follow1_any n x0 x1 B x y W (cell_later hW h0) (cell_later hW h1)
/-- The boxes: a net, a hop, the answer's. -/
def fbox (w : World) (S : Int) (v1 v2 v3 : Value) (x y h : Int) : World := ((w.alloc (Obj.cells #[.int .i64 S, v1, v2, v3] 28)).alloc (Obj.cells #[.int .i64 x, .int .i64 y, .int .i64 h] 93)).alloc (Obj.cells #[.int .i64 0, .string ⟨#[]⟩, .slice none 0 0] 64)
structure FBox (w W : World) (S : Int) (v1 v2 v3 : Value) (x y h : Int) : Prop where
  below : Below w.heap.size w W
  n : NeBox W w.heap.size S v1 v2 v3
  i0 : W.cell? ⟨w.heap.size + 1, 0, none⟩ = some (.int .i64 x)
  i1 : W.cell? ⟨w.heap.size + 1, 1, none⟩ = some (.int .i64 y)
  i2 : W.cell? ⟨w.heap.size + 1, 2, none⟩ = some (.int .i64 h)
  r0 : W.cell? ⟨w.heap.size + 1 + 1, 0, none⟩ = some (.int .i64 0)
  r1 : W.cell? ⟨w.heap.size + 1 + 1, 1, none⟩ = some (.string ⟨#[]⟩)
  r2 : W.cell? ⟨w.heap.size + 1 + 1, 2, none⟩ = some (.slice none 0 0)
  f : ∀ i, W.frozen? ⟨w.heap.size + 1 + 1, i, none⟩ = false
theorem fbox_new (w : World) (S : Int) (v1 v2 v3 : Value) (x y h : Int) : FBox w (fbox w S v1 v2 v3 x y h) S v1 v2 v3 x y h := by
  have e1 : (w.alloc (Obj.cells #[.int .i64 S, v1, v2, v3] 28)).heap.size = w.heap.size + 1 := by simp
  have e2 : ((w.alloc (Obj.cells #[.int .i64 S, v1, v2, v3] 28)).alloc (Obj.cells #[.int .i64 x, .int .i64 y, .int .i64 h] 93)).heap.size = w.heap.size + 1 + 1 := by simp
  have hb : ∀ (W : World) (o : Obj), Below W.heap.size W (W.alloc o) := fun W o => (Below.refl _ _).alloc (Nat.le_refl _) _
  have hs := (vat_new (w.alloc (Obj.cells #[.int .i64 S, v1, v2, v3] 28)) [.int .i64 x, .int .i64 y, .int .i64 h] 93).later (hb _ (Obj.cells #[.int .i64 0, .string ⟨#[]⟩, .slice none 0 0] 64))
  rw [e1] at hs
  have hr := vat_new ((w.alloc (Obj.cells #[.int .i64 S, v1, v2, v3] 28)).alloc (Obj.cells #[.int .i64 x, .int .i64 y, .int .i64 h] 93)) [.int .i64 0, .string ⟨#[]⟩, .slice none 0 0] 64
  rw [e2] at hr
  have hf : ∀ k, (fbox w S v1 v2 v3 x y h).frozen? ⟨((w.alloc (Obj.cells #[.int .i64 S, v1, v2, v3] 28)).alloc (Obj.cells #[.int .i64 x, .int .i64 y, .int .i64 h] 93)).heap.size, k, none⟩ = false := fun k => by
    unfold fbox
    generalize (w.alloc (Obj.cells #[.int .i64 S, v1, v2, v3] 28)).alloc (Obj.cells #[.int .i64 x, .int .i64 y, .int .i64 h] 93) = X
    simp
  rw [e2] at hf
  exact ⟨(((Below.refl _ _).alloc (Nat.le_refl _) _).alloc (by rw [e1]; omega) _).alloc (by rw [e2]; omega) _, ((nebox_new w S v1 v2 v3 28).later (hb _ _)).later (hb _ _), hs 0 _ rfl, hs 1 _ rfl, hs 2 _ rfl, hr 0 _ rfl, hr 1 _ rfl, hr 2 _ rfl, hf⟩
theorem FBox.lt {w W : World} {S : Int} {v1 v2 v3 : Value} {x y h : Int} (k : FBox w W S v1 v2 v3 x y h) : w.heap.size + 3 ≤ W.heap.size := World.block_lt_of_cell? W ⟨w.heap.size + 1 + 1, 0, none⟩ k.r0
theorem FBox.later {w W W' : World} {S : Int} {v1 v2 v3 : Value} {x y h : Int} (k : FBox w W S v1 v2 v3 x y h) {B : Nat} (hB : w.heap.size + 3 ≤ B) (hb : Below B W W') : FBox w W' S v1 v2 v3 x y h :=
  have hc : ∀ (g i : Nat) (x : Value), g < w.heap.size + 3 → W.cell? ⟨g, i, none⟩ = some x → W'.cell? ⟨g, i, none⟩ = some x := fun g i x hg e => (hb.cell (p := ⟨g, i, none⟩) (show g < B by omega)).trans e
  ⟨k.below.trans (hb.mono (by omega)), ⟨hc _ _ _ (by omega) k.n.1, hc _ _ _ (by omega) k.n.2.1, hc _ _ _ (by omega) k.n.2.2.1, hc _ _ _ (by omega) k.n.2.2.2⟩, hc _ _ _ (by omega) k.i0, hc _ _ _ (by omega) k.i1, hc _ _ _ (by omega) k.i2, hc _ _ _ (by omega) k.r0, hc _ _ _ (by omega) k.r1, hc _ _ _ (by omega) k.r2, fun i => (hb.frozen (p := ⟨w.heap.size + 1 + 1, i, none⟩) (show w.heap.size + 1 + 1 < B by omega)).trans (k.f i)⟩

theorem ballocD {w w' : World} {a b c : Value} {t : TypeId} (hb : Below (w.drew.alloc (Obj.cells #[a, b, c] t)).heap.size (w.drew.alloc (Obj.cells #[a, b, c] t)) w') : (w'.cell? ⟨w.heap.size, 0, none⟩ = some a ∧ w'.cell? ⟨w.heap.size, 1, none⟩ = some b ∧ w'.cell? ⟨w.heap.size, 2, none⟩ = some c) ∧ w'.frozen? ⟨w.heap.size, 0, none⟩ = false ∧ w'.frozen? ⟨w.heap.size, 1, none⟩ = false ∧ w'.frozen? ⟨w.heap.size, 2, none⟩ = false := by
  have h := vat_new w.drew [a, b, c] t
  have hl : w.heap.size < (w.drew.alloc (Obj.cells #[a, b, c] t)).heap.size := by simp
  exact ⟨⟨cell_later hb (h 0 _ rfl), cell_later hb (h 1 _ rfl), cell_later hb (h 2 _ rfl)⟩, (hb.frozen (p := ⟨w.heap.size, 0, none⟩) hl).trans (froz_new2 w.drew #[a, b, c] t 0), (hb.frozen (p := ⟨w.heap.size, 1, none⟩) hl).trans (froz_new2 w.drew #[a, b, c] t 1), (hb.frozen (p := ⟨w.heap.size, 2, none⟩) hl).trans (froz_new2 w.drew #[a, b, c] t 2)⟩
/-- Three cells of one block are set. -/
def put3 (W : World) (g : Nat) (u v x : Value) : World := ((W.setCell ⟨g, 0, none⟩ u).setCell ⟨g, 1, none⟩ v).setCell ⟨g, 2, none⟩ x
theorem put3_cells {W : World} {g : Nat} {a b c u v x : Value} (k : W.cell? ⟨g, 0, none⟩ = some u ∧ W.cell? ⟨g, 1, none⟩ = some v ∧ W.cell? ⟨g, 2, none⟩ = some x) : (put3 W g a b c).cell? ⟨g, 0, none⟩ = some a ∧ (put3 W g a b c).cell? ⟨g, 1, none⟩ = some b ∧ (put3 W g a b c).cell? ⟨g, 2, none⟩ = some c := by
  unfold put3
  have h1 : (W.setCell ⟨g, 0, none⟩ a).cell? ⟨g, 1, none⟩ = some v := by
    rw [World.cell?_setCell_other _ _ _ _ (by simp)]
    exact k.2.1
  have h2 : ((W.setCell ⟨g, 0, none⟩ a).setCell ⟨g, 1, none⟩ b).cell? ⟨g, 2, none⟩ = some x := by
    rw [World.cell?_setCell_other _ _ _ _ (by simp), World.cell?_setCell_other _ _ _ _ (by simp)]
    exact k.2.2
  refine ⟨?_, ?_, World.cell?_setCell_same _ _ _ h2⟩
  · rw [World.cell?_setCell_other _ _ _ _ (by simp), World.cell?_setCell_other _ _ _ _ (by simp)]
    exact World.cell?_setCell_same _ _ _ k.1
  · rw [World.cell?_setCell_other _ _ _ _ (by simp)]
    exact World.cell?_setCell_same _ _ _ h1
theorem below_put3 {B : Nat} {w W : World} (h : Below B w W) (g : Nat) (hg : B ≤ g) (u v x : Value) : Below B w (put3 W g u v x) := ((h.setCell (p := ⟨g, 0, none⟩) hg u).setCell (p := ⟨g, 1, none⟩) hg v).setCell (p := ⟨g, 2, none⟩) hg x
theorem own_put3 {W : World} {B e size n : Nat} {v : Value} {xs : List Value} (h : W.ownsRow B e size v n xs) (g : Nat) (hg : g < B) (a b c : Value) : (put3 W g a b c).ownsRow B e size v n xs := ownsRow_setCell_below (ownsRow_setCell_below (ownsRow_setCell_below h hg _) hg _) hg _
theorem hop_in {x y h : Int} {p : (Int × Int) × Int} (e : p = ((x, y), h)) : p.1.1 = x ∧ p.1.2 = y ∧ p.2 = h := by
  subst e
  exact ⟨rfl, rfl, rfl⟩
def sliL : Value → Nat
  | .slice _ n _ => n
  | _ => 0

set_option maxHeartbeats 8000000 in
set_option maxRecDepth 100000 in
theorem follow_any (S : Int) (ao : Option Addr) (n cap : Nat) (ao2 : Option Addr) (n2 cap2 : Nat) (ao3 : Option Addr) (n3 cap3 : Nat) (Ls : List ((Int × Int) × (Int × Int))) (Hs : List (ByteArray × (Int × Int))) (Ts : List (List Ru)) (x y h : Int) (w : World)
    (hL : GS lnkE w (.slice ao n cap) Ls) (hH : GS hstE w (.slice ao2 n2 cap2) Hs) (hT : TS w (.slice ao3 n3 cap3) Ts) (hN : ntN S Ls Hs Ts = 0) (hx : spB S (x, y) = true) :
    Calls Tryd.prog 38 #[.agg #[.int .i64 S, .slice ao n cap, .slice ao2 n2 cap2, .slice ao3 n3 cap3], .agg #[.int .i64 x, .int .i64 y, .int .i64 h]] w fun e w' => ∃ ao4 n4 cap4, e = .returned (.agg #[.int .i64 (frF Ls Hs Ts (x, y) h).1, .string (frF Ls Hs Ts (x, y) h).2.1, .slice ao4 n4 cap4]) ∧ w'.ownsRow w.heap.size 93 3 (.slice ao4 n4 cap4) (frF Ls Hs Ts (x, y) h).2.2.length (cellsG hopE (frF Ls Hs Ts (x, y) h).2.2) ∧ Below w.heap.size w w' := by
  obtain ⟨hTP, hTL, hTT⟩ := nt_0 hN
  have hS := (tp_0 hTP).1
  have hnd := (tp_0 hTP).2.2.2.1
  have hTn := hT.len
  have hLn := hL.len
  have hl2 := (tp_0 hTP).2.1
  have HTP : Hid (tpN S Ls Hs = 0) := hTP
  have HND : Hid ((spsL Ls).Nodup) := hnd
  have HN1 : Hid (n ≤ 1000) := by show _ ≤ _; omega
  have HTT : Hid (∀ k, k < Ts.length → tbN (Ts.getD k []) = 0) := hTT
  have H36 : Hid (n3 ≤ 6) := by show _ ≤ _; omega
  have H3S : Hid ((n3 : Int) = S) := by show _ = _; omega
  have HLW : Hid (∀ W, Below w.heap.size w W → GS lnkE W (.slice ao n cap) Ls) := fun W hb => hL.later hb
  have HHW : Hid (∀ W, Below w.heap.size w W → GS hstE W (.slice ao2 n2 cap2) Hs) := fun W hb => hH.later hb
  have HTW : Hid (∀ W, Below w.heap.size w W → TS W (.slice ao3 n3 cap3) Ts) := fun W hb => hT.later hb
  obtain ⟨F, hF⟩ : ∃ F, F = frF Ls Hs Ts (x, y) h := ⟨_, rfl⟩
  have HF : Hid (F = foF Ls Hs Ts 24 [((x, y), h)]) := hF
  rw [← hF]
  have hX := fbox_new w S (.slice ao n cap) (.slice ao2 n2 cap2) (.slice ao3 n3 cap3) x y h
  obtain ⟨w0, hw0⟩ : ∃ W, W = fbox w S (.slice ao n cap) (.slice ao2 n2 cap2) (.slice ao3 n3 cap3) x y h := ⟨_, rfl⟩
  rw [← hw0] at hX
  have HX : Hid (FBox w w0 S (.slice ao n cap) (.slice ao2 n2 cap2) (.slice ao3 n3 cap3) x y h) := hX
  have HW0 : Hid (((w.alloc (Obj.cells #[.int .i64 S, .slice ao n cap, .slice ao2 n2 cap2, .slice ao3 n3 cap3] 28)).alloc (Obj.cells #[.int .i64 x, .int .i64 y, .int .i64 h] 93)).alloc (Obj.cells #[.int .i64 0, .string ⟨#[]⟩, .slice none 0 0] 64) = w0) := hw0.symm
  have HXX : Hid (spB S (x, y) = true) := hx
  clear hL hH hT hN hTP hTL hTT hS hnd hTn hLn hl2 hF hX hw0 hx
  go_enter Tryd.func38, Tryd.ntmps38
  go_upto_region 1 with fail
  rw [HW0.out]
  obtain ⟨_, ⟨b0, b1, b2, b3⟩, i0, i1, i2, r0, r1, r2, f⟩ := HX.out
  clear HW0 f
  go_wp2_with fail
  refine (peers_any ao n cap Ls _ (HLW.out _ HX.out.below) HND.out HN1.out).mono ?_
  rintro e w1 ⟨B, M, rfl, hM, hPM, hb1⟩
  have HM : Hid (MAt spotKey veS w1 B M) := hM
  have HPM : Hid (PM M Ls) := hPM
  have HX1 : Hid (FBox w w1 S (.slice ao n cap) (.slice ao2 n2 cap2) (.slice ao3 n3 cap3) x y h) := HX.out.later HX.out.lt hb1
  have hlB : B < w1.heap.size := hM.lt
  obtain ⟨_, ⟨b0, b1, b2, b3⟩, i0, i1, i2, r0, r1, r2, f⟩ := HX1.out
  clear f hM hPM hb1 HX
  go_wp2
  have HLW1 : Hid (w.heap.size + 3 ≤ w1.heap.size) := HX1.out.lt
  have HO1 : Hid ((w1.alloc (Obj.cells #[.int .i64 x, .int .i64 y, .int .i64 h] 93)).ownsRow w1.heap.size 93 3 (.slice (some ⟨w1.heap.size, 0, none⟩) 1 1) ([((x, y), h)] : List ((Int × Int) × Int)).length (cellsG hopE [((x, y), h)])) :=
    World.ownsRow_lit (base := w1.heap.size) (e := 93) (size := 3) w1 #[.int .i64 x, .int .i64 y, .int .i64 h] 1 (Nat.le_refl _) (by decide) rfl
  clear b0 b1 b2 b3 i0 i1 i2 r0 r1 r2
  go_loopw [6] (fun v wr => ∃ l : List ((Int × Int) × Int), (0 < l.length ∧ l.length ≤ 24) ∧ wr.ownsRow w1.heap.size 93 3 v l.length (cellsG hopE l) ∧ F = foF Ls Hs Ts (25 - l.length) l ∧ spB S (laH l).1 = true ∧ Below w1.heap.size w1 wr) (fun v _ => 25 - sliL v)
  case atStart => exact ⟨[((x, y), h)], by simp, HO1.out, HF.out, HXX.out, (Below.refl _ _).alloc (Nat.le_refl _) _⟩
  case round =>
    obtain ⟨l, ⟨hl0, hl24⟩, hown, hFl, hsp, hBr⟩ := hrel
    obtain ⟨ao5, cap5, rfl⟩ := own_form hown
    obtain ⟨wo, hwo⟩ : ∃ X, X = wr := ⟨_, rfl⟩
    subst hwo
    obtain ⟨m, hm⟩ : ∃ m, m = l.length := ⟨_, rfl⟩
    have HML : Hid (l.length = m) := hm.symm
    rw [← hm] at hown hl0 hl24 hFl
    rw [← hm]
    have HOWN : Hid (wo.ownsRow w1.heap.size 93 3 (.slice ao5 m cap5) m (cellsG hopE l)) := hown
    have HFL : Hid (F = foF Ls Hs Ts (25 - l.length) l) := by
      show _ = _
      rw [← hm]
      exact hFl
    have HL24 : Hid (l.length ≤ 24) := by
      show _ ≤ _
      omega
    have HBr : Hid (Below w1.heap.size w1 wo) := hBr
    have HXo : Hid (FBox w wo S (.slice ao n cap) (.slice ao2 n2 cap2) (.slice ao3 n3 cap3) x y h) := HX1.out.later HX1.out.lt hBr
    have HMo : Hid (MAt spotKey veS wo B M) := HM.out.later hBr
    obtain ⟨_, _, _, e5, hGn, hGm, _, hGa⟩ := (own_GS (E := hopE) (L := l) (by rw [← hm]; exact hown) : GS hopE wo (.slice ao5 m cap5) l).form
    cases e5
    obtain ⟨g5, o5, hao5, hc5, _⟩ := hGa hl0
    subst hao5
    obtain ⟨p0, p1, p2, hkl, hLk, c0, c1, c2⟩ := hop_at hc5 HML.out (show m - 1 < m by omega)
    have hla : laH l = ((p0, p1), p2) := by
      have e : laH l = l[m - 1] := by
        unfold laH
        rw [← hm]
        simp [List.getD, hkl]
      rw [e, hLk]
    have HLA : Hid (laH l = ((p0, p1), p2)) := hla
    rw [hla] at hsp
    have hsp2 := sp_of hsp
    simp only at hsp2
    have HS1 : Hid (1 ≤ p0) := hsp2.1
    have HS2 : Hid (p0 ≤ (n3 : Int)) := by
      show _ ≤ _
      rw [H3S.out]
      exact hsp2.2.1
    obtain ⟨A, hA⟩ : ∃ A, A = stO Ts ((p0, p1), p2) := ⟨_, rfl⟩
    have HA : Hid (stO Ts (laH l) = A) := by
      show _ = _
      rw [hla, hA]
    have HA2 : Hid (stO Ts ((p0, p1), p2) = A) := hA.symm
    obtain ⟨Q1, hQ1⟩ : ∃ q, q = (A.getD zeH).1.1 := ⟨_, rfl⟩
    obtain ⟨Q2, hQ2⟩ : ∃ q, q = (A.getD zeH).1.2 := ⟨_, rfl⟩
    obtain ⟨Q3, hQ3⟩ : ∃ q, q = (A.getD zeH).2 := ⟨_, rfl⟩
    obtain ⟨okb, hokb⟩ : ∃ q, q = A.isSome := ⟨_, rfl⟩
    have HQ1 : Hid ((A.getD zeH).1.1 = Q1) := hQ1.symm
    have HQ2 : Hid ((A.getD zeH).1.2 = Q2) := hQ2.symm
    have HQ3 : Hid ((A.getD zeH).2 = Q3) := hQ3.symm
    have HOKB : Hid (A.isSome = okb) := hokb.symm
    have hmi : IntKind.i64.wrap ((m : Int) - 1) = ((m - 1 : Nat) : Int) := by
      rw [show (m : Int) - 1 = ((m - 1 : Nat) : Int) by omega]
      exact wrap_small (by omega) (by omega)
    have mb0 : (0 : Int) ≤ ((m - 1 : Nat) : Int) := by omega
    have mb1 : ((m - 1 : Nat) : Int) < (m : Int) := by omega
    obtain ⟨_, ⟨b0, b1, b2, b3⟩, i0, i1, i2, r0, r1, r2, f⟩ := HXo.out
    have hlw : w.heap.size < wo.heap.size := World.block_lt_of_cell? _ _ b0
    have hlg : g5 < wo.heap.size := World.block_lt_of_cell? _ _ c0
    clear hown hFl hsp hBr hm hGn hGm hGa hc5 hLk hla hsp2 hA hQ1 hQ2 hQ3 hokb f HO1 HF HXX HX1 HM i0 i1 i2 r0 r1 r2
    go_upto_region 3 with fail
    go_cut [7, 8] from 18 to 28 (fun p q w' => ∃ g, p = .pointer (some ⟨g, 0, none⟩) ∧ q = .bool okb ∧ (w'.cell? ⟨g, 0, none⟩ = some (.int .i64 Q1) ∧ w'.cell? ⟨g, 1, none⟩ = some (.int .i64 Q2) ∧ w'.cell? ⟨g, 2, none⟩ = some (.int .i64 Q3)) ∧ Below wo.heap.size wo w')
    case first =>
      go_region_with (go_at_call 63; refine (step_any S ao n cap ao2 n2 cap2 ao3 n3 cap3 Ts p0 p1 p2 _ (HTW.out _ (HXo.out.below.trans (Below.mono (by first | exact Below.drew (Below.refl _ _) | exact (Below.drew (Below.refl _ _)).alloc (Nat.le_refl _) _) HXo.out.below.size))) HTT.out HS1.out HS2.out H36.out).mono ?_; rintro e w' ⟨rfl, hb⟩; rw [HA2.out, HQ1.out, HQ2.out, HQ3.out, HOKB.out]; have HBX : Hid (Below wo.heap.size wo w') := (by first | exact bdrew hb | exact balloc hb); try (have hbc := ballocD hb; obtain ⟨kc, kf0, kf1, kf2⟩ := hbc; obtain ⟨k0, k1, k2⟩ := kc); clear hb)
      all_goals (go_wp2_with fail; go_meet)
      all_goals first
        | exact ⟨_, rfl, rfl, ⟨by simp, by simp, by simp⟩, HBX.out.alloc HBX.out.size _⟩
        | exact ⟨_, rfl, rfl, put3_cells ⟨k0, k1, k2⟩, below_put3 HBX.out _ (Nat.le_refl _) _ _ _⟩
    case rest =>
      obtain ⟨g, rfl, rfl, ⟨d0, d1, d2⟩, hbw⟩ := hcut
      have HXc : Hid (FBox w wc S (.slice ao n cap) (.slice ao2 n2 cap2) (.slice ao3 n3 cap3) x y h) := HXo.out.later HXo.out.lt hbw
      have HOc : Hid (wc.ownsRow w1.heap.size 93 3 (.slice (some ⟨g5, o5, none⟩) m cap5) m (cellsG hopE l)) := own_below HOWN.out hbw
      have HMc : Hid (MAt spotKey veS wc B M) := HMo.out.later hbw
      have HBc : Hid (Below w1.heap.size w1 wc) := HBr.out.trans (hbw.mono HBr.out.size)
      obtain ⟨hBw, ⟨b0, b1, b2, b3⟩, i0, i1, i2, r0, r1, r2, f⟩ := HXc.out
      have HBw : Hid (Below w.heap.size w wc) := hBw
      have f0 := f 0
      have f1 := f 1
      have f2 := f 2
      have hlw1 : w.heap.size + 3 ≤ w1.heap.size := HLW1.out
      clear hbw f hBw HXo HOWN HMo HBr c0 c1 c2
      cases okb with
      | false =>
        have HF2 : Hid (F = (2, ByteArray.empty, l)) := by
          show _ = _
          rw [HFL.out]
          refine fo_2 HL24.out ?_
          rw [HA.out]
          have := HOKB.out
          cases A with
          | none => rfl
          | some _ => cases this
        go_wp2
        refine bodyPost_ret (v := .agg #[.int .i64 2, .string ⟨#[]⟩, .slice (some ⟨g5, o5, none⟩) m cap5]) (by simp [results, Tryd.results38, go_sem, *]) rfl ⟨_, _, _, by rw [HF2.out]; rfl, ?_, below_put3 HBw.out _ (by omega) _ _ _⟩
        rw [HF2.out]
        exact own_mono (B := w1.heap.size) (by rw [HML.out]; exact own_put3 HOc.out _ (by omega) _ _ _) (by have := HLW1.out; omega)
      | true =>
        have HAS : Hid (A = some ((Q1, Q2), Q3)) := by
          show _ = _
          have h1 := HOKB.out
          have h2 := HQ1.out
          have h3 := HQ2.out
          have h4 := HQ3.out
          cases A with
          | none => cases h1
          | some q =>
            obtain ⟨⟨q1, q2⟩, q3⟩ := q
            simp only [Option.getD_some] at h2 h3 h4
            rw [h2, h3, h4]
        have HK : Hid (hstAsks wc 64 (.pointer (some ⟨g, 0, none⟩)) (fun h => sq h.2 (Q1, Q2))) := follow1_asks g Q1 Q2 wc d0 d1
        obtain ⟨_, _, _, e6, hHn, hHm, _, hHa⟩ := (HHW.out _ HBw.out).form
        cases e6
        have HHN : Hid (Hs.length = n2) := hHn
        have HHM : Hid (n2 ≤ maxLen) := hHm
        have HHA : Hid (0 < n2 → ∃ g o, ao2 = some ⟨g, o, none⟩ ∧ GAt hstE wc g o Hs ∧ cap2 ≤ maxLen) := hHa
        have HD : Hid (VAt wc g 0 (hopE.c ((Q1, Q2), Q3))) := by
          intro j u hu
          match j, hu with
          | 0, hu => cases hu; exact d0
          | 1, hu => cases hu; exact d1
          | 2, hu => cases hu; exact d2
        clear hHn hHm hHa r0 r1 r2 f0 f1 f2
        go_wp2_with fail
        refine (hst_idxF ao2 n2 cap2 _ _ (fun h => sq h.2 (Q1, Q2)) Hs _ HHN.out HHM.out HHA.out (enters_of Tryd.func64 (by kernel_rfl) rfl) HK.out).mono ?_
        rintro e w2 ⟨rfl, hb2⟩
        have HX2 : Hid (FBox w w2 S (.slice ao n cap) (.slice ao2 n2 cap2) (.slice ao3 n3 cap3) x y h) := HXc.out.later HXc.out.lt hb2
        have HO2 : Hid (w2.ownsRow w1.heap.size 93 3 (.slice (some ⟨g5, o5, none⟩) m cap5) m (cellsG hopE l)) := own_below HOc.out hb2
        have HM2 : Hid (MAt spotKey veS w2 B M) := HMc.out.later hb2
        have HB2 : Hid (Below w1.heap.size w1 w2) := HBc.out.trans (hb2.mono HBc.out.size)
        have HHA2 : Hid (0 < n2 → ∃ g o, ao2 = some ⟨g, o, none⟩ ∧ GAt hstE w2 g o Hs ∧ cap2 ≤ maxLen) := fun h => by
          obtain ⟨g, o, e1, e2, e3⟩ := HHA.out h
          exact ⟨g, o, e1, e2.later hb2, e3⟩
        have HD2 : Hid (VAt w2 g 0 (hopE.c ((Q1, Q2), Q3))) := HD.out.later hb2
        obtain ⟨d0, d1, d2⟩ := hop_cells HD2.out
        simp only [Nat.zero_add] at d0 d1 d2
        obtain ⟨hBw2, ⟨b0, b1, b2, b3⟩, i0, i1, i2, r0, r1, r2, f⟩ := HX2.out
        have HBw2 : Hid (Below w.heap.size w w2) := hBw2
        have f0 := f 0
        have f1 := f 1
        have f2 := f 2
        have hlg2 : g < w2.heap.size := World.block_lt_of_cell? _ _ d0
        have hlr2 : w.heap.size + 1 + 1 < w2.heap.size := World.block_lt_of_cell? _ _ r0
        have hlw2 : w.heap.size < w2.heap.size := World.block_lt_of_cell? _ _ b0
        have hs12 : w1.heap.size ≤ w2.heap.size := HB2.out.size
        clear hb2 f hBw2 HXc HOc HMc HBc HHA HK HD HBw
        rcases at_ix Hs (Q1, Q2) with ⟨hi, ho⟩ | ⟨k, hk, hi, ho⟩
        · rw [hi]
          have HAT : Hid (atO Hs (Q1, Q2) = none) := ho
          have hlk := peer_look HM2.out HPM.out Q1 Q2
          obtain ⟨P, hP⟩ : ∃ P, P = peerO Ls (Q1, Q2) := ⟨_, rfl⟩
          have HP : Hid (peerO Ls (Q1, Q2) = P) := hP.symm
          rw [← hP] at hlk
          clear hi ho hP
          cases P with
          | none =>
            have HF2 : Hid (F = (3, ByteArray.empty, l)) := by
              show _ = _
              rw [HFL.out]
              exact fo_3 HL24.out (HA.out.trans HAS.out) HAT.out HP.out
            simp only [Option.getD_none, Option.isSome_none] at hlk
            go_wp2
            refine bodyPost_ret (v := .agg #[.int .i64 3, .string ⟨#[]⟩, .slice (some ⟨g5, o5, none⟩) m cap5]) (by simp [results, Tryd.results38, go_sem, *]) rfl ⟨_, _, _, by rw [HF2.out]; rfl, ?_, (below_put3 HBw2.out _ (by omega) _ _ _).alloc (below_put3 HBw2.out _ (by omega) _ _ _).size _⟩
            rw [HF2.out]
            exact own_mono (B := w1.heap.size) (by rw [HML.out]; exact (own_put3 HO2.out _ (by omega) _ _ _).alloc _) (by have := HLW1.out; omega)
          | some s =>
            obtain ⟨P1, P2⟩ := s
            simp only [Option.getD_some, Option.isSome_some] at hlk
            by_cases h24 : m = 24
            · have e24 : ((m : Int) == 24) = true := by simp [h24]
              have HF2 : Hid (F = (4, ByteArray.empty, l)) := by
                show _ = _
                rw [HFL.out]
                exact fo_4 HL24.out (HA.out.trans HAS.out) HAT.out HP.out (.inl (HML.out.trans h24))
              clear h24
              have hlr3 : w.heap.size + 1 + 1 < w2.heap.size + 1 := by omega
              go_wp2
              clear e24
              refine bodyPost_ret (v := .agg #[.int .i64 4, .string ⟨#[]⟩, .slice (some ⟨g5, o5, none⟩) m cap5]) (by simp [results, Tryd.results38, go_sem, *]) rfl ⟨_, _, _, by rw [HF2.out]; rfl, ?_, ((below_put3 HBw2.out _ (by omega) _ _ _).alloc (below_put3 HBw2.out _ (by omega) _ _ _).size _).alloc ((below_put3 HBw2.out _ (by omega) _ _ _).alloc (below_put3 HBw2.out _ (by omega) _ _ _).size _).size _⟩
              rw [HF2.out]
              exact own_mono (B := w1.heap.size) (by rw [HML.out]; exact ((own_put3 HO2.out _ (by omega) _ _ _).alloc _).alloc _) (by have := HLW1.out; omega)
            · have e24 : ((m : Int) == 24) = false := by simp; omega
              have HN24 : Hid (l.length ≠ 24) := by
                show _ ≠ _
                rw [HML.out]
                exact h24
              have hbA : Below w2.heap.size w2 ((w2.alloc (Obj.cells #[.int .i64 P1, .int .i64 P2] 53)).alloc (Obj.cells #[.int .i64 P1, .int .i64 P2, .int .i64 Q3] 93)) := ((Below.refl _ _).alloc (Nat.le_refl _) _).alloc (by simp) _
              have hvA := hop_new (w2.alloc (Obj.cells #[.int .i64 P1, .int .i64 P2] 53)) P1 P2 Q3 93
              rw [show (w2.alloc (Obj.cells #[.int .i64 P1, .int .i64 P2] 53)).heap.size = w2.heap.size + 1 by simp] at hvA
              obtain ⟨w3, hw3⟩ : ∃ W, (w2.alloc (Obj.cells #[.int .i64 P1, .int .i64 P2] 53)).alloc (Obj.cells #[.int .i64 P1, .int .i64 P2, .int .i64 Q3] 93) = W := ⟨_, rfl⟩
              rw [hw3] at hbA hvA
              have HVA : Hid (VAt w3 (w2.heap.size + 1) 0 (hopE.c ((P1, P2), Q3))) := hvA
              have HBA : Hid (Below w2.heap.size w2 w3) := hbA
              have HW3 : Hid ((w2.alloc (Obj.cells #[.int .i64 P1, .int .i64 P2] 53)).alloc (Obj.cells #[.int .i64 P1, .int .i64 P2, .int .i64 Q3] 93) = w3) := hw3
              have HO3 : Hid (w3.ownsRow w1.heap.size 93 3 (.slice (some ⟨g5, o5, none⟩) m cap5) m (cellsG hopE l)) := own_below HO2.out hbA
              clear h24 hbA hvA hw3
              go_wp2_with fail
              rw [HW3.out]
              refine (hop_has (some ⟨g5, o5, none⟩) m cap5 P1 P2 Q3 l _ (own_GS (by rw [HML.out]; exact HO3.out))).mono ?_
              rintro e w4 ⟨rfl, hb4⟩
              obtain ⟨c, hc⟩ : ∃ c, c = l.any fun a => hopB ((P1, P2), Q3) a := ⟨_, rfl⟩
              have HC : Hid ((l.any fun a => hopB ((P1, P2), Q3) a) = c) := hc.symm
              rw [← hc]
              have hB24 : Below w2.heap.size w2 w4 := HBA.out.trans (hb4.mono HBA.out.size)
              have HX4 : Hid (FBox w w4 S (.slice ao n cap) (.slice ao2 n2 cap2) (.slice ao3 n3 cap3) x y h) := HX2.out.later HX2.out.lt hB24
              have HO4 : Hid (w4.ownsRow w1.heap.size 93 3 (.slice (some ⟨g5, o5, none⟩) m cap5) m (cellsG hopE l)) := own_below HO3.out hb4
              have HB4 : Hid (Below w1.heap.size w1 w4) := HB2.out.trans (hB24.mono HB2.out.size)
              obtain ⟨t0, t1, t2⟩ := hop_cells (HVA.out.later hb4)
              simp only [Nat.zero_add] at t0 t1 t2
              obtain ⟨hBw4, ⟨b0, b1, b2, b3⟩, i0, i1, i2, r0, r1, r2, f⟩ := HX4.out
              have HBw4 : Hid (Below w.heap.size w w4) := hBw4
              have f0 := f 0
              have f1 := f 1
              have f2 := f 2
              have hs14 : w1.heap.size ≤ w4.heap.size := HB4.out.size
              clear hc hb4 hB24 f hBw4 hlk HX2 HO2 HO3 HB2 HD2 HM2 HVA HBA HW3 d0 d1 d2
              cases c with
              | true =>
                have HF2 : Hid (F = (4, ByteArray.empty, l)) := by
                  show _ = _
                  rw [HFL.out]
                  exact fo_4 HL24.out (HA.out.trans HAS.out) HAT.out HP.out (.inr HC.out)
                go_wp2
                refine bodyPost_ret (v := .agg #[.int .i64 4, .string ⟨#[]⟩, .slice (some ⟨g5, o5, none⟩) m cap5]) (by simp [results, Tryd.results38, go_sem, *]) rfl ⟨_, _, _, by rw [HF2.out]; rfl, ?_, below_put3 HBw4.out _ (by omega) _ _ _⟩
                rw [HF2.out]
                exact own_mono (B := w1.heap.size) (by rw [HML.out]; exact own_put3 HO4.out _ (by omega) _ _ _) (by have := HLW1.out; omega)
              | false =>
                have HFN : Hid (F = foF Ls Hs Ts (25 - (l ++ [((P1, P2), Q3)]).length) (l ++ [((P1, P2), Q3)])) := by
                  show _ = _
                  rw [HFL.out]
                  exact fo_n HL24.out (HA.out.trans HAS.out) HAT.out HP.out HN24.out HC.out
                have HSPN : Hid (spB S (laH (l ++ [((P1, P2), Q3)])).1 = true) := by
                  show _ = _
                  rw [la_app]
                  exact peer_sp HTP.out HP.out
                have hm23 : m ≤ 23 := by
                  have h1 := HN24.out
                  rw [HML.out] at h1
                  omega
                obtain ⟨j0, hj, hy0, hy1, hy2⟩ := info_parts hop_info
                go_wp2_with (at_builtin; refine wpList_append_own _ rfl _ _ 62 rfl w1.heap.size 93 j0 (.agg #[.int .i64 0, .int .i64 0, .int .i64 0]) 3 24 Tryd.underlying62 hj hy0 hy1 hy2 hop_zero (by decide) _ _ _ rfl (HO4.out.alloc _) ⟨w4.heap.size, 0, none⟩ 1 1 [.int .i64 P1, .int .i64 P2, .int .i64 Q3] rfl rfl ?m1 ?m2 ?m3 ?m4 ?m5 ?_)
                case m1 =>
                  intro j u hj
                  match j, hj with
                  | 0, hj => simp at hj; subst hj; simp [Addr.add]
                  | 1, hj => simp at hj; subst hj; simp [Addr.add]
                  | 2, hj => simp at hj; subst hj; simp [Addr.add]
                case m2 => intro u hu; simp at hu; rcases hu with rfl | rfl | rfl <;> rfl
                case m3 => unfold maxLen; omega
                case m4 => omega
                case m5 => simp; omega
                intro v5 w5 hown5 hgrow5 _
                obtain ⟨ao6, cap6, rfl⟩ := own_form hown5
                have hb5 : Below w1.heap.size w4 w5 := ((Below.refl _ w4).alloc hs14 _).grown hgrow5 (by simp; omega) (fun g hg => (HO4.out.lt g hg).1)
                have HB5 : Hid (Below w1.heap.size w1 w5) := HB4.out.trans hb5
                have HO5 : Hid (w5.ownsRow w1.heap.size 93 3 (.slice ao6 (m + 1) cap6) (l ++ [((P1, P2), Q3)]).length (cellsG hopE (l ++ [((P1, P2), Q3)]))) := by
                  show World.ownsRow _ _ _ _ _ _ _
                  rw [List.length_append, HML.out, cellsG_app, cellsG_one]
                  exact hown5
                have HLL : Hid (0 < (l ++ [((P1, P2), Q3)]).length ∧ (l ++ [((P1, P2), Q3)]).length ≤ 24) := by
                  rw [List.length_append, HML.out]
                  exact ⟨by simp, by simp; omega⟩
                clear hb5 hgrow5 hown5
                go_wp2
                go_roundw
                case rel => exact ⟨l ++ [((P1, P2), Q3)], HLL.out, HO5.out, HFN.out, HSPN.out, HB5.out⟩
                case measure => simp [sliL]; omega
        · rw [hi]
          have hlt : k < n2 := by rw [← HHN.out]; exact hk
          obtain ⟨gh, oh, hao, hc, _⟩ := HHA2.out (by omega)
          subst hao
          obtain ⟨y0, y1, y2, hkl, hHk, q0, q1, q2⟩ := hst_at hc HHN.out hlt
          have HF2 : Hid (F = (1, y0, l)) := by
            show _ = _
            rw [HFL.out]
            refine fo_1 HL24.out (HA.out.trans HAS.out) ?_
            rw [ho, hHk]
          have HSZ : Hid (y0.size ≤ 1000000) := by
            show _ ≤ _
            have h := (tp_0 HTP.out).2.2.2.2.1 Hs[k] (List.getElem_mem hk)
            rw [hHk] at h
            have h2 := h.1
            simp only [nmB, Bool.and_eq_true, decide_eq_true_eq] at h2
            omega
          have kb0 : (0 : Int) ≤ (k : Int) := by omega
          have kb1 : (k : Int) < (n2 : Int) := by omega
          clear hi ho hHk hc HHA2 r0 r1 r2 f0 f1 f2
          go_wp2_with fail
          refine (clone_any y0 _ HSZ.out).mono ?_
          rintro e w3 ⟨rfl, hb3⟩
          have HO3 : Hid (w3.ownsRow w1.heap.size 93 3 (.slice (some ⟨g5, o5, none⟩) m cap5) m (cellsG hopE l)) := own_below HO2.out hb3
          have HX3 : Hid (FBox w w3 S (.slice ao n cap) (.slice (some ⟨gh, oh, none⟩) n2 cap2) (.slice ao3 n3 cap3) x y h) := HX2.out.later HX2.out.lt hb3
          obtain ⟨hBw3, ⟨b0, b1, b2, b3⟩, i0, i1, i2, r0, r1, r2, f⟩ := HX3.out
          have HBw3 : Hid (Below w.heap.size w w3) := hBw3
          have f0 := f 0
          have f1 := f 1
          have f2 := f 2
          clear hb3 f hBw3
          go_wp2
          refine bodyPost_ret (v := .agg #[.int .i64 1, .string y0, .slice (some ⟨g5, o5, none⟩) m cap5]) (by simp [results, Tryd.results38, go_sem, *]) rfl ⟨_, _, _, by rw [HF2.out], ?_, below_put3 HBw3.out _ (by omega) _ _ _⟩
          rw [HF2.out]
          exact own_mono (B := w1.heap.size) (by rw [HML.out]; exact own_put3 HO3.out _ (by omega) _ _ _) (by have := HLW1.out; omega)
end Go.Proofs.YtfbocionnjliladDoor
/- What breaking of package wish answers, and the closures that it calls: contracts for the walks above it. -/
namespace Go.Proofs.YtfbocionnjliladDoor
open Go.RowKit
set_option linter.unusedSimpArgs false
set_option linter.unusedVariables false

/-- A net in its box, its lists where they lie. -/
structure NIn (w : World) (g : Nat) (S : Int) (v1 v2 v3 : Value) (Ls : List ((Int × Int) × (Int × Int))) (Hs : List (ByteArray × (Int × Int))) (Ts : List (List Ru)) : Prop where
  box : NeBox w g S v1 v2 v3
  l : GS lnkE w v1 Ls
  h : GS hstE w v2 Hs
  t : TS w v3 Ts
theorem NIn.later {w w' : World} {g : Nat} {S : Int} {v1 v2 v3 : Value} {Ls : List ((Int × Int) × (Int × Int))} {Hs : List (ByteArray × (Int × Int))} {Ts : List (List Ru)} (k : NIn w g S v1 v2 v3 Ls Hs Ts) (hb : Below w.heap.size w w') : NIn w' g S v1 v2 v3 Ls Hs Ts :=
  ⟨k.box.later hb, k.l.later hb, k.h.later hb, k.t.later hb⟩
/-- A fate in its box. -/
def FaBox (W : World) (g : Nat) (a : Int) (b : ByteArray) (c : Value) : Prop := W.cell? ⟨g, 0, none⟩ = some (.int .i64 a) ∧ W.cell? ⟨g, 1, none⟩ = some (.string b) ∧ W.cell? ⟨g, 2, none⟩ = some c
theorem FaBox.later {W W' : World} {g : Nat} {a : Int} {b : ByteArray} {c : Value} (h : FaBox W g a b c) (hb : Below W.heap.size W W') : FaBox W' g a b c :=
  ⟨cell_later hb h.1, cell_later hb h.2.1, cell_later hb h.2.2⟩
theorem fabox_new (w : World) (a : Int) (b : ByteArray) (c : Value) (T : TypeId) : FaBox (w.alloc (Obj.cells #[.int .i64 a, .string b, c] T)) w.heap.size a b c := by
  refine ⟨?_, ?_, ?_⟩ <;> simp
/-- A host in its box. -/
def HsBox (W : World) (g : Nat) (m : ByteArray) (x y : Int) : Prop := W.cell? ⟨g, 0, none⟩ = some (.string m) ∧ W.cell? ⟨g, 1, none⟩ = some (.int .i64 x) ∧ W.cell? ⟨g, 2, none⟩ = some (.int .i64 y)
theorem HsBox.later {W W' : World} {g : Nat} {m : ByteArray} {x y : Int} (h : HsBox W g m x y) (hb : Below W.heap.size W W') : HsBox W' g m x y :=
  ⟨cell_later hb h.1, cell_later hb h.2.1, cell_later hb h.2.2⟩
theorem hsbox_new (w : World) (m : ByteArray) (x y : Int) (T : TypeId) : HsBox (w.alloc (Obj.cells #[.string m, .int .i64 x, .int .i64 y] T)) w.heap.size m x y := by
  refine ⟨?_, ?_, ?_⟩ <;> simp

set_option maxHeartbeats 2000000 in
set_option maxRecDepth 100000 in
theorem fates_any (m : ByteArray) (x y h : Int) (g : Nat) (S : Int) (ao : Option Addr) (n cap : Nat) (ao2 : Option Addr) (n2 cap2 : Nat) (ao3 : Option Addr) (n3 cap3 : Nat) (Ls : List ((Int × Int) × (Int × Int))) (Hs : List (ByteArray × (Int × Int))) (Ts : List (List Ru)) (w : World)
    (hI : NIn w g S (.slice ao n cap) (.slice ao2 n2 cap2) (.slice ao3 n3 cap3) Ls Hs Ts) (hN : ntN S Ls Hs Ts = 0) (hx : spB S (x, y) = true) :
    Calls Tryd.prog 37 #[.agg #[.string m, .int .i64 x, .int .i64 y], .int .i64 h, .pointer (some ⟨g, 0, none⟩)] w fun e w' => ∃ b ao4 n4 cap4, e = .returned (.slice (some ⟨b, 0, none⟩) 1 1) ∧ FaBox w' b (frF Ls Hs Ts (x, y) h).1 (frF Ls Hs Ts (x, y) h).2.1 (.slice ao4 n4 cap4) ∧ GS hopE w' (.slice ao4 n4 cap4) (frF Ls Hs Ts (x, y) h).2.2 ∧ Below w.heap.size w w' := by
  have hb0 : Below w.heap.size w (w.alloc (Obj.cells #[.string m, .int .i64 x, .int .i64 y] 55)) := (Below.refl _ _).alloc (Nat.le_refl _) _
  have hI0 := hI.later hb0
  have hs := hsbox_new w m x y 55
  obtain ⟨w0, hw0⟩ : ∃ W, w.alloc (Obj.cells #[.string m, .int .i64 x, .int .i64 y] 55) = W := ⟨_, rfl⟩
  rw [hw0] at hb0 hI0 hs
  have HW0 : Hid (w.alloc (Obj.cells #[.string m, .int .i64 x, .int .i64 y] 55) = w0) := hw0
  have HB0 : Hid (Below w.heap.size w w0) := hb0
  have HI0 : Hid (NIn w0 g S (.slice ao n cap) (.slice ao2 n2 cap2) (.slice ao3 n3 cap3) Ls Hs Ts) := hI0
  have HN : Hid (ntN S Ls Hs Ts = 0) := hN
  have HSP : Hid (spB S (x, y) = true) := hx
  obtain ⟨F, hF⟩ : ∃ F, F = frF Ls Hs Ts (x, y) h := ⟨_, rfl⟩
  have HF : Hid (frF Ls Hs Ts (x, y) h = F) := hF.symm
  rw [← hF]
  obtain ⟨b0, b1, b2, b3⟩ := hI0.box
  obtain ⟨s0, s1, s2⟩ := hs
  clear hb0 hI0 hI hN hx hw0 hF
  go_enter Tryd.func37, Tryd.ntmps37
  go_upto_region 1 with fail
  rw [HW0.out]
  clear HW0
  go_wp2_with fail
  refine (follow_any S ao n cap ao2 n2 cap2 ao3 n3 cap3 Ls Hs Ts x y h _ HI0.out.l HI0.out.h HI0.out.t HN.out HSP.out).mono ?_
  rintro e w1 ⟨ao4, n4, cap4, rfl, hown, hb1⟩
  rw [HF.out] at hown
  rw [HF.out]
  have hG : GS hopE w1 (.slice ao4 n4 cap4) F.2.2 := own_GS (E := hopE) hown
  have HB1 : Hid (Below w.heap.size w w1) := HB0.out.trans (hb1.mono HB0.out.size)
  have HG : Hid (GS hopE w1 (.slice ao4 n4 cap4) F.2.2) := hG
  obtain ⟨F1, hF1⟩ : ∃ q, q = F.1 := ⟨_, rfl⟩
  obtain ⟨F2, hF2⟩ : ∃ q, q = F.2.1 := ⟨_, rfl⟩
  rw [← hF1, ← hF2]
  have HFV : Hid (F.1 = F1 ∧ F.2.1 = F2) := ⟨hF1.symm, hF2.symm⟩
  clear hF1 hF2 hown hb1 hG b0 b1 b2 b3 s0 s1 s2
  go_wp2
  go_ret
  have hal : Below w1.heap.size w1 (w1.alloc (Obj.cells #[.int .i64 F1, .string F2, .slice ao4 n4 cap4] 64)) := (Below.refl _ _).alloc (Nat.le_refl _) _
  exact ⟨_, _, _, _, rfl, by rw [HFV.out.1, HFV.out.2]; exact fabox_new w1 F1 F2 _ 64, HG.out.later hal, HB1.out.trans (hal.mono HB1.out.size)⟩

set_option maxHeartbeats 1000000 in
set_option maxRecDepth 100000 in
theorem breaking1_any (a : Int) (b : ByteArray) (ao : Option Addr) (n cap : Nat) (l : List ((Int × Int) × Int)) (g1 g2 : Nat) (k : Int) (f t : ByteArray) (v : Int) (m : ByteArray) (x y : Int) (w : World) (hl : GS hopE w (.slice ao n cap) l) (h1 : WiBox w g1 k f t v) (h2 : HsBox w g2 m x y) :
    Calls Tryd.prog 82 #[.agg #[.int .i64 a, .string b, .slice ao n cap], .pointer (some ⟨g1, 0, none⟩), .pointer (some ⟨g2, 0, none⟩)] w fun e w' => e = .returned (.bool (!fiB ⟨k, f, t, v⟩ m (a, b, l))) ∧ Below w.heap.size w w' := by
  have hb0 : Below w.heap.size w (w.alloc (Obj.cells #[.int .i64 a, .string b, .slice ao n cap] 64)) := (Below.refl _ _).alloc (Nat.le_refl _) _
  have hl0 := hl.later hb0
  have hx0 := h1.later hb0
  have hs0 := h2.later hb0
  have hf0 := fabox_new w a b (.slice ao n cap) 64
  obtain ⟨w0, hw0⟩ : ∃ W, w.alloc (Obj.cells #[.int .i64 a, .string b, .slice ao n cap] 64) = W := ⟨_, rfl⟩
  rw [hw0] at hb0 hl0 hx0 hs0 hf0
  have HW0 : Hid (w.alloc (Obj.cells #[.int .i64 a, .string b, .slice ao n cap] 64) = w0) := hw0
  have HB0 : Hid (Below w.heap.size w w0) := hb0
  have HL0 : Hid (GS hopE w0 (.slice ao n cap) l) := hl0
  obtain ⟨x0, x1, x2, x3⟩ := hx0
  obtain ⟨s0, s1, s2⟩ := hs0
  obtain ⟨f0, f1, f2⟩ := hf0
  obtain ⟨R, hR⟩ : ∃ R, R = fiB ⟨k, f, t, v⟩ m (a, b, l) := ⟨_, rfl⟩
  have HR : Hid (fiB ⟨k, f, t, v⟩ m (a, b, l) = R) := hR.symm
  rw [← hR]
  clear hb0 hl0 hl h1 h2 hw0 hR
  go_enter Tryd.func82, Tryd.ntmps82
  go_upto_region 1 with fail
  rw [HW0.out]
  clear HW0
  go_wp2_with fail
  refine (fits_any k f t v m a b ao n cap l _ HL0.out).mono ?_
  rintro e w1 ⟨rfl, hb1⟩
  rw [HR.out]
  go_wp2
  go_ret
  exact ⟨rfl, HB0.out.trans (hb1.mono HB0.out.size)⟩

/-- A closure asked of one fate. -/
def faAsks (w : World) (f : FuncId) (c0 c1 : Value) (a : Int) (b : ByteArray) (c : Value) (P : Bool) : Prop :=
  ∀ W : World, Below w.heap.size w W → Calls Tryd.prog f #[.agg #[.int .i64 a, .string b, c], c0, c1] W fun e w' => e = .returned (.bool P) ∧ Below W.heap.size W w'
set_option maxHeartbeats 1000000 in
theorem fate_idx (f : FuncId) (c0 c1 : Value) (g : Nat) (a : Int) (b : ByteArray) (ao : Option Addr) (n cap : Nat) (P : Bool) (w : World) (hx : FaBox w g a b (.slice ao n cap)) (he : ∀ args w, (callFunc f args).run Tryd.prog w = .ok (.enter f args) w) (hf : faAsks w f c0 c1 a b (.slice ao n cap) P) :
    Calls Tryd.prog 97 #[.slice (some ⟨g, 0, none⟩) 1 1, .func (Fn.func f) #[] #[c0, c1]] w fun e w' => e = .returned (.int .i64 (if P then 0 else -1)) ∧ Below w.heap.size w w' := by
  have HF : Hid (faAsks w f c0 c1 a b (.slice ao n cap) P) := hf
  have HX : Hid (FaBox w g a b (.slice ao n cap)) := hx
  clear hf hx
  go_enter Tryd.func97, Tryd.ntmps97
  go_wp2
  go_loopw [8] (fun i wr => ∃ k : Nat, k ≤ 1 ∧ i = .int .i64 k ∧ (k = 1 → P = false) ∧ Below w.heap.size w wr) (fun i _ => 1 - (intOf i).toNat)
  case atStart => exact ⟨0, by omega, rfl, fun h => by omega, Below.refl _ _⟩
  case round =>
    obtain ⟨k, hk, rfl, hno, hB⟩ := hrel
    have HB : Hid (Below w.heap.size w wr) := hB
    have HNO : Hid (k = 1 → P = false) := hno
    clear hno
    by_cases hlt : k < 1
    · obtain rfl : k = 0 := by omega
      obtain ⟨q0, q1, q2⟩ := HX.out.later hB
      clear hB
      cases P with
      | false =>
        go_wp2_with fail
        refine (HF.out _ HB.out).mono ?_
        rintro e w1 ⟨rfl, hb1⟩
        have HB1 := HB.out.trans (hb1.mono HB.out.size)
        clear hb1
        go_wp2
        go_roundw
        case rel => exact ⟨1, by omega, by go_num, by simp, HB1⟩
        case measure => simp [intOf]
      | true =>
        go_wp2_with fail
        refine (HF.out _ HB.out).mono ?_
        rintro e w1 ⟨rfl, hb1⟩
        go_wp2
        go_ret
        exact ⟨rfl, HB.out.trans (hb1.mono HB.out.size)⟩
    · obtain rfl : k = 1 := by omega
      have hP := HNO.out rfl
      subst hP
      go_wp2
      go_ret
      exact ⟨rfl, HB.out⟩
set_option maxHeartbeats 1000000 in
theorem fate_has (f : FuncId) (c0 c1 : Value) (g : Nat) (a : Int) (b : ByteArray) (ao : Option Addr) (n cap : Nat) (P : Bool) (w : World) (hx : FaBox w g a b (.slice ao n cap)) (he : ∀ args w, (callFunc f args).run Tryd.prog w = .ok (.enter f args) w) (hf : faAsks w f c0 c1 a b (.slice ao n cap) P) :
    Calls Tryd.prog 81 #[.slice (some ⟨g, 0, none⟩) 1 1, .func (Fn.func f) #[] #[c0, c1]] w fun e w' => e = .returned (.bool P) ∧ Below w.heap.size w w' := by
  have HF : Hid (faAsks w f c0 c1 a b (.slice ao n cap) P) := hf
  have HX : Hid (FaBox w g a b (.slice ao n cap)) := hx
  clear hf hx
  go_enter Tryd.func81, Tryd.ntmps81
  go_wp2_with fail
  refine (fate_idx f c0 c1 g a b ao n cap P _ HX.out he HF.out).mono ?_
  rintro e w1 ⟨rfl, hb1⟩
  cases P with
  | false =>
    rw [if_neg (by decide)]
    go_wp2
    go_ret
    exact ⟨rfl, hb1⟩
  | true =>
    rw [if_pos rfl]
    go_wp2
    go_ret
    exact ⟨rfl, hb1⟩

set_option maxHeartbeats 4000000 in
set_option maxRecDepth 100000 in
theorem breaking_any (k : Int) (f t : ByteArray) (v : Int) (m : ByteArray) (x y : Int) (g : Nat) (S : Int) (ao : Option Addr) (n cap : Nat) (ao2 : Option Addr) (n2 cap2 : Nat) (ao3 : Option Addr) (n3 cap3 : Nat) (Ls : List ((Int × Int) × (Int × Int))) (Hs : List (ByteArray × (Int × Int))) (Ts : List (List Ru)) (w : World)
    (hI : NIn w g S (.slice ao n cap) (.slice ao2 n2 cap2) (.slice ao3 n3 cap3) Ls Hs Ts) (hN : ntN S Ls Hs Ts = 0) (hx : spB S (x, y) = true) :
    Calls Tryd.prog 60 #[.agg #[.int .i64 k, .string f, .string t, .int .i64 v], .agg #[.string m, .int .i64 x, .int .i64 y], .func (Fn.func 37) #[] #[.pointer (some ⟨g, 0, none⟩)]] w fun e w' => e = .returned (.int .i64 (brH Ls Hs Ts ⟨k, f, t, v⟩ (m, (x, y)) 16)) ∧ Below w.heap.size w w' := by
  have e1 : (w.alloc (Obj.cells #[.int .i64 k, .string f, .string t, .int .i64 v] 61)).heap.size = w.heap.size + 1 := by simp
  have hb1 : Below w.heap.size w (w.alloc (Obj.cells #[.int .i64 k, .string f, .string t, .int .i64 v] 61)) := (Below.refl _ _).alloc (Nat.le_refl _) _
  have hx1 := wibox_new w k f t v 61
  obtain ⟨w0, hw0⟩ : ∃ W, W = w.alloc (Obj.cells #[.int .i64 k, .string f, .string t, .int .i64 v] 61) := ⟨_, rfl⟩
  rw [← hw0] at e1 hb1 hx1
  have hb2 : Below w0.heap.size w0 (w0.alloc (Obj.cells #[.string m, .int .i64 x, .int .i64 y] 55)) := (Below.refl _ _).alloc (Nat.le_refl _) _
  have hs2 := hsbox_new w0 m x y 55
  have hx2 := hx1.later hb2
  have hB2 := hb1.trans (hb2.mono hb1.size)
  obtain ⟨w2, hw2⟩ : ∃ W, W = w0.alloc (Obj.cells #[.string m, .int .i64 x, .int .i64 y] 55) := ⟨_, rfl⟩
  rw [← hw2] at hs2 hx2 hB2
  rw [e1] at hs2
  have HW : Hid ((w.alloc (Obj.cells #[.int .i64 k, .string f, .string t, .int .i64 v] 61)).alloc (Obj.cells #[.string m, .int .i64 x, .int .i64 y] 55) = w2) := by
    show _ = _
    rw [hw2, hw0]
  have HB2 : Hid (Below w.heap.size w w2) := hB2
  have HX2 : Hid (WiBox w2 w.heap.size k f t v) := hx2
  have HS2 : Hid (HsBox w2 (w.heap.size + 1) m x y) := hs2
  have HI2 : Hid (NIn w2 g S (.slice ao n cap) (.slice ao2 n2 cap2) (.slice ao3 n3 cap3) Ls Hs Ts) := hI.later hB2
  have HN : Hid (ntN S Ls Hs Ts = 0) := hN
  have HSP : Hid (spB S (x, y) = true) := hx
  obtain ⟨R, hR⟩ : ∃ R, R = brH Ls Hs Ts ⟨k, f, t, v⟩ (m, (x, y)) 16 := ⟨_, rfl⟩
  have HR : Hid (brH Ls Hs Ts ⟨k, f, t, v⟩ (m, (x, y)) 16 = R) := hR.symm
  rw [← hR]
  obtain ⟨AB, hAB⟩ : ∃ q, q = abW ⟨k, f, t, v⟩ m := ⟨_, rfl⟩
  have HAB : Hid (abW ⟨k, f, t, v⟩ m = AB) := hAB.symm
  clear hb1 hx1 hw0 hb2 hs2 hx2 hB2 hw2 e1 hI hN hx hR hAB
  go_enter Tryd.func60, Tryd.ntmps60
  go_upto_region 1 with fail
  rw [HW.out]
  obtain ⟨x0, x1, x2, x3⟩ := HX2.out
  obtain ⟨s0, s1, s2⟩ := HS2.out
  clear HW
  go_wp2_with fail
  refine (isAbout_any k f t v m _).mono ?_
  rintro e w3 ⟨rfl, hb3⟩
  rw [HAB.out]
  have HB3 : Hid (Below w.heap.size w w3) := HB2.out.trans (hb3.mono HB2.out.size)
  have HX3 : Hid (WiBox w3 w.heap.size k f t v) := HX2.out.later hb3
  have HS3 : Hid (HsBox w3 (w.heap.size + 1) m x y) := HS2.out.later hb3
  have HI3 : Hid (NIn w3 g S (.slice ao n cap) (.slice ao2 n2 cap2) (.slice ao3 n3 cap3) Ls Hs Ts) := HI2.out.later hb3
  clear x0 x1 x2 x3 s0 s1 s2 hb3 HB2 HX2 HS2 HI2
  cases AB with
  | false =>
    have HR1 : Hid (R = -1) := by
      show _ = _
      rw [← HR.out, brH_off HAB.out]
    go_wp2
    go_ret
    exact ⟨by rw [HR1.out]; rfl, HB3.out⟩
  | true =>
    clear HAB
    go_wp2
    go_loopw [13] (fun i wr => ∃ j : Nat, j ≤ 16 ∧ i = .int .i64 j ∧ brH Ls Hs Ts ⟨k, f, t, v⟩ (m, (x, y)) j < 0 ∧ Below w3.heap.size w3 wr) (fun i _ => 16 - (intOf i).toNat)
    case atStart => exact ⟨0, by omega, rfl, by simp [brH], Below.refl _ _⟩
    case round =>
      obtain ⟨j, hj, rfl, hno, hB⟩ := hrel
      have HB : Hid (Below w3.heap.size w3 wr) := hB
      have HNO : Hid (brH Ls Hs Ts ⟨k, f, t, v⟩ (m, (x, y)) j < 0) := hno
      have HXr : Hid (WiBox wr w.heap.size k f t v) := HX3.out.later hB
      have HSr : Hid (HsBox wr (w.heap.size + 1) m x y) := HS3.out.later hB
      have HIr : Hid (NIn wr g S (.slice ao n cap) (.slice ao2 n2 cap2) (.slice ao3 n3 cap3) Ls Hs Ts) := HI3.out.later hB
      clear hno hB
      by_cases hlt : j < 16
      · obtain ⟨s0, s1, s2⟩ := HSr.out
        obtain ⟨P, hP⟩ : ∃ q, q = brB Ls Hs Ts ⟨k, f, t, v⟩ (m, (x, y)) (j : Int) := ⟨_, rfl⟩
        have HP : Hid (brB Ls Hs Ts ⟨k, f, t, v⟩ (m, (x, y)) (j : Int) = P) := hP.symm
        clear hP
        go_wp2_with fail
        refine (fates_any m x y (j : Int) g S ao n cap ao2 n2 cap2 ao3 n3 cap3 Ls Hs Ts _ HIr.out HN.out HSP.out).mono ?_
        rintro e w4 ⟨b, ao4, n4, cap4, rfl, hfa, hG, hb4⟩
        have HPF : Hid ((!fiB ⟨k, f, t, v⟩ m ((frF Ls Hs Ts (x, y) (j : Int)).1, (frF Ls Hs Ts (x, y) (j : Int)).2.1, (frF Ls Hs Ts (x, y) (j : Int)).2.2)) = P) := HP.out
        generalize frF Ls Hs Ts (x, y) (j : Int) = F at hfa hG HPF
        have HX4 : Hid (WiBox w4 w.heap.size k f t v) := HXr.out.later hb4
        have HS4 : Hid (HsBox w4 (w.heap.size + 1) m x y) := HSr.out.later hb4
        have HFA : Hid (FaBox w4 b F.1 F.2.1 (.slice ao4 n4 cap4)) := hfa
        have HAS : Hid (faAsks w4 82 (.pointer (some ⟨w.heap.size, 0, none⟩)) (.pointer (some ⟨w.heap.size + 1, 0, none⟩)) F.1 F.2.1 (.slice ao4 n4 cap4) P) := fun W hW => by
          rw [← HPF.out]
          exact breaking1_any F.1 F.2.1 ao4 n4 cap4 F.2.2 w.heap.size (w.heap.size + 1) k f t v m x y W (hG.later hW) (HX4.out.later hW) (HS4.out.later hW)
        have HB4 : Hid (Below w3.heap.size w3 w4) := HB.out.trans (hb4.mono HB.out.size)
        clear hfa hG hb4 s0 s1 s2 HXr HSr HIr
        go_wp2_with fail
        refine (fate_has 82 _ _ b F.1 F.2.1 ao4 n4 cap4 P _ HFA.out (enters_of Tryd.func82 (by kernel_rfl) rfl) HAS.out).mono ?_
        rintro e w5 ⟨rfl, hb5⟩
        have HB5 : Hid (Below w3.heap.size w3 w5) := HB4.out.trans (hb5.mono HB4.out.size)
        clear hb5 HPF HFA HAS HX4 HS4
        cases P with
        | false =>
          go_wp2
          go_roundw
          case rel => exact ⟨j + 1, by omega, by go_num, brH_no HNO.out HP.out, HB5.out⟩
          case measure => simp [intOf]; omega
        | true =>
          have HR1 : Hid (R = (j : Int)) := by
            show _ = _
            rw [← HR.out, brH_yes hlt HNO.out HP.out]
          go_wp2
          go_ret
          exact ⟨by rw [HR1.out]; rfl, HB3.out.trans (HB5.out.mono HB3.out.size)⟩
      · obtain rfl : j = 16 := by omega
        have HR1 : Hid (R = -1) := by
          show _ = _
          have h1 := HNO.out
          have h2 := (brH_bd (Ls := Ls) (Hs := Hs) (Ts := Ts) ⟨k, f, t, v⟩ (m, (x, y)) 16).1
          rw [← HR.out]
          omega
        go_wp2
        go_ret
        exact ⟨by rw [HR1.out]; rfl, HB3.out.trans (HB.out.mono HB3.out.size)⟩
end Go.Proofs.YtfbocionnjliladDoor
/- What checkOne and Check of package wish answer: contracts for the walks above them. -/
namespace Go.Proofs.YtfbocionnjliladDoor
open Go.RowKit
set_option linter.unusedSimpArgs false
set_option linter.unusedVariables false

/-- The boxes: a topology, a wish. -/
structure CBox (w W : World) (S : Int) (v1 v2 : Value) (k : Int) (f t : ByteArray) (v : Int) : Prop where
  below : Below w.heap.size w W
  b : TBox W w.heap.size S v1 v2
  x : WiBox W (w.heap.size + 1) k f t v
theorem cbox_new (w : World) (S : Int) (v1 v2 : Value) (k : Int) (f t : ByteArray) (v : Int) : CBox w ((w.alloc (Obj.cells #[.int .i64 S, v1, v2] 25)).alloc (Obj.cells #[.int .i64 k, .string f, .string t, .int .i64 v] 61)) S v1 v2 k f t v := by
  have e1 : (w.alloc (Obj.cells #[.int .i64 S, v1, v2] 25)).heap.size = w.heap.size + 1 := by simp
  have hb : ∀ (W : World) (o : Obj), Below W.heap.size W (W.alloc o) := fun W o => (Below.refl _ _).alloc (Nat.le_refl _) _
  have hn := (tbox_new w S v1 v2 25).later (hb _ (Obj.cells #[.int .i64 k, .string f, .string t, .int .i64 v] 61))
  have hB := ((Below.refl w.heap.size w).alloc (Nat.le_refl _) (Obj.cells #[.int .i64 S, v1, v2] 25)).alloc (by rw [e1]; omega) (Obj.cells #[.int .i64 k, .string f, .string t, .int .i64 v] 61)
  generalize w.alloc (Obj.cells #[.int .i64 S, v1, v2] 25) = X at e1 hn hB
  have hr := wibox_new X k f t v 61
  rw [e1] at hr
  exact ⟨hB, hn, hr⟩
theorem CBox.later {w W W' : World} {S : Int} {v1 v2 : Value} {k : Int} {f t : ByteArray} {v : Int} (h : CBox w W S v1 v2 k f t v) (hb : Below W.heap.size W W') : CBox w W' S v1 v2 k f t v :=
  ⟨h.below.trans (hb.mono h.below.size), h.b.later hb, h.x.later hb⟩

set_option maxHeartbeats 4000000 in
set_option maxRecDepth 100000 in
theorem checkOne_any (S : Int) (ao : Option Addr) (n cap : Nat) (ao2 : Option Addr) (n2 cap2 : Nat) (Hs : List (ByteArray × (Int × Int))) (k : Int) (f t : ByteArray) (v : Int) (w : World) (hH : GS hstE w (.slice ao2 n2 cap2) Hs) :
    Calls Tryd.prog 59 #[.agg #[.int .i64 S, .slice ao n cap, .slice ao2 n2 cap2], .agg #[.int .i64 k, .string f, .string t, .int .i64 v]] w fun e w' => e = .returned (noV (woN S Hs ⟨k, f, t, v⟩)) ∧ Below w.heap.size w w' := by
  have hX := cbox_new w S (.slice ao n cap) (.slice ao2 n2 cap2) k f t v
  obtain ⟨w0, hw0⟩ : ∃ W, (w.alloc (Obj.cells #[.int .i64 S, .slice ao n cap, .slice ao2 n2 cap2] 25)).alloc (Obj.cells #[.int .i64 k, .string f, .string t, .int .i64 v] 61) = W := ⟨_, rfl⟩
  rw [hw0] at hX
  have HX : Hid (CBox w w0 S (.slice ao n cap) (.slice ao2 n2 cap2) k f t v) := hX
  have HW0 : Hid ((w.alloc (Obj.cells #[.int .i64 S, .slice ao n cap, .slice ao2 n2 cap2] 25)).alloc (Obj.cells #[.int .i64 k, .string f, .string t, .int .i64 v] 61) = w0) := hw0
  have HH : Hid (∀ W, Below w.heap.size w W → GS hstE W (.slice ao2 n2 cap2) Hs) := fun W hb => hH.later hb
  obtain ⟨R, hR⟩ : ∃ R, R = woN S Hs ⟨k, f, t, v⟩ := ⟨_, rfl⟩
  rw [← hR]
  obtain ⟨Q, hQ⟩ : ∃ q, q = (!wkB k || (!viB ⟨k, f, t, v⟩ S || veB ⟨k, f, t, v⟩)) := ⟨_, rfl⟩
  have HR : Hid (R = if Q then 1 else if k = 4 then (if nlB ⟨k, f, t, v⟩ then 0 else 3) else if hoB Hs f && hoB Hs t then 0 else 5) := by
    show _ = _
    rw [hR, hQ]
    rfl
  have HQ : Hid ((!wkB k || (!viB ⟨k, f, t, v⟩ S || veB ⟨k, f, t, v⟩)) = Q) := hQ.symm
  clear hX hw0 hH hR hQ
  go_enter Tryd.func59, Tryd.ntmps59
  go_upto_region 1 with fail
  rw [HW0.out]
  obtain ⟨_, ⟨b0, b1, b2⟩, x0, x1, x2, x3⟩ := HX.out
  clear HW0
  go_cut [25] from 5 to 26 (fun c w' => c = .bool Q ∧ Below w0.heap.size w0 w')
  case first =>
    go_wp2_with fail
    refine (isWhat_any k _).mono ?_
    rintro e w1 ⟨rfl, hb1⟩
    obtain ⟨WK, hWK⟩ : ∃ q, q = wkB k := ⟨_, rfl⟩
    have HQ1 : Hid ((!WK || (!viB ⟨k, f, t, v⟩ S || veB ⟨k, f, t, v⟩)) = Q) := by
      show _ = _
      rw [hWK]
      exact HQ.out
    rw [← hWK]
    have HB1 : Hid (Below w0.heap.size w0 w1) := hb1
    have HX1 : Hid (CBox w w1 S (.slice ao n cap) (.slice ao2 n2 cap2) k f t v) := HX.out.later hb1
    clear hWK hb1 HQ b0 b1 b2 x0 x1 x2 x3
    obtain ⟨_, ⟨b0, b1, b2⟩, x0, x1, x2, x3⟩ := HX1.out
    cases WK with
    | false =>
      have hq := HQ1.out
      simp only [Bool.not_false, Bool.true_or] at hq
      subst hq
      go_wp2_with fail
      go_meet
      exact ⟨rfl, HB1.out⟩
    | true =>
      go_wp2_with fail
      refine (isVia_any k f t v S _).mono ?_
      rintro e w2 ⟨rfl, hb2⟩
      obtain ⟨VI, hVI⟩ : ∃ q, q = viB ⟨k, f, t, v⟩ S := ⟨_, rfl⟩
      have HQ2 : Hid ((!VI || veB ⟨k, f, t, v⟩) = Q) := by
        show _ = _
        rw [hVI]
        have := HQ1.out
        simpa using this
      rw [← hVI]
      have HB2 : Hid (Below w0.heap.size w0 w2) := HB1.out.trans (hb2.mono HB1.out.size)
      have HX2 : Hid (CBox w w2 S (.slice ao n cap) (.slice ao2 n2 cap2) k f t v) := HX1.out.later hb2
      clear hVI hb2 HQ1 b0 b1 b2 x0 x1 x2 x3
      obtain ⟨_, ⟨b0, b1, b2⟩, x0, x1, x2, x3⟩ := HX2.out
      cases VI with
      | false =>
        have hq := HQ2.out
        simp only [Bool.not_false, Bool.true_or] at hq
        subst hq
        go_wp2_with fail
        go_meet
        exact ⟨rfl, HB2.out⟩
      | true =>
        by_cases k3 : k = 3
        · subst k3
          have hq : false = Q := HQ2.out
          subst hq
          go_wp2_with fail
          go_meet
          exact ⟨rfl, HB2.out⟩
        · have hq : (k != 3 && v != 0) = Q := HQ2.out
          subst hq
          go_wp2_with fail
          go_meet
          exact ⟨rfl, HB2.out⟩
  case rest =>
  obtain ⟨rfl, hbc⟩ := hcut
  have HXc : Hid (CBox w wc S (.slice ao n cap) (.slice ao2 n2 cap2) k f t v) := HX.out.later hbc
  clear hbc HX b0 b1 b2 x0 x1 x2 x3
  obtain ⟨hBc, ⟨b0, b1, b2⟩, x0, x1, x2, x3⟩ := HXc.out
  have HBc : Hid (Below w.heap.size w wc) := hBc
  clear hBc
  cases Q with
  | true =>
    have HR1 : Hid (R = 1) := by
      show _ = _
      rw [HR.out, if_pos rfl]
    go_wp2
    go_ret
    exact ⟨by rw [HR1.out]; rfl, HBc.out⟩
  | false =>
    by_cases k4 : k = 4
    · subst k4
      obtain ⟨NL, hNL⟩ : ∃ q, q = nlB ⟨4, f, t, v⟩ := ⟨_, rfl⟩
      have HR1 : Hid (R = if NL then 0 else 3) := by
        show _ = _
        rw [HR.out, if_neg (by decide), if_pos rfl, hNL]
      have HNL : Hid (nlB ⟨4, f, t, v⟩ = NL) := hNL.symm
      clear hNL HR
      go_wp2_with fail
      refine (isNameless_any 4 f t v _).mono ?_
      rintro e w2 ⟨rfl, hb2⟩
      rw [HNL.out]
      have HB2 : Hid (Below w.heap.size w w2) := HBc.out.trans (hb2.mono HBc.out.size)
      clear hb2
      cases NL with
      | false =>
        go_wp2
        go_ret
        exact ⟨by rw [HR1.out]; rfl, HB2.out⟩
      | true =>
        go_wp2
        go_ret
        exact ⟨by rw [HR1.out]; rfl, HB2.out⟩
    · obtain ⟨HF, hHF⟩ : ∃ q, q = hoB Hs f := ⟨_, rfl⟩
      obtain ⟨HT, hHT⟩ : ∃ q, q = hoB Hs t := ⟨_, rfl⟩
      have HR1 : Hid (R = if HF && HT then 0 else 5) := by
        show _ = _
        rw [HR.out, if_neg (by decide), if_neg k4, hHF, hHT]
      have HHF : Hid (hoB Hs f = HF) := hHF.symm
      have HHT : Hid (hoB Hs t = HT) := hHT.symm
      clear hHF hHT HR
      go_wp2_with fail
      refine (isHost_any S (.slice ao n cap) ao2 n2 cap2 Hs f _ rfl (HH.out _ HBc.out)).mono ?_
      rintro e w2 ⟨rfl, hb2⟩
      rw [HHF.out]
      have HX2 : Hid (CBox w w2 S (.slice ao n cap) (.slice ao2 n2 cap2) k f t v) := HXc.out.later hb2
      clear hb2 HHF HBc b0 b1 b2 x0 x1 x2 x3
      obtain ⟨hB2, ⟨b0, b1, b2⟩, x0, x1, x2, x3⟩ := HX2.out
      have HB2 : Hid (Below w.heap.size w w2) := hB2
      clear hB2
      cases HF with
      | false =>
        go_wp2
        go_ret
        exact ⟨by rw [HR1.out]; rfl, HB2.out⟩
      | true =>
        go_wp2_with fail
        refine (isHost_any S (.slice ao n cap) ao2 n2 cap2 Hs t _ rfl (HH.out _ HB2.out)).mono ?_
        rintro e w3 ⟨rfl, hb3⟩
        rw [HHT.out]
        have HB3 : Hid (Below w.heap.size w w3) := HB2.out.trans (hb3.mono HB2.out.size)
        clear hb3
        cases HT with
        | false =>
          go_wp2
          go_ret
          exact ⟨by rw [HR1.out]; rfl, HB3.out⟩
        | true =>
          go_wp2
          go_ret
          exact ⟨by rw [HR1.out]; rfl, HB3.out⟩

set_option maxHeartbeats 4000000 in
set_option maxRecDepth 100000 in
theorem wcheck_any (S : Int) (ao : Option Addr) (n cap : Nat) (ao2 : Option Addr) (n2 cap2 : Nat) (a4 : Option Addr) (n4 c4 : Nat) (Ls : List ((Int × Int) × (Int × Int))) (Hs : List (ByteArray × (Int × Int))) (l : List Wi) (w : World)
    (hL : GS lnkE w (.slice ao n cap) Ls) (hH : GS hstE w (.slice ao2 n2 cap2) Hs) (hl : GS wisE w (.slice a4 n4 c4) l) :
    Calls Tryd.prog 35 #[.agg #[.int .i64 S, .slice ao n cap, .slice ao2 n2 cap2], .slice a4 n4 c4] w fun e w' => e = .returned (noV (wsN S Ls Hs l)) ∧ Below w.heap.size w w' := by
  have hX := tbox_new w S (.slice ao n cap) (.slice ao2 n2 cap2) 25
  have hB0 : Below w.heap.size w (w.alloc (Obj.cells #[.int .i64 S, .slice ao n cap, .slice ao2 n2 cap2] 25)) := (Below.refl _ _).alloc (Nat.le_refl _) _
  obtain ⟨w0, hw0⟩ : ∃ W, w.alloc (Obj.cells #[.int .i64 S, .slice ao n cap, .slice ao2 n2 cap2] 25) = W := ⟨_, rfl⟩
  rw [hw0] at hX hB0
  have HX : Hid (TBox w0 w.heap.size S (.slice ao n cap) (.slice ao2 n2 cap2)) := hX
  have HW0 : Hid (w.alloc (Obj.cells #[.int .i64 S, .slice ao n cap, .slice ao2 n2 cap2] 25) = w0) := hw0
  have HB0 : Hid (Below w.heap.size w w0) := hB0
  have HLW : Hid (∀ W, Below w.heap.size w W → GS lnkE W (.slice ao n cap) Ls) := fun W hb => hL.later hb
  have HHW : Hid (∀ W, Below w.heap.size w W → GS hstE W (.slice ao2 n2 cap2) Hs) := fun W hb => hH.later hb
  obtain ⟨_, _, _, e5, hGn, hGm, _, hGa⟩ := hl.form
  cases e5
  have HGN : Hid (l.length = n4) := hGn
  have HGA : Hid (0 < n4 → ∃ g o, a4 = some ⟨g, o, none⟩ ∧ GAt wisE w g o l ∧ c4 ≤ maxLen) := hGa
  obtain ⟨R, hR⟩ : ∃ R, R = wsN S Ls Hs l := ⟨_, rfl⟩
  have HR : Hid (R = wsN S Ls Hs l) := hR
  rw [← hR]
  have hn4 : n4 ≤ maxLen := hGm
  unfold maxLen at hn4
  clear hX hB0 hw0 hL hH hl hGn hGm hGa hR
  go_enter Tryd.func35, Tryd.ntmps35
  go_upto_region 1 with fail
  rw [HW0.out]
  obtain ⟨b0, b1, b2⟩ := HX.out
  clear HW0
  go_wp2_with fail
  refine (check_any S ao n cap ao2 n2 cap2 Ls Hs _ (HLW.out _ HB0.out) (HHW.out _ HB0.out)).mono ?_
  rintro e w1 ⟨rfl, hb1⟩
  obtain ⟨T, hT⟩ : ∃ T, T = tpN S Ls Hs := ⟨_, rfl⟩
  have HT : Hid (T = tpN S Ls Hs) := hT
  rw [← hT]
  have HB1 : Hid (Below w.heap.size w w1) := HB0.out.trans (hb1.mono HB0.out.size)
  have HX1 : Hid (TBox w1 w.heap.size S (.slice ao n cap) (.slice ao2 n2 cap2)) := HX.out.later hb1
  clear hT hb1 b0 b1 b2 HX
  by_cases h0 : T = 0
  · have HR1 : Hid (R = if 8 < l.length then 4 else wsTo S Hs l l.length) := by
      show _ = _
      rw [HR.out, wsN, if_pos (HT.out.symm.trans h0)]
    subst h0
    rw [no_ok rfl]
    by_cases h8 : 8 < n4
    · have HR2 : Hid (R = 4) := by
        show _ = _
        rw [HR1.out, if_pos (by rw [HGN.out]; exact h8)]
      have h8' : (8 : Int) < (n4 : Int) := by omega
      go_wp2
      go_ret
      exact ⟨by rw [HR2.out]; rfl, HB1.out⟩
    · have HR2 : Hid (R = wsTo S Hs l n4) := by
        show _ = _
        rw [HR1.out, if_neg (by rw [HGN.out]; exact h8), HGN.out]
      have h8' : ¬ (8 : Int) < (n4 : Int) := by omega
      clear HR HR1
      go_wp2
      go_loopw [20] (fun i wr => ∃ j : Nat, j ≤ n4 ∧ i = .int .i64 j ∧ wsTo S Hs l j = 0 ∧ Below w1.heap.size w1 wr) (fun i _ => n4 - (intOf i).toNat)
      case atStart => exact ⟨0, by omega, rfl, rfl, Below.refl _ _⟩
      case round =>
        obtain ⟨j, hj, rfl, hno, hB⟩ := hrel
        have HB : Hid (Below w1.heap.size w1 wr) := hB
        have HBw : Hid (Below w.heap.size w wr) := HB1.out.trans (hB.mono HB1.out.size)
        have HNO : Hid (wsTo S Hs l j = 0) := hno
        have HXr : Hid (TBox wr w.heap.size S (.slice ao n cap) (.slice ao2 n2 cap2)) := HX1.out.later hB
        clear hno hB
        by_cases hlt : j < n4
        · obtain ⟨g, o, hao, hc, _⟩ := HGA.out (by omega)
          subst hao
          obtain ⟨y0, y1, y2, y3, hkl, hLk, q0, q1, q2, q3⟩ := wis_at (hc.later HBw.out) HGN.out hlt
          obtain ⟨N, hN⟩ : ∃ q, q = woN S Hs ⟨y0, y1, y2, y3⟩ := ⟨_, rfl⟩
          have HN : Hid (woN S Hs ⟨y0, y1, y2, y3⟩ = N) := hN.symm
          have HST : Hid (wsTo S Hs l (j + 1) = N) := by
            show _ = _
            rw [wsTo, if_pos HNO.out, getW hkl, hLk, ← hN]
          have hba : Below wr.heap.size wr (wr.alloc (Obj.cells #[Value.int IntKind.i64 y0, Value.string y1, Value.string y2, Value.int IntKind.i64 y3] 61)) := (Below.refl _ _).alloc (Nat.le_refl _) _
          have HBA : Hid (Below wr.heap.size wr (wr.alloc (Obj.cells #[Value.int IntKind.i64 y0, Value.string y1, Value.string y2, Value.int IntKind.i64 y3] 61))) := hba
          obtain ⟨b0, b1, b2⟩ := HXr.out
          have hlw : w.heap.size < wr.heap.size := World.block_lt_of_cell? _ _ b0
          clear hc hLk hN hba
          go_wp2_with fail
          refine (checkOne_any S ao n cap ao2 n2 cap2 Hs y0 y1 y2 y3 _ (HHW.out _ (HBw.out.trans (HBA.out.mono HBw.out.size)))).mono ?_
          rintro e w3 ⟨rfl, hb3⟩
          rw [HN.out]
          have HB3 : Hid (Below w1.heap.size w1 w3) := (HB.out.trans (HBA.out.mono HB.out.size)).trans (hb3.mono (HB.out.trans (HBA.out.mono HB.out.size)).size)
          clear hb3 HBA b0 b1 b2 q0 q1 q2 q3 hlw HXr HB
          by_cases hN0 : N = 0
          · subst hN0
            rw [no_ok rfl]
            go_wp2
            go_roundw
            case rel => exact ⟨j + 1, by omega, by go_num, HST.out, HB3.out⟩
            case measure => simp [intOf]; omega
          · rw [no_ne hN0]
            have HR3 : Hid (R = N) := by
              show _ = _
              rw [HR2.out, ws_le (k := j + 1) (by rw [HST.out]; exact hN0) (by omega), HST.out]
            have HNN : Hid (N ≠ 0) := hN0
            clear hN0
            go_wp2
            go_ret
            exact ⟨by rw [HR3.out, no_ne HNN.out]; rfl, HB1.out.trans (HB3.out.mono HB1.out.size)⟩
        · obtain rfl : j = n4 := by omega
          have HR3 : Hid (R = 0) := by
            show _ = _
            rw [HR2.out, HNO.out]
          go_wp2
          go_ret
          exact ⟨by rw [HR3.out, no_ok rfl]; rfl, HBw.out⟩
  · rw [no_ne h0]
    have HR1 : Hid (R = T) := by
      show _ = _
      rw [HR.out, wsN, if_neg (by rw [← HT.out]; exact h0), HT.out]
    have HNN : Hid (T ≠ 0) := h0
    clear h0
    go_wp2
    go_ret
    exact ⟨by rw [HR1.out, no_ne HNN.out]; rfl, HB1.out⟩
end Go.Proofs.YtfbocionnjliladDoor
