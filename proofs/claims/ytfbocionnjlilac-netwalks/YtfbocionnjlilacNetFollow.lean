/- What net.follow answers: a contract for the walks above it. -/
import Derived.Test.YtfbocionnjlilacNetStep1
import Derived.Test.YtfbocionnjlilacNetMath4
import Derived.Test.YtfbocionnjlilacTopoPeer
import Derived.Test.YtfbocionnjlilacHopHas
import Derived.Test.YtfbocionnjlilacTopoPeers
import Derived.Test.YtfbocionnjlilacSlHost
import Derived.Test.YtfbocionnjlilacStrClone
import Derived.Test.YtfbocionnjlilacOwnRow
import Derived.Test.YtfbocionnjlilacOwnInts
import Derived.BigRegion
import Derived.Deep.RegionWith
import Derived.Deep.RegionHeld3
import Derived.Deep.CutRange
import Derived.Deep.CutBlock
namespace Go.Proofs.Ytfbocionnjlilac
open Go.RowKit
set_option linter.unusedSimpArgs false
set_option linter.unusedVariables false

set_option maxHeartbeats 1000000 in
set_option maxRecDepth 100000 in
theorem follow1_any (n : ByteArray) (x0 x1 : Int) (B : Nat) (x y : Int) (w : World) (h0 : w.cell? ⟨B, 0, none⟩ = some (.int .i64 x)) (h1 : w.cell? ⟨B, 1, none⟩ = some (.int .i64 y)) :
    Calls Try.prog 35 #[.agg #[.string n, .int .i64 x0, .int .i64 x1], .pointer (some ⟨B, 0, none⟩)] w fun e w' => e = .returned (.bool (sq (x0, x1) (x, y))) ∧ Below w.heap.size w w' := by
  have hlt : B < w.heap.size := World.block_lt_of_cell? _ _ h0
  have HB0 : Hid (Below w.heap.size w (w.alloc (Obj.cells #[Value.string n, Value.int IntKind.i64 x0, Value.int IntKind.i64 x1] 44))) := (Below.refl _ _).alloc (Nat.le_refl _) _
  have hr : sq (x0, x1) (x, y) = (x0 == x && x1 == y) := rfl
  rw [hr]
  clear hr
  cases g1 : (x0 == x) <;> cases g2 : (x1 == y)
  all_goals
    simp only [Bool.and_true, Bool.and_false, Bool.and_self]
    go_enter Try.func35, Try.ntmps35
    go_wp2
    go_ret
    exact ⟨rfl, HB0.out⟩
theorem follow1_asks (B : Nat) (x y : Int) (w : World) (h0 : w.cell? ⟨B, 0, none⟩ = some (.int .i64 x)) (h1 : w.cell? ⟨B, 1, none⟩ = some (.int .i64 y)) : hstAsks w 35 (.pointer (some ⟨B, 0, none⟩)) (fun h => sq h.2 (x, y)) :=
  fun n x0 x1 W hW => follow1_any n x0 x1 B x y W (cell_later hW h0) (cell_later hW h1)
/-- The boxes: a net, a hop, the answer's. -/
def fbox (w : World) (S : Int) (v1 v2 v3 : Value) (x y h : Int) : World := ((w.alloc (Obj.cells #[.int .i64 S, v1, v2, v3] 42)).alloc (Obj.cells #[.int .i64 x, .int .i64 y, .int .i64 h] 58)).alloc (Obj.cells #[.int .i64 0, .string ⟨#[]⟩, .slice none 0 0] 53)
structure FBox (w W : World) (S : Int) (v1 v2 v3 : Value) (x y h : Int) : Prop where
  below : Below w.heap.size w W
  n : NeBox W w.heap.size S v1 v2 v3
  i0 : W.cell? ⟨w.heap.size + 1, 0, none⟩ = some (.int .i64 x)
  i1 : W.cell? ⟨w.heap.size + 1, 1, none⟩ = some (.int .i64 y)
  i2 : W.cell? ⟨w.heap.size + 1, 2, none⟩ = some (.int .i64 h)
  r0 : W.cell? ⟨w.heap.size + 1 + 1, 0, none⟩ = some (.int .i64 0)
  r1 : W.cell? ⟨w.heap.size + 1 + 1, 1, none⟩ = some (.string ⟨#[]⟩)
  r2 : W.cell? ⟨w.heap.size + 1 + 1, 2, none⟩ = some (.slice none 0 0)
  f : ∀ i, W.frozen? ⟨w.heap.size + 1 + 1, i, none⟩ = false
theorem fbox_new (w : World) (S : Int) (v1 v2 v3 : Value) (x y h : Int) : FBox w (fbox w S v1 v2 v3 x y h) S v1 v2 v3 x y h := by
  have e1 : (w.alloc (Obj.cells #[.int .i64 S, v1, v2, v3] 42)).heap.size = w.heap.size + 1 := by simp
  have e2 : ((w.alloc (Obj.cells #[.int .i64 S, v1, v2, v3] 42)).alloc (Obj.cells #[.int .i64 x, .int .i64 y, .int .i64 h] 58)).heap.size = w.heap.size + 1 + 1 := by simp
  have hb : ∀ (W : World) (o : Obj), Below W.heap.size W (W.alloc o) := fun W o => (Below.refl _ _).alloc (Nat.le_refl _) _
  have hs := (vat_new (w.alloc (Obj.cells #[.int .i64 S, v1, v2, v3] 42)) [.int .i64 x, .int .i64 y, .int .i64 h] 58).later (hb _ (Obj.cells #[.int .i64 0, .string ⟨#[]⟩, .slice none 0 0] 53))
  rw [e1] at hs
  have hr := vat_new ((w.alloc (Obj.cells #[.int .i64 S, v1, v2, v3] 42)).alloc (Obj.cells #[.int .i64 x, .int .i64 y, .int .i64 h] 58)) [.int .i64 0, .string ⟨#[]⟩, .slice none 0 0] 53
  rw [e2] at hr
  have hf : ∀ k, (fbox w S v1 v2 v3 x y h).frozen? ⟨((w.alloc (Obj.cells #[.int .i64 S, v1, v2, v3] 42)).alloc (Obj.cells #[.int .i64 x, .int .i64 y, .int .i64 h] 58)).heap.size, k, none⟩ = false := fun k => by
    unfold fbox
    generalize (w.alloc (Obj.cells #[.int .i64 S, v1, v2, v3] 42)).alloc (Obj.cells #[.int .i64 x, .int .i64 y, .int .i64 h] 58) = X
    simp
  rw [e2] at hf
  exact ⟨(((Below.refl _ _).alloc (Nat.le_refl _) _).alloc (by rw [e1]; omega) _).alloc (by rw [e2]; omega) _, ((nebox_new w S v1 v2 v3 42).later (hb _ _)).later (hb _ _), hs 0 _ rfl, hs 1 _ rfl, hs 2 _ rfl, hr 0 _ rfl, hr 1 _ rfl, hr 2 _ rfl, hf⟩
theorem FBox.lt {w W : World} {S : Int} {v1 v2 v3 : Value} {x y h : Int} (k : FBox w W S v1 v2 v3 x y h) : w.heap.size + 3 ≤ W.heap.size := World.block_lt_of_cell? W ⟨w.heap.size + 1 + 1, 0, none⟩ k.r0
theorem FBox.later {w W W' : World} {S : Int} {v1 v2 v3 : Value} {x y h : Int} (k : FBox w W S v1 v2 v3 x y h) {B : Nat} (hB : w.heap.size + 3 ≤ B) (hb : Below B W W') : FBox w W' S v1 v2 v3 x y h :=
  have hc : ∀ (g i : Nat) (x : Value), g < w.heap.size + 3 → W.cell? ⟨g, i, none⟩ = some x → W'.cell? ⟨g, i, none⟩ = some x := fun g i x hg e => (hb.cell (p := ⟨g, i, none⟩) (show g < B by omega)).trans e
  ⟨k.below.trans (hb.mono (by omega)), ⟨hc _ _ _ (by omega) k.n.1, hc _ _ _ (by omega) k.n.2.1, hc _ _ _ (by omega) k.n.2.2.1, hc _ _ _ (by omega) k.n.2.2.2⟩, hc _ _ _ (by omega) k.i0, hc _ _ _ (by omega) k.i1, hc _ _ _ (by omega) k.i2, hc _ _ _ (by omega) k.r0, hc _ _ _ (by omega) k.r1, hc _ _ _ (by omega) k.r2, fun i => (hb.frozen (p := ⟨w.heap.size + 1 + 1, i, none⟩) (show w.heap.size + 1 + 1 < B by omega)).trans (k.f i)⟩

theorem ballocD {w w' : World} {a b c : Value} {t : TypeId} (hb : Below (w.drew.alloc (Obj.cells #[a, b, c] t)).heap.size (w.drew.alloc (Obj.cells #[a, b, c] t)) w') : (w'.cell? ⟨w.heap.size, 0, none⟩ = some a ∧ w'.cell? ⟨w.heap.size, 1, none⟩ = some b ∧ w'.cell? ⟨w.heap.size, 2, none⟩ = some c) ∧ w'.frozen? ⟨w.heap.size, 0, none⟩ = false ∧ w'.frozen? ⟨w.heap.size, 1, none⟩ = false ∧ w'.frozen? ⟨w.heap.size, 2, none⟩ = false := by
  have h := vat_new w.drew [a, b, c] t
  have hl : w.heap.size < (w.drew.alloc (Obj.cells #[a, b, c] t)).heap.size := by simp
  exact ⟨⟨cell_later hb (h 0 _ rfl), cell_later hb (h 1 _ rfl), cell_later hb (h 2 _ rfl)⟩, (hb.frozen (p := ⟨w.heap.size, 0, none⟩) hl).trans (froz_new2 w.drew #[a, b, c] t 0), (hb.frozen (p := ⟨w.heap.size, 1, none⟩) hl).trans (froz_new2 w.drew #[a, b, c] t 1), (hb.frozen (p := ⟨w.heap.size, 2, none⟩) hl).trans (froz_new2 w.drew #[a, b, c] t 2)⟩
/-- Three cells of one block are set. -/
def put3 (W : World) (g : Nat) (u v x : Value) : World := ((W.setCell ⟨g, 0, none⟩ u).setCell ⟨g, 1, none⟩ v).setCell ⟨g, 2, none⟩ x
theorem put3_cells {W : World} {g : Nat} {a b c u v x : Value} (k : W.cell? ⟨g, 0, none⟩ = some u ∧ W.cell? ⟨g, 1, none⟩ = some v ∧ W.cell? ⟨g, 2, none⟩ = some x) : (put3 W g a b c).cell? ⟨g, 0, none⟩ = some a ∧ (put3 W g a b c).cell? ⟨g, 1, none⟩ = some b ∧ (put3 W g a b c).cell? ⟨g, 2, none⟩ = some c := by
  unfold put3
  have h1 : (W.setCell ⟨g, 0, none⟩ a).cell? ⟨g, 1, none⟩ = some v := by
    rw [World.cell?_setCell_other _ _ _ _ (by simp)]
    exact k.2.1
  have h2 : ((W.setCell ⟨g, 0, none⟩ a).setCell ⟨g, 1, none⟩ b).cell? ⟨g, 2, none⟩ = some x := by
    rw [World.cell?_setCell_other _ _ _ _ (by simp), World.cell?_setCell_other _ _ _ _ (by simp)]
    exact k.2.2
  refine ⟨?_, ?_, World.cell?_setCell_same _ _ _ h2⟩
  · rw [World.cell?_setCell_other _ _ _ _ (by simp), World.cell?_setCell_other _ _ _ _ (by simp)]
    exact World.cell?_setCell_same _ _ _ k.1
  · rw [World.cell?_setCell_other _ _ _ _ (by simp)]
    exact World.cell?_setCell_same _ _ _ h1
theorem below_put3 {B : Nat} {w W : World} (h : Below B w W) (g : Nat) (hg : B ≤ g) (u v x : Value) : Below B w (put3 W g u v x) := ((h.setCell (p := ⟨g, 0, none⟩) hg u).setCell (p := ⟨g, 1, none⟩) hg v).setCell (p := ⟨g, 2, none⟩) hg x
theorem own_put3 {W : World} {B e size n : Nat} {v : Value} {xs : List Value} (h : W.ownsRow B e size v n xs) (g : Nat) (hg : g < B) (a b c : Value) : (put3 W g a b c).ownsRow B e size v n xs := ownsRow_setCell_below (ownsRow_setCell_below (ownsRow_setCell_below h hg _) hg _) hg _
theorem hop_in {x y h : Int} {p : (Int × Int) × Int} (e : p = ((x, y), h)) : p.1.1 = x ∧ p.1.2 = y ∧ p.2 = h := by
  subst e
  exact ⟨rfl, rfl, rfl⟩
def sliL : Value → Nat
  | .slice _ n _ => n
  | _ => 0

set_option maxHeartbeats 8000000 in
set_option maxRecDepth 100000 in
theorem follow_any (S : Int) (ao : Option Addr) (n cap : Nat) (ao2 : Option Addr) (n2 cap2 : Nat) (ao3 : Option Addr) (n3 cap3 : Nat) (Ls : List ((Int × Int) × (Int × Int))) (Hs : List (ByteArray × (Int × Int))) (Ts : List (List Ru)) (x y h : Int) (w : World)
    (hL : GS lnkE w (.slice ao n cap) Ls) (hH : GS hstE w (.slice ao2 n2 cap2) Hs) (hT : TS w (.slice ao3 n3 cap3) Ts) (hN : ntN S Ls Hs Ts = 0) (hx : spB S (x, y) = true) :
    Calls Try.prog 23 #[.agg #[.int .i64 S, .slice ao n cap, .slice ao2 n2 cap2, .slice ao3 n3 cap3], .agg #[.int .i64 x, .int .i64 y, .int .i64 h]] w fun e w' => ∃ ao4 n4 cap4, e = .returned (.agg #[.int .i64 (frF Ls Hs Ts (x, y) h).1, .string (frF Ls Hs Ts (x, y) h).2.1, .slice ao4 n4 cap4]) ∧ w'.ownsRow w.heap.size 58 3 (.slice ao4 n4 cap4) (frF Ls Hs Ts (x, y) h).2.2.length (cellsG hopE (frF Ls Hs Ts (x, y) h).2.2) ∧ Below w.heap.size w w' := by
  obtain ⟨hTP, hTL, hTT⟩ := nt_0 hN
  have hS := (tp_0 hTP).1
  have hnd := (tp_0 hTP).2.2.2.1
  have hTn := hT.len
  have hLn := hL.len
  have hl2 := (tp_0 hTP).2.1
  have HTP : Hid (tpN S Ls Hs = 0) := hTP
  have HND : Hid ((spsL Ls).Nodup) := hnd
  have HN1 : Hid (n ≤ 1000) := by show _ ≤ _; omega
  have HTT : Hid (∀ k, k < Ts.length → tbN (Ts.getD k []) = 0) := hTT
  have H36 : Hid (n3 ≤ 6) := by show _ ≤ _; omega
  have H3S : Hid ((n3 : Int) = S) := by show _ = _; omega
  have HLW : Hid (∀ W, Below w.heap.size w W → GS lnkE W (.slice ao n cap) Ls) := fun W hb => hL.later hb
  have HHW : Hid (∀ W, Below w.heap.size w W → GS hstE W (.slice ao2 n2 cap2) Hs) := fun W hb => hH.later hb
  have HTW : Hid (∀ W, Below w.heap.size w W → TS W (.slice ao3 n3 cap3) Ts) := fun W hb => hT.later hb
  obtain ⟨F, hF⟩ : ∃ F, F = frF Ls Hs Ts (x, y) h := ⟨_, rfl⟩
  have HF : Hid (F = foF Ls Hs Ts 24 [((x, y), h)]) := hF
  rw [← hF]
  have hX := fbox_new w S (.slice ao n cap) (.slice ao2 n2 cap2) (.slice ao3 n3 cap3) x y h
  obtain ⟨w0, hw0⟩ : ∃ W, W = fbox w S (.slice ao n cap) (.slice ao2 n2 cap2) (.slice ao3 n3 cap3) x y h := ⟨_, rfl⟩
  rw [← hw0] at hX
  have HX : Hid (FBox w w0 S (.slice ao n cap) (.slice ao2 n2 cap2) (.slice ao3 n3 cap3) x y h) := hX
  have HW0 : Hid (((w.alloc (Obj.cells #[.int .i64 S, .slice ao n cap, .slice ao2 n2 cap2, .slice ao3 n3 cap3] 42)).alloc (Obj.cells #[.int .i64 x, .int .i64 y, .int .i64 h] 58)).alloc (Obj.cells #[.int .i64 0, .string ⟨#[]⟩, .slice none 0 0] 53) = w0) := hw0.symm
  have HXX : Hid (spB S (x, y) = true) := hx
  clear hL hH hT hN hTP hTL hTT hS hnd hTn hLn hl2 hF hX hw0 hx
  go_enter Try.func23, Try.ntmps23
  go_upto_region 1 with fail
  rw [HW0.out]
  obtain ⟨_, ⟨b0, b1, b2, b3⟩, i0, i1, i2, r0, r1, r2, f⟩ := HX.out
  clear HW0 f
  go_wp2_with fail
  refine (peers_any ao n cap Ls _ (HLW.out _ HX.out.below) HND.out HN1.out).mono ?_
  rintro e w1 ⟨B, M, rfl, hM, hPM, hb1⟩
  have HM : Hid (MAt spotKey veS w1 B M) := hM
  have HPM : Hid (PM M Ls) := hPM
  have HX1 : Hid (FBox w w1 S (.slice ao n cap) (.slice ao2 n2 cap2) (.slice ao3 n3 cap3) x y h) := HX.out.later HX.out.lt hb1
  have hlB : B < w1.heap.size := hM.lt
  obtain ⟨_, ⟨b0, b1, b2, b3⟩, i0, i1, i2, r0, r1, r2, f⟩ := HX1.out
  clear f hM hPM hb1 HX
  go_wp2
  have HLW1 : Hid (w.heap.size + 3 ≤ w1.heap.size) := HX1.out.lt
  have HO1 : Hid ((w1.alloc (Obj.cells #[.int .i64 x, .int .i64 y, .int .i64 h] 58)).ownsRow w1.heap.size 58 3 (.slice (some ⟨w1.heap.size, 0, none⟩) 1 1) ([((x, y), h)] : List ((Int × Int) × Int)).length (cellsG hopE [((x, y), h)])) :=
    World.ownsRow_lit (base := w1.heap.size) (e := 58) (size := 3) w1 #[.int .i64 x, .int .i64 y, .int .i64 h] 1 (Nat.le_refl _) (by decide) rfl
  clear b0 b1 b2 b3 i0 i1 i2 r0 r1 r2
  go_loopw [6] (fun v wr => ∃ l : List ((Int × Int) × Int), (0 < l.length ∧ l.length ≤ 24) ∧ wr.ownsRow w1.heap.size 58 3 v l.length (cellsG hopE l) ∧ F = foF Ls Hs Ts (25 - l.length) l ∧ spB S (laH l).1 = true ∧ Below w1.heap.size w1 wr) (fun v _ => 25 - sliL v)
  case atStart => exact ⟨[((x, y), h)], by simp, HO1.out, HF.out, HXX.out, (Below.refl _ _).alloc (Nat.le_refl _) _⟩
  case round =>
    obtain ⟨l, ⟨hl0, hl24⟩, hown, hFl, hsp, hBr⟩ := hrel
    obtain ⟨ao5, cap5, rfl⟩ := own_form hown
    obtain ⟨wo, hwo⟩ : ∃ X, X = wr := ⟨_, rfl⟩
    subst hwo
    obtain ⟨m, hm⟩ : ∃ m, m = l.length := ⟨_, rfl⟩
    have HML : Hid (l.length = m) := hm.symm
    rw [← hm] at hown hl0 hl24 hFl
    rw [← hm]
    have HOWN : Hid (wo.ownsRow w1.heap.size 58 3 (.slice ao5 m cap5) m (cellsG hopE l)) := hown
    have HFL : Hid (F = foF Ls Hs Ts (25 - l.length) l) := by
      show _ = _
      rw [← hm]
      exact hFl
    have HL24 : Hid (l.length ≤ 24) := by
      show _ ≤ _
      omega
    have HBr : Hid (Below w1.heap.size w1 wo) := hBr
    have HXo : Hid (FBox w wo S (.slice ao n cap) (.slice ao2 n2 cap2) (.slice ao3 n3 cap3) x y h) := HX1.out.later HX1.out.lt hBr
    have HMo : Hid (MAt spotKey veS wo B M) := HM.out.later hBr
    obtain ⟨_, _, _, e5, hGn, hGm, _, hGa⟩ := (own_GS (E := hopE) (L := l) (by rw [← hm]; exact hown) : GS hopE wo (.slice ao5 m cap5) l).form
    cases e5
    obtain ⟨g5, o5, hao5, hc5, _⟩ := hGa hl0
    subst hao5
    obtain ⟨p0, p1, p2, hkl, hLk, c0, c1, c2⟩ := hop_at hc5 HML.out (show m - 1 < m by omega)
    have hla : laH l = ((p0, p1), p2) := by
      have e : laH l = l[m - 1] := by
        unfold laH
        rw [← hm]
        simp [List.getD, hkl]
      rw [e, hLk]
    have HLA : Hid (laH l = ((p0, p1), p2)) := hla
    rw [hla] at hsp
    have hsp2 := sp_of hsp
    simp only at hsp2
    have HS1 : Hid (1 ≤ p0) := hsp2.1
    have HS2 : Hid (p0 ≤ (n3 : Int)) := by
      show _ ≤ _
      rw [H3S.out]
      exact hsp2.2.1
    obtain ⟨A, hA⟩ : ∃ A, A = stO Ts ((p0, p1), p2) := ⟨_, rfl⟩
    have HA : Hid (stO Ts (laH l) = A) := by
      show _ = _
      rw [hla, hA]
    have HA2 : Hid (stO Ts ((p0, p1), p2) = A) := hA.symm
    obtain ⟨Q1, hQ1⟩ : ∃ q, q = (A.getD zeH).1.1 := ⟨_, rfl⟩
    obtain ⟨Q2, hQ2⟩ : ∃ q, q = (A.getD zeH).1.2 := ⟨_, rfl⟩
    obtain ⟨Q3, hQ3⟩ : ∃ q, q = (A.getD zeH).2 := ⟨_, rfl⟩
    obtain ⟨okb, hokb⟩ : ∃ q, q = A.isSome := ⟨_, rfl⟩
    have HQ1 : Hid ((A.getD zeH).1.1 = Q1) := hQ1.symm
    have HQ2 : Hid ((A.getD zeH).1.2 = Q2) := hQ2.symm
    have HQ3 : Hid ((A.getD zeH).2 = Q3) := hQ3.symm
    have HOKB : Hid (A.isSome = okb) := hokb.symm
    have hmi : IntKind.i64.wrap ((m : Int) - 1) = ((m - 1 : Nat) : Int) := by
      rw [show (m : Int) - 1 = ((m - 1 : Nat) : Int) by omega]
      exact wrap_small (by omega) (by omega)
    have mb0 : (0 : Int) ≤ ((m - 1 : Nat) : Int) := by omega
    have mb1 : ((m - 1 : Nat) : Int) < (m : Int) := by omega
    obtain ⟨_, ⟨b0, b1, b2, b3⟩, i0, i1, i2, r0, r1, r2, f⟩ := HXo.out
    have hlw : w.heap.size < wo.heap.size := World.block_lt_of_cell? _ _ b0
    have hlg : g5 < wo.heap.size := World.block_lt_of_cell? _ _ c0
    clear hown hFl hsp hBr hm hGn hGm hGa hc5 hLk hla hsp2 hA hQ1 hQ2 hQ3 hokb f HO1 HF HXX HX1 HM i0 i1 i2 r0 r1 r2
    go_upto_region 3 with fail
    go_cut [7, 8] from 18 to 28 (fun p q w' => ∃ g, p = .pointer (some ⟨g, 0, none⟩) ∧ q = .bool okb ∧ (w'.cell? ⟨g, 0, none⟩ = some (.int .i64 Q1) ∧ w'.cell? ⟨g, 1, none⟩ = some (.int .i64 Q2) ∧ w'.cell? ⟨g, 2, none⟩ = some (.int .i64 Q3)) ∧ Below wo.heap.size wo w')
    case first =>
      go_region_with (go_at_call 25; refine (step_any S ao n cap ao2 n2 cap2 ao3 n3 cap3 Ts p0 p1 p2 _ (HTW.out _ (HXo.out.below.trans (Below.mono (by first | exact Below.drew (Below.refl _ _) | exact (Below.drew (Below.refl _ _)).alloc (Nat.le_refl _) _) HXo.out.below.size))) HTT.out HS1.out HS2.out H36.out).mono ?_; rintro e w' ⟨rfl, hb⟩; rw [HA2.out, HQ1.out, HQ2.out, HQ3.out, HOKB.out]; have HBX : Hid (Below wo.heap.size wo w') := (by first | exact bdrew hb | exact balloc hb); try (have hbc := ballocD hb; obtain ⟨kc, kf0, kf1, kf2⟩ := hbc; obtain ⟨k0, k1, k2⟩ := kc); clear hb)
      all_goals (go_wp2_with fail; go_meet)
      all_goals first
        | exact ⟨_, rfl, rfl, ⟨by simp, by simp, by simp⟩, HBX.out.alloc HBX.out.size _⟩
        | exact ⟨_, rfl, rfl, put3_cells ⟨k0, k1, k2⟩, below_put3 HBX.out _ (Nat.le_refl _) _ _ _⟩
    case rest =>
      obtain ⟨g, rfl, rfl, ⟨d0, d1, d2⟩, hbw⟩ := hcut
      have HXc : Hid (FBox w wc S (.slice ao n cap) (.slice ao2 n2 cap2) (.slice ao3 n3 cap3) x y h) := HXo.out.later HXo.out.lt hbw
      have HOc : Hid (wc.ownsRow w1.heap.size 58 3 (.slice (some ⟨g5, o5, none⟩) m cap5) m (cellsG hopE l)) := own_below HOWN.out hbw
      have HMc : Hid (MAt spotKey veS wc B M) := HMo.out.later hbw
      have HBc : Hid (Below w1.heap.size w1 wc) := HBr.out.trans (hbw.mono HBr.out.size)
      obtain ⟨hBw, ⟨b0, b1, b2, b3⟩, i0, i1, i2, r0, r1, r2, f⟩ := HXc.out
      have HBw : Hid (Below w.heap.size w wc) := hBw
      have f0 := f 0
      have f1 := f 1
      have f2 := f 2
      have hlw1 : w.heap.size + 3 ≤ w1.heap.size := HLW1.out
      clear hbw f hBw HXo HOWN HMo HBr c0 c1 c2
      cases okb with
      | false =>
        have HF2 : Hid (F = (2, ByteArray.empty, l)) := by
          show _ = _
          rw [HFL.out]
          refine fo_2 HL24.out ?_
          rw [HA.out]
          have := HOKB.out
          cases A with
          | none => rfl
          | some _ => cases this
        go_wp2
        refine bodyPost_ret (v := .agg #[.int .i64 2, .string ⟨#[]⟩, .slice (some ⟨g5, o5, none⟩) m cap5]) (by simp [results, Try.results23, go_sem, *]) rfl ⟨_, _, _, by rw [HF2.out]; rfl, ?_, below_put3 HBw.out _ (by omega) _ _ _⟩
        rw [HF2.out]
        exact own_mono (B := w1.heap.size) (by rw [HML.out]; exact own_put3 HOc.out _ (by omega) _ _ _) (by have := HLW1.out; omega)
      | true =>
        have HAS : Hid (A = some ((Q1, Q2), Q3)) := by
          show _ = _
          have h1 := HOKB.out
          have h2 := HQ1.out
          have h3 := HQ2.out
          have h4 := HQ3.out
          cases A with
          | none => cases h1
          | some q =>
            obtain ⟨⟨q1, q2⟩, q3⟩ := q
            simp only [Option.getD_some] at h2 h3 h4
            rw [h2, h3, h4]
        have HK : Hid (hstAsks wc 35 (.pointer (some ⟨g, 0, none⟩)) (fun h => sq h.2 (Q1, Q2))) := follow1_asks g Q1 Q2 wc d0 d1
        obtain ⟨_, _, _, e6, hHn, hHm, _, hHa⟩ := (HHW.out _ HBw.out).form
        cases e6
        have HHN : Hid (Hs.length = n2) := hHn
        have HHM : Hid (n2 ≤ maxLen) := hHm
        have HHA : Hid (0 < n2 → ∃ g o, ao2 = some ⟨g, o, none⟩ ∧ GAt hstE wc g o Hs ∧ cap2 ≤ maxLen) := hHa
        have HD : Hid (VAt wc g 0 (hopE.c ((Q1, Q2), Q3))) := by
          intro j u hu
          match j, hu with
          | 0, hu => cases hu; exact d0
          | 1, hu => cases hu; exact d1
          | 2, hu => cases hu; exact d2
        clear hHn hHm hHa r0 r1 r2 f0 f1 f2
        go_wp2_with fail
        refine (hst_idxF ao2 n2 cap2 _ _ (fun h => sq h.2 (Q1, Q2)) Hs _ HHN.out HHM.out HHA.out (enters_of Try.func35 (by kernel_rfl) rfl) HK.out).mono ?_
        rintro e w2 ⟨rfl, hb2⟩
        have HX2 : Hid (FBox w w2 S (.slice ao n cap) (.slice ao2 n2 cap2) (.slice ao3 n3 cap3) x y h) := HXc.out.later HXc.out.lt hb2
        have HO2 : Hid (w2.ownsRow w1.heap.size 58 3 (.slice (some ⟨g5, o5, none⟩) m cap5) m (cellsG hopE l)) := own_below HOc.out hb2
        have HM2 : Hid (MAt spotKey veS w2 B M) := HMc.out.later hb2
        have HB2 : Hid (Below w1.heap.size w1 w2) := HBc.out.trans (hb2.mono HBc.out.size)
        have HHA2 : Hid (0 < n2 → ∃ g o, ao2 = some ⟨g, o, none⟩ ∧ GAt hstE w2 g o Hs ∧ cap2 ≤ maxLen) := fun h => by
          obtain ⟨g, o, e1, e2, e3⟩ := HHA.out h
          exact ⟨g, o, e1, e2.later hb2, e3⟩
        have HD2 : Hid (VAt w2 g 0 (hopE.c ((Q1, Q2), Q3))) := HD.out.later hb2
        obtain ⟨d0, d1, d2⟩ := hop_cells HD2.out
        simp only [Nat.zero_add] at d0 d1 d2
        obtain ⟨hBw2, ⟨b0, b1, b2, b3⟩, i0, i1, i2, r0, r1, r2, f⟩ := HX2.out
        have HBw2 : Hid (Below w.heap.size w w2) := hBw2
        have f0 := f 0
        have f1 := f 1
        have f2 := f 2
        have hlg2 : g < w2.heap.size := World.block_lt_of_cell? _ _ d0
        have hlr2 : w.heap.size + 1 + 1 < w2.heap.size := World.block_lt_of_cell? _ _ r0
        have hlw2 : w.heap.size < w2.heap.size := World.block_lt_of_cell? _ _ b0
        have hs12 : w1.heap.size ≤ w2.heap.size := HB2.out.size
        clear hb2 f hBw2 HXc HOc HMc HBc HHA HK HD HBw
        rcases at_ix Hs (Q1, Q2) with ⟨hi, ho⟩ | ⟨k, hk, hi, ho⟩
        · rw [hi]
          have HAT : Hid (atO Hs (Q1, Q2) = none) := ho
          have hlk := peer_look HM2.out HPM.out Q1 Q2
          obtain ⟨P, hP⟩ : ∃ P, P = peerO Ls (Q1, Q2) := ⟨_, rfl⟩
          have HP : Hid (peerO Ls (Q1, Q2) = P) := hP.symm
          rw [← hP] at hlk
          clear hi ho hP
          cases P with
          | none =>
            have HF2 : Hid (F = (3, ByteArray.empty, l)) := by
              show _ = _
              rw [HFL.out]
              exact fo_3 HL24.out (HA.out.trans HAS.out) HAT.out HP.out
            simp only [Option.getD_none, Option.isSome_none] at hlk
            go_wp2
            refine bodyPost_ret (v := .agg #[.int .i64 3, .string ⟨#[]⟩, .slice (some ⟨g5, o5, none⟩) m cap5]) (by simp [results, Try.results23, go_sem, *]) rfl ⟨_, _, _, by rw [HF2.out]; rfl, ?_, (below_put3 HBw2.out _ (by omega) _ _ _).alloc (below_put3 HBw2.out _ (by omega) _ _ _).size _⟩
            rw [HF2.out]
            exact own_mono (B := w1.heap.size) (by rw [HML.out]; exact (own_put3 HO2.out _ (by omega) _ _ _).alloc _) (by have := HLW1.out; omega)
          | some s =>
            obtain ⟨P1, P2⟩ := s
            simp only [Option.getD_some, Option.isSome_some] at hlk
            by_cases h24 : m = 24
            · have e24 : ((m : Int) == 24) = true := by simp [h24]
              have HF2 : Hid (F = (4, ByteArray.empty, l)) := by
                show _ = _
                rw [HFL.out]
                exact fo_4 HL24.out (HA.out.trans HAS.out) HAT.out HP.out (.inl (HML.out.trans h24))
              clear h24
              have hlr3 : w.heap.size + 1 + 1 < w2.heap.size + 1 := by omega
              go_wp2
              clear e24
              refine bodyPost_ret (v := .agg #[.int .i64 4, .string ⟨#[]⟩, .slice (some ⟨g5, o5, none⟩) m cap5]) (by simp [results, Try.results23, go_sem, *]) rfl ⟨_, _, _, by rw [HF2.out]; rfl, ?_, ((below_put3 HBw2.out _ (by omega) _ _ _).alloc (below_put3 HBw2.out _ (by omega) _ _ _).size _).alloc ((below_put3 HBw2.out _ (by omega) _ _ _).alloc (below_put3 HBw2.out _ (by omega) _ _ _).size _).size _⟩
              rw [HF2.out]
              exact own_mono (B := w1.heap.size) (by rw [HML.out]; exact ((own_put3 HO2.out _ (by omega) _ _ _).alloc _).alloc _) (by have := HLW1.out; omega)
            · have e24 : ((m : Int) == 24) = false := by simp; omega
              have HN24 : Hid (l.length ≠ 24) := by
                show _ ≠ _
                rw [HML.out]
                exact h24
              have hbA : Below w2.heap.size w2 ((w2.alloc (Obj.cells #[.int .i64 P1, .int .i64 P2] 27)).alloc (Obj.cells #[.int .i64 P1, .int .i64 P2, .int .i64 Q3] 58)) := ((Below.refl _ _).alloc (Nat.le_refl _) _).alloc (by simp) _
              have hvA := hop_new (w2.alloc (Obj.cells #[.int .i64 P1, .int .i64 P2] 27)) P1 P2 Q3 58
              rw [show (w2.alloc (Obj.cells #[.int .i64 P1, .int .i64 P2] 27)).heap.size = w2.heap.size + 1 by simp] at hvA
              obtain ⟨w3, hw3⟩ : ∃ W, (w2.alloc (Obj.cells #[.int .i64 P1, .int .i64 P2] 27)).alloc (Obj.cells #[.int .i64 P1, .int .i64 P2, .int .i64 Q3] 58) = W := ⟨_, rfl⟩
              rw [hw3] at hbA hvA
              have HVA : Hid (VAt w3 (w2.heap.size + 1) 0 (hopE.c ((P1, P2), Q3))) := hvA
              have HBA : Hid (Below w2.heap.size w2 w3) := hbA
              have HW3 : Hid ((w2.alloc (Obj.cells #[.int .i64 P1, .int .i64 P2] 27)).alloc (Obj.cells #[.int .i64 P1, .int .i64 P2, .int .i64 Q3] 58) = w3) := hw3
              have HO3 : Hid (w3.ownsRow w1.heap.size 58 3 (.slice (some ⟨g5, o5, none⟩) m cap5) m (cellsG hopE l)) := own_below HO2.out hbA
              clear h24 hbA hvA hw3
              go_wp2_with fail
              rw [HW3.out]
              refine (hop_has (some ⟨g5, o5, none⟩) m cap5 P1 P2 Q3 l _ (own_GS (by rw [HML.out]; exact HO3.out))).mono ?_
              rintro e w4 ⟨rfl, hb4⟩
              obtain ⟨c, hc⟩ : ∃ c, c = l.any fun a => hopB ((P1, P2), Q3) a := ⟨_, rfl⟩
              have HC : Hid ((l.any fun a => hopB ((P1, P2), Q3) a) = c) := hc.symm
              rw [← hc]
              have hB24 : Below w2.heap.size w2 w4 := HBA.out.trans (hb4.mono HBA.out.size)
              have HX4 : Hid (FBox w w4 S (.slice ao n cap) (.slice ao2 n2 cap2) (.slice ao3 n3 cap3) x y h) := HX2.out.later HX2.out.lt hB24
              have HO4 : Hid (w4.ownsRow w1.heap.size 58 3 (.slice (some ⟨g5, o5, none⟩) m cap5) m (cellsG hopE l)) := own_below HO3.out hb4
              have HB4 : Hid (Below w1.heap.size w1 w4) := HB2.out.trans (hB24.mono HB2.out.size)
              obtain ⟨t0, t1, t2⟩ := hop_cells (HVA.out.later hb4)
              simp only [Nat.zero_add] at t0 t1 t2
              obtain ⟨hBw4, ⟨b0, b1, b2, b3⟩, i0, i1, i2, r0, r1, r2, f⟩ := HX4.out
              have HBw4 : Hid (Below w.heap.size w w4) := hBw4
              have f0 := f 0
              have f1 := f 1
              have f2 := f 2
              have hs14 : w1.heap.size ≤ w4.heap.size := HB4.out.size
              clear hc hb4 hB24 f hBw4 hlk HX2 HO2 HO3 HB2 HD2 HM2 HVA HBA HW3 d0 d1 d2
              cases c with
              | true =>
                have HF2 : Hid (F = (4, ByteArray.empty, l)) := by
                  show _ = _
                  rw [HFL.out]
                  exact fo_4 HL24.out (HA.out.trans HAS.out) HAT.out HP.out (.inr HC.out)
                go_wp2
                refine bodyPost_ret (v := .agg #[.int .i64 4, .string ⟨#[]⟩, .slice (some ⟨g5, o5, none⟩) m cap5]) (by simp [results, Try.results23, go_sem, *]) rfl ⟨_, _, _, by rw [HF2.out]; rfl, ?_, below_put3 HBw4.out _ (by omega) _ _ _⟩
                rw [HF2.out]
                exact own_mono (B := w1.heap.size) (by rw [HML.out]; exact own_put3 HO4.out _ (by omega) _ _ _) (by have := HLW1.out; omega)
              | false =>
                have HFN : Hid (F = foF Ls Hs Ts (25 - (l ++ [((P1, P2), Q3)]).length) (l ++ [((P1, P2), Q3)])) := by
                  show _ = _
                  rw [HFL.out]
                  exact fo_n HL24.out (HA.out.trans HAS.out) HAT.out HP.out HN24.out HC.out
                have HSPN : Hid (spB S (laH (l ++ [((P1, P2), Q3)])).1 = true) := by
                  show _ = _
                  rw [la_app]
                  exact peer_sp HTP.out HP.out
                have hm23 : m ≤ 23 := by
                  have h1 := HN24.out
                  rw [HML.out] at h1
                  omega
                obtain ⟨j0, hj, hy0, hy1, hy2⟩ := info_parts hop_info
                go_wp2_with (at_builtin; refine wpList_append_own _ rfl _ _ 51 rfl w1.heap.size 58 j0 (.agg #[.int .i64 0, .int .i64 0, .int .i64 0]) 3 24 Try.underlying51 hj hy0 hy1 hy2 hop_zero (by decide) _ _ _ rfl (HO4.out.alloc _) ⟨w4.heap.size, 0, none⟩ 1 1 [.int .i64 P1, .int .i64 P2, .int .i64 Q3] rfl rfl ?m1 ?m2 ?m3 ?m4 ?m5 ?_)
                case m1 =>
                  intro j u hj
                  match j, hj with
                  | 0, hj => simp at hj; subst hj; simp [Addr.add]
                  | 1, hj => simp at hj; subst hj; simp [Addr.add]
                  | 2, hj => simp at hj; subst hj; simp [Addr.add]
                case m2 => intro u hu; simp at hu; rcases hu with rfl | rfl | rfl <;> rfl
                case m3 => unfold maxLen; omega
                case m4 => omega
                case m5 => simp; omega
                intro v5 w5 hown5 hgrow5 _
                obtain ⟨ao6, cap6, rfl⟩ := own_form hown5
                have hb5 : Below w1.heap.size w4 w5 := ((Below.refl _ w4).alloc hs14 _).grown hgrow5 (by simp; omega) (fun g hg => (HO4.out.lt g hg).1)
                have HB5 : Hid (Below w1.heap.size w1 w5) := HB4.out.trans hb5
                have HO5 : Hid (w5.ownsRow w1.heap.size 58 3 (.slice ao6 (m + 1) cap6) (l ++ [((P1, P2), Q3)]).length (cellsG hopE (l ++ [((P1, P2), Q3)]))) := by
                  show World.ownsRow _ _ _ _ _ _ _
                  rw [List.length_append, HML.out, cellsG_app, cellsG_one]
                  exact hown5
                have HLL : Hid (0 < (l ++ [((P1, P2), Q3)]).length ∧ (l ++ [((P1, P2), Q3)]).length ≤ 24) := by
                  rw [List.length_append, HML.out]
                  exact ⟨by simp, by simp; omega⟩
                clear hb5 hgrow5 hown5
                go_wp2
                go_roundw
                case rel => exact ⟨l ++ [((P1, P2), Q3)], HLL.out, HO5.out, HFN.out, HSPN.out, HB5.out⟩
                case measure => simp [sliL]; omega
        · rw [hi]
          have hlt : k < n2 := by rw [← HHN.out]; exact hk
          obtain ⟨gh, oh, hao, hc, _⟩ := HHA2.out (by omega)
          subst hao
          obtain ⟨y0, y1, y2, hkl, hHk, q0, q1, q2⟩ := hst_at hc HHN.out hlt
          have HF2 : Hid (F = (1, y0, l)) := by
            show _ = _
            rw [HFL.out]
            refine fo_1 HL24.out (HA.out.trans HAS.out) ?_
            rw [ho, hHk]
          have HSZ : Hid (y0.size ≤ 1000000) := by
            show _ ≤ _
            have h := (tp_0 HTP.out).2.2.2.2.1 Hs[k] (List.getElem_mem hk)
            rw [hHk] at h
            have h2 := h.1
            simp only [nmB, Bool.and_eq_true, decide_eq_true_eq] at h2
            omega
          have kb0 : (0 : Int) ≤ (k : Int) := by omega
          have kb1 : (k : Int) < (n2 : Int) := by omega
          clear hi ho hHk hc HHA2 r0 r1 r2 f0 f1 f2
          go_wp2_with fail
          refine (clone_any y0 _ HSZ.out).mono ?_
          rintro e w3 ⟨rfl, hb3⟩
          have HO3 : Hid (w3.ownsRow w1.heap.size 58 3 (.slice (some ⟨g5, o5, none⟩) m cap5) m (cellsG hopE l)) := own_below HO2.out hb3
          have HX3 : Hid (FBox w w3 S (.slice ao n cap) (.slice (some ⟨gh, oh, none⟩) n2 cap2) (.slice ao3 n3 cap3) x y h) := HX2.out.later HX2.out.lt hb3
          obtain ⟨hBw3, ⟨b0, b1, b2, b3⟩, i0, i1, i2, r0, r1, r2, f⟩ := HX3.out
          have HBw3 : Hid (Below w.heap.size w w3) := hBw3
          have f0 := f 0
          have f1 := f 1
          have f2 := f 2
          clear hb3 f hBw3
          go_wp2
          refine bodyPost_ret (v := .agg #[.int .i64 1, .string y0, .slice (some ⟨g5, o5, none⟩) m cap5]) (by simp [results, Try.results23, go_sem, *]) rfl ⟨_, _, _, by rw [HF2.out], ?_, below_put3 HBw3.out _ (by omega) _ _ _⟩
          rw [HF2.out]
          exact own_mono (B := w1.heap.size) (by rw [HML.out]; exact own_put3 HO3.out _ (by omega) _ _ _) (by have := HLW1.out; omega)
end Go.Proofs.Ytfbocionnjlilac
