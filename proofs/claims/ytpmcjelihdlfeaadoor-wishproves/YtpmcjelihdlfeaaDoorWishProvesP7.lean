/- Contracts and facts on the way to WishProves, joined into one text: WishBroken, WishCheck, WishHolds, TopoWhere, NetSend, AsErr, AsErr2, SameAny. -/
import Derived.Test.YtpmcjelihdlfeaaDoorWishProvesP4
import Derived.Test.YtpmcjelihdlfeaaDoorWishProvesP6
import Derived.Test.YtpmcjelihdlfeaaDoorWishProvesP3
import Derived.Test.YtpmcjelihdlfeaaDoorWishProvesP5
import Derived.Test.YtpmcjelihdlfeaaDoorWishProvesP2
import Derived.Test.YtpmcjelihdlfeaaDoorRows
import Derived.WalkSpells
import Derived.Below
import Derived.WalkKit
import Derived.LaidEql
import Derived.Stop.Asserts
import Derived.RowKitTokens
/- What wish.FirstBroken answers, whatever iterators its closure hands on. Written by mk/broken.py. -/
namespace Go.Proofs.YtpmcjelihdlfeaaDoor
open Go.RowKit
set_option linter.unusedSimpArgs false
set_option linter.unusedVariables false

/-- A host in its box. -/
def HsBox (W : World) (g : Nat) (m : ByteArray) (x y : Int) : Prop := W.cell? ⟨g, 0, none⟩ = some (.string m) ∧ W.cell? ⟨g, 1, none⟩ = some (.int .i64 x) ∧ W.cell? ⟨g, 2, none⟩ = some (.int .i64 y)
theorem HsBox.later {W W' : World} {g : Nat} {m : ByteArray} {x y : Int} (h : HsBox W g m x y) (hb : Below W.heap.size W W') : HsBox W' g m x y :=
  ⟨cell_later hb h.1, cell_later hb h.2.1, cell_later hb h.2.2⟩
theorem hsbox_new (w : World) (m : ByteArray) (x y : Int) (T : TypeId) : HsBox (w.alloc (Obj.cells #[.string m, .int .i64 x, .int .i64 y] T)) w.heap.size m x y := by
  refine ⟨?_, ?_, ?_⟩ <;> simp
/-- A row of three cells of its own: the answer's box. -/
structure PrBox (w W : World) (g : Nat) (a : Int) (b : ByteArray) (c : Int) : Prop where
  c0 : W.cell? ⟨g, 0, none⟩ = some (.int .i64 a)
  c1 : W.cell? ⟨g, 1, none⟩ = some (.string b)
  c2 : W.cell? ⟨g, 2, none⟩ = some (.int .i64 c)
  f : ∀ i, W.frozen? ⟨g, i, none⟩ = false
theorem prbox_new (w u : World) (a : Int) (b : ByteArray) (c : Int) : PrBox u (w.alloc (Obj.cells #[.int .i64 a, .string b, .int .i64 c] 63)) w.heap.size a b c := by
  refine ⟨?_, ?_, ?_, fun i => ?_⟩ <;> simp
theorem PrBox.lt {u W : World} {g : Nat} {a : Int} {b : ByteArray} {c : Int} (h : PrBox u W g a b c) : g < W.heap.size := World.block_lt_of_cell? W ⟨g, 0, none⟩ h.c0
theorem PrBox.later {u W W' : World} {g : Nat} {a : Int} {b : ByteArray} {c : Int} (h : PrBox u W g a b c) (hb : Below W.heap.size W W') : PrBox u W' g a b c :=
  ⟨cell_later hb h.c0, cell_later hb h.c1, cell_later hb h.c2, fun i => (hb.frozen (p := ⟨g, i, none⟩) h.lt).trans (h.f i)⟩
theorem PrBox.put {u W : World} {g : Nat} {a : Int} {b : ByteArray} {c : Int} (h : PrBox u W g a b c) (a' : Int) (b' : ByteArray) (c' : Int) : PrBox u (put3 W g (.int .i64 a') (.string b') (.int .i64 c')) g a' b' c' := by
  obtain ⟨x, y, z⟩ := put3_cells (a := .int .i64 a') (b := .string b') (c := .int .i64 c') ⟨h.c0, h.c1, h.c2⟩
  refine ⟨x, y, z, fun i => ?_⟩
  unfold put3
  rw [World.frozen?_setCell, World.frozen?_setCell, World.frozen?_setCell]
  exact h.f i
theorem PrBox.other {u W : World} {g g' : Nat} {a : Int} {b : ByteArray} {c : Int} (h : PrBox u W g a b c) (hg : g ≠ g') (a' b' c' : Value) : PrBox u (put3 W g' a' b' c') g a b c := by
  have o : ∀ (W : World) (i j : Nat) (x : Value), (W.setCell ⟨g', i, none⟩ x).cell? ⟨g, j, none⟩ = W.cell? ⟨g, j, none⟩ := fun W i j x => World.cell?_setCell_other _ _ _ _ (by intro e; exact hg (by injection e with e1; exact e1.symm))
  unfold put3
  refine ⟨?_, ?_, ?_, fun i => ?_⟩
  · rw [o, o, o]; exact h.c0
  · rw [o, o, o]; exact h.c1
  · rw [o, o, o]; exact h.c2
  · rw [World.frozen?_setCell, World.frozen?_setCell, World.frozen?_setCell]
    exact h.f i
/-- The boxes: the answer's, and what is told till now. -/
structure Rbx (w W : World) (p : Int × ByteArray × Int) : Prop where
  below : Below w.heap.size w W
  r : PrBox w W w.heap.size 0 ⟨#[]⟩ 0
  p : PrBox w W (w.heap.size + 1) p.1 p.2.1 p.2.2
theorem Rbx.later {w W W' : World} {p : Int × ByteArray × Int} (h : Rbx w W p) (hb : Below W.heap.size W W') : Rbx w W' p := ⟨h.below.trans (hb.mono h.below.size), h.r.later hb, h.p.later hb⟩
theorem Rbx.put {w W : World} {p : Int × ByteArray × Int} (h : Rbx w W p) (q : Int × ByteArray × Int) : Rbx w (put3 W (w.heap.size + 1) (.int .i64 q.1) (.string q.2.1) (.int .i64 q.2.2)) q := ⟨below_put3 h.below _ (by omega) _ _ _, h.r.other (by omega) _ _ _, h.p.put _ _ _⟩
theorem rbx_new (w : World) : Rbx w ((w.alloc (Obj.cells #[.int .i64 0, .string ⟨#[]⟩, .int .i64 0] 63)).alloc (Obj.cells #[.int .i64 0, .string ⟨#[]⟩, .int .i64 0] 63)) (0, ByteArray.empty, 0) := by
  have e1 : (w.alloc (Obj.cells #[.int .i64 0, .string ⟨#[]⟩, .int .i64 0] 63)).heap.size = w.heap.size + 1 := by simp
  have hb : ∀ (W : World) (o : Obj), Below W.heap.size W (W.alloc o) := fun W o => (Below.refl _ _).alloc (Nat.le_refl _) _
  have h2 := prbox_new (w.alloc (Obj.cells #[.int .i64 0, .string ⟨#[]⟩, .int .i64 0] 63)) w 0 ⟨#[]⟩ 0
  rw [e1] at h2
  exact ⟨((Below.refl _ w).alloc (Nat.le_refl _) _).alloc (by rw [e1]; omega) _, (prbox_new w w 0 ⟨#[]⟩ 0).later (hb _ _), h2⟩

set_option maxHeartbeats 1000000 in
set_option maxRecDepth 100000 in
theorem first1_any (k : Int) (f t : ByteArray) (v : Int) (g : Nat) (m : ByteArray) (x y : Int) (w : World) (h2 : HsBox w g m x y) :
    Calls Tryd.prog 67 #[.agg #[.int .i64 k, .string f, .string t, .int .i64 v], .pointer (some ⟨g, 0, none⟩)] w fun e w' => e = .returned (.bool (abW ⟨k, f, t, v⟩ m)) ∧ Below w.heap.size w w' := by
  have hb0 : Below w.heap.size w (w.alloc (Obj.cells #[.int .i64 k, .string f, .string t, .int .i64 v] 67)) := (Below.refl _ _).alloc (Nat.le_refl _) _
  have hx0 := wibox_new w k f t v 67
  have hs0 := h2.later hb0
  obtain ⟨w0, hw0⟩ : ∃ W, w.alloc (Obj.cells #[.int .i64 k, .string f, .string t, .int .i64 v] 67) = W := ⟨_, rfl⟩
  rw [hw0] at hb0 hx0 hs0
  have HW0 : Hid (w.alloc (Obj.cells #[.int .i64 k, .string f, .string t, .int .i64 v] 67) = w0) := hw0
  have HB0 : Hid (Below w.heap.size w w0) := hb0
  obtain ⟨x0, x1, x2, x3⟩ := hx0
  obtain ⟨s0, s1, s2⟩ := hs0
  obtain ⟨R, hR⟩ : ∃ R, R = abW ⟨k, f, t, v⟩ m := ⟨_, rfl⟩
  have HR : Hid (abW ⟨k, f, t, v⟩ m = R) := hR.symm
  rw [← hR]
  clear hb0 h2 hw0 hR
  go_enter Tryd.func67, Tryd.ntmps67
  go_upto_region 1 with fail
  rw [HW0.out]
  clear HW0
  go_wp2_with fail
  refine (isAbout_any k f t v m _).mono ?_
  rintro e w1 ⟨rfl, hb1⟩
  rw [HR.out]
  go_wp2
  go_ret
  exact ⟨rfl, HB0.out.trans (hb1.mono HB0.out.size)⟩

/-- A closure that hands on, of each host and header, an iterator of these fates. -/
def FcAsks (w : World) (g : Nat) (Hs : List (ByteArray × (Int × Int))) (Fs : Nat → Nat → List Ft) : Prop :=
  ∀ (z : Nat) (hz : z < Hs.length) (h : Nat), h < 16 → ∀ W : World, Below w.heap.size w W → Calls Tryd.prog 39 #[.agg #[.string Hs[z].1, .int .i64 Hs[z].2.1, .int .i64 Hs[z].2.2], .int .i64 h, .pointer (some ⟨g, 0, none⟩)] W fun e W' =>
    ∃ gi lb, e = .returned (.func (Fn.func gi) #[] lb) ∧ (∀ args w, (callFunc gi args).run Tryd.prog w = .ok (.enter gi args) w) ∧ ItF Tryd.prog gi lb FtV W'.heap.size (Fs z h) W' ∧ Below W.heap.size W W'

set_option maxHeartbeats 8000000 in
set_option maxRecDepth 100000 in
theorem fbrk_any (g : Nat) (ao2 : Option Addr) (n2 cap2 : Nat) (a4 : Option Addr) (n4 c4 : Nat) (Hs : List (ByteArray × (Int × Int))) (Fs : Nat → Nat → List Ft) (l : List Wi) (w : World)
    (hH : GS hstE w (.slice ao2 n2 cap2) Hs) (hl : GS wisE w (.slice a4 n4 c4) l) (hnm : ∀ h ∈ Hs, h.1.size ≤ 1000000) (hfc : FcAsks w g Hs Fs) :
    Calls Tryd.prog 38 #[.slice ao2 n2 cap2, .slice a4 n4 c4, .func (Fn.func 39) #[] #[.pointer (some ⟨g, 0, none⟩)]] w fun e w' => ∃ held p, e = .returned (.tuple #[.agg #[.int .i64 p.1, .string p.2.1, .int .i64 p.2.2], .bool (decide (held < l.length))]) ∧ Fb l Hs Fs Hs.length 0 held p ∧ Below w.heap.size w w' := by
  have hX := rbx_new w
  obtain ⟨w0, hw0⟩ : ∃ W, (w.alloc (Obj.cells #[.int .i64 0, .string ⟨#[]⟩, .int .i64 0] 63)).alloc (Obj.cells #[.int .i64 0, .string ⟨#[]⟩, .int .i64 0] 63) = W := ⟨_, rfl⟩
  rw [hw0] at hX
  have HW0 : Hid ((w.alloc (Obj.cells #[.int .i64 0, .string ⟨#[]⟩, .int .i64 0] 63)).alloc (Obj.cells #[.int .i64 0, .string ⟨#[]⟩, .int .i64 0] 63) = w0) := hw0
  have HX : Hid (Rbx w w0 (0, ByteArray.empty, 0)) := hX
  have HLW : Hid (∀ W, Below w.heap.size w W → GS wisE W (.slice a4 n4 c4) l) := fun W hb => hl.later hb
  have HFC : Hid (FcAsks w g Hs Fs) := hfc
  have HNM : Hid (∀ h ∈ Hs, h.1.size ≤ 1000000) := hnm
  obtain ⟨_, _, _, e5, hGn, hGm, hGc, hGa⟩ := hl.form
  cases e5
  obtain ⟨_, _, _, e6, hHn, hHm, _, hHa⟩ := hH.form
  cases e6
  have HGN : Hid (l.length = n4) := hGn
  have HCAP : Hid (n4 ≤ c4) := hGc
  have HHN : Hid (Hs.length = n2) := hHn
  have HHA : Hid (0 < n2 → ∃ g o, ao2 = some ⟨g, o, none⟩ ∧ GAt hstE w g o Hs ∧ cap2 ≤ maxLen) := hHa
  have hn4 : n4 ≤ maxLen := hGm
  have hn2 : n2 ≤ maxLen := hHm
  unfold maxLen at hn4 hn2
  have HF0 : Hid (Fb l Hs Fs 0 0 n4 (0, ByteArray.empty, 0)) := by
    have h := fb_0 (l := l) (Hs := Hs) (Fs := Fs)
    rw [hGn] at h
    exact h
  clear hX hw0 hl hH hfc hnm hGn hGm hGc hGa hHn hHm hHa
  go_enter Tryd.func38, Tryd.ntmps38
  go_upto_region 2 with fail
  rw [HW0.out]
  clear HW0
  go_wp2
  go_loopw [9, 18] (fun hv i wr => ∃ (z hd : Nat) (p : Int × ByteArray × Int), z ≤ n2 ∧ hv = .int .i64 hd ∧ i = .int .i64 z ∧ Fb l Hs Fs z 0 hd p ∧ Rbx w wr p) (fun _ i _ => n2 - (intOf i).toNat)
  case atStart => exact ⟨0, n4, (0, ByteArray.empty, 0), by omega, rfl, rfl, HF0.out, HX.out⟩
  case round =>
    obtain ⟨z, hd, p, hz, rfl, rfl, hF, hR⟩ := hrel
    have HF : Hid (Fb l Hs Fs z 0 hd p) := hF
    have HR : Hid (Rbx w wr p) := hR
    have hdle : hd ≤ n4 := by rw [← HGN.out]; exact hF.le
    clear hF hR
    by_cases hlt : z < n2
    · obtain ⟨g2, o2, hao2, hc2, _⟩ := HHA.out (by omega)
      subst hao2
      obtain ⟨z0, z1, z2, hzl, hZk, p0, p1, p2⟩ := hst_at (hc2.later HR.out.below) HHN.out hlt
      have HZK : Hid (Hs[z] = (z0, (z1, z2))) := hZk
      have HZD : Hid (Hs.getD z zeO = (z0, (z1, z2))) := by
        show _ = _
        rw [getO hzl, hZk]
      have HSZ : Hid (z0.size ≤ 1000000) := by
        have := HNM.out Hs[z] (List.getElem_mem hzl)
        rw [hZk] at this
        exact this
      have hba : Below wr.heap.size wr (wr.alloc (Obj.cells #[Value.string z0, Value.int IntKind.i64 z1, Value.int IntKind.i64 z2] 57)) := (Below.refl _ _).alloc (Nat.le_refl _) _
      have hhb := hsbox_new wr z0 z1 z2 57
      have hR2 := HR.out.later hba
      obtain ⟨w2, hw2⟩ : ∃ W, wr.alloc (Obj.cells #[Value.string z0, Value.int IntKind.i64 z1, Value.int IntKind.i64 z2] 57) = W := ⟨_, rfl⟩
      obtain ⟨gh, hgh⟩ : ∃ q, q = wr.heap.size := ⟨_, rfl⟩
      rw [hw2] at hhb hR2
      rw [← hgh] at hhb
      have HW2 : Hid (wr.alloc (Obj.cells #[Value.string z0, Value.int IntKind.i64 z1, Value.int IntKind.i64 z2] 57) = w2) := hw2
      have HGH : Hid (wr.heap.size = gh) := hgh.symm
      have HHB : Hid (HsBox w2 gh z0 z1 z2) := hhb
      have HR2 : Hid (Rbx w w2 p) := hR2
      have HLG : Hid (w.heap.size + 1 < gh) := by
        show _ < _
        rw [hgh]
        exact HR.out.p.lt
      clear hc2 hZk hba hhb hR2 hw2 hgh HR
      go_upto_region 6 with fail
      rw [HW2.out, HGH.out]
      clear HW2 HGH p0 p1 p2
      go_wp2
      go_loopw [9, 22] (fun hv i wr => ∃ (h hd : Nat) (p : Int × ByteArray × Int), h ≤ 16 ∧ hv = .int .i64 hd ∧ i = .int .i64 h ∧ Fb l Hs Fs z h hd p ∧ Rbx w wr p ∧ HsBox wr gh z0 z1 z2) (fun _ i _ => 16 - (intOf i).toNat)
      case atStart => exact ⟨0, hd, p, by omega, rfl, rfl, HF.out, HR2.out, HHB.out⟩
      case round =>
        clear HF HR2 HHB hdle
        obtain ⟨h, hd, p, hh, rfl, rfl, hF, hR, hS⟩ := hrel
        have HF : Hid (Fb l Hs Fs z h hd p) := hF
        have HR : Hid (Rbx w wr p) := hR
        have HS : Hid (HsBox wr gh z0 z1 z2) := hS
        have hdle : hd ≤ n4 := by rw [← HGN.out]; exact hF.le
        clear hF hR hS
        by_cases hlt16 : h < 16
        · have HGT : Hid (∀ W, Below wr.heap.size wr W → GS wisE W (.slice a4 hd c4) (l.take hd)) := fun W hb => (HLW.out W (HR.out.below.trans (hb.mono HR.out.below.size))).take hdle
          obtain ⟨_, _, _, e7, hTn, hTm, _, hTa⟩ := (HGT.out wr (Below.refl _ _)).form
          cases e7
          have HTN : Hid ((l.take hd).length = hd) := hTn
          have HTM : Hid (hd ≤ maxLen) := hTm
          have HTA : Hid (0 < hd → ∃ g o, a4 = some ⟨g, o, none⟩ ∧ GAt wisE wr g o (l.take hd) ∧ c4 ≤ maxLen) := hTa
          have HASK : Hid (wisAsks wr 67 (.pointer (some ⟨gh, 0, none⟩)) (fun u => abW u z0)) := fun y0 y1 y2 y3 W hb => first1_any y0 y1 y2 y3 gh z0 z1 z2 W (HS.out.later hb)
          obtain ⟨c, hc⟩ : ∃ c, c = (l.take hd).any (fun u => abW u z0) := ⟨_, rfl⟩
          have HC : Hid ((l.take hd).any (fun u => abW u z0) = c) := hc.symm
          obtain ⟨s0, s1, s2⟩ := HS.out
          have hcap := HCAP.out
          have nb0 : (0 : Int) ≤ (hd : Int) := by omega
          have nb1 : (hd : Int) ≤ (c4 : Int) := by omega
          have nb2 : (hd : Int) ≤ (n4 : Int) := by omega
          clear hc hTn hTm hTa
          go_wp2_with fail
          refine (wis_hasF a4 hd c4 _ _ (fun u => abW u z0) (l.take hd) _ HTN.out HTM.out HTA.out (enters_of Tryd.func67 (by kernel_rfl) rfl) HASK.out).mono ?_
          rintro e w3 ⟨rfl, hb3⟩
          rw [HC.out]
          have HR3 : Hid (Rbx w w3 p) := HR.out.later hb3
          have HS3 : Hid (HsBox w3 gh z0 z1 z2) := HS.out.later hb3
          have HGT3 : Hid (∀ W, Below w3.heap.size w3 W → GS wisE W (.slice a4 hd c4) (l.take hd)) := fun W hb => HGT.out W (hb3.trans (hb.mono hb3.size))
          clear hb3 s0 s1 s2 HTN HTM HTA HASK HGT HR HS
          cases c with
          | false =>
            have HFO : Hid (Fb l Hs Fs (z + 1) 0 hd p) := HF.out.off (by rw [HZD.out]; exact HC.out)
            go_wp2
            go_roundw
            case rel => exact ⟨z + 1, hd, p, by omega, rfl, by go_num, HFO.out, HR3.out⟩
            case measure => simp [intOf]; omega
          | true =>
            obtain ⟨N, hN⟩ : ∃ N, N = hwN (l.take hd) z0 (Fs z h) := ⟨_, rfl⟩
            have HN : Hid (hwN (l.take hd) z0 (Fs z h) = N) := hN.symm
            have HFCW : Hid (∀ W, Below w3.heap.size w3 W → Calls Tryd.prog 39 #[.agg #[.string z0, .int .i64 z1, .int .i64 z2], .int .i64 h, .pointer (some ⟨g, 0, none⟩)] W fun e W' =>
                ∃ gi lb, e = .returned (.func (Fn.func gi) #[] lb) ∧ (∀ args w, (callFunc gi args).run Tryd.prog w = .ok (.enter gi args) w) ∧ ItF Tryd.prog gi lb FtV W'.heap.size (Fs z h) W' ∧ Below W.heap.size W W') := fun W hb => by
              have h := HFC.out z hzl h hlt16 W (HR3.out.below.trans (hb.mono HR3.out.below.size))
              rw [HZK.out] at h
              exact h
            have HHOL : Hid (∀ (gi : Nat) (lb : Array Value) (W : World), (∀ args w, (callFunc gi args).run Tryd.prog w = .ok (.enter gi args) w) → ItF Tryd.prog gi lb FtV W.heap.size (Fs z h) W → Below w3.heap.size w3 W → Calls Tryd.prog 68 #[.slice a4 hd c4, .string z0, .func (Fn.func gi) #[] lb] W fun e W' => e = .returned (.int .i64 N) ∧ Below W.heap.size W W') := fun gi lb W eg hit hb => by
              rw [hN]
              exact holding_any a4 hd c4 (l.take hd) z0 gi lb (Fs z h) W.heap.size W (HGT3.out W hb) eg hit (Nat.le_refl _)
            have HSW : Hid (∀ W, Below w3.heap.size w3 W → W.cell? ⟨gh, 0, none⟩ = some (.string z0) ∧ W.cell? ⟨gh, 1, none⟩ = some (.int .i64 z1) ∧ W.cell? ⟨gh, 2, none⟩ = some (.int .i64 z2)) := fun W hb => HS3.out.later hb
            obtain ⟨s0, s1, s2⟩ := HS3.out
            clear hN
            go_upto_region 10 with fail
            go_cut [13] from 23 to 51 (fun v w' => v = .int .i64 N ∧ Below w3.heap.size w3 w')
            case first =>
              go_region_held3 (fun W => W.cell? ⟨gh, 0, none⟩ = some (.string z0) ∧ W.cell? ⟨gh, 1, none⟩ = some (.int .i64 z1) ∧ W.cell? ⟨gh, 2, none⟩ = some (.int .i64 z2))
                (first | (with_reducible assumption) | (with_reducible exact HSW.out _ (Below.drew (Below.refl _ _))) | (with_reducible exact HSW.out _ HBX.out) | (with_reducible exact HSW.out _ HBY.out))
                (first
                  | (go_at_call 39; refine (HFCW.out _ (Below.drew (Below.refl _ _))).mono ?_; rintro e w' ⟨gi, lb, rfl, eg, hit, hb⟩; have HBX : Hid (Below w3.heap.size w3 w') := bdrew hb; have HEG : Hid (∀ args w, (callFunc gi args).run Tryd.prog w = .ok (.enter gi args) w) := eg; have HIT : Hid (ItF Tryd.prog gi lb FtV w'.heap.size (Fs z h) w') := hit; clear hb eg hit)
                  | (go_at_call 68; refine (HHOL.out _ _ _ HEG.out HIT.out HBX.out).mono ?_; rintro e w'' ⟨rfl, hb⟩; have HBY : Hid (Below w3.heap.size w3 w'') := HBX.out.trans (hb.mono HBX.out.size); clear hb))
              all_goals (go_wp2_with fail; go_meet)
              all_goals exact ⟨rfl, HBY.out⟩
            case rest =>
              obtain ⟨rfl, hbw⟩ := hcut
              have HR4 : Hid (Rbx w wc p) := HR3.out.later hbw
              have HS4 : Hid (HsBox wc gh z0 z1 z2) := HS3.out.later hbw
              clear hbw HR3 HS3 HGT3 HFCW HHOL HSW s0 s1 s2
              obtain ⟨s0, s1, s2⟩ := HS4.out
              by_cases hNl : N < hd
              · have HFL : Hid (Fb l Hs Fs z (h + 1) N ((N : Int), z0, (h : Int))) := by
                  have := HF.out.less hlt16 hzl (by rw [HZD.out]; exact HN.out) hNl
                  rw [HZD.out] at this
                  exact this
                have dN : decide ((N : Int) < (hd : Int)) = true := by simp; omega
                go_wp2_with fail
                refine (clone_any z0 _ HSZ.out).mono ?_
                rintro e w6 ⟨rfl, hb6⟩
                have HR6 : Hid (Rbx w w6 p) := HR4.out.later hb6
                have HS6 : Hid (HsBox w6 gh z0 z1 z2) := HS4.out.later hb6
                obtain ⟨r0, r1, r2, rf⟩ := HR6.out.p
                have f0 := rf 0
                have f1 := rf 1
                have f2 := rf 2
                have HSP : Hid (∀ a b c, HsBox (put3 w6 (w.heap.size + 1) a b c) gh z0 z1 z2) := fun a b c => by
                  have o : ∀ (W : World) (i j : Nat) (x : Value), (W.setCell ⟨w.heap.size + 1, i, none⟩ x).cell? ⟨gh, j, none⟩ = W.cell? ⟨gh, j, none⟩ := fun W i j x => World.cell?_setCell_other _ _ _ _ (by intro e; injection e with e1; have := HLG.out; omega)
                  unfold put3
                  obtain ⟨x0, x1, x2⟩ := HS6.out
                  exact ⟨by rw [o, o, o]; exact x0, by rw [o, o, o]; exact x1, by rw [o, o, o]; exact x2⟩
                clear hb6 rf s0 s1 s2 hNl
                go_wp2
                go_roundw
                case rel => exact ⟨h + 1, N, ((N : Int), z0, (h : Int)), by omega, rfl, by go_num, HFL.out, HR6.out.put ((N : Int), z0, (h : Int)), HSP.out _ _ _⟩
                case measure => simp [intOf]; omega
              · have HFS : Hid (Fb l Hs Fs z (h + 1) hd p) := HF.out.same (by rw [HZD.out, HN.out]; exact hNl)
                have dN : decide ((N : Int) < (hd : Int)) = false := by simp; omega
                have hNl2 : hd ≤ N := by omega
                go_wp2
                go_roundw
                case rel => exact ⟨h + 1, hd, p, by omega, rfl, by go_num, HFS.out, HR4.out, HS4.out⟩
                case measure => simp [intOf]; omega
        · obtain rfl : h = 16 := by omega
          have HFO : Hid (Fb l Hs Fs (z + 1) 0 hd p) := HF.out.host
          go_wp2
          go_roundw
          case rel => exact ⟨z + 1, hd, p, by omega, rfl, by go_num, HFO.out, HR.out⟩
          case measure => simp [intOf]; omega
    · obtain rfl : z = n2 := by omega
      obtain ⟨P1, P2, P3⟩ := p
      obtain ⟨q0, q1, q2, _⟩ := HR.out.p
      obtain ⟨r0, r1, r2, rf⟩ := HR.out.r
      have f0 := rf 0
      have f1 := rf 1
      have f2 := rf 2
      have HB : Hid (Below w.heap.size w wr) := HR.out.below
      have HFE : Hid (Fb l Hs Fs Hs.length 0 hd (P1, P2, P3)) := by
        have h := HF.out
        rw [← HHN.out] at h
        exact h
      dsimp only at q0 q1 q2
      clear rf
      go_wp2
      refine bodyPost_ret (v := .tuple #[.agg #[.int .i64 P1, .string P2, .int .i64 P3], .bool (decide ((hd : Int) < (n4 : Int)))]) (by simp [results, Tryd.results38, go_sem, *]) rfl ⟨hd, (P1, P2, P3), ?_, HFE.out, below_put3 HB.out _ (Nat.le_refl _) _ _ _⟩
      rw [show decide (hd < l.length) = decide ((hd : Int) < (n4 : Int)) by rw [HGN.out]; simp]
end Go.Proofs.YtpmcjelihdlfeaaDoor
/- What checkOne and Check of package wish answer: contracts for the walks above them. -/
namespace Go.Proofs.YtpmcjelihdlfeaaDoor
open Go.RowKit
set_option linter.unusedSimpArgs false
set_option linter.unusedVariables false

/-- The boxes: a topology, a wish. -/
structure CBox (w W : World) (S : Int) (v1 v2 : Value) (k : Int) (f t : ByteArray) (v : Int) : Prop where
  below : Below w.heap.size w W
  b : TBox W w.heap.size S v1 v2
  x : WiBox W (w.heap.size + 1) k f t v
theorem cbox_new (w : World) (S : Int) (v1 v2 : Value) (k : Int) (f t : ByteArray) (v : Int) : CBox w ((w.alloc (Obj.cells #[.int .i64 S, v1, v2] 25)).alloc (Obj.cells #[.int .i64 k, .string f, .string t, .int .i64 v] 67)) S v1 v2 k f t v := by
  have e1 : (w.alloc (Obj.cells #[.int .i64 S, v1, v2] 25)).heap.size = w.heap.size + 1 := by simp
  have hb : ∀ (W : World) (o : Obj), Below W.heap.size W (W.alloc o) := fun W o => (Below.refl _ _).alloc (Nat.le_refl _) _
  have hn := (tbox_new w S v1 v2 25).later (hb _ (Obj.cells #[.int .i64 k, .string f, .string t, .int .i64 v] 67))
  have hB := ((Below.refl w.heap.size w).alloc (Nat.le_refl _) (Obj.cells #[.int .i64 S, v1, v2] 25)).alloc (by rw [e1]; omega) (Obj.cells #[.int .i64 k, .string f, .string t, .int .i64 v] 67)
  generalize w.alloc (Obj.cells #[.int .i64 S, v1, v2] 25) = X at e1 hn hB
  have hr := wibox_new X k f t v 67
  rw [e1] at hr
  exact ⟨hB, hn, hr⟩
theorem CBox.later {w W W' : World} {S : Int} {v1 v2 : Value} {k : Int} {f t : ByteArray} {v : Int} (h : CBox w W S v1 v2 k f t v) (hb : Below W.heap.size W W') : CBox w W' S v1 v2 k f t v :=
  ⟨h.below.trans (hb.mono h.below.size), h.b.later hb, h.x.later hb⟩

set_option maxHeartbeats 4000000 in
set_option maxRecDepth 100000 in
theorem checkOne_any (S : Int) (ao : Option Addr) (n cap : Nat) (ao2 : Option Addr) (n2 cap2 : Nat) (Hs : List (ByteArray × (Int × Int))) (k : Int) (f t : ByteArray) (v : Int) (w : World) (hH : GS hstE w (.slice ao2 n2 cap2) Hs) :
    Calls Tryd.prog 65 #[.agg #[.int .i64 S, .slice ao n cap, .slice ao2 n2 cap2], .agg #[.int .i64 k, .string f, .string t, .int .i64 v]] w fun e w' => e = .returned (noV (woN S Hs ⟨k, f, t, v⟩)) ∧ Below w.heap.size w w' := by
  have hX := cbox_new w S (.slice ao n cap) (.slice ao2 n2 cap2) k f t v
  obtain ⟨w0, hw0⟩ : ∃ W, (w.alloc (Obj.cells #[.int .i64 S, .slice ao n cap, .slice ao2 n2 cap2] 25)).alloc (Obj.cells #[.int .i64 k, .string f, .string t, .int .i64 v] 67) = W := ⟨_, rfl⟩
  rw [hw0] at hX
  have HX : Hid (CBox w w0 S (.slice ao n cap) (.slice ao2 n2 cap2) k f t v) := hX
  have HW0 : Hid ((w.alloc (Obj.cells #[.int .i64 S, .slice ao n cap, .slice ao2 n2 cap2] 25)).alloc (Obj.cells #[.int .i64 k, .string f, .string t, .int .i64 v] 67) = w0) := hw0
  have HH : Hid (∀ W, Below w.heap.size w W → GS hstE W (.slice ao2 n2 cap2) Hs) := fun W hb => hH.later hb
  obtain ⟨R, hR⟩ : ∃ R, R = woN S Hs ⟨k, f, t, v⟩ := ⟨_, rfl⟩
  rw [← hR]
  obtain ⟨Q, hQ⟩ : ∃ q, q = (!wkB k || (!viB ⟨k, f, t, v⟩ S || veB ⟨k, f, t, v⟩)) := ⟨_, rfl⟩
  have HR : Hid (R = if Q then 1 else if k = 4 then (if nlB ⟨k, f, t, v⟩ then 0 else 3) else if hoB Hs f && hoB Hs t then 0 else 5) := by
    show _ = _
    rw [hR, hQ]
    rfl
  have HQ : Hid ((!wkB k || (!viB ⟨k, f, t, v⟩ S || veB ⟨k, f, t, v⟩)) = Q) := hQ.symm
  clear hX hw0 hH hR hQ
  go_enter Tryd.func65, Tryd.ntmps65
  go_upto_region 1 with fail
  rw [HW0.out]
  obtain ⟨_, ⟨b0, b1, b2⟩, x0, x1, x2, x3⟩ := HX.out
  clear HW0
  go_cut [25] from 5 to 26 (fun c w' => c = .bool Q ∧ Below w0.heap.size w0 w')
  case first =>
    go_wp2_with fail
    refine (isWhat_any k _).mono ?_
    rintro e w1 ⟨rfl, hb1⟩
    obtain ⟨WK, hWK⟩ : ∃ q, q = wkB k := ⟨_, rfl⟩
    have HQ1 : Hid ((!WK || (!viB ⟨k, f, t, v⟩ S || veB ⟨k, f, t, v⟩)) = Q) := by
      show _ = _
      rw [hWK]
      exact HQ.out
    rw [← hWK]
    have HB1 : Hid (Below w0.heap.size w0 w1) := hb1
    have HX1 : Hid (CBox w w1 S (.slice ao n cap) (.slice ao2 n2 cap2) k f t v) := HX.out.later hb1
    clear hWK hb1 HQ b0 b1 b2 x0 x1 x2 x3
    obtain ⟨_, ⟨b0, b1, b2⟩, x0, x1, x2, x3⟩ := HX1.out
    cases WK with
    | false =>
      have hq := HQ1.out
      simp only [Bool.not_false, Bool.true_or] at hq
      subst hq
      go_wp2_with fail
      go_meet
      exact ⟨rfl, HB1.out⟩
    | true =>
      go_wp2_with fail
      refine (isVia_any k f t v S _).mono ?_
      rintro e w2 ⟨rfl, hb2⟩
      obtain ⟨VI, hVI⟩ : ∃ q, q = viB ⟨k, f, t, v⟩ S := ⟨_, rfl⟩
      have HQ2 : Hid ((!VI || veB ⟨k, f, t, v⟩) = Q) := by
        show _ = _
        rw [hVI]
        have := HQ1.out
        simpa using this
      rw [← hVI]
      have HB2 : Hid (Below w0.heap.size w0 w2) := HB1.out.trans (hb2.mono HB1.out.size)
      have HX2 : Hid (CBox w w2 S (.slice ao n cap) (.slice ao2 n2 cap2) k f t v) := HX1.out.later hb2
      clear hVI hb2 HQ1 b0 b1 b2 x0 x1 x2 x3
      obtain ⟨_, ⟨b0, b1, b2⟩, x0, x1, x2, x3⟩ := HX2.out
      cases VI with
      | false =>
        have hq := HQ2.out
        simp only [Bool.not_false, Bool.true_or] at hq
        subst hq
        go_wp2_with fail
        go_meet
        exact ⟨rfl, HB2.out⟩
      | true =>
        by_cases k3 : k = 3
        · subst k3
          have hq : false = Q := HQ2.out
          subst hq
          go_wp2_with fail
          go_meet
          exact ⟨rfl, HB2.out⟩
        · have hq : (k != 3 && v != 0) = Q := HQ2.out
          subst hq
          go_wp2_with fail
          go_meet
          exact ⟨rfl, HB2.out⟩
  case rest =>
  obtain ⟨rfl, hbc⟩ := hcut
  have HXc : Hid (CBox w wc S (.slice ao n cap) (.slice ao2 n2 cap2) k f t v) := HX.out.later hbc
  clear hbc HX b0 b1 b2 x0 x1 x2 x3
  obtain ⟨hBc, ⟨b0, b1, b2⟩, x0, x1, x2, x3⟩ := HXc.out
  have HBc : Hid (Below w.heap.size w wc) := hBc
  clear hBc
  cases Q with
  | true =>
    have HR1 : Hid (R = 1) := by
      show _ = _
      rw [HR.out, if_pos rfl]
    go_wp2
    go_ret
    exact ⟨by rw [HR1.out]; rfl, HBc.out⟩
  | false =>
    by_cases k4 : k = 4
    · subst k4
      obtain ⟨NL, hNL⟩ : ∃ q, q = nlB ⟨4, f, t, v⟩ := ⟨_, rfl⟩
      have HR1 : Hid (R = if NL then 0 else 3) := by
        show _ = _
        rw [HR.out, if_neg (by decide), if_pos rfl, hNL]
      have HNL : Hid (nlB ⟨4, f, t, v⟩ = NL) := hNL.symm
      clear hNL HR
      go_wp2_with fail
      refine (isNameless_any 4 f t v _).mono ?_
      rintro e w2 ⟨rfl, hb2⟩
      rw [HNL.out]
      have HB2 : Hid (Below w.heap.size w w2) := HBc.out.trans (hb2.mono HBc.out.size)
      clear hb2
      cases NL with
      | false =>
        go_wp2
        go_ret
        exact ⟨by rw [HR1.out]; rfl, HB2.out⟩
      | true =>
        go_wp2
        go_ret
        exact ⟨by rw [HR1.out]; rfl, HB2.out⟩
    · obtain ⟨HF, hHF⟩ : ∃ q, q = hoB Hs f := ⟨_, rfl⟩
      obtain ⟨HT, hHT⟩ : ∃ q, q = hoB Hs t := ⟨_, rfl⟩
      have HR1 : Hid (R = if HF && HT then 0 else 5) := by
        show _ = _
        rw [HR.out, if_neg (by decide), if_neg k4, hHF, hHT]
      have HHF : Hid (hoB Hs f = HF) := hHF.symm
      have HHT : Hid (hoB Hs t = HT) := hHT.symm
      clear hHF hHT HR
      go_wp2_with fail
      refine (isHost_any S (.slice ao n cap) ao2 n2 cap2 Hs f _ rfl (HH.out _ HBc.out)).mono ?_
      rintro e w2 ⟨rfl, hb2⟩
      rw [HHF.out]
      have HX2 : Hid (CBox w w2 S (.slice ao n cap) (.slice ao2 n2 cap2) k f t v) := HXc.out.later hb2
      clear hb2 HHF HBc b0 b1 b2 x0 x1 x2 x3
      obtain ⟨hB2, ⟨b0, b1, b2⟩, x0, x1, x2, x3⟩ := HX2.out
      have HB2 : Hid (Below w.heap.size w w2) := hB2
      clear hB2
      cases HF with
      | false =>
        go_wp2
        go_ret
        exact ⟨by rw [HR1.out]; rfl, HB2.out⟩
      | true =>
        go_wp2_with fail
        refine (isHost_any S (.slice ao n cap) ao2 n2 cap2 Hs t _ rfl (HH.out _ HB2.out)).mono ?_
        rintro e w3 ⟨rfl, hb3⟩
        rw [HHT.out]
        have HB3 : Hid (Below w.heap.size w w3) := HB2.out.trans (hb3.mono HB2.out.size)
        clear hb3
        cases HT with
        | false =>
          go_wp2
          go_ret
          exact ⟨by rw [HR1.out]; rfl, HB3.out⟩
        | true =>
          go_wp2
          go_ret
          exact ⟨by rw [HR1.out]; rfl, HB3.out⟩

set_option maxHeartbeats 4000000 in
set_option maxRecDepth 100000 in
theorem wcheck_any (S : Int) (ao : Option Addr) (n cap : Nat) (ao2 : Option Addr) (n2 cap2 : Nat) (a4 : Option Addr) (n4 c4 : Nat) (Ls : List ((Int × Int) × (Int × Int))) (Hs : List (ByteArray × (Int × Int))) (l : List Wi) (w : World)
    (hL : GS lnkE w (.slice ao n cap) Ls) (hH : GS hstE w (.slice ao2 n2 cap2) Hs) (hl : GS wisE w (.slice a4 n4 c4) l) :
    Calls Tryd.prog 37 #[.agg #[.int .i64 S, .slice ao n cap, .slice ao2 n2 cap2], .slice a4 n4 c4] w fun e w' => e = .returned (noV (wsN S Ls Hs l)) ∧ Below w.heap.size w w' := by
  have hX := tbox_new w S (.slice ao n cap) (.slice ao2 n2 cap2) 25
  have hB0 : Below w.heap.size w (w.alloc (Obj.cells #[.int .i64 S, .slice ao n cap, .slice ao2 n2 cap2] 25)) := (Below.refl _ _).alloc (Nat.le_refl _) _
  obtain ⟨w0, hw0⟩ : ∃ W, w.alloc (Obj.cells #[.int .i64 S, .slice ao n cap, .slice ao2 n2 cap2] 25) = W := ⟨_, rfl⟩
  rw [hw0] at hX hB0
  have HX : Hid (TBox w0 w.heap.size S (.slice ao n cap) (.slice ao2 n2 cap2)) := hX
  have HW0 : Hid (w.alloc (Obj.cells #[.int .i64 S, .slice ao n cap, .slice ao2 n2 cap2] 25) = w0) := hw0
  have HB0 : Hid (Below w.heap.size w w0) := hB0
  have HLW : Hid (∀ W, Below w.heap.size w W → GS lnkE W (.slice ao n cap) Ls) := fun W hb => hL.later hb
  have HHW : Hid (∀ W, Below w.heap.size w W → GS hstE W (.slice ao2 n2 cap2) Hs) := fun W hb => hH.later hb
  obtain ⟨_, _, _, e5, hGn, hGm, _, hGa⟩ := hl.form
  cases e5
  have HGN : Hid (l.length = n4) := hGn
  have HGA : Hid (0 < n4 → ∃ g o, a4 = some ⟨g, o, none⟩ ∧ GAt wisE w g o l ∧ c4 ≤ maxLen) := hGa
  obtain ⟨R, hR⟩ : ∃ R, R = wsN S Ls Hs l := ⟨_, rfl⟩
  have HR : Hid (R = wsN S Ls Hs l) := hR
  rw [← hR]
  have hn4 : n4 ≤ maxLen := hGm
  unfold maxLen at hn4
  clear hX hB0 hw0 hL hH hl hGn hGm hGa hR
  go_enter Tryd.func37, Tryd.ntmps37
  go_upto_region 1 with fail
  rw [HW0.out]
  obtain ⟨b0, b1, b2⟩ := HX.out
  clear HW0
  go_wp2_with fail
  refine (check_any S ao n cap ao2 n2 cap2 Ls Hs _ (HLW.out _ HB0.out) (HHW.out _ HB0.out)).mono ?_
  rintro e w1 ⟨rfl, hb1⟩
  obtain ⟨T, hT⟩ : ∃ T, T = tpN S Ls Hs := ⟨_, rfl⟩
  have HT : Hid (T = tpN S Ls Hs) := hT
  rw [← hT]
  have HB1 : Hid (Below w.heap.size w w1) := HB0.out.trans (hb1.mono HB0.out.size)
  have HX1 : Hid (TBox w1 w.heap.size S (.slice ao n cap) (.slice ao2 n2 cap2)) := HX.out.later hb1
  clear hT hb1 b0 b1 b2 HX
  by_cases h0 : T = 0
  · have HR1 : Hid (R = if 8 < l.length then 4 else wsTo S Hs l l.length) := by
      show _ = _
      rw [HR.out, wsN, if_pos (HT.out.symm.trans h0)]
    subst h0
    rw [no_ok rfl]
    by_cases h8 : 8 < n4
    · have HR2 : Hid (R = 4) := by
        show _ = _
        rw [HR1.out, if_pos (by rw [HGN.out]; exact h8)]
      have h8' : (8 : Int) < (n4 : Int) := by omega
      go_wp2
      go_ret
      exact ⟨by rw [HR2.out]; rfl, HB1.out⟩
    · have HR2 : Hid (R = wsTo S Hs l n4) := by
        show _ = _
        rw [HR1.out, if_neg (by rw [HGN.out]; exact h8), HGN.out]
      have h8' : ¬ (8 : Int) < (n4 : Int) := by omega
      clear HR HR1
      go_wp2
      go_loopw [20] (fun i wr => ∃ j : Nat, j ≤ n4 ∧ i = .int .i64 j ∧ wsTo S Hs l j = 0 ∧ Below w1.heap.size w1 wr) (fun i _ => n4 - (intOf i).toNat)
      case atStart => exact ⟨0, by omega, rfl, rfl, Below.refl _ _⟩
      case round =>
        obtain ⟨j, hj, rfl, hno, hB⟩ := hrel
        have HB : Hid (Below w1.heap.size w1 wr) := hB
        have HBw : Hid (Below w.heap.size w wr) := HB1.out.trans (hB.mono HB1.out.size)
        have HNO : Hid (wsTo S Hs l j = 0) := hno
        have HXr : Hid (TBox wr w.heap.size S (.slice ao n cap) (.slice ao2 n2 cap2)) := HX1.out.later hB
        clear hno hB
        by_cases hlt : j < n4
        · obtain ⟨g, o, hao, hc, _⟩ := HGA.out (by omega)
          subst hao
          obtain ⟨y0, y1, y2, y3, hkl, hLk, q0, q1, q2, q3⟩ := wis_at (hc.later HBw.out) HGN.out hlt
          obtain ⟨N, hN⟩ : ∃ q, q = woN S Hs ⟨y0, y1, y2, y3⟩ := ⟨_, rfl⟩
          have HN : Hid (woN S Hs ⟨y0, y1, y2, y3⟩ = N) := hN.symm
          have HST : Hid (wsTo S Hs l (j + 1) = N) := by
            show _ = _
            rw [wsTo, if_pos HNO.out, getW hkl, hLk, ← hN]
          have hba : Below wr.heap.size wr (wr.alloc (Obj.cells #[Value.int IntKind.i64 y0, Value.string y1, Value.string y2, Value.int IntKind.i64 y3] 67)) := (Below.refl _ _).alloc (Nat.le_refl _) _
          have HBA : Hid (Below wr.heap.size wr (wr.alloc (Obj.cells #[Value.int IntKind.i64 y0, Value.string y1, Value.string y2, Value.int IntKind.i64 y3] 67))) := hba
          obtain ⟨b0, b1, b2⟩ := HXr.out
          have hlw : w.heap.size < wr.heap.size := World.block_lt_of_cell? _ _ b0
          clear hc hLk hN hba
          go_wp2_with fail
          refine (checkOne_any S ao n cap ao2 n2 cap2 Hs y0 y1 y2 y3 _ (HHW.out _ (HBw.out.trans (HBA.out.mono HBw.out.size)))).mono ?_
          rintro e w3 ⟨rfl, hb3⟩
          rw [HN.out]
          have HB3 : Hid (Below w1.heap.size w1 w3) := (HB.out.trans (HBA.out.mono HB.out.size)).trans (hb3.mono (HB.out.trans (HBA.out.mono HB.out.size)).size)
          clear hb3 HBA b0 b1 b2 q0 q1 q2 q3 hlw HXr HB
          by_cases hN0 : N = 0
          · subst hN0
            rw [no_ok rfl]
            go_wp2
            go_roundw
            case rel => exact ⟨j + 1, by omega, by go_num, HST.out, HB3.out⟩
            case measure => simp [intOf]; omega
          · rw [no_ne hN0]
            have HR3 : Hid (R = N) := by
              show _ = _
              rw [HR2.out, ws_le (k := j + 1) (by rw [HST.out]; exact hN0) (by omega), HST.out]
            have HNN : Hid (N ≠ 0) := hN0
            clear hN0
            go_wp2
            go_ret
            exact ⟨by rw [HR3.out, no_ne HNN.out]; rfl, HB1.out.trans (HB3.out.mono HB1.out.size)⟩
        · obtain rfl : j = n4 := by omega
          have HR3 : Hid (R = 0) := by
            show _ = _
            rw [HR2.out, HNO.out]
          go_wp2
          go_ret
          exact ⟨by rw [HR3.out, no_ok rfl]; rfl, HBw.out⟩
  · rw [no_ne h0]
    have HR1 : Hid (R = T) := by
      show _ = _
      rw [HR.out, wsN, if_neg (by rw [← HT.out]; exact h0), HT.out]
    have HNN : Hid (T ≠ 0) := h0
    clear h0
    go_wp2
    go_ret
    exact ⟨by rw [HR1.out, no_ne HNN.out]; rfl, HB1.out⟩
end Go.Proofs.YtpmcjelihdlfeaaDoor
/- What Holds of package wish answers: the iterator of one fate, FirstBroken asked by it; contracts for the walks above it. -/
namespace Go.Proofs.YtpmcjelihdlfeaaDoor
open Go.RowKit Go.Shelf
set_option linter.unusedSimpArgs false
set_option linter.unusedVariables false
attribute [local go_sem] Oper.semAt_some

theorem nm_small {a : ByteArray} (h : nmB a = true) : a.size ≤ 6 := by
  simp only [nmB, Bool.and_eq_true, decide_eq_true_eq] at h
  exact h.2.1
/-- A net in its box, its lists where they lie. -/
structure NIn (w : World) (g : Nat) (S : Int) (v1 v2 v3 : Value) (Ls : List ((Int × Int) × (Int × Int))) (Hs : List (ByteArray × (Int × Int))) (Ts : List (List Ru)) : Prop where
  box : NeBox w g S v1 v2 v3
  l : GS lnkE w v1 Ls
  h : GS hstE w v2 Hs
  t : TS w v3 Ts
theorem NIn.later {w w' : World} {g : Nat} {S : Int} {v1 v2 v3 : Value} {Ls : List ((Int × Int) × (Int × Int))} {Hs : List (ByteArray × (Int × Int))} {Ts : List (List Ru)} (k : NIn w g S v1 v2 v3 Ls Hs Ts) (hb : Below w.heap.size w w') : NIn w' g S v1 v2 v3 Ls Hs Ts :=
  ⟨k.box.later hb, k.l.later hb, k.h.later hb, k.t.later hb⟩

set_option maxHeartbeats 2000000 in
set_option maxRecDepth 100000 in
theorem values1_in (n : Nat) (h3 : 3 ≤ n) (l n₀ : Nat) (F : Ft) (b Bs : Nat) (ao4 : Option Addr) (n4 cap4 : Nat) (J : Nat → (Nat → Prop) → World → Prop) (Jx : World → Prop) (W : World) (hB : Boxed W Bs 98 (.slice (some ⟨b, 0, none⟩) 1 1)) (hf : FaBox W b F.1 F.2.1 (.slice ao4 n4 cap4)) (hG : GS hopE W (.slice ao4 n4 cap4) F.2.2)
    (h0 : J 0 (fun _ => False) W) (hab : ∀ k X A A', J k X A → Kb (fun b => b < W.heap.size ∨ X b) A A' → J k X A')
    (hY : ∀ k X A args x (Y : Nat → Prop), J k X A → [F][k]? = some x → FtV A args x → W.heap.size ≤ A.heap.size → (∀ b, Y b → W.heap.size ≤ b ∧ ¬ X b) → YieldAt Fence.wide 0 Tryd.prog l args A fun e A' =>
      (e = .returned (.bool true) ∧ (∃ X', J (k + 1) X' A' ∧ ∀ b, X' b → X b ∨ A.heap.size ≤ b) ∧ Kb (fun b => b < n₀ ∨ Y b) A A') ∨ (e = .returned (.bool false) ∧ Jx A' ∧ Kb (fun b => b < n₀ ∨ Y b) A A')) :
    CallsIn Fence.wide n Tryd.prog 69 #[.func (.yield l) #[] #[], .pointer (some ⟨Bs, 0, none⟩)] W fun e W' => (∃ v, e = .returned v) ∧ ((∃ X, J 1 X W') ∨ Jx W') := by
  have h1 : 1 ≤ n := by omega
  obtain ⟨F1, F2, F3⟩ := F
  dsimp only at hf hG
  have hBA : Below W.heap.size W (W.alloc (Obj.cells #[.int .i64 F1, .string F2, .slice ao4 n4 cap4] 40)) := (Below.refl _ _).alloc (Nat.le_refl _) _
  have hJ0 := hab _ _ _ _ h0 (Kb.of_below hBA (fun b hb _ => hb))
  have hy0 := yield_any (m' := n - 1) (hY 0 _ (W.alloc (Obj.cells #[.int .i64 F1, .string F2, .slice ao4 n4 cap4] 40)) #[.agg #[.int .i64 F1, .string F2, .slice ao4 n4 cap4]] (F1, F2, F3) (fun _ => False) hJ0 rfl ⟨ao4, n4, cap4, rfl, hG.later hBA⟩ hBA.size (fun _ h => h.elim))
  obtain ⟨fn, tmps, assign, body, hy, hR⟩ := hy0
  have HR : Hid (RoundIn Fence.wide (n - 1) Tryd.prog l fn tmps assign body (W.alloc (Obj.cells #[.int .i64 F1, .string F2, .slice ao4 n4 cap4] 40)) _) := hR
  obtain ⟨f0, f1, f2⟩ := hf
  have hc0 := hB.cell
  refine callsIn_of_wp Tryd.func69 rfl trivial ?_ rfl
  simp only [Tryd.ntmps69, List.size_toArray, List.length_cons, List.length_nil, Nat.reduceAdd, Nat.reduceSub, Array.replicate_succ, Array.replicate_zero, List.push_toArray, List.append_toArray, List.nil_append, List.cons_append]
  clear hY hBA hJ0 hB hG hR h0 hab
  gi_wp2
  gi_loopw [7] (fun i wr => ∃ k : Nat, k ≤ 1 ∧ i = .int .i64 k ∧ (k = 0 → wr = W) ∧ (k = 1 → ∃ X, J 1 X wr)) (fun i _ => 1 - (intOf i).toNat)
  case atStart => exact ⟨0, by omega, rfl, fun _ => rfl, fun h => by omega⟩
  case round =>
    obtain ⟨k, hk, rfl, hk0, hk1⟩ := hrel
    by_cases hlt : k < 1
    · obtain rfl : k = 0 := by omega
      have hw := hk0 rfl
      subst hw
      clear hk0 hk1
      gi_wp2
      refine HR.out.mono ?_
      rintro e W3 (⟨rfl, ⟨X', hJ3, _⟩, hk3⟩ | ⟨rfl, hJx3, _⟩)
      · have HJ3 : Hid (∃ X, J 1 X W3) := ⟨X', hJ3⟩
        clear hJ3 hk3
        gi_wp2
        go_roundw
        case rel => exact ⟨1, by omega, by go_num, fun h => by omega, fun _ => HJ3.out⟩
        case measure => simp [intOf]
      · gi_wp2
        refine bodyPost_ret (results_none rfl _ _ _) rfl ?_
        exact ⟨⟨_, rfl⟩, .inr hJx3⟩
    · obtain rfl : k = 1 := by omega
      have HJ : Hid (∃ X, J 1 X wr) := hk1 rfl
      clear hk0 hk1
      gi_wp2
      go_end0
      exact ⟨⟨_, rfl⟩, .inl HJ.out⟩
/-- slices.Values of one fate. -/
theorem values_it (F : Ft) (b Bs : Nat) (ao4 : Option Addr) (n4 cap4 : Nat) (w : World) (hB : Boxed w Bs 98 (.slice (some ⟨b, 0, none⟩) 1 1)) (hf : FaBox w b F.1 F.2.1 (.slice ao4 n4 cap4)) (hG : GS hopE w (.slice ao4 n4 cap4) F.2.2) :
    ItF Tryd.prog 69 #[.pointer (some ⟨Bs, 0, none⟩)] FtV w.heap.size [F] w := by
  intro l J Jx W hW hn h0 hlt hab hax hY
  exact (callsIn_wide (n := 3)).1 (values1_in 3 (by omega) l w.heap.size F b Bs ao4 n4 cap4 J Jx W ((Kb.of_below hW (fun b hb _ => hb) : Kb (fun _ => True) w W).boxed hB trivial) (hf.later hW) (hG.later hW) h0 hab hY)
set_option maxHeartbeats 1000000 in
theorem values_any (a : Option Addr) (len cap : Nat) (w : World) :
    Calls Tryd.prog 40 #[.slice a len cap] w fun e w' => e = .returned (.func (Fn.func 69) #[] #[.pointer (some ⟨w.heap.size, 0, none⟩)]) ∧ w' = w.alloc (.cells #[.slice a len cap] 98) := by
  go_enter Tryd.func40, Tryd.ntmps40
  go_wp2
  go_ret
  exact ⟨rfl, rfl⟩

set_option maxHeartbeats 2000000 in
set_option maxRecDepth 100000 in
theorem fates_any (m : ByteArray) (x y h : Int) (g : Nat) (S : Int) (ao : Option Addr) (n cap : Nat) (ao2 : Option Addr) (n2 cap2 : Nat) (ao3 : Option Addr) (n3 cap3 : Nat) (Ls : List ((Int × Int) × (Int × Int))) (Hs : List (ByteArray × (Int × Int))) (Ts : List (List Ru)) (w : World)
    (hI : NIn w g S (.slice ao n cap) (.slice ao2 n2 cap2) (.slice ao3 n3 cap3) Ls Hs Ts) (hN : ntN S Ls Hs Ts = 0) (hx : spB S (x, y) = true) :
    Calls Tryd.prog 39 #[.agg #[.string m, .int .i64 x, .int .i64 y], .int .i64 h, .pointer (some ⟨g, 0, none⟩)] w fun e w' => ∃ gi lb, e = .returned (.func (Fn.func gi) #[] lb) ∧ (∀ args w, (callFunc gi args).run Tryd.prog w = .ok (.enter gi args) w) ∧ ItF Tryd.prog gi lb FtV w'.heap.size [frF Ls Hs Ts (x, y) h] w' ∧ Below w.heap.size w w' := by
  have hb0 : Below w.heap.size w (w.alloc (Obj.cells #[.string m, .int .i64 x, .int .i64 y] 57)) := (Below.refl _ _).alloc (Nat.le_refl _) _
  have hI0 := hI.later hb0
  have hs := hsbox_new w m x y 57
  obtain ⟨w0, hw0⟩ : ∃ W, w.alloc (Obj.cells #[.string m, .int .i64 x, .int .i64 y] 57) = W := ⟨_, rfl⟩
  rw [hw0] at hb0 hI0 hs
  have HW0 : Hid (w.alloc (Obj.cells #[.string m, .int .i64 x, .int .i64 y] 57) = w0) := hw0
  have HB0 : Hid (Below w.heap.size w w0) := hb0
  have HI0 : Hid (NIn w0 g S (.slice ao n cap) (.slice ao2 n2 cap2) (.slice ao3 n3 cap3) Ls Hs Ts) := hI0
  have HN : Hid (ntN S Ls Hs Ts = 0) := hN
  have HSP : Hid (spB S (x, y) = true) := hx
  obtain ⟨F, hF⟩ : ∃ F, F = frF Ls Hs Ts (x, y) h := ⟨_, rfl⟩
  have HF : Hid (frF Ls Hs Ts (x, y) h = F) := hF.symm
  rw [← hF]
  obtain ⟨b0, b1, b2, b3⟩ := hI0.box
  obtain ⟨s0, s1, s2⟩ := hs
  clear hb0 hI0 hI hN hx hw0 hF
  go_enter Tryd.func39, Tryd.ntmps39
  go_upto_region 1 with fail
  rw [HW0.out]
  clear HW0
  go_wp2_with fail
  refine (follow_any S ao n cap ao2 n2 cap2 ao3 n3 cap3 Ls Hs Ts x y h _ HI0.out.l HI0.out.h HI0.out.t HN.out HSP.out).mono ?_
  rintro e w1 ⟨ao4, n4, cap4, rfl, hown, hb1⟩
  rw [HF.out] at hown
  rw [HF.out]
  have hG : GS hopE w1 (.slice ao4 n4 cap4) F.2.2 := own_GS (E := hopE) hown
  have HB1 : Hid (Below w.heap.size w w1) := HB0.out.trans (hb1.mono HB0.out.size)
  have HG : Hid (GS hopE w1 (.slice ao4 n4 cap4) F.2.2) := hG
  obtain ⟨F1, hF1⟩ : ∃ q, q = F.1 := ⟨_, rfl⟩
  obtain ⟨F2, hF2⟩ : ∃ q, q = F.2.1 := ⟨_, rfl⟩
  rw [← hF1, ← hF2]
  have HFV : Hid (F.1 = F1 ∧ F.2.1 = F2) := ⟨hF1.symm, hF2.symm⟩
  clear hF1 hF2 hown hb1 hG b0 b1 b2 b3 s0 s1 s2
  go_wp2_with fail
  refine (values_any _ _ _ _).mono ?_
  rintro e w2 ⟨rfl, hw2⟩
  have hal : Below w1.heap.size w1 (w1.alloc (Obj.cells #[.int .i64 F1, .string F2, .slice ao4 n4 cap4] 40)) := (Below.refl _ _).alloc (Nat.le_refl _) _
  have hal2 : Below (w1.alloc (Obj.cells #[.int .i64 F1, .string F2, .slice ao4 n4 cap4] 40)).heap.size (w1.alloc (Obj.cells #[.int .i64 F1, .string F2, .slice ao4 n4 cap4] 40)) w2 := by rw [hw2]; exact (Below.refl _ _).alloc (Nat.le_refl _) _
  have hbx : Boxed w2 (w1.alloc (Obj.cells #[.int .i64 F1, .string F2, .slice ao4 n4 cap4] 40)).heap.size 98 (.slice (some ⟨w1.heap.size, 0, none⟩) 1 1) := by rw [hw2]; exact Boxed.new _ _ _
  have hfb : FaBox w2 w1.heap.size F.1 F.2.1 (.slice ao4 n4 cap4) := by rw [HFV.out.1, HFV.out.2]; exact (fabox_new w1 F1 F2 _ 40).later hal2
  have HIT : Hid (ItF Tryd.prog 69 #[.pointer (some ⟨(w1.alloc (Obj.cells #[.int .i64 F1, .string F2, .slice ao4 n4 cap4] 40)).heap.size, 0, none⟩)] FtV w2.heap.size [F] w2) := values_it F _ _ ao4 n4 cap4 w2 hbx hfb ((HG.out.later hal).later hal2)
  have HB2 : Hid (Below w.heap.size w w2) := HB1.out.trans ((hal.trans (hal2.mono hal.size)).mono HB1.out.size)
  clear hw2 hal hal2 hbx hfb
  go_wp2
  go_ret
  refine ⟨_, _, rfl, enters_of Tryd.func69 (by kernel_rfl) rfl, ?_, HB2.out⟩
  have h := HIT.out
  rw [World.size_alloc] at h
  exact h

theorem broken_any (g : Nat) (S : Int) (ao : Option Addr) (n cap : Nat) (ao2 : Option Addr) (n2 cap2 : Nat) (ao3 : Option Addr) (n3 cap3 : Nat) (a4 : Option Addr) (n4 c4 : Nat) (Ls : List ((Int × Int) × (Int × Int))) (Hs : List (ByteArray × (Int × Int))) (Ts : List (List Ru)) (l : List Wi) (w : World)
    (hI : NIn w g S (.slice ao n cap) (.slice ao2 n2 cap2) (.slice ao3 n3 cap3) Ls Hs Ts) (hN : ntN S Ls Hs Ts = 0) (hl : GS wisE w (.slice a4 n4 c4) l) :
    Calls Tryd.prog 38 #[.slice ao2 n2 cap2, .slice a4 n4 c4, .func (Fn.func 39) #[] #[.pointer (some ⟨g, 0, none⟩)]] w fun e w' => e = .returned (.tuple #[.agg #[.int .i64 (prV Hs (brW Ls Hs Ts l Hs l.length)).1, .string (prV Hs (brW Ls Hs Ts l Hs l.length)).2.1, .int .i64 (prV Hs (brW Ls Hs Ts l Hs l.length)).2.2], .bool (brW Ls Hs Ts l Hs l.length).isSome]) ∧ Below w.heap.size w w' := by
  have hHG := (tp_0 (nt_0 hN).1).2.2.2.2.1
  refine (fbrk_any g ao2 n2 cap2 a4 n4 c4 Hs (fun z h => [frF Ls Hs Ts (Hs.getD z zeO).2 (h : Int)]) l w hI.h hl (fun h hh => ?_) ?_).mono ?_
  · have := nm_small (hHG h hh).1
    omega
  · intro z hz h h16 W hW
    have e : Hs.getD z zeO = Hs[z] := getO hz
    dsimp only
    rw [e]
    exact fates_any Hs[z].1 Hs[z].2.1 Hs[z].2.2 h g S ao n cap ao2 n2 cap2 ao3 n3 cap3 Ls Hs Ts W (hI.later hW) hN (hHG _ (List.getElem_mem hz)).2
  · rintro e w' ⟨held, p, rfl, hF, hb⟩
    obtain ⟨e1, e2⟩ := fb_br hF
    rw [e1, e2]
    exact ⟨rfl, hb⟩

/-- The boxes: a net, the answer's. -/
structure HoBox (w W : World) (S : Int) (v1 v2 v3 : Value) : Prop where
  below : Below w.heap.size w W
  n : NeBox W w.heap.size S v1 v2 v3
  p : PrBox w W (w.heap.size + 1) 0 ⟨#[]⟩ 0
theorem hobox_new (w : World) (S : Int) (v1 v2 v3 : Value) : HoBox w ((w.alloc (Obj.cells #[.int .i64 S, v1, v2, v3] 28)).alloc (Obj.cells #[.int .i64 0, .string ⟨#[]⟩, .int .i64 0] 63)) S v1 v2 v3 := by
  have e1 : (w.alloc (Obj.cells #[.int .i64 S, v1, v2, v3] 28)).heap.size = w.heap.size + 1 := by simp
  have hb : ∀ (W : World) (o : Obj), Below W.heap.size W (W.alloc o) := fun W o => (Below.refl _ _).alloc (Nat.le_refl _) _
  have hn := (nebox_new w S v1 v2 v3 28).later (hb _ (Obj.cells #[.int .i64 0, .string ⟨#[]⟩, .int .i64 0] 63))
  have hB := ((Below.refl w.heap.size w).alloc (Nat.le_refl _) (Obj.cells #[.int .i64 S, v1, v2, v3] 28)).alloc (by rw [e1]; omega) (Obj.cells #[.int .i64 0, .string ⟨#[]⟩, .int .i64 0] 63)
  generalize w.alloc (Obj.cells #[.int .i64 S, v1, v2, v3] 28) = X at e1 hn hB
  have hr := prbox_new X w 0 ⟨#[]⟩ 0
  rw [e1] at hr
  exact ⟨hB, hn, hr⟩
theorem HoBox.later {w W W' : World} {S : Int} {v1 v2 v3 : Value} (k : HoBox w W S v1 v2 v3) (hb : Below W.heap.size W W') : HoBox w W' S v1 v2 v3 :=
  ⟨k.below.trans (hb.mono k.below.size), k.n.later hb, k.p.later hb⟩

set_option maxHeartbeats 4000000 in
set_option maxRecDepth 100000 in
theorem holds_any (S : Int) (ao : Option Addr) (n cap : Nat) (ao2 : Option Addr) (n2 cap2 : Nat) (ao3 : Option Addr) (n3 cap3 : Nat) (a4 : Option Addr) (n4 c4 : Nat) (Ls : List ((Int × Int) × (Int × Int))) (Hs : List (ByteArray × (Int × Int))) (Ts : List (List Ru)) (l : List Wi) (w : World)
    (hL : GS lnkE w (.slice ao n cap) Ls) (hH : GS hstE w (.slice ao2 n2 cap2) Hs) (hT : TS w (.slice ao3 n3 cap3) Ts) (hl : GS wisE w (.slice a4 n4 c4) l) :
    Calls Tryd.prog 21 #[.agg #[.int .i64 S, .slice ao n cap, .slice ao2 n2 cap2, .slice ao3 n3 cap3], .slice a4 n4 c4] w fun e w' => e = .returned (.tuple #[.agg #[.int .i64 (wiV S Ls Hs Ts l).1, .string (wiV S Ls Hs Ts l).2.1, .int .i64 (wiV S Ls Hs Ts l).2.2], noV (wiN S Ls Hs Ts l)]) ∧ Below w.heap.size w w' := by
  obtain ⟨R, hR⟩ : ∃ R, R = wiN S Ls Hs Ts l := ⟨_, rfl⟩
  obtain ⟨V, hV⟩ : ∃ V, V = wiV S Ls Hs Ts l := ⟨_, rfl⟩
  have HR : Hid (R = wiN S Ls Hs Ts l) := hR
  have HV : Hid (V = wiV S Ls Hs Ts l) := hV
  rw [← hR, ← hV]
  have HLW : Hid (∀ W, Below w.heap.size w W → GS lnkE W (.slice ao n cap) Ls) := fun W hb => hL.later hb
  have HHW : Hid (∀ W, Below w.heap.size w W → GS hstE W (.slice ao2 n2 cap2) Hs) := fun W hb => hH.later hb
  have HTW : Hid (∀ W, Below w.heap.size w W → TS W (.slice ao3 n3 cap3) Ts) := fun W hb => hT.later hb
  have HlW : Hid (∀ W, Below w.heap.size w W → GS wisE W (.slice a4 n4 c4) l) := fun W hb => hl.later hb
  have hX := hobox_new w S (.slice ao n cap) (.slice ao2 n2 cap2) (.slice ao3 n3 cap3)
  obtain ⟨w0, hw0⟩ : ∃ W, (w.alloc (Obj.cells #[.int .i64 S, .slice ao n cap, .slice ao2 n2 cap2, .slice ao3 n3 cap3] 28)).alloc (Obj.cells #[.int .i64 0, .string ⟨#[]⟩, .int .i64 0] 63) = W := ⟨_, rfl⟩
  rw [hw0] at hX
  have HX : Hid (HoBox w w0 S (.slice ao n cap) (.slice ao2 n2 cap2) (.slice ao3 n3 cap3)) := hX
  have HW0 : Hid ((w.alloc (Obj.cells #[.int .i64 S, .slice ao n cap, .slice ao2 n2 cap2, .slice ao3 n3 cap3] 28)).alloc (Obj.cells #[.int .i64 0, .string ⟨#[]⟩, .int .i64 0] 63) = w0) := hw0
  clear hL hH hT hl hR hV hX hw0
  go_enter Tryd.func21, Tryd.ntmps21
  go_upto_region 1 with fail
  rw [HW0.out]
  obtain ⟨_, ⟨b0, b1, b2, b3⟩, _⟩ := HX.out
  clear HW0
  go_wp2_with fail
  refine (ncheck_any S ao n cap ao2 n2 cap2 ao3 n3 cap3 Ls Hs Ts _ (HLW.out _ HX.out.below) (HHW.out _ HX.out.below) (HTW.out _ HX.out.below)).mono ?_
  rintro e w1 ⟨rfl, hb1⟩
  obtain ⟨T, hT⟩ : ∃ T, T = ntN S Ls Hs Ts := ⟨_, rfl⟩
  have HT : Hid (T = ntN S Ls Hs Ts) := hT
  rw [← hT]
  have HX1 : Hid (HoBox w w1 S (.slice ao n cap) (.slice ao2 n2 cap2) (.slice ao3 n3 cap3)) := HX.out.later hb1
  clear hT hb1 HX b0 b1 b2 b3
  by_cases h0 : T = 0
  · have HN0 : Hid (ntN S Ls Hs Ts = 0) := HT.out.symm.trans h0
    subst h0
    rw [no_ok rfl]
    obtain ⟨_, ⟨b0, b1, b2, b3⟩, _⟩ := HX1.out
    go_wp2_with fail
    refine (wcheck_any S ao n cap ao2 n2 cap2 a4 n4 c4 Ls Hs l _ (HLW.out _ HX1.out.below) (HHW.out _ HX1.out.below) (HlW.out _ HX1.out.below)).mono ?_
    rintro e w2 ⟨rfl, hb2⟩
    obtain ⟨U, hU⟩ : ∃ U, U = wsN S Ls Hs l := ⟨_, rfl⟩
    have HU : Hid (U = wsN S Ls Hs l) := hU
    rw [← hU]
    have HX2 : Hid (HoBox w w2 S (.slice ao n cap) (.slice ao2 n2 cap2) (.slice ao3 n3 cap3)) := HX1.out.later hb2
    clear hU hb2 HX1 b0 b1 b2 b3
    by_cases h5 : U = 0
    · have HU0 : Hid (wsN S Ls Hs l = 0) := HU.out.symm.trans h5
      subst h5
      rw [no_ok rfl]
      obtain ⟨_, ⟨b0, b1, b2, b3⟩, _⟩ := HX2.out
      have hlw : w.heap.size < w2.heap.size := World.block_lt_of_cell? _ _ b0
      go_wp2_with fail
      refine (broken_any w.heap.size S ao n cap ao2 n2 cap2 ao3 n3 cap3 a4 n4 c4 Ls Hs Ts l _ ⟨HX2.out.n, HLW.out _ HX2.out.below, HHW.out _ HX2.out.below, HTW.out _ HX2.out.below⟩ HN0.out (HlW.out _ HX2.out.below)).mono ?_
      rintro e w3 ⟨rfl, hb3⟩
      obtain ⟨O, hO⟩ : ∃ O, O = brW Ls Hs Ts l Hs l.length := ⟨_, rfl⟩
      have HRO : Hid (R = if O.isSome then 9 else 0) := by
        show _ = _
        rw [HR.out, wiN, if_pos HN0.out, if_pos HU0.out, hO]
      have HVO : Hid (V = prV Hs O) := by
        show _ = _
        rw [HV.out, wiV, if_pos ⟨HN0.out, HU0.out⟩, hO]
      rw [← hO, ← HVO.out]
      have HX3 : Hid (HoBox w w3 S (.slice ao n cap) (.slice ao2 n2 cap2) (.slice ao3 n3 cap3)) := HX2.out.later hb3
      obtain ⟨V1, hV1⟩ : ∃ q, q = V.1 := ⟨_, rfl⟩
      obtain ⟨V2, hV2⟩ : ∃ q, q = V.2.1 := ⟨_, rfl⟩
      obtain ⟨V3, hV3⟩ : ∃ q, q = V.2.2 := ⟨_, rfl⟩
      have HVV : Hid (V.1 = V1 ∧ V.2.1 = V2 ∧ V.2.2 = V3) := ⟨hV1.symm, hV2.symm, hV3.symm⟩
      rw [← hV1, ← hV2, ← hV3]
      have hal : Below w3.heap.size w3 (w3.alloc (Obj.cells #[.int .i64 V1, .string V2, .int .i64 V3] 63)) := (Below.refl _ _).alloc (Nat.le_refl _) _
      have hpr := prbox_new w3 w V1 V2 V3
      have hX4 := HX3.out.later hal
      obtain ⟨w4, hw4⟩ : ∃ W, w3.alloc (Obj.cells #[.int .i64 V1, .string V2, .int .i64 V3] 63) = W := ⟨_, rfl⟩
      obtain ⟨gp, hgp⟩ : ∃ q, q = w3.heap.size := ⟨_, rfl⟩
      rw [hw4] at hal hpr hX4
      rw [← hgp] at hpr
      have HW4 : Hid (w3.alloc (Obj.cells #[.int .i64 V1, .string V2, .int .i64 V3] 63) = w4) := hw4
      have HGP : Hid (w3.heap.size = gp) := hgp.symm
      have HLP : Hid (w.heap.size + 1 < gp) := by
        show _ < _
        rw [hgp]
        have h1 := World.block_lt_of_cell? _ _ HX3.out.p.c0
        simpa using h1
      have HPR : Hid (PrBox w w4 gp V1 V2 V3) := hpr
      have HX4 : Hid (HoBox w w4 S (.slice ao n cap) (.slice ao2 n2 cap2) (.slice ao3 n3 cap3)) := hX4
      clear hb3 hO hV1 hV2 hV3 hal hpr hX4 hw4 hgp b0 b1 b2 b3 HX2
      obtain ⟨B, hB⟩ : ∃ B, B = O.isSome := ⟨_, rfl⟩
      have HBO : Hid (O.isSome = B) := hB.symm
      rw [← hB]
      clear hB
      go_upto_region 8 with fail
      rw [HW4.out, HGP.out]
      clear HW4 HGP
      obtain ⟨hB4, _, ⟨r0, r1, r2, rf⟩⟩ := HX4.out
      have f0 := rf 0
      have f1 := rf 1
      have f2 := rf 2
      have HB4 : Hid (Below w.heap.size w w4) := hB4
      obtain ⟨p0, p1, p2, _⟩ := HPR.out
      clear hB4 rf
      cases B with
      | true =>
        have HR9 : Hid (R = 9) := by
          show _ = _
          rw [HRO.out, HBO.out, if_pos rfl]
        go_wp2
        refine bodyPost_ret (v := .tuple #[.agg #[.int .i64 V1, .string V2, .int .i64 V3], .iface 75 (.int .i64 9)]) (by simp [results, Tryd.results21, go_sem, *]) rfl ⟨by rw [HR9.out, HVV.out.1, HVV.out.2.1, HVV.out.2.2]; rfl, below_put3 HB4.out _ (by omega) _ _ _⟩
      | false =>
        have HR9 : Hid (R = 0) := by
          show _ = _
          rw [HRO.out, HBO.out, if_neg (by decide)]
        have HVZ : Hid (V = (0, ByteArray.empty, 0)) := by
          show _ = _
          rw [HVO.out]
          cases O with
          | none => rfl
          | some p => have := HBO.out; simp at this
        go_wp2
        refine bodyPost_ret (v := .tuple #[.agg #[.int .i64 0, .string ⟨#[]⟩, .int .i64 0], .nilIface]) (by simp [results, Tryd.results21, go_sem, *]) rfl ⟨by rw [HR9.out, HVZ.out]; rfl, below_put3 HB4.out _ (by omega) _ _ _⟩
    · rw [no_ne h5]
      have HNE : Hid (U ≠ 0) := h5
      have HR1 : Hid (R = U) := by
        show _ = _
        rw [HR.out, wiN, if_pos HN0.out, if_neg (by rw [← HU.out]; exact h5), HU.out]
      have HV1 : Hid (V = (0, ByteArray.empty, 0)) := by
        show _ = _
        rw [HV.out, wiV, if_neg (fun h => h5 (HU.out.trans h.2))]
      obtain ⟨hB2, _, ⟨r0, r1, r2, rf⟩⟩ := HX2.out
      have f0 := rf 0
      have f1 := rf 1
      have f2 := rf 2
      have HB2 : Hid (Below w.heap.size w w2) := hB2
      clear h5 hB2 rf
      go_wp2
      refine bodyPost_ret (v := .tuple #[.agg #[.int .i64 0, .string ⟨#[]⟩, .int .i64 0], .iface 75 (.int .i64 U)]) (by simp [results, Tryd.results21, go_sem, *]) rfl ⟨by rw [HR1.out, HV1.out, no_ne HNE.out]; rfl, below_put3 HB2.out _ (by omega) _ _ _⟩
  · rw [no_ne h0]
    have HNE : Hid (T ≠ 0) := h0
    have HR1 : Hid (R = T) := by
      show _ = _
      rw [HR.out, wiN, if_neg (by rw [← HT.out]; exact h0), HT.out]
    have HV1 : Hid (V = (0, ByteArray.empty, 0)) := by
      show _ = _
      rw [HV.out, wiV, if_neg (fun h => h0 (HT.out.trans h.1))]
    obtain ⟨hB2, _, ⟨r0, r1, r2, rf⟩⟩ := HX1.out
    have f0 := rf 0
    have f1 := rf 1
    have f2 := rf 2
    have HB2 : Hid (Below w.heap.size w w1) := hB2
    clear h0 hB2 rf
    go_wp2
    refine bodyPost_ret (v := .tuple #[.agg #[.int .i64 0, .string ⟨#[]⟩, .int .i64 0], .iface 75 (.int .i64 T)]) (by simp [results, Tryd.results21, go_sem, *]) rfl ⟨by rw [HR1.out, HV1.out, no_ne HNE.out]; rfl, below_put3 HB2.out _ (by omega) _ _ _⟩
end Go.Proofs.YtpmcjelihdlfeaaDoor
/- What topo.Where answers: a contract for the walks above it. -/
namespace Go.Proofs.YtpmcjelihdlfeaaDoor
open Go.RowKit
set_option linter.unusedSimpArgs false
set_option linter.unusedVariables false

set_option maxHeartbeats 1000000 in
set_option maxRecDepth 100000 in
theorem where1_any (n : ByteArray) (x0 x1 : Int) (B : Nat) (m : ByteArray) (w : World) (h0 : w.cell? ⟨B, 0, none⟩ = some (.string m)) :
    Calls Tryd.prog 45 #[.agg #[.string n, .int .i64 x0, .int .i64 x1], .pointer (some ⟨B, 0, none⟩)] w fun e w' => e = .returned (.bool (n == m)) ∧ Below w.heap.size w w' := by
  have hlt : B < w.heap.size := World.block_lt_of_cell? _ _ h0
  have HB0 : Hid (Below w.heap.size w (w.alloc (Obj.cells #[Value.string n, Value.int IntKind.i64 x0, Value.int IntKind.i64 x1] 57))) := (Below.refl _ _).alloc (Nat.le_refl _) _
  rw [beq_toListBytes]
  go_enter Tryd.func45, Tryd.ntmps45
  go_wp2
  go_ret
  exact ⟨rfl, HB0.out⟩
theorem where1_asks (B : Nat) (m : ByteArray) (w : World) (h0 : w.cell? ⟨B, 0, none⟩ = some (.string m)) : hstAsks w 45 (.pointer (some ⟨B, 0, none⟩)) (fun h => h.1 == m) :=
  fun n x0 x1 W hW => where1_any n x0 x1 B m W (cell_later hW h0)
/-- The three boxes of a call: a topology, a name, a spot. -/
def wbox (w : World) (S : Int) (v1 v2 : Value) (m : ByteArray) : World := ((w.alloc (Obj.cells #[.int .i64 S, v1, v2] 25)).alloc (Obj.cells #[.string m] 9)).alloc (Obj.cells #[.int .i64 0, .int .i64 0] 30)
structure WBox (w W : World) (S : Int) (v1 v2 : Value) (m : ByteArray) : Prop where
  below : Below w.heap.size w W
  t : TBox W w.heap.size S v1 v2
  s : W.cell? ⟨w.heap.size + 1, 0, none⟩ = some (.string m)
  r0 : W.cell? ⟨w.heap.size + 1 + 1, 0, none⟩ = some (.int .i64 0)
  r1 : W.cell? ⟨w.heap.size + 1 + 1, 1, none⟩ = some (.int .i64 0)
  f : ∀ i, W.frozen? ⟨w.heap.size + 1 + 1, i, none⟩ = false
theorem froz_new (w : World) (cs : Array Value) (t : TypeId) (k : Nat) : (w.alloc (.cells cs t)).frozen? ⟨w.heap.size, k, none⟩ = false := by simp
theorem wbox_new (w : World) (S : Int) (v1 v2 : Value) (m : ByteArray) : WBox w (wbox w S v1 v2 m) S v1 v2 m := by
  have e1 : (w.alloc (Obj.cells #[.int .i64 S, v1, v2] 25)).heap.size = w.heap.size + 1 := by simp
  have e2 : ((w.alloc (Obj.cells #[.int .i64 S, v1, v2] 25)).alloc (Obj.cells #[.string m] 9)).heap.size = w.heap.size + 1 + 1 := by simp
  have hb : ∀ (W : World) (o : Obj), Below W.heap.size W (W.alloc o) := fun W o => (Below.refl _ _).alloc (Nat.le_refl _) _
  have hs := (vat_new (w.alloc (Obj.cells #[.int .i64 S, v1, v2] 25)) [.string m] 9).later (hb _ (Obj.cells #[.int .i64 0, .int .i64 0] 30))
  rw [e1] at hs
  have hr := vat_new ((w.alloc (Obj.cells #[.int .i64 S, v1, v2] 25)).alloc (Obj.cells #[.string m] 9)) [.int .i64 0, .int .i64 0] 30
  rw [e2] at hr
  have hf := froz_new ((w.alloc (Obj.cells #[.int .i64 S, v1, v2] 25)).alloc (Obj.cells #[.string m] 9)) #[.int .i64 0, .int .i64 0] 30
  rw [e2] at hf
  exact ⟨(((Below.refl _ _).alloc (Nat.le_refl _) _).alloc (by rw [e1]; omega) _).alloc (by rw [e2]; omega) _, ((tbox_new w S v1 v2 25).later (hb _ _)).later (hb _ _), hs 0 _ rfl, hr 0 _ rfl, hr 1 _ rfl, hf⟩
theorem WBox.later {w W W' : World} {S : Int} {v1 v2 : Value} {m : ByteArray} (h : WBox w W S v1 v2 m) (hb : Below W.heap.size W W') : WBox w W' S v1 v2 m :=
  ⟨h.below.trans (hb.mono h.below.size), h.t.later hb, cell_later hb h.s, cell_later hb h.r0, cell_later hb h.r1, fun i => (hb.frozen (p := ⟨w.heap.size + 1 + 1, i, none⟩) (show (⟨w.heap.size + 1 + 1, 0, none⟩ : Addr).block < W.heap.size from World.block_lt_of_cell? W ⟨w.heap.size + 1 + 1, 0, none⟩ h.r0)).trans (h.f i)⟩
theorem below_two {w W : World} (h : Below w.heap.size w W) (g : Nat) (hg : w.heap.size ≤ g) (u v : Value) : Below w.heap.size w ((W.setCell ⟨g, 0, none⟩ u).setCell ⟨g, 1, none⟩ v) := (h.setCell (p := ⟨g, 0, none⟩) hg u).setCell (p := ⟨g, 1, none⟩) hg v
set_option maxHeartbeats 1000000 in
set_option maxRecDepth 100000 in
theorem where_any (S : Int) (ao : Option Addr) (n cap : Nat) (ao2 : Option Addr) (n2 cap2 : Nat) (Ls : List ((Int × Int) × (Int × Int))) (Hs : List (ByteArray × (Int × Int))) (m : ByteArray) (w : World)
    (hL : GS lnkE w (.slice ao n cap) Ls) (hH : GS hstE w (.slice ao2 n2 cap2) Hs) :
    Calls Tryd.prog 23 #[.agg #[.int .i64 S, .slice ao n cap, .slice ao2 n2 cap2], .string m] w fun e w' => e = .returned (.tuple #[.agg #[.int .i64 (weV S Ls Hs m).1, .int .i64 (weV S Ls Hs m).2], noV (weN S Ls Hs m)]) ∧ Below w.heap.size w w' := by
  have hX := wbox_new w S (.slice ao n cap) (.slice ao2 n2 cap2) m
  obtain ⟨R, hR⟩ : ∃ R, R = weN S Ls Hs m := ⟨_, rfl⟩
  have HR : Hid (R = weN S Ls Hs m) := hR
  obtain ⟨V1, hV1⟩ : ∃ V, V = (weV S Ls Hs m).1 := ⟨_, rfl⟩
  have HV1 : Hid (V1 = (weV S Ls Hs m).1) := hV1
  obtain ⟨V2, hV2⟩ : ∃ V, V = (weV S Ls Hs m).2 := ⟨_, rfl⟩
  have HV2 : Hid (V2 = (weV S Ls Hs m).2) := hV2
  rw [← hR, ← hV1, ← hV2]
  have HL2 : Hid (GS lnkE (wbox w S (.slice ao n cap) (.slice ao2 n2 cap2) m) (.slice ao n cap) Ls) := hL.later hX.below
  have HH2 : Hid (GS hstE (wbox w S (.slice ao n cap) (.slice ao2 n2 cap2) m) (.slice ao2 n2 cap2) Hs) := hH.later hX.below
  have HX : Hid (WBox w (wbox w S (.slice ao n cap) (.slice ao2 n2 cap2) m) S (.slice ao n cap) (.slice ao2 n2 cap2) m) := hX
  clear hR hV1 hV2 hX hL hH
  go_enter Tryd.func23, Tryd.ntmps23
  go_wp2_with fail
  refine (check_any S ao n cap ao2 n2 cap2 Ls Hs _ HL2.out HH2.out).mono ?_
  rintro e w1 ⟨rfl, hb1⟩
  obtain ⟨T, hT⟩ : ∃ T, T = tpN S Ls Hs := ⟨_, rfl⟩
  have HT : Hid (T = tpN S Ls Hs) := hT
  rw [← hT]
  have hX1 := HX.out.later hb1
  have HX1 : Hid (WBox w w1 S (.slice ao n cap) (.slice ao2 n2 cap2) m) := hX1
  have HH1 : Hid (GS hstE w1 (.slice ao2 n2 cap2) Hs) := HH2.out.later hb1
  obtain ⟨_, ⟨b0, b1, b2⟩, s0, r0, r1, f⟩ := hX1
  have f0 := f 0
  have f1 := f 1
  clear hT hb1 HX HL2 HH2 f
  by_cases h0 : T = 0
  · subst h0
    rw [no_ok rfl]
    have HK : Hid (hstAsks w1 45 (.pointer (some ⟨w.heap.size + 1, 0, none⟩)) (fun h => h.1 == m)) := where1_asks _ m w1 s0
    obtain ⟨_, _, _, e2, hHn, hHm, _, hHa⟩ := HH1.out.form
    cases e2
    have HHN : Hid (Hs.length = n2) := hHn
    have HHM : Hid (n2 ≤ maxLen) := hHm
    have HHA : Hid (0 < n2 → ∃ g o, ao2 = some ⟨g, o, none⟩ ∧ GAt hstE w1 g o Hs ∧ cap2 ≤ maxLen) := hHa
    clear hHn hHm hHa s0 r0 r1 f0 f1
    go_wp2_with fail
    refine (hst_idxF ao2 n2 cap2 _ _ (fun h => h.1 == m) Hs _ HHN.out HHM.out HHA.out (enters_of Tryd.func45 (by kernel_rfl) rfl) HK.out).mono ?_
    rintro e w2 ⟨rfl, hb2⟩
    have hX2 := HX1.out.later hb2
    have HB3 : Hid (Below w.heap.size w w2) := hX2.below
    have HHA2 : Hid (0 < n2 → ∃ g o, ao2 = some ⟨g, o, none⟩ ∧ GAt hstE w2 g o Hs ∧ cap2 ≤ maxLen) := fun h => by
      obtain ⟨g, o, e1, e2, e3⟩ := HHA.out h
      exact ⟨g, o, e1, e2.later hb2, e3⟩
    obtain ⟨_, ⟨b0, b1, b2⟩, s0, r0, r1, f⟩ := hX2
    have f0 := f 0
    have f1 := f 1
    clear hb2 HHA HX1 f
    rcases where_ix Hs m with ⟨hi, ho⟩ | ⟨k, hk, hi, ho⟩
    · rw [hi]
      have HR5 : Hid (R = 5) := by
        show _ = _
        rw [HR.out, weN, if_pos HT.out.symm, ho]
        rfl
      have HV5 : Hid (V1 = 0 ∧ V2 = 0) := by
        have h5 := HR5.out
        have e : weV S Ls Hs m = (0, 0) := by rw [weV, ← HR.out, h5, if_neg (by decide)]
        exact ⟨by rw [HV1.out, e], by rw [HV2.out, e]⟩
      clear hi ho
      go_wp2
      refine bodyPost_ret (v := .tuple #[.agg #[.int .i64 0, .int .i64 0], .iface 75 (.int .i64 5)]) (by simp [results, Tryd.results23, go_sem, *]) rfl ⟨by rw [HR5.out, HV5.out.1, HV5.out.2]; rfl, below_two HB3.out _ (by omega) _ _⟩
    · rw [hi]
      have HR0 : Hid (R = 0) := by
        show _ = _
        rw [HR.out, weN, if_pos HT.out.symm, ho]
        rfl
      have hlt : k < n2 := by rw [← HHN.out]; exact hk
      obtain ⟨g, o, hao, hc, _⟩ := HHA2.out (by omega)
      subst hao
      obtain ⟨y0, y1, y2, hkl, hHk, q0, q1, q2⟩ := hst_at hc HHN.out hlt
      have HV0 : Hid (V1 = y1 ∧ V2 = y2) := by
        have h5 := HR0.out
        have e : weV S Ls Hs m = (y1, y2) := by rw [weV, ← HR.out, h5, if_pos rfl, ho, Option.getD_some, hHk]
        exact ⟨by rw [HV1.out, e], by rw [HV2.out, e]⟩
      have kb0 : (0 : Int) ≤ (k : Int) := by omega
      have kb1 : (k : Int) < (n2 : Int) := by omega
      have hk0 : ¬ (k : Int) < 0 := by omega
      clear hi ho hHk hc HHA2
      go_wp2
      refine bodyPost_ret (v := .tuple #[.agg #[.int .i64 y1, .int .i64 y2], .nilIface]) (by simp [results, Tryd.results23, go_sem, *]) rfl ⟨by rw [HR0.out, HV0.out.1, HV0.out.2]; rfl, below_two HB3.out _ (by omega) _ _⟩
  · rw [no_ne h0]
    have HR2 : Hid (R = T) := by
      show _ = _
      rw [HR.out, weN, ← HT.out, if_neg h0]
    have HV5 : Hid (V1 = 0 ∧ V2 = 0) := by
      have h2 := HR2.out
      have e : weV S Ls Hs m = (0, 0) := by rw [weV, ← HR.out, h2, if_neg h0]
      exact ⟨by rw [HV1.out, e], by rw [HV2.out, e]⟩
    have HN0 : Hid (T ≠ 0) := h0
    clear h0
    go_wp2
    refine bodyPost_ret (v := .tuple #[.agg #[.int .i64 0, .int .i64 0], .iface 75 (.int .i64 T)]) (by simp [results, Tryd.results23, go_sem, *]) rfl ⟨by rw [HR2.out, HV5.out.1, HV5.out.2, no_ne HN0.out], below_two HX1.out.below _ (by omega) _ _⟩
end Go.Proofs.YtpmcjelihdlfeaaDoor
/- What net.Send answers: a contract for the walks above it. -/
namespace Go.Proofs.YtpmcjelihdlfeaaDoor
open Go.RowKit
set_option linter.unusedSimpArgs false
set_option linter.unusedVariables false

/-- The boxes: a net, the answer's. -/
structure VBox (w W : World) (S : Int) (v1 v2 v3 : Value) : Prop where
  below : Below w.heap.size w W
  n : NeBox W w.heap.size S v1 v2 v3
  r0 : W.cell? ⟨w.heap.size + 1, 0, none⟩ = some (.int .i64 0)
  r1 : W.cell? ⟨w.heap.size + 1, 1, none⟩ = some (.string ⟨#[]⟩)
  r2 : W.cell? ⟨w.heap.size + 1, 2, none⟩ = some (.slice none 0 0)
  f : ∀ i, W.frozen? ⟨w.heap.size + 1, i, none⟩ = false
theorem vbox_new (w : World) (S : Int) (v1 v2 v3 : Value) : VBox w ((w.alloc (Obj.cells #[.int .i64 S, v1, v2, v3] 28)).alloc (Obj.cells #[.int .i64 0, .string ⟨#[]⟩, .slice none 0 0] 40)) S v1 v2 v3 := by
  have e1 : (w.alloc (Obj.cells #[.int .i64 S, v1, v2, v3] 28)).heap.size = w.heap.size + 1 := by simp
  have hb : ∀ (W : World) (o : Obj), Below W.heap.size W (W.alloc o) := fun W o => (Below.refl _ _).alloc (Nat.le_refl _) _
  have hn := (nebox_new w S v1 v2 v3 28).later (hb _ (Obj.cells #[.int .i64 0, .string ⟨#[]⟩, .slice none 0 0] 40))
  have hB := ((Below.refl w.heap.size w).alloc (Nat.le_refl _) (Obj.cells #[.int .i64 S, v1, v2, v3] 28)).alloc (by rw [e1]; omega) (Obj.cells #[.int .i64 0, .string ⟨#[]⟩, .slice none 0 0] 40)
  generalize w.alloc (Obj.cells #[.int .i64 S, v1, v2, v3] 28) = X at e1 hn hB
  have hr := vat_new X [.int .i64 0, .string ⟨#[]⟩, .slice none 0 0] 40
  have hf := froz_new2 X #[.int .i64 0, .string ⟨#[]⟩, .slice none 0 0] 40
  rw [e1] at hr hf
  exact ⟨hB, hn, hr 0 _ rfl, hr 1 _ rfl, hr 2 _ rfl, hf⟩
theorem VBox.later {w W W' : World} {S : Int} {v1 v2 v3 : Value} (k : VBox w W S v1 v2 v3) (hb : Below W.heap.size W W') : VBox w W' S v1 v2 v3 :=
  ⟨k.below.trans (hb.mono k.below.size), k.n.later hb, cell_later hb k.r0, cell_later hb k.r1, cell_later hb k.r2, fun i => (hb.frozen (p := ⟨w.heap.size + 1, i, none⟩) (show (⟨w.heap.size + 1, 0, none⟩ : Addr).block < W.heap.size from World.block_lt_of_cell? W ⟨w.heap.size + 1, 0, none⟩ k.r0)).trans (k.f i)⟩
/-- No fate. -/
theorem own_none (W : World) (B : Nat) : W.ownsRow B 83 3 (.slice none 0 0) (zeF.2.2).length (cellsG hopE zeF.2.2) := World.ownsRow_nil _ _ _ _

set_option maxHeartbeats 4000000 in
set_option maxRecDepth 100000 in
theorem send_any (S : Int) (ao : Option Addr) (n cap : Nat) (ao2 : Option Addr) (n2 cap2 : Nat) (ao3 : Option Addr) (n3 cap3 : Nat) (Ls : List ((Int × Int) × (Int × Int))) (Hs : List (ByteArray × (Int × Int))) (Ts : List (List Ru)) (m : ByteArray) (h : Int) (w : World)
    (hL : GS lnkE w (.slice ao n cap) Ls) (hH : GS hstE w (.slice ao2 n2 cap2) Hs) (hT : TS w (.slice ao3 n3 cap3) Ts) :
    Calls Tryd.prog 19 #[.agg #[.int .i64 S, .slice ao n cap, .slice ao2 n2 cap2, .slice ao3 n3 cap3], .string m, .int .i64 h] w fun e w' => ∃ ao4 n4 cap4, e = .returned (.tuple #[.agg #[.int .i64 (seV S Ls Hs Ts m h).1, .string (seV S Ls Hs Ts m h).2.1, .slice ao4 n4 cap4], noV (seN S Ls Hs Ts m h)]) ∧ w'.ownsRow w.heap.size 83 3 (.slice ao4 n4 cap4) (seV S Ls Hs Ts m h).2.2.length (cellsG hopE (seV S Ls Hs Ts m h).2.2) ∧ Below w.heap.size w w' := by
  obtain ⟨R, hR⟩ : ∃ R, R = seN S Ls Hs Ts m h := ⟨_, rfl⟩
  obtain ⟨V, hV⟩ : ∃ V, V = seV S Ls Hs Ts m h := ⟨_, rfl⟩
  have HR : Hid (R = seN S Ls Hs Ts m h) := hR
  have HV : Hid (V = seV S Ls Hs Ts m h) := hV
  rw [← hR, ← hV]
  have HLW : Hid (∀ W, Below w.heap.size w W → GS lnkE W (.slice ao n cap) Ls) := fun W hb => hL.later hb
  have HHW : Hid (∀ W, Below w.heap.size w W → GS hstE W (.slice ao2 n2 cap2) Hs) := fun W hb => hH.later hb
  have HTW : Hid (∀ W, Below w.heap.size w W → TS W (.slice ao3 n3 cap3) Ts) := fun W hb => hT.later hb
  have hX := vbox_new w S (.slice ao n cap) (.slice ao2 n2 cap2) (.slice ao3 n3 cap3)
  obtain ⟨w0, hw0⟩ : ∃ W, (w.alloc (Obj.cells #[.int .i64 S, .slice ao n cap, .slice ao2 n2 cap2, .slice ao3 n3 cap3] 28)).alloc (Obj.cells #[.int .i64 0, .string ⟨#[]⟩, .slice none 0 0] 40) = W := ⟨_, rfl⟩
  rw [hw0] at hX
  have HX : Hid (VBox w w0 S (.slice ao n cap) (.slice ao2 n2 cap2) (.slice ao3 n3 cap3)) := hX
  have HW0 : Hid ((w.alloc (Obj.cells #[.int .i64 S, .slice ao n cap, .slice ao2 n2 cap2, .slice ao3 n3 cap3] 28)).alloc (Obj.cells #[.int .i64 0, .string ⟨#[]⟩, .slice none 0 0] 40) = w0) := hw0
  clear hL hH hT hR hV hX hw0
  go_enter Tryd.func19, Tryd.ntmps19
  go_upto_region 1 with fail
  rw [HW0.out]
  obtain ⟨_, ⟨b0, b1, b2, b3⟩, r0, r1, r2, f⟩ := HX.out
  clear HW0 f r0 r1 r2
  go_wp2_with fail
  refine (ncheck_any S ao n cap ao2 n2 cap2 ao3 n3 cap3 Ls Hs Ts _ (HLW.out _ HX.out.below) (HHW.out _ HX.out.below) (HTW.out _ HX.out.below)).mono ?_
  rintro e w1 ⟨rfl, hb1⟩
  obtain ⟨T, hT⟩ : ∃ T, T = ntN S Ls Hs Ts := ⟨_, rfl⟩
  have HT : Hid (T = ntN S Ls Hs Ts) := hT
  rw [← hT]
  have HX1 : Hid (VBox w w1 S (.slice ao n cap) (.slice ao2 n2 cap2) (.slice ao3 n3 cap3)) := HX.out.later hb1
  obtain ⟨hB1, ⟨b0, b1, b2, b3⟩, r0, r1, r2, f⟩ := HX1.out
  have HB1 : Hid (Below w.heap.size w w1) := hB1
  have f0 := f 0
  have f1 := f 1
  have f2 := f 2
  clear hT hb1 HX f hB1
  by_cases h0 : T = 0
  · have HN0 : Hid (ntN S Ls Hs Ts = 0) := HT.out.symm.trans h0
    subst h0
    rw [no_ok rfl]
    clear r0 r1 r2 f0 f1 f2
    go_wp2_with fail
    refine (where_any S ao n cap ao2 n2 cap2 Ls Hs m _ (HLW.out _ HX1.out.below) (HHW.out _ HX1.out.below)).mono ?_
    rintro e w2 ⟨rfl, hb2⟩
    obtain ⟨WN, hWN⟩ : ∃ q, q = weN S Ls Hs m := ⟨_, rfl⟩
    obtain ⟨X1, hX1⟩ : ∃ q, q = (weV S Ls Hs m).1 := ⟨_, rfl⟩
    obtain ⟨X2, hX2⟩ : ∃ q, q = (weV S Ls Hs m).2 := ⟨_, rfl⟩
    have HWN : Hid (WN = weN S Ls Hs m) := hWN
    have HXV : Hid (weV S Ls Hs m = (X1, X2)) := by
      show _ = _
      rw [hX1, hX2]
    rw [← hWN, ← hX1, ← hX2]
    have hal : Below w2.heap.size w2 (w2.alloc (Obj.cells #[.int .i64 X1, .int .i64 X2] 30)) := (Below.refl _ _).alloc (Nat.le_refl _) _
    have hXa := (HX1.out.later hb2).later hal
    have hva := vat_new w2 [.int .i64 X1, .int .i64 X2] 30
    obtain ⟨w3, hw3⟩ : ∃ W, w2.alloc (Obj.cells #[.int .i64 X1, .int .i64 X2] 30) = W := ⟨_, rfl⟩
    obtain ⟨g3, hg3⟩ : ∃ g, w2.heap.size = g := ⟨_, rfl⟩
    have hva2 : VAt w3 g3 0 [.int .i64 X1, .int .i64 X2] := by
      rw [← hw3, ← hg3]
      exact hva
    rw [hw3] at hXa
    have HX3 : Hid (VBox w w3 S (.slice ao n cap) (.slice ao2 n2 cap2) (.slice ao3 n3 cap3)) := hXa
    have HW3 : Hid (w2.alloc (Obj.cells #[.int .i64 X1, .int .i64 X2] 30) = w3) := hw3
    have HG3 : Hid (w2.heap.size = g3) := hg3
    have s0 : w3.cell? ⟨g3, 0, none⟩ = some (.int .i64 X1) := hva2 0 _ rfl
    have s1 : w3.cell? ⟨g3, 1, none⟩ = some (.int .i64 X2) := hva2 1 _ rfl
    obtain ⟨hB3, ⟨b0, b1, b2, b3⟩, r0, r1, r2, f⟩ := HX3.out
    have HB3 : Hid (Below w.heap.size w w3) := hB3
    have f0 := f 0
    have f1 := f 1
    have f2 := f 2
    clear hWN hX1 hX2 hb2 hal hXa hva hva2 hw3 hg3 hB3 f HX1 HB1
    go_upto_region 5 with fail
    rw [HW3.out, HG3.out]
    clear HW3 HG3
    by_cases h5 : WN = 0
    · have HW0 : Hid (weN S Ls Hs m = 0) := HWN.out.symm.trans h5
      subst h5
      rw [no_ok rfl]
      cases hh : hdrB h
      · have HR1 : Hid (R = 1) := by
          show _ = _
          rw [HR.out, seN, if_pos HN0.out, if_pos HW0.out, hh]
          rfl
        have HV1 : Hid (V = zeF) := by
          show _ = _
          rw [HV.out, seV, ← HR.out, HR1.out]
          rfl
        go_wp2_with fail
        refine (isHeader_any h _).mono ?_
        rintro e w4 ⟨rfl, hw4⟩
        subst hw4
        rw [hh]
        go_wp2
        refine bodyPost_ret (v := .tuple #[.agg #[.int .i64 0, .string ⟨#[]⟩, .slice none 0 0], .iface 75 (.int .i64 1)]) (by simp [results, Tryd.results19, go_sem, *]) rfl ⟨_, _, _, by rw [HR1.out, HV1.out]; rfl, by rw [HV1.out]; exact own_none _ _, below_put3 HB3.out _ (by omega) _ _ _⟩
      · have HR0 : Hid (R = 0) := by
          show _ = _
          rw [HR.out, seN, if_pos HN0.out, if_pos HW0.out, hh]
          rfl
        have HV0 : Hid (V = frF Ls Hs Ts (X1, X2) h) := by
          show _ = _
          rw [HV.out, seV, ← HR.out, HR0.out, if_pos rfl, HXV.out]
        have HSP : Hid (spB S (X1, X2) = true) := by
          show _ = _
          have ht := (nt_0 HN0.out).1
          have hw := HW0.out
          rw [weN, if_pos ht] at hw
          have hv := HXV.out
          rw [weV, HW0.out, if_pos rfl] at hv
          cases hp : whereO Hs m with
          | none => rw [hp] at hw; simp at hw
          | some p =>
            rw [hp, Option.getD_some] at hv
            rw [← hv]
            exact where_sp ht hp
        clear r0 r1 r2 f0 f1 f2
        go_wp2_with fail
        refine (isHeader_any h _).mono ?_
        rintro e w4 ⟨rfl, hw4⟩
        subst hw4
        rw [hh]
        go_wp2_with fail
        refine (follow_any S ao n cap ao2 n2 cap2 ao3 n3 cap3 Ls Hs Ts X1 X2 h _ (HLW.out _ HB3.out) (HHW.out _ HB3.out) (HTW.out _ HB3.out) HN0.out HSP.out).mono ?_
        rintro e w5 ⟨ao4, n4, cap4, rfl, hown, hb5⟩
        rw [← HV0.out] at hown
        rw [← HV0.out]
        have hsz : w.heap.size + 1 < w4.heap.size := World.block_lt_of_cell? _ _ HX3.out.r0
        have HOW : Hid (∀ u v x, (put3 w5 (w.heap.size + 1) u v x).ownsRow w.heap.size 83 3 (.slice ao4 n4 cap4) V.2.2.length (cellsG hopE V.2.2)) := fun u v x => own_mono (own_put3 hown _ hsz u v x) (by omega)
        have HX5 : Hid (VBox w w5 S (.slice ao n cap) (.slice ao2 n2 cap2) (.slice ao3 n3 cap3)) := HX3.out.later hb5
        obtain ⟨hB5, ⟨b0, b1, b2, b3⟩, r0, r1, r2, f⟩ := HX5.out
        have HB5 : Hid (Below w.heap.size w w5) := hB5
        have f0 := f 0
        have f1 := f 1
        have f2 := f 2
        obtain ⟨V1, hV1⟩ : ∃ q, q = V.1 := ⟨_, rfl⟩
        obtain ⟨V2, hV2⟩ : ∃ q, q = V.2.1 := ⟨_, rfl⟩
        have HVV : Hid (V.1 = V1 ∧ V.2.1 = V2) := ⟨hV1.symm, hV2.symm⟩
        rw [← hV1, ← hV2]
        clear hown hb5 hB5 f hV1 hV2
        go_wp2
        refine bodyPost_ret (v := .tuple #[.agg #[.int .i64 V1, .string V2, .slice ao4 n4 cap4], .nilIface]) (by simp [results, Tryd.results19, go_sem, *]) rfl ⟨ao4, n4, cap4, by rw [HR0.out, HVV.out.1, HVV.out.2]; rfl, HOW.out _ _ _, below_put3 HB5.out _ (by omega) _ _ _⟩
    · rw [no_ne h5]
      have HNE : Hid (WN ≠ 0) := h5
      have HR1 : Hid (R = WN) := by
        show _ = _
        rw [HR.out, seN, if_pos HN0.out, if_neg (by rw [← HWN.out]; exact h5), HWN.out]
      have HV1 : Hid (V = zeF) := by
        show _ = _
        rw [HV.out, seV, ← HR.out, HR1.out, if_neg h5]
      clear h5
      go_wp2
      refine bodyPost_ret (v := .tuple #[.agg #[.int .i64 0, .string ⟨#[]⟩, .slice none 0 0], .iface 75 (.int .i64 WN)]) (by simp [results, Tryd.results19, go_sem, *]) rfl ⟨_, _, _, by rw [HR1.out, HV1.out, no_ne HNE.out]; rfl, by rw [HV1.out]; exact own_none _ _, below_put3 HB3.out _ (by omega) _ _ _⟩
  · rw [no_ne h0]
    have HNE : Hid (T ≠ 0) := h0
    have HR1 : Hid (R = T) := by
      show _ = _
      rw [HR.out, seN, if_neg (by rw [← HT.out]; exact h0), HT.out]
    have HV1 : Hid (V = zeF) := by
      show _ = _
      rw [HV.out, seV, ← HR.out, HR1.out, if_neg h0]
    clear h0
    go_wp2
    refine bodyPost_ret (v := .tuple #[.agg #[.int .i64 0, .string ⟨#[]⟩, .slice none 0 0], .iface 75 (.int .i64 T)]) (by simp [results, Tryd.results19, go_sem, *]) rfl ⟨_, _, _, by rw [HR1.out, HV1.out, no_ne HNE.out]; rfl, by rw [HV1.out]; exact own_none _ _, below_put3 HB1.out _ (by omega) _ _ _⟩
end Go.Proofs.YtpmcjelihdlfeaaDoor
/- What errors.As, plain.Told and railsame.Error answer for no error and for an Errno: contracts for the walks above them. -/
namespace Go.Proofs.YtpmcjelihdlfeaaDoor
open Go.RowKit Go.Extern.Stop Go.Stop Go.Extern
set_option linter.unusedSimpArgs false

/-- What package errors' variable holds: the handle of the type error. -/
def HasErr (w : World) : Prop := w.cell? ⟨0, 0, none⟩ = some (.iface 158 (.agg #[.pointer (some ⟨1, 34, none⟩)]))
theorem HasErr.later {w w' : World} (h : HasErr w) (hb : Below w.heap.size w w') : HasErr w' := cell_later hb h
theorem HasErr.alloc {w : World} (h : HasErr w) (o : Obj) : HasErr (w.alloc o) := h.later ((Below.refl _ _).alloc (Nat.le_refl _) _)

theorem vOfP (t : Addr) (w : World) : (ReflectliteValue.unpack (.iface 109 (.pointer (some t)))).run Tryd.prog w
    = .ok (.agg #[.pointer (some ⟨1, 109, none⟩), .pointer (some ⟨w.heap.size, 0, none⟩), .int .u64 150]) (w.alloc (.cells #[.pointer (some t)] 109)) := by kernel_rfl
theorem typeP (a : Addr) (w : World) : (ReflectliteValue.methodAny (ReflectliteValue.valueError "reflectlite.Value.Type" 0) (fun t _ _ _ => ReflectliteType.toType t) #[.agg #[.pointer (some ⟨1, 109, none⟩), .pointer (some a), .int .u64 150]]).run Tryd.prog w
    = .ok (.iface 158 (.agg #[.pointer (some ⟨1, 109, none⟩)])) w := by kernel_rfl
theorem methKind (h : Value) (w : World) : (Go.method 311 158 (.agg #[h]) "Kind").run Tryd.prog w = .ok (117, h) w := by kernel_rfl
theorem kindP (w : World) : ((ReflectliteType.abiMethod fun t => Functor.map (fun a : Nat => Value.int IntKind.u8 (a : Int)) (Rtype.kind t)) #[.pointer (some ⟨1, 109, none⟩)]).run Tryd.prog w = .ok (.int .u8 22) w := by kernel_rfl
theorem kindE (w : World) : ((ReflectliteType.abiMethod fun t => Functor.map (fun a : Nat => Value.int IntKind.u8 (a : Int)) (Rtype.kind t)) #[.pointer (some ⟨1, 75, none⟩)]).run Tryd.prog w = .ok (.int .u8 2) w := by kernel_rfl
theorem partsP (a : Addr) (w : World) : (ReflectliteValue.parts (.agg #[.pointer (some ⟨1, 109, none⟩), .pointer (some a), .int .u64 150])).run Tryd.prog w = .ok (some (109, a, 150)) w := by kernel_rfl
theorem isNilP (a p : Addr) (W : World) (ha : W.cell? a = some (.pointer (some p))) :
    (ReflectliteValue.method (ReflectliteValue.valueError "reflectlite.Value.IsNil" 0) ReflectliteValue.isNil #[.agg #[.pointer (some ⟨1, 109, none⟩), .pointer (some a), .int .u64 150]]).run Tryd.prog W = .ok (.bool false) W := by
  change Sem.run _ (ReflectliteValue.parts (.agg #[.pointer (some ⟨1, 109, none⟩), .pointer (some a), .int .u64 150]) >>= _) _ = _
  rw [Sem.run_bind, partsP]
  simp only [Result.andThen]
  simp [ReflectliteValue.isNil, loadVar, isAgg, underlying, Tryd.underlying109, ha, Result.andThen]
theorem methElem (h : Value) (w : World) : (Go.method 311 158 (.agg #[h]) "Elem").run Tryd.prog w = .ok (127, .agg #[h]) w := by kernel_rfl
theorem methImpl (h : Value) (w : World) : (Go.method 311 158 (.agg #[h]) "Implements").run Tryd.prog w = .ok (128, .agg #[h]) w := by kernel_rfl
theorem methAssign (h : Value) (w : World) : (Go.method 311 158 (.agg #[h]) "AssignableTo").run Tryd.prog w = .ok (125, .agg #[h]) w := by kernel_rfl
theorem elemP (w : World) : (ReflectliteType.method ReflectliteType.elem #[.agg #[.pointer (some ⟨1, 109, none⟩)]]).run Tryd.prog w = .ok (.iface 158 (.agg #[.pointer (some ⟨1, 75, none⟩)])) w := by kernel_rfl
theorem implE (w : World) : (ReflectliteType.relation "Implements" ReflectliteType.implements_ #[.agg #[.pointer (some ⟨1, 75, none⟩)], .iface 158 (.agg #[.pointer (some ⟨1, 34, none⟩)])]).run Tryd.prog w = .ok (.bool true) w := by kernel_rfl
theorem typeOfE (v : Value) (w : World) : (ReflectliteType.typeOf #[.iface 75 v]).run Tryd.prog w = .ok (.iface 158 (.agg #[.pointer (some ⟨1, 75, none⟩)])) w := by kernel_rfl
theorem assignE (w : World) : (ReflectliteType.relation "AssignableTo" ReflectliteType.assignableTo #[.agg #[.pointer (some ⟨1, 75, none⟩)], .iface 158 (.agg #[.pointer (some ⟨1, 75, none⟩)])]).run Tryd.prog w = .ok (.bool true) w := by kernel_rfl
theorem vOfE (n : Int) (w : World) : (ReflectliteValue.unpack (.iface 75 (.int .i64 n))).run Tryd.prog w
    = .ok (.agg #[.pointer (some ⟨1, 75, none⟩), .pointer (some ⟨w.heap.size, 0, none⟩), .int .u64 130]) (w.alloc (.cells #[.int .i64 n] 75)) := by kernel_rfl
theorem elemOfP (w : World) : (Rtype.elem? 109).run Tryd.prog w = .ok (some 75) w := by kernel_rfl
theorem mkE (p : Addr) (w : World) : (ReflectliteValue.mk 75 p ReflectliteValue.flagAddr).run Tryd.prog w = .ok (.agg #[.pointer (some ⟨1, 75, none⟩), .pointer (some p), .int .u64 386]) w := by kernel_rfl
theorem elemVP (a p : Addr) (W : World) (ha : W.cell? a = some (.pointer (some p))) :
    (ReflectliteValue.method (ReflectliteValue.valueError "reflectlite.Value.Elem" 0) ReflectliteValue.elem #[.agg #[.pointer (some ⟨1, 109, none⟩), .pointer (some a), .int .u64 150]]).run Tryd.prog W
      = .ok (.agg #[.pointer (some ⟨1, 75, none⟩), .pointer (some p), .int .u64 386]) W := by
  change Sem.run _ (ReflectliteValue.parts (.agg #[.pointer (some ⟨1, 109, none⟩), .pointer (some a), .int .u64 150]) >>= _) _ = _
  rw [Sem.run_bind, partsP]
  simp only [Result.andThen]
  simp [ReflectliteValue.elem, loadVar, isAgg, underlying, Tryd.underlying109, ha, Result.andThen, elemOfP, mkE]
theorem partsEa (a : Addr) (w : World) : (ReflectliteValue.parts (.agg #[.pointer (some ⟨1, 75, none⟩), .pointer (some a), .int .u64 386])).run Tryd.prog w = .ok (some (75, a, 386)) w := by kernel_rfl
theorem partsE (a : Addr) (w : World) : (ReflectliteValue.parts (.agg #[.pointer (some ⟨1, 75, none⟩), .pointer (some a), .int .u64 130])).run Tryd.prog w = .ok (some (75, a, 130)) w := by kernel_rfl
theorem directE (w : World) : (Rtype.directlyAssignable 75 75).run Tryd.prog w = .ok true w := by kernel_rfl
/-- Set: the Errno variable at 'ta' gets what the Value's own variable 'b' holds. -/
theorem setE (ta b : Addr) (n : Int) (old : Value) (W : World) (hb : W.cell? b = some (.int .i64 n)) (ht : W.cell? ta = some old) (hf : W.frozen? ta = false) :
    (ReflectliteValue.set #[.agg #[.pointer (some ⟨1, 75, none⟩), .pointer (some ta), .int .u64 386], .agg #[.pointer (some ⟨1, 75, none⟩), .pointer (some b), .int .u64 130]]).run Tryd.prog W
      = .ok (.tuple #[]) (W.setCell ta (.int .i64 n)) := by
  change Sem.run _ (ReflectliteValue.parts (.agg #[.pointer (some ⟨1, 75, none⟩), .pointer (some ta), .int .u64 386]) >>= _) _ = _
  rw [Sem.run_bind, partsEa]
  simp only [Result.andThen]
  change Sem.run _ (ReflectliteValue.parts (.agg #[.pointer (some ⟨1, 75, none⟩), .pointer (some b), .int .u64 130]) >>= _) _ = _
  rw [Sem.run_bind, partsE]
  simp only [Result.andThen]
  simp [ReflectliteValue.flagAddr, loadVar, isAgg, underlying, Tryd.underlying75, hb, Result.andThen, directE, storeVar, Value.cells, storeCells, Addr.add]
  rw [run_store Tryd.prog W ta _ _ (by rfl)]
  simp [ht, hf]
end Go.Proofs.YtpmcjelihdlfeaaDoor
/- What errors.As, plain.Told and railsame.Error answer for no error and for an Errno: the walks. -/
namespace Go.Proofs.YtpmcjelihdlfeaaDoor
open Go.RowKit Go.Extern.Stop Go.Stop Go.Extern
set_option linter.unusedSimpArgs false

set_option maxHeartbeats 4000000 in
theorem as_hit (n : Int) (t : Addr) (old : Value) (w : World) (hg : HasErr w) (ht0 : w.cell? t = some old) (hf0 : w.frozen? t = false) :
    Calls Tryd.prog 48 #[.iface 75 (.int .i64 n), .iface 109 (.pointer (some t))] w fun ev w' => ev = .returned (.bool true) ∧ w' = ((((w.alloc (.cells #[.pointer (some t)] 109)).alloc (.cells #[.pointer (some ⟨1, 109, none⟩), .pointer (some ⟨w.heap.size, 0, none⟩), .int .u64 150] 140)).alloc (.cells #[.pointer (some ⟨1, 109, none⟩), .pointer (some ⟨w.heap.size, 0, none⟩), .int .u64 150] 140)).alloc (.cells #[.int .i64 n] 75)).setCell t (.int .i64 n) := by
  unfold HasErr at hg
  have h6 := @run_callFunc_extern Tryd.prog 71 _ (fun args => ReflectliteValue.unpack (args.getD 0 (.tuple #[]))) Tryd.func71 (by kernel_rfl) (by kernel_rfl) (by kernel_rfl) (by kernel_rfl)
  have h7 := @run_callFunc_extern Tryd.prog 72 _ (ReflectliteValue.methodAny (ReflectliteValue.valueError "reflectlite.Value.Type" 0) (fun t _ _ _ => ReflectliteType.toType t)) Tryd.func72 (by kernel_rfl) (by kernel_rfl) (by kernel_rfl) (by kernel_rfl)
  have h8 := @run_callFunc_extern Tryd.prog 73 _ (ReflectliteValue.method (ReflectliteValue.valueError "reflectlite.Value.IsNil" 0) ReflectliteValue.isNil) Tryd.func73 (by kernel_rfl) (by kernel_rfl) (by kernel_rfl) (by kernel_rfl)
  have h27 := @run_callFunc_extern Tryd.prog 117 _ (ReflectliteType.abiMethod fun t => do pure (.int .u8 (← Rtype.kind t))) Tryd.func117 (by kernel_rfl) (by kernel_rfl) (by kernel_rfl) (by kernel_rfl)
  have h37 := @run_callFunc_extern Tryd.prog 127 _ (ReflectliteType.method ReflectliteType.elem) Tryd.func127 (by kernel_rfl) (by kernel_rfl) (by kernel_rfl) (by kernel_rfl)
  have h38 := @run_callFunc_extern Tryd.prog 128 _ (ReflectliteType.relation "Implements" ReflectliteType.implements_) Tryd.func128 (by kernel_rfl) (by kernel_rfl) (by kernel_rfl) (by kernel_rfl)
  have h10 := @run_callFunc_extern Tryd.prog 90 _ ReflectliteType.typeOf Tryd.func90 (by kernel_rfl) (by kernel_rfl) (by kernel_rfl) (by kernel_rfl)
  have h35 := @run_callFunc_extern Tryd.prog 125 _ (ReflectliteType.relation "AssignableTo" ReflectliteType.assignableTo) Tryd.func125 (by kernel_rfl) (by kernel_rfl) (by kernel_rfl) (by kernel_rfl)
  have h11 := @run_callFunc_extern Tryd.prog 91 _ (ReflectliteValue.method (ReflectliteValue.valueError "reflectlite.Value.Elem" 0) ReflectliteValue.elem) Tryd.func91 (by kernel_rfl) (by kernel_rfl) (by kernel_rfl) (by kernel_rfl)
  have h12 := @run_callFunc_extern Tryd.prog 92 _ ReflectliteValue.set Tryd.func92 (by kernel_rfl) (by kernel_rfl) (by kernel_rfl) (by kernel_rfl)
  have tO := typeOfE
  have mA := methAssign
  have a25 := assignE
  have v25 := vOfE
  have f6 := vOfP
  have f7 := typeP
  have mK := methKind
  have mE := methElem
  have mI := methImpl
  have k27 := kindP
  have k25 := kindE
  have e27 := elemP
  have i25 := implE
  have hlt : 0 < w.heap.size := World.block_lt_of_cell? _ _ hg
  have htl : t.block < w.heap.size := World.block_lt_of_cell? _ _ ht0
  have n8 := isNilP ⟨w.heap.size, 0, none⟩ t ((w.alloc (.cells #[.pointer (some t)] 109)).alloc (.cells #[.pointer (some ⟨1, 109, none⟩), .pointer (some ⟨w.heap.size, 0, none⟩), .int .u64 150] 140)) (by simp)
  have hg2 : ((w.alloc (.cells #[.pointer (some t)] 109)).alloc (.cells #[.pointer (some ⟨1, 109, none⟩), .pointer (some ⟨w.heap.size, 0, none⟩), .int .u64 150] 140)).cell? ⟨0, 0, none⟩ = some (.iface 158 (.agg #[.pointer (some ⟨1, 34, none⟩)])) := by
    rw [World.cell?_alloc_lt _ _ ⟨0, 0, none⟩ (by simp <;> omega), World.cell?_alloc_lt _ _ ⟨0, 0, none⟩ hlt]; exact hg
  have el := elemVP ⟨w.heap.size, 0, none⟩ t (((w.alloc (.cells #[.pointer (some t)] 109)).alloc (.cells #[.pointer (some ⟨1, 109, none⟩), .pointer (some ⟨w.heap.size, 0, none⟩), .int .u64 150] 140)).alloc (.cells #[.pointer (some ⟨1, 109, none⟩), .pointer (some ⟨w.heap.size, 0, none⟩), .int .u64 150] 140)) (by rw [World.cell?_alloc_lt _ _ ⟨w.heap.size, 0, none⟩ (by simp; omega)]; simp)
  have st := setE t ⟨w.heap.size + 1 + 1 + 1, 0, none⟩ n old ((((w.alloc (.cells #[.pointer (some t)] 109)).alloc (.cells #[.pointer (some ⟨1, 109, none⟩), .pointer (some ⟨w.heap.size, 0, none⟩), .int .u64 150] 140)).alloc (.cells #[.pointer (some ⟨1, 109, none⟩), .pointer (some ⟨w.heap.size, 0, none⟩), .int .u64 150] 140)).alloc (.cells #[.int .i64 n] 75))
    (by rw [World.cell?_alloc_at _ _ _ _ (by simp)]; rfl)
    (by rw [World.cell?_alloc_lt _ _ t (by simp; omega), World.cell?_alloc_lt _ _ t (by simp; omega), World.cell?_alloc_lt _ _ t (by simp; omega), World.cell?_alloc_lt _ _ t htl]; exact ht0)
    (by rw [World.frozen?_alloc_old _ _ t (by simp; omega), World.frozen?_alloc_old _ _ t (by simp; omega), World.frozen?_alloc_old _ _ t (by simp; omega), World.frozen?_alloc_old _ _ t (Nat.ne_of_lt htl)]; exact hf0)
  go_enter Tryd.func48, Tryd.ntmps48
  go_wp2
  refine wp_loop_rounds 1 ?_
  rw [rounds_succ]
  go_wp2
  go_ret
  exact ⟨rfl, rfl⟩

set_option maxHeartbeats 1000000 in
theorem told_nil (w : World) :
    Calls Tryd.prog 26 #[.nilIface] w fun e w' => e = .returned (.int .i64 0) ∧ Below w.heap.size w w' := by
  go_enter Tryd.func26, Tryd.ntmps26
  go_wp2
  go_ret
  exact ⟨rfl, Below.refl _ _⟩

set_option maxHeartbeats 1000000 in
theorem told_some (n : Int) (w : World) (hg : HasErr w) :
    Calls Tryd.prog 26 #[.iface 75 (.int .i64 n)] w fun e w' => e = .returned (.int .i64 n) ∧ Below w.heap.size w w' := by
  have HG : Hid (HasErr w) := hg
  clear hg
  go_enter Tryd.func26, Tryd.ntmps26
  go_wp2_with fail
  refine (as_hit n _ (.int .i64 0) _ (HG.out.alloc _) (by simp) (by simp)).mono ?_
  rintro e w' ⟨rfl, rfl⟩
  go_wp2
  go_ret
  refine ⟨rfl, ?_⟩
  exact ((((((Below.refl _ _).alloc (Nat.le_refl _) _).alloc (by simp) _).alloc (by simp; omega) _).alloc (by simp; omega) _).alloc (by simp; omega) _)

set_option maxHeartbeats 1000000 in
theorem same_nil (k : Int) (w : World) :
    Calls Tryd.prog 8 #[.nilIface, .int .i64 k] w fun e w' => e = .returned (.bool (0 == k)) ∧ Below w.heap.size w w' := by
  go_enter Tryd.func8, Tryd.ntmps8
  go_wp2_with fail
  refine (told_nil _).mono ?_
  rintro e w' ⟨rfl, hb⟩
  go_wp2
  go_ret
  exact ⟨rfl, hb⟩

set_option maxHeartbeats 1000000 in
theorem same_some (n k : Int) (w : World) (hg : HasErr w) :
    Calls Tryd.prog 8 #[.iface 75 (.int .i64 n), .int .i64 k] w fun e w' => e = .returned (.bool (n == k)) ∧ Below w.heap.size w w' := by
  have HG : Hid (HasErr w) := hg
  clear hg
  go_enter Tryd.func8, Tryd.ntmps8
  go_wp2_with fail
  refine (told_some n _ HG.out).mono ?_
  rintro e w' ⟨rfl, hb⟩
  go_wp2
  go_ret
  exact ⟨rfl, hb⟩
end Go.Proofs.YtpmcjelihdlfeaaDoor
/- What railsame.Error answers at the error of a number and any number. -/
namespace Go.Proofs.YtpmcjelihdlfeaaDoor
open Go.RowKit

theorem same_any (n k : Int) (w : World) (hg : HasErr w) :
    Calls Tryd.prog 8 #[noV n, .int .i64 k] w fun e w' => e = .returned (.bool (n == k)) ∧ Below w.heap.size w w' := by
  by_cases h : n = 0
  · subst h
    exact same_nil _ w
  · rw [no_ne h]
    exact same_some _ _ w hg
end Go.Proofs.YtpmcjelihdlfeaaDoor
