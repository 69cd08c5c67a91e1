/- Contracts and facts on the way to NetTells, joined into one text: RefFrom, RefFate, RefName, RefTopo. -/
import Derived.Test.YtfbocionnjlilacDoorNetTellsP6
import Derived.Test.YtfbocionnjlilacDoorNetTellsP4
import Derived.Test.YtfbocionnjlilacDoorNetTellsP1
import Derived.Test.YtfbocionnjlilacDoorNetTellsP3
import Derived.Test.YtfbocionnjlilacDoorNetTellsP2
import Derived.Deep.QuietTactic
import Derived.BigQuiet
import Derived.Deep.CutRange
import Derived.Deep.CutBlock
import Derived.Lib.Strings
import Derived.Test.YtfbocionnjlilacDoorRows
import Derived.WalkKit
import Derived.WalkSpells
import Derived.Below
/- What railref1.From answers at a packet that is right: a contract for the walks above it. -/
namespace Go.Proofs.YtfbocionnjlilacDoor
open Go.RowKit
set_option linter.unusedSimpArgs false
set_option linter.unusedVariables false

/-- One round: it has ended so, or it goes on. -/
theorem gn_end {Ls : List ((Int × Int) × (Int × Int))} {Hs : List (ByteArray × (Int × Int))} {Ts : List (List Ru)} {l : List ((Int × Int) × Int)} (h : l.length ≤ 24) (hg : (gnF Ls Hs (taT Ts (laH l).1.1) l).2 = false) :
    foF Ls Hs Ts (25 - l.length) l = (gnF Ls Hs (taT Ts (laH l).1.1) l).1 ∧ (gnF Ls Hs (taT Ts (laH l).1.1) l).1.2.2 = l := by
  rw [fo_r h]
  have e : enE Ls Hs Ts l (laH l) = goE Ls Hs (taT Ts (laH l).1.1) l (laH l) := rfl
  rw [e]
  unfold gnF at hg ⊢
  cases hE : goE Ls Hs (taT Ts (laH l).1.1) l (laH l) with
  | inl p => exact ⟨rfl, rfl⟩
  | inr q => rw [hE] at hg; cases hg
theorem gn_on {S : Int} {Ls : List ((Int × Int) × (Int × Int))} {Hs : List (ByteArray × (Int × Int))} {Ts : List (List Ru)} {l : List ((Int × Int) × Int)} (ht : tpN S Ls Hs = 0) (h : l.length ≤ 24) (hg : (gnF Ls Hs (taT Ts (laH l).1.1) l).2 = true) :
    ∃ q, (gnF Ls Hs (taT Ts (laH l).1.1) l).1 = (0, ByteArray.empty, l ++ [q]) ∧ foF Ls Hs Ts (25 - l.length) l = foF Ls Hs Ts (25 - (l ++ [q]).length) (l ++ [q]) ∧ (l ++ [q]).length ≤ 24 ∧ spB S q.1 = true ∧ hdrB q.2 = true := by
  rw [fo_r h]
  unfold gnF at hg ⊢
  cases hE : goE Ls Hs (taT Ts (laH l).1.1) l (laH l) with
  | inl p => rw [hE] at hg; cases hg
  | inr q =>
    have e : enE Ls Hs Ts l (laH l) = .inr q := hE
    obtain ⟨h1, h2, _⟩ := en_r e
    obtain ⟨h3, h4⟩ := nx_good ht h1
    refine ⟨q, rfl, ?_, ?_, h3, h4⟩
    · rw [e]
      simp only [List.length_append, List.length_cons, List.length_nil]
      rw [show 24 - l.length = 25 - (l.length + (0 + 1)) by omega]
    · simp only [List.length_append, List.length_cons, List.length_nil]
      omega
/-- The boxes: a net, the answer's, a fate. -/
structure RB (w W : World) (gr gf : Nat) (S : Int) (v1 v2 v3 : Value) (F0 : Int) (F1 : ByteArray) (u : Value) : Prop where
  below : Below w.heap.size w W
  l1 : w.heap.size < gr
  l2 : gr < gf
  n : NeBox W w.heap.size S v1 v2 v3
  r0 : W.cell? ⟨gr, 0, none⟩ = some (.int .i64 0)
  r1 : W.cell? ⟨gr, 1, none⟩ = some (.string ⟨#[]⟩)
  r2 : W.cell? ⟨gr, 2, none⟩ = some (.slice none 0 0)
  rf : ∀ i, W.frozen? ⟨gr, i, none⟩ = false
  f0 : W.cell? ⟨gf, 0, none⟩ = some (.int .i64 F0)
  f1 : W.cell? ⟨gf, 1, none⟩ = some (.string F1)
  f2 : W.cell? ⟨gf, 2, none⟩ = some u
  ff : ∀ i, W.frozen? ⟨gf, i, none⟩ = false
section
variable {w W W' : World} {gr gf : Nat} {S : Int} {v1 v2 v3 : Value} {F0 : Int} {F1 : ByteArray} {u : Value}
theorem RB.lt (k : RB w W gr gf S v1 v2 v3 F0 F1 u) : gf < W.heap.size := World.block_lt_of_cell? W ⟨gf, 0, none⟩ k.f0
theorem RB.later (k : RB w W gr gf S v1 v2 v3 F0 F1 u) (hb : Below W.heap.size W W') : RB w W' gr gf S v1 v2 v3 F0 F1 u :=
  have hl := k.lt
  have h1 := k.l1
  have h2 := k.l2
  ⟨k.below.trans (hb.mono (by omega)), h1, h2, k.n.later hb, cell_later hb k.r0, cell_later hb k.r1, cell_later hb k.r2, fun i => (hb.frozen (p := ⟨gr, i, none⟩) (show gr < W.heap.size by omega)).trans (k.rf i), cell_later hb k.f0, cell_later hb k.f1, cell_later hb k.f2, fun i => (hb.frozen (p := ⟨gf, i, none⟩) (show gf < W.heap.size by omega)).trans (k.ff i)⟩
/-- A fate is stored into its box. -/
theorem RB.put (k : RB w W gr gf S v1 v2 v3 F0 F1 u) (G0 : Int) (G1 : ByteArray) (x : Value) : RB w (put3 W gf (.int .i64 G0) (.string G1) x) gr gf S v1 v2 v3 G0 G1 x := by
  have h1 := k.l1
  have h2 := k.l2
  have hp := put3_cells (a := .int .i64 G0) (b := .string G1) (c := x) ⟨k.f0, k.f1, k.f2⟩
  have hne : ∀ (g i : Nat) (y : Value), g ≠ gf → W.cell? ⟨g, i, none⟩ = some y → (put3 W gf (.int .i64 G0) (.string G1) x).cell? ⟨g, i, none⟩ = some y := by
    intro g i y hg e
    have hb : ∀ (W : World) (j : Nat) (z : Value), (W.setCell ⟨gf, j, none⟩ z).cell? ⟨g, i, none⟩ = W.cell? ⟨g, i, none⟩ := fun W j z => World.cell?_of_block (Below.heap_setCell _ _ _ _ hg)
    unfold put3
    rw [hb, hb, hb]
    exact e
  have hfz : ∀ (g i : Nat), W.frozen? ⟨g, i, none⟩ = false → (put3 W gf (.int .i64 G0) (.string G1) x).frozen? ⟨g, i, none⟩ = false := by
    intro g i e
    unfold put3
    simp [e]
  obtain ⟨a0, a1, a2, a3⟩ := k.n
  exact ⟨below_put3 k.below _ (by omega) _ _ _, h1, h2, ⟨hne _ _ _ (by omega) a0, hne _ _ _ (by omega) a1, hne _ _ _ (by omega) a2, hne _ _ _ (by omega) a3⟩, hne _ _ _ (by omega) k.r0, hne _ _ _ (by omega) k.r1, hne _ _ _ (by omega) k.r2, fun i => hfz _ _ (k.rf i), hp.1, hp.2.1, hp.2.2, fun i => hfz _ _ (k.ff i)⟩
end
/-- Hops that lie elsewhere are as they were. -/
theorem gs_put3 {W : World} {b : Nat} {ao : Option Addr} {n cap : Nat} {l : List ((Int × Int) × Int)} (h : GS hopE W (.slice ao n cap) l) (hg : ∀ g o, ao = some ⟨g, o, none⟩ → g ≠ b) (u v x : Value) : GS hopE (put3 W b u v x) (.slice ao n cap) l := by
  rcases h with h | ⟨g, o, c, h1, h2, h3, h4⟩
  · exact .inl h
  · refine .inr ⟨g, o, c, h1, h2, h3, fun i hi j y hy => ?_⟩
    have e := h4 i hi j y hy
    have hne : g ≠ b := by
      simp only [Value.slice.injEq] at h1
      exact hg g o h1.1
    have hb : ∀ (W : World) (j2 : Nat) (z : Value), (W.setCell ⟨b, j2, none⟩ z).cell? ⟨g, o + i * hopE.n + j, none⟩ = W.cell? ⟨g, o + i * hopE.n + j, none⟩ := fun W j2 z => World.cell?_of_block (Below.heap_setCell _ _ _ _ hne)
    unfold put3
    rw [hb, hb, hb]
    exact e
/-- What is so ahead of each round. -/
def RI (S : Int) (Ls : List ((Int × Int) × (Int × Int))) (Hs : List (ByteArray × (Int × Int))) (Ts : List (List Ru)) (F : Int × ByteArray × List ((Int × Int) × Int)) (on : Bool) (F0 : Int) (F1 : ByteArray) (l : List ((Int × Int) × Int)) : Prop :=
  (on = true ∧ F0 = 0 ∧ F1 = ⟨#[]⟩ ∧ F = foF Ls Hs Ts (25 - l.length) l ∧ spB S (laH l).1 = true ∧ hdrB (laH l).2 = true) ∨ (on = false ∧ F = (F0, F1, l))
/-- How many rounds there may be still. -/
def rmE (b : Value) (c : Option Value) : Nat := match b, c with
  | .bool true, some (.slice _ n _) => 2 * (25 - n) + 1
  | .bool false, some (.slice _ n _) => 2 * (25 - n)
  | _, _ => 0
theorem rb_new (w : World) (S : Int) (v1 v2 v3 : Value) (x y h : Int) : RB w (((((w.alloc (Obj.cells #[.int .i64 S, v1, v2, v3] 58)).alloc (Obj.cells #[.int .i64 x, .int .i64 y] 27)).alloc (Obj.cells #[.int .i64 0, .string ⟨#[]⟩, .slice none 0 0] 64)).alloc (Obj.cells #[.int .i64 x, .int .i64 y, .int .i64 h] 109)).alloc (Obj.cells #[.int .i64 0, .string ⟨#[]⟩, .slice (some ⟨w.heap.size + 1 + 1 + 1, 0, none⟩) 1 1] 64)) (w.heap.size + 1 + 1) (w.heap.size + 1 + 1 + 1 + 1) S v1 v2 v3 0 ⟨#[]⟩ (.slice (some ⟨w.heap.size + 1 + 1 + 1, 0, none⟩) 1 1)
    ∧ GS hopE (((((w.alloc (Obj.cells #[.int .i64 S, v1, v2, v3] 58)).alloc (Obj.cells #[.int .i64 x, .int .i64 y] 27)).alloc (Obj.cells #[.int .i64 0, .string ⟨#[]⟩, .slice none 0 0] 64)).alloc (Obj.cells #[.int .i64 x, .int .i64 y, .int .i64 h] 109)).alloc (Obj.cells #[.int .i64 0, .string ⟨#[]⟩, .slice (some ⟨w.heap.size + 1 + 1 + 1, 0, none⟩) 1 1] 64)) (.slice (some ⟨w.heap.size + 1 + 1 + 1, 0, none⟩) 1 1) [((x, y), h)] := by
  have hb : ∀ (W : World) (o : Obj), Below W.heap.size W (W.alloc o) := fun W o => (Below.refl _ _).alloc (Nat.le_refl _) _
  have hn := nebox_new w S v1 v2 v3 58
  have e1 : (w.alloc (Obj.cells #[.int .i64 S, v1, v2, v3] 58)).heap.size = w.heap.size + 1 := by simp
  have b1 := hb w (Obj.cells #[.int .i64 S, v1, v2, v3] 58)
  generalize w.alloc (Obj.cells #[.int .i64 S, v1, v2, v3] 58) = A at hn e1 b1 ⊢
  have e2 : (A.alloc (Obj.cells #[.int .i64 x, .int .i64 y] 27)).heap.size = w.heap.size + 1 + 1 := by simp [e1]
  have b2 := hb A (Obj.cells #[.int .i64 x, .int .i64 y] 27)
  generalize A.alloc (Obj.cells #[.int .i64 x, .int .i64 y] 27) = C at e2 b2 ⊢
  have hr := vat_new C [.int .i64 0, .string ⟨#[]⟩, .slice none 0 0] 64
  have zr := froz_new2 C #[.int .i64 0, .string ⟨#[]⟩, .slice none 0 0] 64
  have e3 : (C.alloc (Obj.cells #[.int .i64 0, .string ⟨#[]⟩, .slice none 0 0] 64)).heap.size = w.heap.size + 1 + 1 + 1 := by simp [e2]
  have b3 := hb C (Obj.cells #[.int .i64 0, .string ⟨#[]⟩, .slice none 0 0] 64)
  rw [e2] at hr zr
  generalize C.alloc (Obj.cells #[.int .i64 0, .string ⟨#[]⟩, .slice none 0 0] 64) = D at hr zr e3 b3 ⊢
  have hh := gs_one (E := hopE) D ((x, y), h) 109 (vs := [.int .i64 x, .int .i64 y, .int .i64 h]) rfl
  have e4 : (D.alloc (Obj.cells #[.int .i64 x, .int .i64 y, .int .i64 h] 109)).heap.size = w.heap.size + 1 + 1 + 1 + 1 := by simp [e3]
  have b4 := hb D (Obj.cells #[.int .i64 x, .int .i64 y, .int .i64 h] 109)
  rw [e3] at hh
  generalize D.alloc (Obj.cells #[.int .i64 x, .int .i64 y, .int .i64 h] 109) = G at hh e4 b4 ⊢
  have hf := vat_new G [.int .i64 0, .string ⟨#[]⟩, .slice (some ⟨w.heap.size + 1 + 1 + 1, 0, none⟩) 1 1] 64
  have zf := froz_new2 G #[.int .i64 0, .string ⟨#[]⟩, .slice (some ⟨w.heap.size + 1 + 1 + 1, 0, none⟩) 1 1] 64
  have b5 := hb G (Obj.cells #[.int .i64 0, .string ⟨#[]⟩, .slice (some ⟨w.heap.size + 1 + 1 + 1, 0, none⟩) 1 1] 64)
  rw [e4] at hf zf
  have b45 := b4.trans (b5.mono (by omega))
  have hr' := hr.later b45
  refine ⟨⟨(b1.trans (b2.mono (by omega))).trans ((b3.mono (by omega)).trans (b45.mono (by omega))), by omega, by omega, ((hn.later b2).later b3).later b45, hr' 0 _ rfl, hr' 1 _ rfl, hr' 2 _ rfl, fun i => (b45.frozen (p := ⟨w.heap.size + 1 + 1, i, none⟩) (show w.heap.size + 1 + 1 < D.heap.size by omega)).trans (zr i), hf 0 _ rfl, hf 1 _ rfl, hf 2 _ rfl, zf⟩, hh.later b5⟩

set_option maxHeartbeats 8000000 in
set_option maxRecDepth 100000 in
theorem rfrom_any (S : Int) (ao : Option Addr) (n cap : Nat) (ao2 : Option Addr) (n2 cap2 : Nat) (ao3 : Option Addr) (n3 cap3 : Nat) (Ls : List ((Int × Int) × (Int × Int))) (Hs : List (ByteArray × (Int × Int))) (Ts : List (List Ru)) (x y h : Int) (w : World)
    (hL : GS lnkE w (.slice ao n cap) Ls) (hH : GS hstE w (.slice ao2 n2 cap2) Hs) (hT : TS w (.slice ao3 n3 cap3) Ts) (hcp : cpN S Ls Hs Ts (x, y) h = 0) :
    Calls Tryd.prog 28 #[.agg #[.int .i64 S, .slice ao n cap, .slice ao2 n2 cap2, .slice ao3 n3 cap3], .agg #[.int .i64 x, .int .i64 y], .int .i64 h] w fun e w' => ∃ ao4 n4 cap4, e = .returned (.agg #[.int .i64 (frF Ls Hs Ts (x, y) h).1, .string (frF Ls Hs Ts (x, y) h).2.1, .slice ao4 n4 cap4]) ∧ GS hopE w' (.slice ao4 n4 cap4) (frF Ls Hs Ts (x, y) h).2.2 ∧ Below w.heap.size w w' ∧ ∀ g o, ao4 = some ⟨g, o, none⟩ → w.heap.size ≤ g := by
  obtain ⟨F, hF⟩ : ∃ F, F = frF Ls Hs Ts (x, y) h := ⟨_, rfl⟩
  have HF : Hid (F = foF Ls Hs Ts 24 [((x, y), h)]) := hF
  rw [← hF]
  obtain ⟨hnt, hsp, hhd⟩ := cp_0 hcp
  obtain ⟨htp, hTS, htb⟩ := nt_0 hnt
  have HTP : Hid (tpN S Ls Hs = 0) := htp
  have HTB : Hid (∀ k, k < Ts.length → tbN (Ts.getD k []) = 0) := htb
  have HN3 : Hid (Ts.length = n3) := hT.len
  have H3S : Hid ((n3 : Int) = S) := by
    show _ = _
    rw [← hTS, HN3.out]
  have HSP : Hid (spB S (x, y) = true ∧ hdrB h = true) := ⟨hsp, hhd⟩
  have HLW : Hid (∀ W, Below w.heap.size w W → GS lnkE W (.slice ao n cap) Ls) := fun W hb => hL.later hb
  have HHW : Hid (∀ W, Below w.heap.size w W → GS hstE W (.slice ao2 n2 cap2) Hs) := fun W hb => hH.later hb
  have HTW : Hid (∀ W, Below w.heap.size w W → TS W (.slice ao3 n3 cap3) Ts) := fun W hb => hT.later hb
  obtain ⟨hX, hG0⟩ := rb_new w S (.slice ao n cap) (.slice ao2 n2 cap2) (.slice ao3 n3 cap3) x y h
  obtain ⟨w0, hw0⟩ : ∃ W, ((((w.alloc (Obj.cells #[.int .i64 S, .slice ao n cap, .slice ao2 n2 cap2, .slice ao3 n3 cap3] 58)).alloc (Obj.cells #[.int .i64 x, .int .i64 y] 27)).alloc (Obj.cells #[.int .i64 0, .string ⟨#[]⟩, .slice none 0 0] 64)).alloc (Obj.cells #[.int .i64 x, .int .i64 y, .int .i64 h] 109)).alloc (Obj.cells #[.int .i64 0, .string ⟨#[]⟩, .slice (some ⟨w.heap.size + 1 + 1 + 1, 0, none⟩) 1 1] 64) = W := ⟨_, rfl⟩
  rw [hw0] at hX hG0
  obtain ⟨gf, hgf⟩ : ∃ g, w.heap.size + 1 + 1 + 1 + 1 = g := ⟨_, rfl⟩
  obtain ⟨gl, hgl⟩ : ∃ g, w.heap.size + 1 + 1 + 1 = g := ⟨_, rfl⟩
  obtain ⟨gr, hgr⟩ : ∃ g, w.heap.size + 1 + 1 = g := ⟨_, rfl⟩
  rw [hgf, hgl, hgr] at hX
  rw [hgl] at hG0 hw0
  have HGF : Hid (w.heap.size + 1 + 1 + 1 + 1 = gf) := hgf
  have HGR : Hid (w.heap.size + 1 + 1 = gr) := hgr
  have HGL : Hid (w.heap.size + 1 + 1 + 1 = gl) := hgl
  have HGNE : Hid (gl ≠ gf ∧ gl ≠ gr ∧ w.heap.size ≤ gl) := by
    show _ ∧ _
    omega
  have HX : Hid (RB w w0 gr gf S (.slice ao n cap) (.slice ao2 n2 cap2) (.slice ao3 n3 cap3) 0 ⟨#[]⟩ (.slice (some ⟨gl, 0, none⟩) 1 1)) := hX
  have HG0 : Hid (GS hopE w0 (.slice (some ⟨gl, 0, none⟩) 1 1) [((x, y), h)]) := hG0
  have HW0 : Hid (((((w.alloc (Obj.cells #[.int .i64 S, .slice ao n cap, .slice ao2 n2 cap2, .slice ao3 n3 cap3] 58)).alloc (Obj.cells #[.int .i64 x, .int .i64 y] 27)).alloc (Obj.cells #[.int .i64 0, .string ⟨#[]⟩, .slice none 0 0] 64)).alloc (Obj.cells #[.int .i64 x, .int .i64 y, .int .i64 h] 109)).alloc (Obj.cells #[.int .i64 0, .string ⟨#[]⟩, .slice (some ⟨gl, 0, none⟩) 1 1] 64) = w0) := hw0
  clear hL hH hT hF hnt hsp hhd htp hTS htb hw0 hX hG0 hcp hgf hgr hgl
  go_enter Tryd.func28, Tryd.ntmps28
  go_upto_region 2 with fail
  rw [HGF.out, HGL.out, HGR.out, HW0.out]
  clear HW0
  go_wp2_with fail
  go_loopw [8] (fun b wr => ∃ (l : List ((Int × Int) × Int)) (ao5 : Option Addr) (m cap5 : Nat) (F0 : Int) (F1 : ByteArray) (on : Bool), b = .bool on ∧ l.length = m ∧ (0 < m ∧ m ≤ 24) ∧ RB w wr gr gf S (.slice ao n cap) (.slice ao2 n2 cap2) (.slice ao3 n3 cap3) F0 F1 (.slice ao5 m cap5) ∧ GS hopE wr (.slice ao5 m cap5) l ∧ (∀ g o, ao5 = some ⟨g, o, none⟩ → g ≠ gf ∧ g ≠ gr ∧ w.heap.size ≤ g) ∧ RI S Ls Hs Ts F on F0 F1 l) (fun b wr => rmE b (wr.cell? ⟨gf, 2, none⟩))
  case atStart => exact ⟨[((x, y), h)], _, 1, 1, 0, ⟨#[]⟩, true, rfl, rfl, by omega, HX.out, HG0.out, fun g o e => by cases e; exact HGNE.out, .inl ⟨rfl, rfl, rfl, HF.out, HSP.out.1, HSP.out.2⟩⟩
  case round =>
    obtain ⟨l, ao5, m, cap5, F0, F1, on, rfl, hm, ⟨hl0, hl24⟩, hXr, hG, hgn, hRI⟩ := hrel
    obtain ⟨wo, hwo⟩ : ∃ X, X = wr := ⟨_, rfl⟩
    subst hwo
    have HML : Hid (l.length = m) := hm
    have HXo : Hid (RB w wo gr gf S (.slice ao n cap) (.slice ao2 n2 cap2) (.slice ao3 n3 cap3) F0 F1 (.slice ao5 m cap5)) := hXr
    have HGo : Hid (GS hopE wo (.slice ao5 m cap5) l) := hG
    have HGN : Hid (∀ g o, ao5 = some ⟨g, o, none⟩ → g ≠ gf ∧ g ≠ gr ∧ w.heap.size ≤ g) := hgn
    clear HX HG0 HF HSP
    rcases hRI with ⟨rfl, rfl, rfl, hFl, hsp, hhd⟩ | ⟨rfl, hFe⟩
    · have HFL : Hid (F = foF Ls Hs Ts (25 - l.length) l) := hFl
      obtain ⟨_, _, _, e5, _, _, _, hGa⟩ := hG.form
      cases e5
      obtain ⟨g5, o5, hao5, hc5, _⟩ := hGa hl0
      subst hao5
      obtain ⟨p0, p1, p2, hkl, hLk, c0, c1, c2⟩ := hop_at hc5 hm (show m - 1 < m by omega)
      have hla : laH l = ((p0, p1), p2) := by
        have e : laH l = l[m - 1] := by
          unfold laH
          rw [hm]
          simp [List.getD, hkl]
        rw [e, hLk]
      have HLA : Hid (laH l = ((p0, p1), p2)) := hla
      rw [hla] at hsp
      have HHD : Hid (hdrB (laH l).2 = true) := hhd
      have hsp2 := sp_of hsp
      simp only at hsp2
      have hs1 : 1 ≤ p0 := hsp2.1
      have hs2 : p0 ≤ (n3 : Int) := by rw [H3S.out]; exact hsp2.2.1
      have hn3m : (n3 : Int) ≤ 6 := by
        rw [H3S.out]
        exact (tp_0 HTP.out).1.2
      obtain ⟨j, hj⟩ : ∃ j : Nat, p0 - 1 = (j : Int) := ⟨(p0 - 1).toNat, by omega⟩
      have hpw : IntKind.i64.wrap (p0 - 1) = (j : Int) := by
        rw [hj]
        exact wrap_small (by omega) (by omega)
      have jb0 : (0 : Int) ≤ (j : Int) := by omega
      have jb1 : (j : Int) < (n3 : Int) := by omega
      have hjn : j < n3 := by omega
      have hmi : IntKind.i64.wrap ((m : Int) - 1) = ((m - 1 : Nat) : Int) := by
        rw [show (m : Int) - 1 = ((m - 1 : Nat) : Int) by omega]
        exact wrap_small (by omega) (by omega)
      have mb0 : (0 : Int) ≤ ((m - 1 : Nat) : Int) := by omega
      have mb1 : ((m - 1 : Nat) : Int) < (m : Int) := by omega
      obtain ⟨_, _, _, e6, _, _, _, hTa⟩ := (HTW.out _ HXo.out.below).form
      cases e6
      obtain ⟨g3, o3, hao3, hc3, _⟩ := hTa (by omega)
      subst hao3
      obtain ⟨a4, n4, c4, t0, hs4⟩ := hc3 j (by rw [HN3.out]; exact hjn)
      have hta : taT Ts (laH l).1.1 = Ts.getD j [] := by
        unfold taT
        rw [hla]
        show Ts.getD (p0 - 1).toNat [] = _
        rw [hj, Int.toNat_natCast]
      have HTA : Hid (taT Ts (laH l).1.1 = Ts.getD j []) := hta
      have HS4 : Hid (SR wo (.slice a4 n4 c4) (taT Ts (laH l).1.1)) := by
        show SR _ _ _
        rw [hta, getT (by rw [HN3.out]; exact hjn)]
        exact hs4
      have HT4 : Hid (tbN (taT Ts (laH l).1.1) = 0) := by
        show _ = _
        rw [hta]
        exact HTB.out j (by rw [HN3.out]; exact hjn)
      obtain ⟨G, hGG⟩ : ∃ G, G = gnF Ls Hs (taT Ts (laH l).1.1) l := ⟨_, rfl⟩
      have HGG : Hid (gnF Ls Hs (taT Ts (laH l).1.1) l = G) := hGG.symm
      obtain ⟨hBw, _, _, ⟨b0, b1, b2, b3⟩, r0, r1, r2, rf, f0, f1, f2, ff⟩ := HXo.out
      have ff0 := ff 0
      have ff1 := ff 1
      have ff2 := ff 2
      have y5 : g5 < wo.heap.size := World.block_lt_of_cell? _ _ c0
      have y3 : g3 < wo.heap.size := World.block_lt_of_cell? _ _ t0
      have y4 : gf < wo.heap.size := World.block_lt_of_cell? _ _ f0
      have y0 : w.heap.size < wo.heap.size := World.block_lt_of_cell? _ _ b0
      clear hm hXr hG hgn hFl hsp hhd hGa hc5 hkl hLk hla hsp2 hTa hc3 hs4 hta hGG hBw ff rf r0 r1 r2 hj
      have HREL : Hid (∀ (W : World) (ao6 : Option Addr) (n6 cap6 : Nat), Below wo.heap.size wo W → GS hopE W (.slice ao6 n6 cap6) G.1.2.2 → (ao6 = some ⟨g5, o5, none⟩ ∨ ∀ g o, ao6 = some ⟨g, o, none⟩ → wo.heap.size ≤ g) →
          (∃ (l : List ((Int × Int) × Int)) (ao5 : Option Addr) (m cap5 : Nat) (F0 : Int) (F1 : ByteArray) (on : Bool), Value.bool G.2 = .bool on ∧ l.length = m ∧ (0 < m ∧ m ≤ 24) ∧ RB w (put3 W gf (.int .i64 G.1.1) (.string G.1.2.1) (.slice ao6 n6 cap6)) gr gf S (.slice ao n cap) (.slice ao2 n2 cap2) (.slice (some ⟨g3, o3, none⟩) n3 cap3) F0 F1 (.slice ao5 m cap5) ∧ GS hopE (put3 W gf (.int .i64 G.1.1) (.string G.1.2.1) (.slice ao6 n6 cap6)) (.slice ao5 m cap5) l ∧ (∀ g o, ao5 = some ⟨g, o, none⟩ → g ≠ gf ∧ g ≠ gr ∧ w.heap.size ≤ g) ∧ RI S Ls Hs Ts F on F0 F1 l) ∧ rmE (.bool G.2) ((put3 W gf (.int .i64 G.1.1) (.string G.1.2.1) (.slice ao6 n6 cap6)).cell? ⟨gf, 2, none⟩) < rmE (.bool true) (wo.cell? ⟨gf, 2, none⟩) ∧ rmE (.bool G.2) (some (.slice ao6 n6 cap6)) < rmE (.bool true) (some (.slice (some ⟨g5, o5, none⟩) m cap5))) := by
        intro W ao6 n6 cap6 hbW hgW hw6
        have hXW := HXo.out.later hbW
        have hput := hXW.put G.1.1 G.1.2.1 (.slice ao6 n6 cap6)
        have hl6 := hgW.len
        have hne6 : ∀ g o, ao6 = some ⟨g, o, none⟩ → g ≠ gf ∧ g ≠ gr ∧ w.heap.size ≤ g := by
          intro g o e
          rcases hw6 with h | h
          · exact HGN.out g o (h.symm.trans e)
          · have h1 := h g o e
            have h2 := HXo.out.l2
            have h3 := HXo.out.below.size
            omega
        have hgp := gs_put3 hgW (fun g o e => (hne6 g o e).1) (.int .i64 G.1.1) (.string G.1.2.1) (.slice ao6 n6 cap6)
        have hL24 : l.length ≤ 24 := by rw [HML.out]; exact hl24
        have hmm : n6 = m ∧ G.2 = false ∨ n6 = m + 1 ∧ n6 ≤ 24 ∧ G.2 = true := by
          cases hG2 : G.2
          · have h1 := gn_end (Ls := Ls) (Hs := Hs) (Ts := Ts) hL24 (by rw [HGG.out]; exact hG2)
            rw [HGG.out] at h1
            rw [h1.2] at hl6
            have := HML.out
            exact .inl ⟨by omega, rfl⟩
          · obtain ⟨q, h1, _, h3, _, _⟩ := gn_on (Ts := Ts) HTP.out hL24 (by rw [HGG.out]; exact hG2)
            rw [HGG.out] at h1
            rw [h1] at hl6
            have := HML.out
            simp only [List.length_append, List.length_cons, List.length_nil] at hl6 h3
            exact .inr ⟨by omega, by omega, rfl⟩
        refine ⟨⟨G.1.2.2, ao6, n6, cap6, G.1.1, G.1.2.1, G.2, rfl, hl6, by omega, hput, hgp, hne6, ?_⟩, ?_⟩
        · cases hG2 : G.2
          · have h1 := gn_end (Ls := Ls) (Hs := Hs) (Ts := Ts) hL24 (by rw [HGG.out]; exact hG2)
            rw [HGG.out] at h1
            exact .inr ⟨rfl, by rw [HFL.out, h1.1]⟩
          · obtain ⟨q, h1, h2, _, h4, h5⟩ := gn_on (Ts := Ts) HTP.out hL24 (by rw [HGG.out]; exact hG2)
            rw [HGG.out] at h1
            rw [h1]
            refine .inl ⟨rfl, rfl, rfl, by rw [HFL.out, h2], ?_, ?_⟩
            · rw [la_app]; exact h4
            · rw [la_app]; exact h5
        · rw [hput.f2, HXo.out.f2, and_self]
          rcases hmm with ⟨h1, h2⟩ | ⟨h1, h2, h3⟩
          · rw [h2]
            simp only [rmE]
            omega
          · rw [h3]
            simp only [rmE]
            omega
      go_upto_region 5 with fail
      go_region_with (go_at_call 51; refine (rgo_any S ao n cap ao2 n2 cap2 a4 n4 c4 (some ⟨g5, o5, none⟩) m cap5 Ls Hs (taT Ts (laH l).1.1) l _ (HLW.out _ (HXo.out.below.trans ((Below.drew (Below.refl _ _)).mono HXo.out.below.size))) (HHW.out _ (HXo.out.below.trans ((Below.drew (Below.refl _ _)).mono HXo.out.below.size))) (HS4.out.later (Below.drew (Below.refl _ _))) (HGo.out.later (Below.drew (Below.refl _ _))) HT4.out HHD.out hl0 hl24).mono ?_; rintro e w' ⟨ao6, n6, cap6, rfl, hg6, hb, hw6⟩; rw [HGG.out]; rw [HGG.out] at hg6; have HBX : Hid (Below wo.heap.size wo w') := (bdrew hb); have HRL := HREL.out w' ao6 n6 cap6 HBX.out hg6 hw6; have HRLH : Hid _ := HRL; have HXX := HXo.out.later HBX.out; obtain ⟨_, _, _, _, _, _, _, _, k0, k1, k2, kf⟩ := HXX; have kf0 := kf 0; have kf1 := kf 1; have kf2 := kf 2; clear kf HRL hb)
      all_goals simp only [Act.put, List.setIfInBounds_toArray, List.set_cons_zero, List.set_cons_succ, List.getElem_toArray, List.getElem_cons_zero, List.getElem_cons_succ]
      all_goals go_wp2
      all_goals go_roundw
      all_goals first
        | exact HRLH.out.1
        | exact HRLH.out.2.1
        | exact HRLH.out.2.2
    · have HFE : Hid (F = (F0, F1, l)) := hFe
      obtain ⟨hBw, hl1, hl2, ⟨b0, b1, b2, b3⟩, r0, r1, r2, rf, f0, f1, f2, ff⟩ := HXo.out
      have HBW : Hid (Below w.heap.size w (put3 wo gr (.int .i64 F0) (.string F1) (.slice ao5 m cap5))) := below_put3 hBw _ (by omega) _ _ _
      have HGE : Hid (GS hopE (put3 wo gr (.int .i64 F0) (.string F1) (.slice ao5 m cap5)) (.slice ao5 m cap5) l) := gs_put3 HGo.out (fun g o e => (HGN.out g o e).2.1) _ _ _
      have rf0 := rf 0
      have rf1 := rf 1
      have rf2 := rf 2
      have hne : gf ≠ gr := by omega
      clear hm hXr hG hgn hFe hBw rf ff
      go_wp2
      refine bodyPost_ret (v := .agg #[.int .i64 F0, .string F1, .slice ao5 m cap5]) (by simp [results, Tryd.results28, go_sem, *]) rfl ⟨_, _, _, by rw [HFE.out], ?_, HBW.out, fun g o e => (HGN.out g o e).2.2⟩
      rw [HFE.out]
      exact HGE.out
end Go.Proofs.YtfbocionnjlilacDoor
/- What railsame.Fate answers of two fates that are the same: a contract for the walks above it. -/
namespace Go.Proofs.YtfbocionnjlilacDoor
open Go.RowKit
set_option linter.unusedSimpArgs false
set_option linter.unusedVariables false

theorem fate_drewN (w : World) (n : Nat) : Below w.heap.size w (w.drewN n) := ⟨rfl, rfl, rfl, Nat.le_refl _, fun _ _ => rfl⟩
/-- Two fates in their boxes. -/
structure FT (w W : World) (V1 : Int) (V2 : ByteArray) (u v : Value) : Prop where
  below : Below w.heap.size w W
  a0 : W.cell? ⟨w.heap.size, 0, none⟩ = some (.int .i64 V1)
  a1 : W.cell? ⟨w.heap.size, 1, none⟩ = some (.string V2)
  a2 : W.cell? ⟨w.heap.size, 2, none⟩ = some u
  b0 : W.cell? ⟨w.heap.size + 1, 0, none⟩ = some (.int .i64 V1)
  b1 : W.cell? ⟨w.heap.size + 1, 1, none⟩ = some (.string V2)
  b2 : W.cell? ⟨w.heap.size + 1, 2, none⟩ = some v
theorem FT.later {w W W' : World} {V1 : Int} {V2 : ByteArray} {u v : Value} (h : FT w W V1 V2 u v) (hb : Below W.heap.size W W') : FT w W' V1 V2 u v :=
  ⟨h.below.trans (hb.mono h.below.size), cell_later hb h.a0, cell_later hb h.a1, cell_later hb h.a2, cell_later hb h.b0, cell_later hb h.b1, cell_later hb h.b2⟩
theorem ft_new (w : World) (V1 : Int) (V2 : ByteArray) (u v : Value) : FT w ((w.alloc (Obj.cells #[.int .i64 V1, .string V2, u] 64)).alloc (Obj.cells #[.int .i64 V1, .string V2, v] 64)) V1 V2 u v := by
  have e1 : (w.alloc (Obj.cells #[.int .i64 V1, .string V2, u] 64)).heap.size = w.heap.size + 1 := by simp
  have hb : ∀ (W : World) (o : Obj), Below W.heap.size W (W.alloc o) := fun W o => (Below.refl _ _).alloc (Nat.le_refl _) _
  have ha := (vat_new w [.int .i64 V1, .string V2, u] 64).later (hb _ (Obj.cells #[.int .i64 V1, .string V2, v] 64))
  have hs := vat_new (w.alloc (Obj.cells #[.int .i64 V1, .string V2, u] 64)) [.int .i64 V1, .string V2, v] 64
  rw [e1] at hs
  exact ⟨((Below.refl _ _).alloc (Nat.le_refl _) _).alloc (by rw [e1]; omega) _, ha 0 _ rfl, ha 1 _ rfl, ha 2 _ rfl, hs 0 _ rfl, hs 1 _ rfl, hs 2 _ rfl⟩

set_option maxHeartbeats 2000000 in
set_option maxRecDepth 100000 in
theorem fate_any (V1 : Int) (V2 : ByteArray) (ao : Option Addr) (n cap : Nat) (bo : Option Addr) (m cbp : Nat) (L : List ((Int × Int) × Int)) (w : World) (hn1000 : L.length ≤ 1000)
    (h1 : GS hopE w (.slice ao n cap) L) (h2 : GS hopE w (.slice bo m cbp) L) :
    Calls Tryd.prog 31 #[.agg #[.int .i64 V1, .string V2, .slice ao n cap], .agg #[.int .i64 V1, .string V2, .slice bo m cbp]] w fun e w' => e = .returned (.bool true) ∧ Below w.heap.size w w' := by
  have hn := h1.len
  have hm := h2.len
  obtain rfl : m = n := by omega
  obtain ⟨_, _, _, e1, _, _, _, ha⟩ := h1.form
  cases e1
  obtain ⟨_, _, _, e2, _, _, _, hb⟩ := h2.form
  cases e2
  have HN : Hid (L.length = m) := hn
  have HA : Hid (0 < m → ∃ g o, ao = some ⟨g, o, none⟩ ∧ GAt hopE w g o L ∧ cap ≤ maxLen) := ha
  have HB : Hid (0 < m → ∃ g o, bo = some ⟨g, o, none⟩ ∧ GAt hopE w g o L ∧ cbp ≤ maxLen) := hb
  have hm1000 : m ≤ 1000 := by omega
  have hX := ft_new w V1 V2 (.slice ao m cap) (.slice bo m cbp)
  obtain ⟨w0, hw0⟩ : ∃ W, (w.alloc (Obj.cells #[.int .i64 V1, .string V2, .slice ao m cap] 64)).alloc (Obj.cells #[.int .i64 V1, .string V2, .slice bo m cbp] 64) = W := ⟨_, rfl⟩
  rw [hw0] at hX
  have HX : Hid (FT w w0 V1 V2 (.slice ao m cap) (.slice bo m cbp)) := hX
  have HW0 : Hid ((w.alloc (Obj.cells #[.int .i64 V1, .string V2, .slice ao m cap] 64)).alloc (Obj.cells #[.int .i64 V1, .string V2, .slice bo m cbp] 64) = w0) := hw0
  clear hn hm h1 h2 ha hb hX hw0 hn1000
  go_enter Tryd.func31, Tryd.ntmps31
  go_upto_region 1 with fail
  rw [HW0.out]
  obtain ⟨_, a0, a1, a2, b0, b1, b2⟩ := HX.out
  go_wp2
  clear a0 a1 a2 b0 b1 b2
  go_loopw [5] (fun i wr => ∃ k : Nat, k ≤ m ∧ i = .int .i64 k ∧ FT w wr V1 V2 (.slice ao m cap) (.slice bo m cbp)) (fun i _ => m - (intOf i).toNat)
  case atStart => exact ⟨0, by omega, rfl, HX.out⟩
  case round =>
    obtain ⟨k, hk, rfl, hF⟩ := hrel
    have HF : Hid (FT w wr V1 V2 (.slice ao m cap) (.slice bo m cbp)) := hF
    obtain ⟨hB, a0, a1, a2, b0, b1, b2⟩ := hF
    have HBe : Hid (Below w.heap.size w wr) := hB
    by_cases hlt : k < m
    · obtain ⟨g, o, hao, hc, _⟩ := HA.out (by omega)
      subst hao
      obtain ⟨g', o', hbo, hd, _⟩ := HB.out (by omega)
      subst hbo
      obtain ⟨x0, x1, x2, hkl, hLk, c0, c1, c2⟩ := hop_at (hc.later hB) HN.out hlt
      obtain ⟨y0, y1, y2, hkl', hLk', d0, d1, d2⟩ := hop_at (hd.later hB) HN.out hlt
      rw [hLk] at hLk'
      cases hLk'
      have m1 : g < wr.heap.size := World.block_lt_of_cell? _ _ c0
      have m2 : g' < wr.heap.size := World.block_lt_of_cell? _ _ d0
      have m3 : w.heap.size < wr.heap.size := World.block_lt_of_cell? _ _ a0
      have m4 : w.heap.size + 1 < wr.heap.size := World.block_lt_of_cell? _ _ b0
      have kb0 : (0 : Int) ≤ (k : Int) := by omega
      have kb1 : (k : Int) < (m : Int) := by omega
      clear hc hd hLk hB
      go_wp2_with fail
      go_quiet (fail)
      go_wp2
      go_roundw
      case rel => exact ⟨k + 1, by omega, by go_num, HF.out.later (fate_drewN _ _)⟩
      case measure => simp [intOf]; omega
    · obtain rfl : k = m := by omega
      go_wp2
      go_ret
      exact ⟨rfl, HBe.out⟩
end Go.Proofs.YtfbocionnjlilacDoor
/- What railref1.Name answers: a contract for the walks above it. -/
namespace Go.Proofs.YtfbocionnjlilacDoor
open Go.RowKit
set_option linter.unusedSimpArgs false
set_option linter.unusedVariables false

theorem byte_lst (s : ByteArray) : s.toList = s.data.toList := by rw [Lib.toList_data]
theorem size_lst (s : ByteArray) : s.data.toList.length = s.size := by simp
/-- Is a byte a letter? -/
def ltB (c : UInt8) : Bool := decide (97 ≤ c.toNat) && decide (c.toNat ≤ 122)
theorem lt_at (s : ByteArray) (k : Nat) (h : k < s.size) : s.data.toList[k]'(by simpa using h) = s[k] := by simp [ByteArray.getElem_eq_getElem_data]
theorem rnm_eq (s : ByteArray) : nmB s = (decide (1 ≤ s.size) && (decide (s.size ≤ 6) && s.data.toList.all ltB)) := rfl

set_option maxHeartbeats 1000000 in
set_option maxRecDepth 100000 in
theorem rname_any (s : ByteArray) (w : World) :
    Calls Tryd.prog 33 #[.string s] w fun e w' => e = .returned (.bool (nmB s)) ∧ w' = w := by
  by_cases h0 : s.size = 0
  · have e0 : s.toList.isEmpty = true := by
      rw [byte_lst, List.isEmpty_iff, ← List.length_eq_zero_iff, size_lst, h0]
    have HR : Hid (nmB s = false) := by
      show _ = _
      rw [rnm_eq, h0]
      rfl
    rw [HR.out]
    go_enter Tryd.func33, Tryd.ntmps33
    go_wp2
    go_ret
    exact ⟨rfl, rfl⟩
  · have e0 : s.toList.isEmpty = false := by
      rw [byte_lst, ← Bool.not_eq_true, List.isEmpty_iff, ← List.length_eq_zero_iff, size_lst]; exact h0
    by_cases h6 : 6 < s.size
    · have e6 : decide ((6 : Int) < (s.size : Int)) = true := by simp; omega
      have HR : Hid (nmB s = false) := by
        show _ = _
        have : ¬ s.size ≤ 6 := by omega
        rw [rnm_eq]
        simp [this]
      rw [HR.out]
      go_enter Tryd.func33, Tryd.ntmps33
      go_wp2
      go_ret
      exact ⟨rfl, rfl⟩
    · have e6 : decide ((6 : Int) < (s.size : Int)) = false := by simp; omega
      have HR : Hid (nmB s = s.data.toList.all ltB) := by
        show _ = _
        have h1 : 1 ≤ s.size := by omega
        have h2 : s.size ≤ 6 := by omega
        rw [rnm_eq]
        simp [h1, h2]
      obtain ⟨R, hR⟩ : ∃ R, R = nmB s := ⟨_, rfl⟩
      have HRR : Hid (R = nmB s) := hR
      rw [← hR]
      clear hR
      go_enter Tryd.func33, Tryd.ntmps33
      go_wp2
      go_loopw [3] (fun i wr => ∃ k : Nat, k ≤ s.size ∧ i = .int .i64 k ∧ (s.data.toList.take k).all ltB = true ∧ wr = w) (fun i _ => s.size - (intOf i).toNat)
      case atStart => exact ⟨0, by omega, rfl, by simp, rfl⟩
      case round =>
        obtain ⟨k, hk, rfl, hall, rfl⟩ := hrel
        have HALL : Hid ((s.data.toList.take k).all ltB = true) := hall
        clear hall
        by_cases hlt : k < s.size
        · have HNX : Hid (ltB s[k] = true → (s.data.toList.take (k + 1)).all ltB = true) := fun hy => by
            have hk2 : k < s.data.toList.length := by simpa using hlt
            rw [List.take_succ_eq_append_getElem hk2, List.all_append, HALL.out, lt_at s k hlt]
            simp [hy]
          have HNO : Hid (ltB s[k] = false → R = false) := fun hn => by
            rw [HRR.out, HR.out]
            cases ha : s.data.toList.all ltB
            · rfl
            · have hk2 : k < s.data.toList.length := by simpa using hlt
              have := List.all_eq_true.1 ha _ (List.getElem_mem hk2)
              rw [lt_at s k hlt, hn] at this
              cases this
          by_cases g1 : s[k].toNat < 97
          · have d1 : decide ((s[k].toNat : Int) < 97) = true := by simp; omega
            have HF : Hid (R = false) := HNO.out (by unfold ltB; simp; omega)
            go_wp2
            go_ret
            exact ⟨by rw [HF.out]; rfl, rfl⟩
          · have d1 : decide ((s[k].toNat : Int) < 97) = false := by simp; omega
            by_cases g2 : 122 < s[k].toNat
            · have d2 : decide (122 < (s[k].toNat : Int)) = true := by simp; omega
              have HF : Hid (R = false) := HNO.out (by unfold ltB; simp; omega)
              go_wp2
              go_ret
              exact ⟨by rw [HF.out]; rfl, rfl⟩
            · have d2 : decide (122 < (s[k].toNat : Int)) = false := by simp; omega
              have HY : Hid ((s.data.toList.take (k + 1)).all ltB = true) := HNX.out (by unfold ltB; simp; omega)
              go_wp2
              go_roundw
              case rel => exact ⟨k + 1, by omega, by go_num, HY.out, by first | rfl | trivial⟩
              case measure => simp [intOf]; omega
        · obtain rfl : k = s.size := by omega
          have HF : Hid (R = true) := by
            show _ = _
            have h1 := HALL.out
            rw [← size_lst, List.take_length] at h1
            rw [HRR.out, HR.out, h1]
          go_wp2
          go_ret
          exact ⟨by rw [HF.out]; rfl, rfl⟩
end Go.Proofs.YtfbocionnjlilacDoor
/- What railref1.Topo answers: a contract for the walks above it. -/
namespace Go.Proofs.YtfbocionnjlilacDoor
open Go.RowKit
set_option linter.unusedSimpArgs false
set_option linter.unusedVariables false

theorem below_drewN (w : World) (n : Nat) : Below w.heap.size w (w.drewN n) := ⟨rfl, rfl, rfl, Nat.le_refl _, fun _ _ => rfl⟩
theorem eq2_ways (a b c d : Int) : ((a == c && b == d) = true ∧ (a == c) = true ∧ (b == d) = true) ∨ ((a == c && b == d) = false ∧ (a == c) = true ∧ (b == d) = false) ∨ ((a == c && b == d) = false ∧ (a == c) = false) := by
  cases a == c <;> cases b == d <;> simp
theorem pr_beq (a b c d : Int) : (((a, b) : Int × Int) == (c, d)) = (a == c && b == d) := rfl
theorem any_take {α : Type} {L : List α} {f : α → Bool} (h : (L.take L.length).any f = false) : L.any f = false := by simpa using h

theorem own_two {W : World} {B e : Nat} {v : Value} {U : List (Int × Int)} {m : Nat} {x0 x1 x2 x3 : Int} (hm : U.length = m) (h : W.ownsRow B e 2 v (m + 1 + 1) (cellsG spoE U ++ [.int .i64 x0, .int .i64 x1, .int .i64 x2, .int .i64 x3])) :
    W.ownsRow B e 2 v (U ++ [(x0, x1), (x2, x3)]).length (cellsG spoE (U ++ [(x0, x1), (x2, x3)])) := by
  subst hm
  have e1 : cellsG spoE (U ++ [(x0, x1), (x2, x3)]) = cellsG spoE U ++ [.int .i64 x0, .int .i64 x1, .int .i64 x2, .int .i64 x3] := by
    rw [cellsG_app]
    simp [cellsG, spoE]
  rw [e1]
  simpa using h
theorem own_one1 {W : World} {B e : Nat} {v : Value} {U : List (Int × Int)} {m : Nat} {x0 x1 : Int} (hm : U.length = m) (h : W.ownsRow B e 2 v (m + 1) (cellsG spoE U ++ [.int .i64 x0, .int .i64 x1])) :
    W.ownsRow B e 2 v (U ++ [(x0, x1)]).length (cellsG spoE (U ++ [(x0, x1)])) := by
  subst hm
  have e1 : cellsG spoE (U ++ [(x0, x1)]) = cellsG spoE U ++ [.int .i64 x0, .int .i64 x1] := by
    rw [cellsG_app]
    simp [cellsG, spoE]
  rw [e1]
  simpa using h
/-- A block that is not the row's own is as it was. -/
theorem grown_cell {W w' : World} {v : Value} {g : Nat} (h : W.grownBy w' v.ownBlock) (hl : g < W.heap.size) (hn : ∀ k, v.ownBlock = some k → k ≠ g) (i : Nat) : w'.cell? ⟨g, i, none⟩ = W.cell? ⟨g, i, none⟩ :=
  World.cell?_of_block (w := W) (a := ⟨g, i, none⟩) (h.block g hl (fun e => hn g (by first | exact e | exact e.symm) rfl))

set_option maxHeartbeats 8000000 in
set_option maxRecDepth 100000 in
theorem rtopo_any (S : Int) (ao : Option Addr) (n cap : Nat) (ao2 : Option Addr) (n2 cap2 : Nat) (Ls : List ((Int × Int) × (Int × Int))) (Hs : List (ByteArray × (Int × Int))) (w : World)
    (hL : GS lnkE w (.slice ao n cap) Ls) (hH : GS hstE w (.slice ao2 n2 cap2) Hs) :
    Calls Tryd.prog 7 #[.agg #[.int .i64 S, .slice ao n cap, .slice ao2 n2 cap2]] w fun e w' => e = .returned (.int .i64 (tpN S Ls Hs)) ∧ Below w.heap.size w w' := by
  obtain ⟨_, _, _, e1, hLn, hLm, _, hLa⟩ := hL.form
  cases e1
  obtain ⟨_, _, _, e2, hHn, hHm, _, hHa⟩ := hH.form
  cases e2
  have HLN : Hid (Ls.length = n) := hLn
  have HHN : Hid (Hs.length = n2) := hHn
  have HLA : Hid (0 < n → ∃ g o, ao = some ⟨g, o, none⟩ ∧ GAt lnkE w g o Ls ∧ cap ≤ maxLen) := hLa
  have HHA : Hid (0 < n2 → ∃ g o, ao2 = some ⟨g, o, none⟩ ∧ GAt hstE w g o Hs ∧ cap2 ≤ maxLen) := hHa
  obtain ⟨T, hT⟩ : ∃ T, T = tpN S Ls Hs := ⟨_, rfl⟩
  have HT : Hid (T = tpN S Ls Hs) := hT
  rw [← hT]
  have hX := tbox_new w S (.slice ao n cap) (.slice ao2 n2 cap2) 25
  have hB : Below w.heap.size w (w.alloc (Obj.cells #[.int .i64 S, .slice ao n cap, .slice ao2 n2 cap2] 25)) := (Below.refl _ _).alloc (Nat.le_refl _) _
  have HB0' : Hid (Below w.heap.size w (w.alloc (Obj.cells #[.int .i64 S, .slice ao n cap, .slice ao2 n2 cap2] 25))) := hB
  by_cases h1 : 1 ≤ S
  · by_cases h6 : S ≤ 6
    · by_cases h2 : n ≤ 200
      · by_cases h8 : n2 ≤ 8
        · have s1 : decide (S < 1) = false := by simp; omega
          have s2 : decide (6 < S) = false := by simp; omega
          have s3 : decide (200 < (n : Int)) = false := by simp; omega
          have s4 : decide (8 < (n2 : Int)) = false := by simp; omega
          have HM : Hid (T = if lkN S Ls [] = 0 then hoN S Hs [] (spsL Ls) else lkN S Ls []) := by
            show _ = _
            rw [hT]
            unfold tpN
            have e3 : (decide (1 ≤ S) && decide (S ≤ 6)) = true := by simp [h1, h6]
            have e4 : (decide (Ls.length ≤ 200) && decide (Hs.length ≤ 8)) = true := by simp [hLn, hHn, h2, h8]
            rw [if_pos e3, if_pos e4]
          obtain ⟨w0, hw0⟩ : ∃ W, w.alloc (Obj.cells #[.int .i64 S, .slice ao n cap, .slice ao2 n2 cap2] 25) = W := ⟨_, rfl⟩
          rw [hw0] at hX hB
          have HX : Hid (TBox w0 w.heap.size S (.slice ao n cap) (.slice ao2 n2 cap2)) := hX
          have HB : Hid (Below w.heap.size w w0) := hB
          have HW0 : Hid (w.alloc (Obj.cells #[.int .i64 S, .slice ao n cap, .slice ao2 n2 cap2] 25) = w0) := hw0
          have H2 : Hid (n ≤ 200) := h2
          have H8 : Hid (n2 ≤ 8) := h8
          obtain ⟨i0, hi, hz0, hz1, hz2⟩ := info_parts spo_info
          clear hL hH hLn hLm hLa hHn hHm hHa hT hX hB hw0 h1 h6 h2 h8 HB0' HT
          go_enter Tryd.func7, Tryd.ntmps7
          go_wp2
          rw [HW0.out]
          go_loopw [3, 4] (fun u i wr => ∃ k : Nat, k ≤ n ∧ i = .int .i64 k ∧ wr.ownsRow w0.heap.size 27 2 u (spsL (Ls.take k)).length (cellsG spoE (spsL (Ls.take k))) ∧ lkN S Ls [] = lkN S (Ls.drop k) (spsL (Ls.take k)) ∧ Below w0.heap.size w0 wr) (fun _ i _ => n - (intOf i).toNat)
          case atStart => exact ⟨0, by omega, rfl, by simpa [spsL, cellsG] using World.ownsRow_nil _ _ _ _, by simp [spsL], Below.refl _ _⟩
          case round =>
            rename_i u3 u4
            obtain ⟨k, hk, rfl, hown, hlk, hBr⟩ := hrel
            obtain ⟨ao3, cap3, rfl⟩ := own_form hown
            obtain ⟨wo, hwo⟩ : ∃ x, x = wr := ⟨_, rfl⟩
            subst hwo
            have HOWN : Hid (wo.ownsRow w0.heap.size 27 2 (.slice ao3 (spsL (Ls.take k)).length cap3) (spsL (Ls.take k)).length (cellsG spoE (spsL (Ls.take k)))) := hown
            have HLK : Hid (lkN S Ls [] = lkN S (Ls.drop k) (spsL (Ls.take k))) := hlk
            have HBr : Hid (Below w0.heap.size w0 wo) := hBr
            have HBw : Hid (Below w.heap.size w wo) := HB.out.trans (hBr.mono HB.out.size)
            have HXr : Hid (TBox wo w.heap.size S (.slice ao n cap) (.slice ao2 n2 cap2)) := HX.out.later hBr
            obtain ⟨b0, b1, b2⟩ := HXr.out
            have hlw : w.heap.size < wo.heap.size := World.block_lt_of_cell? _ _ b0
            have hn200 : n ≤ 200 := H2.out
            have hlen : (spsL (Ls.take k)).length ≤ 400 := by
              rw [sps_len, List.length_take]
              omega
            obtain ⟨U, hU⟩ : ∃ U, U = spsL (Ls.take k) := ⟨_, rfl⟩
            have HU : Hid (U = spsL (Ls.take k)) := hU
            rw [← hU] at HOWN HLK hlen
            rw [← hU]
            obtain ⟨m, hm⟩ : ∃ m, m = U.length := ⟨_, rfl⟩
            have HMU : Hid (U.length = m) := hm.symm
            rw [← hm] at HOWN hlen
            rw [← hm]
            clear hown hlk hBr hU hm HW0
            by_cases hlt : k < n
            · have HK1 : Hid (k + 1 ≤ n) := hlt
              obtain ⟨g, o, hao, hc, _⟩ := HLA.out (by omega)
              subst hao
              obtain ⟨x0, x1, x2, x3, hkl, hLk, q0, q1, q2, q3⟩ := lnk_at (hc.later HBw.out) HLN.out hlt
              have HLK1 : Hid (lkN S Ls [] = if lk1 S U ((x0, x1), (x2, x3)) = 0 then lkN S (Ls.drop (k + 1)) (U ++ [(x0, x1), (x2, x3)]) else lk1 S U ((x0, x1), (x2, x3))) := by
                show _ = _
                rw [HLK.out, List.drop_eq_getElem_cons hkl, lk_step, hLk]
              have HUN : Hid (spsL (Ls.take (k + 1)) = U ++ [(x0, x1), (x2, x3)]) := by
                show _ = _
                rw [sps_take hkl, hLk, HU.out]
              have HT7 : Hid (lk1 S U ((x0, x1), (x2, x3)) ≠ 0 → T = lk1 S U ((x0, x1), (x2, x3))) := fun h => by
                have e := HLK1.out
                rw [if_neg h] at e
                rw [HM.out, e, if_neg h]
              have HBA : Hid (Below wo.heap.size wo (wo.alloc (Obj.cells #[Value.int IntKind.i64 x0, Value.int IntKind.i64 x1, Value.int IntKind.i64 x2, Value.int IntKind.i64 x3] 83))) := (Below.refl _ _).alloc (Nat.le_refl _) _
              have HBX : Hid (VAt (wo.alloc (Obj.cells #[Value.int IntKind.i64 x0, Value.int IntKind.i64 x1, Value.int IntKind.i64 x2, Value.int IntKind.i64 x3] 83)) wo.heap.size 0 (lnkE.c ((x0, x1), (x2, x3)))) := lnk_new wo x0 x1 x2 x3 83
              clear hLk hc
              go_wp2_with fail
              refine (rspot_any S (some ⟨g, o, none⟩) n cap ao2 n2 cap2 x0 x1 _).mono ?_
              rintro e w2 ⟨rfl, hb2⟩
              have hB2 : Below wo.heap.size wo w2 := HBA.out.trans (hb2.mono HBA.out.size)
              have HB2 : Hid (Below wo.heap.size wo w2) := hB2
              have HV2 : Hid (VAt w2 wo.heap.size 0 (lnkE.c ((x0, x1), (x2, x3)))) := HBX.out.later hb2
              obtain ⟨b0, b1, b2⟩ := HXr.out.later hB2
              obtain ⟨l0, l1, l2, l3⟩ := lnk_cells HV2.out
              simp only [Nat.zero_add] at l0 l1 l2 l3
              have hll : wo.heap.size < w2.heap.size := World.block_lt_of_cell? _ _ l0
              clear hb2 hB2 HBA HBX q0 q1 q2 q3
              go_wp2_with fail
              refine (rspot_any S (some ⟨g, o, none⟩) n cap ao2 n2 cap2 x2 x3 _).mono ?_
              rintro e w3 ⟨rfl, hb3⟩
              have hB3 : Below wo.heap.size wo w3 := HB2.out.trans (hb3.mono HB2.out.size)
              have HB3 : Hid (Below wo.heap.size wo w3) := hB3
              have HB3w : Hid (Below w.heap.size w w3) := HBw.out.trans (hB3.mono HBw.out.size)
              have HV3 : Hid (VAt w3 wo.heap.size 0 (lnkE.c ((x0, x1), (x2, x3)))) := HV2.out.later hb3
              obtain ⟨b0, b1, b2⟩ := HXr.out.later hB3
              obtain ⟨l0, l1, l2, l3⟩ := lnk_cells HV3.out
              simp only [Nat.zero_add] at l0 l1 l2 l3
              have hll : wo.heap.size < w3.heap.size := World.block_lt_of_cell? _ _ l0
              clear hb3 hB3 HV2 HB2
              cases hsa : spB S (x0, x1)
              · have HT1 : Hid (T = 1) := by
                  have e : lk1 S U ((x0, x1), (x2, x3)) = 1 := by simp [lk1, hsa]
                  have := HT7.out (by rw [e]; decide)
                  rw [e] at this
                  exact this
                go_wp2
                go_ret
                exact ⟨by rw [HT1.out]; rfl, HB3w.out⟩
              · cases hsb : spB S (x2, x3)
                · have HT1 : Hid (T = 1) := by
                    have e : lk1 S U ((x0, x1), (x2, x3)) = 1 := by simp [lk1, hsa, hsb]
                    have := HT7.out (by rw [e]; decide)
                    rw [e] at this
                    exact this
                  go_wp2
                  go_ret
                  exact ⟨by rw [HT1.out]; rfl, HB3w.out⟩
                · have HL7 : Hid (lk1 S U ((x0, x1), (x2, x3)) = if (x0 == x2 && x1 == x3) || (U.any fun u => u == (x0, x1) || u == (x2, x3)) then 7 else 0) := by
                    show _ = _
                    simp only [lk1, hsa, hsb, Bool.and_self, if_true, pr_beq]
                  rcases eq2_ways x0 x1 x2 x3 with ⟨g0, g1, g2⟩ | hne
                  · have HT1 : Hid (T = 7) := by
                      have e : lk1 S U ((x0, x1), (x2, x3)) = 7 := by rw [HL7.out, g0]; rfl
                      have := HT7.out (by rw [e]; decide)
                      rw [e] at this
                      exact this
                    go_wp2
                    go_ret
                    exact ⟨by rw [HT1.out]; rfl, HB3w.out⟩
                  · have hg0 : (x0 == x2 && x1 == x3) = false := by
                      rcases hne with ⟨h, _⟩ | ⟨h, _⟩ <;> exact h
                    have HL8 : Hid (lk1 S U ((x0, x1), (x2, x3)) = if (U.any fun u => u == (x0, x1) || u == (x2, x3)) then 7 else 0) := by
                      show _ = _
                      rw [HL7.out, hg0, Bool.false_or]
                    obtain ⟨_, _, _, e5, hUn, hUm, _, hUa⟩ := (own_GS (E := spoE) (L := U) (by rw [HMU.out]; exact HOWN.out) : GS spoE wo (.slice ao3 m cap3) U).form
                    cases e5
                    have HUA : Hid (0 < m → ∃ g o, ao3 = some ⟨g, o, none⟩ ∧ GAt spoE wo g o U ∧ cap3 ≤ maxLen) := hUa
                    clear hUn hUm hUa hg0
                    go_upto_region 14 with fail
                    go_cut [63] from 59 to 63 (fun c w' => c = .bool false ∧ w' = w3)
                    case first =>
                      rcases hne with ⟨_, g1, g2⟩ | ⟨_, g1⟩
                      · go_wp2_with fail
                        go_meet
                        case rel => exact ⟨rfl, rfl⟩
                      · go_wp2_with fail
                        go_meet
                        case rel => exact ⟨rfl, rfl⟩
                    case rest =>
                      obtain ⟨rfl, hwc⟩ := hcut
                      subst hwc
                      clear hne
                      go_wp2
                      go_loopw [8] (fun j wz => ∃ q : Nat, q ≤ m ∧ j = .int .i64 q ∧ (U.take q).any (fun u => u == (x0, x1) || u == (x2, x3)) = false ∧ Below wc.heap.size wc wz) (fun j _ => m - (intOf j).toNat)
                      case atStart => exact ⟨0, by omega, rfl, by simp, Below.refl _ _⟩
                      case round =>
                        obtain ⟨q, hq, rfl, hno, hBz⟩ := hrel
                        have HNO : Hid ((U.take q).any (fun u => u == (x0, x1) || u == (x2, x3)) = false) := hno
                        have HBz : Hid (Below wo.heap.size wo wr) := HB3.out.trans (hBz.mono HB3.out.size)
                        have HBc : Hid (Below wc.heap.size wc wr) := hBz
                        have HBzw : Hid (Below w.heap.size w wr) := HBw.out.trans (HBz.out.mono HBw.out.size)
                        obtain ⟨b0, b1, b2⟩ := HXr.out.later HBz.out
                        have HVz : Hid (VAt wr wo.heap.size 0 (lnkE.c ((x0, x1), (x2, x3)))) := HV3.out.later hBz
                        obtain ⟨l0, l1, l2, l3⟩ := lnk_cells HVz.out
                        simp only [Nat.zero_add] at l0 l1 l2 l3
                        have hll : wo.heap.size < wr.heap.size := World.block_lt_of_cell? _ _ l0
                        clear hno hBz
                        by_cases hqm : q < m
                        · obtain ⟨g3, o3, hao3, hc3, _⟩ := HUA.out (by omega)
                          subst hao3
                          obtain ⟨v0, v1, hql, hUq, p0, p1⟩ := spo_at (hc3.later HBz.out) HMU.out hqm
                          have HUQ : Hid (U[q] = (v0, v1)) := hUq
                          have qb0 : (0 : Int) ≤ (q : Int) := by omega
                          have qb1 : (q : Int) < (m : Int) := by omega
                          have hgl3 : g3 < wr.heap.size := World.block_lt_of_cell? _ _ p0
                          have HHIT : Hid (((v0 == x0 && v1 == x1) || (v0 == x2 && v1 == x3)) = true → T = 7) := fun hy => by
                            have e : lk1 S U ((x0, x1), (x2, x3)) = 7 := by
                              rw [HL8.out, any_hitG hql (by rw [HUQ.out]; exact hy)]
                              rfl
                            have := HT7.out (by rw [e]; decide)
                            rw [e] at this
                            exact this
                          have HNXT : Hid (((v0 == x0 && v1 == x1) || (v0 == x2 && v1 == x3)) = false → (U.take (q + 1)).any (fun u => u == (x0, x1) || u == (x2, x3)) = false) := fun hy => any_nextG hql HNO.out (by rw [HUQ.out]; exact hy)
                          clear hc3 hUq
                          rcases eq2_ways v0 v1 x0 x1 with ⟨f0, f1, f2⟩ | ⟨f0, f1, f2⟩ | ⟨f0, f1⟩
                          · have HT1 : Hid (T = 7) := HHIT.out (by rw [f0]; rfl)
                            go_wp2_with fail
                            go_quiet (fail)
                            go_wp2
                            go_ret
                            exact ⟨by rw [HT1.out]; rfl, HBzw.out.trans ((below_drewN _ _).mono HBzw.out.size)⟩
                          · rcases eq2_ways v0 v1 x2 x3 with ⟨d0, d1, d2⟩ | ⟨d0, d1, d2⟩ | ⟨d0, d1⟩
                            · have HT1 : Hid (T = 7) := HHIT.out (by rw [f0, d0]; rfl)
                              go_wp2_with fail
                              go_quiet (fail)
                              go_wp2
                              go_ret
                              exact ⟨by rw [HT1.out]; rfl, HBzw.out.trans ((below_drewN _ _).mono HBzw.out.size)⟩
                            · have HN1 : Hid ((U.take (q + 1)).any (fun u => u == (x0, x1) || u == (x2, x3)) = false) := HNXT.out (by rw [f0, d0]; rfl)
                              go_wp2_with fail
                              go_quiet (fail)
                              go_wp2
                              go_roundw
                              case rel => exact ⟨q + 1, by omega, by go_num, HN1.out, HBc.out.trans ((below_drewN _ _).mono HBc.out.size)⟩
                              case measure => simp [intOf]; omega
                            · have HN1 : Hid ((U.take (q + 1)).any (fun u => u == (x0, x1) || u == (x2, x3)) = false) := HNXT.out (by rw [f0, d0]; rfl)
                              go_wp2_with fail
                              go_quiet (fail)
                              go_wp2
                              go_roundw
                              case rel => exact ⟨q + 1, by omega, by go_num, HN1.out, HBc.out.trans ((below_drewN _ _).mono HBc.out.size)⟩
                              case measure => simp [intOf]; omega
                          · rcases eq2_ways v0 v1 x2 x3 with ⟨d0, d1, d2⟩ | ⟨d0, d1, d2⟩ | ⟨d0, d1⟩
                            · have HT1 : Hid (T = 7) := HHIT.out (by rw [f0, d0]; rfl)
                              go_wp2_with fail
                              go_quiet (fail)
                              go_wp2
                              go_ret
                              exact ⟨by rw [HT1.out]; rfl, HBzw.out.trans ((below_drewN _ _).mono HBzw.out.size)⟩
                            · have HN1 : Hid ((U.take (q + 1)).any (fun u => u == (x0, x1) || u == (x2, x3)) = false) := HNXT.out (by rw [f0, d0]; rfl)
                              go_wp2_with fail
                              go_quiet (fail)
                              go_wp2
                              go_roundw
                              case rel => exact ⟨q + 1, by omega, by go_num, HN1.out, HBc.out.trans ((below_drewN _ _).mono HBc.out.size)⟩
                              case measure => simp [intOf]; omega
                            · have HN1 : Hid ((U.take (q + 1)).any (fun u => u == (x0, x1) || u == (x2, x3)) = false) := HNXT.out (by rw [f0, d0]; rfl)
                              go_wp2_with fail
                              go_quiet (fail)
                              go_wp2
                              go_roundw
                              case rel => exact ⟨q + 1, by omega, by go_num, HN1.out, HBc.out.trans ((below_drewN _ _).mono HBc.out.size)⟩
                              case measure => simp [intOf]; omega
                        · obtain rfl : q = m := by omega
                          have HAN : Hid ((U.any fun u => u == (x0, x1) || u == (x2, x3)) = false) := by
                            have := HNO.out
                            rw [← HMU.out] at this
                            exact any_take this
                          have HL0 : Hid (lkN S Ls [] = lkN S (Ls.drop (k + 1)) (U ++ [(x0, x1), (x2, x3)])) := by
                            show _ = _
                            have e : lk1 S U ((x0, x1), (x2, x3)) = 0 := by
                              rw [HL8.out, HAN.out]
                              rfl
                            rw [HLK1.out, if_pos e]
                          have HOZ : Hid (wr.ownsRow w0.heap.size 27 2 (.slice ao3 q cap3) q (cellsG spoE U)) := own_below HOWN.out HBz.out
                          have HBz0 : Hid (Below w0.heap.size w0 wr) := HBr.out.trans (HBz.out.mono HBr.out.size)
                          have hsz0 : w0.heap.size ≤ wr.heap.size := HBz0.out.size
                          go_wp2_with (at_builtin; refine wpList_append_own _ rfl _ _ 81 rfl w0.heap.size 27 i0 (.agg #[.int .i64 0, .int .i64 0]) 2 16 Tryd.underlying81 hi hz0 hz1 hz2 spo_zero (by decide) _ _ _ rfl (HOZ.out.alloc _) ⟨wr.heap.size, 0, none⟩ 1 1 [.int .i64 x0, .int .i64 x1] rfl rfl ?m1 ?m2 ?m3 ?m4 ?m5 ?_)
                          case m1 =>
                            intro j u hj
                            match j, hj with
                            | 0, hj => simp at hj; subst hj; simp [Addr.add]
                            | 1, hj => simp at hj; subst hj; simp [Addr.add]
                          case m2 => intro u hu; simp at hu; rcases hu with rfl | rfl <;> rfl
                          case m3 => unfold maxLen; omega
                          case m4 => omega
                          case m5 => simp; omega
                          intro v5 w5 hown5 hgrow5 _
                          obtain ⟨ao5, cap5, rfl⟩ := own_form hown5
                          have hb5 : Below w0.heap.size wr w5 := ((Below.refl _ wr).alloc hsz0 _).grown hgrow5 (by simp; omega) (fun g hg => (HOZ.out.lt g hg).1)
                          have HB5 : Hid (Below w0.heap.size w0 w5) := HBz0.out.trans hb5
                          have hk5 : ∀ i, w5.cell? ⟨wo.heap.size, i, none⟩ = (wr.alloc (Obj.cells #[.int .i64 x0, .int .i64 x1] 27)).cell? ⟨wo.heap.size, i, none⟩ := fun i => grown_cell hgrow5 (by simp; omega) (fun g hg e => by
                            have := (HOWN.out.lt g hg).2
                            omega) i
                          have l2' := (hk5 2).trans (cell_later ((Below.refl _ wr).alloc (Nat.le_refl _) _) l2)
                          have l3' := (hk5 3).trans (cell_later ((Below.refl _ wr).alloc (Nat.le_refl _) _) l3)
                          obtain ⟨b0', b1', b2'⟩ := HX.out.later HB5.out
                          have HO5 : Hid (w5.ownsRow w0.heap.size 27 2 (.slice ao5 (q + 1) cap5) (q + 1) (cellsG spoE U ++ [.int .i64 x0, .int .i64 x1])) := hown5
                          have hsz5 : w0.heap.size ≤ w5.heap.size := HB5.out.size
                          clear hb5 hk5 hgrow5 hown5 b0 b1 b2 l0 l1 l2 l3
                          go_wp2_with (at_builtin; refine wpList_append_own _ rfl _ _ 81 rfl w0.heap.size 27 i0 (.agg #[.int .i64 0, .int .i64 0]) 2 16 Tryd.underlying81 hi hz0 hz1 hz2 spo_zero (by decide) _ _ _ rfl (HO5.out.alloc _) ⟨w5.heap.size, 0, none⟩ 1 1 [.int .i64 x2, .int .i64 x3] rfl rfl ?k1 ?k2 ?k3 ?k4 ?k5 ?_)
                          case k1 =>
                            intro j u hj
                            match j, hj with
                            | 0, hj => simp at hj; subst hj; simp [Addr.add]
                            | 1, hj => simp at hj; subst hj; simp [Addr.add]
                          case k2 => intro u hu; simp at hu; rcases hu with rfl | rfl <;> rfl
                          case k3 => unfold maxLen; omega
                          case k4 => omega
                          case k5 => simp; omega
                          intro v6 w6 hown6 hgrow6 _
                          obtain ⟨ao6, cap6, rfl⟩ := own_form hown6
                          have hb6 : Below w0.heap.size w5 w6 := ((Below.refl _ w5).alloc hsz5 _).grown hgrow6 (by simp; omega) (fun g hg => (HO5.out.lt g hg).1)
                          have HB6 : Hid (Below w0.heap.size w0 w6) := HB5.out.trans hb6
                          have HO6 : Hid (w6.ownsRow w0.heap.size 27 2 (.slice ao6 (q + 1 + 1) cap6) (spsL (Ls.take (k + 1))).length (cellsG spoE (spsL (Ls.take (k + 1))))) := by
                            show World.ownsRow _ _ _ _ _ _ _
                            rw [HUN.out]
                            exact own_two HMU.out hown6
                          have HL1 : Hid (lkN S Ls [] = lkN S (Ls.drop (k + 1)) (spsL (Ls.take (k + 1)))) := by
                            show _ = _
                            rw [HL0.out, HUN.out]
                          clear hb6 hgrow6 hown6 b0' b1' b2' l2' l3'
                          go_wp2
                          go_roundw
                          case rel => exact ⟨k + 1, HK1.out, by go_num, HO6.out, HL1.out, HB6.out⟩
                          case measure =>
                            have := HK1.out
                            simp [intOf]
                            omega
            · obtain rfl : k = n := by omega
              have hU2 : U = spsL Ls := by
                rw [HU.out, ← HLN.out, List.take_length]
              have HM2 : Hid (T = hoN S Hs [] (spsL Ls)) := by
                show _ = _
                have e : lkN S Ls [] = 0 := by
                  rw [HLK.out, ← HLN.out, List.drop_length]
                  rfl
                rw [HM.out, if_pos e]
              subst hU2
              clear HLK HU HLA HM
              go_wp2
              go_loopw [3, 9] (fun u i wz => ∃ j : Nat, j ≤ n2 ∧ i = .int .i64 j ∧ wz.ownsRow w0.heap.size 27 2 u (spsL Ls ++ (Hs.take j).map (·.2)).length (cellsG spoE (spsL Ls ++ (Hs.take j).map (·.2))) ∧ T = hoN S (Hs.drop j) ((Hs.take j).map (·.1)) (spsL Ls ++ (Hs.take j).map (·.2)) ∧ Below w0.heap.size w0 wz) (fun _ i _ => n2 - (intOf i).toNat)
              case atStart => exact ⟨0, by omega, rfl, by simpa [HMU.out] using HOWN.out, by simpa using HM2.out, HBr.out⟩
              case round =>
                clear HMU HOWN HM2 HBr HBw HXr b0 b1 b2 hlw hlen
                obtain ⟨j, hj, rfl, hown, hTj, hBz⟩ := hrel
                obtain ⟨ao3, cap3, rfl⟩ := own_form hown
                obtain ⟨wp, hwp⟩ : ∃ x, x = wr := ⟨_, rfl⟩
                subst hwp
                have hn8 : n2 ≤ 8 := H8.out
                obtain ⟨U, hU⟩ : ∃ U, U = spsL Ls ++ (Hs.take j).map (·.2) := ⟨_, rfl⟩
                obtain ⟨N, hN⟩ : ∃ N, N = (Hs.take j).map (·.1) := ⟨_, rfl⟩
                have HU : Hid (U = spsL Ls ++ (Hs.take j).map (·.2)) := hU
                have HN : Hid (N = (Hs.take j).map (·.1)) := hN
                rw [← hU] at hown
                rw [← hU, ← hN] at hTj
                rw [← hU]
                have hlen : U.length ≤ 410 := by
                  rw [hU, List.length_append, sps_len, List.length_map, List.length_take]
                  have := HLN.out
                  omega
                obtain ⟨m, hm⟩ : ∃ m, m = U.length := ⟨_, rfl⟩
                have HMU : Hid (U.length = m) := hm.symm
                rw [← hm] at hown hlen
                rw [← hm]
                have HOWN : Hid (wp.ownsRow w0.heap.size 27 2 (.slice ao3 m cap3) m (cellsG spoE U)) := hown
                have HTJ : Hid (T = hoN S (Hs.drop j) N U) := hTj
                have HBr : Hid (Below w0.heap.size w0 wp) := hBz
                have HBw : Hid (Below w.heap.size w wp) := HB.out.trans (hBz.mono HB.out.size)
                have HXr : Hid (TBox wp w.heap.size S (.slice ao k cap) (.slice ao2 n2 cap2)) := HX.out.later hBz
                obtain ⟨b0, b1, b2⟩ := HXr.out
                have hlw : w.heap.size < wp.heap.size := World.block_lt_of_cell? _ _ b0
                clear hown hTj hBz hU hN hm
                by_cases hlt : j < n2
                · have HK1 : Hid (j + 1 ≤ n2) := hlt
                  obtain ⟨g, o, hao, hc, _⟩ := HHA.out (by omega)
                  subst hao
                  obtain ⟨y0, y1, y2, hkl, hHk, q0, q1, q2⟩ := hst_at (hc.later HBw.out) HHN.out hlt
                  have HHC : Hid (GAt hstE wp g o Hs) := hc.later HBw.out
                  have HTN : Hid (T = if ho1 S N U (y0, (y1, y2)) = 0 then hoN S (Hs.drop (j + 1)) (N ++ [y0]) (U ++ [(y1, y2)]) else ho1 S N U (y0, (y1, y2))) := by
                    show _ = _
                    rw [HTJ.out, List.drop_eq_getElem_cons hkl, ho_step, hHk]
                  have HT7 : Hid (ho1 S N U (y0, (y1, y2)) ≠ 0 → T = ho1 S N U (y0, (y1, y2))) := fun h => by
                    have e := HTN.out
                    rw [if_neg h] at e
                    exact e
                  have HUN : Hid (spsL Ls ++ (Hs.take (j + 1)).map (·.2) = U ++ [(y1, y2)]) := by
                    show _ = _
                    rw [List.take_succ_eq_append_getElem hkl, List.map_append, hHk, HU.out, List.append_assoc]
                    rfl
                  have HNN : Hid ((Hs.take (j + 1)).map (·.1) = N ++ [y0]) := by
                    show _ = _
                    rw [List.take_succ_eq_append_getElem hkl, List.map_append, hHk, HN.out]
                    rfl
                  have HBA : Hid (Below wp.heap.size wp (wp.alloc (Obj.cells #[Value.string y0, Value.int IntKind.i64 y1, Value.int IntKind.i64 y2] 38))) := (Below.refl _ _).alloc (Nat.le_refl _) _
                  have HVA : Hid (VAt (wp.alloc (Obj.cells #[Value.string y0, Value.int IntKind.i64 y1, Value.int IntKind.i64 y2] 38)) wp.heap.size 0 (hstE.c (y0, (y1, y2)))) := hst_new wp y0 y1 y2 38
                  clear hHk hc
                  go_wp2_with fail
                  refine (rname_any y0 _).mono ?_
                  rintro e w2 ⟨rfl, hw2⟩
                  subst hw2
                  obtain ⟨w2, hw2⟩ : ∃ W, wp.alloc (Obj.cells #[Value.string y0, Value.int IntKind.i64 y1, Value.int IntKind.i64 y2] 38) = W := ⟨_, rfl⟩
                  rw [hw2] at HBA HVA ⊢
                  have HB2w : Hid (Below w.heap.size w w2) := HBw.out.trans (HBA.out.mono HBw.out.size)
                  obtain ⟨b0, b1, b2⟩ := HXr.out.later HBA.out
                  obtain ⟨l0, l1, l2⟩ := hst_cells HVA.out
                  simp only [Nat.zero_add] at l0 l1 l2
                  clear hw2 q0 q1 q2
                  cases hna : nmB y0
                  · have HT1 : Hid (T = 2) := by
                      have e : ho1 S N U (y0, (y1, y2)) = 2 := by simp [ho1, hna]
                      have := HT7.out (by rw [e]; decide)
                      rw [e] at this
                      exact this
                    go_wp2
                    go_ret
                    exact ⟨by rw [HT1.out]; rfl, HB2w.out⟩
                  · go_wp2_with fail
                    refine (rspot_any S ao k cap (some ⟨g, o, none⟩) n2 cap2 y1 y2 _).mono ?_
                    rintro e w3 ⟨rfl, hb3⟩
                    have hB3 : Below wp.heap.size wp w3 := HBA.out.trans (hb3.mono HBA.out.size)
                    have HB3 : Hid (Below wp.heap.size wp w3) := hB3
                    have HB3w : Hid (Below w.heap.size w w3) := HBw.out.trans (hB3.mono HBw.out.size)
                    have HV3 : Hid (VAt w3 wp.heap.size 0 (hstE.c (y0, (y1, y2)))) := HVA.out.later hb3
                    obtain ⟨b0, b1, b2⟩ := HXr.out.later hB3
                    obtain ⟨l0, l1, l2⟩ := hst_cells HV3.out
                    simp only [Nat.zero_add] at l0 l1 l2
                    clear hb3 hB3 HBA HVA HB2w
                    cases hsp : spB S (y1, y2)
                    · have HT1 : Hid (T = 1) := by
                        have e : ho1 S N U (y0, (y1, y2)) = 1 := by simp [ho1, hna, hsp]
                        have := HT7.out (by rw [e]; decide)
                        rw [e] at this
                        exact this
                      go_wp2
                      go_ret
                      exact ⟨by rw [HT1.out]; rfl, HB3w.out⟩
                    · have HL7 : Hid (ho1 S N U (y0, (y1, y2)) = if (N.any fun n => n == y0) || (U.any fun u => u == (y1, y2)) then 7 else 0) := by
                        show _ = _
                        simp only [ho1, hna, hsp, if_true]
                      have HNL : Hid (N.length = j) := by
                        show _ = _
                        rw [HN.out, List.length_map, List.length_take, HHN.out]
                        omega
                      have HNQ : Hid (∀ q (h1 : q < N.length) (h2 : q < Hs.length), N[q] = (Hs[q]).1) := fun q h1 h2 => by
                        have e := HN.out
                        subst e
                        simp
                      obtain ⟨_, _, _, e5, hUn, hUm, _, hUa⟩ := (own_GS (E := spoE) (L := U) (by rw [HMU.out]; exact HOWN.out) : GS spoE wp (.slice ao3 m cap3) U).form
                      cases e5
                      have HUA : Hid (0 < m → ∃ g o, ao3 = some ⟨g, o, none⟩ ∧ GAt spoE wp g o U ∧ cap3 ≤ maxLen) := hUa
                      clear hUn hUm hUa b0 b1 b2 l0 l1 l2
                      go_wp2
                      go_loopw [13] (fun i wz => ∃ q : Nat, q ≤ j ∧ i = .int .i64 q ∧ (N.take q).any (fun n => n == y0) = false ∧ Below w3.heap.size w3 wz) (fun i _ => j - (intOf i).toNat)
                      case atStart => exact ⟨0, by omega, rfl, by simp, Below.refl _ _⟩
                      case round =>
                        obtain ⟨q, hq, rfl, hno, hBz⟩ := hrel
                        obtain ⟨wn, hwn⟩ : ∃ x, x = wr := ⟨_, rfl⟩
                        subst hwn
                        have HNO : Hid ((N.take q).any (fun n => n == y0) = false) := hno
                        have HBz : Hid (Below wp.heap.size wp wn) := HB3.out.trans (hBz.mono HB3.out.size)
                        have HBc : Hid (Below w3.heap.size w3 wn) := hBz
                        have HBzw : Hid (Below w.heap.size w wn) := HBw.out.trans (HBz.out.mono HBw.out.size)
                        obtain ⟨b0, b1, b2⟩ := HXr.out.later HBz.out
                        have HVz : Hid (VAt wn wp.heap.size 0 (hstE.c (y0, (y1, y2)))) := HV3.out.later hBz
                        obtain ⟨l0, l1, l2⟩ := hst_cells HVz.out
                        simp only [Nat.zero_add] at l0 l1 l2
                        have hll : wp.heap.size < wn.heap.size := World.block_lt_of_cell? _ _ l0
                        have hlw : w.heap.size < wn.heap.size := World.block_lt_of_cell? _ _ b0
                        clear hno hBz
                        by_cases hqj : q < j
                        · obtain ⟨z0, z1, z2, hql, hHq, p0, p1, p2⟩ := hst_at (HHC.out.later HBz.out) HHN.out (show q < n2 by omega)
                          have hqN : q < N.length := by rw [HNL.out]; exact hqj
                          have hNq : N[q] = z0 := by rw [HNQ.out q hqN hql, hHq]
                          have qb0 : (0 : Int) ≤ (q : Int) := by omega
                          have qb1 : (q : Int) < (n2 : Int) := by omega
                          have hgl3 : g < wn.heap.size := World.block_lt_of_cell? _ _ p0
                          have HHIT : Hid ((z0 == y0) = true → T = 7) := fun hy => by
                            have e : ho1 S N U (y0, (y1, y2)) = 7 := by
                              rw [HL7.out, any_hitG hqN (by rw [hNq]; exact hy)]
                              rfl
                            have := HT7.out (by rw [e]; decide)
                            rw [e] at this
                            exact this
                          have HNXT : Hid ((z0 == y0) = false → (N.take (q + 1)).any (fun n => n == y0) = false) := fun hy => any_nextG hqN HNO.out (by rw [hNq]; exact hy)
                          have hbe := beq_toListBytes z0 y0
                          clear hHq hNq
                          cases hz : (z0 == y0)
                          · have HN1 : Hid ((N.take (q + 1)).any (fun n => n == y0) = false) := HNXT.out hz
                            rw [hbe] at hz
                            clear hbe
                            go_wp2_with fail
                            go_quiet (fail)
                            go_wp2
                            go_roundw
                            case rel => exact ⟨q + 1, by omega, by go_num, HN1.out, HBc.out.trans ((below_drewN _ _).mono HBc.out.size)⟩
                            case measure => simp [intOf]; omega
                          · have HT1 : Hid (T = 7) := HHIT.out hz
                            rw [hbe] at hz
                            clear hbe
                            go_wp2_with fail
                            go_quiet (fail)
                            go_wp2
                            go_ret
                            exact ⟨by rw [HT1.out]; rfl, HBzw.out.trans ((below_drewN _ _).mono HBzw.out.size)⟩
                        · obtain rfl : q = j := by omega
                          have HAN : Hid ((N.any fun n => n == y0) = false) := by
                            have := HNO.out
                            rw [← HNL.out] at this
                            exact any_take this
                          have HL8 : Hid (ho1 S N U (y0, (y1, y2)) = if (U.any fun u => u == (y1, y2)) then 7 else 0) := by
                            show _ = _
                            rw [HL7.out, HAN.out, Bool.false_or]
                          clear b0 b1 b2 l0 l1 l2
                          go_wp2
                          go_loopw [14] (fun i wz => ∃ q : Nat, q ≤ m ∧ i = .int .i64 q ∧ (U.take q).any (fun u => u == (y1, y2)) = false ∧ Below wn.heap.size wn wz) (fun i _ => m - (intOf i).toNat)
                          case atStart => exact ⟨0, by omega, rfl, by simp, Below.refl _ _⟩
                          case round =>
                            obtain ⟨r, hr, rfl, hno, hBy⟩ := hrel
                            have HNO2 : Hid ((U.take r).any (fun u => u == (y1, y2)) = false) := hno
                            have HBy : Hid (Below wp.heap.size wp wr) := HBz.out.trans (hBy.mono HBz.out.size)
                            have HBcy : Hid (Below wn.heap.size wn wr) := hBy
                            have HByw : Hid (Below w.heap.size w wr) := HBw.out.trans (HBy.out.mono HBw.out.size)
                            obtain ⟨b0, b1, b2⟩ := HXr.out.later HBy.out
                            have HVy : Hid (VAt wr wp.heap.size 0 (hstE.c (y0, (y1, y2)))) := HVz.out.later hBy
                            obtain ⟨l0, l1, l2⟩ := hst_cells HVy.out
                            simp only [Nat.zero_add] at l0 l1 l2
                            have hll : wp.heap.size < wr.heap.size := World.block_lt_of_cell? _ _ l0
                            clear hno hBy
                            by_cases hrm : r < m
                            · obtain ⟨g3, o3, hao3, hc3, _⟩ := HUA.out (by omega)
                              subst hao3
                              obtain ⟨v0, v1, hql, hUq, p0, p1⟩ := spo_at (hc3.later HBy.out) HMU.out hrm
                              have HUQ : Hid (U[r] = (v0, v1)) := hUq
                              have qb0 : (0 : Int) ≤ (r : Int) := by omega
                              have qb1 : (r : Int) < (m : Int) := by omega
                              have hgl3 : g3 < wr.heap.size := World.block_lt_of_cell? _ _ p0
                              have HHIT : Hid ((v0 == y1 && v1 == y2) = true → T = 7) := fun hy => by
                                have e : ho1 S N U (y0, (y1, y2)) = 7 := by
                                  rw [HL8.out, any_hitG hql (by rw [HUQ.out]; exact hy)]
                                  rfl
                                have := HT7.out (by rw [e]; decide)
                                rw [e] at this
                                exact this
                              have HNXT : Hid ((v0 == y1 && v1 == y2) = false → (U.take (r + 1)).any (fun u => u == (y1, y2)) = false) := fun hy => any_nextG hql HNO2.out (by rw [HUQ.out]; exact hy)
                              clear hc3 hUq
                              rcases eq2_ways v0 v1 y1 y2 with ⟨f0, f1, f2⟩ | ⟨f0, f1, f2⟩ | ⟨f0, f1⟩
                              · have HT1 : Hid (T = 7) := HHIT.out f0
                                go_wp2_with fail
                                go_quiet (fail)
                                go_wp2
                                go_ret
                                exact ⟨by rw [HT1.out]; rfl, HByw.out.trans ((below_drewN _ _).mono HByw.out.size)⟩
                              · have HN1 : Hid ((U.take (r + 1)).any (fun u => u == (y1, y2)) = false) := HNXT.out f0
                                go_wp2_with fail
                                go_quiet (fail)
                                go_wp2
                                go_roundw
                                case rel => exact ⟨r + 1, by omega, by go_num, HN1.out, HBcy.out.trans ((below_drewN _ _).mono HBcy.out.size)⟩
                                case measure => simp [intOf]; omega
                              · have HN1 : Hid ((U.take (r + 1)).any (fun u => u == (y1, y2)) = false) := HNXT.out f0
                                go_wp2_with fail
                                go_quiet (fail)
                                go_wp2
                                go_roundw
                                case rel => exact ⟨r + 1, by omega, by go_num, HN1.out, HBcy.out.trans ((below_drewN _ _).mono HBcy.out.size)⟩
                                case measure => simp [intOf]; omega
                            · obtain rfl : r = m := by omega
                              have HT0 : Hid (T = hoN S (Hs.drop (q + 1)) ((Hs.take (q + 1)).map (·.1)) (spsL Ls ++ (Hs.take (q + 1)).map (·.2))) := by
                                show _ = _
                                have e : ho1 S N U (y0, (y1, y2)) = 0 := by
                                  have h2 := HNO2.out
                                  rw [← HMU.out] at h2
                                  rw [HL8.out, any_take h2]
                                  rfl
                                rw [HTN.out, if_pos e, HUN.out, HNN.out]
                              have HOZ : Hid (wr.ownsRow w0.heap.size 27 2 (.slice ao3 r cap3) r (cellsG spoE U)) := own_below HOWN.out HBy.out
                              have HBz0 : Hid (Below w0.heap.size w0 wr) := HBr.out.trans (HBy.out.mono HBr.out.size)
                              have hsz0 : w0.heap.size ≤ wr.heap.size := HBz0.out.size
                              go_wp2_with (at_builtin; refine wpList_append_own _ rfl _ _ 81 rfl w0.heap.size 27 i0 (.agg #[.int .i64 0, .int .i64 0]) 2 16 Tryd.underlying81 hi hz0 hz1 hz2 spo_zero (by decide) _ _ _ rfl (HOZ.out.alloc _) ⟨wr.heap.size, 0, none⟩ 1 1 [.int .i64 y1, .int .i64 y2] rfl rfl ?n1 ?n2 ?n3 ?n4 ?n5 ?_)
                              case n1 =>
                                intro j u hj
                                match j, hj with
                                | 0, hj => simp at hj; subst hj; simp [Addr.add]
                                | 1, hj => simp at hj; subst hj; simp [Addr.add]
                              case n2 => intro u hu; simp at hu; rcases hu with rfl | rfl <;> rfl
                              case n3 => unfold maxLen; omega
                              case n4 => omega
                              case n5 => simp; omega
                              intro v5 w5 hown5 hgrow5 _
                              obtain ⟨ao5, cap5, rfl⟩ := own_form hown5
                              have hb5 : Below w0.heap.size wr w5 := ((Below.refl _ wr).alloc hsz0 _).grown hgrow5 (by simp; omega) (fun g hg => (HOZ.out.lt g hg).1)
                              have HB5 : Hid (Below w0.heap.size w0 w5) := HBz0.out.trans hb5
                              have HO5 : Hid (w5.ownsRow w0.heap.size 27 2 (.slice ao5 (r + 1) cap5) (spsL Ls ++ (Hs.take (q + 1)).map (·.2)).length (cellsG spoE (spsL Ls ++ (Hs.take (q + 1)).map (·.2)))) := by
                                show World.ownsRow _ _ _ _ _ _ _
                                rw [HUN.out]
                                exact own_one1 HMU.out hown5
                              clear hb5 hgrow5 hown5 b0 b1 b2 l0 l1 l2
                              go_wp2
                              go_roundw
                              case rel => exact ⟨q + 1, HK1.out, by go_num, HO5.out, HT0.out, HB5.out⟩
                              case measure =>
                                have := HK1.out
                                simp [intOf]
                                omega
                · obtain rfl : j = n2 := by omega
                  have HT0 : Hid (T = 0) := by
                    show _ = _
                    rw [HTJ.out, ← HHN.out, List.drop_length]
                    rfl
                  go_wp2
                  go_ret
                  exact ⟨by rw [HT0.out]; rfl, HBw.out⟩
        · have s1 : decide (S < 1) = false := by simp; omega
          have s2 : decide (6 < S) = false := by simp; omega
          have s3 : decide (200 < (n : Int)) = false := by simp; omega
          have s4 : decide (8 < (n2 : Int)) = true := by simp; omega
          have HTE : Hid (T = 4) := by
            show _ = _
            have e1 : (decide (1 ≤ S) && decide (S ≤ 6)) = true := by simp [h1, h6]
            have e2 : (decide (Ls.length ≤ 200) && decide (Hs.length ≤ 8)) = false := by simp [hLn, hHn, h2]; omega
            rw [hT, tpN, if_pos e1, e2]
            rfl
          clear hX hB HT hT hL hH hLn hHn hLm hHm hLa hHa h1 h6 h2 h8
          go_enter Tryd.func7, Tryd.ntmps7
          go_wp2
          go_ret
          exact ⟨by rw [HTE.out]; rfl, HB0'.out⟩
      · have s1 : decide (S < 1) = false := by simp; omega
        have s2 : decide (6 < S) = false := by simp; omega
        have s3 : decide (200 < (n : Int)) = true := by simp; omega
        have HTE : Hid (T = 4) := by
          show _ = _
          have e1 : (decide (1 ≤ S) && decide (S ≤ 6)) = true := by simp [h1, h6]
          have e2 : (decide (Ls.length ≤ 200) && decide (Hs.length ≤ 8)) = false := by simp [hLn]; omega
          rw [hT, tpN, if_pos e1, e2]
          rfl
        clear hX hB HT hT hL hH hLn hHn hLm hHm hLa hHa h1 h6 h2
        go_enter Tryd.func7, Tryd.ntmps7
        go_wp2
        go_ret
        exact ⟨by rw [HTE.out]; rfl, HB0'.out⟩
    · have s1 : decide (S < 1) = false := by simp; omega
      have s2 : decide (6 < S) = true := by simp; omega
      have HTE : Hid (T = 1) := by
        show _ = _
        have e1 : (decide (1 ≤ S) && decide (S ≤ 6)) = false := by simp; omega
        rw [hT, tpN, e1]
        rfl
      clear hX hB HT hT hL hH hLn hHn hLm hHm hLa hHa h1 h6
      go_enter Tryd.func7, Tryd.ntmps7
      go_wp2
      go_ret
      exact ⟨by rw [HTE.out]; rfl, HB0'.out⟩
  · have s1 : decide (S < 1) = true := by simp; omega
    have HTE : Hid (T = 1) := by
      show _ = _
      have e1 : (decide (1 ≤ S) && decide (S ≤ 6)) = false := by simp; omega
      rw [hT, tpN, e1]
      rfl
    clear hX hB HT hT hL hH hLn hHn hLm hHm hLa hHa h1
    go_enter Tryd.func7, Tryd.ntmps7
    go_wp2
    go_ret
    exact ⟨by rw [HTE.out]; rfl, HB0'.out⟩
end Go.Proofs.YtfbocionnjlilacDoor
