/- Contracts and facts on the way to WishTells, joined into one text: StrClone, NetFollow, RefGo, RefFrom. -/
import Derived.Test.YtpmcjelihdlfeaaGreatDoorWishTellsP5
import Derived.Test.YtpmcjelihdlfeaaGreatDoorWishTellsP4
import Derived.Test.YtpmcjelihdlfeaaGreatDoorWishTellsP3
import Derived.Test.YtpmcjelihdlfeaaGreatDoorRows
import Derived.Lib.Strings
import Derived.Lib.Walk
import Derived.Lib.BufferWrite
import Derived.Lib.UnsafeStr
import Derived.Laws.MakeOwn
import Derived.WalkKit
import Derived.WalkSpells
import Derived.Below
import Derived.BigRegion
import Derived.Deep.RegionWith
import Derived.Deep.RegionHeld3
import Derived.Deep.CutRange
import Derived.Deep.CutBlock
import Derived.Deep.QuietTactic
import Derived.BigQuiet
/- What strings.Clone answers: the text itself. -/
namespace Go.Proofs.YtpmcjelihdlfeaaGreatDoor
open Go.RowKit
set_option linter.unusedSimpArgs false
set_option linter.unusedVariables false

theorem infoByte : (Tryz.prog.info? 5).map (fun i => (i.zero, i.size, i.bytes)) = some (some (.int .u8 0), 1, 1) := by kernel_rfl
set_option maxHeartbeats 1000000 in
set_option maxRecDepth 100000 in
theorem liteClone (s : ByteArray) (w : World) (hlim : s.size ≤ 1000000) :
    Calls Tryz.prog 54 #[.string s] w fun e w' => e = .returned (.string s) ∧ Below w.heap.size w w' := by
  by_cases h0 : s.size = 0
  · have hs : s = ⟨#[]⟩ := by
      apply ByteArray.ext
      exact Array.eq_empty_of_size_eq_zero h0
    subst hs
    go_enter Tryz.func54, Tryz.ntmps54
    go_wp2
    go_ret
    exact ⟨rfl, Below.refl _ _⟩
  · obtain ⟨i0, hi, hz0, hz1, hz2⟩ := info_parts infoByte
    have hinfo : (Tryz.prog.info? 5).map (·.size) = some 1 := by rw [hi]; simp [hz1]
    have hco : Tryz.prog.cellsOf 5 = 1 := by simp [Program.cellsOf, hi, hz1]
    obtain ⟨M, hM⟩ : ∃ M, M = madeCells (Value.int .u8 0).cells (((s.size : Nat) : Int).toNat * i0.size) := ⟨_, rfl⟩
    have hMs : M.size = s.size := by rw [hM, size_madeCells, hz1]; simp
    have hmk : (Instr.makeSlice 149 (.int .i64 (s.size : Int)) (.int .i64 (s.size : Int))).run Tryz.prog w = .ok (.slice (some ⟨w.heap.size, 0, none⟩) s.size s.size) (w.alloc (.cells M 5)) := by
      have h := run_make (P := Tryz.prog) w 149 5 i0 (.int .u8 0) Tryz.underlying149 hi hz0 .i64 .i64 (s.size : Int) (s.size : Int) (by omega) (by omega) (by rw [hz2]; omega) (by omega)
      rw [← hM] at h
      simpa using h
    clear hM
    have hcp := Lib.run_copy_row_string (P := Tryz.prog) (w.alloc (.cells M 5)) 149 9 3 5 w.heap.size 0 s.size s.size s M 5 Tryz.underlying149 hinfo (heap_alloc_new w _) (Nat.le_refl _) (by omega)
    obtain ⟨Y, hY⟩ : ∃ Y, Y = (M.toList.take 0 ++ Lib.byteCells s.data.toList ++ M.toList.drop (0 + s.size)).toArray := ⟨_, rfl⟩
    rw [← hY] at hcp
    have hYl : Y.toList = Lib.byteCells s.data.toList := by
      rw [hY, List.toList_toArray, List.take_zero, List.nil_append, List.drop_of_length_le (by rw [Array.length_toList]; omega), List.append_nil]
    have hYs : Y.size = s.size := by rw [← Array.length_toList, hYl, Lib.byteCells_length, ← Lib.size_eq]
    have hgY : ((w.alloc (.cells M 5)).setRow w.heap.size Y).heap[w.heap.size]? = some (.cells Y 5 (0, 0)) := setRow_heap _ _ M _ 5 (0, 0) (heap_alloc_new w _)
    have hne : s.data.toList ≠ [] := fun e => h0 (by rw [Lib.size_eq, e]; rfl)
    have hUS := Lib.run_unsafeString_row (P := Tryz.prog) ((w.alloc (.cells M 5)).setRow w.heap.size Y) 160 3 9 5 Tryz.underlying160 hco w.heap.size Y.size (by unfold World.shape?; rw [hgY]) s.data.toList hne (by rw [← Lib.size_eq]; omega) (by rw [← Lib.size_eq]; omega)
      (fun j x hx => Lib.cells_of_row hgY Y.size j _ (by rw [List.take_of_length_le (by rw [Array.length_toList]; exact Nat.le_refl _), hYl]; simp [Lib.byteCells, hx]))
    rw [← Lib.size_eq] at hUS
    clear hY
    go_enter Tryz.func54, Tryz.ntmps54
    go_wp2
    go_ret
    have hb1 : Below w.heap.size w (w.alloc (.cells M 5)) := (Below.refl _ w).alloc (Nat.le_refl _) _
    have hb2 : Below w.heap.size (w.alloc (.cells M 5)) ((w.alloc (.cells M 5)).setRow w.heap.size Y) := ⟨rfl, rfl, rfl, by simp, fun k hk => setRow_other _ _ _ _ (by omega)⟩
    exact ⟨rfl, Lib.below_freeze (hb1.trans hb2) (p := ⟨w.heap.size, 0, none⟩) (Nat.le_refl _) _⟩
set_option maxHeartbeats 1000000 in
theorem clone_any (s : ByteArray) (w : World) (hlim : s.size ≤ 1000000) :
    Calls Tryz.prog 30 #[.string s] w fun e w' => e = .returned (.string s) ∧ Below w.heap.size w w' := by
  go_enter Tryz.func30, Tryz.ntmps30
  go_wp2_with fail
  refine (liteClone s _ hlim).mono ?_
  rintro e w1 ⟨rfl, hb1⟩
  go_wp2
  go_ret
  exact ⟨rfl, hb1⟩
end Go.Proofs.YtpmcjelihdlfeaaGreatDoor
/- What net.follow answers: a contract for the walks above it. -/
namespace Go.Proofs.YtpmcjelihdlfeaaGreatDoor
open Go.RowKit
set_option linter.unusedSimpArgs false
set_option linter.unusedVariables false

/-- The boxes: a net, a hop, the answer's. -/
def fbox (w : World) (S : Int) (v1 v2 v3 : Value) (x y h : Int) : World := ((w.alloc (Obj.cells #[.int .i64 S, v1, v2, v3] 28)).alloc (Obj.cells #[.int .i64 x, .int .i64 y, .int .i64 h] 92)).alloc (Obj.cells #[.int .i64 0, .string ⟨#[]⟩, .slice none 0 0] 34)
structure FBox (w W : World) (S : Int) (v1 v2 v3 : Value) (x y h : Int) : Prop where
  below : Below w.heap.size w W
  n : NeBox W w.heap.size S v1 v2 v3
  i0 : W.cell? ⟨w.heap.size + 1, 0, none⟩ = some (.int .i64 x)
  i1 : W.cell? ⟨w.heap.size + 1, 1, none⟩ = some (.int .i64 y)
  i2 : W.cell? ⟨w.heap.size + 1, 2, none⟩ = some (.int .i64 h)
  r0 : W.cell? ⟨w.heap.size + 1 + 1, 0, none⟩ = some (.int .i64 0)
  r1 : W.cell? ⟨w.heap.size + 1 + 1, 1, none⟩ = some (.string ⟨#[]⟩)
  r2 : W.cell? ⟨w.heap.size + 1 + 1, 2, none⟩ = some (.slice none 0 0)
  f : ∀ i, W.frozen? ⟨w.heap.size + 1 + 1, i, none⟩ = false
theorem fbox_new (w : World) (S : Int) (v1 v2 v3 : Value) (x y h : Int) : FBox w (fbox w S v1 v2 v3 x y h) S v1 v2 v3 x y h := by
  have e1 : (w.alloc (Obj.cells #[.int .i64 S, v1, v2, v3] 28)).heap.size = w.heap.size + 1 := by simp
  have e2 : ((w.alloc (Obj.cells #[.int .i64 S, v1, v2, v3] 28)).alloc (Obj.cells #[.int .i64 x, .int .i64 y, .int .i64 h] 92)).heap.size = w.heap.size + 1 + 1 := by simp
  have hb : ∀ (W : World) (o : Obj), Below W.heap.size W (W.alloc o) := fun W o => (Below.refl _ _).alloc (Nat.le_refl _) _
  have hs := (vat_new (w.alloc (Obj.cells #[.int .i64 S, v1, v2, v3] 28)) [.int .i64 x, .int .i64 y, .int .i64 h] 92).later (hb _ (Obj.cells #[.int .i64 0, .string ⟨#[]⟩, .slice none 0 0] 34))
  rw [e1] at hs
  have hr := vat_new ((w.alloc (Obj.cells #[.int .i64 S, v1, v2, v3] 28)).alloc (Obj.cells #[.int .i64 x, .int .i64 y, .int .i64 h] 92)) [.int .i64 0, .string ⟨#[]⟩, .slice none 0 0] 34
  rw [e2] at hr
  have hf : ∀ k, (fbox w S v1 v2 v3 x y h).frozen? ⟨((w.alloc (Obj.cells #[.int .i64 S, v1, v2, v3] 28)).alloc (Obj.cells #[.int .i64 x, .int .i64 y, .int .i64 h] 92)).heap.size, k, none⟩ = false := fun k => by
    unfold fbox
    generalize (w.alloc (Obj.cells #[.int .i64 S, v1, v2, v3] 28)).alloc (Obj.cells #[.int .i64 x, .int .i64 y, .int .i64 h] 92) = X
    simp
  rw [e2] at hf
  exact ⟨(((Below.refl _ _).alloc (Nat.le_refl _) _).alloc (by rw [e1]; omega) _).alloc (by rw [e2]; omega) _, ((nebox_new w S v1 v2 v3 28).later (hb _ _)).later (hb _ _), hs 0 _ rfl, hs 1 _ rfl, hs 2 _ rfl, hr 0 _ rfl, hr 1 _ rfl, hr 2 _ rfl, hf⟩
theorem FBox.lt {w W : World} {S : Int} {v1 v2 v3 : Value} {x y h : Int} (k : FBox w W S v1 v2 v3 x y h) : w.heap.size + 3 ≤ W.heap.size := World.block_lt_of_cell? W ⟨w.heap.size + 1 + 1, 0, none⟩ k.r0
theorem FBox.later {w W W' : World} {S : Int} {v1 v2 v3 : Value} {x y h : Int} (k : FBox w W S v1 v2 v3 x y h) {B : Nat} (hB : w.heap.size + 3 ≤ B) (hb : Below B W W') : FBox w W' S v1 v2 v3 x y h :=
  have hc : ∀ (g i : Nat) (x : Value), g < w.heap.size + 3 → W.cell? ⟨g, i, none⟩ = some x → W'.cell? ⟨g, i, none⟩ = some x := fun g i x hg e => (hb.cell (p := ⟨g, i, none⟩) (show g < B by omega)).trans e
  ⟨k.below.trans (hb.mono (by omega)), ⟨hc _ _ _ (by omega) k.n.1, hc _ _ _ (by omega) k.n.2.1, hc _ _ _ (by omega) k.n.2.2.1, hc _ _ _ (by omega) k.n.2.2.2⟩, hc _ _ _ (by omega) k.i0, hc _ _ _ (by omega) k.i1, hc _ _ _ (by omega) k.i2, hc _ _ _ (by omega) k.r0, hc _ _ _ (by omega) k.r1, hc _ _ _ (by omega) k.r2, fun i => (hb.frozen (p := ⟨w.heap.size + 1 + 1, i, none⟩) (show w.heap.size + 1 + 1 < B by omega)).trans (k.f i)⟩

theorem ballocD {w w' : World} {a b c : Value} {t : TypeId} (hb : Below (w.drew.alloc (Obj.cells #[a, b, c] t)).heap.size (w.drew.alloc (Obj.cells #[a, b, c] t)) w') : (w'.cell? ⟨w.heap.size, 0, none⟩ = some a ∧ w'.cell? ⟨w.heap.size, 1, none⟩ = some b ∧ w'.cell? ⟨w.heap.size, 2, none⟩ = some c) ∧ w'.frozen? ⟨w.heap.size, 0, none⟩ = false ∧ w'.frozen? ⟨w.heap.size, 1, none⟩ = false ∧ w'.frozen? ⟨w.heap.size, 2, none⟩ = false := by
  have h := vat_new w.drew [a, b, c] t
  have hl : w.heap.size < (w.drew.alloc (Obj.cells #[a, b, c] t)).heap.size := by simp
  exact ⟨⟨cell_later hb (h 0 _ rfl), cell_later hb (h 1 _ rfl), cell_later hb (h 2 _ rfl)⟩, (hb.frozen (p := ⟨w.heap.size, 0, none⟩) hl).trans (froz_new2 w.drew #[a, b, c] t 0), (hb.frozen (p := ⟨w.heap.size, 1, none⟩) hl).trans (froz_new2 w.drew #[a, b, c] t 1), (hb.frozen (p := ⟨w.heap.size, 2, none⟩) hl).trans (froz_new2 w.drew #[a, b, c] t 2)⟩
/-- Three cells of one block are set. -/
def put3 (W : World) (g : Nat) (u v x : Value) : World := ((W.setCell ⟨g, 0, none⟩ u).setCell ⟨g, 1, none⟩ v).setCell ⟨g, 2, none⟩ x
theorem put3_cells {W : World} {g : Nat} {a b c u v x : Value} (k : W.cell? ⟨g, 0, none⟩ = some u ∧ W.cell? ⟨g, 1, none⟩ = some v ∧ W.cell? ⟨g, 2, none⟩ = some x) : (put3 W g a b c).cell? ⟨g, 0, none⟩ = some a ∧ (put3 W g a b c).cell? ⟨g, 1, none⟩ = some b ∧ (put3 W g a b c).cell? ⟨g, 2, none⟩ = some c := by
  unfold put3
  have h1 : (W.setCell ⟨g, 0, none⟩ a).cell? ⟨g, 1, none⟩ = some v := by
    rw [World.cell?_setCell_other _ _ _ _ (by simp)]
    exact k.2.1
  have h2 : ((W.setCell ⟨g, 0, none⟩ a).setCell ⟨g, 1, none⟩ b).cell? ⟨g, 2, none⟩ = some x := by
    rw [World.cell?_setCell_other _ _ _ _ (by simp), World.cell?_setCell_other _ _ _ _ (by simp)]
    exact k.2.2
  refine ⟨?_, ?_, World.cell?_setCell_same _ _ _ h2⟩
  · rw [World.cell?_setCell_other _ _ _ _ (by simp), World.cell?_setCell_other _ _ _ _ (by simp)]
    exact World.cell?_setCell_same _ _ _ k.1
  · rw [World.cell?_setCell_other _ _ _ _ (by simp)]
    exact World.cell?_setCell_same _ _ _ h1
theorem below_put3 {B : Nat} {w W : World} (h : Below B w W) (g : Nat) (hg : B ≤ g) (u v x : Value) : Below B w (put3 W g u v x) := ((h.setCell (p := ⟨g, 0, none⟩) hg u).setCell (p := ⟨g, 1, none⟩) hg v).setCell (p := ⟨g, 2, none⟩) hg x
theorem own_put3 {W : World} {B e size n : Nat} {v : Value} {xs : List Value} (h : W.ownsRow B e size v n xs) (g : Nat) (hg : g < B) (a b c : Value) : (put3 W g a b c).ownsRow B e size v n xs := ownsRow_setCell_below (ownsRow_setCell_below (ownsRow_setCell_below h hg _) hg _) hg _
theorem hop_in {x y h : Int} {p : (Int × Int) × Int} (e : p = ((x, y), h)) : p.1.1 = x ∧ p.1.2 = y ∧ p.2 = h := by
  subst e
  exact ⟨rfl, rfl, rfl⟩
/-- A leg lies in these cells. -/
def LegAt (W : World) (g : Nat) (a : Int) (b : ByteArray) (c d e : Int) : Prop := W.cell? ⟨g, 0, none⟩ = some (.int .i64 a) ∧ W.cell? ⟨g, 1, none⟩ = some (.string b) ∧ W.cell? ⟨g, 2, none⟩ = some (.int .i64 c) ∧ W.cell? ⟨g, 3, none⟩ = some (.int .i64 d) ∧ W.cell? ⟨g, 4, none⟩ = some (.int .i64 e)
theorem lat_of {W : World} {g : Nat} {a : Int} {b : ByteArray} {c d e : Int} (h0 : W.cell? ⟨g, 0, none⟩ = some (.int .i64 a)) (h1 : W.cell? ⟨g, 1, none⟩ = some (.string b)) (h2 : W.cell? ⟨g, 2, none⟩ = some (.int .i64 c)) (h3 : W.cell? ⟨g, 3, none⟩ = some (.int .i64 d)) (h4 : W.cell? ⟨g, 4, none⟩ = some (.int .i64 e)) : LegAt W g a b c d e := ⟨h0, h1, h2, h3, h4⟩
theorem LegAt.later {W W' : World} {g : Nat} {a : Int} {b : ByteArray} {c d e : Int} (h : LegAt W g a b c d e) (hb : Below W.heap.size W W') : LegAt W' g a b c d e := ⟨cell_later hb h.1, cell_later hb h.2.1, cell_later hb h.2.2.1, cell_later hb h.2.2.2.1, cell_later hb h.2.2.2.2⟩
theorem lat_new (W : World) (a : Int) (b : ByteArray) (c d e : Int) (t : TypeId) : LegAt (W.alloc (Obj.cells #[.int .i64 a, .string b, .int .i64 c, .int .i64 d, .int .i64 e] t)) W.heap.size a b c d e :=
  have h := vat_new W [.int .i64 a, .string b, .int .i64 c, .int .i64 d, .int .i64 e] t
  ⟨h 0 _ rfl, h 1 _ rfl, h 2 _ rfl, h 3 _ rfl, h 4 _ rfl⟩
theorem lat_put5 {W : World} {g : Nat} {a' : Int} {b' : ByteArray} {c' d' e' : Int} (k : LegAt W g a' b' c' d' e') (a : Int) (b : ByteArray) (c d e : Int) : LegAt (put5 W g (.int .i64 a) (.string b) (.int .i64 c) (.int .i64 d) (.int .i64 e)) g a b c d e := by
  obtain ⟨k0, k1, k2, k3, k4⟩ := k
  unfold put5
  have o : ∀ (W : World) (i j : Nat) (x : Value), i ≠ j → (W.setCell ⟨g, i, none⟩ x).cell? ⟨g, j, none⟩ = W.cell? ⟨g, j, none⟩ := fun W i j x h => World.cell?_setCell_other _ _ _ _ (by intro e; exact h (by injection e))
  refine ⟨?_, ?_, ?_, ?_, ?_⟩
  · rw [o _ _ _ _ (by decide), o _ _ _ _ (by decide), o _ _ _ _ (by decide), o _ _ _ _ (by decide)]; exact World.cell?_setCell_same _ _ _ k0
  · rw [o _ _ _ _ (by decide), o _ _ _ _ (by decide), o _ _ _ _ (by decide)]; exact World.cell?_setCell_same _ _ _ (by rw [o _ _ _ _ (by decide)]; exact k1)
  · rw [o _ _ _ _ (by decide), o _ _ _ _ (by decide)]; exact World.cell?_setCell_same _ _ _ (by rw [o _ _ _ _ (by decide), o _ _ _ _ (by decide)]; exact k2)
  · rw [o _ _ _ _ (by decide)]; exact World.cell?_setCell_same _ _ _ (by rw [o _ _ _ _ (by decide), o _ _ _ _ (by decide), o _ _ _ _ (by decide)]; exact k3)
  · exact World.cell?_setCell_same _ _ _ (by rw [o _ _ _ _ (by decide), o _ _ _ _ (by decide), o _ _ _ _ (by decide), o _ _ _ _ (by decide)]; exact k4)
theorem below_5 {B : Nat} {w W : World} (h : Below B w W) (g : Nat) (hg : B ≤ g) (a b c d e : Value) : Below B w (((((W.setCell ⟨g, 0, none⟩ a).setCell ⟨g, 1, none⟩ b).setCell ⟨g, 2, none⟩ c).setCell ⟨g, 3, none⟩ d).setCell ⟨g, 4, none⟩ e) := below_put5 h g hg a b c d e
theorem lat_5 {W : World} {g : Nat} {a' : Int} {b' : ByteArray} {c' d' e' : Int} (k : LegAt W g a' b' c' d' e') (a : Int) (b : ByteArray) (c d e : Int) : LegAt (((((W.setCell ⟨g, 0, none⟩ (.int .i64 a)).setCell ⟨g, 1, none⟩ (.string b)).setCell ⟨g, 2, none⟩ (.int .i64 c)).setCell ⟨g, 3, none⟩ (.int .i64 d)).setCell ⟨g, 4, none⟩ (.int .i64 e)) g a b c d e := lat_put5 k a b c d e
/-- An empty leg in its box. -/
def ZL (W : World) (g : Nat) : Prop := LegAt W g 0 ⟨#[]⟩ 0 0 0 ∧ ∀ i, W.frozen? ⟨g, i, none⟩ = false
theorem ZL.lt {W : World} {g : Nat} (h : ZL W g) : g < W.heap.size := World.block_lt_of_cell? W ⟨g, 0, none⟩ h.1.1
theorem ZL.later {W W' : World} {g : Nat} (h : ZL W g) (hb : Below W.heap.size W W') : ZL W' g := ⟨h.1.later hb, fun i => (hb.frozen (p := ⟨g, i, none⟩) h.lt).trans (h.2 i)⟩
theorem zl_new (W : World) (t : TypeId) : ZL (W.alloc (Obj.cells #[.int .i64 0, .string ⟨#[]⟩, .int .i64 0, .int .i64 0, .int .i64 0] t)) W.heap.size := ⟨lat_new W 0 ⟨#[]⟩ 0 0 0 t, froz_new2 W _ t⟩
theorem zl_a {W W' : World} {t : TypeId} (hb : Below (W.alloc (Obj.cells #[.int .i64 0, .string ⟨#[]⟩, .int .i64 0, .int .i64 0, .int .i64 0] t)).heap.size (W.alloc (Obj.cells #[.int .i64 0, .string ⟨#[]⟩, .int .i64 0, .int .i64 0, .int .i64 0] t)) W') : ZL W' W.heap.size := (zl_new W t).later hb
theorem zl_d {W W' : World} {t : TypeId} (hb : Below (W.drew.alloc (Obj.cells #[.int .i64 0, .string ⟨#[]⟩, .int .i64 0, .int .i64 0, .int .i64 0] t)).heap.size (W.drew.alloc (Obj.cells #[.int .i64 0, .string ⟨#[]⟩, .int .i64 0, .int .i64 0, .int .i64 0] t)) W') : ZL W' W.heap.size := (zl_new W.drew t).later hb

def sliL : Value → Nat
  | .slice _ n _ => n
  | _ => 0

set_option maxHeartbeats 8000000 in
set_option maxRecDepth 100000 in
theorem follow_any (S : Int) (ao : Option Addr) (n cap : Nat) (ao2 : Option Addr) (n2 cap2 : Nat) (ao3 : Option Addr) (n3 cap3 : Nat) (Ls : List ((Int × Int) × (Int × Int))) (Hs : List (ByteArray × (Int × Int))) (Ts : List (List Ru)) (x y h : Int) (w : World)
    (hL : GS lnkE w (.slice ao n cap) Ls) (hH : GS hstE w (.slice ao2 n2 cap2) Hs) (hT : TS w (.slice ao3 n3 cap3) Ts) (hN : ntN S Ls Hs Ts = 0) (hx : spB S (x, y) = true) :
    Calls Tryz.prog 37 #[.agg #[.int .i64 S, .slice ao n cap, .slice ao2 n2 cap2, .slice ao3 n3 cap3], .agg #[.int .i64 x, .int .i64 y, .int .i64 h]] w fun e w' => ∃ ao4 n4 cap4, e = .returned (.agg #[.int .i64 (frF Ls Hs Ts (x, y) h).1, .string (frF Ls Hs Ts (x, y) h).2.1, .slice ao4 n4 cap4]) ∧ w'.ownsRow w.heap.size 92 3 (.slice ao4 n4 cap4) (frF Ls Hs Ts (x, y) h).2.2.length (cellsG hopE (frF Ls Hs Ts (x, y) h).2.2) ∧ Below w.heap.size w w' := by
  obtain ⟨hTP, hTL, hTT⟩ := nt_0 hN
  have hS := (tp_0 hTP).1
  have hnd := (tp_0 hTP).2.2.2.1
  have hTn := hT.len
  have hLn := hL.len
  have hl2 := (tp_0 hTP).2.1
  have HTP : Hid (tpN S Ls Hs = 0) := hTP
  have HND : Hid ((spsL Ls).Nodup) := hnd
  have HN1 : Hid (n ≤ 1000) := by show _ ≤ _; omega
  have HTT : Hid (∀ k, k < Ts.length → tbN (Ts.getD k []) = 0) := hTT
  have H36 : Hid (n3 ≤ 6) := by show _ ≤ _; omega
  have H3S : Hid ((n3 : Int) = S) := by show _ = _; omega
  have HLW : Hid (∀ W, Below w.heap.size w W → GS lnkE W (.slice ao n cap) Ls) := fun W hb => hL.later hb
  have HHW : Hid (∀ W, Below w.heap.size w W → GS hstE W (.slice ao2 n2 cap2) Hs) := fun W hb => hH.later hb
  have HTW : Hid (∀ W, Below w.heap.size w W → TS W (.slice ao3 n3 cap3) Ts) := fun W hb => hT.later hb
  obtain ⟨F, hF⟩ : ∃ F, F = frF Ls Hs Ts (x, y) h := ⟨_, rfl⟩
  have HF : Hid (F = foF Ls Hs Ts 24 [((x, y), h)]) := hF
  rw [← hF]
  have hX := fbox_new w S (.slice ao n cap) (.slice ao2 n2 cap2) (.slice ao3 n3 cap3) x y h
  obtain ⟨w0, hw0⟩ : ∃ W, W = fbox w S (.slice ao n cap) (.slice ao2 n2 cap2) (.slice ao3 n3 cap3) x y h := ⟨_, rfl⟩
  rw [← hw0] at hX
  have HX : Hid (FBox w w0 S (.slice ao n cap) (.slice ao2 n2 cap2) (.slice ao3 n3 cap3) x y h) := hX
  have HW0 : Hid (((w.alloc (Obj.cells #[.int .i64 S, .slice ao n cap, .slice ao2 n2 cap2, .slice ao3 n3 cap3] 28)).alloc (Obj.cells #[.int .i64 x, .int .i64 y, .int .i64 h] 92)).alloc (Obj.cells #[.int .i64 0, .string ⟨#[]⟩, .slice none 0 0] 34) = w0) := hw0.symm
  have HXX : Hid (spB S (x, y) = true) := hx
  clear hL hH hT hN hTP hTL hTT hS hnd hTn hLn hl2 hF hX hw0 hx
  go_enter Tryz.func37, Tryz.ntmps37
  go_upto_region 1 with fail
  rw [HW0.out]
  obtain ⟨_, ⟨b0, b1, b2, b3⟩, i0, i1, i2, r0, r1, r2, f⟩ := HX.out
  clear HW0 f
  go_wp2_with fail
  refine (peers_any ao n cap Ls _ (HLW.out _ HX.out.below) HND.out HN1.out).mono ?_
  rintro e w1 ⟨B, M, rfl, hM, hPM, hb1⟩
  have HM : Hid (MAt spotKey veS w1 B M) := hM
  have HPM : Hid (PM M Ls) := hPM
  have HX1 : Hid (FBox w w1 S (.slice ao n cap) (.slice ao2 n2 cap2) (.slice ao3 n3 cap3) x y h) := HX.out.later HX.out.lt hb1
  have hlB : B < w1.heap.size := hM.lt
  obtain ⟨_, ⟨b0, b1, b2, b3⟩, i0, i1, i2, r0, r1, r2, f⟩ := HX1.out
  clear f hM hPM hb1 HX
  go_wp2
  have HLW1 : Hid (w.heap.size + 3 ≤ w1.heap.size) := HX1.out.lt
  have HO1 : Hid ((w1.alloc (Obj.cells #[.int .i64 x, .int .i64 y, .int .i64 h] 92)).ownsRow w1.heap.size 92 3 (.slice (some ⟨w1.heap.size, 0, none⟩) 1 1) ([((x, y), h)] : List ((Int × Int) × Int)).length (cellsG hopE [((x, y), h)])) :=
    World.ownsRow_lit (base := w1.heap.size) (e := 92) (size := 3) w1 #[.int .i64 x, .int .i64 y, .int .i64 h] 1 (Nat.le_refl _) (by decide) rfl
  clear b0 b1 b2 b3 i0 i1 i2 r0 r1 r2
  go_loopw [6] (fun v wr => ∃ l : List ((Int × Int) × Int), (0 < l.length ∧ l.length ≤ 24) ∧ wr.ownsRow w1.heap.size 92 3 v l.length (cellsG hopE l) ∧ F = foF Ls Hs Ts (25 - l.length) l ∧ spB S (laH l).1 = true ∧ Below w1.heap.size w1 wr) (fun v _ => 25 - sliL v)
  case atStart => exact ⟨[((x, y), h)], by simp, HO1.out, HF.out, HXX.out, (Below.refl _ _).alloc (Nat.le_refl _) _⟩
  case round =>
    obtain ⟨l, ⟨hl0, hl24⟩, hown, hFl, hsp, hBr⟩ := hrel
    obtain ⟨ao5, cap5, rfl⟩ := own_form hown
    obtain ⟨wo, hwo⟩ : ∃ X, X = wr := ⟨_, rfl⟩
    subst hwo
    obtain ⟨m, hm⟩ : ∃ m, m = l.length := ⟨_, rfl⟩
    have HML : Hid (l.length = m) := hm.symm
    rw [← hm] at hown hl0 hl24 hFl
    rw [← hm]
    have HOWN : Hid (wo.ownsRow w1.heap.size 92 3 (.slice ao5 m cap5) m (cellsG hopE l)) := hown
    have HFL : Hid (F = foF Ls Hs Ts (25 - l.length) l) := by
      show _ = _
      rw [← hm]
      exact hFl
    have HL24 : Hid (l.length ≤ 24) := by
      show _ ≤ _
      omega
    have HBr : Hid (Below w1.heap.size w1 wo) := hBr
    have HXo : Hid (FBox w wo S (.slice ao n cap) (.slice ao2 n2 cap2) (.slice ao3 n3 cap3) x y h) := HX1.out.later HX1.out.lt hBr
    have HMo : Hid (MAt spotKey veS wo B M) := HM.out.later hBr
    obtain ⟨_, _, _, e5, hGn, hGm, _, hGa⟩ := (own_GS (E := hopE) (L := l) (by rw [← hm]; exact hown) : GS hopE wo (.slice ao5 m cap5) l).form
    cases e5
    obtain ⟨g5, o5, hao5, hc5, _⟩ := hGa hl0
    subst hao5
    obtain ⟨p0, p1, p2, hkl, hLk, c0, c1, c2⟩ := hop_at hc5 HML.out (show m - 1 < m by omega)
    have hla : laH l = ((p0, p1), p2) := by
      have e : laH l = l[m - 1] := by
        unfold laH
        rw [← hm]
        simp [List.getD, hkl]
      rw [e, hLk]
    have HLA : Hid (laH l = ((p0, p1), p2)) := hla
    rw [hla] at hsp
    have hsp2 := sp_of hsp
    simp only at hsp2
    have HS1 : Hid (1 ≤ p0) := hsp2.1
    have HS2 : Hid (p0 ≤ (n3 : Int)) := by
      show _ ≤ _
      rw [H3S.out]
      exact hsp2.2.1
    obtain ⟨G0, hG0⟩ : ∃ G, G = lgT Ls Hs (taT Ts p0) ((p0, p1), p2) := ⟨_, rfl⟩
    obtain ⟨G, hG⟩ : ∃ G, G = afL G0 l := ⟨_, rfl⟩
    have HGL : Hid (G = afL (lgT Ls Hs (taT Ts (laH l).1.1) (laH l)) l) := by
      show _ = _
      rw [hG, hG0, hla]
    have HGN : Hid (G.2.1.size ≤ 1000000) := by
      show _ ≤ _
      rw [hG, hG0]
      exact af_name (lg_name HTP.out _ _)
    have HLEG : Hid (∀ W, Below wo.heap.size wo W → Calls Tryz.prog 63 #[.agg #[.int .i64 S, .slice ao n cap, .slice ao2 n2 cap2, .slice ao3 n3 cap3], .map (some B), .agg #[.int .i64 p0, .int .i64 p1, .int .i64 p2]] W fun e w' => e = .returned (legV G0) ∧ Below W.heap.size W w') := fun W hW => by
      have hx := HXo.out.below.trans (hW.mono HXo.out.below.size)
      rw [hG0]
      exact leg_any S ao n cap ao2 n2 cap2 ao3 n3 cap3 Ls Hs Ts B M p0 p1 p2 W (HHW.out W hx) (HTW.out W hx) (HMo.out.later hW) HPM.out HTT.out HS1.out HS2.out H36.out
    have HAFT : Hid (∀ W, Below wo.heap.size wo W → Calls Tryz.prog 64 #[legV G0, .slice (some ⟨g5, o5, none⟩) m cap5] W fun e w' => e = .returned (legV G) ∧ Below W.heap.size W w') := fun W hW => by
      rw [hG]
      exact after_any G0 (some ⟨g5, o5, none⟩) m cap5 l W ((own_GS (E := hopE) (L := l) (by rw [HML.out]; exact HOWN.out) : GS hopE wo (.slice (some ⟨g5, o5, none⟩) m cap5) l).later hW)
    clear hG hG0
    obtain ⟨a0, a1, ⟨a2, a3⟩, a4⟩ := G0
    obtain ⟨k0, k1, ⟨k2, k3⟩, k4⟩ := G
    unfold legV at HLEG HAFT
    dsimp only at HLEG HAFT HGN
    have hmi : IntKind.i64.wrap ((m : Int) - 1) = ((m - 1 : Nat) : Int) := by
      rw [show (m : Int) - 1 = ((m - 1 : Nat) : Int) by omega]
      exact wrap_small (by omega) (by omega)
    have mb0 : (0 : Int) ≤ ((m - 1 : Nat) : Int) := by omega
    have mb1 : ((m - 1 : Nat) : Int) < (m : Int) := by omega
    obtain ⟨_, ⟨b0, b1, b2, b3⟩, i0, i1, i2, r0, r1, r2, f⟩ := HXo.out
    have hlw : w.heap.size < wo.heap.size := World.block_lt_of_cell? _ _ b0
    have hlg : g5 < wo.heap.size := World.block_lt_of_cell? _ _ c0
    have HSW : Hid (∀ W, Below wo.heap.size wo W → W.cell? ⟨w.heap.size, 0, none⟩ = some (.int .i64 S) ∧ W.cell? ⟨w.heap.size, 1, none⟩ = some (.slice ao n cap) ∧ W.cell? ⟨w.heap.size, 2, none⟩ = some (.slice ao2 n2 cap2) ∧ W.cell? ⟨w.heap.size, 3, none⟩ = some (.slice ao3 n3 cap3) ∧ W.cell? ⟨g5, o5 + (m - 1) * 3, none⟩ = some (.int .i64 p0) ∧ W.cell? ⟨g5, o5 + (m - 1) * 3 + 1, none⟩ = some (.int .i64 p1) ∧ W.cell? ⟨g5, o5 + (m - 1) * 3 + 2, none⟩ = some (.int .i64 p2)) := fun W hW => ⟨cell_later hW b0, cell_later hW b1, cell_later hW b2, cell_later hW b3, cell_later hW c0, cell_later hW c1, cell_later hW c2⟩
    clear hown hFl hsp hBr hm hGn hGm hGa hc5 hLk hla hsp2 f HO1 HF HXX HX1 HM i0 i1 i2 r0 r1 r2
    go_upto_region 3 with fail
    go_cut [7] from 14 to 39 (fun p w' => ∃ g, p = .pointer (some ⟨g, 0, none⟩) ∧ (LegAt w' g k0 k1 k2 k3 k4 ∧ wo.heap.size ≤ g) ∧ Below wo.heap.size wo w')
    case first =>
      go_region_held3 (fun W => W.cell? ⟨w.heap.size, 0, none⟩ = some (.int .i64 S) ∧ W.cell? ⟨w.heap.size, 1, none⟩ = some (.slice ao n cap) ∧ W.cell? ⟨w.heap.size, 2, none⟩ = some (.slice ao2 n2 cap2) ∧ W.cell? ⟨w.heap.size, 3, none⟩ = some (.slice ao3 n3 cap3) ∧ W.cell? ⟨g5, o5 + (m - 1) * 3, none⟩ = some (.int .i64 p0) ∧ W.cell? ⟨g5, o5 + (m - 1) * 3 + 1, none⟩ = some (.int .i64 p1) ∧ W.cell? ⟨g5, o5 + (m - 1) * 3 + 2, none⟩ = some (.int .i64 p2))
        (first | (with_reducible assumption) | (with_reducible exact HSW.out _ (Below.drew (Below.refl _ _))) | (with_reducible exact HSW.out _ ((Below.drew (Below.refl _ _)).alloc (Nat.le_refl _) _)) | (with_reducible exact HSW.out _ ((Below.refl _ _).alloc (Nat.le_refl _) _).drew) | (with_reducible exact HSW.out _ HBX.out) | (with_reducible exact HSW.out _ (HBX.out.alloc HBX.out.size _)) | (with_reducible exact HSW.out _ HBY.out) | (with_reducible exact HSW.out _ (HBY.out.alloc HBY.out.size _)) | (with_reducible exact HSW.out _ (below_5 HBY.out _ (Nat.le_refl _) _ _ _ _ _)) | (with_reducible exact HSW.out _ (below_5 HBY.out _ HBX.out.size _ _ _ _ _)))
        (first
          | (go_at_call 63; refine (HLEG.out _ (by first | exact Below.drew (Below.refl _ _) | exact (Below.drew (Below.refl _ _)).alloc (Nat.le_refl _) _)).mono ?_; rintro e w' ⟨rfl, hb⟩; have HBX : Hid (Below wo.heap.size wo w') := (by first | exact bdrew hb | exact balloc hb); (try (have HZ : Hid (ZL w' wo.heap.size) := zl_d hb)); clear hb)
          | (go_at_call 64; refine (HAFT.out _ (by first | exact HBX.out | exact HBX.out.alloc HBX.out.size _)).mono ?_; rintro e w'' ⟨rfl, hb⟩; have HBY : Hid (Below wo.heap.size wo w'') := (by first | exact HBX.out.trans (hb.mono HBX.out.size) | exact (HBX.out.alloc HBX.out.size _).trans (hb.mono (HBX.out.alloc HBX.out.size _).size)); (try (have hbc := HZ.out.later hb; obtain ⟨⟨y0, y1, y2, y3, y4⟩, yf⟩ := hbc; have yf0 := yf 0; have yf1 := yf 1; have yf2 := yf 2; have yf3 := yf 3; have yf4 := yf 4; clear yf)); (try (have hbc := zl_a hb; obtain ⟨⟨y0, y1, y2, y3, y4⟩, yf⟩ := hbc; have yf0 := yf 0; have yf1 := yf 1; have yf2 := yf 2; have yf3 := yf 3; have yf4 := yf 4; clear yf)); clear hb))
      all_goals (go_wp2_with fail; go_meet)
      all_goals refine ⟨_, rfl, ?_⟩
      all_goals first
        | (with_reducible exact ⟨⟨lat_new _ _ _ _ _ _ _, HBY.out.size⟩, HBY.out.alloc HBY.out.size _⟩)
        | (with_reducible exact ⟨⟨lat_5 (lat_of y0 y1 y2 y3 y4) _ _ _ _ _, Nat.le_refl _⟩, below_5 HBY.out _ (Nat.le_refl _) _ _ _ _ _⟩)
        | (with_reducible exact ⟨⟨lat_5 (lat_of y0 y1 y2 y3 y4) _ _ _ _ _, HBX.out.size⟩, below_5 HBY.out _ HBX.out.size _ _ _ _ _⟩)
    case rest =>
      obtain ⟨g, rfl, ⟨⟨d0, d1, d2, d3, d4⟩, hgo⟩, hbw⟩ := hcut
      have HXc : Hid (FBox w wc S (.slice ao n cap) (.slice ao2 n2 cap2) (.slice ao3 n3 cap3) x y h) := HXo.out.later HXo.out.lt hbw
      have HOc : Hid (wc.ownsRow w1.heap.size 92 3 (.slice (some ⟨g5, o5, none⟩) m cap5) m (cellsG hopE l)) := own_below HOWN.out hbw
      have HBc : Hid (Below w1.heap.size w1 wc) := HBr.out.trans (hbw.mono HBr.out.size)
      obtain ⟨hBw, ⟨b0, b1, b2, b3⟩, i0, i1, i2, r0, r1, r2, f⟩ := HXc.out
      have HBw : Hid (Below w.heap.size w wc) := hBw
      have f0 := f 0
      have f1 := f 1
      have f2 := f 2
      have hlw1 : w.heap.size + 3 ≤ w1.heap.size := HLW1.out
      have hs1c : w1.heap.size ≤ wc.heap.size := HBc.out.size
      have HLT : Hid (LegAt wc g k0 k1 k2 k3 k4) := ⟨d0, d1, d2, d3, d4⟩
      clear hbw f hBw HXo HOWN HMo HBr HSW HLEG HAFT hgo c0 c1 c2
      by_cases hk : k0 = 0
      · subst hk
        have HFN : Hid (F = foF Ls Hs Ts (25 - (l ++ [((k2, k3), k4)]).length) (l ++ [((k2, k3), k4)])) := by
          show _ = _
          rw [HFL.out]
          exact fo_on HL24.out HGL.out rfl
        have HG4 : Hid (afL (lgT Ls Hs (taT Ts (laH l).1.1) (laH l)) l = lgT Ls Hs (taT Ts (laH l).1.1) (laH l) ∧ (lgT Ls Hs (taT Ts (laH l).1.1) (laH l)).1 = 0 ∧ l.length ≠ 24) := by
          have h := af_0 (g := lgT Ls Hs (taT Ts (laH l).1.1) (laH l)) (l := l) (by rw [← HGL.out])
          exact ⟨h.1, h.2.1, h.2.2.1⟩
        have HSPN : Hid (spB S (laH (l ++ [((k2, k3), k4)])).1 = true) := by
          show _ = _
          rw [la_app]
          have h2 := lg_sp HTP.out HG4.out.2.1
          rw [← HG4.out.1, ← HGL.out] at h2
          exact h2
        have hm23 : m ≤ 23 := by
          have h1 := HG4.out.2.2
          rw [HML.out] at h1
          omega
        obtain ⟨j0, hj, hy0, hy1, hy2⟩ := info_parts hop_info
        have hlgc : g < wc.heap.size := World.block_lt_of_cell? _ _ d0
        clear r0 r1 r2 f0 f1 f2 HG4
        go_wp2_with (at_builtin; refine wpList_append_own _ rfl _ _ 32 rfl w1.heap.size 92 j0 (.agg #[.int .i64 0, .int .i64 0, .int .i64 0]) 3 24 Tryz.underlying32 hj hy0 hy1 hy2 hop_zero (by decide) _ _ _ rfl (HOc.out.alloc _) ⟨wc.heap.size, 0, none⟩ 1 1 [.int .i64 k2, .int .i64 k3, .int .i64 k4] rfl rfl ?m1 ?m2 ?m3 ?m4 ?m5 ?_)
        case m1 =>
          intro j u hj
          match j, hj with
          | 0, hj => simp at hj; subst hj; simp [Addr.add]
          | 1, hj => simp at hj; subst hj; simp [Addr.add]
          | 2, hj => simp at hj; subst hj; simp [Addr.add]
        case m2 => intro u hu; simp at hu; rcases hu with rfl | rfl | rfl <;> rfl
        case m3 => unfold maxLen; omega
        case m4 => omega
        case m5 => simp; omega
        intro v5 w5 hown5 hgrow5 _
        obtain ⟨ao6, cap6, rfl⟩ := own_form hown5
        have hb5 : Below w1.heap.size wc w5 := ((Below.refl _ wc).alloc hs1c _).grown hgrow5 (by simp; omega) (fun g hg => (HOc.out.lt g hg).1)
        have HB5 : Hid (Below w1.heap.size w1 w5) := HBc.out.trans hb5
        have HO5 : Hid (w5.ownsRow w1.heap.size 92 3 (.slice ao6 (m + 1) cap6) (l ++ [((k2, k3), k4)]).length (cellsG hopE (l ++ [((k2, k3), k4)]))) := by
          show World.ownsRow _ _ _ _ _ _ _
          rw [List.length_append, HML.out, cellsG_app, cellsG_one]
          exact hown5
        have HLL : Hid (0 < (l ++ [((k2, k3), k4)]).length ∧ (l ++ [((k2, k3), k4)]).length ≤ 24) := by
          rw [List.length_append, HML.out]
          exact ⟨by simp, by simp; omega⟩
        clear hb5 hgrow5 hown5
        go_wp2
        go_roundw
        case rel => exact ⟨l ++ [((k2, k3), k4)], HLL.out, HO5.out, HFN.out, HSPN.out, HB5.out⟩
        case measure => simp [sliL]; omega
      · have HF2 : Hid (F = (k0, k1, l)) := by
          show _ = _
          rw [HFL.out]
          exact fo_end HL24.out HGL.out hk
        have ek : (k0 != 0) = true := by simp [hk]
        have hlgc : g < wc.heap.size := World.block_lt_of_cell? _ _ d0
        clear hk d2 d3 d4 r0 r1 r2 f0 f1 f2
        go_upto_region 5 with fail
        go_region_with (go_at_call 30; refine (clone_any k1 _ HGN.out).mono ?_; rintro e w3 ⟨rfl, hb3⟩; have hbz := bdrew hb3; have HO3 : Hid (w3.ownsRow w1.heap.size 92 3 (.slice (some ⟨g5, o5, none⟩) m cap5) m (cellsG hopE l)) := own_below HOc.out hbz; have HX3 : Hid (FBox w w3 S (.slice ao n cap) (.slice ao2 n2 cap2) (.slice ao3 n3 cap3) x y h) := HXc.out.later HXc.out.lt hbz; have hld := HLT.out.later hbz; obtain ⟨d0, d1, d2, d3, d4⟩ := hld; obtain ⟨hBw3, ⟨b0, b1, b2, b3⟩, i0, i1, i2, r0, r1, r2, f⟩ := HX3.out; have HBw3 : Hid (Below w.heap.size w w3) := hBw3; have f0 := f 0; have f1 := f 1; have f2 := f 2; clear hb3 hbz f hBw3)
        all_goals
          go_wp2
          refine bodyPost_ret (v := .agg #[.int .i64 k0, .string k1, .slice (some ⟨g5, o5, none⟩) m cap5]) (by simp [results, Tryz.results37, go_sem, *]) rfl ⟨_, _, _, by rw [HF2.out], ?_, below_put3 HBw3.out _ (by omega) _ _ _⟩
          rw [HF2.out]
          exact own_mono (B := w1.heap.size) (by rw [HML.out]; exact own_put3 HO3.out _ (by omega) _ _ _) (by have := HLW1.out; omega)
end Go.Proofs.YtpmcjelihdlfeaaGreatDoor
/- What railref1.Go answers: a contract for the walks above it. -/
namespace Go.Proofs.YtpmcjelihdlfeaaGreatDoor
open Go.RowKit
set_option linter.unusedSimpArgs false
set_option linter.unusedVariables false

theorem go_drewN (w : World) (n : Nat) : Below w.heap.size w (w.drewN n) := ⟨rfl, rfl, rfl, Nat.le_refl _, fun _ _ => rfl⟩
/-- What it answers: a fate, and whether it goes on. -/
def gnF (Ls : List ((Int × Int) × (Int × Int))) (Hs : List (ByteArray × (Int × Int))) (t : List Ru) (l : List ((Int × Int) × Int)) : (Int × ByteArray × List ((Int × Int) × Int)) × Bool :=
  match goE Ls Hs t l (laH l) with
  | .inl e => ((e.1, e.2, l), false)
  | .inr q => ((0, ByteArray.empty, l ++ [q]), true)
section
variable {Ls : List ((Int × Int) × (Int × Int))} {Hs : List (ByteArray × (Int × Int))} {t : List Ru} {l : List ((Int × Int) × Int)} {q : (Int × Int) × Int}
theorem gn_2 (h : stT t (laH l) = none) : gnF Ls Hs t l = ((2, ByteArray.empty, l), false) := by
  have e : goE Ls Hs t l (laH l) = .inl (2, ByteArray.empty) := by
    unfold goE
    rw [h]
  unfold gnF
  rw [e]
theorem gn_1 (h : stT t (laH l) = some q) {m : ByteArray} (ha : atO Hs q.1 = some m) : gnF Ls Hs t l = ((1, m, l), false) := by
  have e : goE Ls Hs t l (laH l) = .inl (1, m) := by
    unfold goE
    rw [h]
    simp only [ha]
  unfold gnF
  rw [e]
theorem gn_3 (h : stT t (laH l) = some q) (ha : atO Hs q.1 = none) (hp : peerO Ls q.1 = none) : gnF Ls Hs t l = ((3, ByteArray.empty, l), false) := by
  have e : goE Ls Hs t l (laH l) = .inl (3, ByteArray.empty) := by
    unfold goE
    rw [h]
    simp only [ha, hp]
  unfold gnF
  rw [e]
theorem gn_4 (h : stT t (laH l) = some q) (ha : atO Hs q.1 = none) {s : Int × Int} (hp : peerO Ls q.1 = some s) (h4 : l.length = 24 ∨ (l.any fun x => heB (s, q.2) x) = true) : gnF Ls Hs t l = ((4, ByteArray.empty, l), false) := by
  have e : goE Ls Hs t l (laH l) = .inl (4, ByteArray.empty) := by
    unfold goE
    rw [h]
    simp only [ha, hp]
    rw [if_pos h4]
  unfold gnF
  rw [e]
theorem gn_n (h : stT t (laH l) = some q) (ha : atO Hs q.1 = none) {s : Int × Int} (hp : peerO Ls q.1 = some s) (h4 : l.length ≠ 24) (h5 : (l.any fun x => heB (s, q.2) x) = false) : gnF Ls Hs t l = ((0, ByteArray.empty, l ++ [(s, q.2)]), true) := by
  have e : goE Ls Hs t l (laH l) = .inr (s, q.2) := by
    unfold goE
    rw [h]
    simp only [ha, hp]
    rw [if_neg]
    rw [not_or, h5]
    exact ⟨h4, by simp⟩
  unfold gnF
  rw [e]
end
theorem he_sy (a b : (Int × Int) × Int) : heB a b = hopB b a := by
  rw [Bool.eq_iff_iff, heB_iff, hopB_iff]
  exact eq_comm
/-- The boxes: a topology, a fate, the answer's. -/
structure GB (w W : World) (S : Int) (v1 v2 : Value) (u : Value) : Prop where
  below : Below w.heap.size w W
  t : TBox W w.heap.size S v1 v2
  f0 : W.cell? ⟨w.heap.size + 1, 0, none⟩ = some (.int .i64 0)
  f1 : W.cell? ⟨w.heap.size + 1, 1, none⟩ = some (.string ⟨#[]⟩)
  f2 : W.cell? ⟨w.heap.size + 1, 2, none⟩ = some u
  ff : ∀ i, W.frozen? ⟨w.heap.size + 1, i, none⟩ = false
  r0 : W.cell? ⟨w.heap.size + 1 + 1, 0, none⟩ = some (.int .i64 0)
  r1 : W.cell? ⟨w.heap.size + 1 + 1, 1, none⟩ = some (.string ⟨#[]⟩)
  r2 : W.cell? ⟨w.heap.size + 1 + 1, 2, none⟩ = some (.slice none 0 0)
  rf : ∀ i, W.frozen? ⟨w.heap.size + 1 + 1, i, none⟩ = false
theorem GB.lt {w W : World} {S : Int} {v1 v2 u : Value} (k : GB w W S v1 v2 u) : w.heap.size + 3 ≤ W.heap.size := World.block_lt_of_cell? W ⟨w.heap.size + 1 + 1, 0, none⟩ k.r0
theorem GB.later {w W W' : World} {S : Int} {v1 v2 u : Value} (k : GB w W S v1 v2 u) {B : Nat} (hB : w.heap.size + 3 ≤ B) (hb : Below B W W') : GB w W' S v1 v2 u :=
  have hc : ∀ (g i : Nat) (x : Value), g < w.heap.size + 3 → W.cell? ⟨g, i, none⟩ = some x → W'.cell? ⟨g, i, none⟩ = some x := fun g i x hg e => (hb.cell (p := ⟨g, i, none⟩) (show g < B by omega)).trans e
  ⟨k.below.trans (hb.mono (by omega)), ⟨hc _ _ _ (by omega) k.t.1, hc _ _ _ (by omega) k.t.2.1, hc _ _ _ (by omega) k.t.2.2⟩, hc _ _ _ (by omega) k.f0, hc _ _ _ (by omega) k.f1, hc _ _ _ (by omega) k.f2, fun i => (hb.frozen (p := ⟨w.heap.size + 1, i, none⟩) (show w.heap.size + 1 < B by omega)).trans (k.ff i), hc _ _ _ (by omega) k.r0, hc _ _ _ (by omega) k.r1, hc _ _ _ (by omega) k.r2, fun i => (hb.frozen (p := ⟨w.heap.size + 1 + 1, i, none⟩) (show w.heap.size + 1 + 1 < B by omega)).trans (k.rf i)⟩
theorem gb_new (w : World) (S : Int) (v1 v2 u : Value) : GB w (((w.alloc (Obj.cells #[.int .i64 S, v1, v2] 25)).alloc (Obj.cells #[.int .i64 0, .string ⟨#[]⟩, u] 34)).alloc (Obj.cells #[.int .i64 0, .string ⟨#[]⟩, .slice none 0 0] 34)) S v1 v2 u := by
  have hb : ∀ (W : World) (o : Obj), Below W.heap.size W (W.alloc o) := fun W o => (Below.refl _ _).alloc (Nat.le_refl _) _
  have ht := tbox_new w S v1 v2 25
  have e1 : (w.alloc (Obj.cells #[.int .i64 S, v1, v2] 25)).heap.size = w.heap.size + 1 := by simp
  have b1 := hb w (Obj.cells #[.int .i64 S, v1, v2] 25)
  generalize w.alloc (Obj.cells #[.int .i64 S, v1, v2] 25) = A at ht e1 b1
  have hf := vat_new A [.int .i64 0, .string ⟨#[]⟩, u] 34
  have zf := froz_new2 A #[.int .i64 0, .string ⟨#[]⟩, u] 34
  have e2 : (A.alloc (Obj.cells #[.int .i64 0, .string ⟨#[]⟩, u] 34)).heap.size = w.heap.size + 1 + 1 := by simp [e1]
  have b2 := hb A (Obj.cells #[.int .i64 0, .string ⟨#[]⟩, u] 34)
  rw [e1] at hf zf
  generalize A.alloc (Obj.cells #[.int .i64 0, .string ⟨#[]⟩, u] 34) = C at hf zf e2 b2
  have hr := vat_new C [.int .i64 0, .string ⟨#[]⟩, .slice none 0 0] 34
  have zr := froz_new2 C #[.int .i64 0, .string ⟨#[]⟩, .slice none 0 0] 34
  have b3 := hb C (Obj.cells #[.int .i64 0, .string ⟨#[]⟩, .slice none 0 0] 34)
  rw [e2] at hr zr
  have hf' := hf.later b3
  exact ⟨(b1.trans (b2.mono (by omega))).trans (b3.mono (by omega)), (ht.later b2).later b3, hf' 0 _ rfl, hf' 1 _ rfl, hf' 2 _ rfl, fun i => (b3.frozen (p := ⟨w.heap.size + 1, i, none⟩) (show w.heap.size + 1 < C.heap.size by omega)).trans (zf i), hr 0 _ rfl, hr 1 _ rfl, hr 2 _ rfl, zr⟩

set_option maxHeartbeats 8000000 in
set_option maxRecDepth 100000 in
theorem rgo_any (S : Int) (ao : Option Addr) (n cap : Nat) (ao2 : Option Addr) (n2 cap2 : Nat) (a4 : Option Addr) (n4 c4 : Nat) (ao5 : Option Addr) (m cap5 : Nat) (Ls : List ((Int × Int) × (Int × Int))) (Hs : List (ByteArray × (Int × Int))) (t : List Ru) (l : List ((Int × Int) × Int)) (w : World)
    (hL : GS lnkE w (.slice ao n cap) Ls) (hH : GS hstE w (.slice ao2 n2 cap2) Hs) (hS : SR w (.slice a4 n4 c4) t) (hG : GS hopE w (.slice ao5 m cap5) l) (ht : tbN t = 0) (hh : hdrB (laH l).2 = true) (hl0 : 0 < m) (hl24 : m ≤ 24) :
    Calls Tryz.prog 56 #[.agg #[.int .i64 S, .slice ao n cap, .slice ao2 n2 cap2], .slice a4 n4 c4, .agg #[.int .i64 0, .string ⟨#[]⟩, .slice ao5 m cap5]] w fun e w' => ∃ ao6 n6 cap6, e = .returned (.tuple #[.agg #[.int .i64 (gnF Ls Hs t l).1.1, .string (gnF Ls Hs t l).1.2.1, .slice ao6 n6 cap6], .bool (gnF Ls Hs t l).2]) ∧ GS hopE w' (.slice ao6 n6 cap6) (gnF Ls Hs t l).1.2.2 ∧ Below w.heap.size w w' ∧ (ao6 = ao5 ∨ ∀ g o, ao6 = some ⟨g, o, none⟩ → w.heap.size ≤ g) := by
  have hm := hG.len
  have HML : Hid (l.length = m) := hm
  have HLW : Hid (∀ W, Below w.heap.size w W → GS lnkE W (.slice ao n cap) Ls) := fun W hb => hL.later hb
  have HHW : Hid (∀ W, Below w.heap.size w W → GS hstE W (.slice ao2 n2 cap2) Hs) := fun W hb => hH.later hb
  have HSW : Hid (∀ W, Below w.heap.size w W → SR W (.slice a4 n4 c4) t) := fun W hb => hS.later hb
  have HGW : Hid (∀ W, Below w.heap.size w W → GS hopE W (.slice ao5 m cap5) l) := fun W hb => hG.later hb
  have HTB : Hid (tbN t = 0) := ht
  have HHB : Hid (∀ g o, 0 < n2 → ao2 = some ⟨g, o, none⟩ → g < w.heap.size) := fun g o h1 h2 => by
    obtain ⟨_, _, _, e7, h3, _, _, h4⟩ := hH.form
    cases e7
    obtain ⟨g', o', e8, h5, _⟩ := h4 h1
    rw [h2] at e8
    cases e8
    obtain ⟨_, _, _, _, _, k0, _, _⟩ := hst_at h5 h3 h1
    exact World.block_lt_of_cell? _ _ k0
  obtain ⟨F, hF⟩ : ∃ F, F = gnF Ls Hs t l := ⟨_, rfl⟩
  have HF : Hid (F = gnF Ls Hs t l) := hF
  rw [← hF]
  obtain ⟨_, _, _, e5, _, _, _, hGa⟩ := hG.form
  cases e5
  obtain ⟨g5, o5, hao5, hc5, _⟩ := hGa hl0
  subst hao5
  have HC5 : Hid (∀ W, Below w.heap.size w W → GAt hopE W g5 o5 l) := fun W hb => hc5.later hb
  have hX := gb_new w S (.slice ao n cap) (.slice ao2 n2 cap2) (.slice (some ⟨g5, o5, none⟩) m cap5)
  obtain ⟨w0, hw0⟩ : ∃ W, ((w.alloc (Obj.cells #[.int .i64 S, .slice ao n cap, .slice ao2 n2 cap2] 25)).alloc (Obj.cells #[.int .i64 0, .string ⟨#[]⟩, .slice (some ⟨g5, o5, none⟩) m cap5] 34)).alloc (Obj.cells #[.int .i64 0, .string ⟨#[]⟩, .slice none 0 0] 34) = W := ⟨_, rfl⟩
  rw [hw0] at hX
  have HX : Hid (GB w w0 S (.slice ao n cap) (.slice ao2 n2 cap2) (.slice (some ⟨g5, o5, none⟩) m cap5)) := hX
  have HW0 : Hid (((w.alloc (Obj.cells #[.int .i64 S, .slice ao n cap, .slice ao2 n2 cap2] 25)).alloc (Obj.cells #[.int .i64 0, .string ⟨#[]⟩, .slice (some ⟨g5, o5, none⟩) m cap5] 34)).alloc (Obj.cells #[.int .i64 0, .string ⟨#[]⟩, .slice none 0 0] 34) = w0) := hw0
  obtain ⟨p0, p1, p2, hkl, hLk, _, _, _⟩ := hop_at hc5 hm (show m - 1 < m by omega)
  have hla : laH l = ((p0, p1), p2) := by
    have e : laH l = l[m - 1] := by
      unfold laH
      rw [hm]
      simp [List.getD, hkl]
    rw [e, hLk]
  have HLA : Hid (laH l = ((p0, p1), p2)) := hla
  rw [hla] at hh
  have HH : Hid (hdrB p2 = true) := hh
  have hmi : IntKind.i64.wrap ((m : Int) - 1) = ((m - 1 : Nat) : Int) := by
    rw [show (m : Int) - 1 = ((m - 1 : Nat) : Int) by omega]
    exact wrap_small (by omega) (by omega)
  have mb0 : (0 : Int) ≤ ((m - 1 : Nat) : Int) := by omega
  have mb1 : ((m - 1 : Nat) : Int) < (m : Int) := by omega
  obtain ⟨p0', p1', p2', hkl', hLk', c0, c1, c2⟩ := hop_at (HC5.out _ hX.below) hm (show m - 1 < m by omega)
  rw [hLk] at hLk'
  cases hLk'
  obtain ⟨w1, hw1⟩ : ∃ W, w0.alloc (Obj.cells #[.int .i64 p0, .int .i64 p1, .int .i64 p2] 92) = W := ⟨_, rfl⟩
  obtain ⟨g1, hg1⟩ : ∃ g, w0.heap.size = g := ⟨_, rfl⟩
  have hb1 : Below w0.heap.size w0 w1 := by
    rw [← hw1]
    exact (Below.refl _ _).alloc (Nat.le_refl _) _
  have hv1 := hop_new w0 p0 p1 p2 92
  rw [hw1, hg1] at hv1
  have HX1 : Hid (GB w w1 S (.slice ao n cap) (.slice ao2 n2 cap2) (.slice (some ⟨g5, o5, none⟩) m cap5)) := hX.later hX.lt hb1
  have HV1 : Hid (VAt w1 g1 0 (hopE.c ((p0, p1), p2))) := hv1
  have HW1 : Hid (w0.alloc (Obj.cells #[.int .i64 p0, .int .i64 p1, .int .i64 p2] 92) = w1) := hw1
  have HG1 : Hid (w0.heap.size = g1) := hg1
  clear hL hH hS hG ht hF hGa hc5 hw0 hkl hLk hla hh hkl' hw1 hg1 hb1 hv1 hm
  obtain ⟨_, ⟨b0, b1, b2⟩, f0, f1, f2, _, _, _, _, _⟩ := hX
  go_enter Tryz.func56, Tryz.ntmps56
  go_upto_region 1 with fail
  rw [HW0.out]
  go_upto_region 2 with fail
  rw [HW1.out, HG1.out]
  obtain ⟨t0, t1, t2⟩ := hop_cells HV1.out
  simp only [Nat.zero_add] at t0 t1 t2
  clear HW0 HW1 HG1 b0 b1 b2 f0 f1 f2 c0 c1 c2 HX
  go_wp2_with fail
  refine (find_any (.slice a4 n4 c4) t p2 _ (HSW.out _ HX1.out.below)).mono ?_
  rintro e w2 ⟨rfl, hb2⟩
  have HX2 : Hid (GB w w2 S (.slice ao n cap) (.slice ao2 n2 cap2) (.slice (some ⟨g5, o5, none⟩) m cap5)) := HX1.out.later HX1.out.lt hb2
  have HV2 : Hid (VAt w2 g1 0 (hopE.c ((p0, p1), p2))) := HV1.out.later hb2
  obtain ⟨I, hI⟩ : ∃ I, I = beTo t p2 t.length := ⟨_, rfl⟩
  have HI : Hid (beTo t p2 t.length = I) := hI.symm
  rw [← hI]
  obtain ⟨t0, t1, t2⟩ := hop_cells HV2.out
  simp only [Nat.zero_add] at t0 t1 t2
  clear hb2 hI HX1 HV1
  by_cases hneg : I < 0
  · have e1 : decide (I < 0) = true := by simpa using hneg
    have HF2 : Hid (F = ((2, ByteArray.empty, l), false)) := by
      show _ = _
      rw [HF.out]
      refine gn_2 ?_
      rw [HLA.out]
      exact st_no HTB.out HH.out (by rw [HI.out]; exact hneg)
    obtain ⟨hBw, ⟨b0, b1, b2⟩, f0, f1, f2, ff, r0, r1, r2, rf⟩ := HX2.out
    have HBw : Hid (Below w.heap.size w w2) := hBw
    have ff0 := ff 0
    have rf0 := rf 0
    have rf1 := rf 1
    have rf2 := rf 2
    clear ff rf hBw
    go_wp2
    have HBE : Hid (∀ u a b c, Below w.heap.size w (put3 (w2.setCell ⟨w.heap.size + 1, 0, none⟩ u) (w.heap.size + 1 + 1) a b c)) := fun u a b c => below_put3 (HBw.out.setCell (p := ⟨w.heap.size + 1, 0, none⟩) (show w.heap.size ≤ w.heap.size + 1 by omega) u) _ (by omega) _ _ _
    refine bodyPost_ret (v := .tuple #[.agg #[.int .i64 2, .string ⟨#[]⟩, .slice (some ⟨g5, o5, none⟩) m cap5], .bool false]) (by simp [results, Tryz.results56, go_sem, *]) rfl ⟨_, _, _, by rw [HF2.out]; rfl, ?_, HBE.out _ _ _ _, .inl rfl⟩
    rw [HF2.out]
    exact HGW.out _ (HBE.out _ _ _ _)
  · have e1 : decide (I < 0) = false := by simpa using hneg
    have hbd := be_bd t p2 t.length
    rw [HI.out] at hbd
    obtain ⟨j, rfl⟩ : ∃ j : Nat, I = (j : Int) := ⟨I.toNat, by omega⟩
    have hjl : j < t.length := by omega
    obtain ⟨_, _, _, e4, hn4, hm4, _, ha4⟩ := (HSW.out _ HX2.out.below).form
    cases e4
    obtain ⟨g4, o4, hao4, hc4, _⟩ := ha4 (by omega)
    subst hao4
    have hjn : j < n4 := by omega
    obtain ⟨rp, rm, rb, ro, rs, rv, hl, hLj, q0, q1, q2, q3, q4, q5⟩ := hc4.at hn4 hjn
    have hbe : beR t p2 = ⟨rp, rm, rb, ro, rs, rv⟩ := by
      rw [beR, HI.out, Int.toNat_natCast, getD_at hjl, hLj]
    have HBE : Hid (beR t p2 = ⟨rp, rm, rb, ro, rs, rv⟩) := hbe
    have HLJ : Hid (t[j] = ⟨rp, rm, rb, ro, rs, rv⟩) := hLj
    have HN4 : Hid (t.length = n4) := hn4
    have HB0 : Hid (0 ≤ beTo t p2 t.length) := by
      show _ ≤ _
      rw [HI.out]
      omega
    have jb0 : (0 : Int) ≤ (j : Int) := by omega
    have jb1 : (j : Int) < (n4 : Int) := by omega
    have hj0 : ¬ (j : Int) < 0 := by omega
    clear hneg hbd hn4 hm4 ha4 hc4 hLj hbe
    by_cases ho : ro = 0
    · have e2 : (ro == 0) = true := by simp [ho]
      have HF2 : Hid (F = ((2, ByteArray.empty, l), false)) := by
        show _ = _
        rw [HF.out]
        refine gn_2 ?_
        rw [HLA.out]
        exact st_drop HTB.out HH.out HB0.out (by rw [HBE.out]; exact ho)
      clear ho
      obtain ⟨hBw, ⟨b0, b1, b2⟩, f0, f1, f2, ff, r0, r1, r2, rf⟩ := HX2.out
      have HBw : Hid (Below w.heap.size w w2) := hBw
      have ff0 := ff 0
      have rf0 := rf 0
      have rf1 := rf 1
      have rf2 := rf 2
      clear ff rf hBw
      go_wp2
      have HBE : Hid (∀ u a b c, Below w.heap.size w (put3 (w2.setCell ⟨w.heap.size + 1, 0, none⟩ u) (w.heap.size + 1 + 1) a b c)) := fun u a b c => below_put3 (HBw.out.setCell (p := ⟨w.heap.size + 1, 0, none⟩) (show w.heap.size ≤ w.heap.size + 1 by omega) u) _ (by omega) _ _ _
      refine bodyPost_ret (v := .tuple #[.agg #[.int .i64 2, .string ⟨#[]⟩, .slice (some ⟨g5, o5, none⟩) m cap5], .bool false]) (by simp [results, Tryz.results56, go_sem, *]) rfl ⟨_, _, _, by rw [HF2.out]; rfl, ?_, HBE.out _ _ _ _, .inl rfl⟩
      rw [HF2.out]
      exact HGW.out _ (HBE.out _ _ _ _)
    · have e2 : (ro == 0) = false := by simpa using ho
      obtain ⟨k1, k2, k3⟩ := st_yes (p := ((p0, p1), p2)) HTB.out HH.out HB0.out (by rw [HBE.out]; exact ho)
      rw [HBE.out] at k1 k2 k3
      simp only at k1 k2 k3
      obtain ⟨TU, hTU⟩ : ∃ u, u = tuTo rs rv p2 4 := ⟨_, rfl⟩
      have HTU : Hid (tuTo rs rv p2 4 = TU) := hTU.symm
      rw [← hTU] at k1
      have HST : Hid (stT t (laH l) = some ((p0, ro), TU)) := by
        show _ = _
        rw [HLA.out]
        exact k1
      have HRS : Hid (0 ≤ rs ∧ rs < 16) := k2
      have HRV : Hid (0 ≤ rv ∧ rv < 16) := k3
      have y1 : g1 < w2.heap.size := World.block_lt_of_cell? _ _ t0
      have y4 : g4 < w2.heap.size := World.block_lt_of_cell? _ _ q0
      clear ho k1 k2 k3 hTU
      go_upto_region 6 with fail
      go_cut [10] from 42 to 50 (fun p w' => ∃ g, p = .pointer (some ⟨g, 0, none⟩) ∧ (w'.cell? ⟨g, 0, none⟩ = some (.int .i64 p0) ∧ w'.cell? ⟨g, 1, none⟩ = some (.int .i64 ro)) ∧ Below w2.heap.size w2 w')
      case first =>
        as_aux_lemma =>
          go_region
          all_goals (go_wp2_with fail; go_meet)
          all_goals exact ⟨_, rfl, ⟨by simp, by simp⟩, (Below.drew (Below.refl _ _)).alloc (Nat.le_refl _) _⟩
      case rest =>
        obtain ⟨gs, rfl, ⟨d0, d1⟩, hb3⟩ := hcut
        have HX3 : Hid (GB w wc S (.slice ao n cap) (.slice ao2 n2 cap2) (.slice (some ⟨g5, o5, none⟩) m cap5)) := HX2.out.later HX2.out.lt hb3
        have HV3 : Hid (VAt wc g1 0 (hopE.c ((p0, p1), p2))) := HV2.out.later hb3
        have HD3 : Hid (VAt wc gs 0 [.int .i64 p0, .int .i64 ro]) := by
          intro j u hu
          match j, hu with
          | 0, hu => cases hu; exact d0
          | 1, hu => cases hu; exact d1
        obtain ⟨w3, hw3⟩ : ∃ X, X = wc := ⟨_, rfl⟩
        subst hw3
        obtain ⟨_, ⟨b0, b1, b2⟩, f0, f1, f2, _, _, _, _, _⟩ := HX3.out
        clear hb3 HX2 HV2 t0 t1 t2 q0 q1 q2 q3 q4 q5 y1 y4
        go_wp2_with fail
        refine (rhost_any S ao n cap ao2 n2 cap2 Hs p0 ro _ (HHW.out _ HX3.out.below)).mono ?_
        rintro e w5 ⟨rfl, hb5⟩
        have HX5 : Hid (GB w w5 S (.slice ao n cap) (.slice ao2 n2 cap2) (.slice (some ⟨g5, o5, none⟩) m cap5)) := HX3.out.later HX3.out.lt hb5
        have HV5 : Hid (VAt w5 g1 0 (hopE.c ((p0, p1), p2))) := HV3.out.later hb5
        have HD5 : Hid (VAt w5 gs 0 [.int .i64 p0, .int .i64 ro]) := HD3.out.later hb5
        clear hb5 HX3 HV3 HD3 b0 b1 b2 f0 f1 f2 d0 d1
        rcases at_ix Hs (p0, ro) with ⟨hi, hat⟩ | ⟨k, hk, hi, hat⟩
        · rw [show atN Hs (p0, ro) = -1 from hi]
          have HAT : Hid (atO Hs (p0, ro) = none) := hat
          obtain ⟨_, ⟨b0, b1, b2⟩, f0, f1, f2, _, _, _, _, _⟩ := HX5.out
          have d0 : w5.cell? ⟨gs, 0, none⟩ = some (.int .i64 p0) := HD5.out 0 _ rfl
          have d1 : w5.cell? ⟨gs, 1, none⟩ = some (.int .i64 ro) := HD5.out 1 _ rfl
          clear hi hat
          go_wp2_with fail
          refine (rpeer_any S ao n cap ao2 n2 cap2 Ls p0 ro _ (HLW.out _ HX5.out.below)).mono ?_
          rintro e w6 ⟨rfl, hb6⟩
          obtain ⟨P, hP⟩ : ∃ P, P = peerO Ls (p0, ro) := ⟨_, rfl⟩
          have HP : Hid (peerO Ls (p0, ro) = P) := hP.symm
          rw [← hP]
          have HX6 : Hid (GB w w6 S (.slice ao n cap) (.slice ao2 n2 cap2) (.slice (some ⟨g5, o5, none⟩) m cap5)) := HX5.out.later HX5.out.lt hb6
          have HV6 : Hid (VAt w6 g1 0 (hopE.c ((p0, p1), p2))) := HV5.out.later hb6
          clear hb6 hP HX5 HV5 HD5 b0 b1 b2 f0 f1 f2 d0 d1
          cases P with
          | none =>
            have HF2 : Hid (F = ((3, ByteArray.empty, l), false)) := by
              show _ = _
              rw [HF.out]
              exact gn_3 HST.out HAT.out HP.out
            simp only [Option.getD_none, Option.isSome_none]
            have b7 : Below w6.heap.size w6 (w6.alloc (Obj.cells #[.int .i64 0, .int .i64 0] 80)) := (Below.refl _ _).alloc (Nat.le_refl _) _
            obtain ⟨w7, hw7⟩ : ∃ W, w6.alloc (Obj.cells #[.int .i64 0, .int .i64 0] 80) = W := ⟨_, rfl⟩
            rw [hw7] at b7
            have HX7 : Hid (GB w w7 S (.slice ao n cap) (.slice ao2 n2 cap2) (.slice (some ⟨g5, o5, none⟩) m cap5)) := HX6.out.later HX6.out.lt b7
            have HW7 : Hid (w6.alloc (Obj.cells #[.int .i64 0, .int .i64 0] 80) = w7) := hw7
            clear b7 hw7
            go_upto_region 13 with fail
            rw [HW7.out]
            clear HW7
            obtain ⟨hBw, ⟨b0, b1, b2⟩, f0, f1, f2, ff, r0, r1, r2, rf⟩ := HX7.out
            have HBw : Hid (Below w.heap.size w w7) := hBw
            have ff0 := ff 0
            have rf0 := rf 0
            have rf1 := rf 1
            have rf2 := rf 2
            clear ff rf hBw
            go_wp2
            have HBE : Hid (∀ u a b c, Below w.heap.size w (put3 (w7.setCell ⟨w.heap.size + 1, 0, none⟩ u) (w.heap.size + 1 + 1) a b c)) := fun u a b c => below_put3 (HBw.out.setCell (p := ⟨w.heap.size + 1, 0, none⟩) (show w.heap.size ≤ w.heap.size + 1 by omega) u) _ (by omega) _ _ _
            refine bodyPost_ret (v := .tuple #[.agg #[.int .i64 3, .string ⟨#[]⟩, .slice (some ⟨g5, o5, none⟩) m cap5], .bool false]) (by simp [results, Tryz.results56, go_sem, *]) rfl ⟨_, _, _, by rw [HF2.out]; rfl, ?_, HBE.out _ _ _ _, .inl rfl⟩
            rw [HF2.out]
            exact HGW.out _ (HBE.out _ _ _ _)
          | some s =>
            obtain ⟨s1, s2⟩ := s
            simp only [Option.getD_some, Option.isSome_some]
            have b7 : Below w6.heap.size w6 (w6.alloc (Obj.cells #[.int .i64 s1, .int .i64 s2] 80)) := (Below.refl _ _).alloc (Nat.le_refl _) _
            have v7 := vat_new w6 [.int .i64 s1, .int .i64 s2] 80
            obtain ⟨w7, hw7⟩ : ∃ W, w6.alloc (Obj.cells #[.int .i64 s1, .int .i64 s2] 80) = W := ⟨_, rfl⟩
            obtain ⟨g7, hg7⟩ : ∃ g, w6.heap.size = g := ⟨_, rfl⟩
            have v7' : VAt w7 g7 0 [.int .i64 s1, .int .i64 s2] := by
              rw [← hw7, ← hg7]
              exact v7
            rw [hw7] at b7
            have HX7 : Hid (GB w w7 S (.slice ao n cap) (.slice ao2 n2 cap2) (.slice (some ⟨g5, o5, none⟩) m cap5)) := HX6.out.later HX6.out.lt b7
            have HV7 : Hid (VAt w7 g1 0 (hopE.c ((p0, p1), p2))) := HV6.out.later b7
            have HW7 : Hid (w6.alloc (Obj.cells #[.int .i64 s1, .int .i64 s2] 80) = w7) := hw7
            have HG7 : Hid (w6.heap.size = g7) := hg7
            have d0 : w7.cell? ⟨g7, 0, none⟩ = some (.int .i64 s1) := v7' 0 _ rfl
            have d1 : w7.cell? ⟨g7, 1, none⟩ = some (.int .i64 s2) := v7' 1 _ rfl
            obtain ⟨t0, t1, t2⟩ := hop_cells HV7.out
            simp only [Nat.zero_add] at t0 t1 t2
            obtain ⟨_, _, _, e4, _, _, _, ha4⟩ := (HSW.out _ HX7.out.below).form
            cases e4
            obtain ⟨g4', o4', hao4, hc4, _⟩ := ha4 (by omega)
            cases hao4
            obtain ⟨rp', rm', rb', ro', rs', rv', hl', hLj', q0, q1, q2, q3, q4, q5⟩ := hc4.at HN4.out hjn
            rw [HLJ.out] at hLj'
            cases hLj'
            have y1 : g1 < w7.heap.size := World.block_lt_of_cell? _ _ t0
            have y4 : g4 < w7.heap.size := World.block_lt_of_cell? _ _ q0
            have y7 : g7 < w7.heap.size := World.block_lt_of_cell? _ _ d0
            have h16 := hdr_of HH.out
            have HH16 : Hid (0 ≤ p2 ∧ p2 < 16) := h16
            clear b7 v7 hw7 hg7 v7' ha4 hc4 HX6 HV6 h16
            go_upto_region 13 with fail
            rw [HW7.out, HG7.out]
            clear HW7 HG7
            go_upto_region 16 with fail
            go_cut [14] from 75 to 83 (fun p w' => ∃ g, p = .pointer (some ⟨g, 0, none⟩) ∧ (w'.cell? ⟨g, 0, none⟩ = some (.int .i64 s1) ∧ w'.cell? ⟨g, 1, none⟩ = some (.int .i64 s2) ∧ w'.cell? ⟨g, 2, none⟩ = some (.int .i64 TU)) ∧ Below w7.heap.size w7 w')
            case first =>
              as_aux_lemma =>
                have HMK : Hid (∀ W, Below w7.heap.size w7 W → (fun w' => Below w7.heap.size w7 w' ∧ w'.cell? ⟨g7, 0, none⟩ = some (.int .i64 s1) ∧ w'.cell? ⟨g7, 1, none⟩ = some (.int .i64 s2) ∧ w'.cell? ⟨g4, o4 + j * 6, none⟩ = some (.int .i64 rp) ∧ w'.cell? ⟨g4, o4 + j * 6 + 1, none⟩ = some (.int .i64 rm) ∧ w'.cell? ⟨g4, o4 + j * 6 + 2, none⟩ = some (.int .i64 rb) ∧ w'.cell? ⟨g4, o4 + j * 6 + 3, none⟩ = some (.int .i64 ro) ∧ w'.cell? ⟨g4, o4 + j * 6 + 4, none⟩ = some (.int .i64 rs) ∧ w'.cell? ⟨g4, o4 + j * 6 + 5, none⟩ = some (.int .i64 rv) ∧ w'.cell? ⟨g1, 2, none⟩ = some (.int .i64 p2)) W) := fun W hb => ⟨hb, cell_later hb d0, cell_later hb d1, cell_later hb q0, cell_later hb q1, cell_later hb q2, cell_later hb q3, cell_later hb q4, cell_later hb q5, cell_later hb t2⟩
                go_region_held3 (fun w' => Below w7.heap.size w7 w' ∧ w'.cell? ⟨g7, 0, none⟩ = some (.int .i64 s1) ∧ w'.cell? ⟨g7, 1, none⟩ = some (.int .i64 s2) ∧ w'.cell? ⟨g4, o4 + j * 6, none⟩ = some (.int .i64 rp) ∧ w'.cell? ⟨g4, o4 + j * 6 + 1, none⟩ = some (.int .i64 rm) ∧ w'.cell? ⟨g4, o4 + j * 6 + 2, none⟩ = some (.int .i64 rb) ∧ w'.cell? ⟨g4, o4 + j * 6 + 3, none⟩ = some (.int .i64 ro) ∧ w'.cell? ⟨g4, o4 + j * 6 + 4, none⟩ = some (.int .i64 rs) ∧ w'.cell? ⟨g4, o4 + j * 6 + 5, none⟩ = some (.int .i64 rv) ∧ w'.cell? ⟨g1, 2, none⟩ = some (.int .i64 p2))
                  (first | assumption | exact HMK.out _ (Below.drew (Below.refl _ _)) | exact HMK.out _ ((Below.drew (Below.refl _ _)).alloc (Nat.le_refl _) _) | exact HMK.out _ HBX.out | exact HMK.out _ (HBX.out.alloc HBX.out.size _) | exact HMK.out _ (below_put3 HBX.out _ (Nat.le_refl _) _ _ _) | exact HMK.out _ (below_put3 (HBX.out.alloc HBX.out.size _) _ HBX.out.size _ _ _))
                  (first | (go_at_call 90; refine (turned_any rp rm rb ro rs rv p2 _ HRS.out HRV.out HH16.out).mono ?_; rintro e w' ⟨rfl, hb⟩; rw [HTU.out]; have HBX : Hid (Below w7.heap.size w7 w') := (by first | exact bdrew hb | exact balloc hb); try (have hbc := ballocD hb; obtain ⟨kc, kf0, kf1, kf2⟩ := hbc; obtain ⟨k0, k1, k2⟩ := kc); clear hb))
                all_goals (go_wp2_with fail; go_meet)
                all_goals first
                  | exact ⟨_, rfl, ⟨by simp, by simp, by simp⟩, HBX.out.alloc HBX.out.size _⟩
                  | exact ⟨_, rfl, put3_cells ⟨k0, k1, k2⟩, below_put3 HBX.out _ (Nat.le_refl _) _ _ _⟩
            case rest =>
              obtain ⟨gn, rfl, ⟨x0, x1, x2⟩, hb8⟩ := hcut
              have HX8 : Hid (GB w wc S (.slice ao n cap) (.slice ao2 n2 cap2) (.slice (some ⟨g5, o5, none⟩) m cap5)) := HX7.out.later HX7.out.lt hb8
              have HN8 : Hid (VAt wc gn 0 (hopE.c ((s1, s2), TU))) := by
                intro j u hu
                match j, hu with
                | 0, hu => cases hu; exact x0
                | 1, hu => cases hu; exact x1
                | 2, hu => cases hu; exact x2
              obtain ⟨w8, hw8⟩ : ∃ X, X = wc := ⟨_, rfl⟩
              subst hw8
              obtain ⟨_, ⟨b0, b1, b2⟩, f0, f1, f2, _, _, _, _, _⟩ := HX8.out
              clear hb8 HX7 HV7 t0 t1 t2 d0 d1 q0 q1 q2 q3 q4 q5 y1 y4 y7 x0 x1 x2
              go_wp2
              clear b0 b1 b2 f0 f1 f2
              go_loopw [15, 16] (fun a i wr => ∃ k : Nat, k ≤ m ∧ i = .int .i64 k ∧ a = .bool (decide ((24 : Int) ≤ (m : Int)) || (l.take k).any (fun x => hopB x ((s1, s2), TU))) ∧ Below w8.heap.size w8 wr) (fun _ i _ => m - (intOf i).toNat)
              case atStart => exact ⟨0, by omega, rfl, by simp, Below.refl _ _⟩
              case round =>
                obtain ⟨k, hk, rfl, rfl, hBr⟩ := hrel
                have HXr : Hid (GB w wr S (.slice ao n cap) (.slice ao2 n2 cap2) (.slice (some ⟨g5, o5, none⟩) m cap5)) := HX8.out.later HX8.out.lt hBr
                have HNr : Hid (VAt wr gn 0 (hopE.c ((s1, s2), TU))) := HN8.out.later hBr
                have HBr : Hid (Below w8.heap.size w8 wr) := hBr
                obtain ⟨B, hB⟩ : ∃ B, B = (decide ((24 : Int) ≤ (m : Int)) || (l.take k).any (fun x => hopB x ((s1, s2), TU))) := ⟨_, rfl⟩
                have HB : Hid ((decide ((24 : Int) ≤ (m : Int)) || (l.take k).any (fun x => hopB x ((s1, s2), TU))) = B) := hB.symm
                rw [← hB]
                clear hBr hB
                by_cases hlt : k < m
                · obtain ⟨_, ⟨b0, b1, b2⟩, f0, f1, f2, _, _, _, _, _⟩ := HXr.out
                  obtain ⟨x0, x1, x2⟩ := hop_cells HNr.out
                  simp only [Nat.zero_add] at x0 x1 x2
                  obtain ⟨y0, y1, y2, hkl, hLk, c0, c1, c2⟩ := hop_at (HC5.out _ HXr.out.below) HML.out hlt
                  have HNX : Hid ((decide ((24 : Int) ≤ (m : Int)) || (l.take (k + 1)).any (fun x => hopB x ((s1, s2), TU))) = (B || hopB ((y0, y1), y2) ((s1, s2), TU))) := by
                    show _ = _
                    rw [← HB.out, List.take_succ_eq_append_getElem hkl, List.any_append, hLk, Bool.or_assoc]
                    simp
                  have z1 : g5 < wr.heap.size := World.block_lt_of_cell? _ _ c0
                  have z2 : gn < wr.heap.size := World.block_lt_of_cell? _ _ x0
                  have z3 : w.heap.size + 1 < wr.heap.size := World.block_lt_of_cell? _ _ f0
                  have kb0 : (0 : Int) ≤ (k : Int) := by omega
                  have kb1 : (k : Int) < (m : Int) := by omega
                  clear hLk
                  cases B with
                  | true =>
                    go_wp2_with fail
                    go_quiet (fail)
                    go_wp2
                    go_roundw
                    case rel => exact ⟨k + 1, by omega, by go_num, by rw [HNX.out]; rfl, HBr.out.trans ((go_drewN _ _).mono HBr.out.size)⟩
                    case measure => simp [intOf]; omega
                  | false =>
                    rcases hop_ways y0 y1 y2 s1 s2 TU with ⟨e0, e⟩ | ⟨e0, e4, e⟩ | ⟨e0, e4, e5, e⟩ | ⟨e0, e4, e5, e⟩
                    all_goals
                      have HE := e
                      clear e
                      rw [HE] at HNX
                      clear HE
                      go_wp2_with fail
                      go_quiet (fail)
                      go_wp2
                      go_roundw
                      case rel => exact ⟨k + 1, by omega, by go_num, by rw [HNX.out]; rfl, HBr.out.trans ((go_drewN _ _).mono HBr.out.size)⟩
                      case measure => simp [intOf]; omega
                · obtain rfl : k = m := by omega
                  have hany : (l.take k).any (fun x => hopB x ((s1, s2), TU)) = (l.any fun x => heB ((s1, s2), TU) x) := by
                    rw [← HML.out, List.take_length]
                    congr 1
                    funext x
                    exact (he_sy _ _).symm
                  have hB2 := HB.out
                  rw [hany] at hB2
                  have HB2 : Hid ((decide ((24 : Int) ≤ (k : Int)) || (l.any fun x => heB ((s1, s2), TU) x)) = B) := hB2
                  clear hany hB2
                  obtain ⟨_, ⟨b0, b1, b2⟩, f0, f1, f2, _, _, _, _, _⟩ := HXr.out
                  cases B with
                  | true =>
                    have HF2 : Hid (F = ((4, ByteArray.empty, l), false)) := by
                      show _ = _
                      rw [HF.out]
                      refine gn_4 HST.out HAT.out HP.out ?_
                      have h1 := HB2.out
                      rw [Bool.or_eq_true, decide_eq_true_eq] at h1
                      rcases h1 with h1 | h1
                      · left
                        rw [HML.out]
                        omega
                      · exact .inr h1
                    clear b0 b1 b2 f0 f1 f2
                    obtain ⟨hBw, ⟨b0, b1, b2⟩, f0, f1, f2, ff, r0, r1, r2, rf⟩ := HXr.out
                    have HBw : Hid (Below w.heap.size w wr) := hBw
                    have ff0 := ff 0
                    have rf0 := rf 0
                    have rf1 := rf 1
                    have rf2 := rf 2
                    clear ff rf hBw
                    go_wp2
                    have HBE : Hid (∀ u a b c, Below w.heap.size w (put3 (wr.setCell ⟨w.heap.size + 1, 0, none⟩ u) (w.heap.size + 1 + 1) a b c)) := fun u a b c => below_put3 (HBw.out.setCell (p := ⟨w.heap.size + 1, 0, none⟩) (show w.heap.size ≤ w.heap.size + 1 by omega) u) _ (by omega) _ _ _
                    refine bodyPost_ret (v := .tuple #[.agg #[.int .i64 4, .string ⟨#[]⟩, .slice (some ⟨g5, o5, none⟩) k cap5], .bool false]) (by simp [results, Tryz.results56, go_sem, *]) rfl ⟨_, _, _, by rw [HF2.out]; rfl, ?_, HBE.out _ _ _ _, .inl rfl⟩
                    rw [HF2.out]
                    exact HGW.out _ (HBE.out _ _ _ _)
                  | false =>
                    have h1 := HB2.out
                    rw [Bool.or_eq_false_iff, decide_eq_false_iff_not] at h1
                    have hk23 : k ≤ 23 := by omega
                    have HF2 : Hid (F = ((0, ByteArray.empty, l ++ [((s1, s2), TU)]), true)) := by
                      show _ = _
                      rw [HF.out]
                      exact gn_n HST.out HAT.out HP.out (by rw [HML.out]; omega) h1.2
                    obtain ⟨j0, hj, hy0, hy1, hy2⟩ := info_parts hop_info
                    clear h1
                    go_upto_region 26 with fail
                    go_wp2_with (at_builtin; refine wpList_append_GS (E := hopE) _ rfl _ _ 32 92 rfl Tryz.underlying32 j0 (.agg #[.int .i64 0, .int .i64 0, .int .i64 0]) 24 hj hy0 hy1 hy2 hop_zero wr.heap.size (.slice none 0 0) rfl [] (World.ownsRow_nil _ _ _ _) _ rfl l (HGW.out _ HXr.out.below) ?a1 ?a2 ?a3 ?_)
                    case a1 => rw [HML.out]; unfold maxLen; simp; omega
                    case a2 => rw [HML.out]; simp; omega
                    case a3 => exact Nat.le_refl _
                    intro v6 w6 hown6 hgrow6
                    obtain ⟨ao6, cap6, rfl⟩ := own_form hown6
                    have hb6 : Below wr.heap.size wr w6 := (Below.refl _ wr).grown hgrow6 (Nat.le_refl _) (fun g hg => by cases hg)
                    have HX6 : Hid (GB w w6 S (.slice ao n cap) (.slice ao2 n2 cap2) (.slice (some ⟨g5, o5, none⟩) k cap5)) := HXr.out.later HXr.out.lt hb6
                    have HN6 : Hid (VAt w6 gn 0 (hopE.c ((s1, s2), TU))) := HNr.out.later hb6
                    have HO6 : Hid (w6.ownsRow wr.heap.size 92 3 (.slice ao6 k cap6) k (cellsG hopE l)) := hown6
                    have HB6 : Hid (Below wr.heap.size wr w6) := hb6
                    have hs6 : wr.heap.size ≤ w6.heap.size := hb6.size
                    have hr3 : w.heap.size + 3 ≤ wr.heap.size := HXr.out.lt
                    obtain ⟨_, ⟨b0, b1, b2⟩, f0, f1, f2, _, _, _, _, _⟩ := HX6.out
                    obtain ⟨x0, x1, x2⟩ := hop_cells HN6.out
                    simp only [Nat.zero_add] at x0 x1 x2
                    clear hb6 hgrow6 hown6
                    go_upto_region 27 with fail
                    go_wp2_with (at_builtin; refine wpList_append_own _ rfl _ _ 32 rfl wr.heap.size 92 j0 (.agg #[.int .i64 0, .int .i64 0, .int .i64 0]) 3 24 Tryz.underlying32 hj hy0 hy1 hy2 hop_zero (by decide) _ _ _ rfl (HO6.out.alloc _) ⟨w6.heap.size, 0, none⟩ 1 1 [.int .i64 s1, .int .i64 s2, .int .i64 TU] rfl rfl ?m1 ?m2 ?m3 ?m4 ?m5 ?_)
                    case m1 =>
                      intro j u hj
                      match j, hj with
                      | 0, hj => simp at hj; subst hj; simp [Addr.add]
                      | 1, hj => simp at hj; subst hj; simp [Addr.add]
                      | 2, hj => simp at hj; subst hj; simp [Addr.add]
                    case m2 => intro u hu; simp at hu; rcases hu with rfl | rfl | rfl <;> rfl
                    case m3 => unfold maxLen; omega
                    case m4 => omega
                    case m5 => simp; omega
                    intro v9 w9 hown9 hgrow9 _
                    obtain ⟨ao9, cap9, rfl⟩ := own_form hown9
                    have hb9 : Below wr.heap.size w6 w9 := ((Below.refl _ w6).alloc hs6 _).grown hgrow9 (by simp; omega) (fun g hg => (HO6.out.lt g hg).1)
                    have hB9 : Below wr.heap.size wr w9 := HB6.out.trans hb9
                    have HO9 : Hid (w9.ownsRow wr.heap.size 92 3 (.slice ao9 (k + 1) cap9) (l ++ [((s1, s2), TU)]).length (cellsG hopE (l ++ [((s1, s2), TU)]))) := by
                      show World.ownsRow _ _ _ _ _ _ _
                      rw [List.length_append, HML.out, cellsG_app, cellsG_one]
                      exact hown9
                    have HX9 : Hid (GB w w9 S (.slice ao n cap) (.slice ao2 n2 cap2) (.slice (some ⟨g5, o5, none⟩) k cap5)) := HXr.out.later HXr.out.lt hB9
                    obtain ⟨hBw, ⟨b0, b1, b2⟩, f0, f1, f2, ff, r0, r1, r2, rf⟩ := HX9.out
                    have HBw : Hid (Below w.heap.size w w9) := hBw
                    have ff2 := ff 2
                    have rf0 := rf 0
                    have rf1 := rf 1
                    have rf2 := rf 2
                    clear ff rf hBw hb9 hB9 hgrow9 hown9 x0 x1 x2
                    go_wp2
                    have HBE : Hid (∀ u a b c, Below w.heap.size w (put3 (w9.setCell ⟨w.heap.size + 1, 2, none⟩ u) (w.heap.size + 1 + 1) a b c)) := fun u a b c => below_put3 (HBw.out.setCell (p := ⟨w.heap.size + 1, 2, none⟩) (show w.heap.size ≤ w.heap.size + 1 by omega) u) _ (by omega) _ _ _
                    have HOE : Hid (∀ u a b c, (put3 (w9.setCell ⟨w.heap.size + 1, 2, none⟩ u) (w.heap.size + 1 + 1) a b c).ownsRow wr.heap.size 92 3 (.slice ao9 (k + 1) cap9) (l ++ [((s1, s2), TU)]).length (cellsG hopE (l ++ [((s1, s2), TU)]))) := fun u a b c => own_put3 (ownsRow_setCell_below HO9.out (show w.heap.size + 1 < wr.heap.size by omega) _) _ (by omega) _ _ _
                    refine bodyPost_ret (v := .tuple #[.agg #[.int .i64 0, .string ⟨#[]⟩, .slice ao9 (k + 1) cap9], .bool true]) (by simp [results, Tryz.results56, go_sem, *]) rfl ⟨_, _, _, by rw [HF2.out]; rfl, ?_, HBE.out _ _ _ _, .inr fun g o e => ?_⟩
                    · rw [HF2.out]
                      exact own_GS (HOE.out _ _ _ _)
                    · subst e
                      exact Nat.le_trans (by omega) (HO9.out.lt g rfl).1
        · rw [show atN Hs (p0, ro) = (k : Int) from hi]
          have hlt : k < n2 := by
            have := (HHW.out _ HX5.out.below).len
            omega
          obtain ⟨_, _, _, e6, hHn, _, _, hHa⟩ := (HHW.out _ HX5.out.below).form
          cases e6
          obtain ⟨gh, oh, hao, hc, _⟩ := hHa (by omega)
          subst hao
          obtain ⟨y0, y1, y2, hkl, hHk, c0, c1, c2⟩ := hst_at hc hHn hlt
          have HF2 : Hid (F = ((1, y0, l), false)) := by
            show _ = _
            rw [HF.out]
            refine gn_1 HST.out ?_
            rw [hat, hHk]
          have kb0 : (0 : Int) ≤ (k : Int) := by omega
          have kb1 : (k : Int) < (n2 : Int) := by omega
          obtain ⟨hBw, ⟨b0, b1, b2⟩, f0, f1, f2, ff, r0, r1, r2, rf⟩ := HX5.out
          have HBw : Hid (Below w.heap.size w w5) := hBw
          have ff0 := ff 0
          have ff1 := ff 1
          have rf0 := rf 0
          have rf1 := rf 1
          have rf2 := rf 2
          have hgl : gh < w5.heap.size := World.block_lt_of_cell? _ _ c0
          have hgw : gh < w.heap.size := HHB.out gh oh (by omega) rfl
          have hne1 : gh ≠ w.heap.size + 1 := by omega
          clear ff rf hBw hi hat hHn hHa hc hHk
          go_wp2
          have HBE : Hid (∀ u v a b c, Below w.heap.size w (put3 ((w5.setCell ⟨w.heap.size + 1, 0, none⟩ u).setCell ⟨w.heap.size + 1, 1, none⟩ v) (w.heap.size + 1 + 1) a b c)) := fun u v a b c => below_put3 ((HBw.out.setCell (p := ⟨w.heap.size + 1, 0, none⟩) (show w.heap.size ≤ w.heap.size + 1 by omega) u).setCell (p := ⟨w.heap.size + 1, 1, none⟩) (show w.heap.size ≤ w.heap.size + 1 by omega) v) _ (by omega) _ _ _
          refine bodyPost_ret (v := .tuple #[.agg #[.int .i64 1, .string y0, .slice (some ⟨g5, o5, none⟩) m cap5], .bool false]) (by simp [results, Tryz.results56, go_sem, *]) rfl ⟨_, _, _, by rw [HF2.out], ?_, HBE.out _ _ _ _ _, .inl rfl⟩
          rw [HF2.out]
          exact HGW.out _ (HBE.out _ _ _ _ _)
end Go.Proofs.YtpmcjelihdlfeaaGreatDoor
/- What railref1.From answers at a packet that is right: a contract for the walks above it. -/
namespace Go.Proofs.YtpmcjelihdlfeaaGreatDoor
open Go.RowKit
set_option linter.unusedSimpArgs false
set_option linter.unusedVariables false

/-- One round: it has ended so, or it goes on. -/
theorem gn_end {Ls : List ((Int × Int) × (Int × Int))} {Hs : List (ByteArray × (Int × Int))} {Ts : List (List Ru)} {l : List ((Int × Int) × Int)} (h : l.length ≤ 24) (hg : (gnF Ls Hs (taT Ts (laH l).1.1) l).2 = false) :
    foF Ls Hs Ts (25 - l.length) l = (gnF Ls Hs (taT Ts (laH l).1.1) l).1 ∧ (gnF Ls Hs (taT Ts (laH l).1.1) l).1.2.2 = l := by
  rw [fo_r h]
  have e : enE Ls Hs Ts l (laH l) = goE Ls Hs (taT Ts (laH l).1.1) l (laH l) := rfl
  rw [e]
  unfold gnF at hg ⊢
  cases hE : goE Ls Hs (taT Ts (laH l).1.1) l (laH l) with
  | inl p => exact ⟨rfl, rfl⟩
  | inr q => rw [hE] at hg; cases hg
theorem gn_on {S : Int} {Ls : List ((Int × Int) × (Int × Int))} {Hs : List (ByteArray × (Int × Int))} {Ts : List (List Ru)} {l : List ((Int × Int) × Int)} (ht : tpN S Ls Hs = 0) (h : l.length ≤ 24) (hg : (gnF Ls Hs (taT Ts (laH l).1.1) l).2 = true) :
    ∃ q, (gnF Ls Hs (taT Ts (laH l).1.1) l).1 = (0, ByteArray.empty, l ++ [q]) ∧ foF Ls Hs Ts (25 - l.length) l = foF Ls Hs Ts (25 - (l ++ [q]).length) (l ++ [q]) ∧ (l ++ [q]).length ≤ 24 ∧ spB S q.1 = true ∧ hdrB q.2 = true := by
  rw [fo_r h]
  unfold gnF at hg ⊢
  cases hE : goE Ls Hs (taT Ts (laH l).1.1) l (laH l) with
  | inl p => rw [hE] at hg; cases hg
  | inr q =>
    have e : enE Ls Hs Ts l (laH l) = .inr q := hE
    obtain ⟨h1, h2, _⟩ := en_r e
    obtain ⟨h3, h4⟩ := nx_good ht h1
    refine ⟨q, rfl, ?_, ?_, h3, h4⟩
    · rw [e]
      simp only [List.length_append, List.length_cons, List.length_nil]
      rw [show 24 - l.length = 25 - (l.length + (0 + 1)) by omega]
    · simp only [List.length_append, List.length_cons, List.length_nil]
      omega
/-- The boxes: a net, the answer's, a fate. -/
structure RB (w W : World) (gr gf : Nat) (S : Int) (v1 v2 v3 : Value) (F0 : Int) (F1 : ByteArray) (u : Value) : Prop where
  below : Below w.heap.size w W
  l1 : w.heap.size < gr
  l2 : gr < gf
  n : NeBox W w.heap.size S v1 v2 v3
  r0 : W.cell? ⟨gr, 0, none⟩ = some (.int .i64 0)
  r1 : W.cell? ⟨gr, 1, none⟩ = some (.string ⟨#[]⟩)
  r2 : W.cell? ⟨gr, 2, none⟩ = some (.slice none 0 0)
  rf : ∀ i, W.frozen? ⟨gr, i, none⟩ = false
  f0 : W.cell? ⟨gf, 0, none⟩ = some (.int .i64 F0)
  f1 : W.cell? ⟨gf, 1, none⟩ = some (.string F1)
  f2 : W.cell? ⟨gf, 2, none⟩ = some u
  ff : ∀ i, W.frozen? ⟨gf, i, none⟩ = false
section
variable {w W W' : World} {gr gf : Nat} {S : Int} {v1 v2 v3 : Value} {F0 : Int} {F1 : ByteArray} {u : Value}
theorem RB.lt (k : RB w W gr gf S v1 v2 v3 F0 F1 u) : gf < W.heap.size := World.block_lt_of_cell? W ⟨gf, 0, none⟩ k.f0
theorem RB.later (k : RB w W gr gf S v1 v2 v3 F0 F1 u) (hb : Below W.heap.size W W') : RB w W' gr gf S v1 v2 v3 F0 F1 u :=
  have hl := k.lt
  have h1 := k.l1
  have h2 := k.l2
  ⟨k.below.trans (hb.mono (by omega)), h1, h2, k.n.later hb, cell_later hb k.r0, cell_later hb k.r1, cell_later hb k.r2, fun i => (hb.frozen (p := ⟨gr, i, none⟩) (show gr < W.heap.size by omega)).trans (k.rf i), cell_later hb k.f0, cell_later hb k.f1, cell_later hb k.f2, fun i => (hb.frozen (p := ⟨gf, i, none⟩) (show gf < W.heap.size by omega)).trans (k.ff i)⟩
/-- A fate is stored into its box. -/
theorem RB.put (k : RB w W gr gf S v1 v2 v3 F0 F1 u) (G0 : Int) (G1 : ByteArray) (x : Value) : RB w (put3 W gf (.int .i64 G0) (.string G1) x) gr gf S v1 v2 v3 G0 G1 x := by
  have h1 := k.l1
  have h2 := k.l2
  have hp := put3_cells (a := .int .i64 G0) (b := .string G1) (c := x) ⟨k.f0, k.f1, k.f2⟩
  have hne : ∀ (g i : Nat) (y : Value), g ≠ gf → W.cell? ⟨g, i, none⟩ = some y → (put3 W gf (.int .i64 G0) (.string G1) x).cell? ⟨g, i, none⟩ = some y := by
    intro g i y hg e
    have hb : ∀ (W : World) (j : Nat) (z : Value), (W.setCell ⟨gf, j, none⟩ z).cell? ⟨g, i, none⟩ = W.cell? ⟨g, i, none⟩ := fun W j z => World.cell?_of_block (Below.heap_setCell _ _ _ _ hg)
    unfold put3
    rw [hb, hb, hb]
    exact e
  have hfz : ∀ (g i : Nat), W.frozen? ⟨g, i, none⟩ = false → (put3 W gf (.int .i64 G0) (.string G1) x).frozen? ⟨g, i, none⟩ = false := by
    intro g i e
    unfold put3
    simp [e]
  obtain ⟨a0, a1, a2, a3⟩ := k.n
  exact ⟨below_put3 k.below _ (by omega) _ _ _, h1, h2, ⟨hne _ _ _ (by omega) a0, hne _ _ _ (by omega) a1, hne _ _ _ (by omega) a2, hne _ _ _ (by omega) a3⟩, hne _ _ _ (by omega) k.r0, hne _ _ _ (by omega) k.r1, hne _ _ _ (by omega) k.r2, fun i => hfz _ _ (k.rf i), hp.1, hp.2.1, hp.2.2, fun i => hfz _ _ (k.ff i)⟩
end
/-- Hops that lie elsewhere are as they were. -/
theorem gs_put3 {W : World} {b : Nat} {ao : Option Addr} {n cap : Nat} {l : List ((Int × Int) × Int)} (h : GS hopE W (.slice ao n cap) l) (hg : ∀ g o, ao = some ⟨g, o, none⟩ → g ≠ b) (u v x : Value) : GS hopE (put3 W b u v x) (.slice ao n cap) l := by
  rcases h with h | ⟨g, o, c, h1, h2, h3, h4⟩
  · exact .inl h
  · refine .inr ⟨g, o, c, h1, h2, h3, fun i hi j y hy => ?_⟩
    have e := h4 i hi j y hy
    have hne : g ≠ b := by
      simp only [Value.slice.injEq] at h1
      exact hg g o h1.1
    have hb : ∀ (W : World) (j2 : Nat) (z : Value), (W.setCell ⟨b, j2, none⟩ z).cell? ⟨g, o + i * hopE.n + j, none⟩ = W.cell? ⟨g, o + i * hopE.n + j, none⟩ := fun W j2 z => World.cell?_of_block (Below.heap_setCell _ _ _ _ hne)
    unfold put3
    rw [hb, hb, hb]
    exact e
/-- What is so ahead of each round. -/
def RI (S : Int) (Ls : List ((Int × Int) × (Int × Int))) (Hs : List (ByteArray × (Int × Int))) (Ts : List (List Ru)) (F : Int × ByteArray × List ((Int × Int) × Int)) (on : Bool) (F0 : Int) (F1 : ByteArray) (l : List ((Int × Int) × Int)) : Prop :=
  (on = true ∧ F0 = 0 ∧ F1 = ⟨#[]⟩ ∧ F = foF Ls Hs Ts (25 - l.length) l ∧ spB S (laH l).1 = true ∧ hdrB (laH l).2 = true) ∨ (on = false ∧ F = (F0, F1, l))
/-- How many rounds there may be still. -/
def rmE (b : Value) (c : Option Value) : Nat := match b, c with
  | .bool true, some (.slice _ n _) => 2 * (25 - n) + 1
  | .bool false, some (.slice _ n _) => 2 * (25 - n)
  | _, _ => 0
theorem rb_new (w : World) (S : Int) (v1 v2 v3 : Value) (x y h : Int) : RB w (((((w.alloc (Obj.cells #[.int .i64 S, v1, v2, v3] 28)).alloc (Obj.cells #[.int .i64 x, .int .i64 y] 80)).alloc (Obj.cells #[.int .i64 0, .string ⟨#[]⟩, .slice none 0 0] 34)).alloc (Obj.cells #[.int .i64 x, .int .i64 y, .int .i64 h] 92)).alloc (Obj.cells #[.int .i64 0, .string ⟨#[]⟩, .slice (some ⟨w.heap.size + 1 + 1 + 1, 0, none⟩) 1 1] 34)) (w.heap.size + 1 + 1) (w.heap.size + 1 + 1 + 1 + 1) S v1 v2 v3 0 ⟨#[]⟩ (.slice (some ⟨w.heap.size + 1 + 1 + 1, 0, none⟩) 1 1)
    ∧ GS hopE (((((w.alloc (Obj.cells #[.int .i64 S, v1, v2, v3] 28)).alloc (Obj.cells #[.int .i64 x, .int .i64 y] 80)).alloc (Obj.cells #[.int .i64 0, .string ⟨#[]⟩, .slice none 0 0] 34)).alloc (Obj.cells #[.int .i64 x, .int .i64 y, .int .i64 h] 92)).alloc (Obj.cells #[.int .i64 0, .string ⟨#[]⟩, .slice (some ⟨w.heap.size + 1 + 1 + 1, 0, none⟩) 1 1] 34)) (.slice (some ⟨w.heap.size + 1 + 1 + 1, 0, none⟩) 1 1) [((x, y), h)] := by
  have hb : ∀ (W : World) (o : Obj), Below W.heap.size W (W.alloc o) := fun W o => (Below.refl _ _).alloc (Nat.le_refl _) _
  have hn := nebox_new w S v1 v2 v3 28
  have e1 : (w.alloc (Obj.cells #[.int .i64 S, v1, v2, v3] 28)).heap.size = w.heap.size + 1 := by simp
  have b1 := hb w (Obj.cells #[.int .i64 S, v1, v2, v3] 28)
  generalize w.alloc (Obj.cells #[.int .i64 S, v1, v2, v3] 28) = A at hn e1 b1 ⊢
  have e2 : (A.alloc (Obj.cells #[.int .i64 x, .int .i64 y] 80)).heap.size = w.heap.size + 1 + 1 := by simp [e1]
  have b2 := hb A (Obj.cells #[.int .i64 x, .int .i64 y] 80)
  generalize A.alloc (Obj.cells #[.int .i64 x, .int .i64 y] 80) = C at e2 b2 ⊢
  have hr := vat_new C [.int .i64 0, .string ⟨#[]⟩, .slice none 0 0] 34
  have zr := froz_new2 C #[.int .i64 0, .string ⟨#[]⟩, .slice none 0 0] 34
  have e3 : (C.alloc (Obj.cells #[.int .i64 0, .string ⟨#[]⟩, .slice none 0 0] 34)).heap.size = w.heap.size + 1 + 1 + 1 := by simp [e2]
  have b3 := hb C (Obj.cells #[.int .i64 0, .string ⟨#[]⟩, .slice none 0 0] 34)
  rw [e2] at hr zr
  generalize C.alloc (Obj.cells #[.int .i64 0, .string ⟨#[]⟩, .slice none 0 0] 34) = D at hr zr e3 b3 ⊢
  have hh := gs_one (E := hopE) D ((x, y), h) 92 (vs := [.int .i64 x, .int .i64 y, .int .i64 h]) rfl
  have e4 : (D.alloc (Obj.cells #[.int .i64 x, .int .i64 y, .int .i64 h] 92)).heap.size = w.heap.size + 1 + 1 + 1 + 1 := by simp [e3]
  have b4 := hb D (Obj.cells #[.int .i64 x, .int .i64 y, .int .i64 h] 92)
  rw [e3] at hh
  generalize D.alloc (Obj.cells #[.int .i64 x, .int .i64 y, .int .i64 h] 92) = G at hh e4 b4 ⊢
  have hf := vat_new G [.int .i64 0, .string ⟨#[]⟩, .slice (some ⟨w.heap.size + 1 + 1 + 1, 0, none⟩) 1 1] 34
  have zf := froz_new2 G #[.int .i64 0, .string ⟨#[]⟩, .slice (some ⟨w.heap.size + 1 + 1 + 1, 0, none⟩) 1 1] 34
  have b5 := hb G (Obj.cells #[.int .i64 0, .string ⟨#[]⟩, .slice (some ⟨w.heap.size + 1 + 1 + 1, 0, none⟩) 1 1] 34)
  rw [e4] at hf zf
  have b45 := b4.trans (b5.mono (by omega))
  have hr' := hr.later b45
  refine ⟨⟨(b1.trans (b2.mono (by omega))).trans ((b3.mono (by omega)).trans (b45.mono (by omega))), by omega, by omega, ((hn.later b2).later b3).later b45, hr' 0 _ rfl, hr' 1 _ rfl, hr' 2 _ rfl, fun i => (b45.frozen (p := ⟨w.heap.size + 1 + 1, i, none⟩) (show w.heap.size + 1 + 1 < D.heap.size by omega)).trans (zr i), hf 0 _ rfl, hf 1 _ rfl, hf 2 _ rfl, zf⟩, hh.later b5⟩

set_option maxHeartbeats 8000000 in
set_option maxRecDepth 100000 in
theorem rfrom_any (S : Int) (ao : Option Addr) (n cap : Nat) (ao2 : Option Addr) (n2 cap2 : Nat) (ao3 : Option Addr) (n3 cap3 : Nat) (Ls : List ((Int × Int) × (Int × Int))) (Hs : List (ByteArray × (Int × Int))) (Ts : List (List Ru)) (x y h : Int) (w : World)
    (hL : GS lnkE w (.slice ao n cap) Ls) (hH : GS hstE w (.slice ao2 n2 cap2) Hs) (hT : TS w (.slice ao3 n3 cap3) Ts) (hcp : cpN S Ls Hs Ts (x, y) h = 0) :
    Calls Tryz.prog 32 #[.agg #[.int .i64 S, .slice ao n cap, .slice ao2 n2 cap2, .slice ao3 n3 cap3], .agg #[.int .i64 x, .int .i64 y], .int .i64 h] w fun e w' => ∃ ao4 n4 cap4, e = .returned (.agg #[.int .i64 (frF Ls Hs Ts (x, y) h).1, .string (frF Ls Hs Ts (x, y) h).2.1, .slice ao4 n4 cap4]) ∧ GS hopE w' (.slice ao4 n4 cap4) (frF Ls Hs Ts (x, y) h).2.2 ∧ Below w.heap.size w w' ∧ ∀ g o, ao4 = some ⟨g, o, none⟩ → w.heap.size ≤ g := by
  obtain ⟨F, hF⟩ : ∃ F, F = frF Ls Hs Ts (x, y) h := ⟨_, rfl⟩
  have HF : Hid (F = foF Ls Hs Ts 24 [((x, y), h)]) := hF
  rw [← hF]
  obtain ⟨hnt, hsp, hhd⟩ := cp_0 hcp
  obtain ⟨htp, hTS, htb⟩ := nt_0 hnt
  have HTP : Hid (tpN S Ls Hs = 0) := htp
  have HTB : Hid (∀ k, k < Ts.length → tbN (Ts.getD k []) = 0) := htb
  have HN3 : Hid (Ts.length = n3) := hT.len
  have H3S : Hid ((n3 : Int) = S) := by
    show _ = _
    rw [← hTS, HN3.out]
  have HSP : Hid (spB S (x, y) = true ∧ hdrB h = true) := ⟨hsp, hhd⟩
  have HLW : Hid (∀ W, Below w.heap.size w W → GS lnkE W (.slice ao n cap) Ls) := fun W hb => hL.later hb
  have HHW : Hid (∀ W, Below w.heap.size w W → GS hstE W (.slice ao2 n2 cap2) Hs) := fun W hb => hH.later hb
  have HTW : Hid (∀ W, Below w.heap.size w W → TS W (.slice ao3 n3 cap3) Ts) := fun W hb => hT.later hb
  obtain ⟨hX, hG0⟩ := rb_new w S (.slice ao n cap) (.slice ao2 n2 cap2) (.slice ao3 n3 cap3) x y h
  obtain ⟨w0, hw0⟩ : ∃ W, ((((w.alloc (Obj.cells #[.int .i64 S, .slice ao n cap, .slice ao2 n2 cap2, .slice ao3 n3 cap3] 28)).alloc (Obj.cells #[.int .i64 x, .int .i64 y] 80)).alloc (Obj.cells #[.int .i64 0, .string ⟨#[]⟩, .slice none 0 0] 34)).alloc (Obj.cells #[.int .i64 x, .int .i64 y, .int .i64 h] 92)).alloc (Obj.cells #[.int .i64 0, .string ⟨#[]⟩, .slice (some ⟨w.heap.size + 1 + 1 + 1, 0, none⟩) 1 1] 34) = W := ⟨_, rfl⟩
  rw [hw0] at hX hG0
  obtain ⟨gf, hgf⟩ : ∃ g, w.heap.size + 1 + 1 + 1 + 1 = g := ⟨_, rfl⟩
  obtain ⟨gl, hgl⟩ : ∃ g, w.heap.size + 1 + 1 + 1 = g := ⟨_, rfl⟩
  obtain ⟨gr, hgr⟩ : ∃ g, w.heap.size + 1 + 1 = g := ⟨_, rfl⟩
  rw [hgf, hgl, hgr] at hX
  rw [hgl] at hG0 hw0
  have HGF : Hid (w.heap.size + 1 + 1 + 1 + 1 = gf) := hgf
  have HGR : Hid (w.heap.size + 1 + 1 = gr) := hgr
  have HGL : Hid (w.heap.size + 1 + 1 + 1 = gl) := hgl
  have HGNE : Hid (gl ≠ gf ∧ gl ≠ gr ∧ w.heap.size ≤ gl) := by
    show _ ∧ _
    omega
  have HX : Hid (RB w w0 gr gf S (.slice ao n cap) (.slice ao2 n2 cap2) (.slice ao3 n3 cap3) 0 ⟨#[]⟩ (.slice (some ⟨gl, 0, none⟩) 1 1)) := hX
  have HG0 : Hid (GS hopE w0 (.slice (some ⟨gl, 0, none⟩) 1 1) [((x, y), h)]) := hG0
  have HW0 : Hid (((((w.alloc (Obj.cells #[.int .i64 S, .slice ao n cap, .slice ao2 n2 cap2, .slice ao3 n3 cap3] 28)).alloc (Obj.cells #[.int .i64 x, .int .i64 y] 80)).alloc (Obj.cells #[.int .i64 0, .string ⟨#[]⟩, .slice none 0 0] 34)).alloc (Obj.cells #[.int .i64 x, .int .i64 y, .int .i64 h] 92)).alloc (Obj.cells #[.int .i64 0, .string ⟨#[]⟩, .slice (some ⟨gl, 0, none⟩) 1 1] 34) = w0) := hw0
  clear hL hH hT hF hnt hsp hhd htp hTS htb hw0 hX hG0 hcp hgf hgr hgl
  go_enter Tryz.func32, Tryz.ntmps32
  go_upto_region 2 with fail
  rw [HGF.out, HGL.out, HGR.out, HW0.out]
  clear HW0
  go_wp2_with fail
  go_loopw [8] (fun b wr => ∃ (l : List ((Int × Int) × Int)) (ao5 : Option Addr) (m cap5 : Nat) (F0 : Int) (F1 : ByteArray) (on : Bool), b = .bool on ∧ l.length = m ∧ (0 < m ∧ m ≤ 24) ∧ RB w wr gr gf S (.slice ao n cap) (.slice ao2 n2 cap2) (.slice ao3 n3 cap3) F0 F1 (.slice ao5 m cap5) ∧ GS hopE wr (.slice ao5 m cap5) l ∧ (∀ g o, ao5 = some ⟨g, o, none⟩ → g ≠ gf ∧ g ≠ gr ∧ w.heap.size ≤ g) ∧ RI S Ls Hs Ts F on F0 F1 l) (fun b wr => rmE b (wr.cell? ⟨gf, 2, none⟩))
  case atStart => exact ⟨[((x, y), h)], _, 1, 1, 0, ⟨#[]⟩, true, rfl, rfl, by omega, HX.out, HG0.out, fun g o e => by cases e; exact HGNE.out, .inl ⟨rfl, rfl, rfl, HF.out, HSP.out.1, HSP.out.2⟩⟩
  case round =>
    obtain ⟨l, ao5, m, cap5, F0, F1, on, rfl, hm, ⟨hl0, hl24⟩, hXr, hG, hgn, hRI⟩ := hrel
    obtain ⟨wo, hwo⟩ : ∃ X, X = wr := ⟨_, rfl⟩
    subst hwo
    have HML : Hid (l.length = m) := hm
    have HXo : Hid (RB w wo gr gf S (.slice ao n cap) (.slice ao2 n2 cap2) (.slice ao3 n3 cap3) F0 F1 (.slice ao5 m cap5)) := hXr
    have HGo : Hid (GS hopE wo (.slice ao5 m cap5) l) := hG
    have HGN : Hid (∀ g o, ao5 = some ⟨g, o, none⟩ → g ≠ gf ∧ g ≠ gr ∧ w.heap.size ≤ g) := hgn
    clear HX HG0 HF HSP
    rcases hRI with ⟨rfl, rfl, rfl, hFl, hsp, hhd⟩ | ⟨rfl, hFe⟩
    · have HFL : Hid (F = foF Ls Hs Ts (25 - l.length) l) := hFl
      obtain ⟨_, _, _, e5, _, _, _, hGa⟩ := hG.form
      cases e5
      obtain ⟨g5, o5, hao5, hc5, _⟩ := hGa hl0
      subst hao5
      obtain ⟨p0, p1, p2, hkl, hLk, c0, c1, c2⟩ := hop_at hc5 hm (show m - 1 < m by omega)
      have hla : laH l = ((p0, p1), p2) := by
        have e : laH l = l[m - 1] := by
          unfold laH
          rw [hm]
          simp [List.getD, hkl]
        rw [e, hLk]
      have HLA : Hid (laH l = ((p0, p1), p2)) := hla
      rw [hla] at hsp
      have HHD : Hid (hdrB (laH l).2 = true) := hhd
      have hsp2 := sp_of hsp
      simp only at hsp2
      have hs1 : 1 ≤ p0 := hsp2.1
      have hs2 : p0 ≤ (n3 : Int) := by rw [H3S.out]; exact hsp2.2.1
      have hn3m : (n3 : Int) ≤ 6 := by
        rw [H3S.out]
        exact (tp_0 HTP.out).1.2
      obtain ⟨j, hj⟩ : ∃ j : Nat, p0 - 1 = (j : Int) := ⟨(p0 - 1).toNat, by omega⟩
      have hpw : IntKind.i64.wrap (p0 - 1) = (j : Int) := by
        rw [hj]
        exact wrap_small (by omega) (by omega)
      have jb0 : (0 : Int) ≤ (j : Int) := by omega
      have jb1 : (j : Int) < (n3 : Int) := by omega
      have hjn : j < n3 := by omega
      have hmi : IntKind.i64.wrap ((m : Int) - 1) = ((m - 1 : Nat) : Int) := by
        rw [show (m : Int) - 1 = ((m - 1 : Nat) : Int) by omega]
        exact wrap_small (by omega) (by omega)
      have mb0 : (0 : Int) ≤ ((m - 1 : Nat) : Int) := by omega
      have mb1 : ((m - 1 : Nat) : Int) < (m : Int) := by omega
      obtain ⟨_, _, _, e6, _, _, _, hTa⟩ := (HTW.out _ HXo.out.below).form
      cases e6
      obtain ⟨g3, o3, hao3, hc3, _⟩ := hTa (by omega)
      subst hao3
      obtain ⟨a4, n4, c4, t0, hs4⟩ := hc3 j (by rw [HN3.out]; exact hjn)
      have hta : taT Ts (laH l).1.1 = Ts.getD j [] := by
        unfold taT
        rw [hla]
        show Ts.getD (p0 - 1).toNat [] = _
        rw [hj, Int.toNat_natCast]
      have HTA : Hid (taT Ts (laH l).1.1 = Ts.getD j []) := hta
      have HS4 : Hid (SR wo (.slice a4 n4 c4) (taT Ts (laH l).1.1)) := by
        show SR _ _ _
        rw [hta, getT (by rw [HN3.out]; exact hjn)]
        exact hs4
      have HT4 : Hid (tbN (taT Ts (laH l).1.1) = 0) := by
        show _ = _
        rw [hta]
        exact HTB.out j (by rw [HN3.out]; exact hjn)
      obtain ⟨G, hGG⟩ : ∃ G, G = gnF Ls Hs (taT Ts (laH l).1.1) l := ⟨_, rfl⟩
      have HGG : Hid (gnF Ls Hs (taT Ts (laH l).1.1) l = G) := hGG.symm
      obtain ⟨hBw, _, _, ⟨b0, b1, b2, b3⟩, r0, r1, r2, rf, f0, f1, f2, ff⟩ := HXo.out
      have ff0 := ff 0
      have ff1 := ff 1
      have ff2 := ff 2
      have y5 : g5 < wo.heap.size := World.block_lt_of_cell? _ _ c0
      have y3 : g3 < wo.heap.size := World.block_lt_of_cell? _ _ t0
      have y4 : gf < wo.heap.size := World.block_lt_of_cell? _ _ f0
      have y0 : w.heap.size < wo.heap.size := World.block_lt_of_cell? _ _ b0
      clear hm hXr hG hgn hFl hsp hhd hGa hc5 hkl hLk hla hsp2 hTa hc3 hs4 hta hGG hBw ff rf r0 r1 r2 hj
      have HREL : Hid (∀ (W : World) (ao6 : Option Addr) (n6 cap6 : Nat), Below wo.heap.size wo W → GS hopE W (.slice ao6 n6 cap6) G.1.2.2 → (ao6 = some ⟨g5, o5, none⟩ ∨ ∀ g o, ao6 = some ⟨g, o, none⟩ → wo.heap.size ≤ g) →
          (∃ (l : List ((Int × Int) × Int)) (ao5 : Option Addr) (m cap5 : Nat) (F0 : Int) (F1 : ByteArray) (on : Bool), Value.bool G.2 = .bool on ∧ l.length = m ∧ (0 < m ∧ m ≤ 24) ∧ RB w (put3 W gf (.int .i64 G.1.1) (.string G.1.2.1) (.slice ao6 n6 cap6)) gr gf S (.slice ao n cap) (.slice ao2 n2 cap2) (.slice (some ⟨g3, o3, none⟩) n3 cap3) F0 F1 (.slice ao5 m cap5) ∧ GS hopE (put3 W gf (.int .i64 G.1.1) (.string G.1.2.1) (.slice ao6 n6 cap6)) (.slice ao5 m cap5) l ∧ (∀ g o, ao5 = some ⟨g, o, none⟩ → g ≠ gf ∧ g ≠ gr ∧ w.heap.size ≤ g) ∧ RI S Ls Hs Ts F on F0 F1 l) ∧ rmE (.bool G.2) ((put3 W gf (.int .i64 G.1.1) (.string G.1.2.1) (.slice ao6 n6 cap6)).cell? ⟨gf, 2, none⟩) < rmE (.bool true) (wo.cell? ⟨gf, 2, none⟩) ∧ rmE (.bool G.2) (some (.slice ao6 n6 cap6)) < rmE (.bool true) (some (.slice (some ⟨g5, o5, none⟩) m cap5))) := by
        intro W ao6 n6 cap6 hbW hgW hw6
        have hXW := HXo.out.later hbW
        have hput := hXW.put G.1.1 G.1.2.1 (.slice ao6 n6 cap6)
        have hl6 := hgW.len
        have hne6 : ∀ g o, ao6 = some ⟨g, o, none⟩ → g ≠ gf ∧ g ≠ gr ∧ w.heap.size ≤ g := by
          intro g o e
          rcases hw6 with h | h
          · exact HGN.out g o (h.symm.trans e)
          · have h1 := h g o e
            have h2 := HXo.out.l2
            have h3 := HXo.out.below.size
            omega
        have hgp := gs_put3 hgW (fun g o e => (hne6 g o e).1) (.int .i64 G.1.1) (.string G.1.2.1) (.slice ao6 n6 cap6)
        have hL24 : l.length ≤ 24 := by rw [HML.out]; exact hl24
        have hmm : n6 = m ∧ G.2 = false ∨ n6 = m + 1 ∧ n6 ≤ 24 ∧ G.2 = true := by
          cases hG2 : G.2
          · have h1 := gn_end (Ls := Ls) (Hs := Hs) (Ts := Ts) hL24 (by rw [HGG.out]; exact hG2)
            rw [HGG.out] at h1
            rw [h1.2] at hl6
            have := HML.out
            exact .inl ⟨by omega, rfl⟩
          · obtain ⟨q, h1, _, h3, _, _⟩ := gn_on (Ts := Ts) HTP.out hL24 (by rw [HGG.out]; exact hG2)
            rw [HGG.out] at h1
            rw [h1] at hl6
            have := HML.out
            simp only [List.length_append, List.length_cons, List.length_nil] at hl6 h3
            exact .inr ⟨by omega, by omega, rfl⟩
        refine ⟨⟨G.1.2.2, ao6, n6, cap6, G.1.1, G.1.2.1, G.2, rfl, hl6, by omega, hput, hgp, hne6, ?_⟩, ?_⟩
        · cases hG2 : G.2
          · have h1 := gn_end (Ls := Ls) (Hs := Hs) (Ts := Ts) hL24 (by rw [HGG.out]; exact hG2)
            rw [HGG.out] at h1
            exact .inr ⟨rfl, by rw [HFL.out, h1.1]⟩
          · obtain ⟨q, h1, h2, _, h4, h5⟩ := gn_on (Ts := Ts) HTP.out hL24 (by rw [HGG.out]; exact hG2)
            rw [HGG.out] at h1
            rw [h1]
            refine .inl ⟨rfl, rfl, rfl, by rw [HFL.out, h2], ?_, ?_⟩
            · rw [la_app]; exact h4
            · rw [la_app]; exact h5
        · rw [hput.f2, HXo.out.f2, and_self]
          rcases hmm with ⟨h1, h2⟩ | ⟨h1, h2, h3⟩
          · rw [h2]
            simp only [rmE]
            omega
          · rw [h3]
            simp only [rmE]
            omega
      go_upto_region 5 with fail
      go_region_with (go_at_call 56; refine (rgo_any S ao n cap ao2 n2 cap2 a4 n4 c4 (some ⟨g5, o5, none⟩) m cap5 Ls Hs (taT Ts (laH l).1.1) l _ (HLW.out _ (HXo.out.below.trans ((Below.drew (Below.refl _ _)).mono HXo.out.below.size))) (HHW.out _ (HXo.out.below.trans ((Below.drew (Below.refl _ _)).mono HXo.out.below.size))) (HS4.out.later (Below.drew (Below.refl _ _))) (HGo.out.later (Below.drew (Below.refl _ _))) HT4.out HHD.out hl0 hl24).mono ?_; rintro e w' ⟨ao6, n6, cap6, rfl, hg6, hb, hw6⟩; rw [HGG.out]; rw [HGG.out] at hg6; have HBX : Hid (Below wo.heap.size wo w') := (bdrew hb); have HRL := HREL.out w' ao6 n6 cap6 HBX.out hg6 hw6; have HRLH : Hid _ := HRL; have HXX := HXo.out.later HBX.out; obtain ⟨_, _, _, _, _, _, _, _, k0, k1, k2, kf⟩ := HXX; have kf0 := kf 0; have kf1 := kf 1; have kf2 := kf 2; clear kf HRL hb)
      all_goals simp only [Act.put, List.setIfInBounds_toArray, List.set_cons_zero, List.set_cons_succ, List.getElem_toArray, List.getElem_cons_zero, List.getElem_cons_succ]
      all_goals go_wp2
      all_goals go_roundw
      all_goals first
        | exact HRLH.out.1
        | exact HRLH.out.2.1
        | exact HRLH.out.2.2
    · have HFE : Hid (F = (F0, F1, l)) := hFe
      obtain ⟨hBw, hl1, hl2, ⟨b0, b1, b2, b3⟩, r0, r1, r2, rf, f0, f1, f2, ff⟩ := HXo.out
      have HBW : Hid (Below w.heap.size w (put3 wo gr (.int .i64 F0) (.string F1) (.slice ao5 m cap5))) := below_put3 hBw _ (by omega) _ _ _
      have HGE : Hid (GS hopE (put3 wo gr (.int .i64 F0) (.string F1) (.slice ao5 m cap5)) (.slice ao5 m cap5) l) := gs_put3 HGo.out (fun g o e => (HGN.out g o e).2.1) _ _ _
      have rf0 := rf 0
      have rf1 := rf 1
      have rf2 := rf 2
      have hne : gf ≠ gr := by omega
      clear hm hXr hG hgn hFe hBw rf ff
      go_wp2
      refine bodyPost_ret (v := .agg #[.int .i64 F0, .string F1, .slice ao5 m cap5]) (by simp [results, Tryz.results32, go_sem, *]) rfl ⟨_, _, _, by rw [HFE.out], ?_, HBW.out, fun g o e => (HGN.out g o e).2.2⟩
      rw [HFE.out]
      exact HGE.out
end Go.Proofs.YtpmcjelihdlfeaaGreatDoor
