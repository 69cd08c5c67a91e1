/- Contracts and facts on the way to NetTells, joined into one text: StrClone, OwnRow, OwnInts, NetFollow, RefGo. -/
import Derived.Test.YtfbocionnjlilacDoorNetTellsP5
import Derived.Test.YtfbocionnjlilacDoorNetTellsP4
import Derived.Test.YtfbocionnjlilacDoorNetTellsP3
import Derived.Test.YtfbocionnjlilacDoorRows
import Derived.Lib.Strings
import Derived.Lib.Walk
import Derived.Lib.BufferWrite
import Derived.Lib.UnsafeStr
import Derived.Laws.MakeOwn
import Derived.WalkKit
import Derived.WalkSpells
import Derived.Below
import Derived.BigRegion
import Derived.Deep.RegionWith
import Derived.Deep.RegionHeld3
import Derived.Deep.CutRange
import Derived.Deep.CutBlock
import Derived.Deep.QuietTactic
import Derived.BigQuiet
/- What strings.Clone answers: the text itself. -/
namespace Go.Proofs.YtfbocionnjlilacDoor
open Go.RowKit
set_option linter.unusedSimpArgs false
set_option linter.unusedVariables false

theorem infoByte : (Tryd.prog.info? 5).map (fun i => (i.zero, i.size, i.bytes)) = some (some (.int .u8 0), 1, 1) := by kernel_rfl
set_option maxHeartbeats 1000000 in
set_option maxRecDepth 100000 in
theorem liteClone (s : ByteArray) (w : World) (hlim : s.size ≤ 1000000) :
    Calls Tryd.prog 59 #[.string s] w fun e w' => e = .returned (.string s) ∧ Below w.heap.size w w' := by
  by_cases h0 : s.size = 0
  · have hs : s = ⟨#[]⟩ := by
      apply ByteArray.ext
      exact Array.eq_empty_of_size_eq_zero h0
    subst hs
    go_enter Tryd.func59, Tryd.ntmps59
    go_wp2
    go_ret
    exact ⟨rfl, Below.refl _ _⟩
  · obtain ⟨i0, hi, hz0, hz1, hz2⟩ := info_parts infoByte
    have hinfo : (Tryd.prog.info? 5).map (·.size) = some 1 := by rw [hi]; simp [hz1]
    have hco : Tryd.prog.cellsOf 5 = 1 := by simp [Program.cellsOf, hi, hz1]
    obtain ⟨M, hM⟩ : ∃ M, M = madeCells (Value.int .u8 0).cells (((s.size : Nat) : Int).toNat * i0.size) := ⟨_, rfl⟩
    have hMs : M.size = s.size := by rw [hM, size_madeCells, hz1]; simp
    have hmk : (Instr.makeSlice 144 (.int .i64 (s.size : Int)) (.int .i64 (s.size : Int))).run Tryd.prog w = .ok (.slice (some ⟨w.heap.size, 0, none⟩) s.size s.size) (w.alloc (.cells M 5)) := by
      have h := run_make (P := Tryd.prog) w 144 5 i0 (.int .u8 0) Tryd.underlying144 hi hz0 .i64 .i64 (s.size : Int) (s.size : Int) (by omega) (by omega) (by rw [hz2]; omega) (by omega)
      rw [← hM] at h
      simpa using h
    clear hM
    have hcp := Lib.run_copy_row_string (P := Tryd.prog) (w.alloc (.cells M 5)) 144 9 3 5 w.heap.size 0 s.size s.size s M 5 Tryd.underlying144 hinfo (heap_alloc_new w _) (Nat.le_refl _) (by omega)
    obtain ⟨Y, hY⟩ : ∃ Y, Y = (M.toList.take 0 ++ Lib.byteCells s.data.toList ++ M.toList.drop (0 + s.size)).toArray := ⟨_, rfl⟩
    rw [← hY] at hcp
    have hYl : Y.toList = Lib.byteCells s.data.toList := by
      rw [hY, List.toList_toArray, List.take_zero, List.nil_append, List.drop_of_length_le (by rw [Array.length_toList]; omega), List.append_nil]
    have hYs : Y.size = s.size := by rw [← Array.length_toList, hYl, Lib.byteCells_length, ← Lib.size_eq]
    have hgY : ((w.alloc (.cells M 5)).setRow w.heap.size Y).heap[w.heap.size]? = some (.cells Y 5 (0, 0)) := setRow_heap _ _ M _ 5 (0, 0) (heap_alloc_new w _)
    have hne : s.data.toList ≠ [] := fun e => h0 (by rw [Lib.size_eq, e]; rfl)
    have hUS := Lib.run_unsafeString_row (P := Tryd.prog) ((w.alloc (.cells M 5)).setRow w.heap.size Y) 146 3 9 5 Tryd.underlying146 hco w.heap.size Y.size (by unfold World.shape?; rw [hgY]) s.data.toList hne (by rw [← Lib.size_eq]; omega) (by rw [← Lib.size_eq]; omega)
      (fun j x hx => Lib.cells_of_row hgY Y.size j _ (by rw [List.take_of_length_le (by rw [Array.length_toList]; exact Nat.le_refl _), hYl]; simp [Lib.byteCells, hx]))
    rw [← Lib.size_eq] at hUS
    clear hY
    go_enter Tryd.func59, Tryd.ntmps59
    go_wp2
    go_ret
    have hb1 : Below w.heap.size w (w.alloc (.cells M 5)) := (Below.refl _ w).alloc (Nat.le_refl _) _
    have hb2 : Below w.heap.size (w.alloc (.cells M 5)) ((w.alloc (.cells M 5)).setRow w.heap.size Y) := ⟨rfl, rfl, rfl, by simp, fun k hk => setRow_other _ _ _ _ (by omega)⟩
    exact ⟨rfl, Lib.below_freeze (hb1.trans hb2) (p := ⟨w.heap.size, 0, none⟩) (Nat.le_refl _) _⟩
set_option maxHeartbeats 1000000 in
theorem clone_any (s : ByteArray) (w : World) (hlim : s.size ≤ 1000000) :
    Calls Tryd.prog 41 #[.string s] w fun e w' => e = .returned (.string s) ∧ Below w.heap.size w w' := by
  go_enter Tryd.func41, Tryd.ntmps41
  go_wp2_with fail
  refine (liteClone s _ hlim).mono ?_
  rintro e w1 ⟨rfl, hb1⟩
  go_wp2
  go_ret
  exact ⟨rfl, hb1⟩
end Go.Proofs.YtfbocionnjlilacDoor
/- Rows that a call owns, behind other calls. -/
namespace Go.Proofs.YtfbocionnjlilacDoor
open Go.RowKit

theorem own_below {w w' : World} {B e size n : Nat} {v : Value} {xs : List Value} (h : w.ownsRow B e size v n xs) (hb : Below w.heap.size w w') : w'.ownsRow B e size v n xs := by
  obtain ⟨h1, h2 | ⟨g, cap, cur, hv, hB, hg, h3⟩⟩ := h
  · exact ⟨h1, .inl h2⟩
  · have hlt : g < w.heap.size := by
      rcases Nat.lt_or_ge g w.heap.size with h | h
      · exact h
      · rw [Array.getElem?_eq_none h] at hg; cases hg
    exact ⟨h1, .inr ⟨g, cap, cur, hv, hB, (hb.block g hlt).trans hg, h3⟩⟩

theorem own_mono {w : World} {B B' e size n : Nat} {v : Value} {xs : List Value} (h : w.ownsRow B e size v n xs) (hB : B' ≤ B) : w.ownsRow B' e size v n xs := by
  obtain ⟨h1, h2 | ⟨g, cap, cur, hv, hb, h3⟩⟩ := h
  · exact ⟨h1, .inl h2⟩
  · exact ⟨h1, .inr ⟨g, cap, cur, hv, Nat.le_trans hB hb, h3⟩⟩

theorem infoInt : (Tryd.prog.info? 3).map (fun i => (i.zero, i.size, i.bytes)) = some (some (.int .i64 0), 1, 8) := by kernel_rfl
theorem own_later {w w' : World} {B e size n : Nat} {v : Value} {xs : List Value} {B' : Nat} (h : w.ownsRow B e size v n xs) (hb : Below B' w w') (hB : w.heap.size ≤ B') : w'.ownsRow B e size v n xs := own_below h (hb.mono hB)
end Go.Proofs.YtfbocionnjlilacDoor
/- Rows of numbers that a call owns. -/
namespace Go.Proofs.YtfbocionnjlilacDoor
open Go.RowKit

/-- The length of a row that a call owns. -/
theorem own_form {w : World} {B e size n : Nat} {v : Value} {xs : List Value} (h : w.ownsRow B e size v n xs) : ∃ ao cap, v = .slice ao n cap := by
  rcases h.2 with ⟨rfl, rfl⟩ | ⟨g, cap, cur, rfl, _⟩
  · exact ⟨none, 0, rfl⟩
  · exact ⟨_, cap, rfl⟩

/-- These numbers lie where a value says. -/
theorem own_ints {w : World} {B e : Nat} {v : Value} {xs : List Int} (h : w.ownsRow B e 1 v xs.length (xs.map (Value.int .i64))) :
    (v = .slice none 0 0 ∧ xs = []) ∨ ∃ g cap, v = .slice (some ⟨g, 0, none⟩) xs.length cap ∧ ∀ i (hi : i < xs.length), w.cell? ⟨g, i, none⟩ = some (.int .i64 xs[i]) := by
  rcases h.2 with ⟨rfl, h0⟩ | ⟨g, cap, cur, rfl, _⟩
  · exact .inl ⟨rfl, List.length_eq_zero_iff.1 h0⟩
  · refine .inr ⟨g, cap, rfl, fun i hi => ?_⟩
    rw [h.cellAt i (by omega)]
    simp [hi]

/-- Are two lists of numbers alike up to a place? -/
def eqTo (a b : List Int) (k : Nat) : Bool := a.take k == b.take k

end Go.Proofs.YtfbocionnjlilacDoor
/- What net.follow answers: a contract for the walks above it. -/
namespace Go.Proofs.YtfbocionnjlilacDoor
open Go.RowKit
set_option linter.unusedSimpArgs false
set_option linter.unusedVariables false

set_option maxHeartbeats 1000000 in
set_option maxRecDepth 100000 in
theorem follow1_any (n : ByteArray) (x0 x1 : Int) (B : Nat) (x y : Int) (w : World) (h0 : w.cell? ⟨B, 0, none⟩ = some (.int .i64 x)) (h1 : w.cell? ⟨B, 1, none⟩ = some (.int .i64 y)) :
    Calls Tryd.prog 74 #[.agg #[.string n, .int .i64 x0, .int .i64 x1], .pointer (some ⟨B, 0, none⟩)] w fun e w' => e = .returned (.bool (sq (x0, x1) (x, y))) ∧ Below w.heap.size w w' := by
  have hlt : B < w.heap.size := World.block_lt_of_cell? _ _ h0
  have HB0 : Hid (Below w.heap.size w (w.alloc (Obj.cells #[Value.string n, Value.int IntKind.i64 x0, Value.int IntKind.i64 x1] 38))) := (Below.refl _ _).alloc (Nat.le_refl _) _
  have hr : sq (x0, x1) (x, y) = (x0 == x && x1 == y) := rfl
  rw [hr]
  clear hr
  cases g1 : (x0 == x) <;> cases g2 : (x1 == y)
  all_goals
    simp only [Bool.and_true, Bool.and_false, Bool.and_self]
    go_enter Tryd.func74, Tryd.ntmps74
    go_wp2
    go_ret
    exact ⟨rfl, HB0.out⟩
theorem follow1_asks (B : Nat) (x y : Int) (w : World) (h0 : w.cell? ⟨B, 0, none⟩ = some (.int .i64 x)) (h1 : w.cell? ⟨B, 1, none⟩ = some (.int .i64 y)) : hstAsks w 74 (.pointer (some ⟨B, 0, none⟩)) (fun h => sq h.2 (x, y)) :=
  fun n x0 x1 W hW => follow1_any n x0 x1 B x y W (cell_later hW h0) (cell_later hW h1)
/-- The boxes: a net, a hop, the answer's. -/
def fbox (w : World) (S : Int) (v1 v2 v3 : Value) (x y h : Int) : World := ((w.alloc (Obj.cells #[.int .i64 S, v1, v2, v3] 58)).alloc (Obj.cells #[.int .i64 x, .int .i64 y, .int .i64 h] 109)).alloc (Obj.cells #[.int .i64 0, .string ⟨#[]⟩, .slice none 0 0] 64)
structure FBox (w W : World) (S : Int) (v1 v2 v3 : Value) (x y h : Int) : Prop where
  below : Below w.heap.size w W
  n : NeBox W w.heap.size S v1 v2 v3
  i0 : W.cell? ⟨w.heap.size + 1, 0, none⟩ = some (.int .i64 x)
  i1 : W.cell? ⟨w.heap.size + 1, 1, none⟩ = some (.int .i64 y)
  i2 : W.cell? ⟨w.heap.size + 1, 2, none⟩ = some (.int .i64 h)
  r0 : W.cell? ⟨w.heap.size + 1 + 1, 0, none⟩ = some (.int .i64 0)
  r1 : W.cell? ⟨w.heap.size + 1 + 1, 1, none⟩ = some (.string ⟨#[]⟩)
  r2 : W.cell? ⟨w.heap.size + 1 + 1, 2, none⟩ = some (.slice none 0 0)
  f : ∀ i, W.frozen? ⟨w.heap.size + 1 + 1, i, none⟩ = false
theorem fbox_new (w : World) (S : Int) (v1 v2 v3 : Value) (x y h : Int) : FBox w (fbox w S v1 v2 v3 x y h) S v1 v2 v3 x y h := by
  have e1 : (w.alloc (Obj.cells #[.int .i64 S, v1, v2, v3] 58)).heap.size = w.heap.size + 1 := by simp
  have e2 : ((w.alloc (Obj.cells #[.int .i64 S, v1, v2, v3] 58)).alloc (Obj.cells #[.int .i64 x, .int .i64 y, .int .i64 h] 109)).heap.size = w.heap.size + 1 + 1 := by simp
  have hb : ∀ (W : World) (o : Obj), Below W.heap.size W (W.alloc o) := fun W o => (Below.refl _ _).alloc (Nat.le_refl _) _
  have hs := (vat_new (w.alloc (Obj.cells #[.int .i64 S, v1, v2, v3] 58)) [.int .i64 x, .int .i64 y, .int .i64 h] 109).later (hb _ (Obj.cells #[.int .i64 0, .string ⟨#[]⟩, .slice none 0 0] 64))
  rw [e1] at hs
  have hr := vat_new ((w.alloc (Obj.cells #[.int .i64 S, v1, v2, v3] 58)).alloc (Obj.cells #[.int .i64 x, .int .i64 y, .int .i64 h] 109)) [.int .i64 0, .string ⟨#[]⟩, .slice none 0 0] 64
  rw [e2] at hr
  have hf : ∀ k, (fbox w S v1 v2 v3 x y h).frozen? ⟨((w.alloc (Obj.cells #[.int .i64 S, v1, v2, v3] 58)).alloc (Obj.cells #[.int .i64 x, .int .i64 y, .int .i64 h] 109)).heap.size, k, none⟩ = false := fun k => by
    unfold fbox
    generalize (w.alloc (Obj.cells #[.int .i64 S, v1, v2, v3] 58)).alloc (Obj.cells #[.int .i64 x, .int .i64 y, .int .i64 h] 109) = X
    simp
  rw [e2] at hf
  exact ⟨(((Below.refl _ _).alloc (Nat.le_refl _) _).alloc (by rw [e1]; omega) _).alloc (by rw [e2]; omega) _, ((nebox_new w S v1 v2 v3 58).later (hb _ _)).later (hb _ _), hs 0 _ rfl, hs 1 _ rfl, hs 2 _ rfl, hr 0 _ rfl, hr 1 _ rfl, hr 2 _ rfl, hf⟩
theorem FBox.lt {w W : World} {S : Int} {v1 v2 v3 : Value} {x y h : Int} (k : FBox w W S v1 v2 v3 x y h) : w.heap.size + 3 ≤ W.heap.size := World.block_lt_of_cell? W ⟨w.heap.size + 1 + 1, 0, none⟩ k.r0
theorem FBox.later {w W W' : World} {S : Int} {v1 v2 v3 : Value} {x y h : Int} (k : FBox w W S v1 v2 v3 x y h) {B : Nat} (hB : w.heap.size + 3 ≤ B) (hb : Below B W W') : FBox w W' S v1 v2 v3 x y h :=
  have hc : ∀ (g i : Nat) (x : Value), g < w.heap.size + 3 → W.cell? ⟨g, i, none⟩ = some x → W'.cell? ⟨g, i, none⟩ = some x := fun g i x hg e => (hb.cell (p := ⟨g, i, none⟩) (show g < B by omega)).trans e
  ⟨k.below.trans (hb.mono (by omega)), ⟨hc _ _ _ (by omega) k.n.1, hc _ _ _ (by omega) k.n.2.1, hc _ _ _ (by omega) k.n.2.2.1, hc _ _ _ (by omega) k.n.2.2.2⟩, hc _ _ _ (by omega) k.i0, hc _ _ _ (by omega) k.i1, hc _ _ _ (by omega) k.i2, hc _ _ _ (by omega) k.r0, hc _ _ _ (by omega) k.r1, hc _ _ _ (by omega) k.r2, fun i => (hb.frozen (p := ⟨w.heap.size + 1 + 1, i, none⟩) (show w.heap.size + 1 + 1 < B by omega)).trans (k.f i)⟩

theorem ballocD {w w' : World} {a b c : Value} {t : TypeId} (hb : Below (w.drew.alloc (Obj.cells #[a, b, c] t)).heap.size (w.drew.alloc (Obj.cells #[a, b, c] t)) w') : (w'.cell? ⟨w.heap.size, 0, none⟩ = some a ∧ w'.cell? ⟨w.heap.size, 1, none⟩ = some b ∧ w'.cell? ⟨w.heap.size, 2, none⟩ = some c) ∧ w'.frozen? ⟨w.heap.size, 0, none⟩ = false ∧ w'.frozen? ⟨w.heap.size, 1, none⟩ = false ∧ w'.frozen? ⟨w.heap.size, 2, none⟩ = false := by
  have h := vat_new w.drew [a, b, c] t
  have hl : w.heap.size < (w.drew.alloc (Obj.cells #[a, b, c] t)).heap.size := by simp
  exact ⟨⟨cell_later hb (h 0 _ rfl), cell_later hb (h 1 _ rfl), cell_later hb (h 2 _ rfl)⟩, (hb.frozen (p := ⟨w.heap.size, 0, none⟩) hl).trans (froz_new2 w.drew #[a, b, c] t 0), (hb.frozen (p := ⟨w.heap.size, 1, none⟩) hl).trans (froz_new2 w.drew #[a, b, c] t 1), (hb.frozen (p := ⟨w.heap.size, 2, none⟩) hl).trans (froz_new2 w.drew #[a, b, c] t 2)⟩
/-- Three cells of one block are set. -/
def put3 (W : World) (g : Nat) (u v x : Value) : World := ((W.setCell ⟨g, 0, none⟩ u).setCell ⟨g, 1, none⟩ v).setCell ⟨g, 2, none⟩ x
theorem put3_cells {W : World} {g : Nat} {a b c u v x : Value} (k : W.cell? ⟨g, 0, none⟩ = some u ∧ W.cell? ⟨g, 1, none⟩ = some v ∧ W.cell? ⟨g, 2, none⟩ = some x) : (put3 W g a b c).cell? ⟨g, 0, none⟩ = some a ∧ (put3 W g a b c).cell? ⟨g, 1, none⟩ = some b ∧ (put3 W g a b c).cell? ⟨g, 2, none⟩ = some c := by
  unfold put3
  have h1 : (W.setCell ⟨g, 0, none⟩ a).cell? ⟨g, 1, none⟩ = some v := by
    rw [World.cell?_setCell_other _ _ _ _ (by simp)]
    exact k.2.1
  have h2 : ((W.setCell ⟨g, 0, none⟩ a).setCell ⟨g, 1, none⟩ b).cell? ⟨g, 2, none⟩ = some x := by
    rw [World.cell?_setCell_other _ _ _ _ (by simp), World.cell?_setCell_other _ _ _ _ (by simp)]
    exact k.2.2
  refine ⟨?_, ?_, World.cell?_setCell_same _ _ _ h2⟩
  · rw [World.cell?_setCell_other _ _ _ _ (by simp), World.cell?_setCell_other _ _ _ _ (by simp)]
    exact World.cell?_setCell_same _ _ _ k.1
  · rw [World.cell?_setCell_other _ _ _ _ (by simp)]
    exact World.cell?_setCell_same _ _ _ h1
theorem below_put3 {B : Nat} {w W : World} (h : Below B w W) (g : Nat) (hg : B ≤ g) (u v x : Value) : Below B w (put3 W g u v x) := ((h.setCell (p := ⟨g, 0, none⟩) hg u).setCell (p := ⟨g, 1, none⟩) hg v).setCell (p := ⟨g, 2, none⟩) hg x
theorem own_put3 {W : World} {B e size n : Nat} {v : Value} {xs : List Value} (h : W.ownsRow B e size v n xs) (g : Nat) (hg : g < B) (a b c : Value) : (put3 W g a b c).ownsRow B e size v n xs := ownsRow_setCell_below (ownsRow_setCell_below (ownsRow_setCell_below h hg _) hg _) hg _
theorem hop_in {x y h : Int} {p : (Int × Int) × Int} (e : p = ((x, y), h)) : p.1.1 = x ∧ p.1.2 = y ∧ p.2 = h := by
  subst e
  exact ⟨rfl, rfl, rfl⟩
def sliL : Value → Nat
  | .slice _ n _ => n
  | _ => 0

set_option maxHeartbeats 8000000 in
set_option maxRecDepth 100000 in
theorem follow_any (S : Int) (ao : Option Addr) (n cap : Nat) (ao2 : Option Addr) (n2 cap2 : Nat) (ao3 : Option Addr) (n3 cap3 : Nat) (Ls : List ((Int × Int) × (Int × Int))) (Hs : List (ByteArray × (Int × Int))) (Ts : List (List Ru)) (x y h : Int) (w : World)
    (hL : GS lnkE w (.slice ao n cap) Ls) (hH : GS hstE w (.slice ao2 n2 cap2) Hs) (hT : TS w (.slice ao3 n3 cap3) Ts) (hN : ntN S Ls Hs Ts = 0) (hx : spB S (x, y) = true) :
    Calls Tryd.prog 54 #[.agg #[.int .i64 S, .slice ao n cap, .slice ao2 n2 cap2, .slice ao3 n3 cap3], .agg #[.int .i64 x, .int .i64 y, .int .i64 h]] w fun e w' => ∃ ao4 n4 cap4, e = .returned (.agg #[.int .i64 (frF Ls Hs Ts (x, y) h).1, .string (frF Ls Hs Ts (x, y) h).2.1, .slice ao4 n4 cap4]) ∧ w'.ownsRow w.heap.size 109 3 (.slice ao4 n4 cap4) (frF Ls Hs Ts (x, y) h).2.2.length (cellsG hopE (frF Ls Hs Ts (x, y) h).2.2) ∧ Below w.heap.size w w' := by
  obtain ⟨hTP, hTL, hTT⟩ := nt_0 hN
  have hS := (tp_0 hTP).1
  have hnd := (tp_0 hTP).2.2.2.1
  have hTn := hT.len
  have hLn := hL.len
  have hl2 := (tp_0 hTP).2.1
  have HTP : Hid (tpN S Ls Hs = 0) := hTP
  have HND : Hid ((spsL Ls).Nodup) := hnd
  have HN1 : Hid (n ≤ 1000) := by show _ ≤ _; omega
  have HTT : Hid (∀ k, k < Ts.length → tbN (Ts.getD k []) = 0) := hTT
  have H36 : Hid (n3 ≤ 6) := by show _ ≤ _; omega
  have H3S : Hid ((n3 : Int) = S) := by show _ = _; omega
  have HLW : Hid (∀ W, Below w.heap.size w W → GS lnkE W (.slice ao n cap) Ls) := fun W hb => hL.later hb
  have HHW : Hid (∀ W, Below w.heap.size w W → GS hstE W (.slice ao2 n2 cap2) Hs) := fun W hb => hH.later hb
  have HTW : Hid (∀ W, Below w.heap.size w W → TS W (.slice ao3 n3 cap3) Ts) := fun W hb => hT.later hb
  obtain ⟨F, hF⟩ : ∃ F, F = frF Ls Hs Ts (x, y) h := ⟨_, rfl⟩
  have HF : Hid (F = foF Ls Hs Ts 24 [((x, y), h)]) := hF
  rw [← hF]
  have hX := fbox_new w S (.slice ao n cap) (.slice ao2 n2 cap2) (.slice ao3 n3 cap3) x y h
  obtain ⟨w0, hw0⟩ : ∃ W, W = fbox w S (.slice ao n cap) (.slice ao2 n2 cap2) (.slice ao3 n3 cap3) x y h := ⟨_, rfl⟩
  rw [← hw0] at hX
  have HX : Hid (FBox w w0 S (.slice ao n cap) (.slice ao2 n2 cap2) (.slice ao3 n3 cap3) x y h) := hX
  have HW0 : Hid (((w.alloc (Obj.cells #[.int .i64 S, .slice ao n cap, .slice ao2 n2 cap2, .slice ao3 n3 cap3] 58)).alloc (Obj.cells #[.int .i64 x, .int .i64 y, .int .i64 h] 109)).alloc (Obj.cells #[.int .i64 0, .string ⟨#[]⟩, .slice none 0 0] 64) = w0) := hw0.symm
  have HXX : Hid (spB S (x, y) = true) := hx
  clear hL hH hT hN hTP hTL hTT hS hnd hTn hLn hl2 hF hX hw0 hx
  go_enter Tryd.func54, Tryd.ntmps54
  go_upto_region 1 with fail
  rw [HW0.out]
  obtain ⟨_, ⟨b0, b1, b2, b3⟩, i0, i1, i2, r0, r1, r2, f⟩ := HX.out
  clear HW0 f
  go_wp2_with fail
  refine (peers_any ao n cap Ls _ (HLW.out _ HX.out.below) HND.out HN1.out).mono ?_
  rintro e w1 ⟨B, M, rfl, hM, hPM, hb1⟩
  have HM : Hid (MAt spotKey veS w1 B M) := hM
  have HPM : Hid (PM M Ls) := hPM
  have HX1 : Hid (FBox w w1 S (.slice ao n cap) (.slice ao2 n2 cap2) (.slice ao3 n3 cap3) x y h) := HX.out.later HX.out.lt hb1
  have hlB : B < w1.heap.size := hM.lt
  obtain ⟨_, ⟨b0, b1, b2, b3⟩, i0, i1, i2, r0, r1, r2, f⟩ := HX1.out
  clear f hM hPM hb1 HX
  go_wp2
  have HLW1 : Hid (w.heap.size + 3 ≤ w1.heap.size) := HX1.out.lt
  have HO1 : Hid ((w1.alloc (Obj.cells #[.int .i64 x, .int .i64 y, .int .i64 h] 109)).ownsRow w1.heap.size 109 3 (.slice (some ⟨w1.heap.size, 0, none⟩) 1 1) ([((x, y), h)] : List ((Int × Int) × Int)).length (cellsG hopE [((x, y), h)])) :=
    World.ownsRow_lit (base := w1.heap.size) (e := 109) (size := 3) w1 #[.int .i64 x, .int .i64 y, .int .i64 h] 1 (Nat.le_refl _) (by decide) rfl
  clear b0 b1 b2 b3 i0 i1 i2 r0 r1 r2
  go_loopw [6] (fun v wr => ∃ l : List ((Int × Int) × Int), (0 < l.length ∧ l.length ≤ 24) ∧ wr.ownsRow w1.heap.size 109 3 v l.length (cellsG hopE l) ∧ F = foF Ls Hs Ts (25 - l.length) l ∧ spB S (laH l).1 = true ∧ Below w1.heap.size w1 wr) (fun v _ => 25 - sliL v)
  case atStart => exact ⟨[((x, y), h)], by simp, HO1.out, HF.out, HXX.out, (Below.refl _ _).alloc (Nat.le_refl _) _⟩
  case round =>
    obtain ⟨l, ⟨hl0, hl24⟩, hown, hFl, hsp, hBr⟩ := hrel
    obtain ⟨ao5, cap5, rfl⟩ := own_form hown
    obtain ⟨wo, hwo⟩ : ∃ X, X = wr := ⟨_, rfl⟩
    subst hwo
    obtain ⟨m, hm⟩ : ∃ m, m = l.length := ⟨_, rfl⟩
    have HML : Hid (l.length = m) := hm.symm
    rw [← hm] at hown hl0 hl24 hFl
    rw [← hm]
    have HOWN : Hid (wo.ownsRow w1.heap.size 109 3 (.slice ao5 m cap5) m (cellsG hopE l)) := hown
    have HFL : Hid (F = foF Ls Hs Ts (25 - l.length) l) := by
      show _ = _
      rw [← hm]
      exact hFl
    have HL24 : Hid (l.length ≤ 24) := by
      show _ ≤ _
      omega
    have HBr : Hid (Below w1.heap.size w1 wo) := hBr
    have HXo : Hid (FBox w wo S (.slice ao n cap) (.slice ao2 n2 cap2) (.slice ao3 n3 cap3) x y h) := HX1.out.later HX1.out.lt hBr
    have HMo : Hid (MAt spotKey veS wo B M) := HM.out.later hBr
    obtain ⟨_, _, _, e5, hGn, hGm, _, hGa⟩ := (own_GS (E := hopE) (L := l) (by rw [← hm]; exact hown) : GS hopE wo (.slice ao5 m cap5) l).form
    cases e5
    obtain ⟨g5, o5, hao5, hc5, _⟩ := hGa hl0
    subst hao5
    obtain ⟨p0, p1, p2, hkl, hLk, c0, c1, c2⟩ := hop_at hc5 HML.out (show m - 1 < m by omega)
    have hla : laH l = ((p0, p1), p2) := by
      have e : laH l = l[m - 1] := by
        unfold laH
        rw [← hm]
        simp [List.getD, hkl]
      rw [e, hLk]
    have HLA : Hid (laH l = ((p0, p1), p2)) := hla
    rw [hla] at hsp
    have hsp2 := sp_of hsp
    simp only at hsp2
    have HS1 : Hid (1 ≤ p0) := hsp2.1
    have HS2 : Hid (p0 ≤ (n3 : Int)) := by
      show _ ≤ _
      rw [H3S.out]
      exact hsp2.2.1
    obtain ⟨A, hA⟩ : ∃ A, A = stO Ts ((p0, p1), p2) := ⟨_, rfl⟩
    have HA : Hid (stO Ts (laH l) = A) := by
      show _ = _
      rw [hla, hA]
    have HA2 : Hid (stO Ts ((p0, p1), p2) = A) := hA.symm
    obtain ⟨Q1, hQ1⟩ : ∃ q, q = (A.getD zeH).1.1 := ⟨_, rfl⟩
    obtain ⟨Q2, hQ2⟩ : ∃ q, q = (A.getD zeH).1.2 := ⟨_, rfl⟩
    obtain ⟨Q3, hQ3⟩ : ∃ q, q = (A.getD zeH).2 := ⟨_, rfl⟩
    obtain ⟨okb, hokb⟩ : ∃ q, q = A.isSome := ⟨_, rfl⟩
    have HQ1 : Hid ((A.getD zeH).1.1 = Q1) := hQ1.symm
    have HQ2 : Hid ((A.getD zeH).1.2 = Q2) := hQ2.symm
    have HQ3 : Hid ((A.getD zeH).2 = Q3) := hQ3.symm
    have HOKB : Hid (A.isSome = okb) := hokb.symm
    have hmi : IntKind.i64.wrap ((m : Int) - 1) = ((m - 1 : Nat) : Int) := by
      rw [show (m : Int) - 1 = ((m - 1 : Nat) : Int) by omega]
      exact wrap_small (by omega) (by omega)
    have mb0 : (0 : Int) ≤ ((m - 1 : Nat) : Int) := by omega
    have mb1 : ((m - 1 : Nat) : Int) < (m : Int) := by omega
    obtain ⟨_, ⟨b0, b1, b2, b3⟩, i0, i1, i2, r0, r1, r2, f⟩ := HXo.out
    have hlw : w.heap.size < wo.heap.size := World.block_lt_of_cell? _ _ b0
    have hlg : g5 < wo.heap.size := World.block_lt_of_cell? _ _ c0
    clear hown hFl hsp hBr hm hGn hGm hGa hc5 hLk hla hsp2 hA hQ1 hQ2 hQ3 hokb f HO1 HF HXX HX1 HM i0 i1 i2 r0 r1 r2
    go_upto_region 3 with fail
    go_cut [7, 8] from 18 to 28 (fun p q w' => ∃ g, p = .pointer (some ⟨g, 0, none⟩) ∧ q = .bool okb ∧ (w'.cell? ⟨g, 0, none⟩ = some (.int .i64 Q1) ∧ w'.cell? ⟨g, 1, none⟩ = some (.int .i64 Q2) ∧ w'.cell? ⟨g, 2, none⟩ = some (.int .i64 Q3)) ∧ Below wo.heap.size wo w')
    case first =>
      go_region_with (go_at_call 53; refine (step_any S ao n cap ao2 n2 cap2 ao3 n3 cap3 Ts p0 p1 p2 _ (HTW.out _ (HXo.out.below.trans (Below.mono (by first | exact Below.drew (Below.refl _ _) | exact (Below.drew (Below.refl _ _)).alloc (Nat.le_refl _) _) HXo.out.below.size))) HTT.out HS1.out HS2.out H36.out).mono ?_; rintro e w' ⟨rfl, hb⟩; rw [HA2.out, HQ1.out, HQ2.out, HQ3.out, HOKB.out]; have HBX : Hid (Below wo.heap.size wo w') := (by first | exact bdrew hb | exact balloc hb); try (have hbc := ballocD hb; obtain ⟨kc, kf0, kf1, kf2⟩ := hbc; obtain ⟨k0, k1, k2⟩ := kc); clear hb)
      all_goals (go_wp2_with fail; go_meet)
      all_goals first
        | exact ⟨_, rfl, rfl, ⟨by simp, by simp, by simp⟩, HBX.out.alloc HBX.out.size _⟩
        | exact ⟨_, rfl, rfl, put3_cells ⟨k0, k1, k2⟩, below_put3 HBX.out _ (Nat.le_refl _) _ _ _⟩
    case rest =>
      obtain ⟨g, rfl, rfl, ⟨d0, d1, d2⟩, hbw⟩ := hcut
      have HXc : Hid (FBox w wc S (.slice ao n cap) (.slice ao2 n2 cap2) (.slice ao3 n3 cap3) x y h) := HXo.out.later HXo.out.lt hbw
      have HOc : Hid (wc.ownsRow w1.heap.size 109 3 (.slice (some ⟨g5, o5, none⟩) m cap5) m (cellsG hopE l)) := own_below HOWN.out hbw
      have HMc : Hid (MAt spotKey veS wc B M) := HMo.out.later hbw
      have HBc : Hid (Below w1.heap.size w1 wc) := HBr.out.trans (hbw.mono HBr.out.size)
      obtain ⟨hBw, ⟨b0, b1, b2, b3⟩, i0, i1, i2, r0, r1, r2, f⟩ := HXc.out
      have HBw : Hid (Below w.heap.size w wc) := hBw
      have f0 := f 0
      have f1 := f 1
      have f2 := f 2
      have hlw1 : w.heap.size + 3 ≤ w1.heap.size := HLW1.out
      clear hbw f hBw HXo HOWN HMo HBr c0 c1 c2
      cases okb with
      | false =>
        have HF2 : Hid (F = (2, ByteArray.empty, l)) := by
          show _ = _
          rw [HFL.out]
          refine fo_2 HL24.out ?_
          rw [HA.out]
          have := HOKB.out
          cases A with
          | none => rfl
          | some _ => cases this
        go_wp2
        refine bodyPost_ret (v := .agg #[.int .i64 2, .string ⟨#[]⟩, .slice (some ⟨g5, o5, none⟩) m cap5]) (by simp [results, Tryd.results54, go_sem, *]) rfl ⟨_, _, _, by rw [HF2.out]; rfl, ?_, below_put3 HBw.out _ (by omega) _ _ _⟩
        rw [HF2.out]
        exact own_mono (B := w1.heap.size) (by rw [HML.out]; exact own_put3 HOc.out _ (by omega) _ _ _) (by have := HLW1.out; omega)
      | true =>
        have HAS : Hid (A = some ((Q1, Q2), Q3)) := by
          show _ = _
          have h1 := HOKB.out
          have h2 := HQ1.out
          have h3 := HQ2.out
          have h4 := HQ3.out
          cases A with
          | none => cases h1
          | some q =>
            obtain ⟨⟨q1, q2⟩, q3⟩ := q
            simp only [Option.getD_some] at h2 h3 h4
            rw [h2, h3, h4]
        have HK : Hid (hstAsks wc 74 (.pointer (some ⟨g, 0, none⟩)) (fun h => sq h.2 (Q1, Q2))) := follow1_asks g Q1 Q2 wc d0 d1
        obtain ⟨_, _, _, e6, hHn, hHm, _, hHa⟩ := (HHW.out _ HBw.out).form
        cases e6
        have HHN : Hid (Hs.length = n2) := hHn
        have HHM : Hid (n2 ≤ maxLen) := hHm
        have HHA : Hid (0 < n2 → ∃ g o, ao2 = some ⟨g, o, none⟩ ∧ GAt hstE wc g o Hs ∧ cap2 ≤ maxLen) := hHa
        have HD : Hid (VAt wc g 0 (hopE.c ((Q1, Q2), Q3))) := by
          intro j u hu
          match j, hu with
          | 0, hu => cases hu; exact d0
          | 1, hu => cases hu; exact d1
          | 2, hu => cases hu; exact d2
        clear hHn hHm hHa r0 r1 r2 f0 f1 f2
        go_wp2_with fail
        refine (hst_idxF ao2 n2 cap2 _ _ (fun h => sq h.2 (Q1, Q2)) Hs _ HHN.out HHM.out HHA.out (enters_of Tryd.func74 (by kernel_rfl) rfl) HK.out).mono ?_
        rintro e w2 ⟨rfl, hb2⟩
        have HX2 : Hid (FBox w w2 S (.slice ao n cap) (.slice ao2 n2 cap2) (.slice ao3 n3 cap3) x y h) := HXc.out.later HXc.out.lt hb2
        have HO2 : Hid (w2.ownsRow w1.heap.size 109 3 (.slice (some ⟨g5, o5, none⟩) m cap5) m (cellsG hopE l)) := own_below HOc.out hb2
        have HM2 : Hid (MAt spotKey veS w2 B M) := HMc.out.later hb2
        have HB2 : Hid (Below w1.heap.size w1 w2) := HBc.out.trans (hb2.mono HBc.out.size)
        have HHA2 : Hid (0 < n2 → ∃ g o, ao2 = some ⟨g, o, none⟩ ∧ GAt hstE w2 g o Hs ∧ cap2 ≤ maxLen) := fun h => by
          obtain ⟨g, o, e1, e2, e3⟩ := HHA.out h
          exact ⟨g, o, e1, e2.later hb2, e3⟩
        have HD2 : Hid (VAt w2 g 0 (hopE.c ((Q1, Q2), Q3))) := HD.out.later hb2
        obtain ⟨d0, d1, d2⟩ := hop_cells HD2.out
        simp only [Nat.zero_add] at d0 d1 d2
        obtain ⟨hBw2, ⟨b0, b1, b2, b3⟩, i0, i1, i2, r0, r1, r2, f⟩ := HX2.out
        have HBw2 : Hid (Below w.heap.size w w2) := hBw2
        have f0 := f 0
        have f1 := f 1
        have f2 := f 2
        have hlg2 : g < w2.heap.size := World.block_lt_of_cell? _ _ d0
        have hlr2 : w.heap.size + 1 + 1 < w2.heap.size := World.block_lt_of_cell? _ _ r0
        have hlw2 : w.heap.size < w2.heap.size := World.block_lt_of_cell? _ _ b0
        have hs12 : w1.heap.size ≤ w2.heap.size := HB2.out.size
        clear hb2 f hBw2 HXc HOc HMc HBc HHA HK HD HBw
        rcases at_ix Hs (Q1, Q2) with ⟨hi, ho⟩ | ⟨k, hk, hi, ho⟩
        · rw [hi]
          have HAT : Hid (atO Hs (Q1, Q2) = none) := ho
          have hlk := peer_look HM2.out HPM.out Q1 Q2
          obtain ⟨P, hP⟩ : ∃ P, P = peerO Ls (Q1, Q2) := ⟨_, rfl⟩
          have HP : Hid (peerO Ls (Q1, Q2) = P) := hP.symm
          rw [← hP] at hlk
          clear hi ho hP
          cases P with
          | none =>
            have HF2 : Hid (F = (3, ByteArray.empty, l)) := by
              show _ = _
              rw [HFL.out]
              exact fo_3 HL24.out (HA.out.trans HAS.out) HAT.out HP.out
            simp only [Option.getD_none, Option.isSome_none] at hlk
            go_wp2
            refine bodyPost_ret (v := .agg #[.int .i64 3, .string ⟨#[]⟩, .slice (some ⟨g5, o5, none⟩) m cap5]) (by simp [results, Tryd.results54, go_sem, *]) rfl ⟨_, _, _, by rw [HF2.out]; rfl, ?_, (below_put3 HBw2.out _ (by omega) _ _ _).alloc (below_put3 HBw2.out _ (by omega) _ _ _).size _⟩
            rw [HF2.out]
            exact own_mono (B := w1.heap.size) (by rw [HML.out]; exact (own_put3 HO2.out _ (by omega) _ _ _).alloc _) (by have := HLW1.out; omega)
          | some s =>
            obtain ⟨P1, P2⟩ := s
            simp only [Option.getD_some, Option.isSome_some] at hlk
            by_cases h24 : m = 24
            · have e24 : ((m : Int) == 24) = true := by simp [h24]
              have HF2 : Hid (F = (4, ByteArray.empty, l)) := by
                show _ = _
                rw [HFL.out]
                exact fo_4 HL24.out (HA.out.trans HAS.out) HAT.out HP.out (.inl (HML.out.trans h24))
              clear h24
              have hlr3 : w.heap.size + 1 + 1 < w2.heap.size + 1 := by omega
              go_wp2
              clear e24
              refine bodyPost_ret (v := .agg #[.int .i64 4, .string ⟨#[]⟩, .slice (some ⟨g5, o5, none⟩) m cap5]) (by simp [results, Tryd.results54, go_sem, *]) rfl ⟨_, _, _, by rw [HF2.out]; rfl, ?_, ((below_put3 HBw2.out _ (by omega) _ _ _).alloc (below_put3 HBw2.out _ (by omega) _ _ _).size _).alloc ((below_put3 HBw2.out _ (by omega) _ _ _).alloc (below_put3 HBw2.out _ (by omega) _ _ _).size _).size _⟩
              rw [HF2.out]
              exact own_mono (B := w1.heap.size) (by rw [HML.out]; exact ((own_put3 HO2.out _ (by omega) _ _ _).alloc _).alloc _) (by have := HLW1.out; omega)
            · have e24 : ((m : Int) == 24) = false := by simp; omega
              have HN24 : Hid (l.length ≠ 24) := by
                show _ ≠ _
                rw [HML.out]
                exact h24
              have hbA : Below w2.heap.size w2 ((w2.alloc (Obj.cells #[.int .i64 P1, .int .i64 P2] 27)).alloc (Obj.cells #[.int .i64 P1, .int .i64 P2, .int .i64 Q3] 109)) := ((Below.refl _ _).alloc (Nat.le_refl _) _).alloc (by simp) _
              have hvA := hop_new (w2.alloc (Obj.cells #[.int .i64 P1, .int .i64 P2] 27)) P1 P2 Q3 109
              rw [show (w2.alloc (Obj.cells #[.int .i64 P1, .int .i64 P2] 27)).heap.size = w2.heap.size + 1 by simp] at hvA
              obtain ⟨w3, hw3⟩ : ∃ W, (w2.alloc (Obj.cells #[.int .i64 P1, .int .i64 P2] 27)).alloc (Obj.cells #[.int .i64 P1, .int .i64 P2, .int .i64 Q3] 109) = W := ⟨_, rfl⟩
              rw [hw3] at hbA hvA
              have HVA : Hid (VAt w3 (w2.heap.size + 1) 0 (hopE.c ((P1, P2), Q3))) := hvA
              have HBA : Hid (Below w2.heap.size w2 w3) := hbA
              have HW3 : Hid ((w2.alloc (Obj.cells #[.int .i64 P1, .int .i64 P2] 27)).alloc (Obj.cells #[.int .i64 P1, .int .i64 P2, .int .i64 Q3] 109) = w3) := hw3
              have HO3 : Hid (w3.ownsRow w1.heap.size 109 3 (.slice (some ⟨g5, o5, none⟩) m cap5) m (cellsG hopE l)) := own_below HO2.out hbA
              clear h24 hbA hvA hw3
              go_wp2_with fail
              rw [HW3.out]
              refine (hop_has (some ⟨g5, o5, none⟩) m cap5 P1 P2 Q3 l _ (own_GS (by rw [HML.out]; exact HO3.out))).mono ?_
              rintro e w4 ⟨rfl, hb4⟩
              obtain ⟨c, hc⟩ : ∃ c, c = l.any fun a => hopB ((P1, P2), Q3) a := ⟨_, rfl⟩
              have HC : Hid ((l.any fun a => hopB ((P1, P2), Q3) a) = c) := hc.symm
              rw [← hc]
              have hB24 : Below w2.heap.size w2 w4 := HBA.out.trans (hb4.mono HBA.out.size)
              have HX4 : Hid (FBox w w4 S (.slice ao n cap) (.slice ao2 n2 cap2) (.slice ao3 n3 cap3) x y h) := HX2.out.later HX2.out.lt hB24
              have HO4 : Hid (w4.ownsRow w1.heap.size 109 3 (.slice (some ⟨g5, o5, none⟩) m cap5) m (cellsG hopE l)) := own_below HO3.out hb4
              have HB4 : Hid (Below w1.heap.size w1 w4) := HB2.out.trans (hB24.mono HB2.out.size)
              obtain ⟨t0, t1, t2⟩ := hop_cells (HVA.out.later hb4)
              simp only [Nat.zero_add] at t0 t1 t2
              obtain ⟨hBw4, ⟨b0, b1, b2, b3⟩, i0, i1, i2, r0, r1, r2, f⟩ := HX4.out
              have HBw4 : Hid (Below w.heap.size w w4) := hBw4
              have f0 := f 0
              have f1 := f 1
              have f2 := f 2
              have hs14 : w1.heap.size ≤ w4.heap.size := HB4.out.size
              clear hc hb4 hB24 f hBw4 hlk HX2 HO2 HO3 HB2 HD2 HM2 HVA HBA HW3 d0 d1 d2
              cases c with
              | true =>
                have HF2 : Hid (F = (4, ByteArray.empty, l)) := by
                  show _ = _
                  rw [HFL.out]
                  exact fo_4 HL24.out (HA.out.trans HAS.out) HAT.out HP.out (.inr HC.out)
                go_wp2
                refine bodyPost_ret (v := .agg #[.int .i64 4, .string ⟨#[]⟩, .slice (some ⟨g5, o5, none⟩) m cap5]) (by simp [results, Tryd.results54, go_sem, *]) rfl ⟨_, _, _, by rw [HF2.out]; rfl, ?_, below_put3 HBw4.out _ (by omega) _ _ _⟩
                rw [HF2.out]
                exact own_mono (B := w1.heap.size) (by rw [HML.out]; exact own_put3 HO4.out _ (by omega) _ _ _) (by have := HLW1.out; omega)
              | false =>
                have HFN : Hid (F = foF Ls Hs Ts (25 - (l ++ [((P1, P2), Q3)]).length) (l ++ [((P1, P2), Q3)])) := by
                  show _ = _
                  rw [HFL.out]
                  exact fo_n HL24.out (HA.out.trans HAS.out) HAT.out HP.out HN24.out HC.out
                have HSPN : Hid (spB S (laH (l ++ [((P1, P2), Q3)])).1 = true) := by
                  show _ = _
                  rw [la_app]
                  exact peer_sp HTP.out HP.out
                have hm23 : m ≤ 23 := by
                  have h1 := HN24.out
                  rw [HML.out] at h1
                  omega
                obtain ⟨j0, hj, hy0, hy1, hy2⟩ := info_parts hop_info
                go_wp2_with (at_builtin; refine wpList_append_own _ rfl _ _ 62 rfl w1.heap.size 109 j0 (.agg #[.int .i64 0, .int .i64 0, .int .i64 0]) 3 24 Tryd.underlying62 hj hy0 hy1 hy2 hop_zero (by decide) _ _ _ rfl (HO4.out.alloc _) ⟨w4.heap.size, 0, none⟩ 1 1 [.int .i64 P1, .int .i64 P2, .int .i64 Q3] rfl rfl ?m1 ?m2 ?m3 ?m4 ?m5 ?_)
                case m1 =>
                  intro j u hj
                  match j, hj with
                  | 0, hj => simp at hj; subst hj; simp [Addr.add]
                  | 1, hj => simp at hj; subst hj; simp [Addr.add]
                  | 2, hj => simp at hj; subst hj; simp [Addr.add]
                case m2 => intro u hu; simp at hu; rcases hu with rfl | rfl | rfl <;> rfl
                case m3 => unfold maxLen; omega
                case m4 => omega
                case m5 => simp; omega
                intro v5 w5 hown5 hgrow5 _
                obtain ⟨ao6, cap6, rfl⟩ := own_form hown5
                have hb5 : Below w1.heap.size w4 w5 := ((Below.refl _ w4).alloc hs14 _).grown hgrow5 (by simp; omega) (fun g hg => (HO4.out.lt g hg).1)
                have HB5 : Hid (Below w1.heap.size w1 w5) := HB4.out.trans hb5
                have HO5 : Hid (w5.ownsRow w1.heap.size 109 3 (.slice ao6 (m + 1) cap6) (l ++ [((P1, P2), Q3)]).length (cellsG hopE (l ++ [((P1, P2), Q3)]))) := by
                  show World.ownsRow _ _ _ _ _ _ _
                  rw [List.length_append, HML.out, cellsG_app, cellsG_one]
                  exact hown5
                have HLL : Hid (0 < (l ++ [((P1, P2), Q3)]).length ∧ (l ++ [((P1, P2), Q3)]).length ≤ 24) := by
                  rw [List.length_append, HML.out]
                  exact ⟨by simp, by simp; omega⟩
                clear hb5 hgrow5 hown5
                go_wp2
                go_roundw
                case rel => exact ⟨l ++ [((P1, P2), Q3)], HLL.out, HO5.out, HFN.out, HSPN.out, HB5.out⟩
                case measure => simp [sliL]; omega
        · rw [hi]
          have hlt : k < n2 := by rw [← HHN.out]; exact hk
          obtain ⟨gh, oh, hao, hc, _⟩ := HHA2.out (by omega)
          subst hao
          obtain ⟨y0, y1, y2, hkl, hHk, q0, q1, q2⟩ := hst_at hc HHN.out hlt
          have HF2 : Hid (F = (1, y0, l)) := by
            show _ = _
            rw [HFL.out]
            refine fo_1 HL24.out (HA.out.trans HAS.out) ?_
            rw [ho, hHk]
          have HSZ : Hid (y0.size ≤ 1000000) := by
            show _ ≤ _
            have h := (tp_0 HTP.out).2.2.2.2.1 Hs[k] (List.getElem_mem hk)
            rw [hHk] at h
            have h2 := h.1
            simp only [nmB, Bool.and_eq_true, decide_eq_true_eq] at h2
            omega
          have kb0 : (0 : Int) ≤ (k : Int) := by omega
          have kb1 : (k : Int) < (n2 : Int) := by omega
          clear hi ho hHk hc HHA2 r0 r1 r2 f0 f1 f2
          go_wp2_with fail
          refine (clone_any y0 _ HSZ.out).mono ?_
          rintro e w3 ⟨rfl, hb3⟩
          have HO3 : Hid (w3.ownsRow w1.heap.size 109 3 (.slice (some ⟨g5, o5, none⟩) m cap5) m (cellsG hopE l)) := own_below HO2.out hb3
          have HX3 : Hid (FBox w w3 S (.slice ao n cap) (.slice (some ⟨gh, oh, none⟩) n2 cap2) (.slice ao3 n3 cap3) x y h) := HX2.out.later HX2.out.lt hb3
          obtain ⟨hBw3, ⟨b0, b1, b2, b3⟩, i0, i1, i2, r0, r1, r2, f⟩ := HX3.out
          have HBw3 : Hid (Below w.heap.size w w3) := hBw3
          have f0 := f 0
          have f1 := f 1
          have f2 := f 2
          clear hb3 f hBw3
          go_wp2
          refine bodyPost_ret (v := .agg #[.int .i64 1, .string y0, .slice (some ⟨g5, o5, none⟩) m cap5]) (by simp [results, Tryd.results54, go_sem, *]) rfl ⟨_, _, _, by rw [HF2.out], ?_, below_put3 HBw3.out _ (by omega) _ _ _⟩
          rw [HF2.out]
          exact own_mono (B := w1.heap.size) (by rw [HML.out]; exact own_put3 HO3.out _ (by omega) _ _ _) (by have := HLW1.out; omega)
end Go.Proofs.YtfbocionnjlilacDoor
/- What railref1.Go answers: a contract for the walks above it. -/
namespace Go.Proofs.YtfbocionnjlilacDoor
open Go.RowKit
set_option linter.unusedSimpArgs false
set_option linter.unusedVariables false

theorem go_drewN (w : World) (n : Nat) : Below w.heap.size w (w.drewN n) := ⟨rfl, rfl, rfl, Nat.le_refl _, fun _ _ => rfl⟩
/-- What it answers: a fate, and whether it goes on. -/
def gnF (Ls : List ((Int × Int) × (Int × Int))) (Hs : List (ByteArray × (Int × Int))) (t : List Ru) (l : List ((Int × Int) × Int)) : (Int × ByteArray × List ((Int × Int) × Int)) × Bool :=
  match goE Ls Hs t l (laH l) with
  | .inl e => ((e.1, e.2, l), false)
  | .inr q => ((0, ByteArray.empty, l ++ [q]), true)
section
variable {Ls : List ((Int × Int) × (Int × Int))} {Hs : List (ByteArray × (Int × Int))} {t : List Ru} {l : List ((Int × Int) × Int)} {q : (Int × Int) × Int}
theorem gn_2 (h : stT t (laH l) = none) : gnF Ls Hs t l = ((2, ByteArray.empty, l), false) := by
  have e : goE Ls Hs t l (laH l) = .inl (2, ByteArray.empty) := by
    unfold goE
    rw [h]
  unfold gnF
  rw [e]
theorem gn_1 (h : stT t (laH l) = some q) {m : ByteArray} (ha : atO Hs q.1 = some m) : gnF Ls Hs t l = ((1, m, l), false) := by
  have e : goE Ls Hs t l (laH l) = .inl (1, m) := by
    unfold goE
    rw [h]
    simp only [ha]
  unfold gnF
  rw [e]
theorem gn_3 (h : stT t (laH l) = some q) (ha : atO Hs q.1 = none) (hp : peerO Ls q.1 = none) : gnF Ls Hs t l = ((3, ByteArray.empty, l), false) := by
  have e : goE Ls Hs t l (laH l) = .inl (3, ByteArray.empty) := by
    unfold goE
    rw [h]
    simp only [ha, hp]
  unfold gnF
  rw [e]
theorem gn_4 (h : stT t (laH l) = some q) (ha : atO Hs q.1 = none) {s : Int × Int} (hp : peerO Ls q.1 = some s) (h4 : l.length = 24 ∨ (l.any fun x => heB (s, q.2) x) = true) : gnF Ls Hs t l = ((4, ByteArray.empty, l), false) := by
  have e : goE Ls Hs t l (laH l) = .inl (4, ByteArray.empty) := by
    unfold goE
    rw [h]
    simp only [ha, hp]
    rw [if_pos h4]
  unfold gnF
  rw [e]
theorem gn_n (h : stT t (laH l) = some q) (ha : atO Hs q.1 = none) {s : Int × Int} (hp : peerO Ls q.1 = some s) (h4 : l.length ≠ 24) (h5 : (l.any fun x => heB (s, q.2) x) = false) : gnF Ls Hs t l = ((0, ByteArray.empty, l ++ [(s, q.2)]), true) := by
  have e : goE Ls Hs t l (laH l) = .inr (s, q.2) := by
    unfold goE
    rw [h]
    simp only [ha, hp]
    rw [if_neg]
    rw [not_or, h5]
    exact ⟨h4, by simp⟩
  unfold gnF
  rw [e]
end
theorem he_sy (a b : (Int × Int) × Int) : heB a b = hopB b a := by
  rw [Bool.eq_iff_iff, heB_iff, hopB_iff]
  exact eq_comm
/-- The boxes: a topology, a fate, the answer's. -/
structure GB (w W : World) (S : Int) (v1 v2 : Value) (u : Value) : Prop where
  below : Below w.heap.size w W
  t : TBox W w.heap.size S v1 v2
  f0 : W.cell? ⟨w.heap.size + 1, 0, none⟩ = some (.int .i64 0)
  f1 : W.cell? ⟨w.heap.size + 1, 1, none⟩ = some (.string ⟨#[]⟩)
  f2 : W.cell? ⟨w.heap.size + 1, 2, none⟩ = some u
  ff : ∀ i, W.frozen? ⟨w.heap.size + 1, i, none⟩ = false
  r0 : W.cell? ⟨w.heap.size + 1 + 1, 0, none⟩ = some (.int .i64 0)
  r1 : W.cell? ⟨w.heap.size + 1 + 1, 1, none⟩ = some (.string ⟨#[]⟩)
  r2 : W.cell? ⟨w.heap.size + 1 + 1, 2, none⟩ = some (.slice none 0 0)
  rf : ∀ i, W.frozen? ⟨w.heap.size + 1 + 1, i, none⟩ = false
theorem GB.lt {w W : World} {S : Int} {v1 v2 u : Value} (k : GB w W S v1 v2 u) : w.heap.size + 3 ≤ W.heap.size := World.block_lt_of_cell? W ⟨w.heap.size + 1 + 1, 0, none⟩ k.r0
theorem GB.later {w W W' : World} {S : Int} {v1 v2 u : Value} (k : GB w W S v1 v2 u) {B : Nat} (hB : w.heap.size + 3 ≤ B) (hb : Below B W W') : GB w W' S v1 v2 u :=
  have hc : ∀ (g i : Nat) (x : Value), g < w.heap.size + 3 → W.cell? ⟨g, i, none⟩ = some x → W'.cell? ⟨g, i, none⟩ = some x := fun g i x hg e => (hb.cell (p := ⟨g, i, none⟩) (show g < B by omega)).trans e
  ⟨k.below.trans (hb.mono (by omega)), ⟨hc _ _ _ (by omega) k.t.1, hc _ _ _ (by omega) k.t.2.1, hc _ _ _ (by omega) k.t.2.2⟩, hc _ _ _ (by omega) k.f0, hc _ _ _ (by omega) k.f1, hc _ _ _ (by omega) k.f2, fun i => (hb.frozen (p := ⟨w.heap.size + 1, i, none⟩) (show w.heap.size + 1 < B by omega)).trans (k.ff i), hc _ _ _ (by omega) k.r0, hc _ _ _ (by omega) k.r1, hc _ _ _ (by omega) k.r2, fun i => (hb.frozen (p := ⟨w.heap.size + 1 + 1, i, none⟩) (show w.heap.size + 1 + 1 < B by omega)).trans (k.rf i)⟩
theorem gb_new (w : World) (S : Int) (v1 v2 u : Value) : GB w (((w.alloc (Obj.cells #[.int .i64 S, v1, v2] 25)).alloc (Obj.cells #[.int .i64 0, .string ⟨#[]⟩, u] 64)).alloc (Obj.cells #[.int .i64 0, .string ⟨#[]⟩, .slice none 0 0] 64)) S v1 v2 u := by
  have hb : ∀ (W : World) (o : Obj), Below W.heap.size W (W.alloc o) := fun W o => (Below.refl _ _).alloc (Nat.le_refl _) _
  have ht := tbox_new w S v1 v2 25
  have e1 : (w.alloc (Obj.cells #[.int .i64 S, v1, v2] 25)).heap.size = w.heap.size + 1 := by simp
  have b1 := hb w (Obj.cells #[.int .i64 S, v1, v2] 25)
  generalize w.alloc (Obj.cells #[.int .i64 S, v1, v2] 25) = A at ht e1 b1
  have hf := vat_new A [.int .i64 0, .string ⟨#[]⟩, u] 64
  have zf := froz_new2 A #[.int .i64 0, .string ⟨#[]⟩, u] 64
  have e2 : (A.alloc (Obj.cells #[.int .i64 0, .string ⟨#[]⟩, u] 64)).heap.size = w.heap.size + 1 + 1 := by simp [e1]
  have b2 := hb A (Obj.cells #[.int .i64 0, .string ⟨#[]⟩, u] 64)
  rw [e1] at hf zf
  generalize A.alloc (Obj.cells #[.int .i64 0, .string ⟨#[]⟩, u] 64) = C at hf zf e2 b2
  have hr := vat_new C [.int .i64 0, .string ⟨#[]⟩, .slice none 0 0] 64
  have zr := froz_new2 C #[.int .i64 0, .string ⟨#[]⟩, .slice none 0 0] 64
  have b3 := hb C (Obj.cells #[.int .i64 0, .string ⟨#[]⟩, .slice none 0 0] 64)
  rw [e2] at hr zr
  have hf' := hf.later b3
  exact ⟨(b1.trans (b2.mono (by omega))).trans (b3.mono (by omega)), (ht.later b2).later b3, hf' 0 _ rfl, hf' 1 _ rfl, hf' 2 _ rfl, fun i => (b3.frozen (p := ⟨w.heap.size + 1, i, none⟩) (show w.heap.size + 1 < C.heap.size by omega)).trans (zf i), hr 0 _ rfl, hr 1 _ rfl, hr 2 _ rfl, zr⟩

set_option maxHeartbeats 8000000 in
set_option maxRecDepth 100000 in
theorem rgo_any (S : Int) (ao : Option Addr) (n cap : Nat) (ao2 : Option Addr) (n2 cap2 : Nat) (a4 : Option Addr) (n4 c4 : Nat) (ao5 : Option Addr) (m cap5 : Nat) (Ls : List ((Int × Int) × (Int × Int))) (Hs : List (ByteArray × (Int × Int))) (t : List Ru) (l : List ((Int × Int) × Int)) (w : World)
    (hL : GS lnkE w (.slice ao n cap) Ls) (hH : GS hstE w (.slice ao2 n2 cap2) Hs) (hS : SR w (.slice a4 n4 c4) t) (hG : GS hopE w (.slice ao5 m cap5) l) (ht : tbN t = 0) (hh : hdrB (laH l).2 = true) (hl0 : 0 < m) (hl24 : m ≤ 24) :
    Calls Tryd.prog 51 #[.agg #[.int .i64 S, .slice ao n cap, .slice ao2 n2 cap2], .slice a4 n4 c4, .agg #[.int .i64 0, .string ⟨#[]⟩, .slice ao5 m cap5]] w fun e w' => ∃ ao6 n6 cap6, e = .returned (.tuple #[.agg #[.int .i64 (gnF Ls Hs t l).1.1, .string (gnF Ls Hs t l).1.2.1, .slice ao6 n6 cap6], .bool (gnF Ls Hs t l).2]) ∧ GS hopE w' (.slice ao6 n6 cap6) (gnF Ls Hs t l).1.2.2 ∧ Below w.heap.size w w' ∧ (ao6 = ao5 ∨ ∀ g o, ao6 = some ⟨g, o, none⟩ → w.heap.size ≤ g) := by
  have hm := hG.len
  have HML : Hid (l.length = m) := hm
  have HLW : Hid (∀ W, Below w.heap.size w W → GS lnkE W (.slice ao n cap) Ls) := fun W hb => hL.later hb
  have HHW : Hid (∀ W, Below w.heap.size w W → GS hstE W (.slice ao2 n2 cap2) Hs) := fun W hb => hH.later hb
  have HSW : Hid (∀ W, Below w.heap.size w W → SR W (.slice a4 n4 c4) t) := fun W hb => hS.later hb
  have HGW : Hid (∀ W, Below w.heap.size w W → GS hopE W (.slice ao5 m cap5) l) := fun W hb => hG.later hb
  have HTB : Hid (tbN t = 0) := ht
  have HHB : Hid (∀ g o, 0 < n2 → ao2 = some ⟨g, o, none⟩ → g < w.heap.size) := fun g o h1 h2 => by
    obtain ⟨_, _, _, e7, h3, _, _, h4⟩ := hH.form
    cases e7
    obtain ⟨g', o', e8, h5, _⟩ := h4 h1
    rw [h2] at e8
    cases e8
    obtain ⟨_, _, _, _, _, k0, _, _⟩ := hst_at h5 h3 h1
    exact World.block_lt_of_cell? _ _ k0
  obtain ⟨F, hF⟩ : ∃ F, F = gnF Ls Hs t l := ⟨_, rfl⟩
  have HF : Hid (F = gnF Ls Hs t l) := hF
  rw [← hF]
  obtain ⟨_, _, _, e5, _, _, _, hGa⟩ := hG.form
  cases e5
  obtain ⟨g5, o5, hao5, hc5, _⟩ := hGa hl0
  subst hao5
  have HC5 : Hid (∀ W, Below w.heap.size w W → GAt hopE W g5 o5 l) := fun W hb => hc5.later hb
  have hX := gb_new w S (.slice ao n cap) (.slice ao2 n2 cap2) (.slice (some ⟨g5, o5, none⟩) m cap5)
  obtain ⟨w0, hw0⟩ : ∃ W, ((w.alloc (Obj.cells #[.int .i64 S, .slice ao n cap, .slice ao2 n2 cap2] 25)).alloc (Obj.cells #[.int .i64 0, .string ⟨#[]⟩, .slice (some ⟨g5, o5, none⟩) m cap5] 64)).alloc (Obj.cells #[.int .i64 0, .string ⟨#[]⟩, .slice none 0 0] 64) = W := ⟨_, rfl⟩
  rw [hw0] at hX
  have HX : Hid (GB w w0 S (.slice ao n cap) (.slice ao2 n2 cap2) (.slice (some ⟨g5, o5, none⟩) m cap5)) := hX
  have HW0 : Hid (((w.alloc (Obj.cells #[.int .i64 S, .slice ao n cap, .slice ao2 n2 cap2] 25)).alloc (Obj.cells #[.int .i64 0, .string ⟨#[]⟩, .slice (some ⟨g5, o5, none⟩) m cap5] 64)).alloc (Obj.cells #[.int .i64 0, .string ⟨#[]⟩, .slice none 0 0] 64) = w0) := hw0
  obtain ⟨p0, p1, p2, hkl, hLk, _, _, _⟩ := hop_at hc5 hm (show m - 1 < m by omega)
  have hla : laH l = ((p0, p1), p2) := by
    have e : laH l = l[m - 1] := by
      unfold laH
      rw [hm]
      simp [List.getD, hkl]
    rw [e, hLk]
  have HLA : Hid (laH l = ((p0, p1), p2)) := hla
  rw [hla] at hh
  have HH : Hid (hdrB p2 = true) := hh
  have hmi : IntKind.i64.wrap ((m : Int) - 1) = ((m - 1 : Nat) : Int) := by
    rw [show (m : Int) - 1 = ((m - 1 : Nat) : Int) by omega]
    exact wrap_small (by omega) (by omega)
  have mb0 : (0 : Int) ≤ ((m - 1 : Nat) : Int) := by omega
  have mb1 : ((m - 1 : Nat) : Int) < (m : Int) := by omega
  obtain ⟨p0', p1', p2', hkl', hLk', c0, c1, c2⟩ := hop_at (HC5.out _ hX.below) hm (show m - 1 < m by omega)
  rw [hLk] at hLk'
  cases hLk'
  obtain ⟨w1, hw1⟩ : ∃ W, w0.alloc (Obj.cells #[.int .i64 p0, .int .i64 p1, .int .i64 p2] 109) = W := ⟨_, rfl⟩
  obtain ⟨g1, hg1⟩ : ∃ g, w0.heap.size = g := ⟨_, rfl⟩
  have hb1 : Below w0.heap.size w0 w1 := by
    rw [← hw1]
    exact (Below.refl _ _).alloc (Nat.le_refl _) _
  have hv1 := hop_new w0 p0 p1 p2 109
  rw [hw1, hg1] at hv1
  have HX1 : Hid (GB w w1 S (.slice ao n cap) (.slice ao2 n2 cap2) (.slice (some ⟨g5, o5, none⟩) m cap5)) := hX.later hX.lt hb1
  have HV1 : Hid (VAt w1 g1 0 (hopE.c ((p0, p1), p2))) := hv1
  have HW1 : Hid (w0.alloc (Obj.cells #[.int .i64 p0, .int .i64 p1, .int .i64 p2] 109) = w1) := hw1
  have HG1 : Hid (w0.heap.size = g1) := hg1
  clear hL hH hS hG ht hF hGa hc5 hw0 hkl hLk hla hh hkl' hw1 hg1 hb1 hv1 hm
  obtain ⟨_, ⟨b0, b1, b2⟩, f0, f1, f2, _, _, _, _, _⟩ := hX
  go_enter Tryd.func51, Tryd.ntmps51
  go_upto_region 1 with fail
  rw [HW0.out]
  go_upto_region 2 with fail
  rw [HW1.out, HG1.out]
  obtain ⟨t0, t1, t2⟩ := hop_cells HV1.out
  simp only [Nat.zero_add] at t0 t1 t2
  clear HW0 HW1 HG1 b0 b1 b2 f0 f1 f2 c0 c1 c2 HX
  go_wp2_with fail
  refine (find_any (.slice a4 n4 c4) t p2 _ (HSW.out _ HX1.out.below)).mono ?_
  rintro e w2 ⟨rfl, hb2⟩
  have HX2 : Hid (GB w w2 S (.slice ao n cap) (.slice ao2 n2 cap2) (.slice (some ⟨g5, o5, none⟩) m cap5)) := HX1.out.later HX1.out.lt hb2
  have HV2 : Hid (VAt w2 g1 0 (hopE.c ((p0, p1), p2))) := HV1.out.later hb2
  obtain ⟨I, hI⟩ : ∃ I, I = beTo t p2 t.length := ⟨_, rfl⟩
  have HI : Hid (beTo t p2 t.length = I) := hI.symm
  rw [← hI]
  obtain ⟨t0, t1, t2⟩ := hop_cells HV2.out
  simp only [Nat.zero_add] at t0 t1 t2
  clear hb2 hI HX1 HV1
  by_cases hneg : I < 0
  · have e1 : decide (I < 0) = true := by simpa using hneg
    have HF2 : Hid (F = ((2, ByteArray.empty, l), false)) := by
      show _ = _
      rw [HF.out]
      refine gn_2 ?_
      rw [HLA.out]
      exact st_no HTB.out HH.out (by rw [HI.out]; exact hneg)
    obtain ⟨hBw, ⟨b0, b1, b2⟩, f0, f1, f2, ff, r0, r1, r2, rf⟩ := HX2.out
    have HBw : Hid (Below w.heap.size w w2) := hBw
    have ff0 := ff 0
    have rf0 := rf 0
    have rf1 := rf 1
    have rf2 := rf 2
    clear ff rf hBw
    go_wp2
    have HBE : Hid (∀ u a b c, Below w.heap.size w (put3 (w2.setCell ⟨w.heap.size + 1, 0, none⟩ u) (w.heap.size + 1 + 1) a b c)) := fun u a b c => below_put3 (HBw.out.setCell (p := ⟨w.heap.size + 1, 0, none⟩) (show w.heap.size ≤ w.heap.size + 1 by omega) u) _ (by omega) _ _ _
    refine bodyPost_ret (v := .tuple #[.agg #[.int .i64 2, .string ⟨#[]⟩, .slice (some ⟨g5, o5, none⟩) m cap5], .bool false]) (by simp [results, Tryd.results51, go_sem, *]) rfl ⟨_, _, _, by rw [HF2.out]; rfl, ?_, HBE.out _ _ _ _, .inl rfl⟩
    rw [HF2.out]
    exact HGW.out _ (HBE.out _ _ _ _)
  · have e1 : decide (I < 0) = false := by simpa using hneg
    have hbd := be_bd t p2 t.length
    rw [HI.out] at hbd
    obtain ⟨j, rfl⟩ : ∃ j : Nat, I = (j : Int) := ⟨I.toNat, by omega⟩
    have hjl : j < t.length := by omega
    obtain ⟨_, _, _, e4, hn4, hm4, _, ha4⟩ := (HSW.out _ HX2.out.below).form
    cases e4
    obtain ⟨g4, o4, hao4, hc4, _⟩ := ha4 (by omega)
    subst hao4
    have hjn : j < n4 := by omega
    obtain ⟨rp, rm, rb, ro, rs, rv, hl, hLj, q0, q1, q2, q3, q4, q5⟩ := hc4.at hn4 hjn
    have hbe : beR t p2 = ⟨rp, rm, rb, ro, rs, rv⟩ := by
      rw [beR, HI.out, Int.toNat_natCast, getD_at hjl, hLj]
    have HBE : Hid (beR t p2 = ⟨rp, rm, rb, ro, rs, rv⟩) := hbe
    have HLJ : Hid (t[j] = ⟨rp, rm, rb, ro, rs, rv⟩) := hLj
    have HN4 : Hid (t.length = n4) := hn4
    have HB0 : Hid (0 ≤ beTo t p2 t.length) := by
      show _ ≤ _
      rw [HI.out]
      omega
    have jb0 : (0 : Int) ≤ (j : Int) := by omega
    have jb1 : (j : Int) < (n4 : Int) := by omega
    have hj0 : ¬ (j : Int) < 0 := by omega
    clear hneg hbd hn4 hm4 ha4 hc4 hLj hbe
    by_cases ho : ro = 0
    · have e2 : (ro == 0) = true := by simp [ho]
      have HF2 : Hid (F = ((2, ByteArray.empty, l), false)) := by
        show _ = _
        rw [HF.out]
        refine gn_2 ?_
        rw [HLA.out]
        exact st_drop HTB.out HH.out HB0.out (by rw [HBE.out]; exact ho)
      clear ho
      obtain ⟨hBw, ⟨b0, b1, b2⟩, f0, f1, f2, ff, r0, r1, r2, rf⟩ := HX2.out
      have HBw : Hid (Below w.heap.size w w2) := hBw
      have ff0 := ff 0
      have rf0 := rf 0
      have rf1 := rf 1
      have rf2 := rf 2
      clear ff rf hBw
      go_wp2
      have HBE : Hid (∀ u a b c, Below w.heap.size w (put3 (w2.setCell ⟨w.heap.size + 1, 0, none⟩ u) (w.heap.size + 1 + 1) a b c)) := fun u a b c => below_put3 (HBw.out.setCell (p := ⟨w.heap.size + 1, 0, none⟩) (show w.heap.size ≤ w.heap.size + 1 by omega) u) _ (by omega) _ _ _
      refine bodyPost_ret (v := .tuple #[.agg #[.int .i64 2, .string ⟨#[]⟩, .slice (some ⟨g5, o5, none⟩) m cap5], .bool false]) (by simp [results, Tryd.results51, go_sem, *]) rfl ⟨_, _, _, by rw [HF2.out]; rfl, ?_, HBE.out _ _ _ _, .inl rfl⟩
      rw [HF2.out]
      exact HGW.out _ (HBE.out _ _ _ _)
    · have e2 : (ro == 0) = false := by simpa using ho
      obtain ⟨k1, k2, k3⟩ := st_yes (p := ((p0, p1), p2)) HTB.out HH.out HB0.out (by rw [HBE.out]; exact ho)
      rw [HBE.out] at k1 k2 k3
      simp only at k1 k2 k3
      obtain ⟨TU, hTU⟩ : ∃ u, u = tuTo rs rv p2 4 := ⟨_, rfl⟩
      have HTU : Hid (tuTo rs rv p2 4 = TU) := hTU.symm
      rw [← hTU] at k1
      have HST : Hid (stT t (laH l) = some ((p0, ro), TU)) := by
        show _ = _
        rw [HLA.out]
        exact k1
      have HRS : Hid (0 ≤ rs ∧ rs < 16) := k2
      have HRV : Hid (0 ≤ rv ∧ rv < 16) := k3
      have y1 : g1 < w2.heap.size := World.block_lt_of_cell? _ _ t0
      have y4 : g4 < w2.heap.size := World.block_lt_of_cell? _ _ q0
      clear ho k1 k2 k3 hTU
      go_upto_region 6 with fail
      go_cut [10] from 42 to 50 (fun p w' => ∃ g, p = .pointer (some ⟨g, 0, none⟩) ∧ (w'.cell? ⟨g, 0, none⟩ = some (.int .i64 p0) ∧ w'.cell? ⟨g, 1, none⟩ = some (.int .i64 ro)) ∧ Below w2.heap.size w2 w')
      case first =>
        as_aux_lemma =>
          go_region
          all_goals (go_wp2_with fail; go_meet)
          all_goals exact ⟨_, rfl, ⟨by simp, by simp⟩, (Below.drew (Below.refl _ _)).alloc (Nat.le_refl _) _⟩
      case rest =>
        obtain ⟨gs, rfl, ⟨d0, d1⟩, hb3⟩ := hcut
        have HX3 : Hid (GB w wc S (.slice ao n cap) (.slice ao2 n2 cap2) (.slice (some ⟨g5, o5, none⟩) m cap5)) := HX2.out.later HX2.out.lt hb3
        have HV3 : Hid (VAt wc g1 0 (hopE.c ((p0, p1), p2))) := HV2.out.later hb3
        have HD3 : Hid (VAt wc gs 0 [.int .i64 p0, .int .i64 ro]) := by
          intro j u hu
          match j, hu with
          | 0, hu => cases hu; exact d0
          | 1, hu => cases hu; exact d1
        obtain ⟨w3, hw3⟩ : ∃ X, X = wc := ⟨_, rfl⟩
        subst hw3
        obtain ⟨_, ⟨b0, b1, b2⟩, f0, f1, f2, _, _, _, _, _⟩ := HX3.out
        clear hb3 HX2 HV2 t0 t1 t2 q0 q1 q2 q3 q4 q5 y1 y4
        go_wp2_with fail
        refine (rhost_any S ao n cap ao2 n2 cap2 Hs p0 ro _ (HHW.out _ HX3.out.below)).mono ?_
        rintro e w5 ⟨rfl, hb5⟩
        have HX5 : Hid (GB w w5 S (.slice ao n cap) (.slice ao2 n2 cap2) (.slice (some ⟨g5, o5, none⟩) m cap5)) := HX3.out.later HX3.out.lt hb5
        have HV5 : Hid (VAt w5 g1 0 (hopE.c ((p0, p1), p2))) := HV3.out.later hb5
        have HD5 : Hid (VAt w5 gs 0 [.int .i64 p0, .int .i64 ro]) := HD3.out.later hb5
        clear hb5 HX3 HV3 HD3 b0 b1 b2 f0 f1 f2 d0 d1
        rcases at_ix Hs (p0, ro) with ⟨hi, hat⟩ | ⟨k, hk, hi, hat⟩
        · rw [show atN Hs (p0, ro) = -1 from hi]
          have HAT : Hid (atO Hs (p0, ro) = none) := hat
          obtain ⟨_, ⟨b0, b1, b2⟩, f0, f1, f2, _, _, _, _, _⟩ := HX5.out
          have d0 : w5.cell? ⟨gs, 0, none⟩ = some (.int .i64 p0) := HD5.out 0 _ rfl
          have d1 : w5.cell? ⟨gs, 1, none⟩ = some (.int .i64 ro) := HD5.out 1 _ rfl
          clear hi hat
          go_wp2_with fail
          refine (rpeer_any S ao n cap ao2 n2 cap2 Ls p0 ro _ (HLW.out _ HX5.out.below)).mono ?_
          rintro e w6 ⟨rfl, hb6⟩
          obtain ⟨P, hP⟩ : ∃ P, P = peerO Ls (p0, ro) := ⟨_, rfl⟩
          have HP : Hid (peerO Ls (p0, ro) = P) := hP.symm
          rw [← hP]
          have HX6 : Hid (GB w w6 S (.slice ao n cap) (.slice ao2 n2 cap2) (.slice (some ⟨g5, o5, none⟩) m cap5)) := HX5.out.later HX5.out.lt hb6
          have HV6 : Hid (VAt w6 g1 0 (hopE.c ((p0, p1), p2))) := HV5.out.later hb6
          clear hb6 hP HX5 HV5 HD5 b0 b1 b2 f0 f1 f2 d0 d1
          cases P with
          | none =>
            have HF2 : Hid (F = ((3, ByteArray.empty, l), false)) := by
              show _ = _
              rw [HF.out]
              exact gn_3 HST.out HAT.out HP.out
            simp only [Option.getD_none, Option.isSome_none]
            have b7 : Below w6.heap.size w6 (w6.alloc (Obj.cells #[.int .i64 0, .int .i64 0] 27)) := (Below.refl _ _).alloc (Nat.le_refl _) _
            obtain ⟨w7, hw7⟩ : ∃ W, w6.alloc (Obj.cells #[.int .i64 0, .int .i64 0] 27) = W := ⟨_, rfl⟩
            rw [hw7] at b7
            have HX7 : Hid (GB w w7 S (.slice ao n cap) (.slice ao2 n2 cap2) (.slice (some ⟨g5, o5, none⟩) m cap5)) := HX6.out.later HX6.out.lt b7
            have HW7 : Hid (w6.alloc (Obj.cells #[.int .i64 0, .int .i64 0] 27) = w7) := hw7
            clear b7 hw7
            go_upto_region 13 with fail
            rw [HW7.out]
            clear HW7
            obtain ⟨hBw, ⟨b0, b1, b2⟩, f0, f1, f2, ff, r0, r1, r2, rf⟩ := HX7.out
            have HBw : Hid (Below w.heap.size w w7) := hBw
            have ff0 := ff 0
            have rf0 := rf 0
            have rf1 := rf 1
            have rf2 := rf 2
            clear ff rf hBw
            go_wp2
            have HBE : Hid (∀ u a b c, Below w.heap.size w (put3 (w7.setCell ⟨w.heap.size + 1, 0, none⟩ u) (w.heap.size + 1 + 1) a b c)) := fun u a b c => below_put3 (HBw.out.setCell (p := ⟨w.heap.size + 1, 0, none⟩) (show w.heap.size ≤ w.heap.size + 1 by omega) u) _ (by omega) _ _ _
            refine bodyPost_ret (v := .tuple #[.agg #[.int .i64 3, .string ⟨#[]⟩, .slice (some ⟨g5, o5, none⟩) m cap5], .bool false]) (by simp [results, Tryd.results51, go_sem, *]) rfl ⟨_, _, _, by rw [HF2.out]; rfl, ?_, HBE.out _ _ _ _, .inl rfl⟩
            rw [HF2.out]
            exact HGW.out _ (HBE.out _ _ _ _)
          | some s =>
            obtain ⟨s1, s2⟩ := s
            simp only [Option.getD_some, Option.isSome_some]
            have b7 : Below w6.heap.size w6 (w6.alloc (Obj.cells #[.int .i64 s1, .int .i64 s2] 27)) := (Below.refl _ _).alloc (Nat.le_refl _) _
            have v7 := vat_new w6 [.int .i64 s1, .int .i64 s2] 27
            obtain ⟨w7, hw7⟩ : ∃ W, w6.alloc (Obj.cells #[.int .i64 s1, .int .i64 s2] 27) = W := ⟨_, rfl⟩
            obtain ⟨g7, hg7⟩ : ∃ g, w6.heap.size = g := ⟨_, rfl⟩
            have v7' : VAt w7 g7 0 [.int .i64 s1, .int .i64 s2] := by
              rw [← hw7, ← hg7]
              exact v7
            rw [hw7] at b7
            have HX7 : Hid (GB w w7 S (.slice ao n cap) (.slice ao2 n2 cap2) (.slice (some ⟨g5, o5, none⟩) m cap5)) := HX6.out.later HX6.out.lt b7
            have HV7 : Hid (VAt w7 g1 0 (hopE.c ((p0, p1), p2))) := HV6.out.later b7
            have HW7 : Hid (w6.alloc (Obj.cells #[.int .i64 s1, .int .i64 s2] 27) = w7) := hw7
            have HG7 : Hid (w6.heap.size = g7) := hg7
            have d0 : w7.cell? ⟨g7, 0, none⟩ = some (.int .i64 s1) := v7' 0 _ rfl
            have d1 : w7.cell? ⟨g7, 1, none⟩ = some (.int .i64 s2) := v7' 1 _ rfl
            obtain ⟨t0, t1, t2⟩ := hop_cells HV7.out
            simp only [Nat.zero_add] at t0 t1 t2
            obtain ⟨_, _, _, e4, _, _, _, ha4⟩ := (HSW.out _ HX7.out.below).form
            cases e4
            obtain ⟨g4', o4', hao4, hc4, _⟩ := ha4 (by omega)
            cases hao4
            obtain ⟨rp', rm', rb', ro', rs', rv', hl', hLj', q0, q1, q2, q3, q4, q5⟩ := hc4.at HN4.out hjn
            rw [HLJ.out] at hLj'
            cases hLj'
            have y1 : g1 < w7.heap.size := World.block_lt_of_cell? _ _ t0
            have y4 : g4 < w7.heap.size := World.block_lt_of_cell? _ _ q0
            have y7 : g7 < w7.heap.size := World.block_lt_of_cell? _ _ d0
            have h16 := hdr_of HH.out
            have HH16 : Hid (0 ≤ p2 ∧ p2 < 16) := h16
            clear b7 v7 hw7 hg7 v7' ha4 hc4 HX6 HV6 h16
            go_upto_region 13 with fail
            rw [HW7.out, HG7.out]
            clear HW7 HG7
            go_upto_region 16 with fail
            go_cut [14] from 75 to 83 (fun p w' => ∃ g, p = .pointer (some ⟨g, 0, none⟩) ∧ (w'.cell? ⟨g, 0, none⟩ = some (.int .i64 s1) ∧ w'.cell? ⟨g, 1, none⟩ = some (.int .i64 s2) ∧ w'.cell? ⟨g, 2, none⟩ = some (.int .i64 TU)) ∧ Below w7.heap.size w7 w')
            case first =>
              as_aux_lemma =>
                have HMK : Hid (∀ W, Below w7.heap.size w7 W → (fun w' => Below w7.heap.size w7 w' ∧ w'.cell? ⟨g7, 0, none⟩ = some (.int .i64 s1) ∧ w'.cell? ⟨g7, 1, none⟩ = some (.int .i64 s2) ∧ w'.cell? ⟨g4, o4 + j * 6, none⟩ = some (.int .i64 rp) ∧ w'.cell? ⟨g4, o4 + j * 6 + 1, none⟩ = some (.int .i64 rm) ∧ w'.cell? ⟨g4, o4 + j * 6 + 2, none⟩ = some (.int .i64 rb) ∧ w'.cell? ⟨g4, o4 + j * 6 + 3, none⟩ = some (.int .i64 ro) ∧ w'.cell? ⟨g4, o4 + j * 6 + 4, none⟩ = some (.int .i64 rs) ∧ w'.cell? ⟨g4, o4 + j * 6 + 5, none⟩ = some (.int .i64 rv) ∧ w'.cell? ⟨g1, 2, none⟩ = some (.int .i64 p2)) W) := fun W hb => ⟨hb, cell_later hb d0, cell_later hb d1, cell_later hb q0, cell_later hb q1, cell_later hb q2, cell_later hb q3, cell_later hb q4, cell_later hb q5, cell_later hb t2⟩
                go_region_held3 (fun w' => Below w7.heap.size w7 w' ∧ w'.cell? ⟨g7, 0, none⟩ = some (.int .i64 s1) ∧ w'.cell? ⟨g7, 1, none⟩ = some (.int .i64 s2) ∧ w'.cell? ⟨g4, o4 + j * 6, none⟩ = some (.int .i64 rp) ∧ w'.cell? ⟨g4, o4 + j * 6 + 1, none⟩ = some (.int .i64 rm) ∧ w'.cell? ⟨g4, o4 + j * 6 + 2, none⟩ = some (.int .i64 rb) ∧ w'.cell? ⟨g4, o4 + j * 6 + 3, none⟩ = some (.int .i64 ro) ∧ w'.cell? ⟨g4, o4 + j * 6 + 4, none⟩ = some (.int .i64 rs) ∧ w'.cell? ⟨g4, o4 + j * 6 + 5, none⟩ = some (.int .i64 rv) ∧ w'.cell? ⟨g1, 2, none⟩ = some (.int .i64 p2))
                  (first | assumption | exact HMK.out _ (Below.drew (Below.refl _ _)) | exact HMK.out _ ((Below.drew (Below.refl _ _)).alloc (Nat.le_refl _) _) | exact HMK.out _ HBX.out | exact HMK.out _ (HBX.out.alloc HBX.out.size _) | exact HMK.out _ (below_put3 HBX.out _ (Nat.le_refl _) _ _ _) | exact HMK.out _ (below_put3 (HBX.out.alloc HBX.out.size _) _ HBX.out.size _ _ _))
                  (first | (go_at_call 27; refine (turned_any rp rm rb ro rs rv p2 _ HRS.out HRV.out HH16.out).mono ?_; rintro e w' ⟨rfl, hb⟩; rw [HTU.out]; have HBX : Hid (Below w7.heap.size w7 w') := (by first | exact bdrew hb | exact balloc hb); try (have hbc := ballocD hb; obtain ⟨kc, kf0, kf1, kf2⟩ := hbc; obtain ⟨k0, k1, k2⟩ := kc); clear hb))
                all_goals (go_wp2_with fail; go_meet)
                all_goals first
                  | exact ⟨_, rfl, ⟨by simp, by simp, by simp⟩, HBX.out.alloc HBX.out.size _⟩
                  | exact ⟨_, rfl, put3_cells ⟨k0, k1, k2⟩, below_put3 HBX.out _ (Nat.le_refl _) _ _ _⟩
            case rest =>
              obtain ⟨gn, rfl, ⟨x0, x1, x2⟩, hb8⟩ := hcut
              have HX8 : Hid (GB w wc S (.slice ao n cap) (.slice ao2 n2 cap2) (.slice (some ⟨g5, o5, none⟩) m cap5)) := HX7.out.later HX7.out.lt hb8
              have HN8 : Hid (VAt wc gn 0 (hopE.c ((s1, s2), TU))) := by
                intro j u hu
                match j, hu with
                | 0, hu => cases hu; exact x0
                | 1, hu => cases hu; exact x1
                | 2, hu => cases hu; exact x2
              obtain ⟨w8, hw8⟩ : ∃ X, X = wc := ⟨_, rfl⟩
              subst hw8
              obtain ⟨_, ⟨b0, b1, b2⟩, f0, f1, f2, _, _, _, _, _⟩ := HX8.out
              clear hb8 HX7 HV7 t0 t1 t2 d0 d1 q0 q1 q2 q3 q4 q5 y1 y4 y7 x0 x1 x2
              go_wp2
              clear b0 b1 b2 f0 f1 f2
              go_loopw [15, 16] (fun a i wr => ∃ k : Nat, k ≤ m ∧ i = .int .i64 k ∧ a = .bool (decide ((24 : Int) ≤ (m : Int)) || (l.take k).any (fun x => hopB x ((s1, s2), TU))) ∧ Below w8.heap.size w8 wr) (fun _ i _ => m - (intOf i).toNat)
              case atStart => exact ⟨0, by omega, rfl, by simp, Below.refl _ _⟩
              case round =>
                obtain ⟨k, hk, rfl, rfl, hBr⟩ := hrel
                have HXr : Hid (GB w wr S (.slice ao n cap) (.slice ao2 n2 cap2) (.slice (some ⟨g5, o5, none⟩) m cap5)) := HX8.out.later HX8.out.lt hBr
                have HNr : Hid (VAt wr gn 0 (hopE.c ((s1, s2), TU))) := HN8.out.later hBr
                have HBr : Hid (Below w8.heap.size w8 wr) := hBr
                obtain ⟨B, hB⟩ : ∃ B, B = (decide ((24 : Int) ≤ (m : Int)) || (l.take k).any (fun x => hopB x ((s1, s2), TU))) := ⟨_, rfl⟩
                have HB : Hid ((decide ((24 : Int) ≤ (m : Int)) || (l.take k).any (fun x => hopB x ((s1, s2), TU))) = B) := hB.symm
                rw [← hB]
                clear hBr hB
                by_cases hlt : k < m
                · obtain ⟨_, ⟨b0, b1, b2⟩, f0, f1, f2, _, _, _, _, _⟩ := HXr.out
                  obtain ⟨x0, x1, x2⟩ := hop_cells HNr.out
                  simp only [Nat.zero_add] at x0 x1 x2
                  obtain ⟨y0, y1, y2, hkl, hLk, c0, c1, c2⟩ := hop_at (HC5.out _ HXr.out.below) HML.out hlt
                  have HNX : Hid ((decide ((24 : Int) ≤ (m : Int)) || (l.take (k + 1)).any (fun x => hopB x ((s1, s2), TU))) = (B || hopB ((y0, y1), y2) ((s1, s2), TU))) := by
                    show _ = _
                    rw [← HB.out, List.take_succ_eq_append_getElem hkl, List.any_append, hLk, Bool.or_assoc]
                    simp
                  have z1 : g5 < wr.heap.size := World.block_lt_of_cell? _ _ c0
                  have z2 : gn < wr.heap.size := World.block_lt_of_cell? _ _ x0
                  have z3 : w.heap.size + 1 < wr.heap.size := World.block_lt_of_cell? _ _ f0
                  have kb0 : (0 : Int) ≤ (k : Int) := by omega
                  have kb1 : (k : Int) < (m : Int) := by omega
                  clear hLk
                  cases B with
                  | true =>
                    go_wp2_with fail
                    go_quiet (fail)
                    go_wp2
                    go_roundw
                    case rel => exact ⟨k + 1, by omega, by go_num, by rw [HNX.out]; rfl, HBr.out.trans ((go_drewN _ _).mono HBr.out.size)⟩
                    case measure => simp [intOf]; omega
                  | false =>
                    rcases hop_ways y0 y1 y2 s1 s2 TU with ⟨e0, e⟩ | ⟨e0, e4, e⟩ | ⟨e0, e4, e5, e⟩ | ⟨e0, e4, e5, e⟩
                    all_goals
                      have HE := e
                      clear e
                      rw [HE] at HNX
                      clear HE
                      go_wp2_with fail
                      go_quiet (fail)
                      go_wp2
                      go_roundw
                      case rel => exact ⟨k + 1, by omega, by go_num, by rw [HNX.out]; rfl, HBr.out.trans ((go_drewN _ _).mono HBr.out.size)⟩
                      case measure => simp [intOf]; omega
                · obtain rfl : k = m := by omega
                  have hany : (l.take k).any (fun x => hopB x ((s1, s2), TU)) = (l.any fun x => heB ((s1, s2), TU) x) := by
                    rw [← HML.out, List.take_length]
                    congr 1
                    funext x
                    exact (he_sy _ _).symm
                  have hB2 := HB.out
                  rw [hany] at hB2
                  have HB2 : Hid ((decide ((24 : Int) ≤ (k : Int)) || (l.any fun x => heB ((s1, s2), TU) x)) = B) := hB2
                  clear hany hB2
                  obtain ⟨_, ⟨b0, b1, b2⟩, f0, f1, f2, _, _, _, _, _⟩ := HXr.out
                  cases B with
                  | true =>
                    have HF2 : Hid (F = ((4, ByteArray.empty, l), false)) := by
                      show _ = _
                      rw [HF.out]
                      refine gn_4 HST.out HAT.out HP.out ?_
                      have h1 := HB2.out
                      rw [Bool.or_eq_true, decide_eq_true_eq] at h1
                      rcases h1 with h1 | h1
                      · left
                        rw [HML.out]
                        omega
                      · exact .inr h1
                    clear b0 b1 b2 f0 f1 f2
                    obtain ⟨hBw, ⟨b0, b1, b2⟩, f0, f1, f2, ff, r0, r1, r2, rf⟩ := HXr.out
                    have HBw : Hid (Below w.heap.size w wr) := hBw
                    have ff0 := ff 0
                    have rf0 := rf 0
                    have rf1 := rf 1
                    have rf2 := rf 2
                    clear ff rf hBw
                    go_wp2
                    have HBE : Hid (∀ u a b c, Below w.heap.size w (put3 (wr.setCell ⟨w.heap.size + 1, 0, none⟩ u) (w.heap.size + 1 + 1) a b c)) := fun u a b c => below_put3 (HBw.out.setCell (p := ⟨w.heap.size + 1, 0, none⟩) (show w.heap.size ≤ w.heap.size + 1 by omega) u) _ (by omega) _ _ _
                    refine bodyPost_ret (v := .tuple #[.agg #[.int .i64 4, .string ⟨#[]⟩, .slice (some ⟨g5, o5, none⟩) k cap5], .bool false]) (by simp [results, Tryd.results51, go_sem, *]) rfl ⟨_, _, _, by rw [HF2.out]; rfl, ?_, HBE.out _ _ _ _, .inl rfl⟩
                    rw [HF2.out]
                    exact HGW.out _ (HBE.out _ _ _ _)
                  | false =>
                    have h1 := HB2.out
                    rw [Bool.or_eq_false_iff, decide_eq_false_iff_not] at h1
                    have hk23 : k ≤ 23 := by omega
                    have HF2 : Hid (F = ((0, ByteArray.empty, l ++ [((s1, s2), TU)]), true)) := by
                      show _ = _
                      rw [HF.out]
                      exact gn_n HST.out HAT.out HP.out (by rw [HML.out]; omega) h1.2
                    obtain ⟨j0, hj, hy0, hy1, hy2⟩ := info_parts hop_info
                    clear h1
                    go_upto_region 26 with fail
                    go_wp2_with (at_builtin; refine wpList_append_GS (E := hopE) _ rfl _ _ 62 109 rfl Tryd.underlying62 j0 (.agg #[.int .i64 0, .int .i64 0, .int .i64 0]) 24 hj hy0 hy1 hy2 hop_zero wr.heap.size (.slice none 0 0) rfl [] (World.ownsRow_nil _ _ _ _) _ rfl l (HGW.out _ HXr.out.below) ?a1 ?a2 ?a3 ?_)
                    case a1 => rw [HML.out]; unfold maxLen; simp; omega
                    case a2 => rw [HML.out]; simp; omega
                    case a3 => exact Nat.le_refl _
                    intro v6 w6 hown6 hgrow6
                    obtain ⟨ao6, cap6, rfl⟩ := own_form hown6
                    have hb6 : Below wr.heap.size wr w6 := (Below.refl _ wr).grown hgrow6 (Nat.le_refl _) (fun g hg => by cases hg)
                    have HX6 : Hid (GB w w6 S (.slice ao n cap) (.slice ao2 n2 cap2) (.slice (some ⟨g5, o5, none⟩) k cap5)) := HXr.out.later HXr.out.lt hb6
                    have HN6 : Hid (VAt w6 gn 0 (hopE.c ((s1, s2), TU))) := HNr.out.later hb6
                    have HO6 : Hid (w6.ownsRow wr.heap.size 109 3 (.slice ao6 k cap6) k (cellsG hopE l)) := hown6
                    have HB6 : Hid (Below wr.heap.size wr w6) := hb6
                    have hs6 : wr.heap.size ≤ w6.heap.size := hb6.size
                    have hr3 : w.heap.size + 3 ≤ wr.heap.size := HXr.out.lt
                    obtain ⟨_, ⟨b0, b1, b2⟩, f0, f1, f2, _, _, _, _, _⟩ := HX6.out
                    obtain ⟨x0, x1, x2⟩ := hop_cells HN6.out
                    simp only [Nat.zero_add] at x0 x1 x2
                    clear hb6 hgrow6 hown6
                    go_upto_region 27 with fail
                    go_wp2_with (at_builtin; refine wpList_append_own _ rfl _ _ 62 rfl wr.heap.size 109 j0 (.agg #[.int .i64 0, .int .i64 0, .int .i64 0]) 3 24 Tryd.underlying62 hj hy0 hy1 hy2 hop_zero (by decide) _ _ _ rfl (HO6.out.alloc _) ⟨w6.heap.size, 0, none⟩ 1 1 [.int .i64 s1, .int .i64 s2, .int .i64 TU] rfl rfl ?m1 ?m2 ?m3 ?m4 ?m5 ?_)
                    case m1 =>
                      intro j u hj
                      match j, hj with
                      | 0, hj => simp at hj; subst hj; simp [Addr.add]
                      | 1, hj => simp at hj; subst hj; simp [Addr.add]
                      | 2, hj => simp at hj; subst hj; simp [Addr.add]
                    case m2 => intro u hu; simp at hu; rcases hu with rfl | rfl | rfl <;> rfl
                    case m3 => unfold maxLen; omega
                    case m4 => omega
                    case m5 => simp; omega
                    intro v9 w9 hown9 hgrow9 _
                    obtain ⟨ao9, cap9, rfl⟩ := own_form hown9
                    have hb9 : Below wr.heap.size w6 w9 := ((Below.refl _ w6).alloc hs6 _).grown hgrow9 (by simp; omega) (fun g hg => (HO6.out.lt g hg).1)
                    have hB9 : Below wr.heap.size wr w9 := HB6.out.trans hb9
                    have HO9 : Hid (w9.ownsRow wr.heap.size 109 3 (.slice ao9 (k + 1) cap9) (l ++ [((s1, s2), TU)]).length (cellsG hopE (l ++ [((s1, s2), TU)]))) := by
                      show World.ownsRow _ _ _ _ _ _ _
                      rw [List.length_append, HML.out, cellsG_app, cellsG_one]
                      exact hown9
                    have HX9 : Hid (GB w w9 S (.slice ao n cap) (.slice ao2 n2 cap2) (.slice (some ⟨g5, o5, none⟩) k cap5)) := HXr.out.later HXr.out.lt hB9
                    obtain ⟨hBw, ⟨b0, b1, b2⟩, f0, f1, f2, ff, r0, r1, r2, rf⟩ := HX9.out
                    have HBw : Hid (Below w.heap.size w w9) := hBw
                    have ff2 := ff 2
                    have rf0 := rf 0
                    have rf1 := rf 1
                    have rf2 := rf 2
                    clear ff rf hBw hb9 hB9 hgrow9 hown9 x0 x1 x2
                    go_wp2
                    have HBE : Hid (∀ u a b c, Below w.heap.size w (put3 (w9.setCell ⟨w.heap.size + 1, 2, none⟩ u) (w.heap.size + 1 + 1) a b c)) := fun u a b c => below_put3 (HBw.out.setCell (p := ⟨w.heap.size + 1, 2, none⟩) (show w.heap.size ≤ w.heap.size + 1 by omega) u) _ (by omega) _ _ _
                    have HOE : Hid (∀ u a b c, (put3 (w9.setCell ⟨w.heap.size + 1, 2, none⟩ u) (w.heap.size + 1 + 1) a b c).ownsRow wr.heap.size 109 3 (.slice ao9 (k + 1) cap9) (l ++ [((s1, s2), TU)]).length (cellsG hopE (l ++ [((s1, s2), TU)]))) := fun u a b c => own_put3 (ownsRow_setCell_below HO9.out (show w.heap.size + 1 < wr.heap.size by omega) _) _ (by omega) _ _ _
                    refine bodyPost_ret (v := .tuple #[.agg #[.int .i64 0, .string ⟨#[]⟩, .slice ao9 (k + 1) cap9], .bool true]) (by simp [results, Tryd.results51, go_sem, *]) rfl ⟨_, _, _, by rw [HF2.out]; rfl, ?_, HBE.out _ _ _ _, .inr fun g o e => ?_⟩
                    · rw [HF2.out]
                      exact own_GS (HOE.out _ _ _ _)
                    · subst e
                      exact Nat.le_trans (by omega) (HO9.out.lt g rfl).1
        · rw [show atN Hs (p0, ro) = (k : Int) from hi]
          have hlt : k < n2 := by
            have := (HHW.out _ HX5.out.below).len
            omega
          obtain ⟨_, _, _, e6, hHn, _, _, hHa⟩ := (HHW.out _ HX5.out.below).form
          cases e6
          obtain ⟨gh, oh, hao, hc, _⟩ := hHa (by omega)
          subst hao
          obtain ⟨y0, y1, y2, hkl, hHk, c0, c1, c2⟩ := hst_at hc hHn hlt
          have HF2 : Hid (F = ((1, y0, l), false)) := by
            show _ = _
            rw [HF.out]
            refine gn_1 HST.out ?_
            rw [hat, hHk]
          have kb0 : (0 : Int) ≤ (k : Int) := by omega
          have kb1 : (k : Int) < (n2 : Int) := by omega
          obtain ⟨hBw, ⟨b0, b1, b2⟩, f0, f1, f2, ff, r0, r1, r2, rf⟩ := HX5.out
          have HBw : Hid (Below w.heap.size w w5) := hBw
          have ff0 := ff 0
          have ff1 := ff 1
          have rf0 := rf 0
          have rf1 := rf 1
          have rf2 := rf 2
          have hgl : gh < w5.heap.size := World.block_lt_of_cell? _ _ c0
          have hgw : gh < w.heap.size := HHB.out gh oh (by omega) rfl
          have hne1 : gh ≠ w.heap.size + 1 := by omega
          clear ff rf hBw hi hat hHn hHa hc hHk
          go_wp2
          have HBE : Hid (∀ u v a b c, Below w.heap.size w (put3 ((w5.setCell ⟨w.heap.size + 1, 0, none⟩ u).setCell ⟨w.heap.size + 1, 1, none⟩ v) (w.heap.size + 1 + 1) a b c)) := fun u v a b c => below_put3 ((HBw.out.setCell (p := ⟨w.heap.size + 1, 0, none⟩) (show w.heap.size ≤ w.heap.size + 1 by omega) u).setCell (p := ⟨w.heap.size + 1, 1, none⟩) (show w.heap.size ≤ w.heap.size + 1 by omega) v) _ (by omega) _ _ _
          refine bodyPost_ret (v := .tuple #[.agg #[.int .i64 1, .string y0, .slice (some ⟨g5, o5, none⟩) m cap5], .bool false]) (by simp [results, Tryd.results51, go_sem, *]) rfl ⟨_, _, _, by rw [HF2.out], ?_, HBE.out _ _ _ _ _, .inl rfl⟩
          rw [HF2.out]
          exact HGW.out _ (HBE.out _ _ _ _ _)
end Go.Proofs.YtfbocionnjlilacDoor
