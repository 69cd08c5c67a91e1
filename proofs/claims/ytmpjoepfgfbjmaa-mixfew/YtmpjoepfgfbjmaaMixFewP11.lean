/- Contracts and facts on the way to MixFew, joined into one text: StWish, HostHas, WishCon, SlHopF, WishFits, WishFirst, SlWish2, ItLaw, GenTake, WishHold. -/
import Derived.Test.YtmpjoepfgfbjmaaMixFewP2
import Derived.Test.YtmpjoepfgfbjmaaMixFewP10
import Derived.Test.YtmpjoepfgfbjmaaMixFewP6
import Derived.Test.YtmpjoepfgfbjmaaMixFewP4
import Derived.Test.YtmpjoepfgfbjmaaMixFewP5
import Derived.Test.YtmpjoepfgfbjmaaRows
import Derived.Lib.SmallJoins
import Derived.Laws.StructEq
import Derived.Maps.OwnOps
import Derived.Lib.Strings
import Derived.Shelf.Abstract
import Derived.Deep.CutRange
import Derived.Deep.CutBlock
import Derived.RangeFuncNested
import Derived.RangeFuncBox
import Derived.RangeFuncBound
import Derived.RangeFuncCalls
import Derived.RangeFuncLeaves
import Derived.Shelf.RegionOpen
import Derived.WalkKit
import Derived.OwnWalkIn
import Derived.TacticsInMore
import Derived.LoopNIn
import Derived.LoopIn
import Derived.Below
/- The struct api.Wish: its cells, slices of them, == of two, such that came in. Written by mk/struct.py. -/
namespace Go.Proofs.Ytmpjoepfgfbjmaa
open Go.ChangeShapes Go.WideShapes Go.ChangeAt Go.RowKit Go.Joins
set_option linter.unusedSimpArgs false
set_option linter.unusedVariables false
set_option maxRecDepth 100000

def wisE : Enc (Wi) where
  c := fun x => [.int .i64 x.k, .string x.f, .string x.t, .int .i64 x.v]
  n := 4
  len := fun _ => rfl
  pos := by decide
  one := by
    intro x u hu
    simp at hu
    rcases hu with rfl | rfl | rfl | rfl <;> rfl
theorem wis_cells {w : World} {g o : Nat} {x0 : Int} {x1 : ByteArray} {x2 : ByteArray} {x3 : Int} (h : VAt w g o (wisE.c ⟨x0, x1, x2, x3⟩)) : w.cell? ⟨g, o, none⟩ = some (.int .i64 x0) ∧ w.cell? ⟨g, o + 1, none⟩ = some (.string x1) ∧ w.cell? ⟨g, o + 2, none⟩ = some (.string x2) ∧ w.cell? ⟨g, o + 3, none⟩ = some (.int .i64 x3) :=
  ⟨h 0 _ rfl, h 1 _ rfl, h 2 _ rfl, h 3 _ rfl⟩
theorem wis_at {w : World} {g o : Nat} {L : List (Wi)} (h : GAt wisE w g o L) {n k : Nat} (hn : L.length = n) (hk : k < n) :
    ∃ (x0 : Int) (x1 : ByteArray) (x2 : ByteArray) (x3 : Int) (hl : k < L.length), L[k] = ⟨x0, x1, x2, x3⟩ ∧ w.cell? ⟨g, o + k * 4, none⟩ = some (.int .i64 x0) ∧ w.cell? ⟨g, o + k * 4 + 1, none⟩ = some (.string x1) ∧ w.cell? ⟨g, o + k * 4 + 2, none⟩ = some (.string x2) ∧ w.cell? ⟨g, o + k * 4 + 3, none⟩ = some (.int .i64 x3) :=
  have hl : k < L.length := by omega
  ⟨_, _, _, _, hl, rfl, wis_cells (h k hl)⟩
theorem wis_new (w : World) (x0 : Int) (x1 : ByteArray) (x2 : ByteArray) (x3 : Int) (t : TypeId) : VAt (w.alloc (Obj.cells #[.int .i64 x0, .string x1, .string x2, .int .i64 x3] t)) w.heap.size 0 (wisE.c ⟨x0, x1, x2, x3⟩) := vat_new w [.int .i64 x0, .string x1, .string x2, .int .i64 x3] t
theorem wis_row (w : World) (x0 : Int) (x1 : ByteArray) (x2 : ByteArray) (x3 : Int) (t : TypeId) : GS wisE (w.alloc (Obj.cells #[.int .i64 x0, .string x1, .string x2, .int .i64 x3] t)) (.slice (some ⟨w.heap.size, 0, none⟩) 1 1) [⟨x0, x1, x2, x3⟩] := gs_one (E := wisE) w ⟨x0, x1, x2, x3⟩ t (vs := [.int .i64 x0, .string x1, .string x2, .int .i64 x3]) rfl
/-- Are two the same? -/
def wisB (a b : Wi) : Bool := (a.k == b.k) && ((a.f == b.f) && ((a.t == b.t) && ((a.v == b.v))))
theorem wis_ways (x0 : Int) (x1 : ByteArray) (x2 : ByteArray) (x3 : Int) (y0 : Int) (y1 : ByteArray) (y2 : ByteArray) (y3 : Int) :
    ((x0 == y0) = false ∧ wisB ⟨x0, x1, x2, x3⟩ ⟨y0, y1, y2, y3⟩ = false) ∨
    ((x0 == y0) = true ∧ (x1.toList == y1.toList) = false ∧ wisB ⟨x0, x1, x2, x3⟩ ⟨y0, y1, y2, y3⟩ = false) ∨
    ((x0 == y0) = true ∧ (x1.toList == y1.toList) = true ∧ (x2.toList == y2.toList) = false ∧ wisB ⟨x0, x1, x2, x3⟩ ⟨y0, y1, y2, y3⟩ = false) ∨
    ((x0 == y0) = true ∧ (x1.toList == y1.toList) = true ∧ (x2.toList == y2.toList) = true ∧ (x3 == y3) = false ∧ wisB ⟨x0, x1, x2, x3⟩ ⟨y0, y1, y2, y3⟩ = false) ∨
    ((x0 == y0) = true ∧ (x1.toList == y1.toList) = true ∧ (x2.toList == y2.toList) = true ∧ (x3 == y3) = true ∧ wisB ⟨x0, x1, x2, x3⟩ ⟨y0, y1, y2, y3⟩ = true) := by
  have e : wisB ⟨x0, x1, x2, x3⟩ ⟨y0, y1, y2, y3⟩ = ((x0 == y0) && ((x1.toList == y1.toList) && ((x2.toList == y2.toList) && ((x3 == y3))))) := by simp only [wisB, beq_toListBytes]
  rw [e]
  cases h0 : (x0 == y0)
  · simp
  · skip
    cases h1 : (x1.toList == y1.toList)
    · simp
    · skip
      cases h2 : (x2.toList == y2.toList)
      · simp
      · skip
        cases h3 : (x3 == y3)
        · simp
        · skip
          simp
theorem wis_zero : (Value.agg #[.int .i64 0, .string ByteArray.empty, .string ByteArray.empty, .int .i64 0]).cells.size = 4 := by simp [Value.cells]
end Go.Proofs.Ytmpjoepfgfbjmaa
/- What slices.ContainsFunc answers at hosts. -/
namespace Go.Proofs.Ytmpjoepfgfbjmaa
open Go.RowKit
set_option linter.unusedSimpArgs false
set_option linter.unusedVariables false

end Go.Proofs.Ytmpjoepfgfbjmaa
/- What isWhat, isNameless, isVia, isAbout and isHost of package wish answer: contracts for the walks above them. -/
namespace Go.Proofs.Ytmpjoepfgfbjmaa
open Go.RowKit
set_option linter.unusedSimpArgs false
set_option linter.unusedVariables false

theorem emp_lst (s : ByteArray) : s.toList.isEmpty = (s == ByteArray.empty) := by
  have e : ByteArray.empty.toList = [] := by rw [Lib.toList_data]; rfl
  rw [beq_toListBytes, e]
  cases h : s.toList with
  | nil => rfl
  | cons a l => rfl
/-- The box of a wish. -/
def WiBox (W : World) (g : Nat) (k : Int) (f t : ByteArray) (v : Int) : Prop := W.cell? ⟨g, 0, none⟩ = some (.int .i64 k) ∧ W.cell? ⟨g, 1, none⟩ = some (.string f) ∧ W.cell? ⟨g, 2, none⟩ = some (.string t) ∧ W.cell? ⟨g, 3, none⟩ = some (.int .i64 v)
theorem wibox_new (w : World) (k : Int) (f t : ByteArray) (v : Int) (T : TypeId) : WiBox (w.alloc (Obj.cells #[.int .i64 k, .string f, .string t, .int .i64 v] T)) w.heap.size k f t v := by
  refine ⟨?_, ?_, ?_, ?_⟩ <;> simp
theorem WiBox.later {W W' : World} {g : Nat} {k : Int} {f t : ByteArray} {v : Int} (h : WiBox W g k f t v) (hb : Below W.heap.size W W') : WiBox W' g k f t v :=
  ⟨cell_later hb h.1, cell_later hb h.2.1, cell_later hb h.2.2.1, cell_later hb h.2.2.2⟩
theorem WiBox.lt {W : World} {g : Nat} {k : Int} {f t : ByteArray} {v : Int} (h : WiBox W g k f t v) : g < W.heap.size := World.block_lt_of_cell? _ _ h.1

end Go.Proofs.Ytmpjoepfgfbjmaa
/- What package slices answers at slices of api.Hop. Written by mk/slices.py. -/
namespace Go.Proofs.Ytmpjoepfgfbjmaa
open Go.RowKit
set_option linter.unusedSimpArgs false
set_option linter.unusedVariables false

/-- A closure that asks something, in whatever world behind this one. -/
def hopAsks (w : World) (f : FuncId) (c : Value) (P : (Int × Int) × Int → Bool) : Prop :=
  ∀ (x0 : Int) (x1 : Int) (x2 : Int) (W : World), Below w.heap.size w W → Calls Try.prog f #[.agg #[.int .i64 x0, .int .i64 x1, .int .i64 x2], c] W fun e w' => e = .returned (.bool (P ((x0, x1), x2))) ∧ Below W.heap.size W w'
theorem hopAsks.later {w w' : World} {f : FuncId} {c : Value} {P : (Int × Int) × Int → Bool} (h : hopAsks w f c P) (hb : Below w.heap.size w w') : hopAsks w' f c P :=
  fun x0 x1 x2 W hW => h x0 x1 x2 W (hb.trans (hW.mono hb.size))

end Go.Proofs.Ytmpjoepfgfbjmaa
/- What wish.Fits answers: a contract for the walks above it. -/
namespace Go.Proofs.Ytmpjoepfgfbjmaa
open Go.RowKit
set_option linter.unusedSimpArgs false
set_option linter.unusedVariables false

theorem fi_off {w : Wi} {m : ByteArray} {F : Int × ByteArray × List ((Int × Int) × Int)} (h : abW w m = false) : fiB w m F = true := by simp [fiB, h]
/-- The boxes: a wish, a fate. -/
structure GBox (w W : World) (k : Int) (f t : ByteArray) (v : Int) (a : Int) (b : ByteArray) (c : Value) : Prop where
  below : Below w.heap.size w W
  x : WiBox W w.heap.size k f t v
  y0 : W.cell? ⟨w.heap.size + 1, 0, none⟩ = some (.int .i64 a)
  y1 : W.cell? ⟨w.heap.size + 1, 1, none⟩ = some (.string b)
  y2 : W.cell? ⟨w.heap.size + 1, 2, none⟩ = some c
theorem GBox.later {w W W' : World} {k : Int} {f t : ByteArray} {v : Int} {a : Int} {b : ByteArray} {c : Value} (h : GBox w W k f t v a b c) (hb : Below W.heap.size W W') : GBox w W' k f t v a b c :=
  ⟨h.below.trans (hb.mono h.below.size), h.x.later hb, cell_later hb h.y0, cell_later hb h.y1, cell_later hb h.y2⟩

end Go.Proofs.Ytmpjoepfgfbjmaa
/- Which wish is broken first, host by host and header by header, as the program looks for it: plain lists. No program in it. -/
namespace Go.Proofs.Ytmpjoepfgfbjmaa
open Go.RowKit
set_option linter.unusedVariables false
set_option linter.unusedSimpArgs false

abbrev Ft := Int × ByteArray × List ((Int × Int) × Int)
theorem ixG_cases {α : Type} (f : α → Bool) (L : List α) : (ixG f L = -1 ∧ L.any f = false) ∨ ∃ k : Nat, ∃ h : k < L.length, ixG f L = (k : Int) ∧ f L[k] = true ∧ ∀ j, (hj : j < k) → f (L[j]'(by omega)) = false := by
  cases e : L.any f with
  | false => exact .inl ⟨ixG_no e, rfl⟩
  | true =>
    have hx : L.findIdx f < L.length := by
      rw [List.any_eq_true] at e
      obtain ⟨x, hx, hf⟩ := e
      exact List.findIdx_lt_length_of_exists ⟨x, hx, hf⟩
    refine .inr ⟨L.findIdx f, hx, by simp [ixG, e], List.findIdx_getElem, fun j hj => ?_⟩
    have := List.not_of_lt_findIdx hj
    simpa using this
/-- How many wishes hold behind one more fate. -/
def hwS (l : List Wi) (m : ByteArray) (F : Ft) (n : Nat) : Nat :=
  if ixG (fun w => !fiB w m F) (l.take n) < 0 then n else (ixG (fun w => !fiB w m F) (l.take n)).toNat
/-- How many hold behind the first k fates. -/
def hwTo (l : List Wi) (m : ByteArray) (L : List Ft) : Nat → Nat
  | 0 => l.length
  | k + 1 => hwS l m (L.getD k (0, ByteArray.empty, [])) (hwTo l m L k)
def hwN (l : List Wi) (m : ByteArray) (L : List Ft) : Nat := hwTo l m L L.length
section
variable {l : List Wi} {m : ByteArray}
theorem hwS_le (F : Ft) (n : Nat) : hwS l m F n ≤ n := by
  unfold hwS
  split
  · omega
  · next h =>
    rcases ixG_cases (fun w => !fiB w m F) (l.take n) with ⟨e, _⟩ | ⟨k, hk, e, _⟩
    · omega
    · rw [e]
      rw [List.length_take] at hk
      simp
      omega
theorem hwS_lt {F : Ft} {n i : Nat} (hn : n ≤ l.length) (hi : i < hwS l m F n) : fiB (l.getD i zeW) m F = true := by
  have hin : i < n := Nat.lt_of_lt_of_le hi (hwS_le F n)
  have hil : i < l.length := by omega
  rw [getW hil]
  unfold hwS at hi
  rcases ixG_cases (fun w => !fiB w m F) (l.take n) with ⟨e, h⟩ | ⟨k, hk, e, _, h⟩
  · rw [List.any_eq_false] at h
    have := h l[i] (List.mem_take_iff_getElem.2 ⟨i, by omega, rfl⟩)
    simpa using this
  · rw [e, if_neg (by omega)] at hi
    have := h i (by simpa using hi)
    simpa using this
theorem hwS_at {F : Ft} {n : Nat} (hn : n ≤ l.length) (h0 : hwS l m F n < n) : fiB (l.getD (hwS l m F n) zeW) m F = false := by
  have hil : hwS l m F n < l.length := by omega
  rw [getW hil]
  rcases ixG_cases (fun w => !fiB w m F) (l.take n) with ⟨e, h⟩ | ⟨k, hk, e, h, _⟩
  · have e1 : hwS l m F n = n := by rw [hwS, e, if_pos (by omega)]
    omega
  · have e1 : hwS l m F n = k := by
      rw [hwS, e, if_neg (by omega)]
      simp
    simp only [e1]
    simpa using h
theorem hwTo_le (L : List Ft) : ∀ k, hwTo l m L k ≤ l.length
  | 0 => Nat.le_refl _
  | k + 1 => Nat.le_trans (hwS_le _ _) (hwTo_le L k)
theorem hwTo_mono (L : List Ft) (k : Nat) : hwTo l m L (k + 1) ≤ hwTo l m L k := hwS_le _ _
theorem hwTo_zero {L : List Ft} {k : Nat} (h : hwTo l m L k = 0) : ∀ {n : Nat}, k ≤ n → hwTo l m L n = 0
  | 0, hn => by
    obtain rfl : k = 0 := by omega
    exact h
  | n + 1, hn => by
    by_cases e : k = n + 1
    · subst e; exact h
    · have := hwTo_zero h (show k ≤ n by omega)
      have h2 := hwTo_mono (l := l) (m := m) L n
      omega
theorem hwTo_lt {L : List Ft} : ∀ {k i : Nat}, i < hwTo l m L k → ∀ j, j < k → fiB (l.getD i zeW) m (L.getD j (0, ByteArray.empty, [])) = true
  | 0, i, _, j, hj => by omega
  | k + 1, i, hi, j, hj => by
    by_cases e : j = k
    · subst e
      exact hwS_lt (hwTo_le L _) hi
    · exact hwTo_lt (Nat.lt_of_lt_of_le hi (hwTo_mono L k)) j (by omega)
theorem hwTo_at {L : List Ft} : ∀ {k : Nat}, hwTo l m L k < l.length → ∃ j, j < k ∧ fiB (l.getD (hwTo l m L k) zeW) m (L.getD j (0, ByteArray.empty, [])) = false
  | 0, h => by
    have : hwTo l m L 0 = l.length := rfl
    omega
  | k + 1, h => by
    by_cases e : hwTo l m L (k + 1) < hwTo l m L k
    · exact ⟨k, by omega, hwS_at (hwTo_le L k) e⟩
    · have e2 : hwTo l m L (k + 1) = hwTo l m L k := by
        have := hwTo_mono (l := l) (m := m) L k
        omega
      rw [e2] at h ⊢
      obtain ⟨j, hj, hb⟩ := hwTo_at h
      exact ⟨j, by omega, hb⟩
/-- Does one of these break a wish? -/
def badF (w : Wi) (m : ByteArray) (L : List Ft) : Bool := L.any fun F => !fiB w m F
theorem hwN_lt {L : List Ft} {i : Nat} (h : i < hwN l m L) : badF (l.getD i zeW) m L = false := by
  unfold badF
  rw [List.any_eq_false]
  intro F hF
  obtain ⟨j, hj, rfl⟩ := List.getElem_of_mem hF
  have := hwTo_lt h j hj
  rw [show L.getD j (0, ByteArray.empty, []) = L[j] by simp [List.getD, hj]] at this
  rw [this]
  decide
theorem hwN_at {L : List Ft} (h : hwN l m L < l.length) : badF (l.getD (hwN l m L) zeW) m L = true := by
  obtain ⟨j, hj, hb⟩ := hwTo_at h
  unfold badF
  rw [List.any_eq_true]
  refine ⟨L[j], List.getElem_mem hj, ?_⟩
  rw [show L.getD j (0, ByteArray.empty, []) = L[j] by simp [List.getD, hj]] at hb
  rw [hwN, hb]
  rfl
theorem hwN_le (L : List Ft) : hwN l m L ≤ l.length := hwTo_le L _
end
theorem take_getW {l : List Wi} {n i : Nat} (hi : i < n) : (l.take n).getD i zeW = l.getD i zeW := by
  simp [List.getD, List.getElem?_take, hi]

/-- What is so behind the first z hosts, and h headers of the next one: so many wishes hold still; the next one is broken by what is told. -/
structure Fb (l : List Wi) (Hs : List (ByteArray × (Int × Int))) (Fs : Nat → Nat → List Ft) (z h : Nat) (held : Nat) (p : Int × ByteArray × Int) : Prop where
  le : held ≤ l.length
  ok : ∀ i, i < held → ∀ z' h', h' < 16 → (z' < z ∨ z' = z ∧ h' < h) → badF (l.getD i zeW) (Hs.getD z' zeO).1 (Fs z' h') = false
  no : held = l.length → p = (0, ByteArray.empty, 0)
  tell : held < l.length → ∃ z₁ h₁, h₁ < 16 ∧ (z₁ < z ∨ z₁ = z ∧ h₁ < h) ∧ z₁ < Hs.length ∧ p = ((held : Int), (Hs.getD z₁ zeO).1, (h₁ : Int)) ∧ badF (l.getD held zeW) (Hs.getD z₁ zeO).1 (Fs z₁ h₁) = true ∧ ∀ z' h', h' < 16 → (z' < z₁ ∨ z' = z₁ ∧ h' < h₁) → badF (l.getD held zeW) (Hs.getD z' zeO).1 (Fs z' h') = false
section
variable {l : List Wi} {Hs : List (ByteArray × (Int × Int))} {Fs : Nat → Nat → List Ft}
theorem fb_0 : Fb l Hs Fs 0 0 l.length (0, ByteArray.empty, 0) := ⟨Nat.le_refl _, fun _ _ z' h' _ h => by omega, fun _ => rfl, fun h => absurd h (Nat.lt_irrefl _)⟩
theorem Fb.host {z held : Nat} {p : Int × ByteArray × Int} (f : Fb l Hs Fs z 16 held p) : Fb l Hs Fs (z + 1) 0 held p :=
  ⟨f.le, fun i hi z' h' h16 h => f.ok i hi z' h' h16 (by omega), f.no, fun h => by
    obtain ⟨z₁, h₁, a, b, c⟩ := f.tell h
    exact ⟨z₁, h₁, a, by omega, c⟩⟩
/-- One more header, of which nothing is broken. -/
theorem Fb.same {z h held : Nat} {p : Int × ByteArray × Int} (f : Fb l Hs Fs z h held p) (hn : ¬ hwN (l.take held) (Hs.getD z zeO).1 (Fs z h) < held) : Fb l Hs Fs z (h + 1) held p := by
  have hlen : (l.take held).length = held := by rw [List.length_take]; have := f.le; omega
  have he : hwN (l.take held) (Hs.getD z zeO).1 (Fs z h) = held := by
    have := hwN_le (l := l.take held) (m := (Hs.getD z zeO).1) (Fs z h)
    omega
  refine ⟨f.le, fun i hi z' h' h16 hh => ?_, f.no, fun hl => ?_⟩
  · by_cases e : z' = z ∧ h' = h
    · obtain ⟨rfl, rfl⟩ := e
      have := hwN_lt (l := l.take held) (m := (Hs.getD z' zeO).1) (L := Fs z' h') (i := i) (by rw [he]; exact hi)
      rwa [take_getW hi] at this
    · exact f.ok i hi z' h' h16 (by omega)
  · obtain ⟨z₁, h₁, a, b, c⟩ := f.tell hl
    exact ⟨z₁, h₁, a, by omega, c⟩
/-- One more header, of which something is broken. -/
theorem Fb.less {z h held n : Nat} {p : Int × ByteArray × Int} (f : Fb l Hs Fs z h held p) (h16 : h < 16) (hz : z < Hs.length) (hn : hwN (l.take held) (Hs.getD z zeO).1 (Fs z h) = n) (hlt : n < held) : Fb l Hs Fs z (h + 1) n ((n : Int), (Hs.getD z zeO).1, (h : Int)) := by
  have hle := f.le
  have hlen : (l.take held).length = held := by rw [List.length_take]; omega
  have hb : badF (l.getD n zeW) (Hs.getD z zeO).1 (Fs z h) = true := by
    have := hwN_at (l := l.take held) (m := (Hs.getD z zeO).1) (L := Fs z h) (by rw [hn, hlen]; exact hlt)
    rwa [hn, take_getW hlt] at this
  refine ⟨by omega, fun i hi z' h' h16' hh => ?_, fun e => by omega, fun _ => ⟨z, h, h16, by omega, hz, rfl, hb, fun z' h' h16' hh => f.ok n hlt z' h' h16' hh⟩⟩
  by_cases e : z' = z ∧ h' = h
  · obtain ⟨rfl, rfl⟩ := e
    have := hwN_lt (l := l.take held) (m := (Hs.getD z' zeO).1) (L := Fs z' h') (i := i) (by rw [hn]; exact hi)
    rwa [take_getW (by omega)] at this
  · exact f.ok i (by omega) z' h' h16' (by omega)
/-- Where no wish is about the host nothing is broken. -/
theorem bad_off {w : Wi} {m : ByteArray} (h : abW w m = false) (L : List Ft) : badF w m L = false := by
  unfold badF
  rw [List.any_eq_false]
  intro F _
  simp [fiB, h]
theorem Fb.off {z h held : Nat} {p : Int × ByteArray × Int} (f : Fb l Hs Fs z h held p) (ho : (l.take held).any (fun w => abW w (Hs.getD z zeO).1) = false) : Fb l Hs Fs (z + 1) 0 held p := by
  refine ⟨f.le, fun i hi z' h' h16 hh => ?_, f.no, fun hl => ?_⟩
  · by_cases e : z' = z
    · subst e
      refine bad_off ?_ _
      rw [List.any_eq_false] at ho
      have hil : i < l.length := by have := f.le; omega
      have := ho l[i] (List.mem_take_iff_getElem.2 ⟨i, by omega, rfl⟩)
      rw [getW hil]
      simpa using this
    · exact f.ok i hi z' h' h16 (by omega)
  · obtain ⟨z₁, h₁, a, b, c⟩ := f.tell hl
    exact ⟨z₁, h₁, a, by omega, c⟩
end

section
variable {Ls : List ((Int × Int) × (Int × Int))} {Hs : List (ByteArray × (Int × Int))} {Ts : List (List Ru)} {Xs : List (ByteArray × (Int × Int))} {l : List Wi}
theorem brH_neg {w : Wi} {x : ByteArray × (Int × Int)} : ∀ {k : Nat}, (∀ j, j < k → brB Ls Hs Ts w x (j : Int) = false) → brH Ls Hs Ts w x k < 0
  | 0, _ => by simp [brH]
  | k + 1, h => brH_no (brH_neg (fun j hj => h j (by omega))) (h k (by omega))
theorem brX_neg {w : Wi} : ∀ {k : Nat}, (∀ j, j < k → ∀ h : Nat, h < 16 → brB Ls Hs Ts w (Xs.getD j zeO) (h : Int) = false) → brX Ls Hs Ts w Xs k = none
  | 0, _ => rfl
  | k + 1, h => by
    rw [brX, brX_neg (fun j hj => h j (by omega))]
    simp only
    rw [if_neg]
    have := brH_neg (Ls := Ls) (Hs := Hs) (Ts := Ts) (w := w) (x := Xs.getD k zeO) (k := 16) (fun j hj => h k (by omega) j hj)
    omega
theorem brW_neg : ∀ {k : Nat}, (∀ i, i < k → ∀ j, j < Xs.length → ∀ h : Nat, h < 16 → brB Ls Hs Ts (l.getD i zeW) (Xs.getD j zeO) (h : Int) = false) → brW Ls Hs Ts l Xs k = none
  | 0, _ => rfl
  | k + 1, h => by
    rw [brW, brW_neg (fun i hi => h i (by omega))]
    simp only
    rw [brX_neg (h k (by omega))]
/-- What the program finds is what the document asks. -/
theorem fb_br {held : Nat} {p : Int × ByteArray × Int} (f : Fb l Hs (fun z h => [frF Ls Hs Ts (Hs.getD z zeO).2 (h : Int)]) Hs.length 0 held p) : (brW Ls Hs Ts l Hs l.length).isSome = decide (held < l.length) ∧ prV Hs (brW Ls Hs Ts l Hs l.length) = p := by
  have hb : ∀ w z (h : Nat), badF w (Hs.getD z zeO).1 [frF Ls Hs Ts (Hs.getD z zeO).2 (h : Int)] = brB Ls Hs Ts w (Hs.getD z zeO) (h : Int) := fun w z h => by simp [badF, brB]
  by_cases hl : held < l.length
  · obtain ⟨z, h, h16, hzh, hz, rfl, hbad, hno⟩ := f.tell hl
    have e1 : brH Ls Hs Ts l[held] Hs[z] 16 = (h : Int) := by
      refine brH_yes h16 (brH_neg fun j hj => ?_) ?_
      · have := hno z j (by omega) (.inr ⟨rfl, hj⟩)
        rw [hb, getW hl, getO hz] at this
        exact this
      · rw [hb, getW hl, getO hz] at hbad
        exact hbad
    have e2 : brX Ls Hs Ts l[held] Hs Hs.length = some (z, (h : Int)) := by
      rw [brX_yes hz (brX_neg fun j hj h' hh' => ?_) (by rw [e1]; omega), e1]
      have := hno j h' hh' (.inl hj)
      rw [hb, getW hl] at this
      exact this
    have e3 := brW_yes hl (brW_neg (Ls := Ls) (Hs := Hs) (Ts := Ts) (Xs := Hs) fun i hi j hj h' hh' => by
      have := f.ok i hi j h' hh' (.inl hj)
      rw [hb] at this
      exact this) e2
    rw [e3]
    exact ⟨by simp [hl], rfl⟩
  · have he : held = l.length := by have := f.le; omega
    have e3 : brW Ls Hs Ts l Hs l.length = none := brW_neg fun i hi j hj h' hh' => by
      have := f.ok i (by omega) j h' hh' (.inl hj)
      rw [hb] at this
      exact this
    rw [e3, f.no he]
    exact ⟨by simp [hl], rfl⟩
end
end Go.Proofs.Ytmpjoepfgfbjmaa
/- What package slices answers at slices of api.Wish. Written by mk/slices.py. -/
namespace Go.Proofs.Ytmpjoepfgfbjmaa
open Go.RowKit
set_option linter.unusedSimpArgs false
set_option linter.unusedVariables false

/-- A closure that asks something, in whatever world behind this one. -/
def wi2Asks (w : World) (f : FuncId) (c0 c1 : Value) (P : Wi → Bool) : Prop :=
  ∀ (x0 : Int) (x1 : ByteArray) (x2 : ByteArray) (x3 : Int) (W : World), Below w.heap.size w W → Calls Try.prog f #[.agg #[.int .i64 x0, .string x1, .string x2, .int .i64 x3], c0, c1] W fun e w' => e = .returned (.bool (P ⟨x0, x1, x2, x3⟩)) ∧ Below W.heap.size W w'
theorem wi2Asks.later {w w' : World} {f : FuncId} {c0 c1 : Value} {P : Wi → Bool} (h : wi2Asks w f c0 c1 P) (hb : Below w.heap.size w w') : wi2Asks w' f c0 c1 P :=
  fun x0 x1 x2 x3 W hW => h x0 x1 x2 x3 W (hb.trans (hW.mono hb.size))

end Go.Proofs.Ytmpjoepfgfbjmaa
/- A range over a function whose iterator has memory of its own, at the wide fence. No program in it. -/
namespace Go.Proofs.Ytmpjoepfgfbjmaa
open Go.RowKit Go.Shelf
set_option linter.unusedVariables false

/-- Of the blocks that were there, these are as they were. -/
structure Kb (p : Nat → Prop) (w w' : World) : Prop where
  os : w'.os = w.os
  tape : w'.tape = w.tape
  output : w'.output = w.output
  size : w.heap.size ≤ w'.heap.size
  block : ∀ k, k < w.heap.size → p k → w'.heap[k]? = w.heap[k]?
theorem Kb.refl (p : Nat → Prop) (w : World) : Kb p w w := ⟨rfl, rfl, rfl, Nat.le_refl _, fun _ _ _ => rfl⟩
theorem Kb.trans {p : Nat → Prop} {a b c : World} (h : Kb p a b) (k : Kb p b c) : Kb p a c :=
  ⟨k.os.trans h.os, k.tape.trans h.tape, k.output.trans h.output, Nat.le_trans h.size k.size, fun i hi hx => (k.block i (Nat.lt_of_lt_of_le hi h.size) hx).trans (h.block i hi hx)⟩
theorem Kb.mono {p q : Nat → Prop} {w w' : World} (h : Kb p w w') (hq : ∀ b, b < w.heap.size → q b → p b) : Kb q w w' := ⟨h.os, h.tape, h.output, h.size, fun k hk hx => h.block k hk (hq k hk hx)⟩
theorem Kb.of_below {p : Nat → Prop} {n₀ : Nat} {w w' : World} (h : Below n₀ w w') (hp : ∀ b, b < w.heap.size → p b → b < n₀) : Kb p w w' := ⟨h.os, h.tape, h.output, h.size, fun k hk hx => h.block k (hp k hk hx)⟩
theorem Kb.below {p : Nat → Prop} {n₀ : Nat} {w w' : World} (h : Kb p w w') (hn : n₀ ≤ w.heap.size) (hp : ∀ b, b < n₀ → p b) : Below n₀ w w' := ⟨h.os, h.tape, h.output, h.size, fun k hk => h.block k (by omega) (hp k hk)⟩
theorem Kb.drew {p : Nat → Prop} {a w : World} (h : Kb p a w) : Kb p a w.drew := ⟨h.os, h.tape, h.output, h.size, h.block⟩
theorem Kb.alloc {p : Nat → Prop} {a w : World} (h : Kb p a w) (o : Obj) : Kb p a (w.alloc o) :=
  h.trans (Kb.of_below ((Below.refl w.heap.size w).alloc (Nat.le_refl _) o) (fun b hb _ => hb))
theorem Kb.setCell {p : Nat → Prop} {a w : World} (h : Kb p a w) {q : Addr} (hq : q.block < a.heap.size → ¬ p q.block) (v : Value) : Kb p a (w.setCell q v) := by
  refine ⟨h.os, h.tape, h.output, ?_, fun k hk hx => (Below.heap_setCell w q v k ?_).trans (h.block k hk hx)⟩
  · show a.heap.size ≤ (w.heap.modify _ _).size
    rw [Array.size_modify]
    exact h.size
  · intro e
    subst e
    exact hq hk hx
theorem Kb.putObj {p : Nat → Prop} {a w : World} (h : Kb p a w) {l : Nat} (hl : l < a.heap.size → ¬ p l) (o : Obj) : Kb p a (w.putObj l o) := by
  have hg := grownBy_putObj' w l o
  refine ⟨hg.os.trans h.os, hg.tape.trans h.tape, hg.output.trans h.output, Nat.le_trans h.size hg.size, fun k hk hx => (hg.block k (Nat.lt_of_lt_of_le hk h.size) (fun e => ?_)).trans (h.block k hk hx)⟩
  cases e
  exact hl hk hx
theorem Kb.grown {p : Nat → Prop} {a w w' : World} {row : Option Nat} (h : Kb p a w) (hg : w.grownBy w' row) (hr : ∀ r, row = some r → r < a.heap.size → ¬ p r) : Kb p a w' :=
  ⟨hg.os.trans h.os, hg.tape.trans h.tape, hg.output.trans h.output, Nat.le_trans h.size hg.size, fun k hk hx => (hg.block k (Nat.lt_of_lt_of_le hk h.size) (fun e => hr k e.symm hk hx)).trans (h.block k hk hx)⟩
theorem Kb.cell {p : Nat → Prop} {w w' : World} (h : Kb p w w') {q : Addr} (hl : q.block < w.heap.size) (hp : p q.block) : w'.cell? q = w.cell? q := World.cell?_of_block (w := w) (h.block q.block hl hp)
theorem Kb.at {p : Nat → Prop} {w w' : World} (h : Kb p w w') {q : Addr} {v : Value} (hc : w.cell? q = some v) (hp : p q.block) : w'.cell? q = some v := (h.cell (World.block_lt_of_cell? _ _ hc) hp).trans hc
theorem Kb.frozen {p : Nat → Prop} {w w' : World} (h : Kb p w w') {q : Addr} (hl : q.block < w.heap.size) (hp : p q.block) : w'.frozen? q = w.frozen? q := by
  simp only [World.frozen?, h.block q.block hl hp]
theorem Kb.boxed {p : Nat → Prop} {w w' : World} (h : Kb p w w') {b : Nat} {t : TypeId} {v : Value} (hb : Boxed w b t v) (hp : p b) : Boxed w' b t v := (h.block b hb.lt hp).trans hb

theorem room_none (k : Nat) : Fence.wide.room k := room_wide k
theorem round_any {m m' : Nat} {P : Program} {l : Nat} {f : FuncId} {tmps : Array Value} {assign body : Code} {w : World} {R : Ending → World → Prop} (h : RoundIn Fence.wide m P l f tmps assign body w R) : RoundIn Fence.wide m' P l f tmps assign body w R := ⟨h.1, fun c cs _ => h.2 c cs (room_none _)⟩
theorem yield_any {m m' : Nat} {P : Program} {l : Nat} {args : Array Value} {W : World} {R : Ending → World → Prop} (h : YieldAt Fence.wide m P l args W R) : YieldAt Fence.wide m' P l args W R := by
  obtain ⟨fn, tmps, assign, body, hy, hR⟩ := h
  exact ⟨fn, tmps, assign, body, hy, round_any hR⟩

/-- What an iterator value promises: these come, one by one, from whatever world that has what lay below n₀. X: what the caller has of its own, of blocks laid since; Y: what the iterator has. -/
def ItF {α : Type} (P : Program) (g : Nat) (lb : Array Value) (Vl : World → Array Value → α → Prop) (n₀ : Nat) (L : List α) (w : World) : Prop :=
  ∀ (l : Nat) (J : Nat → (Nat → Prop) → World → Prop) (Jx : World → Prop) (W : World), Below n₀ w W → n₀ ≤ W.heap.size →
    J 0 (fun _ => False) W →
    (∀ k X A, J k X A → ∀ b, X b → b < A.heap.size) →
    (∀ k X A A', J k X A → Kb (fun b => b < W.heap.size ∨ X b) A A' → J k X A') →
    (∀ A A', Jx A → Kb (fun _ => True) A A' → Jx A') →
    (∀ k X A args x (Y : Nat → Prop), J k X A → L[k]? = some x → Vl A args x → W.heap.size ≤ A.heap.size → (∀ b, Y b → W.heap.size ≤ b ∧ ¬ X b) → YieldAt Fence.wide 0 P l args A fun e A' =>
      (e = .returned (.bool true) ∧ (∃ X', J (k + 1) X' A' ∧ ∀ b, X' b → X b ∨ A.heap.size ≤ b) ∧ Kb (fun b => b < n₀ ∨ Y b) A A') ∨ (e = .returned (.bool false) ∧ Jx A' ∧ Kb (fun b => b < n₀ ∨ Y b) A A')) →
    Calls P g (#[.func (.yield l) #[] #[]] ++ lb) W fun e W' => (∃ v, e = .returned v) ∧ ((∃ X, J L.length X W') ∨ Jx W')
theorem ItF.later {α : Type} {P : Program} {g : Nat} {lb : Array Value} {Vl : World → Array Value → α → Prop} {n₀ : Nat} {L : List α} {w w' : World} (h : ItF P g lb Vl n₀ L w) (hb : Below n₀ w w') : ItF P g lb Vl n₀ L w' :=
  fun l J Jx W hW hn h1 h2 h3 h4 h5 => h l J Jx W (hb.trans hW) hn h1 h2 h3 h4 h5

/-- How the body of a round may be left. -/
def itPost (p : Nat → Prop) (I : World → Prop) (Ix : Code → World → Prop) (W : World) : Exit → Act → World → Prop
  | .normal, _, W' => Kb p W W' ∧ I W'
  | .ret, _, W' => Kb p W W' ∧ Ix .ret W'
  | .exit id, _, W' => Kb p W W' ∧ Ix (.exit id) W'
  | .goto t, _, W' => Kb p W W' ∧ Ix (.goto t) W'
  | .panic _, _, _ => False
  | .outgrown, _, _ => False

set_option maxHeartbeats 1000000 in
theorem wpIn_rangeFunc_it {P : Program} {n : Nat} {α : Type} {g : Operand} {ps : Array Tmp} {assign body : Code} {Q : Exit → Act → World → Prop} {a : Act} {w : World}
    (h1 : 1 ≤ n) {gf : Nat} {lb : Array Value} (hg : a.eval g = .func (.func gf) #[] lb) (eg : ∀ args w, (callFunc gf args).run P w = .ok (.enter gf args) w)
    {Vl : World → Array Value → α → Prop} {n₀ : Nat} {L : List α} {w0 : World} (hseq : ItF P gf lb Vl n₀ L w0) (hb0 : Below n₀ w0 w) (hn₀ : n₀ ≤ w.heap.size) (hps : ∀ A args x, Vl A args x → args.size = ps.size)
    (I : Nat → (Nat → Prop) → World → Prop) (Ix : Code → World → Prop)
    (hlt : ∀ k X A, I k X A → ∀ b, X b → w.heap.size + 2 ≤ b ∧ b < A.heap.size)
    (hI : ∀ k X A A', I k X A → Kb (fun b => b < w.heap.size ∨ X b) A A' → I k X A')
    (hIx : ∀ c A A', Ix c A → Kb (fun b => b < w.heap.size ∨ w.heap.size + 2 ≤ b) A A' → Ix c A')
    (h0 : I 0 (fun _ => False) w)
    (hround : ∀ (l k : Nat) (X Y : Nat → Prop) (x : α) (args : Array Value) (W : World), l = w.heap.size + 1 → w.heap.size + 2 ≤ W.heap.size → I k X W → L[k]? = some x → Vl W args x → (∀ b, Y b → w.heap.size + 2 ≤ b ∧ ¬ X b) → (∀ q : Addr, q.block = l → W.cell? q = none) →
      assign.wpIn (Fence.wide.inRound l) (n - 1 - 1) P (Exit.then (fun a' Wa => Kb (fun b => b < n₀ ∨ b = w.heap.size ∨ b = l ∨ Y b) W Wa ∧ ∀ W2, Kb (fun b => b ≠ l) Wa W2 → body.wpIn (Fence.wide.inRound l) (n - 1 - 1) P (itPost (fun b => b < n₀ ∨ b = w.heap.size ∨ b = l ∨ Y b) (fun W' => ∃ X', I (k + 1) X' W' ∧ ∀ b, X' b → X b ∨ W.heap.size ≤ b) Ix W2) a' W2) (fun _ _ _ => False)) { tmps := (ps.zip args).foldl (fun t (p, v) => t.setIfInBounds p v) a.tmps, defers := [] } W)
    (hdone : ∀ (X : Nat → Prop) (W : World), I L.length X W → W.heap[w.heap.size]? = some (.deferred (some [])) → Q .normal { a with defers := { target := .collected w.heap.size, args := #[] } :: a.defers } W)
    (hstop : ∀ (c : Code) (W : World), Ix c W → W.heap[w.heap.size]? = some (.deferred (some [])) → c.wpIn Fence.wide n P Q { a with defers := { target := .collected w.heap.size, args := #[] } :: a.defers } W) :
    (Code.rangeFunc g ps assign body).wpIn Fence.wide n P Q a w := by
  refine wpIn_rangeFunc ?_
  intro fn hfn
  rw [show Fence.wide.round = none from rfl]
  obtain ⟨rec, hrec⟩ : ∃ rec : LoopState → Option Code → Loop, rec = fun st pe => { state := st, pending := pe, fn, tmps := a.tmps, params := ps, assign, body, defers := w.heap.size } := ⟨_, rfl⟩
  obtain ⟨W1, hW1⟩ : ∃ W1, (w.alloc (.deferred (some []))).alloc (.loop (rec .ready none)) = W1 := ⟨_, rfl⟩
  have hL1 : W1.heap[w.heap.size + 1]? = some (.loop (rec .ready none)) := by
    rw [← hW1]; have := World.alloc_heap_new (w.alloc (.deferred (some []))) (.loop (rec .ready none)); rwa [World.size_alloc] at this
  have hK1 : W1.heap[w.heap.size]? = some (.deferred (some [])) := by
    rw [← hW1]; exact (Below.heap_alloc _ _ _ (by simp)).trans (World.alloc_heap_new w _)
  have hS1 : W1.heap.size = w.heap.size + 2 := by rw [← hW1]; simp
  have hB1 : Below w.heap.size w W1 := by
    rw [← hW1]; exact ((Below.refl _ w).alloc (Nat.le_refl _) _).alloc (by simp) _
  have hb1 : Below n₀ w0 W1 := hb0.trans (hB1.mono hn₀)
  refine ⟨w.heap.size + 1, [{ target := .collected w.heap.size, args := #[] }], W1, { target := .fn (.func gf) lb, args := #[.func (.yield (w.heap.size + 1)) #[] #[]] }, W1, gf,
    #[.func (.yield (w.heap.size + 1)) #[] #[]] ++ lb, W1, ?_, ?_, ?_, ?_, fun _ => h1, ?_⟩
  · rw [← hW1, hrec]; exact run_enterLoop_outer _ _ _ _ _
  · simp only [resolve, hg]
    simp [go_sem]
  · intro f' hf'; trivial
  · simp [invoke, go_sem, eg]
  · have hI1 : ∀ {k : Nat} {X : Nat → Prop} {A : World} (o : Obj), I k X A → I k X (A.putObj (w.heap.size + 1) o) := fun o h => hI _ _ _ _ h ((Kb.refl _ _).putObj (fun _ hp => hp.elim (fun h => by omega) (fun hx => by have := (hlt _ _ _ h _ hx).1; omega)) o)
    refine (callsIn_wide.2 (hseq (w.heap.size + 1)
      (fun k X W => I k X W ∧ W.heap[w.heap.size + 1]? = some (.loop (rec .ready none)) ∧ W.heap[w.heap.size]? = some (.deferred (some [])))
      (fun W => ∃ c, Ix c W ∧ W.heap[w.heap.size + 1]? = some (.loop (rec .done (some c))) ∧ W.heap[w.heap.size]? = some (.deferred (some [])))
      W1 hb1 (by omega) ?_ ?_ ?_ ?_ ?_)).mono ?_
    · exact ⟨hI _ _ _ _ h0 (Kb.of_below hB1 (fun b _ h => h.elim id False.elim)), hL1, hK1⟩
    · exact fun k X A h b hx => (hlt _ _ _ h.1 b hx).2
    · rintro k X A A' ⟨hi, hl, hd⟩ hk
      rw [hS1] at hk
      have hlt' : w.heap.size + 1 < A.heap.size := (Array.getElem?_eq_some_iff.1 hl).1
      exact ⟨hI k X A A' hi (hk.mono (fun b _ h => h.imp (fun h => by omega) id)), (hk.block _ hlt' (.inl (by omega))).trans hl, (hk.block _ (by omega) (.inl (by omega))).trans hd⟩
    · rintro A A' ⟨c, hi, hl, hd⟩ hk
      have hlt' : w.heap.size + 1 < A.heap.size := (Array.getElem?_eq_some_iff.1 hl).1
      exact ⟨c, hIx c A A' hi (hk.mono (fun _ _ _ => trivial)), (hk.block _ hlt' trivial).trans hl, (hk.block _ (by omega) trivial).trans hd⟩
    · rintro k X W args x Y ⟨hi, hl, hd⟩ hx hv hWW hY
      rw [hS1] at hY hWW
      have hlt' : w.heap.size + 1 < W.heap.size := (Array.getElem?_eq_some_iff.1 hl).1
      have hy := run_yield (P := P) (args := args) hl (by rw [hrec]; exact hps _ _ _ hv)
      rw [hrec] at hy
      refine yield_any (m := n - 1 - 1) ⟨fn, _, assign, body, hy, roundIn_of_wpIn hfn (wpIn_mono (hround _ k X Y x args W rfl hWW hi hx hv hY (fun q hq => by simp [World.cell?, hq, hl])) ?_)⟩
      clear hy
      intro e1 a' Wa hp
      cases e1 with
      | normal =>
        obtain ⟨hka, hbody⟩ := hp
        have hl2 := (hka.block _ hlt' (.inr (.inr (.inl rfl)))).trans hl
        have hd2 := (hka.block w.heap.size (by omega) (.inr (.inl rfl))).trans hd
        have hlta : w.heap.size + 1 < Wa.heap.size := (Array.getElem?_eq_some_iff.1 hl2).1
        refine ⟨_, run_beginRound hl2 (by rw [hrec]), ?_⟩
        have hkb : Kb (fun b => b ≠ w.heap.size + 1) Wa (Wa.putObj (w.heap.size + 1) (.loop { rec .ready none with state := .busy })) := (Kb.refl _ _).putObj (fun _ h => h rfl) _
        have hl3 : (Wa.putObj (w.heap.size + 1) (.loop { rec .ready none with state := .busy })).heap[w.heap.size + 1]? = some (.loop { rec .ready none with state := .busy }) := World.putObj_heap_same hlta
        have hd3 := (hkb.block w.heap.size (by omega) (by omega)).trans hd2
        refine wpIn_mono (hbody _ hkb) ?_
        generalize Wa.putObj (w.heap.size + 1) (.loop { rec .ready none with state := .busy }) = W2 at hkb hl3 hd3
        have hlt2 : w.heap.size + 1 < W2.heap.size := (Array.getElem?_eq_some_iff.1 hl3).1
        have fin : ∀ (jump : Option Code) (W3 : World), Kb (fun b => b < n₀ ∨ b = w.heap.size ∨ b = w.heap.size + 1 ∨ Y b) W2 W3 →
            (Instr.endRound (w.heap.size + 1) jump).run P W3 = .ok (.bool jump.isNone) (W3.putObj (w.heap.size + 1) (.loop (rec (if jump.isNone then .ready else .done) jump))) ∧
            W3.heap[w.heap.size + 1]? = some (.loop { rec .ready none with state := .busy }) ∧
            (W3.putObj (w.heap.size + 1) (.loop (rec (if jump.isNone then .ready else .done) jump))).heap[w.heap.size + 1]? = some (.loop (rec (if jump.isNone then .ready else .done) jump)) ∧
            (W3.putObj (w.heap.size + 1) (.loop (rec (if jump.isNone then .ready else .done) jump))).heap[w.heap.size]? = some (.deferred (some [])) := fun jump W3 hk3 => by
          have hl4 := (hk3.block _ hlt2 (.inr (.inr (.inl rfl)))).trans hl3
          have hd4 := (hk3.block w.heap.size (by omega) (.inr (.inl rfl))).trans hd3
          have := run_endRound (P := P) jump hl4
          rw [hrec] at this ⊢
          exact ⟨this, by rw [hrec] at hl4; exact hl4, World.putObj_heap_same (Array.getElem?_eq_some_iff.1 hl4).1, (World.putObj_heap_other (by omega)).trans hd4⟩
        rintro e a3 W3 hp
        have hny : ∀ b, b < n₀ ∨ Y b → b ≠ w.heap.size + 1 := fun b h e => h.elim (fun h => by omega) (fun h => by have := (hY b h).1; omega)
        have hall : ∀ (W3 : World) (o : Obj), Kb (fun b => b < n₀ ∨ b = w.heap.size ∨ b = w.heap.size + 1 ∨ Y b) W2 W3 → Kb (fun b => b < n₀ ∨ Y b) W (W3.putObj (w.heap.size + 1) o) := fun W3 o hk3 => (((hka.mono (fun b _ h => h.imp id (fun h => .inr (.inr h)))).trans ((hkb.mono (fun b _ h => hny b h)).trans (hk3.mono (fun b _ h => h.imp id (fun h => .inr (.inr h)))))).trans ((Kb.refl _ _).putObj (fun _ h => hny _ h rfl) _))
        cases e with
        | normal =>
          obtain ⟨hk3, X', hi3, hX'⟩ := hp
          obtain ⟨hr, hl4, hl5, hd5⟩ := fin none W3 hk3
          exact ⟨_, _, hr, .inl ⟨rfl, ⟨X', ⟨hI1 _ hi3, hl5, hd5⟩, hX'⟩, hall _ _ hk3⟩⟩
        | ret =>
          obtain ⟨hk3, hi3⟩ := hp
          obtain ⟨hr, hl4, hl5, hd5⟩ := fin (some .ret) W3 hk3
          exact ⟨_, _, hr, .inr ⟨rfl, ⟨.ret, hIx _ W3 _ hi3 ((Kb.refl _ _).putObj (fun _ h => by omega) _), hl5, hd5⟩, hall _ _ hk3⟩⟩
        | exit id =>
          obtain ⟨hk3, hi3⟩ := hp
          obtain ⟨hr, hl4, hl5, hd5⟩ := fin (some (.exit id)) W3 hk3
          exact ⟨_, _, hr, .inr ⟨rfl, ⟨.exit id, hIx _ W3 _ hi3 ((Kb.refl _ _).putObj (fun _ h => by omega) _), hl5, hd5⟩, hall _ _ hk3⟩⟩
        | goto t =>
          obtain ⟨hk3, hi3⟩ := hp
          obtain ⟨hr, hl4, hl5, hd5⟩ := fin (some (.goto t)) W3 hk3
          exact ⟨_, _, hr, .inr ⟨rfl, ⟨.goto t, hIx _ W3 _ hi3 ((Kb.refl _ _).putObj (fun _ h => by omega) _), hl5, hd5⟩, hall _ _ hk3⟩⟩
        | panic ch => exact hp.elim
        | outgrown => exact hp.elim
      | ret => exact hp.elim
      | exit id => exact hp.elim
      | goto t => exact hp.elim
      | panic ch => exact hp.elim
      | outgrown => exact hp.elim
    · rintro e W2 ⟨⟨v, rfl⟩, (⟨X, hi, hl, hd⟩ | ⟨c, hi, hl, hd⟩)⟩
      · refine ⟨none, _, by have := run_endLoop (P := P) hl (by rw [hrec]; simp); rw [hrec] at this; exact this, ?_⟩
        exact hdone X _ (hI1 _ hi) ((World.putObj_heap_other (by omega)).trans hd)
      · refine ⟨some c, _, by have := run_endLoop (P := P) hl (by rw [hrec]; simp); rw [hrec] at this; exact this, ?_⟩
        exact hstop c _ (hIx c W2 _ hi ((Kb.refl _ _).putObj (fun _ h => by omega) _)) ((World.putObj_heap_other (by omega)).trans hd)
end Go.Proofs.Ytmpjoepfgfbjmaa
/- Parts of slices, whoever made them. No program in it. -/
namespace Go.Proofs.Ytmpjoepfgfbjmaa
open Go.RowKit
set_option linter.unusedVariables false

/-- One part of a slice. -/
theorem GS.take {α : Type} {E : Enc α} {W : World} {ao : Option Addr} {n cap c : Nat} {L : List α} (h : GS E W (.slice ao n cap) L) (hc : c ≤ n) : GS E W (.slice ao c cap) (L.take c) := by
  rcases h with ⟨ao', cap', e, rfl⟩ | ⟨g, o, cap', e, h1, h2, h3⟩
  · simp only [Value.slice.injEq] at e
    obtain ⟨rfl, rfl, rfl⟩ := e
    obtain rfl : c = 0 := by omega
    exact .inl ⟨_, _, rfl, by simp⟩
  · simp only [Value.slice.injEq] at e
    obtain ⟨rfl, rfl, rfl⟩ := e
    have e1 : (L.take c).length = c := by rw [List.length_take]; omega
    exact .inr ⟨g, o, cap, by rw [e1], by rw [e1]; omega, h2, h3.take c⟩
theorem GS.drop {α : Type} {E : Enc α} {W : World} {g o n cap c : Nat} {L : List α} (h : GS E W (.slice (some ⟨g, o, none⟩) n cap) L) (hc : c ≤ n) : GS E W (.slice (some ⟨g, o + c * E.n, none⟩) (n - c) (cap - c)) (L.drop c) := by
  rcases h with ⟨ao', cap', e, rfl⟩ | ⟨g', o', cap', e, h1, h2, h3⟩
  · simp only [Value.slice.injEq] at e
    obtain ⟨rfl, rfl, rfl⟩ := e
    obtain rfl : c = 0 := by omega
    exact .inl ⟨_, _, rfl, by simp⟩
  · simp only [Value.slice.injEq, Option.some.injEq, Addr.mk.injEq, and_true] at e
    obtain ⟨⟨rfl, rfl⟩, rfl, rfl⟩ := e
    have e1 : (L.drop c).length = L.length - c := List.length_drop
    exact .inr ⟨g, o + c * E.n, cap - c, by rw [e1], by rw [e1]; omega, Nat.le_trans (Nat.sub_le _ _) h2, h3.drop c⟩
end Go.Proofs.Ytmpjoepfgfbjmaa
/- What holding of package wish answers: how many wishes the fates of an iterator fit. -/
namespace Go.Proofs.Ytmpjoepfgfbjmaa
open Go.RowKit Go.Shelf
set_option linter.unusedSimpArgs false
set_option linter.unusedVariables false
attribute [local go_sem] Oper.semAt_some

/-- A fate in its box. -/
def FaBox (W : World) (g : Nat) (a : Int) (b : ByteArray) (c : Value) : Prop := W.cell? ⟨g, 0, none⟩ = some (.int .i64 a) ∧ W.cell? ⟨g, 1, none⟩ = some (.string b) ∧ W.cell? ⟨g, 2, none⟩ = some c
theorem FaBox.later {W W' : World} {g : Nat} {a : Int} {b : ByteArray} {c : Value} (h : FaBox W g a b c) (hb : Below W.heap.size W W') : FaBox W' g a b c :=
  ⟨cell_later hb h.1, cell_later hb h.2.1, cell_later hb h.2.2⟩
theorem fabox_new (w : World) (a : Int) (b : ByteArray) (c : Value) (T : TypeId) : FaBox (w.alloc (Obj.cells #[.int .i64 a, .string b, c] T)) w.heap.size a b c := by
  refine ⟨?_, ?_, ?_⟩ <;> simp
/-- A fate, as an iterator hands it on: its hops where they lie. -/
def FtV (A : World) (args : Array Value) (x : Ft) : Prop := ∃ ao n cap, args = #[.agg #[.int .i64 x.1, .string x.2.1, .slice ao n cap]] ∧ GS hopE A (.slice ao n cap) x.2.2
theorem GS.kb {α : Type} {E : Enc α} {W W' : World} {v : Value} {L : List α} {p : Nat → Prop} (h : GS E W v L) (hk : Kb p W W') (hp : ∀ q u, W.cell? q = some u → p q.block) : GS E W' v L := by
  rcases h with ⟨ao', cap', e, rfl⟩ | ⟨g, o, cap', e, h1, h2, h3⟩
  · exact .inl ⟨ao', cap', e, rfl⟩
  · exact .inr ⟨g, o, cap', e, h1, h2, fun i hi j u hu => hk.at (h3 i hi j u hu) (hp _ _ (h3 i hi j u hu))⟩

end Go.Proofs.Ytmpjoepfgfbjmaa
