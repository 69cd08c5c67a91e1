/- What RuleTells calls, each in one contract; what holds of its world. -/
import Derived.Test.YtbieljcoaocfkabGreatDoorRefReadAny
import Derived.Test.YtbieljcoaocfkabGreatDoorRefShow
import Derived.Test.YtbieljcoaocfkabGreatDoorRefTurned
import Derived.Test.YtbieljcoaocfkabGreatDoorRefTable
import Derived.Test.YtbieljcoaocfkabGreatDoorRefInts
import Derived.Test.YtbieljcoaocfkabGreatDoorRuleShad
import Derived.Test.YtbieljcoaocfkabGreatDoorAsErr2
import Derived.Test.YtbieljcoaocfkabGreatDoorSameNo
namespace Go.Proofs.YtbieljcoaocfkabGreatDoor
open Go.RowKit
set_option linter.unusedSimpArgs false

/-- A rule as text: empty where it is wrong. -/
def wtS (p m b o s v : Int) : ByteArray := if ruN p m b o s v = 0 then rsS p m b o s v else ⟨#[]⟩
theorem ok_of_n {p m b o s v : Int} (h : ruN p m b o s v = 0) : ruOk p m b o s v = true := by
  cases e : ruOk p m b o s v
  · exact absurd h (ruN_ne e)
  · rfl
theorem print_any (p m b o s v : Int) (w : World) :
    Calls Tryz.prog 8 #[.agg #[.int .i64 p, .int .i64 m, .int .i64 b, .int .i64 o, .int .i64 s, .int .i64 v]] w fun e w' => e = .returned (.tuple #[.string (wtS p m b o s v), noV (ruN p m b o s v)]) ∧ Below w.heap.size w w' := by
  by_cases h : ruN p m b o s v = 0
  · rw [no_ok h, show wtS p m b o s v = rsS p m b o s v from if_pos h]
    exact ruPrint_ok _ _ _ _ _ _ w (ok_of_n h)
  · rw [no_ne h, show wtS p m b o s v = ⟨#[]⟩ from if_neg h]
    refine ruPrint_bad _ _ _ _ _ _ w ?_
    cases e : ruOk p m b o s v
    · rfl
    · exact absurd (ruN_ok e) h
/-- What Parse answers, of all words. -/
theorem parse_all (s : ByteArray) (w : World) (hs : s.size ≤ 1048576) :
    Calls Tryz.prog 10 #[.string s] w fun e w' => e = .returned (.tuple #[paV (cutA s), noV (paN (cutA s))]) ∧ Below w.heap.size w w' := by
  obtain ⟨h1, h2⟩ := pa_cut s
  rw [← h1, ← h2]
  exact ruParse_any s w (by omega)
theorem paV_six (ws : List ByteArray) : ∃ r : Ru, paV ws = .agg #[.int .i64 r.p, .int .i64 r.m, .int .i64 r.b, .int .i64 r.o, .int .i64 r.s, .int .i64 r.v] := by
  by_cases h : paN ws = 0
  · exact ⟨⟨_, _, _, _, _, _⟩, paV_yes h⟩
  · exact ⟨⟨_, _, _, _, _, _⟩, paV_no h⟩
theorem apN_ne {p m b o s v : Int} (h : Int) (hr : ruN p m b o s v ≠ 0) : apN p m b o s v h = ruN p m b o s v := by
  refine apN_bad h ?_
  cases e : ruOk p m b o s v
  · rfl
  · exact absurd (ruN_ok e) hr
theorem apN_hdr {p m b o s v : Int} (h : Int) (hr : ruN p m b o s v = 0) (hh : hdrB h = false) : apN p m b o s v h = 1 := by simp [apN, ok_of_n hr, hh]
theorem apN_none {p m b o s v : Int} (h : Int) (hr : ruN p m b o s v = 0) (hh : hdrB h = true) (hx : (hasB m b h && !(o == 0)) = false) : apN p m b o s v h = 5 := by simp [apN, ok_of_n hr, hh, hx]
theorem apN_yes {p m b o s v : Int} (h : Int) (hr : ruN p m b o s v = 0) (hh : hdrB h = true) (hx : (hasB m b h && !(o == 0)) = true) : apN p m b o s v h = 0 := by simp [apN, ok_of_n hr, hh, hx]
/-- What the document makes of a header where nothing is wrong. -/
theorem tu_apR {p m b o s v h : Int} (h0 : apN p m b o s v h = 0) : (0 ≤ s ∧ s < 16) ∧ (0 ≤ v ∧ v < 16) ∧ (0 ≤ h ∧ h < 16) ∧ tuTo s v h 4 = apR p m b o s v h := by
  obtain ⟨h1, h2, _, _⟩ := ap_yes h0
  obtain ⟨g1, _, g3⟩ := ru_ok h1
  obtain ⟨_, hs, hv⟩ := ru_in g1
  have hh := hdr_of h2
  simp only [ruSet, Bool.and_eq_true] at g3
  refine ⟨hs, hv, hh, ?_⟩
  rw [apR, if_pos h0]
  exact tu_ap hs hv hh g3.1

/-- What holds of the world all along: the rule lies in the first new block. -/
structure KB (w W : World) (r : Ru) : Prop where
  below : Below w.heap.size w W
  lt : w.heap.size < W.heap.size
  c : C6 W w.heap.size 0 r
theorem KB.grow {w W W' : World} {r : Ru} (h : KB w W r) (hb : Below (w.heap.size + 1) W W') : KB w W' r := by
  have hc : ∀ k u, W.cell? ⟨w.heap.size, k, none⟩ = some u → W'.cell? ⟨w.heap.size, k, none⟩ = some u := fun k u e => (hb.cell (p := ⟨w.heap.size, k, none⟩) (by simp)).trans e
  exact ⟨h.below.trans (hb.mono (by omega)), Nat.lt_of_lt_of_le h.lt hb.size, ⟨hc _ _ h.c.c0, hc _ _ h.c.c1, hc _ _ h.c.c2, hc _ _ h.c.c3, hc _ _ h.c.c4, hc _ _ h.c.c5⟩⟩
theorem KB.later {w W W' : World} {r : Ru} (h : KB w W r) (hb : Below W.heap.size W W') : KB w W' r := h.grow (hb.mono (by have := h.lt; omega))
theorem KB.alloc {w W : World} {r : Ru} (h : KB w W r) (o : Obj) : KB w (W.alloc o) r := h.later ((Below.refl _ _).alloc (Nat.le_refl _) o)
/-- .. and what was read, in two blocks more. -/
structure KX (w W : World) (r x : Ru) (X Y : Nat) : Prop where
  kb : KB w W r
  cx : C6 W X 0 x
  cy : C6 W Y 0 x
theorem KX.later {w W W' : World} {r x : Ru} {X Y : Nat} (h : KX w W r x X Y) (hb : Below W.heap.size W W') : KX w W' r x X Y := ⟨h.kb.later hb, h.cx.later hb, h.cy.later hb⟩
theorem C6.lt {w : World} {g : Nat} {r : Ru} (h : C6 w g 0 r) : g < w.heap.size := World.block_lt_of_cell? _ _ h.c0
theorem C6.grow {w w' : World} {g B : Nat} {r : Ru} (h : C6 w g 0 r) (hb : Below B w w') (hg : g < B) : C6 w' g 0 r :=
  have e : ∀ k u, w.cell? ⟨g, k, none⟩ = some u → w'.cell? ⟨g, k, none⟩ = some u := fun k u e => (hb.cell (p := ⟨g, k, none⟩) (by simpa using hg)).trans e
  ⟨e _ _ h.c0, e _ _ h.c1, e _ _ h.c2, e _ _ h.c3, e _ _ h.c4, e _ _ h.c5⟩
theorem KX.grow {w W W' : World} {r x : Ru} {X Y B : Nat} (h : KX w W r x X Y) (hb : Below B W W') (h0 : w.heap.size < B) (hx : X < B) (hy : Y < B) : KX w W' r x X Y :=
  ⟨h.kb.grow (hb.mono (by omega)), h.cx.grow hb hx, h.cy.grow hb hy⟩
end Go.Proofs.YtbieljcoaocfkabGreatDoor
