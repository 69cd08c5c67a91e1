/- What a walk keeps of the world: no program in it. -/
import Derived.WalkKit
import Derived.Below
namespace Go.Proofs.YtclecpcnmfhhcaaDoor
open Go.RowKit

/-- What a walk keeps of the world: memory that was there is as it was, and these cells hold these values. -/
structure KL (w : World) (l : List (Addr × Value)) (W : World) : Prop where
  below : Below w.heap.size w W
  cells : ∀ p ∈ l, W.cell? p.1 = some p.2
theorem KL.later {w W W' : World} {l : List (Addr × Value)} (h : KL w l W) (hb : Below W.heap.size W W') : KL w l W' :=
  ⟨h.below.trans (hb.mono h.below.size), fun p hp => (hb.cell (World.block_lt_of_cell? _ _ (h.cells p hp))).trans (h.cells p hp)⟩
theorem KL.alloc {w W : World} {l : List (Addr × Value)} (h : KL w l W) (o : Obj) : KL w l (W.alloc o) := h.later ((Below.refl _ _).alloc (Nat.le_refl _) _)
theorem KL.drew {w W : World} {l : List (Addr × Value)} (h : KL w l W) : KL w l W.drew := h.later (Below.refl _ _).drew
theorem KL.add {w W : World} {l : List (Addr × Value)} (h : KL w l W) {a : Addr} {v : Value} (hc : W.cell? a = some v) : KL w ((a, v) :: l) W := by
  refine ⟨h.below, fun p hp => ?_⟩
  rcases List.mem_cons.1 hp with e | hp
  · rw [e]; exact hc
  · exact h.cells p hp
theorem KL.sub {w W : World} {l l' : List (Addr × Value)} (h : KL w l W) (hs : ∀ p ∈ l', p ∈ l) : KL w l' W := ⟨h.below, fun p hp => h.cells p (hs p hp)⟩
theorem KL.at {w W : World} {l : List (Addr × Value)} (h : KL w l W) {a : Addr} {v : Value} (hm : (a, v) ∈ l) : W.cell? a = some v := h.cells _ hm
end Go.Proofs.YtclecpcnmfhhcaaDoor
