/- Two rules at two addresses: a class of worlds. -/
import Derived.Test.YtpbfgfphcjmcbaaDoorRuleTab
namespace Go.Proofs.YtpbfgfphcjmcbaaDoor
open Go.RowKit

/-- Two rules at two addresses. -/
def CD (w : World) (g o : Nat) (p m b q s v : Int) (g' o' : Nat) (p' m' b' q' s' v' : Int) (w' : World) : Prop :=
  Below w.heap.size w w' ∧ (w'.cell? ⟨g, o, none⟩ = some (.int .i64 p) ∧ w'.cell? ⟨g, o + 1, none⟩ = some (.int .i64 m) ∧ w'.cell? ⟨g, o + 2, none⟩ = some (.int .i64 b) ∧
    w'.cell? ⟨g, o + 3, none⟩ = some (.int .i64 q) ∧ w'.cell? ⟨g, o + 4, none⟩ = some (.int .i64 s) ∧ w'.cell? ⟨g, o + 5, none⟩ = some (.int .i64 v)) ∧
  w'.cell? ⟨g', o', none⟩ = some (.int .i64 p') ∧ w'.cell? ⟨g', o' + 1, none⟩ = some (.int .i64 m') ∧ w'.cell? ⟨g', o' + 2, none⟩ = some (.int .i64 b') ∧
    w'.cell? ⟨g', o' + 3, none⟩ = some (.int .i64 q') ∧ w'.cell? ⟨g', o' + 4, none⟩ = some (.int .i64 s') ∧ w'.cell? ⟨g', o' + 5, none⟩ = some (.int .i64 v')
theorem CD.later {w W W' : World} {g o : Nat} {p m b q s v : Int} {g' o' : Nat} {p' m' b' q' s' v' : Int} (hb : Below W.heap.size W W') (h : CD w g o p m b q s v g' o' p' m' b' q' s' v' W) : CD w g o p m b q s v g' o' p' m' b' q' s' v' W' := by
  obtain ⟨h0, ⟨h1, h2, h3, h4, h5, h6⟩, k1, k2, k3, k4, k5, k6⟩ := h
  exact ⟨h0.trans (hb.mono h0.size), ⟨cell_later hb h1, cell_later hb h2, cell_later hb h3, cell_later hb h4, cell_later hb h5, cell_later hb h6⟩, cell_later hb k1, cell_later hb k2, cell_later hb k3, cell_later hb k4, cell_later hb k5, cell_later hb k6⟩

end Go.Proofs.YtpbfgfphcjmcbaaDoor
