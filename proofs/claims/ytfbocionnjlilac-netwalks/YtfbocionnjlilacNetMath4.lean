/- What becomes of a packet, one round: plain lists. No program in it. -/
import Derived.Test.YtfbocionnjlilacNetMath3
namespace Go.Proofs.Ytfbocionnjlilac
open Go.RowKit
set_option linter.unusedVariables false

section
variable {Ls : List ((Int × Int) × (Int × Int))} {Hs : List (ByteArray × (Int × Int))} {Ts : List (List Ru)} {l : List ((Int × Int) × Int)} {q : (Int × Int) × Int}
theorem fo_r (h : l.length ≤ 24) : foF Ls Hs Ts (25 - l.length) l = match enE Ls Hs Ts l (laH l) with | .inl e => (e.1, e.2, l) | .inr p => foF Ls Hs Ts (24 - l.length) (l ++ [p]) := by
  have e : 25 - l.length = (24 - l.length) + 1 := by omega
  rw [e, fo_s]
  rfl
theorem fo_2 (h : l.length ≤ 24) (hA : stO Ts (laH l) = none) : foF Ls Hs Ts (25 - l.length) l = (2, ByteArray.empty, l) := by
  have e : enE Ls Hs Ts l (laH l) = .inl (2, ByteArray.empty) := by
    unfold enE goE
    rw [show stT (taT Ts (laH l).1.1) (laH l) = none from hA]
  rw [fo_r h, e]
theorem fo_1 (h : l.length ≤ 24) (hA : stO Ts (laH l) = some q) {m : ByteArray} (ha : atO Hs q.1 = some m) : foF Ls Hs Ts (25 - l.length) l = (1, m, l) := by
  have e : enE Ls Hs Ts l (laH l) = .inl (1, m) := by
    unfold enE goE
    rw [show stT (taT Ts (laH l).1.1) (laH l) = some q from hA]
    simp only [ha]
  rw [fo_r h, e]
theorem fo_3 (h : l.length ≤ 24) (hA : stO Ts (laH l) = some q) (ha : atO Hs q.1 = none) (hp : peerO Ls q.1 = none) : foF Ls Hs Ts (25 - l.length) l = (3, ByteArray.empty, l) := by
  have e : enE Ls Hs Ts l (laH l) = .inl (3, ByteArray.empty) := by
    unfold enE goE
    rw [show stT (taT Ts (laH l).1.1) (laH l) = some q from hA]
    simp only [ha, hp]
  rw [fo_r h, e]
theorem fo_4 (h : l.length ≤ 24) (hA : stO Ts (laH l) = some q) (ha : atO Hs q.1 = none) {s : Int × Int} (hp : peerO Ls q.1 = some s) (h4 : l.length = 24 ∨ (l.any fun x => heB (s, q.2) x) = true) : foF Ls Hs Ts (25 - l.length) l = (4, ByteArray.empty, l) := by
  have e : enE Ls Hs Ts l (laH l) = .inl (4, ByteArray.empty) := by
    unfold enE goE
    rw [show stT (taT Ts (laH l).1.1) (laH l) = some q from hA]
    simp only [ha, hp]
    rw [if_pos h4]
  rw [fo_r h, e]
theorem fo_n (h : l.length ≤ 24) (hA : stO Ts (laH l) = some q) (ha : atO Hs q.1 = none) {s : Int × Int} (hp : peerO Ls q.1 = some s) (h4 : l.length ≠ 24) (h5 : (l.any fun x => heB (s, q.2) x) = false) : foF Ls Hs Ts (25 - l.length) l = foF Ls Hs Ts (25 - (l ++ [(s, q.2)]).length) (l ++ [(s, q.2)]) := by
  have e : enE Ls Hs Ts l (laH l) = .inr (s, q.2) := by
    unfold enE goE
    rw [show stT (taT Ts (laH l).1.1) (laH l) = some q from hA]
    simp only [ha, hp]
    rw [if_neg]
    rw [not_or, h5]
    exact ⟨h4, by simp⟩
  rw [fo_r h, e]
  simp only [List.length_append, List.length_cons, List.length_nil]
  rw [show 24 - l.length = 25 - (l.length + (0 + 1)) by omega]
theorem la_app (l : List ((Int × Int) × Int)) (p : (Int × Int) × Int) : laH (l ++ [p]) = p := by
  rw [la_at]
  simp only [List.length_append, List.length_cons, List.length_nil, Nat.add_sub_cancel, Nat.zero_add]
  exact at_app l p
end
end Go.Proofs.Ytfbocionnjlilac
