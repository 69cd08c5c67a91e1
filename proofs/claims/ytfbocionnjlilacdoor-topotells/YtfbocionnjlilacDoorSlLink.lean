/- What package slices answers at slices of api.Link. Written by mk/slices.py. -/
import Derived.Test.YtfbocionnjlilacDoorStLink
import Derived.Test.YtfbocionnjlilacDoorQuiet
import Derived.Shelf.Abstract
import Derived.Deep.CutRange
import Derived.Deep.CutBlock
namespace Go.Proofs.YtfbocionnjlilacDoor
open Go.RowKit
set_option linter.unusedSimpArgs false
set_option linter.unusedVariables false

/-- A closure that asks something, in whatever world behind this one. -/
def lnkAsks (w : World) (f : FuncId) (c0 c1 : Value) (P : (Int × Int) × (Int × Int) → Bool) : Prop :=
  ∀ (x0 : Int) (x1 : Int) (x2 : Int) (x3 : Int) (W : World), Below w.heap.size w W → Calls Tryd.prog f #[.agg #[.int .i64 x0, .int .i64 x1, .int .i64 x2, .int .i64 x3], c0, c1] W fun e w' => e = .returned (.bool (P ((x0, x1), (x2, x3)))) ∧ Below W.heap.size W w'
theorem lnkAsks.later {w w' : World} {f : FuncId} {c0 c1 : Value} {P : (Int × Int) × (Int × Int) → Bool} (h : lnkAsks w f c0 c1 P) (hb : Below w.heap.size w w') : lnkAsks w' f c0 c1 P :=
  fun x0 x1 x2 x3 W hW => h x0 x1 x2 x3 W (hb.trans (hW.mono hb.size))

set_option maxHeartbeats 1000000 in
theorem lnk_idxF (ao : Option Addr) (n cap : Nat) (f : FuncId) (c0 c1 : Value) (P : (Int × Int) × (Int × Int) → Bool) (L : List ((Int × Int) × (Int × Int))) (w : World) (hn : L.length = n) (hn2 : n ≤ maxLen) (ha : 0 < n → ∃ g o, ao = some ⟨g, o, none⟩ ∧ GAt lnkE w g o L ∧ cap ≤ maxLen) (he : ∀ args w, (callFunc f args).run Tryd.prog w = .ok (.enter f args) w) (hf : lnkAsks w f c0 c1 P) :
    Calls Tryd.prog 83 #[.slice ao n cap, .func (Fn.func f) #[] #[c0, c1]] w fun e w' => e = .returned (.int .i64 (ixG P L)) ∧ Below w.heap.size w w' := by
  have HN : Hid (L.length = n) := hn
  have HF : Hid (lnkAsks w f c0 c1 P) := hf
  have HA : Hid (0 < n → ∃ g o, ao = some ⟨g, o, none⟩ ∧ GAt lnkE w g o L ∧ cap ≤ maxLen) := ha
  unfold maxLen at hn2
  clear hn hf ha
  go_enter Tryd.func83, Tryd.ntmps83
  go_wp2
  go_loopw [8] (fun i wr => ∃ k : Nat, k ≤ n ∧ i = .int .i64 k ∧ (L.take k).any P = false ∧ Below w.heap.size w wr)
    (fun i _ => n - (intOf i).toNat)
  case atStart => exact ⟨0, by omega, rfl, by simp, Below.refl _ _⟩
  case round =>
    obtain ⟨k, hk, rfl, hno, hB⟩ := hrel
    have HB : Hid (Below w.heap.size w wr) := hB
    have HNO : Hid ((L.take k).any P = false) := hno
    clear hno
    by_cases hlt : k < n
    · obtain ⟨g, o, hao, hc, _⟩ := HA.out (by omega)
      subst hao
      obtain ⟨x0, x1, x2, x3, hkl, hL, q0, q1, q2, q3⟩ := lnk_at (hc.later hB) HN.out hlt
      have HL : Hid (L[k] = ((x0, x1), (x2, x3))) := hL
      clear hL hB
      cases ho : P ((x0, x1), (x2, x3))
      · go_wp2_with fail
        refine (HF.out x0 x1 x2 x3 _ HB.out).mono ?_
        rintro e w1 ⟨rfl, hb1⟩
        rw [ho]
        have HB1 := HB.out.trans (hb1.mono HB.out.size)
        clear hb1
        go_wp2
        go_roundw
        case rel => exact ⟨k + 1, by omega, by go_num, any_nextG hkl HNO.out (by rw [HL.out]; exact ho), HB1⟩
        case measure => simp [intOf]; omega
      · go_wp2_with fail
        refine (HF.out x0 x1 x2 x3 _ HB.out).mono ?_
        rintro e w1 ⟨rfl, hb1⟩
        rw [ho]
        go_wp2
        go_ret
        exact ⟨by rw [ixG_hit hkl HNO.out (by rw [HL.out]; exact ho)]; rfl, HB.out.trans (hb1.mono HB.out.size)⟩
    · obtain rfl : k = n := by omega
      go_wp2
      go_ret
      exact ⟨by have := HNO.out; rw [← HN.out, List.take_length] at this; rw [ixG_no this]; rfl, HB.out⟩

set_option maxHeartbeats 1000000 in
theorem lnk_hasF (ao : Option Addr) (n cap : Nat) (f : FuncId) (c0 c1 : Value) (P : (Int × Int) × (Int × Int) → Bool) (L : List ((Int × Int) × (Int × Int))) (w : World) (hn : L.length = n) (hn2 : n ≤ maxLen) (ha : 0 < n → ∃ g o, ao = some ⟨g, o, none⟩ ∧ GAt lnkE w g o L ∧ cap ≤ maxLen) (he : ∀ args w, (callFunc f args).run Tryd.prog w = .ok (.enter f args) w) (hf : lnkAsks w f c0 c1 P) :
    Calls Tryd.prog 63 #[.slice ao n cap, .func (Fn.func f) #[] #[c0, c1]] w fun e w' => e = .returned (.bool (L.any P)) ∧ Below w.heap.size w w' := by
  rw [← ixG_any]
  obtain ⟨x, hx⟩ : ∃ x, x = ixG P L := ⟨_, rfl⟩
  have HX : Hid (x = ixG P L) := hx
  rw [← hx]
  clear hx
  go_enter Tryd.func63, Tryd.ntmps63
  go_wp2_with fail
  refine (lnk_idxF ao n cap f c0 c1 P L _ hn hn2 ha he hf).mono ?_
  rintro e w1 ⟨rfl, hb1⟩
  rw [← HX.out]
  go_wp2
  go_ret
  exact ⟨rfl, hb1⟩

end Go.Proofs.YtfbocionnjlilacDoor
