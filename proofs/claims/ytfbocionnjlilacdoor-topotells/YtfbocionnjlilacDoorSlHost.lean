/- What package slices answers at slices of api.Host. Written by mk/slices.py. -/
import Derived.Test.YtfbocionnjlilacDoorStHost
import Derived.Test.YtfbocionnjlilacDoorQuiet
import Derived.Shelf.Abstract
import Derived.Deep.CutRange
import Derived.Deep.CutBlock
namespace Go.Proofs.YtfbocionnjlilacDoor
open Go.RowKit
set_option linter.unusedSimpArgs false
set_option linter.unusedVariables false

/-- A closure that asks something, in whatever world behind this one. -/
def hstAsks (w : World) (f : FuncId) (c : Value) (P : ByteArray × (Int × Int) → Bool) : Prop :=
  ∀ (x0 : ByteArray) (x1 : Int) (x2 : Int) (W : World), Below w.heap.size w W → Calls Tryd.prog f #[.agg #[.string x0, .int .i64 x1, .int .i64 x2], c] W fun e w' => e = .returned (.bool (P (x0, (x1, x2)))) ∧ Below W.heap.size W w'
theorem hstAsks.later {w w' : World} {f : FuncId} {c : Value} {P : ByteArray × (Int × Int) → Bool} (h : hstAsks w f c P) (hb : Below w.heap.size w w') : hstAsks w' f c P :=
  fun x0 x1 x2 W hW => h x0 x1 x2 W (hb.trans (hW.mono hb.size))

set_option maxHeartbeats 1000000 in
theorem hst_idxF (ao : Option Addr) (n cap : Nat) (f : FuncId) (c : Value) (P : ByteArray × (Int × Int) → Bool) (L : List (ByteArray × (Int × Int))) (w : World) (hn : L.length = n) (hn2 : n ≤ maxLen) (ha : 0 < n → ∃ g o, ao = some ⟨g, o, none⟩ ∧ GAt hstE w g o L ∧ cap ≤ maxLen) (he : ∀ args w, (callFunc f args).run Tryd.prog w = .ok (.enter f args) w) (hf : hstAsks w f c P) :
    Calls Tryd.prog 39 #[.slice ao n cap, .func (Fn.func f) #[] #[c]] w fun e w' => e = .returned (.int .i64 (ixG P L)) ∧ Below w.heap.size w w' := by
  have HN : Hid (L.length = n) := hn
  have HF : Hid (hstAsks w f c P) := hf
  have HA : Hid (0 < n → ∃ g o, ao = some ⟨g, o, none⟩ ∧ GAt hstE w g o L ∧ cap ≤ maxLen) := ha
  unfold maxLen at hn2
  clear hn hf ha
  go_enter Tryd.func39, Tryd.ntmps39
  go_wp2
  go_loopw [8] (fun i wr => ∃ k : Nat, k ≤ n ∧ i = .int .i64 k ∧ (L.take k).any P = false ∧ Below w.heap.size w wr)
    (fun i _ => n - (intOf i).toNat)
  case atStart => exact ⟨0, by omega, rfl, by simp, Below.refl _ _⟩
  case round =>
    obtain ⟨k, hk, rfl, hno, hB⟩ := hrel
    have HB : Hid (Below w.heap.size w wr) := hB
    have HNO : Hid ((L.take k).any P = false) := hno
    clear hno
    by_cases hlt : k < n
    · obtain ⟨g, o, hao, hc, _⟩ := HA.out (by omega)
      subst hao
      obtain ⟨x0, x1, x2, hkl, hL, q0, q1, q2⟩ := hst_at (hc.later hB) HN.out hlt
      have HL : Hid (L[k] = (x0, (x1, x2))) := hL
      clear hL hB
      cases ho : P (x0, (x1, x2))
      · go_wp2_with fail
        refine (HF.out x0 x1 x2 _ HB.out).mono ?_
        rintro e w1 ⟨rfl, hb1⟩
        rw [ho]
        have HB1 := HB.out.trans (hb1.mono HB.out.size)
        clear hb1
        go_wp2
        go_roundw
        case rel => exact ⟨k + 1, by omega, by go_num, any_nextG hkl HNO.out (by rw [HL.out]; exact ho), HB1⟩
        case measure => simp [intOf]; omega
      · go_wp2_with fail
        refine (HF.out x0 x1 x2 _ HB.out).mono ?_
        rintro e w1 ⟨rfl, hb1⟩
        rw [ho]
        go_wp2
        go_ret
        exact ⟨by rw [ixG_hit hkl HNO.out (by rw [HL.out]; exact ho)]; rfl, HB.out.trans (hb1.mono HB.out.size)⟩
    · obtain rfl : k = n := by omega
      go_wp2
      go_ret
      exact ⟨by have := HNO.out; rw [← HN.out, List.take_length] at this; rw [ixG_no this]; rfl, HB.out⟩

end Go.Proofs.YtfbocionnjlilacDoor
