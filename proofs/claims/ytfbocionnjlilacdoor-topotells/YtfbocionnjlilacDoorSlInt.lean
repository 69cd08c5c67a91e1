/- What package slices answers at slices of []int,int. Written by mk/scalar.py. -/
import Derived.Test.YtfbocionnjlilacDoorGen
import Derived.Test.YtfbocionnjlilacDoorRows
import Derived.Shelf.Abstract
import Derived.WalkKit
import Derived.WalkSpells
import Derived.Below
namespace Go.Proofs.YtfbocionnjlilacDoor
open Go.RowKit
set_option linter.unusedSimpArgs false
set_option linter.unusedVariables false

def nuE : Enc (Int) where
  c := fun x => [.int .i64 x]
  n := 1
  len := fun _ => rfl
  pos := by decide
  one := by
    intro x u hu
    simp at hu
    subst hu
    rfl
theorem nu_at {w : World} {g o : Nat} {L : List (Int)} (h : GAt nuE w g o L) {n k : Nat} (hn : L.length = n) (hk : k < n) : ∃ (x : Int) (hl : k < L.length), L[k] = x ∧ w.cell? ⟨g, o + k, none⟩ = some (.int .i64 x) := by
  have hl : k < L.length := by omega
  have := h k hl 0 _ rfl
  refine ⟨_, hl, rfl, ?_⟩
  have e : o + k * nuE.n + 0 = o + k := by show o + k * 1 + 0 = o + k; omega
  rw [e] at this
  exact this
/-- A closure that asks something, in whatever world behind this one. -/
def nuAsks (w : World) (f : FuncId) (c : Value) (P : Int → Bool) : Prop :=
  ∀ (x : Int) (W : World), Below w.heap.size w W → Calls Tryd.prog f #[.int .i64 x, c] W fun e w' => e = .returned (.bool (P x)) ∧ Below W.heap.size W w'
theorem nuAsks.later {w w' : World} {f : FuncId} {c : Value} {P : Int → Bool} (h : nuAsks w f c P) (hb : Below w.heap.size w w') : nuAsks w' f c P :=
  fun x W hW => h x W (hb.trans (hW.mono hb.size))

set_option maxHeartbeats 1000000 in
theorem nu_idxF (ao : Option Addr) (n cap : Nat) (f : FuncId) (c : Value) (P : Int → Bool) (L : List (Int)) (w : World) (hn : L.length = n) (hn2 : n ≤ maxLen) (ha : 0 < n → ∃ g o, ao = some ⟨g, o, none⟩ ∧ GAt nuE w g o L ∧ cap ≤ maxLen) (he : ∀ args w, (callFunc f args).run Tryd.prog w = .ok (.enter f args) w) (hf : nuAsks w f c P) :
    Calls Tryd.prog 82 #[.slice ao n cap, .func (Fn.func f) #[] #[c]] w fun e w' => e = .returned (.int .i64 (ixG P L)) ∧ Below w.heap.size w w' := by
  have HN : Hid (L.length = n) := hn
  have HF : Hid (nuAsks w f c P) := hf
  have HA : Hid (0 < n → ∃ g o, ao = some ⟨g, o, none⟩ ∧ GAt nuE w g o L ∧ cap ≤ maxLen) := ha
  unfold maxLen at hn2
  clear hn hf ha
  go_enter Tryd.func82, Tryd.ntmps82
  go_wp2
  go_loopw [8] (fun i wr => ∃ k : Nat, k ≤ n ∧ i = .int .i64 k ∧ (L.take k).any P = false ∧ Below w.heap.size w wr)
    (fun i _ => n - (intOf i).toNat)
  case atStart => exact ⟨0, by omega, rfl, by simp, Below.refl _ _⟩
  case round =>
    obtain ⟨k, hk, rfl, hno, hB⟩ := hrel
    have HB : Hid (Below w.heap.size w wr) := hB
    have HNO : Hid ((L.take k).any P = false) := hno
    clear hno
    by_cases hlt : k < n
    · obtain ⟨g, o, hao, hc, _⟩ := HA.out (by omega)
      subst hao
      obtain ⟨x, hkl, hL, q0⟩ := nu_at (hc.later hB) HN.out hlt
      have HL : Hid (L[k] = x) := hL
      clear hL hB
      cases ho : P x
      · go_wp2_with fail
        refine (HF.out x _ HB.out).mono ?_
        rintro e w1 ⟨rfl, hb1⟩
        rw [ho]
        have HB1 := HB.out.trans (hb1.mono HB.out.size)
        clear hb1
        go_wp2
        go_roundw
        case rel => exact ⟨k + 1, by omega, by go_num, any_nextG hkl HNO.out (by rw [HL.out]; exact ho), HB1⟩
        case measure => simp [intOf]; omega
      · go_wp2_with fail
        refine (HF.out x _ HB.out).mono ?_
        rintro e w1 ⟨rfl, hb1⟩
        rw [ho]
        go_wp2
        go_ret
        exact ⟨by rw [ixG_hit hkl HNO.out (by rw [HL.out]; exact ho)]; rfl, HB.out.trans (hb1.mono HB.out.size)⟩
    · obtain rfl : k = n := by omega
      go_wp2
      go_ret
      exact ⟨by have := HNO.out; rw [← HN.out, List.take_length] at this; rw [ixG_no this]; rfl, HB.out⟩

set_option maxHeartbeats 1000000 in
theorem nu_hasF (ao : Option Addr) (n cap : Nat) (f : FuncId) (c : Value) (P : Int → Bool) (L : List (Int)) (w : World) (hn : L.length = n) (hn2 : n ≤ maxLen) (ha : 0 < n → ∃ g o, ao = some ⟨g, o, none⟩ ∧ GAt nuE w g o L ∧ cap ≤ maxLen) (he : ∀ args w, (callFunc f args).run Tryd.prog w = .ok (.enter f args) w) (hf : nuAsks w f c P) :
    Calls Tryd.prog 60 #[.slice ao n cap, .func (Fn.func f) #[] #[c]] w fun e w' => e = .returned (.bool (L.any P)) ∧ Below w.heap.size w w' := by
  rw [← ixG_any]
  obtain ⟨x, hx⟩ : ∃ x, x = ixG P L := ⟨_, rfl⟩
  have HX : Hid (x = ixG P L) := hx
  rw [← hx]
  clear hx
  go_enter Tryd.func60, Tryd.ntmps60
  go_wp2_with fail
  refine (nu_idxF ao n cap f c P L _ hn hn2 ha he hf).mono ?_
  rintro e w1 ⟨rfl, hb1⟩
  rw [← HX.out]
  go_wp2
  go_ret
  exact ⟨rfl, hb1⟩
end Go.Proofs.YtfbocionnjlilacDoor
