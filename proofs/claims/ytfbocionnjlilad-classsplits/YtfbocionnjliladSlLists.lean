/- What slices.IndexFunc answers at a slice of lists of numbers, at any closure. -/
import Derived.Test.YtfbocionnjliladClassMem
import Derived.Test.YtfbocionnjliladRows
import Derived.Shelf.Abstract
import Derived.WalkKit
import Derived.WalkSpells
import Derived.Below
namespace Go.Proofs.Ytfbocionnjlilad
open Go.RowKit
set_option linter.unusedSimpArgs false
set_option linter.unusedVariables false

/-- A closure that asks something of a list, in whatever world behind this one. -/
def ilAsks (w : World) (f : FuncId) (c : Value) (P : List Int → Bool) : Prop :=
  ∀ (ao : Option Addr) (n cap : Nat) (L : List Int) (W : World), Below w.heap.size w W → GS inE W (.slice ao n cap) L → Calls Try.prog f #[.slice ao n cap, c] W fun e w' => e = .returned (.bool (P L)) ∧ Below W.heap.size W w'
theorem ilAsks.later {w w' : World} {f : FuncId} {c : Value} {P : List Int → Bool} (h : ilAsks w f c P) (hb : Below w.heap.size w w') : ilAsks w' f c P :=
  fun ao n cap L W hW => h ao n cap L W (hb.trans (hW.mono hb.size))

set_option maxHeartbeats 1000000 in
theorem il_idxF (ao : Option Addr) (n cap : Nat) (f : FuncId) (c : Value) (P : List Int → Bool) (Ls : List (List Int)) (w : World) (hs : ILS w (.slice ao n cap) Ls) (he : ∀ args w, (callFunc f args).run Try.prog w = .ok (.enter f args) w) (hf : ilAsks w f c P) :
    Calls Try.prog 14 #[.slice ao n cap, .func (Fn.func f) #[] #[c]] w fun e w' => e = .returned (.int .i64 (ixG P Ls)) ∧ Below w.heap.size w w' := by
  obtain ⟨_, _, _, e1, hn, hn2, _, ha⟩ := hs.form
  cases e1
  have HN : Hid (Ls.length = n) := hn
  have HF : Hid (ilAsks w f c P) := hf
  have HA : Hid (0 < n → ∃ g o, ao = some ⟨g, o, none⟩ ∧ ILAt w g o Ls ∧ cap ≤ maxLen) := ha
  unfold maxLen at hn2
  clear hn hf ha hs
  go_enter Try.func14, Try.ntmps14
  go_wp2
  go_loopw [8] (fun i wr => ∃ k : Nat, k ≤ n ∧ i = .int .i64 k ∧ (Ls.take k).any P = false ∧ Below w.heap.size w wr)
    (fun i _ => n - (intOf i).toNat)
  case atStart => exact ⟨0, by omega, rfl, by simp, Below.refl _ _⟩
  case round =>
    obtain ⟨k, hk, rfl, hno, hB⟩ := hrel
    have HB : Hid (Below w.heap.size w wr) := hB
    have HNO : Hid ((Ls.take k).any P = false) := hno
    clear hno
    by_cases hlt : k < n
    · obtain ⟨g, o, hao, hc, _⟩ := HA.out (by omega)
      subst hao
      have hkl : k < Ls.length := by rw [HN.out]; exact hlt
      obtain ⟨a2, n2, c2, q0, hG⟩ := (hc.later hB) k hkl
      have HG : Hid (GS inE wr (.slice a2 n2 c2) Ls[k]) := hG
      clear hB hG hc
      cases ho : P Ls[k]
      · go_wp2_with fail
        refine (HF.out a2 n2 c2 _ _ HB.out HG.out).mono ?_
        rintro e w1 ⟨rfl, hb1⟩
        rw [ho]
        have HB1 := HB.out.trans (hb1.mono HB.out.size)
        clear hb1
        go_wp2
        go_roundw
        case rel => exact ⟨k + 1, by omega, by go_num, any_nextG hkl HNO.out ho, HB1⟩
        case measure => simp [intOf]; omega
      · go_wp2_with fail
        refine (HF.out a2 n2 c2 _ _ HB.out HG.out).mono ?_
        rintro e w1 ⟨rfl, hb1⟩
        rw [ho]
        go_wp2
        go_ret
        exact ⟨by rw [ixG_hit hkl HNO.out ho]; rfl, HB.out.trans (hb1.mono HB.out.size)⟩
    · obtain rfl : k = n := by omega
      go_wp2
      go_ret
      exact ⟨by have := HNO.out; rw [← HN.out, List.take_length] at this; rw [ixG_no this]; rfl, HB.out⟩
end Go.Proofs.Ytfbocionnjlilad
