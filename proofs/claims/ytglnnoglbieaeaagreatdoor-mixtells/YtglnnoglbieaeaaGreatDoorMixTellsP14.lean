/- Contracts and facts on the way to MixTells, joined into one text: RefWalkMath, RefIn, RefTouched, TouchMath, SlSortInt, MixTouched, MixMath5, WishMath2, MixHoldsMath, MixTellsMath, FtsAt. -/
import Derived.Test.YtglnnoglbieaeaaGreatDoorMixTellsP2
import Derived.Test.YtglnnoglbieaeaaGreatDoorMixTellsP13
import Derived.Test.YtglnnoglbieaeaaGreatDoorMixTellsP11
import Derived.Test.YtglnnoglbieaeaaGreatDoorMixTellsP7
import Derived.Test.YtglnnoglbieaeaaGreatDoorMixTellsP12
import Derived.Test.YtglnnoglbieaeaaGreatDoorMixTellsP6
import Derived.Test.YtglnnoglbieaeaaGreatDoorMixTellsP9
import Derived.Test.YtglnnoglbieaeaaGreatDoorMixTellsP5
import Derived.Test.YtglnnoglbieaeaaGreatDoorMixTellsP3
import Derived.Test.YtglnnoglbieaeaaGreatDoorRows
import Derived.Deep.CutRange
import Derived.Deep.CutBlock
import Derived.Lib.SlicesCompact
import Derived.Shelf.Sort.Plain
import Derived.Shelf.Slices.CompactI
import Derived.Shelf.Slices.In.SortNone
import Derived.Test.YtglnnoglbieaeaaGreatDoorProg
/- The document's own walk while tables change, step by step: plain lists, and a fate's own box. -/
namespace Go.Proofs.YtglnnoglbieaeaaGreatDoor
open Go.RowKit
set_option linter.unusedSimpArgs false
set_option linter.unusedVariables false
section
variable (Ls : List ((Int × Int) × (Int × Int))) (Hs : List (ByteArray × (Int × Int))) (As Bs : List (List Ru))
/-- One step by a table. -/
def stW (n : Nat) (l : List ((Int × Int) × Int)) (met : List Int) (a : List Ft) (t : List Ru) : List Ft := onL (fun l' a' => wkL Ls Hs As Bs n l' met a') l a (goE Ls Hs t l (laH l))
/-- Behind the old table. -/
def stA (n : Nat) (l : List ((Int × Int) × Int)) (met : List Int) (a : List Ft) : List Ft := if (met.any fun y => y == (laH l).1.1) = true then a else stW Ls Hs As Bs n l met a (taT As (laH l).1.1)
variable {Ls Hs As Bs}
theorem mem_any {met : List Int} {s : Int} : (met.any fun y => y == s) = true ↔ s ∈ met := by
  rw [List.any_eq_true]
  constructor
  · rintro ⟨y, h1, h2⟩
    rw [← (beq_iff_eq.1 h2)]
    exact h1
  · intro h
    exact ⟨s, h, by simp⟩
theorem wk_no {n : Nat} {l : List ((Int × Int) × Int)} {met : List Int} {a : List Ft} (h : chB As Bs (laH l).1.1 = false) : wkL Ls Hs As Bs (n + 1) l met a = stA Ls Hs As Bs n l met a := by
  rw [wkL, h, if_neg (by simp)]
  simp only [stA, stW, mem_any]
theorem wk_yes {n : Nat} {l : List ((Int × Int) × Int)} {met : List Int} {a : List Ft} (h : chB As Bs (laH l).1.1 = true) : wkL Ls Hs As Bs (n + 1) l met a = stW Ls Hs As Bs n l (met ++ if (met.any fun y => y == (laH l).1.1) = true then [] else [(laH l).1.1]) (stA Ls Hs As Bs n l met a) (taT Bs (laH l).1.1) := by
  rw [wkL, if_pos h]
  simp only [stA, stW, mem_any]
  by_cases e : (laH l).1.1 ∈ met <;> simp [e]
theorem st_end {n : Nat} {l : List ((Int × Int) × Int)} {met : List Int} {a : List Ft} {t : List Ru} (h : (gnF Ls Hs t l).2 = false) : stW Ls Hs As Bs n l met a t = puR faL (gnF Ls Hs t l).1 a ∧ (gnF Ls Hs t l).1.2.2 = l := by
  unfold gnF at *
  unfold stW
  cases e : goE Ls Hs t l (laH l) with
  | inl p => exact ⟨rfl, rfl⟩
  | inr p => rw [e] at h; cases h
theorem st_on {n : Nat} {l : List ((Int × Int) × Int)} {met : List Int} {a : List Ft} {t : List Ru} {q : (Int × Int) × Int} (h : (gnF Ls Hs t l).2 = true) (hq : (gnF Ls Hs t l).1 = (0, ByteArray.empty, l ++ [q])) : stW Ls Hs As Bs n l met a t = wkL Ls Hs As Bs n (l ++ [q]) met a := by
  unfold gnF at *
  unfold stW
  cases e : goE Ls Hs t l (laH l) with
  | inl p => rw [e] at h; cases h
  | inr p =>
    rw [e] at hq
    simp only [Prod.mk.injEq, List.append_cancel_left_eq, List.cons.injEq, and_true, true_and] at hq
    subst hq
    rfl
theorem wk_len : ∀ (n : Nat) (l : List ((Int × Int) × Int)) (met : List Int) (a : List Ft), (wkL Ls Hs As Bs n l met a).length ≤ a.length + 2 ^ n
  | 0, l, met, a => by simp [wkL]
  | n + 1, l, met, a => by
    have on : ∀ (met : List Int) (a : List Ft) (t : List Ru), (stW Ls Hs As Bs n l met a t).length ≤ a.length + 2 ^ n := by
      intro met a t
      unfold stW
      cases goE Ls Hs t l (laH l) with
      | inl p =>
        have := pu_len (r := faL) (p.1, p.2, l) a
        have := Nat.one_le_two_pow (n := n)
        simp only [onL]
        omega
      | inr p => exact wk_len n _ _ _
    have p0 := Nat.one_le_two_pow (n := n)
    have sa : (stA Ls Hs As Bs n l met a).length ≤ a.length + 2 ^ n := by
      unfold stA
      split
      · omega
      · exact on _ _ _
    have e2 : 2 ^ (n + 1) = 2 ^ n + 2 ^ n := by omega
    cases h : chB As Bs (laH l).1.1
    · rw [wk_no h]
      omega
    · rw [wk_yes h]
      have := on (met ++ if (met.any fun y => y == (laH l).1.1) = true then [] else [(laH l).1.1]) (stA Ls Hs As Bs n l met a) (taT Bs (laH l).1.1)
      omega
theorem st_len {n : Nat} {l : List ((Int × Int) × Int)} {met : List Int} {a : List Ft} {t : List Ru} : (stW Ls Hs As Bs n l met a t).length ≤ a.length + 2 ^ n := by
  unfold stW
  cases goE Ls Hs t l (laH l) with
  | inl p =>
    have := pu_len (r := faL) (p.1, p.2, l) a
    have := Nat.one_le_two_pow (n := n)
    simp only [onL]
    omega
  | inr p => exact wk_len n _ _ _
theorem wk_hops : ∀ (n : Nat) (l : List ((Int × Int) × Int)) (met : List Int) (a : List Ft), l.length + n ≤ 1000 → (∀ x ∈ a, x.2.2.length ≤ 1000) → ∀ x ∈ wkL Ls Hs As Bs n l met a, x.2.2.length ≤ 1000
  | 0, l, met, a, h, ha => by simpa [wkL] using ha
  | n + 1, l, met, a, h, ha => by
    have on : ∀ (met : List Int) (a : List Ft) (t : List Ru), (∀ x ∈ a, x.2.2.length ≤ 1000) → ∀ x ∈ stW Ls Hs As Bs n l met a t, x.2.2.length ≤ 1000 := by
      intro met a t ha
      unfold stW
      cases goE Ls Hs t l (laH l) with
      | inl p =>
        intro x hx
        rcases (pu_mem lo_fate _).1 hx with rfl | hx
        · show l.length ≤ 1000
          omega
        · exact ha x hx
      | inr p => exact wk_hops n _ _ _ (by simp; omega) ha
    have sa : ∀ x ∈ stA Ls Hs As Bs n l met a, x.2.2.length ≤ 1000 := by
      unfold stA
      split
      · exact ha
      · exact on _ _ _ ha
    cases h : chB As Bs (laH l).1.1
    · rw [wk_no h]
      exact sa
    · rw [wk_yes h]
      exact on _ _ _ sa
/-- A list of fates that a walk may take. -/
def GL (n : Nat) (a : List Ft) : Prop := Ris faL a ∧ (∀ x ∈ a, x.2.2.length ≤ 1000) ∧ a.length + 2 ^ n ≤ 50000000
theorem GL.less {n : Nat} {a : List Ft} (h : GL (n + 1) a) : GL n a := ⟨h.1, h.2.1, by have := h.2.2; have := Nat.one_le_two_pow (n := n); omega⟩
theorem GL.st {n : Nat} {l : List ((Int × Int) × Int)} {met : List Int} {a : List Ft} {t : List Ru} (h : GL (n + 1) a) (hl : l.length + (n + 1) ≤ 1000) : GL n (stW Ls Hs As Bs n l met a t) := by
  refine ⟨?_, ?_, ?_⟩
  · unfold stW
    exact on_ris (fun l a h => wk_ris n l met a h) l h.1 _
  · unfold stW
    cases goE Ls Hs t l (laH l) with
    | inl p =>
      intro x hx
      rcases (pu_mem lo_fate _).1 hx with rfl | hx
      · show l.length ≤ 1000
        omega
      · exact h.2.1 x hx
    | inr p => exact wk_hops n _ _ _ (by simp; omega) h.2.1
  · have := st_len (Ls := Ls) (Hs := Hs) (As := As) (Bs := Bs) (n := n) (l := l) (met := met) (a := a) (t := t)
    have := h.2.2
    omega
theorem GL.sa {n : Nat} {l : List ((Int × Int) × Int)} {met : List Int} {a : List Ft} (h : GL (n + 1) a) (hl : l.length + (n + 1) ≤ 1000) : GL n (stA Ls Hs As Bs n l met a) := by
  unfold stA
  split
  · exact h.less
  · exact h.st hl
end
/-- A slice is none, or has something. -/
def SK (a : Option Addr) (n c : Nat) : Prop := (a = none ∧ n = 0 ∧ c = 0) ∨ 0 < n
/-- A fate in a box of its own, and a truth. -/
def GN (F : Ft) (on : Bool) (wr : World) (p q : Value) (W : World) : Prop :=
  ∃ g a6 n6 c6, p = .pointer (some ⟨g, 0, none⟩) ∧ q = .bool on ∧ W.cell? ⟨g, 0, none⟩ = some (.int .i64 F.1) ∧ W.cell? ⟨g, 1, none⟩ = some (.string F.2.1) ∧ W.cell? ⟨g, 2, none⟩ = some (.slice a6 n6 c6) ∧ GS hopE W (.slice a6 n6 c6) F.2.2 ∧ Below wr.heap.size wr W
theorem GN.after {F : Ft} {on : Bool} {wr w0 w' : World} {a6 : Option Addr} {n6 c6 : Nat} (h0 : Below wr.heap.size wr w0) (hb : Below w0.heap.size w0 w') (hG : GS hopE w' (.slice a6 n6 c6) F.2.2) :
    GN F on wr (.pointer (some ⟨w'.heap.size, 0, none⟩)) (.bool on) (w'.alloc (.cells #[.int .i64 F.1, .string F.2.1, .slice a6 n6 c6] 77)) := by
  have hv := vat_new w' [.int .i64 F.1, .string F.2.1, .slice a6 n6 c6] 77
  exact ⟨w'.heap.size, a6, n6, c6, rfl, rfl, hv 0 _ rfl, hv 1 _ rfl, hv 2 _ rfl, hG.later ((Below.refl _ _).alloc (Nat.le_refl _) _), (h0.trans (hb.mono h0.size)).alloc (Nat.le_trans h0.size hb.size) _⟩
theorem GN.before {F : Ft} {on : Bool} {wr w0 w' : World} {a5 a6 : Option Addr} {n6 c6 : Nat} {x y z : Value} (h0 : Below wr.heap.size wr w0) (hb : Below w0.heap.size w0 w') (hG : GS hopE w' (.slice a6 n6 c6) F.2.2) (hz : wr.heap.size < w0.heap.size)
    (ha : a6 = a5 ∨ ∀ g o, a6 = some ⟨g, o, none⟩ → w0.heap.size ≤ g) (ha5 : ∀ g o, a5 = some ⟨g, o, none⟩ → g < wr.heap.size)
    (h1 : w0.cell? ⟨wr.heap.size, 0, none⟩ = some x) (h2 : w0.cell? ⟨wr.heap.size, 1, none⟩ = some y) (h3 : w0.cell? ⟨wr.heap.size, 2, none⟩ = some z) :
    GN F on wr (.pointer (some ⟨wr.heap.size, 0, none⟩)) (.bool on) (put3 w' wr.heap.size (.int .i64 F.1) (.string F.2.1) (.slice a6 n6 c6)) := by
  have e := put3_cells (a := .int .i64 F.1) (b := .string F.2.1) (c := .slice a6 n6 c6) ⟨(hb.cell (p := ⟨wr.heap.size, 0, none⟩) hz).trans h1, (hb.cell (p := ⟨wr.heap.size, 1, none⟩) hz).trans h2, (hb.cell (p := ⟨wr.heap.size, 2, none⟩) hz).trans h3⟩
  refine ⟨wr.heap.size, a6, n6, c6, rfl, rfl, e.1, e.2.1, e.2.2, gs_put3 hG (fun g o e => ?_) _ _ _, below_put3 (h0.trans (hb.mono h0.size)) _ (Nat.le_refl _) _ _ _⟩
  rcases ha with h | h
  · have := ha5 g o (h.symm.trans e)
    omega
  · have := h g o e
    omega
theorem below_3 {B : Nat} {w W : World} (h : Below B w W) (g : Nat) (hg : B ≤ g) (a b c : Value) : Below B w (((W.setCell ⟨g, 0, none⟩ a).setCell ⟨g, 1, none⟩ b).setCell ⟨g, 2, none⟩ c) := below_put3 h g hg a b c
/-- An empty fate in its box. -/
def ZF (W : World) (g : Nat) : Prop := VAt W g 0 [.int .i64 0, .string ⟨#[]⟩, .slice none 0 0] ∧ ∀ i, W.frozen? ⟨g, i, none⟩ = false
theorem zf_d {W W' : World} {t : TypeId} (hb : Below (W.drew.alloc (Obj.cells #[.int .i64 0, .string ⟨#[]⟩, .slice none 0 0] t)).heap.size (W.drew.alloc (Obj.cells #[.int .i64 0, .string ⟨#[]⟩, .slice none 0 0] t)) W') : ZF W' W.heap.size :=
  ⟨(vat_new W.drew [.int .i64 0, .string ⟨#[]⟩, .slice none 0 0] t).later hb, fun i => (hb.frozen (p := ⟨W.heap.size, i, none⟩) (by show W.heap.size < (W.drew.alloc _).heap.size; simp)).trans (froz_new2 W.drew _ t i)⟩
theorem gn_ne {W : World} {o : Obj} {a8 : Option Addr} {g5 o5 : Nat} (h : a8 = some ⟨g5, o5, none⟩ ∨ ∀ g o', a8 = some ⟨g, o', none⟩ → (W.drew.alloc o).heap.size ≤ g) (h5 : g5 < W.heap.size) : ∀ g o', a8 = some ⟨g, o', none⟩ → g ≠ W.heap.size := by
  intro g o' e
  rcases h with h | h
  · rw [h] at e
    cases e
    omega
  · have := h g o' e
    have e2 : (W.drew.alloc o).heap.size = W.heap.size + 1 := by simp
    omega
theorem gn_a {F : Ft} {on : Bool} {wr w' : World} {a6 : Option Addr} {n6 c6 : Nat} (hb : Below wr.heap.size wr w') (hG : GS hopE w' (.slice a6 n6 c6) F.2.2) :
    GN F on wr (.pointer (some ⟨w'.heap.size, 0, none⟩)) (.bool on) (w'.alloc (.cells #[.int .i64 F.1, .string F.2.1, .slice a6 n6 c6] 77)) := GN.after (Below.refl _ _) hb hG
theorem gn_b {F : Ft} {on : Bool} {wr w' : World} {a6 : Option Addr} {n6 c6 : Nat} {x y z : Value} (hb : Below wr.heap.size wr w') (hG : GS hopE w' (.slice a6 n6 c6) F.2.2) (hn : ∀ g o, a6 = some ⟨g, o, none⟩ → g ≠ wr.heap.size)
    (h1 : w'.cell? ⟨wr.heap.size, 0, none⟩ = some x) (h2 : w'.cell? ⟨wr.heap.size, 1, none⟩ = some y) (h3 : w'.cell? ⟨wr.heap.size, 2, none⟩ = some z) :
    GN F on wr (.pointer (some ⟨wr.heap.size, 0, none⟩)) (.bool on) (((w'.setCell ⟨wr.heap.size, 0, none⟩ (.int .i64 F.1)).setCell ⟨wr.heap.size, 1, none⟩ (.string F.2.1)).setCell ⟨wr.heap.size, 2, none⟩ (.slice a6 n6 c6)) := by
  have e := put3_cells (a := .int .i64 F.1) (b := .string F.2.1) (c := .slice a6 n6 c6) ⟨h1, h2, h3⟩
  exact ⟨wr.heap.size, a6, n6, c6, rfl, rfl, e.1, e.2.1, e.2.2, gs_put3 hG hn _ _ _, below_put3 hb _ (Nat.le_refl _) _ _ _⟩
end Go.Proofs.YtglnnoglbieaeaaGreatDoor
/- What railref2.In answers: is a number in a list? A contract for the walks above it. -/
namespace Go.Proofs.YtglnnoglbieaeaaGreatDoor
open Go.RowKit
set_option linter.unusedSimpArgs false
set_option linter.unusedVariables false

set_option maxHeartbeats 1000000 in
theorem in_any (ao : Option Addr) (n cap : Nat) (L : List Int) (x : Int) (w : World) (h : GS inE w (.slice ao n cap) L) :
    Calls Tryz.prog 42 #[.slice ao n cap, .int .i64 x] w fun e w' => e = .returned (.bool (L.any fun y => y == x)) ∧ w' = w := by
  obtain ⟨_, _, _, e1, hn, hn2, _, ha⟩ := h.form
  cases e1
  have HN : Hid (L.length = n) := hn
  have HA : Hid (0 < n → ∃ g o, ao = some ⟨g, o, none⟩ ∧ GAt inE w g o L ∧ cap ≤ maxLen) := ha
  unfold maxLen at hn2
  obtain ⟨R, hR⟩ : ∃ R, R = L.any fun y => y == x := ⟨_, rfl⟩
  have HR : Hid (R = L.any fun y => y == x) := hR
  rw [← hR]
  clear h hn ha hR
  go_enter Tryz.func42, Tryz.ntmps42
  go_wp2
  go_loopw [5] (fun i wr => ∃ k : Nat, k ≤ n ∧ i = .int .i64 k ∧ (L.take k).any (fun y => y == x) = false ∧ wr = w) (fun i _ => n - (intOf i).toNat)
  case atStart => exact ⟨0, by omega, rfl, rfl, rfl⟩
  case round =>
    obtain ⟨k, hk, rfl, hno, hwz⟩ := hrel
    have hwy := hwz.symm
    subst hwy
    have HNO : Hid ((L.take k).any (fun y => y == x) = false) := hno
    clear hwz hno
    by_cases hlt : k < n
    · obtain ⟨g, o, hao, hG, _⟩ := HA.out (by omega)
      subst hao
      obtain ⟨y, hkl, hLk, c0⟩ := in_at hG HN.out hlt
      have kb0 : (0 : Int) ≤ (k : Int) := by omega
      have kb1 : (k : Int) < (n : Int) := by omega
      clear hG
      cases hy : (y == x)
      · have HN2 : Hid ((L.take (k + 1)).any (fun y => y == x) = false) := any_nextG hkl HNO.out (by rw [hLk]; exact hy)
        go_wp2
        go_roundw
        case rel => exact ⟨k + 1, by omega, by go_num, HN2.out, by first | rfl | trivial⟩
        case measure => simp [intOf]; omega
      · have HT : Hid (R = true) := by
          show R = true
          rw [HR.out]
          exact any_hitG hkl (by rw [hLk]; exact hy)
        go_wp2
        go_ret
        exact ⟨by rw [HT.out]; rfl, rfl⟩
    · obtain rfl : k = n := by omega
      have HF : Hid (R = false) := by
        show R = false
        rw [HR.out]
        have := HNO.out
        rwa [← HN.out, List.take_length] at this
      go_wp2
      go_ret
      exact ⟨by rw [HF.out]; rfl, rfl⟩
end Go.Proofs.YtglnnoglbieaeaaGreatDoor
/- What railref2.Touched answers: the switches of ops, rising, each once. -/
namespace Go.Proofs.YtglnnoglbieaeaaGreatDoor
open Go.RowKit
set_option linter.unusedSimpArgs false
set_option linter.unusedVariables false

def ltI (a b : Int) : Bool := decide (a < b)
theorem lo_ltI : LO ltI := lo_int
/-- The switches of ops, rising, each once. -/
def tcL (l : List Op8) : List Int := l.foldl (fun R o => puR ltI o.w R) []
theorem tc_next {l : List Op8} {k : Nat} (hk : k < l.length) : tcL (l.take (k + 1)) = puR ltI l[k].w (tcL (l.take k)) := by
  rw [List.take_succ_eq_append_getElem hk, tcL, tcL, List.foldl_append]
  rfl
theorem tc_ris : ∀ (l : List Op8) (R : List Int), Ris ltI R → Ris ltI (l.foldl (fun R o => puR ltI o.w R) R)
  | [], R, h => h
  | x :: l, R, h => tc_ris l _ (pu_ris lo_ltI x.w h)
theorem tc_few : ∀ (l : List Op8) (R : List Int), (l.foldl (fun R o => puR ltI o.w R) R).length ≤ R.length + l.length
  | [], R => by simp
  | x :: l, R => by
    have h1 := tc_few l (puR ltI x.w R)
    have h2 := pu_len (r := ltI) x.w R
    simp only [List.foldl_cons, List.length_cons]
    omega
theorem tc_mem : ∀ (l : List Op8) (R : List Int) (s : Int), s ∈ l.foldl (fun R o => puR ltI o.w R) R ↔ s ∈ R ∨ ∃ o ∈ l, o.w = s
  | [], R, s => by simp
  | x :: l, R, s => by
    rw [List.foldl_cons, tc_mem l, pu_mem lo_ltI]
    constructor
    · rintro ((rfl | h) | ⟨o, h1, h2⟩)
      · exact .inr ⟨x, by simp, rfl⟩
      · exact .inl h
      · exact .inr ⟨o, by simp [h1], h2⟩
    · rintro (h | ⟨o, h1, h2⟩)
      · exact .inl (.inr h)
      · rcases List.mem_cons.1 h1 with rfl | h1
        · exact .inl (.inl h2.symm)
        · exact .inr ⟨o, h1, h2⟩
theorem hid_len2 {α : Type} {l : List α} {x : α} {k : Nat} (h : l.length = k) : (l ++ [x]).length = k + 1 := by simp [h]
set_option maxHeartbeats 4000000 in
set_option maxRecDepth 100000 in
theorem rtouched_any (ao : Option Addr) (n cap : Nat) (l : List Op8) (w : World) (h : GS opE w (.slice ao n cap) l) (hn0 : n ≤ 2199023255552) :
    Calls Tryz.prog 17 #[.slice ao n cap] w fun e w' => ∃ a3 m c3, e = .returned (.slice a3 m c3) ∧ GS inE w' (.slice a3 m c3) (tcL l) ∧ Below w.heap.size w w' := by
  obtain ⟨_, _, _, e1, hn, hn2, _, ha⟩ := h.form
  cases e1
  have HN : Hid (l.length = n) := hn
  have HA : Hid (0 < n → ∃ g o, ao = some ⟨g, o, none⟩ ∧ GAt opE w g o l ∧ cap ≤ maxLen) := ha
  unfold maxLen at hn2
  clear h hn ha
  go_enter Tryz.func17, Tryz.ntmps17
  go_wp2
  go_loopw [3, 4] (fun v i wr => ∃ (k m c3 : Nat) (a3 : Option Addr), k ≤ n ∧ i = .int .i64 k ∧ v = .slice a3 m c3 ∧ GS inE wr (.slice a3 m c3) (tcL (l.take k)) ∧ SK a3 m c3 ∧ Below w.heap.size w wr) (fun _ i _ => n - (intOf i).toNat)
  case atStart => exact ⟨0, 0, 0, none, by omega, rfl, rfl, .inl ⟨none, 0, rfl, rfl⟩, .inl ⟨rfl, rfl, rfl⟩, Below.refl _ _⟩
  case round =>
    obtain ⟨i, m, c3, a3, hi, rfl, rfl, hG, hSK, hB⟩ := hrel
    obtain ⟨wr0, hw0⟩ : ∃ X, X = wr := ⟨_, rfl⟩
    subst hw0
    have HB : Hid (Below w.heap.size w wr0) := hB
    have HSK : Hid (SK a3 m c3) := hSK
    have HMM : Hid ((tcL (l.take i)).length = m) := hG.len
    have HGR : Hid (∀ W, Below wr0.heap.size wr0 W → GS inE W (.slice a3 m c3) (tcL (l.take i))) := fun W hb => hG.later hb
    have HG0 : Hid (GS inE wr0 (.slice a3 m c3) (tcL (l.take i))) := hG
    have HRI : Hid (Ris ltI (tcL (l.take i))) := tc_ris _ _ List.Pairwise.nil
    have hmn : m ≤ i := by
      have h1 := tc_few (l.take i) []
      have h2 : (l.take i).length ≤ i := List.length_take_le i l
      have h3 := HMM.out
      unfold tcL at h3
      simp only [List.length_nil, Nat.zero_add] at h1
      omega
    clear hG hSK hB
    by_cases hlt : i < n
    · obtain ⟨g, o, hao, hc, _⟩ := HA.out (by omega)
      subst hao
      obtain ⟨x0, x1, x2, x3, x4, x5, x6, x7, hil, hLi, _⟩ := op_at hc HN.out hlt
      have HCO : Hid (∀ W, Below wr0.heap.size wr0 W → W.cell? ⟨g, o + i * 8, none⟩ = some (.int .i64 x0)) := fun W hb => by
        obtain ⟨y0, _, _, _, _, _, _, _, _, e, c0, _⟩ := op_at (hc.later (HB.out.trans (hb.mono HB.out.size))) HN.out hlt
        rw [hLi] at e
        cases e
        exact c0
      have HTN : Hid (tcL (l.take (i + 1)) = puR ltI x0 (tcL (l.take i))) := show _ = _ by
        rw [tc_next hil, hLi]
      obtain ⟨R, hR⟩ : ∃ R, R = tcL (l.take i) := ⟨_, rfl⟩
      rw [← hR] at HMM HGR HG0 HRI HTN
      have ib0 : (0 : Int) ≤ (i : Int) := by omega
      have ib1 : (i : Int) < (n : Int) := by omega
      clear hc hLi hR
      go_upto_region 5 with fail
      go_wp2
      go_loopw [5] (fun q wr => ∃ k : Nat, k ≤ m ∧ q = .int .i64 k ∧ (∀ j x, k ≤ j → R[j]? = some x → ltI x0 x = true) ∧ Below wr0.heap.size wr0 wr) (fun q _ => (intOf q).toNat)
      case atStart => exact ⟨m, Nat.le_refl _, rfl, fun j x hj hx => by
        have := (List.getElem?_eq_some_iff.1 hx).1
        have := HMM.out
        omega, Below.refl _ _⟩
      case round =>
        obtain ⟨k, hk, rfl, hall, hBz⟩ := hrel
        obtain ⟨wz, hwz⟩ : ∃ X, X = wr := ⟨_, rfl⟩
        subst hwz
        have HBZ : Hid (Below wr0.heap.size wr0 wz) := hBz
        have HALL : Hid (∀ j x, k ≤ j → R[j]? = some x → ltI x0 x = true) := hall
        obtain ⟨BQ, hBQ⟩ : ∃ b : Bool, b = (decide (0 < k) && decide (R.getD (k - 1) 0 > x0)) := ⟨_, rfl⟩
        have HBQ : Hid ((decide (0 < k) && decide (R.getD (k - 1) 0 > x0)) = BQ) := hBQ.symm
        clear hall hBz hBQ
        go_upto_region 6 with fail
        go_cut [29] from 15 to 28 (fun q w' => q = .bool BQ ∧ Below wz.heap.size wz w')
        case first =>
          by_cases hk0 : 0 < k
          · obtain ⟨jj, hjj⟩ : ∃ jj, k = jj + 1 := ⟨k - 1, by omega⟩
            obtain ⟨_, _, _, e9, _, _, _, hRa⟩ := (HGR.out _ HBZ.out).form
            cases e9
            obtain ⟨gr, qr, ha3, hGa, _⟩ := hRa (by omega)
            subst ha3
            obtain ⟨xr, hxl, hxr, hcx⟩ := in_at hGa HMM.out (show jj < m by omega)
            have hbq : BQ = decide (xr > x0) := by
              rw [← HBQ.out, hjj]
              simp [List.getD, hxl, hxr]
            have HCQ : Hid (wz.cell? ⟨gr, qr + jj, none⟩ = some (.int .i64 xr) ∧ wz.cell? ⟨g, o + i * 8, none⟩ = some (.int .i64 x0)) := ⟨hcx, HCO.out _ HBZ.out⟩
            have hsub : IntKind.i64.wrap ((k : Int) - 1) = (jj : Int) := by rw [IntKind.wrap_i64]; omega
            have jb0 : (0 : Int) ≤ (jj : Int) := by omega
            have jb1 : (jj : Int) < (m : Int) := by omega
            have kb0 : decide ((0 : Int) < (k : Int)) = true := by simp; omega
            subst hbq
            clear hRa hGa hxr hcx hjj
            as_aux_lemma =>
              refine wp_region_quiet (C := fun W => Below wz.heap.size wz W ∧ W.cell? ⟨gr, qr + jj, none⟩ = some (.int .i64 xr) ∧ W.cell? ⟨g, o + i * 8, none⟩ = some (.int .i64 x0)) (by kernel_rfl) (by kernel_rfl) ⟨Below.drew (Below.refl _ _), HCQ.out⟩ ?_
              simp only [List.toList_toArray]
              go_big_quiet_want
              refine quiet_val (v := .int .i64 (k : Int)) (fun w' hC => ?_) ?_
              · obtain ⟨z0, z1, z2⟩ := hC
                go_simp
              simp only [Act.put, List.setIfInBounds_toArray, List.set_cons_zero, List.set_cons_succ]
              go_big_quiet_on
              go_big_quiet_want
              refine quiet_val (v := .bool true) (fun w' hC => ?_) ?_
              · obtain ⟨z0, z1, z2⟩ := hC
                go_simp
              simp only [Act.put, List.setIfInBounds_toArray, List.set_cons_zero, List.set_cons_succ]
              go_big_quiet_on
              go_big_quiet_want
              refine quiet_val (v := .bool true) (fun w' hC => ?_) ?_
              · obtain ⟨z0, z1, z2⟩ := hC
                go_simp
              simp only [Act.put, List.setIfInBounds_toArray, List.set_cons_zero, List.set_cons_succ]
              go_big_quiet_on
              go_big_quiet_want
              refine quiet_val (v := .slice (some ⟨gr, qr, none⟩) m c3) (fun w' hC => ?_) ?_
              · obtain ⟨z0, z1, z2⟩ := hC
                go_simp
              simp only [Act.put, List.setIfInBounds_toArray, List.set_cons_zero, List.set_cons_succ]
              go_big_quiet_on
              go_big_quiet_want
              refine quiet_val (v := .int .i64 (k : Int)) (fun w' hC => ?_) ?_
              · obtain ⟨z0, z1, z2⟩ := hC
                go_simp
              simp only [Act.put, List.setIfInBounds_toArray, List.set_cons_zero, List.set_cons_succ]
              go_big_quiet_on
              go_big_quiet_want
              refine quiet_val (v := .int .i64 (jj : Int)) (fun w' hC => ?_) ?_
              · obtain ⟨z0, z1, z2⟩ := hC
                go_simp
              simp only [Act.put, List.setIfInBounds_toArray, List.set_cons_zero, List.set_cons_succ]
              go_big_quiet_on
              go_big_quiet_want
              refine quiet_val (v := .pointer (some ⟨gr, qr + jj, none⟩)) (fun w' hC => ?_) ?_
              · obtain ⟨z0, z1, z2⟩ := hC
                go_simp
              simp only [Act.put, List.setIfInBounds_toArray, List.set_cons_zero, List.set_cons_succ]
              go_big_quiet_on
              go_big_quiet_want
              refine quiet_val (v := .int .i64 xr) (fun w' hC => ?_) ?_
              · obtain ⟨z0, z1, z2⟩ := hC
                go_simp
              simp only [Act.put, List.setIfInBounds_toArray, List.set_cons_zero, List.set_cons_succ]
              go_big_quiet_on
              go_big_quiet_want
              refine quiet_val (v := .slice (some ⟨g, o, none⟩) n cap) (fun w' hC => ?_) ?_
              · obtain ⟨z0, z1, z2⟩ := hC
                go_simp
              simp only [Act.put, List.setIfInBounds_toArray, List.set_cons_zero, List.set_cons_succ]
              go_big_quiet_on
              go_big_quiet_want
              refine quiet_val (v := .int .i64 (i : Int)) (fun w' hC => ?_) ?_
              · obtain ⟨z0, z1, z2⟩ := hC
                go_simp
              simp only [Act.put, List.setIfInBounds_toArray, List.set_cons_zero, List.set_cons_succ]
              go_big_quiet_on
              go_big_quiet_want
              refine quiet_val (v := .pointer (some ⟨g, o + i * 8, none⟩)) (fun w' hC => ?_) ?_
              · obtain ⟨z0, z1, z2⟩ := hC
                go_simp
              simp only [Act.put, List.setIfInBounds_toArray, List.set_cons_zero, List.set_cons_succ]
              go_big_quiet_on
              go_big_quiet_want
              refine quiet_val (v := .pointer (some ⟨g, o + i * 8, none⟩)) (fun w' hC => ?_) ?_
              · obtain ⟨z0, z1, z2⟩ := hC
                go_simp
              simp only [Act.put, List.setIfInBounds_toArray, List.set_cons_zero, List.set_cons_succ]
              go_big_quiet_on
              go_big_quiet_want
              refine quiet_val (v := .int .i64 x0) (fun w' hC => ?_) ?_
              · obtain ⟨z0, z1, z2⟩ := hC
                go_simp
              simp only [Act.put, List.setIfInBounds_toArray, List.set_cons_zero, List.set_cons_succ]
              go_big_quiet_on
              go_big_quiet_want
              refine quiet_val (v := .bool (decide (xr > x0))) (fun w' hC => ?_) ?_
              · obtain ⟨z0, z1, z2⟩ := hC
                go_simp
              simp only [Act.put, List.setIfInBounds_toArray, List.set_cons_zero, List.set_cons_succ]
              go_big_quiet_on
              go_big_quiet_want
              refine quiet_val (v := .bool (decide (xr > x0))) (fun w' hC => ?_) ?_
              · obtain ⟨z0, z1, z2⟩ := hC
                go_simp
              simp only [Act.put, List.setIfInBounds_toArray, List.set_cons_zero, List.set_cons_succ]
              go_big_quiet_on
              refine wpQuiet_nil ?_
              intro w' hC
              go_wp2_with fail
              go_meet
              case rel => exact ⟨rfl, hC.1⟩
          · obtain rfl : k = 0 := by omega
            have hbq : BQ = false := by
              rw [← HBQ.out]
              simp
            subst hbq
            as_aux_lemma =>
              refine wp_region_quiet (C := fun W => Below wz.heap.size wz W) (by kernel_rfl) (by kernel_rfl) (Below.drew (Below.refl _ _)) ?_
              simp only [List.toList_toArray]
              go_big_quiet_want
              refine quiet_val (v := .int .i64 0) (fun w' hC => ?_) ?_
              · obtain z0 := hC
                go_simp
              simp only [Act.put, List.setIfInBounds_toArray, List.set_cons_zero, List.set_cons_succ]
              go_big_quiet_on
              go_big_quiet_want
              refine quiet_val (v := .bool false) (fun w' hC => ?_) ?_
              · obtain z0 := hC
                go_simp
              simp only [Act.put, List.setIfInBounds_toArray, List.set_cons_zero, List.set_cons_succ]
              go_big_quiet_on
              go_big_quiet_want
              refine quiet_val (v := .bool false) (fun w' hC => ?_) ?_
              · obtain z0 := hC
                go_simp
              simp only [Act.put, List.setIfInBounds_toArray, List.set_cons_zero, List.set_cons_succ]
              go_big_quiet_on
              go_big_quiet_skip
              go_big_quiet_skip
              go_big_quiet_skip
              go_big_quiet_skip
              go_big_quiet_skip
              go_big_quiet_skip
              go_big_quiet_skip
              go_big_quiet_skip
              go_big_quiet_skip
              go_big_quiet_skip
              go_big_quiet_skip
              go_big_quiet_want
              refine quiet_val (v := .bool false) (fun w' hC => ?_) ?_
              · obtain z0 := hC
                go_simp
              simp only [Act.put, List.setIfInBounds_toArray, List.set_cons_zero, List.set_cons_succ]
              go_big_quiet_on
              refine wpQuiet_nil ?_
              intro w' hC
              go_wp2_with fail
              go_meet
              case rel => exact ⟨rfl, hC⟩
        case rest =>
          obtain ⟨rfl, hbq2⟩ := hcut
          have HBC : Hid (Below wr0.heap.size wr0 wc) := HBZ.out.trans (hbq2.mono HBZ.out.size)
          clear hbq2 HBZ
          cases BQ with
          | true =>
            have hb := HBQ.out
            simp only [Bool.and_eq_true, decide_eq_true_eq] at hb
            have HALL2 : Hid (∀ j x, k - 1 ≤ j → R[j]? = some x → ltI x0 x = true) := fun j x hj hx => by
              by_cases e : j = k - 1
              · subst e
                have h2 := hb.2
                simp only [List.getD, hx, Option.getD_some] at h2
                simpa [ltI] using h2
              · exact HALL.out j x (by omega) hx
            have hk1 : 0 < k := hb.1
            have hsub : IntKind.i64.wrap ((k : Int) - 1) = ((k - 1 : Nat) : Int) := by rw [IntKind.wrap_i64]; omega
            clear hb
            go_wp2
            go_roundw
            case rel => exact ⟨k - 1, by omega, by first | rfl | (simp only [hsub]), HALL2.out, HBC.out⟩
            case measure => simp [intOf, hsub]; omega
          | false =>
            have HNG : Hid (0 < k → R.getD (k - 1) 0 ≤ x0) := fun h => by
              have hb := HBQ.out
              simp [h] at hb
              simpa using hb
            clear HBQ
            obtain ⟨wy, hwy⟩ : ∃ X, X = wc := ⟨_, rfl⟩
            subst hwy
            have HBZ : Hid (Below wr0.heap.size wr0 wy) := HBC.out
            obtain ⟨BQ, hBQ⟩ : ∃ b : Bool, b = (decide (0 < k) && (R.getD (k - 1) 0 == x0)) := ⟨_, rfl⟩
            have HBQ : Hid ((decide (0 < k) && (R.getD (k - 1) 0 == x0)) = BQ) := hBQ.symm
            clear hBQ HBC
            go_upto_region 8 with fail
            go_cut [46] from 32 to 45 (fun q w' => q = .bool BQ ∧ Below wy.heap.size wy w')
            case first =>
              by_cases hk0 : 0 < k
              · obtain ⟨jj, hjj⟩ : ∃ jj, k = jj + 1 := ⟨k - 1, by omega⟩
                obtain ⟨_, _, _, e9, _, _, _, hRa⟩ := (HGR.out _ HBZ.out).form
                cases e9
                obtain ⟨gr, qr, ha3, hGa, _⟩ := hRa (by omega)
                subst ha3
                obtain ⟨xr, hxl, hxr, hcx⟩ := in_at hGa HMM.out (show jj < m by omega)
                have hbq : BQ = (xr == x0) := by
                  rw [← HBQ.out, hjj]
                  simp [List.getD, hxl, hxr]
                have HCQ : Hid (wy.cell? ⟨gr, qr + jj, none⟩ = some (.int .i64 xr) ∧ wy.cell? ⟨g, o + i * 8, none⟩ = some (.int .i64 x0)) := ⟨hcx, HCO.out _ HBZ.out⟩
                have hsub : IntKind.i64.wrap ((k : Int) - 1) = (jj : Int) := by rw [IntKind.wrap_i64]; omega
                have jb0 : (0 : Int) ≤ (jj : Int) := by omega
                have jb1 : (jj : Int) < (m : Int) := by omega
                have kb0 : decide ((0 : Int) < (k : Int)) = true := by simp; omega
                subst hbq
                clear hRa hGa hxr hcx hjj
                as_aux_lemma =>
                  refine wp_region_quiet (C := fun W => Below wy.heap.size wy W ∧ W.cell? ⟨gr, qr + jj, none⟩ = some (.int .i64 xr) ∧ W.cell? ⟨g, o + i * 8, none⟩ = some (.int .i64 x0)) (by kernel_rfl) (by kernel_rfl) ⟨Below.drew (Below.refl _ _), HCQ.out⟩ ?_
                  simp only [List.toList_toArray]
                  go_big_quiet_want
                  refine quiet_val (v := .int .i64 (k : Int)) (fun w' hC => ?_) ?_
                  · obtain ⟨z0, z1, z2⟩ := hC
                    go_simp
                  simp only [Act.put, List.setIfInBounds_toArray, List.set_cons_zero, List.set_cons_succ]
                  go_big_quiet_on
                  go_big_quiet_want
                  refine quiet_val (v := .bool true) (fun w' hC => ?_) ?_
                  · obtain ⟨z0, z1, z2⟩ := hC
                    go_simp
                  simp only [Act.put, List.setIfInBounds_toArray, List.set_cons_zero, List.set_cons_succ]
                  go_big_quiet_on
                  go_big_quiet_want
                  refine quiet_val (v := .bool true) (fun w' hC => ?_) ?_
                  · obtain ⟨z0, z1, z2⟩ := hC
                    go_simp
                  simp only [Act.put, List.setIfInBounds_toArray, List.set_cons_zero, List.set_cons_succ]
                  go_big_quiet_on
                  go_big_quiet_want
                  refine quiet_val (v := .slice (some ⟨gr, qr, none⟩) m c3) (fun w' hC => ?_) ?_
                  · obtain ⟨z0, z1, z2⟩ := hC
                    go_simp
                  simp only [Act.put, List.setIfInBounds_toArray, List.set_cons_zero, List.set_cons_succ]
                  go_big_quiet_on
                  go_big_quiet_want
                  refine quiet_val (v := .int .i64 (k : Int)) (fun w' hC => ?_) ?_
                  · obtain ⟨z0, z1, z2⟩ := hC
                    go_simp
                  simp only [Act.put, List.setIfInBounds_toArray, List.set_cons_zero, List.set_cons_succ]
                  go_big_quiet_on
                  go_big_quiet_want
                  refine quiet_val (v := .int .i64 (jj : Int)) (fun w' hC => ?_) ?_
                  · obtain ⟨z0, z1, z2⟩ := hC
                    go_simp
                  simp only [Act.put, List.setIfInBounds_toArray, List.set_cons_zero, List.set_cons_succ]
                  go_big_quiet_on
                  go_big_quiet_want
                  refine quiet_val (v := .pointer (some ⟨gr, qr + jj, none⟩)) (fun w' hC => ?_) ?_
                  · obtain ⟨z0, z1, z2⟩ := hC
                    go_simp
                  simp only [Act.put, List.setIfInBounds_toArray, List.set_cons_zero, List.set_cons_succ]
                  go_big_quiet_on
                  go_big_quiet_want
                  refine quiet_val (v := .int .i64 xr) (fun w' hC => ?_) ?_
                  · obtain ⟨z0, z1, z2⟩ := hC
                    go_simp
                  simp only [Act.put, List.setIfInBounds_toArray, List.set_cons_zero, List.set_cons_succ]
                  go_big_quiet_on
                  go_big_quiet_want
                  refine quiet_val (v := .slice (some ⟨g, o, none⟩) n cap) (fun w' hC => ?_) ?_
                  · obtain ⟨z0, z1, z2⟩ := hC
                    go_simp
                  simp only [Act.put, List.setIfInBounds_toArray, List.set_cons_zero, List.set_cons_succ]
                  go_big_quiet_on
                  go_big_quiet_want
                  refine quiet_val (v := .int .i64 (i : Int)) (fun w' hC => ?_) ?_
                  · obtain ⟨z0, z1, z2⟩ := hC
                    go_simp
                  simp only [Act.put, List.setIfInBounds_toArray, List.set_cons_zero, List.set_cons_succ]
                  go_big_quiet_on
                  go_big_quiet_want
                  refine quiet_val (v := .pointer (some ⟨g, o + i * 8, none⟩)) (fun w' hC => ?_) ?_
                  · obtain ⟨z0, z1, z2⟩ := hC
                    go_simp
                  simp only [Act.put, List.setIfInBounds_toArray, List.set_cons_zero, List.set_cons_succ]
                  go_big_quiet_on
                  go_big_quiet_want
                  refine quiet_val (v := .pointer (some ⟨g, o + i * 8, none⟩)) (fun w' hC => ?_) ?_
                  · obtain ⟨z0, z1, z2⟩ := hC
                    go_simp
                  simp only [Act.put, List.setIfInBounds_toArray, List.set_cons_zero, List.set_cons_succ]
                  go_big_quiet_on
                  go_big_quiet_want
                  refine quiet_val (v := .int .i64 x0) (fun w' hC => ?_) ?_
                  · obtain ⟨z0, z1, z2⟩ := hC
                    go_simp
                  simp only [Act.put, List.setIfInBounds_toArray, List.set_cons_zero, List.set_cons_succ]
                  go_big_quiet_on
                  go_big_quiet_want
                  refine quiet_val (v := .bool (xr == x0)) (fun w' hC => ?_) ?_
                  · obtain ⟨z0, z1, z2⟩ := hC
                    go_simp
                  simp only [Act.put, List.setIfInBounds_toArray, List.set_cons_zero, List.set_cons_succ]
                  go_big_quiet_on
                  go_big_quiet_want
                  refine quiet_val (v := .bool (xr == x0)) (fun w' hC => ?_) ?_
                  · obtain ⟨z0, z1, z2⟩ := hC
                    go_simp
                  simp only [Act.put, List.setIfInBounds_toArray, List.set_cons_zero, List.set_cons_succ]
                  go_big_quiet_on
                  refine wpQuiet_nil ?_
                  intro w' hC
                  go_wp2_with fail
                  go_meet
                  case rel => exact ⟨rfl, hC.1⟩
              · obtain rfl : k = 0 := by omega
                have hbq : BQ = false := by
                  rw [← HBQ.out]
                  simp
                subst hbq
                as_aux_lemma =>
                  refine wp_region_quiet (C := fun W => Below wy.heap.size wy W) (by kernel_rfl) (by kernel_rfl) (Below.drew (Below.refl _ _)) ?_
                  simp only [List.toList_toArray]
                  go_big_quiet_want
                  refine quiet_val (v := .int .i64 0) (fun w' hC => ?_) ?_
                  · obtain z0 := hC
                    go_simp
                  simp only [Act.put, List.setIfInBounds_toArray, List.set_cons_zero, List.set_cons_succ]
                  go_big_quiet_on
                  go_big_quiet_want
                  refine quiet_val (v := .bool false) (fun w' hC => ?_) ?_
                  · obtain z0 := hC
                    go_simp
                  simp only [Act.put, List.setIfInBounds_toArray, List.set_cons_zero, List.set_cons_succ]
                  go_big_quiet_on
                  go_big_quiet_want
                  refine quiet_val (v := .bool false) (fun w' hC => ?_) ?_
                  · obtain z0 := hC
                    go_simp
                  simp only [Act.put, List.setIfInBounds_toArray, List.set_cons_zero, List.set_cons_succ]
                  go_big_quiet_on
                  go_big_quiet_skip
                  go_big_quiet_skip
                  go_big_quiet_skip
                  go_big_quiet_skip
                  go_big_quiet_skip
                  go_big_quiet_skip
                  go_big_quiet_skip
                  go_big_quiet_skip
                  go_big_quiet_skip
                  go_big_quiet_skip
                  go_big_quiet_skip
                  go_big_quiet_want
                  refine quiet_val (v := .bool false) (fun w' hC => ?_) ?_
                  · obtain z0 := hC
                    go_simp
                  simp only [Act.put, List.setIfInBounds_toArray, List.set_cons_zero, List.set_cons_succ]
                  go_big_quiet_on
                  refine wpQuiet_nil ?_
                  intro w' hC
                  go_wp2_with fail
                  go_meet
                  case rel => exact ⟨rfl, hC⟩
            case rest =>
              obtain ⟨rfl, hbq2⟩ := hcut
              have HBC : Hid (Below wr0.heap.size wr0 wc) := HBZ.out.trans (hbq2.mono HBZ.out.size)
              clear hbq2 HBZ
              cases BQ with
              | true =>
                have hb := HBQ.out
                simp only [Bool.and_eq_true, decide_eq_true_eq, beq_iff_eq] at hb
                have HIN : Hid (puR ltI x0 R = R) := pu_in lo_ltI HRI.out (by
                  have hl : k - 1 < R.length := by have := HMM.out; omega
                  rw [← hb.2]
                  simp [List.getD, hl])
                have HGC : Hid (GS inE wc (.slice a3 m c3) R) := HGR.out _ HBC.out
                have HBW : Hid (Below w.heap.size w wc) := HB.out.trans (HBC.out.mono HB.out.size)
                clear hb
                go_wp2
                go_roundw
                case rel => exact ⟨i + 1, m, c3, a3, by omega, by go_num, rfl, by rw [HTN.out, HIN.out]; exact HGC.out, HSK.out, HBW.out⟩
                case measure => simp [intOf]; omega
              | false =>
                have HLT : Hid (∀ j x, j < k → R[j]? = some x → ltI x x0 = true) := fun j x hj hx => by
                  have hl : k - 1 < R.length := by have := HMM.out; omega
                  have h1 : ltI R[k - 1] x0 = true := by
                    have h2 := HNG.out (by omega)
                    have h3 := HBQ.out
                    have h4 : 0 < k := by omega
                    simp [List.getD, hl, h4] at h2 h3
                    simp only [ltI, decide_eq_true_eq]
                    omega
                  by_cases e : j = k - 1
                  · subst e
                    rw [List.getElem?_eq_getElem hl] at hx
                    cases hx
                    exact h1
                  · exact lo_ltI.tr _ _ _ (ris_lt lo_ltI HRI.out (show j < k - 1 by omega) hx (List.getElem?_eq_getElem hl)) h1
                have HPU : Hid (puR ltI x0 R = R.take k ++ [x0] ++ R.drop k) := pu_at lo_ltI HRI.out (by rw [HMM.out]; exact hk) HALL.out HLT.out
                obtain ⟨wy, hwy⟩ : ∃ X, X = wc := ⟨_, rfl⟩
                subst hwy
                have HWY : Hid (Below w.heap.size w wy) := HB.out.trans (HBC.out.mono HB.out.size)
                have HCY : Hid (∀ W, Below wy.heap.size wy W → W.cell? ⟨g, o + i * 8, none⟩ = some (.int .i64 x0)) := fun W hb => HCO.out W (HBC.out.trans (hb.mono HBC.out.size))
                have hGY := HGR.out _ HBC.out
                obtain ⟨Z1, hq1⟩ : ∃ q, q = R.take k := ⟨_, rfl⟩
                obtain ⟨Z2, hq2⟩ : ∃ q, q = R.drop k := ⟨_, rfl⟩
                have HZ1L : Hid (Z1.length = k) := show Z1.length = k by rw [hq1, List.length_take, HMM.out]; omega
                have HZ2L : Hid (Z2.length = m - k) := show Z2.length = m - k by rw [hq2, List.length_drop, HMM.out]
                have HT1 : Hid (GS inE wy (.slice a3 k c3) Z1) := show GS inE wy (.slice a3 k c3) Z1 by rw [hq1]; exact hGY.take hk
                have HD : Hid (∀ g o, a3 = some ⟨g, o, none⟩ → GS inE wy (.slice (some ⟨g, o + k, none⟩) (m - k) (c3 - k)) Z2) := show ∀ g o, a3 = some ⟨g, o, none⟩ → GS inE wy (.slice (some ⟨g, o + k, none⟩) (m - k) (c3 - k)) Z2 by
                  rintro g o rfl
                  rw [hq2]
                  have := hGY.drop hk
                  simpa [inE] using this
                rw [← hq1, ← hq2] at HPU
                have hmc : m ≤ c3 := by
                  obtain ⟨_, _, _, e, _, _, h, _⟩ := hGY.form
                  cases e
                  exact h
                have HAD : Hid (0 < m → ∃ g o, a3 = some ⟨g, o, none⟩) := fun h => by
                  obtain ⟨_, _, _, e, _, _, _, ha⟩ := hGY.form
                  cases e
                  obtain ⟨g, o, e, _⟩ := ha h
                  exact ⟨g, o, e⟩
                obtain ⟨i0, hi0, hz0, hz1, hz2⟩ := info_parts infoInt
                clear hGY hq1 hq2 HBC HALL HNG HBQ HLT
                rcases HSK.out with ⟨rfl, rfl, rfl⟩ | hm0
                · obtain rfl : k = 0 := by omega
                  have HT2 : Hid (GS inE wy (.slice none 0 0) Z2) := .inl ⟨none, 0, rfl, List.length_eq_zero_iff.1 (by have := HZ2L.out; omega)⟩
                  go_upto_region 10 with fail
                  go_wp2_with (at_builtin; refine wpList_append_GS (E := inE) _ rfl _ _ 56 3 rfl Tryz.underlying56 i0 (.int .i64 0) 8 hi0 hz0 hz1 hz2 rfl wy.heap.size (.slice none 0 0) rfl [] (World.ownsRow_nil _ _ _ _) _ rfl Z1 ?a1 ?a2 ?a3 (Nat.le_refl _) ?_)
                  case a1 => exact HT1.out
                  case a2 => have := HZ1L.out; unfold maxLen; simp; omega
                  case a3 => have := HZ1L.out; simp; omega
                  intro v1 w1 ho1 hg1
                  try rw [List.nil_append] at ho1
                  have hb1 : Below wy.heap.size wy w1 := (Below.refl _ wy).grown hg1 (Nat.le_refl _) (fun g hg => by cases hg)
                  obtain ⟨a1, c1, hv1⟩ := own_form ho1
                  subst hv1
                  rw [HZ1L.out] at ho1 ⊢
                  have HO1 : Hid (w1.ownsRow wy.heap.size 3 inE.n (.slice a1 0 c1) 0 (cellsG inE Z1)) := ho1
                  have HB1 : Hid (Below wy.heap.size wy w1) := hb1
                  have q0 := HCY.out _ hb1
                  clear ho1 hg1 hb1
                  go_upto_region 11 with fail
                  go_wp2_with (at_builtin; refine wpList_append_blk (E := inE) _ rfl _ _ 56 3 rfl Tryz.underlying56 i0 (.int .i64 0) 8 hi0 hz0 hz1 hz2 rfl wy.heap.size (.slice a1 0 c1) rfl Z1 ?m0 w1.heap.size 0 1 rfl x0 (vat_new w1 [.int .i64 x0] 3) ?m1 ?m2 ?m3 ?_)
                  case m0 => rw [HZ1L.out]; exact HO1.out.alloc _
                  case m1 => rw [HZ1L.out]; unfold maxLen; omega
                  case m2 => rw [HZ1L.out]; omega
                  case m3 => have := HB1.out.size; simp; omega
                  intro v2 w2 ho2 hg2 _
                  have hb2 : Below wy.heap.size w1 w2 := ((Below.refl _ w1).alloc HB1.out.size _).grown hg2 (by have := HB1.out.size; simp; omega) (fun g hg => (HO1.out.lt g hg).1)
                  have HB2 : Hid (Below wy.heap.size wy w2) := HB1.out.trans hb2
                  obtain ⟨a2, c2, hv2⟩ := own_form ho2
                  subst hv2
                  have HL2 : Hid ((Z1 ++ [x0]).length = 0 + 1) := hid_len2 HZ1L.out
                  try rw [List.length_append] at ho2 ⊢
                  try simp only [List.length_cons, List.length_nil, Nat.zero_add] at ho2 ⊢
                  rw [HZ1L.out] at ho2 ⊢
                  have HO2 : Hid (w2.ownsRow wy.heap.size 3 inE.n (.slice a2 (0 + 1) c2) (0 + 1) (cellsG inE (Z1 ++ [x0]))) := ho2
                  clear ho2 hg2 hb2 q0
                  go_upto_region 12 with fail
                  go_wp2_with (at_builtin; refine wpList_append_GS (E := inE) _ rfl _ _ 56 3 rfl Tryz.underlying56 i0 (.int .i64 0) 8 hi0 hz0 hz1 hz2 rfl wy.heap.size (.slice a2 (0 + 1) c2) rfl (Z1 ++ [x0]) ?b0 _ rfl Z2 ?b1 ?b2 ?b4 ?b3 ?_)
                  case b0 => rw [HL2.out]; exact HO2.out
                  case b1 => exact HT2.out.later HB2.out
                  case b2 => rw [HL2.out, HZ2L.out]; unfold maxLen; omega
                  case b4 => rw [HL2.out, HZ2L.out]; omega
                  case b3 => exact HB2.out.size
                  intro v3 w3 ho3 hg3
                  have hb3 : Below wy.heap.size w2 w3 := (Below.refl _ w2).grown hg3 HB2.out.size (fun g hg => (HO2.out.lt g hg).1)
                  have HB3 : Hid (Below wy.heap.size wy w3) := HB2.out.trans hb3
                  have hG3 : GS inE w3 v3 (Z1 ++ [x0] ++ Z2) := own_GS (by simpa using ho3)
                  obtain ⟨a9, n9, c9, hv3, hn9, _⟩ := hG3.form
                  subst hv3
                  have HG3 : Hid (GS inE w3 (.slice a9 n9 c9) (Z1 ++ [x0] ++ Z2)) := hG3
                  have hn90 : 0 < n9 := by rw [← hn9]; simp; omega
                  clear ho3 hg3 hb3 hG3 hn9
                  go_wp2
                  go_roundw
                  case rel => exact ⟨i + 1, n9, c9, a9, by omega, by go_num, rfl, by rw [HTN.out, HPU.out]; exact HG3.out, .inr hn90, HWY.out.trans (HB3.out.mono HWY.out.size)⟩
                  case measure => simp [intOf]; omega
                · obtain ⟨gr, qr, rfl⟩ := HAD.out hm0
                  by_cases hck : c3 = k
                  · obtain rfl : m = k := by omega
                    obtain rfl : m = c3 := by omega
                    have HT2 : Hid (GS inE wy (.slice (some ⟨gr, qr, none⟩) 0 0) Z2) := .inl ⟨_, _, rfl, List.length_eq_zero_iff.1 (by have := HZ2L.out; omega)⟩
                    go_upto_region 10 with fail
                    go_wp2_with (at_builtin; refine wpList_append_GS (E := inE) _ rfl _ _ 56 3 rfl Tryz.underlying56 i0 (.int .i64 0) 8 hi0 hz0 hz1 hz2 rfl wy.heap.size (.slice none 0 0) rfl [] (World.ownsRow_nil _ _ _ _) _ rfl Z1 ?a1 ?a2 ?a3 (Nat.le_refl _) ?_)
                    case a1 => exact HT1.out
                    case a2 => have := HZ1L.out; unfold maxLen; simp; omega
                    case a3 => have := HZ1L.out; simp; omega
                    intro v1 w1 ho1 hg1
                    try rw [List.nil_append] at ho1
                    have hb1 : Below wy.heap.size wy w1 := (Below.refl _ wy).grown hg1 (Nat.le_refl _) (fun g hg => by cases hg)
                    obtain ⟨a1, c1, hv1⟩ := own_form ho1
                    subst hv1
                    rw [HZ1L.out] at ho1 ⊢
                    have HO1 : Hid (w1.ownsRow wy.heap.size 3 inE.n (.slice a1 m c1) m (cellsG inE Z1)) := ho1
                    have HB1 : Hid (Below wy.heap.size wy w1) := hb1
                    have q0 := HCY.out _ hb1
                    clear ho1 hg1 hb1
                    go_upto_region 11 with fail
                    go_wp2_with (at_builtin; refine wpList_append_blk (E := inE) _ rfl _ _ 56 3 rfl Tryz.underlying56 i0 (.int .i64 0) 8 hi0 hz0 hz1 hz2 rfl wy.heap.size (.slice a1 m c1) rfl Z1 ?m0 w1.heap.size 0 1 rfl x0 (vat_new w1 [.int .i64 x0] 3) ?m1 ?m2 ?m3 ?_)
                    case m0 => rw [HZ1L.out]; exact HO1.out.alloc _
                    case m1 => rw [HZ1L.out]; unfold maxLen; omega
                    case m2 => rw [HZ1L.out]; omega
                    case m3 => have := HB1.out.size; simp; omega
                    intro v2 w2 ho2 hg2 _
                    have hb2 : Below wy.heap.size w1 w2 := ((Below.refl _ w1).alloc HB1.out.size _).grown hg2 (by have := HB1.out.size; simp; omega) (fun g hg => (HO1.out.lt g hg).1)
                    have HB2 : Hid (Below wy.heap.size wy w2) := HB1.out.trans hb2
                    obtain ⟨a2, c2, hv2⟩ := own_form ho2
                    subst hv2
                    have HL2 : Hid ((Z1 ++ [x0]).length = m + 1) := hid_len2 HZ1L.out
                    try rw [List.length_append] at ho2 ⊢
                    try simp only [List.length_cons, List.length_nil, Nat.zero_add] at ho2 ⊢
                    rw [HZ1L.out] at ho2 ⊢
                    have HO2 : Hid (w2.ownsRow wy.heap.size 3 inE.n (.slice a2 (m + 1) c2) (m + 1) (cellsG inE (Z1 ++ [x0]))) := ho2
                    clear ho2 hg2 hb2 q0
                    go_upto_region 12 with fail
                    go_wp2_with (at_builtin; refine wpList_append_GS (E := inE) _ rfl _ _ 56 3 rfl Tryz.underlying56 i0 (.int .i64 0) 8 hi0 hz0 hz1 hz2 rfl wy.heap.size (.slice a2 (m + 1) c2) rfl (Z1 ++ [x0]) ?b0 _ rfl Z2 ?b1 ?b2 ?b4 ?b3 ?_)
                    case b0 => rw [HL2.out]; exact HO2.out
                    case b1 => exact HT2.out.later HB2.out
                    case b2 => rw [HL2.out, HZ2L.out]; unfold maxLen; omega
                    case b4 => rw [HL2.out, HZ2L.out]; omega
                    case b3 => exact HB2.out.size
                    intro v3 w3 ho3 hg3
                    have hb3 : Below wy.heap.size w2 w3 := (Below.refl _ w2).grown hg3 HB2.out.size (fun g hg => (HO2.out.lt g hg).1)
                    have HB3 : Hid (Below wy.heap.size wy w3) := HB2.out.trans hb3
                    have hG3 : GS inE w3 v3 (Z1 ++ [x0] ++ Z2) := own_GS (by simpa using ho3)
                    obtain ⟨a9, n9, c9, hv3, hn9, _⟩ := hG3.form
                    subst hv3
                    have HG3 : Hid (GS inE w3 (.slice a9 n9 c9) (Z1 ++ [x0] ++ Z2)) := hG3
                    have hn90 : 0 < n9 := by rw [← hn9]; simp; omega
                    clear ho3 hg3 hb3 hG3 hn9
                    go_wp2
                    go_roundw
                    case rel => exact ⟨i + 1, n9, c9, a9, by omega, by go_num, rfl, by rw [HTN.out, HPU.out]; exact HG3.out, .inr hn90, HWY.out.trans (HB3.out.mono HWY.out.size)⟩
                    case measure => simp [intOf]; omega
                  · have HT2 : Hid (GS inE wy (.slice (some ⟨gr, qr + k, none⟩) (m - k) (c3 - k)) Z2) := HD.out gr qr rfl
                    go_upto_region 10 with fail
                    go_wp2_with (at_builtin; refine wpList_append_GS (E := inE) _ rfl _ _ 56 3 rfl Tryz.underlying56 i0 (.int .i64 0) 8 hi0 hz0 hz1 hz2 rfl wy.heap.size (.slice none 0 0) rfl [] (World.ownsRow_nil _ _ _ _) _ rfl Z1 ?a1 ?a2 ?a3 (Nat.le_refl _) ?_)
                    case a1 => exact HT1.out
                    case a2 => have := HZ1L.out; unfold maxLen; simp; omega
                    case a3 => have := HZ1L.out; simp; omega
                    intro v1 w1 ho1 hg1
                    try rw [List.nil_append] at ho1
                    have hb1 : Below wy.heap.size wy w1 := (Below.refl _ wy).grown hg1 (Nat.le_refl _) (fun g hg => by cases hg)
                    obtain ⟨a1, c1, hv1⟩ := own_form ho1
                    subst hv1
                    rw [HZ1L.out] at ho1 ⊢
                    have HO1 : Hid (w1.ownsRow wy.heap.size 3 inE.n (.slice a1 k c1) k (cellsG inE Z1)) := ho1
                    have HB1 : Hid (Below wy.heap.size wy w1) := hb1
                    have q0 := HCY.out _ hb1
                    clear ho1 hg1 hb1
                    go_upto_region 11 with fail
                    go_wp2_with (at_builtin; refine wpList_append_blk (E := inE) _ rfl _ _ 56 3 rfl Tryz.underlying56 i0 (.int .i64 0) 8 hi0 hz0 hz1 hz2 rfl wy.heap.size (.slice a1 k c1) rfl Z1 ?m0 w1.heap.size 0 1 rfl x0 (vat_new w1 [.int .i64 x0] 3) ?m1 ?m2 ?m3 ?_)
                    case m0 => rw [HZ1L.out]; exact HO1.out.alloc _
                    case m1 => rw [HZ1L.out]; unfold maxLen; omega
                    case m2 => rw [HZ1L.out]; omega
                    case m3 => have := HB1.out.size; simp; omega
                    intro v2 w2 ho2 hg2 _
                    have hb2 : Below wy.heap.size w1 w2 := ((Below.refl _ w1).alloc HB1.out.size _).grown hg2 (by have := HB1.out.size; simp; omega) (fun g hg => (HO1.out.lt g hg).1)
                    have HB2 : Hid (Below wy.heap.size wy w2) := HB1.out.trans hb2
                    obtain ⟨a2, c2, hv2⟩ := own_form ho2
                    subst hv2
                    have HL2 : Hid ((Z1 ++ [x0]).length = k + 1) := hid_len2 HZ1L.out
                    try rw [List.length_append] at ho2 ⊢
                    try simp only [List.length_cons, List.length_nil, Nat.zero_add] at ho2 ⊢
                    rw [HZ1L.out] at ho2 ⊢
                    have HO2 : Hid (w2.ownsRow wy.heap.size 3 inE.n (.slice a2 (k + 1) c2) (k + 1) (cellsG inE (Z1 ++ [x0]))) := ho2
                    clear ho2 hg2 hb2 q0
                    go_upto_region 12 with fail
                    go_wp2_with (at_builtin; refine wpList_append_GS (E := inE) _ rfl _ _ 56 3 rfl Tryz.underlying56 i0 (.int .i64 0) 8 hi0 hz0 hz1 hz2 rfl wy.heap.size (.slice a2 (k + 1) c2) rfl (Z1 ++ [x0]) ?b0 _ rfl Z2 ?b1 ?b2 ?b4 ?b3 ?_)
                    case b0 => rw [HL2.out]; exact HO2.out
                    case b1 => exact HT2.out.later HB2.out
                    case b2 => rw [HL2.out, HZ2L.out]; unfold maxLen; omega
                    case b4 => rw [HL2.out, HZ2L.out]; omega
                    case b3 => exact HB2.out.size
                    intro v3 w3 ho3 hg3
                    have hb3 : Below wy.heap.size w2 w3 := (Below.refl _ w2).grown hg3 HB2.out.size (fun g hg => (HO2.out.lt g hg).1)
                    have HB3 : Hid (Below wy.heap.size wy w3) := HB2.out.trans hb3
                    have hG3 : GS inE w3 v3 (Z1 ++ [x0] ++ Z2) := own_GS (by simpa using ho3)
                    obtain ⟨a9, n9, c9, hv3, hn9, _⟩ := hG3.form
                    subst hv3
                    have HG3 : Hid (GS inE w3 (.slice a9 n9 c9) (Z1 ++ [x0] ++ Z2)) := hG3
                    have hn90 : 0 < n9 := by rw [← hn9]; simp; omega
                    clear ho3 hg3 hb3 hG3 hn9
                    go_wp2
                    go_roundw
                    case rel => exact ⟨i + 1, n9, c9, a9, by omega, by go_num, rfl, by rw [HTN.out, HPU.out]; exact HG3.out, .inr hn90, HWY.out.trans (HB3.out.mono HWY.out.size)⟩
                    case measure => simp [intOf]; omega
    · obtain rfl : i = n := by omega
      have HTL : Hid (tcL l = tcL (l.take i)) := show _ = _ by rw [← HN.out, List.take_length]
      go_wp2
      go_ret
      exact ⟨a3, m, c3, rfl, by rw [HTL.out]; exact HG0.out, HB.out⟩
end Go.Proofs.YtglnnoglbieaeaaGreatDoor
/- The switches of ops: sorted, each once: it is tcL. No program in it. -/
namespace Go.Proofs.YtglnnoglbieaeaaGreatDoor
open Go.RowKit Go.Lib
set_option linter.unusedSimpArgs false
set_option linter.unusedVariables false

theorem cu_all (d : Array Int) (hd : ∀ i, i + 1 < d.size → d[i]! ≤ d[i + 1]!) : ∀ m, m ≤ d.size → Ris ltI (compactUpTo d m) ∧ (∀ x ∈ compactUpTo d m, 0 < m ∧ x ≤ d[m - 1]!) ∧ (∀ j, j < m → d[j]! ∈ compactUpTo d m) ∧ (∀ x ∈ compactUpTo d m, ∃ j, j < m ∧ d[j]! = x)
  | 0, _ => by
    have e : compactUpTo d 0 = [] := rfl
    rw [e]
    exact ⟨List.Pairwise.nil, fun x h => by simp at h, fun j h => absurd h (by omega), fun x h => by simp at h⟩
  | m + 1, hm => by
    obtain ⟨h1, h2, h3, h4⟩ := cu_all d hd m (by omega)
    rw [compactUpTo_succ, show m + 1 - 1 = m by omega]
    cases hk : keeps d m
    · have hk2 : ¬(m = 0 ∨ d[m]! ≠ d[m - 1]!) := of_decide_eq_false hk
      rw [not_or] at hk2
      have e : d[m]! = d[m - 1]! := Classical.not_not.1 hk2.2
      simp only [Bool.false_eq_true, if_false, List.append_nil]
      refine ⟨h1, fun x hx => ⟨by omega, by rw [e]; exact (h2 x hx).2⟩, fun j hj => ?_, fun x hx => ?_⟩
      · by_cases ej : j = m
        · rw [ej, e]
          exact h3 (m - 1) (by omega)
        · exact h3 j (by omega)
      · obtain ⟨j, hj, e2⟩ := h4 x hx
        exact ⟨j, by omega, e2⟩
    · have hk2 : m = 0 ∨ d[m]! ≠ d[m - 1]! := of_decide_eq_true hk
      have hlt : ∀ x ∈ compactUpTo d m, x < d[m]! := fun x hx => by
        obtain ⟨h0, hle⟩ := h2 x hx
        have h5 := hd (m - 1) (by omega)
        rw [show m - 1 + 1 = m by omega] at h5
        have h6 : d[m]! ≠ d[m - 1]! := hk2.resolve_left (by omega)
        omega
      simp only [if_true]
      refine ⟨?_, fun x hx => ⟨by omega, ?_⟩, fun j hj => ?_, fun x hx => ?_⟩
      · unfold Ris at h1 ⊢
        rw [List.pairwise_append]
        refine ⟨h1, List.pairwise_singleton _ _, fun x hx y hy => ?_⟩
        obtain rfl : y = d[m]! := by simpa using hy
        simpa [ltI] using hlt x hx
      · rcases List.mem_append.1 hx with hx | hx
        · have := hlt x hx
          omega
        · have : x = d[m]! := by simpa using hx
          omega
      · by_cases ej : j = m
        · rw [ej]
          simp
        · exact List.mem_append_left _ (h3 j (by omega))
      · rcases List.mem_append.1 hx with hx | hx
        · obtain ⟨j, hj, e2⟩ := h4 x hx
          exact ⟨j, by omega, e2⟩
        · have e2 : x = d[m]! := by simpa using hx
          exact ⟨m, by omega, e2.symm⟩
theorem cu_touch (l : List Op8) : compact ((l.map fun o => o.w).mergeSort fun x y => decide (x ≤ y)) = tcL l := by
  obtain ⟨L, hL⟩ : ∃ L, L = (l.map fun o => o.w).mergeSort fun x y => decide (x ≤ y) := ⟨_, rfl⟩
  have hp : L.Perm (l.map fun o => o.w) := by rw [hL]; exact List.mergeSort_perm _ _
  have hs : L.Pairwise (fun x y => decide (x ≤ y) = true) := by
    rw [hL]
    exact List.pairwise_mergeSort (fun a b c h1 h2 => by simp at *; omega) (fun a b => by simp; omega) _
  rw [← hL]
  have hsz : L.toArray.size = L.length := by simp
  have hd : ∀ i, i + 1 < L.toArray.size → L.toArray[i]! ≤ L.toArray[i + 1]! := fun i hi => by
    rw [getElem!_pos L.toArray i (by omega), getElem!_pos L.toArray (i + 1) hi]
    have := List.pairwise_iff_getElem.1 hs i (i + 1) (by omega) (by omega) (by omega)
    simpa using this
  obtain ⟨h1, _, h3, h4⟩ := cu_all L.toArray hd L.length (by omega)
  refine ris_ext lo_ltI h1 (tc_ris l [] List.Pairwise.nil) (fun x => ?_)
  rw [tcL, tc_mem]
  constructor
  · intro hx
    obtain ⟨j, hj, e⟩ := h4 x hx
    rw [getElem!_pos L.toArray j (by omega)] at e
    have hm : x ∈ L := by
      rw [← e]
      simp
    rw [hp.mem_iff, List.mem_map] at hm
    exact .inr hm
  · rintro (h | h)
    · simp at h
    · have hm : x ∈ L := by
        rw [hp.mem_iff, List.mem_map]
        exact h
      obtain ⟨j, hj, e⟩ := List.getElem_of_mem hm
      have := h3 j hj
      rw [getElem!_pos L.toArray j (by omega)] at this
      simp only [List.getElem_toArray] at this
      rw [e] at this
      exact this
end Go.Proofs.YtglnnoglbieaeaaGreatDoor
/- slices.Sort and slices.Compact at []int by their contracts off the shelf, laid at this program. -/
namespace Go.Proofs.YtglnnoglbieaeaaGreatDoor
open Go.Shelf
def sortInt_ren : Go.Shelf.Ren := ⟨fun | 189 => 37 | 125 => 55 | 257 => 67 | 128 => 92 | 129 => 93 | 294 => 107 | 295 => 108 | 296 => 109 | 297 => 110 | 298 => 111 | 299 => 112 | 216 => 113 | 300 => 114 | 301 => 115 | 328 => 142 | 329 => 131 | 330 => 132 | 331 => 143 | 332 => 144 | 215 => 94 | 343 => 160 | n => n, fun | 28 => 56 | 3 => 3 | 46 => 126 | 0 => 0 | 51 => 174 | 53 => 176 | 4 => 4 | 183 => 167 | 182 => 166 | 131 => 171 | 5 => 5 | 9 => 9 | 218 => 209 | 222 => 213 | 228 => 246 | 229 => 247 | n => n, fun | n => n⟩
theorem sortInt : Go.Proofs.Lays.n189 Tryz.prog sortInt_ren := {
  mixed := by kernel_rfl
  f125 := Tryz.func55.trans (congrArg some (by kernel_rfl))
  f128 := Tryz.func92.trans (congrArg some (by kernel_rfl))
  f129 := Tryz.func93.trans (congrArg some (by kernel_rfl))
  f189 := Tryz.func37.trans (congrArg some (by kernel_rfl))
  f215 := Tryz.func94.trans (congrArg some (by kernel_rfl))
  f216 := Tryz.func113.trans (congrArg some (by kernel_rfl))
  f257 := Tryz.func67.trans (congrArg some (by kernel_rfl))
  f294 := Tryz.func107.trans (congrArg some (by kernel_rfl))
  f295 := Tryz.func108.trans (congrArg some (by kernel_rfl))
  f296 := Tryz.func109.trans (congrArg some (by kernel_rfl))
  f297 := Tryz.func110.trans (congrArg some (by kernel_rfl))
  f298 := Tryz.func111.trans (congrArg some (by kernel_rfl))
  f299 := Tryz.func112.trans (congrArg some (by kernel_rfl))
  f300 := Tryz.func114.trans (congrArg some (by kernel_rfl))
  f301 := Tryz.func115.trans (congrArg some (by kernel_rfl))
  f328 := Tryz.func142.trans (congrArg some (by kernel_rfl))
  f329 := Tryz.func131.trans (congrArg some (by kernel_rfl))
  f330 := Tryz.func132.trans (congrArg some (by kernel_rfl))
  f331 := Tryz.func143.trans (congrArg some (by kernel_rfl))
  f332 := Tryz.func144.trans (congrArg some (by kernel_rfl))
  f343 := Tryz.func160.trans (congrArg some (by kernel_rfl))
  t0 := Tryz.underlying0
  a0 := Tryz.isAgg0
  z0 := Tryz.sizeOf0
  v0 := Tryz.zeroValue0
  t3 := Tryz.underlying3
  a3 := Tryz.isAgg3
  z3 := Tryz.sizeOf3
  v3 := Tryz.zeroValue3
  t4 := Tryz.underlying4
  a4 := Tryz.isAgg4
  z4 := Tryz.sizeOf4
  v4 := Tryz.zeroValue4
  t5 := Tryz.underlying5
  a5 := Tryz.isAgg5
  z5 := Tryz.sizeOf5
  v5 := Tryz.zeroValue5
  t9 := Tryz.underlying9
  a9 := Tryz.isAgg9
  z9 := Tryz.sizeOf9
  v9 := Tryz.zeroValue9
  t28 := Tryz.underlying56
  a28 := Tryz.isAgg56
  z28 := Tryz.sizeOf56
  v28 := Tryz.zeroValue56
  t46 := Tryz.underlying126
  a46 := Tryz.isAgg126
  z46 := Tryz.sizeOf126
  v46 := Tryz.zeroValue126
  t51 := Tryz.underlying174
  a51 := Tryz.isAgg174
  z51 := Tryz.sizeOf174
  v51 := Tryz.zeroValue174
  t53 := Tryz.underlying176
  a53 := Tryz.isAgg176
  z53 := Tryz.sizeOf176
  v53 := Tryz.zeroValue176
  t131 := Tryz.underlying171
  a131 := Tryz.isAgg171
  z131 := Tryz.sizeOf171
  v131 := Tryz.zeroValue171
  t182 := Tryz.underlying166
  a182 := Tryz.isAgg166
  z182 := Tryz.sizeOf166
  v182 := Tryz.zeroValue166
  t183 := Tryz.underlying167
  a183 := Tryz.isAgg167
  z183 := Tryz.sizeOf167
  v183 := Tryz.zeroValue167
  t218 := Tryz.underlying209
  a218 := Tryz.isAgg209
  z218 := Tryz.sizeOf209
  v218 := Tryz.zeroValue209
  t222 := Tryz.underlying213
  a222 := Tryz.isAgg213
  z222 := Tryz.sizeOf213
  v222 := Tryz.zeroValue213
  t228 := Tryz.underlying246
  a228 := Tryz.isAgg246
  z228 := Tryz.sizeOf246
  v228 := Tryz.zeroValue246
  t229 := Tryz.underlying247
  a229 := Tryz.isAgg247
  z229 := Tryz.sizeOf247
  v229 := Tryz.zeroValue247 }
def compactInt_ren : Go.Shelf.Ren := ⟨fun | 20 => 38 | n => n, fun | 22 => 56 | 3 => 3 | 4 => 4 | 0 => 0 | n => n, fun | n => n⟩
theorem compactInt : Go.Proofs.Lays2.n20 Tryz.prog compactInt_ren := {
  mixed := by kernel_rfl
  f20 := Tryz.func38.trans (congrArg some (by kernel_rfl))
  t0 := Tryz.underlying0
  a0 := Tryz.isAgg0
  z0 := Tryz.sizeOf0
  v0 := Tryz.zeroValue0
  t3 := Tryz.underlying3
  a3 := Tryz.isAgg3
  z3 := Tryz.sizeOf3
  v3 := Tryz.zeroValue3
  t4 := Tryz.underlying4
  a4 := Tryz.isAgg4
  z4 := Tryz.sizeOf4
  v4 := Tryz.zeroValue4
  t22 := Tryz.underlying56
  a22 := Tryz.isAgg56
  z22 := Tryz.sizeOf56
  v22 := Tryz.zeroValue56
  i3 := by kernel_rfl }
end Go.Proofs.YtglnnoglbieaeaaGreatDoor
/- What mix.Touched answers: the switches of ops, rising, each once. -/
namespace Go.Proofs.YtglnnoglbieaeaaGreatDoor
open Go.RowKit Go.Shelf Go.Sort
set_option linter.unusedSimpArgs false
set_option linter.unusedVariables false

theorem holds_ints {w : World} {B e g cap : Nat} {L : List Int} (ho : w.ownsRow B e inE.n (.slice (some ⟨g, 0, none⟩) L.length cap) L.length (cellsG inE L)) : Holds (Value.int .i64) w g 0 L.toArray := by
  intro j hj
  have hj2 : j < L.length := by simpa using hj
  refine ⟨?_, ?_⟩
  · rw [Nat.zero_add, ho.cellAt j (by show j < L.length * 1; omega)]
    have h1 := cellsG_at (E := inE) L j hj2 0 (by decide)
    have e1 : j * inE.n + 0 = j := by show j * 1 + 0 = j; omega
    rw [e1] at h1
    rw [h1, getElem!_pos L.toArray j hj]
    rfl
  · rw [Nat.zero_add]
    exact ho.frozenAt j
theorem below_row {base : Nat} {w : World} (g off m : Nat) (d : Array Int) (os : Array Obj) (hg : base ≤ g) (hb : base ≤ w.heap.size) : Below base w (grow (putRow (Value.int .i64) (Sort.ahead w m) g off d) os) := by
  have hs : (putRow (Value.int .i64) (Sort.ahead w m) g off d).heap.size = w.heap.size := by simp
  refine ⟨rfl, rfl, rfl, ?_, fun j hj => ?_⟩
  · show w.heap.size ≤ ((putRow (Value.int .i64) (Sort.ahead w m) g off d).heap ++ os).size
    rw [Array.size_append, hs]
    omega
  · show ((putRow (Value.int .i64) (Sort.ahead w m) g off d).heap ++ os)[j]? = _
    rw [Array.getElem?_append_left (by rw [hs]; omega)]
    show ((w.heap).modify g _)[j]? = _
    rw [Array.getElem?_modify, if_neg (by omega)]
theorem holds_row {w : World} {g m : Nat} {d0 d : Array Int} {os : Array Obj} (h : Holds (Value.int .i64) w g 0 d0) (hs : d.size = d0.size) : Holds (Value.int .i64) (grow (putRow (Value.int .i64) (Sort.ahead w m) g 0 d) os) g 0 d := by
  have h2 := holds_putRow (Value.int .i64) (Sort.ahead w m) g 0 d0 d (holds_ahead _ w m g 0 d0 h) hs
  intro j hj
  obtain ⟨c1, c2⟩ := h2 j hj
  have hl : g < (putRow (Value.int .i64) (Sort.ahead w m) g 0 d).heap.size := World.block_lt_of_cell? _ _ c1
  have e : (grow (putRow (Value.int .i64) (Sort.ahead w m) g 0 d) os).heap[g]? = (putRow (Value.int .i64) (Sort.ahead w m) g 0 d).heap[g]? := by
    show ((putRow (Value.int .i64) (Sort.ahead w m) g 0 d).heap ++ os)[g]? = _
    rw [Array.getElem?_append_left hl]
  exact ⟨(World.cell?_of_block e).trans c1, (World.frozen?_of_block e).trans c2⟩
theorem gs_holds {w : World} {g n cap : Nat} {d : Array Int} {L : List Int} (h : Holds (Value.int .i64) w g 0 d) (hn : n ≤ cap) (hc : cap ≤ maxLen) (hL : L.length = n) (hd : ∀ j x, L[j]? = some x → j < d.size ∧ d[j]! = x) : GS inE w (.slice (some ⟨g, 0, none⟩) n cap) L := by
  refine .inr ⟨g, 0, cap, by rw [hL], by omega, hc, fun i hi j u hu => ?_⟩
  obtain ⟨h1, h2⟩ := hd i L[i] (List.getElem?_eq_getElem hi)
  have hj : j = 0 := by
    have := (List.getElem?_eq_some_iff.1 hu).1
    rw [inE.len] at this
    have e : inE.n = 1 := rfl
    omega
  subst hj
  have e : u = .int .i64 L[i] := by
    have : (inE.c L[i])[0]? = some (.int .i64 L[i]) := rfl
    rw [this] at hu
    cases hu
    rfl
  rw [e, ← h2]
  have := (h i h1).1
  have e2 : 0 + i * inE.n + 0 = 0 + i := by show 0 + i * 1 + 0 = 0 + i; omega
  rw [e2]
  exact this
theorem sort_ints (g cap : Nat) (zs : List Int) (w : World) (hH : Holds (Value.int .i64) w g 0 zs.toArray) (hblk : g < w.heap.size) (hsz : zs.length < 4611686018427387904) :
    Calls Tryz.prog 37 #[.slice (some ⟨g, 0, none⟩) zs.length cap] w fun e w' => e = .returned (.tuple #[]) ∧ ∃ n os, w' = grow (putRow (Value.int .i64) (Sort.ahead w n) g 0 (zs.mergeSort fun x y => decide (x ≤ y)).toArray) os := Any.slices_Sort_int sortInt g 0 cap zs w hH hblk hsz
theorem sort_none (p : Option Addr) (cap : Nat) (w : World) : Calls Tryz.prog 37 #[.slice p 0 cap] w fun e w' => e = .returned (.tuple #[]) ∧ w' = w := Any.slices_Sort_int_none sortInt p cap w
theorem comp_ints (g cap : Nat) (zs : List Int) (w : World) (hH : Holds (Value.int .i64) w g 0 zs.toArray) (hsz : zs.length ≤ 9223372036854775807) (hcap : zs.length ≤ cap) :
    Calls Tryz.prog 38 #[.slice (some ⟨g, 0, none⟩) zs.length cap] w fun e w' => e = .returned (.slice (some ⟨g, 0, none⟩) (Lib.compact zs).length cap) ∧ ∃ q, w' = putRow (Value.int .i64) (Sort.ahead w q) g 0 (Lib.compact zs ++ List.replicate (zs.length - (Lib.compact zs).length) 0).toArray := Any.slices_Compact_int compactInt g 0 cap zs w hH hsz hcap
theorem comp_none (p : Option Addr) (cap : Nat) (w : World) : Calls Tryz.prog 38 #[.slice p 0 cap] w fun e w' => e = .returned (.slice p 0 cap) ∧ w' = w := Any.slices_Compact_int_empty compactInt p cap w
theorem comp_few (zs : List Int) : (Lib.compact zs).length ≤ zs.length := by
  unfold Lib.compact Lib.compactUpTo
  rw [List.length_map]
  have := List.length_filter_le (Lib.keeps zs.toArray) (List.range zs.length)
  rw [List.length_range] at this
  exact this
theorem grow_no (w : World) : grow w #[] = w := by simp [grow]
set_option maxHeartbeats 4000000 in
set_option maxRecDepth 100000 in
theorem touched_any (ao : Option Addr) (n cap : Nat) (l : List Op8) (w : World) (h : GS opE w (.slice ao n cap) l) (hn0 : n ≤ 2199023255552) :
    Calls Tryz.prog 16 #[.slice ao n cap] w fun e w' => ∃ a3 m c3, e = .returned (.slice a3 m c3) ∧ GS inE w' (.slice a3 m c3) (tcL l) ∧ Below w.heap.size w w' := by
  obtain ⟨_, _, _, e1, hn, hn2, _, ha⟩ := h.form
  cases e1
  have HN : Hid (l.length = n) := hn
  have HA : Hid (0 < n → ∃ g o, ao = some ⟨g, o, none⟩ ∧ GAt opE w g o l ∧ cap ≤ maxLen) := ha
  obtain ⟨i0, hi0, hz0, hz1, hz2⟩ := info_parts infoInt
  unfold maxLen at hn2
  clear h hn ha
  go_enter Tryz.func16, Tryz.ntmps16
  go_wp2
  go_loopw [3, 8] (fun v i wr => ∃ k : Nat, k ≤ n ∧ i = .int .i64 k ∧ wr.ownsRow w.heap.size 3 inE.n v k (cellsG inE ((l.take k).map fun o => o.w)) ∧ Below w.heap.size w wr) (fun _ i _ => n - (intOf i).toNat)
  case atStart => exact ⟨0, by omega, rfl, World.ownsRow_nil _ _ _ _, Below.refl _ _⟩
  case round =>
    obtain ⟨k, hk, rfl, hO, hB⟩ := hrel
    obtain ⟨wr0, hw0⟩ : ∃ X, X = wr := ⟨_, rfl⟩
    subst hw0
    have HB : Hid (Below w.heap.size w wr0) := hB
    have HKL : Hid (((l.take k).map fun o => o.w).length = k) := show _ = _ by
      rw [List.length_map, List.length_take, HN.out]
      omega
    obtain ⟨a5, c5, hv5⟩ := own_form hO
    subst hv5
    have HO : Hid (wr0.ownsRow w.heap.size 3 inE.n (.slice a5 k c5) k (cellsG inE ((l.take k).map fun o => o.w))) := hO
    clear hO
    by_cases hlt : k < n
    · obtain ⟨g, o, hao, hc, _⟩ := HA.out (by omega)
      subst hao
      obtain ⟨x0, x1, x2, x3, x4, x5, x6, x7, hil, hLi, c0, c1, c2, c3, c4, c6, c7, c8⟩ := op_at (hc.later hB) HN.out hlt
      have kb0 : (0 : Int) ≤ (k : Int) := by omega
      have kb1 : (k : Int) < (n : Int) := by omega
      have HTN : Hid (((l.take (k + 1)).map fun o => o.w) = ((l.take k).map fun o => o.w) ++ [x0]) := show _ = _ by
        rw [List.take_succ_eq_append_getElem hil, List.map_append, hLi]
        rfl
      have hb1 : Below w.heap.size w (wr0.alloc (Obj.cells #[.int .i64 x0, .bool x1, .int .i64 x2, .int .i64 x3, .int .i64 x4, .int .i64 x5, .int .i64 x6, .int .i64 x7] 68)) := hB.alloc hB.size _
      have hr1 := (vat_new wr0 [.int .i64 x0, .bool x1, .int .i64 x2, .int .i64 x3, .int .i64 x4, .int .i64 x5, .int .i64 x6, .int .i64 x7] 68) 0 _ rfl
      have ho1 := HO.out.alloc (Obj.cells #[.int .i64 x0, .bool x1, .int .i64 x2, .int .i64 x3, .int .i64 x4, .int .i64 x5, .int .i64 x6, .int .i64 x7] 68)
      obtain ⟨w1, hw1⟩ : ∃ W, wr0.alloc (Obj.cells #[.int .i64 x0, .bool x1, .int .i64 x2, .int .i64 x3, .int .i64 x4, .int .i64 x5, .int .i64 x6, .int .i64 x7] 68) = W := ⟨_, rfl⟩
      rw [hw1] at hb1 hr1 ho1
      have HW1 : Hid (wr0.alloc (Obj.cells #[.int .i64 x0, .bool x1, .int .i64 x2, .int .i64 x3, .int .i64 x4, .int .i64 x5, .int .i64 x6, .int .i64 x7] 68) = w1) := hw1
      have HB1 : Hid (Below w.heap.size w w1) := hb1
      have HO1 : Hid (w1.ownsRow w.heap.size 3 inE.n (.slice a5 k c5) k (cellsG inE ((l.take k).map fun o => o.w))) := ho1
      simp only [Nat.zero_add] at hr1
      clear hB hc hLi hb1 ho1 hw1
      go_upto_region 5 with fail
      rw [HW1.out]
      clear HW1
      go_wp2_with (at_builtin; refine wpList_append_blk (E := inE) _ rfl _ _ 56 3 rfl Tryz.underlying56 i0 (.int .i64 0) 8 hi0 hz0 hz1 hz2 rfl w.heap.size (.slice a5 k c5) rfl ((l.take k).map fun o => o.w) ?m0 w1.heap.size 0 1 rfl x0 (vat_new w1 [.int .i64 x0] 3) ?m1 ?m2 ?m3 ?_)
      case m0 => rw [HKL.out]; exact HO1.out.alloc _
      case m1 => rw [HKL.out]; unfold maxLen; omega
      case m2 => rw [HKL.out]; omega
      case m3 => have := HB1.out.size; simp; omega
      intro v2 w2 ho2 hg2 _
      have HB2 : Hid (Below w.heap.size w w2) := (HB1.out.alloc HB1.out.size _).grown hg2 (by have := HB1.out.size; simp; omega) (fun g hg => (HO1.out.lt g hg).1)
      have HO2 : Hid (w2.ownsRow w.heap.size 3 inE.n v2 (k + 1) (cellsG inE ((l.take (k + 1)).map fun o => o.w))) := show World.ownsRow _ _ _ _ _ _ _ by
        rw [HTN.out]
        have e : (((l.take k).map fun o => o.w) ++ [x0]).length = k + 1 := hid_len2 HKL.out
        rw [← e]
        simpa using ho2
      clear ho2 hg2 hr1 c0 c1 c2 c3 c4 c6 c7 c8
      go_wp2
      go_roundw
      case rel => exact ⟨k + 1, by omega, by go_num, HO2.out, HB2.out⟩
      case measure => simp [intOf]; omega
    · obtain rfl : k = n := by omega
      have HALL : Hid (((l.take k).map fun o => o.w) = l.map fun o => o.w) := show _ = _ by rw [← HN.out, List.take_length]
      clear hB
      rcases HO.out with ⟨_, ⟨hv, hk0⟩ | ⟨g, cp, cur, hv, hg, hcur, hnc, hcm, _, _⟩⟩
      · cases hv
        have HT0 : Hid (tcL l = []) := show _ = _ by
          have : l = [] := List.length_eq_zero_iff.1 HN.out
          rw [this]
          rfl
        go_wp2_with fail
        refine (sort_none none 0 _).mono ?_
        rintro e w2 ⟨rfl, hw2⟩
        rw [hw2]
        clear hw2 w2
        go_wp2_with fail
        refine (comp_none none 0 _).mono ?_
        rintro e w2 ⟨rfl, hw2⟩
        rw [hw2]
        clear hw2 w2
        go_wp2
        go_ret
        exact ⟨none, 0, 0, rfl, by rw [HT0.out]; exact .inl ⟨none, 0, rfl, rfl⟩, HB.out⟩
      · cases hv
        have hH := holds_ints (L := l.map fun o => o.w) (by rw [← HALL.out, HKL.out]; exact HO.out)
        have hgl : g < wr0.heap.size := by
          have := (Array.getElem?_eq_some_iff.1 hcur).1
          exact this
        have HLL : Hid ((l.map fun o => o.w).length = k) := show _ = _ by rw [List.length_map, HN.out]
        have HH : Hid (Holds (Value.int .i64) wr0 g 0 (l.map fun o => o.w).toArray) := hH
        have HGC : Hid (w.heap.size ≤ g ∧ k ≤ c5 ∧ c5 ≤ maxLen ∧ g < wr0.heap.size) := ⟨hg, hnc, hcm, hgl⟩
        obtain ⟨M, hM⟩ : ∃ M, M = (l.map fun o => o.w).mergeSort fun x y => decide (x ≤ y) := ⟨_, rfl⟩
        have HML : Hid (M.length = k) := show _ = _ by rw [hM, List.length_mergeSort, HLL.out]
        have HMT : Hid (Lib.compact M = tcL l) := show _ = _ by rw [hM]; exact cu_touch l
        have HSO := sort_ints g c5 (l.map fun o => o.w) wr0 hH hgl (by rw [HLL.out]; omega)
        rw [HLL.out, ← hM] at HSO
        clear hH hcur hnc hcm hgl hM
        go_wp2_with fail
        refine HSO.mono ?_
        rintro e w2 ⟨rfl, q, os, hw2⟩
        have hH2 : Holds (Value.int .i64) w2 g 0 M.toArray := by
          rw [hw2]
          exact holds_row HH.out (by simp [HML.out, HLL.out])
        have hB2 : Below w.heap.size w w2 := by
          rw [hw2]
          exact HB.out.trans (below_row g 0 q _ os HGC.out.1 HB.out.size)
        have HH2 : Hid (Holds (Value.int .i64) w2 g 0 M.toArray) := hH2
        have HB2 : Hid (Below w.heap.size w w2) := hB2
        have HCO := comp_ints g c5 M w2 hH2 (by rw [HML.out]; omega) (by rw [HML.out]; exact HGC.out.2.1)
        rw [HML.out] at HCO
        clear hH2 hB2 hw2 HSO
        go_wp2_with fail
        refine HCO.mono ?_
        rintro e w3 ⟨rfl, q3, hw3⟩
        have hfew := comp_few M
        have HB3 : Hid (Below w.heap.size w w3) := show Below _ _ _ by
          rw [hw3, ← grow_no (putRow _ _ _ _ _)]
          exact HB2.out.trans (below_row g 0 q3 _ #[] HGC.out.1 HB2.out.size)
        have HG3 : Hid (GS inE w3 (.slice (some ⟨g, 0, none⟩) (Lib.compact M).length c5) (tcL l)) := show GS _ _ _ _ by
          have hh : Holds (Value.int .i64) w3 g 0 (Lib.compact M ++ List.replicate (k - (Lib.compact M).length) 0).toArray := by
            rw [hw3, ← grow_no (putRow _ _ _ _ _)]
            exact holds_row HH2.out (by have := HML.out; simp; omega)
          refine gs_holds hh (by have := HML.out; have := HGC.out; omega) HGC.out.2.2.1 (by rw [HMT.out]) (fun j x hx => ?_)
          rw [← HMT.out] at hx
          have hj := (List.getElem?_eq_some_iff.1 hx).1
          have hj2 : j < (Lib.compact M ++ List.replicate (k - (Lib.compact M).length) 0).toArray.size := by simp; omega
          refine ⟨hj2, ?_⟩
          rw [getElem!_pos _ j hj2]
          simp only [List.getElem_toArray]
          rw [List.getElem_append_left hj]
          exact (List.getElem?_eq_some_iff.1 hx).2
        clear hw3 hfew HCO
        go_wp2
        go_ret
        exact ⟨_, _, _, rfl, HG3.out, HB3.out⟩
end Go.Proofs.YtglnnoglbieaeaaGreatDoor
/- Which wish is broken first by what may be seen, while tables change: WishMath's functions over MixMath2's. No program in it. -/
namespace Go.Proofs.YtglnnoglbieaeaaGreatDoor
open Go.RowKit
set_option linter.unusedVariables false
set_option linter.unusedSimpArgs false

section
variable (Ls : List ((Int × Int) × (Int × Int))) (Hs : List (ByteArray × (Int × Int))) (As Bs : List (List Ru))
/-- Does what may be seen, of that host, break a wish? -/
def bsB (w : Wi) (x : ByteArray × (Int × Int)) (h : Int) : Bool := (seeL Ls Hs As Bs x.2 h).any fun F => !fiB w x.1 F
/-- The least of the first k headers that does, or -1. -/
def bsH (w : Wi) (x : ByteArray × (Int × Int)) : Nat → Int
  | 0 => -1
  | k + 1 => if bsH w x k < 0 then (if bsB Ls Hs As Bs w x (k : Int) then (k : Int) else -1) else bsH w x k
/-- The first of k hosts that does, and its header. -/
def bsX (w : Wi) (Xs : List (ByteArray × (Int × Int))) : Nat → Option (Nat × Int)
  | 0 => none
  | k + 1 => match bsX w Xs k with
    | some x => some x
    | none => if 0 ≤ bsH Ls Hs As Bs w (Xs.getD k zeO) 16 then some (k, bsH Ls Hs As Bs w (Xs.getD k zeO) 16) else none
/-- The first of k wishes that is broken, and by what. -/
def bsW (l : List Wi) (Xs : List (ByteArray × (Int × Int))) : Nat → Option (Nat × Nat × Int)
  | 0 => none
  | k + 1 => match bsW l Xs k with
    | some x => some x
    | none => match bsX Ls Hs As Bs (l.getD k zeW) Xs Xs.length with
      | some p => some (k, p.1, p.2)
      | none => none
end
section
variable {Ls : List ((Int × Int) × (Int × Int))} {Hs : List (ByteArray × (Int × Int))} {As Bs : List (List Ru)}
theorem bsH_bd (w : Wi) (x : ByteArray × (Int × Int)) : ∀ k : Nat, -1 ≤ bsH Ls Hs As Bs w x k ∧ bsH Ls Hs As Bs w x k < k
  | 0 => by simp [bsH]
  | k + 1 => by
    have := bsH_bd w x k
    unfold bsH
    split
    · split <;> omega
    · omega
theorem bsH_le {w : Wi} {x : ByteArray × (Int × Int)} {k : Nat} (h : 0 ≤ bsH Ls Hs As Bs w x k) : ∀ {n : Nat}, k ≤ n → bsH Ls Hs As Bs w x n = bsH Ls Hs As Bs w x k
  | 0, hn => by
    obtain rfl : k = 0 := by omega
    rfl
  | n + 1, hn => by
    by_cases e : k = n + 1
    · subst e; rfl
    · have := bsH_le h (show k ≤ n by omega)
      rw [bsH, if_neg (by rw [this]; omega), this]
/-- The next one does not. -/
theorem bsH_no {w : Wi} {x : ByteArray × (Int × Int)} {k : Nat} (h : bsH Ls Hs As Bs w x k < 0) (h2 : bsB Ls Hs As Bs w x (k : Int) = false) : bsH Ls Hs As Bs w x (k + 1) < 0 := by
  rw [bsH, if_pos h, h2]
  simp
/-- The next one does. -/
theorem bsH_yes {w : Wi} {x : ByteArray × (Int × Int)} {k : Nat} (hk : k < 16) (h : bsH Ls Hs As Bs w x k < 0) (h2 : bsB Ls Hs As Bs w x (k : Int) = true) : bsH Ls Hs As Bs w x 16 = k := by
  have e : bsH Ls Hs As Bs w x (k + 1) = k := by
    rw [bsH, if_pos h, h2]
    simp
  rw [bsH_le (k := k + 1) (by rw [e]; omega) (by omega), e]
theorem bsH_some {w : Wi} {x : ByteArray × (Int × Int)} : ∀ {k : Nat}, 0 ≤ bsH Ls Hs As Bs w x k → bsB Ls Hs As Bs w x (bsH Ls Hs As Bs w x k) = true
  | 0, h => by simp [bsH] at h
  | k + 1, h => by
    by_cases e : bsH Ls Hs As Bs w x k < 0
    · cases h2 : bsB Ls Hs As Bs w x (k : Int) with
      | false =>
        have := bsH_no e h2
        omega
      | true =>
        have e2 : bsH Ls Hs As Bs w x (k + 1) = k := by
          rw [bsH, if_pos e, h2]
          simp
        rw [e2]
        exact h2
    · have e2 : bsH Ls Hs As Bs w x (k + 1) = bsH Ls Hs As Bs w x k := by rw [bsH, if_neg e]
      rw [e2]
      exact bsH_some (by omega)
theorem bsH_none {w : Wi} {x : ByteArray × (Int × Int)} : ∀ {k : Nat}, bsH Ls Hs As Bs w x k < 0 → ∀ j, j < k → bsB Ls Hs As Bs w x (j : Int) = false
  | 0, _, j, hj => by omega
  | k + 1, h, j, hj => by
    by_cases e : bsH Ls Hs As Bs w x k < 0
    · cases h2 : bsB Ls Hs As Bs w x (k : Int) with
      | false =>
        by_cases ej : j = k
        · subst ej; exact h2
        · exact bsH_none e j (by omega)
      | true =>
        rw [bsH, if_pos e, h2] at h
        simp at h
        omega
    · rw [bsH, if_neg e] at h
      exact absurd h e
/-- Who does not ask is not broken. -/
theorem bsB_off {w : Wi} {x : ByteArray × (Int × Int)} (h : abW w x.1 = false) (k : Int) : bsB Ls Hs As Bs w x k = false := by simp [bsB, fiB, h]
theorem bsH_off {w : Wi} {x : ByteArray × (Int × Int)} (h : abW w x.1 = false) : ∀ k : Nat, bsH Ls Hs As Bs w x k = -1
  | 0 => rfl
  | k + 1 => by
    rw [bsH, bsH_off h k, bsB_off h]
    simp
variable {Xs : List (ByteArray × (Int × Int))}
theorem bsX_le {w : Wi} {k : Nat} {p : Nat × Int} (h : bsX Ls Hs As Bs w Xs k = some p) : ∀ {n : Nat}, k ≤ n → bsX Ls Hs As Bs w Xs n = some p
  | 0, hn => by
    obtain rfl : k = 0 := by omega
    exact h
  | n + 1, hn => by
    by_cases e : k = n + 1
    · subst e; exact h
    · rw [bsX, bsX_le h (show k ≤ n by omega)]
theorem bsX_no {w : Wi} {k : Nat} (hk : k < Xs.length) (h : bsX Ls Hs As Bs w Xs k = none) (h2 : bsH Ls Hs As Bs w Xs[k] 16 < 0) : bsX Ls Hs As Bs w Xs (k + 1) = none := by
  rw [bsX, h]
  simp only
  rw [getO hk, if_neg (by omega)]
theorem bsX_yes {w : Wi} {k : Nat} (hk : k < Xs.length) (h : bsX Ls Hs As Bs w Xs k = none) (h2 : 0 ≤ bsH Ls Hs As Bs w Xs[k] 16) : bsX Ls Hs As Bs w Xs Xs.length = some (k, bsH Ls Hs As Bs w Xs[k] 16) := by
  refine bsX_le (k := k + 1) ?_ (by omega)
  rw [bsX, h]
  simp only
  rw [getO hk, if_pos h2]
theorem bsX_some {w : Wi} : ∀ {k : Nat} {p : Nat × Int}, bsX Ls Hs As Bs w Xs k = some p → p.1 < k ∧ 0 ≤ p.2 ∧ p.2 < 16 ∧ bsB Ls Hs As Bs w (Xs.getD p.1 zeO) p.2 = true
  | 0, p, h => by cases h
  | k + 1, p, h => by
    rw [bsX] at h
    cases e : bsX Ls Hs As Bs w Xs k with
    | some q =>
      rw [e] at h
      cases h
      obtain ⟨h1, h2⟩ := bsX_some e
      exact ⟨by omega, h2⟩
    | none =>
      rw [e] at h
      simp only at h
      split at h
      · next h0 =>
        cases h
        have := bsH_bd (Ls := Ls) (Hs := Hs) (As := As) (Bs := Bs) w (Xs.getD k zeO) 16
        exact ⟨by simp, h0, by simp only; omega, bsH_some h0⟩
      · cases h
theorem bsX_none {w : Wi} : ∀ {k : Nat}, bsX Ls Hs As Bs w Xs k = none → ∀ j, j < k → ∀ h : Nat, h < 16 → bsB Ls Hs As Bs w (Xs.getD j zeO) (h : Int) = false
  | 0, _, j, hj => by omega
  | k + 1, h, j, hj => by
    rw [bsX] at h
    cases e : bsX Ls Hs As Bs w Xs k with
    | some q => rw [e] at h; cases h
    | none =>
      rw [e] at h
      simp only at h
      split at h
      · cases h
      · next h0 =>
        by_cases ej : j = k
        · subst ej
          exact bsH_none (by omega)
        · exact bsX_none e j (by omega)
variable {l : List Wi}
theorem bsW_le {k : Nat} {p : Nat × Nat × Int} (h : bsW Ls Hs As Bs l Xs k = some p) : ∀ {n : Nat}, k ≤ n → bsW Ls Hs As Bs l Xs n = some p
  | 0, hn => by
    obtain rfl : k = 0 := by omega
    exact h
  | n + 1, hn => by
    by_cases e : k = n + 1
    · subst e; exact h
    · rw [bsW, bsW_le h (show k ≤ n by omega)]
theorem bsW_no {k : Nat} (hk : k < l.length) (h : bsW Ls Hs As Bs l Xs k = none) (h2 : bsX Ls Hs As Bs l[k] Xs Xs.length = none) : bsW Ls Hs As Bs l Xs (k + 1) = none := by
  rw [bsW, h]
  simp only
  rw [getW hk, h2]
theorem bsW_yes {k : Nat} (hk : k < l.length) (h : bsW Ls Hs As Bs l Xs k = none) {p : Nat × Int} (h2 : bsX Ls Hs As Bs l[k] Xs Xs.length = some p) : bsW Ls Hs As Bs l Xs l.length = some (k, p.1, p.2) := by
  refine bsW_le (k := k + 1) ?_ (by omega)
  rw [bsW, h]
  simp only
  rw [getW hk, h2]
theorem bsW_some : ∀ {k : Nat} {p : Nat × Nat × Int}, bsW Ls Hs As Bs l Xs k = some p → p.1 < k ∧ p.2.1 < Xs.length ∧ 0 ≤ p.2.2 ∧ p.2.2 < 16 ∧ bsB Ls Hs As Bs (l.getD p.1 zeW) (Xs.getD p.2.1 zeO) p.2.2 = true
  | 0, p, h => by cases h
  | k + 1, p, h => by
    rw [bsW] at h
    cases e : bsW Ls Hs As Bs l Xs k with
    | some q =>
      rw [e] at h
      cases h
      obtain ⟨h1, h2⟩ := bsW_some e
      exact ⟨by omega, h2⟩
    | none =>
      rw [e] at h
      simp only at h
      cases e2 : bsX Ls Hs As Bs (l.getD k zeW) Xs Xs.length with
      | none => rw [e2] at h; cases h
      | some q =>
        rw [e2] at h
        cases h
        exact ⟨by simp, bsX_some e2⟩
theorem bsW_none : ∀ {k : Nat}, bsW Ls Hs As Bs l Xs k = none → ∀ i, i < k → ∀ j, j < Xs.length → ∀ h : Nat, h < 16 → bsB Ls Hs As Bs (l.getD i zeW) (Xs.getD j zeO) (h : Int) = false
  | 0, _, i, hi => by omega
  | k + 1, h, i, hi => by
    rw [bsW] at h
    cases e : bsW Ls Hs As Bs l Xs k with
    | some q => rw [e] at h; cases h
    | none =>
      rw [e] at h
      simp only at h
      cases e2 : bsX Ls Hs As Bs (l.getD k zeW) Xs Xs.length with
      | some q => rw [e2] at h; cases h
      | none =>
        by_cases ei : i = k
        · subst ei
          exact bsX_none e2
        · exact bsW_none e i (by omega)
end
end Go.Proofs.YtglnnoglbieaeaaGreatDoor
/- What the laws ask of wishes: plain lists. No program in it. -/
namespace Go.Proofs.YtglnnoglbieaeaaGreatDoor
open Go.RowKit
set_option linter.unusedVariables false

section
variable {S : Int}
theorem lk_9 : ∀ (Ls : List ((Int × Int) × (Int × Int))) (U : List (Int × Int)), lkN S Ls U ≠ 9
  | [], _ => by simp [lkN]
  | l :: Ls, U => by
    unfold lkN
    split
    · split
      · decide
      · exact lk_9 Ls _
    · decide
theorem hs_9 : ∀ (Hs : List (ByteArray × (Int × Int))) (N : List ByteArray) (U : List (Int × Int)), hoN S Hs N U ≠ 9
  | [], _, _ => by simp [hoN]
  | h :: Hs, N, U => by
    unfold hoN
    split
    · split
      · split
        · decide
        · exact hs_9 Hs _ _
      · decide
    · decide
variable {Ls : List ((Int × Int) × (Int × Int))} {Hs : List (ByteArray × (Int × Int))} {Ts : List (List Ru)} {l : List Wi}
theorem tp_9 : tpN S Ls Hs ≠ 9 := by
  unfold tpN
  split
  · split
    · split
      · exact hs_9 _ _ _
      · exact lk_9 _ _
    · decide
  · decide
theorem tt_9 (L : List Ru) : ∀ k, tbTo L k ≠ 9
  | 0 => by simp [tbTo]
  | k + 1 => by
    unfold tbTo
    have h := ruN_bd (L.getD k zeR).p (L.getD k zeR).m (L.getD k zeR).b (L.getD k zeR).o (L.getD k zeR).s (L.getD k zeR).v
    have e : (L.getD k zeR).n = ruN (L.getD k zeR).p (L.getD k zeR).m (L.getD k zeR).b (L.getD k zeR).o (L.getD k zeR).s (L.getD k zeR).v := rfl
    rw [← e] at h
    split
    · split
      · split <;> decide
      · omega
    · exact tt_9 L k
theorem tb_9 (L : List Ru) : tbN L ≠ 9 := by
  unfold tbN
  split
  · decide
  · exact tt_9 L _
theorem ts_9 : ∀ k, tsTo Ts k ≠ 9
  | 0 => by simp [tsTo]
  | k + 1 => by
    unfold tsTo
    split
    · exact tb_9 _
    · exact ts_9 k
theorem nt_9 : ntN S Ls Hs Ts ≠ 9 := by
  unfold ntN
  split
  · split
    · exact ts_9 _
    · decide
  · exact tp_9
theorem wo_9 (w : Wi) : woN S Hs w ≠ 9 := by
  unfold woN
  split
  · decide
  · split
    · split <;> decide
    · split <;> decide
theorem wt_9 : ∀ k, wsTo S Hs l k ≠ 9
  | 0 => by simp [wsTo]
  | k + 1 => by
    unfold wsTo
    split
    · exact wo_9 _
    · exact wt_9 k
theorem ws_9 : wsN S Ls Hs l ≠ 9 := by
  unfold wsN
  split
  · split
    · decide
    · exact wt_9 _
  · exact tp_9
theorem wi_9 (h : wiN S Ls Hs Ts l = 9) : ntN S Ls Hs Ts = 0 ∧ wsN S Ls Hs l = 0 ∧ ∃ p, brW Ls Hs Ts l Hs l.length = some p := by
  unfold wiN at h
  by_cases h1 : ntN S Ls Hs Ts = 0
  · rw [if_pos h1] at h
    by_cases h2 : wsN S Ls Hs l = 0
    · rw [if_pos h2] at h
      refine ⟨h1, h2, ?_⟩
      cases e : brW Ls Hs Ts l Hs l.length with
      | some p => exact ⟨p, rfl⟩
      | none => rw [e] at h; simp at h
    · rw [if_neg h2] at h
      exact absurd h ws_9
  · rw [if_neg h1] at h
    exact absurd h nt_9
theorem wi_0 (h : wiN S Ls Hs Ts l = 0) : ntN S Ls Hs Ts = 0 ∧ wsN S Ls Hs l = 0 ∧ brW Ls Hs Ts l Hs l.length = none := by
  unfold wiN at h
  by_cases h1 : ntN S Ls Hs Ts = 0
  · rw [if_pos h1] at h
    by_cases h2 : wsN S Ls Hs l = 0
    · rw [if_pos h2] at h
      refine ⟨h1, h2, ?_⟩
      cases e : brW Ls Hs Ts l Hs l.length with
      | none => rfl
      | some p => rw [e] at h; simp at h
    · rw [if_neg h2] at h
      exact absurd h h2
  · rw [if_neg h1] at h
    exact absurd h h1
theorem where_mem : ∀ {Hs : List (ByteArray × (Int × Int))}, (Hs.map (·.1)).Nodup → ∀ x ∈ Hs, whereO Hs x.1 = some x.2
  | [], _, x, hx => by cases hx
  | y :: Hs, hn, x, hx => by
    simp only [List.map_cons, List.nodup_cons] at hn
    unfold whereO
    rcases List.mem_cons.1 hx with rfl | hm
    · rw [if_pos (ba_eq.2 rfl)]
    · rw [if_neg]
      · exact where_mem hn.2 x hm
      · intro e
        refine hn.1 ?_
        rw [ba_eq.1 e]
        exact List.mem_map_of_mem hm
theorem se_of (hn : ntN S Ls Hs Ts = 0) {x : ByteArray × (Int × Int)} (hx : x ∈ Hs) {h : Int} (hh : hdrB h = true) : seN S Ls Hs Ts x.1 h = 0 ∧ seV S Ls Hs Ts x.1 h = frF Ls Hs Ts x.2 h := by
  have ht := (nt_0 hn).1
  have hw := where_mem (tp_0 ht).2.2.2.2.2.1 x hx
  have e1 : weN S Ls Hs x.1 = 0 := by rw [weN, if_pos ht, hw]; rfl
  have e2 : weV S Ls Hs x.1 = x.2 := by rw [weV, if_pos e1, hw]; rfl
  have e3 : seN S Ls Hs Ts x.1 h = 0 := by rw [seN, if_pos hn, if_pos e1, hh]; rfl
  exact ⟨e3, by rw [seV, if_pos e3, e2]⟩
theorem se_0 {m : ByteArray} {h : Int} (hs : seN S Ls Hs Ts m h = 0) : ntN S Ls Hs Ts = 0 ∧ hdrB h = true ∧ (m, weV S Ls Hs m) ∈ Hs ∧ seV S Ls Hs Ts m h = frF Ls Hs Ts (weV S Ls Hs m) h := by
  have hs2 := hs
  unfold seN at hs
  by_cases h1 : ntN S Ls Hs Ts = 0
  · rw [if_pos h1] at hs
    by_cases h2 : weN S Ls Hs m = 0
    · rw [if_pos h2] at hs
      have h2' := h2
      rw [weN, if_pos (nt_0 h1).1] at h2'
      cases h3 : hdrB h with
      | false => rw [h3] at hs; simp at hs
      | true =>
        refine ⟨h1, rfl, ?_, by rw [seV, if_pos hs2]⟩
        rw [weV, if_pos h2]
        cases hw : whereO Hs m with
        | none => rw [hw] at h2'; simp at h2'
        | some p => exact where_in hw
    · rw [if_neg h2] at hs
      exact absurd hs h2
  · rw [if_neg h1] at hs
    exact absurd hs h1
theorem hd_of {h : Int} (h0 : 0 ≤ h) (h1 : h < 16) : hdrB h = true := by
  obtain ⟨k, rfl⟩ : ∃ k : Nat, h = (k : Int) := ⟨h.toNat, by omega⟩
  have : ∀ f : Fin 16, hdrB ((f : Nat) : Int) = true := by decide +kernel
  exact this ⟨k, by omega⟩
theorem hd_in {h : Int} (hh : hdrB h = true) : ∃ k : Nat, h = (k : Int) ∧ k < 16 := by
  obtain ⟨h', rfl⟩ := small (hdr_of hh)
  exact ⟨h'.val, rfl, h'.isLt⟩
/-- What it names was sent, and breaks the wish it names. -/
theorem wish_shown (h : wiN S Ls Hs Ts l = 9) : ∃ i : Nat, i < l.length ∧ (wiV S Ls Hs Ts l).1 = (i : Int) ∧ seN S Ls Hs Ts (wiV S Ls Hs Ts l).2.1 (wiV S Ls Hs Ts l).2.2 = 0 ∧ fiB (l.getD i zeW) (wiV S Ls Hs Ts l).2.1 (seV S Ls Hs Ts (wiV S Ls Hs Ts l).2.1 (wiV S Ls Hs Ts l).2.2) = false := by
  obtain ⟨h1, h2, p, h3⟩ := wi_9 h
  obtain ⟨g1, g2, g3, g4, g5⟩ := brW_some h3
  have e : wiV S Ls Hs Ts l = ((p.1 : Int), (Hs.getD p.2.1 zeO).1, p.2.2) := by
    rw [wiV, if_pos ⟨h1, h2⟩, h3]
    rfl
  have hm : Hs.getD p.2.1 zeO ∈ Hs := by
    rw [getO g2]
    exact List.getElem_mem g2
  obtain ⟨k1, k2⟩ := se_of h1 hm (hd_of g3 g4)
  refine ⟨p.1, g1, by rw [e], by rw [e]; exact k1, ?_⟩
  rw [e]
  simp only
  rw [k2]
  simpa [brB] using g5
/-- Where they hold whatever is sent fits. -/
theorem wish_all (h : wiN S Ls Hs Ts l = 0) {m : ByteArray} {a : Int} (hs : seN S Ls Hs Ts m a = 0) : ∀ i : Nat, i < l.length → fiB (l.getD i zeW) m (seV S Ls Hs Ts m a) = true := by
  intro i hi
  obtain ⟨h1, h2, h3⟩ := wi_0 h
  obtain ⟨g1, g2, g3, g4⟩ := se_0 hs
  obtain ⟨k, rfl, hk⟩ := hd_in g2
  obtain ⟨j, hj, e⟩ := List.getElem_of_mem g3
  have := brW_none h3 i hi j hj k hk
  rw [getO hj, e] at this
  rw [g4]
  simpa [brB] using this
theorem one_at (w : Wi) : [w].getD 0 zeW = w := rfl
/-- Not both. -/
theorem wish_both {f t : ByteArray} (h1 : wiN S Ls Hs Ts [⟨1, f, t, 0⟩] = 0) (h2 : wiN S Ls Hs Ts [⟨2, f, t, 0⟩] = 0) : False := by
  obtain ⟨g1, g2, g3⟩ := wi_0 h1
  obtain ⟨_, _, k3⟩ := wi_0 h2
  have ht := (nt_0 g1).1
  have hw : woN S Hs ⟨1, f, t, 0⟩ = 0 := by
    rw [wsN, if_pos ht, if_neg (by simp)] at g2
    exact ws_0 (n := 1) g2 0 (by omega)
  have hf : hoB Hs f = true := by
    unfold woN at hw
    split at hw
    · cases hw
    · rw [if_neg (by simp)] at hw
      split at hw
      · next e => rw [Bool.and_eq_true] at e; exact e.1
      · cases hw
  obtain ⟨x, hx, e⟩ := List.any_eq_true.1 hf
  have e := ba_eq.1 e
  obtain ⟨j, hj, ej⟩ := List.getElem_of_mem hx
  have a1 := brW_none g3 0 (by simp) j hj 0 (by omega)
  have a2 := brW_none k3 0 (by simp) j hj 0 (by omega)
  rw [getO hj, ej, one_at] at a1 a2
  have ab1 : abW ⟨1, f, t, 0⟩ x.1 = true := by rw [abW, e]; simp [ba_eq.2 rfl]
  have ab2 : abW ⟨2, f, t, 0⟩ x.1 = true := by rw [abW, e]; simp [ba_eq.2 rfl]
  have b1 : fiB ⟨1, f, t, 0⟩ x.1 (frF Ls Hs Ts x.2 ((0 : Nat) : Int)) = true := by simpa [brB] using a1
  have b2 : fiB ⟨2, f, t, 0⟩ x.1 (frF Ls Hs Ts x.2 ((0 : Nat) : Int)) = true := by simpa [brB] using a2
  rw [fiB, if_pos ab1, if_pos rfl] at b1
  rw [fiB, if_pos ab2, if_neg (by simp), if_pos rfl] at b2
  have e3 : thW ⟨1, f, t, 0⟩ (frF Ls Hs Ts x.2 ((0 : Nat) : Int)) = thW ⟨2, f, t, 0⟩ (frF Ls Hs Ts x.2 ((0 : Nat) : Int)) := rfl
  rw [← e3, b1] at b2
  cases b2
/-- The first hop is where it was sent. -/
theorem fr_first (s : Int × Int) (h : Int) : haW s.1 (frF Ls Hs Ts s h).2.2 = true := by
  have hch : ChH Ls Hs Ts [(s, h)] := fun i hi => by simp at hi
  obtain ⟨rest, e1, _⟩ := fo_spec (Ls := Ls) (Hs := Hs) (Ts := Ts) 24 [(s, h)] (by simp) (by simp) (by omega) (by simp) hch
  unfold frF haW
  rw [e1]
  simp
/-- A way by the host's own switch. -/
theorem wish_way {f t : ByteArray} (hw : weN S Ls Hs f = 0) : wiN S Ls Hs Ts [⟨3, f, t, (weV S Ls Hs f).1⟩] ≠ 9 := by
  intro h
  obtain ⟨h1, h2, p, h3⟩ := wi_9 h
  obtain ⟨g1, g2, g3, g4, g5⟩ := brW_some h3
  have ht := (nt_0 h1).1
  have e0 : p.1 = 0 := by simp at g1; omega
  rw [e0, one_at] at g5
  have hm : Hs.getD p.2.1 zeO ∈ Hs := by
    rw [getO g2]
    exact List.getElem_mem g2
  have hx := where_mem (tp_0 ht).2.2.2.2.2.1 _ hm
  generalize Hs.getD p.2.1 zeO = x at g5 hm hx
  have g6 : fiB ⟨3, f, t, (weV S Ls Hs f).1⟩ x.1 (frF Ls Hs Ts x.2 p.2.2) = false := by simpa [brB] using g5
  unfold fiB at g6
  split at g6
  · next ab =>
    have e : f = x.1 := by
      simpa [abW, ba_eq] using ab
    have ev : (weV S Ls Hs f).1 = x.2.1 := by
      rw [weV, if_pos hw, e, hx]
      rfl
    rw [if_neg (by simp), if_neg (by simp), if_pos rfl] at g6
    simp only [ev] at g6
    rw [fr_first, Bool.or_true] at g6
    cases g6
  · cases g6
end
/-- The fact that is tried first. -/
theorem wish_one : wiN 1 [] [(⟨#[97]⟩, (1, 2))] [[]] [⟨1, ⟨#[97]⟩, ⟨#[97]⟩, 0⟩] = 9 ∧ (wiV 1 [] [(⟨#[97]⟩, (1, 2))] [[]] [⟨1, ⟨#[97]⟩, ⟨#[97]⟩, 0⟩]).2.1.data = #[97] ∧ (wiV 1 [] [(⟨#[97]⟩, (1, 2))] [[]] [⟨1, ⟨#[97]⟩, ⟨#[97]⟩, 0⟩]).2.2 = 0 := by decide +kernel
theorem clash_one (f t : ByteArray) : fiB ⟨1, f, t, 0⟩ f (1, t, []) = true ∧ fiB ⟨2, f, t, 0⟩ f (1, t, []) = false := by
  have ab1 : abW ⟨1, f, t, 0⟩ f = true := by rw [abW]; simp [ba_eq.2 rfl]
  have ab2 : abW ⟨2, f, t, 0⟩ f = true := by rw [abW]; simp [ba_eq.2 rfl]
  have h1 : thW ⟨1, f, t, 0⟩ (1, t, []) = true := by rw [thW]; simp [ba_eq.2 rfl]
  have h2 : thW ⟨2, f, t, 0⟩ (1, t, []) = true := by rw [thW]; simp [ba_eq.2 rfl]
  rw [fiB, if_pos ab1, if_pos rfl, h1, fiB, if_pos ab2, if_neg (by simp), if_pos rfl, h2]
  exact ⟨rfl, rfl⟩
end Go.Proofs.YtglnnoglbieaeaaGreatDoor
/- While it changes, ahead and behind: what may be seen, and which wishes hold then. No program in it. -/
namespace Go.Proofs.YtglnnoglbieaeaaGreatDoor
open Go.RowKit
set_option linter.unusedSimpArgs false
set_option linter.unusedVariables false
section
variable {S : Int} {Ls : List ((Int × Int) × (Int × Int))} {Hs : List (ByteArray × (Int × Int))} {Ts : List (List Ru)} {o : List Op8} {m : ByteArray} {h : Int}
theorem sn_parts (h0 : snN S Ls Hs Ts o m h = 0) : cgN S Ls Hs Ts o = 0 ∧ weN S Ls Hs m = 0 ∧ hdrB h = true := by
  by_cases e1 : cgN S Ls Hs Ts o = 0
  · by_cases e2 : weN S Ls Hs m = 0
    · cases e3 : hdrB h
      · rw [(sn_3 e1 e2 e3).1] at h0; cases h0
      · exact ⟨e1, e2, rfl⟩
    · rw [(sn_2 e1 e2).1] at h0
      exact absurd h0 e2
  · rw [(sn_1 e1).1] at h0
    exact absurd h0 e1
theorem se_ok {Us : List (List Ru)} (h1 : ntN S Ls Hs Us = 0) (h2 : weN S Ls Hs m = 0) (h3 : hdrB h = true) : seN S Ls Hs Us m h = 0 ∧ seV S Ls Hs Us m h = frF Ls Hs Us (weV S Ls Hs m) h := by
  have e4 : seN S Ls Hs Us m h = 0 := by
    unfold seN
    rw [if_pos h1, if_pos h2, h3]
    rfl
  exact ⟨e4, by unfold seV; rw [if_pos e4]⟩
/-- Tables, some of them new. -/
def mxT (As Bs : List (List Ru)) (D : List Bool) : List (List Ru) := (List.range As.length).map fun i => if D.getD i false = true then Bs.getD i [] else As.getD i []
theorem mx_len (As Bs : List (List Ru)) (D : List Bool) : (mxT As Bs D).length = As.length := by simp [mxT]
theorem mx_get {As Bs : List (List Ru)} {D : List Bool} (hl : Bs.length = As.length) (i : Nat) : (mxT As Bs D).getD i [] = if D.getD i false = true then Bs.getD i [] else As.getD i [] := by
  by_cases hi : i < As.length
  · rw [List.getD_eq_getElem?_getD]
    simp [mxT, hi]
  · have e1 : (mxT As Bs D).getD i [] = [] := by rw [List.getD_eq_getElem?_getD, List.getElem?_eq_none (by rw [mx_len]; omega)]; rfl
    have e2 : As.getD i [] = [] := by rw [List.getD_eq_getElem?_getD, List.getElem?_eq_none (by omega)]; rfl
    have e3 : Bs.getD i [] = [] := by rw [List.getD_eq_getElem?_getD, List.getElem?_eq_none (by omega)]; rfl
    rw [e1, e2, e3]
    simp
theorem nt_mx (h0 : cgN S Ls Hs Ts o = 0) (D : List Bool) : ntN S Ls Hs (mxT Ts (caT Ts o) D) = 0 := by
  obtain ⟨h1, h2⟩ := cg_nt h0
  obtain ⟨a1, a2, a3⟩ := nt_0 h1
  obtain ⟨_, _, b3⟩ := nt_0 (nt_ca h1 h2)
  refine nt_of a1 (by rw [mx_len]; exact a2) ?_
  intro L hL
  obtain ⟨i, hi, rfl⟩ := List.getElem_of_mem hL
  have hi2 : i < Ts.length := by rw [mx_len] at hi; exact hi
  have e : (mxT Ts (caT Ts o) D)[i] = (mxT Ts (caT Ts o) D).getD i [] := by simp [List.getD, hi]
  rw [e, mx_get (ca_len _ _)]
  split
  · exact b3 i (by rw [ca_len]; exact hi2)
  · exact a3 i hi2
/-- Whatever tables are new: what becomes of a packet then may be seen. -/
theorem see_mx (h0 : cgN S Ls Hs Ts o = 0) (D : List Bool) (s : Int × Int) (k : Int) : frF Ls Hs (mxT Ts (caT Ts o) D) s k ∈ seeL Ls Hs Ts (caT Ts o) s k := by
  obtain ⟨_, _, hA, hB⟩ := cg_ok h0
  exact see_fix (new := fun t => D.getD (t - 1).toNat false) (fun t => mx_get (ca_len _ _) _) (fun t ht l p => go_alike hA hB t ht l p) s k
theorem see_old (h0 : cgN S Ls Hs Ts o = 0) (s : Int × Int) (k : Int) : frF Ls Hs Ts s k ∈ seeL Ls Hs Ts (caT Ts o) s k := by
  obtain ⟨_, _, hA, hB⟩ := cg_ok h0
  exact see_fix (new := fun t => false) (fun t => rfl) (fun t ht l p => go_alike hA hB t ht l p) s k
theorem see_new (h0 : cgN S Ls Hs Ts o = 0) (s : Int × Int) (k : Int) : frF Ls Hs (caT Ts o) s k ∈ seeL Ls Hs Ts (caT Ts o) s k := by
  obtain ⟨_, _, hA, hB⟩ := cg_ok h0
  exact see_fix (new := fun t => true) (fun t => rfl) (fun t ht l p => go_alike hA hB t ht l p) s k
/-- One and the next one are not the same. -/
theorem see_ne {As Bs : List (List Ru)} (s : Int × Int) (k : Int) {i : Nat} {x y : Int × ByteArray × List ((Int × Int) × Int)} (hx : (seeL Ls Hs As Bs s k)[i]? = some x) (hy : (seeL Ls Hs As Bs s k)[i + 1]? = some y) : x ≠ y := by
  have h := see_ris (Ls := Ls) (Hs := Hs) (As := As) (Bs := Bs) s k
  unfold Ris at h
  rw [List.pairwise_iff_getElem] at h
  obtain ⟨h1, rfl⟩ := List.getElem?_eq_some_iff.1 hx
  obtain ⟨h2, rfl⟩ := List.getElem?_eq_some_iff.1 hy
  intro e
  have := h i (i + 1) h1 h2 (by omega)
  rw [e, lo_fate.irr] at this
  cases this
/-- The host of a name. -/
theorem we_host (ht : tpN S Ls Hs = 0) (h2 : weN S Ls Hs m = 0) : ∃ z, z < Hs.length ∧ (Hs.getD z zeO).1 = m ∧ weV S Ls Hs m = (Hs.getD z zeO).2 := by
  rcases where_ix Hs m with ⟨_, e⟩ | ⟨k, hk, e1, e2⟩
  · unfold weN at h2
    rw [if_pos ht, e] at h2
    cases h2
  · refine ⟨k, hk, ?_, ?_⟩
    · rcases ixG_cases (fun h : ByteArray × (Int × Int) => h.1 == m) Hs with ⟨e3, _⟩ | ⟨j, hj, e3, e4, _⟩
      · omega
      · obtain rfl : j = k := by omega
        rw [getO hj]
        exact ba_eq.1 e4
    · unfold weV
      rw [if_pos h2, e2, getO hk]
      rfl
theorem we_of (ht : tpN S Ls Hs = 0) {z : Nat} (hz : z < Hs.length) : weN S Ls Hs (Hs.getD z zeO).1 = 0 ∧ weV S Ls Hs (Hs.getD z zeO).1 = (Hs.getD z zeO).2 := by
  have hnd := (tp_0 ht).2.2.2.2.2.1
  rcases where_ix Hs (Hs.getD z zeO).1 with ⟨e0, _⟩ | ⟨k, hk, e1, e2⟩
  · exfalso
    rcases ixG_cases (fun h : ByteArray × (Int × Int) => h.1 == (Hs.getD z zeO).1) Hs with ⟨_, e4⟩ | ⟨j, hj, e3, _⟩
    · rw [List.any_eq_false] at e4
      have := e4 Hs[z] (List.getElem_mem hz)
      rw [getO hz] at this
      exact this (ba_eq.2 rfl)
    · omega
  · have hzk : k = z := by
      rcases ixG_cases (fun h : ByteArray × (Int × Int) => h.1 == (Hs.getD z zeO).1) Hs with ⟨e3, _⟩ | ⟨j, hj, e3, e4, _⟩
      · omega
      · obtain rfl : j = k := by omega
        have e5 : Hs[j].1 = Hs[z].1 := by rw [← getO hz]; exact ba_eq.1 e4
        have h1 : (Hs.map (·.1))[j]'(by simpa using hj) = (Hs.map (·.1))[z]'(by simpa using hz) := by simpa using e5
        rw [List.Nodup, List.pairwise_iff_getElem] at hnd
        rcases Nat.lt_trichotomy j z with hlt | heq | hgt
        · exact absurd h1 (hnd j z _ _ hlt)
        · exact heq
        · exact absurd h1.symm (hnd z j _ _ hgt)
    subst hzk
    have h2 : weN S Ls Hs (Hs.getD k zeO).1 = 0 := by
      unfold weN
      rw [if_pos ht, e2]
      rfl
    refine ⟨h2, ?_⟩
    unfold weV
    rw [if_pos h2, e2, getO hk]
    rfl
variable {l : List Wi} {held : Nat} {p : Int × ByteArray × Int}
/-- Where all hold, all that is seen fits. -/
theorem fb_fits (h0 : snN S Ls Hs Ts o m h = 0) (f : Fb l Hs (fun z k => pwS Ls Hs Ts (caT Ts o) (Hs.getD z zeO).2 (k : Int)) Hs.length 0 held p) (hh : ¬ held < l.length) {i : Nat} (hi : i < l.length) {x : Int × ByteArray × List ((Int × Int) × Int)} (hx : x ∈ snL S Ls Hs Ts o m h) : fiB l[i] m x = true := by
  obtain ⟨e1, e2, e3⟩ := sn_parts h0
  obtain ⟨ht, hS, hA, hB⟩ := cg_ok e1
  rw [(sn_0 e1 e2 e3).2] at hx
  obtain ⟨z, hz, hm, hv⟩ := we_host ht e2
  have h16 : 0 ≤ h ∧ h < 16 := by unfold hdrB at e3; simpa using e3
  have hsp := we_sp ht e2
  have hbad := f.ok i (by have := f.le; omega) z h.toNat (by omega) (.inl hz)
  rw [show ((h.toNat : Nat) : Int) = h by omega, ← hv, hm, getW hi] at hbad
  unfold badF at hbad
  rw [List.any_eq_false] at hbad
  have := hbad x ((ps_mem ht hA hB hsp h x).2 hx)
  simpa using this
/-- A PROOF PROVES. -/
theorem fb_proves (e1 : cgN S Ls Hs Ts o = 0) (f : Fb l Hs (fun z k => pwS Ls Hs Ts (caT Ts o) (Hs.getD z zeO).2 (k : Int)) Hs.length 0 held p) (hh : held < l.length) : p.1 = (held : Int) ∧ snN S Ls Hs Ts o p.2.1 p.2.2 = 0 ∧ ∃ x ∈ snL S Ls Hs Ts o p.2.1 p.2.2, fiB l[held] p.2.1 x = false := by
  obtain ⟨z, k, hk, _, hz, rfl, hbad, _⟩ := f.tell hh
  obtain ⟨ht, hS, hA, hB⟩ := cg_ok e1
  obtain ⟨w1, w2⟩ := we_of (S := S) (Ls := Ls) ht hz
  have hd : hdrB (k : Int) = true := by unfold hdrB; simp; omega
  obtain ⟨s1, s2⟩ := sn_0 (l := o) e1 w1 hd
  refine ⟨rfl, s1, ?_⟩
  show ∃ x ∈ snL S Ls Hs Ts o (Hs.getD z zeO).1 (k : Int), fiB l[held] (Hs.getD z zeO).1 x = false
  rw [s2, w2]
  unfold badF at hbad
  rw [List.any_eq_true] at hbad
  obtain ⟨x, hx, hb⟩ := hbad
  have hsp := we_sp ht w1
  rw [w2] at hsp
  refine ⟨x, (ps_mem ht hA hB hsp (k : Int) x).1 hx, ?_⟩
  rw [getW hh] at hb
  simpa using hb
end
/-- The net of one switch. -/
theorem one_mix : snN 1 [] [(⟨#[97]⟩, (1, 2))] [[]] [⟨1, true, ⟨1, 0, 0, 2, 0, 0⟩⟩] ⟨#[97]⟩ 3 = 0 ∧ (snL 1 [] [(⟨#[97]⟩, (1, 2))] [[]] [⟨1, true, ⟨1, 0, 0, 2, 0, 0⟩⟩] ⟨#[97]⟩ 3).map (·.1) = [1, 2] := by decide +kernel
end Go.Proofs.YtglnnoglbieaeaaGreatDoor
/- What the program's Safe finds is what the document asks. No program in it. -/
namespace Go.Proofs.YtglnnoglbieaeaaGreatDoor
open Go.RowKit
set_option linter.unusedSimpArgs false
set_option linter.unusedVariables false
section
variable {Ls : List ((Int × Int) × (Int × Int))} {Hs : List (ByteArray × (Int × Int))} {As Bs : List (List Ru)} {Xs : List (ByteArray × (Int × Int))} {l : List Wi}
theorem bsH_neg {w : Wi} {x : ByteArray × (Int × Int)} : ∀ {k : Nat}, (∀ j, j < k → bsB Ls Hs As Bs w x (j : Int) = false) → bsH Ls Hs As Bs w x k < 0
  | 0, _ => by simp [bsH]
  | k + 1, h => bsH_no (bsH_neg (fun j hj => h j (by omega))) (h k (by omega))
theorem bsX_neg {w : Wi} : ∀ {k : Nat}, (∀ j, j < k → ∀ h : Nat, h < 16 → bsB Ls Hs As Bs w (Xs.getD j zeO) (h : Int) = false) → bsX Ls Hs As Bs w Xs k = none
  | 0, _ => rfl
  | k + 1, h => by
    rw [bsX, bsX_neg (fun j hj => h j (by omega))]
    simp only
    rw [if_neg]
    have := bsH_neg (Ls := Ls) (Hs := Hs) (As := As) (Bs := Bs) (w := w) (x := Xs.getD k zeO) (k := 16) (fun j hj => h k (by omega) j hj)
    omega
theorem bsW_neg : ∀ {k : Nat}, (∀ i, i < k → ∀ j, j < Xs.length → ∀ h : Nat, h < 16 → bsB Ls Hs As Bs (l.getD i zeW) (Xs.getD j zeO) (h : Int) = false) → bsW Ls Hs As Bs l Xs k = none
  | 0, _ => rfl
  | k + 1, h => by
    rw [bsW, bsW_neg (fun i hi => h i (by omega))]
    simp only
    rw [bsX_neg (h k (by omega))]
theorem any_same {α : Type} {L M : List α} (h : ∀ x, x ∈ L ↔ x ∈ M) (p : α → Bool) : L.any p = M.any p := by
  rw [Bool.eq_iff_iff, List.any_eq_true, List.any_eq_true]
  exact ⟨fun ⟨x, h1, h2⟩ => ⟨x, (h x).1 h1, h2⟩, fun ⟨x, h1, h2⟩ => ⟨x, (h x).2 h1, h2⟩⟩
/-- What the program finds is what the document asks. -/
theorem fb_bs {S : Int} (ht : tpN S Ls Hs = 0) (hA : ∀ s, tbN (taT As s) = 0) (hB : ∀ s, tbN (taT Bs s) = 0) {held : Nat} {p : Int × ByteArray × Int} (f : Fb l Hs (fun z h => pwS Ls Hs As Bs (Hs.getD z zeO).2 (h : Int)) Hs.length 0 held p) : (bsW Ls Hs As Bs l Hs l.length).isSome = decide (held < l.length) ∧ prV Hs (bsW Ls Hs As Bs l Hs l.length) = p := by
  have hb : ∀ w z (h : Nat), z < Hs.length → badF w (Hs.getD z zeO).1 (pwS Ls Hs As Bs (Hs.getD z zeO).2 (h : Int)) = bsB Ls Hs As Bs w (Hs.getD z zeO) (h : Int) := fun w z h hz => by
    have hsp : spB S (Hs.getD z zeO).2 = true := by
      rw [getO hz]
      exact ((tp_0 ht).2.2.2.2.1 _ (List.getElem_mem hz)).2
    exact any_same (ps_mem ht hA hB hsp (h : Int)) _
  by_cases hl : held < l.length
  · obtain ⟨z, h, h16, hzh, hz, rfl, hbad, hno⟩ := f.tell hl
    have e1 : bsH Ls Hs As Bs l[held] Hs[z] 16 = (h : Int) := by
      refine bsH_yes h16 (bsH_neg fun j hj => ?_) ?_
      · have := hno z j (by omega) (.inr ⟨rfl, hj⟩)
        rw [hb _ _ _ hz, getW hl, getO hz] at this
        exact this
      · rw [hb _ _ _ hz, getW hl, getO hz] at hbad
        exact hbad
    have e2 : bsX Ls Hs As Bs l[held] Hs Hs.length = some (z, (h : Int)) := by
      rw [bsX_yes hz (bsX_neg fun j hj h' hh' => ?_) (by rw [e1]; omega), e1]
      have := hno j h' hh' (.inl hj)
      rw [hb _ _ _ (by omega), getW hl] at this
      exact this
    have e3 := bsW_yes hl (bsW_neg (Ls := Ls) (Hs := Hs) (As := As) (Bs := Bs) (Xs := Hs) fun i hi j hj h' hh' => by
      have := f.ok i hi j h' hh' (.inl hj)
      rw [hb _ _ _ hj] at this
      exact this) e2
    rw [e3]
    exact ⟨by simp [hl], rfl⟩
  · have he : held = l.length := by have := f.le; omega
    have e3 : bsW Ls Hs As Bs l Hs l.length = none := bsW_neg fun i hi j hj h' hh' => by
      have := f.ok i (by omega) j h' hh' (.inl hj)
      rw [hb _ _ _ hj] at this
      exact this
    rw [e3, f.no he]
    exact ⟨by simp [hl], rfl⟩
end
end Go.Proofs.YtglnnoglbieaeaaGreatDoor
/- A slice of fates: its length, its form, its k-th. No program in it. -/
namespace Go.Proofs.YtglnnoglbieaeaaGreatDoor
open Go.RowKit
set_option linter.unusedSimpArgs false
set_option linter.unusedVariables false

theorem FTs.len {w : World} {ao : Option Addr} {n cap : Nat} {L : List Ft} (h : FTs w (.slice ao n cap) L) : L.length = n := by
  obtain ⟨Z, h1, h2, _⟩ := h
  rw [← h2, List.length_map]
  exact h1.len
theorem FTs.form {w : World} {v : Value} {L : List Ft} (h : FTs w v L) : ∃ ao n cap, v = .slice ao n cap ∧ L.length = n ∧ n ≤ maxLen ∧ n ≤ cap := by
  obtain ⟨Z, h1, h2, _⟩ := id h
  obtain ⟨ao, n, cap, rfl, _, h4, h5, _⟩ := h1.form
  exact ⟨ao, n, cap, rfl, h.len, h4, h5⟩
/-- The k-th of a slice of fates. -/
theorem FTs.at {w : World} {ao : Option Addr} {n cap : Nat} {L : List Ft} (h : FTs w (.slice ao n cap) L) {k : Nat} (hk : k < n) : ∃ (g o : Nat) (x : Ft) (a3 : Option Addr) (n3 c3 : Nat), ao = some ⟨g, o, none⟩ ∧ L[k]? = some x ∧ w.cell? ⟨g, o + k * 3, none⟩ = some (.int .i64 x.1) ∧ w.cell? ⟨g, o + k * 3 + 1, none⟩ = some (.string x.2.1) ∧ w.cell? ⟨g, o + k * 3 + 2, none⟩ = some (.slice a3 n3 c3) ∧ GS hopE w (.slice a3 n3 c3) x.2.2 := by
  obtain ⟨Z, h1, h2, h3⟩ := h
  obtain ⟨_, _, _, e, hn, _, _, ha⟩ := h1.form
  cases e
  obtain ⟨g, o, rfl, hG, _⟩ := ha (by omega)
  have hkZ : k < Z.length := by omega
  have hv := hG k hkZ
  refine ⟨g, o, Z[k].1, Z[k].2.1, Z[k].2.2.1, Z[k].2.2.2, rfl, ?_, hv 0 _ rfl, hv 1 _ rfl, hv 2 _ rfl, h3 _ (List.getElem_mem hkZ)⟩
  rw [← h2, List.getElem?_map, List.getElem?_eq_getElem hkZ]
  rfl
end Go.Proofs.YtglnnoglbieaeaaGreatDoor
