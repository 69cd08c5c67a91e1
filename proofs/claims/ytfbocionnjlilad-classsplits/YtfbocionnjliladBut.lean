/- Worlds of which some blocks alone may have turned, and counts that a map keeps. No program in it. -/
import Derived.Test.YtfbocionnjliladMapGen
import Derived.Test.YtfbocionnjliladTopoMath
namespace Go.Proofs.Ytfbocionnjlilad
open Go.RowKit
set_option linter.unusedVariables false

/-- Blocks that were there are as they were, but for these. -/
structure But (X : List Nat) (w w' : World) : Prop where
  os : w'.os = w.os
  tape : w'.tape = w.tape
  output : w'.output = w.output
  size : w.heap.size ≤ w'.heap.size
  block : ∀ k, k < w.heap.size → k ∉ X → w'.heap[k]? = w.heap[k]?
theorem But.refl (X : List Nat) (w : World) : But X w w := ⟨rfl, rfl, rfl, Nat.le_refl _, fun _ _ _ => rfl⟩
theorem But.trans {X : List Nat} {a b c : World} (h : But X a b) (k : But X b c) : But X a c :=
  ⟨k.os.trans h.os, k.tape.trans h.tape, k.output.trans h.output, Nat.le_trans h.size k.size, fun i hi hx => (k.block i (Nat.lt_of_lt_of_le hi h.size) hx).trans (h.block i hi hx)⟩
theorem But.drew {X : List Nat} {a w : World} (h : But X a w) : But X a w.drew := ⟨h.os, h.tape, h.output, h.size, h.block⟩
theorem wrap_small {x : Int} (h1 : -1000000 ≤ x) (h2 : x ≤ 1000000) : IntKind.i64.wrap x = x := by
  rw [IntKind.wrap_i64]
  omega
theorem But.of_below {X : List Nat} {w w' : World} (h : Below w.heap.size w w') : But X w w' := ⟨h.os, h.tape, h.output, h.size, fun k hk _ => h.block k hk⟩
theorem But.of_grown {X : List Nat} {w w' : World} {B : Nat} (h : w.grownBy w' (some B)) (hB : B ∈ X) : But X w w' :=
  ⟨h.os, h.tape, h.output, h.size, fun k hk hx => h.block k hk (fun e => hx (by cases e; exact hB))⟩
theorem But.mono {X Y : List Nat} {w w' : World} (h : But X w w') (hX : ∀ x ∈ X, x ∈ Y) : But Y w w' := ⟨h.os, h.tape, h.output, h.size, fun k hk hx => h.block k hk (fun e => hx (hX k e))⟩
theorem But.below {X : List Nat} {w w' : World} {B : Nat} (h : But X w w') (hB : B ≤ w.heap.size) (hX : ∀ x ∈ X, B ≤ x) : Below B w w' :=
  ⟨h.os, h.tape, h.output, h.size, fun k hk => h.block k (by omega) (fun e => by have := hX k e; omega)⟩
theorem But.cell {X : List Nat} {w w' : World} (h : But X w w') {p : Addr} (hl : p.block < w.heap.size) (hX : p.block ∉ X) : w'.cell? p = w.cell? p := World.cell?_of_block (w := w) (h.block p.block hl hX)
section
variable {P : Program} {K : TypeId} {κ β : Type} {E : KeyE P K κ} {ve : β → Value}
theorem MAt.but {X : List Nat} {w w' : World} {B : Nat} {M : List (κ × β)} (h : MAt E ve w B M) (hb : But X w w') (hX : B ∉ X) : MAt E ve w' B M := by
  have hlt := h.lt
  obtain ⟨es, clock, h1, h2⟩ := h
  exact ⟨es, clock, (hb.block B hlt hX).trans h1, h2⟩
end

section
variable {κ : Type}
/-- How often one is there. -/
def ctM (q : κ → κ → Bool) (x : κ) (U : List κ) : Nat := (U.filter fun y => q x y).length
theorem ct_app {q : κ → κ → Bool} (x : κ) (U V : List κ) : ctM q x (U ++ V) = ctM q x U + ctM q x V := by simp [ctM]
theorem ct_le {q : κ → κ → Bool} (x : κ) (U : List κ) : ctM q x U ≤ U.length := List.length_filter_le _ _
theorem ct_pos {q : κ → κ → Bool} (hq : ∀ a b, q a b = true ↔ a = b) (x : κ) (U : List κ) : 0 < ctM q x U ↔ x ∈ U := by
  unfold ctM
  rw [List.length_pos_iff_exists_mem]
  simp only [List.mem_filter, hq]
  exact ⟨fun ⟨y, h1, h2⟩ => h2 ▸ h1, fun h => ⟨x, h, rfl⟩⟩
/-- A map that counts these. -/
def TK (q : κ → κ → Bool) (M : List (κ × Int)) (U : List κ) : Prop := ∀ s, (mget q s M).getD 0 = (ctM q s U : Int)
theorem tk_nil (q : κ → κ → Bool) : TK q [] [] := fun s => rfl
theorem tk_put {q : κ → κ → Bool} (hq : ∀ a b, q a b = true ↔ a = b) {M : List (κ × Int)} {U : List κ} (h : TK q M U) (x : κ) : TK q (mput q x ((ctM q x U : Int) + 1) M) (U ++ [x]) := by
  intro s
  rw [mget_put hq, ct_app]
  by_cases e : q s x = true
  · rw [if_pos e]
    have e2 := (hq _ _).1 e
    subst e2
    have : ctM q s [s] = 1 := by simp [ctM, e]
    rw [this]
    simp
  · rw [if_neg e, h s]
    have : ctM q s [x] = 0 := by simp [ctM, e]
    rw [this]
    simp
theorem ct_one {q : κ → κ → Bool} (hq : ∀ a b, q a b = true ↔ a = b) (x y : κ) : ctM q x [y] = if q x y then 1 else 0 := by
  cases h : q x y <;> simp [ctM, h]
end
theorem getV_int {o : Option Int} : getV (fun n : Int => Value.int .i64 n) (.int .i64 0) o = .int .i64 (o.getD 0) := by cases o <;> rfl

/-- Are two spots the same? -/
def sq (a b : Int × Int) : Bool := a.1 == b.1 && a.2 == b.2
theorem sq_iff (a b : Int × Int) : sq a b = true ↔ a = b := by
  obtain ⟨x, y⟩ := a
  obtain ⟨z, v⟩ := b
  simp [sq]
/-- The fault of one link, behind spots that are there. -/
def lk1 (S : Int) (U : List (Int × Int)) (l : (Int × Int) × (Int × Int)) : Int := if spB S l.1 && spB S l.2 then (if l.1 == l.2 || (U.any fun u => u == l.1 || u == l.2) then 7 else 0) else 1
theorem lk_step (S : Int) (l : (Int × Int) × (Int × Int)) (Ls : List ((Int × Int) × (Int × Int))) (U : List (Int × Int)) : lkN S (l :: Ls) U = if lk1 S U l = 0 then lkN S Ls (U ++ [l.1, l.2]) else lk1 S U l := by
  rw [lkN, lk1]
  by_cases h1 : (spB S l.1 && spB S l.2) = true
  · rw [if_pos h1, if_pos h1]
    by_cases h2 : (l.1 == l.2 || (U.any fun u => u == l.1 || u == l.2)) = true
    · rw [if_pos h2, if_pos h2]; rfl
    · rw [if_neg h2, if_neg h2]; rfl
  · rw [if_neg h1, if_neg h1]; rfl
/-- The fault of one host. -/
def ho1 (S : Int) (N : List ByteArray) (U : List (Int × Int)) (h : ByteArray × (Int × Int)) : Int := if nmB h.1 then (if spB S h.2 then (if (N.any fun n => n == h.1) || (U.any fun u => u == h.2) then 7 else 0) else 1) else 2
theorem ho_step (S : Int) (h : ByteArray × (Int × Int)) (Hs : List (ByteArray × (Int × Int))) (N : List ByteArray) (U : List (Int × Int)) : hoN S (h :: Hs) N U = if ho1 S N U h = 0 then hoN S Hs (N ++ [h.1]) (U ++ [h.2]) else ho1 S N U h := by
  rw [hoN, ho1]
  by_cases h1 : nmB h.1 = true
  · rw [if_pos h1, if_pos h1]
    by_cases h2 : spB S h.2 = true
    · rw [if_pos h2, if_pos h2]
      by_cases h3 : ((N.any fun n => n == h.1) || (U.any fun u => u == h.2)) = true
      · rw [if_pos h3, if_pos h3]; rfl
      · rw [if_neg h3, if_neg h3]; rfl
    · rw [if_neg h2, if_neg h2]; rfl
  · rw [if_neg h1, if_neg h1]; rfl
/-- What the counts tell of a link. -/
theorem ct_link (U : List (Int × Int)) (x y : Int × Int) : (decide ((1 : Int) < (ctM sq x (U ++ [x] ++ [y]) : Int)) || decide ((1 : Int) < (ctM sq y (U ++ [x] ++ [y]) : Int))) = (x == y || (U.any fun u => u == x || u == y)) := by
  rw [Bool.eq_iff_iff]
  simp only [ct_app, ct_one sq_iff, Bool.or_eq_true, decide_eq_true_eq, beq_iff_eq, List.any_eq_true]
  have hx := ct_pos sq_iff x U
  have hy := ct_pos sq_iff y U
  have sx : sq x x = true := (sq_iff _ _).2 rfl
  have sy : sq y y = true := (sq_iff _ _).2 rfl
  rw [sx, sy]
  simp only [if_true]
  by_cases e : x = y
  · subst e
    simp [sx]
    omega
  · have n1 : sq x y = false := by
      cases h : sq x y
      · rfl
      · exact absurd ((sq_iff _ _).1 h) e
    have n2 : sq y x = false := by
      cases h : sq y x
      · rfl
      · exact absurd ((sq_iff _ _).1 h).symm e
    rw [n1, n2]
    simp only [Bool.false_eq_true, if_false, e, false_or]
    constructor
    · rintro (h | h)
      · exact ⟨x, hx.1 (by omega), .inl rfl⟩
      · exact ⟨y, hy.1 (by omega), .inr rfl⟩
    · rintro ⟨u, hu, rfl | rfl⟩
      · have := hx.2 hu; left; omega
      · have := hy.2 hu; right; omega
theorem ba_iff (a b : ByteArray) : (a == b) = true ↔ a = b := ba_eq
/-- What the counts tell of a host. -/
theorem ct_host {κ : Type} {q : κ → κ → Bool} (hq : ∀ a b, q a b = true ↔ a = b) (U : List κ) (x : κ) : decide ((1 : Int) < (ctM q x (U ++ [x]) : Int)) = (U.any fun u => q u x) := by
  rw [Bool.eq_iff_iff]
  simp only [ct_app, ct_one hq, decide_eq_true_eq, List.any_eq_true]
  have hx := ct_pos hq x U
  have sx : q x x = true := (hq _ _).2 rfl
  rw [sx]
  simp only [if_true]
  constructor
  · intro h
    exact ⟨x, hx.1 (by omega), sx⟩
  · rintro ⟨u, hu, e⟩
    have e2 := (hq _ _).1 e
    subst e2
    have := hx.2 hu
    omega
theorem sps_take {Ls : List ((Int × Int) × (Int × Int))} {k : Nat} (hk : k < Ls.length) : spsL (Ls.take (k + 1)) = spsL (Ls.take k) ++ [Ls[k].1, Ls[k].2] := by
  rw [List.take_succ_eq_append_getElem hk]
  unfold spsL
  rw [List.flatMap_append]
  rfl
theorem sps_len (Ls : List ((Int × Int) × (Int × Int))) : (spsL Ls).length = 2 * Ls.length := by
  induction Ls with
  | nil => rfl
  | cons l Ls ih =>
    have e : spsL (l :: Ls) = l.1 :: l.2 :: spsL Ls := rfl
    rw [e]
    simp [ih]
    omega
end Go.Proofs.Ytfbocionnjlilad
