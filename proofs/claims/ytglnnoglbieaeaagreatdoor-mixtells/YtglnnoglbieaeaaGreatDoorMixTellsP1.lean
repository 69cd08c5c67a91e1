/- Contracts and facts on the way to MixTells, joined into one text: CubeMath, RuleMath, RuleTabMath, MapGen, TopoMath, But, FarMath, BfsMath, Gen. -/
import Derived.WalkKit
import Derived.Laws.BytesArg
import Derived.WalkSpells
import Derived.Below
import Derived.MapKept
import Derived.Maps.OwnOps
import Derived.Laws.StructEq
import Derived.ProofKit
import Derived.OpenShut
import Derived.ChangeOld
import Derived.Laws.AppendOwnNone
import Derived.Deep.Slices
/- What cubes of headers come to, in plain numbers: no program in it. -/
namespace Go.Proofs.YtglnnoglbieaeaaGreatDoor
open Go.RowKit

/-- Is it a header? -/
def hdrB (n : Int) : Bool := decide (0 ≤ n) && decide (n < 16)
/-- Are both numbers of a cube headers? -/
def rngB (m b : Int) : Bool := hdrB m && hdrB b
/-- Is a cube right? -/
def okB (m b : Int) : Bool := rngB m b && (bits .andNot .i64 b m == 0)
/-- Do two cubes meet? -/
def mtOk (m b n c : Int) : Bool := okB m b && okB n c && (bits .and .i64 (bits .and .i64 (bits .xor .i64 b c) m) n == 0)
def mtM (m b n c : Int) : Int := if mtOk m b n c then bits .or .i64 m n else 0
def mtB (m b n c : Int) : Int := if mtOk m b n c then bits .or .i64 b c else 0
/-- Is the one in the other? -/
def insB (m b n c : Int) : Bool := mtOk m b n c && (mtM m b n c == m && mtB m b n c == b)
/-- How many bits a small number has. -/
def pop (m : Int) : Int := m % 2 + m / 2 % 2 + m / 4 % 2 + m / 8 % 2
def cntN (m b : Int) : Int := if okB m b then 2 ^ (4 - pop m).toNat else 0
def fstN (m b : Int) : Int := if okB m b then b else 0

theorem hdr_of {n : Int} (h : hdrB n = true) : 0 ≤ n ∧ n < 16 := by simpa [hdrB] using h
theorem hdr_no {n : Int} (h : hdrB n = false) : n < 0 ∨ 16 ≤ n := by simp [hdrB] at h; omega
theorem hdr_mk {n : Int} (h : 0 ≤ n ∧ n < 16) : hdrB n = true := by simpa [hdrB] using h
theorem rng_of {m b : Int} (h : rngB m b = true) : (0 ≤ m ∧ m < 16) ∧ (0 ≤ b ∧ b < 16) := by
  simp only [rngB, Bool.and_eq_true] at h; exact ⟨hdr_of h.1, hdr_of h.2⟩
theorem ok_rng {m b : Int} (h : okB m b = true) : rngB m b = true := by
  simp only [okB, Bool.and_eq_true] at h; exact h.1
theorem ok_of {m b : Int} (h : okB m b = true) : (0 ≤ m ∧ m < 16) ∧ (0 ≤ b ∧ b < 16) := rng_of (ok_rng h)

/-- A small number is the cast of one of sixteen. -/
theorem small {n : Int} (h : 0 ≤ n ∧ n < 16) : ∃ k : Fin 16, n = ((k : Nat) : Int) := ⟨⟨n.toNat, by omega⟩, by simp; omega⟩

theorem pop_le (m : Int) : 0 ≤ pop m ∧ pop m ≤ 4 := by unfold pop; omega

/-- The letter of one bit. -/
def ltr (m b x : Int) : Int := if bits .and .i64 m x == 0 then 42 else if bits .and .i64 b x == 0 then 48 else 49
def bitN (i : Nat) : Int := 2 ^ (3 - i)
def ltrAt (m b : Int) (i : Nat) : Int := ltr m b (bitN i)
theorem ltr_bd (m b x : Int) : 42 ≤ ltr m b x ∧ ltr m b x ≤ 49 := by unfold ltr; split <;> (try split) <;> omega
/-- A cube as text. -/
def prS (m b : Int) : ByteArray := strOfNums [ltrAt m b 0, ltrAt m b 1, ltrAt m b 2, ltrAt m b 3]
/-- What has been written of a cube's text behind k rounds. -/
def ltrTo (m b : Int) (k j : Nat) : Int := if j < k then ltrAt m b j else 0

/-- One byte of a text read: Mask, Bits. -/
def rdM (c : Nat) (i : Nat) (m : Int) : Int := if c = 49 ∨ c = 48 then bits .or .i64 m (bitN i) else m
def rdB (c : Nat) (i : Nat) (b : Int) : Int := if c = 49 then bits .or .i64 b (bitN i) else b
/-- May a byte stand in a cube's text? -/
def mayB (c : Nat) : Bool := c == 49 || c == 48 || c == 42
def byteN (s : ByteArray) (i : Nat) : Nat := (s.data.toList.getD i 0).toNat
def psMTo (s : ByteArray) : Nat → Int
  | 0 => 0
  | k + 1 => rdM (byteN s k) k (psMTo s k)
def psBTo (s : ByteArray) : Nat → Int
  | 0 => 0
  | k + 1 => rdB (byteN s k) k (psBTo s k)
def mayTo (s : ByteArray) : Nat → Bool
  | 0 => true
  | k + 1 => mayTo s k && mayB (byteN s k)
/-- Is a text a cube's? -/
def psOk (s : ByteArray) : Bool := s.size == 4 && mayTo s 4
def psM (s : ByteArray) : Int := if psOk s then psMTo s 4 else 0
def psB (s : ByteArray) : Int := if psOk s then psBTo s 4 else 0

/-- Is a header in a cube? -/
def hasB (m b h : Int) : Bool := hdrB h && (okB m b && (bits .and .i64 h m == b))
/-- The fault's number of a cube. -/
def refN (m b : Int) : Int := if okB m b then 0 else if rngB m b then 3 else 1
theorem refN_ok {m b : Int} (h : okB m b = true) : refN m b = 0 := by simp [refN, h]
theorem refN_shape {m b : Int} (h : okB m b = false) (h2 : rngB m b = true) : refN m b = 3 := by simp [refN, h, h2]
theorem refN_range {m b : Int} (h2 : rngB m b = false) : refN m b = 1 := by simp [refN, okB, h2]
theorem refN_bd (m b : Int) : 0 ≤ refN m b ∧ refN m b ≤ 3 := by unfold refN; split <;> (try split) <;> omega
theorem ok_refN (m b : Int) : (refN m b == 0) = okB m b := by
  cases h : okB m b
  · cases h2 : rngB m b
    · simp [refN_range h2]
    · simp [refN_shape h h2]
  · simp [refN_ok h]
theorem andEq_fin : ∀ m b : Fin 16, (bits .and .i64 ((b : Nat) : Int) ((m : Nat) : Int) == ((b : Nat) : Int)) = (bits .andNot .i64 ((b : Nat) : Int) ((m : Nat) : Int) == 0) := by decide +kernel
theorem andEq {m b : Int} (h : rngB m b = true) : (bits .and .i64 b m == b) = okB m b := by
  obtain ⟨h1, h2⟩ := rng_of h
  have e : okB m b = (bits .andNot .i64 b m == 0) := by simp [okB, h]
  rw [e]
  obtain ⟨x, rfl⟩ := small h1
  obtain ⟨y, rfl⟩ := small h2
  exact andEq_fin x y
/-- The i-th bit of a small number. -/
def bitB (x : Int) (i : Nat) : Bool := x / 2 ^ i % 2 == 1
end Go.Proofs.YtglnnoglbieaeaaGreatDoor
/- What one rule comes to, in plain numbers: no program in it. A rule is Prio p, its Cube's Mask m and Bits b, Out o, Set s, Value v. -/
namespace Go.Proofs.YtglnnoglbieaeaaGreatDoor
open Go.RowKit

/-- Are a rule's own numbers in their bounds? -/
def ruP (p o : Int) : Bool := decide (0 ≤ p) && (decide (p ≤ 99) && (decide (0 ≤ o) && decide (o ≤ 4)))
def ruIn (p o s v : Int) : Bool := ruP p o && rngB s v
/-- Is what a rule sets right? -/
def ruSet (o s v : Int) : Bool := (bits .andNot .i64 v s == 0) && (!(o == 0) || s == 0)
/-- The fault's number of a rule. -/
def ruN (p m b o s v : Int) : Int := if ruIn p o s v then (if okB m b then (if ruSet o s v then 0 else 3) else refN m b) else 1
/-- Is a rule right? -/
def ruOk (p m b o s v : Int) : Bool := ruIn p o s v && (okB m b && ruSet o s v)
/-- The fault's number of a rule and a header that it is applied to. -/
def apN (p m b o s v h : Int) : Int := if ruOk p m b o s v then (if hdrB h then (if hasB m b h && !(o == 0) then 0 else 5) else 1) else ruN p m b o s v
/-- What a rule makes of a header. -/
def apV (s v h : Int) : Int := bits .or .i64 (bits .andNot .i64 h s) v
def apR (p m b o s v h : Int) : Int := if apN p m b o s v h = 0 then apV s v h else 0

theorem ru_ok {p m b o s v : Int} (h : ruOk p m b o s v = true) : ruIn p o s v = true ∧ okB m b = true ∧ ruSet o s v = true := by
  simpa [ruOk] using h
theorem ruN_ok {p m b o s v : Int} (h : ruOk p m b o s v = true) : ruN p m b o s v = 0 := by
  obtain ⟨h1, h2, h3⟩ := ru_ok h
  simp [ruN, h1, h2, h3]
theorem ruN_ne {p m b o s v : Int} (h : ruOk p m b o s v = false) : ruN p m b o s v ≠ 0 := by
  unfold ruN
  cases h1 : ruIn p o s v
  · simp
  · cases h2 : okB m b
    · simp only [if_true]
      have := ok_refN m b
      rw [h2] at this
      simpa using this
    · cases h3 : ruSet o s v
      · simp
      · simp [ruOk, h1, h2, h3] at h
theorem ruN_bd (p m b o s v : Int) : 0 ≤ ruN p m b o s v ∧ ruN p m b o s v ≤ 3 := by
  unfold ruN
  have := refN_bd m b
  split
  · split
    · split <;> omega
    · omega
  · omega
theorem ru_in {p o s v : Int} (h : ruIn p o s v = true) : ((0 ≤ p ∧ p ≤ 99) ∧ (0 ≤ o ∧ o ≤ 4)) ∧ (0 ≤ s ∧ s < 16) ∧ (0 ≤ v ∧ v < 16) := by
  simp only [ruIn, Bool.and_eq_true] at h
  obtain ⟨h1, h2⟩ := h
  have h3 := rng_of h2
  simp only [ruP, Bool.and_eq_true, decide_eq_true_eq] at h1
  exact ⟨⟨⟨h1.1, h1.2.1⟩, ⟨h1.2.2.1, h1.2.2.2⟩⟩, h3⟩
theorem apN_bad {p m b o s v : Int} (h : Int) (hr : ruOk p m b o s v = false) : apN p m b o s v h = ruN p m b o s v := by simp [apN, hr]
theorem apR_bad {p m b o s v h : Int} (hr : apN p m b o s v h ≠ 0) : apR p m b o s v h = 0 := by simp [apR, hr]
theorem ap_yes {p m b o s v h : Int} (hr : apN p m b o s v h = 0) : ruOk p m b o s v = true ∧ hdrB h = true ∧ hasB m b h = true ∧ (o == 0) = false := by
  cases h1 : ruOk p m b o s v
  · rw [apN_bad h h1] at hr
    exact absurd hr (ruN_ne h1)
  · cases h2 : hdrB h
    · simp [apN, h1, h2] at hr
    · simp only [apN, h1, h2, if_true] at hr
      cases h3 : (hasB m b h && !(o == 0))
      · simp [h3] at hr
      · simpa using h3
end Go.Proofs.YtglnnoglbieaeaaGreatDoor
/- Tables of rules in plain lists: what is wrong with one, which rule counts. No program in it. -/
namespace Go.Proofs.YtglnnoglbieaeaaGreatDoor
open Go.RowKit

/-- -1, 0 or 1: is the one below, as great as, above the other? -/
def cmpN (a b : Int) : Int := if a < b then -1 else if b < a then 1 else 0
/-- The first of three numbers that is not 0. -/
def orN (x y z : Int) : Int := if x = 0 then (if y = 0 then z else y) else x
/-- Above 0: the one counts ahead of the other; 0: they have one Prio and one Cube. -/
def ordN (p m b p' m' b' : Int) : Int := orN (cmpN p p') (cmpN m m') (cmpN b b')

structure Ru where
  p : Int
  m : Int
  b : Int
  o : Int
  s : Int
  v : Int

def Ru.n (r : Ru) : Int := ruN r.p r.m r.b r.o r.s r.v
def Ru.ok (r : Ru) : Bool := ruOk r.p r.m r.b r.o r.s r.v
def Ru.has (r : Ru) (h : Int) : Bool := hasB r.m r.b h
def ordR (a b : Ru) : Int := ordN a.p a.m a.b b.p b.m b.b
/-- Have two rules one Prio and one Cube? -/
def keyB (a b : Ru) : Bool := ordR a b == 0
def zeR : Ru := ⟨0, 0, 0, 0, 0, 0⟩

theorem cmp_0 {a b : Int} : cmpN a b = 0 ↔ a = b := by unfold cmpN; split <;> (try split) <;> omega
theorem ord_0 {a b : Ru} : ordR a b = 0 ↔ a.p = b.p ∧ a.m = b.m ∧ a.b = b.b := by
  unfold ordR ordN orN
  by_cases h1 : a.p = b.p
  · rw [if_pos (cmp_0.2 h1)]
    by_cases h2 : a.m = b.m
    · rw [if_pos (cmp_0.2 h2), cmp_0]
      exact ⟨fun h => ⟨h1, h2, h⟩, fun h => h.2.2⟩
    · rw [if_neg (fun h => h2 (cmp_0.1 h)), cmp_0]
      exact ⟨fun h => absurd h h2, fun h => h.2.1⟩
  · rw [if_neg (fun h => h1 (cmp_0.1 h)), cmp_0]
    exact ⟨fun h => absurd h h1, fun h => h.1⟩
theorem ord_le {a b : Ru} : ordR a b ≤ 0 ↔ (a.p < b.p ∨ a.p = b.p ∧ (a.m < b.m ∨ a.m = b.m ∧ a.b ≤ b.b)) := by
  unfold ordR ordN orN cmpN
  split <;> split <;> (try split) <;> (try split) <;> (try split) <;> (try split) <;> omega
theorem ord_tr {a b c : Ru} (h1 : ordR a b ≤ 0) (h2 : 0 < ordR c b) : ordR a c ≤ 0 := by
  have h3 : ¬ ordR c b ≤ 0 := by omega
  rw [ord_le] at h1 h3 ⊢
  omega
theorem ord_as {a b : Ru} (h1 : ordR a b ≤ 0) (h2 : ordR b a ≤ 0) : ordR a b = 0 := by
  rw [ord_le] at h1 h2
  rw [ord_0]
  omega
theorem ord_rf (a : Ru) : ordR a a = 0 := ord_0.2 ⟨rfl, rfl, rfl⟩
theorem key_sym {a b : Ru} (h : keyB a b = false) : keyB b a = false := by
  simp only [keyB, beq_eq_false_iff_ne, ne_eq, ord_0] at h ⊢
  exact fun h' => h ⟨h'.1.symm, h'.2.1.symm, h'.2.2.symm⟩

theorem key_eq (a b : Ru) : keyB a b = (decide (a.p = b.p) && (decide (a.m = b.m) && decide (a.b = b.b))) := by
  rw [Bool.eq_iff_iff, keyB, beq_iff_eq, ord_0]
  simp

/-- Is there one among the first k that has the Prio and the Cube of one ahead? -/
def clTo (L : List Ru) : Nat → Bool
  | 0 => false
  | k + 1 => clTo L k || (L.take k).any (fun a => keyB a (L.getD k zeR))
def okR (L : List Ru) : Bool := L.all Ru.ok
/-- The fault of the first k rules: what is wrong with the first that has a fault: by itself, or that it has the Prio and the Cube of one ahead. -/
def tbTo (L : List Ru) : Nat → Int
  | 0 => 0
  | k + 1 => if tbTo L k = 0 then (if (L.getD k zeR).n = 0 then (if (L.take k).any (fun a => keyB a (L.getD k zeR)) then 7 else 0) else (L.getD k zeR).n) else tbTo L k
/-- The fault of a table. -/
def tbN (L : List Ru) : Int := if 12 < L.length then 4 else tbTo L L.length

theorem n_ne {r : Ru} (h : r.ok = false) : r.n ≠ 0 := ruN_ne h
theorem n_ok {r : Ru} (h : r.ok = true) : r.n = 0 := ruN_ok h
theorem ok_n {r : Ru} (h : r.n = 0) : r.ok = true := by
  cases e : r.ok
  · exact absurd h (n_ne e)
  · rfl
theorem okR_next {L : List Ru} {k : Nat} (hk : k < L.length) (h : okR (L.take k) = true) (h2 : (L[k]).ok = true) : okR (L.take (k + 1)) = true := by
  rw [List.take_succ_eq_append_getElem hk]
  simp only [okR, List.all_append, List.all_cons, List.all_nil, Bool.and_true, Bool.and_eq_true]
  exact ⟨h, h2⟩
/-- A fault among the first ones is the table's. -/
theorem to_le {L : List Ru} {k : Nat} (h : tbTo L k ≠ 0) : ∀ {n : Nat}, k ≤ n → tbTo L n = tbTo L k
  | 0, hn => by
    obtain rfl : k = 0 := by omega
    rfl
  | n + 1, hn => by
    by_cases e : k = n + 1
    · subst e; rfl
    · have := to_le h (show k ≤ n by omega)
      rw [tbTo, if_neg (by rw [this]; exact h), this]
theorem getD_at {L : List Ru} {k : Nat} (hk : k < L.length) : L.getD k zeR = L[k] := by simp [List.getD, hk]

theorem cl_le {L : List Ru} : ∀ {k n : Nat}, k ≤ n → clTo L n = false → clTo L k = false
  | k, 0, h, hc => by
    obtain rfl : k = 0 := by omega
    exact hc
  | k, n + 1, h, hc => by
    by_cases e : k = n + 1
    · subst e; exact hc
    · simp only [clTo, Bool.or_eq_false_iff] at hc
      exact cl_le (by omega) hc.1
theorem cl_hit {L : List Ru} {k : Nat} (hk : k < L.length) (h : (L.take k).any (fun a => keyB a (L.getD k zeR)) = true) : clTo L L.length = true := by
  cases e : clTo L L.length
  · have := cl_le (show k + 1 ≤ L.length by omega) e
    simp only [clTo, h, Bool.or_true] at this
    cases this
  · rfl
/-- No clash: no two have one Prio and one Cube. -/
theorem cl_no {L : List Ru} : clTo L L.length = false ↔ ∀ i j, i < j → j < L.length → keyB (L.getD i zeR) (L.getD j zeR) = false := by
  constructor
  · intro h i j hij hj
    have := cl_le (show j + 1 ≤ L.length by omega) h
    simp only [clTo, Bool.or_eq_false_iff] at this
    have h2 := this.2
    rw [List.any_eq_false] at h2
    have hm : L.getD i zeR ∈ L.take j := by
      rw [getD_at (by omega)]
      rw [List.mem_take_iff_getElem]
      exact ⟨i, by omega, rfl⟩
    simpa using h2 _ hm
  · intro h
    have : ∀ n, n ≤ L.length → clTo L n = false := by
      intro n
      induction n with
      | zero => intro _; rfl
      | succ n ih =>
        intro hn
        simp only [clTo, Bool.or_eq_false_iff]
        refine ⟨ih (by omega), ?_⟩
        rw [List.any_eq_false]
        intro a ha
        rw [List.mem_take_iff_getElem] at ha
        obtain ⟨i, hi, rfl⟩ := ha
        have := h i n (by omega) (by omega)
        rw [getD_at (by omega)] at this
        simpa using this
    exact this _ (Nat.le_refl _)
theorem to_0 {L : List Ru} : ∀ {k : Nat}, k ≤ L.length → (tbTo L k = 0 ↔ okR (L.take k) = true ∧ clTo L k = false)
  | 0, _ => by simp [tbTo, okR, clTo]
  | k + 1, hk => by
    have ih := to_0 (show k ≤ L.length by omega)
    have hl : k < L.length := by omega
    rw [tbTo, clTo]
    by_cases h1 : tbTo L k = 0
    · obtain ⟨i1, i2⟩ := ih.1 h1
      rw [if_pos h1, i2, Bool.false_or]
      by_cases h2 : (L.getD k zeR).n = 0
      · rw [if_pos h2]
        have h3 := okR_next hl i1 (by rw [← getD_at hl]; exact ok_n h2)
        cases h4 : (L.take k).any (fun a => keyB a (L.getD k zeR))
        · simp [h3]
        · simp
      · rw [if_neg h2]
        refine ⟨fun h => absurd h h2, fun h => ?_⟩
        exfalso
        have h5 := h.1
        rw [okR, List.all_eq_true] at h5
        exact h2 (n_ok (by rw [getD_at hl]; exact h5 _ (by rw [List.mem_take_iff_getElem]; exact ⟨k, by omega, rfl⟩)))
    · rw [if_neg h1]
      refine ⟨fun h => absurd h h1, fun h => ?_⟩
      exfalso
      obtain ⟨h5, h6⟩ := h
      simp only [Bool.or_eq_false_iff] at h6
      refine h1 (ih.2 ⟨?_, h6.1⟩)
      rw [okR, List.all_eq_true] at h5 ⊢
      intro x hx
      refine h5 x ?_
      rw [List.mem_take_iff_getElem] at hx ⊢
      obtain ⟨i, hi, e⟩ := hx
      exact ⟨i, by omega, e⟩
/-- A table that is right. -/
theorem tb_0 {L : List Ru} : tbN L = 0 ↔ L.length ≤ 12 ∧ okR L = true ∧ clTo L L.length = false := by
  unfold tbN
  by_cases h1 : 12 < L.length
  · rw [if_pos h1]
    constructor
    · intro h; cases h
    · intro h; omega
  · rw [if_neg h1, to_0 (Nat.le_refl _), List.take_length]
    exact ⟨fun h => ⟨by omega, h⟩, fun h => h.2⟩

theorem rev_at {L : List Ru} {i : Nat} (h : i < L.length) : L.reverse.getD i zeR = L.getD (L.length - 1 - i) zeR := by
  rw [getD_at (by simpa using h), getD_at (by omega), List.getElem_reverse]
theorem tb_rev {L : List Ru} (h : tbN L = 0) : tbN L.reverse = 0 := by
  rw [tb_0] at h ⊢
  obtain ⟨h1, h2, h3⟩ := h
  refine ⟨by simpa using h1, by simpa [okR] using h2, ?_⟩
  rw [cl_no] at h3 ⊢
  intro i j hij hj
  rw [List.length_reverse] at hj
  rw [rev_at (by omega), rev_at hj]
  exact key_sym (h3 _ _ (by omega) (by omega))

/-- The place of the rule that counts among the first k; -1: none. -/
def beTo (L : List Ru) (h : Int) : Nat → Int
  | 0 => -1
  | k + 1 => if ((L.getD k zeR).has h && (decide (beTo L h k < 0) || decide (0 < ordR (L.getD k zeR) (L.getD (beTo L h k).toNat zeR)))) = true then (k : Int) else beTo L h k
theorem be_bd (L : List Ru) (h : Int) : ∀ k : Nat, -1 ≤ beTo L h k ∧ beTo L h k < k
  | 0 => by simp [beTo]
  | k + 1 => by
    have := be_bd L h k
    unfold beTo
    split <;> omega
theorem be_no {L : List Ru} {h : Int} : ∀ {k : Nat}, beTo L h k < 0 → ∀ j, j < k → (L.getD j zeR).has h = false
  | 0, _, j, hj => by omega
  | k + 1, hb, j, hj => by
    unfold beTo at hb
    split at hb
    · omega
    · next hn =>
      by_cases e : j = k
      · subst e
        cases hh : (L.getD j zeR).has h
        · rfl
        · exact absurd (by rw [hh]; simp [hb]) hn
      · exact be_no hb j (by omega)
theorem be_yes {L : List Ru} {h : Int} : ∀ {k : Nat}, 0 ≤ beTo L h k → (L.getD (beTo L h k).toNat zeR).has h = true ∧ ∀ j, j < k → (L.getD j zeR).has h = true → ordR (L.getD j zeR) (L.getD (beTo L h k).toNat zeR) ≤ 0
  | 0, hb => by simp [beTo] at hb
  | k + 1, hb => by
    unfold beTo at hb ⊢
    split
    · next hy =>
      simp only [Bool.and_eq_true, Bool.or_eq_true, decide_eq_true_eq] at hy
      obtain ⟨y1, y2⟩ := hy
      simp only [Int.toNat_natCast]
      refine ⟨y1, fun j hj hh => ?_⟩
      by_cases e : j = k
      · subst e
        rw [ord_rf]
        exact Int.le_refl _
      · rcases y2 with y2 | y2
        · rw [be_no y2 j (by omega)] at hh
          cases hh
        · have h0 : 0 ≤ beTo L h k := by
            rcases Int.lt_or_le (beTo L h k) 0 with h' | h'
            · rw [be_no h' j (by omega)] at hh
              cases hh
            · exact h'
          exact ord_tr ((be_yes h0).2 j (by omega) hh) y2
    · next hn =>
      rw [if_neg hn] at hb
      obtain ⟨i1, i2⟩ := be_yes hb
      refine ⟨i1, fun j hj hh => ?_⟩
      by_cases e : j = k
      · subst e
        rw [hh] at hn
        simp only [Bool.true_and, Bool.or_eq_true, decide_eq_true_eq, not_or] at hn
        omega
      · exact i2 j (by omega) hh

/-- The fault of a look into a table, and the place. -/
def luN (L : List Ru) (h : Int) : Int := if tbN L = 0 then (if hdrB h then (if beTo L h L.length < 0 then 5 else 0) else 1) else tbN L
def luI (L : List Ru) (h : Int) : Int := if luN L h = 0 then beTo L h L.length else 0
theorem lu_0 {L : List Ru} {h : Int} : luN L h = 0 ↔ tbN L = 0 ∧ hdrB h = true ∧ 0 ≤ beTo L h L.length := by
  unfold luN
  by_cases h1 : tbN L = 0
  · rw [if_pos h1]
    cases h2 : hdrB h
    · simp
    · by_cases h3 : beTo L h L.length < 0
      · simp [h1, h3] <;> omega
      · simp [h1, h3] <;> omega
  · rw [if_neg h1]
    simp [h1]
theorem lu_rev {L : List Ru} {h : Int} (h0 : luN L h = 0) : luN L.reverse h = 0 := by
  rw [lu_0] at h0 ⊢
  obtain ⟨h1, h2, h3⟩ := h0
  refine ⟨tb_rev h1, h2, ?_⟩
  rcases Int.lt_or_le (beTo L.reverse h L.reverse.length) 0 with h' | h'
  · exfalso
    have hb := be_bd L h L.length
    have := be_no h' (L.length - 1 - (beTo L h L.length).toNat) (by rw [List.length_reverse]; omega)
    rw [rev_at (by omega), show L.length - 1 - (L.length - 1 - (beTo L h L.length).toNat) = (beTo L h L.length).toNat by omega, (be_yes h3).1] at this
    cases this
  · exact h'
theorem lu_iff {L : List Ru} {h : Int} : luN L.reverse h = 0 ↔ luN L h = 0 :=
  ⟨fun e => by have := lu_rev e; rwa [List.reverse_reverse] at this, lu_rev⟩
/-- However a table stands, the same rule counts. -/
theorem lu_same {L : List Ru} {h : Int} (h0 : luN L h = 0) : L.reverse.getD (luI L.reverse h).toNat zeR = L.getD (luI L h).toNat zeR ∧ (luI L.reverse h).toNat < L.length ∧ (luI L h).toNat < L.length ∧ 0 ≤ luI L.reverse h ∧ 0 ≤ luI L h := by
  have h1 := lu_rev h0
  have e1 : luI L h = beTo L h L.length := by simp [luI, h0]
  have e2 : luI L.reverse h = beTo L.reverse h L.reverse.length := by rw [luI, if_pos h1]
  rw [e1, e2]
  obtain ⟨a1, _, a3⟩ := lu_0.1 h0
  obtain ⟨_, _, b3⟩ := lu_0.1 h1
  have c1 := be_bd L h L.length
  have c2 := be_bd L.reverse h L.reverse.length
  rw [List.length_reverse] at *
  obtain ⟨d1, d2⟩ := be_yes a3
  obtain ⟨f1, f2⟩ := be_yes b3
  generalize hi : (beTo L h L.length).toNat = i at *
  generalize hk : (beTo L.reverse h L.length).toNat = k at *
  have hil : i < L.length := by omega
  have hkl : k < L.length := by omega
  refine ⟨?_, hkl, hil, b3, a3⟩
  rw [rev_at hkl] at f1 f2 ⊢
  have g1 := d2 (L.length - 1 - k) (by omega) f1
  have g2 := f2 (L.length - 1 - i) (by omega) (by rw [rev_at (by omega), show L.length - 1 - (L.length - 1 - i) = i by omega]; exact d1)
  rw [rev_at (by omega), show L.length - 1 - (L.length - 1 - i) = i by omega] at g2
  have g3 := ord_as g2 g1
  have hc := cl_no.1 (tb_0.1 a1).2.2
  rcases Nat.lt_trichotomy i (L.length - 1 - k) with h' | h' | h'
  · have := hc _ _ h' (by omega)
    rw [keyB, g3] at this
    cases this
  · rw [← h']
  · have := key_sym (hc _ _ h' hil)
    rw [keyB, g3] at this
    cases this
/-- The rule that counts has the header, and none that has it has a greater Prio. -/
theorem lu_top {L : List Ru} {h : Int} (h0 : luN L h = 0) : (L.getD (luI L h).toNat zeR).has h = true ∧ ∀ j, j < L.length → (L.getD j zeR).has h = true → (L.getD j zeR).p ≤ (L.getD (luI L h).toNat zeR).p := by
  have e1 : luI L h = beTo L h L.length := by simp [luI, h0]
  rw [e1]
  obtain ⟨d1, d2⟩ := be_yes (lu_0.1 h0).2.2
  refine ⟨d1, fun j hj hh => ?_⟩
  have := d2 j hj hh
  rw [ord_le] at this
  omega
end Go.Proofs.YtglnnoglbieaeaaGreatDoor
/- Maps that a call made, with any keys that can be told apart and any elements: what is looked up, what a store makes. No program in it. -/
namespace Go.Proofs.YtglnnoglbieaeaaGreatDoor
open Go.RowKit
set_option linter.unusedVariables false

section
variable {κ β : Type}
/-- The first place of a key among entries, and what is there. -/
def fndM (q : κ → κ → Bool) (k : κ) : List κ → List MapEntry → Nat → Option (Nat × Value)
  | k' :: ks, e :: es, i => if q k k' then some (i, e.val) else fndM q k ks es (i + 1)
  | _, _, _ => none
/-- What is at a key. -/
def mget (q : κ → κ → Bool) (k : κ) : List (κ × β) → Option β
  | [] => none
  | p :: M => if q k p.1 then some p.2 else mget q k M
/-- A store at a key. -/
def mput (q : κ → κ → Bool) (k : κ) (b : β) : List (κ × β) → List (κ × β)
  | [] => [(k, b)]
  | p :: M => if q k p.1 then (k, b) :: M else p :: mput q k b M
theorem mget_put {q : κ → κ → Bool} (hq : ∀ a b, q a b = true ↔ a = b) (k k' : κ) (b : β) : ∀ M : List (κ × β), mget q k' (mput q k b M) = if q k' k then some b else mget q k' M
  | [] => by simp [mput, mget]
  | p :: M => by
    have ih := mget_put hq k k' b M
    rw [mput]
    by_cases h : q k p.1 = true
    · rw [if_pos h, mget, mget]
      have e := (hq _ _).1 h
      subst e
      simp only
      split <;> simp_all
    · rw [if_neg h, mget, mget, ih]
      by_cases h2 : q k' p.1 = true
      · rw [if_pos h2, if_pos h2]
        have e := (hq _ _).1 h2
        have : ¬ q k' k = true := fun h3 => h (by rw [hq] at h3; subst h3; exact h2)
        rw [if_neg this]
      · rw [if_neg h2, if_neg h2]
theorem mput_len {q : κ → κ → Bool} (k : κ) (b : β) : ∀ M : List (κ × β), (mput q k b M).length ≤ M.length + 1
  | [] => by simp [mput]
  | p :: M => by
    have := mput_len (q := q) k b M
    rw [mput]
    split <;> simp <;> omega
end

/-- Keys of a type, and how they are told apart. -/
structure KeyE (P : Program) (K : TypeId) (κ : Type) where
  c : κ → Value
  q : κ → κ → Bool
  qeq : ∀ a b, q a b = true ↔ a = b
  check : ∀ (e : Bool) (k : κ) (w : World), (Instr.checkKey e 10000 K (c k)).run P w = .ok () w
  find : ∀ (k : κ) (ks : List κ) (l : List MapEntry) (w : World), l.map (·.key) = ks.map c → (Instr.findKey K (c k) l).run P w = .ok (fndM q k ks l 0) w
  bits : ∀ k, Instr.sameBits 10000 (c k) (c k) = true

section
variable {P : Program} {K : TypeId} {κ β : Type}
theorem find_ask {c : κ → Value} {q : κ → κ → Bool} (heq : ∀ a b w, (Op.equal K (c a) (c b)).run P w = .ok (q a b) w) (k : κ) : ∀ (ks : List κ) (l : List MapEntry) (i : Nat) (w : World), l.map (·.key) = ks.map c → (Instr.findAsking K (c k) l i).run P w = .ok (fndM q k ks l i) w
  | [], [], i, w, _ => rfl
  | [], _ :: _, _, _, h => by simp at h
  | _ :: _, [], _, _, h => by simp at h
  | k' :: ks, e :: l, i, w, h => by
    simp only [List.map_cons, List.cons.injEq] at h
    simp only [Instr.findAsking, Sem.run_bind, h.1, heq, Result.andThen_ok]
    rw [fndM]
    cases hq : q k k'
    · simp only [Bool.false_eq_true, if_false]
      exact find_ask heq k ks l (i + 1) w h.2
    · simp
theorem find_now {c : κ → Value} {q : κ → κ → Bool} {d : TypeDesc} (hs : ∀ a b, Instr.sameNow d (c a) (c b) = some (q a b)) (k : κ) : ∀ (ks : List κ) (l : List MapEntry) (i : Nat), l.map (·.key) = ks.map c → Instr.findNow d (c k) l i = some (fndM q k ks l i)
  | [], [], i, _ => rfl
  | [], _ :: _, _, h => by simp at h
  | _ :: _, [], _, h => by simp at h
  | k' :: ks, e :: l, i, h => by
    simp only [List.map_cons, List.cons.injEq] at h
    rw [Instr.findNow, h.1, hs, fndM]
    cases hq : q k k'
    · simp only [Bool.false_eq_true, if_false]
      exact find_now hs k ks l (i + 1) h.2
    · simp
/-- Keys that are told apart at once (numbers, texts, bools). -/
def KeyE.now (c : κ → Value) (q : κ → κ → Bool) (qeq : ∀ a b, q a b = true ↔ a = b) (check : ∀ (e : Bool) (k : κ) (w : World), (Instr.checkKey e 10000 K (c k)).run P w = .ok () w) (d : TypeDesc) (hd : P.underlying K = some d)
    (hs : ∀ a b, Instr.sameNow d (c a) (c b) = some (q a b)) (bits : ∀ k, Instr.sameBits 10000 (c k) (c k) = true) : KeyE P K κ :=
  ⟨c, q, qeq, check, fun k ks l w h => Go.MapKept.run_findKey hd (find_now hs k ks l 0 h), bits⟩
/-- Keys that are asked one by one (structs, arrays). -/
def KeyE.ask (c : κ → Value) (q : κ → κ → Bool) (qeq : ∀ a b, q a b = true ↔ a = b) (check : ∀ (e : Bool) (k : κ) (w : World), (Instr.checkKey e 10000 K (c k)).run P w = .ok () w) (d : TypeDesc) (hd : P.underlying K = some d)
    (hs : ∀ a b, Instr.sameNow d (c a) (c b) = none) (heq : ∀ a b w, (Op.equal K (c a) (c b)).run P w = .ok (q a b) w) (bits : ∀ k, Instr.sameBits 10000 (c k) (c k) = true) : KeyE P K κ :=
  ⟨c, q, qeq, check, fun k ks l w h => by
    cases ks with
    | nil =>
      cases l with
      | nil => exact Go.MapKept.run_findKey hd rfl
      | cons e l => simp at h
    | cons k' ks =>
      cases l with
      | nil => simp at h
      | cons e l =>
        have h1 : Instr.findNow d (c k) (e :: l) 0 = none := by
          simp only [List.map_cons, List.cons.injEq] at h
          rw [Instr.findNow, h.1, hs]
        simp only [Instr.findKey, Sem.run_bind, run_underlying hd, Result.andThen_ok, h1]
        exact find_ask heq k (k' :: ks) (e :: l) 0 w h, bits⟩

/-- Stamps that are all apart, and elder than the clock. -/
def Sta (bs : List Nat) (clock : Nat) : Prop := (∀ b ∈ bs, b < clock) ∧ bs.Nodup
theorem sta_push {bs : List Nat} {clock : Nat} (h : Sta bs clock) : Sta (bs ++ [clock]) (clock + 1) := by
  refine ⟨fun b hb => ?_, ?_⟩
  · simp only [List.mem_append, List.mem_singleton] at hb
    rcases hb with hb | rfl
    · have := h.1 b hb; omega
    · omega
  · rw [List.nodup_append]
    refine ⟨h.2, by simp, fun a ha b hb e => ?_⟩
    simp only [List.mem_singleton] at hb
    have := h.1 a ha
    omega
theorem born_modify (f : MapEntry → MapEntry) (hf : ∀ e, (f e).born = e.born) : ∀ (l : List MapEntry) (i : Nat), (l.modify i f).map (·.born) = l.map (·.born)
  | [], i => by simp
  | a :: l, 0 => by simp [hf]
  | a :: l, i + 1 => by
    have ih := born_modify f hf l i
    simp [List.modify_succ_cons, ih]
/-- A block is a map that holds these, in this order. -/
def MAt (E : KeyE P K κ) (ve : β → Value) (w : World) (B : Nat) (M : List (κ × β)) : Prop :=
  ∃ es clock, w.heap[B]? = some (.map es clock) ∧ es.toList.map (·.key) = (M.map (·.1)).map E.c ∧ es.toList.map (·.val) = (M.map (·.2)).map ve ∧ Sta (es.toList.map (·.born)) clock
variable {E : KeyE P K κ} {ve : β → Value}
theorem MAt.lt {w : World} {B : Nat} {M : List (κ × β)} (h : MAt E ve w B M) : B < w.heap.size := by
  obtain ⟨es, clock, h1, _⟩ := h
  exact (Array.getElem?_eq_some_iff.1 h1).1
theorem MAt.later {w w' : World} {B : Nat} {M : List (κ × β)} (h : MAt E ve w B M) (hb : Below w.heap.size w w') : MAt E ve w' B M := by
  have hlt := h.lt
  obtain ⟨es, clock, h1, h2⟩ := h
  exact ⟨es, clock, (hb.block B hlt).trans h1, h2⟩
theorem MAt.kept {w w' : World} {B : Nat} {M : List (κ × β)} {row : Option Nat} (h : MAt E ve w B M) (hg : w.grownBy w' row) (hne : some B ≠ row) : MAt E ve w' B M := by
  have hlt := h.lt
  obtain ⟨es, clock, h1, h2⟩ := h
  exact ⟨es, clock, (hg.block B hlt hne).trans h1, h2⟩
theorem mat_new (E : KeyE P K κ) (ve : β → Value) (w : World) : MAt E ve (w.alloc (.map #[] 0)) w.heap.size [] := ⟨#[], 0, heap_alloc_new w _, rfl, rfl, by simp [Sta]⟩

theorem fnd_get {q : κ → κ → Bool} {k : κ} : ∀ (M : List (κ × β)) (l : List MapEntry) (i : Nat), l.map (·.val) = (M.map (·.2)).map ve → ((fndM q k (M.map (·.1)) l i).map (·.2)) = (mget q k M).map ve
  | [], [], _, _ => rfl
  | [], _ :: _, _, h => by simp at h
  | _ :: _, [], _, h => by simp at h
  | p :: M, e :: l, i, h => by
    simp only [List.map_cons, List.cons.injEq] at h
    rw [List.map_cons, fndM, mget]
    cases hq : q k p.1
    · simp only [Bool.false_eq_true, if_false]
      exact fnd_get M l (i + 1) h.2
    · simp [h.1]
/-- What a look-up answers. -/
def getV (ve : β → Value) (z : Value) (o : Option β) : Value := match o with | some b => ve b | none => z
theorem run_lookup_M {w : World} {B : Nat} {M : List (κ × β)} (h : MAt E ve w B M) (t e : TypeId) (ht : P.underlying t = some (.map K e)) (z : Value) (hz : ∀ w, (zeroValue e).run P w = .ok z w) (k : κ) (ok : Bool) :
    (Instr.lookup t (.map (some B)) (E.c k) ok).run P w = .ok (if ok then .tuple #[getV ve z (mget E.q k M), .bool (mget E.q k M).isSome] else getV ve z (mget E.q k M)) w := by
  obtain ⟨es, clock, h1, h2, h3, _⟩ := h
  have hf := E.find k (M.map (·.1)) es.toList w h2
  have hg := fnd_get (ve := ve) (q := E.q) (k := k) M es.toList 0 h3
  simp only [Instr.lookup, Sem.run_bind, run_underlying ht, Result.andThen_ok, Go.MapKept.run_getObj_map h1, Sem.run_pure, E.check, hf]
  generalize fndM E.q k (M.map (·.1)) es.toList 0 = r at *
  cases r with
  | none =>
    cases hm : mget E.q k M with
    | none => cases ok <;> simp [getV, hz]
    | some b => rw [hm] at hg; simp at hg
  | some p =>
    cases hm : mget E.q k M with
    | none => rw [hm] at hg; simp at hg
    | some b =>
      rw [hm] at hg
      simp at hg
      cases ok <;> simp [getV, hg]

theorem fnd_put {q : κ → κ → Bool} (qeq : ∀ a b, q a b = true ↔ a = b) {c : κ → Value} {k : κ} {b : β} : ∀ (M : List (κ × β)) (l : List MapEntry) (s : Nat), l.map (·.key) = (M.map (·.1)).map c → l.map (·.val) = (M.map (·.2)).map ve →
    (fndM q k (M.map (·.1)) l s = none ∧ (mput q k b M) = M ++ [(k, b)]) ∨ ∃ i v, fndM q k (M.map (·.1)) l s = some (s + i, v) ∧ ∃ hi : i < l.length, l[i].key = c k ∧
      (l.modify i (fun e => { e with key := c k, val := ve b })).map (·.key) = ((mput q k b M).map (·.1)).map c ∧ (l.modify i (fun e => { e with key := c k, val := ve b })).map (·.val) = ((mput q k b M).map (·.2)).map ve
  | [], [], _, _, _ => .inl ⟨rfl, rfl⟩
  | [], _ :: _, _, h, _ => by simp at h
  | _ :: _, [], _, h, _ => by simp at h
  | p :: M, e :: l, s, h, h' => by
    simp only [List.map_cons, List.cons.injEq] at h h'
    rw [List.map_cons, fndM, mput]
    cases hq : q k p.1
    · simp only [Bool.false_eq_true, if_false]
      rcases fnd_put qeq (c := c) (k := k) (b := b) M l (s + 1) h.2 h'.2 with ⟨h1, h2⟩ | ⟨i, v, h1, hi, h2, h3, h4⟩
      · exact .inl ⟨h1, by rw [h2]; rfl⟩
      · refine .inr ⟨i + 1, v, by rw [h1]; congr 2; omega, by simp; omega, by simpa using h2, ?_, ?_⟩
        · simp only [List.modify_succ_cons, List.map_cons, h.1, h3]
        · simp only [List.modify_succ_cons, List.map_cons, h'.1, h4]
    · simp only [if_true]
      have e1 := (qeq _ _).1 hq
      refine .inr ⟨0, e.val, rfl, by simp, by simp [h.1, e1], ?_, ?_⟩
      · simp [h.2]
      · simp [h'.2]
theorem run_update_M {w : World} {B : Nat} {M : List (κ × β)} (h : MAt E ve w B M) (t e : TypeId) (ht : P.underlying t = some (.map K e)) (k : κ) (b : β) :
    ∃ w', (Instr.mapUpdate t (.map (some B)) (E.c k) (ve b)).run P w = .ok () w' ∧ MAt E ve w' B (mput E.q k b M) ∧ w.grownBy w' (some B) := by
  have hlt := h.lt
  obtain ⟨es, clock, h1, h2, h3, hst⟩ := h
  have hf := E.find k (M.map (·.1)) es.toList w h2
  have hgr : ∀ o : Obj, w.grownBy { w with heap := w.heap.setIfInBounds B o } (some B) := fun o => ⟨rfl, rfl, rfl, by simp, fun j _ hj => by
    have : B ≠ j := fun e => hj (by rw [e])
    simp [Array.getElem?_setIfInBounds_ne this]⟩
  have hat : ∀ o : Obj, ({ w with heap := w.heap.setIfInBounds B o } : World).heap[B]? = some o := fun o => by simp [hlt]
  rcases fnd_put E.qeq (ve := ve) (c := E.c) (k := k) (b := b) M es.toList 0 h2 h3 with ⟨r1, r2⟩ | ⟨i, v, r1, hi, r2, r3, r4⟩
  · rw [r1] at hf
    refine ⟨_, ?_, ⟨es.push { key := E.c k, val := ve b, born := clock }, clock + 1, hat _, ?_, ?_, by simpa using sta_push hst⟩, hgr _⟩
    · simp only [Instr.mapUpdate, Sem.run_bind, run_underlying ht, Result.andThen_ok, Go.MapKept.run_getObj_map h1, E.check, hf, Go.MapKept.run_setObj_map _ h1]
    · rw [r2]; simp [h2]
    · rw [r2]; simp [h3]
  · rw [r1] at hf
    have hk : ((es[i]?).map (·.key)).getD (E.c k) = E.c k := by
      have hi2 : i < es.size := by simpa using hi
      rw [Array.getElem?_eq_getElem hi2]
      simpa using r2
    refine ⟨_, ?_, ⟨es.modify i fun e => { e with key := E.c k, val := ve b }, clock, hat _, ?_, ?_, by have hbm := born_modify (fun e : MapEntry => { e with key := E.c k, val := ve b }) (fun _ => rfl) es.toList i; rw [Array.toList_modify, hbm]; exact hst⟩, hgr _⟩
    · simp only [Instr.mapUpdate, Sem.run_bind, run_underlying ht, Result.andThen_ok, Go.MapKept.run_getObj_map h1, E.check, hf, Nat.zero_add, hk, Instr.keyThatStays, E.bits, if_true, Sem.run_pure, Go.MapKept.run_setObj_map _ h1]
    · rw [Array.toList_modify]; exact r3
    · rw [Array.toList_modify]; exact r4

theorem find_born {l : List MapEntry} : ∀ {j : Nat} {e0 : MapEntry}, (l.map (·.born)).Nodup → l[j]? = some e0 → l.findIdx? (fun e => ((e.born : Nat) : Int) == ((e0.born : Nat) : Int)) = some j := by
  induction l with
  | nil => intro j e0 _ h; simp at h
  | cons a r ih =>
    intro j e0 hn h
    simp only [List.map_cons, List.nodup_cons] at hn
    cases j with
    | zero =>
      simp only [List.getElem?_cons_zero, Option.some.injEq] at h
      subst h
      simp [List.findIdx?_cons]
    | succ j =>
      simp only [List.getElem?_cons_succ] at h
      have hne : ¬ a.born = e0.born := fun e1 => hn.1 (List.mem_map.2 ⟨e0, List.mem_of_getElem? h, e1.symm⟩)
      have hb : (((a.born : Nat) : Int) == ((e0.born : Nat) : Int)) = false := by
        simp only [beq_eq_false_iff_ne, ne_eq, Int.natCast_inj]
        exact hne
      rw [List.findIdx?_cons, hb]
      simp [ih hn.2 h]
theorem idx_toList (xs : Array MapEntry) (p : MapEntry → Bool) : xs.findIdx? p = xs.toList.findIdx? p := by
  cases xs
  simp
theorem modify_end {α : Type} (f : α → α) (a : α) : ∀ l : List α, (l ++ [a]).modify l.length f = l ++ [f a]
  | [] => rfl
  | b :: r => by simp [List.modify_succ_cons, modify_end f a r]
theorem modify_at {α : Type} (f g : α → α) : ∀ (l : List α) (i : Nat) (hi : i < l.length), f l[i] = g l[i] → l.modify i f = l.modify i g
  | a :: l, 0, _, h => by simpa using h
  | a :: l, i + 1, hi, h => by
    have := modify_at f g l i (by simpa using hi) (by simpa using h)
    simp [List.modify_succ_cons, this]
theorem modify_id {α : Type} (f : α → α) : ∀ (l : List α) (i : Nat) (hi : i < l.length), f l[i] = l[i] → l.modify i f = l
  | a :: l, 0, _, h => by simpa using h
  | a :: l, i + 1, hi, h => by
    have := modify_id f l i (by simpa using hi) (by simpa using h)
    simp [List.modify_succ_cons, this]
/-- An entry is made, or found; then it is stored into, whatever else has turned. -/
theorem run_entry_M {w : World} {B : Nat} {M : List (κ × β)} (h : MAt E ve w B M) (t e : TypeId) (ht : P.underlying t = some (.map K e)) (z : β) (hz : ∀ w, (zeroValue e).run P w = .ok (ve z) w) (k : κ) :
    ∃ (v0 : Value) (st : Nat) (w1 : World), (Instr.mapEntry t (.map (some B)) (E.c k)).run P w = .ok (.tuple #[v0, .int .i64 (st : Int)]) w1 ∧ w.grownBy w1 (some B) ∧ MAt E ve w1 B (mput E.q k ((mget E.q k M).getD z) M) ∧
      ∀ (w2 : World) (b : β), w2.heap[B]? = w1.heap[B]? → ∃ w3, (Instr.entryStore t (.map (some B)) (.int .i64 (st : Int)) (ve b)).run P w2 = .ok () w3 ∧ MAt E ve w3 B (mput E.q k b M) ∧ w2.grownBy w3 (some B) := by
  have hlt := h.lt
  obtain ⟨es, clock, h1, h2, h3, hst⟩ := h
  have hf := E.find k (M.map (·.1)) es.toList w h2
  have hgr : ∀ (w : World) (o : Obj), w.grownBy { w with heap := w.heap.setIfInBounds B o } (some B) := fun w o => ⟨rfl, rfl, rfl, by simp, fun j _ hj => by
    have : B ≠ j := fun e => hj (by rw [e])
    simp [Array.getElem?_setIfInBounds_ne this]⟩
  have hat : ∀ (w : World) (o o' : Obj), w.heap[B]? = some o' → ({ w with heap := w.heap.setIfInBounds B o } : World).heap[B]? = some o := fun w o o' hw => by
    have hl : B < w.heap.size := (Array.getElem?_eq_some_iff.1 hw).1
    simp [hl]
  rcases fnd_put E.qeq (ve := ve) (c := E.c) (k := k) (b := z) M es.toList 0 h2 h3 with ⟨r1, r2⟩ | ⟨i, v, r1, hi, r2, r3, r4⟩
  · rw [r1] at hf
    have hno : mget E.q k M = none := by
      have := fnd_get (ve := ve) (q := E.q) (k := k) M es.toList 0 h3
      rw [r1] at this
      cases hm : mget E.q k M with
      | none => rfl
      | some b => rw [hm] at this; simp at this
    have hput : ∀ b, mput E.q k b M = M ++ [(k, b)] := fun b => by
      rcases fnd_put E.qeq (ve := ve) (c := E.c) (k := k) (b := b) M es.toList 0 h2 h3 with ⟨_, r⟩ | ⟨i, v, q1, _⟩
      · exact r
      · rw [r1] at q1; cases q1
    refine ⟨ve z, clock, { w with heap := w.heap.setIfInBounds B (.map (es.push { key := E.c k, val := ve z, born := clock }) (clock + 1)) }, ?_, hgr _ _, ⟨_, _, hat _ _ _ h1, ?_, ?_, by simpa using sta_push hst⟩, fun w2 b hw2 => ?_⟩
    · simp only [Instr.mapEntry, Sem.run_bind, run_underlying ht, Result.andThen_ok, Go.MapKept.run_getObj_map h1, E.check, hf, hz, Go.MapKept.run_setObj_map _ h1, Sem.run_pure]
      rfl
    · rw [hno, hput]; simp [h2]
    · rw [hno, hput]; simp [h3]
    · rw [hat _ _ _ h1] at hw2
      have hidx : (es.push { key := E.c k, val := ve z, born := clock }).findIdx? (fun e => ((e.born : Nat) : Int) == ((clock : Nat) : Int)) = some es.size := by
        rw [idx_toList]
        exact find_born (l := (es.push { key := E.c k, val := ve z, born := clock }).toList) (j := es.size) (e0 := { key := E.c k, val := ve z, born := clock }) (by simpa using (sta_push hst).2) (by simp)
      have hmod : (es.push { key := E.c k, val := ve z, born := clock }).modify es.size (fun e => { e with val := ve b }) = es.push { key := E.c k, val := ve b, born := clock } := by
        apply Array.ext'
        rw [Array.toList_modify, Array.toList_push, Array.toList_push, ← Array.length_toList, modify_end]
      refine ⟨{ w2 with heap := w2.heap.setIfInBounds B (.map (es.push { key := E.c k, val := ve b, born := clock }) (clock + 1)) }, ?_, ⟨_, _, hat _ _ _ hw2, ?_, ?_, by simpa using sta_push hst⟩, hgr _ _⟩
      · simp [Instr.entryStore, Go.MapKept.run_getObj_map hw2, asInt, asIntOf, hidx, hmod, Go.MapKept.run_setObj_map _ hw2, Result.andThen]
      · rw [hput]; simp [h2]
      · rw [hput]; simp [h3]
  · rw [r1] at hf
    simp only [Nat.zero_add] at hf r1
    have hi2 : i < es.size := by simpa using hi
    have hie : es[i]? = some es[i] := Array.getElem?_eq_getElem hi2
    have hil : es.toList[i]? = some es[i] := by simp [hi2]
    have hkey : es[i].key = E.c k := by simpa using r2
    have hget : ∃ b0, mget E.q k M = some b0 ∧ ve b0 = v := by
      have := fnd_get (ve := ve) (q := E.q) (k := k) M es.toList 0 h3
      rw [r1] at this
      cases hm : mget E.q k M with
      | none => rw [hm] at this; simp at this
      | some b => rw [hm] at this; simp at this; exact ⟨b, rfl, this.symm⟩
    obtain ⟨b0, hb0, hv⟩ := hget
    have hsame : es.modify i (fun e => { e with key := E.c k }) = es := by
      apply Array.ext'
      rw [Array.toList_modify]
      refine modify_id _ _ i hi ?_
      have : es.toList[i].key = E.c k := r2
      rw [← this]
    have hall : ∀ b, (es.toList.modify i (fun e => { e with key := E.c k, val := ve b })).map (·.key) = ((mput E.q k b M).map (·.1)).map E.c ∧ (es.toList.modify i (fun e => { e with key := E.c k, val := ve b })).map (·.val) = ((mput E.q k b M).map (·.2)).map ve := fun b => by
      rcases fnd_put E.qeq (ve := ve) (c := E.c) (k := k) (b := b) M es.toList 0 h2 h3 with ⟨q1, _⟩ | ⟨j, v', q1, _, _, q3, q4⟩
      · rw [r1] at q1; cases q1
      · rw [r1] at q1
        simp only [Option.some.injEq, Prod.mk.injEq, Nat.zero_add] at q1
        obtain ⟨rfl, _⟩ := q1
        exact ⟨q3, q4⟩
    have hold : mput E.q k b0 M = M := by
      have hput : ∀ (M : List (κ × β)), mget E.q k M = some b0 → mput E.q k b0 M = M := by
        intro M
        induction M with
        | nil => intro h; cases h
        | cons p M ih =>
          intro h
          rw [mget] at h
          rw [mput]
          by_cases e : E.q k p.1 = true
          · rw [if_pos e] at h ⊢
            have e1 := (E.qeq _ _).1 e
            simp at h
            subst h
            subst e1
            rfl
          · rw [if_neg e] at h ⊢
            rw [ih h]
      exact hput M hb0
    refine ⟨v, es[i].born, w, ?_, ⟨rfl, rfl, rfl, Nat.le_refl _, fun _ _ _ => rfl⟩, ⟨es, clock, h1, ?_, ?_, hst⟩, fun w2 b hw2 => ?_⟩
    · have hrefl : ({ w with heap := w.heap.setIfInBounds B (.map es clock) } : World) = w := by
        have : w.heap.setIfInBounds B (.map es clock) = w.heap := by
          apply Array.ext_getElem?
          intro j
          by_cases e : B = j
          · subst e; exact (hat w (.map es clock) _ h1).trans h1.symm
          · simp [Array.getElem?_setIfInBounds_ne e]
        rw [this]
      simp only [Instr.mapEntry, Sem.run_bind, run_underlying ht, Result.andThen_ok, Go.MapKept.run_getObj_map h1, E.check, hf, hie, Option.map_some, Option.getD_some, hkey, Instr.keyThatStays, E.bits, if_true, Sem.run_pure, hsame, Go.MapKept.run_setObj_map _ h1]
      rw [hrefl]
      rfl
    · rw [hb0, Option.getD_some, hold]; exact h2
    · rw [hb0, Option.getD_some, hold]; exact h3
    · rw [h1] at hw2
      have hidx : es.findIdx? (fun e => ((e.born : Nat) : Int) == ((es[i].born : Nat) : Int)) = some i := by
        rw [idx_toList]
        exact find_born hst.2 hil
      have hmod : es.modify i (fun e => { e with val := ve b }) = es.modify i (fun e => { e with key := E.c k, val := ve b }) := by
        apply Array.ext'
        rw [Array.toList_modify, Array.toList_modify]
        refine modify_at _ _ _ i hi ?_
        have : es.toList[i].key = E.c k := r2
        rw [← this]
      refine ⟨{ w2 with heap := w2.heap.setIfInBounds B (.map (es.modify i (fun e => { e with key := E.c k, val := ve b })) clock) }, ?_, ⟨_, _, hat _ _ _ hw2, ?_, ?_, by have hbm := born_modify (fun e : MapEntry => { e with key := E.c k, val := ve b }) (fun _ => rfl) es.toList i; rw [Array.toList_modify, hbm]; exact hst⟩, hgr _ _⟩
      · simp [Instr.entryStore, Go.MapKept.run_getObj_map hw2, asInt, asIntOf, hidx, hmod, Go.MapKept.run_setObj_map _ hw2, Result.andThen]
      · rw [Array.toList_modify]; exact (hall b).1
      · rw [Array.toList_modify]; exact (hall b).2

variable {w : World} {ops : Array Oper} {rest : List Oper} {o : Oper} {a : Act} {Q : Exit → Act → World → Prop}
theorem wpList_lookup_M (hg : o.guard = none) (m x : Operand) (t : TypeId) (hop : o.op = Op.lookup t m x false) (e : TypeId) (ht : P.underlying t = some (.map K e)) (z : Value) (hz : ∀ w, (zeroValue e).run P w = .ok z w) (B : Nat) (M : List (κ × β))
    (hm : a.eval m = .map (some B)) (h : MAt E ve w B M) (k : κ) (hx : a.eval x = E.c k) (hK : wpList P ops Q rest (a.put o.dst (getV ve z (mget E.q k M))) w) : wpList P ops Q (o :: rest) a w := by
  refine wpList_plain hg fun K' hK' => ?_
  have hrun := run_lookup_M h t e ht z hz k false
  unfold Oper.wp
  simp [execOp, hop, hm, hx, hrun, Result.andThen]
  exact hK' _ _ hK
theorem wpList_lookup_ok_M (hg : o.guard = none) (m x : Operand) (t : TypeId) (hop : o.op = Op.lookup t m x true) (e : TypeId) (ht : P.underlying t = some (.map K e)) (z : Value) (hz : ∀ w, (zeroValue e).run P w = .ok z w) (B : Nat) (M : List (κ × β))
    (hm : a.eval m = .map (some B)) (h : MAt E ve w B M) (k : κ) (hx : a.eval x = E.c k) (hK : wpList P ops Q rest (a.put o.dst (.tuple #[getV ve z (mget E.q k M), .bool (mget E.q k M).isSome])) w) : wpList P ops Q (o :: rest) a w := by
  refine wpList_plain hg fun K' hK' => ?_
  have hrun := run_lookup_M h t e ht z hz k true
  unfold Oper.wp
  simp [execOp, hop, hm, hx, hrun, Result.andThen]
  exact hK' _ _ hK
theorem wpList_update_M (hg : o.guard = none) (m x y : Operand) (t : TypeId) (hop : o.op = Op.mapUpdate t m x y) (e : TypeId) (ht : P.underlying t = some (.map K e)) (B : Nat) (M : List (κ × β))
    (hm : a.eval m = .map (some B)) (h : MAt E ve w B M) (k : κ) (hx : a.eval x = E.c k) (b : β) (hy : a.eval y = ve b)
    (hK : ∀ w', MAt E ve w' B (mput E.q k b M) → w.grownBy w' (some B) → wpList P ops Q rest (a.put o.dst undef) w') : wpList P ops Q (o :: rest) a w := by
  refine wpList_plain hg fun K' hK' => ?_
  obtain ⟨w', hrun, h1, h2⟩ := run_update_M h t e ht k b
  unfold Oper.wp
  simp [execOp, hop, hm, hx, hy, hrun, Result.andThen]
  exact hK' _ _ (hK w' h1 h2)
end
end Go.Proofs.YtglnnoglbieaeaaGreatDoor
/- How things are joined, in plain lists: what is wrong with a topology, who is at the other end, who is where. No program in it. -/
namespace Go.Proofs.YtglnnoglbieaeaaGreatDoor
open Go.RowKit

theorem ba_eq {a b : ByteArray} : (a == b) = true ↔ a = b := by
  obtain ⟨x⟩ := a
  obtain ⟨y⟩ := b
  show (x == y) = true ↔ _
  simp
/-- Is there such a spot, with so many switches? -/
def spB (S : Int) (x : Int × Int) : Bool := decide (1 ≤ x.1) && (decide (x.1 ≤ S) && (decide (1 ≤ x.2) && decide (x.2 ≤ 4)))
/-- Is a text one to six letters a to z? -/
def nmB (s : ByteArray) : Bool := decide (1 ≤ s.size) && (decide (s.size ≤ 6) && s.data.toList.all fun c => decide (97 ≤ c.toNat) && decide (c.toNat ≤ 122))
/-- All spots of links. -/
def spsL (Ls : List ((Int × Int) × (Int × Int))) : List (Int × Int) := Ls.flatMap fun l => [l.1, l.2]
/-- The fault of links, behind spots that are there. -/
def lkN (S : Int) : List ((Int × Int) × (Int × Int)) → List (Int × Int) → Int
  | [], _ => 0
  | l :: Ls, U => if spB S l.1 && spB S l.2 then (if l.1 == l.2 || (U.any fun u => u == l.1 || u == l.2) then 7 else lkN S Ls (U ++ [l.1, l.2])) else 1
/-- The fault of hosts, behind names and spots that are there. -/
def hoN (S : Int) : List (ByteArray × (Int × Int)) → List ByteArray → List (Int × Int) → Int
  | [], _, _ => 0
  | h :: Hs, N, U => if nmB h.1 then (if spB S h.2 then (if (N.any fun n => n == h.1) || (U.any fun u => u == h.2) then 7 else hoN S Hs (N ++ [h.1]) (U ++ [h.2])) else 1) else 2
/-- The fault of a topology. -/
def tpN (S : Int) (Ls : List ((Int × Int) × (Int × Int))) (Hs : List (ByteArray × (Int × Int))) : Int :=
  if decide (1 ≤ S) && decide (S ≤ 6) then (if decide (Ls.length ≤ 200) && decide (Hs.length ≤ 8) then (if lkN S Ls [] = 0 then hoN S Hs [] (spsL Ls) else lkN S Ls []) else 4) else 1
/-- The spot at the other end. -/
def peerO : List ((Int × Int) × (Int × Int)) → (Int × Int) → Option (Int × Int)
  | [], _ => none
  | l :: Ls, s => if l.1 == s then some l.2 else if l.2 == s then some l.1 else peerO Ls s
/-- The name of who is at a spot. -/
def atO : List (ByteArray × (Int × Int)) → (Int × Int) → Option ByteArray
  | [], _ => none
  | h :: Hs, s => if h.2 == s then some h.1 else atO Hs s
/-- Where somebody is. -/
def whereO : List (ByteArray × (Int × Int)) → ByteArray → Option (Int × Int)
  | [], _ => none
  | h :: Hs, n => if h.1 == n then some h.2 else whereO Hs n
/-- Is there a link between two switches? -/
def joinB (Ls : List ((Int × Int) × (Int × Int))) (a b : Int) : Bool := Ls.any fun l => (l.1.1 == a && l.2.1 == b) || (l.1.1 == b && l.2.1 == a)
theorem join_sy (Ls : List ((Int × Int) × (Int × Int))) (a b : Int) : joinB Ls a b = joinB Ls b a := by
  unfold joinB
  congr 1
  funext l
  exact Bool.or_comm _ _

theorem sp_of {S : Int} {x : Int × Int} (h : spB S x = true) : 1 ≤ x.1 ∧ x.1 ≤ S ∧ 1 ≤ x.2 ∧ x.2 ≤ 4 := by
  simpa [spB] using h
theorem lk_0 {S : Int} : ∀ {Ls : List ((Int × Int) × (Int × Int))} {U : List (Int × Int)}, U.Nodup → (lkN S Ls U = 0 ↔ (∀ x ∈ spsL Ls, spB S x = true) ∧ (U ++ spsL Ls).Nodup)
  | [], U, hU => by simp [lkN, spsL, hU]
  | l :: Ls, U, hU => by
    obtain ⟨x, y⟩ := l
    have e : spsL ((x, y) :: Ls) = x :: y :: spsL Ls := rfl
    rw [lkN, e]
    simp only
    by_cases h1 : spB S x && spB S y
    · rw [if_pos h1]
      simp only [Bool.and_eq_true] at h1
      by_cases h2 : (x == y || (U.any fun u => u == x || u == y)) = true
      · rw [if_pos h2]
        refine ⟨fun h => absurd h (by decide), fun h => ?_⟩
        exfalso
        have hn := h.2
        rw [List.nodup_append] at hn
        obtain ⟨_, h3, h4⟩ := hn
        simp only [Bool.or_eq_true, beq_iff_eq, List.any_eq_true] at h2
        rcases h2 with h2 | ⟨u, hu, h2 | h2⟩
        · subst h2
          rw [List.nodup_cons] at h3
          exact h3.1 (by simp)
        · exact h4 u hu x (by simp) h2
        · exact h4 u hu y (by simp) h2
      · rw [if_neg h2]
        simp only [Bool.or_eq_true, beq_iff_eq, List.any_eq_true, not_or, not_exists, not_and] at h2
        have hU2 : (U ++ [x, y]).Nodup := by
          rw [List.nodup_append]
          refine ⟨hU, by simp [h2.1], ?_⟩
          intro a ha b hb e
          subst e
          simp only [List.mem_cons, List.not_mem_nil, or_false] at hb
          have := h2.2 a ha
          rcases hb with rfl | rfl
          · exact this.1 rfl
          · exact this.2 rfl
        rw [lk_0 hU2]
        have e2 : U ++ [x, y] ++ spsL Ls = U ++ x :: y :: spsL Ls := by simp
        rw [e2]
        refine and_congr ⟨fun h => ?_, fun h z hz => h z (by simp [hz])⟩ Iff.rfl
        intro z hz
        simp only [List.mem_cons] at hz
        rcases hz with rfl | rfl | hz
        · exact h1.1
        · exact h1.2
        · exact h z hz
    · rw [if_neg h1]
      refine ⟨fun h => absurd h (by decide), fun h => ?_⟩
      exact absurd (by simp [h.1 x (by simp), h.1 y (by simp)]) h1
theorem ho_0 {S : Int} : ∀ {Hs : List (ByteArray × (Int × Int))} {N : List ByteArray} {U : List (Int × Int)}, N.Nodup → U.Nodup → (hoN S Hs N U = 0 ↔ (∀ h ∈ Hs, nmB h.1 = true ∧ spB S h.2 = true) ∧ (N ++ Hs.map (·.1)).Nodup ∧ (U ++ Hs.map (·.2)).Nodup)
  | [], N, U, hN, hU => by simp [hoN, hN, hU]
  | h :: Hs, N, U, hN, hU => by
    obtain ⟨n, x⟩ := h
    rw [hoN]
    simp only [List.map_cons]
    by_cases h1 : nmB n = true
    · rw [if_pos h1]
      by_cases h2 : spB S x = true
      · rw [if_pos h2]
        by_cases h3 : ((N.any fun m => m == n) || (U.any fun u => u == x)) = true
        · rw [if_pos h3]
          refine ⟨fun h => absurd h (by decide), fun h => ?_⟩
          exfalso
          simp only [Bool.or_eq_true, ba_eq, beq_iff_eq, List.any_eq_true] at h3
          rcases h3 with ⟨m, hm, e⟩ | ⟨u, hu, e⟩
          · have := (List.nodup_append.1 h.2.1).2.2
            exact this m hm n (by simp) e
          · have := (List.nodup_append.1 h.2.2).2.2
            exact this u hu x (by simp) e
        · rw [if_neg h3]
          simp only [Bool.or_eq_true, ba_eq, beq_iff_eq, List.any_eq_true, not_or, not_exists, not_and] at h3
          have hN2 : (N ++ [n]).Nodup := by
            rw [List.nodup_append]
            refine ⟨hN, by simp, fun a ha b hb e => ?_⟩
            simp only [List.mem_singleton] at hb
            subst hb
            exact h3.1 a ha e
          have hU2 : (U ++ [x]).Nodup := by
            rw [List.nodup_append]
            refine ⟨hU, by simp, fun a ha b hb e => ?_⟩
            simp only [List.mem_singleton] at hb
            subst hb
            exact h3.2 a ha e
          rw [ho_0 hN2 hU2]
          have e1 : N ++ [n] ++ Hs.map (·.1) = N ++ n :: Hs.map (·.1) := by simp
          have e2 : U ++ [x] ++ Hs.map (·.2) = U ++ x :: Hs.map (·.2) := by simp
          rw [e1, e2]
          refine and_congr ⟨fun h z hz => ?_, fun h z hz => h z (by simp [hz])⟩ Iff.rfl
          rcases List.mem_cons.1 hz with rfl | hz
          · exact ⟨h1, h2⟩
          · exact h z hz
      · rw [if_neg h2]
        refine ⟨fun h => absurd h (by decide), fun h => ?_⟩
        exact absurd (h.1 (n, x) (by simp)).2 h2
    · rw [if_neg h1]
      refine ⟨fun h => absurd h (by decide), fun h => ?_⟩
      exact absurd (h.1 (n, x) (by simp)).1 h1
/-- What a right topology has. -/
theorem tp_0 {S : Int} {Ls : List ((Int × Int) × (Int × Int))} {Hs : List (ByteArray × (Int × Int))} (h : tpN S Ls Hs = 0) :
    (1 ≤ S ∧ S ≤ 6) ∧ (Ls.length ≤ 200 ∧ Hs.length ≤ 8) ∧ (∀ x ∈ spsL Ls, spB S x = true) ∧ (spsL Ls).Nodup ∧ (∀ h ∈ Hs, nmB h.1 = true ∧ spB S h.2 = true) ∧ (Hs.map (·.1)).Nodup ∧ (spsL Ls ++ Hs.map (·.2)).Nodup := by
  unfold tpN at h
  by_cases h1 : (decide (1 ≤ S) && decide (S ≤ 6)) = true
  · rw [if_pos h1] at h
    by_cases h2 : (decide (Ls.length ≤ 200) && decide (Hs.length ≤ 8)) = true
    · rw [if_pos h2] at h
      by_cases h3 : lkN S Ls [] = 0
      · rw [if_pos h3] at h
        have h4 := (lk_0 (S := S) (Ls := Ls) (U := []) List.nodup_nil).1 h3
        simp only [List.nil_append] at h4
        have h5 := (ho_0 (S := S) (Hs := Hs) (N := []) (U := spsL Ls) List.nodup_nil h4.2).1 h
        simp only [List.nil_append] at h5
        simp only [Bool.and_eq_true, decide_eq_true_eq] at h1 h2
        exact ⟨h1, h2, h4.1, h4.2, h5.1, h5.2.1, h5.2.2⟩
      · rw [if_neg h3] at h; exact absurd h h3
    · rw [if_neg h2] at h; exact absurd h (by decide)
  · rw [if_neg h1] at h; exact absurd h (by decide)
theorem peer_in : ∀ {Ls : List ((Int × Int) × (Int × Int))} {s p : Int × Int}, peerO Ls s = some p → s ∈ spsL Ls ∧ p ∈ spsL Ls
  | [], _, _, h => by cases h
  | l :: Ls, s, p, h => by
    obtain ⟨x, y⟩ := l
    have e : spsL ((x, y) :: Ls) = x :: y :: spsL Ls := rfl
    rw [peerO] at h
    rw [e]
    by_cases h1 : x = s
    · subst h1
      simp at h
      subst h
      simp
    · by_cases h2 : y = s
      · subst h2
        simp [h1] at h
        subst h
        simp
      · simp [h1, h2] at h
        have := peer_in h
        simp [this.1, this.2]
/-- Who is at the other end has this one at its other end, and is another one. -/
theorem peer_back : ∀ {Ls : List ((Int × Int) × (Int × Int))} {s p : Int × Int}, (spsL Ls).Nodup → peerO Ls s = some p → peerO Ls p = some s ∧ p ≠ s
  | [], _, _, _, h => by cases h
  | l :: Ls, s, p, hn, h => by
    obtain ⟨x, y⟩ := l
    have e : spsL ((x, y) :: Ls) = x :: y :: spsL Ls := rfl
    rw [e, List.nodup_cons, List.nodup_cons] at hn
    obtain ⟨hx, hy, hn⟩ := hn
    simp only [List.mem_cons, not_or] at hx
    rw [peerO] at h
    by_cases h1 : x = s
    · subst h1
      simp at h
      subst h
      refine ⟨?_, fun e => hx.1 e.symm⟩
      rw [peerO]
      simp [hx.1]
    · by_cases h2 : y = s
      · subst h2
        simp [h1] at h
        subst h
        refine ⟨?_, h1⟩
        rw [peerO]
        simp
      · simp [h1, h2] at h
        have hb := peer_back hn h
        have hi := peer_in h
        refine ⟨?_, hb.2⟩
        rw [peerO]
        have p1 : ¬ x = p := fun e => hx.2 (e ▸ hi.2)
        have p2 : ¬ y = p := fun e => hy (e ▸ hi.2)
        simp [p1, p2, hb.1]
theorem where_in : ∀ {Hs : List (ByteArray × (Int × Int))} {n : ByteArray} {x : Int × Int}, whereO Hs n = some x → (n, x) ∈ Hs
  | [], _, _, h => by cases h
  | h :: Hs, n, x, hw => by
    obtain ⟨m, y⟩ := h
    rw [whereO] at hw
    by_cases h1 : m = n
    · subst h1
      simp [ba_eq] at hw
      subst hw
      simp
    · simp [ba_eq, h1] at hw
      exact List.mem_cons_of_mem _ (where_in hw)
/-- Somebody is where he is. -/
theorem where_at : ∀ {Hs : List (ByteArray × (Int × Int))} {n : ByteArray} {x : Int × Int}, (Hs.map (·.2)).Nodup → whereO Hs n = some x → atO Hs x = some n
  | [], _, _, _, h => by cases h
  | h :: Hs, n, x, hd, hw => by
    obtain ⟨m, y⟩ := h
    rw [List.map_cons, List.nodup_cons] at hd
    rw [whereO] at hw
    rw [atO]
    by_cases h1 : m = n
    · subst h1
      simp [ba_eq] at hw
      subst hw
      simp
    · simp [ba_eq, h1] at hw
      have hi := where_in hw
      have hne : ¬ y = x := by
        intro e
        subst e
        exact hd.1 (List.mem_map.2 ⟨_, hi, rfl⟩)
      simp [hne]
      exact where_at hd.2 hw
end Go.Proofs.YtglnnoglbieaeaaGreatDoor
/- Worlds of which some blocks alone may have turned, and counts that a map keeps. No program in it. -/
namespace Go.Proofs.YtglnnoglbieaeaaGreatDoor
open Go.RowKit
set_option linter.unusedVariables false

/-- Blocks that were there are as they were, but for these. -/
structure But (X : List Nat) (w w' : World) : Prop where
  os : w'.os = w.os
  tape : w'.tape = w.tape
  output : w'.output = w.output
  size : w.heap.size ≤ w'.heap.size
  block : ∀ k, k < w.heap.size → k ∉ X → w'.heap[k]? = w.heap[k]?
theorem But.refl (X : List Nat) (w : World) : But X w w := ⟨rfl, rfl, rfl, Nat.le_refl _, fun _ _ _ => rfl⟩
theorem But.trans {X : List Nat} {a b c : World} (h : But X a b) (k : But X b c) : But X a c :=
  ⟨k.os.trans h.os, k.tape.trans h.tape, k.output.trans h.output, Nat.le_trans h.size k.size, fun i hi hx => (k.block i (Nat.lt_of_lt_of_le hi h.size) hx).trans (h.block i hi hx)⟩
theorem But.drew {X : List Nat} {a w : World} (h : But X a w) : But X a w.drew := ⟨h.os, h.tape, h.output, h.size, h.block⟩
theorem wrap_small {x : Int} (h1 : -1000000 ≤ x) (h2 : x ≤ 1000000) : IntKind.i64.wrap x = x := by
  rw [IntKind.wrap_i64]
  omega
theorem But.of_below {X : List Nat} {w w' : World} (h : Below w.heap.size w w') : But X w w' := ⟨h.os, h.tape, h.output, h.size, fun k hk _ => h.block k hk⟩
theorem But.of_grown {X : List Nat} {w w' : World} {B : Nat} (h : w.grownBy w' (some B)) (hB : B ∈ X) : But X w w' :=
  ⟨h.os, h.tape, h.output, h.size, fun k hk hx => h.block k hk (fun e => hx (by cases e; exact hB))⟩
theorem But.mono {X Y : List Nat} {w w' : World} (h : But X w w') (hX : ∀ x ∈ X, x ∈ Y) : But Y w w' := ⟨h.os, h.tape, h.output, h.size, fun k hk hx => h.block k hk (fun e => hx (hX k e))⟩
theorem But.below {X : List Nat} {w w' : World} {B : Nat} (h : But X w w') (hB : B ≤ w.heap.size) (hX : ∀ x ∈ X, B ≤ x) : Below B w w' :=
  ⟨h.os, h.tape, h.output, h.size, fun k hk => h.block k (by omega) (fun e => by have := hX k e; omega)⟩
theorem But.cell {X : List Nat} {w w' : World} (h : But X w w') {p : Addr} (hl : p.block < w.heap.size) (hX : p.block ∉ X) : w'.cell? p = w.cell? p := World.cell?_of_block (w := w) (h.block p.block hl hX)
section
variable {P : Program} {K : TypeId} {κ β : Type} {E : KeyE P K κ} {ve : β → Value}
theorem MAt.but {X : List Nat} {w w' : World} {B : Nat} {M : List (κ × β)} (h : MAt E ve w B M) (hb : But X w w') (hX : B ∉ X) : MAt E ve w' B M := by
  have hlt := h.lt
  obtain ⟨es, clock, h1, h2⟩ := h
  exact ⟨es, clock, (hb.block B hlt hX).trans h1, h2⟩
end

section
variable {κ : Type}
/-- How often one is there. -/
def ctM (q : κ → κ → Bool) (x : κ) (U : List κ) : Nat := (U.filter fun y => q x y).length
theorem ct_app {q : κ → κ → Bool} (x : κ) (U V : List κ) : ctM q x (U ++ V) = ctM q x U + ctM q x V := by simp [ctM]
theorem ct_le {q : κ → κ → Bool} (x : κ) (U : List κ) : ctM q x U ≤ U.length := List.length_filter_le _ _
theorem ct_pos {q : κ → κ → Bool} (hq : ∀ a b, q a b = true ↔ a = b) (x : κ) (U : List κ) : 0 < ctM q x U ↔ x ∈ U := by
  unfold ctM
  rw [List.length_pos_iff_exists_mem]
  simp only [List.mem_filter, hq]
  exact ⟨fun ⟨y, h1, h2⟩ => h2 ▸ h1, fun h => ⟨x, h, rfl⟩⟩
/-- A map that counts these. -/
def TK (q : κ → κ → Bool) (M : List (κ × Int)) (U : List κ) : Prop := ∀ s, (mget q s M).getD 0 = (ctM q s U : Int)
theorem tk_nil (q : κ → κ → Bool) : TK q [] [] := fun s => rfl
theorem tk_put {q : κ → κ → Bool} (hq : ∀ a b, q a b = true ↔ a = b) {M : List (κ × Int)} {U : List κ} (h : TK q M U) (x : κ) : TK q (mput q x ((ctM q x U : Int) + 1) M) (U ++ [x]) := by
  intro s
  rw [mget_put hq, ct_app]
  by_cases e : q s x = true
  · rw [if_pos e]
    have e2 := (hq _ _).1 e
    subst e2
    have : ctM q s [s] = 1 := by simp [ctM, e]
    rw [this]
    simp
  · rw [if_neg e, h s]
    have : ctM q s [x] = 0 := by simp [ctM, e]
    rw [this]
    simp
theorem ct_one {q : κ → κ → Bool} (hq : ∀ a b, q a b = true ↔ a = b) (x y : κ) : ctM q x [y] = if q x y then 1 else 0 := by
  cases h : q x y <;> simp [ctM, h]
end
theorem getV_int {o : Option Int} : getV (fun n : Int => Value.int .i64 n) (.int .i64 0) o = .int .i64 (o.getD 0) := by cases o <;> rfl

/-- Are two spots the same? -/
def sq (a b : Int × Int) : Bool := a.1 == b.1 && a.2 == b.2
theorem sq_iff (a b : Int × Int) : sq a b = true ↔ a = b := by
  obtain ⟨x, y⟩ := a
  obtain ⟨z, v⟩ := b
  simp [sq]
/-- The fault of one link, behind spots that are there. -/
def lk1 (S : Int) (U : List (Int × Int)) (l : (Int × Int) × (Int × Int)) : Int := if spB S l.1 && spB S l.2 then (if l.1 == l.2 || (U.any fun u => u == l.1 || u == l.2) then 7 else 0) else 1
theorem lk_step (S : Int) (l : (Int × Int) × (Int × Int)) (Ls : List ((Int × Int) × (Int × Int))) (U : List (Int × Int)) : lkN S (l :: Ls) U = if lk1 S U l = 0 then lkN S Ls (U ++ [l.1, l.2]) else lk1 S U l := by
  rw [lkN, lk1]
  by_cases h1 : (spB S l.1 && spB S l.2) = true
  · rw [if_pos h1, if_pos h1]
    by_cases h2 : (l.1 == l.2 || (U.any fun u => u == l.1 || u == l.2)) = true
    · rw [if_pos h2, if_pos h2]; rfl
    · rw [if_neg h2, if_neg h2]; rfl
  · rw [if_neg h1, if_neg h1]; rfl
/-- The fault of one host. -/
def ho1 (S : Int) (N : List ByteArray) (U : List (Int × Int)) (h : ByteArray × (Int × Int)) : Int := if nmB h.1 then (if spB S h.2 then (if (N.any fun n => n == h.1) || (U.any fun u => u == h.2) then 7 else 0) else 1) else 2
theorem ho_step (S : Int) (h : ByteArray × (Int × Int)) (Hs : List (ByteArray × (Int × Int))) (N : List ByteArray) (U : List (Int × Int)) : hoN S (h :: Hs) N U = if ho1 S N U h = 0 then hoN S Hs (N ++ [h.1]) (U ++ [h.2]) else ho1 S N U h := by
  rw [hoN, ho1]
  by_cases h1 : nmB h.1 = true
  · rw [if_pos h1, if_pos h1]
    by_cases h2 : spB S h.2 = true
    · rw [if_pos h2, if_pos h2]
      by_cases h3 : ((N.any fun n => n == h.1) || (U.any fun u => u == h.2)) = true
      · rw [if_pos h3, if_pos h3]; rfl
      · rw [if_neg h3, if_neg h3]; rfl
    · rw [if_neg h2, if_neg h2]; rfl
  · rw [if_neg h1, if_neg h1]; rfl
/-- What the counts tell of a link. -/
theorem ct_link (U : List (Int × Int)) (x y : Int × Int) : (decide ((1 : Int) < (ctM sq x (U ++ [x] ++ [y]) : Int)) || decide ((1 : Int) < (ctM sq y (U ++ [x] ++ [y]) : Int))) = (x == y || (U.any fun u => u == x || u == y)) := by
  rw [Bool.eq_iff_iff]
  simp only [ct_app, ct_one sq_iff, Bool.or_eq_true, decide_eq_true_eq, beq_iff_eq, List.any_eq_true]
  have hx := ct_pos sq_iff x U
  have hy := ct_pos sq_iff y U
  have sx : sq x x = true := (sq_iff _ _).2 rfl
  have sy : sq y y = true := (sq_iff _ _).2 rfl
  rw [sx, sy]
  simp only [if_true]
  by_cases e : x = y
  · subst e
    simp [sx]
    omega
  · have n1 : sq x y = false := by
      cases h : sq x y
      · rfl
      · exact absurd ((sq_iff _ _).1 h) e
    have n2 : sq y x = false := by
      cases h : sq y x
      · rfl
      · exact absurd ((sq_iff _ _).1 h).symm e
    rw [n1, n2]
    simp only [Bool.false_eq_true, if_false, e, false_or]
    constructor
    · rintro (h | h)
      · exact ⟨x, hx.1 (by omega), .inl rfl⟩
      · exact ⟨y, hy.1 (by omega), .inr rfl⟩
    · rintro ⟨u, hu, rfl | rfl⟩
      · have := hx.2 hu; left; omega
      · have := hy.2 hu; right; omega
theorem ba_iff (a b : ByteArray) : (a == b) = true ↔ a = b := ba_eq
/-- What the counts tell of a host. -/
theorem ct_host {κ : Type} {q : κ → κ → Bool} (hq : ∀ a b, q a b = true ↔ a = b) (U : List κ) (x : κ) : decide ((1 : Int) < (ctM q x (U ++ [x]) : Int)) = (U.any fun u => q u x) := by
  rw [Bool.eq_iff_iff]
  simp only [ct_app, ct_one hq, decide_eq_true_eq, List.any_eq_true]
  have hx := ct_pos hq x U
  have sx : q x x = true := (hq _ _).2 rfl
  rw [sx]
  simp only [if_true]
  constructor
  · intro h
    exact ⟨x, hx.1 (by omega), sx⟩
  · rintro ⟨u, hu, e⟩
    have e2 := (hq _ _).1 e
    subst e2
    have := hx.2 hu
    omega
theorem sps_take {Ls : List ((Int × Int) × (Int × Int))} {k : Nat} (hk : k < Ls.length) : spsL (Ls.take (k + 1)) = spsL (Ls.take k) ++ [Ls[k].1, Ls[k].2] := by
  rw [List.take_succ_eq_append_getElem hk]
  unfold spsL
  rw [List.flatMap_append]
  rfl
theorem sps_len (Ls : List ((Int × Int) × (Int × Int))) : (spsL Ls).length = 2 * Ls.length := by
  induction Ls with
  | nil => rfl
  | cons l Ls ih =>
    have e : spsL (l :: Ls) = l.1 :: l.2 :: spsL Ls := rfl
    rw [e]
    simp [ih]
    omega
end Go.Proofs.YtglnnoglbieaeaaGreatDoor
/- How far it is over links from a switch to another one, in plain numbers: by fewest links, as far back, by a third one no nearer. No program in it. -/
namespace Go.Proofs.YtglnnoglbieaeaaGreatDoor
open Go.RowKit

/-- Does one come over at most n links from a to b? J: is there a link between two; the switches are 1 to S. -/
def rcB (S : Nat) (J : Nat → Nat → Bool) (a : Nat) : Nat → Nat → Bool
  | 0, b => b == a
  | n + 1, b => rcB S J a n b || (decide (1 ≤ b) && (decide (b ≤ S) && (List.range (S + 1)).any fun k => decide (1 ≤ k) && (rcB S J a n k && J k b)))
theorem rc_0 {S : Nat} {J : Nat → Nat → Bool} {a b : Nat} : rcB S J a 0 b = true ↔ b = a := by simp [rcB]
theorem rc_s {S : Nat} {J : Nat → Nat → Bool} {a b n : Nat} : rcB S J a (n + 1) b = true ↔ (rcB S J a n b = true ∨ (1 ≤ b ∧ b ≤ S ∧ ∃ k, 1 ≤ k ∧ k ≤ S ∧ rcB S J a n k = true ∧ J k b = true)) := by
  simp only [rcB, Bool.or_eq_true, Bool.and_eq_true, decide_eq_true_eq, List.any_eq_true, List.mem_range]
  constructor
  · rintro (h | ⟨h1, h2, k, h3, h4, h5, h6⟩)
    · exact .inl h
    · exact .inr ⟨h1, h2, k, h4, by omega, h5, h6⟩
  · rintro (h | ⟨h1, h2, k, h4, h3, h5, h6⟩)
    · exact .inl h
    · exact .inr ⟨h1, h2, k, by omega, h4, h5, h6⟩
section
variable {S : Nat} {J : Nat → Nat → Bool}
theorem rc_in {a : Nat} (h1 : 1 ≤ a) (h2 : a ≤ S) : ∀ {n b : Nat}, rcB S J a n b = true → 1 ≤ b ∧ b ≤ S
  | 0, b, h => by rw [rc_0] at h; omega
  | n + 1, b, h => by
    rw [rc_s] at h
    rcases h with h | ⟨h3, h4, _⟩
    · exact rc_in h1 h2 h
    · exact ⟨h3, h4⟩
theorem rc_le {a b n : Nat} (h : rcB S J a n b = true) : ∀ {m : Nat}, n ≤ m → rcB S J a m b = true
  | 0, hm => by
    obtain rfl : n = 0 := by omega
    exact h
  | m + 1, hm => by
    by_cases e : n = m + 1
    · rw [← e]; exact h
    · exact rc_s.2 (.inl (rc_le h (by omega)))
/-- One way behind the other. -/
theorem rc_tr {a c n : Nat} (h : rcB S J a n c = true) : ∀ {m b : Nat}, rcB S J c m b = true → rcB S J a (n + m) b = true
  | 0, b, hb => by
    rw [rc_0] at hb
    rw [hb]
    exact h
  | m + 1, b, hb => by
    rw [rc_s] at hb
    rcases hb with hb | ⟨h1, h2, k, h3, h4, h5, h6⟩
    · exact rc_s.2 (.inl (rc_tr h hb))
    · exact rc_s.2 (.inr ⟨h1, h2, k, h3, h4, rc_tr h h5, h6⟩)
/-- And back. -/
theorem rc_sy {a : Nat} (hJ : ∀ x y, J x y = J y x) (h1 : 1 ≤ a) (h2 : a ≤ S) : ∀ {n b : Nat}, rcB S J a n b = true → rcB S J b n a = true
  | 0, b, h => by
    rw [rc_0] at h ⊢
    exact h.symm
  | n + 1, b, h => by
    have hb := rc_in h1 h2 h
    rw [rc_s] at h
    rcases h with h | ⟨_, _, k, h3, h4, h5, h6⟩
    · exact rc_s.2 (.inl (rc_sy hJ h1 h2 h))
    · have ih := rc_sy hJ h1 h2 h5
      have e1 : rcB S J b 1 k = true := rc_s.2 (.inr ⟨h3, h4, b, hb.1, hb.2, rc_0.2 rfl, by rw [hJ]; exact h6⟩)
      have := rc_tr e1 ih
      rw [Nat.add_comm] at this
      exact this
theorem filter_lt {p q : Nat → Bool} (hpq : ∀ x, p x = true → q x = true) : ∀ {l : List Nat}, (∃ x ∈ l, q x = true ∧ p x = false) → (l.filter p).length < (l.filter q).length
  | [], h => by obtain ⟨x, hx, _⟩ := h; cases hx
  | y :: l, h => by
    have hle : ∀ l : List Nat, (l.filter p).length ≤ (l.filter q).length := by
      intro l
      induction l with
      | nil => simp
      | cons z l ih =>
        cases hp : p z
        · cases hq : q z
          · simp [hp, hq]; exact ih
          · simp [hp, hq]; omega
        · simp [hp, hpq z hp]; exact ih
    obtain ⟨x, hx, hq, hp⟩ := h
    rcases List.mem_cons.1 hx with e | hx
    · subst e
      have := hle l
      simp [hp, hq]
      omega
    · have ih := filter_lt hpq (l := l) ⟨x, hx, hq, hp⟩
      cases hpy : p y
      · cases hqy : q y
        · simp [hpy, hqy]; exact ih
        · simp [hpy, hqy]; omega
      · simp [hpy, hpq y hpy]; exact ih
/-- Nothing new in a round: nothing new ever. -/
theorem rc_st {a n : Nat} (h : ∀ b, rcB S J a (n + 1) b = true → rcB S J a n b = true) : ∀ {m b : Nat}, rcB S J a m b = true → n ≤ m → rcB S J a n b = true
  | 0, b, hb, hm => by
    obtain rfl : n = 0 := by omega
    exact hb
  | m + 1, b, hb, hm => by
    by_cases e : n = m + 1
    · rw [e]; exact hb
    · rw [rc_s] at hb
      rcases hb with hb | ⟨h1, h2, k, h3, h4, h5, h6⟩
      · exact rc_st h hb (by omega)
      · exact h b (rc_s.2 (.inr ⟨h1, h2, k, h3, h4, rc_st h h5 (by omega), h6⟩))
theorem rc_grow {a : Nat} (h1 : 1 ≤ a) (h2 : a ≤ S) : ∀ n : Nat, (∃ m, m < n ∧ ∀ b, rcB S J a (m + 1) b = true → rcB S J a m b = true) ∨ n + 1 ≤ ((List.range (S + 1)).filter (rcB S J a n)).length
  | 0 => by
    refine .inr ?_
    have : 0 < ((List.range (S + 1)).filter (rcB S J a 0)).length := by
      rw [List.length_pos_iff_exists_mem]
      exact ⟨a, List.mem_filter.2 ⟨List.mem_range.2 (by omega), rc_0.2 rfl⟩⟩
    omega
  | n + 1 => by
    rcases rc_grow h1 h2 n with ⟨m, hm, h⟩ | h
    · exact .inl ⟨m, by omega, h⟩
    · by_cases hs : ∀ b, rcB S J a (n + 1) b = true → rcB S J a n b = true
      · exact .inl ⟨n, by omega, hs⟩
      · refine .inr ?_
        have hx : ∃ x ∈ List.range (S + 1), rcB S J a (n + 1) x = true ∧ rcB S J a n x = false := by
          apply Classical.byContradiction
          intro hno
          refine hs fun b hb => ?_
          cases e : rcB S J a n b
          · have := rc_in h1 h2 hb
            exact absurd ⟨b, List.mem_range.2 (by omega), hb, e⟩ hno
          · rfl
        have := filter_lt (p := rcB S J a n) (q := rcB S J a (n + 1)) (fun x hx => rc_s.2 (.inl hx)) hx
        omega
/-- One comes over all links in one less than there are switches, or not at all. -/
theorem rc_all {a b n : Nat} (h1 : 1 ≤ a) (h2 : a ≤ S) (h : rcB S J a n b = true) : rcB S J a (S - 1) b = true := by
  rcases rc_grow (J := J) h1 h2 S with ⟨m, hm, hs⟩ | hg
  · by_cases hn : n ≤ m
    · exact rc_le h (by omega)
    · exact rc_le (rc_st hs h (by omega)) (by omega)
  · exfalso
    have hsub : ((List.range (S + 1)).filter (rcB S J a S)).length ≤ S := by
      have e : List.range (S + 1) = 0 :: (List.range S).map (· + 1) := by
        rw [List.range_succ_eq_map]
      rw [e, List.filter_cons]
      have h0 : rcB S J a S 0 = false := by
        cases e0 : rcB S J a S 0
        · rfl
        · have := rc_in h1 h2 e0
          omega
      rw [h0]
      have := List.length_filter_le (rcB S J a S) ((List.range S).map (· + 1))
      simpa using this
    omega
end
/-- The first number of some that fits, or -1. -/
def fstB (p : Nat → Bool) : Nat → Nat → Int
  | 0, _ => -1
  | k + 1, n => if p n then (n : Int) else fstB p k (n + 1)
/-- How far it is: -1: one does not come there. -/
def farN (S : Nat) (J : Nat → Nat → Bool) (a b : Nat) : Int := fstB (fun n => rcB S J a n b) 7 0
theorem fst_no {p : Nat → Bool} : ∀ {k n : Nat}, (∀ m, n ≤ m → m < n + k → p m = false) → fstB p k n = -1
  | 0, _, _ => rfl
  | k + 1, n, h => by
    rw [fstB, h n (by omega) (by omega), if_neg (by decide)]
    exact fst_no fun m h1 h2 => h m (by omega) (by omega)
theorem fst_at {p : Nat → Bool} {m : Nat} : ∀ {k n : Nat}, n ≤ m → m < n + k → (∀ j, n ≤ j → j < m → p j = false) → p m = true → fstB p k n = m
  | 0, n, h1, h2, _, _ => by omega
  | k + 1, n, h1, h2, h3, h4 => by
    rw [fstB]
    by_cases e : n = m
    · rw [e, h4, if_pos rfl]
    · rw [h3 n (by omega) (by omega), if_neg (by decide)]
      exact fst_at (by omega) (by omega) (fun j h5 h6 => h3 j (by omega) h6) h4
theorem fst_or {p : Nat → Bool} {k n : Nat} : (fstB p k n = -1 ∧ ∀ m, n ≤ m → m < n + k → p m = false) ∨ ∃ m : Nat, n ≤ m ∧ m < n + k ∧ fstB p k n = m ∧ p m = true ∧ ∀ j, n ≤ j → j < m → p j = false := by
  induction k generalizing n with
  | zero => exact .inl ⟨rfl, fun m h1 h2 => by omega⟩
  | succ k ih =>
    rw [fstB]
    cases e : p n
    · rw [if_neg (by decide)]
      rcases ih (n := n + 1) with ⟨h1, h2⟩ | ⟨m, h1, h2, h3, h4, h5⟩
      · refine .inl ⟨h1, fun m h3 h4 => ?_⟩
        by_cases e2 : m = n
        · rw [e2]; exact e
        · exact h2 m (by omega) (by omega)
      · refine .inr ⟨m, by omega, by omega, h3, h4, fun j h6 h7 => ?_⟩
        by_cases e2 : j = n
        · rw [e2]; exact e
        · exact h5 j (by omega) h7
    · exact .inr ⟨n, Nat.le_refl _, by omega, by simp, e, fun j h1 h2 => by omega⟩
section
variable {S : Nat} {J : Nat → Nat → Bool}
/-- Far: not at all, or the fewest links. -/
theorem far_or {a b : Nat} (h1 : 1 ≤ a) (h2 : a ≤ S) (h6 : S ≤ 6) : (farN S J a b = -1 ∧ ∀ n, rcB S J a n b = false) ∨ ∃ m : Nat, farN S J a b = m ∧ rcB S J a m b = true ∧ ∀ n, rcB S J a n b = true → m ≤ n := by
  rcases fst_or (p := fun n => rcB S J a n b) (k := 7) (n := 0) with ⟨e, h⟩ | ⟨m, _, hm, e, hp, h⟩
  · refine .inl ⟨e, fun n => ?_⟩
    cases e2 : rcB S J a n b
    · rfl
    · have := rc_all h1 h2 e2
      rw [h (S - 1) (by omega) (by omega)] at this
      cases this
  · refine .inr ⟨m, e, hp, fun n hn => ?_⟩
    rcases Nat.lt_or_ge n m with hlt | hge
    · have hx := h n (by omega) hlt
      rw [hn] at hx
      cases hx
    · exact hge
theorem far_sy {a b : Nat} (hJ : ∀ x y, J x y = J y x) (a1 : 1 ≤ a) (a2 : a ≤ S) (b1 : 1 ≤ b) (b2 : b ≤ S) (h6 : S ≤ 6) : farN S J a b = farN S J b a := by
  rcases far_or (J := J) (b := b) a1 a2 h6 with ⟨e, h⟩ | ⟨m, e, hm, hl⟩
  · rcases far_or (J := J) (b := a) b1 b2 h6 with ⟨e2, _⟩ | ⟨m2, e2, hm2, _⟩
    · rw [e, e2]
    · have := rc_sy hJ b1 b2 hm2
      rw [h] at this
      cases this
  · rcases far_or (J := J) (b := a) b1 b2 h6 with ⟨e2, h2⟩ | ⟨m2, e2, hm2, hl2⟩
    · have := rc_sy hJ a1 a2 hm
      rw [h2] at this
      cases this
    · have i1 := hl _ (rc_sy hJ b1 b2 hm2)
      have i2 := hl2 _ (rc_sy hJ a1 a2 hm)
      rw [e, e2]
      congr 1
      omega
theorem far_tr {a b c : Nat} (a1 : 1 ≤ a) (a2 : a ≤ S) (c1 : 1 ≤ c) (c2 : c ≤ S) (h6 : S ≤ 6) (h1 : 0 ≤ farN S J a c) (h2 : 0 ≤ farN S J c b) : 0 ≤ farN S J a b ∧ farN S J a b ≤ farN S J a c + farN S J c b := by
  rcases far_or (J := J) (b := c) a1 a2 h6 with ⟨e, _⟩ | ⟨m, e, hm, _⟩
  · omega
  · rcases far_or (J := J) (b := b) c1 c2 h6 with ⟨e2, _⟩ | ⟨m2, e2, hm2, _⟩
    · omega
    · have h3 := rc_tr hm hm2
      rcases far_or (J := J) (b := b) a1 a2 h6 with ⟨e3, h4⟩ | ⟨m3, e3, hm3, hl3⟩
      · rw [h4] at h3; cases h3
      · have := hl3 _ h3
        rw [e, e2, e3]
        omega
theorem far_0 {a b : Nat} (a1 : 1 ≤ a) (a2 : a ≤ S) (h6 : S ≤ 6) : farN S J a b = 0 ↔ b = a := by
  constructor
  · intro h
    rcases far_or (J := J) (b := b) a1 a2 h6 with ⟨e, _⟩ | ⟨m, e, hm, _⟩
    · omega
    · rw [e] at h
      obtain rfl : m = 0 := by omega
      exact rc_0.1 hm
  · intro h
    exact fst_at (m := 0) (Nat.le_refl _) (by omega) (fun j _ hj => by omega) (rc_0.2 h)
end
end Go.Proofs.YtglnnoglbieaeaaGreatDoor
/- How far it is, found by going from those that are nearer to those that are farther off: plain lists. No program in it. -/
namespace Go.Proofs.YtglnnoglbieaeaaGreatDoor
open Go.RowKit
set_option linter.unusedVariables false

def qI (a b : Int) : Bool := a == b
theorem qI_iff (a b : Int) : qI a b = true ↔ a = b := by simp [qI]
section
variable {κ β : Type} {q : κ → κ → Bool}
theorem mput_new (hq : ∀ a b, q a b = true ↔ a = b) {k : κ} {b : β} : ∀ {M : List (κ × β)}, mget q k M = none → mput q k b M = M ++ [(k, b)]
  | [], _ => rfl
  | p :: M, h => by
    rw [mget] at h
    by_cases e : q k p.1 = true
    · rw [if_pos e] at h; cases h
    · rw [if_neg e] at h
      rw [mput, if_neg e, mput_new hq h]
      rfl
theorem mget_none (hq : ∀ a b, q a b = true ↔ a = b) {k : κ} : ∀ {M : List (κ × β)}, mget q k M = none → k ∉ M.map (·.1)
  | [], _ => by simp
  | p :: M, h => by
    rw [mget] at h
    by_cases e : q k p.1 = true
    · rw [if_pos e] at h; cases h
    · rw [if_neg e] at h
      have := mget_none hq h
      simp only [List.map_cons, List.mem_cons, not_or]
      exact ⟨fun e2 => e ((hq _ _).2 e2), this⟩
theorem mget_mem (hq : ∀ a b, q a b = true ↔ a = b) {k : κ} : ∀ {M : List (κ × β)}, k ∈ M.map (·.1) → ∃ b, mget q k M = some b
  | [], h => by simp at h
  | p :: M, h => by
    rw [mget]
    by_cases e : q k p.1 = true
    · rw [if_pos e]; exact ⟨_, rfl⟩
    · rw [if_neg e]
      simp only [List.map_cons, List.mem_cons] at h
      rcases h with h | h
      · exact absurd ((hq _ _).2 h) e
      · exact mget_mem hq h
end
theorem few_ints : ∀ (S : Nat) (L : List Int), L.Nodup → (∀ x ∈ L, 1 ≤ x ∧ x ≤ S) → L.length ≤ S
  | 0, L, _, h => by
    cases L with
    | nil => simp
    | cons x L => have := h x (by simp); omega
  | S + 1, L, hd, h => by
    by_cases hm : ((S : Int) + 1) ∈ L
    · have h1 := few_ints S (L.erase ((S : Int) + 1)) (hd.erase _) (fun x hx => by
        rw [hd.mem_erase_iff] at hx
        have := h x hx.2
        have h3 := hx.1
        omega)
      rw [List.length_erase_of_mem hm] at h1
      omega
    · have h1 := few_ints S L hd (fun x hx => by
        have h2 := h x hx
        have h3 : x ≠ (S : Int) + 1 := fun e => hm (e ▸ hx)
        omega)
      omega
/-- The switches that are joined with one, rising. -/
def nrL (S : Int) (Ls : List ((Int × Int) × (Int × Int))) (a : Int) : List Int := ((List.range S.toNat).map fun i : Nat => (i : Int) + 1).filter (joinB Ls a)
theorem nr_mem {S : Int} {Ls : List ((Int × Int) × (Int × Int))} {a y : Int} : y ∈ nrL S Ls a ↔ 1 ≤ y ∧ y ≤ S ∧ joinB Ls a y = true := by
  simp only [nrL, List.mem_filter, List.mem_map, List.mem_range]
  constructor
  · rintro ⟨⟨i, hi, rfl⟩, h⟩
    exact ⟨by omega, by omega, h⟩
  · rintro ⟨h1, h2, h3⟩
    exact ⟨⟨(y - 1).toNat, by omega, by omega⟩, h3⟩
theorem nr_len (S : Int) (Ls : List ((Int × Int) × (Int × Int))) (a : Int) : (nrL S Ls a).length ≤ S.toNat := by
  unfold nrL
  refine Nat.le_trans (List.length_filter_le _ _) ?_
  simp
/-- Up to a number. -/
def nrTo (Ls : List ((Int × Int) × (Int × Int))) (a : Int) (k : Nat) : List Int := ((List.range k).map fun i : Nat => (i : Int) + 1).filter (joinB Ls a)
theorem nr_0 (Ls : List ((Int × Int) × (Int × Int))) (a : Int) : nrTo Ls a 0 = [] := rfl
theorem nr_to (S : Int) (Ls : List ((Int × Int) × (Int × Int))) (a : Int) : nrTo Ls a S.toNat = nrL S Ls a := rfl
theorem nr_next (Ls : List ((Int × Int) × (Int × Int))) (a : Int) (k : Nat) : nrTo Ls a (k + 1) = nrTo Ls a k ++ (if joinB Ls a ((k : Int) + 1) then [(k : Int) + 1] else []) := by
  unfold nrTo
  rw [List.range_succ, List.map_append, List.filter_append]
  congr 1
  cases h : joinB Ls a ((k : Int) + 1) <;> simp [h]
theorem nrTo_len (Ls : List ((Int × Int) × (Int × Int))) (a : Int) (k : Nat) : (nrTo Ls a k).length ≤ k := by
  unfold nrTo
  refine Nat.le_trans (List.length_filter_le _ _) ?_
  simp

/-- Some have their number, some wait. -/
structure BI (S : Nat) (J : Nat → Nat → Bool) (a : Nat) (D : List (Int × Int)) (W : List Int) : Prop where
  st : mget qI a D = some 0
  nd : (D.map (·.1)).Nodup
  rg : ∀ y n, mget qI y D = some n → 1 ≤ y ∧ y ≤ S ∧ 0 ≤ n ∧ n < 7 ∧ rcB S J a n.toNat y.toNat = true
  inD : ∀ x ∈ W, ∃ n, mget qI x D = some n
  so : W.Pairwise fun x y => ∀ m n, mget qI x D = some m → mget qI y D = some n → m ≤ n
  hd : ∀ x r, W = x :: r → ∀ m, mget qI x D = some m → ∀ y n, mget qI y D = some n → n ≤ m + 1
  pr : ∀ x m, mget qI x D = some m → x ∉ W → ∀ y : Int, 1 ≤ y → y ≤ S → J x.toNat y.toNat = true → ∃ n, mget qI y D = some n ∧ n ≤ m + 1
  cn : ∀ y n, mget qI y D = some n → n < D.length
section
variable {S : Nat} {J : Nat → Nat → Bool} {a : Nat}
theorem BI.len {D : List (Int × Int)} {W : List Int} (h : BI S J a D W) : D.length ≤ S := by
  have := few_ints S (D.map (·.1)) h.nd (fun x hx => by
    obtain ⟨b, hb⟩ := mget_mem qI_iff hx
    have := h.rg x b hb
    exact ⟨this.1, this.2.1⟩)
  simpa using this
theorem bi_start (h1 : 1 ≤ a) (h2 : a ≤ S) : BI S J a [((a : Int), 0)] [(a : Int)] := by
  have hg : ∀ y n, mget qI y [((a : Int), (0 : Int))] = some n → y = a ∧ n = 0 := by
    intro y n h
    rw [mget] at h
    by_cases e : qI y a = true
    · rw [if_pos e] at h
      simp at h
      exact ⟨(qI_iff _ _).1 e, h.symm⟩
    · rw [if_neg e] at h; cases h
  have hs : mget qI (a : Int) [((a : Int), (0 : Int))] = some 0 := by rw [mget, if_pos ((qI_iff _ _).2 rfl)]
  refine ⟨hs, by simp, ?_, ?_, by simp, ?_, ?_, ?_⟩
  · intro y n h
    obtain ⟨rfl, rfl⟩ := hg y n h
    exact ⟨by omega, by omega, by omega, by omega, by simp [rcB]⟩
  · intro x hx
    simp at hx
    subst hx
    exact ⟨0, hs⟩
  · intro x r e m hm y n hn
    have := (hg y n hn).2
    have := (hg x m hm).2
    omega
  · intro x m hm hx
    have := (hg x m hm).1
    exact absurd (by simp [this]) hx
  · intro y n h
    have := (hg y n h).2
    simp; omega
/-- One that is near the first has its number already. -/
theorem bi_has {D : List (Int × Int)} {x : Int} {W : List Int} {m : Int} (h : BI S J a D (x :: W)) (hm : mget qI x D = some m) {y n : Int} (hy : mget qI y D = some n) : n ≤ m + 1 := h.hd x W rfl m hm y n hy
/-- One that is near the first has none yet. -/
theorem bi_new {D : List (Int × Int)} {x : Int} {W : List Int} {m : Int} (h6 : S ≤ 6) (h : BI S J a D (x :: W)) (hm : mget qI x D = some m) {y : Int} (h1 : 1 ≤ y) (h2 : y ≤ S) (hJ : J x.toNat y.toNat = true) (hy : mget qI y D = none) :
    BI S J a (mput qI y (m + 1) D) (x :: (W ++ [y])) ∧ mget qI x (mput qI y (m + 1) D) = some m ∧ (mput qI y (m + 1) D).length = D.length + 1 ∧ (∀ z n, mget qI z D = some n → mget qI z (mput qI y (m + 1) D) = some n) ∧ mget qI y (mput qI y (m + 1) D) = some (m + 1) := by
  have hput : ∀ z, mget qI z (mput qI y (m + 1) D) = if qI z y then some (m + 1) else mget qI z D := fun z => mget_put qI_iff y z (m + 1) D
  have hne : ∀ z n, mget qI z D = some n → ¬ z = y := fun z n hz e => by rw [e, hy] at hz; cases hz
  have old : ∀ z n, mget qI z D = some n → mget qI z (mput qI y (m + 1) D) = some n := fun z n hz => by
    rw [hput, if_neg (fun e => hne z n hz ((qI_iff _ _).1 e))]
    exact hz
  have new : mget qI y (mput qI y (m + 1) D) = some (m + 1) := by rw [hput, if_pos ((qI_iff _ _).2 rfl)]
  have way : ∀ z n, mget qI z (mput qI y (m + 1) D) = some n → (z = y ∧ n = m + 1) ∨ mget qI z D = some n := fun z n hz => by
    rw [hput] at hz
    by_cases e : qI z y = true
    · rw [if_pos e] at hz
      simp at hz
      exact .inl ⟨(qI_iff _ _).1 e, hz.symm⟩
    · rw [if_neg e] at hz
      exact .inr hz
  have happ : mput qI y (m + 1) D = D ++ [(y, m + 1)] := mput_new qI_iff hy
  have hlen : (mput qI y (m + 1) D).length = D.length + 1 := by rw [happ]; simp
  obtain ⟨x1, x2, m0, m7, mr⟩ := h.rg x m hm
  have hnd : ((mput qI y (m + 1) D).map (·.1)).Nodup := by
    rw [happ, List.map_append]
    rw [List.nodup_append]
    refine ⟨h.nd, by simp, ?_⟩
    intro u hu v hv e
    simp at hv
    subst hv
    subst e
    exact mget_none qI_iff hy hu
  have hrn : rcB S J a (m + 1).toNat y.toNat = true := by
    have e : (m + 1).toNat = m.toNat + 1 := by omega
    rw [e]
    exact rc_s.2 (.inr ⟨by omega, by omega, x.toNat, by omega, by omega, mr, hJ⟩)
  have hcn := h.cn x m hm
  have hdl : (mput qI y (m + 1) D).length ≤ S := by
    have := few_ints S ((mput qI y (m + 1) D).map (·.1)) hnd (fun z hz => by
      obtain ⟨b, hb⟩ := mget_mem qI_iff hz
      rcases way z b hb with ⟨rfl, _⟩ | hz
      · exact ⟨h1, h2⟩
      · have := h.rg z b hz
        exact ⟨this.1, this.2.1⟩)
    simpa using this
  refine ⟨⟨old _ _ h.st, hnd, ?_, ?_, ?_, ?_, ?_, ?_⟩, old x m hm, hlen, old, new⟩
  · intro z n hz
    rcases way z n hz with ⟨rfl, rfl⟩ | hz
    · exact ⟨h1, h2, by omega, by omega, hrn⟩
    · exact h.rg z n hz
  · intro z hz
    simp only [List.mem_cons, List.mem_append, List.not_mem_nil, or_false] at hz
    rcases hz with rfl | hz | rfl
    · exact ⟨m, old _ _ hm⟩
    · obtain ⟨n, hn⟩ := h.inD z (by simp [hz])
      exact ⟨n, old _ _ hn⟩
    · exact ⟨m + 1, new⟩
  · rw [show x :: (W ++ [y]) = (x :: W) ++ [y] from rfl, List.pairwise_append]
    refine ⟨?_, by simp, ?_⟩
    · refine h.so.imp_of_mem ?_
      intro u v hu hv huv p r hp hr
      obtain ⟨pu, hpu⟩ := h.inD u hu
      obtain ⟨pv, hpv⟩ := h.inD v hv
      rw [old u pu hpu] at hp
      rw [old v pv hpv] at hr
      cases hp
      cases hr
      exact huv _ _ hpu hpv
    · intro u hu v hv p r hp hr
      simp at hv
      subst hv
      rw [new] at hr
      cases hr
      obtain ⟨pu, hpu⟩ := h.inD u hu
      rw [old u pu hpu] at hp
      cases hp
      exact h.hd x W rfl m hm u _ hpu
  · intro z r e p hp z2 n hz2
    have ez : x = z := by simpa using (List.cons.inj e).1
    subst ez
    rw [old x m hm] at hp
    cases hp
    rcases way z2 n hz2 with ⟨rfl, rfl⟩ | hz
    · omega
    · exact h.hd x W rfl m hm z2 n hz
  · intro z p hp hz y2 hy1 hy2 hJ2
    simp only [List.mem_cons, List.mem_append, List.not_mem_nil, or_false, not_or] at hz
    rcases way z p hp with ⟨e, _⟩ | hp
    · exact absurd e hz.2.2
    · obtain ⟨n, hn, hle⟩ := h.pr z p hp (by simp [hz.1, hz.2.1]) y2 hy1 hy2 hJ2
      exact ⟨n, old _ _ hn, hle⟩
  · intro z n hz
    rw [hlen]
    rcases way z n hz with ⟨rfl, rfl⟩ | hz
    · omega
    · have := h.cn z n hz
      omega
/-- All that are near the first have their number: the first goes. -/
theorem bi_pop {D : List (Int × Int)} {x : Int} {W : List Int} {m : Int} (h : BI S J a D (x :: W)) (hm : mget qI x D = some m) (hall : ∀ y : Int, 1 ≤ y → y ≤ S → J x.toNat y.toNat = true → ∃ n, mget qI y D = some n ∧ n ≤ m + 1) : BI S J a D W := by
  refine ⟨h.st, h.nd, h.rg, fun z hz => h.inD z (by simp [hz]), h.so.of_cons, ?_, ?_, h.cn⟩
  · intro z r e p hp y n hy
    have h1 := h.hd x W rfl m hm y n hy
    have h2 := (List.pairwise_cons.1 h.so).1 z (by simp [e]) m p hm hp
    omega
  · intro z p hp hz y h1 h2 hJ
    by_cases e : z = x
    · subst e
      rw [hm] at hp
      cases hp
      exact hall y h1 h2 hJ
    · exact h.pr z p hp (by simp [e, hz]) y h1 h2 hJ
theorem bi_all {D : List (Int × Int)} (h : BI S J a D []) (h1 : 1 ≤ a) (h2 : a ≤ S) : ∀ (n b : Nat), rcB S J a n b = true → ∃ m, mget qI (b : Int) D = some m ∧ m ≤ n
  | 0, b, hr => by
    rw [rc_0] at hr
    subst hr
    exact ⟨0, h.st, by omega⟩
  | n + 1, b, hr => by
    rw [rc_s] at hr
    rcases hr with hr | ⟨b1, b2, k, k1, k2, hr, hJ⟩
    · obtain ⟨m, hm, hl⟩ := bi_all h h1 h2 n b hr
      exact ⟨m, hm, by omega⟩
    · obtain ⟨m, hm, hl⟩ := bi_all h h1 h2 n k hr
      obtain ⟨p, hp, hl2⟩ := h.pr k m hm (by simp) b (by omega) (by omega) (by simpa using hJ)
      exact ⟨p, hp, by omega⟩
/-- What has a number when nobody waits: as far as it is. -/
theorem bi_far {D : List (Int × Int)} (h : BI S J a D []) (h1 : 1 ≤ a) (h2 : a ≤ S) (h6 : S ≤ 6) (b : Nat) : (farN S J a b = -1 ∧ mget qI (b : Int) D = none) ∨ ∃ m : Nat, farN S J a b = m ∧ mget qI (b : Int) D = some (m : Int) := by
  rcases far_or (J := J) (b := b) h1 h2 h6 with ⟨e, hno⟩ | ⟨m, e, hm, hl⟩
  · refine .inl ⟨e, ?_⟩
    cases hg : mget qI (b : Int) D with
    | none => rfl
    | some n =>
      have := (h.rg _ n hg).2.2.2.2
      rw [Int.toNat_natCast, hno] at this
      cases this
  · refine .inr ⟨m, e, ?_⟩
    obtain ⟨n, hn, hle⟩ := bi_all h h1 h2 m b hm
    have hr := h.rg _ n hn
    have h3 := hl n.toNat (by have := hr.2.2.2.2; rwa [Int.toNat_natCast] at this)
    have : n = (m : Int) := by omega
    rw [hn, this]
end
end Go.Proofs.YtglnnoglbieaeaaGreatDoor
/- Slices of anything that is a fixed number of cells: where they lie, rows of them that a call owns, such that came in. No program in it. -/
namespace Go.Proofs.YtglnnoglbieaeaaGreatDoor
open Go.ChangeShapes Go.WideShapes Go.ChangeAt Go.RowKit

/-- How things are laid out in cells: each as so many. -/
structure Enc (α : Type) where
  c : α → List Value
  n : Nat
  len : ∀ x, (c x).length = n
  pos : 0 < n
  one : ∀ x u, u ∈ c x → u.oneCell' = true
/-- Values lie one behind the other from an address on. -/
def VAt (w : World) (g o : Nat) (vs : List Value) : Prop := ∀ j u, vs[j]? = some u → w.cell? ⟨g, o + j, none⟩ = some u
theorem VAt.later {w w' : World} {g o : Nat} {vs : List Value} (h : VAt w g o vs) (hb : Below w.heap.size w w') : VAt w' g o vs := fun j u hu => cell_later hb (h j u hu)
theorem vat_new (w : World) (vs : List Value) (t : TypeId) : VAt (w.alloc (.cells vs.toArray t)) w.heap.size 0 vs := by
  intro j u hu
  rw [Nat.zero_add]
  have hj : j < vs.length := (List.getElem?_eq_some_iff.1 hu).1
  simp only [World.cell?, World.alloc]
  simp [hu]
section
variable {α : Type} {E : Enc α}
/-- These lie from an address on. -/
def GAt (E : Enc α) (w : World) (g o : Nat) (L : List α) : Prop := ∀ i (h : i < L.length), VAt w g (o + i * E.n) (E.c L[i])
theorem GAt.later {w w' : World} {g o : Nat} {L : List α} (h : GAt E w g o L) (hb : Below w.heap.size w w') : GAt E w' g o L := fun i hi => (h i hi).later hb
theorem GAt.take {w : World} {g o : Nat} {L : List α} (h : GAt E w g o L) (k : Nat) : GAt E w g o (L.take k) := by
  intro i hi
  rw [List.getElem_take]
  exact h i (by simp at hi; omega)
theorem GAt.drop {w : World} {g o : Nat} {L : List α} (h : GAt E w g o L) (k : Nat) : GAt E w g (o + k * E.n) (L.drop k) := by
  intro i hi
  have hi2 : k + i < L.length := by simp at hi; omega
  have := h (k + i) hi2
  rw [List.getElem_drop]
  have e : o + (k + i) * E.n = o + k * E.n + i * E.n := by rw [Nat.add_mul]; omega
  rw [← e]
  exact this
/-- A value is a slice of these. -/
def GS (E : Enc α) (w : World) (v : Value) (L : List α) : Prop :=
  (∃ ao cap, v = .slice ao 0 cap ∧ L = []) ∨ ∃ g o cap, v = .slice (some ⟨g, o, none⟩) L.length cap ∧ L.length ≤ cap ∧ cap ≤ maxLen ∧ GAt E w g o L
theorem GS.later {w w' : World} {v : Value} {L : List α} (h : GS E w v L) (hb : Below w.heap.size w w') : GS E w' v L := by
  rcases h with h | ⟨g, o, cap, h1, h2, h3, h4⟩
  · exact .inl h
  · exact .inr ⟨g, o, cap, h1, h2, h3, h4.later hb⟩
theorem GS.form {w : World} {v : Value} {L : List α} (h : GS E w v L) : ∃ ao n cap, v = .slice ao n cap ∧ L.length = n ∧ n ≤ maxLen ∧ n ≤ cap ∧ (0 < n → ∃ g o, ao = some ⟨g, o, none⟩ ∧ GAt E w g o L ∧ cap ≤ maxLen) := by
  rcases h with ⟨ao, cap, rfl, rfl⟩ | ⟨g, o, cap, rfl, h1, h2, h3⟩
  · exact ⟨ao, 0, cap, rfl, rfl, Nat.zero_le _, Nat.zero_le _, fun h => absurd h (by omega)⟩
  · exact ⟨_, _, cap, rfl, rfl, Nat.le_trans h1 h2, h1, fun _ => ⟨g, o, rfl, h3, h2⟩⟩
theorem GS.len {w : World} {ao : Option Addr} {n cap : Nat} {L : List α} (h : GS E w (.slice ao n cap) L) : L.length = n := by
  rcases h with ⟨_, _, e, rfl⟩ | ⟨_, _, _, e, _⟩
  · simp at e; simp [e]
  · simp at e; exact e.2.1.symm
theorem GS.nil (w : World) : GS E w (.slice none 0 0) [] := .inl ⟨none, 0, rfl, rfl⟩
/-- One in a new row. -/
theorem gs_one (w : World) (x : α) (t : TypeId) {vs : List Value} (hv : vs = E.c x) : GS E (w.alloc (.cells vs.toArray t)) (.slice (some ⟨w.heap.size, 0, none⟩) 1 1) [x] := by
  subst hv
  refine .inr ⟨w.heap.size, 0, 1, rfl, Nat.le_refl _, by unfold maxLen; omega, fun i hi => ?_⟩
  obtain rfl : i = 0 := by simp at hi; omega
  have h := vat_new w (E.c x) t
  simpa using h
/-- The cells of some. -/
def cellsG (E : Enc α) (L : List α) : List Value := L.flatMap E.c
theorem cellsG_len (L : List α) : (cellsG E L).length = L.length * E.n := by
  induction L with
  | nil => simp [cellsG]
  | cons x r ih =>
    simp only [cellsG, List.flatMap_cons, List.length_append, List.length_cons, E.len] at *
    rw [ih, Nat.add_mul]
    omega
theorem cellsG_app (L M : List α) : cellsG E (L ++ M) = cellsG E L ++ cellsG E M := by simp [cellsG]
theorem cellsG_one (x : α) : cellsG E [x] = E.c x := by simp [cellsG]
theorem cellsG_at (L : List α) : ∀ (i : Nat) (h : i < L.length) (j : Nat), j < E.n → (cellsG E L)[i * E.n + j]? = (E.c L[i])[j]? := by
  induction L with
  | nil => intro i h; simp at h
  | cons x r ih =>
    intro i h j hj
    cases i with
    | zero =>
      simp only [cellsG, List.flatMap_cons, Nat.zero_mul, Nat.zero_add, List.getElem_cons_zero]
      rw [List.getElem?_append_left (by rw [E.len]; exact hj)]
    | succ i =>
      have := ih i (by simpa using h) j hj
      simp only [cellsG, List.flatMap_cons, List.getElem_cons_succ] at this ⊢
      rw [List.getElem?_append_right (by rw [E.len, Nat.add_mul]; omega), E.len]
      have e : (i + 1) * E.n + j - E.n = i * E.n + j := by rw [Nat.add_mul]; omega
      rw [e]
      exact this
theorem cellsG_all (L : List α) : ∀ u ∈ cellsG E L, u.oneCell' = true := by
  intro u hu
  simp only [cellsG, List.mem_flatMap] at hu
  obtain ⟨x, _, hx⟩ := hu
  exact E.one x u hx
/-- What a call owns may be read. -/
theorem own_GS {w : World} {B e : Nat} {v : Value} {L : List α} (h : w.ownsRow B e E.n v L.length (cellsG E L)) : GS E w v L := by
  rcases h.2 with ⟨rfl, h0⟩ | ⟨g, cap, cur, rfl, _, _, h1, h2, _⟩
  · exact .inl ⟨none, 0, rfl, List.length_eq_zero_iff.1 h0⟩
  · refine .inr ⟨g, 0, cap, rfl, h1, h2, fun i hi j u hu => ?_⟩
    have hj : j < E.n := by
      have := (List.getElem?_eq_some_iff.1 hu).1
      rw [E.len] at this
      exact this
    have hlt : i * E.n + j < L.length * E.n := by
      have : (i + 1) * E.n ≤ L.length * E.n := Nat.mul_le_mul_right _ hi
      rw [Nat.add_mul] at this
      omega
    rw [Nat.zero_add, h.cellAt _ hlt, cellsG_at L i hi j hj]
    exact hu
theorem GAt.cells {w : World} {g o : Nat} {M : List α} (h : GAt E w g o M) : ∀ j u, (cellsG E M)[j]? = some u → w.cell? ((⟨g, o, none⟩ : Addr).add j) = some u := by
  intro j u hu
  have hj : j < M.length * E.n := by
    have := (List.getElem?_eq_some_iff.1 hu).1
    rw [cellsG_len] at this
    exact this
  have hadd : (⟨g, o, none⟩ : Addr).add j = ⟨g, o + j, none⟩ := by
    simp only [Addr.add]
    first
      | rfl
      | (split
         · next h0 => rw [h0]; rfl
         · rfl)
  have hi : j / E.n < M.length := Nat.div_lt_of_lt_mul (by rw [Nat.mul_comm]; exact hj)
  have hm : j % E.n < E.n := Nat.mod_lt _ E.pos
  have e : j / E.n * E.n + j % E.n = j := by rw [Nat.mul_comm]; exact Nat.div_add_mod _ _
  have h1 := cellsG_at (E := E) M (j / E.n) hi (j % E.n) hm
  rw [e, hu] at h1
  have h2 := h (j / E.n) hi (j % E.n) u h1.symm
  rw [Nat.add_assoc, e] at h2
  rw [hadd]
  exact h2
end

section
variable {α : Type}
theorem any_nextG {L : List α} {f : α → Bool} {k : Nat} (hk : k < L.length) (h : (L.take k).any f = false) (h2 : f L[k] = false) : (L.take (k + 1)).any f = false := by
  rw [List.take_succ_eq_append_getElem hk]
  simp only [List.any_append, h, List.any_cons, List.any_nil, h2, Bool.or_false]
theorem any_hitG {L : List α} {f : α → Bool} {k : Nat} (hk : k < L.length) (h2 : f L[k] = true) : L.any f = true := List.any_eq_true.2 ⟨_, List.getElem_mem hk, h2⟩
/-- The first place where something is so, or -1. -/
def ixG (f : α → Bool) (L : List α) : Int := if L.any f then (L.findIdx f : Int) else -1
theorem ixG_hit {L : List α} {f : α → Bool} {k : Nat} (hk : k < L.length) (h : (L.take k).any f = false) (h2 : f L[k] = true) : ixG f L = k := by
  rw [ixG, any_hitG hk h2, if_pos rfl]
  congr 1
  rw [List.findIdx_eq hk]
  refine ⟨h2, fun j hj => ?_⟩
  rw [List.any_eq_false] at h
  have := h L[j] (by rw [List.mem_take_iff_getElem]; exact ⟨j, by omega, rfl⟩)
  simpa using this
theorem ixG_no {L : List α} {f : α → Bool} (h : L.any f = false) : ixG f L = -1 := by simp [ixG, h]
theorem ixG_any (L : List α) (f : α → Bool) : decide (0 ≤ ixG f L) = L.any f := by
  unfold ixG
  cases L.any f
  · simp
  · simp
end
section
variable {α : Type}
/-- Are two lists the same, one by one? -/
def smG (q : α → α → Bool) : List α → List α → Bool
  | [], [] => true
  | a :: l, b :: m => q a b && smG q l m
  | _, _ => false
theorem smG_iff {q : α → α → Bool} : ∀ {L M : List α}, smG q L M = true ↔ L.length = M.length ∧ ∀ i (h1 : i < L.length) (h2 : i < M.length), q L[i] M[i] = true
  | [], [] => by simp [smG]
  | [], _ :: _ => by simp [smG]
  | _ :: _, [] => by simp [smG]
  | a :: l, b :: m => by
    rw [smG, Bool.and_eq_true, smG_iff (L := l) (M := m)]
    constructor
    · rintro ⟨h1, h2, h3⟩
      refine ⟨by simp [h2], fun i hi hj => ?_⟩
      cases i with
      | zero => exact h1
      | succ i => exact h3 i (by simpa using hi) (by simpa using hj)
    · rintro ⟨h1, h2⟩
      refine ⟨h2 0 (by simp) (by simp), by simpa using h1, fun i hi hj => ?_⟩
      exact h2 (i + 1) (by simpa using hi) (by simpa using hj)
theorem smG_len {q : α → α → Bool} {L M : List α} (h : L.length ≠ M.length) : smG q L M = false := by
  cases e : smG q L M
  · rfl
  · exact absurd (smG_iff.1 e).1 h
theorem smG_no {q : α → α → Bool} {L M : List α} {k : Nat} (h1 : k < L.length) (h2 : k < M.length) (h : q L[k] M[k] = false) : smG q L M = false := by
  cases e : smG q L M
  · rfl
  · have := (smG_iff.1 e).2 k h1 h2
    rw [h] at this
    cases this
theorem smG_eq {q : α → α → Bool} (hq : ∀ a b, q a b = true ↔ a = b) : ∀ {L M : List α}, smG q L M = true ↔ L = M
  | [], [] => by simp [smG]
  | [], _ :: _ => by simp [smG]
  | _ :: _, [] => by simp [smG]
  | a :: l, b :: m => by
    rw [smG, Bool.and_eq_true, smG_eq hq, hq]
    simp
end
section
variable {P : Program} {α : Type} {E : Enc α}
theorem run_append_none {w : World} (base : Nat) (t ty e : TypeId) (i : TypeInfo) (size cap2 : Nat) (ht : P.underlying t = some (.slice e)) (hi : P.info? e = some i)
    (v : Value) (n : Nat) (xs : List Value) (hown : w.ownsRow base e size v n xs) :
    (Builtin.append_ #[t, t] ty #[v, .slice none 0 cap2]).run P w = .ok v w := by
  rcases hown.2 with ⟨rfl, rfl⟩ | ⟨g, cap, cur, rfl, _, _, hnc, _⟩
  · simp [Builtin.append_, run_underlying ht, sizeOf, typeInfo, hi, Builtin.lenOf, Builtin.firstCells]
  · simp [Builtin.append_, run_underlying ht, sizeOf, typeInfo, hi, Builtin.lenOf, Builtin.firstCells, hnc, storeCells]
/-- Appending a slice, whoever made it, to a row that a call owns. -/
theorem wpList_append_GS (w : World) {ops : Array Oper} {rest : List Oper} {o : Oper} {a : Act} {Q : Exit → Act → World → Prop} (hgd : o.guard = none) (s x : Operand) (t e : TypeId)
    (ho : o.op = .call { callee := .builtin .append, args := #[s, x], argTypes := #[t, t] }) (ht : P.underlying t = some (.slice e)) (i : TypeInfo) (z : Value) (bytes : Nat) (hi : P.info? e = some i) (hz : i.zero = some z)
    (hsize : i.size = E.n) (hby : i.bytes = bytes) (hzs : z.cells.size = E.n) (base : Nat)
    (v : Value) (hs : a.eval s = v) (L : List α) (hown : w.ownsRow base e E.n v L.length (cellsG E L)) (u : Value) (hx : a.eval x = u) (M : List α) (hM : GS E w u M)
    (h63 : L.length + M.length ≤ maxLen) (hbytes : (L.length + M.length) * bytes ≤ 140737488355328) (hbase : base ≤ w.heap.size)
    (h : ∀ v' w', w'.ownsRow base e E.n v' (L ++ M).length (cellsG E (L ++ M)) → w.grownBy w' v.ownBlock → wpList P ops Q rest (a.put o.dst v') w') : wpList P ops Q (o :: rest) a w := by
  have key : ∀ (ad : Addr) (m c : Nat) (news : List Value), a.eval x = .slice (some ad) m c → news.length = m * E.n → (∀ j u, news[j]? = some u → w.cell? (ad.add j) = some u) → (∀ u ∈ news, u.oneCell' = true) → m = M.length → news = cellsG E M → wpList P ops Q (o :: rest) a w := by
    intro ad m c news e1 e2 e3 e4 e5 e6
    refine wpList_append_own w hgd s x t ho base e i z E.n bytes ht hi hz hsize hby hzs E.pos v _ _ hs hown ad m c news e1 e2 e3 e4 (by rw [e5]; exact h63) (by rw [e5]; exact hbytes) hbase ?_
    intro v' w' h1 h2 _
    refine h v' w' ?_ h2
    rw [List.length_append, cellsG_app, ← e5, ← e6]
    exact h1
  rcases hM with ⟨ao, cap, rfl, rfl⟩ | ⟨g, q, cap, rfl, h1, h2, h3⟩
  · cases ao with
    | none =>
      refine wpList_plain hgd fun K hK => ?_
      have hrun := run_append_none (P := P) (w := w) base t o.type e i E.n cap ht hi v _ _ hown
      unfold Oper.wp
      simp [execOp, ho, resolve, invoke, builtin, hs, hx, hrun, Result.andThen]
      exact hK _ _ (h v w (by rw [List.append_nil]; exact hown) ⟨rfl, rfl, rfl, Nat.le_refl _, fun _ _ _ => rfl⟩)
    | some ad => exact key ad 0 cap [] hx (by simp) (by intro j u hu; simp at hu) (by intro u hu; cases hu) rfl rfl
  · exact key ⟨g, q, none⟩ M.length cap (cellsG E M) hx (cellsG_len M) h3.cells (cellsG_all M) rfl rfl

set_option maxRecDepth 100000 in
/-- A slice that came in lies where it says. 'hel': cells that read as one element are its layout. -/
theorem gs_of {H : Type} {enc : TypeId × Value → H} {W : World} {base : Nat} {v : Value} {d : DataW H} {p : List MemPlace} (ts te : TypeId) (hu : P.underlying ts = some (.slice te)) (hC : P.cellsOf te = E.n) (x0 : α)
    (hel : ∀ (n : Nat) (cs : List Value) (x : DataW H × List MemPlace), DataW.trod enc P W 0 (fun _ => true) true n te cs = some x → ∃ y, cs = E.c y)
    (hv : Value.okWide P W .any base ts v) (h : DataW.Trod enc P W 0 (fun _ => true) true ts v d p) : ∃ L, GS E W v L := by
  obtain ⟨a0, len0, cap0, rfl⟩ := okWide_slice hu hv
  obtain ⟨fuel, hf⟩ := h
  have hf2 : DataW.trod enc P W 0 (fun _ => true) true fuel ts [.slice a0 len0 cap0] = some (d, p) := hf
  rcases Go.Deep.open_slice hu hf2 with ⟨hc, hx⟩ | ⟨a, len, cap, m, k, D, Pl, hc, _, hl, hm, hmm, hx, hall⟩
  · simp only [List.cons.injEq, and_true, Value.slice.injEq] at hc
    obtain ⟨rfl, rfl, rfl⟩ := hc
    exact ⟨[], .inl ⟨none, 0, rfl, rfl⟩⟩
  · simp only [List.cons.injEq, and_true, Value.slice.injEq] at hc
    obtain ⟨rfl, rfl, rfl⟩ := hc
    simp only [if_true] at hmm
    subst hmm
    rcases Nat.eq_zero_or_pos len0 with h0 | h0
    · subst h0
      exact ⟨[], .inl ⟨_, _, rfl, rfl⟩⟩
    · have each : ∀ i, i < m → ∃ y : α, ∀ j, j < E.n → W.cell? (a.add (i * E.n + j)) = (E.c y)[j]? := by
        intro i hi
        obtain ⟨cs, h1, h2⟩ := hall i hi
        rw [hC] at h1
        obtain ⟨_, hlen, hcell⟩ := World.cells?_some h1
        obtain ⟨y, rfl⟩ := hel _ _ _ h2
        refine ⟨y, fun j hj => ?_⟩
        have := hcell j (by omega)
        rw [Go.Deep.add_add] at this
        exact this
      have iR : Inhabited α := ⟨x0⟩
      obtain ⟨R, hR⟩ := Go.Deep.choose_lt each
      obtain ⟨sb, so, spot⟩ := a
      have hspot : spot = none := by
        have h1 := hR 0 (by omega) 0 E.pos
        have h2 : (E.c (R 0))[0]?.isSome = true := by
          rw [List.getElem?_eq_getElem (by rw [E.len]; exact E.pos)]
          rfl
        obtain ⟨u, hu2⟩ := Option.isSome_iff_exists.1 h2
        rw [hu2] at h1
        simpa [Addr.add] using World.cell?_spot h1
      subst hspot
      have hadd : ∀ j, (⟨sb, so, none⟩ : Addr).add j = ⟨sb, so + j, none⟩ := by
        intro j
        simp only [Addr.add]
        first
          | rfl
          | (split
             · next h0 => rw [h0]; rfl
             · rfl)
      refine ⟨(List.range len0).map R, .inr ⟨sb, so, _, by simp, by simpa using hl, hm, fun i hi j u hu2 => ?_⟩⟩
      have hi2 : i < len0 := by simpa using hi
      have e : ((List.range len0).map R)[i] = R i := by simp
      rw [e] at hu2
      have hj : j < E.n := by
        have := (List.getElem?_eq_some_iff.1 hu2).1
        rw [E.len] at this
        exact this
      have hc := hR i (by omega) j hj
      rw [hadd, hu2, ← Nat.add_assoc] at hc
      exact hc
end
end Go.Proofs.YtglnnoglbieaeaaGreatDoor
