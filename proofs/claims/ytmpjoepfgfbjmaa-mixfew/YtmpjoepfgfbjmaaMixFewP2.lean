/- Contracts and facts on the way to MixFew, joined into one text: BfsMath, Gen, TopoMath2, NetMath, StSpot, StHost, MixMath, TableMath. -/
import Derived.Test.YtmpjoepfgfbjmaaMixFewP1
import Derived.WalkKit
import Derived.WalkSpells
import Derived.Below
import Derived.ProofKit
import Derived.OpenShut
import Derived.ChangeOld
import Derived.Laws.AppendOwnNone
import Derived.Deep.Slices
import Derived.Test.YtmpjoepfgfbjmaaRows
import Derived.Lib.SmallJoins
import Derived.Laws.StructEq
import Derived.Maps.OwnOps
/- How far it is, found by going from those that are nearer to those that are farther off: plain lists. No program in it. -/
namespace Go.Proofs.Ytmpjoepfgfbjmaa
open Go.RowKit
set_option linter.unusedVariables false

def qI (a b : Int) : Bool := a == b
theorem qI_iff (a b : Int) : qI a b = true ↔ a = b := by simp [qI]
section
variable {κ β : Type} {q : κ → κ → Bool}
theorem mput_new (hq : ∀ a b, q a b = true ↔ a = b) {k : κ} {b : β} : ∀ {M : List (κ × β)}, mget q k M = none → mput q k b M = M ++ [(k, b)]
  | [], _ => rfl
  | p :: M, h => by
    rw [mget] at h
    by_cases e : q k p.1 = true
    · rw [if_pos e] at h; cases h
    · rw [if_neg e] at h
      rw [mput, if_neg e, mput_new hq h]
      rfl
theorem mget_none (hq : ∀ a b, q a b = true ↔ a = b) {k : κ} : ∀ {M : List (κ × β)}, mget q k M = none → k ∉ M.map (·.1)
  | [], _ => by simp
  | p :: M, h => by
    rw [mget] at h
    by_cases e : q k p.1 = true
    · rw [if_pos e] at h; cases h
    · rw [if_neg e] at h
      have := mget_none hq h
      simp only [List.map_cons, List.mem_cons, not_or]
      exact ⟨fun e2 => e ((hq _ _).2 e2), this⟩
theorem mget_mem (hq : ∀ a b, q a b = true ↔ a = b) {k : κ} : ∀ {M : List (κ × β)}, k ∈ M.map (·.1) → ∃ b, mget q k M = some b
  | [], h => by simp at h
  | p :: M, h => by
    rw [mget]
    by_cases e : q k p.1 = true
    · rw [if_pos e]; exact ⟨_, rfl⟩
    · rw [if_neg e]
      simp only [List.map_cons, List.mem_cons] at h
      rcases h with h | h
      · exact absurd ((hq _ _).2 h) e
      · exact mget_mem hq h
end
theorem few_ints : ∀ (S : Nat) (L : List Int), L.Nodup → (∀ x ∈ L, 1 ≤ x ∧ x ≤ S) → L.length ≤ S
  | 0, L, _, h => by
    cases L with
    | nil => simp
    | cons x L => have := h x (by simp); omega
  | S + 1, L, hd, h => by
    by_cases hm : ((S : Int) + 1) ∈ L
    · have h1 := few_ints S (L.erase ((S : Int) + 1)) (hd.erase _) (fun x hx => by
        rw [hd.mem_erase_iff] at hx
        have := h x hx.2
        have h3 := hx.1
        omega)
      rw [List.length_erase_of_mem hm] at h1
      omega
    · have h1 := few_ints S L hd (fun x hx => by
        have h2 := h x hx
        have h3 : x ≠ (S : Int) + 1 := fun e => hm (e ▸ hx)
        omega)
      omega
/-- The switches that are joined with one, rising. -/
def nrL (S : Int) (Ls : List ((Int × Int) × (Int × Int))) (a : Int) : List Int := ((List.range S.toNat).map fun i : Nat => (i : Int) + 1).filter (joinB Ls a)
theorem nr_mem {S : Int} {Ls : List ((Int × Int) × (Int × Int))} {a y : Int} : y ∈ nrL S Ls a ↔ 1 ≤ y ∧ y ≤ S ∧ joinB Ls a y = true := by
  simp only [nrL, List.mem_filter, List.mem_map, List.mem_range]
  constructor
  · rintro ⟨⟨i, hi, rfl⟩, h⟩
    exact ⟨by omega, by omega, h⟩
  · rintro ⟨h1, h2, h3⟩
    exact ⟨⟨(y - 1).toNat, by omega, by omega⟩, h3⟩
theorem nr_len (S : Int) (Ls : List ((Int × Int) × (Int × Int))) (a : Int) : (nrL S Ls a).length ≤ S.toNat := by
  unfold nrL
  refine Nat.le_trans (List.length_filter_le _ _) ?_
  simp
/-- Up to a number. -/
def nrTo (Ls : List ((Int × Int) × (Int × Int))) (a : Int) (k : Nat) : List Int := ((List.range k).map fun i : Nat => (i : Int) + 1).filter (joinB Ls a)
theorem nr_0 (Ls : List ((Int × Int) × (Int × Int))) (a : Int) : nrTo Ls a 0 = [] := rfl
theorem nr_to (S : Int) (Ls : List ((Int × Int) × (Int × Int))) (a : Int) : nrTo Ls a S.toNat = nrL S Ls a := rfl
theorem nr_next (Ls : List ((Int × Int) × (Int × Int))) (a : Int) (k : Nat) : nrTo Ls a (k + 1) = nrTo Ls a k ++ (if joinB Ls a ((k : Int) + 1) then [(k : Int) + 1] else []) := by
  unfold nrTo
  rw [List.range_succ, List.map_append, List.filter_append]
  congr 1
  cases h : joinB Ls a ((k : Int) + 1) <;> simp [h]
theorem nrTo_len (Ls : List ((Int × Int) × (Int × Int))) (a : Int) (k : Nat) : (nrTo Ls a k).length ≤ k := by
  unfold nrTo
  refine Nat.le_trans (List.length_filter_le _ _) ?_
  simp

/-- Some have their number, some wait. -/
structure BI (S : Nat) (J : Nat → Nat → Bool) (a : Nat) (D : List (Int × Int)) (W : List Int) : Prop where
  st : mget qI a D = some 0
  nd : (D.map (·.1)).Nodup
  rg : ∀ y n, mget qI y D = some n → 1 ≤ y ∧ y ≤ S ∧ 0 ≤ n ∧ n < 7 ∧ rcB S J a n.toNat y.toNat = true
  inD : ∀ x ∈ W, ∃ n, mget qI x D = some n
  so : W.Pairwise fun x y => ∀ m n, mget qI x D = some m → mget qI y D = some n → m ≤ n
  hd : ∀ x r, W = x :: r → ∀ m, mget qI x D = some m → ∀ y n, mget qI y D = some n → n ≤ m + 1
  pr : ∀ x m, mget qI x D = some m → x ∉ W → ∀ y : Int, 1 ≤ y → y ≤ S → J x.toNat y.toNat = true → ∃ n, mget qI y D = some n ∧ n ≤ m + 1
  cn : ∀ y n, mget qI y D = some n → n < D.length
section
variable {S : Nat} {J : Nat → Nat → Bool} {a : Nat}
theorem BI.len {D : List (Int × Int)} {W : List Int} (h : BI S J a D W) : D.length ≤ S := by
  have := few_ints S (D.map (·.1)) h.nd (fun x hx => by
    obtain ⟨b, hb⟩ := mget_mem qI_iff hx
    have := h.rg x b hb
    exact ⟨this.1, this.2.1⟩)
  simpa using this
theorem bi_start (h1 : 1 ≤ a) (h2 : a ≤ S) : BI S J a [((a : Int), 0)] [(a : Int)] := by
  have hg : ∀ y n, mget qI y [((a : Int), (0 : Int))] = some n → y = a ∧ n = 0 := by
    intro y n h
    rw [mget] at h
    by_cases e : qI y a = true
    · rw [if_pos e] at h
      simp at h
      exact ⟨(qI_iff _ _).1 e, h.symm⟩
    · rw [if_neg e] at h; cases h
  have hs : mget qI (a : Int) [((a : Int), (0 : Int))] = some 0 := by rw [mget, if_pos ((qI_iff _ _).2 rfl)]
  refine ⟨hs, by simp, ?_, ?_, by simp, ?_, ?_, ?_⟩
  · intro y n h
    obtain ⟨rfl, rfl⟩ := hg y n h
    exact ⟨by omega, by omega, by omega, by omega, by simp [rcB]⟩
  · intro x hx
    simp at hx
    subst hx
    exact ⟨0, hs⟩
  · intro x r e m hm y n hn
    have := (hg y n hn).2
    have := (hg x m hm).2
    omega
  · intro x m hm hx
    have := (hg x m hm).1
    exact absurd (by simp [this]) hx
  · intro y n h
    have := (hg y n h).2
    simp; omega
/-- One that is near the first has its number already. -/
theorem bi_has {D : List (Int × Int)} {x : Int} {W : List Int} {m : Int} (h : BI S J a D (x :: W)) (hm : mget qI x D = some m) {y n : Int} (hy : mget qI y D = some n) : n ≤ m + 1 := h.hd x W rfl m hm y n hy
/-- One that is near the first has none yet. -/
theorem bi_new {D : List (Int × Int)} {x : Int} {W : List Int} {m : Int} (h6 : S ≤ 6) (h : BI S J a D (x :: W)) (hm : mget qI x D = some m) {y : Int} (h1 : 1 ≤ y) (h2 : y ≤ S) (hJ : J x.toNat y.toNat = true) (hy : mget qI y D = none) :
    BI S J a (mput qI y (m + 1) D) (x :: (W ++ [y])) ∧ mget qI x (mput qI y (m + 1) D) = some m ∧ (mput qI y (m + 1) D).length = D.length + 1 ∧ (∀ z n, mget qI z D = some n → mget qI z (mput qI y (m + 1) D) = some n) ∧ mget qI y (mput qI y (m + 1) D) = some (m + 1) := by
  have hput : ∀ z, mget qI z (mput qI y (m + 1) D) = if qI z y then some (m + 1) else mget qI z D := fun z => mget_put qI_iff y z (m + 1) D
  have hne : ∀ z n, mget qI z D = some n → ¬ z = y := fun z n hz e => by rw [e, hy] at hz; cases hz
  have old : ∀ z n, mget qI z D = some n → mget qI z (mput qI y (m + 1) D) = some n := fun z n hz => by
    rw [hput, if_neg (fun e => hne z n hz ((qI_iff _ _).1 e))]
    exact hz
  have new : mget qI y (mput qI y (m + 1) D) = some (m + 1) := by rw [hput, if_pos ((qI_iff _ _).2 rfl)]
  have way : ∀ z n, mget qI z (mput qI y (m + 1) D) = some n → (z = y ∧ n = m + 1) ∨ mget qI z D = some n := fun z n hz => by
    rw [hput] at hz
    by_cases e : qI z y = true
    · rw [if_pos e] at hz
      simp at hz
      exact .inl ⟨(qI_iff _ _).1 e, hz.symm⟩
    · rw [if_neg e] at hz
      exact .inr hz
  have happ : mput qI y (m + 1) D = D ++ [(y, m + 1)] := mput_new qI_iff hy
  have hlen : (mput qI y (m + 1) D).length = D.length + 1 := by rw [happ]; simp
  obtain ⟨x1, x2, m0, m7, mr⟩ := h.rg x m hm
  have hnd : ((mput qI y (m + 1) D).map (·.1)).Nodup := by
    rw [happ, List.map_append]
    rw [List.nodup_append]
    refine ⟨h.nd, by simp, ?_⟩
    intro u hu v hv e
    simp at hv
    subst hv
    subst e
    exact mget_none qI_iff hy hu
  have hrn : rcB S J a (m + 1).toNat y.toNat = true := by
    have e : (m + 1).toNat = m.toNat + 1 := by omega
    rw [e]
    exact rc_s.2 (.inr ⟨by omega, by omega, x.toNat, by omega, by omega, mr, hJ⟩)
  have hcn := h.cn x m hm
  have hdl : (mput qI y (m + 1) D).length ≤ S := by
    have := few_ints S ((mput qI y (m + 1) D).map (·.1)) hnd (fun z hz => by
      obtain ⟨b, hb⟩ := mget_mem qI_iff hz
      rcases way z b hb with ⟨rfl, _⟩ | hz
      · exact ⟨h1, h2⟩
      · have := h.rg z b hz
        exact ⟨this.1, this.2.1⟩)
    simpa using this
  refine ⟨⟨old _ _ h.st, hnd, ?_, ?_, ?_, ?_, ?_, ?_⟩, old x m hm, hlen, old, new⟩
  · intro z n hz
    rcases way z n hz with ⟨rfl, rfl⟩ | hz
    · exact ⟨h1, h2, by omega, by omega, hrn⟩
    · exact h.rg z n hz
  · intro z hz
    simp only [List.mem_cons, List.mem_append, List.not_mem_nil, or_false] at hz
    rcases hz with rfl | hz | rfl
    · exact ⟨m, old _ _ hm⟩
    · obtain ⟨n, hn⟩ := h.inD z (by simp [hz])
      exact ⟨n, old _ _ hn⟩
    · exact ⟨m + 1, new⟩
  · rw [show x :: (W ++ [y]) = (x :: W) ++ [y] from rfl, List.pairwise_append]
    refine ⟨?_, by simp, ?_⟩
    · refine h.so.imp_of_mem ?_
      intro u v hu hv huv p r hp hr
      obtain ⟨pu, hpu⟩ := h.inD u hu
      obtain ⟨pv, hpv⟩ := h.inD v hv
      rw [old u pu hpu] at hp
      rw [old v pv hpv] at hr
      cases hp
      cases hr
      exact huv _ _ hpu hpv
    · intro u hu v hv p r hp hr
      simp at hv
      subst hv
      rw [new] at hr
      cases hr
      obtain ⟨pu, hpu⟩ := h.inD u hu
      rw [old u pu hpu] at hp
      cases hp
      exact h.hd x W rfl m hm u _ hpu
  · intro z r e p hp z2 n hz2
    have ez : x = z := by simpa using (List.cons.inj e).1
    subst ez
    rw [old x m hm] at hp
    cases hp
    rcases way z2 n hz2 with ⟨rfl, rfl⟩ | hz
    · omega
    · exact h.hd x W rfl m hm z2 n hz
  · intro z p hp hz y2 hy1 hy2 hJ2
    simp only [List.mem_cons, List.mem_append, List.not_mem_nil, or_false, not_or] at hz
    rcases way z p hp with ⟨e, _⟩ | hp
    · exact absurd e hz.2.2
    · obtain ⟨n, hn, hle⟩ := h.pr z p hp (by simp [hz.1, hz.2.1]) y2 hy1 hy2 hJ2
      exact ⟨n, old _ _ hn, hle⟩
  · intro z n hz
    rw [hlen]
    rcases way z n hz with ⟨rfl, rfl⟩ | hz
    · omega
    · have := h.cn z n hz
      omega
/-- All that are near the first have their number: the first goes. -/
theorem bi_pop {D : List (Int × Int)} {x : Int} {W : List Int} {m : Int} (h : BI S J a D (x :: W)) (hm : mget qI x D = some m) (hall : ∀ y : Int, 1 ≤ y → y ≤ S → J x.toNat y.toNat = true → ∃ n, mget qI y D = some n ∧ n ≤ m + 1) : BI S J a D W := by
  refine ⟨h.st, h.nd, h.rg, fun z hz => h.inD z (by simp [hz]), h.so.of_cons, ?_, ?_, h.cn⟩
  · intro z r e p hp y n hy
    have h1 := h.hd x W rfl m hm y n hy
    have h2 := (List.pairwise_cons.1 h.so).1 z (by simp [e]) m p hm hp
    omega
  · intro z p hp hz y h1 h2 hJ
    by_cases e : z = x
    · subst e
      rw [hm] at hp
      cases hp
      exact hall y h1 h2 hJ
    · exact h.pr z p hp (by simp [e, hz]) y h1 h2 hJ
theorem bi_all {D : List (Int × Int)} (h : BI S J a D []) (h1 : 1 ≤ a) (h2 : a ≤ S) : ∀ (n b : Nat), rcB S J a n b = true → ∃ m, mget qI (b : Int) D = some m ∧ m ≤ n
  | 0, b, hr => by
    rw [rc_0] at hr
    subst hr
    exact ⟨0, h.st, by omega⟩
  | n + 1, b, hr => by
    rw [rc_s] at hr
    rcases hr with hr | ⟨b1, b2, k, k1, k2, hr, hJ⟩
    · obtain ⟨m, hm, hl⟩ := bi_all h h1 h2 n b hr
      exact ⟨m, hm, by omega⟩
    · obtain ⟨m, hm, hl⟩ := bi_all h h1 h2 n k hr
      obtain ⟨p, hp, hl2⟩ := h.pr k m hm (by simp) b (by omega) (by omega) (by simpa using hJ)
      exact ⟨p, hp, by omega⟩
/-- What has a number when nobody waits: as far as it is. -/
theorem bi_far {D : List (Int × Int)} (h : BI S J a D []) (h1 : 1 ≤ a) (h2 : a ≤ S) (h6 : S ≤ 6) (b : Nat) : (farN S J a b = -1 ∧ mget qI (b : Int) D = none) ∨ ∃ m : Nat, farN S J a b = m ∧ mget qI (b : Int) D = some (m : Int) := by
  rcases far_or (J := J) (b := b) h1 h2 h6 with ⟨e, hno⟩ | ⟨m, e, hm, hl⟩
  · refine .inl ⟨e, ?_⟩
    cases hg : mget qI (b : Int) D with
    | none => rfl
    | some n =>
      have := (h.rg _ n hg).2.2.2.2
      rw [Int.toNat_natCast, hno] at this
      cases this
  · refine .inr ⟨m, e, ?_⟩
    obtain ⟨n, hn, hle⟩ := bi_all h h1 h2 m b hm
    have hr := h.rg _ n hn
    have h3 := hl n.toNat (by have := hr.2.2.2.2; rwa [Int.toNat_natCast] at this)
    have : n = (m : Int) := by omega
    rw [hn, this]
end
end Go.Proofs.Ytmpjoepfgfbjmaa
/- Slices of anything that is a fixed number of cells: where they lie, rows of them that a call owns, such that came in. No program in it. -/
namespace Go.Proofs.Ytmpjoepfgfbjmaa
open Go.ChangeShapes Go.WideShapes Go.ChangeAt Go.RowKit

/-- How things are laid out in cells: each as so many. -/
structure Enc (α : Type) where
  c : α → List Value
  n : Nat
  len : ∀ x, (c x).length = n
  pos : 0 < n
  one : ∀ x u, u ∈ c x → u.oneCell' = true
/-- Values lie one behind the other from an address on. -/
def VAt (w : World) (g o : Nat) (vs : List Value) : Prop := ∀ j u, vs[j]? = some u → w.cell? ⟨g, o + j, none⟩ = some u
theorem VAt.later {w w' : World} {g o : Nat} {vs : List Value} (h : VAt w g o vs) (hb : Below w.heap.size w w') : VAt w' g o vs := fun j u hu => cell_later hb (h j u hu)
theorem vat_new (w : World) (vs : List Value) (t : TypeId) : VAt (w.alloc (.cells vs.toArray t)) w.heap.size 0 vs := by
  intro j u hu
  rw [Nat.zero_add]
  have hj : j < vs.length := (List.getElem?_eq_some_iff.1 hu).1
  simp only [World.cell?, World.alloc]
  simp [hu]
section
variable {α : Type} {E : Enc α}
/-- These lie from an address on. -/
def GAt (E : Enc α) (w : World) (g o : Nat) (L : List α) : Prop := ∀ i (h : i < L.length), VAt w g (o + i * E.n) (E.c L[i])
theorem GAt.later {w w' : World} {g o : Nat} {L : List α} (h : GAt E w g o L) (hb : Below w.heap.size w w') : GAt E w' g o L := fun i hi => (h i hi).later hb
theorem GAt.take {w : World} {g o : Nat} {L : List α} (h : GAt E w g o L) (k : Nat) : GAt E w g o (L.take k) := by
  intro i hi
  rw [List.getElem_take]
  exact h i (by simp at hi; omega)
theorem GAt.drop {w : World} {g o : Nat} {L : List α} (h : GAt E w g o L) (k : Nat) : GAt E w g (o + k * E.n) (L.drop k) := by
  intro i hi
  have hi2 : k + i < L.length := by simp at hi; omega
  have := h (k + i) hi2
  rw [List.getElem_drop]
  have e : o + (k + i) * E.n = o + k * E.n + i * E.n := by rw [Nat.add_mul]; omega
  rw [← e]
  exact this
/-- A value is a slice of these. -/
def GS (E : Enc α) (w : World) (v : Value) (L : List α) : Prop :=
  (∃ ao cap, v = .slice ao 0 cap ∧ L = []) ∨ ∃ g o cap, v = .slice (some ⟨g, o, none⟩) L.length cap ∧ L.length ≤ cap ∧ cap ≤ maxLen ∧ GAt E w g o L
theorem GS.later {w w' : World} {v : Value} {L : List α} (h : GS E w v L) (hb : Below w.heap.size w w') : GS E w' v L := by
  rcases h with h | ⟨g, o, cap, h1, h2, h3, h4⟩
  · exact .inl h
  · exact .inr ⟨g, o, cap, h1, h2, h3, h4.later hb⟩
theorem GS.form {w : World} {v : Value} {L : List α} (h : GS E w v L) : ∃ ao n cap, v = .slice ao n cap ∧ L.length = n ∧ n ≤ maxLen ∧ n ≤ cap ∧ (0 < n → ∃ g o, ao = some ⟨g, o, none⟩ ∧ GAt E w g o L ∧ cap ≤ maxLen) := by
  rcases h with ⟨ao, cap, rfl, rfl⟩ | ⟨g, o, cap, rfl, h1, h2, h3⟩
  · exact ⟨ao, 0, cap, rfl, rfl, Nat.zero_le _, Nat.zero_le _, fun h => absurd h (by omega)⟩
  · exact ⟨_, _, cap, rfl, rfl, Nat.le_trans h1 h2, h1, fun _ => ⟨g, o, rfl, h3, h2⟩⟩
theorem GS.len {w : World} {ao : Option Addr} {n cap : Nat} {L : List α} (h : GS E w (.slice ao n cap) L) : L.length = n := by
  rcases h with ⟨_, _, e, rfl⟩ | ⟨_, _, _, e, _⟩
  · simp at e; simp [e]
  · simp at e; exact e.2.1.symm
theorem GS.nil (w : World) : GS E w (.slice none 0 0) [] := .inl ⟨none, 0, rfl, rfl⟩
/-- One in a new row. -/
theorem gs_one (w : World) (x : α) (t : TypeId) {vs : List Value} (hv : vs = E.c x) : GS E (w.alloc (.cells vs.toArray t)) (.slice (some ⟨w.heap.size, 0, none⟩) 1 1) [x] := by
  subst hv
  refine .inr ⟨w.heap.size, 0, 1, rfl, Nat.le_refl _, by unfold maxLen; omega, fun i hi => ?_⟩
  obtain rfl : i = 0 := by simp at hi; omega
  have h := vat_new w (E.c x) t
  simpa using h
/-- The cells of some. -/
def cellsG (E : Enc α) (L : List α) : List Value := L.flatMap E.c
theorem cellsG_len (L : List α) : (cellsG E L).length = L.length * E.n := by
  induction L with
  | nil => simp [cellsG]
  | cons x r ih =>
    simp only [cellsG, List.flatMap_cons, List.length_append, List.length_cons, E.len] at *
    rw [ih, Nat.add_mul]
    omega
theorem cellsG_app (L M : List α) : cellsG E (L ++ M) = cellsG E L ++ cellsG E M := by simp [cellsG]
theorem cellsG_one (x : α) : cellsG E [x] = E.c x := by simp [cellsG]
theorem cellsG_at (L : List α) : ∀ (i : Nat) (h : i < L.length) (j : Nat), j < E.n → (cellsG E L)[i * E.n + j]? = (E.c L[i])[j]? := by
  induction L with
  | nil => intro i h; simp at h
  | cons x r ih =>
    intro i h j hj
    cases i with
    | zero =>
      simp only [cellsG, List.flatMap_cons, Nat.zero_mul, Nat.zero_add, List.getElem_cons_zero]
      rw [List.getElem?_append_left (by rw [E.len]; exact hj)]
    | succ i =>
      have := ih i (by simpa using h) j hj
      simp only [cellsG, List.flatMap_cons, List.getElem_cons_succ] at this ⊢
      rw [List.getElem?_append_right (by rw [E.len, Nat.add_mul]; omega), E.len]
      have e : (i + 1) * E.n + j - E.n = i * E.n + j := by rw [Nat.add_mul]; omega
      rw [e]
      exact this
theorem cellsG_all (L : List α) : ∀ u ∈ cellsG E L, u.oneCell' = true := by
  intro u hu
  simp only [cellsG, List.mem_flatMap] at hu
  obtain ⟨x, _, hx⟩ := hu
  exact E.one x u hx
/-- What a call owns may be read. -/
theorem own_GS {w : World} {B e : Nat} {v : Value} {L : List α} (h : w.ownsRow B e E.n v L.length (cellsG E L)) : GS E w v L := by
  rcases h.2 with ⟨rfl, h0⟩ | ⟨g, cap, cur, rfl, _, _, h1, h2, _⟩
  · exact .inl ⟨none, 0, rfl, List.length_eq_zero_iff.1 h0⟩
  · refine .inr ⟨g, 0, cap, rfl, h1, h2, fun i hi j u hu => ?_⟩
    have hj : j < E.n := by
      have := (List.getElem?_eq_some_iff.1 hu).1
      rw [E.len] at this
      exact this
    have hlt : i * E.n + j < L.length * E.n := by
      have : (i + 1) * E.n ≤ L.length * E.n := Nat.mul_le_mul_right _ hi
      rw [Nat.add_mul] at this
      omega
    rw [Nat.zero_add, h.cellAt _ hlt, cellsG_at L i hi j hj]
    exact hu
theorem GAt.cells {w : World} {g o : Nat} {M : List α} (h : GAt E w g o M) : ∀ j u, (cellsG E M)[j]? = some u → w.cell? ((⟨g, o, none⟩ : Addr).add j) = some u := by
  intro j u hu
  have hj : j < M.length * E.n := by
    have := (List.getElem?_eq_some_iff.1 hu).1
    rw [cellsG_len] at this
    exact this
  have hadd : (⟨g, o, none⟩ : Addr).add j = ⟨g, o + j, none⟩ := by
    simp only [Addr.add]
    first
      | rfl
      | (split
         · next h0 => rw [h0]; rfl
         · rfl)
  have hi : j / E.n < M.length := Nat.div_lt_of_lt_mul (by rw [Nat.mul_comm]; exact hj)
  have hm : j % E.n < E.n := Nat.mod_lt _ E.pos
  have e : j / E.n * E.n + j % E.n = j := by rw [Nat.mul_comm]; exact Nat.div_add_mod _ _
  have h1 := cellsG_at (E := E) M (j / E.n) hi (j % E.n) hm
  rw [e, hu] at h1
  have h2 := h (j / E.n) hi (j % E.n) u h1.symm
  rw [Nat.add_assoc, e] at h2
  rw [hadd]
  exact h2
end

section
variable {α : Type}
theorem any_nextG {L : List α} {f : α → Bool} {k : Nat} (hk : k < L.length) (h : (L.take k).any f = false) (h2 : f L[k] = false) : (L.take (k + 1)).any f = false := by
  rw [List.take_succ_eq_append_getElem hk]
  simp only [List.any_append, h, List.any_cons, List.any_nil, h2, Bool.or_false]
theorem any_hitG {L : List α} {f : α → Bool} {k : Nat} (hk : k < L.length) (h2 : f L[k] = true) : L.any f = true := List.any_eq_true.2 ⟨_, List.getElem_mem hk, h2⟩
/-- The first place where something is so, or -1. -/
def ixG (f : α → Bool) (L : List α) : Int := if L.any f then (L.findIdx f : Int) else -1
theorem ixG_hit {L : List α} {f : α → Bool} {k : Nat} (hk : k < L.length) (h : (L.take k).any f = false) (h2 : f L[k] = true) : ixG f L = k := by
  rw [ixG, any_hitG hk h2, if_pos rfl]
  congr 1
  rw [List.findIdx_eq hk]
  refine ⟨h2, fun j hj => ?_⟩
  rw [List.any_eq_false] at h
  have := h L[j] (by rw [List.mem_take_iff_getElem]; exact ⟨j, by omega, rfl⟩)
  simpa using this
theorem ixG_no {L : List α} {f : α → Bool} (h : L.any f = false) : ixG f L = -1 := by simp [ixG, h]
theorem ixG_any (L : List α) (f : α → Bool) : decide (0 ≤ ixG f L) = L.any f := by
  unfold ixG
  cases L.any f
  · simp
  · simp
end
section
variable {α : Type}
/-- Are two lists the same, one by one? -/
def smG (q : α → α → Bool) : List α → List α → Bool
  | [], [] => true
  | a :: l, b :: m => q a b && smG q l m
  | _, _ => false
theorem smG_iff {q : α → α → Bool} : ∀ {L M : List α}, smG q L M = true ↔ L.length = M.length ∧ ∀ i (h1 : i < L.length) (h2 : i < M.length), q L[i] M[i] = true
  | [], [] => by simp [smG]
  | [], _ :: _ => by simp [smG]
  | _ :: _, [] => by simp [smG]
  | a :: l, b :: m => by
    rw [smG, Bool.and_eq_true, smG_iff (L := l) (M := m)]
    constructor
    · rintro ⟨h1, h2, h3⟩
      refine ⟨by simp [h2], fun i hi hj => ?_⟩
      cases i with
      | zero => exact h1
      | succ i => exact h3 i (by simpa using hi) (by simpa using hj)
    · rintro ⟨h1, h2⟩
      refine ⟨h2 0 (by simp) (by simp), by simpa using h1, fun i hi hj => ?_⟩
      exact h2 (i + 1) (by simpa using hi) (by simpa using hj)
theorem smG_len {q : α → α → Bool} {L M : List α} (h : L.length ≠ M.length) : smG q L M = false := by
  cases e : smG q L M
  · rfl
  · exact absurd (smG_iff.1 e).1 h
theorem smG_no {q : α → α → Bool} {L M : List α} {k : Nat} (h1 : k < L.length) (h2 : k < M.length) (h : q L[k] M[k] = false) : smG q L M = false := by
  cases e : smG q L M
  · rfl
  · have := (smG_iff.1 e).2 k h1 h2
    rw [h] at this
    cases this
theorem smG_eq {q : α → α → Bool} (hq : ∀ a b, q a b = true ↔ a = b) : ∀ {L M : List α}, smG q L M = true ↔ L = M
  | [], [] => by simp [smG]
  | [], _ :: _ => by simp [smG]
  | _ :: _, [] => by simp [smG]
  | a :: l, b :: m => by
    rw [smG, Bool.and_eq_true, smG_eq hq, hq]
    simp
end
section
variable {P : Program} {α : Type} {E : Enc α}
theorem run_append_none {w : World} (base : Nat) (t ty e : TypeId) (i : TypeInfo) (size cap2 : Nat) (ht : P.underlying t = some (.slice e)) (hi : P.info? e = some i)
    (v : Value) (n : Nat) (xs : List Value) (hown : w.ownsRow base e size v n xs) :
    (Builtin.append_ #[t, t] ty #[v, .slice none 0 cap2]).run P w = .ok v w := by
  rcases hown.2 with ⟨rfl, rfl⟩ | ⟨g, cap, cur, rfl, _, _, hnc, _⟩
  · simp [Builtin.append_, run_underlying ht, sizeOf, typeInfo, hi, Builtin.lenOf, Builtin.firstCells]
  · simp [Builtin.append_, run_underlying ht, sizeOf, typeInfo, hi, Builtin.lenOf, Builtin.firstCells, hnc, storeCells]
/-- Appending a slice, whoever made it, to a row that a call owns. -/
theorem wpList_append_GS (w : World) {ops : Array Oper} {rest : List Oper} {o : Oper} {a : Act} {Q : Exit → Act → World → Prop} (hgd : o.guard = none) (s x : Operand) (t e : TypeId)
    (ho : o.op = .call { callee := .builtin .append, args := #[s, x], argTypes := #[t, t] }) (ht : P.underlying t = some (.slice e)) (i : TypeInfo) (z : Value) (bytes : Nat) (hi : P.info? e = some i) (hz : i.zero = some z)
    (hsize : i.size = E.n) (hby : i.bytes = bytes) (hzs : z.cells.size = E.n) (base : Nat)
    (v : Value) (hs : a.eval s = v) (L : List α) (hown : w.ownsRow base e E.n v L.length (cellsG E L)) (u : Value) (hx : a.eval x = u) (M : List α) (hM : GS E w u M)
    (h63 : L.length + M.length ≤ maxLen) (hbytes : (L.length + M.length) * bytes ≤ 140737488355328) (hbase : base ≤ w.heap.size)
    (h : ∀ v' w', w'.ownsRow base e E.n v' (L ++ M).length (cellsG E (L ++ M)) → w.grownBy w' v.ownBlock → wpList P ops Q rest (a.put o.dst v') w') : wpList P ops Q (o :: rest) a w := by
  have key : ∀ (ad : Addr) (m c : Nat) (news : List Value), a.eval x = .slice (some ad) m c → news.length = m * E.n → (∀ j u, news[j]? = some u → w.cell? (ad.add j) = some u) → (∀ u ∈ news, u.oneCell' = true) → m = M.length → news = cellsG E M → wpList P ops Q (o :: rest) a w := by
    intro ad m c news e1 e2 e3 e4 e5 e6
    refine wpList_append_own w hgd s x t ho base e i z E.n bytes ht hi hz hsize hby hzs E.pos v _ _ hs hown ad m c news e1 e2 e3 e4 (by rw [e5]; exact h63) (by rw [e5]; exact hbytes) hbase ?_
    intro v' w' h1 h2 _
    refine h v' w' ?_ h2
    rw [List.length_append, cellsG_app, ← e5, ← e6]
    exact h1
  rcases hM with ⟨ao, cap, rfl, rfl⟩ | ⟨g, q, cap, rfl, h1, h2, h3⟩
  · cases ao with
    | none =>
      refine wpList_plain hgd fun K hK => ?_
      have hrun := run_append_none (P := P) (w := w) base t o.type e i E.n cap ht hi v _ _ hown
      unfold Oper.wp
      simp [execOp, ho, resolve, invoke, builtin, hs, hx, hrun, Result.andThen]
      exact hK _ _ (h v w (by rw [List.append_nil]; exact hown) ⟨rfl, rfl, rfl, Nat.le_refl _, fun _ _ _ => rfl⟩)
    | some ad => exact key ad 0 cap [] hx (by simp) (by intro j u hu; simp at hu) (by intro u hu; cases hu) rfl rfl
  · exact key ⟨g, q, none⟩ M.length cap (cellsG E M) hx (cellsG_len M) h3.cells (cellsG_all M) rfl rfl

set_option maxRecDepth 100000 in
/-- A slice that came in lies where it says. 'hel': cells that read as one element are its layout. -/
theorem gs_of {H : Type} {enc : TypeId × Value → H} {W : World} {base : Nat} {v : Value} {d : DataW H} {p : List MemPlace} (ts te : TypeId) (hu : P.underlying ts = some (.slice te)) (hC : P.cellsOf te = E.n) (x0 : α)
    (hel : ∀ (n : Nat) (cs : List Value) (x : DataW H × List MemPlace), DataW.trod enc P W 0 (fun _ => true) true n te cs = some x → ∃ y, cs = E.c y)
    (hv : Value.okWide P W .any base ts v) (h : DataW.Trod enc P W 0 (fun _ => true) true ts v d p) : ∃ L, GS E W v L := by
  obtain ⟨a0, len0, cap0, rfl⟩ := okWide_slice hu hv
  obtain ⟨fuel, hf⟩ := h
  have hf2 : DataW.trod enc P W 0 (fun _ => true) true fuel ts [.slice a0 len0 cap0] = some (d, p) := hf
  rcases Go.Deep.open_slice hu hf2 with ⟨hc, hx⟩ | ⟨a, len, cap, m, k, D, Pl, hc, _, hl, hm, hmm, hx, hall⟩
  · simp only [List.cons.injEq, and_true, Value.slice.injEq] at hc
    obtain ⟨rfl, rfl, rfl⟩ := hc
    exact ⟨[], .inl ⟨none, 0, rfl, rfl⟩⟩
  · simp only [List.cons.injEq, and_true, Value.slice.injEq] at hc
    obtain ⟨rfl, rfl, rfl⟩ := hc
    simp only [if_true] at hmm
    subst hmm
    rcases Nat.eq_zero_or_pos len0 with h0 | h0
    · subst h0
      exact ⟨[], .inl ⟨_, _, rfl, rfl⟩⟩
    · have each : ∀ i, i < m → ∃ y : α, ∀ j, j < E.n → W.cell? (a.add (i * E.n + j)) = (E.c y)[j]? := by
        intro i hi
        obtain ⟨cs, h1, h2⟩ := hall i hi
        rw [hC] at h1
        obtain ⟨_, hlen, hcell⟩ := World.cells?_some h1
        obtain ⟨y, rfl⟩ := hel _ _ _ h2
        refine ⟨y, fun j hj => ?_⟩
        have := hcell j (by omega)
        rw [Go.Deep.add_add] at this
        exact this
      have iR : Inhabited α := ⟨x0⟩
      obtain ⟨R, hR⟩ := Go.Deep.choose_lt each
      obtain ⟨sb, so, spot⟩ := a
      have hspot : spot = none := by
        have h1 := hR 0 (by omega) 0 E.pos
        have h2 : (E.c (R 0))[0]?.isSome = true := by
          rw [List.getElem?_eq_getElem (by rw [E.len]; exact E.pos)]
          rfl
        obtain ⟨u, hu2⟩ := Option.isSome_iff_exists.1 h2
        rw [hu2] at h1
        simpa [Addr.add] using World.cell?_spot h1
      subst hspot
      have hadd : ∀ j, (⟨sb, so, none⟩ : Addr).add j = ⟨sb, so + j, none⟩ := by
        intro j
        simp only [Addr.add]
        first
          | rfl
          | (split
             · next h0 => rw [h0]; rfl
             · rfl)
      refine ⟨(List.range len0).map R, .inr ⟨sb, so, _, by simp, by simpa using hl, hm, fun i hi j u hu2 => ?_⟩⟩
      have hi2 : i < len0 := by simpa using hi
      have e : ((List.range len0).map R)[i] = R i := by simp
      rw [e] at hu2
      have hj : j < E.n := by
        have := (List.getElem?_eq_some_iff.1 hu2).1
        rw [E.len] at this
        exact this
      have hc := hR i (by omega) j hj
      rw [hadd, hu2, ← Nat.add_assoc] at hc
      exact hc
end
end Go.Proofs.Ytmpjoepfgfbjmaa
/- Who is where, by the place in a list; who is at the other end, by a map; a line of switches: plain lists. No program in it. -/
namespace Go.Proofs.Ytmpjoepfgfbjmaa
open Go.RowKit
set_option linter.unusedVariables false

theorem at_ix (Hs : List (ByteArray × (Int × Int))) (s : Int × Int) : (ixG (fun h => sq h.2 s) Hs = -1 ∧ atO Hs s = none) ∨ ∃ (k : Nat) (hk : k < Hs.length), ixG (fun h => sq h.2 s) Hs = k ∧ atO Hs s = some Hs[k].1 := by
  induction Hs with
  | nil => exact .inl ⟨rfl, rfl⟩
  | cons h Hs ih =>
    rw [atO]
    by_cases e : sq h.2 s = true
    · refine .inr ⟨0, by simp, ?_, ?_⟩
      · exact ixG_hit (L := h :: Hs) (k := 0) (by simp) (by simp) e
      · have e2 := (sq_iff _ _).1 e
        rw [if_pos (by rw [e2]; exact beq_self_eq_true _)]
        rfl
    · have en : ¬ (h.2 == s) = true := fun h2 => e ((sq_iff _ _).2 (by simpa using h2))
      rw [if_neg en]
      have ef : sq h.2 s = false := by simpa using e
      rcases ih with ⟨h1, h2⟩ | ⟨k, hk, h1, h2⟩
      · refine .inl ⟨?_, h2⟩
        unfold ixG at h1 ⊢
        rw [List.any_cons, ef, Bool.false_or]
        cases ha : Hs.any fun h => sq h.2 s
        · rfl
        · rw [ha, if_pos rfl] at h1
          omega
      · refine .inr ⟨k + 1, by simp; omega, ?_, by simpa using h2⟩
        unfold ixG at h1 ⊢
        rw [List.any_cons, ef, Bool.false_or]
        cases ha : Hs.any fun h => sq h.2 s
        · rw [ha] at h1
          simp at h1
        · rw [ha, if_pos rfl] at h1
          rw [if_pos rfl, List.findIdx_cons, ef]
          simp
          omega
theorem where_ix (Hs : List (ByteArray × (Int × Int))) (n : ByteArray) : (ixG (fun h => h.1 == n) Hs = -1 ∧ whereO Hs n = none) ∨ ∃ (k : Nat) (hk : k < Hs.length), ixG (fun h => h.1 == n) Hs = k ∧ whereO Hs n = some Hs[k].2 := by
  induction Hs with
  | nil => exact .inl ⟨rfl, rfl⟩
  | cons h Hs ih =>
    rw [whereO]
    by_cases e : (h.1 == n) = true
    · refine .inr ⟨0, by simp, ?_, ?_⟩
      · exact ixG_hit (L := h :: Hs) (k := 0) (by simp) (by simp) e
      · rw [if_pos e]
        rfl
    · rw [if_neg e]
      have ef : (h.1 == n) = false := by
        cases hh : (h.1 == n)
        · rfl
        · exact absurd hh e
      rcases ih with ⟨h1, h2⟩ | ⟨k, hk, h1, h2⟩
      · refine .inl ⟨?_, h2⟩
        unfold ixG at h1 ⊢
        rw [List.any_cons, ef, Bool.false_or]
        cases ha : Hs.any fun h => h.1 == n
        · rfl
        · rw [ha, if_pos rfl] at h1
          omega
      · refine .inr ⟨k + 1, by simp; omega, ?_, by simpa using h2⟩
        unfold ixG at h1 ⊢
        rw [List.any_cons, ef, Bool.false_or]
        cases ha : Hs.any fun h => h.1 == n
        · rw [ha] at h1
          simp at h1
        · rw [ha, if_pos rfl] at h1
          rw [if_pos rfl, List.findIdx_cons, ef]
          simp
          omega
/-- The answers' numbers. -/
def atN (Hs : List (ByteArray × (Int × Int))) (s : Int × Int) : Int := ixG (fun h => sq h.2 s) Hs
def whN (Hs : List (ByteArray × (Int × Int))) (n : ByteArray) : Int := ixG (fun h => h.1 == n) Hs
theorem peer_app (l : (Int × Int) × (Int × Int)) (s : Int × Int) : ∀ Ls : List ((Int × Int) × (Int × Int)), peerO (Ls ++ [l]) s = match peerO Ls s with | some p => some p | none => if l.1 == s then some l.2 else if l.2 == s then some l.1 else none
  | [] => by simp [peerO]
  | x :: Ls => by
    rw [List.cons_append, peerO, peerO]
    by_cases h1 : (x.1 == s) = true
    · rw [if_pos h1, if_pos h1]
    · rw [if_neg h1, if_neg h1]
      by_cases h2 : (x.2 == s) = true
      · rw [if_pos h2, if_pos h2]
      · rw [if_neg h2, if_neg h2]
        exact peer_app l s Ls
/-- A map that has for each spot of these links the other end. -/
def PM (M : List ((Int × Int) × (Int × Int))) (Ls : List ((Int × Int) × (Int × Int))) : Prop := ∀ s, mget sq s M = peerO Ls s
theorem pm_nil : PM [] [] := fun s => rfl
theorem pm_put {M Ls : List ((Int × Int) × (Int × Int))} {x y : Int × Int} (h : PM M Ls) (hd : (spsL (Ls ++ [(x, y)])).Nodup) : PM (mput sq y x (mput sq x y M)) (Ls ++ [(x, y)]) := by
  have e : spsL (Ls ++ [(x, y)]) = spsL Ls ++ [x, y] := by simp [spsL]
  rw [e, List.nodup_append] at hd
  obtain ⟨_, h2, h3⟩ := hd
  have hxy : ¬ x = y := by simpa using h2
  have hno : ∀ z, z = x ∨ z = y → peerO Ls z = none := by
    intro z hz
    cases hp : peerO Ls z with
    | none => rfl
    | some p => exact absurd rfl (h3 z (peer_in hp).1 z (by rcases hz with rfl | rfl <;> simp))
  intro s
  rw [mget_put sq_iff, mget_put sq_iff, peer_app]
  by_cases e1 : s = y
  · subst e1
    rw [if_pos ((sq_iff _ _).2 rfl), hno s (.inr rfl)]
    simp [hxy]
  · rw [if_neg (fun e => e1 ((sq_iff _ _).1 e))]
    by_cases e2 : s = x
    · subst e2
      rw [if_pos ((sq_iff _ _).2 rfl), hno s (.inl rfl)]
      simp
    · rw [if_neg (fun e => e2 ((sq_iff _ _).1 e)), h s]
      cases hp : peerO Ls s with
      | some p => rfl
      | none =>
        have n1 : ¬ x = s := fun e => e2 e.symm
        have n2 : ¬ y = s := fun e => e1 e.symm
        simp [n1, n2]
theorem sps_app (Ls Ms : List ((Int × Int) × (Int × Int))) : spsL (Ls ++ Ms) = spsL Ls ++ spsL Ms := by simp [spsL]
theorem sps_nd {Ls : List ((Int × Int) × (Int × Int))} (h : (spsL Ls).Nodup) (k : Nat) : (spsL (Ls.take k)).Nodup := by
  have e : Ls = Ls.take k ++ Ls.drop k := (List.take_append_drop k Ls).symm
  rw [e, sps_app, List.nodup_append] at h
  exact h.1
/-- How far it is in a topology, from one switch to another one. -/
def faN (S : Int) (Ls : List ((Int × Int) × (Int × Int))) (a b : Int) : Int := farN S.toNat (fun x y => joinB Ls x y) a.toNat b.toNat
/-- Is there such a switch? -/
def swB (S a : Int) : Bool := decide (1 ≤ a) && decide (a ≤ S)
/-- The fault of a question at a spot. -/
def csN (S : Int) (Ls : List ((Int × Int) × (Int × Int))) (Hs : List (ByteArray × (Int × Int))) (s : Int × Int) : Int := if tpN S Ls Hs = 0 then (if spB S s then 0 else 1) else tpN S Ls Hs
def peN (S : Int) (Ls : List ((Int × Int) × (Int × Int))) (Hs : List (ByteArray × (Int × Int))) (s : Int × Int) : Int := if csN S Ls Hs s = 0 then (if (peerO Ls s).isSome then 0 else 5) else csN S Ls Hs s
def peV (S : Int) (Ls : List ((Int × Int) × (Int × Int))) (Hs : List (ByteArray × (Int × Int))) (s : Int × Int) : Int × Int := if peN S Ls Hs s = 0 then (peerO Ls s).getD (0, 0) else (0, 0)
def asN (S : Int) (Ls : List ((Int × Int) × (Int × Int))) (Hs : List (ByteArray × (Int × Int))) (s : Int × Int) : Int := if csN S Ls Hs s = 0 then (if (atO Hs s).isSome then 0 else 5) else csN S Ls Hs s
def asV (S : Int) (Ls : List ((Int × Int) × (Int × Int))) (Hs : List (ByteArray × (Int × Int))) (s : Int × Int) : ByteArray := if asN S Ls Hs s = 0 then (atO Hs s).getD ByteArray.empty else ByteArray.empty
def weN (S : Int) (Ls : List ((Int × Int) × (Int × Int))) (Hs : List (ByteArray × (Int × Int))) (n : ByteArray) : Int := if tpN S Ls Hs = 0 then (if (whereO Hs n).isSome then 0 else 5) else tpN S Ls Hs
def weV (S : Int) (Ls : List ((Int × Int) × (Int × Int))) (Hs : List (ByteArray × (Int × Int))) (n : ByteArray) : Int × Int := if weN S Ls Hs n = 0 then (whereO Hs n).getD (0, 0) else (0, 0)
/-- The fault of a question at switches. -/
def cwN (S : Int) (Ls : List ((Int × Int) × (Int × Int))) (Hs : List (ByteArray × (Int × Int))) (l : List Int) : Int := if tpN S Ls Hs = 0 then (if l.any fun a => !swB S a then 1 else 0) else tpN S Ls Hs
def neL (S : Int) (Ls : List ((Int × Int) × (Int × Int))) (Hs : List (ByteArray × (Int × Int))) (a : Int) : List Int := if cwN S Ls Hs [a] = 0 then nrL S Ls a else []
def fsN (S : Int) (Ls : List ((Int × Int) × (Int × Int))) (Hs : List (ByteArray × (Int × Int))) (a b : Int) : Int := if cwN S Ls Hs [a, b] = 0 then (if 0 ≤ faN S Ls a b then 0 else 5) else cwN S Ls Hs [a, b]
def fsV (S : Int) (Ls : List ((Int × Int) × (Int × Int))) (Hs : List (ByteArray × (Int × Int))) (a b : Int) : Int := if fsN S Ls Hs a b = 0 then faN S Ls a b else 0
theorem sw_of {S a : Int} : swB S a = true ↔ 1 ≤ a ∧ a ≤ S := by simp [swB]
theorem cw_0 {S : Int} {Ls : List ((Int × Int) × (Int × Int))} {Hs : List (ByteArray × (Int × Int))} {l : List Int} : cwN S Ls Hs l = 0 ↔ tpN S Ls Hs = 0 ∧ ∀ a ∈ l, 1 ≤ a ∧ a ≤ S := by
  unfold cwN
  by_cases h : tpN S Ls Hs = 0
  · rw [if_pos h]
    cases ha : l.any fun a => !swB S a
    · simp only [Bool.false_eq_true, if_false, true_iff]
      refine ⟨h, fun a hm => ?_⟩
      rw [List.any_eq_false] at ha
      have := ha a hm
      exact sw_of.1 (by simpa using this)
    · simp only [if_true]
      refine ⟨fun e => absurd e (by decide), fun ⟨_, e⟩ => ?_⟩
      rw [List.any_eq_true] at ha
      obtain ⟨a, hm, hn⟩ := ha
      have := sw_of.2 (e a hm)
      rw [this] at hn
      cases hn
  · rw [if_neg h]
    exact ⟨fun e => absurd e h, fun e => e.1⟩
theorem fs_0 {S : Int} {Ls : List ((Int × Int) × (Int × Int))} {Hs : List (ByteArray × (Int × Int))} {a b : Int} : fsN S Ls Hs a b = 0 ↔ (tpN S Ls Hs = 0 ∧ (1 ≤ a ∧ a ≤ S) ∧ (1 ≤ b ∧ b ≤ S)) ∧ 0 ≤ faN S Ls a b := by
  unfold fsN
  by_cases h : cwN S Ls Hs [a, b] = 0
  · rw [if_pos h]
    have h2 := cw_0.1 h
    have h3 : tpN S Ls Hs = 0 ∧ (1 ≤ a ∧ a ≤ S) ∧ (1 ≤ b ∧ b ≤ S) := ⟨h2.1, h2.2 a (by simp), h2.2 b (by simp)⟩
    by_cases hf : 0 ≤ faN S Ls a b
    · rw [if_pos hf]; exact ⟨fun _ => ⟨h3, hf⟩, fun _ => rfl⟩
    · rw [if_neg hf]; exact ⟨fun e => absurd e (by decide), fun e => absurd e.2 hf⟩
  · rw [if_neg h]
    refine ⟨fun e => absurd e h, fun e => absurd (cw_0.2 ⟨e.1.1, ?_⟩) h⟩
    intro x hx
    simp at hx
    rcases hx with rfl | rfl
    · exact e.1.2.1
    · exact e.1.2.2
/-- As far back. -/
theorem fs_sy (S : Int) (Ls : List ((Int × Int) × (Int × Int))) (Hs : List (ByteArray × (Int × Int))) (a b : Int) : (fsN S Ls Hs a b = 0 ↔ fsN S Ls Hs b a = 0) ∧ fsV S Ls Hs a b = fsV S Ls Hs b a := by
  have key : tpN S Ls Hs = 0 → (1 ≤ a ∧ a ≤ S) → (1 ≤ b ∧ b ≤ S) → faN S Ls a b = faN S Ls b a := fun h ha hb => by
    have := tp_0 h
    exact far_sy (fun x y => join_sy Ls x y) (by omega) (by omega) (by omega) (by omega) (by omega)
  have hi : fsN S Ls Hs a b = 0 ↔ fsN S Ls Hs b a = 0 := by
    rw [fs_0, fs_0]
    constructor
    · rintro ⟨⟨h, ha, hb⟩, hf⟩
      exact ⟨⟨h, hb, ha⟩, by rw [← key h ha hb]; exact hf⟩
    · rintro ⟨⟨h, hb, ha⟩, hf⟩
      exact ⟨⟨h, ha, hb⟩, by rw [key h ha hb]; exact hf⟩
  refine ⟨hi, ?_⟩
  unfold fsV
  by_cases h : fsN S Ls Hs a b = 0
  · rw [if_pos h, if_pos (hi.1 h)]
    have h2 := (fs_0.1 h).1
    exact key h2.1 h2.2.1 h2.2.2
  · rw [if_neg h, if_neg (fun e => h (hi.2 e))]
/-- By a third one no nearer. -/
theorem fs_tr {S : Int} {Ls : List ((Int × Int) × (Int × Int))} {Hs : List (ByteArray × (Int × Int))} {a b c : Int} (h1 : fsN S Ls Hs a c = 0) (h2 : fsN S Ls Hs c b = 0) : fsN S Ls Hs a b = 0 ∧ fsV S Ls Hs a b ≤ fsV S Ls Hs a c + fsV S Ls Hs c b := by
  have k1 := fs_0.1 h1
  have k2 := fs_0.1 h2
  have ht := tp_0 k1.1.1
  have h3 := far_tr (S := S.toNat) (J := fun x y => joinB Ls x y) (a := a.toNat) (b := b.toNat) (c := c.toNat) (by omega) (by omega) (by omega) (by omega) (by omega) k1.2 k2.2
  have h4 : fsN S Ls Hs a b = 0 := fs_0.2 ⟨⟨k1.1.1, k1.1.2.1, k2.1.2.2⟩, h3.1⟩
  refine ⟨h4, ?_⟩
  unfold fsV
  rw [if_pos h4, if_pos h1, if_pos h2]
  exact h3.2
/-- No way at all to itself alone. -/
theorem fs_same {S : Int} {Ls : List ((Int × Int) × (Int × Int))} {Hs : List (ByteArray × (Int × Int))} {a b : Int} (h : fsN S Ls Hs a b = 0) : 0 < fsV S Ls Hs a b ∨ a = b := by
  have k := fs_0.1 h
  have ht := tp_0 k.1.1
  unfold fsV
  rw [if_pos h]
  by_cases e : faN S Ls a b = 0
  · right
    have := (far_0 (S := S.toNat) (J := fun x y => joinB Ls x y) (a := a.toNat) (b := b.toNat) (by omega) (by omega) (by omega)).1 e
    omega
  · left
    have := k.2
    omega
theorem fa_lt (S : Int) (Ls : List ((Int × Int) × (Int × Int))) (a b : Int) : -1 ≤ faN S Ls a b ∧ faN S Ls a b ≤ 6 := by
  rcases fst_or (p := fun n => rcB S.toNat (fun x y => joinB Ls x y) a.toNat n b.toNat) (k := 7) (n := 0) with ⟨e, _⟩ | ⟨m, _, hm, e, _⟩
  · have : faN S Ls a b = -1 := e
    omega
  · have : faN S Ls a b = m := e
    omega
theorem fv_lt (S : Int) (Ls : List ((Int × Int) × (Int × Int))) (Hs : List (ByteArray × (Int × Int))) (a b : Int) : 0 ≤ fsV S Ls Hs a b ∧ fsV S Ls Hs a b ≤ 6 := by
  unfold fsV
  by_cases h : fsN S Ls Hs a b = 0
  · rw [if_pos h]
    have := (fs_0.1 h).2
    have := fa_lt S Ls a b
    omega
  · rw [if_neg h]; omega
end Go.Proofs.Ytmpjoepfgfbjmaa
/- Nets in plain lists: what is wrong with one, where a packet goes out, what becomes of it. No program in it. -/
namespace Go.Proofs.Ytmpjoepfgfbjmaa
open Go.RowKit
set_option linter.unusedVariables false

/-- The fault of the first k tables. -/
def tsTo (Ts : List (List Ru)) : Nat → Int
  | 0 => 0
  | k + 1 => if tsTo Ts k = 0 then tbN (Ts.getD k []) else tsTo Ts k
theorem ts_le {Ts : List (List Ru)} {k : Nat} (h : tsTo Ts k ≠ 0) : ∀ {n : Nat}, k ≤ n → tsTo Ts n = tsTo Ts k
  | 0, hn => by
    obtain rfl : k = 0 := by omega
    rfl
  | n + 1, hn => by
    by_cases e : k = n + 1
    · subst e; rfl
    · have := ts_le h (show k ≤ n by omega)
      rw [tsTo, if_neg (by rw [this]; exact h), this]
/-- The fault of a net. -/
def ntN (S : Int) (Ls : List ((Int × Int) × (Int × Int))) (Hs : List (ByteArray × (Int × Int))) (Ts : List (List Ru)) : Int :=
  if tpN S Ls Hs = 0 then (if (Ts.length : Int) = S then tsTo Ts Ts.length else 3) else tpN S Ls Hs
theorem ts_0 {Ts : List (List Ru)} : ∀ {n : Nat}, tsTo Ts n = 0 → ∀ k, k < n → tbN (Ts.getD k []) = 0
  | 0, _, k, hk => by omega
  | n + 1, h, k, hk => by
    unfold tsTo at h
    by_cases e : tsTo Ts n = 0
    · rw [if_pos e] at h
      by_cases ek : k = n
      · subst ek; exact h
      · exact ts_0 e k (by omega)
    · rw [if_neg e] at h
      exact absurd h e
theorem nt_0 {S : Int} {Ls : List ((Int × Int) × (Int × Int))} {Hs : List (ByteArray × (Int × Int))} {Ts : List (List Ru)} (h : ntN S Ls Hs Ts = 0) : tpN S Ls Hs = 0 ∧ (Ts.length : Int) = S ∧ ∀ k, k < Ts.length → tbN (Ts.getD k []) = 0 := by
  unfold ntN at h
  by_cases e : tpN S Ls Hs = 0
  · rw [if_pos e] at h
    by_cases e2 : (Ts.length : Int) = S
    · rw [if_pos e2] at h
      exact ⟨e, e2, ts_0 h⟩
    · rw [if_neg e2] at h
      omega
  · rw [if_neg e] at h
    exact absurd h e
/-- The fault of a packet: of the net, else of the spot or the header. -/
def cpN (S : Int) (Ls : List ((Int × Int) × (Int × Int))) (Hs : List (ByteArray × (Int × Int))) (Ts : List (List Ru)) (s : Int × Int) (h : Int) : Int :=
  if ntN S Ls Hs Ts = 0 then (if spB S s && hdrB h then 0 else 1) else ntN S Ls Hs Ts
theorem cp_0 {S : Int} {Ls : List ((Int × Int) × (Int × Int))} {Hs : List (ByteArray × (Int × Int))} {Ts : List (List Ru)} {s : Int × Int} {h : Int} (e : cpN S Ls Hs Ts s h = 0) : ntN S Ls Hs Ts = 0 ∧ spB S s = true ∧ hdrB h = true := by
  unfold cpN at e
  by_cases e1 : ntN S Ls Hs Ts = 0
  · rw [if_pos e1] at e
    cases e2 : spB S s && hdrB h
    · rw [e2] at e
      simp at e
    · rw [Bool.and_eq_true] at e2
      exact ⟨e1, e2.1, e2.2⟩
  · rw [if_neg e1] at e
    exact absurd e e1

/-- The rule that counts, if one does, in a table. -/
def roR (t : List Ru) (h : Int) : Ru := t.getD (luI t h).toNat zeR
def Ru.apN (r : Ru) (h : Int) : Int := Proofs.Ytmpjoepfgfbjmaa.apN r.p r.m r.b r.o r.s r.v h
def Ru.apR (r : Ru) (h : Int) : Int := Proofs.Ytmpjoepfgfbjmaa.apR r.p r.m r.b r.o r.s r.v h
/-- Where, and with which header, a packet goes out that a table meets. -/
def stT (t : List Ru) (p : (Int × Int) × Int) : Option ((Int × Int) × Int) :=
  if luN t p.2 = 0 then (if (roR t p.2).apN p.2 = 0 then some ((p.1.1, (roR t p.2).o), (roR t p.2).apR p.2) else none) else none
def taT (Ts : List (List Ru)) (s : Int) : List Ru := Ts.getD (s - 1).toNat []
def stO (Ts : List (List Ru)) (p : (Int × Int) × Int) : Option ((Int × Int) × Int) := stT (taT Ts p.1.1) p
/-- Are two hops the same? -/
def heB (a b : (Int × Int) × Int) : Bool := (a.1.1 == b.1.1) && ((a.1.2 == b.1.2) && ((a.2 == b.2)))
theorem heB_iff (a b : (Int × Int) × Int) : heB a b = true ↔ a = b := by
  obtain ⟨⟨a1, a2⟩, a3⟩ := a
  obtain ⟨⟨b1, b2⟩, b3⟩ := b
  simp [heB, and_assoc]
/-- What becomes of a packet at its last hop: it ends so, or there is a next hop. -/
def goE (Ls : List ((Int × Int) × (Int × Int))) (Hs : List (ByteArray × (Int × Int))) (t : List Ru) (l : List ((Int × Int) × Int)) (p : (Int × Int) × Int) : (Int × ByteArray) ⊕ ((Int × Int) × Int) :=
  match stT t p with
  | none => .inl (2, ByteArray.empty)
  | some q => match atO Hs q.1 with
    | some m => .inl (1, m)
    | none => match peerO Ls q.1 with
      | none => .inl (3, ByteArray.empty)
      | some s => if l.length = 24 ∨ l.any (fun x => heB (s, q.2) x) = true then .inl (4, ByteArray.empty) else .inr (s, q.2)
def zeH : (Int × Int) × Int := ((0, 0), 0)
def laH (l : List ((Int × Int) × Int)) : (Int × Int) × Int := l.getD (l.length - 1) zeH
/-- What becomes of a packet that has had these hops. -/
def foF (Ls : List ((Int × Int) × (Int × Int))) (Hs : List (ByteArray × (Int × Int))) (Ts : List (List Ru)) : Nat → List ((Int × Int) × Int) → Int × ByteArray × List ((Int × Int) × Int)
  | 0, l => (4, ByteArray.empty, l)
  | n + 1, l => match goE Ls Hs (taT Ts (laH l).1.1) l (laH l) with
    | .inl e => (e.1, e.2, l)
    | .inr p => foF Ls Hs Ts n (l ++ [p])
/-- What becomes of a packet that comes in. -/
def frF (Ls : List ((Int × Int) × (Int × Int))) (Hs : List (ByteArray × (Int × Int))) (Ts : List (List Ru)) (s : Int × Int) (h : Int) : Int × ByteArray × List ((Int × Int) × Int) := foF Ls Hs Ts 24 [(s, h)]
/-- No fate at all. -/
def zeF : Int × ByteArray × List ((Int × Int) × Int) := (0, ByteArray.empty, [])
/-- The answers. -/
def spN (S : Int) (Ls : List ((Int × Int) × (Int × Int))) (Hs : List (ByteArray × (Int × Int))) (Ts : List (List Ru)) (s : Int × Int) (h : Int) : Int :=
  if cpN S Ls Hs Ts s h = 0 then (if (stO Ts (s, h)).isSome then 0 else 5) else cpN S Ls Hs Ts s h
def spV (S : Int) (Ls : List ((Int × Int) × (Int × Int))) (Hs : List (ByteArray × (Int × Int))) (Ts : List (List Ru)) (s : Int × Int) (h : Int) : (Int × Int) × Int :=
  if cpN S Ls Hs Ts s h = 0 then (stO Ts (s, h)).getD zeH else zeH
def frV (S : Int) (Ls : List ((Int × Int) × (Int × Int))) (Hs : List (ByteArray × (Int × Int))) (Ts : List (List Ru)) (s : Int × Int) (h : Int) : Int × ByteArray × List ((Int × Int) × Int) :=
  if cpN S Ls Hs Ts s h = 0 then frF Ls Hs Ts s h else zeF
def seN (S : Int) (Ls : List ((Int × Int) × (Int × Int))) (Hs : List (ByteArray × (Int × Int))) (Ts : List (List Ru)) (m : ByteArray) (h : Int) : Int :=
  if ntN S Ls Hs Ts = 0 then (if weN S Ls Hs m = 0 then (if hdrB h then 0 else 1) else weN S Ls Hs m) else ntN S Ls Hs Ts
def seV (S : Int) (Ls : List ((Int × Int) × (Int × Int))) (Hs : List (ByteArray × (Int × Int))) (Ts : List (List Ru)) (m : ByteArray) (h : Int) : Int × ByteArray × List ((Int × Int) × Int) :=
  if seN S Ls Hs Ts m h = 0 then frF Ls Hs Ts (weV S Ls Hs m) h else zeF
end Go.Proofs.Ytmpjoepfgfbjmaa
/- The struct api.Spot: its cells, slices of them, == of two, such that came in. Written by mk/struct.py. -/
namespace Go.Proofs.Ytmpjoepfgfbjmaa
open Go.ChangeShapes Go.WideShapes Go.ChangeAt Go.RowKit Go.Joins
set_option linter.unusedSimpArgs false
set_option linter.unusedVariables false
set_option maxRecDepth 100000

def spoE : Enc (Int × Int) where
  c := fun x => [.int .i64 x.1, .int .i64 x.2]
  n := 2
  len := fun _ => rfl
  pos := by decide
  one := by
    intro x u hu
    simp at hu
    rcases hu with rfl | rfl <;> rfl
theorem spo_cells {w : World} {g o : Nat} {x0 : Int} {x1 : Int} (h : VAt w g o (spoE.c (x0, x1))) : w.cell? ⟨g, o, none⟩ = some (.int .i64 x0) ∧ w.cell? ⟨g, o + 1, none⟩ = some (.int .i64 x1) :=
  ⟨h 0 _ rfl, h 1 _ rfl⟩
theorem spo_at {w : World} {g o : Nat} {L : List (Int × Int)} (h : GAt spoE w g o L) {n k : Nat} (hn : L.length = n) (hk : k < n) :
    ∃ (x0 : Int) (x1 : Int) (hl : k < L.length), L[k] = (x0, x1) ∧ w.cell? ⟨g, o + k * 2, none⟩ = some (.int .i64 x0) ∧ w.cell? ⟨g, o + k * 2 + 1, none⟩ = some (.int .i64 x1) :=
  have hl : k < L.length := by omega
  ⟨_, _, hl, rfl, spo_cells (h k hl)⟩
theorem spo_new (w : World) (x0 : Int) (x1 : Int) (t : TypeId) : VAt (w.alloc (Obj.cells #[.int .i64 x0, .int .i64 x1] t)) w.heap.size 0 (spoE.c (x0, x1)) := vat_new w [.int .i64 x0, .int .i64 x1] t
theorem spo_row (w : World) (x0 : Int) (x1 : Int) (t : TypeId) : GS spoE (w.alloc (Obj.cells #[.int .i64 x0, .int .i64 x1] t)) (.slice (some ⟨w.heap.size, 0, none⟩) 1 1) [(x0, x1)] := gs_one (E := spoE) w (x0, x1) t (vs := [.int .i64 x0, .int .i64 x1]) rfl
/-- Are two the same? -/
def spoB (a b : Int × Int) : Bool := (a.1 == b.1) && ((a.2 == b.2))
theorem spoB_iff (a b : Int × Int) : spoB a b = true ↔ a = b := by
  have e : spoB a b = ((a.1 == b.1) && ((a.2 == b.2))) := rfl
  rw [e]
  simp only [Bool.and_eq_true, beq_iff_eq]
  constructor
  · intro h
    obtain ⟨a0, a1⟩ := a; obtain ⟨b0, b1⟩ := b; simp at h ⊢; simp [h]
  · intro h
    subst h
    simp
theorem spo_ways (x0 : Int) (x1 : Int) (y0 : Int) (y1 : Int) :
    ((x0 == y0) = false ∧ spoB (x0, x1) (y0, y1) = false) ∨
    ((x0 == y0) = true ∧ (x1 == y1) = false ∧ spoB (x0, x1) (y0, y1) = false) ∨
    ((x0 == y0) = true ∧ (x1 == y1) = true ∧ spoB (x0, x1) (y0, y1) = true) := by
  have e : spoB (x0, x1) (y0, y1) = ((x0 == y0) && ((x1 == y1))) := rfl
  rw [e]
  cases h0 : (x0 == y0)
  · simp
  · skip
    cases h1 : (x1 == y1)
    · simp
    · skip
      simp
set_option maxRecDepth 100000 in
theorem spo_eq (x0 : Int) (x1 : Int) (y0 : Int) (y1 : Int) (w : World) : (Op.equal 45 (.agg #[.int .i64 x0, .int .i64 x1]) (.agg #[.int .i64 y0, .int .i64 y1])).run Try.prog w = .ok (spoB (x0, x1) (y0, y1)) w := by
  unfold Op.equal Op.maxDepth
  rw [run_equalIn_struct w 9999 _ _ _ (by kernel_rfl) (by kernel_rfl)]
  rcases spo_ways x0 x1 y0 y1 with ⟨e0, e⟩ | ⟨e0, e1, e⟩ | ⟨e0, e1, e⟩
  all_goals
    rw [e]
    go_simp
theorem spo_info : (Try.prog.info? 45).map (fun i => (i.zero, i.size, i.bytes)) = some (some (.agg #[.int .i64 0, .int .i64 0]), 2, 16) := by kernel_rfl
theorem spo_zero : (Value.agg #[.int .i64 0, .int .i64 0]).cells.size = 2 := by simp [Value.cells]
/-- Cells that read as one. -/
theorem spo_open {H : Type} {enc : TypeId × Value → H} {W : World} {n : Nat} {cs : List Value} {x : DataW H × List MemPlace}
    (h : DataW.trod enc Try.prog W 0 (fun _ => true) true n 45 cs = some x) : ∃ y, cs = spoE.c y := by
  obtain ⟨xs, k, _, _, hl, hlen, hf⟩ := DataW.trod_struct Try.underlying45 h
  have hC : Try.prog.cellsOf 45 = 2 := by kernel_rfl
  have hT0 : Try.prog.cellsOf 3 = 1 := by kernel_rfl
  rw [hC] at hl
  match cs, hl with
  | [c0, c1], _ =>
    match xs, hlen with
    | [z0, z1], _ =>
      have g0 := hf 0 _ rfl
      have g1 := hf 1 _ rfl
      simp [hT0] at g0 g1
      obtain ⟨v0, e0, _, _⟩ := DataW.trod_int Try.underlying3 g0
      obtain ⟨v1, e1, _, _⟩ := DataW.trod_int Try.underlying3 g1
      simp [] at e0 e1
      refine ⟨(v0, v1), ?_⟩
      simp [spoE, e0, e1]
set_option maxRecDepth 100000 in
/-- One that came in. -/
theorem spo_of {H : Type} {enc : TypeId × Value → H} {W : World} {base : Nat} {v : Value} {d : DataW H} {p : List MemPlace}
    (hv : Value.okWide Try.prog W .any base 45 v) (h : DataW.Trod enc Try.prog W 0 (fun _ => true) true 45 v d p) : ∃ (x0 : Int) (x1 : Int), v = .agg #[.int .i64 x0, .int .i64 x1] := by
  obtain ⟨cs, rfl, hsz⟩ := okWide_struct Try.underlying45 hv
  obtain ⟨n, hn⟩ := h
  obtain ⟨y, e⟩ := spo_open hn
  refine ⟨y.1, y.2, ?_⟩
  simp only [Value.cells] at e
  have e2 : cs = #[.int .i64 y.1, .int .i64 y.2] := by
    rw [← Array.toArray_toList (xs := cs), e]
    rfl
  rw [e2]
end Go.Proofs.Ytmpjoepfgfbjmaa
/- The struct api.Host: its cells, slices of them, == of two, such that came in. Written by mk/struct.py. -/
namespace Go.Proofs.Ytmpjoepfgfbjmaa
open Go.ChangeShapes Go.WideShapes Go.ChangeAt Go.RowKit Go.Joins
set_option linter.unusedSimpArgs false
set_option linter.unusedVariables false
set_option maxRecDepth 100000

def hstE : Enc (ByteArray × (Int × Int)) where
  c := fun x => [.string x.1, .int .i64 x.2.1, .int .i64 x.2.2]
  n := 3
  len := fun _ => rfl
  pos := by decide
  one := by
    intro x u hu
    simp at hu
    rcases hu with rfl | rfl | rfl <;> rfl
theorem hst_cells {w : World} {g o : Nat} {x0 : ByteArray} {x1 : Int} {x2 : Int} (h : VAt w g o (hstE.c (x0, (x1, x2)))) : w.cell? ⟨g, o, none⟩ = some (.string x0) ∧ w.cell? ⟨g, o + 1, none⟩ = some (.int .i64 x1) ∧ w.cell? ⟨g, o + 2, none⟩ = some (.int .i64 x2) :=
  ⟨h 0 _ rfl, h 1 _ rfl, h 2 _ rfl⟩
theorem hst_at {w : World} {g o : Nat} {L : List (ByteArray × (Int × Int))} (h : GAt hstE w g o L) {n k : Nat} (hn : L.length = n) (hk : k < n) :
    ∃ (x0 : ByteArray) (x1 : Int) (x2 : Int) (hl : k < L.length), L[k] = (x0, (x1, x2)) ∧ w.cell? ⟨g, o + k * 3, none⟩ = some (.string x0) ∧ w.cell? ⟨g, o + k * 3 + 1, none⟩ = some (.int .i64 x1) ∧ w.cell? ⟨g, o + k * 3 + 2, none⟩ = some (.int .i64 x2) :=
  have hl : k < L.length := by omega
  ⟨_, _, _, hl, rfl, hst_cells (h k hl)⟩
theorem hst_new (w : World) (x0 : ByteArray) (x1 : Int) (x2 : Int) (t : TypeId) : VAt (w.alloc (Obj.cells #[.string x0, .int .i64 x1, .int .i64 x2] t)) w.heap.size 0 (hstE.c (x0, (x1, x2))) := vat_new w [.string x0, .int .i64 x1, .int .i64 x2] t
theorem hst_row (w : World) (x0 : ByteArray) (x1 : Int) (x2 : Int) (t : TypeId) : GS hstE (w.alloc (Obj.cells #[.string x0, .int .i64 x1, .int .i64 x2] t)) (.slice (some ⟨w.heap.size, 0, none⟩) 1 1) [(x0, (x1, x2))] := gs_one (E := hstE) w (x0, (x1, x2)) t (vs := [.string x0, .int .i64 x1, .int .i64 x2]) rfl
/-- Are two the same? -/
def hstB (a b : ByteArray × (Int × Int)) : Bool := (a.1 == b.1) && ((a.2.1 == b.2.1) && ((a.2.2 == b.2.2)))
theorem hst_ways (x0 : ByteArray) (x1 : Int) (x2 : Int) (y0 : ByteArray) (y1 : Int) (y2 : Int) :
    ((x0.toList == y0.toList) = false ∧ hstB (x0, (x1, x2)) (y0, (y1, y2)) = false) ∨
    ((x0.toList == y0.toList) = true ∧ (x1 == y1) = false ∧ hstB (x0, (x1, x2)) (y0, (y1, y2)) = false) ∨
    ((x0.toList == y0.toList) = true ∧ (x1 == y1) = true ∧ (x2 == y2) = false ∧ hstB (x0, (x1, x2)) (y0, (y1, y2)) = false) ∨
    ((x0.toList == y0.toList) = true ∧ (x1 == y1) = true ∧ (x2 == y2) = true ∧ hstB (x0, (x1, x2)) (y0, (y1, y2)) = true) := by
  have e : hstB (x0, (x1, x2)) (y0, (y1, y2)) = ((x0.toList == y0.toList) && ((x1 == y1) && ((x2 == y2)))) := by simp only [hstB, beq_toListBytes]
  rw [e]
  cases h0 : (x0.toList == y0.toList)
  · simp
  · skip
    cases h1 : (x1 == y1)
    · simp
    · skip
      cases h2 : (x2 == y2)
      · simp
      · skip
        simp
set_option maxRecDepth 100000 in
theorem hst_eq (x0 : ByteArray) (x1 : Int) (x2 : Int) (y0 : ByteArray) (y1 : Int) (y2 : Int) (w : World) : (Op.equal 47 (.agg #[.string x0, .int .i64 x1, .int .i64 x2]) (.agg #[.string y0, .int .i64 y1, .int .i64 y2])).run Try.prog w = .ok (hstB (x0, (x1, x2)) (y0, (y1, y2))) w := by
  unfold Op.equal Op.maxDepth
  rw [run_equalIn_struct w 9999 _ _ _ (by kernel_rfl) (by kernel_rfl)]
  rcases hst_ways x0 x1 x2 y0 y1 y2 with ⟨e0, e⟩ | ⟨e0, e1, e⟩ | ⟨e0, e1, e2, e⟩ | ⟨e0, e1, e2, e⟩
  all_goals
    rw [e]
    go_simp
theorem hst_info : (Try.prog.info? 47).map (fun i => (i.zero, i.size, i.bytes)) = some (some (.agg #[.string ByteArray.empty, .int .i64 0, .int .i64 0]), 3, 32) := by kernel_rfl
theorem hst_zero : (Value.agg #[.string ByteArray.empty, .int .i64 0, .int .i64 0]).cells.size = 3 := by simp [Value.cells]
/-- Cells that read as one. -/
theorem hst_open {H : Type} {enc : TypeId × Value → H} {W : World} {n : Nat} {cs : List Value} {x : DataW H × List MemPlace}
    (h : DataW.trod enc Try.prog W 0 (fun _ => true) true n 47 cs = some x) : ∃ y, cs = hstE.c y := by
  obtain ⟨xs, k, _, _, hl, hlen, hf⟩ := DataW.trod_struct Try.underlying47 h
  have hC : Try.prog.cellsOf 47 = 3 := by kernel_rfl
  have hT0 : Try.prog.cellsOf 9 = 1 := by kernel_rfl
  have hT1 : Try.prog.cellsOf 45 = 2 := by kernel_rfl
  rw [hC] at hl
  match cs, hl with
  | [c0, c1, c2], _ =>
    match xs, hlen with
    | [z0, z1], _ =>
      have g0 := hf 0 _ rfl
      have g1 := hf 1 _ rfl
      simp [hT0, hT1] at g0 g1
      obtain ⟨v0, e0, _, _⟩ := DataW.trod_string Try.underlying9 g0
      obtain ⟨s1, e1⟩ := spo_open g1
      simp [spoE] at e0 e1
      refine ⟨(v0, (s1.1, s1.2)), ?_⟩
      simp [hstE, e0, e1]
set_option maxRecDepth 100000 in
/-- One that came in. -/
theorem hst_of {H : Type} {enc : TypeId × Value → H} {W : World} {base : Nat} {v : Value} {d : DataW H} {p : List MemPlace}
    (hv : Value.okWide Try.prog W .any base 47 v) (h : DataW.Trod enc Try.prog W 0 (fun _ => true) true 47 v d p) : ∃ (x0 : ByteArray) (x1 : Int) (x2 : Int), v = .agg #[.string x0, .int .i64 x1, .int .i64 x2] := by
  obtain ⟨cs, rfl, hsz⟩ := okWide_struct Try.underlying47 hv
  obtain ⟨n, hn⟩ := h
  obtain ⟨y, e⟩ := hst_open hn
  refine ⟨y.1, y.2.1, y.2.2, ?_⟩
  simp only [Value.cells] at e
  have e2 : cs = #[.string y.1, .int .i64 y.2.1, .int .i64 y.2.2] := by
    rw [← Array.toArray_toList (xs := cs), e]
    rfl
  rw [e2]
/-- A slice of them that came in. -/
theorem hsts_of {H : Type} {enc : TypeId × Value → H} {W : World} {base : Nat} {v : Value} {d : DataW H} {p : List MemPlace}
    (hv : Value.okWide Try.prog W .any base 23 v) (h : DataW.Trod enc Try.prog W 0 (fun _ => true) true 23 v d p) : ∃ L, GS hstE W v L :=
  gs_of (E := hstE) 23 47 Try.underlying23 (by kernel_rfl) (ByteArray.empty, (0, 0)) (fun _ _ _ h => hst_open h) hv h
end Go.Proofs.Ytmpjoepfgfbjmaa
/- Fates in order, each once: plain lists. No program in it. -/
namespace Go.Proofs.Ytmpjoepfgfbjmaa
open Go.RowKit
set_option linter.unusedVariables false
set_option linter.unusedSimpArgs false

/-- A strict order in which two are the same if none is ahead. -/
structure LO {α : Type} (r : α → α → Bool) : Prop where
  irr : ∀ a, r a a = false
  tr : ∀ a b c, r a b = true → r b c = true → r a c = true
  tot : ∀ a b, r a b = false → r b a = false → a = b
theorem LO.asy {α : Type} {r : α → α → Bool} (h : LO r) {a b : α} (hab : r a b = true) : r b a = false := by
  cases e : r b a
  · rfl
  · have := h.tr a b a hab e
    rw [h.irr] at this
    cases this
theorem lo_int : LO (fun (a b : Int) => decide (a < b)) := ⟨by simp, fun a b c h1 h2 => by simp at *; omega, fun a b h1 h2 => by simp at *; omega⟩
theorem lo_u8 : LO (fun (a b : UInt8) => decide (a < b)) := by
  refine ⟨by simp, fun a b c h1 h2 => ?_, fun a b h1 h2 => ?_⟩
  · simp only [decide_eq_true_eq] at *
    exact UInt8.lt_trans h1 h2
  · simp only [decide_eq_false_iff_not, UInt8.not_lt] at *
    exact UInt8.le_antisymm h2 h1
/-- By the one, then by the other. -/
def lexP {α β : Type} [DecidableEq α] (r : α → α → Bool) (s : β → β → Bool) (a b : α × β) : Bool := if a.1 = b.1 then s a.2 b.2 else r a.1 b.1
theorem lo_pair {α β : Type} [DecidableEq α] {r : α → α → Bool} {s : β → β → Bool} (hr : LO r) (hs : LO s) : LO (lexP r s) := by
  refine ⟨fun a => by simp [lexP, hs.irr], fun a b c h1 h2 => ?_, fun a b h1 h2 => ?_⟩
  · unfold lexP at *
    by_cases e1 : a.1 = b.1
    · rw [if_pos e1] at h1
      by_cases e2 : b.1 = c.1
      · rw [if_pos e2] at h2
        rw [if_pos (e1.trans e2)]
        exact hs.tr _ _ _ h1 h2
      · rw [if_neg e2] at h2
        rw [if_neg (by rw [e1]; exact e2), e1]
        exact h2
    · rw [if_neg e1] at h1
      by_cases e2 : b.1 = c.1
      · rw [if_pos e2] at h2
        rw [if_neg (by rw [← e2]; exact e1), ← e2]
        exact h1
      · rw [if_neg e2] at h2
        have h3 := hr.tr _ _ _ h1 h2
        by_cases e3 : a.1 = c.1
        · rw [e3, hr.irr] at h3
          cases h3
        · rw [if_neg e3]
          exact h3
  · unfold lexP at *
    by_cases e1 : a.1 = b.1
    · rw [if_pos e1] at h1
      rw [if_pos e1.symm] at h2
      exact Prod.ext e1 (hs.tot _ _ h1 h2)
    · rw [if_neg e1] at h1
      rw [if_neg (fun e => e1 e.symm)] at h2
      exact absurd (hr.tot _ _ h1 h2) e1
/-- From the first on; a beginning ahead of the longer one. -/
def lexL {α : Type} [DecidableEq α] (r : α → α → Bool) : List α → List α → Bool
  | _, [] => false
  | [], _ :: _ => true
  | a :: x, b :: y => if a = b then lexL r x y else r a b
theorem lo_list {α : Type} [DecidableEq α] {r : α → α → Bool} (hr : LO r) : LO (lexL r) := by
  refine ⟨fun l => ?_, fun a => ?_, fun a => ?_⟩
  · induction l with
    | nil => rfl
    | cons x l ih => simp [lexL, ih]
  · induction a with
    | nil =>
      intro b c h1 h2
      cases b with
      | nil => cases c <;> simp [lexL] at *
      | cons y b =>
        cases c with
        | nil => simp [lexL] at h2
        | cons z c => rfl
    | cons x a ih =>
      intro b c h1 h2
      cases b with
      | nil => simp [lexL] at h1
      | cons y b =>
        cases c with
        | nil => simp [lexL] at h2
        | cons z c =>
          rw [lexL] at *
          by_cases e1 : x = y
          · rw [if_pos e1] at h1
            by_cases e2 : y = z
            · rw [if_pos e2] at h2
              rw [if_pos (e1.trans e2)]
              exact ih _ _ h1 h2
            · rw [if_neg e2] at h2
              rw [if_neg (by rw [e1]; exact e2), e1]
              exact h2
          · rw [if_neg e1] at h1
            by_cases e2 : y = z
            · rw [if_pos e2] at h2
              rw [if_neg (by rw [← e2]; exact e1), ← e2]
              exact h1
            · rw [if_neg e2] at h2
              have h3 := hr.tr _ _ _ h1 h2
              by_cases e3 : x = z
              · rw [e3, hr.irr] at h3
                cases h3
              · rw [if_neg e3]
                exact h3
  · induction a with
    | nil =>
      intro b h1 h2
      cases b with
      | nil => rfl
      | cons y b => simp [lexL] at h1
    | cons x a ih =>
      intro b h1 h2
      cases b with
      | nil => simp [lexL] at h2
      | cons y b =>
        rw [lexL] at h1 h2
        by_cases e1 : x = y
        · rw [if_pos e1] at h1
          rw [if_pos e1.symm] at h2
          rw [e1, ih _ h1 h2]
        · rw [if_neg e1] at h1
          rw [if_neg (fun e => e1 e.symm)] at h2
          exact absurd (hr.tot _ _ h1 h2) e1
theorem bytes_lex : ∀ x y : List UInt8, Op.bytesLess x y = lexL (fun (a b : UInt8) => decide (a < b)) x y
  | _, [] => by simp [Op.bytesLess, lexL]
  | [], _ :: _ => by simp [Op.bytesLess, lexL]
  | a :: x, b :: y => by
    rw [Op.bytesLess, lexL, bytes_lex x y]
    by_cases e : a = b
    · subst e
      simp
    · rw [if_neg e]
      simp [e]
theorem nm_loop (b : ByteArray) : ∀ (k i : Nat) (r : List UInt8), b.size - i = k → ByteArray.toList.loop b i r = r.reverse ++ b.data.toList.drop i
  | 0, i, r, h => by
    rw [ByteArray.toList.loop, if_neg (by omega)]
    have e : b.data.toList.length ≤ i := by rw [Array.length_toList]; show b.size ≤ i; omega
    rw [List.drop_eq_nil_of_le e, List.append_nil]
  | k + 1, i, r, h => by
    have hi : i < b.size := by omega
    rw [ByteArray.toList.loop, if_pos hi, nm_loop b k (i + 1) _ (by omega)]
    have hl : i < b.data.toList.length := by rw [Array.length_toList]; exact hi
    rw [List.drop_eq_getElem_cons hl, List.reverse_cons, List.append_assoc]
    have e : b.get! i = b.data.toList[i] := by
      rw [Array.getElem_toList]
      show b.data[i]! = b.data[i]
      exact getElem!_pos b.data i hi
    rw [e]
    rfl
theorem nm_list (b : ByteArray) : b.toList = b.data.toList := by
  show ByteArray.toList.loop b 0 [] = _
  rw [nm_loop b _ 0 [] rfl]
  simp
theorem nm_inj {a b : ByteArray} (h : a.toList = b.toList) : a = b := by
  rw [nm_list, nm_list] at h
  exact ByteArray.ext (Array.toList_inj.1 h)
/-- Names: by their bytes. -/
def nmL (a b : ByteArray) : Bool := Op.bytesLess a.toList b.toList
theorem lo_name : LO nmL := by
  have h := lo_list lo_u8
  refine ⟨fun a => ?_, fun a b c h1 h2 => ?_, fun a b h1 h2 => ?_⟩
  · rw [nmL, bytes_lex]; exact h.irr _
  · rw [nmL, bytes_lex] at *; exact h.tr _ _ _ h1 h2
  · rw [nmL, bytes_lex] at h1 h2
    have e := h.tot _ _ h1 h2
    exact nm_inj e
/-- One fate ahead of another one: by How, Host, then Hops. -/
def faL : (Int × ByteArray × List ((Int × Int) × Int)) → (Int × ByteArray × List ((Int × Int) × Int)) → Bool :=
  lexP (fun (a b : Int) => decide (a < b)) (lexP nmL (lexL (lexP (lexP (fun (a b : Int) => decide (a < b)) (fun (a b : Int) => decide (a < b))) (fun (a b : Int) => decide (a < b)))))
theorem lo_fate : LO faL := lo_pair lo_int (lo_pair lo_name (lo_list (lo_pair (lo_pair lo_int lo_int) lo_int)))

/-- Each once, rising. -/
def Ris {α : Type} (r : α → α → Bool) (l : List α) : Prop := l.Pairwise fun a b => r a b = true
/-- Two that have the same, each once and rising, are one. -/
theorem ris_ext {α : Type} {r : α → α → Bool} (hr : LO r) : ∀ {l m : List α}, Ris r l → Ris r m → (∀ x, x ∈ l ↔ x ∈ m) → l = m
  | [], [], _, _, _ => rfl
  | [], y :: m, _, _, h => by have := (h y).2 (by simp); simp at this
  | x :: l, [], _, _, h => by have := (h x).1 (by simp); simp at this
  | x :: l, y :: m, h1, h2, h => by
    have a1 := List.pairwise_cons.1 h1
    have a2 := List.pairwise_cons.1 h2
    have e : x = y := by
      rcases List.mem_cons.1 ((h x).1 (by simp)) with e | hx
      · exact e
      · rcases List.mem_cons.1 ((h y).2 (by simp)) with e | hy
        · exact e.symm
        · have b1 := a1.1 y hy
          have b2 := a2.1 x hx
          rw [hr.asy b1] at b2
          cases b2
    subst e
    rw [ris_ext hr a1.2 a2.2 (fun z => ?_)]
    have hz := h z
    constructor
    · intro hm
      rcases List.mem_cons.1 (hz.1 (List.mem_cons_of_mem _ hm)) with e | e
      · subst e
        have := a1.1 z hm
        rw [hr.irr] at this
        cases this
      · exact e
    · intro hm
      rcases List.mem_cons.1 (hz.2 (List.mem_cons_of_mem _ hm)) with e | e
      · subst e
        have := a2.1 z hm
        rw [hr.irr] at this
        cases this
      · exact e
/-- One more, in its place, once. -/
def puR {α : Type} (r : α → α → Bool) (f : α) : List α → List α
  | [] => [f]
  | x :: l => if r f x = true then f :: x :: l else if r x f = true then x :: puR r f l else x :: l
theorem pu_mem {α : Type} {r : α → α → Bool} (hr : LO r) (f : α) : ∀ {l : List α} {x : α}, x ∈ puR r f l ↔ x = f ∨ x ∈ l
  | [], x => by simp [puR]
  | y :: l, x => by
    rw [puR]
    by_cases h1 : r f y = true
    · rw [if_pos h1]; simp
    · rw [if_neg h1]
      by_cases h2 : r y f = true
      · rw [if_pos h2, List.mem_cons, pu_mem hr f, List.mem_cons]
        constructor
        · rintro (h | h | h)
          · exact .inr (.inl h)
          · exact .inl h
          · exact .inr (.inr h)
        · rintro (h | h | h)
          · exact .inr (.inl h)
          · exact .inl h
          · exact .inr (.inr h)
      · rw [if_neg h2]
        have e : y = f := hr.tot _ _ (by simpa using h2) (by simpa using h1)
        subst e
        simp
theorem pu_ris {α : Type} {r : α → α → Bool} (hr : LO r) (f : α) : ∀ {l : List α}, Ris r l → Ris r (puR r f l)
  | [], _ => by simp [puR, Ris]
  | y :: l, h => by
    have a := List.pairwise_cons.1 h
    rw [puR]
    by_cases h1 : r f y = true
    · rw [if_pos h1]
      refine List.pairwise_cons.2 ⟨fun z hz => ?_, h⟩
      rcases List.mem_cons.1 hz with rfl | hz
      · exact h1
      · exact hr.tr _ _ _ h1 (a.1 z hz)
    · rw [if_neg h1]
      by_cases h2 : r y f = true
      · rw [if_pos h2]
        refine List.pairwise_cons.2 ⟨fun z hz => ?_, pu_ris hr f a.2⟩
        rcases (pu_mem hr f).1 hz with rfl | hz
        · exact h2
        · exact a.1 z hz
      · rw [if_neg h2]
        exact h
end Go.Proofs.Ytmpjoepfgfbjmaa
/- Changes of tables in plain lists: what is wrong with one, what it makes, what is between two. No program in it. -/
namespace Go.Proofs.Ytmpjoepfgfbjmaa
open Go.RowKit

/-- Are two rules the same in all? -/
def eqR (a b : Ru) : Bool := decide (a.p = b.p) && (decide (a.m = b.m) && (decide (a.b = b.b) && (decide (a.o = b.o) && (decide (a.s = b.s) && decide (a.v = b.v)))))
theorem eq_R {a b : Ru} : eqR a b = true ↔ a = b := by
  obtain ⟨p, m, b1, o, s, v⟩ := a
  obtain ⟨p', m', b', o', s', v'⟩ := b
  simp [eqR]
theorem eq_no {a b : Ru} : eqR a b = false ↔ a ≠ b := by
  rw [← Bool.not_eq_true, Ne, eq_R]
theorem eq_rf (a : Ru) : eqR a a = true := eq_R.2 rfl
/-- Is a rule in a table? -/
def inB (L : List Ru) (r : Ru) : Bool := L.any (fun a => eqR r a)
theorem in_iff {L : List Ru} {r : Ru} : inB L r = true ↔ r ∈ L := by
  simp only [inB, List.any_eq_true, eq_R]
  exact ⟨fun ⟨x, h, e⟩ => e ▸ h, fun h => ⟨r, h, rfl⟩⟩
/-- The first place of a rule. -/
def ixN (L : List Ru) (r : Ru) : Nat := L.findIdx (fun a => eqR r a)
/-- The rules of the one that the other has not. -/
def bey (A B : List Ru) : List Ru := A.filter (fun r => !inB B r)
/-- Has one of them the Prio and Cube of a rule? -/
def hitB (L : List Ru) (r : Ru) : Bool := L.any (fun a => keyB a r)

/-- The fault of a change of a table and a rule that are right. -/
def chN (L : List Ru) (add : Bool) (r : Ru) : Int := if add then (if hitB L r then 7 else if 12 ≤ L.length then 4 else 0) else (if inB L r then 0 else 5)
/-- What it makes. -/
def chL (L : List Ru) (add : Bool) (r : Ru) : List Ru := if chN L add r = 0 then (if add then L ++ [r] else L.take (ixN L r) ++ L.drop (ixN L r + 1)) else []
/-- The fault of a change. -/
def doN (L : List Ru) (add : Bool) (r : Ru) : Int := if tbN L = 0 then (if r.n = 0 then chN L add r else r.n) else tbN L
def doL (L : List Ru) (add : Bool) (r : Ru) : List Ru := if doN L add r = 0 then chL L add r else []

/-- An op: its switch, whether it adds, its rule. -/
structure Op8 where
  w : Int
  a : Bool
  r : Ru
/-- Op by op. -/
def alN : List Ru → List Op8 → Int
  | _, [] => 0
  | L, o :: l => if doN L o.a o.r = 0 then alN (doL L o.a o.r) l else doN L o.a o.r
def alL : List Ru → List Op8 → List Ru
  | L, [] => L
  | L, o :: l => if doN L o.a o.r = 0 then alL (doL L o.a o.r) l else []
def taken (L : List Ru) : List Op8 := L.map fun r => ⟨0, false, r⟩
def added (L : List Ru) : List Op8 := L.map fun r => ⟨0, true, r⟩
/-- The fault of two tables. -/
def twN (A B : List Ru) : Int := if tbN A = 0 then tbN B else tbN A
def dfL (A B : List Ru) : List Op8 := if twN A B = 0 then taken (bey A B) ++ added (bey B A) else []
def smB (A B : List Ru) : Bool := if twN A B = 0 then (decide (A.length = B.length) && decide ((bey A B).length = 0)) else false

/-- A right table: twelve at most, each right, no two with one Prio and Cube. -/
theorem tb_iff {L : List Ru} : tbN L = 0 ↔ L.length ≤ 12 ∧ (∀ r ∈ L, r.ok = true) ∧ L.Pairwise (fun a b => keyB a b = false) := by
  rw [tb_0, cl_no, okR, List.all_eq_true, List.pairwise_iff_getElem]
  refine and_congr Iff.rfl (and_congr Iff.rfl ⟨fun h i j hi hj hij => ?_, fun h i j hij hj => ?_⟩)
  · have := h i j hij hj
    rw [getD_at hi, getD_at hj] at this
    exact this
  · rw [getD_at (by omega), getD_at hj]
    exact h i j (by omega) hj hij
theorem key_rf (a : Ru) : keyB a a = true := by simp [keyB, ord_rf]
theorem key_sy {a b : Ru} : keyB a b = keyB b a := by
  cases h : keyB b a
  · exact key_sym h
  · cases h2 : keyB a b
    · rw [key_sym h2] at h; cases h
    · rfl
theorem tb_sub {L M : List Ru} (h : tbN L = 0) (hs : M.Sublist L) : tbN M = 0 := by
  rw [tb_iff] at h ⊢
  exact ⟨Nat.le_trans hs.length_le h.1, fun r hr => h.2.1 r (hs.subset hr), h.2.2.sublist hs⟩
theorem tb_one {L : List Ru} {r : Ru} (h : tbN L = 0) (hr : r.ok = true) (hh : hitB L r = false) (hl : L.length < 12) : tbN (L ++ [r]) = 0 := by
  rw [tb_iff] at h ⊢
  refine ⟨by simp; omega, ?_, ?_⟩
  · intro x hx
    rw [List.mem_append, List.mem_singleton] at hx
    rcases hx with hx | rfl
    · exact h.2.1 x hx
    · exact hr
  · rw [List.pairwise_append]
    refine ⟨h.2.2, List.pairwise_singleton _ _, fun a ha b hb => ?_⟩
    rw [List.mem_singleton] at hb
    subst hb
    simp only [hitB, List.any_eq_false] at hh
    simpa using hh a ha
/-- No two of a right table have one Prio and Cube. -/
theorem tb_key {L : List Ru} (h : tbN L = 0) {a b : Ru} (ha : a ∈ L) (hb : b ∈ L) (hk : keyB a b = true) : a = b := by
  rw [tb_iff] at h
  have hp := h.2.2
  clear h
  induction L with
  | nil => cases ha
  | cons x l ih =>
    rw [List.pairwise_cons] at hp
    rcases List.mem_cons.1 ha with e1 | ha1
    · rcases List.mem_cons.1 hb with e2 | hb1
      · rw [e1, e2]
      · rw [e1, hp.1 b hb1] at hk; cases hk
    · rcases List.mem_cons.1 hb with e2 | hb1
      · rw [e2, key_sy, hp.1 a ha1] at hk; cases hk
      · exact ih ha1 hb1 hp.2
theorem tb_nodup {L : List Ru} (h : tbN L = 0) : L.Nodup := by
  rw [tb_iff] at h
  refine h.2.2.imp ?_
  rintro a b hk rfl
  rw [key_rf] at hk
  cases hk

theorem ix_split {L M : List Ru} {r : Ru} (h : r ∉ L) : ixN (L ++ r :: M) r = L.length := by
  induction L with
  | nil => simp [ixN, List.findIdx_cons, eq_rf]
  | cons x l ih =>
    have h1 : eqR r x = false := eq_no.2 (fun e => h (by rw [e]; exact List.mem_cons_self))
    have h2 := ih (fun hm => h (List.mem_cons_of_mem _ hm))
    simp only [ixN] at h2 ⊢
    rw [List.cons_append, List.findIdx_cons, h1, h2]
    rfl
/-- Taking away a rule that is there once. -/
theorem do_take {A B : List Ru} {r : Ru} (h : tbN (A ++ r :: B) = 0) : doN (A ++ r :: B) false r = 0 ∧ doL (A ++ r :: B) false r = A ++ B := by
  have hm : r ∈ A ++ r :: B := by simp
  have hno : r ∉ A := by
    have := tb_nodup h
    rw [List.nodup_append] at this
    intro hA
    exact this.2.2 r hA r (by simp) rfl
  have hr : r.n = 0 := n_ok ((tb_iff.1 h).2.1 r hm)
  have hc : chN (A ++ r :: B) false r = 0 := by simp [chN, in_iff.2 hm]
  have hd : doN (A ++ r :: B) false r = 0 := by rw [doN, if_pos h, if_pos hr, hc]
  refine ⟨hd, ?_⟩
  rw [doL, if_pos hd, chL, if_pos hc, ix_split hno]
  simp
theorem do_add {L : List Ru} {r : Ru} (h : tbN L = 0) (hr : r.ok = true) (hh : hitB L r = false) (hl : L.length < 12) : doN L true r = 0 ∧ doL L true r = L ++ [r] := by
  have hc : chN L true r = 0 := by
    rw [chN, hh]
    simp
    omega
  have hd : doN L true r = 0 := by rw [doN, if_pos h, if_pos (n_ok hr), hc]
  exact ⟨hd, by rw [doL, if_pos hd, chL, if_pos hc]; rfl⟩
/-- What adding asks. -/
theorem add_yes {L : List Ru} {r : Ru} (h : doN L true r = 0) : tbN L = 0 ∧ r.ok = true ∧ hitB L r = false ∧ L.length < 12 := by
  unfold doN at h
  by_cases h1 : tbN L = 0
  · rw [if_pos h1] at h
    by_cases h2 : r.n = 0
    · rw [if_pos h2, chN] at h
      simp only [if_true] at h
      cases h3 : hitB L r
      · rw [h3] at h
        by_cases h4 : 12 ≤ L.length
        · simp [h4] at h
        · exact ⟨h1, ok_n h2, rfl, by omega⟩
      · rw [h3] at h; simp at h
    · rw [if_neg h2] at h; exact absurd h h2
  · rw [if_neg h1] at h; exact absurd h h1

/-- What goes, one by one. -/
theorem al_take (o : List Ru) (ops : List Op8) : ∀ (A B : List Ru), tbN (A ++ B) = 0 → (∀ r ∈ A, inB o r = true) →
    alN (A ++ B) (taken (bey B o) ++ ops) = alN (A ++ B.filter (inB o)) ops ∧ alL (A ++ B) (taken (bey B o) ++ ops) = alL (A ++ B.filter (inB o)) ops := by
  intro A B
  induction B generalizing A with
  | nil => intro _ _; simp [bey, taken]
  | cons r B ih =>
    intro h hA
    cases hi : inB o r
    · have e : bey (r :: B) o = r :: bey B o := by simp [bey, hi]
      have e2 : (r :: B).filter (inB o) = B.filter (inB o) := by simp [hi]
      obtain ⟨d1, d2⟩ := do_take h
      have h2 : tbN (A ++ B) = 0 := tb_sub h (by
        refine List.Sublist.append (List.Sublist.refl _) ?_
        exact List.sublist_cons_self r B)
      have := ih A h2 hA
      rw [e, e2, taken, List.map_cons, List.cons_append, alN, alL]
      simp only [d1, d2, if_true]
      exact this
    · have e : bey (r :: B) o = bey B o := by simp [bey, hi]
      have e2 : (r :: B).filter (inB o) = r :: B.filter (inB o) := by simp [hi]
      have := ih (A ++ [r]) (by rw [List.append_assoc]; exact h) (by
        intro x hx
        rw [List.mem_append, List.mem_singleton] at hx
        rcases hx with hx | rfl
        · exact hA x hx
        · exact hi)
      rw [e, e2]
      rw [List.append_assoc, List.append_assoc] at this
      exact this
/-- What comes, one by one. -/
theorem al_add (o : List Ru) (ho : tbN o = 0) : ∀ (A B : List Ru), tbN A = 0 → (A ++ B).Nodup → (∀ r ∈ A ++ B, r ∈ o) → (A ++ B).length ≤ o.length → alN A (added B) = 0 ∧ alL A (added B) = A ++ B := by
  intro A B
  induction B generalizing A with
  | nil => intro _ _ _ _; simp [added, alN, alL]
  | cons r B ih =>
    intro hA hn hm hl
    have hro : r ∈ o := hm r (by simp)
    have hr : r.ok = true := (tb_iff.1 ho).2.1 r hro
    have hh : hitB A r = false := by
      simp only [hitB, List.any_eq_false]
      intro a ha hk
      have hao : a ∈ o := hm a (by simp [ha])
      have := tb_key ho hao hro hk
      rw [List.nodup_append] at hn
      exact hn.2.2 a ha r (by simp) this
    have hlen : A.length < 12 := by
      have := (tb_iff.1 ho).1
      simp at hl
      omega
    obtain ⟨d1, d2⟩ := do_add hA hr hh hlen
    have e : A ++ r :: B = (A ++ [r]) ++ B := by simp
    have := ih (A ++ [r]) (tb_one hA hr hh hlen) (by rw [← e]; exact hn) (by rw [← e]; exact hm) (by rw [← e]; exact hl)
    rw [added, List.map_cons, alN, alL]
    simp only [d1, d2, if_true]
    rw [e]
    exact this
theorem nodup_sub {M L : List Ru} (hn : M.Nodup) (h : ∀ r ∈ M, r ∈ L) : M.length ≤ L.length := by
  induction M generalizing L with
  | nil => simp
  | cons x m ih =>
    rw [List.nodup_cons] at hn
    obtain ⟨A, B, rfl⟩ := List.append_of_mem (h x (by simp))
    have := ih (L := A ++ B) hn.2 (fun r hr => by
      have := h r (by simp [hr])
      rw [List.mem_append, List.mem_cons] at this
      rw [List.mem_append]
      rcases this with h1 | rfl | h1
      · exact .inl h1
      · exact absurd hr hn.1
      · exact .inr h1)
    simp at this ⊢
    omega
/-- What is between two makes of the one the other. -/
theorem al_diff {A B : List Ru} (h : twN A B = 0) : alN A (dfL A B) = 0 ∧ smB (alL A (dfL A B)) B = true ∧ twN (alL A (dfL A B)) B = 0 := by
  obtain ⟨hA, hB⟩ : tbN A = 0 ∧ tbN B = 0 := by
    unfold twN at h
    by_cases h1 : tbN A = 0
    · rw [if_pos h1] at h; exact ⟨h1, h⟩
    · rw [if_neg h1] at h; exact absurd h h1
  have e1 : dfL A B = taken (bey A B) ++ added (bey B A) := by rw [dfL, if_pos h]
  have h1 := al_take B (added (bey B A)) [] A hA (by simp)
  simp only [List.nil_append] at h1
  have hF : tbN (A.filter (inB B)) = 0 := tb_sub hA List.filter_sublist
  have hnd : (A.filter (inB B) ++ bey B A).Nodup := by
    rw [List.nodup_append]
    refine ⟨(tb_nodup hA).sublist List.filter_sublist, (tb_nodup hB).sublist List.filter_sublist, ?_⟩
    rintro a ha b hb rfl
    rw [List.mem_filter] at ha
    rw [bey, List.mem_filter] at hb
    have := in_iff.2 ha.1
    rw [this] at hb
    simp at hb
  have hmem : ∀ r ∈ A.filter (inB B) ++ bey B A, r ∈ B := by
    intro r hr
    rw [List.mem_append] at hr
    rcases hr with hr | hr
    · exact in_iff.1 (List.mem_filter.1 hr).2
    · exact (List.mem_filter.1 hr).1
  have h2 := al_add B hB (A.filter (inB B)) (bey B A) hF hnd hmem (nodup_sub hnd hmem)
  have hlen : (A.filter (inB B) ++ bey B A).length = B.length := by
    refine Nat.le_antisymm (nodup_sub hnd hmem) (nodup_sub (tb_nodup hB) fun r hr => ?_)
    rw [List.mem_append]
    cases hi : inB A r
    · exact .inr (List.mem_filter.2 ⟨hr, by simp [hi]⟩)
    · exact .inl (List.mem_filter.2 ⟨in_iff.1 hi, in_iff.2 hr⟩)
  have hbey : (bey (A.filter (inB B) ++ bey B A) B) = [] := by
    rw [bey, List.filter_eq_nil_iff]
    intro r hr
    simp [in_iff.2 (hmem r hr)]
  have hT : tbN (A.filter (inB B) ++ bey B A) = 0 := by
    rw [tb_iff]
    refine ⟨by rw [hlen]; exact (tb_iff.1 hB).1, fun r hr => (tb_iff.1 hB).2.1 r (hmem r hr), ?_⟩
    have := hnd
    unfold List.Nodup at this
    refine (List.Pairwise.and_mem.1 this).imp ?_
    rintro a b ⟨ha, hb, hne⟩
    cases hk : keyB a b
    · rfl
    · exact absurd (tb_key hB (hmem a ha) (hmem b hb) hk) hne
  have ht2 : twN (A.filter (inB B) ++ bey B A) B = 0 := by rw [twN, if_pos hT, hB]
  rw [e1, h1.1, h1.2, h2.1, h2.2]
  refine ⟨rfl, ?_, ht2⟩
  rw [smB, if_pos ht2, hlen, hbey]
  simp
/-- A rule that is added and taken away leaves a table as it was, and makes another one meanwhile. -/
theorem do_back {L : List Ru} {r : Ru} (h : doN L true r = 0) : doL L true r = L ++ [r] ∧ doN (L ++ [r]) false r = 0 ∧ doL (L ++ [r]) false r = L ∧ twN (L ++ [r]) L = 0 ∧ smB (L ++ [r]) L = false := by
  obtain ⟨h1, h2, h3, h4⟩ := add_yes h
  have hT := tb_one h1 h2 h3 h4
  have := do_take (A := L) (B := []) (r := r) hT
  rw [List.append_nil] at this
  have h5 : twN (L ++ [r]) L = 0 := by rw [twN, if_pos hT, h1]
  refine ⟨(do_add h1 h2 h3 h4).2, this.1, this.2, h5, ?_⟩
  rw [smB, if_pos h5]
  simp
end Go.Proofs.Ytmpjoepfgfbjmaa
