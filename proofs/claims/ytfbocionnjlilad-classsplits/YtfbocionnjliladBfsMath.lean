/- How far it is, found by going from those that are nearer to those that are farther off: plain lists. No program in it. -/
import Derived.Test.YtfbocionnjliladFarMath
import Derived.Test.YtfbocionnjliladMapGen
import Derived.Test.YtfbocionnjliladTopoMath
namespace Go.Proofs.Ytfbocionnjlilad
open Go.RowKit
set_option linter.unusedVariables false

def qI (a b : Int) : Bool := a == b
theorem qI_iff (a b : Int) : qI a b = true ↔ a = b := by simp [qI]
section
variable {κ β : Type} {q : κ → κ → Bool}
theorem mput_new (hq : ∀ a b, q a b = true ↔ a = b) {k : κ} {b : β} : ∀ {M : List (κ × β)}, mget q k M = none → mput q k b M = M ++ [(k, b)]
  | [], _ => rfl
  | p :: M, h => by
    rw [mget] at h
    by_cases e : q k p.1 = true
    · rw [if_pos e] at h; cases h
    · rw [if_neg e] at h
      rw [mput, if_neg e, mput_new hq h]
      rfl
theorem mget_none (hq : ∀ a b, q a b = true ↔ a = b) {k : κ} : ∀ {M : List (κ × β)}, mget q k M = none → k ∉ M.map (·.1)
  | [], _ => by simp
  | p :: M, h => by
    rw [mget] at h
    by_cases e : q k p.1 = true
    · rw [if_pos e] at h; cases h
    · rw [if_neg e] at h
      have := mget_none hq h
      simp only [List.map_cons, List.mem_cons, not_or]
      exact ⟨fun e2 => e ((hq _ _).2 e2), this⟩
theorem mget_mem (hq : ∀ a b, q a b = true ↔ a = b) {k : κ} : ∀ {M : List (κ × β)}, k ∈ M.map (·.1) → ∃ b, mget q k M = some b
  | [], h => by simp at h
  | p :: M, h => by
    rw [mget]
    by_cases e : q k p.1 = true
    · rw [if_pos e]; exact ⟨_, rfl⟩
    · rw [if_neg e]
      simp only [List.map_cons, List.mem_cons] at h
      rcases h with h | h
      · exact absurd ((hq _ _).2 h) e
      · exact mget_mem hq h
end
theorem few_ints : ∀ (S : Nat) (L : List Int), L.Nodup → (∀ x ∈ L, 1 ≤ x ∧ x ≤ S) → L.length ≤ S
  | 0, L, _, h => by
    cases L with
    | nil => simp
    | cons x L => have := h x (by simp); omega
  | S + 1, L, hd, h => by
    by_cases hm : ((S : Int) + 1) ∈ L
    · have h1 := few_ints S (L.erase ((S : Int) + 1)) (hd.erase _) (fun x hx => by
        rw [hd.mem_erase_iff] at hx
        have := h x hx.2
        have h3 := hx.1
        omega)
      rw [List.length_erase_of_mem hm] at h1
      omega
    · have h1 := few_ints S L hd (fun x hx => by
        have h2 := h x hx
        have h3 : x ≠ (S : Int) + 1 := fun e => hm (e ▸ hx)
        omega)
      omega
/-- The switches that are joined with one, rising. -/
def nrL (S : Int) (Ls : List ((Int × Int) × (Int × Int))) (a : Int) : List Int := ((List.range S.toNat).map fun i : Nat => (i : Int) + 1).filter (joinB Ls a)
theorem nr_mem {S : Int} {Ls : List ((Int × Int) × (Int × Int))} {a y : Int} : y ∈ nrL S Ls a ↔ 1 ≤ y ∧ y ≤ S ∧ joinB Ls a y = true := by
  simp only [nrL, List.mem_filter, List.mem_map, List.mem_range]
  constructor
  · rintro ⟨⟨i, hi, rfl⟩, h⟩
    exact ⟨by omega, by omega, h⟩
  · rintro ⟨h1, h2, h3⟩
    exact ⟨⟨(y - 1).toNat, by omega, by omega⟩, h3⟩
theorem nr_len (S : Int) (Ls : List ((Int × Int) × (Int × Int))) (a : Int) : (nrL S Ls a).length ≤ S.toNat := by
  unfold nrL
  refine Nat.le_trans (List.length_filter_le _ _) ?_
  simp
/-- Up to a number. -/
def nrTo (Ls : List ((Int × Int) × (Int × Int))) (a : Int) (k : Nat) : List Int := ((List.range k).map fun i : Nat => (i : Int) + 1).filter (joinB Ls a)
theorem nr_0 (Ls : List ((Int × Int) × (Int × Int))) (a : Int) : nrTo Ls a 0 = [] := rfl
theorem nr_to (S : Int) (Ls : List ((Int × Int) × (Int × Int))) (a : Int) : nrTo Ls a S.toNat = nrL S Ls a := rfl
theorem nr_next (Ls : List ((Int × Int) × (Int × Int))) (a : Int) (k : Nat) : nrTo Ls a (k + 1) = nrTo Ls a k ++ (if joinB Ls a ((k : Int) + 1) then [(k : Int) + 1] else []) := by
  unfold nrTo
  rw [List.range_succ, List.map_append, List.filter_append]
  congr 1
  cases h : joinB Ls a ((k : Int) + 1) <;> simp [h]
theorem nrTo_len (Ls : List ((Int × Int) × (Int × Int))) (a : Int) (k : Nat) : (nrTo Ls a k).length ≤ k := by
  unfold nrTo
  refine Nat.le_trans (List.length_filter_le _ _) ?_
  simp

/-- Some have their number, some wait. -/
structure BI (S : Nat) (J : Nat → Nat → Bool) (a : Nat) (D : List (Int × Int)) (W : List Int) : Prop where
  st : mget qI a D = some 0
  nd : (D.map (·.1)).Nodup
  rg : ∀ y n, mget qI y D = some n → 1 ≤ y ∧ y ≤ S ∧ 0 ≤ n ∧ n < 7 ∧ rcB S J a n.toNat y.toNat = true
  inD : ∀ x ∈ W, ∃ n, mget qI x D = some n
  so : W.Pairwise fun x y => ∀ m n, mget qI x D = some m → mget qI y D = some n → m ≤ n
  hd : ∀ x r, W = x :: r → ∀ m, mget qI x D = some m → ∀ y n, mget qI y D = some n → n ≤ m + 1
  pr : ∀ x m, mget qI x D = some m → x ∉ W → ∀ y : Int, 1 ≤ y → y ≤ S → J x.toNat y.toNat = true → ∃ n, mget qI y D = some n ∧ n ≤ m + 1
  cn : ∀ y n, mget qI y D = some n → n < D.length
section
variable {S : Nat} {J : Nat → Nat → Bool} {a : Nat}
theorem BI.len {D : List (Int × Int)} {W : List Int} (h : BI S J a D W) : D.length ≤ S := by
  have := few_ints S (D.map (·.1)) h.nd (fun x hx => by
    obtain ⟨b, hb⟩ := mget_mem qI_iff hx
    have := h.rg x b hb
    exact ⟨this.1, this.2.1⟩)
  simpa using this
theorem bi_start (h1 : 1 ≤ a) (h2 : a ≤ S) : BI S J a [((a : Int), 0)] [(a : Int)] := by
  have hg : ∀ y n, mget qI y [((a : Int), (0 : Int))] = some n → y = a ∧ n = 0 := by
    intro y n h
    rw [mget] at h
    by_cases e : qI y a = true
    · rw [if_pos e] at h
      simp at h
      exact ⟨(qI_iff _ _).1 e, h.symm⟩
    · rw [if_neg e] at h; cases h
  have hs : mget qI (a : Int) [((a : Int), (0 : Int))] = some 0 := by rw [mget, if_pos ((qI_iff _ _).2 rfl)]
  refine ⟨hs, by simp, ?_, ?_, by simp, ?_, ?_, ?_⟩
  · intro y n h
    obtain ⟨rfl, rfl⟩ := hg y n h
    exact ⟨by omega, by omega, by omega, by omega, by simp [rcB]⟩
  · intro x hx
    simp at hx
    subst hx
    exact ⟨0, hs⟩
  · intro x r e m hm y n hn
    have := (hg y n hn).2
    have := (hg x m hm).2
    omega
  · intro x m hm hx
    have := (hg x m hm).1
    exact absurd (by simp [this]) hx
  · intro y n h
    have := (hg y n h).2
    simp; omega
/-- One that is near the first has its number already. -/
theorem bi_has {D : List (Int × Int)} {x : Int} {W : List Int} {m : Int} (h : BI S J a D (x :: W)) (hm : mget qI x D = some m) {y n : Int} (hy : mget qI y D = some n) : n ≤ m + 1 := h.hd x W rfl m hm y n hy
/-- One that is near the first has none yet. -/
theorem bi_new {D : List (Int × Int)} {x : Int} {W : List Int} {m : Int} (h6 : S ≤ 6) (h : BI S J a D (x :: W)) (hm : mget qI x D = some m) {y : Int} (h1 : 1 ≤ y) (h2 : y ≤ S) (hJ : J x.toNat y.toNat = true) (hy : mget qI y D = none) :
    BI S J a (mput qI y (m + 1) D) (x :: (W ++ [y])) ∧ mget qI x (mput qI y (m + 1) D) = some m ∧ (mput qI y (m + 1) D).length = D.length + 1 ∧ (∀ z n, mget qI z D = some n → mget qI z (mput qI y (m + 1) D) = some n) ∧ mget qI y (mput qI y (m + 1) D) = some (m + 1) := by
  have hput : ∀ z, mget qI z (mput qI y (m + 1) D) = if qI z y then some (m + 1) else mget qI z D := fun z => mget_put qI_iff y z (m + 1) D
  have hne : ∀ z n, mget qI z D = some n → ¬ z = y := fun z n hz e => by rw [e, hy] at hz; cases hz
  have old : ∀ z n, mget qI z D = some n → mget qI z (mput qI y (m + 1) D) = some n := fun z n hz => by
    rw [hput, if_neg (fun e => hne z n hz ((qI_iff _ _).1 e))]
    exact hz
  have new : mget qI y (mput qI y (m + 1) D) = some (m + 1) := by rw [hput, if_pos ((qI_iff _ _).2 rfl)]
  have way : ∀ z n, mget qI z (mput qI y (m + 1) D) = some n → (z = y ∧ n = m + 1) ∨ mget qI z D = some n := fun z n hz => by
    rw [hput] at hz
    by_cases e : qI z y = true
    · rw [if_pos e] at hz
      simp at hz
      exact .inl ⟨(qI_iff _ _).1 e, hz.symm⟩
    · rw [if_neg e] at hz
      exact .inr hz
  have happ : mput qI y (m + 1) D = D ++ [(y, m + 1)] := mput_new qI_iff hy
  have hlen : (mput qI y (m + 1) D).length = D.length + 1 := by rw [happ]; simp
  obtain ⟨x1, x2, m0, m7, mr⟩ := h.rg x m hm
  have hnd : ((mput qI y (m + 1) D).map (·.1)).Nodup := by
    rw [happ, List.map_append]
    rw [List.nodup_append]
    refine ⟨h.nd, by simp, ?_⟩
    intro u hu v hv e
    simp at hv
    subst hv
    subst e
    exact mget_none qI_iff hy hu
  have hrn : rcB S J a (m + 1).toNat y.toNat = true := by
    have e : (m + 1).toNat = m.toNat + 1 := by omega
    rw [e]
    exact rc_s.2 (.inr ⟨by omega, by omega, x.toNat, by omega, by omega, mr, hJ⟩)
  have hcn := h.cn x m hm
  have hdl : (mput qI y (m + 1) D).length ≤ S := by
    have := few_ints S ((mput qI y (m + 1) D).map (·.1)) hnd (fun z hz => by
      obtain ⟨b, hb⟩ := mget_mem qI_iff hz
      rcases way z b hb with ⟨rfl, _⟩ | hz
      · exact ⟨h1, h2⟩
      · have := h.rg z b hz
        exact ⟨this.1, this.2.1⟩)
    simpa using this
  refine ⟨⟨old _ _ h.st, hnd, ?_, ?_, ?_, ?_, ?_, ?_⟩, old x m hm, hlen, old, new⟩
  · intro z n hz
    rcases way z n hz with ⟨rfl, rfl⟩ | hz
    · exact ⟨h1, h2, by omega, by omega, hrn⟩
    · exact h.rg z n hz
  · intro z hz
    simp only [List.mem_cons, List.mem_append, List.not_mem_nil, or_false] at hz
    rcases hz with rfl | hz | rfl
    · exact ⟨m, old _ _ hm⟩
    · obtain ⟨n, hn⟩ := h.inD z (by simp [hz])
      exact ⟨n, old _ _ hn⟩
    · exact ⟨m + 1, new⟩
  · rw [show x :: (W ++ [y]) = (x :: W) ++ [y] from rfl, List.pairwise_append]
    refine ⟨?_, by simp, ?_⟩
    · refine h.so.imp_of_mem ?_
      intro u v hu hv huv p r hp hr
      obtain ⟨pu, hpu⟩ := h.inD u hu
      obtain ⟨pv, hpv⟩ := h.inD v hv
      rw [old u pu hpu] at hp
      rw [old v pv hpv] at hr
      cases hp
      cases hr
      exact huv _ _ hpu hpv
    · intro u hu v hv p r hp hr
      simp at hv
      subst hv
      rw [new] at hr
      cases hr
      obtain ⟨pu, hpu⟩ := h.inD u hu
      rw [old u pu hpu] at hp
      cases hp
      exact h.hd x W rfl m hm u _ hpu
  · intro z r e p hp z2 n hz2
    have ez : x = z := by simpa using (List.cons.inj e).1
    subst ez
    rw [old x m hm] at hp
    cases hp
    rcases way z2 n hz2 with ⟨rfl, rfl⟩ | hz
    · omega
    · exact h.hd x W rfl m hm z2 n hz
  · intro z p hp hz y2 hy1 hy2 hJ2
    simp only [List.mem_cons, List.mem_append, List.not_mem_nil, or_false, not_or] at hz
    rcases way z p hp with ⟨e, _⟩ | hp
    · exact absurd e hz.2.2
    · obtain ⟨n, hn, hle⟩ := h.pr z p hp (by simp [hz.1, hz.2.1]) y2 hy1 hy2 hJ2
      exact ⟨n, old _ _ hn, hle⟩
  · intro z n hz
    rw [hlen]
    rcases way z n hz with ⟨rfl, rfl⟩ | hz
    · omega
    · have := h.cn z n hz
      omega
/-- All that are near the first have their number: the first goes. -/
theorem bi_pop {D : List (Int × Int)} {x : Int} {W : List Int} {m : Int} (h : BI S J a D (x :: W)) (hm : mget qI x D = some m) (hall : ∀ y : Int, 1 ≤ y → y ≤ S → J x.toNat y.toNat = true → ∃ n, mget qI y D = some n ∧ n ≤ m + 1) : BI S J a D W := by
  refine ⟨h.st, h.nd, h.rg, fun z hz => h.inD z (by simp [hz]), h.so.of_cons, ?_, ?_, h.cn⟩
  · intro z r e p hp y n hy
    have h1 := h.hd x W rfl m hm y n hy
    have h2 := (List.pairwise_cons.1 h.so).1 z (by simp [e]) m p hm hp
    omega
  · intro z p hp hz y h1 h2 hJ
    by_cases e : z = x
    · subst e
      rw [hm] at hp
      cases hp
      exact hall y h1 h2 hJ
    · exact h.pr z p hp (by simp [e, hz]) y h1 h2 hJ
theorem bi_all {D : List (Int × Int)} (h : BI S J a D []) (h1 : 1 ≤ a) (h2 : a ≤ S) : ∀ (n b : Nat), rcB S J a n b = true → ∃ m, mget qI (b : Int) D = some m ∧ m ≤ n
  | 0, b, hr => by
    rw [rc_0] at hr
    subst hr
    exact ⟨0, h.st, by omega⟩
  | n + 1, b, hr => by
    rw [rc_s] at hr
    rcases hr with hr | ⟨b1, b2, k, k1, k2, hr, hJ⟩
    · obtain ⟨m, hm, hl⟩ := bi_all h h1 h2 n b hr
      exact ⟨m, hm, by omega⟩
    · obtain ⟨m, hm, hl⟩ := bi_all h h1 h2 n k hr
      obtain ⟨p, hp, hl2⟩ := h.pr k m hm (by simp) b (by omega) (by omega) (by simpa using hJ)
      exact ⟨p, hp, by omega⟩
/-- What has a number when nobody waits: as far as it is. -/
theorem bi_far {D : List (Int × Int)} (h : BI S J a D []) (h1 : 1 ≤ a) (h2 : a ≤ S) (h6 : S ≤ 6) (b : Nat) : (farN S J a b = -1 ∧ mget qI (b : Int) D = none) ∨ ∃ m : Nat, farN S J a b = m ∧ mget qI (b : Int) D = some (m : Int) := by
  rcases far_or (J := J) (b := b) h1 h2 h6 with ⟨e, hno⟩ | ⟨m, e, hm, hl⟩
  · refine .inl ⟨e, ?_⟩
    cases hg : mget qI (b : Int) D with
    | none => rfl
    | some n =>
      have := (h.rg _ n hg).2.2.2.2
      rw [Int.toNat_natCast, hno] at this
      cases this
  · refine .inr ⟨m, e, ?_⟩
    obtain ⟨n, hn, hle⟩ := bi_all h h1 h2 m b hm
    have hr := h.rg _ n hn
    have h3 := hl n.toNat (by have := hr.2.2.2.2; rwa [Int.toNat_natCast] at this)
    have : n = (m : Int) := by omega
    rw [hn, this]
end
end Go.Proofs.Ytfbocionnjlilad
