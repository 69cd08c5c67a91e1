/- Changes of tables in plain lists: what is wrong with one, what it makes, what is between two. No program in it. -/
import Derived.Test.YtfbocionnjliladRuleTabMath
namespace Go.Proofs.Ytfbocionnjlilad
open Go.RowKit

/-- Are two rules the same in all? -/
def eqR (a b : Ru) : Bool := decide (a.p = b.p) && (decide (a.m = b.m) && (decide (a.b = b.b) && (decide (a.o = b.o) && (decide (a.s = b.s) && decide (a.v = b.v)))))
theorem eq_R {a b : Ru} : eqR a b = true ↔ a = b := by
  obtain ⟨p, m, b1, o, s, v⟩ := a
  obtain ⟨p', m', b', o', s', v'⟩ := b
  simp [eqR]
theorem eq_no {a b : Ru} : eqR a b = false ↔ a ≠ b := by
  rw [← Bool.not_eq_true, Ne, eq_R]
theorem eq_rf (a : Ru) : eqR a a = true := eq_R.2 rfl
/-- Is a rule in a table? -/
def inB (L : List Ru) (r : Ru) : Bool := L.any (fun a => eqR r a)
theorem in_iff {L : List Ru} {r : Ru} : inB L r = true ↔ r ∈ L := by
  simp only [inB, List.any_eq_true, eq_R]
  exact ⟨fun ⟨x, h, e⟩ => e ▸ h, fun h => ⟨r, h, rfl⟩⟩
/-- The first place of a rule. -/
def ixN (L : List Ru) (r : Ru) : Nat := L.findIdx (fun a => eqR r a)
/-- The rules of the one that the other has not. -/
def bey (A B : List Ru) : List Ru := A.filter (fun r => !inB B r)
/-- Has one of them the Prio and Cube of a rule? -/
def hitB (L : List Ru) (r : Ru) : Bool := L.any (fun a => keyB a r)

/-- The fault of a change of a table and a rule that are right. -/
def chN (L : List Ru) (add : Bool) (r : Ru) : Int := if add then (if hitB L r then 7 else if 12 ≤ L.length then 4 else 0) else (if inB L r then 0 else 5)
/-- What it makes. -/
def chL (L : List Ru) (add : Bool) (r : Ru) : List Ru := if chN L add r = 0 then (if add then L ++ [r] else L.take (ixN L r) ++ L.drop (ixN L r + 1)) else []
/-- The fault of a change. -/
def doN (L : List Ru) (add : Bool) (r : Ru) : Int := if tbN L = 0 then (if r.n = 0 then chN L add r else r.n) else tbN L
def doL (L : List Ru) (add : Bool) (r : Ru) : List Ru := if doN L add r = 0 then chL L add r else []

/-- An op: its switch, whether it adds, its rule. -/
structure Op8 where
  w : Int
  a : Bool
  r : Ru
/-- Op by op. -/
def alN : List Ru → List Op8 → Int
  | _, [] => 0
  | L, o :: l => if doN L o.a o.r = 0 then alN (doL L o.a o.r) l else doN L o.a o.r
def alL : List Ru → List Op8 → List Ru
  | L, [] => L
  | L, o :: l => if doN L o.a o.r = 0 then alL (doL L o.a o.r) l else []
def taken (L : List Ru) : List Op8 := L.map fun r => ⟨0, false, r⟩
def added (L : List Ru) : List Op8 := L.map fun r => ⟨0, true, r⟩
/-- The fault of two tables. -/
def twN (A B : List Ru) : Int := if tbN A = 0 then tbN B else tbN A
def dfL (A B : List Ru) : List Op8 := if twN A B = 0 then taken (bey A B) ++ added (bey B A) else []
def smB (A B : List Ru) : Bool := if twN A B = 0 then (decide (A.length = B.length) && decide ((bey A B).length = 0)) else false

/-- A right table: twelve at most, each right, no two with one Prio and Cube. -/
theorem tb_iff {L : List Ru} : tbN L = 0 ↔ L.length ≤ 12 ∧ (∀ r ∈ L, r.ok = true) ∧ L.Pairwise (fun a b => keyB a b = false) := by
  rw [tb_0, cl_no, okR, List.all_eq_true, List.pairwise_iff_getElem]
  refine and_congr Iff.rfl (and_congr Iff.rfl ⟨fun h i j hi hj hij => ?_, fun h i j hij hj => ?_⟩)
  · have := h i j hij hj
    rw [getD_at hi, getD_at hj] at this
    exact this
  · rw [getD_at (by omega), getD_at hj]
    exact h i j (by omega) hj hij
theorem key_rf (a : Ru) : keyB a a = true := by simp [keyB, ord_rf]
theorem key_sy {a b : Ru} : keyB a b = keyB b a := by
  cases h : keyB b a
  · exact key_sym h
  · cases h2 : keyB a b
    · rw [key_sym h2] at h; cases h
    · rfl
theorem tb_sub {L M : List Ru} (h : tbN L = 0) (hs : M.Sublist L) : tbN M = 0 := by
  rw [tb_iff] at h ⊢
  exact ⟨Nat.le_trans hs.length_le h.1, fun r hr => h.2.1 r (hs.subset hr), h.2.2.sublist hs⟩
theorem tb_one {L : List Ru} {r : Ru} (h : tbN L = 0) (hr : r.ok = true) (hh : hitB L r = false) (hl : L.length < 12) : tbN (L ++ [r]) = 0 := by
  rw [tb_iff] at h ⊢
  refine ⟨by simp; omega, ?_, ?_⟩
  · intro x hx
    rw [List.mem_append, List.mem_singleton] at hx
    rcases hx with hx | rfl
    · exact h.2.1 x hx
    · exact hr
  · rw [List.pairwise_append]
    refine ⟨h.2.2, List.pairwise_singleton _ _, fun a ha b hb => ?_⟩
    rw [List.mem_singleton] at hb
    subst hb
    simp only [hitB, List.any_eq_false] at hh
    simpa using hh a ha
/-- No two of a right table have one Prio and Cube. -/
theorem tb_key {L : List Ru} (h : tbN L = 0) {a b : Ru} (ha : a ∈ L) (hb : b ∈ L) (hk : keyB a b = true) : a = b := by
  rw [tb_iff] at h
  have hp := h.2.2
  clear h
  induction L with
  | nil => cases ha
  | cons x l ih =>
    rw [List.pairwise_cons] at hp
    rcases List.mem_cons.1 ha with e1 | ha1
    · rcases List.mem_cons.1 hb with e2 | hb1
      · rw [e1, e2]
      · rw [e1, hp.1 b hb1] at hk; cases hk
    · rcases List.mem_cons.1 hb with e2 | hb1
      · rw [e2, key_sy, hp.1 a ha1] at hk; cases hk
      · exact ih ha1 hb1 hp.2
theorem tb_nodup {L : List Ru} (h : tbN L = 0) : L.Nodup := by
  rw [tb_iff] at h
  refine h.2.2.imp ?_
  rintro a b hk rfl
  rw [key_rf] at hk
  cases hk

theorem ix_split {L M : List Ru} {r : Ru} (h : r ∉ L) : ixN (L ++ r :: M) r = L.length := by
  induction L with
  | nil => simp [ixN, List.findIdx_cons, eq_rf]
  | cons x l ih =>
    have h1 : eqR r x = false := eq_no.2 (fun e => h (by rw [e]; exact List.mem_cons_self))
    have h2 := ih (fun hm => h (List.mem_cons_of_mem _ hm))
    simp only [ixN] at h2 ⊢
    rw [List.cons_append, List.findIdx_cons, h1, h2]
    rfl
/-- Taking away a rule that is there once. -/
theorem do_take {A B : List Ru} {r : Ru} (h : tbN (A ++ r :: B) = 0) : doN (A ++ r :: B) false r = 0 ∧ doL (A ++ r :: B) false r = A ++ B := by
  have hm : r ∈ A ++ r :: B := by simp
  have hno : r ∉ A := by
    have := tb_nodup h
    rw [List.nodup_append] at this
    intro hA
    exact this.2.2 r hA r (by simp) rfl
  have hr : r.n = 0 := n_ok ((tb_iff.1 h).2.1 r hm)
  have hc : chN (A ++ r :: B) false r = 0 := by simp [chN, in_iff.2 hm]
  have hd : doN (A ++ r :: B) false r = 0 := by rw [doN, if_pos h, if_pos hr, hc]
  refine ⟨hd, ?_⟩
  rw [doL, if_pos hd, chL, if_pos hc, ix_split hno]
  simp
theorem do_add {L : List Ru} {r : Ru} (h : tbN L = 0) (hr : r.ok = true) (hh : hitB L r = false) (hl : L.length < 12) : doN L true r = 0 ∧ doL L true r = L ++ [r] := by
  have hc : chN L true r = 0 := by
    rw [chN, hh]
    simp
    omega
  have hd : doN L true r = 0 := by rw [doN, if_pos h, if_pos (n_ok hr), hc]
  exact ⟨hd, by rw [doL, if_pos hd, chL, if_pos hc]; rfl⟩
/-- What adding asks. -/
theorem add_yes {L : List Ru} {r : Ru} (h : doN L true r = 0) : tbN L = 0 ∧ r.ok = true ∧ hitB L r = false ∧ L.length < 12 := by
  unfold doN at h
  by_cases h1 : tbN L = 0
  · rw [if_pos h1] at h
    by_cases h2 : r.n = 0
    · rw [if_pos h2, chN] at h
      simp only [if_true] at h
      cases h3 : hitB L r
      · rw [h3] at h
        by_cases h4 : 12 ≤ L.length
        · simp [h4] at h
        · exact ⟨h1, ok_n h2, rfl, by omega⟩
      · rw [h3] at h; simp at h
    · rw [if_neg h2] at h; exact absurd h h2
  · rw [if_neg h1] at h; exact absurd h h1

/-- What goes, one by one. -/
theorem al_take (o : List Ru) (ops : List Op8) : ∀ (A B : List Ru), tbN (A ++ B) = 0 → (∀ r ∈ A, inB o r = true) →
    alN (A ++ B) (taken (bey B o) ++ ops) = alN (A ++ B.filter (inB o)) ops ∧ alL (A ++ B) (taken (bey B o) ++ ops) = alL (A ++ B.filter (inB o)) ops := by
  intro A B
  induction B generalizing A with
  | nil => intro _ _; simp [bey, taken]
  | cons r B ih =>
    intro h hA
    cases hi : inB o r
    · have e : bey (r :: B) o = r :: bey B o := by simp [bey, hi]
      have e2 : (r :: B).filter (inB o) = B.filter (inB o) := by simp [hi]
      obtain ⟨d1, d2⟩ := do_take h
      have h2 : tbN (A ++ B) = 0 := tb_sub h (by
        refine List.Sublist.append (List.Sublist.refl _) ?_
        exact List.sublist_cons_self r B)
      have := ih A h2 hA
      rw [e, e2, taken, List.map_cons, List.cons_append, alN, alL]
      simp only [d1, d2, if_true]
      exact this
    · have e : bey (r :: B) o = bey B o := by simp [bey, hi]
      have e2 : (r :: B).filter (inB o) = r :: B.filter (inB o) := by simp [hi]
      have := ih (A ++ [r]) (by rw [List.append_assoc]; exact h) (by
        intro x hx
        rw [List.mem_append, List.mem_singleton] at hx
        rcases hx with hx | rfl
        · exact hA x hx
        · exact hi)
      rw [e, e2]
      rw [List.append_assoc, List.append_assoc] at this
      exact this
/-- What comes, one by one. -/
theorem al_add (o : List Ru) (ho : tbN o = 0) : ∀ (A B : List Ru), tbN A = 0 → (A ++ B).Nodup → (∀ r ∈ A ++ B, r ∈ o) → (A ++ B).length ≤ o.length → alN A (added B) = 0 ∧ alL A (added B) = A ++ B := by
  intro A B
  induction B generalizing A with
  | nil => intro _ _ _ _; simp [added, alN, alL]
  | cons r B ih =>
    intro hA hn hm hl
    have hro : r ∈ o := hm r (by simp)
    have hr : r.ok = true := (tb_iff.1 ho).2.1 r hro
    have hh : hitB A r = false := by
      simp only [hitB, List.any_eq_false]
      intro a ha hk
      have hao : a ∈ o := hm a (by simp [ha])
      have := tb_key ho hao hro hk
      rw [List.nodup_append] at hn
      exact hn.2.2 a ha r (by simp) this
    have hlen : A.length < 12 := by
      have := (tb_iff.1 ho).1
      simp at hl
      omega
    obtain ⟨d1, d2⟩ := do_add hA hr hh hlen
    have e : A ++ r :: B = (A ++ [r]) ++ B := by simp
    have := ih (A ++ [r]) (tb_one hA hr hh hlen) (by rw [← e]; exact hn) (by rw [← e]; exact hm) (by rw [← e]; exact hl)
    rw [added, List.map_cons, alN, alL]
    simp only [d1, d2, if_true]
    rw [e]
    exact this
theorem nodup_sub {M L : List Ru} (hn : M.Nodup) (h : ∀ r ∈ M, r ∈ L) : M.length ≤ L.length := by
  induction M generalizing L with
  | nil => simp
  | cons x m ih =>
    rw [List.nodup_cons] at hn
    obtain ⟨A, B, rfl⟩ := List.append_of_mem (h x (by simp))
    have := ih (L := A ++ B) hn.2 (fun r hr => by
      have := h r (by simp [hr])
      rw [List.mem_append, List.mem_cons] at this
      rw [List.mem_append]
      rcases this with h1 | rfl | h1
      · exact .inl h1
      · exact absurd hr hn.1
      · exact .inr h1)
    simp at this ⊢
    omega
/-- What is between two makes of the one the other. -/
theorem al_diff {A B : List Ru} (h : twN A B = 0) : alN A (dfL A B) = 0 ∧ smB (alL A (dfL A B)) B = true ∧ twN (alL A (dfL A B)) B = 0 := by
  obtain ⟨hA, hB⟩ : tbN A = 0 ∧ tbN B = 0 := by
    unfold twN at h
    by_cases h1 : tbN A = 0
    · rw [if_pos h1] at h; exact ⟨h1, h⟩
    · rw [if_neg h1] at h; exact absurd h h1
  have e1 : dfL A B = taken (bey A B) ++ added (bey B A) := by rw [dfL, if_pos h]
  have h1 := al_take B (added (bey B A)) [] A hA (by simp)
  simp only [List.nil_append] at h1
  have hF : tbN (A.filter (inB B)) = 0 := tb_sub hA List.filter_sublist
  have hnd : (A.filter (inB B) ++ bey B A).Nodup := by
    rw [List.nodup_append]
    refine ⟨(tb_nodup hA).sublist List.filter_sublist, (tb_nodup hB).sublist List.filter_sublist, ?_⟩
    rintro a ha b hb rfl
    rw [List.mem_filter] at ha
    rw [bey, List.mem_filter] at hb
    have := in_iff.2 ha.1
    rw [this] at hb
    simp at hb
  have hmem : ∀ r ∈ A.filter (inB B) ++ bey B A, r ∈ B := by
    intro r hr
    rw [List.mem_append] at hr
    rcases hr with hr | hr
    · exact in_iff.1 (List.mem_filter.1 hr).2
    · exact (List.mem_filter.1 hr).1
  have h2 := al_add B hB (A.filter (inB B)) (bey B A) hF hnd hmem (nodup_sub hnd hmem)
  have hlen : (A.filter (inB B) ++ bey B A).length = B.length := by
    refine Nat.le_antisymm (nodup_sub hnd hmem) (nodup_sub (tb_nodup hB) fun r hr => ?_)
    rw [List.mem_append]
    cases hi : inB A r
    · exact .inr (List.mem_filter.2 ⟨hr, by simp [hi]⟩)
    · exact .inl (List.mem_filter.2 ⟨in_iff.1 hi, in_iff.2 hr⟩)
  have hbey : (bey (A.filter (inB B) ++ bey B A) B) = [] := by
    rw [bey, List.filter_eq_nil_iff]
    intro r hr
    simp [in_iff.2 (hmem r hr)]
  have hT : tbN (A.filter (inB B) ++ bey B A) = 0 := by
    rw [tb_iff]
    refine ⟨by rw [hlen]; exact (tb_iff.1 hB).1, fun r hr => (tb_iff.1 hB).2.1 r (hmem r hr), ?_⟩
    have := hnd
    unfold List.Nodup at this
    refine (List.Pairwise.and_mem.1 this).imp ?_
    rintro a b ⟨ha, hb, hne⟩
    cases hk : keyB a b
    · rfl
    · exact absurd (tb_key hB (hmem a ha) (hmem b hb) hk) hne
  have ht2 : twN (A.filter (inB B) ++ bey B A) B = 0 := by rw [twN, if_pos hT, hB]
  rw [e1, h1.1, h1.2, h2.1, h2.2]
  refine ⟨rfl, ?_, ht2⟩
  rw [smB, if_pos ht2, hlen, hbey]
  simp
/-- A rule that is added and taken away leaves a table as it was, and makes another one meanwhile. -/
theorem do_back {L : List Ru} {r : Ru} (h : doN L true r = 0) : doL L true r = L ++ [r] ∧ doN (L ++ [r]) false r = 0 ∧ doL (L ++ [r]) false r = L ∧ twN (L ++ [r]) L = 0 ∧ smB (L ++ [r]) L = false := by
  obtain ⟨h1, h2, h3, h4⟩ := add_yes h
  have hT := tb_one h1 h2 h3 h4
  have := do_take (A := L) (B := []) (r := r) hT
  rw [List.append_nil] at this
  have h5 : twN (L ++ [r]) L = 0 := by rw [twN, if_pos hT, h1]
  refine ⟨(do_add h1 h2 h3 h4).2, this.1, this.2, h5, ?_⟩
  rw [smB, if_pos h5]
  simp
end Go.Proofs.Ytfbocionnjlilad
