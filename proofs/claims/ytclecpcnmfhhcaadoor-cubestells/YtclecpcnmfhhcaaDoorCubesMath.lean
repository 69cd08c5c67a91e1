/- What several cubes come to, in plain numbers: no program in it. -/
import Derived.Test.YtclecpcnmfhhcaaDoorCubeFacts
namespace Go.Proofs.YtclecpcnmfhhcaaDoor
open Go.RowKit

/-- Has one of them a header? -/
def anyB (L : List (Int × Int)) (h : Int) : Bool := L.any fun p => hasB p.1 p.2 h
/-- Are all of them right? -/
def okL (L : List (Int × Int)) : Bool := L.all fun p => okB p.1 p.2
/-- The first fault of some. -/
def faN : List (Int × Int) → Int
  | [] => 0
  | p :: r => if okB p.1 p.2 then faN r else refN p.1 p.2
/-- The fault of some. -/
def fcN (L : List (Int × Int)) : Int := if 40 < L.length then 4 else faN L
/-- May they be asked? -/
def okC (L : List (Int × Int)) : Bool := !decide (40 < L.length) && okL L
/-- The headers below k that some have. -/
def hsTo (L : List (Int × Int)) (k : Nat) : List Int := ((List.range k).filter fun (h : Nat) => anyB L (h : Int)).map fun (h : Nat) => (h : Int)
theorem hs_hit {L : List (Int × Int)} {k : Nat} (h : anyB L (k : Int) = true) : hsTo L (k + 1) = hsTo L k ++ [(k : Int)] := by
  simp [hsTo, List.range_succ, List.filter_append, h]
theorem hs_miss {L : List (Int × Int)} {k : Nat} (h : anyB L (k : Int) = false) : hsTo L (k + 1) = hsTo L k := by
  simp [hsTo, List.range_succ, List.filter_append, h]
theorem hs_le (L : List (Int × Int)) (k : Nat) : (hsTo L k).length ≤ k := by
  have := List.length_filter_le (fun (h : Nat) => anyB L (h : Int)) (List.range k)
  simp only [hsTo, List.length_map]; simpa using this
theorem hs_same {L M : List (Int × Int)} (h : ∀ k : Nat, k < 16 → anyB L (k : Int) = anyB M (k : Int)) : hsTo L 16 = hsTo M 16 := by
  simp only [hsTo]
  congr 1
  apply List.filter_congr
  intro k hk
  exact h k (List.mem_range.1 hk)

theorem faN_ok {L : List (Int × Int)} (h : okL L = true) : faN L = 0 := by
  induction L with
  | nil => rfl
  | cons p r ih => simp only [okL, List.all_cons, Bool.and_eq_true] at h; simp [faN, h.1]; exact ih h.2
theorem okL_take {L : List (Int × Int)} {k : Nat} (h : okL L = true) : okL (L.take k) = true := by
  simp only [okL, List.all_eq_true] at *
  exact fun p hp => h p (List.mem_of_mem_take hp)
theorem okL_at {L : List (Int × Int)} {k : Nat} (h : okL L = true) (hk : k < L.length) : okB (L[k]).1 (L[k]).2 = true := by
  simp only [okL, List.all_eq_true] at h
  exact h _ (List.getElem_mem hk)
/-- The first that is not right tells the fault. -/
theorem faN_at {L : List (Int × Int)} {k : Nat} (hk : k < L.length) (h : okL (L.take k) = true) (h2 : okB (L[k]).1 (L[k]).2 = false) : faN L = refN (L[k]).1 (L[k]).2 ∧ okL L = false := by
  induction L generalizing k with
  | nil => simp at hk
  | cons p r ih =>
    cases k with
    | zero => simp at h2; simp [faN, okL, h2]
    | succ k =>
      simp only [List.take_succ_cons, okL, List.all_cons, Bool.and_eq_true] at h
      simp only [List.getElem_cons_succ] at h2 ⊢
      obtain ⟨h3, h4⟩ := ih (by simpa using hk) h.2 h2
      exact ⟨by simp [faN, h.1, h3], by simp only [okL, List.all_cons]; simp only [okL] at h4; simp [h4]⟩
theorem okL_next {L : List (Int × Int)} {k : Nat} (hk : k < L.length) (h : okL (L.take k) = true) (h2 : okB (L[k]).1 (L[k]).2 = true) : okL (L.take (k + 1)) = true := by
  rw [List.take_succ_eq_append_getElem hk]
  simp only [okL, List.all_append, Bool.and_eq_true] at *
  simp [h, h2]
theorem any_next {L : List (Int × Int)} {k : Nat} {h : Int} (hk : k < L.length) (h1 : anyB (L.take k) h = false) (h2 : hasB (L[k]).1 (L[k]).2 h = false) : anyB (L.take (k + 1)) h = false := by
  rw [List.take_succ_eq_append_getElem hk]
  simp only [anyB, List.any_append] at *
  simp [h1, h2]
theorem any_hit {L : List (Int × Int)} {k : Nat} {h : Int} (hk : k < L.length) (h2 : hasB (L[k]).1 (L[k]).2 h = true) : anyB L h = true := by
  simp only [anyB, List.any_eq_true]
  exact ⟨_, List.getElem_mem hk, h2⟩

/-- One bit of one cube taken from another: Mask and Bits of what is cut further, and the pieces. -/
def l1 (n c : Int) (s : Int × Int × List (Int × Int)) (B : Int) : Int × Int × List (Int × Int) :=
  if bits .and .i64 n B == 0 || !(bits .and .i64 s.1 B == 0) then s else
  (bits .or .i64 s.1 B, bits .or .i64 s.2.1 (bits .and .i64 B c), s.2.2 ++ [(bits .or .i64 s.1 B, bits .or .i64 s.2.1 (bits .andNot .i64 B c))])
def l1To (m b n c : Int) : Nat → Int × Int × List (Int × Int)
  | 0 => (m, b, [])
  | k + 1 => l1 n c (l1To m b n c k) (bitN k)
/-- One cube less another one. -/
def less1 (a q : Int × Int) : List (Int × Int) := if mtOk a.1 a.2 q.1 q.2 then (l1To a.1 a.2 q.1 q.2 4).2.2 else [a]
theorem l1_len (m b n c : Int) (k : Nat) : (l1To m b n c k).2.2.length ≤ k := by
  induction k with
  | zero => simp [l1To]
  | succ k ih =>
    simp only [l1To, l1]
    split
    · omega
    · simp only [List.length_append, List.length_cons, List.length_nil]; omega
theorem less1_len (a q : Int × Int) : (less1 a q).length ≤ 4 := by
  unfold less1; split
  · exact l1_len _ _ _ _ 4
  · simp
/-- A cube less others. -/
def lessL (a : Int × Int) (L : List (Int × Int)) : List (Int × Int) := L.foldl (fun left q => left.flatMap fun x => less1 x q) [a]
theorem lessL_next {a : Int × Int} {L : List (Int × Int)} {k : Nat} (hk : k < L.length) : lessL a (L.take (k + 1)) = (lessL a (L.take k)).flatMap fun x => less1 x L[k] := by
  rw [List.take_succ_eq_append_getElem hk, lessL, List.foldl_append]
  rfl
theorem flat_next {S : List (Int × Int)} {q : Int × Int} {k : Nat} (hk : k < S.length) : (S.take (k + 1)).flatMap (fun x => less1 x q) = (S.take k).flatMap (fun x => less1 x q) ++ less1 S[k] q := by
  rw [List.take_succ_eq_append_getElem hk, List.flatMap_append, List.flatMap_cons, List.flatMap_nil, List.append_nil]
theorem flat_len (S : List (Int × Int)) (q : Int × Int) : (S.flatMap fun x => less1 x q).length ≤ 4 * S.length := by
  induction S with
  | nil => simp
  | cons x r ih => have := less1_len x q; simp only [List.flatMap_cons, List.length_append, List.length_cons]; omega

/-- How many of them have a header. -/
def cntH (S : List (Int × Int)) (h : Nat) : Nat := S.countP fun p => hasB p.1 p.2 (h : Int)
/-- Are cubes right, and has each header that is asked for just one of them, and none any other? -/
structure Parts (S : List (Int × Int)) (f : Nat → Bool) : Prop where
  ok : okL S = true
  cnt : ∀ h, h < 16 → cntH S h = if f h then 1 else 0

theorem less_all : (rights.all fun p => rights.all fun q => okL (less1 p q) && (List.range 16).all fun h => cntH (less1 p q) h == if hasB p.1 p.2 (h : Int) && !hasB q.1 q.2 (h : Int) then 1 else 0) = true := by decide +kernel
theorem less1_parts {a q : Int × Int} (h1 : okB a.1 a.2 = true) (h2 : okB q.1 q.2 = true) : Parts (less1 a q) fun h => hasB a.1 a.2 (h : Int) && !hasB q.1 q.2 (h : Int) := by
  have := of_all2 (P := fun m b n c => okL (less1 (m, b) (n, c)) && (List.range 16).all fun h => cntH (less1 (m, b) (n, c)) h == if hasB m b (h : Int) && !hasB n c (h : Int) then 1 else 0) less_all h1 h2
  simp only [Bool.and_eq_true, List.all_eq_true, List.mem_range, beq_iff_eq] at this
  exact ⟨this.1, fun h hh => by simpa using this.2 h hh⟩
theorem parts_one {a : Int × Int} (h1 : okB a.1 a.2 = true) : Parts [a] fun h => hasB a.1 a.2 (h : Int) := by
  refine ⟨by simp [okL, h1], fun h _ => ?_⟩
  simp [cntH, List.countP_cons]
theorem parts_less {S : List (Int × Int)} {q : Int × Int} (h1 : okL S = true) (h2 : okB q.1 q.2 = true) : okL (S.flatMap fun x => less1 x q) = true ∧ ∀ h, h < 16 → cntH (S.flatMap fun x => less1 x q) h = if hasB q.1 q.2 (h : Int) then 0 else cntH S h := by
  induction S with
  | nil => simp [okL, cntH]
  | cons x r ih =>
    simp only [okL, List.all_cons, Bool.and_eq_true] at h1
    obtain ⟨i1, i2⟩ := ih h1.2
    obtain ⟨j1, j2⟩ := less1_parts h1.1 h2
    refine ⟨?_, fun h hh => ?_⟩
    · simp only [List.flatMap_cons, okL, List.all_append, Bool.and_eq_true]
      exact ⟨j1, i1⟩
    · have e1 := i2 h hh
      have e2 := j2 h hh
      simp only [List.flatMap_cons, cntH, List.countP_append, List.countP_cons] at *
      rw [e1, e2]
      cases hasB q.1 q.2 (h : Int) <;> simp
      omega
theorem if_or (x y : Bool) (n : Nat) : (if y = true then 0 else if x = true then 0 else n) = if (x || y) = true then 0 else n := by cases x <;> cases y <;> rfl
theorem parts_lessL {a : Int × Int} {L : List (Int × Int)} (h1 : okB a.1 a.2 = true) (h2 : okL L = true) : Parts (lessL a L) fun h => hasB a.1 a.2 (h : Int) && !anyB L (h : Int) := by
  have key : ∀ (L S : List (Int × Int)), okL L = true → okL S = true → okL (L.foldl (fun left q => left.flatMap fun x => less1 x q) S) = true ∧ ∀ h, h < 16 → cntH (L.foldl (fun left q => left.flatMap fun x => less1 x q) S) h = if anyB L (h : Int) then 0 else cntH S h := by
    intro L
    induction L with
    | nil => intro S _ hS; exact ⟨hS, fun h _ => by simp [anyB]⟩
    | cons q r ih =>
      intro S hL hS
      simp only [okL, List.all_cons, Bool.and_eq_true] at hL
      obtain ⟨i1, i2⟩ := parts_less hS hL.1
      obtain ⟨j1, j2⟩ := ih _ hL.2 i1
      refine ⟨j1, fun h hh => ?_⟩
      rw [List.foldl_cons, j2 h hh, i2 h hh]
      simp only [anyB, List.any_cons]
      exact if_or _ _ _
  obtain ⟨k1, k2⟩ := key L [a] h2 (parts_one h1).ok
  refine ⟨k1, fun h hh => ?_⟩
  have := (parts_one h1).cnt h hh
  rw [lessL, k2 h hh, this]
  cases anyB L (h : Int) <;> simp

/-- How many headers a cube has. -/
def nh (p : Int × Int) : Nat := (List.range 16).countP fun (h : Nat) => hasB p.1 p.2 (h : Int)
def tot : List (Int × Int) → Nat
  | [] => 0
  | p :: r => nh p + tot r
theorem nh_all : (rights.all fun p => decide (0 < nh p)) = true := by decide +kernel
theorem nh_pos {p : Int × Int} (h : okB p.1 p.2 = true) : 0 < nh p := by
  have := of_all1 (P := fun m b => decide (0 < nh (m, b))) nh_all h
  simpa using this
theorem len_tot {S : List (Int × Int)} (h : okL S = true) : S.length ≤ tot S := by
  induction S with
  | nil => simp [tot]
  | cons p r ih =>
    simp only [okL, List.all_cons, Bool.and_eq_true] at h
    have := ih h.2
    have := nh_pos h.1
    simp only [tot, List.length_cons]; omega
theorem sum_add (f g : Nat → Nat) (l : List Nat) : (l.map fun h => f h + g h).sum = (l.map f).sum + (l.map g).sum := by
  induction l with
  | nil => rfl
  | cons x r ih => simp only [List.map_cons, List.sum_cons, ih]; omega
theorem sum_countP (p : Nat → Bool) (l : List Nat) : (l.map fun h => if p h then 1 else 0).sum = l.countP p := by
  induction l with
  | nil => rfl
  | cons x r ih => simp only [List.map_cons, List.sum_cons, ih, List.countP_cons]; split <;> omega
theorem tot_sum (S : List (Int × Int)) : tot S = ((List.range 16).map fun h => cntH S h).sum := by
  induction S with
  | nil => decide
  | cons p r ih =>
    have e : (fun h => cntH (p :: r) h) = fun h => cntH r h + if hasB p.1 p.2 ((h : Nat) : Int) then 1 else 0 := by
      funext h; simp [cntH, List.countP_cons]
    rw [e, sum_add, ← ih, sum_countP, tot, nh]; omega
/-- Together they have as many headers as are asked for. -/
theorem parts_tot {S : List (Int × Int)} {f : Nat → Bool} (h : Parts S f) : tot S = (List.range 16).countP f := by
  rw [tot_sum, ← sum_countP]
  congr 1
  exact List.map_congr_left fun k hk => h.cnt k (List.mem_range.1 hk)
theorem parts_len {S : List (Int × Int)} {f : Nat → Bool} (h : Parts S f) : S.length ≤ 16 := by
  have h1 := len_tot h.ok
  have h2 := parts_tot h
  have h3 : (List.range 16).countP f ≤ 16 := by have := List.countP_le_length (p := f) (l := List.range 16); simpa using this
  omega
theorem parts_any {S : List (Int × Int)} {f : Nat → Bool} (h : Parts S f) {k : Nat} (hk : k < 16) : anyB S (k : Int) = f k := by
  have h1 := h.cnt k hk
  have h2 : anyB S (k : Int) = decide (0 < cntH S k) := by
    rw [Bool.eq_iff_iff, decide_eq_true_eq, cntH, List.countP_pos_iff, anyB, List.any_eq_true]
  rw [h2, h1]; cases f k <;> simp
theorem parts_none {S : List (Int × Int)} {f : Nat → Bool} (h : Parts S f) (hf : ∀ k, k < 16 → f k = false) : S = [] := by
  have h1 := len_tot h.ok
  have h2 := parts_tot h
  have h3 : (List.range 16).countP f = 0 := by
    rw [List.countP_eq_zero]; intro k hk; simp [hf k (List.mem_range.1 hk)]
  have : S.length = 0 := by omega
  exact List.length_eq_zero_iff.1 this
end Go.Proofs.YtclecpcnmfhhcaaDoor
