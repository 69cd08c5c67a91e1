/- Who is where, by the place in a list; who is at the other end, by a map; a line of switches: plain lists. No program in it. -/
import Derived.Test.YtfbocionnjliladBut
import Derived.Test.YtfbocionnjliladBfsMath
import Derived.Test.YtfbocionnjliladGen
namespace Go.Proofs.Ytfbocionnjlilad
open Go.RowKit
set_option linter.unusedVariables false

theorem at_ix (Hs : List (ByteArray × (Int × Int))) (s : Int × Int) : (ixG (fun h => sq h.2 s) Hs = -1 ∧ atO Hs s = none) ∨ ∃ (k : Nat) (hk : k < Hs.length), ixG (fun h => sq h.2 s) Hs = k ∧ atO Hs s = some Hs[k].1 := by
  induction Hs with
  | nil => exact .inl ⟨rfl, rfl⟩
  | cons h Hs ih =>
    rw [atO]
    by_cases e : sq h.2 s = true
    · refine .inr ⟨0, by simp, ?_, ?_⟩
      · exact ixG_hit (L := h :: Hs) (k := 0) (by simp) (by simp) e
      · have e2 := (sq_iff _ _).1 e
        rw [if_pos (by rw [e2]; exact beq_self_eq_true _)]
        rfl
    · have en : ¬ (h.2 == s) = true := fun h2 => e ((sq_iff _ _).2 (by simpa using h2))
      rw [if_neg en]
      have ef : sq h.2 s = false := by simpa using e
      rcases ih with ⟨h1, h2⟩ | ⟨k, hk, h1, h2⟩
      · refine .inl ⟨?_, h2⟩
        unfold ixG at h1 ⊢
        rw [List.any_cons, ef, Bool.false_or]
        cases ha : Hs.any fun h => sq h.2 s
        · rfl
        · rw [ha, if_pos rfl] at h1
          omega
      · refine .inr ⟨k + 1, by simp; omega, ?_, by simpa using h2⟩
        unfold ixG at h1 ⊢
        rw [List.any_cons, ef, Bool.false_or]
        cases ha : Hs.any fun h => sq h.2 s
        · rw [ha] at h1
          simp at h1
        · rw [ha, if_pos rfl] at h1
          rw [if_pos rfl, List.findIdx_cons, ef]
          simp
          omega
theorem where_ix (Hs : List (ByteArray × (Int × Int))) (n : ByteArray) : (ixG (fun h => h.1 == n) Hs = -1 ∧ whereO Hs n = none) ∨ ∃ (k : Nat) (hk : k < Hs.length), ixG (fun h => h.1 == n) Hs = k ∧ whereO Hs n = some Hs[k].2 := by
  induction Hs with
  | nil => exact .inl ⟨rfl, rfl⟩
  | cons h Hs ih =>
    rw [whereO]
    by_cases e : (h.1 == n) = true
    · refine .inr ⟨0, by simp, ?_, ?_⟩
      · exact ixG_hit (L := h :: Hs) (k := 0) (by simp) (by simp) e
      · rw [if_pos e]
        rfl
    · rw [if_neg e]
      have ef : (h.1 == n) = false := by
        cases hh : (h.1 == n)
        · rfl
        · exact absurd hh e
      rcases ih with ⟨h1, h2⟩ | ⟨k, hk, h1, h2⟩
      · refine .inl ⟨?_, h2⟩
        unfold ixG at h1 ⊢
        rw [List.any_cons, ef, Bool.false_or]
        cases ha : Hs.any fun h => h.1 == n
        · rfl
        · rw [ha, if_pos rfl] at h1
          omega
      · refine .inr ⟨k + 1, by simp; omega, ?_, by simpa using h2⟩
        unfold ixG at h1 ⊢
        rw [List.any_cons, ef, Bool.false_or]
        cases ha : Hs.any fun h => h.1 == n
        · rw [ha] at h1
          simp at h1
        · rw [ha, if_pos rfl] at h1
          rw [if_pos rfl, List.findIdx_cons, ef]
          simp
          omega
/-- The answers' numbers. -/
def atN (Hs : List (ByteArray × (Int × Int))) (s : Int × Int) : Int := ixG (fun h => sq h.2 s) Hs
def whN (Hs : List (ByteArray × (Int × Int))) (n : ByteArray) : Int := ixG (fun h => h.1 == n) Hs
theorem peer_app (l : (Int × Int) × (Int × Int)) (s : Int × Int) : ∀ Ls : List ((Int × Int) × (Int × Int)), peerO (Ls ++ [l]) s = match peerO Ls s with | some p => some p | none => if l.1 == s then some l.2 else if l.2 == s then some l.1 else none
  | [] => by simp [peerO]
  | x :: Ls => by
    rw [List.cons_append, peerO, peerO]
    by_cases h1 : (x.1 == s) = true
    · rw [if_pos h1, if_pos h1]
    · rw [if_neg h1, if_neg h1]
      by_cases h2 : (x.2 == s) = true
      · rw [if_pos h2, if_pos h2]
      · rw [if_neg h2, if_neg h2]
        exact peer_app l s Ls
/-- A map that has for each spot of these links the other end. -/
def PM (M : List ((Int × Int) × (Int × Int))) (Ls : List ((Int × Int) × (Int × Int))) : Prop := ∀ s, mget sq s M = peerO Ls s
theorem pm_nil : PM [] [] := fun s => rfl
theorem pm_put {M Ls : List ((Int × Int) × (Int × Int))} {x y : Int × Int} (h : PM M Ls) (hd : (spsL (Ls ++ [(x, y)])).Nodup) : PM (mput sq y x (mput sq x y M)) (Ls ++ [(x, y)]) := by
  have e : spsL (Ls ++ [(x, y)]) = spsL Ls ++ [x, y] := by simp [spsL]
  rw [e, List.nodup_append] at hd
  obtain ⟨_, h2, h3⟩ := hd
  have hxy : ¬ x = y := by simpa using h2
  have hno : ∀ z, z = x ∨ z = y → peerO Ls z = none := by
    intro z hz
    cases hp : peerO Ls z with
    | none => rfl
    | some p => exact absurd rfl (h3 z (peer_in hp).1 z (by rcases hz with rfl | rfl <;> simp))
  intro s
  rw [mget_put sq_iff, mget_put sq_iff, peer_app]
  by_cases e1 : s = y
  · subst e1
    rw [if_pos ((sq_iff _ _).2 rfl), hno s (.inr rfl)]
    simp [hxy]
  · rw [if_neg (fun e => e1 ((sq_iff _ _).1 e))]
    by_cases e2 : s = x
    · subst e2
      rw [if_pos ((sq_iff _ _).2 rfl), hno s (.inl rfl)]
      simp
    · rw [if_neg (fun e => e2 ((sq_iff _ _).1 e)), h s]
      cases hp : peerO Ls s with
      | some p => rfl
      | none =>
        have n1 : ¬ x = s := fun e => e2 e.symm
        have n2 : ¬ y = s := fun e => e1 e.symm
        simp [n1, n2]
theorem sps_app (Ls Ms : List ((Int × Int) × (Int × Int))) : spsL (Ls ++ Ms) = spsL Ls ++ spsL Ms := by simp [spsL]
theorem sps_nd {Ls : List ((Int × Int) × (Int × Int))} (h : (spsL Ls).Nodup) (k : Nat) : (spsL (Ls.take k)).Nodup := by
  have e : Ls = Ls.take k ++ Ls.drop k := (List.take_append_drop k Ls).symm
  rw [e, sps_app, List.nodup_append] at h
  exact h.1
/-- How far it is in a topology, from one switch to another one. -/
def faN (S : Int) (Ls : List ((Int × Int) × (Int × Int))) (a b : Int) : Int := farN S.toNat (fun x y => joinB Ls x y) a.toNat b.toNat
/-- Is there such a switch? -/
def swB (S a : Int) : Bool := decide (1 ≤ a) && decide (a ≤ S)
/-- The fault of a question at a spot. -/
def csN (S : Int) (Ls : List ((Int × Int) × (Int × Int))) (Hs : List (ByteArray × (Int × Int))) (s : Int × Int) : Int := if tpN S Ls Hs = 0 then (if spB S s then 0 else 1) else tpN S Ls Hs
def peN (S : Int) (Ls : List ((Int × Int) × (Int × Int))) (Hs : List (ByteArray × (Int × Int))) (s : Int × Int) : Int := if csN S Ls Hs s = 0 then (if (peerO Ls s).isSome then 0 else 5) else csN S Ls Hs s
def peV (S : Int) (Ls : List ((Int × Int) × (Int × Int))) (Hs : List (ByteArray × (Int × Int))) (s : Int × Int) : Int × Int := if peN S Ls Hs s = 0 then (peerO Ls s).getD (0, 0) else (0, 0)
def asN (S : Int) (Ls : List ((Int × Int) × (Int × Int))) (Hs : List (ByteArray × (Int × Int))) (s : Int × Int) : Int := if csN S Ls Hs s = 0 then (if (atO Hs s).isSome then 0 else 5) else csN S Ls Hs s
def asV (S : Int) (Ls : List ((Int × Int) × (Int × Int))) (Hs : List (ByteArray × (Int × Int))) (s : Int × Int) : ByteArray := if asN S Ls Hs s = 0 then (atO Hs s).getD ByteArray.empty else ByteArray.empty
def weN (S : Int) (Ls : List ((Int × Int) × (Int × Int))) (Hs : List (ByteArray × (Int × Int))) (n : ByteArray) : Int := if tpN S Ls Hs = 0 then (if (whereO Hs n).isSome then 0 else 5) else tpN S Ls Hs
def weV (S : Int) (Ls : List ((Int × Int) × (Int × Int))) (Hs : List (ByteArray × (Int × Int))) (n : ByteArray) : Int × Int := if weN S Ls Hs n = 0 then (whereO Hs n).getD (0, 0) else (0, 0)
/-- The fault of a question at switches. -/
def cwN (S : Int) (Ls : List ((Int × Int) × (Int × Int))) (Hs : List (ByteArray × (Int × Int))) (l : List Int) : Int := if tpN S Ls Hs = 0 then (if l.any fun a => !swB S a then 1 else 0) else tpN S Ls Hs
def neL (S : Int) (Ls : List ((Int × Int) × (Int × Int))) (Hs : List (ByteArray × (Int × Int))) (a : Int) : List Int := if cwN S Ls Hs [a] = 0 then nrL S Ls a else []
def fsN (S : Int) (Ls : List ((Int × Int) × (Int × Int))) (Hs : List (ByteArray × (Int × Int))) (a b : Int) : Int := if cwN S Ls Hs [a, b] = 0 then (if 0 ≤ faN S Ls a b then 0 else 5) else cwN S Ls Hs [a, b]
def fsV (S : Int) (Ls : List ((Int × Int) × (Int × Int))) (Hs : List (ByteArray × (Int × Int))) (a b : Int) : Int := if fsN S Ls Hs a b = 0 then faN S Ls a b else 0
theorem sw_of {S a : Int} : swB S a = true ↔ 1 ≤ a ∧ a ≤ S := by simp [swB]
theorem cw_0 {S : Int} {Ls : List ((Int × Int) × (Int × Int))} {Hs : List (ByteArray × (Int × Int))} {l : List Int} : cwN S Ls Hs l = 0 ↔ tpN S Ls Hs = 0 ∧ ∀ a ∈ l, 1 ≤ a ∧ a ≤ S := by
  unfold cwN
  by_cases h : tpN S Ls Hs = 0
  · rw [if_pos h]
    cases ha : l.any fun a => !swB S a
    · simp only [Bool.false_eq_true, if_false, true_iff]
      refine ⟨h, fun a hm => ?_⟩
      rw [List.any_eq_false] at ha
      have := ha a hm
      exact sw_of.1 (by simpa using this)
    · simp only [if_true]
      refine ⟨fun e => absurd e (by decide), fun ⟨_, e⟩ => ?_⟩
      rw [List.any_eq_true] at ha
      obtain ⟨a, hm, hn⟩ := ha
      have := sw_of.2 (e a hm)
      rw [this] at hn
      cases hn
  · rw [if_neg h]
    exact ⟨fun e => absurd e h, fun e => e.1⟩
theorem fs_0 {S : Int} {Ls : List ((Int × Int) × (Int × Int))} {Hs : List (ByteArray × (Int × Int))} {a b : Int} : fsN S Ls Hs a b = 0 ↔ (tpN S Ls Hs = 0 ∧ (1 ≤ a ∧ a ≤ S) ∧ (1 ≤ b ∧ b ≤ S)) ∧ 0 ≤ faN S Ls a b := by
  unfold fsN
  by_cases h : cwN S Ls Hs [a, b] = 0
  · rw [if_pos h]
    have h2 := cw_0.1 h
    have h3 : tpN S Ls Hs = 0 ∧ (1 ≤ a ∧ a ≤ S) ∧ (1 ≤ b ∧ b ≤ S) := ⟨h2.1, h2.2 a (by simp), h2.2 b (by simp)⟩
    by_cases hf : 0 ≤ faN S Ls a b
    · rw [if_pos hf]; exact ⟨fun _ => ⟨h3, hf⟩, fun _ => rfl⟩
    · rw [if_neg hf]; exact ⟨fun e => absurd e (by decide), fun e => absurd e.2 hf⟩
  · rw [if_neg h]
    refine ⟨fun e => absurd e h, fun e => absurd (cw_0.2 ⟨e.1.1, ?_⟩) h⟩
    intro x hx
    simp at hx
    rcases hx with rfl | rfl
    · exact e.1.2.1
    · exact e.1.2.2
/-- As far back. -/
theorem fs_sy (S : Int) (Ls : List ((Int × Int) × (Int × Int))) (Hs : List (ByteArray × (Int × Int))) (a b : Int) : (fsN S Ls Hs a b = 0 ↔ fsN S Ls Hs b a = 0) ∧ fsV S Ls Hs a b = fsV S Ls Hs b a := by
  have key : tpN S Ls Hs = 0 → (1 ≤ a ∧ a ≤ S) → (1 ≤ b ∧ b ≤ S) → faN S Ls a b = faN S Ls b a := fun h ha hb => by
    have := tp_0 h
    exact far_sy (fun x y => join_sy Ls x y) (by omega) (by omega) (by omega) (by omega) (by omega)
  have hi : fsN S Ls Hs a b = 0 ↔ fsN S Ls Hs b a = 0 := by
    rw [fs_0, fs_0]
    constructor
    · rintro ⟨⟨h, ha, hb⟩, hf⟩
      exact ⟨⟨h, hb, ha⟩, by rw [← key h ha hb]; exact hf⟩
    · rintro ⟨⟨h, hb, ha⟩, hf⟩
      exact ⟨⟨h, ha, hb⟩, by rw [key h ha hb]; exact hf⟩
  refine ⟨hi, ?_⟩
  unfold fsV
  by_cases h : fsN S Ls Hs a b = 0
  · rw [if_pos h, if_pos (hi.1 h)]
    have h2 := (fs_0.1 h).1
    exact key h2.1 h2.2.1 h2.2.2
  · rw [if_neg h, if_neg (fun e => h (hi.2 e))]
/-- By a third one no nearer. -/
theorem fs_tr {S : Int} {Ls : List ((Int × Int) × (Int × Int))} {Hs : List (ByteArray × (Int × Int))} {a b c : Int} (h1 : fsN S Ls Hs a c = 0) (h2 : fsN S Ls Hs c b = 0) : fsN S Ls Hs a b = 0 ∧ fsV S Ls Hs a b ≤ fsV S Ls Hs a c + fsV S Ls Hs c b := by
  have k1 := fs_0.1 h1
  have k2 := fs_0.1 h2
  have ht := tp_0 k1.1.1
  have h3 := far_tr (S := S.toNat) (J := fun x y => joinB Ls x y) (a := a.toNat) (b := b.toNat) (c := c.toNat) (by omega) (by omega) (by omega) (by omega) (by omega) k1.2 k2.2
  have h4 : fsN S Ls Hs a b = 0 := fs_0.2 ⟨⟨k1.1.1, k1.1.2.1, k2.1.2.2⟩, h3.1⟩
  refine ⟨h4, ?_⟩
  unfold fsV
  rw [if_pos h4, if_pos h1, if_pos h2]
  exact h3.2
/-- No way at all to itself alone. -/
theorem fs_same {S : Int} {Ls : List ((Int × Int) × (Int × Int))} {Hs : List (ByteArray × (Int × Int))} {a b : Int} (h : fsN S Ls Hs a b = 0) : 0 < fsV S Ls Hs a b ∨ a = b := by
  have k := fs_0.1 h
  have ht := tp_0 k.1.1
  unfold fsV
  rw [if_pos h]
  by_cases e : faN S Ls a b = 0
  · right
    have := (far_0 (S := S.toNat) (J := fun x y => joinB Ls x y) (a := a.toNat) (b := b.toNat) (by omega) (by omega) (by omega)).1 e
    omega
  · left
    have := k.2
    omega
theorem fa_lt (S : Int) (Ls : List ((Int × Int) × (Int × Int))) (a b : Int) : -1 ≤ faN S Ls a b ∧ faN S Ls a b ≤ 6 := by
  rcases fst_or (p := fun n => rcB S.toNat (fun x y => joinB Ls x y) a.toNat n b.toNat) (k := 7) (n := 0) with ⟨e, _⟩ | ⟨m, _, hm, e, _⟩
  · have : faN S Ls a b = -1 := e
    omega
  · have : faN S Ls a b = m := e
    omega
theorem fv_lt (S : Int) (Ls : List ((Int × Int) × (Int × Int))) (Hs : List (ByteArray × (Int × Int))) (a b : Int) : 0 ≤ fsV S Ls Hs a b ∧ fsV S Ls Hs a b ≤ 6 := by
  unfold fsV
  by_cases h : fsN S Ls Hs a b = 0
  · rw [if_pos h]
    have := (fs_0.1 h).2
    have := fa_lt S Ls a b
    omega
  · rw [if_neg h]; omega
end Go.Proofs.Ytfbocionnjlilad
