/- Contracts and facts on the way to MixTells, joined into one text: TopoMath2, NetMath, StSpot, StHost, MixMath, TableMath, ChangeMath, MixMath2, MixMath3, MixMath4, NetMath2, LineMath. -/
import Derived.Test.YtglnnoglbieaeaaGreatDoorMixTellsP1
import Derived.Test.YtglnnoglbieaeaaGreatDoorRows
import Derived.Lib.SmallJoins
import Derived.Laws.StructEq
import Derived.Maps.OwnOps
/- Who is where, by the place in a list; who is at the other end, by a map; a line of switches: plain lists. No program in it. -/
namespace Go.Proofs.YtglnnoglbieaeaaGreatDoor
open Go.RowKit
set_option linter.unusedVariables false

theorem at_ix (Hs : List (ByteArray × (Int × Int))) (s : Int × Int) : (ixG (fun h => sq h.2 s) Hs = -1 ∧ atO Hs s = none) ∨ ∃ (k : Nat) (hk : k < Hs.length), ixG (fun h => sq h.2 s) Hs = k ∧ atO Hs s = some Hs[k].1 := by
  induction Hs with
  | nil => exact .inl ⟨rfl, rfl⟩
  | cons h Hs ih =>
    rw [atO]
    by_cases e : sq h.2 s = true
    · refine .inr ⟨0, by simp, ?_, ?_⟩
      · exact ixG_hit (L := h :: Hs) (k := 0) (by simp) (by simp) e
      · have e2 := (sq_iff _ _).1 e
        rw [if_pos (by rw [e2]; exact beq_self_eq_true _)]
        rfl
    · have en : ¬ (h.2 == s) = true := fun h2 => e ((sq_iff _ _).2 (by simpa using h2))
      rw [if_neg en]
      have ef : sq h.2 s = false := by simpa using e
      rcases ih with ⟨h1, h2⟩ | ⟨k, hk, h1, h2⟩
      · refine .inl ⟨?_, h2⟩
        unfold ixG at h1 ⊢
        rw [List.any_cons, ef, Bool.false_or]
        cases ha : Hs.any fun h => sq h.2 s
        · rfl
        · rw [ha, if_pos rfl] at h1
          omega
      · refine .inr ⟨k + 1, by simp; omega, ?_, by simpa using h2⟩
        unfold ixG at h1 ⊢
        rw [List.any_cons, ef, Bool.false_or]
        cases ha : Hs.any fun h => sq h.2 s
        · rw [ha] at h1
          simp at h1
        · rw [ha, if_pos rfl] at h1
          rw [if_pos rfl, List.findIdx_cons, ef]
          simp
          omega
theorem where_ix (Hs : List (ByteArray × (Int × Int))) (n : ByteArray) : (ixG (fun h => h.1 == n) Hs = -1 ∧ whereO Hs n = none) ∨ ∃ (k : Nat) (hk : k < Hs.length), ixG (fun h => h.1 == n) Hs = k ∧ whereO Hs n = some Hs[k].2 := by
  induction Hs with
  | nil => exact .inl ⟨rfl, rfl⟩
  | cons h Hs ih =>
    rw [whereO]
    by_cases e : (h.1 == n) = true
    · refine .inr ⟨0, by simp, ?_, ?_⟩
      · exact ixG_hit (L := h :: Hs) (k := 0) (by simp) (by simp) e
      · rw [if_pos e]
        rfl
    · rw [if_neg e]
      have ef : (h.1 == n) = false := by
        cases hh : (h.1 == n)
        · rfl
        · exact absurd hh e
      rcases ih with ⟨h1, h2⟩ | ⟨k, hk, h1, h2⟩
      · refine .inl ⟨?_, h2⟩
        unfold ixG at h1 ⊢
        rw [List.any_cons, ef, Bool.false_or]
        cases ha : Hs.any fun h => h.1 == n
        · rfl
        · rw [ha, if_pos rfl] at h1
          omega
      · refine .inr ⟨k + 1, by simp; omega, ?_, by simpa using h2⟩
        unfold ixG at h1 ⊢
        rw [List.any_cons, ef, Bool.false_or]
        cases ha : Hs.any fun h => h.1 == n
        · rw [ha] at h1
          simp at h1
        · rw [ha, if_pos rfl] at h1
          rw [if_pos rfl, List.findIdx_cons, ef]
          simp
          omega
/-- The answers' numbers. -/
def atN (Hs : List (ByteArray × (Int × Int))) (s : Int × Int) : Int := ixG (fun h => sq h.2 s) Hs
def whN (Hs : List (ByteArray × (Int × Int))) (n : ByteArray) : Int := ixG (fun h => h.1 == n) Hs
theorem peer_app (l : (Int × Int) × (Int × Int)) (s : Int × Int) : ∀ Ls : List ((Int × Int) × (Int × Int)), peerO (Ls ++ [l]) s = match peerO Ls s with | some p => some p | none => if l.1 == s then some l.2 else if l.2 == s then some l.1 else none
  | [] => by simp [peerO]
  | x :: Ls => by
    rw [List.cons_append, peerO, peerO]
    by_cases h1 : (x.1 == s) = true
    · rw [if_pos h1, if_pos h1]
    · rw [if_neg h1, if_neg h1]
      by_cases h2 : (x.2 == s) = true
      · rw [if_pos h2, if_pos h2]
      · rw [if_neg h2, if_neg h2]
        exact peer_app l s Ls
/-- A map that has for each spot of these links the other end. -/
def PM (M : List ((Int × Int) × (Int × Int))) (Ls : List ((Int × Int) × (Int × Int))) : Prop := ∀ s, mget sq s M = peerO Ls s
theorem pm_nil : PM [] [] := fun s => rfl
theorem pm_put {M Ls : List ((Int × Int) × (Int × Int))} {x y : Int × Int} (h : PM M Ls) (hd : (spsL (Ls ++ [(x, y)])).Nodup) : PM (mput sq y x (mput sq x y M)) (Ls ++ [(x, y)]) := by
  have e : spsL (Ls ++ [(x, y)]) = spsL Ls ++ [x, y] := by simp [spsL]
  rw [e, List.nodup_append] at hd
  obtain ⟨_, h2, h3⟩ := hd
  have hxy : ¬ x = y := by simpa using h2
  have hno : ∀ z, z = x ∨ z = y → peerO Ls z = none := by
    intro z hz
    cases hp : peerO Ls z with
    | none => rfl
    | some p => exact absurd rfl (h3 z (peer_in hp).1 z (by rcases hz with rfl | rfl <;> simp))
  intro s
  rw [mget_put sq_iff, mget_put sq_iff, peer_app]
  by_cases e1 : s = y
  · subst e1
    rw [if_pos ((sq_iff _ _).2 rfl), hno s (.inr rfl)]
    simp [hxy]
  · rw [if_neg (fun e => e1 ((sq_iff _ _).1 e))]
    by_cases e2 : s = x
    · subst e2
      rw [if_pos ((sq_iff _ _).2 rfl), hno s (.inl rfl)]
      simp
    · rw [if_neg (fun e => e2 ((sq_iff _ _).1 e)), h s]
      cases hp : peerO Ls s with
      | some p => rfl
      | none =>
        have n1 : ¬ x = s := fun e => e2 e.symm
        have n2 : ¬ y = s := fun e => e1 e.symm
        simp [n1, n2]
theorem sps_app (Ls Ms : List ((Int × Int) × (Int × Int))) : spsL (Ls ++ Ms) = spsL Ls ++ spsL Ms := by simp [spsL]
theorem sps_nd {Ls : List ((Int × Int) × (Int × Int))} (h : (spsL Ls).Nodup) (k : Nat) : (spsL (Ls.take k)).Nodup := by
  have e : Ls = Ls.take k ++ Ls.drop k := (List.take_append_drop k Ls).symm
  rw [e, sps_app, List.nodup_append] at h
  exact h.1
/-- How far it is in a topology, from one switch to another one. -/
def faN (S : Int) (Ls : List ((Int × Int) × (Int × Int))) (a b : Int) : Int := farN S.toNat (fun x y => joinB Ls x y) a.toNat b.toNat
/-- Is there such a switch? -/
def swB (S a : Int) : Bool := decide (1 ≤ a) && decide (a ≤ S)
/-- The fault of a question at a spot. -/
def csN (S : Int) (Ls : List ((Int × Int) × (Int × Int))) (Hs : List (ByteArray × (Int × Int))) (s : Int × Int) : Int := if tpN S Ls Hs = 0 then (if spB S s then 0 else 1) else tpN S Ls Hs
def peN (S : Int) (Ls : List ((Int × Int) × (Int × Int))) (Hs : List (ByteArray × (Int × Int))) (s : Int × Int) : Int := if csN S Ls Hs s = 0 then (if (peerO Ls s).isSome then 0 else 5) else csN S Ls Hs s
def peV (S : Int) (Ls : List ((Int × Int) × (Int × Int))) (Hs : List (ByteArray × (Int × Int))) (s : Int × Int) : Int × Int := if peN S Ls Hs s = 0 then (peerO Ls s).getD (0, 0) else (0, 0)
def asN (S : Int) (Ls : List ((Int × Int) × (Int × Int))) (Hs : List (ByteArray × (Int × Int))) (s : Int × Int) : Int := if csN S Ls Hs s = 0 then (if (atO Hs s).isSome then 0 else 5) else csN S Ls Hs s
def asV (S : Int) (Ls : List ((Int × Int) × (Int × Int))) (Hs : List (ByteArray × (Int × Int))) (s : Int × Int) : ByteArray := if asN S Ls Hs s = 0 then (atO Hs s).getD ByteArray.empty else ByteArray.empty
def weN (S : Int) (Ls : List ((Int × Int) × (Int × Int))) (Hs : List (ByteArray × (Int × Int))) (n : ByteArray) : Int := if tpN S Ls Hs = 0 then (if (whereO Hs n).isSome then 0 else 5) else tpN S Ls Hs
def weV (S : Int) (Ls : List ((Int × Int) × (Int × Int))) (Hs : List (ByteArray × (Int × Int))) (n : ByteArray) : Int × Int := if weN S Ls Hs n = 0 then (whereO Hs n).getD (0, 0) else (0, 0)
/-- The fault of a question at switches. -/
def cwN (S : Int) (Ls : List ((Int × Int) × (Int × Int))) (Hs : List (ByteArray × (Int × Int))) (l : List Int) : Int := if tpN S Ls Hs = 0 then (if l.any fun a => !swB S a then 1 else 0) else tpN S Ls Hs
def neL (S : Int) (Ls : List ((Int × Int) × (Int × Int))) (Hs : List (ByteArray × (Int × Int))) (a : Int) : List Int := if cwN S Ls Hs [a] = 0 then nrL S Ls a else []
def fsN (S : Int) (Ls : List ((Int × Int) × (Int × Int))) (Hs : List (ByteArray × (Int × Int))) (a b : Int) : Int := if cwN S Ls Hs [a, b] = 0 then (if 0 ≤ faN S Ls a b then 0 else 5) else cwN S Ls Hs [a, b]
def fsV (S : Int) (Ls : List ((Int × Int) × (Int × Int))) (Hs : List (ByteArray × (Int × Int))) (a b : Int) : Int := if fsN S Ls Hs a b = 0 then faN S Ls a b else 0
theorem sw_of {S a : Int} : swB S a = true ↔ 1 ≤ a ∧ a ≤ S := by simp [swB]
theorem cw_0 {S : Int} {Ls : List ((Int × Int) × (Int × Int))} {Hs : List (ByteArray × (Int × Int))} {l : List Int} : cwN S Ls Hs l = 0 ↔ tpN S Ls Hs = 0 ∧ ∀ a ∈ l, 1 ≤ a ∧ a ≤ S := by
  unfold cwN
  by_cases h : tpN S Ls Hs = 0
  · rw [if_pos h]
    cases ha : l.any fun a => !swB S a
    · simp only [Bool.false_eq_true, if_false, true_iff]
      refine ⟨h, fun a hm => ?_⟩
      rw [List.any_eq_false] at ha
      have := ha a hm
      exact sw_of.1 (by simpa using this)
    · simp only [if_true]
      refine ⟨fun e => absurd e (by decide), fun ⟨_, e⟩ => ?_⟩
      rw [List.any_eq_true] at ha
      obtain ⟨a, hm, hn⟩ := ha
      have := sw_of.2 (e a hm)
      rw [this] at hn
      cases hn
  · rw [if_neg h]
    exact ⟨fun e => absurd e h, fun e => e.1⟩
theorem fs_0 {S : Int} {Ls : List ((Int × Int) × (Int × Int))} {Hs : List (ByteArray × (Int × Int))} {a b : Int} : fsN S Ls Hs a b = 0 ↔ (tpN S Ls Hs = 0 ∧ (1 ≤ a ∧ a ≤ S) ∧ (1 ≤ b ∧ b ≤ S)) ∧ 0 ≤ faN S Ls a b := by
  unfold fsN
  by_cases h : cwN S Ls Hs [a, b] = 0
  · rw [if_pos h]
    have h2 := cw_0.1 h
    have h3 : tpN S Ls Hs = 0 ∧ (1 ≤ a ∧ a ≤ S) ∧ (1 ≤ b ∧ b ≤ S) := ⟨h2.1, h2.2 a (by simp), h2.2 b (by simp)⟩
    by_cases hf : 0 ≤ faN S Ls a b
    · rw [if_pos hf]; exact ⟨fun _ => ⟨h3, hf⟩, fun _ => rfl⟩
    · rw [if_neg hf]; exact ⟨fun e => absurd e (by decide), fun e => absurd e.2 hf⟩
  · rw [if_neg h]
    refine ⟨fun e => absurd e h, fun e => absurd (cw_0.2 ⟨e.1.1, ?_⟩) h⟩
    intro x hx
    simp at hx
    rcases hx with rfl | rfl
    · exact e.1.2.1
    · exact e.1.2.2
/-- As far back. -/
theorem fs_sy (S : Int) (Ls : List ((Int × Int) × (Int × Int))) (Hs : List (ByteArray × (Int × Int))) (a b : Int) : (fsN S Ls Hs a b = 0 ↔ fsN S Ls Hs b a = 0) ∧ fsV S Ls Hs a b = fsV S Ls Hs b a := by
  have key : tpN S Ls Hs = 0 → (1 ≤ a ∧ a ≤ S) → (1 ≤ b ∧ b ≤ S) → faN S Ls a b = faN S Ls b a := fun h ha hb => by
    have := tp_0 h
    exact far_sy (fun x y => join_sy Ls x y) (by omega) (by omega) (by omega) (by omega) (by omega)
  have hi : fsN S Ls Hs a b = 0 ↔ fsN S Ls Hs b a = 0 := by
    rw [fs_0, fs_0]
    constructor
    · rintro ⟨⟨h, ha, hb⟩, hf⟩
      exact ⟨⟨h, hb, ha⟩, by rw [← key h ha hb]; exact hf⟩
    · rintro ⟨⟨h, hb, ha⟩, hf⟩
      exact ⟨⟨h, ha, hb⟩, by rw [key h ha hb]; exact hf⟩
  refine ⟨hi, ?_⟩
  unfold fsV
  by_cases h : fsN S Ls Hs a b = 0
  · rw [if_pos h, if_pos (hi.1 h)]
    have h2 := (fs_0.1 h).1
    exact key h2.1 h2.2.1 h2.2.2
  · rw [if_neg h, if_neg (fun e => h (hi.2 e))]
/-- By a third one no nearer. -/
theorem fs_tr {S : Int} {Ls : List ((Int × Int) × (Int × Int))} {Hs : List (ByteArray × (Int × Int))} {a b c : Int} (h1 : fsN S Ls Hs a c = 0) (h2 : fsN S Ls Hs c b = 0) : fsN S Ls Hs a b = 0 ∧ fsV S Ls Hs a b ≤ fsV S Ls Hs a c + fsV S Ls Hs c b := by
  have k1 := fs_0.1 h1
  have k2 := fs_0.1 h2
  have ht := tp_0 k1.1.1
  have h3 := far_tr (S := S.toNat) (J := fun x y => joinB Ls x y) (a := a.toNat) (b := b.toNat) (c := c.toNat) (by omega) (by omega) (by omega) (by omega) (by omega) k1.2 k2.2
  have h4 : fsN S Ls Hs a b = 0 := fs_0.2 ⟨⟨k1.1.1, k1.1.2.1, k2.1.2.2⟩, h3.1⟩
  refine ⟨h4, ?_⟩
  unfold fsV
  rw [if_pos h4, if_pos h1, if_pos h2]
  exact h3.2
/-- No way at all to itself alone. -/
theorem fs_same {S : Int} {Ls : List ((Int × Int) × (Int × Int))} {Hs : List (ByteArray × (Int × Int))} {a b : Int} (h : fsN S Ls Hs a b = 0) : 0 < fsV S Ls Hs a b ∨ a = b := by
  have k := fs_0.1 h
  have ht := tp_0 k.1.1
  unfold fsV
  rw [if_pos h]
  by_cases e : faN S Ls a b = 0
  · right
    have := (far_0 (S := S.toNat) (J := fun x y => joinB Ls x y) (a := a.toNat) (b := b.toNat) (by omega) (by omega) (by omega)).1 e
    omega
  · left
    have := k.2
    omega
theorem fa_lt (S : Int) (Ls : List ((Int × Int) × (Int × Int))) (a b : Int) : -1 ≤ faN S Ls a b ∧ faN S Ls a b ≤ 6 := by
  rcases fst_or (p := fun n => rcB S.toNat (fun x y => joinB Ls x y) a.toNat n b.toNat) (k := 7) (n := 0) with ⟨e, _⟩ | ⟨m, _, hm, e, _⟩
  · have : faN S Ls a b = -1 := e
    omega
  · have : faN S Ls a b = m := e
    omega
theorem fv_lt (S : Int) (Ls : List ((Int × Int) × (Int × Int))) (Hs : List (ByteArray × (Int × Int))) (a b : Int) : 0 ≤ fsV S Ls Hs a b ∧ fsV S Ls Hs a b ≤ 6 := by
  unfold fsV
  by_cases h : fsN S Ls Hs a b = 0
  · rw [if_pos h]
    have := (fs_0.1 h).2
    have := fa_lt S Ls a b
    omega
  · rw [if_neg h]; omega
end Go.Proofs.YtglnnoglbieaeaaGreatDoor
/- Nets in plain lists: what is wrong with one, where a packet goes out, what becomes of it. No program in it. -/
namespace Go.Proofs.YtglnnoglbieaeaaGreatDoor
open Go.RowKit
set_option linter.unusedVariables false

/-- The fault of the first k tables. -/
def tsTo (Ts : List (List Ru)) : Nat → Int
  | 0 => 0
  | k + 1 => if tsTo Ts k = 0 then tbN (Ts.getD k []) else tsTo Ts k
theorem ts_le {Ts : List (List Ru)} {k : Nat} (h : tsTo Ts k ≠ 0) : ∀ {n : Nat}, k ≤ n → tsTo Ts n = tsTo Ts k
  | 0, hn => by
    obtain rfl : k = 0 := by omega
    rfl
  | n + 1, hn => by
    by_cases e : k = n + 1
    · subst e; rfl
    · have := ts_le h (show k ≤ n by omega)
      rw [tsTo, if_neg (by rw [this]; exact h), this]
/-- The fault of a net. -/
def ntN (S : Int) (Ls : List ((Int × Int) × (Int × Int))) (Hs : List (ByteArray × (Int × Int))) (Ts : List (List Ru)) : Int :=
  if tpN S Ls Hs = 0 then (if (Ts.length : Int) = S then tsTo Ts Ts.length else 3) else tpN S Ls Hs
theorem ts_0 {Ts : List (List Ru)} : ∀ {n : Nat}, tsTo Ts n = 0 → ∀ k, k < n → tbN (Ts.getD k []) = 0
  | 0, _, k, hk => by omega
  | n + 1, h, k, hk => by
    unfold tsTo at h
    by_cases e : tsTo Ts n = 0
    · rw [if_pos e] at h
      by_cases ek : k = n
      · subst ek; exact h
      · exact ts_0 e k (by omega)
    · rw [if_neg e] at h
      exact absurd h e
theorem nt_0 {S : Int} {Ls : List ((Int × Int) × (Int × Int))} {Hs : List (ByteArray × (Int × Int))} {Ts : List (List Ru)} (h : ntN S Ls Hs Ts = 0) : tpN S Ls Hs = 0 ∧ (Ts.length : Int) = S ∧ ∀ k, k < Ts.length → tbN (Ts.getD k []) = 0 := by
  unfold ntN at h
  by_cases e : tpN S Ls Hs = 0
  · rw [if_pos e] at h
    by_cases e2 : (Ts.length : Int) = S
    · rw [if_pos e2] at h
      exact ⟨e, e2, ts_0 h⟩
    · rw [if_neg e2] at h
      omega
  · rw [if_neg e] at h
    exact absurd h e
/-- The fault of a packet: of the net, else of the spot or the header. -/
def cpN (S : Int) (Ls : List ((Int × Int) × (Int × Int))) (Hs : List (ByteArray × (Int × Int))) (Ts : List (List Ru)) (s : Int × Int) (h : Int) : Int :=
  if ntN S Ls Hs Ts = 0 then (if spB S s && hdrB h then 0 else 1) else ntN S Ls Hs Ts
theorem cp_0 {S : Int} {Ls : List ((Int × Int) × (Int × Int))} {Hs : List (ByteArray × (Int × Int))} {Ts : List (List Ru)} {s : Int × Int} {h : Int} (e : cpN S Ls Hs Ts s h = 0) : ntN S Ls Hs Ts = 0 ∧ spB S s = true ∧ hdrB h = true := by
  unfold cpN at e
  by_cases e1 : ntN S Ls Hs Ts = 0
  · rw [if_pos e1] at e
    cases e2 : spB S s && hdrB h
    · rw [e2] at e
      simp at e
    · rw [Bool.and_eq_true] at e2
      exact ⟨e1, e2.1, e2.2⟩
  · rw [if_neg e1] at e
    exact absurd e e1

/-- The rule that counts, if one does, in a table. -/
def roR (t : List Ru) (h : Int) : Ru := t.getD (luI t h).toNat zeR
def Ru.apN (r : Ru) (h : Int) : Int := Proofs.YtglnnoglbieaeaaGreatDoor.apN r.p r.m r.b r.o r.s r.v h
def Ru.apR (r : Ru) (h : Int) : Int := Proofs.YtglnnoglbieaeaaGreatDoor.apR r.p r.m r.b r.o r.s r.v h
/-- Where, and with which header, a packet goes out that a table meets. -/
def stT (t : List Ru) (p : (Int × Int) × Int) : Option ((Int × Int) × Int) :=
  if luN t p.2 = 0 then (if (roR t p.2).apN p.2 = 0 then some ((p.1.1, (roR t p.2).o), (roR t p.2).apR p.2) else none) else none
def taT (Ts : List (List Ru)) (s : Int) : List Ru := Ts.getD (s - 1).toNat []
def stO (Ts : List (List Ru)) (p : (Int × Int) × Int) : Option ((Int × Int) × Int) := stT (taT Ts p.1.1) p
/-- Are two hops the same? -/
def heB (a b : (Int × Int) × Int) : Bool := (a.1.1 == b.1.1) && ((a.1.2 == b.1.2) && ((a.2 == b.2)))
theorem heB_iff (a b : (Int × Int) × Int) : heB a b = true ↔ a = b := by
  obtain ⟨⟨a1, a2⟩, a3⟩ := a
  obtain ⟨⟨b1, b2⟩, b3⟩ := b
  simp [heB, and_assoc]
/-- What becomes of a packet at its last hop: it ends so, or there is a next hop. -/
def goE (Ls : List ((Int × Int) × (Int × Int))) (Hs : List (ByteArray × (Int × Int))) (t : List Ru) (l : List ((Int × Int) × Int)) (p : (Int × Int) × Int) : (Int × ByteArray) ⊕ ((Int × Int) × Int) :=
  match stT t p with
  | none => .inl (2, ByteArray.empty)
  | some q => match atO Hs q.1 with
    | some m => .inl (1, m)
    | none => match peerO Ls q.1 with
      | none => .inl (3, ByteArray.empty)
      | some s => if l.length = 24 ∨ l.any (fun x => heB (s, q.2) x) = true then .inl (4, ByteArray.empty) else .inr (s, q.2)
def zeH : (Int × Int) × Int := ((0, 0), 0)
def laH (l : List ((Int × Int) × Int)) : (Int × Int) × Int := l.getD (l.length - 1) zeH
/-- What becomes of a packet that has had these hops. -/
def foF (Ls : List ((Int × Int) × (Int × Int))) (Hs : List (ByteArray × (Int × Int))) (Ts : List (List Ru)) : Nat → List ((Int × Int) × Int) → Int × ByteArray × List ((Int × Int) × Int)
  | 0, l => (4, ByteArray.empty, l)
  | n + 1, l => match goE Ls Hs (taT Ts (laH l).1.1) l (laH l) with
    | .inl e => (e.1, e.2, l)
    | .inr p => foF Ls Hs Ts n (l ++ [p])
/-- What becomes of a packet that comes in. -/
def frF (Ls : List ((Int × Int) × (Int × Int))) (Hs : List (ByteArray × (Int × Int))) (Ts : List (List Ru)) (s : Int × Int) (h : Int) : Int × ByteArray × List ((Int × Int) × Int) := foF Ls Hs Ts 24 [(s, h)]
/-- No fate at all. -/
def zeF : Int × ByteArray × List ((Int × Int) × Int) := (0, ByteArray.empty, [])
/-- The answers. -/
def spN (S : Int) (Ls : List ((Int × Int) × (Int × Int))) (Hs : List (ByteArray × (Int × Int))) (Ts : List (List Ru)) (s : Int × Int) (h : Int) : Int :=
  if cpN S Ls Hs Ts s h = 0 then (if (stO Ts (s, h)).isSome then 0 else 5) else cpN S Ls Hs Ts s h
def spV (S : Int) (Ls : List ((Int × Int) × (Int × Int))) (Hs : List (ByteArray × (Int × Int))) (Ts : List (List Ru)) (s : Int × Int) (h : Int) : (Int × Int) × Int :=
  if cpN S Ls Hs Ts s h = 0 then (stO Ts (s, h)).getD zeH else zeH
def frV (S : Int) (Ls : List ((Int × Int) × (Int × Int))) (Hs : List (ByteArray × (Int × Int))) (Ts : List (List Ru)) (s : Int × Int) (h : Int) : Int × ByteArray × List ((Int × Int) × Int) :=
  if cpN S Ls Hs Ts s h = 0 then frF Ls Hs Ts s h else zeF
def seN (S : Int) (Ls : List ((Int × Int) × (Int × Int))) (Hs : List (ByteArray × (Int × Int))) (Ts : List (List Ru)) (m : ByteArray) (h : Int) : Int :=
  if ntN S Ls Hs Ts = 0 then (if weN S Ls Hs m = 0 then (if hdrB h then 0 else 1) else weN S Ls Hs m) else ntN S Ls Hs Ts
def seV (S : Int) (Ls : List ((Int × Int) × (Int × Int))) (Hs : List (ByteArray × (Int × Int))) (Ts : List (List Ru)) (m : ByteArray) (h : Int) : Int × ByteArray × List ((Int × Int) × Int) :=
  if seN S Ls Hs Ts m h = 0 then frF Ls Hs Ts (weV S Ls Hs m) h else zeF
end Go.Proofs.YtglnnoglbieaeaaGreatDoor
/- The struct api.Spot: its cells, slices of them, == of two, such that came in. Written by mk/struct.py. -/
namespace Go.Proofs.YtglnnoglbieaeaaGreatDoor
open Go.ChangeShapes Go.WideShapes Go.ChangeAt Go.RowKit Go.Joins
set_option linter.unusedSimpArgs false
set_option linter.unusedVariables false
set_option maxRecDepth 100000

def spoE : Enc (Int × Int) where
  c := fun x => [.int .i64 x.1, .int .i64 x.2]
  n := 2
  len := fun _ => rfl
  pos := by decide
  one := by
    intro x u hu
    simp at hu
    rcases hu with rfl | rfl <;> rfl
theorem spo_cells {w : World} {g o : Nat} {x0 : Int} {x1 : Int} (h : VAt w g o (spoE.c (x0, x1))) : w.cell? ⟨g, o, none⟩ = some (.int .i64 x0) ∧ w.cell? ⟨g, o + 1, none⟩ = some (.int .i64 x1) :=
  ⟨h 0 _ rfl, h 1 _ rfl⟩
theorem spo_at {w : World} {g o : Nat} {L : List (Int × Int)} (h : GAt spoE w g o L) {n k : Nat} (hn : L.length = n) (hk : k < n) :
    ∃ (x0 : Int) (x1 : Int) (hl : k < L.length), L[k] = (x0, x1) ∧ w.cell? ⟨g, o + k * 2, none⟩ = some (.int .i64 x0) ∧ w.cell? ⟨g, o + k * 2 + 1, none⟩ = some (.int .i64 x1) :=
  have hl : k < L.length := by omega
  ⟨_, _, hl, rfl, spo_cells (h k hl)⟩
theorem spo_new (w : World) (x0 : Int) (x1 : Int) (t : TypeId) : VAt (w.alloc (Obj.cells #[.int .i64 x0, .int .i64 x1] t)) w.heap.size 0 (spoE.c (x0, x1)) := vat_new w [.int .i64 x0, .int .i64 x1] t
theorem spo_row (w : World) (x0 : Int) (x1 : Int) (t : TypeId) : GS spoE (w.alloc (Obj.cells #[.int .i64 x0, .int .i64 x1] t)) (.slice (some ⟨w.heap.size, 0, none⟩) 1 1) [(x0, x1)] := gs_one (E := spoE) w (x0, x1) t (vs := [.int .i64 x0, .int .i64 x1]) rfl
/-- Are two the same? -/
def spoB (a b : Int × Int) : Bool := (a.1 == b.1) && ((a.2 == b.2))
theorem spoB_iff (a b : Int × Int) : spoB a b = true ↔ a = b := by
  have e : spoB a b = ((a.1 == b.1) && ((a.2 == b.2))) := rfl
  rw [e]
  simp only [Bool.and_eq_true, beq_iff_eq]
  constructor
  · intro h
    obtain ⟨a0, a1⟩ := a; obtain ⟨b0, b1⟩ := b; simp at h ⊢; simp [h]
  · intro h
    subst h
    simp
theorem spo_ways (x0 : Int) (x1 : Int) (y0 : Int) (y1 : Int) :
    ((x0 == y0) = false ∧ spoB (x0, x1) (y0, y1) = false) ∨
    ((x0 == y0) = true ∧ (x1 == y1) = false ∧ spoB (x0, x1) (y0, y1) = false) ∨
    ((x0 == y0) = true ∧ (x1 == y1) = true ∧ spoB (x0, x1) (y0, y1) = true) := by
  have e : spoB (x0, x1) (y0, y1) = ((x0 == y0) && ((x1 == y1))) := rfl
  rw [e]
  cases h0 : (x0 == y0)
  · simp
  · skip
    cases h1 : (x1 == y1)
    · simp
    · skip
      simp
set_option maxRecDepth 100000 in
theorem spo_eq (x0 : Int) (x1 : Int) (y0 : Int) (y1 : Int) (w : World) : (Op.equal 39 (.agg #[.int .i64 x0, .int .i64 x1]) (.agg #[.int .i64 y0, .int .i64 y1])).run Tryz.prog w = .ok (spoB (x0, x1) (y0, y1)) w := by
  unfold Op.equal Op.maxDepth
  rw [run_equalIn_struct w 9999 _ _ _ (by kernel_rfl) (by kernel_rfl)]
  rcases spo_ways x0 x1 y0 y1 with ⟨e0, e⟩ | ⟨e0, e1, e⟩ | ⟨e0, e1, e⟩
  all_goals
    rw [e]
    go_simp
theorem spo_info : (Tryz.prog.info? 39).map (fun i => (i.zero, i.size, i.bytes)) = some (some (.agg #[.int .i64 0, .int .i64 0]), 2, 16) := by kernel_rfl
theorem spo_zero : (Value.agg #[.int .i64 0, .int .i64 0]).cells.size = 2 := by simp [Value.cells]
/-- Cells that read as one. -/
theorem spo_open {H : Type} {enc : TypeId × Value → H} {W : World} {n : Nat} {cs : List Value} {x : DataW H × List MemPlace}
    (h : DataW.trod enc Tryz.prog W 0 (fun _ => true) true n 39 cs = some x) : ∃ y, cs = spoE.c y := by
  obtain ⟨xs, k, _, _, hl, hlen, hf⟩ := DataW.trod_struct Tryz.underlying39 h
  have hC : Tryz.prog.cellsOf 39 = 2 := by kernel_rfl
  have hT0 : Tryz.prog.cellsOf 3 = 1 := by kernel_rfl
  rw [hC] at hl
  match cs, hl with
  | [c0, c1], _ =>
    match xs, hlen with
    | [z0, z1], _ =>
      have g0 := hf 0 _ rfl
      have g1 := hf 1 _ rfl
      simp [hT0] at g0 g1
      obtain ⟨v0, e0, _, _⟩ := DataW.trod_int Tryz.underlying3 g0
      obtain ⟨v1, e1, _, _⟩ := DataW.trod_int Tryz.underlying3 g1
      simp [] at e0 e1
      refine ⟨(v0, v1), ?_⟩
      simp [spoE, e0, e1]
set_option maxRecDepth 100000 in
/-- One that came in. -/
theorem spo_of {H : Type} {enc : TypeId × Value → H} {W : World} {base : Nat} {v : Value} {d : DataW H} {p : List MemPlace}
    (hv : Value.okWide Tryz.prog W .any base 39 v) (h : DataW.Trod enc Tryz.prog W 0 (fun _ => true) true 39 v d p) : ∃ (x0 : Int) (x1 : Int), v = .agg #[.int .i64 x0, .int .i64 x1] := by
  obtain ⟨cs, rfl, hsz⟩ := okWide_struct Tryz.underlying39 hv
  obtain ⟨n, hn⟩ := h
  obtain ⟨y, e⟩ := spo_open hn
  refine ⟨y.1, y.2, ?_⟩
  simp only [Value.cells] at e
  have e2 : cs = #[.int .i64 y.1, .int .i64 y.2] := by
    rw [← Array.toArray_toList (xs := cs), e]
    rfl
  rw [e2]
end Go.Proofs.YtglnnoglbieaeaaGreatDoor
/- The struct api.Host: its cells, slices of them, == of two, such that came in. Written by mk/struct.py. -/
namespace Go.Proofs.YtglnnoglbieaeaaGreatDoor
open Go.ChangeShapes Go.WideShapes Go.ChangeAt Go.RowKit Go.Joins
set_option linter.unusedSimpArgs false
set_option linter.unusedVariables false
set_option maxRecDepth 100000

def hstE : Enc (ByteArray × (Int × Int)) where
  c := fun x => [.string x.1, .int .i64 x.2.1, .int .i64 x.2.2]
  n := 3
  len := fun _ => rfl
  pos := by decide
  one := by
    intro x u hu
    simp at hu
    rcases hu with rfl | rfl | rfl <;> rfl
theorem hst_cells {w : World} {g o : Nat} {x0 : ByteArray} {x1 : Int} {x2 : Int} (h : VAt w g o (hstE.c (x0, (x1, x2)))) : w.cell? ⟨g, o, none⟩ = some (.string x0) ∧ w.cell? ⟨g, o + 1, none⟩ = some (.int .i64 x1) ∧ w.cell? ⟨g, o + 2, none⟩ = some (.int .i64 x2) :=
  ⟨h 0 _ rfl, h 1 _ rfl, h 2 _ rfl⟩
theorem hst_at {w : World} {g o : Nat} {L : List (ByteArray × (Int × Int))} (h : GAt hstE w g o L) {n k : Nat} (hn : L.length = n) (hk : k < n) :
    ∃ (x0 : ByteArray) (x1 : Int) (x2 : Int) (hl : k < L.length), L[k] = (x0, (x1, x2)) ∧ w.cell? ⟨g, o + k * 3, none⟩ = some (.string x0) ∧ w.cell? ⟨g, o + k * 3 + 1, none⟩ = some (.int .i64 x1) ∧ w.cell? ⟨g, o + k * 3 + 2, none⟩ = some (.int .i64 x2) :=
  have hl : k < L.length := by omega
  ⟨_, _, _, hl, rfl, hst_cells (h k hl)⟩
theorem hst_new (w : World) (x0 : ByteArray) (x1 : Int) (x2 : Int) (t : TypeId) : VAt (w.alloc (Obj.cells #[.string x0, .int .i64 x1, .int .i64 x2] t)) w.heap.size 0 (hstE.c (x0, (x1, x2))) := vat_new w [.string x0, .int .i64 x1, .int .i64 x2] t
theorem hst_row (w : World) (x0 : ByteArray) (x1 : Int) (x2 : Int) (t : TypeId) : GS hstE (w.alloc (Obj.cells #[.string x0, .int .i64 x1, .int .i64 x2] t)) (.slice (some ⟨w.heap.size, 0, none⟩) 1 1) [(x0, (x1, x2))] := gs_one (E := hstE) w (x0, (x1, x2)) t (vs := [.string x0, .int .i64 x1, .int .i64 x2]) rfl
/-- Are two the same? -/
def hstB (a b : ByteArray × (Int × Int)) : Bool := (a.1 == b.1) && ((a.2.1 == b.2.1) && ((a.2.2 == b.2.2)))
theorem hst_ways (x0 : ByteArray) (x1 : Int) (x2 : Int) (y0 : ByteArray) (y1 : Int) (y2 : Int) :
    ((x0.toList == y0.toList) = false ∧ hstB (x0, (x1, x2)) (y0, (y1, y2)) = false) ∨
    ((x0.toList == y0.toList) = true ∧ (x1 == y1) = false ∧ hstB (x0, (x1, x2)) (y0, (y1, y2)) = false) ∨
    ((x0.toList == y0.toList) = true ∧ (x1 == y1) = true ∧ (x2 == y2) = false ∧ hstB (x0, (x1, x2)) (y0, (y1, y2)) = false) ∨
    ((x0.toList == y0.toList) = true ∧ (x1 == y1) = true ∧ (x2 == y2) = true ∧ hstB (x0, (x1, x2)) (y0, (y1, y2)) = true) := by
  have e : hstB (x0, (x1, x2)) (y0, (y1, y2)) = ((x0.toList == y0.toList) && ((x1 == y1) && ((x2 == y2)))) := by simp only [hstB, beq_toListBytes]
  rw [e]
  cases h0 : (x0.toList == y0.toList)
  · simp
  · skip
    cases h1 : (x1 == y1)
    · simp
    · skip
      cases h2 : (x2 == y2)
      · simp
      · skip
        simp
set_option maxRecDepth 100000 in
theorem hst_eq (x0 : ByteArray) (x1 : Int) (x2 : Int) (y0 : ByteArray) (y1 : Int) (y2 : Int) (w : World) : (Op.equal 41 (.agg #[.string x0, .int .i64 x1, .int .i64 x2]) (.agg #[.string y0, .int .i64 y1, .int .i64 y2])).run Tryz.prog w = .ok (hstB (x0, (x1, x2)) (y0, (y1, y2))) w := by
  unfold Op.equal Op.maxDepth
  rw [run_equalIn_struct w 9999 _ _ _ (by kernel_rfl) (by kernel_rfl)]
  rcases hst_ways x0 x1 x2 y0 y1 y2 with ⟨e0, e⟩ | ⟨e0, e1, e⟩ | ⟨e0, e1, e2, e⟩ | ⟨e0, e1, e2, e⟩
  all_goals
    rw [e]
    go_simp
theorem hst_info : (Tryz.prog.info? 41).map (fun i => (i.zero, i.size, i.bytes)) = some (some (.agg #[.string ByteArray.empty, .int .i64 0, .int .i64 0]), 3, 32) := by kernel_rfl
theorem hst_zero : (Value.agg #[.string ByteArray.empty, .int .i64 0, .int .i64 0]).cells.size = 3 := by simp [Value.cells]
/-- Cells that read as one. -/
theorem hst_open {H : Type} {enc : TypeId × Value → H} {W : World} {n : Nat} {cs : List Value} {x : DataW H × List MemPlace}
    (h : DataW.trod enc Tryz.prog W 0 (fun _ => true) true n 41 cs = some x) : ∃ y, cs = hstE.c y := by
  obtain ⟨xs, k, _, _, hl, hlen, hf⟩ := DataW.trod_struct Tryz.underlying41 h
  have hC : Tryz.prog.cellsOf 41 = 3 := by kernel_rfl
  have hT0 : Tryz.prog.cellsOf 9 = 1 := by kernel_rfl
  have hT1 : Tryz.prog.cellsOf 39 = 2 := by kernel_rfl
  rw [hC] at hl
  match cs, hl with
  | [c0, c1, c2], _ =>
    match xs, hlen with
    | [z0, z1], _ =>
      have g0 := hf 0 _ rfl
      have g1 := hf 1 _ rfl
      simp [hT0, hT1] at g0 g1
      obtain ⟨v0, e0, _, _⟩ := DataW.trod_string Tryz.underlying9 g0
      obtain ⟨s1, e1⟩ := spo_open g1
      simp [spoE] at e0 e1
      refine ⟨(v0, (s1.1, s1.2)), ?_⟩
      simp [hstE, e0, e1]
set_option maxRecDepth 100000 in
/-- One that came in. -/
theorem hst_of {H : Type} {enc : TypeId × Value → H} {W : World} {base : Nat} {v : Value} {d : DataW H} {p : List MemPlace}
    (hv : Value.okWide Tryz.prog W .any base 41 v) (h : DataW.Trod enc Tryz.prog W 0 (fun _ => true) true 41 v d p) : ∃ (x0 : ByteArray) (x1 : Int) (x2 : Int), v = .agg #[.string x0, .int .i64 x1, .int .i64 x2] := by
  obtain ⟨cs, rfl, hsz⟩ := okWide_struct Tryz.underlying41 hv
  obtain ⟨n, hn⟩ := h
  obtain ⟨y, e⟩ := hst_open hn
  refine ⟨y.1, y.2.1, y.2.2, ?_⟩
  simp only [Value.cells] at e
  have e2 : cs = #[.string y.1, .int .i64 y.2.1, .int .i64 y.2.2] := by
    rw [← Array.toArray_toList (xs := cs), e]
    rfl
  rw [e2]
/-- A slice of them that came in. -/
theorem hsts_of {H : Type} {enc : TypeId × Value → H} {W : World} {base : Nat} {v : Value} {d : DataW H} {p : List MemPlace}
    (hv : Value.okWide Tryz.prog W .any base 23 v) (h : DataW.Trod enc Tryz.prog W 0 (fun _ => true) true 23 v d p) : ∃ L, GS hstE W v L :=
  gs_of (E := hstE) 23 41 Tryz.underlying23 (by kernel_rfl) (ByteArray.empty, (0, 0)) (fun _ _ _ h => hst_open h) hv h
end Go.Proofs.YtglnnoglbieaeaaGreatDoor
/- Fates in order, each once: plain lists. No program in it. -/
namespace Go.Proofs.YtglnnoglbieaeaaGreatDoor
open Go.RowKit
set_option linter.unusedVariables false
set_option linter.unusedSimpArgs false

/-- A strict order in which two are the same if none is ahead. -/
structure LO {α : Type} (r : α → α → Bool) : Prop where
  irr : ∀ a, r a a = false
  tr : ∀ a b c, r a b = true → r b c = true → r a c = true
  tot : ∀ a b, r a b = false → r b a = false → a = b
theorem LO.asy {α : Type} {r : α → α → Bool} (h : LO r) {a b : α} (hab : r a b = true) : r b a = false := by
  cases e : r b a
  · rfl
  · have := h.tr a b a hab e
    rw [h.irr] at this
    cases this
theorem lo_int : LO (fun (a b : Int) => decide (a < b)) := ⟨by simp, fun a b c h1 h2 => by simp at *; omega, fun a b h1 h2 => by simp at *; omega⟩
theorem lo_u8 : LO (fun (a b : UInt8) => decide (a < b)) := by
  refine ⟨by simp, fun a b c h1 h2 => ?_, fun a b h1 h2 => ?_⟩
  · simp only [decide_eq_true_eq] at *
    exact UInt8.lt_trans h1 h2
  · simp only [decide_eq_false_iff_not, UInt8.not_lt] at *
    exact UInt8.le_antisymm h2 h1
/-- By the one, then by the other. -/
def lexP {α β : Type} [DecidableEq α] (r : α → α → Bool) (s : β → β → Bool) (a b : α × β) : Bool := if a.1 = b.1 then s a.2 b.2 else r a.1 b.1
theorem lo_pair {α β : Type} [DecidableEq α] {r : α → α → Bool} {s : β → β → Bool} (hr : LO r) (hs : LO s) : LO (lexP r s) := by
  refine ⟨fun a => by simp [lexP, hs.irr], fun a b c h1 h2 => ?_, fun a b h1 h2 => ?_⟩
  · unfold lexP at *
    by_cases e1 : a.1 = b.1
    · rw [if_pos e1] at h1
      by_cases e2 : b.1 = c.1
      · rw [if_pos e2] at h2
        rw [if_pos (e1.trans e2)]
        exact hs.tr _ _ _ h1 h2
      · rw [if_neg e2] at h2
        rw [if_neg (by rw [e1]; exact e2), e1]
        exact h2
    · rw [if_neg e1] at h1
      by_cases e2 : b.1 = c.1
      · rw [if_pos e2] at h2
        rw [if_neg (by rw [← e2]; exact e1), ← e2]
        exact h1
      · rw [if_neg e2] at h2
        have h3 := hr.tr _ _ _ h1 h2
        by_cases e3 : a.1 = c.1
        · rw [e3, hr.irr] at h3
          cases h3
        · rw [if_neg e3]
          exact h3
  · unfold lexP at *
    by_cases e1 : a.1 = b.1
    · rw [if_pos e1] at h1
      rw [if_pos e1.symm] at h2
      exact Prod.ext e1 (hs.tot _ _ h1 h2)
    · rw [if_neg e1] at h1
      rw [if_neg (fun e => e1 e.symm)] at h2
      exact absurd (hr.tot _ _ h1 h2) e1
/-- From the first on; a beginning ahead of the longer one. -/
def lexL {α : Type} [DecidableEq α] (r : α → α → Bool) : List α → List α → Bool
  | _, [] => false
  | [], _ :: _ => true
  | a :: x, b :: y => if a = b then lexL r x y else r a b
theorem lo_list {α : Type} [DecidableEq α] {r : α → α → Bool} (hr : LO r) : LO (lexL r) := by
  refine ⟨fun l => ?_, fun a => ?_, fun a => ?_⟩
  · induction l with
    | nil => rfl
    | cons x l ih => simp [lexL, ih]
  · induction a with
    | nil =>
      intro b c h1 h2
      cases b with
      | nil => cases c <;> simp [lexL] at *
      | cons y b =>
        cases c with
        | nil => simp [lexL] at h2
        | cons z c => rfl
    | cons x a ih =>
      intro b c h1 h2
      cases b with
      | nil => simp [lexL] at h1
      | cons y b =>
        cases c with
        | nil => simp [lexL] at h2
        | cons z c =>
          rw [lexL] at *
          by_cases e1 : x = y
          · rw [if_pos e1] at h1
            by_cases e2 : y = z
            · rw [if_pos e2] at h2
              rw [if_pos (e1.trans e2)]
              exact ih _ _ h1 h2
            · rw [if_neg e2] at h2
              rw [if_neg (by rw [e1]; exact e2), e1]
              exact h2
          · rw [if_neg e1] at h1
            by_cases e2 : y = z
            · rw [if_pos e2] at h2
              rw [if_neg (by rw [← e2]; exact e1), ← e2]
              exact h1
            · rw [if_neg e2] at h2
              have h3 := hr.tr _ _ _ h1 h2
              by_cases e3 : x = z
              · rw [e3, hr.irr] at h3
                cases h3
              · rw [if_neg e3]
                exact h3
  · induction a with
    | nil =>
      intro b h1 h2
      cases b with
      | nil => rfl
      | cons y b => simp [lexL] at h1
    | cons x a ih =>
      intro b h1 h2
      cases b with
      | nil => simp [lexL] at h2
      | cons y b =>
        rw [lexL] at h1 h2
        by_cases e1 : x = y
        · rw [if_pos e1] at h1
          rw [if_pos e1.symm] at h2
          rw [e1, ih _ h1 h2]
        · rw [if_neg e1] at h1
          rw [if_neg (fun e => e1 e.symm)] at h2
          exact absurd (hr.tot _ _ h1 h2) e1
theorem bytes_lex : ∀ x y : List UInt8, Op.bytesLess x y = lexL (fun (a b : UInt8) => decide (a < b)) x y
  | _, [] => by simp [Op.bytesLess, lexL]
  | [], _ :: _ => by simp [Op.bytesLess, lexL]
  | a :: x, b :: y => by
    rw [Op.bytesLess, lexL, bytes_lex x y]
    by_cases e : a = b
    · subst e
      simp
    · rw [if_neg e]
      simp [e]
theorem nm_loop (b : ByteArray) : ∀ (k i : Nat) (r : List UInt8), b.size - i = k → ByteArray.toList.loop b i r = r.reverse ++ b.data.toList.drop i
  | 0, i, r, h => by
    rw [ByteArray.toList.loop, if_neg (by omega)]
    have e : b.data.toList.length ≤ i := by rw [Array.length_toList]; show b.size ≤ i; omega
    rw [List.drop_eq_nil_of_le e, List.append_nil]
  | k + 1, i, r, h => by
    have hi : i < b.size := by omega
    rw [ByteArray.toList.loop, if_pos hi, nm_loop b k (i + 1) _ (by omega)]
    have hl : i < b.data.toList.length := by rw [Array.length_toList]; exact hi
    rw [List.drop_eq_getElem_cons hl, List.reverse_cons, List.append_assoc]
    have e : b.get! i = b.data.toList[i] := by
      rw [Array.getElem_toList]
      show b.data[i]! = b.data[i]
      exact getElem!_pos b.data i hi
    rw [e]
    rfl
theorem nm_list (b : ByteArray) : b.toList = b.data.toList := by
  show ByteArray.toList.loop b 0 [] = _
  rw [nm_loop b _ 0 [] rfl]
  simp
theorem nm_inj {a b : ByteArray} (h : a.toList = b.toList) : a = b := by
  rw [nm_list, nm_list] at h
  exact ByteArray.ext (Array.toList_inj.1 h)
/-- Names: by their bytes. -/
def nmL (a b : ByteArray) : Bool := Op.bytesLess a.toList b.toList
theorem lo_name : LO nmL := by
  have h := lo_list lo_u8
  refine ⟨fun a => ?_, fun a b c h1 h2 => ?_, fun a b h1 h2 => ?_⟩
  · rw [nmL, bytes_lex]; exact h.irr _
  · rw [nmL, bytes_lex] at *; exact h.tr _ _ _ h1 h2
  · rw [nmL, bytes_lex] at h1 h2
    have e := h.tot _ _ h1 h2
    exact nm_inj e
/-- One fate ahead of another one: by How, Host, then Hops. -/
def faL : (Int × ByteArray × List ((Int × Int) × Int)) → (Int × ByteArray × List ((Int × Int) × Int)) → Bool :=
  lexP (fun (a b : Int) => decide (a < b)) (lexP nmL (lexL (lexP (lexP (fun (a b : Int) => decide (a < b)) (fun (a b : Int) => decide (a < b))) (fun (a b : Int) => decide (a < b)))))
theorem lo_fate : LO faL := lo_pair lo_int (lo_pair lo_name (lo_list (lo_pair (lo_pair lo_int lo_int) lo_int)))

/-- Each once, rising. -/
def Ris {α : Type} (r : α → α → Bool) (l : List α) : Prop := l.Pairwise fun a b => r a b = true
/-- Two that have the same, each once and rising, are one. -/
theorem ris_ext {α : Type} {r : α → α → Bool} (hr : LO r) : ∀ {l m : List α}, Ris r l → Ris r m → (∀ x, x ∈ l ↔ x ∈ m) → l = m
  | [], [], _, _, _ => rfl
  | [], y :: m, _, _, h => by have := (h y).2 (by simp); simp at this
  | x :: l, [], _, _, h => by have := (h x).1 (by simp); simp at this
  | x :: l, y :: m, h1, h2, h => by
    have a1 := List.pairwise_cons.1 h1
    have a2 := List.pairwise_cons.1 h2
    have e : x = y := by
      rcases List.mem_cons.1 ((h x).1 (by simp)) with e | hx
      · exact e
      · rcases List.mem_cons.1 ((h y).2 (by simp)) with e | hy
        · exact e.symm
        · have b1 := a1.1 y hy
          have b2 := a2.1 x hx
          rw [hr.asy b1] at b2
          cases b2
    subst e
    rw [ris_ext hr a1.2 a2.2 (fun z => ?_)]
    have hz := h z
    constructor
    · intro hm
      rcases List.mem_cons.1 (hz.1 (List.mem_cons_of_mem _ hm)) with e | e
      · subst e
        have := a1.1 z hm
        rw [hr.irr] at this
        cases this
      · exact e
    · intro hm
      rcases List.mem_cons.1 (hz.2 (List.mem_cons_of_mem _ hm)) with e | e
      · subst e
        have := a2.1 z hm
        rw [hr.irr] at this
        cases this
      · exact e
/-- One more, in its place, once. -/
def puR {α : Type} (r : α → α → Bool) (f : α) : List α → List α
  | [] => [f]
  | x :: l => if r f x = true then f :: x :: l else if r x f = true then x :: puR r f l else x :: l
theorem pu_mem {α : Type} {r : α → α → Bool} (hr : LO r) (f : α) : ∀ {l : List α} {x : α}, x ∈ puR r f l ↔ x = f ∨ x ∈ l
  | [], x => by simp [puR]
  | y :: l, x => by
    rw [puR]
    by_cases h1 : r f y = true
    · rw [if_pos h1]; simp
    · rw [if_neg h1]
      by_cases h2 : r y f = true
      · rw [if_pos h2, List.mem_cons, pu_mem hr f, List.mem_cons]
        constructor
        · rintro (h | h | h)
          · exact .inr (.inl h)
          · exact .inl h
          · exact .inr (.inr h)
        · rintro (h | h | h)
          · exact .inr (.inl h)
          · exact .inl h
          · exact .inr (.inr h)
      · rw [if_neg h2]
        have e : y = f := hr.tot _ _ (by simpa using h2) (by simpa using h1)
        subst e
        simp
theorem pu_ris {α : Type} {r : α → α → Bool} (hr : LO r) (f : α) : ∀ {l : List α}, Ris r l → Ris r (puR r f l)
  | [], _ => by simp [puR, Ris]
  | y :: l, h => by
    have a := List.pairwise_cons.1 h
    rw [puR]
    by_cases h1 : r f y = true
    · rw [if_pos h1]
      refine List.pairwise_cons.2 ⟨fun z hz => ?_, h⟩
      rcases List.mem_cons.1 hz with rfl | hz
      · exact h1
      · exact hr.tr _ _ _ h1 (a.1 z hz)
    · rw [if_neg h1]
      by_cases h2 : r y f = true
      · rw [if_pos h2]
        refine List.pairwise_cons.2 ⟨fun z hz => ?_, pu_ris hr f a.2⟩
        rcases (pu_mem hr f).1 hz with rfl | hz
        · exact h2
        · exact a.1 z hz
      · rw [if_neg h2]
        exact h
end Go.Proofs.YtglnnoglbieaeaaGreatDoor
/- Changes of tables in plain lists: what is wrong with one, what it makes, what is between two. No program in it. -/
namespace Go.Proofs.YtglnnoglbieaeaaGreatDoor
open Go.RowKit

/-- Are two rules the same in all? -/
def eqR (a b : Ru) : Bool := decide (a.p = b.p) && (decide (a.m = b.m) && (decide (a.b = b.b) && (decide (a.o = b.o) && (decide (a.s = b.s) && decide (a.v = b.v)))))
theorem eq_R {a b : Ru} : eqR a b = true ↔ a = b := by
  obtain ⟨p, m, b1, o, s, v⟩ := a
  obtain ⟨p', m', b', o', s', v'⟩ := b
  simp [eqR]
theorem eq_no {a b : Ru} : eqR a b = false ↔ a ≠ b := by
  rw [← Bool.not_eq_true, Ne, eq_R]
theorem eq_rf (a : Ru) : eqR a a = true := eq_R.2 rfl
/-- Is a rule in a table? -/
def inB (L : List Ru) (r : Ru) : Bool := L.any (fun a => eqR r a)
theorem in_iff {L : List Ru} {r : Ru} : inB L r = true ↔ r ∈ L := by
  simp only [inB, List.any_eq_true, eq_R]
  exact ⟨fun ⟨x, h, e⟩ => e ▸ h, fun h => ⟨r, h, rfl⟩⟩
/-- The first place of a rule. -/
def ixN (L : List Ru) (r : Ru) : Nat := L.findIdx (fun a => eqR r a)
/-- The rules of the one that the other has not. -/
def bey (A B : List Ru) : List Ru := A.filter (fun r => !inB B r)
/-- Has one of them the Prio and Cube of a rule? -/
def hitB (L : List Ru) (r : Ru) : Bool := L.any (fun a => keyB a r)

/-- The fault of a change of a table and a rule that are right. -/
def chN (L : List Ru) (add : Bool) (r : Ru) : Int := if add then (if hitB L r then 7 else if 12 ≤ L.length then 4 else 0) else (if inB L r then 0 else 5)
/-- What it makes. -/
def chL (L : List Ru) (add : Bool) (r : Ru) : List Ru := if chN L add r = 0 then (if add then L ++ [r] else L.take (ixN L r) ++ L.drop (ixN L r + 1)) else []
/-- The fault of a change. -/
def doN (L : List Ru) (add : Bool) (r : Ru) : Int := if tbN L = 0 then (if r.n = 0 then chN L add r else r.n) else tbN L
def doL (L : List Ru) (add : Bool) (r : Ru) : List Ru := if doN L add r = 0 then chL L add r else []

/-- An op: its switch, whether it adds, its rule. -/
structure Op8 where
  w : Int
  a : Bool
  r : Ru
/-- Op by op. -/
def alN : List Ru → List Op8 → Int
  | _, [] => 0
  | L, o :: l => if doN L o.a o.r = 0 then alN (doL L o.a o.r) l else doN L o.a o.r
def alL : List Ru → List Op8 → List Ru
  | L, [] => L
  | L, o :: l => if doN L o.a o.r = 0 then alL (doL L o.a o.r) l else []
def taken (L : List Ru) : List Op8 := L.map fun r => ⟨0, false, r⟩
def added (L : List Ru) : List Op8 := L.map fun r => ⟨0, true, r⟩
/-- The fault of two tables. -/
def twN (A B : List Ru) : Int := if tbN A = 0 then tbN B else tbN A
def dfL (A B : List Ru) : List Op8 := if twN A B = 0 then taken (bey A B) ++ added (bey B A) else []
def smB (A B : List Ru) : Bool := if twN A B = 0 then (decide (A.length = B.length) && decide ((bey A B).length = 0)) else false

/-- A right table: twelve at most, each right, no two with one Prio and Cube. -/
theorem tb_iff {L : List Ru} : tbN L = 0 ↔ L.length ≤ 12 ∧ (∀ r ∈ L, r.ok = true) ∧ L.Pairwise (fun a b => keyB a b = false) := by
  rw [tb_0, cl_no, okR, List.all_eq_true, List.pairwise_iff_getElem]
  refine and_congr Iff.rfl (and_congr Iff.rfl ⟨fun h i j hi hj hij => ?_, fun h i j hij hj => ?_⟩)
  · have := h i j hij hj
    rw [getD_at hi, getD_at hj] at this
    exact this
  · rw [getD_at (by omega), getD_at hj]
    exact h i j (by omega) hj hij
theorem key_rf (a : Ru) : keyB a a = true := by simp [keyB, ord_rf]
theorem key_sy {a b : Ru} : keyB a b = keyB b a := by
  cases h : keyB b a
  · exact key_sym h
  · cases h2 : keyB a b
    · rw [key_sym h2] at h; cases h
    · rfl
theorem tb_sub {L M : List Ru} (h : tbN L = 0) (hs : M.Sublist L) : tbN M = 0 := by
  rw [tb_iff] at h ⊢
  exact ⟨Nat.le_trans hs.length_le h.1, fun r hr => h.2.1 r (hs.subset hr), h.2.2.sublist hs⟩
theorem tb_one {L : List Ru} {r : Ru} (h : tbN L = 0) (hr : r.ok = true) (hh : hitB L r = false) (hl : L.length < 12) : tbN (L ++ [r]) = 0 := by
  rw [tb_iff] at h ⊢
  refine ⟨by simp; omega, ?_, ?_⟩
  · intro x hx
    rw [List.mem_append, List.mem_singleton] at hx
    rcases hx with hx | rfl
    · exact h.2.1 x hx
    · exact hr
  · rw [List.pairwise_append]
    refine ⟨h.2.2, List.pairwise_singleton _ _, fun a ha b hb => ?_⟩
    rw [List.mem_singleton] at hb
    subst hb
    simp only [hitB, List.any_eq_false] at hh
    simpa using hh a ha
/-- No two of a right table have one Prio and Cube. -/
theorem tb_key {L : List Ru} (h : tbN L = 0) {a b : Ru} (ha : a ∈ L) (hb : b ∈ L) (hk : keyB a b = true) : a = b := by
  rw [tb_iff] at h
  have hp := h.2.2
  clear h
  induction L with
  | nil => cases ha
  | cons x l ih =>
    rw [List.pairwise_cons] at hp
    rcases List.mem_cons.1 ha with e1 | ha1
    · rcases List.mem_cons.1 hb with e2 | hb1
      · rw [e1, e2]
      · rw [e1, hp.1 b hb1] at hk; cases hk
    · rcases List.mem_cons.1 hb with e2 | hb1
      · rw [e2, key_sy, hp.1 a ha1] at hk; cases hk
      · exact ih ha1 hb1 hp.2
theorem tb_nodup {L : List Ru} (h : tbN L = 0) : L.Nodup := by
  rw [tb_iff] at h
  refine h.2.2.imp ?_
  rintro a b hk rfl
  rw [key_rf] at hk
  cases hk

theorem ix_split {L M : List Ru} {r : Ru} (h : r ∉ L) : ixN (L ++ r :: M) r = L.length := by
  induction L with
  | nil => simp [ixN, List.findIdx_cons, eq_rf]
  | cons x l ih =>
    have h1 : eqR r x = false := eq_no.2 (fun e => h (by rw [e]; exact List.mem_cons_self))
    have h2 := ih (fun hm => h (List.mem_cons_of_mem _ hm))
    simp only [ixN] at h2 ⊢
    rw [List.cons_append, List.findIdx_cons, h1, h2]
    rfl
/-- Taking away a rule that is there once. -/
theorem do_take {A B : List Ru} {r : Ru} (h : tbN (A ++ r :: B) = 0) : doN (A ++ r :: B) false r = 0 ∧ doL (A ++ r :: B) false r = A ++ B := by
  have hm : r ∈ A ++ r :: B := by simp
  have hno : r ∉ A := by
    have := tb_nodup h
    rw [List.nodup_append] at this
    intro hA
    exact this.2.2 r hA r (by simp) rfl
  have hr : r.n = 0 := n_ok ((tb_iff.1 h).2.1 r hm)
  have hc : chN (A ++ r :: B) false r = 0 := by simp [chN, in_iff.2 hm]
  have hd : doN (A ++ r :: B) false r = 0 := by rw [doN, if_pos h, if_pos hr, hc]
  refine ⟨hd, ?_⟩
  rw [doL, if_pos hd, chL, if_pos hc, ix_split hno]
  simp
theorem do_add {L : List Ru} {r : Ru} (h : tbN L = 0) (hr : r.ok = true) (hh : hitB L r = false) (hl : L.length < 12) : doN L true r = 0 ∧ doL L true r = L ++ [r] := by
  have hc : chN L true r = 0 := by
    rw [chN, hh]
    simp
    omega
  have hd : doN L true r = 0 := by rw [doN, if_pos h, if_pos (n_ok hr), hc]
  exact ⟨hd, by rw [doL, if_pos hd, chL, if_pos hc]; rfl⟩
/-- What adding asks. -/
theorem add_yes {L : List Ru} {r : Ru} (h : doN L true r = 0) : tbN L = 0 ∧ r.ok = true ∧ hitB L r = false ∧ L.length < 12 := by
  unfold doN at h
  by_cases h1 : tbN L = 0
  · rw [if_pos h1] at h
    by_cases h2 : r.n = 0
    · rw [if_pos h2, chN] at h
      simp only [if_true] at h
      cases h3 : hitB L r
      · rw [h3] at h
        by_cases h4 : 12 ≤ L.length
        · simp [h4] at h
        · exact ⟨h1, ok_n h2, rfl, by omega⟩
      · rw [h3] at h; simp at h
    · rw [if_neg h2] at h; exact absurd h h2
  · rw [if_neg h1] at h; exact absurd h h1

/-- What goes, one by one. -/
theorem al_take (o : List Ru) (ops : List Op8) : ∀ (A B : List Ru), tbN (A ++ B) = 0 → (∀ r ∈ A, inB o r = true) →
    alN (A ++ B) (taken (bey B o) ++ ops) = alN (A ++ B.filter (inB o)) ops ∧ alL (A ++ B) (taken (bey B o) ++ ops) = alL (A ++ B.filter (inB o)) ops := by
  intro A B
  induction B generalizing A with
  | nil => intro _ _; simp [bey, taken]
  | cons r B ih =>
    intro h hA
    cases hi : inB o r
    · have e : bey (r :: B) o = r :: bey B o := by simp [bey, hi]
      have e2 : (r :: B).filter (inB o) = B.filter (inB o) := by simp [hi]
      obtain ⟨d1, d2⟩ := do_take h
      have h2 : tbN (A ++ B) = 0 := tb_sub h (by
        refine List.Sublist.append (List.Sublist.refl _) ?_
        exact List.sublist_cons_self r B)
      have := ih A h2 hA
      rw [e, e2, taken, List.map_cons, List.cons_append, alN, alL]
      simp only [d1, d2, if_true]
      exact this
    · have e : bey (r :: B) o = bey B o := by simp [bey, hi]
      have e2 : (r :: B).filter (inB o) = r :: B.filter (inB o) := by simp [hi]
      have := ih (A ++ [r]) (by rw [List.append_assoc]; exact h) (by
        intro x hx
        rw [List.mem_append, List.mem_singleton] at hx
        rcases hx with hx | rfl
        · exact hA x hx
        · exact hi)
      rw [e, e2]
      rw [List.append_assoc, List.append_assoc] at this
      exact this
/-- What comes, one by one. -/
theorem al_add (o : List Ru) (ho : tbN o = 0) : ∀ (A B : List Ru), tbN A = 0 → (A ++ B).Nodup → (∀ r ∈ A ++ B, r ∈ o) → (A ++ B).length ≤ o.length → alN A (added B) = 0 ∧ alL A (added B) = A ++ B := by
  intro A B
  induction B generalizing A with
  | nil => intro _ _ _ _; simp [added, alN, alL]
  | cons r B ih =>
    intro hA hn hm hl
    have hro : r ∈ o := hm r (by simp)
    have hr : r.ok = true := (tb_iff.1 ho).2.1 r hro
    have hh : hitB A r = false := by
      simp only [hitB, List.any_eq_false]
      intro a ha hk
      have hao : a ∈ o := hm a (by simp [ha])
      have := tb_key ho hao hro hk
      rw [List.nodup_append] at hn
      exact hn.2.2 a ha r (by simp) this
    have hlen : A.length < 12 := by
      have := (tb_iff.1 ho).1
      simp at hl
      omega
    obtain ⟨d1, d2⟩ := do_add hA hr hh hlen
    have e : A ++ r :: B = (A ++ [r]) ++ B := by simp
    have := ih (A ++ [r]) (tb_one hA hr hh hlen) (by rw [← e]; exact hn) (by rw [← e]; exact hm) (by rw [← e]; exact hl)
    rw [added, List.map_cons, alN, alL]
    simp only [d1, d2, if_true]
    rw [e]
    exact this
theorem nodup_sub {M L : List Ru} (hn : M.Nodup) (h : ∀ r ∈ M, r ∈ L) : M.length ≤ L.length := by
  induction M generalizing L with
  | nil => simp
  | cons x m ih =>
    rw [List.nodup_cons] at hn
    obtain ⟨A, B, rfl⟩ := List.append_of_mem (h x (by simp))
    have := ih (L := A ++ B) hn.2 (fun r hr => by
      have := h r (by simp [hr])
      rw [List.mem_append, List.mem_cons] at this
      rw [List.mem_append]
      rcases this with h1 | rfl | h1
      · exact .inl h1
      · exact absurd hr hn.1
      · exact .inr h1)
    simp at this ⊢
    omega
/-- What is between two makes of the one the other. -/
theorem al_diff {A B : List Ru} (h : twN A B = 0) : alN A (dfL A B) = 0 ∧ smB (alL A (dfL A B)) B = true ∧ twN (alL A (dfL A B)) B = 0 := by
  obtain ⟨hA, hB⟩ : tbN A = 0 ∧ tbN B = 0 := by
    unfold twN at h
    by_cases h1 : tbN A = 0
    · rw [if_pos h1] at h; exact ⟨h1, h⟩
    · rw [if_neg h1] at h; exact absurd h h1
  have e1 : dfL A B = taken (bey A B) ++ added (bey B A) := by rw [dfL, if_pos h]
  have h1 := al_take B (added (bey B A)) [] A hA (by simp)
  simp only [List.nil_append] at h1
  have hF : tbN (A.filter (inB B)) = 0 := tb_sub hA List.filter_sublist
  have hnd : (A.filter (inB B) ++ bey B A).Nodup := by
    rw [List.nodup_append]
    refine ⟨(tb_nodup hA).sublist List.filter_sublist, (tb_nodup hB).sublist List.filter_sublist, ?_⟩
    rintro a ha b hb rfl
    rw [List.mem_filter] at ha
    rw [bey, List.mem_filter] at hb
    have := in_iff.2 ha.1
    rw [this] at hb
    simp at hb
  have hmem : ∀ r ∈ A.filter (inB B) ++ bey B A, r ∈ B := by
    intro r hr
    rw [List.mem_append] at hr
    rcases hr with hr | hr
    · exact in_iff.1 (List.mem_filter.1 hr).2
    · exact (List.mem_filter.1 hr).1
  have h2 := al_add B hB (A.filter (inB B)) (bey B A) hF hnd hmem (nodup_sub hnd hmem)
  have hlen : (A.filter (inB B) ++ bey B A).length = B.length := by
    refine Nat.le_antisymm (nodup_sub hnd hmem) (nodup_sub (tb_nodup hB) fun r hr => ?_)
    rw [List.mem_append]
    cases hi : inB A r
    · exact .inr (List.mem_filter.2 ⟨hr, by simp [hi]⟩)
    · exact .inl (List.mem_filter.2 ⟨in_iff.1 hi, in_iff.2 hr⟩)
  have hbey : (bey (A.filter (inB B) ++ bey B A) B) = [] := by
    rw [bey, List.filter_eq_nil_iff]
    intro r hr
    simp [in_iff.2 (hmem r hr)]
  have hT : tbN (A.filter (inB B) ++ bey B A) = 0 := by
    rw [tb_iff]
    refine ⟨by rw [hlen]; exact (tb_iff.1 hB).1, fun r hr => (tb_iff.1 hB).2.1 r (hmem r hr), ?_⟩
    have := hnd
    unfold List.Nodup at this
    refine (List.Pairwise.and_mem.1 this).imp ?_
    rintro a b ⟨ha, hb, hne⟩
    cases hk : keyB a b
    · rfl
    · exact absurd (tb_key hB (hmem a ha) (hmem b hb) hk) hne
  have ht2 : twN (A.filter (inB B) ++ bey B A) B = 0 := by rw [twN, if_pos hT, hB]
  rw [e1, h1.1, h1.2, h2.1, h2.2]
  refine ⟨rfl, ?_, ht2⟩
  rw [smB, if_pos ht2, hlen, hbey]
  simp
/-- A rule that is added and taken away leaves a table as it was, and makes another one meanwhile. -/
theorem do_back {L : List Ru} {r : Ru} (h : doN L true r = 0) : doL L true r = L ++ [r] ∧ doN (L ++ [r]) false r = 0 ∧ doL (L ++ [r]) false r = L ∧ twN (L ++ [r]) L = 0 ∧ smB (L ++ [r]) L = false := by
  obtain ⟨h1, h2, h3, h4⟩ := add_yes h
  have hT := tb_one h1 h2 h3 h4
  have := do_take (A := L) (B := []) (r := r) hT
  rw [List.append_nil] at this
  have h5 : twN (L ++ [r]) L = 0 := by rw [twN, if_pos hT, h1]
  refine ⟨(do_add h1 h2 h3 h4).2, this.1, this.2, h5, ?_⟩
  rw [smB, if_pos h5]
  simp
end Go.Proofs.YtglnnoglbieaeaaGreatDoor
/- Changes of nets in plain lists: op by op, what takes all back, what is between two. No program in it. -/
namespace Go.Proofs.YtglnnoglbieaeaaGreatDoor
open Go.RowKit
set_option linter.unusedVariables false

/-- The fault of ops, one by one, of tables that are right. -/
def caN (S : Int) : List (List Ru) → List Op8 → Int
  | _, [] => 0
  | Ts, o :: l => if swB S o.w = true then (if doN (taT Ts o.w) o.a o.r = 0 then caN S (Ts.set (o.w - 1).toNat (doL (taT Ts o.w) o.a o.r)) l else doN (taT Ts o.w) o.a o.r) else 1
/-- What they make. -/
def caT : List (List Ru) → List Op8 → List (List Ru)
  | Ts, [] => Ts
  | Ts, o :: l => caT (Ts.set (o.w - 1).toNat (doL (taT Ts o.w) o.a o.r)) l
/-- Each table is right. -/
def tsOk (Ts : List (List Ru)) : Prop := ∀ L ∈ Ts, tbN L = 0
/-- Each table has the rules of the other one's. -/
def tsPm (As Bs : List (List Ru)) : Prop := As.length = Bs.length ∧ ∀ k, (As.getD k []).Perm (Bs.getD k [])
def tu1 (o : Op8) : Op8 := ⟨o.w, !o.a, o.r⟩
/-- What takes all back: the last first. -/
def tuL (l : List Op8) : List Op8 := (l.map tu1).reverse

theorem ca_len (Ts : List (List Ru)) (l : List Op8) : (caT Ts l).length = Ts.length := by
  induction l generalizing Ts with
  | nil => rfl
  | cons o l ih => rw [caT, ih, List.length_set]
theorem ca_app (S : Int) (Ts : List (List Ru)) (a b : List Op8) : caN S Ts (a ++ b) = if caN S Ts a = 0 then caN S (caT Ts a) b else caN S Ts a := by
  induction a generalizing Ts with
  | nil => simp [caN, caT]
  | cons o l ih =>
    rw [List.cons_append, caN, caN, caT]
    by_cases h1 : swB S o.w = true
    · rw [if_pos h1, if_pos h1]
      by_cases h2 : doN (taT Ts o.w) o.a o.r = 0
      · rw [if_pos h2, if_pos h2, ih]
      · rw [if_neg h2, if_neg h2, if_neg h2]
    · rw [if_neg h1, if_neg h1]; rfl
theorem cj_app (Ts : List (List Ru)) (a b : List Op8) : caT Ts (a ++ b) = caT (caT Ts a) b := by
  induction a generalizing Ts with
  | nil => rfl
  | cons o l ih => rw [List.cons_append, caT, caT, ih]
theorem ca_cons {S : Int} {Ts : List (List Ru)} {o : Op8} {l : List Op8} (h : caN S Ts (o :: l) = 0) :
    swB S o.w = true ∧ doN (taT Ts o.w) o.a o.r = 0 ∧ caN S (Ts.set (o.w - 1).toNat (doL (taT Ts o.w) o.a o.r)) l = 0 := by
  rw [caN] at h
  by_cases h1 : swB S o.w = true
  · rw [if_pos h1] at h
    by_cases h2 : doN (taT Ts o.w) o.a o.r = 0
    · rw [if_pos h2] at h; exact ⟨h1, h2, h⟩
    · rw [if_neg h2] at h; exact absurd h h2
  · rw [if_neg h1] at h; omega
theorem ta_mem {Ts : List (List Ru)} {w : Int} (h1 : 1 ≤ w) (h2 : w ≤ Ts.length) : taT Ts w ∈ Ts := by
  have h : (w - 1).toNat < Ts.length := by omega
  rw [taT, List.getD_eq_getElem?_getD, List.getElem?_eq_getElem h]
  exact List.getElem_mem h

/-- What taking away asks. -/
theorem take_yes {L : List Ru} {r : Ru} (h : doN L false r = 0) : tbN L = 0 ∧ ∃ A B, L = A ++ r :: B ∧ doL L false r = A ++ B := by
  have h0 := h
  unfold doN at h
  by_cases h1 : tbN L = 0
  · rw [if_pos h1] at h
    by_cases h2 : r.n = 0
    · rw [if_pos h2, chN] at h
      simp only [Bool.false_eq_true, if_false] at h
      cases h3 : inB L r
      · rw [h3] at h; simp at h
      · obtain ⟨A, B, rfl⟩ := List.append_of_mem (in_iff.1 h3)
        exact ⟨h1, A, B, rfl, (do_take h1).2⟩
    · rw [if_neg h2] at h; exact absurd h h2
  · rw [if_neg h1] at h; exact absurd h h1
theorem do_right {L : List Ru} {a : Bool} {r : Ru} (h : doN L a r = 0) : tbN (doL L a r) = 0 := by
  cases a with
  | true =>
    obtain ⟨h1, h2, h3, h4⟩ := add_yes h
    rw [(do_add h1 h2 h3 h4).2]
    exact tb_one h1 h2 h3 h4
  | false =>
    obtain ⟨h1, A, B, rfl, e⟩ := take_yes h
    rw [e]
    exact tb_sub h1 (List.Sublist.append (List.Sublist.refl _) (List.sublist_cons_self r B))
theorem ok_set {Ts : List (List Ru)} {k : Nat} {L : List Ru} (h : tsOk Ts) (hL : tbN L = 0) : tsOk (Ts.set k L) := by
  intro x hx
  rcases List.mem_or_eq_of_mem_set hx with h1 | rfl
  · exact h x h1
  · exact hL
theorem ca_right {S : Int} : ∀ {l : List Op8} {Ts : List (List Ru)}, tsOk Ts → caN S Ts l = 0 → tsOk (caT Ts l)
  | [], _, h, _ => h
  | o :: l, Ts, h, e => by
    obtain ⟨h1, h2, h3⟩ := ca_cons e
    rw [caT]
    exact ca_right (ok_set h (do_right h2)) h3

theorem tb_pm {L M : List Ru} (h : L.Perm M) (hM : tbN M = 0) : tbN L = 0 := by
  rw [tb_iff] at hM ⊢
  refine ⟨by rw [h.length_eq]; exact hM.1, fun r hr => hM.2.1 r (h.subset hr), ?_⟩
  exact h.symm.pairwise hM.2.2 (fun {a b} hk => by rw [key_sy]; exact hk)
theorem hit_pm {L M : List Ru} (h : L.Perm M) (r : Ru) : hitB L r = hitB M r := by
  rw [Bool.eq_iff_iff, hitB, hitB, List.any_eq_true, List.any_eq_true]
  exact ⟨fun ⟨x, hx, e⟩ => ⟨x, h.subset hx, e⟩, fun ⟨x, hx, e⟩ => ⟨x, h.symm.subset hx, e⟩⟩
/-- One op taken back, at a table that has the same rules. -/
theorem do_turn {L M : List Ru} {a : Bool} {r : Ru} (h : doN L a r = 0) (hM : M.Perm (doL L a r)) : doN M (!a) r = 0 ∧ (doL M (!a) r).Perm L := by
  have hr := tb_pm hM (do_right h)
  cases a with
  | true =>
    obtain ⟨h1, h2, h3, h4⟩ := add_yes h
    rw [(do_add h1 h2 h3 h4).2] at hM
    obtain ⟨A, B, rfl⟩ := List.append_of_mem (hM.symm.subset (show r ∈ L ++ [r] by simp))
    obtain ⟨d1, d2⟩ := do_take hr
    refine ⟨d1, ?_⟩
    show (doL (A ++ r :: B) false r).Perm L
    rw [d2]
    have e1 : (r :: (A ++ B)).Perm (r :: L) := (List.perm_middle.symm.trans hM).trans (List.perm_append_comm (l₁ := L) (l₂ := [r]))
    exact e1.cons_inv
  | false =>
    obtain ⟨h1, A, B, rfl, e⟩ := take_yes h
    rw [e] at hM
    have hk := (tb_iff.1 h1)
    have ok : r.ok = true := hk.2.1 r (by simp)
    have hh : hitB M r = false := by
      rw [hit_pm hM]
      simp only [hitB, List.any_eq_false]
      intro x hx hkey
      have hx2 : x ∈ A ++ r :: B := by
        rw [List.mem_append] at hx ⊢
        rcases hx with hx | hx
        · exact .inl hx
        · exact .inr (List.mem_cons_of_mem _ hx)
      have := tb_key h1 hx2 (by simp) hkey
      subst this
      have hn := tb_nodup h1
      rw [List.nodup_append] at hn
      rw [List.mem_append] at hx
      rcases hx with hx | hx
      · exact hn.2.2 x hx x (by simp) rfl
      · exact (List.nodup_cons.1 hn.2.1).1 hx
    have hl : M.length < 12 := by
      have := hM.length_eq
      have := hk.1
      simp at this ⊢
      rw [hM.length_eq, List.length_append]
      omega
    obtain ⟨d1, d2⟩ := do_add hr ok hh hl
    refine ⟨d1, ?_⟩
    show (doL M true r).Perm (A ++ r :: B)
    rw [d2]
    have e3 : (r :: (A ++ B)).Perm (A ++ r :: B) := List.perm_middle.symm
    exact ((hM.append_right [r]).trans (List.perm_append_comm (l₁ := A ++ B) (l₂ := [r]))).trans e3

theorem pm_rf (Ts : List (List Ru)) : tsPm Ts Ts := ⟨rfl, fun _ => List.Perm.refl _⟩
theorem getD_set (Ts : List (List Ru)) (k j : Nat) (L : List Ru) : (Ts.set k L).getD j [] = if j = k ∧ k < Ts.length then L else Ts.getD j [] := by
  rw [List.getD_eq_getElem?_getD, List.getElem?_set, List.getD_eq_getElem?_getD]
  by_cases h : k = j
  · subst h
    by_cases h2 : k < Ts.length
    · simp [h2]
    · rw [if_pos rfl, if_neg h2, if_neg (by omega), List.getElem?_eq_none (by omega)]
  · rw [if_neg h, if_neg (by omega)]
/-- Tables that are the same but for one. -/
theorem pm_off {As Bs : List (List Ru)} {k : Nat} {L : List Ru} (h : tsPm As (Bs.set k L)) {M : List Ru} (hM : M.Perm (Bs.getD k [])) : tsPm (As.set k M) Bs := by
  obtain ⟨h1, h2⟩ := h
  rw [List.length_set] at h1
  refine ⟨by rw [List.length_set]; exact h1, fun j => ?_⟩
  have h3 := h2 j
  rw [getD_set] at h3 ⊢
  by_cases e : j = k ∧ k < As.length
  · rw [if_pos e, e.1]
    exact hM
  · rw [if_neg e]
    rw [if_neg (by omega)] at h3
    exact h3
theorem ta_set {Ts : List (List Ru)} {w : Int} {L : List Ru} (h1 : 1 ≤ w) (h2 : w ≤ Ts.length) : taT (Ts.set (w - 1).toNat L) w = L := by
  have h : (w - 1).toNat < Ts.length := by omega
  rw [taT, List.getD_eq_getElem?_getD, List.getElem?_set_self h]
  rfl

/-- THERE AND BACK: what takes ops back, done behind them, has no fault, and each table has the rules that it had. -/
theorem ca_back {S : Int} : ∀ {l : List Op8} {Ts : List (List Ru)}, (Ts.length : Int) = S → caN S Ts l = 0 → caN S (caT Ts l) (tuL l) = 0 ∧ tsPm (caT (caT Ts l) (tuL l)) Ts
  | [], Ts, _, _ => ⟨rfl, pm_rf Ts⟩
  | o :: l, Ts, hS, e => by
    obtain ⟨h1, h2, h3⟩ := ca_cons e
    have hw := sw_of.1 h1
    obtain ⟨i1, i2⟩ := ca_back (l := l) (Ts := Ts.set (o.w - 1).toNat (doL (taT Ts o.w) o.a o.r)) (by rw [List.length_set]; exact hS) h3
    have et : tuL (o :: l) = tuL l ++ [tu1 o] := by simp [tuL]
    rw [et, caT, ca_app, if_pos i1, cj_app]
    have hp : (taT (caT (caT (Ts.set (o.w - 1).toNat (doL (taT Ts o.w) o.a o.r)) l) (tuL l)) o.w).Perm (doL (taT Ts o.w) o.a o.r) := by
      have := i2.2 (o.w - 1).toNat
      have e2 := ta_set (Ts := Ts) (L := doL (taT Ts o.w) o.a o.r) hw.1 (by omega)
      rw [taT] at e2
      rw [e2] at this
      exact this
    obtain ⟨d1, d2⟩ := do_turn h2 hp
    constructor
    · rw [caN]
      show (if swB S o.w = true then _ else _) = _
      rw [if_pos h1]
      show (if doN (taT _ o.w) (!o.a) o.r = 0 then _ else _) = _
      rw [if_pos d1, caN]
    · rw [caT, caT]
      exact pm_off i2 d2

theorem sm_pm {L M : List Ru} (h : L.Perm M) (hM : tbN M = 0) : twN L M = 0 ∧ smB L M = true := by
  have hL := tb_pm h hM
  have ht : twN L M = 0 := by rw [twN, if_pos hL, hM]
  refine ⟨ht, ?_⟩
  have hb : bey L M = [] := by
    rw [bey, List.filter_eq_nil_iff]
    intro r hr
    simp [in_iff.2 (h.subset hr)]
  rw [smB, if_pos ht, h.length_eq, hb]
  simp
/-- Two right tables are the same just if there is nothing between them. -/
theorem sm_df {A B : List Ru} (h : twN A B = 0) : smB A B = decide ((dfL A B).length = 0) := by
  obtain ⟨hA, hB⟩ : tbN A = 0 ∧ tbN B = 0 := by
    unfold twN at h
    by_cases h1 : tbN A = 0
    · rw [if_pos h1] at h; exact ⟨h1, h⟩
    · rw [if_neg h1] at h; exact absurd h h1
  have sub {X Y : List Ru} (e : bey X Y = []) : ∀ r ∈ X, r ∈ Y := by
    intro r hr
    rw [bey, List.filter_eq_nil_iff] at e
    have := e r hr
    simp at this
    exact in_iff.1 this
  rw [smB, if_pos h, dfL, if_pos h, Bool.eq_iff_iff]
  simp only [taken, added, List.length_append, List.length_map, Bool.and_eq_true, decide_eq_true_eq]
  constructor
  · rintro ⟨h1, h2⟩
    have hs := sub (List.length_eq_zero_iff.1 h2)
    rw [h2, Nat.zero_add]
    rw [List.length_eq_zero_iff, bey, List.filter_eq_nil_iff]
    intro r hr
    cases hi : inB A r
    · exfalso
      have hno : r ∉ A := fun hm => by rw [in_iff.2 hm] at hi; cases hi
      have := nodup_sub (M := r :: A) (L := B) (List.nodup_cons.2 ⟨hno, tb_nodup hA⟩) (fun x hx => by
        rcases List.mem_cons.1 hx with rfl | hx
        · exact hr
        · exact hs x hx)
      rw [List.length_cons] at this
      omega
    · simp
  · intro h1
    have e1 : (bey A B).length = 0 := by omega
    have e2 : (bey B A).length = 0 := by omega
    refine ⟨Nat.le_antisymm (nodup_sub (tb_nodup hA) (sub (List.length_eq_zero_iff.1 e1))) (nodup_sub (tb_nodup hB) (sub (List.length_eq_zero_iff.1 e2))), e1⟩

/-- Ops of one switch. -/
def ofS (w : Int) (l : List Op8) : List Op8 := l.map fun o => ⟨w, o.a, o.r⟩
theorem ca_of {S w : Int} (hs : swB S w = true) : ∀ {l : List Op8} {Ts : List (List Ru)}, (Ts.length : Int) = S → alN (taT Ts w) l = 0 → caN S Ts (ofS w l) = 0 ∧ caT Ts (ofS w l) = Ts.set (w - 1).toNat (alL (taT Ts w) l)
  | [], Ts, hS, _ => by
    have hw := sw_of.1 hs
    have h : (w - 1).toNat < Ts.length := by omega
    refine ⟨rfl, ?_⟩
    show Ts = Ts.set (w - 1).toNat (taT Ts w)
    rw [taT, List.getD_eq_getElem?_getD, List.getElem?_eq_getElem h]
    simp
  | o :: l, Ts, hS, e => by
    have hw := sw_of.1 hs
    rw [alN] at e
    by_cases h2 : doN (taT Ts w) o.a o.r = 0
    · rw [if_pos h2] at e
      have et := ta_set (Ts := Ts) (L := doL (taT Ts w) o.a o.r) hw.1 (by omega)
      obtain ⟨i1, i2⟩ := ca_of hs (l := l) (Ts := Ts.set (w - 1).toNat (doL (taT Ts w) o.a o.r)) (by rw [List.length_set]; exact hS) (by rw [et]; exact e)
      refine ⟨?_, ?_⟩
      · show caN S Ts (⟨w, o.a, o.r⟩ :: ofS w l) = 0
        rw [caN]
        show (if swB S w = true then (if doN (taT Ts w) o.a o.r = 0 then _ else _) else _) = _
        rw [if_pos hs, if_pos h2]
        exact i1
      · show caT Ts (⟨w, o.a, o.r⟩ :: ofS w l) = _
        rw [caT]
        show caT (Ts.set (w - 1).toNat (doL (taT Ts w) o.a o.r)) (ofS w l) = _
        rw [i2, et, List.set_set, alL, if_pos h2]
    · rw [if_neg h2] at e; exact absurd e h2
/-- What is between the first k tables of two nets. -/
def cdL (As Bs : List (List Ru)) : Nat → List Op8
  | 0 => []
  | k + 1 => cdL As Bs k ++ ofS (k + 1) (dfL (As.getD k []) (Bs.getD k []))
/-- The tables are the Same, one by one, the first k. -/
def csB (As Bs : List (List Ru)) : Nat → Bool
  | 0 => true
  | k + 1 => csB As Bs k && smB (As.getD k []) (Bs.getD k [])
theorem cs_iff {As Bs : List (List Ru)} : ∀ {k : Nat}, csB As Bs k = true ↔ ∀ j, j < k → smB (As.getD j []) (Bs.getD j []) = true
  | 0 => by simp [csB]
  | k + 1 => by
    rw [csB, Bool.and_eq_true, cs_iff]
    refine ⟨fun ⟨h1, h2⟩ j hj => ?_, fun h => ⟨fun j hj => h j (by omega), h k (by omega)⟩⟩
    by_cases e : j = k
    · rw [e]; exact h2
    · exact h1 j (by omega)
theorem cs_cd {As Bs : List (List Ru)} : ∀ {k : Nat}, (∀ j, j < k → twN (As.getD j []) (Bs.getD j []) = 0) → csB As Bs k = decide ((cdL As Bs k).length = 0)
  | 0, _ => rfl
  | k + 1, h => by
    rw [csB, cs_cd (k := k) (fun j hj => h j (by omega)), sm_df (h k (by omega)), cdL, List.length_append, ofS, List.length_map, Bool.eq_iff_iff]
    simp only [Bool.and_eq_true, decide_eq_true_eq]
    omega
/-- WHAT IS BETWEEN TWO MAKES OF THE ONE THE OTHER. -/
theorem ca_diff {S : Int} {As Bs : List (List Ru)} (hS : (As.length : Int) = S) (ht : ∀ j, j < As.length → twN (As.getD j []) (Bs.getD j []) = 0) : ∀ {k : Nat}, k ≤ As.length →
    caN S As (cdL As Bs k) = 0 ∧ ∀ j, (caT As (cdL As Bs k)).getD j [] = if j < k then alL (As.getD j []) (dfL (As.getD j []) (Bs.getD j [])) else As.getD j []
  | 0, _ => ⟨rfl, fun j => by simp [cdL, caT]⟩
  | k + 1, hk => by
    obtain ⟨i1, i2⟩ := ca_diff hS ht (k := k) (by omega)
    have hs : swB S ((k : Int) + 1) = true := sw_of.2 ⟨by omega, by omega⟩
    have e0 : ((k : Int) + 1 - 1).toNat = k := by omega
    have et : taT (caT As (cdL As Bs k)) ((k : Int) + 1) = As.getD k [] := by
      rw [taT, e0, i2, if_neg (by omega)]
    have hl : ((caT As (cdL As Bs k)).length : Int) = S := by rw [ca_len]; exact hS
    obtain ⟨c1, c2⟩ := ca_of hs hl (l := dfL (As.getD k []) (Bs.getD k [])) (by rw [et]; exact (al_diff (ht k (by omega))).1)
    rw [cdL]
    refine ⟨by rw [ca_app, if_pos i1]; exact c1, fun j => ?_⟩
    rw [cj_app, c2, et, e0]
    have hlen : k < (caT As (cdL As Bs k)).length := by rw [ca_len]; omega
    by_cases e : j = k
    · subst e
      rw [if_pos (by omega), List.getD_eq_getElem?_getD, List.getElem?_set_self hlen]
      rfl
    · rw [List.getD_eq_getElem?_getD, List.getElem?_set_ne (by omega), ← List.getD_eq_getElem?_getD, i2]
      by_cases h : j < k
      · rw [if_pos h, if_pos (by omega)]
      · rw [if_neg h, if_neg (by omega)]
theorem tu_len (l : List Op8) : (tuL l).length = l.length := by simp [tuL]
theorem cd_few {As Bs : List (List Ru)} (ht : ∀ j, twN (As.getD j []) (Bs.getD j []) = 0) : ∀ k, (cdL As Bs k).length ≤ 24 * k
  | 0 => by simp [cdL]
  | k + 1 => by
    have h1 := cd_few ht k
    have h2 : (dfL (As.getD k []) (Bs.getD k [])).length ≤ 24 := by
      have h := ht k
      rw [dfL, if_pos h]
      obtain ⟨hA, hB⟩ : tbN (As.getD k []) = 0 ∧ tbN (Bs.getD k []) = 0 := by
        unfold twN at h
        by_cases h1 : tbN (As.getD k []) = 0
        · rw [if_pos h1] at h; exact ⟨h1, h⟩
        · rw [if_neg h1] at h; exact absurd h h1
      have a := (tb_iff.1 hA).1
      have b := (tb_iff.1 hB).1
      have c : (bey (As.getD k []) (Bs.getD k [])).length ≤ (As.getD k []).length := List.length_filter_le _ _
      have d : (bey (Bs.getD k []) (As.getD k [])).length ≤ (Bs.getD k []).length := List.length_filter_le _ _
      simp only [taken, added, List.length_append, List.length_map]
      omega
    rw [cdL, List.length_append, ofS, List.length_map]
    omega

/-- The fault of ops at a net. -/
def cgN (S : Int) (Ls : List ((Int × Int) × (Int × Int))) (Hs : List (ByteArray × (Int × Int))) (Ts : List (List Ru)) (l : List Op8) : Int :=
  if ntN S Ls Hs Ts = 0 then (if 200 < l.length then 4 else caN S Ts l) else ntN S Ls Hs Ts
theorem ts_ok {Ts : List (List Ru)} (h : tsOk Ts) : ∀ n, tsTo Ts n = 0
  | 0 => rfl
  | n + 1 => by
    rw [tsTo, if_pos (ts_ok h n), List.getD_eq_getElem?_getD]
    by_cases e : n < Ts.length
    · rw [List.getElem?_eq_getElem e]; exact h _ (List.getElem_mem e)
    · rw [List.getElem?_eq_none (by omega)]; rfl
theorem ok_ts {Ts : List (List Ru)} (h : ∀ k, k < Ts.length → tbN (Ts.getD k []) = 0) : tsOk Ts := by
  intro L hL
  obtain ⟨k, hk, rfl⟩ := List.getElem_of_mem hL
  have := h k hk
  rw [List.getD_eq_getElem?_getD, List.getElem?_eq_getElem hk] at this
  exact this
theorem nt_of {S : Int} {Ls : List ((Int × Int) × (Int × Int))} {Hs : List (ByteArray × (Int × Int))} {Ts : List (List Ru)} (h1 : tpN S Ls Hs = 0) (h2 : (Ts.length : Int) = S) (h3 : tsOk Ts) : ntN S Ls Hs Ts = 0 := by
  rw [ntN, if_pos h1, if_pos h2, ts_ok h3]
theorem cg_0 {S : Int} {Ls : List ((Int × Int) × (Int × Int))} {Hs : List (ByteArray × (Int × Int))} {Ts : List (List Ru)} {l : List Op8} (h : cgN S Ls Hs Ts l = 0) : ntN S Ls Hs Ts = 0 ∧ l.length ≤ 200 ∧ caN S Ts l = 0 := by
  unfold cgN at h
  by_cases e : ntN S Ls Hs Ts = 0
  · rw [if_pos e] at h
    by_cases e2 : 200 < l.length
    · rw [if_pos e2] at h; omega
    · rw [if_neg e2] at h; exact ⟨e, by omega, h⟩
  · rw [if_neg e] at h; exact absurd h e
theorem cg_of {S : Int} {Ls : List ((Int × Int) × (Int × Int))} {Hs : List (ByteArray × (Int × Int))} {Ts : List (List Ru)} {l : List Op8} (h1 : ntN S Ls Hs Ts = 0) (h2 : l.length ≤ 200) (h3 : caN S Ts l = 0) : cgN S Ls Hs Ts l = 0 := by
  rw [cgN, if_pos h1, if_neg (by omega), h3]
/-- The net behind ops is right. -/
theorem nt_ca {S : Int} {Ls : List ((Int × Int) × (Int × Int))} {Hs : List (ByteArray × (Int × Int))} {Ts : List (List Ru)} {l : List Op8} (h : ntN S Ls Hs Ts = 0) (hl : caN S Ts l = 0) : ntN S Ls Hs (caT Ts l) = 0 := by
  obtain ⟨h1, h2, h3⟩ := nt_0 h
  exact nt_of h1 (by rw [ca_len]; exact h2) (ca_right (ok_ts h3) hl)
/-- In parts, or at once. -/
theorem cg_parts {S : Int} {Ls : List ((Int × Int) × (Int × Int))} {Hs : List (ByteArray × (Int × Int))} {Ts : List (List Ru)} {a b : List Op8} (h : cgN S Ls Hs Ts (a ++ b) = 0) :
    cgN S Ls Hs Ts a = 0 ∧ cgN S Ls Hs (caT Ts a) b = 0 := by
  obtain ⟨h1, h2, h3⟩ := cg_0 h
  rw [List.length_append] at h2
  rw [ca_app] at h3
  by_cases e : caN S Ts a = 0
  · rw [if_pos e] at h3
    exact ⟨cg_of h1 (by omega) e, cg_of (nt_ca h1 e) (by omega) h3⟩
  · rw [if_neg e] at h3; exact absurd h3 e
/-- Ops, and then what takes them back. -/
theorem cg_back {S : Int} {Ls : List ((Int × Int) × (Int × Int))} {Hs : List (ByteArray × (Int × Int))} {Ts : List (List Ru)} {l : List Op8} (h : cgN S Ls Hs Ts l = 0) :
    ntN S Ls Hs (caT Ts l) = 0 ∧ cgN S Ls Hs (caT Ts l) (tuL l) = 0 ∧ ntN S Ls Hs (caT (caT Ts l) (tuL l)) = 0 ∧ csB (caT (caT Ts l) (tuL l)) Ts Ts.length = true := by
  obtain ⟨h1, h2, h3⟩ := cg_0 h
  obtain ⟨t1, t2, t3⟩ := nt_0 h1
  obtain ⟨b1, b2⟩ := ca_back t2 h3
  have n1 := nt_ca h1 h3
  refine ⟨n1, cg_of n1 (by rw [tu_len]; exact h2) b1, nt_ca n1 b1, ?_⟩
  rw [cs_iff]
  intro j hj
  exact (sm_pm (b2.2 j) (t3 j hj)).2
/-- What is between two right nets with as many switches. -/
theorem cg_diff {S : Int} {Ls : List ((Int × Int) × (Int × Int))} {Hs : List (ByteArray × (Int × Int))} {As Bs : List (List Ru)} (hA : ntN S Ls Hs As = 0) (hB : ntN S Ls Hs Bs = 0) (hl : (cdL As Bs As.length).length ≤ 200) :
    cgN S Ls Hs As (cdL As Bs As.length) = 0 ∧ csB (caT As (cdL As Bs As.length)) Bs As.length = true := by
  obtain ⟨t1, t2, t3⟩ := nt_0 hA
  obtain ⟨s1, s2, s3⟩ := nt_0 hB
  have ht : ∀ j, j < As.length → twN (As.getD j []) (Bs.getD j []) = 0 := fun j hj => by rw [twN, if_pos (t3 j hj), s3 j (by omega)]
  obtain ⟨d1, d2⟩ := ca_diff t2 ht (Nat.le_refl _)
  refine ⟨cg_of hA hl d1, ?_⟩
  rw [cs_iff]
  intro j hj
  rw [d2, if_pos hj]
  exact (al_diff (ht j hj)).2.1
end Go.Proofs.YtglnnoglbieaeaaGreatDoor
/- All fates that are possible while tables change: plain lists. No program in it. -/
namespace Go.Proofs.YtglnnoglbieaeaaGreatDoor
open Go.RowKit
set_option linter.unusedVariables false
set_option linter.unusedSimpArgs false

/-- A packet ends, or goes on. -/
def onL (k : List ((Int × Int) × Int) → List (Int × ByteArray × List ((Int × Int) × Int)) → List (Int × ByteArray × List ((Int × Int) × Int))) (l : List ((Int × Int) × Int)) (a : List (Int × ByteArray × List ((Int × Int) × Int))) (g : (Int × ByteArray) ⊕ ((Int × Int) × Int)) : List (Int × ByteArray × List ((Int × Int) × Int)) :=
  match g with
  | .inl e => puR faL (e.1, e.2, l) a
  | .inr p => k (l ++ [p]) a
/-- Is a switch's table another one? -/
def chB (As Bs : List (List Ru)) (s : Int) : Bool := decide (0 < (bey (taT As s) (taT Bs s)).length + (bey (taT Bs s) (taT As s)).length)
section
variable (Ls : List ((Int × Int) × (Int × Int))) (Hs : List (ByteArray × (Int × Int))) (As Bs : List (List Ru))
/-- What may be seen behind these hops, put to what is there: met has the switches whose new tables were met. -/
def wkL : Nat → List ((Int × Int) × Int) → List Int → List (Int × ByteArray × List ((Int × Int) × Int)) → List (Int × ByteArray × List ((Int × Int) × Int))
  | 0, _, _, a => a
  | n + 1, l, met, a =>
    if chB As Bs (laH l).1.1 = true then
      onL (fun l' a' => wkL n l' (if (laH l).1.1 ∈ met then met else met ++ [(laH l).1.1]) a') l
        (if (laH l).1.1 ∈ met then a else onL (fun l' a' => wkL n l' met a') l a (goE Ls Hs (taT As (laH l).1.1) l (laH l)))
        (goE Ls Hs (taT Bs (laH l).1.1) l (laH l))
    else if (laH l).1.1 ∈ met then a else onL (fun l' a' => wkL n l' met a') l a (goE Ls Hs (taT As (laH l).1.1) l (laH l))
variable {Ls Hs As Bs}
theorem on_mem {k : List ((Int × Int) × Int) → List (Int × ByteArray × List ((Int × Int) × Int)) → List (Int × ByteArray × List ((Int × Int) × Int))} (hk : ∀ l a x, x ∈ k l a ↔ x ∈ a ∨ x ∈ k l []) (l : List ((Int × Int) × Int)) (a : List (Int × ByteArray × List ((Int × Int) × Int))) (g : (Int × ByteArray) ⊕ ((Int × Int) × Int)) (x : Int × ByteArray × List ((Int × Int) × Int)) : x ∈ onL k l a g ↔ x ∈ a ∨ x ∈ onL k l [] g := by
  cases g with
  | inl e =>
    simp only [onL]
    rw [pu_mem lo_fate, pu_mem lo_fate]
    simp only [List.not_mem_nil, or_false]
    exact Or.comm
  | inr p => exact hk _ _ _
theorem on_ris {k : List ((Int × Int) × Int) → List (Int × ByteArray × List ((Int × Int) × Int)) → List (Int × ByteArray × List ((Int × Int) × Int))} (hk : ∀ l a, Ris faL a → Ris faL (k l a)) (l : List ((Int × Int) × Int)) {a : List (Int × ByteArray × List ((Int × Int) × Int))} (ha : Ris faL a) (g : (Int × ByteArray) ⊕ ((Int × Int) × Int)) : Ris faL (onL k l a g) := by
  cases g with
  | inl e => exact pu_ris lo_fate _ ha
  | inr p => exact hk _ _ ha
theorem wk_mem : ∀ (n : Nat) (l : List ((Int × Int) × Int)) (met : List Int) (a : List (Int × ByteArray × List ((Int × Int) × Int))) (x : Int × ByteArray × List ((Int × Int) × Int)), x ∈ wkL Ls Hs As Bs n l met a ↔ x ∈ a ∨ x ∈ wkL Ls Hs As Bs n l met []
  | 0, l, met, a, x => by simp [wkL]
  | n + 1, l, met, a, x => by
    have h1 := on_mem (k := fun l' a' => wkL Ls Hs As Bs n l' met a') (fun l a x => wk_mem n l met a x) l
    have h2 := on_mem (k := fun l' a' => wkL Ls Hs As Bs n l' (if (laH l).1.1 ∈ met then met else met ++ [(laH l).1.1]) a') (fun l' a x => wk_mem n l' _ a x) l
    rw [wkL, wkL]
    by_cases hc : chB As Bs (laH l).1.1 = true
    · rw [if_pos hc, if_pos hc]
      by_cases hm : (laH l).1.1 ∈ met
      · simp only [hm, if_true] at h2 ⊢
        exact h2 _ _ _
      · simp only [hm, if_false] at h2 ⊢
        rw [h2, h1, h2 (onL _ l [] _)]
        exact or_assoc
    · rw [if_neg hc, if_neg hc]
      by_cases hm : (laH l).1.1 ∈ met
      · rw [if_pos hm, if_pos hm]
        simp
      · rw [if_neg hm, if_neg hm]
        exact h1 _ _ _
theorem wk_ris : ∀ (n : Nat) (l : List ((Int × Int) × Int)) (met : List Int) (a : List (Int × ByteArray × List ((Int × Int) × Int))), Ris faL a → Ris faL (wkL Ls Hs As Bs n l met a)
  | 0, l, met, a, h => h
  | n + 1, l, met, a, h => by
    have h1 := fun (b : List (Int × ByteArray × List ((Int × Int) × Int))) (hb : Ris faL b) => on_ris (k := fun l' a' => wkL Ls Hs As Bs n l' met a') (fun l a h => wk_ris n l met a h) l hb
    have h2 := fun (b : List (Int × ByteArray × List ((Int × Int) × Int))) (hb : Ris faL b) => on_ris (k := fun l' a' => wkL Ls Hs As Bs n l' (if (laH l).1.1 ∈ met then met else met ++ [(laH l).1.1]) a') (fun l' a h => wk_ris n l' _ a h) l hb
    rw [wkL]
    by_cases hc : chB As Bs (laH l).1.1 = true
    · rw [if_pos hc]
      by_cases hm : (laH l).1.1 ∈ met
      · simp only [hm, if_true] at h2 ⊢
        exact h2 _ h _
      · simp only [hm, if_false] at h2 ⊢
        exact h2 _ (h1 _ h _) _
    · rw [if_neg hc]
      by_cases hm : (laH l).1.1 ∈ met
      · rw [if_pos hm]
        exact h
      · rw [if_neg hm]
        exact h1 _ h _
theorem go_24 {t : List Ru} {l : List ((Int × Int) × Int)} {p q : (Int × Int) × Int} (h : goE Ls Hs t l p = .inr q) : l.length ≠ 24 := by
  intro e
  unfold goE at h
  cases h1 : stT t p with
  | none => rw [h1] at h; cases h
  | some r =>
    rw [h1] at h
    simp only at h
    cases h2 : atO Hs r.1 with
    | some m => rw [h2] at h; cases h
    | none =>
      rw [h2] at h
      simp only at h
      cases h3 : peerO Ls r.1 with
      | none => rw [h3] at h; cases h
      | some s =>
        rw [h3] at h
        simp only at h
        rw [if_pos (.inl e)] at h
        cases h
/-- Whatever each switch's table is on the way, the old one or the new one: what becomes of the packet then may be seen. -/
theorem wk_fix {Ms : List (List Ru)} {new : Int → Bool} (hM : ∀ s, taT Ms s = if new s = true then taT Bs s else taT As s) (hq : ∀ s, chB As Bs s = false → ∀ l p, goE Ls Hs (taT Bs s) l p = goE Ls Hs (taT As s) l p) :
    ∀ (n : Nat) (l : List ((Int × Int) × Int)) (met : List Int), l.length + n = 25 → 1 ≤ n → (∀ s ∈ met, new s = true ∧ chB As Bs s = true) → foF Ls Hs Ms n l ∈ wkL Ls Hs As Bs n l met []
  | 0, l, met, h1, h2, h3 => by omega
  | n + 1, l, met, h1, h2, h3 => by
    have ih := wk_fix hM hq n
    rw [foF, wkL, hM]
    obtain ⟨s, hs⟩ : ∃ s, s = (laH l).1.1 := ⟨_, rfl⟩
    rw [← hs]
    have fin : ∀ (met2 : List Int) (a : List (Int × ByteArray × List ((Int × Int) × Int))) (t : List Ru), (∀ s ∈ met2, new s = true ∧ chB As Bs s = true) →
        (match goE Ls Hs t l (laH l) with | .inl e => (e.1, e.2, l) | .inr p => foF Ls Hs Ms n (l ++ [p])) ∈ onL (fun l' a' => wkL Ls Hs As Bs n l' met2 a') l a (goE Ls Hs t l (laH l)) := by
      intro met2 a t hm2
      cases hg : goE Ls Hs t l (laH l) with
      | inl e => exact (pu_mem lo_fate _).2 (.inl rfl)
      | inr p =>
        have h24 := go_24 hg
        refine (wk_mem n _ _ _ _).2 (.inr ?_)
        exact ih (l ++ [p]) met2 (by simp; omega) (by omega) hm2
    cases hn : new s
    · have hnm : ¬ s ∈ met := fun h => by have := (h3 s h).1; rw [hn] at this; cases this
      simp only [Bool.false_eq_true, if_false, hnm]
      by_cases hc : chB As Bs s = true
      · rw [if_pos hc]
        refine (on_mem (fun l' a x => wk_mem n l' _ a x) l _ _ _).2 (.inl ?_)
        exact fin met [] (taT As s) h3
      · rw [if_neg hc]
        exact fin met [] (taT As s) h3
    · simp only [if_true]
      by_cases hc : chB As Bs s = true
      · rw [if_pos hc]
        refine fin _ _ (taT Bs s) ?_
        intro x hx
        by_cases hm : s ∈ met
        · rw [if_pos hm] at hx
          exact h3 x hx
        · rw [if_neg hm] at hx
          rcases List.mem_append.1 hx with h | h
          · exact h3 x h
          · have : x = s := by simpa using h
            subst this
            exact ⟨hn, hc⟩
      · rw [if_neg hc]
        have hnm : ¬ s ∈ met := fun h => hc (h3 s h).2
        rw [if_neg hnm, hq s (by simpa using hc)]
        exact fin met [] (taT As s) h3
/-- Where no table is another one just one fate may be seen. -/
theorem wk_same (hc : ∀ s, chB As Bs s = false) : ∀ (n : Nat) (l : List ((Int × Int) × Int)) (a : List (Int × ByteArray × List ((Int × Int) × Int))), l.length + n = 25 → 1 ≤ n → wkL Ls Hs As Bs n l [] a = puR faL (foF Ls Hs As n l) a
  | 0, l, a, h1, h2 => by omega
  | n + 1, l, a, h1, h2 => by
    have e : ¬ chB As Bs (laH l).1.1 = true := by rw [hc]; simp
    have e2 : ¬ (laH l).1.1 ∈ ([] : List Int) := List.not_mem_nil
    rw [wkL, if_neg e, if_neg e2, foF]
    cases hg : goE Ls Hs (taT As (laH l).1.1) l (laH l) with
    | inl e => rfl
    | inr p =>
      have h24 := go_24 hg
      exact wk_same hc n (l ++ [p]) a (by simp; omega) (by omega)
/-- What may be seen, of a packet that comes in. -/
def seeL (Ls : List ((Int × Int) × (Int × Int))) (Hs : List (ByteArray × (Int × Int))) (As Bs : List (List Ru)) (s : Int × Int) (h : Int) : List (Int × ByteArray × List ((Int × Int) × Int)) := wkL Ls Hs As Bs 24 [(s, h)] [] []
theorem see_ris (s : Int × Int) (h : Int) : Ris faL (seeL Ls Hs As Bs s h) := wk_ris _ _ _ _ List.Pairwise.nil
theorem see_same (hc : ∀ s, chB As Bs s = false) (s : Int × Int) (h : Int) : seeL Ls Hs As Bs s h = [frF Ls Hs As s h] := wk_same hc 24 _ _ rfl (by omega)
theorem see_fix {Ms : List (List Ru)} {new : Int → Bool} (hM : ∀ s, taT Ms s = if new s = true then taT Bs s else taT As s) (hq : ∀ s, chB As Bs s = false → ∀ l p, goE Ls Hs (taT Bs s) l p = goE Ls Hs (taT As s) l p) (s : Int × Int) (h : Int) : frF Ls Hs Ms s h ∈ seeL Ls Hs As Bs s h := wk_fix hM hq 24 _ _ rfl (by omega) (fun x hx => absurd hx List.not_mem_nil)
end
end Go.Proofs.YtglnnoglbieaeaaGreatDoor
/- Two right tables that have the same rules send every packet alike. No program in it. -/
namespace Go.Proofs.YtglnnoglbieaeaaGreatDoor
open Go.RowKit
set_option linter.unusedVariables false
set_option linter.unusedSimpArgs false

theorem getR {L : List Ru} {k : Nat} (h : k < L.length) : L.getD k zeR = L[k] := by simp [List.getD, h]
/-- What counts is there, has the header, and none that has it is above. -/
theorem be_in {L : List Ru} {h : Int} (h0 : 0 ≤ beTo L h L.length) : L.getD (beTo L h L.length).toNat zeR ∈ L ∧ (L.getD (beTo L h L.length).toNat zeR).has h = true ∧ ∀ r ∈ L, r.has h = true → ordR r (L.getD (beTo L h L.length).toNat zeR) ≤ 0 := by
  have hb := be_bd L h L.length
  have hl : (beTo L h L.length).toNat < L.length := by omega
  obtain ⟨d1, d2⟩ := be_yes h0
  refine ⟨by rw [getR hl]; exact List.getElem_mem hl, d1, fun r hr hh => ?_⟩
  obtain ⟨j, hj, rfl⟩ := List.getElem_of_mem hr
  have := d2 j hj (by rw [getR hj]; exact hh)
  rw [getR hj] at this
  exact this
theorem be_neg {L : List Ru} {h : Int} (h0 : beTo L h L.length < 0) : ∀ r ∈ L, r.has h = false := by
  intro r hr
  obtain ⟨j, hj, rfl⟩ := List.getElem_of_mem hr
  have := be_no h0 j hj
  rw [getR hj] at this
  exact this
theorem be_sign {A B : List Ru} (hm : ∀ r, r ∈ A → r ∈ B) {h : Int} (h0 : 0 ≤ beTo A h A.length) : 0 ≤ beTo B h B.length := by
  obtain ⟨d1, d2, _⟩ := be_in h0
  rcases Int.lt_or_le (beTo B h B.length) 0 with h1 | h1
  · have := be_neg h1 _ (hm _ d1)
    rw [d2] at this
    cases this
  · exact h1
theorem lu_alike {A B : List Ru} (hA : tbN A = 0) (hB : tbN B = 0) (hm : ∀ r, r ∈ A ↔ r ∈ B) (h : Int) : (luN A h = 0 ↔ luN B h = 0) ∧ (luN A h = 0 → roR A h = roR B h) := by
  have e : luN A h = 0 ↔ luN B h = 0 := by
    rw [lu_0, lu_0]
    exact ⟨fun q => ⟨hB, q.2.1, be_sign (fun r => (hm r).1) q.2.2⟩, fun q => ⟨hA, q.2.1, be_sign (fun r => (hm r).2) q.2.2⟩⟩
  refine ⟨e, fun h0 => ?_⟩
  have h1 := e.1 h0
  have a := be_in (lu_0.1 h0).2.2
  have b := be_in (lu_0.1 h1).2.2
  rw [roR, roR, luI, luI, if_pos h0, if_pos h1]
  have q1 := b.2.2 _ ((hm _).1 a.1) a.2.1
  have q2 := a.2.2 _ ((hm _).2 b.1) b.2.1
  exact tb_key hB ((hm _).1 a.1) b.1 (by rw [keyB, ord_as q1 q2]; rfl)
theorem st_alike {A B : List Ru} (hA : tbN A = 0) (hB : tbN B = 0) (hm : ∀ r, r ∈ A ↔ r ∈ B) (p : (Int × Int) × Int) : stT B p = stT A p := by
  obtain ⟨e1, e2⟩ := lu_alike hA hB hm p.2
  unfold stT
  by_cases h : luN A p.2 = 0
  · rw [if_pos h, if_pos (e1.1 h), e2 h]
  · rw [if_neg h, if_neg (fun q => h (e1.2 q))]
theorem ch_alike {As Bs : List (List Ru)} {s : Int} (h : chB As Bs s = false) : ∀ r, r ∈ taT As s ↔ r ∈ taT Bs s := by
  have h1 : (bey (taT As s) (taT Bs s)).length = 0 ∧ (bey (taT Bs s) (taT As s)).length = 0 := by
    unfold chB at h
    simp at h
    constructor
    · rw [h.1]; rfl
    · rw [h.2]; rfl
  have sub {X Y : List Ru} (e : (bey X Y).length = 0) : ∀ r ∈ X, r ∈ Y := by
    intro r hr
    have e := List.length_eq_zero_iff.1 e
    rw [bey, List.filter_eq_nil_iff] at e
    have := e r hr
    simp at this
    exact in_iff.1 this
  exact fun r => ⟨sub h1.1 r, sub h1.2 r⟩
/-- What a switch does whose table is not another one. -/
theorem go_alike {Ls : List ((Int × Int) × (Int × Int))} {Hs : List (ByteArray × (Int × Int))} {As Bs : List (List Ru)} (hA : ∀ s, tbN (taT As s) = 0) (hB : ∀ s, tbN (taT Bs s) = 0) (s : Int) (h : chB As Bs s = false) (l : List ((Int × Int) × Int)) (p : (Int × Int) × Int) : goE Ls Hs (taT Bs s) l p = goE Ls Hs (taT As s) l p := by
  unfold goE
  rw [st_alike (hA s) (hB s) (ch_alike h)]
end Go.Proofs.YtglnnoglbieaeaaGreatDoor
/- Where one switch's table changes, and a packet meets it once at most, two fates may be seen. No program in it. -/
namespace Go.Proofs.YtglnnoglbieaeaaGreatDoor
open Go.RowKit
set_option linter.unusedVariables false
set_option linter.unusedSimpArgs false

/-- How often a switch is met. -/
def cnS (s : Int) (l : List ((Int × Int) × Int)) : Nat := (l.filter fun p => p.1.1 == s).length
theorem cn_app (s : Int) (l : List ((Int × Int) × Int)) (p : (Int × Int) × Int) : cnS s (l ++ [p]) = cnS s l + if p.1.1 = s then 1 else 0 := by
  unfold cnS
  rw [List.filter_append, List.length_append]
  by_cases h : p.1.1 = s
  · simp [h]
  · simp [h]
theorem cn_pre {s : Int} {l m : List ((Int × Int) × Int)} (h : l <+: m) : cnS s l ≤ cnS s m := by
  obtain ⟨t, rfl⟩ := h
  unfold cnS
  rw [List.filter_append, List.length_append]
  omega
theorem pu_len {α : Type} {r : α → α → Bool} (f : α) : ∀ l : List α, (puR r f l).length ≤ l.length + 1
  | [] => by simp [puR]
  | x :: l => by
    rw [puR]
    by_cases h1 : r f x = true
    · rw [if_pos h1]; simp
    · rw [if_neg h1]
      by_cases h2 : r x f = true
      · rw [if_pos h2]
        have := pu_len (r := r) f l
        simp
        exact this
      · rw [if_neg h2]; simp
section
variable {Ls : List ((Int × Int) × (Int × Int))} {Hs : List (ByteArray × (Int × Int))} {As Bs : List (List Ru)}
/-- All that is seen begins with the hops that were there. -/
theorem wk_pre : ∀ (n : Nat) (l : List ((Int × Int) × Int)) (met : List Int) (x : Int × ByteArray × List ((Int × Int) × Int)), x ∈ wkL Ls Hs As Bs n l met [] → l <+: x.2.2
  | 0, l, met, x, h => by simp [wkL] at h
  | n + 1, l, met, x, h => by
    have on : ∀ (met2 : List Int) (g : (Int × ByteArray) ⊕ ((Int × Int) × Int)), x ∈ onL (fun l' a' => wkL Ls Hs As Bs n l' met2 a') l [] g → l <+: x.2.2 := by
      intro met2 g hx
      cases g with
      | inl e =>
        have := (pu_mem lo_fate _).1 hx
        simp at this
        rw [this]
        exact List.prefix_refl _
      | inr p => exact (List.prefix_append l [p]).trans (wk_pre n _ _ _ hx)
    rw [wkL] at h
    by_cases hc : chB As Bs (laH l).1.1 = true
    · rw [if_pos hc] at h
      rcases (on_mem (fun l' a x => wk_mem n l' _ a x) l _ _ _).1 h with h | h
      · by_cases hm : (laH l).1.1 ∈ met
        · rw [if_pos hm] at h; simp at h
        · rw [if_neg hm] at h; exact on _ _ h
      · exact on _ _ h
    · rw [if_neg hc] at h
      by_cases hm : (laH l).1.1 ∈ met
      · rw [if_pos hm] at h; simp at h
      · rw [if_neg hm] at h; exact on _ _ h
/-- Something is seen. -/
theorem wk_some : ∀ (n : Nat) (l : List ((Int × Int) × Int)) (met : List Int), l.length + n = 25 → 1 ≤ n → (∀ s ∈ met, chB As Bs s = true) → ∃ x, x ∈ wkL Ls Hs As Bs n l met []
  | 0, l, met, h1, h2, h3 => by omega
  | n + 1, l, met, h1, h2, h3 => by
    have on : ∀ (met2 : List Int) (a : List (Int × ByteArray × List ((Int × Int) × Int))) (t : List Ru), (∀ s ∈ met2, chB As Bs s = true) → ∃ x, x ∈ onL (fun l' a' => wkL Ls Hs As Bs n l' met2 a') l a (goE Ls Hs t l (laH l)) := by
      intro met2 a t hm2
      cases hg : goE Ls Hs t l (laH l) with
      | inl e => exact ⟨_, (pu_mem lo_fate _).2 (.inl rfl)⟩
      | inr p =>
        have h24 := go_24 hg
        obtain ⟨x, hx⟩ := wk_some n (l ++ [p]) met2 (by simp; omega) (by omega) hm2
        exact ⟨x, (wk_mem n _ _ _ _).2 (.inr hx)⟩
    rw [wkL]
    by_cases hc : chB As Bs (laH l).1.1 = true
    · rw [if_pos hc]
      refine on _ _ _ (fun x hx => ?_)
      by_cases hm : (laH l).1.1 ∈ met
      · rw [if_pos hm] at hx; exact h3 x hx
      · rw [if_neg hm] at hx
        rcases List.mem_append.1 hx with h | h
        · exact h3 x h
        · have : x = (laH l).1.1 := by simpa using h
          rw [this]; exact hc
    · rw [if_neg hc]
      have hm : ¬ (laH l).1.1 ∈ met := fun h => hc (h3 _ h)
      rw [if_neg hm]
      exact on _ _ _ h3
variable {s0 : Int}
/-- Behind the new table there is no choice. -/
theorem wk_new (h0 : chB As Bs s0 = true) (hc : ∀ s, s ≠ s0 → chB As Bs s = false) : ∀ (n : Nat) (l : List ((Int × Int) × Int)), l.length + n = 25 → 1 ≤ n → ∃ f, ∀ a, wkL Ls Hs As Bs n l [s0] a = puR faL f a
  | 0, l, h1, h2 => by omega
  | n + 1, l, h1, h2 => by
    have on : ∀ (t : List Ru), ∃ f, ∀ a, onL (fun l' a' => wkL Ls Hs As Bs n l' [s0] a') l a (goE Ls Hs t l (laH l)) = puR faL f a := by
      intro t
      cases hg : goE Ls Hs t l (laH l) with
      | inl e => exact ⟨_, fun a => rfl⟩
      | inr p =>
        have h24 := go_24 hg
        exact wk_new h0 hc n (l ++ [p]) (by simp; omega) (by omega)
    by_cases hs : (laH l).1.1 = s0
    · obtain ⟨f, hf⟩ := on (taT Bs s0)
      refine ⟨f, fun a => ?_⟩
      rw [wkL, hs, if_pos h0]
      simp only [List.mem_singleton, if_true]
      exact hf a
    · obtain ⟨f, hf⟩ := on (taT As (laH l).1.1)
      refine ⟨f, fun a => ?_⟩
      rw [wkL, hc _ hs]
      simp only [Bool.false_eq_true, if_false, List.mem_singleton, hs]
      exact hf a
/-- Nor behind the old one, if that switch is not met again. -/
theorem wk_old (h0 : chB As Bs s0 = true) (hc : ∀ s, s ≠ s0 → chB As Bs s = false) : ∀ (n : Nat) (l : List ((Int × Int) × Int)) (p : (Int × Int) × Int), (l ++ [p]).length + n = 25 → 1 ≤ n → 1 ≤ cnS s0 l → (∀ x ∈ wkL Ls Hs As Bs n (l ++ [p]) [] [], cnS s0 x.2.2 ≤ 1) → ∃ f, ∀ a, wkL Ls Hs As Bs n (l ++ [p]) [] a = puR faL f a
  | 0, l, p, h1, h2, h3, h4 => by omega
  | n + 1, l, p, h1, h2, h3, h4 => by
    have hla : laH (l ++ [p]) = p := by simp [laH, List.getD]
    have hs : ¬ p.1.1 = s0 := by
      intro e
      obtain ⟨x, hx⟩ := wk_some (Ls := Ls) (Hs := Hs) (As := As) (Bs := Bs) (n + 1) (l ++ [p]) [] h1 h2 (fun s h => absurd h List.not_mem_nil)
      have q1 := h4 x hx
      have q2 := cn_pre (s := s0) (wk_pre _ _ _ _ hx)
      rw [cn_app, if_pos e] at q2
      omega
    have ew : ∀ a, wkL Ls Hs As Bs (n + 1) (l ++ [p]) [] a = onL (fun l' a' => wkL Ls Hs As Bs n l' [] a') (l ++ [p]) a (goE Ls Hs (taT As p.1.1) (l ++ [p]) p) := by
      intro a
      rw [wkL, hla, hc _ hs]
      simp only [Bool.false_eq_true, if_false, List.not_mem_nil]
    cases hg : goE Ls Hs (taT As p.1.1) (l ++ [p]) p with
    | inl e =>
      refine ⟨(e.1, e.2, l ++ [p]), fun a => ?_⟩
      rw [ew, hg]
      rfl
    | inr q =>
      have h24 := go_24 hg
      have h5 : ∀ x ∈ wkL Ls Hs As Bs n (l ++ [p] ++ [q]) [] [], cnS s0 x.2.2 ≤ 1 := by
        intro x hx
        refine h4 x ?_
        rw [ew, hg]
        exact hx
      obtain ⟨f, hf⟩ := wk_old h0 hc n (l ++ [p]) q (by simp at h1 h24 ⊢; omega) (by simp at h1 h24; omega) (by rw [cn_app]; omega) h5
      refine ⟨f, fun a => ?_⟩
      rw [ew, hg]
      exact hf a
/-- TWO AT MOST. -/
theorem wk_two (h0 : chB As Bs s0 = true) (hc : ∀ s, s ≠ s0 → chB As Bs s = false) : ∀ (n : Nat) (l : List ((Int × Int) × Int)) (p : (Int × Int) × Int), (l ++ [p]).length + n = 25 → 1 ≤ n → (∀ x ∈ wkL Ls Hs As Bs n (l ++ [p]) [] [], cnS s0 x.2.2 ≤ 1) → (wkL Ls Hs As Bs n (l ++ [p]) [] []).length ≤ 2
  | 0, l, p, h1, h2, h4 => by omega
  | n + 1, l, p, h1, h2, h4 => by
    have hla : laH (l ++ [p]) = p := by simp [laH, List.getD]
    by_cases hs : p.1.1 = s0
    · have ew : wkL Ls Hs As Bs (n + 1) (l ++ [p]) [] [] = onL (fun l' a' => wkL Ls Hs As Bs n l' [s0] a') (l ++ [p]) (onL (fun l' a' => wkL Ls Hs As Bs n l' [] a') (l ++ [p]) [] (goE Ls Hs (taT As s0) (l ++ [p]) p)) (goE Ls Hs (taT Bs s0) (l ++ [p]) p) := by
        rw [wkL, hla, hs, if_pos h0]
        simp only [List.not_mem_nil, if_false, List.nil_append]
      have hold : (onL (fun l' a' => wkL Ls Hs As Bs n l' [] a') (l ++ [p]) [] (goE Ls Hs (taT As s0) (l ++ [p]) p)).length ≤ 1 := by
        cases hg : goE Ls Hs (taT As s0) (l ++ [p]) p with
        | inl e => simp [onL, puR]
        | inr q =>
          have h24 := go_24 hg
          have h5 : ∀ x ∈ wkL Ls Hs As Bs n (l ++ [p] ++ [q]) [] [], cnS s0 x.2.2 ≤ 1 := by
            intro x hx
            refine h4 x ?_
            rw [ew, hg]
            exact (on_mem (fun l' a x => wk_mem n l' _ a x) _ _ _ _).2 (.inl hx)
          obtain ⟨f, hf⟩ := wk_old h0 hc n (l ++ [p]) q (by simp at h1 h24 ⊢; omega) (by simp at h1 h24; omega) (by rw [cn_app, if_pos hs]; omega) h5
          show (wkL Ls Hs As Bs n (l ++ [p] ++ [q]) [] []).length ≤ 1
          rw [hf]
          simp [puR]
      rw [ew]
      generalize onL (fun l' a' => wkL Ls Hs As Bs n l' [] a') (l ++ [p]) [] (goE Ls Hs (taT As s0) (l ++ [p]) p) = O at hold
      cases hg : goE Ls Hs (taT Bs s0) (l ++ [p]) p with
      | inl e =>
        have := pu_len (r := faL) (e.1, e.2, l ++ [p]) O
        show (puR faL _ O).length ≤ 2
        omega
      | inr q =>
        have h24 := go_24 hg
        obtain ⟨f, hf⟩ := wk_new (Ls := Ls) (Hs := Hs) h0 hc n (l ++ [p] ++ [q]) (by simp at h1 h24 ⊢; omega) (by simp at h1 h24; omega)
        show (wkL Ls Hs As Bs n (l ++ [p] ++ [q]) [s0] O).length ≤ 2
        rw [hf]
        have := pu_len (r := faL) f O
        omega
    · have ew : wkL Ls Hs As Bs (n + 1) (l ++ [p]) [] [] = onL (fun l' a' => wkL Ls Hs As Bs n l' [] a') (l ++ [p]) [] (goE Ls Hs (taT As p.1.1) (l ++ [p]) p) := by
        rw [wkL, hla, hc _ hs]
        simp only [Bool.false_eq_true, if_false, List.not_mem_nil]
      cases hg : goE Ls Hs (taT As p.1.1) (l ++ [p]) p with
      | inl e => rw [ew, hg]; simp [onL, puR]
      | inr q =>
        have h24 := go_24 hg
        have h5 : ∀ x ∈ wkL Ls Hs As Bs n (l ++ [p] ++ [q]) [] [], cnS s0 x.2.2 ≤ 1 := by
          intro x hx
          refine h4 x ?_
          rw [ew, hg]
          exact hx
        rw [ew, hg]
        exact wk_two h0 hc n (l ++ [p]) q (by simp at h1 h24 ⊢; omega) (by simp at h1 h24; omega) h5
end
end Go.Proofs.YtglnnoglbieaeaaGreatDoor
/- What becomes of a packet, hop by hop: plain lists. No program in it. -/
namespace Go.Proofs.YtglnnoglbieaeaaGreatDoor
open Go.RowKit
set_option linter.unusedVariables false

section
variable {Ls : List ((Int × Int) × (Int × Int))} {Hs : List (ByteArray × (Int × Int))} {Ts : List (List Ru)}
/-- One hop is behind the other. -/
def NxH (Ls : List ((Int × Int) × (Int × Int))) (Hs : List (ByteArray × (Int × Int))) (Ts : List (List Ru)) (p q : (Int × Int) × Int) : Prop := ∃ o, stO Ts p = some o ∧ atO Hs o.1 = none ∧ peerO Ls o.1 = some q.1 ∧ q.2 = o.2
def atH (l : List ((Int × Int) × Int)) (i : Nat) : (Int × Int) × Int := l.getD i zeH
def ChH (Ls : List ((Int × Int) × (Int × Int))) (Hs : List (ByteArray × (Int × Int))) (Ts : List (List Ru)) (l : List ((Int × Int) × Int)) : Prop := ∀ i, i + 1 < l.length → NxH Ls Hs Ts (atH l i) (atH l (i + 1))
/-- What it comes to at the last of these hops. -/
def enE (Ls : List ((Int × Int) × (Int × Int))) (Hs : List (ByteArray × (Int × Int))) (Ts : List (List Ru)) (l : List ((Int × Int) × Int)) (p : (Int × Int) × Int) : (Int × ByteArray) ⊕ ((Int × Int) × Int) := goE Ls Hs (taT Ts p.1.1) l p
theorem la_at (l : List ((Int × Int) × Int)) : laH l = atH l (l.length - 1) := rfl
theorem at_app (l : List ((Int × Int) × Int)) (p : (Int × Int) × Int) : atH (l ++ [p]) l.length = p := by simp [atH, List.getD]
theorem at_lt {l : List ((Int × Int) × Int)} (m : List ((Int × Int) × Int)) {i : Nat} (h : i < l.length) : atH (l ++ m) i = atH l i := by simp [atH, List.getD, List.getElem?_append_left h]
theorem at_in {l : List ((Int × Int) × Int)} {i : Nat} (h : i < l.length) : atH l i ∈ l := by
  have e : atH l i = l[i] := by simp [atH, List.getD, h]
  rw [e]
  exact List.getElem_mem h
theorem en_r {l : List ((Int × Int) × Int)} {p q : (Int × Int) × Int} (h : enE Ls Hs Ts l p = .inr q) : NxH Ls Hs Ts p q ∧ l.length ≠ 24 ∧ q ∉ l := by
  unfold enE goE at h
  cases hs : stT (taT Ts p.1.1) p with
  | none => rw [hs] at h; cases h
  | some o =>
    rw [hs] at h
    simp only at h
    cases ha : atO Hs o.1 with
    | some m => rw [ha] at h; cases h
    | none =>
      rw [ha] at h
      simp only at h
      cases hp : peerO Ls o.1 with
      | none => rw [hp] at h; cases h
      | some s =>
        rw [hp] at h
        simp only at h
        split at h
        · cases h
        · next hn =>
          cases h
          rw [not_or] at hn
          refine ⟨⟨o, hs, ha, hp, rfl⟩, hn.1, fun hm => hn.2 ?_⟩
          exact List.any_eq_true.2 ⟨_, hm, (heB_iff _ _).2 rfl⟩
/-- A next hop that is not there yet is one. -/
theorem en_go {l : List ((Int × Int) × Int)} {p q : (Int × Int) × Int} (h : NxH Ls Hs Ts p q) (h24 : l.length ≠ 24) (hq : q ∉ l) : enE Ls Hs Ts l p = .inr q := by
  obtain ⟨o, h1, h2, h3, h4⟩ := h
  unfold enE goE
  rw [show stT (taT Ts p.1.1) p = some o from h1]
  simp only [h2, h3]
  rw [if_neg]
  · obtain ⟨q1, q2⟩ := q
    simp only at h4
    rw [h4]
  · rw [not_or]
    refine ⟨h24, fun hm => hq ?_⟩
    obtain ⟨x, hx, e⟩ := List.any_eq_true.1 hm
    have e2 := (heB_iff _ _).1 e
    obtain ⟨q1, q2⟩ := q
    simp only at h4
    rw [h4, e2]
    exact hx
/-- An end that is no loop is one whatever was there. -/
theorem en_l {l : List ((Int × Int) × Int)} {p : (Int × Int) × Int} {e : Int × ByteArray} (h : enE Ls Hs Ts l p = .inl e) (h4 : e.1 ≠ 4) (m : List ((Int × Int) × Int)) : enE Ls Hs Ts m p = .inl e := by
  unfold enE goE at h ⊢
  cases hs : stT (taT Ts p.1.1) p with
  | none => rw [hs] at h; exact h
  | some o =>
    rw [hs] at h
    simp only at h ⊢
    cases ha : atO Hs o.1 with
    | some m => rw [ha] at h; exact h
    | none =>
      rw [ha] at h
      simp only at h ⊢
      cases hp : peerO Ls o.1 with
      | none => rw [hp] at h; exact h
      | some s =>
        rw [hp] at h
        simp only at h
        split at h
        · cases h
          exact absurd rfl h4
        · cases h
/-- An end, in words. -/
theorem en_end {l : List ((Int × Int) × Int)} {p : (Int × Int) × Int} {e : Int × ByteArray} (h : enE Ls Hs Ts l p = .inl e) (hn : ∀ x ∈ Hs, x.1 ≠ ByteArray.empty) : (stO Ts p = none ↔ e.1 = 2) ∧ (e.1 = 1 ↔ e.2 ≠ ByteArray.empty) := by
  unfold enE goE at h
  unfold stO
  cases hs : stT (taT Ts p.1.1) p with
  | none => rw [hs] at h; cases h; simp
  | some o =>
    rw [hs] at h
    simp only at h
    cases ha : atO Hs o.1 with
    | some m =>
      rw [ha] at h
      cases h
      refine ⟨by simp, fun _ => ?_, fun _ => rfl⟩
      rcases at_ix Hs o.1 with ⟨_, h0⟩ | ⟨k, hk, _, h1⟩
      · rw [ha] at h0; cases h0
      · rw [ha] at h1
        cases h1
        exact hn _ (List.getElem_mem hk)
    | none =>
      rw [ha] at h
      simp only at h
      cases hp : peerO Ls o.1 with
      | none => rw [hp] at h; cases h; simp
      | some s =>
        rw [hp] at h
        simp only at h
        split at h
        · cases h; simp
        · cases h
theorem fo_s (n : Nat) (l : List ((Int × Int) × Int)) : foF Ls Hs Ts (n + 1) l = match enE Ls Hs Ts l (laH l) with | .inl e => (e.1, e.2, l) | .inr p => foF Ls Hs Ts n (l ++ [p]) := rfl
/-- What is so of the hops that are told. -/
theorem fo_spec : ∀ (n : Nat) (l : List ((Int × Int) × Int)), 0 < l.length → l.length + n = 25 → 1 ≤ n → l.Nodup → ChH Ls Hs Ts l →
    ∃ rest, (foF Ls Hs Ts n l).2.2 = l ++ rest ∧ (foF Ls Hs Ts n l).2.2.length ≤ 24 ∧ (foF Ls Hs Ts n l).2.2.Nodup ∧ ChH Ls Hs Ts (foF Ls Hs Ts n l).2.2 ∧
      enE Ls Hs Ts (foF Ls Hs Ts n l).2.2 (laH (foF Ls Hs Ts n l).2.2) = .inl ((foF Ls Hs Ts n l).1, (foF Ls Hs Ts n l).2.1)
  | 0, l, _, _, h, _, _ => by omega
  | n + 1, l, h0, hl, _, hd, hc => by
    rw [fo_s]
    cases he : enE Ls Hs Ts l (laH l) with
    | inl e => exact ⟨[], by simp, by simp only; omega, hd, hc, he⟩
    | inr p =>
      obtain ⟨h1, h2, h3⟩ := en_r he
      simp only
      have hl2 : l.length < 24 := by omega
      have hd2 : (l ++ [p]).Nodup := by
        rw [List.nodup_append]
        refine ⟨hd, by simp, fun a ha b hb e => ?_⟩
        simp only [List.mem_singleton] at hb
        subst hb
        subst e
        exact h3 ha
      have hc2 : ChH Ls Hs Ts (l ++ [p]) := by
        intro i hi
        simp only [List.length_append, List.length_cons, List.length_nil] at hi
        by_cases e : i + 1 = l.length
        · rw [at_lt _ (show i < l.length by omega), e, at_app]
          rw [la_at] at h1
          have : i = l.length - 1 := by omega
          rw [this]
          exact h1
        · rw [at_lt _ (show i < l.length by omega), at_lt _ (show i + 1 < l.length by omega)]
          exact hc i (by omega)
      obtain ⟨rest, e1, e2⟩ := fo_spec n (l ++ [p]) (by simp) (by simp; omega) (by omega) hd2 hc2
      exact ⟨p :: rest, by rw [e1]; simp, e2⟩
/-- From any of the hops on it ends likewise. -/
theorem fo_tail {L : List ((Int × Int) × Int)} {e : Int × ByteArray} (hd : L.Nodup) (hc : ChH Ls Hs Ts L) (h24 : L.length ≤ 24) (he : enE Ls Hs Ts L (laH L) = .inl e) (h4 : e.1 ≠ 4) :
    ∀ (r k : Nat) (m : List ((Int × Int) × Int)) (n : Nat), k + 1 + r = L.length → 0 < m.length → m.length ≤ k + 1 → laH m = atH L k → (∀ x ∈ m, ∃ j, j ≤ k ∧ x = atH L j) → r < n →
      (foF Ls Hs Ts n m).1 = e.1 ∧ (foF Ls Hs Ts n m).2.1 = e.2 ∧ (foF Ls Hs Ts n m).2.2.length = m.length + r
  | r, k, m, 0, _, _, _, _, _, hn => by omega
  | 0, k, m, n + 1, hk, hm, hmk, hla, hin, hn => by
    rw [fo_s]
    have : laH m = laH L := by
      rw [hla, la_at]
      congr 1
      omega
    rw [this, en_l he h4 m]
    exact ⟨rfl, rfl, by simp⟩
  | r + 1, k, m, n + 1, hk, hm, hmk, hla, hin, hn => by
    rw [fo_s]
    have hnx := hc k (by omega)
    have hq : atH L (k + 1) ∉ m := by
      intro hx
      obtain ⟨j, hj, e2⟩ := hin _ hx
      have e3 : L[k + 1]'(by omega) = L[j]'(by omega) := by
        have a1 : atH L (k + 1) = L[k + 1]'(by omega) := by
          have : k + 1 < L.length := by omega
          simp [atH, List.getD, this]
        have a2 : atH L j = L[j]'(by omega) := by
          have : j < L.length := by omega
          simp [atH, List.getD, this]
        rw [← a1, ← a2]
        exact e2
      have := (List.getElem_inj hd).1 e3
      omega
    rw [hla, en_go hnx (by omega) hq]
    simp only
    have h := fo_tail hd hc h24 he h4 r (k + 1) (m ++ [atH L (k + 1)]) n (by omega) (by simp) (by simp; omega) (by
      rw [la_at]
      simp only [List.length_append, List.length_cons, List.length_nil, Nat.add_sub_cancel]
      exact at_app _ _) (by
      intro x hx
      rw [List.mem_append] at hx
      rcases hx with hx | hx
      · obtain ⟨j, hj, e2⟩ := hin x hx
        exact ⟨j, by omega, e2⟩
      · simp only [List.mem_singleton] at hx
        exact ⟨k + 1, Nat.le_refl _, hx⟩) (by omega)
    refine ⟨h.1, h.2.1, ?_⟩
    rw [h.2.2]
    simp
    omega
end
end Go.Proofs.YtglnnoglbieaeaaGreatDoor
/- A line of switches: plain lists. No program in it. -/
namespace Go.Proofs.YtglnnoglbieaeaaGreatDoor
open Go.RowKit
set_option linter.unusedVariables false

/-- The links of a line. -/
def lnTo : Nat → List ((Int × Int) × (Int × Int))
  | 0 => []
  | k + 1 => lnTo k ++ [(((k : Int) + 1, 2), ((k : Int) + 1 + 1, 1))]
theorem ln_len (k : Nat) : (lnTo k).length = k := by
  induction k with
  | zero => rfl
  | succ k ih => simp [lnTo, ih]
/-- Its hosts. -/
def lnH (n : Int) : List (ByteArray × (Int × Int)) := [(⟨#[97]⟩, (1, 3)), (⟨#[98]⟩, (n, 4))]
def lnOk (n : Nat) : Bool := decide (tpN n (lnTo (n - 1)) (lnH n) = 0)
theorem ln_ok (n : Nat) (h1 : 1 ≤ n) (h6 : n ≤ 6) : tpN n (lnTo (n - 1)) (lnH n) = 0 := by
  have h : ∀ m ∈ [1, 2, 3, 4, 5, 6], lnOk m = true := by decide +kernel
  have h2 := h n (by simp; omega)
  simpa [lnOk] using h2
theorem ln_7 : tpN 7 (lnTo 6) (lnH 7) ≠ 0 := by decide +kernel
/-- How far, and how many are near, for all lines and switches. -/
def lnAll (n a b : Nat) : Bool := decide (faN n (lnTo (n - 1)) a b = if a < b then (b : Int) - a else (a : Int) - b) && decide (((nrL n (lnTo (n - 1)) a).length : Int) = 2 - (if a = 1 then 1 else 0) - (if a = n then 1 else 0))
theorem ln_all (n a b : Nat) (h1 : 1 ≤ n) (h6 : n ≤ 6) (a1 : 1 ≤ a) (a2 : a ≤ n) (b1 : 1 ≤ b) (b2 : b ≤ n) : lnAll n a b = true := by
  have h : ∀ m ∈ [1, 2, 3, 4, 5, 6], ∀ a ∈ [1, 2, 3, 4, 5, 6], ∀ b ∈ [1, 2, 3, 4, 5, 6], a ≤ m → b ≤ m → lnAll m a b = true := by decide +kernel
  exact h n (by simp; omega) a (by simp; omega) b (by simp; omega) a2 b2
end Go.Proofs.YtglnnoglbieaeaaGreatDoor
