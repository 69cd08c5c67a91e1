/- Contracts and facts on the way to WishTells, joined into one text: TopoMath2, NetMath, NetMath2, LineMath, NetMath3, WishMath, WishMath2, StWish, TopoCon, SpotKey, Err, StSpot, StLink, TopoLay, SlByte. -/
import Derived.Test.YtpmcjelihdlfeaaGreatDoorWishTellsP1
import Derived.Test.YtpmcjelihdlfeaaGreatDoorRows
import Derived.Lib.SmallJoins
import Derived.Laws.StructEq
import Derived.Maps.OwnOps
import Derived.WalkKit
import Derived.WalkSpells
import Derived.Below
import Derived.BigQuiet
import Derived.Deep.QuietTactic
import Derived.DeepKeys3
import Derived.BigRegion
import Derived.Deep.CutRange
import Derived.Deep.CutBlock
import Derived.Shelf.Abstract
/- Who is where, by the place in a list; who is at the other end, by a map; a line of switches: plain lists. No program in it. -/
namespace Go.Proofs.YtpmcjelihdlfeaaGreatDoor
open Go.RowKit
set_option linter.unusedVariables false

theorem at_ix (Hs : List (ByteArray × (Int × Int))) (s : Int × Int) : (ixG (fun h => sq h.2 s) Hs = -1 ∧ atO Hs s = none) ∨ ∃ (k : Nat) (hk : k < Hs.length), ixG (fun h => sq h.2 s) Hs = k ∧ atO Hs s = some Hs[k].1 := by
  induction Hs with
  | nil => exact .inl ⟨rfl, rfl⟩
  | cons h Hs ih =>
    rw [atO]
    by_cases e : sq h.2 s = true
    · refine .inr ⟨0, by simp, ?_, ?_⟩
      · exact ixG_hit (L := h :: Hs) (k := 0) (by simp) (by simp) e
      · have e2 := (sq_iff _ _).1 e
        rw [if_pos (by rw [e2]; exact beq_self_eq_true _)]
        rfl
    · have en : ¬ (h.2 == s) = true := fun h2 => e ((sq_iff _ _).2 (by simpa using h2))
      rw [if_neg en]
      have ef : sq h.2 s = false := by simpa using e
      rcases ih with ⟨h1, h2⟩ | ⟨k, hk, h1, h2⟩
      · refine .inl ⟨?_, h2⟩
        unfold ixG at h1 ⊢
        rw [List.any_cons, ef, Bool.false_or]
        cases ha : Hs.any fun h => sq h.2 s
        · rfl
        · rw [ha, if_pos rfl] at h1
          omega
      · refine .inr ⟨k + 1, by simp; omega, ?_, by simpa using h2⟩
        unfold ixG at h1 ⊢
        rw [List.any_cons, ef, Bool.false_or]
        cases ha : Hs.any fun h => sq h.2 s
        · rw [ha] at h1
          simp at h1
        · rw [ha, if_pos rfl] at h1
          rw [if_pos rfl, List.findIdx_cons, ef]
          simp
          omega
theorem where_ix (Hs : List (ByteArray × (Int × Int))) (n : ByteArray) : (ixG (fun h => h.1 == n) Hs = -1 ∧ whereO Hs n = none) ∨ ∃ (k : Nat) (hk : k < Hs.length), ixG (fun h => h.1 == n) Hs = k ∧ whereO Hs n = some Hs[k].2 := by
  induction Hs with
  | nil => exact .inl ⟨rfl, rfl⟩
  | cons h Hs ih =>
    rw [whereO]
    by_cases e : (h.1 == n) = true
    · refine .inr ⟨0, by simp, ?_, ?_⟩
      · exact ixG_hit (L := h :: Hs) (k := 0) (by simp) (by simp) e
      · rw [if_pos e]
        rfl
    · rw [if_neg e]
      have ef : (h.1 == n) = false := by
        cases hh : (h.1 == n)
        · rfl
        · exact absurd hh e
      rcases ih with ⟨h1, h2⟩ | ⟨k, hk, h1, h2⟩
      · refine .inl ⟨?_, h2⟩
        unfold ixG at h1 ⊢
        rw [List.any_cons, ef, Bool.false_or]
        cases ha : Hs.any fun h => h.1 == n
        · rfl
        · rw [ha, if_pos rfl] at h1
          omega
      · refine .inr ⟨k + 1, by simp; omega, ?_, by simpa using h2⟩
        unfold ixG at h1 ⊢
        rw [List.any_cons, ef, Bool.false_or]
        cases ha : Hs.any fun h => h.1 == n
        · rw [ha] at h1
          simp at h1
        · rw [ha, if_pos rfl] at h1
          rw [if_pos rfl, List.findIdx_cons, ef]
          simp
          omega
/-- The answers' numbers. -/
def atN (Hs : List (ByteArray × (Int × Int))) (s : Int × Int) : Int := ixG (fun h => sq h.2 s) Hs
def whN (Hs : List (ByteArray × (Int × Int))) (n : ByteArray) : Int := ixG (fun h => h.1 == n) Hs
theorem peer_app (l : (Int × Int) × (Int × Int)) (s : Int × Int) : ∀ Ls : List ((Int × Int) × (Int × Int)), peerO (Ls ++ [l]) s = match peerO Ls s with | some p => some p | none => if l.1 == s then some l.2 else if l.2 == s then some l.1 else none
  | [] => by simp [peerO]
  | x :: Ls => by
    rw [List.cons_append, peerO, peerO]
    by_cases h1 : (x.1 == s) = true
    · rw [if_pos h1, if_pos h1]
    · rw [if_neg h1, if_neg h1]
      by_cases h2 : (x.2 == s) = true
      · rw [if_pos h2, if_pos h2]
      · rw [if_neg h2, if_neg h2]
        exact peer_app l s Ls
/-- A map that has for each spot of these links the other end. -/
def PM (M : List ((Int × Int) × (Int × Int))) (Ls : List ((Int × Int) × (Int × Int))) : Prop := ∀ s, mget sq s M = peerO Ls s
theorem pm_nil : PM [] [] := fun s => rfl
theorem pm_put {M Ls : List ((Int × Int) × (Int × Int))} {x y : Int × Int} (h : PM M Ls) (hd : (spsL (Ls ++ [(x, y)])).Nodup) : PM (mput sq y x (mput sq x y M)) (Ls ++ [(x, y)]) := by
  have e : spsL (Ls ++ [(x, y)]) = spsL Ls ++ [x, y] := by simp [spsL]
  rw [e, List.nodup_append] at hd
  obtain ⟨_, h2, h3⟩ := hd
  have hxy : ¬ x = y := by simpa using h2
  have hno : ∀ z, z = x ∨ z = y → peerO Ls z = none := by
    intro z hz
    cases hp : peerO Ls z with
    | none => rfl
    | some p => exact absurd rfl (h3 z (peer_in hp).1 z (by rcases hz with rfl | rfl <;> simp))
  intro s
  rw [mget_put sq_iff, mget_put sq_iff, peer_app]
  by_cases e1 : s = y
  · subst e1
    rw [if_pos ((sq_iff _ _).2 rfl), hno s (.inr rfl)]
    simp [hxy]
  · rw [if_neg (fun e => e1 ((sq_iff _ _).1 e))]
    by_cases e2 : s = x
    · subst e2
      rw [if_pos ((sq_iff _ _).2 rfl), hno s (.inl rfl)]
      simp
    · rw [if_neg (fun e => e2 ((sq_iff _ _).1 e)), h s]
      cases hp : peerO Ls s with
      | some p => rfl
      | none =>
        have n1 : ¬ x = s := fun e => e2 e.symm
        have n2 : ¬ y = s := fun e => e1 e.symm
        simp [n1, n2]
theorem sps_app (Ls Ms : List ((Int × Int) × (Int × Int))) : spsL (Ls ++ Ms) = spsL Ls ++ spsL Ms := by simp [spsL]
theorem sps_nd {Ls : List ((Int × Int) × (Int × Int))} (h : (spsL Ls).Nodup) (k : Nat) : (spsL (Ls.take k)).Nodup := by
  have e : Ls = Ls.take k ++ Ls.drop k := (List.take_append_drop k Ls).symm
  rw [e, sps_app, List.nodup_append] at h
  exact h.1
/-- How far it is in a topology, from one switch to another one. -/
def faN (S : Int) (Ls : List ((Int × Int) × (Int × Int))) (a b : Int) : Int := farN S.toNat (fun x y => joinB Ls x y) a.toNat b.toNat
/-- Is there such a switch? -/
def swB (S a : Int) : Bool := decide (1 ≤ a) && decide (a ≤ S)
/-- The fault of a question at a spot. -/
def csN (S : Int) (Ls : List ((Int × Int) × (Int × Int))) (Hs : List (ByteArray × (Int × Int))) (s : Int × Int) : Int := if tpN S Ls Hs = 0 then (if spB S s then 0 else 1) else tpN S Ls Hs
def peN (S : Int) (Ls : List ((Int × Int) × (Int × Int))) (Hs : List (ByteArray × (Int × Int))) (s : Int × Int) : Int := if csN S Ls Hs s = 0 then (if (peerO Ls s).isSome then 0 else 5) else csN S Ls Hs s
def peV (S : Int) (Ls : List ((Int × Int) × (Int × Int))) (Hs : List (ByteArray × (Int × Int))) (s : Int × Int) : Int × Int := if peN S Ls Hs s = 0 then (peerO Ls s).getD (0, 0) else (0, 0)
def asN (S : Int) (Ls : List ((Int × Int) × (Int × Int))) (Hs : List (ByteArray × (Int × Int))) (s : Int × Int) : Int := if csN S Ls Hs s = 0 then (if (atO Hs s).isSome then 0 else 5) else csN S Ls Hs s
def asV (S : Int) (Ls : List ((Int × Int) × (Int × Int))) (Hs : List (ByteArray × (Int × Int))) (s : Int × Int) : ByteArray := if asN S Ls Hs s = 0 then (atO Hs s).getD ByteArray.empty else ByteArray.empty
def weN (S : Int) (Ls : List ((Int × Int) × (Int × Int))) (Hs : List (ByteArray × (Int × Int))) (n : ByteArray) : Int := if tpN S Ls Hs = 0 then (if (whereO Hs n).isSome then 0 else 5) else tpN S Ls Hs
def weV (S : Int) (Ls : List ((Int × Int) × (Int × Int))) (Hs : List (ByteArray × (Int × Int))) (n : ByteArray) : Int × Int := if weN S Ls Hs n = 0 then (whereO Hs n).getD (0, 0) else (0, 0)
/-- The fault of a question at switches. -/
def cwN (S : Int) (Ls : List ((Int × Int) × (Int × Int))) (Hs : List (ByteArray × (Int × Int))) (l : List Int) : Int := if tpN S Ls Hs = 0 then (if l.any fun a => !swB S a then 1 else 0) else tpN S Ls Hs
def neL (S : Int) (Ls : List ((Int × Int) × (Int × Int))) (Hs : List (ByteArray × (Int × Int))) (a : Int) : List Int := if cwN S Ls Hs [a] = 0 then nrL S Ls a else []
def fsN (S : Int) (Ls : List ((Int × Int) × (Int × Int))) (Hs : List (ByteArray × (Int × Int))) (a b : Int) : Int := if cwN S Ls Hs [a, b] = 0 then (if 0 ≤ faN S Ls a b then 0 else 5) else cwN S Ls Hs [a, b]
def fsV (S : Int) (Ls : List ((Int × Int) × (Int × Int))) (Hs : List (ByteArray × (Int × Int))) (a b : Int) : Int := if fsN S Ls Hs a b = 0 then faN S Ls a b else 0
theorem sw_of {S a : Int} : swB S a = true ↔ 1 ≤ a ∧ a ≤ S := by simp [swB]
theorem cw_0 {S : Int} {Ls : List ((Int × Int) × (Int × Int))} {Hs : List (ByteArray × (Int × Int))} {l : List Int} : cwN S Ls Hs l = 0 ↔ tpN S Ls Hs = 0 ∧ ∀ a ∈ l, 1 ≤ a ∧ a ≤ S := by
  unfold cwN
  by_cases h : tpN S Ls Hs = 0
  · rw [if_pos h]
    cases ha : l.any fun a => !swB S a
    · simp only [Bool.false_eq_true, if_false, true_iff]
      refine ⟨h, fun a hm => ?_⟩
      rw [List.any_eq_false] at ha
      have := ha a hm
      exact sw_of.1 (by simpa using this)
    · simp only [if_true]
      refine ⟨fun e => absurd e (by decide), fun ⟨_, e⟩ => ?_⟩
      rw [List.any_eq_true] at ha
      obtain ⟨a, hm, hn⟩ := ha
      have := sw_of.2 (e a hm)
      rw [this] at hn
      cases hn
  · rw [if_neg h]
    exact ⟨fun e => absurd e h, fun e => e.1⟩
theorem fs_0 {S : Int} {Ls : List ((Int × Int) × (Int × Int))} {Hs : List (ByteArray × (Int × Int))} {a b : Int} : fsN S Ls Hs a b = 0 ↔ (tpN S Ls Hs = 0 ∧ (1 ≤ a ∧ a ≤ S) ∧ (1 ≤ b ∧ b ≤ S)) ∧ 0 ≤ faN S Ls a b := by
  unfold fsN
  by_cases h : cwN S Ls Hs [a, b] = 0
  · rw [if_pos h]
    have h2 := cw_0.1 h
    have h3 : tpN S Ls Hs = 0 ∧ (1 ≤ a ∧ a ≤ S) ∧ (1 ≤ b ∧ b ≤ S) := ⟨h2.1, h2.2 a (by simp), h2.2 b (by simp)⟩
    by_cases hf : 0 ≤ faN S Ls a b
    · rw [if_pos hf]; exact ⟨fun _ => ⟨h3, hf⟩, fun _ => rfl⟩
    · rw [if_neg hf]; exact ⟨fun e => absurd e (by decide), fun e => absurd e.2 hf⟩
  · rw [if_neg h]
    refine ⟨fun e => absurd e h, fun e => absurd (cw_0.2 ⟨e.1.1, ?_⟩) h⟩
    intro x hx
    simp at hx
    rcases hx with rfl | rfl
    · exact e.1.2.1
    · exact e.1.2.2
/-- As far back. -/
theorem fs_sy (S : Int) (Ls : List ((Int × Int) × (Int × Int))) (Hs : List (ByteArray × (Int × Int))) (a b : Int) : (fsN S Ls Hs a b = 0 ↔ fsN S Ls Hs b a = 0) ∧ fsV S Ls Hs a b = fsV S Ls Hs b a := by
  have key : tpN S Ls Hs = 0 → (1 ≤ a ∧ a ≤ S) → (1 ≤ b ∧ b ≤ S) → faN S Ls a b = faN S Ls b a := fun h ha hb => by
    have := tp_0 h
    exact far_sy (fun x y => join_sy Ls x y) (by omega) (by omega) (by omega) (by omega) (by omega)
  have hi : fsN S Ls Hs a b = 0 ↔ fsN S Ls Hs b a = 0 := by
    rw [fs_0, fs_0]
    constructor
    · rintro ⟨⟨h, ha, hb⟩, hf⟩
      exact ⟨⟨h, hb, ha⟩, by rw [← key h ha hb]; exact hf⟩
    · rintro ⟨⟨h, hb, ha⟩, hf⟩
      exact ⟨⟨h, ha, hb⟩, by rw [key h ha hb]; exact hf⟩
  refine ⟨hi, ?_⟩
  unfold fsV
  by_cases h : fsN S Ls Hs a b = 0
  · rw [if_pos h, if_pos (hi.1 h)]
    have h2 := (fs_0.1 h).1
    exact key h2.1 h2.2.1 h2.2.2
  · rw [if_neg h, if_neg (fun e => h (hi.2 e))]
/-- By a third one no nearer. -/
theorem fs_tr {S : Int} {Ls : List ((Int × Int) × (Int × Int))} {Hs : List (ByteArray × (Int × Int))} {a b c : Int} (h1 : fsN S Ls Hs a c = 0) (h2 : fsN S Ls Hs c b = 0) : fsN S Ls Hs a b = 0 ∧ fsV S Ls Hs a b ≤ fsV S Ls Hs a c + fsV S Ls Hs c b := by
  have k1 := fs_0.1 h1
  have k2 := fs_0.1 h2
  have ht := tp_0 k1.1.1
  have h3 := far_tr (S := S.toNat) (J := fun x y => joinB Ls x y) (a := a.toNat) (b := b.toNat) (c := c.toNat) (by omega) (by omega) (by omega) (by omega) (by omega) k1.2 k2.2
  have h4 : fsN S Ls Hs a b = 0 := fs_0.2 ⟨⟨k1.1.1, k1.1.2.1, k2.1.2.2⟩, h3.1⟩
  refine ⟨h4, ?_⟩
  unfold fsV
  rw [if_pos h4, if_pos h1, if_pos h2]
  exact h3.2
/-- No way at all to itself alone. -/
theorem fs_same {S : Int} {Ls : List ((Int × Int) × (Int × Int))} {Hs : List (ByteArray × (Int × Int))} {a b : Int} (h : fsN S Ls Hs a b = 0) : 0 < fsV S Ls Hs a b ∨ a = b := by
  have k := fs_0.1 h
  have ht := tp_0 k.1.1
  unfold fsV
  rw [if_pos h]
  by_cases e : faN S Ls a b = 0
  · right
    have := (far_0 (S := S.toNat) (J := fun x y => joinB Ls x y) (a := a.toNat) (b := b.toNat) (by omega) (by omega) (by omega)).1 e
    omega
  · left
    have := k.2
    omega
theorem fa_lt (S : Int) (Ls : List ((Int × Int) × (Int × Int))) (a b : Int) : -1 ≤ faN S Ls a b ∧ faN S Ls a b ≤ 6 := by
  rcases fst_or (p := fun n => rcB S.toNat (fun x y => joinB Ls x y) a.toNat n b.toNat) (k := 7) (n := 0) with ⟨e, _⟩ | ⟨m, _, hm, e, _⟩
  · have : faN S Ls a b = -1 := e
    omega
  · have : faN S Ls a b = m := e
    omega
theorem fv_lt (S : Int) (Ls : List ((Int × Int) × (Int × Int))) (Hs : List (ByteArray × (Int × Int))) (a b : Int) : 0 ≤ fsV S Ls Hs a b ∧ fsV S Ls Hs a b ≤ 6 := by
  unfold fsV
  by_cases h : fsN S Ls Hs a b = 0
  · rw [if_pos h]
    have := (fs_0.1 h).2
    have := fa_lt S Ls a b
    omega
  · rw [if_neg h]; omega
end Go.Proofs.YtpmcjelihdlfeaaGreatDoor
/- Nets in plain lists: what is wrong with one, where a packet goes out, what becomes of it. No program in it. -/
namespace Go.Proofs.YtpmcjelihdlfeaaGreatDoor
open Go.RowKit
set_option linter.unusedVariables false

/-- The fault of the first k tables. -/
def tsTo (Ts : List (List Ru)) : Nat → Int
  | 0 => 0
  | k + 1 => if tsTo Ts k = 0 then tbN (Ts.getD k []) else tsTo Ts k
theorem ts_le {Ts : List (List Ru)} {k : Nat} (h : tsTo Ts k ≠ 0) : ∀ {n : Nat}, k ≤ n → tsTo Ts n = tsTo Ts k
  | 0, hn => by
    obtain rfl : k = 0 := by omega
    rfl
  | n + 1, hn => by
    by_cases e : k = n + 1
    · subst e; rfl
    · have := ts_le h (show k ≤ n by omega)
      rw [tsTo, if_neg (by rw [this]; exact h), this]
/-- The fault of a net. -/
def ntN (S : Int) (Ls : List ((Int × Int) × (Int × Int))) (Hs : List (ByteArray × (Int × Int))) (Ts : List (List Ru)) : Int :=
  if tpN S Ls Hs = 0 then (if (Ts.length : Int) = S then tsTo Ts Ts.length else 3) else tpN S Ls Hs
theorem ts_0 {Ts : List (List Ru)} : ∀ {n : Nat}, tsTo Ts n = 0 → ∀ k, k < n → tbN (Ts.getD k []) = 0
  | 0, _, k, hk => by omega
  | n + 1, h, k, hk => by
    unfold tsTo at h
    by_cases e : tsTo Ts n = 0
    · rw [if_pos e] at h
      by_cases ek : k = n
      · subst ek; exact h
      · exact ts_0 e k (by omega)
    · rw [if_neg e] at h
      exact absurd h e
theorem nt_0 {S : Int} {Ls : List ((Int × Int) × (Int × Int))} {Hs : List (ByteArray × (Int × Int))} {Ts : List (List Ru)} (h : ntN S Ls Hs Ts = 0) : tpN S Ls Hs = 0 ∧ (Ts.length : Int) = S ∧ ∀ k, k < Ts.length → tbN (Ts.getD k []) = 0 := by
  unfold ntN at h
  by_cases e : tpN S Ls Hs = 0
  · rw [if_pos e] at h
    by_cases e2 : (Ts.length : Int) = S
    · rw [if_pos e2] at h
      exact ⟨e, e2, ts_0 h⟩
    · rw [if_neg e2] at h
      omega
  · rw [if_neg e] at h
    exact absurd h e
/-- The fault of a packet: of the net, else of the spot or the header. -/
def cpN (S : Int) (Ls : List ((Int × Int) × (Int × Int))) (Hs : List (ByteArray × (Int × Int))) (Ts : List (List Ru)) (s : Int × Int) (h : Int) : Int :=
  if ntN S Ls Hs Ts = 0 then (if spB S s && hdrB h then 0 else 1) else ntN S Ls Hs Ts
theorem cp_0 {S : Int} {Ls : List ((Int × Int) × (Int × Int))} {Hs : List (ByteArray × (Int × Int))} {Ts : List (List Ru)} {s : Int × Int} {h : Int} (e : cpN S Ls Hs Ts s h = 0) : ntN S Ls Hs Ts = 0 ∧ spB S s = true ∧ hdrB h = true := by
  unfold cpN at e
  by_cases e1 : ntN S Ls Hs Ts = 0
  · rw [if_pos e1] at e
    cases e2 : spB S s && hdrB h
    · rw [e2] at e
      simp at e
    · rw [Bool.and_eq_true] at e2
      exact ⟨e1, e2.1, e2.2⟩
  · rw [if_neg e1] at e
    exact absurd e e1

/-- The rule that counts, if one does, in a table. -/
def roR (t : List Ru) (h : Int) : Ru := t.getD (luI t h).toNat zeR
def Ru.apN (r : Ru) (h : Int) : Int := Proofs.YtpmcjelihdlfeaaGreatDoor.apN r.p r.m r.b r.o r.s r.v h
def Ru.apR (r : Ru) (h : Int) : Int := Proofs.YtpmcjelihdlfeaaGreatDoor.apR r.p r.m r.b r.o r.s r.v h
/-- Where, and with which header, a packet goes out that a table meets. -/
def stT (t : List Ru) (p : (Int × Int) × Int) : Option ((Int × Int) × Int) :=
  if luN t p.2 = 0 then (if (roR t p.2).apN p.2 = 0 then some ((p.1.1, (roR t p.2).o), (roR t p.2).apR p.2) else none) else none
def taT (Ts : List (List Ru)) (s : Int) : List Ru := Ts.getD (s - 1).toNat []
def stO (Ts : List (List Ru)) (p : (Int × Int) × Int) : Option ((Int × Int) × Int) := stT (taT Ts p.1.1) p
/-- Are two hops the same? -/
def heB (a b : (Int × Int) × Int) : Bool := (a.1.1 == b.1.1) && ((a.1.2 == b.1.2) && ((a.2 == b.2)))
theorem heB_iff (a b : (Int × Int) × Int) : heB a b = true ↔ a = b := by
  obtain ⟨⟨a1, a2⟩, a3⟩ := a
  obtain ⟨⟨b1, b2⟩, b3⟩ := b
  simp [heB, and_assoc]
/-- What becomes of a packet at its last hop: it ends so, or there is a next hop. -/
def goE (Ls : List ((Int × Int) × (Int × Int))) (Hs : List (ByteArray × (Int × Int))) (t : List Ru) (l : List ((Int × Int) × Int)) (p : (Int × Int) × Int) : (Int × ByteArray) ⊕ ((Int × Int) × Int) :=
  match stT t p with
  | none => .inl (2, ByteArray.empty)
  | some q => match atO Hs q.1 with
    | some m => .inl (1, m)
    | none => match peerO Ls q.1 with
      | none => .inl (3, ByteArray.empty)
      | some s => if l.length = 24 ∨ l.any (fun x => heB (s, q.2) x) = true then .inl (4, ByteArray.empty) else .inr (s, q.2)
def zeH : (Int × Int) × Int := ((0, 0), 0)
def laH (l : List ((Int × Int) × Int)) : (Int × Int) × Int := l.getD (l.length - 1) zeH
/-- What becomes of a packet that has had these hops. -/
def foF (Ls : List ((Int × Int) × (Int × Int))) (Hs : List (ByteArray × (Int × Int))) (Ts : List (List Ru)) : Nat → List ((Int × Int) × Int) → Int × ByteArray × List ((Int × Int) × Int)
  | 0, l => (4, ByteArray.empty, l)
  | n + 1, l => match goE Ls Hs (taT Ts (laH l).1.1) l (laH l) with
    | .inl e => (e.1, e.2, l)
    | .inr p => foF Ls Hs Ts n (l ++ [p])
/-- What becomes of a packet that comes in. -/
def frF (Ls : List ((Int × Int) × (Int × Int))) (Hs : List (ByteArray × (Int × Int))) (Ts : List (List Ru)) (s : Int × Int) (h : Int) : Int × ByteArray × List ((Int × Int) × Int) := foF Ls Hs Ts 24 [(s, h)]
/-- No fate at all. -/
def zeF : Int × ByteArray × List ((Int × Int) × Int) := (0, ByteArray.empty, [])
/-- The answers. -/
def spN (S : Int) (Ls : List ((Int × Int) × (Int × Int))) (Hs : List (ByteArray × (Int × Int))) (Ts : List (List Ru)) (s : Int × Int) (h : Int) : Int :=
  if cpN S Ls Hs Ts s h = 0 then (if (stO Ts (s, h)).isSome then 0 else 5) else cpN S Ls Hs Ts s h
def spV (S : Int) (Ls : List ((Int × Int) × (Int × Int))) (Hs : List (ByteArray × (Int × Int))) (Ts : List (List Ru)) (s : Int × Int) (h : Int) : (Int × Int) × Int :=
  if cpN S Ls Hs Ts s h = 0 then (stO Ts (s, h)).getD zeH else zeH
def frV (S : Int) (Ls : List ((Int × Int) × (Int × Int))) (Hs : List (ByteArray × (Int × Int))) (Ts : List (List Ru)) (s : Int × Int) (h : Int) : Int × ByteArray × List ((Int × Int) × Int) :=
  if cpN S Ls Hs Ts s h = 0 then frF Ls Hs Ts s h else zeF
def seN (S : Int) (Ls : List ((Int × Int) × (Int × Int))) (Hs : List (ByteArray × (Int × Int))) (Ts : List (List Ru)) (m : ByteArray) (h : Int) : Int :=
  if ntN S Ls Hs Ts = 0 then (if weN S Ls Hs m = 0 then (if hdrB h then 0 else 1) else weN S Ls Hs m) else ntN S Ls Hs Ts
def seV (S : Int) (Ls : List ((Int × Int) × (Int × Int))) (Hs : List (ByteArray × (Int × Int))) (Ts : List (List Ru)) (m : ByteArray) (h : Int) : Int × ByteArray × List ((Int × Int) × Int) :=
  if seN S Ls Hs Ts m h = 0 then frF Ls Hs Ts (weV S Ls Hs m) h else zeF
end Go.Proofs.YtpmcjelihdlfeaaGreatDoor
/- What becomes of a packet, hop by hop: plain lists. No program in it. -/
namespace Go.Proofs.YtpmcjelihdlfeaaGreatDoor
open Go.RowKit
set_option linter.unusedVariables false

section
variable {Ls : List ((Int × Int) × (Int × Int))} {Hs : List (ByteArray × (Int × Int))} {Ts : List (List Ru)}
/-- One hop is behind the other. -/
def NxH (Ls : List ((Int × Int) × (Int × Int))) (Hs : List (ByteArray × (Int × Int))) (Ts : List (List Ru)) (p q : (Int × Int) × Int) : Prop := ∃ o, stO Ts p = some o ∧ atO Hs o.1 = none ∧ peerO Ls o.1 = some q.1 ∧ q.2 = o.2
def atH (l : List ((Int × Int) × Int)) (i : Nat) : (Int × Int) × Int := l.getD i zeH
def ChH (Ls : List ((Int × Int) × (Int × Int))) (Hs : List (ByteArray × (Int × Int))) (Ts : List (List Ru)) (l : List ((Int × Int) × Int)) : Prop := ∀ i, i + 1 < l.length → NxH Ls Hs Ts (atH l i) (atH l (i + 1))
/-- What it comes to at the last of these hops. -/
def enE (Ls : List ((Int × Int) × (Int × Int))) (Hs : List (ByteArray × (Int × Int))) (Ts : List (List Ru)) (l : List ((Int × Int) × Int)) (p : (Int × Int) × Int) : (Int × ByteArray) ⊕ ((Int × Int) × Int) := goE Ls Hs (taT Ts p.1.1) l p
theorem la_at (l : List ((Int × Int) × Int)) : laH l = atH l (l.length - 1) := rfl
theorem at_app (l : List ((Int × Int) × Int)) (p : (Int × Int) × Int) : atH (l ++ [p]) l.length = p := by simp [atH, List.getD]
theorem at_lt {l : List ((Int × Int) × Int)} (m : List ((Int × Int) × Int)) {i : Nat} (h : i < l.length) : atH (l ++ m) i = atH l i := by simp [atH, List.getD, List.getElem?_append_left h]
theorem at_in {l : List ((Int × Int) × Int)} {i : Nat} (h : i < l.length) : atH l i ∈ l := by
  have e : atH l i = l[i] := by simp [atH, List.getD, h]
  rw [e]
  exact List.getElem_mem h
theorem en_r {l : List ((Int × Int) × Int)} {p q : (Int × Int) × Int} (h : enE Ls Hs Ts l p = .inr q) : NxH Ls Hs Ts p q ∧ l.length ≠ 24 ∧ q ∉ l := by
  unfold enE goE at h
  cases hs : stT (taT Ts p.1.1) p with
  | none => rw [hs] at h; cases h
  | some o =>
    rw [hs] at h
    simp only at h
    cases ha : atO Hs o.1 with
    | some m => rw [ha] at h; cases h
    | none =>
      rw [ha] at h
      simp only at h
      cases hp : peerO Ls o.1 with
      | none => rw [hp] at h; cases h
      | some s =>
        rw [hp] at h
        simp only at h
        split at h
        · cases h
        · next hn =>
          cases h
          rw [not_or] at hn
          refine ⟨⟨o, hs, ha, hp, rfl⟩, hn.1, fun hm => hn.2 ?_⟩
          exact List.any_eq_true.2 ⟨_, hm, (heB_iff _ _).2 rfl⟩
/-- A next hop that is not there yet is one. -/
theorem en_go {l : List ((Int × Int) × Int)} {p q : (Int × Int) × Int} (h : NxH Ls Hs Ts p q) (h24 : l.length ≠ 24) (hq : q ∉ l) : enE Ls Hs Ts l p = .inr q := by
  obtain ⟨o, h1, h2, h3, h4⟩ := h
  unfold enE goE
  rw [show stT (taT Ts p.1.1) p = some o from h1]
  simp only [h2, h3]
  rw [if_neg]
  · obtain ⟨q1, q2⟩ := q
    simp only at h4
    rw [h4]
  · rw [not_or]
    refine ⟨h24, fun hm => hq ?_⟩
    obtain ⟨x, hx, e⟩ := List.any_eq_true.1 hm
    have e2 := (heB_iff _ _).1 e
    obtain ⟨q1, q2⟩ := q
    simp only at h4
    rw [h4, e2]
    exact hx
/-- An end that is no loop is one whatever was there. -/
theorem en_l {l : List ((Int × Int) × Int)} {p : (Int × Int) × Int} {e : Int × ByteArray} (h : enE Ls Hs Ts l p = .inl e) (h4 : e.1 ≠ 4) (m : List ((Int × Int) × Int)) : enE Ls Hs Ts m p = .inl e := by
  unfold enE goE at h ⊢
  cases hs : stT (taT Ts p.1.1) p with
  | none => rw [hs] at h; exact h
  | some o =>
    rw [hs] at h
    simp only at h ⊢
    cases ha : atO Hs o.1 with
    | some m => rw [ha] at h; exact h
    | none =>
      rw [ha] at h
      simp only at h ⊢
      cases hp : peerO Ls o.1 with
      | none => rw [hp] at h; exact h
      | some s =>
        rw [hp] at h
        simp only at h
        split at h
        · cases h
          exact absurd rfl h4
        · cases h
/-- An end, in words. -/
theorem en_end {l : List ((Int × Int) × Int)} {p : (Int × Int) × Int} {e : Int × ByteArray} (h : enE Ls Hs Ts l p = .inl e) (hn : ∀ x ∈ Hs, x.1 ≠ ByteArray.empty) : (stO Ts p = none ↔ e.1 = 2) ∧ (e.1 = 1 ↔ e.2 ≠ ByteArray.empty) := by
  unfold enE goE at h
  unfold stO
  cases hs : stT (taT Ts p.1.1) p with
  | none => rw [hs] at h; cases h; simp
  | some o =>
    rw [hs] at h
    simp only at h
    cases ha : atO Hs o.1 with
    | some m =>
      rw [ha] at h
      cases h
      refine ⟨by simp, fun _ => ?_, fun _ => rfl⟩
      rcases at_ix Hs o.1 with ⟨_, h0⟩ | ⟨k, hk, _, h1⟩
      · rw [ha] at h0; cases h0
      · rw [ha] at h1
        cases h1
        exact hn _ (List.getElem_mem hk)
    | none =>
      rw [ha] at h
      simp only at h
      cases hp : peerO Ls o.1 with
      | none => rw [hp] at h; cases h; simp
      | some s =>
        rw [hp] at h
        simp only at h
        split at h
        · cases h; simp
        · cases h
theorem fo_s (n : Nat) (l : List ((Int × Int) × Int)) : foF Ls Hs Ts (n + 1) l = match enE Ls Hs Ts l (laH l) with | .inl e => (e.1, e.2, l) | .inr p => foF Ls Hs Ts n (l ++ [p]) := rfl
/-- What is so of the hops that are told. -/
theorem fo_spec : ∀ (n : Nat) (l : List ((Int × Int) × Int)), 0 < l.length → l.length + n = 25 → 1 ≤ n → l.Nodup → ChH Ls Hs Ts l →
    ∃ rest, (foF Ls Hs Ts n l).2.2 = l ++ rest ∧ (foF Ls Hs Ts n l).2.2.length ≤ 24 ∧ (foF Ls Hs Ts n l).2.2.Nodup ∧ ChH Ls Hs Ts (foF Ls Hs Ts n l).2.2 ∧
      enE Ls Hs Ts (foF Ls Hs Ts n l).2.2 (laH (foF Ls Hs Ts n l).2.2) = .inl ((foF Ls Hs Ts n l).1, (foF Ls Hs Ts n l).2.1)
  | 0, l, _, _, h, _, _ => by omega
  | n + 1, l, h0, hl, _, hd, hc => by
    rw [fo_s]
    cases he : enE Ls Hs Ts l (laH l) with
    | inl e => exact ⟨[], by simp, by simp only; omega, hd, hc, he⟩
    | inr p =>
      obtain ⟨h1, h2, h3⟩ := en_r he
      simp only
      have hl2 : l.length < 24 := by omega
      have hd2 : (l ++ [p]).Nodup := by
        rw [List.nodup_append]
        refine ⟨hd, by simp, fun a ha b hb e => ?_⟩
        simp only [List.mem_singleton] at hb
        subst hb
        subst e
        exact h3 ha
      have hc2 : ChH Ls Hs Ts (l ++ [p]) := by
        intro i hi
        simp only [List.length_append, List.length_cons, List.length_nil] at hi
        by_cases e : i + 1 = l.length
        · rw [at_lt _ (show i < l.length by omega), e, at_app]
          rw [la_at] at h1
          have : i = l.length - 1 := by omega
          rw [this]
          exact h1
        · rw [at_lt _ (show i < l.length by omega), at_lt _ (show i + 1 < l.length by omega)]
          exact hc i (by omega)
      obtain ⟨rest, e1, e2⟩ := fo_spec n (l ++ [p]) (by simp) (by simp; omega) (by omega) hd2 hc2
      exact ⟨p :: rest, by rw [e1]; simp, e2⟩
/-- From any of the hops on it ends likewise. -/
theorem fo_tail {L : List ((Int × Int) × Int)} {e : Int × ByteArray} (hd : L.Nodup) (hc : ChH Ls Hs Ts L) (h24 : L.length ≤ 24) (he : enE Ls Hs Ts L (laH L) = .inl e) (h4 : e.1 ≠ 4) :
    ∀ (r k : Nat) (m : List ((Int × Int) × Int)) (n : Nat), k + 1 + r = L.length → 0 < m.length → m.length ≤ k + 1 → laH m = atH L k → (∀ x ∈ m, ∃ j, j ≤ k ∧ x = atH L j) → r < n →
      (foF Ls Hs Ts n m).1 = e.1 ∧ (foF Ls Hs Ts n m).2.1 = e.2 ∧ (foF Ls Hs Ts n m).2.2.length = m.length + r
  | r, k, m, 0, _, _, _, _, _, hn => by omega
  | 0, k, m, n + 1, hk, hm, hmk, hla, hin, hn => by
    rw [fo_s]
    have : laH m = laH L := by
      rw [hla, la_at]
      congr 1
      omega
    rw [this, en_l he h4 m]
    exact ⟨rfl, rfl, by simp⟩
  | r + 1, k, m, n + 1, hk, hm, hmk, hla, hin, hn => by
    rw [fo_s]
    have hnx := hc k (by omega)
    have hq : atH L (k + 1) ∉ m := by
      intro hx
      obtain ⟨j, hj, e2⟩ := hin _ hx
      have e3 : L[k + 1]'(by omega) = L[j]'(by omega) := by
        have a1 : atH L (k + 1) = L[k + 1]'(by omega) := by
          have : k + 1 < L.length := by omega
          simp [atH, List.getD, this]
        have a2 : atH L j = L[j]'(by omega) := by
          have : j < L.length := by omega
          simp [atH, List.getD, this]
        rw [← a1, ← a2]
        exact e2
      have := (List.getElem_inj hd).1 e3
      omega
    rw [hla, en_go hnx (by omega) hq]
    simp only
    have h := fo_tail hd hc h24 he h4 r (k + 1) (m ++ [atH L (k + 1)]) n (by omega) (by simp) (by simp; omega) (by
      rw [la_at]
      simp only [List.length_append, List.length_cons, List.length_nil, Nat.add_sub_cancel]
      exact at_app _ _) (by
      intro x hx
      rw [List.mem_append] at hx
      rcases hx with hx | hx
      · obtain ⟨j, hj, e2⟩ := hin x hx
        exact ⟨j, by omega, e2⟩
      · simp only [List.mem_singleton] at hx
        exact ⟨k + 1, Nat.le_refl _, hx⟩) (by omega)
    refine ⟨h.1, h.2.1, ?_⟩
    rw [h.2.2]
    simp
    omega
end
end Go.Proofs.YtpmcjelihdlfeaaGreatDoor
/- A line of switches: plain lists. No program in it. -/
namespace Go.Proofs.YtpmcjelihdlfeaaGreatDoor
open Go.RowKit
set_option linter.unusedVariables false

/-- The links of a line. -/
def lnTo : Nat → List ((Int × Int) × (Int × Int))
  | 0 => []
  | k + 1 => lnTo k ++ [(((k : Int) + 1, 2), ((k : Int) + 1 + 1, 1))]
theorem ln_len (k : Nat) : (lnTo k).length = k := by
  induction k with
  | zero => rfl
  | succ k ih => simp [lnTo, ih]
/-- Its hosts. -/
def lnH (n : Int) : List (ByteArray × (Int × Int)) := [(⟨#[97]⟩, (1, 3)), (⟨#[98]⟩, (n, 4))]
def lnOk (n : Nat) : Bool := decide (tpN n (lnTo (n - 1)) (lnH n) = 0)
theorem ln_ok (n : Nat) (h1 : 1 ≤ n) (h6 : n ≤ 6) : tpN n (lnTo (n - 1)) (lnH n) = 0 := by
  have h : ∀ m ∈ [1, 2, 3, 4, 5, 6], lnOk m = true := by decide +kernel
  have h2 := h n (by simp; omega)
  simpa [lnOk] using h2
theorem ln_7 : tpN 7 (lnTo 6) (lnH 7) ≠ 0 := by decide +kernel
/-- How far, and how many are near, for all lines and switches. -/
def lnAll (n a b : Nat) : Bool := decide (faN n (lnTo (n - 1)) a b = if a < b then (b : Int) - a else (a : Int) - b) && decide (((nrL n (lnTo (n - 1)) a).length : Int) = 2 - (if a = 1 then 1 else 0) - (if a = n then 1 else 0))
theorem ln_all (n a b : Nat) (h1 : 1 ≤ n) (h6 : n ≤ 6) (a1 : 1 ≤ a) (a2 : a ≤ n) (b1 : 1 ≤ b) (b2 : b ≤ n) : lnAll n a b = true := by
  have h : ∀ m ∈ [1, 2, 3, 4, 5, 6], ∀ a ∈ [1, 2, 3, 4, 5, 6], ∀ b ∈ [1, 2, 3, 4, 5, 6], a ≤ m → b ≤ m → lnAll m a b = true := by decide +kernel
  exact h n (by simp; omega) a (by simp; omega) b (by simp; omega) a2 b2
end Go.Proofs.YtpmcjelihdlfeaaGreatDoor
/- Hops of a right net are right; two switches that send each other all: plain lists. No program in it. -/
namespace Go.Proofs.YtpmcjelihdlfeaaGreatDoor
open Go.RowKit
set_option linter.unusedVariables false

theorem aph_fin : ∀ s v h : Fin 16, (bits .andNot .i64 ((v : Nat) : Int) ((s : Nat) : Int) == 0) = true → hdrB (apV ((s : Nat) : Int) ((v : Nat) : Int) ((h : Nat) : Int)) = true := by decide +kernel
theorem ap_hdr {p m b o s v h : Int} (hr : apN p m b o s v h = 0) : hdrB (apR p m b o s v h) = true := by
  obtain ⟨h1, h2, _, _⟩ := ap_yes hr
  obtain ⟨g1, _, g3⟩ := ru_ok h1
  obtain ⟨_, hs, hv⟩ := ru_in g1
  obtain ⟨s', rfl⟩ := small hs
  obtain ⟨v', rfl⟩ := small hv
  obtain ⟨h', rfl⟩ := small (hdr_of h2)
  simp only [ruSet, Bool.and_eq_true] at g3
  rw [apR, if_pos hr]
  exact aph_fin s' v' h' g3.1
section
variable {S : Int} {Ls : List ((Int × Int) × (Int × Int))} {Hs : List (ByteArray × (Int × Int))} {Ts : List (List Ru)}
theorem st_hdr {p o : (Int × Int) × Int} (h : stO Ts p = some o) : hdrB o.2 = true ∧ o.1.1 = p.1.1 := by
  unfold stO stT at h
  split at h
  · split at h
    · next hr =>
      cases h
      exact ⟨ap_hdr hr, rfl⟩
    · cases h
  · cases h
theorem peer_sp (ht : tpN S Ls Hs = 0) {s p : Int × Int} (h : peerO Ls s = some p) : spB S p = true := (tp_0 ht).2.2.1 p (peer_in h).2
theorem where_sp (ht : tpN S Ls Hs = 0) {n : ByteArray} {p : Int × Int} (h : whereO Hs n = some p) : spB S p = true := by
  rcases where_ix Hs n with ⟨_, h0⟩ | ⟨k, hk, _, h1⟩
  · rw [h] at h0; cases h0
  · rw [h] at h1
    cases h1
    exact ((tp_0 ht).2.2.2.2.1 _ (List.getElem_mem hk)).2
theorem name_ne (ht : tpN S Ls Hs = 0) : ∀ x ∈ Hs, x.1 ≠ ByteArray.empty := by
  intro x hx e
  have h := ((tp_0 ht).2.2.2.2.1 x hx).1
  rw [e] at h
  revert h
  decide
theorem nx_good (ht : tpN S Ls Hs = 0) {p q : (Int × Int) × Int} (h : NxH Ls Hs Ts p q) : spB S q.1 = true ∧ hdrB q.2 = true := by
  obtain ⟨o, h1, _, h3, h4⟩ := h
  exact ⟨peer_sp ht h3, by rw [h4]; exact (st_hdr h1).1⟩
end
/-- Two switches that send each other all. -/
def ruG : Ru := ⟨1, 0, 0, 2, 0, 0⟩
def ruK : Ru := ⟨1, 0, 0, 1, 0, 0⟩
def ruD (h : Int) : Ru := ⟨5, 15, h, 0, 0, 0⟩
def naA : ByteArray := ⟨#[97]⟩
theorem turn1_fin : ∀ h : Fin 16, (decide (seN 2 (lnTo 1) (lnH 2) [[ruG], [ruK]] naA ((h : Nat) : Int) = 0) && (decide ((seV 2 (lnTo 1) (lnH 2) [[ruG], [ruK]] naA ((h : Nat) : Int)).1 = 4) && decide ((seV 2 (lnTo 1) (lnH 2) [[ruG], [ruK]] naA ((h : Nat) : Int)).2.2.length = 3))) = true := by decide +kernel
theorem turn2_fin : ∀ h : Fin 16, (decide (seN 2 (lnTo 1) (lnH 2) [[ruG], [ruD ((h : Nat) : Int), ruK]] naA ((h : Nat) : Int) = 0) && (decide ((seV 2 (lnTo 1) (lnH 2) [[ruG], [ruD ((h : Nat) : Int), ruK]] naA ((h : Nat) : Int)).1 = 2) && decide ((seV 2 (lnTo 1) (lnH 2) [[ruG], [ruD ((h : Nat) : Int), ruK]] naA ((h : Nat) : Int)).2.2.length = 2))) = true := by decide +kernel
theorem turn1 {h : Int} (hh : hdrB h = true) : seN 2 (lnTo 1) (lnH 2) [[ruG], [ruK]] naA h = 0 ∧ (seV 2 (lnTo 1) (lnH 2) [[ruG], [ruK]] naA h).1 = 4 ∧ (seV 2 (lnTo 1) (lnH 2) [[ruG], [ruK]] naA h).2.2.length = 3 := by
  obtain ⟨h', rfl⟩ := small (hdr_of hh)
  simpa using turn1_fin h'
theorem turn2 {h : Int} (hh : hdrB h = true) : seN 2 (lnTo 1) (lnH 2) [[ruG], [ruD h, ruK]] naA h = 0 ∧ (seV 2 (lnTo 1) (lnH 2) [[ruG], [ruD h, ruK]] naA h).1 = 2 ∧ (seV 2 (lnTo 1) (lnH 2) [[ruG], [ruD h, ruK]] naA h).2.2.length = 2 := by
  obtain ⟨h', rfl⟩ := small (hdr_of hh)
  simpa using turn2_fin h'
theorem turn3_nt : ntN 2 (lnTo 1) (lnH 2) [[], []] = 0 ∧ weN 2 (lnTo 1) (lnH 2) naA = 0 := by decide +kernel
theorem turn3 {h : Int} (hh : hdrB h = false) : seN 2 (lnTo 1) (lnH 2) [[], []] naA h = 1 := by
  unfold seN
  rw [if_pos turn3_nt.1, if_pos turn3_nt.2, hh]
  rfl
end Go.Proofs.YtpmcjelihdlfeaaGreatDoor
/- Wishes in plain lists: what is wrong with some, which fates fit, whether all hold in a net, or what shows that not. No program in it. -/
namespace Go.Proofs.YtpmcjelihdlfeaaGreatDoor
open Go.RowKit
set_option linter.unusedVariables false

structure Wi where
  k : Int
  f : ByteArray
  t : ByteArray
  v : Int
def zeW : Wi := ⟨0, ByteArray.empty, ByteArray.empty, 0⟩
/-- Does a wish ask anything of what that host sends? -/
def abW (w : Wi) (n : ByteArray) : Bool := (w.k == 4) || (w.f == n)
/-- Did it arrive there? -/
def thW (w : Wi) (F : Int × ByteArray × List ((Int × Int) × Int)) : Bool := (F.1 == 1) && (F.2.1 == w.t)
/-- Had it a hop at that switch? -/
def haW (v : Int) (l : List ((Int × Int) × Int)) : Bool := l.any fun h => h.1.1 == v
/-- Does a fate break a wish not? -/
def fiB (w : Wi) (n : ByteArray) (F : Int × ByteArray × List ((Int × Int) × Int)) : Bool :=
  if abW w n then (if w.k = 1 then thW w F else if w.k = 2 then !thW w F else if w.k = 3 then (!thW w F || haW w.v F.2.2) else if w.k = 4 then !(F.1 == 4) else true) else true
def wkB (k : Int) : Bool := decide (1 ≤ k) && decide (k ≤ 4)
def viB (w : Wi) (S : Int) : Bool := (w.k != 3) || swB S w.v
def nlB (w : Wi) : Bool := (w.f == ByteArray.empty) && (w.t == ByteArray.empty)
def hoB (Hs : List (ByteArray × (Int × Int))) (n : ByteArray) : Bool := Hs.any fun h => h.1 == n
/-- Via of others than a way. -/
def veB (w : Wi) : Bool := (w.k != 3) && (w.v != 0)
/-- The fault of a wish. -/
def woN (S : Int) (Hs : List (ByteArray × (Int × Int))) (w : Wi) : Int :=
  if !wkB w.k || (!viB w S || veB w) then 1 else if w.k = 4 then (if nlB w then 0 else 3) else if hoB Hs w.f && hoB Hs w.t then 0 else 5
/-- The fault of the first k wishes. -/
def wsTo (S : Int) (Hs : List (ByteArray × (Int × Int))) (l : List Wi) : Nat → Int
  | 0 => 0
  | k + 1 => if wsTo S Hs l k = 0 then woN S Hs (l.getD k zeW) else wsTo S Hs l k
def wsN (S : Int) (Ls : List ((Int × Int) × (Int × Int))) (Hs : List (ByteArray × (Int × Int))) (l : List Wi) : Int :=
  if tpN S Ls Hs = 0 then (if 8 < l.length then 4 else wsTo S Hs l l.length) else tpN S Ls Hs
theorem ws_le {S : Int} {Hs : List (ByteArray × (Int × Int))} {l : List Wi} {k : Nat} (h : wsTo S Hs l k ≠ 0) : ∀ {n : Nat}, k ≤ n → wsTo S Hs l n = wsTo S Hs l k
  | 0, hn => by
    obtain rfl : k = 0 := by omega
    rfl
  | n + 1, hn => by
    by_cases e : k = n + 1
    · subst e; rfl
    · have := ws_le h (show k ≤ n by omega)
      rw [wsTo, if_neg (by rw [this]; exact h), this]
theorem ws_0 {S : Int} {Hs : List (ByteArray × (Int × Int))} {l : List Wi} : ∀ {n : Nat}, wsTo S Hs l n = 0 → ∀ k, k < n → woN S Hs (l.getD k zeW) = 0
  | 0, _, k, hk => by omega
  | n + 1, h, k, hk => by
    unfold wsTo at h
    by_cases e : wsTo S Hs l n = 0
    · rw [if_pos e] at h
      by_cases ek : k = n
      · subst ek; exact h
      · exact ws_0 e k (by omega)
    · rw [if_neg e] at h
      exact absurd h e
theorem getW {l : List Wi} {k : Nat} (hk : k < l.length) : l.getD k zeW = l[k] := by simp [List.getD, hk]

section
variable (Ls : List ((Int × Int) × (Int × Int))) (Hs : List (ByteArray × (Int × Int))) (Ts : List (List Ru))
/-- Does what that host sends break a wish? -/
def brB (w : Wi) (x : ByteArray × (Int × Int)) (h : Int) : Bool := !fiB w x.1 (frF Ls Hs Ts x.2 h)
/-- The least of the first k headers that does, or -1. -/
def brH (w : Wi) (x : ByteArray × (Int × Int)) : Nat → Int
  | 0 => -1
  | k + 1 => if brH w x k < 0 then (if brB Ls Hs Ts w x (k : Int) then (k : Int) else -1) else brH w x k
def zeO : ByteArray × (Int × Int) := (ByteArray.empty, (0, 0))
/-- The first of k hosts that does, and its header. -/
def brX (w : Wi) (Xs : List (ByteArray × (Int × Int))) : Nat → Option (Nat × Int)
  | 0 => none
  | k + 1 => match brX w Xs k with
    | some x => some x
    | none => if 0 ≤ brH Ls Hs Ts w (Xs.getD k zeO) 16 then some (k, brH Ls Hs Ts w (Xs.getD k zeO) 16) else none
/-- The first of k wishes that is broken, and by what. -/
def brW (l : List Wi) (Xs : List (ByteArray × (Int × Int))) : Nat → Option (Nat × Nat × Int)
  | 0 => none
  | k + 1 => match brW l Xs k with
    | some x => some x
    | none => match brX Ls Hs Ts (l.getD k zeW) Xs Xs.length with
      | some p => some (k, p.1, p.2)
      | none => none
end
section
variable {Ls : List ((Int × Int) × (Int × Int))} {Hs : List (ByteArray × (Int × Int))} {Ts : List (List Ru)}
theorem brH_bd (w : Wi) (x : ByteArray × (Int × Int)) : ∀ k : Nat, -1 ≤ brH Ls Hs Ts w x k ∧ brH Ls Hs Ts w x k < k
  | 0 => by simp [brH]
  | k + 1 => by
    have := brH_bd w x k
    unfold brH
    split
    · split <;> omega
    · omega
theorem brH_le {w : Wi} {x : ByteArray × (Int × Int)} {k : Nat} (h : 0 ≤ brH Ls Hs Ts w x k) : ∀ {n : Nat}, k ≤ n → brH Ls Hs Ts w x n = brH Ls Hs Ts w x k
  | 0, hn => by
    obtain rfl : k = 0 := by omega
    rfl
  | n + 1, hn => by
    by_cases e : k = n + 1
    · subst e; rfl
    · have := brH_le h (show k ≤ n by omega)
      rw [brH, if_neg (by rw [this]; omega), this]
/-- The next one does not. -/
theorem brH_no {w : Wi} {x : ByteArray × (Int × Int)} {k : Nat} (h : brH Ls Hs Ts w x k < 0) (h2 : brB Ls Hs Ts w x (k : Int) = false) : brH Ls Hs Ts w x (k + 1) < 0 := by
  rw [brH, if_pos h, h2]
  simp
/-- The next one does. -/
theorem brH_yes {w : Wi} {x : ByteArray × (Int × Int)} {k : Nat} (hk : k < 16) (h : brH Ls Hs Ts w x k < 0) (h2 : brB Ls Hs Ts w x (k : Int) = true) : brH Ls Hs Ts w x 16 = k := by
  have e : brH Ls Hs Ts w x (k + 1) = k := by
    rw [brH, if_pos h, h2]
    simp
  rw [brH_le (k := k + 1) (by rw [e]; omega) (by omega), e]
theorem brH_some {w : Wi} {x : ByteArray × (Int × Int)} : ∀ {k : Nat}, 0 ≤ brH Ls Hs Ts w x k → brB Ls Hs Ts w x (brH Ls Hs Ts w x k) = true
  | 0, h => by simp [brH] at h
  | k + 1, h => by
    by_cases e : brH Ls Hs Ts w x k < 0
    · cases h2 : brB Ls Hs Ts w x (k : Int) with
      | false =>
        have := brH_no e h2
        omega
      | true =>
        have e2 : brH Ls Hs Ts w x (k + 1) = k := by
          rw [brH, if_pos e, h2]
          simp
        rw [e2]
        exact h2
    · have e2 : brH Ls Hs Ts w x (k + 1) = brH Ls Hs Ts w x k := by rw [brH, if_neg e]
      rw [e2]
      exact brH_some (by omega)
theorem brH_none {w : Wi} {x : ByteArray × (Int × Int)} : ∀ {k : Nat}, brH Ls Hs Ts w x k < 0 → ∀ j, j < k → brB Ls Hs Ts w x (j : Int) = false
  | 0, _, j, hj => by omega
  | k + 1, h, j, hj => by
    by_cases e : brH Ls Hs Ts w x k < 0
    · cases h2 : brB Ls Hs Ts w x (k : Int) with
      | false =>
        by_cases ej : j = k
        · subst ej; exact h2
        · exact brH_none e j (by omega)
      | true =>
        rw [brH, if_pos e, h2] at h
        simp at h
        omega
    · rw [brH, if_neg e] at h
      exact absurd h e
/-- Who does not ask is not broken. -/
theorem brB_off {w : Wi} {x : ByteArray × (Int × Int)} (h : abW w x.1 = false) (k : Int) : brB Ls Hs Ts w x k = false := by simp [brB, fiB, h]
theorem brH_off {w : Wi} {x : ByteArray × (Int × Int)} (h : abW w x.1 = false) : ∀ k : Nat, brH Ls Hs Ts w x k = -1
  | 0 => rfl
  | k + 1 => by
    rw [brH, brH_off h k, brB_off h]
    simp
variable {Xs : List (ByteArray × (Int × Int))}
theorem brX_le {w : Wi} {k : Nat} {p : Nat × Int} (h : brX Ls Hs Ts w Xs k = some p) : ∀ {n : Nat}, k ≤ n → brX Ls Hs Ts w Xs n = some p
  | 0, hn => by
    obtain rfl : k = 0 := by omega
    exact h
  | n + 1, hn => by
    by_cases e : k = n + 1
    · subst e; exact h
    · rw [brX, brX_le h (show k ≤ n by omega)]
theorem getO {Xs : List (ByteArray × (Int × Int))} {k : Nat} (hk : k < Xs.length) : Xs.getD k zeO = Xs[k] := by simp [List.getD, hk]
theorem brX_no {w : Wi} {k : Nat} (hk : k < Xs.length) (h : brX Ls Hs Ts w Xs k = none) (h2 : brH Ls Hs Ts w Xs[k] 16 < 0) : brX Ls Hs Ts w Xs (k + 1) = none := by
  rw [brX, h]
  simp only
  rw [getO hk, if_neg (by omega)]
theorem brX_yes {w : Wi} {k : Nat} (hk : k < Xs.length) (h : brX Ls Hs Ts w Xs k = none) (h2 : 0 ≤ brH Ls Hs Ts w Xs[k] 16) : brX Ls Hs Ts w Xs Xs.length = some (k, brH Ls Hs Ts w Xs[k] 16) := by
  refine brX_le (k := k + 1) ?_ (by omega)
  rw [brX, h]
  simp only
  rw [getO hk, if_pos h2]
theorem brX_some {w : Wi} : ∀ {k : Nat} {p : Nat × Int}, brX Ls Hs Ts w Xs k = some p → p.1 < k ∧ 0 ≤ p.2 ∧ p.2 < 16 ∧ brB Ls Hs Ts w (Xs.getD p.1 zeO) p.2 = true
  | 0, p, h => by cases h
  | k + 1, p, h => by
    rw [brX] at h
    cases e : brX Ls Hs Ts w Xs k with
    | some q =>
      rw [e] at h
      cases h
      obtain ⟨h1, h2⟩ := brX_some e
      exact ⟨by omega, h2⟩
    | none =>
      rw [e] at h
      simp only at h
      split at h
      · next h0 =>
        cases h
        have := brH_bd (Ls := Ls) (Hs := Hs) (Ts := Ts) w (Xs.getD k zeO) 16
        exact ⟨by simp, h0, by simp only; omega, brH_some h0⟩
      · cases h
theorem brX_none {w : Wi} : ∀ {k : Nat}, brX Ls Hs Ts w Xs k = none → ∀ j, j < k → ∀ h : Nat, h < 16 → brB Ls Hs Ts w (Xs.getD j zeO) (h : Int) = false
  | 0, _, j, hj => by omega
  | k + 1, h, j, hj => by
    rw [brX] at h
    cases e : brX Ls Hs Ts w Xs k with
    | some q => rw [e] at h; cases h
    | none =>
      rw [e] at h
      simp only at h
      split at h
      · cases h
      · next h0 =>
        by_cases ej : j = k
        · subst ej
          exact brH_none (by omega)
        · exact brX_none e j (by omega)
variable {l : List Wi}
theorem brW_le {k : Nat} {p : Nat × Nat × Int} (h : brW Ls Hs Ts l Xs k = some p) : ∀ {n : Nat}, k ≤ n → brW Ls Hs Ts l Xs n = some p
  | 0, hn => by
    obtain rfl : k = 0 := by omega
    exact h
  | n + 1, hn => by
    by_cases e : k = n + 1
    · subst e; exact h
    · rw [brW, brW_le h (show k ≤ n by omega)]
theorem brW_no {k : Nat} (hk : k < l.length) (h : brW Ls Hs Ts l Xs k = none) (h2 : brX Ls Hs Ts l[k] Xs Xs.length = none) : brW Ls Hs Ts l Xs (k + 1) = none := by
  rw [brW, h]
  simp only
  rw [getW hk, h2]
theorem brW_yes {k : Nat} (hk : k < l.length) (h : brW Ls Hs Ts l Xs k = none) {p : Nat × Int} (h2 : brX Ls Hs Ts l[k] Xs Xs.length = some p) : brW Ls Hs Ts l Xs l.length = some (k, p.1, p.2) := by
  refine brW_le (k := k + 1) ?_ (by omega)
  rw [brW, h]
  simp only
  rw [getW hk, h2]
theorem brW_some : ∀ {k : Nat} {p : Nat × Nat × Int}, brW Ls Hs Ts l Xs k = some p → p.1 < k ∧ p.2.1 < Xs.length ∧ 0 ≤ p.2.2 ∧ p.2.2 < 16 ∧ brB Ls Hs Ts (l.getD p.1 zeW) (Xs.getD p.2.1 zeO) p.2.2 = true
  | 0, p, h => by cases h
  | k + 1, p, h => by
    rw [brW] at h
    cases e : brW Ls Hs Ts l Xs k with
    | some q =>
      rw [e] at h
      cases h
      obtain ⟨h1, h2⟩ := brW_some e
      exact ⟨by omega, h2⟩
    | none =>
      rw [e] at h
      simp only at h
      cases e2 : brX Ls Hs Ts (l.getD k zeW) Xs Xs.length with
      | none => rw [e2] at h; cases h
      | some q =>
        rw [e2] at h
        cases h
        exact ⟨by simp, brX_some e2⟩
theorem brW_none : ∀ {k : Nat}, brW Ls Hs Ts l Xs k = none → ∀ i, i < k → ∀ j, j < Xs.length → ∀ h : Nat, h < 16 → brB Ls Hs Ts (l.getD i zeW) (Xs.getD j zeO) (h : Int) = false
  | 0, _, i, hi => by omega
  | k + 1, h, i, hi => by
    rw [brW] at h
    cases e : brW Ls Hs Ts l Xs k with
    | some q => rw [e] at h; cases h
    | none =>
      rw [e] at h
      simp only at h
      cases e2 : brX Ls Hs Ts (l.getD k zeW) Xs Xs.length with
      | some q => rw [e2] at h; cases h
      | none =>
        by_cases ei : i = k
        · subst ei
          exact brX_none e2
        · exact brW_none e i (by omega)
end
/-- What is told of wishes that do not hold. -/
def prV (Hs : List (ByteArray × (Int × Int))) : Option (Nat × Nat × Int) → Int × ByteArray × Int
  | none => (0, ByteArray.empty, 0)
  | some p => ((p.1 : Int), (Hs.getD p.2.1 zeO).1, p.2.2)
/-- The answers of Holds. -/
def wiN (S : Int) (Ls : List ((Int × Int) × (Int × Int))) (Hs : List (ByteArray × (Int × Int))) (Ts : List (List Ru)) (l : List Wi) : Int :=
  if ntN S Ls Hs Ts = 0 then (if wsN S Ls Hs l = 0 then (if (brW Ls Hs Ts l Hs l.length).isSome then 9 else 0) else wsN S Ls Hs l) else ntN S Ls Hs Ts
def wiV (S : Int) (Ls : List ((Int × Int) × (Int × Int))) (Hs : List (ByteArray × (Int × Int))) (Ts : List (List Ru)) (l : List Wi) : Int × ByteArray × Int :=
  if ntN S Ls Hs Ts = 0 ∧ wsN S Ls Hs l = 0 then prV Hs (brW Ls Hs Ts l Hs l.length) else (0, ByteArray.empty, 0)
end Go.Proofs.YtpmcjelihdlfeaaGreatDoor
/- What the laws ask of wishes: plain lists. No program in it. -/
namespace Go.Proofs.YtpmcjelihdlfeaaGreatDoor
open Go.RowKit
set_option linter.unusedVariables false

section
variable {S : Int}
theorem lk_9 : ∀ (Ls : List ((Int × Int) × (Int × Int))) (U : List (Int × Int)), lkN S Ls U ≠ 9
  | [], _ => by simp [lkN]
  | l :: Ls, U => by
    unfold lkN
    split
    · split
      · decide
      · exact lk_9 Ls _
    · decide
theorem hs_9 : ∀ (Hs : List (ByteArray × (Int × Int))) (N : List ByteArray) (U : List (Int × Int)), hoN S Hs N U ≠ 9
  | [], _, _ => by simp [hoN]
  | h :: Hs, N, U => by
    unfold hoN
    split
    · split
      · split
        · decide
        · exact hs_9 Hs _ _
      · decide
    · decide
variable {Ls : List ((Int × Int) × (Int × Int))} {Hs : List (ByteArray × (Int × Int))} {Ts : List (List Ru)} {l : List Wi}
theorem tp_9 : tpN S Ls Hs ≠ 9 := by
  unfold tpN
  split
  · split
    · split
      · exact hs_9 _ _ _
      · exact lk_9 _ _
    · decide
  · decide
theorem tt_9 (L : List Ru) : ∀ k, tbTo L k ≠ 9
  | 0 => by simp [tbTo]
  | k + 1 => by
    unfold tbTo
    have h := ruN_bd (L.getD k zeR).p (L.getD k zeR).m (L.getD k zeR).b (L.getD k zeR).o (L.getD k zeR).s (L.getD k zeR).v
    have e : (L.getD k zeR).n = ruN (L.getD k zeR).p (L.getD k zeR).m (L.getD k zeR).b (L.getD k zeR).o (L.getD k zeR).s (L.getD k zeR).v := rfl
    rw [← e] at h
    split
    · split
      · split <;> decide
      · omega
    · exact tt_9 L k
theorem tb_9 (L : List Ru) : tbN L ≠ 9 := by
  unfold tbN
  split
  · decide
  · exact tt_9 L _
theorem ts_9 : ∀ k, tsTo Ts k ≠ 9
  | 0 => by simp [tsTo]
  | k + 1 => by
    unfold tsTo
    split
    · exact tb_9 _
    · exact ts_9 k
theorem nt_9 : ntN S Ls Hs Ts ≠ 9 := by
  unfold ntN
  split
  · split
    · exact ts_9 _
    · decide
  · exact tp_9
theorem wo_9 (w : Wi) : woN S Hs w ≠ 9 := by
  unfold woN
  split
  · decide
  · split
    · split <;> decide
    · split <;> decide
theorem wt_9 : ∀ k, wsTo S Hs l k ≠ 9
  | 0 => by simp [wsTo]
  | k + 1 => by
    unfold wsTo
    split
    · exact wo_9 _
    · exact wt_9 k
theorem ws_9 : wsN S Ls Hs l ≠ 9 := by
  unfold wsN
  split
  · split
    · decide
    · exact wt_9 _
  · exact tp_9
theorem wi_9 (h : wiN S Ls Hs Ts l = 9) : ntN S Ls Hs Ts = 0 ∧ wsN S Ls Hs l = 0 ∧ ∃ p, brW Ls Hs Ts l Hs l.length = some p := by
  unfold wiN at h
  by_cases h1 : ntN S Ls Hs Ts = 0
  · rw [if_pos h1] at h
    by_cases h2 : wsN S Ls Hs l = 0
    · rw [if_pos h2] at h
      refine ⟨h1, h2, ?_⟩
      cases e : brW Ls Hs Ts l Hs l.length with
      | some p => exact ⟨p, rfl⟩
      | none => rw [e] at h; simp at h
    · rw [if_neg h2] at h
      exact absurd h ws_9
  · rw [if_neg h1] at h
    exact absurd h nt_9
theorem wi_0 (h : wiN S Ls Hs Ts l = 0) : ntN S Ls Hs Ts = 0 ∧ wsN S Ls Hs l = 0 ∧ brW Ls Hs Ts l Hs l.length = none := by
  unfold wiN at h
  by_cases h1 : ntN S Ls Hs Ts = 0
  · rw [if_pos h1] at h
    by_cases h2 : wsN S Ls Hs l = 0
    · rw [if_pos h2] at h
      refine ⟨h1, h2, ?_⟩
      cases e : brW Ls Hs Ts l Hs l.length with
      | none => rfl
      | some p => rw [e] at h; simp at h
    · rw [if_neg h2] at h
      exact absurd h h2
  · rw [if_neg h1] at h
    exact absurd h h1
theorem where_mem : ∀ {Hs : List (ByteArray × (Int × Int))}, (Hs.map (·.1)).Nodup → ∀ x ∈ Hs, whereO Hs x.1 = some x.2
  | [], _, x, hx => by cases hx
  | y :: Hs, hn, x, hx => by
    simp only [List.map_cons, List.nodup_cons] at hn
    unfold whereO
    rcases List.mem_cons.1 hx with rfl | hm
    · rw [if_pos (ba_eq.2 rfl)]
    · rw [if_neg]
      · exact where_mem hn.2 x hm
      · intro e
        refine hn.1 ?_
        rw [ba_eq.1 e]
        exact List.mem_map_of_mem hm
theorem se_of (hn : ntN S Ls Hs Ts = 0) {x : ByteArray × (Int × Int)} (hx : x ∈ Hs) {h : Int} (hh : hdrB h = true) : seN S Ls Hs Ts x.1 h = 0 ∧ seV S Ls Hs Ts x.1 h = frF Ls Hs Ts x.2 h := by
  have ht := (nt_0 hn).1
  have hw := where_mem (tp_0 ht).2.2.2.2.2.1 x hx
  have e1 : weN S Ls Hs x.1 = 0 := by rw [weN, if_pos ht, hw]; rfl
  have e2 : weV S Ls Hs x.1 = x.2 := by rw [weV, if_pos e1, hw]; rfl
  have e3 : seN S Ls Hs Ts x.1 h = 0 := by rw [seN, if_pos hn, if_pos e1, hh]; rfl
  exact ⟨e3, by rw [seV, if_pos e3, e2]⟩
theorem se_0 {m : ByteArray} {h : Int} (hs : seN S Ls Hs Ts m h = 0) : ntN S Ls Hs Ts = 0 ∧ hdrB h = true ∧ (m, weV S Ls Hs m) ∈ Hs ∧ seV S Ls Hs Ts m h = frF Ls Hs Ts (weV S Ls Hs m) h := by
  have hs2 := hs
  unfold seN at hs
  by_cases h1 : ntN S Ls Hs Ts = 0
  · rw [if_pos h1] at hs
    by_cases h2 : weN S Ls Hs m = 0
    · rw [if_pos h2] at hs
      have h2' := h2
      rw [weN, if_pos (nt_0 h1).1] at h2'
      cases h3 : hdrB h with
      | false => rw [h3] at hs; simp at hs
      | true =>
        refine ⟨h1, rfl, ?_, by rw [seV, if_pos hs2]⟩
        rw [weV, if_pos h2]
        cases hw : whereO Hs m with
        | none => rw [hw] at h2'; simp at h2'
        | some p => exact where_in hw
    · rw [if_neg h2] at hs
      exact absurd hs h2
  · rw [if_neg h1] at hs
    exact absurd hs h1
theorem hd_of {h : Int} (h0 : 0 ≤ h) (h1 : h < 16) : hdrB h = true := by
  obtain ⟨k, rfl⟩ : ∃ k : Nat, h = (k : Int) := ⟨h.toNat, by omega⟩
  have : ∀ f : Fin 16, hdrB ((f : Nat) : Int) = true := by decide +kernel
  exact this ⟨k, by omega⟩
theorem hd_in {h : Int} (hh : hdrB h = true) : ∃ k : Nat, h = (k : Int) ∧ k < 16 := by
  obtain ⟨h', rfl⟩ := small (hdr_of hh)
  exact ⟨h'.val, rfl, h'.isLt⟩
/-- What it names was sent, and breaks the wish it names. -/
theorem wish_shown (h : wiN S Ls Hs Ts l = 9) : ∃ i : Nat, i < l.length ∧ (wiV S Ls Hs Ts l).1 = (i : Int) ∧ seN S Ls Hs Ts (wiV S Ls Hs Ts l).2.1 (wiV S Ls Hs Ts l).2.2 = 0 ∧ fiB (l.getD i zeW) (wiV S Ls Hs Ts l).2.1 (seV S Ls Hs Ts (wiV S Ls Hs Ts l).2.1 (wiV S Ls Hs Ts l).2.2) = false := by
  obtain ⟨h1, h2, p, h3⟩ := wi_9 h
  obtain ⟨g1, g2, g3, g4, g5⟩ := brW_some h3
  have e : wiV S Ls Hs Ts l = ((p.1 : Int), (Hs.getD p.2.1 zeO).1, p.2.2) := by
    rw [wiV, if_pos ⟨h1, h2⟩, h3]
    rfl
  have hm : Hs.getD p.2.1 zeO ∈ Hs := by
    rw [getO g2]
    exact List.getElem_mem g2
  obtain ⟨k1, k2⟩ := se_of h1 hm (hd_of g3 g4)
  refine ⟨p.1, g1, by rw [e], by rw [e]; exact k1, ?_⟩
  rw [e]
  simp only
  rw [k2]
  simpa [brB] using g5
/-- Where they hold whatever is sent fits. -/
theorem wish_all (h : wiN S Ls Hs Ts l = 0) {m : ByteArray} {a : Int} (hs : seN S Ls Hs Ts m a = 0) : ∀ i : Nat, i < l.length → fiB (l.getD i zeW) m (seV S Ls Hs Ts m a) = true := by
  intro i hi
  obtain ⟨h1, h2, h3⟩ := wi_0 h
  obtain ⟨g1, g2, g3, g4⟩ := se_0 hs
  obtain ⟨k, rfl, hk⟩ := hd_in g2
  obtain ⟨j, hj, e⟩ := List.getElem_of_mem g3
  have := brW_none h3 i hi j hj k hk
  rw [getO hj, e] at this
  rw [g4]
  simpa [brB] using this
theorem one_at (w : Wi) : [w].getD 0 zeW = w := rfl
/-- Not both. -/
theorem wish_both {f t : ByteArray} (h1 : wiN S Ls Hs Ts [⟨1, f, t, 0⟩] = 0) (h2 : wiN S Ls Hs Ts [⟨2, f, t, 0⟩] = 0) : False := by
  obtain ⟨g1, g2, g3⟩ := wi_0 h1
  obtain ⟨_, _, k3⟩ := wi_0 h2
  have ht := (nt_0 g1).1
  have hw : woN S Hs ⟨1, f, t, 0⟩ = 0 := by
    rw [wsN, if_pos ht, if_neg (by simp)] at g2
    exact ws_0 (n := 1) g2 0 (by omega)
  have hf : hoB Hs f = true := by
    unfold woN at hw
    split at hw
    · cases hw
    · rw [if_neg (by simp)] at hw
      split at hw
      · next e => rw [Bool.and_eq_true] at e; exact e.1
      · cases hw
  obtain ⟨x, hx, e⟩ := List.any_eq_true.1 hf
  have e := ba_eq.1 e
  obtain ⟨j, hj, ej⟩ := List.getElem_of_mem hx
  have a1 := brW_none g3 0 (by simp) j hj 0 (by omega)
  have a2 := brW_none k3 0 (by simp) j hj 0 (by omega)
  rw [getO hj, ej, one_at] at a1 a2
  have ab1 : abW ⟨1, f, t, 0⟩ x.1 = true := by rw [abW, e]; simp [ba_eq.2 rfl]
  have ab2 : abW ⟨2, f, t, 0⟩ x.1 = true := by rw [abW, e]; simp [ba_eq.2 rfl]
  have b1 : fiB ⟨1, f, t, 0⟩ x.1 (frF Ls Hs Ts x.2 ((0 : Nat) : Int)) = true := by simpa [brB] using a1
  have b2 : fiB ⟨2, f, t, 0⟩ x.1 (frF Ls Hs Ts x.2 ((0 : Nat) : Int)) = true := by simpa [brB] using a2
  rw [fiB, if_pos ab1, if_pos rfl] at b1
  rw [fiB, if_pos ab2, if_neg (by simp), if_pos rfl] at b2
  have e3 : thW ⟨1, f, t, 0⟩ (frF Ls Hs Ts x.2 ((0 : Nat) : Int)) = thW ⟨2, f, t, 0⟩ (frF Ls Hs Ts x.2 ((0 : Nat) : Int)) := rfl
  rw [← e3, b1] at b2
  cases b2
/-- The first hop is where it was sent. -/
theorem fr_first (s : Int × Int) (h : Int) : haW s.1 (frF Ls Hs Ts s h).2.2 = true := by
  have hch : ChH Ls Hs Ts [(s, h)] := fun i hi => by simp at hi
  obtain ⟨rest, e1, _⟩ := fo_spec (Ls := Ls) (Hs := Hs) (Ts := Ts) 24 [(s, h)] (by simp) (by simp) (by omega) (by simp) hch
  unfold frF haW
  rw [e1]
  simp
/-- A way by the host's own switch. -/
theorem wish_way {f t : ByteArray} (hw : weN S Ls Hs f = 0) : wiN S Ls Hs Ts [⟨3, f, t, (weV S Ls Hs f).1⟩] ≠ 9 := by
  intro h
  obtain ⟨h1, h2, p, h3⟩ := wi_9 h
  obtain ⟨g1, g2, g3, g4, g5⟩ := brW_some h3
  have ht := (nt_0 h1).1
  have e0 : p.1 = 0 := by simp at g1; omega
  rw [e0, one_at] at g5
  have hm : Hs.getD p.2.1 zeO ∈ Hs := by
    rw [getO g2]
    exact List.getElem_mem g2
  have hx := where_mem (tp_0 ht).2.2.2.2.2.1 _ hm
  generalize Hs.getD p.2.1 zeO = x at g5 hm hx
  have g6 : fiB ⟨3, f, t, (weV S Ls Hs f).1⟩ x.1 (frF Ls Hs Ts x.2 p.2.2) = false := by simpa [brB] using g5
  unfold fiB at g6
  split at g6
  · next ab =>
    have e : f = x.1 := by
      simpa [abW, ba_eq] using ab
    have ev : (weV S Ls Hs f).1 = x.2.1 := by
      rw [weV, if_pos hw, e, hx]
      rfl
    rw [if_neg (by simp), if_neg (by simp), if_pos rfl] at g6
    simp only [ev] at g6
    rw [fr_first, Bool.or_true] at g6
    cases g6
  · cases g6
end
/-- The fact that is tried first. -/
theorem wish_one : wiN 1 [] [(⟨#[97]⟩, (1, 2))] [[]] [⟨1, ⟨#[97]⟩, ⟨#[97]⟩, 0⟩] = 9 ∧ (wiV 1 [] [(⟨#[97]⟩, (1, 2))] [[]] [⟨1, ⟨#[97]⟩, ⟨#[97]⟩, 0⟩]).2.1.data = #[97] ∧ (wiV 1 [] [(⟨#[97]⟩, (1, 2))] [[]] [⟨1, ⟨#[97]⟩, ⟨#[97]⟩, 0⟩]).2.2 = 0 := by decide +kernel
theorem clash_one (f t : ByteArray) : fiB ⟨1, f, t, 0⟩ f (1, t, []) = true ∧ fiB ⟨2, f, t, 0⟩ f (1, t, []) = false := by
  have ab1 : abW ⟨1, f, t, 0⟩ f = true := by rw [abW]; simp [ba_eq.2 rfl]
  have ab2 : abW ⟨2, f, t, 0⟩ f = true := by rw [abW]; simp [ba_eq.2 rfl]
  have h1 : thW ⟨1, f, t, 0⟩ (1, t, []) = true := by rw [thW]; simp [ba_eq.2 rfl]
  have h2 : thW ⟨2, f, t, 0⟩ (1, t, []) = true := by rw [thW]; simp [ba_eq.2 rfl]
  rw [fiB, if_pos ab1, if_pos rfl, h1, fiB, if_pos ab2, if_neg (by simp), if_pos rfl, h2]
  exact ⟨rfl, rfl⟩
end Go.Proofs.YtpmcjelihdlfeaaGreatDoor
/- The struct api.Wish: its cells, slices of them, == of two, such that came in. Written by mk/struct.py. -/
namespace Go.Proofs.YtpmcjelihdlfeaaGreatDoor
open Go.ChangeShapes Go.WideShapes Go.ChangeAt Go.RowKit Go.Joins
set_option linter.unusedSimpArgs false
set_option linter.unusedVariables false
set_option maxRecDepth 100000

def wisE : Enc (Wi) where
  c := fun x => [.int .i64 x.k, .string x.f, .string x.t, .int .i64 x.v]
  n := 4
  len := fun _ => rfl
  pos := by decide
  one := by
    intro x u hu
    simp at hu
    rcases hu with rfl | rfl | rfl | rfl <;> rfl
theorem wis_cells {w : World} {g o : Nat} {x0 : Int} {x1 : ByteArray} {x2 : ByteArray} {x3 : Int} (h : VAt w g o (wisE.c ⟨x0, x1, x2, x3⟩)) : w.cell? ⟨g, o, none⟩ = some (.int .i64 x0) ∧ w.cell? ⟨g, o + 1, none⟩ = some (.string x1) ∧ w.cell? ⟨g, o + 2, none⟩ = some (.string x2) ∧ w.cell? ⟨g, o + 3, none⟩ = some (.int .i64 x3) :=
  ⟨h 0 _ rfl, h 1 _ rfl, h 2 _ rfl, h 3 _ rfl⟩
theorem wis_at {w : World} {g o : Nat} {L : List (Wi)} (h : GAt wisE w g o L) {n k : Nat} (hn : L.length = n) (hk : k < n) :
    ∃ (x0 : Int) (x1 : ByteArray) (x2 : ByteArray) (x3 : Int) (hl : k < L.length), L[k] = ⟨x0, x1, x2, x3⟩ ∧ w.cell? ⟨g, o + k * 4, none⟩ = some (.int .i64 x0) ∧ w.cell? ⟨g, o + k * 4 + 1, none⟩ = some (.string x1) ∧ w.cell? ⟨g, o + k * 4 + 2, none⟩ = some (.string x2) ∧ w.cell? ⟨g, o + k * 4 + 3, none⟩ = some (.int .i64 x3) :=
  have hl : k < L.length := by omega
  ⟨_, _, _, _, hl, rfl, wis_cells (h k hl)⟩
theorem wis_new (w : World) (x0 : Int) (x1 : ByteArray) (x2 : ByteArray) (x3 : Int) (t : TypeId) : VAt (w.alloc (Obj.cells #[.int .i64 x0, .string x1, .string x2, .int .i64 x3] t)) w.heap.size 0 (wisE.c ⟨x0, x1, x2, x3⟩) := vat_new w [.int .i64 x0, .string x1, .string x2, .int .i64 x3] t
theorem wis_row (w : World) (x0 : Int) (x1 : ByteArray) (x2 : ByteArray) (x3 : Int) (t : TypeId) : GS wisE (w.alloc (Obj.cells #[.int .i64 x0, .string x1, .string x2, .int .i64 x3] t)) (.slice (some ⟨w.heap.size, 0, none⟩) 1 1) [⟨x0, x1, x2, x3⟩] := gs_one (E := wisE) w ⟨x0, x1, x2, x3⟩ t (vs := [.int .i64 x0, .string x1, .string x2, .int .i64 x3]) rfl
/-- Are two the same? -/
def wisB (a b : Wi) : Bool := (a.k == b.k) && ((a.f == b.f) && ((a.t == b.t) && ((a.v == b.v))))
theorem wis_ways (x0 : Int) (x1 : ByteArray) (x2 : ByteArray) (x3 : Int) (y0 : Int) (y1 : ByteArray) (y2 : ByteArray) (y3 : Int) :
    ((x0 == y0) = false ∧ wisB ⟨x0, x1, x2, x3⟩ ⟨y0, y1, y2, y3⟩ = false) ∨
    ((x0 == y0) = true ∧ (x1.toList == y1.toList) = false ∧ wisB ⟨x0, x1, x2, x3⟩ ⟨y0, y1, y2, y3⟩ = false) ∨
    ((x0 == y0) = true ∧ (x1.toList == y1.toList) = true ∧ (x2.toList == y2.toList) = false ∧ wisB ⟨x0, x1, x2, x3⟩ ⟨y0, y1, y2, y3⟩ = false) ∨
    ((x0 == y0) = true ∧ (x1.toList == y1.toList) = true ∧ (x2.toList == y2.toList) = true ∧ (x3 == y3) = false ∧ wisB ⟨x0, x1, x2, x3⟩ ⟨y0, y1, y2, y3⟩ = false) ∨
    ((x0 == y0) = true ∧ (x1.toList == y1.toList) = true ∧ (x2.toList == y2.toList) = true ∧ (x3 == y3) = true ∧ wisB ⟨x0, x1, x2, x3⟩ ⟨y0, y1, y2, y3⟩ = true) := by
  have e : wisB ⟨x0, x1, x2, x3⟩ ⟨y0, y1, y2, y3⟩ = ((x0 == y0) && ((x1.toList == y1.toList) && ((x2.toList == y2.toList) && ((x3 == y3))))) := by simp only [wisB, beq_toListBytes]
  rw [e]
  cases h0 : (x0 == y0)
  · simp
  · skip
    cases h1 : (x1.toList == y1.toList)
    · simp
    · skip
      cases h2 : (x2.toList == y2.toList)
      · simp
      · skip
        cases h3 : (x3 == y3)
        · simp
        · skip
          simp
set_option maxRecDepth 100000 in
theorem wis_eq (x0 : Int) (x1 : ByteArray) (x2 : ByteArray) (x3 : Int) (y0 : Int) (y1 : ByteArray) (y2 : ByteArray) (y3 : Int) (w : World) : (Op.equal 31 (.agg #[.int .i64 x0, .string x1, .string x2, .int .i64 x3]) (.agg #[.int .i64 y0, .string y1, .string y2, .int .i64 y3])).run Tryz.prog w = .ok (wisB ⟨x0, x1, x2, x3⟩ ⟨y0, y1, y2, y3⟩) w := by
  unfold Op.equal Op.maxDepth
  rw [run_equalIn_struct w 9999 _ _ _ (by kernel_rfl) (by kernel_rfl)]
  rcases wis_ways x0 x1 x2 x3 y0 y1 y2 y3 with ⟨e0, e⟩ | ⟨e0, e1, e⟩ | ⟨e0, e1, e2, e⟩ | ⟨e0, e1, e2, e3, e⟩ | ⟨e0, e1, e2, e3, e⟩
  all_goals
    rw [e]
    go_simp
theorem wis_info : (Tryz.prog.info? 31).map (fun i => (i.zero, i.size, i.bytes)) = some (some (.agg #[.int .i64 0, .string ByteArray.empty, .string ByteArray.empty, .int .i64 0]), 4, 48) := by kernel_rfl
theorem wis_zero : (Value.agg #[.int .i64 0, .string ByteArray.empty, .string ByteArray.empty, .int .i64 0]).cells.size = 4 := by simp [Value.cells]
/-- Cells that read as one. -/
theorem wis_open {H : Type} {enc : TypeId × Value → H} {W : World} {n : Nat} {cs : List Value} {x : DataW H × List MemPlace}
    (h : DataW.trod enc Tryz.prog W 0 (fun _ => true) true n 31 cs = some x) : ∃ y, cs = wisE.c y := by
  obtain ⟨xs, k, _, _, hl, hlen, hf⟩ := DataW.trod_struct Tryz.underlying31 h
  have hC : Tryz.prog.cellsOf 31 = 4 := by kernel_rfl
  have hT0 : Tryz.prog.cellsOf 3 = 1 := by kernel_rfl
  have hT1 : Tryz.prog.cellsOf 9 = 1 := by kernel_rfl
  rw [hC] at hl
  match cs, hl with
  | [c0, c1, c2, c3], _ =>
    match xs, hlen with
    | [z0, z1, z2, z3], _ =>
      have g0 := hf 0 _ rfl
      have g1 := hf 1 _ rfl
      have g2 := hf 2 _ rfl
      have g3 := hf 3 _ rfl
      simp [hT0, hT1] at g0 g1 g2 g3
      obtain ⟨v0, e0, _, _⟩ := DataW.trod_int Tryz.underlying3 g0
      obtain ⟨v1, e1, _, _⟩ := DataW.trod_string Tryz.underlying9 g1
      obtain ⟨v2, e2, _, _⟩ := DataW.trod_string Tryz.underlying9 g2
      obtain ⟨v3, e3, _, _⟩ := DataW.trod_int Tryz.underlying3 g3
      simp [] at e0 e1 e2 e3
      refine ⟨⟨v0, v1, v2, v3⟩, ?_⟩
      simp [wisE, e0, e1, e2, e3]
set_option maxRecDepth 100000 in
/-- One that came in. -/
theorem wis_of {H : Type} {enc : TypeId × Value → H} {W : World} {base : Nat} {v : Value} {d : DataW H} {p : List MemPlace}
    (hv : Value.okWide Tryz.prog W .any base 31 v) (h : DataW.Trod enc Tryz.prog W 0 (fun _ => true) true 31 v d p) : ∃ (x0 : Int) (x1 : ByteArray) (x2 : ByteArray) (x3 : Int), v = .agg #[.int .i64 x0, .string x1, .string x2, .int .i64 x3] := by
  obtain ⟨cs, rfl, hsz⟩ := okWide_struct Tryz.underlying31 hv
  obtain ⟨n, hn⟩ := h
  obtain ⟨y, e⟩ := wis_open hn
  refine ⟨y.k, y.f, y.t, y.v, ?_⟩
  simp only [Value.cells] at e
  have e2 : cs = #[.int .i64 y.k, .string y.f, .string y.t, .int .i64 y.v] := by
    rw [← Array.toArray_toList (xs := cs), e]
    rfl
  rw [e2]
/-- A slice of them that came in. -/
theorem wiss_of {H : Type} {enc : TypeId × Value → H} {W : World} {base : Nat} {v : Value} {d : DataW H} {p : List MemPlace}
    (hv : Value.okWide Tryz.prog W .any base 29 v) (h : DataW.Trod enc Tryz.prog W 0 (fun _ => true) true 29 v d p) : ∃ L, GS wisE W v L :=
  gs_of (E := wisE) 29 31 Tryz.underlying29 (by kernel_rfl) ⟨0, ByteArray.empty, ByteArray.empty, 0⟩ (fun _ _ _ h => wis_open h) hv h
end Go.Proofs.YtpmcjelihdlfeaaGreatDoor
/- What isSwitch, isSpot and joins of package topo answer: contracts for the walks above them. -/
namespace Go.Proofs.YtpmcjelihdlfeaaGreatDoor
open Go.RowKit
set_option linter.unusedSimpArgs false
set_option linter.unusedVariables false

set_option maxHeartbeats 1000000 in
theorem isSwitch_any (S a : Int) (w : World) :
    Calls Tryz.prog 71 #[.int .i64 S, .int .i64 a] w fun e w' => e = .returned (.bool (swB S a)) ∧ Below w.heap.size w w' := by
  by_cases h1 : 1 ≤ a
  · by_cases h2 : a ≤ S
    · have e : swB S a = true := sw_of.2 ⟨h1, h2⟩
      rw [e]
      clear e
      go_enter Tryz.func71, Tryz.ntmps71
      go_wp2
      go_ret
      exact ⟨rfl, Below.refl _ _⟩
    · have e : swB S a = false := by simp [swB, h2]
      rw [e]
      clear e
      go_enter Tryz.func71, Tryz.ntmps71
      go_wp2
      go_ret
      exact ⟨rfl, Below.refl _ _⟩
  · have e : swB S a = false := by simp [swB, h1]
    rw [e]
    clear e
    go_enter Tryz.func71, Tryz.ntmps71
    go_wp2
    go_ret
    exact ⟨rfl, Below.refl _ _⟩
set_option maxHeartbeats 1000000 in
theorem isSpot_any (S x y : Int) (w : World) :
    Calls Tryz.prog 70 #[.int .i64 S, .agg #[.int .i64 x, .int .i64 y]] w fun e w' => e = .returned (.bool (spB S (x, y))) ∧ Below w.heap.size w w' := by
  have HB0 : Hid (Below w.heap.size w (w.alloc (Obj.cells #[Value.int IntKind.i64 x, Value.int IntKind.i64 y] 80))) := (Below.refl _ _).alloc (Nat.le_refl _) _
  have hlt : w.heap.size < (w.alloc (Obj.cells #[Value.int IntKind.i64 x, Value.int IntKind.i64 y] 80)).heap.size := by simp
  have c0 : (w.alloc (Obj.cells #[Value.int IntKind.i64 x, Value.int IntKind.i64 y] 80)).cell? ⟨w.heap.size, 0, none⟩ = some (.int .i64 x) := by simp
  have c1 : (w.alloc (Obj.cells #[Value.int IntKind.i64 x, Value.int IntKind.i64 y] 80)).cell? ⟨w.heap.size, 1, none⟩ = some (.int .i64 y) := by simp
  cases hs : swB S x
  · have e : spB S (x, y) = false := by
      cases h : spB S (x, y)
      · rfl
      · have := sp_of h
        have h2 := sw_of.2 ⟨this.1, this.2.1⟩
        rw [hs] at h2
        cases h2
    rw [e]
    clear e
    go_enter Tryz.func70, Tryz.ntmps70
    go_wp2_with fail
    refine (isSwitch_any S x _).mono ?_
    rintro e w1 ⟨rfl, hb1⟩
    rw [hs]
    have HB1 : Hid (Below w.heap.size w w1) := HB0.out.trans (hb1.mono HB0.out.size)
    clear hb1 c0 c1
    go_wp2
    go_ret
    exact ⟨rfl, HB1.out⟩
  · have hw := sw_of.1 hs
    have e : spB S (x, y) = (decide (1 ≤ y) && decide (y ≤ 4)) := by simp [spB, hw.1, hw.2]
    rw [e]
    clear e hw
    have walk : ∀ r : Bool, r = (decide (1 ≤ y) && decide (y ≤ 4)) → Calls Tryz.prog 70 #[.int .i64 S, .agg #[.int .i64 x, .int .i64 y]] w fun e w' => e = .returned (.bool r) ∧ Below w.heap.size w w' := by
      intro r hr
      by_cases h1 : 1 ≤ y
      · by_cases h2 : y ≤ 4
        · have e : r = true := by rw [hr]; simp [h1, h2]
          subst e
          clear hr
          go_enter Tryz.func70, Tryz.ntmps70
          go_wp2_with fail
          refine (isSwitch_any S x _).mono ?_
          rintro e w1 ⟨rfl, hb1⟩
          rw [hs]
          have HB1 : Hid (Below w.heap.size w w1) := HB0.out.trans (hb1.mono HB0.out.size)
          have d1 := cell_later hb1 c1
          clear hb1 c0 c1
          go_wp2
          go_ret
          exact ⟨rfl, HB1.out⟩
        · have e : r = false := by rw [hr]; simp [h2]
          subst e
          clear hr
          go_enter Tryz.func70, Tryz.ntmps70
          go_wp2_with fail
          refine (isSwitch_any S x _).mono ?_
          rintro e w1 ⟨rfl, hb1⟩
          rw [hs]
          have HB1 : Hid (Below w.heap.size w w1) := HB0.out.trans (hb1.mono HB0.out.size)
          have d1 := cell_later hb1 c1
          have hd : decide (y ≤ 4) = false := by simp [h2]
          clear hb1 c0 c1
          go_wp2
          go_ret
          exact ⟨by first | rfl | simp [h2], HB1.out⟩
      · have e : r = false := by rw [hr]; simp [h1]
        subst e
        clear hr
        go_enter Tryz.func70, Tryz.ntmps70
        go_wp2_with fail
        refine (isSwitch_any S x _).mono ?_
        rintro e w1 ⟨rfl, hb1⟩
        rw [hs]
        have HB1 : Hid (Below w.heap.size w w1) := HB0.out.trans (hb1.mono HB0.out.size)
        have d1 := cell_later hb1 c1
        clear hb1 c0 c1
        go_wp2
        go_ret
        exact ⟨rfl, HB1.out⟩
    exact walk _ rfl
end Go.Proofs.YtpmcjelihdlfeaaGreatDoor
/- A spot as a key of a map; numbers and texts as keys. -/
namespace Go.Proofs.YtpmcjelihdlfeaaGreatDoor
open Go.RowKit

set_option maxRecDepth 100000 in
theorem spotEq (a b c d : Int) (w : World) : (Op.equal 80 (.agg #[.int .i64 a, .int .i64 b]) (.agg #[.int .i64 c, .int .i64 d])).run Tryz.prog w = .ok (a == c && b == d) w := by
  unfold Op.equal Op.maxDepth
  rw [run_equalIn_struct w 9999 _ _ _ (by kernel_rfl) (by kernel_rfl)]
  cases h1 : (a == c)
  · go_simp
  · cases h2 : (b == d)
    · go_simp
    · go_simp
set_option maxRecDepth 100000 in
theorem spotCheck (e : Bool) (a b : Int) (w : World) : (Instr.checkKey e 10000 80 (.agg #[.int .i64 a, .int .i64 b])).run Tryz.prog w = .ok () w := by
  have h : ∀ (x : Int) (w : World), (Instr.checkKey e 9999 3 (.int .i64 x)).run Tryz.prog w = .ok () w := fun x w => Go.MapKept.run_checkKey Tryz.underlying3 (by simp [Go.MapKept.IsKey]) e 9998
  rw [Instr.checkKey]
  go_simp
def spotKey : KeyE Tryz.prog 80 (Int × Int) :=
  KeyE.ask (fun k => .agg #[.int .i64 k.1, .int .i64 k.2]) sq sq_iff (fun e k w => spotCheck e k.1 k.2 w) _ (show Tryz.prog.underlying 80 = some (.struct (Tryz.prog.fieldsOf 80)) by kernel_rfl) (fun a b => rfl) (fun a b w => spotEq a.1 a.2 b.1 b.2 w) (fun k => by simp [Instr.sameBits])
def intKey : KeyE Tryz.prog 3 Int :=
  KeyE.now (fun k => .int .i64 k) qI qI_iff (fun e k w => Go.MapKept.run_checkKey Tryz.underlying3 (by simp [Go.MapKept.IsKey]) e 9999) _ Tryz.underlying3 (fun a b => by simp [Instr.sameNow, qI]) (fun k => by simp [Instr.sameBits])
def strKey : KeyE Tryz.prog 9 ByteArray :=
  KeyE.now (fun k => .string k) (fun a b => a == b) ba_iff (fun e k w => Go.MapKept.run_checkKey Tryz.underlying9 (by simp [Go.MapKept.IsKey]) e 9999) _ Tryz.underlying9 (fun a b => by simp [Instr.sameNow, beq_toListBytes]) (fun k => by simp [Instr.sameBits, (ba_iff k k).2 rfl])
/-- Numbers as elements. -/
def veI (n : Int) : Value := .int .i64 n
section
variable {P : Program} {K : TypeId} {κ : Type} {E : KeyE P K κ} {w : World} {ops : Array Oper} {rest : List Oper} {o : Oper} {a : Act} {Q : Exit → Act → World → Prop}
theorem getV_I {o : Option Int} : getV veI (.int .i64 0) o = .int .i64 (o.getD 0) := by cases o <;> rfl
/-- A look-up in a map that counts. -/
theorem run_lookup_TK {B : Nat} {M : List (κ × Int)} {U : List κ} (h : MAt E veI w B M) (hT : TK E.q M U) (t e : TypeId) (ht : P.underlying t = some (.map K e)) (hz : ∀ w, (zeroValue e).run P w = .ok (.int .i64 0) w) (k : κ) :
    (Instr.lookup t (.map (some B)) (E.c k) false).run P w = .ok (.int .i64 (ctM E.q k U : Int)) w := by
  rw [run_lookup_M h t e ht _ hz k false, getV_I, hT k]
  rfl
end
end Go.Proofs.YtpmcjelihdlfeaaGreatDoor
/- The error of a number. -/
namespace Go.Proofs.YtpmcjelihdlfeaaGreatDoor

/-- The error of a number: none of 0. -/
def noV (n : Int) : Value := if n = 0 then .nilIface else .iface 57 (.int .i64 n)
theorem no_ok {n : Int} (h : n = 0) : noV n = .nilIface := by simp [noV, h]
theorem no_ne {n : Int} (h : n ≠ 0) : noV n = .iface 57 (.int .i64 n) := by simp [noV, h]
end Go.Proofs.YtpmcjelihdlfeaaGreatDoor
/- The struct api.Spot: its cells, slices of them, == of two, such that came in. Written by mk/struct.py. -/
namespace Go.Proofs.YtpmcjelihdlfeaaGreatDoor
open Go.ChangeShapes Go.WideShapes Go.ChangeAt Go.RowKit Go.Joins
set_option linter.unusedSimpArgs false
set_option linter.unusedVariables false
set_option maxRecDepth 100000

def spoE : Enc (Int × Int) where
  c := fun x => [.int .i64 x.1, .int .i64 x.2]
  n := 2
  len := fun _ => rfl
  pos := by decide
  one := by
    intro x u hu
    simp at hu
    rcases hu with rfl | rfl <;> rfl
theorem spo_cells {w : World} {g o : Nat} {x0 : Int} {x1 : Int} (h : VAt w g o (spoE.c (x0, x1))) : w.cell? ⟨g, o, none⟩ = some (.int .i64 x0) ∧ w.cell? ⟨g, o + 1, none⟩ = some (.int .i64 x1) :=
  ⟨h 0 _ rfl, h 1 _ rfl⟩
theorem spo_at {w : World} {g o : Nat} {L : List (Int × Int)} (h : GAt spoE w g o L) {n k : Nat} (hn : L.length = n) (hk : k < n) :
    ∃ (x0 : Int) (x1 : Int) (hl : k < L.length), L[k] = (x0, x1) ∧ w.cell? ⟨g, o + k * 2, none⟩ = some (.int .i64 x0) ∧ w.cell? ⟨g, o + k * 2 + 1, none⟩ = some (.int .i64 x1) :=
  have hl : k < L.length := by omega
  ⟨_, _, hl, rfl, spo_cells (h k hl)⟩
theorem spo_new (w : World) (x0 : Int) (x1 : Int) (t : TypeId) : VAt (w.alloc (Obj.cells #[.int .i64 x0, .int .i64 x1] t)) w.heap.size 0 (spoE.c (x0, x1)) := vat_new w [.int .i64 x0, .int .i64 x1] t
theorem spo_row (w : World) (x0 : Int) (x1 : Int) (t : TypeId) : GS spoE (w.alloc (Obj.cells #[.int .i64 x0, .int .i64 x1] t)) (.slice (some ⟨w.heap.size, 0, none⟩) 1 1) [(x0, x1)] := gs_one (E := spoE) w (x0, x1) t (vs := [.int .i64 x0, .int .i64 x1]) rfl
/-- Are two the same? -/
def spoB (a b : Int × Int) : Bool := (a.1 == b.1) && ((a.2 == b.2))
theorem spoB_iff (a b : Int × Int) : spoB a b = true ↔ a = b := by
  have e : spoB a b = ((a.1 == b.1) && ((a.2 == b.2))) := rfl
  rw [e]
  simp only [Bool.and_eq_true, beq_iff_eq]
  constructor
  · intro h
    obtain ⟨a0, a1⟩ := a; obtain ⟨b0, b1⟩ := b; simp at h ⊢; simp [h]
  · intro h
    subst h
    simp
theorem spo_ways (x0 : Int) (x1 : Int) (y0 : Int) (y1 : Int) :
    ((x0 == y0) = false ∧ spoB (x0, x1) (y0, y1) = false) ∨
    ((x0 == y0) = true ∧ (x1 == y1) = false ∧ spoB (x0, x1) (y0, y1) = false) ∨
    ((x0 == y0) = true ∧ (x1 == y1) = true ∧ spoB (x0, x1) (y0, y1) = true) := by
  have e : spoB (x0, x1) (y0, y1) = ((x0 == y0) && ((x1 == y1))) := rfl
  rw [e]
  cases h0 : (x0 == y0)
  · simp
  · skip
    cases h1 : (x1 == y1)
    · simp
    · skip
      simp
set_option maxRecDepth 100000 in
theorem spo_eq (x0 : Int) (x1 : Int) (y0 : Int) (y1 : Int) (w : World) : (Op.equal 80 (.agg #[.int .i64 x0, .int .i64 x1]) (.agg #[.int .i64 y0, .int .i64 y1])).run Tryz.prog w = .ok (spoB (x0, x1) (y0, y1)) w := by
  unfold Op.equal Op.maxDepth
  rw [run_equalIn_struct w 9999 _ _ _ (by kernel_rfl) (by kernel_rfl)]
  rcases spo_ways x0 x1 y0 y1 with ⟨e0, e⟩ | ⟨e0, e1, e⟩ | ⟨e0, e1, e⟩
  all_goals
    rw [e]
    go_simp
theorem spo_info : (Tryz.prog.info? 80).map (fun i => (i.zero, i.size, i.bytes)) = some (some (.agg #[.int .i64 0, .int .i64 0]), 2, 16) := by kernel_rfl
theorem spo_zero : (Value.agg #[.int .i64 0, .int .i64 0]).cells.size = 2 := by simp [Value.cells]
/-- Cells that read as one. -/
theorem spo_open {H : Type} {enc : TypeId × Value → H} {W : World} {n : Nat} {cs : List Value} {x : DataW H × List MemPlace}
    (h : DataW.trod enc Tryz.prog W 0 (fun _ => true) true n 80 cs = some x) : ∃ y, cs = spoE.c y := by
  obtain ⟨xs, k, _, _, hl, hlen, hf⟩ := DataW.trod_struct Tryz.underlying80 h
  have hC : Tryz.prog.cellsOf 80 = 2 := by kernel_rfl
  have hT0 : Tryz.prog.cellsOf 3 = 1 := by kernel_rfl
  rw [hC] at hl
  match cs, hl with
  | [c0, c1], _ =>
    match xs, hlen with
    | [z0, z1], _ =>
      have g0 := hf 0 _ rfl
      have g1 := hf 1 _ rfl
      simp [hT0] at g0 g1
      obtain ⟨v0, e0, _, _⟩ := DataW.trod_int Tryz.underlying3 g0
      obtain ⟨v1, e1, _, _⟩ := DataW.trod_int Tryz.underlying3 g1
      simp [] at e0 e1
      refine ⟨(v0, v1), ?_⟩
      simp [spoE, e0, e1]
set_option maxRecDepth 100000 in
/-- One that came in. -/
theorem spo_of {H : Type} {enc : TypeId × Value → H} {W : World} {base : Nat} {v : Value} {d : DataW H} {p : List MemPlace}
    (hv : Value.okWide Tryz.prog W .any base 80 v) (h : DataW.Trod enc Tryz.prog W 0 (fun _ => true) true 80 v d p) : ∃ (x0 : Int) (x1 : Int), v = .agg #[.int .i64 x0, .int .i64 x1] := by
  obtain ⟨cs, rfl, hsz⟩ := okWide_struct Tryz.underlying80 hv
  obtain ⟨n, hn⟩ := h
  obtain ⟨y, e⟩ := spo_open hn
  refine ⟨y.1, y.2, ?_⟩
  simp only [Value.cells] at e
  have e2 : cs = #[.int .i64 y.1, .int .i64 y.2] := by
    rw [← Array.toArray_toList (xs := cs), e]
    rfl
  rw [e2]
end Go.Proofs.YtpmcjelihdlfeaaGreatDoor
/- The struct api.Link: its cells, slices of them, == of two, such that came in. Written by mk/struct.py. -/
namespace Go.Proofs.YtpmcjelihdlfeaaGreatDoor
open Go.ChangeShapes Go.WideShapes Go.ChangeAt Go.RowKit Go.Joins
set_option linter.unusedSimpArgs false
set_option linter.unusedVariables false
set_option maxRecDepth 100000

def lnkE : Enc ((Int × Int) × (Int × Int)) where
  c := fun x => [.int .i64 x.1.1, .int .i64 x.1.2, .int .i64 x.2.1, .int .i64 x.2.2]
  n := 4
  len := fun _ => rfl
  pos := by decide
  one := by
    intro x u hu
    simp at hu
    rcases hu with rfl | rfl | rfl | rfl <;> rfl
theorem lnk_cells {w : World} {g o : Nat} {x0 : Int} {x1 : Int} {x2 : Int} {x3 : Int} (h : VAt w g o (lnkE.c ((x0, x1), (x2, x3)))) : w.cell? ⟨g, o, none⟩ = some (.int .i64 x0) ∧ w.cell? ⟨g, o + 1, none⟩ = some (.int .i64 x1) ∧ w.cell? ⟨g, o + 2, none⟩ = some (.int .i64 x2) ∧ w.cell? ⟨g, o + 3, none⟩ = some (.int .i64 x3) :=
  ⟨h 0 _ rfl, h 1 _ rfl, h 2 _ rfl, h 3 _ rfl⟩
theorem lnk_at {w : World} {g o : Nat} {L : List ((Int × Int) × (Int × Int))} (h : GAt lnkE w g o L) {n k : Nat} (hn : L.length = n) (hk : k < n) :
    ∃ (x0 : Int) (x1 : Int) (x2 : Int) (x3 : Int) (hl : k < L.length), L[k] = ((x0, x1), (x2, x3)) ∧ w.cell? ⟨g, o + k * 4, none⟩ = some (.int .i64 x0) ∧ w.cell? ⟨g, o + k * 4 + 1, none⟩ = some (.int .i64 x1) ∧ w.cell? ⟨g, o + k * 4 + 2, none⟩ = some (.int .i64 x2) ∧ w.cell? ⟨g, o + k * 4 + 3, none⟩ = some (.int .i64 x3) :=
  have hl : k < L.length := by omega
  ⟨_, _, _, _, hl, rfl, lnk_cells (h k hl)⟩
theorem lnk_new (w : World) (x0 : Int) (x1 : Int) (x2 : Int) (x3 : Int) (t : TypeId) : VAt (w.alloc (Obj.cells #[.int .i64 x0, .int .i64 x1, .int .i64 x2, .int .i64 x3] t)) w.heap.size 0 (lnkE.c ((x0, x1), (x2, x3))) := vat_new w [.int .i64 x0, .int .i64 x1, .int .i64 x2, .int .i64 x3] t
theorem lnk_row (w : World) (x0 : Int) (x1 : Int) (x2 : Int) (x3 : Int) (t : TypeId) : GS lnkE (w.alloc (Obj.cells #[.int .i64 x0, .int .i64 x1, .int .i64 x2, .int .i64 x3] t)) (.slice (some ⟨w.heap.size, 0, none⟩) 1 1) [((x0, x1), (x2, x3))] := gs_one (E := lnkE) w ((x0, x1), (x2, x3)) t (vs := [.int .i64 x0, .int .i64 x1, .int .i64 x2, .int .i64 x3]) rfl
/-- Are two the same? -/
def lnkB (a b : (Int × Int) × (Int × Int)) : Bool := (a.1.1 == b.1.1) && ((a.1.2 == b.1.2) && ((a.2.1 == b.2.1) && ((a.2.2 == b.2.2))))
theorem lnkB_iff (a b : (Int × Int) × (Int × Int)) : lnkB a b = true ↔ a = b := by
  have e : lnkB a b = ((a.1.1 == b.1.1) && ((a.1.2 == b.1.2) && ((a.2.1 == b.2.1) && ((a.2.2 == b.2.2))))) := rfl
  rw [e]
  simp only [Bool.and_eq_true, beq_iff_eq]
  constructor
  · intro h
    obtain ⟨⟨a0, a1⟩, ⟨a2, a3⟩⟩ := a; obtain ⟨⟨b0, b1⟩, ⟨b2, b3⟩⟩ := b; simp at h ⊢; simp [h]
  · intro h
    subst h
    simp
theorem lnk_ways (x0 : Int) (x1 : Int) (x2 : Int) (x3 : Int) (y0 : Int) (y1 : Int) (y2 : Int) (y3 : Int) :
    ((x0 == y0) = false ∧ lnkB ((x0, x1), (x2, x3)) ((y0, y1), (y2, y3)) = false) ∨
    ((x0 == y0) = true ∧ (x1 == y1) = false ∧ lnkB ((x0, x1), (x2, x3)) ((y0, y1), (y2, y3)) = false) ∨
    ((x0 == y0) = true ∧ (x1 == y1) = true ∧ (x2 == y2) = false ∧ lnkB ((x0, x1), (x2, x3)) ((y0, y1), (y2, y3)) = false) ∨
    ((x0 == y0) = true ∧ (x1 == y1) = true ∧ (x2 == y2) = true ∧ (x3 == y3) = false ∧ lnkB ((x0, x1), (x2, x3)) ((y0, y1), (y2, y3)) = false) ∨
    ((x0 == y0) = true ∧ (x1 == y1) = true ∧ (x2 == y2) = true ∧ (x3 == y3) = true ∧ lnkB ((x0, x1), (x2, x3)) ((y0, y1), (y2, y3)) = true) := by
  have e : lnkB ((x0, x1), (x2, x3)) ((y0, y1), (y2, y3)) = ((x0 == y0) && ((x1 == y1) && ((x2 == y2) && ((x3 == y3))))) := rfl
  rw [e]
  cases h0 : (x0 == y0)
  · simp
  · skip
    cases h1 : (x1 == y1)
    · simp
    · skip
      cases h2 : (x2 == y2)
      · simp
      · skip
        cases h3 : (x3 == y3)
        · simp
        · skip
          simp
set_option maxRecDepth 100000 in
theorem lnk_eq (x0 : Int) (x1 : Int) (x2 : Int) (x3 : Int) (y0 : Int) (y1 : Int) (y2 : Int) (y3 : Int) (w : World) : (Op.equal 101 (.agg #[.int .i64 x0, .int .i64 x1, .int .i64 x2, .int .i64 x3]) (.agg #[.int .i64 y0, .int .i64 y1, .int .i64 y2, .int .i64 y3])).run Tryz.prog w = .ok (lnkB ((x0, x1), (x2, x3)) ((y0, y1), (y2, y3))) w := by
  unfold Op.equal Op.maxDepth
  rw [run_equalIn_struct w 9999 _ _ _ (by kernel_rfl) (by kernel_rfl)]
  rcases lnk_ways x0 x1 x2 x3 y0 y1 y2 y3 with ⟨e0, e⟩ | ⟨e0, e1, e⟩ | ⟨e0, e1, e2, e⟩ | ⟨e0, e1, e2, e3, e⟩ | ⟨e0, e1, e2, e3, e⟩
  all_goals
    rw [e]
    go_simp
theorem lnk_info : (Tryz.prog.info? 101).map (fun i => (i.zero, i.size, i.bytes)) = some (some (.agg #[.int .i64 0, .int .i64 0, .int .i64 0, .int .i64 0]), 4, 32) := by kernel_rfl
theorem lnk_zero : (Value.agg #[.int .i64 0, .int .i64 0, .int .i64 0, .int .i64 0]).cells.size = 4 := by simp [Value.cells]
/-- Cells that read as one. -/
theorem lnk_open {H : Type} {enc : TypeId × Value → H} {W : World} {n : Nat} {cs : List Value} {x : DataW H × List MemPlace}
    (h : DataW.trod enc Tryz.prog W 0 (fun _ => true) true n 101 cs = some x) : ∃ y, cs = lnkE.c y := by
  obtain ⟨xs, k, _, _, hl, hlen, hf⟩ := DataW.trod_struct Tryz.underlying101 h
  have hC : Tryz.prog.cellsOf 101 = 4 := by kernel_rfl
  have hT0 : Tryz.prog.cellsOf 80 = 2 := by kernel_rfl
  rw [hC] at hl
  match cs, hl with
  | [c0, c1, c2, c3], _ =>
    match xs, hlen with
    | [z0, z1], _ =>
      have g0 := hf 0 _ rfl
      have g1 := hf 1 _ rfl
      simp [hT0] at g0 g1
      obtain ⟨s0, e0⟩ := spo_open g0
      obtain ⟨s1, e1⟩ := spo_open g1
      simp [spoE] at e0 e1
      refine ⟨((s0.1, s0.2), (s1.1, s1.2)), ?_⟩
      simp [lnkE, e0, e1]
set_option maxRecDepth 100000 in
/-- One that came in. -/
theorem lnk_of {H : Type} {enc : TypeId × Value → H} {W : World} {base : Nat} {v : Value} {d : DataW H} {p : List MemPlace}
    (hv : Value.okWide Tryz.prog W .any base 101 v) (h : DataW.Trod enc Tryz.prog W 0 (fun _ => true) true 101 v d p) : ∃ (x0 : Int) (x1 : Int) (x2 : Int) (x3 : Int), v = .agg #[.int .i64 x0, .int .i64 x1, .int .i64 x2, .int .i64 x3] := by
  obtain ⟨cs, rfl, hsz⟩ := okWide_struct Tryz.underlying101 hv
  obtain ⟨n, hn⟩ := h
  obtain ⟨y, e⟩ := lnk_open hn
  refine ⟨y.1.1, y.1.2, y.2.1, y.2.2, ?_⟩
  simp only [Value.cells] at e
  have e2 : cs = #[.int .i64 y.1.1, .int .i64 y.1.2, .int .i64 y.2.1, .int .i64 y.2.2] := by
    rw [← Array.toArray_toList (xs := cs), e]
    rfl
  rw [e2]
/-- A slice of them that came in. -/
theorem lnks_of {H : Type} {enc : TypeId × Value → H} {W : World} {base : Nat} {v : Value} {d : DataW H} {p : List MemPlace}
    (hv : Value.okWide Tryz.prog W .any base 22 v) (h : DataW.Trod enc Tryz.prog W 0 (fun _ => true) true 22 v d p) : ∃ L, GS lnkE W v L :=
  gs_of (E := lnkE) 22 101 Tryz.underlying22 (by kernel_rfl) ((0, 0), (0, 0)) (fun _ _ _ h => lnk_open h) hv h
end Go.Proofs.YtpmcjelihdlfeaaGreatDoor
/- What topo.lay answers: a contract for the walks above it. -/
namespace Go.Proofs.YtpmcjelihdlfeaaGreatDoor
open Go.RowKit
set_option linter.unusedSimpArgs false
set_option linter.unusedVariables false

/-- What holds of the map behind a link. -/
def LayQ (w w' : World) (B : Nat) (N : Int) (V : List (Int × Int)) : Prop := ∃ M', MAt spotKey veI w' B M' ∧ (N = 0 → TK sq M' V) ∧ But [B] w w'
set_option maxHeartbeats 1000000 in
set_option maxRecDepth 100000 in
theorem lay_ok (S x0 x1 x2 x3 : Int) (B : Nat) (M : List ((Int × Int) × Int)) (U : List (Int × Int)) (w : World) (hM : MAt spotKey veI w B M) (hT : TK sq M U) (hU : U.length ≤ 1000) (ha : spB S (x0, x1) = true) (hb : spB S (x2, x3) = true) (N : Int) (hN : N = lk1 S U ((x0, x1), (x2, x3))) :
    Calls Tryz.prog 42 #[.int .i64 S, .map (some B), .agg #[.int .i64 x0, .int .i64 x1, .int .i64 x2, .int .i64 x3]] w fun e w' => e = .returned (noV N) ∧ LayQ w w' B N (U ++ [(x0, x1), (x2, x3)]) := by
  have hlt := hM.lt
  have HN : Hid (N = lk1 S U ((x0, x1), (x2, x3))) := hN
  have hB0 : Below w.heap.size w (w.alloc (Obj.cells #[Value.int IntKind.i64 x0, Value.int IntKind.i64 x1, Value.int IntKind.i64 x2, Value.int IntKind.i64 x3] 101)) := (Below.refl _ _).alloc (Nat.le_refl _) _
  have HB0 : Hid (Below w.heap.size w (w.alloc (Obj.cells #[Value.int IntKind.i64 x0, Value.int IntKind.i64 x1, Value.int IntKind.i64 x2, Value.int IntKind.i64 x3] 101))) := hB0
  have HC := lnk_new w x0 x1 x2 x3 101
  have HM0 : Hid (MAt spotKey veI w B M) := hM
  have HT : Hid (TK sq M U) := hT
  have hne : ¬ w.heap.size = B := by omega
  clear hM hT hN hB0
  go_enter Tryz.func42, Tryz.ntmps42
  go_wp2_with fail
  refine (isSpot_any S x0 x1 _).mono ?_
  rintro e w1 ⟨rfl, hb1⟩
  rw [ha]
  have HB1 : Hid (Below w.heap.size w w1) := HB0.out.trans (hb1.mono HB0.out.size)
  have HC1 := HC.later hb1
  obtain ⟨c0, c1, c2, c3⟩ := lnk_cells HC1
  simp only [Nat.zero_add] at c0 c1 c2 c3
  clear hb1
  go_wp2_with fail
  refine (isSpot_any S x2 x3 _).mono ?_
  rintro e w2 ⟨rfl, hb2⟩
  rw [hb]
  have HB2 : Hid (Below w.heap.size w w2) := HB1.out.trans (hb2.mono HB1.out.size)
  have HC2 : Hid (VAt w2 w.heap.size 0 (lnkE.c ((x0, x1), (x2, x3)))) := HC1.later hb2
  have d0 := cell_later hb2 c0
  have d1 := cell_later hb2 c1
  have d2 := cell_later hb2 c2
  have d3 := cell_later hb2 c3
  have HM2 : Hid (MAt spotKey veI w2 B M) := (HM0.out.later HB2.out)
  clear hb2 HC1 HC c0 c1 c2 c3 HB1 HB0
  go_upto_region 3 with fail
  obtain ⟨cA, hcA⟩ : ∃ cA : Int, cA = (ctM sq (x0, x1) U : Int) := ⟨_, rfl⟩
  have HcA : Hid (cA = (ctM sq (x0, x1) U : Int)) := hcA
  have hcw : IntKind.i64.wrap (cA + 1) = cA + 1 := by
    have h1 := ct_le (q := sq) (x0, x1) U
    exact wrap_small (by omega) (by omega)
  clear hcA
  go_cut [] from 20 to 26 (fun w' => ∃ M1, MAt spotKey veI w' B M1 ∧ TK sq M1 (U ++ [(x0, x1)]) ∧ But [B] w2 w')
  case first =>
    have hMd : MAt spotKey veI w2.drew B M := HM2.out
    obtain ⟨v0, st, w3, hE, hg3, hM3, hS3⟩ := run_entry_M hMd 99 3 Tryz.underlying99 0 (fun w => by kernel_rfl) (x0, x1)
    obtain ⟨w4, hSt, hM4, hg4⟩ := hS3 w3 (cA + 1) rfl
    have hTK4 : Hid (TK sq (mput sq (x0, x1) (cA + 1) M) (U ++ [(x0, x1)])) := by
      show TK _ _ _
      rw [HcA.out]
      exact tk_put sq_iff HT.out _
    have HM4 : Hid (MAt spotKey veI w4 B (mput sq (x0, x1) (cA + 1) M)) := hM4
    have HBt : Hid (But [B] w2 w4) := ((But.refl [B] w2).drew.trans (But.of_grown hg3 (by simp))).trans (But.of_grown hg4 (by simp))
    have hl2 : (Instr.lookup 99 (.map (some B)) (.agg #[.int .i64 x0, .int .i64 x1]) false).run Tryz.prog w2.drew = .ok (.int .i64 cA) w2.drew := by
      rw [HcA.out]
      exact run_lookup_TK hMd HT.out 99 3 Tryz.underlying99 (fun w => by kernel_rfl) (x0, x1)
    have hl3 : (Instr.lookup 99 (.map (some B)) (.agg #[.int .i64 x0, .int .i64 x1]) false).run Tryz.prog w3 = .ok (.int .i64 cA) w3 := by
      have h := run_lookup_M hM3 99 3 Tryz.underlying99 (.int .i64 0) (fun w => by kernel_rfl) (x0, x1) false
      have e : mget spotKey.q (x0, x1) (mput spotKey.q (x0, x1) ((mget spotKey.q (x0, x1) M).getD 0) M) = some cA := by
        rw [mget_put spotKey.qeq, if_pos ((spotKey.qeq _ _).2 rfl), HcA.out]
        exact congrArg some (HT.out (x0, x1))
      rw [e] at h
      exact h
    have h1 : (Instr.mapEntry 99 (.map (some B)) (.agg #[.int .i64 x0, .int .i64 x1])).run Tryz.prog w2.drew = .ok (.tuple #[v0, .int .i64 (st : Int)]) w3 := hE
    have h3 : (Instr.entryStore 99 (.map (some B)) (.int .i64 (st : Int)) (.int .i64 (cA + 1))).run Tryz.prog w3 = .ok () w4 := hSt
    clear hE hS3 hSt hM3 hM4 hg3 hg4 hMd
    go_region
    go_wp2_with fail
    go_meet
    case rel => exact ⟨_, HM4.out, hTK4.out, HBt.out⟩
  case rest =>
    obtain ⟨M1, hM1, hT1, hBt1⟩ := hcut
    obtain ⟨w5, hw5⟩ : ∃ x, x = wc := ⟨_, rfl⟩
    subst hw5
    have hnB : w.heap.size ∉ [B] := by simp [hne]
    have hl2 : w.heap.size < w2.heap.size := World.block_lt_of_cell? _ _ d0
    have e0 := (hBt1.cell (p := ⟨w.heap.size, 0, none⟩) hl2 hnB).trans d0
    have e1 := (hBt1.cell (p := ⟨w.heap.size, 1, none⟩) hl2 hnB).trans d1
    have e2 := (hBt1.cell (p := ⟨w.heap.size, 2, none⟩) hl2 hnB).trans d2
    have e3 := (hBt1.cell (p := ⟨w.heap.size, 3, none⟩) hl2 hnB).trans d3
    have HM5 : Hid (MAt spotKey veI w5 B M1) := hM1
    have HT5 : Hid (TK sq M1 (U ++ [(x0, x1)])) := hT1
    have HBt5 : Hid (But [B] w w5) := (But.of_below (HB2.out)).trans hBt1
    clear hM1 hT1 hBt1 d0 d1 d2 d3 HM2 HC2 hcw HcA hnB hl2
    obtain ⟨cB, hcB⟩ : ∃ cB : Int, cB = (ctM sq (x2, x3) (U ++ [(x0, x1)]) : Int) := ⟨_, rfl⟩
    have HcB : Hid (cB = (ctM sq (x2, x3) (U ++ [(x0, x1)]) : Int)) := hcB
    have hcw : IntKind.i64.wrap (cB + 1) = cB + 1 := by
      have h1 := ct_le (q := sq) (x2, x3) (U ++ [(x0, x1)])
      simp only [List.length_append, List.length_singleton] at h1
      exact wrap_small (by omega) (by omega)
    clear hcB
    go_upto_region 4 with fail
    go_cut [] from 27 to 33 (fun w' => ∃ M2, MAt spotKey veI w' B M2 ∧ TK sq M2 (U ++ [(x0, x1)] ++ [(x2, x3)]) ∧ But [B] w5 w')
    case first =>
      have hMd : MAt spotKey veI w5.drew B M1 := HM5.out
      obtain ⟨v0, st, w3, hE, hg3, hM3, hS3⟩ := run_entry_M hMd 99 3 Tryz.underlying99 0 (fun w => by kernel_rfl) (x2, x3)
      obtain ⟨w4, hSt, hM4, hg4⟩ := hS3 w3 (cB + 1) rfl
      have hTK4 : Hid (TK sq (mput sq (x2, x3) (cB + 1) M1) (U ++ [(x0, x1)] ++ [(x2, x3)])) := by
        show TK _ _ _
        rw [HcB.out]
        exact tk_put sq_iff HT5.out _
      have HM4 : Hid (MAt spotKey veI w4 B (mput sq (x2, x3) (cB + 1) M1)) := hM4
      have HBt : Hid (But [B] w5 w4) := ((But.refl [B] w5).drew.trans (But.of_grown hg3 (by simp))).trans (But.of_grown hg4 (by simp))
      have hl2 : (Instr.lookup 99 (.map (some B)) (.agg #[.int .i64 x2, .int .i64 x3]) false).run Tryz.prog w5.drew = .ok (.int .i64 cB) w5.drew := by
        rw [HcB.out]
        exact run_lookup_TK hMd HT5.out 99 3 Tryz.underlying99 (fun w => by kernel_rfl) (x2, x3)
      have hl3 : (Instr.lookup 99 (.map (some B)) (.agg #[.int .i64 x2, .int .i64 x3]) false).run Tryz.prog w3 = .ok (.int .i64 cB) w3 := by
        have h := run_lookup_M hM3 99 3 Tryz.underlying99 (.int .i64 0) (fun w => by kernel_rfl) (x2, x3) false
        have e : mget spotKey.q (x2, x3) (mput spotKey.q (x2, x3) ((mget spotKey.q (x2, x3) M1).getD 0) M1) = some cB := by
          rw [mget_put spotKey.qeq, if_pos ((spotKey.qeq _ _).2 rfl), HcB.out]
          exact congrArg some (HT5.out (x2, x3))
        rw [e] at h
        exact h
      have h1 : (Instr.mapEntry 99 (.map (some B)) (.agg #[.int .i64 x2, .int .i64 x3])).run Tryz.prog w5.drew = .ok (.tuple #[v0, .int .i64 (st : Int)]) w3 := hE
      have h3 : (Instr.entryStore 99 (.map (some B)) (.int .i64 (st : Int)) (.int .i64 (cB + 1))).run Tryz.prog w3 = .ok () w4 := hSt
      clear hE hS3 hSt hM3 hM4 hg3 hg4 hMd
      go_region
      go_wp2_with fail
      go_meet
      case rel => exact ⟨_, HM4.out, hTK4.out, HBt.out⟩
    case rest =>
      obtain ⟨M2, hM2, hT2, hBt2⟩ := hcut
      have hnB : w.heap.size ∉ [B] := by simp [hne]
      have hl2 : w.heap.size < w5.heap.size := World.block_lt_of_cell? _ _ e0
      have f0 := (hBt2.cell (p := ⟨w.heap.size, 0, none⟩) hl2 hnB).trans e0
      have f1 := (hBt2.cell (p := ⟨w.heap.size, 1, none⟩) hl2 hnB).trans e1
      have f2 := (hBt2.cell (p := ⟨w.heap.size, 2, none⟩) hl2 hnB).trans e2
      have f3 := (hBt2.cell (p := ⟨w.heap.size, 3, none⟩) hl2 hnB).trans e3
      have HM6 : Hid (MAt spotKey veI wc B M2) := hM2
      have HT6 : Hid (TK sq M2 (U ++ [(x0, x1), (x2, x3)])) := by
        show TK _ _ _
        simpa using hT2
      have HBt6 : Hid (But [B] w wc) := HBt5.out.trans hBt2
      obtain ⟨pA, hpA⟩ : ∃ p : Int, p = (ctM sq (x0, x1) (U ++ [(x0, x1)] ++ [(x2, x3)]) : Int) := ⟨_, rfl⟩
      obtain ⟨pB, hpB⟩ : ∃ p : Int, p = (ctM sq (x2, x3) (U ++ [(x0, x1)] ++ [(x2, x3)]) : Int) := ⟨_, rfl⟩
      have hlA : (Instr.lookup 99 (.map (some B)) (.agg #[.int .i64 x0, .int .i64 x1]) false).run Tryz.prog wc = .ok (.int .i64 pA) wc := by
        rw [hpA]
        exact run_lookup_TK hM2 hT2 99 3 Tryz.underlying99 (fun w => by kernel_rfl) (x0, x1)
      have hlB : (Instr.lookup 99 (.map (some B)) (.agg #[.int .i64 x2, .int .i64 x3]) false).run Tryz.prog wc = .ok (.int .i64 pB) wc := by
        rw [hpB]
        exact run_lookup_TK hM2 hT2 99 3 Tryz.underlying99 (fun w => by kernel_rfl) (x2, x3)
      have HL : Hid (N = if (decide ((1 : Int) < pA) || decide ((1 : Int) < pB)) = true then 7 else 0) := by
        show _ = _
        rw [HN.out, hpA, hpB, ct_link, lk1]
        simp only [ha, hb, Bool.and_self, if_true]
      clear hM2 hT2 hBt2 e0 e1 e2 e3 hnB hl2 hcw HcB HM5 HT5 HBt5 hpA hpB ha hb
      by_cases h1 : 1 < pA
      · have e7 : N = 7 := by rw [HL.out]; simp [h1]
        subst e7
        go_wp2
        go_ret
        exact ⟨rfl, M2, HM6.out, fun e => absurd e (by decide), HBt6.out⟩
      · by_cases h2 : 1 < pB
        · have e7 : N = 7 := by rw [HL.out]; simp [h2]
          subst e7
          go_wp2
          go_ret
          exact ⟨rfl, M2, HM6.out, fun e => absurd e (by decide), HBt6.out⟩
        · have e7 : N = 0 := by rw [HL.out]; simp [h1, h2]
          subst e7
          go_wp2
          go_ret
          exact ⟨rfl, M2, HM6.out, fun _ => HT6.out, HBt6.out⟩
set_option maxHeartbeats 1000000 in
set_option maxRecDepth 100000 in
theorem lay_bad (S x0 x1 x2 x3 : Int) (B : Nat) (w : World) (h : (spB S (x0, x1) && spB S (x2, x3)) = false) :
    Calls Tryz.prog 42 #[.int .i64 S, .map (some B), .agg #[.int .i64 x0, .int .i64 x1, .int .i64 x2, .int .i64 x3]] w fun e w' => e = .returned (.iface 57 (.int .i64 1)) ∧ Below w.heap.size w w' := by
  have HB0 : Hid (Below w.heap.size w (w.alloc (Obj.cells #[Value.int IntKind.i64 x0, Value.int IntKind.i64 x1, Value.int IntKind.i64 x2, Value.int IntKind.i64 x3] 101))) := (Below.refl _ _).alloc (Nat.le_refl _) _
  have HC := lnk_new w x0 x1 x2 x3 101
  cases ha : spB S (x0, x1)
  · clear h
    go_enter Tryz.func42, Tryz.ntmps42
    go_wp2_with fail
    refine (isSpot_any S x0 x1 _).mono ?_
    rintro e w1 ⟨rfl, hb1⟩
    rw [ha]
    have HB1 : Hid (Below w.heap.size w w1) := HB0.out.trans (hb1.mono HB0.out.size)
    clear hb1 HC
    go_wp2
    go_ret
    exact ⟨rfl, HB1.out⟩
  · have hb : spB S (x2, x3) = false := by rw [ha, Bool.true_and] at h; exact h
    clear h
    go_enter Tryz.func42, Tryz.ntmps42
    go_wp2_with fail
    refine (isSpot_any S x0 x1 _).mono ?_
    rintro e w1 ⟨rfl, hb1⟩
    rw [ha]
    have HB1 : Hid (Below w.heap.size w w1) := HB0.out.trans (hb1.mono HB0.out.size)
    obtain ⟨c0, c1, c2, c3⟩ := lnk_cells (HC.later hb1)
    simp only [Nat.zero_add] at c0 c1 c2 c3
    clear hb1 HC
    go_wp2_with fail
    refine (isSpot_any S x2 x3 _).mono ?_
    rintro e w2 ⟨rfl, hb2⟩
    rw [hb]
    have HB2 : Hid (Below w.heap.size w w2) := HB1.out.trans (hb2.mono HB1.out.size)
    clear hb2
    go_wp2
    go_ret
    exact ⟨rfl, HB2.out⟩
theorem lay_any (S x0 x1 x2 x3 : Int) (B : Nat) (M : List ((Int × Int) × Int)) (U : List (Int × Int)) (w : World) (hM : MAt spotKey veI w B M) (hT : TK sq M U) (hU : U.length ≤ 1000) :
    Calls Tryz.prog 42 #[.int .i64 S, .map (some B), .agg #[.int .i64 x0, .int .i64 x1, .int .i64 x2, .int .i64 x3]] w fun e w' => e = .returned (noV (lk1 S U ((x0, x1), (x2, x3)))) ∧ LayQ w w' B (lk1 S U ((x0, x1), (x2, x3))) (U ++ [(x0, x1), (x2, x3)]) := by
  cases h : (spB S (x0, x1) && spB S (x2, x3))
  · refine (lay_bad S x0 x1 x2 x3 B w h).mono ?_
    rintro e w' ⟨rfl, hb⟩
    have e1 : lk1 S U ((x0, x1), (x2, x3)) = 1 := by simp only [lk1, h, Bool.false_eq_true, if_false]
    rw [e1]
    exact ⟨rfl, M, hM.later hb, fun e => absurd e (by decide), But.of_below hb⟩
  · simp only [Bool.and_eq_true] at h
    exact lay_ok S x0 x1 x2 x3 B M U w hM hT hU h.1 h.2 _ rfl
end Go.Proofs.YtpmcjelihdlfeaaGreatDoor
/- What package slices answers at slices of []byte,byte. Written by mk/scalar.py. -/
namespace Go.Proofs.YtpmcjelihdlfeaaGreatDoor
open Go.RowKit
set_option linter.unusedSimpArgs false
set_option linter.unusedVariables false

def byE : Enc (UInt8) where
  c := fun x => [.int .u8 (x.toNat : Int)]
  n := 1
  len := fun _ => rfl
  pos := by decide
  one := by
    intro x u hu
    simp at hu
    subst hu
    rfl
theorem by_at {w : World} {g o : Nat} {L : List (UInt8)} (h : GAt byE w g o L) {n k : Nat} (hn : L.length = n) (hk : k < n) : ∃ (x : UInt8) (hl : k < L.length), L[k] = x ∧ w.cell? ⟨g, o + k, none⟩ = some (.int .u8 (x.toNat : Int)) := by
  have hl : k < L.length := by omega
  have := h k hl 0 _ rfl
  refine ⟨_, hl, rfl, ?_⟩
  have e : o + k * byE.n + 0 = o + k := by show o + k * 1 + 0 = o + k; omega
  rw [e] at this
  exact this
/-- A closure that asks something, in whatever world behind this one. -/
def byAsks (w : World) (f : FuncId) (P : UInt8 → Bool) : Prop :=
  ∀ (x : UInt8) (W : World), Below w.heap.size w W → Calls Tryz.prog f #[.int .u8 (x.toNat : Int)] W fun e w' => e = .returned (.bool (P x)) ∧ Below W.heap.size W w'
theorem byAsks.later {w w' : World} {f : FuncId} {P : UInt8 → Bool} (h : byAsks w f P) (hb : Below w.heap.size w w') : byAsks w' f P :=
  fun x W hW => h x W (hb.trans (hW.mono hb.size))

set_option maxHeartbeats 1000000 in
theorem by_idxF (ao : Option Addr) (n cap : Nat) (f : FuncId) (P : UInt8 → Bool) (L : List (UInt8)) (w : World) (hn : L.length = n) (hn2 : n ≤ maxLen) (ha : 0 < n → ∃ g o, ao = some ⟨g, o, none⟩ ∧ GAt byE w g o L ∧ cap ≤ maxLen) (he : ∀ args w, (callFunc f args).run Tryz.prog w = .ok (.enter f args) w) (hf : byAsks w f P) :
    Calls Tryz.prog 104 #[.slice ao n cap, .func (Fn.func f) #[] #[]] w fun e w' => e = .returned (.int .i64 (ixG P L)) ∧ Below w.heap.size w w' := by
  have HN : Hid (L.length = n) := hn
  have HF : Hid (byAsks w f P) := hf
  have HA : Hid (0 < n → ∃ g o, ao = some ⟨g, o, none⟩ ∧ GAt byE w g o L ∧ cap ≤ maxLen) := ha
  unfold maxLen at hn2
  clear hn hf ha
  go_enter Tryz.func104, Tryz.ntmps104
  go_wp2
  go_loopw [8] (fun i wr => ∃ k : Nat, k ≤ n ∧ i = .int .i64 k ∧ (L.take k).any P = false ∧ Below w.heap.size w wr)
    (fun i _ => n - (intOf i).toNat)
  case atStart => exact ⟨0, by omega, rfl, by simp, Below.refl _ _⟩
  case round =>
    obtain ⟨k, hk, rfl, hno, hB⟩ := hrel
    have HB : Hid (Below w.heap.size w wr) := hB
    have HNO : Hid ((L.take k).any P = false) := hno
    clear hno
    by_cases hlt : k < n
    · obtain ⟨g, o, hao, hc, _⟩ := HA.out (by omega)
      subst hao
      obtain ⟨x, hkl, hL, q0⟩ := by_at (hc.later hB) HN.out hlt
      have HL : Hid (L[k] = x) := hL
      clear hL hB
      cases ho : P x
      · go_wp2_with fail
        refine (HF.out x _ HB.out).mono ?_
        rintro e w1 ⟨rfl, hb1⟩
        rw [ho]
        have HB1 := HB.out.trans (hb1.mono HB.out.size)
        clear hb1
        go_wp2
        go_roundw
        case rel => exact ⟨k + 1, by omega, by go_num, any_nextG hkl HNO.out (by rw [HL.out]; exact ho), HB1⟩
        case measure => simp [intOf]; omega
      · go_wp2_with fail
        refine (HF.out x _ HB.out).mono ?_
        rintro e w1 ⟨rfl, hb1⟩
        rw [ho]
        go_wp2
        go_ret
        exact ⟨by rw [ixG_hit hkl HNO.out (by rw [HL.out]; exact ho)]; rfl, HB.out.trans (hb1.mono HB.out.size)⟩
    · obtain rfl : k = n := by omega
      go_wp2
      go_ret
      exact ⟨by have := HNO.out; rw [← HN.out, List.take_length] at this; rw [ixG_no this]; rfl, HB.out⟩

set_option maxHeartbeats 1000000 in
theorem by_hasF (ao : Option Addr) (n cap : Nat) (f : FuncId) (P : UInt8 → Bool) (L : List (UInt8)) (w : World) (hn : L.length = n) (hn2 : n ≤ maxLen) (ha : 0 < n → ∃ g o, ao = some ⟨g, o, none⟩ ∧ GAt byE w g o L ∧ cap ≤ maxLen) (he : ∀ args w, (callFunc f args).run Tryz.prog w = .ok (.enter f args) w) (hf : byAsks w f P) :
    Calls Tryz.prog 74 #[.slice ao n cap, .func (Fn.func f) #[] #[]] w fun e w' => e = .returned (.bool (L.any P)) ∧ Below w.heap.size w w' := by
  rw [← ixG_any]
  obtain ⟨x, hx⟩ : ∃ x, x = ixG P L := ⟨_, rfl⟩
  have HX : Hid (x = ixG P L) := hx
  rw [← hx]
  clear hx
  go_enter Tryz.func74, Tryz.ntmps74
  go_wp2_with fail
  refine (by_idxF ao n cap f P L _ hn hn2 ha he hf).mono ?_
  rintro e w1 ⟨rfl, hb1⟩
  rw [← HX.out]
  go_wp2
  go_ret
  exact ⟨rfl, hb1⟩
end Go.Proofs.YtpmcjelihdlfeaaGreatDoor
