/- Contracts and facts on the way to NetWalks, joined into one text: TopoMath2, TopoCon, SpotKey, Err, StSpot, StLink, TopoLay, SlByte, TopoName, StHost, TopoSettle. -/
import Derived.Test.YtpmcjelihdlfeaaNetWalksP1
import Derived.Test.YtpmcjelihdlfeaaRows
import Derived.WalkKit
import Derived.WalkSpells
import Derived.Below
import Derived.BigQuiet
import Derived.Deep.QuietTactic
import Derived.DeepKeys3
import Derived.Lib.SmallJoins
import Derived.Laws.StructEq
import Derived.Maps.OwnOps
import Derived.BigRegion
import Derived.Deep.CutRange
import Derived.Deep.CutBlock
import Derived.Shelf.Abstract
import Derived.Laws.IdiomStrings
/- Who is where, by the place in a list; who is at the other end, by a map; a line of switches: plain lists. No program in it. -/
namespace Go.Proofs.Ytpmcjelihdlfeaa
open Go.RowKit
set_option linter.unusedVariables false

theorem at_ix (Hs : List (ByteArray × (Int × Int))) (s : Int × Int) : (ixG (fun h => sq h.2 s) Hs = -1 ∧ atO Hs s = none) ∨ ∃ (k : Nat) (hk : k < Hs.length), ixG (fun h => sq h.2 s) Hs = k ∧ atO Hs s = some Hs[k].1 := by
  induction Hs with
  | nil => exact .inl ⟨rfl, rfl⟩
  | cons h Hs ih =>
    rw [atO]
    by_cases e : sq h.2 s = true
    · refine .inr ⟨0, by simp, ?_, ?_⟩
      · exact ixG_hit (L := h :: Hs) (k := 0) (by simp) (by simp) e
      · have e2 := (sq_iff _ _).1 e
        rw [if_pos (by rw [e2]; exact beq_self_eq_true _)]
        rfl
    · have en : ¬ (h.2 == s) = true := fun h2 => e ((sq_iff _ _).2 (by simpa using h2))
      rw [if_neg en]
      have ef : sq h.2 s = false := by simpa using e
      rcases ih with ⟨h1, h2⟩ | ⟨k, hk, h1, h2⟩
      · refine .inl ⟨?_, h2⟩
        unfold ixG at h1 ⊢
        rw [List.any_cons, ef, Bool.false_or]
        cases ha : Hs.any fun h => sq h.2 s
        · rfl
        · rw [ha, if_pos rfl] at h1
          omega
      · refine .inr ⟨k + 1, by simp; omega, ?_, by simpa using h2⟩
        unfold ixG at h1 ⊢
        rw [List.any_cons, ef, Bool.false_or]
        cases ha : Hs.any fun h => sq h.2 s
        · rw [ha] at h1
          simp at h1
        · rw [ha, if_pos rfl] at h1
          rw [if_pos rfl, List.findIdx_cons, ef]
          simp
          omega
theorem where_ix (Hs : List (ByteArray × (Int × Int))) (n : ByteArray) : (ixG (fun h => h.1 == n) Hs = -1 ∧ whereO Hs n = none) ∨ ∃ (k : Nat) (hk : k < Hs.length), ixG (fun h => h.1 == n) Hs = k ∧ whereO Hs n = some Hs[k].2 := by
  induction Hs with
  | nil => exact .inl ⟨rfl, rfl⟩
  | cons h Hs ih =>
    rw [whereO]
    by_cases e : (h.1 == n) = true
    · refine .inr ⟨0, by simp, ?_, ?_⟩
      · exact ixG_hit (L := h :: Hs) (k := 0) (by simp) (by simp) e
      · rw [if_pos e]
        rfl
    · rw [if_neg e]
      have ef : (h.1 == n) = false := by
        cases hh : (h.1 == n)
        · rfl
        · exact absurd hh e
      rcases ih with ⟨h1, h2⟩ | ⟨k, hk, h1, h2⟩
      · refine .inl ⟨?_, h2⟩
        unfold ixG at h1 ⊢
        rw [List.any_cons, ef, Bool.false_or]
        cases ha : Hs.any fun h => h.1 == n
        · rfl
        · rw [ha, if_pos rfl] at h1
          omega
      · refine .inr ⟨k + 1, by simp; omega, ?_, by simpa using h2⟩
        unfold ixG at h1 ⊢
        rw [List.any_cons, ef, Bool.false_or]
        cases ha : Hs.any fun h => h.1 == n
        · rw [ha] at h1
          simp at h1
        · rw [ha, if_pos rfl] at h1
          rw [if_pos rfl, List.findIdx_cons, ef]
          simp
          omega
/-- The answers' numbers. -/
def atN (Hs : List (ByteArray × (Int × Int))) (s : Int × Int) : Int := ixG (fun h => sq h.2 s) Hs
def whN (Hs : List (ByteArray × (Int × Int))) (n : ByteArray) : Int := ixG (fun h => h.1 == n) Hs
theorem peer_app (l : (Int × Int) × (Int × Int)) (s : Int × Int) : ∀ Ls : List ((Int × Int) × (Int × Int)), peerO (Ls ++ [l]) s = match peerO Ls s with | some p => some p | none => if l.1 == s then some l.2 else if l.2 == s then some l.1 else none
  | [] => by simp [peerO]
  | x :: Ls => by
    rw [List.cons_append, peerO, peerO]
    by_cases h1 : (x.1 == s) = true
    · rw [if_pos h1, if_pos h1]
    · rw [if_neg h1, if_neg h1]
      by_cases h2 : (x.2 == s) = true
      · rw [if_pos h2, if_pos h2]
      · rw [if_neg h2, if_neg h2]
        exact peer_app l s Ls
/-- A map that has for each spot of these links the other end. -/
def PM (M : List ((Int × Int) × (Int × Int))) (Ls : List ((Int × Int) × (Int × Int))) : Prop := ∀ s, mget sq s M = peerO Ls s
theorem pm_nil : PM [] [] := fun s => rfl
theorem pm_put {M Ls : List ((Int × Int) × (Int × Int))} {x y : Int × Int} (h : PM M Ls) (hd : (spsL (Ls ++ [(x, y)])).Nodup) : PM (mput sq y x (mput sq x y M)) (Ls ++ [(x, y)]) := by
  have e : spsL (Ls ++ [(x, y)]) = spsL Ls ++ [x, y] := by simp [spsL]
  rw [e, List.nodup_append] at hd
  obtain ⟨_, h2, h3⟩ := hd
  have hxy : ¬ x = y := by simpa using h2
  have hno : ∀ z, z = x ∨ z = y → peerO Ls z = none := by
    intro z hz
    cases hp : peerO Ls z with
    | none => rfl
    | some p => exact absurd rfl (h3 z (peer_in hp).1 z (by rcases hz with rfl | rfl <;> simp))
  intro s
  rw [mget_put sq_iff, mget_put sq_iff, peer_app]
  by_cases e1 : s = y
  · subst e1
    rw [if_pos ((sq_iff _ _).2 rfl), hno s (.inr rfl)]
    simp [hxy]
  · rw [if_neg (fun e => e1 ((sq_iff _ _).1 e))]
    by_cases e2 : s = x
    · subst e2
      rw [if_pos ((sq_iff _ _).2 rfl), hno s (.inl rfl)]
      simp
    · rw [if_neg (fun e => e2 ((sq_iff _ _).1 e)), h s]
      cases hp : peerO Ls s with
      | some p => rfl
      | none =>
        have n1 : ¬ x = s := fun e => e2 e.symm
        have n2 : ¬ y = s := fun e => e1 e.symm
        simp [n1, n2]
theorem sps_app (Ls Ms : List ((Int × Int) × (Int × Int))) : spsL (Ls ++ Ms) = spsL Ls ++ spsL Ms := by simp [spsL]
theorem sps_nd {Ls : List ((Int × Int) × (Int × Int))} (h : (spsL Ls).Nodup) (k : Nat) : (spsL (Ls.take k)).Nodup := by
  have e : Ls = Ls.take k ++ Ls.drop k := (List.take_append_drop k Ls).symm
  rw [e, sps_app, List.nodup_append] at h
  exact h.1
/-- How far it is in a topology, from one switch to another one. -/
def faN (S : Int) (Ls : List ((Int × Int) × (Int × Int))) (a b : Int) : Int := farN S.toNat (fun x y => joinB Ls x y) a.toNat b.toNat
/-- Is there such a switch? -/
def swB (S a : Int) : Bool := decide (1 ≤ a) && decide (a ≤ S)
/-- The fault of a question at a spot. -/
def csN (S : Int) (Ls : List ((Int × Int) × (Int × Int))) (Hs : List (ByteArray × (Int × Int))) (s : Int × Int) : Int := if tpN S Ls Hs = 0 then (if spB S s then 0 else 1) else tpN S Ls Hs
def peN (S : Int) (Ls : List ((Int × Int) × (Int × Int))) (Hs : List (ByteArray × (Int × Int))) (s : Int × Int) : Int := if csN S Ls Hs s = 0 then (if (peerO Ls s).isSome then 0 else 5) else csN S Ls Hs s
def peV (S : Int) (Ls : List ((Int × Int) × (Int × Int))) (Hs : List (ByteArray × (Int × Int))) (s : Int × Int) : Int × Int := if peN S Ls Hs s = 0 then (peerO Ls s).getD (0, 0) else (0, 0)
def asN (S : Int) (Ls : List ((Int × Int) × (Int × Int))) (Hs : List (ByteArray × (Int × Int))) (s : Int × Int) : Int := if csN S Ls Hs s = 0 then (if (atO Hs s).isSome then 0 else 5) else csN S Ls Hs s
def asV (S : Int) (Ls : List ((Int × Int) × (Int × Int))) (Hs : List (ByteArray × (Int × Int))) (s : Int × Int) : ByteArray := if asN S Ls Hs s = 0 then (atO Hs s).getD ByteArray.empty else ByteArray.empty
def weN (S : Int) (Ls : List ((Int × Int) × (Int × Int))) (Hs : List (ByteArray × (Int × Int))) (n : ByteArray) : Int := if tpN S Ls Hs = 0 then (if (whereO Hs n).isSome then 0 else 5) else tpN S Ls Hs
def weV (S : Int) (Ls : List ((Int × Int) × (Int × Int))) (Hs : List (ByteArray × (Int × Int))) (n : ByteArray) : Int × Int := if weN S Ls Hs n = 0 then (whereO Hs n).getD (0, 0) else (0, 0)
/-- The fault of a question at switches. -/
def cwN (S : Int) (Ls : List ((Int × Int) × (Int × Int))) (Hs : List (ByteArray × (Int × Int))) (l : List Int) : Int := if tpN S Ls Hs = 0 then (if l.any fun a => !swB S a then 1 else 0) else tpN S Ls Hs
def neL (S : Int) (Ls : List ((Int × Int) × (Int × Int))) (Hs : List (ByteArray × (Int × Int))) (a : Int) : List Int := if cwN S Ls Hs [a] = 0 then nrL S Ls a else []
def fsN (S : Int) (Ls : List ((Int × Int) × (Int × Int))) (Hs : List (ByteArray × (Int × Int))) (a b : Int) : Int := if cwN S Ls Hs [a, b] = 0 then (if 0 ≤ faN S Ls a b then 0 else 5) else cwN S Ls Hs [a, b]
def fsV (S : Int) (Ls : List ((Int × Int) × (Int × Int))) (Hs : List (ByteArray × (Int × Int))) (a b : Int) : Int := if fsN S Ls Hs a b = 0 then faN S Ls a b else 0
theorem sw_of {S a : Int} : swB S a = true ↔ 1 ≤ a ∧ a ≤ S := by simp [swB]
theorem cw_0 {S : Int} {Ls : List ((Int × Int) × (Int × Int))} {Hs : List (ByteArray × (Int × Int))} {l : List Int} : cwN S Ls Hs l = 0 ↔ tpN S Ls Hs = 0 ∧ ∀ a ∈ l, 1 ≤ a ∧ a ≤ S := by
  unfold cwN
  by_cases h : tpN S Ls Hs = 0
  · rw [if_pos h]
    cases ha : l.any fun a => !swB S a
    · simp only [Bool.false_eq_true, if_false, true_iff]
      refine ⟨h, fun a hm => ?_⟩
      rw [List.any_eq_false] at ha
      have := ha a hm
      exact sw_of.1 (by simpa using this)
    · simp only [if_true]
      refine ⟨fun e => absurd e (by decide), fun ⟨_, e⟩ => ?_⟩
      rw [List.any_eq_true] at ha
      obtain ⟨a, hm, hn⟩ := ha
      have := sw_of.2 (e a hm)
      rw [this] at hn
      cases hn
  · rw [if_neg h]
    exact ⟨fun e => absurd e h, fun e => e.1⟩
theorem fs_0 {S : Int} {Ls : List ((Int × Int) × (Int × Int))} {Hs : List (ByteArray × (Int × Int))} {a b : Int} : fsN S Ls Hs a b = 0 ↔ (tpN S Ls Hs = 0 ∧ (1 ≤ a ∧ a ≤ S) ∧ (1 ≤ b ∧ b ≤ S)) ∧ 0 ≤ faN S Ls a b := by
  unfold fsN
  by_cases h : cwN S Ls Hs [a, b] = 0
  · rw [if_pos h]
    have h2 := cw_0.1 h
    have h3 : tpN S Ls Hs = 0 ∧ (1 ≤ a ∧ a ≤ S) ∧ (1 ≤ b ∧ b ≤ S) := ⟨h2.1, h2.2 a (by simp), h2.2 b (by simp)⟩
    by_cases hf : 0 ≤ faN S Ls a b
    · rw [if_pos hf]; exact ⟨fun _ => ⟨h3, hf⟩, fun _ => rfl⟩
    · rw [if_neg hf]; exact ⟨fun e => absurd e (by decide), fun e => absurd e.2 hf⟩
  · rw [if_neg h]
    refine ⟨fun e => absurd e h, fun e => absurd (cw_0.2 ⟨e.1.1, ?_⟩) h⟩
    intro x hx
    simp at hx
    rcases hx with rfl | rfl
    · exact e.1.2.1
    · exact e.1.2.2
/-- As far back. -/
theorem fs_sy (S : Int) (Ls : List ((Int × Int) × (Int × Int))) (Hs : List (ByteArray × (Int × Int))) (a b : Int) : (fsN S Ls Hs a b = 0 ↔ fsN S Ls Hs b a = 0) ∧ fsV S Ls Hs a b = fsV S Ls Hs b a := by
  have key : tpN S Ls Hs = 0 → (1 ≤ a ∧ a ≤ S) → (1 ≤ b ∧ b ≤ S) → faN S Ls a b = faN S Ls b a := fun h ha hb => by
    have := tp_0 h
    exact far_sy (fun x y => join_sy Ls x y) (by omega) (by omega) (by omega) (by omega) (by omega)
  have hi : fsN S Ls Hs a b = 0 ↔ fsN S Ls Hs b a = 0 := by
    rw [fs_0, fs_0]
    constructor
    · rintro ⟨⟨h, ha, hb⟩, hf⟩
      exact ⟨⟨h, hb, ha⟩, by rw [← key h ha hb]; exact hf⟩
    · rintro ⟨⟨h, hb, ha⟩, hf⟩
      exact ⟨⟨h, ha, hb⟩, by rw [key h ha hb]; exact hf⟩
  refine ⟨hi, ?_⟩
  unfold fsV
  by_cases h : fsN S Ls Hs a b = 0
  · rw [if_pos h, if_pos (hi.1 h)]
    have h2 := (fs_0.1 h).1
    exact key h2.1 h2.2.1 h2.2.2
  · rw [if_neg h, if_neg (fun e => h (hi.2 e))]
/-- By a third one no nearer. -/
theorem fs_tr {S : Int} {Ls : List ((Int × Int) × (Int × Int))} {Hs : List (ByteArray × (Int × Int))} {a b c : Int} (h1 : fsN S Ls Hs a c = 0) (h2 : fsN S Ls Hs c b = 0) : fsN S Ls Hs a b = 0 ∧ fsV S Ls Hs a b ≤ fsV S Ls Hs a c + fsV S Ls Hs c b := by
  have k1 := fs_0.1 h1
  have k2 := fs_0.1 h2
  have ht := tp_0 k1.1.1
  have h3 := far_tr (S := S.toNat) (J := fun x y => joinB Ls x y) (a := a.toNat) (b := b.toNat) (c := c.toNat) (by omega) (by omega) (by omega) (by omega) (by omega) k1.2 k2.2
  have h4 : fsN S Ls Hs a b = 0 := fs_0.2 ⟨⟨k1.1.1, k1.1.2.1, k2.1.2.2⟩, h3.1⟩
  refine ⟨h4, ?_⟩
  unfold fsV
  rw [if_pos h4, if_pos h1, if_pos h2]
  exact h3.2
/-- No way at all to itself alone. -/
theorem fs_same {S : Int} {Ls : List ((Int × Int) × (Int × Int))} {Hs : List (ByteArray × (Int × Int))} {a b : Int} (h : fsN S Ls Hs a b = 0) : 0 < fsV S Ls Hs a b ∨ a = b := by
  have k := fs_0.1 h
  have ht := tp_0 k.1.1
  unfold fsV
  rw [if_pos h]
  by_cases e : faN S Ls a b = 0
  · right
    have := (far_0 (S := S.toNat) (J := fun x y => joinB Ls x y) (a := a.toNat) (b := b.toNat) (by omega) (by omega) (by omega)).1 e
    omega
  · left
    have := k.2
    omega
theorem fa_lt (S : Int) (Ls : List ((Int × Int) × (Int × Int))) (a b : Int) : -1 ≤ faN S Ls a b ∧ faN S Ls a b ≤ 6 := by
  rcases fst_or (p := fun n => rcB S.toNat (fun x y => joinB Ls x y) a.toNat n b.toNat) (k := 7) (n := 0) with ⟨e, _⟩ | ⟨m, _, hm, e, _⟩
  · have : faN S Ls a b = -1 := e
    omega
  · have : faN S Ls a b = m := e
    omega
theorem fv_lt (S : Int) (Ls : List ((Int × Int) × (Int × Int))) (Hs : List (ByteArray × (Int × Int))) (a b : Int) : 0 ≤ fsV S Ls Hs a b ∧ fsV S Ls Hs a b ≤ 6 := by
  unfold fsV
  by_cases h : fsN S Ls Hs a b = 0
  · rw [if_pos h]
    have := (fs_0.1 h).2
    have := fa_lt S Ls a b
    omega
  · rw [if_neg h]; omega
end Go.Proofs.Ytpmcjelihdlfeaa
/- What isSwitch, isSpot and joins of package topo answer: contracts for the walks above them. -/
namespace Go.Proofs.Ytpmcjelihdlfeaa
open Go.RowKit
set_option linter.unusedSimpArgs false
set_option linter.unusedVariables false

set_option maxHeartbeats 1000000 in
theorem isSwitch_any (S a : Int) (w : World) :
    Calls Try.prog 35 #[.int .i64 S, .int .i64 a] w fun e w' => e = .returned (.bool (swB S a)) ∧ Below w.heap.size w w' := by
  by_cases h1 : 1 ≤ a
  · by_cases h2 : a ≤ S
    · have e : swB S a = true := sw_of.2 ⟨h1, h2⟩
      rw [e]
      clear e
      go_enter Try.func35, Try.ntmps35
      go_wp2
      go_ret
      exact ⟨rfl, Below.refl _ _⟩
    · have e : swB S a = false := by simp [swB, h2]
      rw [e]
      clear e
      go_enter Try.func35, Try.ntmps35
      go_wp2
      go_ret
      exact ⟨rfl, Below.refl _ _⟩
  · have e : swB S a = false := by simp [swB, h1]
    rw [e]
    clear e
    go_enter Try.func35, Try.ntmps35
    go_wp2
    go_ret
    exact ⟨rfl, Below.refl _ _⟩
set_option maxHeartbeats 1000000 in
theorem isSpot_any (S x y : Int) (w : World) :
    Calls Try.prog 23 #[.int .i64 S, .agg #[.int .i64 x, .int .i64 y]] w fun e w' => e = .returned (.bool (spB S (x, y))) ∧ Below w.heap.size w w' := by
  have HB0 : Hid (Below w.heap.size w (w.alloc (Obj.cells #[Value.int IntKind.i64 x, Value.int IntKind.i64 y] 30))) := (Below.refl _ _).alloc (Nat.le_refl _) _
  have hlt : w.heap.size < (w.alloc (Obj.cells #[Value.int IntKind.i64 x, Value.int IntKind.i64 y] 30)).heap.size := by simp
  have c0 : (w.alloc (Obj.cells #[Value.int IntKind.i64 x, Value.int IntKind.i64 y] 30)).cell? ⟨w.heap.size, 0, none⟩ = some (.int .i64 x) := by simp
  have c1 : (w.alloc (Obj.cells #[Value.int IntKind.i64 x, Value.int IntKind.i64 y] 30)).cell? ⟨w.heap.size, 1, none⟩ = some (.int .i64 y) := by simp
  cases hs : swB S x
  · have e : spB S (x, y) = false := by
      cases h : spB S (x, y)
      · rfl
      · have := sp_of h
        have h2 := sw_of.2 ⟨this.1, this.2.1⟩
        rw [hs] at h2
        cases h2
    rw [e]
    clear e
    go_enter Try.func23, Try.ntmps23
    go_wp2_with fail
    refine (isSwitch_any S x _).mono ?_
    rintro e w1 ⟨rfl, hb1⟩
    rw [hs]
    have HB1 : Hid (Below w.heap.size w w1) := HB0.out.trans (hb1.mono HB0.out.size)
    clear hb1 c0 c1
    go_wp2
    go_ret
    exact ⟨rfl, HB1.out⟩
  · have hw := sw_of.1 hs
    have e : spB S (x, y) = (decide (1 ≤ y) && decide (y ≤ 4)) := by simp [spB, hw.1, hw.2]
    rw [e]
    clear e hw
    have walk : ∀ r : Bool, r = (decide (1 ≤ y) && decide (y ≤ 4)) → Calls Try.prog 23 #[.int .i64 S, .agg #[.int .i64 x, .int .i64 y]] w fun e w' => e = .returned (.bool r) ∧ Below w.heap.size w w' := by
      intro r hr
      by_cases h1 : 1 ≤ y
      · by_cases h2 : y ≤ 4
        · have e : r = true := by rw [hr]; simp [h1, h2]
          subst e
          clear hr
          go_enter Try.func23, Try.ntmps23
          go_wp2_with fail
          refine (isSwitch_any S x _).mono ?_
          rintro e w1 ⟨rfl, hb1⟩
          rw [hs]
          have HB1 : Hid (Below w.heap.size w w1) := HB0.out.trans (hb1.mono HB0.out.size)
          have d1 := cell_later hb1 c1
          clear hb1 c0 c1
          go_wp2
          go_ret
          exact ⟨rfl, HB1.out⟩
        · have e : r = false := by rw [hr]; simp [h2]
          subst e
          clear hr
          go_enter Try.func23, Try.ntmps23
          go_wp2_with fail
          refine (isSwitch_any S x _).mono ?_
          rintro e w1 ⟨rfl, hb1⟩
          rw [hs]
          have HB1 : Hid (Below w.heap.size w w1) := HB0.out.trans (hb1.mono HB0.out.size)
          have d1 := cell_later hb1 c1
          have hd : decide (y ≤ 4) = false := by simp [h2]
          clear hb1 c0 c1
          go_wp2
          go_ret
          exact ⟨by first | rfl | simp [h2], HB1.out⟩
      · have e : r = false := by rw [hr]; simp [h1]
        subst e
        clear hr
        go_enter Try.func23, Try.ntmps23
        go_wp2_with fail
        refine (isSwitch_any S x _).mono ?_
        rintro e w1 ⟨rfl, hb1⟩
        rw [hs]
        have HB1 : Hid (Below w.heap.size w w1) := HB0.out.trans (hb1.mono HB0.out.size)
        have d1 := cell_later hb1 c1
        clear hb1 c0 c1
        go_wp2
        go_ret
        exact ⟨rfl, HB1.out⟩
    exact walk _ rfl
end Go.Proofs.Ytpmcjelihdlfeaa
/- A spot as a key of a map; numbers and texts as keys. -/
namespace Go.Proofs.Ytpmcjelihdlfeaa
open Go.RowKit

set_option maxRecDepth 100000 in
theorem spotEq (a b c d : Int) (w : World) : (Op.equal 30 (.agg #[.int .i64 a, .int .i64 b]) (.agg #[.int .i64 c, .int .i64 d])).run Try.prog w = .ok (a == c && b == d) w := by
  unfold Op.equal Op.maxDepth
  rw [run_equalIn_struct w 9999 _ _ _ (by kernel_rfl) (by kernel_rfl)]
  cases h1 : (a == c)
  · go_simp
  · cases h2 : (b == d)
    · go_simp
    · go_simp
set_option maxRecDepth 100000 in
theorem spotCheck (e : Bool) (a b : Int) (w : World) : (Instr.checkKey e 10000 30 (.agg #[.int .i64 a, .int .i64 b])).run Try.prog w = .ok () w := by
  have h : ∀ (x : Int) (w : World), (Instr.checkKey e 9999 3 (.int .i64 x)).run Try.prog w = .ok () w := fun x w => Go.MapKept.run_checkKey Try.underlying3 (by simp [Go.MapKept.IsKey]) e 9998
  rw [Instr.checkKey]
  go_simp
def spotKey : KeyE Try.prog 30 (Int × Int) :=
  KeyE.ask (fun k => .agg #[.int .i64 k.1, .int .i64 k.2]) sq sq_iff (fun e k w => spotCheck e k.1 k.2 w) _ (show Try.prog.underlying 30 = some (.struct (Try.prog.fieldsOf 30)) by kernel_rfl) (fun a b => rfl) (fun a b w => spotEq a.1 a.2 b.1 b.2 w) (fun k => by simp [Instr.sameBits])
def intKey : KeyE Try.prog 3 Int :=
  KeyE.now (fun k => .int .i64 k) qI qI_iff (fun e k w => Go.MapKept.run_checkKey Try.underlying3 (by simp [Go.MapKept.IsKey]) e 9999) _ Try.underlying3 (fun a b => by simp [Instr.sameNow, qI]) (fun k => by simp [Instr.sameBits])
def strKey : KeyE Try.prog 9 ByteArray :=
  KeyE.now (fun k => .string k) (fun a b => a == b) ba_iff (fun e k w => Go.MapKept.run_checkKey Try.underlying9 (by simp [Go.MapKept.IsKey]) e 9999) _ Try.underlying9 (fun a b => by simp [Instr.sameNow, beq_toListBytes]) (fun k => by simp [Instr.sameBits, (ba_iff k k).2 rfl])
/-- Numbers as elements. -/
def veI (n : Int) : Value := .int .i64 n
section
variable {P : Program} {K : TypeId} {κ : Type} {E : KeyE P K κ} {w : World} {ops : Array Oper} {rest : List Oper} {o : Oper} {a : Act} {Q : Exit → Act → World → Prop}
theorem getV_I {o : Option Int} : getV veI (.int .i64 0) o = .int .i64 (o.getD 0) := by cases o <;> rfl
/-- A look-up in a map that counts. -/
theorem run_lookup_TK {B : Nat} {M : List (κ × Int)} {U : List κ} (h : MAt E veI w B M) (hT : TK E.q M U) (t e : TypeId) (ht : P.underlying t = some (.map K e)) (hz : ∀ w, (zeroValue e).run P w = .ok (.int .i64 0) w) (k : κ) :
    (Instr.lookup t (.map (some B)) (E.c k) false).run P w = .ok (.int .i64 (ctM E.q k U : Int)) w := by
  rw [run_lookup_M h t e ht _ hz k false, getV_I, hT k]
  rfl
end
end Go.Proofs.Ytpmcjelihdlfeaa
/- The error of a number. -/
namespace Go.Proofs.Ytpmcjelihdlfeaa

/-- The error of a number: none of 0. -/
def noV (n : Int) : Value := if n = 0 then .nilIface else .iface 57 (.int .i64 n)
theorem no_ok {n : Int} (h : n = 0) : noV n = .nilIface := by simp [noV, h]
theorem no_ne {n : Int} (h : n ≠ 0) : noV n = .iface 57 (.int .i64 n) := by simp [noV, h]
end Go.Proofs.Ytpmcjelihdlfeaa
/- The struct api.Spot: its cells, slices of them, == of two, such that came in. Written by mk/struct.py. -/
namespace Go.Proofs.Ytpmcjelihdlfeaa
open Go.ChangeShapes Go.WideShapes Go.ChangeAt Go.RowKit Go.Joins
set_option linter.unusedSimpArgs false
set_option linter.unusedVariables false
set_option maxRecDepth 100000

def spoE : Enc (Int × Int) where
  c := fun x => [.int .i64 x.1, .int .i64 x.2]
  n := 2
  len := fun _ => rfl
  pos := by decide
  one := by
    intro x u hu
    simp at hu
    rcases hu with rfl | rfl <;> rfl
theorem spo_cells {w : World} {g o : Nat} {x0 : Int} {x1 : Int} (h : VAt w g o (spoE.c (x0, x1))) : w.cell? ⟨g, o, none⟩ = some (.int .i64 x0) ∧ w.cell? ⟨g, o + 1, none⟩ = some (.int .i64 x1) :=
  ⟨h 0 _ rfl, h 1 _ rfl⟩
theorem spo_at {w : World} {g o : Nat} {L : List (Int × Int)} (h : GAt spoE w g o L) {n k : Nat} (hn : L.length = n) (hk : k < n) :
    ∃ (x0 : Int) (x1 : Int) (hl : k < L.length), L[k] = (x0, x1) ∧ w.cell? ⟨g, o + k * 2, none⟩ = some (.int .i64 x0) ∧ w.cell? ⟨g, o + k * 2 + 1, none⟩ = some (.int .i64 x1) :=
  have hl : k < L.length := by omega
  ⟨_, _, hl, rfl, spo_cells (h k hl)⟩
theorem spo_new (w : World) (x0 : Int) (x1 : Int) (t : TypeId) : VAt (w.alloc (Obj.cells #[.int .i64 x0, .int .i64 x1] t)) w.heap.size 0 (spoE.c (x0, x1)) := vat_new w [.int .i64 x0, .int .i64 x1] t
theorem spo_row (w : World) (x0 : Int) (x1 : Int) (t : TypeId) : GS spoE (w.alloc (Obj.cells #[.int .i64 x0, .int .i64 x1] t)) (.slice (some ⟨w.heap.size, 0, none⟩) 1 1) [(x0, x1)] := gs_one (E := spoE) w (x0, x1) t (vs := [.int .i64 x0, .int .i64 x1]) rfl
/-- Are two the same? -/
def spoB (a b : Int × Int) : Bool := (a.1 == b.1) && ((a.2 == b.2))
theorem spoB_iff (a b : Int × Int) : spoB a b = true ↔ a = b := by
  have e : spoB a b = ((a.1 == b.1) && ((a.2 == b.2))) := rfl
  rw [e]
  simp only [Bool.and_eq_true, beq_iff_eq]
  constructor
  · intro h
    obtain ⟨a0, a1⟩ := a; obtain ⟨b0, b1⟩ := b; simp at h ⊢; simp [h]
  · intro h
    subst h
    simp
theorem spo_ways (x0 : Int) (x1 : Int) (y0 : Int) (y1 : Int) :
    ((x0 == y0) = false ∧ spoB (x0, x1) (y0, y1) = false) ∨
    ((x0 == y0) = true ∧ (x1 == y1) = false ∧ spoB (x0, x1) (y0, y1) = false) ∨
    ((x0 == y0) = true ∧ (x1 == y1) = true ∧ spoB (x0, x1) (y0, y1) = true) := by
  have e : spoB (x0, x1) (y0, y1) = ((x0 == y0) && ((x1 == y1))) := rfl
  rw [e]
  cases h0 : (x0 == y0)
  · simp
  · skip
    cases h1 : (x1 == y1)
    · simp
    · skip
      simp
set_option maxRecDepth 100000 in
theorem spo_eq (x0 : Int) (x1 : Int) (y0 : Int) (y1 : Int) (w : World) : (Op.equal 30 (.agg #[.int .i64 x0, .int .i64 x1]) (.agg #[.int .i64 y0, .int .i64 y1])).run Try.prog w = .ok (spoB (x0, x1) (y0, y1)) w := by
  unfold Op.equal Op.maxDepth
  rw [run_equalIn_struct w 9999 _ _ _ (by kernel_rfl) (by kernel_rfl)]
  rcases spo_ways x0 x1 y0 y1 with ⟨e0, e⟩ | ⟨e0, e1, e⟩ | ⟨e0, e1, e⟩
  all_goals
    rw [e]
    go_simp
theorem spo_info : (Try.prog.info? 30).map (fun i => (i.zero, i.size, i.bytes)) = some (some (.agg #[.int .i64 0, .int .i64 0]), 2, 16) := by kernel_rfl
theorem spo_zero : (Value.agg #[.int .i64 0, .int .i64 0]).cells.size = 2 := by simp [Value.cells]
/-- Cells that read as one. -/
theorem spo_open {H : Type} {enc : TypeId × Value → H} {W : World} {n : Nat} {cs : List Value} {x : DataW H × List MemPlace}
    (h : DataW.trod enc Try.prog W 0 (fun _ => true) true n 30 cs = some x) : ∃ y, cs = spoE.c y := by
  obtain ⟨xs, k, _, _, hl, hlen, hf⟩ := DataW.trod_struct Try.underlying30 h
  have hC : Try.prog.cellsOf 30 = 2 := by kernel_rfl
  have hT0 : Try.prog.cellsOf 3 = 1 := by kernel_rfl
  rw [hC] at hl
  match cs, hl with
  | [c0, c1], _ =>
    match xs, hlen with
    | [z0, z1], _ =>
      have g0 := hf 0 _ rfl
      have g1 := hf 1 _ rfl
      simp [hT0] at g0 g1
      obtain ⟨v0, e0, _, _⟩ := DataW.trod_int Try.underlying3 g0
      obtain ⟨v1, e1, _, _⟩ := DataW.trod_int Try.underlying3 g1
      simp [] at e0 e1
      refine ⟨(v0, v1), ?_⟩
      simp [spoE, e0, e1]
set_option maxRecDepth 100000 in
/-- One that came in. -/
theorem spo_of {H : Type} {enc : TypeId × Value → H} {W : World} {base : Nat} {v : Value} {d : DataW H} {p : List MemPlace}
    (hv : Value.okWide Try.prog W .any base 30 v) (h : DataW.Trod enc Try.prog W 0 (fun _ => true) true 30 v d p) : ∃ (x0 : Int) (x1 : Int), v = .agg #[.int .i64 x0, .int .i64 x1] := by
  obtain ⟨cs, rfl, hsz⟩ := okWide_struct Try.underlying30 hv
  obtain ⟨n, hn⟩ := h
  obtain ⟨y, e⟩ := spo_open hn
  refine ⟨y.1, y.2, ?_⟩
  simp only [Value.cells] at e
  have e2 : cs = #[.int .i64 y.1, .int .i64 y.2] := by
    rw [← Array.toArray_toList (xs := cs), e]
    rfl
  rw [e2]
end Go.Proofs.Ytpmcjelihdlfeaa
/- The struct api.Link: its cells, slices of them, == of two, such that came in. Written by mk/struct.py. -/
namespace Go.Proofs.Ytpmcjelihdlfeaa
open Go.ChangeShapes Go.WideShapes Go.ChangeAt Go.RowKit Go.Joins
set_option linter.unusedSimpArgs false
set_option linter.unusedVariables false
set_option maxRecDepth 100000

def lnkE : Enc ((Int × Int) × (Int × Int)) where
  c := fun x => [.int .i64 x.1.1, .int .i64 x.1.2, .int .i64 x.2.1, .int .i64 x.2.2]
  n := 4
  len := fun _ => rfl
  pos := by decide
  one := by
    intro x u hu
    simp at hu
    rcases hu with rfl | rfl | rfl | rfl <;> rfl
theorem lnk_cells {w : World} {g o : Nat} {x0 : Int} {x1 : Int} {x2 : Int} {x3 : Int} (h : VAt w g o (lnkE.c ((x0, x1), (x2, x3)))) : w.cell? ⟨g, o, none⟩ = some (.int .i64 x0) ∧ w.cell? ⟨g, o + 1, none⟩ = some (.int .i64 x1) ∧ w.cell? ⟨g, o + 2, none⟩ = some (.int .i64 x2) ∧ w.cell? ⟨g, o + 3, none⟩ = some (.int .i64 x3) :=
  ⟨h 0 _ rfl, h 1 _ rfl, h 2 _ rfl, h 3 _ rfl⟩
theorem lnk_at {w : World} {g o : Nat} {L : List ((Int × Int) × (Int × Int))} (h : GAt lnkE w g o L) {n k : Nat} (hn : L.length = n) (hk : k < n) :
    ∃ (x0 : Int) (x1 : Int) (x2 : Int) (x3 : Int) (hl : k < L.length), L[k] = ((x0, x1), (x2, x3)) ∧ w.cell? ⟨g, o + k * 4, none⟩ = some (.int .i64 x0) ∧ w.cell? ⟨g, o + k * 4 + 1, none⟩ = some (.int .i64 x1) ∧ w.cell? ⟨g, o + k * 4 + 2, none⟩ = some (.int .i64 x2) ∧ w.cell? ⟨g, o + k * 4 + 3, none⟩ = some (.int .i64 x3) :=
  have hl : k < L.length := by omega
  ⟨_, _, _, _, hl, rfl, lnk_cells (h k hl)⟩
theorem lnk_new (w : World) (x0 : Int) (x1 : Int) (x2 : Int) (x3 : Int) (t : TypeId) : VAt (w.alloc (Obj.cells #[.int .i64 x0, .int .i64 x1, .int .i64 x2, .int .i64 x3] t)) w.heap.size 0 (lnkE.c ((x0, x1), (x2, x3))) := vat_new w [.int .i64 x0, .int .i64 x1, .int .i64 x2, .int .i64 x3] t
theorem lnk_row (w : World) (x0 : Int) (x1 : Int) (x2 : Int) (x3 : Int) (t : TypeId) : GS lnkE (w.alloc (Obj.cells #[.int .i64 x0, .int .i64 x1, .int .i64 x2, .int .i64 x3] t)) (.slice (some ⟨w.heap.size, 0, none⟩) 1 1) [((x0, x1), (x2, x3))] := gs_one (E := lnkE) w ((x0, x1), (x2, x3)) t (vs := [.int .i64 x0, .int .i64 x1, .int .i64 x2, .int .i64 x3]) rfl
/-- Are two the same? -/
def lnkB (a b : (Int × Int) × (Int × Int)) : Bool := (a.1.1 == b.1.1) && ((a.1.2 == b.1.2) && ((a.2.1 == b.2.1) && ((a.2.2 == b.2.2))))
theorem lnkB_iff (a b : (Int × Int) × (Int × Int)) : lnkB a b = true ↔ a = b := by
  have e : lnkB a b = ((a.1.1 == b.1.1) && ((a.1.2 == b.1.2) && ((a.2.1 == b.2.1) && ((a.2.2 == b.2.2))))) := rfl
  rw [e]
  simp only [Bool.and_eq_true, beq_iff_eq]
  constructor
  · intro h
    obtain ⟨⟨a0, a1⟩, ⟨a2, a3⟩⟩ := a; obtain ⟨⟨b0, b1⟩, ⟨b2, b3⟩⟩ := b; simp at h ⊢; simp [h]
  · intro h
    subst h
    simp
theorem lnk_ways (x0 : Int) (x1 : Int) (x2 : Int) (x3 : Int) (y0 : Int) (y1 : Int) (y2 : Int) (y3 : Int) :
    ((x0 == y0) = false ∧ lnkB ((x0, x1), (x2, x3)) ((y0, y1), (y2, y3)) = false) ∨
    ((x0 == y0) = true ∧ (x1 == y1) = false ∧ lnkB ((x0, x1), (x2, x3)) ((y0, y1), (y2, y3)) = false) ∨
    ((x0 == y0) = true ∧ (x1 == y1) = true ∧ (x2 == y2) = false ∧ lnkB ((x0, x1), (x2, x3)) ((y0, y1), (y2, y3)) = false) ∨
    ((x0 == y0) = true ∧ (x1 == y1) = true ∧ (x2 == y2) = true ∧ (x3 == y3) = false ∧ lnkB ((x0, x1), (x2, x3)) ((y0, y1), (y2, y3)) = false) ∨
    ((x0 == y0) = true ∧ (x1 == y1) = true ∧ (x2 == y2) = true ∧ (x3 == y3) = true ∧ lnkB ((x0, x1), (x2, x3)) ((y0, y1), (y2, y3)) = true) := by
  have e : lnkB ((x0, x1), (x2, x3)) ((y0, y1), (y2, y3)) = ((x0 == y0) && ((x1 == y1) && ((x2 == y2) && ((x3 == y3))))) := rfl
  rw [e]
  cases h0 : (x0 == y0)
  · simp
  · skip
    cases h1 : (x1 == y1)
    · simp
    · skip
      cases h2 : (x2 == y2)
      · simp
      · skip
        cases h3 : (x3 == y3)
        · simp
        · skip
          simp
set_option maxRecDepth 100000 in
theorem lnk_eq (x0 : Int) (x1 : Int) (x2 : Int) (x3 : Int) (y0 : Int) (y1 : Int) (y2 : Int) (y3 : Int) (w : World) : (Op.equal 80 (.agg #[.int .i64 x0, .int .i64 x1, .int .i64 x2, .int .i64 x3]) (.agg #[.int .i64 y0, .int .i64 y1, .int .i64 y2, .int .i64 y3])).run Try.prog w = .ok (lnkB ((x0, x1), (x2, x3)) ((y0, y1), (y2, y3))) w := by
  unfold Op.equal Op.maxDepth
  rw [run_equalIn_struct w 9999 _ _ _ (by kernel_rfl) (by kernel_rfl)]
  rcases lnk_ways x0 x1 x2 x3 y0 y1 y2 y3 with ⟨e0, e⟩ | ⟨e0, e1, e⟩ | ⟨e0, e1, e2, e⟩ | ⟨e0, e1, e2, e3, e⟩ | ⟨e0, e1, e2, e3, e⟩
  all_goals
    rw [e]
    go_simp
theorem lnk_info : (Try.prog.info? 80).map (fun i => (i.zero, i.size, i.bytes)) = some (some (.agg #[.int .i64 0, .int .i64 0, .int .i64 0, .int .i64 0]), 4, 32) := by kernel_rfl
theorem lnk_zero : (Value.agg #[.int .i64 0, .int .i64 0, .int .i64 0, .int .i64 0]).cells.size = 4 := by simp [Value.cells]
/-- Cells that read as one. -/
theorem lnk_open {H : Type} {enc : TypeId × Value → H} {W : World} {n : Nat} {cs : List Value} {x : DataW H × List MemPlace}
    (h : DataW.trod enc Try.prog W 0 (fun _ => true) true n 80 cs = some x) : ∃ y, cs = lnkE.c y := by
  obtain ⟨xs, k, _, _, hl, hlen, hf⟩ := DataW.trod_struct Try.underlying80 h
  have hC : Try.prog.cellsOf 80 = 4 := by kernel_rfl
  have hT0 : Try.prog.cellsOf 30 = 2 := by kernel_rfl
  rw [hC] at hl
  match cs, hl with
  | [c0, c1, c2, c3], _ =>
    match xs, hlen with
    | [z0, z1], _ =>
      have g0 := hf 0 _ rfl
      have g1 := hf 1 _ rfl
      simp [hT0] at g0 g1
      obtain ⟨s0, e0⟩ := spo_open g0
      obtain ⟨s1, e1⟩ := spo_open g1
      simp [spoE] at e0 e1
      refine ⟨((s0.1, s0.2), (s1.1, s1.2)), ?_⟩
      simp [lnkE, e0, e1]
set_option maxRecDepth 100000 in
/-- One that came in. -/
theorem lnk_of {H : Type} {enc : TypeId × Value → H} {W : World} {base : Nat} {v : Value} {d : DataW H} {p : List MemPlace}
    (hv : Value.okWide Try.prog W .any base 80 v) (h : DataW.Trod enc Try.prog W 0 (fun _ => true) true 80 v d p) : ∃ (x0 : Int) (x1 : Int) (x2 : Int) (x3 : Int), v = .agg #[.int .i64 x0, .int .i64 x1, .int .i64 x2, .int .i64 x3] := by
  obtain ⟨cs, rfl, hsz⟩ := okWide_struct Try.underlying80 hv
  obtain ⟨n, hn⟩ := h
  obtain ⟨y, e⟩ := lnk_open hn
  refine ⟨y.1.1, y.1.2, y.2.1, y.2.2, ?_⟩
  simp only [Value.cells] at e
  have e2 : cs = #[.int .i64 y.1.1, .int .i64 y.1.2, .int .i64 y.2.1, .int .i64 y.2.2] := by
    rw [← Array.toArray_toList (xs := cs), e]
    rfl
  rw [e2]
/-- A slice of them that came in. -/
theorem lnks_of {H : Type} {enc : TypeId × Value → H} {W : World} {base : Nat} {v : Value} {d : DataW H} {p : List MemPlace}
    (hv : Value.okWide Try.prog W .any base 22 v) (h : DataW.Trod enc Try.prog W 0 (fun _ => true) true 22 v d p) : ∃ L, GS lnkE W v L :=
  gs_of (E := lnkE) 22 80 Try.underlying22 (by kernel_rfl) ((0, 0), (0, 0)) (fun _ _ _ h => lnk_open h) hv h
end Go.Proofs.Ytpmcjelihdlfeaa
/- What topo.lay answers: a contract for the walks above it. -/
namespace Go.Proofs.Ytpmcjelihdlfeaa
open Go.RowKit
set_option linter.unusedSimpArgs false
set_option linter.unusedVariables false

/-- What holds of the map behind a link. -/
def LayQ (w w' : World) (B : Nat) (N : Int) (V : List (Int × Int)) : Prop := ∃ M', MAt spotKey veI w' B M' ∧ (N = 0 → TK sq M' V) ∧ But [B] w w'
set_option maxHeartbeats 1000000 in
set_option maxRecDepth 100000 in
theorem lay_ok (S x0 x1 x2 x3 : Int) (B : Nat) (M : List ((Int × Int) × Int)) (U : List (Int × Int)) (w : World) (hM : MAt spotKey veI w B M) (hT : TK sq M U) (hU : U.length ≤ 1000) (ha : spB S (x0, x1) = true) (hb : spB S (x2, x3) = true) (N : Int) (hN : N = lk1 S U ((x0, x1), (x2, x3))) :
    Calls Try.prog 26 #[.int .i64 S, .map (some B), .agg #[.int .i64 x0, .int .i64 x1, .int .i64 x2, .int .i64 x3]] w fun e w' => e = .returned (noV N) ∧ LayQ w w' B N (U ++ [(x0, x1), (x2, x3)]) := by
  have hlt := hM.lt
  have HN : Hid (N = lk1 S U ((x0, x1), (x2, x3))) := hN
  have hB0 : Below w.heap.size w (w.alloc (Obj.cells #[Value.int IntKind.i64 x0, Value.int IntKind.i64 x1, Value.int IntKind.i64 x2, Value.int IntKind.i64 x3] 80)) := (Below.refl _ _).alloc (Nat.le_refl _) _
  have HB0 : Hid (Below w.heap.size w (w.alloc (Obj.cells #[Value.int IntKind.i64 x0, Value.int IntKind.i64 x1, Value.int IntKind.i64 x2, Value.int IntKind.i64 x3] 80))) := hB0
  have HC := lnk_new w x0 x1 x2 x3 80
  have HM0 : Hid (MAt spotKey veI w B M) := hM
  have HT : Hid (TK sq M U) := hT
  have hne : ¬ w.heap.size = B := by omega
  clear hM hT hN hB0
  go_enter Try.func26, Try.ntmps26
  go_wp2_with fail
  refine (isSpot_any S x0 x1 _).mono ?_
  rintro e w1 ⟨rfl, hb1⟩
  rw [ha]
  have HB1 : Hid (Below w.heap.size w w1) := HB0.out.trans (hb1.mono HB0.out.size)
  have HC1 := HC.later hb1
  obtain ⟨c0, c1, c2, c3⟩ := lnk_cells HC1
  simp only [Nat.zero_add] at c0 c1 c2 c3
  clear hb1
  go_wp2_with fail
  refine (isSpot_any S x2 x3 _).mono ?_
  rintro e w2 ⟨rfl, hb2⟩
  rw [hb]
  have HB2 : Hid (Below w.heap.size w w2) := HB1.out.trans (hb2.mono HB1.out.size)
  have HC2 : Hid (VAt w2 w.heap.size 0 (lnkE.c ((x0, x1), (x2, x3)))) := HC1.later hb2
  have d0 := cell_later hb2 c0
  have d1 := cell_later hb2 c1
  have d2 := cell_later hb2 c2
  have d3 := cell_later hb2 c3
  have HM2 : Hid (MAt spotKey veI w2 B M) := (HM0.out.later HB2.out)
  clear hb2 HC1 HC c0 c1 c2 c3 HB1 HB0
  go_upto_region 3 with fail
  obtain ⟨cA, hcA⟩ : ∃ cA : Int, cA = (ctM sq (x0, x1) U : Int) := ⟨_, rfl⟩
  have HcA : Hid (cA = (ctM sq (x0, x1) U : Int)) := hcA
  have hcw : IntKind.i64.wrap (cA + 1) = cA + 1 := by
    have h1 := ct_le (q := sq) (x0, x1) U
    exact wrap_small (by omega) (by omega)
  clear hcA
  go_cut [] from 20 to 26 (fun w' => ∃ M1, MAt spotKey veI w' B M1 ∧ TK sq M1 (U ++ [(x0, x1)]) ∧ But [B] w2 w')
  case first =>
    have hMd : MAt spotKey veI w2.drew B M := HM2.out
    obtain ⟨v0, st, w3, hE, hg3, hM3, hS3⟩ := run_entry_M hMd 81 3 Try.underlying81 0 (fun w => by kernel_rfl) (x0, x1)
    obtain ⟨w4, hSt, hM4, hg4⟩ := hS3 w3 (cA + 1) rfl
    have hTK4 : Hid (TK sq (mput sq (x0, x1) (cA + 1) M) (U ++ [(x0, x1)])) := by
      show TK _ _ _
      rw [HcA.out]
      exact tk_put sq_iff HT.out _
    have HM4 : Hid (MAt spotKey veI w4 B (mput sq (x0, x1) (cA + 1) M)) := hM4
    have HBt : Hid (But [B] w2 w4) := ((But.refl [B] w2).drew.trans (But.of_grown hg3 (by simp))).trans (But.of_grown hg4 (by simp))
    have hl2 : (Instr.lookup 81 (.map (some B)) (.agg #[.int .i64 x0, .int .i64 x1]) false).run Try.prog w2.drew = .ok (.int .i64 cA) w2.drew := by
      rw [HcA.out]
      exact run_lookup_TK hMd HT.out 81 3 Try.underlying81 (fun w => by kernel_rfl) (x0, x1)
    have hl3 : (Instr.lookup 81 (.map (some B)) (.agg #[.int .i64 x0, .int .i64 x1]) false).run Try.prog w3 = .ok (.int .i64 cA) w3 := by
      have h := run_lookup_M hM3 81 3 Try.underlying81 (.int .i64 0) (fun w => by kernel_rfl) (x0, x1) false
      have e : mget spotKey.q (x0, x1) (mput spotKey.q (x0, x1) ((mget spotKey.q (x0, x1) M).getD 0) M) = some cA := by
        rw [mget_put spotKey.qeq, if_pos ((spotKey.qeq _ _).2 rfl), HcA.out]
        exact congrArg some (HT.out (x0, x1))
      rw [e] at h
      exact h
    have h1 : (Instr.mapEntry 81 (.map (some B)) (.agg #[.int .i64 x0, .int .i64 x1])).run Try.prog w2.drew = .ok (.tuple #[v0, .int .i64 (st : Int)]) w3 := hE
    have h3 : (Instr.entryStore 81 (.map (some B)) (.int .i64 (st : Int)) (.int .i64 (cA + 1))).run Try.prog w3 = .ok () w4 := hSt
    clear hE hS3 hSt hM3 hM4 hg3 hg4 hMd
    go_region
    go_wp2_with fail
    go_meet
    case rel => exact ⟨_, HM4.out, hTK4.out, HBt.out⟩
  case rest =>
    obtain ⟨M1, hM1, hT1, hBt1⟩ := hcut
    obtain ⟨w5, hw5⟩ : ∃ x, x = wc := ⟨_, rfl⟩
    subst hw5
    have hnB : w.heap.size ∉ [B] := by simp [hne]
    have hl2 : w.heap.size < w2.heap.size := World.block_lt_of_cell? _ _ d0
    have e0 := (hBt1.cell (p := ⟨w.heap.size, 0, none⟩) hl2 hnB).trans d0
    have e1 := (hBt1.cell (p := ⟨w.heap.size, 1, none⟩) hl2 hnB).trans d1
    have e2 := (hBt1.cell (p := ⟨w.heap.size, 2, none⟩) hl2 hnB).trans d2
    have e3 := (hBt1.cell (p := ⟨w.heap.size, 3, none⟩) hl2 hnB).trans d3
    have HM5 : Hid (MAt spotKey veI w5 B M1) := hM1
    have HT5 : Hid (TK sq M1 (U ++ [(x0, x1)])) := hT1
    have HBt5 : Hid (But [B] w w5) := (But.of_below (HB2.out)).trans hBt1
    clear hM1 hT1 hBt1 d0 d1 d2 d3 HM2 HC2 hcw HcA hnB hl2
    obtain ⟨cB, hcB⟩ : ∃ cB : Int, cB = (ctM sq (x2, x3) (U ++ [(x0, x1)]) : Int) := ⟨_, rfl⟩
    have HcB : Hid (cB = (ctM sq (x2, x3) (U ++ [(x0, x1)]) : Int)) := hcB
    have hcw : IntKind.i64.wrap (cB + 1) = cB + 1 := by
      have h1 := ct_le (q := sq) (x2, x3) (U ++ [(x0, x1)])
      simp only [List.length_append, List.length_singleton] at h1
      exact wrap_small (by omega) (by omega)
    clear hcB
    go_upto_region 4 with fail
    go_cut [] from 27 to 33 (fun w' => ∃ M2, MAt spotKey veI w' B M2 ∧ TK sq M2 (U ++ [(x0, x1)] ++ [(x2, x3)]) ∧ But [B] w5 w')
    case first =>
      have hMd : MAt spotKey veI w5.drew B M1 := HM5.out
      obtain ⟨v0, st, w3, hE, hg3, hM3, hS3⟩ := run_entry_M hMd 81 3 Try.underlying81 0 (fun w => by kernel_rfl) (x2, x3)
      obtain ⟨w4, hSt, hM4, hg4⟩ := hS3 w3 (cB + 1) rfl
      have hTK4 : Hid (TK sq (mput sq (x2, x3) (cB + 1) M1) (U ++ [(x0, x1)] ++ [(x2, x3)])) := by
        show TK _ _ _
        rw [HcB.out]
        exact tk_put sq_iff HT5.out _
      have HM4 : Hid (MAt spotKey veI w4 B (mput sq (x2, x3) (cB + 1) M1)) := hM4
      have HBt : Hid (But [B] w5 w4) := ((But.refl [B] w5).drew.trans (But.of_grown hg3 (by simp))).trans (But.of_grown hg4 (by simp))
      have hl2 : (Instr.lookup 81 (.map (some B)) (.agg #[.int .i64 x2, .int .i64 x3]) false).run Try.prog w5.drew = .ok (.int .i64 cB) w5.drew := by
        rw [HcB.out]
        exact run_lookup_TK hMd HT5.out 81 3 Try.underlying81 (fun w => by kernel_rfl) (x2, x3)
      have hl3 : (Instr.lookup 81 (.map (some B)) (.agg #[.int .i64 x2, .int .i64 x3]) false).run Try.prog w3 = .ok (.int .i64 cB) w3 := by
        have h := run_lookup_M hM3 81 3 Try.underlying81 (.int .i64 0) (fun w => by kernel_rfl) (x2, x3) false
        have e : mget spotKey.q (x2, x3) (mput spotKey.q (x2, x3) ((mget spotKey.q (x2, x3) M1).getD 0) M1) = some cB := by
          rw [mget_put spotKey.qeq, if_pos ((spotKey.qeq _ _).2 rfl), HcB.out]
          exact congrArg some (HT5.out (x2, x3))
        rw [e] at h
        exact h
      have h1 : (Instr.mapEntry 81 (.map (some B)) (.agg #[.int .i64 x2, .int .i64 x3])).run Try.prog w5.drew = .ok (.tuple #[v0, .int .i64 (st : Int)]) w3 := hE
      have h3 : (Instr.entryStore 81 (.map (some B)) (.int .i64 (st : Int)) (.int .i64 (cB + 1))).run Try.prog w3 = .ok () w4 := hSt
      clear hE hS3 hSt hM3 hM4 hg3 hg4 hMd
      go_region
      go_wp2_with fail
      go_meet
      case rel => exact ⟨_, HM4.out, hTK4.out, HBt.out⟩
    case rest =>
      obtain ⟨M2, hM2, hT2, hBt2⟩ := hcut
      have hnB : w.heap.size ∉ [B] := by simp [hne]
      have hl2 : w.heap.size < w5.heap.size := World.block_lt_of_cell? _ _ e0
      have f0 := (hBt2.cell (p := ⟨w.heap.size, 0, none⟩) hl2 hnB).trans e0
      have f1 := (hBt2.cell (p := ⟨w.heap.size, 1, none⟩) hl2 hnB).trans e1
      have f2 := (hBt2.cell (p := ⟨w.heap.size, 2, none⟩) hl2 hnB).trans e2
      have f3 := (hBt2.cell (p := ⟨w.heap.size, 3, none⟩) hl2 hnB).trans e3
      have HM6 : Hid (MAt spotKey veI wc B M2) := hM2
      have HT6 : Hid (TK sq M2 (U ++ [(x0, x1), (x2, x3)])) := by
        show TK _ _ _
        simpa using hT2
      have HBt6 : Hid (But [B] w wc) := HBt5.out.trans hBt2
      obtain ⟨pA, hpA⟩ : ∃ p : Int, p = (ctM sq (x0, x1) (U ++ [(x0, x1)] ++ [(x2, x3)]) : Int) := ⟨_, rfl⟩
      obtain ⟨pB, hpB⟩ : ∃ p : Int, p = (ctM sq (x2, x3) (U ++ [(x0, x1)] ++ [(x2, x3)]) : Int) := ⟨_, rfl⟩
      have hlA : (Instr.lookup 81 (.map (some B)) (.agg #[.int .i64 x0, .int .i64 x1]) false).run Try.prog wc = .ok (.int .i64 pA) wc := by
        rw [hpA]
        exact run_lookup_TK hM2 hT2 81 3 Try.underlying81 (fun w => by kernel_rfl) (x0, x1)
      have hlB : (Instr.lookup 81 (.map (some B)) (.agg #[.int .i64 x2, .int .i64 x3]) false).run Try.prog wc = .ok (.int .i64 pB) wc := by
        rw [hpB]
        exact run_lookup_TK hM2 hT2 81 3 Try.underlying81 (fun w => by kernel_rfl) (x2, x3)
      have HL : Hid (N = if (decide ((1 : Int) < pA) || decide ((1 : Int) < pB)) = true then 7 else 0) := by
        show _ = _
        rw [HN.out, hpA, hpB, ct_link, lk1]
        simp only [ha, hb, Bool.and_self, if_true]
      clear hM2 hT2 hBt2 e0 e1 e2 e3 hnB hl2 hcw HcB HM5 HT5 HBt5 hpA hpB ha hb
      by_cases h1 : 1 < pA
      · have e7 : N = 7 := by rw [HL.out]; simp [h1]
        subst e7
        go_wp2
        go_ret
        exact ⟨rfl, M2, HM6.out, fun e => absurd e (by decide), HBt6.out⟩
      · by_cases h2 : 1 < pB
        · have e7 : N = 7 := by rw [HL.out]; simp [h2]
          subst e7
          go_wp2
          go_ret
          exact ⟨rfl, M2, HM6.out, fun e => absurd e (by decide), HBt6.out⟩
        · have e7 : N = 0 := by rw [HL.out]; simp [h1, h2]
          subst e7
          go_wp2
          go_ret
          exact ⟨rfl, M2, HM6.out, fun _ => HT6.out, HBt6.out⟩
set_option maxHeartbeats 1000000 in
set_option maxRecDepth 100000 in
theorem lay_bad (S x0 x1 x2 x3 : Int) (B : Nat) (w : World) (h : (spB S (x0, x1) && spB S (x2, x3)) = false) :
    Calls Try.prog 26 #[.int .i64 S, .map (some B), .agg #[.int .i64 x0, .int .i64 x1, .int .i64 x2, .int .i64 x3]] w fun e w' => e = .returned (.iface 57 (.int .i64 1)) ∧ Below w.heap.size w w' := by
  have HB0 : Hid (Below w.heap.size w (w.alloc (Obj.cells #[Value.int IntKind.i64 x0, Value.int IntKind.i64 x1, Value.int IntKind.i64 x2, Value.int IntKind.i64 x3] 80))) := (Below.refl _ _).alloc (Nat.le_refl _) _
  have HC := lnk_new w x0 x1 x2 x3 80
  cases ha : spB S (x0, x1)
  · clear h
    go_enter Try.func26, Try.ntmps26
    go_wp2_with fail
    refine (isSpot_any S x0 x1 _).mono ?_
    rintro e w1 ⟨rfl, hb1⟩
    rw [ha]
    have HB1 : Hid (Below w.heap.size w w1) := HB0.out.trans (hb1.mono HB0.out.size)
    clear hb1 HC
    go_wp2
    go_ret
    exact ⟨rfl, HB1.out⟩
  · have hb : spB S (x2, x3) = false := by rw [ha, Bool.true_and] at h; exact h
    clear h
    go_enter Try.func26, Try.ntmps26
    go_wp2_with fail
    refine (isSpot_any S x0 x1 _).mono ?_
    rintro e w1 ⟨rfl, hb1⟩
    rw [ha]
    have HB1 : Hid (Below w.heap.size w w1) := HB0.out.trans (hb1.mono HB0.out.size)
    obtain ⟨c0, c1, c2, c3⟩ := lnk_cells (HC.later hb1)
    simp only [Nat.zero_add] at c0 c1 c2 c3
    clear hb1 HC
    go_wp2_with fail
    refine (isSpot_any S x2 x3 _).mono ?_
    rintro e w2 ⟨rfl, hb2⟩
    rw [hb]
    have HB2 : Hid (Below w.heap.size w w2) := HB1.out.trans (hb2.mono HB1.out.size)
    clear hb2
    go_wp2
    go_ret
    exact ⟨rfl, HB2.out⟩
theorem lay_any (S x0 x1 x2 x3 : Int) (B : Nat) (M : List ((Int × Int) × Int)) (U : List (Int × Int)) (w : World) (hM : MAt spotKey veI w B M) (hT : TK sq M U) (hU : U.length ≤ 1000) :
    Calls Try.prog 26 #[.int .i64 S, .map (some B), .agg #[.int .i64 x0, .int .i64 x1, .int .i64 x2, .int .i64 x3]] w fun e w' => e = .returned (noV (lk1 S U ((x0, x1), (x2, x3)))) ∧ LayQ w w' B (lk1 S U ((x0, x1), (x2, x3))) (U ++ [(x0, x1), (x2, x3)]) := by
  cases h : (spB S (x0, x1) && spB S (x2, x3))
  · refine (lay_bad S x0 x1 x2 x3 B w h).mono ?_
    rintro e w' ⟨rfl, hb⟩
    have e1 : lk1 S U ((x0, x1), (x2, x3)) = 1 := by simp only [lk1, h, Bool.false_eq_true, if_false]
    rw [e1]
    exact ⟨rfl, M, hM.later hb, fun e => absurd e (by decide), But.of_below hb⟩
  · simp only [Bool.and_eq_true] at h
    exact lay_ok S x0 x1 x2 x3 B M U w hM hT hU h.1 h.2 _ rfl
end Go.Proofs.Ytpmcjelihdlfeaa
/- What package slices answers at slices of []byte,byte. Written by mk/scalar.py. -/
namespace Go.Proofs.Ytpmcjelihdlfeaa
open Go.RowKit
set_option linter.unusedSimpArgs false
set_option linter.unusedVariables false

def byE : Enc (UInt8) where
  c := fun x => [.int .u8 (x.toNat : Int)]
  n := 1
  len := fun _ => rfl
  pos := by decide
  one := by
    intro x u hu
    simp at hu
    subst hu
    rfl
theorem by_at {w : World} {g o : Nat} {L : List (UInt8)} (h : GAt byE w g o L) {n k : Nat} (hn : L.length = n) (hk : k < n) : ∃ (x : UInt8) (hl : k < L.length), L[k] = x ∧ w.cell? ⟨g, o + k, none⟩ = some (.int .u8 (x.toNat : Int)) := by
  have hl : k < L.length := by omega
  have := h k hl 0 _ rfl
  refine ⟨_, hl, rfl, ?_⟩
  have e : o + k * byE.n + 0 = o + k := by show o + k * 1 + 0 = o + k; omega
  rw [e] at this
  exact this
/-- A closure that asks something, in whatever world behind this one. -/
def byAsks (w : World) (f : FuncId) (P : UInt8 → Bool) : Prop :=
  ∀ (x : UInt8) (W : World), Below w.heap.size w W → Calls Try.prog f #[.int .u8 (x.toNat : Int)] W fun e w' => e = .returned (.bool (P x)) ∧ Below W.heap.size W w'
theorem byAsks.later {w w' : World} {f : FuncId} {P : UInt8 → Bool} (h : byAsks w f P) (hb : Below w.heap.size w w') : byAsks w' f P :=
  fun x W hW => h x W (hb.trans (hW.mono hb.size))

set_option maxHeartbeats 1000000 in
theorem by_idxF (ao : Option Addr) (n cap : Nat) (f : FuncId) (P : UInt8 → Bool) (L : List (UInt8)) (w : World) (hn : L.length = n) (hn2 : n ≤ maxLen) (ha : 0 < n → ∃ g o, ao = some ⟨g, o, none⟩ ∧ GAt byE w g o L ∧ cap ≤ maxLen) (he : ∀ args w, (callFunc f args).run Try.prog w = .ok (.enter f args) w) (hf : byAsks w f P) :
    Calls Try.prog 48 #[.slice ao n cap, .func (Fn.func f) #[] #[]] w fun e w' => e = .returned (.int .i64 (ixG P L)) ∧ Below w.heap.size w w' := by
  have HN : Hid (L.length = n) := hn
  have HF : Hid (byAsks w f P) := hf
  have HA : Hid (0 < n → ∃ g o, ao = some ⟨g, o, none⟩ ∧ GAt byE w g o L ∧ cap ≤ maxLen) := ha
  unfold maxLen at hn2
  clear hn hf ha
  go_enter Try.func48, Try.ntmps48
  go_wp2
  go_loopw [8] (fun i wr => ∃ k : Nat, k ≤ n ∧ i = .int .i64 k ∧ (L.take k).any P = false ∧ Below w.heap.size w wr)
    (fun i _ => n - (intOf i).toNat)
  case atStart => exact ⟨0, by omega, rfl, by simp, Below.refl _ _⟩
  case round =>
    obtain ⟨k, hk, rfl, hno, hB⟩ := hrel
    have HB : Hid (Below w.heap.size w wr) := hB
    have HNO : Hid ((L.take k).any P = false) := hno
    clear hno
    by_cases hlt : k < n
    · obtain ⟨g, o, hao, hc, _⟩ := HA.out (by omega)
      subst hao
      obtain ⟨x, hkl, hL, q0⟩ := by_at (hc.later hB) HN.out hlt
      have HL : Hid (L[k] = x) := hL
      clear hL hB
      cases ho : P x
      · go_wp2_with fail
        refine (HF.out x _ HB.out).mono ?_
        rintro e w1 ⟨rfl, hb1⟩
        rw [ho]
        have HB1 := HB.out.trans (hb1.mono HB.out.size)
        clear hb1
        go_wp2
        go_roundw
        case rel => exact ⟨k + 1, by omega, by go_num, any_nextG hkl HNO.out (by rw [HL.out]; exact ho), HB1⟩
        case measure => simp [intOf]; omega
      · go_wp2_with fail
        refine (HF.out x _ HB.out).mono ?_
        rintro e w1 ⟨rfl, hb1⟩
        rw [ho]
        go_wp2
        go_ret
        exact ⟨by rw [ixG_hit hkl HNO.out (by rw [HL.out]; exact ho)]; rfl, HB.out.trans (hb1.mono HB.out.size)⟩
    · obtain rfl : k = n := by omega
      go_wp2
      go_ret
      exact ⟨by have := HNO.out; rw [← HN.out, List.take_length] at this; rw [ixG_no this]; rfl, HB.out⟩

set_option maxHeartbeats 1000000 in
theorem by_hasF (ao : Option Addr) (n cap : Nat) (f : FuncId) (P : UInt8 → Bool) (L : List (UInt8)) (w : World) (hn : L.length = n) (hn2 : n ≤ maxLen) (ha : 0 < n → ∃ g o, ao = some ⟨g, o, none⟩ ∧ GAt byE w g o L ∧ cap ≤ maxLen) (he : ∀ args w, (callFunc f args).run Try.prog w = .ok (.enter f args) w) (hf : byAsks w f P) :
    Calls Try.prog 45 #[.slice ao n cap, .func (Fn.func f) #[] #[]] w fun e w' => e = .returned (.bool (L.any P)) ∧ Below w.heap.size w w' := by
  rw [← ixG_any]
  obtain ⟨x, hx⟩ : ∃ x, x = ixG P L := ⟨_, rfl⟩
  have HX : Hid (x = ixG P L) := hx
  rw [← hx]
  clear hx
  go_enter Try.func45, Try.ntmps45
  go_wp2_with fail
  refine (by_idxF ao n cap f P L _ hn hn2 ha he hf).mono ?_
  rintro e w1 ⟨rfl, hb1⟩
  rw [← HX.out]
  go_wp2
  go_ret
  exact ⟨rfl, hb1⟩
end Go.Proofs.Ytpmcjelihdlfeaa
/- What topo.isName answers: a contract for the walks above it. -/
namespace Go.Proofs.Ytpmcjelihdlfeaa
open Go.RowKit
set_option linter.unusedSimpArgs false
set_option linter.unusedVariables false

/-- Is a byte none of a to z? -/
def noL (b : UInt8) : Bool := decide ((b.toNat : Int) < 97) || decide ((122 : Int) < (b.toNat : Int))
set_option maxHeartbeats 1000000 in
theorem isName1_any (b : UInt8) (w : World) : Calls Try.prog 46 #[.int .u8 (b.toNat : Int)] w fun e w' => e = .returned (.bool (noL b)) ∧ Below w.heap.size w w' := by
  have hn : noL b = (decide ((b.toNat : Int) < 97) || decide ((122 : Int) < (b.toNat : Int))) := rfl
  generalize (b.toNat : Int) = x at *
  rw [hn]
  clear hn
  by_cases h : x < 97
  · have e : (decide (x < 97) || decide (122 < x)) = true := by simp [h]
    rw [e]
    go_enter Try.func46, Try.ntmps46
    go_wp2
    go_ret
    exact ⟨rfl, Below.refl _ _⟩
  · have e : (decide (x < 97) || decide (122 < x)) = decide (122 < x) := by simp [h]
    rw [e]
    go_enter Try.func46, Try.ntmps46
    go_wp2
    go_ret
    exact ⟨rfl, Below.refl _ _⟩
theorem isName1_asks (w : World) : byAsks w 46 noL := fun x W _ => isName1_any x W
theorem bytes_conv (s : ByteArray) (w : World) : ∃ cap w1, (convert 9 97 (.string s)).run Try.prog w = .ok (.slice (some ⟨w.heap.size, 0, none⟩) s.size cap) w1 ∧ Below w.heap.size w w1 ∧ GAt byE w1 w.heap.size 0 s.data.toList ∧ (s.size ≤ maxLen → cap ≤ maxLen) := by
  refine ⟨_, _, run_bytes_of_string w _ _ 5 s Try.underlying9 Try.underlying97 Try.underlying5, ?_, ?_, fun h => grownCap_le_maxLen w _ _ _ h⟩
  · exact (Below.drew (Below.refl _ _)).alloc (Nat.le_refl _) _
  · intro i hi j u hu
    have hj : j = 0 := by
      have := (List.getElem?_eq_some_iff.1 hu).1
      have e : (byE.c s.data.toList[i]).length = 1 := rfl
      omega
    subst hj
    have hu2 : u = .int .u8 (s.data.toList[i].toNat : Int) := by
      have : some (Value.int .u8 (s.data.toList[i].toNat : Int)) = some u := hu
      exact (Option.some.inj this).symm
    subst hu2
    have hi2 : i < s.data.size := by simpa using hi
    have e : 0 + i * byE.n + 0 = i := by show 0 + i * 1 + 0 = i; omega
    rw [e]
    simp only [World.cell?, World.alloc, World.drew]
    simp [bytesRow]
    rw [Array.getElem?_append_left (by simpa using hi2), Array.getElem?_map, Array.getElem?_eq_getElem hi2]
    rfl
theorem nm_eq {s : ByteArray} (h1 : 1 ≤ s.size) (h6 : s.size ≤ 6) : nmB s = !(s.data.toList.any noL) := by
  have e : nmB s = (s.data.toList.all fun c => decide (97 ≤ c.toNat) && decide (c.toNat ≤ 122)) := by simp [nmB, h1, h6]
  rw [e, List.not_any_eq_all_not]
  congr 1
  funext c
  rw [Bool.eq_iff_iff]
  simp [noL]
  omega
set_option maxHeartbeats 1000000 in
theorem name_ok (s : ByteArray) (w : World) (h1 : 1 ≤ s.size) (h6 : s.size ≤ 6) :
    Calls Try.prog 38 #[.string s] w fun e w' => e = .returned (.bool (nmB s)) ∧ Below w.heap.size w w' := by
  have hs1 : ¬ ((s.size : Int) < 1) := by omega
  have hs6 : ¬ ((6 : Int) < (s.size : Int)) := by omega
  obtain ⟨cap, w1, hcv, hb1, hG, hcap⟩ := bytes_conv s w
  have HCAP : Hid (s.size ≤ maxLen → cap ≤ maxLen) := hcap
  have HB1 : Hid (Below w.heap.size w w1) := hb1
  have HG : Hid (GAt byE w1 w.heap.size 0 s.data.toList) := hG
  have HE : Hid (nmB s = !(s.data.toList.any noL)) := nm_eq h1 h6
  rw [HE.out]
  obtain ⟨r, hr⟩ : ∃ r, r = s.data.toList.any noL := ⟨_, rfl⟩
  have HR : Hid (r = s.data.toList.any noL) := hr
  rw [← hr]
  clear hr hb1 hG HE hcap
  obtain ⟨n, hn⟩ : ∃ n, n = s.size := ⟨_, rfl⟩
  have HN : Hid (n = s.size) := hn
  rw [← hn] at hcv hs1 hs6 h1 h6
  clear hn
  have hsz : s.size = n := HN.out.symm
  go_enter Try.func38, Try.ntmps38
  go_wp2_with fail
  refine (by_hasF _ n cap _ noL s.data.toList _ (by rw [HN.out]; simp) (by unfold maxLen; omega) (fun _ => ⟨_, _, rfl, HG.out, HCAP.out (by rw [← HN.out]; unfold maxLen; omega)⟩) (enters_of Try.func46 (by kernel_rfl) rfl) (isName1_asks _)).mono ?_
  rintro e w2 ⟨rfl, hb2⟩
  rw [← HR.out]
  have HB2 : Hid (Below w.heap.size w w2) := HB1.out.trans (hb2.mono HB1.out.size)
  clear hb2
  go_wp2
  go_ret
  exact ⟨rfl, HB2.out⟩
set_option maxHeartbeats 1000000 in
theorem name_bad (s : ByteArray) (w : World) (h : s.size < 1 ∨ 6 < s.size) :
    Calls Try.prog 38 #[.string s] w fun e w' => e = .returned (.bool false) ∧ Below w.heap.size w w' := by
  obtain ⟨n, hn⟩ : ∃ n, n = s.size := ⟨_, rfl⟩
  have hsz : s.size = n := hn.symm
  rw [hsz] at h
  clear hn
  by_cases h1 : (n : Int) < 1
  · go_enter Try.func38, Try.ntmps38
    go_wp2
    go_ret
    exact ⟨rfl, Below.refl _ _⟩
  · have h6 : (6 : Int) < (n : Int) := by omega
    clear h
    go_enter Try.func38, Try.ntmps38
    go_wp2
    go_ret
    exact ⟨rfl, Below.refl _ _⟩
theorem name_any (s : ByteArray) (w : World) :
    Calls Try.prog 38 #[.string s] w fun e w' => e = .returned (.bool (nmB s)) ∧ Below w.heap.size w w' := by
  by_cases h : 1 ≤ s.size ∧ s.size ≤ 6
  · exact name_ok s w h.1 h.2
  · have e : nmB s = false := by
      unfold nmB
      by_cases h1 : 1 ≤ s.size
      · have : ¬ s.size ≤ 6 := fun h2 => h ⟨h1, h2⟩
        simp [this]
      · simp [h1]
    rw [e]
    exact name_bad s w (by omega)
end Go.Proofs.Ytpmcjelihdlfeaa
/- The struct api.Host: its cells, slices of them, == of two, such that came in. Written by mk/struct.py. -/
namespace Go.Proofs.Ytpmcjelihdlfeaa
open Go.ChangeShapes Go.WideShapes Go.ChangeAt Go.RowKit Go.Joins
set_option linter.unusedSimpArgs false
set_option linter.unusedVariables false
set_option maxRecDepth 100000

def hstE : Enc (ByteArray × (Int × Int)) where
  c := fun x => [.string x.1, .int .i64 x.2.1, .int .i64 x.2.2]
  n := 3
  len := fun _ => rfl
  pos := by decide
  one := by
    intro x u hu
    simp at hu
    rcases hu with rfl | rfl | rfl <;> rfl
theorem hst_cells {w : World} {g o : Nat} {x0 : ByteArray} {x1 : Int} {x2 : Int} (h : VAt w g o (hstE.c (x0, (x1, x2)))) : w.cell? ⟨g, o, none⟩ = some (.string x0) ∧ w.cell? ⟨g, o + 1, none⟩ = some (.int .i64 x1) ∧ w.cell? ⟨g, o + 2, none⟩ = some (.int .i64 x2) :=
  ⟨h 0 _ rfl, h 1 _ rfl, h 2 _ rfl⟩
theorem hst_at {w : World} {g o : Nat} {L : List (ByteArray × (Int × Int))} (h : GAt hstE w g o L) {n k : Nat} (hn : L.length = n) (hk : k < n) :
    ∃ (x0 : ByteArray) (x1 : Int) (x2 : Int) (hl : k < L.length), L[k] = (x0, (x1, x2)) ∧ w.cell? ⟨g, o + k * 3, none⟩ = some (.string x0) ∧ w.cell? ⟨g, o + k * 3 + 1, none⟩ = some (.int .i64 x1) ∧ w.cell? ⟨g, o + k * 3 + 2, none⟩ = some (.int .i64 x2) :=
  have hl : k < L.length := by omega
  ⟨_, _, _, hl, rfl, hst_cells (h k hl)⟩
theorem hst_new (w : World) (x0 : ByteArray) (x1 : Int) (x2 : Int) (t : TypeId) : VAt (w.alloc (Obj.cells #[.string x0, .int .i64 x1, .int .i64 x2] t)) w.heap.size 0 (hstE.c (x0, (x1, x2))) := vat_new w [.string x0, .int .i64 x1, .int .i64 x2] t
theorem hst_row (w : World) (x0 : ByteArray) (x1 : Int) (x2 : Int) (t : TypeId) : GS hstE (w.alloc (Obj.cells #[.string x0, .int .i64 x1, .int .i64 x2] t)) (.slice (some ⟨w.heap.size, 0, none⟩) 1 1) [(x0, (x1, x2))] := gs_one (E := hstE) w (x0, (x1, x2)) t (vs := [.string x0, .int .i64 x1, .int .i64 x2]) rfl
/-- Are two the same? -/
def hstB (a b : ByteArray × (Int × Int)) : Bool := (a.1 == b.1) && ((a.2.1 == b.2.1) && ((a.2.2 == b.2.2)))
theorem hst_ways (x0 : ByteArray) (x1 : Int) (x2 : Int) (y0 : ByteArray) (y1 : Int) (y2 : Int) :
    ((x0.toList == y0.toList) = false ∧ hstB (x0, (x1, x2)) (y0, (y1, y2)) = false) ∨
    ((x0.toList == y0.toList) = true ∧ (x1 == y1) = false ∧ hstB (x0, (x1, x2)) (y0, (y1, y2)) = false) ∨
    ((x0.toList == y0.toList) = true ∧ (x1 == y1) = true ∧ (x2 == y2) = false ∧ hstB (x0, (x1, x2)) (y0, (y1, y2)) = false) ∨
    ((x0.toList == y0.toList) = true ∧ (x1 == y1) = true ∧ (x2 == y2) = true ∧ hstB (x0, (x1, x2)) (y0, (y1, y2)) = true) := by
  have e : hstB (x0, (x1, x2)) (y0, (y1, y2)) = ((x0.toList == y0.toList) && ((x1 == y1) && ((x2 == y2)))) := by simp only [hstB, beq_toListBytes]
  rw [e]
  cases h0 : (x0.toList == y0.toList)
  · simp
  · skip
    cases h1 : (x1 == y1)
    · simp
    · skip
      cases h2 : (x2 == y2)
      · simp
      · skip
        simp
set_option maxRecDepth 100000 in
theorem hst_eq (x0 : ByteArray) (x1 : Int) (x2 : Int) (y0 : ByteArray) (y1 : Int) (y2 : Int) (w : World) : (Op.equal 32 (.agg #[.string x0, .int .i64 x1, .int .i64 x2]) (.agg #[.string y0, .int .i64 y1, .int .i64 y2])).run Try.prog w = .ok (hstB (x0, (x1, x2)) (y0, (y1, y2))) w := by
  unfold Op.equal Op.maxDepth
  rw [run_equalIn_struct w 9999 _ _ _ (by kernel_rfl) (by kernel_rfl)]
  rcases hst_ways x0 x1 x2 y0 y1 y2 with ⟨e0, e⟩ | ⟨e0, e1, e⟩ | ⟨e0, e1, e2, e⟩ | ⟨e0, e1, e2, e⟩
  all_goals
    rw [e]
    go_simp
theorem hst_info : (Try.prog.info? 32).map (fun i => (i.zero, i.size, i.bytes)) = some (some (.agg #[.string ByteArray.empty, .int .i64 0, .int .i64 0]), 3, 32) := by kernel_rfl
theorem hst_zero : (Value.agg #[.string ByteArray.empty, .int .i64 0, .int .i64 0]).cells.size = 3 := by simp [Value.cells]
/-- Cells that read as one. -/
theorem hst_open {H : Type} {enc : TypeId × Value → H} {W : World} {n : Nat} {cs : List Value} {x : DataW H × List MemPlace}
    (h : DataW.trod enc Try.prog W 0 (fun _ => true) true n 32 cs = some x) : ∃ y, cs = hstE.c y := by
  obtain ⟨xs, k, _, _, hl, hlen, hf⟩ := DataW.trod_struct Try.underlying32 h
  have hC : Try.prog.cellsOf 32 = 3 := by kernel_rfl
  have hT0 : Try.prog.cellsOf 9 = 1 := by kernel_rfl
  have hT1 : Try.prog.cellsOf 30 = 2 := by kernel_rfl
  rw [hC] at hl
  match cs, hl with
  | [c0, c1, c2], _ =>
    match xs, hlen with
    | [z0, z1], _ =>
      have g0 := hf 0 _ rfl
      have g1 := hf 1 _ rfl
      simp [hT0, hT1] at g0 g1
      obtain ⟨v0, e0, _, _⟩ := DataW.trod_string Try.underlying9 g0
      obtain ⟨s1, e1⟩ := spo_open g1
      simp [spoE] at e0 e1
      refine ⟨(v0, (s1.1, s1.2)), ?_⟩
      simp [hstE, e0, e1]
set_option maxRecDepth 100000 in
/-- One that came in. -/
theorem hst_of {H : Type} {enc : TypeId × Value → H} {W : World} {base : Nat} {v : Value} {d : DataW H} {p : List MemPlace}
    (hv : Value.okWide Try.prog W .any base 32 v) (h : DataW.Trod enc Try.prog W 0 (fun _ => true) true 32 v d p) : ∃ (x0 : ByteArray) (x1 : Int) (x2 : Int), v = .agg #[.string x0, .int .i64 x1, .int .i64 x2] := by
  obtain ⟨cs, rfl, hsz⟩ := okWide_struct Try.underlying32 hv
  obtain ⟨n, hn⟩ := h
  obtain ⟨y, e⟩ := hst_open hn
  refine ⟨y.1, y.2.1, y.2.2, ?_⟩
  simp only [Value.cells] at e
  have e2 : cs = #[.string y.1, .int .i64 y.2.1, .int .i64 y.2.2] := by
    rw [← Array.toArray_toList (xs := cs), e]
    rfl
  rw [e2]
/-- A slice of them that came in. -/
theorem hsts_of {H : Type} {enc : TypeId × Value → H} {W : World} {base : Nat} {v : Value} {d : DataW H} {p : List MemPlace}
    (hv : Value.okWide Try.prog W .any base 23 v) (h : DataW.Trod enc Try.prog W 0 (fun _ => true) true 23 v d p) : ∃ L, GS hstE W v L :=
  gs_of (E := hstE) 23 32 Try.underlying23 (by kernel_rfl) (ByteArray.empty, (0, 0)) (fun _ _ _ h => hst_open h) hv h
end Go.Proofs.Ytpmcjelihdlfeaa
/- What topo.settle answers: a contract for the walks above it. -/
namespace Go.Proofs.Ytpmcjelihdlfeaa
open Go.RowKit
set_option linter.unusedSimpArgs false
set_option linter.unusedVariables false

/-- What holds of the two maps behind a host. -/
def SetQ (w w' : World) (B C : Nat) (N : Int) (V : List (Int × Int)) (Z : List ByteArray) : Prop := ∃ M' R', MAt spotKey veI w' B M' ∧ MAt strKey veI w' C R' ∧ (N = 0 → TK sq M' V ∧ TK (fun a b => a == b) R' Z) ∧ But [B, C] w w'
set_option maxHeartbeats 1000000 in
set_option maxRecDepth 100000 in
theorem settle_ok (S : Int) (n : ByteArray) (x0 x1 : Int) (B C : Nat) (hBC : B ≠ C) (M : List ((Int × Int) × Int)) (R : List (ByteArray × Int)) (U : List (Int × Int)) (Z : List ByteArray) (w : World) (hM : MAt spotKey veI w B M) (hR : MAt strKey veI w C R) (hT : TK sq M U) (hZ : TK (fun a b => a == b) R Z) (hU : U.length ≤ 1000) (hZl : Z.length ≤ 1000)
    (ha : nmB n = true) (hb : spB S (x0, x1) = true) (N : Int) (hN : N = ho1 S Z U (n, (x0, x1))) :
    Calls Try.prog 27 #[.int .i64 S, .map (some B), .map (some C), .agg #[.string n, .int .i64 x0, .int .i64 x1]] w fun e w' => e = .returned (noV N) ∧ SetQ w w' B C N (U ++ [(x0, x1)]) (Z ++ [n]) := by
  have hltB := hM.lt
  have hltC := hR.lt
  have HN : Hid (N = ho1 S Z U (n, (x0, x1))) := hN
  have HB0 : Hid (Below w.heap.size w (w.alloc (Obj.cells #[Value.string n, Value.int IntKind.i64 x0, Value.int IntKind.i64 x1] 32))) := (Below.refl _ _).alloc (Nat.le_refl _) _
  have HC := hst_new w n x0 x1 32
  have HM0 : Hid (MAt spotKey veI w B M) := hM
  have HR0 : Hid (MAt strKey veI w C R) := hR
  have HT : Hid (TK sq M U) := hT
  have HZ : Hid (TK (fun a b => a == b) R Z) := hZ
  have hneB : ¬ w.heap.size = B := by omega
  have hneC : ¬ w.heap.size = C := by omega
  clear hM hR hT hZ hN
  go_enter Try.func27, Try.ntmps27
  go_wp2_with fail
  refine (name_any n _).mono ?_
  rintro e w1 ⟨rfl, hb1⟩
  rw [ha]
  have HB1 : Hid (Below w.heap.size w w1) := HB0.out.trans (hb1.mono HB0.out.size)
  have HC1 := HC.later hb1
  obtain ⟨c0, c1, c2⟩ := hst_cells HC1
  simp only [Nat.zero_add] at c0 c1 c2
  clear hb1
  go_wp2_with fail
  refine (isSpot_any S x0 x1 _).mono ?_
  rintro e w2 ⟨rfl, hb2⟩
  rw [hb]
  have HB2 : Hid (Below w.heap.size w w2) := HB1.out.trans (hb2.mono HB1.out.size)
  have d0 := cell_later hb2 c0
  have d1 := cell_later hb2 c1
  have d2 := cell_later hb2 c2
  have HM2 : Hid (MAt spotKey veI w2 B M) := (HM0.out.later HB2.out)
  have HR2 : Hid (MAt strKey veI w2 C R) := (HR0.out.later HB2.out)
  clear hb2 HC1 HC c0 c1 c2 HB1 HB0
  go_upto_region 5 with fail
  obtain ⟨cA, hcA⟩ : ∃ cA : Int, cA = (ctM (fun a b => a == b) n Z : Int) := ⟨_, rfl⟩
  have HcA : Hid (cA = (ctM (fun a b => a == b) n Z : Int)) := hcA
  have hcw : IntKind.i64.wrap (cA + 1) = cA + 1 := by
    have h1 := ct_le (q := fun a b : ByteArray => a == b) n Z
    exact wrap_small (by omega) (by omega)
  clear hcA
  go_cut [] from 20 to 24 (fun w' => ∃ R1, MAt strKey veI w' C R1 ∧ TK (fun a b => a == b) R1 (Z ++ [n]) ∧ But [C] w2 w')
  case first =>
    obtain ⟨w3, hup, hR3, hg3⟩ := run_update_M HR2.out 83 3 Try.underlying83 n (cA + 1)
    have hTK3 : Hid (TK (fun a b => a == b) (mput (fun a b => a == b) n (cA + 1) R) (Z ++ [n])) := by
      show TK _ _ _
      rw [HcA.out]
      exact tk_put ba_iff HZ.out _
    have HR3 : Hid (MAt strKey veI w3 C (mput (fun a b => a == b) n (cA + 1) R)) := hR3
    have HBt : Hid (But [C] w2 w3) := But.of_grown hg3 (by simp)
    have hl2 : (Instr.lookup 83 (.map (some C)) (.string n) false).run Try.prog w2 = .ok (.int .i64 cA) w2 := by
      rw [HcA.out]
      exact run_lookup_TK HR2.out HZ.out 83 3 Try.underlying83 (fun w => by kernel_rfl) n
    have h3 : (Instr.mapUpdate 83 (.map (some C)) (.string n) (.int .i64 (cA + 1))).run Try.prog w2 = .ok () w3 := hup
    clear hup hR3 hg3
    go_wp2
    go_meet
    case rel => exact ⟨_, HR3.out, hTK3.out, HBt.out⟩
  case rest =>
    obtain ⟨R1, hR1, hZ1, hBt1⟩ := hcut
    obtain ⟨w5, hw5⟩ : ∃ x, x = wc := ⟨_, rfl⟩
    subst hw5
    have hl2 : w.heap.size < w2.heap.size := World.block_lt_of_cell? _ _ d0
    have hnC : w.heap.size ∉ [C] := by simp [hneC]
    have e0 := (hBt1.cell (p := ⟨w.heap.size, 0, none⟩) hl2 hnC).trans d0
    have e1 := (hBt1.cell (p := ⟨w.heap.size, 1, none⟩) hl2 hnC).trans d1
    have e2 := (hBt1.cell (p := ⟨w.heap.size, 2, none⟩) hl2 hnC).trans d2
    have HM5 : Hid (MAt spotKey veI w5 B M) := HM2.out.but hBt1 (by simp [hBC])
    have HR5 : Hid (MAt strKey veI w5 C R1) := hR1
    have HZ5 : Hid (TK (fun a b => a == b) R1 (Z ++ [n])) := hZ1
    have HBt5 : Hid (But [B, C] w w5) := (But.of_below (HB2.out)).trans (hBt1.mono (by simp))
    clear hR1 hZ1 hBt1 d0 d1 d2 HM2 HR2 hcw HcA hnC hl2
    obtain ⟨cB, hcB⟩ : ∃ cB : Int, cB = (ctM sq (x0, x1) U : Int) := ⟨_, rfl⟩
    have HcB : Hid (cB = (ctM sq (x0, x1) U : Int)) := hcB
    have hcw : IntKind.i64.wrap (cB + 1) = cB + 1 := by
      have h1 := ct_le (q := sq) (x0, x1) U
      exact wrap_small (by omega) (by omega)
    clear hcB
    go_upto_region 6 with fail
    go_cut [] from 25 to 31 (fun w' => ∃ M2, MAt spotKey veI w' B M2 ∧ TK sq M2 (U ++ [(x0, x1)]) ∧ But [B] w5 w')
    case first =>
      have hMd : MAt spotKey veI w5.drew B M := HM5.out
      obtain ⟨v0, st, w3, hE, hg3, hM3, hS3⟩ := run_entry_M hMd 81 3 Try.underlying81 0 (fun w => by kernel_rfl) (x0, x1)
      obtain ⟨w4, hSt, hM4, hg4⟩ := hS3 w3 (cB + 1) rfl
      have hTK4 : Hid (TK sq (mput sq (x0, x1) (cB + 1) M) (U ++ [(x0, x1)])) := by
        show TK _ _ _
        rw [HcB.out]
        exact tk_put sq_iff HT.out _
      have HM4 : Hid (MAt spotKey veI w4 B (mput sq (x0, x1) (cB + 1) M)) := hM4
      have HBt : Hid (But [B] w5 w4) := ((But.refl [B] w5).drew.trans (But.of_grown hg3 (by simp))).trans (But.of_grown hg4 (by simp))
      have hl2 : (Instr.lookup 81 (.map (some B)) (.agg #[.int .i64 x0, .int .i64 x1]) false).run Try.prog w5.drew = .ok (.int .i64 cB) w5.drew := by
        rw [HcB.out]
        exact run_lookup_TK hMd HT.out 81 3 Try.underlying81 (fun w => by kernel_rfl) (x0, x1)
      have hl3 : (Instr.lookup 81 (.map (some B)) (.agg #[.int .i64 x0, .int .i64 x1]) false).run Try.prog w3 = .ok (.int .i64 cB) w3 := by
        have h := run_lookup_M hM3 81 3 Try.underlying81 (.int .i64 0) (fun w => by kernel_rfl) (x0, x1) false
        have e : mget spotKey.q (x0, x1) (mput spotKey.q (x0, x1) ((mget spotKey.q (x0, x1) M).getD 0) M) = some cB := by
          rw [mget_put spotKey.qeq, if_pos ((spotKey.qeq _ _).2 rfl), HcB.out]
          exact congrArg some (HT.out (x0, x1))
        rw [e] at h
        exact h
      have h1 : (Instr.mapEntry 81 (.map (some B)) (.agg #[.int .i64 x0, .int .i64 x1])).run Try.prog w5.drew = .ok (.tuple #[v0, .int .i64 (st : Int)]) w3 := hE
      have h3 : (Instr.entryStore 81 (.map (some B)) (.int .i64 (st : Int)) (.int .i64 (cB + 1))).run Try.prog w3 = .ok () w4 := hSt
      clear hE hS3 hSt hM3 hM4 hg3 hg4 hMd
      go_region
      go_wp2_with fail
      go_meet
      case rel => exact ⟨_, HM4.out, hTK4.out, HBt.out⟩
    case rest =>
      obtain ⟨M2, hM2, hT2, hBt2⟩ := hcut
      have hnB : w.heap.size ∉ [B] := by simp [hneB]
      have hl2 : w.heap.size < w5.heap.size := World.block_lt_of_cell? _ _ e0
      have f0 := (hBt2.cell (p := ⟨w.heap.size, 0, none⟩) hl2 hnB).trans e0
      have f1 := (hBt2.cell (p := ⟨w.heap.size, 1, none⟩) hl2 hnB).trans e1
      have f2 := (hBt2.cell (p := ⟨w.heap.size, 2, none⟩) hl2 hnB).trans e2
      have hR6 : MAt strKey veI wc C R1 := HR5.out.but hBt2 (by simp [Ne.symm hBC])
      have HM6 : Hid (MAt spotKey veI wc B M2) := hM2
      have HR6 : Hid (MAt strKey veI wc C R1) := hR6
      have HT6 : Hid (TK sq M2 (U ++ [(x0, x1)])) := hT2
      have HBt6 : Hid (But [B, C] w wc) := HBt5.out.trans (hBt2.mono (by simp))
      obtain ⟨pA, hpA⟩ : ∃ p : Int, p = (ctM (fun a b => a == b) n (Z ++ [n]) : Int) := ⟨_, rfl⟩
      obtain ⟨pB, hpB⟩ : ∃ p : Int, p = (ctM sq (x0, x1) (U ++ [(x0, x1)]) : Int) := ⟨_, rfl⟩
      have hlA : (Instr.lookup 83 (.map (some C)) (.string n) false).run Try.prog wc = .ok (.int .i64 pA) wc := by
        rw [hpA]
        exact run_lookup_TK hR6 HZ5.out 83 3 Try.underlying83 (fun w => by kernel_rfl) n
      have hlB : (Instr.lookup 81 (.map (some B)) (.agg #[.int .i64 x0, .int .i64 x1]) false).run Try.prog wc = .ok (.int .i64 pB) wc := by
        rw [hpB]
        exact run_lookup_TK hM2 hT2 81 3 Try.underlying81 (fun w => by kernel_rfl) (x0, x1)
      have HL : Hid (N = if (decide ((1 : Int) < pA) || decide ((1 : Int) < pB)) = true then 7 else 0) := by
        show _ = _
        have e1 : (U.any fun u => sq u (x0, x1)) = (U.any fun u => u == (x0, x1)) := by
          congr 1
        rw [HN.out, hpA, hpB, ct_host ba_iff, ct_host sq_iff, ho1, e1]
        simp only [ha, hb, if_true]
      clear hM2 hT2 hR6 hBt2 e0 e1 e2 hnB hl2 hcw HcB HM5 HR5 HBt5 hpA hpB ha hb
      by_cases h1 : 1 < pA
      · have e7 : N = 7 := by rw [HL.out]; simp [h1]
        subst e7
        go_wp2
        go_ret
        exact ⟨rfl, M2, R1, HM6.out, HR6.out, fun e => absurd e (by decide), HBt6.out⟩
      · by_cases h2 : 1 < pB
        · have e7 : N = 7 := by rw [HL.out]; simp [h2]
          subst e7
          go_wp2
          go_ret
          exact ⟨rfl, M2, R1, HM6.out, HR6.out, fun e => absurd e (by decide), HBt6.out⟩
        · have e7 : N = 0 := by rw [HL.out]; simp [h1, h2]
          subst e7
          go_wp2
          go_ret
          exact ⟨rfl, M2, R1, HM6.out, HR6.out, fun _ => ⟨HT6.out, HZ5.out⟩, HBt6.out⟩
set_option maxHeartbeats 1000000 in
set_option maxRecDepth 100000 in
theorem settle_bad (S : Int) (n : ByteArray) (x0 x1 : Int) (B C : Nat) (N : Int) (w : World) (h : (nmB n = false ∧ N = 2) ∨ (nmB n = true ∧ spB S (x0, x1) = false ∧ N = 1)) :
    Calls Try.prog 27 #[.int .i64 S, .map (some B), .map (some C), .agg #[.string n, .int .i64 x0, .int .i64 x1]] w fun e w' => e = .returned (.iface 57 (.int .i64 N)) ∧ Below w.heap.size w w' := by
  have HB0 : Hid (Below w.heap.size w (w.alloc (Obj.cells #[Value.string n, Value.int IntKind.i64 x0, Value.int IntKind.i64 x1] 32))) := (Below.refl _ _).alloc (Nat.le_refl _) _
  have HC := hst_new w n x0 x1 32
  rcases h with ⟨ha, rfl⟩ | ⟨ha, hb, rfl⟩
  · go_enter Try.func27, Try.ntmps27
    go_wp2_with fail
    refine (name_any n _).mono ?_
    rintro e w1 ⟨rfl, hb1⟩
    rw [ha]
    have HB1 : Hid (Below w.heap.size w w1) := HB0.out.trans (hb1.mono HB0.out.size)
    clear hb1 HC
    go_wp2
    go_ret
    exact ⟨rfl, HB1.out⟩
  · go_enter Try.func27, Try.ntmps27
    go_wp2_with fail
    refine (name_any n _).mono ?_
    rintro e w1 ⟨rfl, hb1⟩
    rw [ha]
    have HB1 : Hid (Below w.heap.size w w1) := HB0.out.trans (hb1.mono HB0.out.size)
    obtain ⟨c0, c1, c2⟩ := hst_cells (HC.later hb1)
    simp only [Nat.zero_add] at c0 c1 c2
    clear hb1 HC
    go_wp2_with fail
    refine (isSpot_any S x0 x1 _).mono ?_
    rintro e w2 ⟨rfl, hb2⟩
    rw [hb]
    have HB2 : Hid (Below w.heap.size w w2) := HB1.out.trans (hb2.mono HB1.out.size)
    clear hb2
    go_wp2
    go_ret
    exact ⟨rfl, HB2.out⟩
theorem settle_any (S : Int) (n : ByteArray) (x0 x1 : Int) (B C : Nat) (hBC : B ≠ C) (M : List ((Int × Int) × Int)) (R : List (ByteArray × Int)) (U : List (Int × Int)) (Z : List ByteArray) (w : World) (hM : MAt spotKey veI w B M) (hR : MAt strKey veI w C R) (hT : TK sq M U) (hZ : TK (fun a b => a == b) R Z) (hU : U.length ≤ 1000) (hZl : Z.length ≤ 1000) :
    Calls Try.prog 27 #[.int .i64 S, .map (some B), .map (some C), .agg #[.string n, .int .i64 x0, .int .i64 x1]] w fun e w' => e = .returned (noV (ho1 S Z U (n, (x0, x1)))) ∧ SetQ w w' B C (ho1 S Z U (n, (x0, x1))) (U ++ [(x0, x1)]) (Z ++ [n]) := by
  cases ha : nmB n
  · have e1 : ho1 S Z U (n, (x0, x1)) = 2 := by simp only [ho1, ha, Bool.false_eq_true, if_false]
    rw [e1]
    refine (settle_bad S n x0 x1 B C 2 w (.inl ⟨ha, rfl⟩)).mono ?_
    rintro e w' ⟨rfl, hb⟩
    exact ⟨rfl, M, R, hM.later hb, hR.later hb, fun e => absurd e (by decide), But.of_below hb⟩
  · cases hb : spB S (x0, x1)
    · have e1 : ho1 S Z U (n, (x0, x1)) = 1 := by simp only [ho1, ha, hb, Bool.false_eq_true, if_false, if_true]
      rw [e1]
      refine (settle_bad S n x0 x1 B C 1 w (.inr ⟨ha, hb, rfl⟩)).mono ?_
      rintro e w' ⟨rfl, hb⟩
      exact ⟨rfl, M, R, hM.later hb, hR.later hb, fun e => absurd e (by decide), But.of_below hb⟩
    · exact settle_ok S n x0 x1 B C hBC M R U Z w hM hR hT hZ hU hZl ha hb _ rfl
end Go.Proofs.Ytpmcjelihdlfeaa
