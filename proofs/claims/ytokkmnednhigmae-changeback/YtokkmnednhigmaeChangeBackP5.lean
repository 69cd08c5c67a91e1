/- Contracts and facts on the way to ChangeBack, joined into one text: RuleTab2, NetMath, NetCheck, ChangeMem, TableConcat, Quiet, TableIdx, TableDo, ChangeOps, ClassTwo, StrClone, OwnInts. -/
import Derived.Test.YtokkmnednhigmaeChangeBackP1
import Derived.Test.YtokkmnednhigmaeChangeBackP4
import Derived.Test.YtokkmnednhigmaeChangeBackP3
import Derived.Test.YtokkmnednhigmaeChangeBackP2
import Derived.Deep.CutRange
import Derived.Deep.CutBlock
import Derived.WalkKit
import Derived.WalkSpells
import Derived.Below
import Derived.BigQuiet
import Derived.Deep.QuietTactic
import Derived.Deep.RegionHeld3
import Derived.Test.YtokkmnednhigmaeRows
import Derived.Lib.Strings
import Derived.Lib.Walk
import Derived.Lib.BufferWrite
import Derived.Lib.UnsafeStr
import Derived.Laws.MakeOwn
/- What Table of package rule answers, called with any table: the loop. -/
namespace Go.Proofs.Ytokkmnednhigmae
open Go.RowKit
set_option linter.unusedSimpArgs false

theorem tb_long {L : List Ru} (h : 12 < L.length) : tbN L = 4 := by simp [tbN, h]
theorem tb_at {L : List Ru} (h : L.length ≤ 12) {k : Nat} (hk : k < L.length) {x : Int} (h1 : tbTo L (k + 1) = x) (h2 : x ≠ 0) : tbN L = x := by
  subst h1
  rw [tbN, if_neg (by omega)]
  exact to_le h2 hk
theorem to_bad {L : List Ru} {k : Nat} {r : Ru} (hk : k < L.length) (hr : L[k] = r) (h : tbTo L k = 0) (h2 : r.n ≠ 0) : tbTo L (k + 1) = r.n := by
  rw [tbTo, if_pos h, getD_at hk, hr, if_neg h2]
theorem to_clash {L : List Ru} {k : Nat} {r : Ru} (hk : k < L.length) (hr : L[k] = r) (h : tbTo L k = 0) (h2 : r.n = 0) (h3 : (L.take k).any (fun a => keyB a r) = true) : tbTo L (k + 1) = 7 := by
  rw [tbTo, if_pos h, getD_at hk, hr, if_pos h2, h3]
  rfl
theorem to_next {L : List Ru} {k : Nat} {r : Ru} (hk : k < L.length) (hr : L[k] = r) (h : tbTo L k = 0) (h2 : r.n = 0) (h3 : (L.take k).any (fun a => keyB a r) = false) : tbTo L (k + 1) = 0 := by
  rw [tbTo, if_pos h, getD_at hk, hr, if_pos h2, h3]
  rfl

set_option maxHeartbeats 1000000 in
theorem table_some (g o cap n : Nat) (L : List Ru) (w : World) (hc : RAt w g o L) (hn : L.length = n) (hl : n ≤ 12) (hcap : n ≤ cap) (hcap2 : cap ≤ maxLen) :
    Calls Try.prog 24 #[.slice (some ⟨g, o, none⟩) n cap] w fun e w' => e = .returned (noV (tbN L)) ∧ Below w.heap.size w w' := by
  have HN : Hid (L.length = n) := hn
  unfold maxLen at hcap2
  clear hn
  go_enter Try.func24, Try.ntmps24
  go_wp2
  go_loopw [12] (fun i wr => ∃ k : Nat, k ≤ n ∧ i = .int .i64 k ∧ tbTo L k = 0 ∧ Below w.heap.size w wr) (fun i _ => n - (intOf i).toNat)
  case atStart => exact ⟨0, by omega, rfl, rfl, Below.refl _ _⟩
  case round =>
    obtain ⟨k, hk, rfl, hno, hB⟩ := hrel
    have HB : Hid (Below w.heap.size w wr) := hB
    have HNO : Hid (tbTo L k = 0) := hno
    clear hno
    by_cases hlt : k < n
    · obtain ⟨p, m, b, q, s, v, hkl, hL, q0, q1, q2, q3, q4, q5⟩ := (hc.later hB).at HN.out hlt
      have HL : Hid (L[k] = ⟨p, m, b, q, s, v⟩) := hL
      have HC6 := C6.new wr p m b q s v 37
      have HRT := ((hc.later hB).later ((Below.refl _ _).alloc (Nat.le_refl _) (Obj.cells #[Value.int IntKind.i64 p, Value.int IntKind.i64 m, Value.int IntKind.i64 b, Value.int IntKind.i64 q, Value.int IntKind.i64 s, Value.int IntKind.i64 v] 37))).take k
      have HTL : Hid ((L.take k).length = k) := by show (L.take k).length = k; simp; omega
      have hk2 : k ≤ cap := by omega
      clear hL hB
      by_cases ho : ruN p m b q s v = 0
      · go_wp2_with fail
        refine (ruCheck_any _ _ _ _ _ _ _).mono ?_
        rintro e w1 ⟨rfl, hb1⟩
        rw [no_ok ho]
        have HB1 := HB.out.trans (((Below.refl _ _).alloc (Nat.le_refl _) _).trans (hb1.mono (by simp)) |>.mono HB.out.size)
        have HC7 := HC6.later hb1
        have HR7 := HRT.later hb1
        clear hb1 HC6 HRT
        cases ho2 : (L.take k).any (fun a => keyB a ⟨p, m, b, q, s, v⟩)
        · go_wp2_with fail
          refine (containsR_any _ _ _ k _ ⟨p, m, b, q, s, v⟩ (L.take k) _ HR7 HTL.out (by unfold maxLen; omega) (by unfold maxLen; omega) HC7).mono ?_
          rintro e w2 ⟨rfl, hb2⟩
          rw [ho2]
          have HB2 := HB1.trans (hb2.mono HB1.size)
          clear hb2
          go_wp2
          go_roundw
          case rel => exact ⟨k + 1, by omega, by go_num, to_next hkl HL.out HNO.out ho ho2, HB2⟩
          case measure => simp [intOf]; omega
        · go_wp2_with fail
          refine (containsR_any _ _ _ k _ ⟨p, m, b, q, s, v⟩ (L.take k) _ HR7 HTL.out (by unfold maxLen; omega) (by unfold maxLen; omega) HC7).mono ?_
          rintro e w2 ⟨rfl, hb2⟩
          rw [ho2]
          have HB2 := HB1.trans (hb2.mono HB1.size)
          clear hb2
          go_wp2
          go_ret
          refine ⟨?_, HB2⟩
          rw [tb_at (by rw [HN.out]; exact hl) hkl (to_clash hkl HL.out HNO.out ho ho2) (by decide)]
          rfl
      · go_wp2_with fail
        refine (ruCheck_any _ _ _ _ _ _ _).mono ?_
        rintro e w1 ⟨rfl, hb1⟩
        rw [no_ne ho]
        have HB1 := HB.out.trans (((Below.refl _ _).alloc (Nat.le_refl _) _).trans (hb1.mono (by simp)) |>.mono HB.out.size)
        clear hb1
        go_wp2
        go_ret
        refine ⟨?_, HB1⟩
        rw [tb_at (by rw [HN.out]; exact hl) hkl (to_bad hkl HL.out HNO.out ho) ho, no_ne (show Ru.n ⟨p, m, b, q, s, v⟩ ≠ 0 from ho)]
        rfl
    · obtain rfl : k = n := by omega
      go_wp2
      go_ret
      refine ⟨?_, HB.out⟩
      have e1 : tbN L = 0 := by
        rw [tbN, if_neg (by rw [HN.out]; omega), HN.out]
        exact HNO.out
      rw [e1]
      rfl

set_option maxHeartbeats 1000000 in
theorem table_long (ao : Option Addr) (cap n : Nat) (w : World) (hl : 12 < n) :
    Calls Try.prog 24 #[.slice ao n cap] w fun e w' => e = .returned (.iface 52 (.int .i64 4)) ∧ Below w.heap.size w w' := by
  go_enter Try.func24, Try.ntmps24
  go_wp2
  go_ret
  exact ⟨rfl, Below.refl _ _⟩

set_option maxHeartbeats 1000000 in
theorem table_nil (ao : Option Addr) (cap : Nat) (w : World) :
    Calls Try.prog 24 #[.slice ao 0 cap] w fun e w' => e = .returned .nilIface ∧ Below w.heap.size w w' := by
  go_enter Try.func24, Try.ntmps24
  go_wp2
  go_loopw [12] (fun i wr => i = .int .i64 0 ∧ wr = w) (fun i _ => 0)
  case atStart => exact ⟨rfl, rfl⟩
  case round =>
    obtain ⟨rfl, rfl⟩ := hrel
    go_wp2
    go_ret
    exact ⟨rfl, Below.refl _ _⟩

theorem table_any (v : Value) (L : List Ru) (w : World) (h : SR w v L) :
    Calls Try.prog 24 #[v] w fun e w' => e = .returned (noV (tbN L)) ∧ Below w.heap.size w w' := by
  rcases h with ⟨ao, cap, rfl, rfl⟩ | ⟨g, o, cap, rfl, h1, h2, hc⟩
  · exact table_nil ao cap w
  · by_cases h12 : 12 < L.length
    · rw [tb_long h12]; exact table_long _ _ _ _ h12
    · exact table_some _ _ _ _ L w hc rfl (by omega) h1 h2
end Go.Proofs.Ytokkmnednhigmae
/- Nets in plain lists: what is wrong with one, where a packet goes out, what becomes of it. No program in it. -/
namespace Go.Proofs.Ytokkmnednhigmae
open Go.RowKit
set_option linter.unusedVariables false

/-- The fault of the first k tables. -/
def tsTo (Ts : List (List Ru)) : Nat → Int
  | 0 => 0
  | k + 1 => if tsTo Ts k = 0 then tbN (Ts.getD k []) else tsTo Ts k
theorem ts_le {Ts : List (List Ru)} {k : Nat} (h : tsTo Ts k ≠ 0) : ∀ {n : Nat}, k ≤ n → tsTo Ts n = tsTo Ts k
  | 0, hn => by
    obtain rfl : k = 0 := by omega
    rfl
  | n + 1, hn => by
    by_cases e : k = n + 1
    · subst e; rfl
    · have := ts_le h (show k ≤ n by omega)
      rw [tsTo, if_neg (by rw [this]; exact h), this]
/-- The fault of a net. -/
def ntN (S : Int) (Ls : List ((Int × Int) × (Int × Int))) (Hs : List (ByteArray × (Int × Int))) (Ts : List (List Ru)) : Int :=
  if tpN S Ls Hs = 0 then (if (Ts.length : Int) = S then tsTo Ts Ts.length else 3) else tpN S Ls Hs
theorem ts_0 {Ts : List (List Ru)} : ∀ {n : Nat}, tsTo Ts n = 0 → ∀ k, k < n → tbN (Ts.getD k []) = 0
  | 0, _, k, hk => by omega
  | n + 1, h, k, hk => by
    unfold tsTo at h
    by_cases e : tsTo Ts n = 0
    · rw [if_pos e] at h
      by_cases ek : k = n
      · subst ek; exact h
      · exact ts_0 e k (by omega)
    · rw [if_neg e] at h
      exact absurd h e
theorem nt_0 {S : Int} {Ls : List ((Int × Int) × (Int × Int))} {Hs : List (ByteArray × (Int × Int))} {Ts : List (List Ru)} (h : ntN S Ls Hs Ts = 0) : tpN S Ls Hs = 0 ∧ (Ts.length : Int) = S ∧ ∀ k, k < Ts.length → tbN (Ts.getD k []) = 0 := by
  unfold ntN at h
  by_cases e : tpN S Ls Hs = 0
  · rw [if_pos e] at h
    by_cases e2 : (Ts.length : Int) = S
    · rw [if_pos e2] at h
      exact ⟨e, e2, ts_0 h⟩
    · rw [if_neg e2] at h
      omega
  · rw [if_neg e] at h
    exact absurd h e
/-- The fault of a packet: of the net, else of the spot or the header. -/
def cpN (S : Int) (Ls : List ((Int × Int) × (Int × Int))) (Hs : List (ByteArray × (Int × Int))) (Ts : List (List Ru)) (s : Int × Int) (h : Int) : Int :=
  if ntN S Ls Hs Ts = 0 then (if spB S s && hdrB h then 0 else 1) else ntN S Ls Hs Ts
theorem cp_0 {S : Int} {Ls : List ((Int × Int) × (Int × Int))} {Hs : List (ByteArray × (Int × Int))} {Ts : List (List Ru)} {s : Int × Int} {h : Int} (e : cpN S Ls Hs Ts s h = 0) : ntN S Ls Hs Ts = 0 ∧ spB S s = true ∧ hdrB h = true := by
  unfold cpN at e
  by_cases e1 : ntN S Ls Hs Ts = 0
  · rw [if_pos e1] at e
    cases e2 : spB S s && hdrB h
    · rw [e2] at e
      simp at e
    · rw [Bool.and_eq_true] at e2
      exact ⟨e1, e2.1, e2.2⟩
  · rw [if_neg e1] at e
    exact absurd e e1

/-- The rule that counts, if one does, in a table. -/
def roR (t : List Ru) (h : Int) : Ru := t.getD (luI t h).toNat zeR
def Ru.apN (r : Ru) (h : Int) : Int := Proofs.Ytokkmnednhigmae.apN r.p r.m r.b r.o r.s r.v h
def Ru.apR (r : Ru) (h : Int) : Int := Proofs.Ytokkmnednhigmae.apR r.p r.m r.b r.o r.s r.v h
/-- Where, and with which header, a packet goes out that a table meets. -/
def stT (t : List Ru) (p : (Int × Int) × Int) : Option ((Int × Int) × Int) :=
  if luN t p.2 = 0 then (if (roR t p.2).apN p.2 = 0 then some ((p.1.1, (roR t p.2).o), (roR t p.2).apR p.2) else none) else none
def taT (Ts : List (List Ru)) (s : Int) : List Ru := Ts.getD (s - 1).toNat []
def stO (Ts : List (List Ru)) (p : (Int × Int) × Int) : Option ((Int × Int) × Int) := stT (taT Ts p.1.1) p
/-- Are two hops the same? -/
def heB (a b : (Int × Int) × Int) : Bool := (a.1.1 == b.1.1) && ((a.1.2 == b.1.2) && ((a.2 == b.2)))
theorem heB_iff (a b : (Int × Int) × Int) : heB a b = true ↔ a = b := by
  obtain ⟨⟨a1, a2⟩, a3⟩ := a
  obtain ⟨⟨b1, b2⟩, b3⟩ := b
  simp [heB, and_assoc]
/-- What becomes of a packet at its last hop: it ends so, or there is a next hop. -/
def goE (Ls : List ((Int × Int) × (Int × Int))) (Hs : List (ByteArray × (Int × Int))) (t : List Ru) (l : List ((Int × Int) × Int)) (p : (Int × Int) × Int) : (Int × ByteArray) ⊕ ((Int × Int) × Int) :=
  match stT t p with
  | none => .inl (2, ByteArray.empty)
  | some q => match atO Hs q.1 with
    | some m => .inl (1, m)
    | none => match peerO Ls q.1 with
      | none => .inl (3, ByteArray.empty)
      | some s => if l.length = 24 ∨ l.any (fun x => heB (s, q.2) x) = true then .inl (4, ByteArray.empty) else .inr (s, q.2)
def zeH : (Int × Int) × Int := ((0, 0), 0)
def laH (l : List ((Int × Int) × Int)) : (Int × Int) × Int := l.getD (l.length - 1) zeH
/-- What becomes of a packet that has had these hops. -/
def foF (Ls : List ((Int × Int) × (Int × Int))) (Hs : List (ByteArray × (Int × Int))) (Ts : List (List Ru)) : Nat → List ((Int × Int) × Int) → Int × ByteArray × List ((Int × Int) × Int)
  | 0, l => (4, ByteArray.empty, l)
  | n + 1, l => match goE Ls Hs (taT Ts (laH l).1.1) l (laH l) with
    | .inl e => (e.1, e.2, l)
    | .inr p => foF Ls Hs Ts n (l ++ [p])
/-- What becomes of a packet that comes in. -/
def frF (Ls : List ((Int × Int) × (Int × Int))) (Hs : List (ByteArray × (Int × Int))) (Ts : List (List Ru)) (s : Int × Int) (h : Int) : Int × ByteArray × List ((Int × Int) × Int) := foF Ls Hs Ts 24 [(s, h)]
/-- No fate at all. -/
def zeF : Int × ByteArray × List ((Int × Int) × Int) := (0, ByteArray.empty, [])
/-- The answers. -/
def spN (S : Int) (Ls : List ((Int × Int) × (Int × Int))) (Hs : List (ByteArray × (Int × Int))) (Ts : List (List Ru)) (s : Int × Int) (h : Int) : Int :=
  if cpN S Ls Hs Ts s h = 0 then (if (stO Ts (s, h)).isSome then 0 else 5) else cpN S Ls Hs Ts s h
def spV (S : Int) (Ls : List ((Int × Int) × (Int × Int))) (Hs : List (ByteArray × (Int × Int))) (Ts : List (List Ru)) (s : Int × Int) (h : Int) : (Int × Int) × Int :=
  if cpN S Ls Hs Ts s h = 0 then (stO Ts (s, h)).getD zeH else zeH
def frV (S : Int) (Ls : List ((Int × Int) × (Int × Int))) (Hs : List (ByteArray × (Int × Int))) (Ts : List (List Ru)) (s : Int × Int) (h : Int) : Int × ByteArray × List ((Int × Int) × Int) :=
  if cpN S Ls Hs Ts s h = 0 then frF Ls Hs Ts s h else zeF
def seN (S : Int) (Ls : List ((Int × Int) × (Int × Int))) (Hs : List (ByteArray × (Int × Int))) (Ts : List (List Ru)) (m : ByteArray) (h : Int) : Int :=
  if ntN S Ls Hs Ts = 0 then (if weN S Ls Hs m = 0 then (if hdrB h then 0 else 1) else weN S Ls Hs m) else ntN S Ls Hs Ts
def seV (S : Int) (Ls : List ((Int × Int) × (Int × Int))) (Hs : List (ByteArray × (Int × Int))) (Ts : List (List Ru)) (m : ByteArray) (h : Int) : Int × ByteArray × List ((Int × Int) × Int) :=
  if seN S Ls Hs Ts m h = 0 then frF Ls Hs Ts (weV S Ls Hs m) h else zeF
end Go.Proofs.Ytokkmnednhigmae
/- What net.Check answers: a contract for the walks above it. -/
namespace Go.Proofs.Ytokkmnednhigmae
open Go.RowKit
set_option linter.unusedSimpArgs false
set_option linter.unusedVariables false

/-- These tables lie one behind the other. -/
def TAt (w : World) (g o : Nat) (Ts : List (List Ru)) : Prop := ∀ i (h : i < Ts.length), ∃ ao n cap, w.cell? ⟨g, o + i, none⟩ = some (.slice ao n cap) ∧ SR w (.slice ao n cap) Ts[i]
theorem TAt.later {w w' : World} {g o : Nat} {Ts : List (List Ru)} (h : TAt w g o Ts) (hb : Below w.heap.size w w') : TAt w' g o Ts := fun i hi => by
  obtain ⟨ao, n, cap, h1, h2⟩ := h i hi
  exact ⟨ao, n, cap, cell_later hb h1, h2.later hb⟩
/-- A value is a slice of these tables. -/
def TS (w : World) (v : Value) (Ts : List (List Ru)) : Prop :=
  (∃ ao cap, v = .slice ao 0 cap ∧ Ts = []) ∨ ∃ g o cap, v = .slice (some ⟨g, o, none⟩) Ts.length cap ∧ Ts.length ≤ cap ∧ cap ≤ maxLen ∧ TAt w g o Ts
theorem TS.later {w w' : World} {v : Value} {Ts : List (List Ru)} (h : TS w v Ts) (hb : Below w.heap.size w w') : TS w' v Ts := by
  rcases h with h | ⟨g, o, cap, h1, h2, h3, h4⟩
  · exact .inl h
  · exact .inr ⟨g, o, cap, h1, h2, h3, h4.later hb⟩
theorem TS.form {w : World} {v : Value} {Ts : List (List Ru)} (h : TS w v Ts) : ∃ ao n cap, v = .slice ao n cap ∧ Ts.length = n ∧ n ≤ maxLen ∧ n ≤ cap ∧ (0 < n → ∃ g o, ao = some ⟨g, o, none⟩ ∧ TAt w g o Ts ∧ cap ≤ maxLen) := by
  rcases h with ⟨ao, cap, rfl, rfl⟩ | ⟨g, o, cap, rfl, h1, h2, h3⟩
  · exact ⟨ao, 0, cap, rfl, rfl, Nat.zero_le _, Nat.zero_le _, fun h => absurd h (by omega)⟩
  · exact ⟨_, _, cap, rfl, rfl, Nat.le_trans h1 h2, h1, fun _ => ⟨g, o, rfl, h3, h2⟩⟩
theorem TS.len {w : World} {ao : Option Addr} {n cap : Nat} {Ts : List (List Ru)} (h : TS w (.slice ao n cap) Ts) : Ts.length = n := by
  rcases h with ⟨_, _, e, rfl⟩ | ⟨_, _, _, e, _⟩
  · simp at e; simp [e]
  · simp at e; exact e.2.1.symm
theorem getT {Ts : List (List Ru)} {k : Nat} (hk : k < Ts.length) : Ts.getD k [] = Ts[k] := by simp [List.getD, hk]
/-- The box of a net. -/
def NeBox (W : World) (g : Nat) (S : Int) (v1 v2 v3 : Value) : Prop := W.cell? ⟨g, 0, none⟩ = some (.int .i64 S) ∧ W.cell? ⟨g, 1, none⟩ = some v1 ∧ W.cell? ⟨g, 2, none⟩ = some v2 ∧ W.cell? ⟨g, 3, none⟩ = some v3
theorem nebox_new (w : World) (S : Int) (v1 v2 v3 : Value) (t : TypeId) : NeBox (w.alloc (Obj.cells #[.int .i64 S, v1, v2, v3] t)) w.heap.size S v1 v2 v3 := by
  refine ⟨?_, ?_, ?_, ?_⟩ <;> simp
theorem NeBox.later {W W' : World} {g : Nat} {S : Int} {v1 v2 v3 : Value} (h : NeBox W g S v1 v2 v3) (hb : Below W.heap.size W W') : NeBox W' g S v1 v2 v3 :=
  ⟨cell_later hb h.1, cell_later hb h.2.1, cell_later hb h.2.2.1, cell_later hb h.2.2.2⟩

set_option maxHeartbeats 2000000 in
set_option maxRecDepth 100000 in
theorem ncheck_any (S : Int) (ao : Option Addr) (n cap : Nat) (ao2 : Option Addr) (n2 cap2 : Nat) (ao3 : Option Addr) (n3 cap3 : Nat) (Ls : List ((Int × Int) × (Int × Int))) (Hs : List (ByteArray × (Int × Int))) (Ts : List (List Ru)) (w : World)
    (hL : GS lnkE w (.slice ao n cap) Ls) (hH : GS hstE w (.slice ao2 n2 cap2) Hs) (hT : TS w (.slice ao3 n3 cap3) Ts) :
    Calls Try.prog 11 #[.agg #[.int .i64 S, .slice ao n cap, .slice ao2 n2 cap2, .slice ao3 n3 cap3]] w fun e w' => e = .returned (noV (ntN S Ls Hs Ts)) ∧ Below w.heap.size w w' := by
  have hb1 : Below w.heap.size w (w.alloc (Obj.cells #[.int .i64 S, .slice ao n cap, .slice ao2 n2 cap2, .slice ao3 n3 cap3] 28)) := (Below.refl _ _).alloc (Nat.le_refl _) _
  obtain ⟨C, hC⟩ : ∃ C, C = ntN S Ls Hs Ts := ⟨_, rfl⟩
  have HC : Hid (C = ntN S Ls Hs Ts) := hC
  rw [← hC]
  have HL2 : Hid (GS lnkE (w.alloc (Obj.cells #[.int .i64 S, .slice ao n cap, .slice ao2 n2 cap2, .slice ao3 n3 cap3] 28)) (.slice ao n cap) Ls) := hL.later hb1
  have HH2 : Hid (GS hstE (w.alloc (Obj.cells #[.int .i64 S, .slice ao n cap, .slice ao2 n2 cap2, .slice ao3 n3 cap3] 28)) (.slice ao2 n2 cap2) Hs) := hH.later hb1
  have HT2 : Hid (TS (w.alloc (Obj.cells #[.int .i64 S, .slice ao n cap, .slice ao2 n2 cap2, .slice ao3 n3 cap3] 28)) (.slice ao3 n3 cap3) Ts) := hT.later hb1
  have HB2 : Hid (Below w.heap.size w (w.alloc (Obj.cells #[.int .i64 S, .slice ao n cap, .slice ao2 n2 cap2, .slice ao3 n3 cap3] 28))) := hb1
  have HX : Hid (NeBox (w.alloc (Obj.cells #[.int .i64 S, .slice ao n cap, .slice ao2 n2 cap2, .slice ao3 n3 cap3] 28)) w.heap.size S (.slice ao n cap) (.slice ao2 n2 cap2) (.slice ao3 n3 cap3)) := nebox_new w S _ _ _ 28
  clear hC hb1 hL hH hT
  go_enter Try.func11, Try.ntmps11
  go_wp2_with fail
  refine (check_any S ao n cap ao2 n2 cap2 Ls Hs _ HL2.out HH2.out).mono ?_
  rintro e w1 ⟨rfl, hb1⟩
  obtain ⟨T, hT⟩ : ∃ T, T = tpN S Ls Hs := ⟨_, rfl⟩
  have HT : Hid (T = tpN S Ls Hs) := hT
  rw [← hT]
  have HB1 : Hid (Below w.heap.size w w1) := HB2.out.trans (hb1.mono HB2.out.size)
  obtain ⟨b0, b1, b2, b3⟩ := HX.out.later hb1
  have HT1 : Hid (TS w1 (.slice ao3 n3 cap3) Ts) := HT2.out.later hb1
  clear hT hb1 HX HL2 HH2 HB2 HT2
  by_cases h0 : T = 0
  · subst h0
    rw [no_ok rfl]
    obtain ⟨_, _, _, e2, hTn, hTm, _, hTa⟩ := HT1.out.form
    cases e2
    have HTN : Hid (Ts.length = n3) := hTn
    have HTM : Hid (n3 ≤ maxLen) := hTm
    have HTA : Hid (0 < n3 → ∃ g o, ao3 = some ⟨g, o, none⟩ ∧ TAt w1 g o Ts ∧ cap3 ≤ maxLen) := hTa
    have n63 : n3 ≤ 9223372036854775807 := by unfold maxLen at hTm; omega
    clear hTn hTm hTa HT1
    by_cases hS : (n3 : Int) = S
    · have HC2 : Hid (C = tsTo Ts n3) := by
        show _ = _
        rw [HC.out, ntN, if_pos HT.out.symm, if_pos (by rw [HTN.out]; exact hS), HTN.out]
      have e1 : ((n3 : Int) != S) = false := by simp [hS]
      clear hS HC
      go_wp2
      go_loopw [24] (fun i wr => ∃ k : Nat, k ≤ n3 ∧ i = .int .i64 k ∧ tsTo Ts k = 0 ∧ Below w1.heap.size w1 wr) (fun i _ => n3 - (intOf i).toNat)
      case atStart => exact ⟨0, by omega, rfl, rfl, Below.refl _ _⟩
      case round =>
        obtain ⟨k, hk, rfl, hz, hB⟩ := hrel
        have HZ : Hid (tsTo Ts k = 0) := hz
        have HB : Hid (Below w1.heap.size w1 wr) := hB
        have HBw : Hid (Below w.heap.size w wr) := HB1.out.trans (hB.mono HB1.out.size)
        clear hz b0 b1 b2 b3
        by_cases hlt : k < n3
        · obtain ⟨g, o, hao, hc, _⟩ := HTA.out (by omega)
          subst hao
          obtain ⟨a4, n4, c4, q0, hs⟩ := (hc.later hB) k (by rw [HTN.out]; exact hlt)
          have HS4 : Hid (SR wr (.slice a4 n4 c4) (Ts.getD k [])) := by
            show SR _ _ _
            rw [getT (by rw [HTN.out]; exact hlt)]
            exact hs
          clear hs hc hB
          go_wp2_with fail
          refine (table_any _ (Ts.getD k []) _ HS4.out).mono ?_
          rintro e w2 ⟨rfl, hb2⟩
          obtain ⟨R, hR⟩ : ∃ R, R = tbN (Ts.getD k []) := ⟨_, rfl⟩
          have HR : Hid (tsTo Ts (k + 1) = R) := by
            show _ = _
            rw [tsTo, if_pos HZ.out, hR]
          rw [← hR]
          have HB3 : Hid (Below w1.heap.size w1 w2) := HB.out.trans (hb2.mono HB.out.size)
          have HBw3 : Hid (Below w.heap.size w w2) := HBw.out.trans (hb2.mono HBw.out.size)
          clear hR hb2 q0
          by_cases hN : R = 0
          · subst hN
            rw [no_ok rfl]
            go_wp2
            go_roundw
            case rel => exact ⟨k + 1, by omega, by go_num, HR.out, HB3.out⟩
            case measure => simp [intOf]; omega
          · rw [no_ne hN]
            have HCR : Hid (C = R) := by
              show _ = _
              rw [HC2.out, ts_le (k := k + 1) (by rw [HR.out]; exact hN) (by omega), HR.out]
            have HNN : Hid (R ≠ 0) := hN
            clear hN
            go_wp2
            go_ret
            exact ⟨by rw [HCR.out, no_ne HNN.out]; rfl, HBw3.out⟩
        · obtain rfl : k = n3 := by omega
          have HCR : Hid (C = 0) := by
            show _ = _
            rw [HC2.out, HZ.out]
          clear hB
          go_wp2
          go_ret
          exact ⟨by rw [HCR.out]; rfl, HBw.out⟩
    · have HC2 : Hid (C = 3) := by
        show _ = _
        rw [HC.out, ntN, if_pos HT.out.symm, if_neg (by rw [HTN.out]; exact hS)]
      have e1 : ((n3 : Int) != S) = true := by simpa using hS
      clear hS HC
      go_wp2
      go_ret
      exact ⟨by rw [HC2.out]; rfl, HB1.out⟩
  · rw [no_ne h0]
    have HC2 : Hid (C = T) := by
      show _ = _
      rw [HC.out, ntN, ← HT.out, if_neg h0]
    have HN0 : Hid (T ≠ 0) := h0
    clear h0
    go_wp2
    go_ret
    exact ⟨by rw [HC2.out, no_ne HN0.out]; rfl, HB1.out⟩
end Go.Proofs.Ytokkmnednhigmae
/- Rows of tables that a call owns: the tables lie elsewhere. -/
namespace Go.Proofs.Ytokkmnednhigmae
open Go.RowKit
set_option linter.unusedSimpArgs false
set_option linter.unusedVariables false

/-- A slice that is empty, or does not lie in a block. -/
def offB (x : SlT) (b : Nat) : Prop := x.2.1 = 0 ∨ ∀ a, x.1 = some a → a.block ≠ b
theorem RAt.lt {w : World} {g o : Nat} {L : List Ru} (h : RAt w g o L) (h0 : 0 < L.length) : g < w.heap.size := World.block_lt_of_cell? _ _ (h 0 h0).c0
theorem SR.off {w : World} {x : SlT} {L : List Ru} (h : SR w (slV x) L) {b : Nat} (hb : w.heap.size ≤ b) : offB x b := by
  obtain ⟨ao, n, cap⟩ := x
  rcases h with ⟨ao', cap', e, rfl⟩ | ⟨g, o, cap', e, h1, h2, h3⟩
  · simp only [slV, Value.slice.injEq] at e
    exact .inl e.2.1
  · simp only [slV, Value.slice.injEq] at e
    obtain ⟨rfl, rfl, rfl⟩ := e
    by_cases h0 : L.length = 0
    · exact .inl h0
    · refine .inr fun a ha => ?_
      cases ha
      have := h3.lt (by omega)
      show g ≠ b
      omega
/-- A slice of rules, behind what writes into another block alone. -/
theorem SR.grown {w w' : World} {x : SlT} {L : List Ru} {row : Option Nat} (h : SR w (slV x) L) (hg : w.grownBy w' row) (ho : ∀ b, row = some b → offB x b) : SR w' (slV x) L := by
  obtain ⟨ao, n, cap⟩ := x
  rcases h with ⟨ao', cap', e, rfl⟩ | ⟨g, o, cap', e, h1, h2, h3⟩
  · exact .inl ⟨ao', cap', e, rfl⟩
  · simp only [slV, Value.slice.injEq] at e
    obtain ⟨rfl, rfl, rfl⟩ := e
    by_cases h0 : L.length = 0
    · exact .inl ⟨_, _, by rw [slV, h0], List.length_eq_zero_iff.1 h0⟩
    · have hne : some g ≠ row := by
        intro e
        rcases ho g e.symm with h4 | h4
        · exact h0 h4
        · exact h4 _ rfl rfl
      refine .inr ⟨g, o, cap, rfl, h1, h2, fun i hi => ?_⟩
      obtain ⟨c0, c1, c2, c3, c4, c5⟩ := h3 i hi
      exact ⟨hg.cell c0 hne, hg.cell c1 hne, hg.cell c2 hne, hg.cell c3 hne, hg.cell c4 hne, hg.cell c5 hne⟩
/-- A row of tables that a call owns, in a block from B on; no table lies in that block, or in the blocks from A to B. -/
structure TR (e : TypeId) (w : World) (A B : Nat) (v : Value) (vs : List SlT) (Ts : List (List Ru)) : Prop where
  ov : w.ownsRow B e slE.n v vs.length (cellsG slE vs)
  lv : vs.length = Ts.length
  rv : ∀ (i : Nat) (x : SlT) (L : List Ru), vs[i]? = some x → Ts[i]? = some L → SR w (slV x) L ∧ ∀ b, v.ownBlock = some b → offB x b
  rz : ∀ (i : Nat) (x : SlT), vs[i]? = some x → ∀ b, A ≤ b → b < B → offB x b
section
variable {e : TypeId} {w w' : World} {A B : Nat} {v : Value} {vs : List SlT} {Ts : List (List Ru)}
theorem tr_nil (e : TypeId) (w : World) (A B : Nat) : TR e w A B (.slice none 0 0) [] [] :=
  ⟨World.ownsRow_nil w B e slE.n, rfl, fun i x L h => by simp at h, fun i x h => by simp at h⟩
theorem TR.later (h : TR e w A B v vs Ts) (hb : Below w.heap.size w w') : TR e w' A B v vs Ts :=
  ⟨h.ov.kept (grown_below hb) (none_or _), h.lv, fun i x L h1 h2 => ⟨(h.rv i x L h1 h2).1.later hb, (h.rv i x L h1 h2).2⟩, h.rz⟩
/-- Behind what writes into a block from A to B. -/
theorem TR.grown (h : TR e w A B v vs Ts) {b : Nat} (hg : w.grownBy w' (some b)) (h1 : A ≤ b) (h2 : b < B) : TR e w' A B v vs Ts := by
  refine ⟨h.ov.kept hg (.inr fun e => ?_), h.lv, fun i x L a1 a2 => ⟨(h.rv i x L a1 a2).1.grown hg (fun c hc => ?_), (h.rv i x L a1 a2).2⟩, h.rz⟩
  · have := (h.ov.lt b e).1
    omega
  · cases hc
    exact h.rz i x a1 b h1 h2
/-- What came in, as a row of slices. -/
theorem ts_sl {v : Value} (h : TS w v Ts) : ∃ vs : List SlT, GS slE w v vs ∧ vs.length = Ts.length ∧ ∀ (i : Nat) (x : SlT) (L : List Ru), vs[i]? = some x → Ts[i]? = some L → SR w (slV x) L := by
  rcases h with ⟨ao, cap, rfl, rfl⟩ | ⟨g, o, cap, rfl, h1, h2, h3⟩
  · exact ⟨[], .inl ⟨ao, cap, rfl, rfl⟩, rfl, fun i x L h => by simp at h⟩
  · have each : ∀ i, i < Ts.length → ∃ x : SlT, w.cell? ⟨g, o + i, none⟩ = some (slV x) ∧ SR w (slV x) (Ts.getD i []) := by
      intro i hi
      obtain ⟨ao, n, cap, c1, c2⟩ := h3 i hi
      refine ⟨(ao, n, cap), c1, ?_⟩
      rw [getT hi]
      exact c2
    have iR : Inhabited SlT := ⟨(none, 0, 0)⟩
    obtain ⟨R, hR⟩ := Go.Deep.choose_lt each
    refine ⟨(List.range Ts.length).map R, .inr ⟨g, o, cap, by simp, by simpa using h1, h2, fun i hi j u hu => ?_⟩, by simp, fun i x L a1 a2 => ?_⟩
    · have hi2 : i < Ts.length := by simpa using hi
      have e1 : ((List.range Ts.length).map R)[i] = R i := by simp
      rw [e1] at hu
      obtain rfl : j = 0 := by
        have := (List.getElem?_eq_some_iff.1 hu).1
        rw [slE.len] at this
        have e2 : slE.n = 1 := rfl
        omega
      have e3 : o + i * slE.n + 0 = o + i := by show o + i * 1 + 0 = o + i; omega
      have e4 : slV (R i) = u := Option.some.inj hu
      rw [e3, ← e4]
      exact (hR i hi2).1
    · have hi : i < Ts.length := (List.getElem?_eq_some_iff.1 a2).1
      have e1 : R i = x := by simpa [hi] using a1
      have e2 := (hR i hi).2
      rw [getT hi] at e2
      rw [List.getElem?_eq_getElem hi] at a2
      cases a2
      rw [← e1]
      exact e2
/-- A copy of what came in. -/
theorem tr_copy {w0 : World} {u : Value} (hlen : vs.length = Ts.length) (hsl : ∀ (i : Nat) (x : SlT) (L : List Ru), vs[i]? = some x → Ts[i]? = some L → SR w0 (slV x) L) (hb : Below w0.heap.size w0 w) (hg : w.grownBy w' none) (hB : w0.heap.size ≤ B) (ho : w'.ownsRow B e slE.n u vs.length (cellsG slE vs)) : TR e w' w0.heap.size B u vs Ts := by
  have each : ∀ (i : Nat) (x : SlT), vs[i]? = some x → ∃ L, Ts[i]? = some L := fun i x h => by
    have hi : i < Ts.length := by rw [← hlen]; exact (List.getElem?_eq_some_iff.1 h).1
    exact ⟨_, List.getElem?_eq_getElem hi⟩
  refine ⟨ho, hlen, fun i x L h1 h2 => ⟨((hsl i x L h1 h2).later hb).grown hg (fun b hb => by cases hb), fun b hb => (hsl i x L h1 h2).off (Nat.le_trans hB (ho.lt b hb).1)⟩, fun i x h1 b h2 h3 => ?_⟩
  obtain ⟨L, hL⟩ := each i x h1
  exact (hsl i x L h1 hL).off h2
/-- One table more, which lies elsewhere. -/
theorem TR.push (h : TR e w A B v vs Ts) {x : SlT} {L : List Ru} (hx : SR w (slV x) L) {v' : Value} (hox : ∀ b, v.ownBlock = some b → offB x b) (hoz : ∀ b, A ≤ b → b < B → offB x b)
    (hg : w.grownBy w' v.ownBlock) (ho : w'.ownsRow B e slE.n v' (vs ++ [x]).length (cellsG slE (vs ++ [x]))) (hb : v'.ownBlock = v.ownBlock ∨ v'.ownBlock = some w.heap.size) : TR e w' A B v' (vs ++ [x]) (Ts ++ [L]) := by
  have one : ∀ {y : SlT} {M : List Ru}, SR w (slV y) M → (∀ b, v.ownBlock = some b → offB y b) → SR w' (slV y) M ∧ ∀ b, v'.ownBlock = some b → offB y b := by
    intro y M h1 h2
    refine ⟨h1.grown hg h2, fun b hv => ?_⟩
    rcases hb with hb | hb
    · exact h2 b (by rw [← hb]; exact hv)
    · rw [hb] at hv
      cases hv
      exact h1.off (Nat.le_refl _)
  refine ⟨ho, by simp [h.lv], fun i y M h1 h2 => ?_, fun i y h1 => ?_⟩
  · by_cases hi : i < vs.length
    · rw [List.getElem?_append_left hi] at h1
      rw [List.getElem?_append_left (by rw [← h.lv]; exact hi)] at h2
      obtain ⟨a1, a2⟩ := h.rv i y M h1 h2
      exact one a1 a2
    · have hi2 : i = vs.length := by
        have := (List.getElem?_eq_some_iff.1 h1).1
        simp at this
        omega
      subst hi2
      simp at h1
      rw [h.lv] at h2
      simp at h2
      subst h1 h2
      exact one hx hox
  · by_cases hi : i < vs.length
    · rw [List.getElem?_append_left hi] at h1
      exact h.rz i y h1
    · have hi2 : i = vs.length := by
        have := (List.getElem?_eq_some_iff.1 h1).1
        simp at this
        omega
      subst hi2
      simp at h1
      subst h1
      exact hoz
/-- A table put in another one's place. -/
theorem TR.put {g n cap i : Nat} (h : TR e w A B (.slice (some ⟨g, 0, none⟩) n cap) vs Ts) {x : SlT} {L : List Ru} (hx : SR w (slV x) L) (hox : offB x g) (hoz : ∀ b, A ≤ b → b < B → offB x b) : TR e (w.setCell ⟨g, i, none⟩ (slV x)) A B (.slice (some ⟨g, 0, none⟩) n cap) (vs.set i x) (Ts.set i L) := by
  have hgw : w.grownBy (w.setCell ⟨g, i, none⟩ (slV x)) (some g) := grown_set w g i (slV x)
  refine ⟨?_, by simp [h.lv], fun j y M a1 a2 => ?_, fun j y a1 => ?_⟩
  · have h1 := h.ov
    have hn : n = vs.length := by
      rcases h1.2 with ⟨h3, _⟩ | ⟨_, _, _, h3, _⟩
      · cases h3
      · simp only [Value.slice.injEq] at h3
        exact h3.2.1
    rw [List.length_set, sl_cells, List.map_set]
    rw [sl_cells, ← hn] at h1
    rw [← hn]
    exact (h1.stored _ _).1
  · have hj : j < (vs.set i x).length := (List.getElem?_eq_some_iff.1 a1).1
    rw [List.length_set] at hj
    by_cases hij : i = j
    · subst hij
      rw [List.getElem?_set_self hj] at a1
      rw [List.getElem?_set_self (by rw [← h.lv]; exact hj)] at a2
      cases a1
      cases a2
      refine ⟨hx.grown hgw (fun b hb => by cases hb; exact hox), fun b hb => ?_⟩
      cases hb
      exact hox
    · rw [List.getElem?_set_ne hij] at a1 a2
      obtain ⟨b1, b2⟩ := h.rv j y M a1 a2
      exact ⟨b1.grown hgw (fun b hb => by cases hb; exact b2 g rfl), b2⟩
  · have hj : j < (vs.set i x).length := (List.getElem?_eq_some_iff.1 a1).1
    rw [List.length_set] at hj
    by_cases hij : i = j
    · subst hij
      rw [List.getElem?_set_self hj] at a1
      cases a1
      exact hoz
    · rw [List.getElem?_set_ne hij] at a1
      exact h.rz j y a1
theorem TR.ts (h : TR e w A B v vs Ts) : TS w v Ts := by
  rcases own_GS h.ov with ⟨ao, cap, rfl, h0⟩ | ⟨g, o, cap, rfl, h1, h2, h3⟩
  · refine .inl ⟨ao, cap, rfl, ?_⟩
    have := h.lv
    rw [h0] at this
    exact List.length_eq_zero_iff.1 this.symm
  · refine .inr ⟨g, o, cap, by rw [h.lv], by rw [← h.lv]; exact h1, h2, fun i hi => ?_⟩
    have hi2 : i < vs.length := by rw [h.lv]; exact hi
    have := h3 i hi2 0 _ rfl
    have e : o + i * slE.n + 0 = o + i := by show o + i * 1 + 0 = o + i; omega
    rw [e] at this
    exact ⟨_, _, _, this, (h.rv i _ _ (List.getElem?_eq_getElem hi2) (List.getElem?_eq_getElem hi)).1⟩
/-- Where the i-th table lies. -/
theorem TR.at {g n cap i : Nat} (h : TR e w A B (.slice (some ⟨g, 0, none⟩) n cap) vs Ts) (hi : i < Ts.length) : ∃ x : SlT, w.cell? ⟨g, i, none⟩ = some (slV x) ∧ SR w (slV x) (Ts.getD i []) ∧ w.frozen? ⟨g, i, none⟩ = false ∧ n = Ts.length ∧ B ≤ g ∧ g < w.heap.size := by
  have h1 := h.ov
  have hn : n = vs.length := by
    rcases h1.2 with ⟨h3, _⟩ | ⟨_, _, _, h3, _⟩
    · cases h3
    · simp only [Value.slice.injEq] at h3
      exact h3.2.1
  have hi2 : i < vs.length := by rw [h.lv]; exact hi
  rw [sl_cells, ← hn] at h1
  refine ⟨vs[i], ?_, ?_, h1.frozenAt i, by rw [hn, h.lv], (h1.lt g rfl).1, (h1.lt g rfl).2⟩
  · rw [h1.cellAt i (by show i < n * 1; omega)]
    simp [hi2]
  · rw [getT hi]
    exact (h.rv i _ _ (List.getElem?_eq_getElem hi2) (List.getElem?_eq_getElem hi)).1
end
end Go.Proofs.Ytokkmnednhigmae
/- What slices.Grow, slices.Concat, slices.Index answer at tables. -/
namespace Go.Proofs.Ytokkmnednhigmae
open Go.RowKit
set_option linter.unusedSimpArgs false
set_option linter.unusedVariables false

set_option maxHeartbeats 2000000 in
set_option maxRecDepth 100000 in
/-- Grow of nil: a row of the call's own, with nothing in it. -/
theorem grow_nil (n : Nat) (w : World) (hn : n ≤ 1000) :
    Calls Try.prog 44 #[.slice none 0 0, .int .i64 n] w fun e w' => ∃ v, e = .returned v ∧ w'.ownsRow w.heap.size 37 6 v 0 [] ∧ Below w.heap.size w w' := by
  have h1 : ¬ ((n : Int) < 0) := by omega
  by_cases h0 : n = 0
  · subst h0
    go_enter Try.func44, Try.ntmps44
    go_wp2
    go_ret
    exact ⟨_, rfl, World.ownsRow_nil _ _ _ _, Below.refl _ _⟩
  · obtain ⟨i0, hi, hz0, hz1, hz2⟩ := info_parts infoRule
    have h3 : wrap64 ((n : Int) - 0) = (n : Int) := by unfold wrap64; omega
    have h4 : (n : Int) > 0 := by omega
    have hrz : ∀ ty, (Builtin.append_ #[41, 3] ty #[.slice none 0 0, .int .i64 n]).run Try.prog w =
        .ok (.slice (some ⟨w.heap.size, 0, none⟩) n (grownCap w n 0 37)) (w.drew.alloc (.cells (Builtin.zeroCells (Value.agg #[.int .i64 0, .int .i64 0, .int .i64 0, .int .i64 0, .int .i64 0, .int .i64 0]).cells n ++ Builtin.zeroCells (Value.agg #[.int .i64 0, .int .i64 0, .int .i64 0, .int .i64 0, .int .i64 0, .int .i64 0]).cells (grownCap w n 0 37 - n)) 37)) := fun ty =>
      Lib.run_append_nil_zeros w 41 3 ty 37 i0 _ .i64 .i64 Try.underlying41 Try.underlying3 hi hz0 n (by omega) (by rw [hz1]; decide) (by omega) (by rw [hz2]; omega)
    have hGn : n ≤ grownCap w n 0 37 := grownCap_ge w _ _ _
    have hGm : grownCap w n 0 37 ≤ maxLen := grownCap_le_maxLen w n 0 37 (by unfold maxLen; omega)
    generalize grownCap w n 0 37 = G at *
    have HM : Hid (G ≤ maxLen) := hGm
    have hG63 : G ≤ 9223372036854775807 := by unfold maxLen at hGm; omega
    have HO : Hid ((w.drew.alloc (.cells (Builtin.zeroCells (Value.agg #[.int .i64 0, .int .i64 0, .int .i64 0, .int .i64 0, .int .i64 0, .int .i64 0]).cells n ++ Builtin.zeroCells (Value.agg #[.int .i64 0, .int .i64 0, .int .i64 0, .int .i64 0, .int .i64 0, .int .i64 0]).cells (G - n)) 37)).ownsRow w.heap.size 37 6 (.slice (some ⟨w.heap.size, 0, none⟩) 0 G) 0 []) :=
      World.ownsRow_made w.drew _ G (Nat.le_refl _) HM.out (by
        simp only [Array.size_append, size_zeroCells, sixCells, ← Nat.add_mul]
        congr 1
        omega)
    clear hGm
    go_enter Try.func44, Try.ntmps44
    go_wp2_with (at_builtin; refine Lib.wpList_append_run _ rfl _ _ _ _ rfl _ _ rfl rfl _ _ (hrz _) ?_)
    all_goals (go_ret; exact ⟨_, rfl, HO.out, ((Below.refl _ _).drew).alloc (Nat.le_refl _) _⟩)

/-- These slices of rules lie one behind the other. -/
def PAt (w : World) (g o : Nat) (Ls : List (List Ru)) : Prop := ∀ i (h : i < Ls.length), ∃ ao n cap, w.cell? ⟨g, o + i, none⟩ = some (.slice ao n cap) ∧ SR w (.slice ao n cap) Ls[i]
theorem PAt.later {w w' : World} {g o : Nat} {Ls : List (List Ru)} (h : PAt w g o Ls) (hb : Below w.heap.size w w') : PAt w' g o Ls := fun i hi => by
  obtain ⟨ao, n, cap, h1, h2⟩ := h i hi
  exact ⟨ao, n, cap, cell_later hb h1, h2.later hb⟩
theorem SR.len {w : World} {ao : Option Addr} {n cap : Nat} {L : List Ru} (h : SR w (.slice ao n cap) L) : L.length = n := by
  rcases h with ⟨_, _, e, rfl⟩ | ⟨_, _, _, e, _⟩
  · simp at e; simp [e]
  · simp at e; exact e.2.1.symm
theorem flat_next {Ls : List (List Ru)} {k : Nat} (hk : k < Ls.length) : (Ls.take (k + 1)).flatten = (Ls.take k).flatten ++ Ls[k] := by
  rw [List.take_succ_eq_append_getElem hk]
  simp only [List.flatten_append, List.flatten_cons, List.flatten_nil, List.append_nil]
theorem flat_le {Ls : List (List Ru)} (k : Nat) : (Ls.take k).flatten.length ≤ Ls.flatten.length := by
  have : Ls.flatten = (Ls.take k).flatten ++ (Ls.drop k).flatten := by rw [← List.flatten_append, List.take_append_drop]
  rw [this, List.length_append]
  omega

set_option maxHeartbeats 4000000 in
set_option maxRecDepth 100000 in
theorem concat_any (g o m cap : Nat) (Ls : List (List Ru)) (w : World) (hm : Ls.length = m) (hm2 : m ≤ 1000) (hc : PAt w g o Ls) (hs : Ls.flatten.length ≤ 1000) :
    Calls Try.prog 27 #[.slice (some ⟨g, o, none⟩) m cap] w fun e w' => ∃ v, e = .returned v ∧ w'.ownsRow w.heap.size 37 6 v Ls.flatten.length (cellsR Ls.flatten) ∧ Below w.heap.size w w' := by
  have HM : Hid (Ls.length = m) := hm
  have HC : Hid (PAt w g o Ls) := hc
  have HS : Hid (Ls.flatten.length ≤ 1000) := hs
  obtain ⟨N, hN⟩ : ∃ N, N = Ls.flatten.length := ⟨_, rfl⟩
  have HN : Hid (N = Ls.flatten.length) := hN
  have hN2 : N ≤ 1000 := by omega
  clear hm hc hs hN
  go_enter Try.func27, Try.ntmps27
  go_upto_block 0 with fail
  go_cut [3] from 3 (fun z w' => z = .int .i64 (N : Int) ∧ w' = w)
  case first =>
    go_wp2
    go_loopw [3, 11] (fun z i wr => ∃ k : Nat, k ≤ m ∧ i = .int .i64 k ∧ z = .int .i64 ((Ls.take k).flatten.length : Int) ∧ wr = w) (fun _ i _ => m - (intOf i).toNat)
    case atStart => exact ⟨0, by omega, rfl, rfl, rfl⟩
    case round =>
      obtain ⟨k, hk, rfl, rfl, rfl⟩ := hrel
      by_cases hlt : k < m
      · have hkl : k < Ls.length := by rw [HM.out]; exact hlt
        obtain ⟨ao, n, cap2, q0, hsr⟩ := HC.out k hkl
        have HT : Hid ((Ls.take (k + 1)).flatten.length = (Ls.take k).flatten.length + n) := by
          show _ = _
          rw [flat_next hkl, List.length_append, hsr.len]
        have hb1 : (Ls.take k).flatten.length + n ≤ 1000 := by
          have h1 := flat_le (Ls := Ls) (k + 1)
          have h2 := HS.out
          have h3 := HT.out
          omega
        generalize (Ls.take k).flatten.length = z at *
        clear hsr
        go_wp2
        go_roundw
        case rel => exact ⟨k + 1, by omega, by go_num, by rw [HT.out]; go_num, by simp⟩
        case measure => simp [intOf]; omega
      · obtain rfl : k = m := by omega
        go_wp2_with fail
        go_meet
        case rel => exact ⟨by rw [← HM.out, List.take_length, HN.out], rfl⟩
  case rest =>
    obtain ⟨rfl, rfl⟩ := hcut
    go_wp2_with fail
    refine (grow_nil N _ hN2).mono ?_
    rintro e w1 ⟨v, rfl, hown, hB⟩
    have HO : Hid (w1.ownsRow wc.heap.size 37 6 v 0 []) := hown
    have HB : Hid (Below wc.heap.size wc w1) := hB
    clear hown hB
    go_wp2
    go_loopw [6, 27] (fun u i wr => ∃ k : Nat, k ≤ m ∧ i = .int .i64 k ∧ wr.ownsRow wc.heap.size 37 6 u (Ls.take k).flatten.length (cellsR (Ls.take k).flatten) ∧ Below wc.heap.size wc wr) (fun _ i _ => m - (intOf i).toNat)
    case atStart => exact ⟨0, by omega, rfl, HO.out, HB.out⟩
    case round =>
      obtain ⟨k, hk, rfl, hown, hB⟩ := hrel
      have HOW : Hid (wr.ownsRow wc.heap.size 37 6 u6 (Ls.take k).flatten.length (cellsR (Ls.take k).flatten)) := hown
      have HBW : Hid (Below wc.heap.size wc wr) := hB
      clear hown
      by_cases hlt : k < m
      · have hkl : k < Ls.length := by rw [HM.out]; exact hlt
        obtain ⟨ao, n, cap2, q0, hsr⟩ := (HC.out.later hB) k hkl
        have HSR : Hid (SR wr (.slice ao n cap2) Ls[k]) := hsr
        have HL1 : Hid ((Ls.take k).flatten.length + Ls[k].length ≤ 1000) := by
          have h1 := flat_le (Ls := Ls) (k + 1)
          rw [flat_next hkl, List.length_append] at h1
          have h2 := HS.out
          show _ ≤ _
          omega
        clear hsr hB
        go_wp2_with (at_builtin; refine wpList_append_SR _ rfl _ _ 41 rfl Try.underlying41 wc.heap.size _ rfl _ HOW.out _ rfl _ HSR.out HL1.out HBW.out.size ?_)
        intro v' w3 hown3 hgrow
        have HO5 : Hid (w3.ownsRow wc.heap.size 37 6 v' (Ls.take (k + 1)).flatten.length (cellsR (Ls.take (k + 1)).flatten)) := by
          show w3.ownsRow _ _ _ _ _ _
          rw [flat_next hkl, show ((Ls.take k).flatten ++ Ls[k]).length = (List.take k (List.map List.length Ls)).sum + Ls[k].length by simp]
          exact hown3
        have HB5 : Hid (Below wc.heap.size wc w3) := HBW.out.grown hgrow HBW.out.size (fun g hg => (HOW.out.lt g hg).1)
        clear hown3 hgrow q0
        go_wp2
        go_roundw
        case rel => exact ⟨k + 1, by omega, by go_num, HO5.out, HB5.out⟩
        case measure => simp [intOf]; omega
      · obtain rfl : k = m := by omega
        go_wp2
        go_ret
        refine ⟨_, rfl, ?_, HBW.out⟩
        have := HOW.out
        rw [← HM.out, List.take_length] at this
        exact this
end Go.Proofs.Ytokkmnednhigmae
/- A region that draws its order and only reads, in a class of worlds: its operations, one by one, in the order of the text. -/
namespace Go.Proofs.Ytokkmnednhigmae
open Go.RowKit

theorem quiet_val {P : Program} {o : Oper} {a : Act} {C : World → Prop} {K : Act → Prop} {v : Value}
    (hy : ∀ w, C w → (execOp a.eval o).run P w = .ok (.value v) w) (h : K (a.put o.dst v)) : o.quiet P a C K :=
  ⟨v, fun w hC => by unfold Oper.quietAt; rw [hy w hC]; exact ⟨rfl, rfl⟩, h⟩
theorem quiet_call {P : Program} {o : Oper} {a : Act} {C : World → Prop} {K : Act → Prop} {v : Value} {f : FuncId} {args : Array Value}
    (he : ∀ w, (execOp a.eval o).run P w = .ok (.enter f args) w) (hc : ∀ w, C w → Calls P f args w fun e w'' => e = .returned v ∧ C w'') (h : K (a.put o.dst v)) : o.quiet P a C K :=
  ⟨v, fun w hC => by unfold Oper.quietAt; rw [he w]; exact ⟨rfl, hc w hC⟩, h⟩
theorem q_want {P : Program} {ops : Array Oper} {C : World → Prop} {Q : Act → Prop} {a : Act} {o : Oper} {rest : List Oper} (hw : Region.wanted o (yielded ops a.tmps) = true)
    (h : ∀ K : Act → Prop, (∀ a, wpQuiet P ops C Q rest a → K a) → o.quiet P a C K) : wpQuiet P ops C Q (o :: rest) a :=
  wpQuiet_step (fun K hK => by rw [if_pos hw]; exact h K hK)
theorem q_skip {P : Program} {ops : Array Oper} {C : World → Prop} {Q : Act → Prop} {a : Act} {o : Oper} {rest : List Oper} (hw : Region.wanted o (yielded ops a.tmps) = false)
    (h : wpQuiet P ops C Q rest (a.put o.dst undef)) : wpQuiet P ops C Q (o :: rest) a := by
  unfold wpQuiet
  rw [if_neg (by rw [hw]; exact Bool.false_ne_true)]
  exact h
/-- An operation on two values whose run is known. -/
theorem exec_bin {P : Program} {o : Oper} {a : Act} {w : World} {op : BinOp} {t t2 : TypeId} {x y : Operand} {v : Value} (ho : o.op = .binOp op t x y t2) (hg : (eqGuard op t x y (a.eval x) (a.eval y)).run P w = .ok () w)
    (h : (binOp op t (a.eval x) (a.eval y)).run P w = .ok v w) : (execOp a.eval o).run P w = .ok (.value v) w := by
  simp [execOp, ho, hg, h, Result.andThen]
theorem run_eql_of {P : Program} {w : World} {t : TypeId} {x y : Array Value} {b : Bool} (h : (Op.equal t (.agg x) (.agg y)).run P w = .ok b w) : (binOp .eql t (.agg x) (.agg y)).run P w = .ok (.bool b) w := by
  simp [binOp, h]
theorem run_neq_of {P : Program} {w : World} {t : TypeId} {x y : Array Value} {b : Bool} (h : (Op.equal t (.agg x) (.agg y)).run P w = .ok b w) : (binOp .neq t (.agg x) (.agg y)).run P w = .ok (.bool (!b)) w := by
  simp [binOp, h]
end Go.Proofs.Ytokkmnednhigmae
/- What slices.Index answers at a table and a rule. -/
namespace Go.Proofs.Ytokkmnednhigmae
open Go.RowKit
set_option linter.unusedSimpArgs false
set_option linter.unusedVariables false

/-- Where two rules part first, if at all. -/
theorem eq_ways (p m b o s v p' m' b' o' s' v' : Int) :
    ((p == p') = false ∧ eqR ⟨p, m, b, o, s, v⟩ ⟨p', m', b', o', s', v'⟩ = false) ∨
    ((p == p') = true ∧ (m == m') = false ∧ eqR ⟨p, m, b, o, s, v⟩ ⟨p', m', b', o', s', v'⟩ = false) ∨
    ((p == p') = true ∧ (m == m') = true ∧ (b == b') = false ∧ eqR ⟨p, m, b, o, s, v⟩ ⟨p', m', b', o', s', v'⟩ = false) ∨
    ((p == p') = true ∧ (m == m') = true ∧ (b == b') = true ∧ (o == o') = false ∧ eqR ⟨p, m, b, o, s, v⟩ ⟨p', m', b', o', s', v'⟩ = false) ∨
    ((p == p') = true ∧ (m == m') = true ∧ (b == b') = true ∧ (o == o') = true ∧ (s == s') = false ∧ eqR ⟨p, m, b, o, s, v⟩ ⟨p', m', b', o', s', v'⟩ = false) ∨
    ((p == p') = true ∧ (m == m') = true ∧ (b == b') = true ∧ (o == o') = true ∧ (s == s') = true ∧ (v == v') = false ∧ eqR ⟨p, m, b, o, s, v⟩ ⟨p', m', b', o', s', v'⟩ = false) ∨
    ((p == p') = true ∧ (m == m') = true ∧ (b == b') = true ∧ (o == o') = true ∧ (s == s') = true ∧ (v == v') = true ∧ eqR ⟨p, m, b, o, s, v⟩ ⟨p', m', b', o', s', v'⟩ = true) := by
  unfold eqR
  by_cases h1 : p = p'
  · by_cases h2 : m = m'
    · by_cases h3 : b = b'
      · by_cases h4 : o = o'
        · by_cases h5 : s = s'
          · by_cases h6 : v = v'
            · simp [h1, h2, h3, h4, h5, h6]
            · simp [h1, h2, h3, h4, h5, h6]
          · simp [h1, h2, h3, h4, h5]
        · simp [h1, h2, h3, h4]
      · simp [h1, h2, h3]
    · simp [h1, h2]
  · simp [h1]

set_option maxRecDepth 100000 in
theorem run_eqlR (p m b o s v p' m' b' o' s' v' : Int) (w : World) : (binOp .eql 37 (.agg #[.int .i64 p, .int .i64 m, .int .i64 b, .int .i64 o, .int .i64 s, .int .i64 v]) (.agg #[.int .i64 p', .int .i64 m', .int .i64 b', .int .i64 o', .int .i64 s', .int .i64 v'])).run Try.prog w = .ok (.bool (eqR ⟨p, m, b, o, s, v⟩ ⟨p', m', b', o', s', v'⟩)) w := by
  rcases eq_ways p m b o s v p' m' b' o' s' v' with ⟨e1, e⟩ | ⟨e1, e2, e⟩ | ⟨e1, e2, e3, e⟩ | ⟨e1, e2, e3, e4, e⟩ | ⟨e1, e2, e3, e4, e5, e⟩ | ⟨e1, e2, e3, e4, e5, e6, e⟩ | ⟨e1, e2, e3, e4, e5, e6, e⟩
  all_goals
    rw [e]
    go_simp
/-- A rule in a box, another one at an address: a class of worlds. -/
def CI (w : World) (B : Nat) (p m b q s v : Int) (g o : Nat) (p' m' b' q' s' v' : Int) (w' : World) : Prop :=
  Below w.heap.size w w' ∧ (w'.cell? ⟨B, 0, none⟩ = some (.int .i64 p) ∧ w'.cell? ⟨B, 1, none⟩ = some (.int .i64 m) ∧ w'.cell? ⟨B, 2, none⟩ = some (.int .i64 b) ∧
    w'.cell? ⟨B, 3, none⟩ = some (.int .i64 q) ∧ w'.cell? ⟨B, 4, none⟩ = some (.int .i64 s) ∧ w'.cell? ⟨B, 5, none⟩ = some (.int .i64 v)) ∧
  w'.cell? ⟨g, o, none⟩ = some (.int .i64 p') ∧ w'.cell? ⟨g, o + 1, none⟩ = some (.int .i64 m') ∧ w'.cell? ⟨g, o + 2, none⟩ = some (.int .i64 b') ∧
    w'.cell? ⟨g, o + 3, none⟩ = some (.int .i64 q') ∧ w'.cell? ⟨g, o + 4, none⟩ = some (.int .i64 s') ∧ w'.cell? ⟨g, o + 5, none⟩ = some (.int .i64 v')
theorem CI.later {w W W' : World} {B : Nat} {p m b q s v : Int} {g o : Nat} {p' m' b' q' s' v' : Int} (hb : Below W.heap.size W W') (h : CI w B p m b q s v g o p' m' b' q' s' v' W) : CI w B p m b q s v g o p' m' b' q' s' v' W' := by
  obtain ⟨h0, ⟨h1, h2, h3, h4, h5, h6⟩, k1, k2, k3, k4, k5, k6⟩ := h
  exact ⟨h0.trans (hb.mono h0.size), ⟨cell_later hb h1, cell_later hb h2, cell_later hb h3, cell_later hb h4, cell_later hb h5, cell_later hb h6⟩, cell_later hb k1, cell_later hb k2, cell_later hb k3, cell_later hb k4, cell_later hb k5, cell_later hb k6⟩

set_option maxHeartbeats 2000000 in
set_option maxRecDepth 100000 in
theorem index_any (ao : Option Addr) (n cap : Nat) (p m b o s v : Int) (L : List Ru) (w : World) (hn : L.length = n) (hn2 : n ≤ maxLen) (ha : 0 < n → ∃ g o, ao = some ⟨g, o, none⟩ ∧ RAt w g o L ∧ cap ≤ maxLen) :
    Calls Try.prog 48 #[.slice ao n cap, .agg #[.int .i64 p, .int .i64 m, .int .i64 b, .int .i64 o, .int .i64 s, .int .i64 v]] w fun e w' => e = .returned (.int .i64 (ixP (fun a => eqR ⟨p, m, b, o, s, v⟩ a) L)) ∧ Below w.heap.size w w' := by
  have HN : Hid (L.length = n) := hn
  have HA : Hid (0 < n → ∃ g o, ao = some ⟨g, o, none⟩ ∧ RAt w g o L ∧ cap ≤ maxLen) := ha
  have HC0 := C6.new w p m b o s v 37
  have HB0 : Hid (Below w.heap.size w (w.alloc (Obj.cells #[Value.int IntKind.i64 p, Value.int IntKind.i64 m, Value.int IntKind.i64 b, Value.int IntKind.i64 o, Value.int IntKind.i64 s, Value.int IntKind.i64 v] 37))) := (Below.refl _ _).alloc (Nat.le_refl _) _
  unfold maxLen at hn2
  clear hn ha
  go_enter Try.func48, Try.ntmps48
  go_wp2
  go_loopw [8] (fun i wr => ∃ k : Nat, k ≤ n ∧ i = .int .i64 k ∧ (L.take k).any (fun a => eqR ⟨p, m, b, o, s, v⟩ a) = false ∧ Below w.heap.size w wr ∧ C6 wr w.heap.size 0 ⟨p, m, b, o, s, v⟩)
    (fun i _ => n - (intOf i).toNat)
  case atStart => exact ⟨0, by omega, rfl, by simp, HB0.out, HC0⟩
  case round =>
    obtain ⟨k, hk, rfl, hno, hB, hC⟩ := hrel
    have HB : Hid (Below w.heap.size w wr) := hB
    have HC : Hid (C6 wr w.heap.size 0 ⟨p, m, b, o, s, v⟩) := hC
    have HNO : Hid ((L.take k).any (fun a => eqR ⟨p, m, b, o, s, v⟩ a) = false) := hno
    clear hno HC0 HB0
    by_cases hlt : k < n
    · obtain ⟨g, og, hao, hc, _⟩ := HA.out (by omega)
      subst hao
      obtain ⟨p', m', b', o', s', v', hkl, hL, q0, q1, q2, q3, q4, q5⟩ := (hc.later hB).at HN.out hlt
      have HL : Hid (L[k] = ⟨p', m', b', o', s', v'⟩) := hL
      obtain ⟨r0, r1, r2, r3, r4, r5⟩ := hC
      simp only [Nat.zero_add] at r0 r1 r2 r3 r4 r5
      have HCE : Hid (CI wr w.heap.size p m b o s v g (og + k * 6) p' m' b' o' s' v' wr) := ⟨Below.refl _ _, ⟨r0, r1, r2, r3, r4, r5⟩, q0, q1, q2, q3, q4, q5⟩
      clear hL hB HA q0 q1 q2 q3 q4 q5 r0 r1 r2 r3 r4 r5
      go_upto_region 4 with fail
      have kb0 : (0 : Int) ≤ (k : Int) := by omega
      have kb1 : (k : Int) < (n : Int) := by omega
      go_cut [16] from 9 to 18 (fun c w' => c = .bool (eqR ⟨p, m, b, o, s, v⟩ ⟨p', m', b', o', s', v'⟩) ∧ Below wr.heap.size wr w')
      case first =>
        as_aux_lemma =>
          refine wp_region_quiet (C := CI wr w.heap.size p m b o s v g (og + k * 6) p' m' b' o' s' v') (by kernel_rfl) (by kernel_rfl) (CI.later (W := wr) (Below.drew (Below.refl _ _)) HCE.out) ?_
          simp only [List.toList_toArray]
          go_big_quiet_want
          refine quiet_val (v := .agg #[.int .i64 p, .int .i64 m, .int .i64 b, .int .i64 o, .int .i64 s, .int .i64 v]) (fun w' hC => ?_) ?_
          · obtain ⟨z0, ⟨z1, z2, z3, z4, z5, z6⟩, y1, y2, y3, y4, y5, y6⟩ := hC
            go_simp
          simp only [Act.put, List.setIfInBounds_toArray, List.set_cons_zero, List.set_cons_succ]
          go_big_quiet_on
          go_big_quiet_want
          refine quiet_val (v := .slice (some ⟨g, og, none⟩) n cap) (fun w' hC => ?_) ?_
          · obtain ⟨z0, ⟨z1, z2, z3, z4, z5, z6⟩, y1, y2, y3, y4, y5, y6⟩ := hC
            go_simp
          simp only [Act.put, List.setIfInBounds_toArray, List.set_cons_zero, List.set_cons_succ]
          go_big_quiet_on
          go_big_quiet_want
          refine quiet_val (v := .int .i64 (k : Int)) (fun w' hC => ?_) ?_
          · obtain ⟨z0, ⟨z1, z2, z3, z4, z5, z6⟩, y1, y2, y3, y4, y5, y6⟩ := hC
            go_simp
          simp only [Act.put, List.setIfInBounds_toArray, List.set_cons_zero, List.set_cons_succ]
          go_big_quiet_on
          go_big_quiet_want
          refine quiet_val (v := .pointer (some ⟨g, og + k * 6, none⟩)) (fun w' hC => ?_) ?_
          · obtain ⟨z0, ⟨z1, z2, z3, z4, z5, z6⟩, y1, y2, y3, y4, y5, y6⟩ := hC
            go_simp
          simp only [Act.put, List.setIfInBounds_toArray, List.set_cons_zero, List.set_cons_succ]
          go_big_quiet_on
          go_big_quiet_want
          refine quiet_val (v := .agg #[.int .i64 p', .int .i64 m', .int .i64 b', .int .i64 o', .int .i64 s', .int .i64 v']) (fun w' hC => ?_) ?_
          · obtain ⟨z0, ⟨z1, z2, z3, z4, z5, z6⟩, y1, y2, y3, y4, y5, y6⟩ := hC
            go_simp
          simp only [Act.put, List.setIfInBounds_toArray, List.set_cons_zero, List.set_cons_succ]
          go_big_quiet_on
          go_big_quiet_want
          refine quiet_val (v := .bool (eqR ⟨p, m, b, o, s, v⟩ ⟨p', m', b', o', s', v'⟩)) (fun w' hC => exec_bin rfl (by go_simp) (run_eqlR p m b o s v p' m' b' o' s' v' w')) ?_
          simp only [Act.put, List.setIfInBounds_toArray, List.set_cons_zero, List.set_cons_succ]
          go_big_quiet_on
          refine wpQuiet_nil ?_
          intro w' hC
          go_wp2_with fail
          go_meet
          case rel => exact ⟨rfl, hC.1⟩
      case rest =>
        obtain ⟨rfl, hB2⟩ := hcut
        have HB2 : Hid (Below w.heap.size w wc) := HB.out.trans (hB2.mono HB.out.size)
        have HC2 : Hid (C6 wc w.heap.size 0 ⟨p, m, b, o, s, v⟩) := HC.out.later hB2
        clear hB2
        cases ho : eqR ⟨p, m, b, o, s, v⟩ ⟨p', m', b', o', s', v'⟩
        · go_wp2
          go_roundw
          case rel => exact ⟨k + 1, by omega, by go_num, any_nextR hkl HNO.out (by rw [HL.out]; exact ho), HB2.out, HC2.out⟩
          case measure => simp [intOf]; omega
        · go_wp2
          go_ret
          exact ⟨by rw [ixP_hit hkl HNO.out (by rw [HL.out]; exact ho)]; rfl, HB2.out⟩
    · obtain rfl : k = n := by omega
      go_wp2
      go_ret
      exact ⟨by have := HNO.out; rw [← HN.out, List.take_length] at this; rw [ixP_no this]; rfl, HB.out⟩
end Go.Proofs.Ytokkmnednhigmae
/- What table.Do answers, called with any table, and any rule to be added or taken away. -/
namespace Go.Proofs.Ytokkmnednhigmae
open Go.RowKit
set_option linter.unusedSimpArgs false
set_option linter.unusedVariables false

set_option maxHeartbeats 1000000 in
theorem with1_any (p m b o s v : Int) (r : Ru) (B : Nat) (w : World) (hc : C6 w B 0 r) :
    Calls Try.prog 47 #[.agg #[.int .i64 p, .int .i64 m, .int .i64 b, .int .i64 o, .int .i64 s, .int .i64 v], .pointer (some ⟨B, 0, none⟩)] w fun e w' => e = .returned (.bool (keyB ⟨p, m, b, o, s, v⟩ r)) ∧ Below w.heap.size w w' := by
  obtain ⟨p', m', b', o', s', v'⟩ := r
  obtain ⟨c0, c1, c2, c3, c4, c5⟩ := hc
  simp only [Nat.zero_add] at c0 c1 c2 c3 c4 c5
  have hlt : B < w.heap.size := World.block_lt_of_cell? _ _ c0
  go_enter Try.func47, Try.ntmps47
  go_wp2_with fail
  refine (clash_any _ _ _ _ _ _ _ _ _ _ _ _ _).mono ?_
  rintro e w1 ⟨rfl, hb1⟩
  go_wp2
  go_ret
  exact ⟨rfl, ((Below.refl _ _).alloc (Nat.le_refl _) _).trans (hb1.mono (by simp))⟩
theorem with1_asks (r : Ru) (B : Nat) (w : World) (hc : C6 w B 0 r) : Asks w 47 (.pointer (some ⟨B, 0, none⟩)) (fun a => keyB a r) :=
  fun p m b o s v W hW => with1_any p m b o s v r B W (hc.later hW)

theorem SR.nil (w : World) : SR w (.slice none 0 0) [] := .inl ⟨none, 0, rfl, rfl⟩
/-- A row of these rules that lies in a new block. -/
def NR (w : World) (B : Nat) (v : Value) (L : List Ru) : Prop := w.ownsRow B 37 6 v L.length (cellsR L)
theorem NR.sr {w : World} {B : Nat} {v : Value} {L : List Ru} (h : NR w B v L) : SR w v L := own_SR h
theorem NR.nil (w : World) (B : Nat) : NR w B (.slice none 0 0) [] := World.ownsRow_nil w B _ 6
theorem NR.mono {w : World} {B B' : Nat} {v : Value} {L : List Ru} (h : NR w B v L) (hB : B' ≤ B) : NR w B' v L := by
  obtain ⟨h1, h2 | ⟨g, cap, cur, hv, hb, h3⟩⟩ := h
  · exact ⟨h1, .inl h2⟩
  · exact ⟨h1, .inr ⟨g, cap, cur, hv, Nat.le_trans hB hb, h3⟩⟩
theorem NR.later {w w' : World} {B : Nat} {v : Value} {L : List Ru} (h : NR w B v L) (hb : Below w.heap.size w w') : NR w' B v L := h.kept ⟨hb.os, hb.tape, hb.output, hb.size, fun k hk _ => hb.block k hk⟩ (Classical.em _)
theorem NR.of {w : World} {B : Nat} {v : Value} {L M : List Ru} (h : w.ownsRow B 37 6 v L.length (cellsR L)) (e : L = M) : NR w B v M := by subst e; exact h
theorem sr_one (w : World) (p m b o s v : Int) (t : TypeId) : SR (w.alloc (.cells #[.int .i64 p, .int .i64 m, .int .i64 b, .int .i64 o, .int .i64 s, .int .i64 v] t)) (.slice (some ⟨w.heap.size, 0, none⟩) 1 1) [⟨p, m, b, o, s, v⟩] := by
  refine .inr ⟨w.heap.size, 0, 1, rfl, Nat.le_refl _, by unfold maxLen; omega, fun i hi => ?_⟩
  obtain rfl : i = 0 := by simp at hi; omega
  have h := C6.new w p m b o s v t
  simp only [Nat.zero_mul, Nat.add_zero, List.getElem_cons_zero]
  exact h
/-- Two slices of rules in a new row. -/
theorem pat2 {W : World} {a1 a2 : Option Addr} {n1 c1 n2 c2 : Nat} {L1 L2 : List Ru} (t : TypeId) (h1 : SR W (.slice a1 n1 c1) L1) (h2 : SR W (.slice a2 n2 c2) L2) :
    PAt (W.alloc (.cells #[.slice a1 n1 c1, .slice a2 n2 c2] t)) W.heap.size 0 [L1, L2] := by
  have hb : Below W.heap.size W (W.alloc (.cells #[.slice a1 n1 c1, .slice a2 n2 c2] t)) := (Below.refl _ _).alloc (Nat.le_refl _) _
  intro i hi
  match i, hi with
  | 0, _ => exact ⟨a1, n1, c1, by simp, h1.later hb⟩
  | 1, _ => exact ⟨a2, n2, c2, by simp, h2.later hb⟩
theorem RAt.drop {w : World} {g o : Nat} {L : List Ru} (h : RAt w g o L) (k : Nat) : RAt w g (o + k * 6) (L.drop k) := by
  intro i hi
  have hi2 : k + i < L.length := by simp at hi; omega
  have := h (k + i) hi2
  rw [List.getElem_drop]
  have e : o + (k + i) * 6 = o + k * 6 + i * 6 := by omega
  rw [← e]
  exact this
theorem ch_hit {L : List Ru} {r : Ru} (h : hitB L r = true) : chN L true r = 7 := by simp [chN, h]
theorem ch_full {L : List Ru} {r : Ru} (h : hitB L r = false) (h2 : 12 ≤ L.length) : chN L true r = 4 := by simp [chN, h, h2]
theorem ch_add {L : List Ru} {r : Ru} (h : hitB L r = false) (h2 : ¬ 12 ≤ L.length) : chN L true r = 0 := by simp [chN, h, h2]
theorem chL_ne {L : List Ru} {a : Bool} {r : Ru} (h : chN L a r ≠ 0) : chL L a r = [] := by simp [chL, h]
theorem chL_add {L : List Ru} {r : Ru} (h : chN L true r = 0) : chL L true r = L ++ [r] := by simp [chL, h]
theorem ch_none {L : List Ru} {r : Ru} (h : inB L r = false) : chN L false r = 5 := by simp [chN, h]
theorem ch_take {L : List Ru} {r : Ru} (h : inB L r = true) : chN L false r = 0 := by simp [chN, h]
theorem chL_take {L : List Ru} {r : Ru} (h : chN L false r = 0) : chL L false r = L.take (ixN L r) ++ L.drop (ixN L r + 1) := by simp [chL, h]

set_option maxHeartbeats 2000000 in
set_option maxRecDepth 100000 in
theorem with_any (ao : Option Addr) (n cap : Nat) (p m b o s v : Int) (L : List Ru) (w : World) (hs : SR w (.slice ao n cap) L) :
    Calls Try.prog 29 #[.slice ao n cap, .agg #[.int .i64 p, .int .i64 m, .int .i64 b, .int .i64 o, .int .i64 s, .int .i64 v]] w fun e w' => ∃ u, e = .returned (.tuple #[u, noV (chN L true ⟨p, m, b, o, s, v⟩)]) ∧ NR w' w.heap.size u (chL L true ⟨p, m, b, o, s, v⟩) ∧ Below w.heap.size w w' := by
  obtain ⟨ao', n', cap', e, hn, hn2, hn3, ha⟩ := hs.form
  cases e
  have HN : Hid (L.length = n) := hn
  have HC0 := C6.new w p m b o s v 37
  have hB0 : Below w.heap.size w (w.alloc (Obj.cells #[Value.int IntKind.i64 p, Value.int IntKind.i64 m, Value.int IntKind.i64 b, Value.int IntKind.i64 o, Value.int IntKind.i64 s, Value.int IntKind.i64 v] 37)) := (Below.refl _ _).alloc (Nat.le_refl _) _
  have HS0 : Hid (SR (w.alloc (Obj.cells #[Value.int IntKind.i64 p, Value.int IntKind.i64 m, Value.int IntKind.i64 b, Value.int IntKind.i64 o, Value.int IntKind.i64 s, Value.int IntKind.i64 v] 37)) (.slice ao n cap) L) := hs.later hB0
  have HA : Hid (0 < n → ∃ g o, ao = some ⟨g, o, none⟩ ∧ RAt w g o L ∧ cap ≤ maxLen) := ha
  have HB0 : Hid (Below w.heap.size w (w.alloc (Obj.cells #[Value.int IntKind.i64 p, Value.int IntKind.i64 m, Value.int IntKind.i64 b, Value.int IntKind.i64 o, Value.int IntKind.i64 s, Value.int IntKind.i64 v] 37))) := hB0
  have HM : Hid (n ≤ maxLen) := hn2
  have hn63 : n ≤ 9223372036854775807 := by unfold maxLen at hn2; omega
  clear hn ha hs hn2 hB0
  cases hh : hitB L ⟨p, m, b, o, s, v⟩
  · have HH : Hid (L.any (fun a => keyB a ⟨p, m, b, o, s, v⟩) = false) := hh
    by_cases h12 : 12 ≤ n
    · rw [ch_full hh (by rw [HN.out]; exact h12), chL_ne (by rw [ch_full hh (by rw [HN.out]; exact h12)]; decide)]
      clear hh
      go_enter Try.func29, Try.ntmps29
      go_wp2_with fail
      refine (containsF ao n cap _ _ _ L _ HN.out HM.out (fun h => by obtain ⟨g, o, e1, e2, e3⟩ := HA.out h; exact ⟨g, o, e1, e2.later HB0.out, e3⟩) (enters_of Try.func47 (by kernel_rfl) rfl) (with1_asks ⟨p, m, b, o, s, v⟩ _ _ HC0)).mono ?_
      rintro e w1 ⟨rfl, hb1⟩
      rw [HH.out]
      have HB1 : Hid (Below w.heap.size w w1) := HB0.out.trans (hb1.mono HB0.out.size)
      clear hb1
      go_wp2
      refine bodyPost_ret (v := .tuple #[.slice none 0 0, .iface 52 (.int .i64 4)]) (by simp [results, Try.results29, go_sem]) rfl ⟨_, rfl, NR.nil _ _, HB1.out⟩
    · rw [ch_add hh (by rw [HN.out]; exact h12), chL_add (ch_add hh (by rw [HN.out]; exact h12))]
      clear hh
      go_enter Try.func29, Try.ntmps29
      go_wp2_with fail
      refine (containsF ao n cap _ _ _ L _ HN.out HM.out (fun h => by obtain ⟨g, o, e1, e2, e3⟩ := HA.out h; exact ⟨g, o, e1, e2.later HB0.out, e3⟩) (enters_of Try.func47 (by kernel_rfl) rfl) (with1_asks ⟨p, m, b, o, s, v⟩ _ _ HC0)).mono ?_
      rintro e w1 ⟨rfl, hb1⟩
      rw [HH.out]
      have HB1 : Hid (Below w.heap.size w w1) := HB0.out.trans (hb1.mono HB0.out.size)
      have HS1 : Hid (SR w1 (.slice ao n cap) L) := HS0.out.later hb1
      obtain ⟨c0, c1, c2, c3, c4, c5⟩ := HC0.later hb1
      simp only [Nat.zero_add] at c0 c1 c2 c3 c4 c5
      have hlt : w.heap.size < w1.heap.size := World.block_lt_of_cell? _ _ c0
      clear hb1
      go_wp2_with fail
      have hB2 : Below w1.heap.size w1 (w1.alloc (Obj.cells #[Value.int IntKind.i64 p, Value.int IntKind.i64 m, Value.int IntKind.i64 b, Value.int IntKind.i64 o, Value.int IntKind.i64 s, Value.int IntKind.i64 v] 37)) := (Below.refl _ _).alloc (Nat.le_refl _) _
      have hp := pat2 41 (HS1.out.later hB2) (sr_one w1 p m b o s v 37)
      have hB3 := hB2.trans (((Below.refl _ _).alloc (Nat.le_refl _) (.cells #[.slice ao n cap, .slice (some ⟨w1.heap.size, 0, none⟩) 1 1] 41)).mono hB2.size)
      simp only [World.size_alloc] at hp
      refine (concat_any _ 0 2 2 [L, [⟨p, m, b, o, s, v⟩]] _ rfl (by omega) hp (by simp [HN.out]; omega)).mono ?_
      rintro e w2 ⟨u, rfl, hown, hb2⟩
      have HB2 : Hid (Below w.heap.size w w2) := HB1.out.trans ((hB3.trans (hb2.mono hB3.size)).mono HB1.out.size)
      have HO : Hid (NR w2 w.heap.size u (L ++ [⟨p, m, b, o, s, v⟩])) := (NR.of hown (by simp)).mono (by have := HB1.out.size; simp; omega)
      clear hb2 hown hp hB2 hB3
      go_wp2
      refine bodyPost_ret (v := .tuple #[u, .nilIface]) (by simp [results, Try.results29, go_sem]) rfl ⟨_, rfl, HO.out, HB2.out⟩
  · have HH : Hid (L.any (fun a => keyB a ⟨p, m, b, o, s, v⟩) = true) := hh
    rw [ch_hit hh, chL_ne (by rw [ch_hit hh]; decide)]
    clear hh
    go_enter Try.func29, Try.ntmps29
    go_wp2_with fail
    refine (containsF ao n cap _ _ _ L _ HN.out HM.out (fun h => by obtain ⟨g, o, e1, e2, e3⟩ := HA.out h; exact ⟨g, o, e1, e2.later HB0.out, e3⟩) (enters_of Try.func47 (by kernel_rfl) rfl) (with1_asks ⟨p, m, b, o, s, v⟩ _ _ HC0)).mono ?_
    rintro e w1 ⟨rfl, hb1⟩
    rw [HH.out]
    have HB1 : Hid (Below w.heap.size w w1) := HB0.out.trans (hb1.mono HB0.out.size)
    clear hb1
    go_wp2
    refine bodyPost_ret (v := .tuple #[.slice none 0 0, .iface 52 (.int .i64 7)]) (by simp [results, Try.results29, go_sem]) rfl ⟨_, rfl, NR.nil _ _, HB1.out⟩

theorem keepQ {w1 W W' : World} (hb : Below W.heap.size W W') (h : Below w1.heap.size w1 W) : Below w1.heap.size w1 W' := h.trans (hb.mono h.size)
theorem ix_no {L : List Ru} {r : Ru} (h : inB L r = false) : ixP (fun a => eqR r a) L = -1 := ixP_no h
theorem ix_yes {L : List Ru} {r : Ru} (h : inB L r = true) : ixP (fun a => eqR r a) L = (ixN L r : Int) := by
  unfold ixP
  rw [if_pos (show L.any (fun a => eqR r a) = true from h)]
  rfl
theorem ix_lt {L : List Ru} {r : Ru} (h : inB L r = true) : ixN L r < L.length := by
  unfold ixN
  rw [List.findIdx_lt_length]
  simpa [inB] using h

set_option maxHeartbeats 2000000 in
set_option maxRecDepth 100000 in
theorem without_any (ao : Option Addr) (n cap : Nat) (p m b o s v : Int) (L : List Ru) (w : World) (hs : SR w (.slice ao n cap) L) (h1000 : n ≤ 1000) :
    Calls Try.prog 30 #[.slice ao n cap, .agg #[.int .i64 p, .int .i64 m, .int .i64 b, .int .i64 o, .int .i64 s, .int .i64 v]] w fun e w' => ∃ u, e = .returned (.tuple #[u, noV (chN L false ⟨p, m, b, o, s, v⟩)]) ∧ NR w' w.heap.size u (chL L false ⟨p, m, b, o, s, v⟩) ∧ Below w.heap.size w w' := by
  obtain ⟨ao', n', cap', e, hn, hn2, hn3, ha⟩ := hs.form
  cases e
  have HN : Hid (L.length = n) := hn
  have hB0 : Below w.heap.size w (w.alloc (Obj.cells #[Value.int IntKind.i64 p, Value.int IntKind.i64 m, Value.int IntKind.i64 b, Value.int IntKind.i64 o, Value.int IntKind.i64 s, Value.int IntKind.i64 v] 37)) := (Below.refl _ _).alloc (Nat.le_refl _) _
  have HA : Hid (0 < n → ∃ g o, ao = some ⟨g, o, none⟩ ∧ RAt w g o L ∧ cap ≤ maxLen) := ha
  have HB0 : Hid (Below w.heap.size w (w.alloc (Obj.cells #[Value.int IntKind.i64 p, Value.int IntKind.i64 m, Value.int IntKind.i64 b, Value.int IntKind.i64 o, Value.int IntKind.i64 s, Value.int IntKind.i64 v] 37))) := hB0
  have HM : Hid (n ≤ maxLen) := hn2
  clear hn ha hs hn2 hB0
  cases hh : inB L ⟨p, m, b, o, s, v⟩
  · rw [ch_none hh, chL_ne (by rw [ch_none hh]; decide)]
    have HH : Hid (ixP (fun a => eqR ⟨p, m, b, o, s, v⟩ a) L = -1) := ix_no hh
    clear hh
    go_enter Try.func30, Try.ntmps30
    go_wp2_with fail
    refine (index_any ao n cap p m b o s v L _ HN.out HM.out (fun h => by obtain ⟨g, o, e1, e2, e3⟩ := HA.out h; exact ⟨g, o, e1, e2.later HB0.out, e3⟩)).mono ?_
    rintro e w1 ⟨rfl, hb1⟩
    rw [HH.out]
    have HB1 : Hid (Below w.heap.size w w1) := HB0.out.trans (hb1.mono HB0.out.size)
    clear hb1
    go_wp2
    refine bodyPost_ret (v := .tuple #[.slice none 0 0, .iface 52 (.int .i64 5)]) (by simp [results, Try.results30, go_sem]) rfl ⟨_, rfl, NR.nil _ _, HB1.out⟩
  · rw [ch_take hh, chL_take (ch_take hh)]
    have HH : Hid (ixP (fun a => eqR ⟨p, m, b, o, s, v⟩ a) L = (ixN L ⟨p, m, b, o, s, v⟩ : Int)) := ix_yes hh
    have hi : ixN L ⟨p, m, b, o, s, v⟩ < n := by
      have := ix_lt hh
      rw [HN.out] at this
      exact this
    obtain ⟨g, og, hao, hRA, hcm⟩ := HA.out (by omega)
    subst hao
    generalize ixN L ⟨p, m, b, o, s, v⟩ = i at *
    have HRA : Hid (RAt w g og L) := hRA
    have HCM : Hid (cap ≤ maxLen) := hcm
    have hc63 : (cap : Int) ≤ 9223372036854775807 := by unfold maxLen at hcm; omega
    clear hh hRA hcm HA
    go_enter Try.func30, Try.ntmps30
    go_wp2_with fail
    refine (index_any _ n cap p m b o s v L _ HN.out HM.out (fun h => ⟨g, og, rfl, HRA.out.later HB0.out, HCM.out⟩)).mono ?_
    rintro e w1 ⟨rfl, hb1⟩
    rw [HH.out]
    have HB1 : Hid (Below w.heap.size w w1) := HB0.out.trans (hb1.mono HB0.out.size)
    have HR1 : Hid (RAt w1 g og L) := (HRA.out.later HB0.out).later hb1
    clear hb1
    have i0 : ¬ ((i : Int) < 0) := by omega
    have i01 : (0 : Int) ≤ (i : Int) := by omega
    have i1 : (i : Int) ≤ (cap : Int) := by omega
    have i2 : ((i + 1 : Nat) : Int) ≤ (n : Int) := by omega
    have i21 : (0 : Int) ≤ ((i + 1 : Nat) : Int) := by omega
    have i3 : IntKind.i64.wrap ((i : Int) + 1) = ((i + 1 : Nat) : Int) := by rw [IntKind.wrap_i64]; omega
    have HT1 : Hid (SR w1 (.slice (some ⟨g, og, none⟩) i cap) (L.take i)) := by
      have e1 : (L.take i).length = i := by rw [List.length_take, HN.out]; omega
      exact .inr ⟨g, og, cap, by rw [e1], by rw [e1]; omega, HCM.out, HR1.out.take i⟩
    have HLEN : Hid ([L.take i, L.drop (i + 1)].flatten.length ≤ 1000) := by
      show _ ≤ 1000
      simp only [List.flatten_cons, List.flatten_nil, List.append_nil, List.length_append, List.length_take, List.length_drop, HN.out]
      omega
    by_cases hcj : cap = i + 1
    · have HT2 : Hid (SR w1 (.slice (some ⟨g, og, none⟩) 0 0) (L.drop (i + 1))) := .inl ⟨_, _, rfl, List.drop_eq_nil_of_le (by rw [HN.out]; omega)⟩
      generalize hj : i + 1 = j at i2 i21 i3 hcj
      subst hcj
      go_wp2
      go_region_held3 (fun w' => Below w1.heap.size w1 w') (first | assumption | exact Below.drew (Below.refl _ _) | exact keepQ (by assumption) (by assumption) | exact keepQ (Below.drew (Below.refl _ _)) (by assumption) | exact keepQ (Below.alloc (Below.refl _ _) (Nat.le_refl _) _) (by assumption))
        (first | (go_at_call 27; refine (concat_any _ 0 2 2 [L.take i, L.drop (i + 1)] _ rfl (by omega) ((pat2 _ HT1.out HT2.out).later (Below.drew (Below.refl _ _))) HLEN.out).mono ?_; rintro e w' ⟨u, rfl, hown, hb⟩))
      have HO : Hid (NR w' w.heap.size u (L.take i ++ L.drop (i + 1))) := (NR.of hown (by simp)).mono (by have := HB1.out.size; simp; omega)
      have HB2 : Hid (Below w.heap.size w w') := HB1.out.trans ((‹Below w1.heap.size w1 w'›).mono HB1.out.size)
      clear hown
      go_wp2
      refine bodyPost_ret (v := .tuple #[u, .nilIface]) (by simp [results, Try.results30, go_sem]) rfl ⟨_, rfl, HO.out, HB2.out⟩
      
    · have HT2 : Hid (SR w1 (.slice (some ⟨g, og + (i + 1) * 6, none⟩) (n - (i + 1)) (cap - (i + 1))) (L.drop (i + 1))) := by
        have e1 : (L.drop (i + 1)).length = n - (i + 1) := by rw [List.length_drop, HN.out]
        exact .inr ⟨g, og + (i + 1) * 6, cap - (i + 1), by rw [e1], by rw [e1]; omega, Nat.le_trans (Nat.sub_le _ _) HCM.out, HR1.out.drop (i + 1)⟩
      generalize hj : i + 1 = j at i2 i21 i3 hcj HT2 HLEN
      go_wp2
      go_region_held3 (fun w' => Below w1.heap.size w1 w') (first | assumption | exact Below.drew (Below.refl _ _) | exact keepQ (by assumption) (by assumption) | exact keepQ (Below.drew (Below.refl _ _)) (by assumption) | exact keepQ (Below.alloc (Below.refl _ _) (Nat.le_refl _) _) (by assumption))
        (first | (go_at_call 27; refine (concat_any _ 0 2 2 [L.take i, L.drop j] _ rfl (by omega) ((pat2 _ HT1.out HT2.out).later (Below.drew (Below.refl _ _))) HLEN.out).mono ?_; rintro e w' ⟨u, rfl, hown, hb⟩))
      have HO : Hid (NR w' w.heap.size u (L.take i ++ L.drop (i + 1))) := (NR.of hown (by rw [hj]; simp)).mono (by have := HB1.out.size; simp; omega)
      have HB2 : Hid (Below w.heap.size w w') := HB1.out.trans ((‹Below w1.heap.size w1 w'›).mono HB1.out.size)
      clear hown
      go_wp2
      refine bodyPost_ret (v := .tuple #[u, .nilIface]) (by simp [results, Try.results30, go_sem]) rfl ⟨_, rfl, HO.out, HB2.out⟩
      
end Go.Proofs.Ytokkmnednhigmae
/- Rows of ops, and of tables, that a call owns: appending to them. -/
namespace Go.Proofs.Ytokkmnednhigmae
open Go.RowKit
set_option linter.unusedSimpArgs false
set_option linter.unusedVariables false

/-- A row of these ops that lies in a new block. -/
def NO (w : World) (B : Nat) (v : Value) (L : List Op8) : Prop := w.ownsRow B 39 8 v L.length (cellsG opE L)
theorem NO.gs {w : World} {B : Nat} {v : Value} {L : List Op8} (h : NO w B v L) : GS opE w v L := own_GS (E := opE) h
theorem NO.nil (w : World) (B : Nat) : NO w B (.slice none 0 0) [] := World.ownsRow_nil w B _ 8
theorem NO.mono {w : World} {B B' : Nat} {v : Value} {L : List Op8} (h : NO w B v L) (hB : B' ≤ B) : NO w B' v L := by
  obtain ⟨h1, h2 | ⟨g, cap, cur, hv, hb, h3⟩⟩ := h
  · exact ⟨h1, .inl h2⟩
  · exact ⟨h1, .inr ⟨g, cap, cur, hv, Nat.le_trans hB hb, h3⟩⟩
theorem NO.later {w w' : World} {B : Nat} {v : Value} {L : List Op8} (h : NO w B v L) (hb : Below w.heap.size w w') : NO w' B v L := h.kept (grown_below hb) (none_or _)
theorem NO.ofn {w : World} {B n : Nat} {v : Value} {M L : List Op8} (h : w.ownsRow B 39 8 v n (cellsG opE M)) (hL : M = L) (hn : n = L.length) : NO w B v L := by subst hL hn; exact h
theorem NR.ofn {w : World} {B n : Nat} {v : Value} {M : List Ru} (h : w.ownsRow B 37 6 v n (cellsR M)) (hn : n = M.length) : NR w B v M := by subst hn; exact h
/-- Appending ops, whoever made them, to a row of ops that a call owns. -/
theorem wpList_append_ops (w : World) {ops : Array Oper} {rest : List Oper} {o : Oper} {a : Act} {Q : Exit → Act → World → Prop} (hgd : o.guard = none) (s x : Operand) (t : TypeId)
    (ho : o.op = .call { callee := .builtin .append, args := #[s, x], argTypes := #[t, t] }) (ht : Try.prog.underlying t = some (.slice 39)) (base : Nat)
    (v : Value) (hs : a.eval s = v) (L : List Op8) (hown : NO w base v L) (u : Value) (hx : a.eval x = u) (M : List Op8) (hM : GS opE w u M)
    (h100 : L.length + M.length ≤ 1000000) (hbase : base ≤ w.heap.size)
    (h : ∀ v' w', NO w' base v' (L ++ M) → w.grownBy w' v.ownBlock → wpList Try.prog ops Q rest (a.put o.dst v') w') : wpList Try.prog ops Q (o :: rest) a w := by
  obtain ⟨i0, hi, hz0, hz1, hz2⟩ := info_parts op_info
  exact wpList_append_GS (E := opE) w hgd s x t 39 ho ht i0 _ 64 hi hz0 hz1 hz2 op_zero base v hs L hown u hx M hM (by unfold maxLen; omega) (by omega) hbase h
theorem ta_info : (Try.prog.info? 41).map (fun i => (i.zero, i.size, i.bytes)) = some (some (.slice none 0 0), 1, 24) := by kernel_rfl
theorem ta_zero : (Value.slice none 0 0).cells.size = 1 := by simp [Value.cells]
/-- A copy of a slice of tables. -/
theorem wpList_append_tabs (w : World) {ops : Array Oper} {rest : List Oper} {o : Oper} {a : Act} {Q : Exit → Act → World → Prop} (hgd : o.guard = none) (s x : Operand) (t : TypeId)
    (ho : o.op = .call { callee := .builtin .append, args := #[s, x], argTypes := #[t, t] }) (ht : Try.prog.underlying t = some (.slice 41))
    (hs : a.eval s = .slice none 0 0) (u : Value) (hx : a.eval x = u) (Ts : List (List Ru)) (w0 : World) (hM : TS w0 u Ts) (hb : Below w0.heap.size w0 w) (h100 : Ts.length ≤ 1000000)
    (h : ∀ v' w' vs, TR 41 w' w0.heap.size w.heap.size v' vs Ts → w.grownBy w' none → wpList Try.prog ops Q rest (a.put o.dst v') w') : wpList Try.prog ops Q (o :: rest) a w := by
  obtain ⟨i0, hi, hz0, hz1, hz2⟩ := info_parts ta_info
  obtain ⟨vs, g1, g2, g3⟩ := ts_sl hM
  refine wpList_append_GS (E := slE) w hgd s x t 41 ho ht i0 _ 24 hi hz0 hz1 hz2 ta_zero w.heap.size _ hs [] (World.ownsRow_nil _ _ _ _) u hx vs (g1.later hb) (by unfold maxLen; simp [g2]; omega) (by simp [g2]; omega) (Nat.le_refl _) ?_
  intro v' w' h1 h2
  exact h v' w' vs (tr_copy g2 g3 hb h2 hb.size h1) h2
/-- One table more at the end of a row. -/
theorem wpList_append_tab (w : World) {ops : Array Oper} {rest : List Oper} {o : Oper} {a : Act} {Q : Exit → Act → World → Prop} (hgd : o.guard = none) (s x : Operand) (t : TypeId)
    (ho : o.op = .call { callee := .builtin .append, args := #[s, x], argTypes := #[t, t] }) (ht : Try.prog.underlying t = some (.slice 41)) (base : Nat)
    (v : Value) (hs : a.eval s = v) (vs : List SlT) (Ts : List (List Ru)) (A : Nat) (hown : TR 41 w A base v vs Ts) (g q c : Nat) (hx : a.eval x = .slice (some ⟨g, q, none⟩) 1 c) (y : SlT) (hy : w.cell? ⟨g, q, none⟩ = some (slV y)) (L : List Ru) (hL : SR w (slV y) L) (hoff : ∀ b, v.ownBlock = some b → offB y b) (hofz : ∀ b, A ≤ b → b < base → offB y b)
    (h100 : Ts.length ≤ 1000000) (hbase : base ≤ w.heap.size)
    (h : ∀ v' w', TR 41 w' A base v' (vs ++ [y]) (Ts ++ [L]) → w.grownBy w' v.ownBlock → wpList Try.prog ops Q rest (a.put o.dst v') w') : wpList Try.prog ops Q (o :: rest) a w := by
  obtain ⟨i0, hi, hz0, hz1, hz2⟩ := info_parts ta_info
  have hlv := hown.lv
  refine wpList_append_blk (E := slE) w hgd s x t 41 ho ht i0 _ 24 hi hz0 hz1 hz2 ta_zero base v hs vs hown.ov g q c hx y (fun j u hu => ?_) (by unfold maxLen; omega) (by omega) hbase ?_
  · obtain rfl : j = 0 := by
      have := (List.getElem?_eq_some_iff.1 hu).1
      have e : (slE.c y).length = 1 := rfl
      omega
    have e4 : slV y = u := Option.some.inj hu
    rw [Nat.add_zero, ← e4]
    exact hy
  · intro v' w' h1 h2 h3
    exact h v' w' (hown.push hL hoff hofz h2 h1 h3) h2
/-- A new table is a slice that lies in no older block. -/
theorem NR.sl {w : World} {B : Nat} {v : Value} {L : List Ru} (h : NR w B v L) : ∃ x : SlT, v = slV x ∧ ∀ b, b < B → offB x b := by
  rcases h.2 with ⟨rfl, h0⟩ | ⟨g, cap, cur, rfl, hg, _⟩
  · exact ⟨(none, 0, 0), rfl, fun b _ => .inl rfl⟩
  · refine ⟨(some ⟨g, 0, none⟩, L.length, cap), rfl, fun b hb => .inr fun a ha => ?_⟩
    cases ha
    show g ≠ b
    omega
end Go.Proofs.Ytokkmnednhigmae
/- Two lists of lists that a call owns, behind two appends in whatever order. No program in it. -/
namespace Go.Proofs.Ytokkmnednhigmae
open Go.RowKit
set_option linter.unusedSimpArgs false
set_option linter.unusedVariables false

theorem gnn_refl (w : World) : w.grownBy w none := ⟨rfl, rfl, rfl, Nat.le_refl _, fun _ _ _ => rfl⟩
theorem gnn_drew {w W : World} (h : w.grownBy W none) : w.grownBy W.drew none := ⟨h.os, h.tape, h.output, h.size, fun k hk hn => h.block k hk hn⟩
theorem gnn_alloc {w W : World} (h : w.grownBy W none) (o : Obj) : w.grownBy (W.alloc o) none :=
  ⟨h.os, h.tape, h.output, Nat.le_trans h.size (by simp), fun k hk hn => ((World.grownBy_alloc W o none).block k (Nat.lt_of_lt_of_le hk h.size) hn).trans (h.block k hk hn)⟩
theorem below_grown {B : Nat} {w W : World} {row : Option Nat} (h : w.grownBy W row) (hB : B ≤ w.heap.size) (hr : ∀ k, row = some k → B ≤ k) : Below B w W :=
  ⟨h.os, h.tape, h.output, h.size, fun k hk => h.block k (by omega) (fun e => by have := hr k e.symm; omega)⟩
/-- The step of a region: appending one thing to a row that a call owns. -/
theorem step_append_blk {P : Program} {α : Type} {E : Enc α} (w : World) {ops : Array Oper} {o : Oper} {a : Act} {K : Act → World → Prop} {Q : Exit → Act → World → Prop} {X : Prop} (hgd : o.guard = none) (s x : Operand) (t e : TypeId)
    (ho : o.op = .call { callee := .builtin .append, args := #[s, x], argTypes := #[t, t] }) (ht : P.underlying t = some (.slice e)) (i : TypeInfo) (z : Value) (bytes : Nat) (hi : P.info? e = some i) (hz : i.zero = some z)
    (hsize : i.size = E.n) (hby : i.bytes = bytes) (hzs : z.cells.size = E.n) (base : Nat)
    (v : Value) (hs : a.eval s = v) (L : List α) (hown : w.ownsRow base e E.n v L.length (cellsG E L)) (g q c : Nat) (hx : a.eval x = .slice (some ⟨g, q, none⟩) 1 c) (y : α) (hM : VAt w g q (E.c y))
    (h63 : L.length + 1 ≤ maxLen) (hbytes : (L.length + 1) * bytes ≤ 140737488355328) (hbase : base ≤ w.heap.size)
    (h : ∀ v' w', w'.ownsRow base e E.n v' (L ++ [y]).length (cellsG E (L ++ [y])) → w.grownBy w' v.ownBlock → v'.ownBlock = v.ownBlock ∨ v'.ownBlock = some w.heap.size → K (a.put o.dst v') w') :
    if Region.wanted o (yielded ops a.tmps) = true then Oper.wp P o a w K Q else X := by
  have hw : Region.wanted o (yielded ops a.tmps) = true := by simp [Region.wanted, hgd]
  rw [if_pos hw]
  have hG : GAt E w g q [y] := by
    intro k hk
    obtain rfl : k = 0 := by simp at hk; omega
    simpa using hM
  have hc := hG.cells
  rw [cellsG_one] at hc
  have hl : (E.c y).length = 1 * E.n := by rw [E.len]; omega
  obtain ⟨v', w', hr, h2, h3, _⟩ := run_append_own (P := P) w base t o.type e i z E.n bytes ht hi hz hsize hby hzs E.pos v _ _ hown ⟨g, q, none⟩ 1 c (E.c y) hl hc (E.one y) h63 hbytes hbase
  have hb := run_append_blk (P := P) t o.type e i z ht hi hz v _ _ (by rw [hsize]; exact hown) ⟨g, q, none⟩ c (E.c y) (by rw [hsize]; exact hl) hc (E.one y) h63 (by rw [hby]; exact hbytes) hr
  unfold Oper.wp execOp
  simp only [ho, resolve, invoke, builtin, Sem.run_bind, Sem.run_pure, Result.andThen_ok, List.map_toArray, List.map_cons, List.map_nil, hs, hx, hr]
  exact h v' w' (by rw [List.length_append, cellsG_app, cellsG_one]; exact h2) h3 hb
section
variable {e1 e2 : TypeId} {w W1 W1' W2 W2' Wf : World} {B : Nat} {v u v' u' : Value} {vs us : List SlT} {Cs Ps : List (List Int)}
theorem CP.base (h : CP e1 e2 w B v u vs us Cs Ps) : (∀ k, v.ownBlock = some k → B ≤ k ∧ k < w.heap.size) ∧ ∀ k, u.ownBlock = some k → B ≤ k ∧ k < w.heap.size := ⟨fun k hk => h.ov.lt k hk, fun k hk => h.ou.lt k hk⟩
/-- One append behind the other. -/
theorem CP.seq (h : CP e1 e2 w B v u vs us Cs Ps) (he : e1 ≠ e2) (hB : B ≤ w.heap.size) {x p : SlT} {L P : List Int}
    (hp : W1.ownsRow B e1 inE.n (slV x) L.length (cellsG inE L)) (hxn : ∀ y ∈ vs ++ us, (slV y).ownBlock ≠ (slV x).ownBlock)
    (hq : W2.ownsRow B e1 inE.n (slV p) P.length (cellsG inE P)) (hpn : ∀ y ∈ vs ++ us, (slV y).ownBlock ≠ (slV p).ownBlock) (hxp : (slV x).ownBlock ≠ (slV p).ownBlock)
    (c1 : w.grownBy W1 none) (g1 : W1.grownBy W1' v.ownBlock) (o1 : W1'.ownsRow B e2 slE.n v' (vs ++ [x]).length (cellsG slE (vs ++ [x]))) (b1 : v'.ownBlock = v.ownBlock ∨ v'.ownBlock = some W1.heap.size)
    (c2 : W1'.grownBy W2 none) (g2 : W2.grownBy W2' u.ownBlock) (o2 : W2'.ownsRow B e2 slE.n u' (us ++ [p]).length (cellsG slE (us ++ [p]))) (b2 : u'.ownBlock = u.ownBlock ∨ u'.ownBlock = some W2.heap.size)
    (c3 : W2'.grownBy Wf none) : CP e1 e2 Wf B v' u' (vs ++ [x]) (us ++ [p]) (Cs ++ [L]) (Ps ++ [P]) ∧ Below B w Wf := by
  have k1 := h.keep c1
  have k2 := (k1.push he hp hxn g1 o1 b1).keep c2
  have k3 := k2.swap.push he hq (by
    intro y hy
    rcases List.mem_append.1 hy with hy | hy
    · exact hpn y (List.mem_append_right _ hy)
    · rcases List.mem_append.1 hy with hy | hy
      · exact hpn y (List.mem_append_left _ hy)
      · simp at hy
        subst hy
        exact hxp) g2 o2 b2
  have hv := h.base.1
  have hu := h.base.2
  have s1 := c1.size
  have s2 := g1.size
  have s3 := c2.size
  have s4 := g2.size
  refine ⟨(k3.swap).keep c3, ?_⟩
  have b1' : Below B w W1 := below_grown c1 hB (fun k e => by cases e)
  have b2' : Below B W1 W1' := below_grown g1 (by omega) (fun k e => (hv k e).1)
  have b3' : Below B W1' W2 := below_grown c2 (by omega) (fun k e => by cases e)
  have b4' : Below B W2 W2' := below_grown g2 (by omega) (fun k e => (hu k e).1)
  have b5' : Below B W2' Wf := below_grown c3 (by omega) (fun k e => by cases e)
  exact (((b1'.trans b2').trans b3').trans b4').trans b5'
end
end Go.Proofs.Ytokkmnednhigmae
/- What strings.Clone answers: the text itself. -/
namespace Go.Proofs.Ytokkmnednhigmae
open Go.RowKit
set_option linter.unusedSimpArgs false
set_option linter.unusedVariables false

theorem infoByte : (Try.prog.info? 5).map (fun i => (i.zero, i.size, i.bytes)) = some (some (.int .u8 0), 1, 1) := by kernel_rfl
set_option maxHeartbeats 1000000 in
set_option maxRecDepth 100000 in
theorem liteClone (s : ByteArray) (w : World) (hlim : s.size ≤ 1000000) :
    Calls Try.prog 43 #[.string s] w fun e w' => e = .returned (.string s) ∧ Below w.heap.size w w' := by
  by_cases h0 : s.size = 0
  · have hs : s = ⟨#[]⟩ := by
      apply ByteArray.ext
      exact Array.eq_empty_of_size_eq_zero h0
    subst hs
    go_enter Try.func43, Try.ntmps43
    go_wp2
    go_ret
    exact ⟨rfl, Below.refl _ _⟩
  · obtain ⟨i0, hi, hz0, hz1, hz2⟩ := info_parts infoByte
    have hinfo : (Try.prog.info? 5).map (·.size) = some 1 := by rw [hi]; simp [hz1]
    have hco : Try.prog.cellsOf 5 = 1 := by simp [Program.cellsOf, hi, hz1]
    obtain ⟨M, hM⟩ : ∃ M, M = madeCells (Value.int .u8 0).cells (((s.size : Nat) : Int).toNat * i0.size) := ⟨_, rfl⟩
    have hMs : M.size = s.size := by rw [hM, size_madeCells, hz1]; simp
    have hmk : (Instr.makeSlice 102 (.int .i64 (s.size : Int)) (.int .i64 (s.size : Int))).run Try.prog w = .ok (.slice (some ⟨w.heap.size, 0, none⟩) s.size s.size) (w.alloc (.cells M 5)) := by
      have h := run_make (P := Try.prog) w 102 5 i0 (.int .u8 0) Try.underlying102 hi hz0 .i64 .i64 (s.size : Int) (s.size : Int) (by omega) (by omega) (by rw [hz2]; omega) (by omega)
      rw [← hM] at h
      simpa using h
    clear hM
    have hcp := Lib.run_copy_row_string (P := Try.prog) (w.alloc (.cells M 5)) 102 9 3 5 w.heap.size 0 s.size s.size s M 5 Try.underlying102 hinfo (heap_alloc_new w _) (Nat.le_refl _) (by omega)
    obtain ⟨Y, hY⟩ : ∃ Y, Y = (M.toList.take 0 ++ Lib.byteCells s.data.toList ++ M.toList.drop (0 + s.size)).toArray := ⟨_, rfl⟩
    rw [← hY] at hcp
    have hYl : Y.toList = Lib.byteCells s.data.toList := by
      rw [hY, List.toList_toArray, List.take_zero, List.nil_append, List.drop_of_length_le (by rw [Array.length_toList]; omega), List.append_nil]
    have hYs : Y.size = s.size := by rw [← Array.length_toList, hYl, Lib.byteCells_length, ← Lib.size_eq]
    have hgY : ((w.alloc (.cells M 5)).setRow w.heap.size Y).heap[w.heap.size]? = some (.cells Y 5 (0, 0)) := setRow_heap _ _ M _ 5 (0, 0) (heap_alloc_new w _)
    have hne : s.data.toList ≠ [] := fun e => h0 (by rw [Lib.size_eq, e]; rfl)
    have hUS := Lib.run_unsafeString_row (P := Try.prog) ((w.alloc (.cells M 5)).setRow w.heap.size Y) 103 3 9 5 Try.underlying103 hco w.heap.size Y.size (by unfold World.shape?; rw [hgY]) s.data.toList hne (by rw [← Lib.size_eq]; omega) (by rw [← Lib.size_eq]; omega)
      (fun j x hx => Lib.cells_of_row hgY Y.size j _ (by rw [List.take_of_length_le (by rw [Array.length_toList]; exact Nat.le_refl _), hYl]; simp [Lib.byteCells, hx]))
    rw [← Lib.size_eq] at hUS
    clear hY
    go_enter Try.func43, Try.ntmps43
    go_wp2
    go_ret
    have hb1 : Below w.heap.size w (w.alloc (.cells M 5)) := (Below.refl _ w).alloc (Nat.le_refl _) _
    have hb2 : Below w.heap.size (w.alloc (.cells M 5)) ((w.alloc (.cells M 5)).setRow w.heap.size Y) := ⟨rfl, rfl, rfl, by simp, fun k hk => setRow_other _ _ _ _ (by omega)⟩
    exact ⟨rfl, Lib.below_freeze (hb1.trans hb2) (p := ⟨w.heap.size, 0, none⟩) (Nat.le_refl _) _⟩
set_option maxHeartbeats 1000000 in
theorem clone_any (s : ByteArray) (w : World) (hlim : s.size ≤ 1000000) :
    Calls Try.prog 26 #[.string s] w fun e w' => e = .returned (.string s) ∧ Below w.heap.size w w' := by
  go_enter Try.func26, Try.ntmps26
  go_wp2_with fail
  refine (liteClone s _ hlim).mono ?_
  rintro e w1 ⟨rfl, hb1⟩
  go_wp2
  go_ret
  exact ⟨rfl, hb1⟩
end Go.Proofs.Ytokkmnednhigmae
/- Rows of numbers that a call owns. -/
namespace Go.Proofs.Ytokkmnednhigmae
open Go.RowKit

/-- The length of a row that a call owns. -/
theorem own_form {w : World} {B e size n : Nat} {v : Value} {xs : List Value} (h : w.ownsRow B e size v n xs) : ∃ ao cap, v = .slice ao n cap := by
  rcases h.2 with ⟨rfl, rfl⟩ | ⟨g, cap, cur, rfl, _⟩
  · exact ⟨none, 0, rfl⟩
  · exact ⟨_, cap, rfl⟩

/-- These numbers lie where a value says. -/
theorem own_ints {w : World} {B e : Nat} {v : Value} {xs : List Int} (h : w.ownsRow B e 1 v xs.length (xs.map (Value.int .i64))) :
    (v = .slice none 0 0 ∧ xs = []) ∨ ∃ g cap, v = .slice (some ⟨g, 0, none⟩) xs.length cap ∧ ∀ i (hi : i < xs.length), w.cell? ⟨g, i, none⟩ = some (.int .i64 xs[i]) := by
  rcases h.2 with ⟨rfl, h0⟩ | ⟨g, cap, cur, rfl, _⟩
  · exact .inl ⟨rfl, List.length_eq_zero_iff.1 h0⟩
  · refine .inr ⟨g, cap, rfl, fun i hi => ?_⟩
    rw [h.cellAt i (by omega)]
    simp [hi]

/-- Are two lists of numbers alike up to a place? -/
def eqTo (a b : List Int) (k : Nat) : Bool := a.take k == b.take k

end Go.Proofs.Ytokkmnednhigmae
