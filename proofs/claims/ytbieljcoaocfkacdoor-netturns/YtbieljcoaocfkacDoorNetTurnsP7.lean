/- Contracts and facts on the way to NetTurns, joined into one text: NetMath, NetCheck, RuleOrder, Quiet. -/
import Derived.Test.YtbieljcoaocfkacDoorNetTurnsP6
import Derived.Test.YtbieljcoaocfkacDoorNetTurnsP3
import Derived.Test.YtbieljcoaocfkacDoorNetTurnsP5
import Derived.BigQuiet
import Derived.Deep.QuietTactic
import Derived.Deep.RegionHeld3
import Derived.WalkKit
import Derived.WalkSpells
import Derived.Below
/- Nets in plain lists: what is wrong with one, where a packet goes out, what becomes of it. No program in it. -/
namespace Go.Proofs.YtbieljcoaocfkacDoor
open Go.RowKit
set_option linter.unusedVariables false

/-- The fault of the first k tables. -/
def tsTo (Ts : List (List Ru)) : Nat → Int
  | 0 => 0
  | k + 1 => if tsTo Ts k = 0 then tbN (Ts.getD k []) else tsTo Ts k
theorem ts_le {Ts : List (List Ru)} {k : Nat} (h : tsTo Ts k ≠ 0) : ∀ {n : Nat}, k ≤ n → tsTo Ts n = tsTo Ts k
  | 0, hn => by
    obtain rfl : k = 0 := by omega
    rfl
  | n + 1, hn => by
    by_cases e : k = n + 1
    · subst e; rfl
    · have := ts_le h (show k ≤ n by omega)
      rw [tsTo, if_neg (by rw [this]; exact h), this]
/-- The fault of a net. -/
def ntN (S : Int) (Ls : List ((Int × Int) × (Int × Int))) (Hs : List (ByteArray × (Int × Int))) (Ts : List (List Ru)) : Int :=
  if tpN S Ls Hs = 0 then (if (Ts.length : Int) = S then tsTo Ts Ts.length else 3) else tpN S Ls Hs
theorem ts_0 {Ts : List (List Ru)} : ∀ {n : Nat}, tsTo Ts n = 0 → ∀ k, k < n → tbN (Ts.getD k []) = 0
  | 0, _, k, hk => by omega
  | n + 1, h, k, hk => by
    unfold tsTo at h
    by_cases e : tsTo Ts n = 0
    · rw [if_pos e] at h
      by_cases ek : k = n
      · subst ek; exact h
      · exact ts_0 e k (by omega)
    · rw [if_neg e] at h
      exact absurd h e
theorem nt_0 {S : Int} {Ls : List ((Int × Int) × (Int × Int))} {Hs : List (ByteArray × (Int × Int))} {Ts : List (List Ru)} (h : ntN S Ls Hs Ts = 0) : tpN S Ls Hs = 0 ∧ (Ts.length : Int) = S ∧ ∀ k, k < Ts.length → tbN (Ts.getD k []) = 0 := by
  unfold ntN at h
  by_cases e : tpN S Ls Hs = 0
  · rw [if_pos e] at h
    by_cases e2 : (Ts.length : Int) = S
    · rw [if_pos e2] at h
      exact ⟨e, e2, ts_0 h⟩
    · rw [if_neg e2] at h
      omega
  · rw [if_neg e] at h
    exact absurd h e
/-- The fault of a packet: of the net, else of the spot or the header. -/
def cpN (S : Int) (Ls : List ((Int × Int) × (Int × Int))) (Hs : List (ByteArray × (Int × Int))) (Ts : List (List Ru)) (s : Int × Int) (h : Int) : Int :=
  if ntN S Ls Hs Ts = 0 then (if spB S s && hdrB h then 0 else 1) else ntN S Ls Hs Ts
theorem cp_0 {S : Int} {Ls : List ((Int × Int) × (Int × Int))} {Hs : List (ByteArray × (Int × Int))} {Ts : List (List Ru)} {s : Int × Int} {h : Int} (e : cpN S Ls Hs Ts s h = 0) : ntN S Ls Hs Ts = 0 ∧ spB S s = true ∧ hdrB h = true := by
  unfold cpN at e
  by_cases e1 : ntN S Ls Hs Ts = 0
  · rw [if_pos e1] at e
    cases e2 : spB S s && hdrB h
    · rw [e2] at e
      simp at e
    · rw [Bool.and_eq_true] at e2
      exact ⟨e1, e2.1, e2.2⟩
  · rw [if_neg e1] at e
    exact absurd e e1

/-- The rule that counts, if one does, in a table. -/
def roR (t : List Ru) (h : Int) : Ru := t.getD (luI t h).toNat zeR
def Ru.apN (r : Ru) (h : Int) : Int := Proofs.YtbieljcoaocfkacDoor.apN r.p r.m r.b r.o r.s r.v h
def Ru.apR (r : Ru) (h : Int) : Int := Proofs.YtbieljcoaocfkacDoor.apR r.p r.m r.b r.o r.s r.v h
/-- Where, and with which header, a packet goes out that a table meets. -/
def stT (t : List Ru) (p : (Int × Int) × Int) : Option ((Int × Int) × Int) :=
  if luN t p.2 = 0 then (if (roR t p.2).apN p.2 = 0 then some ((p.1.1, (roR t p.2).o), (roR t p.2).apR p.2) else none) else none
def taT (Ts : List (List Ru)) (s : Int) : List Ru := Ts.getD (s - 1).toNat []
def stO (Ts : List (List Ru)) (p : (Int × Int) × Int) : Option ((Int × Int) × Int) := stT (taT Ts p.1.1) p
/-- Are two hops the same? -/
def heB (a b : (Int × Int) × Int) : Bool := (a.1.1 == b.1.1) && ((a.1.2 == b.1.2) && ((a.2 == b.2)))
theorem heB_iff (a b : (Int × Int) × Int) : heB a b = true ↔ a = b := by
  obtain ⟨⟨a1, a2⟩, a3⟩ := a
  obtain ⟨⟨b1, b2⟩, b3⟩ := b
  simp [heB, and_assoc]
/-- What becomes of a packet at its last hop: it ends so, or there is a next hop. -/
def goE (Ls : List ((Int × Int) × (Int × Int))) (Hs : List (ByteArray × (Int × Int))) (t : List Ru) (l : List ((Int × Int) × Int)) (p : (Int × Int) × Int) : (Int × ByteArray) ⊕ ((Int × Int) × Int) :=
  match stT t p with
  | none => .inl (2, ByteArray.empty)
  | some q => match atO Hs q.1 with
    | some m => .inl (1, m)
    | none => match peerO Ls q.1 with
      | none => .inl (3, ByteArray.empty)
      | some s => if l.length = 24 ∨ l.any (fun x => heB (s, q.2) x) = true then .inl (4, ByteArray.empty) else .inr (s, q.2)
def zeH : (Int × Int) × Int := ((0, 0), 0)
def laH (l : List ((Int × Int) × Int)) : (Int × Int) × Int := l.getD (l.length - 1) zeH
/-- What becomes of a packet that has had these hops. -/
def foF (Ls : List ((Int × Int) × (Int × Int))) (Hs : List (ByteArray × (Int × Int))) (Ts : List (List Ru)) : Nat → List ((Int × Int) × Int) → Int × ByteArray × List ((Int × Int) × Int)
  | 0, l => (4, ByteArray.empty, l)
  | n + 1, l => match goE Ls Hs (taT Ts (laH l).1.1) l (laH l) with
    | .inl e => (e.1, e.2, l)
    | .inr p => foF Ls Hs Ts n (l ++ [p])
/-- What becomes of a packet that comes in. -/
def frF (Ls : List ((Int × Int) × (Int × Int))) (Hs : List (ByteArray × (Int × Int))) (Ts : List (List Ru)) (s : Int × Int) (h : Int) : Int × ByteArray × List ((Int × Int) × Int) := foF Ls Hs Ts 24 [(s, h)]
/-- No fate at all. -/
def zeF : Int × ByteArray × List ((Int × Int) × Int) := (0, ByteArray.empty, [])
/-- The answers. -/
def spN (S : Int) (Ls : List ((Int × Int) × (Int × Int))) (Hs : List (ByteArray × (Int × Int))) (Ts : List (List Ru)) (s : Int × Int) (h : Int) : Int :=
  if cpN S Ls Hs Ts s h = 0 then (if (stO Ts (s, h)).isSome then 0 else 5) else cpN S Ls Hs Ts s h
def spV (S : Int) (Ls : List ((Int × Int) × (Int × Int))) (Hs : List (ByteArray × (Int × Int))) (Ts : List (List Ru)) (s : Int × Int) (h : Int) : (Int × Int) × Int :=
  if cpN S Ls Hs Ts s h = 0 then (stO Ts (s, h)).getD zeH else zeH
def frV (S : Int) (Ls : List ((Int × Int) × (Int × Int))) (Hs : List (ByteArray × (Int × Int))) (Ts : List (List Ru)) (s : Int × Int) (h : Int) : Int × ByteArray × List ((Int × Int) × Int) :=
  if cpN S Ls Hs Ts s h = 0 then frF Ls Hs Ts s h else zeF
def seN (S : Int) (Ls : List ((Int × Int) × (Int × Int))) (Hs : List (ByteArray × (Int × Int))) (Ts : List (List Ru)) (m : ByteArray) (h : Int) : Int :=
  if ntN S Ls Hs Ts = 0 then (if weN S Ls Hs m = 0 then (if hdrB h then 0 else 1) else weN S Ls Hs m) else ntN S Ls Hs Ts
def seV (S : Int) (Ls : List ((Int × Int) × (Int × Int))) (Hs : List (ByteArray × (Int × Int))) (Ts : List (List Ru)) (m : ByteArray) (h : Int) : Int × ByteArray × List ((Int × Int) × Int) :=
  if seN S Ls Hs Ts m h = 0 then frF Ls Hs Ts (weV S Ls Hs m) h else zeF
end Go.Proofs.YtbieljcoaocfkacDoor
/- What net.Check answers: a contract for the walks above it. -/
namespace Go.Proofs.YtbieljcoaocfkacDoor
open Go.RowKit
set_option linter.unusedSimpArgs false
set_option linter.unusedVariables false

/-- These tables lie one behind the other. -/
def TAt (w : World) (g o : Nat) (Ts : List (List Ru)) : Prop := ∀ i (h : i < Ts.length), ∃ ao n cap, w.cell? ⟨g, o + i, none⟩ = some (.slice ao n cap) ∧ SR w (.slice ao n cap) Ts[i]
theorem TAt.later {w w' : World} {g o : Nat} {Ts : List (List Ru)} (h : TAt w g o Ts) (hb : Below w.heap.size w w') : TAt w' g o Ts := fun i hi => by
  obtain ⟨ao, n, cap, h1, h2⟩ := h i hi
  exact ⟨ao, n, cap, cell_later hb h1, h2.later hb⟩
/-- A value is a slice of these tables. -/
def TS (w : World) (v : Value) (Ts : List (List Ru)) : Prop :=
  (∃ ao cap, v = .slice ao 0 cap ∧ Ts = []) ∨ ∃ g o cap, v = .slice (some ⟨g, o, none⟩) Ts.length cap ∧ Ts.length ≤ cap ∧ cap ≤ maxLen ∧ TAt w g o Ts
theorem TS.later {w w' : World} {v : Value} {Ts : List (List Ru)} (h : TS w v Ts) (hb : Below w.heap.size w w') : TS w' v Ts := by
  rcases h with h | ⟨g, o, cap, h1, h2, h3, h4⟩
  · exact .inl h
  · exact .inr ⟨g, o, cap, h1, h2, h3, h4.later hb⟩
theorem TS.form {w : World} {v : Value} {Ts : List (List Ru)} (h : TS w v Ts) : ∃ ao n cap, v = .slice ao n cap ∧ Ts.length = n ∧ n ≤ maxLen ∧ n ≤ cap ∧ (0 < n → ∃ g o, ao = some ⟨g, o, none⟩ ∧ TAt w g o Ts ∧ cap ≤ maxLen) := by
  rcases h with ⟨ao, cap, rfl, rfl⟩ | ⟨g, o, cap, rfl, h1, h2, h3⟩
  · exact ⟨ao, 0, cap, rfl, rfl, Nat.zero_le _, Nat.zero_le _, fun h => absurd h (by omega)⟩
  · exact ⟨_, _, cap, rfl, rfl, Nat.le_trans h1 h2, h1, fun _ => ⟨g, o, rfl, h3, h2⟩⟩
theorem TS.len {w : World} {ao : Option Addr} {n cap : Nat} {Ts : List (List Ru)} (h : TS w (.slice ao n cap) Ts) : Ts.length = n := by
  rcases h with ⟨_, _, e, rfl⟩ | ⟨_, _, _, e, _⟩
  · simp at e; simp [e]
  · simp at e; exact e.2.1.symm
theorem getT {Ts : List (List Ru)} {k : Nat} (hk : k < Ts.length) : Ts.getD k [] = Ts[k] := by simp [List.getD, hk]
/-- The box of a net. -/
def NeBox (W : World) (g : Nat) (S : Int) (v1 v2 v3 : Value) : Prop := W.cell? ⟨g, 0, none⟩ = some (.int .i64 S) ∧ W.cell? ⟨g, 1, none⟩ = some v1 ∧ W.cell? ⟨g, 2, none⟩ = some v2 ∧ W.cell? ⟨g, 3, none⟩ = some v3
theorem nebox_new (w : World) (S : Int) (v1 v2 v3 : Value) (t : TypeId) : NeBox (w.alloc (Obj.cells #[.int .i64 S, v1, v2, v3] t)) w.heap.size S v1 v2 v3 := by
  refine ⟨?_, ?_, ?_, ?_⟩ <;> simp
theorem NeBox.later {W W' : World} {g : Nat} {S : Int} {v1 v2 v3 : Value} (h : NeBox W g S v1 v2 v3) (hb : Below W.heap.size W W') : NeBox W' g S v1 v2 v3 :=
  ⟨cell_later hb h.1, cell_later hb h.2.1, cell_later hb h.2.2.1, cell_later hb h.2.2.2⟩

set_option maxHeartbeats 2000000 in
set_option maxRecDepth 100000 in
theorem ncheck_any (S : Int) (ao : Option Addr) (n cap : Nat) (ao2 : Option Addr) (n2 cap2 : Nat) (ao3 : Option Addr) (n3 cap3 : Nat) (Ls : List ((Int × Int) × (Int × Int))) (Hs : List (ByteArray × (Int × Int))) (Ts : List (List Ru)) (w : World)
    (hL : GS lnkE w (.slice ao n cap) Ls) (hH : GS hstE w (.slice ao2 n2 cap2) Hs) (hT : TS w (.slice ao3 n3 cap3) Ts) :
    Calls Tryd.prog 24 #[.agg #[.int .i64 S, .slice ao n cap, .slice ao2 n2 cap2, .slice ao3 n3 cap3]] w fun e w' => e = .returned (noV (ntN S Ls Hs Ts)) ∧ Below w.heap.size w w' := by
  have hb1 : Below w.heap.size w (w.alloc (Obj.cells #[.int .i64 S, .slice ao n cap, .slice ao2 n2 cap2, .slice ao3 n3 cap3] 58)) := (Below.refl _ _).alloc (Nat.le_refl _) _
  obtain ⟨C, hC⟩ : ∃ C, C = ntN S Ls Hs Ts := ⟨_, rfl⟩
  have HC : Hid (C = ntN S Ls Hs Ts) := hC
  rw [← hC]
  have HL2 : Hid (GS lnkE (w.alloc (Obj.cells #[.int .i64 S, .slice ao n cap, .slice ao2 n2 cap2, .slice ao3 n3 cap3] 58)) (.slice ao n cap) Ls) := hL.later hb1
  have HH2 : Hid (GS hstE (w.alloc (Obj.cells #[.int .i64 S, .slice ao n cap, .slice ao2 n2 cap2, .slice ao3 n3 cap3] 58)) (.slice ao2 n2 cap2) Hs) := hH.later hb1
  have HT2 : Hid (TS (w.alloc (Obj.cells #[.int .i64 S, .slice ao n cap, .slice ao2 n2 cap2, .slice ao3 n3 cap3] 58)) (.slice ao3 n3 cap3) Ts) := hT.later hb1
  have HB2 : Hid (Below w.heap.size w (w.alloc (Obj.cells #[.int .i64 S, .slice ao n cap, .slice ao2 n2 cap2, .slice ao3 n3 cap3] 58))) := hb1
  have HX : Hid (NeBox (w.alloc (Obj.cells #[.int .i64 S, .slice ao n cap, .slice ao2 n2 cap2, .slice ao3 n3 cap3] 58)) w.heap.size S (.slice ao n cap) (.slice ao2 n2 cap2) (.slice ao3 n3 cap3)) := nebox_new w S _ _ _ 58
  clear hC hb1 hL hH hT
  go_enter Tryd.func24, Tryd.ntmps24
  go_wp2_with fail
  refine (check_any S ao n cap ao2 n2 cap2 Ls Hs _ HL2.out HH2.out).mono ?_
  rintro e w1 ⟨rfl, hb1⟩
  obtain ⟨T, hT⟩ : ∃ T, T = tpN S Ls Hs := ⟨_, rfl⟩
  have HT : Hid (T = tpN S Ls Hs) := hT
  rw [← hT]
  have HB1 : Hid (Below w.heap.size w w1) := HB2.out.trans (hb1.mono HB2.out.size)
  obtain ⟨b0, b1, b2, b3⟩ := HX.out.later hb1
  have HT1 : Hid (TS w1 (.slice ao3 n3 cap3) Ts) := HT2.out.later hb1
  clear hT hb1 HX HL2 HH2 HB2 HT2
  by_cases h0 : T = 0
  · subst h0
    rw [no_ok rfl]
    obtain ⟨_, _, _, e2, hTn, hTm, _, hTa⟩ := HT1.out.form
    cases e2
    have HTN : Hid (Ts.length = n3) := hTn
    have HTM : Hid (n3 ≤ maxLen) := hTm
    have HTA : Hid (0 < n3 → ∃ g o, ao3 = some ⟨g, o, none⟩ ∧ TAt w1 g o Ts ∧ cap3 ≤ maxLen) := hTa
    have n63 : n3 ≤ 9223372036854775807 := by unfold maxLen at hTm; omega
    clear hTn hTm hTa HT1
    by_cases hS : (n3 : Int) = S
    · have HC2 : Hid (C = tsTo Ts n3) := by
        show _ = _
        rw [HC.out, ntN, if_pos HT.out.symm, if_pos (by rw [HTN.out]; exact hS), HTN.out]
      have e1 : ((n3 : Int) != S) = false := by simp [hS]
      clear hS HC
      go_wp2
      go_loopw [24] (fun i wr => ∃ k : Nat, k ≤ n3 ∧ i = .int .i64 k ∧ tsTo Ts k = 0 ∧ Below w1.heap.size w1 wr) (fun i _ => n3 - (intOf i).toNat)
      case atStart => exact ⟨0, by omega, rfl, rfl, Below.refl _ _⟩
      case round =>
        obtain ⟨k, hk, rfl, hz, hB⟩ := hrel
        have HZ : Hid (tsTo Ts k = 0) := hz
        have HB : Hid (Below w1.heap.size w1 wr) := hB
        have HBw : Hid (Below w.heap.size w wr) := HB1.out.trans (hB.mono HB1.out.size)
        clear hz b0 b1 b2 b3
        by_cases hlt : k < n3
        · obtain ⟨g, o, hao, hc, _⟩ := HTA.out (by omega)
          subst hao
          obtain ⟨a4, n4, c4, q0, hs⟩ := (hc.later hB) k (by rw [HTN.out]; exact hlt)
          have HS4 : Hid (SR wr (.slice a4 n4 c4) (Ts.getD k [])) := by
            show SR _ _ _
            rw [getT (by rw [HTN.out]; exact hlt)]
            exact hs
          clear hs hc hB
          go_wp2_with fail
          refine (table_any _ (Ts.getD k []) _ HS4.out).mono ?_
          rintro e w2 ⟨rfl, hb2⟩
          obtain ⟨R, hR⟩ : ∃ R, R = tbN (Ts.getD k []) := ⟨_, rfl⟩
          have HR : Hid (tsTo Ts (k + 1) = R) := by
            show _ = _
            rw [tsTo, if_pos HZ.out, hR]
          rw [← hR]
          have HB3 : Hid (Below w1.heap.size w1 w2) := HB.out.trans (hb2.mono HB.out.size)
          have HBw3 : Hid (Below w.heap.size w w2) := HBw.out.trans (hb2.mono HBw.out.size)
          clear hR hb2 q0
          by_cases hN : R = 0
          · subst hN
            rw [no_ok rfl]
            go_wp2
            go_roundw
            case rel => exact ⟨k + 1, by omega, by go_num, HR.out, HB3.out⟩
            case measure => simp [intOf]; omega
          · rw [no_ne hN]
            have HCR : Hid (C = R) := by
              show _ = _
              rw [HC2.out, ts_le (k := k + 1) (by rw [HR.out]; exact hN) (by omega), HR.out]
            have HNN : Hid (R ≠ 0) := hN
            clear hN
            go_wp2
            go_ret
            exact ⟨by rw [HCR.out, no_ne HNN.out]; rfl, HBw3.out⟩
        · obtain rfl : k = n3 := by omega
          have HCR : Hid (C = 0) := by
            show _ = _
            rw [HC2.out, HZ.out]
          clear hB
          go_wp2
          go_ret
          exact ⟨by rw [HCR.out]; rfl, HBw.out⟩
    · have HC2 : Hid (C = 3) := by
        show _ = _
        rw [HC.out, ntN, if_pos HT.out.symm, if_neg (by rw [HTN.out]; exact hS)]
      have e1 : ((n3 : Int) != S) = true := by simpa using hS
      clear hS HC
      go_wp2
      go_ret
      exact ⟨by rw [HC2.out]; rfl, HB1.out⟩
  · rw [no_ne h0]
    have HC2 : Hid (C = T) := by
      show _ = _
      rw [HC.out, ntN, ← HT.out, if_neg h0]
    have HN0 : Hid (T ≠ 0) := h0
    clear h0
    go_wp2
    go_ret
    exact ⟨by rw [HC2.out, no_ne HN0.out]; rfl, HB1.out⟩
end Go.Proofs.YtbieljcoaocfkacDoor
/- What order of package rule answers, called with any two rules. -/
namespace Go.Proofs.YtbieljcoaocfkacDoor
open Go.RowKit
set_option linter.unusedSimpArgs false

set_option maxHeartbeats 1000000 in
theorem nan_any (a : Int) (w : World) : Calls Tryd.prog 97 #[.int .i64 a] w fun e w' => e = .returned (.bool false) ∧ w' = w := by
  go_enter Tryd.func97, Tryd.ntmps97
  go_wp2
  go_ret
  exact ⟨by simp, rfl⟩

set_option maxHeartbeats 1000000 in
theorem compare_any (a b : Int) (w : World) : Calls Tryd.prog 96 #[.int .i64 a, .int .i64 b] w fun e w' => e = .returned (.int .i64 (cmpN a b)) ∧ w' = w := by
  by_cases h1 : a < b
  · have e : cmpN a b = -1 := by simp [cmpN, h1]
    rw [e]; clear e
    have g1 : decide (a < b) = true := by simpa using h1
    go_enter Tryd.func96, Tryd.ntmps96
    go_wp2_with (first | (go_at_call 97; refine (nan_any _ _).mono ?_; rintro e w' ⟨rfl, rfl⟩))
    go_ret
    exact ⟨rfl, rfl⟩
  · have g1 : decide (a < b) = false := by simpa using h1
    by_cases h2 : b < a
    · have e : cmpN a b = 1 := by simp [cmpN, h1, h2]
      rw [e]; clear e
      have g2 : decide (b < a) = true := by simpa using h2
      go_enter Tryd.func96, Tryd.ntmps96
      go_wp2_with (first | (go_at_call 97; refine (nan_any _ _).mono ?_; rintro e w' ⟨rfl, rfl⟩))
      go_ret
      exact ⟨rfl, rfl⟩
    · have e : cmpN a b = 0 := by simp [cmpN, h1, h2]
      rw [e]; clear e
      have g2 : decide (b < a) = false := by simpa using h2
      go_enter Tryd.func96, Tryd.ntmps96
      go_wp2_with (first | (go_at_call 97; refine (nan_any _ _).mono ?_; rintro e w' ⟨rfl, rfl⟩))
      go_ret
      exact ⟨rfl, rfl⟩

set_option maxHeartbeats 1000000 in
theorem or_any (x y z : Int) (g : Nat) (w : World) (h0 : w.cell? ⟨g, 0, none⟩ = some (.int .i64 x)) (h1 : w.cell? ⟨g, 1, none⟩ = some (.int .i64 y)) (h2 : w.cell? ⟨g, 2, none⟩ = some (.int .i64 z)) :
    Calls Tryd.prog 95 #[.slice (some ⟨g, 0, none⟩) 3 3] w fun e w' => e = .returned (.int .i64 (orN x y z)) ∧ w' = w := by
  generalize hq : orN x y z = q
  have HQ : Hid ((if x = 0 then (if y = 0 then z else y) else x) = q) := hq
  clear hq
  go_enter Tryd.func95, Tryd.ntmps95
  go_wp2
  go_loopw [8] (fun i wr => ∃ k : Nat, k ≤ 3 ∧ i = .int .i64 k ∧ (0 < k → x = 0) ∧ (1 < k → y = 0) ∧ (2 < k → z = 0) ∧ wr = w) (fun i _ => 3 - (intOf i).toNat)
  case atStart => exact ⟨0, by omega, rfl, by omega, by omega, by omega, rfl⟩
  case round =>
    obtain ⟨k, hk, rfl, a0, a1, a2, hw⟩ := hrel
    replace hw := hw.symm
    subst hw
    rcases (by omega : k = 0 ∨ k = 1 ∨ k = 2 ∨ k = 3) with rfl | rfl | rfl | rfl
    · clear a0 a1 a2
      by_cases hx : x = 0
      · have g1 : (x == 0) = true := by simpa using hx
        have g2 : (x != 0) = false := by simpa using hx
        go_wp2
        go_roundw
        case rel => exact ⟨1, by omega, rfl, fun _ => hx, by omega, by omega, trivial⟩
        case measure => simp [intOf]
      · have g1 : (x == 0) = false := by simpa using hx
        have g2 : (x != 0) = true := by simpa using hx
        go_wp2
        go_ret
        exact ⟨by rw [← HQ.out, if_neg hx]; rfl, rfl⟩
    · have hx := a0 (by omega)
      clear a0 a1 a2
      by_cases hy : y = 0
      · have g1 : (y == 0) = true := by simpa using hy
        have g2 : (y != 0) = false := by simpa using hy
        go_wp2
        go_roundw
        case rel => exact ⟨2, by omega, rfl, fun _ => hx, fun _ => hy, by omega, trivial⟩
        case measure => simp [intOf]
      · have g1 : (y == 0) = false := by simpa using hy
        have g2 : (y != 0) = true := by simpa using hy
        go_wp2
        go_ret
        exact ⟨by rw [← HQ.out, if_pos hx, if_neg hy]; rfl, rfl⟩
    · have hx := a0 (by omega)
      have hy := a1 (by omega)
      clear a0 a1 a2
      by_cases hz : z = 0
      · have g1 : (z == 0) = true := by simpa using hz
        have g2 : (z != 0) = false := by simpa using hz
        go_wp2
        go_roundw
        case rel => exact ⟨3, by omega, rfl, fun _ => hx, fun _ => hy, fun _ => hz, trivial⟩
        case measure => simp [intOf]
      · have g1 : (z == 0) = false := by simpa using hz
        have g2 : (z != 0) = true := by simpa using hz
        go_wp2
        go_ret
        exact ⟨by rw [← HQ.out, if_pos hx, if_pos hy]; rfl, rfl⟩
    · have hx := a0 (by omega)
      have hy := a1 (by omega)
      have hz := a2 (by omega)
      clear a0 a1 a2
      go_wp2
      go_ret
      exact ⟨by rw [← HQ.out, if_pos hx, if_pos hy, hz]; rfl, rfl⟩

theorem compare_b (a b : Int) (w : World) : Calls Tryd.prog 96 #[.int .i64 a, .int .i64 b] w fun e w' => e = .returned (.int .i64 (cmpN a b)) ∧ Below w.heap.size w w' :=
  (compare_any a b w).mono fun _ w' h => ⟨h.1, by rw [h.2]; exact Below.refl _ _⟩
theorem or_b (x y z : Int) (g : Nat) (w : World) (h0 : w.cell? ⟨g, 0, none⟩ = some (.int .i64 x)) (h1 : w.cell? ⟨g, 1, none⟩ = some (.int .i64 y)) (h2 : w.cell? ⟨g, 2, none⟩ = some (.int .i64 z)) :
    Calls Tryd.prog 95 #[.slice (some ⟨g, 0, none⟩) 3 3] w fun e w' => e = .returned (.int .i64 (orN x y z)) ∧ Below w.heap.size w w' :=
  (or_any x y z g w h0 h1 h2).mono fun _ w' h => ⟨h.1, by rw [h.2]; exact Below.refl _ _⟩
theorem cells3 {W : World} (x y z : Value) (t : TypeId) :
    (W.alloc (.cells #[x, y, z] t)).cell? ⟨W.heap.size, 0, none⟩ = some x ∧ (W.alloc (.cells #[x, y, z] t)).cell? ⟨W.heap.size, 1, none⟩ = some y ∧ (W.alloc (.cells #[x, y, z] t)).cell? ⟨W.heap.size, 2, none⟩ = some z := by
  refine ⟨?_, ?_, ?_⟩ <;> simp
/-- Two rules in the two blocks from B on, as far as order reads them. -/
def OS (w : World) (p m b p' m' b' : Int) (w' : World) : Prop :=
  Below w.heap.size w w' ∧ (w'.cell? ⟨w.heap.size, 0, none⟩ = some (.int .i64 p) ∧ w'.cell? ⟨w.heap.size, 1, none⟩ = some (.int .i64 m) ∧ w'.cell? ⟨w.heap.size, 2, none⟩ = some (.int .i64 b)) ∧
    (w'.cell? ⟨w.heap.size + 1, 0, none⟩ = some (.int .i64 p') ∧ w'.cell? ⟨w.heap.size + 1, 1, none⟩ = some (.int .i64 m') ∧ w'.cell? ⟨w.heap.size + 1, 2, none⟩ = some (.int .i64 b'))
theorem OS.later {w W W' : World} {p m b p' m' b' : Int} (hb : Below W.heap.size W W') (h : OS w p m b p' m' b' W) : OS w p m b p' m' b' W' := by
  obtain ⟨h0, ⟨h1, h2, h3⟩, ⟨h4, h5, h6⟩⟩ := h
  exact ⟨h0.trans (hb.mono h0.size), ⟨cell_later hb h1, cell_later hb h2, cell_later hb h3⟩, ⟨cell_later hb h4, cell_later hb h5, cell_later hb h6⟩⟩

set_option maxHeartbeats 400000 in
theorem order_any (p m b o s v p' m' b' o' s' v' : Int) (w : World) :
    Calls Tryd.prog 93 #[.agg #[.int .i64 p, .int .i64 m, .int .i64 b, .int .i64 o, .int .i64 s, .int .i64 v], .agg #[.int .i64 p', .int .i64 m', .int .i64 b', .int .i64 o', .int .i64 s', .int .i64 v']] w fun e w' => e = .returned (.int .i64 (ordN p m b p' m' b')) ∧ Below w.heap.size w w' := by
  have hS0 : OS w p m b p' m' b' ((w.alloc (Obj.cells #[Value.int IntKind.i64 p, Value.int IntKind.i64 m, Value.int IntKind.i64 b, Value.int IntKind.i64 o, Value.int IntKind.i64 s, Value.int IntKind.i64 v] 71)).alloc (Obj.cells #[Value.int IntKind.i64 p', Value.int IntKind.i64 m', Value.int IntKind.i64 b', Value.int IntKind.i64 o', Value.int IntKind.i64 s', Value.int IntKind.i64 v'] 71)) := by
    refine ⟨((Below.refl _ _).alloc (Nat.le_refl _) _).alloc (by simp) _, ⟨?_, ?_, ?_⟩, ⟨?_, ?_, ?_⟩⟩ <;> simp
  go_enter Tryd.func93, Tryd.ntmps93
  go_wp2
  generalize ((w.alloc (Obj.cells #[Value.int IntKind.i64 p, Value.int IntKind.i64 m, Value.int IntKind.i64 b, Value.int IntKind.i64 o, Value.int IntKind.i64 s, Value.int IntKind.i64 v] 71)).alloc (Obj.cells #[Value.int IntKind.i64 p', Value.int IntKind.i64 m', Value.int IntKind.i64 b', Value.int IntKind.i64 o', Value.int IntKind.i64 s', Value.int IntKind.i64 v'] 71)) = W0 at *
  unfold OS at hS0
  go_region_held3 (fun w' => Below w.heap.size w w' ∧ (w'.cell? ⟨w.heap.size, 0, none⟩ = some (.int .i64 p) ∧ w'.cell? ⟨w.heap.size, 1, none⟩ = some (.int .i64 m) ∧ w'.cell? ⟨w.heap.size, 2, none⟩ = some (.int .i64 b)) ∧
      (w'.cell? ⟨w.heap.size + 1, 0, none⟩ = some (.int .i64 p') ∧ w'.cell? ⟨w.heap.size + 1, 1, none⟩ = some (.int .i64 m') ∧ w'.cell? ⟨w.heap.size + 1, 2, none⟩ = some (.int .i64 b')))
    (first | assumption | exact OS.later (by assumption) (by assumption) | exact OS.later (Below.drew (Below.refl _ _)) (by assumption) | exact OS.later (Below.alloc (Below.refl _ _) (Nat.le_refl _) _) (by assumption))
    (first
      | (go_at_call 96; refine (compare_b _ _ _).mono ?_; rintro e w' ⟨rfl, hb⟩)
      | (go_at_call 95; refine (or_b (cmpN p p') (cmpN m m') (cmpN b b') _ _ (cells3 _ _ _ _).1 (cells3 _ _ _ _).2.1 (cells3 _ _ _ _).2.2).mono ?_; rintro e w' ⟨rfl, hb⟩))
  have hS := (‹Below w.heap.size w w' ∧ _›).1
  go_wp2
  go_ret
  exact ⟨rfl, hS⟩
end Go.Proofs.YtbieljcoaocfkacDoor
/- A region that draws its order and only reads, in a class of worlds: its operations, one by one, in the order of the text. -/
namespace Go.Proofs.YtbieljcoaocfkacDoor
open Go.RowKit

theorem quiet_val {P : Program} {o : Oper} {a : Act} {C : World → Prop} {K : Act → Prop} {v : Value}
    (hy : ∀ w, C w → (execOp a.eval o).run P w = .ok (.value v) w) (h : K (a.put o.dst v)) : o.quiet P a C K :=
  ⟨v, fun w hC => by unfold Oper.quietAt; rw [hy w hC]; exact ⟨rfl, rfl⟩, h⟩
theorem quiet_call {P : Program} {o : Oper} {a : Act} {C : World → Prop} {K : Act → Prop} {v : Value} {f : FuncId} {args : Array Value}
    (he : ∀ w, (execOp a.eval o).run P w = .ok (.enter f args) w) (hc : ∀ w, C w → Calls P f args w fun e w'' => e = .returned v ∧ C w'') (h : K (a.put o.dst v)) : o.quiet P a C K :=
  ⟨v, fun w hC => by unfold Oper.quietAt; rw [he w]; exact ⟨rfl, hc w hC⟩, h⟩
theorem q_want {P : Program} {ops : Array Oper} {C : World → Prop} {Q : Act → Prop} {a : Act} {o : Oper} {rest : List Oper} (hw : Region.wanted o (yielded ops a.tmps) = true)
    (h : ∀ K : Act → Prop, (∀ a, wpQuiet P ops C Q rest a → K a) → o.quiet P a C K) : wpQuiet P ops C Q (o :: rest) a :=
  wpQuiet_step (fun K hK => by rw [if_pos hw]; exact h K hK)
theorem q_skip {P : Program} {ops : Array Oper} {C : World → Prop} {Q : Act → Prop} {a : Act} {o : Oper} {rest : List Oper} (hw : Region.wanted o (yielded ops a.tmps) = false)
    (h : wpQuiet P ops C Q rest (a.put o.dst undef)) : wpQuiet P ops C Q (o :: rest) a := by
  unfold wpQuiet
  rw [if_neg (by rw [hw]; exact Bool.false_ne_true)]
  exact h
/-- An operation on two values whose run is known. -/
theorem exec_bin {P : Program} {o : Oper} {a : Act} {w : World} {op : BinOp} {t t2 : TypeId} {x y : Operand} {v : Value} (ho : o.op = .binOp op t x y t2) (hg : (eqGuard op t x y (a.eval x) (a.eval y)).run P w = .ok () w)
    (h : (binOp op t (a.eval x) (a.eval y)).run P w = .ok v w) : (execOp a.eval o).run P w = .ok (.value v) w := by
  simp [execOp, ho, hg, h, Result.andThen]
theorem run_eql_of {P : Program} {w : World} {t : TypeId} {x y : Array Value} {b : Bool} (h : (Op.equal t (.agg x) (.agg y)).run P w = .ok b w) : (binOp .eql t (.agg x) (.agg y)).run P w = .ok (.bool b) w := by
  simp [binOp, h]
theorem run_neq_of {P : Program} {w : World} {t : TypeId} {x y : Array Value} {b : Bool} (h : (Op.equal t (.agg x) (.agg y)).run P w = .ok b w) : (binOp .neq t (.agg x) (.agg y)).run P w = .ok (.bool (!b)) w := by
  simp [binOp, h]
end Go.Proofs.YtbieljcoaocfkacDoor
