/- Contracts and facts on the way to WishProves, joined into one text: RuleTab2, NetCheck, RuleOrder, RuleLook, RuleApply, NetStep1, NetMath4, NetLegMath, TopoSpot, TopoPeers. -/
import Derived.Test.YtpmcjelihdlfeaaDoorWishProvesP4
import Derived.Test.YtpmcjelihdlfeaaDoorWishProvesP3
import Derived.Test.YtpmcjelihdlfeaaDoorWishProvesP2
import Derived.Test.YtpmcjelihdlfeaaDoorWishProvesP1
import Derived.Deep.CutRange
import Derived.Deep.CutBlock
import Derived.BigQuiet
import Derived.Deep.QuietTactic
import Derived.Deep.RegionHeld3
import Derived.BigRegion
import Derived.Deep.RegionWith
import Derived.Carry
import Derived.WalkKit
import Derived.WalkSpells
import Derived.Below
/- What Table of package rule answers, called with any table: the loop. -/
namespace Go.Proofs.YtpmcjelihdlfeaaDoor
open Go.RowKit
set_option linter.unusedSimpArgs false

theorem tb_long {L : List Ru} (h : 12 < L.length) : tbN L = 4 := by simp [tbN, h]
theorem tb_at {L : List Ru} (h : L.length ≤ 12) {k : Nat} (hk : k < L.length) {x : Int} (h1 : tbTo L (k + 1) = x) (h2 : x ≠ 0) : tbN L = x := by
  subst h1
  rw [tbN, if_neg (by omega)]
  exact to_le h2 hk
theorem to_bad {L : List Ru} {k : Nat} {r : Ru} (hk : k < L.length) (hr : L[k] = r) (h : tbTo L k = 0) (h2 : r.n ≠ 0) : tbTo L (k + 1) = r.n := by
  rw [tbTo, if_pos h, getD_at hk, hr, if_neg h2]
theorem to_clash {L : List Ru} {k : Nat} {r : Ru} (hk : k < L.length) (hr : L[k] = r) (h : tbTo L k = 0) (h2 : r.n = 0) (h3 : (L.take k).any (fun a => keyB a r) = true) : tbTo L (k + 1) = 7 := by
  rw [tbTo, if_pos h, getD_at hk, hr, if_pos h2, h3]
  rfl
theorem to_next {L : List Ru} {k : Nat} {r : Ru} (hk : k < L.length) (hr : L[k] = r) (h : tbTo L k = 0) (h2 : r.n = 0) (h3 : (L.take k).any (fun a => keyB a r) = false) : tbTo L (k + 1) = 0 := by
  rw [tbTo, if_pos h, getD_at hk, hr, if_pos h2, h3]
  rfl

set_option maxHeartbeats 1000000 in
theorem table_some (g o cap n : Nat) (L : List Ru) (w : World) (hc : RAt w g o L) (hn : L.length = n) (hl : n ≤ 12) (hcap : n ≤ cap) (hcap2 : cap ≤ maxLen) :
    Calls Tryd.prog 28 #[.slice (some ⟨g, o, none⟩) n cap] w fun e w' => e = .returned (noV (tbN L)) ∧ Below w.heap.size w w' := by
  have HN : Hid (L.length = n) := hn
  unfold maxLen at hcap2
  clear hn
  go_enter Tryd.func28, Tryd.ntmps28
  go_wp2
  go_loopw [12] (fun i wr => ∃ k : Nat, k ≤ n ∧ i = .int .i64 k ∧ tbTo L k = 0 ∧ Below w.heap.size w wr) (fun i _ => n - (intOf i).toNat)
  case atStart => exact ⟨0, by omega, rfl, rfl, Below.refl _ _⟩
  case round =>
    obtain ⟨k, hk, rfl, hno, hB⟩ := hrel
    have HB : Hid (Below w.heap.size w wr) := hB
    have HNO : Hid (tbTo L k = 0) := hno
    clear hno
    by_cases hlt : k < n
    · obtain ⟨p, m, b, q, s, v, hkl, hL, q0, q1, q2, q3, q4, q5⟩ := (hc.later hB).at HN.out hlt
      have HL : Hid (L[k] = ⟨p, m, b, q, s, v⟩) := hL
      have HC6 := C6.new wr p m b q s v 47
      have HRT := ((hc.later hB).later ((Below.refl _ _).alloc (Nat.le_refl _) (Obj.cells #[Value.int IntKind.i64 p, Value.int IntKind.i64 m, Value.int IntKind.i64 b, Value.int IntKind.i64 q, Value.int IntKind.i64 s, Value.int IntKind.i64 v] 47))).take k
      have HTL : Hid ((L.take k).length = k) := by show (L.take k).length = k; simp; omega
      have hk2 : k ≤ cap := by omega
      clear hL hB
      by_cases ho : ruN p m b q s v = 0
      · go_wp2_with fail
        refine (ruCheck_any _ _ _ _ _ _ _).mono ?_
        rintro e w1 ⟨rfl, hb1⟩
        rw [no_ok ho]
        have HB1 := HB.out.trans (((Below.refl _ _).alloc (Nat.le_refl _) _).trans (hb1.mono (by simp)) |>.mono HB.out.size)
        have HC7 := HC6.later hb1
        have HR7 := HRT.later hb1
        clear hb1 HC6 HRT
        cases ho2 : (L.take k).any (fun a => keyB a ⟨p, m, b, q, s, v⟩)
        · go_wp2_with fail
          refine (containsR_any _ _ _ k _ ⟨p, m, b, q, s, v⟩ (L.take k) _ HR7 HTL.out (by unfold maxLen; omega) (by unfold maxLen; omega) HC7).mono ?_
          rintro e w2 ⟨rfl, hb2⟩
          rw [ho2]
          have HB2 := HB1.trans (hb2.mono HB1.size)
          clear hb2
          go_wp2
          go_roundw
          case rel => exact ⟨k + 1, by omega, by go_num, to_next hkl HL.out HNO.out ho ho2, HB2⟩
          case measure => simp [intOf]; omega
        · go_wp2_with fail
          refine (containsR_any _ _ _ k _ ⟨p, m, b, q, s, v⟩ (L.take k) _ HR7 HTL.out (by unfold maxLen; omega) (by unfold maxLen; omega) HC7).mono ?_
          rintro e w2 ⟨rfl, hb2⟩
          rw [ho2]
          have HB2 := HB1.trans (hb2.mono HB1.size)
          clear hb2
          go_wp2
          go_ret
          refine ⟨?_, HB2⟩
          rw [tb_at (by rw [HN.out]; exact hl) hkl (to_clash hkl HL.out HNO.out ho ho2) (by decide)]
          rfl
      · go_wp2_with fail
        refine (ruCheck_any _ _ _ _ _ _ _).mono ?_
        rintro e w1 ⟨rfl, hb1⟩
        rw [no_ne ho]
        have HB1 := HB.out.trans (((Below.refl _ _).alloc (Nat.le_refl _) _).trans (hb1.mono (by simp)) |>.mono HB.out.size)
        clear hb1
        go_wp2
        go_ret
        refine ⟨?_, HB1⟩
        rw [tb_at (by rw [HN.out]; exact hl) hkl (to_bad hkl HL.out HNO.out ho) ho, no_ne (show Ru.n ⟨p, m, b, q, s, v⟩ ≠ 0 from ho)]
        rfl
    · obtain rfl : k = n := by omega
      go_wp2
      go_ret
      refine ⟨?_, HB.out⟩
      have e1 : tbN L = 0 := by
        rw [tbN, if_neg (by rw [HN.out]; omega), HN.out]
        exact HNO.out
      rw [e1]
      rfl

set_option maxHeartbeats 1000000 in
theorem table_long (ao : Option Addr) (cap n : Nat) (w : World) (hl : 12 < n) :
    Calls Tryd.prog 28 #[.slice ao n cap] w fun e w' => e = .returned (.iface 75 (.int .i64 4)) ∧ Below w.heap.size w w' := by
  go_enter Tryd.func28, Tryd.ntmps28
  go_wp2
  go_ret
  exact ⟨rfl, Below.refl _ _⟩

set_option maxHeartbeats 1000000 in
theorem table_nil (ao : Option Addr) (cap : Nat) (w : World) :
    Calls Tryd.prog 28 #[.slice ao 0 cap] w fun e w' => e = .returned .nilIface ∧ Below w.heap.size w w' := by
  go_enter Tryd.func28, Tryd.ntmps28
  go_wp2
  go_loopw [12] (fun i wr => i = .int .i64 0 ∧ wr = w) (fun i _ => 0)
  case atStart => exact ⟨rfl, rfl⟩
  case round =>
    obtain ⟨rfl, rfl⟩ := hrel
    go_wp2
    go_ret
    exact ⟨rfl, Below.refl _ _⟩

theorem table_any (v : Value) (L : List Ru) (w : World) (h : SR w v L) :
    Calls Tryd.prog 28 #[v] w fun e w' => e = .returned (noV (tbN L)) ∧ Below w.heap.size w w' := by
  rcases h with ⟨ao, cap, rfl, rfl⟩ | ⟨g, o, cap, rfl, h1, h2, hc⟩
  · exact table_nil ao cap w
  · by_cases h12 : 12 < L.length
    · rw [tb_long h12]; exact table_long _ _ _ _ h12
    · exact table_some _ _ _ _ L w hc rfl (by omega) h1 h2
end Go.Proofs.YtpmcjelihdlfeaaDoor
/- What net.Check answers: a contract for the walks above it. -/
namespace Go.Proofs.YtpmcjelihdlfeaaDoor
open Go.RowKit
set_option linter.unusedSimpArgs false
set_option linter.unusedVariables false

/-- These tables lie one behind the other. -/
def TAt (w : World) (g o : Nat) (Ts : List (List Ru)) : Prop := ∀ i (h : i < Ts.length), ∃ ao n cap, w.cell? ⟨g, o + i, none⟩ = some (.slice ao n cap) ∧ SR w (.slice ao n cap) Ts[i]
theorem TAt.later {w w' : World} {g o : Nat} {Ts : List (List Ru)} (h : TAt w g o Ts) (hb : Below w.heap.size w w') : TAt w' g o Ts := fun i hi => by
  obtain ⟨ao, n, cap, h1, h2⟩ := h i hi
  exact ⟨ao, n, cap, cell_later hb h1, h2.later hb⟩
/-- A value is a slice of these tables. -/
def TS (w : World) (v : Value) (Ts : List (List Ru)) : Prop :=
  (∃ ao cap, v = .slice ao 0 cap ∧ Ts = []) ∨ ∃ g o cap, v = .slice (some ⟨g, o, none⟩) Ts.length cap ∧ Ts.length ≤ cap ∧ cap ≤ maxLen ∧ TAt w g o Ts
theorem TS.later {w w' : World} {v : Value} {Ts : List (List Ru)} (h : TS w v Ts) (hb : Below w.heap.size w w') : TS w' v Ts := by
  rcases h with h | ⟨g, o, cap, h1, h2, h3, h4⟩
  · exact .inl h
  · exact .inr ⟨g, o, cap, h1, h2, h3, h4.later hb⟩
theorem TS.form {w : World} {v : Value} {Ts : List (List Ru)} (h : TS w v Ts) : ∃ ao n cap, v = .slice ao n cap ∧ Ts.length = n ∧ n ≤ maxLen ∧ n ≤ cap ∧ (0 < n → ∃ g o, ao = some ⟨g, o, none⟩ ∧ TAt w g o Ts ∧ cap ≤ maxLen) := by
  rcases h with ⟨ao, cap, rfl, rfl⟩ | ⟨g, o, cap, rfl, h1, h2, h3⟩
  · exact ⟨ao, 0, cap, rfl, rfl, Nat.zero_le _, Nat.zero_le _, fun h => absurd h (by omega)⟩
  · exact ⟨_, _, cap, rfl, rfl, Nat.le_trans h1 h2, h1, fun _ => ⟨g, o, rfl, h3, h2⟩⟩
theorem TS.len {w : World} {ao : Option Addr} {n cap : Nat} {Ts : List (List Ru)} (h : TS w (.slice ao n cap) Ts) : Ts.length = n := by
  rcases h with ⟨_, _, e, rfl⟩ | ⟨_, _, _, e, _⟩
  · simp at e; simp [e]
  · simp at e; exact e.2.1.symm
theorem getT {Ts : List (List Ru)} {k : Nat} (hk : k < Ts.length) : Ts.getD k [] = Ts[k] := by simp [List.getD, hk]
/-- The box of a net. -/
def NeBox (W : World) (g : Nat) (S : Int) (v1 v2 v3 : Value) : Prop := W.cell? ⟨g, 0, none⟩ = some (.int .i64 S) ∧ W.cell? ⟨g, 1, none⟩ = some v1 ∧ W.cell? ⟨g, 2, none⟩ = some v2 ∧ W.cell? ⟨g, 3, none⟩ = some v3
theorem nebox_new (w : World) (S : Int) (v1 v2 v3 : Value) (t : TypeId) : NeBox (w.alloc (Obj.cells #[.int .i64 S, v1, v2, v3] t)) w.heap.size S v1 v2 v3 := by
  refine ⟨?_, ?_, ?_, ?_⟩ <;> simp
theorem NeBox.later {W W' : World} {g : Nat} {S : Int} {v1 v2 v3 : Value} (h : NeBox W g S v1 v2 v3) (hb : Below W.heap.size W W') : NeBox W' g S v1 v2 v3 :=
  ⟨cell_later hb h.1, cell_later hb h.2.1, cell_later hb h.2.2.1, cell_later hb h.2.2.2⟩

set_option maxHeartbeats 2000000 in
set_option maxRecDepth 100000 in
theorem ncheck_any (S : Int) (ao : Option Addr) (n cap : Nat) (ao2 : Option Addr) (n2 cap2 : Nat) (ao3 : Option Addr) (n3 cap3 : Nat) (Ls : List ((Int × Int) × (Int × Int))) (Hs : List (ByteArray × (Int × Int))) (Ts : List (List Ru)) (w : World)
    (hL : GS lnkE w (.slice ao n cap) Ls) (hH : GS hstE w (.slice ao2 n2 cap2) Hs) (hT : TS w (.slice ao3 n3 cap3) Ts) :
    Calls Tryd.prog 9 #[.agg #[.int .i64 S, .slice ao n cap, .slice ao2 n2 cap2, .slice ao3 n3 cap3]] w fun e w' => e = .returned (noV (ntN S Ls Hs Ts)) ∧ Below w.heap.size w w' := by
  have hb1 : Below w.heap.size w (w.alloc (Obj.cells #[.int .i64 S, .slice ao n cap, .slice ao2 n2 cap2, .slice ao3 n3 cap3] 28)) := (Below.refl _ _).alloc (Nat.le_refl _) _
  obtain ⟨C, hC⟩ : ∃ C, C = ntN S Ls Hs Ts := ⟨_, rfl⟩
  have HC : Hid (C = ntN S Ls Hs Ts) := hC
  rw [← hC]
  have HL2 : Hid (GS lnkE (w.alloc (Obj.cells #[.int .i64 S, .slice ao n cap, .slice ao2 n2 cap2, .slice ao3 n3 cap3] 28)) (.slice ao n cap) Ls) := hL.later hb1
  have HH2 : Hid (GS hstE (w.alloc (Obj.cells #[.int .i64 S, .slice ao n cap, .slice ao2 n2 cap2, .slice ao3 n3 cap3] 28)) (.slice ao2 n2 cap2) Hs) := hH.later hb1
  have HT2 : Hid (TS (w.alloc (Obj.cells #[.int .i64 S, .slice ao n cap, .slice ao2 n2 cap2, .slice ao3 n3 cap3] 28)) (.slice ao3 n3 cap3) Ts) := hT.later hb1
  have HB2 : Hid (Below w.heap.size w (w.alloc (Obj.cells #[.int .i64 S, .slice ao n cap, .slice ao2 n2 cap2, .slice ao3 n3 cap3] 28))) := hb1
  have HX : Hid (NeBox (w.alloc (Obj.cells #[.int .i64 S, .slice ao n cap, .slice ao2 n2 cap2, .slice ao3 n3 cap3] 28)) w.heap.size S (.slice ao n cap) (.slice ao2 n2 cap2) (.slice ao3 n3 cap3)) := nebox_new w S _ _ _ 28
  clear hC hb1 hL hH hT
  go_enter Tryd.func9, Tryd.ntmps9
  go_wp2_with fail
  refine (check_any S ao n cap ao2 n2 cap2 Ls Hs _ HL2.out HH2.out).mono ?_
  rintro e w1 ⟨rfl, hb1⟩
  obtain ⟨T, hT⟩ : ∃ T, T = tpN S Ls Hs := ⟨_, rfl⟩
  have HT : Hid (T = tpN S Ls Hs) := hT
  rw [← hT]
  have HB1 : Hid (Below w.heap.size w w1) := HB2.out.trans (hb1.mono HB2.out.size)
  obtain ⟨b0, b1, b2, b3⟩ := HX.out.later hb1
  have HT1 : Hid (TS w1 (.slice ao3 n3 cap3) Ts) := HT2.out.later hb1
  clear hT hb1 HX HL2 HH2 HB2 HT2
  by_cases h0 : T = 0
  · subst h0
    rw [no_ok rfl]
    obtain ⟨_, _, _, e2, hTn, hTm, _, hTa⟩ := HT1.out.form
    cases e2
    have HTN : Hid (Ts.length = n3) := hTn
    have HTM : Hid (n3 ≤ maxLen) := hTm
    have HTA : Hid (0 < n3 → ∃ g o, ao3 = some ⟨g, o, none⟩ ∧ TAt w1 g o Ts ∧ cap3 ≤ maxLen) := hTa
    have n63 : n3 ≤ 9223372036854775807 := by unfold maxLen at hTm; omega
    clear hTn hTm hTa HT1
    by_cases hS : (n3 : Int) = S
    · have HC2 : Hid (C = tsTo Ts n3) := by
        show _ = _
        rw [HC.out, ntN, if_pos HT.out.symm, if_pos (by rw [HTN.out]; exact hS), HTN.out]
      have e1 : ((n3 : Int) != S) = false := by simp [hS]
      clear hS HC
      go_wp2
      go_loopw [24] (fun i wr => ∃ k : Nat, k ≤ n3 ∧ i = .int .i64 k ∧ tsTo Ts k = 0 ∧ Below w1.heap.size w1 wr) (fun i _ => n3 - (intOf i).toNat)
      case atStart => exact ⟨0, by omega, rfl, rfl, Below.refl _ _⟩
      case round =>
        obtain ⟨k, hk, rfl, hz, hB⟩ := hrel
        have HZ : Hid (tsTo Ts k = 0) := hz
        have HB : Hid (Below w1.heap.size w1 wr) := hB
        have HBw : Hid (Below w.heap.size w wr) := HB1.out.trans (hB.mono HB1.out.size)
        clear hz b0 b1 b2 b3
        by_cases hlt : k < n3
        · obtain ⟨g, o, hao, hc, _⟩ := HTA.out (by omega)
          subst hao
          obtain ⟨a4, n4, c4, q0, hs⟩ := (hc.later hB) k (by rw [HTN.out]; exact hlt)
          have HS4 : Hid (SR wr (.slice a4 n4 c4) (Ts.getD k [])) := by
            show SR _ _ _
            rw [getT (by rw [HTN.out]; exact hlt)]
            exact hs
          clear hs hc hB
          go_wp2_with fail
          refine (table_any _ (Ts.getD k []) _ HS4.out).mono ?_
          rintro e w2 ⟨rfl, hb2⟩
          obtain ⟨R, hR⟩ : ∃ R, R = tbN (Ts.getD k []) := ⟨_, rfl⟩
          have HR : Hid (tsTo Ts (k + 1) = R) := by
            show _ = _
            rw [tsTo, if_pos HZ.out, hR]
          rw [← hR]
          have HB3 : Hid (Below w1.heap.size w1 w2) := HB.out.trans (hb2.mono HB.out.size)
          have HBw3 : Hid (Below w.heap.size w w2) := HBw.out.trans (hb2.mono HBw.out.size)
          clear hR hb2 q0
          by_cases hN : R = 0
          · subst hN
            rw [no_ok rfl]
            go_wp2
            go_roundw
            case rel => exact ⟨k + 1, by omega, by go_num, HR.out, HB3.out⟩
            case measure => simp [intOf]; omega
          · rw [no_ne hN]
            have HCR : Hid (C = R) := by
              show _ = _
              rw [HC2.out, ts_le (k := k + 1) (by rw [HR.out]; exact hN) (by omega), HR.out]
            have HNN : Hid (R ≠ 0) := hN
            clear hN
            go_wp2
            go_ret
            exact ⟨by rw [HCR.out, no_ne HNN.out]; rfl, HBw3.out⟩
        · obtain rfl : k = n3 := by omega
          have HCR : Hid (C = 0) := by
            show _ = _
            rw [HC2.out, HZ.out]
          clear hB
          go_wp2
          go_ret
          exact ⟨by rw [HCR.out]; rfl, HBw.out⟩
    · have HC2 : Hid (C = 3) := by
        show _ = _
        rw [HC.out, ntN, if_pos HT.out.symm, if_neg (by rw [HTN.out]; exact hS)]
      have e1 : ((n3 : Int) != S) = true := by simpa using hS
      clear hS HC
      go_wp2
      go_ret
      exact ⟨by rw [HC2.out]; rfl, HB1.out⟩
  · rw [no_ne h0]
    have HC2 : Hid (C = T) := by
      show _ = _
      rw [HC.out, ntN, ← HT.out, if_neg h0]
    have HN0 : Hid (T ≠ 0) := h0
    clear h0
    go_wp2
    go_ret
    exact ⟨by rw [HC2.out, no_ne HN0.out]; rfl, HB1.out⟩
end Go.Proofs.YtpmcjelihdlfeaaDoor
/- What order of package rule answers, called with any two rules. -/
namespace Go.Proofs.YtpmcjelihdlfeaaDoor
open Go.RowKit
set_option linter.unusedSimpArgs false

set_option maxHeartbeats 1000000 in
theorem nan_any (a : Int) (w : World) : Calls Tryd.prog 102 #[.int .i64 a] w fun e w' => e = .returned (.bool false) ∧ w' = w := by
  go_enter Tryd.func102, Tryd.ntmps102
  go_wp2
  go_ret
  exact ⟨by simp, rfl⟩

set_option maxHeartbeats 1000000 in
theorem compare_any (a b : Int) (w : World) : Calls Tryd.prog 97 #[.int .i64 a, .int .i64 b] w fun e w' => e = .returned (.int .i64 (cmpN a b)) ∧ w' = w := by
  by_cases h1 : a < b
  · have e : cmpN a b = -1 := by simp [cmpN, h1]
    rw [e]; clear e
    have g1 : decide (a < b) = true := by simpa using h1
    go_enter Tryd.func97, Tryd.ntmps97
    go_wp2_with (first | (go_at_call 102; refine (nan_any _ _).mono ?_; rintro e w' ⟨rfl, rfl⟩))
    go_ret
    exact ⟨rfl, rfl⟩
  · have g1 : decide (a < b) = false := by simpa using h1
    by_cases h2 : b < a
    · have e : cmpN a b = 1 := by simp [cmpN, h1, h2]
      rw [e]; clear e
      have g2 : decide (b < a) = true := by simpa using h2
      go_enter Tryd.func97, Tryd.ntmps97
      go_wp2_with (first | (go_at_call 102; refine (nan_any _ _).mono ?_; rintro e w' ⟨rfl, rfl⟩))
      go_ret
      exact ⟨rfl, rfl⟩
    · have e : cmpN a b = 0 := by simp [cmpN, h1, h2]
      rw [e]; clear e
      have g2 : decide (b < a) = false := by simpa using h2
      go_enter Tryd.func97, Tryd.ntmps97
      go_wp2_with (first | (go_at_call 102; refine (nan_any _ _).mono ?_; rintro e w' ⟨rfl, rfl⟩))
      go_ret
      exact ⟨rfl, rfl⟩

set_option maxHeartbeats 1000000 in
theorem or_any (x y z : Int) (g : Nat) (w : World) (h0 : w.cell? ⟨g, 0, none⟩ = some (.int .i64 x)) (h1 : w.cell? ⟨g, 1, none⟩ = some (.int .i64 y)) (h2 : w.cell? ⟨g, 2, none⟩ = some (.int .i64 z)) :
    Calls Tryd.prog 96 #[.slice (some ⟨g, 0, none⟩) 3 3] w fun e w' => e = .returned (.int .i64 (orN x y z)) ∧ w' = w := by
  generalize hq : orN x y z = q
  have HQ : Hid ((if x = 0 then (if y = 0 then z else y) else x) = q) := hq
  clear hq
  go_enter Tryd.func96, Tryd.ntmps96
  go_wp2
  go_loopw [8] (fun i wr => ∃ k : Nat, k ≤ 3 ∧ i = .int .i64 k ∧ (0 < k → x = 0) ∧ (1 < k → y = 0) ∧ (2 < k → z = 0) ∧ wr = w) (fun i _ => 3 - (intOf i).toNat)
  case atStart => exact ⟨0, by omega, rfl, by omega, by omega, by omega, rfl⟩
  case round =>
    obtain ⟨k, hk, rfl, a0, a1, a2, hw⟩ := hrel
    replace hw := hw.symm
    subst hw
    rcases (by omega : k = 0 ∨ k = 1 ∨ k = 2 ∨ k = 3) with rfl | rfl | rfl | rfl
    · clear a0 a1 a2
      by_cases hx : x = 0
      · have g1 : (x == 0) = true := by simpa using hx
        have g2 : (x != 0) = false := by simpa using hx
        go_wp2
        go_roundw
        case rel => exact ⟨1, by omega, rfl, fun _ => hx, by omega, by omega, trivial⟩
        case measure => simp [intOf]
      · have g1 : (x == 0) = false := by simpa using hx
        have g2 : (x != 0) = true := by simpa using hx
        go_wp2
        go_ret
        exact ⟨by rw [← HQ.out, if_neg hx]; rfl, rfl⟩
    · have hx := a0 (by omega)
      clear a0 a1 a2
      by_cases hy : y = 0
      · have g1 : (y == 0) = true := by simpa using hy
        have g2 : (y != 0) = false := by simpa using hy
        go_wp2
        go_roundw
        case rel => exact ⟨2, by omega, rfl, fun _ => hx, fun _ => hy, by omega, trivial⟩
        case measure => simp [intOf]
      · have g1 : (y == 0) = false := by simpa using hy
        have g2 : (y != 0) = true := by simpa using hy
        go_wp2
        go_ret
        exact ⟨by rw [← HQ.out, if_pos hx, if_neg hy]; rfl, rfl⟩
    · have hx := a0 (by omega)
      have hy := a1 (by omega)
      clear a0 a1 a2
      by_cases hz : z = 0
      · have g1 : (z == 0) = true := by simpa using hz
        have g2 : (z != 0) = false := by simpa using hz
        go_wp2
        go_roundw
        case rel => exact ⟨3, by omega, rfl, fun _ => hx, fun _ => hy, fun _ => hz, trivial⟩
        case measure => simp [intOf]
      · have g1 : (z == 0) = false := by simpa using hz
        have g2 : (z != 0) = true := by simpa using hz
        go_wp2
        go_ret
        exact ⟨by rw [← HQ.out, if_pos hx, if_pos hy]; rfl, rfl⟩
    · have hx := a0 (by omega)
      have hy := a1 (by omega)
      have hz := a2 (by omega)
      clear a0 a1 a2
      go_wp2
      go_ret
      exact ⟨by rw [← HQ.out, if_pos hx, if_pos hy, hz]; rfl, rfl⟩

theorem compare_b (a b : Int) (w : World) : Calls Tryd.prog 97 #[.int .i64 a, .int .i64 b] w fun e w' => e = .returned (.int .i64 (cmpN a b)) ∧ Below w.heap.size w w' :=
  (compare_any a b w).mono fun _ w' h => ⟨h.1, by rw [h.2]; exact Below.refl _ _⟩
theorem or_b (x y z : Int) (g : Nat) (w : World) (h0 : w.cell? ⟨g, 0, none⟩ = some (.int .i64 x)) (h1 : w.cell? ⟨g, 1, none⟩ = some (.int .i64 y)) (h2 : w.cell? ⟨g, 2, none⟩ = some (.int .i64 z)) :
    Calls Tryd.prog 96 #[.slice (some ⟨g, 0, none⟩) 3 3] w fun e w' => e = .returned (.int .i64 (orN x y z)) ∧ Below w.heap.size w w' :=
  (or_any x y z g w h0 h1 h2).mono fun _ w' h => ⟨h.1, by rw [h.2]; exact Below.refl _ _⟩
theorem cells3 {W : World} (x y z : Value) (t : TypeId) :
    (W.alloc (.cells #[x, y, z] t)).cell? ⟨W.heap.size, 0, none⟩ = some x ∧ (W.alloc (.cells #[x, y, z] t)).cell? ⟨W.heap.size, 1, none⟩ = some y ∧ (W.alloc (.cells #[x, y, z] t)).cell? ⟨W.heap.size, 2, none⟩ = some z := by
  refine ⟨?_, ?_, ?_⟩ <;> simp
/-- Two rules in the two blocks from B on, as far as order reads them. -/
def OS (w : World) (p m b p' m' b' : Int) (w' : World) : Prop :=
  Below w.heap.size w w' ∧ (w'.cell? ⟨w.heap.size, 0, none⟩ = some (.int .i64 p) ∧ w'.cell? ⟨w.heap.size, 1, none⟩ = some (.int .i64 m) ∧ w'.cell? ⟨w.heap.size, 2, none⟩ = some (.int .i64 b)) ∧
    (w'.cell? ⟨w.heap.size + 1, 0, none⟩ = some (.int .i64 p') ∧ w'.cell? ⟨w.heap.size + 1, 1, none⟩ = some (.int .i64 m') ∧ w'.cell? ⟨w.heap.size + 1, 2, none⟩ = some (.int .i64 b'))
theorem OS.later {w W W' : World} {p m b p' m' b' : Int} (hb : Below W.heap.size W W') (h : OS w p m b p' m' b' W) : OS w p m b p' m' b' W' := by
  obtain ⟨h0, ⟨h1, h2, h3⟩, ⟨h4, h5, h6⟩⟩ := h
  exact ⟨h0.trans (hb.mono h0.size), ⟨cell_later hb h1, cell_later hb h2, cell_later hb h3⟩, ⟨cell_later hb h4, cell_later hb h5, cell_later hb h6⟩⟩

set_option maxHeartbeats 400000 in
theorem order_any (p m b o s v p' m' b' o' s' v' : Int) (w : World) :
    Calls Tryd.prog 80 #[.agg #[.int .i64 p, .int .i64 m, .int .i64 b, .int .i64 o, .int .i64 s, .int .i64 v], .agg #[.int .i64 p', .int .i64 m', .int .i64 b', .int .i64 o', .int .i64 s', .int .i64 v']] w fun e w' => e = .returned (.int .i64 (ordN p m b p' m' b')) ∧ Below w.heap.size w w' := by
  have hS0 : OS w p m b p' m' b' ((w.alloc (Obj.cells #[Value.int IntKind.i64 p, Value.int IntKind.i64 m, Value.int IntKind.i64 b, Value.int IntKind.i64 o, Value.int IntKind.i64 s, Value.int IntKind.i64 v] 47)).alloc (Obj.cells #[Value.int IntKind.i64 p', Value.int IntKind.i64 m', Value.int IntKind.i64 b', Value.int IntKind.i64 o', Value.int IntKind.i64 s', Value.int IntKind.i64 v'] 47)) := by
    refine ⟨((Below.refl _ _).alloc (Nat.le_refl _) _).alloc (by simp) _, ⟨?_, ?_, ?_⟩, ⟨?_, ?_, ?_⟩⟩ <;> simp
  go_enter Tryd.func80, Tryd.ntmps80
  go_wp2
  generalize ((w.alloc (Obj.cells #[Value.int IntKind.i64 p, Value.int IntKind.i64 m, Value.int IntKind.i64 b, Value.int IntKind.i64 o, Value.int IntKind.i64 s, Value.int IntKind.i64 v] 47)).alloc (Obj.cells #[Value.int IntKind.i64 p', Value.int IntKind.i64 m', Value.int IntKind.i64 b', Value.int IntKind.i64 o', Value.int IntKind.i64 s', Value.int IntKind.i64 v'] 47)) = W0 at *
  unfold OS at hS0
  go_region_held3 (fun w' => Below w.heap.size w w' ∧ (w'.cell? ⟨w.heap.size, 0, none⟩ = some (.int .i64 p) ∧ w'.cell? ⟨w.heap.size, 1, none⟩ = some (.int .i64 m) ∧ w'.cell? ⟨w.heap.size, 2, none⟩ = some (.int .i64 b)) ∧
      (w'.cell? ⟨w.heap.size + 1, 0, none⟩ = some (.int .i64 p') ∧ w'.cell? ⟨w.heap.size + 1, 1, none⟩ = some (.int .i64 m') ∧ w'.cell? ⟨w.heap.size + 1, 2, none⟩ = some (.int .i64 b')))
    (first | assumption | exact OS.later (by assumption) (by assumption) | exact OS.later (Below.drew (Below.refl _ _)) (by assumption) | exact OS.later (Below.alloc (Below.refl _ _) (Nat.le_refl _) _) (by assumption))
    (first
      | (go_at_call 97; refine (compare_b _ _ _).mono ?_; rintro e w' ⟨rfl, hb⟩)
      | (go_at_call 96; refine (or_b (cmpN p p') (cmpN m m') (cmpN b b') _ _ (cells3 _ _ _ _).1 (cells3 _ _ _ _).2.1 (cells3 _ _ _ _).2.2).mono ?_; rintro e w' ⟨rfl, hb⟩))
  have hS := (‹Below w.heap.size w w' ∧ _›).1
  go_wp2
  go_ret
  exact ⟨rfl, hS⟩
end Go.Proofs.YtpmcjelihdlfeaaDoor
/- What Lookup of package rule answers, called with any table and number. -/
namespace Go.Proofs.YtpmcjelihdlfeaaDoor
open Go.RowKit
set_option linter.unusedSimpArgs false

/-- A rule in a new block, in letters. -/
def CA (w : World) (g : Nat) (p m b o s v : Int) (w' : World) : Prop :=
  Below w.heap.size w w' ∧ w'.cell? ⟨g, 0, none⟩ = some (.int .i64 p) ∧ w'.cell? ⟨g, 1, none⟩ = some (.int .i64 m) ∧ w'.cell? ⟨g, 2, none⟩ = some (.int .i64 b) ∧
    w'.cell? ⟨g, 3, none⟩ = some (.int .i64 o) ∧ w'.cell? ⟨g, 4, none⟩ = some (.int .i64 s) ∧ w'.cell? ⟨g, 5, none⟩ = some (.int .i64 v)
theorem CA.later {w W W' : World} {g : Nat} {p m b o s v : Int} (hb : Below W.heap.size W W') (h : CA w g p m b o s v W) : CA w g p m b o s v W' := by
  obtain ⟨h0, h1, h2, h3, h4, h5, h6⟩ := h
  exact ⟨h0.trans (hb.mono h0.size), cell_later hb h1, cell_later hb h2, cell_later hb h3, cell_later hb h4, cell_later hb h5, cell_later hb h6⟩
/-- .. and another one at an address. -/
def CB (w : World) (g : Nat) (p m b o s v : Int) (g' o' : Nat) (p' m' b' q' s' v' : Int) (w' : World) : Prop :=
  (Below w.heap.size w w' ∧ w'.cell? ⟨g, 0, none⟩ = some (.int .i64 p) ∧ w'.cell? ⟨g, 1, none⟩ = some (.int .i64 m) ∧ w'.cell? ⟨g, 2, none⟩ = some (.int .i64 b) ∧
    w'.cell? ⟨g, 3, none⟩ = some (.int .i64 o) ∧ w'.cell? ⟨g, 4, none⟩ = some (.int .i64 s) ∧ w'.cell? ⟨g, 5, none⟩ = some (.int .i64 v)) ∧
  w'.cell? ⟨g', o', none⟩ = some (.int .i64 p') ∧ w'.cell? ⟨g', o' + 1, none⟩ = some (.int .i64 m') ∧ w'.cell? ⟨g', o' + 2, none⟩ = some (.int .i64 b') ∧
    w'.cell? ⟨g', o' + 3, none⟩ = some (.int .i64 q') ∧ w'.cell? ⟨g', o' + 4, none⟩ = some (.int .i64 s') ∧ w'.cell? ⟨g', o' + 5, none⟩ = some (.int .i64 v')
theorem CB.later {w W W' : World} {g : Nat} {p m b o s v : Int} {g' o' : Nat} {p' m' b' q' s' v' : Int} (hb : Below W.heap.size W W') (h : CB w g p m b o s v g' o' p' m' b' q' s' v' W) : CB w g p m b o s v g' o' p' m' b' q' s' v' W' := by
  obtain ⟨h0, h1, h2, h3, h4, h5, h6⟩ := h
  exact ⟨CA.later hb h0, cell_later hb h1, cell_later hb h2, cell_later hb h3, cell_later hb h4, cell_later hb h5, cell_later hb h6⟩

/-- Does a rule count that has the header, behind one at x that it is held against? -/
def cntB (m b h x y : Int) : Bool := hasB m b h && (decide (x < 0) || decide (0 < y))
theorem be_next {L : List Ru} {h : Int} {k : Nat} (x : Int) (hx : x = beTo L h k) (y : Bool) (hy : ((L.getD k zeR).has h && (decide (x < 0) || decide (0 < ordR (L.getD k zeR) (L.getD x.toNat zeR)))) = y) : beTo L h (k + 1) = if y then (k : Int) else x := by
  subst hx
  rw [beTo, hy]

set_option maxHeartbeats 1000000 in
theorem counting_some (g o cap n : Nat) (h : Int) (L : List Ru) (w : World) (hc : RAt w g o L) (hn : L.length = n) (hcap2 : n ≤ maxLen) :
    Calls Tryd.prog 59 #[.slice (some ⟨g, o, none⟩) n cap, .int .i64 h] w fun e w' => e = .returned (.int .i64 (beTo L h n)) ∧ Below w.heap.size w w' := by
  have HN : Hid (L.length = n) := hn
  unfold maxLen at hcap2
  clear hn
  go_enter Tryd.func59, Tryd.ntmps59
  go_wp2
  go_loopw [5, 10] (fun x i wr => ∃ k : Nat, k ≤ n ∧ x = .int .i64 (beTo L h k) ∧ i = .int .i64 k ∧ Below w.heap.size w wr) (fun _ i _ => n - (intOf i).toNat)
  case atStart => exact ⟨0, by omega, rfl, rfl, Below.refl _ _⟩
  case round =>
    obtain ⟨k, hk, rfl, rfl, hB⟩ := hrel
    have hbd := be_bd L h k
    generalize hx : beTo L h k = x at *
    have HX : Hid (x = beTo L h k) := hx.symm
    obtain ⟨x0, x1⟩ := hbd
    clear hx
    have HB : Hid (Below w.heap.size w wr) := hB
    by_cases hlt : k < n
    · obtain ⟨p, m, b, q, s, v, hkl, hL, q0, q1, q2, q3, q4, q5⟩ := (hc.later hB).at HN.out hlt
      have HK : Hid (L.getD k zeR = ⟨p, m, b, q, s, v⟩) := (getD_at hkl).trans hL
      have HA : Hid (CA wr wr.heap.size p m b q s v (wr.alloc (Obj.cells #[Value.int IntKind.i64 p, Value.int IntKind.i64 m, Value.int IntKind.i64 b, Value.int IntKind.i64 q, Value.int IntKind.i64 s, Value.int IntKind.i64 v] 47))) := by
        refine ⟨(Below.refl _ _).alloc (Nat.le_refl _) _, ?_, ?_, ?_, ?_, ?_, ?_⟩ <;> simp
      have HCC : Hid (RAt wr g o L) := hc.later hB
      clear hL hB
      go_upto_region 5 with fail
      clear q0 q1 q2 q3 q4 q5
      go_cut [10, 31] from 10 to 33 (fun i c w' => i = .int .i64 k ∧ c = .bool (cntB m b h x (ordR ⟨p, m, b, q, s, v⟩ (L.getD x.toNat zeR))) ∧ Below wr.heap.size wr w')
      case first =>
        have hS0 := HA.out
        clear HA
        have HW0 : Hid (Below wr.heap.size wr (wr.alloc (Obj.cells #[Value.int IntKind.i64 p, Value.int IntKind.i64 m, Value.int IntKind.i64 b, Value.int IntKind.i64 q, Value.int IntKind.i64 s, Value.int IntKind.i64 v] 47))) := (Below.refl _ _).alloc (Nat.le_refl _) _
        have HW0 : Hid (Below wr.heap.size wr (wr.alloc (Obj.cells #[Value.int IntKind.i64 p, Value.int IntKind.i64 m, Value.int IntKind.i64 b, Value.int IntKind.i64 q, Value.int IntKind.i64 s, Value.int IntKind.i64 v] 47))) := (Below.refl _ _).alloc (Nat.le_refl _) _
        generalize (wr.alloc (Obj.cells #[Value.int IntKind.i64 p, Value.int IntKind.i64 m, Value.int IntKind.i64 b, Value.int IntKind.i64 q, Value.int IntKind.i64 s, Value.int IntKind.i64 v] 47)) = W0 at *
        cases hh : hasB m b h
        · refine wp_region_quiet (C := CA wr wr.heap.size p m b q s v) (by kernel_rfl) (by kernel_rfl) (CA.later (W := W0) (Below.drew (Below.refl _ _)) hS0) ?_
          simp only [List.toList_toArray]
          go_big_quiet_want
          refine quiet_val (v := .pointer (some ⟨wr.heap.size, 1, none⟩)) (fun w' hC => ?_) ?_
          · obtain ⟨z0, z1, z2, z3, z4, z5, z6⟩ := hC
            go_simp
          simp only [Act.put, List.setIfInBounds_toArray, List.set_cons_zero, List.set_cons_succ]
          go_big_quiet_on
          go_big_quiet_want
          refine quiet_val (v := .agg #[.int .i64 m, .int .i64 b]) (fun w' hC => ?_) ?_
          · obtain ⟨z0, z1, z2, z3, z4, z5, z6⟩ := hC
            go_simp
          simp only [Act.put, List.setIfInBounds_toArray, List.set_cons_zero, List.set_cons_succ]
          go_big_quiet_on
          go_big_quiet_want
          refine quiet_val (v := .int .i64 h) (fun w' hC => ?_) ?_
          · obtain ⟨z0, z1, z2, z3, z4, z5, z6⟩ := hC
            go_simp
          simp only [Act.put, List.setIfInBounds_toArray, List.set_cons_zero, List.set_cons_succ]
          go_big_quiet_on
          go_big_quiet_want
          refine quiet_call (f := 79) (args := #[.agg #[.int .i64 m, .int .i64 b], .int .i64 h]) (v := .bool false) (fun w' => ?_) (fun w' hC => (has_any m b h w').mono (fun e w2 h2 => ⟨by rw [h2.1, hh], CA.later h2.2 hC⟩)) ?_
          · go_simp
          simp only [Act.put, List.setIfInBounds_toArray, List.set_cons_zero, List.set_cons_succ]
          go_big_quiet_on
          go_big_quiet_want
          refine quiet_val (v := .bool false) (fun w' hC => ?_) ?_
          · obtain ⟨z0, z1, z2, z3, z4, z5, z6⟩ := hC
            go_simp
          simp only [Act.put, List.setIfInBounds_toArray, List.set_cons_zero, List.set_cons_succ]
          go_big_quiet_on
          go_big_quiet_skip
          go_big_quiet_skip
          go_big_quiet_skip
          go_big_quiet_skip
          go_big_quiet_skip
          go_big_quiet_skip
          go_big_quiet_skip
          go_big_quiet_skip
          go_big_quiet_skip
          go_big_quiet_skip
          go_big_quiet_skip
          go_big_quiet_want
          refine quiet_val (v := .bool false) (fun w' hC => ?_) ?_
          · obtain ⟨z0, z1, z2, z3, z4, z5, z6⟩ := hC
            go_simp
          simp only [Act.put, List.setIfInBounds_toArray, List.set_cons_zero, List.set_cons_succ]
          go_big_quiet_on
          refine wpQuiet_nil ?_
          intro w' hC
          go_wp2_with fail
          go_meet
          case rel => exact ⟨rfl, by simp [cntB, hh], hC.1⟩
        · by_cases hx0 : x < 0
          · have hx1 : decide (x < 0) = true := by simpa using hx0
            refine wp_region_quiet (C := CA wr wr.heap.size p m b q s v) (by kernel_rfl) (by kernel_rfl) (CA.later (W := W0) (Below.drew (Below.refl _ _)) hS0) ?_
            simp only [List.toList_toArray]
            go_big_quiet_want
            refine quiet_val (v := .pointer (some ⟨wr.heap.size, 1, none⟩)) (fun w' hC => ?_) ?_
            · obtain ⟨z0, z1, z2, z3, z4, z5, z6⟩ := hC
              go_simp
            simp only [Act.put, List.setIfInBounds_toArray, List.set_cons_zero, List.set_cons_succ]
            go_big_quiet_on
            go_big_quiet_want
            refine quiet_val (v := .agg #[.int .i64 m, .int .i64 b]) (fun w' hC => ?_) ?_
            · obtain ⟨z0, z1, z2, z3, z4, z5, z6⟩ := hC
              go_simp
            simp only [Act.put, List.setIfInBounds_toArray, List.set_cons_zero, List.set_cons_succ]
            go_big_quiet_on
            go_big_quiet_want
            refine quiet_val (v := .int .i64 h) (fun w' hC => ?_) ?_
            · obtain ⟨z0, z1, z2, z3, z4, z5, z6⟩ := hC
              go_simp
            simp only [Act.put, List.setIfInBounds_toArray, List.set_cons_zero, List.set_cons_succ]
            go_big_quiet_on
            go_big_quiet_want
            refine quiet_call (f := 79) (args := #[.agg #[.int .i64 m, .int .i64 b], .int .i64 h]) (v := .bool true) (fun w' => ?_) (fun w' hC => (has_any m b h w').mono (fun e w2 h2 => ⟨by rw [h2.1, hh], CA.later h2.2 hC⟩)) ?_
            · go_simp
            simp only [Act.put, List.setIfInBounds_toArray, List.set_cons_zero, List.set_cons_succ]
            go_big_quiet_on
            go_big_quiet_want
            refine quiet_val (v := .bool true) (fun w' hC => ?_) ?_
            · obtain ⟨z0, z1, z2, z3, z4, z5, z6⟩ := hC
              go_simp
            simp only [Act.put, List.setIfInBounds_toArray, List.set_cons_zero, List.set_cons_succ]
            go_big_quiet_on
            go_big_quiet_want
            refine quiet_val (v := .int .i64 x) (fun w' hC => ?_) ?_
            · obtain ⟨z0, z1, z2, z3, z4, z5, z6⟩ := hC
              go_simp
            simp only [Act.put, List.setIfInBounds_toArray, List.set_cons_zero, List.set_cons_succ]
            go_big_quiet_on
            go_big_quiet_want
            refine quiet_val (v := .bool true) (fun w' hC => ?_) ?_
            · obtain ⟨z0, z1, z2, z3, z4, z5, z6⟩ := hC
              go_simp
            simp only [Act.put, List.setIfInBounds_toArray, List.set_cons_zero, List.set_cons_succ]
            go_big_quiet_on
            go_big_quiet_want
            refine quiet_val (v := .bool true) (fun w' hC => ?_) ?_
            · obtain ⟨z0, z1, z2, z3, z4, z5, z6⟩ := hC
              go_simp
            simp only [Act.put, List.setIfInBounds_toArray, List.set_cons_zero, List.set_cons_succ]
            go_big_quiet_on
            go_big_quiet_skip
            go_big_quiet_skip
            go_big_quiet_skip
            go_big_quiet_skip
            go_big_quiet_skip
            go_big_quiet_skip
            go_big_quiet_skip
            go_big_quiet_want
            refine quiet_val (v := .bool true) (fun w' hC => ?_) ?_
            · obtain ⟨z0, z1, z2, z3, z4, z5, z6⟩ := hC
              go_simp
            simp only [Act.put, List.setIfInBounds_toArray, List.set_cons_zero, List.set_cons_succ]
            go_big_quiet_on
            go_big_quiet_want
            refine quiet_val (v := .bool true) (fun w' hC => ?_) ?_
            · obtain ⟨z0, z1, z2, z3, z4, z5, z6⟩ := hC
              go_simp
            simp only [Act.put, List.setIfInBounds_toArray, List.set_cons_zero, List.set_cons_succ]
            go_big_quiet_on
            refine wpQuiet_nil ?_
            intro w' hC
            go_wp2_with fail
            go_meet
            case rel => exact ⟨rfl, by simp [cntB, hh, hx0], hC.1⟩
          · obtain ⟨y, hy⟩ : ∃ y : Nat, x = (y : Int) := ⟨x.toNat, by omega⟩
            have hx2 : decide ((y : Int) < 0) = false := by simp
            subst hy
            obtain ⟨p2, m2, b2, q2, s2, v2, hyl, hLy, y0, y1, y2, y3, y4, y5⟩ := HCC.out.at HN.out (show y < n by omega)
            have HYL : Hid (L.getD ((y : Nat) : Int).toNat zeR = ⟨p2, m2, b2, q2, s2, v2⟩) := by
              show L.getD ((y : Nat) : Int).toNat zeR = _
              rw [Int.toNat_natCast, getD_at hyl, hLy]
            have yb0 : (0 : Int) ≤ (y : Int) := by omega
            have yb1 : ((y : Int)) < (n : Int) := by omega
            have hS1 : CB wr wr.heap.size p m b q s v g (o + y * 6) p2 m2 b2 q2 s2 v2 W0 := ⟨hS0, cell_later HW0.out y0, cell_later HW0.out y1, cell_later HW0.out y2, cell_later HW0.out y3, cell_later HW0.out y4, cell_later HW0.out y5⟩
            clear y0 y1 y2 y3 y4 y5 hLy hS0
            have hS0 := hS1
            clear hS1
            refine wp_region_quiet (C := CB wr wr.heap.size p m b q s v g (o + y * 6) p2 m2 b2 q2 s2 v2) (by kernel_rfl) (by kernel_rfl) (CB.later (W := W0) (Below.drew (Below.refl _ _)) hS0) ?_
            simp only [List.toList_toArray]
            go_big_quiet_want
            refine quiet_val (v := .pointer (some ⟨wr.heap.size, 1, none⟩)) (fun w' hC => ?_) ?_
            · obtain ⟨⟨z0, z1, z2, z3, z4, z5, z6⟩, y1, y2, y3, y4, y5, y6⟩ := hC
              go_simp
            simp only [Act.put, List.setIfInBounds_toArray, List.set_cons_zero, List.set_cons_succ]
            go_big_quiet_on
            go_big_quiet_want
            refine quiet_val (v := .agg #[.int .i64 m, .int .i64 b]) (fun w' hC => ?_) ?_
            · obtain ⟨⟨z0, z1, z2, z3, z4, z5, z6⟩, y1, y2, y3, y4, y5, y6⟩ := hC
              go_simp
            simp only [Act.put, List.setIfInBounds_toArray, List.set_cons_zero, List.set_cons_succ]
            go_big_quiet_on
            go_big_quiet_want
            refine quiet_val (v := .int .i64 h) (fun w' hC => ?_) ?_
            · obtain ⟨⟨z0, z1, z2, z3, z4, z5, z6⟩, y1, y2, y3, y4, y5, y6⟩ := hC
              go_simp
            simp only [Act.put, List.setIfInBounds_toArray, List.set_cons_zero, List.set_cons_succ]
            go_big_quiet_on
            go_big_quiet_want
            refine quiet_call (f := 79) (args := #[.agg #[.int .i64 m, .int .i64 b], .int .i64 h]) (v := .bool true) (fun w' => ?_) (fun w' hC => (has_any m b h w').mono (fun e w2 h2 => ⟨by rw [h2.1, hh], CB.later h2.2 hC⟩)) ?_
            · go_simp
            simp only [Act.put, List.setIfInBounds_toArray, List.set_cons_zero, List.set_cons_succ]
            go_big_quiet_on
            go_big_quiet_want
            refine quiet_val (v := .bool true) (fun w' hC => ?_) ?_
            · obtain ⟨⟨z0, z1, z2, z3, z4, z5, z6⟩, y1, y2, y3, y4, y5, y6⟩ := hC
              go_simp
            simp only [Act.put, List.setIfInBounds_toArray, List.set_cons_zero, List.set_cons_succ]
            go_big_quiet_on
            go_big_quiet_want
            refine quiet_val (v := .int .i64 (y : Int)) (fun w' hC => ?_) ?_
            · obtain ⟨⟨z0, z1, z2, z3, z4, z5, z6⟩, y1, y2, y3, y4, y5, y6⟩ := hC
              go_simp
            simp only [Act.put, List.setIfInBounds_toArray, List.set_cons_zero, List.set_cons_succ]
            go_big_quiet_on
            go_big_quiet_want
            refine quiet_val (v := .bool false) (fun w' hC => ?_) ?_
            · obtain ⟨⟨z0, z1, z2, z3, z4, z5, z6⟩, y1, y2, y3, y4, y5, y6⟩ := hC
              go_simp
            simp only [Act.put, List.setIfInBounds_toArray, List.set_cons_zero, List.set_cons_succ]
            go_big_quiet_on
            go_big_quiet_want
            refine quiet_val (v := .bool false) (fun w' hC => ?_) ?_
            · obtain ⟨⟨z0, z1, z2, z3, z4, z5, z6⟩, y1, y2, y3, y4, y5, y6⟩ := hC
              go_simp
            simp only [Act.put, List.setIfInBounds_toArray, List.set_cons_zero, List.set_cons_succ]
            go_big_quiet_on
            go_big_quiet_want
            refine quiet_val (v := .agg #[.int .i64 p, .int .i64 m, .int .i64 b, .int .i64 q, .int .i64 s, .int .i64 v]) (fun w' hC => ?_) ?_
            · obtain ⟨⟨z0, z1, z2, z3, z4, z5, z6⟩, y1, y2, y3, y4, y5, y6⟩ := hC
              go_simp
            simp only [Act.put, List.setIfInBounds_toArray, List.set_cons_zero, List.set_cons_succ]
            go_big_quiet_on
            go_big_quiet_want
            refine quiet_val (v := .slice (some ⟨g, o, none⟩) n cap) (fun w' hC => ?_) ?_
            · obtain ⟨⟨z0, z1, z2, z3, z4, z5, z6⟩, y1, y2, y3, y4, y5, y6⟩ := hC
              go_simp
            simp only [Act.put, List.setIfInBounds_toArray, List.set_cons_zero, List.set_cons_succ]
            go_big_quiet_on
            go_big_quiet_want
            refine quiet_val (v := .int .i64 (y : Int)) (fun w' hC => ?_) ?_
            · obtain ⟨⟨z0, z1, z2, z3, z4, z5, z6⟩, y1, y2, y3, y4, y5, y6⟩ := hC
              go_simp
            simp only [Act.put, List.setIfInBounds_toArray, List.set_cons_zero, List.set_cons_succ]
            go_big_quiet_on
            go_big_quiet_want
            refine quiet_val (v := .pointer (some ⟨g, o + y * 6, none⟩)) (fun w' hC => ?_) ?_
            · obtain ⟨⟨z0, z1, z2, z3, z4, z5, z6⟩, y1, y2, y3, y4, y5, y6⟩ := hC
              go_simp
            simp only [Act.put, List.setIfInBounds_toArray, List.set_cons_zero, List.set_cons_succ]
            go_big_quiet_on
            go_big_quiet_want
            refine quiet_val (v := .agg #[.int .i64 p2, .int .i64 m2, .int .i64 b2, .int .i64 q2, .int .i64 s2, .int .i64 v2]) (fun w' hC => ?_) ?_
            · obtain ⟨⟨z0, z1, z2, z3, z4, z5, z6⟩, y1, y2, y3, y4, y5, y6⟩ := hC
              go_simp
            simp only [Act.put, List.setIfInBounds_toArray, List.set_cons_zero, List.set_cons_succ]
            go_big_quiet_on
            go_big_quiet_want
            refine quiet_call (f := 80) (args := #[.agg #[.int .i64 p, .int .i64 m, .int .i64 b, .int .i64 q, .int .i64 s, .int .i64 v], .agg #[.int .i64 p2, .int .i64 m2, .int .i64 b2, .int .i64 q2, .int .i64 s2, .int .i64 v2]]) (v := .int .i64 (ordN p m b p2 m2 b2)) (fun w' => ?_) (fun w' hC => (order_any p m b q s v p2 m2 b2 q2 s2 v2 w').mono (fun e w2 h2 => ⟨h2.1, CB.later h2.2 hC⟩)) ?_
            · go_simp
            simp only [Act.put, List.setIfInBounds_toArray, List.set_cons_zero, List.set_cons_succ]
            go_big_quiet_on
            go_big_quiet_want
            refine quiet_val (v := .bool (decide (0 < ordN p m b p2 m2 b2))) (fun w' hC => ?_) ?_
            · obtain ⟨⟨z0, z1, z2, z3, z4, z5, z6⟩, y1, y2, y3, y4, y5, y6⟩ := hC
              go_simp
            simp only [Act.put, List.setIfInBounds_toArray, List.set_cons_zero, List.set_cons_succ]
            go_big_quiet_on
            go_big_quiet_want
            refine quiet_val (v := .bool (decide (0 < ordN p m b p2 m2 b2))) (fun w' hC => ?_) ?_
            · obtain ⟨⟨z0, z1, z2, z3, z4, z5, z6⟩, y1, y2, y3, y4, y5, y6⟩ := hC
              go_simp
            simp only [Act.put, List.setIfInBounds_toArray, List.set_cons_zero, List.set_cons_succ]
            go_big_quiet_on
            go_big_quiet_want
            refine quiet_val (v := .bool (decide (0 < ordN p m b p2 m2 b2))) (fun w' hC => ?_) ?_
            · obtain ⟨⟨z0, z1, z2, z3, z4, z5, z6⟩, y1, y2, y3, y4, y5, y6⟩ := hC
              go_simp
            simp only [Act.put, List.setIfInBounds_toArray, List.set_cons_zero, List.set_cons_succ]
            go_big_quiet_on
            refine wpQuiet_nil ?_
            intro w' hC
            go_wp2_with fail
            go_meet
            case rel => exact ⟨rfl, by rw [HYL.out]; simp [cntB, hh, hx2, ordR]; first | rfl | exact decide_eq_decide.2 Iff.rfl, hC.1.1⟩
      case rest =>
        obtain ⟨rfl, hc2, hB2⟩ := hcut
        have HB1 := HB.out.trans (hB2.mono HB.out.size)
        have HY := be_next (L := L) (h := h) (k := k) x HX.out _ rfl
        rw [HK.out] at HY
        have HYY : Hid (beTo L h (k + 1) = if cntB m b h x (ordR ⟨p, m, b, q, s, v⟩ (L.getD x.toNat zeR)) then (k : Int) else x) := HY
        clear HY hB2 HA HCC
        generalize cntB m b h x (ordR ⟨p, m, b, q, s, v⟩ (L.getD x.toNat zeR)) = Y at *
        subst hc2
        cases Y
        · go_wp2
          go_roundw
          case rel => exact ⟨k + 1, by omega, by rw [HYY.out]; rfl, by go_num, HB1⟩
          case measure => simp [intOf]; omega
        · go_wp2
          go_roundw
          case rel => exact ⟨k + 1, by omega, by rw [HYY.out]; rfl, by go_num, HB1⟩
          case measure => simp [intOf]; omega
    · obtain rfl : k = n := by omega
      go_wp2
      go_ret
      exact ⟨by rw [← HX.out]; rfl, HB.out⟩

set_option maxHeartbeats 1000000 in
theorem counting_nil (ao : Option Addr) (cap : Nat) (h : Int) (w : World) :
    Calls Tryd.prog 59 #[.slice ao 0 cap, .int .i64 h] w fun e w' => e = .returned (.int .i64 (-1)) ∧ Below w.heap.size w w' := by
  go_enter Tryd.func59, Tryd.ntmps59
  go_wp2
  go_loopw [5, 10] (fun x i wr => x = .int .i64 (-1) ∧ i = .int .i64 0 ∧ wr = w) (fun _ i _ => 0)
  case atStart => exact ⟨rfl, rfl, rfl⟩
  case round =>
    obtain ⟨rfl, rfl, rfl⟩ := hrel
    go_wp2
    go_ret
    exact ⟨rfl, Below.refl _ _⟩

theorem counting_any (x : Value) (L : List Ru) (h : Int) (w : World) (hs : SR w x L) :
    Calls Tryd.prog 59 #[x, .int .i64 h] w fun e w' => e = .returned (.int .i64 (beTo L h L.length)) ∧ Below w.heap.size w w' := by
  rcases hs with ⟨ao, cap, rfl, rfl⟩ | ⟨g, o, cap, rfl, h1, h2, hc⟩
  · exact counting_nil ao cap h w
  · exact counting_some g o cap _ h L w hc rfl (Nat.le_trans h1 h2)

end Go.Proofs.YtpmcjelihdlfeaaDoor
/- What Apply of package rule answers, called with any rule and header. -/
namespace Go.Proofs.YtpmcjelihdlfeaaDoor
open Go.RowKit
set_option linter.unusedSimpArgs false

set_option maxHeartbeats 1000000 in
theorem apply_any (p m b o s v h : Int) (w : World) :
    Calls Tryd.prog 60 #[.agg #[.int .i64 p, .int .i64 m, .int .i64 b, .int .i64 o, .int .i64 s, .int .i64 v], .int .i64 h] w fun e w' => e = .returned (.tuple #[.int .i64 (apR p m b o s v h), noV (apN p m b o s v h)]) ∧ Below w.heap.size w w' := by
  cases hr : ruOk p m b o s v
  · have hn := ruN_ne hr
    rw [apR_bad (by rw [apN_bad h hr]; exact hn), apN_bad h hr, no_ne hn]
    go_enter Tryd.func60, Tryd.ntmps60
    go_wp2_with fail
    refine (ruCheck_any _ _ _ _ _ _ _).mono ?_
    rintro e w1 ⟨rfl, hb1⟩
    rw [no_ne hn]
    go_wp2
    refine bodyPost_ret (v := .tuple #[.int .i64 0, .iface 75 (.int .i64 (ruN p m b o s v))]) (by simp [results, Tryd.results60, go_sem]) rfl ⟨rfl, ?_⟩
    exact ((Below.refl _ _).alloc (Nat.le_refl _) _).trans (hb1.mono (by simp))
  · have hn := ruN_ok hr
    cases hh : hdrB h
    · have e : apN p m b o s v h = 1 := by simp [apN, hr, hh]
      rw [apR_bad (by rw [e]; decide), e]
      clear e
      go_enter Tryd.func60, Tryd.ntmps60
      go_wp2_with fail
      refine (ruCheck_any _ _ _ _ _ _ _).mono ?_
      rintro e w1 ⟨rfl, hb1⟩
      rw [no_ok hn]
      go_wp2_with fail
      refine (isHeader_no _ _ hh).mono ?_
      rintro e w' ⟨rfl, rfl⟩
      go_wp2
      refine bodyPost_ret (v := .tuple #[.int .i64 0, .iface 75 (.int .i64 1)]) (by simp [results, Tryd.results60, go_sem]) rfl ⟨rfl, ?_⟩
      exact ((Below.refl _ _).alloc (Nat.le_refl _) _).trans (hb1.mono (by simp))
    · have hlt : w.heap.size < (w.alloc (Obj.cells #[Value.int IntKind.i64 p, Value.int IntKind.i64 m, Value.int IntKind.i64 b, Value.int IntKind.i64 o, Value.int IntKind.i64 s, Value.int IntKind.i64 v] 47)).heap.size := by simp
      cases ha : hasB m b h
      · have e : apN p m b o s v h = 5 := by simp [apN, hr, hh, ha]
        rw [apR_bad (by rw [e]; decide), e]
        clear e
        go_enter Tryd.func60, Tryd.ntmps60
        go_wp2_with fail
        refine (ruCheck_any _ _ _ _ _ _ _).mono ?_
        rintro e w1 ⟨rfl, hb1⟩
        rw [no_ok hn]
        obtain ⟨hc1, hf1⟩ := bcell hb1
        have hB := ((Below.refl w.heap.size w).alloc (Nat.le_refl _) (Obj.cells #[Value.int IntKind.i64 p, Value.int IntKind.i64 m, Value.int IntKind.i64 b, Value.int IntKind.i64 o, Value.int IntKind.i64 s, Value.int IntKind.i64 v] 47)).trans (hb1.mono (by simp))
        have hlt2 : w.heap.size < w1.heap.size := by have := hb1.size; omega
        clear hb1
        go_wp2_with fail
        refine (isHeader_yes _ _ hh).mono ?_
        rintro e w' ⟨rfl, rfl⟩
        go_wp2_with fail
        refine (has_any _ _ _ _).mono ?_
        rintro e w2 ⟨rfl, hb2⟩
        rw [ha]
        obtain ⟨hc2, hf2⟩ := bcell hb2
        have hB2 := hB.trans (hb2.mono (by omega))
        clear hb2 hB
        go_wp2
        refine bodyPost_ret (v := .tuple #[.int .i64 0, .iface 75 (.int .i64 5)]) (by simp [results, Tryd.results60, go_sem]) rfl ⟨rfl, ?_⟩
        exact hB2
      · cases ho : (o == 0)
        · have e : apN p m b o s v h = 0 := by simp [apN, hr, hh, ha, ho]
          have e2 : apR p m b o s v h = apV s v h := by simp [apR, e]
          rw [e2, e]
          clear e e2
          go_enter Tryd.func60, Tryd.ntmps60
          go_wp2_with fail
          refine (ruCheck_any _ _ _ _ _ _ _).mono ?_
          rintro e w1 ⟨rfl, hb1⟩
          rw [no_ok hn]
          obtain ⟨hc1, hf1⟩ := bcell hb1
          have hB := ((Below.refl w.heap.size w).alloc (Nat.le_refl _) (Obj.cells #[Value.int IntKind.i64 p, Value.int IntKind.i64 m, Value.int IntKind.i64 b, Value.int IntKind.i64 o, Value.int IntKind.i64 s, Value.int IntKind.i64 v] 47)).trans (hb1.mono (by simp))
          have hlt2 : w.heap.size < w1.heap.size := by have := hb1.size; omega
          clear hb1
          go_wp2_with fail
          refine (isHeader_yes _ _ hh).mono ?_
          rintro e w' ⟨rfl, rfl⟩
          go_wp2_with fail
          refine (has_any _ _ _ _).mono ?_
          rintro e w2 ⟨rfl, hb2⟩
          rw [ha]
          obtain ⟨hc2, hf2⟩ := bcell hb2
          have hB2 := hB.trans (hb2.mono (by omega))
          clear hb2 hB
          go_wp2
          refine bodyPost_ret (v := .tuple #[.int .i64 (apV s v h), .nilIface]) (by simp [results, Tryd.results60, go_sem, apV]) rfl ⟨rfl, ?_⟩
          exact hB2
        · have e : apN p m b o s v h = 5 := by simp [apN, hr, hh, ha, ho]
          rw [apR_bad (by rw [e]; decide), e]
          clear e
          go_enter Tryd.func60, Tryd.ntmps60
          go_wp2_with fail
          refine (ruCheck_any _ _ _ _ _ _ _).mono ?_
          rintro e w1 ⟨rfl, hb1⟩
          rw [no_ok hn]
          obtain ⟨hc1, hf1⟩ := bcell hb1
          have hB := ((Below.refl w.heap.size w).alloc (Nat.le_refl _) (Obj.cells #[Value.int IntKind.i64 p, Value.int IntKind.i64 m, Value.int IntKind.i64 b, Value.int IntKind.i64 o, Value.int IntKind.i64 s, Value.int IntKind.i64 v] 47)).trans (hb1.mono (by simp))
          have hlt2 : w.heap.size < w1.heap.size := by have := hb1.size; omega
          clear hb1
          go_wp2_with fail
          refine (isHeader_yes _ _ hh).mono ?_
          rintro e w' ⟨rfl, rfl⟩
          go_wp2_with fail
          refine (has_any _ _ _ _).mono ?_
          rintro e w2 ⟨rfl, hb2⟩
          rw [ha]
          obtain ⟨hc2, hf2⟩ := bcell hb2
          have hB2 := hB.trans (hb2.mono (by omega))
          clear hb2 hB
          go_wp2
          refine bodyPost_ret (v := .tuple #[.int .i64 0, .iface 75 (.int .i64 5)]) (by simp [results, Tryd.results60, go_sem]) rfl ⟨rfl, ?_⟩
          exact hB2
end Go.Proofs.YtpmcjelihdlfeaaDoor
/- What net.step answers: a contract for the walks above it. -/
namespace Go.Proofs.YtpmcjelihdlfeaaDoor
open Go.RowKit
set_option linter.unusedSimpArgs false
set_option linter.unusedVariables false

theorem st_a {t : List Ru} {x y h : Int} (e : luN t h ≠ 0) : stT t ((x, y), h) = none := if_neg e
theorem st_b {t : List Ru} {x y h p m b o s v : Int} (e : luN t h = 0) (hr : roR t h = ⟨p, m, b, o, s, v⟩) (ha : apN p m b o s v h ≠ 0) : stT t ((x, y), h) = none := by
  unfold stT
  simp only
  rw [if_pos e, hr]
  exact if_neg ha
theorem st_c {t : List Ru} {x y h p m b o s v : Int} (e : luN t h = 0) (hr : roR t h = ⟨p, m, b, o, s, v⟩) (ha : apN p m b o s v h = 0) : stT t ((x, y), h) = some ((x, o), apR p m b o s v h) := by
  unfold stT
  simp only
  rw [if_pos e, hr]
  exact if_pos ha
/-- The three boxes: a net, a hop, the answer's. -/
def sbox (w : World) (S : Int) (v1 v2 v3 : Value) (x y h : Int) : World := ((w.alloc (Obj.cells #[.int .i64 S, v1, v2, v3] 28)).alloc (Obj.cells #[.int .i64 x, .int .i64 y, .int .i64 h] 83)).alloc (Obj.cells #[.int .i64 0, .int .i64 0, .int .i64 0] 83)
structure SBox (w W : World) (S : Int) (v1 v2 v3 : Value) (x y h : Int) : Prop where
  below : Below w.heap.size w W
  n : NeBox W w.heap.size S v1 v2 v3
  i0 : W.cell? ⟨w.heap.size + 1, 0, none⟩ = some (.int .i64 x)
  i1 : W.cell? ⟨w.heap.size + 1, 1, none⟩ = some (.int .i64 y)
  i2 : W.cell? ⟨w.heap.size + 1, 2, none⟩ = some (.int .i64 h)
  r0 : W.cell? ⟨w.heap.size + 1 + 1, 0, none⟩ = some (.int .i64 0)
  r1 : W.cell? ⟨w.heap.size + 1 + 1, 1, none⟩ = some (.int .i64 0)
  r2 : W.cell? ⟨w.heap.size + 1 + 1, 2, none⟩ = some (.int .i64 0)
  f : ∀ i, W.frozen? ⟨w.heap.size + 1 + 1, i, none⟩ = false
theorem sbox_new (w : World) (S : Int) (v1 v2 v3 : Value) (x y h : Int) : SBox w (sbox w S v1 v2 v3 x y h) S v1 v2 v3 x y h := by
  have e1 : (w.alloc (Obj.cells #[.int .i64 S, v1, v2, v3] 28)).heap.size = w.heap.size + 1 := by simp
  have e2 : ((w.alloc (Obj.cells #[.int .i64 S, v1, v2, v3] 28)).alloc (Obj.cells #[.int .i64 x, .int .i64 y, .int .i64 h] 83)).heap.size = w.heap.size + 1 + 1 := by simp
  have hb : ∀ (W : World) (o : Obj), Below W.heap.size W (W.alloc o) := fun W o => (Below.refl _ _).alloc (Nat.le_refl _) _
  have hs := (vat_new (w.alloc (Obj.cells #[.int .i64 S, v1, v2, v3] 28)) [.int .i64 x, .int .i64 y, .int .i64 h] 83).later (hb _ (Obj.cells #[.int .i64 0, .int .i64 0, .int .i64 0] 83))
  rw [e1] at hs
  have hr := vat_new ((w.alloc (Obj.cells #[.int .i64 S, v1, v2, v3] 28)).alloc (Obj.cells #[.int .i64 x, .int .i64 y, .int .i64 h] 83)) [.int .i64 0, .int .i64 0, .int .i64 0] 83
  rw [e2] at hr
  have hf : ∀ k, (sbox w S v1 v2 v3 x y h).frozen? ⟨((w.alloc (Obj.cells #[.int .i64 S, v1, v2, v3] 28)).alloc (Obj.cells #[.int .i64 x, .int .i64 y, .int .i64 h] 83)).heap.size, k, none⟩ = false := fun k => by
    unfold sbox
    generalize (w.alloc (Obj.cells #[.int .i64 S, v1, v2, v3] 28)).alloc (Obj.cells #[.int .i64 x, .int .i64 y, .int .i64 h] 83) = X
    simp
  rw [e2] at hf
  exact ⟨(((Below.refl _ _).alloc (Nat.le_refl _) _).alloc (by rw [e1]; omega) _).alloc (by rw [e2]; omega) _, ((nebox_new w S v1 v2 v3 28).later (hb _ _)).later (hb _ _), hs 0 _ rfl, hs 1 _ rfl, hs 2 _ rfl, hr 0 _ rfl, hr 1 _ rfl, hr 2 _ rfl, hf⟩
theorem SBox.later {w W W' : World} {S : Int} {v1 v2 v3 : Value} {x y h : Int} (k : SBox w W S v1 v2 v3 x y h) (hb : Below W.heap.size W W') : SBox w W' S v1 v2 v3 x y h :=
  ⟨k.below.trans (hb.mono k.below.size), k.n.later hb, cell_later hb k.i0, cell_later hb k.i1, cell_later hb k.i2, cell_later hb k.r0, cell_later hb k.r1, cell_later hb k.r2, fun i => (hb.frozen (p := ⟨w.heap.size + 1 + 1, i, none⟩) (show (⟨w.heap.size + 1 + 1, 0, none⟩ : Addr).block < W.heap.size from World.block_lt_of_cell? W ⟨w.heap.size + 1 + 1, 0, none⟩ k.r0)).trans (k.f i)⟩
theorem below_three {w W : World} (h : Below w.heap.size w W) (g : Nat) (hg : w.heap.size ≤ g) (u v x : Value) : Below w.heap.size w (((W.setCell ⟨g, 0, none⟩ u).setCell ⟨g, 1, none⟩ v).setCell ⟨g, 2, none⟩ x) := ((h.setCell (p := ⟨g, 0, none⟩) hg u).setCell (p := ⟨g, 1, none⟩) hg v).setCell (p := ⟨g, 2, none⟩) hg x

set_option maxHeartbeats 4000000 in
set_option maxRecDepth 100000 in
theorem step_any (S : Int) (ao : Option Addr) (n cap : Nat) (ao2 : Option Addr) (n2 cap2 : Nat) (ao3 : Option Addr) (n3 cap3 : Nat) (Ts : List (List Ru)) (x y h : Int) (w : World)
    (hT : TS w (.slice ao3 n3 cap3) Ts) (hG : ∀ k, k < Ts.length → tbN (Ts.getD k []) = 0) (h1 : 1 ≤ x) (h2 : x ≤ (n3 : Int)) (h6 : n3 ≤ 6) :
    Calls Tryd.prog 34 #[.agg #[.int .i64 S, .slice ao n cap, .slice ao2 n2 cap2, .slice ao3 n3 cap3], .agg #[.int .i64 x, .int .i64 y, .int .i64 h]] w fun e w' => e = .returned (.tuple #[.agg #[.int .i64 ((stO Ts ((x, y), h)).getD zeH).1.1, .int .i64 ((stO Ts ((x, y), h)).getD zeH).1.2, .int .i64 ((stO Ts ((x, y), h)).getD zeH).2], .bool (stO Ts ((x, y), h)).isSome]) ∧ Below w.heap.size w w' := by
  obtain ⟨k, rfl⟩ : ∃ k : Nat, x = (k : Int) + 1 := ⟨(x - 1).toNat, by omega⟩
  have hk : k < n3 := by omega
  obtain ⟨_, _, _, e1, hTn, hTm, _, hTa⟩ := hT.form
  cases e1
  obtain ⟨g, o, rfl, hc, _⟩ := hTa (by omega)
  have hX := sbox_new w S (.slice ao n cap) (.slice ao2 n2 cap2) (.slice (some ⟨g, o, none⟩) n3 cap3) ((k : Int) + 1) y h
  obtain ⟨a4, n4, c4, q0, hs⟩ := (hc.later hX.below) k (by rw [hTn]; exact hk)
  obtain ⟨t, ht⟩ : ∃ t, t = Ts.getD k [] := ⟨_, rfl⟩
  have hs2 : SR (sbox w S (.slice ao n cap) (.slice ao2 n2 cap2) (.slice (some ⟨g, o, none⟩) n3 cap3) ((k : Int) + 1) y h) (.slice a4 n4 c4) t := by
    rw [ht, getT (by rw [hTn]; exact hk)]
    exact hs
  have HTB : Hid (tbN t = 0) := by
    show _ = _
    rw [ht]
    exact hG k (by rw [hTn]; exact hk)
  have HST : Hid (stO Ts (((k : Int) + 1, y), h) = stT t (((k : Int) + 1, y), h)) := by
    show _ = _
    unfold stO taT
    simp only
    rw [ht]
    congr 2
    omega
  obtain ⟨A, hA⟩ : ∃ A, A = stO Ts (((k : Int) + 1, y), h) := ⟨_, rfl⟩
  have HA : Hid (A = stT t (((k : Int) + 1, y), h)) := hA.trans HST.out
  rw [← hA]
  obtain ⟨w0, hw0⟩ : ∃ W, W = sbox w S (.slice ao n cap) (.slice ao2 n2 cap2) (.slice (some ⟨g, o, none⟩) n3 cap3) ((k : Int) + 1) y h := ⟨_, rfl⟩
  rw [← hw0] at hX q0 hs2
  have HX : Hid (SBox w w0 S (.slice ao n cap) (.slice ao2 n2 cap2) (.slice (some ⟨g, o, none⟩) n3 cap3) ((k : Int) + 1) y h) := hX
  have HS : Hid (SR w0 (.slice a4 n4 c4) t) := hs2
  have HW0 : Hid (((w.alloc (Obj.cells #[.int .i64 S, .slice ao n cap, .slice ao2 n2 cap2, .slice (some ⟨g, o, none⟩) n3 cap3] 28)).alloc (Obj.cells #[.int .i64 ((k : Int) + 1), .int .i64 y, .int .i64 h] 83)).alloc (Obj.cells #[.int .i64 0, .int .i64 0, .int .i64 0] 83) = w0) := hw0.symm
  have hw : IntKind.i64.wrap ((k : Int) + 1 - 1) = (k : Int) := by rw [show (k : Int) + 1 - 1 = (k : Int) from by omega]; exact wrap_small (by omega) (by omega)
  have kb0 : (0 : Int) ≤ (k : Int) := by omega
  have kb1 : (k : Int) < (n3 : Int) := by omega
  clear hT hTn hTm hTa hc hs hs2 hX hA HST hw0 ht hG
  go_enter Tryd.func34, Tryd.ntmps34
  go_upto_region 1 with fail
  rw [HW0.out]
  obtain ⟨_, ⟨b0, b1, b2, b3⟩, i0, i1, i2, r0, r1, r2, f⟩ := HX.out
  clear HW0 f r0 r1 r2
  go_wp2_with fail
  refine (counting_any (.slice a4 n4 c4) t h _ HS.out).mono ?_
  rintro e w1 ⟨rfl, hb1⟩
  have HX1 : Hid (SBox w w1 S (.slice ao n cap) (.slice ao2 n2 cap2) (.slice (some ⟨g, o, none⟩) n3 cap3) ((k : Int) + 1) y h) := HX.out.later hb1
  have HS1 : Hid (SR w1 (.slice a4 n4 c4) t) := HS.out.later hb1
  obtain ⟨I, hI⟩ : ∃ I, I = beTo t h t.length := ⟨_, rfl⟩
  have HI : Hid (I = beTo t h t.length) := hI
  rw [← hI]
  clear hI hb1 HX HS b0 b1 b2 b3 i0 i1 i2 q0
  by_cases h0 : I < 0
  · have HA2 : Hid (A = none) := by
      show _ = _
      rw [HA.out, st_a (fun e => by have := (lu_0.1 e).2.2; rw [← HI.out] at this; omega)]
    obtain ⟨hB2, ⟨b0, b1, b2, b3⟩, i0, i1, i2, r0, r1, r2, f⟩ := HX1.out
    have HB2 : Hid (Below w.heap.size w w1) := hB2
    have f0 := f 0
    have f1 := f 1
    have f2 := f 2
    clear f hB2
    go_wp2
    refine bodyPost_ret (v := .tuple #[.agg #[.int .i64 0, .int .i64 0, .int .i64 0], .bool false]) (by simp [results, Tryd.results34, go_sem, *]) rfl ⟨by rw [HA2.out]; rfl, below_three HB2.out _ (by omega) _ _ _⟩
  · have hbd := be_bd t h t.length
    obtain ⟨j, rfl⟩ : ∃ j : Nat, I = (j : Int) := ⟨I.toNat, by omega⟩
    have hjl : j < t.length := by
      have := HI.out
      omega
    obtain ⟨_, _, _, e4, hn4, hm4, _, ha4⟩ := HS1.out.form
    cases e4
    obtain ⟨g4, o4, rfl, hc4, _⟩ := ha4 (by omega)
    have hjn : j < n4 := by omega
    obtain ⟨p, m, b, q, s, v, hl, hLj, c0, c1, c2, c3, c4', c5⟩ := hc4.at hn4 hjn
    have HRO : Hid (luN t h = 0 → roR t h = ⟨p, m, b, q, s, v⟩) := by
      intro e
      rw [roR, luI, if_pos e, ← HI.out, Int.toNat_natCast, getD_at hjl, hLj]
    have HLT : Hid (hdrB h = true → luN t h = 0) := fun e => lu_0.2 ⟨HTB.out, e, by rw [← HI.out]; omega⟩
    have HC4 : Hid (RAt w1 g4 o4 t) := hc4
    have HN4 : Hid (t.length = n4) := hn4
    have HLJ : Hid (t[j] = ⟨p, m, b, q, s, v⟩) := hLj
    have jb0 : (0 : Int) ≤ (j : Int) := by omega
    have jb1 : (j : Int) < (n4 : Int) := by omega
    obtain ⟨_, ⟨b0, b1, b2, b3⟩, i0, i1, i2, r0, r1, r2, f⟩ := HX1.out
    have hlt4 : g4 < w1.heap.size := World.block_lt_of_cell? _ _ c0
    have hlt1 : w.heap.size + 1 < w1.heap.size := World.block_lt_of_cell? _ _ i0
    obtain ⟨V, hV⟩ : ∃ V, V = apR p m b q s v h := ⟨_, rfl⟩
    obtain ⟨N, hN⟩ : ∃ N, N = apN p m b q s v h := ⟨_, rfl⟩
    have HV : Hid (V = apR p m b q s v h) := hV
    have HN : Hid (N = apN p m b q s v h) := hN
    clear hV hN h0 hbd hn4 hm4 ha4 hc4 hLj f HI HTB r0 r1 r2
    go_upto_region 5 with fail
    go_cut [8, 9] from 26 to 35 (fun hd er w' => hd = .int .i64 V ∧ er = noV N ∧ Below w1.heap.size w1 w')
    case first =>
      go_region_with (go_at_call 60; refine (apply_any p m b q s v h _).mono ?_; rintro e w' ⟨rfl, hb⟩; rw [← HV.out, ← HN.out]; have HBX : Hid (Below w1.heap.size w1 w') := (Below.drew (Below.refl _ _)).trans (hb.mono (by simp)); clear hb)
      all_goals (go_wp2_with fail; go_meet)
      all_goals exact ⟨rfl, rfl, HBX.out⟩
    case rest =>
      obtain ⟨rfl, rfl, hbw⟩ := hcut
      have HX2 : Hid (SBox w wc S (.slice ao n cap) (.slice ao2 n2 cap2) (.slice (some ⟨g, o, none⟩) n3 cap3) ((k : Int) + 1) y h) := HX1.out.later hbw
      obtain ⟨p', m', b', q', s', v', hl', hLj', c0, c1, c2, c3, c4', c5⟩ := (HC4.out.later hbw).at HN4.out hjn
      rw [HLJ.out] at hLj'
      cases hLj'
      obtain ⟨hB2, ⟨b0, b1, b2, b3⟩, i0, i1, i2, r0, r1, r2, f⟩ := HX2.out
      have HB2 : Hid (Below w.heap.size w wc) := hB2
      have hlt4 : g4 < wc.heap.size := World.block_lt_of_cell? _ _ c0
      have hlt1 : w.heap.size + 1 < wc.heap.size := World.block_lt_of_cell? _ _ i0
      have hlt2 : w.heap.size + 1 + 1 < wc.heap.size := World.block_lt_of_cell? _ _ r0
      have f0 := f 0
      have f1 := f 1
      have f2 := f 2
      clear hbw f hB2 HX1 HC4
      by_cases h5 : N = 0
      · subst h5
        rw [no_ok rfl]
        have HA2 : Hid (A = some (((k : Int) + 1, q), V)) := by
          show _ = _
          have hl := HLT.out (ap_yes HN.out.symm).2.1
          rw [HA.out, st_c hl (HRO.out hl) HN.out.symm, HV.out]
        go_upto_region 8 with fail
        go_region
        all_goals
          go_wp2
          refine bodyPost_ret (v := .tuple #[.agg #[.int .i64 ((k : Int) + 1), .int .i64 q, .int .i64 V], .bool true]) (by simp [results, Tryd.results34, go_sem, *]) rfl ⟨by rw [HA2.out]; rfl, ?_⟩
          first
            | exact below_three (HB2.out.trans ((Below.drew (Below.refl _ _)).mono HB2.out.size)) _ (by omega) _ _ _
      · rw [no_ne h5]
        have HA2 : Hid (A = none) := by
          show _ = _
          by_cases hl : luN t h = 0
          · rw [HA.out, st_b hl (HRO.out hl) (by rw [← HN.out]; exact h5)]
          · rw [HA.out, st_a hl]
        clear h5
        go_wp2
        refine bodyPost_ret (v := .tuple #[.agg #[.int .i64 0, .int .i64 0, .int .i64 0], .bool false]) (by simp [results, Tryd.results34, go_sem, *]) rfl ⟨by rw [HA2.out]; rfl, below_three HB2.out _ (by omega) _ _ _⟩
end Go.Proofs.YtpmcjelihdlfeaaDoor
/- What becomes of a packet, one round: plain lists. No program in it. -/
namespace Go.Proofs.YtpmcjelihdlfeaaDoor
open Go.RowKit
set_option linter.unusedVariables false

section
variable {Ls : List ((Int × Int) × (Int × Int))} {Hs : List (ByteArray × (Int × Int))} {Ts : List (List Ru)} {l : List ((Int × Int) × Int)} {q : (Int × Int) × Int}
theorem fo_r (h : l.length ≤ 24) : foF Ls Hs Ts (25 - l.length) l = match enE Ls Hs Ts l (laH l) with | .inl e => (e.1, e.2, l) | .inr p => foF Ls Hs Ts (24 - l.length) (l ++ [p]) := by
  have e : 25 - l.length = (24 - l.length) + 1 := by omega
  rw [e]
  exact fo_s _ _
theorem fo_2 (h : l.length ≤ 24) (hA : stO Ts (laH l) = none) : foF Ls Hs Ts (25 - l.length) l = (2, ByteArray.empty, l) := by
  have e : enE Ls Hs Ts l (laH l) = .inl (2, ByteArray.empty) := by
    unfold enE goE
    rw [show stT (taT Ts (laH l).1.1) (laH l) = none from hA]
  rw [fo_r h, e]
theorem fo_1 (h : l.length ≤ 24) (hA : stO Ts (laH l) = some q) {m : ByteArray} (ha : atO Hs q.1 = some m) : foF Ls Hs Ts (25 - l.length) l = (1, m, l) := by
  have e : enE Ls Hs Ts l (laH l) = .inl (1, m) := by
    unfold enE goE
    rw [show stT (taT Ts (laH l).1.1) (laH l) = some q from hA]
    simp only [ha]
  rw [fo_r h, e]
theorem fo_3 (h : l.length ≤ 24) (hA : stO Ts (laH l) = some q) (ha : atO Hs q.1 = none) (hp : peerO Ls q.1 = none) : foF Ls Hs Ts (25 - l.length) l = (3, ByteArray.empty, l) := by
  have e : enE Ls Hs Ts l (laH l) = .inl (3, ByteArray.empty) := by
    unfold enE goE
    rw [show stT (taT Ts (laH l).1.1) (laH l) = some q from hA]
    simp only [ha, hp]
  rw [fo_r h, e]
theorem fo_4 (h : l.length ≤ 24) (hA : stO Ts (laH l) = some q) (ha : atO Hs q.1 = none) {s : Int × Int} (hp : peerO Ls q.1 = some s) (h4 : l.length = 24 ∨ (l.any fun x => heB (s, q.2) x) = true) : foF Ls Hs Ts (25 - l.length) l = (4, ByteArray.empty, l) := by
  have e : enE Ls Hs Ts l (laH l) = .inl (4, ByteArray.empty) := by
    unfold enE goE
    rw [show stT (taT Ts (laH l).1.1) (laH l) = some q from hA]
    simp only [ha, hp]
    rw [if_pos h4]
  rw [fo_r h, e]
theorem fo_n (h : l.length ≤ 24) (hA : stO Ts (laH l) = some q) (ha : atO Hs q.1 = none) {s : Int × Int} (hp : peerO Ls q.1 = some s) (h4 : l.length ≠ 24) (h5 : (l.any fun x => heB (s, q.2) x) = false) : foF Ls Hs Ts (25 - l.length) l = foF Ls Hs Ts (25 - (l ++ [(s, q.2)]).length) (l ++ [(s, q.2)]) := by
  have e : enE Ls Hs Ts l (laH l) = .inr (s, q.2) := by
    unfold enE goE
    rw [show stT (taT Ts (laH l).1.1) (laH l) = some q from hA]
    simp only [ha, hp]
    rw [if_neg]
    rw [not_or, h5]
    exact ⟨h4, by simp⟩
  rw [fo_r h, e]
  simp only [List.length_append, List.length_cons, List.length_nil]
  rw [show 24 - l.length = 25 - (l.length + (0 + 1)) by omega]
theorem la_app (l : List ((Int × Int) × Int)) (p : (Int × Int) × Int) : laH (l ++ [p]) = p := by
  rw [la_at]
  simp only [List.length_append, List.length_cons, List.length_nil, Nat.add_sub_cancel, Nat.zero_add]
  exact at_app l p
end
end Go.Proofs.YtpmcjelihdlfeaaDoor
/- Legs in plain lists: what a table does with a packet ahead of all hops, and as it is behind some. No program in it. -/
namespace Go.Proofs.YtpmcjelihdlfeaaDoor
open Go.RowKit
set_option linter.unusedVariables false

/-- A leg: how it ends, at whom; if it does not, where it goes on. -/
abbrev Lg := Int × ByteArray × ((Int × Int) × Int)
def lgT (Ls : List ((Int × Int) × (Int × Int))) (Hs : List (ByteArray × (Int × Int))) (t : List Ru) (p : (Int × Int) × Int) : Lg :=
  match stT t p with
  | none => (2, ByteArray.empty, zeH)
  | some q => match atO Hs q.1 with
    | some m => (1, m, zeH)
    | none => match peerO Ls q.1 with
      | none => (3, ByteArray.empty, zeH)
      | some s => (0, ByteArray.empty, (s, q.2))
/-- Behind hops: looped, if it would come where it was, or too often. -/
def afB (g : Lg) (l : List ((Int × Int) × Int)) : Bool := (g.1 == 0) && ((l.length == 24) || (l.any fun x => heB g.2.2 x))
def afL (g : Lg) (l : List ((Int × Int) × Int)) : Lg := if afB g l = true then (4, ByteArray.empty, zeH) else g
def lgE (g : Lg) : (Int × ByteArray) ⊕ ((Int × Int) × Int) := if g.1 = 0 then .inr g.2.2 else .inl (g.1, g.2.1)

section
variable {Ls : List ((Int × Int) × (Int × Int))} {Hs : List (ByteArray × (Int × Int))} {t : List Ru} {p : (Int × Int) × Int} {l : List ((Int × Int) × Int)}
theorem lg_2 (h : stT t p = none) : lgT Ls Hs t p = (2, ByteArray.empty, zeH) := by
  unfold lgT
  rw [h]
theorem lg_1 {q : (Int × Int) × Int} (h : stT t p = some q) {m : ByteArray} (ha : atO Hs q.1 = some m) : lgT Ls Hs t p = (1, m, zeH) := by
  unfold lgT
  rw [h]
  simp only [ha]
theorem lg_3 {q : (Int × Int) × Int} (h : stT t p = some q) (ha : atO Hs q.1 = none) (hp : peerO Ls q.1 = none) : lgT Ls Hs t p = (3, ByteArray.empty, zeH) := by
  unfold lgT
  rw [h]
  simp only [ha, hp]
theorem lg_0 {q : (Int × Int) × Int} (h : stT t p = some q) (ha : atO Hs q.1 = none) {s : Int × Int} (hp : peerO Ls q.1 = some s) : lgT Ls Hs t p = (0, ByteArray.empty, (s, q.2)) := by
  unfold lgT
  rw [h]
  simp only [ha, hp]
theorem af_ne {g : Lg} (h : g.1 ≠ 0) : afL g l = g := by
  unfold afL afB
  rw [if_neg (by simp [h])]
theorem af_0 {g : Lg} (h : (afL g l).1 = 0) : afL g l = g ∧ g.1 = 0 ∧ l.length ≠ 24 ∧ (l.any fun x => heB g.2.2 x) = false := by
  by_cases e : afB g l = true
  · rw [afL, if_pos e] at h
    cases h
  · have e1 : afL g l = g := by rw [afL, if_neg e]
    rw [e1] at h
    refine ⟨e1, h, ?_, ?_⟩
    · intro h24
      exact e (by simp [afB, h, h24])
    · cases hx : l.any fun x => heB g.2.2 x with
      | false => rfl
      | true => exact absurd (by simp only [afB, h, hx]; simp) e
/-- What becomes of a packet at its last hop, by its leg. -/
theorem go_lg : goE Ls Hs t l p = lgE (afL (lgT Ls Hs t p) l) := by
  unfold goE
  cases h : stT t p with
  | none => simp only [lg_2 h, af_ne (l := l) (g := (2, ByteArray.empty, zeH)) (by simp)]; rfl
  | some q =>
    cases ha : atO Hs q.1 with
    | some m => simp only [ha, lg_1 (Ls := Ls) h ha, af_ne (l := l) (g := (1, m, zeH)) (by simp)]; rfl
    | none =>
      cases hp : peerO Ls q.1 with
      | none => simp only [ha, hp, lg_3 h ha hp, af_ne (l := l) (g := (3, ByteArray.empty, zeH)) (by simp)]; rfl
      | some s =>
        simp only [ha, hp, lg_0 h ha hp]
        by_cases e : l.length = 24 ∨ l.any (fun x => heB (s, q.2) x) = true
        · rw [if_pos e, afL, if_pos]
          · rfl
          · rcases e with e | e
            · simp [afB, e]
            · simp only [afB, e]
              simp
        · rw [if_neg e, afL, if_neg]
          · rfl
          · rw [not_or] at e
            simp only [afB, Bool.and_eq_true, Bool.or_eq_true, beq_iff_eq]
            exact fun h => h.2.elim e.1 e.2
end
section
variable {S : Int} {Ls : List ((Int × Int) × (Int × Int))} {Hs : List (ByteArray × (Int × Int))} {Ts : List (List Ru)} {l : List ((Int × Int) × Int)}
/-- One round, by the leg. -/
theorem fo_end (h : l.length ≤ 24) {g : Lg} (hg : g = afL (lgT Ls Hs (taT Ts (laH l).1.1) (laH l)) l) (h0 : g.1 ≠ 0) : foF Ls Hs Ts (25 - l.length) l = (g.1, g.2.1, l) := by
  have e : enE Ls Hs Ts l (laH l) = .inl (g.1, g.2.1) := by
    show goE _ _ _ _ _ = _
    rw [go_lg, ← hg, lgE, if_neg h0]
  rw [fo_r h, e]
theorem fo_on (h : l.length ≤ 24) {g : Lg} (hg : g = afL (lgT Ls Hs (taT Ts (laH l).1.1) (laH l)) l) (h0 : g.1 = 0) : foF Ls Hs Ts (25 - l.length) l = foF Ls Hs Ts (25 - (l ++ [g.2.2]).length) (l ++ [g.2.2]) := by
  have e : enE Ls Hs Ts l (laH l) = .inr g.2.2 := by
    show goE _ _ _ _ _ = _
    rw [go_lg, ← hg, lgE, if_pos h0]
  rw [fo_r h, e]
  simp only [List.length_append, List.length_cons, List.length_nil]
  rw [show 24 - l.length = 25 - (l.length + (0 + 1)) by omega]
theorem lg_sp (ht : tpN S Ls Hs = 0) {t : List Ru} {p : (Int × Int) × Int} (h : (lgT Ls Hs t p).1 = 0) : spB S (lgT Ls Hs t p).2.2.1 = true := by
  cases h1 : stT t p with
  | none => rw [lg_2 h1] at h; cases h
  | some q =>
    cases ha : atO Hs q.1 with
    | some m => rw [lg_1 h1 ha] at h; cases h
    | none =>
      cases hp : peerO Ls q.1 with
      | none => rw [lg_3 h1 ha hp] at h; cases h
      | some s =>
        rw [lg_0 h1 ha hp]
        exact peer_sp ht hp
theorem lg_name (ht : tpN S Ls Hs = 0) (t : List Ru) (p : (Int × Int) × Int) : (lgT Ls Hs t p).2.1.size ≤ 1000000 := by
  cases h1 : stT t p with
  | none => rw [lg_2 h1]; decide
  | some q =>
    cases ha : atO Hs q.1 with
    | some m =>
      rw [lg_1 h1 ha]
      rcases at_ix Hs q.1 with ⟨_, ho⟩ | ⟨k, hk, _, ho⟩
      · rw [ha] at ho; cases ho
      · rw [ha] at ho
        cases ho
        have h := (tp_0 ht).2.2.2.2.1 Hs[k] (List.getElem_mem hk)
        have h2 := h.1
        simp only [nmB, Bool.and_eq_true, decide_eq_true_eq] at h2
        show Hs[k].1.size ≤ _
        omega
    | none =>
      cases hp : peerO Ls q.1 with
      | none => rw [lg_3 h1 ha hp]; decide
      | some s =>
        rw [lg_0 h1 ha hp]
        show ByteArray.empty.size ≤ 1000000
        decide
theorem af_name {g : Lg} (h : g.2.1.size ≤ 1000000) : (afL g l).2.1.size ≤ 1000000 := by
  unfold afL
  by_cases e : afB g l = true
  · rw [if_pos e]; decide
  · rw [if_neg e]; exact h
end
end Go.Proofs.YtpmcjelihdlfeaaDoor
/- What topo.checkSpot answers: a contract for the walks above it. -/
namespace Go.Proofs.YtpmcjelihdlfeaaDoor
open Go.RowKit
set_option linter.unusedSimpArgs false
set_option linter.unusedVariables false

end Go.Proofs.YtpmcjelihdlfeaaDoor
/- What topo.Peers answers: a contract for the walks above it. -/
namespace Go.Proofs.YtpmcjelihdlfeaaDoor
open Go.RowKit
set_option linter.unusedSimpArgs false
set_option linter.unusedVariables false

/-- Spots as elements. -/
def veS (p : Int × Int) : Value := .agg #[.int .i64 p.1, .int .i64 p.2]
set_option maxHeartbeats 2000000 in
set_option maxRecDepth 100000 in
theorem peers_any (ao : Option Addr) (n cap : Nat) (Ls : List ((Int × Int) × (Int × Int))) (w : World) (hL : GS lnkE w (.slice ao n cap) Ls) (hd : (spsL Ls).Nodup) (h1000 : n ≤ 1000) :
    Calls Tryd.prog 61 #[.slice ao n cap] w fun e w' => ∃ B M, e = .returned (.map (some B)) ∧ MAt spotKey veS w' B M ∧ PM M Ls ∧ Below w.heap.size w w' := by
  obtain ⟨_, _, _, e1, hLn, hLm, _, hLa⟩ := hL.form
  cases e1
  have HLN : Hid (Ls.length = n) := hLn
  have HLA : Hid (0 < n → ∃ g o, ao = some ⟨g, o, none⟩ ∧ GAt lnkE w g o Ls ∧ cap ≤ maxLen) := hLa
  have HND : Hid ((spsL Ls).Nodup) := hd
  have hmk := run_makeMap (P := Tryd.prog) 124 w
  have HM1 : Hid (MAt spotKey veS (w.alloc (.map #[] 0)) w.heap.size []) := mat_new spotKey veS w
  clear hL hLn hLm hLa hd
  go_enter Tryd.func61, Tryd.ntmps61
  go_wp2
  obtain ⟨B, hB⟩ : ∃ x, w.heap.size = x := ⟨_, rfl⟩
  have HB : Hid (w.heap.size = B) := hB
  go_loopw [9] (fun i wr => ∃ k : Nat, k ≤ n ∧ i = .int .i64 k ∧ (∃ M, MAt spotKey veS wr w.heap.size M ∧ PM M (Ls.take k)) ∧ Below w.heap.size w wr) (fun i _ => n - (intOf i).toNat)
  case atStart => exact ⟨0, by omega, rfl, ⟨[], HM1.out, by simpa using pm_nil⟩, (Below.refl _ _).alloc (Nat.le_refl _) _⟩
  case round =>
    obtain ⟨k, hk, rfl, ⟨M, hM, hP⟩, hBw⟩ := hrel
    have HM : Hid (MAt spotKey veS wr w.heap.size M) := hM
    have HP : Hid (PM M (Ls.take k)) := hP
    have HBw : Hid (Below w.heap.size w wr) := hBw
    clear hB
    by_cases hlt : k < n
    · obtain ⟨g, o, hao, hc, _⟩ := HLA.out (by omega)
      subst hao
      obtain ⟨x0, x1, x2, x3, hkl, hLk, q0, q1, q2, q3⟩ := lnk_at (hc.later hBw) HLN.out hlt
      have HLk : Hid (Ls[k] = ((x0, x1), (x2, x3))) := hLk
      obtain ⟨W0, hW0⟩ : ∃ W0, wr.alloc (Obj.cells #[Value.int IntKind.i64 x0, Value.int IntKind.i64 x1, Value.int IntKind.i64 x2, Value.int IntKind.i64 x3] 91) = W0 := ⟨_, rfl⟩
      have hBA : Below wr.heap.size wr W0 := by
        rw [← hW0]
        exact (Below.refl _ _).alloc (Nat.le_refl _) _
      obtain ⟨c0, c1, c2, c3⟩ := lnk_cells (lnk_new wr x0 x1 x2 x3 91)
      simp only [Nat.zero_add] at c0 c1 c2 c3
      rw [hW0] at c0 c1 c2 c3
      have hM0 : MAt spotKey veS W0.drew w.heap.size M := hM.later hBA.drew
      obtain ⟨w3, hu1, hM3, hg3⟩ := run_update_M hM0 124 30 Tryd.underlying124 (x0, x1) (x2, x3)
      obtain ⟨w4, hu2, hM4, hg4⟩ := run_update_M hM3 124 30 Tryd.underlying124 (x2, x3) (x0, x1)
      have hlw : w.heap.size < wr.heap.size := hM.lt
      have hlW : wr.heap.size < W0.drew.heap.size := World.block_lt_of_cell? _ _ c0
      have hk3 : ∀ i, w3.cell? ⟨wr.heap.size, i, none⟩ = W0.cell? ⟨wr.heap.size, i, none⟩ := fun i => World.cell?_of_block (w := W0) (a := ⟨wr.heap.size, i, none⟩) (hg3.block wr.heap.size hlW (fun e => by simp only [Option.some.injEq] at e; omega))
      have d0 := (hk3 0).trans c0
      have d1 := (hk3 1).trans c1
      have d2 := (hk3 2).trans c2
      have d3 := (hk3 3).trans c3
      have v1 : (Instr.mapUpdate 124 (.map (some w.heap.size)) (.agg #[.int .i64 x0, .int .i64 x1]) (.agg #[.int .i64 x2, .int .i64 x3])).run Tryd.prog W0.drew = .ok () w3 := hu1
      have v2 : (Instr.mapUpdate 124 (.map (some w.heap.size)) (.agg #[.int .i64 x2, .int .i64 x3]) (.agg #[.int .i64 x0, .int .i64 x1])).run Tryd.prog w3 = .ok () w4 := hu2
      have HM4 : Hid (MAt spotKey veS w4 w.heap.size (mput sq (x2, x3) (x0, x1) (mput sq (x0, x1) (x2, x3) M))) := hM4
      have HP4 : Hid (PM (mput sq (x2, x3) (x0, x1) (mput sq (x0, x1) (x2, x3) M)) (Ls.take (k + 1))) := by
        have e : Ls.take (k + 1) = Ls.take k ++ [((x0, x1), (x2, x3))] := by rw [List.take_succ_eq_append_getElem hkl, hLk]
        show PM _ _
        rw [e]
        refine pm_put hP ?_
        rw [← e]
        exact sps_nd HND.out _
      have HB4 : Hid (Below w.heap.size w w4) := by
        have h0 : Below w.heap.size w W0.drew := (hBw.trans (hBA.mono hBw.size)).drew
        exact (h0.grown hg3 h0.size (fun j e => by cases e; exact Nat.le_refl _)).grown hg4 (Nat.le_trans h0.size hg3.size) (fun j e => by cases e; exact Nat.le_refl _)
      have kb0 : (0 : Int) ≤ (k : Int) := by omega
      have kb1 : (k : Int) < (n : Int) := by omega
      clear hk3 hlw hlW hu1 hu2 hM3 hM4 hg3 hg4 hM0 hM hP hc hLk hBw hBA
      go_upto_region 5 with fail
      clear q0 q1 q2 q3
      go_region
      go_wp2
      go_roundw
      case rel => exact ⟨k + 1, by omega, by go_num, ⟨_, HM4.out, HP4.out⟩, HB4.out⟩
      case measure => simp [intOf]; omega
    · obtain rfl : k = n := by omega
      clear hM hP hBw
      go_wp2
      go_ret
      exact ⟨_, M, rfl, HM.out, by have := HP.out; rw [← HLN.out, List.take_length] at this; exact this, HBw.out⟩
end Go.Proofs.YtpmcjelihdlfeaaDoor
