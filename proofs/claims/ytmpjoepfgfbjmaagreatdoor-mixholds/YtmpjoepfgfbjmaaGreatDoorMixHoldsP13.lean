/- Contracts and facts on the way to MixHolds, joined into one text: MixHas, WishMath2, MixHoldsMath, NetSend, ChangeBN, AsErr, AsErr2, SameAny, TopoOf, NetOf. -/
import Derived.Test.YtmpjoepfgfbjmaaGreatDoorMixHoldsP11
import Derived.Test.YtmpjoepfgfbjmaaGreatDoorMixHoldsP12
import Derived.Test.YtmpjoepfgfbjmaaGreatDoorMixHoldsP4
import Derived.Test.YtmpjoepfgfbjmaaGreatDoorMixHoldsP9
import Derived.Test.YtmpjoepfgfbjmaaGreatDoorMixHoldsP3
import Derived.Test.YtmpjoepfgfbjmaaGreatDoorMixHoldsP2
import Derived.Test.YtmpjoepfgfbjmaaGreatDoorMixHoldsP10
import Derived.Test.YtmpjoepfgfbjmaaGreatDoorMixHoldsP8
import Derived.Test.YtmpjoepfgfbjmaaGreatDoorMixHoldsP6
import Derived.Deep.CutRange
import Derived.Deep.CutBlock
import Derived.Test.YtmpjoepfgfbjmaaGreatDoorRows
import Derived.WalkSpells
import Derived.Below
import Derived.WalkKit
import Derived.LaidEql
import Derived.Stop.Asserts
import Derived.RowKitTokens
/- What raillaw2.has answers: is a fate in a list? A contract for the walks above it. -/
namespace Go.Proofs.YtmpjoepfgfbjmaaGreatDoor
open Go.RowKit
set_option linter.unusedSimpArgs false
set_option linter.unusedVariables false

theorem FTs.len {w : World} {ao : Option Addr} {n cap : Nat} {L : List Ft} (h : FTs w (.slice ao n cap) L) : L.length = n := by
  obtain ⟨Z, h1, h2, _⟩ := h
  rw [← h2, List.length_map]
  exact h1.len
theorem FTs.form {w : World} {v : Value} {L : List Ft} (h : FTs w v L) : ∃ ao n cap, v = .slice ao n cap ∧ L.length = n ∧ n ≤ maxLen ∧ n ≤ cap := by
  obtain ⟨Z, h1, h2, _⟩ := id h
  obtain ⟨ao, n, cap, rfl, _, h4, h5, _⟩ := h1.form
  exact ⟨ao, n, cap, rfl, h.len, h4, h5⟩
/-- The k-th of a slice of fates. -/
theorem FTs.at {w : World} {ao : Option Addr} {n cap : Nat} {L : List Ft} (h : FTs w (.slice ao n cap) L) {k : Nat} (hk : k < n) : ∃ (g o : Nat) (x : Ft) (a3 : Option Addr) (n3 c3 : Nat), ao = some ⟨g, o, none⟩ ∧ L[k]? = some x ∧ w.cell? ⟨g, o + k * 3, none⟩ = some (.int .i64 x.1) ∧ w.cell? ⟨g, o + k * 3 + 1, none⟩ = some (.string x.2.1) ∧ w.cell? ⟨g, o + k * 3 + 2, none⟩ = some (.slice a3 n3 c3) ∧ GS hopE w (.slice a3 n3 c3) x.2.2 := by
  obtain ⟨Z, h1, h2, h3⟩ := h
  obtain ⟨_, _, _, e, hn, _, _, ha⟩ := h1.form
  cases e
  obtain ⟨g, o, rfl, hG, _⟩ := ha (by omega)
  have hkZ : k < Z.length := by omega
  have hv := hG k hkZ
  refine ⟨g, o, Z[k].1, Z[k].2.1, Z[k].2.2.1, Z[k].2.2.2, rfl, ?_, hv 0 _ rfl, hv 1 _ rfl, hv 2 _ rfl, h3 _ (List.getElem_mem hkZ)⟩
  rw [← h2, List.getElem?_map, List.getElem?_eq_getElem hkZ]
  rfl
def CHs (wr : World) (g q : Nat) (x : Ft) (a3 : Option Addr) (n3 c3 : Nat) (f : Nat) (y : Ft) (a4 : Option Addr) (n4 c4 : Nat) (w' : World) : Prop :=
  Below wr.heap.size wr w' ∧ w'.cell? ⟨g, q, none⟩ = some (.int .i64 x.1) ∧ w'.cell? ⟨g, q + 1, none⟩ = some (.string x.2.1) ∧ w'.cell? ⟨g, q + 2, none⟩ = some (.slice a3 n3 c3) ∧ w'.cell? ⟨f, 0, none⟩ = some (.int .i64 y.1) ∧ w'.cell? ⟨f, 1, none⟩ = some (.string y.2.1) ∧ w'.cell? ⟨f, 2, none⟩ = some (.slice a4 n4 c4) ∧ GS hopE w' (.slice a3 n3 c3) x.2.2 ∧ GS hopE w' (.slice a4 n4 c4) y.2.2
theorem CHs.later {wr W W' : World} {g q : Nat} {x : Ft} {a3 : Option Addr} {n3 c3 : Nat} {f : Nat} {y : Ft} {a4 : Option Addr} {n4 c4 : Nat} (hb : Below W.heap.size W W') (h : CHs wr g q x a3 n3 c3 f y a4 n4 c4 W) : CHs wr g q x a3 n3 c3 f y a4 n4 c4 W' := by
  obtain ⟨h0, h1, h2, h3, h4, h5, h6, h7, h8⟩ := h
  exact ⟨h0.trans (hb.mono h0.size), cell_later hb h1, cell_later hb h2, cell_later hb h3, cell_later hb h4, cell_later hb h5, cell_later hb h6, h7.later hb, h8.later hb⟩
set_option maxHeartbeats 2000000 in
set_option maxRecDepth 100000 in
theorem has_all (ao : Option Addr) (n c : Nat) (y : Ft) (a4 : Option Addr) (n4 c4 : Nat) (L : List Ft) (w : World) (h1 : FTs w (.slice ao n c) L) (h2 : GS hopE w (.slice a4 n4 c4) y.2.2) (hs : ∀ x ∈ L, x.2.2.length ≤ 1000) :
    Calls Tryz.prog 21 #[.slice ao n c, .agg #[.int .i64 y.1, .string y.2.1, .slice a4 n4 c4]] w fun e w' => e = .returned (.bool (L.any fun x => fqB x y)) ∧ Below w.heap.size w w' := by
  have hn := h1.len
  obtain ⟨_, _, _, e1, _, hn2, _⟩ := h1.form
  cases e1
  have HX : Hid (L.length = n) := hn
  have HS : Hid (∀ x ∈ L, x.2.2.length ≤ 1000) := hs
  have hb0 : Below w.heap.size w (w.alloc (Obj.cells #[.int .i64 y.1, .string y.2.1, .slice a4 n4 c4] 68)) := (Below.refl _ _).alloc (Nat.le_refl _) _
  have HA : Hid (∀ W, Below (w.alloc (Obj.cells #[.int .i64 y.1, .string y.2.1, .slice a4 n4 c4] 68)).heap.size (w.alloc (Obj.cells #[.int .i64 y.1, .string y.2.1, .slice a4 n4 c4] 68)) W → FTs W (.slice ao n c) L ∧ GS hopE W (.slice a4 n4 c4) y.2.2 ∧ VAt W w.heap.size 0 [.int .i64 y.1, .string y.2.1, .slice a4 n4 c4]) := fun W hb => ⟨(h1.later hb0).later hb, (h2.later hb0).later hb, (vat_new w [.int .i64 y.1, .string y.2.1, .slice a4 n4 c4] 68).later hb⟩
  obtain ⟨w0, hw0⟩ : ∃ W, w.alloc (Obj.cells #[.int .i64 y.1, .string y.2.1, .slice a4 n4 c4] 68) = W := ⟨_, rfl⟩
  have HW0 : Hid (w.alloc (Obj.cells #[.int .i64 y.1, .string y.2.1, .slice a4 n4 c4] 68) = w0) := hw0
  rw [hw0] at HA hb0
  have HB0 : Hid (Below w.heap.size w w0) := hb0
  unfold maxLen at hn2
  obtain ⟨R, hR⟩ : ∃ R, R = L.any fun x => fqB x y := ⟨_, rfl⟩
  have HR : Hid (R = L.any fun x => fqB x y) := hR
  rw [← hR]
  clear hn h1 h2 hs hb0 hw0 hR
  go_enter Tryz.func21, Tryz.ntmps21
  go_wp2_with fail
  rw [HW0.out]
  clear HW0
  go_loopw [5] (fun i wr => ∃ k : Nat, k ≤ n ∧ i = .int .i64 k ∧ (L.take k).any (fun x => fqB x y) = false ∧ Below w0.heap.size w0 wr) (fun i _ => n - (intOf i).toNat)
  case atStart => exact ⟨0, by omega, rfl, rfl, Below.refl _ _⟩
  case round =>
    obtain ⟨k, hk, rfl, hno, hB⟩ := hrel
    have HB : Hid (Below w0.heap.size w0 wr) := hB
    have HNO : Hid ((L.take k).any (fun x => fqB x y) = false) := hno
    clear hno
    by_cases hlt : k < n
    · obtain ⟨hF, hG, hV⟩ := HA.out wr hB
      obtain ⟨g, o, x, a3, n3, c3, hao, hx, r0, r1, r2, hG3⟩ := hF.at hlt
      subst hao
      have HSX : Hid (x.2.2.length ≤ 1000) := HS.out x (List.mem_of_getElem? hx)
      have HXK : Hid (L[k]? = some x) := hx
      have HCL : Hid (CHs wr g (o + k * 3) x a3 n3 c3 w.heap.size y a4 n4 c4 wr) := ⟨Below.refl _ _, r0, r1, r2, hV 0 _ rfl, hV 1 _ rfl, hV 2 _ rfl, hG3, hG⟩
      have kb0 : (0 : Int) ≤ (k : Int) := by omega
      have kb1 : (k : Int) < (n : Int) := by omega
      clear hB r0 r1 r2 hG3 hx hF hG hV
      go_upto_region 4 with fail
      go_cut [6] from 13 to 19 (fun c w' => c = .bool (fqB x y) ∧ Below wr.heap.size wr w')
      case first =>
        as_aux_lemma =>
          refine wp_region_quiet (C := CHs wr g (o + k * 3) x a3 n3 c3 w.heap.size y a4 n4 c4) (by kernel_rfl) (by kernel_rfl) (CHs.later (W := wr) (Below.drew (Below.refl _ _)) HCL.out) ?_
          simp only [List.toList_toArray]
          go_big_quiet_want
          refine quiet_val (v := .slice (some ⟨g, o, none⟩) n c) (fun w' hC => ?_) ?_
          · obtain ⟨z0, z1, z2, z3, z4, z5, z6, z7, z8⟩ := hC
            go_simp
          simp only [Act.put, List.setIfInBounds_toArray, List.set_cons_zero, List.set_cons_succ]
          go_big_quiet_on
          go_big_quiet_want
          refine quiet_val (v := .int .i64 (k : Int)) (fun w' hC => ?_) ?_
          · obtain ⟨z0, z1, z2, z3, z4, z5, z6, z7, z8⟩ := hC
            go_simp
          simp only [Act.put, List.setIfInBounds_toArray, List.set_cons_zero, List.set_cons_succ]
          go_big_quiet_on
          go_big_quiet_want
          refine quiet_val (v := .pointer (some ⟨g, o + k * 3, none⟩)) (fun w' hC => ?_) ?_
          · obtain ⟨z0, z1, z2, z3, z4, z5, z6, z7, z8⟩ := hC
            go_simp
          simp only [Act.put, List.setIfInBounds_toArray, List.set_cons_zero, List.set_cons_succ]
          go_big_quiet_on
          go_big_quiet_want
          refine quiet_val (v := .agg #[.int .i64 x.1, .string x.2.1, .slice a3 n3 c3]) (fun w' hC => ?_) ?_
          · obtain ⟨z0, z1, z2, z3, z4, z5, z6, z7, z8⟩ := hC
            go_simp
          simp only [Act.put, List.setIfInBounds_toArray, List.set_cons_zero, List.set_cons_succ]
          go_big_quiet_on
          go_big_quiet_want
          refine quiet_val (v := .agg #[.int .i64 y.1, .string y.2.1, .slice a4 n4 c4]) (fun w' hC => ?_) ?_
          · obtain ⟨z0, z1, z2, z3, z4, z5, z6, z7, z8⟩ := hC
            go_simp
          simp only [Act.put, List.setIfInBounds_toArray, List.set_cons_zero, List.set_cons_succ]
          go_big_quiet_on
          go_big_quiet_want
          refine quiet_call (f := 22) (args := #[.agg #[.int .i64 x.1, .string x.2.1, .slice a3 n3 c3], .agg #[.int .i64 y.1, .string y.2.1, .slice a4 n4 c4]]) (v := .bool (fqB x y)) (fun w' => ?_) (fun w' hC => (fate_all x.1 x.2.1 a3 n3 c3 y.1 y.2.1 a4 n4 c4 x.2.2 y.2.2 w' HSX.out hC.2.2.2.2.2.2.2.1 hC.2.2.2.2.2.2.2.2).mono (fun e w2 h2 => ⟨by rw [h2.1], CHs.later h2.2 hC⟩)) ?_
          · go_simp
          simp only [Act.put, List.setIfInBounds_toArray, List.set_cons_zero, List.set_cons_succ]
          go_big_quiet_on
          go_big_quiet_want
          refine quiet_val (v := .bool (fqB x y)) (fun w' hC => ?_) ?_
          · obtain ⟨z0, z1, z2, z3, z4, z5, z6, z7, z8⟩ := hC
            go_simp
          simp only [Act.put, List.setIfInBounds_toArray, List.set_cons_zero, List.set_cons_succ]
          go_big_quiet_on
          refine wpQuiet_nil ?_
          intro w' hC
          go_wp2_with fail
          go_meet
          case rel => exact ⟨rfl, hC.1⟩
      case rest =>
        obtain ⟨rfl, hB2⟩ := hcut
        have HB2 : Hid (Below w0.heap.size w0 wc) := HB.out.trans (hB2.mono HB.out.size)
        have hkl : k < L.length := by rw [HX.out]; exact hlt
        have hxk : L[k] = x := by
          have := HXK.out
          rw [List.getElem?_eq_getElem hkl] at this
          injection this
        clear HCL hB2
        cases hoo : fqB x y
        · have HN2 : Hid ((L.take (k + 1)).any (fun x => fqB x y) = false) := any_nextG hkl HNO.out (by rw [hxk]; exact hoo)
          go_wp2
          go_roundw
          case rel => exact ⟨k + 1, by omega, by go_num, HN2.out, HB2.out⟩
          case measure => simp [intOf]; omega
        · have HRT : Hid (R = true) := by
            show R = true
            rw [HR.out]
            exact any_hitG hkl (by rw [hxk]; exact hoo)
          go_wp2
          go_ret
          exact ⟨by rw [HRT.out]; rfl, HB0.out.trans (HB2.out.mono HB0.out.size)⟩
    · obtain rfl : k = n := by omega
      have HRF : Hid (R = false) := by
        show R = false
        rw [HR.out]
        have := HNO.out
        rwa [← HX.out, List.take_length] at this
      clear hB
      go_wp2
      go_ret
      exact ⟨by rw [HRF.out]; rfl, HB0.out.trans (HB.out.mono HB0.out.size)⟩
end Go.Proofs.YtmpjoepfgfbjmaaGreatDoor
/- What the laws ask of wishes: plain lists. No program in it. -/
namespace Go.Proofs.YtmpjoepfgfbjmaaGreatDoor
open Go.RowKit
set_option linter.unusedVariables false

section
variable {S : Int}
theorem lk_9 : ∀ (Ls : List ((Int × Int) × (Int × Int))) (U : List (Int × Int)), lkN S Ls U ≠ 9
  | [], _ => by simp [lkN]
  | l :: Ls, U => by
    unfold lkN
    split
    · split
      · decide
      · exact lk_9 Ls _
    · decide
theorem hs_9 : ∀ (Hs : List (ByteArray × (Int × Int))) (N : List ByteArray) (U : List (Int × Int)), hoN S Hs N U ≠ 9
  | [], _, _ => by simp [hoN]
  | h :: Hs, N, U => by
    unfold hoN
    split
    · split
      · split
        · decide
        · exact hs_9 Hs _ _
      · decide
    · decide
variable {Ls : List ((Int × Int) × (Int × Int))} {Hs : List (ByteArray × (Int × Int))} {Ts : List (List Ru)} {l : List Wi}
theorem tp_9 : tpN S Ls Hs ≠ 9 := by
  unfold tpN
  split
  · split
    · split
      · exact hs_9 _ _ _
      · exact lk_9 _ _
    · decide
  · decide
theorem tt_9 (L : List Ru) : ∀ k, tbTo L k ≠ 9
  | 0 => by simp [tbTo]
  | k + 1 => by
    unfold tbTo
    have h := ruN_bd (L.getD k zeR).p (L.getD k zeR).m (L.getD k zeR).b (L.getD k zeR).o (L.getD k zeR).s (L.getD k zeR).v
    have e : (L.getD k zeR).n = ruN (L.getD k zeR).p (L.getD k zeR).m (L.getD k zeR).b (L.getD k zeR).o (L.getD k zeR).s (L.getD k zeR).v := rfl
    rw [← e] at h
    split
    · split
      · split <;> decide
      · omega
    · exact tt_9 L k
theorem tb_9 (L : List Ru) : tbN L ≠ 9 := by
  unfold tbN
  split
  · decide
  · exact tt_9 L _
theorem ts_9 : ∀ k, tsTo Ts k ≠ 9
  | 0 => by simp [tsTo]
  | k + 1 => by
    unfold tsTo
    split
    · exact tb_9 _
    · exact ts_9 k
theorem nt_9 : ntN S Ls Hs Ts ≠ 9 := by
  unfold ntN
  split
  · split
    · exact ts_9 _
    · decide
  · exact tp_9
theorem wo_9 (w : Wi) : woN S Hs w ≠ 9 := by
  unfold woN
  split
  · decide
  · split
    · split <;> decide
    · split <;> decide
theorem wt_9 : ∀ k, wsTo S Hs l k ≠ 9
  | 0 => by simp [wsTo]
  | k + 1 => by
    unfold wsTo
    split
    · exact wo_9 _
    · exact wt_9 k
theorem ws_9 : wsN S Ls Hs l ≠ 9 := by
  unfold wsN
  split
  · split
    · decide
    · exact wt_9 _
  · exact tp_9
theorem wi_9 (h : wiN S Ls Hs Ts l = 9) : ntN S Ls Hs Ts = 0 ∧ wsN S Ls Hs l = 0 ∧ ∃ p, brW Ls Hs Ts l Hs l.length = some p := by
  unfold wiN at h
  by_cases h1 : ntN S Ls Hs Ts = 0
  · rw [if_pos h1] at h
    by_cases h2 : wsN S Ls Hs l = 0
    · rw [if_pos h2] at h
      refine ⟨h1, h2, ?_⟩
      cases e : brW Ls Hs Ts l Hs l.length with
      | some p => exact ⟨p, rfl⟩
      | none => rw [e] at h; simp at h
    · rw [if_neg h2] at h
      exact absurd h ws_9
  · rw [if_neg h1] at h
    exact absurd h nt_9
theorem wi_0 (h : wiN S Ls Hs Ts l = 0) : ntN S Ls Hs Ts = 0 ∧ wsN S Ls Hs l = 0 ∧ brW Ls Hs Ts l Hs l.length = none := by
  unfold wiN at h
  by_cases h1 : ntN S Ls Hs Ts = 0
  · rw [if_pos h1] at h
    by_cases h2 : wsN S Ls Hs l = 0
    · rw [if_pos h2] at h
      refine ⟨h1, h2, ?_⟩
      cases e : brW Ls Hs Ts l Hs l.length with
      | none => rfl
      | some p => rw [e] at h; simp at h
    · rw [if_neg h2] at h
      exact absurd h h2
  · rw [if_neg h1] at h
    exact absurd h h1
theorem where_mem : ∀ {Hs : List (ByteArray × (Int × Int))}, (Hs.map (·.1)).Nodup → ∀ x ∈ Hs, whereO Hs x.1 = some x.2
  | [], _, x, hx => by cases hx
  | y :: Hs, hn, x, hx => by
    simp only [List.map_cons, List.nodup_cons] at hn
    unfold whereO
    rcases List.mem_cons.1 hx with rfl | hm
    · rw [if_pos (ba_eq.2 rfl)]
    · rw [if_neg]
      · exact where_mem hn.2 x hm
      · intro e
        refine hn.1 ?_
        rw [ba_eq.1 e]
        exact List.mem_map_of_mem hm
theorem se_of (hn : ntN S Ls Hs Ts = 0) {x : ByteArray × (Int × Int)} (hx : x ∈ Hs) {h : Int} (hh : hdrB h = true) : seN S Ls Hs Ts x.1 h = 0 ∧ seV S Ls Hs Ts x.1 h = frF Ls Hs Ts x.2 h := by
  have ht := (nt_0 hn).1
  have hw := where_mem (tp_0 ht).2.2.2.2.2.1 x hx
  have e1 : weN S Ls Hs x.1 = 0 := by rw [weN, if_pos ht, hw]; rfl
  have e2 : weV S Ls Hs x.1 = x.2 := by rw [weV, if_pos e1, hw]; rfl
  have e3 : seN S Ls Hs Ts x.1 h = 0 := by rw [seN, if_pos hn, if_pos e1, hh]; rfl
  exact ⟨e3, by rw [seV, if_pos e3, e2]⟩
theorem se_0 {m : ByteArray} {h : Int} (hs : seN S Ls Hs Ts m h = 0) : ntN S Ls Hs Ts = 0 ∧ hdrB h = true ∧ (m, weV S Ls Hs m) ∈ Hs ∧ seV S Ls Hs Ts m h = frF Ls Hs Ts (weV S Ls Hs m) h := by
  have hs2 := hs
  unfold seN at hs
  by_cases h1 : ntN S Ls Hs Ts = 0
  · rw [if_pos h1] at hs
    by_cases h2 : weN S Ls Hs m = 0
    · rw [if_pos h2] at hs
      have h2' := h2
      rw [weN, if_pos (nt_0 h1).1] at h2'
      cases h3 : hdrB h with
      | false => rw [h3] at hs; simp at hs
      | true =>
        refine ⟨h1, rfl, ?_, by rw [seV, if_pos hs2]⟩
        rw [weV, if_pos h2]
        cases hw : whereO Hs m with
        | none => rw [hw] at h2'; simp at h2'
        | some p => exact where_in hw
    · rw [if_neg h2] at hs
      exact absurd hs h2
  · rw [if_neg h1] at hs
    exact absurd hs h1
theorem hd_of {h : Int} (h0 : 0 ≤ h) (h1 : h < 16) : hdrB h = true := by
  obtain ⟨k, rfl⟩ : ∃ k : Nat, h = (k : Int) := ⟨h.toNat, by omega⟩
  have : ∀ f : Fin 16, hdrB ((f : Nat) : Int) = true := by decide +kernel
  exact this ⟨k, by omega⟩
theorem hd_in {h : Int} (hh : hdrB h = true) : ∃ k : Nat, h = (k : Int) ∧ k < 16 := by
  obtain ⟨h', rfl⟩ := small (hdr_of hh)
  exact ⟨h'.val, rfl, h'.isLt⟩
/-- What it names was sent, and breaks the wish it names. -/
theorem wish_shown (h : wiN S Ls Hs Ts l = 9) : ∃ i : Nat, i < l.length ∧ (wiV S Ls Hs Ts l).1 = (i : Int) ∧ seN S Ls Hs Ts (wiV S Ls Hs Ts l).2.1 (wiV S Ls Hs Ts l).2.2 = 0 ∧ fiB (l.getD i zeW) (wiV S Ls Hs Ts l).2.1 (seV S Ls Hs Ts (wiV S Ls Hs Ts l).2.1 (wiV S Ls Hs Ts l).2.2) = false := by
  obtain ⟨h1, h2, p, h3⟩ := wi_9 h
  obtain ⟨g1, g2, g3, g4, g5⟩ := brW_some h3
  have e : wiV S Ls Hs Ts l = ((p.1 : Int), (Hs.getD p.2.1 zeO).1, p.2.2) := by
    rw [wiV, if_pos ⟨h1, h2⟩, h3]
    rfl
  have hm : Hs.getD p.2.1 zeO ∈ Hs := by
    rw [getO g2]
    exact List.getElem_mem g2
  obtain ⟨k1, k2⟩ := se_of h1 hm (hd_of g3 g4)
  refine ⟨p.1, g1, by rw [e], by rw [e]; exact k1, ?_⟩
  rw [e]
  simp only
  rw [k2]
  simpa [brB] using g5
/-- Where they hold whatever is sent fits. -/
theorem wish_all (h : wiN S Ls Hs Ts l = 0) {m : ByteArray} {a : Int} (hs : seN S Ls Hs Ts m a = 0) : ∀ i : Nat, i < l.length → fiB (l.getD i zeW) m (seV S Ls Hs Ts m a) = true := by
  intro i hi
  obtain ⟨h1, h2, h3⟩ := wi_0 h
  obtain ⟨g1, g2, g3, g4⟩ := se_0 hs
  obtain ⟨k, rfl, hk⟩ := hd_in g2
  obtain ⟨j, hj, e⟩ := List.getElem_of_mem g3
  have := brW_none h3 i hi j hj k hk
  rw [getO hj, e] at this
  rw [g4]
  simpa [brB] using this
theorem one_at (w : Wi) : [w].getD 0 zeW = w := rfl
/-- Not both. -/
theorem wish_both {f t : ByteArray} (h1 : wiN S Ls Hs Ts [⟨1, f, t, 0⟩] = 0) (h2 : wiN S Ls Hs Ts [⟨2, f, t, 0⟩] = 0) : False := by
  obtain ⟨g1, g2, g3⟩ := wi_0 h1
  obtain ⟨_, _, k3⟩ := wi_0 h2
  have ht := (nt_0 g1).1
  have hw : woN S Hs ⟨1, f, t, 0⟩ = 0 := by
    rw [wsN, if_pos ht, if_neg (by simp)] at g2
    exact ws_0 (n := 1) g2 0 (by omega)
  have hf : hoB Hs f = true := by
    unfold woN at hw
    split at hw
    · cases hw
    · rw [if_neg (by simp)] at hw
      split at hw
      · next e => rw [Bool.and_eq_true] at e; exact e.1
      · cases hw
  obtain ⟨x, hx, e⟩ := List.any_eq_true.1 hf
  have e := ba_eq.1 e
  obtain ⟨j, hj, ej⟩ := List.getElem_of_mem hx
  have a1 := brW_none g3 0 (by simp) j hj 0 (by omega)
  have a2 := brW_none k3 0 (by simp) j hj 0 (by omega)
  rw [getO hj, ej, one_at] at a1 a2
  have ab1 : abW ⟨1, f, t, 0⟩ x.1 = true := by rw [abW, e]; simp [ba_eq.2 rfl]
  have ab2 : abW ⟨2, f, t, 0⟩ x.1 = true := by rw [abW, e]; simp [ba_eq.2 rfl]
  have b1 : fiB ⟨1, f, t, 0⟩ x.1 (frF Ls Hs Ts x.2 ((0 : Nat) : Int)) = true := by simpa [brB] using a1
  have b2 : fiB ⟨2, f, t, 0⟩ x.1 (frF Ls Hs Ts x.2 ((0 : Nat) : Int)) = true := by simpa [brB] using a2
  rw [fiB, if_pos ab1, if_pos rfl] at b1
  rw [fiB, if_pos ab2, if_neg (by simp), if_pos rfl] at b2
  have e3 : thW ⟨1, f, t, 0⟩ (frF Ls Hs Ts x.2 ((0 : Nat) : Int)) = thW ⟨2, f, t, 0⟩ (frF Ls Hs Ts x.2 ((0 : Nat) : Int)) := rfl
  rw [← e3, b1] at b2
  cases b2
/-- The first hop is where it was sent. -/
theorem fr_first (s : Int × Int) (h : Int) : haW s.1 (frF Ls Hs Ts s h).2.2 = true := by
  have hch : ChH Ls Hs Ts [(s, h)] := fun i hi => by simp at hi
  obtain ⟨rest, e1, _⟩ := fo_spec (Ls := Ls) (Hs := Hs) (Ts := Ts) 24 [(s, h)] (by simp) (by simp) (by omega) (by simp) hch
  unfold frF haW
  rw [e1]
  simp
/-- A way by the host's own switch. -/
theorem wish_way {f t : ByteArray} (hw : weN S Ls Hs f = 0) : wiN S Ls Hs Ts [⟨3, f, t, (weV S Ls Hs f).1⟩] ≠ 9 := by
  intro h
  obtain ⟨h1, h2, p, h3⟩ := wi_9 h
  obtain ⟨g1, g2, g3, g4, g5⟩ := brW_some h3
  have ht := (nt_0 h1).1
  have e0 : p.1 = 0 := by simp at g1; omega
  rw [e0, one_at] at g5
  have hm : Hs.getD p.2.1 zeO ∈ Hs := by
    rw [getO g2]
    exact List.getElem_mem g2
  have hx := where_mem (tp_0 ht).2.2.2.2.2.1 _ hm
  generalize Hs.getD p.2.1 zeO = x at g5 hm hx
  have g6 : fiB ⟨3, f, t, (weV S Ls Hs f).1⟩ x.1 (frF Ls Hs Ts x.2 p.2.2) = false := by simpa [brB] using g5
  unfold fiB at g6
  split at g6
  · next ab =>
    have e : f = x.1 := by
      simpa [abW, ba_eq] using ab
    have ev : (weV S Ls Hs f).1 = x.2.1 := by
      rw [weV, if_pos hw, e, hx]
      rfl
    rw [if_neg (by simp), if_neg (by simp), if_pos rfl] at g6
    simp only [ev] at g6
    rw [fr_first, Bool.or_true] at g6
    cases g6
  · cases g6
end
/-- The fact that is tried first. -/
theorem wish_one : wiN 1 [] [(⟨#[97]⟩, (1, 2))] [[]] [⟨1, ⟨#[97]⟩, ⟨#[97]⟩, 0⟩] = 9 ∧ (wiV 1 [] [(⟨#[97]⟩, (1, 2))] [[]] [⟨1, ⟨#[97]⟩, ⟨#[97]⟩, 0⟩]).2.1.data = #[97] ∧ (wiV 1 [] [(⟨#[97]⟩, (1, 2))] [[]] [⟨1, ⟨#[97]⟩, ⟨#[97]⟩, 0⟩]).2.2 = 0 := by decide +kernel
theorem clash_one (f t : ByteArray) : fiB ⟨1, f, t, 0⟩ f (1, t, []) = true ∧ fiB ⟨2, f, t, 0⟩ f (1, t, []) = false := by
  have ab1 : abW ⟨1, f, t, 0⟩ f = true := by rw [abW]; simp [ba_eq.2 rfl]
  have ab2 : abW ⟨2, f, t, 0⟩ f = true := by rw [abW]; simp [ba_eq.2 rfl]
  have h1 : thW ⟨1, f, t, 0⟩ (1, t, []) = true := by rw [thW]; simp [ba_eq.2 rfl]
  have h2 : thW ⟨2, f, t, 0⟩ (1, t, []) = true := by rw [thW]; simp [ba_eq.2 rfl]
  rw [fiB, if_pos ab1, if_pos rfl, h1, fiB, if_pos ab2, if_neg (by simp), if_pos rfl, h2]
  exact ⟨rfl, rfl⟩
end Go.Proofs.YtmpjoepfgfbjmaaGreatDoor
/- While it changes, ahead and behind: what may be seen, and which wishes hold then. No program in it. -/
namespace Go.Proofs.YtmpjoepfgfbjmaaGreatDoor
open Go.RowKit
set_option linter.unusedSimpArgs false
set_option linter.unusedVariables false
section
variable {S : Int} {Ls : List ((Int × Int) × (Int × Int))} {Hs : List (ByteArray × (Int × Int))} {Ts : List (List Ru)} {o : List Op8} {m : ByteArray} {h : Int}
theorem sn_parts (h0 : snN S Ls Hs Ts o m h = 0) : cgN S Ls Hs Ts o = 0 ∧ weN S Ls Hs m = 0 ∧ hdrB h = true := by
  by_cases e1 : cgN S Ls Hs Ts o = 0
  · by_cases e2 : weN S Ls Hs m = 0
    · cases e3 : hdrB h
      · rw [(sn_3 e1 e2 e3).1] at h0; cases h0
      · exact ⟨e1, e2, rfl⟩
    · rw [(sn_2 e1 e2).1] at h0
      exact absurd h0 e2
  · rw [(sn_1 e1).1] at h0
    exact absurd h0 e1
theorem se_ok {Us : List (List Ru)} (h1 : ntN S Ls Hs Us = 0) (h2 : weN S Ls Hs m = 0) (h3 : hdrB h = true) : seN S Ls Hs Us m h = 0 ∧ seV S Ls Hs Us m h = frF Ls Hs Us (weV S Ls Hs m) h := by
  have e4 : seN S Ls Hs Us m h = 0 := by
    unfold seN
    rw [if_pos h1, if_pos h2, h3]
    rfl
  exact ⟨e4, by unfold seV; rw [if_pos e4]⟩
/-- Tables, some of them new. -/
def mxT (As Bs : List (List Ru)) (D : List Bool) : List (List Ru) := (List.range As.length).map fun i => if D.getD i false = true then Bs.getD i [] else As.getD i []
theorem mx_len (As Bs : List (List Ru)) (D : List Bool) : (mxT As Bs D).length = As.length := by simp [mxT]
theorem mx_get {As Bs : List (List Ru)} {D : List Bool} (hl : Bs.length = As.length) (i : Nat) : (mxT As Bs D).getD i [] = if D.getD i false = true then Bs.getD i [] else As.getD i [] := by
  by_cases hi : i < As.length
  · rw [List.getD_eq_getElem?_getD]
    simp [mxT, hi]
  · have e1 : (mxT As Bs D).getD i [] = [] := by rw [List.getD_eq_getElem?_getD, List.getElem?_eq_none (by rw [mx_len]; omega)]; rfl
    have e2 : As.getD i [] = [] := by rw [List.getD_eq_getElem?_getD, List.getElem?_eq_none (by omega)]; rfl
    have e3 : Bs.getD i [] = [] := by rw [List.getD_eq_getElem?_getD, List.getElem?_eq_none (by omega)]; rfl
    rw [e1, e2, e3]
    simp
theorem nt_mx (h0 : cgN S Ls Hs Ts o = 0) (D : List Bool) : ntN S Ls Hs (mxT Ts (caT Ts o) D) = 0 := by
  obtain ⟨h1, h2⟩ := cg_nt h0
  obtain ⟨a1, a2, a3⟩ := nt_0 h1
  obtain ⟨_, _, b3⟩ := nt_0 (nt_ca h1 h2)
  refine nt_of a1 (by rw [mx_len]; exact a2) ?_
  intro L hL
  obtain ⟨i, hi, rfl⟩ := List.getElem_of_mem hL
  have hi2 : i < Ts.length := by rw [mx_len] at hi; exact hi
  have e : (mxT Ts (caT Ts o) D)[i] = (mxT Ts (caT Ts o) D).getD i [] := by simp [List.getD, hi]
  rw [e, mx_get (ca_len _ _)]
  split
  · exact b3 i (by rw [ca_len]; exact hi2)
  · exact a3 i hi2
/-- Whatever tables are new: what becomes of a packet then may be seen. -/
theorem see_mx (h0 : cgN S Ls Hs Ts o = 0) (D : List Bool) (s : Int × Int) (k : Int) : frF Ls Hs (mxT Ts (caT Ts o) D) s k ∈ seeL Ls Hs Ts (caT Ts o) s k := by
  obtain ⟨_, _, hA, hB⟩ := cg_ok h0
  exact see_fix (new := fun t => D.getD (t - 1).toNat false) (fun t => mx_get (ca_len _ _) _) (fun t ht l p => go_alike hA hB t ht l p) s k
theorem see_old (h0 : cgN S Ls Hs Ts o = 0) (s : Int × Int) (k : Int) : frF Ls Hs Ts s k ∈ seeL Ls Hs Ts (caT Ts o) s k := by
  obtain ⟨_, _, hA, hB⟩ := cg_ok h0
  exact see_fix (new := fun t => false) (fun t => rfl) (fun t ht l p => go_alike hA hB t ht l p) s k
theorem see_new (h0 : cgN S Ls Hs Ts o = 0) (s : Int × Int) (k : Int) : frF Ls Hs (caT Ts o) s k ∈ seeL Ls Hs Ts (caT Ts o) s k := by
  obtain ⟨_, _, hA, hB⟩ := cg_ok h0
  exact see_fix (new := fun t => true) (fun t => rfl) (fun t ht l p => go_alike hA hB t ht l p) s k
/-- One and the next one are not the same. -/
theorem see_ne {As Bs : List (List Ru)} (s : Int × Int) (k : Int) {i : Nat} {x y : Int × ByteArray × List ((Int × Int) × Int)} (hx : (seeL Ls Hs As Bs s k)[i]? = some x) (hy : (seeL Ls Hs As Bs s k)[i + 1]? = some y) : x ≠ y := by
  have h := see_ris (Ls := Ls) (Hs := Hs) (As := As) (Bs := Bs) s k
  unfold Ris at h
  rw [List.pairwise_iff_getElem] at h
  obtain ⟨h1, rfl⟩ := List.getElem?_eq_some_iff.1 hx
  obtain ⟨h2, rfl⟩ := List.getElem?_eq_some_iff.1 hy
  intro e
  have := h i (i + 1) h1 h2 (by omega)
  rw [e, lo_fate.irr] at this
  cases this
/-- The host of a name. -/
theorem we_host (ht : tpN S Ls Hs = 0) (h2 : weN S Ls Hs m = 0) : ∃ z, z < Hs.length ∧ (Hs.getD z zeO).1 = m ∧ weV S Ls Hs m = (Hs.getD z zeO).2 := by
  rcases where_ix Hs m with ⟨_, e⟩ | ⟨k, hk, e1, e2⟩
  · unfold weN at h2
    rw [if_pos ht, e] at h2
    cases h2
  · refine ⟨k, hk, ?_, ?_⟩
    · rcases ixG_cases (fun h : ByteArray × (Int × Int) => h.1 == m) Hs with ⟨e3, _⟩ | ⟨j, hj, e3, e4, _⟩
      · omega
      · obtain rfl : j = k := by omega
        rw [getO hj]
        exact ba_eq.1 e4
    · unfold weV
      rw [if_pos h2, e2, getO hk]
      rfl
theorem we_of (ht : tpN S Ls Hs = 0) {z : Nat} (hz : z < Hs.length) : weN S Ls Hs (Hs.getD z zeO).1 = 0 ∧ weV S Ls Hs (Hs.getD z zeO).1 = (Hs.getD z zeO).2 := by
  have hnd := (tp_0 ht).2.2.2.2.2.1
  rcases where_ix Hs (Hs.getD z zeO).1 with ⟨e0, _⟩ | ⟨k, hk, e1, e2⟩
  · exfalso
    rcases ixG_cases (fun h : ByteArray × (Int × Int) => h.1 == (Hs.getD z zeO).1) Hs with ⟨_, e4⟩ | ⟨j, hj, e3, _⟩
    · rw [List.any_eq_false] at e4
      have := e4 Hs[z] (List.getElem_mem hz)
      rw [getO hz] at this
      exact this (ba_eq.2 rfl)
    · omega
  · have hzk : k = z := by
      rcases ixG_cases (fun h : ByteArray × (Int × Int) => h.1 == (Hs.getD z zeO).1) Hs with ⟨e3, _⟩ | ⟨j, hj, e3, e4, _⟩
      · omega
      · obtain rfl : j = k := by omega
        have e5 : Hs[j].1 = Hs[z].1 := by rw [← getO hz]; exact ba_eq.1 e4
        have h1 : (Hs.map (·.1))[j]'(by simpa using hj) = (Hs.map (·.1))[z]'(by simpa using hz) := by simpa using e5
        rw [List.Nodup, List.pairwise_iff_getElem] at hnd
        rcases Nat.lt_trichotomy j z with hlt | heq | hgt
        · exact absurd h1 (hnd j z _ _ hlt)
        · exact heq
        · exact absurd h1.symm (hnd z j _ _ hgt)
    subst hzk
    have h2 : weN S Ls Hs (Hs.getD k zeO).1 = 0 := by
      unfold weN
      rw [if_pos ht, e2]
      rfl
    refine ⟨h2, ?_⟩
    unfold weV
    rw [if_pos h2, e2, getO hk]
    rfl
variable {l : List Wi} {held : Nat} {p : Int × ByteArray × Int}
/-- Where all hold, all that is seen fits. -/
theorem fb_fits (h0 : snN S Ls Hs Ts o m h = 0) (f : Fb l Hs (fun z k => pwS Ls Hs Ts (caT Ts o) (Hs.getD z zeO).2 (k : Int)) Hs.length 0 held p) (hh : ¬ held < l.length) {i : Nat} (hi : i < l.length) {x : Int × ByteArray × List ((Int × Int) × Int)} (hx : x ∈ snL S Ls Hs Ts o m h) : fiB l[i] m x = true := by
  obtain ⟨e1, e2, e3⟩ := sn_parts h0
  obtain ⟨ht, hS, hA, hB⟩ := cg_ok e1
  rw [(sn_0 e1 e2 e3).2] at hx
  obtain ⟨z, hz, hm, hv⟩ := we_host ht e2
  have h16 : 0 ≤ h ∧ h < 16 := by unfold hdrB at e3; simpa using e3
  have hsp := we_sp ht e2
  have hbad := f.ok i (by have := f.le; omega) z h.toNat (by omega) (.inl hz)
  rw [show ((h.toNat : Nat) : Int) = h by omega, ← hv, hm, getW hi] at hbad
  unfold badF at hbad
  rw [List.any_eq_false] at hbad
  have := hbad x ((ps_mem ht hA hB hsp h x).2 hx)
  simpa using this
/-- A PROOF PROVES. -/
theorem fb_proves (e1 : cgN S Ls Hs Ts o = 0) (f : Fb l Hs (fun z k => pwS Ls Hs Ts (caT Ts o) (Hs.getD z zeO).2 (k : Int)) Hs.length 0 held p) (hh : held < l.length) : p.1 = (held : Int) ∧ snN S Ls Hs Ts o p.2.1 p.2.2 = 0 ∧ ∃ x ∈ snL S Ls Hs Ts o p.2.1 p.2.2, fiB l[held] p.2.1 x = false := by
  obtain ⟨z, k, hk, _, hz, rfl, hbad, _⟩ := f.tell hh
  obtain ⟨ht, hS, hA, hB⟩ := cg_ok e1
  obtain ⟨w1, w2⟩ := we_of (S := S) (Ls := Ls) ht hz
  have hd : hdrB (k : Int) = true := by unfold hdrB; simp; omega
  obtain ⟨s1, s2⟩ := sn_0 (l := o) e1 w1 hd
  refine ⟨rfl, s1, ?_⟩
  show ∃ x ∈ snL S Ls Hs Ts o (Hs.getD z zeO).1 (k : Int), fiB l[held] (Hs.getD z zeO).1 x = false
  rw [s2, w2]
  unfold badF at hbad
  rw [List.any_eq_true] at hbad
  obtain ⟨x, hx, hb⟩ := hbad
  have hsp := we_sp ht w1
  rw [w2] at hsp
  refine ⟨x, (ps_mem ht hA hB hsp (k : Int) x).1 hx, ?_⟩
  rw [getW hh] at hb
  simpa using hb
end
/-- The net of one switch. -/
theorem one_mix : snN 1 [] [(⟨#[97]⟩, (1, 2))] [[]] [⟨1, true, ⟨1, 0, 0, 2, 0, 0⟩⟩] ⟨#[97]⟩ 3 = 0 ∧ (snL 1 [] [(⟨#[97]⟩, (1, 2))] [[]] [⟨1, true, ⟨1, 0, 0, 2, 0, 0⟩⟩] ⟨#[97]⟩ 3).map (·.1) = [1, 2] := by decide +kernel
end Go.Proofs.YtmpjoepfgfbjmaaGreatDoor
/- What net.Send answers: a contract for the walks above it. -/
namespace Go.Proofs.YtmpjoepfgfbjmaaGreatDoor
open Go.RowKit
set_option linter.unusedSimpArgs false
set_option linter.unusedVariables false

/-- The boxes: a net, the answer's. -/
structure VBox (w W : World) (S : Int) (v1 v2 v3 : Value) : Prop where
  below : Below w.heap.size w W
  n : NeBox W w.heap.size S v1 v2 v3
  r0 : W.cell? ⟨w.heap.size + 1, 0, none⟩ = some (.int .i64 0)
  r1 : W.cell? ⟨w.heap.size + 1, 1, none⟩ = some (.string ⟨#[]⟩)
  r2 : W.cell? ⟨w.heap.size + 1, 2, none⟩ = some (.slice none 0 0)
  f : ∀ i, W.frozen? ⟨w.heap.size + 1, i, none⟩ = false
theorem vbox_new (w : World) (S : Int) (v1 v2 v3 : Value) : VBox w ((w.alloc (Obj.cells #[.int .i64 S, v1, v2, v3] 28)).alloc (Obj.cells #[.int .i64 0, .string ⟨#[]⟩, .slice none 0 0] 68)) S v1 v2 v3 := by
  have e1 : (w.alloc (Obj.cells #[.int .i64 S, v1, v2, v3] 28)).heap.size = w.heap.size + 1 := by simp
  have hb : ∀ (W : World) (o : Obj), Below W.heap.size W (W.alloc o) := fun W o => (Below.refl _ _).alloc (Nat.le_refl _) _
  have hn := (nebox_new w S v1 v2 v3 28).later (hb _ (Obj.cells #[.int .i64 0, .string ⟨#[]⟩, .slice none 0 0] 68))
  have hB := ((Below.refl w.heap.size w).alloc (Nat.le_refl _) (Obj.cells #[.int .i64 S, v1, v2, v3] 28)).alloc (by rw [e1]; omega) (Obj.cells #[.int .i64 0, .string ⟨#[]⟩, .slice none 0 0] 68)
  generalize w.alloc (Obj.cells #[.int .i64 S, v1, v2, v3] 28) = X at e1 hn hB
  have hr := vat_new X [.int .i64 0, .string ⟨#[]⟩, .slice none 0 0] 68
  have hf := froz_new2 X #[.int .i64 0, .string ⟨#[]⟩, .slice none 0 0] 68
  rw [e1] at hr hf
  exact ⟨hB, hn, hr 0 _ rfl, hr 1 _ rfl, hr 2 _ rfl, hf⟩
theorem VBox.later {w W W' : World} {S : Int} {v1 v2 v3 : Value} (k : VBox w W S v1 v2 v3) (hb : Below W.heap.size W W') : VBox w W' S v1 v2 v3 :=
  ⟨k.below.trans (hb.mono k.below.size), k.n.later hb, cell_later hb k.r0, cell_later hb k.r1, cell_later hb k.r2, fun i => (hb.frozen (p := ⟨w.heap.size + 1, i, none⟩) (show (⟨w.heap.size + 1, 0, none⟩ : Addr).block < W.heap.size from World.block_lt_of_cell? W ⟨w.heap.size + 1, 0, none⟩ k.r0)).trans (k.f i)⟩
/-- No fate. -/
theorem own_none (W : World) (B : Nat) : W.ownsRow B 88 3 (.slice none 0 0) (zeF.2.2).length (cellsG hopE zeF.2.2) := World.ownsRow_nil _ _ _ _

set_option maxHeartbeats 4000000 in
set_option maxRecDepth 100000 in
theorem send_any (S : Int) (ao : Option Addr) (n cap : Nat) (ao2 : Option Addr) (n2 cap2 : Nat) (ao3 : Option Addr) (n3 cap3 : Nat) (Ls : List ((Int × Int) × (Int × Int))) (Hs : List (ByteArray × (Int × Int))) (Ts : List (List Ru)) (m : ByteArray) (h : Int) (w : World)
    (hL : GS lnkE w (.slice ao n cap) Ls) (hH : GS hstE w (.slice ao2 n2 cap2) Hs) (hT : TS w (.slice ao3 n3 cap3) Ts) :
    Calls Tryz.prog 20 #[.agg #[.int .i64 S, .slice ao n cap, .slice ao2 n2 cap2, .slice ao3 n3 cap3], .string m, .int .i64 h] w fun e w' => ∃ ao4 n4 cap4, e = .returned (.tuple #[.agg #[.int .i64 (seV S Ls Hs Ts m h).1, .string (seV S Ls Hs Ts m h).2.1, .slice ao4 n4 cap4], noV (seN S Ls Hs Ts m h)]) ∧ w'.ownsRow w.heap.size 88 3 (.slice ao4 n4 cap4) (seV S Ls Hs Ts m h).2.2.length (cellsG hopE (seV S Ls Hs Ts m h).2.2) ∧ Below w.heap.size w w' := by
  obtain ⟨R, hR⟩ : ∃ R, R = seN S Ls Hs Ts m h := ⟨_, rfl⟩
  obtain ⟨V, hV⟩ : ∃ V, V = seV S Ls Hs Ts m h := ⟨_, rfl⟩
  have HR : Hid (R = seN S Ls Hs Ts m h) := hR
  have HV : Hid (V = seV S Ls Hs Ts m h) := hV
  rw [← hR, ← hV]
  have HLW : Hid (∀ W, Below w.heap.size w W → GS lnkE W (.slice ao n cap) Ls) := fun W hb => hL.later hb
  have HHW : Hid (∀ W, Below w.heap.size w W → GS hstE W (.slice ao2 n2 cap2) Hs) := fun W hb => hH.later hb
  have HTW : Hid (∀ W, Below w.heap.size w W → TS W (.slice ao3 n3 cap3) Ts) := fun W hb => hT.later hb
  have hX := vbox_new w S (.slice ao n cap) (.slice ao2 n2 cap2) (.slice ao3 n3 cap3)
  obtain ⟨w0, hw0⟩ : ∃ W, (w.alloc (Obj.cells #[.int .i64 S, .slice ao n cap, .slice ao2 n2 cap2, .slice ao3 n3 cap3] 28)).alloc (Obj.cells #[.int .i64 0, .string ⟨#[]⟩, .slice none 0 0] 68) = W := ⟨_, rfl⟩
  rw [hw0] at hX
  have HX : Hid (VBox w w0 S (.slice ao n cap) (.slice ao2 n2 cap2) (.slice ao3 n3 cap3)) := hX
  have HW0 : Hid ((w.alloc (Obj.cells #[.int .i64 S, .slice ao n cap, .slice ao2 n2 cap2, .slice ao3 n3 cap3] 28)).alloc (Obj.cells #[.int .i64 0, .string ⟨#[]⟩, .slice none 0 0] 68) = w0) := hw0
  clear hL hH hT hR hV hX hw0
  go_enter Tryz.func20, Tryz.ntmps20
  go_upto_region 1 with fail
  rw [HW0.out]
  obtain ⟨_, ⟨b0, b1, b2, b3⟩, r0, r1, r2, f⟩ := HX.out
  clear HW0 f r0 r1 r2
  go_wp2_with fail
  refine (ncheck_any S ao n cap ao2 n2 cap2 ao3 n3 cap3 Ls Hs Ts _ (HLW.out _ HX.out.below) (HHW.out _ HX.out.below) (HTW.out _ HX.out.below)).mono ?_
  rintro e w1 ⟨rfl, hb1⟩
  obtain ⟨T, hT⟩ : ∃ T, T = ntN S Ls Hs Ts := ⟨_, rfl⟩
  have HT : Hid (T = ntN S Ls Hs Ts) := hT
  rw [← hT]
  have HX1 : Hid (VBox w w1 S (.slice ao n cap) (.slice ao2 n2 cap2) (.slice ao3 n3 cap3)) := HX.out.later hb1
  obtain ⟨hB1, ⟨b0, b1, b2, b3⟩, r0, r1, r2, f⟩ := HX1.out
  have HB1 : Hid (Below w.heap.size w w1) := hB1
  have f0 := f 0
  have f1 := f 1
  have f2 := f 2
  clear hT hb1 HX f hB1
  by_cases h0 : T = 0
  · have HN0 : Hid (ntN S Ls Hs Ts = 0) := HT.out.symm.trans h0
    subst h0
    rw [no_ok rfl]
    clear r0 r1 r2 f0 f1 f2
    go_wp2_with fail
    refine (where_any S ao n cap ao2 n2 cap2 Ls Hs m _ (HLW.out _ HX1.out.below) (HHW.out _ HX1.out.below)).mono ?_
    rintro e w2 ⟨rfl, hb2⟩
    obtain ⟨WN, hWN⟩ : ∃ q, q = weN S Ls Hs m := ⟨_, rfl⟩
    obtain ⟨X1, hX1⟩ : ∃ q, q = (weV S Ls Hs m).1 := ⟨_, rfl⟩
    obtain ⟨X2, hX2⟩ : ∃ q, q = (weV S Ls Hs m).2 := ⟨_, rfl⟩
    have HWN : Hid (WN = weN S Ls Hs m) := hWN
    have HXV : Hid (weV S Ls Hs m = (X1, X2)) := by
      show _ = _
      rw [hX1, hX2]
    rw [← hWN, ← hX1, ← hX2]
    have hal : Below w2.heap.size w2 (w2.alloc (Obj.cells #[.int .i64 X1, .int .i64 X2] 39)) := (Below.refl _ _).alloc (Nat.le_refl _) _
    have hXa := (HX1.out.later hb2).later hal
    have hva := vat_new w2 [.int .i64 X1, .int .i64 X2] 39
    obtain ⟨w3, hw3⟩ : ∃ W, w2.alloc (Obj.cells #[.int .i64 X1, .int .i64 X2] 39) = W := ⟨_, rfl⟩
    obtain ⟨g3, hg3⟩ : ∃ g, w2.heap.size = g := ⟨_, rfl⟩
    have hva2 : VAt w3 g3 0 [.int .i64 X1, .int .i64 X2] := by
      rw [← hw3, ← hg3]
      exact hva
    rw [hw3] at hXa
    have HX3 : Hid (VBox w w3 S (.slice ao n cap) (.slice ao2 n2 cap2) (.slice ao3 n3 cap3)) := hXa
    have HW3 : Hid (w2.alloc (Obj.cells #[.int .i64 X1, .int .i64 X2] 39) = w3) := hw3
    have HG3 : Hid (w2.heap.size = g3) := hg3
    have s0 : w3.cell? ⟨g3, 0, none⟩ = some (.int .i64 X1) := hva2 0 _ rfl
    have s1 : w3.cell? ⟨g3, 1, none⟩ = some (.int .i64 X2) := hva2 1 _ rfl
    obtain ⟨hB3, ⟨b0, b1, b2, b3⟩, r0, r1, r2, f⟩ := HX3.out
    have HB3 : Hid (Below w.heap.size w w3) := hB3
    have f0 := f 0
    have f1 := f 1
    have f2 := f 2
    clear hWN hX1 hX2 hb2 hal hXa hva hva2 hw3 hg3 hB3 f HX1 HB1
    go_upto_region 5 with fail
    rw [HW3.out, HG3.out]
    clear HW3 HG3
    by_cases h5 : WN = 0
    · have HW0 : Hid (weN S Ls Hs m = 0) := HWN.out.symm.trans h5
      subst h5
      rw [no_ok rfl]
      cases hh : hdrB h
      · have HR1 : Hid (R = 1) := by
          show _ = _
          rw [HR.out, seN, if_pos HN0.out, if_pos HW0.out, hh]
          rfl
        have HV1 : Hid (V = zeF) := by
          show _ = _
          rw [HV.out, seV, ← HR.out, HR1.out]
          rfl
        go_wp2_with fail
        refine (isHeader_any h _).mono ?_
        rintro e w4 ⟨rfl, hw4⟩
        subst hw4
        rw [hh]
        go_wp2
        refine bodyPost_ret (v := .tuple #[.agg #[.int .i64 0, .string ⟨#[]⟩, .slice none 0 0], .iface 96 (.int .i64 1)]) (by simp [results, Tryz.results20, go_sem, *]) rfl ⟨_, _, _, by rw [HR1.out, HV1.out]; rfl, by rw [HV1.out]; exact own_none _ _, below_put3 HB3.out _ (by omega) _ _ _⟩
      · have HR0 : Hid (R = 0) := by
          show _ = _
          rw [HR.out, seN, if_pos HN0.out, if_pos HW0.out, hh]
          rfl
        have HV0 : Hid (V = frF Ls Hs Ts (X1, X2) h) := by
          show _ = _
          rw [HV.out, seV, ← HR.out, HR0.out, if_pos rfl, HXV.out]
        have HSP : Hid (spB S (X1, X2) = true) := by
          show _ = _
          have ht := (nt_0 HN0.out).1
          have hw := HW0.out
          rw [weN, if_pos ht] at hw
          have hv := HXV.out
          rw [weV, HW0.out, if_pos rfl] at hv
          cases hp : whereO Hs m with
          | none => rw [hp] at hw; simp at hw
          | some p =>
            rw [hp, Option.getD_some] at hv
            rw [← hv]
            exact where_sp ht hp
        clear r0 r1 r2 f0 f1 f2
        go_wp2_with fail
        refine (isHeader_any h _).mono ?_
        rintro e w4 ⟨rfl, hw4⟩
        subst hw4
        rw [hh]
        go_wp2_with fail
        refine (follow_any S ao n cap ao2 n2 cap2 ao3 n3 cap3 Ls Hs Ts X1 X2 h _ (HLW.out _ HB3.out) (HHW.out _ HB3.out) (HTW.out _ HB3.out) HN0.out HSP.out).mono ?_
        rintro e w5 ⟨ao4, n4, cap4, rfl, hown, hb5⟩
        rw [← HV0.out] at hown
        rw [← HV0.out]
        have hsz : w.heap.size + 1 < w4.heap.size := World.block_lt_of_cell? _ _ HX3.out.r0
        have HOW : Hid (∀ u v x, (put3 w5 (w.heap.size + 1) u v x).ownsRow w.heap.size 88 3 (.slice ao4 n4 cap4) V.2.2.length (cellsG hopE V.2.2)) := fun u v x => own_mono (own_put3 hown _ hsz u v x) (by omega)
        have HX5 : Hid (VBox w w5 S (.slice ao n cap) (.slice ao2 n2 cap2) (.slice ao3 n3 cap3)) := HX3.out.later hb5
        obtain ⟨hB5, ⟨b0, b1, b2, b3⟩, r0, r1, r2, f⟩ := HX5.out
        have HB5 : Hid (Below w.heap.size w w5) := hB5
        have f0 := f 0
        have f1 := f 1
        have f2 := f 2
        obtain ⟨V1, hV1⟩ : ∃ q, q = V.1 := ⟨_, rfl⟩
        obtain ⟨V2, hV2⟩ : ∃ q, q = V.2.1 := ⟨_, rfl⟩
        have HVV : Hid (V.1 = V1 ∧ V.2.1 = V2) := ⟨hV1.symm, hV2.symm⟩
        rw [← hV1, ← hV2]
        clear hown hb5 hB5 f hV1 hV2
        go_wp2
        refine bodyPost_ret (v := .tuple #[.agg #[.int .i64 V1, .string V2, .slice ao4 n4 cap4], .nilIface]) (by simp [results, Tryz.results20, go_sem, *]) rfl ⟨ao4, n4, cap4, by rw [HR0.out, HVV.out.1, HVV.out.2]; rfl, HOW.out _ _ _, below_put3 HB5.out _ (by omega) _ _ _⟩
    · rw [no_ne h5]
      have HNE : Hid (WN ≠ 0) := h5
      have HR1 : Hid (R = WN) := by
        show _ = _
        rw [HR.out, seN, if_pos HN0.out, if_neg (by rw [← HWN.out]; exact h5), HWN.out]
      have HV1 : Hid (V = zeF) := by
        show _ = _
        rw [HV.out, seV, ← HR.out, HR1.out, if_neg h5]
      clear h5
      go_wp2
      refine bodyPost_ret (v := .tuple #[.agg #[.int .i64 0, .string ⟨#[]⟩, .slice none 0 0], .iface 96 (.int .i64 WN)]) (by simp [results, Tryz.results20, go_sem, *]) rfl ⟨_, _, _, by rw [HR1.out, HV1.out, no_ne HNE.out]; rfl, by rw [HV1.out]; exact own_none _ _, below_put3 HB3.out _ (by omega) _ _ _⟩
  · rw [no_ne h0]
    have HNE : Hid (T ≠ 0) := h0
    have HR1 : Hid (R = T) := by
      show _ = _
      rw [HR.out, seN, if_neg (by rw [← HT.out]; exact h0), HT.out]
    have HV1 : Hid (V = zeF) := by
      show _ = _
      rw [HV.out, seV, ← HR.out, HR1.out, if_neg h0]
    clear h0
    go_wp2
    refine bodyPost_ret (v := .tuple #[.agg #[.int .i64 0, .string ⟨#[]⟩, .slice none 0 0], .iface 96 (.int .i64 T)]) (by simp [results, Tryz.results20, go_sem, *]) rfl ⟨_, _, _, by rw [HR1.out, HV1.out, no_ne HNE.out]; rfl, by rw [HV1.out]; exact own_none _ _, below_put3 HB1.out _ (by omega) _ _ _⟩
end Go.Proofs.YtmpjoepfgfbjmaaGreatDoor
/- Nets in boxes: what the laws of package change carry along. -/
namespace Go.Proofs.YtmpjoepfgfbjmaaGreatDoor
open Go.RowKit
set_option linter.unusedSimpArgs false
set_option linter.unusedVariables false

/-- A net lies in these four cells. -/
structure BN (W : World) (b : Nat) (S : Int) (v1 v2 v3 : Value) (Ls : List ((Int × Int) × (Int × Int))) (Hs : List (ByteArray × (Int × Int))) (Ts : List (List Ru)) : Prop where
  c : NeBox W b S v1 v2 v3
  l : GS lnkE W v1 Ls
  h : GS hstE W v2 Hs
  t : TS W v3 Ts
theorem BN.later {W W' : World} {b : Nat} {S : Int} {v1 v2 v3 : Value} {Ls : List ((Int × Int) × (Int × Int))} {Hs : List (ByteArray × (Int × Int))} {Ts : List (List Ru)} (h : BN W b S v1 v2 v3 Ls Hs Ts) (hb : Below W.heap.size W W') : BN W' b S v1 v2 v3 Ls Hs Ts := ⟨h.c.later hb, h.l.later hb, h.h.later hb, h.t.later hb⟩
theorem BN.lt {W : World} {b : Nat} {S : Int} {v1 v2 v3 : Value} {Ls : List ((Int × Int) × (Int × Int))} {Hs : List (ByteArray × (Int × Int))} {Ts : List (List Ru)} (h : BN W b S v1 v2 v3 Ls Hs Ts) : b < W.heap.size := World.block_lt_of_cell? W ⟨b, 0, none⟩ h.c.1
/-- A pointer to a net, and an empty error. -/
def PN (W : World) (p : Value) (S : Int) (Ls : List ((Int × Int) × (Int × Int))) (Hs : List (ByteArray × (Int × Int))) (Ts : List (List Ru)) : Prop :=
  ∃ b ao n cap ao2 n2 cap2 ao3 n3 cap3, p = .pointer (some ⟨b, 0, none⟩) ∧ BN W b S (.slice ao n cap) (.slice ao2 n2 cap2) (.slice ao3 n3 cap3) Ls Hs Ts
theorem bn_new {w : World} {S : Int} {v1 v2 v3 : Value} {Ls : List ((Int × Int) × (Int × Int))} {Hs : List (ByteArray × (Int × Int))} {Ts : List (List Ru)} (t : TypeId) (h1 : GS lnkE w v1 Ls) (h2 : GS hstE w v2 Hs) (h3 : TS w v3 Ts) : BN (w.alloc (Obj.cells #[.int .i64 S, v1, v2, v3] t)) w.heap.size S v1 v2 v3 Ls Hs Ts := by
  have hb : Below w.heap.size w (w.alloc (Obj.cells #[.int .i64 S, v1, v2, v3] t)) := (Below.refl _ _).alloc (Nat.le_refl _) _
  exact ⟨nebox_new w S v1 v2 v3 t, h1.later hb, h2.later hb, h3.later hb⟩
theorem balloc4 {w w' : World} {a b c d : Value} {t : TypeId} (hb : Below (w.drew.alloc (Obj.cells #[a, b, c, d] t)).heap.size (w.drew.alloc (Obj.cells #[a, b, c, d] t)) w') : (w'.cell? ⟨w.heap.size, 0, none⟩ = some a ∧ w'.cell? ⟨w.heap.size, 1, none⟩ = some b ∧ w'.cell? ⟨w.heap.size, 2, none⟩ = some c ∧ w'.cell? ⟨w.heap.size, 3, none⟩ = some d) ∧ ∀ i, w'.frozen? ⟨w.heap.size, i, none⟩ = false := by
  have h := vat_new w.drew [a, b, c, d] t
  have hl : w.heap.size < (w.drew.alloc (Obj.cells #[a, b, c, d] t)).heap.size := by simp
  refine ⟨⟨cell_later hb (h 0 _ rfl), cell_later hb (h 1 _ rfl), cell_later hb (h 2 _ rfl), cell_later hb (h 3 _ rfl)⟩, fun i => (hb.frozen (p := ⟨w.heap.size, i, none⟩) hl).trans ?_⟩
  have h2 := heap_alloc_new w.drew (Obj.cells #[a, b, c, d] t)
  have e : w.drew.heap.size = w.heap.size := rfl
  rw [e] at h2
  simp only [World.frozen?, h2]
  simp
theorem put4_cells {W : World} {g : Nat} {a b c d u v x y : Value} (k : W.cell? ⟨g, 0, none⟩ = some u ∧ W.cell? ⟨g, 1, none⟩ = some v ∧ W.cell? ⟨g, 2, none⟩ = some x ∧ W.cell? ⟨g, 3, none⟩ = some y) : (put4 W g a b c d).cell? ⟨g, 0, none⟩ = some a ∧ (put4 W g a b c d).cell? ⟨g, 1, none⟩ = some b ∧ (put4 W g a b c d).cell? ⟨g, 2, none⟩ = some c ∧ (put4 W g a b c d).cell? ⟨g, 3, none⟩ = some d := by
  obtain ⟨k0, k1, k2, k3⟩ := k
  unfold put4
  have o : ∀ (W : World) (i j : Nat) (x : Value), i ≠ j → (W.setCell ⟨g, i, none⟩ x).cell? ⟨g, j, none⟩ = W.cell? ⟨g, j, none⟩ := fun W i j x h => World.cell?_setCell_other _ _ _ _ (by intro e; exact h (by injection e))
  refine ⟨?_, ?_, ?_, ?_⟩
  · rw [o _ _ _ _ (by decide), o _ _ _ _ (by decide), o _ _ _ _ (by decide)]; exact World.cell?_setCell_same _ _ _ k0
  · rw [o _ _ _ _ (by decide), o _ _ _ _ (by decide)]; exact World.cell?_setCell_same _ _ _ (by rw [o _ _ _ _ (by decide)]; exact k1)
  · rw [o _ _ _ _ (by decide)]; exact World.cell?_setCell_same _ _ _ (by rw [o _ _ _ _ (by decide), o _ _ _ _ (by decide)]; exact k2)
  · exact World.cell?_setCell_same _ _ _ (by rw [o _ _ _ _ (by decide), o _ _ _ _ (by decide), o _ _ _ _ (by decide)]; exact k3)
theorem pn_new {W : World} {B : Nat} {S : Int} {a1 : Option Addr} {k1 d1 : Nat} {a2 : Option Addr} {k2 d2 : Nat} {a3 : Option Addr} {k3 d3 : Nat} {Ls : List ((Int × Int) × (Int × Int))} {Hs : List (ByteArray × (Int × Int))} {Ts : List (List Ru)} (t : TypeId) (h : NA W B (.slice a1 k1 d1) (.slice a2 k2 d2) (.slice a3 k3 d3) Ls Hs Ts) :
    PN (W.alloc (Obj.cells #[.int .i64 S, .slice a1 k1 d1, .slice a2 k2 d2, .slice a3 k3 d3] t)) (.pointer (some ⟨W.heap.size, 0, none⟩)) S Ls Hs Ts := ⟨_, _, _, _, _, _, _, _, _, _, rfl, bn_new t h.gs.1 h.gs.2.1 h.gs.2.2⟩
theorem pn_put {W : World} {B g : Nat} {S : Int} {a1 : Option Addr} {k1 d1 : Nat} {a2 : Option Addr} {k2 d2 : Nat} {a3 : Option Addr} {k3 d3 : Nat} {Ls : List ((Int × Int) × (Int × Int))} {Hs : List (ByteArray × (Int × Int))} {Ts : List (List Ru)} {x y z u : Value} (h : NA W B (.slice a1 k1 d1) (.slice a2 k2 d2) (.slice a3 k3 d3) Ls Hs Ts) (hg : g < B) (k : W.cell? ⟨g, 0, none⟩ = some u ∧ W.cell? ⟨g, 1, none⟩ = some x ∧ W.cell? ⟨g, 2, none⟩ = some y ∧ W.cell? ⟨g, 3, none⟩ = some z) :
    PN (put4 W g (.int .i64 S) (.slice a1 k1 d1) (.slice a2 k2 d2) (.slice a3 k3 d3)) (.pointer (some ⟨g, 0, none⟩)) S Ls Hs Ts := by
  have h2 := (h.put (grown_put4 W g (.int .i64 S) (.slice a1 k1 d1) (.slice a2 k2 d2) (.slice a3 k3 d3)) hg).gs
  exact ⟨_, _, _, _, _, _, _, _, _, _, rfl, put4_cells k, h2.1, h2.2.1, h2.2.2⟩
/-- An empty net in its box. -/
def ZB (W : World) (g : Nat) : Prop := (W.cell? ⟨g, 0, none⟩ = some (.int .i64 0) ∧ W.cell? ⟨g, 1, none⟩ = some (.slice none 0 0) ∧ W.cell? ⟨g, 2, none⟩ = some (.slice none 0 0) ∧ W.cell? ⟨g, 3, none⟩ = some (.slice none 0 0)) ∧ ∀ i, W.frozen? ⟨g, i, none⟩ = false
theorem ZB.lt {W : World} {g : Nat} (h : ZB W g) : g < W.heap.size := World.block_lt_of_cell? W ⟨g, 0, none⟩ h.1.1
theorem ZB.later {W W' : World} {g : Nat} (h : ZB W g) (hb : Below W.heap.size W W') : ZB W' g := ⟨⟨cell_later hb h.1.1, cell_later hb h.1.2.1, cell_later hb h.1.2.2.1, cell_later hb h.1.2.2.2⟩, fun i => (hb.frozen (p := ⟨g, i, none⟩) h.lt).trans (h.2 i)⟩
theorem zb_d {w w' : World} {t : TypeId} (hb : Below (w.drew.alloc (Obj.cells #[.int .i64 0, .slice none 0 0, .slice none 0 0, .slice none 0 0] t)).heap.size (w.drew.alloc (Obj.cells #[.int .i64 0, .slice none 0 0, .slice none 0 0, .slice none 0 0] t)) w') : ZB w' w.heap.size := balloc4 hb
theorem zb_a {w w' : World} {t : TypeId} (hb : Below (w.alloc (Obj.cells #[.int .i64 0, .slice none 0 0, .slice none 0 0, .slice none 0 0] t)).heap.size (w.alloc (Obj.cells #[.int .i64 0, .slice none 0 0, .slice none 0 0, .slice none 0 0] t)) w') : ZB w' w.heap.size :=
  have h := wb_new w 0 (.slice none 0 0) (.slice none 0 0) (.slice none 0 0) t
  ZB.later (W := w.alloc (Obj.cells #[.int .i64 0, .slice none 0 0, .slice none 0 0, .slice none 0 0] t)) ⟨h.c, h.f⟩ hb
end Go.Proofs.YtmpjoepfgfbjmaaGreatDoor
/- What errors.As, plain.Told and railsame.Error answer for no error and for an Errno: contracts for the walks above them. -/
namespace Go.Proofs.YtmpjoepfgfbjmaaGreatDoor
open Go.RowKit Go.Extern.Stop Go.Stop Go.Extern
set_option linter.unusedSimpArgs false

/-- What package errors' variable holds: the handle of the type error. -/
def HasErr (w : World) : Prop := w.cell? ⟨0, 0, none⟩ = some (.iface 232 (.agg #[.pointer (some ⟨1, 43, none⟩)]))
theorem HasErr.later {w w' : World} (h : HasErr w) (hb : Below w.heap.size w w') : HasErr w' := cell_later hb h
theorem HasErr.alloc {w : World} (h : HasErr w) (o : Obj) : HasErr (w.alloc o) := h.later ((Below.refl _ _).alloc (Nat.le_refl _) _)

theorem vOfP (t : Addr) (w : World) : (ReflectliteValue.unpack (.iface 147 (.pointer (some t)))).run Tryz.prog w
    = .ok (.agg #[.pointer (some ⟨1, 147, none⟩), .pointer (some ⟨w.heap.size, 0, none⟩), .int .u64 150]) (w.alloc (.cells #[.pointer (some t)] 147)) := by kernel_rfl
theorem typeP (a : Addr) (w : World) : (ReflectliteValue.methodAny (ReflectliteValue.valueError "reflectlite.Value.Type" 0) (fun t _ _ _ => ReflectliteType.toType t) #[.agg #[.pointer (some ⟨1, 147, none⟩), .pointer (some a), .int .u64 150]]).run Tryz.prog w
    = .ok (.iface 232 (.agg #[.pointer (some ⟨1, 147, none⟩)])) w := by kernel_rfl
theorem methKind (h : Value) (w : World) : (Go.method 389 232 (.agg #[h]) "Kind").run Tryz.prog w = .ok (184, h) w := by kernel_rfl
theorem kindP (w : World) : ((ReflectliteType.abiMethod fun t => Functor.map (fun a : Nat => Value.int IntKind.u8 (a : Int)) (Rtype.kind t)) #[.pointer (some ⟨1, 147, none⟩)]).run Tryz.prog w = .ok (.int .u8 22) w := by kernel_rfl
theorem kindE (w : World) : ((ReflectliteType.abiMethod fun t => Functor.map (fun a : Nat => Value.int IntKind.u8 (a : Int)) (Rtype.kind t)) #[.pointer (some ⟨1, 96, none⟩)]).run Tryz.prog w = .ok (.int .u8 2) w := by kernel_rfl
theorem partsP (a : Addr) (w : World) : (ReflectliteValue.parts (.agg #[.pointer (some ⟨1, 147, none⟩), .pointer (some a), .int .u64 150])).run Tryz.prog w = .ok (some (147, a, 150)) w := by kernel_rfl
theorem isNilP (a p : Addr) (W : World) (ha : W.cell? a = some (.pointer (some p))) :
    (ReflectliteValue.method (ReflectliteValue.valueError "reflectlite.Value.IsNil" 0) ReflectliteValue.isNil #[.agg #[.pointer (some ⟨1, 147, none⟩), .pointer (some a), .int .u64 150]]).run Tryz.prog W = .ok (.bool false) W := by
  change Sem.run _ (ReflectliteValue.parts (.agg #[.pointer (some ⟨1, 147, none⟩), .pointer (some a), .int .u64 150]) >>= _) _ = _
  rw [Sem.run_bind, partsP]
  simp only [Result.andThen]
  simp [ReflectliteValue.isNil, loadVar, isAgg, underlying, Tryz.underlying147, ha, Result.andThen]
theorem methElem (h : Value) (w : World) : (Go.method 389 232 (.agg #[h]) "Elem").run Tryz.prog w = .ok (194, .agg #[h]) w := by kernel_rfl
theorem methImpl (h : Value) (w : World) : (Go.method 389 232 (.agg #[h]) "Implements").run Tryz.prog w = .ok (195, .agg #[h]) w := by kernel_rfl
theorem methAssign (h : Value) (w : World) : (Go.method 389 232 (.agg #[h]) "AssignableTo").run Tryz.prog w = .ok (192, .agg #[h]) w := by kernel_rfl
theorem elemP (w : World) : (ReflectliteType.method ReflectliteType.elem #[.agg #[.pointer (some ⟨1, 147, none⟩)]]).run Tryz.prog w = .ok (.iface 232 (.agg #[.pointer (some ⟨1, 96, none⟩)])) w := by kernel_rfl
theorem implE (w : World) : (ReflectliteType.relation "Implements" ReflectliteType.implements_ #[.agg #[.pointer (some ⟨1, 96, none⟩)], .iface 232 (.agg #[.pointer (some ⟨1, 43, none⟩)])]).run Tryz.prog w = .ok (.bool true) w := by kernel_rfl
theorem typeOfE (v : Value) (w : World) : (ReflectliteType.typeOf #[.iface 96 v]).run Tryz.prog w = .ok (.iface 232 (.agg #[.pointer (some ⟨1, 96, none⟩)])) w := by kernel_rfl
theorem assignE (w : World) : (ReflectliteType.relation "AssignableTo" ReflectliteType.assignableTo #[.agg #[.pointer (some ⟨1, 96, none⟩)], .iface 232 (.agg #[.pointer (some ⟨1, 96, none⟩)])]).run Tryz.prog w = .ok (.bool true) w := by kernel_rfl
theorem vOfE (n : Int) (w : World) : (ReflectliteValue.unpack (.iface 96 (.int .i64 n))).run Tryz.prog w
    = .ok (.agg #[.pointer (some ⟨1, 96, none⟩), .pointer (some ⟨w.heap.size, 0, none⟩), .int .u64 130]) (w.alloc (.cells #[.int .i64 n] 96)) := by kernel_rfl
theorem elemOfP (w : World) : (Rtype.elem? 147).run Tryz.prog w = .ok (some 96) w := by kernel_rfl
theorem mkE (p : Addr) (w : World) : (ReflectliteValue.mk 96 p ReflectliteValue.flagAddr).run Tryz.prog w = .ok (.agg #[.pointer (some ⟨1, 96, none⟩), .pointer (some p), .int .u64 386]) w := by kernel_rfl
theorem elemVP (a p : Addr) (W : World) (ha : W.cell? a = some (.pointer (some p))) :
    (ReflectliteValue.method (ReflectliteValue.valueError "reflectlite.Value.Elem" 0) ReflectliteValue.elem #[.agg #[.pointer (some ⟨1, 147, none⟩), .pointer (some a), .int .u64 150]]).run Tryz.prog W
      = .ok (.agg #[.pointer (some ⟨1, 96, none⟩), .pointer (some p), .int .u64 386]) W := by
  change Sem.run _ (ReflectliteValue.parts (.agg #[.pointer (some ⟨1, 147, none⟩), .pointer (some a), .int .u64 150]) >>= _) _ = _
  rw [Sem.run_bind, partsP]
  simp only [Result.andThen]
  simp [ReflectliteValue.elem, loadVar, isAgg, underlying, Tryz.underlying147, ha, Result.andThen, elemOfP, mkE]
theorem partsEa (a : Addr) (w : World) : (ReflectliteValue.parts (.agg #[.pointer (some ⟨1, 96, none⟩), .pointer (some a), .int .u64 386])).run Tryz.prog w = .ok (some (96, a, 386)) w := by kernel_rfl
theorem partsE (a : Addr) (w : World) : (ReflectliteValue.parts (.agg #[.pointer (some ⟨1, 96, none⟩), .pointer (some a), .int .u64 130])).run Tryz.prog w = .ok (some (96, a, 130)) w := by kernel_rfl
theorem directE (w : World) : (Rtype.directlyAssignable 96 96).run Tryz.prog w = .ok true w := by kernel_rfl
/-- Set: the Errno variable at 'ta' gets what the Value's own variable 'b' holds. -/
theorem setE (ta b : Addr) (n : Int) (old : Value) (W : World) (hb : W.cell? b = some (.int .i64 n)) (ht : W.cell? ta = some old) (hf : W.frozen? ta = false) :
    (ReflectliteValue.set #[.agg #[.pointer (some ⟨1, 96, none⟩), .pointer (some ta), .int .u64 386], .agg #[.pointer (some ⟨1, 96, none⟩), .pointer (some b), .int .u64 130]]).run Tryz.prog W
      = .ok (.tuple #[]) (W.setCell ta (.int .i64 n)) := by
  change Sem.run _ (ReflectliteValue.parts (.agg #[.pointer (some ⟨1, 96, none⟩), .pointer (some ta), .int .u64 386]) >>= _) _ = _
  rw [Sem.run_bind, partsEa]
  simp only [Result.andThen]
  change Sem.run _ (ReflectliteValue.parts (.agg #[.pointer (some ⟨1, 96, none⟩), .pointer (some b), .int .u64 130]) >>= _) _ = _
  rw [Sem.run_bind, partsE]
  simp only [Result.andThen]
  simp [ReflectliteValue.flagAddr, loadVar, isAgg, underlying, Tryz.underlying96, hb, Result.andThen, directE, storeVar, Value.cells, storeCells, Addr.add]
  rw [run_store Tryz.prog W ta _ _ (by rfl)]
  simp [ht, hf]
end Go.Proofs.YtmpjoepfgfbjmaaGreatDoor
/- What errors.As, plain.Told and railsame.Error answer for no error and for an Errno: the walks. -/
namespace Go.Proofs.YtmpjoepfgfbjmaaGreatDoor
open Go.RowKit Go.Extern.Stop Go.Stop Go.Extern
set_option linter.unusedSimpArgs false

set_option maxHeartbeats 4000000 in
theorem as_hit (n : Int) (t : Addr) (old : Value) (w : World) (hg : HasErr w) (ht0 : w.cell? t = some old) (hf0 : w.frozen? t = false) :
    Calls Tryz.prog 73 #[.iface 96 (.int .i64 n), .iface 147 (.pointer (some t))] w fun ev w' => ev = .returned (.bool true) ∧ w' = ((((w.alloc (.cells #[.pointer (some t)] 147)).alloc (.cells #[.pointer (some ⟨1, 147, none⟩), .pointer (some ⟨w.heap.size, 0, none⟩), .int .u64 150] 194)).alloc (.cells #[.pointer (some ⟨1, 147, none⟩), .pointer (some ⟨w.heap.size, 0, none⟩), .int .u64 150] 194)).alloc (.cells #[.int .i64 n] 96)).setCell t (.int .i64 n) := by
  unfold HasErr at hg
  have h6 := @run_callFunc_extern Tryz.prog 110 _ (fun args => ReflectliteValue.unpack (args.getD 0 (.tuple #[]))) Tryz.func110 (by kernel_rfl) (by kernel_rfl) (by kernel_rfl) (by kernel_rfl)
  have h7 := @run_callFunc_extern Tryz.prog 111 _ (ReflectliteValue.methodAny (ReflectliteValue.valueError "reflectlite.Value.Type" 0) (fun t _ _ _ => ReflectliteType.toType t)) Tryz.func111 (by kernel_rfl) (by kernel_rfl) (by kernel_rfl) (by kernel_rfl)
  have h8 := @run_callFunc_extern Tryz.prog 112 _ (ReflectliteValue.method (ReflectliteValue.valueError "reflectlite.Value.IsNil" 0) ReflectliteValue.isNil) Tryz.func112 (by kernel_rfl) (by kernel_rfl) (by kernel_rfl) (by kernel_rfl)
  have h27 := @run_callFunc_extern Tryz.prog 184 _ (ReflectliteType.abiMethod fun t => do pure (.int .u8 (← Rtype.kind t))) Tryz.func184 (by kernel_rfl) (by kernel_rfl) (by kernel_rfl) (by kernel_rfl)
  have h37 := @run_callFunc_extern Tryz.prog 194 _ (ReflectliteType.method ReflectliteType.elem) Tryz.func194 (by kernel_rfl) (by kernel_rfl) (by kernel_rfl) (by kernel_rfl)
  have h38 := @run_callFunc_extern Tryz.prog 195 _ (ReflectliteType.relation "Implements" ReflectliteType.implements_) Tryz.func195 (by kernel_rfl) (by kernel_rfl) (by kernel_rfl) (by kernel_rfl)
  have h10 := @run_callFunc_extern Tryz.prog 150 _ ReflectliteType.typeOf Tryz.func150 (by kernel_rfl) (by kernel_rfl) (by kernel_rfl) (by kernel_rfl)
  have h35 := @run_callFunc_extern Tryz.prog 192 _ (ReflectliteType.relation "AssignableTo" ReflectliteType.assignableTo) Tryz.func192 (by kernel_rfl) (by kernel_rfl) (by kernel_rfl) (by kernel_rfl)
  have h11 := @run_callFunc_extern Tryz.prog 151 _ (ReflectliteValue.method (ReflectliteValue.valueError "reflectlite.Value.Elem" 0) ReflectliteValue.elem) Tryz.func151 (by kernel_rfl) (by kernel_rfl) (by kernel_rfl) (by kernel_rfl)
  have h12 := @run_callFunc_extern Tryz.prog 152 _ ReflectliteValue.set Tryz.func152 (by kernel_rfl) (by kernel_rfl) (by kernel_rfl) (by kernel_rfl)
  have tO := typeOfE
  have mA := methAssign
  have a25 := assignE
  have v25 := vOfE
  have f6 := vOfP
  have f7 := typeP
  have mK := methKind
  have mE := methElem
  have mI := methImpl
  have k27 := kindP
  have k25 := kindE
  have e27 := elemP
  have i25 := implE
  have hlt : 0 < w.heap.size := World.block_lt_of_cell? _ _ hg
  have htl : t.block < w.heap.size := World.block_lt_of_cell? _ _ ht0
  have n8 := isNilP ⟨w.heap.size, 0, none⟩ t ((w.alloc (.cells #[.pointer (some t)] 147)).alloc (.cells #[.pointer (some ⟨1, 147, none⟩), .pointer (some ⟨w.heap.size, 0, none⟩), .int .u64 150] 194)) (by simp)
  have hg2 : ((w.alloc (.cells #[.pointer (some t)] 147)).alloc (.cells #[.pointer (some ⟨1, 147, none⟩), .pointer (some ⟨w.heap.size, 0, none⟩), .int .u64 150] 194)).cell? ⟨0, 0, none⟩ = some (.iface 232 (.agg #[.pointer (some ⟨1, 43, none⟩)])) := by
    rw [World.cell?_alloc_lt _ _ ⟨0, 0, none⟩ (by simp <;> omega), World.cell?_alloc_lt _ _ ⟨0, 0, none⟩ hlt]; exact hg
  have el := elemVP ⟨w.heap.size, 0, none⟩ t (((w.alloc (.cells #[.pointer (some t)] 147)).alloc (.cells #[.pointer (some ⟨1, 147, none⟩), .pointer (some ⟨w.heap.size, 0, none⟩), .int .u64 150] 194)).alloc (.cells #[.pointer (some ⟨1, 147, none⟩), .pointer (some ⟨w.heap.size, 0, none⟩), .int .u64 150] 194)) (by rw [World.cell?_alloc_lt _ _ ⟨w.heap.size, 0, none⟩ (by simp; omega)]; simp)
  have st := setE t ⟨w.heap.size + 1 + 1 + 1, 0, none⟩ n old ((((w.alloc (.cells #[.pointer (some t)] 147)).alloc (.cells #[.pointer (some ⟨1, 147, none⟩), .pointer (some ⟨w.heap.size, 0, none⟩), .int .u64 150] 194)).alloc (.cells #[.pointer (some ⟨1, 147, none⟩), .pointer (some ⟨w.heap.size, 0, none⟩), .int .u64 150] 194)).alloc (.cells #[.int .i64 n] 96))
    (by rw [World.cell?_alloc_at _ _ _ _ (by simp)]; rfl)
    (by rw [World.cell?_alloc_lt _ _ t (by simp; omega), World.cell?_alloc_lt _ _ t (by simp; omega), World.cell?_alloc_lt _ _ t (by simp; omega), World.cell?_alloc_lt _ _ t htl]; exact ht0)
    (by rw [World.frozen?_alloc_old _ _ t (by simp; omega), World.frozen?_alloc_old _ _ t (by simp; omega), World.frozen?_alloc_old _ _ t (by simp; omega), World.frozen?_alloc_old _ _ t (Nat.ne_of_lt htl)]; exact hf0)
  go_enter Tryz.func73, Tryz.ntmps73
  go_wp2
  refine wp_loop_rounds 1 ?_
  rw [rounds_succ]
  go_wp2
  go_ret
  exact ⟨rfl, rfl⟩

set_option maxHeartbeats 1000000 in
theorem told_nil (w : World) :
    Calls Tryz.prog 37 #[.nilIface] w fun e w' => e = .returned (.int .i64 0) ∧ Below w.heap.size w w' := by
  go_enter Tryz.func37, Tryz.ntmps37
  go_wp2
  go_ret
  exact ⟨rfl, Below.refl _ _⟩

set_option maxHeartbeats 1000000 in
theorem told_some (n : Int) (w : World) (hg : HasErr w) :
    Calls Tryz.prog 37 #[.iface 96 (.int .i64 n)] w fun e w' => e = .returned (.int .i64 n) ∧ Below w.heap.size w w' := by
  have HG : Hid (HasErr w) := hg
  clear hg
  go_enter Tryz.func37, Tryz.ntmps37
  go_wp2_with fail
  refine (as_hit n _ (.int .i64 0) _ (HG.out.alloc _) (by simp) (by simp)).mono ?_
  rintro e w' ⟨rfl, rfl⟩
  go_wp2
  go_ret
  refine ⟨rfl, ?_⟩
  exact ((((((Below.refl _ _).alloc (Nat.le_refl _) _).alloc (by simp) _).alloc (by simp; omega) _).alloc (by simp; omega) _).alloc (by simp; omega) _)

set_option maxHeartbeats 1000000 in
theorem same_nil (k : Int) (w : World) :
    Calls Tryz.prog 11 #[.nilIface, .int .i64 k] w fun e w' => e = .returned (.bool (0 == k)) ∧ Below w.heap.size w w' := by
  go_enter Tryz.func11, Tryz.ntmps11
  go_wp2_with fail
  refine (told_nil _).mono ?_
  rintro e w' ⟨rfl, hb⟩
  go_wp2
  go_ret
  exact ⟨rfl, hb⟩

set_option maxHeartbeats 1000000 in
theorem same_some (n k : Int) (w : World) (hg : HasErr w) :
    Calls Tryz.prog 11 #[.iface 96 (.int .i64 n), .int .i64 k] w fun e w' => e = .returned (.bool (n == k)) ∧ Below w.heap.size w w' := by
  have HG : Hid (HasErr w) := hg
  clear hg
  go_enter Tryz.func11, Tryz.ntmps11
  go_wp2_with fail
  refine (told_some n _ HG.out).mono ?_
  rintro e w' ⟨rfl, hb⟩
  go_wp2
  go_ret
  exact ⟨rfl, hb⟩
end Go.Proofs.YtmpjoepfgfbjmaaGreatDoor
/- What railsame.Error answers at the error of a number and any number. -/
namespace Go.Proofs.YtmpjoepfgfbjmaaGreatDoor
open Go.RowKit

theorem same_any (n k : Int) (w : World) (hg : HasErr w) :
    Calls Tryz.prog 11 #[noV n, .int .i64 k] w fun e w' => e = .returned (.bool (n == k)) ∧ Below w.heap.size w w' := by
  by_cases h : n = 0
  · subst h
    exact same_nil _ w
  · rw [no_ne h]
    exact same_some _ _ w hg
end Go.Proofs.YtmpjoepfgfbjmaaGreatDoor
/- A topology that came in: its number of switches, its links, its hosts. -/
namespace Go.Proofs.YtmpjoepfgfbjmaaGreatDoor
open Go.ChangeShapes Go.WideShapes Go.ChangeAt Go.RowKit Go.Joins
set_option linter.unusedSimpArgs false
set_option linter.unusedVariables false
set_option maxRecDepth 100000

section
variable {P : Program} {α : Type} {E : Enc α}
set_option maxRecDepth 100000 in
/-- A cell that reads as a slice lies where it says. -/
theorem gs_open {H : Type} {enc : TypeId × Value → H} {W : World} {fuel : Nat} {cs : List Value} {x : DataW H × List MemPlace} (ts te : TypeId) (hu : P.underlying ts = some (.slice te)) (hC : P.cellsOf te = E.n) (x0 : α)
    (hel : ∀ (n : Nat) (cs : List Value) (x : DataW H × List MemPlace), DataW.trod enc P W 0 (fun _ => true) true n te cs = some x → ∃ y, cs = E.c y)
    (hf2 : DataW.trod enc P W 0 (fun _ => true) true fuel ts cs = some x) : ∃ ao n cap L, cs = [.slice ao n cap] ∧ GS E W (.slice ao n cap) L := by
  obtain ⟨d, p⟩ := x
  rcases Go.Deep.open_slice hu hf2 with ⟨hc, hx⟩ | ⟨a, len0, cap, m, k, D, Pl, hc, _, hl, hm, hmm, hx, hall⟩
  · exact ⟨_, _, _, [], hc, .inl ⟨none, 0, rfl, rfl⟩⟩
  · simp only [if_true] at hmm
    subst hmm
    rcases Nat.eq_zero_or_pos len0 with h0 | h0
    · subst h0
      exact ⟨_, _, _, [], hc, .inl ⟨_, _, rfl, rfl⟩⟩
    · have each : ∀ i, i < m → ∃ y : α, ∀ j, j < E.n → W.cell? (a.add (i * E.n + j)) = (E.c y)[j]? := by
        intro i hi
        obtain ⟨cs, h1, h2⟩ := hall i hi
        rw [hC] at h1
        obtain ⟨_, hlen, hcell⟩ := World.cells?_some h1
        obtain ⟨y, rfl⟩ := hel _ _ _ h2
        refine ⟨y, fun j hj => ?_⟩
        have := hcell j (by omega)
        rw [Go.Deep.add_add] at this
        exact this
      have iR : Inhabited α := ⟨x0⟩
      obtain ⟨R, hR⟩ := Go.Deep.choose_lt each
      obtain ⟨sb, so, spot⟩ := a
      have hspot : spot = none := by
        have h1 := hR 0 (by omega) 0 E.pos
        have h2 : (E.c (R 0))[0]?.isSome = true := by
          rw [List.getElem?_eq_getElem (by rw [E.len]; exact E.pos)]
          rfl
        obtain ⟨u, hu2⟩ := Option.isSome_iff_exists.1 h2
        rw [hu2] at h1
        simpa [Addr.add] using World.cell?_spot h1
      subst hspot
      have hadd : ∀ j, (⟨sb, so, none⟩ : Addr).add j = ⟨sb, so + j, none⟩ := by
        intro j
        simp only [Addr.add]
        first
          | rfl
          | (split
             · next h0 => rw [h0]; rfl
             · rfl)
      refine ⟨_, _, _, (List.range len0).map R, hc, .inr ⟨sb, so, _, by simp, by simpa using hl, hm, fun i hi j u hu2 => ?_⟩⟩
      have hi2 : i < len0 := by simpa using hi
      have e : ((List.range len0).map R)[i] = R i := by simp
      rw [e] at hu2
      have hj : j < E.n := by
        have := (List.getElem?_eq_some_iff.1 hu2).1
        rw [E.len] at this
        exact this
      have hc := hR i (by omega) j hj
      rw [hadd, hu2, ← Nat.add_assoc] at hc
      exact hc
end
set_option maxRecDepth 100000 in
/-- One that came in. -/
theorem topo_open {H : Type} {enc : TypeId × Value → H} {W : World} {n : Nat} {cs : List Value} {x : DataW H × List MemPlace}
    (h : DataW.trod enc Tryz.prog W 0 (fun _ => true) true n 25 cs = some x) : ∃ S ao n cap ao2 n2 cap2 Ls Hs, cs = [.int .i64 S, .slice ao n cap, .slice ao2 n2 cap2] ∧ GS lnkE W (.slice ao n cap) Ls ∧ GS hstE W (.slice ao2 n2 cap2) Hs := by
  obtain ⟨xs, k, _, _, hl, hlen, hf⟩ := DataW.trod_struct Tryz.underlying25 h
  have hC : Tryz.prog.cellsOf 25 = 3 := by kernel_rfl
  have hT0 : Tryz.prog.cellsOf 3 = 1 := by kernel_rfl
  have hT1 : Tryz.prog.cellsOf 22 = 1 := by kernel_rfl
  have hT2 : Tryz.prog.cellsOf 23 = 1 := by kernel_rfl
  rw [hC] at hl
  match cs, hl with
  | [c0, c1, c2], _ =>
    match xs, hlen with
    | [z0, z1, z2], _ =>
      have g0 := hf 0 _ rfl
      have g1 := hf 1 _ rfl
      have g2 := hf 2 _ rfl
      simp [hT0, hT1, hT2] at g0 g1 g2
      obtain ⟨v0, e0, _, _⟩ := DataW.trod_int Tryz.underlying3 g0
      obtain ⟨ao, n, cap, Ls, e1, hL⟩ := gs_open (E := lnkE) 22 121 Tryz.underlying22 (by kernel_rfl) ((0, 0), (0, 0)) (fun _ _ _ h => lnk_open h) g1
      obtain ⟨ao2, n2, cap2, Hs, e2, hH⟩ := gs_open (E := hstE) 23 41 Tryz.underlying23 (by kernel_rfl) (ByteArray.empty, (0, 0)) (fun _ _ _ h => hst_open h) g2
      simp at e0 e1 e2
      exact ⟨v0, ao, n, cap, ao2, n2, cap2, Ls, Hs, by simp [e0, e1, e2], hL, hH⟩
theorem topo_of {H : Type} {enc : TypeId × Value → H} {W : World} {base : Nat} {v : Value} {d : DataW H} {p : List MemPlace}
    (hv : Value.okWide Tryz.prog W .any base 25 v) (h : DataW.Trod enc Tryz.prog W 0 (fun _ => true) true 25 v d p) : ∃ S ao n cap ao2 n2 cap2 Ls Hs, v = .agg #[.int .i64 S, .slice ao n cap, .slice ao2 n2 cap2] ∧ GS lnkE W (.slice ao n cap) Ls ∧ GS hstE W (.slice ao2 n2 cap2) Hs := by
  obtain ⟨cs, rfl, hsz⟩ := okWide_struct Tryz.underlying25 hv
  obtain ⟨n, hn⟩ := h
  obtain ⟨S, ao, n, cap, ao2, n2, cap2, Ls, Hs, e, h1, h2⟩ := topo_open hn
  refine ⟨S, ao, n, cap, ao2, n2, cap2, Ls, Hs, ?_, h1, h2⟩
  simp only [Value.cells] at e
  rw [← Array.toArray_toList (xs := cs), e]
end Go.Proofs.YtmpjoepfgfbjmaaGreatDoor
/- A net that came in: its topology, its tables. -/
namespace Go.Proofs.YtmpjoepfgfbjmaaGreatDoor
open Go.ChangeShapes Go.WideShapes Go.ChangeAt Go.RowKit Go.Joins
set_option linter.unusedSimpArgs false
set_option linter.unusedVariables false
set_option maxRecDepth 100000

theorem gs_SR {w : World} {v : Value} {L : List Ru} (h : GS rlE w v L) : SR w v L := by
  rcases h with h | ⟨g, o, cap, h1, h2, h3, h4⟩
  · exact .inl h
  · refine .inr ⟨g, o, cap, h1, h2, h3, fun i hi => ?_⟩
    have hv := h4 i hi
    generalize L[i] = r at hv
    obtain ⟨p, m, b, q, s, x⟩ := r
    obtain ⟨q0, q1, q2, q3, q4, q5⟩ := rl_cells hv
    exact ⟨q0, q1, q2, q3, q4, q5⟩
set_option maxRecDepth 100000 in
theorem table_open {H : Type} {enc : TypeId × Value → H} {W : World} {fuel : Nat} {cs : List Value} {x : DataW H × List MemPlace}
    (h : DataW.trod enc Tryz.prog W 0 (fun _ => true) true fuel 76 cs = some x) : ∃ ao n cap L, cs = [.slice ao n cap] ∧ SR W (.slice ao n cap) L := by
  obtain ⟨ao, n, cap, L, e, hL⟩ := gs_open (E := rlE) 76 63 Tryz.underlying76 (by kernel_rfl) zeR (fun _ _ _ h => rl_open h) h
  exact ⟨ao, n, cap, L, e, gs_SR hL⟩
set_option maxRecDepth 100000 in
theorem tables_open {H : Type} {enc : TypeId × Value → H} {W : World} {fuel : Nat} {cs : List Value} {x : DataW H × List MemPlace}
    (hf2 : DataW.trod enc Tryz.prog W 0 (fun _ => true) true fuel 26 cs = some x) : ∃ ao n cap Ts, cs = [.slice ao n cap] ∧ TS W (.slice ao n cap) Ts := by
  obtain ⟨d, p⟩ := x
  have hC : Tryz.prog.cellsOf 76 = 1 := by kernel_rfl
  rcases Go.Deep.open_slice Tryz.underlying26 hf2 with ⟨hc, hx⟩ | ⟨a, len0, cap, m, k, D, Pl, hc, _, hl, hm, hmm, hx, hall⟩
  · exact ⟨_, _, _, [], hc, .inl ⟨none, 0, rfl, rfl⟩⟩
  · simp only [if_true] at hmm
    subst hmm
    rcases Nat.eq_zero_or_pos len0 with h0 | h0
    · subst h0
      exact ⟨_, _, _, [], hc, .inl ⟨_, _, rfl, rfl⟩⟩
    · have each : ∀ i, i < m → ∃ L : List Ru, ∃ ao n cap, W.cell? (a.add i) = some (.slice ao n cap) ∧ SR W (.slice ao n cap) L := by
        intro i hi
        obtain ⟨cs, h1, h2⟩ := hall i hi
        rw [hC] at h1
        obtain ⟨_, hlen, hcell⟩ := World.cells?_some h1
        obtain ⟨ao, n, cap, L, rfl, hL⟩ := table_open h2
        refine ⟨L, ao, n, cap, ?_, hL⟩
        have := hcell 0 (by simp)
        rw [Go.Deep.add_add] at this
        simpa using this
      obtain ⟨R, hR⟩ := Go.Deep.choose_lt each
      obtain ⟨sb, so, spot⟩ := a
      have hspot : spot = none := by
        obtain ⟨ao, n, cap, h1, _⟩ := hR 0 (by omega)
        simpa [Addr.add] using World.cell?_spot h1
      subst hspot
      have hadd : ∀ j, (⟨sb, so, none⟩ : Addr).add j = ⟨sb, so + j, none⟩ := by
        intro j
        simp only [Addr.add]
        first
          | rfl
          | (split
             · next h0 => rw [h0]; rfl
             · rfl)
      refine ⟨_, _, _, (List.range len0).map R, hc, .inr ⟨sb, so, _, by simp, by simpa using hl, hm, fun i hi => ?_⟩⟩
      have hi2 : i < len0 := by simpa using hi
      have e : ((List.range len0).map R)[i] = R i := by simp
      rw [e]
      obtain ⟨ao, n, cap, h1, h2⟩ := hR i (by omega)
      rw [hadd] at h1
      exact ⟨ao, n, cap, h1, h2⟩
set_option maxRecDepth 100000 in
/-- One that came in. -/
theorem net_open {H : Type} {enc : TypeId × Value → H} {W : World} {n : Nat} {cs : List Value} {x : DataW H × List MemPlace}
    (h : DataW.trod enc Tryz.prog W 0 (fun _ => true) true n 28 cs = some x) : ∃ S ao n cap ao2 n2 cap2 ao3 n3 cap3 Ls Hs Ts, cs = [.int .i64 S, .slice ao n cap, .slice ao2 n2 cap2, .slice ao3 n3 cap3] ∧ GS lnkE W (.slice ao n cap) Ls ∧ GS hstE W (.slice ao2 n2 cap2) Hs ∧ TS W (.slice ao3 n3 cap3) Ts := by
  obtain ⟨xs, k, _, _, hl, hlen, hf⟩ := DataW.trod_struct Tryz.underlying28 h
  have hC : Tryz.prog.cellsOf 28 = 4 := by kernel_rfl
  have hT0 : Tryz.prog.cellsOf 25 = 3 := by kernel_rfl
  have hT1 : Tryz.prog.cellsOf 26 = 1 := by kernel_rfl
  rw [hC] at hl
  match cs, hl with
  | [c0, c1, c2, c3], _ =>
    match xs, hlen with
    | [z0, z1], _ =>
      have g0 := hf 0 _ rfl
      have g1 := hf 1 _ rfl
      simp [hT0, hT1] at g0 g1
      obtain ⟨S, ao, n, cap, ao2, n2, cap2, Ls, Hs, e0, hL, hH⟩ := topo_open g0
      obtain ⟨ao3, n3, cap3, Ts, e1, hT⟩ := tables_open g1
      simp at e0 e1
      exact ⟨S, ao, n, cap, ao2, n2, cap2, ao3, n3, cap3, Ls, Hs, Ts, by simp [e0, e1], hL, hH, hT⟩
theorem net_of {H : Type} {enc : TypeId × Value → H} {W : World} {base : Nat} {v : Value} {d : DataW H} {p : List MemPlace}
    (hv : Value.okWide Tryz.prog W .any base 28 v) (h : DataW.Trod enc Tryz.prog W 0 (fun _ => true) true 28 v d p) : ∃ S ao n cap ao2 n2 cap2 ao3 n3 cap3 Ls Hs Ts, v = .agg #[.int .i64 S, .slice ao n cap, .slice ao2 n2 cap2, .slice ao3 n3 cap3] ∧ GS lnkE W (.slice ao n cap) Ls ∧ GS hstE W (.slice ao2 n2 cap2) Hs ∧ TS W (.slice ao3 n3 cap3) Ts := by
  obtain ⟨cs, rfl, hsz⟩ := okWide_struct Tryz.underlying28 hv
  obtain ⟨n, hn⟩ := h
  obtain ⟨S, ao, n, cap, ao2, n2, cap2, ao3, n3, cap3, Ls, Hs, Ts, e, h1, h2, h3⟩ := net_open hn
  refine ⟨S, ao, n, cap, ao2, n2, cap2, ao3, n3, cap3, Ls, Hs, Ts, ?_, h1, h2, h3⟩
  simp only [Value.cells] at e
  rw [← Array.toArray_toList (xs := cs), e]
end Go.Proofs.YtmpjoepfgfbjmaaGreatDoor
