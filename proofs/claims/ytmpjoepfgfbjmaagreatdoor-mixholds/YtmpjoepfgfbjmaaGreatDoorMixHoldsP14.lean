/- Contracts and facts on the way to MixHolds, joined into one text: MixHolds, BoolsOf, MixHoldsRow. -/
import Derived.Test.YtmpjoepfgfbjmaaGreatDoorMixHoldsP12
import Derived.Test.YtmpjoepfgfbjmaaGreatDoorMixHoldsP13
import Derived.Test.YtmpjoepfgfbjmaaGreatDoorMixHoldsP7
import Derived.Test.YtmpjoepfgfbjmaaGreatDoorMixHoldsP6
import Derived.Test.YtmpjoepfgfbjmaaGreatDoorMixHoldsP9
import Derived.Deep.RegionHeld3
import Derived.Deep.CutRange
import Derived.Deep.CutBlock
import Derived.ProofKit
import Derived.OpenShut
import Derived.ChangeOld
import Derived.Below
import Derived.Lib.SmallJoins
import Derived.ChangeSame
import Derived.ChangeVars
import Derived.JoinedOf
import Derived.RowKit
import Derived.RowKitTokens
import Derived.LaidLaws
import Derived.LaidHandle
import Derived.Stop.Joined
/- What raillaw2.MixHolds answers: true, of any net, ops, wishes, name, header and marks. -/
namespace Go.Proofs.YtmpjoepfgfbjmaaGreatDoor.mixHolds
open Go.RowKit
set_option linter.unusedSimpArgs false
set_option linter.unusedVariables false

/-- Marks, a cell each. -/
def boE : Enc Bool where
  c := fun x => [.bool x]
  n := 1
  len := fun _ => rfl
  pos := by decide
  one := by
    intro x u hu
    simp at hu
    subst hu
    rfl
theorem al (X : World) (o : Obj) : ∃ Y, X.alloc o = Y ∧ Below X.heap.size X Y ∧ Y.heap.size = X.heap.size + 1 := ⟨_, rfl, (Below.refl _ _).alloc (Nat.le_refl _) _, by simp⟩
theorem ts_nil (W : World) (t : TypeId) : TS (W.alloc (.cells #[.slice none 0 0] t)) (.slice (some ⟨W.heap.size, 0, none⟩) 1 1) [[]] := by
  refine .inr ⟨W.heap.size, 0, 1, rfl, Nat.le_refl _, by unfold maxLen; omega, ?_⟩
  intro i hi
  match i, hi with
  | 0, _ => exact ⟨none, 0, 0, by simp, .inl ⟨none, 0, rfl, rfl⟩⟩
theorem see_small {S : Int} {Ls : List ((Int × Int) × (Int × Int))} {Hs : List (ByteArray × (Int × Int))} {Ts : List (List Ru)} {l : List Op8} {m : ByteArray} {h : Int} : ∀ x ∈ snL S Ls Hs Ts l m h, x.2.2.length ≤ 1000 := by
  intro x hx
  by_cases h0 : snN S Ls Hs Ts l m h = 0
  · obtain ⟨e1, e2, e3⟩ := sn_parts h0
    rw [(sn_0 e1 e2 e3).2] at hx
    obtain ⟨ht, hS, hA, hB⟩ := cg_ok e1
    have := (ps_small ht ((ps_mem ht hA hB (we_sp ht e2) h x).2 hx)).2.1
    omega
  · unfold snL at hx
    rw [if_neg h0] at hx
    cases hx
/-- A copy of a slice of tables, behind an empty one that is new. -/
theorem wpList_append_lit (X : World) {ops : Array Oper} {rest : List Oper} {o : Oper} {a : Act} {Q : Exit → Act → World → Prop} (hgd : o.guard = none) (s x : Operand) (t : TypeId)
    (ho : o.op = .call { callee := .builtin .append, args := #[s, x], argTypes := #[t, t] }) (ht : Tryz.prog.underlying t = some (.slice 76))
    (hs : a.eval s = .slice (some ⟨X.heap.size, 0, none⟩) 0 0) (u : Value) (hx : a.eval x = u) (Ts : List (List Ru)) (w0 : World) (hM : TS w0 u Ts) (hb : Below w0.heap.size w0 X) (h100 : Ts.length ≤ 1000000)
    (h : ∀ v' w' vs, TR 76 w' w0.heap.size X.heap.size v' vs Ts → X.grownBy w' none → wpList Tryz.prog ops Q rest (a.put o.dst v') w') : wpList Tryz.prog ops Q (o :: rest) a (X.alloc (.cells #[] 76)) := by
  obtain ⟨i0, hi, hz0, hz1, hz2⟩ := info_parts ta_info
  obtain ⟨vs, g1, g2, g3⟩ := ts_sl hM
  have hal : Below X.heap.size X (X.alloc (.cells #[] 76)) := (Below.refl _ _).alloc (Nat.le_refl _) _
  refine wpList_append_GS (E := slE) (X.alloc (.cells #[] 76)) hgd s x t 76 ho ht i0 _ 24 hi hz0 hz1 hz2 ta_zero X.heap.size _ hs [] (World.ownsRow_made X #[] 0 (Nat.le_refl _) (Nat.zero_le _) rfl) u hx vs (g1.later (hb.trans (hal.mono hb.size))) (by unfold maxLen; simp [g2]; omega) (by simp [g2]; omega) (by simp) ?_
  intro v' w' h1 h2
  have hgn : X.grownBy w' none := ⟨h2.os, h2.tape, h2.output, Nat.le_trans hal.size h2.size, fun k hk _ => (h2.block k (Nat.lt_of_lt_of_le hk hal.size) (fun e => by simp [Value.ownBlock] at e; omega)).trans (hal.block k hk)⟩
  exact h v' w' vs (tr_copy g2 g3 hb hgn hb.size h1) hgn
theorem mx_zero (As Bs : List (List Ru)) (D : List Bool) : mxT As Bs (D.take 0) = As := by
  refine List.ext_getElem (by rw [mx_len]) fun i h1 h2 => ?_
  simp [mxT, List.getD, h2]
theorem mx_next {As Bs : List (List Ru)} {D : List Bool} (hl : Bs.length = As.length) {k : Nat} (hk : k < D.length) (hn : k < As.length) : mxT As Bs (D.take (k + 1)) = if D[k] = true then (mxT As Bs (D.take k)).set k (Bs.getD k []) else mxT As Bs (D.take k) := by
  have each : ∀ i, (D.take (k + 1)).getD i false = if i = k then D[k] else (D.take k).getD i false := by
    intro i
    by_cases e : i = k
    · subst e
      simp [List.getD, hk]
    · simp only [List.getD, List.getElem?_take, if_neg e]
      by_cases h1 : i < k
      · simp [h1, show i < k + 1 by omega]
      · simp [h1, show ¬ i < k + 1 by omega]
  cases hd : D[k]
  · rw [if_neg (by decide)]
    refine List.ext_getElem (by rw [mx_len, mx_len]) fun i h1 h2 => ?_
    simp only [mxT, List.getElem_map, List.getElem_range, each]
    by_cases e : i = k
    · subst e
      have : (D.take i).getD i false = false := by rw [List.getD_eq_getElem?_getD, List.getElem?_eq_none (by rw [List.length_take]; omega)]; rfl
      rw [if_pos rfl, hd, this]
    · rw [if_neg e]
  · rw [if_pos rfl]
    refine List.ext_getElem (by rw [List.length_set, mx_len, mx_len]) fun i h1 h2 => ?_
    rw [List.getElem_set]
    simp only [mxT, List.getElem_map, List.getElem_range, each]
    by_cases e : i = k
    · subst e
      rw [if_pos rfl, if_pos hd, if_pos rfl]
    · have e2 : ¬ k = i := fun h => e h.symm
      simp only [if_neg e, if_neg e2]
/-- A net in its box, whose tables a call owns. -/
structure MB (wc wr : World) (S : Int) (v1 v2 v : Value) (vs : List SlT) (Ms : List (List Ru)) : Prop where
  below : Below wc.heap.size wc wr
  box : NeBox wr wc.heap.size S v1 v2 v
  tr : TR 76 wr wc.heap.size (wc.heap.size + 1) v vs Ms
/-- A wish and a fate, each in its row: a class of worlds. -/
def CW (wr : World) (g o : Nat) (y0 : Int) (y1 y2 : ByteArray) (y3 : Int) (f p : Nat) (x : Ft) (a3 : Option Addr) (n3 c3 : Nat) (w' : World) : Prop :=
  Below wr.heap.size wr w' ∧ (w'.cell? ⟨g, o, none⟩ = some (.int .i64 y0) ∧ w'.cell? ⟨g, o + 1, none⟩ = some (.string y1) ∧ w'.cell? ⟨g, o + 2, none⟩ = some (.string y2) ∧ w'.cell? ⟨g, o + 3, none⟩ = some (.int .i64 y3)) ∧ (w'.cell? ⟨f, p, none⟩ = some (.int .i64 x.1) ∧ w'.cell? ⟨f, p + 1, none⟩ = some (.string x.2.1) ∧ w'.cell? ⟨f, p + 2, none⟩ = some (.slice a3 n3 c3)) ∧ GS hopE w' (.slice a3 n3 c3) x.2.2
theorem CW.later {wr : World} {g o : Nat} {y0 : Int} {y1 y2 : ByteArray} {y3 : Int} {f p : Nat} {x : Ft} {a3 : Option Addr} {n3 c3 : Nat} {W W' : World} (hb : Below W.heap.size W W') (h : CW wr g o y0 y1 y2 y3 f p x a3 n3 c3 W) : CW wr g o y0 y1 y2 y3 f p x a3 n3 c3 W' := by
  obtain ⟨h0, ⟨h1, h2, h3, h4⟩, ⟨h5, h6, h7⟩, h8⟩ := h
  exact ⟨h0.trans (hb.mono h0.size), ⟨cell_later hb h1, cell_later hb h2, cell_later hb h3, cell_later hb h4⟩, ⟨cell_later hb h5, cell_later hb h6, cell_later hb h7⟩, h8.later hb⟩
/-- With a proof in its box. -/
def CY (wr : World) (gP : Nat) (i : Int) (q : ByteArray) (g o : Nat) (y0 : Int) (y1 y2 : ByteArray) (y3 : Int) (f p : Nat) (x : Ft) (a3 : Option Addr) (n3 c3 : Nat) (w' : World) : Prop :=
  CW wr g o y0 y1 y2 y3 f p x a3 n3 c3 w' ∧ w'.cell? ⟨gP, 0, none⟩ = some (.int .i64 i) ∧ w'.cell? ⟨gP, 1, none⟩ = some (.string q)
theorem CY.later {wr : World} {gP : Nat} {i : Int} {q : ByteArray} {g o : Nat} {y0 : Int} {y1 y2 : ByteArray} {y3 : Int} {f p : Nat} {x : Ft} {a3 : Option Addr} {n3 c3 : Nat} {W W' : World} (hb : Below W.heap.size W W') (h : CY wr gP i q g o y0 y1 y2 y3 f p x a3 n3 c3 W) : CY wr gP i q g o y0 y1 y2 y3 f p x a3 n3 c3 W' := ⟨h.1.later hb, cell_later hb h.2.1, cell_later hb h.2.2⟩
theorem any_in {G : List Ft} {y : Ft} (h : y ∈ G) : (G.any fun x => fqB x y) = true := List.any_eq_true.2 ⟨y, h, (fq_iff _ _).2 rfl⟩
set_option maxHeartbeats 8000000 in
set_option maxRecDepth 100000 in
theorem walk (S : Int) (ao : Option Addr) (n cap : Nat) (ao2 : Option Addr) (n2 cap2 : Nat) (ao3 : Option Addr) (n3 cap3 : Nat) (a4 : Option Addr) (n4 c4 : Nat) (a5 : Option Addr) (n5 c5 : Nat) (m : ByteArray) (h : Int) (a6 : Option Addr) (n6 c6 : Nat) (Ls : List ((Int × Int) × (Int × Int))) (Hs : List (ByteArray × (Int × Int))) (Ts : List (List Ru)) (l : List Op8) (ws : List Wi) (D : List Bool) (w : World)
    (hL : GS lnkE w (.slice ao n cap) Ls) (hH : GS hstE w (.slice ao2 n2 cap2) Hs) (hT : TS w (.slice ao3 n3 cap3) Ts) (hl : GS opE w (.slice a4 n4 c4) l) (hw : GS wisE w (.slice a5 n5 c5) ws) (hD : GS boE w (.slice a6 n6 c6) D) (hg : HasErr w) :
    Calls Tryz.prog 4 #[.agg #[.int .i64 S, .slice ao n cap, .slice ao2 n2 cap2, .slice ao3 n3 cap3], .slice a4 n4 c4, .slice a5 n5 c5, .string m, .int .i64 h, .slice a6 n6 c6] w fun e w' => e = .returned (.bool true) ∧ Below w.heap.size w w' := by
  obtain ⟨w1, hw1, hb1, hs1⟩ := al w (Obj.cells #[.int .i64 S, .slice ao n cap, .slice ao2 n2 cap2, .slice ao3 n3 cap3] 28)
  have hbn : BN w1 w.heap.size S (.slice ao n cap) (.slice ao2 n2 cap2) (.slice ao3 n3 cap3) Ls Hs Ts := by rw [← hw1]; exact bn_new 28 hL hH hT
  have HBN : Hid (∀ W, Below w1.heap.size w1 W → BN W w.heap.size S (.slice ao n cap) (.slice ao2 n2 cap2) (.slice ao3 n3 cap3) Ls Hs Ts) := fun W h => hbn.later h
  have HOP : Hid (∀ W, Below w1.heap.size w1 W → GS opE W (.slice a4 n4 c4) l) := fun W h => (hl.later hb1).later h
  have HWS : Hid (∀ W, Below w1.heap.size w1 W → GS wisE W (.slice a5 n5 c5) ws) := fun W h => (hw.later hb1).later h
  have HDW : Hid (∀ W, Below w1.heap.size w1 W → GS boE W (.slice a6 n6 c6) D) := fun W h => (hD.later hb1).later h
  have HGW : Hid (∀ W, Below w1.heap.size w1 W → HasErr W) := fun W h => (hg.later hb1).later h
  have HTN : Hid (Ts.length = n3) := hT.len
  have HB1 : Hid (Below w.heap.size w w1) := hb1
  have HW1 : Hid (w.alloc (Obj.cells #[.int .i64 S, .slice ao n cap, .slice ao2 n2 cap2, .slice ao3 n3 cap3] 28) = w1) := hw1
  have HS1 : Hid (w1.heap.size = w.heap.size + 1) := hs1
  clear hL hH hT hl hw hD hg hb1 hbn hw1
  obtain ⟨x1, hx1, hbx1, hsx1⟩ := al w1 (Obj.cells #[.string ⟨#[97]⟩, .int .i64 1, .int .i64 2] 41)
  have hHo : GS hstE x1 (.slice (some ⟨w1.heap.size, 0, none⟩) 1 1) [(⟨#[97]⟩, (1, 2))] := by
    rw [← hx1]
    exact gs_one (E := hstE) w1 (⟨#[97]⟩, (1, 2)) 41 (vs := [.string ⟨#[97]⟩, .int .i64 1, .int .i64 2]) rfl
  obtain ⟨x2, hx2, hbx2, hsx2⟩ := al x1 (Obj.cells #[.slice none 0 0] 76)
  have hTo : TS x2 (.slice (some ⟨x1.heap.size, 0, none⟩) 1 1) [[]] := by rw [← hx2]; exact ts_nil x1 76
  obtain ⟨x3, hx3, hbx3, hsx3⟩ := al x2 (Obj.cells #[.int .i64 1, .slice none 0 0, .slice (some ⟨w1.heap.size, 0, none⟩) 1 1, .slice (some ⟨x1.heap.size, 0, none⟩) 1 1] 28)
  obtain ⟨x4, hx4, hbx4, hsx4⟩ := al x3 (Obj.cells #[.int .i64 1, .bool true, .int .i64 1, .int .i64 0, .int .i64 0, .int .i64 2, .int .i64 0, .int .i64 0] 65)
  have hOo : GS opE x4 (.slice (some ⟨x3.heap.size, 0, none⟩) 1 1) [⟨1, true, ⟨1, 0, 0, 2, 0, 0⟩⟩] := by rw [← hx4]; exact op_row x3 1 true 1 0 0 2 0 0 65
  have HBX4 : Hid (Below w1.heap.size w1 x4) := ((hbx1.trans (hbx2.mono (by omega))).trans (hbx3.mono (by omega))).trans (hbx4.mono (by omega))
  have HGX : Hid (GS hstE x4 (.slice (some ⟨w1.heap.size, 0, none⟩) 1 1) [(⟨#[97]⟩, (1, 2))] ∧ TS x4 (.slice (some ⟨x1.heap.size, 0, none⟩) 1 1) [[]] ∧ GS opE x4 (.slice (some ⟨x3.heap.size, 0, none⟩) 1 1) [⟨1, true, ⟨1, 0, 0, 2, 0, 0⟩⟩]) := ⟨((hHo.later hbx2).later hbx3).later hbx4, (hTo.later hbx3).later hbx4, hOo⟩
  rw [hsx3, hsx2, hsx1] at HGX
  have HX4 : Hid ((((w1.alloc (Obj.cells #[.string ⟨#[97]⟩, .int .i64 1, .int .i64 2] 41)).alloc (Obj.cells #[.slice none 0 0] 76)).alloc (Obj.cells #[.int .i64 1, .slice none 0 0, .slice (some ⟨w1.heap.size, 0, none⟩) 1 1, .slice (some ⟨w1.heap.size + 1, 0, none⟩) 1 1] 28)).alloc (Obj.cells #[.int .i64 1, .bool true, .int .i64 1, .int .i64 0, .int .i64 0, .int .i64 2, .int .i64 0, .int .i64 0] 65) = x4) := by
    show _ = _
    rw [hx1, hx2, ← hsx1, hx3, hx4]
  clear hx1 hbx1 hsx1 hHo hx2 hbx2 hsx2 hTo hx3 hbx3 hsx3 hx4 hbx4 hsx4 hOo hs1
  rw [HS1.out] at HGX HX4
  go_enter Tryz.func4, Tryz.ntmps4
  go_wp2_with fail
  rw [HW1.out, HX4.out]
  refine (seen_any 1 none 0 0 (some ⟨w.heap.size + 1, 0, none⟩) 1 1 (some ⟨w.heap.size + 1 + 1, 0, none⟩) 1 1 (some ⟨w.heap.size + 1 + 1 + 1 + 1, 0, none⟩) 1 1 [] [(⟨#[97]⟩, (1, 2))] [[]] [⟨1, true, ⟨1, 0, 0, 2, 0, 0⟩⟩] ⟨#[97]⟩ 3 x4 (GS.nil _) HGX.out.1 HGX.out.2.1 HGX.out.2.2).mono ?_
  rintro e w2 ⟨b1, k1, d1, rfl, hF, hb2⟩
  have HB2 : Hid (Below w1.heap.size w1 w2) := HBX4.out.trans (hb2.mono HBX4.out.size)
  rw [one_mix.1, no_ok rfl]
  obtain ⟨y0, y1, hy⟩ : ∃ y0 y1, snL 1 [] [(⟨#[97]⟩, (1, 2))] [[]] [⟨1, true, ⟨1, 0, 0, 2, 0, 0⟩⟩] ⟨#[97]⟩ 3 = [(1, y0), (2, y1)] := by
    have h := one_mix.2
    generalize snL 1 [] [(⟨#[97]⟩, (1, 2))] [[]] [⟨1, true, ⟨1, 0, 0, 2, 0, 0⟩⟩] ⟨#[97]⟩ 3 = L at h
    match L, h with
    | [(a, x), (b, y)], h =>
      simp at h
      obtain ⟨rfl, rfl⟩ := h
      exact ⟨x, y, rfl⟩
  rw [hy] at hF
  have hk1 := hF.len
  simp only [List.length_cons, List.length_nil] at hk1
  subst hk1
  obtain ⟨g, o, x, a3, n3', c3', hao, hx, r0, _, _, _⟩ := hF.at (k := 0) (by omega)
  obtain ⟨g', o', x', a3', n3'', c3'', hao', hx', r1, _, _, _⟩ := hF.at (k := 1) (by omega)
  subst hao
  cases hao'
  have e0 : x = (1, y0) := by simpa using hx.symm
  have e1 : x' = (2, y1) := by simpa using hx'.symm
  subst e0
  subst e1
  simp only [Nat.zero_mul, Nat.add_zero, Nat.one_mul, Nat.zero_add] at r0 r1
  obtain ⟨q0, q1, q2, q3⟩ := (HBN.out w2 HB2.out).c
  clear hF hb2 HBX4 HGX HX4 hx hx' hy HW1
  go_wp2_with fail
  refine (seen_any S ao n cap ao2 n2 cap2 ao3 n3 cap3 a4 n4 c4 Ls Hs Ts l m h w2 (HBN.out _ HB2.out).l (HBN.out _ HB2.out).h (HBN.out _ HB2.out).t (HOP.out _ HB2.out)).mono ?_
  rintro e w3 ⟨b7, k7, d7, rfl, hF7, hb3⟩
  have HB3 : Hid (Below w1.heap.size w1 w3) := HB2.out.trans (hb3.mono HB2.out.size)
  obtain ⟨N, hN⟩ : ∃ N, N = snN S Ls Hs Ts l m h := ⟨_, rfl⟩
  rw [← hN]
  have HN : Hid (snN S Ls Hs Ts l m h = N) := hN.symm
  obtain ⟨G, hG⟩ : ∃ G, G = snL S Ls Hs Ts l m h := ⟨_, rfl⟩
  rw [← hG] at hF7
  have HG : Hid (snL S Ls Hs Ts l m h = G) := hG.symm
  have HF7 : Hid (∀ W, Below w3.heap.size w3 W → FTs W (.slice b7 k7 d7) G) := fun W hb => hF7.later hb
  have HGS : Hid (∀ x ∈ G, x.2.2.length ≤ 1000) := by rw [hG]; exact see_small
  have HGL : Hid (G.length = k7) := hF7.len
  have hk7 : k7 ≤ maxLen ∧ k7 ≤ d7 := by
    obtain ⟨_, _, _, e, _, h2, h3⟩ := hF7.form
    cases e
    exact ⟨h2, h3⟩
  unfold maxLen at hk7
  obtain ⟨hk7, hk7c⟩ := hk7
  clear hN hG hF7 hb3 q0 q1 q2 q3 r0 r1
  by_cases h0 : N = 0
  · subst h0
    rw [no_ok rfl]
    obtain ⟨e1, e2, e3⟩ := sn_parts HN.out
    have HGE : Hid (G = seeL Ls Hs Ts (caT Ts l) (weV S Ls Hs m) h) := by
      show _ = _
      rw [← HG.out]
      exact (sn_0 e1 e2 e3).2
    have HCG : Hid (cgN S Ls Hs Ts l = 0) := e1
    have HWE : Hid (weN S Ls Hs m = 0) := e2
    have HHD : Hid (hdrB h = true) := e3
    obtain ⟨q0, q1, q2, q3⟩ := (HBN.out w3 HB3.out).c
    clear e1 e2 e3
    go_wp2_with fail
    refine (chApply_any S ao n cap ao2 n2 cap2 ao3 n3 cap3 a4 n4 c4 Ls Hs Ts l w3 (HBN.out _ HB3.out).l (HBN.out _ HB3.out).h (HBN.out _ HB3.out).t (HOP.out _ HB3.out)).mono ?_
    rintro e w4 ⟨p1, j1, f1, p2, j2, f2, p3, j3, f3, rfl, g1, g2, g3, hb4⟩
    rw [HCG.out] at g1 g2 g3 ⊢
    rw [no_ok rfl]
    simp only [nvS, if_true]
    simp only [nvL, if_true] at g1 g2 g3
    have HB4 : Hid (Below w1.heap.size w1 w4) := HB3.out.trans (hb4.mono HB3.out.size)
    have H34 : Hid (Below w3.heap.size w3 w4) := hb4
    obtain ⟨w5, hw5, hb5, hs5⟩ := al w4 (Obj.cells #[.int .i64 S, .slice p1 j1 f1, .slice p2 j2 f2, .slice p3 j3 f3] 28)
    have hob : BN w5 w4.heap.size S (.slice p1 j1 f1) (.slice p2 j2 f2) (.slice p3 j3 f3) Ls Hs (caT Ts l) := by rw [← hw5]; exact bn_new 28 g1 g2 g3
    have HOB : Hid (∀ W, Below w5.heap.size w5 W → BN W w4.heap.size S (.slice p1 j1 f1) (.slice p2 j2 f2) (.slice p3 j3 f3) Ls Hs (caT Ts l)) := fun W hb => hob.later hb
    have HJ3 : Hid (j3 = n3) := by
      have h1 := g3.len
      rw [ca_len, HTN.out] at h1
      exact h1.symm
    have HB5 : Hid (Below w1.heap.size w1 w5) := HB4.out.trans (hb5.mono HB4.out.size)
    have H35 : Hid (Below w3.heap.size w3 w5) := H34.out.trans (hb5.mono H34.out.size)
    have HW5 : Hid (w4.alloc (Obj.cells #[.int .i64 S, .slice p1 j1 f1, .slice p2 j2 f2, .slice p3 j3 f3] 28) = w5) := hw5
    have HS5 : Hid (w5.heap.size = w4.heap.size + 1) := hs5
    clear g1 g2 g3 hb4 hw5 hb5 hs5 hob q0 q1 q2 q3 HB4 H34
    go_upto_region 9 with fail
    rw [HW5.out]
    clear HW5
    obtain ⟨q0, q1, q2, q3⟩ := (HBN.out w5 HB5.out).c
    go_wp2_with fail
    refine (send_any S ao n cap ao2 n2 cap2 ao3 n3 cap3 Ls Hs Ts m h w5 (HBN.out _ HB5.out).l (HBN.out _ HB5.out).h (HBN.out _ HB5.out).t).mono ?_
    rintro e w6 ⟨a7, n7, c7, rfl, ho7, hb6⟩
    obtain ⟨s1, s2⟩ := se_ok (S := S) (Ls := Ls) (Hs := Hs) (m := m) (h := h) (cg_nt HCG.out).1 HWE.out HHD.out
    rw [s1, no_ok rfl, s2]
    rw [s2] at ho7
    obtain ⟨⟨V1, V2, V3⟩, hV⟩ : ∃ V, V = frF Ls Hs Ts (weV S Ls Hs m) h := ⟨_, rfl⟩
    have HVG : Hid ((V1, V2, V3) ∈ G) := by
      show _ ∈ _
      rw [HGE.out, hV]
      exact see_old HCG.out _ _
    rw [← hV] at ho7 ⊢
    dsimp only
    obtain ⟨w7, hw7, hb7, hs7⟩ := al w6 (Obj.cells #[.int .i64 V1, .string V2, .slice a7 n7 c7] 68)
    have hfa := (fabox_new w6 V1 V2 (.slice a7 n7 c7) 68)
    rw [hw7] at hfa
    have HFA : Hid (∀ W, Below w7.heap.size w7 W → FaBox W w6.heap.size V1 V2 (.slice a7 n7 c7) ∧ GS hopE W (.slice a7 n7 c7) V3) := fun W hb => ⟨hfa.later hb, ((own_GS (E := hopE) ho7).later hb7).later hb⟩
    have H57 : Hid (Below w5.heap.size w5 w7) := hb6.trans (hb7.mono hb6.size)
    have HW7 : Hid (w6.alloc (Obj.cells #[.int .i64 V1, .string V2, .slice a7 n7 c7] 68) = w7) := hw7
    have HB7 : Hid (Below w1.heap.size w1 w7) := HB5.out.trans (H57.out.mono HB5.out.size)
    clear s1 s2 hV ho7 hb6 hw7 hb7 hs7 hfa q0 q1 q2 q3
    go_upto_region 10 with fail
    rw [HW7.out]
    clear HW7
    obtain ⟨q0, q1, q2, q3⟩ := (HOB.out w7 H57.out).c
    go_wp2_with fail
    refine (send_any S p1 j1 f1 p2 j2 f2 p3 j3 f3 Ls Hs (caT Ts l) m h w7 (HOB.out _ H57.out).l (HOB.out _ H57.out).h (HOB.out _ H57.out).t).mono ?_
    rintro e w8 ⟨a8, n8, c8, rfl, ho8, hb8⟩
    obtain ⟨s1, s2⟩ := se_ok (S := S) (Ls := Ls) (Hs := Hs) (m := m) (h := h) (nt_ca (cg_nt HCG.out).1 (cg_nt HCG.out).2) HWE.out HHD.out
    rw [s1, no_ok rfl, s2]
    rw [s2] at ho8
    obtain ⟨⟨U1, U2, U3⟩, hU⟩ : ∃ V, V = frF Ls Hs (caT Ts l) (weV S Ls Hs m) h := ⟨_, rfl⟩
    have HUG : Hid ((U1, U2, U3) ∈ G) := by
      show _ ∈ _
      rw [HGE.out, hU]
      exact see_new HCG.out _ _
    rw [← hU] at ho8 ⊢
    dsimp only
    obtain ⟨w9, hw9, hb9, hs9⟩ := al w8 (Obj.cells #[.int .i64 U1, .string U2, .slice a8 n8 c8] 68)
    have hfb := (fabox_new w8 U1 U2 (.slice a8 n8 c8) 68)
    rw [hw9] at hfb
    have HFB : Hid (∀ W, Below w9.heap.size w9 W → FaBox W w8.heap.size U1 U2 (.slice a8 n8 c8) ∧ GS hopE W (.slice a8 n8 c8) U3) := fun W hb => ⟨hfb.later hb, ((own_GS (E := hopE) ho8).later hb9).later hb⟩
    have H79 : Hid (Below w7.heap.size w7 w9) := hb8.trans (hb9.mono hb8.size)
    have H59 : Hid (Below w5.heap.size w5 w9) := H57.out.trans (H79.out.mono H57.out.size)
    have H39 : Hid (Below w3.heap.size w3 w9) := H35.out.trans (H59.out.mono H35.out.size)
    have HW9 : Hid (w8.alloc (Obj.cells #[.int .i64 U1, .string U2, .slice a8 n8 c8] 68) = w9) := hw9
    clear s1 s2 hU ho8 hb8 hw9 hb9 hs9 hfb q0 q1 q2 q3
    go_upto_region 11 with fail
    rw [HW9.out]
    clear HW9
    obtain ⟨⟨q0, q1, q2⟩, hGa⟩ := HFA.out w9 H79.out
    have HGa : Hid (GS hopE w9 (.slice a7 n7 c7) V3) := hGa
    clear hGa
    go_wp2_with fail
    refine (has_all b7 k7 d7 (V1, V2, V3) a7 n7 c7 G w9 (HF7.out _ H39.out) HGa.out HGS.out).mono ?_
    rintro e w10 ⟨rfl, hb10⟩
    rw [any_in HVG.out]
    have H910 : Hid (Below w9.heap.size w9 w10) := hb10
    have H310 : Hid (Below w3.heap.size w3 w10) := H39.out.trans (hb10.mono H39.out.size)
    clear hb10 q0 q1 q2
    obtain ⟨⟨q0, q1, q2⟩, hGb⟩ := HFB.out w10 H910.out
    have HGb : Hid (GS hopE w10 (.slice a8 n8 c8) U3) := hGb
    clear hGb
    go_wp2_with fail
    refine (has_all b7 k7 d7 (U1, U2, U3) a8 n8 c8 G w10 (HF7.out _ H310.out) HGb.out HGS.out).mono ?_
    rintro e w11 ⟨rfl, hb11⟩
    rw [any_in HUG.out]
    have H911 : Hid (Below w9.heap.size w9 w11) := H910.out.trans (hb11.mono H910.out.size)
    have H311 : Hid (Below w3.heap.size w3 w11) := H310.out.trans (hb11.mono H310.out.size)
    have H511 : Hid (Below w5.heap.size w5 w11) := H59.out.trans (H911.out.mono H59.out.size)
    have H111 : Hid (Below w1.heap.size w1 w11) := HB3.out.trans (H311.out.mono HB3.out.size)
    clear hb11 q0 q1 q2 HGa HGb HFA HFB HVG HUG H79 H59 H39 H57 H35 H910 H310 H911 HB5 HB7
    go_upto_block 0 with fail
    go_cut [26, 27] from 128 to 145 (fun _ _ w' => Below w11.heap.size w11 w')
    case first =>
      go_wp2_with fail
      go_loopw [26] (fun i wr => ∃ k : Nat, 1 ≤ k ∧ k ≤ k7 + 1 ∧ i = .int .i64 k ∧ Below w11.heap.size w11 wr) (fun i _ => k7 + 1 - (intOf i).toNat)
      case atStart => exact ⟨1, by omega, by omega, rfl, Below.refl _ _⟩
      case round =>
        obtain ⟨k, hk1, hk2, rfl, hB⟩ := hrel
        have HB : Hid (Below w11.heap.size w11 wr) := hB
        by_cases hlt : k < k7
        · obtain ⟨j, rfl⟩ : ∃ j, k = j + 1 := ⟨k - 1, by omega⟩
          have h3r : Below w3.heap.size w3 wr := H311.out.trans (hB.mono H311.out.size)
          obtain ⟨g8, o8, x, a9, n9, c9, hao8, hx, r0, r1, r2, hGx⟩ := (HF7.out wr h3r).at (k := j) (by omega)
          obtain ⟨g9, o9, y, a10, n10, c10, hao9, hy, t0, t1, t2, hGy⟩ := (HF7.out wr h3r).at hlt
          subst hao8
          cases hao9
          have HNE : Hid (fqB x y = false) := by
            show _ = _
            cases e : fqB x y
            · rfl
            · rw [HGE.out] at hx hy
              exact absurd ((fq_iff _ _).1 e) (see_ne _ _ hx hy)
          have HSX : Hid (x.2.2.length ≤ 1000) := HGS.out x (List.mem_of_getElem? hx)
          have HSW : Hid (∀ W, Below wr.heap.size wr W → W.cell? ⟨g8, o8 + j * 3, none⟩ = some (.int .i64 x.1) ∧ W.cell? ⟨g8, o8 + j * 3 + 1, none⟩ = some (.string x.2.1) ∧ W.cell? ⟨g8, o8 + j * 3 + 2, none⟩ = some (.slice a9 n9 c9) ∧ W.cell? ⟨g8, o8 + (j + 1) * 3, none⟩ = some (.int .i64 y.1) ∧ W.cell? ⟨g8, o8 + (j + 1) * 3 + 1, none⟩ = some (.string y.2.1) ∧ W.cell? ⟨g8, o8 + (j + 1) * 3 + 2, none⟩ = some (.slice a10 n10 c10)) := fun W hb => ⟨cell_later hb r0, cell_later hb r1, cell_later hb r2, cell_later hb t0, cell_later hb t1, cell_later hb t2⟩
          have HFQ : Hid (∀ W, Below wr.heap.size wr W → Calls Tryz.prog 22 #[.agg #[.int .i64 x.1, .string x.2.1, .slice a9 n9 c9], .agg #[.int .i64 y.1, .string y.2.1, .slice a10 n10 c10]] W fun e w' => e = .returned (.bool false) ∧ Below W.heap.size W w') := fun W hb => (fate_all x.1 x.2.1 a9 n9 c9 y.1 y.2.1 a10 n10 c10 x.2.2 y.2.2 W HSX.out (hGx.later hb) (hGy.later hb)).mono (fun e w' h => ⟨by rw [h.1, ← HNE.out], h.2⟩)
          have hsub : IntKind.i64.wrap (((j + 1 : Nat) : Int) - 1) = (j : Int) := by rw [IntKind.wrap_i64]; omega
          have jb0 : (0 : Int) ≤ (j : Int) := by omega
          have jb1 : (j : Int) < (k7 : Int) := by omega
          have kb0 : (0 : Int) ≤ ((j + 1 : Nat) : Int) := by omega
          have kb1 : ((j + 1 : Nat) : Int) < (k7 : Int) := by omega
          obtain ⟨K, hK⟩ : ∃ K, K = j + 1 := ⟨_, rfl⟩
          rw [← hK] at HSW hsub kb0 kb1 hlt hk1 hk2 ⊢
          have HKJ : Hid (K = j + 1) := hK
          clear hB h3r hx hy r0 r1 r2 t0 t1 t2 hGx hGy hK
          go_upto_region 18 with fail
          obtain ⟨z0, z1, z2, z3, z4, z5⟩ := HSW.out wr (Below.refl _ _)
          go_region_held3 (fun W => W.cell? ⟨g8, o8 + j * 3, none⟩ = some (.int .i64 x.1) ∧ W.cell? ⟨g8, o8 + j * 3 + 1, none⟩ = some (.string x.2.1) ∧ W.cell? ⟨g8, o8 + j * 3 + 2, none⟩ = some (.slice a9 n9 c9) ∧ W.cell? ⟨g8, o8 + K * 3, none⟩ = some (.int .i64 y.1) ∧ W.cell? ⟨g8, o8 + K * 3 + 1, none⟩ = some (.string y.2.1) ∧ W.cell? ⟨g8, o8 + K * 3 + 2, none⟩ = some (.slice a10 n10 c10))
            (first | (with_reducible assumption) | (with_reducible exact HSW.out _ (Below.drew (Below.refl _ _))) | (with_reducible exact HSW.out _ HB12.out))
            (first
              | (go_at_call 22; refine (HFQ.out _ (Below.drew (Below.refl _ _))).mono ?_; rintro e6 w12 ⟨rfl, hb12⟩; have HB12 : Hid (Below wr.heap.size wr w12) := (bdrew hb12); clear hb12))
          go_wp2
          go_roundw
          case rel => exact ⟨K + 1, by omega, by omega, by go_num, HB.out.trans (HB12.out.mono HB.out.size)⟩
          case measure => simp [intOf]; omega
        · have dk : decide ((k : Int) < (k7 : Int)) = false := by simp; omega
          clear hB
          go_wp2_with fail
          go_meet
          case rel => exact HB.out
    case rest =>
      obtain ⟨wz, hwz⟩ : ∃ W, W = wc := ⟨wc, rfl⟩
      subst hwz
      have HBC : Hid (Below w11.heap.size w11 wz) := hcut
      have H3C : Hid (Below w3.heap.size w3 wz) := H311.out.trans (hcut.mono H311.out.size)
      have H5C : Hid (Below w5.heap.size w5 wz) := H511.out.trans (hcut.mono H511.out.size)
      have H1C : Hid (Below w1.heap.size w1 wz) := H111.out.trans (hcut.mono H111.out.size)
      obtain ⟨q0, q1, q2, q3⟩ := (HBN.out wz H1C.out).c
      obtain ⟨s0, s1, s2, s3⟩ := (HOB.out wz H5C.out).c
      have m1 : w.heap.size < wz.heap.size := World.block_lt_of_cell? _ _ q0
      have m2 : w4.heap.size < wz.heap.size := World.block_lt_of_cell? _ _ s0
      have nm1 : w.heap.size ≠ wz.heap.size := by omega
      have nm2 : w.heap.size ≠ wz.heap.size + 1 := by omega
      clear hcut HBC H311 H511 H111
      have HN3 : Hid (1 ≤ n3 ∧ n3 ≤ 6) := by
        obtain ⟨ht, hS, _, _⟩ := cg_ok HCG.out
        have h1 := (tp_0 ht).1
        have h2 := HTN.out
        show _ ∧ _
        omega
      have HTC : Hid (TS wz (.slice ao3 n3 cap3) Ts) := (HBN.out wz H1C.out).t
      have HTL : Hid (Ts.length ≤ 1000000) := by
        have h1 := HN3.out
        have h2 := HTN.out
        show _ ≤ _
        omega
      have HXM : Hid (Below wz.heap.size wz (wz.alloc (Obj.cells #[.int .i64 S, .slice p1 j1 f1, .slice p2 j2 f2, .slice p3 j3 f3] 28))) := (Below.refl _ _).alloc (Nat.le_refl _) _
      go_wp2_with (at_builtin; refine wpList_append_lit (wz.alloc (Obj.cells #[.int .i64 S, .slice p1 j1 f1, .slice p2 j2 f2, .slice p3 j3 f3] 28)) rfl _ _ 26 rfl Tryz.underlying26 (by rw [World.size_alloc]; rfl) _ rfl Ts wz HTC.out HXM.out HTL.out ?_)
      intro v9 w12 vs hTR hgn
      have hX0 := nebox_new wz S (.slice p1 j1 f1) (.slice p2 j2 f2) (.slice p3 j3 f3) 28
      have hfz := froz_new2 wz #[.int .i64 S, .slice p1 j1 f1, .slice p2 j2 f2, .slice p3 j3 f3] 28
      have hbx : Below (wz.alloc (Obj.cells #[.int .i64 S, .slice p1 j1 f1, .slice p2 j2 f2, .slice p3 j3 f3] 28)).heap.size (wz.alloc (Obj.cells #[.int .i64 S, .slice p1 j1 f1, .slice p2 j2 f2, .slice p3 j3 f3] 28)) w12 := ⟨hgn.os, hgn.tape, hgn.output, hgn.size, fun k hk => hgn.block k hk (fun e => by cases e)⟩
      have hX1 := hX0.later hbx
      have hf3 : w12.frozen? ⟨wz.heap.size, 3, none⟩ = false := (hbx.frozen (p := ⟨wz.heap.size, 3, none⟩) (by simp)).trans (hfz 3)
      obtain ⟨gT, cT, hv9⟩ : ∃ gT cT, v9 = .slice (some ⟨gT, 0, none⟩) n3 cT := by
        have hlv := hTR.lv
        have h1 := HN3.out
        have h2 := HTN.out
        rcases hTR.ov.2 with ⟨_, h0⟩ | ⟨g, cp, cur, e, _⟩
        · omega
        · exact ⟨g, cp, by rw [e, hlv, h2]⟩
      subst hv9
      have HTR : Hid (TR 76 w12 wz.heap.size (wz.heap.size + 1) (.slice (some ⟨gT, 0, none⟩) n3 cT) vs Ts) := by
        have h := hTR
        exact h
      have hMB : MB wz (w12.setCell ⟨wz.heap.size, 3, none⟩ (.slice (some ⟨gT, 0, none⟩) n3 cT)) S (.slice p1 j1 f1) (.slice p2 j2 f2) (.slice (some ⟨gT, 0, none⟩) n3 cT) vs (mxT Ts (caT Ts l) (D.take 0)) := by
        refine ⟨((HXM.out.trans (hbx.mono HXM.out.size))).setCell (p := ⟨wz.heap.size, 3, none⟩) (Nat.le_refl _) _, ?_, ?_⟩
        · obtain ⟨c0, c1, c2, c3⟩ := hX1
          refine ⟨?_, ?_, ?_, ?_⟩
          · rw [World.cell?_setCell_other _ _ _ _ (by intro e; injection e with e1 e2; exact absurd e2 (by decide))]; exact c0
          · rw [World.cell?_setCell_other _ _ _ _ (by intro e; injection e with e1 e2; exact absurd e2 (by decide))]; exact c1
          · rw [World.cell?_setCell_other _ _ _ _ (by intro e; injection e with e1 e2; exact absurd e2 (by decide))]; exact c2
          · exact World.cell?_setCell_same' _ _ _ (by rw [c3]; rfl)
        · rw [mx_zero]
          exact HTR.out.grown (grown_set _ _ _ _) (Nat.le_refl _) (by omega)
      obtain ⟨c0, c1, c2, c3⟩ := hX1
      have HMB : Hid (MB wz (w12.setCell ⟨wz.heap.size, 3, none⟩ (.slice (some ⟨gT, 0, none⟩) n3 cT)) S (.slice p1 j1 f1) (.slice p2 j2 f2) (.slice (some ⟨gT, 0, none⟩) n3 cT) vs (mxT Ts (caT Ts l) (D.take 0))) := hMB
      clear hX0 hfz hbx hTR hgn HTR hMB q0 q1 q2 q3 s0 s1 s2 s3
      go_upto_block 2 with fail
      obtain ⟨w13, hw13⟩ : ∃ W, w12.setCell ⟨wz.heap.size, 3, none⟩ (.slice (some ⟨gT, 0, none⟩) n3 cT) = W := ⟨_, rfl⟩
      rw [hw13] at HMB ⊢
      clear hw13 c0 c1 c2 c3 hf3
      go_cut [29] from 151 to 177 (fun _ w' => ∃ k vs', MB wz w' S (.slice p1 j1 f1) (.slice p2 j2 f2) (.slice (some ⟨gT, 0, none⟩) n3 cT) vs' (mxT Ts (caT Ts l) (D.take k)))
      case first =>
        have hj3 := HJ3.out.symm
        subst hj3
        go_wp2_with fail
        go_loopw [29] (fun i wr => ∃ k : Nat, k ≤ n3 ∧ i = .int .i64 k ∧ ∃ vs', MB wz wr S (.slice p1 j1 f1) (.slice p2 j2 f2) (.slice (some ⟨gT, 0, none⟩) n3 cT) vs' (mxT Ts (caT Ts l) (D.take k))) (fun i _ => n3 - (intOf i).toNat)
        case atStart => exact ⟨0, by omega, rfl, vs, HMB.out⟩
        case round =>
          obtain ⟨k, hk, rfl, vs', hMB⟩ := hrel
          have HM : Hid (MB wz wr S (.slice p1 j1 f1) (.slice p2 j2 f2) (.slice (some ⟨gT, 0, none⟩) n3 cT) vs' (mxT Ts (caT Ts l) (D.take k))) := hMB
          obtain ⟨hBe, ⟨c0, c1, c2, c3⟩, _⟩ := hMB
          obtain ⟨_, _, _, e6, hDn, hD2, _, hDa⟩ := (HDW.out wr (H1C.out.trans (hBe.mono H1C.out.size))).form
          cases e6
          unfold maxLen at hD2
          have h36 := HN3.out
          by_cases hlt : k < n3
          · have dk : decide ((k : Int) < (n3 : Int)) = true := by simp; omega
            by_cases hld : k < n6
            · have dd : decide ((k : Int) < (n6 : Int)) = true := by simp; omega
              obtain ⟨g6, o6, ha6, hGA, _⟩ := hDa (by omega)
              subst ha6
              have hkD : k < D.length := by omega
              have hdc : wr.cell? ⟨g6, o6 + k, none⟩ = some (.bool D[k]) := by
                have h := hGA k hkD 0 _ rfl
                have e : o6 + k * boE.n + 0 = o6 + k := by show o6 + k * 1 + 0 = o6 + k; omega
                rw [e] at h
                exact h
              have hmx := mx_next (As := Ts) (Bs := caT Ts l) (D := D) (ca_len _ _) hkD (by rw [HTN.out]; exact hlt)
              have HMX : Hid (mxT Ts (caT Ts l) (D.take (k + 1)) = if D[k] = true then (mxT Ts (caT Ts l) (D.take k)).set k ((caT Ts l).getD k []) else mxT Ts (caT Ts l) (D.take k)) := hmx
              have kb0 : (0 : Int) ≤ (k : Int) := by omega
              have kb1 : (k : Int) < (n3 : Int) := by omega
              have kb2 : (k : Int) < (n6 : Int) := by omega
              obtain ⟨DK, hDK⟩ : ∃ DK, DK = D[k] := ⟨_, rfl⟩
              rw [← hDK] at hdc HMX
              clear hmx hGA hDK hDa
              cases DK with
              | false =>
                have HMB2 : Hid (MB wz wr S (.slice p1 j1 f1) (.slice p2 j2 f2) (.slice (some ⟨gT, 0, none⟩) n3 cT) vs' (mxT Ts (caT Ts l) (D.take (k + 1)))) := by
                  have h := HMX.out
                  rw [if_neg (by decide)] at h
                  show MB _ _ _ _ _ _ _ _
                  rw [h]
                  exact HM.out
                clear hBe
                go_wp2
                go_roundw
                case rel => exact ⟨k + 1, by omega, by go_num, vs', HMB2.out⟩
                case measure => simp [intOf]; omega
              | true =>
                obtain ⟨gt, ot, hp3, hTA⟩ : ∃ g o, p3 = some ⟨g, o, none⟩ ∧ TAt wz g o (caT Ts l) := by
                  obtain ⟨_, _, _, e, h1, h2, h3, h4⟩ := (HOB.out wz H5C.out).t.form
                  cases e
                  obtain ⟨g, o, h5, h6, _⟩ := h4 (by omega)
                  exact ⟨g, o, h5, h6⟩
                subst hp3
                obtain ⟨a8, n8, c8, t0, t1⟩ := hTA k (by rw [ca_len, HTN.out]; exact hlt)
                have htl : gt < wz.heap.size := World.block_lt_of_cell? _ _ t0
                obtain ⟨xx, z0, z1, z2, z3, z4, z5⟩ := HM.out.tr.at (i := k) (by rw [mx_len, HTN.out]; exact hlt)
                obtain ⟨s0, s1, s2, s3⟩ := (HOB.out wr (H5C.out.trans (hBe.mono H5C.out.size))).c
                have t2 : wr.cell? ⟨gt, ot + k, none⟩ = some (.slice a8 n8 c8) := cell_later hBe t0
                have HMB2 : Hid (∀ q : Nat, MB wz ((wr.drewN q).setCell ⟨gT, k, none⟩ (.slice a8 n8 c8)) S (.slice p1 j1 f1) (.slice p2 j2 f2) (.slice (some ⟨gT, 0, none⟩) n3 cT) (vs'.set k (a8, n8, c8)) (mxT Ts (caT Ts l) (D.take (k + 1)))) := fun q => by
                  have h := HMX.out
                  rw [if_pos rfl] at h
                  rw [h]
                  have hbq : Below wr.heap.size wr (wr.drewN q) := ⟨rfl, rfl, rfl, Nat.le_refl _, fun _ _ => rfl⟩
                  have hM2 := HM.out
                  have hsr : SR wz (slV (a8, n8, c8)) ((caT Ts l).getD k []) := by
                    rw [show (caT Ts l).getD k [] = (caT Ts l)[k]'(by rw [ca_len, HTN.out]; exact hlt) by simp [List.getD, show k < (caT Ts l).length by rw [ca_len, HTN.out]; exact hlt]]
                    exact t1
                  refine ⟨(hBe.trans (hbq.mono hBe.size)).setCell (p := ⟨gT, k, none⟩) (by show wz.heap.size ≤ gT; omega) _, ?_, (hM2.tr.later hbq).put (x := (a8, n8, c8)) ((hsr.later hBe).later hbq) (hsr.off (by omega)) (fun b hb1 hb2 => hsr.off hb1)⟩
                  obtain ⟨y0, y1, y2, y3⟩ := hM2.box.later hbq
                  have o : ∀ i, ((wr.drewN q).setCell ⟨gT, k, none⟩ (.slice a8 n8 c8)).cell? ⟨wz.heap.size, i, none⟩ = (wr.drewN q).cell? ⟨wz.heap.size, i, none⟩ := fun i => World.cell?_setCell_other _ _ _ _ (by intro e; injection e with e1; omega)
                  exact ⟨by rw [o]; exact y0, by rw [o]; exact y1, by rw [o]; exact y2, by rw [o]; exact y3⟩
                have HSV : Hid ((wr.drew.setCell ⟨gT, k, none⟩ (.slice a8 n8 c8)).cell? ⟨wz.heap.size, 3, none⟩ = some (.slice (some ⟨gT, 0, none⟩) n3 cT) ∧ (wr.drew.setCell ⟨gT, k, none⟩ (.slice a8 n8 c8)).cell? ⟨w4.heap.size, 3, none⟩ = some (.slice (some ⟨gt, ot, none⟩) n3 f3) ∧ (wr.drew.setCell ⟨gT, k, none⟩ (.slice a8 n8 c8)).cell? ⟨gt, ot + k, none⟩ = some (.slice a8 n8 c8)) := by
                  have o : ∀ (b i : Nat), b ≠ gT → (wr.drew.setCell ⟨gT, k, none⟩ (.slice a8 n8 c8)).cell? ⟨b, i, none⟩ = wr.cell? ⟨b, i, none⟩ := fun b i hb => World.cell?_setCell_other _ _ _ _ (by intro e; injection e with e1; omega)
                  exact ⟨by rw [o _ _ (by omega)]; exact c3, by rw [o _ _ (by omega)]; exact s3, by rw [o _ _ (by omega)]; exact t2⟩
                have ngw : w4.heap.size ≠ gT := by omega
                clear t0 t1 hTA z1 z3 hBe c0 c1 c2 s0 s1 s2
                go_upto_region 27 with fail
                go_region_held3 (fun W => W.cell? ⟨wz.heap.size, 3, none⟩ = some (.slice (some ⟨gT, 0, none⟩) n3 cT) ∧ W.cell? ⟨w4.heap.size, 3, none⟩ = some (.slice (some ⟨gt, ot, none⟩) n3 f3) ∧ W.cell? ⟨gt, ot + k, none⟩ = some (.slice a8 n8 c8))
                  (first | (with_reducible assumption) | (exact ⟨c3, s3, t2⟩) | (exact HSV.out))
                  (first | (fail))
                go_wp2
                go_roundw
                case rel => exact ⟨k + 1, by omega, by go_num, _, HMB2.out 1⟩
                case measure => simp [intOf]; omega
            · have dd : decide ((k : Int) < (n6 : Int)) = false := by simp; omega
              clear hBe
              go_wp2_with fail
              go_meet
              case rel => exact ⟨k, vs', HM.out⟩
          · obtain rfl : k = n3 := by omega
            clear hBe
            go_wp2_with fail
            go_meet
            case rel => exact ⟨k, vs', HM.out⟩
      case rest =>
        obtain ⟨kD, vs9, hMB⟩ := hcut
        have HM : Hid (MB wz wc S (.slice p1 j1 f1) (.slice p2 j2 f2) (.slice (some ⟨gT, 0, none⟩) n3 cT) vs9 (mxT Ts (caT Ts l) (D.take kD))) := hMB
        have h1c : Below w1.heap.size w1 wc := H1C.out.trans (hMB.below.mono H1C.out.size)
        have h3c : Below w3.heap.size w3 wc := H3C.out.trans (hMB.below.mono H3C.out.size)
        have h5c : Below w5.heap.size w5 wc := H5C.out.trans (hMB.below.mono H5C.out.size)
        have H1 : Hid (Below w1.heap.size w1 wc) := h1c
        have H3 : Hid (Below w3.heap.size w3 wc) := h3c
        have HLm : Hid (GS lnkE wc (.slice p1 j1 f1) Ls ∧ GS hstE wc (.slice p2 j2 f2) Hs ∧ TS wc (.slice (some ⟨gT, 0, none⟩) n3 cT) (mxT Ts (caT Ts l) (D.take kD))) := ⟨(HOB.out wc h5c).l, (HOB.out wc h5c).h, hMB.tr.ts⟩
        obtain ⟨_, ⟨c0, c1, c2, c3⟩, _⟩ := hMB
        clear h1c h3c h5c HMB HXM HTC HTL H1C H3C H5C m1 m2 nm1 nm2 HM HOB
        go_wp2_with fail
        refine (send_any S p1 j1 f1 p2 j2 f2 (some ⟨gT, 0, none⟩) n3 cT Ls Hs (mxT Ts (caT Ts l) (D.take kD)) m h wc HLm.out.1 HLm.out.2.1 HLm.out.2.2).mono ?_
        rintro e w14 ⟨a7, n7, c7, rfl, ho7, hb14⟩
        obtain ⟨s1, s2⟩ := se_ok (S := S) (Ls := Ls) (Hs := Hs) (m := m) (h := h) (nt_mx HCG.out (D.take kD)) HWE.out HHD.out
        rw [s1, no_ok rfl, s2]
        rw [s2] at ho7
        obtain ⟨⟨V1, V2, V3⟩, hV⟩ : ∃ V, V = frF Ls Hs (mxT Ts (caT Ts l) (D.take kD)) (weV S Ls Hs m) h := ⟨_, rfl⟩
        have HVG : Hid ((V1, V2, V3) ∈ G) := by
          show _ ∈ _
          rw [HGE.out, hV]
          exact see_mx HCG.out _ _ _
        rw [← hV] at ho7 ⊢
        dsimp only
        obtain ⟨w15, hw15, hb15, hs15⟩ := al w14 (Obj.cells #[.int .i64 V1, .string V2, .slice a7 n7 c7] 68)
        have hfa := (fabox_new w14 V1 V2 (.slice a7 n7 c7) 68)
        rw [hw15] at hfa
        have HGa : Hid (GS hopE w15 (.slice a7 n7 c7) V3) := (own_GS (E := hopE) ho7).later hb15
        have HC15 : Hid (Below wc.heap.size wc w15) := hb14.trans (hb15.mono hb14.size)
        have H315 : Hid (Below w3.heap.size w3 w15) := H3.out.trans (HC15.out.mono H3.out.size)
        have H115 : Hid (Below w1.heap.size w1 w15) := H1.out.trans (HC15.out.mono H1.out.size)
        have HW15 : Hid (w14.alloc (Obj.cells #[.int .i64 V1, .string V2, .slice a7 n7 c7] 68) = w15) := hw15
        obtain ⟨v0, v1, v2⟩ := hfa
        clear s1 s2 hV ho7 hb14 hw15 hb15 hs15 c0 c1 c2 c3 HLm
        go_upto_region 29 with fail
        rw [HW15.out]
        clear HW15
        go_wp2_with fail
        refine (has_all b7 k7 d7 (V1, V2, V3) a7 n7 c7 G w15 (HF7.out _ H315.out) HGa.out HGS.out).mono ?_
        rintro e w16 ⟨rfl, hb16⟩
        rw [any_in HVG.out]
        have H316 : Hid (Below w3.heap.size w3 w16) := H315.out.trans (hb16.mono H315.out.size)
        have H116 : Hid (Below w1.heap.size w1 w16) := H115.out.trans (hb16.mono H115.out.size)
        obtain ⟨q0, q1, q2, q3⟩ := (HBN.out w16 H116.out).c
        clear hb16 v0 v1 v2 HGa HVG HC15 H315 H115 H1 H3
        go_wp2_with fail
        refine (safe_any S ao n cap ao2 n2 cap2 ao3 n3 cap3 a4 n4 c4 a5 n5 c5 Ls Hs Ts l ws w16 (HBN.out _ H116.out).l (HBN.out _ H116.out).h (HBN.out _ H116.out).t (HOP.out _ H116.out) (HWS.out _ H116.out)).mono ?_
        rintro e w17 ⟨NS, ⟨P1, P2, P3⟩, rfl, hSR, hb17⟩
        have HSR : Hid (SfR S Ls Hs Ts l ws NS (P1, P2, P3)) := hSR
        dsimp only
        obtain ⟨w18, hw18, hb18, hs18⟩ := al w17 (Obj.cells #[.int .i64 P1, .string P2, .int .i64 P3] 50)
        have hpv := vat_new w17 [.int .i64 P1, .string P2, .int .i64 P3] 50
        change VAt (w17.alloc (Obj.cells #[.int .i64 P1, .string P2, .int .i64 P3] 50)) _ _ _ at hpv
        rw [hw18] at hpv
        have h618 : Below w16.heap.size w16 w18 := hb17.trans (hb18.mono hb17.size)
        have H318 : Hid (Below w3.heap.size w3 w18) := H316.out.trans (h618.mono H316.out.size)
        have H118 : Hid (Below w1.heap.size w1 w18) := H116.out.trans (h618.mono H116.out.size)
        have HPV : Hid (∀ W, Below w18.heap.size w18 W → W.cell? ⟨w17.heap.size, 0, none⟩ = some (.int .i64 P1) ∧ W.cell? ⟨w17.heap.size, 1, none⟩ = some (.string P2) ∧ W.cell? ⟨w17.heap.size, 2, none⟩ = some (.int .i64 P3)) := fun W hb => by
          have k := hpv.later hb
          exact ⟨k 0 _ rfl, k 1 _ rfl, k 2 _ rfl⟩
        have HW18 : Hid (w17.alloc (Obj.cells #[.int .i64 P1, .string P2, .int .i64 P3] 50) = w18) := hw18
        obtain ⟨_, _, _, e5, hwn, hwm, _, hwa⟩ := (HWS.out w18 H118.out).form
        cases e5
        unfold maxLen at hwm
        have HWN : Hid (ws.length = n5) := hwn
        have HWA : Hid (0 < n5 → ∃ g o, a5 = some ⟨g, o, none⟩ ∧ GAt wisE w18 g o ws ∧ c5 ≤ maxLen) := hwa
        clear hSR hb17 hw18 hb18 hs18 hpv h618 q0 q1 q2 q3 H316 H116 hwn hwa
        go_upto_region 33 with fail
        rw [HW18.out]
        clear HW18
        by_cases hz : NS = 0
        · subst hz
          rw [no_ok rfl]
          obtain ⟨HFT, hPZ⟩ : (∀ (i : Nat) (hi : i < ws.length) (x : Ft), x ∈ G → fiB ws[i] m x = true) ∧ (P1, P2, P3) = ((0 : Int), ByteArray.empty, (0 : Int)) := by
            rcases HSR.out with ⟨h1, _, _⟩ | ⟨_, h1, h2, _⟩ | ⟨_, _, held, hF, hN⟩
            · exact absurd HCG.out h1
            · exact absurd h2.symm h1
            · have hh : ¬ held < ws.length := by
                intro hh
                rw [if_pos hh] at hN
                cases hN
              refine ⟨fun i hi x hx => ?_, hF.no (by have := hF.le; omega)⟩
              rw [← HG.out] at hx
              exact fb_fits HN.out hF hh hi hx
          have HFI : Hid (∀ (i : Nat) (hi : i < ws.length) (x : Ft), x ∈ G → fiB ws[i] m x = true) := HFT
          simp only [Prod.mk.injEq] at hPZ
          obtain ⟨hz1, hz2, hz3⟩ := hPZ
          subst hz1
          subst hz2
          subst hz3
          clear HFT HSR
          go_wp2_with fail
          go_loopw [33] (fun i wr => ∃ k : Nat, k ≤ n5 ∧ i = .int .i64 k ∧ Below w18.heap.size w18 wr) (fun i _ => n5 - (intOf i).toNat)
          case atStart => exact ⟨0, by omega, rfl, Below.refl _ _⟩
          case round =>
            obtain ⟨i, hi, rfl, hB⟩ := hrel
            have HB : Hid (Below w18.heap.size w18 wr) := hB
            by_cases hlt : i < n5
            · obtain ⟨g1, o1, ha5, hWA, _⟩ := HWA.out (by omega)
              subst ha5
              obtain ⟨y0, y1, y2, y3, hil, hLi, _, _, _, _⟩ := wis_at hWA HWN.out hlt
              have HFI2 : Hid (∀ x ∈ G, fiB ⟨y0, y1, y2, y3⟩ m x = true) := fun x hx => by rw [← hLi]; exact HFI.out i hil x hx
              have ib0 : (0 : Int) ≤ (i : Int) := by omega
              have ib1 : (i : Int) < (n5 : Int) := by omega
              have HWA2 : Hid (∀ W, Below w18.heap.size w18 W → W.cell? ⟨g1, o1 + i * 4, none⟩ = some (.int .i64 y0) ∧ W.cell? ⟨g1, o1 + i * 4 + 1, none⟩ = some (.string y1) ∧ W.cell? ⟨g1, o1 + i * 4 + 2, none⟩ = some (.string y2) ∧ W.cell? ⟨g1, o1 + i * 4 + 3, none⟩ = some (.int .i64 y3)) := fun W hb => by
                obtain ⟨z0, z1, z2, z3, hl2, hL2, u0, u1, u2, u3⟩ := wis_at (hWA.later hb) HWN.out hlt
                rw [hLi] at hL2
                cases hL2
                exact ⟨u0, u1, u2, u3⟩
              clear hWA hLi hB
              go_wp2_with fail
              go_loopw [34] (fun i wz => ∃ k : Nat, k ≤ k7 ∧ i = .int .i64 k ∧ Below w18.heap.size w18 wz) (fun i _ => k7 - (intOf i).toNat)
              case atStart => exact ⟨0, by omega, rfl, HB.out⟩
              case round =>
                obtain ⟨k, hk, rfl, hB⟩ := hrel
                have HBz : Hid (Below w18.heap.size w18 wr) := hB
                by_cases hlk : k < k7
                · obtain ⟨g8, o8, x, a9, n9, c9, hao8, hx, r0, r1, r2, hGx⟩ := (HF7.out wr (H318.out.trans (hB.mono H318.out.size))).at hlk
                  subst hao8
                  have HXF : Hid (fiB ⟨y0, y1, y2, y3⟩ m (x.1, x.2.1, x.2.2) = true) := HFI2.out x (List.mem_of_getElem? hx)
                  have HCE : Hid (CW wr g1 (o1 + i * 4) y0 y1 y2 y3 g8 (o8 + k * 3) x a9 n9 c9 wr) := ⟨Below.refl _ _, HWA2.out wr hB, ⟨r0, r1, r2⟩, hGx⟩
                  have kb0 : (0 : Int) ≤ (k : Int) := by omega
                  have kb1 : (k : Int) < (k7 : Int) := by omega
                  clear hB hx r0 r1 r2 hGx
                  go_upto_region 40 with fail
                  refine wp_region_quiet (C := CW wr g1 (o1 + i * 4) y0 y1 y2 y3 g8 (o8 + k * 3) x a9 n9 c9) (by kernel_rfl) (by kernel_rfl) (CW.later (W := wr) (Below.drew (Below.refl _ _)) HCE.out) ?_
                  simp only [List.toList_toArray]
                  go_big_quiet_want
                  refine quiet_val (v := .slice (some ⟨g1, o1, none⟩) n5 c5) (fun w' hC => ?_) ?_
                  · obtain ⟨zb, ⟨z0, z1, z2, z3⟩, ⟨z4, z5, z6⟩, z7⟩ := hC
                    go_simp
                  simp only [Act.put, List.setIfInBounds_toArray, List.set_cons_zero, List.set_cons_succ]
                  go_big_quiet_on
                  go_big_quiet_want
                  refine quiet_val (v := .int .i64 (i : Int)) (fun w' hC => ?_) ?_
                  · obtain ⟨zb, ⟨z0, z1, z2, z3⟩, ⟨z4, z5, z6⟩, z7⟩ := hC
                    go_simp
                  simp only [Act.put, List.setIfInBounds_toArray, List.set_cons_zero, List.set_cons_succ]
                  go_big_quiet_on
                  go_big_quiet_want
                  refine quiet_val (v := .pointer (some ⟨g1, o1 + i * 4, none⟩)) (fun w' hC => ?_) ?_
                  · obtain ⟨zb, ⟨z0, z1, z2, z3⟩, ⟨z4, z5, z6⟩, z7⟩ := hC
                    go_simp
                  simp only [Act.put, List.setIfInBounds_toArray, List.set_cons_zero, List.set_cons_succ]
                  go_big_quiet_on
                  go_big_quiet_want
                  refine quiet_val (v := .agg #[.int .i64 y0, .string y1, .string y2, .int .i64 y3]) (fun w' hC => ?_) ?_
                  · obtain ⟨zb, ⟨z0, z1, z2, z3⟩, ⟨z4, z5, z6⟩, z7⟩ := hC
                    go_simp
                  simp only [Act.put, List.setIfInBounds_toArray, List.set_cons_zero, List.set_cons_succ]
                  go_big_quiet_on
                  go_big_quiet_want
                  refine quiet_val (v := .string m) (fun w' hC => ?_) ?_
                  · obtain ⟨zb, ⟨z0, z1, z2, z3⟩, ⟨z4, z5, z6⟩, z7⟩ := hC
                    go_simp
                  simp only [Act.put, List.setIfInBounds_toArray, List.set_cons_zero, List.set_cons_succ]
                  go_big_quiet_on
                  go_big_quiet_want
                  refine quiet_val (v := .slice (some ⟨g8, o8, none⟩) k7 d7) (fun w' hC => ?_) ?_
                  · obtain ⟨zb, ⟨z0, z1, z2, z3⟩, ⟨z4, z5, z6⟩, z7⟩ := hC
                    go_simp
                  simp only [Act.put, List.setIfInBounds_toArray, List.set_cons_zero, List.set_cons_succ]
                  go_big_quiet_on
                  go_big_quiet_want
                  refine quiet_val (v := .int .i64 (k : Int)) (fun w' hC => ?_) ?_
                  · obtain ⟨zb, ⟨z0, z1, z2, z3⟩, ⟨z4, z5, z6⟩, z7⟩ := hC
                    go_simp
                  simp only [Act.put, List.setIfInBounds_toArray, List.set_cons_zero, List.set_cons_succ]
                  go_big_quiet_on
                  go_big_quiet_want
                  refine quiet_val (v := .pointer (some ⟨g8, o8 + k * 3, none⟩)) (fun w' hC => ?_) ?_
                  · obtain ⟨zb, ⟨z0, z1, z2, z3⟩, ⟨z4, z5, z6⟩, z7⟩ := hC
                    go_simp
                  simp only [Act.put, List.setIfInBounds_toArray, List.set_cons_zero, List.set_cons_succ]
                  go_big_quiet_on
                  go_big_quiet_want
                  refine quiet_val (v := .agg #[.int .i64 x.1, .string x.2.1, .slice a9 n9 c9]) (fun w' hC => ?_) ?_
                  · obtain ⟨zb, ⟨z0, z1, z2, z3⟩, ⟨z4, z5, z6⟩, z7⟩ := hC
                    go_simp
                  simp only [Act.put, List.setIfInBounds_toArray, List.set_cons_zero, List.set_cons_succ]
                  go_big_quiet_on
                  go_big_quiet_want
                  refine quiet_call (f := 23) (args := #[.agg #[.int .i64 y0, .string y1, .string y2, .int .i64 y3], .string m, .agg #[.int .i64 x.1, .string x.2.1, .slice a9 n9 c9]]) (v := .bool true) (fun w' => ?_) (fun w' hC => (fits_any y0 y1 y2 y3 m x.1 x.2.1 a9 n9 c9 x.2.2 w' hC.2.2.2).mono (fun e w2 h2 => ⟨by rw [h2.1, HXF.out], CW.later h2.2 hC⟩)) ?_
                  · go_simp
                  simp only [Act.put, List.setIfInBounds_toArray, List.set_cons_zero, List.set_cons_succ]
                  go_big_quiet_on
                  go_big_quiet_want
                  refine quiet_val (v := .bool false) (fun w' hC => ?_) ?_
                  · obtain ⟨zb, ⟨z0, z1, z2, z3⟩, ⟨z4, z5, z6⟩, z7⟩ := hC
                    go_simp
                  simp only [Act.put, List.setIfInBounds_toArray, List.set_cons_zero, List.set_cons_succ]
                  go_big_quiet_on
                  refine wpQuiet_nil ?_
                  intro w' hC
                  have HBY : Hid (Below wr.heap.size wr w') := hC.1
                  clear hC
                  go_wp2
                  go_roundw
                  case rel => exact ⟨k + 1, by omega, by go_num, HBz.out.trans (HBY.out.mono HBz.out.size)⟩
                  case measure => simp [intOf]; omega
                · have dk : decide ((k : Int) < (k7 : Int)) = false := by simp; omega
                  clear hB
                  go_wp2
                  go_roundw
                  case rel => exact ⟨i + 1, by omega, by go_num, HBz.out⟩
                  case measure => simp [intOf]; omega
            · obtain rfl : i = n5 := by omega
              obtain ⟨v0, v1, v2⟩ := HPV.out wr hB
              clear hB
              go_wp2
              go_ret
              exact ⟨rfl, HB1.out.trans ((H118.out.trans (HB.out.mono H118.out.size)).mono HB1.out.size)⟩
        · have HNZ : Hid (NS ≠ 0) := hz
          clear hz
          have HGE18 : Hid (HasErr w18) := HGW.out _ H118.out
          obtain ⟨er, her⟩ : ∃ er, er = noV NS := ⟨_, rfl⟩
          rw [← her]
          have HER : Hid (er = noV NS) := her
          have k1 : er = .iface 96 (.int .i64 NS) := by rw [her, no_ne HNZ.out]
          subst k1
          clear her
          go_wp2_with fail
          rw [HER.out]
          refine (same_any NS 9 w18 HGE18.out).mono ?_
          rintro e w19 ⟨rfl, hb19⟩
          have H819 : Hid (Below w18.heap.size w18 w19) := hb19
          have H119 : Hid (Below w1.heap.size w1 w19) := H118.out.trans (hb19.mono H118.out.size)
          clear hb19
          by_cases h9 : NS = 9
          · subst h9
            obtain ⟨held, hh, hp1, hp2, hp3⟩ : ∃ held, ∃ hh : held < ws.length, P1 = (held : Int) ∧ snN S Ls Hs Ts l P2 P3 = 0 ∧ ∃ x ∈ snL S Ls Hs Ts l P2 P3, fiB ws[held] P2 x = false := by
              rcases HSR.out with ⟨h1, _, _⟩ | ⟨_, _, h2, _⟩ | ⟨_, _, held, hF, hN⟩
              · exact absurd HCG.out h1
              · exact absurd h2.symm ws_9
              · have hh : held < ws.length := by
                  by_cases hh : held < ws.length
                  · exact hh
                  · rw [if_neg hh] at hN
                    cases hN
                exact ⟨held, hh, fb_proves HCG.out hF hh⟩
            subst hp1
            have HP2 : Hid (snN S Ls Hs Ts l P2 P3 = 0) := hp2
            have HP3 : Hid (∃ x ∈ snL S Ls Hs Ts l P2 P3, fiB ws[held] P2 x = false) := hp3
            have hhn : held < n5 := by rw [← HWN.out]; exact hh
            obtain ⟨q0, q1, q2, q3⟩ := (HBN.out w19 H119.out).c
            obtain ⟨v0, v1, v2⟩ := HPV.out w19 H819.out
            clear hp2 hp3 HSR
            go_wp2_with fail
            refine (seen_any S ao n cap ao2 n2 cap2 ao3 n3 cap3 a4 n4 c4 Ls Hs Ts l P2 P3 w19 (HBN.out _ H119.out).l (HBN.out _ H119.out).h (HBN.out _ H119.out).t (HOP.out _ H119.out)).mono ?_
            rintro e w20 ⟨b8, k8, d8, rfl, hF8, hb20⟩
            rw [HP2.out, no_ok rfl]
            have H820 : Hid (Below w18.heap.size w18 w20) := H819.out.trans (hb20.mono H819.out.size)
            obtain ⟨G2, hG2⟩ : ∃ G2, G2 = snL S Ls Hs Ts l P2 P3 := ⟨_, rfl⟩
            rw [← hG2] at hF8
            have HG2 : Hid (snL S Ls Hs Ts l P2 P3 = G2) := hG2.symm
            have HF8 : Hid (∀ W, Below w20.heap.size w20 W → FTs W (.slice b8 k8 d8) G2) := fun W hb => hF8.later hb
            have HK8 : Hid (G2.length = k8) := hF8.len
            have hk8 : k8 ≤ maxLen := by
              obtain ⟨_, _, _, e, _, h2, _⟩ := hF8.form
              cases e
              exact h2
            unfold maxLen at hk8
            obtain ⟨g1, o1, ha5, hWA, _⟩ := HWA.out (by omega)
            subst ha5
            obtain ⟨y0, y1, y2, y3, hil, hLi, _, _, _, _⟩ := wis_at hWA HWN.out hhn
            have HWA2 : Hid (∀ W, Below w18.heap.size w18 W → W.cell? ⟨g1, o1 + held * 4, none⟩ = some (.int .i64 y0) ∧ W.cell? ⟨g1, o1 + held * 4 + 1, none⟩ = some (.string y1) ∧ W.cell? ⟨g1, o1 + held * 4 + 2, none⟩ = some (.string y2) ∧ W.cell? ⟨g1, o1 + held * 4 + 3, none⟩ = some (.int .i64 y3)) := fun W hb => by
              obtain ⟨z0, z1, z2, z3, hl2, hL2, u0, u1, u2, u3⟩ := wis_at (hWA.later hb) HWN.out hhn
              rw [hLi] at hL2
              cases hL2
              exact ⟨u0, u1, u2, u3⟩
            have HFD : Hid ((G2.any fun x => !fiB ⟨y0, y1, y2, y3⟩ P2 x) = true) := by
              obtain ⟨x, hx, hf⟩ := HP3.out
              rw [hLi] at hf
              show _ = true
              rw [List.any_eq_true]
              exact ⟨x, by rw [← HG2.out]; exact hx, by rw [hf]; rfl⟩
            have ib0 : (0 : Int) ≤ (held : Int) := by omega
            have ib1 : (held : Int) < (n5 : Int) := by omega
            clear hG2 hF8 hb20 hWA hLi q0 q1 q2 q3 v0 v1 v2 HP3 HP2
            go_wp2_with fail
            go_loopw [37, 38] (fun c i wr => ∃ k : Nat, k ≤ k8 ∧ i = .int .i64 k ∧ c = .bool ((G2.take k).any fun x => !fiB ⟨y0, y1, y2, y3⟩ P2 x) ∧ Below w20.heap.size w20 wr) (fun _ i _ => k8 - (intOf i).toNat)
            case atStart => exact ⟨0, by omega, rfl, rfl, Below.refl _ _⟩
            case round =>
              obtain ⟨k, hk, rfl, rfl, hB⟩ := hrel
              have HB : Hid (Below w20.heap.size w20 wr) := hB
              by_cases hlk : k < k8
              · obtain ⟨g8, o8, x, a9, n9, c9, hao8, hx, r0, r1, r2, hGx⟩ := (HF8.out wr hB).at hlk
                subst hao8
                have h8r : Below w18.heap.size w18 wr := H820.out.trans (hB.mono H820.out.size)
                have HCE : Hid (CY wr w17.heap.size (held : Int) P2 g1 (o1 + held * 4) y0 y1 y2 y3 g8 (o8 + k * 3) x a9 n9 c9 wr) := ⟨⟨Below.refl _ _, HWA2.out wr h8r, ⟨r0, r1, r2⟩, hGx⟩, (HPV.out wr h8r).1, (HPV.out wr h8r).2.1⟩
                obtain ⟨B, hBx⟩ : ∃ B, B = fiB ⟨y0, y1, y2, y3⟩ P2 x := ⟨_, rfl⟩
                have HBX : Hid (fiB ⟨y0, y1, y2, y3⟩ P2 x = B) := hBx.symm
                have HBX2 : Hid (fiB ⟨y0, y1, y2, y3⟩ P2 (x.1, x.2.1, x.2.2) = B) := hBx.symm
                obtain ⟨F, hFx⟩ : ∃ F, F = (G2.take k).any fun x => !fiB ⟨y0, y1, y2, y3⟩ P2 x := ⟨_, rfl⟩
                rw [← hFx]
                have HNX : Hid (((G2.take (k + 1)).any fun x => !fiB ⟨y0, y1, y2, y3⟩ P2 x) = (F || !B)) := by
                  show _ = _
                  rw [List.take_add_one, hx, List.any_append, ← hFx, hBx]
                  simp
                have kb0 : (0 : Int) ≤ (k : Int) := by omega
                have kb1 : (k : Int) < (k8 : Int) := by omega
                clear hB hx r0 r1 r2 hGx h8r hBx hFx
                go_upto_region 51 with fail
                cases F with
                | true =>
                  refine wp_region_quiet (C := CY wr w17.heap.size (held : Int) P2 g1 (o1 + held * 4) y0 y1 y2 y3 g8 (o8 + k * 3) x a9 n9 c9) (by kernel_rfl) (by kernel_rfl) (CY.later (W := wr) (Below.drew (Below.refl _ _)) HCE.out) ?_
                  simp only [List.toList_toArray]
                  go_big_quiet_want
                  refine quiet_val (v := .bool true) (fun w' hC => ?_) ?_
                  · obtain ⟨⟨zb, ⟨z0, z1, z2, z3⟩, ⟨z4, z5, z6⟩, z7⟩, z8, z9⟩ := hC
                    go_simp
                  simp only [Act.put, List.setIfInBounds_toArray, List.set_cons_zero, List.set_cons_succ]
                  go_big_quiet_on
                  go_big_quiet_want
                  refine quiet_val (v := .bool true) (fun w' hC => ?_) ?_
                  · obtain ⟨⟨zb, ⟨z0, z1, z2, z3⟩, ⟨z4, z5, z6⟩, z7⟩, z8, z9⟩ := hC
                    go_simp
                  simp only [Act.put, List.setIfInBounds_toArray, List.set_cons_zero, List.set_cons_succ]
                  go_big_quiet_on
                  go_big_quiet_skip
                  go_big_quiet_skip
                  go_big_quiet_skip
                  go_big_quiet_skip
                  go_big_quiet_skip
                  go_big_quiet_skip
                  go_big_quiet_skip
                  go_big_quiet_skip
                  go_big_quiet_skip
                  go_big_quiet_skip
                  go_big_quiet_skip
                  go_big_quiet_skip
                  go_big_quiet_skip
                  go_big_quiet_skip
                  go_big_quiet_skip
                  go_big_quiet_skip
                  go_big_quiet_skip
                  go_big_quiet_skip
                  go_big_quiet_skip
                  go_big_quiet_skip
                  go_big_quiet_skip
                  go_big_quiet_skip
                  go_big_quiet_skip
                  go_big_quiet_skip
                  go_big_quiet_skip
                  go_big_quiet_want
                  refine quiet_val (v := .bool true) (fun w' hC => ?_) ?_
                  · obtain ⟨⟨zb, ⟨z0, z1, z2, z3⟩, ⟨z4, z5, z6⟩, z7⟩, z8, z9⟩ := hC
                    go_simp
                  simp only [Act.put, List.setIfInBounds_toArray, List.set_cons_zero, List.set_cons_succ]
                  go_big_quiet_on
                  go_big_quiet_want
                  refine quiet_val (v := .bool true) (fun w' hC => ?_) ?_
                  · obtain ⟨⟨zb, ⟨z0, z1, z2, z3⟩, ⟨z4, z5, z6⟩, z7⟩, z8, z9⟩ := hC
                    go_simp
                  simp only [Act.put, List.setIfInBounds_toArray, List.set_cons_zero, List.set_cons_succ]
                  go_big_quiet_on
                  refine wpQuiet_nil ?_
                  intro w' hC
                  have HBY : Hid (Below wr.heap.size wr w') := hC.1.1
                  clear hC
                  go_wp2
                  go_roundw
                  case rel => exact ⟨k + 1, by omega, by go_num, by rw [HNX.out]; rfl, HB.out.trans (HBY.out.mono HB.out.size)⟩
                  case measure => simp [intOf]; omega
                | false =>
                  refine wp_region_quiet (C := CY wr w17.heap.size (held : Int) P2 g1 (o1 + held * 4) y0 y1 y2 y3 g8 (o8 + k * 3) x a9 n9 c9) (by kernel_rfl) (by kernel_rfl) (CY.later (W := wr) (Below.drew (Below.refl _ _)) HCE.out) ?_
                  simp only [List.toList_toArray]
                  go_big_quiet_want
                  refine quiet_val (v := .bool false) (fun w' hC => ?_) ?_
                  · obtain ⟨⟨zb, ⟨z0, z1, z2, z3⟩, ⟨z4, z5, z6⟩, z7⟩, z8, z9⟩ := hC
                    go_simp
                  simp only [Act.put, List.setIfInBounds_toArray, List.set_cons_zero, List.set_cons_succ]
                  go_big_quiet_on
                  go_big_quiet_want
                  refine quiet_val (v := .bool false) (fun w' hC => ?_) ?_
                  · obtain ⟨⟨zb, ⟨z0, z1, z2, z3⟩, ⟨z4, z5, z6⟩, z7⟩, z8, z9⟩ := hC
                    go_simp
                  simp only [Act.put, List.setIfInBounds_toArray, List.set_cons_zero, List.set_cons_succ]
                  go_big_quiet_on
                  go_big_quiet_want
                  refine quiet_val (v := .pointer (some ⟨w17.heap.size, 0, none⟩)) (fun w' hC => ?_) ?_
                  · obtain ⟨⟨zb, ⟨z0, z1, z2, z3⟩, ⟨z4, z5, z6⟩, z7⟩, z8, z9⟩ := hC
                    go_simp
                  simp only [Act.put, List.setIfInBounds_toArray, List.set_cons_zero, List.set_cons_succ]
                  go_big_quiet_on
                  go_big_quiet_want
                  refine quiet_val (v := .int .i64 (held : Int)) (fun w' hC => ?_) ?_
                  · obtain ⟨⟨zb, ⟨z0, z1, z2, z3⟩, ⟨z4, z5, z6⟩, z7⟩, z8, z9⟩ := hC
                    go_simp
                  simp only [Act.put, List.setIfInBounds_toArray, List.set_cons_zero, List.set_cons_succ]
                  go_big_quiet_on
                  go_big_quiet_want
                  refine quiet_val (v := .bool true) (fun w' hC => ?_) ?_
                  · obtain ⟨⟨zb, ⟨z0, z1, z2, z3⟩, ⟨z4, z5, z6⟩, z7⟩, z8, z9⟩ := hC
                    go_simp
                  simp only [Act.put, List.setIfInBounds_toArray, List.set_cons_zero, List.set_cons_succ]
                  go_big_quiet_on
                  go_big_quiet_want
                  refine quiet_val (v := .bool true) (fun w' hC => ?_) ?_
                  · obtain ⟨⟨zb, ⟨z0, z1, z2, z3⟩, ⟨z4, z5, z6⟩, z7⟩, z8, z9⟩ := hC
                    go_simp
                  simp only [Act.put, List.setIfInBounds_toArray, List.set_cons_zero, List.set_cons_succ]
                  go_big_quiet_on
                  go_big_quiet_want
                  refine quiet_val (v := .pointer (some ⟨w17.heap.size, 0, none⟩)) (fun w' hC => ?_) ?_
                  · obtain ⟨⟨zb, ⟨z0, z1, z2, z3⟩, ⟨z4, z5, z6⟩, z7⟩, z8, z9⟩ := hC
                    go_simp
                  simp only [Act.put, List.setIfInBounds_toArray, List.set_cons_zero, List.set_cons_succ]
                  go_big_quiet_on
                  go_big_quiet_want
                  refine quiet_val (v := .int .i64 (held : Int)) (fun w' hC => ?_) ?_
                  · obtain ⟨⟨zb, ⟨z0, z1, z2, z3⟩, ⟨z4, z5, z6⟩, z7⟩, z8, z9⟩ := hC
                    go_simp
                  simp only [Act.put, List.setIfInBounds_toArray, List.set_cons_zero, List.set_cons_succ]
                  go_big_quiet_on
                  go_big_quiet_want
                  refine quiet_val (v := .slice (some ⟨g1, o1, none⟩) n5 c5) (fun w' hC => ?_) ?_
                  · obtain ⟨⟨zb, ⟨z0, z1, z2, z3⟩, ⟨z4, z5, z6⟩, z7⟩, z8, z9⟩ := hC
                    go_simp
                  simp only [Act.put, List.setIfInBounds_toArray, List.set_cons_zero, List.set_cons_succ]
                  go_big_quiet_on
                  go_big_quiet_want
                  refine quiet_val (v := .int .i64 (n5 : Int)) (fun w' hC => ?_) ?_
                  · obtain ⟨⟨zb, ⟨z0, z1, z2, z3⟩, ⟨z4, z5, z6⟩, z7⟩, z8, z9⟩ := hC
                    go_simp
                  simp only [Act.put, List.setIfInBounds_toArray, List.set_cons_zero, List.set_cons_succ]
                  go_big_quiet_on
                  go_big_quiet_want
                  refine quiet_val (v := .bool true) (fun w' hC => ?_) ?_
                  · obtain ⟨⟨zb, ⟨z0, z1, z2, z3⟩, ⟨z4, z5, z6⟩, z7⟩, z8, z9⟩ := hC
                    go_simp
                  simp only [Act.put, List.setIfInBounds_toArray, List.set_cons_zero, List.set_cons_succ]
                  go_big_quiet_on
                  go_big_quiet_want
                  refine quiet_val (v := .bool true) (fun w' hC => ?_) ?_
                  · obtain ⟨⟨zb, ⟨z0, z1, z2, z3⟩, ⟨z4, z5, z6⟩, z7⟩, z8, z9⟩ := hC
                    go_simp
                  simp only [Act.put, List.setIfInBounds_toArray, List.set_cons_zero, List.set_cons_succ]
                  go_big_quiet_on
                  go_big_quiet_want
                  refine quiet_val (v := .bool true) (fun w' hC => ?_) ?_
                  · obtain ⟨⟨zb, ⟨z0, z1, z2, z3⟩, ⟨z4, z5, z6⟩, z7⟩, z8, z9⟩ := hC
                    go_simp
                  simp only [Act.put, List.setIfInBounds_toArray, List.set_cons_zero, List.set_cons_succ]
                  go_big_quiet_on
                  go_big_quiet_want
                  refine quiet_val (v := .slice (some ⟨g1, o1, none⟩) n5 c5) (fun w' hC => ?_) ?_
                  · obtain ⟨⟨zb, ⟨z0, z1, z2, z3⟩, ⟨z4, z5, z6⟩, z7⟩, z8, z9⟩ := hC
                    go_simp
                  simp only [Act.put, List.setIfInBounds_toArray, List.set_cons_zero, List.set_cons_succ]
                  go_big_quiet_on
                  go_big_quiet_want
                  refine quiet_val (v := .pointer (some ⟨w17.heap.size, 0, none⟩)) (fun w' hC => ?_) ?_
                  · obtain ⟨⟨zb, ⟨z0, z1, z2, z3⟩, ⟨z4, z5, z6⟩, z7⟩, z8, z9⟩ := hC
                    go_simp
                  simp only [Act.put, List.setIfInBounds_toArray, List.set_cons_zero, List.set_cons_succ]
                  go_big_quiet_on
                  go_big_quiet_want
                  refine quiet_val (v := .int .i64 (held : Int)) (fun w' hC => ?_) ?_
                  · obtain ⟨⟨zb, ⟨z0, z1, z2, z3⟩, ⟨z4, z5, z6⟩, z7⟩, z8, z9⟩ := hC
                    go_simp
                  simp only [Act.put, List.setIfInBounds_toArray, List.set_cons_zero, List.set_cons_succ]
                  go_big_quiet_on
                  go_big_quiet_want
                  refine quiet_val (v := .pointer (some ⟨g1, o1 + held * 4, none⟩)) (fun w' hC => ?_) ?_
                  · obtain ⟨⟨zb, ⟨z0, z1, z2, z3⟩, ⟨z4, z5, z6⟩, z7⟩, z8, z9⟩ := hC
                    go_simp
                  simp only [Act.put, List.setIfInBounds_toArray, List.set_cons_zero, List.set_cons_succ]
                  go_big_quiet_on
                  go_big_quiet_want
                  refine quiet_val (v := .agg #[.int .i64 y0, .string y1, .string y2, .int .i64 y3]) (fun w' hC => ?_) ?_
                  · obtain ⟨⟨zb, ⟨z0, z1, z2, z3⟩, ⟨z4, z5, z6⟩, z7⟩, z8, z9⟩ := hC
                    go_simp
                  simp only [Act.put, List.setIfInBounds_toArray, List.set_cons_zero, List.set_cons_succ]
                  go_big_quiet_on
                  go_big_quiet_want
                  refine quiet_val (v := .pointer (some ⟨w17.heap.size, 1, none⟩)) (fun w' hC => ?_) ?_
                  · obtain ⟨⟨zb, ⟨z0, z1, z2, z3⟩, ⟨z4, z5, z6⟩, z7⟩, z8, z9⟩ := hC
                    go_simp
                  simp only [Act.put, List.setIfInBounds_toArray, List.set_cons_zero, List.set_cons_succ]
                  go_big_quiet_on
                  go_big_quiet_want
                  refine quiet_val (v := .string P2) (fun w' hC => ?_) ?_
                  · obtain ⟨⟨zb, ⟨z0, z1, z2, z3⟩, ⟨z4, z5, z6⟩, z7⟩, z8, z9⟩ := hC
                    go_simp
                  simp only [Act.put, List.setIfInBounds_toArray, List.set_cons_zero, List.set_cons_succ]
                  go_big_quiet_on
                  go_big_quiet_want
                  refine quiet_val (v := .slice (some ⟨g8, o8, none⟩) k8 d8) (fun w' hC => ?_) ?_
                  · obtain ⟨⟨zb, ⟨z0, z1, z2, z3⟩, ⟨z4, z5, z6⟩, z7⟩, z8, z9⟩ := hC
                    go_simp
                  simp only [Act.put, List.setIfInBounds_toArray, List.set_cons_zero, List.set_cons_succ]
                  go_big_quiet_on
                  go_big_quiet_want
                  refine quiet_val (v := .int .i64 (k : Int)) (fun w' hC => ?_) ?_
                  · obtain ⟨⟨zb, ⟨z0, z1, z2, z3⟩, ⟨z4, z5, z6⟩, z7⟩, z8, z9⟩ := hC
                    go_simp
                  simp only [Act.put, List.setIfInBounds_toArray, List.set_cons_zero, List.set_cons_succ]
                  go_big_quiet_on
                  go_big_quiet_want
                  refine quiet_val (v := .pointer (some ⟨g8, o8 + k * 3, none⟩)) (fun w' hC => ?_) ?_
                  · obtain ⟨⟨zb, ⟨z0, z1, z2, z3⟩, ⟨z4, z5, z6⟩, z7⟩, z8, z9⟩ := hC
                    go_simp
                  simp only [Act.put, List.setIfInBounds_toArray, List.set_cons_zero, List.set_cons_succ]
                  go_big_quiet_on
                  go_big_quiet_want
                  refine quiet_val (v := .agg #[.int .i64 x.1, .string x.2.1, .slice a9 n9 c9]) (fun w' hC => ?_) ?_
                  · obtain ⟨⟨zb, ⟨z0, z1, z2, z3⟩, ⟨z4, z5, z6⟩, z7⟩, z8, z9⟩ := hC
                    go_simp
                  simp only [Act.put, List.setIfInBounds_toArray, List.set_cons_zero, List.set_cons_succ]
                  go_big_quiet_on
                  go_big_quiet_want
                  refine quiet_call (f := 23) (args := #[.agg #[.int .i64 y0, .string y1, .string y2, .int .i64 y3], .string P2, .agg #[.int .i64 x.1, .string x.2.1, .slice a9 n9 c9]]) (v := .bool B) (fun w' => ?_) (fun w' hC => (fits_any y0 y1 y2 y3 P2 x.1 x.2.1 a9 n9 c9 x.2.2 w' hC.1.2.2.2).mono (fun e w2 h2 => ⟨by rw [h2.1, HBX2.out], CY.later h2.2 hC⟩)) ?_
                  · go_simp
                  simp only [Act.put, List.setIfInBounds_toArray, List.set_cons_zero, List.set_cons_succ]
                  go_big_quiet_on
                  go_big_quiet_want
                  refine quiet_val (v := .bool (!B)) (fun w' hC => ?_) ?_
                  · obtain ⟨⟨zb, ⟨z0, z1, z2, z3⟩, ⟨z4, z5, z6⟩, z7⟩, z8, z9⟩ := hC
                    go_simp
                  simp only [Act.put, List.setIfInBounds_toArray, List.set_cons_zero, List.set_cons_succ]
                  go_big_quiet_on
                  go_big_quiet_want
                  refine quiet_val (v := .bool (!B)) (fun w' hC => ?_) ?_
                  · obtain ⟨⟨zb, ⟨z0, z1, z2, z3⟩, ⟨z4, z5, z6⟩, z7⟩, z8, z9⟩ := hC
                    go_simp
                  simp only [Act.put, List.setIfInBounds_toArray, List.set_cons_zero, List.set_cons_succ]
                  go_big_quiet_on
                  go_big_quiet_want
                  refine quiet_val (v := .bool (!B)) (fun w' hC => ?_) ?_
                  · obtain ⟨⟨zb, ⟨z0, z1, z2, z3⟩, ⟨z4, z5, z6⟩, z7⟩, z8, z9⟩ := hC
                    go_simp
                  simp only [Act.put, List.setIfInBounds_toArray, List.set_cons_zero, List.set_cons_succ]
                  go_big_quiet_on
                  go_big_quiet_want
                  refine quiet_val (v := .bool (!B)) (fun w' hC => ?_) ?_
                  · obtain ⟨⟨zb, ⟨z0, z1, z2, z3⟩, ⟨z4, z5, z6⟩, z7⟩, z8, z9⟩ := hC
                    go_simp
                  simp only [Act.put, List.setIfInBounds_toArray, List.set_cons_zero, List.set_cons_succ]
                  go_big_quiet_on
                  refine wpQuiet_nil ?_
                  intro w' hC
                  have HBY : Hid (Below wr.heap.size wr w') := hC.1.1
                  clear hC
                  go_wp2
                  go_roundw
                  case rel => exact ⟨k + 1, by omega, by go_num, by rw [HNX.out]; rfl, HB.out.trans (HBY.out.mono HB.out.size)⟩
                  case measure => simp [intOf]; omega
              · obtain rfl : k = k8 := by omega
                have hall : G2.take k = G2 := by rw [← HK8.out]; exact List.take_length
                rw [hall, HFD.out]
                clear hB
                go_wp2
                go_ret
                exact ⟨rfl, HB1.out.trans ((H118.out.trans ((H820.out.trans (HB.out.mono H820.out.size)).mono H118.out.size)).mono HB1.out.size)⟩
          · have d9 : (NS == 9) = false := by simpa using h9
            rw [d9]
            go_wp2
            go_ret
            exact ⟨rfl, HB1.out.trans (H119.out.mono HB1.out.size)⟩
  · rw [no_ne h0]
    clear h0
    go_wp2
    go_ret
    exact ⟨rfl, HB1.out.trans (HB3.out.mono HB1.out.size)⟩
end Go.Proofs.YtmpjoepfgfbjmaaGreatDoor.mixHolds
/- Marks that came in. -/
namespace Go.Proofs.YtmpjoepfgfbjmaaGreatDoor.mixHolds
open Go.ChangeShapes Go.WideShapes Go.ChangeAt Go.RowKit
set_option linter.unusedSimpArgs false
set_option linter.unusedVariables false
set_option maxRecDepth 100000

theorem bo_open {H : Type} {enc : TypeId × Value → H} {W : World} {n : Nat} {cs : List Value} {x : DataW H × List MemPlace}
    (h : DataW.trod enc Tryz.prog W 0 (fun _ => true) true n 4 cs = some x) : ∃ y, cs = boE.c y := by
  obtain ⟨v0, e0, _⟩ := DataW.trod_bool Tryz.underlying4 h
  exact ⟨v0, e0⟩
theorem bos_of {H : Type} {enc : TypeId × Value → H} {W : World} {base : Nat} {v : Value} {d : DataW H} {p : List MemPlace}
    (hv : Value.okWide Tryz.prog W .any base 59 v) (h : DataW.Trod enc Tryz.prog W 0 (fun _ => true) true 59 v d p) : ∃ L, GS boE W v L :=
  gs_of (E := boE) 59 4 Tryz.underlying59 (by kernel_rfl) false (fun _ _ _ h => bo_open h) hv h
end Go.Proofs.YtmpjoepfgfbjmaaGreatDoor.mixHolds
/- The row of MixHolds: it answers true, whatever net, ops, wishes, name, number and marks it is called with; the variable errorType of package errors is as the program's text lays it. -/
namespace Go.Proofs.YtmpjoepfgfbjmaaGreatDoor.mixHolds
open Go.ChangeShapes Go.WideShapes Go.ChangeAt Go.RowKit
set_option linter.unusedVariables false
set_option linter.unusedSimpArgs false

theorem own : ownKnob Tryz.prog.godebug = none := by kernel_rfl
theorem laidOut : laidOutB Tryz.prog = true := by kernel_rfl
theorem et : Tryz.prog.globalNamed "errors.errorType" = some 0 := by kernel_rfl
theorem oneRow : ((List.range 289).filter fun t => Tryz.prog.rowNamed t [101, 114, 114, 111, 114]) = [43] := by kernel_rfl
theorem tsize : Tryz.prog.types.size = 289 := by kernel_rfl

theorem handle_of_laid {W : World} (h : laidMetH Tryz.prog Rows.mixHoldsRow.laid W) : HasErr W := by
  have h' : laidMet Tryz.prog [] W ∧ handlesMet Tryz.prog Rows.mixHoldsRow.laid W := h
  obtain ⟨name, u, ty, e1, e2, e3, e4, e5⟩ := h'.2 _ (List.mem_singleton.2 rfl)
  have en : name = [101, 114, 114, 111, 114] := (Option.some.inj e1).symm
  subst en
  have hu : some u = some 232 := e2.symm.trans (by kernel_rfl)
  obtain rfl := Option.some.inj hu
  have hm : ty ∈ (List.range 289).filter fun t => Tryz.prog.rowNamed t [101, 114, 114, 111, 114] := List.mem_filter.2 ⟨List.mem_range.2 (by rw [← tsize]; exact e3), e4⟩
  rw [oneRow] at hm
  obtain rfl := List.mem_singleton.1 hm
  have hh : typeHandle Tryz.prog 43 = .pointer (some ⟨1, 43, none⟩) := by kernel_rfl
  rw [hh] at e5
  unfold HasErr
  simpa using World.var?_cell et e5 0

set_option maxRecDepth 100000 in
theorem lifted (os : Os) (started : os.Started) (H : Type) (enc : TypeId × Value → H) :
    ReturnsInHanded {} Tryz.checked os 4 .any (fun w args => (Rows.mixHoldsSpec.pre enc Tryz.prog Tryz.f4 [] false w args ∧ laidMetH Tryz.prog Rows.mixHoldsRow.laid w) ∧ sizedMet enc Tryz.prog Tryz.f4 (OpenSpec.ofChange Rows.mixHoldsSpec) false w args)
      (Rows.mixHoldsSpec.post enc Tryz.prog Tryz.f4 false true false false) := by
  refine returnsInHanded_of_change_and (C := Tryz.checked) (X := fun w _ => laidMetH Tryz.prog Rows.mixHoldsRow.laid w) (fun _ _ _ hh h => h.of_heap hh) own started (by kernel_rfl) Tryz.func4
    (ChangeSpec.witness_at (enc := enc) (C := Tryz.checked) (os := os) (X := fun w _ => laidMetH Tryz.prog Rows.mixHoldsRow.laid w) false
      { World.holding Tryz.prog os ⟨#[], #[], []⟩ with heap := (World.holding Tryz.prog os ⟨#[], #[], []⟩).heap.modify 0 fun
          | .cells _ t frozen => .cells #[.iface 232 (.agg #[.pointer (some ⟨1, 43, none⟩)])] t frozen
          | o => o }
      #[.agg #[.int .i64 0, .slice none 0 0, .slice none 0 0, .slice none 0 0], .slice none 0 0, .slice none 0 0, .string ByteArray.empty, .int .i64 0, .slice none 0 0] 8 rfl (by kernel_rfl) (by kernel_rfl) (by kernel_rfl) (by kernel_rfl) (by kernel_rfl) (laidMetH_of_parts (laidMet_nil _ _) (by kernel_rfl))) ?_
  intro W base args ds gs before hval0 hW _ _ hLaid _
  have hval : ∀ (j : Nat) t v, Tryz.f4.params[j]? = some t → args[j]? = some v → Value.okWide Tryz.prog W .any base t v := hval0
  have hW' := hW
  obtain ⟨p, q, hA0, hV0, rfl, hfz, hnd⟩ := hW
  have hA : DataW.TrodAll enc Tryz.prog W 0 (fun _ => true) true Tryz.f4.params.toList args.toList ds p := hA0
  have hV : DataW.TrodVars enc Tryz.prog W (fun _ => true) [] gs q := hV0
  rw [Tryz.params4] at hA hval
  obtain ⟨v0, vs0, d0, ds0, p0, q0, hargs, rfl, rfl, h0, r0⟩ := trodAll_cons hA
  obtain ⟨v1, vs1, d1, ds1, p1, q1, rfl, rfl, rfl, h1, r1⟩ := trodAll_cons r0
  obtain ⟨v2, vs2, d2, ds2, p2, q2, rfl, rfl, rfl, h2, r2⟩ := trodAll_cons r1
  obtain ⟨v3, vs3, d3, ds3, p3, q3, rfl, rfl, rfl, h3, r3⟩ := trodAll_cons r2
  obtain ⟨v4, vs4, d4, ds4, p4, q4, rfl, rfl, rfl, h4, r4⟩ := trodAll_cons r3
  obtain ⟨v5, vs5, d5, ds5, p5, q5, rfl, rfl, rfl, h5, r5⟩ := trodAll_cons r4
  obtain ⟨rfl, rfl, rfl⟩ := trodAll_nil r5
  obtain rfl : args = #[v0, v1, v2, v3, v4, v5] := by cases args; simp_all
  have hg := handle_of_laid hLaid
  obtain ⟨rfl, rfl⟩ : gs = [] ∧ q = [] := by
    cases gs with
    | nil => exact ⟨rfl, hV⟩
    | cons g r => exact absurd hV (by intro h; cases h)
  have k0 := h0
  have lt0 : ∀ x ∈ p0, x.block < W.heap.size := by obtain ⟨m, hm⟩ := k0; exact DataW.trod_lt m _ _ _ hm
  have k1 := h1
  have lt1 : ∀ x ∈ p1, x.block < W.heap.size := by obtain ⟨m, hm⟩ := k1; exact DataW.trod_lt m _ _ _ hm
  have k2 := h2
  have lt2 : ∀ x ∈ p2, x.block < W.heap.size := by obtain ⟨m, hm⟩ := k2; exact DataW.trod_lt m _ _ _ hm
  have k3 := h3
  have lt3 : ∀ x ∈ p3, x.block < W.heap.size := by obtain ⟨m, hm⟩ := k3; exact DataW.trod_lt m _ _ _ hm
  have k4 := h4
  have lt4 : ∀ x ∈ p4, x.block < W.heap.size := by obtain ⟨m, hm⟩ := k4; exact DataW.trod_lt m _ _ _ hm
  have k5 := h5
  have lt5 : ∀ x ∈ p5, x.block < W.heap.size := by obtain ⟨m, hm⟩ := k5; exact DataW.trod_lt m _ _ _ hm
  obtain ⟨S, ao, n, cap, ao2, n2, cap2, ao3, n3, cap3, Ls, Hs, Ts, rfl, hL, hH, hT⟩ := net_of (hval 0 28 v0 rfl rfl) h0
  obtain ⟨l, hl⟩ := ops_of (hval 1 29 v1 rfl rfl) h1
  obtain ⟨a4, n4, c4, rfl⟩ := okWide_slice Tryz.underlying29 (hval 1 29 v1 rfl rfl)
  obtain ⟨ws, hw⟩ := wiss_of (hval 2 30 v2 rfl rfl) h2
  obtain ⟨a5, n5, c5, rfl⟩ := okWide_slice Tryz.underlying30 (hval 2 30 v2 rfl rfl)
  obtain ⟨m, rfl⟩ := okWide_string Tryz.underlying9 (hval 3 9 v3 rfl rfl)
  obtain ⟨a, rfl⟩ := okWide_int Tryz.underlying3 (hval 4 3 v4 rfl rfl)
  obtain ⟨D, hD⟩ := bos_of (hval 5 59 v5 rfl rfl) h5
  obtain ⟨a6, n6, c6, rfl⟩ := okWide_slice Tryz.underlying59 (hval 5 59 v5 rfl rfl)
  clear hA0 hval0
  refine (walk S ao n cap ao2 n2 cap2 ao3 n3 cap3 a4 n4 c4 a5 n5 c5 m a a6 n6 c6 Ls Hs Ts l ws D W hL hH hT hl hw hD hg).mono fun e W' ⟨he, bel⟩ => ?_
  subst he
  exact ⟨_, rfl, _, _, _, [], _, [], hW', trodAll_mk1 (shut_bool Tryz.underlying4 _), (trodAll_cons_mk (Below.trod laidOut (by kernel_rfl) (of_decide_eq_true (by kernel_rfl)) k0 bel lt0) (trodAll_cons_mk (Below.trod laidOut (by kernel_rfl) (of_decide_eq_true (by kernel_rfl)) k1 bel lt1) (trodAll_cons_mk (Below.trod laidOut (by kernel_rfl) (of_decide_eq_true (by kernel_rfl)) k2 bel lt2) (trodAll_cons_mk (Below.trod laidOut (by kernel_rfl) (of_decide_eq_true (by kernel_rfl)) k3 bel lt3) (trodAll_cons_mk (Below.trod laidOut (by kernel_rfl) (of_decide_eq_true (by kernel_rfl)) k4 bel lt4) (trodAll_cons_mk (Below.trod laidOut (by kernel_rfl) (of_decide_eq_true (by kernel_rfl)) k5 bel lt5) trodAll_mk0)))))), rfl, bel.frame _, fun h => by cases h⟩

theorem over : Rows.MixHoldsSaid :=
  OpenClaim.holds_of_wide 4 Tryz.f4 rfl rfl rfl rfl rfl rfl rfl ⟨rfl, rfl, rfl, rfl, rfl⟩ rfl rfl rfl rfl rfl (by kernel_rfl) Tryz.func4 (by kernel_rfl)
    (of_decide_eq_true (by kernel_rfl)) (by unfold Func.isWrapper; first | (rw [if_pos (by decide +kernel)]; kernel_rfl) | (rw [if_neg (by decide +kernel)]; exact ⟨rfl, rfl⟩))
    (fun os started H enc _ => lifted os started H enc)
end Go.Proofs.YtmpjoepfgfbjmaaGreatDoor.mixHolds
