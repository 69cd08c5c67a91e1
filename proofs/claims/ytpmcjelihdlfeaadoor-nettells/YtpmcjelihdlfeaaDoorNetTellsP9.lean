/- Contracts and facts on the way to NetTells, joined into one text: NetTells, TopoOf, StCube, StRule, NetOf, NetTellsRow. -/
import Derived.Test.YtpmcjelihdlfeaaDoorNetTellsP6
import Derived.Test.YtpmcjelihdlfeaaDoorNetTellsP7
import Derived.Test.YtpmcjelihdlfeaaDoorNetTellsP3
import Derived.Test.YtpmcjelihdlfeaaDoorNetTellsP8
import Derived.Test.YtpmcjelihdlfeaaDoorNetTellsP2
import Derived.Test.YtpmcjelihdlfeaaDoorNetTellsP1
import Derived.Test.YtpmcjelihdlfeaaDoorNetTellsP4
import Derived.Deep.CutRange
import Derived.Deep.CutBlock
import Derived.Test.YtpmcjelihdlfeaaDoorRows
import Derived.Lib.SmallJoins
import Derived.Laws.StructEq
import Derived.Maps.OwnOps
import Derived.ProofKit
import Derived.OpenShut
import Derived.ChangeOld
import Derived.Below
import Derived.ChangeSame
import Derived.ChangeVars
import Derived.JoinedOf
import Derived.RowKit
import Derived.RowKitTokens
import Derived.LaidLaws
import Derived.LaidHandle
import Derived.Stop.Joined
/- The walk of NetTells: it answers true, whatever net, spot, number and name it is called with. -/
namespace Go.Proofs.YtpmcjelihdlfeaaDoor.netTells
open Go.RowKit
set_option linter.unusedSimpArgs false
set_option linter.unusedVariables false

theorem fo_short {Ls : List ((Int × Int) × (Int × Int))} {Hs : List (ByteArray × (Int × Int))} {Ts : List (List Ru)} : ∀ (n : Nat) (l : List ((Int × Int) × Int)), (foF Ls Hs Ts n l).2.2.length ≤ l.length + n
  | 0, l => by simp [foF]
  | n + 1, l => by
    rw [fo_s]
    cases enE Ls Hs Ts l (laH l) with
    | inl e => simp
    | inr p =>
      have := fo_short (Ls := Ls) (Hs := Hs) (Ts := Ts) n (l ++ [p])
      simp only [List.length_append, List.length_cons, List.length_nil] at this
      simp only
      omega
theorem fr_short {Ls : List ((Int × Int) × (Int × Int))} {Hs : List (ByteArray × (Int × Int))} {Ts : List (List Ru)} (s : Int × Int) (h : Int) : (frF Ls Hs Ts s h).2.2.length ≤ 1000 := by
  have := fo_short (Ls := Ls) (Hs := Hs) (Ts := Ts) 24 [(s, h)]
  unfold frF
  simp only [List.length_cons, List.length_nil] at this
  omega
/-- Two boxes: a net, a spot. -/
structure NK (w W : World) (S : Int) (v1 v2 v3 : Value) (x y : Int) : Prop where
  below : Below w.heap.size w W
  n : NeBox W w.heap.size S v1 v2 v3
  s0 : W.cell? ⟨w.heap.size + 1, 0, none⟩ = some (.int .i64 x)
  s1 : W.cell? ⟨w.heap.size + 1, 1, none⟩ = some (.int .i64 y)
section
variable {w W W' : World} {S : Int} {v1 v2 v3 : Value} {x y : Int}
theorem NK.lt (k : NK w W S v1 v2 v3 x y) : w.heap.size + 2 ≤ W.heap.size := World.block_lt_of_cell? W ⟨w.heap.size + 1, 0, none⟩ k.s0
theorem NK.at (k : NK w W S v1 v2 v3 x y) {B : Nat} (hB : w.heap.size + 2 ≤ B) (hb : Below B W W') : NK w W' S v1 v2 v3 x y :=
  have hc : ∀ (g i : Nat) (z : Value), g < w.heap.size + 2 → W.cell? ⟨g, i, none⟩ = some z → W'.cell? ⟨g, i, none⟩ = some z := fun g i z hg e => (hb.cell (p := ⟨g, i, none⟩) (show g < B by omega)).trans e
  ⟨k.below.trans (hb.mono (by omega)), ⟨hc _ _ _ (by omega) k.n.1, hc _ _ _ (by omega) k.n.2.1, hc _ _ _ (by omega) k.n.2.2.1, hc _ _ _ (by omega) k.n.2.2.2⟩, hc _ _ _ (by omega) k.s0, hc _ _ _ (by omega) k.s1⟩
theorem NK.later (k : NK w W S v1 v2 v3 x y) (hb : Below W.heap.size W W') : NK w W' S v1 v2 v3 x y := k.at k.lt hb
end
theorem nk_new (w : World) (S : Int) (v1 v2 v3 : Value) (x y : Int) : NK w ((w.alloc (Obj.cells #[.int .i64 S, v1, v2, v3] 28)).alloc (Obj.cells #[.int .i64 x, .int .i64 y] 30)) S v1 v2 v3 x y := by
  have hb : ∀ (W : World) (o : Obj), Below W.heap.size W (W.alloc o) := fun W o => (Below.refl _ _).alloc (Nat.le_refl _) _
  have hn := nebox_new w S v1 v2 v3 28
  have e1 : (w.alloc (Obj.cells #[.int .i64 S, v1, v2, v3] 28)).heap.size = w.heap.size + 1 := by simp
  have b1 := hb w (Obj.cells #[.int .i64 S, v1, v2, v3] 28)
  generalize w.alloc (Obj.cells #[.int .i64 S, v1, v2, v3] 28) = A at hn e1 b1 ⊢
  have hv := vat_new A [.int .i64 x, .int .i64 y] 30
  have b2 := hb A (Obj.cells #[.int .i64 x, .int .i64 y] 30)
  rw [e1] at hv
  exact ⟨b1.trans (b2.mono (by omega)), hn.later b2, hv 0 _ rfl, hv 1 _ rfl⟩
/-- Values in a block of their own. -/
def BX (W : World) (g : Nat) (vs : List Value) : Prop := VAt W g 0 vs ∧ ∀ i, W.frozen? ⟨g, i, none⟩ = false
theorem BX.at {W W' : World} {g : Nat} {vs : List Value} (h : BX W g vs) {B : Nat} (hg : g < B) (hb : Below B W W') : BX W' g vs :=
  ⟨fun j u hu => (hb.cell (p := ⟨g, 0 + j, none⟩) hg).trans (h.1 j u hu), fun i => (hb.frozen (p := ⟨g, i, none⟩) hg).trans (h.2 i)⟩
theorem bx_new (W : World) (vs : List Value) (t : TypeId) : BX (W.alloc (.cells vs.toArray t)) W.heap.size vs := ⟨vat_new W vs t, fun i => froz_new2 W vs.toArray t i⟩
theorem bx_put3 {W : World} {g : Nat} {a b c u v x : Value} (h : BX W g [a, b, c]) : BX (put3 W g u v x) g [u, v, x] := by
  have hp := put3_cells (a := u) (b := v) (c := x) ⟨h.1 0 _ rfl, h.1 1 _ rfl, h.1 2 _ rfl⟩
  refine ⟨fun j z hz => ?_, fun i => ?_⟩
  · match j, hz with
    | 0, hz => cases hz; exact hp.1
    | 1, hz => cases hz; exact hp.2.1
    | 2, hz => cases hz; exact hp.2.2
  · unfold put3
    simp [h.2 i]
theorem bx_put2 {W : World} {g : Nat} {a b u v : Value} (h : BX W g [a, b]) : BX ((W.setCell ⟨g, 0, none⟩ u).setCell ⟨g, 1, none⟩ v) g [u, v] := by
  have h1 : (W.setCell ⟨g, 0, none⟩ u).cell? ⟨g, 1, none⟩ = some b := by
    rw [World.cell?_setCell_other _ _ _ _ (by simp)]
    exact h.1 1 _ rfl
  refine ⟨fun j z hz => ?_, fun i => by simp [h.2 i]⟩
  match j, hz with
  | 0, hz =>
    cases hz
    rw [World.cell?_setCell_other _ _ _ _ (by simp)]
    exact World.cell?_setCell_same _ _ _ (h.1 0 _ rfl)
  | 1, hz => cases hz; exact World.cell?_setCell_same _ _ _ h1
theorem BX.ne1 {W : World} {g b i : Nat} {vs : List Value} {v : Value} (h : BX W b vs) (hne : b ≠ g) : BX (W.setCell ⟨g, i, none⟩ v) b vs :=
  ⟨fun j u hu => (World.cell?_of_block (Below.heap_setCell _ _ _ _ hne)).trans (h.1 j u hu), fun k => by simp [h.2 k]⟩
/-- A fate in its box. -/
def FX (W : World) (g : Nat) (F : Int × ByteArray × List ((Int × Int) × Int)) : Prop := ∃ a q c, BX W g [.int .i64 F.1, .string F.2.1, .slice a q c] ∧ GS hopE W (.slice a q c) F.2.2
theorem FX.later {W W' : World} {g : Nat} {F : Int × ByteArray × List ((Int × Int) × Int)} (h : FX W g F) (hb : Below W.heap.size W W') : FX W' g F := by
  obtain ⟨a, q, c, h1, h2⟩ := h
  exact ⟨a, q, c, h1.at (World.block_lt_of_cell? _ _ (h1.1 0 _ rfl)) hb, h2.later hb⟩
theorem BX.later {W W' : World} {g : Nat} {u : Value} {vs : List Value} (h : BX W g (u :: vs)) (hb : Below W.heap.size W W') : BX W' g (u :: vs) := h.at (World.block_lt_of_cell? _ _ (h.1 0 _ rfl)) hb
/-- A fate is stored into its box. -/
theorem fx_put {W : World} {g : Nat} {F G : Int × ByteArray × List ((Int × Int) × Int)} {a : Option Addr} {q c : Nat} (h : FX W g F) (hG : GS hopE W (.slice a q c) G.2.2) (hne : ∀ b o, a = some ⟨b, o, none⟩ → b ≠ g) : FX (put3 W g (.int .i64 G.1) (.string G.2.1) (.slice a q c)) g G := by
  obtain ⟨_, _, _, h1, _⟩ := h
  exact ⟨a, q, c, bx_put3 h1, gs_put3 hG hne _ _ _⟩
theorem fx_zero (W : World) (t : TypeId) : FX (W.alloc (Obj.cells #[.int .i64 0, .string ⟨#[]⟩, .slice none 0 0] t)) W.heap.size zeF := ⟨none, 0, 0, bx_new W [.int .i64 0, .string ⟨#[]⟩, .slice none 0 0] t, GS.nil _⟩
theorem gs_none {W W' : World} {v : Value} (h : GS hopE W v []) : GS hopE W' v [] := by
  rcases h with h | ⟨g, o, c, h1, h2, h3, _⟩
  · exact .inl h
  · exact .inr ⟨g, o, c, h1, h2, h3, fun i hi => absurd hi (by simp)⟩
theorem fx_ne2 {W : World} {g b : Nat} {u v : Value} (h : FX W b zeF) (hne : b ≠ g) : FX ((W.setCell ⟨g, 0, none⟩ u).setCell ⟨g, 1, none⟩ v) b zeF := by
  obtain ⟨a, q, c, h1, h2⟩ := h
  exact ⟨a, q, c, (h1.ne1 hne).ne1 hne, gs_none h2⟩
theorem bx_ne3 {W : World} {g b : Nat} {vs : List Value} {u v z : Value} (h : BX W b vs) (hne : b ≠ g) : BX (put3 W g u v z) b vs := ((h.ne1 hne).ne1 hne).ne1 hne
theorem se_0 {S : Int} {Ls : List ((Int × Int) × (Int × Int))} {Hs : List (ByteArray × (Int × Int))} {Ts : List (List Ru)} {m : ByteArray} {h : Int} (hn : ntN S Ls Hs Ts = 0) : seN S Ls Hs Ts m h = if (whereO Hs m).isSome then (if hdrB h then 0 else 1) else 5 := by
  have ht := (nt_0 hn).1
  unfold seN weN
  rw [if_pos hn, if_pos ht]
  cases (whereO Hs m).isSome
  · simp
  · simp
theorem se_v {S : Int} {Ls : List ((Int × Int) × (Int × Int))} {Hs : List (ByteArray × (Int × Int))} {Ts : List (List Ru)} {m : ByteArray} {h : Int} (hn : ntN S Ls Hs Ts = 0) {p : Int × Int} (hw : whereO Hs m = some p) (hh : hdrB h = true) : seV S Ls Hs Ts m h = frF Ls Hs Ts p h := by
  have h0 : seN S Ls Hs Ts m h = 0 := by rw [se_0 hn, hw, hh]; rfl
  have ht := (nt_0 hn).1
  have hwn : weN S Ls Hs m = 0 := by rw [weN, if_pos ht, hw]; rfl
  unfold seV weV
  rw [if_pos h0, if_pos hwn, hw]
  rfl
theorem se_z {S : Int} {Ls : List ((Int × Int) × (Int × Int))} {Hs : List (ByteArray × (Int × Int))} {Ts : List (List Ru)} {m : ByteArray} {h : Int} (h0 : seN S Ls Hs Ts m h ≠ 0) : seV S Ls Hs Ts m h = zeF := by
  unfold seV
  rw [if_neg h0]

set_option maxHeartbeats 16000000 in
set_option maxRecDepth 100000 in
theorem walk (S : Int) (ao : Option Addr) (n cap : Nat) (ao2 : Option Addr) (n2 cap2 : Nat) (ao3 : Option Addr) (n3 cap3 : Nat) (Ls : List ((Int × Int) × (Int × Int))) (Hs : List (ByteArray × (Int × Int))) (Ts : List (List Ru)) (x y h : Int) (m : ByteArray) (w : World)
    (hL : GS lnkE w (.slice ao n cap) Ls) (hH : GS hstE w (.slice ao2 n2 cap2) Hs) (hT : TS w (.slice ao3 n3 cap3) Ts) (hg : HasErr w) :
    Calls Tryd.prog 3 #[.agg #[.int .i64 S, .slice ao n cap, .slice ao2 n2 cap2, .slice ao3 n3 cap3], .agg #[.int .i64 x, .int .i64 y], .int .i64 h, .string m] w fun e w' => e = .returned (.bool true) ∧ Below w.heap.size w w' := by
  have HALL : Hid (∀ W, Below w.heap.size w W → GS lnkE W (.slice ao n cap) Ls ∧ GS hstE W (.slice ao2 n2 cap2) Hs ∧ TS W (.slice ao3 n3 cap3) Ts ∧ HasErr W) := fun W hb => ⟨hL.later hb, hH.later hb, hT.later hb, hg.later hb⟩
  have HN3 : Hid (Ts.length = n3) := hT.len
  obtain ⟨w0, hw0⟩ : ∃ W, (w.alloc (Obj.cells #[.int .i64 S, .slice ao n cap, .slice ao2 n2 cap2, .slice ao3 n3 cap3] 28)).alloc (Obj.cells #[.int .i64 x, .int .i64 y] 30) = W := ⟨_, rfl⟩
  have hK := nk_new w S (.slice ao n cap) (.slice ao2 n2 cap2) (.slice ao3 n3 cap3) x y
  rw [hw0] at hK
  have HK0 : Hid (NK w w0 S (.slice ao n cap) (.slice ao2 n2 cap2) (.slice ao3 n3 cap3) x y) := hK
  have HW0 : Hid ((w.alloc (Obj.cells #[.int .i64 S, .slice ao n cap, .slice ao2 n2 cap2, .slice ao3 n3 cap3] 28)).alloc (Obj.cells #[.int .i64 x, .int .i64 y] 30) = w0) := hw0
  obtain ⟨N, hN⟩ : ∃ N, N = ntN S Ls Hs Ts := ⟨_, rfl⟩
  obtain ⟨F1, hF1⟩ : ∃ N, N = cpN S Ls Hs Ts (x, y) h := ⟨_, rfl⟩
  obtain ⟨SN, hSN⟩ : ∃ N, N = spN S Ls Hs Ts (x, y) h := ⟨_, rfl⟩
  obtain ⟨SV, hSV⟩ : ∃ N, N = spV S Ls Hs Ts (x, y) h := ⟨_, rfl⟩
  obtain ⟨FV, hFV⟩ : ∃ N, N = frV S Ls Hs Ts (x, y) h := ⟨_, rfl⟩
  obtain ⟨QN, hQN⟩ : ∃ N, N = seN S Ls Hs Ts m h := ⟨_, rfl⟩
  obtain ⟨QV, hQV⟩ : ∃ N, N = seV S Ls Hs Ts m h := ⟨_, rfl⟩
  have HN : Hid (ntN S Ls Hs Ts = N) := hN.symm
  have HF1 : Hid (cpN S Ls Hs Ts (x, y) h = F1) := hF1.symm
  have HSN : Hid (spN S Ls Hs Ts (x, y) h = SN) := hSN.symm
  have HSV : Hid (spV S Ls Hs Ts (x, y) h = SV) := hSV.symm
  have HFV : Hid (frV S Ls Hs Ts (x, y) h = FV) := hFV.symm
  have HQN : Hid (seN S Ls Hs Ts m h = QN) := hQN.symm
  have HQV : Hid (seV S Ls Hs Ts m h = QV) := hQV.symm
  have HFL : Hid (FV.2.2.length ≤ 1000) := by
    show _ ≤ _
    rw [hFV, frV]
    split
    · exact fr_short _ _
    · simp [zeF]
  have HQL : Hid (QV.2.2.length ≤ 1000) := by
    show _ ≤ _
    rw [hQV, seV]
    split
    · exact fr_short _ _
    · simp [zeF]
  clear hL hH hT hg hK hw0 hN hF1 hSN hSV hFV hQN hQV
  go_enter Tryd.func3, Tryd.ntmps3
  go_upto_region 1 with fail
  rw [HW0.out]
  clear HW0
  obtain ⟨_, ⟨b0, b1, b2, b3⟩, s0, s1⟩ := HK0.out
  go_wp2_with fail
  refine (rnet_any S ao n cap ao2 n2 cap2 ao3 n3 cap3 Ls Hs Ts _ (HALL.out _ HK0.out.below).1 (HALL.out _ HK0.out.below).2.1 (HALL.out _ HK0.out.below).2.2.1).mono ?_
  rintro e w1 ⟨rfl, hb1⟩
  rw [HN.out]
  have HK1 : Hid (NK w w1 S (.slice ao n cap) (.slice ao2 n2 cap2) (.slice ao3 n3 cap3) x y) := HK0.out.later hb1
  clear hb1 HK0 b0 b1 b2 b3 s0 s1
  obtain ⟨_, ⟨b0, b1, b2, b3⟩, s0, s1⟩ := HK1.out
  go_wp2_with fail
  refine (ncheck_any S ao n cap ao2 n2 cap2 ao3 n3 cap3 Ls Hs Ts _ (HALL.out _ HK1.out.below).1 (HALL.out _ HK1.out.below).2.1 (HALL.out _ HK1.out.below).2.2.1).mono ?_
  rintro e w2 ⟨rfl, hb2⟩
  rw [HN.out]
  have HK2 : Hid (NK w w2 S (.slice ao n cap) (.slice ao2 n2 cap2) (.slice ao3 n3 cap3) x y) := HK1.out.later hb2
  clear hb2 HK1 b0 b1 b2 b3 s0 s1
  go_wp2_with fail
  refine (same_noV N _ (HALL.out _ HK2.out.below).2.2.2).mono ?_
  rintro e w3 ⟨rfl, hb3⟩
  have HK3 : Hid (NK w w3 S (.slice ao n cap) (.slice ao2 n2 cap2) (.slice ao3 n3 cap3) x y) := HK2.out.later hb3
  clear hb3 HK2
  obtain ⟨_, ⟨b0, b1, b2, b3⟩, s0, s1⟩ := HK3.out
  go_wp2_with fail
  refine (rspot_any S ao n cap ao2 n2 cap2 x y _).mono ?_
  rintro e w4 ⟨rfl, hb4⟩
  have HK4 : Hid (NK w w4 S (.slice ao n cap) (.slice ao2 n2 cap2) (.slice ao3 n3 cap3) x y) := HK3.out.later hb4
  clear hb4 HK3 b0 b1 b2 b3 s0 s1
  obtain ⟨ok, hok⟩ : ∃ q, q = spB S (x, y) := ⟨_, rfl⟩
  have HOK : Hid (spB S (x, y) = ok) := hok.symm
  rw [← hok]
  obtain ⟨ih, hih⟩ : ∃ q, q = hdrB h := ⟨_, rfl⟩
  have HIH : Hid (hdrB h = ih) := hih.symm
  clear hok
  go_wp2_with fail
  refine (header_any h _).mono ?_
  rintro e w5 ⟨rfl, hw5⟩
  subst hw5
  rw [← hih]
  clear hih
  go_upto_region 6 with fail
  go_cut [54] from 45 (fun c w' => c = .bool (decide (N = 0) && (!ok || !ih)) ∧ w' = w5)
  case first =>
    as_aux_lemma =>
      by_cases h0 : N = 0
      · subst h0
        cases ok <;> cases ih
        all_goals
          go_wp2_with fail
          go_meet
          case rel => exact ⟨rfl, rfl⟩
      · have e1 : (N == 0) = false := by simpa using h0
        have e2 : decide (N = 0) = false := by simpa using h0
        have E2 : Hid (decide (N = 0) = false) := e2
        clear h0 e2
        go_wp2_with fail
        go_meet
        case rel => exact ⟨by rw [E2.out]; rfl, rfl⟩
  obtain ⟨rfl, hwc⟩ := hcut
  subst hwc
  obtain ⟨w6, hw6⟩ : ∃ X, X = wc := ⟨_, rfl⟩
  subst hw6
  go_upto_if 54 with fail
  go_cut [11] from 45 (fun f w' => f = .int .i64 F1 ∧ w' = w6)
  case first =>
    as_aux_lemma =>
      by_cases h0 : N = 0
      · have HTT : Hid (ntN S Ls Hs Ts = 0) := HN.out.trans h0
        have HFF : Hid (F1 = if ok && ih then 0 else 1) := by
          show _ = _
          rw [← HF1.out, cpN, if_pos HTT.out, HOK.out, HIH.out]
        subst h0
        cases ok <;> cases ih
        all_goals
          go_wp2_with fail
          go_meet
          case rel => exact ⟨by rw [HFF.out]; rfl, rfl⟩
      · have HTT : Hid (F1 = N) := by
          show _ = _
          rw [← HF1.out, cpN, if_neg (by rw [HN.out]; exact h0), HN.out]
        have e2 : (decide (N = 0) && (!ok || !ih)) = false := by simp [h0]
        clear h0
        rw [e2]
        go_wp2_with fail
        go_meet
        case rel => exact ⟨by rw [HTT.out], rfl⟩
  obtain ⟨rfl, hwd⟩ := hcut
  subst hwd
  obtain ⟨w7, hw7⟩ : ∃ X, X = wc := ⟨_, rfl⟩
  subst hw7
  obtain ⟨w8, hw8⟩ : ∃ W, (w7.alloc (Obj.cells #[.int .i64 0, .int .i64 0] 30)).alloc (Obj.cells #[.int .i64 0, .string ⟨#[]⟩, .slice none 0 0] 40) = W := ⟨_, rfl⟩
  obtain ⟨gT, hgT⟩ : ∃ g, w7.heap.size = g := ⟨_, rfl⟩
  obtain ⟨gF, hgF⟩ : ∃ g, w7.heap.size + 1 = g := ⟨_, rfl⟩
  have hbx : Below w7.heap.size w7 w8 ∧ BX w8 gT [.int .i64 0, .int .i64 0] ∧ FX w8 gF zeF := by
    have b1 : Below w7.heap.size w7 (w7.alloc (Obj.cells #[.int .i64 0, .int .i64 0] 30)) := (Below.refl _ _).alloc (Nat.le_refl _) _
    have e1 : (w7.alloc (Obj.cells #[.int .i64 0, .int .i64 0] 30)).heap.size = w7.heap.size + 1 := by simp
    have x1 := bx_new w7 [.int .i64 0, .int .i64 0] 30
    have x2 := fx_zero (w7.alloc (Obj.cells #[.int .i64 0, .int .i64 0] 30)) 40
    have b2 : Below (w7.alloc (Obj.cells #[.int .i64 0, .int .i64 0] 30)).heap.size (w7.alloc (Obj.cells #[.int .i64 0, .int .i64 0] 30)) w8 := by
      rw [← hw8]
      exact (Below.refl _ _).alloc (Nat.le_refl _) _
    rw [e1, hw8, hgF] at x2
    have x3 := x1.later b2
    rw [hgT] at x3
    exact ⟨b1.trans (b2.mono (by omega)), x3, x2⟩
  have HK8 : Hid (NK w w8 S (.slice ao n cap) (.slice ao2 n2 cap2) (.slice ao3 n3 cap3) x y) := HK4.out.later hbx.1
  have HT8 : Hid (BX w8 gT [.int .i64 0, .int .i64 0]) := hbx.2.1
  have HF8 : Hid (FX w8 gF zeF) := hbx.2.2
  have HGG : Hid (w.heap.size + 2 ≤ gT ∧ gT + 1 = gF ∧ gF < w8.heap.size) := by
    have h1 := HK4.out.lt
    obtain ⟨_, _, _, h2, _⟩ := hbx.2.2
    have h3 : gF < w8.heap.size := World.block_lt_of_cell? _ _ (h2.1 0 _ rfl)
    exact ⟨by omega, by omega, h3⟩
  have HW8 : Hid ((w7.alloc (Obj.cells #[.int .i64 0, .int .i64 0] 30)).alloc (Obj.cells #[.int .i64 0, .string ⟨#[]⟩, .slice none 0 0] 40) = w8) := hw8
  have HGT : Hid (w7.heap.size = gT) := hgT
  have HGF : Hid (w7.heap.size + 1 = gF) := hgF
  clear hbx hw8 hgT hgF
  go_upto_if 57 with fail
  rw [HW8.out, HGF.out, HGT.out]
  clear HW8 HGT HGF HK4
  go_cut [11, 16] from 56 (fun f hd w' => f = .int .i64 SN ∧ hd = .int .i64 SV.2 ∧ NK w w' S (.slice ao n cap) (.slice ao2 n2 cap2) (.slice ao3 n3 cap3) x y ∧ BX w' gT [.int .i64 SV.1.1, .int .i64 SV.1.2] ∧ FX w' gF FV)
  case first =>
    by_cases hF : F1 = 0
    · obtain ⟨hnt, hsp, hhd⟩ := cp_0 (HF1.out.trans hF)
      obtain ⟨htp, hTS, htb⟩ := nt_0 hnt
      have HCP0 : Hid (cpN S Ls Hs Ts (x, y) h = 0) := HF1.out.trans hF
      have HHD : Hid (hdrB h = true) := hhd
      have hsp2 := sp_of hsp
      simp only at hsp2
      have hn3S : (n3 : Int) = S := by rw [← hTS, HN3.out]
      have hS6 := (tp_0 htp).1.2
      obtain ⟨j, hj⟩ : ∃ j : Nat, x - 1 = (j : Int) := ⟨(x - 1).toNat, by omega⟩
      have hxw : IntKind.i64.wrap (x - 1) = (j : Int) := by
        rw [hj]
        exact wrap_small (by omega) (by omega)
      have jb0 : (0 : Int) ≤ (j : Int) := by omega
      have jb1 : (j : Int) < (n3 : Int) := by omega
      have hjn : j < n3 := by omega
      obtain ⟨_, _, _, e3, _, _, _, ha3⟩ := (HALL.out _ (Below.refl _ _)).2.2.1.form
      cases e3
      obtain ⟨g3, o3, ha33, hc3, _⟩ := ha3 (by omega)
      subst ha33
      obtain ⟨a4, n4, c4, t0, hs4⟩ := hc3 j (by rw [HN3.out]; exact hjn)
      obtain ⟨T, hT⟩ : ∃ T, T = Ts.getD j [] := ⟨_, rfl⟩
      rw [← getT (by rw [HN3.out]; exact hjn), ← hT] at hs4
      have HSW : Hid (∀ W, Below w.heap.size w W → SR W (.slice a4 n4 c4) T) := fun W hb => hs4.later hb
      have HTB : Hid (tbN T = 0) := by
        show _ = _
        rw [hT]
        exact htb j (by rw [HN3.out]; exact hjn)
      obtain ⟨A, hA⟩ : ∃ A, A = stT T ((x, y), h) := ⟨_, rfl⟩
      have HA : Hid (stT T ((x, y), h) = A) := hA.symm
      have hstO : stO Ts ((x, y), h) = A := by
        rw [hA, hT]
        show stT (Ts.getD (x - 1).toNat []) _ = _
        rw [hj, Int.toNat_natCast]
      have HSN2 : Hid (SN = if A.isSome then 0 else 5) := by
        show _ = _
        rw [← HSN.out, spN, if_pos HCP0.out, hstO]
      have HSV2 : Hid (SV = A.getD zeH) := by
        show _ = _
        rw [← HSV.out, spV, if_pos HCP0.out, hstO]
      have HFV2 : Hid (FV = frF Ls Hs Ts (x, y) h) := by
        show _ = _
        rw [← HFV.out, frV, if_pos HCP0.out]
      have ht8 := cell_later (HK8.out.below) t0
      subst hF
      clear hnt hsp hhd htp hTS htb hsp2 hn3S hS6 hj ha3 hc3 t0 hs4 hT hA hstO
      obtain ⟨_, ⟨b0, b1, b2, b3⟩, s0, s1⟩ := HK8.out
      go_wp2_with fail
      refine (find_any (.slice a4 n4 c4) T h _ (HSW.out _ HK8.out.below)).mono ?_
      rintro e w9 ⟨rfl, hb9⟩
      have HK9 : Hid (NK w w9 S (.slice ao n cap) (.slice ao2 n2 cap2) (.slice (some ⟨g3, o3, none⟩) n3 cap3) x y) := HK8.out.later hb9
      have HT9 : Hid (BX w9 gT [.int .i64 0, .int .i64 0]) := HT8.out.later hb9
      have HF9 : Hid (FX w9 gF zeF) := HF8.out.later hb9
      obtain ⟨I, hI⟩ : ∃ I, I = beTo T h T.length := ⟨_, rfl⟩
      have HI : Hid (beTo T h T.length = I) := hI.symm
      rw [← hI]
      clear hb9 hI b0 b1 b2 b3 s0 s1 ht8 HK8 HT8 HF8
      go_upto_region 15 with fail
      go_cut [77] from 68 (fun c w' => c = .bool A.isNone ∧ w' = w9)
      case first =>
        as_aux_lemma =>
          by_cases hneg : I < 0
          · have hAn : A = none := by
              rw [← HA.out]
              exact st_no HTB.out HHD.out (by rw [HI.out]; exact hneg)
            subst hAn
            go_wp2_with fail
            go_meet
            case rel => exact ⟨rfl, rfl⟩
          · have hbd := be_bd T h T.length
            rw [HI.out] at hbd
            obtain ⟨q, rfl⟩ : ∃ q : Nat, I = (q : Int) := ⟨I.toNat, by omega⟩
            have hql : q < T.length := by omega
            obtain ⟨_, _, _, e4, hn4, hm4, _, ha4⟩ := (HSW.out _ HK9.out.below).form
            cases e4
            obtain ⟨g4, o4, hao4, hc4, _⟩ := ha4 (by omega)
            subst hao4
            have hqn : q < n4 := by omega
            obtain ⟨rp, rm, rb, ro, rs, rv, hl, hLj, q0, q1, q2, q3, q4, q5⟩ := hc4.at hn4 hqn
            have hbe : beR T h = ⟨rp, rm, rb, ro, rs, rv⟩ := by
              rw [beR, HI.out, Int.toNat_natCast, getD_at hql, hLj]
            have hB0 : 0 ≤ beTo T h T.length := by rw [HI.out]; omega
            have qb0 : (0 : Int) ≤ (q : Int) := by omega
            have qb1 : (q : Int) < (n4 : Int) := by omega
            have qn : ¬ (q : Int) < 0 := by omega
            have qnb : decide ((q : Int) < 0) = false := decide_eq_false qn
            by_cases ho : ro = 0
            · have hAn : A = none := by
                rw [← HA.out]
                exact st_drop HTB.out HHD.out hB0 (by rw [hbe]; exact ho)
              subst hAn
              subst ho
              clear hneg hbd hn4 hm4 ha4 hc4 hLj hbe hB0
              go_wp2_with fail
              go_meet
              case rel => exact ⟨rfl, rfl⟩
            · obtain ⟨k1, _, _⟩ := st_yes (p := ((x, y), h)) HTB.out HHD.out hB0 (by rw [hbe]; exact ho)
              rw [HA.out] at k1
              have hob : (ro == 0) = false := by simpa using ho
              subst k1
              clear hneg hbd hn4 hm4 ha4 hc4 hLj hbe hB0
              go_wp2_with fail
              go_meet
              case rel => exact ⟨rfl, rfl⟩
      obtain ⟨rfl, hwc⟩ := hcut
      subst hwc
      obtain ⟨wA, hwA⟩ : ∃ X, X = wc := ⟨_, rfl⟩
      subst hwA
      go_upto_if 77 with fail
      go_cut [11, 16] from 68 (fun f hd w' => f = .int .i64 SN ∧ hd = .int .i64 SV.2 ∧ NK w w' S (.slice ao n cap) (.slice ao2 n2 cap2) (.slice (some ⟨g3, o3, none⟩) n3 cap3) x y ∧ BX w' gT [.int .i64 SV.1.1, .int .i64 SV.1.2] ∧ FX w' gF zeF)
      case first =>
        as_aux_lemma =>
          cases A with
          | none =>
            have HS5 : Hid (SN = 5 ∧ SV = zeH) := ⟨HSN2.out, HSV2.out⟩
            go_wp2_with fail
            go_meet
            case rel => exact ⟨by rw [HS5.out.1], by rw [HS5.out.2]; rfl, HK9.out, by rw [HS5.out.2]; exact HT9.out, HF9.out⟩
          | some v =>
            have hbd := be_bd T h T.length
            have hI0 : 0 ≤ I := by
              rcases Int.lt_or_le I 0 with h1 | h1
              · have := st_no (p := ((x, y), h)) HTB.out HHD.out (by rw [HI.out]; exact h1)
                rw [HA.out] at this
                cases this
              · exact h1
            rw [HI.out] at hbd
            obtain ⟨q, rfl⟩ : ∃ q : Nat, I = (q : Int) := ⟨I.toNat, by omega⟩
            have hql : q < T.length := by omega
            obtain ⟨_, _, _, e4, hn4, hm4, _, ha4⟩ := (HSW.out _ HK9.out.below).form
            cases e4
            obtain ⟨g4, o4, hao4, hc4, _⟩ := ha4 (by omega)
            subst hao4
            have hqn : q < n4 := by omega
            obtain ⟨rp, rm, rb, ro, rs, rv, hl, hLj, q0, q1, q2, q3, q4, q5⟩ := hc4.at hn4 hqn
            have hbe : beR T h = ⟨rp, rm, rb, ro, rs, rv⟩ := by
              rw [beR, HI.out, Int.toNat_natCast, getD_at hql, hLj]
            have hB0 : 0 ≤ beTo T h T.length := by rw [HI.out]; omega
            have ho : ro ≠ 0 := by
              intro ho
              have := st_drop (p := ((x, y), h)) HTB.out HHD.out hB0 (by rw [hbe]; exact ho)
              rw [HA.out] at this
              cases this
            obtain ⟨k1, k2, k3⟩ := st_yes (p := ((x, y), h)) HTB.out HHD.out hB0 (by rw [hbe]; exact ho)
            rw [HA.out, hbe] at k1
            rw [hbe] at k2 k3
            simp only at k1 k2 k3
            obtain ⟨TU, hTU⟩ : ∃ u, u = tuTo rs rv h 4 := ⟨_, rfl⟩
            have HTU : Hid (tuTo rs rv h 4 = TU) := hTU.symm
            rw [← hTU] at k1
            have hv : v = ((x, ro), TU) := Option.some.inj k1
            have HS6 : Hid (SN = 0 ∧ SV = ((x, ro), TU)) := by
              refine ⟨HSN2.out, ?_⟩
              rw [HSV2.out, hv]
              rfl
            have HRS : Hid (0 ≤ rs ∧ rs < 16) := k2
            have HRV : Hid (0 ≤ rv ∧ rv < 16) := k3
            have HH16 : Hid (0 ≤ h ∧ h < 16) := hdr_of HHD.out
            have qb0 : (0 : Int) ≤ (q : Int) := by omega
            have qb1 : (q : Int) < (n4 : Int) := by omega
            obtain ⟨wP, hwP⟩ : ∃ W, (wA.setCell ⟨gT, 0, none⟩ (.int .i64 x)).setCell ⟨gT, 1, none⟩ (.int .i64 ro) = W := ⟨_, rfl⟩
            have hgg := HGG.out
            have hbP : Below (w.heap.size + 2) wA wP := by
              rw [← hwP]
              exact ((Below.refl _ _).setCell (p := ⟨gT, 0, none⟩) (show w.heap.size + 2 ≤ gT by omega) _).setCell (p := ⟨gT, 1, none⟩) (show w.heap.size + 2 ≤ gT by omega) _
            have HKP : Hid (NK w wP S (.slice ao n cap) (.slice ao2 n2 cap2) (.slice (some ⟨g3, o3, none⟩) n3 cap3) x y) := HK9.out.at (Nat.le_refl _) hbP
            have HTP : Hid (BX wP gT [.int .i64 x, .int .i64 ro]) := by
              show BX _ _ _
              rw [← hwP]
              exact bx_put2 HT9.out
            have HFP : Hid (FX wP gF zeF) := by
              show FX _ _ _
              rw [← hwP]
              exact fx_ne2 HF9.out (by omega)
            have HWP : Hid ((wA.setCell ⟨gT, 0, none⟩ (.int .i64 x)).setCell ⟨gT, 1, none⟩ (.int .i64 ro) = wP) := hwP
            have hcP : RAt wP g4 o4 T := by
              obtain ⟨_, _, _, e4, _, _, _, ha4⟩ := (HSW.out _ HKP.out.below).form
              cases e4
              obtain ⟨g', o', e9, hc', _⟩ := ha4 (by omega)
              cases e9
              exact hc'
            obtain ⟨rp', rm', rb', ro', rs', rv', hl', hLj', p0, p1, p2, p3, p4, p5⟩ := hcP.at hn4 hqn
            rw [hLj] at hLj'
            cases hLj'
            have HCP : Hid (wP.cell? ⟨g4, o4 + q * 6, none⟩ = some (.int .i64 rp) ∧ wP.cell? ⟨g4, o4 + q * 6 + 1, none⟩ = some (.int .i64 rm) ∧ wP.cell? ⟨g4, o4 + q * 6 + 2, none⟩ = some (.int .i64 rb) ∧ wP.cell? ⟨g4, o4 + q * 6 + 3, none⟩ = some (.int .i64 ro) ∧ wP.cell? ⟨g4, o4 + q * 6 + 4, none⟩ = some (.int .i64 rs) ∧ wP.cell? ⟨g4, o4 + q * 6 + 5, none⟩ = some (.int .i64 rv)) := ⟨p0, p1, p2, p3, p4, p5⟩
            obtain ⟨_, ⟨b0, b1, b2, b3⟩, s0, s1⟩ := HK9.out
            have kT0 : wA.cell? ⟨gT, 0, none⟩ = some (.int .i64 0) := HT9.out.1 0 _ rfl
            have kT1 : wA.cell? ⟨gT, 1, none⟩ = some (.int .i64 0) := HT9.out.1 1 _ rfl
            have kz0 := HT9.out.2 0
            have kz1 := HT9.out.2 1
            have y4 : g4 < wA.heap.size := World.block_lt_of_cell? _ _ q0
            have yT : gT < wA.heap.size := World.block_lt_of_cell? _ _ kT0
            have yS : w.heap.size + 1 < wA.heap.size := World.block_lt_of_cell? _ _ s0
            clear hbd hI0 hn4 hm4 ha4 hc4 hLj hbe hB0 ho k1 k2 k3 hTU hv hwP hgg hbP hcP hl' p0 p1 p2 p3 p4 p5
            go_upto_region 17 with fail
            go_region
            all_goals
              clear q0 q1 q2 q3 q4 q5 b0 b1 b2 b3 s0 s1 kT0 kT1 kz0 kz1
              obtain ⟨p0, p1, p2, p3, p4, p5⟩ := HCP.out
              try rw [HWP.out]
              go_wp2_with fail
              refine (turned_any rp rm rb ro rs rv h _ HRS.out HRV.out HH16.out).mono ?_
              rintro e wQ ⟨rfl, hbQ⟩
              rw [HTU.out]
              go_wp2_with fail
              go_meet
            all_goals exact ⟨by rw [HS6.out.1], by rw [HS6.out.2], HKP.out.later (bdrew hbQ), by rw [HS6.out.2]; exact HTP.out.later (bdrew hbQ), HFP.out.later (bdrew hbQ)⟩
      obtain ⟨rfl, rfl, hKB, hTB9, hFB⟩ := hcut
      obtain ⟨wB, hwB⟩ : ∃ X, X = wc := ⟨_, rfl⟩
      subst hwB
      have HKB : Hid (NK w wB S (.slice ao n cap) (.slice ao2 n2 cap2) (.slice (some ⟨g3, o3, none⟩) n3 cap3) x y) := hKB
      have HTB9 : Hid (BX wB gT [.int .i64 SV.1.1, .int .i64 SV.1.2]) := hTB9
      have HFB : Hid (FX wB gF zeF) := hFB
      clear hKB hTB9 hFB HK9 HT9 HF9
      obtain ⟨_, ⟨b0, b1, b2, b3⟩, s0, s1⟩ := HKB.out
      go_wp2_with fail
      refine (rfrom_any S ao n cap ao2 n2 cap2 (some ⟨g3, o3, none⟩) n3 cap3 Ls Hs Ts x y h _ (HALL.out _ HKB.out.below).1 (HALL.out _ HKB.out.below).2.1 (HALL.out _ HKB.out.below).2.2.1 HCP0.out).mono ?_
      rintro e wC ⟨aC, nC, cC, rfl, hGC, hbC, hnC⟩
      rw [← HFV2.out]
      rw [← HFV2.out] at hGC
      have HKC : Hid (NK w wC S (.slice ao n cap) (.slice ao2 n2 cap2) (.slice (some ⟨g3, o3, none⟩) n3 cap3) x y) := HKB.out.later hbC
      have HTC : Hid (BX wC gT [.int .i64 SV.1.1, .int .i64 SV.1.2]) := HTB9.out.later hbC
      have HFC : Hid (FX wC gF zeF) := HFB.out.later hbC
      have HGC : Hid (GS hopE wC (.slice aC nC cC) FV.2.2) := hGC
      have HNC : Hid (∀ b o, aC = some ⟨b, o, none⟩ → b ≠ gF) := by
        intro b o e
        have h1 := hnC b o e
        obtain ⟨_, _, _, h2, _⟩ := HFB.out
        have h3 : gF < wB.heap.size := World.block_lt_of_cell? _ _ (h2.1 0 _ rfl)
        omega
      obtain ⟨aZ, qZ, cZ, hZ, _⟩ := HFC.out
      have f0 : wC.cell? ⟨gF, 0, none⟩ = _ := hZ.1 0 _ rfl
      have f1 : wC.cell? ⟨gF, 1, none⟩ = _ := hZ.1 1 _ rfl
      have f2 : wC.cell? ⟨gF, 2, none⟩ = _ := hZ.1 2 _ rfl
      have z0 := hZ.2 0
      have z1 := hZ.2 1
      have z2 := hZ.2 2
      have hgg := HGG.out
      have HRES : Hid (NK w (put3 wC gF (.int .i64 FV.1) (.string FV.2.1) (.slice aC nC cC)) S (.slice ao n cap) (.slice ao2 n2 cap2) (.slice (some ⟨g3, o3, none⟩) n3 cap3) x y ∧ BX (put3 wC gF (.int .i64 FV.1) (.string FV.2.1) (.slice aC nC cC)) gT [.int .i64 SV.1.1, .int .i64 SV.1.2] ∧ FX (put3 wC gF (.int .i64 FV.1) (.string FV.2.1) (.slice aC nC cC)) gF FV) :=
        ⟨HKC.out.at (Nat.le_refl _) (below_put3 (Below.refl _ _) gF (by omega) _ _ _), bx_ne3 HTC.out (by omega), fx_put HFC.out HGC.out HNC.out⟩
      clear hGC hbC hnC hZ hgg b0 b1 b2 b3 s0 s1
      go_wp2_with fail
      go_meet
      case rel => exact ⟨rfl, rfl, HRES.out.1, HRES.out.2.1, HRES.out.2.2⟩
    · have HCN : Hid (cpN S Ls Hs Ts (x, y) h ≠ 0) := by
        show _ ≠ _
        rw [HF1.out]
        exact hF
      have HS7 : Hid (SN = F1 ∧ SV = zeH ∧ FV = zeF) := by
        refine ⟨?_, ?_, ?_⟩
        · rw [← HSN.out, spN, if_neg HCN.out, HF1.out]
        · rw [← HSV.out, spV, if_neg HCN.out]
        · rw [← HFV.out, frV, if_neg HCN.out]
      have e1 : (F1 == 0) = false := by simpa using hF
      clear hF
      go_wp2_with fail
      go_meet
      case rel => exact ⟨by rw [HS7.out.1], by rw [HS7.out.2.1]; rfl, HK8.out, by rw [HS7.out.2.1]; exact HT8.out, by rw [HS7.out.2.2]; exact HF8.out⟩
  obtain ⟨rfl, rfl, hKD, hTD, hFD⟩ := hcut
  obtain ⟨wD, hwD⟩ : ∃ X, X = wc := ⟨_, rfl⟩
  subst hwD
  have HKD : Hid (NK w wD S (.slice ao n cap) (.slice ao2 n2 cap2) (.slice ao3 n3 cap3) x y) := hKD
  have HTD : Hid (BX wD gT [.int .i64 SV.1.1, .int .i64 SV.1.2]) := hTD
  have HFD : Hid (FX wD gF FV) := hFD
  clear hKD hTD hFD HK8 HT8 HF8
  obtain ⟨_, ⟨b0, b1, b2, b3⟩, s0, s1⟩ := HKD.out
  go_wp2_with fail
  refine (stepA_any S ao n cap ao2 n2 cap2 ao3 n3 cap3 Ls Hs Ts x y h _ (HALL.out _ HKD.out.below).1 (HALL.out _ HKD.out.below).2.1 (HALL.out _ HKD.out.below).2.2.1).mono ?_
  rintro e wE ⟨rfl, hbE⟩
  rw [HSV.out, HSN.out]
  have HKE : Hid (NK w wE S (.slice ao n cap) (.slice ao2 n2 cap2) (.slice ao3 n3 cap3) x y) := HKD.out.later hbE
  have HTE : Hid (BX wE gT [.int .i64 SV.1.1, .int .i64 SV.1.2]) := HTD.out.later hbE
  have HFE : Hid (FX wE gF FV) := HFD.out.later hbE
  clear hbE HKD HTD HFD b0 b1 b2 b3 s0 s1
  obtain ⟨wF, hwF⟩ : ∃ W, wE.alloc (Obj.cells #[.int .i64 SV.1.1, .int .i64 SV.1.2] 30) = W := ⟨_, rfl⟩
  obtain ⟨gP, hgP⟩ : ∃ g, wE.heap.size = g := ⟨_, rfl⟩
  have hbF : Below wE.heap.size wE wF := by
    rw [← hwF]
    exact (Below.refl _ _).alloc (Nat.le_refl _) _
  have hxF : BX wF gP [.int .i64 SV.1.1, .int .i64 SV.1.2] := by
    rw [← hwF, ← hgP]
    exact bx_new wE [.int .i64 SV.1.1, .int .i64 SV.1.2] 30
  have HKF : Hid (NK w wF S (.slice ao n cap) (.slice ao2 n2 cap2) (.slice ao3 n3 cap3) x y) := HKE.out.later hbF
  have HTF : Hid (BX wF gT [.int .i64 SV.1.1, .int .i64 SV.1.2] ∧ BX wF gP [.int .i64 SV.1.1, .int .i64 SV.1.2] ∧ FX wF gF FV) := ⟨HTE.out.later hbF, hxF, HFE.out.later hbF⟩
  have HWF : Hid (wE.alloc (Obj.cells #[.int .i64 SV.1.1, .int .i64 SV.1.2] 30) = wF) := hwF
  have HGP : Hid (wE.heap.size = gP) := hgP
  have HGP2 : Hid (w.heap.size + 2 ≤ gP) := by
    have := HKE.out.lt
    show _ ≤ _
    omega
  clear hwF hgP hbF hxF HKE HTE HFE
  go_upto_region 21 with fail
  rw [HWF.out, HGP.out]
  clear HWF HGP
  go_wp2_with fail
  refine (same_noV SN _ (HALL.out _ HKF.out.below).2.2.2).mono ?_
  rintro e wG ⟨rfl, hbG⟩
  have HKG : Hid (NK w wG S (.slice ao n cap) (.slice ao2 n2 cap2) (.slice ao3 n3 cap3) x y) := HKF.out.later hbG
  have HTG : Hid (BX wG gT [.int .i64 SV.1.1, .int .i64 SV.1.2] ∧ BX wG gP [.int .i64 SV.1.1, .int .i64 SV.1.2] ∧ FX wG gF FV) := ⟨HTF.out.1.later hbG, HTF.out.2.1.later hbG, HTF.out.2.2.later hbG⟩
  clear hbG HKF HTF
  obtain ⟨_, ⟨b0, b1, b2, b3⟩, s0, s1⟩ := HKG.out
  go_wp2_with fail
  refine (from_any S ao n cap ao2 n2 cap2 ao3 n3 cap3 Ls Hs Ts x y h _ (HALL.out _ HKG.out.below).1 (HALL.out _ HKG.out.below).2.1 (HALL.out _ HKG.out.below).2.2.1).mono ?_
  rintro e wH ⟨aH, nH, cH, rfl, hoH, hbH⟩
  rw [HFV.out, HF1.out]
  rw [HFV.out] at hoH
  have HKH : Hid (NK w wH S (.slice ao n cap) (.slice ao2 n2 cap2) (.slice ao3 n3 cap3) x y) := HKG.out.later hbH
  have HTH : Hid (BX wH gT [.int .i64 SV.1.1, .int .i64 SV.1.2] ∧ BX wH gP [.int .i64 SV.1.1, .int .i64 SV.1.2] ∧ FX wH gF FV) := ⟨HTG.out.1.later hbH, HTG.out.2.1.later hbH, HTG.out.2.2.later hbH⟩
  have hGH : GS hopE wH (.slice aH nH cH) FV.2.2 := own_GS hoH
  clear hbH HKG HTG hoH b0 b1 b2 b3 s0 s1
  obtain ⟨wI, hwI⟩ : ∃ W, wH.alloc (Obj.cells #[.int .i64 FV.1, .string FV.2.1, .slice aH nH cH] 40) = W := ⟨_, rfl⟩
  obtain ⟨gY, hgY⟩ : ∃ g, wH.heap.size = g := ⟨_, rfl⟩
  have hbI : Below wH.heap.size wH wI := by
    rw [← hwI]
    exact (Below.refl _ _).alloc (Nat.le_refl _) _
  have hxI : FX wI gY FV := by
    refine ⟨aH, nH, cH, ?_, hGH.later hbI⟩
    rw [← hwI, ← hgY]
    exact bx_new wH [.int .i64 FV.1, .string FV.2.1, .slice aH nH cH] 40
  have HKI : Hid (NK w wI S (.slice ao n cap) (.slice ao2 n2 cap2) (.slice ao3 n3 cap3) x y) := HKH.out.later hbI
  have HTI : Hid (BX wI gT [.int .i64 SV.1.1, .int .i64 SV.1.2] ∧ BX wI gP [.int .i64 SV.1.1, .int .i64 SV.1.2] ∧ FX wI gF FV ∧ FX wI gY FV) := ⟨HTH.out.1.later hbI, HTH.out.2.1.later hbI, HTH.out.2.2.later hbI, hxI⟩
  have HWI : Hid (wH.alloc (Obj.cells #[.int .i64 FV.1, .string FV.2.1, .slice aH nH cH] 40) = wI) := hwI
  have HGY : Hid (wH.heap.size = gY) := hgY
  clear hwI hgY hbI hxI hGH HKH HTH
  go_upto_region 23 with fail
  rw [HWI.out, HGY.out]
  clear HWI HGY
  go_wp2_with fail
  refine (same_noV F1 _ (HALL.out _ HKI.out.below).2.2.2).mono ?_
  rintro e wJ ⟨rfl, hbJ⟩
  have HKJ : Hid (NK w wJ S (.slice ao n cap) (.slice ao2 n2 cap2) (.slice ao3 n3 cap3) x y) := HKI.out.later hbJ
  have HTJ : Hid (BX wJ gT [.int .i64 SV.1.1, .int .i64 SV.1.2] ∧ BX wJ gP [.int .i64 SV.1.1, .int .i64 SV.1.2]) := ⟨HTI.out.1.later hbJ, HTI.out.2.1.later hbJ⟩
  obtain ⟨aX, nX, cX, hX, hGX⟩ := HTI.out.2.2.1.later hbJ
  obtain ⟨aY, nY, cY, hY, hGY⟩ := HTI.out.2.2.2.later hbJ
  have HGX : Hid (GS hopE wJ (.slice aX nX cX) FV.2.2) := hGX
  have HGY : Hid (GS hopE wJ (.slice aY nY cY) FV.2.2) := hGY
  have x0 : wJ.cell? ⟨gF, 0, none⟩ = some (.int .i64 FV.1) := hX.1 0 _ rfl
  have x1 : wJ.cell? ⟨gF, 1, none⟩ = some (.string FV.2.1) := hX.1 1 _ rfl
  have x2 : wJ.cell? ⟨gF, 2, none⟩ = some (.slice aX nX cX) := hX.1 2 _ rfl
  have y0 : wJ.cell? ⟨gY, 0, none⟩ = some (.int .i64 FV.1) := hY.1 0 _ rfl
  have y1 : wJ.cell? ⟨gY, 1, none⟩ = some (.string FV.2.1) := hY.1 1 _ rfl
  have y2 : wJ.cell? ⟨gY, 2, none⟩ = some (.slice aY nY cY) := hY.1 2 _ rfl
  clear hbJ HKI HTI hX hY hGX hGY
  go_wp2_with fail
  refine (fate_any FV.1 FV.2.1 aY nY cY aX nX cX FV.2.2 _ HFL.out HGY.out HGX.out).mono ?_
  rintro e wK ⟨rfl, hbK⟩
  have HKK : Hid (NK w wK S (.slice ao n cap) (.slice ao2 n2 cap2) (.slice ao3 n3 cap3) x y) := HKJ.out.later hbK
  have HTK : Hid (BX wK gT [.int .i64 SV.1.1, .int .i64 SV.1.2] ∧ BX wK gP [.int .i64 SV.1.1, .int .i64 SV.1.2]) := ⟨HTJ.out.1.later hbK, HTJ.out.2.later hbK⟩
  clear hbK HKJ HTJ HGX HGY x0 x1 x2 y0 y1 y2
  obtain ⟨wL, hwL⟩ : ∃ W, wK.alloc (Obj.cells #[.int .i64 0, .string ⟨#[]⟩, .slice none 0 0] 40) = W := ⟨_, rfl⟩
  obtain ⟨gS, hgS⟩ : ∃ g, wK.heap.size = g := ⟨_, rfl⟩
  have hbL : Below wK.heap.size wK wL := by
    rw [← hwL]
    exact (Below.refl _ _).alloc (Nat.le_refl _) _
  have hxL : FX wL gS zeF := by
    rw [← hwL, ← hgS]
    exact fx_zero wK 40
  have HKL : Hid (NK w wL S (.slice ao n cap) (.slice ao2 n2 cap2) (.slice ao3 n3 cap3) x y) := HKK.out.later hbL
  have HTL : Hid (BX wL gT [.int .i64 SV.1.1, .int .i64 SV.1.2] ∧ BX wL gP [.int .i64 SV.1.1, .int .i64 SV.1.2] ∧ FX wL gS zeF) := ⟨HTK.out.1.later hbL, HTK.out.2.later hbL, hxL⟩
  have HWL : Hid (wK.alloc (Obj.cells #[.int .i64 0, .string ⟨#[]⟩, .slice none 0 0] 40) = wL) := hwL
  have HGS : Hid (wK.heap.size = gS) := hgS
  have HGS2 : Hid (w.heap.size + 2 ≤ gS ∧ gT < gS ∧ gP < gS) := by
    have h1 := HKK.out.lt
    have h2 : gT < wK.heap.size := World.block_lt_of_cell? _ _ (HTK.out.1.1 0 _ rfl)
    have h3 : gP < wK.heap.size := World.block_lt_of_cell? _ _ (HTK.out.2.1 0 _ rfl)
    exact ⟨by omega, by omega, by omega⟩
  clear hwL hgS hbL hxL HKK HTK
  go_upto_if 122 with fail
  rw [HWL.out, HGS.out]
  clear HWL HGS
  go_cut [11] from 121 (fun f w' => f = .int .i64 QN ∧ NK w w' S (.slice ao n cap) (.slice ao2 n2 cap2) (.slice ao3 n3 cap3) x y ∧ BX w' gT [.int .i64 SV.1.1, .int .i64 SV.1.2] ∧ BX w' gP [.int .i64 SV.1.1, .int .i64 SV.1.2] ∧ FX w' gS QV)
  case first =>
    as_aux_lemma =>
      by_cases h0 : N = 0
      · have HNT : Hid (ntN S Ls Hs Ts = 0) := HN.out.trans h0
        subst h0
        obtain ⟨_, ⟨b0, b1, b2, b3⟩, s0, s1⟩ := HKL.out
        go_wp2_with fail
        refine (rnamed_any S ao n cap ao2 n2 cap2 Hs m _ (HALL.out _ HKL.out.below).2.1).mono ?_
        rintro e wM ⟨rfl, hbM⟩
        have HKM : Hid (NK w wM S (.slice ao n cap) (.slice ao2 n2 cap2) (.slice ao3 n3 cap3) x y) := HKL.out.later hbM
        have HTM : Hid (BX wM gT [.int .i64 SV.1.1, .int .i64 SV.1.2] ∧ BX wM gP [.int .i64 SV.1.1, .int .i64 SV.1.2] ∧ FX wM gS zeF) := ⟨HTL.out.1.later hbM, HTL.out.2.1.later hbM, HTL.out.2.2.later hbM⟩
        clear hbM b0 b1 b2 b3 s0 s1
        rcases where_ix Hs m with ⟨hi, hwh⟩ | ⟨k, hk, hi, hwh⟩
        · rw [show whN Hs m = -1 from hi]
          have hq : QN = 5 := by rw [← HQN.out, se_0 HNT.out, hwh]; rfl
          have HQ : Hid (QN = 5 ∧ QV = zeF) := ⟨hq, by rw [← HQV.out]; exact se_z (by rw [HQN.out, hq]; decide)⟩
          clear hi hwh hq
          go_wp2_with fail
          go_meet
          case rel => exact ⟨by rw [HQ.out.1], HKM.out, HTM.out.1, HTM.out.2.1, by rw [HQ.out.2]; exact HTM.out.2.2⟩
        · rw [show whN Hs m = (k : Int) from hi]
          have kn0 : ¬ (k : Int) < 0 := by omega
          cases ih with
          | false =>
            have hq : QN = 1 := by rw [← HQN.out, se_0 HNT.out, hwh, HIH.out]; rfl
            have HQ : Hid (QN = 1 ∧ QV = zeF) := ⟨hq, by rw [← HQV.out]; exact se_z (by rw [HQN.out, hq]; decide)⟩
            clear hi hwh hq
            go_wp2_with fail
            go_meet
            case rel => exact ⟨by rw [HQ.out.1], HKM.out, HTM.out.1, HTM.out.2.1, by rw [HQ.out.2]; exact HTM.out.2.2⟩
          | true =>
            have hq : QN = 0 := by rw [← HQN.out, se_0 HNT.out, hwh, HIH.out]; rfl
            obtain ⟨_, _, _, e2, hHn, _, _, hHa⟩ := (HALL.out _ HKM.out.below).2.1.form
            cases e2
            obtain ⟨gh, oh, hao, hc, _⟩ := hHa (by omega)
            subst hao
            have hkn : k < n2 := by omega
            obtain ⟨t0, t1, t2, hkl, hHk, c0, c1, c2⟩ := hst_at hc hHn hkn
            have hcp : cpN S Ls Hs Ts (t1, t2) h = 0 := by
              have hsp := where_sp (nt_0 HNT.out).1 hwh
              rw [hHk] at hsp
              rw [cpN, if_pos HNT.out, hsp, HIH.out]
              rfl
            have hqv : QV = frF Ls Hs Ts (t1, t2) h := by
              rw [← HQV.out, se_v HNT.out hwh HIH.out, hHk]
            have HQ : Hid (QN = 0 ∧ QV = frF Ls Hs Ts (t1, t2) h) := ⟨hq, hqv⟩
            have HCPK : Hid (cpN S Ls Hs Ts (t1, t2) h = 0) := hcp
            have kb0 : (0 : Int) ≤ (k : Int) := by omega
            have kb1 : (k : Int) < (n2 : Int) := by omega
            obtain ⟨_, ⟨b0, b1, b2, b3⟩, s0, s1⟩ := HKM.out
            have yh : gh < wM.heap.size := World.block_lt_of_cell? _ _ c0
            have yn : w.heap.size < wM.heap.size := World.block_lt_of_cell? _ _ b0
            have HGO : Hid (∀ (W : World) (aC : Option Addr) (nC cC : Nat), Below wM.heap.size wM W → GS hopE W (.slice aC nC cC) QV.2.2 → (∀ g o, aC = some ⟨g, o, none⟩ → wM.heap.size ≤ g) →
                NK w (put3 W gS (.int .i64 QV.1) (.string QV.2.1) (.slice aC nC cC)) S (.slice ao n cap) (.slice (some ⟨gh, oh, none⟩) n2 cap2) (.slice ao3 n3 cap3) x y ∧ BX (put3 W gS (.int .i64 QV.1) (.string QV.2.1) (.slice aC nC cC)) gT [.int .i64 SV.1.1, .int .i64 SV.1.2] ∧ BX (put3 W gS (.int .i64 QV.1) (.string QV.2.1) (.slice aC nC cC)) gP [.int .i64 SV.1.1, .int .i64 SV.1.2] ∧ FX (put3 W gS (.int .i64 QV.1) (.string QV.2.1) (.slice aC nC cC)) gS QV) := by
              intro W aC nC cC hbW hGW hnW
              have hgs := HGS2.out
              have hl : gS < wM.heap.size := by
                obtain ⟨_, _, _, h2, _⟩ := HTM.out.2.2
                exact World.block_lt_of_cell? _ _ (h2.1 0 _ rfl)
              refine ⟨(HKM.out.later hbW).at (Nat.le_refl _) (below_put3 (Below.refl _ _) gS (by omega) _ _ _), bx_ne3 (HTM.out.1.later hbW) (by omega), bx_ne3 (HTM.out.2.1.later hbW) (by omega), fx_put (HTM.out.2.2.later hbW) hGW (fun b o e => by
                have := hnW b o e
                omega)⟩
            obtain ⟨aZ, qZ, cZ, hZ, _⟩ := HTM.out.2.2
            have HZ : Hid (∀ W, Below wM.heap.size wM W → BX W gS [.int .i64 zeF.1, .string zeF.2.1, .slice aZ qZ cZ]) := fun W hb => hZ.later hb
            have yS : gS < wM.heap.size := World.block_lt_of_cell? _ _ (hZ.1 0 _ rfl)
            clear hi hwh hq hHn hHa hc hHk hkl hcp hqv hZ
            go_upto_region 33 with fail
            go_region_with (go_at_call 14; refine (rfrom_any S ao n cap (some ⟨gh, oh, none⟩) n2 cap2 ao3 n3 cap3 Ls Hs Ts t1 t2 h _ (HALL.out _ (HKM.out.below.trans ((Below.drew (Below.refl _ _)).mono HKM.out.below.size))).1 (HALL.out _ (HKM.out.below.trans ((Below.drew (Below.refl _ _)).mono HKM.out.below.size))).2.1 (HALL.out _ (HKM.out.below.trans ((Below.drew (Below.refl _ _)).mono HKM.out.below.size))).2.2.1 HCPK.out).mono ?_; rintro e w' ⟨aC, nC, cC, rfl, hGC, hbC, hnC⟩; rw [← HQ.out.2]; rw [← HQ.out.2] at hGC; have HBX : Hid (Below wM.heap.size wM w') := (bdrew hbC); have HRL : Hid _ := (HGO.out w' aC nC cC HBX.out hGC hnC); have hz := HZ.out _ HBX.out; have f0 : w'.cell? ⟨gS, 0, none⟩ = _ := (hz.1 0 _ rfl); have f1 : w'.cell? ⟨gS, 1, none⟩ = _ := (hz.1 1 _ rfl); have f2 : w'.cell? ⟨gS, 2, none⟩ = _ := (hz.1 2 _ rfl); have z0 := hz.2 0; have z1 := hz.2 1; have z2 := hz.2 2; clear hbC hGC hnC hz)
            all_goals try simp only [Act.put, List.setIfInBounds_toArray, List.set_cons_zero, List.set_cons_succ, List.getElem_toArray, List.getElem_cons_zero, List.getElem_cons_succ]
            all_goals go_wp2_with fail
            all_goals go_meet
            all_goals exact ⟨by rw [HQ.out.1], HRL.out.1, HRL.out.2.1, HRL.out.2.2.1, HRL.out.2.2.2⟩
      · have hnt : ntN S Ls Hs Ts ≠ 0 := by rw [HN.out]; exact h0
        have hq : QN = N := by rw [← HQN.out, seN, if_neg hnt, HN.out]
        have HQ : Hid (QN = N ∧ QV = zeF) := ⟨hq, by rw [← HQV.out]; exact se_z (by rw [HQN.out, hq]; exact h0)⟩
        have e1 : (N == 0) = false := by simpa using h0
        clear h0 hnt hq
        go_wp2_with fail
        go_meet
        case rel => exact ⟨by rw [HQ.out.1], HKL.out, HTL.out.1, HTL.out.2.1, by rw [HQ.out.2]; exact HTL.out.2.2⟩
  obtain ⟨rfl, hKO, hTO, hPO, hSO⟩ := hcut
  obtain ⟨wO, hwO⟩ : ∃ X, X = wc := ⟨_, rfl⟩
  subst hwO
  have HKO : Hid (NK w wO S (.slice ao n cap) (.slice ao2 n2 cap2) (.slice ao3 n3 cap3) x y) := hKO
  have HTO : Hid (BX wO gT [.int .i64 SV.1.1, .int .i64 SV.1.2] ∧ BX wO gP [.int .i64 SV.1.1, .int .i64 SV.1.2] ∧ FX wO gS QV) := ⟨hTO, hPO, hSO⟩
  clear hKO hTO hPO hSO HKL HTL
  obtain ⟨_, ⟨b0, b1, b2, b3⟩, s0, s1⟩ := HKO.out
  go_wp2_with fail
  refine (send_any S ao n cap ao2 n2 cap2 ao3 n3 cap3 Ls Hs Ts m h _ (HALL.out _ HKO.out.below).1 (HALL.out _ HKO.out.below).2.1 (HALL.out _ HKO.out.below).2.2.1).mono ?_
  rintro e wQ ⟨aQ, nQ, cQ, rfl, hoQ, hbQ⟩
  rw [HQV.out, HQN.out]
  rw [HQV.out] at hoQ
  have HKQ : Hid (NK w wQ S (.slice ao n cap) (.slice ao2 n2 cap2) (.slice ao3 n3 cap3) x y) := HKO.out.later hbQ
  have HTQ : Hid (BX wQ gT [.int .i64 SV.1.1, .int .i64 SV.1.2] ∧ BX wQ gP [.int .i64 SV.1.1, .int .i64 SV.1.2] ∧ FX wQ gS QV) := ⟨HTO.out.1.later hbQ, HTO.out.2.1.later hbQ, HTO.out.2.2.later hbQ⟩
  have hGQ : GS hopE wQ (.slice aQ nQ cQ) QV.2.2 := own_GS hoQ
  clear hbQ HKO HTO hoQ b0 b1 b2 b3 s0 s1
  obtain ⟨wR, hwR⟩ : ∃ W, wQ.alloc (Obj.cells #[.int .i64 QV.1, .string QV.2.1, .slice aQ nQ cQ] 40) = W := ⟨_, rfl⟩
  obtain ⟨gZ, hgZ⟩ : ∃ g, wQ.heap.size = g := ⟨_, rfl⟩
  have hbR : Below wQ.heap.size wQ wR := by
    rw [← hwR]
    exact (Below.refl _ _).alloc (Nat.le_refl _) _
  have hxR : FX wR gZ QV := by
    refine ⟨aQ, nQ, cQ, ?_, hGQ.later hbR⟩
    rw [← hwR, ← hgZ]
    exact bx_new wQ [.int .i64 QV.1, .string QV.2.1, .slice aQ nQ cQ] 40
  have HKR : Hid (NK w wR S (.slice ao n cap) (.slice ao2 n2 cap2) (.slice ao3 n3 cap3) x y) := HKQ.out.later hbR
  have HTR : Hid (BX wR gT [.int .i64 SV.1.1, .int .i64 SV.1.2] ∧ BX wR gP [.int .i64 SV.1.1, .int .i64 SV.1.2] ∧ FX wR gS QV ∧ FX wR gZ QV) := ⟨HTQ.out.1.later hbR, HTQ.out.2.1.later hbR, HTQ.out.2.2.later hbR, hxR⟩
  have HWR : Hid (wQ.alloc (Obj.cells #[.int .i64 QV.1, .string QV.2.1, .slice aQ nQ cQ] 40) = wR) := hwR
  have HGZ : Hid (wQ.heap.size = gZ) := hgZ
  clear hwR hgZ hbR hxR hGQ HKQ HTQ
  go_upto_region 35 with fail
  rw [HWR.out, HGZ.out]
  clear HWR HGZ
  go_wp2_with fail
  refine (same_noV QN _ (HALL.out _ HKR.out.below).2.2.2).mono ?_
  rintro e wS ⟨rfl, hbS⟩
  have HKS : Hid (NK w wS S (.slice ao n cap) (.slice ao2 n2 cap2) (.slice ao3 n3 cap3) x y) := HKR.out.later hbS
  have HTS : Hid (BX wS gT [.int .i64 SV.1.1, .int .i64 SV.1.2] ∧ BX wS gP [.int .i64 SV.1.1, .int .i64 SV.1.2]) := ⟨HTR.out.1.later hbS, HTR.out.2.1.later hbS⟩
  obtain ⟨aX, nX, cX, hX, hGX⟩ := HTR.out.2.2.1.later hbS
  obtain ⟨aY, nY, cY, hY, hGY⟩ := HTR.out.2.2.2.later hbS
  have HGX : Hid (GS hopE wS (.slice aX nX cX) QV.2.2) := hGX
  have HGY : Hid (GS hopE wS (.slice aY nY cY) QV.2.2) := hGY
  have x0 : wS.cell? ⟨gS, 0, none⟩ = some (.int .i64 QV.1) := hX.1 0 _ rfl
  have x1 : wS.cell? ⟨gS, 1, none⟩ = some (.string QV.2.1) := hX.1 1 _ rfl
  have x2 : wS.cell? ⟨gS, 2, none⟩ = some (.slice aX nX cX) := hX.1 2 _ rfl
  have y0 : wS.cell? ⟨gZ, 0, none⟩ = some (.int .i64 QV.1) := hY.1 0 _ rfl
  have y1 : wS.cell? ⟨gZ, 1, none⟩ = some (.string QV.2.1) := hY.1 1 _ rfl
  have y2 : wS.cell? ⟨gZ, 2, none⟩ = some (.slice aY nY cY) := hY.1 2 _ rfl
  clear hbS HKR HTR hX hY hGX hGY
  go_wp2_with fail
  refine (fate_any QV.1 QV.2.1 aY nY cY aX nX cX QV.2.2 _ HQL.out HGY.out HGX.out).mono ?_
  rintro e wT ⟨rfl, hbT⟩
  have HBT : Hid (Below w.heap.size w wT) := (HKS.out.later hbT).below
  have hT1 := HTS.out.1.later hbT
  have hT2 := HTS.out.2.later hbT
  have c0 : wT.cell? ⟨gT, 0, none⟩ = some (.int .i64 SV.1.1) := hT1.1 0 _ rfl
  have c1 : wT.cell? ⟨gT, 1, none⟩ = some (.int .i64 SV.1.2) := hT1.1 1 _ rfl
  have c2 : wT.cell? ⟨gP, 0, none⟩ = some (.int .i64 SV.1.1) := hT2.1 0 _ rfl
  have c3 : wT.cell? ⟨gP, 1, none⟩ = some (.int .i64 SV.1.2) := hT2.1 1 _ rfl
  clear hbT HKS HTS HGX HGY hT1 hT2 x0 x1 x2 y0 y1 y2
  go_wp2
  go_ret
  exact ⟨rfl, HBT.out⟩
end Go.Proofs.YtpmcjelihdlfeaaDoor.netTells
/- A topology that came in: its number of switches, its links, its hosts. -/
namespace Go.Proofs.YtpmcjelihdlfeaaDoor
open Go.ChangeShapes Go.WideShapes Go.ChangeAt Go.RowKit Go.Joins
set_option linter.unusedSimpArgs false
set_option linter.unusedVariables false
set_option maxRecDepth 100000

section
variable {P : Program} {α : Type} {E : Enc α}
set_option maxRecDepth 100000 in
/-- A cell that reads as a slice lies where it says. -/
theorem gs_open {H : Type} {enc : TypeId × Value → H} {W : World} {fuel : Nat} {cs : List Value} {x : DataW H × List MemPlace} (ts te : TypeId) (hu : P.underlying ts = some (.slice te)) (hC : P.cellsOf te = E.n) (x0 : α)
    (hel : ∀ (n : Nat) (cs : List Value) (x : DataW H × List MemPlace), DataW.trod enc P W 0 (fun _ => true) true n te cs = some x → ∃ y, cs = E.c y)
    (hf2 : DataW.trod enc P W 0 (fun _ => true) true fuel ts cs = some x) : ∃ ao n cap L, cs = [.slice ao n cap] ∧ GS E W (.slice ao n cap) L := by
  obtain ⟨d, p⟩ := x
  rcases Go.Deep.open_slice hu hf2 with ⟨hc, hx⟩ | ⟨a, len0, cap, m, k, D, Pl, hc, _, hl, hm, hmm, hx, hall⟩
  · exact ⟨_, _, _, [], hc, .inl ⟨none, 0, rfl, rfl⟩⟩
  · simp only [if_true] at hmm
    subst hmm
    rcases Nat.eq_zero_or_pos len0 with h0 | h0
    · subst h0
      exact ⟨_, _, _, [], hc, .inl ⟨_, _, rfl, rfl⟩⟩
    · have each : ∀ i, i < m → ∃ y : α, ∀ j, j < E.n → W.cell? (a.add (i * E.n + j)) = (E.c y)[j]? := by
        intro i hi
        obtain ⟨cs, h1, h2⟩ := hall i hi
        rw [hC] at h1
        obtain ⟨_, hlen, hcell⟩ := World.cells?_some h1
        obtain ⟨y, rfl⟩ := hel _ _ _ h2
        refine ⟨y, fun j hj => ?_⟩
        have := hcell j (by omega)
        rw [Go.Deep.add_add] at this
        exact this
      have iR : Inhabited α := ⟨x0⟩
      obtain ⟨R, hR⟩ := Go.Deep.choose_lt each
      obtain ⟨sb, so, spot⟩ := a
      have hspot : spot = none := by
        have h1 := hR 0 (by omega) 0 E.pos
        have h2 : (E.c (R 0))[0]?.isSome = true := by
          rw [List.getElem?_eq_getElem (by rw [E.len]; exact E.pos)]
          rfl
        obtain ⟨u, hu2⟩ := Option.isSome_iff_exists.1 h2
        rw [hu2] at h1
        simpa [Addr.add] using World.cell?_spot h1
      subst hspot
      have hadd : ∀ j, (⟨sb, so, none⟩ : Addr).add j = ⟨sb, so + j, none⟩ := by
        intro j
        simp only [Addr.add]
        first
          | rfl
          | (split
             · next h0 => rw [h0]; rfl
             · rfl)
      refine ⟨_, _, _, (List.range len0).map R, hc, .inr ⟨sb, so, _, by simp, by simpa using hl, hm, fun i hi j u hu2 => ?_⟩⟩
      have hi2 : i < len0 := by simpa using hi
      have e : ((List.range len0).map R)[i] = R i := by simp
      rw [e] at hu2
      have hj : j < E.n := by
        have := (List.getElem?_eq_some_iff.1 hu2).1
        rw [E.len] at this
        exact this
      have hc := hR i (by omega) j hj
      rw [hadd, hu2, ← Nat.add_assoc] at hc
      exact hc
end
set_option maxRecDepth 100000 in
/-- One that came in. -/
theorem topo_open {H : Type} {enc : TypeId × Value → H} {W : World} {n : Nat} {cs : List Value} {x : DataW H × List MemPlace}
    (h : DataW.trod enc Tryd.prog W 0 (fun _ => true) true n 25 cs = some x) : ∃ S ao n cap ao2 n2 cap2 Ls Hs, cs = [.int .i64 S, .slice ao n cap, .slice ao2 n2 cap2] ∧ GS lnkE W (.slice ao n cap) Ls ∧ GS hstE W (.slice ao2 n2 cap2) Hs := by
  obtain ⟨xs, k, _, _, hl, hlen, hf⟩ := DataW.trod_struct Tryd.underlying25 h
  have hC : Tryd.prog.cellsOf 25 = 3 := by kernel_rfl
  have hT0 : Tryd.prog.cellsOf 3 = 1 := by kernel_rfl
  have hT1 : Tryd.prog.cellsOf 22 = 1 := by kernel_rfl
  have hT2 : Tryd.prog.cellsOf 23 = 1 := by kernel_rfl
  rw [hC] at hl
  match cs, hl with
  | [c0, c1, c2], _ =>
    match xs, hlen with
    | [z0, z1, z2], _ =>
      have g0 := hf 0 _ rfl
      have g1 := hf 1 _ rfl
      have g2 := hf 2 _ rfl
      simp [hT0, hT1, hT2] at g0 g1 g2
      obtain ⟨v0, e0, _, _⟩ := DataW.trod_int Tryd.underlying3 g0
      obtain ⟨ao, n, cap, Ls, e1, hL⟩ := gs_open (E := lnkE) 22 91 Tryd.underlying22 (by kernel_rfl) ((0, 0), (0, 0)) (fun _ _ _ h => lnk_open h) g1
      obtain ⟨ao2, n2, cap2, Hs, e2, hH⟩ := gs_open (E := hstE) 23 57 Tryd.underlying23 (by kernel_rfl) (ByteArray.empty, (0, 0)) (fun _ _ _ h => hst_open h) g2
      simp at e0 e1 e2
      exact ⟨v0, ao, n, cap, ao2, n2, cap2, Ls, Hs, by simp [e0, e1, e2], hL, hH⟩
theorem topo_of {H : Type} {enc : TypeId × Value → H} {W : World} {base : Nat} {v : Value} {d : DataW H} {p : List MemPlace}
    (hv : Value.okWide Tryd.prog W .any base 25 v) (h : DataW.Trod enc Tryd.prog W 0 (fun _ => true) true 25 v d p) : ∃ S ao n cap ao2 n2 cap2 Ls Hs, v = .agg #[.int .i64 S, .slice ao n cap, .slice ao2 n2 cap2] ∧ GS lnkE W (.slice ao n cap) Ls ∧ GS hstE W (.slice ao2 n2 cap2) Hs := by
  obtain ⟨cs, rfl, hsz⟩ := okWide_struct Tryd.underlying25 hv
  obtain ⟨n, hn⟩ := h
  obtain ⟨S, ao, n, cap, ao2, n2, cap2, Ls, Hs, e, h1, h2⟩ := topo_open hn
  refine ⟨S, ao, n, cap, ao2, n2, cap2, Ls, Hs, ?_, h1, h2⟩
  simp only [Value.cells] at e
  rw [← Array.toArray_toList (xs := cs), e]
end Go.Proofs.YtpmcjelihdlfeaaDoor
/- The struct api.Cube: its cells, slices of them, == of two, such that came in. Written by mk/struct.py. -/
namespace Go.Proofs.YtpmcjelihdlfeaaDoor
open Go.ChangeShapes Go.WideShapes Go.ChangeAt Go.RowKit Go.Joins
set_option linter.unusedSimpArgs false
set_option linter.unusedVariables false
set_option maxRecDepth 100000

def cuE : Enc (Int × Int) where
  c := fun x => [.int .i64 x.1, .int .i64 x.2]
  n := 2
  len := fun _ => rfl
  pos := by decide
  one := by
    intro x u hu
    simp at hu
    rcases hu with rfl | rfl <;> rfl
theorem cu_cells {w : World} {g o : Nat} {x0 : Int} {x1 : Int} (h : VAt w g o (cuE.c (x0, x1))) : w.cell? ⟨g, o, none⟩ = some (.int .i64 x0) ∧ w.cell? ⟨g, o + 1, none⟩ = some (.int .i64 x1) :=
  ⟨h 0 _ rfl, h 1 _ rfl⟩
theorem cu_at {w : World} {g o : Nat} {L : List (Int × Int)} (h : GAt cuE w g o L) {n k : Nat} (hn : L.length = n) (hk : k < n) :
    ∃ (x0 : Int) (x1 : Int) (hl : k < L.length), L[k] = (x0, x1) ∧ w.cell? ⟨g, o + k * 2, none⟩ = some (.int .i64 x0) ∧ w.cell? ⟨g, o + k * 2 + 1, none⟩ = some (.int .i64 x1) :=
  have hl : k < L.length := by omega
  ⟨_, _, hl, rfl, cu_cells (h k hl)⟩
theorem cu_new (w : World) (x0 : Int) (x1 : Int) (t : TypeId) : VAt (w.alloc (Obj.cells #[.int .i64 x0, .int .i64 x1] t)) w.heap.size 0 (cuE.c (x0, x1)) := vat_new w [.int .i64 x0, .int .i64 x1] t
theorem cu_row (w : World) (x0 : Int) (x1 : Int) (t : TypeId) : GS cuE (w.alloc (Obj.cells #[.int .i64 x0, .int .i64 x1] t)) (.slice (some ⟨w.heap.size, 0, none⟩) 1 1) [(x0, x1)] := gs_one (E := cuE) w (x0, x1) t (vs := [.int .i64 x0, .int .i64 x1]) rfl
/-- Are two the same? -/
def cuB (a b : Int × Int) : Bool := (a.1 == b.1) && ((a.2 == b.2))
theorem cuB_iff (a b : Int × Int) : cuB a b = true ↔ a = b := by
  have e : cuB a b = ((a.1 == b.1) && ((a.2 == b.2))) := rfl
  rw [e]
  simp only [Bool.and_eq_true, beq_iff_eq]
  constructor
  · intro h
    obtain ⟨a0, a1⟩ := a; obtain ⟨b0, b1⟩ := b; simp at h ⊢; simp [h]
  · intro h
    subst h
    simp
theorem cu_ways (x0 : Int) (x1 : Int) (y0 : Int) (y1 : Int) :
    ((x0 == y0) = false ∧ cuB (x0, x1) (y0, y1) = false) ∨
    ((x0 == y0) = true ∧ (x1 == y1) = false ∧ cuB (x0, x1) (y0, y1) = false) ∨
    ((x0 == y0) = true ∧ (x1 == y1) = true ∧ cuB (x0, x1) (y0, y1) = true) := by
  have e : cuB (x0, x1) (y0, y1) = ((x0 == y0) && ((x1 == y1))) := rfl
  rw [e]
  cases h0 : (x0 == y0)
  · simp
  · skip
    cases h1 : (x1 == y1)
    · simp
    · skip
      simp
set_option maxRecDepth 100000 in
theorem cu_eq (x0 : Int) (x1 : Int) (y0 : Int) (y1 : Int) (w : World) : (Op.equal 45 (.agg #[.int .i64 x0, .int .i64 x1]) (.agg #[.int .i64 y0, .int .i64 y1])).run Tryd.prog w = .ok (cuB (x0, x1) (y0, y1)) w := by
  unfold Op.equal Op.maxDepth
  rw [run_equalIn_struct w 9999 _ _ _ (by kernel_rfl) (by kernel_rfl)]
  rcases cu_ways x0 x1 y0 y1 with ⟨e0, e⟩ | ⟨e0, e1, e⟩ | ⟨e0, e1, e⟩
  all_goals
    rw [e]
    go_simp
theorem cu_info : (Tryd.prog.info? 45).map (fun i => (i.zero, i.size, i.bytes)) = some (some (.agg #[.int .i64 0, .int .i64 0]), 2, 16) := by kernel_rfl
theorem cu_zero : (Value.agg #[.int .i64 0, .int .i64 0]).cells.size = 2 := by simp [Value.cells]
/-- Cells that read as one. -/
theorem cu_open {H : Type} {enc : TypeId × Value → H} {W : World} {n : Nat} {cs : List Value} {x : DataW H × List MemPlace}
    (h : DataW.trod enc Tryd.prog W 0 (fun _ => true) true n 45 cs = some x) : ∃ y, cs = cuE.c y := by
  obtain ⟨xs, k, _, _, hl, hlen, hf⟩ := DataW.trod_struct Tryd.underlying45 h
  have hC : Tryd.prog.cellsOf 45 = 2 := by kernel_rfl
  have hT0 : Tryd.prog.cellsOf 3 = 1 := by kernel_rfl
  rw [hC] at hl
  match cs, hl with
  | [c0, c1], _ =>
    match xs, hlen with
    | [z0, z1], _ =>
      have g0 := hf 0 _ rfl
      have g1 := hf 1 _ rfl
      simp [hT0] at g0 g1
      obtain ⟨v0, e0, _, _⟩ := DataW.trod_int Tryd.underlying3 g0
      obtain ⟨v1, e1, _, _⟩ := DataW.trod_int Tryd.underlying3 g1
      simp [] at e0 e1
      refine ⟨(v0, v1), ?_⟩
      simp [cuE, e0, e1]
set_option maxRecDepth 100000 in
/-- One that came in. -/
theorem cu_of {H : Type} {enc : TypeId × Value → H} {W : World} {base : Nat} {v : Value} {d : DataW H} {p : List MemPlace}
    (hv : Value.okWide Tryd.prog W .any base 45 v) (h : DataW.Trod enc Tryd.prog W 0 (fun _ => true) true 45 v d p) : ∃ (x0 : Int) (x1 : Int), v = .agg #[.int .i64 x0, .int .i64 x1] := by
  obtain ⟨cs, rfl, hsz⟩ := okWide_struct Tryd.underlying45 hv
  obtain ⟨n, hn⟩ := h
  obtain ⟨y, e⟩ := cu_open hn
  refine ⟨y.1, y.2, ?_⟩
  simp only [Value.cells] at e
  have e2 : cs = #[.int .i64 y.1, .int .i64 y.2] := by
    rw [← Array.toArray_toList (xs := cs), e]
    rfl
  rw [e2]
end Go.Proofs.YtpmcjelihdlfeaaDoor
/- The struct api.Rule: its cells, slices of them, == of two, such that came in. Written by mk/struct.py. -/
namespace Go.Proofs.YtpmcjelihdlfeaaDoor
open Go.ChangeShapes Go.WideShapes Go.ChangeAt Go.RowKit Go.Joins
set_option linter.unusedSimpArgs false
set_option linter.unusedVariables false
set_option maxRecDepth 100000

def rlE : Enc (Ru) where
  c := fun x => [.int .i64 x.p, .int .i64 x.m, .int .i64 x.b, .int .i64 x.o, .int .i64 x.s, .int .i64 x.v]
  n := 6
  len := fun _ => rfl
  pos := by decide
  one := by
    intro x u hu
    simp at hu
    rcases hu with rfl | rfl | rfl | rfl | rfl | rfl <;> rfl
theorem rl_cells {w : World} {g o : Nat} {x0 : Int} {x1 : Int} {x2 : Int} {x3 : Int} {x4 : Int} {x5 : Int} (h : VAt w g o (rlE.c ⟨x0, x1, x2, x3, x4, x5⟩)) : w.cell? ⟨g, o, none⟩ = some (.int .i64 x0) ∧ w.cell? ⟨g, o + 1, none⟩ = some (.int .i64 x1) ∧ w.cell? ⟨g, o + 2, none⟩ = some (.int .i64 x2) ∧ w.cell? ⟨g, o + 3, none⟩ = some (.int .i64 x3) ∧ w.cell? ⟨g, o + 4, none⟩ = some (.int .i64 x4) ∧ w.cell? ⟨g, o + 5, none⟩ = some (.int .i64 x5) :=
  ⟨h 0 _ rfl, h 1 _ rfl, h 2 _ rfl, h 3 _ rfl, h 4 _ rfl, h 5 _ rfl⟩
theorem rl_at {w : World} {g o : Nat} {L : List (Ru)} (h : GAt rlE w g o L) {n k : Nat} (hn : L.length = n) (hk : k < n) :
    ∃ (x0 : Int) (x1 : Int) (x2 : Int) (x3 : Int) (x4 : Int) (x5 : Int) (hl : k < L.length), L[k] = ⟨x0, x1, x2, x3, x4, x5⟩ ∧ w.cell? ⟨g, o + k * 6, none⟩ = some (.int .i64 x0) ∧ w.cell? ⟨g, o + k * 6 + 1, none⟩ = some (.int .i64 x1) ∧ w.cell? ⟨g, o + k * 6 + 2, none⟩ = some (.int .i64 x2) ∧ w.cell? ⟨g, o + k * 6 + 3, none⟩ = some (.int .i64 x3) ∧ w.cell? ⟨g, o + k * 6 + 4, none⟩ = some (.int .i64 x4) ∧ w.cell? ⟨g, o + k * 6 + 5, none⟩ = some (.int .i64 x5) :=
  have hl : k < L.length := by omega
  ⟨_, _, _, _, _, _, hl, rfl, rl_cells (h k hl)⟩
theorem rl_new (w : World) (x0 : Int) (x1 : Int) (x2 : Int) (x3 : Int) (x4 : Int) (x5 : Int) (t : TypeId) : VAt (w.alloc (Obj.cells #[.int .i64 x0, .int .i64 x1, .int .i64 x2, .int .i64 x3, .int .i64 x4, .int .i64 x5] t)) w.heap.size 0 (rlE.c ⟨x0, x1, x2, x3, x4, x5⟩) := vat_new w [.int .i64 x0, .int .i64 x1, .int .i64 x2, .int .i64 x3, .int .i64 x4, .int .i64 x5] t
theorem rl_row (w : World) (x0 : Int) (x1 : Int) (x2 : Int) (x3 : Int) (x4 : Int) (x5 : Int) (t : TypeId) : GS rlE (w.alloc (Obj.cells #[.int .i64 x0, .int .i64 x1, .int .i64 x2, .int .i64 x3, .int .i64 x4, .int .i64 x5] t)) (.slice (some ⟨w.heap.size, 0, none⟩) 1 1) [⟨x0, x1, x2, x3, x4, x5⟩] := gs_one (E := rlE) w ⟨x0, x1, x2, x3, x4, x5⟩ t (vs := [.int .i64 x0, .int .i64 x1, .int .i64 x2, .int .i64 x3, .int .i64 x4, .int .i64 x5]) rfl
/-- Are two the same? -/
def rlB (a b : Ru) : Bool := (a.p == b.p) && ((a.m == b.m) && ((a.b == b.b) && ((a.o == b.o) && ((a.s == b.s) && ((a.v == b.v))))))
theorem rlB_iff (a b : Ru) : rlB a b = true ↔ a = b := by
  have e : rlB a b = ((a.p == b.p) && ((a.m == b.m) && ((a.b == b.b) && ((a.o == b.o) && ((a.s == b.s) && ((a.v == b.v))))))) := rfl
  rw [e]
  simp only [Bool.and_eq_true, beq_iff_eq]
  constructor
  · intro h
    obtain ⟨a0, a1, a2, a3, a4, a5⟩ := a; obtain ⟨b0, b1, b2, b3, b4, b5⟩ := b; simp at h ⊢; simp [h]
  · intro h
    subst h
    simp
theorem rl_ways (x0 : Int) (x1 : Int) (x2 : Int) (x3 : Int) (x4 : Int) (x5 : Int) (y0 : Int) (y1 : Int) (y2 : Int) (y3 : Int) (y4 : Int) (y5 : Int) :
    ((x0 == y0) = false ∧ rlB ⟨x0, x1, x2, x3, x4, x5⟩ ⟨y0, y1, y2, y3, y4, y5⟩ = false) ∨
    ((x0 == y0) = true ∧ (x1 == y1) = false ∧ rlB ⟨x0, x1, x2, x3, x4, x5⟩ ⟨y0, y1, y2, y3, y4, y5⟩ = false) ∨
    ((x0 == y0) = true ∧ (x1 == y1) = true ∧ (x2 == y2) = false ∧ rlB ⟨x0, x1, x2, x3, x4, x5⟩ ⟨y0, y1, y2, y3, y4, y5⟩ = false) ∨
    ((x0 == y0) = true ∧ (x1 == y1) = true ∧ (x2 == y2) = true ∧ (x3 == y3) = false ∧ rlB ⟨x0, x1, x2, x3, x4, x5⟩ ⟨y0, y1, y2, y3, y4, y5⟩ = false) ∨
    ((x0 == y0) = true ∧ (x1 == y1) = true ∧ (x2 == y2) = true ∧ (x3 == y3) = true ∧ (x4 == y4) = false ∧ rlB ⟨x0, x1, x2, x3, x4, x5⟩ ⟨y0, y1, y2, y3, y4, y5⟩ = false) ∨
    ((x0 == y0) = true ∧ (x1 == y1) = true ∧ (x2 == y2) = true ∧ (x3 == y3) = true ∧ (x4 == y4) = true ∧ (x5 == y5) = false ∧ rlB ⟨x0, x1, x2, x3, x4, x5⟩ ⟨y0, y1, y2, y3, y4, y5⟩ = false) ∨
    ((x0 == y0) = true ∧ (x1 == y1) = true ∧ (x2 == y2) = true ∧ (x3 == y3) = true ∧ (x4 == y4) = true ∧ (x5 == y5) = true ∧ rlB ⟨x0, x1, x2, x3, x4, x5⟩ ⟨y0, y1, y2, y3, y4, y5⟩ = true) := by
  have e : rlB ⟨x0, x1, x2, x3, x4, x5⟩ ⟨y0, y1, y2, y3, y4, y5⟩ = ((x0 == y0) && ((x1 == y1) && ((x2 == y2) && ((x3 == y3) && ((x4 == y4) && ((x5 == y5))))))) := rfl
  rw [e]
  cases h0 : (x0 == y0)
  · simp
  · skip
    cases h1 : (x1 == y1)
    · simp
    · skip
      cases h2 : (x2 == y2)
      · simp
      · skip
        cases h3 : (x3 == y3)
        · simp
        · skip
          cases h4 : (x4 == y4)
          · simp
          · skip
            cases h5 : (x5 == y5)
            · simp
            · skip
              simp
set_option maxRecDepth 100000 in
theorem rl_eq (x0 : Int) (x1 : Int) (x2 : Int) (x3 : Int) (x4 : Int) (x5 : Int) (y0 : Int) (y1 : Int) (y2 : Int) (y3 : Int) (y4 : Int) (y5 : Int) (w : World) : (Op.equal 47 (.agg #[.int .i64 x0, .int .i64 x1, .int .i64 x2, .int .i64 x3, .int .i64 x4, .int .i64 x5]) (.agg #[.int .i64 y0, .int .i64 y1, .int .i64 y2, .int .i64 y3, .int .i64 y4, .int .i64 y5])).run Tryd.prog w = .ok (rlB ⟨x0, x1, x2, x3, x4, x5⟩ ⟨y0, y1, y2, y3, y4, y5⟩) w := by
  unfold Op.equal Op.maxDepth
  rw [run_equalIn_struct w 9999 _ _ _ (by kernel_rfl) (by kernel_rfl)]
  rcases rl_ways x0 x1 x2 x3 x4 x5 y0 y1 y2 y3 y4 y5 with ⟨e0, e⟩ | ⟨e0, e1, e⟩ | ⟨e0, e1, e2, e⟩ | ⟨e0, e1, e2, e3, e⟩ | ⟨e0, e1, e2, e3, e4, e⟩ | ⟨e0, e1, e2, e3, e4, e5, e⟩ | ⟨e0, e1, e2, e3, e4, e5, e⟩
  all_goals
    rw [e]
    go_simp
theorem rl_info : (Tryd.prog.info? 47).map (fun i => (i.zero, i.size, i.bytes)) = some (some (.agg #[.int .i64 0, .int .i64 0, .int .i64 0, .int .i64 0, .int .i64 0, .int .i64 0]), 6, 48) := by kernel_rfl
theorem rl_zero : (Value.agg #[.int .i64 0, .int .i64 0, .int .i64 0, .int .i64 0, .int .i64 0, .int .i64 0]).cells.size = 6 := by simp [Value.cells]
/-- Cells that read as one. -/
theorem rl_open {H : Type} {enc : TypeId × Value → H} {W : World} {n : Nat} {cs : List Value} {x : DataW H × List MemPlace}
    (h : DataW.trod enc Tryd.prog W 0 (fun _ => true) true n 47 cs = some x) : ∃ y, cs = rlE.c y := by
  obtain ⟨xs, k, _, _, hl, hlen, hf⟩ := DataW.trod_struct Tryd.underlying47 h
  have hC : Tryd.prog.cellsOf 47 = 6 := by kernel_rfl
  have hT0 : Tryd.prog.cellsOf 3 = 1 := by kernel_rfl
  have hT1 : Tryd.prog.cellsOf 45 = 2 := by kernel_rfl
  rw [hC] at hl
  match cs, hl with
  | [c0, c1, c2, c3, c4, c5], _ =>
    match xs, hlen with
    | [z0, z1, z2, z3, z4], _ =>
      have g0 := hf 0 _ rfl
      have g1 := hf 1 _ rfl
      have g2 := hf 2 _ rfl
      have g3 := hf 3 _ rfl
      have g4 := hf 4 _ rfl
      simp [hT0, hT1] at g0 g1 g2 g3 g4
      obtain ⟨v0, e0, _, _⟩ := DataW.trod_int Tryd.underlying3 g0
      obtain ⟨s1, e1⟩ := cu_open g1
      obtain ⟨v3, e2, _, _⟩ := DataW.trod_int Tryd.underlying3 g2
      obtain ⟨v4, e3, _, _⟩ := DataW.trod_int Tryd.underlying3 g3
      obtain ⟨v5, e4, _, _⟩ := DataW.trod_int Tryd.underlying3 g4
      simp [cuE] at e0 e1 e2 e3 e4
      refine ⟨⟨v0, s1.1, s1.2, v3, v4, v5⟩, ?_⟩
      simp [rlE, e0, e1, e2, e3, e4]
set_option maxRecDepth 100000 in
/-- One that came in. -/
theorem rl_of {H : Type} {enc : TypeId × Value → H} {W : World} {base : Nat} {v : Value} {d : DataW H} {p : List MemPlace}
    (hv : Value.okWide Tryd.prog W .any base 47 v) (h : DataW.Trod enc Tryd.prog W 0 (fun _ => true) true 47 v d p) : ∃ (x0 : Int) (x1 : Int) (x2 : Int) (x3 : Int) (x4 : Int) (x5 : Int), v = .agg #[.int .i64 x0, .int .i64 x1, .int .i64 x2, .int .i64 x3, .int .i64 x4, .int .i64 x5] := by
  obtain ⟨cs, rfl, hsz⟩ := okWide_struct Tryd.underlying47 hv
  obtain ⟨n, hn⟩ := h
  obtain ⟨y, e⟩ := rl_open hn
  refine ⟨y.p, y.m, y.b, y.o, y.s, y.v, ?_⟩
  simp only [Value.cells] at e
  have e2 : cs = #[.int .i64 y.p, .int .i64 y.m, .int .i64 y.b, .int .i64 y.o, .int .i64 y.s, .int .i64 y.v] := by
    rw [← Array.toArray_toList (xs := cs), e]
    rfl
  rw [e2]
/-- A slice of them that came in. -/
theorem rls_of {H : Type} {enc : TypeId × Value → H} {W : World} {base : Nat} {v : Value} {d : DataW H} {p : List MemPlace}
    (hv : Value.okWide Tryd.prog W .any base 42 v) (h : DataW.Trod enc Tryd.prog W 0 (fun _ => true) true 42 v d p) : ∃ L, GS rlE W v L :=
  gs_of (E := rlE) 42 47 Tryd.underlying42 (by kernel_rfl) ⟨0, 0, 0, 0, 0, 0⟩ (fun _ _ _ h => rl_open h) hv h
end Go.Proofs.YtpmcjelihdlfeaaDoor
/- A net that came in: its topology, its tables. -/
namespace Go.Proofs.YtpmcjelihdlfeaaDoor
open Go.ChangeShapes Go.WideShapes Go.ChangeAt Go.RowKit Go.Joins
set_option linter.unusedSimpArgs false
set_option linter.unusedVariables false
set_option maxRecDepth 100000

theorem gs_SR {w : World} {v : Value} {L : List Ru} (h : GS rlE w v L) : SR w v L := by
  rcases h with h | ⟨g, o, cap, h1, h2, h3, h4⟩
  · exact .inl h
  · refine .inr ⟨g, o, cap, h1, h2, h3, fun i hi => ?_⟩
    have hv := h4 i hi
    generalize L[i] = r at hv
    obtain ⟨p, m, b, q, s, x⟩ := r
    obtain ⟨q0, q1, q2, q3, q4, q5⟩ := rl_cells hv
    exact ⟨q0, q1, q2, q3, q4, q5⟩
set_option maxRecDepth 100000 in
theorem table_open {H : Type} {enc : TypeId × Value → H} {W : World} {fuel : Nat} {cs : List Value} {x : DataW H × List MemPlace}
    (h : DataW.trod enc Tryd.prog W 0 (fun _ => true) true fuel 42 cs = some x) : ∃ ao n cap L, cs = [.slice ao n cap] ∧ SR W (.slice ao n cap) L := by
  obtain ⟨ao, n, cap, L, e, hL⟩ := gs_open (E := rlE) 42 47 Tryd.underlying42 (by kernel_rfl) zeR (fun _ _ _ h => rl_open h) h
  exact ⟨ao, n, cap, L, e, gs_SR hL⟩
set_option maxRecDepth 100000 in
theorem tables_open {H : Type} {enc : TypeId × Value → H} {W : World} {fuel : Nat} {cs : List Value} {x : DataW H × List MemPlace}
    (hf2 : DataW.trod enc Tryd.prog W 0 (fun _ => true) true fuel 26 cs = some x) : ∃ ao n cap Ts, cs = [.slice ao n cap] ∧ TS W (.slice ao n cap) Ts := by
  obtain ⟨d, p⟩ := x
  have hC : Tryd.prog.cellsOf 42 = 1 := by kernel_rfl
  rcases Go.Deep.open_slice Tryd.underlying26 hf2 with ⟨hc, hx⟩ | ⟨a, len0, cap, m, k, D, Pl, hc, _, hl, hm, hmm, hx, hall⟩
  · exact ⟨_, _, _, [], hc, .inl ⟨none, 0, rfl, rfl⟩⟩
  · simp only [if_true] at hmm
    subst hmm
    rcases Nat.eq_zero_or_pos len0 with h0 | h0
    · subst h0
      exact ⟨_, _, _, [], hc, .inl ⟨_, _, rfl, rfl⟩⟩
    · have each : ∀ i, i < m → ∃ L : List Ru, ∃ ao n cap, W.cell? (a.add i) = some (.slice ao n cap) ∧ SR W (.slice ao n cap) L := by
        intro i hi
        obtain ⟨cs, h1, h2⟩ := hall i hi
        rw [hC] at h1
        obtain ⟨_, hlen, hcell⟩ := World.cells?_some h1
        obtain ⟨ao, n, cap, L, rfl, hL⟩ := table_open h2
        refine ⟨L, ao, n, cap, ?_, hL⟩
        have := hcell 0 (by simp)
        rw [Go.Deep.add_add] at this
        simpa using this
      obtain ⟨R, hR⟩ := Go.Deep.choose_lt each
      obtain ⟨sb, so, spot⟩ := a
      have hspot : spot = none := by
        obtain ⟨ao, n, cap, h1, _⟩ := hR 0 (by omega)
        simpa [Addr.add] using World.cell?_spot h1
      subst hspot
      have hadd : ∀ j, (⟨sb, so, none⟩ : Addr).add j = ⟨sb, so + j, none⟩ := by
        intro j
        simp only [Addr.add]
        first
          | rfl
          | (split
             · next h0 => rw [h0]; rfl
             · rfl)
      refine ⟨_, _, _, (List.range len0).map R, hc, .inr ⟨sb, so, _, by simp, by simpa using hl, hm, fun i hi => ?_⟩⟩
      have hi2 : i < len0 := by simpa using hi
      have e : ((List.range len0).map R)[i] = R i := by simp
      rw [e]
      obtain ⟨ao, n, cap, h1, h2⟩ := hR i (by omega)
      rw [hadd] at h1
      exact ⟨ao, n, cap, h1, h2⟩
set_option maxRecDepth 100000 in
/-- One that came in. -/
theorem net_open {H : Type} {enc : TypeId × Value → H} {W : World} {n : Nat} {cs : List Value} {x : DataW H × List MemPlace}
    (h : DataW.trod enc Tryd.prog W 0 (fun _ => true) true n 28 cs = some x) : ∃ S ao n cap ao2 n2 cap2 ao3 n3 cap3 Ls Hs Ts, cs = [.int .i64 S, .slice ao n cap, .slice ao2 n2 cap2, .slice ao3 n3 cap3] ∧ GS lnkE W (.slice ao n cap) Ls ∧ GS hstE W (.slice ao2 n2 cap2) Hs ∧ TS W (.slice ao3 n3 cap3) Ts := by
  obtain ⟨xs, k, _, _, hl, hlen, hf⟩ := DataW.trod_struct Tryd.underlying28 h
  have hC : Tryd.prog.cellsOf 28 = 4 := by kernel_rfl
  have hT0 : Tryd.prog.cellsOf 25 = 3 := by kernel_rfl
  have hT1 : Tryd.prog.cellsOf 26 = 1 := by kernel_rfl
  rw [hC] at hl
  match cs, hl with
  | [c0, c1, c2, c3], _ =>
    match xs, hlen with
    | [z0, z1], _ =>
      have g0 := hf 0 _ rfl
      have g1 := hf 1 _ rfl
      simp [hT0, hT1] at g0 g1
      obtain ⟨S, ao, n, cap, ao2, n2, cap2, Ls, Hs, e0, hL, hH⟩ := topo_open g0
      obtain ⟨ao3, n3, cap3, Ts, e1, hT⟩ := tables_open g1
      simp at e0 e1
      exact ⟨S, ao, n, cap, ao2, n2, cap2, ao3, n3, cap3, Ls, Hs, Ts, by simp [e0, e1], hL, hH, hT⟩
theorem net_of {H : Type} {enc : TypeId × Value → H} {W : World} {base : Nat} {v : Value} {d : DataW H} {p : List MemPlace}
    (hv : Value.okWide Tryd.prog W .any base 28 v) (h : DataW.Trod enc Tryd.prog W 0 (fun _ => true) true 28 v d p) : ∃ S ao n cap ao2 n2 cap2 ao3 n3 cap3 Ls Hs Ts, v = .agg #[.int .i64 S, .slice ao n cap, .slice ao2 n2 cap2, .slice ao3 n3 cap3] ∧ GS lnkE W (.slice ao n cap) Ls ∧ GS hstE W (.slice ao2 n2 cap2) Hs ∧ TS W (.slice ao3 n3 cap3) Ts := by
  obtain ⟨cs, rfl, hsz⟩ := okWide_struct Tryd.underlying28 hv
  obtain ⟨n, hn⟩ := h
  obtain ⟨S, ao, n, cap, ao2, n2, cap2, ao3, n3, cap3, Ls, Hs, Ts, e, h1, h2, h3⟩ := net_open hn
  refine ⟨S, ao, n, cap, ao2, n2, cap2, ao3, n3, cap3, Ls, Hs, Ts, ?_, h1, h2, h3⟩
  simp only [Value.cells] at e
  rw [← Array.toArray_toList (xs := cs), e]
end Go.Proofs.YtpmcjelihdlfeaaDoor
/- The row of NetTells: it answers true, whatever net, spot, number and name it is called with; the variable errorType of package errors is as the program's text lays it. -/
namespace Go.Proofs.YtpmcjelihdlfeaaDoor.netTells
open Go.ChangeShapes Go.WideShapes Go.ChangeAt Go.RowKit
set_option linter.unusedVariables false
set_option linter.unusedSimpArgs false

theorem own : ownKnob Tryd.prog.godebug = none := by kernel_rfl
theorem laidOut : laidOutB Tryd.prog = true := by kernel_rfl
theorem et : Tryd.prog.globalNamed "errors.errorType" = some 0 := by kernel_rfl
theorem oneRow : ((List.range 211).filter fun t => Tryd.prog.rowNamed t [101, 114, 114, 111, 114]) = [34] := by kernel_rfl
theorem tsize : Tryd.prog.types.size = 211 := by kernel_rfl

theorem handle_of_laid {W : World} (h : laidMetH Tryd.prog Rows.netTellsRow.laid W) : HasErr W := by
  have h' : laidMet Tryd.prog [] W ∧ handlesMet Tryd.prog Rows.netTellsRow.laid W := h
  obtain ⟨name, u, ty, e1, e2, e3, e4, e5⟩ := h'.2 _ (List.mem_singleton.2 rfl)
  have en : name = [101, 114, 114, 111, 114] := (Option.some.inj e1).symm
  subst en
  have hu : some u = some 158 := e2.symm.trans (by kernel_rfl)
  obtain rfl := Option.some.inj hu
  have hm : ty ∈ (List.range 211).filter fun t => Tryd.prog.rowNamed t [101, 114, 114, 111, 114] := List.mem_filter.2 ⟨List.mem_range.2 (by rw [← tsize]; exact e3), e4⟩
  rw [oneRow] at hm
  obtain rfl := List.mem_singleton.1 hm
  have hh : typeHandle Tryd.prog 34 = .pointer (some ⟨1, 34, none⟩) := by kernel_rfl
  rw [hh] at e5
  unfold HasErr
  simpa using World.var?_cell et e5 0

set_option maxRecDepth 100000 in
theorem lifted (os : Os) (started : os.Started) (H : Type) (enc : TypeId × Value → H) :
    ReturnsInHanded {} Tryd.checked os 3 .any (fun w args => (Rows.netTellsSpec.pre enc Tryd.prog Tryd.f3 [] false w args ∧ laidMetH Tryd.prog Rows.netTellsRow.laid w) ∧ sizedMet enc Tryd.prog Tryd.f3 (OpenSpec.ofChange Rows.netTellsSpec) false w args)
      (Rows.netTellsSpec.post enc Tryd.prog Tryd.f3 false true false false) := by
  refine returnsInHanded_of_change_and (C := Tryd.checked) (X := fun w _ => laidMetH Tryd.prog Rows.netTellsRow.laid w) (fun _ _ _ hh h => h.of_heap hh) own started (by kernel_rfl) Tryd.func3
    (ChangeSpec.witness_at (enc := enc) (C := Tryd.checked) (os := os) (X := fun w _ => laidMetH Tryd.prog Rows.netTellsRow.laid w) false
      { World.holding Tryd.prog os ⟨#[], #[], []⟩ with heap := (World.holding Tryd.prog os ⟨#[], #[], []⟩).heap.modify 0 fun
          | .cells _ t frozen => .cells #[.iface 158 (.agg #[.pointer (some ⟨1, 34, none⟩)])] t frozen
          | o => o }
      #[.agg #[.int .i64 0, .slice none 0 0, .slice none 0 0, .slice none 0 0], .agg #[.int .i64 0, .int .i64 0], .int .i64 0, .string ByteArray.empty] 8 rfl (by kernel_rfl) (by kernel_rfl) (by kernel_rfl) (by kernel_rfl) (by kernel_rfl) (laidMetH_of_parts (laidMet_nil _ _) (by kernel_rfl))) ?_
  intro W base args ds gs before hval0 hW _ _ hLaid _
  have hval : ∀ (j : Nat) t v, Tryd.f3.params[j]? = some t → args[j]? = some v → Value.okWide Tryd.prog W .any base t v := hval0
  have hW' := hW
  obtain ⟨p, q, hA0, hV0, rfl, hfz, hnd⟩ := hW
  have hA : DataW.TrodAll enc Tryd.prog W 0 (fun _ => true) true Tryd.f3.params.toList args.toList ds p := hA0
  have hV : DataW.TrodVars enc Tryd.prog W (fun _ => true) [] gs q := hV0
  rw [Tryd.params3] at hA hval
  obtain ⟨v0, vs0, d0, ds0, p0, q0, hargs, rfl, rfl, h0, r0⟩ := trodAll_cons hA
  obtain ⟨v1, vs1, d1, ds1, p1, q1, rfl, rfl, rfl, h1, r1⟩ := trodAll_cons r0
  obtain ⟨v2, vs2, d2, ds2, p2, q2, rfl, rfl, rfl, h2, r2⟩ := trodAll_cons r1
  obtain ⟨v3, vs3, d3, ds3, p3, q3, rfl, rfl, rfl, h3, r3⟩ := trodAll_cons r2
  obtain ⟨rfl, rfl, rfl⟩ := trodAll_nil r3
  obtain rfl : args = #[v0, v1, v2, v3] := by cases args; simp_all
  have hg := handle_of_laid hLaid
  obtain ⟨rfl, rfl⟩ : gs = [] ∧ q = [] := by
    cases gs with
    | nil => exact ⟨rfl, hV⟩
    | cons g r => exact absurd hV (by intro h; cases h)
  have k0 := h0
  have lt0 : ∀ x ∈ p0, x.block < W.heap.size := by obtain ⟨m, hm⟩ := k0; exact DataW.trod_lt m _ _ _ hm
  have k1 := h1
  have lt1 : ∀ x ∈ p1, x.block < W.heap.size := by obtain ⟨m, hm⟩ := k1; exact DataW.trod_lt m _ _ _ hm
  have k2 := h2
  have lt2 : ∀ x ∈ p2, x.block < W.heap.size := by obtain ⟨m, hm⟩ := k2; exact DataW.trod_lt m _ _ _ hm
  have k3 := h3
  have lt3 : ∀ x ∈ p3, x.block < W.heap.size := by obtain ⟨m, hm⟩ := k3; exact DataW.trod_lt m _ _ _ hm
  obtain ⟨S, ao, n, cap, ao2, n2, cap2, ao3, n3, cap3, Ls, Hs, Ts, rfl, hL, hH, hT⟩ := net_of (hval 0 28 v0 rfl rfl) h0
  obtain ⟨x, y, rfl⟩ := spo_of (hval 1 30 v1 rfl rfl) h1
  obtain ⟨a, rfl⟩ := okWide_int Tryd.underlying3 (hval 2 3 v2 rfl rfl)
  obtain ⟨m, rfl⟩ := okWide_string Tryd.underlying9 (hval 3 9 v3 rfl rfl)
  clear hA0 hval0
  refine (walk S ao n cap ao2 n2 cap2 ao3 n3 cap3 Ls Hs Ts x y a m W hL hH hT hg).mono fun e W' ⟨he, bel⟩ => ?_
  subst he
  exact ⟨_, rfl, _, _, _, [], _, [], hW', trodAll_mk1 (shut_bool Tryd.underlying4 _), (trodAll_cons_mk (Below.trod laidOut (by kernel_rfl) (of_decide_eq_true (by kernel_rfl)) k0 bel lt0) (trodAll_cons_mk (Below.trod laidOut (by kernel_rfl) (of_decide_eq_true (by kernel_rfl)) k1 bel lt1) (trodAll_cons_mk (Below.trod laidOut (by kernel_rfl) (of_decide_eq_true (by kernel_rfl)) k2 bel lt2) (trodAll_cons_mk (Below.trod laidOut (by kernel_rfl) (of_decide_eq_true (by kernel_rfl)) k3 bel lt3) trodAll_mk0)))), rfl, bel.frame _, fun h => by cases h⟩

theorem over : Rows.NetTellsSaid :=
  OpenClaim.holds_of_wide 3 Tryd.f3 rfl rfl rfl rfl rfl rfl rfl ⟨rfl, rfl, rfl, rfl, rfl⟩ rfl rfl rfl rfl rfl (by kernel_rfl) Tryd.func3 (by kernel_rfl)
    (of_decide_eq_true (by kernel_rfl)) (by unfold Func.isWrapper; first | (rw [if_pos (by decide +kernel)]; kernel_rfl) | (rw [if_neg (by decide +kernel)]; exact ⟨rfl, rfl⟩))
    (fun os started H enc _ => lifted os started H enc)
end Go.Proofs.YtpmcjelihdlfeaaDoor.netTells
