/- Contracts and facts on the way to WishTells, joined into one text: WishHolds, RefHolds, RuleCut, WishText, RefName. -/
import Derived.Test.YtpmcjelihdlfeaaGreatDoorWishTellsP7
import Derived.Test.YtpmcjelihdlfeaaGreatDoorWishTellsP4
import Derived.Test.YtpmcjelihdlfeaaGreatDoorWishTellsP3
import Derived.Test.YtpmcjelihdlfeaaGreatDoorWishTellsP6
import Derived.Test.YtpmcjelihdlfeaaGreatDoorWishTellsP2
import Derived.Test.YtpmcjelihdlfeaaGreatDoorWishTellsP1
import Derived.Deep.RegionHeld3
import Derived.Lib.IndexBytes
import Derived.Lib.Strings
import Derived.Test.YtpmcjelihdlfeaaGreatDoorRows
import Derived.WalkKit
import Derived.WalkSpells
import Derived.Below
/- What Holds of package wish answers: the iterator of one fate, FirstBroken asked by it; contracts for the walks above it. -/
namespace Go.Proofs.YtpmcjelihdlfeaaGreatDoor
open Go.RowKit Go.Shelf
set_option linter.unusedSimpArgs false
set_option linter.unusedVariables false
attribute [local go_sem] Oper.semAt_some

theorem nm_small {a : ByteArray} (h : nmB a = true) : a.size ≤ 6 := by
  simp only [nmB, Bool.and_eq_true, decide_eq_true_eq] at h
  exact h.2.1
/-- A net in its box, its lists where they lie. -/
structure NIn (w : World) (g : Nat) (S : Int) (v1 v2 v3 : Value) (Ls : List ((Int × Int) × (Int × Int))) (Hs : List (ByteArray × (Int × Int))) (Ts : List (List Ru)) : Prop where
  box : NeBox w g S v1 v2 v3
  l : GS lnkE w v1 Ls
  h : GS hstE w v2 Hs
  t : TS w v3 Ts
theorem NIn.later {w w' : World} {g : Nat} {S : Int} {v1 v2 v3 : Value} {Ls : List ((Int × Int) × (Int × Int))} {Hs : List (ByteArray × (Int × Int))} {Ts : List (List Ru)} (k : NIn w g S v1 v2 v3 Ls Hs Ts) (hb : Below w.heap.size w w') : NIn w' g S v1 v2 v3 Ls Hs Ts :=
  ⟨k.box.later hb, k.l.later hb, k.h.later hb, k.t.later hb⟩

set_option maxHeartbeats 2000000 in
set_option maxRecDepth 100000 in
theorem values1_in (n : Nat) (h3 : 3 ≤ n) (l n₀ : Nat) (F : Ft) (b Bs : Nat) (ao4 : Option Addr) (n4 cap4 : Nat) (J : Nat → (Nat → Prop) → World → Prop) (Jx : World → Prop) (W : World) (hB : Boxed W Bs 89 (.slice (some ⟨b, 0, none⟩) 1 1)) (hf : FaBox W b F.1 F.2.1 (.slice ao4 n4 cap4)) (hG : GS hopE W (.slice ao4 n4 cap4) F.2.2)
    (h0 : J 0 (fun _ => False) W) (hab : ∀ k X A A', J k X A → Kb (fun b => b < W.heap.size ∨ X b) A A' → J k X A')
    (hY : ∀ k X A args x (Y : Nat → Prop), J k X A → [F][k]? = some x → FtV A args x → W.heap.size ≤ A.heap.size → (∀ b, Y b → W.heap.size ≤ b ∧ ¬ X b) → YieldAt Fence.wide 0 Tryz.prog l args A fun e A' =>
      (e = .returned (.bool true) ∧ (∃ X', J (k + 1) X' A' ∧ ∀ b, X' b → X b ∨ A.heap.size ≤ b) ∧ Kb (fun b => b < n₀ ∨ Y b) A A') ∨ (e = .returned (.bool false) ∧ Jx A' ∧ Kb (fun b => b < n₀ ∨ Y b) A A')) :
    CallsIn Fence.wide n Tryz.prog 61 #[.func (.yield l) #[] #[], .pointer (some ⟨Bs, 0, none⟩)] W fun e W' => (∃ v, e = .returned v) ∧ ((∃ X, J 1 X W') ∨ Jx W') := by
  have h1 : 1 ≤ n := by omega
  obtain ⟨F1, F2, F3⟩ := F
  dsimp only at hf hG
  have hBA : Below W.heap.size W (W.alloc (Obj.cells #[.int .i64 F1, .string F2, .slice ao4 n4 cap4] 34)) := (Below.refl _ _).alloc (Nat.le_refl _) _
  have hJ0 := hab _ _ _ _ h0 (Kb.of_below hBA (fun b hb _ => hb))
  have hy0 := yield_any (m' := n - 1) (hY 0 _ (W.alloc (Obj.cells #[.int .i64 F1, .string F2, .slice ao4 n4 cap4] 34)) #[.agg #[.int .i64 F1, .string F2, .slice ao4 n4 cap4]] (F1, F2, F3) (fun _ => False) hJ0 rfl ⟨ao4, n4, cap4, rfl, hG.later hBA⟩ hBA.size (fun _ h => h.elim))
  obtain ⟨fn, tmps, assign, body, hy, hR⟩ := hy0
  have HR : Hid (RoundIn Fence.wide (n - 1) Tryz.prog l fn tmps assign body (W.alloc (Obj.cells #[.int .i64 F1, .string F2, .slice ao4 n4 cap4] 34)) _) := hR
  obtain ⟨f0, f1, f2⟩ := hf
  have hc0 := hB.cell
  refine callsIn_of_wp Tryz.func61 rfl trivial ?_ rfl
  simp only [Tryz.ntmps61, List.size_toArray, List.length_cons, List.length_nil, Nat.reduceAdd, Nat.reduceSub, Array.replicate_succ, Array.replicate_zero, List.push_toArray, List.append_toArray, List.nil_append, List.cons_append]
  clear hY hBA hJ0 hB hG hR h0 hab
  gi_wp2
  gi_loopw [7] (fun i wr => ∃ k : Nat, k ≤ 1 ∧ i = .int .i64 k ∧ (k = 0 → wr = W) ∧ (k = 1 → ∃ X, J 1 X wr)) (fun i _ => 1 - (intOf i).toNat)
  case atStart => exact ⟨0, by omega, rfl, fun _ => rfl, fun h => by omega⟩
  case round =>
    obtain ⟨k, hk, rfl, hk0, hk1⟩ := hrel
    by_cases hlt : k < 1
    · obtain rfl : k = 0 := by omega
      have hw := hk0 rfl
      subst hw
      clear hk0 hk1
      gi_wp2
      refine HR.out.mono ?_
      rintro e W3 (⟨rfl, ⟨X', hJ3, _⟩, hk3⟩ | ⟨rfl, hJx3, _⟩)
      · have HJ3 : Hid (∃ X, J 1 X W3) := ⟨X', hJ3⟩
        clear hJ3 hk3
        gi_wp2
        go_roundw
        case rel => exact ⟨1, by omega, by go_num, fun h => by omega, fun _ => HJ3.out⟩
        case measure => simp [intOf]
      · gi_wp2
        refine bodyPost_ret (results_none rfl _ _ _) rfl ?_
        exact ⟨⟨_, rfl⟩, .inr hJx3⟩
    · obtain rfl : k = 1 := by omega
      have HJ : Hid (∃ X, J 1 X wr) := hk1 rfl
      clear hk0 hk1
      gi_wp2
      go_end0
      exact ⟨⟨_, rfl⟩, .inl HJ.out⟩
/-- slices.Values of one fate. -/
theorem values_it (F : Ft) (b Bs : Nat) (ao4 : Option Addr) (n4 cap4 : Nat) (w : World) (hB : Boxed w Bs 89 (.slice (some ⟨b, 0, none⟩) 1 1)) (hf : FaBox w b F.1 F.2.1 (.slice ao4 n4 cap4)) (hG : GS hopE w (.slice ao4 n4 cap4) F.2.2) :
    ItF Tryz.prog 61 #[.pointer (some ⟨Bs, 0, none⟩)] FtV w.heap.size [F] w := by
  intro l J Jx W hW hn h0 hlt hab hax hY
  exact (callsIn_wide (n := 3)).1 (values1_in 3 (by omega) l w.heap.size F b Bs ao4 n4 cap4 J Jx W ((Kb.of_below hW (fun b hb _ => hb) : Kb (fun _ => True) w W).boxed hB trivial) (hf.later hW) (hG.later hW) h0 hab hY)
set_option maxHeartbeats 1000000 in
theorem values_any (a : Option Addr) (len cap : Nat) (w : World) :
    Calls Tryz.prog 36 #[.slice a len cap] w fun e w' => e = .returned (.func (Fn.func 61) #[] #[.pointer (some ⟨w.heap.size, 0, none⟩)]) ∧ w' = w.alloc (.cells #[.slice a len cap] 89) := by
  go_enter Tryz.func36, Tryz.ntmps36
  go_wp2
  go_ret
  exact ⟨rfl, rfl⟩

set_option maxHeartbeats 2000000 in
set_option maxRecDepth 100000 in
theorem fates_any (m : ByteArray) (x y h : Int) (g : Nat) (S : Int) (ao : Option Addr) (n cap : Nat) (ao2 : Option Addr) (n2 cap2 : Nat) (ao3 : Option Addr) (n3 cap3 : Nat) (Ls : List ((Int × Int) × (Int × Int))) (Hs : List (ByteArray × (Int × Int))) (Ts : List (List Ru)) (w : World)
    (hI : NIn w g S (.slice ao n cap) (.slice ao2 n2 cap2) (.slice ao3 n3 cap3) Ls Hs Ts) (hN : ntN S Ls Hs Ts = 0) (hx : spB S (x, y) = true) :
    Calls Tryz.prog 35 #[.agg #[.string m, .int .i64 x, .int .i64 y], .int .i64 h, .pointer (some ⟨g, 0, none⟩)] w fun e w' => ∃ gi lb, e = .returned (.func (Fn.func gi) #[] lb) ∧ (∀ args w, (callFunc gi args).run Tryz.prog w = .ok (.enter gi args) w) ∧ ItF Tryz.prog gi lb FtV w'.heap.size [frF Ls Hs Ts (x, y) h] w' ∧ Below w.heap.size w w' := by
  have hb0 : Below w.heap.size w (w.alloc (Obj.cells #[.string m, .int .i64 x, .int .i64 y] 82)) := (Below.refl _ _).alloc (Nat.le_refl _) _
  have hI0 := hI.later hb0
  have hs := hsbox_new w m x y 82
  obtain ⟨w0, hw0⟩ : ∃ W, w.alloc (Obj.cells #[.string m, .int .i64 x, .int .i64 y] 82) = W := ⟨_, rfl⟩
  rw [hw0] at hb0 hI0 hs
  have HW0 : Hid (w.alloc (Obj.cells #[.string m, .int .i64 x, .int .i64 y] 82) = w0) := hw0
  have HB0 : Hid (Below w.heap.size w w0) := hb0
  have HI0 : Hid (NIn w0 g S (.slice ao n cap) (.slice ao2 n2 cap2) (.slice ao3 n3 cap3) Ls Hs Ts) := hI0
  have HN : Hid (ntN S Ls Hs Ts = 0) := hN
  have HSP : Hid (spB S (x, y) = true) := hx
  obtain ⟨F, hF⟩ : ∃ F, F = frF Ls Hs Ts (x, y) h := ⟨_, rfl⟩
  have HF : Hid (frF Ls Hs Ts (x, y) h = F) := hF.symm
  rw [← hF]
  obtain ⟨b0, b1, b2, b3⟩ := hI0.box
  obtain ⟨s0, s1, s2⟩ := hs
  clear hb0 hI0 hI hN hx hw0 hF
  go_enter Tryz.func35, Tryz.ntmps35
  go_upto_region 1 with fail
  rw [HW0.out]
  clear HW0
  go_wp2_with fail
  refine (follow_any S ao n cap ao2 n2 cap2 ao3 n3 cap3 Ls Hs Ts x y h _ HI0.out.l HI0.out.h HI0.out.t HN.out HSP.out).mono ?_
  rintro e w1 ⟨ao4, n4, cap4, rfl, hown, hb1⟩
  rw [HF.out] at hown
  rw [HF.out]
  have hG : GS hopE w1 (.slice ao4 n4 cap4) F.2.2 := own_GS (E := hopE) hown
  have HB1 : Hid (Below w.heap.size w w1) := HB0.out.trans (hb1.mono HB0.out.size)
  have HG : Hid (GS hopE w1 (.slice ao4 n4 cap4) F.2.2) := hG
  obtain ⟨F1, hF1⟩ : ∃ q, q = F.1 := ⟨_, rfl⟩
  obtain ⟨F2, hF2⟩ : ∃ q, q = F.2.1 := ⟨_, rfl⟩
  rw [← hF1, ← hF2]
  have HFV : Hid (F.1 = F1 ∧ F.2.1 = F2) := ⟨hF1.symm, hF2.symm⟩
  clear hF1 hF2 hown hb1 hG b0 b1 b2 b3 s0 s1 s2
  go_wp2_with fail
  refine (values_any _ _ _ _).mono ?_
  rintro e w2 ⟨rfl, hw2⟩
  have hal : Below w1.heap.size w1 (w1.alloc (Obj.cells #[.int .i64 F1, .string F2, .slice ao4 n4 cap4] 34)) := (Below.refl _ _).alloc (Nat.le_refl _) _
  have hal2 : Below (w1.alloc (Obj.cells #[.int .i64 F1, .string F2, .slice ao4 n4 cap4] 34)).heap.size (w1.alloc (Obj.cells #[.int .i64 F1, .string F2, .slice ao4 n4 cap4] 34)) w2 := by rw [hw2]; exact (Below.refl _ _).alloc (Nat.le_refl _) _
  have hbx : Boxed w2 (w1.alloc (Obj.cells #[.int .i64 F1, .string F2, .slice ao4 n4 cap4] 34)).heap.size 89 (.slice (some ⟨w1.heap.size, 0, none⟩) 1 1) := by rw [hw2]; exact Boxed.new _ _ _
  have hfb : FaBox w2 w1.heap.size F.1 F.2.1 (.slice ao4 n4 cap4) := by rw [HFV.out.1, HFV.out.2]; exact (fabox_new w1 F1 F2 _ 34).later hal2
  have HIT : Hid (ItF Tryz.prog 61 #[.pointer (some ⟨(w1.alloc (Obj.cells #[.int .i64 F1, .string F2, .slice ao4 n4 cap4] 34)).heap.size, 0, none⟩)] FtV w2.heap.size [F] w2) := values_it F _ _ ao4 n4 cap4 w2 hbx hfb ((HG.out.later hal).later hal2)
  have HB2 : Hid (Below w.heap.size w w2) := HB1.out.trans ((hal.trans (hal2.mono hal.size)).mono HB1.out.size)
  clear hw2 hal hal2 hbx hfb
  go_wp2
  go_ret
  refine ⟨_, _, rfl, enters_of Tryz.func61 (by kernel_rfl) rfl, ?_, HB2.out⟩
  have h := HIT.out
  rw [World.size_alloc] at h
  exact h

theorem broken_any (g : Nat) (S : Int) (ao : Option Addr) (n cap : Nat) (ao2 : Option Addr) (n2 cap2 : Nat) (ao3 : Option Addr) (n3 cap3 : Nat) (a4 : Option Addr) (n4 c4 : Nat) (Ls : List ((Int × Int) × (Int × Int))) (Hs : List (ByteArray × (Int × Int))) (Ts : List (List Ru)) (l : List Wi) (w : World)
    (hI : NIn w g S (.slice ao n cap) (.slice ao2 n2 cap2) (.slice ao3 n3 cap3) Ls Hs Ts) (hN : ntN S Ls Hs Ts = 0) (hl : GS wisE w (.slice a4 n4 c4) l) :
    Calls Tryz.prog 34 #[.slice ao2 n2 cap2, .slice a4 n4 c4, .func (Fn.func 35) #[] #[.pointer (some ⟨g, 0, none⟩)]] w fun e w' => e = .returned (.tuple #[.agg #[.int .i64 (prV Hs (brW Ls Hs Ts l Hs l.length)).1, .string (prV Hs (brW Ls Hs Ts l Hs l.length)).2.1, .int .i64 (prV Hs (brW Ls Hs Ts l Hs l.length)).2.2], .bool (brW Ls Hs Ts l Hs l.length).isSome]) ∧ Below w.heap.size w w' := by
  have hHG := (tp_0 (nt_0 hN).1).2.2.2.2.1
  refine (fbrk_any g ao2 n2 cap2 a4 n4 c4 Hs (fun z h => [frF Ls Hs Ts (Hs.getD z zeO).2 (h : Int)]) l w hI.h hl (fun h hh => ?_) ?_).mono ?_
  · have := nm_small (hHG h hh).1
    omega
  · intro z hz h h16 W hW
    have e : Hs.getD z zeO = Hs[z] := getO hz
    dsimp only
    rw [e]
    exact fates_any Hs[z].1 Hs[z].2.1 Hs[z].2.2 h g S ao n cap ao2 n2 cap2 ao3 n3 cap3 Ls Hs Ts W (hI.later hW) hN (hHG _ (List.getElem_mem hz)).2
  · rintro e w' ⟨held, p, rfl, hF, hb⟩
    obtain ⟨e1, e2⟩ := fb_br hF
    rw [e1, e2]
    exact ⟨rfl, hb⟩

/-- The boxes: a net, the answer's. -/
structure HoBox (w W : World) (S : Int) (v1 v2 v3 : Value) : Prop where
  below : Below w.heap.size w W
  n : NeBox W w.heap.size S v1 v2 v3
  p : PrBox w W (w.heap.size + 1) 0 ⟨#[]⟩ 0
theorem hobox_new (w : World) (S : Int) (v1 v2 v3 : Value) : HoBox w ((w.alloc (Obj.cells #[.int .i64 S, v1, v2, v3] 28)).alloc (Obj.cells #[.int .i64 0, .string ⟨#[]⟩, .int .i64 0] 50)) S v1 v2 v3 := by
  have e1 : (w.alloc (Obj.cells #[.int .i64 S, v1, v2, v3] 28)).heap.size = w.heap.size + 1 := by simp
  have hb : ∀ (W : World) (o : Obj), Below W.heap.size W (W.alloc o) := fun W o => (Below.refl _ _).alloc (Nat.le_refl _) _
  have hn := (nebox_new w S v1 v2 v3 28).later (hb _ (Obj.cells #[.int .i64 0, .string ⟨#[]⟩, .int .i64 0] 50))
  have hB := ((Below.refl w.heap.size w).alloc (Nat.le_refl _) (Obj.cells #[.int .i64 S, v1, v2, v3] 28)).alloc (by rw [e1]; omega) (Obj.cells #[.int .i64 0, .string ⟨#[]⟩, .int .i64 0] 50)
  generalize w.alloc (Obj.cells #[.int .i64 S, v1, v2, v3] 28) = X at e1 hn hB
  have hr := prbox_new X w 0 ⟨#[]⟩ 0
  rw [e1] at hr
  exact ⟨hB, hn, hr⟩
theorem HoBox.later {w W W' : World} {S : Int} {v1 v2 v3 : Value} (k : HoBox w W S v1 v2 v3) (hb : Below W.heap.size W W') : HoBox w W' S v1 v2 v3 :=
  ⟨k.below.trans (hb.mono k.below.size), k.n.later hb, k.p.later hb⟩

set_option maxHeartbeats 4000000 in
set_option maxRecDepth 100000 in
theorem holds_any (S : Int) (ao : Option Addr) (n cap : Nat) (ao2 : Option Addr) (n2 cap2 : Nat) (ao3 : Option Addr) (n3 cap3 : Nat) (a4 : Option Addr) (n4 c4 : Nat) (Ls : List ((Int × Int) × (Int × Int))) (Hs : List (ByteArray × (Int × Int))) (Ts : List (List Ru)) (l : List Wi) (w : World)
    (hL : GS lnkE w (.slice ao n cap) Ls) (hH : GS hstE w (.slice ao2 n2 cap2) Hs) (hT : TS w (.slice ao3 n3 cap3) Ts) (hl : GS wisE w (.slice a4 n4 c4) l) :
    Calls Tryz.prog 13 #[.agg #[.int .i64 S, .slice ao n cap, .slice ao2 n2 cap2, .slice ao3 n3 cap3], .slice a4 n4 c4] w fun e w' => e = .returned (.tuple #[.agg #[.int .i64 (wiV S Ls Hs Ts l).1, .string (wiV S Ls Hs Ts l).2.1, .int .i64 (wiV S Ls Hs Ts l).2.2], noV (wiN S Ls Hs Ts l)]) ∧ Below w.heap.size w w' := by
  obtain ⟨R, hR⟩ : ∃ R, R = wiN S Ls Hs Ts l := ⟨_, rfl⟩
  obtain ⟨V, hV⟩ : ∃ V, V = wiV S Ls Hs Ts l := ⟨_, rfl⟩
  have HR : Hid (R = wiN S Ls Hs Ts l) := hR
  have HV : Hid (V = wiV S Ls Hs Ts l) := hV
  rw [← hR, ← hV]
  have HLW : Hid (∀ W, Below w.heap.size w W → GS lnkE W (.slice ao n cap) Ls) := fun W hb => hL.later hb
  have HHW : Hid (∀ W, Below w.heap.size w W → GS hstE W (.slice ao2 n2 cap2) Hs) := fun W hb => hH.later hb
  have HTW : Hid (∀ W, Below w.heap.size w W → TS W (.slice ao3 n3 cap3) Ts) := fun W hb => hT.later hb
  have HlW : Hid (∀ W, Below w.heap.size w W → GS wisE W (.slice a4 n4 c4) l) := fun W hb => hl.later hb
  have hX := hobox_new w S (.slice ao n cap) (.slice ao2 n2 cap2) (.slice ao3 n3 cap3)
  obtain ⟨w0, hw0⟩ : ∃ W, (w.alloc (Obj.cells #[.int .i64 S, .slice ao n cap, .slice ao2 n2 cap2, .slice ao3 n3 cap3] 28)).alloc (Obj.cells #[.int .i64 0, .string ⟨#[]⟩, .int .i64 0] 50) = W := ⟨_, rfl⟩
  rw [hw0] at hX
  have HX : Hid (HoBox w w0 S (.slice ao n cap) (.slice ao2 n2 cap2) (.slice ao3 n3 cap3)) := hX
  have HW0 : Hid ((w.alloc (Obj.cells #[.int .i64 S, .slice ao n cap, .slice ao2 n2 cap2, .slice ao3 n3 cap3] 28)).alloc (Obj.cells #[.int .i64 0, .string ⟨#[]⟩, .int .i64 0] 50) = w0) := hw0
  clear hL hH hT hl hR hV hX hw0
  go_enter Tryz.func13, Tryz.ntmps13
  go_upto_region 1 with fail
  rw [HW0.out]
  obtain ⟨_, ⟨b0, b1, b2, b3⟩, _⟩ := HX.out
  clear HW0
  go_wp2_with fail
  refine (ncheck_any S ao n cap ao2 n2 cap2 ao3 n3 cap3 Ls Hs Ts _ (HLW.out _ HX.out.below) (HHW.out _ HX.out.below) (HTW.out _ HX.out.below)).mono ?_
  rintro e w1 ⟨rfl, hb1⟩
  obtain ⟨T, hT⟩ : ∃ T, T = ntN S Ls Hs Ts := ⟨_, rfl⟩
  have HT : Hid (T = ntN S Ls Hs Ts) := hT
  rw [← hT]
  have HX1 : Hid (HoBox w w1 S (.slice ao n cap) (.slice ao2 n2 cap2) (.slice ao3 n3 cap3)) := HX.out.later hb1
  clear hT hb1 HX b0 b1 b2 b3
  by_cases h0 : T = 0
  · have HN0 : Hid (ntN S Ls Hs Ts = 0) := HT.out.symm.trans h0
    subst h0
    rw [no_ok rfl]
    obtain ⟨_, ⟨b0, b1, b2, b3⟩, _⟩ := HX1.out
    go_wp2_with fail
    refine (wcheck_any S ao n cap ao2 n2 cap2 a4 n4 c4 Ls Hs l _ (HLW.out _ HX1.out.below) (HHW.out _ HX1.out.below) (HlW.out _ HX1.out.below)).mono ?_
    rintro e w2 ⟨rfl, hb2⟩
    obtain ⟨U, hU⟩ : ∃ U, U = wsN S Ls Hs l := ⟨_, rfl⟩
    have HU : Hid (U = wsN S Ls Hs l) := hU
    rw [← hU]
    have HX2 : Hid (HoBox w w2 S (.slice ao n cap) (.slice ao2 n2 cap2) (.slice ao3 n3 cap3)) := HX1.out.later hb2
    clear hU hb2 HX1 b0 b1 b2 b3
    by_cases h5 : U = 0
    · have HU0 : Hid (wsN S Ls Hs l = 0) := HU.out.symm.trans h5
      subst h5
      rw [no_ok rfl]
      obtain ⟨_, ⟨b0, b1, b2, b3⟩, _⟩ := HX2.out
      have hlw : w.heap.size < w2.heap.size := World.block_lt_of_cell? _ _ b0
      go_wp2_with fail
      refine (broken_any w.heap.size S ao n cap ao2 n2 cap2 ao3 n3 cap3 a4 n4 c4 Ls Hs Ts l _ ⟨HX2.out.n, HLW.out _ HX2.out.below, HHW.out _ HX2.out.below, HTW.out _ HX2.out.below⟩ HN0.out (HlW.out _ HX2.out.below)).mono ?_
      rintro e w3 ⟨rfl, hb3⟩
      obtain ⟨O, hO⟩ : ∃ O, O = brW Ls Hs Ts l Hs l.length := ⟨_, rfl⟩
      have HRO : Hid (R = if O.isSome then 9 else 0) := by
        show _ = _
        rw [HR.out, wiN, if_pos HN0.out, if_pos HU0.out, hO]
      have HVO : Hid (V = prV Hs O) := by
        show _ = _
        rw [HV.out, wiV, if_pos ⟨HN0.out, HU0.out⟩, hO]
      rw [← hO, ← HVO.out]
      have HX3 : Hid (HoBox w w3 S (.slice ao n cap) (.slice ao2 n2 cap2) (.slice ao3 n3 cap3)) := HX2.out.later hb3
      obtain ⟨V1, hV1⟩ : ∃ q, q = V.1 := ⟨_, rfl⟩
      obtain ⟨V2, hV2⟩ : ∃ q, q = V.2.1 := ⟨_, rfl⟩
      obtain ⟨V3, hV3⟩ : ∃ q, q = V.2.2 := ⟨_, rfl⟩
      have HVV : Hid (V.1 = V1 ∧ V.2.1 = V2 ∧ V.2.2 = V3) := ⟨hV1.symm, hV2.symm, hV3.symm⟩
      rw [← hV1, ← hV2, ← hV3]
      have hal : Below w3.heap.size w3 (w3.alloc (Obj.cells #[.int .i64 V1, .string V2, .int .i64 V3] 50)) := (Below.refl _ _).alloc (Nat.le_refl _) _
      have hpr := prbox_new w3 w V1 V2 V3
      have hX4 := HX3.out.later hal
      obtain ⟨w4, hw4⟩ : ∃ W, w3.alloc (Obj.cells #[.int .i64 V1, .string V2, .int .i64 V3] 50) = W := ⟨_, rfl⟩
      obtain ⟨gp, hgp⟩ : ∃ q, q = w3.heap.size := ⟨_, rfl⟩
      rw [hw4] at hal hpr hX4
      rw [← hgp] at hpr
      have HW4 : Hid (w3.alloc (Obj.cells #[.int .i64 V1, .string V2, .int .i64 V3] 50) = w4) := hw4
      have HGP : Hid (w3.heap.size = gp) := hgp.symm
      have HLP : Hid (w.heap.size + 1 < gp) := by
        show _ < _
        rw [hgp]
        have h1 := World.block_lt_of_cell? _ _ HX3.out.p.c0
        simpa using h1
      have HPR : Hid (PrBox w w4 gp V1 V2 V3) := hpr
      have HX4 : Hid (HoBox w w4 S (.slice ao n cap) (.slice ao2 n2 cap2) (.slice ao3 n3 cap3)) := hX4
      clear hb3 hO hV1 hV2 hV3 hal hpr hX4 hw4 hgp b0 b1 b2 b3 HX2
      obtain ⟨B, hB⟩ : ∃ B, B = O.isSome := ⟨_, rfl⟩
      have HBO : Hid (O.isSome = B) := hB.symm
      rw [← hB]
      clear hB
      go_upto_region 8 with fail
      rw [HW4.out, HGP.out]
      clear HW4 HGP
      obtain ⟨hB4, _, ⟨r0, r1, r2, rf⟩⟩ := HX4.out
      have f0 := rf 0
      have f1 := rf 1
      have f2 := rf 2
      have HB4 : Hid (Below w.heap.size w w4) := hB4
      obtain ⟨p0, p1, p2, _⟩ := HPR.out
      clear hB4 rf
      cases B with
      | true =>
        have HR9 : Hid (R = 9) := by
          show _ = _
          rw [HRO.out, HBO.out, if_pos rfl]
        go_wp2
        refine bodyPost_ret (v := .tuple #[.agg #[.int .i64 V1, .string V2, .int .i64 V3], .iface 57 (.int .i64 9)]) (by simp [results, Tryz.results13, go_sem, *]) rfl ⟨by rw [HR9.out, HVV.out.1, HVV.out.2.1, HVV.out.2.2]; rfl, below_put3 HB4.out _ (by omega) _ _ _⟩
      | false =>
        have HR9 : Hid (R = 0) := by
          show _ = _
          rw [HRO.out, HBO.out, if_neg (by decide)]
        have HVZ : Hid (V = (0, ByteArray.empty, 0)) := by
          show _ = _
          rw [HVO.out]
          cases O with
          | none => rfl
          | some p => have := HBO.out; simp at this
        go_wp2
        refine bodyPost_ret (v := .tuple #[.agg #[.int .i64 0, .string ⟨#[]⟩, .int .i64 0], .nilIface]) (by simp [results, Tryz.results13, go_sem, *]) rfl ⟨by rw [HR9.out, HVZ.out]; rfl, below_put3 HB4.out _ (by omega) _ _ _⟩
    · rw [no_ne h5]
      have HNE : Hid (U ≠ 0) := h5
      have HR1 : Hid (R = U) := by
        show _ = _
        rw [HR.out, wiN, if_pos HN0.out, if_neg (by rw [← HU.out]; exact h5), HU.out]
      have HV1 : Hid (V = (0, ByteArray.empty, 0)) := by
        show _ = _
        rw [HV.out, wiV, if_neg (fun h => h5 (HU.out.trans h.2))]
      obtain ⟨hB2, _, ⟨r0, r1, r2, rf⟩⟩ := HX2.out
      have f0 := rf 0
      have f1 := rf 1
      have f2 := rf 2
      have HB2 : Hid (Below w.heap.size w w2) := hB2
      clear h5 hB2 rf
      go_wp2
      refine bodyPost_ret (v := .tuple #[.agg #[.int .i64 0, .string ⟨#[]⟩, .int .i64 0], .iface 57 (.int .i64 U)]) (by simp [results, Tryz.results13, go_sem, *]) rfl ⟨by rw [HR1.out, HV1.out, no_ne HNE.out]; rfl, below_put3 HB2.out _ (by omega) _ _ _⟩
  · rw [no_ne h0]
    have HNE : Hid (T ≠ 0) := h0
    have HR1 : Hid (R = T) := by
      show _ = _
      rw [HR.out, wiN, if_neg (by rw [← HT.out]; exact h0), HT.out]
    have HV1 : Hid (V = (0, ByteArray.empty, 0)) := by
      show _ = _
      rw [HV.out, wiV, if_neg (fun h => h0 (HT.out.trans h.1))]
    obtain ⟨hB2, _, ⟨r0, r1, r2, rf⟩⟩ := HX1.out
    have f0 := rf 0
    have f1 := rf 1
    have f2 := rf 2
    have HB2 : Hid (Below w.heap.size w w1) := hB2
    clear h0 hB2 rf
    go_wp2
    refine bodyPost_ret (v := .tuple #[.agg #[.int .i64 0, .string ⟨#[]⟩, .int .i64 0], .iface 57 (.int .i64 T)]) (by simp [results, Tryz.results13, go_sem, *]) rfl ⟨by rw [HR1.out, HV1.out, no_ne HNE.out]; rfl, below_put3 HB2.out _ (by omega) _ _ _⟩
end Go.Proofs.YtpmcjelihdlfeaaGreatDoor
/- What railref1.Holds answers: a contract for the walks above it. -/
namespace Go.Proofs.YtpmcjelihdlfeaaGreatDoor
open Go.RowKit
set_option linter.unusedSimpArgs false
set_option linter.unusedVariables false

theorem cp_of {S : Int} {Ls : List ((Int × Int) × (Int × Int))} {Hs : List (ByteArray × (Int × Int))} {Ts : List (List Ru)} {s : Int × Int} {h : Nat} (h1 : ntN S Ls Hs Ts = 0) (h2 : spB S s = true) (h3 : h < 16) : cpN S Ls Hs Ts s (h : Int) = 0 := by
  have : ∀ f : Fin 16, hdrB ((f : Nat) : Int) = true := by decide +kernel
  rw [cpN, if_pos h1, h2, this ⟨h, h3⟩]
  rfl

set_option maxHeartbeats 16000000 in
set_option maxRecDepth 100000 in
theorem rholds_any (S : Int) (ao : Option Addr) (n cap : Nat) (ao2 : Option Addr) (n2 cap2 : Nat) (ao3 : Option Addr) (n3 cap3 : Nat) (a4 : Option Addr) (n4 c4 : Nat) (Ls : List ((Int × Int) × (Int × Int))) (Hs : List (ByteArray × (Int × Int))) (Ts : List (List Ru)) (l : List Wi) (w : World)
    (hL : GS lnkE w (.slice ao n cap) Ls) (hH : GS hstE w (.slice ao2 n2 cap2) Hs) (hT : TS w (.slice ao3 n3 cap3) Ts) (hl : GS wisE w (.slice a4 n4 c4) l) (hN : ntN S Ls Hs Ts = 0) :
    Calls Tryz.prog 12 #[.agg #[.int .i64 S, .slice ao n cap, .slice ao2 n2 cap2, .slice ao3 n3 cap3], .slice a4 n4 c4] w fun e w' => e = .returned (.tuple #[.agg #[.int .i64 (prV Hs (brW Ls Hs Ts l Hs l.length)).1, .string (prV Hs (brW Ls Hs Ts l Hs l.length)).2.1, .int .i64 (prV Hs (brW Ls Hs Ts l Hs l.length)).2.2], .bool (brW Ls Hs Ts l Hs l.length).isNone]) ∧ Below w.heap.size w w' := by
  have HLW : Hid (∀ W, Below w.heap.size w W → GS lnkE W (.slice ao n cap) Ls) := fun W hb => hL.later hb
  have HHW : Hid (∀ W, Below w.heap.size w W → GS hstE W (.slice ao2 n2 cap2) Hs) := fun W hb => hH.later hb
  have HTW : Hid (∀ W, Below w.heap.size w W → TS W (.slice ao3 n3 cap3) Ts) := fun W hb => hT.later hb
  have hX := hobox_new w S (.slice ao n cap) (.slice ao2 n2 cap2) (.slice ao3 n3 cap3)
  obtain ⟨w0, hw0⟩ : ∃ W, (w.alloc (Obj.cells #[.int .i64 S, .slice ao n cap, .slice ao2 n2 cap2, .slice ao3 n3 cap3] 28)).alloc (Obj.cells #[.int .i64 0, .string ⟨#[]⟩, .int .i64 0] 50) = W := ⟨_, rfl⟩
  rw [hw0] at hX
  have HX : Hid (HoBox w w0 S (.slice ao n cap) (.slice ao2 n2 cap2) (.slice ao3 n3 cap3)) := hX
  have HW0 : Hid ((w.alloc (Obj.cells #[.int .i64 S, .slice ao n cap, .slice ao2 n2 cap2, .slice ao3 n3 cap3] 28)).alloc (Obj.cells #[.int .i64 0, .string ⟨#[]⟩, .int .i64 0] 50) = w0) := hw0
  have HB0 : Hid (Below w.heap.size w w0) := hX.below
  have HN : Hid (ntN S Ls Hs Ts = 0) := hN
  obtain ⟨_, _, _, e5, hGn, hGm, _, hGa⟩ := hl.form
  cases e5
  obtain ⟨_, _, _, e6, hHn, hHm, _, hHa⟩ := hH.form
  cases e6
  have HGN : Hid (l.length = n4) := hGn
  have HGA : Hid (0 < n4 → ∃ g o, a4 = some ⟨g, o, none⟩ ∧ GAt wisE w g o l ∧ c4 ≤ maxLen) := hGa
  have HHN : Hid (Hs.length = n2) := hHn
  have HHA : Hid (0 < n2 → ∃ g o, ao2 = some ⟨g, o, none⟩ ∧ GAt hstE w g o Hs ∧ cap2 ≤ maxLen) := hHa
  have HHG : Hid (∀ h ∈ Hs, nmB h.1 = true ∧ spB S h.2 = true) := (tp_0 (nt_0 hN).1).2.2.2.2.1
  obtain ⟨R, hR⟩ : ∃ R, R = brW Ls Hs Ts l Hs l.length := ⟨_, rfl⟩
  have HR : Hid (brW Ls Hs Ts l Hs n4 = R) := by
    show _ = _
    rw [hR, hGn]
  have HRL : Hid (brW Ls Hs Ts l Hs l.length = R) := hR.symm
  rw [← hR]
  have hn4 : n4 ≤ maxLen := hGm
  have hn2 : n2 ≤ maxLen := hHm
  unfold maxLen at hn4 hn2
  clear hL hH hT hl hX hw0 hN hGn hGm hGa hHn hHm hHa hR
  go_enter Tryz.func12, Tryz.ntmps12
  go_upto_region 1 with fail
  rw [HW0.out]
  clear HW0
  go_wp2
  go_loopw [6] (fun i wr => ∃ j : Nat, j ≤ n4 ∧ i = .int .i64 j ∧ brW Ls Hs Ts l Hs j = none ∧ Below w0.heap.size w0 wr) (fun i _ => n4 - (intOf i).toNat)
  case atStart => exact ⟨0, by omega, rfl, rfl, Below.refl _ _⟩
  case round =>
    obtain ⟨j, hj, rfl, hno, hB⟩ := hrel
    obtain ⟨w1, hw1⟩ : ∃ X, X = wr := ⟨_, rfl⟩
    subst hw1
    have HB : Hid (Below w0.heap.size w0 w1) := hB
    have HBw : Hid (Below w.heap.size w w1) := HB0.out.trans (hB.mono HB0.out.size)
    have HNO : Hid (brW Ls Hs Ts l Hs j = none) := hno
    clear hno hB
    by_cases hlt : j < n4
    · obtain ⟨g1, o1, hao, hc, _⟩ := HGA.out (by omega)
      subst hao
      obtain ⟨y0, y1, y2, y3, hkl, hLk, _, _, _, _⟩ := wis_at hc HGN.out hlt
      have HLK : Hid (l[j] = ⟨y0, y1, y2, y3⟩) := hLk
      have HYC : Hid (∀ W, Below w.heap.size w W → W.cell? ⟨g1, o1 + j * 4, none⟩ = some (.int .i64 y0) ∧ W.cell? ⟨g1, o1 + j * 4 + 1, none⟩ = some (.string y1) ∧ W.cell? ⟨g1, o1 + j * 4 + 2, none⟩ = some (.string y2) ∧ W.cell? ⟨g1, o1 + j * 4 + 3, none⟩ = some (.int .i64 y3)) := fun W hW => by
        obtain ⟨a0, a1, a2, a3, b1, b2, q0, q1, q2, q3⟩ := wis_at (hc.later hW) HGN.out hlt
        rw [hLk] at b2
        cases b2
        exact ⟨q0, q1, q2, q3⟩
      obtain ⟨X, hX⟩ : ∃ q, q = brX Ls Hs Ts ⟨y0, y1, y2, y3⟩ Hs Hs.length := ⟨_, rfl⟩
      have HXX : Hid (brX Ls Hs Ts ⟨y0, y1, y2, y3⟩ Hs Hs.length = X) := hX.symm
      have kb0 : (0 : Int) ≤ (j : Int) := by omega
      have kb1 : (j : Int) < (n4 : Int) := by omega
      clear hc hLk hX
      go_upto_region 4 with fail
      go_wp2
      go_loopw [7] (fun i wr => ∃ z : Nat, z ≤ n2 ∧ i = .int .i64 z ∧ brX Ls Hs Ts ⟨y0, y1, y2, y3⟩ Hs z = none ∧ Below w1.heap.size w1 wr) (fun i _ => n2 - (intOf i).toNat)
      case atStart => exact ⟨0, by omega, rfl, rfl, Below.refl _ _⟩
      case round =>
        obtain ⟨z, hz, rfl, hno, hB⟩ := hrel
        obtain ⟨w2, hw2⟩ : ∃ X, X = wr := ⟨_, rfl⟩
        subst hw2
        have HB2 : Hid (Below w1.heap.size w1 w2) := hB
        have HB02 : Hid (Below w0.heap.size w0 w2) := HB.out.trans (hB.mono HB.out.size)
        have HBw2 : Hid (Below w.heap.size w w2) := HB0.out.trans (HB02.out.mono HB0.out.size)
        have HNO2 : Hid (brX Ls Hs Ts ⟨y0, y1, y2, y3⟩ Hs z = none) := hno
        obtain ⟨_, ⟨b0, b1, b2, b3⟩, _⟩ := HX.out.later HB02.out
        have hlw : w.heap.size < w2.heap.size := World.block_lt_of_cell? _ _ b0
        clear hno hB
        by_cases hlt2 : z < n2
        · obtain ⟨g2, o2, hao2, hc2, _⟩ := HHA.out (by omega)
          subst hao2
          obtain ⟨z0, z1, z2, hzl, hZk, p0, p1, p2⟩ := hst_at (hc2.later HBw2.out) HHN.out hlt2
          have HZK : Hid (Hs[z] = (z0, (z1, z2))) := hZk
          have hmem : (z0, (z1, z2)) ∈ Hs := by
            rw [← hZk]
            exact List.getElem_mem hzl
          have HSP : Hid (spB S (z1, z2) = true) := (HHG.out _ hmem).2
          have zb0 : (0 : Int) ≤ (z : Int) := by omega
          have zb1 : (z : Int) < (n2 : Int) := by omega
          have hba : Below w2.heap.size w2 (w2.alloc (Obj.cells #[Value.string z0, Value.int IntKind.i64 z1, Value.int IntKind.i64 z2] 82)) := (Below.refl _ _).alloc (Nat.le_refl _) _
          have hhb := hsbox_new w2 z0 z1 z2 82
          obtain ⟨w4, hw4⟩ : ∃ W, w2.alloc (Obj.cells #[Value.string z0, Value.int IntKind.i64 z1, Value.int IntKind.i64 z2] 82) = W := ⟨_, rfl⟩
          obtain ⟨gh, hgh⟩ : ∃ q, q = w2.heap.size := ⟨_, rfl⟩
          rw [hw4] at hba hhb
          rw [← hgh] at hhb
          have HW4 : Hid (w2.alloc (Obj.cells #[Value.string z0, Value.int IntKind.i64 z1, Value.int IntKind.i64 z2] 82) = w4) := hw4
          have HGH : Hid (w2.heap.size = gh) := hgh.symm
          have HHB : Hid (HsBox w4 gh z0 z1 z2) := hhb
          have HB24 : Hid (Below w1.heap.size w1 w4) := HB2.out.trans (hba.mono HB2.out.size)
          have HB04 : Hid (Below w0.heap.size w0 w4) := HB02.out.trans (hba.mono HB02.out.size)
          have HBw4 : Hid (Below w.heap.size w w4) := HBw2.out.trans (hba.mono HBw2.out.size)
          have HLH : Hid (w.heap.size + 1 < gh) := by
            show _ < _
            rw [hgh]
            have h1 := World.block_lt_of_cell? _ _ (HX.out.later HB02.out).p.c0
            simpa using h1
          clear hc2 hZk hmem hba hhb hw4 hgh
          go_upto_region 8 with fail
          rw [HW4.out, HGH.out]
          clear HW4 HGH p0 p1 p2 b0 b1 b2 b3 hlw
          go_wp2
          go_loopw [9] (fun i wr => ∃ q : Nat, q ≤ 16 ∧ i = .int .i64 q ∧ brH Ls Hs Ts ⟨y0, y1, y2, y3⟩ (z0, (z1, z2)) q < 0 ∧ Below w4.heap.size w4 wr) (fun i _ => 16 - (intOf i).toNat)
          case atStart => exact ⟨0, by omega, rfl, by simp [brH], Below.refl _ _⟩
          case round =>
            obtain ⟨q, hq, rfl, hno, hB⟩ := hrel
            obtain ⟨wi, hwi⟩ : ∃ X, X = wr := ⟨_, rfl⟩
            subst hwi
            have HB4 : Hid (Below w4.heap.size w4 wi) := hB
            have HB0i : Hid (Below w0.heap.size w0 wi) := HB04.out.trans (hB.mono HB04.out.size)
            have HB1i : Hid (Below w1.heap.size w1 wi) := HB24.out.trans (hB.mono HB24.out.size)
            have HBwi : Hid (Below w.heap.size w wi) := HBw4.out.trans (hB.mono HBw4.out.size)
            have HNO4 : Hid (brH Ls Hs Ts ⟨y0, y1, y2, y3⟩ (z0, (z1, z2)) q < 0) := hno
            have HHBi : Hid (HsBox wi gh z0 z1 z2) := HHB.out.later hB
            clear hno hB
            by_cases hlt4 : q < 16
            · obtain ⟨P, hP⟩ : ∃ u, u = fiB ⟨y0, y1, y2, y3⟩ z0 (frF Ls Hs Ts (z1, z2) (q : Int)) := ⟨_, rfl⟩
              have HP : Hid (fiB ⟨y0, y1, y2, y3⟩ z0 (frF Ls Hs Ts (z1, z2) (q : Int)) = P) := hP.symm
              have HCP : Hid (cpN S Ls Hs Ts (z1, z2) (q : Int) = 0) := cp_of HN.out HSP.out hlt4
              clear hP
              go_upto_region 11 with fail
              rw [show decide ((q : Int) < 16) = true from by simp; omega]
              have HFR : Hid (∀ W, Below wi.heap.size wi W → Calls Tryz.prog 32 #[.agg #[.int .i64 S, .slice ao n cap, .slice (some ⟨g2, o2, none⟩) n2 cap2, .slice ao3 n3 cap3], .agg #[.int .i64 z1, .int .i64 z2], .int .i64 (q : Int)] W fun e w' => ∃ ao4 n4 cap4, e = .returned (.agg #[.int .i64 (frF Ls Hs Ts (z1, z2) (q : Int)).1, .string (frF Ls Hs Ts (z1, z2) (q : Int)).2.1, .slice ao4 n4 cap4]) ∧ GS hopE w' (.slice ao4 n4 cap4) (frF Ls Hs Ts (z1, z2) (q : Int)).2.2 ∧ Below wi.heap.size wi w') := fun W hW => by
                have hWw := HBwi.out.trans (hW.mono HBwi.out.size)
                refine (rfrom_any S ao n cap _ n2 cap2 ao3 n3 cap3 Ls Hs Ts z1 z2 (q : Int) W (HLW.out _ hWw) (HHW.out _ hWw) (HTW.out _ hWw) HCP.out).mono ?_
                rintro e w' ⟨ao5, n5, cap5, h1, h2, h3, _⟩
                exact ⟨ao5, n5, cap5, h1, h2, hW.trans (h3.mono hW.size)⟩
              have HMK : Hid (∀ W, Below wi.heap.size wi W → Below wi.heap.size wi W ∧ W.cell? ⟨w.heap.size, 0, none⟩ = some (.int .i64 S) ∧ W.cell? ⟨w.heap.size, 1, none⟩ = some (.slice ao n cap) ∧ W.cell? ⟨w.heap.size, 2, none⟩ = some (.slice (some ⟨g2, o2, none⟩) n2 cap2) ∧ W.cell? ⟨w.heap.size, 3, none⟩ = some (.slice ao3 n3 cap3) ∧ W.cell? ⟨g1, o1 + j * 4, none⟩ = some (.int .i64 y0) ∧ W.cell? ⟨g1, o1 + j * 4 + 1, none⟩ = some (.string y1) ∧ W.cell? ⟨g1, o1 + j * 4 + 2, none⟩ = some (.string y2) ∧ W.cell? ⟨g1, o1 + j * 4 + 3, none⟩ = some (.int .i64 y3) ∧ W.cell? ⟨gh, 0, none⟩ = some (.string z0) ∧ W.cell? ⟨gh, 1, none⟩ = some (.int .i64 z1) ∧ W.cell? ⟨gh, 2, none⟩ = some (.int .i64 z2)) := fun W hW => by
                have hWw := HBwi.out.trans (hW.mono HBwi.out.size)
                obtain ⟨c0, c1, c2, c3⟩ := (HX.out.later (HB0i.out.trans (hW.mono HB0i.out.size))).n
                obtain ⟨d0, d1, d2, d3⟩ := HYC.out W hWw
                obtain ⟨s0, s1, s2⟩ := HHBi.out.later hW
                exact ⟨hW, c0, c1, c2, c3, d0, d1, d2, d3, s0, s1, s2⟩
              have hm0 := HMK.out wi (Below.refl _ _)
              obtain ⟨_, c0, c1, c2, c3, d0, d1, d2, d3, s0, s1, s2⟩ := hm0
              go_cut [10] from 35 to 47 (fun b w' => b = .bool P ∧ Below wi.heap.size wi w')
              case first =>
                go_region_held3 (fun W => Below wi.heap.size wi W ∧ W.cell? ⟨w.heap.size, 0, none⟩ = some (.int .i64 S) ∧ W.cell? ⟨w.heap.size, 1, none⟩ = some (.slice ao n cap) ∧ W.cell? ⟨w.heap.size, 2, none⟩ = some (.slice (some ⟨g2, o2, none⟩) n2 cap2) ∧ W.cell? ⟨w.heap.size, 3, none⟩ = some (.slice ao3 n3 cap3) ∧ W.cell? ⟨g1, o1 + j * 4, none⟩ = some (.int .i64 y0) ∧ W.cell? ⟨g1, o1 + j * 4 + 1, none⟩ = some (.string y1) ∧ W.cell? ⟨g1, o1 + j * 4 + 2, none⟩ = some (.string y2) ∧ W.cell? ⟨g1, o1 + j * 4 + 3, none⟩ = some (.int .i64 y3) ∧ W.cell? ⟨gh, 0, none⟩ = some (.string z0) ∧ W.cell? ⟨gh, 1, none⟩ = some (.int .i64 z1) ∧ W.cell? ⟨gh, 2, none⟩ = some (.int .i64 z2))
                  (first | assumption | exact HMK.out _ (Below.drew (Below.refl _ _)) | exact HMK.out _ HBY.out | exact HMK.out _ HBX.out)
                  (first | (go_at_call 32; refine (HFR.out _ (by first | exact Below.drew (Below.refl _ _) | exact Below.refl _ _)).mono ?_; rintro e w' ⟨ao5, n5, cap5, rfl, hG, hb⟩; have HBX : Hid (Below wi.heap.size wi w') := hb; have HGX : Hid (GS hopE w' (.slice ao5 n5 cap5) (frF Ls Hs Ts (z1, z2) (q : Int)).2.2) := hG; clear hb hG) | (go_at_call 15; refine (rfits_any y0 y1 y2 y3 z0 _ _ _ _ _ _ _ HGX.out).mono ?_; rintro e w'' ⟨rfl, hb⟩; have HBY : Hid (Below wi.heap.size wi w'') := HBX.out.trans (hb.mono HBX.out.size); clear hb))
                all_goals (go_wp2_with fail; go_meet)
                all_goals exact ⟨by rw [← HP.out], HBY.out⟩
              case rest =>
                obtain ⟨rfl, hbc⟩ := hcut
                have HBc : Hid (Below w4.heap.size w4 wc) := HB4.out.trans (hbc.mono HB4.out.size)
                have HB0c : Hid (Below w0.heap.size w0 wc) := HB0i.out.trans (hbc.mono HB0i.out.size)
                have HBwc : Hid (Below w.heap.size w wc) := HBwi.out.trans (hbc.mono HBwi.out.size)
                have HHBc : Hid (HsBox wc gh z0 z1 z2) := HHBi.out.later hbc
                clear hbc c0 c1 c2 c3 d0 d1 d2 d3 s0 s1 s2 HFR HMK
                cases P with
                | true =>
                  have hbr : brB Ls Hs Ts ⟨y0, y1, y2, y3⟩ (z0, (z1, z2)) (q : Int) = false := by rw [brB, HP.out]; rfl
                  have HBR : Hid (brH Ls Hs Ts ⟨y0, y1, y2, y3⟩ (z0, (z1, z2)) (q + 1) < 0) := brH_no HNO4.out hbr
                  clear hbr
                  go_wp2
                  go_roundw
                  case rel => exact ⟨q + 1, by omega, by go_num, HBR.out, HBc.out⟩
                  case measure => simp [intOf]; omega
                | false =>
                  have hbr : brB Ls Hs Ts ⟨y0, y1, y2, y3⟩ (z0, (z1, z2)) (q : Int) = true := by rw [brB, HP.out]; rfl
                  have HN4 : Hid (brH Ls Hs Ts ⟨y0, y1, y2, y3⟩ (z0, (z1, z2)) 16 = (q : Int)) := brH_yes hlt4 HNO4.out hbr
                  have HXS : Hid (X = some (z, (q : Int))) := by
                    show _ = _
                    rw [← HXX.out, brX_yes hzl HNO2.out (by rw [HZK.out, HN4.out]; omega), HZK.out, HN4.out]
                  have HRS : Hid (R = some (j, z, (q : Int))) := by
                    show _ = _
                    rw [← HRL.out, brW_yes hkl HNO.out (p := (z, (q : Int))) (by rw [HLK.out, HXX.out, HXS.out])]
                  have HPV : Hid (prV Hs (some (j, z, (q : Int))) = ((j : Int), z0, (q : Int))) := by
                    show _ = _
                    rw [prV]
                    simp only
                    rw [getO hzl, HZK.out]
                  obtain ⟨s0, s1, s2⟩ := HHBc.out
                  obtain ⟨r0, r1, r2, rf⟩ := (HX.out.later HB0c.out).p
                  have f0 := rf 0
                  have f1 := rf 1
                  have f2 := rf 2
                  clear rf hbr
                  go_wp2
                  refine bodyPost_ret (v := .tuple #[.agg #[.int .i64 (j : Int), .string z0, .int .i64 (q : Int)], .bool false]) (by simp [results, Tryz.results12, go_sem, *]) rfl ⟨by rw [HRS.out, HPV.out]; rfl, below_put3 HBwc.out _ (by omega) _ _ _⟩
            · obtain rfl : q = 16 := by omega
              have HXN : Hid (brX Ls Hs Ts ⟨y0, y1, y2, y3⟩ Hs (z + 1) = none) := brX_no hzl HNO2.out (by rw [HZK.out]; exact HNO4.out)
              go_wp2
              go_roundw
              case rel => exact ⟨z + 1, by omega, by go_num, HXN.out, HB1i.out⟩
              case measure => simp [intOf]; omega
        · obtain rfl : z = n2 := by omega
          have HWN : Hid (brW Ls Hs Ts l Hs (j + 1) = none) := brW_no hkl HNO.out (by rw [HLK.out, HHN.out]; exact HNO2.out)
          go_wp2
          go_roundw
          case rel => exact ⟨j + 1, by omega, by go_num, HWN.out, HB02.out⟩
          case measure => simp [intOf]; omega
    · obtain rfl : j = n4 := by omega
      have HRN : Hid (R = none) := by
        show _ = _
        rw [← HR.out, HNO.out]
      obtain ⟨r0, r1, r2, rf⟩ := (HX.out.later HB.out).p
      have f0 := rf 0
      have f1 := rf 1
      have f2 := rf 2
      clear rf
      go_wp2
      refine bodyPost_ret (v := .tuple #[.agg #[.int .i64 0, .string ⟨#[]⟩, .int .i64 0], .bool true]) (by simp [results, Tryz.results12, go_sem, *]) rfl ⟨by rw [HRN.out]; rfl, below_put3 HBw.out _ (by omega) _ _ _⟩
end Go.Proofs.YtpmcjelihdlfeaaGreatDoor
/- A text cut at all its blanks, in plain bytes: no program in it. -/
namespace Go.Proofs.YtpmcjelihdlfeaaGreatDoor
open Go.RowKit

theorem bl_len (s : ByteArray) {i : Nat} (h : blAt s = i) : i < s.size := by
  rcases bl_cases s with h' | ⟨j, h', hj⟩
  · omega
  · rw [h'] at h
    have : j = i := by omega
    omega
theorem cut_fuel : ∀ (k : Nat) (s : ByteArray), s.size ≤ k → cutB (k + 1) s = cutB k s
  | 0, s, h => by
    rcases bl_cases s with h' | ⟨i, _, hi⟩
    · rw [cut_miss _ h', cut_miss _ h']
    · omega
  | k + 1, s, h => by
    rcases bl_cases s with h' | ⟨i, h', hi⟩
    · rw [cut_miss _ h', cut_miss _ h']
    · rw [cut_hit _ h', cut_hit _ h', cut_fuel k _ (by rw [ByteArray.size_extract]; omega)]
theorem cut_more {s : ByteArray} {k : Nat} (h : s.size ≤ k) : ∀ d, cutB (k + d) s = cutB k s
  | 0 => rfl
  | d + 1 => by rw [← Nat.add_assoc, cut_fuel (k + d) s (by omega), cut_more h d]
/-- All words of a text. -/
def cutA (s : ByteArray) : List ByteArray := cutB s.size s
theorem cutA_of {s : ByteArray} {k : Nat} (h : s.size ≤ k) : cutB k s = cutA s := by
  obtain ⟨d, rfl⟩ : ∃ d, k = s.size + d := ⟨k - s.size, by omega⟩
  exact cut_more (Nat.le_refl _) d
/-- Where there are few words, the first ones are all; where there are more than k, there are k and one with the rest. -/
theorem cut_few : ∀ (k : Nat) (s : ByteArray), ((cutA s).length ≤ k + 1 → cutB k s = cutA s) ∧ (k + 1 < (cutA s).length → (cutB k s).length = k + 1)
  | 0, s => by
    constructor
    · intro h
      rcases bl_cases s with h' | ⟨i, h', hi⟩
      · rw [cutA, cut_miss _ h', cut_miss _ h']
      · exfalso
        rw [← cutA_of (show s.size ≤ (s.size - 1) + 1 by omega), cut_hit _ h'] at h
        have := (cut_len (s.size - 1) (s.extract (i + 1) s.size)).2
        simp at h
        rw [h] at this
        simp at this
    · intro _; rfl
  | k + 1, s => by
    rcases bl_cases s with h' | ⟨i, h', hi⟩
    · rw [cutA, cut_miss _ h', cut_miss _ h']
      simp
    · have e : cutA s = s.extract 0 i :: cutA (s.extract (i + 1) s.size) := by
        rw [← cutA_of (show s.size ≤ (s.size - 1) + 1 by omega), cut_hit _ h']
        rw [cutA_of (by rw [ByteArray.size_extract]; omega)]
      rw [e, cut_hit _ h']
      obtain ⟨i1, i2⟩ := cut_few k (s.extract (i + 1) s.size)
      constructor
      · intro h
        rw [i1 (by simpa using h)]
      · intro h
        simp only [List.length_cons] at h ⊢
        rw [i2 (by omega)]
theorem cutA_hit {s : ByteArray} {i : Nat} (h : blAt s = i) : cutA s = s.extract 0 i :: cutA (s.extract (i + 1) s.size) := by
  have hi := bl_len s h
  rw [← cutA_of (show s.size ≤ (s.size - 1) + 1 by omega), cut_hit _ h]
  rw [cutA_of (by rw [ByteArray.size_extract]; omega)]
theorem cutA_miss {s : ByteArray} (h : blAt s = -1) : cutA s = [s] := cut_miss _ h
theorem cutA_len (s : ByteArray) : 1 ≤ (cutA s).length ∧ (cutA s).length ≤ s.size + 1 := ⟨(cut_len _ s).2, (cut_len _ s).1⟩

/-- No blank among the bytes from a place on, up to another one. -/
def noBl (s : ByteArray) (f i : Nat) : Prop := ∀ j, f ≤ j → j < i → byteN s j ≠ 32
theorem noBl_next {s : ByteArray} {f i : Nat} (h : noBl s f i) (h2 : byteN s i ≠ 32) : noBl s f (i + 1) := by
  intro j h1 hj
  by_cases e : j = i
  · subst e; exact h2
  · exact h j h1 (by omega)
theorem byteN_of {s : ByteArray} {j : Nat} (h : s.data.toList[j]? = some 32) : byteN s j = 32 := by
  rw [byteN, List.getD_eq_getElem?_getD, h]
  rfl
theorem byteN_is {s : ByteArray} {j : Nat} (hj : j < s.size) (h : byteN s j = 32) : s.data.toList[j]? = some 32 := by
  rw [byteN, List.getD_eq_getElem?_getD] at h
  rw [Lib.data_getElem? s j hj] at h ⊢
  simp only [Option.getD_some] at h
  rw [show s[j] = 32 from UInt8.toNat_inj.1 h]
theorem bl_from {s : ByteArray} {f i : Nat} (hfi : f ≤ i) (hi : i < s.size) (h : noBl s f i) (h2 : byteN s i = 32) : blAt (s.extract f s.size) = ((i - f : Nat) : Int) := by
  have e := Lib.extract_to_end s f
  have hit : (s.extract f s.size).data.toList[i - f]? = some 32 := by
    rw [e, List.getElem?_drop, show f + (i - f) = i by omega]
    exact byteN_is hi h2
  rcases bl_cases (s.extract f s.size) with h' | ⟨j, h', hj⟩
  · exact absurd hit (Lib.indexByte_none h' _)
  · rw [h']
    obtain ⟨a1, a2⟩ := Lib.indexByte_some h'
    have b1 : ¬ i - f < j := fun hlt => a2 _ hlt hit
    have b2 : ¬ j < i - f := fun hlt => by
      rw [e, List.getElem?_drop] at a1
      exact h (f + j) (by omega) (by omega) (byteN_of a1)
    have : j = i - f := by omega
    rw [this]
theorem bl_none {s : ByteArray} {f : Nat} (h : noBl s f s.size) : blAt (s.extract f s.size) = -1 := by
  rcases bl_cases (s.extract f s.size) with h' | ⟨j, h', hj⟩
  · exact h'
  · exfalso
    obtain ⟨a1, _⟩ := Lib.indexByte_some h'
    rw [ByteArray.size_extract] at hj
    rw [Lib.extract_to_end, List.getElem?_drop] at a1
    exact h (f + j) (by omega) (by omega) (byteN_of a1)
/-- A blank, the first from a place on: a word, and the rest. -/
theorem cutA_step {s : ByteArray} {f i : Nat} (hfi : f ≤ i) (hi : i < s.size) (h : noBl s f i) (h2 : byteN s i = 32) : cutA (s.extract f s.size) = s.extract f i :: cutA (s.extract (i + 1) s.size) := by
  rw [cutA_hit (bl_from hfi hi h h2)]
  congr 1
  · rw [ByteArray.extract_extract]
    congr 1 <;> omega
  · rw [ByteArray.extract_extract, ByteArray.size_extract]
    congr 2 <;> omega
theorem cutA_end {s : ByteArray} {f : Nat} (h : noBl s f s.size) : cutA (s.extract f s.size) = [s.extract f s.size] := cutA_miss (bl_none h)
end Go.Proofs.YtpmcjelihdlfeaaGreatDoor
/- Wishes as text, in plain bytes: what is shown, what is read, and that these are one another's. No program in it. -/
namespace Go.Proofs.YtpmcjelihdlfeaaGreatDoor
open Go.RowKit
set_option linter.unusedVariables false

theorem wa_ext {a b : ByteArray} (h : a.data.toList = b.data.toList) : a = b := by
  obtain ⟨⟨l⟩⟩ := a
  obtain ⟨⟨r⟩⟩ := b
  simp at h
  rw [h]
theorem wa_app (a b : ByteArray) : (a ++ b).data.toList = a.data.toList ++ b.data.toList := by simp [ByteArray.data_append]
theorem wa_as (a b c : ByteArray) : a ++ (b ++ c) = a ++ b ++ c := ByteArray.append_assoc.symm
/-- One blank. -/
def blW : ByteArray := ⟨#[32]⟩
theorem blW_lst : blW.data.toList = [32] := rfl
def reaS : ByteArray := ⟨#[114, 101, 97, 99, 104]⟩
def apaS : ByteArray := ⟨#[97, 112, 97, 114, 116]⟩
def wayS : ByteArray := ⟨#[119, 97, 121]⟩
def looS : ByteArray := ⟨#[108, 111, 111, 112, 115]⟩
/-- The word of a kind. -/
def woW (k : Int) : ByteArray := if k = 1 then reaS else if k = 2 then apaS else if k = 3 then wayS else if k = 4 then looS else ByteArray.empty
/-- The kind that a word means. -/
def whW (a : ByteArray) : Int := if a == ByteArray.empty then 0 else if a == reaS then 1 else if a == apaS then 2 else if a == wayS then 3 else if a == looS then 4 else 0
/-- Why a wish can't be written. -/
def shN (w : Wi) : Int :=
  if !wkB w.k || !viB w 6 then 1 else if (w.k != 4) && !(nmB w.f && nmB w.t) then 2 else if veB w || ((w.k == 4) && !nlB w) then 3 else 0
/-- The text of one that can. -/
def shT (w : Wi) : ByteArray :=
  if w.k = 4 then looS else if w.k = 3 then woW w.k ++ (blW ++ (w.f ++ (blW ++ (w.t ++ (blW ++ dgS w.v))))) else woW w.k ++ (blW ++ (w.f ++ (blW ++ w.t)))
def shV (w : Wi) : ByteArray := if shN w = 0 then shT w else ByteArray.empty

theorem jx_none : ∀ {l : List UInt8}, 32 ∉ l → Lib.indexByte l 32 = -1
  | [], _ => rfl
  | a :: l, h => by
    have h1 : (a == 32) = false := by
      rw [beq_eq_false_iff_ne]
      exact fun e => h (by rw [e]; exact List.mem_cons_self)
    rw [Lib.indexByte, h1, jx_none (fun e => h (List.mem_cons_of_mem _ e))]
    rfl
theorem jx_some : ∀ {l r : List UInt8}, 32 ∉ l → Lib.indexByte (l ++ 32 :: r) 32 = (l.length : Nat)
  | [], _, _ => rfl
  | a :: l, r, h => by
    have h1 : (a == 32) = false := by
      rw [beq_eq_false_iff_ne]
      exact fun e => h (by rw [e]; exact List.mem_cons_self)
    rw [List.cons_append, Lib.indexByte, h1, jx_some (fun e => h (List.mem_cons_of_mem _ e))]
    have : ¬ (((l.length : Nat) : Int) == -1) = true := by simp
    simp only [Bool.false_eq_true, if_false, this, List.length_cons]
    simp
/-- A text with no blank is one word. -/
theorem wut_one {a : ByteArray} (k : Nat) (h : 32 ∉ a.data.toList) : cutB k a = [a] := cut_miss k (jx_none h)
theorem wut_at {a r : ByteArray} (h : 32 ∉ a.data.toList) : blAt (a ++ (blW ++ r)) = (a.size : Nat) ∧ (a ++ (blW ++ r)).extract 0 a.size = a ∧ (a ++ (blW ++ r)).extract (a.size + 1) (a ++ (blW ++ r)).size = r := by
  have e : (a ++ (blW ++ r)).data.toList = a.data.toList ++ 32 :: r.data.toList := by rw [wa_app, wa_app, blW_lst]; rfl
  refine ⟨by rw [blAt, e, jx_some h, Lib.size_eq], wa_ext (by rw [Lib.extract_data, e, Lib.size_eq]; simp), wa_ext (by
    rw [Lib.extract_to_end, e, Lib.size_eq]
    rw [List.drop_append, List.drop_eq_nil_of_le (by omega)]
    simp)⟩
/-- A word, a blank, and the rest. -/
theorem wut_word {a r : ByteArray} (k : Nat) (h : 32 ∉ a.data.toList) : cutB (k + 1) (a ++ (blW ++ r)) = a :: cutB k r := by
  obtain ⟨h1, h2, h3⟩ := wut_at (r := r) h
  rw [cut_hit k h1, h2, h3]
theorem wutA_word {a r : ByteArray} (h : 32 ∉ a.data.toList) : cutA (a ++ (blW ++ r)) = a :: cutA r := by
  obtain ⟨h1, h2, h3⟩ := wut_at (r := r) h
  rw [cutA_hit h1, h2, h3]
theorem wutA_one {a : ByteArray} (h : 32 ∉ a.data.toList) : cutA a = [a] := cutA_miss (jx_none h)
/-- Words with blanks between. -/
def jnW : List ByteArray → ByteArray
  | [] => ByteArray.empty
  | [a] => a
  | a :: b :: r => a ++ (blW ++ jnW (b :: r))
theorem wut_ne (k : Nat) (s : ByteArray) : ∃ a r, cutB k s = a :: r := by
  match h : cutB k s with
  | [] => have := (cut_len k s).2; rw [h] at this; simp at this
  | a :: r => exact ⟨a, r, rfl⟩
theorem wut_join : ∀ (k : Nat) (s : ByteArray), jnW (cutB k s) = s
  | 0, _ => rfl
  | k + 1, s => by
    rcases bl_cases s with h | ⟨i, h, hi⟩
    · rw [cut_miss _ h]; rfl
    · rw [cut_hit _ h]
      obtain ⟨a, r, e⟩ := wut_ne k (s.extract (i + 1) s.size)
      have ih := wut_join k (s.extract (i + 1) s.size)
      rw [e] at ih ⊢
      rw [jnW, ih]
      apply wa_ext
      rw [wa_app, wa_app, blW_lst, Lib.extract_data, Lib.extract_to_end]
      have hg := (Lib.indexByte_some h).1
      have hlt : i < s.data.toList.length := by rw [← Lib.size_eq]; exact hi
      have hd : s.data.toList.drop i = 32 :: s.data.toList.drop (i + 1) := by
        rw [List.drop_eq_getElem_cons hlt]
        rw [List.getElem?_eq_getElem hlt] at hg
        rw [Option.some.inj hg]
      simp only [Nat.sub_zero, List.drop_zero]
      rw [List.singleton_append, ← hd, List.take_append_drop]
theorem nm_bl {a : ByteArray} (h : nmB a = true) : 32 ∉ a.data.toList := by
  simp only [nmB, Bool.and_eq_true, List.all_eq_true] at h
  intro hm
  have := h.2.2 _ hm
  simp at this
theorem via_fin : ∀ k : Fin 7, (dcOk (dgS ((k : Nat) : Int)) && (dcN (dgS ((k : Nat) : Int)) == ((k : Nat) : Int) && !((dgS ((k : Nat) : Int)).data.toList.contains 32))) = true := by decide +kernel
theorem via_back {p : Int} (h : 0 ≤ p ∧ p ≤ 6) : dcOk (dgS p) = true ∧ dcN (dgS p) = p ∧ 32 ∉ (dgS p).data.toList := by
  obtain ⟨k, rfl⟩ : ∃ k : Fin 7, p = ((k : Nat) : Int) := ⟨⟨p.toNat, by omega⟩, by simp; omega⟩
  have := via_fin k
  simp only [Bool.and_eq_true, beq_iff_eq] at this
  exact ⟨this.1, this.2.1, by simpa using this.2.2⟩
theorem via_big {s : ByteArray} (h0 : byteN s 0 ≠ 48) : ∀ {k : Nat}, dgTo s (k + 1) = true → 10 ^ k ≤ dcTo s (k + 1)
  | 0, h => by
    simp only [dgTo, Bool.and_eq_true] at h
    have := dig_of h.2
    simp [dcTo]
    omega
  | k + 1, h => by
    simp only [dgTo, Bool.and_eq_true] at h
    have h1 := via_big h0 (k := k) (by simp only [dgTo, Bool.and_eq_true]; exact h.1)
    have h2 := dig_of h.2
    have e : dcTo s (k + 1 + 1) = 10 * dcTo s (k + 1) + ((byteN s (k + 1) : Nat) - 48) := rfl
    rw [e, Int.pow_succ]
    omega
theorem via1_fin : ∀ i : Fin 10, (dgS (dcN ⟨#[UInt8.ofNat (48 + i)]⟩)).data.toList = [UInt8.ofNat (48 + i)] := by decide +kernel
theorem via_byte {c : UInt8} (h : digB c.toNat = true) : ∃ i : Fin 10, c = UInt8.ofNat (48 + i) := by
  have h1 := dig_of h
  refine ⟨⟨c.toNat - 48, by omega⟩, ?_⟩
  apply UInt8.toNat_inj.1
  simp only [UInt8.toNat_ofNat']
  omega
theorem via_read {a : ByteArray} (h : dcOk a = true) (h2 : dcN a ≤ 9) : dgS (dcN a) = a := by
  simp only [dcOk, Bool.and_eq_true] at h
  obtain ⟨hh, hd⟩ := h
  have hN : dcN a = dcTo a a.size := by simp [dcN, dcOk, hh, hd]
  simp only [dcHd, Bool.and_eq_true, decide_eq_true_eq] at hh
  obtain ⟨z1, z9, z0⟩ := hh
  have hs : a.size = 1 := by
    by_cases hs : a.size = 1
    · exact hs
    · exfalso
      have h0 : byteN a 0 ≠ 48 := by
        simp [hs] at z0
        exact z0
      obtain ⟨k, hk⟩ : ∃ k, a.size = k + 1 := ⟨a.size - 1, by omega⟩
      rw [hk] at hd hN
      have hb := via_big h0 hd
      rcases (by omega : k = 1 ∨ k = 2 ∨ k = 3 ∨ k = 4 ∨ k = 5 ∨ k = 6 ∨ k = 7 ∨ k = 8) with rfl | rfl | rfl | rfl | rfl | rfl | rfl | rfl <;> simp at hb hN <;> omega
  have hl : a.data.toList.length = 1 := by rw [← Lib.size_eq]; exact hs
  match hq : a.data.toList, hl with
  | [c], _ =>
    have hb : byteN a 0 = c.toNat := by simp [byteN, hq]
    obtain ⟨i, rfl⟩ := via_byte (c := c) (by rw [← hb]; exact dg_le (n := a.size) (by omega) hd)
    have e : a = ⟨#[UInt8.ofNat (48 + i)]⟩ := wa_ext hq
    exact wa_ext (by rw [hq, e]; exact via1_fin i)
/-- What a right wish is. -/
theorem shw_0 {w : Wi} (h : shN w = 0) : (w.k = 4 ∧ w.f = ByteArray.empty ∧ w.t = ByteArray.empty ∧ w.v = 0) ∨ ((w.k = 1 ∨ w.k = 2) ∧ nmB w.f = true ∧ nmB w.t = true ∧ w.v = 0) ∨ (w.k = 3 ∧ nmB w.f = true ∧ nmB w.t = true ∧ 1 ≤ w.v ∧ w.v ≤ 6) := by
  unfold shN at h
  split at h
  · cases h
  · next h1 =>
    split at h
    · cases h
    · next h2 =>
      split at h
      · cases h
      · next h3 =>
        simp only [wkB, viB, swB, Bool.or_eq_true, Bool.not_eq_true', Bool.and_eq_false_iff, Bool.or_eq_false_iff, decide_eq_false_iff_not, bne_eq_false_iff_eq, not_or, not_and] at h1
        simp only [Bool.and_eq_true, bne_iff_ne, Bool.not_eq_true', Bool.and_eq_false_iff, not_and, not_or, Bool.not_eq_false] at h2
        simp only [veB, nlB, Bool.or_eq_true, Bool.and_eq_true, bne_iff_ne, beq_iff_eq, Bool.not_eq_true', Bool.and_eq_false_iff, not_or, not_and, Bool.not_eq_false, ne_eq, Decidable.not_not, ba_eq] at h3
        obtain ⟨⟨a1, a2⟩, a3⟩ := h1
        rcases (by omega : w.k = 4 ∨ w.k = 3 ∨ (w.k = 1 ∨ w.k = 2)) with e | e | e
        · exact .inl ⟨e, (h3.2 e).1, (h3.2 e).2, h3.1 (by omega)⟩
        · have := h2 (by omega)
          have := a3 e
          exact .inr (.inr ⟨e, (h2 (by omega)).1, (h2 (by omega)).2, by omega, by omega⟩)
        · exact .inr (.inl ⟨e, (h2 (by omega)).1, (h2 (by omega)).2, h3.1 (by omega)⟩)
theorem sh_mk1 {k : Int} {f t : ByteArray} (hk : k = 1 ∨ k = 2) (hf : nmB f = true) (ht : nmB t = true) : shN ⟨k, f, t, 0⟩ = 0 := by
  rcases hk with rfl | rfl <;> simp [shN, wkB, viB, veB, hf, ht]
theorem sh_mk3 {v : Int} {f t : ByteArray} (hf : nmB f = true) (ht : nmB t = true) (h1 : 1 ≤ v) (h6 : v ≤ 6) : shN ⟨3, f, t, v⟩ = 0 := by
  simp [shN, wkB, viB, veB, swB, hf, ht, h1, h6]
theorem sh_mk4 : shN ⟨4, ByteArray.empty, ByteArray.empty, 0⟩ = 0 := by decide +kernel
/-- The kind that the document's reading has of a word. -/
def wrK (a : ByteArray) : Int := if a == wayS then 3 else if a == apaS then 2 else if a == reaS then 1 else 0
/-- A wish, if it can be written. -/
def okW (w : Wi) : Option Wi := if shN w = 0 then some w else none
/-- The wish of the words of a text. -/
def rdL : List ByteArray → Option Wi
  | [a, b, c] => okW ⟨wrK a, b, c, 0⟩
  | [a, b, c, d] => if dcOk d && ((a == wayS) && !(dcN d == 0)) then okW ⟨wrK a, b, c, dcN d⟩ else none
  | _ => none
/-- The wish of a text. -/
def rdO (s : ByteArray) : Option Wi := if s == looS then some ⟨4, ByteArray.empty, ByteArray.empty, 0⟩ else rdL (cutA s)
theorem ok_some {w x : Wi} (h : okW w = some x) : w = x ∧ shN w = 0 := by
  unfold okW at h
  split at h
  · next e => cases h; exact ⟨rfl, e⟩
  · cases h
theorem rea_bl : 32 ∉ reaS.data.toList := by decide
theorem apa_bl : 32 ∉ apaS.data.toList := by decide
theorem way_bl : 32 ∉ wayS.data.toList := by decide
theorem loo_bl : 32 ∉ looS.data.toList := by decide
theorem wrK_c (a : ByteArray) : (a = wayS ∧ wrK a = 3) ∨ (a = apaS ∧ wrK a = 2) ∨ (a = reaS ∧ wrK a = 1) ∨ wrK a = 0 := by
  unfold wrK
  split
  · next e => exact .inl ⟨ba_eq.1 e, rfl⟩
  · split
    · next e => exact .inr (.inl ⟨ba_eq.1 e, rfl⟩)
    · split
      · next e => exact .inr (.inr (.inl ⟨ba_eq.1 e, rfl⟩))
      · exact .inr (.inr (.inr rfl))
theorem sh_no {f t : ByteArray} {v : Int} : shN ⟨0, f, t, v⟩ ≠ 0 := by simp [shN, wkB]
theorem sh_no3 {f t : ByteArray} : shN ⟨3, f, t, 0⟩ ≠ 0 := by simp [shN, wkB, viB, swB]
/-- What is read is what is written so. -/
theorem rd_text {s : ByteArray} {w : Wi} (h : rdO s = some w) : shN w = 0 ∧ shT w = s := by
  unfold rdO at h
  split at h
  · next e =>
    cases h
    exact ⟨sh_mk4, (ba_eq.1 e).symm⟩
  · have hj := wut_join s.size s
    rw [show cutB s.size s = cutA s from rfl] at hj
    unfold rdL at h
    split at h
    · next a b c e =>
      rw [e] at hj
      obtain ⟨h1, h2⟩ := ok_some h
      subst h1
      refine ⟨h2, ?_⟩
      have hj : a ++ (blW ++ (b ++ (blW ++ c))) = s := hj
      rcases wrK_c a with ⟨rfl, e1⟩ | ⟨rfl, e1⟩ | ⟨rfl, e1⟩ | e1
      · rw [e1] at h2; exact absurd h2 sh_no3
      · rw [e1, ← hj]; rfl
      · rw [e1, ← hj]; rfl
      · rw [e1] at h2; exact absurd h2 sh_no
    · next a b c d e =>
      rw [e] at hj
      split at h
      · next hd =>
        obtain ⟨h1, h2⟩ := ok_some h
        subst h1
        refine ⟨h2, ?_⟩
        simp only [Bool.and_eq_true, ba_eq] at hd
        obtain ⟨d1, rfl, d2⟩ := hd
        have hj : wayS ++ (blW ++ (b ++ (blW ++ (c ++ (blW ++ d))))) = s := hj
        have e1 : wrK wayS = 3 := rfl
        rw [e1] at h2 ⊢
        rcases shw_0 h2 with ⟨k, _⟩ | ⟨k, _⟩ | ⟨_, _, _, _, k6⟩
        · simp at k
        · simp at k
        · have := via_read d1 (by simp only at k6; omega)
          rw [← hj]
          show wayS ++ (blW ++ (b ++ (blW ++ (c ++ (blW ++ dgS (dcN d)))))) = _
          rw [this]
      · cases h
    · cases h
theorem ne_loo {a r : ByteArray} (h : 32 ∉ a.data.toList) : (a ++ (blW ++ r) == looS) = false := by
  cases e : (a ++ (blW ++ r) == looS) with
  | false => rfl
  | true =>
    exfalso
    have e2 := ba_eq.1 e
    have : 32 ∈ (a ++ (blW ++ r)).data.toList := by rw [wa_app, wa_app, blW_lst]; simp
    rw [e2] at this
    exact loo_bl this
/-- What is written is read as it was. -/
theorem text_rd {w : Wi} (h : shN w = 0) : rdO (shT w) = some w := by
  have hh := h
  obtain ⟨k, f, t, v⟩ := w
  rcases shw_0 h with ⟨e, e1, e2, e3⟩ | ⟨e, e1, e2, e3⟩ | ⟨e, e1, e2, e3, e4⟩
  · simp only at e e1 e2 e3
    subst e e1 e2 e3
    show rdO looS = _
    rw [rdO, if_pos (ba_eq.2 rfl)]
  · simp only at e e1 e2 e3
    subst e3
    rcases e with rfl | rfl
    · show rdO (reaS ++ (blW ++ (f ++ (blW ++ t)))) = _
      rw [rdO, ne_loo rea_bl, wutA_word rea_bl, wutA_word (nm_bl e1), wutA_one (nm_bl e2)]
      show okW ⟨wrK reaS, f, t, 0⟩ = _
      rw [show wrK reaS = 1 from rfl, okW, if_pos hh]
    · show rdO (apaS ++ (blW ++ (f ++ (blW ++ t)))) = _
      rw [rdO, ne_loo apa_bl, wutA_word apa_bl, wutA_word (nm_bl e1), wutA_one (nm_bl e2)]
      show okW ⟨wrK apaS, f, t, 0⟩ = _
      rw [show wrK apaS = 2 from rfl, okW, if_pos hh]
  · simp only at e e1 e2 e3 e4
    subst e
    obtain ⟨b1, b2, b3⟩ := via_back (p := v) ⟨by omega, e4⟩
    show rdO (wayS ++ (blW ++ (f ++ (blW ++ (t ++ (blW ++ dgS v)))))) = _
    rw [rdO, ne_loo way_bl, wutA_word way_bl, wutA_word (nm_bl e1), wutA_word (nm_bl e2), wutA_one b3]
    show (if dcOk (dgS v) && ((wayS == wayS) && !(dcN (dgS v) == 0)) then okW ⟨wrK wayS, f, t, dcN (dgS v)⟩ else none) = _
    rw [b1, b2, ba_eq.2 rfl, show wrK wayS = 3 from rfl, if_pos (by simp; omega), okW, if_pos hh]
/-- The wish that the program makes of the words ahead of the last test: V is the number of the fourth one. -/
def wkW (c : List ByteArray) (V : Int) : Wi := ⟨whW (c.getD 0 ByteArray.empty), if 2 < c.length then c.getD 1 ByteArray.empty else ByteArray.empty, if 2 < c.length then c.getD 2 ByteArray.empty else ByteArray.empty, if 3 < c.length then V else 0⟩
/-- Of a text that is written so it makes the wish again. -/
theorem text_wk {w : Wi} (h : shN w = 0) {V : Int} (hV : ∀ d, cutB 3 (shT w) = [d, w.f, w.t, dgS w.v] → V = w.v) : wkW (cutB 3 (shT w)) V = w := by
  obtain ⟨k, f, t, v⟩ := w
  rcases shw_0 h with ⟨e, e1, e2, e3⟩ | ⟨e, e1, e2, e3⟩ | ⟨e, e1, e2, e3, e4⟩
  · simp only at e e1 e2 e3
    subst e e1 e2 e3
    have : cutB 3 (shT ⟨4, ByteArray.empty, ByteArray.empty, 0⟩) = [looS] := wut_one 3 loo_bl
    rw [this]
    rfl
  · simp only at e e1 e2 e3
    subst e3
    rcases e with rfl | rfl
    · have : cutB 3 (shT ⟨1, f, t, 0⟩) = [reaS, f, t] := by
        show cutB 3 (reaS ++ (blW ++ (f ++ (blW ++ t)))) = _
        rw [wut_word 2 rea_bl, wut_word 1 (nm_bl e1), wut_one 1 (nm_bl e2)]
      rw [this]
      rfl
    · have : cutB 3 (shT ⟨2, f, t, 0⟩) = [apaS, f, t] := by
        show cutB 3 (apaS ++ (blW ++ (f ++ (blW ++ t)))) = _
        rw [wut_word 2 apa_bl, wut_word 1 (nm_bl e1), wut_one 1 (nm_bl e2)]
      rw [this]
      rfl
  · simp only at e e1 e2 e3 e4
    subst e
    obtain ⟨b1, b2, b3⟩ := via_back (p := v) ⟨by omega, e4⟩
    have : cutB 3 (shT ⟨3, f, t, v⟩) = [wayS, f, t, dgS v] := by
      show cutB 3 (wayS ++ (blW ++ (f ++ (blW ++ (t ++ (blW ++ dgS v)))))) = _
      rw [wut_word 2 way_bl, wut_word 1 (nm_bl e1), wut_word 0 (nm_bl e2)]
      rfl
    rw [this, hV _ this]
    rfl
/-- What the program reads is what the document reads: with whatever number it has of a word that is no number's text. -/
theorem wk_rd (s : ByteArray) {V : Int} (hV : ∀ p : Int, 1 ≤ p → p ≤ 6 → (cutB 3 s).getD 3 ByteArray.empty = dgS p → V = p) :
    (shN (wkW (cutB 3 s) V) = 0 ∧ shT (wkW (cutB 3 s) V) = s → rdO s = some (wkW (cutB 3 s) V)) ∧ (¬ (shN (wkW (cutB 3 s) V) = 0 ∧ shT (wkW (cutB 3 s) V) = s) → rdO s = none) := by
  constructor
  · rintro ⟨h1, h2⟩
    have := text_rd h1
    rw [h2] at this
    exact this
  · intro hn
    cases e : rdO s with
    | none => rfl
    | some w =>
      exfalso
      obtain ⟨h1, h2⟩ := rd_text e
      have hw : wkW (cutB 3 s) V = w := by
        rw [← h2]
        refine text_wk h1 (fun d hd => ?_)
        rcases shw_0 h1 with ⟨e, _⟩ | ⟨e, _⟩ | ⟨e, e1, e2, e3, e4⟩
        · exfalso
          have hx : shT w = looS := by rw [shT, if_pos e]
          rw [hx, wut_one 3 loo_bl] at hd
          simp at hd
        · exfalso
          rcases shw_0 h1 with ⟨k, _⟩ | ⟨_, e1, e2, _⟩ | ⟨k, _⟩
          · omega
          · have h32 : 32 ∉ (woW w.k).data.toList := by
              rcases e with e | e
              · rw [e]; exact rea_bl
              · rw [e]; exact apa_bl
            have hx : shT w = woW w.k ++ (blW ++ (w.f ++ (blW ++ w.t))) := by rw [shT, if_neg (by omega), if_neg (by omega)]
            rw [hx, wut_word 2 h32, wut_word 1 (nm_bl e1), wut_one 1 (nm_bl e2)] at hd
            simp at hd
          · omega
        · refine hV w.v e3 e4 ?_
          rw [← h2, hd]
          rfl
      rw [hw] at hn
      exact hn ⟨h1, h2⟩
end Go.Proofs.YtpmcjelihdlfeaaGreatDoor
/- What railref1.Name answers: a contract for the walks above it. -/
namespace Go.Proofs.YtpmcjelihdlfeaaGreatDoor
open Go.RowKit
set_option linter.unusedSimpArgs false
set_option linter.unusedVariables false

theorem byte_lst (s : ByteArray) : s.toList = s.data.toList := by rw [Lib.toList_data]
theorem size_lst (s : ByteArray) : s.data.toList.length = s.size := by simp
/-- Is a byte a letter? -/
def ltB (c : UInt8) : Bool := decide (97 ≤ c.toNat) && decide (c.toNat ≤ 122)
theorem lt_at (s : ByteArray) (k : Nat) (h : k < s.size) : s.data.toList[k]'(by simpa using h) = s[k] := by simp [ByteArray.getElem_eq_getElem_data]
theorem rnm_eq (s : ByteArray) : nmB s = (decide (1 ≤ s.size) && (decide (s.size ≤ 6) && s.data.toList.all ltB)) := rfl

set_option maxHeartbeats 1000000 in
set_option maxRecDepth 100000 in
theorem rname_any (s : ByteArray) (w : World) :
    Calls Tryz.prog 21 #[.string s] w fun e w' => e = .returned (.bool (nmB s)) ∧ w' = w := by
  by_cases h0 : s.size = 0
  · have e0 : s.toList.isEmpty = true := by
      rw [byte_lst, List.isEmpty_iff, ← List.length_eq_zero_iff, size_lst, h0]
    have HR : Hid (nmB s = false) := by
      show _ = _
      rw [rnm_eq, h0]
      rfl
    rw [HR.out]
    go_enter Tryz.func21, Tryz.ntmps21
    go_wp2
    go_ret
    exact ⟨rfl, rfl⟩
  · have e0 : s.toList.isEmpty = false := by
      rw [byte_lst, ← Bool.not_eq_true, List.isEmpty_iff, ← List.length_eq_zero_iff, size_lst]; exact h0
    by_cases h6 : 6 < s.size
    · have e6 : decide ((6 : Int) < (s.size : Int)) = true := by simp; omega
      have HR : Hid (nmB s = false) := by
        show _ = _
        have : ¬ s.size ≤ 6 := by omega
        rw [rnm_eq]
        simp [this]
      rw [HR.out]
      go_enter Tryz.func21, Tryz.ntmps21
      go_wp2
      go_ret
      exact ⟨rfl, rfl⟩
    · have e6 : decide ((6 : Int) < (s.size : Int)) = false := by simp; omega
      have HR : Hid (nmB s = s.data.toList.all ltB) := by
        show _ = _
        have h1 : 1 ≤ s.size := by omega
        have h2 : s.size ≤ 6 := by omega
        rw [rnm_eq]
        simp [h1, h2]
      obtain ⟨R, hR⟩ : ∃ R, R = nmB s := ⟨_, rfl⟩
      have HRR : Hid (R = nmB s) := hR
      rw [← hR]
      clear hR
      go_enter Tryz.func21, Tryz.ntmps21
      go_wp2
      go_loopw [3] (fun i wr => ∃ k : Nat, k ≤ s.size ∧ i = .int .i64 k ∧ (s.data.toList.take k).all ltB = true ∧ wr = w) (fun i _ => s.size - (intOf i).toNat)
      case atStart => exact ⟨0, by omega, rfl, by simp, rfl⟩
      case round =>
        obtain ⟨k, hk, rfl, hall, rfl⟩ := hrel
        have HALL : Hid ((s.data.toList.take k).all ltB = true) := hall
        clear hall
        by_cases hlt : k < s.size
        · have HNX : Hid (ltB s[k] = true → (s.data.toList.take (k + 1)).all ltB = true) := fun hy => by
            have hk2 : k < s.data.toList.length := by simpa using hlt
            rw [List.take_succ_eq_append_getElem hk2, List.all_append, HALL.out, lt_at s k hlt]
            simp [hy]
          have HNO : Hid (ltB s[k] = false → R = false) := fun hn => by
            rw [HRR.out, HR.out]
            cases ha : s.data.toList.all ltB
            · rfl
            · have hk2 : k < s.data.toList.length := by simpa using hlt
              have := List.all_eq_true.1 ha _ (List.getElem_mem hk2)
              rw [lt_at s k hlt, hn] at this
              cases this
          by_cases g1 : s[k].toNat < 97
          · have d1 : decide ((s[k].toNat : Int) < 97) = true := by simp; omega
            have HF : Hid (R = false) := HNO.out (by unfold ltB; simp; omega)
            go_wp2
            go_ret
            exact ⟨by rw [HF.out]; rfl, rfl⟩
          · have d1 : decide ((s[k].toNat : Int) < 97) = false := by simp; omega
            by_cases g2 : 122 < s[k].toNat
            · have d2 : decide (122 < (s[k].toNat : Int)) = true := by simp; omega
              have HF : Hid (R = false) := HNO.out (by unfold ltB; simp; omega)
              go_wp2
              go_ret
              exact ⟨by rw [HF.out]; rfl, rfl⟩
            · have d2 : decide (122 < (s[k].toNat : Int)) = false := by simp; omega
              have HY : Hid ((s.data.toList.take (k + 1)).all ltB = true) := HNX.out (by unfold ltB; simp; omega)
              go_wp2
              go_roundw
              case rel => exact ⟨k + 1, by omega, by go_num, HY.out, by first | rfl | trivial⟩
              case measure => simp [intOf]; omega
        · obtain rfl : k = s.size := by omega
          have HF : Hid (R = true) := by
            show _ = _
            have h1 := HALL.out
            rw [← size_lst, List.take_length] at h1
            rw [HRR.out, HR.out, h1]
          go_wp2
          go_ret
          exact ⟨by rw [HF.out]; rfl, rfl⟩
end Go.Proofs.YtpmcjelihdlfeaaGreatDoor
