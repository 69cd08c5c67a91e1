/- Contracts and facts on the way to MixTells, joined into one text: MixWalk2, MixWalk3, MixWalk4, NetFollow, MixWalk5, MixWalk6. -/
import Derived.Test.YtglnnoglbieaeaaGreatDoorMixTellsP9
import Derived.Test.YtglnnoglbieaeaaGreatDoorMixTellsP5
import Derived.Test.YtglnnoglbieaeaaGreatDoorMixTellsP7
import Derived.Deep.RegionHeld3
import Derived.BigRegion
import Derived.Deep.RegionWith
import Derived.Deep.CutRange
import Derived.Deep.CutBlock
/- What take of package mix answers. -/
namespace Go.Proofs.YtglnnoglbieaeaaGreatDoor
open Go.RowKit Go.Shelf
set_option linter.unusedSimpArgs false
set_option linter.unusedVariables false
attribute [local go_sem] Oper.semAt_some

/-- The boxes of take: the legs' two rows, a leg, what was met. -/
structure TB (A W : World) (vo vy : Value) (g : Lg) (met : Nat → Bool) : Prop where
  below : Below A.heap.size A W
  size : W.heap.size = A.heap.size + 3
  x0 : W.cell? ⟨A.heap.size, 0, none⟩ = some vo
  x1 : W.cell? ⟨A.heap.size, 1, none⟩ = some vy
  g0 : W.cell? ⟨A.heap.size + 1, 0, none⟩ = some (.int .i64 g.1)
  g1 : W.cell? ⟨A.heap.size + 1, 1, none⟩ = some (.string g.2.1)
  g2 : W.cell? ⟨A.heap.size + 1, 2, none⟩ = some (.int .i64 g.2.2.1.1)
  g3 : W.cell? ⟨A.heap.size + 1, 3, none⟩ = some (.int .i64 g.2.2.1.2)
  g4 : W.cell? ⟨A.heap.size + 1, 4, none⟩ = some (.int .i64 g.2.2.2)
  m0 : W.cell? ⟨A.heap.size + 1 + 1, 0, none⟩ = some (.bool (met 0))
  m1 : W.cell? ⟨A.heap.size + 1 + 1, 1, none⟩ = some (.bool (met 1))
  m2 : W.cell? ⟨A.heap.size + 1 + 1, 2, none⟩ = some (.bool (met 2))
  m3 : W.cell? ⟨A.heap.size + 1 + 1, 3, none⟩ = some (.bool (met 3))
  m4 : W.cell? ⟨A.heap.size + 1 + 1, 4, none⟩ = some (.bool (met 4))
  m5 : W.cell? ⟨A.heap.size + 1 + 1, 5, none⟩ = some (.bool (met 5))
def tbox (A : World) (vo vy : Value) (a : Int) (b : ByteArray) (c d e : Int) (q0 q1 q2 q3 q4 q5 : Bool) : World := ((A.alloc (Obj.cells #[vo, vy] 80)).alloc (Obj.cells #[.int .i64 a, .string b, .int .i64 c, .int .i64 d, .int .i64 e] 155)).alloc (Obj.cells #[.bool q0, .bool q1, .bool q2, .bool q3, .bool q4, .bool q5] 123)
theorem tb_new (A : World) (vo vy : Value) (g : Lg) (met : Nat → Bool) : TB A (tbox A vo vy g.1 g.2.1 g.2.2.1.1 g.2.2.1.2 g.2.2.2 (met 0) (met 1) (met 2) (met 3) (met 4) (met 5)) vo vy g met := by
  have hb : ∀ (W : World) (o : Obj), Below W.heap.size W (W.alloc o) := fun W o => (Below.refl _ _).alloc (Nat.le_refl _) _
  unfold tbox
  have e1 : (A.alloc (Obj.cells #[vo, vy] 80)).heap.size = A.heap.size + 1 := by simp
  have h1 := vat_new A [vo, vy] 80
  have hB1 := hb A (Obj.cells #[vo, vy] 80)
  generalize A.alloc (Obj.cells #[vo, vy] 80) = A1 at e1 h1 hB1
  have e2 : (A1.alloc (Obj.cells #[.int .i64 g.1, .string g.2.1, .int .i64 g.2.2.1.1, .int .i64 g.2.2.1.2, .int .i64 g.2.2.2] 155)).heap.size = A.heap.size + 1 + 1 := by simp [e1]
  have h2 := vat_new A1 [.int .i64 g.1, .string g.2.1, .int .i64 g.2.2.1.1, .int .i64 g.2.2.1.2, .int .i64 g.2.2.2] 155
  have hB2 := hb A1 (Obj.cells #[.int .i64 g.1, .string g.2.1, .int .i64 g.2.2.1.1, .int .i64 g.2.2.1.2, .int .i64 g.2.2.2] 155)
  rw [e1] at h2
  generalize A1.alloc (Obj.cells #[.int .i64 g.1, .string g.2.1, .int .i64 g.2.2.1.1, .int .i64 g.2.2.1.2, .int .i64 g.2.2.2] 155) = A2 at e2 h2 hB2
  have e3 : (A2.alloc (Obj.cells #[.bool (met 0), .bool (met 1), .bool (met 2), .bool (met 3), .bool (met 4), .bool (met 5)] 123)).heap.size = A.heap.size + 3 := by simp [e2]
  have h3 := vat_new A2 [.bool (met 0), .bool (met 1), .bool (met 2), .bool (met 3), .bool (met 4), .bool (met 5)] 123
  have hB3 := hb A2 (Obj.cells #[.bool (met 0), .bool (met 1), .bool (met 2), .bool (met 3), .bool (met 4), .bool (met 5)] 123)
  rw [e2] at h3
  have k1 := (h1.later hB2).later hB3
  have k2 := h2.later hB3
  exact ⟨(hB1.trans (hB2.mono (by omega))).trans (hB3.mono (by omega)), e3, k1 0 _ rfl, k1 1 _ rfl, k2 0 _ rfl, k2 1 _ rfl, k2 2 _ rfl, k2 3 _ rfl, k2 4 _ rfl, h3 0 _ rfl, h3 1 _ rfl, h3 2 _ rfl, h3 3 _ rfl, h3 4 _ rfl, h3 5 _ rfl⟩

section
variable {l lo n₀ : Nat} {J : Nat → (Nat → Prop) → World → Prop} {Jx : World → Prop} {L : List Ft} {w : World} {vo vy : Value} {m : Nat} {Ls : List ((Int × Int) × (Int × Int))} {Hs : List (ByteArray × (Int × Int))} {As Bs : List (List Ru)}
set_option maxHeartbeats 4000000 in
set_option maxRecDepth 100000 in
/-- It ends: it is handed on. -/
theorem take_end (cx : MCx l lo n₀ J Jx L w vo vy m Ls Hs As Bs) (nn : Nat) (hn : 3 ≤ nn) (A : World) (k : Nat) (X Y : Nat → Prop) (bk : Nat) (lst : List ((Int × Int) × Int)) (met : Nat → Bool) (g : Lg) (hI : WkI lo n₀ J w X Y k bk lst A) (hg : g.1 ≠ 0) (hL : L[k]? = some (g.1, g.2.1, lst)) :
    CallsIn Fence.wide nn Tryz.prog 83 #[.agg #[vo, vy], legV g, .slice (some ⟨bk, 0, none⟩) lst.length 24, metV met, .func (.yield l) #[] #[]] A fun e A' => ∃ r, e = .returned (.bool r) ∧ WkP n₀ J Jx X Y (k + 1) bk lst A r A' := by
  have h1 : 1 ≤ nn := by omega
  have hT := tb_new A vo vy g met
  obtain ⟨a, b, ⟨c, d⟩, e⟩ := g
  unfold legV metV
  dsimp only at hT hg hL ⊢
  obtain ⟨A1, hA1⟩ : ∃ W, tbox A vo vy a b c d e (met 0) (met 1) (met 2) (met 3) (met 4) (met 5) = W := ⟨_, rfl⟩
  rw [hA1] at hT
  have hI1 := hI.later cx hT.below
  obtain ⟨q, hq⟩ : ∃ q, q = lst.length := ⟨_, rfl⟩
  have hy := yield_any (m' := nn - 1) (cx.yi k X A1 #[.agg #[.int .i64 a, .string b, .slice (some ⟨bk, 0, none⟩) q 24]] (a, b, lst) _ hI1.j hL ⟨_, _, _, rfl, by rw [hq]; exact hI1.h.gs⟩ hI1.s (fun x hx => ⟨(hI1.y x hx).1, (hI1.y x hx).2.2⟩))
  obtain ⟨fn, tmps, assign, body, hyr, hR⟩ := hy
  have HI1 : Hid (WkI lo n₀ J w X (fun b => Y b ∨ (A.heap.size ≤ b ∧ b < A1.heap.size)) k bk lst A1) := hI1
  have HT : Hid (TB A A1 vo vy (a, b, ((c, d), e)) met) := hT
  have ea : (a != 0) = true := by simp [hg]
  rw [← hq]
  refine callsIn_of_wp Tryz.func83 rfl trivial ?_ rfl
  simp only [Tryz.ntmps83, List.size_toArray, List.length_cons, List.length_nil, Nat.reduceAdd, Nat.reduceSub, Array.replicate_succ, Array.replicate_zero, List.push_toArray, List.append_toArray, List.nil_append, List.cons_append]
  clear hI1 hI hL hq hg hT
  subst hA1
  unfold tbox at hyr hR


  gi_wp2
  refine hR.mono ?_
  rintro e5 A2 (⟨rfl, ⟨X', hJ, hX⟩, hk⟩ | ⟨rfl, hJx, hk⟩)
  · have HP : Hid (WkP n₀ J Jx X Y (k + 1) bk lst A true A2) := by
      exact WkP.back HT.out.below ⟨⟨⟨X', hJ, hX⟩, HI1.out.h.kb hk (.inr HI1.out.yb)⟩, hk.mono (fun b _ h => h.imp id (fun h => h.1))⟩
    clear hJ hX hk
    gi_wp2
    go_ret
    exact ⟨true, rfl, HP.out⟩
  · have HP : Hid (WkP n₀ J Jx X Y (k + 1) bk lst A false A2) := WkP.back HT.out.below ⟨hJx, hk.mono (fun b _ h => h.imp id (fun h => h.1))⟩
    clear hJx hk
    gi_wp2
    go_ret
    exact ⟨false, rfl, HP.out⟩
end
end Go.Proofs.YtglnnoglbieaeaaGreatDoor
/- What take of package mix answers where the packet goes on; and in all. -/
namespace Go.Proofs.YtglnnoglbieaeaaGreatDoor
open Go.RowKit Go.Shelf
set_option linter.unusedSimpArgs false
set_option linter.unusedVariables false

theorem hk_of {W : World} {bk : Nat} {l : List ((Int × Int) × Int)} {p : (Int × Int) × Int} (h : W.ownsRow 0 74 hopE.n (.slice (some ⟨bk, 0, none⟩) (l.length + 1) 24) (l.length + 1) (cellsG hopE (l ++ [p]))) : HK W bk (l ++ [p]) := by
  unfold HK
  rw [List.length_append, List.length_singleton]
  exact h
section
variable {l lo n₀ : Nat} {J : Nat → (Nat → Prop) → World → Prop} {Jx : World → Prop} {L : List Ft} {w : World} {vo vy : Value} {m : Nat} {Ls : List ((Int × Int) × (Int × Int))} {Hs : List (ByteArray × (Int × Int))} {As Bs : List (List Ru)}
/-- One hop more in the row: what is so there. -/
theorem WkI.hop {X Y : Nat → Prop} {k bk : Nat} {lst : List ((Int × Int) × Int)} {A W : World} (cx : MCx l lo n₀ J Jx L w vo vy m Ls Hs As Bs) (h : WkI lo n₀ J w X Y k bk lst A) (hk : Kb (fun b => b ≠ bk) A W) {p : (Int × Int) × Int} (hh : HK W bk (lst ++ [p])) : WkI lo n₀ J w X Y k bk (lst ++ [p]) W := by
  have hbk := h.y bk h.yb
  have hnl := cx.nlo
  refine ⟨h.b.trans (hk.below (by have := h.s; omega) (fun b hb => by omega)), Nat.le_trans h.s hk.size, cx.ab _ _ _ _ h.j (hk.mono (fun b _ hx => ?_)), fun b hy => ?_, h.yb, hh⟩
  · intro e
    subst e
    rcases hx with hx | hx
    · omega
    · exact hbk.2.2 hx
  · have := h.y b hy
    exact ⟨this.1, Nat.lt_of_lt_of_le this.2.1 hk.size, this.2.2⟩
theorem WkP.hop {X Y : Nat → Prop} {k bk : Nat} {lst : List ((Int × Int) × Int)} {A W A' : World} {r : Bool} {p : (Int × Int) × Int} (hn : n₀ ≤ bk) (hk : Kb (fun b => b ≠ bk) A W) (h : WkP n₀ J Jx X Y k bk (lst ++ [p]) W r A') : WkP n₀ J Jx X Y k bk lst A r A' := by
  obtain ⟨h, h4⟩ := h
  refine ⟨?_, (hk.mono (fun b _ h => ?_)).trans h4⟩
  · cases r with
    | false => exact h
    | true =>
      obtain ⟨⟨X', h1, h2⟩, h3⟩ := h
      exact ⟨⟨X', h1, fun b hx => (h2 b hx).imp id (fun h => Nat.le_trans hk.size h)⟩, h3.pre⟩
  · rcases h with h | h
    · omega
    · exact h.2

set_option maxHeartbeats 8000000 in
set_option maxRecDepth 100000 in
theorem take_on (cx : MCx l lo n₀ J Jx L w vo vy m Ls Hs As Bs) (n : Nat) (hW : WkOK l lo n₀ J Jx L w vo vy m Ls Hs As Bs n) (A : World) (k : Nat) (X Y : Nat → Prop) (bk : Nat) (lst : List ((Int × Int) × Int)) (met : Nat → Bool) (c d e : Int) (b : ByteArray) (hlen : lst.length + n = 24) (hn1 : 1 ≤ n) (hI : WkI lo n₀ J w X Y k bk lst A) (hsp : spB (m : Int) (c, d) = true) (hhd : hdrB e = true) (hL : Nxt L k (pwL Ls Hs As Bs n (lst ++ [((c, d), e)]) met)) :
    Calls Tryz.prog 83 #[.agg #[vo, vy], .agg #[.int .i64 0, .string b, .int .i64 c, .int .i64 d, .int .i64 e], .slice (some ⟨bk, 0, none⟩) lst.length 24, metV met, .func (.yield l) #[] #[]] A fun e' A' => ∃ r, e' = .returned (.bool r) ∧ WkP n₀ J Jx X Y (k + (pwL Ls Hs As Bs n (lst ++ [((c, d), e)]) met).length) bk lst A r A' := by
  have hT := tb_new A vo vy (0, b, ((c, d), e)) met
  dsimp only at hT
  obtain ⟨A1, hA1⟩ : ∃ W, tbox A vo vy 0 b c d e (met 0) (met 1) (met 2) (met 3) (met 4) (met 5) = W := ⟨_, rfl⟩
  rw [hA1] at hT
  have hI1 := hI.later cx hT.below
  have hbk := hI.y bk hI.yb
  obtain ⟨N, hN⟩ : ∃ N, N = (pwL Ls Hs As Bs n (lst ++ [((c, d), e)]) met).length := ⟨_, rfl⟩
  rw [← hN]
  have HWK : Hid (∀ W, Kb (fun b => b ≠ bk) A1 W → HK W bk (lst ++ [((c, d), e)]) → Calls Tryz.prog 52 #[.agg #[vo, vy], .slice (some ⟨bk, 0, none⟩) (lst.length + 1) 24, .agg #[.bool (met 0), .bool (met 1), .bool (met 2), .bool (met 3), .bool (met 4), .bool (met 5)], .func (.yield l) #[] #[]] W fun e A' => ∃ r, e = .returned (.bool r) ∧ WkP n₀ J Jx X Y (k + N) bk lst A r A' ∧ Kb (fun b => A.heap.size ≤ b ∧ b < A1.heap.size) W A') := fun W hk hh => by
    have h := hW W k X _ bk (lst ++ [((c, d), e)]) met (by rw [List.length_append, List.length_singleton]; omega) hn1 (by rw [List.length_append]; simp) (hI1.hop cx hk hh) (by rw [la_app]; exact hsp) (by rw [la_app]; exact hhd) hL
    rw [← hN, List.length_append, List.length_singleton] at h
    refine h.mono ?_
    rintro e' A' ⟨r, rfl, hP⟩
    exact ⟨r, rfl, WkP.back hT.below (WkP.hop (Nat.le_trans cx.nlo hbk.1) hk hP), hP.2.mono (fun b _ h => .inr ⟨.inr h, by omega⟩)⟩
  have HSW : Hid (∀ W, Kb (fun b => A.heap.size ≤ b ∧ b < A1.heap.size) A1 W → W.cell? ⟨A.heap.size, 0, none⟩ = some vo ∧ W.cell? ⟨A.heap.size, 1, none⟩ = some vy ∧ W.cell? ⟨A.heap.size + 1, 2, none⟩ = some (.int .i64 c) ∧ W.cell? ⟨A.heap.size + 1, 3, none⟩ = some (.int .i64 d) ∧ W.cell? ⟨A.heap.size + 1, 4, none⟩ = some (.int .i64 e) ∧ W.cell? ⟨A.heap.size + 1 + 1, 0, none⟩ = some (.bool (met 0)) ∧ W.cell? ⟨A.heap.size + 1 + 1, 1, none⟩ = some (.bool (met 1)) ∧ W.cell? ⟨A.heap.size + 1 + 1, 2, none⟩ = some (.bool (met 2)) ∧ W.cell? ⟨A.heap.size + 1 + 1, 3, none⟩ = some (.bool (met 3)) ∧ W.cell? ⟨A.heap.size + 1 + 1, 4, none⟩ = some (.bool (met 4)) ∧ W.cell? ⟨A.heap.size + 1 + 1, 5, none⟩ = some (.bool (met 5))) := fun W hk => by
    have hsz := hT.size
    have a0 : A.heap.size ≤ A.heap.size ∧ A.heap.size < A1.heap.size := by omega
    have a1 : A.heap.size ≤ A.heap.size + 1 ∧ A.heap.size + 1 < A1.heap.size := by omega
    have a2 : A.heap.size ≤ A.heap.size + 1 + 1 ∧ A.heap.size + 1 + 1 < A1.heap.size := by omega
    exact ⟨hk.at hT.x0 a0, hk.at hT.x1 a0, hk.at hT.g2 a1, hk.at hT.g3 a1, hk.at hT.g4 a1, hk.at hT.m0 a2, hk.at hT.m1 a2, hk.at hT.m2 a2, hk.at hT.m3 a2, hk.at hT.m4 a2, hk.at hT.m5 a2⟩
  have HOW : Hid (∀ W, Kb (fun _ => True) A1 W → W.ownsRow 0 74 hopE.n (.slice (some ⟨bk, 0, none⟩) lst.length 24) lst.length (cellsG hopE lst)) := fun W hk => hI1.h.kb hk trivial
  have HRM : Hid (lst.length + 1 ≤ 24) := by show _ ≤ _; omega
  have HA1 : Hid (((A.alloc (Obj.cells #[vo, vy] 80)).alloc (Obj.cells #[.int .i64 0, .string b, .int .i64 c, .int .i64 d, .int .i64 e] 155)).alloc (Obj.cells #[.bool (met 0), .bool (met 1), .bool (met 2), .bool (met 3), .bool (met 4), .bool (met 5)] 123) = A1) := hA1
  have HNB : Hid (∀ b, b < A1.heap.size → (A.heap.size ≤ b ∧ b < A1.heap.size) → b ≠ bk) := fun b _ h => by omega
  obtain ⟨_, hsz, x0, x1, g0, g1, g2, g3, g4, m0, m1, m2, m3, m4, m5⟩ := hT
  have hlA : A.heap.size < A1.heap.size := by omega
  have hlA1 : A.heap.size + 1 < A1.heap.size := by omega
  have hlA2 : A.heap.size + 1 + 1 < A1.heap.size := by omega
  dsimp only at g0 g1 g2 g3 g4
  unfold metV
  obtain ⟨j0, hj, hy0, hy1, hy2⟩ := info_parts hop_info
  clear hW hlen hn1 hI hI1 hsp hhd hL hA1 hN hbk hsz
  go_enter Tryz.func83, Tryz.ntmps83
  go_upto_region 1 with fail
  rw [HA1.out]
  clear HA1
  go_upto_region 3 with fail
  go_region_held3 (fun W => W.cell? ⟨A.heap.size, 0, none⟩ = some vo ∧ W.cell? ⟨A.heap.size, 1, none⟩ = some vy ∧ W.cell? ⟨A.heap.size + 1, 2, none⟩ = some (.int .i64 c) ∧ W.cell? ⟨A.heap.size + 1, 3, none⟩ = some (.int .i64 d) ∧ W.cell? ⟨A.heap.size + 1, 4, none⟩ = some (.int .i64 e) ∧ W.cell? ⟨A.heap.size + 1 + 1, 0, none⟩ = some (.bool (met 0)) ∧ W.cell? ⟨A.heap.size + 1 + 1, 1, none⟩ = some (.bool (met 1)) ∧ W.cell? ⟨A.heap.size + 1 + 1, 2, none⟩ = some (.bool (met 2)) ∧ W.cell? ⟨A.heap.size + 1 + 1, 3, none⟩ = some (.bool (met 3)) ∧ W.cell? ⟨A.heap.size + 1 + 1, 4, none⟩ = some (.bool (met 4)) ∧ W.cell? ⟨A.heap.size + 1 + 1, 5, none⟩ = some (.bool (met 5)))
    (first | (with_reducible assumption) | (with_reducible exact HSW.out _ (Kb.refl _ _).drew) | (with_reducible exact HSW.out _ ((Kb.refl _ _).drew.alloc _)) | (with_reducible exact HSW.out _ ((Kb.refl _ _).alloc _).drew) | (with_reducible exact HSW.out _ HK4.out) | (with_reducible exact HSW.out _ HK6.out))
    (first
      | (refine step_append_fits (E := hopE) _ (by rfl) _ _ 75 74 (by rfl) Tryz.underlying75 j0 hj hy1 0 bk 24 lst (by rfl) (HOW.out _ ?_) _ 0 1 (by rfl) ((c, d), e) ?_ HRM.out ?_; (focus (first | exact (Kb.refl _ _).drew | exact (Kb.refl _ _).drew.alloc _ | exact ((Kb.refl _ _).alloc _).drew)); (focus (exact hop_new A1 c d e _)); intro w5 ho5 hg5; have HK5 : Hid (Kb (fun b => b ≠ bk) A1 w5) := (Kb.grown (by first | exact ((Kb.refl _ _).alloc _).drew | exact (Kb.refl _ _).drew.alloc _) hg5 (fun r er _ h => h (by cases er; rfl))); have HK4 : Hid (Kb (fun b => A.heap.size ≤ b ∧ b < A1.heap.size) A1 w5) := (HK5.out.mono HNB.out); have HH5 : Hid (HK w5 bk (lst ++ [((c, d), e)])) := (hk_of ho5); clear ho5 hg5)
      | (go_at_call 52; refine (HWK.out _ HK5.out HH5.out).mono ?_; rintro e6 w6 ⟨r, rfl, hP, hq6⟩; have HP : Hid (WkP n₀ J Jx X Y (k + N) bk lst A r w6) := hP; have HK6 : Hid (Kb (fun b => A.heap.size ≤ b ∧ b < A1.heap.size) A1 w6) := (HK4.out.trans hq6); clear hP hq6))
  all_goals go_wp2
  all_goals go_ret
  all_goals exact ⟨_, rfl, HP.out⟩
end
end Go.Proofs.YtglnnoglbieaeaaGreatDoor
/- What walk of package mix answers: hop by hop. -/
namespace Go.Proofs.YtglnnoglbieaeaaGreatDoor
open Go.RowKit Go.Shelf
set_option linter.unusedSimpArgs false
set_option linter.unusedVariables false

section
variable {l lo n₀ : Nat} {J : Nat → (Nat → Prop) → World → Prop} {Jx : World → Prop} {L : List Ft} {w : World} {vo vy : Value} {m : Nat} {Ls : List ((Int × Int) × (Int × Int))} {Hs : List (ByteArray × (Int × Int))} {As Bs : List (List Ru)}
theorem take_ok (cx : MCx l lo n₀ J Jx L w vo vy m Ls Hs As Bs) (n : Nat) (hW : 1 ≤ n → WkOK l lo n₀ J Jx L w vo vy m Ls Hs As Bs n) : TkOK l lo n₀ J Jx L w vo vy m Ls Hs As Bs n := by
  rintro A k X Y bk lst met g hlen h0 hI ⟨Ts, rfl⟩ hL
  by_cases hg : (lgA Ls Hs Ts lst).1 = 0
  · have h24 := la_24 hg
    have e : tkL (pwL Ls Hs As Bs n) (lgA Ls Hs Ts lst) lst met = pwL Ls Hs As Bs n (lst ++ [(lgA Ls Hs Ts lst).2.2]) met := by rw [tkL, if_pos hg]
    rw [e] at hL ⊢
    have hsp := la_sp cx.tp hg
    have hhd := la_hdr hg
    unfold legV
    clear e
    generalize lgA Ls Hs Ts lst = G at hg hL hsp hhd ⊢
    obtain ⟨a, b, ⟨c, d⟩, e'⟩ := G
    dsimp only at hg hL hsp hhd ⊢
    subst hg
    exact take_on cx n (hW (by omega)) A k X Y bk lst met c d e' b hlen (by omega) hI hsp hhd hL
  · have e : tkL (pwL Ls Hs As Bs n) (lgA Ls Hs Ts lst) lst met = [((lgA Ls Hs Ts lst).1, (lgA Ls Hs Ts lst).2.1, lst)] := by rw [tkL, if_neg hg]
    rw [e] at hL ⊢
    exact (callsIn_wide (n := 3)).1 (take_end cx 3 (by omega) A k X Y bk lst met _ hI hg (hL 0 _ rfl))
/-- The leg of a hop, where it lies. -/
theorem lgs_at {W : World} {B : Nat} {v : Value} {f : Nat → Nat → Lg} {m a h : Nat} (hl : LGs W B v f m) (ha : a < m) (hh : h < 16) : ∃ g o cap ga oa ca, v = .slice (some ⟨g, o, none⟩) m cap ∧ W.cell? ⟨g, o + a, none⟩ = some (.slice (some ⟨ga, oa, none⟩) 16 ca) ∧ W.cell? ⟨ga, oa + h * 5, none⟩ = some (.int .i64 (f a h).1) ∧ W.cell? ⟨ga, oa + h * 5 + 1, none⟩ = some (.string (f a h).2.1) ∧ W.cell? ⟨ga, oa + h * 5 + 2, none⟩ = some (.int .i64 (f a h).2.2.1.1) ∧ W.cell? ⟨ga, oa + h * 5 + 3, none⟩ = some (.int .i64 (f a h).2.2.1.2) ∧ W.cell? ⟨ga, oa + h * 5 + 4, none⟩ = some (.int .i64 (f a h).2.2.2) := by
  obtain ⟨vs, h1, h2⟩ := hl
  obtain ⟨u, hu, h3⟩ := h2 a ha
  have hG := own_GS (E := legE) (L := (List.range 16).map (f a)) (by rw [List.length_map, List.length_range]; exact h3)
  obtain ⟨ao, n, ca, rfl, hn, _, _, hA⟩ := hG.form
  have hn2 : n = 16 := by rw [← hn]; simp
  subst hn2
  obtain ⟨ga, oa, rfl, hga, _⟩ := hA (by omega)
  rcases h1.2 with ⟨rfl, h⟩ | ⟨g, cap, cur, rfl, _, hg, _, _, hcs, ht⟩
  · omega
  · refine ⟨g, 0, cap, ga, oa, ca, rfl, ?_, ?_⟩
    · have := World.ownsRow.cellAt h1 a (by omega)
      rw [Nat.zero_add, this]
      exact hu
    · have h5 := leg_cells (x0 := (f a h).1) (x1 := (f a h).2.1) (x2 := (f a h).2.2.1.1) (x3 := (f a h).2.2.1.2) (x4 := (f a h).2.2.2) (by
        have := hga h (by simpa using hh)
        rw [show ((List.range 16).map (f a))[h]'(by simpa using hh) = f a h by simp] at this
        exact this : VAt W ga (oa + h * 5) (legE.c ((f a h).1, (f a h).2.1, (((f a h).2.2.1.1, (f a h).2.2.1.2), (f a h).2.2.2))))
      exact h5
/-- Behind what was handed on a walk may go on. -/
theorem WkI.next {X Y : Nat → Prop} {k k2 bk : Nat} {lst : List ((Int × Int) × Int)} {A A' : World} (cx : MCx l lo n₀ J Jx L w vo vy m Ls Hs As Bs) (h : WkI lo n₀ J w X Y k bk lst A) (hp : WkP n₀ J Jx X Y k2 bk lst A true A') : ∃ X', WkI lo n₀ J w X' Y k2 bk lst A' ∧ ∀ b, X' b → X b ∨ A.heap.size ≤ b := by
  obtain ⟨⟨⟨X', h1, h2⟩, h3⟩, h4⟩ := hp
  have hnl := cx.nlo
  refine ⟨X', ⟨h.b.trans (h4.below (by have := h.s; omega) (fun b hb => .inl hb)), Nat.le_trans h.s h4.size, h1, fun b hy => ?_, h.yb, h3⟩, h2⟩
  have q := h.y b hy
  refine ⟨q.1, Nat.lt_of_lt_of_le q.2.1 h4.size, fun hx => ?_⟩
  rcases h2 b hx with hx | hx
  · exact q.2.2 hx
  · omega
/-- A cell of one's own is set. -/
theorem WkI.set {X Y : Nat → Prop} {k bk b i : Nat} {lst : List ((Int × Int) × Int)} {A : World} {u : Value} (cx : MCx l lo n₀ J Jx L w vo vy m Ls Hs As Bs) (h : WkI lo n₀ J w X Y k bk lst A) (hb : Y b) (hne : b ≠ bk) : WkI lo n₀ J w X Y k bk lst (A.setCell ⟨b, i, none⟩ u) := by
  have q := h.y b hb
  have hnl := cx.nlo
  have hk : ∀ {p : Nat → Prop}, ¬ p b → Kb p A (A.setCell ⟨b, i, none⟩ u) := fun hp => (Kb.refl _ _).setCell (q := ⟨b, i, none⟩) (fun _ => hp) u
  have hs : A.heap.size ≤ (A.setCell ⟨b, i, none⟩ u).heap.size := (hk (p := fun _ => False) (fun h => h)).size
  refine ⟨h.b.trans ((hk (p := fun x => x ≠ b) (fun h => h rfl)).below (by have := h.s; omega) (fun x hx => by omega)), Nat.le_trans h.s hs, cx.ab _ _ _ _ h.j (hk ?_), fun x hx => ?_, h.yb, h.h.kb (hk (p := fun x => x ≠ b) (fun h => h rfl)) (fun e => hne e.symm)⟩
  · rintro (h' | h')
    · omega
    · exact q.2.2 h'
  · have := h.y x hx
    exact ⟨this.1, Nat.lt_of_lt_of_le this.2.1 hs, this.2.2⟩
/-- The boxes of walk: the legs' two rows, what was met, the last hop. -/
structure QB (A W : World) (vo vy : Value) (met : Nat → Bool) (x y h : Int) : Prop where
  x0 : W.cell? ⟨A.heap.size, 0, none⟩ = some vo
  x1 : W.cell? ⟨A.heap.size, 1, none⟩ = some vy
  m : ∀ i, i < 6 → W.cell? ⟨A.heap.size + 1, i, none⟩ = some (.bool (met i))
  mf : ∀ i, W.frozen? ⟨A.heap.size + 1, i, none⟩ = false
  h0 : W.cell? ⟨A.heap.size + 1 + 1, 0, none⟩ = some (.int .i64 x)
  h1 : W.cell? ⟨A.heap.size + 1 + 1, 1, none⟩ = some (.int .i64 y)
  h2 : W.cell? ⟨A.heap.size + 1 + 1, 2, none⟩ = some (.int .i64 h)
theorem QB.kb {A W W' : World} {vo vy : Value} {met : Nat → Bool} {x y h : Int} {p : Nat → Prop} (q : QB A W vo vy met x y h) (hk : Kb p W W') (hp : ∀ b, A.heap.size ≤ b → b < A.heap.size + 3 → p b) : QB A W' vo vy met x y h :=
  ⟨hk.at q.x0 (hp _ (Nat.le_refl _) (by simp)), hk.at q.x1 (hp _ (Nat.le_refl _) (by simp)), fun i hi => hk.at (q.m i hi) (hp _ (Nat.le_add_right _ _) (by simp)), fun i => (hk.frozen (q := ⟨A.heap.size + 1, i, none⟩) (show (⟨A.heap.size + 1, 0, none⟩ : Addr).block < W.heap.size from World.block_lt_of_cell? W ⟨A.heap.size + 1, 0, none⟩ (q.m 0 (by omega))) (hp _ (Nat.le_add_right _ _) (by simp))).trans (q.mf i), hk.at q.h0 (hp _ (by simp; omega) (by simp)), hk.at q.h1 (hp _ (by simp; omega) (by simp)), hk.at q.h2 (hp _ (by simp; omega) (by simp))⟩
def qbox (A : World) (vo vy : Value) (q0 q1 q2 q3 q4 q5 : Bool) (x y h : Int) : World := ((A.alloc (Obj.cells #[vo, vy] 80)).alloc (Obj.cells #[.bool q0, .bool q1, .bool q2, .bool q3, .bool q4, .bool q5] 123)).alloc (Obj.cells #[.int .i64 x, .int .i64 y, .int .i64 h] 74)
theorem qb_new (A : World) (vo vy : Value) (met : Nat → Bool) (x y h : Int) : QB A (qbox A vo vy (met 0) (met 1) (met 2) (met 3) (met 4) (met 5) x y h) vo vy met x y h ∧ Below A.heap.size A (qbox A vo vy (met 0) (met 1) (met 2) (met 3) (met 4) (met 5) x y h) ∧ (qbox A vo vy (met 0) (met 1) (met 2) (met 3) (met 4) (met 5) x y h).heap.size = A.heap.size + 3 := by
  have hb : ∀ (W : World) (o : Obj), Below W.heap.size W (W.alloc o) := fun W o => (Below.refl _ _).alloc (Nat.le_refl _) _
  unfold qbox
  have e1 : (A.alloc (Obj.cells #[vo, vy] 80)).heap.size = A.heap.size + 1 := by simp
  have k1 := vat_new A [vo, vy] 80
  have hB1 := hb A (Obj.cells #[vo, vy] 80)
  generalize A.alloc (Obj.cells #[vo, vy] 80) = A1 at e1 k1 hB1
  have e2 : (A1.alloc (Obj.cells #[.bool (met 0), .bool (met 1), .bool (met 2), .bool (met 3), .bool (met 4), .bool (met 5)] 123)).heap.size = A.heap.size + 1 + 1 := by simp [e1]
  have k2 := vat_new A1 [.bool (met 0), .bool (met 1), .bool (met 2), .bool (met 3), .bool (met 4), .bool (met 5)] 123
  have f2 := froz_new2 A1 #[.bool (met 0), .bool (met 1), .bool (met 2), .bool (met 3), .bool (met 4), .bool (met 5)] 123
  have hB2 := hb A1 (Obj.cells #[.bool (met 0), .bool (met 1), .bool (met 2), .bool (met 3), .bool (met 4), .bool (met 5)] 123)
  rw [e1] at k2 f2
  have l2 : A.heap.size + 1 < (A1.alloc (Obj.cells #[.bool (met 0), .bool (met 1), .bool (met 2), .bool (met 3), .bool (met 4), .bool (met 5)] 123)).heap.size := by rw [e2]; omega
  generalize A1.alloc (Obj.cells #[.bool (met 0), .bool (met 1), .bool (met 2), .bool (met 3), .bool (met 4), .bool (met 5)] 123) = A2 at e2 k2 f2 hB2 l2
  have e3 : (A2.alloc (Obj.cells #[.int .i64 x, .int .i64 y, .int .i64 h] 74)).heap.size = A.heap.size + 3 := by simp [e2]
  have k3 := vat_new A2 [.int .i64 x, .int .i64 y, .int .i64 h] 74
  have hB3 := hb A2 (Obj.cells #[.int .i64 x, .int .i64 y, .int .i64 h] 74)
  rw [e2] at k3
  have j1 := (k1.later hB2).later hB3
  have j2 := k2.later hB3
  refine ⟨⟨j1 0 _ rfl, j1 1 _ rfl, fun i hi => ?_, fun i => (hB3.frozen (p := ⟨A.heap.size + 1, i, none⟩) l2).trans (f2 i), k3 0 _ rfl, k3 1 _ rfl, k3 2 _ rfl⟩, (hB1.trans (hB2.mono (by omega))).trans (hB3.mono (by omega)), e3⟩
  match i, hi with
  | 0, _ => exact j2 0 _ rfl
  | 1, _ => exact j2 1 _ rfl
  | 2, _ => exact j2 2 _ rfl
  | 3, _ => exact j2 3 _ rfl
  | 4, _ => exact j2 4 _ rfl
  | 5, _ => exact j2 5 _ rfl
/-- One more is met. -/
theorem QB.meet {A W : World} {vo vy : Value} {met : Nat → Bool} {x y h : Int} (q : QB A W vo vy met x y h) {a : Nat} (ha : a < 6) : QB A (W.setCell ⟨A.heap.size + 1, a, none⟩ (.bool true)) vo vy (mtS met a) x y h := by
  have o : ∀ (g j : Nat), (g, j) ≠ (A.heap.size + 1, a) → (W.setCell ⟨A.heap.size + 1, a, none⟩ (.bool true)).cell? ⟨g, j, none⟩ = W.cell? ⟨g, j, none⟩ := fun g j hne => World.cell?_setCell_other _ _ _ _ (by intro e; injection e with e1 e2; exact hne (by rw [e1, e2]))
  refine ⟨?_, ?_, fun i hi => ?_, fun i => ?_, ?_, ?_, ?_⟩
  · rw [o _ _ (by simp)]; exact q.x0
  · rw [o _ _ (by simp)]; exact q.x1
  · unfold mtS
    by_cases e : i = a
    · subst e
      rw [if_pos rfl]
      exact World.cell?_setCell_same _ _ _ (q.m i hi)
    · rw [if_neg e, o _ _ (by simp [e])]
      exact q.m i hi
  · rw [World.frozen?_setCell]; exact q.mf i
  · rw [o _ _ (by simp)]; exact q.h0
  · rw [o _ _ (by simp)]; exact q.h1
  · rw [o _ _ (by simp)]; exact q.h2
end
end Go.Proofs.YtglnnoglbieaeaaGreatDoor
/- What net.follow answers: a contract for the walks above it. -/
namespace Go.Proofs.YtglnnoglbieaeaaGreatDoor
open Go.RowKit
set_option linter.unusedSimpArgs false
set_option linter.unusedVariables false

/-- The boxes: a net, a hop, the answer's. -/
def fbox (w : World) (S : Int) (v1 v2 v3 : Value) (x y h : Int) : World := ((w.alloc (Obj.cells #[.int .i64 S, v1, v2, v3] 28)).alloc (Obj.cells #[.int .i64 x, .int .i64 y, .int .i64 h] 74)).alloc (Obj.cells #[.int .i64 0, .string ⟨#[]⟩, .slice none 0 0] 77)
structure FBox (w W : World) (S : Int) (v1 v2 v3 : Value) (x y h : Int) : Prop where
  below : Below w.heap.size w W
  n : NeBox W w.heap.size S v1 v2 v3
  i0 : W.cell? ⟨w.heap.size + 1, 0, none⟩ = some (.int .i64 x)
  i1 : W.cell? ⟨w.heap.size + 1, 1, none⟩ = some (.int .i64 y)
  i2 : W.cell? ⟨w.heap.size + 1, 2, none⟩ = some (.int .i64 h)
  r0 : W.cell? ⟨w.heap.size + 1 + 1, 0, none⟩ = some (.int .i64 0)
  r1 : W.cell? ⟨w.heap.size + 1 + 1, 1, none⟩ = some (.string ⟨#[]⟩)
  r2 : W.cell? ⟨w.heap.size + 1 + 1, 2, none⟩ = some (.slice none 0 0)
  f : ∀ i, W.frozen? ⟨w.heap.size + 1 + 1, i, none⟩ = false
theorem fbox_new (w : World) (S : Int) (v1 v2 v3 : Value) (x y h : Int) : FBox w (fbox w S v1 v2 v3 x y h) S v1 v2 v3 x y h := by
  have e1 : (w.alloc (Obj.cells #[.int .i64 S, v1, v2, v3] 28)).heap.size = w.heap.size + 1 := by simp
  have e2 : ((w.alloc (Obj.cells #[.int .i64 S, v1, v2, v3] 28)).alloc (Obj.cells #[.int .i64 x, .int .i64 y, .int .i64 h] 74)).heap.size = w.heap.size + 1 + 1 := by simp
  have hb : ∀ (W : World) (o : Obj), Below W.heap.size W (W.alloc o) := fun W o => (Below.refl _ _).alloc (Nat.le_refl _) _
  have hs := (vat_new (w.alloc (Obj.cells #[.int .i64 S, v1, v2, v3] 28)) [.int .i64 x, .int .i64 y, .int .i64 h] 74).later (hb _ (Obj.cells #[.int .i64 0, .string ⟨#[]⟩, .slice none 0 0] 77))
  rw [e1] at hs
  have hr := vat_new ((w.alloc (Obj.cells #[.int .i64 S, v1, v2, v3] 28)).alloc (Obj.cells #[.int .i64 x, .int .i64 y, .int .i64 h] 74)) [.int .i64 0, .string ⟨#[]⟩, .slice none 0 0] 77
  rw [e2] at hr
  have hf : ∀ k, (fbox w S v1 v2 v3 x y h).frozen? ⟨((w.alloc (Obj.cells #[.int .i64 S, v1, v2, v3] 28)).alloc (Obj.cells #[.int .i64 x, .int .i64 y, .int .i64 h] 74)).heap.size, k, none⟩ = false := fun k => by
    unfold fbox
    generalize (w.alloc (Obj.cells #[.int .i64 S, v1, v2, v3] 28)).alloc (Obj.cells #[.int .i64 x, .int .i64 y, .int .i64 h] 74) = X
    simp
  rw [e2] at hf
  exact ⟨(((Below.refl _ _).alloc (Nat.le_refl _) _).alloc (by rw [e1]; omega) _).alloc (by rw [e2]; omega) _, ((nebox_new w S v1 v2 v3 28).later (hb _ _)).later (hb _ _), hs 0 _ rfl, hs 1 _ rfl, hs 2 _ rfl, hr 0 _ rfl, hr 1 _ rfl, hr 2 _ rfl, hf⟩
theorem FBox.lt {w W : World} {S : Int} {v1 v2 v3 : Value} {x y h : Int} (k : FBox w W S v1 v2 v3 x y h) : w.heap.size + 3 ≤ W.heap.size := World.block_lt_of_cell? W ⟨w.heap.size + 1 + 1, 0, none⟩ k.r0
theorem FBox.later {w W W' : World} {S : Int} {v1 v2 v3 : Value} {x y h : Int} (k : FBox w W S v1 v2 v3 x y h) {B : Nat} (hB : w.heap.size + 3 ≤ B) (hb : Below B W W') : FBox w W' S v1 v2 v3 x y h :=
  have hc : ∀ (g i : Nat) (x : Value), g < w.heap.size + 3 → W.cell? ⟨g, i, none⟩ = some x → W'.cell? ⟨g, i, none⟩ = some x := fun g i x hg e => (hb.cell (p := ⟨g, i, none⟩) (show g < B by omega)).trans e
  ⟨k.below.trans (hb.mono (by omega)), ⟨hc _ _ _ (by omega) k.n.1, hc _ _ _ (by omega) k.n.2.1, hc _ _ _ (by omega) k.n.2.2.1, hc _ _ _ (by omega) k.n.2.2.2⟩, hc _ _ _ (by omega) k.i0, hc _ _ _ (by omega) k.i1, hc _ _ _ (by omega) k.i2, hc _ _ _ (by omega) k.r0, hc _ _ _ (by omega) k.r1, hc _ _ _ (by omega) k.r2, fun i => (hb.frozen (p := ⟨w.heap.size + 1 + 1, i, none⟩) (show w.heap.size + 1 + 1 < B by omega)).trans (k.f i)⟩

theorem ballocD {w w' : World} {a b c : Value} {t : TypeId} (hb : Below (w.drew.alloc (Obj.cells #[a, b, c] t)).heap.size (w.drew.alloc (Obj.cells #[a, b, c] t)) w') : (w'.cell? ⟨w.heap.size, 0, none⟩ = some a ∧ w'.cell? ⟨w.heap.size, 1, none⟩ = some b ∧ w'.cell? ⟨w.heap.size, 2, none⟩ = some c) ∧ w'.frozen? ⟨w.heap.size, 0, none⟩ = false ∧ w'.frozen? ⟨w.heap.size, 1, none⟩ = false ∧ w'.frozen? ⟨w.heap.size, 2, none⟩ = false := by
  have h := vat_new w.drew [a, b, c] t
  have hl : w.heap.size < (w.drew.alloc (Obj.cells #[a, b, c] t)).heap.size := by simp
  exact ⟨⟨cell_later hb (h 0 _ rfl), cell_later hb (h 1 _ rfl), cell_later hb (h 2 _ rfl)⟩, (hb.frozen (p := ⟨w.heap.size, 0, none⟩) hl).trans (froz_new2 w.drew #[a, b, c] t 0), (hb.frozen (p := ⟨w.heap.size, 1, none⟩) hl).trans (froz_new2 w.drew #[a, b, c] t 1), (hb.frozen (p := ⟨w.heap.size, 2, none⟩) hl).trans (froz_new2 w.drew #[a, b, c] t 2)⟩
/-- Three cells of one block are set. -/
def put3 (W : World) (g : Nat) (u v x : Value) : World := ((W.setCell ⟨g, 0, none⟩ u).setCell ⟨g, 1, none⟩ v).setCell ⟨g, 2, none⟩ x
theorem put3_cells {W : World} {g : Nat} {a b c u v x : Value} (k : W.cell? ⟨g, 0, none⟩ = some u ∧ W.cell? ⟨g, 1, none⟩ = some v ∧ W.cell? ⟨g, 2, none⟩ = some x) : (put3 W g a b c).cell? ⟨g, 0, none⟩ = some a ∧ (put3 W g a b c).cell? ⟨g, 1, none⟩ = some b ∧ (put3 W g a b c).cell? ⟨g, 2, none⟩ = some c := by
  unfold put3
  have h1 : (W.setCell ⟨g, 0, none⟩ a).cell? ⟨g, 1, none⟩ = some v := by
    rw [World.cell?_setCell_other _ _ _ _ (by simp)]
    exact k.2.1
  have h2 : ((W.setCell ⟨g, 0, none⟩ a).setCell ⟨g, 1, none⟩ b).cell? ⟨g, 2, none⟩ = some x := by
    rw [World.cell?_setCell_other _ _ _ _ (by simp), World.cell?_setCell_other _ _ _ _ (by simp)]
    exact k.2.2
  refine ⟨?_, ?_, World.cell?_setCell_same _ _ _ h2⟩
  · rw [World.cell?_setCell_other _ _ _ _ (by simp), World.cell?_setCell_other _ _ _ _ (by simp)]
    exact World.cell?_setCell_same _ _ _ k.1
  · rw [World.cell?_setCell_other _ _ _ _ (by simp)]
    exact World.cell?_setCell_same _ _ _ h1
theorem below_put3 {B : Nat} {w W : World} (h : Below B w W) (g : Nat) (hg : B ≤ g) (u v x : Value) : Below B w (put3 W g u v x) := ((h.setCell (p := ⟨g, 0, none⟩) hg u).setCell (p := ⟨g, 1, none⟩) hg v).setCell (p := ⟨g, 2, none⟩) hg x
theorem own_put3 {W : World} {B e size n : Nat} {v : Value} {xs : List Value} (h : W.ownsRow B e size v n xs) (g : Nat) (hg : g < B) (a b c : Value) : (put3 W g a b c).ownsRow B e size v n xs := ownsRow_setCell_below (ownsRow_setCell_below (ownsRow_setCell_below h hg _) hg _) hg _
theorem hop_in {x y h : Int} {p : (Int × Int) × Int} (e : p = ((x, y), h)) : p.1.1 = x ∧ p.1.2 = y ∧ p.2 = h := by
  subst e
  exact ⟨rfl, rfl, rfl⟩
/-- A leg lies in these cells. -/
def LegAt (W : World) (g : Nat) (a : Int) (b : ByteArray) (c d e : Int) : Prop := W.cell? ⟨g, 0, none⟩ = some (.int .i64 a) ∧ W.cell? ⟨g, 1, none⟩ = some (.string b) ∧ W.cell? ⟨g, 2, none⟩ = some (.int .i64 c) ∧ W.cell? ⟨g, 3, none⟩ = some (.int .i64 d) ∧ W.cell? ⟨g, 4, none⟩ = some (.int .i64 e)
theorem lat_of {W : World} {g : Nat} {a : Int} {b : ByteArray} {c d e : Int} (h0 : W.cell? ⟨g, 0, none⟩ = some (.int .i64 a)) (h1 : W.cell? ⟨g, 1, none⟩ = some (.string b)) (h2 : W.cell? ⟨g, 2, none⟩ = some (.int .i64 c)) (h3 : W.cell? ⟨g, 3, none⟩ = some (.int .i64 d)) (h4 : W.cell? ⟨g, 4, none⟩ = some (.int .i64 e)) : LegAt W g a b c d e := ⟨h0, h1, h2, h3, h4⟩
theorem LegAt.later {W W' : World} {g : Nat} {a : Int} {b : ByteArray} {c d e : Int} (h : LegAt W g a b c d e) (hb : Below W.heap.size W W') : LegAt W' g a b c d e := ⟨cell_later hb h.1, cell_later hb h.2.1, cell_later hb h.2.2.1, cell_later hb h.2.2.2.1, cell_later hb h.2.2.2.2⟩
theorem lat_new (W : World) (a : Int) (b : ByteArray) (c d e : Int) (t : TypeId) : LegAt (W.alloc (Obj.cells #[.int .i64 a, .string b, .int .i64 c, .int .i64 d, .int .i64 e] t)) W.heap.size a b c d e :=
  have h := vat_new W [.int .i64 a, .string b, .int .i64 c, .int .i64 d, .int .i64 e] t
  ⟨h 0 _ rfl, h 1 _ rfl, h 2 _ rfl, h 3 _ rfl, h 4 _ rfl⟩
theorem lat_put5 {W : World} {g : Nat} {a' : Int} {b' : ByteArray} {c' d' e' : Int} (k : LegAt W g a' b' c' d' e') (a : Int) (b : ByteArray) (c d e : Int) : LegAt (put5 W g (.int .i64 a) (.string b) (.int .i64 c) (.int .i64 d) (.int .i64 e)) g a b c d e := by
  obtain ⟨k0, k1, k2, k3, k4⟩ := k
  unfold put5
  have o : ∀ (W : World) (i j : Nat) (x : Value), i ≠ j → (W.setCell ⟨g, i, none⟩ x).cell? ⟨g, j, none⟩ = W.cell? ⟨g, j, none⟩ := fun W i j x h => World.cell?_setCell_other _ _ _ _ (by intro e; exact h (by injection e))
  refine ⟨?_, ?_, ?_, ?_, ?_⟩
  · rw [o _ _ _ _ (by decide), o _ _ _ _ (by decide), o _ _ _ _ (by decide), o _ _ _ _ (by decide)]; exact World.cell?_setCell_same _ _ _ k0
  · rw [o _ _ _ _ (by decide), o _ _ _ _ (by decide), o _ _ _ _ (by decide)]; exact World.cell?_setCell_same _ _ _ (by rw [o _ _ _ _ (by decide)]; exact k1)
  · rw [o _ _ _ _ (by decide), o _ _ _ _ (by decide)]; exact World.cell?_setCell_same _ _ _ (by rw [o _ _ _ _ (by decide), o _ _ _ _ (by decide)]; exact k2)
  · rw [o _ _ _ _ (by decide)]; exact World.cell?_setCell_same _ _ _ (by rw [o _ _ _ _ (by decide), o _ _ _ _ (by decide), o _ _ _ _ (by decide)]; exact k3)
  · exact World.cell?_setCell_same _ _ _ (by rw [o _ _ _ _ (by decide), o _ _ _ _ (by decide), o _ _ _ _ (by decide), o _ _ _ _ (by decide)]; exact k4)
theorem below_5 {B : Nat} {w W : World} (h : Below B w W) (g : Nat) (hg : B ≤ g) (a b c d e : Value) : Below B w (((((W.setCell ⟨g, 0, none⟩ a).setCell ⟨g, 1, none⟩ b).setCell ⟨g, 2, none⟩ c).setCell ⟨g, 3, none⟩ d).setCell ⟨g, 4, none⟩ e) := below_put5 h g hg a b c d e
theorem lat_5 {W : World} {g : Nat} {a' : Int} {b' : ByteArray} {c' d' e' : Int} (k : LegAt W g a' b' c' d' e') (a : Int) (b : ByteArray) (c d e : Int) : LegAt (((((W.setCell ⟨g, 0, none⟩ (.int .i64 a)).setCell ⟨g, 1, none⟩ (.string b)).setCell ⟨g, 2, none⟩ (.int .i64 c)).setCell ⟨g, 3, none⟩ (.int .i64 d)).setCell ⟨g, 4, none⟩ (.int .i64 e)) g a b c d e := lat_put5 k a b c d e
/-- An empty leg in its box. -/
def ZL (W : World) (g : Nat) : Prop := LegAt W g 0 ⟨#[]⟩ 0 0 0 ∧ ∀ i, W.frozen? ⟨g, i, none⟩ = false
theorem ZL.lt {W : World} {g : Nat} (h : ZL W g) : g < W.heap.size := World.block_lt_of_cell? W ⟨g, 0, none⟩ h.1.1
theorem ZL.later {W W' : World} {g : Nat} (h : ZL W g) (hb : Below W.heap.size W W') : ZL W' g := ⟨h.1.later hb, fun i => (hb.frozen (p := ⟨g, i, none⟩) h.lt).trans (h.2 i)⟩
theorem zl_new (W : World) (t : TypeId) : ZL (W.alloc (Obj.cells #[.int .i64 0, .string ⟨#[]⟩, .int .i64 0, .int .i64 0, .int .i64 0] t)) W.heap.size := ⟨lat_new W 0 ⟨#[]⟩ 0 0 0 t, froz_new2 W _ t⟩
theorem zl_a {W W' : World} {t : TypeId} (hb : Below (W.alloc (Obj.cells #[.int .i64 0, .string ⟨#[]⟩, .int .i64 0, .int .i64 0, .int .i64 0] t)).heap.size (W.alloc (Obj.cells #[.int .i64 0, .string ⟨#[]⟩, .int .i64 0, .int .i64 0, .int .i64 0] t)) W') : ZL W' W.heap.size := (zl_new W t).later hb
theorem zl_d {W W' : World} {t : TypeId} (hb : Below (W.drew.alloc (Obj.cells #[.int .i64 0, .string ⟨#[]⟩, .int .i64 0, .int .i64 0, .int .i64 0] t)).heap.size (W.drew.alloc (Obj.cells #[.int .i64 0, .string ⟨#[]⟩, .int .i64 0, .int .i64 0, .int .i64 0] t)) W') : ZL W' W.heap.size := (zl_new W.drew t).later hb

def sliL : Value → Nat
  | .slice _ n _ => n
  | _ => 0

end Go.Proofs.YtglnnoglbieaeaaGreatDoor
/- What walk of package mix answers, one hop: by take. -/
namespace Go.Proofs.YtglnnoglbieaeaaGreatDoor
open Go.RowKit Go.Shelf
set_option linter.unusedSimpArgs false
set_option linter.unusedVariables false

theorem LegAt.kb {W W' : World} {g : Nat} {a : Int} {b : ByteArray} {c d e : Int} {p : Nat → Prop} (h : LegAt W g a b c d e) (hk : Kb p W W') (hp : p g) : LegAt W' g a b c d e := ⟨hk.at h.1 hp, hk.at h.2.1 hp, hk.at h.2.2.1 hp, hk.at h.2.2.2.1 hp, hk.at h.2.2.2.2 hp⟩
theorem LegAt.lt {W : World} {g : Nat} {a : Int} {b : ByteArray} {c d e : Int} (h : LegAt W g a b c d e) : g < W.heap.size := World.block_lt_of_cell? W ⟨g, 0, none⟩ h.1
theorem legB_eq {g o : Int × ByteArray × ((Int × Int) × Int)} (h : legB g o = true) : g = o := by
  obtain ⟨a, b, ⟨c, d⟩, e⟩ := g
  obtain ⟨a', b', ⟨c', d'⟩, e'⟩ := o
  simp only [legB, Bool.and_eq_true, ba_eq, beq_iff_eq] at h
  obtain ⟨rfl, rfl, rfl, rfl, rfl⟩ := h
  rfl
theorem legB_same (g : Int × ByteArray × ((Int × Int) × Int)) : legB g g = true := by
  obtain ⟨a, b, ⟨c, d⟩, e⟩ := g
  have e : (b == b) = true := ba_eq.2 rfl
  simp [legB, e]
section
variable {l lo n₀ : Nat} {J : Nat → (Nat → Prop) → World → Prop} {Jx : World → Prop} {L : List Ft} {w : World} {vo vy : Value} {m : Nat} {Ls : List ((Int × Int) × (Int × Int))} {Hs : List (ByteArray × (Int × Int))} {As Bs : List (List Ru)}
set_option maxHeartbeats 16000000 in
set_option maxRecDepth 100000 in
theorem walk_ok (cx : MCx l lo n₀ J Jx L w vo vy m Ls Hs As Bs) (n : Nat) (hT : TkOK l lo n₀ J Jx L w vo vy m Ls Hs As Bs n) : WkOK l lo n₀ J Jx L w vo vy m Ls Hs As Bs (n + 1) := by
  intro A k X Y bk lst met hlen hn1 h0 hI hsp hhd hL
  obtain ⟨_, _, _, e5, hGn, _, _, hGa⟩ := hI.h.gs.form
  cases e5
  obtain ⟨g5, o5, hao5, hc5, _⟩ := hGa h0
  simp only [Option.some.injEq, Addr.mk.injEq, and_true] at hao5
  obtain ⟨rfl, rfl⟩ := hao5
  obtain ⟨p0, p1, p2, hkl, hLk, c0, c1, c2⟩ := hop_at hc5 rfl (show lst.length - 1 < lst.length by omega)
  have hla : laH lst = ((p0, p1), p2) := by
    have e : laH lst = lst[lst.length - 1] := by
      unfold laH
      simp [List.getD, hkl]
    rw [e, hLk]
  rw [hla] at hsp hhd
  have hsp2 := sp_of hsp
  simp only at hsp2 hhd
  have hhd2 : 0 ≤ p2 ∧ p2 < 16 := by simpa [hdrB] using hhd
  obtain ⟨a, rfl⟩ : ∃ a : Nat, p0 = (a : Int) + 1 := ⟨(p0 - 1).toNat, by omega⟩
  obtain ⟨h, rfl⟩ : ∃ h : Nat, p2 = (h : Int) := ⟨p2.toNat, by omega⟩
  have ham : a < m := by omega
  have ha6 : a < 6 := by have := cx.m6; omega
  have hh16 : h < 16 := by omega
  have hsx : sxH lst = a := by unfold sxH; rw [hla]; simp
  obtain ⟨q, hq⟩ : ∃ q, q = lst.length := ⟨_, rfl⟩
  -- the legs
  obtain ⟨gY, hgY⟩ : ∃ g, g = lgA Ls Hs Bs lst := ⟨_, rfl⟩
  obtain ⟨gO, hgO⟩ : ∃ g, g = lgA Ls Hs As lst := ⟨_, rfl⟩
  have HAFT : Hid (∀ (Ts : List (List Ru)) (W : World), HK W bk lst → Calls Tryz.prog 82 #[legV (lgT Ls Hs (taT Ts ((a : Int) + 1)) (((a : Int) + 1, 0), (h : Int))), .slice (some ⟨bk, 0, none⟩) lst.length 24] W fun e w' => e = .returned (legV (lgA Ls Hs Ts lst)) ∧ Below W.heap.size W w') := fun Ts W hW => by
    have h1 := after_any (lgT Ls Hs (taT Ts ((a : Int) + 1)) (((a : Int) + 1, 0), (h : Int))) (some ⟨bk, 0, none⟩) lst.length 24 lst W hW.gs
    have e1 : lgA Ls Hs Ts lst = afL (lgT Ls Hs (taT Ts ((a : Int) + 1)) (((a : Int) + 1, 0), (h : Int))) lst := by
      unfold lgA
      rw [hla]
      rfl
    rw [e1]
    exact h1
  have HAY := HAFT.out Bs
  have HAO := HAFT.out As
  rw [← hgY] at HAY
  rw [← hgO] at HAO
  clear HAFT
  obtain ⟨hQ, hB3, hS3⟩ := qb_new A vo vy met ((a : Int) + 1) p1 (h : Int)
  obtain ⟨A3, hA3⟩ : ∃ W, qbox A vo vy (met 0) (met 1) (met 2) (met 3) (met 4) (met 5) ((a : Int) + 1) p1 (h : Int) = W := ⟨_, rfl⟩
  rw [hA3] at hQ hB3 hS3
  have hI3 := hI.later cx hB3
  obtain ⟨gy, oy, cy, gy2, oy2, cy2, rfl, ty, Y0, Y1, Y2, Y3, Y4⟩ := lgs_at (cx.yng A3 hI3.b) ham hh16
  obtain ⟨go, oo, co, go2, oo2, co2, rfl, tO, O0, O1, O2, O3, O4⟩ := lgs_at (cx.old A3 hI3.b) ham hh16
  obtain ⟨bY, hbY⟩ : ∃ b, b = lgT Ls Hs (taT Bs ((a : Int) + 1)) (((a : Int) + 1, 0), (h : Int)) := ⟨_, rfl⟩
  obtain ⟨bO, hbO⟩ : ∃ b, b = lgT Ls Hs (taT As ((a : Int) + 1)) (((a : Int) + 1, 0), (h : Int)) := ⟨_, rfl⟩
  rw [← hbY] at Y0 Y1 Y2 Y3 Y4 HAY
  rw [← hbO] at O0 O1 O2 O3 O4 HAO
  clear hbY hbO
  obtain ⟨u0, u1, ⟨u2, u3⟩, u4⟩ := bY
  obtain ⟨v0, v1, ⟨v2, v3⟩, v4⟩ := bO
  dsimp only at Y0 Y1 Y2 Y3 Y4 O0 O1 O2 O3 O4
  have hbk := hI.y bk hI.yb
  have HEY : Hid (∃ Ts, gY = lgA Ls Hs Ts lst) := ⟨_, hgY⟩
  have HEO : Hid (∃ Ts, gO = lgA Ls Hs Ts lst) := ⟨_, hgO⟩
  have HPW : Hid (pwL Ls Hs As Bs (n + 1) lst met = if met a = true then tkL (pwL Ls Hs As Bs n) gY lst met else tkL (pwL Ls Hs As Bs n) gO lst met ++ (if gY = gO then [] else tkL (pwL Ls Hs As Bs n) gY lst (mtS met a))) := by
    show _ = _
    rw [pwL, hsx, hgY, hgO]
  have HT : Hid (TkOK l lo n₀ J Jx L w (.slice (some ⟨go, oo, none⟩) m co) (.slice (some ⟨gy, oy, none⟩) m cy) m Ls Hs As Bs n) := hT
  have HL : Hid (Nxt L k (pwL Ls Hs As Bs (n + 1) lst met)) := hL
  have HLEN : Hid (lst.length + n = 24 ∧ 0 < lst.length) := ⟨by omega, h0⟩
  have HI : Hid (WkI lo n₀ J w X Y k bk lst A) := hI
  have HBK : Hid (lo ≤ bk ∧ bk < A.heap.size) := ⟨hbk.1, hbk.2.1⟩
  have HLO : Hid (n₀ ≤ lo ∧ lo ≤ A.heap.size) := ⟨cx.nlo, hI.s⟩
  have HB3 : Hid (Below A.heap.size A A3) := hB3
  have HQ : Hid (QB A A3 (.slice (some ⟨go, oo, none⟩) m co) (.slice (some ⟨gy, oy, none⟩) m cy) met ((a : Int) + 1) p1 (h : Int)) := hQ
  have HS3 : Hid (A3.heap.size = A.heap.size + 3) := hS3
  have HH3 : Hid (HK A3 bk lst) := hI3.h
  obtain ⟨y0, y1, ⟨y2, y3⟩, y4⟩ := gY
  obtain ⟨o0, o1, ⟨o2, o3⟩, o4⟩ := gO
  unfold legV at HAY HAO
  dsimp only at HAY HAO
  rw [← hq] at HAY HAO c0 c1 c2
  have HAYW : Hid (∀ W, Below A3.heap.size A3 W → Calls Tryz.prog 82 #[.agg #[.int .i64 u0, .string u1, .int .i64 u2, .int .i64 u3, .int .i64 u4], .slice (some ⟨bk, 0, none⟩) q 24] W fun e w' => e = .returned (.agg #[.int .i64 y0, .string y1, .int .i64 y2, .int .i64 y3, .int .i64 y4]) ∧ Below W.heap.size W w') := fun W hb => HAY W (own_below hI3.h hb)
  have HAOW : Hid (∀ W, Below A3.heap.size A3 W → Calls Tryz.prog 82 #[.agg #[.int .i64 v0, .string v1, .int .i64 v2, .int .i64 v3, .int .i64 v4], .slice (some ⟨bk, 0, none⟩) q 24] W fun e w' => e = .returned (.agg #[.int .i64 o0, .string o1, .int .i64 o2, .int .i64 o3, .int .i64 o4]) ∧ Below W.heap.size W w') := fun W hb => HAO W (own_below hI3.h hb)
  have HSY : Hid (∀ W, Below A3.heap.size A3 W → W.cell? ⟨A.heap.size, 1, none⟩ = some (.slice (some ⟨gy, oy, none⟩) m cy) ∧ W.cell? ⟨gy, oy + a, none⟩ = some (.slice (some ⟨gy2, oy2, none⟩) 16 cy2) ∧ W.cell? ⟨A.heap.size + 1 + 1, 2, none⟩ = some (.int .i64 (h : Int)) ∧ W.cell? ⟨gy2, oy2 + h * 5, none⟩ = some (.int .i64 u0) ∧ W.cell? ⟨gy2, oy2 + h * 5 + 1, none⟩ = some (.string u1) ∧ W.cell? ⟨gy2, oy2 + h * 5 + 2, none⟩ = some (.int .i64 u2) ∧ W.cell? ⟨gy2, oy2 + h * 5 + 3, none⟩ = some (.int .i64 u3) ∧ W.cell? ⟨gy2, oy2 + h * 5 + 4, none⟩ = some (.int .i64 u4)) := fun W hb => ⟨cell_later hb hQ.x1, cell_later hb ty, cell_later hb hQ.h2, cell_later hb Y0, cell_later hb Y1, cell_later hb Y2, cell_later hb Y3, cell_later hb Y4⟩
  have HSO : Hid (∀ W, Below A3.heap.size A3 W → W.cell? ⟨A.heap.size, 0, none⟩ = some (.slice (some ⟨go, oo, none⟩) m co) ∧ W.cell? ⟨go, oo + a, none⟩ = some (.slice (some ⟨go2, oo2, none⟩) 16 co2) ∧ W.cell? ⟨A.heap.size + 1 + 1, 2, none⟩ = some (.int .i64 (h : Int)) ∧ W.cell? ⟨go2, oo2 + h * 5, none⟩ = some (.int .i64 v0) ∧ W.cell? ⟨go2, oo2 + h * 5 + 1, none⟩ = some (.string v1) ∧ W.cell? ⟨go2, oo2 + h * 5 + 2, none⟩ = some (.int .i64 v2) ∧ W.cell? ⟨go2, oo2 + h * 5 + 3, none⟩ = some (.int .i64 v3) ∧ W.cell? ⟨go2, oo2 + h * 5 + 4, none⟩ = some (.int .i64 v4)) := fun W hb => ⟨cell_later hb hQ.x0, cell_later hb tO, cell_later hb hQ.h2, cell_later hb O0, cell_later hb O1, cell_later hb O2, cell_later hb O3, cell_later hb O4⟩
  have HA3 : Hid (((A.alloc (Obj.cells #[.slice (some ⟨go, oo, none⟩) m co, .slice (some ⟨gy, oy, none⟩) m cy] 80)).alloc (Obj.cells #[.bool (met 0), .bool (met 1), .bool (met 2), .bool (met 3), .bool (met 4), .bool (met 5)] 123)).alloc (Obj.cells #[.int .i64 ((a : Int) + 1), .int .i64 p1, .int .i64 (h : Int)] 74) = A3) := hA3
  have HQL : Hid (lst.length = q) := hq.symm
  obtain ⟨N, hN⟩ : ∃ N, N = (pwL Ls Hs As Bs (n + 1) lst met).length := ⟨_, rfl⟩
  have HN : Hid ((pwL Ls Hs As Bs (n + 1) lst met).length = N) := hN.symm
  rw [← hq, ← hN]
  have hq1 : 0 < q := by omega
  have hq24 : q ≤ 24 := by omega
  have hmi : IntKind.i64.wrap ((q : Int) - 1) = ((q - 1 : Nat) : Int) := by
    rw [show (q : Int) - 1 = ((q - 1 : Nat) : Int) by omega]
    exact wrap_small (by omega) (by omega)
  have mb0 : (0 : Int) ≤ ((q - 1 : Nat) : Int) := by omega
  have mb1 : ((q - 1 : Nat) : Int) < (q : Int) := by omega
  have hwa : IntKind.i64.wrap (a : Int) = (a : Int) := wrap_small (by omega) (by omega)
  have hwa2 : IntKind.i64.wrap ((a : Int) + 1 - 1) = (a : Int) := by rw [show (a : Int) + 1 - 1 = (a : Int) by omega]; exact hwa
  have ab0 : (0 : Int) ≤ (a : Int) := by omega
  have ab1 : (a : Int) < (m : Int) := by omega
  have ab6 : (a : Int) < 6 := by omega
  have hb0 : (0 : Int) ≤ (h : Int) := by omega
  have hb1 : (h : Int) < 16 := by omega
  have hlg : bk < A.heap.size := hbk.2.1
  simp only [Nat.zero_add] at c0 c1 c2
  unfold metV
  clear hT hlen hn1 h0 hI hsp hhd hL hGn hGa hc5 hkl hLk hla hsp2 hhd2 hsx HAY HAO hgY hgO hI3 hA3 hq hN hbk hQ hB3 hS3 ty tO Y0 Y1 Y2 Y3 Y4 O0 O1 O2 O3 O4
  go_enter Tryz.func52, Tryz.ntmps52
  go_upto_region 2 with fail
  rw [HA3.out]
  clear HA3 c0 c1 c2
  obtain ⟨x0, x1, mm, mf, q0, q1, q2⟩ := HQ.out
  clear mm mf
  go_upto_region 3 with fail
  obtain ⟨s0, s1, s2, s3, s4, s5, s6, s7⟩ := HSY.out A3 (Below.refl _ _)
  have hlA : A.heap.size < A3.heap.size := World.block_lt_of_cell? _ _ x0
  have hlA2 : A.heap.size + 1 + 1 < A3.heap.size := World.block_lt_of_cell? _ _ q0
  have hly : gy < A3.heap.size := World.block_lt_of_cell? _ _ s1
  have hly2 : gy2 < A3.heap.size := World.block_lt_of_cell? _ _ s3
  clear x0 q0 q1
  go_cut [11] from 23 (fun p w' => ∃ g, p = .pointer (some ⟨g, 0, none⟩) ∧ (LegAt w' g y0 y1 y2 y3 y4 ∧ A3.heap.size ≤ g) ∧ Below A3.heap.size A3 w')
  case first =>
      go_region_held3 (fun W => W.cell? ⟨A.heap.size, 1, none⟩ = some (.slice (some ⟨gy, oy, none⟩) m cy) ∧ W.cell? ⟨gy, oy + a, none⟩ = some (.slice (some ⟨gy2, oy2, none⟩) 16 cy2) ∧ W.cell? ⟨A.heap.size + 1 + 1, 2, none⟩ = some (.int .i64 (h : Int)) ∧ W.cell? ⟨gy2, oy2 + h * 5, none⟩ = some (.int .i64 u0) ∧ W.cell? ⟨gy2, oy2 + h * 5 + 1, none⟩ = some (.string u1) ∧ W.cell? ⟨gy2, oy2 + h * 5 + 2, none⟩ = some (.int .i64 u2) ∧ W.cell? ⟨gy2, oy2 + h * 5 + 3, none⟩ = some (.int .i64 u3) ∧ W.cell? ⟨gy2, oy2 + h * 5 + 4, none⟩ = some (.int .i64 u4))
        (first | (with_reducible assumption) | (with_reducible exact HSY.out _ (Below.drew (Below.refl _ _))) | (with_reducible exact HSY.out _ ((Below.drew (Below.refl _ _)).alloc (Nat.le_refl _) _)) | (with_reducible exact HSY.out _ ((Below.refl _ _).alloc (Nat.le_refl _) _).drew) | (with_reducible exact HSY.out _ HBX.out) | (with_reducible exact HSY.out _ (HBX.out.alloc HBX.out.size _)) | (with_reducible exact HSY.out _ (below_5 HBX.out _ (Nat.le_refl _) _ _ _ _ _)))
        (first
          | (go_at_call 82; refine (HAYW.out _ (by first | exact Below.drew (Below.refl _ _) | exact (Below.drew (Below.refl _ _)).alloc (Nat.le_refl _) _)).mono ?_; rintro e w' ⟨rfl, hb⟩; have HBX : Hid (Below A3.heap.size A3 w') := (by first | exact bdrew hb | exact balloc hb); (try (have hbc := zl_d hb; obtain ⟨⟨z0, z1, z2, z3, z4⟩, zf⟩ := hbc; have zf0 := zf 0; have zf1 := zf 1; have zf2 := zf 2; have zf3 := zf 3; have zf4 := zf 4; clear zf)); clear hb))
      all_goals (go_wp2_with fail; go_meet)
      all_goals refine ⟨_, rfl, ?_⟩
      all_goals first
        | (with_reducible exact ⟨⟨lat_new _ _ _ _ _ _ _, HBX.out.size⟩, HBX.out.alloc HBX.out.size _⟩)
        | (with_reducible exact ⟨⟨lat_5 (lat_of z0 z1 z2 z3 z4) _ _ _ _ _, Nat.le_refl _⟩, below_5 HBX.out _ (Nat.le_refl _) _ _ _ _ _⟩)
  case rest =>
    obtain ⟨g4, rfl, ⟨hL4, hg4⟩, hbw⟩ := hcut
    obtain ⟨w4, hw4⟩ : ∃ X, X = wc := ⟨_, rfl⟩
    subst hw4
    have HB34 : Hid (Below A3.heap.size A3 w4) := hbw
    have HB4 : Hid (Below A.heap.size A w4) := HB3.out.trans (hbw.mono HB3.out.size)
    have HQ4 : Hid (QB A w4 (.slice (some ⟨go, oo, none⟩) m co) (.slice (some ⟨gy, oy, none⟩) m cy) met ((a : Int) + 1) p1 (h : Int)) := HQ.out.kb (Kb.of_below hbw (fun b hb _ => hb) : Kb (fun _ => True) _ _) (fun _ _ _ => trivial)
    have HL4 : Hid (LegAt w4 g4 y0 y1 y2 y3 y4) := hL4
    have HG4 : Hid (A.heap.size + 3 ≤ g4) := by
      show _ ≤ _
      have := HS3.out
      omega
    clear s0 s1 s2 s3 s4 s5 s6 s7 hlA hlA2 hly hly2 x1 q2 hL4 hg4 hbw HSY HAYW
    obtain ⟨x0, x1, mm, mf, q0, q1, q2⟩ := HQ4.out
    obtain ⟨b, hb⟩ : ∃ b, b = met a := ⟨_, rfl⟩
    have HMA : Hid (met a = b) := hb.symm
    have ma : w4.cell? ⟨A.heap.size + 1, a, none⟩ = some (.bool b) := by rw [hb]; exact mm a ha6
    have hlm : A.heap.size + 1 < w4.heap.size := World.block_lt_of_cell? _ _ ma
    clear hb
    cases b with
    | true =>
      have HTK : Hid (Calls Tryz.prog 83 #[.agg #[.slice (some ⟨go, oo, none⟩) m co, .slice (some ⟨gy, oy, none⟩) m cy], .agg #[.int .i64 y0, .string y1, .int .i64 y2, .int .i64 y3, .int .i64 y4], .slice (some ⟨bk, 0, none⟩) q 24, .agg #[.bool (met 0), .bool (met 1), .bool (met 2), .bool (met 3), .bool (met 4), .bool (met 5)], .func (.yield l) #[] #[]] w4 fun e A' => ∃ r, e = .returned (.bool r) ∧ WkP n₀ J Jx X Y (k + N) bk lst A r A') := by
        have e1 : pwL Ls Hs As Bs (n + 1) lst met = tkL (pwL Ls Hs As Bs n) (y0, y1, ((y2, y3), y4)) lst met := by rw [HPW.out, if_pos HMA.out]
        have hx := HT.out w4 k X _ bk lst met (y0, y1, ((y2, y3), y4)) HLEN.out.1 HLEN.out.2 (HI.out.later cx HB4.out) HEY.out (by rw [← e1]; exact HL.out)
        rw [← e1, HN.out, HQL.out] at hx
        refine hx.mono ?_
        rintro e A' ⟨r, rfl, hP⟩
        exact ⟨r, rfl, hP.back HB4.out⟩
      have m0 := mm 0 (by omega)
      have m1 := mm 1 (by omega)
      have m2 := mm 2 (by omega)
      have m3 := mm 3 (by omega)
      have m4 := mm 4 (by omega)
      have m5 := mm 5 (by omega)
      obtain ⟨d0, d1, d2, d3, d4⟩ := HL4.out
      clear mm mf
      go_wp2_with fail
      refine HTK.out.mono ?_
      rintro e w5 ⟨r, rfl, hP⟩
      have HP : Hid (WkP n₀ J Jx X Y (k + N) bk lst A r w5) := hP
      clear hP
      go_wp2
      go_ret
      exact ⟨r, rfl, HP.out⟩
    | false =>
      have HSO4 : Hid (∀ W, Below w4.heap.size w4 W → W.cell? ⟨A.heap.size, 0, none⟩ = some (.slice (some ⟨go, oo, none⟩) m co) ∧ W.cell? ⟨go, oo + a, none⟩ = some (.slice (some ⟨go2, oo2, none⟩) 16 co2) ∧ W.cell? ⟨A.heap.size + 1 + 1, 2, none⟩ = some (.int .i64 (h : Int)) ∧ W.cell? ⟨go2, oo2 + h * 5, none⟩ = some (.int .i64 v0) ∧ W.cell? ⟨go2, oo2 + h * 5 + 1, none⟩ = some (.string v1) ∧ W.cell? ⟨go2, oo2 + h * 5 + 2, none⟩ = some (.int .i64 v2) ∧ W.cell? ⟨go2, oo2 + h * 5 + 3, none⟩ = some (.int .i64 v3) ∧ W.cell? ⟨go2, oo2 + h * 5 + 4, none⟩ = some (.int .i64 v4)) := fun W hb => HSO.out W (HB34.out.trans (hb.mono HB34.out.size))
      have HAO4 : Hid (∀ W, Below w4.heap.size w4 W → Calls Tryz.prog 82 #[.agg #[.int .i64 v0, .string v1, .int .i64 v2, .int .i64 v3, .int .i64 v4], .slice (some ⟨bk, 0, none⟩) q 24] W fun e w' => e = .returned (.agg #[.int .i64 o0, .string o1, .int .i64 o2, .int .i64 o3, .int .i64 o4]) ∧ Below W.heap.size W w') := fun W hb => HAOW.out W (HB34.out.trans (hb.mono HB34.out.size))
      obtain ⟨s0, s1, s2, s3, s4, s5, s6, s7⟩ := HSO4.out w4 (Below.refl _ _)
      have hlA : A.heap.size < w4.heap.size := World.block_lt_of_cell? _ _ x0
      have hlA2 : A.heap.size + 1 + 1 < w4.heap.size := World.block_lt_of_cell? _ _ q0
      have hly : go < w4.heap.size := World.block_lt_of_cell? _ _ s1
      have hly2 : go2 < w4.heap.size := World.block_lt_of_cell? _ _ s3
      clear x0 x1 mm mf q0 q1 q2 HSO HAOW
      go_upto_region 6 with fail
      clear ma
      go_cut [12] from 43 (fun p w' => ∃ g, p = .pointer (some ⟨g, 0, none⟩) ∧ (LegAt w' g o0 o1 o2 o3 o4 ∧ w4.heap.size ≤ g) ∧ Below w4.heap.size w4 w')
      case first =>
        go_region_held3 (fun W => W.cell? ⟨A.heap.size, 0, none⟩ = some (.slice (some ⟨go, oo, none⟩) m co) ∧ W.cell? ⟨go, oo + a, none⟩ = some (.slice (some ⟨go2, oo2, none⟩) 16 co2) ∧ W.cell? ⟨A.heap.size + 1 + 1, 2, none⟩ = some (.int .i64 (h : Int)) ∧ W.cell? ⟨go2, oo2 + h * 5, none⟩ = some (.int .i64 v0) ∧ W.cell? ⟨go2, oo2 + h * 5 + 1, none⟩ = some (.string v1) ∧ W.cell? ⟨go2, oo2 + h * 5 + 2, none⟩ = some (.int .i64 v2) ∧ W.cell? ⟨go2, oo2 + h * 5 + 3, none⟩ = some (.int .i64 v3) ∧ W.cell? ⟨go2, oo2 + h * 5 + 4, none⟩ = some (.int .i64 v4))
          (first | (with_reducible assumption) | (with_reducible exact HSO4.out _ (Below.drew (Below.refl _ _))) | (with_reducible exact HSO4.out _ ((Below.drew (Below.refl _ _)).alloc (Nat.le_refl _) _)) | (with_reducible exact HSO4.out _ ((Below.refl _ _).alloc (Nat.le_refl _) _).drew) | (with_reducible exact HSO4.out _ HBX.out) | (with_reducible exact HSO4.out _ (HBX.out.alloc HBX.out.size _)) | (with_reducible exact HSO4.out _ (below_5 HBX.out _ (Nat.le_refl _) _ _ _ _ _)))
          (first
            | (go_at_call 82; refine (HAO4.out _ (by first | exact Below.drew (Below.refl _ _) | exact (Below.drew (Below.refl _ _)).alloc (Nat.le_refl _) _)).mono ?_; rintro e w' ⟨rfl, hb⟩; have HBX : Hid (Below w4.heap.size w4 w') := (by first | exact bdrew hb | exact balloc hb); (try (have hbc := zl_d hb; obtain ⟨⟨z0, z1, z2, z3, z4⟩, zf⟩ := hbc; have zf0 := zf 0; have zf1 := zf 1; have zf2 := zf 2; have zf3 := zf 3; have zf4 := zf 4; clear zf)); clear hb))
        all_goals (go_wp2_with fail; go_meet)
        all_goals refine ⟨_, rfl, ?_⟩
        all_goals first
          | (with_reducible exact ⟨⟨lat_new _ _ _ _ _ _ _, HBX.out.size⟩, HBX.out.alloc HBX.out.size _⟩)
          | (with_reducible exact ⟨⟨lat_5 (lat_of z0 z1 z2 z3 z4) _ _ _ _ _, Nat.le_refl _⟩, below_5 HBX.out _ (Nat.le_refl _) _ _ _ _ _⟩)
      case rest =>
        obtain ⟨g5, rfl, ⟨hL5, hg5⟩, hbw⟩ := hcut
        obtain ⟨w5, hw5⟩ : ∃ X, X = wc := ⟨_, rfl⟩
        subst hw5
        have HB5 : Hid (Below A.heap.size A w5) := HB4.out.trans (hbw.mono HB4.out.size)
        have HQ5 : Hid (QB A w5 (.slice (some ⟨go, oo, none⟩) m co) (.slice (some ⟨gy, oy, none⟩) m cy) met ((a : Int) + 1) p1 (h : Int)) := HQ4.out.kb (Kb.of_below hbw (fun b hb _ => hb) : Kb (fun _ => True) _ _) (fun _ _ _ => trivial)
        have HY5 : Hid (LegAt w5 g4 y0 y1 y2 y3 y4) := HL4.out.later hbw
        have HO5 : Hid (LegAt w5 g5 o0 o1 o2 o3 o4) := hL5
        have HG5 : Hid (A.heap.size + 3 ≤ g5) := by
          show _ ≤ _
          have h1 := HG4.out
          have h2 := HL4.out.lt
          omega
        clear s0 s1 s2 s3 s4 s5 s6 s7 hlA hlA2 hly hly2 hlm hL5 hg5 hbw HSO4 HAO4 HQ4 HL4
        obtain ⟨x0, x1, mm, mf, q0, q1, q2⟩ := HQ5.out
        have m0 := mm 0 (by omega)
        have m1 := mm 1 (by omega)
        have m2 := mm 2 (by omega)
        have m3 := mm 3 (by omega)
        have m4 := mm 4 (by omega)
        have m5 := mm 5 (by omega)
        obtain ⟨d0, d1, d2, d3, d4⟩ := HO5.out
        obtain ⟨No, hNo⟩ : ∃ N, N = (tkL (pwL Ls Hs As Bs n) (o0, o1, ((o2, o3), o4)) lst met).length := ⟨_, rfl⟩
        have e1 : pwL Ls Hs As Bs (n + 1) lst met = tkL (pwL Ls Hs As Bs n) (o0, o1, ((o2, o3), o4)) lst met ++ (if (y0, y1, ((y2, y3), y4)) = (o0, o1, ((o2, o3), o4)) then [] else tkL (pwL Ls Hs As Bs n) (y0, y1, ((y2, y3), y4)) lst (mtS met a)) := by rw [HPW.out, if_neg (by rw [HMA.out]; simp)]
        have HE1 : Hid (pwL Ls Hs As Bs (n + 1) lst met = tkL (pwL Ls Hs As Bs n) (o0, o1, ((o2, o3), o4)) lst met ++ (if (y0, y1, ((y2, y3), y4)) = (o0, o1, ((o2, o3), o4)) then [] else tkL (pwL Ls Hs As Bs n) (y0, y1, ((y2, y3), y4)) lst (mtS met a))) := e1
        have HNO : Hid ((tkL (pwL Ls Hs As Bs n) (o0, o1, ((o2, o3), o4)) lst met).length = No) := hNo.symm
        have HTK : Hid (Calls Tryz.prog 83 #[.agg #[.slice (some ⟨go, oo, none⟩) m co, .slice (some ⟨gy, oy, none⟩) m cy], .agg #[.int .i64 o0, .string o1, .int .i64 o2, .int .i64 o3, .int .i64 o4], .slice (some ⟨bk, 0, none⟩) q 24, .agg #[.bool (met 0), .bool (met 1), .bool (met 2), .bool (met 3), .bool (met 4), .bool (met 5)], .func (.yield l) #[] #[]] w5 fun e A' => ∃ r, e = .returned (.bool r) ∧ WkP n₀ J Jx X (fun b => Y b ∨ (A.heap.size ≤ b ∧ b < w5.heap.size)) (k + No) bk lst w5 r A') := by
          have hl := HL.out
          rw [e1] at hl
          have hx := HT.out w5 k X _ bk lst met (o0, o1, ((o2, o3), o4)) HLEN.out.1 HLEN.out.2 (HI.out.later cx HB5.out) HEO.out hl.left
          rw [HQL.out, ← hNo] at hx
          exact hx
        clear mm mf hNo e1
        go_wp2_with fail
        refine HTK.out.mono ?_
        rintro e w6 ⟨r, rfl, hP⟩
        have HP : Hid (WkP n₀ J Jx X (fun b => Y b ∨ (A.heap.size ≤ b ∧ b < w5.heap.size)) (k + No) bk lst w5 r w6) := hP
        clear hP x0 x1 q0 q1 q2 m0 m1 m2 m3 m4 m5 d0 d1 d2 d3 d4
        cases r with
        | false =>
          have HPF : Hid (WkP n₀ J Jx X Y (k + N) bk lst A false w6) := by
            have hx := HP.out.back HB5.out
            exact ⟨hx.1, hx.2⟩
          go_wp2
          go_ret
          exact ⟨false, rfl, HPF.out⟩
        | true =>
          obtain ⟨X1, hI6, hX1⟩ := (HI.out.later cx HB5.out).next cx HP.out
          have HI6 : Hid (WkI lo n₀ J w X1 (fun b => Y b ∨ (A.heap.size ≤ b ∧ b < w5.heap.size)) (k + No) bk lst w6) := hI6
          have HX1 : Hid (∀ b, X1 b → X b ∨ w5.heap.size ≤ b) := hX1
          have hbx : ∀ b, A.heap.size ≤ b → b < w5.heap.size → b < n₀ ∨ ((Y b ∨ (A.heap.size ≤ b ∧ b < w5.heap.size)) ∧ b ≠ bk) := fun b h1 h2 => .inr ⟨.inr ⟨h1, h2⟩, by have := HBK.out; omega⟩
          have hs5 : A.heap.size + 3 ≤ w5.heap.size := by
            have := HG4.out
            have := HY5.out.lt
            omega
          have HQ6 : Hid (QB A w6 (.slice (some ⟨go, oo, none⟩) m co) (.slice (some ⟨gy, oy, none⟩) m cy) met ((a : Int) + 1) p1 (h : Int)) := HQ5.out.kb HP.out.2 (fun b h1 h2 => hbx b h1 (by omega))
          have HY6 : Hid (LegAt w6 g4 y0 y1 y2 y3 y4) := HY5.out.kb HP.out.2 (hbx g4 (by have := HG4.out; omega) HY5.out.lt)
          have HO6 : Hid (LegAt w6 g5 o0 o1 o2 o3 o4) := HO5.out.kb HP.out.2 (hbx g5 (by have := HG5.out; omega) HO5.out.lt)
          have HYM : Hid (Y (A.heap.size + 1) ∨ (A.heap.size ≤ A.heap.size + 1 ∧ A.heap.size + 1 < w5.heap.size)) := .inr ⟨by omega, by omega⟩
          obtain ⟨c, hc⟩ : ∃ c, c = legB (y0, y1, ((y2, y3), y4)) (o0, o1, ((o2, o3), o4)) := ⟨_, rfl⟩
          have HC : Hid (legB (y0, y1, ((y2, y3), y4)) (o0, o1, ((o2, o3), o4)) = c) := hc.symm
          obtain ⟨d0, d1, d2, d3, d4⟩ := HY6.out
          obtain ⟨f0, f1, f2, f3, f4⟩ := HO6.out
          clear hI6 hX1 hbx hc hs5
          go_upto_region 9 with fail
          go_cut [63] from 61 (fun v w' => v = .bool c ∧ w' = w6)
          case first =>
            rcases leg_ways y0 y1 y2 y3 y4 o0 o1 o2 o3 o4 with ⟨e0, e⟩ | ⟨e0, e1, e⟩ | ⟨e0, e1, e2, e⟩ | ⟨e0, e1, e2, e3, e⟩ | ⟨e0, e1, e2, e3, e4, e⟩ | ⟨e0, e1, e2, e3, e4, e⟩
            all_goals
              rw [HC.out] at e
              have HE : Hid (c = _) := e
              clear e
              go_wp2_with fail
              go_meet
              exact ⟨by rw [HE.out], rfl⟩
          case rest =>
            obtain ⟨rfl, hwc⟩ := hcut
            have hwc2 := hwc.symm
            clear hwc
            subst hwc2
            clear d0 d1 d2 d3 d4 f0 f1 f2 f3 f4
            cases c with
            | true =>
              have HPT : Hid (WkP n₀ J Jx X Y (k + N) bk lst A true w6) := by
                have e2 : N = No := by
                  rw [← HN.out, HE1.out, if_pos (legB_eq HC.out), List.append_nil, HNO.out]
                rw [e2]
                exact HP.out.back HB5.out
              go_wp2
              go_ret
              exact ⟨true, rfl, HPT.out⟩
            | false =>
              have hne : ¬ (y0, y1, ((y2, y3), y4)) = (o0, o1, ((o2, o3), o4)) := fun e => by
                have h1 := HC.out
                rw [e, legB_same] at h1
                cases h1
              have hQ7 := HQ6.out.meet ha6
              have hI7 := HI6.out.set (i := a) (u := .bool true) cx HYM.out (by have := HBK.out; omega)
              have hY7 : LegAt (w6.setCell ⟨A.heap.size + 1, a, none⟩ (.bool true)) g4 y0 y1 y2 y3 y4 := HY6.out.kb (p := fun b => b ≠ A.heap.size + 1) ((Kb.refl _ _).setCell (q := ⟨A.heap.size + 1, a, none⟩) (fun _ h => h rfl) _) (by have := HG4.out; omega)
              have hK7 : Kb (fun b => b < n₀ ∨ (Y b ∧ b ≠ bk)) w6 (w6.setCell ⟨A.heap.size + 1, a, none⟩ (.bool true)) := (Kb.refl _ _).setCell (q := ⟨A.heap.size + 1, a, none⟩) (fun _ h => by
                rcases h with h | h
                · have h1 := HLO.out
                  simp only at h
                  omega
                · have h1 := (HI.out.y _ h.1).2.1
                  simp only at h1
                  omega) _
              obtain ⟨w7, hw7⟩ : ∃ W, w6.setCell ⟨A.heap.size + 1, a, none⟩ (.bool true) = W := ⟨_, rfl⟩
              rw [hw7] at hQ7 hI7 hY7 hK7
              have HW7 : Hid (w6.setCell ⟨A.heap.size + 1, a, none⟩ (.bool true) = w7) := hw7
              have HTK2 : Hid (Calls Tryz.prog 83 #[.agg #[.slice (some ⟨go, oo, none⟩) m co, .slice (some ⟨gy, oy, none⟩) m cy], .agg #[.int .i64 y0, .string y1, .int .i64 y2, .int .i64 y3, .int .i64 y4], .slice (some ⟨bk, 0, none⟩) q 24, .agg #[.bool (mtS met a 0), .bool (mtS met a 1), .bool (mtS met a 2), .bool (mtS met a 3), .bool (mtS met a 4), .bool (mtS met a 5)], .func (.yield l) #[] #[]] w7 fun e A' => ∃ r, e = .returned (.bool r) ∧ WkP n₀ J Jx X Y (k + N) bk lst A r A') := by
                have hl := HL.out
                rw [HE1.out, if_neg hne] at hl
                have hr := hl.right
                rw [HNO.out] at hr
                have hx := HT.out w7 (k + No) X1 _ bk lst (mtS met a) (y0, y1, ((y2, y3), y4)) HLEN.out.1 HLEN.out.2 hI7 HEY.out hr
                have e2 : k + No + (tkL (pwL Ls Hs As Bs n) (y0, y1, ((y2, y3), y4)) lst (mtS met a)).length = k + N := by
                  rw [← HN.out, HE1.out, if_neg hne, List.length_append, HNO.out]
                  omega
                rw [HQL.out, e2] at hx
                refine hx.mono ?_
                rintro e A' ⟨r, rfl, hR, hK⟩
                refine ⟨r, rfl, ?_, ?_⟩
                · cases r with
                  | false => exact hR
                  | true =>
                    obtain ⟨⟨X2, j1, j2⟩, j3⟩ := hR
                    refine ⟨⟨X2, j1, fun b hb => ?_⟩, j3⟩
                    have z1 := HB5.out.size
                    have z2 := HP.out.2.size
                    have z3 := hK7.size
                    rcases j2 b hb with hb | hb
                    · rcases HX1.out b hb with hb | hb
                      · exact .inl hb
                      · exact .inr (by omega)
                    · exact .inr (by omega)
                · exact (((Kb.of_below HB5.out (fun b hb' _ => hb')).trans (HP.out.2.mono (fun b _ h => h.imp id (fun h => ⟨.inl h.1, h.2⟩)))).trans hK7).trans (hK.mono (fun b _ h => h.imp id (fun h => ⟨.inl h.1, h.2⟩)))
              have ma : w6.cell? ⟨A.heap.size + 1, a, none⟩ = some (.bool (met a)) := HQ6.out.m a ha6
              have hlm6 : A.heap.size + 1 < w6.heap.size := World.block_lt_of_cell? _ _ ma
              have mfa : w6.frozen? ⟨A.heap.size + 1, a, none⟩ = false := HQ6.out.mf a
              obtain ⟨x0, x1, mm, mf, q0, q1, q2⟩ := hQ7
              have m0 := mm 0 (by omega)
              have m1 := mm 1 (by omega)
              have m2 := mm 2 (by omega)
              have m3 := mm 3 (by omega)
              have m4 := mm 4 (by omega)
              have m5 := mm 5 (by omega)
              obtain ⟨e0, e1, e2, e3, e4⟩ := hY7
              clear mm mf hw7 hne hI7 hK7
              go_upto_region 12 with fail
              rw [HW7.out]
              clear HW7 ma mfa
              go_wp2_with fail
              refine HTK2.out.mono ?_
              rintro e w8 ⟨r, rfl, hP8⟩
              have HP8 : Hid (WkP n₀ J Jx X Y (k + N) bk lst A r w8) := hP8
              clear hP8
              go_wp2
              go_ret
              exact ⟨r, rfl, HP8.out⟩
end
end Go.Proofs.YtglnnoglbieaeaaGreatDoor
/- What the iterator of package mix hands on: all that may become of a packet. -/
namespace Go.Proofs.YtglnnoglbieaeaaGreatDoor
open Go.RowKit Go.Shelf
set_option linter.unusedSimpArgs false
set_option linter.unusedVariables false

section
variable {l lo n₀ : Nat} {J : Nat → (Nat → Prop) → World → Prop} {Jx : World → Prop} {L : List Ft} {w : World} {vo vy : Value} {m : Nat} {Ls : List ((Int × Int) × (Int × Int))} {Hs : List (ByteArray × (Int × Int))} {As Bs : List (List Ru)}
theorem walk_all (cx : MCx l lo n₀ J Jx L w vo vy m Ls Hs As Bs) : ∀ n, 1 ≤ n → WkOK l lo n₀ J Jx L w vo vy m Ls Hs As Bs n
  | 0, h => by omega
  | n + 1, _ => walk_ok cx n (take_ok cx n (fun h => walk_all cx n h))
end
/-- A make with room, an operation of a drawn region. -/
theorem step_make {P : Program} (w : World) {ops : Array Oper} {o : Oper} {a : Act} {K : Act → World → Prop} {Q : Exit → Act → World → Prop} {X : Prop} (hgd : o.guard = none) (l c : Operand) (t e : TypeId) (ho : o.op = Op.makeSlice t l c) (ht : P.underlying t = some (.slice e)) (i : TypeInfo) (z : Value) (size bytes : Nat) (hi : P.info? e = some i) (hz : i.zero = some z) (hsize : i.size = size) (hby : i.bytes = bytes)
    (kl kc : IntKind) (n : Nat) (hl : a.eval l = .int kl 0) (hc : a.eval c = .int kc (n : Int)) (b2 : bytes * n ≤ 281474976710656) (b3 : n ≤ maxLen)
    (h : ∀ w', w'.ownsRow 0 e size (.slice (some ⟨w.heap.size, 0, none⟩) 0 n) 0 [] → w.grownBy w' none → K (a.put o.dst (.slice (some ⟨w.heap.size, 0, none⟩) 0 n)) w') :
    if Region.wanted o (yielded ops a.tmps) = true then Oper.wp P o a w K Q else X := by
  have hw : Region.wanted o (yielded ops a.tmps) = true := by simp [Region.wanted, hgd]
  rw [if_pos hw]
  obtain ⟨w', hrun, r1, r2⟩ := run_make_own (P := P) w 0 t e i z size ht hi hz hsize kl kc n (by rw [hby]; exact b2) b3 (Nat.zero_le _)
  unfold Oper.wp
  simp [execOp, ho, hl, hc, hrun, Result.andThen]
  exact h w' r1 r2
theorem vat_grown {V V' : World} {g o : Nat} {cs : List Value} {row : Option Nat} (h : VAt V g o cs) (hg : V.grownBy V' row) (hr : row = none := by rfl) : VAt V' g o cs := fun j u hu => hg.cell (h j u hu) (by rw [hr]; simp)
theorem hk_one {W : World} {bk : Nat} {p : (Int × Int) × Int} (h : W.ownsRow 0 74 hopE.n (.slice (some ⟨bk, 0, none⟩) (([] : List ((Int × Int) × Int)).length + 1) 24) (([] : List ((Int × Int) × Int)).length + 1) (cellsG hopE ([] ++ [p]))) : HK W bk [p] := h
theorem kb_tr {p : Nat → Prop} {a b c : World} (h : Kb (fun _ => True) a b) (k : Kb p b c) : Kb p a c := (h.mono (fun _ _ _ => trivial)).trans k
set_option maxHeartbeats 8000000 in
set_option maxRecDepth 100000 in
/-- The closure of fates: an iterator of all that may be seen. -/
theorem fates1_it (vo vy : Value) (m : Nat) (Ls : List ((Int × Int) × (Int × Int))) (Hs : List (ByteArray × (Int × Int))) (As Bs : List (List Ru)) (bx bi : Nat) (c d e : Int) (w : World)
    (hx0 : w.cell? ⟨bx, 0, none⟩ = some vo) (hx1 : w.cell? ⟨bx, 1, none⟩ = some vy) (hi0 : w.cell? ⟨bi, 0, none⟩ = some (.int .i64 c)) (hi1 : w.cell? ⟨bi, 1, none⟩ = some (.int .i64 d)) (hi2 : w.cell? ⟨bi, 2, none⟩ = some (.int .i64 e))
    (hm : m ≤ 6) (ht : tpN (m : Int) Ls Hs = 0) (ho : LGs w 0 vo (fun (a h : Nat) => lgT Ls Hs (taT As ((a : Int) + 1)) (((a : Int) + 1, 0), (h : Int))) m) (hy : LGs w 0 vy (fun (a h : Nat) => lgT Ls Hs (taT Bs ((a : Int) + 1)) (((a : Int) + 1, 0), (h : Int))) m) (hsp : spB (m : Int) (c, d) = true) (hhd : hdrB e = true) :
    ItF Tryz.prog 51 #[.pointer (some ⟨bx, 0, none⟩), .pointer (some ⟨bi, 0, none⟩)] FtV w.heap.size (pwS Ls Hs As Bs (c, d) e) w := by
  intro l J Jx W hW hn h0 hlt hab hax hY
  have cx : MCx l W.heap.size w.heap.size J Jx (pwS Ls Hs As Bs (c, d) e) w vo vy m Ls Hs As Bs := ⟨hn, hm, ht, fun A hA => ho.later hA, fun A hA => hy.later hA, hlt, hab, hax, hY⟩
  have HSW : Hid (∀ V, Below w.heap.size w V → V.cell? ⟨bx, 0, none⟩ = some vo ∧ V.cell? ⟨bx, 1, none⟩ = some vy ∧ V.cell? ⟨bi, 0, none⟩ = some (.int .i64 c) ∧ V.cell? ⟨bi, 1, none⟩ = some (.int .i64 d) ∧ V.cell? ⟨bi, 2, none⟩ = some (.int .i64 e)) := fun V hV => ⟨cell_later hV hx0, cell_later hV hx1, cell_later hV hi0, cell_later hV hi1, cell_later hV hi2⟩
  have HSK : Hid (∀ V, Kb (fun _ => True) W V → V.cell? ⟨bx, 0, none⟩ = some vo ∧ V.cell? ⟨bx, 1, none⟩ = some vy ∧ V.cell? ⟨bi, 0, none⟩ = some (.int .i64 c) ∧ V.cell? ⟨bi, 1, none⟩ = some (.int .i64 d) ∧ V.cell? ⟨bi, 2, none⟩ = some (.int .i64 e)) := fun V hk => HSW.out V (hW.trans (hk.below hn (fun _ _ => trivial)))
  have HMX : Hid (24 ≤ maxLen) := by show _ ≤ _; unfold maxLen; omega
  have HWW : Hid (Below w.heap.size w W) := hW
  have HNN : Hid (w.heap.size ≤ W.heap.size) := hn
  have HWK : Hid (∀ (V : World) (bk : Nat), Kb (fun _ => True) W V → W.heap.size ≤ bk → HK V bk [((c, d), e)] → Calls Tryz.prog 52 #[.agg #[vo, vy], .slice (some ⟨bk, 0, none⟩) 1 24, .agg #[.bool false, .bool false, .bool false, .bool false, .bool false, .bool false], .func (.yield l) #[] #[]] V fun e' A' => ∃ r, e' = .returned (.bool r) ∧ ((∃ X, J (pwS Ls Hs As Bs (c, d) e).length X A') ∨ Jx A') ∧ Below w.heap.size w A') := fun V bk hk hb hh => by
    have hI : WkI W.heap.size w.heap.size J w (fun _ => False) (fun b => W.heap.size ≤ b ∧ b < V.heap.size) 0 bk [((c, d), e)] V := ⟨hW.trans (hk.below (by omega) (fun _ _ => trivial)), hk.size, hab _ _ _ _ h0 (hk.mono (fun _ _ _ => trivial)), fun b hb => ⟨hb.1, hb.2, fun h => h⟩, ⟨hb, hh.lt⟩, hh⟩
    have h := walk_all cx 24 (by omega) V 0 _ _ bk [((c, d), e)] (fun _ => false) rfl (by omega) (by simp) hI hsp hhd (fun i x hx => by rw [Nat.zero_add]; exact hx)
    refine h.mono ?_
    rintro e' A' ⟨r, rfl, hR, hK⟩
    refine ⟨r, rfl, ?_, hI.b.trans (hK.below (by have := hk.size; omega) (fun b hb => .inl hb))⟩
    cases r with
    | false => exact .inr hR
    | true =>
      obtain ⟨⟨X', j1, _⟩, _⟩ := hR
      rw [Nat.zero_add] at j1
      exact .inl ⟨X', j1⟩
  obtain ⟨s0, s1, s2, s3, s4⟩ := HSW.out W hW
  have hlx : bx < W.heap.size := World.block_lt_of_cell? _ _ s0
  have hli : bi < W.heap.size := World.block_lt_of_cell? _ _ s2
  obtain ⟨j0, hj, hy0, hy1, hy2⟩ := info_parts hop_info
  obtain ⟨MC, hMC, hmk⟩ : ∃ MC : Array Value, MC.size = 24 * 3 ∧ ∀ V : World, (Instr.makeSlice 75 (.int .i64 0) (.int .i64 24)).run Tryz.prog V = .ok (.slice (some ⟨V.heap.size, 0, none⟩) 0 24) (V.alloc (.cells MC 74)) := by
    refine ⟨madeCells (Value.agg #[.int .i64 0, .int .i64 0, .int .i64 0]).cells (24 * 3), size_madeCells _ _, fun V => ?_⟩
    have h := run_make (P := Tryz.prog) V 75 74 j0 (.agg #[.int .i64 0, .int .i64 0, .int .i64 0]) Tryz.underlying75 hj hy0 .i64 .i64 0 24 (by decide) (by decide) (by rw [hy2]; decide) (by decide)
    rw [hy1] at h
    exact h
  have hal : ∀ (V : World) (o : Obj), Kb (fun _ => True) V (V.alloc o) := fun V o => (Kb.refl _ _).alloc o
  have HOM1 : Hid (∀ o : Obj, ((W.alloc (.cells MC 74)).alloc o).ownsRow 0 74 hopE.n (.slice (some ⟨W.heap.size, 0, none⟩) 0 24) 0 (cellsG hopE [])) := fun o => own_kb (World.ownsRow_made W MC 24 (Nat.zero_le _) HMX.out hMC) (hal _ o) (fun _ _ => trivial)
  have HOM2 : Hid (∀ o : Obj, ((W.alloc o).alloc (.cells MC 74)).ownsRow 0 74 hopE.n (.slice (some ⟨W.heap.size + 1, 0, none⟩) 0 24) 0 (cellsG hopE [])) := fun o => by
    have h := World.ownsRow_made (base := 0) (e := 74) (size := 3) (W.alloc o) MC 24 (Nat.zero_le _) HMX.out hMC
    rw [World.size_alloc] at h
    exact h
  have HVM1 : Hid (VAt ((W.alloc (.cells MC 74)).alloc (.cells #[.int .i64 c, .int .i64 d, .int .i64 e] 74)) (W.heap.size + 1) 0 (hopE.c ((c, d), e))) := by
    have h := hop_new (W.alloc (.cells MC 74)) c d e 74
    rw [World.size_alloc] at h
    exact h
  have HVM2 : Hid (VAt ((W.alloc (.cells #[.int .i64 c, .int .i64 d, .int .i64 e] 74)).alloc (.cells MC 74)) W.heap.size 0 (hopE.c ((c, d), e))) := (hop_new W c d e 74).later ((Below.refl _ _).alloc (Nat.le_refl _) _)
  clear hMC hal
  show Calls Tryz.prog 51 #[.func (.yield l) #[] #[], .pointer (some ⟨bx, 0, none⟩), .pointer (some ⟨bi, 0, none⟩)] W _
  clear cx hx0 hx1 hi0 hi1 hi2 ho hy hW hn h0 hlt hab hax hY hsp hhd ht hm
  go_enter Tryz.func51, Tryz.ntmps51
  go_upto_region 0 with fail
  go_region_held3 (fun V => V.cell? ⟨bx, 0, none⟩ = some vo ∧ V.cell? ⟨bx, 1, none⟩ = some vy ∧ V.cell? ⟨bi, 0, none⟩ = some (.int .i64 c) ∧ V.cell? ⟨bi, 1, none⟩ = some (.int .i64 d) ∧ V.cell? ⟨bi, 2, none⟩ = some (.int .i64 e))
    (first | (with_reducible assumption) | (with_reducible exact HSK.out _ (Kb.refl _ _).drew) | (with_reducible exact HSK.out _ ((Kb.refl _ _).drew.alloc _)) | (with_reducible exact HSK.out _ ((Kb.refl _ _).alloc _).drew) | (with_reducible exact HSK.out _ (((Kb.refl _ _).alloc _).alloc _).drew) | (with_reducible exact HSK.out _ (((Kb.refl _ _).drew.alloc _).alloc _)) | (with_reducible exact HSK.out _ (((Kb.refl _ _).alloc _).drew.alloc _)) | (with_reducible exact HSK.out _ HK5.out) | (with_reducible exact HSW.out _ HB6.out))
    (first
      | (refine step_append_fits (E := hopE) _ (by rfl) _ _ 75 74 (by rfl) Tryz.underlying75 j0 hj hy1 0 (W.heap.size) 24 [] (by rfl) ?_ (W.heap.size + 1) 0 1 (by rfl) ((c, d), e) ?_ (by decide) ?_; (focus (exact HOM1.out _)); (focus (exact HVM1.out)); intro w5 ho5 hg5; have HK5 : Hid (Kb (fun _ => True) W w5) := (Kb.grown (by first | exact (((Kb.refl _ _).alloc _).alloc _).drew | exact (((Kb.refl _ _).drew.alloc _).alloc _) | exact ((Kb.refl _ _).alloc _).drew.alloc _) hg5 (fun r er hr _ => by cases er; omega)); have HBK5 : Hid (W.heap.size ≤ W.heap.size) := (by show _ ≤ _; omega); have HH5 : Hid (HK w5 (W.heap.size) [((c, d), e)]) := (hk_one ho5); clear ho5 hg5)
      | (refine step_append_fits (E := hopE) _ (by rfl) _ _ 75 74 (by rfl) Tryz.underlying75 j0 hj hy1 0 (W.heap.size + 1) 24 [] (by rfl) ?_ (W.heap.size) 0 1 (by rfl) ((c, d), e) ?_ (by decide) ?_; (focus (exact HOM2.out _)); (focus (exact HVM2.out)); intro w5 ho5 hg5; have HK5 : Hid (Kb (fun _ => True) W w5) := (Kb.grown (by first | exact (((Kb.refl _ _).alloc _).alloc _).drew | exact (((Kb.refl _ _).drew.alloc _).alloc _) | exact ((Kb.refl _ _).alloc _).drew.alloc _) hg5 (fun r er hr _ => by cases er; omega)); have HBK5 : Hid (W.heap.size ≤ W.heap.size + 1) := (by show _ ≤ _; omega); have HH5 : Hid (HK w5 (W.heap.size + 1) [((c, d), e)]) := (hk_one ho5); clear ho5 hg5)
      | (go_at_call 52; refine (HWK.out _ _ HK5.out HBK5.out HH5.out).mono ?_; rintro e6 w6 ⟨r, rfl, hP, hB6⟩; have HP : Hid ((∃ X, J (pwS Ls Hs As Bs (c, d) e).length X w6) ∨ Jx w6) := hP; have HB6 : Hid (Below w.heap.size w w6) := hB6; clear hP hB6))
  all_goals go_wp2
  all_goals go_end0
  all_goals exact ⟨⟨_, rfl⟩, HP.out⟩
end Go.Proofs.YtglnnoglbieaeaaGreatDoor
