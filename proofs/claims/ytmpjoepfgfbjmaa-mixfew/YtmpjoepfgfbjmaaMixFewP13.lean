/- Contracts and facts on the way to MixFew, joined into one text: MixWalk5, MixWalk6, MixDuring, ItLaw2, MixFates2, MixClone, MixCmp. -/
import Derived.Test.YtmpjoepfgfbjmaaMixFewP12
import Derived.Test.YtmpjoepfgfbjmaaMixFewP8
import Derived.Test.YtmpjoepfgfbjmaaMixFewP10
import Derived.Test.YtmpjoepfgfbjmaaMixFewP4
import Derived.Test.YtmpjoepfgfbjmaaMixFewP11
import Derived.Test.YtmpjoepfgfbjmaaMixFewP2
import Derived.Test.YtmpjoepfgfbjmaaMixFewP6
import Derived.Deep.CutRange
import Derived.Deep.CutBlock
import Derived.Deep.RegionLaw
import Derived.Sort.Grow
import Derived.Shelf.SlSorted.Search
/- What walk of package mix answers, one hop: by take. -/
namespace Go.Proofs.Ytmpjoepfgfbjmaa
open Go.RowKit Go.Shelf
set_option linter.unusedSimpArgs false
set_option linter.unusedVariables false

theorem LegAt.kb {W W' : World} {g : Nat} {a : Int} {b : ByteArray} {c d e : Int} {p : Nat → Prop} (h : LegAt W g a b c d e) (hk : Kb p W W') (hp : p g) : LegAt W' g a b c d e := ⟨hk.at h.1 hp, hk.at h.2.1 hp, hk.at h.2.2.1 hp, hk.at h.2.2.2.1 hp, hk.at h.2.2.2.2 hp⟩
theorem LegAt.lt {W : World} {g : Nat} {a : Int} {b : ByteArray} {c d e : Int} (h : LegAt W g a b c d e) : g < W.heap.size := World.block_lt_of_cell? W ⟨g, 0, none⟩ h.1
theorem legB_eq {g o : Int × ByteArray × ((Int × Int) × Int)} (h : legB g o = true) : g = o := by
  obtain ⟨a, b, ⟨c, d⟩, e⟩ := g
  obtain ⟨a', b', ⟨c', d'⟩, e'⟩ := o
  simp only [legB, Bool.and_eq_true, ba_eq, beq_iff_eq] at h
  obtain ⟨rfl, rfl, rfl, rfl, rfl⟩ := h
  rfl
theorem legB_same (g : Int × ByteArray × ((Int × Int) × Int)) : legB g g = true := by
  obtain ⟨a, b, ⟨c, d⟩, e⟩ := g
  have e : (b == b) = true := ba_eq.2 rfl
  simp [legB, e]
section
variable {l lo n₀ : Nat} {J : Nat → (Nat → Prop) → World → Prop} {Jx : World → Prop} {L : List Ft} {w : World} {vo vy : Value} {m : Nat} {Ls : List ((Int × Int) × (Int × Int))} {Hs : List (ByteArray × (Int × Int))} {As Bs : List (List Ru)}
set_option maxHeartbeats 16000000 in
set_option maxRecDepth 100000 in
theorem walk_ok (cx : MCx l lo n₀ J Jx L w vo vy m Ls Hs As Bs) (n : Nat) (hT : TkOK l lo n₀ J Jx L w vo vy m Ls Hs As Bs n) : WkOK l lo n₀ J Jx L w vo vy m Ls Hs As Bs (n + 1) := by
  intro A k X Y bk lst met hlen hn1 h0 hI hsp hhd hL
  obtain ⟨_, _, _, e5, hGn, _, _, hGa⟩ := hI.h.gs.form
  cases e5
  obtain ⟨g5, o5, hao5, hc5, _⟩ := hGa h0
  simp only [Option.some.injEq, Addr.mk.injEq, and_true] at hao5
  obtain ⟨rfl, rfl⟩ := hao5
  obtain ⟨p0, p1, p2, hkl, hLk, c0, c1, c2⟩ := hop_at hc5 rfl (show lst.length - 1 < lst.length by omega)
  have hla : laH lst = ((p0, p1), p2) := by
    have e : laH lst = lst[lst.length - 1] := by
      unfold laH
      simp [List.getD, hkl]
    rw [e, hLk]
  rw [hla] at hsp hhd
  have hsp2 := sp_of hsp
  simp only at hsp2 hhd
  have hhd2 : 0 ≤ p2 ∧ p2 < 16 := by simpa [hdrB] using hhd
  obtain ⟨a, rfl⟩ : ∃ a : Nat, p0 = (a : Int) + 1 := ⟨(p0 - 1).toNat, by omega⟩
  obtain ⟨h, rfl⟩ : ∃ h : Nat, p2 = (h : Int) := ⟨p2.toNat, by omega⟩
  have ham : a < m := by omega
  have ha6 : a < 6 := by have := cx.m6; omega
  have hh16 : h < 16 := by omega
  have hsx : sxH lst = a := by unfold sxH; rw [hla]; simp
  obtain ⟨q, hq⟩ : ∃ q, q = lst.length := ⟨_, rfl⟩
  -- the legs
  obtain ⟨gY, hgY⟩ : ∃ g, g = lgA Ls Hs Bs lst := ⟨_, rfl⟩
  obtain ⟨gO, hgO⟩ : ∃ g, g = lgA Ls Hs As lst := ⟨_, rfl⟩
  have HAFT : Hid (∀ (Ts : List (List Ru)) (W : World), HK W bk lst → Calls Try.prog 37 #[legV (lgT Ls Hs (taT Ts ((a : Int) + 1)) (((a : Int) + 1, 0), (h : Int))), .slice (some ⟨bk, 0, none⟩) lst.length 24] W fun e w' => e = .returned (legV (lgA Ls Hs Ts lst)) ∧ Below W.heap.size W w') := fun Ts W hW => by
    have h1 := after_any (lgT Ls Hs (taT Ts ((a : Int) + 1)) (((a : Int) + 1, 0), (h : Int))) (some ⟨bk, 0, none⟩) lst.length 24 lst W hW.gs
    have e1 : lgA Ls Hs Ts lst = afL (lgT Ls Hs (taT Ts ((a : Int) + 1)) (((a : Int) + 1, 0), (h : Int))) lst := by
      unfold lgA
      rw [hla]
      rfl
    rw [e1]
    exact h1
  have HAY := HAFT.out Bs
  have HAO := HAFT.out As
  rw [← hgY] at HAY
  rw [← hgO] at HAO
  clear HAFT
  obtain ⟨hQ, hB3, hS3⟩ := qb_new A vo vy met ((a : Int) + 1) p1 (h : Int)
  obtain ⟨A3, hA3⟩ : ∃ W, qbox A vo vy (met 0) (met 1) (met 2) (met 3) (met 4) (met 5) ((a : Int) + 1) p1 (h : Int) = W := ⟨_, rfl⟩
  rw [hA3] at hQ hB3 hS3
  have hI3 := hI.later cx hB3
  obtain ⟨gy, oy, cy, gy2, oy2, cy2, rfl, ty, Y0, Y1, Y2, Y3, Y4⟩ := lgs_at (cx.yng A3 hI3.b) ham hh16
  obtain ⟨go, oo, co, go2, oo2, co2, rfl, tO, O0, O1, O2, O3, O4⟩ := lgs_at (cx.old A3 hI3.b) ham hh16
  obtain ⟨bY, hbY⟩ : ∃ b, b = lgT Ls Hs (taT Bs ((a : Int) + 1)) (((a : Int) + 1, 0), (h : Int)) := ⟨_, rfl⟩
  obtain ⟨bO, hbO⟩ : ∃ b, b = lgT Ls Hs (taT As ((a : Int) + 1)) (((a : Int) + 1, 0), (h : Int)) := ⟨_, rfl⟩
  rw [← hbY] at Y0 Y1 Y2 Y3 Y4 HAY
  rw [← hbO] at O0 O1 O2 O3 O4 HAO
  clear hbY hbO
  obtain ⟨u0, u1, ⟨u2, u3⟩, u4⟩ := bY
  obtain ⟨v0, v1, ⟨v2, v3⟩, v4⟩ := bO
  dsimp only at Y0 Y1 Y2 Y3 Y4 O0 O1 O2 O3 O4
  have hbk := hI.y bk hI.yb
  have HEY : Hid (∃ Ts, gY = lgA Ls Hs Ts lst) := ⟨_, hgY⟩
  have HEO : Hid (∃ Ts, gO = lgA Ls Hs Ts lst) := ⟨_, hgO⟩
  have HPW : Hid (pwL Ls Hs As Bs (n + 1) lst met = if met a = true then tkL (pwL Ls Hs As Bs n) gY lst met else tkL (pwL Ls Hs As Bs n) gO lst met ++ (if gY = gO then [] else tkL (pwL Ls Hs As Bs n) gY lst (mtS met a))) := by
    show _ = _
    rw [pwL, hsx, hgY, hgO]
  have HT : Hid (TkOK l lo n₀ J Jx L w (.slice (some ⟨go, oo, none⟩) m co) (.slice (some ⟨gy, oy, none⟩) m cy) m Ls Hs As Bs n) := hT
  have HL : Hid (Nxt L k (pwL Ls Hs As Bs (n + 1) lst met)) := hL
  have HLEN : Hid (lst.length + n = 24 ∧ 0 < lst.length) := ⟨by omega, h0⟩
  have HI : Hid (WkI lo n₀ J w X Y k bk lst A) := hI
  have HBK : Hid (lo ≤ bk ∧ bk < A.heap.size) := ⟨hbk.1, hbk.2.1⟩
  have HLO : Hid (n₀ ≤ lo ∧ lo ≤ A.heap.size) := ⟨cx.nlo, hI.s⟩
  have HB3 : Hid (Below A.heap.size A A3) := hB3
  have HQ : Hid (QB A A3 (.slice (some ⟨go, oo, none⟩) m co) (.slice (some ⟨gy, oy, none⟩) m cy) met ((a : Int) + 1) p1 (h : Int)) := hQ
  have HS3 : Hid (A3.heap.size = A.heap.size + 3) := hS3
  have HH3 : Hid (HK A3 bk lst) := hI3.h
  obtain ⟨y0, y1, ⟨y2, y3⟩, y4⟩ := gY
  obtain ⟨o0, o1, ⟨o2, o3⟩, o4⟩ := gO
  unfold legV at HAY HAO
  dsimp only at HAY HAO
  rw [← hq] at HAY HAO c0 c1 c2
  have HAYW : Hid (∀ W, Below A3.heap.size A3 W → Calls Try.prog 37 #[.agg #[.int .i64 u0, .string u1, .int .i64 u2, .int .i64 u3, .int .i64 u4], .slice (some ⟨bk, 0, none⟩) q 24] W fun e w' => e = .returned (.agg #[.int .i64 y0, .string y1, .int .i64 y2, .int .i64 y3, .int .i64 y4]) ∧ Below W.heap.size W w') := fun W hb => HAY W (own_below hI3.h hb)
  have HAOW : Hid (∀ W, Below A3.heap.size A3 W → Calls Try.prog 37 #[.agg #[.int .i64 v0, .string v1, .int .i64 v2, .int .i64 v3, .int .i64 v4], .slice (some ⟨bk, 0, none⟩) q 24] W fun e w' => e = .returned (.agg #[.int .i64 o0, .string o1, .int .i64 o2, .int .i64 o3, .int .i64 o4]) ∧ Below W.heap.size W w') := fun W hb => HAO W (own_below hI3.h hb)
  have HSY : Hid (∀ W, Below A3.heap.size A3 W → W.cell? ⟨A.heap.size, 1, none⟩ = some (.slice (some ⟨gy, oy, none⟩) m cy) ∧ W.cell? ⟨gy, oy + a, none⟩ = some (.slice (some ⟨gy2, oy2, none⟩) 16 cy2) ∧ W.cell? ⟨A.heap.size + 1 + 1, 2, none⟩ = some (.int .i64 (h : Int)) ∧ W.cell? ⟨gy2, oy2 + h * 5, none⟩ = some (.int .i64 u0) ∧ W.cell? ⟨gy2, oy2 + h * 5 + 1, none⟩ = some (.string u1) ∧ W.cell? ⟨gy2, oy2 + h * 5 + 2, none⟩ = some (.int .i64 u2) ∧ W.cell? ⟨gy2, oy2 + h * 5 + 3, none⟩ = some (.int .i64 u3) ∧ W.cell? ⟨gy2, oy2 + h * 5 + 4, none⟩ = some (.int .i64 u4)) := fun W hb => ⟨cell_later hb hQ.x1, cell_later hb ty, cell_later hb hQ.h2, cell_later hb Y0, cell_later hb Y1, cell_later hb Y2, cell_later hb Y3, cell_later hb Y4⟩
  have HSO : Hid (∀ W, Below A3.heap.size A3 W → W.cell? ⟨A.heap.size, 0, none⟩ = some (.slice (some ⟨go, oo, none⟩) m co) ∧ W.cell? ⟨go, oo + a, none⟩ = some (.slice (some ⟨go2, oo2, none⟩) 16 co2) ∧ W.cell? ⟨A.heap.size + 1 + 1, 2, none⟩ = some (.int .i64 (h : Int)) ∧ W.cell? ⟨go2, oo2 + h * 5, none⟩ = some (.int .i64 v0) ∧ W.cell? ⟨go2, oo2 + h * 5 + 1, none⟩ = some (.string v1) ∧ W.cell? ⟨go2, oo2 + h * 5 + 2, none⟩ = some (.int .i64 v2) ∧ W.cell? ⟨go2, oo2 + h * 5 + 3, none⟩ = some (.int .i64 v3) ∧ W.cell? ⟨go2, oo2 + h * 5 + 4, none⟩ = some (.int .i64 v4)) := fun W hb => ⟨cell_later hb hQ.x0, cell_later hb tO, cell_later hb hQ.h2, cell_later hb O0, cell_later hb O1, cell_later hb O2, cell_later hb O3, cell_later hb O4⟩
  have HA3 : Hid (((A.alloc (Obj.cells #[.slice (some ⟨go, oo, none⟩) m co, .slice (some ⟨gy, oy, none⟩) m cy] 61)).alloc (Obj.cells #[.bool (met 0), .bool (met 1), .bool (met 2), .bool (met 3), .bool (met 4), .bool (met 5)] 87)).alloc (Obj.cells #[.int .i64 ((a : Int) + 1), .int .i64 p1, .int .i64 (h : Int)] 55) = A3) := hA3
  have HQL : Hid (lst.length = q) := hq.symm
  obtain ⟨N, hN⟩ : ∃ N, N = (pwL Ls Hs As Bs (n + 1) lst met).length := ⟨_, rfl⟩
  have HN : Hid ((pwL Ls Hs As Bs (n + 1) lst met).length = N) := hN.symm
  rw [← hq, ← hN]
  have hq1 : 0 < q := by omega
  have hq24 : q ≤ 24 := by omega
  have hmi : IntKind.i64.wrap ((q : Int) - 1) = ((q - 1 : Nat) : Int) := by
    rw [show (q : Int) - 1 = ((q - 1 : Nat) : Int) by omega]
    exact wrap_small (by omega) (by omega)
  have mb0 : (0 : Int) ≤ ((q - 1 : Nat) : Int) := by omega
  have mb1 : ((q - 1 : Nat) : Int) < (q : Int) := by omega
  have hwa : IntKind.i64.wrap (a : Int) = (a : Int) := wrap_small (by omega) (by omega)
  have hwa2 : IntKind.i64.wrap ((a : Int) + 1 - 1) = (a : Int) := by rw [show (a : Int) + 1 - 1 = (a : Int) by omega]; exact hwa
  have ab0 : (0 : Int) ≤ (a : Int) := by omega
  have ab1 : (a : Int) < (m : Int) := by omega
  have ab6 : (a : Int) < 6 := by omega
  have hb0 : (0 : Int) ≤ (h : Int) := by omega
  have hb1 : (h : Int) < 16 := by omega
  have hlg : bk < A.heap.size := hbk.2.1
  simp only [Nat.zero_add] at c0 c1 c2
  unfold metV
  clear hT hlen hn1 h0 hI hsp hhd hL hGn hGa hc5 hkl hLk hla hsp2 hhd2 hsx HAY HAO hgY hgO hI3 hA3 hq hN hbk hQ hB3 hS3 ty tO Y0 Y1 Y2 Y3 Y4 O0 O1 O2 O3 O4
  go_enter Try.func25, Try.ntmps25
  go_upto_region 2 with fail
  rw [HA3.out]
  clear HA3 c0 c1 c2
  obtain ⟨x0, x1, mm, mf, q0, q1, q2⟩ := HQ.out
  clear mm mf
  go_upto_region 3 with fail
  obtain ⟨s0, s1, s2, s3, s4, s5, s6, s7⟩ := HSY.out A3 (Below.refl _ _)
  have hlA : A.heap.size < A3.heap.size := World.block_lt_of_cell? _ _ x0
  have hlA2 : A.heap.size + 1 + 1 < A3.heap.size := World.block_lt_of_cell? _ _ q0
  have hly : gy < A3.heap.size := World.block_lt_of_cell? _ _ s1
  have hly2 : gy2 < A3.heap.size := World.block_lt_of_cell? _ _ s3
  clear x0 q0 q1
  go_cut [11] from 23 (fun p w' => ∃ g, p = .pointer (some ⟨g, 0, none⟩) ∧ (LegAt w' g y0 y1 y2 y3 y4 ∧ A3.heap.size ≤ g) ∧ Below A3.heap.size A3 w')
  case first =>
      go_region_held3 (fun W => W.cell? ⟨A.heap.size, 1, none⟩ = some (.slice (some ⟨gy, oy, none⟩) m cy) ∧ W.cell? ⟨gy, oy + a, none⟩ = some (.slice (some ⟨gy2, oy2, none⟩) 16 cy2) ∧ W.cell? ⟨A.heap.size + 1 + 1, 2, none⟩ = some (.int .i64 (h : Int)) ∧ W.cell? ⟨gy2, oy2 + h * 5, none⟩ = some (.int .i64 u0) ∧ W.cell? ⟨gy2, oy2 + h * 5 + 1, none⟩ = some (.string u1) ∧ W.cell? ⟨gy2, oy2 + h * 5 + 2, none⟩ = some (.int .i64 u2) ∧ W.cell? ⟨gy2, oy2 + h * 5 + 3, none⟩ = some (.int .i64 u3) ∧ W.cell? ⟨gy2, oy2 + h * 5 + 4, none⟩ = some (.int .i64 u4))
        (first | (with_reducible assumption) | (with_reducible exact HSY.out _ (Below.drew (Below.refl _ _))) | (with_reducible exact HSY.out _ ((Below.drew (Below.refl _ _)).alloc (Nat.le_refl _) _)) | (with_reducible exact HSY.out _ ((Below.refl _ _).alloc (Nat.le_refl _) _).drew) | (with_reducible exact HSY.out _ HBX.out) | (with_reducible exact HSY.out _ (HBX.out.alloc HBX.out.size _)) | (with_reducible exact HSY.out _ (below_5 HBX.out _ (Nat.le_refl _) _ _ _ _ _)))
        (first
          | (go_at_call 37; refine (HAYW.out _ (by first | exact Below.drew (Below.refl _ _) | exact (Below.drew (Below.refl _ _)).alloc (Nat.le_refl _) _)).mono ?_; rintro e w' ⟨rfl, hb⟩; have HBX : Hid (Below A3.heap.size A3 w') := (by first | exact bdrew hb | exact balloc hb); (try (have hbc := zl_d hb; obtain ⟨⟨z0, z1, z2, z3, z4⟩, zf⟩ := hbc; have zf0 := zf 0; have zf1 := zf 1; have zf2 := zf 2; have zf3 := zf 3; have zf4 := zf 4; clear zf)); clear hb))
      all_goals (go_wp2_with fail; go_meet)
      all_goals refine ⟨_, rfl, ?_⟩
      all_goals first
        | (with_reducible exact ⟨⟨lat_new _ _ _ _ _ _ _, HBX.out.size⟩, HBX.out.alloc HBX.out.size _⟩)
        | (with_reducible exact ⟨⟨lat_5 (lat_of z0 z1 z2 z3 z4) _ _ _ _ _, Nat.le_refl _⟩, below_5 HBX.out _ (Nat.le_refl _) _ _ _ _ _⟩)
  case rest =>
    obtain ⟨g4, rfl, ⟨hL4, hg4⟩, hbw⟩ := hcut
    obtain ⟨w4, hw4⟩ : ∃ X, X = wc := ⟨_, rfl⟩
    subst hw4
    have HB34 : Hid (Below A3.heap.size A3 w4) := hbw
    have HB4 : Hid (Below A.heap.size A w4) := HB3.out.trans (hbw.mono HB3.out.size)
    have HQ4 : Hid (QB A w4 (.slice (some ⟨go, oo, none⟩) m co) (.slice (some ⟨gy, oy, none⟩) m cy) met ((a : Int) + 1) p1 (h : Int)) := HQ.out.kb (Kb.of_below hbw (fun b hb _ => hb) : Kb (fun _ => True) _ _) (fun _ _ _ => trivial)
    have HL4 : Hid (LegAt w4 g4 y0 y1 y2 y3 y4) := hL4
    have HG4 : Hid (A.heap.size + 3 ≤ g4) := by
      show _ ≤ _
      have := HS3.out
      omega
    clear s0 s1 s2 s3 s4 s5 s6 s7 hlA hlA2 hly hly2 x1 q2 hL4 hg4 hbw HSY HAYW
    obtain ⟨x0, x1, mm, mf, q0, q1, q2⟩ := HQ4.out
    obtain ⟨b, hb⟩ : ∃ b, b = met a := ⟨_, rfl⟩
    have HMA : Hid (met a = b) := hb.symm
    have ma : w4.cell? ⟨A.heap.size + 1, a, none⟩ = some (.bool b) := by rw [hb]; exact mm a ha6
    have hlm : A.heap.size + 1 < w4.heap.size := World.block_lt_of_cell? _ _ ma
    clear hb
    cases b with
    | true =>
      have HTK : Hid (Calls Try.prog 43 #[.agg #[.slice (some ⟨go, oo, none⟩) m co, .slice (some ⟨gy, oy, none⟩) m cy], .agg #[.int .i64 y0, .string y1, .int .i64 y2, .int .i64 y3, .int .i64 y4], .slice (some ⟨bk, 0, none⟩) q 24, .agg #[.bool (met 0), .bool (met 1), .bool (met 2), .bool (met 3), .bool (met 4), .bool (met 5)], .func (.yield l) #[] #[]] w4 fun e A' => ∃ r, e = .returned (.bool r) ∧ WkP n₀ J Jx X Y (k + N) bk lst A r A') := by
        have e1 : pwL Ls Hs As Bs (n + 1) lst met = tkL (pwL Ls Hs As Bs n) (y0, y1, ((y2, y3), y4)) lst met := by rw [HPW.out, if_pos HMA.out]
        have hx := HT.out w4 k X _ bk lst met (y0, y1, ((y2, y3), y4)) HLEN.out.1 HLEN.out.2 (HI.out.later cx HB4.out) HEY.out (by rw [← e1]; exact HL.out)
        rw [← e1, HN.out, HQL.out] at hx
        refine hx.mono ?_
        rintro e A' ⟨r, rfl, hP⟩
        exact ⟨r, rfl, hP.back HB4.out⟩
      have m0 := mm 0 (by omega)
      have m1 := mm 1 (by omega)
      have m2 := mm 2 (by omega)
      have m3 := mm 3 (by omega)
      have m4 := mm 4 (by omega)
      have m5 := mm 5 (by omega)
      obtain ⟨d0, d1, d2, d3, d4⟩ := HL4.out
      clear mm mf
      go_wp2_with fail
      refine HTK.out.mono ?_
      rintro e w5 ⟨r, rfl, hP⟩
      have HP : Hid (WkP n₀ J Jx X Y (k + N) bk lst A r w5) := hP
      clear hP
      go_wp2
      go_ret
      exact ⟨r, rfl, HP.out⟩
    | false =>
      have HSO4 : Hid (∀ W, Below w4.heap.size w4 W → W.cell? ⟨A.heap.size, 0, none⟩ = some (.slice (some ⟨go, oo, none⟩) m co) ∧ W.cell? ⟨go, oo + a, none⟩ = some (.slice (some ⟨go2, oo2, none⟩) 16 co2) ∧ W.cell? ⟨A.heap.size + 1 + 1, 2, none⟩ = some (.int .i64 (h : Int)) ∧ W.cell? ⟨go2, oo2 + h * 5, none⟩ = some (.int .i64 v0) ∧ W.cell? ⟨go2, oo2 + h * 5 + 1, none⟩ = some (.string v1) ∧ W.cell? ⟨go2, oo2 + h * 5 + 2, none⟩ = some (.int .i64 v2) ∧ W.cell? ⟨go2, oo2 + h * 5 + 3, none⟩ = some (.int .i64 v3) ∧ W.cell? ⟨go2, oo2 + h * 5 + 4, none⟩ = some (.int .i64 v4)) := fun W hb => HSO.out W (HB34.out.trans (hb.mono HB34.out.size))
      have HAO4 : Hid (∀ W, Below w4.heap.size w4 W → Calls Try.prog 37 #[.agg #[.int .i64 v0, .string v1, .int .i64 v2, .int .i64 v3, .int .i64 v4], .slice (some ⟨bk, 0, none⟩) q 24] W fun e w' => e = .returned (.agg #[.int .i64 o0, .string o1, .int .i64 o2, .int .i64 o3, .int .i64 o4]) ∧ Below W.heap.size W w') := fun W hb => HAOW.out W (HB34.out.trans (hb.mono HB34.out.size))
      obtain ⟨s0, s1, s2, s3, s4, s5, s6, s7⟩ := HSO4.out w4 (Below.refl _ _)
      have hlA : A.heap.size < w4.heap.size := World.block_lt_of_cell? _ _ x0
      have hlA2 : A.heap.size + 1 + 1 < w4.heap.size := World.block_lt_of_cell? _ _ q0
      have hly : go < w4.heap.size := World.block_lt_of_cell? _ _ s1
      have hly2 : go2 < w4.heap.size := World.block_lt_of_cell? _ _ s3
      clear x0 x1 mm mf q0 q1 q2 HSO HAOW
      go_upto_region 6 with fail
      clear ma
      go_cut [12] from 43 (fun p w' => ∃ g, p = .pointer (some ⟨g, 0, none⟩) ∧ (LegAt w' g o0 o1 o2 o3 o4 ∧ w4.heap.size ≤ g) ∧ Below w4.heap.size w4 w')
      case first =>
        go_region_held3 (fun W => W.cell? ⟨A.heap.size, 0, none⟩ = some (.slice (some ⟨go, oo, none⟩) m co) ∧ W.cell? ⟨go, oo + a, none⟩ = some (.slice (some ⟨go2, oo2, none⟩) 16 co2) ∧ W.cell? ⟨A.heap.size + 1 + 1, 2, none⟩ = some (.int .i64 (h : Int)) ∧ W.cell? ⟨go2, oo2 + h * 5, none⟩ = some (.int .i64 v0) ∧ W.cell? ⟨go2, oo2 + h * 5 + 1, none⟩ = some (.string v1) ∧ W.cell? ⟨go2, oo2 + h * 5 + 2, none⟩ = some (.int .i64 v2) ∧ W.cell? ⟨go2, oo2 + h * 5 + 3, none⟩ = some (.int .i64 v3) ∧ W.cell? ⟨go2, oo2 + h * 5 + 4, none⟩ = some (.int .i64 v4))
          (first | (with_reducible assumption) | (with_reducible exact HSO4.out _ (Below.drew (Below.refl _ _))) | (with_reducible exact HSO4.out _ ((Below.drew (Below.refl _ _)).alloc (Nat.le_refl _) _)) | (with_reducible exact HSO4.out _ ((Below.refl _ _).alloc (Nat.le_refl _) _).drew) | (with_reducible exact HSO4.out _ HBX.out) | (with_reducible exact HSO4.out _ (HBX.out.alloc HBX.out.size _)) | (with_reducible exact HSO4.out _ (below_5 HBX.out _ (Nat.le_refl _) _ _ _ _ _)))
          (first
            | (go_at_call 37; refine (HAO4.out _ (by first | exact Below.drew (Below.refl _ _) | exact (Below.drew (Below.refl _ _)).alloc (Nat.le_refl _) _)).mono ?_; rintro e w' ⟨rfl, hb⟩; have HBX : Hid (Below w4.heap.size w4 w') := (by first | exact bdrew hb | exact balloc hb); (try (have hbc := zl_d hb; obtain ⟨⟨z0, z1, z2, z3, z4⟩, zf⟩ := hbc; have zf0 := zf 0; have zf1 := zf 1; have zf2 := zf 2; have zf3 := zf 3; have zf4 := zf 4; clear zf)); clear hb))
        all_goals (go_wp2_with fail; go_meet)
        all_goals refine ⟨_, rfl, ?_⟩
        all_goals first
          | (with_reducible exact ⟨⟨lat_new _ _ _ _ _ _ _, HBX.out.size⟩, HBX.out.alloc HBX.out.size _⟩)
          | (with_reducible exact ⟨⟨lat_5 (lat_of z0 z1 z2 z3 z4) _ _ _ _ _, Nat.le_refl _⟩, below_5 HBX.out _ (Nat.le_refl _) _ _ _ _ _⟩)
      case rest =>
        obtain ⟨g5, rfl, ⟨hL5, hg5⟩, hbw⟩ := hcut
        obtain ⟨w5, hw5⟩ : ∃ X, X = wc := ⟨_, rfl⟩
        subst hw5
        have HB5 : Hid (Below A.heap.size A w5) := HB4.out.trans (hbw.mono HB4.out.size)
        have HQ5 : Hid (QB A w5 (.slice (some ⟨go, oo, none⟩) m co) (.slice (some ⟨gy, oy, none⟩) m cy) met ((a : Int) + 1) p1 (h : Int)) := HQ4.out.kb (Kb.of_below hbw (fun b hb _ => hb) : Kb (fun _ => True) _ _) (fun _ _ _ => trivial)
        have HY5 : Hid (LegAt w5 g4 y0 y1 y2 y3 y4) := HL4.out.later hbw
        have HO5 : Hid (LegAt w5 g5 o0 o1 o2 o3 o4) := hL5
        have HG5 : Hid (A.heap.size + 3 ≤ g5) := by
          show _ ≤ _
          have h1 := HG4.out
          have h2 := HL4.out.lt
          omega
        clear s0 s1 s2 s3 s4 s5 s6 s7 hlA hlA2 hly hly2 hlm hL5 hg5 hbw HSO4 HAO4 HQ4 HL4
        obtain ⟨x0, x1, mm, mf, q0, q1, q2⟩ := HQ5.out
        have m0 := mm 0 (by omega)
        have m1 := mm 1 (by omega)
        have m2 := mm 2 (by omega)
        have m3 := mm 3 (by omega)
        have m4 := mm 4 (by omega)
        have m5 := mm 5 (by omega)
        obtain ⟨d0, d1, d2, d3, d4⟩ := HO5.out
        obtain ⟨No, hNo⟩ : ∃ N, N = (tkL (pwL Ls Hs As Bs n) (o0, o1, ((o2, o3), o4)) lst met).length := ⟨_, rfl⟩
        have e1 : pwL Ls Hs As Bs (n + 1) lst met = tkL (pwL Ls Hs As Bs n) (o0, o1, ((o2, o3), o4)) lst met ++ (if (y0, y1, ((y2, y3), y4)) = (o0, o1, ((o2, o3), o4)) then [] else tkL (pwL Ls Hs As Bs n) (y0, y1, ((y2, y3), y4)) lst (mtS met a)) := by rw [HPW.out, if_neg (by rw [HMA.out]; simp)]
        have HE1 : Hid (pwL Ls Hs As Bs (n + 1) lst met = tkL (pwL Ls Hs As Bs n) (o0, o1, ((o2, o3), o4)) lst met ++ (if (y0, y1, ((y2, y3), y4)) = (o0, o1, ((o2, o3), o4)) then [] else tkL (pwL Ls Hs As Bs n) (y0, y1, ((y2, y3), y4)) lst (mtS met a))) := e1
        have HNO : Hid ((tkL (pwL Ls Hs As Bs n) (o0, o1, ((o2, o3), o4)) lst met).length = No) := hNo.symm
        have HTK : Hid (Calls Try.prog 43 #[.agg #[.slice (some ⟨go, oo, none⟩) m co, .slice (some ⟨gy, oy, none⟩) m cy], .agg #[.int .i64 o0, .string o1, .int .i64 o2, .int .i64 o3, .int .i64 o4], .slice (some ⟨bk, 0, none⟩) q 24, .agg #[.bool (met 0), .bool (met 1), .bool (met 2), .bool (met 3), .bool (met 4), .bool (met 5)], .func (.yield l) #[] #[]] w5 fun e A' => ∃ r, e = .returned (.bool r) ∧ WkP n₀ J Jx X (fun b => Y b ∨ (A.heap.size ≤ b ∧ b < w5.heap.size)) (k + No) bk lst w5 r A') := by
          have hl := HL.out
          rw [e1] at hl
          have hx := HT.out w5 k X _ bk lst met (o0, o1, ((o2, o3), o4)) HLEN.out.1 HLEN.out.2 (HI.out.later cx HB5.out) HEO.out hl.left
          rw [HQL.out, ← hNo] at hx
          exact hx
        clear mm mf hNo e1
        go_wp2_with fail
        refine HTK.out.mono ?_
        rintro e w6 ⟨r, rfl, hP⟩
        have HP : Hid (WkP n₀ J Jx X (fun b => Y b ∨ (A.heap.size ≤ b ∧ b < w5.heap.size)) (k + No) bk lst w5 r w6) := hP
        clear hP x0 x1 q0 q1 q2 m0 m1 m2 m3 m4 m5 d0 d1 d2 d3 d4
        cases r with
        | false =>
          have HPF : Hid (WkP n₀ J Jx X Y (k + N) bk lst A false w6) := by
            have hx := HP.out.back HB5.out
            exact ⟨hx.1, hx.2⟩
          go_wp2
          go_ret
          exact ⟨false, rfl, HPF.out⟩
        | true =>
          obtain ⟨X1, hI6, hX1⟩ := (HI.out.later cx HB5.out).next cx HP.out
          have HI6 : Hid (WkI lo n₀ J w X1 (fun b => Y b ∨ (A.heap.size ≤ b ∧ b < w5.heap.size)) (k + No) bk lst w6) := hI6
          have HX1 : Hid (∀ b, X1 b → X b ∨ w5.heap.size ≤ b) := hX1
          have hbx : ∀ b, A.heap.size ≤ b → b < w5.heap.size → b < n₀ ∨ ((Y b ∨ (A.heap.size ≤ b ∧ b < w5.heap.size)) ∧ b ≠ bk) := fun b h1 h2 => .inr ⟨.inr ⟨h1, h2⟩, by have := HBK.out; omega⟩
          have hs5 : A.heap.size + 3 ≤ w5.heap.size := by
            have := HG4.out
            have := HY5.out.lt
            omega
          have HQ6 : Hid (QB A w6 (.slice (some ⟨go, oo, none⟩) m co) (.slice (some ⟨gy, oy, none⟩) m cy) met ((a : Int) + 1) p1 (h : Int)) := HQ5.out.kb HP.out.2 (fun b h1 h2 => hbx b h1 (by omega))
          have HY6 : Hid (LegAt w6 g4 y0 y1 y2 y3 y4) := HY5.out.kb HP.out.2 (hbx g4 (by have := HG4.out; omega) HY5.out.lt)
          have HO6 : Hid (LegAt w6 g5 o0 o1 o2 o3 o4) := HO5.out.kb HP.out.2 (hbx g5 (by have := HG5.out; omega) HO5.out.lt)
          have HYM : Hid (Y (A.heap.size + 1) ∨ (A.heap.size ≤ A.heap.size + 1 ∧ A.heap.size + 1 < w5.heap.size)) := .inr ⟨by omega, by omega⟩
          obtain ⟨c, hc⟩ : ∃ c, c = legB (y0, y1, ((y2, y3), y4)) (o0, o1, ((o2, o3), o4)) := ⟨_, rfl⟩
          have HC : Hid (legB (y0, y1, ((y2, y3), y4)) (o0, o1, ((o2, o3), o4)) = c) := hc.symm
          obtain ⟨d0, d1, d2, d3, d4⟩ := HY6.out
          obtain ⟨f0, f1, f2, f3, f4⟩ := HO6.out
          clear hI6 hX1 hbx hc hs5
          go_upto_region 9 with fail
          go_cut [63] from 61 (fun v w' => v = .bool c ∧ w' = w6)
          case first =>
            rcases leg_ways y0 y1 y2 y3 y4 o0 o1 o2 o3 o4 with ⟨e0, e⟩ | ⟨e0, e1, e⟩ | ⟨e0, e1, e2, e⟩ | ⟨e0, e1, e2, e3, e⟩ | ⟨e0, e1, e2, e3, e4, e⟩ | ⟨e0, e1, e2, e3, e4, e⟩
            all_goals
              rw [HC.out] at e
              have HE : Hid (c = _) := e
              clear e
              go_wp2_with fail
              go_meet
              exact ⟨by rw [HE.out], rfl⟩
          case rest =>
            obtain ⟨rfl, hwc⟩ := hcut
            have hwc2 := hwc.symm
            clear hwc
            subst hwc2
            clear d0 d1 d2 d3 d4 f0 f1 f2 f3 f4
            cases c with
            | true =>
              have HPT : Hid (WkP n₀ J Jx X Y (k + N) bk lst A true w6) := by
                have e2 : N = No := by
                  rw [← HN.out, HE1.out, if_pos (legB_eq HC.out), List.append_nil, HNO.out]
                rw [e2]
                exact HP.out.back HB5.out
              go_wp2
              go_ret
              exact ⟨true, rfl, HPT.out⟩
            | false =>
              have hne : ¬ (y0, y1, ((y2, y3), y4)) = (o0, o1, ((o2, o3), o4)) := fun e => by
                have h1 := HC.out
                rw [e, legB_same] at h1
                cases h1
              have hQ7 := HQ6.out.meet ha6
              have hI7 := HI6.out.set (i := a) (u := .bool true) cx HYM.out (by have := HBK.out; omega)
              have hY7 : LegAt (w6.setCell ⟨A.heap.size + 1, a, none⟩ (.bool true)) g4 y0 y1 y2 y3 y4 := HY6.out.kb (p := fun b => b ≠ A.heap.size + 1) ((Kb.refl _ _).setCell (q := ⟨A.heap.size + 1, a, none⟩) (fun _ h => h rfl) _) (by have := HG4.out; omega)
              have hK7 : Kb (fun b => b < n₀ ∨ (Y b ∧ b ≠ bk)) w6 (w6.setCell ⟨A.heap.size + 1, a, none⟩ (.bool true)) := (Kb.refl _ _).setCell (q := ⟨A.heap.size + 1, a, none⟩) (fun _ h => by
                rcases h with h | h
                · have h1 := HLO.out
                  simp only at h
                  omega
                · have h1 := (HI.out.y _ h.1).2.1
                  simp only at h1
                  omega) _
              obtain ⟨w7, hw7⟩ : ∃ W, w6.setCell ⟨A.heap.size + 1, a, none⟩ (.bool true) = W := ⟨_, rfl⟩
              rw [hw7] at hQ7 hI7 hY7 hK7
              have HW7 : Hid (w6.setCell ⟨A.heap.size + 1, a, none⟩ (.bool true) = w7) := hw7
              have HTK2 : Hid (Calls Try.prog 43 #[.agg #[.slice (some ⟨go, oo, none⟩) m co, .slice (some ⟨gy, oy, none⟩) m cy], .agg #[.int .i64 y0, .string y1, .int .i64 y2, .int .i64 y3, .int .i64 y4], .slice (some ⟨bk, 0, none⟩) q 24, .agg #[.bool (mtS met a 0), .bool (mtS met a 1), .bool (mtS met a 2), .bool (mtS met a 3), .bool (mtS met a 4), .bool (mtS met a 5)], .func (.yield l) #[] #[]] w7 fun e A' => ∃ r, e = .returned (.bool r) ∧ WkP n₀ J Jx X Y (k + N) bk lst A r A') := by
                have hl := HL.out
                rw [HE1.out, if_neg hne] at hl
                have hr := hl.right
                rw [HNO.out] at hr
                have hx := HT.out w7 (k + No) X1 _ bk lst (mtS met a) (y0, y1, ((y2, y3), y4)) HLEN.out.1 HLEN.out.2 hI7 HEY.out hr
                have e2 : k + No + (tkL (pwL Ls Hs As Bs n) (y0, y1, ((y2, y3), y4)) lst (mtS met a)).length = k + N := by
                  rw [← HN.out, HE1.out, if_neg hne, List.length_append, HNO.out]
                  omega
                rw [HQL.out, e2] at hx
                refine hx.mono ?_
                rintro e A' ⟨r, rfl, hR, hK⟩
                refine ⟨r, rfl, ?_, ?_⟩
                · cases r with
                  | false => exact hR
                  | true =>
                    obtain ⟨⟨X2, j1, j2⟩, j3⟩ := hR
                    refine ⟨⟨X2, j1, fun b hb => ?_⟩, j3⟩
                    have z1 := HB5.out.size
                    have z2 := HP.out.2.size
                    have z3 := hK7.size
                    rcases j2 b hb with hb | hb
                    · rcases HX1.out b hb with hb | hb
                      · exact .inl hb
                      · exact .inr (by omega)
                    · exact .inr (by omega)
                · exact (((Kb.of_below HB5.out (fun b hb' _ => hb')).trans (HP.out.2.mono (fun b _ h => h.imp id (fun h => ⟨.inl h.1, h.2⟩)))).trans hK7).trans (hK.mono (fun b _ h => h.imp id (fun h => ⟨.inl h.1, h.2⟩)))
              have ma : w6.cell? ⟨A.heap.size + 1, a, none⟩ = some (.bool (met a)) := HQ6.out.m a ha6
              have hlm6 : A.heap.size + 1 < w6.heap.size := World.block_lt_of_cell? _ _ ma
              have mfa : w6.frozen? ⟨A.heap.size + 1, a, none⟩ = false := HQ6.out.mf a
              obtain ⟨x0, x1, mm, mf, q0, q1, q2⟩ := hQ7
              have m0 := mm 0 (by omega)
              have m1 := mm 1 (by omega)
              have m2 := mm 2 (by omega)
              have m3 := mm 3 (by omega)
              have m4 := mm 4 (by omega)
              have m5 := mm 5 (by omega)
              obtain ⟨e0, e1, e2, e3, e4⟩ := hY7
              clear mm mf hw7 hne hI7 hK7
              go_upto_region 12 with fail
              rw [HW7.out]
              clear HW7 ma mfa
              go_wp2_with fail
              refine HTK2.out.mono ?_
              rintro e w8 ⟨r, rfl, hP8⟩
              have HP8 : Hid (WkP n₀ J Jx X Y (k + N) bk lst A r w8) := hP8
              clear hP8
              go_wp2
              go_ret
              exact ⟨r, rfl, HP8.out⟩
end
end Go.Proofs.Ytmpjoepfgfbjmaa
/- What the iterator of package mix hands on: all that may become of a packet. -/
namespace Go.Proofs.Ytmpjoepfgfbjmaa
open Go.RowKit Go.Shelf
set_option linter.unusedSimpArgs false
set_option linter.unusedVariables false

section
variable {l lo n₀ : Nat} {J : Nat → (Nat → Prop) → World → Prop} {Jx : World → Prop} {L : List Ft} {w : World} {vo vy : Value} {m : Nat} {Ls : List ((Int × Int) × (Int × Int))} {Hs : List (ByteArray × (Int × Int))} {As Bs : List (List Ru)}
theorem walk_all (cx : MCx l lo n₀ J Jx L w vo vy m Ls Hs As Bs) : ∀ n, 1 ≤ n → WkOK l lo n₀ J Jx L w vo vy m Ls Hs As Bs n
  | 0, h => by omega
  | n + 1, _ => walk_ok cx n (take_ok cx n (fun h => walk_all cx n h))
end
/-- A make with room, an operation of a drawn region. -/
theorem step_make {P : Program} (w : World) {ops : Array Oper} {o : Oper} {a : Act} {K : Act → World → Prop} {Q : Exit → Act → World → Prop} {X : Prop} (hgd : o.guard = none) (l c : Operand) (t e : TypeId) (ho : o.op = Op.makeSlice t l c) (ht : P.underlying t = some (.slice e)) (i : TypeInfo) (z : Value) (size bytes : Nat) (hi : P.info? e = some i) (hz : i.zero = some z) (hsize : i.size = size) (hby : i.bytes = bytes)
    (kl kc : IntKind) (n : Nat) (hl : a.eval l = .int kl 0) (hc : a.eval c = .int kc (n : Int)) (b2 : bytes * n ≤ 281474976710656) (b3 : n ≤ maxLen)
    (h : ∀ w', w'.ownsRow 0 e size (.slice (some ⟨w.heap.size, 0, none⟩) 0 n) 0 [] → w.grownBy w' none → K (a.put o.dst (.slice (some ⟨w.heap.size, 0, none⟩) 0 n)) w') :
    if Region.wanted o (yielded ops a.tmps) = true then Oper.wp P o a w K Q else X := by
  have hw : Region.wanted o (yielded ops a.tmps) = true := by simp [Region.wanted, hgd]
  rw [if_pos hw]
  obtain ⟨w', hrun, r1, r2⟩ := run_make_own (P := P) w 0 t e i z size ht hi hz hsize kl kc n (by rw [hby]; exact b2) b3 (Nat.zero_le _)
  unfold Oper.wp
  simp [execOp, ho, hl, hc, hrun, Result.andThen]
  exact h w' r1 r2
theorem vat_grown {V V' : World} {g o : Nat} {cs : List Value} {row : Option Nat} (h : VAt V g o cs) (hg : V.grownBy V' row) (hr : row = none := by rfl) : VAt V' g o cs := fun j u hu => hg.cell (h j u hu) (by rw [hr]; simp)
theorem hk_one {W : World} {bk : Nat} {p : (Int × Int) × Int} (h : W.ownsRow 0 55 hopE.n (.slice (some ⟨bk, 0, none⟩) (([] : List ((Int × Int) × Int)).length + 1) 24) (([] : List ((Int × Int) × Int)).length + 1) (cellsG hopE ([] ++ [p]))) : HK W bk [p] := h
theorem kb_tr {p : Nat → Prop} {a b c : World} (h : Kb (fun _ => True) a b) (k : Kb p b c) : Kb p a c := (h.mono (fun _ _ _ => trivial)).trans k
set_option maxHeartbeats 8000000 in
set_option maxRecDepth 100000 in
/-- The closure of fates: an iterator of all that may be seen. -/
theorem fates1_it (vo vy : Value) (m : Nat) (Ls : List ((Int × Int) × (Int × Int))) (Hs : List (ByteArray × (Int × Int))) (As Bs : List (List Ru)) (bx bi : Nat) (c d e : Int) (w : World)
    (hx0 : w.cell? ⟨bx, 0, none⟩ = some vo) (hx1 : w.cell? ⟨bx, 1, none⟩ = some vy) (hi0 : w.cell? ⟨bi, 0, none⟩ = some (.int .i64 c)) (hi1 : w.cell? ⟨bi, 1, none⟩ = some (.int .i64 d)) (hi2 : w.cell? ⟨bi, 2, none⟩ = some (.int .i64 e))
    (hm : m ≤ 6) (ht : tpN (m : Int) Ls Hs = 0) (ho : LGs w 0 vo (fun (a h : Nat) => lgT Ls Hs (taT As ((a : Int) + 1)) (((a : Int) + 1, 0), (h : Int))) m) (hy : LGs w 0 vy (fun (a h : Nat) => lgT Ls Hs (taT Bs ((a : Int) + 1)) (((a : Int) + 1, 0), (h : Int))) m) (hsp : spB (m : Int) (c, d) = true) (hhd : hdrB e = true) :
    ItF Try.prog 24 #[.pointer (some ⟨bx, 0, none⟩), .pointer (some ⟨bi, 0, none⟩)] FtV w.heap.size (pwS Ls Hs As Bs (c, d) e) w := by
  intro l J Jx W hW hn h0 hlt hab hax hY
  have cx : MCx l W.heap.size w.heap.size J Jx (pwS Ls Hs As Bs (c, d) e) w vo vy m Ls Hs As Bs := ⟨hn, hm, ht, fun A hA => ho.later hA, fun A hA => hy.later hA, hlt, hab, hax, hY⟩
  have HSW : Hid (∀ V, Below w.heap.size w V → V.cell? ⟨bx, 0, none⟩ = some vo ∧ V.cell? ⟨bx, 1, none⟩ = some vy ∧ V.cell? ⟨bi, 0, none⟩ = some (.int .i64 c) ∧ V.cell? ⟨bi, 1, none⟩ = some (.int .i64 d) ∧ V.cell? ⟨bi, 2, none⟩ = some (.int .i64 e)) := fun V hV => ⟨cell_later hV hx0, cell_later hV hx1, cell_later hV hi0, cell_later hV hi1, cell_later hV hi2⟩
  have HSK : Hid (∀ V, Kb (fun _ => True) W V → V.cell? ⟨bx, 0, none⟩ = some vo ∧ V.cell? ⟨bx, 1, none⟩ = some vy ∧ V.cell? ⟨bi, 0, none⟩ = some (.int .i64 c) ∧ V.cell? ⟨bi, 1, none⟩ = some (.int .i64 d) ∧ V.cell? ⟨bi, 2, none⟩ = some (.int .i64 e)) := fun V hk => HSW.out V (hW.trans (hk.below hn (fun _ _ => trivial)))
  have HMX : Hid (24 ≤ maxLen) := by show _ ≤ _; unfold maxLen; omega
  have HWW : Hid (Below w.heap.size w W) := hW
  have HNN : Hid (w.heap.size ≤ W.heap.size) := hn
  have HWK : Hid (∀ (V : World) (bk : Nat), Kb (fun _ => True) W V → W.heap.size ≤ bk → HK V bk [((c, d), e)] → Calls Try.prog 25 #[.agg #[vo, vy], .slice (some ⟨bk, 0, none⟩) 1 24, .agg #[.bool false, .bool false, .bool false, .bool false, .bool false, .bool false], .func (.yield l) #[] #[]] V fun e' A' => ∃ r, e' = .returned (.bool r) ∧ ((∃ X, J (pwS Ls Hs As Bs (c, d) e).length X A') ∨ Jx A') ∧ Below w.heap.size w A') := fun V bk hk hb hh => by
    have hI : WkI W.heap.size w.heap.size J w (fun _ => False) (fun b => W.heap.size ≤ b ∧ b < V.heap.size) 0 bk [((c, d), e)] V := ⟨hW.trans (hk.below (by omega) (fun _ _ => trivial)), hk.size, hab _ _ _ _ h0 (hk.mono (fun _ _ _ => trivial)), fun b hb => ⟨hb.1, hb.2, fun h => h⟩, ⟨hb, hh.lt⟩, hh⟩
    have h := walk_all cx 24 (by omega) V 0 _ _ bk [((c, d), e)] (fun _ => false) rfl (by omega) (by simp) hI hsp hhd (fun i x hx => by rw [Nat.zero_add]; exact hx)
    refine h.mono ?_
    rintro e' A' ⟨r, rfl, hR, hK⟩
    refine ⟨r, rfl, ?_, hI.b.trans (hK.below (by have := hk.size; omega) (fun b hb => .inl hb))⟩
    cases r with
    | false => exact .inr hR
    | true =>
      obtain ⟨⟨X', j1, _⟩, _⟩ := hR
      rw [Nat.zero_add] at j1
      exact .inl ⟨X', j1⟩
  obtain ⟨s0, s1, s2, s3, s4⟩ := HSW.out W hW
  have hlx : bx < W.heap.size := World.block_lt_of_cell? _ _ s0
  have hli : bi < W.heap.size := World.block_lt_of_cell? _ _ s2
  obtain ⟨j0, hj, hy0, hy1, hy2⟩ := info_parts hop_info
  obtain ⟨MC, hMC, hmk⟩ : ∃ MC : Array Value, MC.size = 24 * 3 ∧ ∀ V : World, (Instr.makeSlice 41 (.int .i64 0) (.int .i64 24)).run Try.prog V = .ok (.slice (some ⟨V.heap.size, 0, none⟩) 0 24) (V.alloc (.cells MC 55)) := by
    refine ⟨madeCells (Value.agg #[.int .i64 0, .int .i64 0, .int .i64 0]).cells (24 * 3), size_madeCells _ _, fun V => ?_⟩
    have h := run_make (P := Try.prog) V 41 55 j0 (.agg #[.int .i64 0, .int .i64 0, .int .i64 0]) Try.underlying41 hj hy0 .i64 .i64 0 24 (by decide) (by decide) (by rw [hy2]; decide) (by decide)
    rw [hy1] at h
    exact h
  have hal : ∀ (V : World) (o : Obj), Kb (fun _ => True) V (V.alloc o) := fun V o => (Kb.refl _ _).alloc o
  have HOM1 : Hid (∀ o : Obj, ((W.alloc (.cells MC 55)).alloc o).ownsRow 0 55 hopE.n (.slice (some ⟨W.heap.size, 0, none⟩) 0 24) 0 (cellsG hopE [])) := fun o => own_kb (World.ownsRow_made W MC 24 (Nat.zero_le _) HMX.out hMC) (hal _ o) (fun _ _ => trivial)
  have HOM2 : Hid (∀ o : Obj, ((W.alloc o).alloc (.cells MC 55)).ownsRow 0 55 hopE.n (.slice (some ⟨W.heap.size + 1, 0, none⟩) 0 24) 0 (cellsG hopE [])) := fun o => by
    have h := World.ownsRow_made (base := 0) (e := 55) (size := 3) (W.alloc o) MC 24 (Nat.zero_le _) HMX.out hMC
    rw [World.size_alloc] at h
    exact h
  have HVM1 : Hid (VAt ((W.alloc (.cells MC 55)).alloc (.cells #[.int .i64 c, .int .i64 d, .int .i64 e] 55)) (W.heap.size + 1) 0 (hopE.c ((c, d), e))) := by
    have h := hop_new (W.alloc (.cells MC 55)) c d e 55
    rw [World.size_alloc] at h
    exact h
  have HVM2 : Hid (VAt ((W.alloc (.cells #[.int .i64 c, .int .i64 d, .int .i64 e] 55)).alloc (.cells MC 55)) W.heap.size 0 (hopE.c ((c, d), e))) := (hop_new W c d e 55).later ((Below.refl _ _).alloc (Nat.le_refl _) _)
  clear hMC hal
  show Calls Try.prog 24 #[.func (.yield l) #[] #[], .pointer (some ⟨bx, 0, none⟩), .pointer (some ⟨bi, 0, none⟩)] W _
  clear cx hx0 hx1 hi0 hi1 hi2 ho hy hW hn h0 hlt hab hax hY hsp hhd ht hm
  go_enter Try.func24, Try.ntmps24
  go_upto_region 0 with fail
  go_region_held3 (fun V => V.cell? ⟨bx, 0, none⟩ = some vo ∧ V.cell? ⟨bx, 1, none⟩ = some vy ∧ V.cell? ⟨bi, 0, none⟩ = some (.int .i64 c) ∧ V.cell? ⟨bi, 1, none⟩ = some (.int .i64 d) ∧ V.cell? ⟨bi, 2, none⟩ = some (.int .i64 e))
    (first | (with_reducible assumption) | (with_reducible exact HSK.out _ (Kb.refl _ _).drew) | (with_reducible exact HSK.out _ ((Kb.refl _ _).drew.alloc _)) | (with_reducible exact HSK.out _ ((Kb.refl _ _).alloc _).drew) | (with_reducible exact HSK.out _ (((Kb.refl _ _).alloc _).alloc _).drew) | (with_reducible exact HSK.out _ (((Kb.refl _ _).drew.alloc _).alloc _)) | (with_reducible exact HSK.out _ (((Kb.refl _ _).alloc _).drew.alloc _)) | (with_reducible exact HSK.out _ HK5.out) | (with_reducible exact HSW.out _ HB6.out))
    (first
      | (refine step_append_fits (E := hopE) _ (by rfl) _ _ 41 55 (by rfl) Try.underlying41 j0 hj hy1 0 (W.heap.size) 24 [] (by rfl) ?_ (W.heap.size + 1) 0 1 (by rfl) ((c, d), e) ?_ (by decide) ?_; (focus (exact HOM1.out _)); (focus (exact HVM1.out)); intro w5 ho5 hg5; have HK5 : Hid (Kb (fun _ => True) W w5) := (Kb.grown (by first | exact (((Kb.refl _ _).alloc _).alloc _).drew | exact (((Kb.refl _ _).drew.alloc _).alloc _) | exact ((Kb.refl _ _).alloc _).drew.alloc _) hg5 (fun r er hr _ => by cases er; omega)); have HBK5 : Hid (W.heap.size ≤ W.heap.size) := (by show _ ≤ _; omega); have HH5 : Hid (HK w5 (W.heap.size) [((c, d), e)]) := (hk_one ho5); clear ho5 hg5)
      | (refine step_append_fits (E := hopE) _ (by rfl) _ _ 41 55 (by rfl) Try.underlying41 j0 hj hy1 0 (W.heap.size + 1) 24 [] (by rfl) ?_ (W.heap.size) 0 1 (by rfl) ((c, d), e) ?_ (by decide) ?_; (focus (exact HOM2.out _)); (focus (exact HVM2.out)); intro w5 ho5 hg5; have HK5 : Hid (Kb (fun _ => True) W w5) := (Kb.grown (by first | exact (((Kb.refl _ _).alloc _).alloc _).drew | exact (((Kb.refl _ _).drew.alloc _).alloc _) | exact ((Kb.refl _ _).alloc _).drew.alloc _) hg5 (fun r er hr _ => by cases er; omega)); have HBK5 : Hid (W.heap.size ≤ W.heap.size + 1) := (by show _ ≤ _; omega); have HH5 : Hid (HK w5 (W.heap.size + 1) [((c, d), e)]) := (hk_one ho5); clear ho5 hg5)
      | (go_at_call 25; refine (HWK.out _ _ HK5.out HBK5.out HH5.out).mono ?_; rintro e6 w6 ⟨r, rfl, hP, hB6⟩; have HP : Hid ((∃ X, J (pwS Ls Hs As Bs (c, d) e).length X w6) ∨ Jx w6) := hP; have HB6 : Hid (Below w.heap.size w w6) := hB6; clear hP hB6))
  all_goals go_wp2
  all_goals go_end0
  all_goals exact ⟨⟨_, rfl⟩, HP.out⟩
end Go.Proofs.Ytmpjoepfgfbjmaa
/- What during and fates of package mix answer. -/
namespace Go.Proofs.Ytmpjoepfgfbjmaa
open Go.RowKit Go.Shelf
set_option linter.unusedSimpArgs false
set_option linter.unusedVariables false

/-- The legs of right tables. -/
def lgF (Ls : List ((Int × Int) × (Int × Int))) (Hs : List (ByteArray × (Int × Int))) (Ts : List (List Ru)) : Nat → Nat → Lg := fun (a h : Nat) => lgT Ls Hs (taT Ts ((a : Int) + 1)) (((a : Int) + 1, 0), (h : Int))
/-- The legs ahead of ops and behind them, if they can be done. -/
def DuQ (N : Int) (W : World) (B : Nat) (vo vy : Value) (Ls : List ((Int × Int) × (Int × Int))) (Hs : List (ByteArray × (Int × Int))) (Ts : List (List Ru)) (l : List Op8) (m : Nat) : Prop := N = 0 → LGs W B vo (lgF Ls Hs Ts) m ∧ LGs W B vy (lgF Ls Hs (caT Ts l)) m
set_option maxHeartbeats 1000000 in
theorem fates_val (vo vy : Value) (c d e : Int) (w : World) :
    Calls Try.prog 11 #[.agg #[vo, vy], .agg #[.int .i64 c, .int .i64 d, .int .i64 e]] w fun e' w' => e' = .returned (.func (Fn.func 24) #[] #[.pointer (some ⟨w.heap.size, 0, none⟩), .pointer (some ⟨w.heap.size + 1, 0, none⟩)]) ∧ w' = (w.alloc (.cells #[vo, vy] 61)).alloc (.cells #[.int .i64 c, .int .i64 d, .int .i64 e] 55) := by
  go_enter Try.func11, Try.ntmps11
  go_wp2
  go_ret
  exact ⟨rfl, rfl⟩
/-- The iterator that fates answers. -/
theorem fates_it (vo vy : Value) (m : Nat) (Ls : List ((Int × Int) × (Int × Int))) (Hs : List (ByteArray × (Int × Int))) (As Bs : List (List Ru)) (c d e : Int) (w : World) (hm : m ≤ 6) (ht : tpN (m : Int) Ls Hs = 0) (ho : LGs w 0 vo (lgF Ls Hs As) m) (hy : LGs w 0 vy (lgF Ls Hs Bs) m) (hsp : spB (m : Int) (c, d) = true) (hhd : hdrB e = true) :
    Calls Try.prog 11 #[.agg #[vo, vy], .agg #[.int .i64 c, .int .i64 d, .int .i64 e]] w fun e' w' => ∃ gi lb, e' = .returned (.func (Fn.func gi) #[] lb) ∧ (∀ args w, (callFunc gi args).run Try.prog w = .ok (.enter gi args) w) ∧ ItF Try.prog gi lb FtV w'.heap.size (pwS Ls Hs As Bs (c, d) e) w' ∧ Below w.heap.size w w' := by
  refine (fates_val vo vy c d e w).mono ?_
  rintro e' w' ⟨rfl, rfl⟩
  have hb : ∀ (W : World) (o : Obj), Below W.heap.size W (W.alloc o) := fun W o => (Below.refl _ _).alloc (Nat.le_refl _) _
  have h1 := (vat_new w [vo, vy] 61).later (hb (w.alloc (.cells #[vo, vy] 61)) (.cells #[.int .i64 c, .int .i64 d, .int .i64 e] 55))
  have h2 := vat_new (w.alloc (.cells #[vo, vy] 61)) [.int .i64 c, .int .i64 d, .int .i64 e] 55
  rw [World.size_alloc] at h2
  have hB : Below w.heap.size w ((w.alloc (.cells #[vo, vy] 61)).alloc (.cells #[.int .i64 c, .int .i64 d, .int .i64 e] 55)) := ((Below.refl _ _).alloc (Nat.le_refl _) _).alloc (by simp) _
  exact ⟨_, _, rfl, enters_of Try.func24 (by kernel_rfl) rfl, fates1_it vo vy m Ls Hs As Bs w.heap.size (w.heap.size + 1) c d e _ (h1 0 _ rfl) (h1 1 _ rfl) (h2 0 _ rfl) (h2 1 _ rfl) (h2 2 _ rfl) hm ht (ho.later hB) (hy.later hB) hsp hhd, hB⟩

/-- The boxes of during: a net, the answer's. -/
structure DB (w W : World) (S : Int) (v1 v2 v3 : Value) : Prop where
  below : Below w.heap.size w W
  n : NeBox W w.heap.size S v1 v2 v3
  r0 : W.cell? ⟨w.heap.size + 1, 0, none⟩ = some (.slice none 0 0)
  r1 : W.cell? ⟨w.heap.size + 1, 1, none⟩ = some (.slice none 0 0)
  f : ∀ i, W.frozen? ⟨w.heap.size + 1, i, none⟩ = false
theorem db_new (w : World) (S : Int) (v1 v2 v3 : Value) : DB w ((w.alloc (Obj.cells #[.int .i64 S, v1, v2, v3] 28)).alloc (Obj.cells #[.slice none 0 0, .slice none 0 0] 61)) S v1 v2 v3 := by
  have e1 : (w.alloc (Obj.cells #[.int .i64 S, v1, v2, v3] 28)).heap.size = w.heap.size + 1 := by simp
  have hb : ∀ (W : World) (o : Obj), Below W.heap.size W (W.alloc o) := fun W o => (Below.refl _ _).alloc (Nat.le_refl _) _
  have hn := (nebox_new w S v1 v2 v3 28).later (hb _ (Obj.cells #[.slice none 0 0, .slice none 0 0] 61))
  have hB := ((Below.refl w.heap.size w).alloc (Nat.le_refl _) (Obj.cells #[.int .i64 S, v1, v2, v3] 28)).alloc (by rw [e1]; omega) (Obj.cells #[.slice none 0 0, .slice none 0 0] 61)
  generalize w.alloc (Obj.cells #[.int .i64 S, v1, v2, v3] 28) = X at e1 hn hB
  have hr := vat_new X [.slice none 0 0, .slice none 0 0] 61
  have hf := froz_new2 X #[.slice none 0 0, .slice none 0 0] 61
  rw [e1] at hr hf
  exact ⟨hB, hn, hr 0 _ rfl, hr 1 _ rfl, hf⟩
theorem DB.lt {w W : World} {S : Int} {v1 v2 v3 : Value} (k : DB w W S v1 v2 v3) : w.heap.size + 1 < W.heap.size := World.block_lt_of_cell? W ⟨w.heap.size + 1, 0, none⟩ k.r0
theorem DB.later {w W W' : World} {S : Int} {v1 v2 v3 : Value} (k : DB w W S v1 v2 v3) (hb : Below W.heap.size W W') : DB w W' S v1 v2 v3 :=
  ⟨k.below.trans (hb.mono k.below.size), k.n.later hb, cell_later hb k.r0, cell_later hb k.r1, fun i => (hb.frozen (p := ⟨w.heap.size + 1, i, none⟩) k.lt).trans (k.f i)⟩
theorem below_2 {B : Nat} {w W : World} (h : Below B w W) (g : Nat) (hg : B ≤ g) (a b : Value) : Below B w ((W.setCell ⟨g, 0, none⟩ a).setCell ⟨g, 1, none⟩ b) := (h.setCell (p := ⟨g, 0, none⟩) hg a).setCell (p := ⟨g, 1, none⟩) hg b
theorem LGs.put {W : World} {B B' : Nat} {v : Value} {f : Nat → Nat → Lg} {k : Nat} (h : LGs W B v f k) (g : Nat) (hg : g < B) (a b : Value) (hB : B' ≤ B) : LGs ((W.setCell ⟨g, 0, none⟩ a).setCell ⟨g, 1, none⟩ b) B' v f k := by
  obtain ⟨vs, h1, h2⟩ := h
  refine ⟨vs, own_mono (ownsRow_setCell_below (ownsRow_setCell_below h1 hg _) hg _) hB, fun i hi => ?_⟩
  obtain ⟨u, e, h3⟩ := h2 i hi
  exact ⟨u, e, own_mono (ownsRow_setCell_below (ownsRow_setCell_below h3 hg _) hg _) hB⟩

/-- A right net, where it lies. -/
def NetQ (w2 : World) (Z : Int) (q1 : Option Addr) (j1 e1 : Nat) (q2 : Option Addr) (j2 e2 : Nat) (q3 : Option Addr) (j3 e3 : Nat) (Ls : List ((Int × Int) × (Int × Int))) (Hs : List (ByteArray × (Int × Int))) (T' : List (List Ru)) : Prop :=
  (∀ W, Below w2.heap.size w2 W → GS lnkE W (.slice q1 j1 e1) Ls ∧ GS hstE W (.slice q2 j2 e2) Hs ∧ TS W (.slice q3 j3 e3) T') ∧ ntN Z Ls Hs T' = 0
set_option maxHeartbeats 8000000 in
set_option maxRecDepth 100000 in
theorem during_any (S : Int) (ao : Option Addr) (n cap : Nat) (ao2 : Option Addr) (n2 cap2 : Nat) (ao3 : Option Addr) (n3 cap3 : Nat) (a4 : Option Addr) (n4 c4 : Nat) (Ls : List ((Int × Int) × (Int × Int))) (Hs : List (ByteArray × (Int × Int))) (Ts : List (List Ru)) (l : List Op8) (w : World)
    (hL : GS lnkE w (.slice ao n cap) Ls) (hH : GS hstE w (.slice ao2 n2 cap2) Hs) (hT : TS w (.slice ao3 n3 cap3) Ts) (hl : GS opE w (.slice a4 n4 c4) l) :
    Calls Try.prog 8 #[.agg #[.int .i64 S, .slice ao n cap, .slice ao2 n2 cap2, .slice ao3 n3 cap3], .slice a4 n4 c4] w fun e w' => ∃ (p7 : Option Addr) (j7 e7 : Nat) (p8 : Option Addr) (j8 e8 : Nat), e = .returned (.tuple #[.agg #[.slice p7 j7 e7, .slice p8 j8 e8], noV (cgN S Ls Hs Ts l)]) ∧ DuQ (cgN S Ls Hs Ts l) w' 0 (.slice p7 j7 e7) (.slice p8 j8 e8) Ls Hs Ts l n3 ∧ Below w.heap.size w w' := by
  obtain ⟨N, hN⟩ : ∃ N, N = cgN S Ls Hs Ts l := ⟨_, rfl⟩
  have HN : Hid (cgN S Ls Hs Ts l = N) := hN.symm
  rw [← hN]
  have HLW : Hid (∀ W, Below w.heap.size w W → GS lnkE W (.slice ao n cap) Ls) := fun W hb => hL.later hb
  have HHW : Hid (∀ W, Below w.heap.size w W → GS hstE W (.slice ao2 n2 cap2) Hs) := fun W hb => hH.later hb
  have HTW : Hid (∀ W, Below w.heap.size w W → TS W (.slice ao3 n3 cap3) Ts) := fun W hb => hT.later hb
  have HlW : Hid (∀ W, Below w.heap.size w W → GS opE W (.slice a4 n4 c4) l) := fun W hb => hl.later hb
  have HTN : Hid (Ts.length = n3) := hT.len
  have hX := db_new w S (.slice ao n cap) (.slice ao2 n2 cap2) (.slice ao3 n3 cap3)
  obtain ⟨w0, hw0⟩ : ∃ W, (w.alloc (Obj.cells #[.int .i64 S, .slice ao n cap, .slice ao2 n2 cap2, .slice ao3 n3 cap3] 28)).alloc (Obj.cells #[.slice none 0 0, .slice none 0 0] 61) = W := ⟨_, rfl⟩
  rw [hw0] at hX
  have HX : Hid (DB w w0 S (.slice ao n cap) (.slice ao2 n2 cap2) (.slice ao3 n3 cap3)) := hX
  have HW0 : Hid ((w.alloc (Obj.cells #[.int .i64 S, .slice ao n cap, .slice ao2 n2 cap2, .slice ao3 n3 cap3] 28)).alloc (Obj.cells #[.slice none 0 0, .slice none 0 0] 61) = w0) := hw0
  clear hL hH hT hl hN hX hw0
  go_enter Try.func8, Try.ntmps8
  go_upto_region 1 with fail
  rw [HW0.out]
  clear HW0
  obtain ⟨_, ⟨b0, b1, b2, b3⟩, _, _, _⟩ := HX.out
  go_wp2_with fail
  refine (chApply_any S ao n cap ao2 n2 cap2 ao3 n3 cap3 a4 n4 c4 Ls Hs Ts l _ (HLW.out _ HX.out.below) (HHW.out _ HX.out.below) (HTW.out _ HX.out.below) (HlW.out _ HX.out.below)).mono ?_
  rintro e w1 ⟨p1, k1, d1, p2, k2, d2, p3, k3, d3, rfl, g1, g2, g3, hb1⟩
  rw [HN.out] at g1 g2 g3
  rw [HN.out]
  have HX1 : Hid (DB w w1 S (.slice ao n cap) (.slice ao2 n2 cap2) (.slice ao3 n3 cap3)) := HX.out.later hb1
  obtain ⟨Z, hZ⟩ : ∃ Z, Z = nvS N S := ⟨_, rfl⟩
  rw [← hZ]
  have hal : Below w1.heap.size w1 (w1.alloc (Obj.cells #[.int .i64 Z, .slice p1 k1 d1, .slice p2 k2 d2, .slice p3 k3 d3] 28)) := (Below.refl _ _).alloc (Nat.le_refl _) _
  have hne := nebox_new w1 Z (.slice p1 k1 d1) (.slice p2 k2 d2) (.slice p3 k3 d3) 28
  have hX2 := HX1.out.later hal
  have g1' := g1.later hal
  have g2' := g2.later hal
  have g3' := g3.later hal
  obtain ⟨w2, hw2⟩ : ∃ W, w1.alloc (Obj.cells #[.int .i64 Z, .slice p1 k1 d1, .slice p2 k2 d2, .slice p3 k3 d3] 28) = W := ⟨_, rfl⟩
  obtain ⟨gn, hgn⟩ : ∃ g, w1.heap.size = g := ⟨_, rfl⟩
  rw [hw2] at hne hX2 g1' g2' g3'
  rw [hgn] at hne
  have HW2 : Hid (w1.alloc (Obj.cells #[.int .i64 Z, .slice p1 k1 d1, .slice p2 k2 d2, .slice p3 k3 d3] 28) = w2) := hw2
  have HGN : Hid (w1.heap.size = gn) := hgn
  have HX2 : Hid (DB w w2 S (.slice ao n cap) (.slice ao2 n2 cap2) (.slice ao3 n3 cap3)) := hX2
  have HNE : Hid (NeBox w2 gn Z (.slice p1 k1 d1) (.slice p2 k2 d2) (.slice p3 k3 d3)) := hne
  have HG : Hid (GS lnkE w2 (.slice p1 k1 d1) (nvL N Ls) ∧ GS hstE w2 (.slice p2 k2 d2) (nvL N Hs) ∧ TS w2 (.slice p3 k3 d3) (nvL N (caT Ts l))) := ⟨g1', g2', g3'⟩
  have HZ : Hid (Z = nvS N S) := hZ
  have HGL : Hid (w.heap.size + 1 < gn) := by
    show _ < _
    rw [← hgn]
    exact HX1.out.lt
  clear hb1 g1 g2 g3 g1' g2' g3' hal hne hX2 hw2 hgn hZ HX HX1 b0 b1 b2 b3
  go_upto_region 2 with fail
  rw [HW2.out, HGN.out]
  clear HW2 HGN
  by_cases h0 : N = 0
  · subst h0
    rw [no_ok rfl]
    have HNT : Hid (ntN S Ls Hs Ts = 0 ∧ caN S Ts l = 0) := by
      have h := HN.out
      unfold cgN at h
      by_cases e : ntN S Ls Hs Ts = 0
      · rw [if_pos e] at h
        by_cases e2 : 200 < l.length
        · rw [if_pos e2] at h; cases h
        · rw [if_neg e2] at h
          exact ⟨e, h⟩
      · rw [if_neg e] at h
        exact absurd h e
    obtain rfl : Z = S := HZ.out
    have hg := HG.out
    simp only [nvL, if_true] at hg
    have hk3 : k3 = n3 := by
      have h1 := hg.2.2.len
      rw [ca_len, HTN.out] at h1
      exact h1.symm
    subst hk3
    have HLG : Hid (∀ (q1 : Option Addr) (j1 e1 : Nat) (q2 : Option Addr) (j2 e2 : Nat) (q3 : Option Addr) (j3 e3 : Nat) (T' : List (List Ru)) (W : World), Below w2.heap.size w2 W → NetQ w2 Z q1 j1 e1 q2 j2 e2 q3 j3 e3 Ls Hs T' → Calls Try.prog 20 #[.agg #[.int .i64 Z, .slice q1 j1 e1, .slice q2 j2 e2, .slice q3 j3 e3]] W fun e w' => ∃ a' c', e = .returned (.slice a' j3 c') ∧ LGs w' W.heap.size (.slice a' j3 c') (lgF Ls Hs T') j3 ∧ Below W.heap.size W w') := fun q1 j1 e1 q2 j2 e2 q3 j3 e3 T' W hb hq => (legs_any Z q1 j1 e1 q2 j2 e2 q3 j3 e3 Ls Hs T' W (hq.1 W hb).1 (hq.1 W hb).2.1 (hq.1 W hb).2.2 hq.2).mono (by
      rintro e w' ⟨v, rfl, hG, hb⟩
      obtain ⟨vs, hv, _⟩ := id hG
      obtain ⟨a', c', rfl⟩ := own_form hv
      exact ⟨a', c', rfl, hG, hb⟩)
    have HQA : Hid (NetQ w2 Z ao n cap ao2 n2 cap2 ao3 k3 cap3 Ls Hs Ts) := ⟨fun W hb => by
      have hx := HX2.out.below.trans (hb.mono HX2.out.below.size)
      exact ⟨HLW.out W hx, HHW.out W hx, HTW.out W hx⟩, HNT.out.1⟩
    have HQB : Hid (NetQ w2 Z p1 k1 d1 p2 k2 d2 p3 k3 d3 Ls Hs (caT Ts l)) := ⟨fun W hb => ⟨hg.1.later hb, hg.2.1.later hb, hg.2.2.later hb⟩, nt_ca HNT.out.1 HNT.out.2⟩
    have HSW : Hid (∀ W, Below w2.heap.size w2 W → W.cell? ⟨w.heap.size, 0, none⟩ = some (.int .i64 Z) ∧ W.cell? ⟨w.heap.size, 1, none⟩ = some (.slice ao n cap) ∧ W.cell? ⟨w.heap.size, 2, none⟩ = some (.slice ao2 n2 cap2) ∧ W.cell? ⟨w.heap.size, 3, none⟩ = some (.slice ao3 k3 cap3) ∧ W.cell? ⟨gn, 0, none⟩ = some (.int .i64 Z) ∧ W.cell? ⟨gn, 1, none⟩ = some (.slice p1 k1 d1) ∧ W.cell? ⟨gn, 2, none⟩ = some (.slice p2 k2 d2) ∧ W.cell? ⟨gn, 3, none⟩ = some (.slice p3 k3 d3)) := fun W hb => by
      obtain ⟨a0, a1, a2, a3⟩ := HX2.out.n.later hb
      obtain ⟨c0, c1, c2, c3⟩ := HNE.out.later hb
      exact ⟨a0, a1, a2, a3, c0, c1, c2, c3⟩
    have HSV : Hid (∀ W, Below w2.heap.size w2 W → ∀ a b, (((W.setCell ⟨w.heap.size + 1, 0, none⟩ a).setCell ⟨w.heap.size + 1, 1, none⟩ b).cell? ⟨w.heap.size, 0, none⟩ = some (.int .i64 Z) ∧ ((W.setCell ⟨w.heap.size + 1, 0, none⟩ a).setCell ⟨w.heap.size + 1, 1, none⟩ b).cell? ⟨w.heap.size, 1, none⟩ = some (.slice ao n cap) ∧ ((W.setCell ⟨w.heap.size + 1, 0, none⟩ a).setCell ⟨w.heap.size + 1, 1, none⟩ b).cell? ⟨w.heap.size, 2, none⟩ = some (.slice ao2 n2 cap2) ∧ ((W.setCell ⟨w.heap.size + 1, 0, none⟩ a).setCell ⟨w.heap.size + 1, 1, none⟩ b).cell? ⟨w.heap.size, 3, none⟩ = some (.slice ao3 k3 cap3) ∧ ((W.setCell ⟨w.heap.size + 1, 0, none⟩ a).setCell ⟨w.heap.size + 1, 1, none⟩ b).cell? ⟨gn, 0, none⟩ = some (.int .i64 Z) ∧ ((W.setCell ⟨w.heap.size + 1, 0, none⟩ a).setCell ⟨w.heap.size + 1, 1, none⟩ b).cell? ⟨gn, 1, none⟩ = some (.slice p1 k1 d1) ∧ ((W.setCell ⟨w.heap.size + 1, 0, none⟩ a).setCell ⟨w.heap.size + 1, 1, none⟩ b).cell? ⟨gn, 2, none⟩ = some (.slice p2 k2 d2) ∧ ((W.setCell ⟨w.heap.size + 1, 0, none⟩ a).setCell ⟨w.heap.size + 1, 1, none⟩ b).cell? ⟨gn, 3, none⟩ = some (.slice p3 k3 d3))) := fun W hb a b => by
      have hl := HX2.out.lt
      have hgl : gn ≠ w.heap.size + 1 := by
        have h1 := HX2.out.lt
        have h2 := HGL.out
        omega
      have o : ∀ (g j : Nat), g ≠ w.heap.size + 1 → ((W.setCell ⟨w.heap.size + 1, 0, none⟩ a).setCell ⟨w.heap.size + 1, 1, none⟩ b).cell? ⟨g, j, none⟩ = W.cell? ⟨g, j, none⟩ := fun g j hne => by
        rw [World.cell?_setCell_other _ _ _ _ (by intro e; injection e with e1; exact hne e1.symm), World.cell?_setCell_other _ _ _ _ (by intro e; injection e with e1; exact hne e1.symm)]
      obtain ⟨a0, a1, a2, a3, c0, c1, c2, c3⟩ := HSW.out W hb
      exact ⟨by rw [o _ _ (by omega)]; exact a0, by rw [o _ _ (by omega)]; exact a1, by rw [o _ _ (by omega)]; exact a2, by rw [o _ _ (by omega)]; exact a3, by rw [o _ _ hgl]; exact c0, by rw [o _ _ hgl]; exact c1, by rw [o _ _ hgl]; exact c2, by rw [o _ _ hgl]; exact c3⟩
    obtain ⟨s0, s1, s2, s3, s4, s5, s6, s7⟩ := HSW.out w2 (Below.refl _ _)
    have hlw : w.heap.size < w2.heap.size := World.block_lt_of_cell? _ _ s0
    have hlg : gn < w2.heap.size := World.block_lt_of_cell? _ _ s4
    have hlr : w.heap.size + 1 < w2.heap.size := HX2.out.lt
    have HR : Hid (∀ W, Below w2.heap.size w2 W → (W.cell? ⟨w.heap.size + 1, 0, none⟩ = some (.slice none 0 0) ∧ W.cell? ⟨w.heap.size + 1, 1, none⟩ = some (.slice none 0 0)) ∧ W.frozen? ⟨w.heap.size + 1, 0, none⟩ = false ∧ W.frozen? ⟨w.heap.size + 1, 1, none⟩ = false) := fun W hb => ⟨⟨cell_later hb HX2.out.r0, cell_later hb HX2.out.r1⟩, (HX2.out.later hb).f 0, (HX2.out.later hb).f 1⟩
    have HBW : Hid (Below w.heap.size w w2) := HX2.out.below
    clear hg
    go_upto_region 4 with fail
    go_region_held3 (fun W => W.cell? ⟨w.heap.size, 0, none⟩ = some (.int .i64 Z) ∧ W.cell? ⟨w.heap.size, 1, none⟩ = some (.slice ao n cap) ∧ W.cell? ⟨w.heap.size, 2, none⟩ = some (.slice ao2 n2 cap2) ∧ W.cell? ⟨w.heap.size, 3, none⟩ = some (.slice ao3 k3 cap3) ∧ W.cell? ⟨gn, 0, none⟩ = some (.int .i64 Z) ∧ W.cell? ⟨gn, 1, none⟩ = some (.slice p1 k1 d1) ∧ W.cell? ⟨gn, 2, none⟩ = some (.slice p2 k2 d2) ∧ W.cell? ⟨gn, 3, none⟩ = some (.slice p3 k3 d3))
      (first | (with_reducible assumption) | (with_reducible exact HSW.out _ (Below.drew (Below.refl _ _))) | (with_reducible exact HSW.out _ HBA.out) | (with_reducible exact HSW.out _ HBB.out) | (with_reducible exact HSV.out _ HBA.out _ _) | (with_reducible exact HSV.out _ HBB.out _ _))
      (first
        | (go_at_call 20; refine (HLG.out _ _ _ _ _ _ _ _ _ (Ts) _ ?_ ?_).mono ?_; (focus (first | (with_reducible exact Below.drew (Below.refl _ _)) | (with_reducible exact HBB.out))); (focus (with_reducible exact HQA.out)); rintro e5 w5A ⟨aA, cA, rfl, hG, hb⟩; have HBA : Hid (Below w2.heap.size w2 w5A) := (by first | exact bdrew hb | exact HBB.out.trans (hb.mono HBB.out.size)); have HGA : Hid (LGs w5A w2.heap.size (.slice aA k3 cA) (lgF Ls Hs (Ts)) k3) := (hG.mono (by first | exact Nat.le_refl _ | exact HBB.out.size)); (try (have HGB2 : Hid (LGs w5A w2.heap.size (.slice aB k3 cB) _ k3) := HGB.out.later hb)); have hr := HR.out _ HBA.out; obtain ⟨⟨r0, r1⟩, f0, f1⟩ := hr; clear hG hb)
        | (go_at_call 20; refine (HLG.out _ _ _ _ _ _ _ _ _ (caT Ts l) _ ?_ ?_).mono ?_; (focus (first | (with_reducible exact Below.drew (Below.refl _ _)) | (with_reducible exact HBA.out))); (focus (with_reducible exact HQB.out)); rintro e5 w5B ⟨aB, cB, rfl, hG, hb⟩; have HBB : Hid (Below w2.heap.size w2 w5B) := (by first | exact bdrew hb | exact HBA.out.trans (hb.mono HBA.out.size)); have HGB : Hid (LGs w5B w2.heap.size (.slice aB k3 cB) (lgF Ls Hs (caT Ts l)) k3) := (hG.mono (by first | exact Nat.le_refl _ | exact HBA.out.size)); (try (have HGA2 : Hid (LGs w5B w2.heap.size (.slice aA k3 cA) _ k3) := HGA.out.later hb)); have hr := HR.out _ HBB.out; obtain ⟨⟨r0, r1⟩, f0, f1⟩ := hr; clear hG hb))
    all_goals go_wp2
    all_goals refine bodyPost_ret (v := .tuple #[.agg #[.slice aA k3 cA, .slice aB k3 cB], .nilIface]) (by simp [results, Try.results8, go_sem, *]) rfl ⟨_, _, _, _, _, _, by rw [no_ok rfl], ?_⟩
    all_goals first
      | exact ⟨fun _ => ⟨HGA2.out.put _ hlr _ _ (Nat.zero_le _), HGB.out.put _ hlr _ _ (Nat.zero_le _)⟩, below_2 (HBW.out.trans (HBB.out.mono HBW.out.size)) _ (by omega) _ _⟩
      | exact ⟨fun _ => ⟨HGA.out.put _ hlr _ _ (Nat.zero_le _), HGB2.out.put _ hlr _ _ (Nat.zero_le _)⟩, below_2 (HBW.out.trans (HBA.out.mono HBW.out.size)) _ (by omega) _ _⟩
  · rw [no_ne h0]
    have HNZ : Hid (N ≠ 0) := h0
    obtain ⟨hB2, _, r0, r1, rf⟩ := HX2.out
    have HB2 : Hid (Below w.heap.size w w2) := hB2
    have f0 := rf 0
    have f1 := rf 1
    clear hB2 rf h0
    go_wp2
    refine bodyPost_ret (v := .tuple #[.agg #[.slice none 0 0, .slice none 0 0], .iface 67 (.int .i64 N)]) (by simp [results, Try.results8, go_sem, *]) rfl ⟨_, _, _, _, _, _, by rw [no_ne HNZ.out], fun e => absurd e HNZ.out, below_2 HB2.out _ (by omega) _ _⟩
end Go.Proofs.Ytmpjoepfgfbjmaa
/- A range over a function, where what is kept is less than what was there when it began. No program in it. -/
namespace Go.Proofs.Ytmpjoepfgfbjmaa
open Go.RowKit Go.Shelf
set_option linter.unusedVariables false

/-- What an iterator value promises, from whatever world that has what lay below n₁, if what lies below n₀ stays as it is. -/
def ItG {α : Type} (P : Program) (g : Nat) (lb : Array Value) (Vl : World → Array Value → α → Prop) (n₁ n₀ : Nat) (L : List α) (w : World) : Prop :=
  ∀ (l : Nat) (J : Nat → (Nat → Prop) → World → Prop) (Jx : World → Prop) (W : World), Below n₁ w W → n₁ ≤ W.heap.size →
    J 0 (fun _ => False) W →
    (∀ k X A, J k X A → ∀ b, X b → b < A.heap.size) →
    (∀ k X A A', J k X A → Kb (fun b => b < W.heap.size ∨ X b) A A' → J k X A') →
    (∀ A A', Jx A → Kb (fun _ => True) A A' → Jx A') →
    (∀ k X A args x (Y : Nat → Prop), J k X A → L[k]? = some x → Vl A args x → W.heap.size ≤ A.heap.size → (∀ b, Y b → W.heap.size ≤ b ∧ ¬ X b) → YieldAt Fence.wide 0 P l args A fun e A' =>
      (e = .returned (.bool true) ∧ (∃ X', J (k + 1) X' A' ∧ ∀ b, X' b → X b ∨ A.heap.size ≤ b) ∧ Kb (fun b => b < n₀ ∨ Y b) A A') ∨ (e = .returned (.bool false) ∧ Jx A' ∧ Kb (fun b => b < n₀ ∨ Y b) A A')) →
    Calls P g (#[.func (.yield l) #[] #[]] ++ lb) W fun e W' => (∃ v, e = .returned v) ∧ ((∃ X, J L.length X W') ∨ Jx W')

set_option maxHeartbeats 1000000 in
theorem wpIn_rangeFunc_itG {P : Program} {n : Nat} {α : Type} {g : Operand} {ps : Array Tmp} {assign body : Code} {Q : Exit → Act → World → Prop} {a : Act} {w : World}
    (h1 : 1 ≤ n) {gf : Nat} {lb : Array Value} (hg : a.eval g = .func (.func gf) #[] lb) (eg : ∀ args w, (callFunc gf args).run P w = .ok (.enter gf args) w)
    {Vl : World → Array Value → α → Prop} {n₁ n₀ : Nat} {L : List α} {w0 : World} (hseq : ItG P gf lb Vl n₁ n₀ L w0) (hb0 : Below n₁ w0 w) (hn₁ : n₁ ≤ w.heap.size) (hn₀ : n₀ ≤ w.heap.size) (hps : ∀ A args x, Vl A args x → args.size = ps.size)
    (I : Nat → (Nat → Prop) → World → Prop) (Ix : Code → World → Prop)
    (hlt : ∀ k X A, I k X A → ∀ b, X b → w.heap.size + 2 ≤ b ∧ b < A.heap.size)
    (hI : ∀ k X A A', I k X A → Kb (fun b => b < w.heap.size ∨ X b) A A' → I k X A')
    (hIx : ∀ c A A', Ix c A → Kb (fun b => b < w.heap.size ∨ w.heap.size + 2 ≤ b) A A' → Ix c A')
    (h0 : I 0 (fun _ => False) w)
    (hround : ∀ (l k : Nat) (X Y : Nat → Prop) (x : α) (args : Array Value) (W : World), l = w.heap.size + 1 → w.heap.size + 2 ≤ W.heap.size → I k X W → L[k]? = some x → Vl W args x → (∀ b, Y b → w.heap.size + 2 ≤ b ∧ ¬ X b) → (∀ q : Addr, q.block = l → W.cell? q = none) →
      assign.wpIn (Fence.wide.inRound l) (n - 1 - 1) P (Exit.then (fun a' Wa => Kb (fun b => b < n₀ ∨ b = w.heap.size ∨ b = l ∨ Y b) W Wa ∧ ∀ W2, Kb (fun b => b ≠ l) Wa W2 → body.wpIn (Fence.wide.inRound l) (n - 1 - 1) P (itPost (fun b => b < n₀ ∨ b = w.heap.size ∨ b = l ∨ Y b) (fun W' => ∃ X', I (k + 1) X' W' ∧ ∀ b, X' b → X b ∨ W.heap.size ≤ b) Ix W2) a' W2) (fun _ _ _ => False)) { tmps := (ps.zip args).foldl (fun t (p, v) => t.setIfInBounds p v) a.tmps, defers := [] } W)
    (hdone : ∀ (X : Nat → Prop) (W : World), I L.length X W → W.heap[w.heap.size]? = some (.deferred (some [])) → Q .normal { a with defers := { target := .collected w.heap.size, args := #[] } :: a.defers } W)
    (hstop : ∀ (c : Code) (W : World), Ix c W → W.heap[w.heap.size]? = some (.deferred (some [])) → c.wpIn Fence.wide n P Q { a with defers := { target := .collected w.heap.size, args := #[] } :: a.defers } W) :
    (Code.rangeFunc g ps assign body).wpIn Fence.wide n P Q a w := by
  refine wpIn_rangeFunc ?_
  intro fn hfn
  rw [show Fence.wide.round = none from rfl]
  obtain ⟨rec, hrec⟩ : ∃ rec : LoopState → Option Code → Loop, rec = fun st pe => { state := st, pending := pe, fn, tmps := a.tmps, params := ps, assign, body, defers := w.heap.size } := ⟨_, rfl⟩
  obtain ⟨W1, hW1⟩ : ∃ W1, (w.alloc (.deferred (some []))).alloc (.loop (rec .ready none)) = W1 := ⟨_, rfl⟩
  have hL1 : W1.heap[w.heap.size + 1]? = some (.loop (rec .ready none)) := by
    rw [← hW1]; have := World.alloc_heap_new (w.alloc (.deferred (some []))) (.loop (rec .ready none)); rwa [World.size_alloc] at this
  have hK1 : W1.heap[w.heap.size]? = some (.deferred (some [])) := by
    rw [← hW1]; exact (Below.heap_alloc _ _ _ (by simp)).trans (World.alloc_heap_new w _)
  have hS1 : W1.heap.size = w.heap.size + 2 := by rw [← hW1]; simp
  have hB1 : Below w.heap.size w W1 := by
    rw [← hW1]; exact ((Below.refl _ w).alloc (Nat.le_refl _) _).alloc (by simp) _
  have hb1 : Below n₁ w0 W1 := hb0.trans (hB1.mono hn₁)
  refine ⟨w.heap.size + 1, [{ target := .collected w.heap.size, args := #[] }], W1, { target := .fn (.func gf) lb, args := #[.func (.yield (w.heap.size + 1)) #[] #[]] }, W1, gf,
    #[.func (.yield (w.heap.size + 1)) #[] #[]] ++ lb, W1, ?_, ?_, ?_, ?_, fun _ => h1, ?_⟩
  · rw [← hW1, hrec]; exact run_enterLoop_outer _ _ _ _ _
  · simp only [resolve, hg]
    simp [go_sem]
  · intro f' hf'; trivial
  · simp [invoke, go_sem, eg]
  · have hI1 : ∀ {k : Nat} {X : Nat → Prop} {A : World} (o : Obj), I k X A → I k X (A.putObj (w.heap.size + 1) o) := fun o h => hI _ _ _ _ h ((Kb.refl _ _).putObj (fun _ hp => hp.elim (fun h => by omega) (fun hx => by have := (hlt _ _ _ h _ hx).1; omega)) o)
    refine (callsIn_wide.2 (hseq (w.heap.size + 1)
      (fun k X W => I k X W ∧ W.heap[w.heap.size + 1]? = some (.loop (rec .ready none)) ∧ W.heap[w.heap.size]? = some (.deferred (some [])))
      (fun W => ∃ c, Ix c W ∧ W.heap[w.heap.size + 1]? = some (.loop (rec .done (some c))) ∧ W.heap[w.heap.size]? = some (.deferred (some [])))
      W1 hb1 (by omega) ?_ ?_ ?_ ?_ ?_)).mono ?_
    · exact ⟨hI _ _ _ _ h0 (Kb.of_below hB1 (fun b _ h => h.elim id False.elim)), hL1, hK1⟩
    · exact fun k X A h b hx => (hlt _ _ _ h.1 b hx).2
    · rintro k X A A' ⟨hi, hl, hd⟩ hk
      rw [hS1] at hk
      have hlt' : w.heap.size + 1 < A.heap.size := (Array.getElem?_eq_some_iff.1 hl).1
      exact ⟨hI k X A A' hi (hk.mono (fun b _ h => h.imp (fun h => by omega) id)), (hk.block _ hlt' (.inl (by omega))).trans hl, (hk.block _ (by omega) (.inl (by omega))).trans hd⟩
    · rintro A A' ⟨c, hi, hl, hd⟩ hk
      have hlt' : w.heap.size + 1 < A.heap.size := (Array.getElem?_eq_some_iff.1 hl).1
      exact ⟨c, hIx c A A' hi (hk.mono (fun _ _ _ => trivial)), (hk.block _ hlt' trivial).trans hl, (hk.block _ (by omega) trivial).trans hd⟩
    · rintro k X W args x Y ⟨hi, hl, hd⟩ hx hv hWW hY
      rw [hS1] at hY hWW
      have hlt' : w.heap.size + 1 < W.heap.size := (Array.getElem?_eq_some_iff.1 hl).1
      have hy := run_yield (P := P) (args := args) hl (by rw [hrec]; exact hps _ _ _ hv)
      rw [hrec] at hy
      refine yield_any (m := n - 1 - 1) ⟨fn, _, assign, body, hy, roundIn_of_wpIn hfn (wpIn_mono (hround _ k X Y x args W rfl hWW hi hx hv hY (fun q hq => by simp [World.cell?, hq, hl])) ?_)⟩
      clear hy
      intro e1 a' Wa hp
      cases e1 with
      | normal =>
        obtain ⟨hka, hbody⟩ := hp
        have hl2 := (hka.block _ hlt' (.inr (.inr (.inl rfl)))).trans hl
        have hd2 := (hka.block w.heap.size (by omega) (.inr (.inl rfl))).trans hd
        have hlta : w.heap.size + 1 < Wa.heap.size := (Array.getElem?_eq_some_iff.1 hl2).1
        refine ⟨_, run_beginRound hl2 (by rw [hrec]), ?_⟩
        have hkb : Kb (fun b => b ≠ w.heap.size + 1) Wa (Wa.putObj (w.heap.size + 1) (.loop { rec .ready none with state := .busy })) := (Kb.refl _ _).putObj (fun _ h => h rfl) _
        have hl3 : (Wa.putObj (w.heap.size + 1) (.loop { rec .ready none with state := .busy })).heap[w.heap.size + 1]? = some (.loop { rec .ready none with state := .busy }) := World.putObj_heap_same hlta
        have hd3 := (hkb.block w.heap.size (by omega) (by omega)).trans hd2
        refine wpIn_mono (hbody _ hkb) ?_
        generalize Wa.putObj (w.heap.size + 1) (.loop { rec .ready none with state := .busy }) = W2 at hkb hl3 hd3
        have hlt2 : w.heap.size + 1 < W2.heap.size := (Array.getElem?_eq_some_iff.1 hl3).1
        have fin : ∀ (jump : Option Code) (W3 : World), Kb (fun b => b < n₀ ∨ b = w.heap.size ∨ b = w.heap.size + 1 ∨ Y b) W2 W3 →
            (Instr.endRound (w.heap.size + 1) jump).run P W3 = .ok (.bool jump.isNone) (W3.putObj (w.heap.size + 1) (.loop (rec (if jump.isNone then .ready else .done) jump))) ∧
            W3.heap[w.heap.size + 1]? = some (.loop { rec .ready none with state := .busy }) ∧
            (W3.putObj (w.heap.size + 1) (.loop (rec (if jump.isNone then .ready else .done) jump))).heap[w.heap.size + 1]? = some (.loop (rec (if jump.isNone then .ready else .done) jump)) ∧
            (W3.putObj (w.heap.size + 1) (.loop (rec (if jump.isNone then .ready else .done) jump))).heap[w.heap.size]? = some (.deferred (some [])) := fun jump W3 hk3 => by
          have hl4 := (hk3.block _ hlt2 (.inr (.inr (.inl rfl)))).trans hl3
          have hd4 := (hk3.block w.heap.size (by omega) (.inr (.inl rfl))).trans hd3
          have := run_endRound (P := P) jump hl4
          rw [hrec] at this ⊢
          exact ⟨this, by rw [hrec] at hl4; exact hl4, World.putObj_heap_same (Array.getElem?_eq_some_iff.1 hl4).1, (World.putObj_heap_other (by omega)).trans hd4⟩
        rintro e a3 W3 hp
        have hny : ∀ b, b < n₀ ∨ Y b → b ≠ w.heap.size + 1 := fun b h e => h.elim (fun h => by omega) (fun h => by have := (hY b h).1; omega)
        have hall : ∀ (W3 : World) (o : Obj), Kb (fun b => b < n₀ ∨ b = w.heap.size ∨ b = w.heap.size + 1 ∨ Y b) W2 W3 → Kb (fun b => b < n₀ ∨ Y b) W (W3.putObj (w.heap.size + 1) o) := fun W3 o hk3 => (((hka.mono (fun b _ h => h.imp id (fun h => .inr (.inr h)))).trans ((hkb.mono (fun b _ h => hny b h)).trans (hk3.mono (fun b _ h => h.imp id (fun h => .inr (.inr h)))))).trans ((Kb.refl _ _).putObj (fun _ h => hny _ h rfl) _))
        cases e with
        | normal =>
          obtain ⟨hk3, X', hi3, hX'⟩ := hp
          obtain ⟨hr, hl4, hl5, hd5⟩ := fin none W3 hk3
          exact ⟨_, _, hr, .inl ⟨rfl, ⟨X', ⟨hI1 _ hi3, hl5, hd5⟩, hX'⟩, hall _ _ hk3⟩⟩
        | ret =>
          obtain ⟨hk3, hi3⟩ := hp
          obtain ⟨hr, hl4, hl5, hd5⟩ := fin (some .ret) W3 hk3
          exact ⟨_, _, hr, .inr ⟨rfl, ⟨.ret, hIx _ W3 _ hi3 ((Kb.refl _ _).putObj (fun _ h => by omega) _), hl5, hd5⟩, hall _ _ hk3⟩⟩
        | exit id =>
          obtain ⟨hk3, hi3⟩ := hp
          obtain ⟨hr, hl4, hl5, hd5⟩ := fin (some (.exit id)) W3 hk3
          exact ⟨_, _, hr, .inr ⟨rfl, ⟨.exit id, hIx _ W3 _ hi3 ((Kb.refl _ _).putObj (fun _ h => by omega) _), hl5, hd5⟩, hall _ _ hk3⟩⟩
        | goto t =>
          obtain ⟨hk3, hi3⟩ := hp
          obtain ⟨hr, hl4, hl5, hd5⟩ := fin (some (.goto t)) W3 hk3
          exact ⟨_, _, hr, .inr ⟨rfl, ⟨.goto t, hIx _ W3 _ hi3 ((Kb.refl _ _).putObj (fun _ h => by omega) _), hl5, hd5⟩, hall _ _ hk3⟩⟩
        | panic ch => exact hp.elim
        | outgrown => exact hp.elim
      | ret => exact hp.elim
      | exit id => exact hp.elim
      | goto t => exact hp.elim
      | panic ch => exact hp.elim
      | outgrown => exact hp.elim
    · rintro e W2 ⟨⟨v, rfl⟩, (⟨X, hi, hl, hd⟩ | ⟨c, hi, hl, hd⟩)⟩
      · refine ⟨none, _, by have := run_endLoop (P := P) hl (by rw [hrec]; simp); rw [hrec] at this; exact this, ?_⟩
        exact hdone X _ (hI1 _ hi) ((World.putObj_heap_other (by omega)).trans hd)
      · refine ⟨some c, _, by have := run_endLoop (P := P) hl (by rw [hrec]; simp); rw [hrec] at this; exact this, ?_⟩
        exact hstop c _ (hIx c W2 _ hi ((Kb.refl _ _).putObj (fun _ h => by omega) _)) ((World.putObj_heap_other (by omega)).trans hd)
end Go.Proofs.Ytmpjoepfgfbjmaa
/- The iterator of package mix, if what lies below n₀ alone stays as it is. -/
namespace Go.Proofs.Ytmpjoepfgfbjmaa
open Go.RowKit Go.Shelf
set_option linter.unusedSimpArgs false
set_option linter.unusedVariables false
set_option maxHeartbeats 8000000 in
set_option maxRecDepth 100000 in
/-- The closure of fates: an iterator of all that may be seen. -/
theorem fates2_it (vo vy : Value) (m : Nat) (Ls : List ((Int × Int) × (Int × Int))) (Hs : List (ByteArray × (Int × Int))) (As Bs : List (List Ru)) (bx bi : Nat) (c d e : Int) (wq w : World) (hq : Below wq.heap.size wq w)
    (hx0 : w.cell? ⟨bx, 0, none⟩ = some vo) (hx1 : w.cell? ⟨bx, 1, none⟩ = some vy) (hi0 : w.cell? ⟨bi, 0, none⟩ = some (.int .i64 c)) (hi1 : w.cell? ⟨bi, 1, none⟩ = some (.int .i64 d)) (hi2 : w.cell? ⟨bi, 2, none⟩ = some (.int .i64 e))
    (hm : m ≤ 6) (ht : tpN (m : Int) Ls Hs = 0) (ho : LGs wq 0 vo (fun (a h : Nat) => lgT Ls Hs (taT As ((a : Int) + 1)) (((a : Int) + 1, 0), (h : Int))) m) (hy : LGs wq 0 vy (fun (a h : Nat) => lgT Ls Hs (taT Bs ((a : Int) + 1)) (((a : Int) + 1, 0), (h : Int))) m) (hsp : spB (m : Int) (c, d) = true) (hhd : hdrB e = true) :
    ItG Try.prog 24 #[.pointer (some ⟨bx, 0, none⟩), .pointer (some ⟨bi, 0, none⟩)] FtV w.heap.size wq.heap.size (pwS Ls Hs As Bs (c, d) e) w := by
  intro l J Jx W hW hn h0 hlt hab hax hY
  have hWq : Below wq.heap.size wq W := hq.trans (hW.mono hq.size)
  have cx : MCx l W.heap.size wq.heap.size J Jx (pwS Ls Hs As Bs (c, d) e) wq vo vy m Ls Hs As Bs := ⟨Nat.le_trans hq.size hn, hm, ht, fun A hA => ho.later hA, fun A hA => hy.later hA, hlt, hab, hax, hY⟩
  have HSW : Hid (∀ V, Below w.heap.size w V → V.cell? ⟨bx, 0, none⟩ = some vo ∧ V.cell? ⟨bx, 1, none⟩ = some vy ∧ V.cell? ⟨bi, 0, none⟩ = some (.int .i64 c) ∧ V.cell? ⟨bi, 1, none⟩ = some (.int .i64 d) ∧ V.cell? ⟨bi, 2, none⟩ = some (.int .i64 e)) := fun V hV => ⟨cell_later hV hx0, cell_later hV hx1, cell_later hV hi0, cell_later hV hi1, cell_later hV hi2⟩
  have HSK : Hid (∀ V, Kb (fun _ => True) W V → V.cell? ⟨bx, 0, none⟩ = some vo ∧ V.cell? ⟨bx, 1, none⟩ = some vy ∧ V.cell? ⟨bi, 0, none⟩ = some (.int .i64 c) ∧ V.cell? ⟨bi, 1, none⟩ = some (.int .i64 d) ∧ V.cell? ⟨bi, 2, none⟩ = some (.int .i64 e)) := fun V hk => HSW.out V (hW.trans (hk.below hn (fun _ _ => trivial)))
  have HMX : Hid (24 ≤ maxLen) := by show _ ≤ _; unfold maxLen; omega
  have HWK : Hid (∀ (V : World) (bk : Nat), Kb (fun _ => True) W V → W.heap.size ≤ bk → HK V bk [((c, d), e)] → Calls Try.prog 25 #[.agg #[vo, vy], .slice (some ⟨bk, 0, none⟩) 1 24, .agg #[.bool false, .bool false, .bool false, .bool false, .bool false, .bool false], .func (.yield l) #[] #[]] V fun e' A' => ∃ r, e' = .returned (.bool r) ∧ ((∃ X, J (pwS Ls Hs As Bs (c, d) e).length X A') ∨ Jx A')) := fun V bk hk hb hh => by
    have hI : WkI W.heap.size wq.heap.size J wq (fun _ => False) (fun b => W.heap.size ≤ b ∧ b < V.heap.size) 0 bk [((c, d), e)] V := ⟨hWq.trans (hk.below (Nat.le_trans hq.size hn) (fun _ _ => trivial)), hk.size, hab _ _ _ _ h0 (hk.mono (fun _ _ _ => trivial)), fun b hb => ⟨hb.1, hb.2, fun h => h⟩, ⟨hb, hh.lt⟩, hh⟩
    have h := walk_all cx 24 (by omega) V 0 _ _ bk [((c, d), e)] (fun _ => false) rfl (by omega) (by simp) hI hsp hhd (fun i x hx => by rw [Nat.zero_add]; exact hx)
    refine h.mono ?_
    rintro e' A' ⟨r, rfl, hR, hK⟩
    refine ⟨r, rfl, ?_⟩
    cases r with
    | false => exact .inr hR
    | true =>
      obtain ⟨⟨X', j1, _⟩, _⟩ := hR
      rw [Nat.zero_add] at j1
      exact .inl ⟨X', j1⟩
  obtain ⟨s0, s1, s2, s3, s4⟩ := HSW.out W hW
  have hlx : bx < W.heap.size := World.block_lt_of_cell? _ _ s0
  have hli : bi < W.heap.size := World.block_lt_of_cell? _ _ s2
  obtain ⟨j0, hj, hy0, hy1, hy2⟩ := info_parts hop_info
  obtain ⟨MC, hMC, hmk⟩ : ∃ MC : Array Value, MC.size = 24 * 3 ∧ ∀ V : World, (Instr.makeSlice 41 (.int .i64 0) (.int .i64 24)).run Try.prog V = .ok (.slice (some ⟨V.heap.size, 0, none⟩) 0 24) (V.alloc (.cells MC 55)) := by
    refine ⟨madeCells (Value.agg #[.int .i64 0, .int .i64 0, .int .i64 0]).cells (24 * 3), size_madeCells _ _, fun V => ?_⟩
    have h := run_make (P := Try.prog) V 41 55 j0 (.agg #[.int .i64 0, .int .i64 0, .int .i64 0]) Try.underlying41 hj hy0 .i64 .i64 0 24 (by decide) (by decide) (by rw [hy2]; decide) (by decide)
    rw [hy1] at h
    exact h
  have hal : ∀ (V : World) (o : Obj), Kb (fun _ => True) V (V.alloc o) := fun V o => (Kb.refl _ _).alloc o
  have HOM1 : Hid (∀ o : Obj, ((W.alloc (.cells MC 55)).alloc o).ownsRow 0 55 hopE.n (.slice (some ⟨W.heap.size, 0, none⟩) 0 24) 0 (cellsG hopE [])) := fun o => own_kb (World.ownsRow_made W MC 24 (Nat.zero_le _) HMX.out hMC) (hal _ o) (fun _ _ => trivial)
  have HOM2 : Hid (∀ o : Obj, ((W.alloc o).alloc (.cells MC 55)).ownsRow 0 55 hopE.n (.slice (some ⟨W.heap.size + 1, 0, none⟩) 0 24) 0 (cellsG hopE [])) := fun o => by
    have h := World.ownsRow_made (base := 0) (e := 55) (size := 3) (W.alloc o) MC 24 (Nat.zero_le _) HMX.out hMC
    rw [World.size_alloc] at h
    exact h
  have HVM1 : Hid (VAt ((W.alloc (.cells MC 55)).alloc (.cells #[.int .i64 c, .int .i64 d, .int .i64 e] 55)) (W.heap.size + 1) 0 (hopE.c ((c, d), e))) := by
    have h := hop_new (W.alloc (.cells MC 55)) c d e 55
    rw [World.size_alloc] at h
    exact h
  have HVM2 : Hid (VAt ((W.alloc (.cells #[.int .i64 c, .int .i64 d, .int .i64 e] 55)).alloc (.cells MC 55)) W.heap.size 0 (hopE.c ((c, d), e))) := (hop_new W c d e 55).later ((Below.refl _ _).alloc (Nat.le_refl _) _)
  clear hMC hal
  show Calls Try.prog 24 #[.func (.yield l) #[] #[], .pointer (some ⟨bx, 0, none⟩), .pointer (some ⟨bi, 0, none⟩)] W _
  have nx0 : bx ≠ W.heap.size := by omega
  have nx1 : bx ≠ W.heap.size + 1 := by omega
  have ni0 : bi ≠ W.heap.size := by omega
  have ni1 : bi ≠ W.heap.size + 1 := by omega
  clear hWq hq
  clear cx hx0 hx1 hi0 hi1 hi2 ho hy hW hn h0 hlt hab hax hY hsp hhd ht hm
  go_enter Try.func24, Try.ntmps24
  go_upto_region 0 with fail
  go_region_law
    (first
      | (refine step_append_fits (E := hopE) _ (by rfl) _ _ 41 55 (by rfl) Try.underlying41 j0 hj hy1 0 (W.heap.size) 24 [] (by rfl) ?_ (W.heap.size + 1) 0 1 (by rfl) ((c, d), e) ?_ (by decide) ?_; (focus (exact HOM1.out _)); (focus (exact HVM1.out)); intro w5 ho5 hg5; have HK5 : Hid (Kb (fun _ => True) W w5) := (Kb.grown (by first | exact (((Kb.refl _ _).alloc _).alloc _).drew | exact (((Kb.refl _ _).drew.alloc _).alloc _) | exact ((Kb.refl _ _).alloc _).drew.alloc _) hg5 (fun r er hr _ => by cases er; omega)); have HBK5 : Hid (W.heap.size ≤ W.heap.size) := (by show _ ≤ _; omega); have HH5 : Hid (HK w5 (W.heap.size) [((c, d), e)]) := (hk_one ho5); obtain ⟨t0, t1, t2, t3, t4⟩ := HSK.out _ HK5.out; clear ho5 hg5)
      | (refine step_append_fits (E := hopE) _ (by rfl) _ _ 41 55 (by rfl) Try.underlying41 j0 hj hy1 0 (W.heap.size + 1) 24 [] (by rfl) ?_ (W.heap.size) 0 1 (by rfl) ((c, d), e) ?_ (by decide) ?_; (focus (exact HOM2.out _)); (focus (exact HVM2.out)); intro w5 ho5 hg5; have HK5 : Hid (Kb (fun _ => True) W w5) := (Kb.grown (by first | exact (((Kb.refl _ _).alloc _).alloc _).drew | exact (((Kb.refl _ _).drew.alloc _).alloc _) | exact ((Kb.refl _ _).alloc _).drew.alloc _) hg5 (fun r er hr _ => by cases er; omega)); have HBK5 : Hid (W.heap.size ≤ W.heap.size + 1) := (by show _ ≤ _; omega); have HH5 : Hid (HK w5 (W.heap.size + 1) [((c, d), e)]) := (hk_one ho5); obtain ⟨t0, t1, t2, t3, t4⟩ := HSK.out _ HK5.out; clear ho5 hg5)
      | (go_simp; go_at_call 25; refine (HWK.out _ _ HK5.out HBK5.out HH5.out).mono ?_; rintro e6 w6 ⟨r, rfl, hP⟩; have HP : Hid ((∃ X, J (pwS Ls Hs As Bs (c, d) e).length X w6) ∨ Jx w6) := hP; clear hP))
  all_goals go_wp2
  all_goals go_end0
  all_goals exact ⟨⟨_, rfl⟩, HP.out⟩
end Go.Proofs.Ytmpjoepfgfbjmaa
/- What slices.Clone answers of hops; how long what is handed on may be. -/
namespace Go.Proofs.Ytmpjoepfgfbjmaa
open Go.RowKit Go.Shelf
set_option linter.unusedSimpArgs false
set_option linter.unusedVariables false

section
variable {Ls : List ((Int × Int) × (Int × Int))} {Hs : List (ByteArray × (Int × Int))} {As Bs : List (List Ru)}
theorem pw_small {S : Int} (ht : tpN S Ls Hs = 0) : ∀ (n : Nat) (l : List ((Int × Int) × Int)) (met : Nat → Bool) (x : Int × ByteArray × List ((Int × Int) × Int)), x ∈ pwL Ls Hs As Bs n l met → x.2.1.size ≤ 1000000 ∧ x.2.2.length < l.length + n
  | 0, l, met, x, h => by simp [pwL] at h
  | n + 1, l, met, x, h => by
    have tk : ∀ Ts met2, x ∈ tkL (pwL Ls Hs As Bs n) (lgA Ls Hs Ts l) l met2 → x.2.1.size ≤ 1000000 ∧ x.2.2.length < l.length + (n + 1) := by
      intro Ts met2 hx
      unfold tkL at hx
      split at hx
      · have := pw_small ht n _ _ x hx
        rw [List.length_append, List.length_singleton] at this
        exact ⟨this.1, by omega⟩
      · have e : x = ((lgA Ls Hs Ts l).1, (lgA Ls Hs Ts l).2.1, l) := by simpa using hx
        rw [e]
        exact ⟨la_name ht Ts l, by show l.length < _; omega⟩
    rw [pwL] at h
    split at h
    · exact tk _ _ h
    · rcases List.mem_append.1 h with h | h
      · exact tk _ _ h
      · split at h
        · simp at h
        · exact tk _ _ h
theorem ps_small {S : Int} (ht : tpN S Ls Hs = 0) {s : Int × Int} {h : Int} {x : Int × ByteArray × List ((Int × Int) × Int)} (hx : x ∈ pwS Ls Hs As Bs s h) : x.2.1.size ≤ 1000000 ∧ x.2.2.length < 25 ∧ 0 < x.2.2.length := by
  obtain ⟨h1, h2⟩ := pw_small ht 24 _ _ x hx
  have h3 := (pw_pre 24 _ _ x hx).length_le
  simp only [List.length_singleton] at h2 h3
  exact ⟨h1, by omega, by omega⟩
end
set_option maxHeartbeats 1000000 in
set_option maxRecDepth 100000 in
theorem hclone_any (ao : Option Addr) (n cap : Nat) (l : List ((Int × Int) × Int)) (w : World) (h : GS hopE w (.slice ao n cap) l) (h1 : 0 < n) (h2 : n ≤ 1000000) :
    Calls Try.prog 13 #[.slice ao n cap] w fun e w' => ∃ x : SlT, e = .returned (slV x) ∧ w'.ownsRow w.heap.size 55 hopE.n (slV x) l.length (cellsG hopE l) ∧ Below w.heap.size w w' := by
  obtain ⟨_, _, _, e5, hn, hm, hc, ha⟩ := h.form
  cases e5
  obtain ⟨g, o, rfl, hG, hx⟩ := ha h1
  obtain ⟨i0, hi, hz0, hz1, hz2⟩ := info_parts hop_info
  have HMX : Hid ((1000000 : Nat) ≤ maxLen) := by show _ ≤ _; unfold maxLen; omega
  have HOM : Hid ((w.alloc (.cells #[] 55)).ownsRow w.heap.size 55 hopE.n (.slice (some ⟨w.heap.size, 0, none⟩) 0 0) ([] : List ((Int × Int) × Int)).length (cellsG hopE [])) := World.ownsRow_made w #[] 0 (Nat.le_refl _) (Nat.zero_le _) rfl
  have HG : Hid (∀ ob : Obj, GS hopE (w.alloc ob) (.slice (some ⟨g, o, none⟩) n cap) l) := fun ob => h.later ((Below.refl _ _).alloc (Nat.le_refl _) _)
  have HN : Hid (l.length = n) := hn
  have q22 : ∀ (w : World) (a : Option Addr) (n c : Nat), (binOp .eql 41 (.slice a n c) (.slice none 0 0)).run Try.prog w = .ok (.bool a.isNone) w := fun w a n c => by
    simp only [binOp]
    simp [Op.equal, Op.maxDepth, Lib.run_equalIn_slice_nil w 9999 41 _ a n c 0 0 Try.underlying41]
  clear h hG hn ha
  go_enter Try.func13, Try.ntmps13
  go_wp2_with (at_builtin; refine wpList_append_GS (E := hopE) _ rfl _ _ 41 55 rfl Try.underlying41 i0 (.agg #[.int .i64 0, .int .i64 0, .int .i64 0]) 24 hi hz0 hz1 hz2 rfl w.heap.size (.slice (some ⟨w.heap.size, 0, none⟩) 0 0) rfl [] HOM.out _ rfl l (HG.out _) ?a1 ?a2 ?a3 ?_)
  case a1 => simp; have := HN.out; have := HMX.out; omega
  case a2 => simp; have := HN.out; omega
  case a3 => simp
  intro v' w' hown hgrow
  have hb : Below w.heap.size w w' := by
    have h0 : Below w.heap.size w (w.alloc (.cells #[] 55)) := (Below.refl _ _).alloc (Nat.le_refl _) _
    exact ⟨hgrow.os, hgrow.tape, hgrow.output, Nat.le_trans h0.size hgrow.size, fun k hk => (hgrow.block k (Nat.lt_of_lt_of_le hk h0.size) (fun e => by simp [Value.ownBlock] at e; omega)).trans (h0.block k hk)⟩
  obtain ⟨ao2, cap2, rfl⟩ := own_form hown
  go_wp2
  go_ret
  exact ⟨(ao2, _, cap2), rfl, hown, hb⟩
end Go.Proofs.Ytmpjoepfgfbjmaa
/- What cmp.Compare and cmp.Or answer. -/
namespace Go.Proofs.Ytmpjoepfgfbjmaa
open Go.RowKit Go.Shelf Go.Sort
set_option linter.unusedSimpArgs false
set_option linter.unusedVariables false

/-- Three ways: below, above, neither. -/
def cm3 (a b : Bool) : Int := if a then -1 else if b then 1 else 0
/-- The order of two numbers. -/
def cmI (x y : Int) : Int := cm3 (decide (x < y)) (decide (y < x))
/-- The order of two texts. -/
def cmS (x y : ByteArray) : Int := cm3 (Op.bytesLess x.toList y.toList) (!(Op.bytesLess x.toList y.toList || x.toList == y.toList))
/-- The first that is not nothing. -/
def or3 (a b c : Int) : Int := if a ≠ 0 then a else if b ≠ 0 then b else c
/-- Nothing but new blocks and draws. -/
def Gr (w w' : World) : Prop := ∃ q os, w' = grow (w.drewN q) os

set_option maxHeartbeats 1000000 in
theorem isnan_int (x : Int) (w : World) : Calls Try.prog 54 #[.int .i64 x] w fun e w' => e = .returned (.bool false) ∧ w' = w := by
  go_enter Try.func54, Try.ntmps54
  go_wp2
  go_ret
  exact ⟨by simp, rfl⟩
set_option maxHeartbeats 1000000 in
theorem isnan_str (x : ByteArray) (w : World) : Calls Try.prog 55 #[.string x] w fun e w' => e = .returned (.bool false) ∧ w' = w := by
  go_enter Try.func55, Try.ntmps55
  go_wp2
  go_ret
  exact ⟨by simp, rfl⟩
set_option maxHeartbeats 1000000 in
theorem compare_int (x y : Int) (w : World) : Calls Try.prog 30 #[.int .i64 x, .int .i64 y] w fun e w' => e = .returned (.int .i64 (cmI x y)) ∧ w' = w := by
  go_enter Try.func30, Try.ntmps30
  go_wp2_with (go_at_call 54; refine (isnan_int _ _).mono ?_; rintro e w' ⟨rfl, hw⟩; rw [hw])
  all_goals (go_ret; refine ⟨?_, rfl⟩; unfold cmI cm3; (repeat' split) <;> first | rfl | (exfalso; simp_all; done) | (exfalso; simp_all; omega))
set_option maxHeartbeats 1000000 in
theorem compare_str (x y : ByteArray) (w : World) : Calls Try.prog 31 #[.string x, .string y] w fun e w' => e = .returned (.int .i64 (cmS x y)) ∧ w' = w := by
  unfold cmS
  go_enter Try.func31, Try.ntmps31
  go_wp2_with (go_at_call 55; refine (isnan_str _ _).mono ?_; rintro e w' ⟨rfl, hw⟩; rw [hw])
  all_goals (go_ret; refine ⟨?_, rfl⟩; unfold cm3; simp_all)
end Go.Proofs.Ytmpjoepfgfbjmaa
