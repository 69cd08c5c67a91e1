/- Less itself nothing is left of a cube, and what is left of one and what was taken are it again: the walk of CubesLess. -/
import Derived.Test.YtclecpcnmfhhcaaCubesHeaders
import Derived.Test.YtclecpcnmfhhcaaCubesLess
import Derived.Test.YtclecpcnmfhhcaaCubesMeet
import Derived.Deep.CutRange
import Derived.Deep.RegionWith
namespace Go.Proofs.Ytclecpcnmfhhcaa.lessLaw
open Go.RowKit Go.Proofs.Ytclecpcnmfhhcaa
set_option linter.unusedSimpArgs false

/-- What the walk keeps: the cube's own place, and the others. -/
structure K (w : World) (m b : Int) (s : Value) (L : List (Int × Int)) (W : World) : Prop where
  below : Below w.heap.size w W
  size : w.heap.size < W.heap.size
  c0 : W.cell? ⟨w.heap.size, 0, none⟩ = some (.int .i64 m)
  c1 : W.cell? ⟨w.heap.size, 1, none⟩ = some (.int .i64 b)
  sl : SL w s L
theorem K.grow {w W W' : World} {m b : Int} {s : Value} {L : List (Int × Int)} (h : K w m b s L W) (hb : Below (w.heap.size + 1) W W') : K w m b s L W' :=
  ⟨h.below.trans (hb.mono (by omega)), Nat.lt_of_lt_of_le h.size hb.size, (hb.cell (p := ⟨w.heap.size, 0, none⟩) (by simp)).trans h.c0, (hb.cell (p := ⟨w.heap.size, 1, none⟩) (by simp)).trans h.c1, h.sl⟩
theorem K.later {w W W' : World} {m b : Int} {s : Value} {L : List (Int × Int)} (h : K w m b s L W) (hb : Below W.heap.size W W') : K w m b s L W' := h.grow (hb.mono h.size)
theorem K.here {w W : World} {m b : Int} {s : Value} {L : List (Int × Int)} (h : K w m b s L W) : SL W s L := h.sl.later h.below
theorem K.start {w : World} {m b : Int} {s : Value} {L : List (Int × Int)} (h : SL w s L) : K w m b s L (w.alloc (.cells #[.int .i64 m, .int .i64 b] 27)) :=
  ⟨(Below.refl _ _).alloc (Nat.le_refl _) _, by simp, by simp, by simp, h⟩

theorem mn00 : mnV 0 0 [] = .nilIface ∧ mnOf 0 0 [] = [(0, 0)] ∧ csV [(0, 0)] = .nilIface ∧ (hsOf [(0, 0)]).length = 16 := by
  have h0 : okB 0 0 = true := by decide +kernel
  have h1 : fcN [(0, 0)] = 0 := by decide +kernel
  have h2 : (hsOf [(0, 0)]).length = 16 := by decide +kernel
  exact ⟨by simp [mnV, h0, csV, fcN, faN], by simp [mnOf, h0, fcN, faN, lessL], by simp [csV, h1], h2⟩
theorem fc_one {m b : Int} (h : okB m b = true) : fcN [(m, b)] = 0 := by simp [fcN, faN, h]
theorem mnSelf {m b : Int} (h : okB m b = true) : mnV m b [(m, b)] = .nilIface ∧ mnOf m b [(m, b)] = [] := by
  refine ⟨by simp [mnV, h, csV, fc_one h], ?_⟩
  have e : mnOf m b [(m, b)] = lessL (m, b) [(m, b)] := by simp [mnOf, h, fc_one h]
  rw [e]
  exact parts_none (parts_lessL (a := (m, b)) h (by simp [okL, h])) (fun k _ => by simp [anyB])

set_option maxRecDepth 100000 in
set_option maxHeartbeats 2000000 in
theorem walk_bad (m b : Int) (s : Value) (L : List (Int × Int)) (w : World) (hs : SL w s L) (ho : okB m b = false) :
    Calls Try.prog 6 #[.agg #[.int .i64 m, .int .i64 b], s] w fun e w' => e = .returned (.bool true) ∧ Below w.heap.size w w' := by
  have HK0 : Hid _ := K.start (m := m) (b := b) hs
  clear hs
  go_enter Try.func6, Try.ntmps6
  go_wp2_with fail
  refine (csMinus_any 0 0 (.slice none 0 0) [] _ (SL.nil _)).mono ?_
  rintro e w1 ⟨v1, rfl, own1, hb1⟩
  rw [mn00.1]
  rw [mn00.2.1] at own1
  have HK1 := HK0.out.later hb1
  have s1 := own_SL own1
  clear own1 hb1 HK0
  go_wp2_with fail
  refine (csCount_any v1 [(0, 0)] _ s1).mono ?_
  rintro e w2 ⟨rfl, hb2⟩
  rw [mn00.2.2.1, mn00.2.2.2]
  have HK2 := HK1.later hb2
  obtain ⟨kb, kz, k0, k1, -⟩ := id HK2
  have HK : Hid (K w m b s L w2) := HK2
  clear HK1 HK2 hb2 s1
  go_wp2_with fail
  have s3 := own_SL (own_one (W := w2) (B := 0) (e := 27) (N := w2.heap.size) (x := m) (y := b) rfl (by omega))
  refine (csMinus_any m b _ [(m, b)] _ s3).mono ?_
  rintro e w3 ⟨v3, rfl, -, hb3⟩
  have e3 : mnV m b [(m, b)] = .iface 23 (.int .i64 (refN m b)) := by simp [mnV, ho, ce_no ho]
  rw [e3]
  have HK3 := HK.out.later (((Below.refl _ _).alloc (Nat.le_refl _) _).trans (hb3.mono (by simp)))
  obtain ⟨kb3, kz3, k30, k31, -⟩ := id HK3
  clear s3 hb3 k0 k1 kb kz HK HK3
  go_wp2_with fail
  refine (check_ce _ _ _).mono ?_
  rintro e w4 ⟨rfl, hb4⟩
  rw [ce_no ho]
  go_wp2
  go_ret
  exact ⟨rfl, kb3.trans (hb4.mono kb3.size)⟩

set_option maxRecDepth 100000 in
set_option maxHeartbeats 2000000 in
theorem walk_wrong (m b : Int) (s : Value) (L : List (Int × Int)) (w : World) (hs : SL w s L) (ho : okB m b = true) (hf : fcN L ≠ 0) :
    Calls Try.prog 6 #[.agg #[.int .i64 m, .int .i64 b], s] w fun e w' => e = .returned (.bool true) ∧ Below w.heap.size w w' := by
  have HK0 : Hid _ := K.start (m := m) (b := b) hs
  clear hs
  go_enter Try.func6, Try.ntmps6
  go_wp2_with fail
  refine (csMinus_any 0 0 (.slice none 0 0) [] _ (SL.nil _)).mono ?_
  rintro e w1 ⟨v1, rfl, own1, hb1⟩
  rw [mn00.1]
  rw [mn00.2.1] at own1
  have HK1 := HK0.out.later hb1
  have s1 := own_SL own1
  clear own1 hb1 HK0
  go_wp2_with fail
  refine (csCount_any v1 [(0, 0)] _ s1).mono ?_
  rintro e w2 ⟨rfl, hb2⟩
  rw [mn00.2.2.1, mn00.2.2.2]
  have HK2 := HK1.later hb2
  obtain ⟨kb, kz, k0, k1, -⟩ := id HK2
  have HK : Hid (K w m b s L w2) := HK2
  clear HK1 HK2 hb2 s1
  go_wp2_with fail
  have s3 := own_SL (own_one (W := w2) (B := 0) (e := 27) (N := w2.heap.size) (x := m) (y := b) rfl (by omega))
  refine (csMinus_any m b _ [(m, b)] _ s3).mono ?_
  rintro e w3 ⟨v3, rfl, own3, hb3⟩
  rw [(mnSelf ho).1]
  rw [(mnSelf ho).2] at own3
  obtain ⟨ao3, cap3, hv3⟩ := own_form own3
  subst hv3
  have HK3 := HK.out.later (((Below.refl _ _).alloc (Nat.le_refl _) _).trans (hb3.mono (by simp)))
  obtain ⟨kb3, kz3, k30, k31, -⟩ := id HK3
  have HK4 : Hid (K w m b s L w3) := HK3
  clear s3 hb3 k0 k1 kb kz HK HK3 own3
  go_wp2_with fail
  refine (csMinus_any m b s L _ HK4.out.here).mono ?_
  rintro e w4 ⟨v4, rfl, -, hb4⟩
  have e4 : mnV m b L = .iface 23 (.int .i64 (fcN L)) := by simp [mnV, ho, csV, hf]
  rw [e4]
  clear hf e4
  go_wp2
  go_ret
  exact ⟨rfl, kb3.trans (hb4.mono kb3.size)⟩

/-- What the loop keeps. -/
structure KI (w : World) (m b : Int) (s : Value) (L : List (Int × Int)) (k : Nat) (v : Value) (W : World) : Prop where
  kk : K w m b s L W
  own : W.ownsRow (w.heap.size + 1) 27 2 v (lessL (m, b) L ++ tk m b (L.take k)).length (cellsOf (lessL (m, b) L ++ tk m b (L.take k)))
  few : (lessL (m, b) L ++ tk m b (L.take k)).length ≤ 40

/-- What two cubes' meeting leaves: a new place with what they have together. -/
def MR (m b x y : Int) (wr : World) (p q : Value) (W : World) : Prop :=
  ∃ g, p = .pointer (some ⟨g, 0, none⟩) ∧ q = .bool (mtOk m b x y) ∧ W.cell? ⟨g, 0, none⟩ = some (.int .i64 (mtM m b x y)) ∧ W.cell? ⟨g, 1, none⟩ = some (.int .i64 (mtB m b x y)) ∧ Below wr.heap.size wr W
theorem MR.after {m b x y : Int} {wr w0 w' : World} (h0 : Below wr.heap.size wr w0) (hb : Below w0.heap.size w0 w') :
    MR m b x y wr (.pointer (some ⟨w'.heap.size, 0, none⟩)) (.bool (mtOk m b x y)) (w'.alloc (.cells #[.int .i64 (mtM m b x y), .int .i64 (mtB m b x y)] 27)) :=
  ⟨w'.heap.size, rfl, rfl, by simp, by simp, (h0.trans (hb.mono h0.size)).alloc (Nat.le_trans h0.size hb.size) _⟩
theorem MR.before {m b x y : Int} {wr w0 w' : World} {u v : Value} (h0 : Below wr.heap.size wr w0) (hb : Below w0.heap.size w0 w') (hz : wr.heap.size < w0.heap.size)
    (h1 : w0.cell? ⟨wr.heap.size, 0, none⟩ = some u) (h2 : w0.cell? ⟨wr.heap.size, 1, none⟩ = some v) :
    MR m b x y wr (.pointer (some ⟨wr.heap.size, 0, none⟩)) (.bool (mtOk m b x y)) ((w'.setCell ⟨wr.heap.size, 0, none⟩ (.int .i64 (mtM m b x y))).setCell ⟨wr.heap.size, 1, none⟩ (.int .i64 (mtB m b x y))) := by
  have e1 := (hb.cell (p := ⟨wr.heap.size, 0, none⟩) hz).trans h1
  have e2 := (hb.cell (p := ⟨wr.heap.size, 1, none⟩) hz).trans h2
  refine ⟨wr.heap.size, rfl, rfl, ?_, ?_, ((h0.trans (hb.mono h0.size)).setCell (Nat.le_refl _) _).setCell (Nat.le_refl _) _⟩
  · rw [World.cell?_setCell_other _ _ _ _ (by simp)]
    exact World.cell?_setCell_same _ _ _ e1
  · refine World.cell?_setCell_same _ _ _ (u := v) ?_
    rw [World.cell?_setCell_other _ _ _ _ (by simp)]
    exact e2

set_option maxRecDepth 100000 in
set_option maxHeartbeats 4000000 in
theorem walk_ok (m b : Int) (ao : Option Addr) (n cap : Nat) (L : List (Int × Int)) (w : World) (hs : SL w (.slice ao n cap) L) (hn : L.length = n) (ho : okB m b = true) (hf : fcN L = 0) :
    Calls Try.prog 6 #[.agg #[.int .i64 m, .int .i64 b], .slice ao n cap] w fun e w' => e = .returned (.bool true) ∧ Below w.heap.size w w' := by
  obtain ⟨i0, hi, hz0, hz1, hz2⟩ := info_parts infoCube
  have hn40 : n ≤ 40 := by rw [← hn]; exact (okL_of hf).2
  have HN : Hid (L.length = n) := hn
  clear hn
  have HK0 : Hid _ := K.start (m := m) (b := b) hs
  clear hs
  go_enter Try.func6, Try.ntmps6
  go_wp2_with fail
  refine (csMinus_any 0 0 (.slice none 0 0) [] _ (SL.nil _)).mono ?_
  rintro e w1 ⟨v1, rfl, own1, hb1⟩
  rw [mn00.1]
  rw [mn00.2.1] at own1
  have HK1 := HK0.out.later hb1
  have s1 := own_SL own1
  clear own1 hb1 HK0
  go_wp2_with fail
  refine (csCount_any v1 [(0, 0)] _ s1).mono ?_
  rintro e w2 ⟨rfl, hb2⟩
  rw [mn00.2.2.1, mn00.2.2.2]
  have HK2 := HK1.later hb2
  obtain ⟨kb, kz, k0, k1, -⟩ := id HK2
  have HK : Hid (K w m b (.slice ao n cap) L w2) := HK2
  clear HK1 HK2 hb2 s1
  go_wp2_with fail
  have s3 := own_SL (own_one (W := w2) (B := 0) (e := 27) (N := w2.heap.size) (x := m) (y := b) rfl (by omega))
  refine (csMinus_any m b _ [(m, b)] _ s3).mono ?_
  rintro e w3 ⟨v3, rfl, own3, hb3⟩
  rw [(mnSelf ho).1]
  rw [(mnSelf ho).2] at own3
  obtain ⟨ao3, cap3, hv3⟩ := own_form own3
  subst hv3
  have HK3 := HK.out.later (((Below.refl _ _).alloc (Nat.le_refl _) _).trans (hb3.mono (by simp)))
  obtain ⟨kb3, kz3, k30, k31, -⟩ := id HK3
  have HK4 : Hid (K w m b (.slice ao n cap) L w3) := HK3
  clear s3 hb3 k0 k1 kb kz HK HK3 own3
  go_wp2_with fail
  refine (csMinus_any m b (.slice ao n cap) L _ HK4.out.here).mono ?_
  rintro e w4 ⟨v4, rfl, own4, hb4⟩
  have e4 : mnV m b L = .nilIface := by simp [mnV, ho, csV, hf]
  have e5 : mnOf m b L = lessL (m, b) L := by simp [mnOf, ho, hf]
  rw [e4]
  rw [e5] at own4
  have hY := parts_len (parts_lessL (a := (m, b)) ho (okL_of hf).1)
  have HK5 := HK4.out.later hb4
  obtain ⟨kb5, kz5, k50, k51, -⟩ := id HK5
  have HK : Hid (K w m b (.slice ao n cap) L w4) := HK5
  have hkz3 : w.heap.size + 1 ≤ w3.heap.size := by omega
  have HOW4 : Hid (w4.ownsRow (w.heap.size + 1) 27 2 v4 (lessL (m, b) L).length (cellsOf (lessL (m, b) L))) := own_mono own4 hkz3
  clear e4 e5 HK5 hb4 k30 k31 kb3 kz3 HK4 own4
  have HF : Hid (fcN L = 0) := hf
  clear hf
  have start : ∀ v W, W.ownsRow (w.heap.size + 1) 27 2 v (lessL (m, b) L).length (cellsOf (lessL (m, b) L)) → Below (w.heap.size + 1) w4 W → Hid (KI w m b (.slice ao n cap) L 0 v W) := by
    intro v W h1 h2
    exact ⟨HK.out.grow h2, by simpa [tk] using h1, by simp [tk]; omega⟩
  obtain ⟨ao4, cap4, hv4⟩ := own_form HOW4.out
  obtain ⟨ny, hny⟩ : ∃ ny, (lessL (m, b) L).length = ny := ⟨_, rfl⟩
  have HNY : Hid ((lessL (m, b) L).length = ny) := hny
  rw [hny] at hv4
  have hY2 : ny ≤ 16 := by omega
  clear hny
  go_upto_region 12 with fail
  go_cut [9, 11, 13] from 5 (fun x y v w' => x = .slice ao3 0 cap3 ∧ y = .slice ao4 ny cap4 ∧ KI w m b (.slice ao n cap) L 0 v w')
  case first =>
    have hO := HOW4.out
    rcases HOW4.out.2 with ⟨hv, h0⟩ | ⟨g, cap5, cur, hv, _⟩
    · have hv5 := hv4.symm.trans hv
      simp only [Value.slice.injEq] at hv5
      obtain ⟨rfl, rfl, rfl⟩ := hv5
      subst hv
      clear hv4 hO
      have hn0 : w4.ownsRow (w.heap.size + 1) 27 2 (.slice none 0 0) (lessL (m, b) L).length (cellsOf (lessL (m, b) L)) := HOW4.out
      have hst := start _ w4 hn0 (Below.refl _ _)
      clear start hn0 h0
      go_wp2_with (at_builtin; refine wpList_append_own_none rfl _ _ 41 rfl (w.heap.size + 1) 27 i0 2 Try.underlying41 hi _ _ _ rfl (World.ownsRow_nil _ _ _ _) rfl ?_)
      go_meet
      case rel => exact ⟨rfl, rfl, hst.out⟩
    · have hv5 := hv4.symm.trans hv
      simp only [Value.slice.injEq] at hv5
      obtain ⟨rfl, h5, rfl⟩ := hv5
      clear h5 hv
      subst hv4
      have HO : Hid (w4.ownsRow (w.heap.size + 1) 27 2 (.slice (some ⟨g, 0, none⟩) ny cap4) ny (cellsOf (lessL (m, b) L))) := by have := HOW4.out; rw [HNY.out] at this; exact this
      have HSTART : Hid _ := start
      clear start hO
      go_wp2_with (at_builtin; refine wpList_append_own _ rfl _ _ 41 rfl (w.heap.size + 1) 27 i0 (.agg #[.int .i64 0, .int .i64 0]) 2 16 Try.underlying41 hi hz0 hz1 hz2 twoCells (by decide) _ _ _ rfl (World.ownsRow_nil _ _ _ _) ⟨g, 0, none⟩ ny cap4 (cellsOf (lessL (m, b) L)) rfl (by rw [cellsOf_len, HNY.out]) (cells_news HO.out) (cellsOf_one _) ?c3 ?c4 ?c5 ?_)
      case c3 => unfold maxLen; omega
      case c4 => omega
      case c5 => omega
      intro v' w5 hown5 hgrow _
      have hst := HSTART.out v' w5 (by rw [HNY.out]; simpa using hown5) ((Below.refl _ _).grown hgrow (by omega) (fun g hg => by simp [Value.ownBlock] at hg))
      clear hgrow hown5
      go_wp2_with fail
      go_meet
      case rel => exact ⟨rfl, rfl, hst.out⟩
  case rest =>
    clear start
    obtain ⟨rfl, rfl, hKI⟩ := hcut
    have HKI : Hid (KI w m b (.slice ao n cap) L 0 _ wc) := hKI
    clear hKI HOW4 HK hv4 kb5 kz5 k50 k51 hkz3 hY
    go_wp2
    go_loopw [13, 14] (fun v i wr => ∃ k : Nat, k ≤ n ∧ i = .int .i64 k ∧ KI w m b (.slice ao n cap) L k v wr)
      (fun _ i _ => n - (intOf i).toNat)
    case atStart => exact ⟨0, by omega, rfl, HKI.out⟩
    case round =>
      clear HKI
      obtain ⟨k, hk, rfl, hKI⟩ := hrel
      obtain ⟨hK, hown, hfew⟩ := id hKI
      have HKI : Hid (KI w m b (.slice ao n cap) L k u13 wr) := hKI
      obtain ⟨ao5, cap5, rfl⟩ := own_form hown
      obtain ⟨X, hX⟩ : ∃ X, lessL (m, b) L ++ tk m b (L.take k) = X := ⟨_, rfl⟩
      have HX : Hid (lessL (m, b) L ++ tk m b (L.take k) = X) := hX
      rw [hX] at hown hfew ⊢
      have HOWN : Hid (wr.ownsRow (w.heap.size + 1) 27 2 (.slice ao5 X.length cap5) X.length (cellsOf X)) := hown
      clear hX hown hKI
      obtain ⟨nx, hnx⟩ : ∃ nx, X.length = nx := ⟨_, rfl⟩
      have HNX : Hid (X.length = nx) := hnx
      rw [hnx] at hfew ⊢
      clear hnx
      obtain ⟨kb, kz, k0, k1, -⟩ := id hK
      have ks := hK.here
      by_cases hlt : k < n
      · by_cases hroom : nx < 40
        · rcases ks with ⟨_, _, _, rfl⟩ | ⟨B, o, cp, hks, h1, h2, hc⟩
          · have := HN.out
            simp at this
            omega
          · simp only [Value.slice.injEq] at hks
            obtain ⟨rfl, h3, rfl⟩ := hks
            obtain ⟨x, y, hkl, hLk, q0, q1⟩ := hc.at HN.out hlt
            have HL : Hid (L[k] = (x, y)) := hLk
            have hBlt : B < wr.heap.size := World.block_lt_of_cell? _ _ q0
            clear hc hLk h1 h2 h3
            go_wp2
            go_cut [15, 16] from 65 to 89 (fun p q w' => MR m b x y wr p q w')
            case first =>
              go_region_with (go_at_call 10; refine (meet_any _ _ _ _ _).mono ?_; rintro e w' ⟨rfl, hb⟩; obtain ⟨hc', hf'⟩ := bcell hb; have hz' := hb.size)
              all_goals
                go_wp2_with fail
                go_meet
                case rel =>
                  first
                    | exact MR.after (Below.refl _ _) hb
                    | exact MR.after (Below.refl _ _).drew hb
                    | exact MR.before ((Below.refl _ _).alloc (Nat.le_refl _) _) hb (by simp) (u := .int .i64 0) (v := .int .i64 0) (by simp) (by simp)
                    | exact MR.before ((Below.refl _ _).alloc (Nat.le_refl _) _).drew hb (by simp) (u := .int .i64 0) (v := .int .i64 0) (by simp) (by simp)
                    | exact MR.before ((Below.refl _ _).drew.alloc (Nat.le_refl _) _) hb (by simp) (u := .int .i64 0) (v := .int .i64 0) (by simp) (by simp)
            case rest =>
              obtain ⟨g, rfl, rfl, g0, g1, hb⟩ := hcut
              have HK2 : Hid (K w m b (.slice (some ⟨B, o, none⟩) n cap) L wc) := HKI.out.kk.later hb
              have hkz : w.heap.size + 1 ≤ wc.heap.size := by have := HK2.out.size; omega
              have HOWN2 : Hid (wc.ownsRow (w.heap.size + 1) 27 2 (.slice ao5 nx cap5) nx (cellsOf X)) := by have := own_below HOWN.out hb; rw [HNX.out] at this; exact this
              have hglt : g < wc.heap.size := World.block_lt_of_cell? _ _ g0
              clear hb k0 k1 q0 q1 kb kz hBlt
              cases hmt : mtOk m b x y
              · have e : lessL (m, b) L ++ tk m b (L.take (k + 1)) = X := by rw [tk_miss hkl HL.out hmt, HX.out]
                have HE : Hid (lessL (m, b) L ++ tk m b (L.take (k + 1)) = X) := e
                clear e
                go_wp2
                exact ⟨⟨k + 1, by omega, by go_num, HK2.out, by rw [HE.out, HNX.out]; exact HOWN2.out, by rw [HE.out, HNX.out]; omega⟩, by simp [intOf]; omega⟩
              · have e : lessL (m, b) L ++ tk m b (L.take (k + 1)) = X ++ [(mtM m b x y, mtB m b x y)] := by rw [tk_hit hkl HL.out hmt, ← HX.out, List.append_assoc]
                have HE : Hid (lessL (m, b) L ++ tk m b (L.take (k + 1)) = X ++ [(mtM m b x y, mtB m b x y)]) := e
                clear e
                generalize mtM m b x y = M at *
                generalize mtB m b x y = M2 at *
                go_wp2_with (at_builtin; refine wpList_append_own _ rfl _ _ 41 rfl (w.heap.size + 1) 27 i0 (.agg #[.int .i64 0, .int .i64 0]) 2 16 Try.underlying41 hi hz0 hz1 hz2 twoCells (by decide) _ _ _ rfl (HOWN2.out.alloc _) ⟨wc.heap.size, 0, none⟩ 1 1 [.int .i64 M, .int .i64 M2] rfl rfl ?c1 ?c2 ?c3 ?c4 ?c5 ?_)
                case c1 =>
                  intro j u hj
                  match j, hj with
                  | 0, hj => simp at hj; subst hj; exact new2_0 _ _ _ _ _ (by simp)
                  | 1, hj => simp at hj; subst hj; exact new2_1 _ _ _ _ _ (by simp)
                case c2 => intro u hu; simp at hu; rcases hu with rfl | rfl <;> rfl
                case c3 => unfold maxLen; omega
                case c4 => omega
                case c5 => simp; omega
                intro v' w6 hown6 hgrow _
                have hown7 : w6.ownsRow (w.heap.size + 1) 27 2 v' (X.length + 1) (cellsOf X ++ [.int .i64 M, .int .i64 M2]) := by rw [HNX.out]; exact hown6
                have HOWN7 : Hid (w6.ownsRow (w.heap.size + 1) 27 2 v' (X ++ [(M, M2)]).length (cellsOf (X ++ [(M, M2)]))) := own_push hown7
                have HK6 : Hid (K w m b (.slice (some ⟨B, o, none⟩) n cap) L w6) := HK2.out.grow (((Below.refl _ _).alloc hkz _).grown hgrow (by simp; omega) (fun g hg => (HOWN2.out.lt g hg).1))
                clear hown6 hown7 hgrow
                go_wp2
                exact ⟨⟨k + 1, by omega, by go_num, HK6.out, by rw [HE.out]; exact HOWN7.out, by rw [HE.out, List.length_append, HNX.out]; simp; omega⟩, by simp [intOf]; omega⟩
        · have hsum : 40 < ny + n := by
            have h1 := tk_len m b (L.take k)
            have h2 : (L.take k).length ≤ k := by simp; omega
            have h3 := HX.out
            have h4 : X.length = ny + (tk m b (L.take k)).length := by rw [← h3, List.length_append, HNY.out]
            have h5 := HNX.out
            omega
          clear ks k0 k1
          go_wp2
          go_ret
          exact ⟨rfl, kb⟩
      · obtain rfl : k = n := by omega
        clear ks
        by_cases hsum : 40 < ny + k
        · clear k0 k1
          go_wp2
          go_ret
          exact ⟨rfl, kb⟩
        · have hX2 : X = lessL (m, b) L ++ tk m b L := by
            have := HX.out
            rw [← HN.out, List.take_length] at this
            exact this.symm
          have hlt40 : X.length ≤ 40 := by rw [HNX.out]; exact hfew
          obtain ⟨o1, o2⟩ := left_taken (m := m) (b := b) ho (okL_of HF.out).1
          rw [← hX2] at o1 o2
          have f1 : fcN X = 0 := by
            have : ¬ 40 < X.length := by omega
            simp [fcN, this, faN_ok o1]
          have f2 : (hsOf X == hsOf [(m, b)]) = true := by
            simp [hsOf, f1, fc_one ho, o2]
          have sX := own_SL HOWN.out
          rw [HNX.out] at sX
          have HSX : Hid (SL wr (.slice ao5 nx cap5) X) := sX
          have HF1 : Hid (fcN X = 0) := f1
          have HF2 : Hid ((hsOf X == hsOf [(m, b)]) = true) := f2
          clear sX f1 f2 o1 o2 hX2 hlt40
          go_wp2_with fail
          have s8 := own_SL (own_one (W := wr) (B := 0) (e := 27) (N := wr.heap.size) (x := m) (y := b) rfl (by omega))
          refine (csSame_any _ _ X [(m, b)] _ (HSX.out.later ((Below.refl _ _).alloc (Nat.le_refl _) _)) s8 HF1.out (fc_one ho)).mono ?_
          rintro e w8 ⟨rfl, hb8⟩
          rw [HF2.out]
          clear s8 k0 k1
          go_wp2
          go_ret
          exact ⟨rfl, kb.trans (((Below.refl _ _).alloc (Nat.le_refl _) _).trans (hb8.mono (by simp)) |>.mono kb.size)⟩

theorem walk (m b : Int) (s : Value) (L : List (Int × Int)) (w : World) (hs : SL w s L) :
    Calls Try.prog 6 #[.agg #[.int .i64 m, .int .i64 b], s] w fun e w' => e = .returned (.bool true) ∧ Below w.heap.size w w' := by
  cases ho : okB m b
  · exact walk_bad m b s L w hs ho
  · by_cases hf : fcN L = 0
    · have hs2 := hs
      rcases hs2 with ⟨ao, cap, rfl, rfl⟩ | ⟨B, o, cap, rfl, _, _, _⟩
      · exact walk_ok m b ao 0 cap [] w hs rfl ho hf
      · exact walk_ok m b _ _ _ L w hs rfl ho hf
    · exact walk_wrong m b s L w hs ho hf
end Go.Proofs.Ytclecpcnmfhhcaa.lessLaw
