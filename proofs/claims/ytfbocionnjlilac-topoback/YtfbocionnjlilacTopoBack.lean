/- The function TopoBack answers true, whatever topology, spot, name and switches it is called with. -/
import Derived.Test.YtfbocionnjlilacTopoPeer
import Derived.Test.YtfbocionnjlilacTopoWhere
import Derived.Test.YtfbocionnjlilacTopoAt
import Derived.Test.YtfbocionnjlilacTopoFar
import Derived.BigRegion
namespace Go.Proofs.Ytfbocionnjlilac
open Go.RowKit
set_option linter.unusedSimpArgs false
set_option linter.unusedVariables false

/-- What holds all along: the topology and the spot in their boxes. -/
structure LBox (w W : World) (S : Int) (v1 v2 : Value) (x y : Int) : Prop where
  below : Below w.heap.size w W
  t : TBox W w.heap.size S v1 v2
  s0 : W.cell? ⟨w.heap.size + 1, 0, none⟩ = some (.int .i64 x)
  s1 : W.cell? ⟨w.heap.size + 1, 1, none⟩ = some (.int .i64 y)
theorem LBox.later {w W W' : World} {S : Int} {v1 v2 : Value} {x y : Int} (h : LBox w W S v1 v2 x y) (hb : Below W.heap.size W W') : LBox w W' S v1 v2 x y :=
  ⟨h.below.trans (hb.mono h.below.size), h.t.later hb, cell_later hb h.s0, cell_later hb h.s1⟩
theorem LBox.alloc {w W : World} {S : Int} {v1 v2 : Value} {x y : Int} (h : LBox w W S v1 v2 x y) (o : Obj) : LBox w (W.alloc o) S v1 v2 x y := h.later ((Below.refl _ _).alloc (Nat.le_refl _) o)
theorem lbox_new (w : World) (S : Int) (v1 v2 : Value) (x y : Int) : LBox w ((w.alloc (Obj.cells #[.int .i64 S, v1, v2] 25)).alloc (Obj.cells #[.int .i64 x, .int .i64 y] 27)) S v1 v2 x y := by
  have e1 : (w.alloc (Obj.cells #[.int .i64 S, v1, v2] 25)).heap.size = w.heap.size + 1 := by simp
  have hb : ∀ (W : World) (o : Obj), Below W.heap.size W (W.alloc o) := fun W o => (Below.refl _ _).alloc (Nat.le_refl _) _
  have hs := vat_new (w.alloc (Obj.cells #[.int .i64 S, v1, v2] 25)) [.int .i64 x, .int .i64 y] 27
  rw [e1] at hs
  exact ⟨((Below.refl _ _).alloc (Nat.le_refl _) _).alloc (by rw [e1]; omega) _, (tbox_new w S v1 v2 25).later (hb _ _), hs 0 _ rfl, hs 1 _ rfl⟩
/-- Who is at the other end of the only link. -/
theorem one_peer : peN 2 [((1, 1), (2, 3))] [] (2, 3) = 0 ∧ peV 2 [((1, 1), (2, 3))] [] (2, 3) = (1, 1) := by
  constructor
  · decide
  · decide
theorem pe_0 {S : Int} {Ls : List ((Int × Int) × (Int × Int))} {Hs : List (ByteArray × (Int × Int))} {s : Int × Int} : peN S Ls Hs s = 0 ↔ tpN S Ls Hs = 0 ∧ spB S s = true ∧ (peerO Ls s).isSome = true := by
  unfold peN csN
  by_cases h : tpN S Ls Hs = 0
  · cases hs : spB S s
    · simp [h]
    · cases hp : (peerO Ls s).isSome <;> simp [h]
  · simp [h]
/-- There and back. -/
theorem pe_back {S : Int} {Ls : List ((Int × Int) × (Int × Int))} {Hs : List (ByteArray × (Int × Int))} {s : Int × Int} (h : peN S Ls Hs s = 0) : peN S Ls Hs (peV S Ls Hs s) = 0 ∧ peV S Ls Hs (peV S Ls Hs s) = s ∧ peV S Ls Hs s ≠ s := by
  obtain ⟨h1, h2, h3⟩ := pe_0.1 h
  have ht := tp_0 h1
  obtain ⟨p, hp⟩ := Option.isSome_iff_exists.1 h3
  have e : peV S Ls Hs s = p := by rw [peV, if_pos h, hp]; rfl
  have hb := peer_back ht.2.2.2.1 hp
  have h4 : peN S Ls Hs p = 0 := pe_0.2 ⟨h1, ht.2.2.1 p (peer_in hp).2, by rw [hb.1]; rfl⟩
  rw [e]
  refine ⟨h4, ?_, hb.2⟩
  rw [peV, if_pos h4, hb.1]
  rfl
/-- A host is where it is. -/
theorem we_at {S : Int} {Ls : List ((Int × Int) × (Int × Int))} {Hs : List (ByteArray × (Int × Int))} {m : ByteArray} (h : weN S Ls Hs m = 0) : asN S Ls Hs (weV S Ls Hs m) = 0 ∧ asV S Ls Hs (weV S Ls Hs m) = m := by
  have h1 : tpN S Ls Hs = 0 := by
    unfold weN at h
    by_cases e : tpN S Ls Hs = 0
    · exact e
    · rw [if_neg e] at h; exact absurd h e
  have ht := tp_0 h1
  have h3 : ∃ x, whereO Hs m = some x := by
    unfold weN at h
    rw [if_pos h1] at h
    cases hw : whereO Hs m with
    | none => rw [hw] at h; simp at h
    | some x => exact ⟨x, rfl⟩
  obtain ⟨p, hp⟩ := h3
  have e : weV S Ls Hs m = p := by rw [weV, if_pos h, hp]; rfl
  have hnd : (Hs.map (·.2)).Nodup := (List.nodup_append.1 ht.2.2.2.2.2.2).2.1
  have ha := where_at hnd hp
  have hs : spB S p = true := (ht.2.2.2.2.1 _ (where_in hp)).2
  have h4 : asN S Ls Hs p = 0 := by simp [asN, csN, h1, hs, ha]
  rw [e]
  refine ⟨h4, ?_⟩
  rw [asV, if_pos h4, ha]
  rfl

set_option maxHeartbeats 4000000 in
set_option maxRecDepth 100000 in
theorem back_walk (S : Int) (ao : Option Addr) (n cap : Nat) (ao2 : Option Addr) (n2 cap2 : Nat) (Ls : List ((Int × Int) × (Int × Int))) (Hs : List (ByteArray × (Int × Int))) (x y : Int) (m : ByteArray) (a b c : Int) (w : World)
    (hL : GS lnkE w (.slice ao n cap) Ls) (hH : GS hstE w (.slice ao2 n2 cap2) Hs) :
    Calls Try.prog 3 #[.agg #[.int .i64 S, .slice ao n cap, .slice ao2 n2 cap2], .agg #[.int .i64 x, .int .i64 y], .string m, .int .i64 a, .int .i64 b, .int .i64 c] w fun e w' => e = .returned (.bool true) ∧ Below w.heap.size w w' := by
  have HLW : Hid (∀ W, Below w.heap.size w W → GS lnkE W (.slice ao n cap) Ls) := fun W hb => hL.later hb
  have HHW : Hid (∀ W, Below w.heap.size w W → GS hstE W (.slice ao2 n2 cap2) Hs) := fun W hb => hH.later hb
  obtain ⟨w0, hw0⟩ : ∃ W, (w.alloc (Obj.cells #[.int .i64 S, .slice ao n cap, .slice ao2 n2 cap2] 25)).alloc (Obj.cells #[.int .i64 x, .int .i64 y] 27) = W := ⟨_, rfl⟩
  have hK := lbox_new w S (.slice ao n cap) (.slice ao2 n2 cap2) x y
  rw [hw0] at hK
  have HK : Hid (LBox w w0 S (.slice ao n cap) (.slice ao2 n2 cap2) x y) := hK
  clear hL hH hK
  go_enter Try.func3, Try.ntmps3
  go_wp2_with fail
  refine (peer_any 2 (some ⟨w0.heap.size, 0, none⟩) 1 1 none 0 0 [((1, 1), (2, 3))] [] 2 3 _ ((lnk_row w0 1 1 2 3 29).later ((Below.refl _ _).alloc (Nat.le_refl _) _)) (GS.nil _)).mono ?_
  rintro e w2 ⟨rfl, hb2⟩
  rw [one_peer.1, one_peer.2, no_ok rfl]
  have hK2 : LBox w w2 S (.slice ao n cap) (.slice ao2 n2 cap2) x y := ((HK.out.alloc _).alloc _).later hb2
  have HK2 : Hid (LBox w (w2.alloc (Obj.cells #[.int .i64 1, .int .i64 1] 27)) S (.slice ao n cap) (.slice ao2 n2 cap2) x y) := hK2.alloc _
  clear hb2 hK2 HK
  go_upto_region 5 with fail
  obtain ⟨w3, hw3⟩ : ∃ W, w2.alloc (Obj.cells #[.int .i64 1, .int .i64 1] 27) = W := ⟨_, rfl⟩
  rw [hw3] at HK2 ⊢
  clear hw3
  obtain ⟨R1, hR1⟩ : ∃ R, R = peN S Ls Hs (x, y) := ⟨_, rfl⟩
  obtain ⟨P1, hP1⟩ : ∃ R, R = (peV S Ls Hs (x, y)).1 := ⟨_, rfl⟩
  obtain ⟨P2, hP2⟩ : ∃ R, R = (peV S Ls Hs (x, y)).2 := ⟨_, rfl⟩
  have HR1 : Hid (R1 = peN S Ls Hs (x, y)) := hR1
  have HP1 : Hid (P1 = (peV S Ls Hs (x, y)).1) := hP1
  have HP2 : Hid (P2 = (peV S Ls Hs (x, y)).2) := hP2
  clear hR1 hP1 hP2
  go_cut [16, 17] from 13 (fun p e w' => LBox w w' S (.slice ao n cap) (.slice ao2 n2 cap2) x y ∧ e = noV R1 ∧ ∃ g, p = .pointer (some ⟨g, 0, none⟩) ∧ w'.cell? ⟨g, 0, none⟩ = some (.int .i64 P1) ∧ w'.cell? ⟨g, 1, none⟩ = some (.int .i64 P2))
  case first =>
    as_aux_lemma =>
      obtain ⟨_, ⟨b0, b1, b2⟩, s0, s1⟩ := HK2.out
      go_wp2_with fail
      refine (peer_any S ao n cap ao2 n2 cap2 Ls Hs x y _ (HLW.out _ HK2.out.below) (HHW.out _ HK2.out.below)).mono ?_
      rintro e w4 ⟨rfl, hb4⟩
      rw [← HR1.out, ← HP1.out, ← HP2.out]
      go_wp2_with fail
      go_meet
      case rel => exact ⟨(HK2.out.later hb4).alloc _, rfl, _, rfl, by simp, by simp⟩
  case rest =>
    clear HK2
    go_upto_region 6 with fail
    go_cut [16, 60] from 13 (fun p q w' => LBox w w' S (.slice ao n cap) (.slice ao2 n2 cap2) x y ∧ q = .bool (decide (R1 = 0)) ∧ ∃ g, p = .pointer (some ⟨g, 0, none⟩) ∧ w'.cell? ⟨g, 0, none⟩ = some (.int .i64 P1) ∧ w'.cell? ⟨g, 1, none⟩ = some (.int .i64 P2))
    case first =>
      as_aux_lemma =>
        obtain ⟨hK, rfl, g, rfl, g0, g1⟩ := hcut
        by_cases h : R1 = 0
        · subst h
          rw [no_ok rfl]
          go_wp2_with fail
          go_meet
          case rel => exact ⟨hK, rfl, g, rfl, g0, g1⟩
        · rw [no_ne h]
          have e : decide (R1 = 0) = false := by simp [h]
          clear h
          go_wp2_with fail
          go_meet
          case rel => exact ⟨hK, by rw [e], g, rfl, g0, g1⟩
    case rest =>
      go_upto_if 60 with fail
      go_cut [] from 13 (fun w' => LBox w w' S (.slice ao n cap) (.slice ao2 n2 cap2) x y)
      case first =>
        as_aux_lemma =>
          obtain ⟨hK, rfl, g, rfl, g0, g1⟩ := hcut
          by_cases h : R1 = 0
          · have e : decide (R1 = 0) = true := by simp [h]
            rw [e]
            obtain ⟨k1, k2, k3⟩ := pe_back (HR1.out.symm.trans h)
            have e3 : peV S Ls Hs (x, y) = (P1, P2) := by rw [HP1.out, HP2.out]
            rw [e3] at k1 k2 k3
            have HQ1 : Hid (peN S Ls Hs (P1, P2) = 0) := k1
            have HQ2 : Hid (peV S Ls Hs (P1, P2) = (x, y)) := k2
            have HKc : Hid (LBox w wc S (.slice ao n cap) (.slice ao2 n2 cap2) x y) := hK
            have hgl : g < wc.heap.size := World.block_lt_of_cell? _ _ g0
            obtain ⟨_, ⟨b0, b1, b2⟩, s0, s1⟩ := hK
            have hne : (P1 == x) = false ∨ ((P1 == x) = true ∧ (P2 == y) = false) := by
              by_cases h1 : P1 = x
              · right
                refine ⟨by simp [h1], ?_⟩
                have : ¬ P2 = y := fun h2 => k3 (by rw [h1, h2])
                simp [this]
              · left; simp [h1]
            clear k1 k2 k3 e e3 h
            rcases hne with hne | ⟨hne, hne2⟩
            · go_wp2_with fail
              refine (peer_any S ao n cap ao2 n2 cap2 Ls Hs P1 P2 _ (HLW.out _ HKc.out.below) (HHW.out _ HKc.out.below)).mono ?_
              rintro e w4 ⟨rfl, hb4⟩
              rw [HQ1.out, HQ2.out, no_ok rfl]
              have hK4 := HKc.out.later hb4
              have HK4 : Hid (LBox w (w4.alloc (Obj.cells #[.int .i64 x, .int .i64 y] 27)) S (.slice ao n cap) (.slice ao2 n2 cap2) x y) := hK4.alloc _
              have c0 := cell_later hb4 g0
              have c1 := cell_later hb4 g1
              have hgl4 : g < w4.heap.size := World.block_lt_of_cell? _ _ c0
              obtain ⟨_, ⟨d0, d1, d2⟩, t0, t1⟩ := hK4
              have htl : w.heap.size + 1 < w4.heap.size := World.block_lt_of_cell? _ _ t0
              clear hb4 b0 b1 b2 s0 s1 g0 g1
              go_wp2_with fail
              go_meet
              case rel => exact HK4.out
            · go_wp2_with fail
              refine (peer_any S ao n cap ao2 n2 cap2 Ls Hs P1 P2 _ (HLW.out _ HKc.out.below) (HHW.out _ HKc.out.below)).mono ?_
              rintro e w4 ⟨rfl, hb4⟩
              rw [HQ1.out, HQ2.out, no_ok rfl]
              have hK4 := HKc.out.later hb4
              have HK4 : Hid (LBox w (w4.alloc (Obj.cells #[.int .i64 x, .int .i64 y] 27)) S (.slice ao n cap) (.slice ao2 n2 cap2) x y) := hK4.alloc _
              have c0 := cell_later hb4 g0
              have c1 := cell_later hb4 g1
              have hgl4 : g < w4.heap.size := World.block_lt_of_cell? _ _ c0
              obtain ⟨_, ⟨d0, d1, d2⟩, t0, t1⟩ := hK4
              have htl : w.heap.size + 1 < w4.heap.size := World.block_lt_of_cell? _ _ t0
              clear hb4 b0 b1 b2 s0 s1 g0 g1
              go_wp2_with fail
              go_meet
              case rel => exact HK4.out
          · have e : decide (R1 = 0) = false := by simp [h]
            rw [e]
            clear h
            go_wp2_with fail
            go_meet
            case rel => exact hK
      case rest =>
        clear HR1 HP1 HP2
        go_upto_region 10 with fail
        obtain ⟨R2, hR2⟩ : ∃ R, R = weN S Ls Hs m := ⟨_, rfl⟩
        obtain ⟨Q1, hQ1⟩ : ∃ R, R = (weV S Ls Hs m).1 := ⟨_, rfl⟩
        obtain ⟨Q2, hQ2⟩ : ∃ R, R = (weV S Ls Hs m).2 := ⟨_, rfl⟩
        have HR2 : Hid (R2 = weN S Ls Hs m) := hR2
        have HQ1 : Hid (Q1 = (weV S Ls Hs m).1) := hQ1
        have HQ2 : Hid (Q2 = (weV S Ls Hs m).2) := hQ2
        clear hR2 hQ1 hQ2
        go_cut [20, 17] from 13 (fun p e w' => LBox w w' S (.slice ao n cap) (.slice ao2 n2 cap2) x y ∧ e = noV R2 ∧ ∃ g, p = .pointer (some ⟨g, 0, none⟩) ∧ w'.cell? ⟨g, 0, none⟩ = some (.int .i64 Q1) ∧ w'.cell? ⟨g, 1, none⟩ = some (.int .i64 Q2))
        case first =>
          as_aux_lemma =>
            have HKc : Hid (LBox w wc S (.slice ao n cap) (.slice ao2 n2 cap2) x y) := hcut
            obtain ⟨_, ⟨b0, b1, b2⟩, s0, s1⟩ := hcut
            go_wp2_with fail
            refine (where_any S ao n cap ao2 n2 cap2 Ls Hs m _ (HLW.out _ HKc.out.below) (HHW.out _ HKc.out.below)).mono ?_
            rintro e w4 ⟨rfl, hb4⟩
            rw [← HR2.out, ← HQ1.out, ← HQ2.out]
            go_wp2_with fail
            go_meet
            case rel => exact ⟨(HKc.out.later hb4).alloc _, rfl, _, rfl, by simp, by simp⟩
        case rest =>
          go_upto_region 11 with fail
          go_cut [20, 86] from 13 (fun p q w' => LBox w w' S (.slice ao n cap) (.slice ao2 n2 cap2) x y ∧ q = .bool (decide (R2 = 0)) ∧ ∃ g, p = .pointer (some ⟨g, 0, none⟩) ∧ w'.cell? ⟨g, 0, none⟩ = some (.int .i64 Q1) ∧ w'.cell? ⟨g, 1, none⟩ = some (.int .i64 Q2))
          case first =>
            as_aux_lemma =>
              obtain ⟨hK, rfl, g, rfl, g0, g1⟩ := hcut
              by_cases h : R2 = 0
              · subst h
                rw [no_ok rfl]
                go_wp2_with fail
                go_meet
                case rel => exact ⟨hK, rfl, g, rfl, g0, g1⟩
              · rw [no_ne h]
                have e : decide (R2 = 0) = false := by simp [h]
                clear h
                go_wp2_with fail
                go_meet
                case rel => exact ⟨hK, by rw [e], g, rfl, g0, g1⟩
          case rest =>
            go_upto_if 86 with fail
            go_cut [] from 13 (fun w' => LBox w w' S (.slice ao n cap) (.slice ao2 n2 cap2) x y)
            case first =>
              as_aux_lemma =>
                obtain ⟨hK, rfl, g, rfl, g0, g1⟩ := hcut
                by_cases h : R2 = 0
                · have e : decide (R2 = 0) = true := by simp [h]
                  rw [e]
                  obtain ⟨k1, k2⟩ := we_at (HR2.out.symm.trans h)
                  have e3 : weV S Ls Hs m = (Q1, Q2) := by rw [HQ1.out, HQ2.out]
                  rw [e3] at k1 k2
                  have HA1 : Hid (asN S Ls Hs (Q1, Q2) = 0) := k1
                  have HA2 : Hid (asV S Ls Hs (Q1, Q2) = m) := k2
                  have HKc : Hid (LBox w wc S (.slice ao n cap) (.slice ao2 n2 cap2) x y) := hK
                  obtain ⟨_, ⟨b0, b1, b2⟩, s0, s1⟩ := hK
                  clear k1 k2 e e3 h
                  go_wp2_with fail
                  refine (at_any S ao n cap ao2 n2 cap2 Ls Hs Q1 Q2 _ (HLW.out _ HKc.out.below) (HHW.out _ HKc.out.below)).mono ?_
                  rintro e w4 ⟨rfl, hb4⟩
                  rw [HA1.out, HA2.out, no_ok rfl]
                  have HK4 : Hid (LBox w w4 S (.slice ao n cap) (.slice ao2 n2 cap2) x y) := HKc.out.later hb4
                  clear hb4
                  go_wp2_with fail
                  go_meet
                  case rel => exact HK4.out
                · have e : decide (R2 = 0) = false := by simp [h]
                  rw [e]
                  clear h
                  go_wp2_with fail
                  go_meet
                  case rel => exact hK
            case rest =>
              clear HR2 HQ1 HQ2
              obtain ⟨R3, hR3⟩ : ∃ R, fsN S Ls Hs a b = R := ⟨_, rfl⟩
              obtain ⟨V3, hV3⟩ : ∃ R, fsV S Ls Hs a b = R := ⟨_, rfl⟩
              obtain ⟨R6, hR6⟩ : ∃ R, fsN S Ls Hs b a = R := ⟨_, rfl⟩
              obtain ⟨V6, hV6⟩ : ∃ R, fsV S Ls Hs b a = R := ⟨_, rfl⟩
              obtain ⟨R4, hR4⟩ : ∃ R, fsN S Ls Hs a c = R := ⟨_, rfl⟩
              obtain ⟨V4, hV4⟩ : ∃ R, fsV S Ls Hs a c = R := ⟨_, rfl⟩
              obtain ⟨R5, hR5⟩ : ∃ R, fsN S Ls Hs c b = R := ⟨_, rfl⟩
              obtain ⟨V5, hV5⟩ : ∃ R, fsV S Ls Hs c b = R := ⟨_, rfl⟩
              have HR3 : Hid (fsN S Ls Hs a b = R3) := hR3
              have HV3 : Hid (fsV S Ls Hs a b = V3) := hV3
              have HR6 : Hid (fsN S Ls Hs b a = R6) := hR6
              have HV6 : Hid (fsV S Ls Hs b a = V6) := hV6
              have HR4 : Hid (fsN S Ls Hs a c = R4) := hR4
              have HV4 : Hid (fsV S Ls Hs a c = V4) := hV4
              have HR5 : Hid (fsN S Ls Hs c b = R5) := hR5
              have HV5 : Hid (fsV S Ls Hs c b = V5) := hV5
              have HSY : Hid ((R3 = 0 ↔ R6 = 0) ∧ V3 = V6) := by
                have h := fs_sy S Ls Hs a b
                rw [hR3, hV3, hR6, hV6] at h
                exact h
              have HTR : Hid (R4 = 0 → R5 = 0 → R3 = 0 ∧ V3 ≤ V4 + V5) := fun e4 e5 => by
                have h := fs_tr (S := S) (Ls := Ls) (Hs := Hs) (a := a) (b := b) (c := c) (hR4.trans e4) (hR5.trans e5)
                rw [hR3, hV3, hV4, hV5] at h
                exact h
              have HSA : Hid (R3 = 0 → 0 < V3 ∨ a = b) := fun e3 => by
                have h := fs_same (hR3.trans e3)
                rw [hV3] at h
                exact h
              have HLV : Hid (0 ≤ V4 + V5 ∧ V4 + V5 ≤ 12) := by
                have h4 := fv_lt S Ls Hs a c
                have h5 := fv_lt S Ls Hs c b
                rw [hV4] at h4
                rw [hV5] at h5
                exact ⟨by omega, by omega⟩
              clear hR3 hV3 hR4 hV4 hR5 hV5 hR6 hV6
              go_upto_region 15 with fail
              go_cut [23, 17] from 13 (fun v e w' => LBox w w' S (.slice ao n cap) (.slice ao2 n2 cap2) x y ∧ e = noV R3 ∧ v = .int .i64 V3)
              case first =>
                as_aux_lemma =>
                  have HKc : Hid (LBox w wc S (.slice ao n cap) (.slice ao2 n2 cap2) x y) := hcut
                  obtain ⟨_, ⟨b0, b1, b2⟩, s0, s1⟩ := hcut
                  go_wp2_with fail
                  refine (far_any S ao n cap ao2 n2 cap2 Ls Hs a b _ (HLW.out _ HKc.out.below) (HHW.out _ HKc.out.below)).mono ?_
                  rintro e w4 ⟨rfl, hb4⟩
                  rw [HR3.out, HV3.out]
                  go_wp2_with fail
                  go_meet
                  case rel => exact ⟨HKc.out.later hb4, rfl, rfl⟩
              case rest =>
                go_upto_region 16 with fail
                go_cut [23, 17, 24, 25] from 13 (fun v e u f w' => LBox w w' S (.slice ao n cap) (.slice ao2 n2 cap2) x y ∧ e = noV R3 ∧ v = .int .i64 V3 ∧ f = noV R6 ∧ u = .int .i64 V6)
                case first =>
                  as_aux_lemma =>
                    obtain ⟨hcut, rfl, rfl⟩ := hcut
                    have HKc : Hid (LBox w wc S (.slice ao n cap) (.slice ao2 n2 cap2) x y) := hcut
                    obtain ⟨_, ⟨b0, b1, b2⟩, s0, s1⟩ := hcut
                    go_wp2_with fail
                    refine (far_any S ao n cap ao2 n2 cap2 Ls Hs b a _ (HLW.out _ HKc.out.below) (HHW.out _ HKc.out.below)).mono ?_
                    rintro e w4 ⟨rfl, hb4⟩
                    rw [HR6.out, HV6.out]
                    go_wp2_with fail
                    go_meet
                    case rel => exact ⟨HKc.out.later hb4, rfl, rfl, rfl, rfl⟩
                case rest =>
                  go_upto_region 17 with fail
                  go_cut [23, 17, 123] from 13 (fun v e q w' => LBox w w' S (.slice ao n cap) (.slice ao2 n2 cap2) x y ∧ e = noV R3 ∧ v = .int .i64 V3 ∧ q = .bool false)
                  case first =>
                    as_aux_lemma =>
                      obtain ⟨hK, rfl, rfl, rfl, rfl⟩ := hcut
                      have hv : V3 = V6 := HSY.out.2
                      subst hv
                      by_cases h : R3 = 0
                      · have h6 : R6 = 0 := HSY.out.1.1 h
                        subst h h6
                        rw [no_ok rfl]
                        go_region
                        go_wp2_with fail
                        go_meet
                        case rel => exact ⟨hK.later (Below.drew (Below.refl _ _)), rfl, rfl, rfl⟩
                      · have h6 : R6 ≠ 0 := fun e => h (HSY.out.1.2 e)
                        have e3 := no_ne h
                        rw [no_ne h6, e3]
                        have HE3 : Hid (noV R3 = .iface 66 (.int .i64 R3)) := e3
                        clear h h6 e3
                        go_region
                        go_wp2_with fail
                        go_meet
                        case rel => exact ⟨hK.later (Below.drew (Below.refl _ _)), HE3.out.symm, rfl, rfl⟩
                  case rest =>
                    obtain ⟨hK, rfl, rfl, rfl⟩ := hcut
                    go_upto_region 19 with fail
                    go_cut [23, 17, 26, 27] from 13 (fun v e u f w' => LBox w w' S (.slice ao n cap) (.slice ao2 n2 cap2) x y ∧ e = noV R3 ∧ v = .int .i64 V3 ∧ f = noV R4 ∧ u = .int .i64 V4)
                    case first =>
                      as_aux_lemma =>
                        have HKc : Hid (LBox w wc S (.slice ao n cap) (.slice ao2 n2 cap2) x y) := hK
                        obtain ⟨_, ⟨b0, b1, b2⟩, s0, s1⟩ := hK
                        go_wp2_with fail
                        refine (far_any S ao n cap ao2 n2 cap2 Ls Hs a c _ (HLW.out _ HKc.out.below) (HHW.out _ HKc.out.below)).mono ?_
                        rintro e w4 ⟨rfl, hb4⟩
                        rw [HR4.out, HV4.out]
                        go_wp2_with fail
                        go_meet
                        case rel => exact ⟨HKc.out.later hb4, rfl, rfl, rfl, rfl⟩
                    case rest =>
                      clear hK
                      go_upto_region 20 with fail
                      go_cut [23, 17, 26, 27, 28, 29] from 13 (fun v e u f t h w' => LBox w w' S (.slice ao n cap) (.slice ao2 n2 cap2) x y ∧ e = noV R3 ∧ v = .int .i64 V3 ∧ f = noV R4 ∧ u = .int .i64 V4 ∧ h = noV R5 ∧ t = .int .i64 V5)
                      case first =>
                        as_aux_lemma =>
                          obtain ⟨hcut, rfl, rfl, rfl, rfl⟩ := hcut
                          have HKc : Hid (LBox w wc S (.slice ao n cap) (.slice ao2 n2 cap2) x y) := hcut
                          obtain ⟨_, ⟨b0, b1, b2⟩, s0, s1⟩ := hcut
                          go_wp2_with fail
                          refine (far_any S ao n cap ao2 n2 cap2 Ls Hs c b _ (HLW.out _ HKc.out.below) (HHW.out _ HKc.out.below)).mono ?_
                          rintro e w4 ⟨rfl, hb4⟩
                          rw [HR5.out, HV5.out]
                          go_wp2_with fail
                          go_meet
                          case rel => exact ⟨HKc.out.later hb4, rfl, rfl, rfl, rfl, rfl, rfl⟩
                      case rest =>
                        obtain ⟨hK, rfl, rfl, rfl, rfl, rfl, rfl⟩ := hcut
                        have HKc : Hid (LBox w wc S (.slice ao n cap) (.slice ao2 n2 cap2) x y) := hK
                        have hwr : IntKind.i64.wrap (V4 + V5) = V4 + V5 := wrap_small (by have := HLV.out; omega) (by have := HLV.out; omega)
                        clear hK
                        have final : ∀ q : Bool, (0 < V3 ∧ q = true) ∨ (¬ 0 < V3 ∧ q = false ∧ (a == b) = true) → True := fun _ _ => trivial
                        clear final
                        by_cases h3 : R3 = 0
                        · have hs := HSA.out h3
                          have htr := HTR.out
                          subst h3
                          have hs2 : 0 < V3 ∨ (¬ 0 < V3 ∧ (a == b) = true) := by
                            by_cases hv : 0 < V3
                            · exact .inl hv
                            · refine .inr ⟨hv, ?_⟩
                              rcases hs with hs | hs
                              · exact absurd hs hv
                              · simp [hs]
                          clear hs HSY HTR HSA
                          by_cases h4 : R4 = 0
                          · by_cases h5 : R5 = 0
                            · have hle := (htr h4 h5).2
                              subst h4 h5
                              rw [no_ok rfl]
                              clear htr
                              rcases hs2 with hs | ⟨hs, hab⟩
                              · go_wp2
                                go_ret
                                exact ⟨rfl, HKc.out.below⟩
                              · go_wp2
                                go_ret
                                exact ⟨rfl, HKc.out.below⟩
                            · subst h4
                              rw [no_ok rfl, no_ne h5]
                              clear htr h5
                              rcases hs2 with hs | ⟨hs, hab⟩
                              · go_wp2
                                go_ret
                                exact ⟨rfl, HKc.out.below⟩
                              · go_wp2
                                go_ret
                                exact ⟨rfl, HKc.out.below⟩
                          · rw [no_ok rfl, no_ne h4]
                            clear htr h4
                            rcases hs2 with hs | ⟨hs, hab⟩
                            · go_wp2
                              go_ret
                              exact ⟨rfl, HKc.out.below⟩
                            · go_wp2
                              go_ret
                              exact ⟨rfl, HKc.out.below⟩
                        · by_cases h4 : R4 = 0
                          · by_cases h5 : R5 = 0
                            · exact absurd (HTR.out h4 h5).1 h3
                            · subst h4
                              rw [no_ok rfl, no_ne h5, no_ne h3]
                              clear h5 h3 HSY HTR HSA
                              go_wp2
                              go_ret
                              exact ⟨rfl, HKc.out.below⟩
                          · rw [no_ne h4, no_ne h3]
                            clear h4 h3 HSY HTR HSA
                            go_wp2
                            go_ret
                            exact ⟨rfl, HKc.out.below⟩
end Go.Proofs.Ytfbocionnjlilac
