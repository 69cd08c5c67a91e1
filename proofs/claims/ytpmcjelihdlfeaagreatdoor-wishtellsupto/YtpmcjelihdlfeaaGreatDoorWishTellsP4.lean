/- Contracts and facts on the way to WishTells, joined into one text: RefPeer, CubeCon, CubeHas, RefCube, RuleCon, RuleTab, RuleTwo, RuleText, RuleRefMath, RefFind, RefBit, RefTurned, NetRefMath, NetMath4, RuleTab2, NetCheck, RuleOrder. -/
import Derived.Test.YtpmcjelihdlfeaaGreatDoorWishTellsP3
import Derived.Test.YtpmcjelihdlfeaaGreatDoorWishTellsP1
import Derived.Test.YtpmcjelihdlfeaaGreatDoorWishTellsP2
import Derived.Test.YtpmcjelihdlfeaaGreatDoorRows
import Derived.WalkKit
import Derived.WalkSpells
import Derived.Below
import Derived.Shelf.Abstract
import Derived.Lib.Bytealg
import Derived.Lib.IndexLaws
import Derived.Deep.CutRange
import Derived.Deep.CutBlock
import Derived.BigQuiet
import Derived.Deep.QuietTactic
import Derived.Deep.RegionHeld3
/- What railref1.Peer answers: a contract for the walks above it. -/
namespace Go.Proofs.YtpmcjelihdlfeaaGreatDoor
open Go.RowKit
set_option linter.unusedSimpArgs false
set_option linter.unusedVariables false

/-- The boxes: a topology, a spot, the answer's. -/
structure B3 (w W : World) (S : Int) (v1 v2 : Value) (x y : Int) : Prop where
  b : B2 w W S v1 v2 x y
  r0 : W.cell? ⟨w.heap.size + 1 + 1, 0, none⟩ = some (.int .i64 0)
  r1 : W.cell? ⟨w.heap.size + 1 + 1, 1, none⟩ = some (.int .i64 0)
  f : ∀ i, W.frozen? ⟨w.heap.size + 1 + 1, i, none⟩ = false
theorem B3.later {w W W' : World} {S : Int} {v1 v2 : Value} {x y : Int} (h : B3 w W S v1 v2 x y) (hb : Below W.heap.size W W') : B3 w W' S v1 v2 x y :=
  ⟨h.b.later hb, cell_later hb h.r0, cell_later hb h.r1, fun i => (hb.frozen (p := ⟨w.heap.size + 1 + 1, i, none⟩) (show (⟨w.heap.size + 1 + 1, 0, none⟩ : Addr).block < W.heap.size from World.block_lt_of_cell? W ⟨w.heap.size + 1 + 1, 0, none⟩ h.r0)).trans (h.f i)⟩
theorem b3_new (w : World) (S : Int) (v1 v2 : Value) (x y : Int) : B3 w (((w.alloc (Obj.cells #[.int .i64 S, v1, v2] 25)).alloc (Obj.cells #[.int .i64 x, .int .i64 y] 80)).alloc (Obj.cells #[.int .i64 0, .int .i64 0] 80)) S v1 v2 x y := by
  have h := b2_new w S v1 v2 x y
  have e2 : ((w.alloc (Obj.cells #[.int .i64 S, v1, v2] 25)).alloc (Obj.cells #[.int .i64 x, .int .i64 y] 80)).heap.size = w.heap.size + 1 + 1 := by simp
  generalize (w.alloc (Obj.cells #[.int .i64 S, v1, v2] 25)).alloc (Obj.cells #[.int .i64 x, .int .i64 y] 80) = X at h e2
  have hs := vat_new X [.int .i64 0, .int .i64 0] 80
  have hf : ∀ k, (X.alloc (Obj.cells #[.int .i64 0, .int .i64 0] 80)).frozen? ⟨X.heap.size, k, none⟩ = false := fun k => by simp
  rw [e2] at hs hf
  exact ⟨h.later ((Below.refl _ _).alloc (Nat.le_refl _) _), hs 0 _ rfl, hs 1 _ rfl, hf⟩
theorem below2 {w W : World} (h : Below w.heap.size w W) (g : Nat) (hg : w.heap.size ≤ g) (u v : Value) : Below w.heap.size w ((W.setCell ⟨g, 0, none⟩ u).setCell ⟨g, 1, none⟩ v) := (h.setCell (p := ⟨g, 0, none⟩) hg u).setCell (p := ⟨g, 1, none⟩) hg v
theorem peer_at {Ls : List ((Int × Int) × (Int × Int))} {k : Nat} (hk : k < Ls.length) {s : Int × Int} : peerO (Ls.drop k) s = if (Ls[k]).1 == s then some (Ls[k]).2 else if (Ls[k]).2 == s then some (Ls[k]).1 else peerO (Ls.drop (k + 1)) s := by
  rw [List.drop_eq_getElem_cons hk]
  rfl

theorem eq_ways2 {a b : Bool} (h : (a && b) = false) : (a = true ∧ b = false) ∨ a = false := by
  cases a
  · exact .inr rfl
  · exact .inl ⟨rfl, by simpa using h⟩
set_option maxHeartbeats 4000000 in
set_option maxRecDepth 100000 in
theorem rpeer_any (S : Int) (ao : Option Addr) (n cap : Nat) (ao2 : Option Addr) (n2 cap2 : Nat) (Ls : List ((Int × Int) × (Int × Int))) (x y : Int) (w : World) (hL : GS lnkE w (.slice ao n cap) Ls) :
    Calls Tryz.prog 89 #[.agg #[.int .i64 S, .slice ao n cap, .slice ao2 n2 cap2], .agg #[.int .i64 x, .int .i64 y]] w fun e w' => e = .returned (.tuple #[.agg #[.int .i64 ((peerO Ls (x, y)).getD (0, 0)).1, .int .i64 ((peerO Ls (x, y)).getD (0, 0)).2], .bool (peerO Ls (x, y)).isSome]) ∧ Below w.heap.size w w' := by
  obtain ⟨_, _, _, e1, hLn, hLm, _, hLa⟩ := hL.form
  cases e1
  have HLN : Hid (Ls.length = n) := hLn
  have n63 : n ≤ 9223372036854775807 := by unfold maxLen at hLm; omega
  have HLA : Hid (0 < n → ∃ g o, ao = some ⟨g, o, none⟩ ∧ GAt lnkE w g o Ls ∧ cap ≤ maxLen) := hLa
  obtain ⟨P, hP⟩ : ∃ P, P = peerO Ls (x, y) := ⟨_, rfl⟩
  have HP : Hid (P = peerO Ls (x, y)) := hP
  rw [← hP]
  have hX := b3_new w S (.slice ao n cap) (.slice ao2 n2 cap2) x y
  obtain ⟨w0, hw0⟩ : ∃ W, ((w.alloc (Obj.cells #[.int .i64 S, .slice ao n cap, .slice ao2 n2 cap2] 25)).alloc (Obj.cells #[.int .i64 x, .int .i64 y] 80)).alloc (Obj.cells #[.int .i64 0, .int .i64 0] 80) = W := ⟨_, rfl⟩
  rw [hw0] at hX
  have HX : Hid (B3 w w0 S (.slice ao n cap) (.slice ao2 n2 cap2) x y) := hX
  have HW0 : Hid (((w.alloc (Obj.cells #[.int .i64 S, .slice ao n cap, .slice ao2 n2 cap2] 25)).alloc (Obj.cells #[.int .i64 x, .int .i64 y] 80)).alloc (Obj.cells #[.int .i64 0, .int .i64 0] 80) = w0) := hw0
  clear hL hLn hLm hLa hP hX hw0
  go_enter Tryz.func89, Tryz.ntmps89
  go_wp2
  rw [HW0.out]
  go_loopw [6] (fun i wr => ∃ k : Nat, k ≤ n ∧ i = .int .i64 k ∧ P = peerO (Ls.drop k) (x, y) ∧ B3 w wr S (.slice ao n cap) (.slice ao2 n2 cap2) x y) (fun i _ => n - (intOf i).toNat)
  case atStart => exact ⟨0, by omega, rfl, HP.out, HX.out⟩
  case round =>
    obtain ⟨k, hk, rfl, hpk, hXr⟩ := hrel
    have HX2 : Hid (B3 w wr S (.slice ao n cap) (.slice ao2 n2 cap2) x y) := hXr
    have HPK : Hid (P = peerO (Ls.drop k) (x, y)) := hpk
    have HB : Hid (Below w.heap.size w wr) := hXr.b.below
    obtain ⟨⟨_, ⟨b0, b1, b2⟩, s0, s1⟩, r0, r1, f⟩ := hXr
    have hlt1 : w.heap.size < wr.heap.size := World.block_lt_of_cell? _ _ b0
    have hlt2 : w.heap.size + 1 < wr.heap.size := World.block_lt_of_cell? _ _ s0
    have hlt3 : w.heap.size + 1 + 1 < wr.heap.size := World.block_lt_of_cell? _ _ r0
    have f0 := f 0
    have f1 := f 1
    clear hpk HW0 HX HP f
    by_cases hlt : k < n
    · obtain ⟨g, o, hao, hc, _⟩ := HLA.out (by omega)
      subst hao
      obtain ⟨x0, x1, x2, x3, hkl, hLk, q0, q1, q2, q3⟩ := lnk_at (hc.later HB.out) HLN.out hlt
      have hgl : g < wr.heap.size := World.block_lt_of_cell? _ _ q0
      have HST : Hid (P = if (x0 == x && x1 == y) = true then some (x2, x3) else if (x2 == x && x3 == y) = true then some (x0, x1) else peerO (Ls.drop (k + 1)) (x, y)) := by
        show _ = _
        rw [HPK.out, peer_at hkl, hLk]
        rfl
      clear hLk hc
      cases ho : (x0 == x && x1 == y)
      · have HNO : Hid ((x0 == x && x1 == y) = false) := ho
        cases hu : (x2 == x && x3 == y)
        · have HP1 : Hid (P = peerO (Ls.drop (k + 1)) (x, y)) := by
            show _ = _
            rw [HST.out, ho, hu]
            rfl
          rcases eq_ways2 ho with ⟨g1, g2⟩ | g1
          · rcases eq_ways2 hu with ⟨g3, g4⟩ | g3
            · go_wp2_with fail
              go_region
              go_wp2_with fail
              go_region
              go_wp2
              go_roundw
              case rel => exact ⟨k + 1, by omega, by go_num, HP1.out, (HX2.out.later (Below.drew (Below.refl _ _))).later (Below.drew (Below.refl _ _))⟩
              case measure => simp [intOf]; omega
            · go_wp2_with fail
              go_region
              go_wp2_with fail
              go_region
              go_wp2
              go_roundw
              case rel => exact ⟨k + 1, by omega, by go_num, HP1.out, (HX2.out.later (Below.drew (Below.refl _ _))).later (Below.drew (Below.refl _ _))⟩
              case measure => simp [intOf]; omega
          · rcases eq_ways2 hu with ⟨g3, g4⟩ | g3
            · go_wp2_with fail
              go_region
              go_wp2_with fail
              go_region
              go_wp2
              go_roundw
              case rel => exact ⟨k + 1, by omega, by go_num, HP1.out, (HX2.out.later (Below.drew (Below.refl _ _))).later (Below.drew (Below.refl _ _))⟩
              case measure => simp [intOf]; omega
            · go_wp2_with fail
              go_region
              go_wp2_with fail
              go_region
              go_wp2
              go_roundw
              case rel => exact ⟨k + 1, by omega, by go_num, HP1.out, (HX2.out.later (Below.drew (Below.refl _ _))).later (Below.drew (Below.refl _ _))⟩
              case measure => simp [intOf]; omega
        · have HP1 : Hid (P = some (x0, x1)) := by
            show _ = _
            rw [HST.out, ho, hu]
            rfl
          rw [Bool.and_eq_true] at hu
          obtain ⟨g3, g4⟩ := hu
          rcases eq_ways2 ho with ⟨g1, g2⟩ | g1
          · go_wp2_with fail
            go_region
            go_wp2_with fail
            go_region
            go_wp2
            refine bodyPost_ret (v := .tuple #[.agg #[.int .i64 x0, .int .i64 x1], .bool true]) (by simp [results, Tryz.results89, go_sem, *]) rfl ⟨by rw [HP1.out]; rfl, below2 (HB.out.trans (((Below.drew (Below.drew (Below.refl _ _))).mono HB.out.size))) _ (by omega) _ _⟩
          · go_wp2_with fail
            go_region
            go_wp2_with fail
            go_region
            go_wp2
            refine bodyPost_ret (v := .tuple #[.agg #[.int .i64 x0, .int .i64 x1], .bool true]) (by simp [results, Tryz.results89, go_sem, *]) rfl ⟨by rw [HP1.out]; rfl, below2 (HB.out.trans (((Below.drew (Below.drew (Below.refl _ _))).mono HB.out.size))) _ (by omega) _ _⟩
      · have HP1 : Hid (P = some (x2, x3)) := by
          show _ = _
          rw [HST.out, ho]
          rfl
        rw [Bool.and_eq_true] at ho
        obtain ⟨g1, g2⟩ := ho
        go_wp2_with fail
        go_region
        go_wp2
        refine bodyPost_ret (v := .tuple #[.agg #[.int .i64 x2, .int .i64 x3], .bool true]) (by simp [results, Tryz.results89, go_sem, *]) rfl ⟨by rw [HP1.out]; rfl, below2 (HB.out.trans ((Below.drew (Below.refl _ _)).mono HB.out.size)) _ (by omega) _ _⟩
    · obtain rfl : k = n := by omega
      have HPN : Hid (P = none) := by
        show _ = _
        rw [HPK.out, ← HLN.out, List.drop_length]
        rfl
      go_wp2
      refine bodyPost_ret (v := .tuple #[.agg #[.int .i64 0, .int .i64 0], .bool false]) (by simp [results, Tryz.results89, go_sem, *]) rfl ⟨by rw [HPN.out]; rfl, below2 HB.out _ (by omega) _ _⟩
end Go.Proofs.YtpmcjelihdlfeaaGreatDoor
/- What each function of package cube answers, called with any cubes: contracts for the walks above them. -/
namespace Go.Proofs.YtpmcjelihdlfeaaGreatDoor
open Go.RowKit
set_option linter.unusedSimpArgs false

theorem bcell {W w1 : World} (hb : Below W.heap.size W w1) : (∀ b o, b < W.heap.size → w1.cell? ⟨b, o, none⟩ = W.cell? ⟨b, o, none⟩) ∧ (∀ b o, b < W.heap.size → w1.frozen? ⟨b, o, none⟩ = W.frozen? ⟨b, o, none⟩) :=
  ⟨fun b o h => hb.cell (p := ⟨b, o, none⟩) h, fun b o h => hb.frozen (p := ⟨b, o, none⟩) h⟩

/-- What a call left alone below B: cells and marks. -/
theorem bcellB {B : Nat} {W w1 : World} (hb : Below B W w1) : (∀ b o, b < B → w1.cell? ⟨b, o, none⟩ = W.cell? ⟨b, o, none⟩) ∧ (∀ b o, b < B → w1.frozen? ⟨b, o, none⟩ = W.frozen? ⟨b, o, none⟩) :=
  ⟨fun b o h => hb.cell (p := ⟨b, o, none⟩) h, fun b o h => hb.frozen (p := ⟨b, o, none⟩) h⟩

set_option maxHeartbeats 400000 in
theorem isHeader_yes (n : Int) (w : World) (h : hdrB n = true) :
    Calls Tryz.prog 118 #[.int .i64 n] w fun e w' => e = .returned (.bool true) ∧ w' = w := by
  obtain ⟨h1, h2⟩ := hdr_of h
  clear h
  go_enter Tryz.func118, Tryz.ntmps118
  go_wp2
  go_ret
  exact ⟨rfl, rfl⟩

set_option maxHeartbeats 400000 in
theorem isHeader_no (n : Int) (w : World) (h : hdrB n = false) :
    Calls Tryz.prog 118 #[.int .i64 n] w fun e w' => e = .returned (.bool false) ∧ w' = w := by
  rcases hdr_no h with h1 | h1
  · clear h
    go_enter Tryz.func118, Tryz.ntmps118
    go_wp2
    go_ret
    exact ⟨rfl, rfl⟩
  · have h2 : 0 ≤ n := by omega
    have h3 : decide (n < 16) = false := by simp; omega
    clear h
    go_enter Tryz.func118, Tryz.ntmps118
    go_wp2
    go_ret
    exact ⟨rfl, rfl⟩

set_option maxHeartbeats 400000 in
theorem check_range (m b : Int) (w : World) (h : rngB m b = false) :
    Calls Tryz.prog 119 #[.agg #[.int .i64 m, .int .i64 b]] w fun e w' => e = .returned (.iface 57 (.int .i64 1)) ∧ Below w.heap.size w w' := by
  by_cases hm : hdrB m = true
  · have hb : hdrB b = false := by simpa [rngB, hm] using h
    clear h
    go_enter Tryz.func119, Tryz.ntmps119
    go_wp2_with fail
    refine (isHeader_yes _ _ hm).mono ?_
    rintro e w' ⟨rfl, rfl⟩
    go_wp2_with fail
    refine (isHeader_no _ _ hb).mono ?_
    rintro e w' ⟨rfl, rfl⟩
    go_wp2
    go_ret
    exact ⟨rfl, (Below.refl _ _).alloc (Nat.le_refl _) _⟩
  · have hm' : hdrB m = false := by simpa using hm
    clear h hm
    go_enter Tryz.func119, Tryz.ntmps119
    go_wp2_with fail
    refine (isHeader_no _ _ hm').mono ?_
    rintro e w' ⟨rfl, rfl⟩
    go_wp2
    go_ret
    exact ⟨rfl, (Below.refl _ _).alloc (Nat.le_refl _) _⟩

set_option maxHeartbeats 400000 in
theorem check_shape (m b : Int) (w : World) (h : rngB m b = true) (h2 : okB m b = false) :
    Calls Tryz.prog 119 #[.agg #[.int .i64 m, .int .i64 b]] w fun e w' => e = .returned (.iface 57 (.int .i64 3)) ∧ Below w.heap.size w w' := by
  have hm : hdrB m = true := by simp only [rngB, Bool.and_eq_true] at h; exact h.1
  have hb : hdrB b = true := by simp only [rngB, Bool.and_eq_true] at h; exact h.2
  have hz : (bits .andNot .i64 b m == 0) = false := by simpa [okB, h] using h2
  clear h h2
  go_enter Tryz.func119, Tryz.ntmps119
  go_wp2_with fail
  refine (isHeader_yes _ _ hm).mono ?_
  rintro e w' ⟨rfl, rfl⟩
  go_wp2_with fail
  refine (isHeader_yes _ _ hb).mono ?_
  rintro e w' ⟨rfl, rfl⟩
  go_wp2
  go_ret
  exact ⟨rfl, (Below.refl _ _).alloc (Nat.le_refl _) _⟩

set_option maxHeartbeats 400000 in
theorem check_ok (m b : Int) (w : World) (h : okB m b = true) :
    Calls Tryz.prog 119 #[.agg #[.int .i64 m, .int .i64 b]] w fun e w' => e = .returned .nilIface ∧ Below w.heap.size w w' := by
  have hm : hdrB m = true := hdr_mk (ok_of h).1
  have hb : hdrB b = true := hdr_mk (ok_of h).2
  have hz : (bits .andNot .i64 b m == 0) = true := by simp only [okB, Bool.and_eq_true] at h; exact h.2
  clear h
  go_enter Tryz.func119, Tryz.ntmps119
  go_wp2_with fail
  refine (isHeader_yes _ _ hm).mono ?_
  rintro e w' ⟨rfl, rfl⟩
  go_wp2_with fail
  refine (isHeader_yes _ _ hb).mono ?_
  rintro e w' ⟨rfl, rfl⟩
  go_wp2
  go_ret
  exact ⟨rfl, (Below.refl _ _).alloc (Nat.le_refl _) _⟩

set_option maxHeartbeats 400000 in
theorem isRight_any (m b : Int) (w : World) :
    Calls Tryz.prog 142 #[.agg #[.int .i64 m, .int .i64 b]] w fun e w' => e = .returned (.bool (okB m b)) ∧ Below w.heap.size w w' := by
  cases hr : rngB m b
  · have ho : okB m b = false := by simp [okB, hr]
    rw [ho]
    clear ho
    go_enter Tryz.func142, Tryz.ntmps142
    go_wp2_with fail
    refine (check_range _ _ _ hr).mono ?_
    rintro e w' ⟨rfl, hb⟩
    go_wp2
    go_ret
    exact ⟨rfl, ((Below.refl _ _).alloc (Nat.le_refl _) _).trans (hb.mono (by simp))⟩
  · cases ho : okB m b
    · go_enter Tryz.func142, Tryz.ntmps142
      go_wp2_with fail
      refine (check_shape _ _ _ hr ho).mono ?_
      rintro e w' ⟨rfl, hb⟩
      go_wp2
      go_ret
      exact ⟨rfl, ((Below.refl _ _).alloc (Nat.le_refl _) _).trans (hb.mono (by simp))⟩
    · go_enter Tryz.func142, Tryz.ntmps142
      go_wp2_with fail
      refine (check_ok _ _ _ ho).mono ?_
      rintro e w' ⟨rfl, hb⟩
      go_wp2
      go_ret
      exact ⟨rfl, ((Below.refl _ _).alloc (Nat.le_refl _) _).trans (hb.mono (by simp))⟩

end Go.Proofs.YtpmcjelihdlfeaaGreatDoor
/- What Has of package cube answers, called with any cube and number. -/
namespace Go.Proofs.YtpmcjelihdlfeaaGreatDoor
open Go.RowKit
set_option linter.unusedSimpArgs false

theorem isHeader_any (n : Int) (w : World) :
    Calls Tryz.prog 118 #[.int .i64 n] w fun e w' => e = .returned (.bool (hdrB n)) ∧ w' = w := by
  cases h : hdrB n
  · exact isHeader_no n w h
  · exact isHeader_yes n w h

set_option maxHeartbeats 400000 in
theorem has_any (m b h : Int) (w : World) :
    Calls Tryz.prog 136 #[.agg #[.int .i64 m, .int .i64 b], .int .i64 h] w fun e w' => e = .returned (.bool (hasB m b h)) ∧ Below w.heap.size w w' := by
  cases ho : okB m b
  · have e : hasB m b h = false := by simp [hasB, ho]
    rw [e]; clear e
    go_enter Tryz.func136, Tryz.ntmps136
    go_wp2_with fail
    refine (isRight_any _ _ _).mono ?_
    rintro e w1 ⟨rfl, hb1⟩
    go_wp2
    go_ret
    exact ⟨rfl, ((Below.refl _ _).alloc (Nat.le_refl _) _).trans (hb1.mono (by simp))⟩
  · cases hh : hdrB h
    · have e : hasB m b h = false := by simp [hasB, hh]
      rw [e]; clear e
      go_enter Tryz.func136, Tryz.ntmps136
      go_wp2_with fail
      refine (isRight_any _ _ _).mono ?_
      rintro e w1 ⟨rfl, hb1⟩
      rw [ho]
      go_wp2_with fail
      refine (isHeader_any _ _).mono ?_
      rintro e w' ⟨rfl, rfl⟩
      go_wp2
      go_ret
      exact ⟨rfl, ((Below.refl _ _).alloc (Nat.le_refl _) _).trans (hb1.mono (by simp))⟩
    · have e : hasB m b h = (bits .and .i64 h m == b) := by simp [hasB, hh, ho]
      rw [e]; clear e
      go_enter Tryz.func136, Tryz.ntmps136
      go_wp2_with fail
      refine (isRight_any _ _ _).mono ?_
      rintro e w1 ⟨rfl, hb1⟩
      rw [ho]
      obtain ⟨hc1, hf1⟩ := bcell hb1
      go_wp2_with fail
      refine (isHeader_any _ _).mono ?_
      rintro e w' ⟨rfl, rfl⟩
      go_wp2
      go_ret
      exact ⟨rfl, ((Below.refl _ _).alloc (Nat.le_refl _) _).trans (hb1.mono (by simp))⟩
end Go.Proofs.YtpmcjelihdlfeaaGreatDoor
/- What the document's own functions on one cube answer: contracts for the walks above them. -/
namespace Go.Proofs.YtpmcjelihdlfeaaGreatDoor
open Go.RowKit
set_option linter.unusedSimpArgs false

set_option maxHeartbeats 400000 in
theorem header_yes (n : Int) (w : World) (h : hdrB n = true) :
    Calls Tryz.prog 85 #[.int .i64 n] w fun e w' => e = .returned (.bool true) ∧ w' = w := by
  obtain ⟨h1, h2⟩ := hdr_of h
  clear h
  go_enter Tryz.func85, Tryz.ntmps85
  go_wp2
  go_ret
  exact ⟨rfl, rfl⟩

set_option maxHeartbeats 400000 in
theorem header_no (n : Int) (w : World) (h : hdrB n = false) :
    Calls Tryz.prog 85 #[.int .i64 n] w fun e w' => e = .returned (.bool false) ∧ w' = w := by
  rcases hdr_no h with h1 | h1
  · clear h
    go_enter Tryz.func85, Tryz.ntmps85
    go_wp2
    go_ret
    exact ⟨rfl, rfl⟩
  · have h2 : 0 ≤ n := by omega
    have h3 : decide (n < 16) = false := by simp; omega
    clear h
    go_enter Tryz.func85, Tryz.ntmps85
    go_wp2
    go_ret
    exact ⟨rfl, rfl⟩

theorem header_any (n : Int) (w : World) :
    Calls Tryz.prog 85 #[.int .i64 n] w fun e w' => e = .returned (.bool (hdrB n)) ∧ w' = w := by
  cases h : hdrB n
  · exact header_no n w h
  · exact header_yes n w h

set_option maxHeartbeats 400000 in
theorem refCube_any (m b : Int) (w : World) :
    Calls Tryz.prog 86 #[.agg #[.int .i64 m, .int .i64 b]] w fun e w' => e = .returned (.int .i64 (refN m b)) ∧ Below w.heap.size w w' := by
  cases hr : rngB m b
  · rw [refN_range hr]
    have HH : hdrB m = false ∨ (hdrB m = true ∧ hdrB b = false) := by
      cases h1 : hdrB m
      · exact .inl rfl
      · exact .inr ⟨rfl, by simpa [rngB, h1] using hr⟩
    rcases HH with hm | ⟨hm, hb⟩
    all_goals
      clear hr
      go_enter Tryz.func86, Tryz.ntmps86
      go_wp2_with fail
      refine (header_any _ _).mono ?_
      rintro e w' ⟨rfl, rfl⟩
      go_wp2_with fail
      refine (header_any _ _).mono ?_
      rintro e w' ⟨rfl, rfl⟩
      go_wp2
      go_ret
      exact ⟨rfl, (Below.refl _ _).alloc (Nat.le_refl _) _⟩
  · have hm : hdrB m = true := hdr_mk (rng_of hr).1
    have hb : hdrB b = true := hdr_mk (rng_of hr).2
    cases ho : okB m b
    · rw [refN_shape ho hr]
      have hz : (bits .and .i64 b m == b) = false := by rw [andEq hr, ho]
      clear hr ho
      go_enter Tryz.func86, Tryz.ntmps86
      go_wp2_with fail
      refine (header_any _ _).mono ?_
      rintro e w' ⟨rfl, rfl⟩
      go_wp2_with fail
      refine (header_any _ _).mono ?_
      rintro e w' ⟨rfl, rfl⟩
      go_wp2
      go_ret
      exact ⟨rfl, (Below.refl _ _).alloc (Nat.le_refl _) _⟩
    · rw [refN_ok ho]
      have hz : (bits .and .i64 b m == b) = true := by rw [andEq hr, ho]
      clear hr ho
      go_enter Tryz.func86, Tryz.ntmps86
      go_wp2_with fail
      refine (header_any _ _).mono ?_
      rintro e w' ⟨rfl, rfl⟩
      go_wp2_with fail
      refine (header_any _ _).mono ?_
      rintro e w' ⟨rfl, rfl⟩
      go_wp2
      go_ret
      exact ⟨rfl, (Below.refl _ _).alloc (Nat.le_refl _) _⟩

set_option maxHeartbeats 400000 in
theorem refHas_any (m b h : Int) (w : World) :
    Calls Tryz.prog 115 #[.agg #[.int .i64 m, .int .i64 b], .int .i64 h] w fun e w' => e = .returned (.bool (hasB m b h)) ∧ Below w.heap.size w w' := by
  cases hh : hdrB h
  · have e : hasB m b h = false := by simp [hasB, hh]
    rw [e]; clear e
    go_enter Tryz.func115, Tryz.ntmps115
    go_wp2_with fail
    refine (header_any _ _).mono ?_
    rintro e w' ⟨rfl, rfl⟩
    go_wp2
    go_ret
    exact ⟨rfl, (Below.refl _ _).alloc (Nat.le_refl _) _⟩
  · cases ho : okB m b
    · have e : hasB m b h = false := by simp [hasB, ho]
      have hz : (refN m b == 0) = false := by rw [ok_refN, ho]
      rw [e]; clear e ho
      go_enter Tryz.func115, Tryz.ntmps115
      go_wp2_with fail
      refine (header_any _ _).mono ?_
      rintro e w' ⟨rfl, rfl⟩
      go_wp2_with fail
      refine (refCube_any _ _ _).mono ?_
      rintro e w1 ⟨rfl, hb1⟩
      go_wp2
      go_ret
      exact ⟨rfl, ((Below.refl _ _).alloc (Nat.le_refl _) _).trans (hb1.mono (by simp))⟩
    · have e : hasB m b h = (bits .and .i64 h m == b) := by simp [hasB, hh, ho]
      rw [e, ]; clear e
      go_enter Tryz.func115, Tryz.ntmps115
      go_wp2_with fail
      refine (header_any _ _).mono ?_
      rintro e w' ⟨rfl, rfl⟩
      go_wp2_with fail
      refine (refCube_any _ _ _).mono ?_
      rintro e w1 ⟨rfl, hb1⟩
      rw [refN_ok ho]
      obtain ⟨hc1, hf1⟩ := bcell hb1
      go_wp2
      go_ret
      exact ⟨rfl, ((Below.refl _ _).alloc (Nat.le_refl _) _).trans (hb1.mono (by simp))⟩

end Go.Proofs.YtpmcjelihdlfeaaGreatDoor
/- What Check of package rule answers, called with any rule: contracts for the walks above them. -/
namespace Go.Proofs.YtpmcjelihdlfeaaGreatDoor
open Go.RowKit
set_option linter.unusedSimpArgs false

/-- The cube's error by its number. -/
theorem check_no (m b : Int) (w : World) :
    Calls Tryz.prog 119 #[.agg #[.int .i64 m, .int .i64 b]] w fun e w' => e = .returned (noV (refN m b)) ∧ Below w.heap.size w w' := by
  cases hr : rngB m b
  · have e : noV (refN m b) = .iface 57 (.int .i64 1) := by rw [refN_range hr]; rfl
    rw [e]; exact check_range m b w hr
  · cases ho : okB m b
    · have e : noV (refN m b) = .iface 57 (.int .i64 3) := by rw [refN_shape ho hr]; rfl
      rw [e]; exact check_shape m b w hr ho
    · have e : noV (refN m b) = .nilIface := by rw [refN_ok ho]; rfl
      rw [e]; exact check_ok m b w ho

theorem below1 {w w1 : World} {o : Obj} (hb : Below (w.heap.size + 1) (w.alloc o) w1) : Below w.heap.size w w1 :=
  ((Below.refl _ _).alloc (Nat.le_refl _) o).trans (hb.mono (by omega))

set_option maxHeartbeats 1000000 in
theorem ruCheck_prio (p m b o s v : Int) (w : World) (h : ruP p o = false) :
    Calls Tryz.prog 91 #[.agg #[.int .i64 p, .int .i64 m, .int .i64 b, .int .i64 o, .int .i64 s, .int .i64 v]] w fun e w' => e = .returned (.iface 57 (.int .i64 1)) ∧ Below w.heap.size w w' := by
  have hc : p < 0 ∨ (0 ≤ p ∧ 99 < p) ∨ ((0 ≤ p ∧ p ≤ 99) ∧ o < 0) ∨ ((0 ≤ p ∧ p ≤ 99) ∧ (0 ≤ o ∧ 4 < o)) := by
    simp [ruP] at h
    omega
  clear h
  rcases hc with h1 | ⟨h1, h2⟩ | ⟨⟨h1, h2⟩, h3⟩ | ⟨⟨h1, h2⟩, h3, h4⟩
  · have e1 : decide (p < 0) = true := by simp; omega
    go_enter Tryz.func91, Tryz.ntmps91
    go_wp2
    go_ret
    exact ⟨rfl, (Below.refl _ _).alloc (Nat.le_refl _) _⟩
  · have e1 : decide (p < 0) = false := by simp; omega
    have e2 : decide (99 < p) = true := by simp; omega
    go_enter Tryz.func91, Tryz.ntmps91
    go_wp2
    go_ret
    exact ⟨rfl, (Below.refl _ _).alloc (Nat.le_refl _) _⟩
  · have e1 : decide (p < 0) = false := by simp; omega
    have e2 : decide (99 < p) = false := by simp; omega
    have e3 : decide (o < 0) = true := by simp; omega
    go_enter Tryz.func91, Tryz.ntmps91
    go_wp2
    go_ret
    exact ⟨rfl, (Below.refl _ _).alloc (Nat.le_refl _) _⟩
  · have e1 : decide (p < 0) = false := by simp; omega
    have e2 : decide (99 < p) = false := by simp; omega
    have e3 : decide (o < 0) = false := by simp; omega
    have e4 : decide (4 < o) = true := by simp; omega
    go_enter Tryz.func91, Tryz.ntmps91
    go_wp2
    go_ret
    exact ⟨rfl, (Below.refl _ _).alloc (Nat.le_refl _) _⟩

theorem ruP_of {p o : Int} (h : ruP p o = true) : decide (p < 0) = false ∧ decide (99 < p) = false ∧ decide (o < 0) = false ∧ decide (4 < o) = false := by
  simp only [ruP, Bool.and_eq_true, decide_eq_true_eq] at h
  refine ⟨?_, ?_, ?_, ?_⟩ <;> simp <;> omega

set_option maxHeartbeats 1000000 in
theorem ruCheck_set (p m b o s v : Int) (w : World) (h : ruP p o = true) (h2 : rngB s v = false) :
    Calls Tryz.prog 91 #[.agg #[.int .i64 p, .int .i64 m, .int .i64 b, .int .i64 o, .int .i64 s, .int .i64 v]] w fun e w' => e = .returned (.iface 57 (.int .i64 1)) ∧ Below w.heap.size w w' := by
  obtain ⟨e1, e2, e3, e4⟩ := ruP_of h
  clear h
  cases hs : hdrB s
  · clear h2
    go_enter Tryz.func91, Tryz.ntmps91
    go_wp2_with fail
    refine (isHeader_no _ _ hs).mono ?_
    rintro e w' ⟨rfl, rfl⟩
    go_wp2
    go_ret
    exact ⟨rfl, (Below.refl _ _).alloc (Nat.le_refl _) _⟩
  · have hv : hdrB v = false := by simpa [rngB, hs] using h2
    clear h2
    go_enter Tryz.func91, Tryz.ntmps91
    go_wp2_with fail
    refine (isHeader_yes _ _ hs).mono ?_
    rintro e w' ⟨rfl, rfl⟩
    go_wp2_with fail
    refine (isHeader_no _ _ hv).mono ?_
    rintro e w' ⟨rfl, rfl⟩
    go_wp2
    go_ret
    exact ⟨rfl, (Below.refl _ _).alloc (Nat.le_refl _) _⟩

set_option maxHeartbeats 1000000 in
theorem ruCheck_cube (p m b o s v : Int) (w : World) (h : ruP p o = true) (h2 : rngB s v = true) (h3 : okB m b = false) :
    Calls Tryz.prog 91 #[.agg #[.int .i64 p, .int .i64 m, .int .i64 b, .int .i64 o, .int .i64 s, .int .i64 v]] w fun e w' => e = .returned (.iface 57 (.int .i64 (refN m b))) ∧ Below w.heap.size w w' := by
  obtain ⟨e1, e2, e3, e4⟩ := ruP_of h
  have hs : hdrB s = true := by simp only [rngB, Bool.and_eq_true] at h2; exact h2.1
  have hv : hdrB v = true := by simp only [rngB, Bool.and_eq_true] at h2; exact h2.2
  have hn : refN m b ≠ 0 := by have := ok_refN m b; rw [h3] at this; simpa using this
  clear h h2 h3
  go_enter Tryz.func91, Tryz.ntmps91
  go_wp2_with fail
  refine (isHeader_yes _ _ hs).mono ?_
  rintro e w' ⟨rfl, rfl⟩
  go_wp2_with fail
  refine (isHeader_yes _ _ hv).mono ?_
  rintro e w' ⟨rfl, rfl⟩
  go_wp2_with fail
  refine (check_no _ _ _).mono ?_
  rintro e w1 ⟨rfl, hb1⟩
  rw [no_ne hn]
  go_wp2
  go_ret
  exact ⟨rfl, ((Below.refl _ _).alloc (Nat.le_refl _) _).trans (hb1.mono (by simp))⟩

set_option maxHeartbeats 1000000 in
theorem ruCheck_end (p m b o s v : Int) (w : World) (h : ruP p o = true) (h2 : rngB s v = true) (h3 : okB m b = true) :
    Calls Tryz.prog 91 #[.agg #[.int .i64 p, .int .i64 m, .int .i64 b, .int .i64 o, .int .i64 s, .int .i64 v]] w fun e w' => e = .returned (if ruSet o s v then .nilIface else .iface 57 (.int .i64 3)) ∧ Below w.heap.size w w' := by
  obtain ⟨e1, e2, e3, e4⟩ := ruP_of h
  have hs : hdrB s = true := by simp only [rngB, Bool.and_eq_true] at h2; exact h2.1
  have hv : hdrB v = true := by simp only [rngB, Bool.and_eq_true] at h2; exact h2.2
  have hn : refN m b = 0 := refN_ok h3
  have hlt : w.heap.size < (w.alloc (Obj.cells #[Value.int IntKind.i64 p, Value.int IntKind.i64 m, Value.int IntKind.i64 b, Value.int IntKind.i64 o, Value.int IntKind.i64 s, Value.int IntKind.i64 v] 117)).heap.size := by simp
  clear h h2 h3
  cases ha : (bits .andNot .i64 v s == 0)
  · have e : ruSet o s v = false := by simp [ruSet, ha]
    rw [e]; clear e
    simp only [Bool.false_eq_true, if_false]
    have ha2 : (bits .andNot .i64 v s != 0) = true := by simpa using ha
    go_enter Tryz.func91, Tryz.ntmps91
    go_wp2_with fail
    refine (isHeader_yes _ _ hs).mono ?_
    rintro e w' ⟨rfl, rfl⟩
    go_wp2_with fail
    refine (isHeader_yes _ _ hv).mono ?_
    rintro e w' ⟨rfl, rfl⟩
    go_wp2_with fail
    refine (check_no _ _ _).mono ?_
    rintro e w1 ⟨rfl, hb1⟩
    rw [no_ok hn]
    obtain ⟨hc1, hf1⟩ := bcell hb1
    have hB := ((Below.refl w.heap.size w).alloc (Nat.le_refl _) (Obj.cells #[Value.int IntKind.i64 p, Value.int IntKind.i64 m, Value.int IntKind.i64 b, Value.int IntKind.i64 o, Value.int IntKind.i64 s, Value.int IntKind.i64 v] 117)).trans (hb1.mono (by simp))
    clear hb1
    go_wp2
    go_ret
    exact ⟨rfl, hB⟩
  · cases ho : (o == 0)
    · have e : ruSet o s v = true := by simp [ruSet, ha, ho]
      rw [e]; clear e
      simp only [if_true]
      have ha2 : (bits .andNot .i64 v s != 0) = false := by simpa using ha
      go_enter Tryz.func91, Tryz.ntmps91
      go_wp2_with fail
      refine (isHeader_yes _ _ hs).mono ?_
      rintro e w' ⟨rfl, rfl⟩
      go_wp2_with fail
      refine (isHeader_yes _ _ hv).mono ?_
      rintro e w' ⟨rfl, rfl⟩
      go_wp2_with fail
      refine (check_no _ _ _).mono ?_
      rintro e w1 ⟨rfl, hb1⟩
      rw [no_ok hn]
      obtain ⟨hc1, hf1⟩ := bcell hb1
      have hB := ((Below.refl w.heap.size w).alloc (Nat.le_refl _) (Obj.cells #[Value.int IntKind.i64 p, Value.int IntKind.i64 m, Value.int IntKind.i64 b, Value.int IntKind.i64 o, Value.int IntKind.i64 s, Value.int IntKind.i64 v] 117)).trans (hb1.mono (by simp))
      clear hb1
      go_wp2
      go_ret
      exact ⟨rfl, hB⟩
    · cases hz : (s == 0)
      · have e : ruSet o s v = false := by simp [ruSet, ha, ho, hz]
        rw [e]; clear e
        simp only [Bool.false_eq_true, if_false]
        have ha2 : (bits .andNot .i64 v s != 0) = false := by simpa using ha
        go_enter Tryz.func91, Tryz.ntmps91
        go_wp2_with fail
        refine (isHeader_yes _ _ hs).mono ?_
        rintro e w' ⟨rfl, rfl⟩
        go_wp2_with fail
        refine (isHeader_yes _ _ hv).mono ?_
        rintro e w' ⟨rfl, rfl⟩
        go_wp2_with fail
        refine (check_no _ _ _).mono ?_
        rintro e w1 ⟨rfl, hb1⟩
        rw [no_ok hn]
        obtain ⟨hc1, hf1⟩ := bcell hb1
        have hB := ((Below.refl w.heap.size w).alloc (Nat.le_refl _) (Obj.cells #[Value.int IntKind.i64 p, Value.int IntKind.i64 m, Value.int IntKind.i64 b, Value.int IntKind.i64 o, Value.int IntKind.i64 s, Value.int IntKind.i64 v] 117)).trans (hb1.mono (by simp))
        clear hb1
        go_wp2
        go_ret
        exact ⟨rfl, hB⟩
      · have e : ruSet o s v = true := by simp [ruSet, ha, ho, hz]
        rw [e]; clear e
        simp only [if_true]
        have ha2 : (bits .andNot .i64 v s != 0) = false := by simpa using ha
        go_enter Tryz.func91, Tryz.ntmps91
        go_wp2_with fail
        refine (isHeader_yes _ _ hs).mono ?_
        rintro e w' ⟨rfl, rfl⟩
        go_wp2_with fail
        refine (isHeader_yes _ _ hv).mono ?_
        rintro e w' ⟨rfl, rfl⟩
        go_wp2_with fail
        refine (check_no _ _ _).mono ?_
        rintro e w1 ⟨rfl, hb1⟩
        rw [no_ok hn]
        obtain ⟨hc1, hf1⟩ := bcell hb1
        have hB := ((Below.refl w.heap.size w).alloc (Nat.le_refl _) (Obj.cells #[Value.int IntKind.i64 p, Value.int IntKind.i64 m, Value.int IntKind.i64 b, Value.int IntKind.i64 o, Value.int IntKind.i64 s, Value.int IntKind.i64 v] 117)).trans (hb1.mono (by simp))
        clear hb1
        go_wp2
        go_ret
        exact ⟨rfl, hB⟩

theorem ruCheck_any (p m b o s v : Int) (w : World) :
    Calls Tryz.prog 91 #[.agg #[.int .i64 p, .int .i64 m, .int .i64 b, .int .i64 o, .int .i64 s, .int .i64 v]] w fun e w' => e = .returned (noV (ruN p m b o s v)) ∧ Below w.heap.size w w' := by
  cases h1 : ruP p o
  · have e : noV (ruN p m b o s v) = .iface 57 (.int .i64 1) := by simp [ruN, ruIn, h1, noV]
    rw [e]; exact ruCheck_prio p m b o s v w h1
  · cases h2 : rngB s v
    · have e : noV (ruN p m b o s v) = .iface 57 (.int .i64 1) := by simp [ruN, ruIn, h2, noV]
      rw [e]; exact ruCheck_set p m b o s v w h1 h2
    · cases h3 : okB m b
      · have hn : refN m b ≠ 0 := by have := ok_refN m b; rw [h3] at this; simpa using this
        have e : noV (ruN p m b o s v) = .iface 57 (.int .i64 (refN m b)) := by simp [ruN, ruIn, h1, h2, h3, noV, hn]
        rw [e]; exact ruCheck_cube p m b o s v w h1 h2 h3
      · have e : noV (ruN p m b o s v) = (if ruSet o s v then .nilIface else .iface 57 (.int .i64 3)) := by
          cases h4 : ruSet o s v <;> simp [ruN, ruIn, h1, h2, h3, noV, h4]
        rw [e]; exact ruCheck_end p m b o s v w h1 h2 h3

end Go.Proofs.YtpmcjelihdlfeaaGreatDoor
/- What Table of package rule answers, called with any table. -/
namespace Go.Proofs.YtpmcjelihdlfeaaGreatDoor
open Go.RowKit
set_option linter.unusedSimpArgs false

/-- A rule lies at an address. -/
structure C6 (w : World) (g o : Nat) (r : Ru) : Prop where
  c0 : w.cell? ⟨g, o, none⟩ = some (.int .i64 r.p)
  c1 : w.cell? ⟨g, o + 1, none⟩ = some (.int .i64 r.m)
  c2 : w.cell? ⟨g, o + 2, none⟩ = some (.int .i64 r.b)
  c3 : w.cell? ⟨g, o + 3, none⟩ = some (.int .i64 r.o)
  c4 : w.cell? ⟨g, o + 4, none⟩ = some (.int .i64 r.s)
  c5 : w.cell? ⟨g, o + 5, none⟩ = some (.int .i64 r.v)
theorem C6.later {w w' : World} {g o : Nat} {r : Ru} (h : C6 w g o r) (hb : Below w.heap.size w w') : C6 w' g o r :=
  ⟨cell_later hb h.c0, cell_later hb h.c1, cell_later hb h.c2, cell_later hb h.c3, cell_later hb h.c4, cell_later hb h.c5⟩
theorem C6.new (w : World) (p m b o s v : Int) (t : TypeId) : C6 (w.alloc (Obj.cells #[Value.int IntKind.i64 p, Value.int IntKind.i64 m, Value.int IntKind.i64 b, Value.int IntKind.i64 o, Value.int IntKind.i64 s, Value.int IntKind.i64 v] t)) w.heap.size 0 ⟨p, m, b, o, s, v⟩ := by
  refine ⟨?_, ?_, ?_, ?_, ?_, ?_⟩ <;> simp
/-- These rules lie from an address on. -/
def RAt (w : World) (g o : Nat) (L : List Ru) : Prop := ∀ i (h : i < L.length), C6 w g (o + i * 6) L[i]
theorem RAt.later {w w' : World} {g o : Nat} {L : List Ru} (h : RAt w g o L) (hb : Below w.heap.size w w') : RAt w' g o L := fun i hi => (h i hi).later hb
theorem RAt.take {w : World} {g o : Nat} {L : List Ru} (h : RAt w g o L) (k : Nat) : RAt w g o (L.take k) := by
  intro i hi
  rw [List.getElem_take]
  exact h i (by simp at hi; omega)
/-- A value is a slice of these rules. -/
def SR (w : World) (v : Value) (L : List Ru) : Prop :=
  (∃ ao cap, v = .slice ao 0 cap ∧ L = []) ∨ ∃ g o cap, v = .slice (some ⟨g, o, none⟩) L.length cap ∧ L.length ≤ cap ∧ cap ≤ maxLen ∧ RAt w g o L
theorem SR.later {w w' : World} {v : Value} {L : List Ru} (h : SR w v L) (hb : Below w.heap.size w w') : SR w' v L := by
  rcases h with h | ⟨g, o, cap, h1, h2, h3, h4⟩
  · exact .inl h
  · exact .inr ⟨g, o, cap, h1, h2, h3, h4.later hb⟩
/-- The rule at a place, in letters. -/
theorem RAt.at {w : World} {g o : Nat} {L : List Ru} (h : RAt w g o L) {n k : Nat} (hn : L.length = n) (hk : k < n) :
    ∃ (p m b q s v : Int) (hl : k < L.length), L[k] = ⟨p, m, b, q, s, v⟩ ∧ (w.cell? ⟨g, o + k * 6, none⟩ = some (.int .i64 p) ∧ w.cell? ⟨g, o + k * 6 + 1, none⟩ = some (.int .i64 m) ∧ w.cell? ⟨g, o + k * 6 + 2, none⟩ = some (.int .i64 b) ∧
      w.cell? ⟨g, o + k * 6 + 3, none⟩ = some (.int .i64 q) ∧ w.cell? ⟨g, o + k * 6 + 4, none⟩ = some (.int .i64 s) ∧ w.cell? ⟨g, o + k * 6 + 5, none⟩ = some (.int .i64 v)) :=
  have hl : k < L.length := by omega
  have c := h k hl
  ⟨_, _, _, _, _, _, hl, rfl, c.c0, c.c1, c.c2, c.c3, c.c4, c.c5⟩

theorem key_ways (p m b o s v p' m' b' o' s' v' : Int) :
    ((p == p') = false ∧ keyB ⟨p, m, b, o, s, v⟩ ⟨p', m', b', o', s', v'⟩ = false) ∨ ((p == p') = true ∧ (m == m') = false ∧ keyB ⟨p, m, b, o, s, v⟩ ⟨p', m', b', o', s', v'⟩ = false) ∨
    ((p == p') = true ∧ (m == m') = true ∧ (b == b') = false ∧ keyB ⟨p, m, b, o, s, v⟩ ⟨p', m', b', o', s', v'⟩ = false) ∨ ((p == p') = true ∧ (m == m') = true ∧ (b == b') = true ∧ keyB ⟨p, m, b, o, s, v⟩ ⟨p', m', b', o', s', v'⟩ = true) := by
  rw [key_eq]
  by_cases h1 : p = p' <;> by_cases h2 : m = m' <;> by_cases h3 : b = b' <;> simp [h1, h2, h3]
set_option maxHeartbeats 1000000 in
theorem clash_any (p m b o s v p' m' b' o' s' v' : Int) (w : World) :
    Calls Tryz.prog 94 #[.agg #[.int .i64 p, .int .i64 m, .int .i64 b, .int .i64 o, .int .i64 s, .int .i64 v], .agg #[.int .i64 p', .int .i64 m', .int .i64 b', .int .i64 o', .int .i64 s', .int .i64 v']] w fun e w' => e = .returned (.bool (keyB ⟨p, m, b, o, s, v⟩ ⟨p', m', b', o', s', v'⟩)) ∧ Below w.heap.size w w' := by
  have HB : Hid (∀ o1 o2, Below w.heap.size w ((w.alloc o1).alloc o2)) := fun o1 o2 => ((Below.refl _ _).alloc (Nat.le_refl _) o1).alloc (by simp) o2
  rcases key_ways p m b o s v p' m' b' o' s' v' with ⟨e1, e⟩ | ⟨e1, e2, e⟩ | ⟨e1, e2, e3, e⟩ | ⟨e1, e2, e3, e⟩
  all_goals
    rw [e]
    clear e
    go_enter Tryz.func94, Tryz.ntmps94
    go_wp2
    go_ret
    exact ⟨rfl, HB.out _ _⟩

/-- A closure that asks something of a rule, in whatever world behind this one. -/
def Asks (w : World) (f : FuncId) (c : Value) (P : Ru → Bool) : Prop :=
  ∀ (p m b o s v : Int) (W : World), Below w.heap.size w W →
    Calls Tryz.prog f #[.agg #[.int .i64 p, .int .i64 m, .int .i64 b, .int .i64 o, .int .i64 s, .int .i64 v], c] W fun e w' => e = .returned (.bool (P ⟨p, m, b, o, s, v⟩)) ∧ Below W.heap.size W w'
theorem Asks.later {w w' : World} {f : FuncId} {c : Value} {P : Ru → Bool} (h : Asks w f c P) (hb : Below w.heap.size w w') : Asks w' f c P :=
  fun p m b o s v W hW => h p m b o s v W (hb.trans (hW.mono hb.size))

set_option maxHeartbeats 1000000 in
theorem table1_any (p m b o s v : Int) (r : Ru) (B : Nat) (w : World) (hc : C6 w B 0 r) :
    Calls Tryz.prog 93 #[.agg #[.int .i64 p, .int .i64 m, .int .i64 b, .int .i64 o, .int .i64 s, .int .i64 v], .pointer (some ⟨B, 0, none⟩)] w fun e w' => e = .returned (.bool (keyB ⟨p, m, b, o, s, v⟩ r)) ∧ Below w.heap.size w w' := by
  obtain ⟨p', m', b', o', s', v'⟩ := r
  obtain ⟨c0, c1, c2, c3, c4, c5⟩ := hc
  simp only [Nat.zero_add] at c0 c1 c2 c3 c4 c5
  have hlt : B < w.heap.size := World.block_lt_of_cell? _ _ c0
  go_enter Tryz.func93, Tryz.ntmps93
  go_wp2_with fail
  refine (clash_any _ _ _ _ _ _ _ _ _ _ _ _ _).mono ?_
  rintro e w1 ⟨rfl, hb1⟩
  go_wp2
  go_ret
  exact ⟨rfl, ((Below.refl _ _).alloc (Nat.le_refl _) _).trans (hb1.mono (by simp))⟩
theorem table1_asks (r : Ru) (B : Nat) (w : World) (hc : C6 w B 0 r) : Asks w 93 (.pointer (some ⟨B, 0, none⟩)) (fun a => keyB a r) :=
  fun p m b o s v W hW => table1_any p m b o s v r B W (hc.later hW)

theorem any_nextR {L : List Ru} {f : Ru → Bool} {k : Nat} (hk : k < L.length) (h : (L.take k).any f = false) (h2 : f L[k] = false) : (L.take (k + 1)).any f = false := by
  rw [List.take_succ_eq_append_getElem hk]
  simp only [List.any_append, h, List.any_cons, List.any_nil, h2, Bool.or_false]
theorem any_hitR {L : List Ru} {f : Ru → Bool} {k : Nat} (hk : k < L.length) (h2 : f L[k] = true) : L.any f = true := List.any_eq_true.2 ⟨_, List.getElem_mem hk, h2⟩
/-- The first place where something is so, or -1. -/
def ixP (f : Ru → Bool) (L : List Ru) : Int := if L.any f then (L.findIdx f : Int) else -1
theorem ixP_hit {L : List Ru} {f : Ru → Bool} {k : Nat} (hk : k < L.length) (h : (L.take k).any f = false) (h2 : f L[k] = true) : ixP f L = k := by
  rw [ixP, any_hitR hk h2, if_pos rfl]
  congr 1
  rw [List.findIdx_eq hk]
  refine ⟨h2, fun j hj => ?_⟩
  rw [List.any_eq_false] at h
  have := h L[j] (by rw [List.mem_take_iff_getElem]; exact ⟨j, by omega, rfl⟩)
  simpa using this
theorem ixP_no {L : List Ru} {f : Ru → Bool} (h : L.any f = false) : ixP f L = -1 := by simp [ixP, h]
theorem ixP_any (L : List Ru) (f : Ru → Bool) : decide (0 ≤ ixP f L) = L.any f := by
  unfold ixP
  cases L.any f
  · simp
  · simp
theorem SR.form {w : World} {v : Value} {L : List Ru} (h : SR w v L) : ∃ ao n cap, v = .slice ao n cap ∧ L.length = n ∧ n ≤ maxLen ∧ n ≤ cap ∧ (0 < n → ∃ g o, ao = some ⟨g, o, none⟩ ∧ RAt w g o L ∧ cap ≤ maxLen) := by
  rcases h with ⟨ao, cap, rfl, rfl⟩ | ⟨g, o, cap, rfl, h1, h2, h3⟩
  · exact ⟨ao, 0, cap, rfl, rfl, Nat.zero_le _, Nat.zero_le _, fun h => absurd h (by omega)⟩
  · exact ⟨_, _, cap, rfl, rfl, Nat.le_trans h1 h2, h1, fun _ => ⟨g, o, rfl, h3, h2⟩⟩

set_option maxHeartbeats 1000000 in
theorem idxF (ao : Option Addr) (n cap : Nat) (f : FuncId) (c : Value) (P : Ru → Bool) (L : List Ru) (w : World) (hn : L.length = n) (hn2 : n ≤ maxLen) (ha : 0 < n → ∃ g o, ao = some ⟨g, o, none⟩ ∧ RAt w g o L ∧ cap ≤ maxLen) (he : ∀ args w, (callFunc f args).run Tryz.prog w = .ok (.enter f args) w) (hf : Asks w f c P) :
    Calls Tryz.prog 120 #[.slice ao n cap, .func (Fn.func f) #[] #[c]] w fun e w' => e = .returned (.int .i64 (ixP P L)) ∧ Below w.heap.size w w' := by
  have HN : Hid (L.length = n) := hn
  have HF : Hid (Asks w f c P) := hf
  have HA : Hid (0 < n → ∃ g o, ao = some ⟨g, o, none⟩ ∧ RAt w g o L ∧ cap ≤ maxLen) := ha
  unfold maxLen at hn2
  clear hn hf ha
  go_enter Tryz.func120, Tryz.ntmps120
  go_wp2
  go_loopw [8] (fun i wr => ∃ k : Nat, k ≤ n ∧ i = .int .i64 k ∧ (L.take k).any P = false ∧ Below w.heap.size w wr)
    (fun i _ => n - (intOf i).toNat)
  case atStart => exact ⟨0, by omega, rfl, by simp, Below.refl _ _⟩
  case round =>
    obtain ⟨k, hk, rfl, hno, hB⟩ := hrel
    have HB : Hid (Below w.heap.size w wr) := hB
    have HNO : Hid ((L.take k).any P = false) := hno
    clear hno
    by_cases hlt : k < n
    · obtain ⟨g, o, hao, hc, _⟩ := HA.out (by omega)
      subst hao
      obtain ⟨p, m, b, q, s, v, hkl, hL, q0, q1, q2, q3, q4, q5⟩ := (hc.later hB).at HN.out hlt
      have HL : Hid (L[k] = ⟨p, m, b, q, s, v⟩) := hL
      clear hL hB
      cases ho : P ⟨p, m, b, q, s, v⟩
      · go_wp2_with fail
        refine (HF.out p m b q s v _ HB.out).mono ?_
        rintro e w1 ⟨rfl, hb1⟩
        rw [ho]
        have HB1 := HB.out.trans (hb1.mono HB.out.size)
        clear hb1
        go_wp2
        go_roundw
        case rel => exact ⟨k + 1, by omega, by go_num, any_nextR hkl HNO.out (by rw [HL.out]; exact ho), HB1⟩
        case measure => simp [intOf]; omega
      · go_wp2_with fail
        refine (HF.out p m b q s v _ HB.out).mono ?_
        rintro e w1 ⟨rfl, hb1⟩
        rw [ho]
        go_wp2
        go_ret
        exact ⟨by rw [ixP_hit hkl HNO.out (by rw [HL.out]; exact ho)]; rfl, HB.out.trans (hb1.mono HB.out.size)⟩
    · obtain rfl : k = n := by omega
      go_wp2
      go_ret
      exact ⟨by have := HNO.out; rw [← HN.out, List.take_length] at this; rw [ixP_no this]; rfl, HB.out⟩

set_option maxHeartbeats 1000000 in
theorem containsF (ao : Option Addr) (n cap : Nat) (f : FuncId) (c : Value) (P : Ru → Bool) (L : List Ru) (w : World) (hn : L.length = n) (hn2 : n ≤ maxLen) (ha : 0 < n → ∃ g o, ao = some ⟨g, o, none⟩ ∧ RAt w g o L ∧ cap ≤ maxLen) (he : ∀ args w, (callFunc f args).run Tryz.prog w = .ok (.enter f args) w) (hf : Asks w f c P) :
    Calls Tryz.prog 92 #[.slice ao n cap, .func (Fn.func f) #[] #[c]] w fun e w' => e = .returned (.bool (L.any P)) ∧ Below w.heap.size w w' := by
  rw [← ixP_any]
  obtain ⟨x, hx⟩ : ∃ x, x = ixP P L := ⟨_, rfl⟩
  have HX : Hid (x = ixP P L) := hx
  rw [← hx]
  clear hx
  go_enter Tryz.func92, Tryz.ntmps92
  go_wp2_with fail
  refine (idxF ao n cap f c P L _ hn hn2 ha he hf).mono ?_
  rintro e w1 ⟨rfl, hb1⟩
  rw [← HX.out]
  go_wp2
  go_ret
  exact ⟨rfl, hb1⟩
theorem containsR_any (g o cap n B : Nat) (r : Ru) (L : List Ru) (w : World) (hc : RAt w g o L) (hn : L.length = n) (hn2 : n ≤ maxLen) (hcap : cap ≤ maxLen) (hr : C6 w B 0 r) :
    Calls Tryz.prog 92 #[.slice (some ⟨g, o, none⟩) n cap, .func (Fn.func 93) #[] #[.pointer (some ⟨B, 0, none⟩)]] w fun e w' => e = .returned (.bool (L.any (fun a => keyB a r))) ∧ Below w.heap.size w w' :=
  containsF _ n cap _ _ _ L w hn hn2 (fun _ => ⟨g, o, rfl, hc, hcap⟩) (enters_of Tryz.func93 (by kernel_rfl) rfl) (table1_asks r B w hr)
end Go.Proofs.YtpmcjelihdlfeaaGreatDoor
/- Two rules at two addresses: a class of worlds. -/
namespace Go.Proofs.YtpmcjelihdlfeaaGreatDoor
open Go.RowKit

/-- Two rules at two addresses. -/
def CD (w : World) (g o : Nat) (p m b q s v : Int) (g' o' : Nat) (p' m' b' q' s' v' : Int) (w' : World) : Prop :=
  Below w.heap.size w w' ∧ (w'.cell? ⟨g, o, none⟩ = some (.int .i64 p) ∧ w'.cell? ⟨g, o + 1, none⟩ = some (.int .i64 m) ∧ w'.cell? ⟨g, o + 2, none⟩ = some (.int .i64 b) ∧
    w'.cell? ⟨g, o + 3, none⟩ = some (.int .i64 q) ∧ w'.cell? ⟨g, o + 4, none⟩ = some (.int .i64 s) ∧ w'.cell? ⟨g, o + 5, none⟩ = some (.int .i64 v)) ∧
  w'.cell? ⟨g', o', none⟩ = some (.int .i64 p') ∧ w'.cell? ⟨g', o' + 1, none⟩ = some (.int .i64 m') ∧ w'.cell? ⟨g', o' + 2, none⟩ = some (.int .i64 b') ∧
    w'.cell? ⟨g', o' + 3, none⟩ = some (.int .i64 q') ∧ w'.cell? ⟨g', o' + 4, none⟩ = some (.int .i64 s') ∧ w'.cell? ⟨g', o' + 5, none⟩ = some (.int .i64 v')
theorem CD.later {w W W' : World} {g o : Nat} {p m b q s v : Int} {g' o' : Nat} {p' m' b' q' s' v' : Int} (hb : Below W.heap.size W W') (h : CD w g o p m b q s v g' o' p' m' b' q' s' v' W) : CD w g o p m b q s v g' o' p' m' b' q' s' v' W' := by
  obtain ⟨h0, ⟨h1, h2, h3, h4, h5, h6⟩, k1, k2, k3, k4, k5, k6⟩ := h
  exact ⟨h0.trans (hb.mono h0.size), ⟨cell_later hb h1, cell_later hb h2, cell_later hb h3, cell_later hb h4, cell_later hb h5, cell_later hb h6⟩, cell_later hb k1, cell_later hb k2, cell_later hb k3, cell_later hb k4, cell_later hb k5, cell_later hb k6⟩

end Go.Proofs.YtpmcjelihdlfeaaGreatDoor
/- Rules as text, in plain bytes: no program in it. -/
namespace Go.Proofs.YtpmcjelihdlfeaaGreatDoor
open Go.RowKit

/-- A number from 0 to 99 in digits. -/
def dgS (p : Int) : ByteArray := if p < 10 then strOfNums [48 + p] else strOfNums [48 + p / 10, 48 + p % 10]
/-- The number that the first digits of a text come to. -/
def dcTo (s : ByteArray) : Nat → Int
  | 0 => 0
  | k + 1 => 10 * dcTo s k + ((byteN s k : Nat) - 48)
def digB (c : Nat) : Bool := decide (48 ≤ c) && decide (c ≤ 57)
def dgTo (s : ByteArray) : Nat → Bool
  | 0 => true
  | k + 1 => dgTo s k && digB (byteN s k)
/-- Is the length of a number's text right, and has it no needless 0? -/
def dcHd (s : ByteArray) : Bool := decide (1 ≤ s.size) && (decide (s.size ≤ 9) && (!(byteN s 0 == 48) || s.size == 1))
/-- Is a text a number's? -/
def dcOk (s : ByteArray) : Bool := dcHd s && dgTo s s.size
def dcN (s : ByteArray) : Int := if dcOk s then dcTo s s.size else 0

theorem dg_le {s : ByteArray} : ∀ {n k : Nat}, k < n → dgTo s n = true → digB (byteN s k) = true
  | 0, _, h, _ => absurd h (Nat.not_lt_zero _)
  | n + 1, k, h, hm => by
    simp only [dgTo, Bool.and_eq_true] at hm
    by_cases e : k = n
    · subst e; exact hm.2
    · exact dg_le (by omega) hm.1
theorem dig_of {c : Nat} (h : digB c = true) : 48 ≤ c ∧ c ≤ 57 := by simpa [digB] using h
theorem dc_bd {s : ByteArray} : ∀ {k : Nat}, dgTo s k = true → 0 ≤ dcTo s k ∧ dcTo s k < 10 ^ k
  | 0, _ => by simp [dcTo]
  | k + 1, h => by
    simp only [dgTo, Bool.and_eq_true] at h
    have h1 := dc_bd h.1
    have h2 := dig_of h.2
    simp only [dcTo, Int.pow_succ]
    omega

/-- The place of the first blank. -/
def blAt (s : ByteArray) : Int := Lib.indexByte s.data.toList 32
/-- A text cut at its first k blanks. -/
def cutB : Nat → ByteArray → List ByteArray
  | 0, s => [s]
  | k + 1, s => if blAt s = -1 then [s] else s.extract 0 (blAt s).toNat :: cutB k (s.extract ((blAt s).toNat + 1) s.size)

theorem cut_miss {s : ByteArray} (k : Nat) (h : blAt s = -1) : cutB k s = [s] := by
  cases k with
  | zero => rfl
  | succ k => rw [cutB, if_pos h]
theorem cut_hit {s : ByteArray} (k : Nat) {i : Nat} (h : blAt s = i) : cutB (k + 1) s = s.extract 0 i :: cutB k (s.extract (i + 1) s.size) := by
  have hm : ¬ blAt s = -1 := by omega
  have e : (blAt s).toNat = i := by omega
  rw [cutB, if_neg hm, e]
theorem bl_cases (s : ByteArray) : blAt s = -1 ∨ ∃ i : Nat, blAt s = i ∧ i < s.size := by
  have h := Lib.indexByte_ge s.data.toList 32
  by_cases e : blAt s = -1
  · exact .inl e
  · right
    have e' : 0 ≤ blAt s := by unfold blAt at *; omega
    obtain ⟨i, hi⟩ := Int.eq_ofNat_of_zero_le e'
    refine ⟨i, hi, ?_⟩
    have := (Lib.indexByte_some hi).1
    have hlt := (List.getElem?_eq_some_iff.1 this).1
    simpa using hlt
theorem cut_len : ∀ (k : Nat) (s : ByteArray), (cutB k s).length ≤ k + 1 ∧ 1 ≤ (cutB k s).length
  | 0, _ => by simp [cutB]
  | k + 1, s => by
    rcases bl_cases s with h | ⟨i, h, _⟩
    · rw [cut_miss _ h]; simp
    · rw [cut_hit _ h]
      have := cut_len k (s.extract (i + 1) s.size)
      simp
      omega
end Go.Proofs.YtpmcjelihdlfeaaGreatDoor
/- What the document's own functions on rules and tables come to, in plain numbers: no program in it. -/
namespace Go.Proofs.YtpmcjelihdlfeaaGreatDoor
open Go.RowKit

/-- Is the i-th bit of what a rule makes of a header set? -/
def tuB (s v h : Int) (i : Nat) : Bool := bitB s i && bitB v i || !bitB s i && bitB h i
/-- The upper k bits of it. -/
def tuTo (s v h : Int) : Nat → Int
  | 0 => 0
  | k + 1 => if tuB s v h (3 - k) then tuTo s v h k * 2 + 1 else tuTo s v h k * 2
theorem tu_bd (s v h : Int) : ∀ k, 0 ≤ tuTo s v h k ∧ tuTo s v h k < 2 ^ k
  | 0 => by simp [tuTo]
  | k + 1 => by
    have := tu_bd s v h k
    have e : (2 : Int) ^ (k + 1) = 2 ^ k * 2 := Int.pow_succ ..
    unfold tuTo
    split <;> omega
set_option maxRecDepth 100000 in
theorem tu_fin : ∀ (s v h : Fin 16), ((bits .andNot .i64 ((v : Nat) : Int) ((s : Nat) : Int) == 0) && !(tuTo ((s : Nat) : Int) ((v : Nat) : Int) ((h : Nat) : Int) 4 == apV ((s : Nat) : Int) ((v : Nat) : Int) ((h : Nat) : Int))) = false := by decide +kernel
theorem fin16 {x : Int} (h : 0 ≤ x ∧ x < 16) : ∃ i : Fin 16, x = ((i : Nat) : Int) := ⟨⟨x.toNat, by omega⟩, by simp; omega⟩
/-- Bit by bit it is what the program reckons at once. -/
theorem tu_ap {s v h : Int} (hs : 0 ≤ s ∧ s < 16) (hv : 0 ≤ v ∧ v < 16) (hh : 0 ≤ h ∧ h < 16) (hz : (bits .andNot .i64 v s == 0) = true) : tuTo s v h 4 = apV s v h := by
  obtain ⟨a, rfl⟩ := fin16 hs
  obtain ⟨b, rfl⟩ := fin16 hv
  obtain ⟨c, rfl⟩ := fin16 hh
  have := tu_fin a b c
  rw [hz] at this
  simpa using this
/-- Does a header count for the rule at a place, among the first k headers? -/
def shB (L : List Ru) (i k : Nat) : Bool := (List.range k).any fun h => beTo L (h : Int) L.length == (i : Int)
theorem sh_0 (L : List Ru) (i : Nat) : shB L i 0 = false := rfl
theorem shB_next (L : List Ru) (i k : Nat) : shB L i (k + 1) = (shB L i k || (beTo L (k : Int) L.length == (i : Int))) := by
  simp [shB, List.range_succ]
/-- The places of rules among the first k that count for no header. -/
def deTo (L : List Ru) : Nat → List Int
  | 0 => []
  | k + 1 => if shB L k 16 then deTo L k else deTo L k ++ [(k : Int)]
theorem deTo_len (L : List Ru) : ∀ k, (deTo L k).length ≤ k
  | 0 => by simp [deTo]
  | k + 1 => by
    have := deTo_len L k
    unfold deTo
    split
    · omega
    · simp; omega
def deadL (L : List Ru) : List Int := if tbN L = 0 then deTo L L.length else []
theorem tb_le {L : List Ru} (h : tbN L = 0) : L.length ≤ 12 := (tb_0.1 h).1
theorem dead_len (L : List Ru) : (deadL L).length ≤ 12 := by
  unfold deadL
  split
  · next h => exact Nat.le_trans (deTo_len L _) (tb_le h)
  · simp
/-- Does a rule count ahead of another one, in the document's words? -/
def abB (a b : Ru) : Bool := if a.p = b.p then (if a.m = b.m then decide (b.b < a.b) else decide (b.m < a.m)) else decide (b.p < a.p)
theorem ab_ord (a b : Ru) : abB a b = decide (0 < ordR a b) := by
  have h : ordR a b ≤ 0 ↔ _ := ord_le (a := a) (b := b)
  unfold abB
  split
  · split <;> (rw [decide_eq_decide]; omega)
  · rw [decide_eq_decide]; omega
end Go.Proofs.YtpmcjelihdlfeaaGreatDoor
/- What the document's own above and Find answer, called with any rules and any table. -/
namespace Go.Proofs.YtpmcjelihdlfeaaGreatDoor
open Go.RowKit
set_option linter.unusedSimpArgs false

set_option maxHeartbeats 1000000 in
theorem above_abB (p m b o s v p' m' b' o' s' v' : Int) (w : World) :
    Calls Tryz.prog 116 #[.agg #[.int .i64 p, .int .i64 m, .int .i64 b, .int .i64 o, .int .i64 s, .int .i64 v], .agg #[.int .i64 p', .int .i64 m', .int .i64 b', .int .i64 o', .int .i64 s', .int .i64 v']] w fun e w' => e = .returned (.bool (abB ⟨p, m, b, o, s, v⟩ ⟨p', m', b', o', s', v'⟩)) ∧ Below w.heap.size w w' := by
  by_cases h1 : p = p'
  · subst h1
    by_cases h2 : m = m'
    · subst h2
      have e : abB ⟨p, m, b, o, s, v⟩ ⟨p, m, b', o', s', v'⟩ = decide (b' < b) := by simp [abB]
      rw [e]; clear e
      go_enter Tryz.func116, Tryz.ntmps116
      go_wp2
      go_ret
      exact ⟨rfl, ((Below.refl _ _).alloc (Nat.le_refl _) _).alloc (by simp) _⟩
    · have e : abB ⟨p, m, b, o, s, v⟩ ⟨p, m', b', o', s', v'⟩ = decide (m' < m) := by simp [abB, h2]
      have h3 : (m != m') = true := by simpa using h2
      rw [e]; clear e
      go_enter Tryz.func116, Tryz.ntmps116
      go_wp2
      go_ret
      exact ⟨rfl, ((Below.refl _ _).alloc (Nat.le_refl _) _).alloc (by simp) _⟩
  · have e : abB ⟨p, m, b, o, s, v⟩ ⟨p', m', b', o', s', v'⟩ = decide (p' < p) := by simp [abB, h1]
    have h3 : (p != p') = true := by simpa using h1
    rw [e]; clear e
    go_enter Tryz.func116, Tryz.ntmps116
    go_wp2
    go_ret
    exact ⟨rfl, ((Below.refl _ _).alloc (Nat.le_refl _) _).alloc (by simp) _⟩

theorem above_any (p m b o s v p' m' b' o' s' v' : Int) (w : World) :
    Calls Tryz.prog 116 #[.agg #[.int .i64 p, .int .i64 m, .int .i64 b, .int .i64 o, .int .i64 s, .int .i64 v], .agg #[.int .i64 p', .int .i64 m', .int .i64 b', .int .i64 o', .int .i64 s', .int .i64 v']] w fun e w' => e = .returned (.bool (decide (0 < ordR ⟨p, m, b, o, s, v⟩ ⟨p', m', b', o', s', v'⟩))) ∧ Below w.heap.size w w' :=
  (above_abB p m b o s v p' m' b' o' s' v' w).mono fun e w' h => ⟨by rw [h.1, ab_ord], h.2⟩

theorem be_nextF {L : List Ru} {h : Int} {k : Nat} (x : Int) (hx : x = beTo L h k) (y : Bool) (hy : ((L.getD k zeR).has h && (decide (x < 0) || decide (0 < ordR (L.getD k zeR) (L.getD x.toNat zeR)))) = y) : beTo L h (k + 1) = if y then (k : Int) else x := by
  subst hx
  rw [beTo, hy]

set_option maxHeartbeats 1000000 in
theorem find_some (g o cap n : Nat) (h : Int) (L : List Ru) (w : World) (hc : RAt w g o L) (hn : L.length = n) (hcap2 : n ≤ maxLen) :
    Calls Tryz.prog 87 #[.slice (some ⟨g, o, none⟩) n cap, .int .i64 h] w fun e w' => e = .returned (.int .i64 (beTo L h n)) ∧ Below w.heap.size w w' := by
  have HN : Hid (L.length = n) := hn
  unfold maxLen at hcap2
  clear hn
  go_enter Tryz.func87, Tryz.ntmps87
  go_wp2
  go_loopw [5, 6] (fun x i wr => ∃ k : Nat, k ≤ n ∧ x = .int .i64 (beTo L h k) ∧ i = .int .i64 k ∧ Below w.heap.size w wr) (fun _ i _ => n - (intOf i).toNat)
  case atStart => exact ⟨0, by omega, rfl, rfl, Below.refl _ _⟩
  case round =>
    obtain ⟨k, hk, rfl, rfl, hB⟩ := hrel
    have hbd := be_bd L h k
    generalize hx : beTo L h k = x at *
    have HX : Hid (x = beTo L h k) := hx.symm
    obtain ⟨x0, x1⟩ := hbd
    clear hx
    have HB : Hid (Below w.heap.size w wr) := hB
    by_cases hlt : k < n
    · obtain ⟨p, m, b, q, s, v, hkl, hL, q0, q1, q2, q3, q4, q5⟩ := (hc.later hB).at HN.out hlt
      have HK : Hid (L.getD k zeR = ⟨p, m, b, q, s, v⟩) := (getD_at hkl).trans hL
      have HCC : Hid (RAt wr g o L) := hc.later hB
      clear hL hB
      go_wp2_with fail
      refine (refHas_any _ _ _ _).mono ?_
      rintro e w1 ⟨rfl, hb1⟩
      have HCC1 : Hid (RAt w1 g o L) := HCC.out.later hb1
      have HB1 : Hid (Below w.heap.size w w1) := HB.out.trans (hb1.mono HB.out.size)
      clear hb1 q0 q1 q2 q3 q4 q5 HCC
      generalize hY : hasB m b h = Y
      have HY : Hid (hasB m b h = Y) := hY
      clear hY
      go_upto_region 6 with fail
      have kb0 : (0 : Int) ≤ (k : Int) := by omega
      have kb1 : (k : Int) < (n : Int) := by omega
      go_cut [36] from 8 to 37 (fun c w' => c = .bool (Y && (decide (x < 0) || decide (0 < ordR (L.getD k zeR) (L.getD x.toNat zeR)))) ∧ Below w.heap.size w w')
      case first =>
        cases Y
        · refine wp_region_quiet (C := fun w' => Below w.heap.size w w') (by kernel_rfl) (by kernel_rfl) (Below.drew HB1.out) ?_
          simp only [List.toList_toArray]
          go_big_quiet_want
          refine quiet_val (v := .bool false) (fun w' hC => ?_) ?_
          · obtain z0 := hC
            go_simp
          simp only [Act.put, List.setIfInBounds_toArray, List.set_cons_zero, List.set_cons_succ]
          go_big_quiet_on
          go_big_quiet_want
          refine quiet_val (v := .bool false) (fun w' hC => ?_) ?_
          · obtain z0 := hC
            go_simp
          simp only [Act.put, List.setIfInBounds_toArray, List.set_cons_zero, List.set_cons_succ]
          go_big_quiet_on
          go_big_quiet_skip
          go_big_quiet_skip
          go_big_quiet_skip
          go_big_quiet_skip
          go_big_quiet_skip
          go_big_quiet_skip
          go_big_quiet_skip
          go_big_quiet_skip
          go_big_quiet_skip
          go_big_quiet_skip
          go_big_quiet_skip
          go_big_quiet_skip
          go_big_quiet_skip
          go_big_quiet_want
          refine quiet_val (v := .bool false) (fun w' hC => ?_) ?_
          · obtain z0 := hC
            go_simp
          simp only [Act.put, List.setIfInBounds_toArray, List.set_cons_zero, List.set_cons_succ]
          go_big_quiet_on
          refine wpQuiet_nil ?_
          intro w' hC
          go_wp2_with fail
          go_meet
          case rel => exact ⟨rfl, hC⟩
        · by_cases hx0 : x < 0
          · have hx1 : decide (x < 0) = true := by simpa using hx0
            refine wp_region_quiet (C := fun w' => Below w.heap.size w w') (by kernel_rfl) (by kernel_rfl) (Below.drew HB1.out) ?_
            simp only [List.toList_toArray]
            go_big_quiet_want
            refine quiet_val (v := .bool true) (fun w' hC => ?_) ?_
            · obtain z0 := hC
              go_simp
            simp only [Act.put, List.setIfInBounds_toArray, List.set_cons_zero, List.set_cons_succ]
            go_big_quiet_on
            go_big_quiet_want
            refine quiet_val (v := .bool true) (fun w' hC => ?_) ?_
            · obtain z0 := hC
              go_simp
            simp only [Act.put, List.setIfInBounds_toArray, List.set_cons_zero, List.set_cons_succ]
            go_big_quiet_on
            go_big_quiet_want
            refine quiet_val (v := .int .i64 x) (fun w' hC => ?_) ?_
            · obtain z0 := hC
              go_simp
            simp only [Act.put, List.setIfInBounds_toArray, List.set_cons_zero, List.set_cons_succ]
            go_big_quiet_on
            go_big_quiet_want
            refine quiet_val (v := .bool true) (fun w' hC => ?_) ?_
            · obtain z0 := hC
              go_simp
            simp only [Act.put, List.setIfInBounds_toArray, List.set_cons_zero, List.set_cons_succ]
            go_big_quiet_on
            go_big_quiet_want
            refine quiet_val (v := .bool true) (fun w' hC => ?_) ?_
            · obtain z0 := hC
              go_simp
            simp only [Act.put, List.setIfInBounds_toArray, List.set_cons_zero, List.set_cons_succ]
            go_big_quiet_on
            go_big_quiet_skip
            go_big_quiet_skip
            go_big_quiet_skip
            go_big_quiet_skip
            go_big_quiet_skip
            go_big_quiet_skip
            go_big_quiet_skip
            go_big_quiet_skip
            go_big_quiet_skip
            go_big_quiet_want
            refine quiet_val (v := .bool true) (fun w' hC => ?_) ?_
            · obtain z0 := hC
              go_simp
            simp only [Act.put, List.setIfInBounds_toArray, List.set_cons_zero, List.set_cons_succ]
            go_big_quiet_on
            go_big_quiet_want
            refine quiet_val (v := .bool true) (fun w' hC => ?_) ?_
            · obtain z0 := hC
              go_simp
            simp only [Act.put, List.setIfInBounds_toArray, List.set_cons_zero, List.set_cons_succ]
            go_big_quiet_on
            refine wpQuiet_nil ?_
            intro w' hC
            go_wp2_with fail
            go_meet
            case rel => exact ⟨by rw [hx1]; rfl, hC⟩
          · obtain ⟨y, hy⟩ : ∃ y : Nat, x = (y : Int) := ⟨x.toNat, by omega⟩
            have hx2 : decide ((y : Int) < 0) = false := by simp
            subst hy
            obtain ⟨p2, m2, b2, q2, s2, v2, hyl, hLy, y0, y1, y2, y3, y4, y5⟩ := HCC1.out.at HN.out (show y < n by omega)
            obtain ⟨p1, m1, b1, q1, s1, v1, hkl1, hLk, r0, r1, r2, r3, r4, r5⟩ := HCC1.out.at HN.out hlt
            have E := HK.out
            rw [getD_at hkl1, hLk] at E
            simp only [Ru.mk.injEq] at E
            obtain ⟨rfl, rfl, rfl, rfl, rfl, rfl⟩ := E
            have HYL : Hid (L.getD ((y : Nat) : Int).toNat zeR = ⟨p2, m2, b2, q2, s2, v2⟩) := by
              show L.getD ((y : Nat) : Int).toNat zeR = _
              rw [Int.toNat_natCast, getD_at hyl, hLy]
            have yb0 : (0 : Int) ≤ (y : Int) := by omega
            have yb1 : ((y : Int)) < (n : Int) := by omega
            have hS0 : CD w g (o + k * 6) p1 m1 b1 q1 s1 v1 g (o + y * 6) p2 m2 b2 q2 s2 v2 w1 := ⟨HB1.out, ⟨r0, r1, r2, r3, r4, r5⟩, y0, y1, y2, y3, y4, y5⟩
            clear y0 y1 y2 y3 y4 y5 r0 r1 r2 r3 r4 r5 hLy hLk
            refine wp_region_quiet (C := CD w g (o + k * 6) p1 m1 b1 q1 s1 v1 g (o + y * 6) p2 m2 b2 q2 s2 v2) (by kernel_rfl) (by kernel_rfl) (CD.later (W := w1) (Below.drew (Below.refl _ _)) hS0) ?_
            simp only [List.toList_toArray]
            go_big_quiet_want
            refine quiet_val (v := .bool true) (fun w' hC => ?_) ?_
            · obtain ⟨z0, ⟨z1, z2, z3, z4, z5, z6⟩, y1, y2, y3, y4, y5, y6⟩ := hC
              go_simp
            simp only [Act.put, List.setIfInBounds_toArray, List.set_cons_zero, List.set_cons_succ]
            go_big_quiet_on
            go_big_quiet_want
            refine quiet_val (v := .bool true) (fun w' hC => ?_) ?_
            · obtain ⟨z0, ⟨z1, z2, z3, z4, z5, z6⟩, y1, y2, y3, y4, y5, y6⟩ := hC
              go_simp
            simp only [Act.put, List.setIfInBounds_toArray, List.set_cons_zero, List.set_cons_succ]
            go_big_quiet_on
            go_big_quiet_want
            refine quiet_val (v := .int .i64 (y : Int)) (fun w' hC => ?_) ?_
            · obtain ⟨z0, ⟨z1, z2, z3, z4, z5, z6⟩, y1, y2, y3, y4, y5, y6⟩ := hC
              go_simp
            simp only [Act.put, List.setIfInBounds_toArray, List.set_cons_zero, List.set_cons_succ]
            go_big_quiet_on
            go_big_quiet_want
            refine quiet_val (v := .bool false) (fun w' hC => ?_) ?_
            · obtain ⟨z0, ⟨z1, z2, z3, z4, z5, z6⟩, y1, y2, y3, y4, y5, y6⟩ := hC
              go_simp
            simp only [Act.put, List.setIfInBounds_toArray, List.set_cons_zero, List.set_cons_succ]
            go_big_quiet_on
            go_big_quiet_want
            refine quiet_val (v := .bool false) (fun w' hC => ?_) ?_
            · obtain ⟨z0, ⟨z1, z2, z3, z4, z5, z6⟩, y1, y2, y3, y4, y5, y6⟩ := hC
              go_simp
            simp only [Act.put, List.setIfInBounds_toArray, List.set_cons_zero, List.set_cons_succ]
            go_big_quiet_on
            go_big_quiet_want
            refine quiet_val (v := .slice (some ⟨g, o, none⟩) n cap) (fun w' hC => ?_) ?_
            · obtain ⟨z0, ⟨z1, z2, z3, z4, z5, z6⟩, y1, y2, y3, y4, y5, y6⟩ := hC
              go_simp
            simp only [Act.put, List.setIfInBounds_toArray, List.set_cons_zero, List.set_cons_succ]
            go_big_quiet_on
            go_big_quiet_want
            refine quiet_val (v := .int .i64 (k : Int)) (fun w' hC => ?_) ?_
            · obtain ⟨z0, ⟨z1, z2, z3, z4, z5, z6⟩, y1, y2, y3, y4, y5, y6⟩ := hC
              go_simp
            simp only [Act.put, List.setIfInBounds_toArray, List.set_cons_zero, List.set_cons_succ]
            go_big_quiet_on
            go_big_quiet_want
            refine quiet_val (v := .pointer (some ⟨g, o + k * 6, none⟩)) (fun w' hC => ?_) ?_
            · obtain ⟨z0, ⟨z1, z2, z3, z4, z5, z6⟩, y1, y2, y3, y4, y5, y6⟩ := hC
              go_simp
            simp only [Act.put, List.setIfInBounds_toArray, List.set_cons_zero, List.set_cons_succ]
            go_big_quiet_on
            go_big_quiet_want
            refine quiet_val (v := .agg #[.int .i64 p1, .int .i64 m1, .int .i64 b1, .int .i64 q1, .int .i64 s1, .int .i64 v1]) (fun w' hC => ?_) ?_
            · obtain ⟨z0, ⟨z1, z2, z3, z4, z5, z6⟩, y1, y2, y3, y4, y5, y6⟩ := hC
              go_simp
            simp only [Act.put, List.setIfInBounds_toArray, List.set_cons_zero, List.set_cons_succ]
            go_big_quiet_on
            go_big_quiet_want
            refine quiet_val (v := .slice (some ⟨g, o, none⟩) n cap) (fun w' hC => ?_) ?_
            · obtain ⟨z0, ⟨z1, z2, z3, z4, z5, z6⟩, y1, y2, y3, y4, y5, y6⟩ := hC
              go_simp
            simp only [Act.put, List.setIfInBounds_toArray, List.set_cons_zero, List.set_cons_succ]
            go_big_quiet_on
            go_big_quiet_want
            refine quiet_val (v := .int .i64 (y : Int)) (fun w' hC => ?_) ?_
            · obtain ⟨z0, ⟨z1, z2, z3, z4, z5, z6⟩, y1, y2, y3, y4, y5, y6⟩ := hC
              go_simp
            simp only [Act.put, List.setIfInBounds_toArray, List.set_cons_zero, List.set_cons_succ]
            go_big_quiet_on
            go_big_quiet_want
            refine quiet_val (v := .pointer (some ⟨g, o + y * 6, none⟩)) (fun w' hC => ?_) ?_
            · obtain ⟨z0, ⟨z1, z2, z3, z4, z5, z6⟩, y1, y2, y3, y4, y5, y6⟩ := hC
              go_simp
            simp only [Act.put, List.setIfInBounds_toArray, List.set_cons_zero, List.set_cons_succ]
            go_big_quiet_on
            go_big_quiet_want
            refine quiet_val (v := .agg #[.int .i64 p2, .int .i64 m2, .int .i64 b2, .int .i64 q2, .int .i64 s2, .int .i64 v2]) (fun w' hC => ?_) ?_
            · obtain ⟨z0, ⟨z1, z2, z3, z4, z5, z6⟩, y1, y2, y3, y4, y5, y6⟩ := hC
              go_simp
            simp only [Act.put, List.setIfInBounds_toArray, List.set_cons_zero, List.set_cons_succ]
            go_big_quiet_on
            go_big_quiet_want
            refine quiet_call (f := 116) (args := #[.agg #[.int .i64 p1, .int .i64 m1, .int .i64 b1, .int .i64 q1, .int .i64 s1, .int .i64 v1], .agg #[.int .i64 p2, .int .i64 m2, .int .i64 b2, .int .i64 q2, .int .i64 s2, .int .i64 v2]]) (v := .bool (decide (0 < ordR ⟨p1, m1, b1, q1, s1, v1⟩ ⟨p2, m2, b2, q2, s2, v2⟩))) (fun w' => ?_) (fun w' hC => (above_any p1 m1 b1 q1 s1 v1 p2 m2 b2 q2 s2 v2 w').mono (fun e w2 h2 => ⟨h2.1, CD.later h2.2 hC⟩)) ?_
            · go_simp
            simp only [Act.put, List.setIfInBounds_toArray, List.set_cons_zero, List.set_cons_succ]
            go_big_quiet_on
            go_big_quiet_want
            refine quiet_val (v := .bool (decide (0 < ordR ⟨p1, m1, b1, q1, s1, v1⟩ ⟨p2, m2, b2, q2, s2, v2⟩))) (fun w' hC => ?_) ?_
            · obtain ⟨z0, ⟨z1, z2, z3, z4, z5, z6⟩, y1, y2, y3, y4, y5, y6⟩ := hC
              go_simp
            simp only [Act.put, List.setIfInBounds_toArray, List.set_cons_zero, List.set_cons_succ]
            go_big_quiet_on
            go_big_quiet_want
            refine quiet_val (v := .bool (decide (0 < ordR ⟨p1, m1, b1, q1, s1, v1⟩ ⟨p2, m2, b2, q2, s2, v2⟩))) (fun w' hC => ?_) ?_
            · obtain ⟨z0, ⟨z1, z2, z3, z4, z5, z6⟩, y1, y2, y3, y4, y5, y6⟩ := hC
              go_simp
            simp only [Act.put, List.setIfInBounds_toArray, List.set_cons_zero, List.set_cons_succ]
            go_big_quiet_on
            refine wpQuiet_nil ?_
            intro w' hC
            go_wp2_with fail
            go_meet
            case rel => exact ⟨by rw [HYL.out, HK.out, hx2]; rfl, hC.1⟩
      case rest =>
        obtain ⟨hc2, hB2⟩ := hcut
        have HYY : Hid (beTo L h (k + 1) = if (Y && (decide (x < 0) || decide (0 < ordR (L.getD k zeR) (L.getD x.toNat zeR)))) then (k : Int) else x) := be_nextF x HX.out _ (by rw [HK.out, ← HY.out]; rfl)
        clear HCC1
        generalize (Y && (decide (x < 0) || decide (0 < ordR (L.getD k zeR) (L.getD x.toNat zeR)))) = Z at *
        subst hc2
        cases Z
        · go_wp2
          go_roundw
          case rel => exact ⟨k + 1, by omega, by rw [HYY.out]; rfl, by go_num, hB2⟩
          case measure => simp [intOf]; omega
        · go_wp2
          go_roundw
          case rel => exact ⟨k + 1, by omega, by rw [HYY.out]; rfl, by go_num, hB2⟩
          case measure => simp [intOf]; omega
    · obtain rfl : k = n := by omega
      go_wp2
      go_ret
      exact ⟨by rw [← HX.out]; rfl, HB.out⟩

set_option maxHeartbeats 1000000 in
theorem find_nil (ao : Option Addr) (cap : Nat) (h : Int) (w : World) :
    Calls Tryz.prog 87 #[.slice ao 0 cap, .int .i64 h] w fun e w' => e = .returned (.int .i64 (-1)) ∧ Below w.heap.size w w' := by
  go_enter Tryz.func87, Tryz.ntmps87
  go_wp2
  go_loopw [5, 6] (fun x i wr => x = .int .i64 (-1) ∧ i = .int .i64 0 ∧ wr = w) (fun _ i _ => 0)
  case atStart => exact ⟨rfl, rfl, rfl⟩
  case round =>
    obtain ⟨rfl, rfl, rfl⟩ := hrel
    go_wp2
    go_ret
    exact ⟨rfl, Below.refl _ _⟩

theorem find_any (x : Value) (L : List Ru) (h : Int) (w : World) (hs : SR w x L) :
    Calls Tryz.prog 87 #[x, .int .i64 h] w fun e w' => e = .returned (.int .i64 (beTo L h L.length)) ∧ Below w.heap.size w w' := by
  rcases hs with ⟨ao, cap, rfl, rfl⟩ | ⟨g, o, cap, rfl, h1, h2, hc⟩
  · exact find_nil ao cap h w
  · exact find_some g o cap _ h L w hc rfl (Nat.le_trans h1 h2)
end Go.Proofs.YtpmcjelihdlfeaaGreatDoor
/- What the document's own bit answers: a contract for the walks above it. -/
namespace Go.Proofs.YtpmcjelihdlfeaaGreatDoor
open Go.RowKit
set_option linter.unusedSimpArgs false

theorem ediv_pow (x : Int) (k : Nat) : x / 2 ^ k / 2 = x / 2 ^ (k + 1) := by
  rw [Int.ediv_ediv_of_nonneg (Int.pow_nonneg (by decide)), ← Int.pow_succ]

set_option maxHeartbeats 400000 in
theorem refBit_any (x i : Int) (w : World) (hx : 0 ≤ x ∧ x < 16) (hi : 0 ≤ i ∧ i ≤ 3) :
    Calls Tryz.prog 117 #[.int .i64 x, .int .i64 i] w fun e w' => e = .returned (.bool (bitB x i.toNat)) ∧ w' = w := by
  obtain ⟨hx0, hx1⟩ := hx
  obtain ⟨hi0, hi1⟩ := hi
  go_enter Tryz.func117, Tryz.ntmps117
  go_wp2
  go_loop [0, 5] (fun v p => ∃ k : Nat, (k : Int) ≤ i ∧ p = .int .i64 k ∧ v = .int .i64 (x / 2 ^ k)) (fun _ p => (i - intOf p).toNat)
  case atStart => exact ⟨0, by omega, rfl, by simp⟩
  case round =>
    obtain ⟨k, hk, rfl, rfl⟩ := hrel
    have hE : 0 ≤ x / 2 ^ k := Int.ediv_nonneg hx0 (Int.pow_nonneg (by decide))
    have hE2 : x / 2 ^ k < 16 := Int.lt_of_le_of_lt (Int.ediv_le_self _ hx0) hx1
    have HP : Hid (x / 2 ^ k / 2 = x / 2 ^ (k + 1)) := ediv_pow x k
    by_cases hlt : (k : Int) < i
    · generalize x / 2 ^ k = y at *
      go_wp2
      go_round
      case rel => exact ⟨k + 1, by omega, by go_num, by rw [← HP.out]⟩
      case measure => simp [intOf]; omega
    · have hk2 : i.toNat = k := by omega
      have HB : Hid (bitB x i.toNat = (x / 2 ^ k % 2 == 1)) := by show _ = _; rw [hk2]; rfl
      clear hk2
      generalize x / 2 ^ k = y at *
      go_wp2
      go_ret
      refine ⟨?_, rfl⟩
      rw [HB.out]
      rfl
end Go.Proofs.YtpmcjelihdlfeaaGreatDoor
/- What the document's own Turned answers, of a rule and a header that are right. -/
namespace Go.Proofs.YtpmcjelihdlfeaaGreatDoor
open Go.RowKit
set_option linter.unusedSimpArgs false

set_option maxHeartbeats 2000000 in
theorem turned_any (p m b o s v h : Int) (w : World) (hs : 0 ≤ s ∧ s < 16) (hv : 0 ≤ v ∧ v < 16) (hh : 0 ≤ h ∧ h < 16) :
    Calls Tryz.prog 90 #[.agg #[.int .i64 p, .int .i64 m, .int .i64 b, .int .i64 o, .int .i64 s, .int .i64 v], .int .i64 h] w fun e w' => e = .returned (.int .i64 (tuTo s v h 4)) ∧ Below w.heap.size w w' := by
  go_enter Tryz.func90, Tryz.ntmps90
  go_wp2
  go_loop [5, 6] (fun t i => ∃ k : Nat, k ≤ 4 ∧ i = .int .i64 (3 - k) ∧ t = .int .i64 (tuTo s v h k)) (fun _ i => (intOf i + 1).toNat)
  case atStart => exact ⟨0, by omega, rfl, rfl⟩
  case round =>
    obtain ⟨k, hk, rfl, rfl⟩ := hrel
    have hbd := tu_bd s v h k
    have hp : (2 : Int) ^ k ≤ 16 := by
      rcases (by omega : k = 0 ∨ k = 1 ∨ k = 2 ∨ k = 3 ∨ k = 4) with rfl | rfl | rfl | rfl | rfl <;> decide
    have b0 := hbd.1
    have b1 : tuTo s v h k < 16 := Int.lt_of_lt_of_le hbd.2 hp
    clear hp hbd
    by_cases hlt : k < 4
    · have hi : (3 - (k : Int)).toNat = 3 - k := by omega
      have HI : Hid ((3 - (k : Int)).toNat = 3 - k) := hi
      have HT : Hid (tuTo s v h (k + 1) = if (bitB s (3 - k) && bitB v (3 - k) || !bitB s (3 - k) && bitB h (3 - k)) then tuTo s v h k * 2 + 1 else tuTo s v h k * 2) := by
        show tuTo s v h (k + 1) = _
        rfl
      clear hi
      generalize tuTo s v h k = T at *
      go_wp2_with fail
      refine (refBit_any _ _ _ hs (by omega)).mono ?_
      rintro e w' ⟨rfl, rfl⟩
      rw [HI.out]
      go_wp2_with fail
      refine (refBit_any _ _ _ hv (by omega)).mono ?_
      rintro e w' ⟨rfl, rfl⟩
      rw [HI.out]
      go_wp2_with fail
      refine (refBit_any _ _ _ hh (by omega)).mono ?_
      rintro e w' ⟨rfl, rfl⟩
      rw [HI.out]
      generalize bitB s (3 - k) = X at *
      generalize bitB v (3 - k) = Y at *
      generalize bitB h (3 - k) = Z at *
      cases X <;> cases Y <;> cases Z
      all_goals
        go_wp2
        go_round
        case rel => exact ⟨k + 1, by omega, by go_num, by rw [HT.out]; rfl⟩
        case measure => simp [intOf]; omega
    · obtain rfl : k = 4 := by omega
      go_wp2
      go_ret
      exact ⟨rfl, (Below.refl _ _).alloc (Nat.le_refl _) _⟩
end Go.Proofs.YtpmcjelihdlfeaaGreatDoor
/- Where a packet goes out, as the document's own functions say it: plain lists. No program in it. -/
namespace Go.Proofs.YtpmcjelihdlfeaaGreatDoor
open Go.RowKit
set_option linter.unusedVariables false

/-- The rule that counts, by its place. -/
def beR (t : List Ru) (h : Int) : Ru := t.getD (beTo t h t.length).toNat zeR
theorem ok_at {L : List Ru} (h : okR L = true) {k : Nat} (hk : k < L.length) : (L.getD k zeR).ok = true := by
  rw [getD_at hk]
  exact List.all_eq_true.1 h _ (List.getElem_mem hk)
/-- Of a right table and header. -/
theorem be_ok {t : List Ru} {h : Int} (ht : tbN t = 0) (hh : hdrB h = true) (hb : 0 ≤ beTo t h t.length) : luN t h = 0 ∧ roR t h = beR t h ∧ (beR t h).ok = true ∧ (beR t h).has h = true ∧ (beTo t h t.length).toNat < t.length := by
  have e : luN t h = 0 := lu_0.2 ⟨ht, hh, hb⟩
  have e2 : luI t h = beTo t h t.length := by rw [luI, if_pos e]
  have hlt : (beTo t h t.length).toNat < t.length := by
    have := be_bd t h t.length
    omega
  exact ⟨e, by rw [roR, e2]; rfl, ok_at (tb_0.1 ht).2.1 hlt, (be_yes hb).1, hlt⟩
theorem st_no {t : List Ru} {p : (Int × Int) × Int} (ht : tbN t = 0) (hh : hdrB p.2 = true) (hb : beTo t p.2 t.length < 0) : stT t p = none := by
  unfold stT
  rw [if_neg]
  intro e
  have := (lu_0.1 e).2.2
  omega
theorem ap_mk {r : Ru} {h : Int} (hr : r.ok = true) (hh : hdrB h = true) (hs : r.has h = true) : r.apN h = if r.o = 0 then 5 else 0 := by
  have e1 : ruOk r.p r.m r.b r.o r.s r.v = true := hr
  have e2 : hasB r.m r.b h = true := hs
  unfold Ru.apN apN
  rw [if_pos e1, if_pos hh, e2]
  by_cases e : r.o = 0
  · rw [if_pos e]
    simp [e]
  · rw [if_neg e]
    simp [e]
theorem st_drop {t : List Ru} {p : (Int × Int) × Int} (ht : tbN t = 0) (hh : hdrB p.2 = true) (hb : 0 ≤ beTo t p.2 t.length) (ho : (beR t p.2).o = 0) : stT t p = none := by
  obtain ⟨e1, e2, e3, e4, _⟩ := be_ok ht hh hb
  unfold stT
  rw [if_pos e1, e2, ap_mk e3 hh e4, if_pos ho]
  rfl
theorem st_yes {t : List Ru} {p : (Int × Int) × Int} (ht : tbN t = 0) (hh : hdrB p.2 = true) (hb : 0 ≤ beTo t p.2 t.length) (ho : (beR t p.2).o ≠ 0) :
    stT t p = some ((p.1.1, (beR t p.2).o), tuTo (beR t p.2).s (beR t p.2).v p.2 4) ∧ (0 ≤ (beR t p.2).s ∧ (beR t p.2).s < 16) ∧ (0 ≤ (beR t p.2).v ∧ (beR t p.2).v < 16) := by
  obtain ⟨e1, e2, e3, e4, _⟩ := be_ok ht hh hb
  have ha := ap_mk e3 hh e4
  rw [if_neg ho] at ha
  have h3 : ruOk (beR t p.2).p (beR t p.2).m (beR t p.2).b (beR t p.2).o (beR t p.2).s (beR t p.2).v = true := e3
  obtain ⟨g1, _, g3⟩ := ru_ok h3
  obtain ⟨_, hs, hv⟩ := ru_in g1
  simp only [ruSet, Bool.and_eq_true] at g3
  refine ⟨?_, hs, hv⟩
  unfold stT
  rw [if_pos e1, e2, if_pos ha, tu_ap hs hv (hdr_of hh) g3.1]
  have : (beR t p.2).apR p.2 = apV (beR t p.2).s (beR t p.2).v p.2 := by
    unfold Ru.apR apR
    exact if_pos ha
  rw [this]
end Go.Proofs.YtpmcjelihdlfeaaGreatDoor
/- What becomes of a packet, one round: plain lists. No program in it. -/
namespace Go.Proofs.YtpmcjelihdlfeaaGreatDoor
open Go.RowKit
set_option linter.unusedVariables false

section
variable {Ls : List ((Int × Int) × (Int × Int))} {Hs : List (ByteArray × (Int × Int))} {Ts : List (List Ru)} {l : List ((Int × Int) × Int)} {q : (Int × Int) × Int}
theorem fo_r (h : l.length ≤ 24) : foF Ls Hs Ts (25 - l.length) l = match enE Ls Hs Ts l (laH l) with | .inl e => (e.1, e.2, l) | .inr p => foF Ls Hs Ts (24 - l.length) (l ++ [p]) := by
  have e : 25 - l.length = (24 - l.length) + 1 := by omega
  rw [e]
  exact fo_s _ _
theorem fo_2 (h : l.length ≤ 24) (hA : stO Ts (laH l) = none) : foF Ls Hs Ts (25 - l.length) l = (2, ByteArray.empty, l) := by
  have e : enE Ls Hs Ts l (laH l) = .inl (2, ByteArray.empty) := by
    unfold enE goE
    rw [show stT (taT Ts (laH l).1.1) (laH l) = none from hA]
  rw [fo_r h, e]
theorem fo_1 (h : l.length ≤ 24) (hA : stO Ts (laH l) = some q) {m : ByteArray} (ha : atO Hs q.1 = some m) : foF Ls Hs Ts (25 - l.length) l = (1, m, l) := by
  have e : enE Ls Hs Ts l (laH l) = .inl (1, m) := by
    unfold enE goE
    rw [show stT (taT Ts (laH l).1.1) (laH l) = some q from hA]
    simp only [ha]
  rw [fo_r h, e]
theorem fo_3 (h : l.length ≤ 24) (hA : stO Ts (laH l) = some q) (ha : atO Hs q.1 = none) (hp : peerO Ls q.1 = none) : foF Ls Hs Ts (25 - l.length) l = (3, ByteArray.empty, l) := by
  have e : enE Ls Hs Ts l (laH l) = .inl (3, ByteArray.empty) := by
    unfold enE goE
    rw [show stT (taT Ts (laH l).1.1) (laH l) = some q from hA]
    simp only [ha, hp]
  rw [fo_r h, e]
theorem fo_4 (h : l.length ≤ 24) (hA : stO Ts (laH l) = some q) (ha : atO Hs q.1 = none) {s : Int × Int} (hp : peerO Ls q.1 = some s) (h4 : l.length = 24 ∨ (l.any fun x => heB (s, q.2) x) = true) : foF Ls Hs Ts (25 - l.length) l = (4, ByteArray.empty, l) := by
  have e : enE Ls Hs Ts l (laH l) = .inl (4, ByteArray.empty) := by
    unfold enE goE
    rw [show stT (taT Ts (laH l).1.1) (laH l) = some q from hA]
    simp only [ha, hp]
    rw [if_pos h4]
  rw [fo_r h, e]
theorem fo_n (h : l.length ≤ 24) (hA : stO Ts (laH l) = some q) (ha : atO Hs q.1 = none) {s : Int × Int} (hp : peerO Ls q.1 = some s) (h4 : l.length ≠ 24) (h5 : (l.any fun x => heB (s, q.2) x) = false) : foF Ls Hs Ts (25 - l.length) l = foF Ls Hs Ts (25 - (l ++ [(s, q.2)]).length) (l ++ [(s, q.2)]) := by
  have e : enE Ls Hs Ts l (laH l) = .inr (s, q.2) := by
    unfold enE goE
    rw [show stT (taT Ts (laH l).1.1) (laH l) = some q from hA]
    simp only [ha, hp]
    rw [if_neg]
    rw [not_or, h5]
    exact ⟨h4, by simp⟩
  rw [fo_r h, e]
  simp only [List.length_append, List.length_cons, List.length_nil]
  rw [show 24 - l.length = 25 - (l.length + (0 + 1)) by omega]
theorem la_app (l : List ((Int × Int) × Int)) (p : (Int × Int) × Int) : laH (l ++ [p]) = p := by
  rw [la_at]
  simp only [List.length_append, List.length_cons, List.length_nil, Nat.add_sub_cancel, Nat.zero_add]
  exact at_app l p
end
end Go.Proofs.YtpmcjelihdlfeaaGreatDoor
/- What Table of package rule answers, called with any table: the loop. -/
namespace Go.Proofs.YtpmcjelihdlfeaaGreatDoor
open Go.RowKit
set_option linter.unusedSimpArgs false

theorem tb_long {L : List Ru} (h : 12 < L.length) : tbN L = 4 := by simp [tbN, h]
theorem tb_at {L : List Ru} (h : L.length ≤ 12) {k : Nat} (hk : k < L.length) {x : Int} (h1 : tbTo L (k + 1) = x) (h2 : x ≠ 0) : tbN L = x := by
  subst h1
  rw [tbN, if_neg (by omega)]
  exact to_le h2 hk
theorem to_bad {L : List Ru} {k : Nat} {r : Ru} (hk : k < L.length) (hr : L[k] = r) (h : tbTo L k = 0) (h2 : r.n ≠ 0) : tbTo L (k + 1) = r.n := by
  rw [tbTo, if_pos h, getD_at hk, hr, if_neg h2]
theorem to_clash {L : List Ru} {k : Nat} {r : Ru} (hk : k < L.length) (hr : L[k] = r) (h : tbTo L k = 0) (h2 : r.n = 0) (h3 : (L.take k).any (fun a => keyB a r) = true) : tbTo L (k + 1) = 7 := by
  rw [tbTo, if_pos h, getD_at hk, hr, if_pos h2, h3]
  rfl
theorem to_next {L : List Ru} {k : Nat} {r : Ru} (hk : k < L.length) (hr : L[k] = r) (h : tbTo L k = 0) (h2 : r.n = 0) (h3 : (L.take k).any (fun a => keyB a r) = false) : tbTo L (k + 1) = 0 := by
  rw [tbTo, if_pos h, getD_at hk, hr, if_pos h2, h3]
  rfl

set_option maxHeartbeats 1000000 in
theorem table_some (g o cap n : Nat) (L : List Ru) (w : World) (hc : RAt w g o L) (hn : L.length = n) (hl : n ≤ 12) (hcap : n ≤ cap) (hcap2 : cap ≤ maxLen) :
    Calls Tryz.prog 57 #[.slice (some ⟨g, o, none⟩) n cap] w fun e w' => e = .returned (noV (tbN L)) ∧ Below w.heap.size w w' := by
  have HN : Hid (L.length = n) := hn
  unfold maxLen at hcap2
  clear hn
  go_enter Tryz.func57, Tryz.ntmps57
  go_wp2
  go_loopw [12] (fun i wr => ∃ k : Nat, k ≤ n ∧ i = .int .i64 k ∧ tbTo L k = 0 ∧ Below w.heap.size w wr) (fun i _ => n - (intOf i).toNat)
  case atStart => exact ⟨0, by omega, rfl, rfl, Below.refl _ _⟩
  case round =>
    obtain ⟨k, hk, rfl, hno, hB⟩ := hrel
    have HB : Hid (Below w.heap.size w wr) := hB
    have HNO : Hid (tbTo L k = 0) := hno
    clear hno
    by_cases hlt : k < n
    · obtain ⟨p, m, b, q, s, v, hkl, hL, q0, q1, q2, q3, q4, q5⟩ := (hc.later hB).at HN.out hlt
      have HL : Hid (L[k] = ⟨p, m, b, q, s, v⟩) := hL
      have HC6 := C6.new wr p m b q s v 117
      have HRT := ((hc.later hB).later ((Below.refl _ _).alloc (Nat.le_refl _) (Obj.cells #[Value.int IntKind.i64 p, Value.int IntKind.i64 m, Value.int IntKind.i64 b, Value.int IntKind.i64 q, Value.int IntKind.i64 s, Value.int IntKind.i64 v] 117))).take k
      have HTL : Hid ((L.take k).length = k) := by show (L.take k).length = k; simp; omega
      have hk2 : k ≤ cap := by omega
      clear hL hB
      by_cases ho : ruN p m b q s v = 0
      · go_wp2_with fail
        refine (ruCheck_any _ _ _ _ _ _ _).mono ?_
        rintro e w1 ⟨rfl, hb1⟩
        rw [no_ok ho]
        have HB1 := HB.out.trans (((Below.refl _ _).alloc (Nat.le_refl _) _).trans (hb1.mono (by simp)) |>.mono HB.out.size)
        have HC7 := HC6.later hb1
        have HR7 := HRT.later hb1
        clear hb1 HC6 HRT
        cases ho2 : (L.take k).any (fun a => keyB a ⟨p, m, b, q, s, v⟩)
        · go_wp2_with fail
          refine (containsR_any _ _ _ k _ ⟨p, m, b, q, s, v⟩ (L.take k) _ HR7 HTL.out (by unfold maxLen; omega) (by unfold maxLen; omega) HC7).mono ?_
          rintro e w2 ⟨rfl, hb2⟩
          rw [ho2]
          have HB2 := HB1.trans (hb2.mono HB1.size)
          clear hb2
          go_wp2
          go_roundw
          case rel => exact ⟨k + 1, by omega, by go_num, to_next hkl HL.out HNO.out ho ho2, HB2⟩
          case measure => simp [intOf]; omega
        · go_wp2_with fail
          refine (containsR_any _ _ _ k _ ⟨p, m, b, q, s, v⟩ (L.take k) _ HR7 HTL.out (by unfold maxLen; omega) (by unfold maxLen; omega) HC7).mono ?_
          rintro e w2 ⟨rfl, hb2⟩
          rw [ho2]
          have HB2 := HB1.trans (hb2.mono HB1.size)
          clear hb2
          go_wp2
          go_ret
          refine ⟨?_, HB2⟩
          rw [tb_at (by rw [HN.out]; exact hl) hkl (to_clash hkl HL.out HNO.out ho ho2) (by decide)]
          rfl
      · go_wp2_with fail
        refine (ruCheck_any _ _ _ _ _ _ _).mono ?_
        rintro e w1 ⟨rfl, hb1⟩
        rw [no_ne ho]
        have HB1 := HB.out.trans (((Below.refl _ _).alloc (Nat.le_refl _) _).trans (hb1.mono (by simp)) |>.mono HB.out.size)
        clear hb1
        go_wp2
        go_ret
        refine ⟨?_, HB1⟩
        rw [tb_at (by rw [HN.out]; exact hl) hkl (to_bad hkl HL.out HNO.out ho) ho, no_ne (show Ru.n ⟨p, m, b, q, s, v⟩ ≠ 0 from ho)]
        rfl
    · obtain rfl : k = n := by omega
      go_wp2
      go_ret
      refine ⟨?_, HB.out⟩
      have e1 : tbN L = 0 := by
        rw [tbN, if_neg (by rw [HN.out]; omega), HN.out]
        exact HNO.out
      rw [e1]
      rfl

set_option maxHeartbeats 1000000 in
theorem table_long (ao : Option Addr) (cap n : Nat) (w : World) (hl : 12 < n) :
    Calls Tryz.prog 57 #[.slice ao n cap] w fun e w' => e = .returned (.iface 57 (.int .i64 4)) ∧ Below w.heap.size w w' := by
  go_enter Tryz.func57, Tryz.ntmps57
  go_wp2
  go_ret
  exact ⟨rfl, Below.refl _ _⟩

set_option maxHeartbeats 1000000 in
theorem table_nil (ao : Option Addr) (cap : Nat) (w : World) :
    Calls Tryz.prog 57 #[.slice ao 0 cap] w fun e w' => e = .returned .nilIface ∧ Below w.heap.size w w' := by
  go_enter Tryz.func57, Tryz.ntmps57
  go_wp2
  go_loopw [12] (fun i wr => i = .int .i64 0 ∧ wr = w) (fun i _ => 0)
  case atStart => exact ⟨rfl, rfl⟩
  case round =>
    obtain ⟨rfl, rfl⟩ := hrel
    go_wp2
    go_ret
    exact ⟨rfl, Below.refl _ _⟩

theorem table_any (v : Value) (L : List Ru) (w : World) (h : SR w v L) :
    Calls Tryz.prog 57 #[v] w fun e w' => e = .returned (noV (tbN L)) ∧ Below w.heap.size w w' := by
  rcases h with ⟨ao, cap, rfl, rfl⟩ | ⟨g, o, cap, rfl, h1, h2, hc⟩
  · exact table_nil ao cap w
  · by_cases h12 : 12 < L.length
    · rw [tb_long h12]; exact table_long _ _ _ _ h12
    · exact table_some _ _ _ _ L w hc rfl (by omega) h1 h2
end Go.Proofs.YtpmcjelihdlfeaaGreatDoor
/- What net.Check answers: a contract for the walks above it. -/
namespace Go.Proofs.YtpmcjelihdlfeaaGreatDoor
open Go.RowKit
set_option linter.unusedSimpArgs false
set_option linter.unusedVariables false

/-- These tables lie one behind the other. -/
def TAt (w : World) (g o : Nat) (Ts : List (List Ru)) : Prop := ∀ i (h : i < Ts.length), ∃ ao n cap, w.cell? ⟨g, o + i, none⟩ = some (.slice ao n cap) ∧ SR w (.slice ao n cap) Ts[i]
theorem TAt.later {w w' : World} {g o : Nat} {Ts : List (List Ru)} (h : TAt w g o Ts) (hb : Below w.heap.size w w') : TAt w' g o Ts := fun i hi => by
  obtain ⟨ao, n, cap, h1, h2⟩ := h i hi
  exact ⟨ao, n, cap, cell_later hb h1, h2.later hb⟩
/-- A value is a slice of these tables. -/
def TS (w : World) (v : Value) (Ts : List (List Ru)) : Prop :=
  (∃ ao cap, v = .slice ao 0 cap ∧ Ts = []) ∨ ∃ g o cap, v = .slice (some ⟨g, o, none⟩) Ts.length cap ∧ Ts.length ≤ cap ∧ cap ≤ maxLen ∧ TAt w g o Ts
theorem TS.later {w w' : World} {v : Value} {Ts : List (List Ru)} (h : TS w v Ts) (hb : Below w.heap.size w w') : TS w' v Ts := by
  rcases h with h | ⟨g, o, cap, h1, h2, h3, h4⟩
  · exact .inl h
  · exact .inr ⟨g, o, cap, h1, h2, h3, h4.later hb⟩
theorem TS.form {w : World} {v : Value} {Ts : List (List Ru)} (h : TS w v Ts) : ∃ ao n cap, v = .slice ao n cap ∧ Ts.length = n ∧ n ≤ maxLen ∧ n ≤ cap ∧ (0 < n → ∃ g o, ao = some ⟨g, o, none⟩ ∧ TAt w g o Ts ∧ cap ≤ maxLen) := by
  rcases h with ⟨ao, cap, rfl, rfl⟩ | ⟨g, o, cap, rfl, h1, h2, h3⟩
  · exact ⟨ao, 0, cap, rfl, rfl, Nat.zero_le _, Nat.zero_le _, fun h => absurd h (by omega)⟩
  · exact ⟨_, _, cap, rfl, rfl, Nat.le_trans h1 h2, h1, fun _ => ⟨g, o, rfl, h3, h2⟩⟩
theorem TS.len {w : World} {ao : Option Addr} {n cap : Nat} {Ts : List (List Ru)} (h : TS w (.slice ao n cap) Ts) : Ts.length = n := by
  rcases h with ⟨_, _, e, rfl⟩ | ⟨_, _, _, e, _⟩
  · simp at e; simp [e]
  · simp at e; exact e.2.1.symm
theorem getT {Ts : List (List Ru)} {k : Nat} (hk : k < Ts.length) : Ts.getD k [] = Ts[k] := by simp [List.getD, hk]
/-- The box of a net. -/
def NeBox (W : World) (g : Nat) (S : Int) (v1 v2 v3 : Value) : Prop := W.cell? ⟨g, 0, none⟩ = some (.int .i64 S) ∧ W.cell? ⟨g, 1, none⟩ = some v1 ∧ W.cell? ⟨g, 2, none⟩ = some v2 ∧ W.cell? ⟨g, 3, none⟩ = some v3
theorem nebox_new (w : World) (S : Int) (v1 v2 v3 : Value) (t : TypeId) : NeBox (w.alloc (Obj.cells #[.int .i64 S, v1, v2, v3] t)) w.heap.size S v1 v2 v3 := by
  refine ⟨?_, ?_, ?_, ?_⟩ <;> simp
theorem NeBox.later {W W' : World} {g : Nat} {S : Int} {v1 v2 v3 : Value} (h : NeBox W g S v1 v2 v3) (hb : Below W.heap.size W W') : NeBox W' g S v1 v2 v3 :=
  ⟨cell_later hb h.1, cell_later hb h.2.1, cell_later hb h.2.2.1, cell_later hb h.2.2.2⟩

set_option maxHeartbeats 2000000 in
set_option maxRecDepth 100000 in
theorem ncheck_any (S : Int) (ao : Option Addr) (n cap : Nat) (ao2 : Option Addr) (n2 cap2 : Nat) (ao3 : Option Addr) (n3 cap3 : Nat) (Ls : List ((Int × Int) × (Int × Int))) (Hs : List (ByteArray × (Int × Int))) (Ts : List (List Ru)) (w : World)
    (hL : GS lnkE w (.slice ao n cap) Ls) (hH : GS hstE w (.slice ao2 n2 cap2) Hs) (hT : TS w (.slice ao3 n3 cap3) Ts) :
    Calls Tryz.prog 33 #[.agg #[.int .i64 S, .slice ao n cap, .slice ao2 n2 cap2, .slice ao3 n3 cap3]] w fun e w' => e = .returned (noV (ntN S Ls Hs Ts)) ∧ Below w.heap.size w w' := by
  have hb1 : Below w.heap.size w (w.alloc (Obj.cells #[.int .i64 S, .slice ao n cap, .slice ao2 n2 cap2, .slice ao3 n3 cap3] 28)) := (Below.refl _ _).alloc (Nat.le_refl _) _
  obtain ⟨C, hC⟩ : ∃ C, C = ntN S Ls Hs Ts := ⟨_, rfl⟩
  have HC : Hid (C = ntN S Ls Hs Ts) := hC
  rw [← hC]
  have HL2 : Hid (GS lnkE (w.alloc (Obj.cells #[.int .i64 S, .slice ao n cap, .slice ao2 n2 cap2, .slice ao3 n3 cap3] 28)) (.slice ao n cap) Ls) := hL.later hb1
  have HH2 : Hid (GS hstE (w.alloc (Obj.cells #[.int .i64 S, .slice ao n cap, .slice ao2 n2 cap2, .slice ao3 n3 cap3] 28)) (.slice ao2 n2 cap2) Hs) := hH.later hb1
  have HT2 : Hid (TS (w.alloc (Obj.cells #[.int .i64 S, .slice ao n cap, .slice ao2 n2 cap2, .slice ao3 n3 cap3] 28)) (.slice ao3 n3 cap3) Ts) := hT.later hb1
  have HB2 : Hid (Below w.heap.size w (w.alloc (Obj.cells #[.int .i64 S, .slice ao n cap, .slice ao2 n2 cap2, .slice ao3 n3 cap3] 28))) := hb1
  have HX : Hid (NeBox (w.alloc (Obj.cells #[.int .i64 S, .slice ao n cap, .slice ao2 n2 cap2, .slice ao3 n3 cap3] 28)) w.heap.size S (.slice ao n cap) (.slice ao2 n2 cap2) (.slice ao3 n3 cap3)) := nebox_new w S _ _ _ 28
  clear hC hb1 hL hH hT
  go_enter Tryz.func33, Tryz.ntmps33
  go_wp2_with fail
  refine (check_any S ao n cap ao2 n2 cap2 Ls Hs _ HL2.out HH2.out).mono ?_
  rintro e w1 ⟨rfl, hb1⟩
  obtain ⟨T, hT⟩ : ∃ T, T = tpN S Ls Hs := ⟨_, rfl⟩
  have HT : Hid (T = tpN S Ls Hs) := hT
  rw [← hT]
  have HB1 : Hid (Below w.heap.size w w1) := HB2.out.trans (hb1.mono HB2.out.size)
  obtain ⟨b0, b1, b2, b3⟩ := HX.out.later hb1
  have HT1 : Hid (TS w1 (.slice ao3 n3 cap3) Ts) := HT2.out.later hb1
  clear hT hb1 HX HL2 HH2 HB2 HT2
  by_cases h0 : T = 0
  · subst h0
    rw [no_ok rfl]
    obtain ⟨_, _, _, e2, hTn, hTm, _, hTa⟩ := HT1.out.form
    cases e2
    have HTN : Hid (Ts.length = n3) := hTn
    have HTM : Hid (n3 ≤ maxLen) := hTm
    have HTA : Hid (0 < n3 → ∃ g o, ao3 = some ⟨g, o, none⟩ ∧ TAt w1 g o Ts ∧ cap3 ≤ maxLen) := hTa
    have n63 : n3 ≤ 9223372036854775807 := by unfold maxLen at hTm; omega
    clear hTn hTm hTa HT1
    by_cases hS : (n3 : Int) = S
    · have HC2 : Hid (C = tsTo Ts n3) := by
        show _ = _
        rw [HC.out, ntN, if_pos HT.out.symm, if_pos (by rw [HTN.out]; exact hS), HTN.out]
      have e1 : ((n3 : Int) != S) = false := by simp [hS]
      clear hS HC
      go_wp2
      go_loopw [24] (fun i wr => ∃ k : Nat, k ≤ n3 ∧ i = .int .i64 k ∧ tsTo Ts k = 0 ∧ Below w1.heap.size w1 wr) (fun i _ => n3 - (intOf i).toNat)
      case atStart => exact ⟨0, by omega, rfl, rfl, Below.refl _ _⟩
      case round =>
        obtain ⟨k, hk, rfl, hz, hB⟩ := hrel
        have HZ : Hid (tsTo Ts k = 0) := hz
        have HB : Hid (Below w1.heap.size w1 wr) := hB
        have HBw : Hid (Below w.heap.size w wr) := HB1.out.trans (hB.mono HB1.out.size)
        clear hz b0 b1 b2 b3
        by_cases hlt : k < n3
        · obtain ⟨g, o, hao, hc, _⟩ := HTA.out (by omega)
          subst hao
          obtain ⟨a4, n4, c4, q0, hs⟩ := (hc.later hB) k (by rw [HTN.out]; exact hlt)
          have HS4 : Hid (SR wr (.slice a4 n4 c4) (Ts.getD k [])) := by
            show SR _ _ _
            rw [getT (by rw [HTN.out]; exact hlt)]
            exact hs
          clear hs hc hB
          go_wp2_with fail
          refine (table_any _ (Ts.getD k []) _ HS4.out).mono ?_
          rintro e w2 ⟨rfl, hb2⟩
          obtain ⟨R, hR⟩ : ∃ R, R = tbN (Ts.getD k []) := ⟨_, rfl⟩
          have HR : Hid (tsTo Ts (k + 1) = R) := by
            show _ = _
            rw [tsTo, if_pos HZ.out, hR]
          rw [← hR]
          have HB3 : Hid (Below w1.heap.size w1 w2) := HB.out.trans (hb2.mono HB.out.size)
          have HBw3 : Hid (Below w.heap.size w w2) := HBw.out.trans (hb2.mono HBw.out.size)
          clear hR hb2 q0
          by_cases hN : R = 0
          · subst hN
            rw [no_ok rfl]
            go_wp2
            go_roundw
            case rel => exact ⟨k + 1, by omega, by go_num, HR.out, HB3.out⟩
            case measure => simp [intOf]; omega
          · rw [no_ne hN]
            have HCR : Hid (C = R) := by
              show _ = _
              rw [HC2.out, ts_le (k := k + 1) (by rw [HR.out]; exact hN) (by omega), HR.out]
            have HNN : Hid (R ≠ 0) := hN
            clear hN
            go_wp2
            go_ret
            exact ⟨by rw [HCR.out, no_ne HNN.out]; rfl, HBw3.out⟩
        · obtain rfl : k = n3 := by omega
          have HCR : Hid (C = 0) := by
            show _ = _
            rw [HC2.out, HZ.out]
          clear hB
          go_wp2
          go_ret
          exact ⟨by rw [HCR.out]; rfl, HBw.out⟩
    · have HC2 : Hid (C = 3) := by
        show _ = _
        rw [HC.out, ntN, if_pos HT.out.symm, if_neg (by rw [HTN.out]; exact hS)]
      have e1 : ((n3 : Int) != S) = true := by simpa using hS
      clear hS HC
      go_wp2
      go_ret
      exact ⟨by rw [HC2.out]; rfl, HB1.out⟩
  · rw [no_ne h0]
    have HC2 : Hid (C = T) := by
      show _ = _
      rw [HC.out, ntN, ← HT.out, if_neg h0]
    have HN0 : Hid (T ≠ 0) := h0
    clear h0
    go_wp2
    go_ret
    exact ⟨by rw [HC2.out, no_ne HN0.out]; rfl, HB1.out⟩
end Go.Proofs.YtpmcjelihdlfeaaGreatDoor
/- What order of package rule answers, called with any two rules. -/
namespace Go.Proofs.YtpmcjelihdlfeaaGreatDoor
open Go.RowKit
set_option linter.unusedSimpArgs false

set_option maxHeartbeats 1000000 in
theorem nan_any (a : Int) (w : World) : Calls Tryz.prog 145 #[.int .i64 a] w fun e w' => e = .returned (.bool false) ∧ w' = w := by
  go_enter Tryz.func145, Tryz.ntmps145
  go_wp2
  go_ret
  exact ⟨by simp, rfl⟩

set_option maxHeartbeats 1000000 in
theorem compare_any (a b : Int) (w : World) : Calls Tryz.prog 144 #[.int .i64 a, .int .i64 b] w fun e w' => e = .returned (.int .i64 (cmpN a b)) ∧ w' = w := by
  by_cases h1 : a < b
  · have e : cmpN a b = -1 := by simp [cmpN, h1]
    rw [e]; clear e
    have g1 : decide (a < b) = true := by simpa using h1
    go_enter Tryz.func144, Tryz.ntmps144
    go_wp2_with (first | (go_at_call 145; refine (nan_any _ _).mono ?_; rintro e w' ⟨rfl, rfl⟩))
    go_ret
    exact ⟨rfl, rfl⟩
  · have g1 : decide (a < b) = false := by simpa using h1
    by_cases h2 : b < a
    · have e : cmpN a b = 1 := by simp [cmpN, h1, h2]
      rw [e]; clear e
      have g2 : decide (b < a) = true := by simpa using h2
      go_enter Tryz.func144, Tryz.ntmps144
      go_wp2_with (first | (go_at_call 145; refine (nan_any _ _).mono ?_; rintro e w' ⟨rfl, rfl⟩))
      go_ret
      exact ⟨rfl, rfl⟩
    · have e : cmpN a b = 0 := by simp [cmpN, h1, h2]
      rw [e]; clear e
      have g2 : decide (b < a) = false := by simpa using h2
      go_enter Tryz.func144, Tryz.ntmps144
      go_wp2_with (first | (go_at_call 145; refine (nan_any _ _).mono ?_; rintro e w' ⟨rfl, rfl⟩))
      go_ret
      exact ⟨rfl, rfl⟩

set_option maxHeartbeats 1000000 in
theorem or_any (x y z : Int) (g : Nat) (w : World) (h0 : w.cell? ⟨g, 0, none⟩ = some (.int .i64 x)) (h1 : w.cell? ⟨g, 1, none⟩ = some (.int .i64 y)) (h2 : w.cell? ⟨g, 2, none⟩ = some (.int .i64 z)) :
    Calls Tryz.prog 143 #[.slice (some ⟨g, 0, none⟩) 3 3] w fun e w' => e = .returned (.int .i64 (orN x y z)) ∧ w' = w := by
  generalize hq : orN x y z = q
  have HQ : Hid ((if x = 0 then (if y = 0 then z else y) else x) = q) := hq
  clear hq
  go_enter Tryz.func143, Tryz.ntmps143
  go_wp2
  go_loopw [8] (fun i wr => ∃ k : Nat, k ≤ 3 ∧ i = .int .i64 k ∧ (0 < k → x = 0) ∧ (1 < k → y = 0) ∧ (2 < k → z = 0) ∧ wr = w) (fun i _ => 3 - (intOf i).toNat)
  case atStart => exact ⟨0, by omega, rfl, by omega, by omega, by omega, rfl⟩
  case round =>
    obtain ⟨k, hk, rfl, a0, a1, a2, hw⟩ := hrel
    replace hw := hw.symm
    subst hw
    rcases (by omega : k = 0 ∨ k = 1 ∨ k = 2 ∨ k = 3) with rfl | rfl | rfl | rfl
    · clear a0 a1 a2
      by_cases hx : x = 0
      · have g1 : (x == 0) = true := by simpa using hx
        have g2 : (x != 0) = false := by simpa using hx
        go_wp2
        go_roundw
        case rel => exact ⟨1, by omega, rfl, fun _ => hx, by omega, by omega, trivial⟩
        case measure => simp [intOf]
      · have g1 : (x == 0) = false := by simpa using hx
        have g2 : (x != 0) = true := by simpa using hx
        go_wp2
        go_ret
        exact ⟨by rw [← HQ.out, if_neg hx]; rfl, rfl⟩
    · have hx := a0 (by omega)
      clear a0 a1 a2
      by_cases hy : y = 0
      · have g1 : (y == 0) = true := by simpa using hy
        have g2 : (y != 0) = false := by simpa using hy
        go_wp2
        go_roundw
        case rel => exact ⟨2, by omega, rfl, fun _ => hx, fun _ => hy, by omega, trivial⟩
        case measure => simp [intOf]
      · have g1 : (y == 0) = false := by simpa using hy
        have g2 : (y != 0) = true := by simpa using hy
        go_wp2
        go_ret
        exact ⟨by rw [← HQ.out, if_pos hx, if_neg hy]; rfl, rfl⟩
    · have hx := a0 (by omega)
      have hy := a1 (by omega)
      clear a0 a1 a2
      by_cases hz : z = 0
      · have g1 : (z == 0) = true := by simpa using hz
        have g2 : (z != 0) = false := by simpa using hz
        go_wp2
        go_roundw
        case rel => exact ⟨3, by omega, rfl, fun _ => hx, fun _ => hy, fun _ => hz, trivial⟩
        case measure => simp [intOf]
      · have g1 : (z == 0) = false := by simpa using hz
        have g2 : (z != 0) = true := by simpa using hz
        go_wp2
        go_ret
        exact ⟨by rw [← HQ.out, if_pos hx, if_pos hy]; rfl, rfl⟩
    · have hx := a0 (by omega)
      have hy := a1 (by omega)
      have hz := a2 (by omega)
      clear a0 a1 a2
      go_wp2
      go_ret
      exact ⟨by rw [← HQ.out, if_pos hx, if_pos hy, hz]; rfl, rfl⟩

theorem compare_b (a b : Int) (w : World) : Calls Tryz.prog 144 #[.int .i64 a, .int .i64 b] w fun e w' => e = .returned (.int .i64 (cmpN a b)) ∧ Below w.heap.size w w' :=
  (compare_any a b w).mono fun _ w' h => ⟨h.1, by rw [h.2]; exact Below.refl _ _⟩
theorem or_b (x y z : Int) (g : Nat) (w : World) (h0 : w.cell? ⟨g, 0, none⟩ = some (.int .i64 x)) (h1 : w.cell? ⟨g, 1, none⟩ = some (.int .i64 y)) (h2 : w.cell? ⟨g, 2, none⟩ = some (.int .i64 z)) :
    Calls Tryz.prog 143 #[.slice (some ⟨g, 0, none⟩) 3 3] w fun e w' => e = .returned (.int .i64 (orN x y z)) ∧ Below w.heap.size w w' :=
  (or_any x y z g w h0 h1 h2).mono fun _ w' h => ⟨h.1, by rw [h.2]; exact Below.refl _ _⟩
theorem cells3 {W : World} (x y z : Value) (t : TypeId) :
    (W.alloc (.cells #[x, y, z] t)).cell? ⟨W.heap.size, 0, none⟩ = some x ∧ (W.alloc (.cells #[x, y, z] t)).cell? ⟨W.heap.size, 1, none⟩ = some y ∧ (W.alloc (.cells #[x, y, z] t)).cell? ⟨W.heap.size, 2, none⟩ = some z := by
  refine ⟨?_, ?_, ?_⟩ <;> simp
/-- Two rules in the two blocks from B on, as far as order reads them. -/
def OS (w : World) (p m b p' m' b' : Int) (w' : World) : Prop :=
  Below w.heap.size w w' ∧ (w'.cell? ⟨w.heap.size, 0, none⟩ = some (.int .i64 p) ∧ w'.cell? ⟨w.heap.size, 1, none⟩ = some (.int .i64 m) ∧ w'.cell? ⟨w.heap.size, 2, none⟩ = some (.int .i64 b)) ∧
    (w'.cell? ⟨w.heap.size + 1, 0, none⟩ = some (.int .i64 p') ∧ w'.cell? ⟨w.heap.size + 1, 1, none⟩ = some (.int .i64 m') ∧ w'.cell? ⟨w.heap.size + 1, 2, none⟩ = some (.int .i64 b'))
theorem OS.later {w W W' : World} {p m b p' m' b' : Int} (hb : Below W.heap.size W W') (h : OS w p m b p' m' b' W) : OS w p m b p' m' b' W' := by
  obtain ⟨h0, ⟨h1, h2, h3⟩, ⟨h4, h5, h6⟩⟩ := h
  exact ⟨h0.trans (hb.mono h0.size), ⟨cell_later hb h1, cell_later hb h2, cell_later hb h3⟩, ⟨cell_later hb h4, cell_later hb h5, cell_later hb h6⟩⟩

set_option maxHeartbeats 400000 in
theorem order_any (p m b o s v p' m' b' o' s' v' : Int) (w : World) :
    Calls Tryz.prog 137 #[.agg #[.int .i64 p, .int .i64 m, .int .i64 b, .int .i64 o, .int .i64 s, .int .i64 v], .agg #[.int .i64 p', .int .i64 m', .int .i64 b', .int .i64 o', .int .i64 s', .int .i64 v']] w fun e w' => e = .returned (.int .i64 (ordN p m b p' m' b')) ∧ Below w.heap.size w w' := by
  have hS0 : OS w p m b p' m' b' ((w.alloc (Obj.cells #[Value.int IntKind.i64 p, Value.int IntKind.i64 m, Value.int IntKind.i64 b, Value.int IntKind.i64 o, Value.int IntKind.i64 s, Value.int IntKind.i64 v] 117)).alloc (Obj.cells #[Value.int IntKind.i64 p', Value.int IntKind.i64 m', Value.int IntKind.i64 b', Value.int IntKind.i64 o', Value.int IntKind.i64 s', Value.int IntKind.i64 v'] 117)) := by
    refine ⟨((Below.refl _ _).alloc (Nat.le_refl _) _).alloc (by simp) _, ⟨?_, ?_, ?_⟩, ⟨?_, ?_, ?_⟩⟩ <;> simp
  go_enter Tryz.func137, Tryz.ntmps137
  go_wp2
  generalize ((w.alloc (Obj.cells #[Value.int IntKind.i64 p, Value.int IntKind.i64 m, Value.int IntKind.i64 b, Value.int IntKind.i64 o, Value.int IntKind.i64 s, Value.int IntKind.i64 v] 117)).alloc (Obj.cells #[Value.int IntKind.i64 p', Value.int IntKind.i64 m', Value.int IntKind.i64 b', Value.int IntKind.i64 o', Value.int IntKind.i64 s', Value.int IntKind.i64 v'] 117)) = W0 at *
  unfold OS at hS0
  go_region_held3 (fun w' => Below w.heap.size w w' ∧ (w'.cell? ⟨w.heap.size, 0, none⟩ = some (.int .i64 p) ∧ w'.cell? ⟨w.heap.size, 1, none⟩ = some (.int .i64 m) ∧ w'.cell? ⟨w.heap.size, 2, none⟩ = some (.int .i64 b)) ∧
      (w'.cell? ⟨w.heap.size + 1, 0, none⟩ = some (.int .i64 p') ∧ w'.cell? ⟨w.heap.size + 1, 1, none⟩ = some (.int .i64 m') ∧ w'.cell? ⟨w.heap.size + 1, 2, none⟩ = some (.int .i64 b')))
    (first | assumption | exact OS.later (by assumption) (by assumption) | exact OS.later (Below.drew (Below.refl _ _)) (by assumption) | exact OS.later (Below.alloc (Below.refl _ _) (Nat.le_refl _) _) (by assumption))
    (first
      | (go_at_call 144; refine (compare_b _ _ _).mono ?_; rintro e w' ⟨rfl, hb⟩)
      | (go_at_call 143; refine (or_b (cmpN p p') (cmpN m m') (cmpN b b') _ _ (cells3 _ _ _ _).1 (cells3 _ _ _ _).2.1 (cells3 _ _ _ _).2.2).mono ?_; rintro e w' ⟨rfl, hb⟩))
  have hS := (‹Below w.heap.size w w' ∧ _›).1
  go_wp2
  go_ret
  exact ⟨rfl, hS⟩
end Go.Proofs.YtpmcjelihdlfeaaGreatDoor
