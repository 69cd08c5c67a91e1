/- What railref1.Peer answers: a contract for the walks above it. -/
import Derived.Test.YtfbocionnjlilacDoorRefTopo1
namespace Go.Proofs.YtfbocionnjlilacDoor
open Go.RowKit
set_option linter.unusedSimpArgs false
set_option linter.unusedVariables false

/-- The boxes: a topology, a spot, the answer's. -/
structure B3 (w W : World) (S : Int) (v1 v2 : Value) (x y : Int) : Prop where
  b : B2 w W S v1 v2 x y
  r0 : W.cell? ⟨w.heap.size + 1 + 1, 0, none⟩ = some (.int .i64 0)
  r1 : W.cell? ⟨w.heap.size + 1 + 1, 1, none⟩ = some (.int .i64 0)
  f : ∀ i, W.frozen? ⟨w.heap.size + 1 + 1, i, none⟩ = false
theorem B3.later {w W W' : World} {S : Int} {v1 v2 : Value} {x y : Int} (h : B3 w W S v1 v2 x y) (hb : Below W.heap.size W W') : B3 w W' S v1 v2 x y :=
  ⟨h.b.later hb, cell_later hb h.r0, cell_later hb h.r1, fun i => (hb.frozen (p := ⟨w.heap.size + 1 + 1, i, none⟩) (show (⟨w.heap.size + 1 + 1, 0, none⟩ : Addr).block < W.heap.size from World.block_lt_of_cell? W ⟨w.heap.size + 1 + 1, 0, none⟩ h.r0)).trans (h.f i)⟩
theorem b3_new (w : World) (S : Int) (v1 v2 : Value) (x y : Int) : B3 w (((w.alloc (Obj.cells #[.int .i64 S, v1, v2] 25)).alloc (Obj.cells #[.int .i64 x, .int .i64 y] 27)).alloc (Obj.cells #[.int .i64 0, .int .i64 0] 27)) S v1 v2 x y := by
  have h := b2_new w S v1 v2 x y
  have e2 : ((w.alloc (Obj.cells #[.int .i64 S, v1, v2] 25)).alloc (Obj.cells #[.int .i64 x, .int .i64 y] 27)).heap.size = w.heap.size + 1 + 1 := by simp
  generalize (w.alloc (Obj.cells #[.int .i64 S, v1, v2] 25)).alloc (Obj.cells #[.int .i64 x, .int .i64 y] 27) = X at h e2
  have hs := vat_new X [.int .i64 0, .int .i64 0] 27
  have hf : ∀ k, (X.alloc (Obj.cells #[.int .i64 0, .int .i64 0] 27)).frozen? ⟨X.heap.size, k, none⟩ = false := fun k => by simp
  rw [e2] at hs hf
  exact ⟨h.later ((Below.refl _ _).alloc (Nat.le_refl _) _), hs 0 _ rfl, hs 1 _ rfl, hf⟩
theorem below2 {w W : World} (h : Below w.heap.size w W) (g : Nat) (hg : w.heap.size ≤ g) (u v : Value) : Below w.heap.size w ((W.setCell ⟨g, 0, none⟩ u).setCell ⟨g, 1, none⟩ v) := (h.setCell (p := ⟨g, 0, none⟩) hg u).setCell (p := ⟨g, 1, none⟩) hg v
theorem peer_at {Ls : List ((Int × Int) × (Int × Int))} {k : Nat} (hk : k < Ls.length) {s : Int × Int} : peerO (Ls.drop k) s = if (Ls[k]).1 == s then some (Ls[k]).2 else if (Ls[k]).2 == s then some (Ls[k]).1 else peerO (Ls.drop (k + 1)) s := by
  rw [List.drop_eq_getElem_cons hk]
  rfl

theorem eq_ways2 {a b : Bool} (h : (a && b) = false) : (a = true ∧ b = false) ∨ a = false := by
  cases a
  · exact .inr rfl
  · exact .inl ⟨rfl, by simpa using h⟩
set_option maxHeartbeats 4000000 in
set_option maxRecDepth 100000 in
theorem rpeer_any (S : Int) (ao : Option Addr) (n cap : Nat) (ao2 : Option Addr) (n2 cap2 : Nat) (Ls : List ((Int × Int) × (Int × Int))) (x y : Int) (w : World) (hL : GS lnkE w (.slice ao n cap) Ls) :
    Calls Tryd.prog 11 #[.agg #[.int .i64 S, .slice ao n cap, .slice ao2 n2 cap2], .agg #[.int .i64 x, .int .i64 y]] w fun e w' => e = .returned (.tuple #[.agg #[.int .i64 ((peerO Ls (x, y)).getD (0, 0)).1, .int .i64 ((peerO Ls (x, y)).getD (0, 0)).2], .bool (peerO Ls (x, y)).isSome]) ∧ Below w.heap.size w w' := by
  obtain ⟨_, _, _, e1, hLn, hLm, _, hLa⟩ := hL.form
  cases e1
  have HLN : Hid (Ls.length = n) := hLn
  have n63 : n ≤ 9223372036854775807 := by unfold maxLen at hLm; omega
  have HLA : Hid (0 < n → ∃ g o, ao = some ⟨g, o, none⟩ ∧ GAt lnkE w g o Ls ∧ cap ≤ maxLen) := hLa
  obtain ⟨P, hP⟩ : ∃ P, P = peerO Ls (x, y) := ⟨_, rfl⟩
  have HP : Hid (P = peerO Ls (x, y)) := hP
  rw [← hP]
  have hX := b3_new w S (.slice ao n cap) (.slice ao2 n2 cap2) x y
  obtain ⟨w0, hw0⟩ : ∃ W, ((w.alloc (Obj.cells #[.int .i64 S, .slice ao n cap, .slice ao2 n2 cap2] 25)).alloc (Obj.cells #[.int .i64 x, .int .i64 y] 27)).alloc (Obj.cells #[.int .i64 0, .int .i64 0] 27) = W := ⟨_, rfl⟩
  rw [hw0] at hX
  have HX : Hid (B3 w w0 S (.slice ao n cap) (.slice ao2 n2 cap2) x y) := hX
  have HW0 : Hid (((w.alloc (Obj.cells #[.int .i64 S, .slice ao n cap, .slice ao2 n2 cap2] 25)).alloc (Obj.cells #[.int .i64 x, .int .i64 y] 27)).alloc (Obj.cells #[.int .i64 0, .int .i64 0] 27) = w0) := hw0
  clear hL hLn hLm hLa hP hX hw0
  go_enter Tryd.func11, Tryd.ntmps11
  go_wp2
  rw [HW0.out]
  go_loopw [6] (fun i wr => ∃ k : Nat, k ≤ n ∧ i = .int .i64 k ∧ P = peerO (Ls.drop k) (x, y) ∧ B3 w wr S (.slice ao n cap) (.slice ao2 n2 cap2) x y) (fun i _ => n - (intOf i).toNat)
  case atStart => exact ⟨0, by omega, rfl, HP.out, HX.out⟩
  case round =>
    obtain ⟨k, hk, rfl, hpk, hXr⟩ := hrel
    have HX2 : Hid (B3 w wr S (.slice ao n cap) (.slice ao2 n2 cap2) x y) := hXr
    have HPK : Hid (P = peerO (Ls.drop k) (x, y)) := hpk
    have HB : Hid (Below w.heap.size w wr) := hXr.b.below
    obtain ⟨⟨_, ⟨b0, b1, b2⟩, s0, s1⟩, r0, r1, f⟩ := hXr
    have hlt1 : w.heap.size < wr.heap.size := World.block_lt_of_cell? _ _ b0
    have hlt2 : w.heap.size + 1 < wr.heap.size := World.block_lt_of_cell? _ _ s0
    have hlt3 : w.heap.size + 1 + 1 < wr.heap.size := World.block_lt_of_cell? _ _ r0
    have f0 := f 0
    have f1 := f 1
    clear hpk HW0 HX HP f
    by_cases hlt : k < n
    · obtain ⟨g, o, hao, hc, _⟩ := HLA.out (by omega)
      subst hao
      obtain ⟨x0, x1, x2, x3, hkl, hLk, q0, q1, q2, q3⟩ := lnk_at (hc.later HB.out) HLN.out hlt
      have hgl : g < wr.heap.size := World.block_lt_of_cell? _ _ q0
      have HST : Hid (P = if (x0 == x && x1 == y) = true then some (x2, x3) else if (x2 == x && x3 == y) = true then some (x0, x1) else peerO (Ls.drop (k + 1)) (x, y)) := by
        show _ = _
        rw [HPK.out, peer_at hkl, hLk]
        rfl
      clear hLk hc
      cases ho : (x0 == x && x1 == y)
      · have HNO : Hid ((x0 == x && x1 == y) = false) := ho
        cases hu : (x2 == x && x3 == y)
        · have HP1 : Hid (P = peerO (Ls.drop (k + 1)) (x, y)) := by
            show _ = _
            rw [HST.out, ho, hu]
            rfl
          rcases eq_ways2 ho with ⟨g1, g2⟩ | g1
          · rcases eq_ways2 hu with ⟨g3, g4⟩ | g3
            · go_wp2_with fail
              go_region
              go_wp2_with fail
              go_region
              go_wp2
              go_roundw
              case rel => exact ⟨k + 1, by omega, by go_num, HP1.out, (HX2.out.later (Below.drew (Below.refl _ _))).later (Below.drew (Below.refl _ _))⟩
              case measure => simp [intOf]; omega
            · go_wp2_with fail
              go_region
              go_wp2_with fail
              go_region
              go_wp2
              go_roundw
              case rel => exact ⟨k + 1, by omega, by go_num, HP1.out, (HX2.out.later (Below.drew (Below.refl _ _))).later (Below.drew (Below.refl _ _))⟩
              case measure => simp [intOf]; omega
          · rcases eq_ways2 hu with ⟨g3, g4⟩ | g3
            · go_wp2_with fail
              go_region
              go_wp2_with fail
              go_region
              go_wp2
              go_roundw
              case rel => exact ⟨k + 1, by omega, by go_num, HP1.out, (HX2.out.later (Below.drew (Below.refl _ _))).later (Below.drew (Below.refl _ _))⟩
              case measure => simp [intOf]; omega
            · go_wp2_with fail
              go_region
              go_wp2_with fail
              go_region
              go_wp2
              go_roundw
              case rel => exact ⟨k + 1, by omega, by go_num, HP1.out, (HX2.out.later (Below.drew (Below.refl _ _))).later (Below.drew (Below.refl _ _))⟩
              case measure => simp [intOf]; omega
        · have HP1 : Hid (P = some (x0, x1)) := by
            show _ = _
            rw [HST.out, ho, hu]
            rfl
          rw [Bool.and_eq_true] at hu
          obtain ⟨g3, g4⟩ := hu
          rcases eq_ways2 ho with ⟨g1, g2⟩ | g1
          · go_wp2_with fail
            go_region
            go_wp2_with fail
            go_region
            go_wp2
            refine bodyPost_ret (v := .tuple #[.agg #[.int .i64 x0, .int .i64 x1], .bool true]) (by simp [results, Tryd.results11, go_sem, *]) rfl ⟨by rw [HP1.out]; rfl, below2 (HB.out.trans (((Below.drew (Below.drew (Below.refl _ _))).mono HB.out.size))) _ (by omega) _ _⟩
          · go_wp2_with fail
            go_region
            go_wp2_with fail
            go_region
            go_wp2
            refine bodyPost_ret (v := .tuple #[.agg #[.int .i64 x0, .int .i64 x1], .bool true]) (by simp [results, Tryd.results11, go_sem, *]) rfl ⟨by rw [HP1.out]; rfl, below2 (HB.out.trans (((Below.drew (Below.drew (Below.refl _ _))).mono HB.out.size))) _ (by omega) _ _⟩
      · have HP1 : Hid (P = some (x2, x3)) := by
          show _ = _
          rw [HST.out, ho]
          rfl
        rw [Bool.and_eq_true] at ho
        obtain ⟨g1, g2⟩ := ho
        go_wp2_with fail
        go_region
        go_wp2
        refine bodyPost_ret (v := .tuple #[.agg #[.int .i64 x2, .int .i64 x3], .bool true]) (by simp [results, Tryd.results11, go_sem, *]) rfl ⟨by rw [HP1.out]; rfl, below2 (HB.out.trans ((Below.drew (Below.refl _ _)).mono HB.out.size)) _ (by omega) _ _⟩
    · obtain rfl : k = n := by omega
      have HPN : Hid (P = none) := by
        show _ = _
        rw [HPK.out, ← HLN.out, List.drop_length]
        rfl
      go_wp2
      refine bodyPost_ret (v := .tuple #[.agg #[.int .i64 0, .int .i64 0], .bool false]) (by simp [results, Tryd.results11, go_sem, *]) rfl ⟨by rw [HPN.out]; rfl, below2 HB.out _ (by omega) _ _⟩
end Go.Proofs.YtfbocionnjlilacDoor
