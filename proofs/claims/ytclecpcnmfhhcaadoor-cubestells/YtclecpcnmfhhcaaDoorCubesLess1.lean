/- What one cube less another one is: the contract of lessOne. -/
import Derived.Test.YtclecpcnmfhhcaaDoorCubesCon
import Derived.Test.YtclecpcnmfhhcaaDoorOwnRow
namespace Go.Proofs.YtclecpcnmfhhcaaDoor
open Go.RowKit
set_option linter.unusedSimpArgs false

/-- Cubes as cells. -/
def cellsOf (L : List (Int × Int)) : List Value := L.flatMap fun p => [.int .i64 p.1, .int .i64 p.2]
theorem cellsOf_len (L : List (Int × Int)) : (cellsOf L).length = L.length * 2 := by
  induction L with
  | nil => rfl
  | cons p r ih => simp only [cellsOf, List.flatMap_cons, List.length_append, List.length_cons, List.length_nil] at *; omega
theorem cellsOf_app (L M : List (Int × Int)) : cellsOf (L ++ M) = cellsOf L ++ cellsOf M := by simp [cellsOf]
theorem cellsOf_at (L : List (Int × Int)) (i : Nat) (h : i < L.length) : (cellsOf L)[i * 2]? = some (.int .i64 (L[i]).1) ∧ (cellsOf L)[i * 2 + 1]? = some (.int .i64 (L[i]).2) := by
  induction L generalizing i with
  | nil => simp at h
  | cons p r ih =>
    cases i with
    | zero => simp [cellsOf]
    | succ i =>
      have := ih i (by simpa using h)
      have e1 : (i + 1) * 2 = i * 2 + 1 + 1 := by omega
      simpa [cellsOf, e1] using this
theorem cellsOf_one (L : List (Int × Int)) : ∀ u ∈ cellsOf L, u.oneCell' = true := by
  intro u hu
  simp only [cellsOf, List.mem_flatMap] at hu
  obtain ⟨p, _, hp⟩ := hu
  simp at hp
  rcases hp with rfl | rfl <;> rfl
/-- What a call owns may be read. -/
theorem own_SL {w : World} {B e : Nat} {v : Value} {L : List (Int × Int)} (h : w.ownsRow B e 2 v L.length (cellsOf L)) : SL w v L := by
  rcases h.2 with ⟨rfl, h0⟩ | ⟨g, cap, cur, rfl, _, _, h1, h2, _⟩
  · exact .inl ⟨none, 0, rfl, List.length_eq_zero_iff.1 h0⟩
  · refine .inr ⟨g, 0, cap, rfl, h1, h2, ⟨fun i hi => ?_, fun i hi => ?_⟩⟩
    · have := h.cellAt (i * 2) (by omega)
      rw [(cellsOf_at L i hi).1] at this
      simpa using this
    · have := h.cellAt (i * 2 + 1) (by omega)
      rw [(cellsOf_at L i hi).2] at this
      simpa using this

theorem infoCube : (Tryd.prog.info? 23).map (fun i => (i.zero, i.size, i.bytes)) = some (some (.agg #[.int .i64 0, .int .i64 0]), 2, 16) := by kernel_rfl

theorem stopHere {p : Prop} (h : Hid p) : p := h
theorem Hid.mk {p : Prop} (h : p) : Hid p := h
theorem new2_0 (W : World) (N : Nat) (x y : Value) (t : TypeId) (h : W.heap.size = N) : (W.alloc (.cells #[x, y] t)).cell? ⟨N, 0, none⟩ = some x := by subst h; simp
theorem new2_1 (W : World) (N : Nat) (x y : Value) (t : TypeId) (h : W.heap.size = N) : (W.alloc (.cells #[x, y] t)).cell? ⟨N, 1, none⟩ = some y := by subst h; simp
theorem own_push {W : World} {B e : Nat} {v : Value} {out : List (Int × Int)} {x y : Int} (h : W.ownsRow B e 2 v (out.length + 1) (cellsOf out ++ [.int .i64 x, .int .i64 y])) : W.ownsRow B e 2 v (out ++ [(x, y)]).length (cellsOf (out ++ [(x, y)])) := by
  have e1 : (out ++ [(x, y)]).length = out.length + 1 := by simp
  rw [e1, cellsOf_app]
  exact h
theorem own_one {W : World} {B e N : Nat} {x y : Int} (hN : W.heap.size = N) (hb : B ≤ N) : (W.alloc (.cells #[.int .i64 x, .int .i64 y] e)).ownsRow B e 2 (.slice (some ⟨N, 0, none⟩) 1 1) [(x, y)].length (cellsOf [(x, y)]) := by
  subst hN
  have := World.ownsRow_lit (base := B) (e := e) (size := 2) W #[.int .i64 x, .int .i64 y] 1 hb (by decide) rfl
  exact this
theorem twoCells : (Value.agg #[.int .i64 0, .int .i64 0]).cells.size = 2 := by simp [Value.cells]
theorem l1_skip {n c m b B : Int} {out : List (Int × Int)} (h : (bits .and .i64 n B == 0) = true ∨ (bits .and .i64 m B == 0) = false) : l1 n c (m, b, out) B = (m, b, out) := by
  rcases h with h | h <;> simp [l1, h]
theorem l1_cut {n c m b B : Int} {out : List (Int × Int)} (h : (bits .and .i64 n B == 0) = false) (h2 : (bits .and .i64 m B == 0) = true) :
    l1 n c (m, b, out) B = (bits .or .i64 m B, bits .or .i64 b (bits .and .i64 B c), out ++ [(bits .or .i64 m B, bits .or .i64 b (bits .andNot .i64 B c))]) := by
  simp [l1, h, h2]
/-- The bit of a round; behind the last none. -/
def bt (k : Nat) : Int := if k < 4 then bitN k else 0

/-- What a round knows of the memory: what is cut further, and what is taken away. -/
structure LI (w : World) (n c m b : Int) (W : World) : Prop where
  below : Below w.heap.size w W
  size : w.heap.size + 2 ≤ W.heap.size
  a0 : W.cell? ⟨w.heap.size, 0, none⟩ = some (.int .i64 m)
  a1 : W.cell? ⟨w.heap.size, 1, none⟩ = some (.int .i64 b)
  q0 : W.cell? ⟨w.heap.size + 1, 0, none⟩ = some (.int .i64 n)
  q1 : W.cell? ⟨w.heap.size + 1, 1, none⟩ = some (.int .i64 c)
  f0 : W.frozen? ⟨w.heap.size, 0, none⟩ = false
  f1 : W.frozen? ⟨w.heap.size, 1, none⟩ = false
theorem LI.later {w W W' : World} {n c m b : Int} (h : LI w n c m b W) (hb : Below (w.heap.size + 2) W W') : LI w n c m b W' :=
  ⟨h.below.trans (hb.mono (by omega)), Nat.le_trans h.size hb.size, (hb.cell (by simp)).trans h.a0, (hb.cell (by simp)).trans h.a1, (hb.cell (by simp)).trans h.q0, (hb.cell (by simp)).trans h.q1,
    (hb.frozen (by simp)).trans h.f0, (hb.frozen (by simp)).trans h.f1⟩
theorem LI.set0 {w W : World} {n c m b : Int} (h : LI w n c m b W) (x : Int) : LI w n c x b (W.setCell ⟨w.heap.size, 0, none⟩ (.int .i64 x)) := by
  obtain ⟨h1, h2, h3, h4, h5, h6, h7, h8⟩ := h
  refine ⟨h1.setCell (Nat.le_refl _) _, by simpa using h2, World.cell?_setCell_same _ _ _ h3, ?_, ?_, ?_, by simpa using h7, by simpa using h8⟩
  all_goals rw [World.cell?_setCell_other _ _ _ _ (by simp <;> omega)]; assumption
theorem LI.set1 {w W : World} {n c m b : Int} (h : LI w n c m b W) (x : Int) : LI w n c m x (W.setCell ⟨w.heap.size, 1, none⟩ (.int .i64 x)) := by
  obtain ⟨h1, h2, h3, h4, h5, h6, h7, h8⟩ := h
  refine ⟨h1.setCell (Nat.le_refl _) _, by simpa using h2, ?_, World.cell?_setCell_same _ _ _ h4, ?_, ?_, by simpa using h7, by simpa using h8⟩
  all_goals rw [World.cell?_setCell_other _ _ _ _ (by simp <;> omega)]; assumption
theorem bt_next {k : Nat} {B : Int} (hk : k < 4) (h : bt k = B) : B / 2 = bt (k + 1) ∧ B = bitN k := by
  subst h
  rcases (by omega : k = 0 ∨ k = 1 ∨ k = 2 ∨ k = 3) with rfl | rfl | rfl | rfl <;> decide

set_option maxRecDepth 100000 in
set_option maxHeartbeats 2000000 in
theorem lessOne_meet (m b n c : Int) (w : World) (hm : mtOk m b n c = true) :
    Calls Tryd.prog 46 #[.agg #[.int .i64 m, .int .i64 b], .agg #[.int .i64 n, .int .i64 c]] w fun e w' => ∃ v, e = .returned v ∧ w'.ownsRow w.heap.size 23 2 v (l1To m b n c 4).2.2.length (cellsOf (l1To m b n c 4).2.2) ∧ Below w.heap.size w w' := by
  obtain ⟨i0, hi, hz0, hz1, hz2⟩ := info_parts infoCube
  go_enter Tryd.func46, Tryd.ntmps46
  go_wp2_with fail
  refine (meet_any _ _ _ _ _).mono ?_
  rintro e w1 ⟨rfl, hb1⟩
  rw [hm]
  generalize mtM m b n c = X
  generalize mtB m b n c = Y
  obtain ⟨hc1, hf1⟩ := bcell hb1
  have hB1 : Below w.heap.size w w1 := (((Below.refl _ _).alloc (Nat.le_refl _) _).alloc (by simp) _).trans (hb1.mono (by simp; omega))
  have hsz1 : w.heap.size + 2 ≤ w1.heap.size := by have := hb1.size; simpa using this
  have HI : LI w n c m b w1 := ⟨hB1, hsz1, by rw [hc1 _ _ (by simp; omega)]; simp, by rw [hc1 _ _ (by simp; omega)]; simp, by rw [hc1 _ _ (by simp)]; simp, by rw [hc1 _ _ (by simp)]; simp, by rw [hf1 _ _ (by simp; omega)]; simp, by rw [hf1 _ _ (by simp; omega)]; simp⟩
  have HI1 := HI.later (((Below.refl (w.heap.size + 2) w1).alloc hsz1 (.cells #[.int .i64 X, .int .i64 Y] 23)))
  clear hb1 hc1 hf1 hB1 HI
  go_wp2
  go_loopw [7, 8] (fun v i wr => ∃ (k : Nat) (mk bk : Int) (out : List (Int × Int)), k ≤ 4 ∧ i = .int .i64 (bt k) ∧ l1To m b n c k = (mk, bk, out) ∧ LI w n c mk bk wr ∧ wr.ownsRow (w.heap.size + 2) 23 2 v out.length (cellsOf out))
    (fun _ i _ => (intOf i).toNat)
  case atStart => exact ⟨0, m, b, [], by omega, rfl, rfl, HI1, World.ownsRow_nil _ _ _ _⟩
  case round =>
    clear HI1 hsz1
    obtain ⟨k, mk, bk, out, hk, rfl, hl1, hI, hown⟩ := hrel
    obtain ⟨-, hsz, a0, a1, q0, q1, f0, f1⟩ := id hI
    have HI : Hid (LI w n c mk bk wr) := hI
    have HOWN : Hid (wr.ownsRow (w.heap.size + 2) 23 2 u7 out.length (cellsOf out)) := hown
    have HL : Hid (l1To m b n c k = (mk, bk, out)) := hl1
    clear hI hown hl1
    by_cases hlt : k < 4
    · obtain ⟨B, hBk⟩ : ∃ B, bt k = B := ⟨_, rfl⟩
      have hpos : 0 < B ∧ B ≤ 8 := by
        rw [← hBk]
        rcases (by omega : k = 0 ∨ k = 1 ∨ k = 2 ∨ k = 3) with rfl | rfl | rfl | rfl <;> decide
      rw [hBk]
      have HBK : Hid (bt k = B) := hBk
      obtain ⟨hp1, hp2⟩ := hpos
      clear hBk
      have hB2 := bt_next hlt HBK.out
      have HB2 : Hid (B / 2 = bt (k + 1) ∧ B = bitN k) := hB2
      clear hB2
      have hlen := l1_len m b n c k
      rw [HL.out] at hlen
      have hlen2 : out.length ≤ 4 := by simp at hlen; omega
      clear hlen
      cases hn : (bits .and .i64 n B == 0)
      · cases hmm : (bits .and .i64 mk B == 0)
        · have e : l1To m b n c (k + 1) = (mk, bk, out) := by rw [l1To, HL.out, ← HB2.out.2]; exact l1_skip (.inr hmm)
          have HE : Hid (l1To m b n c (k + 1) = (mk, bk, out)) := e
          clear e
          go_wp2
          exact ⟨⟨k + 1, mk, bk, out, by omega, by rw [HB2.out.1], HE.out, HI.out, HOWN.out⟩, by simp [intOf]; omega⟩
        · have e : l1To m b n c (k + 1) = (bits .or .i64 mk B, bits .or .i64 bk (bits .and .i64 B c), out ++ [(bits .or .i64 mk B, bits .or .i64 bk (bits .andNot .i64 B c))]) := by
            rw [l1To, HL.out, ← HB2.out.2]; exact l1_cut hn hmm
          have HE : Hid (l1To m b n c (k + 1) = (bits .or .i64 mk B, bits .or .i64 bk (bits .and .i64 B c), out ++ [(bits .or .i64 mk B, bits .or .i64 bk (bits .andNot .i64 B c))])) := e
          clear e
          have HI2 := HI.out.set0 (bits .or .i64 mk B)
          have HOWN2 := ownsRow_setCell_below HOWN.out (a := ⟨w.heap.size, 0, none⟩) (by simp) (.int .i64 (bits .or .i64 mk B))
          obtain ⟨-, hsz2, a20, a21, q20, q21, f20, f21⟩ := id HI2
          have HI3 : Hid (LI w n c (bits .or .i64 mk B) bk (wr.setCell ⟨w.heap.size, 0, none⟩ (.int .i64 (bits .or .i64 mk B)))) := HI2
          have HOWN3 : Hid ((wr.setCell ⟨w.heap.size, 0, none⟩ (.int .i64 (bits .or .i64 mk B))).ownsRow (w.heap.size + 2) 23 2 u7 out.length (cellsOf out)) := HOWN2
          clear HI2 HOWN2
          go_wp2_with (at_builtin; refine wpList_append_own _ rfl _ _ 42 rfl (w.heap.size + 2) 23 i0 (.agg #[.int .i64 0, .int .i64 0]) 2 16 Tryd.underlying42 hi hz0 hz1 hz2 twoCells (by decide) _ _ _ rfl (HOWN3.out.alloc _) ⟨wr.heap.size, 0, none⟩ 1 1 [.int .i64 (bits .or .i64 mk B), .int .i64 (bits .or .i64 bk (bits .andNot .i64 B c))] rfl rfl ?c1 ?c2 ?c3 ?c4 ?c5 ?_)
          case c1 =>
            intro j u hj
            match j, hj with
            | 0, hj => simp at hj; subst hj; exact new2_0 _ _ _ _ _ (by simp)
            | 1, hj => simp at hj; subst hj; exact new2_1 _ _ _ _ _ (by simp)
          case c2 => intro u hu; simp at hu; rcases hu with rfl | rfl <;> rfl
          case c3 => unfold maxLen; omega
          case c4 => omega
          case c5 => simp; omega
          intro v' w3 hown3 hgrow _
          have hI3 : LI w n c (bits .or .i64 mk B) bk w3 := HI3.out.later (((Below.refl _ _).alloc (by simpa using hsz) _).grown hgrow (by simp; omega) (fun g hg => (HOWN3.out.lt g hg).1))
          obtain ⟨-, hsz3, a30, a31, q30, q31, f30, f31⟩ := id hI3
          have HI4 : Hid (LI w n c (bits .or .i64 mk B) bk w3) := hI3
          have HOWN4 : Hid (w3.ownsRow (w.heap.size + 2) 23 2 v' (out.length + 1) (cellsOf out ++ [.int .i64 (bits .or .i64 mk B), .int .i64 (bits .or .i64 bk (bits .andNot .i64 B c))])) := hown3
          clear hgrow hI3 hown3 a0 a1 q0 q1 f0 f1 a20 a21 q20 q21 f20 f21 hsz2
          go_wp2
          exact ⟨⟨k + 1, _, _, _, by omega, by rw [HB2.out.1], HE.out, HI4.out.set1 _, own_push (ownsRow_setCell_below HOWN4.out (by simp) _)⟩, by simp [intOf]; omega⟩
      · have e : l1To m b n c (k + 1) = (mk, bk, out) := by rw [l1To, HL.out, ← HB2.out.2]; exact l1_skip (.inl hn)
        have HE : Hid (l1To m b n c (k + 1) = (mk, bk, out)) := e
        clear e
        go_wp2
        exact ⟨⟨k + 1, mk, bk, out, by omega, by rw [HB2.out.1], HE.out, HI.out, HOWN.out⟩, by simp [intOf]; omega⟩
    · obtain rfl : k = 4 := by omega
      go_wp2
      go_ret
      have := HL.out
      exact ⟨_, rfl, by rw [this]; exact own_mono HOWN.out (by omega), HI.out.below⟩

set_option maxHeartbeats 2000000 in
theorem lessOne_apart (m b n c : Int) (w : World) (hm : mtOk m b n c = false) :
    Calls Tryd.prog 46 #[.agg #[.int .i64 m, .int .i64 b], .agg #[.int .i64 n, .int .i64 c]] w fun e w' => ∃ v, e = .returned v ∧ w'.ownsRow w.heap.size 23 2 v [(m, b)].length (cellsOf [(m, b)]) ∧ Below w.heap.size w w' := by
  go_enter Tryd.func46, Tryd.ntmps46
  go_wp2_with fail
  refine (meet_any _ _ _ _ _).mono ?_
  rintro e w1 ⟨rfl, hb1⟩
  rw [hm]
  generalize mtM m b n c = X
  generalize mtB m b n c = Y
  obtain ⟨hc1, hf1⟩ := bcell hb1
  have hB1 : Below w.heap.size w w1 := (((Below.refl _ _).alloc (Nat.le_refl _) _).alloc (by simp) _).trans (hb1.mono (by simp; omega))
  have hsz1 : w.heap.size + 2 ≤ w1.heap.size := by have := hb1.size; simpa using this
  have a0 : w1.cell? ⟨w.heap.size, 0, none⟩ = some (.int .i64 m) := by rw [hc1 _ _ (by simp; omega)]; simp
  have a1 : w1.cell? ⟨w.heap.size, 1, none⟩ = some (.int .i64 b) := by rw [hc1 _ _ (by simp; omega)]; simp
  have hz0 : w.heap.size < w1.heap.size := by omega
  clear hb1 hc1 hf1
  go_wp2
  go_ret
  refine ⟨_, rfl, own_one (B := w.heap.size) (by simp) (by omega), (hB1.alloc (by omega) _).alloc (by simp; omega) _⟩

theorem lessOne_any (m b n c : Int) (w : World) :
    Calls Tryd.prog 46 #[.agg #[.int .i64 m, .int .i64 b], .agg #[.int .i64 n, .int .i64 c]] w fun e w' => ∃ v, e = .returned v ∧ w'.ownsRow w.heap.size 23 2 v (less1 (m, b) (n, c)).length (cellsOf (less1 (m, b) (n, c))) ∧ Below w.heap.size w w' := by
  cases hm : mtOk m b n c
  · have e : less1 (m, b) (n, c) = [(m, b)] := by simp [less1, hm]
    rw [e]; exact lessOne_apart m b n c w hm
  · have e : less1 (m, b) (n, c) = (l1To m b n c 4).2.2 := by simp [less1, hm]
    rw [e]; exact lessOne_meet m b n c w hm
end Go.Proofs.YtclecpcnmfhhcaaDoor
