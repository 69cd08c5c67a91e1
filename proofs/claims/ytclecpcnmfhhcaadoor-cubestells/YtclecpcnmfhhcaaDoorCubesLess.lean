/- What a cube less others is: the contracts of less and Minus. -/
import Derived.Test.YtclecpcnmfhhcaaDoorCubesLess1
namespace Go.Proofs.YtclecpcnmfhhcaaDoor
open Go.RowKit
set_option linter.unusedSimpArgs false

set_option maxHeartbeats 1000000 in
theorem less_nil (m b : Int) (ao : Option Addr) (cap : Nat) (w : World) :
    Calls Tryd.prog 40 #[.agg #[.int .i64 m, .int .i64 b], .slice ao 0 cap] w fun e w' => ∃ v, e = .returned v ∧ w'.ownsRow w.heap.size 23 2 v [(m, b)].length (cellsOf [(m, b)]) ∧ Below w.heap.size w w' := by
  go_enter Tryd.func40, Tryd.ntmps40
  go_wp2
  have hO := own_one (W := w.alloc (.cells #[.int .i64 m, .int .i64 b] 23)) (B := w.heap.size) (e := 23) (x := m) (y := b) (N := w.heap.size + 1) (by simp) (by omega)
  have hB : Below w.heap.size w ((w.alloc (.cells #[.int .i64 m, .int .i64 b] 23)).alloc (.cells #[.int .i64 m, .int .i64 b] 23)) := ((Below.refl _ _).alloc (Nat.le_refl _) _).alloc (by simp) _
  generalize hW : ((w.alloc (.cells #[.int .i64 m, .int .i64 b] 23)).alloc (.cells #[.int .i64 m, .int .i64 b] 23)) = W at *
  clear hW
  go_loopw [5, 15] (fun v i wr => v = .slice (some ⟨w.heap.size + 1, 0, none⟩) 1 1 ∧ i = .int .i64 0 ∧ wr = W) (fun _ i _ => 0)
  case atStart => exact ⟨rfl, rfl, rfl⟩
  case round =>
    obtain ⟨rfl, rfl, rfl⟩ := hrel
    go_wp2
    go_ret
    exact ⟨_, rfl, by simpa using hO, hB⟩

/-- What a round of the outer loop leaves. -/
structure LS (w : World) (a : Int × Int) (L : List (Int × Int)) (k : Nat) (v : Value) (W : World) : Prop where
  own : W.ownsRow w.heap.size 23 2 v (lessL a (L.take k)).length (cellsOf (lessL a (L.take k)))
  below : Below w.heap.size w W

/-- What a round of the inner loop leaves. -/
structure LN (w0 : World) (S : List (Int × Int)) (q : Int × Int) (j : Nat) (v : Value) (W : World) : Prop where
  own : W.ownsRow w0.heap.size 23 2 v ((S.take j).flatMap fun x => less1 x q).length (cellsOf ((S.take j).flatMap fun x => less1 x q))
  below : Below w0.heap.size w0 W

theorem LN.miss {w0 W : World} {S : List (Int × Int)} {q : Int × Int} {j : Nat} {v : Value} (h : LN w0 S q j v W) {W' : World} (hb : Below W.heap.size W W') (hj : j < S.length) (h0 : less1 S[j] q = []) : LN w0 S q (j + 1) v W' := by
  refine ⟨?_, h.below.trans (hb.mono h.below.size)⟩
  rw [flat_next hj, h0, List.append_nil]
  exact own_below h.own hb
theorem LN.hit {w0 W : World} {S : List (Int × Int)} {q : Int × Int} {j : Nat} {v : Value} (hj : j < S.length)
    (h : W.ownsRow w0.heap.size 23 2 v (((S.take j).flatMap fun x => less1 x q).length + (less1 S[j] q).length) (cellsOf ((S.take j).flatMap fun x => less1 x q) ++ cellsOf (less1 S[j] q))) (hb : Below w0.heap.size w0 W) : LN w0 S q (j + 1) v W := by
  refine ⟨?_, hb⟩
  rw [flat_next hj, List.length_append, cellsOf_app]
  exact h
theorem cells_news {w : World} {B e g n cap : Nat} {xs : List Value} (h : w.ownsRow B e 2 (.slice (some ⟨g, 0, none⟩) n cap) n xs) : ∀ j u, xs[j]? = some u → w.cell? ((⟨g, 0, none⟩ : Addr).add j) = some u := by
  intro j u hu
  have hj : j < n * 2 := by
    have := (List.getElem?_eq_some_iff.1 hu).1
    rw [h.1] at this; exact this
  have := h.cellAt j hj
  have e : (⟨g, 0, none⟩ : Addr).add j = ⟨g, j, none⟩ := by
    simp only [Addr.add, Nat.zero_add]
    split
    · next h0 => rw [h0]
    · rfl
  rw [e, this, hu]

set_option maxRecDepth 100000 in
set_option maxHeartbeats 4000000 in
theorem less_some (m b : Int) (B o cap n : Nat) (L : List (Int × Int)) (w : World) (hc : CAt w B o L) (hn : L.length = n) (hn2 : n ≤ maxLen) (ho : okB m b = true) (hL : okL L = true) :
    Calls Tryd.prog 40 #[.agg #[.int .i64 m, .int .i64 b], .slice (some ⟨B, o, none⟩) n cap] w fun e w' => ∃ v, e = .returned v ∧ w'.ownsRow w.heap.size 23 2 v (lessL (m, b) L).length (cellsOf (lessL (m, b) L)) ∧ Below w.heap.size w w' := by
  obtain ⟨i0, hi, hz0, hz1, hz2⟩ := info_parts infoCube
  have HN : Hid (L.length = n) := hn
  unfold maxLen at hn2
  clear hn
  go_enter Tryd.func40, Tryd.ntmps40
  go_wp2
  have hO := own_one (W := w.alloc (.cells #[.int .i64 m, .int .i64 b] 23)) (B := w.heap.size) (e := 23) (x := m) (y := b) (N := w.heap.size + 1) (by simp) (by omega)
  have hB : Below w.heap.size w ((w.alloc (.cells #[.int .i64 m, .int .i64 b] 23)).alloc (.cells #[.int .i64 m, .int .i64 b] 23)) := ((Below.refl _ _).alloc (Nat.le_refl _) _).alloc (by simp) _
  generalize hW : ((w.alloc (.cells #[.int .i64 m, .int .i64 b] 23)).alloc (.cells #[.int .i64 m, .int .i64 b] 23)) = W at *
  clear hW
  go_loopw [5, 15] (fun v i wr => ∃ k : Nat, k ≤ n ∧ i = .int .i64 k ∧ LS w (m, b) L k v wr)
    (fun _ i _ => n - (intOf i).toNat)
  case atStart => exact ⟨0, by omega, rfl, by simpa [lessL] using hO, hB⟩
  case round =>
    clear hO hB
    obtain ⟨k, hk, rfl, hown, hB⟩ := hrel
    have HB : Hid (Below w.heap.size w wr) := hB
    by_cases hlt : k < n
    · obtain ⟨x, y, hkl, hLk, q0, q1⟩ := (hc.later hB).at HN.out hlt
      have hS := parts_len (parts_lessL (a := (m, b)) ho (okL_take (k := k) hL))
      have hnx : lessL (m, b) (L.take (k + 1)) = (lessL (m, b) (L.take k)).flatMap fun z => less1 z (x, y) := by rw [lessL_next hkl, hLk]
      have HNX : Hid (lessL (m, b) (L.take (k + 1)) = (lessL (m, b) (L.take k)).flatMap fun z => less1 z (x, y)) := hnx
      clear hnx hLk
      generalize hSS : lessL (m, b) (L.take k) = S at *
      clear hSS
      obtain ⟨N, hN⟩ : ∃ N, S.length = N := ⟨_, rfl⟩
      have HSN : Hid (S.length = N) := hN
      rw [hN] at hS
      have HSL := own_SL hown
      have hwn : Below wr.heap.size wr (wr.alloc (.cells #[.int .i64 x, .int .i64 y] 23)) := (Below.refl _ _).alloc (Nat.le_refl _) _
      have HB0 : Hid (Below w.heap.size w (wr.alloc (.cells #[.int .i64 x, .int .i64 y] 23))) := hB.trans (hwn.mono hB.size)
      rcases HSL with ⟨ao0, cap0, rfl, rfl⟩ | ⟨g, o2, cap2, rfl, _, _, hcS⟩
      · clear hown hB hwn hc
        go_wp2
        generalize hW0 : (wr.alloc (.cells #[.int .i64 x, .int .i64 y] 23)) = W0 at *
        clear hW0
        go_loopw [8, 21] (fun v i wq => v = .slice none 0 0 ∧ i = .int .i64 0 ∧ wq = W0) (fun _ i _ => 0)
        case atStart => exact ⟨rfl, rfl, rfl⟩
        case round =>
          obtain ⟨rfl, rfl, rfl⟩ := hrel
          go_wp2
          exact ⟨⟨k + 1, by omega, by go_num, by
            refine ⟨?_, HB0.out⟩
            rw [HNX.out]
            exact World.ownsRow_nil _ _ _ _⟩, by simp [intOf]; omega⟩
      · have hcS0 := hcS.later hwn
        have hq0 : (wr.alloc (.cells #[.int .i64 x, .int .i64 y] 23)).cell? ⟨wr.heap.size, 0, none⟩ = some (.int .i64 x) := by simp
        have hq1 : (wr.alloc (.cells #[.int .i64 x, .int .i64 y] 23)).cell? ⟨wr.heap.size, 1, none⟩ = some (.int .i64 y) := by simp
        have hsz0 : wr.heap.size < (wr.alloc (.cells #[.int .i64 x, .int .i64 y] 23)).heap.size := by simp
        have hwB := hB.size
        rw [hN]
        clear hown hB hwn hc hcS hN
        go_wp2
        generalize hW0 : (wr.alloc (.cells #[.int .i64 x, .int .i64 y] 23)) = W0 at *
        clear hW0
        go_loopw [8, 21] (fun v i wq => ∃ j : Nat, j ≤ N ∧ i = .int .i64 j ∧ LN W0 S (x, y) j v wq) (fun _ i _ => N - (intOf i).toNat)
        case atStart => exact ⟨0, by omega, rfl, World.ownsRow_nil _ _ _ _, Below.refl _ _⟩
        case round =>
          clear q0 q1
          obtain ⟨j, hj, rfl, hLN⟩ := hrel
          obtain ⟨hownj, hBj⟩ := id hLN
          have HLN : Hid (LN W0 S (x, y) j u8 wr) := hLN
          have qq0 := (hBj.cell (World.block_lt_of_cell? _ _ hq0)).trans hq0
          have qq1 := (hBj.cell (World.block_lt_of_cell? _ _ hq1)).trans hq1
          have hszj : W0.heap.size ≤ wr.heap.size := hBj.size
          have hlt0 := Nat.lt_of_lt_of_le hsz0 hszj
          have hfl : ((S.take j).flatMap fun z => less1 z (x, y)).length ≤ 64 := by
            have h1 := flat_len (S.take j) (x, y)
            have h2 : (S.take j).length ≤ N := by rw [← HSN.out]; simp; omega
            omega
          by_cases hltj : j < N
          · obtain ⟨p, q, hjl, hSj, r0, r1⟩ := (hcS0.later hBj).at HSN.out hltj
            have hdl := less1_len (p, q) (x, y)
            have HD : Hid (less1 S[j] (x, y) = less1 (p, q) (x, y)) := by rw [hSj]; exact rfl
            have HOWN : Hid (wr.ownsRow W0.heap.size 23 2 u8 ((S.take j).flatMap fun z => less1 z (x, y)).length (cellsOf ((S.take j).flatMap fun z => less1 z (x, y)))) := hownj
            clear hLN hownj hBj hcS0 hq0 hq1 hSj
            go_wp2_with fail
            refine (lessOne_any _ _ _ _ _).mono ?_
            rintro e w2 ⟨v2, rfl, own2, hb2⟩
            have hB2 : Below wr.heap.size wr w2 := ((Below.refl _ _).alloc (Nat.le_refl _) _).trans (hb2.mono (by simp))
            have HOWN2 := own_below HOWN.out hB2
            have HB2 : Hid (Below wr.heap.size wr w2) := hB2
            have hsz2 : W0.heap.size ≤ w2.heap.size := Nat.le_trans hszj hB2.size
            have HO2 : Hid (w2.ownsRow (wr.alloc (.cells #[.int .i64 p, .int .i64 q] 23)).heap.size 23 2 v2 (less1 (p, q) (x, y)).length (cellsOf (less1 (p, q) (x, y)))) := own2
            clear hb2 hB2
            generalize less1 (p, q) (x, y) = D at *
            rcases own2.2 with ⟨rfl, hd0⟩ | ⟨g3, cap3, cur, rfl, _⟩
            · clear own2
              go_wp2_with (at_builtin; refine wpList_append_own_none rfl _ _ 42 rfl W0.heap.size 23 i0 2 Tryd.underlying42 hi _ _ _ rfl HOWN2 rfl ?_)
              exact ⟨⟨j + 1, by omega, by go_num, HLN.out.miss HB2.out hjl (by rw [HD.out]; exact List.length_eq_zero_iff.1 hd0)⟩, by simp [intOf]; omega⟩
            · clear own2
              go_wp2_with (at_builtin; refine wpList_append_own _ rfl _ _ 42 rfl W0.heap.size 23 i0 (.agg #[.int .i64 0, .int .i64 0]) 2 16 Tryd.underlying42 hi hz0 hz1 hz2 twoCells (by decide) _ _ _ rfl HOWN2 ⟨g3, 0, none⟩ D.length cap3 (cellsOf D) rfl (cellsOf_len D) (cells_news HO2.out) (cellsOf_one D) ?c3 ?c4 ?c5 ?_)
              case c3 => unfold maxLen; omega
              case c4 => omega
              case c5 => omega
              intro v' w3 hown3 hgrow _
              have hB3 : Below W0.heap.size W0 w3 := (HLN.out.below.trans (HB2.out.mono hszj)).grown hgrow hsz2 (fun g hg => (HOWN2.lt g hg).1)
              have HLN3 : Hid (LN W0 S (x, y) (j + 1) v' w3) := LN.hit hjl (by rw [HD.out]; simpa using hown3) hB3
              clear hgrow hown3 hB3
              go_wp2
              exact ⟨⟨j + 1, by omega, by go_num, HLN3.out⟩, by simp [intOf]; omega⟩
          · obtain rfl : j = N := by omega
            clear hLN hownj hBj
            go_wp2
            exact ⟨⟨k + 1, by omega, by go_num, by
              obtain ⟨h1, h2⟩ := HLN.out
              rw [← HSN.out, List.take_length] at h1
              refine ⟨?_, HB0.out.trans (h2.mono HB0.out.size)⟩
              rw [HNX.out]
              exact own_mono h1 HB0.out.size⟩, by simp [intOf]; omega⟩
    · obtain rfl : k = n := by omega
      go_wp2
      go_ret
      exact ⟨_, rfl, by have := hown; rw [← HN.out, List.take_length] at this; exact this, HB.out⟩

theorem less_any (m b : Int) (v : Value) (L : List (Int × Int)) (w : World) (hs : SL w v L) (ho : okB m b = true) (hL : okL L = true) :
    Calls Tryd.prog 40 #[.agg #[.int .i64 m, .int .i64 b], v] w fun e w' => ∃ v, e = .returned v ∧ w'.ownsRow w.heap.size 23 2 v (lessL (m, b) L).length (cellsOf (lessL (m, b) L)) ∧ Below w.heap.size w w' := by
  rcases hs with ⟨ao, cap, rfl, rfl⟩ | ⟨B, o, cap, rfl, h1, h2, hc⟩
  · exact less_nil m b ao cap w
  · exact less_some m b B o cap _ L w hc rfl (by omega) ho hL

/-- The error of a cube less others, and what is left. -/
def mnV (m b : Int) (L : List (Int × Int)) : Value := if okB m b then csV L else ceV m b
def mnOf (m b : Int) (L : List (Int × Int)) : List (Int × Int) := if okB m b && decide (fcN L = 0) then lessL (m, b) L else []
theorem okL_of {L : List (Int × Int)} (h : fcN L = 0) : okL L = true ∧ L.length ≤ 40 := by
  unfold fcN at h
  split at h
  · omega
  · next h40 =>
    refine ⟨?_, by omega⟩
    clear h40
    induction L with
    | nil => rfl
    | cons p r ih =>
      simp only [faN] at h
      split at h
      · next ho => simp only [okL, List.all_cons, Bool.and_eq_true]; exact ⟨ho, ih h⟩
      · next ho => exact absurd h (ref_ne (by simpa using ho))

set_option maxHeartbeats 1000000 in
theorem csMinus_any (m b : Int) (s : Value) (L : List (Int × Int)) (w : World) (hs : SL w s L) :
    Calls Tryd.prog 28 #[.agg #[.int .i64 m, .int .i64 b], s] w fun e w' => ∃ v, e = .returned (.tuple #[v, mnV m b L]) ∧ w'.ownsRow w.heap.size 23 2 v (mnOf m b L).length (cellsOf (mnOf m b L)) ∧ Below w.heap.size w w' := by
  have hs0 := hs.later ((Below.refl _ w).alloc (Nat.le_refl _) (.cells #[.int .i64 m, .int .i64 b] 23))
  cases ho : okB m b
  · have e1 : mnV m b L = .iface 59 (.int .i64 (refN m b)) := by simp [mnV, ho, ce_no ho]
    have e2 : mnOf m b L = [] := by simp [mnOf, ho]
    rw [e1, e2]
    clear e1 e2
    go_enter Tryd.func28, Tryd.ntmps28
    go_wp2_with fail
    refine (check_ce _ _ _).mono ?_
    rintro e w1 ⟨rfl, hb1⟩
    rw [ce_no ho]
    go_wp2
    refine bodyPost_ret (v := .tuple #[.slice none 0 0, .iface 59 (.int .i64 (refN m b))]) (by simp [results, Tryd.results28, go_sem]) rfl ⟨_, rfl, World.ownsRow_nil _ _ _ _, ((Below.refl _ _).alloc (Nat.le_refl _) _).trans (hb1.mono (by simp))⟩
  · by_cases hf : fcN L = 0
    · have e1 : mnV m b L = .nilIface := by simp [mnV, ho, csV, hf]
      have e2 : mnOf m b L = lessL (m, b) L := by simp [mnOf, ho, hf]
      have e3 : csV L = .nilIface := by simp [csV, hf]
      rw [e1, e2]
      clear e1 e2
      go_enter Tryd.func28, Tryd.ntmps28
      go_wp2_with fail
      refine (check_ce _ _ _).mono ?_
      rintro e w1 ⟨rfl, hb1⟩
      rw [ce_ok ho]
      have hs1 := hs0.later hb1
      obtain ⟨hc1, -⟩ := bcell hb1
      have q0 : w1.cell? ⟨w.heap.size, 0, none⟩ = some (.int .i64 m) := by rw [hc1 _ _ (by simp)]; simp
      have q1 : w1.cell? ⟨w.heap.size, 1, none⟩ = some (.int .i64 b) := by rw [hc1 _ _ (by simp)]; simp
      have hB1 : Below w.heap.size w w1 := ((Below.refl _ _).alloc (Nat.le_refl _) _).trans (hb1.mono (by simp))
      have hz : w.heap.size < w1.heap.size := by have := hb1.size; simp at this; omega
      clear hc1 hb1
      go_wp2_with fail
      refine (csCheck_any s L _ hs1).mono ?_
      rintro e w2 ⟨rfl, hb2⟩
      rw [e3]
      have hs2 := hs1.later hb2
      have r0 := (hb2.cell (p := ⟨w.heap.size, 0, none⟩) hz).trans q0
      have r1 := (hb2.cell (p := ⟨w.heap.size, 1, none⟩) hz).trans q1
      have hB2 := hB1.trans (hb2.mono hB1.size)
      clear q0 q1 hb2
      go_wp2_with fail
      refine (less_any m b s L _ hs2 ho (okL_of hf).1).mono ?_
      rintro e w3 ⟨v, rfl, hown, hb3⟩
      have HOWN : Hid (w3.ownsRow w2.heap.size 23 2 v (lessL (m, b) L).length (cellsOf (lessL (m, b) L))) := hown
      clear hown
      go_wp2
      refine bodyPost_ret (v := .tuple #[v, .nilIface]) (by simp [results, Tryd.results28, go_sem]) rfl ⟨_, rfl, own_mono HOWN.out hB2.size, hB2.trans (hb3.mono hB2.size)⟩
    · have e1 : mnV m b L = .iface 59 (.int .i64 (fcN L)) := by simp [mnV, ho, csV, hf]
      have e2 : mnOf m b L = [] := by simp [mnOf, hf]
      have e3 : csV L = .iface 59 (.int .i64 (fcN L)) := by simp [csV, hf]
      rw [e1, e2]
      clear e1 e2
      go_enter Tryd.func28, Tryd.ntmps28
      go_wp2_with fail
      refine (check_ce _ _ _).mono ?_
      rintro e w1 ⟨rfl, hb1⟩
      rw [ce_ok ho]
      have hs1 := hs0.later hb1
      have hB1 : Below w.heap.size w w1 := ((Below.refl _ _).alloc (Nat.le_refl _) _).trans (hb1.mono (by simp))
      clear hb1
      go_wp2_with fail
      refine (csCheck_any s L _ hs1).mono ?_
      rintro e w2 ⟨rfl, hb2⟩
      rw [e3]
      have hB2 := hB1.trans (hb2.mono hB1.size)
      go_wp2
      refine bodyPost_ret (v := .tuple #[.slice none 0 0, .iface 59 (.int .i64 (fcN L))]) (by simp [results, Tryd.results28, go_sem]) rfl ⟨_, rfl, World.ownsRow_nil _ _ _ _, hB2⟩
end Go.Proofs.YtclecpcnmfhhcaaDoor
