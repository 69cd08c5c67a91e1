/- What the law asks of several cubes at once: contracts for its walk. -/
import Derived.Test.YtclecpcnmfhhcaaDoorCubesRef
import Derived.Test.YtclecpcnmfhhcaaDoorCubesHeaders
import Derived.Test.YtclecpcnmfhhcaaDoorCubesApart
import Derived.Test.YtclecpcnmfhhcaaDoorRefHeaders
namespace Go.Proofs.YtclecpcnmfhhcaaDoor
open Go.RowKit
set_option linter.unusedSimpArgs false

set_option maxHeartbeats 1000000 in
theorem ints_len (ao bo : Option Addr) (n k c d : Nat) (w : World) (h : n ≠ k) :
    Calls Tryd.prog 23 #[.slice ao n c, .slice bo k d] w fun e w' => e = .returned (.bool false) ∧ Below w.heap.size w w' := by
  have h2 : (n : Int) ≠ (k : Int) := by omega
  go_enter Tryd.func23, Tryd.ntmps23
  go_wp2
  go_ret
  exact ⟨rfl, Below.refl _ _⟩

set_option maxHeartbeats 1000000 in
theorem ints_nil (w : World) (ao bo : Option Addr) (c d : Nat) :
    Calls Tryd.prog 23 #[.slice ao 0 c, .slice bo 0 d] w fun e w' => e = .returned (.bool true) ∧ Below w.heap.size w w' := by
  go_enter Tryd.func23, Tryd.ntmps23
  go_wp2
  go_loopw [5] (fun i wr => i = .int .i64 0 ∧ wr = w) (fun i _ => 0)
  case atStart => exact ⟨rfl, rfl⟩
  case round =>
    obtain ⟨rfl, rfl⟩ := hrel
    go_wp2
    go_ret
    exact ⟨rfl, Below.refl _ _⟩

set_option maxHeartbeats 2000000 in
theorem ints_some (g f n c d : Nat) (xs ys : List Int) (w : World) (hx : xs.length = n) (hy : ys.length = n) (hn : n ≤ 16)
    (h1 : ∀ i (hi : i < xs.length), w.cell? ⟨g, i, none⟩ = some (.int .i64 xs[i])) (h2 : ∀ i (hi : i < ys.length), w.cell? ⟨f, i, none⟩ = some (.int .i64 ys[i])) :
    Calls Tryd.prog 23 #[.slice (some ⟨g, 0, none⟩) n c, .slice (some ⟨f, 0, none⟩) n d] w fun e w' => e = .returned (.bool (xs == ys)) ∧ Below w.heap.size w w' := by
  have HX : Hid (xs.length = n) := hx
  have HY : Hid (ys.length = n) := hy
  clear hx hy
  go_enter Tryd.func23, Tryd.ntmps23
  go_wp2
  go_loopw [5] (fun i wr => ∃ k : Nat, k ≤ n ∧ i = .int .i64 k ∧ eqTo xs ys k = true ∧ Below w.heap.size w wr)
    (fun i _ => n - (intOf i).toNat)
  case atStart => exact ⟨0, by omega, rfl, by simp [eqTo], Below.refl _ _⟩
  case round =>
    obtain ⟨k, hk, rfl, he, hB⟩ := hrel
    have HB : Hid (Below w.heap.size w wr) := hB
    have HE : Hid (eqTo xs ys k = true) := he
    clear he
    by_cases hlt : k < n
    · have hkx : k < xs.length := by rw [HX.out]; exact hlt
      have hky : k < ys.length := by rw [HY.out]; exact hlt
      have q0 := h1 k hkx
      have q1 := h2 k hky
      have r0 := hB.cell (World.block_lt_of_cell? _ _ q0)
      have r1 := hB.cell (World.block_lt_of_cell? _ _ q1)
      rw [q0] at r0
      rw [q1] at r1
      obtain ⟨x, hxk⟩ : ∃ x, x = xs[k] := ⟨_, rfl⟩
      obtain ⟨y, hyk⟩ : ∃ y, y = ys[k] := ⟨_, rfl⟩
      rw [← hxk] at r0
      rw [← hyk] at r1
      have HXK : Hid (x = xs[k]) := hxk
      have HYK : Hid (y = ys[k]) := hyk
      clear hxk hyk q0 q1 h1 h2 hB
      by_cases hne : x = y
      · have HXY : Hid (x = y) := hne
        subst hne
        go_wp2
        go_quiet (fail)
        go_wp2
        go_roundw
        case rel => exact ⟨k + 1, by omega, by go_num, by
          have := HE.out
          simp only [eqTo, List.take_succ_eq_append_getElem hkx, List.take_succ_eq_append_getElem hky, beq_iff_eq] at *
          rw [this, ← HXK.out, ← HYK.out], HB.out.trans ⟨rfl, rfl, rfl, Nat.le_refl _, fun _ _ => rfl⟩⟩
        case measure => simp [intOf]; omega
      · go_wp2
        go_quiet (fail)
        go_wp2
        go_ret
        exact ⟨by
          have : (xs == ys) = false := by
            simp only [beq_eq_false_iff_ne, ne_eq]
            intro h; subst h
            exact hne (HXK.out.trans HYK.out.symm)
          rw [this]; rfl, HB.out.trans ⟨rfl, rfl, rfl, Nat.le_refl _, fun _ _ => rfl⟩⟩
    · obtain rfl : k = n := by omega
      go_wp2
      go_ret
      exact ⟨by
        have := HE.out
        have h1 := List.take_length (l := xs)
        have h2 := List.take_length (l := ys)
        rw [HX.out] at h1
        rw [HY.out] at h2
        rw [eqTo, h1, h2] at this
        rw [this]; rfl, HB.out⟩

theorem ints_any (u v : Value) (xs ys : List Int) (w : World) (B C e : Nat) (hx : xs.length ≤ 16)
    (h1 : w.ownsRow B e 1 u xs.length (xs.map (Value.int .i64))) (h2 : w.ownsRow C e 1 v ys.length (ys.map (Value.int .i64))) :
    Calls Tryd.prog 23 #[u, v] w fun e w' => e = .returned (.bool (xs == ys)) ∧ Below w.heap.size w w' := by
  by_cases hl : xs.length = ys.length
  · rcases own_ints h1 with ⟨rfl, rfl⟩ | ⟨g, c, rfl, q1⟩
    · obtain rfl : ys = [] := List.length_eq_zero_iff.1 hl.symm
      obtain ⟨ao, d, rfl⟩ := own_form h2
      exact ints_nil w _ _ _ _
    · rcases own_ints h2 with ⟨rfl, rfl⟩ | ⟨f, d, rfl, q2⟩
      · obtain rfl : xs = [] := List.length_eq_zero_iff.1 hl
        exact ints_nil w _ _ _ _
      · have := ints_some g f xs.length c d xs ys w rfl hl.symm hx q1 q2
        rw [← hl]
        exact this
  · have e : (xs == ys) = false := by
      simp only [beq_eq_false_iff_ne, ne_eq]
      intro h; subst h; exact hl rfl
    rw [e]
    obtain ⟨ao, c, rfl⟩ := own_form h1
    obtain ⟨bo, d, rfl⟩ := own_form h2
    exact ints_len _ _ _ _ _ _ w hl


/-- The numbers that a value tells. -/
theorem own_nums {w : World} {B e : Nat} {bo : Option Addr} {nx cx : Nat} {X : List Int} (h : w.ownsRow B e 1 (.slice bo nx cx) X.length (X.map (Value.int .i64))) :
    X.length = nx ∧ ∀ j (hj : j < X.length), ∃ g, bo = some ⟨g, 0, none⟩ ∧ w.cell? ⟨g, j, none⟩ = some (.int .i64 X[j]) := by
  rcases own_ints h with ⟨hv, rfl⟩ | ⟨g, cap, hv, hc⟩
  · simp only [Value.slice.injEq] at hv
    exact ⟨hv.2.1.symm, fun j hj => by simp at hj⟩
  · simp only [Value.slice.injEq] at hv
    exact ⟨hv.2.1.symm, fun j hj => ⟨g, hv.1, hc j hj⟩⟩
/-- The cubes that a value tells. -/
theorem SL.nums {w : World} {ao : Option Addr} {n cap : Nat} {S : List (Int × Int)} (h : SL w (.slice ao n cap) S) :
    S.length = n ∧ ∀ k, k < S.length → ∃ b o, ao = some ⟨b, o, none⟩ ∧ CAt w b o S := by
  rcases h with ⟨ao', cap', hv, rfl⟩ | ⟨b, o, cap', hv, _, _, hc⟩
  · simp only [Value.slice.injEq] at hv
    exact ⟨hv.2.1.symm, fun k hk => by simp at hk⟩
  · simp only [Value.slice.injEq] at hv
    exact ⟨hv.2.1.symm, fun k hk => ⟨b, o, hv.1, hc⟩⟩
theorem SL.form {w : World} {v : Value} {S : List (Int × Int)} (h : SL w v S) : ∃ ao cap, v = .slice ao S.length cap := by
  rcases h with ⟨ao', cap', rfl, rfl⟩ | ⟨b, o, cap', rfl, _, _, hc⟩
  · exact ⟨ao', cap', rfl⟩
  · exact ⟨_, _, rfl⟩

theorem hd_nh (m b : Int) : (hdTo m b 16).length = nh (m, b) := by
  simp only [hdTo, List.length_map, nh, List.countP_eq_length_filter]
theorem nh_le (p : Int × Int) : nh p ≤ 16 := by
  have := List.countP_le_length (p := fun (h : Nat) => hasB p.1 p.2 (h : Int)) (l := List.range 16)
  simpa [nh] using this
theorem tot_next {S : List (Int × Int)} {k : Nat} (hk : k < S.length) {p : Int × Int} (hS : S[k] = p) : tot (S.take (k + 1)) = tot (S.take k) + nh p := by
  have h : ∀ (A : List (Int × Int)) q, tot (A ++ [q]) = tot A + nh q := by
    intro A q
    induction A with
    | nil => simp [tot]
    | cons x r ih => simp only [List.cons_append, tot, ih]; omega
  rw [List.take_succ_eq_append_getElem hk, h, hS]
theorem tot_le (S : List (Int × Int)) : tot S ≤ 16 * S.length := by
  induction S with
  | nil => simp [tot]
  | cons x r ih => have := nh_le x; simp only [tot, List.length_cons]; omega
/-- The headers that are asked for. -/
def wantL (f : Nat → Bool) : List Int := ((List.range 16).filter f).map fun (h : Nat) => (h : Int)
theorem want_len (f : Nat → Bool) : (wantL f).length = (List.range 16).countP f := by simp only [wantL, List.length_map, List.countP_eq_length_filter]
theorem want_at {f : Nat → Bool} {j : Nat} (hj : j < (wantL f).length) : ∃ h : Nat, h < 16 ∧ f h = true ∧ (wantL f)[j] = (h : Int) := by
  have hm := List.getElem_mem hj
  obtain ⟨h, h1, h2⟩ := List.mem_map.1 hm
  obtain ⟨h3, h4⟩ := List.mem_filter.1 h1
  exact ⟨h, List.mem_range.1 h3, h4, h2.symm⟩

set_option maxRecDepth 100000 in
set_option maxHeartbeats 4000000 in
theorem lawApart (v u : Value) (S : List (Int × Int)) (f : Nat → Bool) (B e : Nat) (w : World) (hs : SL w v S) (hp : Parts S f) (hu : w.ownsRow B e 1 u (wantL f).length ((wantL f).map (Value.int .i64))) :
    Calls Tryd.prog 27 #[v, u] w fun e w' => e = .returned (.bool true) ∧ Below w.heap.size w w' := by
  have hlen := parts_len hp
  have htot := parts_tot hp
  rw [← want_len] at htot
  obtain ⟨ao, cap, rfl⟩ := hs.form
  obtain ⟨bo, cx, rfl⟩ := own_form hu
  obtain ⟨-, hcells⟩ := own_nums hu
  obtain ⟨-, hcubes⟩ := hs.nums
  have HS : Hid (SL w (.slice ao S.length cap) S) := hs
  obtain ⟨n, hn⟩ : ∃ n, S.length = n := ⟨_, rfl⟩
  obtain ⟨nx, hnx⟩ : ∃ nx, (wantL f).length = nx := ⟨_, rfl⟩
  have hnx2 : nx ≤ 256 := by rw [← hnx, ← htot]; have := tot_le S; omega
  have HN : Hid (S.length = n) := hn
  have HNX : Hid ((wantL f).length = nx) := hnx
  have HTOT : Hid (tot S = (wantL f).length) := htot
  have HCL : Hid (∀ (j : Nat) (hj : j < (wantL f).length), ∃ g, bo = some ⟨g, 0, none⟩ ∧ w.cell? ⟨g, j, none⟩ = some (.int .i64 (wantL f)[j])) := hcells
  have HCB : Hid (∀ (k : Nat), k < S.length → ∃ b o, ao = some ⟨b, o, none⟩ ∧ CAt w b o S) := hcubes
  rw [hn, hnx]
  rw [hn] at hlen
  clear hn hnx htot hcells hcubes hs hu
  go_enter Tryd.func27, Tryd.ntmps27
  go_wp2
  go_loopw [5, 6] (fun c i wr => ∃ k : Nat, k ≤ n ∧ i = .int .i64 k ∧ c = .int .i64 ((tot (S.take k) : Nat) : Int) ∧ Below w.heap.size w wr)
    (fun _ i _ => n - (intOf i).toNat)
  case atStart => exact ⟨0, by omega, rfl, rfl, Below.refl _ _⟩
  case round =>
    obtain ⟨k, hk, rfl, rfl, hB⟩ := hrel
    have HB : Hid (Below w.heap.size w wr) := hB
    obtain ⟨T, hT⟩ : ∃ T, tot (S.take k) = T := ⟨_, rfl⟩
    have HT : Hid (tot (S.take k) = T) := hT
    have hT2 : T ≤ 256 := by rw [← hT]; have := tot_le (S.take k); have h2 : (S.take k).length ≤ 16 := by simp; omega
                             omega
    rw [hT]
    clear hT
    by_cases hlt : k < n
    · obtain ⟨b, o, rfl, hc⟩ := HCB.out k (by rw [HN.out]; exact hlt)
      obtain ⟨x, y, hkl, hSk, q0, q1⟩ := (hc.later hB).at HN.out hlt
      have hok : okB x y = true := by have := okL_at hp.ok hkl; rw [hSk] at this; exact this
      have HNT : Hid (tot (S.take (k + 1)) = T + nh (x, y)) := by rw [← HT.out]; exact tot_next hkl hSk
      have hBl : b < wr.heap.size := World.block_lt_of_cell? _ _ q0
      clear hSk hB hc
      go_wp2_with fail
      refine (refCube_any _ _ _).mono ?_
      rintro e w1 ⟨rfl, hb1⟩
      rw [refN_ok hok]
      have r0 := (hb1.cell (p := ⟨b, o + k * 2, none⟩) hBl).trans q0
      have r1 := (hb1.cell (p := ⟨b, o + k * 2 + 1, none⟩) hBl).trans q1
      have HB1 : Hid (Below w.heap.size w w1) := HB.out.trans (hb1.mono HB.out.size)
      clear hb1 q0 q1
      go_wp2_with fail
      refine (refHeaders_any _ _ _).mono ?_
      rintro e w2 ⟨v2, rfl, own2, hb2⟩
      have HB2 : Hid (Below w.heap.size w w2) := HB1.out.trans (hb2.mono HB1.out.size)
      rw [hd_nh] at own2
      obtain ⟨bo2, c2, rfl⟩ := own_form own2
      have hnh := nh_le (x, y)
      generalize nh (x, y) = D at *
      clear own2 hb2 r0 r1
      go_wp2
      exact ⟨⟨k + 1, by omega, by go_num, by rw [HNT.out]; go_num, HB2.out⟩, by simp [intOf]; omega⟩
    · obtain rfl : k = n := by omega
      have hTn : T = nx := by have := HT.out; rw [← HN.out, List.take_length] at this; rw [← this, HTOT.out, HNX.out]
      subst hTn
      clear hB
      go_wp2
      go_loopw [7] (fun i wq => ∃ j : Nat, j ≤ T ∧ i = .int .i64 j ∧ Below w.heap.size w wq)
        (fun i _ => T - (intOf i).toNat)
      case atStart => exact ⟨0, by omega, rfl, HB.out⟩
      case round =>
        clear HB
        obtain ⟨j, hj, rfl, hB⟩ := hrel
        by_cases hltj : j < T
        · have hjl : j < (wantL f).length := by rw [HNX.out]; exact hltj
          obtain ⟨g, rfl, q0⟩ := HCL.out j hjl
          obtain ⟨h, hh, hf, hw⟩ := want_at hjl
          rw [hw] at q0
          have q1 := (hB.cell (World.block_lt_of_cell? _ _ q0)).trans q0
          have hany : anyB S (h : Int) = true := by rw [parts_any hp hh]; exact hf
          have HSr : Hid (SL _ (.slice ao S.length cap) S) := HS.out.later hB
          have HBr : Hid (Below w.heap.size w _) := hB
          rw [HN.out] at HSr
          clear q0 hw hB
          go_wp2_with fail
          refine (refAny_any _ S _ _ HSr.out).mono ?_
          rintro e w3 ⟨rfl, hb3⟩
          rw [hany]
          have HB3 := HBr.out.trans (hb3.mono HBr.out.size)
          clear hb3 q1
          go_wp2
          exact ⟨⟨j + 1, by omega, by go_num, HB3⟩, by simp [intOf]; omega⟩
        · obtain rfl : j = T := by omega
          have HBr : Hid (Below w.heap.size w _) := hB
          have hk16 : ((k : Nat) : Int) ≤ 16 := by omega
          clear hB
          go_wp2
          go_ret
          exact ⟨rfl, HBr.out⟩

/-- The fault of two lists; have both just the same headers, up to a place? -/
def smN (L M : List (Int × Int)) : Int := if fcN L = 0 then fcN M else fcN L
def smTo (L M : List (Int × Int)) (k : Nat) : Bool := decide (smN L M = 0) && (List.range k).all fun (i : Nat) => anyB L (i : Int) == anyB M (i : Int)
theorem sm_next (L M : List (Int × Int)) (k : Nat) : smTo L M (k + 1) = (smTo L M k && (anyB L (k : Int) == anyB M (k : Int))) := by
  simp [smTo, List.range_succ, List.all_append, Bool.and_assoc]
theorem hs_mem (L : List (Int × Int)) {k : Nat} (hk : k < 16) : (k : Int) ∈ hsTo L 16 ↔ anyB L (k : Int) = true := by
  simp only [hsTo, List.mem_map, List.mem_filter, List.mem_range]
  constructor
  · rintro ⟨a, ⟨_, h2⟩, h3⟩
    have : a = k := by omega
    rw [← this]; exact h2
  · intro h
    exact ⟨k, ⟨hk, h⟩, rfl⟩
theorem hs_all (L M : List (Int × Int)) : (hsTo L 16 == hsTo M 16) = (List.range 16).all fun (i : Nat) => anyB L (i : Int) == anyB M (i : Int) := by
  rw [Bool.eq_iff_iff, beq_iff_eq, List.all_eq_true]
  constructor
  · intro h k hk
    have hk2 := List.mem_range.1 hk
    have h1 := hs_mem L hk2
    have h2 := hs_mem M hk2
    rw [h] at h1
    rw [beq_iff_eq, Bool.eq_iff_iff]
    exact h1.symm.trans h2
  · intro h
    exact hs_same fun k hk => by simpa using h k (List.mem_range.2 hk)

set_option maxHeartbeats 1000000 in
theorem csSame_no1 (s t : Value) (L : List (Int × Int)) (w : World) (hs : SL w s L) (hL : fcN L ≠ 0) :
    Calls Tryd.prog 29 #[s, t] w fun e w' => e = .returned (.tuple #[.bool false, errOf (fcN L)]) ∧ Below w.heap.size w w' := by
  have e1 : csV L = .iface 59 (.int .i64 (fcN L)) := by simp [csV, hL]
  have e2 : errOf (fcN L) = .iface 59 (.int .i64 (fcN L)) := by simp [errOf, hL]
  rw [e2]
  clear hL e2
  go_enter Tryd.func29, Tryd.ntmps29
  go_wp2_with fail
  refine (csHeaders_any s L _ hs).mono ?_
  rintro e w1 ⟨x, rfl, -, hb1⟩
  rw [e1]
  go_wp2
  refine bodyPost_ret (v := .tuple #[.bool false, .iface 59 (.int .i64 (fcN L))]) (by simp [results, Tryd.results29, go_sem]) rfl ⟨rfl, hb1⟩

set_option maxHeartbeats 1000000 in
theorem csSame_no2 (s t : Value) (L M : List (Int × Int)) (w : World) (hs : SL w s L) (ht : SL w t M) (hL : fcN L = 0) (hM : fcN M ≠ 0) :
    Calls Tryd.prog 29 #[s, t] w fun e w' => e = .returned (.tuple #[.bool false, errOf (fcN M)]) ∧ Below w.heap.size w w' := by
  have e1 : csV L = .nilIface := by simp [csV, hL]
  have e3 : csV M = .iface 59 (.int .i64 (fcN M)) := by simp [csV, hM]
  have e2 : errOf (fcN M) = .iface 59 (.int .i64 (fcN M)) := by simp [errOf, hM]
  rw [e2]
  clear hM hL e2
  go_enter Tryd.func29, Tryd.ntmps29
  go_wp2_with fail
  refine (csHeaders_any s L _ hs).mono ?_
  rintro e w1 ⟨x, rfl, -, hb1⟩
  rw [e1]
  have ht1 := ht.later hb1
  go_wp2_with fail
  refine (csHeaders_any t M _ ht1).mono ?_
  rintro e w2 ⟨y, rfl, -, hb2⟩
  rw [e3]
  go_wp2
  refine bodyPost_ret (v := .tuple #[.bool false, .iface 59 (.int .i64 (fcN M))]) (by simp [results, Tryd.results29, go_sem]) rfl ⟨rfl, hb1.trans (hb2.mono hb1.size)⟩

theorem csSame_full (s t : Value) (L M : List (Int × Int)) (w : World) (hs : SL w s L) (ht : SL w t M) :
    Calls Tryd.prog 29 #[s, t] w fun e w' => e = .returned (.tuple #[.bool (smTo L M 16), errOf (smN L M)]) ∧ Below w.heap.size w w' := by
  by_cases hL : fcN L = 0
  · have e1 : smN L M = fcN M := by simp [smN, hL]
    by_cases hM : fcN M = 0
    · have e2 : smTo L M 16 = (hsOf L == hsOf M) := by
        simp only [smTo, e1, hM, hsOf, hL, if_true, decide_true, Bool.true_and]
        exact (hs_all L M).symm
      rw [e1, e2, hM]
      exact csSame_any s t L M w hs ht hL hM
    · have e2 : smTo L M 16 = false := by simp [smTo, e1, hM]
      rw [e1, e2]
      exact csSame_no2 s t L M w hs ht hL hM
  · have e1 : smN L M = fcN L := by simp [smN, hL]
    have e2 : smTo L M 16 = false := by simp [smTo, e1, hL]
    rw [e1, e2]
    exact csSame_no1 s t L w hs hL

/-- The fault of a cube less others; the headers that are left of it. -/
def mnN (m b : Int) (L : List (Int × Int)) : Int := if refN m b = 0 then fcN L else refN m b
def lfTo (m b : Int) (L : List (Int × Int)) (k : Nat) : List Int := ((List.range k).filter fun (h : Nat) => hasB m b (h : Int) && !anyB L (h : Int)).map fun (h : Nat) => (h : Int)
def lfOf (m b : Int) (L : List (Int × Int)) : List Int := if mnN m b L = 0 then lfTo m b L 16 else []
theorem ref0 {m b : Int} (h : refN m b = 0) : okB m b = true := by
  cases ho : okB m b
  · exact absurd h (ref_ne ho)
  · rfl
theorem mnV_errOf (m b : Int) (L : List (Int × Int)) : mnV m b L = errOf (mnN m b L) := by
  cases ho : okB m b
  · simp only [mnV, ho, mnN, ref_ne ho, if_false, Bool.false_eq_true]
    exact ceV_errOf m b
  · simp only [mnV, ho, mnN, refN_ok ho, if_true]
    rfl
theorem lf_hit {m b : Int} {L : List (Int × Int)} {k : Nat} (h : hasB m b (k : Int) = true) (h2 : anyB L (k : Int) = false) : lfTo m b L (k + 1) = lfTo m b L k ++ [(k : Int)] := by
  simp [lfTo, List.range_succ, List.filter_append, h, h2]
theorem lf_miss {m b : Int} {L : List (Int × Int)} {k : Nat} (h : hasB m b (k : Int) = false ∨ anyB L (k : Int) = true) : lfTo m b L (k + 1) = lfTo m b L k := by
  rcases h with h | h <;> simp [lfTo, List.range_succ, List.filter_append, h]
theorem lf_le (m b : Int) (L : List (Int × Int)) (k : Nat) : (lfTo m b L k).length ≤ k := by
  have := List.length_filter_le (fun (h : Nat) => hasB m b (h : Int) && !anyB L (h : Int)) (List.range k)
  simp only [lfTo, List.length_map]; simpa using this
theorem parts_no : Parts [] fun _ => false := ⟨rfl, fun h _ => by simp [cntH]⟩
/-- What is set apart, and what is left, with the headers that are asked for. -/
theorem ap_want (L : List (Int × Int)) : ∃ f, Parts (apOf L) f ∧ hsOf L = wantL f := by
  by_cases h : fcN L = 0
  · refine ⟨fun k => anyB (L.take L.length) (k : Int), ?_, ?_⟩
    · have : apOf L = apTo L L.length := by simp [apOf, h]
      rw [this]
      exact parts_ap (okL_of h).1 (Nat.le_refl _)
    · simp [hsOf, h, wantL, hsTo]
  · exact ⟨fun _ => false, by simpa [apOf, h] using parts_no, by simp [hsOf, h, wantL]⟩
theorem mn_want (m b : Int) (L : List (Int × Int)) : ∃ f, Parts (mnOf m b L) f ∧ lfOf m b L = wantL f := by
  by_cases h : mnN m b L = 0
  · have h1 : refN m b = 0 := by
      unfold mnN at h
      split at h
      · assumption
      · exact h
    have h2 : fcN L = 0 := by simpa [mnN, h1] using h
    refine ⟨fun k => hasB m b (k : Int) && !anyB L (k : Int), ?_, by simp [lfOf, h, wantL, lfTo]⟩
    have : mnOf m b L = lessL (m, b) L := by simp [mnOf, ref0 h1, h2]
    rw [this]
    exact parts_lessL (a := (m, b)) (ref0 h1) (okL_of h2).1
  · refine ⟨fun _ => false, ?_, by simp [lfOf, h, wantL]⟩
    have : mnOf m b L = [] := by
      cases ho : okB m b
      · simp [mnOf, ho]
      · have : fcN L ≠ 0 := by simpa [mnN, refN_ok ho] using h
        simp [mnOf, this]
    rw [this]
    exact parts_no
end Go.Proofs.YtclecpcnmfhhcaaDoor
