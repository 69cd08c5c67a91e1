/- What Headers, Count and Same of package cubes answer: contracts for the walks above them. -/
import Derived.Test.YtclecpcnmfhhcaaDoorCubesHas
import Derived.Test.YtclecpcnmfhhcaaDoorOwnRow
import Derived.Deep.QuietTactic
import Derived.BigQuiet
namespace Go.Proofs.YtclecpcnmfhhcaaDoor
open Go.RowKit
set_option linter.unusedSimpArgs false

/-- The headers that are told of some. -/
def hsOf (L : List (Int × Int)) : List Int := if fcN L = 0 then hsTo L 16 else []
theorem hsOf_len (L : List (Int × Int)) : (hsOf L).length ≤ 16 := by unfold hsOf; split; exact hs_le L 16; simp
theorem csV_or (L : List (Int × Int)) : (fcN L = 0 ∧ csV L = .nilIface ∧ hsOf L = hsTo L 16) ∨ (fcN L ≠ 0 ∧ csV L = .iface 59 (.int .i64 (fcN L)) ∧ hsOf L = []) := by
  by_cases h : fcN L = 0
  · exact .inl ⟨h, by simp [csV, h], by simp [hsOf, h]⟩
  · exact .inr ⟨h, by simp [csV, h], by simp [hsOf, h]⟩

set_option maxRecDepth 100000 in
set_option maxHeartbeats 1000000 in
theorem csHeaders_any (s : Value) (L : List (Int × Int)) (w : World) (hs : SL w s L) :
    Calls Tryd.prog 22 #[s] w fun e w' => ∃ v, e = .returned (.tuple #[v, csV L]) ∧ w'.ownsRow w.heap.size 3 1 v (hsOf L).length ((hsOf L).map (Value.int .i64)) ∧ Below w.heap.size w w' := by
  obtain ⟨i0, hi, hz0, hz1, hz2⟩ := info_parts infoInt
  rcases csV_or L with ⟨hf, hv, ho⟩ | ⟨hf, hv, ho⟩
  · rw [hv, ho]
    clear hf ho
    go_enter Tryd.func22, Tryd.ntmps22
    go_wp2_with fail
    refine (csCheck_any s L _ hs).mono ?_
    rintro e w1 ⟨rfl, hb1⟩
    rw [hv]
    have HS : Hid (SL w1 s L) := hs.later hb1
    have HB1 : Hid (Below w.heap.size w w1) := hb1
    clear hb1 hv hs
    go_wp2
    go_loopw [5, 12] (fun v i wr => ∃ k : Nat, k ≤ 16 ∧ i = .int .i64 k ∧ wr.ownsRow w1.heap.size 3 1 v (hsTo L k).length ((hsTo L k).map (Value.int .i64)) ∧ Below w1.heap.size w1 wr)
      (fun _ i _ => 16 - (intOf i).toNat)
    case atStart => exact ⟨0, by omega, rfl, World.ownsRow_nil _ _ _ _, Below.refl _ _⟩
    case round =>
      obtain ⟨k, hk, rfl, hown, hB⟩ := hrel
      have hsz : w1.heap.size ≤ wr.heap.size := hB.size
      have HB : Hid (Below w1.heap.size w1 wr) := hB
      have HOWN : Hid (wr.ownsRow w1.heap.size 3 1 u5 (hsTo L k).length ((hsTo L k).map (Value.int .i64))) := hown
      clear hB hown
      by_cases hlt : k < 16
      · go_wp2_with fail
        refine (csHas_any s L _ _ (HS.out.later HB.out)).mono ?_
        rintro e w2 ⟨rfl, hb2⟩
        have hB2 := HB.out.trans (hb2.mono hsz)
        have HOWN2 := own_below HOWN.out hb2
        have hle := hs_le L k
        have hsz2 : w1.heap.size ≤ w2.heap.size := Nat.le_trans hsz hb2.size
        have HB2 : Hid (Below w1.heap.size w1 w2) := hB2
        clear hB2 hb2
        cases hh : anyB L (k : Int)
        · go_wp2
          go_roundw
          case rel => exact ⟨k + 1, by omega, by go_num, by rw [hs_miss hh]; exact HOWN2, HB2.out⟩
          case measure => simp [intOf]; omega
        · have HH : Hid (anyB L (k : Int) = true) := hh
          clear hh
          go_wp2_with (at_builtin; refine wpList_append_own _ rfl _ _ 37 rfl w1.heap.size 3 i0 (.int .i64 0) 1 8 Tryd.underlying37 hi hz0 hz1 hz2 rfl (by decide) _ _ _ rfl (HOWN2.alloc _) ⟨w2.heap.size, 0, none⟩ 1 1 [.int .i64 k] rfl rfl ?c1 ?c2 ?c3 ?c4 ?c5 ?_)
          case c1 =>
            intro j u hj
            match j, hj with
            | 0, hj => simp at hj; subst hj; simp [Addr.add]
          case c2 => intro u hu; simp at hu; subst hu; rfl
          case c3 => unfold maxLen; omega
          case c4 => omega
          case c5 => simp; omega
          intro v' w3 hown3 hgrow _
          have hB3 : Below w1.heap.size w1 w3 := (HB2.out.alloc hsz2 _).grown hgrow (by simp; omega) (fun g hg => (HOWN2.lt g hg).1)
          clear hgrow
          go_wp2
          go_roundw
          case rel => exact ⟨k + 1, by omega, by go_num, by rw [hs_hit HH.out]; simpa using hown3, hB3⟩
          case measure => simp [intOf]; omega
      · obtain rfl : k = 16 := by omega
        go_wp2
        refine bodyPost_ret (v := .tuple #[u5, .nilIface]) (by simp [results, Tryd.results22, go_sem]) rfl ⟨u5, rfl, own_mono HOWN.out HB1.out.size, HB1.out.trans (HB.out.mono HB1.out.size)⟩
  · rw [hv, ho]
    clear hf ho
    go_enter Tryd.func22, Tryd.ntmps22
    go_wp2_with fail
    refine (csCheck_any s L _ hs).mono ?_
    rintro e w1 ⟨rfl, hb1⟩
    rw [hv]
    go_wp2
    refine bodyPost_ret (v := .tuple #[.slice none 0 0, .iface 59 (.int .i64 (fcN L))]) (by simp [results, Tryd.results22, go_sem]) rfl ⟨_, rfl, World.ownsRow_nil _ _ _ _, hb1⟩

/-- The length of a row that a call owns. -/
theorem own_form {w : World} {B e size n : Nat} {v : Value} {xs : List Value} (h : w.ownsRow B e size v n xs) : ∃ ao cap, v = .slice ao n cap := by
  rcases h.2 with ⟨rfl, rfl⟩ | ⟨g, cap, cur, rfl, _⟩
  · exact ⟨none, 0, rfl⟩
  · exact ⟨_, cap, rfl⟩

set_option maxHeartbeats 1000000 in
theorem csCount_any (s : Value) (L : List (Int × Int)) (w : World) (hs : SL w s L) :
    Calls Tryd.prog 24 #[s] w fun e w' => e = .returned (.tuple #[.int .i64 ((hsOf L).length : Int), csV L]) ∧ Below w.heap.size w w' := by
  have hh := csHeaders_any s L w hs
  generalize hcs : csV L = E at *
  generalize hln : (hsOf L).length = N at *
  go_enter Tryd.func24, Tryd.ntmps24
  go_wp2_with fail
  refine hh.mono ?_
  rintro e w1 ⟨v, rfl, hown, hb1⟩
  obtain ⟨ao, cap, rfl⟩ := own_form hown
  clear hown hcs hln hh
  go_wp2
  refine bodyPost_ret (v := .tuple #[.int .i64 N, E]) (by simp [results, Tryd.results24, go_sem]) rfl ⟨rfl, hb1⟩

/-- These numbers lie where a value says. -/
theorem own_ints {w : World} {B e : Nat} {v : Value} {xs : List Int} (h : w.ownsRow B e 1 v xs.length (xs.map (Value.int .i64))) :
    (v = .slice none 0 0 ∧ xs = []) ∨ ∃ g cap, v = .slice (some ⟨g, 0, none⟩) xs.length cap ∧ ∀ i (hi : i < xs.length), w.cell? ⟨g, i, none⟩ = some (.int .i64 xs[i]) := by
  rcases h.2 with ⟨rfl, h0⟩ | ⟨g, cap, cur, rfl, _⟩
  · exact .inl ⟨rfl, List.length_eq_zero_iff.1 h0⟩
  · refine .inr ⟨g, cap, rfl, fun i hi => ?_⟩
    rw [h.cellAt i (by omega)]
    simp [hi]

/-- Are two lists of numbers alike up to a place? -/
def eqTo (a b : List Int) (k : Nat) : Bool := a.take k == b.take k

set_option maxHeartbeats 1000000 in
theorem equal_len (ao bo : Option Addr) (n k c d : Nat) (w : World) (h : n ≠ k) :
    Calls Tryd.prog 41 #[.slice ao n c, .slice bo k d] w fun e w' => e = .returned (.bool false) ∧ Below w.heap.size w w' := by
  have h2 : (n : Int) ≠ (k : Int) := by omega
  go_enter Tryd.func41, Tryd.ntmps41
  go_wp2
  go_ret
  exact ⟨rfl, Below.refl _ _⟩

set_option maxHeartbeats 1000000 in
theorem equal_nil (w : World) (ao bo : Option Addr) (c d : Nat) :
    Calls Tryd.prog 41 #[.slice ao 0 c, .slice bo 0 d] w fun e w' => e = .returned (.bool true) ∧ Below w.heap.size w w' := by
  go_enter Tryd.func41, Tryd.ntmps41
  go_wp2
  go_loopw [13] (fun i wr => i = .int .i64 0 ∧ wr = w) (fun i _ => 0)
  case atStart => exact ⟨rfl, rfl⟩
  case round =>
    obtain ⟨rfl, rfl⟩ := hrel
    go_wp2
    go_ret
    exact ⟨rfl, Below.refl _ _⟩

set_option maxHeartbeats 2000000 in
theorem equal_some (g f n c d : Nat) (xs ys : List Int) (w : World) (hx : xs.length = n) (hy : ys.length = n) (hn : n ≤ 16)
    (h1 : ∀ i (hi : i < xs.length), w.cell? ⟨g, i, none⟩ = some (.int .i64 xs[i])) (h2 : ∀ i (hi : i < ys.length), w.cell? ⟨f, i, none⟩ = some (.int .i64 ys[i])) :
    Calls Tryd.prog 41 #[.slice (some ⟨g, 0, none⟩) n c, .slice (some ⟨f, 0, none⟩) n d] w fun e w' => e = .returned (.bool (xs == ys)) ∧ Below w.heap.size w w' := by
  have HX : Hid (xs.length = n) := hx
  have HY : Hid (ys.length = n) := hy
  clear hx hy
  go_enter Tryd.func41, Tryd.ntmps41
  go_wp2
  go_loopw [13] (fun i wr => ∃ k : Nat, k ≤ n ∧ i = .int .i64 k ∧ eqTo xs ys k = true ∧ Below w.heap.size w wr)
    (fun i _ => n - (intOf i).toNat)
  case atStart => exact ⟨0, by omega, rfl, by simp [eqTo], Below.refl _ _⟩
  case round =>
    obtain ⟨k, hk, rfl, he, hB⟩ := hrel
    have HB : Hid (Below w.heap.size w wr) := hB
    have HE : Hid (eqTo xs ys k = true) := he
    clear he
    by_cases hlt : k < n
    · have hkx : k < xs.length := by rw [HX.out]; exact hlt
      have hky : k < ys.length := by rw [HY.out]; exact hlt
      have q0 := h1 k hkx
      have q1 := h2 k hky
      have r0 := hB.cell (World.block_lt_of_cell? _ _ q0)
      have r1 := hB.cell (World.block_lt_of_cell? _ _ q1)
      rw [q0] at r0
      rw [q1] at r1
      obtain ⟨x, hxk⟩ : ∃ x, x = xs[k] := ⟨_, rfl⟩
      obtain ⟨y, hyk⟩ : ∃ y, y = ys[k] := ⟨_, rfl⟩
      rw [← hxk] at r0
      rw [← hyk] at r1
      have HXK : Hid (x = xs[k]) := hxk
      have HYK : Hid (y = ys[k]) := hyk
      clear hxk hyk q0 q1 h1 h2 hB
      by_cases hne : x = y
      · have HXY : Hid (x = y) := hne
        subst hne
        go_wp2
        go_quiet (fail)
        go_wp2
        go_roundw
        case rel => exact ⟨k + 1, by omega, by go_num, by
          have := HE.out
          simp only [eqTo, List.take_succ_eq_append_getElem hkx, List.take_succ_eq_append_getElem hky, beq_iff_eq] at *
          rw [this, ← HXK.out, ← HYK.out], HB.out.trans ⟨rfl, rfl, rfl, Nat.le_refl _, fun _ _ => rfl⟩⟩
        case measure => simp [intOf]; omega
      · go_wp2
        go_quiet (fail)
        go_wp2
        go_ret
        exact ⟨by
          have : (xs == ys) = false := by
            simp only [beq_eq_false_iff_ne, ne_eq]
            intro h; subst h
            exact hne (HXK.out.trans HYK.out.symm)
          rw [this]; rfl, HB.out.trans ⟨rfl, rfl, rfl, Nat.le_refl _, fun _ _ => rfl⟩⟩
    · obtain rfl : k = n := by omega
      go_wp2
      go_ret
      exact ⟨by
        have := HE.out
        have h1 := List.take_length (l := xs)
        have h2 := List.take_length (l := ys)
        rw [HX.out] at h1
        rw [HY.out] at h2
        rw [eqTo, h1, h2] at this
        rw [this]; rfl, HB.out⟩

theorem equal_any (u v : Value) (xs ys : List Int) (w : World) (B C e : Nat) (hx : xs.length ≤ 16)
    (h1 : w.ownsRow B e 1 u xs.length (xs.map (Value.int .i64))) (h2 : w.ownsRow C e 1 v ys.length (ys.map (Value.int .i64))) :
    Calls Tryd.prog 41 #[u, v] w fun e w' => e = .returned (.bool (xs == ys)) ∧ Below w.heap.size w w' := by
  by_cases hl : xs.length = ys.length
  · rcases own_ints h1 with ⟨rfl, rfl⟩ | ⟨g, c, rfl, q1⟩
    · obtain rfl : ys = [] := List.length_eq_zero_iff.1 hl.symm
      obtain ⟨ao, d, rfl⟩ := own_form h2
      exact equal_nil w _ _ _ _
    · rcases own_ints h2 with ⟨rfl, rfl⟩ | ⟨f, d, rfl, q2⟩
      · obtain rfl : xs = [] := List.length_eq_zero_iff.1 hl
        exact equal_nil w _ _ _ _
      · have := equal_some g f xs.length c d xs ys w rfl hl.symm hx q1 q2
        rw [← hl]
        exact this
  · have e : (xs == ys) = false := by
      simp only [beq_eq_false_iff_ne, ne_eq]
      intro h; subst h; exact hl rfl
    rw [e]
    obtain ⟨ao, c, rfl⟩ := own_form h1
    obtain ⟨bo, d, rfl⟩ := own_form h2
    exact equal_len _ _ _ _ _ _ w hl

set_option maxHeartbeats 1000000 in
theorem csSame_any (s t : Value) (L M : List (Int × Int)) (w : World) (hs : SL w s L) (ht : SL w t M) (hL : fcN L = 0) (hM : fcN M = 0) :
    Calls Tryd.prog 29 #[s, t] w fun e w' => e = .returned (.tuple #[.bool (hsOf L == hsOf M), .nilIface]) ∧ Below w.heap.size w w' := by
  have e1 : csV L = .nilIface := by simp [csV, hL]
  have e2 : csV M = .nilIface := by simp [csV, hM]
  clear hL hM
  go_enter Tryd.func29, Tryd.ntmps29
  go_wp2_with fail
  refine (csHeaders_any s L _ hs).mono ?_
  rintro e w1 ⟨x, rfl, hx, hb1⟩
  rw [e1]
  have ht1 := ht.later hb1
  go_wp2_with fail
  refine (csHeaders_any t M _ ht1).mono ?_
  rintro e w2 ⟨y, rfl, hy, hb2⟩
  rw [e2]
  have hx2 := own_below hx hb2
  have hB : Below w.heap.size w w2 := hb1.trans (hb2.mono hb1.size)
  have HB : Hid (Below w.heap.size w w2) := hB
  clear hb1 hb2 hB
  go_wp2_with fail
  refine (equal_any x y _ _ _ _ _ _ (hsOf_len L) hx2 hy).mono ?_
  rintro e w3 ⟨rfl, hb3⟩
  go_wp2
  refine bodyPost_ret (v := .tuple #[.bool (hsOf L == hsOf M), .nilIface]) (by simp [results, Tryd.results29, go_sem]) rfl ⟨rfl, HB.out.trans (hb3.mono HB.out.size)⟩
end Go.Proofs.YtclecpcnmfhhcaaDoor
