/- What cubes set apart are: the contract of Apart. -/
import Derived.Test.YtclecpcnmfhhcaaDoorCubesLess
import Derived.Test.YtclecpcnmfhhcaaDoorAppendAny
import Derived.Deep.CutRange
import Derived.Deep.RegionHeld3
namespace Go.Proofs.YtclecpcnmfhhcaaDoor
open Go.RowKit
set_option linter.unusedSimpArgs false

/-- Cubes set apart, up to a place. -/
def apTo (L : List (Int × Int)) : Nat → List (Int × Int)
  | 0 => []
  | k + 1 => apTo L k ++ (match L[k]? with | some p => lessL p (L.take k) | none => [])
theorem apTo_next {L : List (Int × Int)} {k : Nat} (hk : k < L.length) {p : Int × Int} (hL : L[k] = p) : apTo L (k + 1) = apTo L k ++ lessL p (L.take k) := by
  have : L[k]? = some p := by rw [List.getElem?_eq_getElem hk, hL]
  simp [apTo, this]
theorem if_add (x y : Bool) : ((if x = true then 1 else 0) + if (y && !x) = true then 1 else 0) = if (x || y) = true then 1 else 0 := by cases x <;> cases y <;> rfl
theorem parts_ap {L : List (Int × Int)} (h : okL L = true) {k : Nat} (hk : k ≤ L.length) : Parts (apTo L k) fun h => anyB (L.take k) (h : Int) := by
  induction k with
  | zero => exact ⟨rfl, fun h _ => by simp [apTo, cntH, anyB]⟩
  | succ k ih =>
    have i := ih (by omega)
    have hl : k < L.length := by omega
    have j := parts_lessL (a := L[k]) (okL_at h hl) (okL_take (k := k) h)
    rw [apTo_next hl rfl]
    refine ⟨by simp only [okL, List.all_append, Bool.and_eq_true]; exact ⟨i.ok, j.ok⟩, fun x hx => ?_⟩
    have e1 := i.cnt x hx
    have e2 := j.cnt x hx
    rw [List.take_succ_eq_append_getElem hl]
    simp only [cntH, List.countP_append, anyB, List.any_append, List.any_cons, List.any_nil, Bool.or_false] at e1 e2 ⊢
    rw [e1, e2]
    exact if_add _ _

theorem CAt.take {w : World} {b o : Nat} {L : List (Int × Int)} (h : CAt w b o L) (k : Nat) : CAt w b o (L.take k) := by
  refine ⟨fun i hi => ?_, fun i hi => ?_⟩
  · have hi2 : i < L.length := by simp at hi; omega
    rw [List.getElem_take]; exact h.c0 i hi2
  · have hi2 : i < L.length := by simp at hi; omega
    rw [List.getElem_take]; exact h.c1 i hi2

theorem keepB {w W W' wr : World} {N e size n : Nat} {x : Value} {xs : List Value} {u v : Value} (ho : wr.ownsRow w.heap.size e size x n xs) (hg : W.grownBy W' x.ownBlock) (hz : wr.heap.size ≤ N) (h : Below w.heap.size w W ∧ W.cell? ⟨N, 0, none⟩ = some u ∧ W.cell? ⟨N, 1, none⟩ = some v) :
    Below w.heap.size w W' ∧ W'.cell? ⟨N, 0, none⟩ = some u ∧ W'.cell? ⟨N, 1, none⟩ = some v := by
  have hne : some N ≠ x.ownBlock := fun e => by have := (ho.lt N e.symm).2; omega
  exact ⟨h.1.grown hg h.1.size (fun g hg => (ho.lt g hg).1), hg.cell h.2.1 hne, hg.cell h.2.2 hne⟩
theorem keepA {w W W' : World} {a b : Addr} {u v : Value} (hb : Below W.heap.size W W') (h : Below w.heap.size w W ∧ W.cell? a = some u ∧ W.cell? b = some v) : Below w.heap.size w W' ∧ W'.cell? a = some u ∧ W'.cell? b = some v :=
  ⟨h.1.trans (hb.mono h.1.size), (hb.cell (World.block_lt_of_cell? _ _ h.2.1)).trans h.2.1, (hb.cell (World.block_lt_of_cell? _ _ h.2.2)).trans h.2.2⟩
/-- Cubes set apart, as they are told. -/
def apOf (L : List (Int × Int)) : List (Int × Int) := if fcN L = 0 then apTo L L.length else []

set_option maxRecDepth 100000 in
set_option maxHeartbeats 4000000 in
theorem csApart_some (B o cap n : Nat) (L : List (Int × Int)) (w : World) (hc : CAt w B o L) (hn : L.length = n) (hcap : n ≤ cap) (hcm : cap ≤ maxLen) (hf : fcN L = 0) :
    Calls Tryd.prog 26 #[.slice (some ⟨B, o, none⟩) n cap] w fun e w' => ∃ v, e = .returned (.tuple #[v, .nilIface]) ∧ w'.ownsRow w.heap.size 23 2 v (apTo L n).length (cellsOf (apTo L n)) ∧ Below w.heap.size w w' := by
  obtain ⟨i0, hi, hz0, hz1, hz2⟩ := info_parts infoCube
  have HN : Hid (L.length = n) := hn
  have hsl : SL w (.slice (some ⟨B, o, none⟩) n cap) L := .inr ⟨B, o, cap, by rw [hn], by rw [hn]; exact hcap, hcm, hc⟩
  have hn40 : n ≤ 40 := by rw [← hn]; exact (okL_of hf).2
  have hokL := (okL_of hf).1
  have e3 : csV L = .nilIface := by simp [csV, hf]
  unfold maxLen at hcm
  clear hn hf
  go_enter Tryd.func26, Tryd.ntmps26
  go_wp2_with fail
  refine (csCheck_any _ L _ hsl).mono ?_
  rintro e w1 ⟨rfl, hb1⟩
  rw [e3]
  have hc1 := hc.later hb1
  have HB1 : Hid (Below w.heap.size w w1) := hb1
  clear hb1 e3 hc hsl
  go_wp2
  go_loopw [5, 15] (fun v i wr => ∃ k : Nat, k ≤ n ∧ i = .int .i64 k ∧ wr.ownsRow w1.heap.size 23 2 v (apTo L k).length (cellsOf (apTo L k)) ∧ Below w1.heap.size w1 wr)
    (fun _ i _ => n - (intOf i).toNat)
  case atStart => exact ⟨0, by omega, rfl, World.ownsRow_nil _ _ _ _, Below.refl _ _⟩
  case round =>
    obtain ⟨k, hk, rfl, hown, hB⟩ := hrel
    have HB : Hid (Below w1.heap.size w1 wr) := hB
    have HOWN : Hid (wr.ownsRow w1.heap.size 23 2 u5 (apTo L k).length (cellsOf (apTo L k))) := hown
    by_cases hlt : k < n
    · obtain ⟨x, y, hkl, hLk, q0, q1⟩ := (hc1.later hB).at HN.out hlt
      have HL : Hid (L[k] = (x, y)) := hLk
      have hoxy : okB x y = true := by have := okL_at hokL hkl; rw [hLk] at this; exact this
      have hcT := (hc1.later hB).take k
      have hlenT : (L.take k).length = k := by simp; omega
      have HSLT : Hid (∀ W', Below wr.heap.size wr W' → SL W' (.slice (some ⟨B, o, none⟩) k cap) (L.take k)) := fun W' hW' => .inr ⟨B, o, cap, by rw [hlenT], by rw [hlenT]; omega, by unfold maxLen; omega, hcT.later hW'⟩
      have hA := parts_len (parts_ap hokL (k := k) (by omega))
      have hD := parts_len (parts_lessL (a := (x, y)) hoxy (okL_take (k := k) hokL))
      have hsz : w1.heap.size ≤ wr.heap.size := hB.size
      clear hLk hB hown hcT hlenT
      go_wp2
      generalize hW0 : (wr.alloc (.cells #[.int .i64 x, .int .i64 y] 23)) = W0
      have hS0 : Below w1.heap.size w1 W0 ∧ W0.cell? ⟨wr.heap.size, 0, none⟩ = some (.int .i64 x) ∧ W0.cell? ⟨wr.heap.size, 1, none⟩ = some (.int .i64 y) := by
        rw [← hW0]
        exact ⟨HB.out.alloc hsz _, by simp, by simp⟩
      have HW0 : Hid (Below wr.heap.size wr W0) := by
        rw [← hW0]
        exact (Below.refl _ _).alloc (Nat.le_refl _) _
      have hkc : (k : Int) ≤ (cap : Int) := by omega
      have hkc2 : k ≤ cap := by omega
      clear hW0
      have HD2 : Hid (apTo L (k + 1) = apTo L k ++ lessL (x, y) (L.take k)) := apTo_next hkl HL.out
      have HOT : Hid (okL (L.take k) = true) := okL_take hokL
      generalize hLD : lessL (x, y) (L.take k) = D at *
      have HLD : Hid (lessL (x, y) (L.take k) = D) := hLD
      clear hLD
      go_region_held3 (fun w' => Below w1.heap.size w1 w' ∧ w'.cell? ⟨wr.heap.size, 0, none⟩ = some (.int .i64 x) ∧ w'.cell? ⟨wr.heap.size, 1, none⟩ = some (.int .i64 y))
        (first | assumption | exact keepA (by assumption) (by assumption) | exact keepA (Below.drew (Below.refl _ _)) (by assumption) | exact keepB HOWN.out (by assumption) (Nat.le_refl _) (by assumption))
        (first
          | (go_at_call 40; refine (less_any x y _ (L.take k) _ (HSLT.out _ (by first | exact HW0.out | exact HW0.out.drew)) hoxy HOT.out).mono ?_; rintro e w' ⟨v2, rfl, own2, hb⟩; rw [HLD.out] at own2)
          | ((refine step_append_any _ (by rfl) _ _ 42 (by rfl) w1.heap.size _ 23 i0 (.agg #[.int .i64 0, .int .i64 0]) 2 16 Tryd.underlying42 hi hz0 hz1 hz2 twoCells (by decide) _ _ _ (by rfl) (own_below HOWN.out (by first | exact HW0.out.trans (hb.mono HW0.out.size) | exact HW0.out.drew.trans (hb.mono HW0.out.size))) _ _ _ (by rfl) (by assumption) (cellsOf_one _) (by unfold maxLen; omega) (by omega) (by have := hb.size; have := HW0.out.size; simp at *; omega) ?_; intro v' w3 hown3 hgrow3)))
      have hS3 := (‹Below w1.heap.size w1 w3 ∧ _›).1
      have HO3 : Hid (w3.ownsRow w1.heap.size 23 2 v' ((apTo L k).length + D.length) (cellsOf (apTo L k) ++ cellsOf D)) := hown3
      have HS3 : Hid (Below w1.heap.size w1 w3) := hS3
      clear hS3 hown3 hgrow3
      go_wp2
      exact ⟨⟨k + 1, by omega, by go_num, by rw [HD2.out, List.length_append, cellsOf_app]; exact HO3.out, HS3.out⟩, by simp [intOf]; omega⟩
    · obtain rfl : k = n := by omega
      go_wp2
      refine bodyPost_ret (v := .tuple #[u5, .nilIface]) (by simp [results, Tryd.results26, go_sem]) rfl ⟨u5, rfl, own_mono HOWN.out HB1.out.size, HB1.out.trans (HB.out.mono HB1.out.size)⟩

set_option maxHeartbeats 1000000 in
theorem csApart_nil (ao : Option Addr) (cap : Nat) (w : World) :
    Calls Tryd.prog 26 #[.slice ao 0 cap] w fun e w' => ∃ v, e = .returned (.tuple #[v, .nilIface]) ∧ w'.ownsRow w.heap.size 23 2 v (apTo [] 0).length (cellsOf (apTo [] 0)) ∧ Below w.heap.size w w' := by
  go_enter Tryd.func26, Tryd.ntmps26
  go_wp2_with fail
  refine (csCheck_nil ao cap _).mono ?_
  rintro e w1 ⟨rfl, hb1⟩
  go_wp2
  go_loopw [5, 15] (fun v i wr => v = .slice none 0 0 ∧ i = .int .i64 0 ∧ wr = w1) (fun _ i _ => 0)
  case atStart => exact ⟨rfl, rfl, rfl⟩
  case round =>
    obtain ⟨rfl, rfl, rfl⟩ := hrel
    go_wp2
    refine bodyPost_ret (v := .tuple #[.slice none 0 0, .nilIface]) (by simp [results, Tryd.results26, go_sem]) rfl ⟨_, rfl, World.ownsRow_nil _ _ _ _, hb1⟩

set_option maxHeartbeats 1000000 in
theorem csApart_no (s : Value) (L : List (Int × Int)) (w : World) (hs : SL w s L) (hf : fcN L ≠ 0) :
    Calls Tryd.prog 26 #[s] w fun e w' => ∃ v, e = .returned (.tuple #[v, csV L]) ∧ w'.ownsRow w.heap.size 23 2 v ([] : List (Int × Int)).length (cellsOf []) ∧ Below w.heap.size w w' := by
  have e3 : csV L = .iface 59 (.int .i64 (fcN L)) := by simp [csV, hf]
  rw [e3]
  clear hf
  go_enter Tryd.func26, Tryd.ntmps26
  go_wp2_with fail
  refine (csCheck_any s L _ hs).mono ?_
  rintro e w1 ⟨rfl, hb1⟩
  rw [e3]
  go_wp2
  refine bodyPost_ret (v := .tuple #[.slice none 0 0, .iface 59 (.int .i64 (fcN L))]) (by simp [results, Tryd.results26, go_sem]) rfl ⟨_, rfl, World.ownsRow_nil _ _ _ _, hb1⟩

theorem csApart_any (s : Value) (L : List (Int × Int)) (w : World) (hs : SL w s L) :
    Calls Tryd.prog 26 #[s] w fun e w' => ∃ v, e = .returned (.tuple #[v, csV L]) ∧ w'.ownsRow w.heap.size 23 2 v (apOf L).length (cellsOf (apOf L)) ∧ Below w.heap.size w w' := by
  by_cases hf : fcN L = 0
  · have e1 : csV L = .nilIface := by simp [csV, hf]
    have e2 : apOf L = apTo L L.length := by simp [apOf, hf]
    rw [e1, e2]
    rcases hs with ⟨ao, cap, rfl, rfl⟩ | ⟨B, o, cap, rfl, h1, h2, hc⟩
    · exact csApart_nil ao cap w
    · exact csApart_some B o cap _ L w hc rfl h1 h2 hf
  · have e2 : apOf L = [] := by simp [apOf, hf]
    rw [e2]
    exact csApart_no s L w hs hf
end Go.Proofs.YtclecpcnmfhhcaaDoor
