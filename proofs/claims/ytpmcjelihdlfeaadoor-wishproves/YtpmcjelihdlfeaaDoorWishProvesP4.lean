/- Contracts and facts on the way to WishProves, joined into one text: WishFits, WishFirst, SlWish2, ItLaw, GenTake, WishHold, SlWish, CubeCon, CubeHas, RuleCon, RuleTab. -/
import Derived.Test.YtpmcjelihdlfeaaDoorWishProvesP3
import Derived.Test.YtpmcjelihdlfeaaDoorWishProvesP2
import Derived.Test.YtpmcjelihdlfeaaDoorWishProvesP1
import Derived.Shelf.Abstract
import Derived.Deep.CutRange
import Derived.Deep.CutBlock
import Derived.RangeFuncNested
import Derived.RangeFuncBox
import Derived.RangeFuncBound
import Derived.RangeFuncCalls
import Derived.RangeFuncLeaves
import Derived.Shelf.RegionOpen
import Derived.WalkKit
import Derived.OwnWalkIn
import Derived.TacticsInMore
import Derived.LoopNIn
import Derived.LoopIn
import Derived.Below
import Derived.Test.YtpmcjelihdlfeaaDoorRows
import Derived.WalkSpells
/- What wish.Fits answers: a contract for the walks above it. -/
namespace Go.Proofs.YtpmcjelihdlfeaaDoor
open Go.RowKit
set_option linter.unusedSimpArgs false
set_option linter.unusedVariables false

set_option maxHeartbeats 1000000 in
set_option maxRecDepth 100000 in
theorem fits1_any (x y h : Int) (B : Nat) (v : Int) (w : World) (h0 : w.cell? ⟨B, 3, none⟩ = some (.int .i64 v)) :
    Calls Tryd.prog 43 #[.agg #[.int .i64 x, .int .i64 y, .int .i64 h], .pointer (some ⟨B, 0, none⟩)] w fun e w' => e = .returned (.bool (x == v)) ∧ Below w.heap.size w w' := by
  have hlt : B < w.heap.size := World.block_lt_of_cell? _ _ h0
  have HB0 : Hid (Below w.heap.size w (w.alloc (Obj.cells #[Value.int IntKind.i64 x, Value.int IntKind.i64 y, Value.int IntKind.i64 h] 83))) := (Below.refl _ _).alloc (Nat.le_refl _) _
  go_enter Tryd.func43, Tryd.ntmps43
  go_wp2
  go_ret
  exact ⟨rfl, HB0.out⟩
theorem fits1_asks (B : Nat) (v : Int) (w : World) (h0 : w.cell? ⟨B, 3, none⟩ = some (.int .i64 v)) : hopAsks w 43 (.pointer (some ⟨B, 0, none⟩)) (fun h => h.1.1 == v) :=
  fun x y h W hW => fits1_any x y h B v W (cell_later hW h0)
theorem fi_off {w : Wi} {m : ByteArray} {F : Int × ByteArray × List ((Int × Int) × Int)} (h : abW w m = false) : fiB w m F = true := by simp [fiB, h]
/-- The boxes: a wish, a fate. -/
structure GBox (w W : World) (k : Int) (f t : ByteArray) (v : Int) (a : Int) (b : ByteArray) (c : Value) : Prop where
  below : Below w.heap.size w W
  x : WiBox W w.heap.size k f t v
  y0 : W.cell? ⟨w.heap.size + 1, 0, none⟩ = some (.int .i64 a)
  y1 : W.cell? ⟨w.heap.size + 1, 1, none⟩ = some (.string b)
  y2 : W.cell? ⟨w.heap.size + 1, 2, none⟩ = some c
theorem gbox_new (w : World) (k : Int) (f t : ByteArray) (v : Int) (a : Int) (b : ByteArray) (c : Value) : GBox w ((w.alloc (Obj.cells #[.int .i64 k, .string f, .string t, .int .i64 v] 67)).alloc (Obj.cells #[.int .i64 a, .string b, c] 40)) k f t v a b c := by
  have e1 : (w.alloc (Obj.cells #[.int .i64 k, .string f, .string t, .int .i64 v] 67)).heap.size = w.heap.size + 1 := by simp
  have hb : ∀ (W : World) (o : Obj), Below W.heap.size W (W.alloc o) := fun W o => (Below.refl _ _).alloc (Nat.le_refl _) _
  have hn := (wibox_new w k f t v 67).later (hb _ (Obj.cells #[.int .i64 a, .string b, c] 40))
  have hB := ((Below.refl w.heap.size w).alloc (Nat.le_refl _) (Obj.cells #[.int .i64 k, .string f, .string t, .int .i64 v] 67)).alloc (by rw [e1]; omega) (Obj.cells #[.int .i64 a, .string b, c] 40)
  generalize w.alloc (Obj.cells #[.int .i64 k, .string f, .string t, .int .i64 v] 67) = X at e1 hn hB
  have hr := vat_new X [.int .i64 a, .string b, c] 40
  rw [e1] at hr
  exact ⟨hB, hn, hr 0 _ rfl, hr 1 _ rfl, hr 2 _ rfl⟩
theorem GBox.later {w W W' : World} {k : Int} {f t : ByteArray} {v : Int} {a : Int} {b : ByteArray} {c : Value} (h : GBox w W k f t v a b c) (hb : Below W.heap.size W W') : GBox w W' k f t v a b c :=
  ⟨h.below.trans (hb.mono h.below.size), h.x.later hb, cell_later hb h.y0, cell_later hb h.y1, cell_later hb h.y2⟩

set_option maxHeartbeats 4000000 in
set_option maxRecDepth 100000 in
theorem fits_any (k : Int) (f t : ByteArray) (v : Int) (m : ByteArray) (a : Int) (b : ByteArray) (ao : Option Addr) (n cap : Nat) (l : List ((Int × Int) × Int)) (w : World) (hl : GS hopE w (.slice ao n cap) l) :
    Calls Tryd.prog 22 #[.agg #[.int .i64 k, .string f, .string t, .int .i64 v], .string m, .agg #[.int .i64 a, .string b, .slice ao n cap]] w fun e w' => e = .returned (.bool (fiB ⟨k, f, t, v⟩ m (a, b, l))) ∧ Below w.heap.size w w' := by
  have hX := gbox_new w k f t v a b (.slice ao n cap)
  obtain ⟨w0, hw0⟩ : ∃ W, (w.alloc (Obj.cells #[.int .i64 k, .string f, .string t, .int .i64 v] 67)).alloc (Obj.cells #[.int .i64 a, .string b, .slice ao n cap] 40) = W := ⟨_, rfl⟩
  rw [hw0] at hX
  have HX : Hid (GBox w w0 k f t v a b (.slice ao n cap)) := hX
  have HW0 : Hid ((w.alloc (Obj.cells #[.int .i64 k, .string f, .string t, .int .i64 v] 67)).alloc (Obj.cells #[.int .i64 a, .string b, .slice ao n cap] 40) = w0) := hw0
  have HL : Hid (∀ W, Below w.heap.size w W → GS hopE W (.slice ao n cap) l) := fun W hb => hl.later hb
  obtain ⟨R, hR⟩ : ∃ R, R = fiB ⟨k, f, t, v⟩ m (a, b, l) := ⟨_, rfl⟩
  have HR : Hid (R = fiB ⟨k, f, t, v⟩ m (a, b, l)) := hR
  rw [← hR]
  obtain ⟨AB, hAB⟩ : ∃ q, q = abW ⟨k, f, t, v⟩ m := ⟨_, rfl⟩
  have HAB : Hid (AB = abW ⟨k, f, t, v⟩ m) := hAB
  clear hX hw0 hl hR hAB
  go_enter Tryd.func22, Tryd.ntmps22
  go_upto_region 1 with fail
  rw [HW0.out]
  obtain ⟨_, ⟨x0, x1, x2, x3⟩, y0, y1, y2⟩ := HX.out
  clear HW0
  go_wp2_with fail
  refine (isAbout_any k f t v m _).mono ?_
  rintro e w1 ⟨rfl, hb1⟩
  rw [← HAB.out]
  have HX1 : Hid (GBox w w1 k f t v a b (.slice ao n cap)) := HX.out.later hb1
  clear hb1 HX x0 x1 x2 x3 y0 y1 y2
  obtain ⟨hB1, ⟨x0, x1, x2, x3⟩, y0, y1, y2⟩ := HX1.out
  have HB1 : Hid (Below w.heap.size w w1) := hB1
  clear hB1
  cases AB with
  | false =>
    have HR1 : Hid (R = true) := by
      show _ = _
      rw [HR.out, fi_off HAB.out.symm]
    go_wp2
    go_ret
    exact ⟨by rw [HR1.out]; rfl, HB1.out⟩
  | true =>
    obtain ⟨TH, hTH⟩ : ∃ q, q = (a == 1 && b.toList == t.toList) := ⟨_, rfl⟩
    have hTW : thW ⟨k, f, t, v⟩ (a, b, l) = TH := by rw [hTH, thW, ← beq_toListBytes]
    have HR1 : Hid (R = if k = 1 then TH else if k = 2 then !TH else if k = 3 then (!TH || haW v l) else if k = 4 then !(a == 4) else true) := by
      show _ = _
      rw [HR.out, fiB, if_pos HAB.out.symm, hTW]
    have HTH : Hid ((a == 1 && b.toList == t.toList) = TH) := hTH.symm
    clear hTH hTW HR HAB
    go_upto_region 3 with fail
    go_cut [7] from 12 to 22 (fun q w' => q = .bool TH ∧ w' = w1)
    case first =>
      by_cases a1 : a = 1
      · subst a1
        have h2 := HTH.out
        rw [show ((1 : Int) == 1 && b.toList == t.toList) = (b.toList == t.toList) from rfl] at h2
        go_wp2_with fail
        go_meet
        exact ⟨by rw [← h2], rfl⟩
      · have h2 := HTH.out
        rw [show (a == 1) = false from by simp [a1], Bool.false_and] at h2
        subst h2
        go_wp2_with fail
        go_meet
        exact ⟨rfl, rfl⟩
    case rest =>
    obtain ⟨rfl, hwc⟩ := hcut
    subst hwc
    by_cases k1 : k = 1
    · subst k1
      have HR2 : Hid (R = TH) := by
        show _ = _
        rw [HR1.out, if_pos rfl]
      clear HR1
      go_wp2
      go_ret
      exact ⟨by rw [HR2.out]; rfl, HB1.out⟩
    · by_cases k2 : k = 2
      · subst k2
        have HR2 : Hid (R = !TH) := by
          show _ = _
          rw [HR1.out, if_neg (by decide), if_pos rfl]
        clear HR1
        go_wp2
        go_ret
        exact ⟨by rw [HR2.out]; rfl, HB1.out⟩
      · by_cases k3 : k = 3
        · subst k3
          have HR2 : Hid (R = (!TH || haW v l)) := by
            show _ = _
            rw [HR1.out, if_neg (by decide), if_neg (by decide), if_pos rfl]
          clear HR1
          cases TH with
          | false =>
            go_wp2
            go_ret
            exact ⟨by rw [HR2.out]; rfl, HB1.out⟩
          | true =>
            obtain ⟨_, _, _, e5, hGn, hGm, _, hGa⟩ := (HL.out _ HB1.out).form
            cases e5
            have HGN : Hid (l.length = n) := hGn
            have HGM : Hid (n ≤ maxLen) := hGm
            have HGA : Hid (0 < n → ∃ g o, ao = some ⟨g, o, none⟩ ∧ GAt hopE wc g o l ∧ cap ≤ maxLen) := hGa
            clear hGn hGm hGa
            go_wp2_with fail
            refine (hop_hasF ao n cap _ _ (fun h => h.1.1 == v) l _ HGN.out HGM.out HGA.out (enters_of Tryd.func43 (by kernel_rfl) rfl) (fits1_asks _ v _ HX1.out.x.2.2.2)).mono ?_
            rintro e w2 ⟨rfl, hb2⟩
            rw [show (l.any fun h => h.1.1 == v) = haW v l from rfl]
            have HB2 : Hid (Below w.heap.size w w2) := HB1.out.trans (hb2.mono HB1.out.size)
            clear hb2
            go_wp2
            go_ret
            exact ⟨by rw [HR2.out]; rfl, HB2.out⟩
        · by_cases k4 : k = 4
          · subst k4
            have HR2 : Hid (R = !(a == 4)) := by
              show _ = _
              rw [HR1.out, if_neg (by decide), if_neg (by decide), if_neg (by decide), if_pos rfl]
            clear HR1
            go_wp2
            go_ret
            exact ⟨by rw [HR2.out]; rfl, HB1.out⟩
          · have HR2 : Hid (R = true) := by
              show _ = _
              rw [HR1.out, if_neg k1, if_neg k2, if_neg k3, if_neg k4]
            clear HR1
            go_wp2
            go_ret
            exact ⟨by rw [HR2.out]; rfl, HB1.out⟩
end Go.Proofs.YtpmcjelihdlfeaaDoor
/- Which wish is broken first, host by host and header by header, as the program looks for it: plain lists. No program in it. -/
namespace Go.Proofs.YtpmcjelihdlfeaaDoor
open Go.RowKit
set_option linter.unusedVariables false
set_option linter.unusedSimpArgs false

abbrev Ft := Int × ByteArray × List ((Int × Int) × Int)
theorem ixG_cases {α : Type} (f : α → Bool) (L : List α) : (ixG f L = -1 ∧ L.any f = false) ∨ ∃ k : Nat, ∃ h : k < L.length, ixG f L = (k : Int) ∧ f L[k] = true ∧ ∀ j, (hj : j < k) → f (L[j]'(by omega)) = false := by
  cases e : L.any f with
  | false => exact .inl ⟨ixG_no e, rfl⟩
  | true =>
    have hx : L.findIdx f < L.length := by
      rw [List.any_eq_true] at e
      obtain ⟨x, hx, hf⟩ := e
      exact List.findIdx_lt_length_of_exists ⟨x, hx, hf⟩
    refine .inr ⟨L.findIdx f, hx, by simp [ixG, e], List.findIdx_getElem, fun j hj => ?_⟩
    have := List.not_of_lt_findIdx hj
    simpa using this
/-- How many wishes hold behind one more fate. -/
def hwS (l : List Wi) (m : ByteArray) (F : Ft) (n : Nat) : Nat :=
  if ixG (fun w => !fiB w m F) (l.take n) < 0 then n else (ixG (fun w => !fiB w m F) (l.take n)).toNat
/-- How many hold behind the first k fates. -/
def hwTo (l : List Wi) (m : ByteArray) (L : List Ft) : Nat → Nat
  | 0 => l.length
  | k + 1 => hwS l m (L.getD k (0, ByteArray.empty, [])) (hwTo l m L k)
def hwN (l : List Wi) (m : ByteArray) (L : List Ft) : Nat := hwTo l m L L.length
section
variable {l : List Wi} {m : ByteArray}
theorem hwS_le (F : Ft) (n : Nat) : hwS l m F n ≤ n := by
  unfold hwS
  split
  · omega
  · next h =>
    rcases ixG_cases (fun w => !fiB w m F) (l.take n) with ⟨e, _⟩ | ⟨k, hk, e, _⟩
    · omega
    · rw [e]
      rw [List.length_take] at hk
      simp
      omega
theorem hwS_lt {F : Ft} {n i : Nat} (hn : n ≤ l.length) (hi : i < hwS l m F n) : fiB (l.getD i zeW) m F = true := by
  have hin : i < n := Nat.lt_of_lt_of_le hi (hwS_le F n)
  have hil : i < l.length := by omega
  rw [getW hil]
  unfold hwS at hi
  rcases ixG_cases (fun w => !fiB w m F) (l.take n) with ⟨e, h⟩ | ⟨k, hk, e, _, h⟩
  · rw [List.any_eq_false] at h
    have := h l[i] (List.mem_take_iff_getElem.2 ⟨i, by omega, rfl⟩)
    simpa using this
  · rw [e, if_neg (by omega)] at hi
    have := h i (by simpa using hi)
    simpa using this
theorem hwS_at {F : Ft} {n : Nat} (hn : n ≤ l.length) (h0 : hwS l m F n < n) : fiB (l.getD (hwS l m F n) zeW) m F = false := by
  have hil : hwS l m F n < l.length := by omega
  rw [getW hil]
  rcases ixG_cases (fun w => !fiB w m F) (l.take n) with ⟨e, h⟩ | ⟨k, hk, e, h, _⟩
  · have e1 : hwS l m F n = n := by rw [hwS, e, if_pos (by omega)]
    omega
  · have e1 : hwS l m F n = k := by
      rw [hwS, e, if_neg (by omega)]
      simp
    simp only [e1]
    simpa using h
theorem hwTo_le (L : List Ft) : ∀ k, hwTo l m L k ≤ l.length
  | 0 => Nat.le_refl _
  | k + 1 => Nat.le_trans (hwS_le _ _) (hwTo_le L k)
theorem hwTo_mono (L : List Ft) (k : Nat) : hwTo l m L (k + 1) ≤ hwTo l m L k := hwS_le _ _
theorem hwTo_zero {L : List Ft} {k : Nat} (h : hwTo l m L k = 0) : ∀ {n : Nat}, k ≤ n → hwTo l m L n = 0
  | 0, hn => by
    obtain rfl : k = 0 := by omega
    exact h
  | n + 1, hn => by
    by_cases e : k = n + 1
    · subst e; exact h
    · have := hwTo_zero h (show k ≤ n by omega)
      have h2 := hwTo_mono (l := l) (m := m) L n
      omega
theorem hwTo_lt {L : List Ft} : ∀ {k i : Nat}, i < hwTo l m L k → ∀ j, j < k → fiB (l.getD i zeW) m (L.getD j (0, ByteArray.empty, [])) = true
  | 0, i, _, j, hj => by omega
  | k + 1, i, hi, j, hj => by
    by_cases e : j = k
    · subst e
      exact hwS_lt (hwTo_le L _) hi
    · exact hwTo_lt (Nat.lt_of_lt_of_le hi (hwTo_mono L k)) j (by omega)
theorem hwTo_at {L : List Ft} : ∀ {k : Nat}, hwTo l m L k < l.length → ∃ j, j < k ∧ fiB (l.getD (hwTo l m L k) zeW) m (L.getD j (0, ByteArray.empty, [])) = false
  | 0, h => by
    have : hwTo l m L 0 = l.length := rfl
    omega
  | k + 1, h => by
    by_cases e : hwTo l m L (k + 1) < hwTo l m L k
    · exact ⟨k, by omega, hwS_at (hwTo_le L k) e⟩
    · have e2 : hwTo l m L (k + 1) = hwTo l m L k := by
        have := hwTo_mono (l := l) (m := m) L k
        omega
      rw [e2] at h ⊢
      obtain ⟨j, hj, hb⟩ := hwTo_at h
      exact ⟨j, by omega, hb⟩
/-- Does one of these break a wish? -/
def badF (w : Wi) (m : ByteArray) (L : List Ft) : Bool := L.any fun F => !fiB w m F
theorem hwN_lt {L : List Ft} {i : Nat} (h : i < hwN l m L) : badF (l.getD i zeW) m L = false := by
  unfold badF
  rw [List.any_eq_false]
  intro F hF
  obtain ⟨j, hj, rfl⟩ := List.getElem_of_mem hF
  have := hwTo_lt h j hj
  rw [show L.getD j (0, ByteArray.empty, []) = L[j] by simp [List.getD, hj]] at this
  rw [this]
  decide
theorem hwN_at {L : List Ft} (h : hwN l m L < l.length) : badF (l.getD (hwN l m L) zeW) m L = true := by
  obtain ⟨j, hj, hb⟩ := hwTo_at h
  unfold badF
  rw [List.any_eq_true]
  refine ⟨L[j], List.getElem_mem hj, ?_⟩
  rw [show L.getD j (0, ByteArray.empty, []) = L[j] by simp [List.getD, hj]] at hb
  rw [hwN, hb]
  rfl
theorem hwN_le (L : List Ft) : hwN l m L ≤ l.length := hwTo_le L _
end
theorem take_getW {l : List Wi} {n i : Nat} (hi : i < n) : (l.take n).getD i zeW = l.getD i zeW := by
  simp [List.getD, List.getElem?_take, hi]

/-- What is so behind the first z hosts, and h headers of the next one: so many wishes hold still; the next one is broken by what is told. -/
structure Fb (l : List Wi) (Hs : List (ByteArray × (Int × Int))) (Fs : Nat → Nat → List Ft) (z h : Nat) (held : Nat) (p : Int × ByteArray × Int) : Prop where
  le : held ≤ l.length
  ok : ∀ i, i < held → ∀ z' h', h' < 16 → (z' < z ∨ z' = z ∧ h' < h) → badF (l.getD i zeW) (Hs.getD z' zeO).1 (Fs z' h') = false
  no : held = l.length → p = (0, ByteArray.empty, 0)
  tell : held < l.length → ∃ z₁ h₁, h₁ < 16 ∧ (z₁ < z ∨ z₁ = z ∧ h₁ < h) ∧ z₁ < Hs.length ∧ p = ((held : Int), (Hs.getD z₁ zeO).1, (h₁ : Int)) ∧ badF (l.getD held zeW) (Hs.getD z₁ zeO).1 (Fs z₁ h₁) = true ∧ ∀ z' h', h' < 16 → (z' < z₁ ∨ z' = z₁ ∧ h' < h₁) → badF (l.getD held zeW) (Hs.getD z' zeO).1 (Fs z' h') = false
section
variable {l : List Wi} {Hs : List (ByteArray × (Int × Int))} {Fs : Nat → Nat → List Ft}
theorem fb_0 : Fb l Hs Fs 0 0 l.length (0, ByteArray.empty, 0) := ⟨Nat.le_refl _, fun _ _ z' h' _ h => by omega, fun _ => rfl, fun h => absurd h (Nat.lt_irrefl _)⟩
theorem Fb.host {z held : Nat} {p : Int × ByteArray × Int} (f : Fb l Hs Fs z 16 held p) : Fb l Hs Fs (z + 1) 0 held p :=
  ⟨f.le, fun i hi z' h' h16 h => f.ok i hi z' h' h16 (by omega), f.no, fun h => by
    obtain ⟨z₁, h₁, a, b, c⟩ := f.tell h
    exact ⟨z₁, h₁, a, by omega, c⟩⟩
/-- One more header, of which nothing is broken. -/
theorem Fb.same {z h held : Nat} {p : Int × ByteArray × Int} (f : Fb l Hs Fs z h held p) (hn : ¬ hwN (l.take held) (Hs.getD z zeO).1 (Fs z h) < held) : Fb l Hs Fs z (h + 1) held p := by
  have hlen : (l.take held).length = held := by rw [List.length_take]; have := f.le; omega
  have he : hwN (l.take held) (Hs.getD z zeO).1 (Fs z h) = held := by
    have := hwN_le (l := l.take held) (m := (Hs.getD z zeO).1) (Fs z h)
    omega
  refine ⟨f.le, fun i hi z' h' h16 hh => ?_, f.no, fun hl => ?_⟩
  · by_cases e : z' = z ∧ h' = h
    · obtain ⟨rfl, rfl⟩ := e
      have := hwN_lt (l := l.take held) (m := (Hs.getD z' zeO).1) (L := Fs z' h') (i := i) (by rw [he]; exact hi)
      rwa [take_getW hi] at this
    · exact f.ok i hi z' h' h16 (by omega)
  · obtain ⟨z₁, h₁, a, b, c⟩ := f.tell hl
    exact ⟨z₁, h₁, a, by omega, c⟩
/-- One more header, of which something is broken. -/
theorem Fb.less {z h held n : Nat} {p : Int × ByteArray × Int} (f : Fb l Hs Fs z h held p) (h16 : h < 16) (hz : z < Hs.length) (hn : hwN (l.take held) (Hs.getD z zeO).1 (Fs z h) = n) (hlt : n < held) : Fb l Hs Fs z (h + 1) n ((n : Int), (Hs.getD z zeO).1, (h : Int)) := by
  have hle := f.le
  have hlen : (l.take held).length = held := by rw [List.length_take]; omega
  have hb : badF (l.getD n zeW) (Hs.getD z zeO).1 (Fs z h) = true := by
    have := hwN_at (l := l.take held) (m := (Hs.getD z zeO).1) (L := Fs z h) (by rw [hn, hlen]; exact hlt)
    rwa [hn, take_getW hlt] at this
  refine ⟨by omega, fun i hi z' h' h16' hh => ?_, fun e => by omega, fun _ => ⟨z, h, h16, by omega, hz, rfl, hb, fun z' h' h16' hh => f.ok n hlt z' h' h16' hh⟩⟩
  by_cases e : z' = z ∧ h' = h
  · obtain ⟨rfl, rfl⟩ := e
    have := hwN_lt (l := l.take held) (m := (Hs.getD z' zeO).1) (L := Fs z' h') (i := i) (by rw [hn]; exact hi)
    rwa [take_getW (by omega)] at this
  · exact f.ok i (by omega) z' h' h16' (by omega)
/-- Where no wish is about the host nothing is broken. -/
theorem bad_off {w : Wi} {m : ByteArray} (h : abW w m = false) (L : List Ft) : badF w m L = false := by
  unfold badF
  rw [List.any_eq_false]
  intro F _
  simp [fiB, h]
theorem Fb.off {z h held : Nat} {p : Int × ByteArray × Int} (f : Fb l Hs Fs z h held p) (ho : (l.take held).any (fun w => abW w (Hs.getD z zeO).1) = false) : Fb l Hs Fs (z + 1) 0 held p := by
  refine ⟨f.le, fun i hi z' h' h16 hh => ?_, f.no, fun hl => ?_⟩
  · by_cases e : z' = z
    · subst e
      refine bad_off ?_ _
      rw [List.any_eq_false] at ho
      have hil : i < l.length := by have := f.le; omega
      have := ho l[i] (List.mem_take_iff_getElem.2 ⟨i, by omega, rfl⟩)
      rw [getW hil]
      simpa using this
    · exact f.ok i hi z' h' h16 (by omega)
  · obtain ⟨z₁, h₁, a, b, c⟩ := f.tell hl
    exact ⟨z₁, h₁, a, by omega, c⟩
end

section
variable {Ls : List ((Int × Int) × (Int × Int))} {Hs : List (ByteArray × (Int × Int))} {Ts : List (List Ru)} {Xs : List (ByteArray × (Int × Int))} {l : List Wi}
theorem brH_neg {w : Wi} {x : ByteArray × (Int × Int)} : ∀ {k : Nat}, (∀ j, j < k → brB Ls Hs Ts w x (j : Int) = false) → brH Ls Hs Ts w x k < 0
  | 0, _ => by simp [brH]
  | k + 1, h => brH_no (brH_neg (fun j hj => h j (by omega))) (h k (by omega))
theorem brX_neg {w : Wi} : ∀ {k : Nat}, (∀ j, j < k → ∀ h : Nat, h < 16 → brB Ls Hs Ts w (Xs.getD j zeO) (h : Int) = false) → brX Ls Hs Ts w Xs k = none
  | 0, _ => rfl
  | k + 1, h => by
    rw [brX, brX_neg (fun j hj => h j (by omega))]
    simp only
    rw [if_neg]
    have := brH_neg (Ls := Ls) (Hs := Hs) (Ts := Ts) (w := w) (x := Xs.getD k zeO) (k := 16) (fun j hj => h k (by omega) j hj)
    omega
theorem brW_neg : ∀ {k : Nat}, (∀ i, i < k → ∀ j, j < Xs.length → ∀ h : Nat, h < 16 → brB Ls Hs Ts (l.getD i zeW) (Xs.getD j zeO) (h : Int) = false) → brW Ls Hs Ts l Xs k = none
  | 0, _ => rfl
  | k + 1, h => by
    rw [brW, brW_neg (fun i hi => h i (by omega))]
    simp only
    rw [brX_neg (h k (by omega))]
/-- What the program finds is what the document asks. -/
theorem fb_br {held : Nat} {p : Int × ByteArray × Int} (f : Fb l Hs (fun z h => [frF Ls Hs Ts (Hs.getD z zeO).2 (h : Int)]) Hs.length 0 held p) : (brW Ls Hs Ts l Hs l.length).isSome = decide (held < l.length) ∧ prV Hs (brW Ls Hs Ts l Hs l.length) = p := by
  have hb : ∀ w z (h : Nat), badF w (Hs.getD z zeO).1 [frF Ls Hs Ts (Hs.getD z zeO).2 (h : Int)] = brB Ls Hs Ts w (Hs.getD z zeO) (h : Int) := fun w z h => by simp [badF, brB]
  by_cases hl : held < l.length
  · obtain ⟨z, h, h16, hzh, hz, rfl, hbad, hno⟩ := f.tell hl
    have e1 : brH Ls Hs Ts l[held] Hs[z] 16 = (h : Int) := by
      refine brH_yes h16 (brH_neg fun j hj => ?_) ?_
      · have := hno z j (by omega) (.inr ⟨rfl, hj⟩)
        rw [hb, getW hl, getO hz] at this
        exact this
      · rw [hb, getW hl, getO hz] at hbad
        exact hbad
    have e2 : brX Ls Hs Ts l[held] Hs Hs.length = some (z, (h : Int)) := by
      rw [brX_yes hz (brX_neg fun j hj h' hh' => ?_) (by rw [e1]; omega), e1]
      have := hno j h' hh' (.inl hj)
      rw [hb, getW hl] at this
      exact this
    have e3 := brW_yes hl (brW_neg (Ls := Ls) (Hs := Hs) (Ts := Ts) (Xs := Hs) fun i hi j hj h' hh' => by
      have := f.ok i hi j h' hh' (.inl hj)
      rw [hb] at this
      exact this) e2
    rw [e3]
    exact ⟨by simp [hl], rfl⟩
  · have he : held = l.length := by have := f.le; omega
    have e3 : brW Ls Hs Ts l Hs l.length = none := brW_neg fun i hi j hj h' hh' => by
      have := f.ok i (by omega) j h' hh' (.inl hj)
      rw [hb] at this
      exact this
    rw [e3, f.no he]
    exact ⟨by simp [hl], rfl⟩
end
end Go.Proofs.YtpmcjelihdlfeaaDoor
/- What package slices answers at slices of api.Wish. Written by mk/slices.py. -/
namespace Go.Proofs.YtpmcjelihdlfeaaDoor
open Go.RowKit
set_option linter.unusedSimpArgs false
set_option linter.unusedVariables false

/-- A closure that asks something, in whatever world behind this one. -/
def wi2Asks (w : World) (f : FuncId) (c0 c1 : Value) (P : Wi → Bool) : Prop :=
  ∀ (x0 : Int) (x1 : ByteArray) (x2 : ByteArray) (x3 : Int) (W : World), Below w.heap.size w W → Calls Tryd.prog f #[.agg #[.int .i64 x0, .string x1, .string x2, .int .i64 x3], c0, c1] W fun e w' => e = .returned (.bool (P ⟨x0, x1, x2, x3⟩)) ∧ Below W.heap.size W w'
theorem wi2Asks.later {w w' : World} {f : FuncId} {c0 c1 : Value} {P : Wi → Bool} (h : wi2Asks w f c0 c1 P) (hb : Below w.heap.size w w') : wi2Asks w' f c0 c1 P :=
  fun x0 x1 x2 x3 W hW => h x0 x1 x2 x3 W (hb.trans (hW.mono hb.size))

set_option maxHeartbeats 1000000 in
theorem wi2_idxF (ao : Option Addr) (n cap : Nat) (f : FuncId) (c0 c1 : Value) (P : Wi → Bool) (L : List (Wi)) (w : World) (hn : L.length = n) (hn2 : n ≤ maxLen) (ha : 0 < n → ∃ g o, ao = some ⟨g, o, none⟩ ∧ GAt wisE w g o L ∧ cap ≤ maxLen) (he : ∀ args w, (callFunc f args).run Tryd.prog w = .ok (.enter f args) w) (hf : wi2Asks w f c0 c1 P) :
    Calls Tryd.prog 88 #[.slice ao n cap, .func (Fn.func f) #[] #[c0, c1]] w fun e w' => e = .returned (.int .i64 (ixG P L)) ∧ Below w.heap.size w w' := by
  have HN : Hid (L.length = n) := hn
  have HF : Hid (wi2Asks w f c0 c1 P) := hf
  have HA : Hid (0 < n → ∃ g o, ao = some ⟨g, o, none⟩ ∧ GAt wisE w g o L ∧ cap ≤ maxLen) := ha
  unfold maxLen at hn2
  clear hn hf ha
  go_enter Tryd.func88, Tryd.ntmps88
  go_wp2
  go_loopw [8] (fun i wr => ∃ k : Nat, k ≤ n ∧ i = .int .i64 k ∧ (L.take k).any P = false ∧ Below w.heap.size w wr)
    (fun i _ => n - (intOf i).toNat)
  case atStart => exact ⟨0, by omega, rfl, by simp, Below.refl _ _⟩
  case round =>
    obtain ⟨k, hk, rfl, hno, hB⟩ := hrel
    have HB : Hid (Below w.heap.size w wr) := hB
    have HNO : Hid ((L.take k).any P = false) := hno
    clear hno
    by_cases hlt : k < n
    · obtain ⟨g, o, hao, hc, _⟩ := HA.out (by omega)
      subst hao
      obtain ⟨x0, x1, x2, x3, hkl, hL, q0, q1, q2, q3⟩ := wis_at (hc.later hB) HN.out hlt
      have HL : Hid (L[k] = ⟨x0, x1, x2, x3⟩) := hL
      clear hL hB
      cases ho : P ⟨x0, x1, x2, x3⟩
      · go_wp2_with fail
        refine (HF.out x0 x1 x2 x3 _ HB.out).mono ?_
        rintro e w1 ⟨rfl, hb1⟩
        rw [ho]
        have HB1 := HB.out.trans (hb1.mono HB.out.size)
        clear hb1
        go_wp2
        go_roundw
        case rel => exact ⟨k + 1, by omega, by go_num, any_nextG hkl HNO.out (by rw [HL.out]; exact ho), HB1⟩
        case measure => simp [intOf]; omega
      · go_wp2_with fail
        refine (HF.out x0 x1 x2 x3 _ HB.out).mono ?_
        rintro e w1 ⟨rfl, hb1⟩
        rw [ho]
        go_wp2
        go_ret
        exact ⟨by rw [ixG_hit hkl HNO.out (by rw [HL.out]; exact ho)]; rfl, HB.out.trans (hb1.mono HB.out.size)⟩
    · obtain rfl : k = n := by omega
      go_wp2
      go_ret
      exact ⟨by have := HNO.out; rw [← HN.out, List.take_length] at this; rw [ixG_no this]; rfl, HB.out⟩

end Go.Proofs.YtpmcjelihdlfeaaDoor
/- A range over a function whose iterator has memory of its own, at the wide fence. No program in it. -/
namespace Go.Proofs.YtpmcjelihdlfeaaDoor
open Go.RowKit Go.Shelf
set_option linter.unusedVariables false

/-- Of the blocks that were there, these are as they were. -/
structure Kb (p : Nat → Prop) (w w' : World) : Prop where
  os : w'.os = w.os
  tape : w'.tape = w.tape
  output : w'.output = w.output
  size : w.heap.size ≤ w'.heap.size
  block : ∀ k, k < w.heap.size → p k → w'.heap[k]? = w.heap[k]?
theorem Kb.refl (p : Nat → Prop) (w : World) : Kb p w w := ⟨rfl, rfl, rfl, Nat.le_refl _, fun _ _ _ => rfl⟩
theorem Kb.trans {p : Nat → Prop} {a b c : World} (h : Kb p a b) (k : Kb p b c) : Kb p a c :=
  ⟨k.os.trans h.os, k.tape.trans h.tape, k.output.trans h.output, Nat.le_trans h.size k.size, fun i hi hx => (k.block i (Nat.lt_of_lt_of_le hi h.size) hx).trans (h.block i hi hx)⟩
theorem Kb.mono {p q : Nat → Prop} {w w' : World} (h : Kb p w w') (hq : ∀ b, b < w.heap.size → q b → p b) : Kb q w w' := ⟨h.os, h.tape, h.output, h.size, fun k hk hx => h.block k hk (hq k hk hx)⟩
theorem Kb.of_below {p : Nat → Prop} {n₀ : Nat} {w w' : World} (h : Below n₀ w w') (hp : ∀ b, b < w.heap.size → p b → b < n₀) : Kb p w w' := ⟨h.os, h.tape, h.output, h.size, fun k hk hx => h.block k (hp k hk hx)⟩
theorem Kb.below {p : Nat → Prop} {n₀ : Nat} {w w' : World} (h : Kb p w w') (hn : n₀ ≤ w.heap.size) (hp : ∀ b, b < n₀ → p b) : Below n₀ w w' := ⟨h.os, h.tape, h.output, h.size, fun k hk => h.block k (by omega) (hp k hk)⟩
theorem Kb.drew {p : Nat → Prop} {a w : World} (h : Kb p a w) : Kb p a w.drew := ⟨h.os, h.tape, h.output, h.size, h.block⟩
theorem Kb.alloc {p : Nat → Prop} {a w : World} (h : Kb p a w) (o : Obj) : Kb p a (w.alloc o) :=
  h.trans (Kb.of_below ((Below.refl w.heap.size w).alloc (Nat.le_refl _) o) (fun b hb _ => hb))
theorem Kb.setCell {p : Nat → Prop} {a w : World} (h : Kb p a w) {q : Addr} (hq : q.block < a.heap.size → ¬ p q.block) (v : Value) : Kb p a (w.setCell q v) := by
  refine ⟨h.os, h.tape, h.output, ?_, fun k hk hx => (Below.heap_setCell w q v k ?_).trans (h.block k hk hx)⟩
  · show a.heap.size ≤ (w.heap.modify _ _).size
    rw [Array.size_modify]
    exact h.size
  · intro e
    subst e
    exact hq hk hx
theorem Kb.putObj {p : Nat → Prop} {a w : World} (h : Kb p a w) {l : Nat} (hl : l < a.heap.size → ¬ p l) (o : Obj) : Kb p a (w.putObj l o) := by
  have hg := grownBy_putObj' w l o
  refine ⟨hg.os.trans h.os, hg.tape.trans h.tape, hg.output.trans h.output, Nat.le_trans h.size hg.size, fun k hk hx => (hg.block k (Nat.lt_of_lt_of_le hk h.size) (fun e => ?_)).trans (h.block k hk hx)⟩
  cases e
  exact hl hk hx
theorem Kb.grown {p : Nat → Prop} {a w w' : World} {row : Option Nat} (h : Kb p a w) (hg : w.grownBy w' row) (hr : ∀ r, row = some r → r < a.heap.size → ¬ p r) : Kb p a w' :=
  ⟨hg.os.trans h.os, hg.tape.trans h.tape, hg.output.trans h.output, Nat.le_trans h.size hg.size, fun k hk hx => (hg.block k (Nat.lt_of_lt_of_le hk h.size) (fun e => hr k e.symm hk hx)).trans (h.block k hk hx)⟩
theorem Kb.cell {p : Nat → Prop} {w w' : World} (h : Kb p w w') {q : Addr} (hl : q.block < w.heap.size) (hp : p q.block) : w'.cell? q = w.cell? q := World.cell?_of_block (w := w) (h.block q.block hl hp)
theorem Kb.at {p : Nat → Prop} {w w' : World} (h : Kb p w w') {q : Addr} {v : Value} (hc : w.cell? q = some v) (hp : p q.block) : w'.cell? q = some v := (h.cell (World.block_lt_of_cell? _ _ hc) hp).trans hc
theorem Kb.frozen {p : Nat → Prop} {w w' : World} (h : Kb p w w') {q : Addr} (hl : q.block < w.heap.size) (hp : p q.block) : w'.frozen? q = w.frozen? q := by
  simp only [World.frozen?, h.block q.block hl hp]
theorem Kb.boxed {p : Nat → Prop} {w w' : World} (h : Kb p w w') {b : Nat} {t : TypeId} {v : Value} (hb : Boxed w b t v) (hp : p b) : Boxed w' b t v := (h.block b hb.lt hp).trans hb

theorem room_none (k : Nat) : Fence.wide.room k := room_wide k
theorem round_any {m m' : Nat} {P : Program} {l : Nat} {f : FuncId} {tmps : Array Value} {assign body : Code} {w : World} {R : Ending → World → Prop} (h : RoundIn Fence.wide m P l f tmps assign body w R) : RoundIn Fence.wide m' P l f tmps assign body w R := ⟨h.1, fun c cs _ => h.2 c cs (room_none _)⟩
theorem yield_any {m m' : Nat} {P : Program} {l : Nat} {args : Array Value} {W : World} {R : Ending → World → Prop} (h : YieldAt Fence.wide m P l args W R) : YieldAt Fence.wide m' P l args W R := by
  obtain ⟨fn, tmps, assign, body, hy, hR⟩ := h
  exact ⟨fn, tmps, assign, body, hy, round_any hR⟩

/-- What an iterator value promises: these come, one by one, from whatever world that has what lay below n₀. X: what the caller has of its own, of blocks laid since; Y: what the iterator has. -/
def ItF {α : Type} (P : Program) (g : Nat) (lb : Array Value) (Vl : World → Array Value → α → Prop) (n₀ : Nat) (L : List α) (w : World) : Prop :=
  ∀ (l : Nat) (J : Nat → (Nat → Prop) → World → Prop) (Jx : World → Prop) (W : World), Below n₀ w W → n₀ ≤ W.heap.size →
    J 0 (fun _ => False) W →
    (∀ k X A, J k X A → ∀ b, X b → b < A.heap.size) →
    (∀ k X A A', J k X A → Kb (fun b => b < W.heap.size ∨ X b) A A' → J k X A') →
    (∀ A A', Jx A → Kb (fun _ => True) A A' → Jx A') →
    (∀ k X A args x (Y : Nat → Prop), J k X A → L[k]? = some x → Vl A args x → W.heap.size ≤ A.heap.size → (∀ b, Y b → W.heap.size ≤ b ∧ ¬ X b) → YieldAt Fence.wide 0 P l args A fun e A' =>
      (e = .returned (.bool true) ∧ (∃ X', J (k + 1) X' A' ∧ ∀ b, X' b → X b ∨ A.heap.size ≤ b) ∧ Kb (fun b => b < n₀ ∨ Y b) A A') ∨ (e = .returned (.bool false) ∧ Jx A' ∧ Kb (fun b => b < n₀ ∨ Y b) A A')) →
    Calls P g (#[.func (.yield l) #[] #[]] ++ lb) W fun e W' => (∃ v, e = .returned v) ∧ ((∃ X, J L.length X W') ∨ Jx W')
theorem ItF.later {α : Type} {P : Program} {g : Nat} {lb : Array Value} {Vl : World → Array Value → α → Prop} {n₀ : Nat} {L : List α} {w w' : World} (h : ItF P g lb Vl n₀ L w) (hb : Below n₀ w w') : ItF P g lb Vl n₀ L w' :=
  fun l J Jx W hW hn h1 h2 h3 h4 h5 => h l J Jx W (hb.trans hW) hn h1 h2 h3 h4 h5

/-- How the body of a round may be left. -/
def itPost (p : Nat → Prop) (I : World → Prop) (Ix : Code → World → Prop) (W : World) : Exit → Act → World → Prop
  | .normal, _, W' => Kb p W W' ∧ I W'
  | .ret, _, W' => Kb p W W' ∧ Ix .ret W'
  | .exit id, _, W' => Kb p W W' ∧ Ix (.exit id) W'
  | .goto t, _, W' => Kb p W W' ∧ Ix (.goto t) W'
  | .panic _, _, _ => False
  | .outgrown, _, _ => False

set_option maxHeartbeats 1000000 in
theorem wpIn_rangeFunc_it {P : Program} {n : Nat} {α : Type} {g : Operand} {ps : Array Tmp} {assign body : Code} {Q : Exit → Act → World → Prop} {a : Act} {w : World}
    (h1 : 1 ≤ n) {gf : Nat} {lb : Array Value} (hg : a.eval g = .func (.func gf) #[] lb) (eg : ∀ args w, (callFunc gf args).run P w = .ok (.enter gf args) w)
    {Vl : World → Array Value → α → Prop} {n₀ : Nat} {L : List α} {w0 : World} (hseq : ItF P gf lb Vl n₀ L w0) (hb0 : Below n₀ w0 w) (hn₀ : n₀ ≤ w.heap.size) (hps : ∀ A args x, Vl A args x → args.size = ps.size)
    (I : Nat → (Nat → Prop) → World → Prop) (Ix : Code → World → Prop)
    (hlt : ∀ k X A, I k X A → ∀ b, X b → w.heap.size + 2 ≤ b ∧ b < A.heap.size)
    (hI : ∀ k X A A', I k X A → Kb (fun b => b < w.heap.size ∨ X b) A A' → I k X A')
    (hIx : ∀ c A A', Ix c A → Kb (fun b => b < w.heap.size ∨ w.heap.size + 2 ≤ b) A A' → Ix c A')
    (h0 : I 0 (fun _ => False) w)
    (hround : ∀ (l k : Nat) (X Y : Nat → Prop) (x : α) (args : Array Value) (W : World), l = w.heap.size + 1 → w.heap.size + 2 ≤ W.heap.size → I k X W → L[k]? = some x → Vl W args x → (∀ b, Y b → w.heap.size + 2 ≤ b ∧ ¬ X b) → (∀ q : Addr, q.block = l → W.cell? q = none) →
      assign.wpIn (Fence.wide.inRound l) (n - 1 - 1) P (Exit.then (fun a' Wa => Kb (fun b => b < n₀ ∨ b = w.heap.size ∨ b = l ∨ Y b) W Wa ∧ ∀ W2, Kb (fun b => b ≠ l) Wa W2 → body.wpIn (Fence.wide.inRound l) (n - 1 - 1) P (itPost (fun b => b < n₀ ∨ b = w.heap.size ∨ b = l ∨ Y b) (fun W' => ∃ X', I (k + 1) X' W' ∧ ∀ b, X' b → X b ∨ W.heap.size ≤ b) Ix W2) a' W2) (fun _ _ _ => False)) { tmps := (ps.zip args).foldl (fun t (p, v) => t.setIfInBounds p v) a.tmps, defers := [] } W)
    (hdone : ∀ (X : Nat → Prop) (W : World), I L.length X W → W.heap[w.heap.size]? = some (.deferred (some [])) → Q .normal { a with defers := { target := .collected w.heap.size, args := #[] } :: a.defers } W)
    (hstop : ∀ (c : Code) (W : World), Ix c W → W.heap[w.heap.size]? = some (.deferred (some [])) → c.wpIn Fence.wide n P Q { a with defers := { target := .collected w.heap.size, args := #[] } :: a.defers } W) :
    (Code.rangeFunc g ps assign body).wpIn Fence.wide n P Q a w := by
  refine wpIn_rangeFunc ?_
  intro fn hfn
  rw [show Fence.wide.round = none from rfl]
  obtain ⟨rec, hrec⟩ : ∃ rec : LoopState → Option Code → Loop, rec = fun st pe => { state := st, pending := pe, fn, tmps := a.tmps, params := ps, assign, body, defers := w.heap.size } := ⟨_, rfl⟩
  obtain ⟨W1, hW1⟩ : ∃ W1, (w.alloc (.deferred (some []))).alloc (.loop (rec .ready none)) = W1 := ⟨_, rfl⟩
  have hL1 : W1.heap[w.heap.size + 1]? = some (.loop (rec .ready none)) := by
    rw [← hW1]; have := World.alloc_heap_new (w.alloc (.deferred (some []))) (.loop (rec .ready none)); rwa [World.size_alloc] at this
  have hK1 : W1.heap[w.heap.size]? = some (.deferred (some [])) := by
    rw [← hW1]; exact (Below.heap_alloc _ _ _ (by simp)).trans (World.alloc_heap_new w _)
  have hS1 : W1.heap.size = w.heap.size + 2 := by rw [← hW1]; simp
  have hB1 : Below w.heap.size w W1 := by
    rw [← hW1]; exact ((Below.refl _ w).alloc (Nat.le_refl _) _).alloc (by simp) _
  have hb1 : Below n₀ w0 W1 := hb0.trans (hB1.mono hn₀)
  refine ⟨w.heap.size + 1, [{ target := .collected w.heap.size, args := #[] }], W1, { target := .fn (.func gf) lb, args := #[.func (.yield (w.heap.size + 1)) #[] #[]] }, W1, gf,
    #[.func (.yield (w.heap.size + 1)) #[] #[]] ++ lb, W1, ?_, ?_, ?_, ?_, fun _ => h1, ?_⟩
  · rw [← hW1, hrec]; exact run_enterLoop_outer _ _ _ _ _
  · simp only [resolve, hg]
    simp [go_sem]
  · intro f' hf'; trivial
  · simp [invoke, go_sem, eg]
  · have hI1 : ∀ {k : Nat} {X : Nat → Prop} {A : World} (o : Obj), I k X A → I k X (A.putObj (w.heap.size + 1) o) := fun o h => hI _ _ _ _ h ((Kb.refl _ _).putObj (fun _ hp => hp.elim (fun h => by omega) (fun hx => by have := (hlt _ _ _ h _ hx).1; omega)) o)
    refine (callsIn_wide.2 (hseq (w.heap.size + 1)
      (fun k X W => I k X W ∧ W.heap[w.heap.size + 1]? = some (.loop (rec .ready none)) ∧ W.heap[w.heap.size]? = some (.deferred (some [])))
      (fun W => ∃ c, Ix c W ∧ W.heap[w.heap.size + 1]? = some (.loop (rec .done (some c))) ∧ W.heap[w.heap.size]? = some (.deferred (some [])))
      W1 hb1 (by omega) ?_ ?_ ?_ ?_ ?_)).mono ?_
    · exact ⟨hI _ _ _ _ h0 (Kb.of_below hB1 (fun b _ h => h.elim id False.elim)), hL1, hK1⟩
    · exact fun k X A h b hx => (hlt _ _ _ h.1 b hx).2
    · rintro k X A A' ⟨hi, hl, hd⟩ hk
      rw [hS1] at hk
      have hlt' : w.heap.size + 1 < A.heap.size := (Array.getElem?_eq_some_iff.1 hl).1
      exact ⟨hI k X A A' hi (hk.mono (fun b _ h => h.imp (fun h => by omega) id)), (hk.block _ hlt' (.inl (by omega))).trans hl, (hk.block _ (by omega) (.inl (by omega))).trans hd⟩
    · rintro A A' ⟨c, hi, hl, hd⟩ hk
      have hlt' : w.heap.size + 1 < A.heap.size := (Array.getElem?_eq_some_iff.1 hl).1
      exact ⟨c, hIx c A A' hi (hk.mono (fun _ _ _ => trivial)), (hk.block _ hlt' trivial).trans hl, (hk.block _ (by omega) trivial).trans hd⟩
    · rintro k X W args x Y ⟨hi, hl, hd⟩ hx hv hWW hY
      rw [hS1] at hY hWW
      have hlt' : w.heap.size + 1 < W.heap.size := (Array.getElem?_eq_some_iff.1 hl).1
      have hy := run_yield (P := P) (args := args) hl (by rw [hrec]; exact hps _ _ _ hv)
      rw [hrec] at hy
      refine yield_any (m := n - 1 - 1) ⟨fn, _, assign, body, hy, roundIn_of_wpIn hfn (wpIn_mono (hround _ k X Y x args W rfl hWW hi hx hv hY (fun q hq => by simp [World.cell?, hq, hl])) ?_)⟩
      clear hy
      intro e1 a' Wa hp
      cases e1 with
      | normal =>
        obtain ⟨hka, hbody⟩ := hp
        have hl2 := (hka.block _ hlt' (.inr (.inr (.inl rfl)))).trans hl
        have hd2 := (hka.block w.heap.size (by omega) (.inr (.inl rfl))).trans hd
        have hlta : w.heap.size + 1 < Wa.heap.size := (Array.getElem?_eq_some_iff.1 hl2).1
        refine ⟨_, run_beginRound hl2 (by rw [hrec]), ?_⟩
        have hkb : Kb (fun b => b ≠ w.heap.size + 1) Wa (Wa.putObj (w.heap.size + 1) (.loop { rec .ready none with state := .busy })) := (Kb.refl _ _).putObj (fun _ h => h rfl) _
        have hl3 : (Wa.putObj (w.heap.size + 1) (.loop { rec .ready none with state := .busy })).heap[w.heap.size + 1]? = some (.loop { rec .ready none with state := .busy }) := World.putObj_heap_same hlta
        have hd3 := (hkb.block w.heap.size (by omega) (by omega)).trans hd2
        refine wpIn_mono (hbody _ hkb) ?_
        generalize Wa.putObj (w.heap.size + 1) (.loop { rec .ready none with state := .busy }) = W2 at hkb hl3 hd3
        have hlt2 : w.heap.size + 1 < W2.heap.size := (Array.getElem?_eq_some_iff.1 hl3).1
        have fin : ∀ (jump : Option Code) (W3 : World), Kb (fun b => b < n₀ ∨ b = w.heap.size ∨ b = w.heap.size + 1 ∨ Y b) W2 W3 →
            (Instr.endRound (w.heap.size + 1) jump).run P W3 = .ok (.bool jump.isNone) (W3.putObj (w.heap.size + 1) (.loop (rec (if jump.isNone then .ready else .done) jump))) ∧
            W3.heap[w.heap.size + 1]? = some (.loop { rec .ready none with state := .busy }) ∧
            (W3.putObj (w.heap.size + 1) (.loop (rec (if jump.isNone then .ready else .done) jump))).heap[w.heap.size + 1]? = some (.loop (rec (if jump.isNone then .ready else .done) jump)) ∧
            (W3.putObj (w.heap.size + 1) (.loop (rec (if jump.isNone then .ready else .done) jump))).heap[w.heap.size]? = some (.deferred (some [])) := fun jump W3 hk3 => by
          have hl4 := (hk3.block _ hlt2 (.inr (.inr (.inl rfl)))).trans hl3
          have hd4 := (hk3.block w.heap.size (by omega) (.inr (.inl rfl))).trans hd3
          have := run_endRound (P := P) jump hl4
          rw [hrec] at this ⊢
          exact ⟨this, by rw [hrec] at hl4; exact hl4, World.putObj_heap_same (Array.getElem?_eq_some_iff.1 hl4).1, (World.putObj_heap_other (by omega)).trans hd4⟩
        rintro e a3 W3 hp
        have hny : ∀ b, b < n₀ ∨ Y b → b ≠ w.heap.size + 1 := fun b h e => h.elim (fun h => by omega) (fun h => by have := (hY b h).1; omega)
        have hall : ∀ (W3 : World) (o : Obj), Kb (fun b => b < n₀ ∨ b = w.heap.size ∨ b = w.heap.size + 1 ∨ Y b) W2 W3 → Kb (fun b => b < n₀ ∨ Y b) W (W3.putObj (w.heap.size + 1) o) := fun W3 o hk3 => (((hka.mono (fun b _ h => h.imp id (fun h => .inr (.inr h)))).trans ((hkb.mono (fun b _ h => hny b h)).trans (hk3.mono (fun b _ h => h.imp id (fun h => .inr (.inr h)))))).trans ((Kb.refl _ _).putObj (fun _ h => hny _ h rfl) _))
        cases e with
        | normal =>
          obtain ⟨hk3, X', hi3, hX'⟩ := hp
          obtain ⟨hr, hl4, hl5, hd5⟩ := fin none W3 hk3
          exact ⟨_, _, hr, .inl ⟨rfl, ⟨X', ⟨hI1 _ hi3, hl5, hd5⟩, hX'⟩, hall _ _ hk3⟩⟩
        | ret =>
          obtain ⟨hk3, hi3⟩ := hp
          obtain ⟨hr, hl4, hl5, hd5⟩ := fin (some .ret) W3 hk3
          exact ⟨_, _, hr, .inr ⟨rfl, ⟨.ret, hIx _ W3 _ hi3 ((Kb.refl _ _).putObj (fun _ h => by omega) _), hl5, hd5⟩, hall _ _ hk3⟩⟩
        | exit id =>
          obtain ⟨hk3, hi3⟩ := hp
          obtain ⟨hr, hl4, hl5, hd5⟩ := fin (some (.exit id)) W3 hk3
          exact ⟨_, _, hr, .inr ⟨rfl, ⟨.exit id, hIx _ W3 _ hi3 ((Kb.refl _ _).putObj (fun _ h => by omega) _), hl5, hd5⟩, hall _ _ hk3⟩⟩
        | goto t =>
          obtain ⟨hk3, hi3⟩ := hp
          obtain ⟨hr, hl4, hl5, hd5⟩ := fin (some (.goto t)) W3 hk3
          exact ⟨_, _, hr, .inr ⟨rfl, ⟨.goto t, hIx _ W3 _ hi3 ((Kb.refl _ _).putObj (fun _ h => by omega) _), hl5, hd5⟩, hall _ _ hk3⟩⟩
        | panic ch => exact hp.elim
        | outgrown => exact hp.elim
      | ret => exact hp.elim
      | exit id => exact hp.elim
      | goto t => exact hp.elim
      | panic ch => exact hp.elim
      | outgrown => exact hp.elim
    · rintro e W2 ⟨⟨v, rfl⟩, (⟨X, hi, hl, hd⟩ | ⟨c, hi, hl, hd⟩)⟩
      · refine ⟨none, _, by have := run_endLoop (P := P) hl (by rw [hrec]; simp); rw [hrec] at this; exact this, ?_⟩
        exact hdone X _ (hI1 _ hi) ((World.putObj_heap_other (by omega)).trans hd)
      · refine ⟨some c, _, by have := run_endLoop (P := P) hl (by rw [hrec]; simp); rw [hrec] at this; exact this, ?_⟩
        exact hstop c _ (hIx c W2 _ hi ((Kb.refl _ _).putObj (fun _ h => by omega) _)) ((World.putObj_heap_other (by omega)).trans hd)
end Go.Proofs.YtpmcjelihdlfeaaDoor
/- Parts of slices, whoever made them. No program in it. -/
namespace Go.Proofs.YtpmcjelihdlfeaaDoor
open Go.RowKit
set_option linter.unusedVariables false

/-- One part of a slice. -/
theorem GS.take {α : Type} {E : Enc α} {W : World} {ao : Option Addr} {n cap c : Nat} {L : List α} (h : GS E W (.slice ao n cap) L) (hc : c ≤ n) : GS E W (.slice ao c cap) (L.take c) := by
  rcases h with ⟨ao', cap', e, rfl⟩ | ⟨g, o, cap', e, h1, h2, h3⟩
  · simp only [Value.slice.injEq] at e
    obtain ⟨rfl, rfl, rfl⟩ := e
    obtain rfl : c = 0 := by omega
    exact .inl ⟨_, _, rfl, by simp⟩
  · simp only [Value.slice.injEq] at e
    obtain ⟨rfl, rfl, rfl⟩ := e
    have e1 : (L.take c).length = c := by rw [List.length_take]; omega
    exact .inr ⟨g, o, cap, by rw [e1], by rw [e1]; omega, h2, h3.take c⟩
theorem GS.drop {α : Type} {E : Enc α} {W : World} {g o n cap c : Nat} {L : List α} (h : GS E W (.slice (some ⟨g, o, none⟩) n cap) L) (hc : c ≤ n) : GS E W (.slice (some ⟨g, o + c * E.n, none⟩) (n - c) (cap - c)) (L.drop c) := by
  rcases h with ⟨ao', cap', e, rfl⟩ | ⟨g', o', cap', e, h1, h2, h3⟩
  · simp only [Value.slice.injEq] at e
    obtain ⟨rfl, rfl, rfl⟩ := e
    obtain rfl : c = 0 := by omega
    exact .inl ⟨_, _, rfl, by simp⟩
  · simp only [Value.slice.injEq, Option.some.injEq, Addr.mk.injEq, and_true] at e
    obtain ⟨⟨rfl, rfl⟩, rfl, rfl⟩ := e
    have e1 : (L.drop c).length = L.length - c := List.length_drop
    exact .inr ⟨g, o + c * E.n, cap - c, by rw [e1], by rw [e1]; omega, Nat.le_trans (Nat.sub_le _ _) h2, h3.drop c⟩
end Go.Proofs.YtpmcjelihdlfeaaDoor
/- What holding of package wish answers: how many wishes the fates of an iterator fit. -/
namespace Go.Proofs.YtpmcjelihdlfeaaDoor
open Go.RowKit Go.Shelf
set_option linter.unusedSimpArgs false
set_option linter.unusedVariables false
attribute [local go_sem] Oper.semAt_some

/-- A fate in its box. -/
def FaBox (W : World) (g : Nat) (a : Int) (b : ByteArray) (c : Value) : Prop := W.cell? ⟨g, 0, none⟩ = some (.int .i64 a) ∧ W.cell? ⟨g, 1, none⟩ = some (.string b) ∧ W.cell? ⟨g, 2, none⟩ = some c
theorem FaBox.later {W W' : World} {g : Nat} {a : Int} {b : ByteArray} {c : Value} (h : FaBox W g a b c) (hb : Below W.heap.size W W') : FaBox W' g a b c :=
  ⟨cell_later hb h.1, cell_later hb h.2.1, cell_later hb h.2.2⟩
theorem fabox_new (w : World) (a : Int) (b : ByteArray) (c : Value) (T : TypeId) : FaBox (w.alloc (Obj.cells #[.int .i64 a, .string b, c] T)) w.heap.size a b c := by
  refine ⟨?_, ?_, ?_⟩ <;> simp
/-- A fate, as an iterator hands it on: its hops where they lie. -/
def FtV (A : World) (args : Array Value) (x : Ft) : Prop := ∃ ao n cap, args = #[.agg #[.int .i64 x.1, .string x.2.1, .slice ao n cap]] ∧ GS hopE A (.slice ao n cap) x.2.2
theorem GS.kb {α : Type} {E : Enc α} {W W' : World} {v : Value} {L : List α} {p : Nat → Prop} (h : GS E W v L) (hk : Kb p W W') (hp : ∀ q u, W.cell? q = some u → p q.block) : GS E W' v L := by
  rcases h with ⟨ao', cap', e, rfl⟩ | ⟨g, o, cap', e, h1, h2, h3⟩
  · exact .inl ⟨ao', cap', e, rfl⟩
  · exact .inr ⟨g, o, cap', e, h1, h2, fun i hi j u hu => hk.at (h3 i hi j u hu) (hp _ _ (h3 i hi j u hu))⟩

set_option maxHeartbeats 1000000 in
set_option maxRecDepth 100000 in
theorem holding1_any (a : Int) (b : ByteArray) (ao : Option Addr) (n cap : Nat) (l : List ((Int × Int) × Int)) (g1 g2 : Nat) (k : Int) (f t : ByteArray) (v : Int) (m : ByteArray) (w : World) (hl : GS hopE w (.slice ao n cap) l) (h1 : w.cell? ⟨g1, 0, none⟩ = some (.string m)) (h2 : FaBox w g2 a b (.slice ao n cap)) :
    Calls Tryd.prog 89 #[.agg #[.int .i64 k, .string f, .string t, .int .i64 v], .pointer (some ⟨g1, 0, none⟩), .pointer (some ⟨g2, 0, none⟩)] w fun e w' => e = .returned (.bool (!fiB ⟨k, f, t, v⟩ m (a, b, l))) ∧ Below w.heap.size w w' := by
  have hb0 : Below w.heap.size w (w.alloc (Obj.cells #[.int .i64 k, .string f, .string t, .int .i64 v] 67)) := (Below.refl _ _).alloc (Nat.le_refl _) _
  have hl0 := hl.later hb0
  have hx0 := wibox_new w k f t v 67
  have hs0 := cell_later hb0 h1
  have hf0 := h2.later hb0
  obtain ⟨w0, hw0⟩ : ∃ W, w.alloc (Obj.cells #[.int .i64 k, .string f, .string t, .int .i64 v] 67) = W := ⟨_, rfl⟩
  rw [hw0] at hb0 hl0 hx0 hs0 hf0
  have HW0 : Hid (w.alloc (Obj.cells #[.int .i64 k, .string f, .string t, .int .i64 v] 67) = w0) := hw0
  have HB0 : Hid (Below w.heap.size w w0) := hb0
  have HL0 : Hid (GS hopE w0 (.slice ao n cap) l) := hl0
  obtain ⟨x0, x1, x2, x3⟩ := hx0
  obtain ⟨f0, f1, f2⟩ := hf0
  obtain ⟨R, hR⟩ : ∃ R, R = fiB ⟨k, f, t, v⟩ m (a, b, l) := ⟨_, rfl⟩
  have HR : Hid (fiB ⟨k, f, t, v⟩ m (a, b, l) = R) := hR.symm
  rw [← hR]
  clear hb0 hl0 hl h1 h2 hw0 hR
  go_enter Tryd.func89, Tryd.ntmps89
  go_upto_region 1 with fail
  rw [HW0.out]
  clear HW0
  go_wp2_with fail
  refine (fits_any k f t v m a b ao n cap l _ HL0.out).mono ?_
  rintro e w1 ⟨rfl, hb1⟩
  rw [HR.out]
  go_wp2
  go_ret
  exact ⟨rfl, HB0.out.trans (hb1.mono HB0.out.size)⟩

/-- The three boxes: wishes, a name, a number. -/
structure HB (w W : World) (v : Value) (m : ByteArray) (k : Nat) : Prop where
  below : Below w.heap.size w W
  l : Boxed W w.heap.size 61 v
  m : Boxed W (w.heap.size + 1) 9 (.string m)
  n : Boxed W (w.heap.size + 1 + 1) 3 (.int .i64 k)
theorem HB.kb {w W W' : World} {v : Value} {m : ByteArray} {k : Nat} {p : Nat → Prop} (h : HB w W v m k) (hk : Kb p W W') (hp : ∀ b, b < w.heap.size + 3 → p b) : HB w W' v m k :=
  ⟨h.below.trans (hk.below (by have := h.l.lt; omega) (fun b hb => hp b (by omega))), hk.boxed h.l (hp _ (by omega)), hk.boxed h.m (hp _ (by omega)), hk.boxed h.n (hp _ (by omega))⟩
theorem HB.put {w W : World} {v : Value} {m : ByteArray} {k : Nat} (h : HB w W v m k) (j : Nat) : HB w (W.setCell ⟨w.heap.size + 1 + 1, 0, none⟩ (.int .i64 j)) v m j :=
  ⟨h.below.setCell (p := ⟨w.heap.size + 1 + 1, 0, none⟩) (show w.heap.size ≤ w.heap.size + 1 + 1 by omega) _, h.l.other (by omega) _, h.m.other (by omega) _, h.n.set _⟩

set_option maxRecDepth 100000 in
set_option maxHeartbeats 4000000 in
theorem holding_in (n : Nat) (h4 : 4 ≤ n) (a4 : Option Addr) (n4 c4 : Nat) (l : List Wi) (m : ByteArray) (gi : Nat) (lb : Array Value) (L : List Ft) (n₀ : Nat) (w : World)
    (hl : GS wisE w (.slice a4 n4 c4) l) (eg : ∀ args w, (callFunc gi args).run Tryd.prog w = .ok (.enter gi args) w) (hit : ItF Tryd.prog gi lb FtV n₀ L w) (hn₀ : n₀ ≤ w.heap.size) :
    CallsIn Fence.wide n Tryd.prog 68 #[.slice a4 n4 c4, .string m, .func (.func gi) #[] lb] w fun e W' => e = .returned (.int .i64 (hwN l m L)) ∧ Below w.heap.size w W' := by
  have h1 : 1 ≤ n := by omega
  have h2 : 1 ≤ n - 1 - 1 := by omega
  obtain ⟨_, _, _, e5, hGn, hGm, hGc, hGa⟩ := hl.form
  cases e5
  have HLW : Hid (∀ W, Below w.heap.size w W → GS wisE W (.slice a4 n4 c4) l) := fun W hb => hl.later hb
  have HGN : Hid (l.length = n4) := hGn
  have HCAP : Hid (n4 ≤ c4) := hGc
  refine callsIn_of_wp_marks Tryd.func68 rfl trivial ?_ rfl
  simp only [Tryd.ntmps68, List.size_toArray, List.length_cons, List.length_nil, Nat.reduceAdd, Nat.reduceSub, Array.replicate_succ, Array.replicate_zero, List.push_toArray, List.append_toArray, List.nil_append, List.cons_append]
  clear hGa hGm hGc hGn hl
  gi_wp2
  have bL := Boxed.new w 61 (.slice a4 n4 c4)
  have bM := Boxed.new (w.alloc (.cells #[.slice a4 n4 c4] 61)) 9 (.string m)
  have bN := Boxed.new ((w.alloc (.cells #[.slice a4 n4 c4] 61)).alloc (.cells #[.string m] 9)) 3 (.int .i64 n4)
  simp only [World.size_alloc] at bM bN
  have hB0 : Below w.heap.size w (((w.alloc (.cells #[.slice a4 n4 c4] 61)).alloc (.cells #[.string m] 9)).alloc (.cells #[.int .i64 n4] 3)) := (((Below.refl _ w).alloc (Nat.le_refl _) _).alloc (by simp) _).alloc (by simp; omega) _
  have hH0 : HB w (((w.alloc (.cells #[.slice a4 n4 c4] 61)).alloc (.cells #[.string m] 9)).alloc (.cells #[.int .i64 n4] 3)) (.slice a4 n4 c4) m (hwTo l m L 0) := ⟨hB0, (bL.alloc _).alloc _, bM.alloc _, by rw [show hwTo l m L 0 = n4 from HGN.out]; exact bN⟩
  have hsz : (((w.alloc (.cells #[.slice a4 n4 c4] 61)).alloc (.cells #[.string m] 9)).alloc (.cells #[.int .i64 n4] 3)).heap.size = w.heap.size + 3 := by simp
  obtain ⟨W0, hW0⟩ : ∃ W0, ((w.alloc (.cells #[.slice a4 n4 c4] 61)).alloc (.cells #[.string m] 9)).alloc (.cells #[.int .i64 n4] 3) = W0 := ⟨_, rfl⟩
  rw [hW0] at hB0 hH0 hsz ⊢
  clear hW0 bL bM bN
  refine wpIn_rangeFunc_it h1 (gf := gi) (lb := lb) rfl eg (Vl := FtV) (n₀ := n₀) (L := L) (w0 := w) hit (hB0.mono hn₀) (by omega) (fun A args x hx => by obtain ⟨_, _, _, rfl, _⟩ := hx; rfl)
    (fun k X W => HB w W (.slice a4 n4 c4) m (hwTo l m L k) ∧ ∀ b, ¬ X b) (fun c W => c = .exit 0 ∧ HB w W (.slice a4 n4 c4) m (hwN l m L))
    (fun k X A h b hx => absurd hx (h.2 b))
    (fun k X A A' h hk => ⟨h.1.kb hk (fun b hb => .inl (by omega)), h.2⟩)
    (fun c A A' h hk => ⟨h.1, h.2.kb hk (fun b hb => .inl (by omega))⟩)
    ⟨hH0, fun b h => h⟩ ?round ?done ?stop
  case round =>
    rintro l' k X Y x args W hl' hBW ⟨hI, hX⟩ hLk ⟨ao, nn, cap, rfl, hG⟩ hY hnl
    obtain ⟨xa, xb, xl⟩ := x
    rw [hsz] at hl' hBW
    have hwN2 : hwTo l m L (k + 1) = hwS l m (xa, xb, xl) (hwTo l m L k) := by
      rw [hwTo]
      congr 1
      simp [List.getD, hLk]
    have hkL : k < L.length := by
      obtain ⟨h, _⟩ := List.getElem?_eq_some_iff.1 hLk
      exact h
    obtain ⟨N, hN⟩ : ∃ N, N = hwTo l m L k := ⟨_, rfl⟩
    have hNle : N ≤ n4 := by
      rw [hN, ← HGN.out]
      exact hwTo_le L k
    rw [← hN] at hI hwN2
    have HNK : Hid (hwTo l m L k = N) := hN.symm
    have HN2 : Hid (hwTo l m L (k + 1) = hwS l m (xa, xb, xl) N) := hwN2
    clear hN hwN2
    have hcap := HCAP.out
    dsimp only at hG
    gi_wp2
    refine ⟨(Kb.refl _ _).alloc _, fun W2 hk2 => ?_⟩
    have hBA : Below W.heap.size W (W.alloc (Obj.cells #[.int .i64 xa, .string xb, .slice ao nn cap] 40)) := (Below.refl _ _).alloc (Nat.le_refl _) _
    have hfb := fabox_new W xa xb (.slice ao nn cap) 40
    have hnl2 : ∀ q u, (W.alloc (Obj.cells #[.int .i64 xa, .string xb, .slice ao nn cap] 40)).cell? q = some u → q.block ≠ l' := by
      intro q u hq e
      have hlt : q.block < W.heap.size := by rw [e, hl']; omega
      have h := (hBA.cell (p := q) hlt).symm.trans hq
      rw [hnl q e] at h
      cases h
    have hG2 := (hG.later hBA).kb hk2 hnl2
    have hf2 : FaBox W2 W.heap.size xa xb (.slice ao nn cap) := ⟨hk2.at hfb.1 (hnl2 _ _ hfb.1), hk2.at hfb.2.1 (hnl2 _ _ hfb.2.1), hk2.at hfb.2.2 (hnl2 _ _ hfb.2.2)⟩
    have hI2 : HB w W2 (.slice a4 n4 c4) m N := (hI.kb (Kb.of_below hBA (fun b hb _ => hb) : Kb (fun _ => True) _ _) (fun _ _ => trivial)).kb hk2 (fun b hb => by omega)
    have HI2 : Hid (HB w W2 (.slice a4 n4 c4) m N) := hI2
    have HGT : Hid (GS wisE W2 (.slice a4 N c4) (l.take N)) := (HLW.out W2 hI2.below).take hNle
    obtain ⟨_, _, _, e6, hTn, hTm, _, hTa⟩ := HGT.out.form
    cases e6
    have HASK : Hid (wi2Asks W2 89 (.pointer (some ⟨w.heap.size + 1, 0, none⟩)) (.pointer (some ⟨W.heap.size, 0, none⟩)) (fun u => !fiB u m (xa, xb, xl))) := fun y0 y1 y2 y3 W3 hb3 => holding1_any xa xb ao nn cap xl _ _ y0 y1 y2 y3 m W3 (hG2.later hb3) (cell_later hb3 hI2.m.cell) (hf2.later hb3)
    obtain ⟨z, hz⟩ : ∃ z, z = ixG (fun u => !fiB u m (xa, xb, xl)) (l.take N) := ⟨_, rfl⟩
    have HZ : Hid (ixG (fun u => !fiB u m (xa, xb, xl)) (l.take N) = z) := hz.symm
    have HTN : Hid ((l.take N).length = N) := hTn
    have HTM : Hid (N ≤ maxLen) := hTm
    have HTA : Hid (0 < N → ∃ g o, a4 = some ⟨g, o, none⟩ ∧ GAt wisE W2 g o (l.take N) ∧ c4 ≤ maxLen) := hTa
    have hlc := hI2.l.cell
    have hmc := hI2.m.cell
    have hnc := hI2.n.cell
    have nb0 : (0 : Int) ≤ (N : Int) := by omega
    have nb1 : (N : Int) ≤ (c4 : Int) := by omega
    have nb2 : (N : Int) ≤ (n4 : Int) := by omega
    clear hz hTn hTm hTa hG2 hf2 hI2 hfb hnl2 hI hG hk2 hX
    gi_wp2_with fail
    refine ⟨trivial, (CallsIn.inRound _ (callsIn_wide.2 (wi2_idxF a4 N c4 _ _ _ (fun u => !fiB u m (xa, xb, xl)) (l.take N) _ HTN.out HTM.out HTA.out (enters_of Tryd.func89 (by kernel_rfl) rfl) HASK.out))).mono ?_⟩
    rintro e W3 ⟨rfl, hb3⟩
    rw [HZ.out]
    have hI3 : HB w W3 (.slice a4 n4 c4) m N := HI2.out.kb (Kb.of_below hb3 (fun b hb _ => hb) : Kb (fun _ => True) _ _) (fun _ _ => trivial)
    have HI3 : Hid (HB w W3 (.slice a4 n4 c4) m N) := hI3
    have HK3 : Hid (Kb (fun b => b < n₀ ∨ b = W0.heap.size ∨ b = l' ∨ Y b) W2 W3) := Kb.of_below hb3 (fun b hb _ => hb)
    have hlc := hI3.l.cell
    have hmc := hI3.m.cell
    have hnc := hI3.n.cell
    have hnf := hI3.n.frozen
    have HNP : Hid (¬ (w.heap.size + 1 + 1 < n₀ ∨ w.heap.size + 1 + 1 = W0.heap.size ∨ w.heap.size + 1 + 1 = l' ∨ Y (w.heap.size + 1 + 1))) := by
      rintro (h | h | h | h)
      · omega
      · omega
      · omega
      · have := (hY _ h).1
        omega
    have HXN : Hid (∀ I : Prop, I → ∃ X' : Nat → Prop, (I ∧ ∀ b, ¬ X' b) ∧ ∀ b, X' b → X b ∨ W.heap.size ≤ b) := fun I h => ⟨fun _ => False, ⟨h, fun _ h => h⟩, fun _ h => h.elim⟩
    clear hb3 hI3
    by_cases hz0 : 0 ≤ z
    · obtain ⟨z', rfl⟩ : ∃ z' : Nat, z = (z' : Int) := ⟨z.toNat, by omega⟩
      have HS : Hid (hwTo l m L (k + 1) = z') := by
        show _ = _
        rw [HN2.out, hwS, HZ.out, if_neg (by omega)]
        simp
      clear hz0
      by_cases h0 : z' = 0
      · subst h0
        have HL0 : Hid (hwN l m L = 0) := hwTo_zero HS.out (by omega)
        gi_wp2
        exact ⟨HK3.out.setCell (fun _ => HNP.out) _, rfl, by rw [HL0.out]; exact HI3.out.put 0⟩
      · have e0 : ((z' : Int) == 0) = false := by simp; omega
        clear h0
        gi_wp2
        exact ⟨HK3.out.setCell (fun _ => HNP.out) _, HXN.out _ (by rw [HS.out]; exact HI3.out.put z')⟩
    · have HS : Hid (hwTo l m L (k + 1) = N) := by
        show _ = _
        rw [HN2.out, hwS, HZ.out, if_pos (by omega)]
      have ez : decide (0 ≤ z) = false := by simpa using hz0
      by_cases h0 : N = 0
      · subst h0
        have HL0 : Hid (hwN l m L = 0) := hwTo_zero HS.out (by omega)
        gi_wp2
        exact ⟨HK3.out, rfl, by rw [HL0.out]; exact HI3.out⟩
      · have e0 : ((N : Int) == 0) = false := by simp; omega
        clear h0
        gi_wp2
        exact ⟨HK3.out, HXN.out _ (by rw [HS.out]; exact HI3.out)⟩
  case done =>
    rintro X W ⟨hI, _⟩ hK
    have hc := hI.n.cell
    have HBW : Hid (Below w.heap.size w W) := hI.below
    clear hI
    gi_wp2
    refine ⟨by simp, .inl ⟨_, _, rfl, run_takeDeferred hK, ?_⟩⟩
    exact ⟨_, results_tmp rfl _ _ _, rfl, HBW.out.trans (belowK_b (w := w) (Nat.le_refl _) W _ _ _ (by omega) hK rfl rfl)⟩
  case stop =>
    rintro c W ⟨rfl, hI⟩ hK
    have hc := hI.n.cell
    have HBW : Hid (Below w.heap.size w W) := hI.below
    clear hI
    gi_wp2
    refine ⟨by simp, .inl ⟨_, _, rfl, run_takeDeferred hK, ?_⟩⟩
    exact ⟨_, results_tmp rfl _ _ _, rfl, HBW.out.trans (belowK_b (w := w) (Nat.le_refl _) W _ _ _ (by omega) hK rfl rfl)⟩
theorem holding_any (a4 : Option Addr) (n4 c4 : Nat) (l : List Wi) (m : ByteArray) (gi : Nat) (lb : Array Value) (L : List Ft) (n₀ : Nat) (w : World)
    (hl : GS wisE w (.slice a4 n4 c4) l) (eg : ∀ args w, (callFunc gi args).run Tryd.prog w = .ok (.enter gi args) w) (hit : ItF Tryd.prog gi lb FtV n₀ L w) (hn₀ : n₀ ≤ w.heap.size) :
    Calls Tryd.prog 68 #[.slice a4 n4 c4, .string m, .func (.func gi) #[] lb] w fun e W' => e = .returned (.int .i64 (hwN l m L)) ∧ Below w.heap.size w W' :=
  (callsIn_wide (n := 4)).1 (holding_in 4 (by omega) a4 n4 c4 l m gi lb L n₀ w hl eg hit hn₀)
end Go.Proofs.YtpmcjelihdlfeaaDoor
/- What package slices answers at slices of api.Wish. Written by mk/slices.py. -/
namespace Go.Proofs.YtpmcjelihdlfeaaDoor
open Go.RowKit
set_option linter.unusedSimpArgs false
set_option linter.unusedVariables false

/-- A closure that asks something, in whatever world behind this one. -/
def wisAsks (w : World) (f : FuncId) (c : Value) (P : Wi → Bool) : Prop :=
  ∀ (x0 : Int) (x1 : ByteArray) (x2 : ByteArray) (x3 : Int) (W : World), Below w.heap.size w W → Calls Tryd.prog f #[.agg #[.int .i64 x0, .string x1, .string x2, .int .i64 x3], c] W fun e w' => e = .returned (.bool (P ⟨x0, x1, x2, x3⟩)) ∧ Below W.heap.size W w'
theorem wisAsks.later {w w' : World} {f : FuncId} {c : Value} {P : Wi → Bool} (h : wisAsks w f c P) (hb : Below w.heap.size w w') : wisAsks w' f c P :=
  fun x0 x1 x2 x3 W hW => h x0 x1 x2 x3 W (hb.trans (hW.mono hb.size))

set_option maxHeartbeats 1000000 in
theorem wis_idxF (ao : Option Addr) (n cap : Nat) (f : FuncId) (c : Value) (P : Wi → Bool) (L : List (Wi)) (w : World) (hn : L.length = n) (hn2 : n ≤ maxLen) (ha : 0 < n → ∃ g o, ao = some ⟨g, o, none⟩ ∧ GAt wisE w g o L ∧ cap ≤ maxLen) (he : ∀ args w, (callFunc f args).run Tryd.prog w = .ok (.enter f args) w) (hf : wisAsks w f c P) :
    Calls Tryd.prog 88 #[.slice ao n cap, .func (Fn.func f) #[] #[c]] w fun e w' => e = .returned (.int .i64 (ixG P L)) ∧ Below w.heap.size w w' := by
  have HN : Hid (L.length = n) := hn
  have HF : Hid (wisAsks w f c P) := hf
  have HA : Hid (0 < n → ∃ g o, ao = some ⟨g, o, none⟩ ∧ GAt wisE w g o L ∧ cap ≤ maxLen) := ha
  unfold maxLen at hn2
  clear hn hf ha
  go_enter Tryd.func88, Tryd.ntmps88
  go_wp2
  go_loopw [8] (fun i wr => ∃ k : Nat, k ≤ n ∧ i = .int .i64 k ∧ (L.take k).any P = false ∧ Below w.heap.size w wr)
    (fun i _ => n - (intOf i).toNat)
  case atStart => exact ⟨0, by omega, rfl, by simp, Below.refl _ _⟩
  case round =>
    obtain ⟨k, hk, rfl, hno, hB⟩ := hrel
    have HB : Hid (Below w.heap.size w wr) := hB
    have HNO : Hid ((L.take k).any P = false) := hno
    clear hno
    by_cases hlt : k < n
    · obtain ⟨g, o, hao, hc, _⟩ := HA.out (by omega)
      subst hao
      obtain ⟨x0, x1, x2, x3, hkl, hL, q0, q1, q2, q3⟩ := wis_at (hc.later hB) HN.out hlt
      have HL : Hid (L[k] = ⟨x0, x1, x2, x3⟩) := hL
      clear hL hB
      cases ho : P ⟨x0, x1, x2, x3⟩
      · go_wp2_with fail
        refine (HF.out x0 x1 x2 x3 _ HB.out).mono ?_
        rintro e w1 ⟨rfl, hb1⟩
        rw [ho]
        have HB1 := HB.out.trans (hb1.mono HB.out.size)
        clear hb1
        go_wp2
        go_roundw
        case rel => exact ⟨k + 1, by omega, by go_num, any_nextG hkl HNO.out (by rw [HL.out]; exact ho), HB1⟩
        case measure => simp [intOf]; omega
      · go_wp2_with fail
        refine (HF.out x0 x1 x2 x3 _ HB.out).mono ?_
        rintro e w1 ⟨rfl, hb1⟩
        rw [ho]
        go_wp2
        go_ret
        exact ⟨by rw [ixG_hit hkl HNO.out (by rw [HL.out]; exact ho)]; rfl, HB.out.trans (hb1.mono HB.out.size)⟩
    · obtain rfl : k = n := by omega
      go_wp2
      go_ret
      exact ⟨by have := HNO.out; rw [← HN.out, List.take_length] at this; rw [ixG_no this]; rfl, HB.out⟩

set_option maxHeartbeats 1000000 in
theorem wis_hasF (ao : Option Addr) (n cap : Nat) (f : FuncId) (c : Value) (P : Wi → Bool) (L : List (Wi)) (w : World) (hn : L.length = n) (hn2 : n ≤ maxLen) (ha : 0 < n → ∃ g o, ao = some ⟨g, o, none⟩ ∧ GAt wisE w g o L ∧ cap ≤ maxLen) (he : ∀ args w, (callFunc f args).run Tryd.prog w = .ok (.enter f args) w) (hf : wisAsks w f c P) :
    Calls Tryd.prog 66 #[.slice ao n cap, .func (Fn.func f) #[] #[c]] w fun e w' => e = .returned (.bool (L.any P)) ∧ Below w.heap.size w w' := by
  rw [← ixG_any]
  obtain ⟨x, hx⟩ : ∃ x, x = ixG P L := ⟨_, rfl⟩
  have HX : Hid (x = ixG P L) := hx
  rw [← hx]
  clear hx
  go_enter Tryd.func66, Tryd.ntmps66
  go_wp2_with fail
  refine (wis_idxF ao n cap f c P L _ hn hn2 ha he hf).mono ?_
  rintro e w1 ⟨rfl, hb1⟩
  rw [← HX.out]
  go_wp2
  go_ret
  exact ⟨rfl, hb1⟩

end Go.Proofs.YtpmcjelihdlfeaaDoor
/- What each function of package cube answers, called with any cubes: contracts for the walks above them. -/
namespace Go.Proofs.YtpmcjelihdlfeaaDoor
open Go.RowKit
set_option linter.unusedSimpArgs false

theorem bcell {W w1 : World} (hb : Below W.heap.size W w1) : (∀ b o, b < W.heap.size → w1.cell? ⟨b, o, none⟩ = W.cell? ⟨b, o, none⟩) ∧ (∀ b o, b < W.heap.size → w1.frozen? ⟨b, o, none⟩ = W.frozen? ⟨b, o, none⟩) :=
  ⟨fun b o h => hb.cell (p := ⟨b, o, none⟩) h, fun b o h => hb.frozen (p := ⟨b, o, none⟩) h⟩

/-- What a call left alone below B: cells and marks. -/
theorem bcellB {B : Nat} {W w1 : World} (hb : Below B W w1) : (∀ b o, b < B → w1.cell? ⟨b, o, none⟩ = W.cell? ⟨b, o, none⟩) ∧ (∀ b o, b < B → w1.frozen? ⟨b, o, none⟩ = W.frozen? ⟨b, o, none⟩) :=
  ⟨fun b o h => hb.cell (p := ⟨b, o, none⟩) h, fun b o h => hb.frozen (p := ⟨b, o, none⟩) h⟩

set_option maxHeartbeats 400000 in
theorem isHeader_yes (n : Int) (w : World) (h : hdrB n = true) :
    Calls Tryd.prog 36 #[.int .i64 n] w fun e w' => e = .returned (.bool true) ∧ w' = w := by
  obtain ⟨h1, h2⟩ := hdr_of h
  clear h
  go_enter Tryd.func36, Tryd.ntmps36
  go_wp2
  go_ret
  exact ⟨rfl, rfl⟩

set_option maxHeartbeats 400000 in
theorem isHeader_no (n : Int) (w : World) (h : hdrB n = false) :
    Calls Tryd.prog 36 #[.int .i64 n] w fun e w' => e = .returned (.bool false) ∧ w' = w := by
  rcases hdr_no h with h1 | h1
  · clear h
    go_enter Tryd.func36, Tryd.ntmps36
    go_wp2
    go_ret
    exact ⟨rfl, rfl⟩
  · have h2 : 0 ≤ n := by omega
    have h3 : decide (n < 16) = false := by simp; omega
    clear h
    go_enter Tryd.func36, Tryd.ntmps36
    go_wp2
    go_ret
    exact ⟨rfl, rfl⟩

set_option maxHeartbeats 400000 in
theorem check_range (m b : Int) (w : World) (h : rngB m b = false) :
    Calls Tryd.prog 76 #[.agg #[.int .i64 m, .int .i64 b]] w fun e w' => e = .returned (.iface 75 (.int .i64 1)) ∧ Below w.heap.size w w' := by
  by_cases hm : hdrB m = true
  · have hb : hdrB b = false := by simpa [rngB, hm] using h
    clear h
    go_enter Tryd.func76, Tryd.ntmps76
    go_wp2_with fail
    refine (isHeader_yes _ _ hm).mono ?_
    rintro e w' ⟨rfl, rfl⟩
    go_wp2_with fail
    refine (isHeader_no _ _ hb).mono ?_
    rintro e w' ⟨rfl, rfl⟩
    go_wp2
    go_ret
    exact ⟨rfl, (Below.refl _ _).alloc (Nat.le_refl _) _⟩
  · have hm' : hdrB m = false := by simpa using hm
    clear h hm
    go_enter Tryd.func76, Tryd.ntmps76
    go_wp2_with fail
    refine (isHeader_no _ _ hm').mono ?_
    rintro e w' ⟨rfl, rfl⟩
    go_wp2
    go_ret
    exact ⟨rfl, (Below.refl _ _).alloc (Nat.le_refl _) _⟩

set_option maxHeartbeats 400000 in
theorem check_shape (m b : Int) (w : World) (h : rngB m b = true) (h2 : okB m b = false) :
    Calls Tryd.prog 76 #[.agg #[.int .i64 m, .int .i64 b]] w fun e w' => e = .returned (.iface 75 (.int .i64 3)) ∧ Below w.heap.size w w' := by
  have hm : hdrB m = true := by simp only [rngB, Bool.and_eq_true] at h; exact h.1
  have hb : hdrB b = true := by simp only [rngB, Bool.and_eq_true] at h; exact h.2
  have hz : (bits .andNot .i64 b m == 0) = false := by simpa [okB, h] using h2
  clear h h2
  go_enter Tryd.func76, Tryd.ntmps76
  go_wp2_with fail
  refine (isHeader_yes _ _ hm).mono ?_
  rintro e w' ⟨rfl, rfl⟩
  go_wp2_with fail
  refine (isHeader_yes _ _ hb).mono ?_
  rintro e w' ⟨rfl, rfl⟩
  go_wp2
  go_ret
  exact ⟨rfl, (Below.refl _ _).alloc (Nat.le_refl _) _⟩

set_option maxHeartbeats 400000 in
theorem check_ok (m b : Int) (w : World) (h : okB m b = true) :
    Calls Tryd.prog 76 #[.agg #[.int .i64 m, .int .i64 b]] w fun e w' => e = .returned .nilIface ∧ Below w.heap.size w w' := by
  have hm : hdrB m = true := hdr_mk (ok_of h).1
  have hb : hdrB b = true := hdr_mk (ok_of h).2
  have hz : (bits .andNot .i64 b m == 0) = true := by simp only [okB, Bool.and_eq_true] at h; exact h.2
  clear h
  go_enter Tryd.func76, Tryd.ntmps76
  go_wp2_with fail
  refine (isHeader_yes _ _ hm).mono ?_
  rintro e w' ⟨rfl, rfl⟩
  go_wp2_with fail
  refine (isHeader_yes _ _ hb).mono ?_
  rintro e w' ⟨rfl, rfl⟩
  go_wp2
  go_ret
  exact ⟨rfl, (Below.refl _ _).alloc (Nat.le_refl _) _⟩

set_option maxHeartbeats 400000 in
theorem isRight_any (m b : Int) (w : World) :
    Calls Tryd.prog 95 #[.agg #[.int .i64 m, .int .i64 b]] w fun e w' => e = .returned (.bool (okB m b)) ∧ Below w.heap.size w w' := by
  cases hr : rngB m b
  · have ho : okB m b = false := by simp [okB, hr]
    rw [ho]
    clear ho
    go_enter Tryd.func95, Tryd.ntmps95
    go_wp2_with fail
    refine (check_range _ _ _ hr).mono ?_
    rintro e w' ⟨rfl, hb⟩
    go_wp2
    go_ret
    exact ⟨rfl, ((Below.refl _ _).alloc (Nat.le_refl _) _).trans (hb.mono (by simp))⟩
  · cases ho : okB m b
    · go_enter Tryd.func95, Tryd.ntmps95
      go_wp2_with fail
      refine (check_shape _ _ _ hr ho).mono ?_
      rintro e w' ⟨rfl, hb⟩
      go_wp2
      go_ret
      exact ⟨rfl, ((Below.refl _ _).alloc (Nat.le_refl _) _).trans (hb.mono (by simp))⟩
    · go_enter Tryd.func95, Tryd.ntmps95
      go_wp2_with fail
      refine (check_ok _ _ _ ho).mono ?_
      rintro e w' ⟨rfl, hb⟩
      go_wp2
      go_ret
      exact ⟨rfl, ((Below.refl _ _).alloc (Nat.le_refl _) _).trans (hb.mono (by simp))⟩

end Go.Proofs.YtpmcjelihdlfeaaDoor
/- What Has of package cube answers, called with any cube and number. -/
namespace Go.Proofs.YtpmcjelihdlfeaaDoor
open Go.RowKit
set_option linter.unusedSimpArgs false

theorem isHeader_any (n : Int) (w : World) :
    Calls Tryd.prog 36 #[.int .i64 n] w fun e w' => e = .returned (.bool (hdrB n)) ∧ w' = w := by
  cases h : hdrB n
  · exact isHeader_no n w h
  · exact isHeader_yes n w h

set_option maxHeartbeats 400000 in
theorem has_any (m b h : Int) (w : World) :
    Calls Tryd.prog 79 #[.agg #[.int .i64 m, .int .i64 b], .int .i64 h] w fun e w' => e = .returned (.bool (hasB m b h)) ∧ Below w.heap.size w w' := by
  cases ho : okB m b
  · have e : hasB m b h = false := by simp [hasB, ho]
    rw [e]; clear e
    go_enter Tryd.func79, Tryd.ntmps79
    go_wp2_with fail
    refine (isRight_any _ _ _).mono ?_
    rintro e w1 ⟨rfl, hb1⟩
    go_wp2
    go_ret
    exact ⟨rfl, ((Below.refl _ _).alloc (Nat.le_refl _) _).trans (hb1.mono (by simp))⟩
  · cases hh : hdrB h
    · have e : hasB m b h = false := by simp [hasB, hh]
      rw [e]; clear e
      go_enter Tryd.func79, Tryd.ntmps79
      go_wp2_with fail
      refine (isRight_any _ _ _).mono ?_
      rintro e w1 ⟨rfl, hb1⟩
      rw [ho]
      go_wp2_with fail
      refine (isHeader_any _ _).mono ?_
      rintro e w' ⟨rfl, rfl⟩
      go_wp2
      go_ret
      exact ⟨rfl, ((Below.refl _ _).alloc (Nat.le_refl _) _).trans (hb1.mono (by simp))⟩
    · have e : hasB m b h = (bits .and .i64 h m == b) := by simp [hasB, hh, ho]
      rw [e]; clear e
      go_enter Tryd.func79, Tryd.ntmps79
      go_wp2_with fail
      refine (isRight_any _ _ _).mono ?_
      rintro e w1 ⟨rfl, hb1⟩
      rw [ho]
      obtain ⟨hc1, hf1⟩ := bcell hb1
      go_wp2_with fail
      refine (isHeader_any _ _).mono ?_
      rintro e w' ⟨rfl, rfl⟩
      go_wp2
      go_ret
      exact ⟨rfl, ((Below.refl _ _).alloc (Nat.le_refl _) _).trans (hb1.mono (by simp))⟩
end Go.Proofs.YtpmcjelihdlfeaaDoor
/- What Check of package rule answers, called with any rule: contracts for the walks above them. -/
namespace Go.Proofs.YtpmcjelihdlfeaaDoor
open Go.RowKit
set_option linter.unusedSimpArgs false

/-- The cube's error by its number. -/
theorem check_no (m b : Int) (w : World) :
    Calls Tryd.prog 76 #[.agg #[.int .i64 m, .int .i64 b]] w fun e w' => e = .returned (noV (refN m b)) ∧ Below w.heap.size w w' := by
  cases hr : rngB m b
  · have e : noV (refN m b) = .iface 75 (.int .i64 1) := by rw [refN_range hr]; rfl
    rw [e]; exact check_range m b w hr
  · cases ho : okB m b
    · have e : noV (refN m b) = .iface 75 (.int .i64 3) := by rw [refN_shape ho hr]; rfl
      rw [e]; exact check_shape m b w hr ho
    · have e : noV (refN m b) = .nilIface := by rw [refN_ok ho]; rfl
      rw [e]; exact check_ok m b w ho

theorem below1 {w w1 : World} {o : Obj} (hb : Below (w.heap.size + 1) (w.alloc o) w1) : Below w.heap.size w w1 :=
  ((Below.refl _ _).alloc (Nat.le_refl _) o).trans (hb.mono (by omega))

set_option maxHeartbeats 1000000 in
theorem ruCheck_prio (p m b o s v : Int) (w : World) (h : ruP p o = false) :
    Calls Tryd.prog 51 #[.agg #[.int .i64 p, .int .i64 m, .int .i64 b, .int .i64 o, .int .i64 s, .int .i64 v]] w fun e w' => e = .returned (.iface 75 (.int .i64 1)) ∧ Below w.heap.size w w' := by
  have hc : p < 0 ∨ (0 ≤ p ∧ 99 < p) ∨ ((0 ≤ p ∧ p ≤ 99) ∧ o < 0) ∨ ((0 ≤ p ∧ p ≤ 99) ∧ (0 ≤ o ∧ 4 < o)) := by
    simp [ruP] at h
    omega
  clear h
  rcases hc with h1 | ⟨h1, h2⟩ | ⟨⟨h1, h2⟩, h3⟩ | ⟨⟨h1, h2⟩, h3, h4⟩
  · have e1 : decide (p < 0) = true := by simp; omega
    go_enter Tryd.func51, Tryd.ntmps51
    go_wp2
    go_ret
    exact ⟨rfl, (Below.refl _ _).alloc (Nat.le_refl _) _⟩
  · have e1 : decide (p < 0) = false := by simp; omega
    have e2 : decide (99 < p) = true := by simp; omega
    go_enter Tryd.func51, Tryd.ntmps51
    go_wp2
    go_ret
    exact ⟨rfl, (Below.refl _ _).alloc (Nat.le_refl _) _⟩
  · have e1 : decide (p < 0) = false := by simp; omega
    have e2 : decide (99 < p) = false := by simp; omega
    have e3 : decide (o < 0) = true := by simp; omega
    go_enter Tryd.func51, Tryd.ntmps51
    go_wp2
    go_ret
    exact ⟨rfl, (Below.refl _ _).alloc (Nat.le_refl _) _⟩
  · have e1 : decide (p < 0) = false := by simp; omega
    have e2 : decide (99 < p) = false := by simp; omega
    have e3 : decide (o < 0) = false := by simp; omega
    have e4 : decide (4 < o) = true := by simp; omega
    go_enter Tryd.func51, Tryd.ntmps51
    go_wp2
    go_ret
    exact ⟨rfl, (Below.refl _ _).alloc (Nat.le_refl _) _⟩

theorem ruP_of {p o : Int} (h : ruP p o = true) : decide (p < 0) = false ∧ decide (99 < p) = false ∧ decide (o < 0) = false ∧ decide (4 < o) = false := by
  simp only [ruP, Bool.and_eq_true, decide_eq_true_eq] at h
  refine ⟨?_, ?_, ?_, ?_⟩ <;> simp <;> omega

set_option maxHeartbeats 1000000 in
theorem ruCheck_set (p m b o s v : Int) (w : World) (h : ruP p o = true) (h2 : rngB s v = false) :
    Calls Tryd.prog 51 #[.agg #[.int .i64 p, .int .i64 m, .int .i64 b, .int .i64 o, .int .i64 s, .int .i64 v]] w fun e w' => e = .returned (.iface 75 (.int .i64 1)) ∧ Below w.heap.size w w' := by
  obtain ⟨e1, e2, e3, e4⟩ := ruP_of h
  clear h
  cases hs : hdrB s
  · clear h2
    go_enter Tryd.func51, Tryd.ntmps51
    go_wp2_with fail
    refine (isHeader_no _ _ hs).mono ?_
    rintro e w' ⟨rfl, rfl⟩
    go_wp2
    go_ret
    exact ⟨rfl, (Below.refl _ _).alloc (Nat.le_refl _) _⟩
  · have hv : hdrB v = false := by simpa [rngB, hs] using h2
    clear h2
    go_enter Tryd.func51, Tryd.ntmps51
    go_wp2_with fail
    refine (isHeader_yes _ _ hs).mono ?_
    rintro e w' ⟨rfl, rfl⟩
    go_wp2_with fail
    refine (isHeader_no _ _ hv).mono ?_
    rintro e w' ⟨rfl, rfl⟩
    go_wp2
    go_ret
    exact ⟨rfl, (Below.refl _ _).alloc (Nat.le_refl _) _⟩

set_option maxHeartbeats 1000000 in
theorem ruCheck_cube (p m b o s v : Int) (w : World) (h : ruP p o = true) (h2 : rngB s v = true) (h3 : okB m b = false) :
    Calls Tryd.prog 51 #[.agg #[.int .i64 p, .int .i64 m, .int .i64 b, .int .i64 o, .int .i64 s, .int .i64 v]] w fun e w' => e = .returned (.iface 75 (.int .i64 (refN m b))) ∧ Below w.heap.size w w' := by
  obtain ⟨e1, e2, e3, e4⟩ := ruP_of h
  have hs : hdrB s = true := by simp only [rngB, Bool.and_eq_true] at h2; exact h2.1
  have hv : hdrB v = true := by simp only [rngB, Bool.and_eq_true] at h2; exact h2.2
  have hn : refN m b ≠ 0 := by have := ok_refN m b; rw [h3] at this; simpa using this
  clear h h2 h3
  go_enter Tryd.func51, Tryd.ntmps51
  go_wp2_with fail
  refine (isHeader_yes _ _ hs).mono ?_
  rintro e w' ⟨rfl, rfl⟩
  go_wp2_with fail
  refine (isHeader_yes _ _ hv).mono ?_
  rintro e w' ⟨rfl, rfl⟩
  go_wp2_with fail
  refine (check_no _ _ _).mono ?_
  rintro e w1 ⟨rfl, hb1⟩
  rw [no_ne hn]
  go_wp2
  go_ret
  exact ⟨rfl, ((Below.refl _ _).alloc (Nat.le_refl _) _).trans (hb1.mono (by simp))⟩

set_option maxHeartbeats 1000000 in
theorem ruCheck_end (p m b o s v : Int) (w : World) (h : ruP p o = true) (h2 : rngB s v = true) (h3 : okB m b = true) :
    Calls Tryd.prog 51 #[.agg #[.int .i64 p, .int .i64 m, .int .i64 b, .int .i64 o, .int .i64 s, .int .i64 v]] w fun e w' => e = .returned (if ruSet o s v then .nilIface else .iface 75 (.int .i64 3)) ∧ Below w.heap.size w w' := by
  obtain ⟨e1, e2, e3, e4⟩ := ruP_of h
  have hs : hdrB s = true := by simp only [rngB, Bool.and_eq_true] at h2; exact h2.1
  have hv : hdrB v = true := by simp only [rngB, Bool.and_eq_true] at h2; exact h2.2
  have hn : refN m b = 0 := refN_ok h3
  have hlt : w.heap.size < (w.alloc (Obj.cells #[Value.int IntKind.i64 p, Value.int IntKind.i64 m, Value.int IntKind.i64 b, Value.int IntKind.i64 o, Value.int IntKind.i64 s, Value.int IntKind.i64 v] 47)).heap.size := by simp
  clear h h2 h3
  cases ha : (bits .andNot .i64 v s == 0)
  · have e : ruSet o s v = false := by simp [ruSet, ha]
    rw [e]; clear e
    simp only [Bool.false_eq_true, if_false]
    have ha2 : (bits .andNot .i64 v s != 0) = true := by simpa using ha
    go_enter Tryd.func51, Tryd.ntmps51
    go_wp2_with fail
    refine (isHeader_yes _ _ hs).mono ?_
    rintro e w' ⟨rfl, rfl⟩
    go_wp2_with fail
    refine (isHeader_yes _ _ hv).mono ?_
    rintro e w' ⟨rfl, rfl⟩
    go_wp2_with fail
    refine (check_no _ _ _).mono ?_
    rintro e w1 ⟨rfl, hb1⟩
    rw [no_ok hn]
    obtain ⟨hc1, hf1⟩ := bcell hb1
    have hB := ((Below.refl w.heap.size w).alloc (Nat.le_refl _) (Obj.cells #[Value.int IntKind.i64 p, Value.int IntKind.i64 m, Value.int IntKind.i64 b, Value.int IntKind.i64 o, Value.int IntKind.i64 s, Value.int IntKind.i64 v] 47)).trans (hb1.mono (by simp))
    clear hb1
    go_wp2
    go_ret
    exact ⟨rfl, hB⟩
  · cases ho : (o == 0)
    · have e : ruSet o s v = true := by simp [ruSet, ha, ho]
      rw [e]; clear e
      simp only [if_true]
      have ha2 : (bits .andNot .i64 v s != 0) = false := by simpa using ha
      go_enter Tryd.func51, Tryd.ntmps51
      go_wp2_with fail
      refine (isHeader_yes _ _ hs).mono ?_
      rintro e w' ⟨rfl, rfl⟩
      go_wp2_with fail
      refine (isHeader_yes _ _ hv).mono ?_
      rintro e w' ⟨rfl, rfl⟩
      go_wp2_with fail
      refine (check_no _ _ _).mono ?_
      rintro e w1 ⟨rfl, hb1⟩
      rw [no_ok hn]
      obtain ⟨hc1, hf1⟩ := bcell hb1
      have hB := ((Below.refl w.heap.size w).alloc (Nat.le_refl _) (Obj.cells #[Value.int IntKind.i64 p, Value.int IntKind.i64 m, Value.int IntKind.i64 b, Value.int IntKind.i64 o, Value.int IntKind.i64 s, Value.int IntKind.i64 v] 47)).trans (hb1.mono (by simp))
      clear hb1
      go_wp2
      go_ret
      exact ⟨rfl, hB⟩
    · cases hz : (s == 0)
      · have e : ruSet o s v = false := by simp [ruSet, ha, ho, hz]
        rw [e]; clear e
        simp only [Bool.false_eq_true, if_false]
        have ha2 : (bits .andNot .i64 v s != 0) = false := by simpa using ha
        go_enter Tryd.func51, Tryd.ntmps51
        go_wp2_with fail
        refine (isHeader_yes _ _ hs).mono ?_
        rintro e w' ⟨rfl, rfl⟩
        go_wp2_with fail
        refine (isHeader_yes _ _ hv).mono ?_
        rintro e w' ⟨rfl, rfl⟩
        go_wp2_with fail
        refine (check_no _ _ _).mono ?_
        rintro e w1 ⟨rfl, hb1⟩
        rw [no_ok hn]
        obtain ⟨hc1, hf1⟩ := bcell hb1
        have hB := ((Below.refl w.heap.size w).alloc (Nat.le_refl _) (Obj.cells #[Value.int IntKind.i64 p, Value.int IntKind.i64 m, Value.int IntKind.i64 b, Value.int IntKind.i64 o, Value.int IntKind.i64 s, Value.int IntKind.i64 v] 47)).trans (hb1.mono (by simp))
        clear hb1
        go_wp2
        go_ret
        exact ⟨rfl, hB⟩
      · have e : ruSet o s v = true := by simp [ruSet, ha, ho, hz]
        rw [e]; clear e
        simp only [if_true]
        have ha2 : (bits .andNot .i64 v s != 0) = false := by simpa using ha
        go_enter Tryd.func51, Tryd.ntmps51
        go_wp2_with fail
        refine (isHeader_yes _ _ hs).mono ?_
        rintro e w' ⟨rfl, rfl⟩
        go_wp2_with fail
        refine (isHeader_yes _ _ hv).mono ?_
        rintro e w' ⟨rfl, rfl⟩
        go_wp2_with fail
        refine (check_no _ _ _).mono ?_
        rintro e w1 ⟨rfl, hb1⟩
        rw [no_ok hn]
        obtain ⟨hc1, hf1⟩ := bcell hb1
        have hB := ((Below.refl w.heap.size w).alloc (Nat.le_refl _) (Obj.cells #[Value.int IntKind.i64 p, Value.int IntKind.i64 m, Value.int IntKind.i64 b, Value.int IntKind.i64 o, Value.int IntKind.i64 s, Value.int IntKind.i64 v] 47)).trans (hb1.mono (by simp))
        clear hb1
        go_wp2
        go_ret
        exact ⟨rfl, hB⟩

theorem ruCheck_any (p m b o s v : Int) (w : World) :
    Calls Tryd.prog 51 #[.agg #[.int .i64 p, .int .i64 m, .int .i64 b, .int .i64 o, .int .i64 s, .int .i64 v]] w fun e w' => e = .returned (noV (ruN p m b o s v)) ∧ Below w.heap.size w w' := by
  cases h1 : ruP p o
  · have e : noV (ruN p m b o s v) = .iface 75 (.int .i64 1) := by simp [ruN, ruIn, h1, noV]
    rw [e]; exact ruCheck_prio p m b o s v w h1
  · cases h2 : rngB s v
    · have e : noV (ruN p m b o s v) = .iface 75 (.int .i64 1) := by simp [ruN, ruIn, h2, noV]
      rw [e]; exact ruCheck_set p m b o s v w h1 h2
    · cases h3 : okB m b
      · have hn : refN m b ≠ 0 := by have := ok_refN m b; rw [h3] at this; simpa using this
        have e : noV (ruN p m b o s v) = .iface 75 (.int .i64 (refN m b)) := by simp [ruN, ruIn, h1, h2, h3, noV, hn]
        rw [e]; exact ruCheck_cube p m b o s v w h1 h2 h3
      · have e : noV (ruN p m b o s v) = (if ruSet o s v then .nilIface else .iface 75 (.int .i64 3)) := by
          cases h4 : ruSet o s v <;> simp [ruN, ruIn, h1, h2, h3, noV, h4]
        rw [e]; exact ruCheck_end p m b o s v w h1 h2 h3

end Go.Proofs.YtpmcjelihdlfeaaDoor
/- What Table of package rule answers, called with any table. -/
namespace Go.Proofs.YtpmcjelihdlfeaaDoor
open Go.RowKit
set_option linter.unusedSimpArgs false

/-- A rule lies at an address. -/
structure C6 (w : World) (g o : Nat) (r : Ru) : Prop where
  c0 : w.cell? ⟨g, o, none⟩ = some (.int .i64 r.p)
  c1 : w.cell? ⟨g, o + 1, none⟩ = some (.int .i64 r.m)
  c2 : w.cell? ⟨g, o + 2, none⟩ = some (.int .i64 r.b)
  c3 : w.cell? ⟨g, o + 3, none⟩ = some (.int .i64 r.o)
  c4 : w.cell? ⟨g, o + 4, none⟩ = some (.int .i64 r.s)
  c5 : w.cell? ⟨g, o + 5, none⟩ = some (.int .i64 r.v)
theorem C6.later {w w' : World} {g o : Nat} {r : Ru} (h : C6 w g o r) (hb : Below w.heap.size w w') : C6 w' g o r :=
  ⟨cell_later hb h.c0, cell_later hb h.c1, cell_later hb h.c2, cell_later hb h.c3, cell_later hb h.c4, cell_later hb h.c5⟩
theorem C6.new (w : World) (p m b o s v : Int) (t : TypeId) : C6 (w.alloc (Obj.cells #[Value.int IntKind.i64 p, Value.int IntKind.i64 m, Value.int IntKind.i64 b, Value.int IntKind.i64 o, Value.int IntKind.i64 s, Value.int IntKind.i64 v] t)) w.heap.size 0 ⟨p, m, b, o, s, v⟩ := by
  refine ⟨?_, ?_, ?_, ?_, ?_, ?_⟩ <;> simp
/-- These rules lie from an address on. -/
def RAt (w : World) (g o : Nat) (L : List Ru) : Prop := ∀ i (h : i < L.length), C6 w g (o + i * 6) L[i]
theorem RAt.later {w w' : World} {g o : Nat} {L : List Ru} (h : RAt w g o L) (hb : Below w.heap.size w w') : RAt w' g o L := fun i hi => (h i hi).later hb
theorem RAt.take {w : World} {g o : Nat} {L : List Ru} (h : RAt w g o L) (k : Nat) : RAt w g o (L.take k) := by
  intro i hi
  rw [List.getElem_take]
  exact h i (by simp at hi; omega)
/-- A value is a slice of these rules. -/
def SR (w : World) (v : Value) (L : List Ru) : Prop :=
  (∃ ao cap, v = .slice ao 0 cap ∧ L = []) ∨ ∃ g o cap, v = .slice (some ⟨g, o, none⟩) L.length cap ∧ L.length ≤ cap ∧ cap ≤ maxLen ∧ RAt w g o L
theorem SR.later {w w' : World} {v : Value} {L : List Ru} (h : SR w v L) (hb : Below w.heap.size w w') : SR w' v L := by
  rcases h with h | ⟨g, o, cap, h1, h2, h3, h4⟩
  · exact .inl h
  · exact .inr ⟨g, o, cap, h1, h2, h3, h4.later hb⟩
/-- The rule at a place, in letters. -/
theorem RAt.at {w : World} {g o : Nat} {L : List Ru} (h : RAt w g o L) {n k : Nat} (hn : L.length = n) (hk : k < n) :
    ∃ (p m b q s v : Int) (hl : k < L.length), L[k] = ⟨p, m, b, q, s, v⟩ ∧ (w.cell? ⟨g, o + k * 6, none⟩ = some (.int .i64 p) ∧ w.cell? ⟨g, o + k * 6 + 1, none⟩ = some (.int .i64 m) ∧ w.cell? ⟨g, o + k * 6 + 2, none⟩ = some (.int .i64 b) ∧
      w.cell? ⟨g, o + k * 6 + 3, none⟩ = some (.int .i64 q) ∧ w.cell? ⟨g, o + k * 6 + 4, none⟩ = some (.int .i64 s) ∧ w.cell? ⟨g, o + k * 6 + 5, none⟩ = some (.int .i64 v)) :=
  have hl : k < L.length := by omega
  have c := h k hl
  ⟨_, _, _, _, _, _, hl, rfl, c.c0, c.c1, c.c2, c.c3, c.c4, c.c5⟩

theorem key_ways (p m b o s v p' m' b' o' s' v' : Int) :
    ((p == p') = false ∧ keyB ⟨p, m, b, o, s, v⟩ ⟨p', m', b', o', s', v'⟩ = false) ∨ ((p == p') = true ∧ (m == m') = false ∧ keyB ⟨p, m, b, o, s, v⟩ ⟨p', m', b', o', s', v'⟩ = false) ∨
    ((p == p') = true ∧ (m == m') = true ∧ (b == b') = false ∧ keyB ⟨p, m, b, o, s, v⟩ ⟨p', m', b', o', s', v'⟩ = false) ∨ ((p == p') = true ∧ (m == m') = true ∧ (b == b') = true ∧ keyB ⟨p, m, b, o, s, v⟩ ⟨p', m', b', o', s', v'⟩ = true) := by
  rw [key_eq]
  by_cases h1 : p = p' <;> by_cases h2 : m = m' <;> by_cases h3 : b = b' <;> simp [h1, h2, h3]
set_option maxHeartbeats 1000000 in
theorem clash_any (p m b o s v p' m' b' o' s' v' : Int) (w : World) :
    Calls Tryd.prog 54 #[.agg #[.int .i64 p, .int .i64 m, .int .i64 b, .int .i64 o, .int .i64 s, .int .i64 v], .agg #[.int .i64 p', .int .i64 m', .int .i64 b', .int .i64 o', .int .i64 s', .int .i64 v']] w fun e w' => e = .returned (.bool (keyB ⟨p, m, b, o, s, v⟩ ⟨p', m', b', o', s', v'⟩)) ∧ Below w.heap.size w w' := by
  have HB : Hid (∀ o1 o2, Below w.heap.size w ((w.alloc o1).alloc o2)) := fun o1 o2 => ((Below.refl _ _).alloc (Nat.le_refl _) o1).alloc (by simp) o2
  rcases key_ways p m b o s v p' m' b' o' s' v' with ⟨e1, e⟩ | ⟨e1, e2, e⟩ | ⟨e1, e2, e3, e⟩ | ⟨e1, e2, e3, e⟩
  all_goals
    rw [e]
    clear e
    go_enter Tryd.func54, Tryd.ntmps54
    go_wp2
    go_ret
    exact ⟨rfl, HB.out _ _⟩

/-- A closure that asks something of a rule, in whatever world behind this one. -/
def Asks (w : World) (f : FuncId) (c : Value) (P : Ru → Bool) : Prop :=
  ∀ (p m b o s v : Int) (W : World), Below w.heap.size w W →
    Calls Tryd.prog f #[.agg #[.int .i64 p, .int .i64 m, .int .i64 b, .int .i64 o, .int .i64 s, .int .i64 v], c] W fun e w' => e = .returned (.bool (P ⟨p, m, b, o, s, v⟩)) ∧ Below W.heap.size W w'
theorem Asks.later {w w' : World} {f : FuncId} {c : Value} {P : Ru → Bool} (h : Asks w f c P) (hb : Below w.heap.size w w') : Asks w' f c P :=
  fun p m b o s v W hW => h p m b o s v W (hb.trans (hW.mono hb.size))

set_option maxHeartbeats 1000000 in
theorem table1_any (p m b o s v : Int) (r : Ru) (B : Nat) (w : World) (hc : C6 w B 0 r) :
    Calls Tryd.prog 53 #[.agg #[.int .i64 p, .int .i64 m, .int .i64 b, .int .i64 o, .int .i64 s, .int .i64 v], .pointer (some ⟨B, 0, none⟩)] w fun e w' => e = .returned (.bool (keyB ⟨p, m, b, o, s, v⟩ r)) ∧ Below w.heap.size w w' := by
  obtain ⟨p', m', b', o', s', v'⟩ := r
  obtain ⟨c0, c1, c2, c3, c4, c5⟩ := hc
  simp only [Nat.zero_add] at c0 c1 c2 c3 c4 c5
  have hlt : B < w.heap.size := World.block_lt_of_cell? _ _ c0
  go_enter Tryd.func53, Tryd.ntmps53
  go_wp2_with fail
  refine (clash_any _ _ _ _ _ _ _ _ _ _ _ _ _).mono ?_
  rintro e w1 ⟨rfl, hb1⟩
  go_wp2
  go_ret
  exact ⟨rfl, ((Below.refl _ _).alloc (Nat.le_refl _) _).trans (hb1.mono (by simp))⟩
theorem table1_asks (r : Ru) (B : Nat) (w : World) (hc : C6 w B 0 r) : Asks w 53 (.pointer (some ⟨B, 0, none⟩)) (fun a => keyB a r) :=
  fun p m b o s v W hW => table1_any p m b o s v r B W (hc.later hW)

theorem any_nextR {L : List Ru} {f : Ru → Bool} {k : Nat} (hk : k < L.length) (h : (L.take k).any f = false) (h2 : f L[k] = false) : (L.take (k + 1)).any f = false := by
  rw [List.take_succ_eq_append_getElem hk]
  simp only [List.any_append, h, List.any_cons, List.any_nil, h2, Bool.or_false]
theorem any_hitR {L : List Ru} {f : Ru → Bool} {k : Nat} (hk : k < L.length) (h2 : f L[k] = true) : L.any f = true := List.any_eq_true.2 ⟨_, List.getElem_mem hk, h2⟩
/-- The first place where something is so, or -1. -/
def ixP (f : Ru → Bool) (L : List Ru) : Int := if L.any f then (L.findIdx f : Int) else -1
theorem ixP_hit {L : List Ru} {f : Ru → Bool} {k : Nat} (hk : k < L.length) (h : (L.take k).any f = false) (h2 : f L[k] = true) : ixP f L = k := by
  rw [ixP, any_hitR hk h2, if_pos rfl]
  congr 1
  rw [List.findIdx_eq hk]
  refine ⟨h2, fun j hj => ?_⟩
  rw [List.any_eq_false] at h
  have := h L[j] (by rw [List.mem_take_iff_getElem]; exact ⟨j, by omega, rfl⟩)
  simpa using this
theorem ixP_no {L : List Ru} {f : Ru → Bool} (h : L.any f = false) : ixP f L = -1 := by simp [ixP, h]
theorem ixP_any (L : List Ru) (f : Ru → Bool) : decide (0 ≤ ixP f L) = L.any f := by
  unfold ixP
  cases L.any f
  · simp
  · simp
theorem SR.form {w : World} {v : Value} {L : List Ru} (h : SR w v L) : ∃ ao n cap, v = .slice ao n cap ∧ L.length = n ∧ n ≤ maxLen ∧ n ≤ cap ∧ (0 < n → ∃ g o, ao = some ⟨g, o, none⟩ ∧ RAt w g o L ∧ cap ≤ maxLen) := by
  rcases h with ⟨ao, cap, rfl, rfl⟩ | ⟨g, o, cap, rfl, h1, h2, h3⟩
  · exact ⟨ao, 0, cap, rfl, rfl, Nat.zero_le _, Nat.zero_le _, fun h => absurd h (by omega)⟩
  · exact ⟨_, _, cap, rfl, rfl, Nat.le_trans h1 h2, h1, fun _ => ⟨g, o, rfl, h3, h2⟩⟩

set_option maxHeartbeats 1000000 in
theorem idxF (ao : Option Addr) (n cap : Nat) (f : FuncId) (c : Value) (P : Ru → Bool) (L : List Ru) (w : World) (hn : L.length = n) (hn2 : n ≤ maxLen) (ha : 0 < n → ∃ g o, ao = some ⟨g, o, none⟩ ∧ RAt w g o L ∧ cap ≤ maxLen) (he : ∀ args w, (callFunc f args).run Tryd.prog w = .ok (.enter f args) w) (hf : Asks w f c P) :
    Calls Tryd.prog 77 #[.slice ao n cap, .func (Fn.func f) #[] #[c]] w fun e w' => e = .returned (.int .i64 (ixP P L)) ∧ Below w.heap.size w w' := by
  have HN : Hid (L.length = n) := hn
  have HF : Hid (Asks w f c P) := hf
  have HA : Hid (0 < n → ∃ g o, ao = some ⟨g, o, none⟩ ∧ RAt w g o L ∧ cap ≤ maxLen) := ha
  unfold maxLen at hn2
  clear hn hf ha
  go_enter Tryd.func77, Tryd.ntmps77
  go_wp2
  go_loopw [8] (fun i wr => ∃ k : Nat, k ≤ n ∧ i = .int .i64 k ∧ (L.take k).any P = false ∧ Below w.heap.size w wr)
    (fun i _ => n - (intOf i).toNat)
  case atStart => exact ⟨0, by omega, rfl, by simp, Below.refl _ _⟩
  case round =>
    obtain ⟨k, hk, rfl, hno, hB⟩ := hrel
    have HB : Hid (Below w.heap.size w wr) := hB
    have HNO : Hid ((L.take k).any P = false) := hno
    clear hno
    by_cases hlt : k < n
    · obtain ⟨g, o, hao, hc, _⟩ := HA.out (by omega)
      subst hao
      obtain ⟨p, m, b, q, s, v, hkl, hL, q0, q1, q2, q3, q4, q5⟩ := (hc.later hB).at HN.out hlt
      have HL : Hid (L[k] = ⟨p, m, b, q, s, v⟩) := hL
      clear hL hB
      cases ho : P ⟨p, m, b, q, s, v⟩
      · go_wp2_with fail
        refine (HF.out p m b q s v _ HB.out).mono ?_
        rintro e w1 ⟨rfl, hb1⟩
        rw [ho]
        have HB1 := HB.out.trans (hb1.mono HB.out.size)
        clear hb1
        go_wp2
        go_roundw
        case rel => exact ⟨k + 1, by omega, by go_num, any_nextR hkl HNO.out (by rw [HL.out]; exact ho), HB1⟩
        case measure => simp [intOf]; omega
      · go_wp2_with fail
        refine (HF.out p m b q s v _ HB.out).mono ?_
        rintro e w1 ⟨rfl, hb1⟩
        rw [ho]
        go_wp2
        go_ret
        exact ⟨by rw [ixP_hit hkl HNO.out (by rw [HL.out]; exact ho)]; rfl, HB.out.trans (hb1.mono HB.out.size)⟩
    · obtain rfl : k = n := by omega
      go_wp2
      go_ret
      exact ⟨by have := HNO.out; rw [← HN.out, List.take_length] at this; rw [ixP_no this]; rfl, HB.out⟩

set_option maxHeartbeats 1000000 in
theorem containsF (ao : Option Addr) (n cap : Nat) (f : FuncId) (c : Value) (P : Ru → Bool) (L : List Ru) (w : World) (hn : L.length = n) (hn2 : n ≤ maxLen) (ha : 0 < n → ∃ g o, ao = some ⟨g, o, none⟩ ∧ RAt w g o L ∧ cap ≤ maxLen) (he : ∀ args w, (callFunc f args).run Tryd.prog w = .ok (.enter f args) w) (hf : Asks w f c P) :
    Calls Tryd.prog 52 #[.slice ao n cap, .func (Fn.func f) #[] #[c]] w fun e w' => e = .returned (.bool (L.any P)) ∧ Below w.heap.size w w' := by
  rw [← ixP_any]
  obtain ⟨x, hx⟩ : ∃ x, x = ixP P L := ⟨_, rfl⟩
  have HX : Hid (x = ixP P L) := hx
  rw [← hx]
  clear hx
  go_enter Tryd.func52, Tryd.ntmps52
  go_wp2_with fail
  refine (idxF ao n cap f c P L _ hn hn2 ha he hf).mono ?_
  rintro e w1 ⟨rfl, hb1⟩
  rw [← HX.out]
  go_wp2
  go_ret
  exact ⟨rfl, hb1⟩
theorem containsR_any (g o cap n B : Nat) (r : Ru) (L : List Ru) (w : World) (hc : RAt w g o L) (hn : L.length = n) (hn2 : n ≤ maxLen) (hcap : cap ≤ maxLen) (hr : C6 w B 0 r) :
    Calls Tryd.prog 52 #[.slice (some ⟨g, o, none⟩) n cap, .func (Fn.func 53) #[] #[.pointer (some ⟨B, 0, none⟩)]] w fun e w' => e = .returned (.bool (L.any (fun a => keyB a r))) ∧ Below w.heap.size w w' :=
  containsF _ n cap _ _ _ L w hn hn2 (fun _ => ⟨g, o, rfl, hc, hcap⟩) (enters_of Tryd.func53 (by kernel_rfl) rfl) (table1_asks r B w hr)
end Go.Proofs.YtpmcjelihdlfeaaDoor
