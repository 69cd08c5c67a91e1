/- What topo.distances answers: a contract for the walks above it. -/
import Derived.Test.YtfbocionnjlilacDoorTopoNear
import Derived.Test.YtfbocionnjlilacDoorSpotKey
import Derived.Test.YtfbocionnjlilacDoorQueue
import Derived.Test.YtfbocionnjlilacDoorOwnInts
import Derived.Deep.RegionHeld3
namespace Go.Proofs.YtfbocionnjlilacDoor
open Go.RowKit
set_option linter.unusedSimpArgs false
set_option linter.unusedVariables false

/-- Numbers lie in a block. -/
def LAt (W : World) (ao : Option Addr) (gg : Nat) (L : List Int) : Prop := (0 < L.length → ao = some ⟨gg, 0, none⟩) ∧ ∀ j (h : j < L.length), W.cell? ⟨gg, j, none⟩ = some (.int .i64 L[j])
theorem LAt.kept {W W' : World} {ao : Option Addr} {gg : Nat} {L : List Int} (h : LAt W ao gg L) (hb : W'.heap[gg]? = W.heap[gg]?) : LAt W' ao gg L :=
  ⟨h.1, fun j hj => (World.cell?_of_block (w := W) (w' := W') (a := ⟨gg, j, none⟩) hb).trans (h.2 j hj)⟩
/-- What near answers, as numbers that lie in a block behind all that was there. -/
theorem near_at (S : Int) (ao : Option Addr) (n cap : Nat) (v2 : Value) (Ls : List ((Int × Int) × (Int × Int))) (a : Int) (w : World) (hL : GS lnkE w (.slice ao n cap) Ls) (h1 : 1 ≤ S) (h6 : S ≤ 6) (NL : List Int) (m : Nat) (hNL : nrL S Ls a = NL) (hm : NL.length = m) :
    Calls Tryd.prog 44 #[.agg #[.int .i64 S, .slice ao n cap, v2], .int .i64 a] w fun e w' => ∃ ao3 cap3 gg, e = .returned (.slice ao3 m cap3) ∧ w.heap.size ≤ gg ∧ LAt w' ao3 gg NL ∧ (gg < w'.heap.size ∨ m = 0) ∧ Below w.heap.size w w' := by
  refine (near_any S ao n cap v2 Ls a w hL h1 h6).mono ?_
  rintro e w' ⟨v, rfl, hown, hb⟩
  rw [hNL] at hown
  obtain ⟨ao3, cap3, rfl⟩ := own_form hown
  rcases hown.2 with ⟨e1, h0⟩ | ⟨g, cp, cur, e1, hg, hgl, _⟩
  · simp only [Value.slice.injEq] at e1
    obtain ⟨rfl, hlen, rfl⟩ := e1
    rw [← hm]
    exact ⟨none, 0, w.heap.size, rfl, Nat.le_refl _, ⟨fun h => by omega, fun j hj => by omega⟩, .inr hlen, hb⟩
  · simp only [Value.slice.injEq] at e1
    obtain ⟨rfl, _, rfl⟩ := e1
    rw [← hm]
    rcases own_ints hown with ⟨e2, h2⟩ | ⟨g2, cp2, e2, hc⟩
    · cases e2
    · simp only [Value.slice.injEq, Option.some.injEq, Addr.mk.injEq, and_true, true_and] at e2
      obtain ⟨rfl, rfl⟩ := e2
      exact ⟨_, _, g, rfl, hg, ⟨fun _ => rfl, hc⟩, .inl (Array.getElem?_eq_some_iff.1 hgl).1, hb⟩
/-- How many are in a map. -/
def mapN (W : World) (B : Nat) : Nat := match W.heap[B]? with
  | some (.map es _) => es.size
  | _ => 0
theorem map_of {W : World} {B : Nat} {D : List (Int × Int)} (h : MAt intKey veI W B D) : mapN W B = D.length := by
  obtain ⟨es, clock, h1, h2, _⟩ := h
  have := congrArg List.length h2
  simp only [List.length_map, Array.length_toList] at this
  simp [mapN, h1, this]
def sliN (v : Value) : Nat := match v with
  | .slice _ n _ => n
  | _ => 0
/-- A round's state: some have their number, some wait. -/
structure DRel (w w0 wr : World) (v : Value) (B g N A : Nat) (Ls : List ((Int × Int) × (Int × Int))) (D : List (Int × Int)) (W : List Int) : Prop where
  q : QAt wr (w.heap.size + 2) 3 v g W
  m : MAt intKey veI wr B D
  b : BI N (fun x y => joinB Ls x y) A D W
  below : Below (w.heap.size + 1) w0 wr
  z : 2 * (6 - D.length) + W.length ≤ 20
theorem DRel.len {w w0 wr : World} {v : Value} {B g N A : Nat} {Ls : List ((Int × Int) × (Int × Int))} {D : List (Int × Int)} {W : List Int} (h : DRel w w0 wr v B g N A Ls D W) : sliN v = W.length ∧ mapN wr B = D.length := by
  obtain ⟨o, cap, rfl, _⟩ := q_form h.q
  exact ⟨rfl, map_of h.m⟩

theorem keepD {wr W W' : World} {p1 p2 p3 p4 : Addr} {c1 c2 c3 c4 : Value} (hb : Below W.heap.size W W') (h : Below wr.heap.size wr W ∧ W.cell? p1 = some c1 ∧ W.cell? p2 = some c2 ∧ W.cell? p3 = some c3 ∧ W.cell? p4 = some c4) :
    Below wr.heap.size wr W' ∧ W'.cell? p1 = some c1 ∧ W'.cell? p2 = some c2 ∧ W'.cell? p3 = some c3 ∧ W'.cell? p4 = some c4 :=
  ⟨h.1.trans (hb.mono h.1.size), cell_later hb h.2.1, cell_later hb h.2.2.1, cell_later hb h.2.2.2.1, cell_later hb h.2.2.2.2⟩
/-- The state inside a round: so many of those that are near have been asked. -/
structure ERel (w w0 wr : World) (v : Value) (B g N A : Nat) (Ls : List ((Int × Int) × (Int × Int))) (D : List (Int × Int)) (x : Int) (W : List Int) (mx : Int) (NL : List Int) (ao3 : Option Addr) (gg k M0 : Nat) : Prop where
  d : DRel w w0 wr v B g N A Ls D (x :: W)
  x : mget qI x D = some mx
  t : ∀ y ∈ NL.take k, ∃ n, mget qI y D = some n ∧ n ≤ mx + 1
  l : LAt wr ao3 gg NL
  ne : g ≠ gg ∧ B ≠ gg
  lt : gg < wr.heap.size ∨ NL.length = 0
  m : 2 * (6 - D.length) + (W.length + 1) ≤ M0

/-- One that is near has its number. -/
theorem ERel.has {w w0 wr : World} {v : Value} {B g N A : Nat} {Ls : List ((Int × Int) × (Int × Int))} {D : List (Int × Int)} {x : Int} {W : List Int} {mx : Int} {NL : List Int} {ao3 : Option Addr} {gg k M0 : Nat}
    (h : ERel w w0 wr v B g N A Ls D x W mx NL ao3 gg k M0) (hk : k < NL.length) {ny : Int} (hy : mget qI NL[k] D = some ny) : ERel w w0 wr v B g N A Ls D x W mx NL ao3 gg (k + 1) M0 := by
  refine ⟨h.d, h.x, fun y hm => ?_, h.l, h.ne, h.lt, h.m⟩
  rw [List.take_succ_eq_append_getElem hk, List.mem_append, List.mem_singleton] at hm
  rcases hm with hm | rfl
  · exact h.t y hm
  · exact ⟨ny, hy, bi_has h.d.b h.x hy⟩
/-- One that is near has none yet: it is stored, and waits. -/
theorem ERel.new {w w0 wr w4 w5 : World} {v v' : Value} {B g g5 N A : Nat} {Ls : List ((Int × Int) × (Int × Int))} {D : List (Int × Int)} {x : Int} {W : List Int} {mx : Int} {NL : List Int} {ao3 : Option Addr} {gg k M0 : Nat} {o : Obj}
    (h : ERel w w0 wr v B g N A Ls D x W mx NL ao3 gg k M0) (h6 : N ≤ 6) (hBW : B = w.heap.size + 1) (hNL : nrL (N : Int) Ls x = NL) (hk : k < NL.length) {y : Int} (hyk : NL[k] = y) (hy : mget qI y D = none)
    (hM4 : MAt intKey veI w4 B (mput qI y (mx + 1) D)) (hg4 : wr.grownBy w4 (some B)) (hQ5 : QAt w5 (w.heap.size + 2) 3 v' g5 (x :: W ++ [y])) (hg5 : (w4.alloc o).grownBy w5 (some g)) (hg5e : g5 = g ∨ g5 = w4.heap.size + 1) :
    ERel w w0 w5 v' B g5 N A Ls (mput qI y (mx + 1) D) x (W ++ [y]) mx NL ao3 gg (k + 1) M0 := by
  have hgB := h.d.q.lt.1
  have hgl := h.d.q.lt.2
  have hBl := h.d.m.lt
  have hmem : y ∈ nrL (N : Int) Ls x := by rw [hNL, ← hyk]; exact List.getElem_mem hk
  obtain ⟨y1, y2, yj⟩ := nr_mem.1 hmem
  obtain ⟨x1, x2, mx0, _⟩ := h.d.b.rg x mx h.x
  have hJ : (fun (u v : Nat) => joinB Ls (u : Int) (v : Int)) x.toNat y.toNat = true := by
    show joinB Ls (x.toNat : Int) (y.toNat : Int) = true
    rw [Int.toNat_of_nonneg (by omega), Int.toNat_of_nonneg (by omega)]
    exact yj
  have hnew := bi_new h6 h.d.b h.x y1 y2 hJ hy
  have hggl : gg < wr.heap.size := by
    rcases h.lt with h | h
    · exact h
    · omega
  have s4 := hg4.size
  have s4a : (w4.alloc o).heap.size = w4.heap.size + 1 := by simp
  have s5 := hg5.size
  have k4 : ∀ j, j < wr.heap.size → j ≠ B → w4.heap[j]? = wr.heap[j]? := fun j hj hne => hg4.block j hj (fun e => hne (by cases e; rfl))
  have k4a : ∀ j, j < w4.heap.size → (w4.alloc o).heap[j]? = w4.heap[j]? := fun j hj => Below.heap_alloc w4 o j hj
  have k5 : ∀ j, j < (w4.alloc o).heap.size → j ≠ g → w5.heap[j]? = (w4.alloc o).heap[j]? := fun j hj hne => hg5.block j hj (fun e => hne (by cases e; rfl))
  have hBg : B ≠ g := by omega
  have hl := hnew.1.len
  have h2 := hnew.2.2.1
  have hz0 := h.d.z
  have hm0 := h.m
  simp only [List.length_cons] at hz0
  refine ⟨⟨hQ5, ?_, hnew.1, ?_, ?_⟩, hnew.2.1, fun z hz => ?_, ?_, ⟨?_, h.ne.2⟩, .inl (by omega), ?_⟩
  · obtain ⟨es, clock, e1, e2⟩ := hM4
    exact ⟨es, clock, (k5 B (by omega) hBg).trans ((k4a B (by omega)).trans e1), e2⟩
  · have hb4 : Below (w.heap.size + 1) w0 w4 := h.d.below.grown hg4 (by omega) (fun j e => by cases e; omega)
    exact (hb4.alloc (by omega) o).grown hg5 (by omega) (fun j e => by cases e; omega)
  · simp only [List.length_cons, List.length_append, List.length_nil]
    omega
  · rw [List.take_succ_eq_append_getElem hk, List.mem_append, List.mem_singleton, hyk] at hz
    rcases hz with hz | rfl
    · obtain ⟨nz, e1, e2⟩ := h.t z hz
      exact ⟨nz, hnew.2.2.2.1 z nz e1, e2⟩
    · exact ⟨mx + 1, hnew.2.2.2.2, Int.le_refl _⟩
  · exact ((h.l.kept (k4 gg hggl (Ne.symm h.ne.2))).kept (k4a gg (by omega))).kept (k5 gg (by omega) (Ne.symm h.ne.1))
  · rcases hg5e with rfl | rfl
    · exact h.ne.1
    · omega
  · simp only [List.length_append, List.length_cons, List.length_nil]
    omega
theorem ERel.pop {w w0 wr : World} {v v' : Value} {B g N A : Nat} {Ls : List ((Int × Int) × (Int × Int))} {D : List (Int × Int)} {x : Int} {W : List Int} {mx : Int} {NL : List Int} {ao3 : Option Addr} {gg M0 : Nat}
    (h : ERel w w0 wr v B g N A Ls D x W mx NL ao3 gg NL.length M0) (hNL : nrL (N : Int) Ls x = NL) (hq : QAt wr (w.heap.size + 2) 3 v' g W) : DRel w w0 wr v' B g N A Ls D W := by
  have hz0 := h.d.z
  simp only [List.length_cons] at hz0
  refine ⟨hq, h.d.m, bi_pop h.d.b h.x fun y h1 h2 hJ => ?_, h.d.below, by omega⟩
  obtain ⟨x1, x2, _⟩ := h.d.b.rg x mx h.x
  refine h.t y ?_
  rw [List.take_length, ← hNL]
  have hJ2 : joinB Ls (x.toNat : Int) (y.toNat : Int) = true := hJ
  rw [Int.toNat_of_nonneg (by omega), Int.toNat_of_nonneg (by omega)] at hJ2
  exact nr_mem.2 ⟨h1, h2, hJ2⟩

set_option maxHeartbeats 4000000 in
set_option maxRecDepth 100000 in
theorem dist_any (S : Int) (ao : Option Addr) (n cap : Nat) (v2 : Value) (Ls : List ((Int × Int) × (Int × Int))) (a : Int) (N A : Nat) (hN : S = (N : Int)) (hA : a = (A : Int)) (w : World) (hL : GS lnkE w (.slice ao n cap) Ls) (h1 : 1 ≤ N) (h6 : N ≤ 6) (a1 : 1 ≤ A) (a2 : A ≤ N) :
    Calls Tryd.prog 45 #[.agg #[.int .i64 S, .slice ao n cap, v2], .int .i64 a] w fun e w' => ∃ B D, e = .returned (.map (some B)) ∧ MAt intKey veI w' B D ∧ BI N (fun x y => joinB Ls x y) A D [] ∧ Below w.heap.size w w' := by
  subst hN hA
  obtain ⟨i0, hi, hz0, hz1, hz2⟩ := info_parts infoInt
  have HL : Hid (GS lnkE w (.slice ao n cap) Ls) := hL
  have hX := tbox_new w (N : Int) (.slice ao n cap) v2 25
  have hB0 : Below w.heap.size w (w.alloc (Obj.cells #[.int .i64 (N : Int), .slice ao n cap, v2] 25)) := (Below.refl _ _).alloc (Nat.le_refl _) _
  have hsz : (w.alloc (Obj.cells #[.int .i64 (N : Int), .slice ao n cap, v2] 25)).heap.size = w.heap.size + 1 := by simp
  obtain ⟨w0, hw0⟩ : ∃ x, w.alloc (Obj.cells #[.int .i64 (N : Int), .slice ao n cap, v2] 25) = x := ⟨_, rfl⟩
  rw [hw0] at hX hB0 hsz
  have HX : Hid (TBox w0 w.heap.size (N : Int) (.slice ao n cap) v2) := hX
  have HB0 : Hid (Below w.heap.size w w0) := hB0
  have HSZ : Hid (w0.heap.size = w.heap.size + 1) := hsz
  have HW0 : Hid (w.alloc (Obj.cells #[.int .i64 (N : Int), .slice ao n cap, v2] 25) = w0) := hw0
  -- the map, with its first entry
  have hmk := run_makeMap (P := Tryd.prog) 101 w0
  obtain ⟨w1, hup, hM1, hg1⟩ := run_update_M (mat_new intKey veI w0) 101 3 Tryd.underlying101 (A : Int) 0
  have hin : (Instr.mapUpdate 101 (.map (some w0.heap.size)) (.int .i64 (A : Int)) (.int .i64 0)).run Tryd.prog (w0.alloc (.map #[] 0)) = .ok () w1 := hup
  obtain ⟨B, hB⟩ : ∃ B, w0.heap.size = B := ⟨_, rfl⟩
  have hb1 : Below B w0 w1 := by
    rw [← hB]
    exact ((Below.refl _ _).alloc (Nat.le_refl _) _).grown hg1 (by simp) (fun k e => by cases e; exact Nat.le_refl _)
  have hs1 : B + 1 ≤ w1.heap.size := by
    have := hg1.size
    rw [← hB]
    simpa using this
  rw [hB] at hmk hM1 hin hg1
  have HM1 : Hid (MAt intKey veI w1 B [((A : Int), 0)]) := hM1
  have HBW : Hid (B = w.heap.size + 1) := by
    show _ = _
    rw [← hB, hsz]
  have HB1 : Hid (Below (w.heap.size + 1) w0 w1) := by
    show Below _ _ _
    rw [HBW.out] at hb1
    exact hb1
  have HS1 : Hid (w.heap.size + 2 ≤ w1.heap.size) := by
    show _ ≤ _
    rw [HBW.out] at hs1
    exact hs1
  have HQ1 : Hid (QAt (w1.alloc (Obj.cells #[.int .i64 (A : Int)] 3)) (w.heap.size + 2) 3 (.slice (some ⟨w1.heap.size, 0, none⟩) 1 1) w1.heap.size [(A : Int)]) := q_one w1 _ _ _ HS1.out
  clear hL hX hB0 hsz hup hM1 hg1 hb1 hs1
  rw [← hw0] at hmk hin
  have hBB : (w.alloc (Obj.cells #[.int .i64 (N : Int), .slice ao n cap, v2] 25)).heap.size = B := by rw [hw0, hB]
  clear hw0 hB
  go_enter Tryd.func45, Tryd.ntmps45
  go_wp2
  have hb2 : Below w1.heap.size w1 (w1.alloc (Obj.cells #[.int .i64 (A : Int)] 3)) := (Below.refl _ _).alloc (Nat.le_refl _) _
  have HD0 : Hid (DRel w w0 (w1.alloc (Obj.cells #[.int .i64 (A : Int)] 3)) (.slice (some ⟨w1.heap.size, 0, none⟩) 1 1) B w1.heap.size N A Ls [((A : Int), 0)] [(A : Int)]) :=
    ⟨HQ1.out, HM1.out.later hb2, bi_start a1 a2, HB1.out.trans (hb2.mono (by have := HS1.out; omega)), by simp⟩
  clear hb2 HQ1 HM1 HB1 HS1 hmk hin hBB HW0
  go_loopw [6] (fun v wr => ∃ g D W, DRel w w0 wr v B g N A Ls D W) (fun v wr => 2 * (6 - mapN wr B) + sliN v)
  case atStart => exact ⟨_, _, _, HD0.out⟩
  case round =>
    obtain ⟨g, D, W, hD⟩ := hrel
    have HD : Hid (DRel w w0 wr u6 B g N A Ls D W) := hD
    have HME : Hid (2 * (6 - mapN wr B) + sliN u6 = 2 * (6 - D.length) + W.length) := by
      show _ = _
      rw [hD.len.1, hD.len.2]
    obtain ⟨o, cap3, rfl, hcap, hcapm⟩ := q_form hD.q
    have hBw : Below w.heap.size w wr := HB0.out.trans (hD.below.mono (by omega))
    have HBw : Hid (Below w.heap.size w wr) := hBw
    have hXr : TBox wr w.heap.size (N : Int) (.slice ao n cap) v2 := by
      obtain ⟨c0, c1, c2⟩ := HX.out
      exact ⟨(hD.below.cell (p := ⟨w.heap.size, 0, none⟩) (by simp)).trans c0, (hD.below.cell (p := ⟨w.heap.size, 1, none⟩) (by simp)).trans c1, (hD.below.cell (p := ⟨w.heap.size, 2, none⟩) (by simp)).trans c2⟩
    obtain ⟨b0, b1, b2⟩ := hXr
    clear HD0
    cases W with
    | nil =>
      have hl : ([] : List Int).length = 0 := rfl
      rw [hl]
      clear hD hcap HME
      go_wp2
      go_ret
      exact ⟨B, D, rfl, HD.out.m, HD.out.b, HBw.out⟩
    | cons x W =>
      have q0 := q_cell hD.q 0 (by simp)
      simp only [Nat.add_zero, List.getElem_cons_zero] at q0
      obtain ⟨mx, hmx⟩ := hD.b.inD x (by simp)
      have HMX : Hid (mget qI x D = some mx) := hmx
      obtain ⟨x1, x2, mx0, mx7, _⟩ := hD.b.rg x mx hmx
      have hgl : g < wr.heap.size := hD.q.lt.2
      have hBl : B < wr.heap.size := hD.m.lt
      have hgB : w.heap.size + 2 ≤ g := hD.q.lt.1
      obtain ⟨NL, hNL⟩ : ∃ NL, nrL (N : Int) Ls x = NL := ⟨_, rfl⟩
      have HNL : Hid (nrL (N : Int) Ls x = NL) := hNL
      obtain ⟨m, hm⟩ : ∃ m, NL.length = m := ⟨_, rfl⟩
      have HMm : Hid (NL.length = m) := hm
      have hm6 : m ≤ 6 := by
        have := nr_len (N : Int) Ls x
        rw [hNL] at this
        omega
      obtain ⟨l, hl⟩ : ∃ l, (x :: W).length = l := ⟨_, rfl⟩
      have HLl : Hid ((x :: W).length = l) := hl
      have hl0 : 0 < l := by simp at hl; omega
      rw [hl] at hcap
      have hl0' : (0 : Int) < (l : Int) := by omega
      have HLw : Hid (∀ W', Below wr.heap.size wr W' → GS lnkE W' (.slice ao n cap) Ls) := fun W' hb => (HL.out.later hBw).later hb
      rw [hl]
      clear hmx hNL hm hD hBw hl
      go_upto_region 5 with fail
      go_region_held3 (fun w' => Below wr.heap.size wr w' ∧ w'.cell? ⟨w.heap.size, 0, none⟩ = some (.int .i64 (N : Int)) ∧ w'.cell? ⟨w.heap.size, 1, none⟩ = some (.slice ao n cap) ∧ w'.cell? ⟨w.heap.size, 2, none⟩ = some v2 ∧ w'.cell? ⟨g, o, none⟩ = some (.int .i64 x))
        (first | assumption | exact ⟨Below.drew (Below.refl _ _), b0, b1, b2, q0⟩ | exact keepD (by assumption) (by assumption) | exact keepD (by assumption) ⟨Below.drew (Below.refl _ _), b0, b1, b2, q0⟩)
        (first | (go_at_call 44; refine (near_at (N : Int) ao n cap v2 Ls x _ (HLw.out _ (Below.drew (Below.refl _ _))) (by omega) (by omega) NL m HNL.out HMm.out).mono ?_; rintro e w' ⟨ao3, cap4, gg, rfl, hgg, hLA, hgl2, hb⟩))
      have hBB := (‹Below wr.heap.size wr w' ∧ _›).1
      have HE0 : Hid (ERel w w0 w' (.slice (some ⟨g, o, none⟩) l cap3) B g N A Ls D x W mx NL ao3 gg 0 (2 * (6 - D.length) + (W.length + 1))) := by
        have hd := HD.out
        rw [HLl.out] at hd
        have hgg2 : wr.heap.size ≤ gg := hgg
        refine ⟨⟨hd.q.later hBB, hd.m.later hBB, hd.b, hd.below.trans (hBB.mono (by omega)), hd.z⟩, HMX.out, by simp, hLA, ⟨by omega, by omega⟩, ?_, Nat.le_refl _⟩
        rcases hgl2 with h | h
        · exact .inl h
        · exact .inr (by rw [HMm.out]; exact h)
      obtain ⟨w3, hw3⟩ : ∃ y, y = wr := ⟨_, rfl⟩
      subst hw3
      clear hgg hLA hgl2 hb hBB b0 b1 b2 q0 HLw
      go_wp2
      go_loopw [6, 27] (fun v i w2 => ∃ (k g2 : Nat) (D2 : List (Int × Int)) (W2 : List Int), k ≤ m ∧ i = .int .i64 k ∧ ERel w w0 w2 v B g2 N A Ls D2 x W2 mx NL ao3 gg k (2 * (6 - D.length) + (W.length + 1))) (fun _ i _ => m - (intOf i).toNat)
      case atStart => exact ⟨0, _, _, _, by omega, rfl, HE0.out⟩
      case round =>
        obtain ⟨k, g2, D2, W2, hk, rfl, hE⟩ := hrel
        have HE : Hid (ERel w w0 wr u6 B g2 N A Ls D2 x W2 mx NL ao3 gg k (2 * (6 - D.length) + (W.length + 1))) := hE
        obtain ⟨o2, cap5, rfl, hcap5, hcapm5⟩ := q_form hE.d.q
        have q0 := q_cell hE.d.q 0 (by simp)
        simp only [Nat.add_zero, List.getElem_cons_zero] at q0
        obtain ⟨l2, hl2⟩ : ∃ l2, (x :: W2).length = l2 := ⟨_, rfl⟩
        have HL2 : Hid ((x :: W2).length = l2) := hl2
        rw [hl2] at hcap5 HE ⊢
        have hl21 : 0 < l2 := by simp at hl2; omega
        have hl22 : l2 ≤ 1000 := by
          have h1 := hE.d.z
          rw [hl2] at h1
          omega
        have i0' : (0 : Int) < (l2 : Int) := by omega
        have i1' : (1 : Int) ≤ (l2 : Int) := by omega
        clear hl2 HE0
        by_cases hlt : k < m
        · have hkl : k < NL.length := by rw [HMm.out]; exact hlt
          have hao := hE.l.1 (by omega)
          subst hao
          have hc := hE.l.2 k hkl
          obtain ⟨y, hy⟩ : ∃ y, NL[k] = y := ⟨_, rfl⟩
          have HY : Hid (NL[k] = y) := hy
          rw [hy] at hc
          have hlk := run_lookup_M hE.d.m 101 3 Tryd.underlying101 (.int .i64 0) (fun w => by kernel_rfl) y true
          simp only [if_true] at hlk
          have hlx := run_lookup_M hE.d.m 101 3 Tryd.underlying101 (.int .i64 0) (fun w => by kernel_rfl) x false
          rw [show mget intKey.q x D2 = some mx from hE.x] at hlx
          have hlx2 : (Instr.lookup 101 (.map (some B)) (.int .i64 x) false).run Tryd.prog wr = .ok (.int .i64 mx) wr := hlx
          have kb0 : (0 : Int) ≤ (k : Int) := by omega
          have kb1 : (k : Int) < (m : Int) := by omega
          clear hy hlx
          cases hg : mget qI y D2 with
          | some ny =>
            rw [show mget intKey.q y D2 = some ny from hg] at hlk
            have hlk2 : (Instr.lookup 101 (.map (some B)) (.int .i64 y) true).run Tryd.prog wr = .ok (.tuple #[.int .i64 ny, .bool true]) wr := hlk
            have HE2 : Hid (ERel w w0 wr (.slice (some ⟨g2, o2, none⟩) l2 cap5) B g2 N A Ls D2 x W2 mx NL (some ⟨gg, 0, none⟩) gg (k + 1) (2 * (6 - D.length) + (W.length + 1))) := HE.out.has hkl (by rw [HY.out]; exact hg)
            clear hlk hg hE
            go_wp2
            go_roundw
            case rel => exact ⟨k + 1, g2, D2, W2, by omega, by go_num, HE2.out⟩
            case measure => simp [intOf]; omega
          | none =>
            rw [show mget intKey.q y D2 = none from hg] at hlk
            have hlk2 : (Instr.lookup 101 (.map (some B)) (.int .i64 y) true).run Tryd.prog wr = .ok (.tuple #[.int .i64 0, .bool false]) wr := hlk
            obtain ⟨w4, hup, hM4, hg4⟩ := run_update_M hE.d.m 101 3 Tryd.underlying101 y (mx + 1)
            have hup2 : (Instr.mapUpdate 101 (.map (some B)) (.int .i64 y) (.int .i64 (mx + 1))).run Tryd.prog wr = .ok () w4 := hup
            have hwx : IntKind.i64.wrap (mx + 1) = mx + 1 := wrap_small (by omega) (by omega)
            have hgB2 := hE.d.q.lt.1
            have HQ4 : Hid (QAt (w4.alloc (Obj.cells #[.int .i64 y] 3)) (w.heap.size + 2) 3 (.slice (some ⟨g2, o2, none⟩) l2 cap5) g2 (x :: W2)) := by
              have h := HE.out.d.q
              have h2 := h.kept (hg4.block g2 h.lt.2 (fun e => by have := HBW.out; cases e; omega))
              exact h2.later ((Below.refl _ _).alloc (Nat.le_refl _) _)
            have HM4 : Hid (MAt intKey veI w4 B (mput qI y (mx + 1) D2)) := hM4
            have HG4 : Hid (wr.grownBy w4 (some B)) := hg4
            have HGN : Hid (mget qI y D2 = none) := hg
            have HC4 : Hid ((w4.alloc (Obj.cells #[.int .i64 y] 3)).cell? ⟨w4.heap.size, 0, none⟩ = some (.int .i64 y)) := (vat_new w4 [.int .i64 y] 3) 0 _ rfl
            have HS4 : Hid (w.heap.size + 2 ≤ (w4.alloc (Obj.cells #[.int .i64 y] 3)).heap.size) := by
              have h := hE.d.q.lt
              have h2 := hg4.size
              show _ ≤ _
              simp
              omega
            clear hlk hg hE hup hM4 hg4
            go_wp2_with (at_builtin; refine wpList_append_q rfl _ _ 45 3 rfl Tryd.underlying45 i0 (.int .i64 0) hi hz0 hz1 hz2 rfl (w.heap.size + 2) _ rfl g2 (x :: W2) HQ4.out ⟨w4.heap.size, 0, none⟩ 1 rfl y HC4.out (by rw [HL2.out]; exact hl22) HS4.out ?_)
            intro v' w5 g5 hQ5 hg5 hg5e
            have HE5 : Hid (ERel w w0 w5 v' B g5 N A Ls (mput qI y (mx + 1) D2) x (W2 ++ [y]) mx NL (some ⟨gg, 0, none⟩) gg (k + 1) (2 * (6 - D.length) + (W.length + 1))) :=
              HE.out.new h6 HBW.out HNL.out hkl HY.out HGN.out HM4.out HG4.out hQ5 hg5 hg5e
            clear hQ5 hg5 hg5e HQ4 HC4 HS4
            go_wp2
            go_roundw
            case rel => exact ⟨k + 1, g5, _, _, by omega, by go_num, HE5.out⟩
            case measure => simp [intOf]; omega
        · obtain rfl : k = m := by omega
          have HP : Hid (∀ v', QAt wr (w.heap.size + 2) 3 v' g2 W2 → DRel w w0 wr v' B g2 N A Ls D2 W2) := fun v' hq => by
            have h := HE.out
            rw [← HMm.out] at h
            exact h.pop HNL.out hq
          have HQ : Hid (QAt wr (w.heap.size + 2) 3 (.slice (some ⟨g2, o2, none⟩) l2 cap5) g2 (x :: W2)) := HE.out.d.q
          have HM2 : Hid (2 * (6 - D2.length) + (W2.length + 1) ≤ 2 * (6 - D.length) + (W.length + 1)) := HE.out.m
          have HW2 : Hid (l2 - 1 = W2.length) := by
            have := HL2.out
            simp at this
            show _ = _
            omega
          have HME2 : Hid (2 * (6 - mapN w3 B) + sliN (.slice (some ⟨g, o, none⟩) l cap3) = 2 * (6 - D.length) + (W.length + 1)) := by
            have h := HME.out
            rw [HLl.out] at h
            show _ = _
            rw [h, ← HLl.out]
            rfl
          have c1' : (1 : Int) ≤ (cap5 : Int) := by omega
          clear hE
          by_cases hc1 : cap5 = 1
          · obtain ⟨hW0, hQ0⟩ := q_pop0 HQ.out hc1
            have HD2 := HP.out _ (by rw [hW0]; exact hQ0)
            have hl1 : l2 = 1 := by omega
            subst hl1 hc1
            clear hQ0 hW0
            go_wp2
            go_roundw
            case rel => exact ⟨g2, D2, W2, HD2⟩
            case measure =>
              rw [HME2.out, HD2.len.2, HD2.len.1]
              have := HM2.out
              omega
          · have HD2 := HP.out _ (q_pop HQ.out)
            rw [← HW2.out] at HD2
            go_wp2
            go_roundw
            case rel => exact ⟨g2, D2, W2, HD2⟩
            case measure =>
              rw [HME2.out, HD2.len.2, HD2.len.1]
              have := HM2.out
              omega
end Go.Proofs.YtfbocionnjlilacDoor
