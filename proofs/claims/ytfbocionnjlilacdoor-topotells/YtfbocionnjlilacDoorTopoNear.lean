/- What topo.near answers: a contract for the walks above it. -/
import Derived.Test.YtfbocionnjlilacDoorTopoCon
import Derived.Test.YtfbocionnjlilacDoorTopoCheck
import Derived.Test.YtfbocionnjlilacDoorSlLink
import Derived.Test.YtfbocionnjlilacDoorOwnRow
namespace Go.Proofs.YtfbocionnjlilacDoor
open Go.RowKit
set_option linter.unusedSimpArgs false
set_option linter.unusedVariables false

set_option maxHeartbeats 1000000 in
set_option maxRecDepth 100000 in
theorem near1_any (x0 x1 x2 x3 : Int) (A B : Nat) (a b : Int) (w : World) (h0 : w.cell? ⟨A, 0, none⟩ = some (.int .i64 a)) (h1 : w.cell? ⟨B, 0, none⟩ = some (.int .i64 b)) :
    Calls Tryd.prog 64 #[.agg #[.int .i64 x0, .int .i64 x1, .int .i64 x2, .int .i64 x3], .pointer (some ⟨A, 0, none⟩), .pointer (some ⟨B, 0, none⟩)] w fun e w' => e = .returned (.bool ((x0 == a && x2 == b) || (x0 == b && x2 == a))) ∧ Below w.heap.size w w' := by
  have hlt : A < w.heap.size := World.block_lt_of_cell? _ _ h0
  have hlt2 : B < w.heap.size := World.block_lt_of_cell? _ _ h1
  have HB0 : Hid (Below w.heap.size w (w.alloc (Obj.cells #[Value.int IntKind.i64 x0, Value.int IntKind.i64 x1, Value.int IntKind.i64 x2, Value.int IntKind.i64 x3] 83))) := (Below.refl _ _).alloc (Nat.le_refl _) _
  generalize hr : ((x0 == a && x2 == b) || (x0 == b && x2 == a)) = r
  have HR : Hid (((x0 == a && x2 == b) || (x0 == b && x2 == a)) = r) := hr
  clear hr
  go_enter Tryd.func64, Tryd.ntmps64
  go_wp2_with fail
  refine (joins_any x0 x1 x2 x3 a b _).mono ?_
  rintro e w1 ⟨rfl, hb1⟩
  rw [HR.out]
  have HB1 : Hid (Below w.heap.size w w1) := HB0.out.trans (hb1.mono HB0.out.size)
  clear hb1
  go_wp2
  go_ret
  exact ⟨rfl, HB1.out⟩
theorem near1_asks (A B : Nat) (a b : Int) (w : World) (h0 : w.cell? ⟨A, 0, none⟩ = some (.int .i64 a)) (h1 : w.cell? ⟨B, 0, none⟩ = some (.int .i64 b)) : lnkAsks w 64 (.pointer (some ⟨A, 0, none⟩)) (.pointer (some ⟨B, 0, none⟩)) (fun l => (l.1.1 == a && l.2.1 == b) || (l.1.1 == b && l.2.1 == a)) :=
  fun x0 x1 x2 x3 W hW => near1_any x0 x1 x2 x3 A B a b W (cell_later hW h0) (cell_later hW h1)
/-- What holds all along: the topology and the switch in their boxes. -/
structure NBox (w W : World) (S : Int) (v1 v2 : Value) (a : Int) : Prop where
  below : Below w.heap.size w W
  t : TBox W w.heap.size S v1 v2
  a : W.cell? ⟨w.heap.size + 1, 0, none⟩ = some (.int .i64 a)
def nbox (w : World) (S : Int) (v1 v2 : Value) (a : Int) : World := (w.alloc (Obj.cells #[.int .i64 S, v1, v2] 25)).alloc (Obj.cells #[.int .i64 a] 3)
theorem nbox_size (w : World) (S : Int) (v1 v2 : Value) (a : Int) : (nbox w S v1 v2 a).heap.size = w.heap.size + 2 := by simp [nbox]
theorem nbox_new (w : World) (S : Int) (v1 v2 : Value) (a : Int) : NBox w (nbox w S v1 v2 a) S v1 v2 a := by
  have e1 : (w.alloc (Obj.cells #[.int .i64 S, v1, v2] 25)).heap.size = w.heap.size + 1 := by simp
  have hs := vat_new (w.alloc (Obj.cells #[.int .i64 S, v1, v2] 25)) [.int .i64 a] 3
  rw [e1] at hs
  exact ⟨((Below.refl _ _).alloc (Nat.le_refl _) _).alloc (by rw [e1]; omega) _, (tbox_new w S v1 v2 25).later ((Below.refl _ _).alloc (Nat.le_refl _) _), hs 0 _ rfl⟩
theorem NBox.low {w W W' : World} {S : Int} {v1 v2 : Value} {a : Int} (h : NBox w W S v1 v2 a) (hb : Below (w.heap.size + 2) W W') : NBox w W' S v1 v2 a :=
  ⟨h.below.trans (hb.mono (by omega)), ⟨(hb.cell (p := ⟨w.heap.size, 0, none⟩) (by simp)).trans h.t.1, (hb.cell (p := ⟨w.heap.size, 1, none⟩) (by simp)).trans h.t.2.1, (hb.cell (p := ⟨w.heap.size, 2, none⟩) (by simp)).trans h.t.2.2⟩, (hb.cell (p := ⟨w.heap.size + 1, 0, none⟩) (by simp)).trans h.a⟩

/-- The number in a box. -/
def boxN (W : World) (p : Value) : Nat := match p with
  | .pointer (some ad) => (match W.cell? ad with | some v => (intOf v).toNat | none => 0)
  | _ => 0
theorem box_of {W : World} {g : Nat} {i : Int} (h : W.cell? ⟨g, 0, none⟩ = some (.int .i64 i)) : boxN W (.pointer (some ⟨g, 0, none⟩)) = i.toNat := by
  simp [boxN, h, intOf]
/-- A round's state. -/
structure NRel (w w0 wr : World) (v p : Value) (Ls : List ((Int × Int) × (Int × Int))) (a : Int) (N k g : Nat) : Prop where
  le : k ≤ N
  p : p = .pointer (some ⟨g, 0, none⟩)
  c : wr.cell? ⟨g, 0, none⟩ = some (.int .i64 ((k : Int) + 1))
  f : wr.frozen? ⟨g, 0, none⟩ = false
  own : wr.ownsRow w0.heap.size 3 1 v (nrTo Ls a k).length ((nrTo Ls a k).map (Value.int .i64))
  ne : v.ownBlock ≠ some g
  below : Below w0.heap.size w0 wr
theorem nrel_next {w w0 W : World} {v : Value} {Ls : List ((Int × Int) × (Int × Int))} {a : Int} {N k : Nat} (hle : k < N) (ho : W.ownsRow w0.heap.size 3 1 v (nrTo Ls a (k + 1)).length ((nrTo Ls a (k + 1)).map (Value.int .i64))) (hB : Below w0.heap.size w0 W) :
    NRel w w0 (W.alloc (Obj.cells #[Value.int IntKind.i64 ((k : Int) + 1 + 1)] 3)) v (.pointer (some ⟨W.heap.size, 0, none⟩)) Ls a N (k + 1) W.heap.size := by
  refine ⟨by omega, rfl, ?_, by simp, ho.alloc _, fun e => ?_, hB.alloc hB.size _⟩
  · have h := (vat_new W [Value.int IntKind.i64 ((k : Int) + 1 + 1)] 3) 0 _ rfl
    have e : ((k + 1 : Nat) : Int) + 1 = (k : Int) + 1 + 1 := by omega
    rw [e]
    exact h
  · have := (ho.lt _ e).2
    omega
set_option maxHeartbeats 2000000 in
set_option maxRecDepth 100000 in
theorem near_any (S : Int) (ao : Option Addr) (n cap : Nat) (v2 : Value) (Ls : List ((Int × Int) × (Int × Int))) (a : Int) (w : World) (hL : GS lnkE w (.slice ao n cap) Ls) (h1 : 1 ≤ S) (h6 : S ≤ 6) :
    Calls Tryd.prog 44 #[.agg #[.int .i64 S, .slice ao n cap, v2], .int .i64 a] w fun e w' => ∃ v, e = .returned v ∧ w'.ownsRow w.heap.size 3 1 v (nrL S Ls a).length ((nrL S Ls a).map (Value.int .i64)) ∧ Below w.heap.size w w' := by
  obtain ⟨i0, hi, hz0, hz1, hz2⟩ := info_parts infoInt
  obtain ⟨_, _, _, e1, hLn, hLm, _, hLa⟩ := hL.form
  cases e1
  have HLN : Hid (Ls.length = n) := hLn
  have HLM : Hid (n ≤ maxLen) := hLm
  have HLA : Hid (0 < n → ∃ g o, ao = some ⟨g, o, none⟩ ∧ GAt lnkE w g o Ls ∧ cap ≤ maxLen) := hLa
  have hX := nbox_new w S (.slice ao n cap) v2 a
  obtain ⟨w0, hw0⟩ : ∃ x, nbox w S (.slice ao n cap) v2 a = x := ⟨_, rfl⟩
  have hsz := nbox_size w S (.slice ao n cap) v2 a
  rw [hw0] at hX hsz
  have HX : Hid (NBox w w0 S (.slice ao n cap) v2 a) := hX
  have HSZ : Hid (w0.heap.size = w.heap.size + 2) := hsz
  have HW0 : Hid ((w.alloc (Obj.cells #[.int .i64 S, .slice ao n cap, v2] 25)).alloc (Obj.cells #[.int .i64 a] 3) = w0) := hw0
  obtain ⟨N, hN⟩ : ∃ N : Nat, S = (N : Int) := ⟨S.toNat, by omega⟩
  subst hN
  have HNR : Hid (nrL (N : Int) Ls a = nrTo Ls a N) := by
    show _ = _
    rw [← nr_to, Int.toNat_natCast]
  rw [HNR.out]
  clear hL hLn hLm hLa hX hw0 hsz
  go_enter Tryd.func44, Tryd.ntmps44
  go_upto_region 2 with fail
  rw [HW0.out]
  have hb0 : Below w0.heap.size w0 (w0.alloc (Obj.cells #[.int .i64 1] 3)) := (Below.refl _ _).alloc (Nat.le_refl _) _
  have HX1 : Hid (NBox w (w0.alloc (Obj.cells #[.int .i64 1] 3)) (N : Int) (.slice ao n cap) v2 a) := HX.out.low (hb0.mono (by rw [HSZ.out]; omega))
  have HV1 : Hid ((w0.alloc (Obj.cells #[.int .i64 1] 3)).cell? ⟨w0.heap.size, 0, none⟩ = some (.int .i64 1)) := (vat_new w0 [.int .i64 1] 3) 0 _ rfl
  have HF1 : Hid ((w0.alloc (Obj.cells #[.int .i64 1] 3)).frozen? ⟨w0.heap.size, 0, none⟩ = false) := by
    show _ = _
    simp
  clear hb0
  go_wp2
  go_loopw [5, 6] (fun v p wr => ∃ k g : Nat, NRel w w0 wr v p Ls a N k g) (fun _ p wr => N + 1 - boxN wr p)
  case atStart => exact ⟨0, w0.heap.size, by omega, rfl, HV1.out, HF1.out, World.ownsRow_nil _ _ _ _, by simp [Value.ownBlock], (Below.refl _ _).alloc (Nat.le_refl _) _⟩
  case round =>
    obtain ⟨k, g, hk, rfl, hc, hf, hown, hne, hB⟩ := hrel
    have HB : Hid (Below w0.heap.size w0 wr) := hB
    have hX2 : NBox w wr (N : Int) (.slice ao n cap) v2 a := HX.out.low (hB.mono (by rw [HSZ.out]; omega))
    have HX2 : Hid (NBox w wr (N : Int) (.slice ao n cap) v2 a) := hX2
    have HOWN : Hid (wr.ownsRow w0.heap.size 3 1 u5 (nrTo Ls a k).length ((nrTo Ls a k).map (Value.int .i64))) := hown
    have HNE : Hid (u5.ownBlock ≠ some g) := hne
    have hBX : Below w.heap.size w wr := hX2.below
    obtain ⟨_, ⟨b0, b1, b2⟩, ha⟩ := hX2
    have HM : Hid (boxN wr (.pointer (some ⟨g, 0, none⟩)) = k + 1) := by
      show _ = _
      rw [box_of hc]
      omega
    clear hB hown hne HX1 HV1 HF1
    by_cases hlt : k < N
    · have hle : (k : Int) + 1 ≤ (N : Int) := by omega
      have HK : Hid (lnkAsks wr 64 (.pointer (some ⟨w.heap.size + 1, 0, none⟩)) (.pointer (some ⟨g, 0, none⟩)) (fun l => (l.1.1 == a && l.2.1 == (k : Int) + 1) || (l.1.1 == (k : Int) + 1 && l.2.1 == a))) := near1_asks _ _ a _ wr ha hc
      have HHA : Hid (0 < n → ∃ g o, ao = some ⟨g, o, none⟩ ∧ GAt lnkE wr g o Ls ∧ cap ≤ maxLen) := fun h => by
        obtain ⟨g, o, e1, e2, e3⟩ := HLA.out h
        exact ⟨g, o, e1, e2.later hBX, e3⟩
      have HJ : Hid ((Ls.any fun l => (l.1.1 == a && l.2.1 == (k : Int) + 1) || (l.1.1 == (k : Int) + 1 && l.2.1 == a)) = joinB Ls a ((k : Int) + 1)) := rfl
      have HC : Hid (wr.cell? ⟨g, 0, none⟩ = some (.int .i64 ((k : Int) + 1))) := hc
      have HF : Hid (wr.frozen? ⟨g, 0, none⟩ = false) := hf
      have hw2 : IntKind.i64.wrap ((k : Int) + 1 + 1) = (k : Int) + 1 + 1 := wrap_small (by omega) (by omega)
      clear hBX
      go_wp2_with fail
      refine (lnk_hasF ao n cap _ _ _ _ Ls _ HLN.out HLM.out HHA.out (enters_of Tryd.func64 (by kernel_rfl) rfl) HK.out).mono ?_
      rintro e w2 ⟨rfl, hb2⟩
      rw [HJ.out]
      have hB2 := HB.out.trans (hb2.mono HB.out.size)
      have HB2 : Hid (Below w0.heap.size w0 w2) := hB2
      have hO2 := own_below HOWN.out hb2
      have HO2 : Hid (w2.ownsRow w0.heap.size 3 1 u5 (nrTo Ls a k).length ((nrTo Ls a k).map (Value.int .i64))) := hO2
      have hsz2 : w0.heap.size ≤ w2.heap.size := hB2.size
      have c2 := cell_later hb2 HC.out
      have hgl : g < w2.heap.size := World.block_lt_of_cell? _ _ c2
      have f2 := (hb2.frozen (p := ⟨g, 0, none⟩) (World.block_lt_of_cell? _ _ HC.out)).trans HF.out
      have hle2 := nrTo_len Ls a k
      have HX3 : NBox w w2 (N : Int) (.slice ao n cap) v2 a := HX.out.low (hB2.mono (by rw [HSZ.out]; omega))
      obtain ⟨_, ⟨d0, d1, d2⟩, da⟩ := HX3
      clear hb2 hB2 hO2 b0 b1 b2 ha hc hf HK HHA HOWN HB HX2 HJ
      cases hj : joinB Ls a ((k : Int) + 1)
      · have HNX : Hid (nrTo Ls a (k + 1) = nrTo Ls a k) := by
          show _ = _
          rw [nr_next, hj]
          simp
        clear hj
        go_wp2
        go_roundw
        case rel => exact ⟨_, _, nrel_next hlt (by rw [HNX.out]; exact HO2.out) HB2.out⟩
        case measure =>
          rw [HM.out, box_of (nrel_next (w := w) hlt (by rw [HNX.out]; exact HO2.out) HB2.out).c]
          omega
      · have HNX : Hid (nrTo Ls a (k + 1) = nrTo Ls a k ++ [(k : Int) + 1]) := by
          show _ = _
          rw [nr_next, hj]
          simp
        clear hj
        go_wp2_with (at_builtin; refine wpList_append_own _ rfl _ _ 45 rfl w0.heap.size 3 i0 (.int .i64 0) 1 8 Tryd.underlying45 hi hz0 hz1 hz2 rfl (by decide) _ _ _ rfl (HO2.out.alloc _) ⟨w2.heap.size, 0, none⟩ 1 1 [.int .i64 ((k : Int) + 1)] rfl rfl ?c1 ?c2 ?c3 ?c4 ?c5 ?_)
        case c1 =>
          intro j u hj
          match j, hj with
          | 0, hj => simp at hj; subst hj; simp [Addr.add]
        case c2 => intro u hu; simp at hu; subst hu; rfl
        case c3 => unfold maxLen; omega
        case c4 => omega
        case c5 => simp; omega
        intro v' w3 hown3 hgrow _
        have hB3 : Below w0.heap.size w0 w3 := (HB2.out.alloc hsz2 _).grown hgrow (by simp; omega) (fun g hg => (HO2.out.lt g hg).1)
        have c3 : w3.cell? ⟨g, 0, none⟩ = some (.int .i64 ((k : Int) + 1)) := by
          have h3 : (w2.alloc (Obj.cells #[Value.int IntKind.i64 ((k : Int) + 1)] 3)).cell? ⟨g, 0, none⟩ = some (.int .i64 ((k : Int) + 1)) := cell_later ((Below.refl _ _).alloc (Nat.le_refl _) _) c2
          rw [← h3]
          exact World.cell?_of_block (hgrow.block g (by simp; omega) (fun e => HNE.out e.symm))
        have HO3 : Hid (w3.ownsRow w0.heap.size 3 1 v' (nrTo Ls a (k + 1)).length ((nrTo Ls a (k + 1)).map (Value.int .i64))) := by
          show World.ownsRow _ _ _ _ _ _ _
          rw [HNX.out]
          simpa using hown3
        have HB3 : Hid (Below w0.heap.size w0 w3) := hB3
        clear hown3 hB3
        clear hgrow
        go_wp2
        go_roundw
        case rel => exact ⟨_, _, nrel_next hlt HO3.out HB3.out⟩
        case measure =>
          rw [HM.out, box_of (nrel_next (w := w) hlt HO3.out HB3.out).c]
          omega
    · obtain rfl : k = N := by omega
      go_wp2
      go_ret
      exact ⟨_, rfl, own_mono HOWN.out (by rw [HSZ.out]; omega), HX2.out.below⟩
end Go.Proofs.YtfbocionnjlilacDoor
