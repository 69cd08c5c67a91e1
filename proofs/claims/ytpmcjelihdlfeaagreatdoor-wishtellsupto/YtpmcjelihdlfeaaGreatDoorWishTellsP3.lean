/- Contracts and facts on the way to WishTells, joined into one text: TopoName, StHost, TopoSettle, TopoCheck, Quiet, SlHost, HostHas, WishCon, StHop, SlHopF, WishFits, RefFits, RefTopo1. -/
import Derived.Test.YtpmcjelihdlfeaaGreatDoorWishTellsP2
import Derived.Test.YtpmcjelihdlfeaaGreatDoorWishTellsP1
import Derived.Laws.IdiomStrings
import Derived.Test.YtpmcjelihdlfeaaGreatDoorRows
import Derived.Lib.SmallJoins
import Derived.Laws.StructEq
import Derived.Maps.OwnOps
import Derived.Carry
import Derived.WalkKit
import Derived.WalkSpells
import Derived.Below
import Derived.BigQuiet
import Derived.Deep.QuietTactic
import Derived.Shelf.Abstract
import Derived.Deep.CutRange
import Derived.Deep.CutBlock
import Derived.Lib.Strings
/- What topo.isName answers: a contract for the walks above it. -/
namespace Go.Proofs.YtpmcjelihdlfeaaGreatDoor
open Go.RowKit
set_option linter.unusedSimpArgs false
set_option linter.unusedVariables false

/-- Is a byte none of a to z? -/
def noL (b : UInt8) : Bool := decide ((b.toNat : Int) < 97) || decide ((122 : Int) < (b.toNat : Int))
set_option maxHeartbeats 1000000 in
theorem isName1_any (b : UInt8) (w : World) : Calls Tryz.prog 75 #[.int .u8 (b.toNat : Int)] w fun e w' => e = .returned (.bool (noL b)) ∧ Below w.heap.size w w' := by
  have hn : noL b = (decide ((b.toNat : Int) < 97) || decide ((122 : Int) < (b.toNat : Int))) := rfl
  generalize (b.toNat : Int) = x at *
  rw [hn]
  clear hn
  by_cases h : x < 97
  · have e : (decide (x < 97) || decide (122 < x)) = true := by simp [h]
    rw [e]
    go_enter Tryz.func75, Tryz.ntmps75
    go_wp2
    go_ret
    exact ⟨rfl, Below.refl _ _⟩
  · have e : (decide (x < 97) || decide (122 < x)) = decide (122 < x) := by simp [h]
    rw [e]
    go_enter Tryz.func75, Tryz.ntmps75
    go_wp2
    go_ret
    exact ⟨rfl, Below.refl _ _⟩
theorem isName1_asks (w : World) : byAsks w 75 noL := fun x W _ => isName1_any x W
theorem bytes_conv (s : ByteArray) (w : World) : ∃ cap w1, (convert 9 149 (.string s)).run Tryz.prog w = .ok (.slice (some ⟨w.heap.size, 0, none⟩) s.size cap) w1 ∧ Below w.heap.size w w1 ∧ GAt byE w1 w.heap.size 0 s.data.toList ∧ (s.size ≤ maxLen → cap ≤ maxLen) := by
  refine ⟨_, _, run_bytes_of_string w _ _ 5 s Tryz.underlying9 Tryz.underlying149 Tryz.underlying5, ?_, ?_, fun h => grownCap_le_maxLen w _ _ _ h⟩
  · exact (Below.drew (Below.refl _ _)).alloc (Nat.le_refl _) _
  · intro i hi j u hu
    have hj : j = 0 := by
      have := (List.getElem?_eq_some_iff.1 hu).1
      have e : (byE.c s.data.toList[i]).length = 1 := rfl
      omega
    subst hj
    have hu2 : u = .int .u8 (s.data.toList[i].toNat : Int) := by
      have : some (Value.int .u8 (s.data.toList[i].toNat : Int)) = some u := hu
      exact (Option.some.inj this).symm
    subst hu2
    have hi2 : i < s.data.size := by simpa using hi
    have e : 0 + i * byE.n + 0 = i := by show 0 + i * 1 + 0 = i; omega
    rw [e]
    simp only [World.cell?, World.alloc, World.drew]
    simp [bytesRow]
    rw [Array.getElem?_append_left (by simpa using hi2), Array.getElem?_map, Array.getElem?_eq_getElem hi2]
    rfl
theorem nm_eq {s : ByteArray} (h1 : 1 ≤ s.size) (h6 : s.size ≤ 6) : nmB s = !(s.data.toList.any noL) := by
  have e : nmB s = (s.data.toList.all fun c => decide (97 ≤ c.toNat) && decide (c.toNat ≤ 122)) := by simp [nmB, h1, h6]
  rw [e, List.not_any_eq_all_not]
  congr 1
  funext c
  rw [Bool.eq_iff_iff]
  simp [noL]
  omega
set_option maxHeartbeats 1000000 in
theorem name_ok (s : ByteArray) (w : World) (h1 : 1 ≤ s.size) (h6 : s.size ≤ 6) :
    Calls Tryz.prog 49 #[.string s] w fun e w' => e = .returned (.bool (nmB s)) ∧ Below w.heap.size w w' := by
  have hs1 : ¬ ((s.size : Int) < 1) := by omega
  have hs6 : ¬ ((6 : Int) < (s.size : Int)) := by omega
  obtain ⟨cap, w1, hcv, hb1, hG, hcap⟩ := bytes_conv s w
  have HCAP : Hid (s.size ≤ maxLen → cap ≤ maxLen) := hcap
  have HB1 : Hid (Below w.heap.size w w1) := hb1
  have HG : Hid (GAt byE w1 w.heap.size 0 s.data.toList) := hG
  have HE : Hid (nmB s = !(s.data.toList.any noL)) := nm_eq h1 h6
  rw [HE.out]
  obtain ⟨r, hr⟩ : ∃ r, r = s.data.toList.any noL := ⟨_, rfl⟩
  have HR : Hid (r = s.data.toList.any noL) := hr
  rw [← hr]
  clear hr hb1 hG HE hcap
  obtain ⟨n, hn⟩ : ∃ n, n = s.size := ⟨_, rfl⟩
  have HN : Hid (n = s.size) := hn
  rw [← hn] at hcv hs1 hs6 h1 h6
  clear hn
  have hsz : s.size = n := HN.out.symm
  go_enter Tryz.func49, Tryz.ntmps49
  go_wp2_with fail
  refine (by_hasF _ n cap _ noL s.data.toList _ (by rw [HN.out]; simp) (by unfold maxLen; omega) (fun _ => ⟨_, _, rfl, HG.out, HCAP.out (by rw [← HN.out]; unfold maxLen; omega)⟩) (enters_of Tryz.func75 (by kernel_rfl) rfl) (isName1_asks _)).mono ?_
  rintro e w2 ⟨rfl, hb2⟩
  rw [← HR.out]
  have HB2 : Hid (Below w.heap.size w w2) := HB1.out.trans (hb2.mono HB1.out.size)
  clear hb2
  go_wp2
  go_ret
  exact ⟨rfl, HB2.out⟩
set_option maxHeartbeats 1000000 in
theorem name_bad (s : ByteArray) (w : World) (h : s.size < 1 ∨ 6 < s.size) :
    Calls Tryz.prog 49 #[.string s] w fun e w' => e = .returned (.bool false) ∧ Below w.heap.size w w' := by
  obtain ⟨n, hn⟩ : ∃ n, n = s.size := ⟨_, rfl⟩
  have hsz : s.size = n := hn.symm
  rw [hsz] at h
  clear hn
  by_cases h1 : (n : Int) < 1
  · go_enter Tryz.func49, Tryz.ntmps49
    go_wp2
    go_ret
    exact ⟨rfl, Below.refl _ _⟩
  · have h6 : (6 : Int) < (n : Int) := by omega
    clear h
    go_enter Tryz.func49, Tryz.ntmps49
    go_wp2
    go_ret
    exact ⟨rfl, Below.refl _ _⟩
theorem name_any (s : ByteArray) (w : World) :
    Calls Tryz.prog 49 #[.string s] w fun e w' => e = .returned (.bool (nmB s)) ∧ Below w.heap.size w w' := by
  by_cases h : 1 ≤ s.size ∧ s.size ≤ 6
  · exact name_ok s w h.1 h.2
  · have e : nmB s = false := by
      unfold nmB
      by_cases h1 : 1 ≤ s.size
      · have : ¬ s.size ≤ 6 := fun h2 => h ⟨h1, h2⟩
        simp [this]
      · simp [h1]
    rw [e]
    exact name_bad s w (by omega)
end Go.Proofs.YtpmcjelihdlfeaaGreatDoor
/- The struct api.Host: its cells, slices of them, == of two, such that came in. Written by mk/struct.py. -/
namespace Go.Proofs.YtpmcjelihdlfeaaGreatDoor
open Go.ChangeShapes Go.WideShapes Go.ChangeAt Go.RowKit Go.Joins
set_option linter.unusedSimpArgs false
set_option linter.unusedVariables false
set_option maxRecDepth 100000

def hstE : Enc (ByteArray × (Int × Int)) where
  c := fun x => [.string x.1, .int .i64 x.2.1, .int .i64 x.2.2]
  n := 3
  len := fun _ => rfl
  pos := by decide
  one := by
    intro x u hu
    simp at hu
    rcases hu with rfl | rfl | rfl <;> rfl
theorem hst_cells {w : World} {g o : Nat} {x0 : ByteArray} {x1 : Int} {x2 : Int} (h : VAt w g o (hstE.c (x0, (x1, x2)))) : w.cell? ⟨g, o, none⟩ = some (.string x0) ∧ w.cell? ⟨g, o + 1, none⟩ = some (.int .i64 x1) ∧ w.cell? ⟨g, o + 2, none⟩ = some (.int .i64 x2) :=
  ⟨h 0 _ rfl, h 1 _ rfl, h 2 _ rfl⟩
theorem hst_at {w : World} {g o : Nat} {L : List (ByteArray × (Int × Int))} (h : GAt hstE w g o L) {n k : Nat} (hn : L.length = n) (hk : k < n) :
    ∃ (x0 : ByteArray) (x1 : Int) (x2 : Int) (hl : k < L.length), L[k] = (x0, (x1, x2)) ∧ w.cell? ⟨g, o + k * 3, none⟩ = some (.string x0) ∧ w.cell? ⟨g, o + k * 3 + 1, none⟩ = some (.int .i64 x1) ∧ w.cell? ⟨g, o + k * 3 + 2, none⟩ = some (.int .i64 x2) :=
  have hl : k < L.length := by omega
  ⟨_, _, _, hl, rfl, hst_cells (h k hl)⟩
theorem hst_new (w : World) (x0 : ByteArray) (x1 : Int) (x2 : Int) (t : TypeId) : VAt (w.alloc (Obj.cells #[.string x0, .int .i64 x1, .int .i64 x2] t)) w.heap.size 0 (hstE.c (x0, (x1, x2))) := vat_new w [.string x0, .int .i64 x1, .int .i64 x2] t
theorem hst_row (w : World) (x0 : ByteArray) (x1 : Int) (x2 : Int) (t : TypeId) : GS hstE (w.alloc (Obj.cells #[.string x0, .int .i64 x1, .int .i64 x2] t)) (.slice (some ⟨w.heap.size, 0, none⟩) 1 1) [(x0, (x1, x2))] := gs_one (E := hstE) w (x0, (x1, x2)) t (vs := [.string x0, .int .i64 x1, .int .i64 x2]) rfl
/-- Are two the same? -/
def hstB (a b : ByteArray × (Int × Int)) : Bool := (a.1 == b.1) && ((a.2.1 == b.2.1) && ((a.2.2 == b.2.2)))
theorem hst_ways (x0 : ByteArray) (x1 : Int) (x2 : Int) (y0 : ByteArray) (y1 : Int) (y2 : Int) :
    ((x0.toList == y0.toList) = false ∧ hstB (x0, (x1, x2)) (y0, (y1, y2)) = false) ∨
    ((x0.toList == y0.toList) = true ∧ (x1 == y1) = false ∧ hstB (x0, (x1, x2)) (y0, (y1, y2)) = false) ∨
    ((x0.toList == y0.toList) = true ∧ (x1 == y1) = true ∧ (x2 == y2) = false ∧ hstB (x0, (x1, x2)) (y0, (y1, y2)) = false) ∨
    ((x0.toList == y0.toList) = true ∧ (x1 == y1) = true ∧ (x2 == y2) = true ∧ hstB (x0, (x1, x2)) (y0, (y1, y2)) = true) := by
  have e : hstB (x0, (x1, x2)) (y0, (y1, y2)) = ((x0.toList == y0.toList) && ((x1 == y1) && ((x2 == y2)))) := by simp only [hstB, beq_toListBytes]
  rw [e]
  cases h0 : (x0.toList == y0.toList)
  · simp
  · skip
    cases h1 : (x1 == y1)
    · simp
    · skip
      cases h2 : (x2 == y2)
      · simp
      · skip
        simp
set_option maxRecDepth 100000 in
theorem hst_eq (x0 : ByteArray) (x1 : Int) (x2 : Int) (y0 : ByteArray) (y1 : Int) (y2 : Int) (w : World) : (Op.equal 82 (.agg #[.string x0, .int .i64 x1, .int .i64 x2]) (.agg #[.string y0, .int .i64 y1, .int .i64 y2])).run Tryz.prog w = .ok (hstB (x0, (x1, x2)) (y0, (y1, y2))) w := by
  unfold Op.equal Op.maxDepth
  rw [run_equalIn_struct w 9999 _ _ _ (by kernel_rfl) (by kernel_rfl)]
  rcases hst_ways x0 x1 x2 y0 y1 y2 with ⟨e0, e⟩ | ⟨e0, e1, e⟩ | ⟨e0, e1, e2, e⟩ | ⟨e0, e1, e2, e⟩
  all_goals
    rw [e]
    go_simp
theorem hst_info : (Tryz.prog.info? 82).map (fun i => (i.zero, i.size, i.bytes)) = some (some (.agg #[.string ByteArray.empty, .int .i64 0, .int .i64 0]), 3, 32) := by kernel_rfl
theorem hst_zero : (Value.agg #[.string ByteArray.empty, .int .i64 0, .int .i64 0]).cells.size = 3 := by simp [Value.cells]
/-- Cells that read as one. -/
theorem hst_open {H : Type} {enc : TypeId × Value → H} {W : World} {n : Nat} {cs : List Value} {x : DataW H × List MemPlace}
    (h : DataW.trod enc Tryz.prog W 0 (fun _ => true) true n 82 cs = some x) : ∃ y, cs = hstE.c y := by
  obtain ⟨xs, k, _, _, hl, hlen, hf⟩ := DataW.trod_struct Tryz.underlying82 h
  have hC : Tryz.prog.cellsOf 82 = 3 := by kernel_rfl
  have hT0 : Tryz.prog.cellsOf 9 = 1 := by kernel_rfl
  have hT1 : Tryz.prog.cellsOf 80 = 2 := by kernel_rfl
  rw [hC] at hl
  match cs, hl with
  | [c0, c1, c2], _ =>
    match xs, hlen with
    | [z0, z1], _ =>
      have g0 := hf 0 _ rfl
      have g1 := hf 1 _ rfl
      simp [hT0, hT1] at g0 g1
      obtain ⟨v0, e0, _, _⟩ := DataW.trod_string Tryz.underlying9 g0
      obtain ⟨s1, e1⟩ := spo_open g1
      simp [spoE] at e0 e1
      refine ⟨(v0, (s1.1, s1.2)), ?_⟩
      simp [hstE, e0, e1]
set_option maxRecDepth 100000 in
/-- One that came in. -/
theorem hst_of {H : Type} {enc : TypeId × Value → H} {W : World} {base : Nat} {v : Value} {d : DataW H} {p : List MemPlace}
    (hv : Value.okWide Tryz.prog W .any base 82 v) (h : DataW.Trod enc Tryz.prog W 0 (fun _ => true) true 82 v d p) : ∃ (x0 : ByteArray) (x1 : Int) (x2 : Int), v = .agg #[.string x0, .int .i64 x1, .int .i64 x2] := by
  obtain ⟨cs, rfl, hsz⟩ := okWide_struct Tryz.underlying82 hv
  obtain ⟨n, hn⟩ := h
  obtain ⟨y, e⟩ := hst_open hn
  refine ⟨y.1, y.2.1, y.2.2, ?_⟩
  simp only [Value.cells] at e
  have e2 : cs = #[.string y.1, .int .i64 y.2.1, .int .i64 y.2.2] := by
    rw [← Array.toArray_toList (xs := cs), e]
    rfl
  rw [e2]
/-- A slice of them that came in. -/
theorem hsts_of {H : Type} {enc : TypeId × Value → H} {W : World} {base : Nat} {v : Value} {d : DataW H} {p : List MemPlace}
    (hv : Value.okWide Tryz.prog W .any base 23 v) (h : DataW.Trod enc Tryz.prog W 0 (fun _ => true) true 23 v d p) : ∃ L, GS hstE W v L :=
  gs_of (E := hstE) 23 82 Tryz.underlying23 (by kernel_rfl) (ByteArray.empty, (0, 0)) (fun _ _ _ h => hst_open h) hv h
end Go.Proofs.YtpmcjelihdlfeaaGreatDoor
/- What topo.settle answers: a contract for the walks above it. -/
namespace Go.Proofs.YtpmcjelihdlfeaaGreatDoor
open Go.RowKit
set_option linter.unusedSimpArgs false
set_option linter.unusedVariables false

/-- What holds of the two maps behind a host. -/
def SetQ (w w' : World) (B C : Nat) (N : Int) (V : List (Int × Int)) (Z : List ByteArray) : Prop := ∃ M' R', MAt spotKey veI w' B M' ∧ MAt strKey veI w' C R' ∧ (N = 0 → TK sq M' V ∧ TK (fun a b => a == b) R' Z) ∧ But [B, C] w w'
set_option maxHeartbeats 1000000 in
set_option maxRecDepth 100000 in
theorem settle_ok (S : Int) (n : ByteArray) (x0 x1 : Int) (B C : Nat) (hBC : B ≠ C) (M : List ((Int × Int) × Int)) (R : List (ByteArray × Int)) (U : List (Int × Int)) (Z : List ByteArray) (w : World) (hM : MAt spotKey veI w B M) (hR : MAt strKey veI w C R) (hT : TK sq M U) (hZ : TK (fun a b => a == b) R Z) (hU : U.length ≤ 1000) (hZl : Z.length ≤ 1000)
    (ha : nmB n = true) (hb : spB S (x0, x1) = true) (N : Int) (hN : N = ho1 S Z U (n, (x0, x1))) :
    Calls Tryz.prog 43 #[.int .i64 S, .map (some B), .map (some C), .agg #[.string n, .int .i64 x0, .int .i64 x1]] w fun e w' => e = .returned (noV N) ∧ SetQ w w' B C N (U ++ [(x0, x1)]) (Z ++ [n]) := by
  have hltB := hM.lt
  have hltC := hR.lt
  have HN : Hid (N = ho1 S Z U (n, (x0, x1))) := hN
  have HB0 : Hid (Below w.heap.size w (w.alloc (Obj.cells #[Value.string n, Value.int IntKind.i64 x0, Value.int IntKind.i64 x1] 82))) := (Below.refl _ _).alloc (Nat.le_refl _) _
  have HC := hst_new w n x0 x1 82
  have HM0 : Hid (MAt spotKey veI w B M) := hM
  have HR0 : Hid (MAt strKey veI w C R) := hR
  have HT : Hid (TK sq M U) := hT
  have HZ : Hid (TK (fun a b => a == b) R Z) := hZ
  have hneB : ¬ w.heap.size = B := by omega
  have hneC : ¬ w.heap.size = C := by omega
  clear hM hR hT hZ hN
  go_enter Tryz.func43, Tryz.ntmps43
  go_wp2_with fail
  refine (name_any n _).mono ?_
  rintro e w1 ⟨rfl, hb1⟩
  rw [ha]
  have HB1 : Hid (Below w.heap.size w w1) := HB0.out.trans (hb1.mono HB0.out.size)
  have HC1 := HC.later hb1
  obtain ⟨c0, c1, c2⟩ := hst_cells HC1
  simp only [Nat.zero_add] at c0 c1 c2
  clear hb1
  go_wp2_with fail
  refine (isSpot_any S x0 x1 _).mono ?_
  rintro e w2 ⟨rfl, hb2⟩
  rw [hb]
  have HB2 : Hid (Below w.heap.size w w2) := HB1.out.trans (hb2.mono HB1.out.size)
  have d0 := cell_later hb2 c0
  have d1 := cell_later hb2 c1
  have d2 := cell_later hb2 c2
  have HM2 : Hid (MAt spotKey veI w2 B M) := (HM0.out.later HB2.out)
  have HR2 : Hid (MAt strKey veI w2 C R) := (HR0.out.later HB2.out)
  clear hb2 HC1 HC c0 c1 c2 HB1 HB0
  go_upto_region 5 with fail
  obtain ⟨cA, hcA⟩ : ∃ cA : Int, cA = (ctM (fun a b => a == b) n Z : Int) := ⟨_, rfl⟩
  have HcA : Hid (cA = (ctM (fun a b => a == b) n Z : Int)) := hcA
  have hcw : IntKind.i64.wrap (cA + 1) = cA + 1 := by
    have h1 := ct_le (q := fun a b : ByteArray => a == b) n Z
    exact wrap_small (by omega) (by omega)
  clear hcA
  go_cut [] from 20 to 24 (fun w' => ∃ R1, MAt strKey veI w' C R1 ∧ TK (fun a b => a == b) R1 (Z ++ [n]) ∧ But [C] w2 w')
  case first =>
    obtain ⟨w3, hup, hR3, hg3⟩ := run_update_M HR2.out 103 3 Tryz.underlying103 n (cA + 1)
    have hTK3 : Hid (TK (fun a b => a == b) (mput (fun a b => a == b) n (cA + 1) R) (Z ++ [n])) := by
      show TK _ _ _
      rw [HcA.out]
      exact tk_put ba_iff HZ.out _
    have HR3 : Hid (MAt strKey veI w3 C (mput (fun a b => a == b) n (cA + 1) R)) := hR3
    have HBt : Hid (But [C] w2 w3) := But.of_grown hg3 (by simp)
    have hl2 : (Instr.lookup 103 (.map (some C)) (.string n) false).run Tryz.prog w2 = .ok (.int .i64 cA) w2 := by
      rw [HcA.out]
      exact run_lookup_TK HR2.out HZ.out 103 3 Tryz.underlying103 (fun w => by kernel_rfl) n
    have h3 : (Instr.mapUpdate 103 (.map (some C)) (.string n) (.int .i64 (cA + 1))).run Tryz.prog w2 = .ok () w3 := hup
    clear hup hR3 hg3
    go_wp2
    go_meet
    case rel => exact ⟨_, HR3.out, hTK3.out, HBt.out⟩
  case rest =>
    obtain ⟨R1, hR1, hZ1, hBt1⟩ := hcut
    obtain ⟨w5, hw5⟩ : ∃ x, x = wc := ⟨_, rfl⟩
    subst hw5
    have hl2 : w.heap.size < w2.heap.size := World.block_lt_of_cell? _ _ d0
    have hnC : w.heap.size ∉ [C] := by simp [hneC]
    have e0 := (hBt1.cell (p := ⟨w.heap.size, 0, none⟩) hl2 hnC).trans d0
    have e1 := (hBt1.cell (p := ⟨w.heap.size, 1, none⟩) hl2 hnC).trans d1
    have e2 := (hBt1.cell (p := ⟨w.heap.size, 2, none⟩) hl2 hnC).trans d2
    have HM5 : Hid (MAt spotKey veI w5 B M) := HM2.out.but hBt1 (by simp [hBC])
    have HR5 : Hid (MAt strKey veI w5 C R1) := hR1
    have HZ5 : Hid (TK (fun a b => a == b) R1 (Z ++ [n])) := hZ1
    have HBt5 : Hid (But [B, C] w w5) := (But.of_below (HB2.out)).trans (hBt1.mono (by simp))
    clear hR1 hZ1 hBt1 d0 d1 d2 HM2 HR2 hcw HcA hnC hl2
    obtain ⟨cB, hcB⟩ : ∃ cB : Int, cB = (ctM sq (x0, x1) U : Int) := ⟨_, rfl⟩
    have HcB : Hid (cB = (ctM sq (x0, x1) U : Int)) := hcB
    have hcw : IntKind.i64.wrap (cB + 1) = cB + 1 := by
      have h1 := ct_le (q := sq) (x0, x1) U
      exact wrap_small (by omega) (by omega)
    clear hcB
    go_upto_region 6 with fail
    go_cut [] from 25 to 31 (fun w' => ∃ M2, MAt spotKey veI w' B M2 ∧ TK sq M2 (U ++ [(x0, x1)]) ∧ But [B] w5 w')
    case first =>
      have hMd : MAt spotKey veI w5.drew B M := HM5.out
      obtain ⟨v0, st, w3, hE, hg3, hM3, hS3⟩ := run_entry_M hMd 99 3 Tryz.underlying99 0 (fun w => by kernel_rfl) (x0, x1)
      obtain ⟨w4, hSt, hM4, hg4⟩ := hS3 w3 (cB + 1) rfl
      have hTK4 : Hid (TK sq (mput sq (x0, x1) (cB + 1) M) (U ++ [(x0, x1)])) := by
        show TK _ _ _
        rw [HcB.out]
        exact tk_put sq_iff HT.out _
      have HM4 : Hid (MAt spotKey veI w4 B (mput sq (x0, x1) (cB + 1) M)) := hM4
      have HBt : Hid (But [B] w5 w4) := ((But.refl [B] w5).drew.trans (But.of_grown hg3 (by simp))).trans (But.of_grown hg4 (by simp))
      have hl2 : (Instr.lookup 99 (.map (some B)) (.agg #[.int .i64 x0, .int .i64 x1]) false).run Tryz.prog w5.drew = .ok (.int .i64 cB) w5.drew := by
        rw [HcB.out]
        exact run_lookup_TK hMd HT.out 99 3 Tryz.underlying99 (fun w => by kernel_rfl) (x0, x1)
      have hl3 : (Instr.lookup 99 (.map (some B)) (.agg #[.int .i64 x0, .int .i64 x1]) false).run Tryz.prog w3 = .ok (.int .i64 cB) w3 := by
        have h := run_lookup_M hM3 99 3 Tryz.underlying99 (.int .i64 0) (fun w => by kernel_rfl) (x0, x1) false
        have e : mget spotKey.q (x0, x1) (mput spotKey.q (x0, x1) ((mget spotKey.q (x0, x1) M).getD 0) M) = some cB := by
          rw [mget_put spotKey.qeq, if_pos ((spotKey.qeq _ _).2 rfl), HcB.out]
          exact congrArg some (HT.out (x0, x1))
        rw [e] at h
        exact h
      have h1 : (Instr.mapEntry 99 (.map (some B)) (.agg #[.int .i64 x0, .int .i64 x1])).run Tryz.prog w5.drew = .ok (.tuple #[v0, .int .i64 (st : Int)]) w3 := hE
      have h3 : (Instr.entryStore 99 (.map (some B)) (.int .i64 (st : Int)) (.int .i64 (cB + 1))).run Tryz.prog w3 = .ok () w4 := hSt
      clear hE hS3 hSt hM3 hM4 hg3 hg4 hMd
      go_region
      go_wp2_with fail
      go_meet
      case rel => exact ⟨_, HM4.out, hTK4.out, HBt.out⟩
    case rest =>
      obtain ⟨M2, hM2, hT2, hBt2⟩ := hcut
      have hnB : w.heap.size ∉ [B] := by simp [hneB]
      have hl2 : w.heap.size < w5.heap.size := World.block_lt_of_cell? _ _ e0
      have f0 := (hBt2.cell (p := ⟨w.heap.size, 0, none⟩) hl2 hnB).trans e0
      have f1 := (hBt2.cell (p := ⟨w.heap.size, 1, none⟩) hl2 hnB).trans e1
      have f2 := (hBt2.cell (p := ⟨w.heap.size, 2, none⟩) hl2 hnB).trans e2
      have hR6 : MAt strKey veI wc C R1 := HR5.out.but hBt2 (by simp [Ne.symm hBC])
      have HM6 : Hid (MAt spotKey veI wc B M2) := hM2
      have HR6 : Hid (MAt strKey veI wc C R1) := hR6
      have HT6 : Hid (TK sq M2 (U ++ [(x0, x1)])) := hT2
      have HBt6 : Hid (But [B, C] w wc) := HBt5.out.trans (hBt2.mono (by simp))
      obtain ⟨pA, hpA⟩ : ∃ p : Int, p = (ctM (fun a b => a == b) n (Z ++ [n]) : Int) := ⟨_, rfl⟩
      obtain ⟨pB, hpB⟩ : ∃ p : Int, p = (ctM sq (x0, x1) (U ++ [(x0, x1)]) : Int) := ⟨_, rfl⟩
      have hlA : (Instr.lookup 103 (.map (some C)) (.string n) false).run Tryz.prog wc = .ok (.int .i64 pA) wc := by
        rw [hpA]
        exact run_lookup_TK hR6 HZ5.out 103 3 Tryz.underlying103 (fun w => by kernel_rfl) n
      have hlB : (Instr.lookup 99 (.map (some B)) (.agg #[.int .i64 x0, .int .i64 x1]) false).run Tryz.prog wc = .ok (.int .i64 pB) wc := by
        rw [hpB]
        exact run_lookup_TK hM2 hT2 99 3 Tryz.underlying99 (fun w => by kernel_rfl) (x0, x1)
      have HL : Hid (N = if (decide ((1 : Int) < pA) || decide ((1 : Int) < pB)) = true then 7 else 0) := by
        show _ = _
        have e1 : (U.any fun u => sq u (x0, x1)) = (U.any fun u => u == (x0, x1)) := by
          congr 1
        rw [HN.out, hpA, hpB, ct_host ba_iff, ct_host sq_iff, ho1, e1]
        simp only [ha, hb, if_true]
      clear hM2 hT2 hR6 hBt2 e0 e1 e2 hnB hl2 hcw HcB HM5 HR5 HBt5 hpA hpB ha hb
      by_cases h1 : 1 < pA
      · have e7 : N = 7 := by rw [HL.out]; simp [h1]
        subst e7
        go_wp2
        go_ret
        exact ⟨rfl, M2, R1, HM6.out, HR6.out, fun e => absurd e (by decide), HBt6.out⟩
      · by_cases h2 : 1 < pB
        · have e7 : N = 7 := by rw [HL.out]; simp [h2]
          subst e7
          go_wp2
          go_ret
          exact ⟨rfl, M2, R1, HM6.out, HR6.out, fun e => absurd e (by decide), HBt6.out⟩
        · have e7 : N = 0 := by rw [HL.out]; simp [h1, h2]
          subst e7
          go_wp2
          go_ret
          exact ⟨rfl, M2, R1, HM6.out, HR6.out, fun _ => ⟨HT6.out, HZ5.out⟩, HBt6.out⟩
set_option maxHeartbeats 1000000 in
set_option maxRecDepth 100000 in
theorem settle_bad (S : Int) (n : ByteArray) (x0 x1 : Int) (B C : Nat) (N : Int) (w : World) (h : (nmB n = false ∧ N = 2) ∨ (nmB n = true ∧ spB S (x0, x1) = false ∧ N = 1)) :
    Calls Tryz.prog 43 #[.int .i64 S, .map (some B), .map (some C), .agg #[.string n, .int .i64 x0, .int .i64 x1]] w fun e w' => e = .returned (.iface 57 (.int .i64 N)) ∧ Below w.heap.size w w' := by
  have HB0 : Hid (Below w.heap.size w (w.alloc (Obj.cells #[Value.string n, Value.int IntKind.i64 x0, Value.int IntKind.i64 x1] 82))) := (Below.refl _ _).alloc (Nat.le_refl _) _
  have HC := hst_new w n x0 x1 82
  rcases h with ⟨ha, rfl⟩ | ⟨ha, hb, rfl⟩
  · go_enter Tryz.func43, Tryz.ntmps43
    go_wp2_with fail
    refine (name_any n _).mono ?_
    rintro e w1 ⟨rfl, hb1⟩
    rw [ha]
    have HB1 : Hid (Below w.heap.size w w1) := HB0.out.trans (hb1.mono HB0.out.size)
    clear hb1 HC
    go_wp2
    go_ret
    exact ⟨rfl, HB1.out⟩
  · go_enter Tryz.func43, Tryz.ntmps43
    go_wp2_with fail
    refine (name_any n _).mono ?_
    rintro e w1 ⟨rfl, hb1⟩
    rw [ha]
    have HB1 : Hid (Below w.heap.size w w1) := HB0.out.trans (hb1.mono HB0.out.size)
    obtain ⟨c0, c1, c2⟩ := hst_cells (HC.later hb1)
    simp only [Nat.zero_add] at c0 c1 c2
    clear hb1 HC
    go_wp2_with fail
    refine (isSpot_any S x0 x1 _).mono ?_
    rintro e w2 ⟨rfl, hb2⟩
    rw [hb]
    have HB2 : Hid (Below w.heap.size w w2) := HB1.out.trans (hb2.mono HB1.out.size)
    clear hb2
    go_wp2
    go_ret
    exact ⟨rfl, HB2.out⟩
theorem settle_any (S : Int) (n : ByteArray) (x0 x1 : Int) (B C : Nat) (hBC : B ≠ C) (M : List ((Int × Int) × Int)) (R : List (ByteArray × Int)) (U : List (Int × Int)) (Z : List ByteArray) (w : World) (hM : MAt spotKey veI w B M) (hR : MAt strKey veI w C R) (hT : TK sq M U) (hZ : TK (fun a b => a == b) R Z) (hU : U.length ≤ 1000) (hZl : Z.length ≤ 1000) :
    Calls Tryz.prog 43 #[.int .i64 S, .map (some B), .map (some C), .agg #[.string n, .int .i64 x0, .int .i64 x1]] w fun e w' => e = .returned (noV (ho1 S Z U (n, (x0, x1)))) ∧ SetQ w w' B C (ho1 S Z U (n, (x0, x1))) (U ++ [(x0, x1)]) (Z ++ [n]) := by
  cases ha : nmB n
  · have e1 : ho1 S Z U (n, (x0, x1)) = 2 := by simp only [ho1, ha, Bool.false_eq_true, if_false]
    rw [e1]
    refine (settle_bad S n x0 x1 B C 2 w (.inl ⟨ha, rfl⟩)).mono ?_
    rintro e w' ⟨rfl, hb⟩
    exact ⟨rfl, M, R, hM.later hb, hR.later hb, fun e => absurd e (by decide), But.of_below hb⟩
  · cases hb : spB S (x0, x1)
    · have e1 : ho1 S Z U (n, (x0, x1)) = 1 := by simp only [ho1, ha, hb, Bool.false_eq_true, if_false, if_true]
      rw [e1]
      refine (settle_bad S n x0 x1 B C 1 w (.inr ⟨ha, hb, rfl⟩)).mono ?_
      rintro e w' ⟨rfl, hb⟩
      exact ⟨rfl, M, R, hM.later hb, hR.later hb, fun e => absurd e (by decide), But.of_below hb⟩
    · exact settle_ok S n x0 x1 B C hBC M R U Z w hM hR hT hZ hU hZl ha hb _ rfl
end Go.Proofs.YtpmcjelihdlfeaaGreatDoor
/- What topo.Check answers: a contract for the walks above it. -/
namespace Go.Proofs.YtpmcjelihdlfeaaGreatDoor
open Go.RowKit
set_option linter.unusedSimpArgs false
set_option linter.unusedVariables false

/-- A topology in a box. -/
def TBox (W : World) (g : Nat) (S : Int) (v1 v2 : Value) : Prop := W.cell? ⟨g, 0, none⟩ = some (.int .i64 S) ∧ W.cell? ⟨g, 1, none⟩ = some v1 ∧ W.cell? ⟨g, 2, none⟩ = some v2
theorem tbox_new (w : World) (S : Int) (v1 v2 : Value) (t : TypeId) : TBox (w.alloc (Obj.cells #[.int .i64 S, v1, v2] t)) w.heap.size S v1 v2 := by
  refine ⟨?_, ?_, ?_⟩ <;> simp
theorem TBox.lt {W : World} {g : Nat} {S : Int} {v1 v2 : Value} (h : TBox W g S v1 v2) : g < W.heap.size := World.block_lt_of_cell? _ _ h.1
theorem TBox.but {X : List Nat} {W W' : World} {g : Nat} {S : Int} {v1 v2 : Value} (h : TBox W g S v1 v2) (hb : But X W W') (hX : g ∉ X) : TBox W' g S v1 v2 :=
  ⟨(hb.cell (p := ⟨g, 0, none⟩) h.lt hX).trans h.1, (hb.cell (p := ⟨g, 1, none⟩) h.lt hX).trans h.2.1, (hb.cell (p := ⟨g, 2, none⟩) h.lt hX).trans h.2.2⟩
theorem TBox.later {W W' : World} {g : Nat} {S : Int} {v1 v2 : Value} (h : TBox W g S v1 v2) (hb : Below W.heap.size W W') : TBox W' g S v1 v2 := h.but (X := []) (But.of_below hb) (by simp)

set_option maxHeartbeats 1000000 in
set_option maxRecDepth 100000 in
theorem tcheck_range (S : Int) (v1 v2 : Value) (w : World) (h : ¬ (1 ≤ S ∧ S ≤ 6)) :
    Calls Tryz.prog 17 #[.agg #[.int .i64 S, v1, v2]] w fun e w' => e = .returned (.iface 57 (.int .i64 1)) ∧ Below w.heap.size w w' := by
  have HB0 : Hid (Below w.heap.size w (w.alloc (Obj.cells #[.int .i64 S, v1, v2] 25))) := (Below.refl _ _).alloc (Nat.le_refl _) _
  by_cases h1 : S < 1
  · clear h
    go_enter Tryz.func17, Tryz.ntmps17
    go_wp2
    go_ret
    exact ⟨rfl, HB0.out⟩
  · have h6 : 6 < S := by omega
    clear h
    go_enter Tryz.func17, Tryz.ntmps17
    go_wp2
    go_ret
    exact ⟨rfl, HB0.out⟩
set_option maxHeartbeats 1000000 in
set_option maxRecDepth 100000 in
theorem check_full (S : Int) (ao : Option Addr) (n cap : Nat) (ao2 : Option Addr) (n2 cap2 : Nat) (w : World) (h1 : 1 ≤ S) (h6 : S ≤ 6) (h : 200 < n ∨ 8 < n2) :
    Calls Tryz.prog 17 #[.agg #[.int .i64 S, .slice ao n cap, .slice ao2 n2 cap2]] w fun e w' => e = .returned (.iface 57 (.int .i64 4)) ∧ Below w.heap.size w w' := by
  have HB0 : Hid (Below w.heap.size w (w.alloc (Obj.cells #[.int .i64 S, .slice ao n cap, .slice ao2 n2 cap2] 25))) := (Below.refl _ _).alloc (Nat.le_refl _) _
  have g1 : ¬ S < 1 := by omega
  have g6 : ¬ 6 < S := by omega
  by_cases hn : (200 : Int) < (n : Int)
  · clear h
    go_enter Tryz.func17, Tryz.ntmps17
    go_wp2
    go_ret
    exact ⟨rfl, HB0.out⟩
  · have hn2 : (8 : Int) < (n2 : Int) := by omega
    clear h
    go_enter Tryz.func17, Tryz.ntmps17
    go_wp2
    go_ret
    exact ⟨rfl, HB0.out⟩

set_option maxHeartbeats 2000000 in
set_option maxRecDepth 100000 in
theorem check_walk (S : Int) (ao : Option Addr) (n cap : Nat) (ao2 : Option Addr) (n2 cap2 : Nat) (Ls : List ((Int × Int) × (Int × Int))) (Hs : List (ByteArray × (Int × Int))) (w : World)
    (hL : GS lnkE w (.slice ao n cap) Ls) (hH : GS hstE w (.slice ao2 n2 cap2) Hs) (h1 : 1 ≤ S) (h6 : S ≤ 6) (hn : n ≤ 200) (hn2 : n2 ≤ 8) (T : Int) (hT : T = tpN S Ls Hs) :
    Calls Tryz.prog 17 #[.agg #[.int .i64 S, .slice ao n cap, .slice ao2 n2 cap2]] w fun e w' => e = .returned (noV T) ∧ Below w.heap.size w w' := by
  obtain ⟨_, _, _, e1, hLn, _, _, hLa⟩ := hL.form
  cases e1
  obtain ⟨_, _, _, e2, hHn, _, _, hHa⟩ := hH.form
  cases e2
  have HLN : Hid (Ls.length = n) := hLn
  have HHN : Hid (Hs.length = n2) := hHn
  have HLA : Hid (0 < n → ∃ g o, ao = some ⟨g, o, none⟩ ∧ GAt lnkE w g o Ls ∧ cap ≤ maxLen) := hLa
  have HHA : Hid (0 < n2 → ∃ g o, ao2 = some ⟨g, o, none⟩ ∧ GAt hstE w g o Hs ∧ cap2 ≤ maxLen) := hHa
  have HT : Hid (T = if lkN S Ls [] = 0 then hoN S Hs [] (spsL Ls) else lkN S Ls []) := by
    show T = _
    rw [hT, tpN, if_pos (by simp [h1, h6]), if_pos (by simp [hLn, hHn, hn, hn2])]
  have g1 : ¬ S < 1 := by omega
  have g6 : ¬ 6 < S := by omega
  have gn : ¬ (200 : Int) < (n : Int) := by omega
  have gn2 : ¬ (8 : Int) < (n2 : Int) := by omega
  clear hL hH hLn hHn hLa hHa hT h1 h6
  have hX := tbox_new w S (.slice ao n cap) (.slice ao2 n2 cap2) 25
  have hB0 : Below w.heap.size w (w.alloc (Obj.cells #[.int .i64 S, .slice ao n cap, .slice ao2 n2 cap2] 25)) := (Below.refl _ _).alloc (Nat.le_refl _) _
  have HX : Hid (TBox (w.alloc (Obj.cells #[.int .i64 S, .slice ao n cap, .slice ao2 n2 cap2] 25)) w.heap.size S (.slice ao n cap) (.slice ao2 n2 cap2)) := hX
  have HB0 : Hid (Below w.heap.size w (w.alloc (Obj.cells #[.int .i64 S, .slice ao n cap, .slice ao2 n2 cap2] 25))) := hB0
  have hsz0 : (w.alloc (Obj.cells #[.int .i64 S, .slice ao n cap, .slice ao2 n2 cap2] 25)).heap.size = w.heap.size + 1 := by simp
  clear hX hB0
  go_enter Tryz.func17, Tryz.ntmps17
  go_upto_region 5 with fail
  generalize hw0 : w.alloc (Obj.cells #[.int .i64 S, .slice ao n cap, .slice ao2 n2 cap2] 25) = w0 at *
  have HW0 : Hid (w.alloc (Obj.cells #[.int .i64 S, .slice ao n cap, .slice ao2 n2 cap2] 25) = w0) := hw0
  have HSZ0 : Hid (w0.heap.size = w.heap.size + 1) := hsz0
  clear hw0 hsz0
  have hmk := run_makeMap (P := Tryz.prog) 99 w0
  have HM1 : Hid (MAt spotKey veI (w0.alloc (.map #[] 0)) w0.heap.size []) := mat_new spotKey veI w0
  have hbm : Below w0.heap.size w0 (w0.alloc (.map #[] 0)) := (Below.refl _ _).alloc (Nat.le_refl _) _
  have HX1 : Hid (TBox (w0.alloc (.map #[] 0)) w.heap.size S (.slice ao n cap) (.slice ao2 n2 cap2)) := HX.out.later hbm
  have HB1 : Hid (Below w.heap.size w (w0.alloc (.map #[] 0))) := HB0.out.trans (hbm.mono HB0.out.size)
  clear hbm
  obtain ⟨d0, d1, d2⟩ := HX1.out
  go_wp2
  clear d0 d1 d2
  obtain ⟨w1, hw1⟩ : ∃ x, w0.alloc (.map #[] 0) = x := ⟨_, rfl⟩
  obtain ⟨B, hBe⟩ : ∃ x, w0.heap.size = x := ⟨_, rfl⟩
  rw [hw1] at HX1 HB1
  rw [hw1, hBe] at HM1 ⊢
  have HBW : Hid (B = w.heap.size + 1) := by
    show B = _
    rw [← hBe, HSZ0.out]
  have HSZ1 : Hid (w1.heap.size = w.heap.size + 2) := by
    show _ = _
    rw [← hw1]
    have := HSZ0.out
    simp [this]
  clear hw1 hBe hmk HSZ0 HW0 HX HB0
  go_loopw [35] (fun i wr => ∃ k : Nat, k ≤ n ∧ i = .int .i64 k ∧ (∃ M, MAt spotKey veI wr B M ∧ TK sq M (spsL (Ls.take k))) ∧ lkN S Ls [] = lkN S (Ls.drop k) (spsL (Ls.take k)) ∧ But [B] w1 wr)
    (fun i _ => n - (intOf i).toNat)
  case atStart => exact ⟨0, by omega, rfl, ⟨[], HM1.out, by simpa [spsL] using tk_nil sq⟩, by simp [spsL], But.refl _ _⟩
  case round =>
    obtain ⟨k, hk, rfl, ⟨M, hM, hTK⟩, hlk, hBt⟩ := hrel
    have hnB : w.heap.size ∉ [B] := by simp [HBW.out]
    have hXr := HX1.out.but hBt hnB
    have hBw : Below w.heap.size w wr := HB1.out.trans (hBt.below (by rw [HSZ1.out]; omega) (by simp [HBW.out]))
    have HXr : Hid (TBox wr w.heap.size S (.slice ao n cap) (.slice ao2 n2 cap2)) := hXr
    have HBw : Hid (Below w.heap.size w wr) := hBw
    have HM : Hid (MAt spotKey veI wr B M) := hM
    have HTK : Hid (TK sq M (spsL (Ls.take k))) := hTK
    have HLK : Hid (lkN S Ls [] = lkN S (Ls.drop k) (spsL (Ls.take k))) := hlk
    have HBt : Hid (But [B] w1 wr) := hBt
    obtain ⟨b0, b1, b2⟩ := hXr
    have hlw : w.heap.size < wr.heap.size := World.block_lt_of_cell? _ _ b0
    clear hM hTK hlk hBt HM1
    by_cases hlt : k < n
    · obtain ⟨g, o, hao, hc, _⟩ := HLA.out (by omega)
      subst hao
      obtain ⟨x0, x1, x2, x3, hkl, hLk, q0, q1, q2, q3⟩ := lnk_at (hc.later hBw) HLN.out hlt
      have HLk : Hid (Ls[k] = ((x0, x1), (x2, x3))) := hLk
      have hBA : Below wr.heap.size wr (wr.alloc (Obj.cells #[Value.int IntKind.i64 x0, Value.int IntKind.i64 x1, Value.int IntKind.i64 x2, Value.int IntKind.i64 x3] 101)) := (Below.refl _ _).alloc (Nat.le_refl _) _
      have HBA : Hid (Below wr.heap.size wr (wr.alloc (Obj.cells #[Value.int IntKind.i64 x0, Value.int IntKind.i64 x1, Value.int IntKind.i64 x2, Value.int IntKind.i64 x3] 101))) := hBA
      have HUL : Hid ((spsL (Ls.take k)).length ≤ 1000) := by
        show _ ≤ 1000
        rw [sps_len, List.length_take]
        omega
      have HST : Hid (lkN S Ls [] = if lk1 S (spsL (Ls.take k)) ((x0, x1), (x2, x3)) = 0 then lkN S (Ls.drop (k + 1)) (spsL (Ls.take (k + 1))) else lk1 S (spsL (Ls.take k)) ((x0, x1), (x2, x3))) := by
        show _ = _
        rw [HLK.out, List.drop_eq_getElem_cons hkl, lk_step, hLk, sps_take hkl, hLk]
      have HSP : Hid (spsL (Ls.take (k + 1)) = spsL (Ls.take k) ++ [(x0, x1), (x2, x3)]) := by
        show _ = _
        rw [sps_take hkl, hLk]
      clear hLk hBA hBw hc HLA
      go_wp2_with fail
      refine (lay_any S x0 x1 x2 x3 B M _ _ (HM.out.later HBA.out) HTK.out HUL.out).mono ?_
      rintro e w3 ⟨rfl, hQ⟩
      have hst := HST.out
      generalize lk1 S (spsL (Ls.take k)) ((x0, x1), (x2, x3)) = N at hQ hst ⊢
      have HST2 : Hid (lkN S Ls [] = if N = 0 then lkN S (Ls.drop (k + 1)) (spsL (Ls.take (k + 1))) else N) := hst
      obtain ⟨M', hM', hTK', hBt'⟩ := hQ
      have HM' : Hid (MAt spotKey veI w3 B M') := hM'
      have HTK' : Hid (N = 0 → TK sq M' (spsL (Ls.take (k + 1)))) := fun h => by rw [HSP.out]; exact hTK' h
      have HBt3 : Hid (But [B] w1 w3) := (HBt.out.trans (But.of_below HBA.out)).trans hBt'
      have HBw3 : Hid (Below w.heap.size w w3) := HB1.out.trans (HBt3.out.below (by rw [HSZ1.out]; omega) (by simp [HBW.out]))
      clear hst HST hM' hTK' hBt' HSP HM HTK HLK HBt HBA HUL b0 b1 b2 q0 q1 q2 q3
      by_cases hN : N = 0
      · subst hN
        rw [no_ok rfl]
        have HTK2 : Hid (TK sq M' (spsL (Ls.take (k + 1)))) := HTK'.out rfl
        have HLK2 : Hid (lkN S Ls [] = lkN S (Ls.drop (k + 1)) (spsL (Ls.take (k + 1)))) := by
          show _ = _
          rw [HST2.out, if_pos rfl]
        clear HTK' HST2
        go_wp2
        go_roundw
        case rel => exact ⟨k + 1, by omega, by go_num, ⟨M', HM'.out, HTK2.out⟩, HLK2.out, HBt3.out⟩
        case measure => simp [intOf]; omega
      · rw [no_ne hN]
        have HTN : Hid (T = N) := by
          show _ = _
          have e := HST2.out
          rw [if_neg hN] at e
          rw [HT.out, e, if_neg hN]
        have HNN : Hid (N ≠ 0) := hN
        clear hN HTK' HST2
        go_wp2
        go_ret
        exact ⟨by rw [HTN.out, no_ne HNN.out]; rfl, HBw3.out⟩
    · obtain rfl : k = n := by omega
      have HLK0 : Hid (lkN S Ls [] = 0) := by
        show _ = _
        rw [HLK.out, ← HLN.out, List.drop_length]
        rfl
      have HTKL : Hid (TK sq M (spsL Ls)) := by
        show TK _ _ _
        have h := HTK.out
        rw [← HLN.out, List.take_length] at h
        exact h
      have HTL : Hid (T = hoN S Hs [] (spsL Ls)) := by
        show _ = _
        rw [HT.out, if_pos HLK0.out]
      have hwr := HBt.out.size
      rw [HSZ1.out] at hwr
      obtain ⟨w5, hw5⟩ : ∃ x, x = wr := ⟨_, rfl⟩
      subst hw5
      have HWR : Hid (w.heap.size + 2 ≤ w5.heap.size) := hwr
      clear HLK HTK HT HLK0 hBw hwr
      go_upto_region 13 with fail
      have hmk := run_makeMap (P := Tryz.prog) 103 w5
      have hbm : Below w5.heap.size w5 (w5.alloc (.map #[] 0)) := (Below.refl _ _).alloc (Nat.le_refl _) _
      have HM2 : Hid (MAt spotKey veI (w5.alloc (.map #[] 0)) B M) := HM.out.later hbm
      have HR2 : Hid (MAt strKey veI (w5.alloc (.map #[] 0)) w5.heap.size []) := mat_new strKey veI w5
      have hX2 : TBox (w5.alloc (.map #[] 0)) w.heap.size S (.slice ao k cap) (.slice ao2 n2 cap2) := HXr.out.later hbm
      have HX2 : Hid (TBox (w5.alloc (.map #[] 0)) w.heap.size S (.slice ao k cap) (.slice ao2 n2 cap2)) := hX2
      have HB2 : Hid (Below w.heap.size w (w5.alloc (.map #[] 0))) := HBw.out.trans (hbm.mono HBw.out.size)
      obtain ⟨d0, d1, d2⟩ := hX2
      clear hbm b0 b1 b2 HXr HBw HM HBt HX1 HB1
      go_wp2
      obtain ⟨w6, hw6⟩ : ∃ x, w5.alloc (.map #[] 0) = x := ⟨_, rfl⟩
      obtain ⟨C, hCe⟩ : ∃ x, w5.heap.size = x := ⟨_, rfl⟩
      rw [hw6] at HM2 HX2 HB2 d0 d1 d2
      rw [hw6, hCe] at HR2 ⊢
      have HC2 : Hid (w.heap.size + 2 ≤ C) := by
        show _ ≤ _
        rw [← hCe]
        exact HWR.out
      have HSZ6 : Hid (w6.heap.size = C + 1) := by
        show _ = _
        rw [← hw6, ← hCe]
        simp
      clear hw6 hCe hmk HWR
      go_loopw [52] (fun i wr => ∃ j : Nat, j ≤ n2 ∧ i = .int .i64 j ∧ (∃ M R, MAt spotKey veI wr B M ∧ MAt strKey veI wr C R ∧ TK sq M (spsL Ls ++ (Hs.take j).map (·.2)) ∧ TK (fun a b => a == b) R ((Hs.take j).map (·.1))) ∧ hoN S Hs [] (spsL Ls) = hoN S (Hs.drop j) ((Hs.take j).map (·.1)) (spsL Ls ++ (Hs.take j).map (·.2)) ∧ But [B, C] w6 wr)
        (fun i _ => n2 - (intOf i).toNat)
      case atStart => exact ⟨0, by omega, rfl, ⟨M, [], HM2.out, HR2.out, by simpa using HTKL.out, tk_nil _⟩, by simp, But.refl _ _⟩
      case round =>
        obtain ⟨j, hj, rfl, ⟨M3, R3, hM3, hR3, hTM3, hTR3⟩, hho, hBt⟩ := hrel
        have hnX : w.heap.size ∉ [B, C] := by
          have h1 := HBW.out
          have h2 := HC2.out
          simp only [List.mem_cons, List.not_mem_nil, or_false, not_or]
          omega
        have hBC : B ≠ C := by
          have h1 := HBW.out
          have h2 := HC2.out
          omega
        have hXr := HX2.out.but hBt hnX
        have hge : ∀ x ∈ [B, C], w.heap.size ≤ x := by
          have h1 := HBW.out
          have h2 := HC2.out
          intro x hx
          simp only [List.mem_cons, List.not_mem_nil, or_false] at hx
          omega
        have hsz6 : w.heap.size ≤ w6.heap.size := HB2.out.size
        have HGE : Hid (∀ x ∈ [B, C], w.heap.size ≤ x) := hge
        have hBw : Below w.heap.size w wr := HB2.out.trans (hBt.below hsz6 hge)
        have HBw : Hid (Below w.heap.size w wr) := hBw
        have HM3 : Hid (MAt spotKey veI wr B M3) := hM3
        have HR3 : Hid (MAt strKey veI wr C R3) := hR3
        have HTM3 : Hid (TK sq M3 (spsL Ls ++ (Hs.take j).map (·.2))) := hTM3
        have HTR3 : Hid (TK (fun a b => a == b) R3 ((Hs.take j).map (·.1))) := hTR3
        have HHO : Hid (hoN S Hs [] (spsL Ls) = hoN S (Hs.drop j) ((Hs.take j).map (·.1)) (spsL Ls ++ (Hs.take j).map (·.2))) := hho
        have HBt : Hid (But [B, C] w6 wr) := hBt
        have HBC : Hid (B ≠ C) := hBC
        obtain ⟨b0, b1, b2⟩ := hXr
        have hlw : w.heap.size < wr.heap.size := World.block_lt_of_cell? _ _ b0
        clear hM3 hR3 hTM3 hTR3 hho hBt HM2 HR2 hnX hge hBC d0 d1 d2
        by_cases hlt2 : j < n2
        · obtain ⟨g, o, hao, hc, _⟩ := HHA.out (by omega)
          subst hao
          obtain ⟨y0, y1, y2, hjl, hHk, q0, q1, q2⟩ := hst_at (hc.later hBw) HHN.out hlt2
          have HHk : Hid (Hs[j] = (y0, (y1, y2))) := hHk
          have HBA : Hid (Below wr.heap.size wr (wr.alloc (Obj.cells #[Value.string y0, Value.int IntKind.i64 y1, Value.int IntKind.i64 y2] 82))) := (Below.refl _ _).alloc (Nat.le_refl _) _
          have HUL : Hid ((spsL Ls ++ (Hs.take j).map (·.2)).length ≤ 1000) := by
            show _ ≤ 1000
            rw [List.length_append, sps_len, List.length_map, List.length_take, HLN.out]
            omega
          have HZL : Hid (((Hs.take j).map (·.1)).length ≤ 1000) := by
            show _ ≤ 1000
            rw [List.length_map, List.length_take]
            omega
          have HS2 : Hid (spsL Ls ++ (Hs.take (j + 1)).map (·.2) = (spsL Ls ++ (Hs.take j).map (·.2)) ++ [(y1, y2)]) := by
            show _ = _
            rw [List.take_succ_eq_append_getElem hjl, hHk]
            simp
          have HS1 : Hid ((Hs.take (j + 1)).map (·.1) = (Hs.take j).map (·.1) ++ [y0]) := by
            show _ = _
            rw [List.take_succ_eq_append_getElem hjl, hHk]
            simp
          have HST : Hid (hoN S Hs [] (spsL Ls) = if ho1 S ((Hs.take j).map (·.1)) (spsL Ls ++ (Hs.take j).map (·.2)) (y0, (y1, y2)) = 0 then hoN S (Hs.drop (j + 1)) ((Hs.take (j + 1)).map (·.1)) (spsL Ls ++ (Hs.take (j + 1)).map (·.2)) else ho1 S ((Hs.take j).map (·.1)) (spsL Ls ++ (Hs.take j).map (·.2)) (y0, (y1, y2))) := by
            show _ = _
            rw [HHO.out, List.drop_eq_getElem_cons hjl, ho_step, hHk, HS1.out, HS2.out]
          clear hHk hBw hc HHA HLA
          go_wp2_with fail
          refine (settle_any S y0 y1 y2 B C HBC.out M3 R3 _ _ _ (HM3.out.later HBA.out) (HR3.out.later HBA.out) HTM3.out HTR3.out HUL.out HZL.out).mono ?_
          rintro e w3 ⟨rfl, hQ⟩
          have hst := HST.out
          generalize ho1 S ((Hs.take j).map (·.1)) (spsL Ls ++ (Hs.take j).map (·.2)) (y0, (y1, y2)) = N at hQ hst ⊢
          have HST2 : Hid (hoN S Hs [] (spsL Ls) = if N = 0 then hoN S (Hs.drop (j + 1)) ((Hs.take (j + 1)).map (·.1)) (spsL Ls ++ (Hs.take (j + 1)).map (·.2)) else N) := hst
          obtain ⟨M', R', hM', hR', hTK', hBt'⟩ := hQ
          have HM' : Hid (MAt spotKey veI w3 B M') := hM'
          have HR' : Hid (MAt strKey veI w3 C R') := hR'
          have HTK' : Hid (N = 0 → TK sq M' (spsL Ls ++ (Hs.take (j + 1)).map (·.2)) ∧ TK (fun a b => a == b) R' ((Hs.take (j + 1)).map (·.1))) := fun h => by rw [HS1.out, HS2.out]; exact hTK' h
          have HBt3 : Hid (But [B, C] w6 w3) := (HBt.out.trans (But.of_below HBA.out)).trans hBt'
          have HBw3 : Hid (Below w.heap.size w w3) := HB2.out.trans (HBt3.out.below HB2.out.size HGE.out)
          clear hst HST hM' hR' hTK' hBt' HS1 HS2 HM3 HR3 HTM3 HTR3 HHO HBt HBA HUL HZL b0 b1 b2 q0 q1 q2
          by_cases hN : N = 0
          · subst hN
            rw [no_ok rfl]
            have HTK2 : Hid (TK sq M' (spsL Ls ++ (Hs.take (j + 1)).map (·.2)) ∧ TK (fun a b => a == b) R' ((Hs.take (j + 1)).map (·.1))) := HTK'.out rfl
            have HHO2 : Hid (hoN S Hs [] (spsL Ls) = hoN S (Hs.drop (j + 1)) ((Hs.take (j + 1)).map (·.1)) (spsL Ls ++ (Hs.take (j + 1)).map (·.2))) := by
              show _ = _
              rw [HST2.out, if_pos rfl]
            clear HTK' HST2
            go_wp2
            go_roundw
            case rel => exact ⟨j + 1, by omega, by go_num, ⟨M', R', HM'.out, HR'.out, HTK2.out.1, HTK2.out.2⟩, HHO2.out, HBt3.out⟩
            case measure => simp [intOf]; omega
          · rw [no_ne hN]
            have HTN : Hid (T = N) := by
              show _ = _
              rw [HTL.out, HST2.out, if_neg hN]
            have HNN : Hid (N ≠ 0) := hN
            clear hN HTK' HST2
            go_wp2
            go_ret
            exact ⟨by rw [HTN.out, no_ne HNN.out]; rfl, HBw3.out⟩
        · obtain rfl : j = n2 := by omega
          have HT0 : Hid (T = 0) := by
            show _ = _
            rw [HTL.out, HHO.out, ← HHN.out, List.drop_length]
            rfl
          clear hBw HHO HTM3 HTR3
          go_wp2
          go_ret
          exact ⟨by rw [HT0.out, no_ok rfl]; rfl, HBw.out⟩
theorem check_any (S : Int) (ao : Option Addr) (n cap : Nat) (ao2 : Option Addr) (n2 cap2 : Nat) (Ls : List ((Int × Int) × (Int × Int))) (Hs : List (ByteArray × (Int × Int))) (w : World)
    (hL : GS lnkE w (.slice ao n cap) Ls) (hH : GS hstE w (.slice ao2 n2 cap2) Hs) :
    Calls Tryz.prog 17 #[.agg #[.int .i64 S, .slice ao n cap, .slice ao2 n2 cap2]] w fun e w' => e = .returned (noV (tpN S Ls Hs)) ∧ Below w.heap.size w w' := by
  have hLn := hL.len
  have hHn := hH.len
  by_cases h1 : 1 ≤ S ∧ S ≤ 6
  · by_cases h2 : n ≤ 200 ∧ n2 ≤ 8
    · exact check_walk S ao n cap ao2 n2 cap2 Ls Hs w hL hH h1.1 h1.2 h2.1 h2.2 _ rfl
    · have e : tpN S Ls Hs = 4 := by
        rw [tpN, if_pos (by simp [h1]), if_neg (by rw [hLn, hHn]; simpa using fun h => Nat.lt_of_not_le fun h3 => h2 ⟨h, h3⟩)]
      rw [e]
      exact check_full S ao n cap ao2 n2 cap2 w h1.1 h1.2 (by omega)
  · have e : tpN S Ls Hs = 1 := by
      rw [tpN, if_neg (by simpa using fun h => Int.lt_of_not_ge fun h3 => h1 ⟨h, h3⟩)]
    rw [e]
    exact tcheck_range S _ _ w h1
end Go.Proofs.YtpmcjelihdlfeaaGreatDoor
/- A region that draws its order and only reads, in a class of worlds: its operations, one by one, in the order of the text. -/
namespace Go.Proofs.YtpmcjelihdlfeaaGreatDoor
open Go.RowKit

theorem quiet_val {P : Program} {o : Oper} {a : Act} {C : World → Prop} {K : Act → Prop} {v : Value}
    (hy : ∀ w, C w → (execOp a.eval o).run P w = .ok (.value v) w) (h : K (a.put o.dst v)) : o.quiet P a C K :=
  ⟨v, fun w hC => by unfold Oper.quietAt; rw [hy w hC]; exact ⟨rfl, rfl⟩, h⟩
theorem quiet_call {P : Program} {o : Oper} {a : Act} {C : World → Prop} {K : Act → Prop} {v : Value} {f : FuncId} {args : Array Value}
    (he : ∀ w, (execOp a.eval o).run P w = .ok (.enter f args) w) (hc : ∀ w, C w → Calls P f args w fun e w'' => e = .returned v ∧ C w'') (h : K (a.put o.dst v)) : o.quiet P a C K :=
  ⟨v, fun w hC => by unfold Oper.quietAt; rw [he w]; exact ⟨rfl, hc w hC⟩, h⟩
theorem q_want {P : Program} {ops : Array Oper} {C : World → Prop} {Q : Act → Prop} {a : Act} {o : Oper} {rest : List Oper} (hw : Region.wanted o (yielded ops a.tmps) = true)
    (h : ∀ K : Act → Prop, (∀ a, wpQuiet P ops C Q rest a → K a) → o.quiet P a C K) : wpQuiet P ops C Q (o :: rest) a :=
  wpQuiet_step (fun K hK => by rw [if_pos hw]; exact h K hK)
theorem q_skip {P : Program} {ops : Array Oper} {C : World → Prop} {Q : Act → Prop} {a : Act} {o : Oper} {rest : List Oper} (hw : Region.wanted o (yielded ops a.tmps) = false)
    (h : wpQuiet P ops C Q rest (a.put o.dst undef)) : wpQuiet P ops C Q (o :: rest) a := by
  unfold wpQuiet
  rw [if_neg (by rw [hw]; exact Bool.false_ne_true)]
  exact h
/-- An operation on two values whose run is known. -/
theorem exec_bin {P : Program} {o : Oper} {a : Act} {w : World} {op : BinOp} {t t2 : TypeId} {x y : Operand} {v : Value} (ho : o.op = .binOp op t x y t2) (hg : (eqGuard op t x y (a.eval x) (a.eval y)).run P w = .ok () w)
    (h : (binOp op t (a.eval x) (a.eval y)).run P w = .ok v w) : (execOp a.eval o).run P w = .ok (.value v) w := by
  simp [execOp, ho, hg, h, Result.andThen]
theorem run_eql_of {P : Program} {w : World} {t : TypeId} {x y : Array Value} {b : Bool} (h : (Op.equal t (.agg x) (.agg y)).run P w = .ok b w) : (binOp .eql t (.agg x) (.agg y)).run P w = .ok (.bool b) w := by
  simp [binOp, h]
theorem run_neq_of {P : Program} {w : World} {t : TypeId} {x y : Array Value} {b : Bool} (h : (Op.equal t (.agg x) (.agg y)).run P w = .ok b w) : (binOp .neq t (.agg x) (.agg y)).run P w = .ok (.bool (!b)) w := by
  simp [binOp, h]
end Go.Proofs.YtpmcjelihdlfeaaGreatDoor
/- What package slices answers at slices of api.Host. Written by mk/slices.py. -/
namespace Go.Proofs.YtpmcjelihdlfeaaGreatDoor
open Go.RowKit
set_option linter.unusedSimpArgs false
set_option linter.unusedVariables false

/-- A closure that asks something, in whatever world behind this one. -/
def hstAsks (w : World) (f : FuncId) (c : Value) (P : ByteArray × (Int × Int) → Bool) : Prop :=
  ∀ (x0 : ByteArray) (x1 : Int) (x2 : Int) (W : World), Below w.heap.size w W → Calls Tryz.prog f #[.agg #[.string x0, .int .i64 x1, .int .i64 x2], c] W fun e w' => e = .returned (.bool (P (x0, (x1, x2)))) ∧ Below W.heap.size W w'
theorem hstAsks.later {w w' : World} {f : FuncId} {c : Value} {P : ByteArray × (Int × Int) → Bool} (h : hstAsks w f c P) (hb : Below w.heap.size w w') : hstAsks w' f c P :=
  fun x0 x1 x2 W hW => h x0 x1 x2 W (hb.trans (hW.mono hb.size))

set_option maxHeartbeats 1000000 in
theorem hst_idxF (ao : Option Addr) (n cap : Nat) (f : FuncId) (c : Value) (P : ByteArray × (Int × Int) → Bool) (L : List (ByteArray × (Int × Int))) (w : World) (hn : L.length = n) (hn2 : n ≤ maxLen) (ha : 0 < n → ∃ g o, ao = some ⟨g, o, none⟩ ∧ GAt hstE w g o L ∧ cap ≤ maxLen) (he : ∀ args w, (callFunc f args).run Tryz.prog w = .ok (.enter f args) w) (hf : hstAsks w f c P) :
    Calls Tryz.prog 98 #[.slice ao n cap, .func (Fn.func f) #[] #[c]] w fun e w' => e = .returned (.int .i64 (ixG P L)) ∧ Below w.heap.size w w' := by
  have HN : Hid (L.length = n) := hn
  have HF : Hid (hstAsks w f c P) := hf
  have HA : Hid (0 < n → ∃ g o, ao = some ⟨g, o, none⟩ ∧ GAt hstE w g o L ∧ cap ≤ maxLen) := ha
  unfold maxLen at hn2
  clear hn hf ha
  go_enter Tryz.func98, Tryz.ntmps98
  go_wp2
  go_loopw [8] (fun i wr => ∃ k : Nat, k ≤ n ∧ i = .int .i64 k ∧ (L.take k).any P = false ∧ Below w.heap.size w wr)
    (fun i _ => n - (intOf i).toNat)
  case atStart => exact ⟨0, by omega, rfl, by simp, Below.refl _ _⟩
  case round =>
    obtain ⟨k, hk, rfl, hno, hB⟩ := hrel
    have HB : Hid (Below w.heap.size w wr) := hB
    have HNO : Hid ((L.take k).any P = false) := hno
    clear hno
    by_cases hlt : k < n
    · obtain ⟨g, o, hao, hc, _⟩ := HA.out (by omega)
      subst hao
      obtain ⟨x0, x1, x2, hkl, hL, q0, q1, q2⟩ := hst_at (hc.later hB) HN.out hlt
      have HL : Hid (L[k] = (x0, (x1, x2))) := hL
      clear hL hB
      cases ho : P (x0, (x1, x2))
      · go_wp2_with fail
        refine (HF.out x0 x1 x2 _ HB.out).mono ?_
        rintro e w1 ⟨rfl, hb1⟩
        rw [ho]
        have HB1 := HB.out.trans (hb1.mono HB.out.size)
        clear hb1
        go_wp2
        go_roundw
        case rel => exact ⟨k + 1, by omega, by go_num, any_nextG hkl HNO.out (by rw [HL.out]; exact ho), HB1⟩
        case measure => simp [intOf]; omega
      · go_wp2_with fail
        refine (HF.out x0 x1 x2 _ HB.out).mono ?_
        rintro e w1 ⟨rfl, hb1⟩
        rw [ho]
        go_wp2
        go_ret
        exact ⟨by rw [ixG_hit hkl HNO.out (by rw [HL.out]; exact ho)]; rfl, HB.out.trans (hb1.mono HB.out.size)⟩
    · obtain rfl : k = n := by omega
      go_wp2
      go_ret
      exact ⟨by have := HNO.out; rw [← HN.out, List.take_length] at this; rw [ixG_no this]; rfl, HB.out⟩

end Go.Proofs.YtpmcjelihdlfeaaGreatDoor
/- What slices.ContainsFunc answers at hosts. -/
namespace Go.Proofs.YtpmcjelihdlfeaaGreatDoor
open Go.RowKit
set_option linter.unusedSimpArgs false
set_option linter.unusedVariables false

set_option maxHeartbeats 1000000 in
theorem hst_hasF (ao : Option Addr) (n cap : Nat) (f : FuncId) (c : Value) (P : ByteArray × (Int × Int) → Bool) (L : List (ByteArray × (Int × Int))) (w : World) (hn : L.length = n) (hn2 : n ≤ maxLen) (ha : 0 < n → ∃ g o, ao = some ⟨g, o, none⟩ ∧ GAt hstE w g o L ∧ cap ≤ maxLen) (he : ∀ args w, (callFunc f args).run Tryz.prog w = .ok (.enter f args) w) (hf : hstAsks w f c P) :
    Calls Tryz.prog 72 #[.slice ao n cap, .func (Fn.func f) #[] #[c]] w fun e w' => e = .returned (.bool (L.any P)) ∧ Below w.heap.size w w' := by
  rw [← ixG_any]
  obtain ⟨x, hx⟩ : ∃ x, x = ixG P L := ⟨_, rfl⟩
  have HX : Hid (x = ixG P L) := hx
  rw [← hx]
  clear hx
  go_enter Tryz.func72, Tryz.ntmps72
  go_wp2_with fail
  refine (hst_idxF ao n cap f c P L _ hn hn2 ha he hf).mono ?_
  rintro e w1 ⟨rfl, hb1⟩
  rw [← HX.out]
  go_wp2
  go_ret
  exact ⟨rfl, hb1⟩

end Go.Proofs.YtpmcjelihdlfeaaGreatDoor
/- What isWhat, isNameless, isVia, isAbout and isHost of package wish answer: contracts for the walks above them. -/
namespace Go.Proofs.YtpmcjelihdlfeaaGreatDoor
open Go.RowKit
set_option linter.unusedSimpArgs false
set_option linter.unusedVariables false

theorem emp_lst (s : ByteArray) : s.toList.isEmpty = (s == ByteArray.empty) := by
  have e : ByteArray.empty.toList = [] := by rw [Lib.toList_data]; rfl
  rw [beq_toListBytes, e]
  cases h : s.toList with
  | nil => rfl
  | cons a l => rfl
/-- The box of a wish. -/
def WiBox (W : World) (g : Nat) (k : Int) (f t : ByteArray) (v : Int) : Prop := W.cell? ⟨g, 0, none⟩ = some (.int .i64 k) ∧ W.cell? ⟨g, 1, none⟩ = some (.string f) ∧ W.cell? ⟨g, 2, none⟩ = some (.string t) ∧ W.cell? ⟨g, 3, none⟩ = some (.int .i64 v)
theorem wibox_new (w : World) (k : Int) (f t : ByteArray) (v : Int) (T : TypeId) : WiBox (w.alloc (Obj.cells #[.int .i64 k, .string f, .string t, .int .i64 v] T)) w.heap.size k f t v := by
  refine ⟨?_, ?_, ?_, ?_⟩ <;> simp
theorem WiBox.later {W W' : World} {g : Nat} {k : Int} {f t : ByteArray} {v : Int} (h : WiBox W g k f t v) (hb : Below W.heap.size W W') : WiBox W' g k f t v :=
  ⟨cell_later hb h.1, cell_later hb h.2.1, cell_later hb h.2.2.1, cell_later hb h.2.2.2⟩
theorem WiBox.lt {W : World} {g : Nat} {k : Int} {f t : ByteArray} {v : Int} (h : WiBox W g k f t v) : g < W.heap.size := World.block_lt_of_cell? _ _ h.1

set_option maxHeartbeats 1000000 in
theorem isWhat_any (k : Int) (w : World) :
    Calls Tryz.prog 44 #[.int .i64 k] w fun e w' => e = .returned (.bool (wkB k)) ∧ Below w.heap.size w w' := by
  by_cases h1 : 1 ≤ k
  · by_cases h2 : k ≤ 4
    · have e : wkB k = true := by simp [wkB, h1, h2]
      rw [e]
      clear e
      go_enter Tryz.func44, Tryz.ntmps44
      go_wp2
      go_ret
      exact ⟨rfl, Below.refl _ _⟩
    · have e : wkB k = false := by simp [wkB, h2]
      rw [e]
      clear e
      go_enter Tryz.func44, Tryz.ntmps44
      go_wp2
      go_ret
      exact ⟨rfl, Below.refl _ _⟩
  · have e : wkB k = false := by simp [wkB, h1]
    rw [e]
    clear e
    go_enter Tryz.func44, Tryz.ntmps44
    go_wp2
    go_ret
    exact ⟨rfl, Below.refl _ _⟩
set_option maxHeartbeats 1000000 in
set_option maxRecDepth 100000 in
theorem isAbout_any (k : Int) (f t : ByteArray) (v : Int) (m : ByteArray) (w : World) :
    Calls Tryz.prog 38 #[.agg #[.int .i64 k, .string f, .string t, .int .i64 v], .string m] w fun e w' => e = .returned (.bool (abW ⟨k, f, t, v⟩ m)) ∧ Below w.heap.size w w' := by
  have HB0 : Hid (Below w.heap.size w (w.alloc (Obj.cells #[Value.int IntKind.i64 k, Value.string f, Value.string t, Value.int IntKind.i64 v] 31))) := (Below.refl _ _).alloc (Nat.le_refl _) _
  by_cases h : k = 4
  · subst h
    rw [show abW ⟨4, f, t, v⟩ m = true from rfl]
    go_enter Tryz.func38, Tryz.ntmps38
    go_wp2
    go_ret
    exact ⟨rfl, HB0.out⟩
  · have e : abW ⟨k, f, t, v⟩ m = (k == 4 || f.toList == m.toList) := by rw [abW, ← beq_toListBytes]
    rw [e]
    clear e
    go_enter Tryz.func38, Tryz.ntmps38
    go_wp2
    go_ret
    exact ⟨rfl, HB0.out⟩
set_option maxHeartbeats 1000000 in
set_option maxRecDepth 100000 in
theorem isNameless_any (k : Int) (f t : ByteArray) (v : Int) (w : World) :
    Calls Tryz.prog 46 #[.agg #[.int .i64 k, .string f, .string t, .int .i64 v]] w fun e w' => e = .returned (.bool (nlB ⟨k, f, t, v⟩)) ∧ Below w.heap.size w w' := by
  have HB0 : Hid (Below w.heap.size w (w.alloc (Obj.cells #[Value.int IntKind.i64 k, Value.string f, Value.string t, Value.int IntKind.i64 v] 31))) := (Below.refl _ _).alloc (Nat.le_refl _) _
  cases hf : (f == ByteArray.empty)
  · have e : nlB ⟨k, f, t, v⟩ = false := by simp [nlB, hf]
    rw [e]
    rw [← emp_lst] at hf
    clear e
    go_enter Tryz.func46, Tryz.ntmps46
    go_wp2
    go_ret
    exact ⟨rfl, HB0.out⟩
  · have e : nlB ⟨k, f, t, v⟩ = t.toList.isEmpty := by simp [nlB, hf, emp_lst]
    rw [e]
    rw [← emp_lst] at hf
    clear e
    cases ht : t.toList.isEmpty
    · go_enter Tryz.func46, Tryz.ntmps46
      go_wp2
      go_ret
      exact ⟨rfl, HB0.out⟩
    · go_enter Tryz.func46, Tryz.ntmps46
      go_wp2
      go_ret
      exact ⟨rfl, HB0.out⟩
set_option maxHeartbeats 1000000 in
set_option maxRecDepth 100000 in
theorem isVia_any (k : Int) (f t : ByteArray) (v S : Int) (w : World) :
    Calls Tryz.prog 45 #[.agg #[.int .i64 k, .string f, .string t, .int .i64 v], .int .i64 S] w fun e w' => e = .returned (.bool (viB ⟨k, f, t, v⟩ S)) ∧ Below w.heap.size w w' := by
  have HB0 : Hid (Below w.heap.size w (w.alloc (Obj.cells #[Value.int IntKind.i64 k, Value.string f, Value.string t, Value.int IntKind.i64 v] 31))) := (Below.refl _ _).alloc (Nat.le_refl _) _
  by_cases h : k = 3
  · subst h
    rw [show viB ⟨3, f, t, v⟩ S = swB S v from rfl]
    go_enter Tryz.func45, Tryz.ntmps45
    go_wp2_with fail
    refine (isSwitch_any S v _).mono ?_
    rintro e w1 ⟨rfl, hb1⟩
    go_wp2
    go_ret
    exact ⟨rfl, HB0.out.trans (hb1.mono HB0.out.size)⟩
  · have e : viB ⟨k, f, t, v⟩ S = true := by simp [viB, h]
    rw [e]
    clear e
    go_enter Tryz.func45, Tryz.ntmps45
    go_wp2
    go_ret
    exact ⟨rfl, HB0.out⟩
set_option maxHeartbeats 1000000 in
set_option maxRecDepth 100000 in
theorem isHost1_any (n : ByteArray) (x0 x1 : Int) (B : Nat) (m : ByteArray) (w : World) (h0 : w.cell? ⟨B, 0, none⟩ = some (.string m)) :
    Calls Tryz.prog 73 #[.agg #[.string n, .int .i64 x0, .int .i64 x1], .pointer (some ⟨B, 0, none⟩)] w fun e w' => e = .returned (.bool (n == m)) ∧ Below w.heap.size w w' := by
  have hlt : B < w.heap.size := World.block_lt_of_cell? _ _ h0
  have HB0 : Hid (Below w.heap.size w (w.alloc (Obj.cells #[Value.string n, Value.int IntKind.i64 x0, Value.int IntKind.i64 x1] 82))) := (Below.refl _ _).alloc (Nat.le_refl _) _
  rw [beq_toListBytes]
  go_enter Tryz.func73, Tryz.ntmps73
  go_wp2
  go_ret
  exact ⟨rfl, HB0.out⟩
theorem isHost1_asks (B : Nat) (m : ByteArray) (w : World) (h0 : w.cell? ⟨B, 0, none⟩ = some (.string m)) : hstAsks w 73 (.pointer (some ⟨B, 0, none⟩)) (fun h => h.1 == m) :=
  fun n x0 x1 W hW => isHost1_any n x0 x1 B m W (cell_later hW h0)
set_option maxHeartbeats 1000000 in
set_option maxRecDepth 100000 in
theorem isHost_any (S : Int) (v1 : Value) (ao2 : Option Addr) (n2 cap2 : Nat) (Hs : List (ByteArray × (Int × Int))) (m : ByteArray) (w : World) (hv1 : v1.oneCell' = true) (hH : GS hstE w (.slice ao2 n2 cap2) Hs) :
    Calls Tryz.prog 47 #[.agg #[.int .i64 S, v1, .slice ao2 n2 cap2], .string m] w fun e w' => e = .returned (.bool (hoB Hs m)) ∧ Below w.heap.size w w' := by
  have e1 : (w.alloc (Obj.cells #[.int .i64 S, v1, .slice ao2 n2 cap2] 25)).heap.size = w.heap.size + 1 := by simp
  have hb1 : Below w.heap.size w (w.alloc (Obj.cells #[.int .i64 S, v1, .slice ao2 n2 cap2] 25)) := (Below.refl _ _).alloc (Nat.le_refl _) _
  have ht := tbox_new w S v1 (.slice ao2 n2 cap2) 25
  obtain ⟨w0, hw0⟩ : ∃ W, W = w.alloc (Obj.cells #[.int .i64 S, v1, .slice ao2 n2 cap2] 25) := ⟨_, rfl⟩
  rw [← hw0] at e1 hb1 ht
  have hb2 : Below w0.heap.size w0 (w0.alloc (Obj.cells #[.string m] 9)) := (Below.refl _ _).alloc (Nat.le_refl _) _
  have hm := vat_new w0 [.string m] 9
  have ht2 := ht.later hb2
  have hB2 := hb1.trans (hb2.mono hb1.size)
  obtain ⟨w2, hw2⟩ : ∃ W, W = w0.alloc (Obj.cells #[.string m] 9) := ⟨_, rfl⟩
  have hm2 : VAt w2 w0.heap.size 0 [.string m] := by rw [hw2]; exact hm
  rw [← hw2] at ht2 hB2
  rw [e1] at hm2
  have m0 : w2.cell? ⟨w.heap.size + 1, 0, none⟩ = some (.string m) := hm2 0 _ rfl
  obtain ⟨b0, b1, b2⟩ := ht2
  have HW : Hid ((w.alloc (Obj.cells #[.int .i64 S, v1, .slice ao2 n2 cap2] 25)).alloc (Obj.cells #[.string m] 9) = w2) := by
    show _ = _
    rw [hw2, hw0]
  have HB2 : Hid (Below w.heap.size w w2) := hB2
  obtain ⟨_, _, _, eH, hHn, hHm, _, hHa⟩ := hH.form
  cases eH
  have HHN : Hid (Hs.length = n2) := hHn
  have HHM : Hid (n2 ≤ maxLen) := hHm
  have HHA : Hid (0 < n2 → ∃ g o, ao2 = some ⟨g, o, none⟩ ∧ GAt hstE w2 g o Hs ∧ cap2 ≤ maxLen) := fun h => by
    obtain ⟨g, o, k1, k2, k3⟩ := hHa h
    exact ⟨g, o, k1, k2.later hB2, k3⟩
  have HM0 : Hid (w2.cell? ⟨w.heap.size + 1, 0, none⟩ = some (.string m)) := m0
  clear hb1 ht hw0 hb2 hm hw2 hm2 hB2 hHn hHm hHa hH e1 m0
  go_enter Tryz.func47, Tryz.ntmps47
  go_upto_region 1 with fail
  rw [HW.out]
  clear HW
  go_wp2_with fail
  refine (hst_hasF ao2 n2 cap2 _ _ (fun h => h.1 == m) Hs _ HHN.out HHM.out HHA.out (enters_of Tryz.func73 (by kernel_rfl) rfl) (isHost1_asks _ m _ HM0.out)).mono ?_
  rintro e w3 ⟨rfl, hb3⟩
  rw [show (Hs.any fun h => h.1 == m) = hoB Hs m from rfl]
  go_wp2
  go_ret
  exact ⟨rfl, HB2.out.trans (hb3.mono HB2.out.size)⟩
end Go.Proofs.YtpmcjelihdlfeaaGreatDoor
/- The struct api.Hop: its cells, slices of them, == of two, such that came in. Written by mk/struct.py. -/
namespace Go.Proofs.YtpmcjelihdlfeaaGreatDoor
open Go.ChangeShapes Go.WideShapes Go.ChangeAt Go.RowKit Go.Joins
set_option linter.unusedSimpArgs false
set_option linter.unusedVariables false
set_option maxRecDepth 100000

def hopE : Enc ((Int × Int) × Int) where
  c := fun x => [.int .i64 x.1.1, .int .i64 x.1.2, .int .i64 x.2]
  n := 3
  len := fun _ => rfl
  pos := by decide
  one := by
    intro x u hu
    simp at hu
    rcases hu with rfl | rfl | rfl <;> rfl
theorem hop_cells {w : World} {g o : Nat} {x0 : Int} {x1 : Int} {x2 : Int} (h : VAt w g o (hopE.c ((x0, x1), x2))) : w.cell? ⟨g, o, none⟩ = some (.int .i64 x0) ∧ w.cell? ⟨g, o + 1, none⟩ = some (.int .i64 x1) ∧ w.cell? ⟨g, o + 2, none⟩ = some (.int .i64 x2) :=
  ⟨h 0 _ rfl, h 1 _ rfl, h 2 _ rfl⟩
theorem hop_at {w : World} {g o : Nat} {L : List ((Int × Int) × Int)} (h : GAt hopE w g o L) {n k : Nat} (hn : L.length = n) (hk : k < n) :
    ∃ (x0 : Int) (x1 : Int) (x2 : Int) (hl : k < L.length), L[k] = ((x0, x1), x2) ∧ w.cell? ⟨g, o + k * 3, none⟩ = some (.int .i64 x0) ∧ w.cell? ⟨g, o + k * 3 + 1, none⟩ = some (.int .i64 x1) ∧ w.cell? ⟨g, o + k * 3 + 2, none⟩ = some (.int .i64 x2) :=
  have hl : k < L.length := by omega
  ⟨_, _, _, hl, rfl, hop_cells (h k hl)⟩
theorem hop_new (w : World) (x0 : Int) (x1 : Int) (x2 : Int) (t : TypeId) : VAt (w.alloc (Obj.cells #[.int .i64 x0, .int .i64 x1, .int .i64 x2] t)) w.heap.size 0 (hopE.c ((x0, x1), x2)) := vat_new w [.int .i64 x0, .int .i64 x1, .int .i64 x2] t
theorem hop_row (w : World) (x0 : Int) (x1 : Int) (x2 : Int) (t : TypeId) : GS hopE (w.alloc (Obj.cells #[.int .i64 x0, .int .i64 x1, .int .i64 x2] t)) (.slice (some ⟨w.heap.size, 0, none⟩) 1 1) [((x0, x1), x2)] := gs_one (E := hopE) w ((x0, x1), x2) t (vs := [.int .i64 x0, .int .i64 x1, .int .i64 x2]) rfl
/-- Are two the same? -/
def hopB (a b : (Int × Int) × Int) : Bool := (a.1.1 == b.1.1) && ((a.1.2 == b.1.2) && ((a.2 == b.2)))
theorem hopB_iff (a b : (Int × Int) × Int) : hopB a b = true ↔ a = b := by
  have e : hopB a b = ((a.1.1 == b.1.1) && ((a.1.2 == b.1.2) && ((a.2 == b.2)))) := rfl
  rw [e]
  simp only [Bool.and_eq_true, beq_iff_eq]
  constructor
  · intro h
    obtain ⟨⟨a0, a1⟩, a2⟩ := a; obtain ⟨⟨b0, b1⟩, b2⟩ := b; simp at h ⊢; simp [h]
  · intro h
    subst h
    simp
theorem hop_ways (x0 : Int) (x1 : Int) (x2 : Int) (y0 : Int) (y1 : Int) (y2 : Int) :
    ((x0 == y0) = false ∧ hopB ((x0, x1), x2) ((y0, y1), y2) = false) ∨
    ((x0 == y0) = true ∧ (x1 == y1) = false ∧ hopB ((x0, x1), x2) ((y0, y1), y2) = false) ∨
    ((x0 == y0) = true ∧ (x1 == y1) = true ∧ (x2 == y2) = false ∧ hopB ((x0, x1), x2) ((y0, y1), y2) = false) ∨
    ((x0 == y0) = true ∧ (x1 == y1) = true ∧ (x2 == y2) = true ∧ hopB ((x0, x1), x2) ((y0, y1), y2) = true) := by
  have e : hopB ((x0, x1), x2) ((y0, y1), y2) = ((x0 == y0) && ((x1 == y1) && ((x2 == y2)))) := rfl
  rw [e]
  cases h0 : (x0 == y0)
  · simp
  · skip
    cases h1 : (x1 == y1)
    · simp
    · skip
      cases h2 : (x2 == y2)
      · simp
      · skip
        simp
set_option maxRecDepth 100000 in
theorem hop_eq (x0 : Int) (x1 : Int) (x2 : Int) (y0 : Int) (y1 : Int) (y2 : Int) (w : World) : (Op.equal 92 (.agg #[.int .i64 x0, .int .i64 x1, .int .i64 x2]) (.agg #[.int .i64 y0, .int .i64 y1, .int .i64 y2])).run Tryz.prog w = .ok (hopB ((x0, x1), x2) ((y0, y1), y2)) w := by
  unfold Op.equal Op.maxDepth
  rw [run_equalIn_struct w 9999 _ _ _ (by kernel_rfl) (by kernel_rfl)]
  rcases hop_ways x0 x1 x2 y0 y1 y2 with ⟨e0, e⟩ | ⟨e0, e1, e⟩ | ⟨e0, e1, e2, e⟩ | ⟨e0, e1, e2, e⟩
  all_goals
    rw [e]
    go_simp
theorem hop_info : (Tryz.prog.info? 92).map (fun i => (i.zero, i.size, i.bytes)) = some (some (.agg #[.int .i64 0, .int .i64 0, .int .i64 0]), 3, 24) := by kernel_rfl
theorem hop_zero : (Value.agg #[.int .i64 0, .int .i64 0, .int .i64 0]).cells.size = 3 := by simp [Value.cells]
/-- Cells that read as one. -/
theorem hop_open {H : Type} {enc : TypeId × Value → H} {W : World} {n : Nat} {cs : List Value} {x : DataW H × List MemPlace}
    (h : DataW.trod enc Tryz.prog W 0 (fun _ => true) true n 92 cs = some x) : ∃ y, cs = hopE.c y := by
  obtain ⟨xs, k, _, _, hl, hlen, hf⟩ := DataW.trod_struct Tryz.underlying92 h
  have hC : Tryz.prog.cellsOf 92 = 3 := by kernel_rfl
  have hT0 : Tryz.prog.cellsOf 80 = 2 := by kernel_rfl
  have hT1 : Tryz.prog.cellsOf 3 = 1 := by kernel_rfl
  rw [hC] at hl
  match cs, hl with
  | [c0, c1, c2], _ =>
    match xs, hlen with
    | [z0, z1], _ =>
      have g0 := hf 0 _ rfl
      have g1 := hf 1 _ rfl
      simp [hT0, hT1] at g0 g1
      obtain ⟨s0, e0⟩ := spo_open g0
      obtain ⟨v2, e1, _, _⟩ := DataW.trod_int Tryz.underlying3 g1
      simp [spoE] at e0 e1
      refine ⟨((s0.1, s0.2), v2), ?_⟩
      simp [hopE, e0, e1]
set_option maxRecDepth 100000 in
/-- One that came in. -/
theorem hop_of {H : Type} {enc : TypeId × Value → H} {W : World} {base : Nat} {v : Value} {d : DataW H} {p : List MemPlace}
    (hv : Value.okWide Tryz.prog W .any base 92 v) (h : DataW.Trod enc Tryz.prog W 0 (fun _ => true) true 92 v d p) : ∃ (x0 : Int) (x1 : Int) (x2 : Int), v = .agg #[.int .i64 x0, .int .i64 x1, .int .i64 x2] := by
  obtain ⟨cs, rfl, hsz⟩ := okWide_struct Tryz.underlying92 hv
  obtain ⟨n, hn⟩ := h
  obtain ⟨y, e⟩ := hop_open hn
  refine ⟨y.1.1, y.1.2, y.2, ?_⟩
  simp only [Value.cells] at e
  have e2 : cs = #[.int .i64 y.1.1, .int .i64 y.1.2, .int .i64 y.2] := by
    rw [← Array.toArray_toList (xs := cs), e]
    rfl
  rw [e2]
/-- A slice of them that came in. -/
theorem hops_of {H : Type} {enc : TypeId × Value → H} {W : World} {base : Nat} {v : Value} {d : DataW H} {p : List MemPlace}
    (hv : Value.okWide Tryz.prog W .any base 32 v) (h : DataW.Trod enc Tryz.prog W 0 (fun _ => true) true 32 v d p) : ∃ L, GS hopE W v L :=
  gs_of (E := hopE) 32 92 Tryz.underlying32 (by kernel_rfl) ((0, 0), 0) (fun _ _ _ h => hop_open h) hv h
end Go.Proofs.YtpmcjelihdlfeaaGreatDoor
/- What package slices answers at slices of api.Hop. Written by mk/slices.py. -/
namespace Go.Proofs.YtpmcjelihdlfeaaGreatDoor
open Go.RowKit
set_option linter.unusedSimpArgs false
set_option linter.unusedVariables false

/-- A closure that asks something, in whatever world behind this one. -/
def hopAsks (w : World) (f : FuncId) (c : Value) (P : (Int × Int) × Int → Bool) : Prop :=
  ∀ (x0 : Int) (x1 : Int) (x2 : Int) (W : World), Below w.heap.size w W → Calls Tryz.prog f #[.agg #[.int .i64 x0, .int .i64 x1, .int .i64 x2], c] W fun e w' => e = .returned (.bool (P ((x0, x1), x2))) ∧ Below W.heap.size W w'
theorem hopAsks.later {w w' : World} {f : FuncId} {c : Value} {P : (Int × Int) × Int → Bool} (h : hopAsks w f c P) (hb : Below w.heap.size w w') : hopAsks w' f c P :=
  fun x0 x1 x2 W hW => h x0 x1 x2 W (hb.trans (hW.mono hb.size))

set_option maxHeartbeats 1000000 in
theorem hop_idxF (ao : Option Addr) (n cap : Nat) (f : FuncId) (c : Value) (P : (Int × Int) × Int → Bool) (L : List ((Int × Int) × Int)) (w : World) (hn : L.length = n) (hn2 : n ≤ maxLen) (ha : 0 < n → ∃ g o, ao = some ⟨g, o, none⟩ ∧ GAt hopE w g o L ∧ cap ≤ maxLen) (he : ∀ args w, (callFunc f args).run Tryz.prog w = .ok (.enter f args) w) (hf : hopAsks w f c P) :
    Calls Tryz.prog 65 #[.slice ao n cap, .func (Fn.func f) #[] #[c]] w fun e w' => e = .returned (.int .i64 (ixG P L)) ∧ Below w.heap.size w w' := by
  have HN : Hid (L.length = n) := hn
  have HF : Hid (hopAsks w f c P) := hf
  have HA : Hid (0 < n → ∃ g o, ao = some ⟨g, o, none⟩ ∧ GAt hopE w g o L ∧ cap ≤ maxLen) := ha
  unfold maxLen at hn2
  clear hn hf ha
  go_enter Tryz.func65, Tryz.ntmps65
  go_wp2
  go_loopw [8] (fun i wr => ∃ k : Nat, k ≤ n ∧ i = .int .i64 k ∧ (L.take k).any P = false ∧ Below w.heap.size w wr)
    (fun i _ => n - (intOf i).toNat)
  case atStart => exact ⟨0, by omega, rfl, by simp, Below.refl _ _⟩
  case round =>
    obtain ⟨k, hk, rfl, hno, hB⟩ := hrel
    have HB : Hid (Below w.heap.size w wr) := hB
    have HNO : Hid ((L.take k).any P = false) := hno
    clear hno
    by_cases hlt : k < n
    · obtain ⟨g, o, hao, hc, _⟩ := HA.out (by omega)
      subst hao
      obtain ⟨x0, x1, x2, hkl, hL, q0, q1, q2⟩ := hop_at (hc.later hB) HN.out hlt
      have HL : Hid (L[k] = ((x0, x1), x2)) := hL
      clear hL hB
      cases ho : P ((x0, x1), x2)
      · go_wp2_with fail
        refine (HF.out x0 x1 x2 _ HB.out).mono ?_
        rintro e w1 ⟨rfl, hb1⟩
        rw [ho]
        have HB1 := HB.out.trans (hb1.mono HB.out.size)
        clear hb1
        go_wp2
        go_roundw
        case rel => exact ⟨k + 1, by omega, by go_num, any_nextG hkl HNO.out (by rw [HL.out]; exact ho), HB1⟩
        case measure => simp [intOf]; omega
      · go_wp2_with fail
        refine (HF.out x0 x1 x2 _ HB.out).mono ?_
        rintro e w1 ⟨rfl, hb1⟩
        rw [ho]
        go_wp2
        go_ret
        exact ⟨by rw [ixG_hit hkl HNO.out (by rw [HL.out]; exact ho)]; rfl, HB.out.trans (hb1.mono HB.out.size)⟩
    · obtain rfl : k = n := by omega
      go_wp2
      go_ret
      exact ⟨by have := HNO.out; rw [← HN.out, List.take_length] at this; rw [ixG_no this]; rfl, HB.out⟩

set_option maxHeartbeats 1000000 in
theorem hop_hasF (ao : Option Addr) (n cap : Nat) (f : FuncId) (c : Value) (P : (Int × Int) × Int → Bool) (L : List ((Int × Int) × Int)) (w : World) (hn : L.length = n) (hn2 : n ≤ maxLen) (ha : 0 < n → ∃ g o, ao = some ⟨g, o, none⟩ ∧ GAt hopE w g o L ∧ cap ≤ maxLen) (he : ∀ args w, (callFunc f args).run Tryz.prog w = .ok (.enter f args) w) (hf : hopAsks w f c P) :
    Calls Tryz.prog 39 #[.slice ao n cap, .func (Fn.func f) #[] #[c]] w fun e w' => e = .returned (.bool (L.any P)) ∧ Below w.heap.size w w' := by
  rw [← ixG_any]
  obtain ⟨x, hx⟩ : ∃ x, x = ixG P L := ⟨_, rfl⟩
  have HX : Hid (x = ixG P L) := hx
  rw [← hx]
  clear hx
  go_enter Tryz.func39, Tryz.ntmps39
  go_wp2_with fail
  refine (hop_idxF ao n cap f c P L _ hn hn2 ha he hf).mono ?_
  rintro e w1 ⟨rfl, hb1⟩
  rw [← HX.out]
  go_wp2
  go_ret
  exact ⟨rfl, hb1⟩

end Go.Proofs.YtpmcjelihdlfeaaGreatDoor
/- What wish.Fits answers: a contract for the walks above it. -/
namespace Go.Proofs.YtpmcjelihdlfeaaGreatDoor
open Go.RowKit
set_option linter.unusedSimpArgs false
set_option linter.unusedVariables false

set_option maxHeartbeats 1000000 in
set_option maxRecDepth 100000 in
theorem fits1_any (x y h : Int) (B : Nat) (v : Int) (w : World) (h0 : w.cell? ⟨B, 3, none⟩ = some (.int .i64 v)) :
    Calls Tryz.prog 40 #[.agg #[.int .i64 x, .int .i64 y, .int .i64 h], .pointer (some ⟨B, 0, none⟩)] w fun e w' => e = .returned (.bool (x == v)) ∧ Below w.heap.size w w' := by
  have hlt : B < w.heap.size := World.block_lt_of_cell? _ _ h0
  have HB0 : Hid (Below w.heap.size w (w.alloc (Obj.cells #[Value.int IntKind.i64 x, Value.int IntKind.i64 y, Value.int IntKind.i64 h] 92))) := (Below.refl _ _).alloc (Nat.le_refl _) _
  go_enter Tryz.func40, Tryz.ntmps40
  go_wp2
  go_ret
  exact ⟨rfl, HB0.out⟩
theorem fits1_asks (B : Nat) (v : Int) (w : World) (h0 : w.cell? ⟨B, 3, none⟩ = some (.int .i64 v)) : hopAsks w 40 (.pointer (some ⟨B, 0, none⟩)) (fun h => h.1.1 == v) :=
  fun x y h W hW => fits1_any x y h B v W (cell_later hW h0)
theorem fi_off {w : Wi} {m : ByteArray} {F : Int × ByteArray × List ((Int × Int) × Int)} (h : abW w m = false) : fiB w m F = true := by simp [fiB, h]
/-- The boxes: a wish, a fate. -/
structure GBox (w W : World) (k : Int) (f t : ByteArray) (v : Int) (a : Int) (b : ByteArray) (c : Value) : Prop where
  below : Below w.heap.size w W
  x : WiBox W w.heap.size k f t v
  y0 : W.cell? ⟨w.heap.size + 1, 0, none⟩ = some (.int .i64 a)
  y1 : W.cell? ⟨w.heap.size + 1, 1, none⟩ = some (.string b)
  y2 : W.cell? ⟨w.heap.size + 1, 2, none⟩ = some c
theorem gbox_new (w : World) (k : Int) (f t : ByteArray) (v : Int) (a : Int) (b : ByteArray) (c : Value) : GBox w ((w.alloc (Obj.cells #[.int .i64 k, .string f, .string t, .int .i64 v] 31)).alloc (Obj.cells #[.int .i64 a, .string b, c] 34)) k f t v a b c := by
  have e1 : (w.alloc (Obj.cells #[.int .i64 k, .string f, .string t, .int .i64 v] 31)).heap.size = w.heap.size + 1 := by simp
  have hb : ∀ (W : World) (o : Obj), Below W.heap.size W (W.alloc o) := fun W o => (Below.refl _ _).alloc (Nat.le_refl _) _
  have hn := (wibox_new w k f t v 31).later (hb _ (Obj.cells #[.int .i64 a, .string b, c] 34))
  have hB := ((Below.refl w.heap.size w).alloc (Nat.le_refl _) (Obj.cells #[.int .i64 k, .string f, .string t, .int .i64 v] 31)).alloc (by rw [e1]; omega) (Obj.cells #[.int .i64 a, .string b, c] 34)
  generalize w.alloc (Obj.cells #[.int .i64 k, .string f, .string t, .int .i64 v] 31) = X at e1 hn hB
  have hr := vat_new X [.int .i64 a, .string b, c] 34
  rw [e1] at hr
  exact ⟨hB, hn, hr 0 _ rfl, hr 1 _ rfl, hr 2 _ rfl⟩
theorem GBox.later {w W W' : World} {k : Int} {f t : ByteArray} {v : Int} {a : Int} {b : ByteArray} {c : Value} (h : GBox w W k f t v a b c) (hb : Below W.heap.size W W') : GBox w W' k f t v a b c :=
  ⟨h.below.trans (hb.mono h.below.size), h.x.later hb, cell_later hb h.y0, cell_later hb h.y1, cell_later hb h.y2⟩

set_option maxHeartbeats 4000000 in
set_option maxRecDepth 100000 in
theorem fits_any (k : Int) (f t : ByteArray) (v : Int) (m : ByteArray) (a : Int) (b : ByteArray) (ao : Option Addr) (n cap : Nat) (l : List ((Int × Int) × Int)) (w : World) (hl : GS hopE w (.slice ao n cap) l) :
    Calls Tryz.prog 14 #[.agg #[.int .i64 k, .string f, .string t, .int .i64 v], .string m, .agg #[.int .i64 a, .string b, .slice ao n cap]] w fun e w' => e = .returned (.bool (fiB ⟨k, f, t, v⟩ m (a, b, l))) ∧ Below w.heap.size w w' := by
  have hX := gbox_new w k f t v a b (.slice ao n cap)
  obtain ⟨w0, hw0⟩ : ∃ W, (w.alloc (Obj.cells #[.int .i64 k, .string f, .string t, .int .i64 v] 31)).alloc (Obj.cells #[.int .i64 a, .string b, .slice ao n cap] 34) = W := ⟨_, rfl⟩
  rw [hw0] at hX
  have HX : Hid (GBox w w0 k f t v a b (.slice ao n cap)) := hX
  have HW0 : Hid ((w.alloc (Obj.cells #[.int .i64 k, .string f, .string t, .int .i64 v] 31)).alloc (Obj.cells #[.int .i64 a, .string b, .slice ao n cap] 34) = w0) := hw0
  have HL : Hid (∀ W, Below w.heap.size w W → GS hopE W (.slice ao n cap) l) := fun W hb => hl.later hb
  obtain ⟨R, hR⟩ : ∃ R, R = fiB ⟨k, f, t, v⟩ m (a, b, l) := ⟨_, rfl⟩
  have HR : Hid (R = fiB ⟨k, f, t, v⟩ m (a, b, l)) := hR
  rw [← hR]
  obtain ⟨AB, hAB⟩ : ∃ q, q = abW ⟨k, f, t, v⟩ m := ⟨_, rfl⟩
  have HAB : Hid (AB = abW ⟨k, f, t, v⟩ m) := hAB
  clear hX hw0 hl hR hAB
  go_enter Tryz.func14, Tryz.ntmps14
  go_upto_region 1 with fail
  rw [HW0.out]
  obtain ⟨_, ⟨x0, x1, x2, x3⟩, y0, y1, y2⟩ := HX.out
  clear HW0
  go_wp2_with fail
  refine (isAbout_any k f t v m _).mono ?_
  rintro e w1 ⟨rfl, hb1⟩
  rw [← HAB.out]
  have HX1 : Hid (GBox w w1 k f t v a b (.slice ao n cap)) := HX.out.later hb1
  clear hb1 HX x0 x1 x2 x3 y0 y1 y2
  obtain ⟨hB1, ⟨x0, x1, x2, x3⟩, y0, y1, y2⟩ := HX1.out
  have HB1 : Hid (Below w.heap.size w w1) := hB1
  clear hB1
  cases AB with
  | false =>
    have HR1 : Hid (R = true) := by
      show _ = _
      rw [HR.out, fi_off HAB.out.symm]
    go_wp2
    go_ret
    exact ⟨by rw [HR1.out]; rfl, HB1.out⟩
  | true =>
    obtain ⟨TH, hTH⟩ : ∃ q, q = (a == 1 && b.toList == t.toList) := ⟨_, rfl⟩
    have hTW : thW ⟨k, f, t, v⟩ (a, b, l) = TH := by rw [hTH, thW, ← beq_toListBytes]
    have HR1 : Hid (R = if k = 1 then TH else if k = 2 then !TH else if k = 3 then (!TH || haW v l) else if k = 4 then !(a == 4) else true) := by
      show _ = _
      rw [HR.out, fiB, if_pos HAB.out.symm, hTW]
    have HTH : Hid ((a == 1 && b.toList == t.toList) = TH) := hTH.symm
    clear hTH hTW HR HAB
    go_upto_region 3 with fail
    go_cut [7] from 12 to 22 (fun q w' => q = .bool TH ∧ w' = w1)
    case first =>
      by_cases a1 : a = 1
      · subst a1
        have h2 := HTH.out
        rw [show ((1 : Int) == 1 && b.toList == t.toList) = (b.toList == t.toList) from rfl] at h2
        go_wp2_with fail
        go_meet
        exact ⟨by rw [← h2], rfl⟩
      · have h2 := HTH.out
        rw [show (a == 1) = false from by simp [a1], Bool.false_and] at h2
        subst h2
        go_wp2_with fail
        go_meet
        exact ⟨rfl, rfl⟩
    case rest =>
    obtain ⟨rfl, hwc⟩ := hcut
    subst hwc
    by_cases k1 : k = 1
    · subst k1
      have HR2 : Hid (R = TH) := by
        show _ = _
        rw [HR1.out, if_pos rfl]
      clear HR1
      go_wp2
      go_ret
      exact ⟨by rw [HR2.out]; rfl, HB1.out⟩
    · by_cases k2 : k = 2
      · subst k2
        have HR2 : Hid (R = !TH) := by
          show _ = _
          rw [HR1.out, if_neg (by decide), if_pos rfl]
        clear HR1
        go_wp2
        go_ret
        exact ⟨by rw [HR2.out]; rfl, HB1.out⟩
      · by_cases k3 : k = 3
        · subst k3
          have HR2 : Hid (R = (!TH || haW v l)) := by
            show _ = _
            rw [HR1.out, if_neg (by decide), if_neg (by decide), if_pos rfl]
          clear HR1
          cases TH with
          | false =>
            go_wp2
            go_ret
            exact ⟨by rw [HR2.out]; rfl, HB1.out⟩
          | true =>
            obtain ⟨_, _, _, e5, hGn, hGm, _, hGa⟩ := (HL.out _ HB1.out).form
            cases e5
            have HGN : Hid (l.length = n) := hGn
            have HGM : Hid (n ≤ maxLen) := hGm
            have HGA : Hid (0 < n → ∃ g o, ao = some ⟨g, o, none⟩ ∧ GAt hopE wc g o l ∧ cap ≤ maxLen) := hGa
            clear hGn hGm hGa
            go_wp2_with fail
            refine (hop_hasF ao n cap _ _ (fun h => h.1.1 == v) l _ HGN.out HGM.out HGA.out (enters_of Tryz.func40 (by kernel_rfl) rfl) (fits1_asks _ v _ HX1.out.x.2.2.2)).mono ?_
            rintro e w2 ⟨rfl, hb2⟩
            rw [show (l.any fun h => h.1.1 == v) = haW v l from rfl]
            have HB2 : Hid (Below w.heap.size w w2) := HB1.out.trans (hb2.mono HB1.out.size)
            clear hb2
            go_wp2
            go_ret
            exact ⟨by rw [HR2.out]; rfl, HB2.out⟩
        · by_cases k4 : k = 4
          · subst k4
            have HR2 : Hid (R = !(a == 4)) := by
              show _ = _
              rw [HR1.out, if_neg (by decide), if_neg (by decide), if_neg (by decide), if_pos rfl]
            clear HR1
            go_wp2
            go_ret
            exact ⟨by rw [HR2.out]; rfl, HB1.out⟩
          · have HR2 : Hid (R = true) := by
              show _ = _
              rw [HR1.out, if_neg k1, if_neg k2, if_neg k3, if_neg k4]
            clear HR1
            go_wp2
            go_ret
            exact ⟨by rw [HR2.out]; rfl, HB1.out⟩
end Go.Proofs.YtpmcjelihdlfeaaGreatDoor
/- What railref1.Fits answers: a contract for the walks above it. -/
namespace Go.Proofs.YtpmcjelihdlfeaaGreatDoor
open Go.RowKit
set_option linter.unusedSimpArgs false
set_option linter.unusedVariables false

/-- The boxes and a hop: a class of worlds. -/
def CF (w : World) (gw gf : Nat) (v : Int) (c : Value) (g o : Nat) (x : Int) (w' : World) : Prop :=
  Below w.heap.size w w' ∧ w'.cell? ⟨gw, 3, none⟩ = some (.int .i64 v) ∧ w'.cell? ⟨gf, 2, none⟩ = some c ∧ w'.cell? ⟨g, o, none⟩ = some (.int .i64 x)
theorem CF.later {w W W' : World} {gw gf : Nat} {v : Int} {c : Value} {g o : Nat} {x : Int} (hb : Below W.heap.size W W') (h : CF w gw gf v c g o x W) : CF w gw gf v c g o x W' :=
  ⟨h.1.trans (hb.mono h.1.size), cell_later hb h.2.1, cell_later hb h.2.2.1, cell_later hb h.2.2.2⟩
set_option maxHeartbeats 4000000 in
set_option maxRecDepth 100000 in
theorem rfits_any (k : Int) (f t : ByteArray) (v : Int) (m : ByteArray) (a : Int) (b : ByteArray) (ao : Option Addr) (n cap : Nat) (l : List ((Int × Int) × Int)) (w : World) (hl : GS hopE w (.slice ao n cap) l) :
    Calls Tryz.prog 15 #[.agg #[.int .i64 k, .string f, .string t, .int .i64 v], .string m, .agg #[.int .i64 a, .string b, .slice ao n cap]] w fun e w' => e = .returned (.bool (fiB ⟨k, f, t, v⟩ m (a, b, l))) ∧ Below w.heap.size w w' := by
  have hX := gbox_new w k f t v a b (.slice ao n cap)
  obtain ⟨w0, hw0⟩ : ∃ W, (w.alloc (Obj.cells #[.int .i64 k, .string f, .string t, .int .i64 v] 31)).alloc (Obj.cells #[.int .i64 a, .string b, .slice ao n cap] 34) = W := ⟨_, rfl⟩
  rw [hw0] at hX
  have HX : Hid (GBox w w0 k f t v a b (.slice ao n cap)) := hX
  have HW0 : Hid ((w.alloc (Obj.cells #[.int .i64 k, .string f, .string t, .int .i64 v] 31)).alloc (Obj.cells #[.int .i64 a, .string b, .slice ao n cap] 34) = w0) := hw0
  have HL : Hid (∀ W, Below w.heap.size w W → GS hopE W (.slice ao n cap) l) := fun W hb => hl.later hb
  have HB0 : Hid (Below w.heap.size w w0) := hX.below
  obtain ⟨R, hR⟩ : ∃ R, R = fiB ⟨k, f, t, v⟩ m (a, b, l) := ⟨_, rfl⟩
  have HR : Hid (R = fiB ⟨k, f, t, v⟩ m (a, b, l)) := hR
  rw [← hR]
  clear hX hw0 hl hR
  go_enter Tryz.func15, Tryz.ntmps15
  go_upto_region 1 with fail
  rw [HW0.out]
  obtain ⟨_, ⟨x0, x1, x2, x3⟩, y0, y1, y2⟩ := HX.out
  clear HW0
  by_cases k4 : k = 4
  · subst k4
    have HR1 : Hid (R = !(a == 4)) := by
      show _ = _
      rw [HR.out, fiB, if_pos (show abW ⟨4, f, t, v⟩ m = true from rfl)]
      simp
    go_wp2
    go_ret
    exact ⟨by rw [HR1.out]; rfl, HB0.out⟩
  · obtain ⟨AB, hAB⟩ : ∃ q, q = (m.toList == f.toList) := ⟨_, rfl⟩
    have hab2 : abW ⟨k, f, t, v⟩ m = AB := by
      rw [hAB, abW, ← beq_toListBytes]
      simp only [show (k == 4) = false from by simp [k4], Bool.false_or]
      cases h : (f == m) with
      | true => rw [ba_eq.1 h]; exact (ba_eq.2 rfl).symm
      | false =>
        cases h2 : (m == f) with
        | false => rfl
        | true => rw [ba_eq.1 h2, ba_eq.2 rfl] at h; cases h
    have hne : (m.toList == f.toList) = AB := hAB.symm
    have HAB : Hid (abW ⟨k, f, t, v⟩ m = AB) := hab2
    clear hAB hab2
    cases AB with
    | false =>
      have HR1 : Hid (R = true) := by
        show _ = _
        rw [HR.out, fi_off HAB.out]
      have hne2 : (m.toList == f.toList) = false := hne
      clear hne
      go_wp2
      go_ret
      exact ⟨by rw [HR1.out]; rfl, HB0.out⟩
    | true =>
      have hne2 : (m.toList == f.toList) = true := hne
      clear hne
      obtain ⟨TH, hTH⟩ : ∃ q, q = (a == 1 && b.toList == t.toList) := ⟨_, rfl⟩
      have hTW : thW ⟨k, f, t, v⟩ (a, b, l) = TH := by rw [hTH, thW, ← beq_toListBytes]
      have HR1 : Hid (R = if k = 1 then TH else if k = 2 then !TH else if k = 3 then (!TH || haW v l) else if k = 4 then !(a == 4) else true) := by
        show _ = _
        rw [HR.out, fiB, if_pos HAB.out, hTW]
      have HTH : Hid ((a == 1 && b.toList == t.toList) = TH) := hTH.symm
      clear hTH hTW HR HAB
      go_upto_region 5 with fail
      clear hne2
      rw [show (k == 4) = false from by simp [k4]]
      go_cut [7] from 19 to 29 (fun q w' => q = .bool TH ∧ w' = w0)
      case first =>
        by_cases a1 : a = 1
        · subst a1
          have h2 := HTH.out
          rw [show ((1 : Int) == 1 && b.toList == t.toList) = (b.toList == t.toList) from rfl] at h2
          go_wp2_with fail
          go_meet
          exact ⟨by rw [← h2], rfl⟩
        · have h2 := HTH.out
          rw [show (a == 1) = false from by simp [a1], Bool.false_and] at h2
          subst h2
          go_wp2_with fail
          go_meet
          exact ⟨rfl, rfl⟩
      case rest =>
      obtain ⟨rfl, hwc⟩ := hcut
      subst hwc
      by_cases k1 : k = 1
      · subst k1
        have HR2 : Hid (R = TH) := by
          show _ = _
          rw [HR1.out, if_pos rfl]
        clear HR1
        go_wp2
        go_ret
        exact ⟨by rw [HR2.out]; rfl, HB0.out⟩
      · by_cases k2 : k = 2
        · subst k2
          have HR2 : Hid (R = !TH) := by
            show _ = _
            rw [HR1.out, if_neg (by decide), if_pos rfl]
          clear HR1
          go_wp2
          go_ret
          exact ⟨by rw [HR2.out]; rfl, HB0.out⟩
        · by_cases k3 : k = 3
          · subst k3
            have HR2 : Hid (R = (!TH || haW v l)) := by
              show _ = _
              rw [HR1.out, if_neg (by decide), if_neg (by decide), if_pos rfl]
            clear HR1
            cases TH with
            | false =>
              go_wp2
              go_ret
              exact ⟨by rw [HR2.out]; rfl, HB0.out⟩
            | true =>
              obtain ⟨_, _, _, e5, hGn, hGm, _, hGa⟩ := (HL.out _ HB0.out).form
              cases e5
              have HGN : Hid (l.length = n) := hGn
              have HGA : Hid (0 < n → ∃ g o, ao = some ⟨g, o, none⟩ ∧ GAt hopE wc g o l ∧ cap ≤ maxLen) := hGa
              have hnm : n ≤ maxLen := hGm
              unfold maxLen at hnm
              clear hGn hGm hGa
              go_wp2
              go_loopw [8] (fun i wr => ∃ j : Nat, j ≤ n ∧ i = .int .i64 j ∧ (l.take j).any (fun h => h.1.1 == v) = false ∧ Below wc.heap.size wc wr) (fun i _ => n - (intOf i).toNat)
              case atStart => exact ⟨0, by omega, rfl, by simp, Below.refl _ _⟩
              case round =>
                obtain ⟨j, hj, rfl, hno, hB⟩ := hrel
                have HB : Hid (Below wc.heap.size wc wr) := hB
                have HBw : Hid (Below w.heap.size w wr) := HB0.out.trans (hB.mono HB0.out.size)
                have HNO : Hid ((l.take j).any (fun h => h.1.1 == v) = false) := hno
                clear hno x0 x1 x2 x3 y0 y1 y2
                obtain ⟨_, ⟨x0, x1, x2, x3⟩, y0, y1, y2⟩ := HX.out.later hB
                by_cases hlt : j < n
                · obtain ⟨g, o, hao, hc, _⟩ := HGA.out (by omega)
                  subst hao
                  obtain ⟨h1, h2, h3, hkl, hLk, q0, q1, q2⟩ := hop_at (hc.later hB) HGN.out hlt
                  have HLk : Hid (l[j] = ((h1, h2), h3)) := hLk
                  have HCF : Hid (CF wr w.heap.size (w.heap.size + 1) v (.slice (some ⟨g, o, none⟩) n cap) g (o + j * 3) h1 wr) := ⟨Below.refl _ _, x3, y2, q0⟩
                  have kb0 : (0 : Int) ≤ (j : Int) := by omega
                  have kb1 : (j : Int) < (n : Int) := by omega
                  clear hc hLk hB q0 q1 q2
                  go_upto_region 15 with fail
                  clear x0 x1 x2 x3 y0 y1 y2
                  obtain ⟨P, hP⟩ : ∃ q, q = (h1 == v) := ⟨_, rfl⟩
                  have HP : Hid ((h1 == v) = P) := hP.symm
                  go_cut [61] from 52 to 62 (fun q w' => q = .bool P ∧ Below wr.heap.size wr w')
                  case first =>
                    refine wp_region_quiet (C := CF wr w.heap.size (w.heap.size + 1) v (.slice (some ⟨g, o, none⟩) n cap) g (o + j * 3) h1) (by kernel_rfl) (by kernel_rfl) (CF.later (W := wr) (Below.drew (Below.refl _ _)) HCF.out) ?_
                    simp only [List.toList_toArray]
                    go_big_quiet_want
                    refine quiet_val (v := .pointer (some ⟨w.heap.size + 1, 2, none⟩)) (fun w' hC => ?_) ?_
                    · obtain ⟨z0, z1, z2, z3⟩ := hC
                      go_simp
                    simp only [Act.put, List.setIfInBounds_toArray, List.set_cons_zero, List.set_cons_succ]
                    go_big_quiet_on
                    go_big_quiet_want
                    refine quiet_val (v := .slice (some ⟨g, o, none⟩) n cap) (fun w' hC => ?_) ?_
                    · obtain ⟨z0, z1, z2, z3⟩ := hC
                      go_simp
                    simp only [Act.put, List.setIfInBounds_toArray, List.set_cons_zero, List.set_cons_succ]
                    go_big_quiet_on
                    go_big_quiet_want
                    refine quiet_val (v := .int .i64 (j : Int)) (fun w' hC => ?_) ?_
                    · obtain ⟨z0, z1, z2, z3⟩ := hC
                      go_simp
                    simp only [Act.put, List.setIfInBounds_toArray, List.set_cons_zero, List.set_cons_succ]
                    go_big_quiet_on
                    go_big_quiet_want
                    refine quiet_val (v := .pointer (some ⟨g, o + j * 3, none⟩)) (fun w' hC => ?_) ?_
                    · obtain ⟨z0, z1, z2, z3⟩ := hC
                      go_simp
                    simp only [Act.put, List.setIfInBounds_toArray, List.set_cons_zero, List.set_cons_succ]
                    go_big_quiet_on
                    go_big_quiet_want
                    refine quiet_val (v := .pointer (some ⟨g, o + j * 3, none⟩)) (fun w' hC => ?_) ?_
                    · obtain ⟨z0, z1, z2, z3⟩ := hC
                      go_simp
                    simp only [Act.put, List.setIfInBounds_toArray, List.set_cons_zero, List.set_cons_succ]
                    go_big_quiet_on
                    go_big_quiet_want
                    refine quiet_val (v := .pointer (some ⟨g, o + j * 3, none⟩)) (fun w' hC => ?_) ?_
                    · obtain ⟨z0, z1, z2, z3⟩ := hC
                      go_simp
                    simp only [Act.put, List.setIfInBounds_toArray, List.set_cons_zero, List.set_cons_succ]
                    go_big_quiet_on
                    go_big_quiet_want
                    refine quiet_val (v := .int .i64 h1) (fun w' hC => ?_) ?_
                    · obtain ⟨z0, z1, z2, z3⟩ := hC
                      go_simp
                    simp only [Act.put, List.setIfInBounds_toArray, List.set_cons_zero, List.set_cons_succ]
                    go_big_quiet_on
                    go_big_quiet_want
                    refine quiet_val (v := .pointer (some ⟨w.heap.size, 3, none⟩)) (fun w' hC => ?_) ?_
                    · obtain ⟨z0, z1, z2, z3⟩ := hC
                      go_simp
                    simp only [Act.put, List.setIfInBounds_toArray, List.set_cons_zero, List.set_cons_succ]
                    go_big_quiet_on
                    go_big_quiet_want
                    refine quiet_val (v := .int .i64 v) (fun w' hC => ?_) ?_
                    · obtain ⟨z0, z1, z2, z3⟩ := hC
                      go_simp
                    simp only [Act.put, List.setIfInBounds_toArray, List.set_cons_zero, List.set_cons_succ]
                    go_big_quiet_on
                    go_big_quiet_want
                    refine quiet_val (v := .bool (h1 == v)) (fun w' hC => ?_) ?_
                    · obtain ⟨z0, z1, z2, z3⟩ := hC
                      go_simp
                    simp only [Act.put, List.setIfInBounds_toArray, List.set_cons_zero, List.set_cons_succ]
                    go_big_quiet_on
                    refine wpQuiet_nil ?_
                    intro w' hC
                    have HBY : Hid (Below wr.heap.size wr w') := hC.1
                    clear hC
                    go_wp2_with fail
                    go_meet
                    exact ⟨by rw [hP], HBY.out⟩
                  case rest =>
                    obtain ⟨rfl, hbc⟩ := hcut
                    have HBd : Hid (Below _ _ wc) := HB.out.trans (hbc.mono HB.out.size)
                    clear hbc hP
                    cases P with
                    | false =>
                      go_wp2
                      go_roundw
                      case rel => exact ⟨j + 1, by omega, by go_num, any_nextG hkl HNO.out (by rw [HLk.out]; exact HP.out), HBd.out⟩
                      case measure => simp [intOf]; omega
                    | true =>
                      have HR3 : Hid (R = true) := by
                        show _ = _
                        rw [HR2.out]
                        have : haW v l = true := any_hitG hkl (by rw [HLk.out]; exact HP.out)
                        rw [this]
                        rfl
                      go_wp2
                      go_ret
                      exact ⟨by rw [HR3.out]; rfl, HB0.out.trans (HBd.out.mono HB0.out.size)⟩
                · obtain rfl : j = n := by omega
                  have HR3 : Hid (R = false) := by
                    show _ = _
                    rw [HR2.out]
                    have h1 := HNO.out
                    rw [← HGN.out, List.take_length] at h1
                    have : haW v l = false := h1
                    rw [this]
                    rfl
                  go_wp2
                  go_ret
                  exact ⟨by rw [HR3.out]; rfl, HBw.out⟩
          · have HR2 : Hid (R = true) := by
              show _ = _
              rw [HR1.out, if_neg k1, if_neg k2, if_neg k3, if_neg k4]
            clear HR1
            go_wp2
            go_ret
            exact ⟨by rw [HR2.out]; rfl, HB0.out⟩
end Go.Proofs.YtpmcjelihdlfeaaGreatDoor
/- What railref1.Spot, Host, Named, Peer, Joined answer: contracts for the walks above them. -/
namespace Go.Proofs.YtpmcjelihdlfeaaGreatDoor
open Go.RowKit
set_option linter.unusedSimpArgs false
set_option linter.unusedVariables false

/-- Two boxes: a topology, a spot. -/
structure B2 (w W : World) (S : Int) (v1 v2 : Value) (x y : Int) : Prop where
  below : Below w.heap.size w W
  t : TBox W w.heap.size S v1 v2
  s0 : W.cell? ⟨w.heap.size + 1, 0, none⟩ = some (.int .i64 x)
  s1 : W.cell? ⟨w.heap.size + 1, 1, none⟩ = some (.int .i64 y)
theorem B2.later {w W W' : World} {S : Int} {v1 v2 : Value} {x y : Int} (h : B2 w W S v1 v2 x y) (hb : Below W.heap.size W W') : B2 w W' S v1 v2 x y :=
  ⟨h.below.trans (hb.mono h.below.size), h.t.later hb, cell_later hb h.s0, cell_later hb h.s1⟩
theorem b2_new (w : World) (S : Int) (v1 v2 : Value) (x y : Int) : B2 w ((w.alloc (Obj.cells #[.int .i64 S, v1, v2] 25)).alloc (Obj.cells #[.int .i64 x, .int .i64 y] 80)) S v1 v2 x y := by
  have hb1 : Below w.heap.size w (w.alloc (Obj.cells #[.int .i64 S, v1, v2] 25)) := (Below.refl _ _).alloc (Nat.le_refl _) _
  have h := spo_new (w.alloc (Obj.cells #[.int .i64 S, v1, v2] 25)) x y 80
  have e1 : (w.alloc (Obj.cells #[.int .i64 S, v1, v2] 25)).heap.size = w.heap.size + 1 := by simp
  rw [e1] at h
  obtain ⟨s0, s1⟩ := spo_cells h
  exact ⟨hb1.alloc hb1.size _, (tbox_new w S v1 v2 25).later ((Below.refl _ _).alloc (Nat.le_refl _) _), s0, s1⟩

set_option maxHeartbeats 1000000 in
set_option maxRecDepth 100000 in
theorem rspot_any (S : Int) (ao : Option Addr) (n cap : Nat) (ao2 : Option Addr) (n2 cap2 : Nat) (x y : Int) (w : World) :
    Calls Tryz.prog 48 #[.agg #[.int .i64 S, .slice ao n cap, .slice ao2 n2 cap2], .agg #[.int .i64 x, .int .i64 y]] w fun e w' => e = .returned (.bool (spB S (x, y))) ∧ Below w.heap.size w w' := by
  have HB : Hid (Below w.heap.size w ((w.alloc (Obj.cells #[.int .i64 S, .slice ao n cap, .slice ao2 n2 cap2] 25)).alloc (Obj.cells #[.int .i64 x, .int .i64 y] 80))) := (b2_new w S _ _ x y).below
  have hr : spB S (x, y) = (decide (1 ≤ x) && (decide (x ≤ S) && (decide (1 ≤ y) && decide (y ≤ 4)))) := rfl
  rw [hr]
  clear hr
  cases g1 : decide (1 ≤ x)
  · simp only [Bool.false_and]
    go_enter Tryz.func48, Tryz.ntmps48
    go_wp2
    go_ret
    exact ⟨rfl, HB.out⟩
  · cases g2 : decide (x ≤ S)
    · simp only [Bool.false_and, Bool.and_false]
      go_enter Tryz.func48, Tryz.ntmps48
      go_wp2
      go_ret
      exact ⟨rfl, HB.out⟩
    · cases g3 : decide (1 ≤ y)
      · simp only [Bool.false_and, Bool.and_false]
        go_enter Tryz.func48, Tryz.ntmps48
        go_wp2
        go_ret
        exact ⟨rfl, HB.out⟩
      · simp only [Bool.true_and]
        obtain ⟨r, hr⟩ : ∃ r, r = decide (y ≤ 4) := ⟨_, rfl⟩
        go_enter Tryz.func48, Tryz.ntmps48
        go_wp2
        go_ret
        exact ⟨rfl, HB.out⟩

set_option maxHeartbeats 2000000 in
set_option maxRecDepth 100000 in
theorem rhost_any (S : Int) (ao : Option Addr) (n cap : Nat) (ao2 : Option Addr) (n2 cap2 : Nat) (Hs : List (ByteArray × (Int × Int))) (x y : Int) (w : World) (hH : GS hstE w (.slice ao2 n2 cap2) Hs) :
    Calls Tryz.prog 88 #[.agg #[.int .i64 S, .slice ao n cap, .slice ao2 n2 cap2], .agg #[.int .i64 x, .int .i64 y]] w fun e w' => e = .returned (.int .i64 (atN Hs (x, y))) ∧ Below w.heap.size w w' := by
  obtain ⟨_, _, _, e1, hHn, hHm, _, hHa⟩ := hH.form
  cases e1
  have HHN : Hid (Hs.length = n2) := hHn
  have n63 : n2 ≤ 9223372036854775807 := by unfold maxLen at hHm; omega
  have HHA : Hid (0 < n2 → ∃ g o, ao2 = some ⟨g, o, none⟩ ∧ GAt hstE w g o Hs ∧ cap2 ≤ maxLen) := hHa
  have hX := b2_new w S (.slice ao n cap) (.slice ao2 n2 cap2) x y
  obtain ⟨w0, hw0⟩ : ∃ W, (w.alloc (Obj.cells #[.int .i64 S, .slice ao n cap, .slice ao2 n2 cap2] 25)).alloc (Obj.cells #[.int .i64 x, .int .i64 y] 80) = W := ⟨_, rfl⟩
  rw [hw0] at hX
  have HX : Hid (B2 w w0 S (.slice ao n cap) (.slice ao2 n2 cap2) x y) := hX
  have HW0 : Hid ((w.alloc (Obj.cells #[.int .i64 S, .slice ao n cap, .slice ao2 n2 cap2] 25)).alloc (Obj.cells #[.int .i64 x, .int .i64 y] 80) = w0) := hw0
  clear hH hHn hHm hHa hX hw0
  go_enter Tryz.func88, Tryz.ntmps88
  go_wp2
  rw [HW0.out]
  go_loopw [5] (fun i wr => ∃ k : Nat, k ≤ n2 ∧ i = .int .i64 k ∧ (Hs.take k).any (fun h => sq h.2 (x, y)) = false ∧ B2 w wr S (.slice ao n cap) (.slice ao2 n2 cap2) x y) (fun i _ => n2 - (intOf i).toNat)
  case atStart => exact ⟨0, by omega, rfl, by simp, HX.out⟩
  case round =>
    obtain ⟨k, hk, rfl, hno, hXr⟩ := hrel
    have HX2 : Hid (B2 w wr S (.slice ao n cap) (.slice ao2 n2 cap2) x y) := hXr
    have HNO : Hid ((Hs.take k).any (fun h => sq h.2 (x, y)) = false) := hno
    obtain ⟨_, ⟨b0, b1, b2⟩, s0, s1⟩ := hXr
    have hlt1 : w.heap.size < wr.heap.size := World.block_lt_of_cell? _ _ b0
    have hlt2 : w.heap.size + 1 < wr.heap.size := World.block_lt_of_cell? _ _ s0
    clear hno HW0 HX
    by_cases hlt : k < n2
    · obtain ⟨g, o, hao, hc, _⟩ := HHA.out (by omega)
      subst hao
      obtain ⟨y0, y1, y2, hkl, hHk, q0, q1, q2⟩ := hst_at (hc.later HX2.out.below) HHN.out hlt
      have HHK : Hid (Hs[k] = (y0, (y1, y2))) := hHk
      have hr : sq (y1, y2) (x, y) = (y1 == x && y2 == y) := rfl
      clear hHk hc
      cases ho : sq (y1, y2) (x, y)
      · rw [hr] at ho
        have HN1 : Hid ((Hs.take (k + 1)).any (fun h => sq h.2 (x, y)) = false) := any_nextG hkl HNO.out (by rw [HHK.out]; exact ho)
        cases g1 : (y1 == x) <;> cases g2 : (y2 == y)
        · clear ho hr
          go_wp2_with fail
          go_region
          go_wp2
          go_roundw
          case rel => exact ⟨k + 1, by omega, by go_num, HN1.out, HX2.out.later (Below.drew (Below.refl _ _))⟩
          case measure => simp [intOf]; omega
        · clear ho hr
          go_wp2_with fail
          go_region
          go_wp2
          go_roundw
          case rel => exact ⟨k + 1, by omega, by go_num, HN1.out, HX2.out.later (Below.drew (Below.refl _ _))⟩
          case measure => simp [intOf]; omega
        · clear ho hr
          go_wp2_with fail
          go_region
          go_wp2
          go_roundw
          case rel => exact ⟨k + 1, by omega, by go_num, HN1.out, HX2.out.later (Below.drew (Below.refl _ _))⟩
          case measure => simp [intOf]; omega
        · rw [g1, g2] at ho
          cases ho
      · have HR : Hid (atN Hs (x, y) = k) := ixG_hit hkl HNO.out (by rw [HHK.out]; exact ho)
        rw [hr, Bool.and_eq_true] at ho
        obtain ⟨g1, g2⟩ := ho
        clear hr
        go_wp2_with fail
        go_region
        go_wp2
        go_ret
        exact ⟨by rw [HR.out]; rfl, (HX2.out.later (Below.drew (Below.refl _ _))).below⟩
    · obtain rfl : k = n2 := by omega
      have HR : Hid (atN Hs (x, y) = -1) := by
        have := HNO.out
        rw [← HHN.out, List.take_length] at this
        exact ixG_no this
      go_wp2
      go_ret
      exact ⟨by rw [HR.out]; rfl, HX2.out.below⟩
end Go.Proofs.YtpmcjelihdlfeaaGreatDoor
