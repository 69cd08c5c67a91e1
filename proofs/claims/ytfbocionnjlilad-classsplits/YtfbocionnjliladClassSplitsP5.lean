/- Contracts and facts on the way to ClassSplits, joined into one text: ClassPathC, SlEqual, SlLists, ClassAlike1, ClassTwo, OwnInts, ClassAlike, ClassRep, SlNum, NetMath2, LineMath, NetMath3, ClassFns, RuleOf. -/
import Derived.Test.YtfbocionnjliladClassSplitsP1
import Derived.Test.YtfbocionnjliladClassSplitsP4
import Derived.Test.YtfbocionnjliladClassSplitsP2
import Derived.Test.YtfbocionnjliladRows
import Derived.WalkKit
import Derived.WalkSpells
import Derived.Below
import Derived.BigQuiet
import Derived.Deep.QuietTactic
import Derived.Shelf.Abstract
import Derived.Deep.RegionHeld3
import Derived.Deep.CutRange
import Derived.Deep.CutBlock
import Derived.ProofKit
import Derived.OpenShut
import Derived.ChangeOld
import Derived.Lib.SmallJoins
/- What class.path answers: a contract for the walks above it. -/
namespace Go.Proofs.Ytfbocionnjlilad
open Go.RowKit
set_option linter.unusedSimpArgs false
set_option linter.unusedVariables false

theorem set_mid {α : Type} (A : List α) (m : Nat) (z x : α) {k : Nat} (hk : A.length = k) : (A ++ List.replicate (m + 1) z).set k x = (A ++ [x]) ++ List.replicate m z := by
  subst hk
  rw [List.set_append_right _ _ (Nat.le_refl _), Nat.sub_self, List.replicate_succ, List.set_cons_zero, List.append_assoc]
  rfl
/-- The places so far, then noughts. -/
def plL (Ts : List (List Ru)) (h : Int) (n k : Nat) : List Int := pthL (Ts.take k) h ++ List.replicate (n - k) 0
theorem pl_len {Ts : List (List Ru)} {h : Int} {n k : Nat} (hn : Ts.length = n) (hk : k ≤ n) : (plL Ts h n k).length = n := by
  unfold plL
  rw [List.length_append, pth_len, List.length_take, List.length_replicate]
  omega
theorem pl_next {Ts : List (List Ru)} {h : Int} {n k : Nat} (hn : Ts.length = n) (hk : k < n) : (plL Ts h n k).set k (beTo (Ts.getD k []) h (Ts.getD k []).length) = plL Ts h n (k + 1) := by
  unfold plL
  rw [show n - k = (n - (k + 1)) + 1 by omega, set_mid _ _ _ _ (by rw [pth_len, List.length_take]; omega), pth_next Ts h k (by omega)]
theorem pl_0 {Ts : List (List Ru)} {h : Int} {n : Nat} : plL Ts h n 0 = List.replicate n 0 := by
  simp [plL, pthL]
theorem pl_all {Ts : List (List Ru)} {h : Int} {n : Nat} (hn : Ts.length = n) : plL Ts h n n = pthL Ts h := by
  unfold plL
  rw [List.take_of_length_le (by omega)]
  simp

set_option maxHeartbeats 2000000 in
set_option maxRecDepth 100000 in
theorem path_any (ao : Option Addr) (n cap : Nat) (Ts : List (List Ru)) (h : Int) (w : World) (hT : TS w (.slice ao n cap) Ts) (hn8 : n ≤ 8) :
    Calls Try.prog 19 #[.slice ao n cap, .int .i64 h] w fun e w' => e = .returned (.slice (some ⟨w.heap.size, 0, none⟩) n n) ∧ w'.ownsRow w.heap.size 3 inE.n (.slice (some ⟨w.heap.size, 0, none⟩) n n) (pthL Ts h).length (cellsG inE (pthL Ts h)) ∧ Below w.heap.size w w' := by
  obtain ⟨_, _, _, e1, hTn, hTm, _, hTa⟩ := hT.form
  cases e1
  have HTN : Hid (Ts.length = n) := hTn
  have HTA : Hid (0 < n → ∃ g o, ao = some ⟨g, o, none⟩ ∧ TAt w g o Ts ∧ cap ≤ maxLen) := hTa
  obtain ⟨i0, hi, hz0, hz1, hz2⟩ := info_parts infoInt
  obtain ⟨w1, hmk, hown0, hgr⟩ := run_make_full (P := Try.prog) w w.heap.size 40 3 i0 (.int .i64 0) 1 Try.underlying40 hi hz0 hz1 .i64 .i64 n (by rw [hz2]; omega) (by unfold maxLen; omega) (Nat.le_refl _)
  have hb1 : Below w.heap.size w w1 := ⟨hgr.os, hgr.tape, hgr.output, hgr.size, fun k hk => hgr.block k hk (by simp)⟩
  have HB1 : Hid (Below w.heap.size w w1) := hb1
  have HO1 : Hid (w1.ownsRow w.heap.size 3 1 (.slice (some ⟨w.heap.size, 0, none⟩) n n) n (cellsG inE (plL Ts h n 0))) := by
    show World.ownsRow _ _ _ _ _ _ _
    rw [in_cells, pl_0, List.map_replicate]
    have e : (madeCells (Value.int .i64 0).cells (n * 1)).toList = List.replicate n (Value.int .i64 0) := by
      rw [Nat.mul_one]
      exact toList_madeCells_one _ _
    rw [← e]
    exact hown0
  clear hT hTn hTm hTa hown0 hgr hb1 hi hz0 hz1 hz2
  go_enter Try.func19, Try.ntmps19
  go_wp2
  clear hmk
  go_loopw [13] (fun i wr => ∃ k : Nat, k ≤ n ∧ i = .int .i64 k ∧ wr.ownsRow w.heap.size 3 1 (.slice (some ⟨w.heap.size, 0, none⟩) n n) n (cellsG inE (plL Ts h n k)) ∧ Below w.heap.size w wr) (fun i _ => n - (intOf i).toNat)
  case atStart => exact ⟨0, by omega, rfl, HO1.out, HB1.out⟩
  case round =>
    obtain ⟨k, hk, rfl, hO, hB⟩ := hrel
    have HO : Hid (wr.ownsRow w.heap.size 3 1 (.slice (some ⟨w.heap.size, 0, none⟩) n n) n (cellsG inE (plL Ts h n k))) := hO
    have HB : Hid (Below w.heap.size w wr) := hB
    clear hO HO1 HB1
    by_cases hlt : k < n
    · obtain ⟨g, o, hao, hc, _⟩ := HTA.out (by omega)
      subst hao
      obtain ⟨a4, n4, c4, q0, hs⟩ := (hc.later hB) k (by rw [HTN.out]; exact hlt)
      have HS4 : Hid (SR wr (.slice a4 n4 c4) (Ts.getD k [])) := by
        show SR _ _ _
        rw [getT (by rw [HTN.out]; exact hlt)]
        exact hs
      have kb0 : (0 : Int) ≤ (k : Int) := by omega
      have kb1 : (k : Int) < (n : Int) := by omega
      clear hB hs hc
      go_wp2_with fail
      refine (counting_any _ (Ts.getD k []) h _ HS4.out).mono ?_
      rintro e w2 ⟨rfl, hb2⟩
      obtain ⟨x, hx⟩ : ∃ x, x = beTo (Ts.getD k []) h (Ts.getD k []).length := ⟨_, rfl⟩
      have HX : Hid (beTo (Ts.getD k []) h (Ts.getD k []).length = x) := hx.symm
      rw [← hx]
      have HO2 : Hid (w2.ownsRow w.heap.size 3 1 (.slice (some ⟨w.heap.size, 0, none⟩) n n) n (cellsG inE (plL Ts h n k))) := own_below HO.out hb2
      have HB2 : Hid (Below w.heap.size w w2) := HB.out.trans (hb2.mono HB.out.size)
      have hfz := HO2.out.frozenAt k
      have hcl : ∃ y, w2.cell? ⟨w.heap.size, k, none⟩ = some y := by
        have hl := pl_len (h := h) HTN.out hk
        have := HO2.out.cellAt k (by omega)
        rw [this, in_cells, List.getElem?_map, List.getElem?_eq_getElem (by omega)]
        exact ⟨_, rfl⟩
      obtain ⟨y, hy⟩ := hcl
      have HO3 : Hid ((w2.setCell ⟨w.heap.size, k, none⟩ (.int .i64 x)).ownsRow w.heap.size 3 1 (.slice (some ⟨w.heap.size, 0, none⟩) n n) n (cellsG inE (plL Ts h n (k + 1)))) := by
        show World.ownsRow _ _ _ _ _ _ _
        rw [← pl_next HTN.out hlt, HX.out, in_cells, List.map_set, ← in_cells]
        exact (HO2.out.stored k _).1
      have HB3 : Hid (Below w.heap.size w (w2.setCell ⟨w.heap.size, k, none⟩ (.int .i64 x))) := HB2.out.setCell (p := ⟨w.heap.size, k, none⟩) (Nat.le_refl _) _
      clear hx hb2 q0
      go_wp2
      go_roundw
      case rel => exact ⟨k + 1, by omega, by go_num, HO3.out, HB3.out⟩
      case measure => simp [intOf]; omega
    · obtain rfl : k = n := by omega
      clear hB
      go_wp2
      go_ret
      exact ⟨rfl, by rw [pth_len, HTN.out, ← pl_all HTN.out]; exact HO.out, HB.out⟩
end Go.Proofs.Ytfbocionnjlilad
/- What slices.Equal answers of two slices of numbers, whoever made them. -/
namespace Go.Proofs.Ytfbocionnjlilad
open Go.RowKit
set_option linter.unusedSimpArgs false
set_option linter.unusedVariables false

theorem eqlL_next {xs ys : List Int} {k : Nat} (h : xs.take k = ys.take k) (hx : k < xs.length) (hy : k < ys.length) (he : xs[k] = ys[k]) : xs.take (k + 1) = ys.take (k + 1) := by
  rw [List.take_succ_eq_append_getElem hx, List.take_succ_eq_append_getElem hy, h, he]
set_option maxHeartbeats 2000000 in
theorem sleq_any (ao bo : Option Addr) (n m c d : Nat) (xs ys : List Int) (w : World) (h1 : GS inE w (.slice ao n c) xs) (h2 : GS inE w (.slice bo m d) ys) :
    Calls Try.prog 26 #[.slice ao n c, .slice bo m d] w fun e w' => e = .returned (.bool (xs == ys)) ∧ Below w.heap.size w w' := by
  obtain ⟨_, _, _, e1, hn, hn2, _, ha⟩ := h1.form
  cases e1
  obtain ⟨_, _, _, e2, hm, hm2, _, hb⟩ := h2.form
  cases e2
  by_cases hl : n = m
  · subst hl
    have HX : Hid (xs.length = n) := hn
    have HY : Hid (ys.length = n) := hm
    have HA : Hid (0 < n → ∃ g o, ao = some ⟨g, o, none⟩ ∧ GAt inE w g o xs ∧ c ≤ maxLen) := ha
    have HB2 : Hid (0 < n → ∃ g o, bo = some ⟨g, o, none⟩ ∧ GAt inE w g o ys ∧ d ≤ maxLen) := hb
    unfold maxLen at hn2
    clear hn hm hm2 ha hb h1 h2
    go_enter Try.func26, Try.ntmps26
    go_wp2
    go_loopw [13] (fun i wr => ∃ k : Nat, k ≤ n ∧ i = .int .i64 k ∧ xs.take k = ys.take k ∧ Below w.heap.size w wr) (fun i _ => n - (intOf i).toNat)
    case atStart => exact ⟨0, by omega, rfl, by simp, Below.refl _ _⟩
    case round =>
      obtain ⟨k, hk, rfl, he, hB⟩ := hrel
      have HB : Hid (Below w.heap.size w wr) := hB
      have HE : Hid (xs.take k = ys.take k) := he
      clear he
      by_cases hlt : k < n
      · obtain ⟨g, o, hao, hc, _⟩ := HA.out (by omega)
        obtain ⟨f, q, hbo, hd, _⟩ := HB2.out (by omega)
        subst hao hbo
        obtain ⟨x, hkx, hxk, r0⟩ := in_at (hc.later hB) HX.out hlt
        obtain ⟨y, hky, hyk, r1⟩ := in_at (hd.later hB) HY.out hlt
        have HXK : Hid (xs[k] = x) := hxk
        have HYK : Hid (ys[k] = y) := hyk
        clear hxk hyk hc hd hB
        by_cases hne : x = y
        · subst hne
          go_wp2
          go_quiet (fail)
          go_wp2
          go_roundw
          case rel => exact ⟨k + 1, by omega, by go_num, eqlL_next HE.out hkx hky (HXK.out.trans HYK.out.symm), HB.out.trans ⟨rfl, rfl, rfl, Nat.le_refl _, fun _ _ => rfl⟩⟩
          case measure => simp [intOf]; omega
        · go_wp2
          go_quiet (fail)
          go_wp2
          go_ret
          exact ⟨by
            have : (xs == ys) = false := by
              simp only [beq_eq_false_iff_ne, ne_eq]
              intro h; subst h
              exact hne (HXK.out.symm.trans HYK.out)
            rw [this]; rfl, HB.out.trans ⟨rfl, rfl, rfl, Nat.le_refl _, fun _ _ => rfl⟩⟩
      · obtain rfl : k = n := by omega
        go_wp2
        go_ret
        exact ⟨by
          have h3 := HE.out
          rw [List.take_of_length_le (by rw [HX.out]; exact Nat.le_refl _), List.take_of_length_le (by rw [HY.out]; exact Nat.le_refl _)] at h3
          rw [h3]; simp, HB.out⟩
  · have e : (xs == ys) = false := by
      simp only [beq_eq_false_iff_ne, ne_eq]
      intro h; subst h; exact hl (hn.symm.trans hm)
    rw [e]
    have h3 : (n : Int) ≠ (m : Int) := by omega
    clear e ha hb h1 h2
    go_enter Try.func26, Try.ntmps26
    go_wp2
    go_ret
    exact ⟨rfl, Below.refl _ _⟩
end Go.Proofs.Ytfbocionnjlilad
/- What slices.IndexFunc answers at a slice of lists of numbers, at any closure. -/
namespace Go.Proofs.Ytfbocionnjlilad
open Go.RowKit
set_option linter.unusedSimpArgs false
set_option linter.unusedVariables false

/-- A closure that asks something of a list, in whatever world behind this one. -/
def ilAsks (w : World) (f : FuncId) (c : Value) (P : List Int → Bool) : Prop :=
  ∀ (ao : Option Addr) (n cap : Nat) (L : List Int) (W : World), Below w.heap.size w W → GS inE W (.slice ao n cap) L → Calls Try.prog f #[.slice ao n cap, c] W fun e w' => e = .returned (.bool (P L)) ∧ Below W.heap.size W w'
theorem ilAsks.later {w w' : World} {f : FuncId} {c : Value} {P : List Int → Bool} (h : ilAsks w f c P) (hb : Below w.heap.size w w') : ilAsks w' f c P :=
  fun ao n cap L W hW => h ao n cap L W (hb.trans (hW.mono hb.size))

set_option maxHeartbeats 1000000 in
theorem il_idxF (ao : Option Addr) (n cap : Nat) (f : FuncId) (c : Value) (P : List Int → Bool) (Ls : List (List Int)) (w : World) (hs : ILS w (.slice ao n cap) Ls) (he : ∀ args w, (callFunc f args).run Try.prog w = .ok (.enter f args) w) (hf : ilAsks w f c P) :
    Calls Try.prog 14 #[.slice ao n cap, .func (Fn.func f) #[] #[c]] w fun e w' => e = .returned (.int .i64 (ixG P Ls)) ∧ Below w.heap.size w w' := by
  obtain ⟨_, _, _, e1, hn, hn2, _, ha⟩ := hs.form
  cases e1
  have HN : Hid (Ls.length = n) := hn
  have HF : Hid (ilAsks w f c P) := hf
  have HA : Hid (0 < n → ∃ g o, ao = some ⟨g, o, none⟩ ∧ ILAt w g o Ls ∧ cap ≤ maxLen) := ha
  unfold maxLen at hn2
  clear hn hf ha hs
  go_enter Try.func14, Try.ntmps14
  go_wp2
  go_loopw [8] (fun i wr => ∃ k : Nat, k ≤ n ∧ i = .int .i64 k ∧ (Ls.take k).any P = false ∧ Below w.heap.size w wr)
    (fun i _ => n - (intOf i).toNat)
  case atStart => exact ⟨0, by omega, rfl, by simp, Below.refl _ _⟩
  case round =>
    obtain ⟨k, hk, rfl, hno, hB⟩ := hrel
    have HB : Hid (Below w.heap.size w wr) := hB
    have HNO : Hid ((Ls.take k).any P = false) := hno
    clear hno
    by_cases hlt : k < n
    · obtain ⟨g, o, hao, hc, _⟩ := HA.out (by omega)
      subst hao
      have hkl : k < Ls.length := by rw [HN.out]; exact hlt
      obtain ⟨a2, n2, c2, q0, hG⟩ := (hc.later hB) k hkl
      have HG : Hid (GS inE wr (.slice a2 n2 c2) Ls[k]) := hG
      clear hB hG hc
      cases ho : P Ls[k]
      · go_wp2_with fail
        refine (HF.out a2 n2 c2 _ _ HB.out HG.out).mono ?_
        rintro e w1 ⟨rfl, hb1⟩
        rw [ho]
        have HB1 := HB.out.trans (hb1.mono HB.out.size)
        clear hb1
        go_wp2
        go_roundw
        case rel => exact ⟨k + 1, by omega, by go_num, any_nextG hkl HNO.out ho, HB1⟩
        case measure => simp [intOf]; omega
      · go_wp2_with fail
        refine (HF.out a2 n2 c2 _ _ HB.out HG.out).mono ?_
        rintro e w1 ⟨rfl, hb1⟩
        rw [ho]
        go_wp2
        go_ret
        exact ⟨by rw [ixG_hit hkl HNO.out ho]; rfl, HB.out.trans (hb1.mono HB.out.size)⟩
    · obtain rfl : k = n := by omega
      go_wp2
      go_ret
      exact ⟨by have := HNO.out; rw [← HN.out, List.take_length] at this; rw [ixG_no this]; rfl, HB.out⟩
end Go.Proofs.Ytfbocionnjlilad
/- What the closure of class.alike answers, and what is left behind the statement that makes a new class: facts for the walk of alike. -/
namespace Go.Proofs.Ytfbocionnjlilad
open Go.RowKit
set_option linter.unusedSimpArgs false
set_option linter.unusedVariables false

set_option maxHeartbeats 1000000 in
theorem alike1_any (ao bo : Option Addr) (n m c d b : Nat) (L P : List Int) (W : World) (hb : W.cell? ⟨b, 0, none⟩ = some (.slice bo m d)) (hL : GS inE W (.slice ao n c) L) (hP : GS inE W (.slice bo m d) P) :
    Calls Try.prog 25 #[.slice ao n c, .pointer (some ⟨b, 0, none⟩)] W fun e w' => e = .returned (.bool (L == P)) ∧ Below W.heap.size W w' := by
  go_enter Try.func25, Try.ntmps25
  go_wp2_with fail
  refine (sleq_any ao bo n m c d L P _ hL hP).mono ?_
  rintro e w1 ⟨rfl, hb1⟩
  go_wp2
  go_ret
  exact ⟨rfl, hb1⟩
end Go.Proofs.Ytfbocionnjlilad
/- Two lists of lists that a call owns, behind two appends in whatever order. No program in it. -/
namespace Go.Proofs.Ytfbocionnjlilad
open Go.RowKit
set_option linter.unusedSimpArgs false
set_option linter.unusedVariables false

theorem gnn_refl (w : World) : w.grownBy w none := ⟨rfl, rfl, rfl, Nat.le_refl _, fun _ _ _ => rfl⟩
theorem gnn_drew {w W : World} (h : w.grownBy W none) : w.grownBy W.drew none := ⟨h.os, h.tape, h.output, h.size, fun k hk hn => h.block k hk hn⟩
theorem gnn_alloc {w W : World} (h : w.grownBy W none) (o : Obj) : w.grownBy (W.alloc o) none :=
  ⟨h.os, h.tape, h.output, Nat.le_trans h.size (by simp), fun k hk hn => ((World.grownBy_alloc W o none).block k (Nat.lt_of_lt_of_le hk h.size) hn).trans (h.block k hk hn)⟩
theorem below_grown {B : Nat} {w W : World} {row : Option Nat} (h : w.grownBy W row) (hB : B ≤ w.heap.size) (hr : ∀ k, row = some k → B ≤ k) : Below B w W :=
  ⟨h.os, h.tape, h.output, h.size, fun k hk => h.block k (by omega) (fun e => by have := hr k e.symm; omega)⟩
/-- The step of a region: appending one thing to a row that a call owns. -/
theorem step_append_blk {P : Program} {α : Type} {E : Enc α} (w : World) {ops : Array Oper} {o : Oper} {a : Act} {K : Act → World → Prop} {Q : Exit → Act → World → Prop} {X : Prop} (hgd : o.guard = none) (s x : Operand) (t e : TypeId)
    (ho : o.op = .call { callee := .builtin .append, args := #[s, x], argTypes := #[t, t] }) (ht : P.underlying t = some (.slice e)) (i : TypeInfo) (z : Value) (bytes : Nat) (hi : P.info? e = some i) (hz : i.zero = some z)
    (hsize : i.size = E.n) (hby : i.bytes = bytes) (hzs : z.cells.size = E.n) (base : Nat)
    (v : Value) (hs : a.eval s = v) (L : List α) (hown : w.ownsRow base e E.n v L.length (cellsG E L)) (g q c : Nat) (hx : a.eval x = .slice (some ⟨g, q, none⟩) 1 c) (y : α) (hM : VAt w g q (E.c y))
    (h63 : L.length + 1 ≤ maxLen) (hbytes : (L.length + 1) * bytes ≤ 140737488355328) (hbase : base ≤ w.heap.size)
    (h : ∀ v' w', w'.ownsRow base e E.n v' (L ++ [y]).length (cellsG E (L ++ [y])) → w.grownBy w' v.ownBlock → v'.ownBlock = v.ownBlock ∨ v'.ownBlock = some w.heap.size → K (a.put o.dst v') w') :
    if Region.wanted o (yielded ops a.tmps) = true then Oper.wp P o a w K Q else X := by
  have hw : Region.wanted o (yielded ops a.tmps) = true := by simp [Region.wanted, hgd]
  rw [if_pos hw]
  have hG : GAt E w g q [y] := by
    intro k hk
    obtain rfl : k = 0 := by simp at hk; omega
    simpa using hM
  have hc := hG.cells
  rw [cellsG_one] at hc
  have hl : (E.c y).length = 1 * E.n := by rw [E.len]; omega
  obtain ⟨v', w', hr, h2, h3, _⟩ := run_append_own (P := P) w base t o.type e i z E.n bytes ht hi hz hsize hby hzs E.pos v _ _ hown ⟨g, q, none⟩ 1 c (E.c y) hl hc (E.one y) h63 hbytes hbase
  have hb := run_append_blk (P := P) t o.type e i z ht hi hz v _ _ (by rw [hsize]; exact hown) ⟨g, q, none⟩ c (E.c y) (by rw [hsize]; exact hl) hc (E.one y) h63 (by rw [hby]; exact hbytes) hr
  unfold Oper.wp execOp
  simp only [ho, resolve, invoke, builtin, Sem.run_bind, Sem.run_pure, Result.andThen_ok, List.map_toArray, List.map_cons, List.map_nil, hs, hx, hr]
  exact h v' w' (by rw [List.length_append, cellsG_app, cellsG_one]; exact h2) h3 hb
section
variable {e1 e2 : TypeId} {w W1 W1' W2 W2' Wf : World} {B : Nat} {v u v' u' : Value} {vs us : List SlT} {Cs Ps : List (List Int)}
theorem CP.base (h : CP e1 e2 w B v u vs us Cs Ps) : (∀ k, v.ownBlock = some k → B ≤ k ∧ k < w.heap.size) ∧ ∀ k, u.ownBlock = some k → B ≤ k ∧ k < w.heap.size := ⟨fun k hk => h.ov.lt k hk, fun k hk => h.ou.lt k hk⟩
/-- One append behind the other. -/
theorem CP.seq (h : CP e1 e2 w B v u vs us Cs Ps) (he : e1 ≠ e2) (hB : B ≤ w.heap.size) {x p : SlT} {L P : List Int}
    (hp : W1.ownsRow B e1 inE.n (slV x) L.length (cellsG inE L)) (hxn : ∀ y ∈ vs ++ us, (slV y).ownBlock ≠ (slV x).ownBlock)
    (hq : W2.ownsRow B e1 inE.n (slV p) P.length (cellsG inE P)) (hpn : ∀ y ∈ vs ++ us, (slV y).ownBlock ≠ (slV p).ownBlock) (hxp : (slV x).ownBlock ≠ (slV p).ownBlock)
    (c1 : w.grownBy W1 none) (g1 : W1.grownBy W1' v.ownBlock) (o1 : W1'.ownsRow B e2 slE.n v' (vs ++ [x]).length (cellsG slE (vs ++ [x]))) (b1 : v'.ownBlock = v.ownBlock ∨ v'.ownBlock = some W1.heap.size)
    (c2 : W1'.grownBy W2 none) (g2 : W2.grownBy W2' u.ownBlock) (o2 : W2'.ownsRow B e2 slE.n u' (us ++ [p]).length (cellsG slE (us ++ [p]))) (b2 : u'.ownBlock = u.ownBlock ∨ u'.ownBlock = some W2.heap.size)
    (c3 : W2'.grownBy Wf none) : CP e1 e2 Wf B v' u' (vs ++ [x]) (us ++ [p]) (Cs ++ [L]) (Ps ++ [P]) ∧ Below B w Wf := by
  have k1 := h.keep c1
  have k2 := (k1.push he hp hxn g1 o1 b1).keep c2
  have k3 := k2.swap.push he hq (by
    intro y hy
    rcases List.mem_append.1 hy with hy | hy
    · exact hpn y (List.mem_append_right _ hy)
    · rcases List.mem_append.1 hy with hy | hy
      · exact hpn y (List.mem_append_left _ hy)
      · simp at hy
        subst hy
        exact hxp) g2 o2 b2
  have hv := h.base.1
  have hu := h.base.2
  have s1 := c1.size
  have s2 := g1.size
  have s3 := c2.size
  have s4 := g2.size
  refine ⟨(k3.swap).keep c3, ?_⟩
  have b1' : Below B w W1 := below_grown c1 hB (fun k e => by cases e)
  have b2' : Below B W1 W1' := below_grown g1 (by omega) (fun k e => (hv k e).1)
  have b3' : Below B W1' W2 := below_grown c2 (by omega) (fun k e => by cases e)
  have b4' : Below B W2 W2' := below_grown g2 (by omega) (fun k e => (hu k e).1)
  have b5' : Below B W2' Wf := below_grown c3 (by omega) (fun k e => by cases e)
  exact (((b1'.trans b2').trans b3').trans b4').trans b5'
end
end Go.Proofs.Ytfbocionnjlilad
/- Rows of numbers that a call owns. -/
namespace Go.Proofs.Ytfbocionnjlilad
open Go.RowKit

/-- The length of a row that a call owns. -/
theorem own_form {w : World} {B e size n : Nat} {v : Value} {xs : List Value} (h : w.ownsRow B e size v n xs) : ∃ ao cap, v = .slice ao n cap := by
  rcases h.2 with ⟨rfl, rfl⟩ | ⟨g, cap, cur, rfl, _⟩
  · exact ⟨none, 0, rfl⟩
  · exact ⟨_, cap, rfl⟩

/-- These numbers lie where a value says. -/
theorem own_ints {w : World} {B e : Nat} {v : Value} {xs : List Int} (h : w.ownsRow B e 1 v xs.length (xs.map (Value.int .i64))) :
    (v = .slice none 0 0 ∧ xs = []) ∨ ∃ g cap, v = .slice (some ⟨g, 0, none⟩) xs.length cap ∧ ∀ i (hi : i < xs.length), w.cell? ⟨g, i, none⟩ = some (.int .i64 xs[i]) := by
  rcases h.2 with ⟨rfl, h0⟩ | ⟨g, cap, cur, rfl, _⟩
  · exact .inl ⟨rfl, List.length_eq_zero_iff.1 h0⟩
  · refine .inr ⟨g, cap, rfl, fun i hi => ?_⟩
    rw [h.cellAt i (by omega)]
    simp [hi]

/-- Are two lists of numbers alike up to a place? -/
def eqTo (a b : List Int) (k : Nat) : Bool := a.take k == b.take k

end Go.Proofs.Ytfbocionnjlilad
/- What class.alike answers: a contract for the walks above it. -/
namespace Go.Proofs.Ytfbocionnjlilad
open Go.RowKit
set_option linter.unusedSimpArgs false
set_option linter.unusedVariables false

theorem infoSl : (Try.prog.info? 40).map (fun i => (i.zero, i.size, i.bytes)) = some (some (.slice none 0 0), 1, 24) := by kernel_rfl
theorem enters_alike1 : ∀ args w, (callFunc 25 args).run Try.prog w = .ok (.enter 25 args) w := enters_of Try.func25 (by kernel_rfl) rfl
theorem vat_one {W : World} {g q : Nat} {y : SlT} (h : W.cell? ⟨g, q, none⟩ = some (slV y)) : VAt W g q (slE.c y) := by
  intro j z hz
  match j, hz with
  | 0, hz => cases hz; exact h
theorem sz1 (W : World) (o : Obj) : (W.alloc o).heap.size = W.heap.size + 1 := by simp
theorem sz2 (W : World) (o o2 : Obj) : ((W.alloc o).alloc o2).heap.size = W.heap.size + 1 + 1 := by simp
theorem cel1 (W : World) (v : Value) (t : TypeId) {g : Nat} (hg : W.heap.size = g) : ((W.alloc (Obj.cells #[v] t)).drew).cell? ⟨g, 0, none⟩ = some v := by
  subst hg
  have h : (W.alloc (Obj.cells #[v] t)).cell? ⟨W.heap.size, 0, none⟩ = some v := by simp
  exact cell_later (Below.drew (Below.refl _ _)) h
theorem cel2 (W : World) (v : Value) (t : TypeId) (o : Obj) {g : Nat} (hg : W.heap.size = g) : (((W.alloc (Obj.cells #[v] t)).alloc o).drew).cell? ⟨g, 0, none⟩ = some v := by
  subst hg
  have h : (W.alloc (Obj.cells #[v] t)).cell? ⟨W.heap.size, 0, none⟩ = some v := by simp
  exact cell_later (Below.drew ((Below.refl _ _).alloc (Nat.le_refl _) o)) h
theorem cel3 (W : World) (v : Value) (t : TypeId) (o o2 : Obj) {g : Nat} (hg : W.heap.size = g) : ((((W.alloc (Obj.cells #[v] t)).alloc o).alloc o2).drew).cell? ⟨g, 0, none⟩ = some v := by
  subst hg
  have h : (W.alloc (Obj.cells #[v] t)).cell? ⟨W.heap.size, 0, none⟩ = some v := by simp
  exact cell_later (Below.drew (((Below.refl _ _).alloc (Nat.le_refl _) o).alloc (by simp) o2)) h
theorem vat_num {W : World} {g q : Nat} {y : Int} (h : W.cell? ⟨g, q, none⟩ = some (.int .i64 y)) : VAt W g q (inE.c y) := by
  intro j z hz
  match j, hz with
  | 0, hz => cases hz; exact h
theorem own_num {B : Nat} (w : World) (y : Int) (hB : B ≤ w.heap.size) : (w.alloc (Obj.cells #[.int .i64 y] 3)).ownsRow B 3 inE.n (slV (some ⟨w.heap.size, 0, none⟩, 1, 1)) [y].length (cellsG inE [y]) :=
  World.ownsRow_lit w #[.int .i64 y] 1 hB (by unfold maxLen; omega) rfl

set_option maxHeartbeats 4000000 in
set_option maxRecDepth 100000 in
theorem alike_any (ao : Option Addr) (n cap : Nat) (Ts : List (List Ru)) (w : World) (hT : TS w (.slice ao n cap) Ts) (hn8 : n ≤ 8) :
    Calls Try.prog 12 #[.slice ao n cap] w fun e w' => ∃ v u vs us, e = .returned v ∧ CP 3 40 w' w.heap.size v u vs us (kcTo (pthL Ts) 16).1 (kcTo (pthL Ts) 16).2 ∧ Below w.heap.size w w' := by
  have HTW : Hid (∀ W, Below w.heap.size w W → TS W (.slice ao n cap) Ts) := fun W hb => hT.later hb
  have HN8 : Hid (n ≤ 8) := hn8
  clear hT
  go_enter Try.func12, Try.ntmps12
  go_wp2
  go_loopw [3, 4, 8] (fun v u i wr => ∃ (k : Nat) (vs us : List SlT), k ≤ 16 ∧ i = .int .i64 k ∧ CP 3 40 wr w.heap.size v u vs us (kcTo (pthL Ts) k).1 (kcTo (pthL Ts) k).2 ∧ Below w.heap.size w wr) (fun _ _ i _ => 16 - (intOf i).toNat)
  case atStart => exact ⟨0, [], [], by omega, rfl, cp_nil _ _ _ _, Below.refl _ _⟩
  case round =>
    obtain ⟨k, vs, us, hk, rfl, hCP, hB⟩ := hrel
    obtain ⟨wo, hwo⟩ : ∃ X, X = wr := ⟨_, rfl⟩
    subst hwo
    have HB : Hid (Below w.heap.size w wo) := hB
    obtain ⟨a3, c3, hv3⟩ := own_form hCP.ov
    obtain ⟨a4, c4, hu4⟩ := own_form hCP.ou
    obtain ⟨n3, hn3⟩ : ∃ m, m = vs.length := ⟨_, rfl⟩
    obtain ⟨n4, hn4⟩ : ∃ m, m = us.length := ⟨_, rfl⟩
    rw [← hn3] at hv3
    rw [← hn4] at hu4
    subst hv3 hu4
    have HCP : Hid (CP 3 40 wo w.heap.size (.slice a3 n3 c3) (.slice a4 n4 c4) vs us (kcTo (pthL Ts) k).1 (kcTo (pthL Ts) k).2) := hCP
    have HN3 : Hid (vs.length = n3) := hn3.symm
    have HN4 : Hid (us.length = n4) := hn4.symm
    clear hB hCP hn3 hn4
    by_cases hlt : k < 16
    · have hki : (k : Int) < 16 := by omega
      go_wp2_with fail
      refine (path_any ao n cap Ts (k : Int) _ (HTW.out _ HB.out) HN8.out).mono ?_
      rintro e w1 ⟨rfl, hown1, hb1⟩
      have hs1 := hb1.size
      have hlt1 : wo.heap.size < w1.heap.size := (hown1.lt wo.heap.size rfl).2
      obtain ⟨gp, hgp⟩ : ∃ g, g = wo.heap.size := ⟨_, rfl⟩
      obtain ⟨b, hb⟩ : ∃ b, b = w1.heap.size := ⟨_, rfl⟩
      obtain ⟨w2, hw2⟩ : ∃ W, w1.alloc (Obj.cells #[.slice (some ⟨gp, 0, none⟩) n n] 40) = W := ⟨_, rfl⟩
      have hb2 : Below w1.heap.size w1 w2 := by
        rw [← hw2]
        exact (Below.refl _ _).alloc (Nat.le_refl _) _
      have hcell : w2.cell? ⟨b, 0, none⟩ = some (.slice (some ⟨gp, 0, none⟩) n n) := by
        rw [← hw2, hb]
        simp
      rw [← hgp] at hown1
      have hP2 : w2.ownsRow w.heap.size 3 inE.n (.slice (some ⟨gp, 0, none⟩) n n) (pthL Ts (k : Int)).length (cellsG inE (pthL Ts (k : Int))) := by
        refine own_mono (own_below hown1 hb2) ?_
        rw [hgp]
        exact HB.out.size
      have hb12 : Below wo.heap.size wo w2 := hb1.trans (hb2.mono hs1)
      have HC2 : Hid (CP 3 40 w2 w.heap.size (.slice a3 n3 c3) (.slice a4 n4 c4) vs us (kcTo (pthL Ts) k).1 (kcTo (pthL Ts) k).2) := HCP.out.later hb12
      have HP2 : Hid (w2.ownsRow w.heap.size 3 inE.n (.slice (some ⟨gp, 0, none⟩) n n) (pthL Ts (k : Int)).length (cellsG inE (pthL Ts (k : Int)))) := hP2
      have HB2 : Hid (Below w.heap.size w w2) := HB.out.trans (hb12.mono HB.out.size)
      have HCELL : Hid (w2.cell? ⟨b, 0, none⟩ = some (.slice (some ⟨gp, 0, none⟩) n n)) := hcell
      have HGP : Hid (gp = wo.heap.size) := hgp
      have HGB : Hid (wo.heap.size ≤ b ∧ gp < b) := ⟨by omega, by omega⟩
      have HW2 : Hid (w1.alloc (Obj.cells #[.slice (some ⟨gp, 0, none⟩) n n] 40) = w2) := hw2
      have HBB : Hid (b = w1.heap.size) := hb
      have HASK : Hid (ilAsks w2 25 (.pointer (some ⟨b, 0, none⟩)) (fun L => L == pthL Ts (k : Int))) := fun ao n cap L W hb hG => alike1_any ao _ n _ cap _ b L _ W (cell_later hb HCELL.out) hG (own_GS (own_below HP2.out hb))
      rw [← hgp]
      clear hown1 hb1 hs1 hlt1 hgp hb hw2 hb2 hcell hP2 hb12
      go_upto_region 6 with fail
      rw [HW2.out, ← HBB.out]
      clear HW2 HBB
      go_wp2_with fail
      refine (il_idxF a4 n4 c4 25 (.pointer (some ⟨b, 0, none⟩)) (fun L => L == pthL Ts (k : Int)) (kcTo (pthL Ts) k).2 _ HC2.out.swap.ls enters_alike1 HASK.out).mono ?_
      rintro e wi ⟨rfl, hbi⟩
      obtain ⟨I, hI⟩ : ∃ I, I = ixC (pthL Ts) k (kcTo (pthL Ts) k).2 := ⟨_, rfl⟩
      have HI : Hid (I = ixC (pthL Ts) k (kcTo (pthL Ts) k).2) := hI
      rw [show ixG (fun L => L == pthL Ts (k : Int)) (kcTo (pthL Ts) k).2 = I from hI.symm]
      have HCi : Hid (CP 3 40 wi w.heap.size (.slice a3 n3 c3) (.slice a4 n4 c4) vs us (kcTo (pthL Ts) k).1 (kcTo (pthL Ts) k).2) := HC2.out.later hbi
      have HPi : Hid (wi.ownsRow w.heap.size 3 inE.n (.slice (some ⟨gp, 0, none⟩) n n) (pthL Ts (k : Int)).length (cellsG inE (pthL Ts (k : Int)))) := own_below HP2.out hbi
      have HBi : Hid (Below w.heap.size w wi) := HB2.out.trans (hbi.mono HB2.out.size)
      have hcell := cell_later hbi HCELL.out
      clear hI hbi HC2 HP2 HB2 HCELL HASK
      have hle := kc_len (pthL Ts) k
      have hlv := HCi.out.lv
      have hlu := HCi.out.lu
      have HLV : Hid (vs.length + 1 ≤ 17) := by
        show _ ≤ _
        omega
      have HLU : Hid (us.length + 1 ≤ 17) := by
        show _ ≤ _
        omega
      have HLV1 : Hid (vs.length + 1 ≤ maxLen) := Nat.le_trans HLV.out (by unfold maxLen; omega)
      have HLV2 : Hid ((vs.length + 1) * 24 ≤ 140737488355328) := by
        have := HLV.out
        show _ ≤ _
        omega
      have HLU1 : Hid (us.length + 1 ≤ maxLen) := Nat.le_trans HLU.out (by unfold maxLen; omega)
      have HLU2 : Hid ((us.length + 1) * 24 ≤ 140737488355328) := by
        have := HLU.out
        show _ ≤ _
        omega
      have HVB : Hid (∀ j, (Value.slice a3 n3 c3).ownBlock = some j → j < wo.heap.size) := fun j e => (HCP.out.ov.lt j e).2
      have HUB : Hid (∀ j, (Value.slice a4 n4 c4).ownBlock = some j → j < wo.heap.size) := fun j e => (HCP.out.ou.lt j e).2
      have HWI : Hid (wo.heap.size ≤ wi.heap.size ∧ w.heap.size ≤ wi.heap.size ∧ gp < wi.heap.size ∧ b < wi.heap.size) := by
        have h1 := (HPi.out.lt gp rfl).2
        have h2 : b < wi.heap.size := World.block_lt_of_cell? _ _ hcell
        have h3 := HGB.out.1
        exact ⟨by omega, HBi.out.size, h1, h2⟩
      obtain ⟨j1, hj, hy0, hy1, hy2⟩ := info_parts infoSl
      obtain ⟨i0, hi, hz0, hz1, hz2⟩ := info_parts infoInt
      clear hle hlv hlu
      by_cases hneg : I < 0
      · have HKV : Hid (∀ W, wi.grownBy W none → W.ownsRow w.heap.size 40 slE.n (.slice a3 n3 c3) vs.length (cellsG slE vs)) := fun W h => (HCi.out.keep h).ov
        have HKU : Hid (∀ W, wi.grownBy W none → W.ownsRow w.heap.size 40 slE.n (.slice a4 n4 c4) us.length (cellsG slE us)) := fun W h => (HCi.out.keep h).ou
        have HKP : Hid (∀ W, wi.grownBy W none → W.ownsRow w.heap.size 3 inE.n (slV (some ⟨gp, 0, none⟩, n, n)) (pthL Ts (k : Int)).length (cellsG inE (pthL Ts (k : Int)))) := fun W h => HPi.out.kept h (none_or _)
        have HNE : Hid ((Value.slice a4 n4 c4).ownBlock = none ∨ (Value.slice a4 n4 c4).ownBlock ≠ (Value.slice a3 n3 c3).ownBlock) := HCi.out.swap.ne
        have HX0 : Hid (∀ W, (wi.alloc (Obj.cells #[.int .i64 (k : Int)] 3)).grownBy W none → W.ownsRow w.heap.size 3 inE.n (slV (some ⟨wi.heap.size, 0, none⟩, 1, 1)) [(k : Int)].length (cellsG inE [(k : Int)])) := fun W h => (own_num wi k HWI.out.2.1).kept h (none_or _)
        have HX1 : Hid (∀ W, ((wi.alloc (Obj.cells #[.slice (some ⟨gp, 0, none⟩) n n] 40)).alloc (Obj.cells #[.int .i64 (k : Int)] 3)).grownBy W none → W.ownsRow w.heap.size 3 inE.n (slV (some ⟨wi.heap.size + 1, 0, none⟩, 1, 1)) [(k : Int)].length (cellsG inE [(k : Int)])) := fun W h => by
          have e : (wi.alloc (Obj.cells #[.slice (some ⟨gp, 0, none⟩) n n] 40)).heap.size = wi.heap.size + 1 := by simp
          have hB : w.heap.size ≤ (wi.alloc (Obj.cells #[.slice (some ⟨gp, 0, none⟩) n n] 40)).heap.size := by
            have := HWI.out.2.1
            omega
          have := own_num (wi.alloc (Obj.cells #[.slice (some ⟨gp, 0, none⟩) n n] 40)) (k : Int) hB
          rw [e] at this
          exact this.kept h (none_or _)
        have HFIN : Hid (∀ (GX : Nat) (W1 w5 W2 w6 : World) (v5 u6 : Value), wi.heap.size ≤ GX → wi.grownBy W1 none → W1.ownsRow w.heap.size 3 inE.n (slV (some ⟨GX, 0, none⟩, 1, 1)) [(k : Int)].length (cellsG inE [(k : Int)]) → W1.grownBy w5 (Value.slice a3 n3 c3).ownBlock → w5.ownsRow w.heap.size 40 slE.n v5 (vs ++ [((some ⟨GX, 0, none⟩, 1, 1) : SlT)]).length (cellsG slE (vs ++ [((some ⟨GX, 0, none⟩, 1, 1) : SlT)])) → (v5.ownBlock = (Value.slice a3 n3 c3).ownBlock ∨ v5.ownBlock = some W1.heap.size) → w5.grownBy W2 none → W2.grownBy w6 (Value.slice a4 n4 c4).ownBlock → w6.ownsRow w.heap.size 40 slE.n u6 (us ++ [((some ⟨gp, 0, none⟩, n, n) : SlT)]).length (cellsG slE (us ++ [((some ⟨gp, 0, none⟩, n, n) : SlT)])) → (u6.ownBlock = (Value.slice a4 n4 c4).ownBlock ∨ u6.ownBlock = some W2.heap.size) →
            CP 3 40 w6 w.heap.size v5 u6 (vs ++ [((some ⟨GX, 0, none⟩, 1, 1) : SlT)]) (us ++ [((some ⟨gp, 0, none⟩, n, n) : SlT)]) (kcTo (pthL Ts) (k + 1)).1 (kcTo (pthL Ts) (k + 1)).2 ∧ Below w.heap.size w w6) := by
          intro GX W1 w5 W2 w6 v5 u6 hGX c1 x1 g1 o1 b1 c2 g2 o2 b2
          have hI := HI.out
          rw [hI] at hneg
          rw [kc_yes hneg]
          have hgp := HGP.out
          have hw := HWI.out
          have hp1 := HKP.out W1 c1
          have hp2 := (hp1.kept g1 (own_rows2 hp1 (HKV.out W1 c1) (by decide))).kept c2 (none_or _)
          obtain ⟨r1, r2⟩ := HCi.out.seq (by decide) hw.2.1 x1 (fun y hy e => by
              have := HCi.out.old y hy GX e
              omega) hp2 (fun y hy e => by
              have := HCP.out.old y hy gp e
              omega) (fun e => by
              have e2 : some GX = some gp := e
              simp at e2
              omega) c1 g1 o1 b1 c2 g2 o2 b2 (gnn_refl _)
          exact ⟨r1, HBi.out.trans r2⟩
        have HKC : Hid (∀ W, wi.grownBy W none → W.cell? ⟨b, 0, none⟩ = some (.slice (some ⟨gp, 0, none⟩) n n)) := fun W h => h.cell hcell (by simp)
        clear HI
        go_upto_region 8 with fail
        go_region_held3 (fun w' => w'.cell? ⟨b, 0, none⟩ = some (.slice (some ⟨gp, 0, none⟩) n n)) (first | assumption | (refine HKC.out _ ?_; first | exact gnn_drew (gnn_alloc (gnn_refl _) _) | exact gnn_drew (gnn_alloc (gnn_alloc (gnn_refl _) _) _) | exact gnn_drew (gnn_alloc (gnn_alloc (gnn_alloc (gnn_refl _) _) _) _)) | exact cell_later ((Below.refl _ _).alloc (Nat.le_refl _) _) ‹_› | (focus (refine hg5.cell ‹_› ?_; intro e; have h1 := HVB.out b e.symm; have h2 := HGB.out; omega)) | (focus (refine hg6.cell ‹_› ?_; intro e; have h1 := HUB.out b e.symm; have h2 := HGB.out; omega)))
          (first
            | ((refine step_append_blk (E := slE) _ (by rfl) _ _ 29 40 (by rfl) Try.underlying29 j1 (.slice none 0 0) 24 hj hy0 hy1 hy2 (by rfl) w.heap.size (.slice a3 n3 c3) (by rfl) vs (HKV.out _ ?_) _ 0 1 (by rfl) (some ⟨wi.heap.size, 0, none⟩, 1, 1) (vat_one ?_) HLV1.out HLV2.out ?_ ?_; (focus (first | exact gnn_drew (gnn_alloc (gnn_refl _) _) | exact gnn_drew (gnn_alloc (gnn_alloc (gnn_refl _) _) _) | exact gnn_drew (gnn_alloc (gnn_alloc (gnn_alloc (gnn_refl _) _) _) _))); (focus (first | exact cel1 _ _ _ rfl | exact cel1 _ _ _ (sz1 _ _) | exact cel1 _ _ _ (sz2 _ _ _) | exact cel2 _ _ _ _ rfl | exact cel2 _ _ _ _ (sz1 _ _) | exact cel3 _ _ _ _ _ rfl)); (focus (have := HWI.out; simp; omega)); intro v5 w5 ho5 hg5 hb5))
            | ((refine step_append_blk (E := slE) _ (by rfl) _ _ 29 40 (by rfl) Try.underlying29 j1 (.slice none 0 0) 24 hj hy0 hy1 hy2 (by rfl) w.heap.size (.slice a3 n3 c3) (by rfl) vs (HKV.out _ ?_) _ 0 1 (by rfl) (some ⟨wi.heap.size + 1, 0, none⟩, 1, 1) (vat_one ?_) HLV1.out HLV2.out ?_ ?_; (focus (first | exact gnn_drew (gnn_alloc (gnn_refl _) _) | exact gnn_drew (gnn_alloc (gnn_alloc (gnn_refl _) _) _) | exact gnn_drew (gnn_alloc (gnn_alloc (gnn_alloc (gnn_refl _) _) _) _))); (focus (first | exact cel1 _ _ _ rfl | exact cel1 _ _ _ (sz1 _ _) | exact cel1 _ _ _ (sz2 _ _ _) | exact cel2 _ _ _ _ rfl | exact cel2 _ _ _ _ (sz1 _ _) | exact cel3 _ _ _ _ _ rfl)); (focus (have := HWI.out; simp; omega)); intro v5 w5 ho5 hg5 hb5))
            | ((refine step_append_blk (E := slE) _ (by rfl) _ _ 29 40 (by rfl) Try.underlying29 j1 (.slice none 0 0) 24 hj hy0 hy1 hy2 (by rfl) w.heap.size (.slice a4 n4 c4) (by rfl) us (((HKU.out _ ?_).kept hg5 HNE.out).kept ?_ (none_or _)) _ 0 1 (by rfl) (some ⟨gp, 0, none⟩, n, n) (vat_one ?_) HLU1.out HLU2.out ?_ ?_; (focus (first | exact gnn_drew (gnn_alloc (gnn_refl _) _) | exact gnn_drew (gnn_alloc (gnn_alloc (gnn_refl _) _) _) | exact gnn_drew (gnn_alloc (gnn_alloc (gnn_alloc (gnn_refl _) _) _) _))); (focus (first | exact gnn_refl _ | exact gnn_alloc (gnn_refl _) _ | exact gnn_drew (gnn_refl _) | exact gnn_drew (gnn_alloc (gnn_refl _) _))); (focus (first | (simp [slV]; done) | (refine hg5.cell ?_ ?_; (focus (first | exact cel1 _ _ _ rfl | exact cel1 _ _ _ (sz1 _ _) | exact cel1 _ _ _ (sz2 _ _ _) | exact cel2 _ _ _ _ rfl | exact cel2 _ _ _ _ (sz1 _ _) | exact cel3 _ _ _ _ _ rfl)); (focus (intro e; have h1 := HVB.out _ e.symm; have h2 := HWI.out; try dsimp only at h1; omega))))); (focus (have := HWI.out; have := hg5.size; simp at *; omega)); intro u6 w6 ho6 hg6 hb6)))
        all_goals go_wp2
        all_goals go_roundw
        all_goals first
          | (simp [intOf]; omega)
          | exact ⟨k + 1, _, _, by omega, by go_num, HFIN.out wi.heap.size _ w5 _ w6 v5 u6 (Nat.le_refl _) (by first | exact gnn_drew (gnn_alloc (gnn_alloc (gnn_refl _) _) _) | exact gnn_drew (gnn_alloc (gnn_alloc (gnn_alloc (gnn_refl _) _) _) _)) (HX0.out _ (by first | exact gnn_drew (gnn_alloc (gnn_refl _) _) | exact gnn_drew (gnn_alloc (gnn_alloc (gnn_refl _) _) _))) hg5 ho5 hb5 (by first | exact gnn_refl _ | exact gnn_alloc (gnn_refl _) _) hg6 ho6 hb6⟩
          | exact ⟨k + 1, _, _, by omega, by go_num, HFIN.out (wi.heap.size + 1) _ w5 _ w6 v5 u6 (Nat.le_succ _) (by first | exact gnn_drew (gnn_alloc (gnn_alloc (gnn_refl _) _) _) | exact gnn_drew (gnn_alloc (gnn_alloc (gnn_alloc (gnn_refl _) _) _) _)) (HX1.out _ (by first | exact gnn_drew (gnn_alloc (gnn_refl _) _) | exact gnn_drew (gnn_alloc (gnn_alloc (gnn_refl _) _) _))) hg5 ho5 hb5 (by first | exact gnn_refl _ | exact gnn_alloc (gnn_refl _) _) hg6 ho6 hb6⟩
      · obtain ⟨j, hj9⟩ : ∃ j : Nat, I = (j : Int) := ⟨I.toNat, by omega⟩
        have hIn := HI.out
        obtain ⟨q1, _⟩ := ixG_lt (show 0 ≤ ixG (fun p => p == pthL Ts (k : Int)) (kcTo (pthL Ts) k).2 by
          have h9 : I = ixG (fun p => p == pthL Ts (k : Int)) (kcTo (pthL Ts) k).2 := hIn
          omega)
        have q2 : j < (kcTo (pthL Ts) k).2.length := by
          have h9 : I = ixG (fun p => p == pthL Ts (k : Int)) (kcTo (pthL Ts) k).2 := hIn
          omega
        have q3 := kc_len (pthL Ts) k
        have hjC : j < (kcTo (pthL Ts) k).1.length := by omega
        have hjv : j < vs.length := by rw [HCi.out.lv]; exact hjC
        have HKN : Hid (kcTo (pthL Ts) (k + 1) = ((kcTo (pthL Ts) k).1.set j ((kcTo (pthL Ts) k).1[j] ++ [(k : Int)]), (kcTo (pthL Ts) k).2)) := by
          show _ = _
          rw [kc_no (by rw [← hIn]; exact hneg), ← hIn, hj9, Int.toNat_natCast]
          congr 2
          simp [List.getD, hjC]
        have HSZ : Hid ((kcTo (pthL Ts) k).1[j].length ≤ 16) := by
          have := (kc_size (f := pthL Ts) hjC).2
          show _ ≤ _
          omega
        obtain ⟨L, hL⟩ : ∃ L, L = (kcTo (pthL Ts) k).1[j] := ⟨_, rfl⟩
        rw [← hL] at HKN HSZ
        have HRW := HCi.out.rv j vs[j] L (List.getElem?_eq_getElem hjv) (by rw [hL]; exact List.getElem?_eq_getElem hjC)
        obtain ⟨x, hx⟩ : ∃ x, x = vs[j] := ⟨_, rfl⟩
        rw [← hx] at HRW
        have HX : Hid (vs[j]? = some x) := by
          show _ = _
          rw [hx]
          exact List.getElem?_eq_getElem hjv
        have HRX : Hid (wi.ownsRow w.heap.size 3 inE.n (slV x) L.length (cellsG inE L)) := HRW
        have hgv : ∃ g, a3 = some ⟨g, 0, none⟩ := by
          rcases HCi.out.ov.2 with ⟨_, h0⟩ | ⟨g, _, _, h0, _⟩
          · omega
          · simp only [Value.slice.injEq] at h0
            exact ⟨g, h0.1⟩
        obtain ⟨g3, hg3⟩ := hgv
        subst hg3
        have hcl : ∀ W : World, W.ownsRow w.heap.size 40 slE.n (.slice (some ⟨g3, 0, none⟩) n3 c3) vs.length (cellsG slE vs) → W.cell? ⟨g3, j, none⟩ = some (slV x) ∧ W.frozen? ⟨g3, j, none⟩ = false := by
          intro W h
          have hl : vs.length = n3 := HN3.out
          rw [hl] at h
          refine ⟨?_, h.frozenAt j⟩
          rw [h.cellAt j (by show j < n3 * 1; omega), sl_cells, List.getElem?_map, HX.out]
          rfl
        have HCLW : Hid (∀ W : World, W.ownsRow w.heap.size 40 slE.n (.slice (some ⟨g3, 0, none⟩) n3 c3) vs.length (cellsG slE vs) → W.cell? ⟨g3, j, none⟩ = some (slV x) ∧ W.frozen? ⟨g3, j, none⟩ = false) := hcl
        obtain ⟨xa, xn, xc⟩ := x
        have d0 : wi.cell? ⟨g3, j, none⟩ = some (.slice xa xn xc) := (hcl _ HCi.out.ov).1
        have jb0 : (0 : Int) ≤ (j : Int) := by omega
        have jb1 : (j : Int) < (n3 : Int) := by have := HN3.out; omega
        have HC9 : Hid (CP 3 40 (wi.alloc (Obj.cells #[.int .i64 (k : Int)] 3)) w.heap.size (.slice (some ⟨g3, 0, none⟩) n3 c3) (.slice a4 n4 c4) vs us (kcTo (pthL Ts) k).1 (kcTo (pthL Ts) k).2) := HCi.out.keep (gnn_alloc (gnn_refl _) _)
        have HR9 : Hid ((wi.alloc (Obj.cells #[.int .i64 (k : Int)] 3)).ownsRow w.heap.size 3 inE.n (.slice xa xn xc) L.length (cellsG inE L)) := HRX.out.kept (gnn_alloc (gnn_refl _) _) (none_or _)
        have hd0 : ¬ (j : Int) < 0 := by omega
        subst hj9
        clear hneg hIn q1 q2 q3 hjC hjv hL HRW hx hcl HI HRX
        go_upto_region 9 with fail
        go_wp2_with (at_builtin; refine wpList_append_blk (E := inE) _ rfl _ _ 40 3 rfl Try.underlying40 i0 (.int .i64 0) 8 hi hz0 hz1 hz2 rfl w.heap.size (.slice xa xn xc) rfl L HR9.out wi.heap.size 0 1 rfl (k : Int) (vat_num (by simp)) ?a1 ?a2 ?a3 ?_)
        case a1 => have := HSZ.out; unfold maxLen; omega
        case a2 => have := HSZ.out; omega
        case a3 => have := HWI.out; simp; omega
        intro v7 w7 ho7 hg7 hb7
        obtain ⟨a7, c7, hv7⟩ := own_form ho7
        obtain ⟨n7, hn7⟩ : ∃ m, m = L.length + 1 := ⟨_, rfl⟩
        rw [← hn7] at hv7
        subst hv7
        have hov7 := HC9.out.ov.kept hg7 (own_rows2 HC9.out.ov HR9.out (by decide))
        obtain ⟨d7, z7⟩ := HCLW.out _ hov7
        have hd7 : w7.cell? ⟨g3, j, none⟩ = some (.slice xa xn xc) := d7
        have HPUT : Hid (CP 3 40 (w7.setCell ⟨g3, j, none⟩ (.slice a7 n7 c7)) w.heap.size (.slice (some ⟨g3, 0, none⟩) n3 c3) (.slice a4 n4 c4) (vs.set j (a7, n7, c7)) us (kcTo (pthL Ts) (k + 1)).1 (kcTo (pthL Ts) (k + 1)).2) := by
          have ho8 : w7.ownsRow w.heap.size 3 inE.n (slV (a7, n7, c7)) (L ++ [(k : Int)]).length (cellsG inE (L ++ [(k : Int)])) := by
            rw [List.length_append]
            exact ho7
          have hb8 : (slV (a7, n7, c7)).ownBlock = (slV (xa, xn, xc)).ownBlock ∨ (slV (a7, n7, c7)).ownBlock = some (wi.alloc (Obj.cells #[.int .i64 (k : Int)] 3)).heap.size := by
            rcases hb7 with h | h
            · exact .inl h
            · exact .inr (by rw [show (slV (a7, n7, c7)).ownBlock = _ from h]; simp)
          have := HC9.out.put (by decide) (x' := (a7, n7, c7)) HX.out hg7 ho8 hb8 rfl
          rw [HKN.out]
          exact this
        have HBP : Hid (Below w.heap.size w (w7.setCell ⟨g3, j, none⟩ (.slice a7 n7 c7))) := by
          have b1 : Below w.heap.size w (wi.alloc (Obj.cells #[.int .i64 (k : Int)] 3)) := HBi.out.alloc HBi.out.size _
          have b2 := b1.trans (below_grown hg7 b1.size (fun q e => (HR9.out.lt q e).1))
          exact b2.setCell (p := ⟨g3, j, none⟩) ((HC9.out.ov.lt g3 rfl).1) _
        clear ho7 hg7 hb7 hov7 d7 hn7 d0 HC9 HR9
        go_wp2
        go_roundw
        case rel => exact ⟨k + 1, _, us, by omega, by go_num, HPUT.out, HBP.out⟩
        case measure => simp [intOf]; omega
    · obtain rfl : k = 16 := by omega
      go_wp2
      go_ret
      exact ⟨_, _, vs, us, rfl, HCP.out, HB.out⟩
end Go.Proofs.Ytfbocionnjlilad
/- The first list that has a number, list by list, in plain lists. No program in it. -/
namespace Go.Proofs.Ytfbocionnjlilad
open Go.RowKit
set_option linter.unusedVariables false

theorem ixG_take {α : Type} {q : α → Bool} {L : List α} {k : Nat} (h : 0 ≤ ixG q (L.take k)) : ixG q L = ixG q (L.take k) := by
  obtain ⟨h1, h2⟩ := ixG_lt h
  have h3 := h2 h1
  have hl : (ixG q (L.take k)).toNat < L.length := by
    rw [List.length_take] at h1
    omega
  have e : (((ixG q (L.take k)).toNat : Nat) : Int) = ixG q (L.take k) := by omega
  rw [List.getElem_take] at h3
  rw [← e]
  refine ixG_hit hl ?_ h3
  rw [List.any_eq_false]
  intro x hx hq
  obtain ⟨j, hj, rfl⟩ := List.getElem_of_mem hx
  rw [List.length_take] at hj
  rw [List.getElem_take] at hq
  have hjk : j < (L.take k).length := by omega
  have : (L.take k)[j] = L[j] := List.getElem_take
  have h4 : ¬ j < (L.take k).findIdx q := by
    intro h5
    have := List.not_of_lt_findIdx h5
    rw [List.getElem_take] at this
    rw [hq] at this; cases this
  have h5 : ixG q (L.take k) = ((L.take k).findIdx q : Int) := by
    unfold ixG at h ⊢
    cases e2 : (L.take k).any q
    · rw [e2] at h; simp at h
    · simp
  omega
theorem rp_none {Ls : List (List Int)} {h : Int} (h1 : rpN Ls h ≠ 0) : rpI Ls h < 0 ∧ rpN Ls h = 5 ∧ rpV Ls h = 0 := by
  unfold rpN at h1 ⊢
  unfold rpV
  by_cases hn : rpI Ls h < 0
  · rw [if_pos hn, if_pos hn]; exact ⟨hn, rfl, rfl⟩
  · rw [if_neg hn] at h1; exact absurd rfl h1
theorem rp_nil (h : Int) : rpN [] h = 5 ∧ rpV [] h = 0 := by
  unfold rpN rpV rpI ixG
  simp
theorem rp_any {Ls : List (List Int)} {h : Int} (h1 : rpN Ls h = 5) : Ls.any (hasL h) = false := by
  unfold rpN at h1
  by_cases hn : rpI Ls h < 0
  · rw [List.any_eq_false]
    intro x hx
    rw [ixG_neg hn x hx]
    simp
  · rw [if_neg hn] at h1; cases h1
theorem rp_of_any {Ls : List (List Int)} {h : Int} (h1 : Ls.any (hasL h) = false) : rpN Ls h = 5 ∧ rpV Ls h = 0 := by
  have : rpI Ls h < 0 := by
    unfold rpI
    rw [ixG_no h1]
    omega
  unfold rpN rpV
  rw [if_pos this, if_pos this]
  exact ⟨rfl, rfl⟩
theorem rp_no {Ls : List (List Int)} {h : Int} {k : Nat} (hk : k < Ls.length) (h1 : rpN (Ls.take k) h = 5) (h2 : hasL h (Ls.getD k []) = false) : rpN (Ls.take (k + 1)) h = 5 ∧ rpV (Ls.take (k + 1)) h = 0 := by
  refine rp_of_any ?_
  rw [show Ls.getD k [] = Ls[k] by simp [List.getD, hk]] at h2
  exact any_nextG hk (rp_any h1) h2
theorem rp_yes {Ls : List (List Int)} {h : Int} {k : Nat} (hk : k < Ls.length) (h1 : rpN (Ls.take k) h = 5) (h2 : hasL h (Ls.getD k []) = true) : rpN (Ls.take (k + 1)) h = 0 ∧ rpV (Ls.take (k + 1)) h = mnTo (Ls.getD k []) (Ls.getD k []).length := by
  rw [show Ls.getD k [] = Ls[k] by simp [List.getD, hk]] at h2 ⊢
  have hl : k < (Ls.take (k + 1)).length := by rw [List.length_take]; omega
  have e : rpI (Ls.take (k + 1)) h = (k : Int) := by
    unfold rpI
    refine ixG_hit hl ?_ (by rw [List.getElem_take]; exact h2)
    rw [List.take_take, Nat.min_eq_left (by omega)]
    exact rp_any h1
  unfold rpN rpV
  rw [e, if_neg (by omega), if_neg (by omega)]
  refine ⟨rfl, ?_⟩
  have : (Ls.take (k + 1)).getD (k : Int).toNat [] = Ls[k] := by
    simp [List.getD, hk]
  rw [this]
theorem rp_found {Ls : List (List Int)} {h : Int} {k : Nat} (h1 : rpN (Ls.take k) h = 0) : rpN Ls h = 0 ∧ rpV Ls h = rpV (Ls.take k) h := by
  have hn : ¬ rpI (Ls.take k) h < 0 := by
    intro hn
    unfold rpN at h1
    rw [if_pos hn] at h1
    cases h1
  have e : rpI Ls h = rpI (Ls.take k) h := ixG_take (Int.not_lt.1 hn)
  unfold rpN rpV
  rw [e, if_neg hn, if_neg hn, if_neg hn]
  refine ⟨rfl, ?_⟩
  have hlt := (ixG_lt (Int.not_lt.1 hn)).1
  have : (Ls.take k).getD (rpI (Ls.take k) h).toNat [] = Ls.getD (rpI (Ls.take k) h).toNat [] := by
    have h3 : (rpI (Ls.take k) h).toNat < (Ls.take k).length := hlt
    have h4 : (rpI (Ls.take k) h).toNat < k := by rw [List.length_take] at h3; omega
    rw [List.getD, List.getD, List.getElem?_take, if_pos h4]
  rw [this]
theorem has_next {L : List Int} {h : Int} {k : Nat} (hk : k < L.length) : hasL h (L.take (k + 1)) = (hasL h (L.take k) || (L[k] == h)) := by
  unfold hasL
  rw [List.take_succ_eq_append_getElem hk, List.any_append]
  simp
end Go.Proofs.Ytfbocionnjlilad
/- What slices.Contains and slices.Min answer at a slice of numbers. -/
namespace Go.Proofs.Ytfbocionnjlilad
open Go.RowKit
set_option linter.unusedSimpArgs false
set_option linter.unusedVariables false

set_option maxHeartbeats 1000000 in
theorem num_idx (ao : Option Addr) (n cap : Nat) (h : Int) (L : List Int) (w : World) (hs : GS inE w (.slice ao n cap) L) :
    Calls Try.prog 28 #[.slice ao n cap, .int .i64 h] w fun e w' => e = .returned (.int .i64 (ixG (fun x => x == h) L)) ∧ Below w.heap.size w w' := by
  obtain ⟨_, _, _, e1, hn, hn2, _, ha⟩ := hs.form
  cases e1
  have HN : Hid (L.length = n) := hn
  have HA : Hid (0 < n → ∃ g o, ao = some ⟨g, o, none⟩ ∧ GAt inE w g o L ∧ cap ≤ maxLen) := ha
  unfold maxLen at hn2
  clear hn ha hs
  go_enter Try.func28, Try.ntmps28
  go_wp2
  go_loopw [8] (fun i wr => ∃ k : Nat, k ≤ n ∧ i = .int .i64 k ∧ (L.take k).any (fun x => x == h) = false ∧ Below w.heap.size w wr)
    (fun i _ => n - (intOf i).toNat)
  case atStart => exact ⟨0, by omega, rfl, by simp, Below.refl _ _⟩
  case round =>
    obtain ⟨k, hk, rfl, hno, hB⟩ := hrel
    have HB : Hid (Below w.heap.size w wr) := hB
    have HNO : Hid ((L.take k).any (fun x => x == h) = false) := hno
    clear hno
    by_cases hlt : k < n
    · obtain ⟨g, o, hao, hc, _⟩ := HA.out (by omega)
      subst hao
      obtain ⟨x, hkl, hL, q0⟩ := in_at (hc.later hB) HN.out hlt
      have HL : Hid (L[k] = x) := hL
      clear hB hL hc
      by_cases ho : x = h
      · subst ho
        go_wp2
        go_ret
        exact ⟨by rw [ixG_hit hkl HNO.out (by rw [HL.out]; simp)]; rfl, HB.out⟩
      · have ho2 : h ≠ x := Ne.symm ho
        go_wp2
        go_roundw
        case rel => exact ⟨k + 1, by omega, by go_num, any_nextG hkl HNO.out (by rw [HL.out]; simpa using ho), HB.out⟩
        case measure => simp [intOf]; omega
    · obtain rfl : k = n := by omega
      go_wp2
      go_ret
      exact ⟨by have := HNO.out; rw [← HN.out, List.take_length] at this; rw [ixG_no this]; rfl, HB.out⟩
set_option maxHeartbeats 1000000 in
theorem num_has (ao : Option Addr) (n cap : Nat) (h : Int) (L : List Int) (w : World) (hs : GS inE w (.slice ao n cap) L) :
    Calls Try.prog 16 #[.slice ao n cap, .int .i64 h] w fun e w' => e = .returned (.bool (hasL h L)) ∧ Below w.heap.size w w' := by
  have HX : Hid (hasL h L = decide (0 ≤ ixG (fun x => x == h) L)) := (ixG_any L (fun x => x == h)).symm
  rw [HX.out]
  obtain ⟨z, hz⟩ : ∃ z, z = ixG (fun x => x == h) L := ⟨_, rfl⟩
  rw [← hz]
  have HZ : Hid (z = ixG (fun x => x == h) L) := hz
  clear hz HX
  go_enter Try.func16, Try.ntmps16
  go_wp2_with fail
  refine (num_idx ao n cap h L _ hs).mono ?_
  rintro e w2 ⟨rfl, hb2⟩
  rw [← HZ.out]
  go_wp2
  go_ret
  exact ⟨rfl, hb2⟩
set_option maxHeartbeats 1000000 in
theorem num_min (ao : Option Addr) (n cap : Nat) (L : List Int) (w : World) (hs : GS inE w (.slice ao n cap) L) (hn1 : 0 < n) :
    Calls Try.prog 17 #[.slice ao n cap] w fun e w' => e = .returned (.int .i64 (mnTo L L.length)) ∧ Below w.heap.size w w' := by
  obtain ⟨_, _, _, e1, hn, hn2, _, ha⟩ := hs.form
  cases e1
  have HN : Hid (L.length = n) := hn
  obtain ⟨g, o, hao, hc, _⟩ := ha hn1
  subst hao
  have HC : Hid (GAt inE w g o L) := hc
  obtain ⟨x0, hx0, hL0, q0⟩ := in_at hc hn hn1
  have HX0 : Hid (mnTo L 1 = x0) := by
    show _ = _
    rw [mnTo, if_pos (.inl rfl), ← hL0]
    simp [List.getD, hx0]
  unfold maxLen at hn2
  have hn3 : ¬ (n : Int) < 1 := by omega
  rw [hn]
  simp only [Nat.add_zero] at q0
  clear hn ha hs hc hL0 hx0
  go_enter Try.func17, Try.ntmps17
  go_wp2
  go_loopw [3, 4] (fun m i wr => ∃ k : Nat, 0 < k ∧ k ≤ n ∧ m = .int .i64 (mnTo L k) ∧ i = .int .i64 k ∧ wr = w) (fun _ i _ => n - (intOf i).toNat)
  case atStart => exact ⟨1, by omega, by omega, by rw [HX0.out], rfl, rfl⟩
  case round =>
    obtain ⟨k, hk0, hk, rfl, rfl, hw⟩ := hrel
    subst hw
    by_cases hlt : k < n
    · obtain ⟨x, hkl, hL, q1⟩ := in_at HC.out HN.out hlt
      have HL : Hid (L.getD k 0 = x) := by
        show _ = _
        rw [← hL]
        simp [List.getD, hkl]
      clear hL q0
      obtain ⟨M, hM⟩ : ∃ M, M = mnTo L k := ⟨_, rfl⟩
      have HM : Hid (mnTo L k = M) := hM.symm
      rw [← hM]
      clear hM
      by_cases ho : x < M
      · have HR : Hid (mnTo L (k + 1) = x) := by
          show _ = _
          rw [mnTo, HL.out, HM.out, if_pos (.inr ho)]
        go_wp2
        go_roundw
        case rel => exact ⟨k + 1, by omega, by omega, by rw [HR.out], by go_num, trivial⟩
        case measure => simp [intOf]; omega
      · have HR : Hid (mnTo L (k + 1) = M) := by
          show _ = _
          rw [mnTo, HL.out, HM.out, if_neg]
          rintro (h1 | h1)
          · omega
          · exact ho h1
        go_wp2
        go_roundw
        case rel => exact ⟨k + 1, by omega, by omega, by rw [HR.out], by go_num, trivial⟩
        case measure => simp [intOf]; omega
    · obtain rfl : k = n := by omega
      clear q0
      go_wp2
      go_ret
      exact ⟨rfl, Below.refl _ _⟩
end Go.Proofs.Ytfbocionnjlilad
/- What becomes of a packet, hop by hop: plain lists. No program in it. -/
namespace Go.Proofs.Ytfbocionnjlilad
open Go.RowKit
set_option linter.unusedVariables false

section
variable {Ls : List ((Int × Int) × (Int × Int))} {Hs : List (ByteArray × (Int × Int))} {Ts : List (List Ru)}
/-- One hop is behind the other. -/
def NxH (Ls : List ((Int × Int) × (Int × Int))) (Hs : List (ByteArray × (Int × Int))) (Ts : List (List Ru)) (p q : (Int × Int) × Int) : Prop := ∃ o, stO Ts p = some o ∧ atO Hs o.1 = none ∧ peerO Ls o.1 = some q.1 ∧ q.2 = o.2
def atH (l : List ((Int × Int) × Int)) (i : Nat) : (Int × Int) × Int := l.getD i zeH
def ChH (Ls : List ((Int × Int) × (Int × Int))) (Hs : List (ByteArray × (Int × Int))) (Ts : List (List Ru)) (l : List ((Int × Int) × Int)) : Prop := ∀ i, i + 1 < l.length → NxH Ls Hs Ts (atH l i) (atH l (i + 1))
/-- What it comes to at the last of these hops. -/
def enE (Ls : List ((Int × Int) × (Int × Int))) (Hs : List (ByteArray × (Int × Int))) (Ts : List (List Ru)) (l : List ((Int × Int) × Int)) (p : (Int × Int) × Int) : (Int × ByteArray) ⊕ ((Int × Int) × Int) := goE Ls Hs (taT Ts p.1.1) l p
theorem la_at (l : List ((Int × Int) × Int)) : laH l = atH l (l.length - 1) := rfl
theorem at_app (l : List ((Int × Int) × Int)) (p : (Int × Int) × Int) : atH (l ++ [p]) l.length = p := by simp [atH, List.getD]
theorem at_lt {l : List ((Int × Int) × Int)} (m : List ((Int × Int) × Int)) {i : Nat} (h : i < l.length) : atH (l ++ m) i = atH l i := by simp [atH, List.getD, List.getElem?_append_left h]
theorem at_in {l : List ((Int × Int) × Int)} {i : Nat} (h : i < l.length) : atH l i ∈ l := by
  have e : atH l i = l[i] := by simp [atH, List.getD, h]
  rw [e]
  exact List.getElem_mem h
theorem en_r {l : List ((Int × Int) × Int)} {p q : (Int × Int) × Int} (h : enE Ls Hs Ts l p = .inr q) : NxH Ls Hs Ts p q ∧ l.length ≠ 24 ∧ q ∉ l := by
  unfold enE goE at h
  cases hs : stT (taT Ts p.1.1) p with
  | none => rw [hs] at h; cases h
  | some o =>
    rw [hs] at h
    simp only at h
    cases ha : atO Hs o.1 with
    | some m => rw [ha] at h; cases h
    | none =>
      rw [ha] at h
      simp only at h
      cases hp : peerO Ls o.1 with
      | none => rw [hp] at h; cases h
      | some s =>
        rw [hp] at h
        simp only at h
        split at h
        · cases h
        · next hn =>
          cases h
          rw [not_or] at hn
          refine ⟨⟨o, hs, ha, hp, rfl⟩, hn.1, fun hm => hn.2 ?_⟩
          exact List.any_eq_true.2 ⟨_, hm, (heB_iff _ _).2 rfl⟩
/-- A next hop that is not there yet is one. -/
theorem en_go {l : List ((Int × Int) × Int)} {p q : (Int × Int) × Int} (h : NxH Ls Hs Ts p q) (h24 : l.length ≠ 24) (hq : q ∉ l) : enE Ls Hs Ts l p = .inr q := by
  obtain ⟨o, h1, h2, h3, h4⟩ := h
  unfold enE goE
  rw [show stT (taT Ts p.1.1) p = some o from h1]
  simp only [h2, h3]
  rw [if_neg]
  · obtain ⟨q1, q2⟩ := q
    simp only at h4
    rw [h4]
  · rw [not_or]
    refine ⟨h24, fun hm => hq ?_⟩
    obtain ⟨x, hx, e⟩ := List.any_eq_true.1 hm
    have e2 := (heB_iff _ _).1 e
    obtain ⟨q1, q2⟩ := q
    simp only at h4
    rw [h4, e2]
    exact hx
/-- An end that is no loop is one whatever was there. -/
theorem en_l {l : List ((Int × Int) × Int)} {p : (Int × Int) × Int} {e : Int × ByteArray} (h : enE Ls Hs Ts l p = .inl e) (h4 : e.1 ≠ 4) (m : List ((Int × Int) × Int)) : enE Ls Hs Ts m p = .inl e := by
  unfold enE goE at h ⊢
  cases hs : stT (taT Ts p.1.1) p with
  | none => rw [hs] at h; exact h
  | some o =>
    rw [hs] at h
    simp only at h ⊢
    cases ha : atO Hs o.1 with
    | some m => rw [ha] at h; exact h
    | none =>
      rw [ha] at h
      simp only at h ⊢
      cases hp : peerO Ls o.1 with
      | none => rw [hp] at h; exact h
      | some s =>
        rw [hp] at h
        simp only at h
        split at h
        · cases h
          exact absurd rfl h4
        · cases h
/-- An end, in words. -/
theorem en_end {l : List ((Int × Int) × Int)} {p : (Int × Int) × Int} {e : Int × ByteArray} (h : enE Ls Hs Ts l p = .inl e) (hn : ∀ x ∈ Hs, x.1 ≠ ByteArray.empty) : (stO Ts p = none ↔ e.1 = 2) ∧ (e.1 = 1 ↔ e.2 ≠ ByteArray.empty) := by
  unfold enE goE at h
  unfold stO
  cases hs : stT (taT Ts p.1.1) p with
  | none => rw [hs] at h; cases h; simp
  | some o =>
    rw [hs] at h
    simp only at h
    cases ha : atO Hs o.1 with
    | some m =>
      rw [ha] at h
      cases h
      refine ⟨by simp, fun _ => ?_, fun _ => rfl⟩
      rcases at_ix Hs o.1 with ⟨_, h0⟩ | ⟨k, hk, _, h1⟩
      · rw [ha] at h0; cases h0
      · rw [ha] at h1
        cases h1
        exact hn _ (List.getElem_mem hk)
    | none =>
      rw [ha] at h
      simp only at h
      cases hp : peerO Ls o.1 with
      | none => rw [hp] at h; cases h; simp
      | some s =>
        rw [hp] at h
        simp only at h
        split at h
        · cases h; simp
        · cases h
theorem fo_s (n : Nat) (l : List ((Int × Int) × Int)) : foF Ls Hs Ts (n + 1) l = match enE Ls Hs Ts l (laH l) with | .inl e => (e.1, e.2, l) | .inr p => foF Ls Hs Ts n (l ++ [p]) := rfl
/-- What is so of the hops that are told. -/
theorem fo_spec : ∀ (n : Nat) (l : List ((Int × Int) × Int)), 0 < l.length → l.length + n = 25 → 1 ≤ n → l.Nodup → ChH Ls Hs Ts l →
    ∃ rest, (foF Ls Hs Ts n l).2.2 = l ++ rest ∧ (foF Ls Hs Ts n l).2.2.length ≤ 24 ∧ (foF Ls Hs Ts n l).2.2.Nodup ∧ ChH Ls Hs Ts (foF Ls Hs Ts n l).2.2 ∧
      enE Ls Hs Ts (foF Ls Hs Ts n l).2.2 (laH (foF Ls Hs Ts n l).2.2) = .inl ((foF Ls Hs Ts n l).1, (foF Ls Hs Ts n l).2.1)
  | 0, l, _, _, h, _, _ => by omega
  | n + 1, l, h0, hl, _, hd, hc => by
    rw [fo_s]
    cases he : enE Ls Hs Ts l (laH l) with
    | inl e => exact ⟨[], by simp, by simp only; omega, hd, hc, he⟩
    | inr p =>
      obtain ⟨h1, h2, h3⟩ := en_r he
      simp only
      have hl2 : l.length < 24 := by omega
      have hd2 : (l ++ [p]).Nodup := by
        rw [List.nodup_append]
        refine ⟨hd, by simp, fun a ha b hb e => ?_⟩
        simp only [List.mem_singleton] at hb
        subst hb
        subst e
        exact h3 ha
      have hc2 : ChH Ls Hs Ts (l ++ [p]) := by
        intro i hi
        simp only [List.length_append, List.length_cons, List.length_nil] at hi
        by_cases e : i + 1 = l.length
        · rw [at_lt _ (show i < l.length by omega), e, at_app]
          rw [la_at] at h1
          have : i = l.length - 1 := by omega
          rw [this]
          exact h1
        · rw [at_lt _ (show i < l.length by omega), at_lt _ (show i + 1 < l.length by omega)]
          exact hc i (by omega)
      obtain ⟨rest, e1, e2⟩ := fo_spec n (l ++ [p]) (by simp) (by simp; omega) (by omega) hd2 hc2
      exact ⟨p :: rest, by rw [e1]; simp, e2⟩
/-- From any of the hops on it ends likewise. -/
theorem fo_tail {L : List ((Int × Int) × Int)} {e : Int × ByteArray} (hd : L.Nodup) (hc : ChH Ls Hs Ts L) (h24 : L.length ≤ 24) (he : enE Ls Hs Ts L (laH L) = .inl e) (h4 : e.1 ≠ 4) :
    ∀ (r k : Nat) (m : List ((Int × Int) × Int)) (n : Nat), k + 1 + r = L.length → 0 < m.length → m.length ≤ k + 1 → laH m = atH L k → (∀ x ∈ m, ∃ j, j ≤ k ∧ x = atH L j) → r < n →
      (foF Ls Hs Ts n m).1 = e.1 ∧ (foF Ls Hs Ts n m).2.1 = e.2 ∧ (foF Ls Hs Ts n m).2.2.length = m.length + r
  | r, k, m, 0, _, _, _, _, _, hn => by omega
  | 0, k, m, n + 1, hk, hm, hmk, hla, hin, hn => by
    rw [fo_s]
    have : laH m = laH L := by
      rw [hla, la_at]
      congr 1
      omega
    rw [this, en_l he h4 m]
    exact ⟨rfl, rfl, by simp⟩
  | r + 1, k, m, n + 1, hk, hm, hmk, hla, hin, hn => by
    rw [fo_s]
    have hnx := hc k (by omega)
    have hq : atH L (k + 1) ∉ m := by
      intro hx
      obtain ⟨j, hj, e2⟩ := hin _ hx
      have e3 : L[k + 1]'(by omega) = L[j]'(by omega) := by
        have a1 : atH L (k + 1) = L[k + 1]'(by omega) := by
          have : k + 1 < L.length := by omega
          simp [atH, List.getD, this]
        have a2 : atH L j = L[j]'(by omega) := by
          have : j < L.length := by omega
          simp [atH, List.getD, this]
        rw [← a1, ← a2]
        exact e2
      have := (List.getElem_inj hd).1 e3
      omega
    rw [hla, en_go hnx (by omega) hq]
    simp only
    have h := fo_tail hd hc h24 he h4 r (k + 1) (m ++ [atH L (k + 1)]) n (by omega) (by simp) (by simp; omega) (by
      rw [la_at]
      simp only [List.length_append, List.length_cons, List.length_nil, Nat.add_sub_cancel]
      exact at_app _ _) (by
      intro x hx
      rw [List.mem_append] at hx
      rcases hx with hx | hx
      · obtain ⟨j, hj, e2⟩ := hin x hx
        exact ⟨j, by omega, e2⟩
      · simp only [List.mem_singleton] at hx
        exact ⟨k + 1, Nat.le_refl _, hx⟩) (by omega)
    refine ⟨h.1, h.2.1, ?_⟩
    rw [h.2.2]
    simp
    omega
end
end Go.Proofs.Ytfbocionnjlilad
/- A line of switches: plain lists. No program in it. -/
namespace Go.Proofs.Ytfbocionnjlilad
open Go.RowKit
set_option linter.unusedVariables false

/-- The links of a line. -/
def lnTo : Nat → List ((Int × Int) × (Int × Int))
  | 0 => []
  | k + 1 => lnTo k ++ [(((k : Int) + 1, 2), ((k : Int) + 1 + 1, 1))]
theorem ln_len (k : Nat) : (lnTo k).length = k := by
  induction k with
  | zero => rfl
  | succ k ih => simp [lnTo, ih]
/-- Its hosts. -/
def lnH (n : Int) : List (ByteArray × (Int × Int)) := [(⟨#[97]⟩, (1, 3)), (⟨#[98]⟩, (n, 4))]
def lnOk (n : Nat) : Bool := decide (tpN n (lnTo (n - 1)) (lnH n) = 0)
theorem ln_ok (n : Nat) (h1 : 1 ≤ n) (h6 : n ≤ 6) : tpN n (lnTo (n - 1)) (lnH n) = 0 := by
  have h : ∀ m ∈ [1, 2, 3, 4, 5, 6], lnOk m = true := by decide +kernel
  have h2 := h n (by simp; omega)
  simpa [lnOk] using h2
theorem ln_7 : tpN 7 (lnTo 6) (lnH 7) ≠ 0 := by decide +kernel
/-- How far, and how many are near, for all lines and switches. -/
def lnAll (n a b : Nat) : Bool := decide (faN n (lnTo (n - 1)) a b = if a < b then (b : Int) - a else (a : Int) - b) && decide (((nrL n (lnTo (n - 1)) a).length : Int) = 2 - (if a = 1 then 1 else 0) - (if a = n then 1 else 0))
theorem ln_all (n a b : Nat) (h1 : 1 ≤ n) (h6 : n ≤ 6) (a1 : 1 ≤ a) (a2 : a ≤ n) (b1 : 1 ≤ b) (b2 : b ≤ n) : lnAll n a b = true := by
  have h : ∀ m ∈ [1, 2, 3, 4, 5, 6], ∀ a ∈ [1, 2, 3, 4, 5, 6], ∀ b ∈ [1, 2, 3, 4, 5, 6], a ≤ m → b ≤ m → lnAll m a b = true := by decide +kernel
  exact h n (by simp; omega) a (by simp; omega) b (by simp; omega) a2 b2
end Go.Proofs.Ytfbocionnjlilad
/- Hops of a right net are right; two switches that send each other all: plain lists. No program in it. -/
namespace Go.Proofs.Ytfbocionnjlilad
open Go.RowKit
set_option linter.unusedVariables false

theorem aph_fin : ∀ s v h : Fin 16, (bits .andNot .i64 ((v : Nat) : Int) ((s : Nat) : Int) == 0) = true → hdrB (apV ((s : Nat) : Int) ((v : Nat) : Int) ((h : Nat) : Int)) = true := by decide +kernel
theorem ap_hdr {p m b o s v h : Int} (hr : apN p m b o s v h = 0) : hdrB (apR p m b o s v h) = true := by
  obtain ⟨h1, h2, _, _⟩ := ap_yes hr
  obtain ⟨g1, _, g3⟩ := ru_ok h1
  obtain ⟨_, hs, hv⟩ := ru_in g1
  obtain ⟨s', rfl⟩ := small hs
  obtain ⟨v', rfl⟩ := small hv
  obtain ⟨h', rfl⟩ := small (hdr_of h2)
  simp only [ruSet, Bool.and_eq_true] at g3
  rw [apR, if_pos hr]
  exact aph_fin s' v' h' g3.1
section
variable {S : Int} {Ls : List ((Int × Int) × (Int × Int))} {Hs : List (ByteArray × (Int × Int))} {Ts : List (List Ru)}
theorem st_hdr {p o : (Int × Int) × Int} (h : stO Ts p = some o) : hdrB o.2 = true ∧ o.1.1 = p.1.1 := by
  unfold stO stT at h
  split at h
  · split at h
    · next hr =>
      cases h
      exact ⟨ap_hdr hr, rfl⟩
    · cases h
  · cases h
theorem peer_sp (ht : tpN S Ls Hs = 0) {s p : Int × Int} (h : peerO Ls s = some p) : spB S p = true := (tp_0 ht).2.2.1 p (peer_in h).2
theorem where_sp (ht : tpN S Ls Hs = 0) {n : ByteArray} {p : Int × Int} (h : whereO Hs n = some p) : spB S p = true := by
  rcases where_ix Hs n with ⟨_, h0⟩ | ⟨k, hk, _, h1⟩
  · rw [h] at h0; cases h0
  · rw [h] at h1
    cases h1
    exact ((tp_0 ht).2.2.2.2.1 _ (List.getElem_mem hk)).2
theorem name_ne (ht : tpN S Ls Hs = 0) : ∀ x ∈ Hs, x.1 ≠ ByteArray.empty := by
  intro x hx e
  have h := ((tp_0 ht).2.2.2.2.1 x hx).1
  rw [e] at h
  revert h
  decide
theorem nx_good (ht : tpN S Ls Hs = 0) {p q : (Int × Int) × Int} (h : NxH Ls Hs Ts p q) : spB S q.1 = true ∧ hdrB q.2 = true := by
  obtain ⟨o, h1, _, h3, h4⟩ := h
  exact ⟨peer_sp ht h3, by rw [h4]; exact (st_hdr h1).1⟩
end
/-- Two switches that send each other all. -/
def ruG : Ru := ⟨1, 0, 0, 2, 0, 0⟩
def ruK : Ru := ⟨1, 0, 0, 1, 0, 0⟩
def ruD (h : Int) : Ru := ⟨5, 15, h, 0, 0, 0⟩
def naA : ByteArray := ⟨#[97]⟩
theorem turn1_fin : ∀ h : Fin 16, (decide (seN 2 (lnTo 1) (lnH 2) [[ruG], [ruK]] naA ((h : Nat) : Int) = 0) && (decide ((seV 2 (lnTo 1) (lnH 2) [[ruG], [ruK]] naA ((h : Nat) : Int)).1 = 4) && decide ((seV 2 (lnTo 1) (lnH 2) [[ruG], [ruK]] naA ((h : Nat) : Int)).2.2.length = 3))) = true := by decide +kernel
theorem turn2_fin : ∀ h : Fin 16, (decide (seN 2 (lnTo 1) (lnH 2) [[ruG], [ruD ((h : Nat) : Int), ruK]] naA ((h : Nat) : Int) = 0) && (decide ((seV 2 (lnTo 1) (lnH 2) [[ruG], [ruD ((h : Nat) : Int), ruK]] naA ((h : Nat) : Int)).1 = 2) && decide ((seV 2 (lnTo 1) (lnH 2) [[ruG], [ruD ((h : Nat) : Int), ruK]] naA ((h : Nat) : Int)).2.2.length = 2))) = true := by decide +kernel
theorem turn1 {h : Int} (hh : hdrB h = true) : seN 2 (lnTo 1) (lnH 2) [[ruG], [ruK]] naA h = 0 ∧ (seV 2 (lnTo 1) (lnH 2) [[ruG], [ruK]] naA h).1 = 4 ∧ (seV 2 (lnTo 1) (lnH 2) [[ruG], [ruK]] naA h).2.2.length = 3 := by
  obtain ⟨h', rfl⟩ := small (hdr_of hh)
  simpa using turn1_fin h'
theorem turn2 {h : Int} (hh : hdrB h = true) : seN 2 (lnTo 1) (lnH 2) [[ruG], [ruD h, ruK]] naA h = 0 ∧ (seV 2 (lnTo 1) (lnH 2) [[ruG], [ruD h, ruK]] naA h).1 = 2 ∧ (seV 2 (lnTo 1) (lnH 2) [[ruG], [ruD h, ruK]] naA h).2.2.length = 2 := by
  obtain ⟨h', rfl⟩ := small (hdr_of hh)
  simpa using turn2_fin h'
theorem turn3_nt : ntN 2 (lnTo 1) (lnH 2) [[], []] = 0 ∧ weN 2 (lnTo 1) (lnH 2) naA = 0 := by decide +kernel
theorem turn3 {h : Int} (hh : hdrB h = false) : seN 2 (lnTo 1) (lnH 2) [[], []] naA h = 1 := by
  unfold seN
  rw [if_pos turn3_nt.1, if_pos turn3_nt.2, hh]
  rfl
end Go.Proofs.Ytfbocionnjlilad
/- What Of, All, Path and Rep of package class answer: contracts for the walks above them. -/
namespace Go.Proofs.Ytfbocionnjlilad
open Go.RowKit
set_option linter.unusedSimpArgs false
set_option linter.unusedVariables false

/-- One table in a new row. -/
theorem tsone1 (W : World) (a : Option Addr) (n c : Nat) (L : List Ru) (t : TypeId) (h : SR W (.slice a n c) L) : TS (W.alloc (Obj.cells #[.slice a n c] t)) (.slice (some ⟨W.heap.size, 0, none⟩) 1 1) [L] := by
  have hb : Below W.heap.size W (W.alloc (Obj.cells #[.slice a n c] t)) := (Below.refl _ _).alloc (Nat.le_refl _) _
  refine .inr ⟨W.heap.size, 0, 1, rfl, Nat.le_refl _, by unfold maxLen; omega, fun i hi => ?_⟩
  obtain rfl : i = 0 := by simp at hi; omega
  exact ⟨a, n, c, by simp, h.later hb⟩
/-- The classes of a table, if it is right. -/
def ofL (L : List Ru) : List (List Int) := if tbN L = 0 then clsL [L] else []
set_option maxHeartbeats 1000000 in
theorem of_any (a : Option Addr) (n c : Nat) (L : List Ru) (w : World) (hs : SR w (.slice a n c) L) :
    Calls Try.prog 5 #[.slice a n c] w fun e w' => ∃ v, e = .returned (.tuple #[v, noV (tbN L)]) ∧ ILS w' v (ofL L) ∧ Below w.heap.size w w' := by
  have HS : Hid (SR w (.slice a n c) L) := hs
  clear hs
  go_enter Try.func5, Try.ntmps5
  go_wp2_with fail
  refine (table_any _ L _ HS.out).mono ?_
  rintro e w1 ⟨rfl, hb1⟩
  obtain ⟨N, hN⟩ : ∃ N, N = tbN L := ⟨_, rfl⟩
  have HN : Hid (N = tbN L) := hN
  rw [← hN]
  have HB1 : Hid (Below w.heap.size w w1) := hb1
  have HS1 : Hid (SR w1 (.slice a n c) L) := HS.out.later hb1
  clear hN hb1
  by_cases h0 : N = 0
  · subst h0
    rw [no_ok rfl]
    have HL : Hid (ofL L = clsL [L]) := by
      show _ = _
      rw [ofL, if_pos HN.out.symm]
    go_wp2_with fail
    refine (alike_any _ 1 1 [L] _ (tsone1 w1 a n c L _ HS1.out) (by omega)).mono ?_
    rintro e w2 ⟨v, u, vs, us, rfl, hCP, hb2⟩
    have HB2 : Hid (Below w.heap.size w w2) := (HB1.out.alloc HB1.out.size _).trans (hb2.mono (by have := HB1.out.size; simp; omega))
    have HLS : Hid (ILS w2 v (ofL L)) := by
      show ILS _ _ _
      rw [HL.out]
      exact hCP.ls
    clear hCP hb2
    go_wp2
    refine bodyPost_ret (v := .tuple #[v, .nilIface]) (by simp [results, Try.results5, go_sem]) rfl ⟨v, by rw [← HN.out]; rfl, HLS.out, HB2.out⟩
  · rw [no_ne h0]
    have HL : Hid (ofL L = []) := by
      show _ = _
      rw [ofL, if_neg (by rw [← HN.out]; exact h0)]
    have HN0 : Hid (N ≠ 0) := h0
    clear h0
    go_wp2
    refine bodyPost_ret (v := .tuple #[.slice none 0 0, .iface 57 (.int .i64 N)]) (by simp [results, Try.results5, go_sem]) rfl ⟨_, by rw [← HN.out, no_ne HN0.out], ?_, HB1.out⟩
    rw [HL.out]
    exact ILS.nil _
/-- The classes of a net, if it is right. -/
def acL (S : Int) (Ls : List ((Int × Int) × (Int × Int))) (Hs : List (ByteArray × (Int × Int))) (Ts : List (List Ru)) : List (List Int) := if ntN S Ls Hs Ts = 0 then clsL Ts else []
theorem nt_8 {S : Int} {Ls : List ((Int × Int) × (Int × Int))} {Hs : List (ByteArray × (Int × Int))} {Ts : List (List Ru)} (h : ntN S Ls Hs Ts = 0) : Ts.length ≤ 8 := by
  obtain ⟨h1, h2, _⟩ := nt_0 h
  have := (tp_0 h1).1.2
  omega
set_option maxHeartbeats 1000000 in
theorem allC_any (S : Int) (ao : Option Addr) (n cap : Nat) (ao2 : Option Addr) (n2 cap2 : Nat) (ao3 : Option Addr) (n3 cap3 : Nat) (Ls : List ((Int × Int) × (Int × Int))) (Hs : List (ByteArray × (Int × Int))) (Ts : List (List Ru)) (w : World)
    (hL : GS lnkE w (.slice ao n cap) Ls) (hH : GS hstE w (.slice ao2 n2 cap2) Hs) (hT : TS w (.slice ao3 n3 cap3) Ts) :
    Calls Try.prog 6 #[.agg #[.int .i64 S, .slice ao n cap, .slice ao2 n2 cap2, .slice ao3 n3 cap3]] w fun e w' => ∃ v, e = .returned (.tuple #[v, noV (ntN S Ls Hs Ts)]) ∧ ILS w' v (acL S Ls Hs Ts) ∧ Below w.heap.size w w' := by
  have hb0 : Below w.heap.size w (w.alloc (Obj.cells #[.int .i64 S, .slice ao n cap, .slice ao2 n2 cap2, .slice ao3 n3 cap3] 28)) := (Below.refl _ _).alloc (Nat.le_refl _) _
  have HX := nebox_new w S (.slice ao n cap) (.slice ao2 n2 cap2) (.slice ao3 n3 cap3) 28
  obtain ⟨w0, hw0⟩ : ∃ W, w.alloc (Obj.cells #[.int .i64 S, .slice ao n cap, .slice ao2 n2 cap2, .slice ao3 n3 cap3] 28) = W := ⟨_, rfl⟩
  rw [hw0] at hb0 HX
  have HW0 : Hid (w.alloc (Obj.cells #[.int .i64 S, .slice ao n cap, .slice ao2 n2 cap2, .slice ao3 n3 cap3] 28) = w0) := hw0
  have HB0 : Hid (Below w.heap.size w w0) := hb0
  have HL0 : Hid (GS lnkE w0 (.slice ao n cap) Ls) := hL.later hb0
  have HH0 : Hid (GS hstE w0 (.slice ao2 n2 cap2) Hs) := hH.later hb0
  have HT0 : Hid (TS w0 (.slice ao3 n3 cap3) Ts) := hT.later hb0
  have HXB : Hid (NeBox w0 w.heap.size S (.slice ao n cap) (.slice ao2 n2 cap2) (.slice ao3 n3 cap3)) := HX
  obtain ⟨b0, b1, b2, b3⟩ := HX
  have HN3 : Hid (Ts.length = n3) := hT.len
  clear hL hH hT hb0 hw0
  go_enter Try.func6, Try.ntmps6
  go_upto_region 1 with fail
  rw [HW0.out]
  clear HW0
  go_wp2_with fail
  refine (ncheck_any S ao n cap ao2 n2 cap2 ao3 n3 cap3 Ls Hs Ts _ HL0.out HH0.out HT0.out).mono ?_
  rintro e w1 ⟨rfl, hb1⟩
  obtain ⟨N, hN⟩ : ∃ N, N = ntN S Ls Hs Ts := ⟨_, rfl⟩
  have HN : Hid (N = ntN S Ls Hs Ts) := hN
  rw [← hN]
  have HB1 : Hid (Below w.heap.size w w1) := HB0.out.trans (hb1.mono HB0.out.size)
  have HT1 : Hid (TS w1 (.slice ao3 n3 cap3) Ts) := HT0.out.later hb1
  have hx1 := HXB.out.later hb1
  clear hN hb1 b0 b1 b2 b3
  obtain ⟨b0, b1, b2, b3⟩ := hx1
  by_cases h0 : N = 0
  · subst h0
    rw [no_ok rfl]
    have HA : Hid (acL S Ls Hs Ts = clsL Ts) := by
      show _ = _
      rw [acL, if_pos HN.out.symm]
    have H8 : Hid (n3 ≤ 8) := by
      have := nt_8 HN.out.symm
      have h3 := HN3.out
      show _ ≤ _
      omega
    go_wp2_with fail
    refine (alike_any ao3 n3 cap3 Ts _ HT1.out H8.out).mono ?_
    rintro e w2 ⟨v, u, vs, us, rfl, hCP, hb2⟩
    have HB2 : Hid (Below w.heap.size w w2) := HB1.out.trans (hb2.mono HB1.out.size)
    have HLS : Hid (ILS w2 v (acL S Ls Hs Ts)) := by
      show ILS _ _ _
      rw [HA.out]
      exact hCP.ls
    clear hCP hb2 b0 b1 b2 b3
    go_wp2
    refine bodyPost_ret (v := .tuple #[v, .nilIface]) (by simp [results, Try.results6, go_sem]) rfl ⟨v, by rw [← HN.out]; rfl, HLS.out, HB2.out⟩
  · rw [no_ne h0]
    have HA : Hid (acL S Ls Hs Ts = []) := by
      show _ = _
      rw [acL, if_neg (by rw [← HN.out]; exact h0)]
    have HN0 : Hid (N ≠ 0) := h0
    clear h0 b0 b1 b2 b3
    go_wp2
    refine bodyPost_ret (v := .tuple #[.slice none 0 0, .iface 57 (.int .i64 N)]) (by simp [results, Try.results6, go_sem]) rfl ⟨_, by rw [← HN.out, no_ne HN0.out], ?_, HB1.out⟩
    rw [HA.out]
    exact ILS.nil _
/-- The fault of a path, and the path. -/
def ptN (S : Int) (Ls : List ((Int × Int) × (Int × Int))) (Hs : List (ByteArray × (Int × Int))) (Ts : List (List Ru)) (h : Int) : Int := if ntN S Ls Hs Ts = 0 then (if hdrB h then 0 else 1) else ntN S Ls Hs Ts
def ptL (S : Int) (Ls : List ((Int × Int) × (Int × Int))) (Hs : List (ByteArray × (Int × Int))) (Ts : List (List Ru)) (h : Int) : List Int := if ptN S Ls Hs Ts h = 0 then pthL Ts h else []
set_option maxHeartbeats 1000000 in
theorem pathC_any (S : Int) (ao : Option Addr) (n cap : Nat) (ao2 : Option Addr) (n2 cap2 : Nat) (ao3 : Option Addr) (n3 cap3 : Nat) (Ls : List ((Int × Int) × (Int × Int))) (Hs : List (ByteArray × (Int × Int))) (Ts : List (List Ru)) (h : Int) (w : World)
    (hL : GS lnkE w (.slice ao n cap) Ls) (hH : GS hstE w (.slice ao2 n2 cap2) Hs) (hT : TS w (.slice ao3 n3 cap3) Ts) :
    Calls Try.prog 8 #[.agg #[.int .i64 S, .slice ao n cap, .slice ao2 n2 cap2, .slice ao3 n3 cap3], .int .i64 h] w fun e w' => ∃ a4 n4 c4, e = .returned (.tuple #[.slice a4 n4 c4, noV (ptN S Ls Hs Ts h)]) ∧ GS inE w' (.slice a4 n4 c4) (ptL S Ls Hs Ts h) ∧ Below w.heap.size w w' := by
  have hb0 : Below w.heap.size w (w.alloc (Obj.cells #[.int .i64 S, .slice ao n cap, .slice ao2 n2 cap2, .slice ao3 n3 cap3] 28)) := (Below.refl _ _).alloc (Nat.le_refl _) _
  have HX := nebox_new w S (.slice ao n cap) (.slice ao2 n2 cap2) (.slice ao3 n3 cap3) 28
  obtain ⟨w0, hw0⟩ : ∃ W, w.alloc (Obj.cells #[.int .i64 S, .slice ao n cap, .slice ao2 n2 cap2, .slice ao3 n3 cap3] 28) = W := ⟨_, rfl⟩
  rw [hw0] at hb0 HX
  have HW0 : Hid (w.alloc (Obj.cells #[.int .i64 S, .slice ao n cap, .slice ao2 n2 cap2, .slice ao3 n3 cap3] 28) = w0) := hw0
  have HB0 : Hid (Below w.heap.size w w0) := hb0
  have HL0 : Hid (GS lnkE w0 (.slice ao n cap) Ls) := hL.later hb0
  have HH0 : Hid (GS hstE w0 (.slice ao2 n2 cap2) Hs) := hH.later hb0
  have HT0 : Hid (TS w0 (.slice ao3 n3 cap3) Ts) := hT.later hb0
  have HXB : Hid (NeBox w0 w.heap.size S (.slice ao n cap) (.slice ao2 n2 cap2) (.slice ao3 n3 cap3)) := HX
  obtain ⟨b0, b1, b2, b3⟩ := HX
  have HN3 : Hid (Ts.length = n3) := hT.len
  obtain ⟨M, hM⟩ : ∃ M, M = ptN S Ls Hs Ts h := ⟨_, rfl⟩
  have HM : Hid (M = ptN S Ls Hs Ts h) := hM
  rw [← hM]
  clear hL hH hT hb0 hw0 hM
  go_enter Try.func8, Try.ntmps8
  go_upto_region 1 with fail
  rw [HW0.out]
  clear HW0
  go_wp2_with fail
  refine (ncheck_any S ao n cap ao2 n2 cap2 ao3 n3 cap3 Ls Hs Ts _ HL0.out HH0.out HT0.out).mono ?_
  rintro e w1 ⟨rfl, hb1⟩
  obtain ⟨N, hN⟩ : ∃ N, N = ntN S Ls Hs Ts := ⟨_, rfl⟩
  have HN : Hid (N = ntN S Ls Hs Ts) := hN
  rw [← hN]
  have HB1 : Hid (Below w.heap.size w w1) := HB0.out.trans (hb1.mono HB0.out.size)
  have HT1 : Hid (TS w1 (.slice ao3 n3 cap3) Ts) := HT0.out.later hb1
  have hx1 := HXB.out.later hb1
  clear hN hb1 b0 b1 b2 b3
  obtain ⟨b0, b1, b2, b3⟩ := hx1
  by_cases h0 : N = 0
  · subst h0
    rw [no_ok rfl]
    have H8 : Hid (n3 ≤ 8) := by
      have := nt_8 HN.out.symm
      have h3 := HN3.out
      show _ ≤ _
      omega
    cases hh : hdrB h
    · have HM1 : Hid (M = 1) := by
        show _ = _
        rw [HM.out, ptN, if_pos HN.out.symm, hh]
        rfl
      have HP : Hid (ptL S Ls Hs Ts h = []) := by
        show _ = _
        rw [ptL, ← HM.out, HM1.out]
        rfl
      go_wp2_with fail
      refine (isHeader_no _ _ hh).mono ?_
      rintro e w' ⟨rfl, hw'⟩
      subst hw'
      clear b0 b1 b2 b3
      go_wp2
      refine bodyPost_ret (v := .tuple #[.slice none 0 0, .iface 57 (.int .i64 1)]) (by simp [results, Try.results8, go_sem]) rfl ⟨_, _, _, by rw [HM1.out]; rfl, ?_, HB1.out⟩
      rw [HP.out]
      exact GS.nil _
    · have HM1 : Hid (M = 0) := by
        show _ = _
        rw [HM.out, ptN, if_pos HN.out.symm, hh]
        rfl
      have HP : Hid (ptL S Ls Hs Ts h = pthL Ts h) := by
        show _ = _
        rw [ptL, ← HM.out, HM1.out]
        rfl
      go_wp2_with fail
      refine (isHeader_yes _ _ hh).mono ?_
      rintro e w' ⟨rfl, hw'⟩
      subst hw'
      go_wp2_with fail
      refine (path_any ao3 n3 cap3 Ts h _ HT1.out H8.out).mono ?_
      rintro e w2 ⟨rfl, hown2, hb2⟩
      have HB2 := HB1.out.trans (hb2.mono HB1.out.size)
      have HG2 : Hid (GS inE w2 (.slice (some ⟨w'.heap.size, 0, none⟩) n3 n3) (ptL S Ls Hs Ts h)) := by
        show GS _ _ _ _
        rw [HP.out]
        exact own_GS hown2
      clear hown2 hb2 b0 b1 b2 b3
      go_wp2
      refine bodyPost_ret (v := .tuple #[.slice (some ⟨w'.heap.size, 0, none⟩) n3 n3, .nilIface]) (by simp [results, Try.results8, go_sem]) rfl ⟨_, _, _, by rw [HM1.out]; rfl, HG2.out, HB2⟩
  · rw [no_ne h0]
    have HM1 : Hid (M = N) := by
      show _ = _
      rw [HM.out, ptN, if_neg (by rw [← HN.out]; exact h0), HN.out]
    have HP : Hid (ptL S Ls Hs Ts h = []) := by
      show _ = _
      rw [ptL, ← HM.out, HM1.out, if_neg h0]
    have HN0 : Hid (N ≠ 0) := h0
    clear h0 b0 b1 b2 b3
    go_wp2
    refine bodyPost_ret (v := .tuple #[.slice none 0 0, .iface 57 (.int .i64 N)]) (by simp [results, Try.results8, go_sem]) rfl ⟨_, _, _, by rw [HM1.out, no_ne HN0.out], ?_, HB1.out⟩
    rw [HP.out]
    exact GS.nil _
theorem enters_rep1 : ∀ args w, (callFunc 15 args).run Try.prog w = .ok (.enter 15 args) w := enters_of Try.func15 (by kernel_rfl) rfl
set_option maxHeartbeats 1000000 in
theorem rep1_any (ao : Option Addr) (n c b : Nat) (h : Int) (L : List Int) (W : World) (hb : W.cell? ⟨b, 0, none⟩ = some (.int .i64 h)) (hL : GS inE W (.slice ao n c) L) :
    Calls Try.prog 15 #[.slice ao n c, .pointer (some ⟨b, 0, none⟩)] W fun e w' => e = .returned (.bool (hasL h L)) ∧ Below W.heap.size W w' := by
  go_enter Try.func15, Try.ntmps15
  go_wp2_with fail
  refine (num_has ao n c h L _ hL).mono ?_
  rintro e w1 ⟨rfl, hb1⟩
  go_wp2
  go_ret
  exact ⟨rfl, hb1⟩
set_option maxHeartbeats 1000000 in
theorem rep_any (a : Option Addr) (n c : Nat) (h : Int) (Ls : List (List Int)) (w : World) (hs : ILS w (.slice a n c) Ls) :
    Calls Try.prog 7 #[.slice a n c, .int .i64 h] w fun e w' => e = .returned (.tuple #[.int .i64 (rpV Ls h), noV (rpN Ls h)]) ∧ Below w.heap.size w w' := by
  have hb0 : Below w.heap.size w (w.alloc (Obj.cells #[.int .i64 h] 3)) := (Below.refl _ _).alloc (Nat.le_refl _) _
  have hc0 : (w.alloc (Obj.cells #[.int .i64 h] 3)).cell? ⟨w.heap.size, 0, none⟩ = some (.int .i64 h) := by simp
  obtain ⟨w0, hw0⟩ : ∃ W, w.alloc (Obj.cells #[.int .i64 h] 3) = W := ⟨_, rfl⟩
  rw [hw0] at hb0 hc0
  have HW0 : Hid (w.alloc (Obj.cells #[.int .i64 h] 3) = w0) := hw0
  have HB0 : Hid (Below w.heap.size w w0) := hb0
  have HS0 : Hid (ILS w0 (.slice a n c) Ls) := hs.later hb0
  have HASK : Hid (ilAsks w0 15 (.pointer (some ⟨w.heap.size, 0, none⟩)) (hasL h)) := fun ao n cap L W hb hG => rep1_any ao n cap _ h L W (cell_later hb hc0) hG
  clear hs hb0 hw0 hc0
  go_enter Try.func7, Try.ntmps7
  go_upto_region 1 with fail
  rw [HW0.out]
  clear HW0
  go_wp2_with fail
  refine (il_idxF a n c 15 (.pointer (some ⟨w.heap.size, 0, none⟩)) (hasL h) Ls _ HS0.out enters_rep1 HASK.out).mono ?_
  rintro e w1 ⟨rfl, hb1⟩
  obtain ⟨I, hI⟩ : ∃ I, I = rpI Ls h := ⟨_, rfl⟩
  have HI : Hid (I = rpI Ls h) := hI
  rw [show ixG (hasL h) Ls = I from hI.symm]
  have HB1 : Hid (Below w.heap.size w w1) := HB0.out.trans (hb1.mono HB0.out.size)
  have HS1 : Hid (ILS w1 (.slice a n c) Ls) := HS0.out.later hb1
  clear hI hb1 HASK
  by_cases hneg : I < 0
  · have HN : Hid (rpN Ls h = 5 ∧ rpV Ls h = 0) := by
      show _ ∧ _
      rw [rpN, rpV, ← HI.out, if_pos hneg, if_pos hneg]
      exact ⟨rfl, rfl⟩
    go_wp2
    refine bodyPost_ret (v := .tuple #[.int .i64 0, .iface 57 (.int .i64 5)]) (by simp [results, Try.results7, go_sem]) rfl ⟨?_, HB1.out⟩
    rw [HN.out.1, HN.out.2]
    rfl
  · obtain ⟨j, rfl⟩ : ∃ j : Nat, I = (j : Int) := ⟨I.toNat, by omega⟩
    have hI2 : (j : Int) = ixG (hasL h) Ls := HI.out
    obtain ⟨q1, q2⟩ := ixG_lt (q := hasL h) (L := Ls) (by omega)
    have hjl : j < Ls.length := by omega
    have hjh : hasL h Ls[j] = true := by
      have := q2 q1
      have e : (ixG (hasL h) Ls).toNat = j := by omega
      simp only [e] at this
      exact this
    have HN : Hid (rpN Ls h = 0 ∧ rpV Ls h = mnTo Ls[j] Ls[j].length) := by
      show _ ∧ _
      rw [rpN, rpV, ← HI.out, if_neg hneg, if_neg hneg]
      refine ⟨rfl, ?_⟩
      rw [Int.toNat_natCast, show Ls.getD j [] = Ls[j] by simp [List.getD, hjl]]
    obtain ⟨_, _, _, e5, hn5, _, _, ha5⟩ := HS1.out.form
    cases e5
    obtain ⟨g, o, hao, hc, _⟩ := ha5 (by omega)
    subst hao
    obtain ⟨a2, n2, c2, t0, hG⟩ := hc j hjl
    have HG : Hid (GS inE w1 (.slice a2 n2 c2) Ls[j]) := hG
    have hn2 : 0 < n2 := by
      have := hG.len
      have h3 := List.length_pos_of_mem (hasL_iff.1 hjh)
      omega
    have jb0 : (0 : Int) ≤ (j : Int) := by omega
    have jb1 : (j : Int) < (n : Int) := by omega
    clear hI2 q1 q2 hn5 ha5 hc hG hjh
    go_wp2_with fail
    refine (num_min a2 n2 c2 _ _ HG.out hn2).mono ?_
    rintro e w2 ⟨rfl, hb2⟩
    have HB2 : Hid (Below w.heap.size w w2) := HB1.out.trans (hb2.mono HB1.out.size)
    clear hb2 t0
    go_wp2
    refine bodyPost_ret (v := .tuple #[.int .i64 (mnTo Ls[j] Ls[j].length), .nilIface]) (by simp [results, Try.results7, go_sem]) rfl ⟨?_, HB2.out⟩
    rw [HN.out.1, HN.out.2]
    rfl
end Go.Proofs.Ytfbocionnjlilad
/- A rule that came in, opened: six numbers. -/
namespace Go.Proofs.Ytfbocionnjlilad
open Go.ChangeShapes Go.WideShapes Go.ChangeAt Go.RowKit Go.Joins

theorem array6 {α : Type} {cs : Array α} (h : cs.size = 6) : ∃ c0 c1 c2 c3 c4 c5, cs = #[c0, c1, c2, c3, c4, c5] := by
  obtain ⟨l⟩ := cs
  match l, h with
  | [c0, c1, c2, c3, c4, c5], _ => exact ⟨c0, c1, c2, c3, c4, c5, rfl⟩

/-- Six cells that read as a rule are six numbers. -/
theorem rule_cells {H : Type} {enc : TypeId × Value → H} {W : World} {n : Nat} {cs : List Value} {x : DataW H × List MemPlace}
    (h : DataW.trod enc Try.prog W 0 (fun _ => true) true n 37 cs = some x) : ∃ p m b o s v : Int, cs = [.int .i64 p, .int .i64 m, .int .i64 b, .int .i64 o, .int .i64 s, .int .i64 v] := by
  obtain ⟨xs, k, _, _, hl, hlen, hf⟩ := DataW.trod_struct Try.underlying37 h
  have hC : Try.prog.cellsOf 37 = 6 := by kernel_rfl
  have hI : Try.prog.cellsOf 3 = 1 := by kernel_rfl
  have hK : Try.prog.cellsOf 35 = 2 := by kernel_rfl
  rw [hC] at hl
  obtain ⟨c0, c1, c2, c3, c4, c5, e⟩ := array6 (cs := cs.toArray) (by simpa using hl)
  have e' : cs = [c0, c1, c2, c3, c4, c5] := by simpa using congrArg Array.toList e
  subst e'
  match xs, hlen with
  | [y0, y1, y2, y3, y4], _ =>
    have g0 := hf 0 _ rfl
    have g1 := hf 1 _ rfl
    have g2 := hf 2 _ rfl
    have g3 := hf 3 _ rfl
    have g4 := hf 4 _ rfl
    simp [hI, hK] at g0 g1 g2 g3 g4
    obtain ⟨p, e0, _, _⟩ := DataW.trod_int Try.underlying3 g0
    obtain ⟨z0, z1, k1, _, _, f0, f1⟩ := trod_struct2 Try.underlying35 g1
    simp [hI] at f0 f1
    obtain ⟨m, e1, _, _⟩ := DataW.trod_int Try.underlying3 f0
    obtain ⟨b, e2, _, _⟩ := DataW.trod_int Try.underlying3 f1
    obtain ⟨o, e3, _, _⟩ := DataW.trod_int Try.underlying3 g2
    obtain ⟨s, e4, _, _⟩ := DataW.trod_int Try.underlying3 g3
    obtain ⟨v, e5, _, _⟩ := DataW.trod_int Try.underlying3 g4
    simp at e0 e1 e2 e3 e4 e5
    subst e0 e1 e2 e3 e4 e5
    exact ⟨p, m, b, o, s, v, rfl⟩

set_option maxRecDepth 100000 in
/-- A rule that came in is six numbers. -/
theorem rule_of {H : Type} {enc : TypeId × Value → H} {W : World} {base : Nat} {v : Value} {d : DataW H} {p : List MemPlace}
    (hv : Value.okWide Try.prog W .any base 37 v) (h : DataW.Trod enc Try.prog W 0 (fun _ => true) true 37 v d p) :
    ∃ q m b o s x : Int, v = .agg #[.int .i64 q, .int .i64 m, .int .i64 b, .int .i64 o, .int .i64 s, .int .i64 x] := by
  obtain ⟨cs, rfl, hsz⟩ := okWide_struct Try.underlying37 hv
  obtain ⟨n, hn⟩ := h
  obtain ⟨q, m, b, o, s, x, e⟩ := rule_cells hn
  refine ⟨q, m, b, o, s, x, ?_⟩
  have e2 : cs = #[.int .i64 q, .int .i64 m, .int .i64 b, .int .i64 o, .int .i64 s, .int .i64 x] := by
    simp only [Value.cells] at e
    rw [← Array.toArray_toList (xs := cs), e]
  rw [e2]
end Go.Proofs.Ytfbocionnjlilad
