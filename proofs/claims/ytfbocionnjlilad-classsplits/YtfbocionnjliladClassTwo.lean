/- Two lists of lists that a call owns, behind two appends in whatever order. No program in it. -/
import Derived.Test.YtfbocionnjliladClassMem
namespace Go.Proofs.Ytfbocionnjlilad
open Go.RowKit
set_option linter.unusedSimpArgs false
set_option linter.unusedVariables false

theorem gnn_refl (w : World) : w.grownBy w none := ⟨rfl, rfl, rfl, Nat.le_refl _, fun _ _ _ => rfl⟩
theorem gnn_drew {w W : World} (h : w.grownBy W none) : w.grownBy W.drew none := ⟨h.os, h.tape, h.output, h.size, fun k hk hn => h.block k hk hn⟩
theorem gnn_alloc {w W : World} (h : w.grownBy W none) (o : Obj) : w.grownBy (W.alloc o) none :=
  ⟨h.os, h.tape, h.output, Nat.le_trans h.size (by simp), fun k hk hn => ((World.grownBy_alloc W o none).block k (Nat.lt_of_lt_of_le hk h.size) hn).trans (h.block k hk hn)⟩
theorem below_grown {B : Nat} {w W : World} {row : Option Nat} (h : w.grownBy W row) (hB : B ≤ w.heap.size) (hr : ∀ k, row = some k → B ≤ k) : Below B w W :=
  ⟨h.os, h.tape, h.output, h.size, fun k hk => h.block k (by omega) (fun e => by have := hr k e.symm; omega)⟩
/-- The step of a region: appending one thing to a row that a call owns. -/
theorem step_append_blk {P : Program} {α : Type} {E : Enc α} (w : World) {ops : Array Oper} {o : Oper} {a : Act} {K : Act → World → Prop} {Q : Exit → Act → World → Prop} {X : Prop} (hgd : o.guard = none) (s x : Operand) (t e : TypeId)
    (ho : o.op = .call { callee := .builtin .append, args := #[s, x], argTypes := #[t, t] }) (ht : P.underlying t = some (.slice e)) (i : TypeInfo) (z : Value) (bytes : Nat) (hi : P.info? e = some i) (hz : i.zero = some z)
    (hsize : i.size = E.n) (hby : i.bytes = bytes) (hzs : z.cells.size = E.n) (base : Nat)
    (v : Value) (hs : a.eval s = v) (L : List α) (hown : w.ownsRow base e E.n v L.length (cellsG E L)) (g q c : Nat) (hx : a.eval x = .slice (some ⟨g, q, none⟩) 1 c) (y : α) (hM : VAt w g q (E.c y))
    (h63 : L.length + 1 ≤ maxLen) (hbytes : (L.length + 1) * bytes ≤ 140737488355328) (hbase : base ≤ w.heap.size)
    (h : ∀ v' w', w'.ownsRow base e E.n v' (L ++ [y]).length (cellsG E (L ++ [y])) → w.grownBy w' v.ownBlock → v'.ownBlock = v.ownBlock ∨ v'.ownBlock = some w.heap.size → K (a.put o.dst v') w') :
    if Region.wanted o (yielded ops a.tmps) = true then Oper.wp P o a w K Q else X := by
  have hw : Region.wanted o (yielded ops a.tmps) = true := by simp [Region.wanted, hgd]
  rw [if_pos hw]
  have hG : GAt E w g q [y] := by
    intro k hk
    obtain rfl : k = 0 := by simp at hk; omega
    simpa using hM
  have hc := hG.cells
  rw [cellsG_one] at hc
  have hl : (E.c y).length = 1 * E.n := by rw [E.len]; omega
  obtain ⟨v', w', hr, h2, h3, _⟩ := run_append_own (P := P) w base t o.type e i z E.n bytes ht hi hz hsize hby hzs E.pos v _ _ hown ⟨g, q, none⟩ 1 c (E.c y) hl hc (E.one y) h63 hbytes hbase
  have hb := run_append_blk (P := P) t o.type e i z ht hi hz v _ _ (by rw [hsize]; exact hown) ⟨g, q, none⟩ c (E.c y) (by rw [hsize]; exact hl) hc (E.one y) h63 (by rw [hby]; exact hbytes) hr
  unfold Oper.wp execOp
  simp only [ho, resolve, invoke, builtin, Sem.run_bind, Sem.run_pure, Result.andThen_ok, List.map_toArray, List.map_cons, List.map_nil, hs, hx, hr]
  exact h v' w' (by rw [List.length_append, cellsG_app, cellsG_one]; exact h2) h3 hb
section
variable {e1 e2 : TypeId} {w W1 W1' W2 W2' Wf : World} {B : Nat} {v u v' u' : Value} {vs us : List SlT} {Cs Ps : List (List Int)}
theorem CP.base (h : CP e1 e2 w B v u vs us Cs Ps) : (∀ k, v.ownBlock = some k → B ≤ k ∧ k < w.heap.size) ∧ ∀ k, u.ownBlock = some k → B ≤ k ∧ k < w.heap.size := ⟨fun k hk => h.ov.lt k hk, fun k hk => h.ou.lt k hk⟩
/-- One append behind the other. -/
theorem CP.seq (h : CP e1 e2 w B v u vs us Cs Ps) (he : e1 ≠ e2) (hB : B ≤ w.heap.size) {x p : SlT} {L P : List Int}
    (hp : W1.ownsRow B e1 inE.n (slV x) L.length (cellsG inE L)) (hxn : ∀ y ∈ vs ++ us, (slV y).ownBlock ≠ (slV x).ownBlock)
    (hq : W2.ownsRow B e1 inE.n (slV p) P.length (cellsG inE P)) (hpn : ∀ y ∈ vs ++ us, (slV y).ownBlock ≠ (slV p).ownBlock) (hxp : (slV x).ownBlock ≠ (slV p).ownBlock)
    (c1 : w.grownBy W1 none) (g1 : W1.grownBy W1' v.ownBlock) (o1 : W1'.ownsRow B e2 slE.n v' (vs ++ [x]).length (cellsG slE (vs ++ [x]))) (b1 : v'.ownBlock = v.ownBlock ∨ v'.ownBlock = some W1.heap.size)
    (c2 : W1'.grownBy W2 none) (g2 : W2.grownBy W2' u.ownBlock) (o2 : W2'.ownsRow B e2 slE.n u' (us ++ [p]).length (cellsG slE (us ++ [p]))) (b2 : u'.ownBlock = u.ownBlock ∨ u'.ownBlock = some W2.heap.size)
    (c3 : W2'.grownBy Wf none) : CP e1 e2 Wf B v' u' (vs ++ [x]) (us ++ [p]) (Cs ++ [L]) (Ps ++ [P]) ∧ Below B w Wf := by
  have k1 := h.keep c1
  have k2 := (k1.push he hp hxn g1 o1 b1).keep c2
  have k3 := k2.swap.push he hq (by
    intro y hy
    rcases List.mem_append.1 hy with hy | hy
    · exact hpn y (List.mem_append_right _ hy)
    · rcases List.mem_append.1 hy with hy | hy
      · exact hpn y (List.mem_append_left _ hy)
      · simp at hy
        subst hy
        exact hxp) g2 o2 b2
  have hv := h.base.1
  have hu := h.base.2
  have s1 := c1.size
  have s2 := g1.size
  have s3 := c2.size
  have s4 := g2.size
  refine ⟨(k3.swap).keep c3, ?_⟩
  have b1' : Below B w W1 := below_grown c1 hB (fun k e => by cases e)
  have b2' : Below B W1 W1' := below_grown g1 (by omega) (fun k e => (hv k e).1)
  have b3' : Below B W1' W2 := below_grown c2 (by omega) (fun k e => by cases e)
  have b4' : Below B W2 W2' := below_grown g2 (by omega) (fun k e => (hu k e).1)
  have b5' : Below B W2' Wf := below_grown c3 (by omega) (fun k e => by cases e)
  exact (((b1'.trans b2').trans b3').trans b4').trans b5'
end
end Go.Proofs.Ytfbocionnjlilad
