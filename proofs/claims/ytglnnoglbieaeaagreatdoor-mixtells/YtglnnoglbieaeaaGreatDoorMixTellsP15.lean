/- Contracts and facts on the way to MixTells, joined into one text: AsErr, AsErr2, SameNo, ChangeBN, MixTells, TopoOf, NetOf, MixTellsRow. -/
import Derived.Test.YtglnnoglbieaeaaGreatDoorMixTellsP14
namespace Go.Proofs.YtglnnoglbieaeaaGreatDoor
set_option linter.unusedSimpArgs false
set_option linter.unusedVariables false
set_option maxHeartbeats 16000000
set_option maxRecDepth 100000
section
open Go.RowKit Go.Extern.Stop Go.Stop Go.Extern
def HasErr (w:World):Prop:=w.cell? ⟨0,0,none⟩=some (.iface 216 (.agg #[.pointer (some ⟨1,43,none⟩)]))
theorem HasErr.later {w w':World}(h:HasErr w)(hb:Below w.heap.size w w'):HasErr w':=cell_later hb h
theorem HasErr.alloc {w:World}(h:HasErr w)(o:Obj):HasErr (w.alloc o):=h.later ((Below.refl _ _).alloc (Nat.le_refl _) _)
theorem vOfP (t:Addr)(w:World):(ReflectliteValue.unpack (.iface 133 (.pointer (some t)))).run Tryz.prog w
 = .ok (.agg #[.pointer (some ⟨1,133,none⟩),.pointer (some ⟨w.heap.size,0,none⟩),.int .u64 150]) (w.alloc (.cells #[.pointer (some t)] 133)):=by kernel_rfl
theorem typeP (a : Addr)(w : World): (ReflectliteValue.methodAny (ReflectliteValue.valueError "reflectlite.Value.Type" 0) (fun t _ _ _ => ReflectliteType.toType t) #[.agg #[.pointer (some ⟨1, 133, none⟩), .pointer (some a), .int .u64 150]]).run Tryz.prog w
 = .ok (.iface 216 (.agg #[.pointer (some ⟨1,133,none⟩)])) w:=by kernel_rfl
theorem methKind (h : Value)(w : World): (Go.method 383 216 (.agg #[h]) "Kind").run Tryz.prog w = .ok (180, h) w := by kernel_rfl
theorem kindP (w:World):((ReflectliteType.abiMethod fun t=>Functor.map (fun a:Nat=>Value.int IntKind.u8 (a:Int)) (Rtype.kind t)) #[.pointer (some ⟨1,133,none⟩)]).run Tryz.prog w=.ok (.int .u8 22) w:=by kernel_rfl
theorem kindE (w:World):((ReflectliteType.abiMethod fun t=>Functor.map (fun a:Nat=>Value.int IntKind.u8 (a:Int)) (Rtype.kind t)) #[.pointer (some ⟨1,85,none⟩)]).run Tryz.prog w=.ok (.int .u8 2) w:=by kernel_rfl
theorem partsP (a:Addr)(w:World):(ReflectliteValue.parts (.agg #[.pointer (some ⟨1,133,none⟩),.pointer (some a),.int .u64 150])).run Tryz.prog w=.ok (some (133,a,150)) w:=by kernel_rfl
theorem isNilP (a p:Addr)(W:World)(ha:W.cell? a=some (.pointer (some p))):
 (ReflectliteValue.method (ReflectliteValue.valueError "reflectlite.Value.IsNil" 0) ReflectliteValue.isNil #[.agg #[.pointer (some ⟨1, 133, none⟩), .pointer (some a), .int .u64 150]]).run Tryz.prog W = .ok (.bool false) W := by
 change Sem.run _ (ReflectliteValue.parts (.agg #[.pointer (some ⟨1,133,none⟩),.pointer (some a),.int .u64 150]) >>= _) _=_
 rw[Sem.run_bind,partsP];simp only[Result.andThen];simp[ReflectliteValue.isNil,loadVar,isAgg,underlying,Tryz.underlying133,ha,Result.andThen]
theorem methElem (h : Value)(w : World): (Go.method 383 216 (.agg #[h]) "Elem").run Tryz.prog w = .ok (190, .agg #[h]) w := by kernel_rfl
theorem methImpl (h : Value)(w : World): (Go.method 383 216 (.agg #[h]) "Implements").run Tryz.prog w = .ok (191, .agg #[h]) w := by kernel_rfl
theorem methAssign (h : Value)(w : World): (Go.method 383 216 (.agg #[h]) "AssignableTo").run Tryz.prog w = .ok (188, .agg #[h]) w := by kernel_rfl
theorem elemP (w:World):(ReflectliteType.method ReflectliteType.elem #[.agg #[.pointer (some ⟨1,133,none⟩)]]).run Tryz.prog w=.ok (.iface 216 (.agg #[.pointer (some ⟨1,85,none⟩)])) w:=by kernel_rfl
theorem implE (w : World): (ReflectliteType.relation "Implements" ReflectliteType.implements_ #[.agg #[.pointer (some ⟨1, 85, none⟩)], .iface 216 (.agg #[.pointer (some ⟨1, 43, none⟩)])]).run Tryz.prog w = .ok (.bool true) w := by kernel_rfl
theorem typeOfE (v:Value)(w:World):(ReflectliteType.typeOf #[.iface 85 v]).run Tryz.prog w=.ok (.iface 216 (.agg #[.pointer (some ⟨1,85,none⟩)])) w:=by kernel_rfl
theorem assignE (w : World): (ReflectliteType.relation "AssignableTo" ReflectliteType.assignableTo #[.agg #[.pointer (some ⟨1, 85, none⟩)], .iface 216 (.agg #[.pointer (some ⟨1, 85, none⟩)])]).run Tryz.prog w = .ok (.bool true) w := by kernel_rfl
theorem vOfE (n:Int)(w:World):(ReflectliteValue.unpack (.iface 85 (.int .i64 n))).run Tryz.prog w
 = .ok (.agg #[.pointer (some ⟨1,85,none⟩),.pointer (some ⟨w.heap.size,0,none⟩),.int .u64 130]) (w.alloc (.cells #[.int .i64 n] 85)):=by kernel_rfl
theorem elemOfP (w:World):(Rtype.elem? 133).run Tryz.prog w=.ok (some 85) w:=by kernel_rfl
theorem mkE (p:Addr)(w:World):(ReflectliteValue.mk 85 p ReflectliteValue.flagAddr).run Tryz.prog w=.ok (.agg #[.pointer (some ⟨1,85,none⟩),.pointer (some p),.int .u64 386]) w:=by kernel_rfl
theorem elemVP (a p:Addr)(W:World)(ha:W.cell? a=some (.pointer (some p))):
 (ReflectliteValue.method (ReflectliteValue.valueError "reflectlite.Value.Elem" 0) ReflectliteValue.elem #[.agg #[.pointer (some ⟨1, 133, none⟩), .pointer (some a), .int .u64 150]]).run Tryz.prog W
  = .ok (.agg #[.pointer (some ⟨1,85,none⟩),.pointer (some p),.int .u64 386]) W:=by
 change Sem.run _ (ReflectliteValue.parts (.agg #[.pointer (some ⟨1,133,none⟩),.pointer (some a),.int .u64 150]) >>= _) _=_
 rw[Sem.run_bind,partsP];simp only[Result.andThen];simp[ReflectliteValue.elem,loadVar,isAgg,underlying,Tryz.underlying133,ha,Result.andThen,elemOfP,mkE]
theorem partsEa (a:Addr)(w:World):(ReflectliteValue.parts (.agg #[.pointer (some ⟨1,85,none⟩),.pointer (some a),.int .u64 386])).run Tryz.prog w=.ok (some (85,a,386)) w:=by kernel_rfl
theorem partsE (a:Addr)(w:World):(ReflectliteValue.parts (.agg #[.pointer (some ⟨1,85,none⟩),.pointer (some a),.int .u64 130])).run Tryz.prog w=.ok (some (85,a,130)) w:=by kernel_rfl
theorem directE (w:World):(Rtype.directlyAssignable 85 85).run Tryz.prog w=.ok true w:=by kernel_rfl
theorem setE (ta b:Addr)(n:Int)(old:Value)(W:World)(hb:W.cell? b=some (.int .i64 n))(ht:W.cell? ta=some old)(hf:W.frozen? ta=false):
 (ReflectliteValue.set #[.agg #[.pointer (some ⟨1,85,none⟩),.pointer (some ta),.int .u64 386],.agg #[.pointer (some ⟨1,85,none⟩),.pointer (some b),.int .u64 130]]).run Tryz.prog W
  = .ok (.tuple #[]) (W.setCell ta (.int .i64 n)):=by
 change Sem.run _ (ReflectliteValue.parts (.agg #[.pointer (some ⟨1,85,none⟩),.pointer (some ta),.int .u64 386]) >>= _) _=_
 rw[Sem.run_bind,partsEa];simp only[Result.andThen]
 change Sem.run _ (ReflectliteValue.parts (.agg #[.pointer (some ⟨1,85,none⟩),.pointer (some b),.int .u64 130]) >>= _) _=_
 rw[Sem.run_bind,partsE];simp only[Result.andThen];simp[ReflectliteValue.flagAddr,loadVar,isAgg,underlying,Tryz.underlying85,hb,Result.andThen,directE,storeVar,Value.cells,storeCells,Addr.add];rw[run_store Tryz.prog W ta _ _ (by rfl)];simp[ht,hf]
theorem as_hit (n:Int)(t:Addr)(old:Value)(w:World)(hg:HasErr w)(ht0:w.cell? t=some old)(hf0:w.frozen? t=false):
 Calls Tryz.prog 61 #[.iface 85 (.int .i64 n),.iface 133 (.pointer (some t))] w fun ev w'=>ev=.returned (.bool true)∧w'=((((w.alloc (.cells #[.pointer (some t)] 133)).alloc (.cells #[.pointer (some ⟨1,133,none⟩),.pointer (some ⟨w.heap.size,0,none⟩),.int .u64 150] 180)).alloc (.cells #[.pointer (some ⟨1,133,none⟩),.pointer (some ⟨w.heap.size,0,none⟩),.int .u64 150] 180)).alloc (.cells #[.int .i64 n] 85)).setCell t (.int .i64 n):=by
 unfold HasErr at hg;have h6 := @run_callFunc_extern Tryz.prog 96 _ (fun args=>ReflectliteValue.unpack (args.getD 0 (.tuple #[]))) Tryz.func96 (by kernel_rfl) (by kernel_rfl) (by kernel_rfl) (by kernel_rfl);have h7 := @run_callFunc_extern Tryz.prog 97 _ (ReflectliteValue.methodAny (ReflectliteValue.valueError "reflectlite.Value.Type" 0) (fun t _ _ _ => ReflectliteType.toType t)) Tryz.func97 (by kernel_rfl) (by kernel_rfl) (by kernel_rfl) (by kernel_rfl)
 have h8 := @run_callFunc_extern Tryz.prog 98 _ (ReflectliteValue.method (ReflectliteValue.valueError "reflectlite.Value.IsNil" 0) ReflectliteValue.isNil) Tryz.func98 (by kernel_rfl) (by kernel_rfl) (by kernel_rfl) (by kernel_rfl)
 have h27 := @run_callFunc_extern Tryz.prog 180 _ (ReflectliteType.abiMethod fun t=>do pure (.int .u8 (←Rtype.kind t))) Tryz.func180 (by kernel_rfl) (by kernel_rfl) (by kernel_rfl) (by kernel_rfl);have h37 := @run_callFunc_extern Tryz.prog 190 _ (ReflectliteType.method ReflectliteType.elem) Tryz.func190 (by kernel_rfl) (by kernel_rfl) (by kernel_rfl) (by kernel_rfl);have h38 := @run_callFunc_extern Tryz.prog 191 _ (ReflectliteType.relation "Implements" ReflectliteType.implements_) Tryz.func191 (by kernel_rfl) (by kernel_rfl) (by kernel_rfl) (by kernel_rfl)
 have h10 := @run_callFunc_extern Tryz.prog 135 _ ReflectliteType.typeOf Tryz.func135 (by kernel_rfl) (by kernel_rfl) (by kernel_rfl) (by kernel_rfl);have h35 := @run_callFunc_extern Tryz.prog 188 _ (ReflectliteType.relation "AssignableTo" ReflectliteType.assignableTo) Tryz.func188 (by kernel_rfl) (by kernel_rfl) (by kernel_rfl) (by kernel_rfl)
 have h11 := @run_callFunc_extern Tryz.prog 136 _ (ReflectliteValue.method (ReflectliteValue.valueError "reflectlite.Value.Elem" 0) ReflectliteValue.elem) Tryz.func136 (by kernel_rfl) (by kernel_rfl) (by kernel_rfl) (by kernel_rfl)
 have h12 := @run_callFunc_extern Tryz.prog 137 _ ReflectliteValue.set Tryz.func137 (by kernel_rfl) (by kernel_rfl) (by kernel_rfl) (by kernel_rfl);have tO:=typeOfE;have mA:=methAssign;have a25:=assignE;have v25:=vOfE;have f6:=vOfP;have f7:=typeP;have mK:=methKind;have mE:=methElem;have mI:=methImpl;have k27:=kindP;have k25:=kindE;have e27:=elemP;have i25:=implE;have hlt:0<w.heap.size:=World.block_lt_of_cell? _ _ hg;have htl:t.block<w.heap.size:=World.block_lt_of_cell? _ _ ht0;have n8:=isNilP ⟨w.heap.size,0,none⟩ t ((w.alloc (.cells #[.pointer (some t)] 133)).alloc (.cells #[.pointer (some ⟨1,133,none⟩),.pointer (some ⟨w.heap.size,0,none⟩),.int .u64 150] 180)) (by simp);have hg2:((w.alloc (.cells #[.pointer (some t)] 133)).alloc (.cells #[.pointer (some ⟨1,133,none⟩),.pointer (some ⟨w.heap.size,0,none⟩),.int .u64 150] 180)).cell? ⟨0,0,none⟩=some (.iface 216 (.agg #[.pointer (some ⟨1,43,none⟩)])):=by
  rw[World.cell?_alloc_lt _ _ ⟨0,0,none⟩ (by simp <;> omega),World.cell?_alloc_lt _ _ ⟨0,0,none⟩ hlt];exact hg
 have el:=elemVP ⟨w.heap.size,0,none⟩ t (((w.alloc (.cells #[.pointer (some t)] 133)).alloc (.cells #[.pointer (some ⟨1,133,none⟩),.pointer (some ⟨w.heap.size,0,none⟩),.int .u64 150] 180)).alloc (.cells #[.pointer (some ⟨1,133,none⟩),.pointer (some ⟨w.heap.size,0,none⟩),.int .u64 150] 180)) (by rw[World.cell?_alloc_lt _ _ ⟨w.heap.size,0,none⟩ (by simp;omega)];simp);have st:=setE t ⟨w.heap.size+1+1+1,0,none⟩ n old ((((w.alloc (.cells #[.pointer (some t)] 133)).alloc (.cells #[.pointer (some ⟨1,133,none⟩),.pointer (some ⟨w.heap.size,0,none⟩),.int .u64 150] 180)).alloc (.cells #[.pointer (some ⟨1,133,none⟩),.pointer (some ⟨w.heap.size,0,none⟩),.int .u64 150] 180)).alloc (.cells #[.int .i64 n] 85))
  (by rw[World.cell?_alloc_at _ _ _ _ (by simp)];rfl)
  (by rw[World.cell?_alloc_lt _ _ t (by simp;omega),World.cell?_alloc_lt _ _ t (by simp;omega),World.cell?_alloc_lt _ _ t (by simp;omega),World.cell?_alloc_lt _ _ t htl];exact ht0)
  (by rw[World.frozen?_alloc_old _ _ t (by simp;omega),World.frozen?_alloc_old _ _ t (by simp;omega),World.frozen?_alloc_old _ _ t (by simp;omega),World.frozen?_alloc_old _ _ t (Nat.ne_of_lt htl)];exact hf0)
 go_enter Tryz.func61,Tryz.ntmps61;go_wp2;refine wp_loop_rounds 1 ?_;rw[rounds_succ];go_wp2;go_ret;exact⟨rfl,rfl⟩
theorem told_nil (w:World):
 Calls Tryz.prog 31 #[.nilIface] w fun e w'=>e=.returned (.int .i64 0)∧Below w.heap.size w w':=by
 go_enter Tryz.func31,Tryz.ntmps31;go_wp2;go_ret;exact⟨rfl,Below.refl _ _⟩
theorem told_some (n:Int)(w:World)(hg:HasErr w):
 Calls Tryz.prog 31 #[.iface 85 (.int .i64 n)] w fun e w'=>e=.returned (.int .i64 n)∧Below w.heap.size w w':=by
 have HG:Hid (HasErr w):=hg;clear hg;go_enter Tryz.func31,Tryz.ntmps31
 go_wp2_with fail
 refine (as_hit n _ (.int .i64 0) _ (HG.out.alloc _) (by simp) (by simp)).mono ?_;rintro e w' ⟨rfl,rfl⟩;go_wp2;go_ret;refine⟨rfl,?_⟩;exact ((((((Below.refl _ _).alloc (Nat.le_refl _) _).alloc (by simp) _).alloc (by simp;omega) _).alloc (by simp;omega) _).alloc (by simp;omega) _)
theorem same_nil (k:Int)(w:World):
 Calls Tryz.prog 10 #[.nilIface,.int .i64 k] w fun e w'=>e=.returned (.bool (0==k))∧Below w.heap.size w w':=by
 go_enter Tryz.func10,Tryz.ntmps10
 go_wp2_with fail
 refine (told_nil _).mono ?_;rintro e w' ⟨rfl,hb⟩;go_wp2;go_ret;exact⟨rfl,hb⟩
theorem same_some (n k:Int)(w:World)(hg:HasErr w):
 Calls Tryz.prog 10 #[.iface 85 (.int .i64 n),.int .i64 k] w fun e w'=>e=.returned (.bool (n==k))∧Below w.heap.size w w':=by
 have HG:Hid (HasErr w):=hg;clear hg;go_enter Tryz.func10,Tryz.ntmps10
 go_wp2_with fail
 refine (told_some n _ HG.out).mono ?_;rintro e w' ⟨rfl,hb⟩;go_wp2;go_ret;exact⟨rfl,hb⟩
end
section
open Go.RowKit
theorem same_noV (n:Int)(w:World)(hg:HasErr w):
 Calls Tryz.prog 10 #[noV n,.int .i64 n] w fun e w'=>e=.returned (.bool true)∧Below w.heap.size w w':=by
 by_cases h:n=0
 ·subst h;refine (same_nil _ w).mono ?_;rintro e w' ⟨rfl,hb⟩;exact⟨by simp,hb⟩
 rw[no_ne h];refine (same_some _ _ w hg).mono ?_;rintro e w' ⟨rfl,hb⟩;exact⟨by simp,hb⟩
structure BN (W:World)(b:Nat)(S:Int)(v1 v2 v3:Value)(Ls:List ((Int×Int)×(Int×Int)))(Hs:List (ByteArray×(Int×Int)))(Ts:List (List Ru)):Prop where
 c:NeBox W b S v1 v2 v3
 l:GS lnkE W v1 Ls
 h:GS hstE W v2 Hs
 t:TS W v3 Ts
theorem BN.later {W W':World}{b:Nat}{S:Int}{v1 v2 v3:Value}{Ls:List ((Int×Int)×(Int×Int))}{Hs:List (ByteArray×(Int×Int))}{Ts:List (List Ru)}(h:BN W b S v1 v2 v3 Ls Hs Ts)(hb:Below W.heap.size W W'):BN W' b S v1 v2 v3 Ls Hs Ts:=⟨h.c.later hb,h.l.later hb,h.h.later hb,h.t.later hb⟩
theorem BN.lt {W:World}{b:Nat}{S:Int}{v1 v2 v3:Value}{Ls:List ((Int×Int)×(Int×Int))}{Hs:List (ByteArray×(Int×Int))}{Ts:List (List Ru)}(h:BN W b S v1 v2 v3 Ls Hs Ts):b<W.heap.size:=World.block_lt_of_cell? W ⟨b,0,none⟩ h.c.1
theorem bn_new {w:World}{S:Int}{v1 v2 v3:Value}{Ls:List ((Int×Int)×(Int×Int))}{Hs:List (ByteArray×(Int×Int))}{Ts:List (List Ru)}(t:TypeId)(h1:GS lnkE w v1 Ls)(h2:GS hstE w v2 Hs)(h3:TS w v3 Ts):BN (w.alloc (Obj.cells #[.int .i64 S,v1,v2,v3] t)) w.heap.size S v1 v2 v3 Ls Hs Ts:=by
 have hb:Below w.heap.size w (w.alloc (Obj.cells #[.int .i64 S,v1,v2,v3] t)):=(Below.refl _ _).alloc (Nat.le_refl _) _;exact⟨nebox_new w S v1 v2 v3 t,h1.later hb,h2.later hb,h3.later hb⟩
theorem put4_cells {W:World}{g:Nat}{a b c d u v x y:Value}(k:W.cell? ⟨g,0,none⟩=some u∧W.cell? ⟨g,1,none⟩=some v∧W.cell? ⟨g,2,none⟩=some x∧W.cell? ⟨g,3,none⟩=some y):(put4 W g a b c d).cell? ⟨g,0,none⟩=some a∧(put4 W g a b c d).cell? ⟨g,1,none⟩=some b∧(put4 W g a b c d).cell? ⟨g,2,none⟩=some c∧(put4 W g a b c d).cell? ⟨g,3,none⟩=some d:=by
 obtain⟨k0,k1,k2,k3⟩:=k;unfold put4;have o:∀(W:World) (i j:Nat) (x:Value),i≠j→(W.setCell ⟨g,i,none⟩ x).cell? ⟨g,j,none⟩=W.cell? ⟨g,j,none⟩:=fun W i j x h=>World.cell?_setCell_other _ _ _ _ (by intro e;exact h (by injection e))
 refine⟨?_,?_,?_,?_⟩
 ·rw[o _ _ _ _ (by decide),o _ _ _ _ (by decide),o _ _ _ _ (by decide)];exact World.cell?_setCell_same _ _ _ k0
 ·rw[o _ _ _ _ (by decide),o _ _ _ _ (by decide)];exact World.cell?_setCell_same _ _ _ (by rw[o _ _ _ _ (by decide)];exact k1)
 ·rw[o _ _ _ _ (by decide)];exact World.cell?_setCell_same _ _ _ (by rw[o _ _ _ _ (by decide),o _ _ _ _ (by decide)];exact k2)
 exact World.cell?_setCell_same _ _ _ (by rw[o _ _ _ _ (by decide),o _ _ _ _ (by decide),o _ _ _ _ (by decide)];exact k3)
def ZB (W:World)(g:Nat):Prop:=(W.cell? ⟨g,0,none⟩=some (.int .i64 0)∧W.cell? ⟨g,1,none⟩=some (.slice none 0 0)∧W.cell? ⟨g,2,none⟩=some (.slice none 0 0)∧W.cell? ⟨g,3,none⟩=some (.slice none 0 0))∧∀i,W.frozen? ⟨g,i,none⟩=false
theorem ZB.lt {W:World}{g:Nat}(h:ZB W g):g<W.heap.size:=World.block_lt_of_cell? W ⟨g,0,none⟩ h.1.1
theorem ZB.later {W W':World}{g:Nat}(h:ZB W g)(hb:Below W.heap.size W W'):ZB W' g:=⟨⟨cell_later hb h.1.1,cell_later hb h.1.2.1,cell_later hb h.1.2.2.1,cell_later hb h.1.2.2.2⟩,fun i=>(hb.frozen (p:=⟨g,i,none⟩) h.lt).trans (h.2 i)⟩
theorem zb_a {w w':World}{t:TypeId}(hb:Below (w.alloc (Obj.cells #[.int .i64 0,.slice none 0 0,.slice none 0 0,.slice none 0 0] t)).heap.size (w.alloc (Obj.cells #[.int .i64 0,.slice none 0 0,.slice none 0 0,.slice none 0 0] t)) w'):ZB w' w.heap.size:=
 have h:=wb_new w 0 (.slice none 0 0) (.slice none 0 0) (.slice none 0 0) t
 ZB.later (W:=w.alloc (Obj.cells #[.int .i64 0,.slice none 0 0,.slice none 0 0,.slice none 0 0] t)) ⟨h.c,h.f⟩ hb
end
namespace mixTells
open Go.RowKit
def mtN (S:Int)(Ls:List ((Int×Int)×(Int×Int)))(Hs:List (ByteArray×(Int×Int)))(Ts:List (List Ru))(o:List Op8)(l:List Wi):Int:=
 if cgN S Ls Hs Ts o=0 then (if wsN S Ls Hs l=0 then (if (bsW Ls Hs Ts (caT Ts o) l Hs l.length).isNone then 0 else 9) else wsN S Ls Hs l) else cgN S Ls Hs Ts o
def mtV (S:Int)(Ls:List ((Int×Int)×(Int×Int)))(Hs:List (ByteArray×(Int×Int)))(Ts:List (List Ru))(o:List Op8)(l:List Wi):Int×ByteArray×Int:=
 if cgN S Ls Hs Ts o=0∧wsN S Ls Hs l=0 then prV Hs (bsW Ls Hs Ts (caT Ts o) l Hs l.length) else (0,ByteArray.empty,0)
theorem sf_det {S:Int}{Ls:List ((Int×Int)×(Int×Int))}{Hs:List (ByteArray×(Int×Int))}{Ts:List (List Ru)}{o:List Op8}{l:List Wi}{N:Int}{p:Int×ByteArray×Int}(h:SfR S Ls Hs Ts o l N p):N=mtN S Ls Hs Ts o l∧p=mtV S Ls Hs Ts o l:=by
 rcases h with ⟨h1,h2,h3⟩ | ⟨h1,h2,h3,h4⟩ | ⟨h1,h2,held,hF,hN⟩
 ·exact⟨by rw[mtN,if_neg h1,h2],by rw[mtV,if_neg (fun h=>h1 h.1),h3]⟩
 ·exact⟨by rw[mtN,if_pos h1,if_neg h2,h3],by rw[mtV,if_neg (fun h=>h2 h.2),h4]⟩
 obtain⟨ht,_,hA,hB⟩:=cg_ok h1;obtain⟨e1,e2⟩:=fb_bs ht hA hB hF;refine⟨?_,by rw[mtV,if_pos ⟨h1,h2⟩,e2]⟩;rw[mtN,if_pos h1,if_pos h2,hN];by_cases hh:held<l.length
 ·rw[if_pos hh];rw[decide_eq_true hh] at e1;cases hb:bsW Ls Hs Ts (caT Ts o) l Hs l.length with
  | none=>rw[hb] at e1;cases e1
  | some x=>rfl
 rw[if_neg hh];rw[decide_eq_false hh] at e1;cases hb:bsW Ls Hs Ts (caT Ts o) l Hs l.length with
 | none=>rfl
 | some x=>rw[hb] at e1;cases e1
theorem see_small {S:Int}{Ls:List ((Int×Int)×(Int×Int))}{Hs:List (ByteArray×(Int×Int))}{Ts:List (List Ru)}{l:List Op8}{m:ByteArray}{h:Int}:∀x∈snL S Ls Hs Ts l m h,x.2.2.length≤1000:=by
 intro x hx;by_cases h0:snN S Ls Hs Ts l m h=0
 ·obtain⟨e1,e2,e3⟩:=sn_parts h0;rw[(sn_0 e1 e2 e3).2] at hx;obtain⟨ht,hS,hA,hB⟩:=cg_ok e1;have:=(ps_small ht ((ps_mem ht hA hB (we_sp ht e2) h x).2 hx)).2.1;omega
 unfold snL at hx;rw[if_neg h0] at hx;cases hx
theorem fts_nil (W:World):FTs W (.slice none 0 0) []:=⟨[],GS.nil _,rfl,fun z h=>by cases h⟩
theorem al (X:World)(o:Obj):∃Y,X.alloc o=Y∧Below X.heap.size X Y∧Y.heap.size=X.heap.size+1:=⟨_,rfl,(Below.refl _ _).alloc (Nat.le_refl _) _,by simp⟩
def CS (w0:World)(g:Nat)(S:Int)(v1 v2 v3:Value)(g':Nat)(S':Int)(u1 u2 u3:Value)(gh o:Nat)(x y:Int)(W:World):Prop:=
 Below w0.heap.size w0 W∧NeBox W g S v1 v2 v3∧NeBox W g' S' u1 u2 u3∧W.cell? ⟨gh,o+1,none⟩=some (.int .i64 x)∧W.cell? ⟨gh,o+2,none⟩=some (.int .i64 y)
theorem CS.later {w0 W W':World}{g:Nat}{S:Int}{v1 v2 v3:Value}{g':Nat}{S':Int}{u1 u2 u3:Value}{gh o:Nat}{x y:Int}(hb:Below W.heap.size W W')(h:CS w0 g S v1 v2 v3 g' S' u1 u2 u3 gh o x y W):CS w0 g S v1 v2 v3 g' S' u1 u2 u3 gh o x y W':=
 ⟨h.1.trans (hb.mono h.1.size),h.2.1.later hb,h.2.2.1.later hb,cell_later hb h.2.2.2.1,cell_later hb h.2.2.2.2⟩
theorem walk (S:Int)(ao:Option Addr)(n cap:Nat)(ao2:Option Addr)(n2 cap2:Nat)(ao3:Option Addr)(n3 cap3:Nat)(a4:Option Addr)(n4 c4:Nat)(a5:Option Addr)(n5 c5:Nat)(m:ByteArray)(h:Int)(Ls:List ((Int×Int)×(Int×Int)))(Hs:List (ByteArray×(Int×Int)))(Ts:List (List Ru))(l:List Op8)(ws:List Wi)(w:World)
 (hL:GS lnkE w (.slice ao n cap) Ls) (hH:GS hstE w (.slice ao2 n2 cap2) Hs) (hT:TS w (.slice ao3 n3 cap3) Ts) (hl:GS opE w (.slice a4 n4 c4) l) (hw:GS wisE w (.slice a5 n5 c5) ws) (hg:HasErr w) (hn4:n4≤2199023255552):
 Calls Tryz.prog 3 #[.agg #[.int .i64 S,.slice ao n cap,.slice ao2 n2 cap2,.slice ao3 n3 cap3],.slice a4 n4 c4,.slice a5 n5 c5,.string m,.int .i64 h] w fun e w'=>e=.returned (.bool true)∧Below w.heap.size w w':=by
 obtain⟨w1,hw1,hb1,hs1⟩:=al w (Obj.cells #[.int .i64 S,.slice ao n cap,.slice ao2 n2 cap2,.slice ao3 n3 cap3] 28);have hbn:BN w1 w.heap.size S (.slice ao n cap) (.slice ao2 n2 cap2) (.slice ao3 n3 cap3) Ls Hs Ts:=by rw[←hw1];exact bn_new 28 hL hH hT
 have HBN:Hid (∀W,Below w1.heap.size w1 W→BN W w.heap.size S (.slice ao n cap) (.slice ao2 n2 cap2) (.slice ao3 n3 cap3) Ls Hs Ts):=fun W h=>hbn.later h
 have HOP:Hid (∀W,Below w1.heap.size w1 W→GS opE W (.slice a4 n4 c4) l):=fun W h=>(hl.later hb1).later h
 have HWS:Hid (∀W,Below w1.heap.size w1 W→GS wisE W (.slice a5 n5 c5) ws):=fun W h=>(hw.later hb1).later h
 have HGW:Hid (∀W,Below w1.heap.size w1 W→HasErr W):=fun W h=>(hg.later hb1).later h
 have HB1:Hid (Below w.heap.size w w1):=hb1;have HW1:Hid (w.alloc (Obj.cells #[.int .i64 S,.slice ao n cap,.slice ao2 n2 cap2,.slice ao3 n3 cap3] 28)=w1):=hw1;have HN4:Hid (n4≤2199023255552):=hn4;clear hL hH hT hl hw hg hb1 hbn hw1 hs1 hn4;obtain⟨X,hX⟩:∃q,q=cgN S Ls Hs Ts l:=⟨_,rfl⟩;have HX:Hid (X=cgN S Ls Hs Ts l):=hX;obtain⟨F,hF⟩:∃q,q=snN S Ls Hs Ts l m h:=⟨_,rfl⟩;have HF:Hid (snN S Ls Hs Ts l m h=F):=hF.symm;obtain⟨G,hG⟩:∃q,q=snL S Ls Hs Ts l m h:=⟨_,rfl⟩;have HG:Hid (snL S Ls Hs Ts l m h=G):=hG.symm;have HGS:Hid (∀x∈G,x.2.2.length≤1000):=by rw[hG];exact see_small
 obtain⟨U,hU⟩:∃q,q=wsN S Ls Hs ws:=⟨_,rfl⟩;have HU:Hid (wsN S Ls Hs ws=U):=hU.symm;obtain⟨E2,hE2⟩:∃q,q=(if X=0 then U else X):=⟨_,rfl⟩;have HE2:Hid (E2=if X=0 then U else X):=hE2;obtain⟨E4,hE4⟩:∃q,q=mtN S Ls Hs Ts l ws:=⟨_,rfl⟩;have HE4:Hid (mtN S Ls Hs Ts l ws=E4):=hE4.symm;obtain⟨P1,hP1⟩:∃q,q=(mtV S Ls Hs Ts l ws).1:=⟨_,rfl⟩;obtain⟨P2,hP2⟩:∃q,q=(mtV S Ls Hs Ts l ws).2.1:=⟨_,rfl⟩;obtain⟨P3,hP3⟩:∃q,q=(mtV S Ls Hs Ts l ws).2.2:=⟨_,rfl⟩;have HPV:Hid (mtV S Ls Hs Ts l ws=(P1,P2,P3)):=by rw[hP1,hP2,hP3];exact rfl
 clear hX hF hG hU hE2 hE4 hP1 hP2 hP3;go_enter Tryz.func3,Tryz.ntmps3;go_upto_region 1 with fail;rw[HW1.out];obtain⟨e0,e1,e2,e3⟩:=(HBN.out w1 (Below.refl _ _)).c
 go_wp2_with fail
 refine (rnet_any S ao n cap ao2 n2 cap2 ao3 n3 cap3 Ls Hs Ts w1 (HBN.out _ (Below.refl _ _)).l (HBN.out _ (Below.refl _ _)).h (HBN.out _ (Below.refl _ _)).t).mono ?_;rintro e w2 ⟨rfl,hb2⟩;obtain⟨E,hE⟩:∃E,E=ntN S Ls Hs Ts:=⟨_,rfl⟩;have HE:Hid (E=ntN S Ls Hs Ts):=hE;rw[←hE];have HB2:Hid (Below w1.heap.size w1 w2):=hb2;clear hE hb2 e0 e1 e2 e3 HW1
 go_upto_if 30 with fail
 go_cut [11] from 13 (fun f w'=>f=.int .i64 X∧(∃c1 l1 f1 c2 l2 f2 c3 l3 f3,BN w' w2.heap.size (nvS X S) (.slice c1 l1 f1) (.slice c2 l2 f2) (.slice c3 l3 f3) (nvL X Ls) (nvL X Hs) (nvL X (caT Ts l)))∧Below w2.heap.size w2 w')
 case first =>
  as_aux_lemma =>
   have HB3:Hid (Below w2.heap.size w2 (w2.alloc (Obj.cells #[.int .i64 0,.slice none 0 0,.slice none 0 0,.slice none 0 0] 28))):=(Below.refl _ _).alloc (Nat.le_refl _) _;by_cases hE0:E=0
   ·subst hE0;have HB13:Hid (Below w1.heap.size w1 (w2.alloc (Obj.cells #[.int .i64 0,.slice none 0 0,.slice none 0 0,.slice none 0 0] 28))):=HB2.out.trans (HB3.out.mono HB2.out.size);obtain⟨e0,e1,e2,e3⟩:=(HBN.out w2 HB2.out).c;have hl0:w.heap.size<w2.heap.size:=World.block_lt_of_cell? _ _ e0
    go_wp2_with fail
    refine (refApply_own S ao n cap ao2 n2 cap2 ao3 n3 cap3 a4 n4 c4 Ls Hs Ts l w2 _ (HBN.out _ HB2.out).t HB3.out (HOP.out _ HB13.out) HE.out.symm).mono ?_;rintro e w4 ⟨b3,k3,d3,rfl,⟨vs,hTR⟩,hb4⟩;have hzb:ZB w4 w2.heap.size:=zb_a hb4;obtain⟨⟨y0,y1,y2,y3⟩,yf⟩:=hzb;have yf0:=yf 0;have yf1:=yf 1;have yf2:=yf 2;have yf3:=yf 3;have hlw:w2.heap.size<w4.heap.size:=World.block_lt_of_cell? _ _ y0;rw[←HX.out] at hTR ⊢;have hB24:Below w2.heap.size w2 w4:=HB3.out.trans (hb4.mono HB3.out.size);have HFIN:Hid (∀v1 v2,BN (put4 w4 w2.heap.size (.int .i64 (nvS X S)) v1 v2 (.slice b3 k3 d3)) w2.heap.size (nvS X S) v1 v2 (.slice b3 k3 d3) (nvL X Ls) (nvL X Hs) (nvL X (caT Ts l))∨¬(GS lnkE (put4 w4 w2.heap.size (.int .i64 (nvS X S)) v1 v2 (.slice b3 k3 d3)) v1 (nvL X Ls)∧GS hstE (put4 w4 w2.heap.size (.int .i64 (nvS X S)) v1 v2 (.slice b3 k3 d3)) v2 (nvL X Hs))):=by
     intro v1 v2;by_cases h:GS lnkE (put4 w4 w2.heap.size (.int .i64 (nvS X S)) v1 v2 (.slice b3 k3 d3)) v1 (nvL X Ls)∧GS hstE (put4 w4 w2.heap.size (.int .i64 (nvS X S)) v1 v2 (.slice b3 k3 d3)) v2 (nvL X Hs)
     ·have ht:=(hTR.grown (grown_put4 w4 w2.heap.size (.int .i64 (nvS X S)) v1 v2 (.slice b3 k3 d3)) (Nat.le_refl _) (by simp)).ts;exact .inl ⟨put4_cells ⟨y0,y1,y2,y3⟩,h.1,h.2,ht⟩
     exact .inr h
    have HB24:Hid (Below w2.heap.size w2 w4):=hB24;clear hTR hb4 hB24 yf e0 e1 e2 e3;by_cases hX0:X=0
    ·have HX0:Hid (X=0):=hX0;simp only[nvS,nvV,hX0,if_true];clear hX0
     go_wp2_with fail
     go_meet
     case rel =>
      have hB:=below_pn4 HB24.out w2.heap.size (Nat.le_refl _) (.int .i64 S) (.slice ao n cap) (.slice ao2 n2 cap2) (.slice b3 k3 d3);refine⟨by rw[HX0.out],⟨ao,n,cap,ao2,n2,cap2,b3,k3,d3,?_⟩,hB⟩;have h:=HFIN.out (.slice ao n cap) (.slice ao2 n2 cap2);rw[HX0.out] at h ⊢;have hn:=HBN.out _ (HB2.out.trans (hB.mono HB2.out.size))
      rcases h with h | h
      ·exact h
      exact absurd ⟨hn.l,hn.h⟩ h
    have HX0:Hid (X≠0):=hX0;simp only[nvS,nvV,hX0,if_false];clear hX0
    go_wp2_with fail
    go_meet
    case rel =>
     have hB:=below_pn4 HB24.out w2.heap.size (Nat.le_refl _) (.int .i64 0) (.slice none 0 0) (.slice none 0 0) (.slice b3 k3 d3);refine⟨rfl,⟨none,0,0,none,0,0,b3,k3,d3,?_⟩,hB⟩;have h:=HFIN.out (.slice none 0 0) (.slice none 0 0);have e1:nvS X S=0:=if_neg HX0.out;have e2:∀{α:Type} (L:List α),nvL X L=[]:=fun L=>if_neg HX0.out
     rw[e1] at h ⊢
     rcases h with h | h
     ·exact h
     exact absurd ⟨by rw[e2];exact GS.nil _,by rw[e2];exact GS.nil _⟩ h
   have HNE:Hid (X=E∧X≠0):=by
    have h:X=E:=by rw[HX.out,cgN,←HE.out,if_neg hE0]
    exact⟨h,by rw[h];exact hE0⟩
   have e5:(E==0)=false:=by simpa using hE0
   clear hE0
   go_wp2_with fail
   go_meet
   case rel =>
    have e1:nvS X S=0:=if_neg HNE.out.2;have e2:∀{α:Type} (L:List α),nvL X L=[]:=fun L=>if_neg HNE.out.2
    refine⟨by rw[HNE.out.1],⟨none,0,0,none,0,0,none,0,0,?_⟩,HB3.out⟩;rw[e1,e2,e2,e2];exact⟨nebox_new w2 0 (.slice none 0 0) (.slice none 0 0) (.slice none 0 0) 28,GS.nil _,GS.nil _,.inl ⟨_,_,rfl,rfl⟩⟩
 case rest =>
 rename World=>w5
 obtain⟨rfl,⟨c1,l1,f1,c2,l2,f2,c3,l3,f3,hwa⟩,hbw⟩:=hcut;have HWA:Hid (∀W,Below w5.heap.size w5 W→BN W w2.heap.size (nvS X S) (.slice c1 l1 f1) (.slice c2 l2 f2) (.slice c3 l3 f3) (nvL X Ls) (nvL X Hs) (nvL X (caT Ts l))):=fun W h=>hwa.later h
 have HB5:Hid (Below w1.heap.size w1 w5):=HB2.out.trans (hbw.mono HB2.out.size);clear hwa hbw HB2 HE
 go_wp2_with fail
 refine (header_any h w5).mono ?_;rintro e w6 ⟨rfl,rfl⟩;obtain⟨B,hB⟩:∃B,B=hdrB h:=⟨_,rfl⟩;have HB:Hid (hdrB h=B):=hB.symm;rw[←hB];clear hB
 go_upto_if 41 with fail
 go_cut [13,14,16] from 17 (fun f v _ w'=>f=.int .i64 F∧(∃a n c,v=.slice a n c∧FTs w' (.slice a n c) G)∧Below w6.heap.size w6 w')
 case first =>
  as_aux_lemma =>
   have HNF:Hid (FTs w6 (.slice none 0 0) []):=fts_nil _;by_cases hX0:X=0
   ·have HCG:Hid (cgN S Ls Hs Ts l=0):=HX.out.symm.trans hX0;subst hX0;obtain⟨e0,e1,e2,e3⟩:=(HBN.out w6 HB5.out).c
    go_wp2_with fail
    refine (rnamed_any S ao n cap ao2 n2 cap2 Hs m w6 (HBN.out w6 HB5.out).h).mono ?_;rintro e w7 ⟨rfl,hb7⟩;have HB7:Hid (Below w6.heap.size w6 w7):=hb7;have HTP:Hid (tpN S Ls Hs=0):=(cg_ok HCG.out).1;clear hb7 e0 e1 e2 e3
    rcases where_ix Hs m with ⟨hi,hwo⟩ | ⟨k,hk,hi,hwo⟩
    ·have hi2:whN Hs m = -1:=hi;rw[hi2];have hwe:weN S Ls Hs m=5:=by rw[weN,if_pos HTP.out,hwo];rfl
     obtain⟨s1,s2⟩:=sn_2 (h:=h) HCG.out (by rw[hwe];decide);rw[HF.out,hwe] at s1;rw[HG.out] at s2;subst s1;subst s2;clear hi hwo hi2 hwe
     go_wp2_with fail
     go_meet
     case rel=>exact⟨rfl,⟨_,_,_,rfl,fts_nil _⟩,HB7.out⟩
    have hi2:whN Hs m=(k:Int):=hi;rw[hi2];have HWE:Hid (weN S Ls Hs m=0):=by show _=_;rw[weN,if_pos HTP.out,hwo];rfl
    have HWV:Hid (weV S Ls Hs m=Hs[k].2):=by show _=_;rw[weV,if_pos HWE.out,hwo];rfl
    have k0:decide ((k:Int)<0)=false:=by simp
    cases B with
    | false =>
      obtain⟨s1,s2⟩:=sn_3 HCG.out HWE.out HB.out;rw[HF.out] at s1;rw[HG.out] at s2;subst s1;subst s2;clear hi hwo hi2
      go_wp2_with fail
      go_meet
      case rel=>exact⟨rfl,⟨_,_,_,rfl,fts_nil _⟩,HB7.out⟩
    | true =>
      obtain⟨s1,s2⟩:=sn_0 HCG.out HWE.out HB.out;rw[HF.out] at s1;rw[HG.out,HWV.out] at s2;have HG2:Hid (seeL Ls Hs Ts (caT Ts l) Hs[k].2 h=G):=s2.symm;have HSP:Hid (spB S Hs[k].2=true):=by
       have:=we_sp HTP.out HWE.out;rw[HWV.out] at this;exact this
      subst s1;obtain⟨_,_,_,ee,hHn,hHm,_,hHa⟩:=(HBN.out w7 (HB5.out.trans (HB7.out.mono HB5.out.size))).h.form;cases ee;have hkn:k<n2:=by omega
      obtain⟨g,o,hao,hat,_⟩:=hHa (by omega);obtain⟨z0,z1,z2,hkl,hLk,q0,q1,q2⟩:=hst_at hat hHn hkn;have hz:Hs[k].2=(z1,z2):=by rw[hLk]
      rw[hz] at HG2 HSP;subst hao;have HCS:Hid (CS w7 w.heap.size S (.slice ao n cap) (.slice (some ⟨g,o,none⟩) n2 cap2) (.slice ao3 n3 cap3) w2.heap.size S (.slice c1 l1 f1) (.slice c2 l2 f2) (.slice c3 l3 f3) g (o+k*3) z1 z2 w7):=⟨Below.refl _ _,(HBN.out w7 (HB5.out.trans (HB7.out.mono HB5.out.size))).c,(HWA.out w7 HB7.out).c,q1,q2⟩;have HWK:Hid (∀W,Below w7.heap.size w7 W→WkE W (.slice ao n cap) (.slice (some ⟨g,o,none⟩) n2 cap2) (.slice ao3 n3 cap3) (.slice c3 l3 f3) Ls Hs Ts (caT Ts l)):=fun W hb=>by
       have b6:=HB7.out.trans (hb.mono HB7.out.size);have hn:=HBN.out W (HB5.out.trans (b6.mono HB5.out.size));exact⟨hn.l,hn.h,hn.t,(HWA.out W b6).t⟩
      have HRN:Hid (ntN S Ls Hs Ts=0∧ntN S Ls Hs (caT Ts l)=0):=⟨(cg_nt HCG.out).1,nt_ca (cg_nt HCG.out).1 (cg_nt HCG.out).2⟩;have kb0:(0:Int)≤(k:Int):=by omega
      have kb1:(k:Int)<(n2:Int):=by omega
      clear hi hwo hi2 hHa hat hLk q0 q1 q2 hz s2;have HSE:Hid (∀W,Below w7.heap.size w7 W→Calls Tryz.prog 8 #[.agg #[.int .i64 S,.slice ao n cap,.slice (some ⟨g,o,none⟩) n2 cap2,.slice ao3 n3 cap3],.agg #[.int .i64 S,.slice c1 l1 f1,.slice c2 l2 f2,.slice c3 l3 f3],.agg #[.int .i64 z1,.int .i64 z2],.int .i64 h] W fun e w'=>∃a n c,e=.returned (.slice a n c)∧FTs w' (.slice a n c) G∧Below w7.heap.size w7 w'):=fun W hW=>by
       obtain⟨r1,r2,r3⟩:=nt_0 HRN.out.1;obtain⟨_,r5,r6⟩:=nt_0 HRN.out.2;refine (rseen_any S S ao n cap _ n2 cap2 ao3 n3 cap3 _ _ c3 l3 f3 Ls Hs Ts (caT Ts l) r1 r2 r5 r3 r6 z1 z2 h W (HWK.out W hW) HSP.out HB.out).mono ?_;rintro e w' ⟨a,n,c,rfl,hF,hb⟩;rw[HG2.out] at hF;exact⟨a,n,c,rfl,hF,hW.trans (hb.mono hW.size)⟩
      have HMK:Hid (∀W,Below w7.heap.size w7 W→W.cell? ⟨w.heap.size,0,none⟩=some (.int .i64 S)∧W.cell? ⟨w.heap.size,1,none⟩=some (.slice ao n cap)∧W.cell? ⟨w.heap.size,2,none⟩=some (.slice (some ⟨g,o,none⟩) n2 cap2)∧W.cell? ⟨w.heap.size,3,none⟩=some (.slice ao3 n3 cap3)∧W.cell? ⟨w2.heap.size,0,none⟩=some (.int .i64 S)∧W.cell? ⟨w2.heap.size,1,none⟩=some (.slice c1 l1 f1)∧W.cell? ⟨w2.heap.size,2,none⟩=some (.slice c2 l2 f2)∧W.cell? ⟨w2.heap.size,3,none⟩=some (.slice c3 l3 f3)∧W.cell? ⟨g,o+k*3+1,none⟩=some (.int .i64 z1)∧W.cell? ⟨g,o+k*3+2,none⟩=some (.int .i64 z2)):=fun W hW=>by
       obtain⟨_,⟨x0,x1,x2,x3⟩,⟨y0,y1,y2,y3⟩,p1,p2⟩:=HCS.out.later hW;exact⟨x0,x1,x2,x3,y0,y1,y2,y3,p1,p2⟩
      go_upto_region 14 with fail
      go_region_held3 (fun W=>W.cell? ⟨w.heap.size,0,none⟩=some (.int .i64 S)∧W.cell? ⟨w.heap.size,1,none⟩=some (.slice ao n cap)∧W.cell? ⟨w.heap.size,2,none⟩=some (.slice (some ⟨g,o,none⟩) n2 cap2)∧W.cell? ⟨w.heap.size,3,none⟩=some (.slice ao3 n3 cap3)∧W.cell? ⟨w2.heap.size,0,none⟩=some (.int .i64 S)∧W.cell? ⟨w2.heap.size,1,none⟩=some (.slice c1 l1 f1)∧W.cell? ⟨w2.heap.size,2,none⟩=some (.slice c2 l2 f2)∧W.cell? ⟨w2.heap.size,3,none⟩=some (.slice c3 l3 f3)∧W.cell? ⟨g,o+k*3+1,none⟩=some (.int .i64 z1)∧W.cell? ⟨g,o+k*3+2,none⟩=some (.int .i64 z2))
       (first | (with_reducible assumption) | (with_reducible exact HMK.out _ (Below.drew (Below.refl _ _))) | (with_reducible exact HMK.out _ HBX.out))
       (first | (go_at_call 8;refine (HSE.out _ (by first | exact Below.drew (Below.refl _ _) | exact Below.refl _ _)).mono ?_;rintro e w' ⟨a9,n9,c9,rfl,hF,hb⟩;have HBX:Hid (Below w7.heap.size w7 w'):=hb;have HFX:Hid (FTs w' (.slice a9 n9 c9) G):=hF;clear hb hF))
      all_goals (go_wp2_with fail;go_meet)
      all_goals exact⟨rfl,⟨_,_,_,rfl,HFX.out⟩,HB7.out.trans (HBX.out.mono HB7.out.size)⟩
   have hnz:cgN S Ls Hs Ts l≠0:=by rw[←HX.out];exact hX0
   obtain⟨s1,s2⟩:=sn_1 (m:=m) (h:=h) hnz;rw[HF.out,←HX.out] at s1;rw[HG.out] at s2;subst s1;subst s2;have hq:(F==0)=false:=by simpa using hX0
   clear hX0 hnz
   go_wp2_with fail
   go_meet
   case rel=>exact⟨rfl,⟨_,_,_,rfl,HNF.out⟩,Below.refl _ _⟩
 case rest =>
 obtain⟨rfl,⟨a7,n7,c7,rfl,hF7⟩,hbc⟩:=hcut;obtain⟨w7,hw7⟩:∃W,W=wc:=⟨_,rfl⟩;subst hw7;have HF7:Hid (∀W,Below w7.heap.size w7 W→FTs W (.slice a7 n7 c7) G):=fun W hb=>hF7.later hb
 have HB7:Hid (Below w6.heap.size w6 w7):=hbc;have HB17:Hid (Below w1.heap.size w1 w7):=HB5.out.trans (hbc.mono HB5.out.size);clear hF7 hbc;obtain⟨e0,e1,e2,e3⟩:=(HBN.out w7 HB17.out).c
 go_wp2_with fail
 refine (seen_any S ao n cap ao2 n2 cap2 ao3 n3 cap3 a4 n4 c4 Ls Hs Ts l m h w7 (HBN.out _ HB17.out).l (HBN.out _ HB17.out).h (HBN.out _ HB17.out).t (HOP.out _ HB17.out)).mono ?_;rintro e w8 ⟨a8,n8,c8,rfl,hF8,hb8⟩;rw[HF.out];rw[HG.out] at hF8;have HF8:Hid (∀W,Below w8.heap.size w8 W→FTs W (.slice a8 n8 c8) G):=fun W hb=>hF8.later hb
 have HB78:Hid (Below w7.heap.size w7 w8):=hb8;have HB18:Hid (Below w1.heap.size w1 w8):=HB17.out.trans (hb8.mono HB17.out.size);clear hF8 hb8 e0 e1 e2 e3
 go_wp2_with fail
 refine (same_noV F w8 (HGW.out _ HB18.out)).mono ?_;rintro e w9 ⟨rfl,hb9⟩;have HB89:Hid (Below w8.heap.size w8 w9):=hb9;have HB79:Hid (Below w7.heap.size w7 w9):=HB78.out.trans (hb9.mono HB78.out.size);have HB19:Hid (Below w1.heap.size w1 w9):=HB18.out.trans (hb9.mono HB18.out.size);clear hb9
 go_wp2_with fail
 refine (smfates_any a8 a7 n8 n7 c8 c7 G w9 (HF8.out _ HB89.out) (HF7.out _ HB79.out) HGS.out).mono ?_;rintro e w10 ⟨rfl,hb10⟩;have HB70:Hid (Below w7.heap.size w7 w10):=HB79.out.trans (hb10.mono HB79.out.size);have HB60:Hid (Below w6.heap.size w6 w10):=HB7.out.trans (HB70.out.mono HB7.out.size);have HB10:Hid (Below w1.heap.size w1 w10):=HB19.out.trans (hb10.mono HB19.out.size);clear hb10 HB89 HB79 HB19 HB78 HB18 HF7 HF8 HB17 HB7
 go_upto_if 76 with fail
 go_cut [11] from 21 (fun e w'=>e=.int .i64 E2∧Below w10.heap.size w10 w')
 case first =>
  as_aux_lemma =>
   by_cases hX0:X=0
   ·have he:E2=U:=by rw[HE2.out,if_pos hX0]
    subst hX0;subst he;obtain⟨e0,e1,e2,e3⟩:=(HBN.out w10 HB10.out).c
    go_wp2_with fail
    refine (rwishes_any S ao n cap ao2 n2 cap2 a5 n5 c5 Ls Hs ws w10 (HBN.out _ HB10.out).l (HBN.out _ HB10.out).h (HWS.out _ HB10.out)).mono ?_;rintro e w11 ⟨rfl,hb11⟩;rw[HU.out];have HB11:Hid (Below w10.heap.size w10 w11):=hb11;clear hb11
    go_wp2_with fail
    go_meet
    case rel=>exact⟨rfl,HB11.out⟩
   have he:E2=X:=by rw[HE2.out,if_neg hX0]
   subst he;have hq:(E2==0)=false:=by simpa using hX0
   go_wp2_with fail
   go_meet
   case rel=>exact⟨rfl,Below.refl _ _⟩
 case rest =>
 obtain⟨rfl,hbc⟩:=hcut;obtain⟨w12,hw12⟩:∃W,W=wc:=⟨_,rfl⟩;subst hw12;have HB612:Hid (Below w6.heap.size w6 w12):=HB60.out.trans (hbc.mono HB60.out.size);have HB112:Hid (Below w1.heap.size w1 w12):=HB10.out.trans (hbc.mono HB10.out.size);have hal:Below w12.heap.size w12 (w12.alloc (Obj.cells #[.int .i64 0,.string ⟨#[]⟩,.int .i64 0] 50)):=(Below.refl _ _).alloc (Nat.le_refl _) _;have hpb:=prbox_new w12 w 0 ⟨#[]⟩ 0;obtain⟨w13,hw13⟩:∃W,w12.alloc (Obj.cells #[.int .i64 0,.string ⟨#[]⟩,.int .i64 0] 50)=W:=⟨_,rfl⟩;rw[hw13] at hal hpb;have HW13:Hid (w12.alloc (Obj.cells #[.int .i64 0,.string ⟨#[]⟩,.int .i64 0] 50)=w13):=hw13;have HPB13:Hid (PrBox w w13 w12.heap.size 0 ⟨#[]⟩ 0):=hpb;have HB1213:Hid (Below w12.heap.size w12 w13):=hal;have HB113:Hid (Below w1.heap.size w1 w13):=HB112.out.trans (hal.mono HB112.out.size);have HB613:Hid (Below w6.heap.size w6 w13):=HB612.out.trans (hal.mono HB612.out.size);clear hbc hal hpb hw13 HB60 HB10 HB70;go_upto_region 21 with fail;rw[HW13.out];clear HW13
 go_upto_if 82 with fail
 go_cut [11,22,23] from 24 (fun e _ _ w'=>e=.int .i64 E4∧Below w12.heap.size w12 w'∧PrBox w w' w12.heap.size P1 P2 P3)
 case first =>
  as_aux_lemma =>
   by_cases h0:E2=0
   ·have hz:X=0∧U=0:=by
     have hE:=HE2.out;rw[h0] at hE;by_cases h:X=0
     ·rw[if_pos h] at hE;exact⟨h,hE.symm⟩
     rw[if_neg h] at hE;exact absurd hE.symm h
    have HCG:Hid (cgN S Ls Hs Ts l=0):=HX.out.symm.trans hz.1;have HUZ:Hid (wsN S Ls Hs ws=0):=HU.out.trans hz.2;have hX0:=hz.1;subst h0;subst hX0;have HRN:Hid (ntN S Ls Hs Ts=0∧ntN S Ls Hs (caT Ts l)=0):=⟨(cg_nt HCG.out).1,nt_ca (cg_nt HCG.out).1 (cg_nt HCG.out).2⟩;have HWK:Hid (WkE w13 (.slice ao n cap) (.slice ao2 n2 cap2) (.slice ao3 n3 cap3) (.slice c3 l3 f3) Ls Hs Ts (caT Ts l)):=by
     have hn:=HBN.out w13 HB113.out;exact⟨hn.l,hn.h,hn.t,(HWA.out w13 HB613.out).t⟩
    obtain⟨e0,e1,e2,e3⟩:=(HBN.out w13 HB113.out).c;have hy:NeBox w13 w2.heap.size S (.slice c1 l1 f1) (.slice c2 l2 f2) (.slice c3 l3 f3):=(HWA.out w13 HB613.out).c;obtain⟨y0,y1,y2,y3⟩:=hy;clear hz
    go_wp2_with fail
    refine (rsafe_any S ao n cap ao2 n2 cap2 ao3 n3 cap3 S _ _ c3 l3 f3 a5 n5 c5 Ls Hs Ts (caT Ts l) ws w13 HWK.out (HWS.out _ HB113.out) HRN.out.1 HRN.out.2).mono ?_;rintro e w14 ⟨rfl,hb14⟩;have hv:prV Hs (bsW Ls Hs Ts (caT Ts l) ws Hs ws.length)=(P1,P2,P3):=by rw[←HPV.out,mtV,if_pos ⟨HCG.out,HUZ.out⟩]
    rw[hv];obtain⟨BR,hBR⟩:∃q,q=(bsW Ls Hs Ts (caT Ts l) ws Hs ws.length).isNone:=⟨_,rfl⟩;have HN9:Hid (E4=if BR then 0 else 9):=by
     show _=_;rw[←HE4.out,mtN,if_pos HCG.out,if_pos HUZ.out,hBR]
    rw[←hBR];have hal:Below w14.heap.size w14 (w14.alloc (Obj.cells #[.int .i64 P1,.string P2,.int .i64 P3] 50)):=(Below.refl _ _).alloc (Nat.le_refl _) _;have hph:=prbox_new w14 w P1 P2 P3;have hPB15:=(HPB13.out.later hb14).later hal;have hB15:=(HB1213.out.trans (hb14.mono HB1213.out.size)).trans (hal.mono (HB1213.out.trans (hb14.mono HB1213.out.size)).size);have hltq:w12.heap.size<w14.heap.size:=(HPB13.out.later hb14).lt;obtain⟨w15,hw15⟩:∃W,w14.alloc (Obj.cells #[.int .i64 P1,.string P2,.int .i64 P3] 50)=W:=⟨_,rfl⟩;obtain⟨gH,hgH⟩:∃q,q=w14.heap.size:=⟨_,rfl⟩;rw[hw15] at hph hPB15 hB15;rw[←hgH] at hph hltq;have HW15:Hid (w14.alloc (Obj.cells #[.int .i64 P1,.string P2,.int .i64 P3] 50)=w15):=hw15;have HGH:Hid (w14.heap.size=gH):=hgH.symm;have HB15:Hid (Below w12.heap.size w12 w15):=hB15;have HPB15:Hid (PrBox w w15 w12.heap.size 0 ⟨#[]⟩ 0):=hPB15;have HPH15:Hid (PrBox w w15 gH P1 P2 P3):=hph;have HLT:Hid (w12.heap.size<gH):=hltq;clear hb14 hv hBR hal hph hPB15 hB15 hltq hw15 hgH e0 e1 e2 e3 y0 y1 y2 y3;go_upto_region 23 with fail;rw[HW15.out,HGH.out];clear HW15 HGH;obtain⟨h0,h1,h2,_⟩:=HPH15.out;obtain⟨q0,q1,q2,qf⟩:=HPB15.out;have f0:=qf 0;have f1:=qf 1;have f2:=qf 2;clear qf;cases BR with
    | true =>
      have he4:E4=0:=HN9.out;subst he4
      go_wp2_with fail
      go_meet
      case rel=>exact⟨rfl,below_put3 HB15.out w12.heap.size (Nat.le_refl _) _ _ _,HPB15.out.put P1 P2 P3⟩
    | false =>
      have he4:E4=9:=HN9.out;subst he4
      go_wp2_with fail
      go_meet
      case rel=>exact⟨rfl,below_put3 HB15.out w12.heap.size (Nat.le_refl _) _ _ _,HPB15.out.put P1 P2 P3⟩
   have hnz:¬(cgN S Ls Hs Ts l=0∧wsN S Ls Hs ws=0):=by
    rw[←HX.out,HU.out];rintro⟨h1,h2⟩;exact h0 (by rw[HE2.out,if_pos h1,h2])
   have he:E4=E2:=by
    rw[←HE4.out,mtN,HE2.out,HX.out,←HU.out];by_cases h1:cgN S Ls Hs Ts l=0
    ·rw[if_pos h1,if_pos h1,if_neg (fun h=>hnz ⟨h1,h⟩)]
    rw[if_neg h1,if_neg h1]
   have hv:((0:Int),ByteArray.empty,(0:Int))=(P1,P2,P3):=by rw[←HPV.out,mtV,if_neg hnz]
   simp only[Prod.mk.injEq] at hv;obtain⟨p1,p2,p3⟩:=hv;subst he;subst p1;subst p2;subst p3;have hq:(E4==0)=false:=by simpa using h0
   clear hnz
   go_wp2_with fail
   go_meet
   case rel=>exact⟨rfl,HB1213.out,HPB13.out⟩
 case rest =>
 obtain⟨rfl,hbc,hpb⟩:=hcut;obtain⟨w16,hw16⟩:∃W,W=wc:=⟨_,rfl⟩;subst hw16;have HB116:Hid (Below w1.heap.size w1 w16):=HB112.out.trans (hbc.mono HB112.out.size);have HPB16:Hid (PrBox w w16 w12.heap.size P1 P2 P3):=hpb;clear hbc hpb HPB13 HB1213 HB113 HB613 HB612 HE2;obtain⟨e0,e1,e2,e3⟩:=(HBN.out w16 HB116.out).c
 go_wp2_with fail
 refine (safe_any S ao n cap ao2 n2 cap2 ao3 n3 cap3 a4 n4 c4 a5 n5 c5 Ls Hs Ts l ws w16 (HBN.out _ HB116.out).l (HBN.out _ HB116.out).h (HBN.out _ HB116.out).t (HOP.out _ HB116.out) (HWS.out _ HB116.out)).mono ?_;rintro e w17 ⟨N,p,rfl,hSR,hb17⟩;obtain⟨hN,hp⟩:=sf_det hSR;rw[HE4.out] at hN;rw[HPV.out] at hp;subst hN;subst hp;have hal:Below w17.heap.size w17 (w17.alloc (Obj.cells #[.int .i64 P1,.string P2,.int .i64 P3] 50)):=(Below.refl _ _).alloc (Nat.le_refl _) _;have hph:=prbox_new w17 w P1 P2 P3;have hPB18:=(HPB16.out.later hb17).later hal;have h16:=hb17.trans (hal.mono hb17.size);have hB18:=HB116.out.trans (h16.mono HB116.out.size);obtain⟨w18,hw18⟩:∃W,w17.alloc (Obj.cells #[.int .i64 P1,.string P2,.int .i64 P3] 50)=W:=⟨_,rfl⟩;obtain⟨gP,hgP⟩:∃q,q=w17.heap.size:=⟨_,rfl⟩;rw[hw18] at hph hPB18 hB18;rw[←hgP] at hph;have HW18:Hid (w17.alloc (Obj.cells #[.int .i64 P1,.string P2,.int .i64 P3] 50)=w18):=hw18;have HGP:Hid (w17.heap.size=gP):=hgP.symm;have HB18:Hid (Below w1.heap.size w1 w18):=hB18;have HPB18:Hid (PrBox w w18 w12.heap.size P1 P2 P3):=hPB18;have HPP18:Hid (PrBox w w18 gP P1 P2 P3):=hph;clear hb17 hal hph hPB18 h16 hB18 hw18 hgP e0 e1 e2 e3 HPB16 HB116 hSR;go_upto_region 27 with fail;rw[HW18.out,HGP.out];clear HW18 HGP
 go_wp2_with fail
 refine (same_noV N w18 (HGW.out _ HB18.out)).mono ?_;rintro e w19 ⟨rfl,hb19⟩;have HB19:Hid (Below w1.heap.size w1 w19):=HB18.out.trans (hb19.mono HB18.out.size);have HPB19:Hid (PrBox w w19 w12.heap.size P1 P2 P3):=HPB18.out.later hb19;have HPP19:Hid (PrBox w w19 gP P1 P2 P3):=HPP18.out.later hb19;clear hb19 HPB18 HPP18 HB18
 go_wp2_with fail
 refine (touched_any a4 n4 c4 l w19 (HOP.out _ HB19.out) HN4.out).mono ?_;rintro e w20 ⟨a3,k3,d3,rfl,hI,hb20⟩;have HI:Hid (∀W,Below w20.heap.size w20 W→GS inE W (.slice a3 k3 d3) (tcL l)):=fun W hb=>hI.later hb
 have HB20:Hid (Below w1.heap.size w1 w20):=HB19.out.trans (hb20.mono HB19.out.size);have HPB20:Hid (PrBox w w20 w12.heap.size P1 P2 P3):=HPB19.out.later hb20;have HPP20:Hid (PrBox w w20 gP P1 P2 P3):=HPP19.out.later hb20;clear hb20 hI HPB19 HPP19 HB19
 go_wp2_with fail
 refine (rtouched_any a4 n4 c4 l w20 (HOP.out _ HB20.out) HN4.out).mono ?_;rintro e w21 ⟨a6,k6,d6,rfl,hJ,hb21⟩;have HI2:Hid (GS inE w21 (.slice a3 k3 d3) (tcL l)):=HI.out _ hb21;have HJ:Hid (GS inE w21 (.slice a6 k6 d6) (tcL l)):=hJ;have HB21:Hid (Below w1.heap.size w1 w21):=HB20.out.trans (hb21.mono HB20.out.size);have HPB21:Hid (PrBox w w21 w12.heap.size P1 P2 P3):=HPB20.out.later hb21;have HPP21:Hid (PrBox w w21 gP P1 P2 P3):=HPP20.out.later hb21;clear hb21 hJ HI HPB20 HPP20 HB20
 go_wp2_with fail
 refine (smints_any a3 a6 k3 k6 d3 d6 (tcL l) (tcL l) w21 HI2.out HJ.out).mono ?_;rintro e w22 ⟨rfl,hb22⟩;have HB22:Hid (Below w.heap.size w w22):=HB1.out.trans ((HB21.out.trans (hb22.mono HB21.out.size)).mono HB1.out.size);rw[show (tcL l==tcL l)=true from by simp];obtain⟨p0,p1,p2,_⟩:=HPB21.out.later hb22;obtain⟨q0,q1,q2,_⟩:=HPP21.out.later hb22;clear hb22;go_wp2;go_ret;exact⟨rfl,HB22.out⟩
end mixTells
section
open Go.ChangeShapes Go.WideShapes Go.ChangeAt Go.RowKit Go.Joins
section
variable {P:Program}{α:Type}{E:Enc α}
theorem gs_open {H:Type}{enc:TypeId×Value→H}{W:World}{fuel:Nat}{cs:List Value}{x:DataW H×List MemPlace}(ts te:TypeId)(hu:P.underlying ts=some (.slice te))(hC:P.cellsOf te=E.n)(x0:α)
 (hel:∀(n:Nat) (cs:List Value) (x:DataW H×List MemPlace),DataW.trod enc P W 0 (fun _=>true) true n te cs=some x→∃y,cs=E.c y)
 (hf2:DataW.trod enc P W 0 (fun _=>true) true fuel ts cs=some x):∃ao n cap L,cs=[.slice ao n cap]∧GS E W (.slice ao n cap) L:=by
 obtain⟨d,p⟩:=x
 rcases Go.Deep.open_slice hu hf2 with ⟨hc,hx⟩ | ⟨a,len0,cap,m,k,D,Pl,hc,_,hl,hm,hmm,hx,hall⟩
 ·exact⟨_,_,_,[],hc,.inl ⟨none,0,rfl,rfl⟩⟩
 simp only[if_true] at hmm;subst hmm
 rcases Nat.eq_zero_or_pos len0 with h0 | h0
 ·subst h0;exact⟨_,_,_,[],hc,.inl ⟨_,_,rfl,rfl⟩⟩
 have each:∀i,i<m→∃y:α,∀j,j<E.n→W.cell? (a.add (i*E.n+j))=(E.c y)[j]?:=by
  intro i hi;obtain⟨cs,h1,h2⟩:=hall i hi;rw[hC] at h1;obtain⟨_,hlen,hcell⟩:=World.cells?_some h1;obtain⟨y,rfl⟩:=hel _ _ _ h2;refine⟨y,fun j hj=>?_⟩;have:=hcell j (by omega);rw[Go.Deep.add_add] at this;exact this
 have iR:Inhabited α:=⟨x0⟩;obtain⟨R,hR⟩:=Go.Deep.choose_lt each;obtain⟨sb,so,spot⟩:=a;have hspot:spot=none:=by
  have h1:=hR 0 (by omega) 0 E.pos;have h2:(E.c (R 0))[0]?.isSome=true:=by
   rw[List.getElem?_eq_getElem (by rw[E.len];exact E.pos)];rfl
  obtain⟨u,hu2⟩:=Option.isSome_iff_exists.1 h2;rw[hu2] at h1;simpa[Addr.add] using World.cell?_spot h1
 subst hspot;have hadd:∀j,(⟨sb,so,none⟩:Addr).add j=⟨sb,so+j,none⟩:=by
  intro j;simp only[Addr.add]
  first
   | rfl
   | (split
      ·next h0=>rw[h0];rfl
      rfl)
 refine⟨_,_,_,(List.range len0).map R,hc,.inr ⟨sb,so,_,by simp,by simpa using hl,hm,fun i hi j u hu2=>?_⟩⟩;have hi2:i<len0:=by simpa using hi
 have e:((List.range len0).map R)[i]=R i:=by simp
 rw[e] at hu2;have hj:j<E.n:=by
  have:=(List.getElem?_eq_some_iff.1 hu2).1;rw[E.len] at this;exact this
 have hc:=hR i (by omega) j hj;rw[hadd,hu2,←Nat.add_assoc] at hc;exact hc
end
theorem topo_open {H:Type}{enc:TypeId×Value→H}{W:World}{n:Nat}{cs:List Value}{x:DataW H×List MemPlace}
 (h:DataW.trod enc Tryz.prog W 0 (fun _=>true) true n 25 cs=some x):∃S ao n cap ao2 n2 cap2 Ls Hs,cs=[.int .i64 S,.slice ao n cap,.slice ao2 n2 cap2]∧GS lnkE W (.slice ao n cap) Ls∧GS hstE W (.slice ao2 n2 cap2) Hs:=by
 obtain⟨xs,k,_,_,hl,hlen,hf⟩:=DataW.trod_struct Tryz.underlying25 h;have hC:Tryz.prog.cellsOf 25=3:=by kernel_rfl
 have hT0:Tryz.prog.cellsOf 3=1:=by kernel_rfl
 have hT1:Tryz.prog.cellsOf 22=1:=by kernel_rfl
 have hT2:Tryz.prog.cellsOf 23=1:=by kernel_rfl
 rw[hC] at hl
 match cs,hl with
 | [c0,c1,c2],_ =>
   match xs,hlen with
   | [z0,z1,z2],_ =>
     have g0:=hf 0 _ rfl;have g1:=hf 1 _ rfl;have g2:=hf 2 _ rfl;simp[hT0,hT1,hT2] at g0 g1 g2;obtain⟨v0,e0,_,_⟩:=DataW.trod_int Tryz.underlying3 g0;obtain⟨ao,n,cap,Ls,e1,hL⟩:=gs_open (E:=lnkE) 22 105 Tryz.underlying22 (by kernel_rfl) ((0,0),(0,0)) (fun _ _ _ h=>lnk_open h) g1;obtain⟨ao2,n2,cap2,Hs,e2,hH⟩:=gs_open (E:=hstE) 23 41 Tryz.underlying23 (by kernel_rfl) (ByteArray.empty,(0,0)) (fun _ _ _ h=>hst_open h) g2;simp at e0 e1 e2;exact⟨v0,ao,n,cap,ao2,n2,cap2,Ls,Hs,by simp[e0,e1,e2],hL,hH⟩
theorem gs_SR {w:World}{v:Value}{L:List Ru}(h:GS rlE w v L):SR w v L:=by
 rcases h with h | ⟨g,o,cap,h1,h2,h3,h4⟩
 ·exact .inl h
 refine .inr ⟨g,o,cap,h1,h2,h3,fun i hi=>?_⟩;have hv:=h4 i hi
 generalize L[i]=r at hv
 obtain⟨p,m,b,q,s,x⟩:=r;obtain⟨q0,q1,q2,q3,q4,q5⟩:=rl_cells hv;exact⟨q0,q1,q2,q3,q4,q5⟩
theorem table_open {H:Type}{enc:TypeId×Value→H}{W:World}{fuel:Nat}{cs:List Value}{x:DataW H×List MemPlace}
 (h:DataW.trod enc Tryz.prog W 0 (fun _=>true) true fuel 62 cs=some x):∃ao n cap L,cs=[.slice ao n cap]∧SR W (.slice ao n cap) L:=by
 obtain⟨ao,n,cap,L,e,hL⟩:=gs_open (E:=rlE) 62 66 Tryz.underlying62 (by kernel_rfl) zeR (fun _ _ _ h=>rl_open h) h;exact⟨ao,n,cap,L,e,gs_SR hL⟩
theorem tables_open {H:Type}{enc:TypeId×Value→H}{W:World}{fuel:Nat}{cs:List Value}{x:DataW H×List MemPlace}
 (hf2:DataW.trod enc Tryz.prog W 0 (fun _=>true) true fuel 26 cs=some x):∃ao n cap Ts,cs=[.slice ao n cap]∧TS W (.slice ao n cap) Ts:=by
 obtain⟨d,p⟩:=x;have hC:Tryz.prog.cellsOf 62=1:=by kernel_rfl
 rcases Go.Deep.open_slice Tryz.underlying26 hf2 with ⟨hc,hx⟩ | ⟨a,len0,cap,m,k,D,Pl,hc,_,hl,hm,hmm,hx,hall⟩
 ·exact⟨_,_,_,[],hc,.inl ⟨none,0,rfl,rfl⟩⟩
 simp only[if_true] at hmm;subst hmm
 rcases Nat.eq_zero_or_pos len0 with h0 | h0
 ·subst h0;exact⟨_,_,_,[],hc,.inl ⟨_,_,rfl,rfl⟩⟩
 have each:∀i,i<m→∃L:List Ru,∃ao n cap,W.cell? (a.add i)=some (.slice ao n cap)∧SR W (.slice ao n cap) L:=by
  intro i hi;obtain⟨cs,h1,h2⟩:=hall i hi;rw[hC] at h1;obtain⟨_,hlen,hcell⟩:=World.cells?_some h1;obtain⟨ao,n,cap,L,rfl,hL⟩:=table_open h2;refine⟨L,ao,n,cap,?_,hL⟩;have:=hcell 0 (by simp);rw[Go.Deep.add_add] at this;simpa using this
 obtain⟨R,hR⟩:=Go.Deep.choose_lt each;obtain⟨sb,so,spot⟩:=a;have hspot:spot=none:=by
  obtain⟨ao,n,cap,h1,_⟩:=hR 0 (by omega);simpa[Addr.add] using World.cell?_spot h1
 subst hspot;have hadd:∀j,(⟨sb,so,none⟩:Addr).add j=⟨sb,so+j,none⟩:=by
  intro j;simp only[Addr.add]
  first
   | rfl
   | (split
      ·next h0=>rw[h0];rfl
      rfl)
 refine⟨_,_,_,(List.range len0).map R,hc,.inr ⟨sb,so,_,by simp,by simpa using hl,hm,fun i hi=>?_⟩⟩;have hi2:i<len0:=by simpa using hi
 have e:((List.range len0).map R)[i]=R i:=by simp
 rw[e];obtain⟨ao,n,cap,h1,h2⟩:=hR i (by omega);rw[hadd] at h1;exact⟨ao,n,cap,h1,h2⟩
theorem net_open {H:Type}{enc:TypeId×Value→H}{W:World}{n:Nat}{cs:List Value}{x:DataW H×List MemPlace}
 (h:DataW.trod enc Tryz.prog W 0 (fun _=>true) true n 28 cs=some x):∃S ao n cap ao2 n2 cap2 ao3 n3 cap3 Ls Hs Ts,cs=[.int .i64 S,.slice ao n cap,.slice ao2 n2 cap2,.slice ao3 n3 cap3]∧GS lnkE W (.slice ao n cap) Ls∧GS hstE W (.slice ao2 n2 cap2) Hs∧TS W (.slice ao3 n3 cap3) Ts:=by
 obtain⟨xs,k,_,_,hl,hlen,hf⟩:=DataW.trod_struct Tryz.underlying28 h;have hC:Tryz.prog.cellsOf 28=4:=by kernel_rfl
 have hT0:Tryz.prog.cellsOf 25=3:=by kernel_rfl
 have hT1:Tryz.prog.cellsOf 26=1:=by kernel_rfl
 rw[hC] at hl
 match cs,hl with
 | [c0,c1,c2,c3],_ =>
   match xs,hlen with
   | [z0,z1],_ =>
     have g0:=hf 0 _ rfl;have g1:=hf 1 _ rfl;simp[hT0,hT1] at g0 g1;obtain⟨S,ao,n,cap,ao2,n2,cap2,Ls,Hs,e0,hL,hH⟩:=topo_open g0;obtain⟨ao3,n3,cap3,Ts,e1,hT⟩:=tables_open g1;simp at e0 e1;exact⟨S,ao,n,cap,ao2,n2,cap2,ao3,n3,cap3,Ls,Hs,Ts,by simp[e0,e1],hL,hH,hT⟩
theorem net_of {H:Type}{enc:TypeId×Value→H}{W:World}{base:Nat}{v:Value}{d:DataW H}{p:List MemPlace}
 (hv:Value.okWide Tryz.prog W .any base 28 v) (h:DataW.Trod enc Tryz.prog W 0 (fun _=>true) true 28 v d p):∃S ao n cap ao2 n2 cap2 ao3 n3 cap3 Ls Hs Ts,v=.agg #[.int .i64 S,.slice ao n cap,.slice ao2 n2 cap2,.slice ao3 n3 cap3]∧GS lnkE W (.slice ao n cap) Ls∧GS hstE W (.slice ao2 n2 cap2) Hs∧TS W (.slice ao3 n3 cap3) Ts:=by
 obtain⟨cs,rfl,hsz⟩:=okWide_struct Tryz.underlying28 hv;obtain⟨n,hn⟩:=h;obtain⟨S,ao,n,cap,ao2,n2,cap2,ao3,n3,cap3,Ls,Hs,Ts,e,h1,h2,h3⟩:=net_open hn;refine⟨S,ao,n,cap,ao2,n2,cap2,ao3,n3,cap3,Ls,Hs,Ts,?_,h1,h2,h3⟩;simp only[Value.cells] at e;rw[←Array.toArray_toList (xs:=cs),e]
end
namespace mixTells
open Go.ChangeShapes Go.WideShapes Go.ChangeAt Go.RowKit
theorem own:ownKnob Tryz.prog.godebug=none:=by kernel_rfl
theorem laidOut:laidOutB Tryz.prog=true:=by kernel_rfl
theorem et : Tryz.prog.globalNamed "errors.errorType" = some 0 := by kernel_rfl
theorem oneRow:((List.range 283).filter fun t=>Tryz.prog.rowNamed t [101,114,114,111,114])=[43]:=by kernel_rfl
theorem tsize:Tryz.prog.types.size=283:=by kernel_rfl
theorem handle_of_laid {W:World}(h:laidMetH Tryz.prog Rows.mixTellsRow.laid W):HasErr W:=by
 have h':laidMet Tryz.prog [] W∧handlesMet Tryz.prog Rows.mixTellsRow.laid W:=h;obtain⟨name,u,ty,e1,e2,e3,e4,e5⟩:=h'.2 _ (List.mem_singleton.2 rfl);have en:name=[101,114,114,111,114]:=(Option.some.inj e1).symm;subst en;have hu:some u=some 216:=e2.symm.trans (by kernel_rfl);obtain rfl:=Option.some.inj hu;have hm:ty∈(List.range 283).filter fun t=>Tryz.prog.rowNamed t [101,114,114,111,114]:=List.mem_filter.2 ⟨List.mem_range.2 (by rw[←tsize];exact e3),e4⟩
 rw[oneRow] at hm;obtain rfl:=List.mem_singleton.1 hm;have hh:typeHandle Tryz.prog 43=.pointer (some ⟨1,43,none⟩):=by kernel_rfl
 rw[hh] at e5;unfold HasErr;simpa using World.var?_cell et e5 0
theorem opBytes:Tryz.prog.bytesOf 68=64:=by kernel_rfl
theorem short {H:Type}{enc:TypeId×Value→H}{W:World}{ao:Option Addr}{n cap:Nat}{d d0:DataW H}{p:List MemPlace}{t0:TypeId}{ts:List TypeId}{ds:List (DataW H)}
 (h:DataW.Trod enc Tryz.prog W 0 (fun _=>true) true 29 (.slice ao n cap) d p) (hw:(DataW.weightsEach Tryz.prog (t0 :: 29 :: ts) (d0 :: d :: ds)).all (· ≤ reachBytes)=true):n*64≤140737488355328:=by
 obtain⟨fuel,hf⟩:=h;have hf2:DataW.trod enc Tryz.prog W 0 (fun _=>true) true fuel 29 [.slice ao n cap]=some (d,p):=hf
 rcases Go.Deep.open_slice Tryz.underlying29 hf2 with ⟨hc,hx⟩ | ⟨a,len,cap2,m,k,D,Pl,hc,_,hl,hm,hmm,hx,hall⟩
 ·simp only[List.cons.injEq,and_true,Value.slice.injEq] at hc;obtain⟨_,rfl,_⟩:=hc;omega
 simp only[List.cons.injEq,and_true,Value.slice.injEq] at hc;obtain⟨_,rfl,rfl⟩:=hc;simp only[Prod.mk.injEq] at hx;obtain⟨rfl,_⟩:=hx;have h1:=sized_slice (P:=Tryz.prog) hw (j:=1) (t:=29) (e:=68) rfl rfl Tryz.underlying29;rw[opBytes] at h1;simp only[List.length_map,List.length_range] at h1;have h3:reachBytes=140737488351232:=by rfl
 rw[h3] at h1;have h4:n*64≤(n+(m-n))*64:=Nat.mul_le_mul_right _ (by omega);omega
theorem lifted (os:Os)(started:os.Started)(H:Type)(enc:TypeId×Value→H):
 ReturnsInHanded {} Tryz.checked os 3 .any (fun w args=>(Rows.mixTellsSpec.pre enc Tryz.prog Tryz.f3 [] false w args∧laidMetH Tryz.prog Rows.mixTellsRow.laid w)∧sizedMet enc Tryz.prog Tryz.f3 (OpenSpec.ofChange Rows.mixTellsSpec) false w args)
  (Rows.mixTellsSpec.post enc Tryz.prog Tryz.f3 false true false false):=by
 refine returnsInHanded_of_change_and (C:=Tryz.checked) (X:=fun w _=>laidMetH Tryz.prog Rows.mixTellsRow.laid w) (fun _ _ _ hh h=>h.of_heap hh) own started (by kernel_rfl) Tryz.func3
  (ChangeSpec.witness_at (enc:=enc) (C:=Tryz.checked) (os:=os) (X:=fun w _=>laidMetH Tryz.prog Rows.mixTellsRow.laid w) false
   { World.holding Tryz.prog os ⟨#[],#[],[]⟩ with heap:=(World.holding Tryz.prog os ⟨#[],#[],[]⟩).heap.modify 0 fun
    | .cells _ t frozen=>.cells #[.iface 216 (.agg #[.pointer (some ⟨1,43,none⟩)])] t frozen
    | o=>o }
   #[.agg #[.int .i64 0,.slice none 0 0,.slice none 0 0,.slice none 0 0],.slice none 0 0,.slice none 0 0,.string ByteArray.empty,.int .i64 0] 8 rfl (by kernel_rfl) (by kernel_rfl) (by kernel_rfl) (by kernel_rfl) (by kernel_rfl) (laidMetH_of_parts (laidMet_nil _ _) (by kernel_rfl))) ?_
 intro W base args ds gs before hval0 hW _ hwt hLaid _;have hval:∀(j:Nat) t v,Tryz.f3.params[j]?=some t→args[j]?=some v→Value.okWide Tryz.prog W .any base t v:=hval0;have hW':=hW;obtain⟨p,q,hA0,hV0,rfl,hfz,hnd⟩:=hW;have hA:DataW.TrodAll enc Tryz.prog W 0 (fun _=>true) true Tryz.f3.params.toList args.toList ds p:=hA0;have hV:DataW.TrodVars enc Tryz.prog W (fun _=>true) [] gs q:=hV0;have hwt2:(DataW.weightsEach Tryz.prog (Tryz.f3.params.toList++Rows.mixTellsSpec.plain.varTypes Tryz.prog) (ds++gs)).all (· ≤ reachBytes)=true:=hwt;rw[Tryz.params3] at hA hval hwt2;obtain⟨v0,vs0,d0,ds0,p0,q0,hargs,rfl,rfl,h0,r0⟩:=trodAll_cons hA;obtain⟨v1,vs1,d1,ds1,p1,q1,rfl,rfl,rfl,h1,r1⟩:=trodAll_cons r0;obtain⟨v2,vs2,d2,ds2,p2,q2,rfl,rfl,rfl,h2,r2⟩:=trodAll_cons r1;obtain⟨v3,vs3,d3,ds3,p3,q3,rfl,rfl,rfl,h3,r3⟩:=trodAll_cons r2;obtain⟨v4,vs4,d4,ds4,p4,q4,rfl,rfl,rfl,h4,r4⟩:=trodAll_cons r3;obtain⟨rfl,rfl,rfl⟩:=trodAll_nil r4;obtain rfl:args=#[v0,v1,v2,v3,v4]:=by cases args;simp_all
 have hg:=handle_of_laid hLaid;obtain⟨rfl,rfl⟩:gs=[]∧q=[]:=by
  cases gs with
  | nil=>exact⟨rfl,hV⟩
  | cons g r=>exact absurd hV (by intro h;cases h)
 have k0:=h0;have lt0:∀x∈p0,x.block<W.heap.size:=by obtain⟨m,hm⟩:=k0;exact DataW.trod_lt m _ _ _ hm
 have k1:=h1;have lt1:∀x∈p1,x.block<W.heap.size:=by obtain⟨m,hm⟩:=k1;exact DataW.trod_lt m _ _ _ hm
 have k2:=h2;have lt2:∀x∈p2,x.block<W.heap.size:=by obtain⟨m,hm⟩:=k2;exact DataW.trod_lt m _ _ _ hm
 have k3:=h3;have lt3:∀x∈p3,x.block<W.heap.size:=by obtain⟨m,hm⟩:=k3;exact DataW.trod_lt m _ _ _ hm
 have k4:=h4;have lt4:∀x∈p4,x.block<W.heap.size:=by obtain⟨m,hm⟩:=k4;exact DataW.trod_lt m _ _ _ hm
 obtain⟨S,ao,n,cap,ao2,n2,cap2,ao3,n3,cap3,Ls,Hs,Ts,rfl,hL,hH,hT⟩:=net_of (hval 0 28 v0 rfl rfl) h0;obtain⟨l,hl⟩:=ops_of (hval 1 29 v1 rfl rfl) h1;obtain⟨a4,n4,c4,rfl⟩:=okWide_slice Tryz.underlying29 (hval 1 29 v1 rfl rfl);obtain⟨ws,hw⟩:=wiss_of (hval 2 30 v2 rfl rfl) h2;obtain⟨a5,n5,c5,rfl⟩:=okWide_slice Tryz.underlying30 (hval 2 30 v2 rfl rfl);obtain⟨m,rfl⟩:=okWide_string Tryz.underlying9 (hval 3 9 v3 rfl rfl);obtain⟨a,rfl⟩:=okWide_int Tryz.underlying3 (hval 4 3 v4 rfl rfl);have hsz:=short h1 hwt2;clear hA0 hval0 hwt hwt2;refine (walk S ao n cap ao2 n2 cap2 ao3 n3 cap3 a4 n4 c4 a5 n5 c5 m a Ls Hs Ts l ws W hL hH hT hl hw hg (by omega)).mono fun e W' ⟨he,bel⟩=>?_
 subst he;exact⟨_,rfl,_,_,_,[],_,[],hW',trodAll_mk1 (shut_bool Tryz.underlying4 _),(trodAll_cons_mk (Below.trod laidOut (by kernel_rfl) (of_decide_eq_true (by kernel_rfl)) k0 bel lt0) (trodAll_cons_mk (Below.trod laidOut (by kernel_rfl) (of_decide_eq_true (by kernel_rfl)) k1 bel lt1) (trodAll_cons_mk (Below.trod laidOut (by kernel_rfl) (of_decide_eq_true (by kernel_rfl)) k2 bel lt2) (trodAll_cons_mk (Below.trod laidOut (by kernel_rfl) (of_decide_eq_true (by kernel_rfl)) k3 bel lt3) (trodAll_cons_mk (Below.trod laidOut (by kernel_rfl) (of_decide_eq_true (by kernel_rfl)) k4 bel lt4) trodAll_mk0))))),rfl,bel.frame _,fun h=>by cases h⟩
theorem over:Rows.MixTellsSaid:=
 OpenClaim.holds_of_wide 3 Tryz.f3 rfl rfl rfl rfl rfl rfl rfl ⟨rfl,rfl,rfl,rfl,rfl⟩ rfl rfl rfl rfl rfl (by kernel_rfl) Tryz.func3 (by kernel_rfl)
  (of_decide_eq_true (by kernel_rfl)) (by unfold Func.isWrapper;first | (rw[if_pos (by decide +kernel)];kernel_rfl) | (rw[if_neg (by decide +kernel)];exact⟨rfl,rfl⟩))
  (fun os started H enc _=>lifted os started H enc)
end mixTells
end Go.Proofs.YtglnnoglbieaeaaGreatDoor
