/- Contracts and facts on the way to DriveSays, joined into one text: AsErr, AsErr2, SameNo, DriveSays, ClassTwo, RefDrMem, OwnInts, DrivePgMem, DriveCheck, CcRound, StrClone, AlikeMath, TableBey, ChangeFresh, DrivePgNew, GenTake, DriveShare. -/
import Derived.Test.YtpgjkmefomldfaaDoorDriveSaysP1
namespace Go.Proofs.YtpgjkmefomldfaaDoor
set_option linter.unusedSimpArgs false
set_option linter.unusedVariables false
set_option maxHeartbeats 16000000
set_option maxRecDepth 100000
open Go.Proofs.Tryd
open IntKind (i64)
section
open Go.RowKit Go.Extern.Stop Go.Stop Go.Extern
def HasErr (w:World):Prop:=w.cell? ⟨0,0,none⟩=some (.iface 110 (.agg #[.pointer (some ⟨1,25,none⟩)]))
theorem HasErr.later {w w':World}(h:HasErr w)(hb:Below w.heap.size w w'):HasErr w':=cell_later hb h
theorem HasErr.alloc {w:World}(h:HasErr w)(o:Obj):HasErr (w.alloc o):=h.later ((bRQ _ _).alloc (nLQ _) _)
theorem vOfP (t:Addr)(w:World):(ReflectliteValue.unpack (.iface 79 (.pointer (some t)))).run prog w
 = .ok (.agg #[.pointer (some ⟨1,79,none⟩),.pointer (some ⟨w.heap.size,0,none⟩),.int .u64 150]) (w.alloc (.cells #[.pointer (some t)] 79)):=by kernel_rfl
theorem typeP (a : Addr)(w : World): (ReflectliteValue.methodAny (ReflectliteValue.valueError "reflectlite.Value.Type" 0) (fun t _ _ _ => ReflectliteType.toType t) #[.agg #[.pointer (some ⟨1, 79, none⟩), .pointer (some a), .int .u64 150]]).run prog w
 = .ok (.iface 110 (.agg #[.pointer (some ⟨1,79,none⟩)])) w:=by kernel_rfl
theorem methKind (h : Value)(w : World): (Go.method 272 110 (.agg #[h]) "Kind").run prog w = .ok (95, h) w := by kernel_rfl
theorem kindP (w:World):((ReflectliteType.abiMethod fun t=>Functor.map (fun a:Nat=>Value.int IntKind.u8 (a:Int)) (Rtype.kind t)) #[.pointer (some ⟨1,79,none⟩)]).run prog w=.ok (.int .u8 22) w:=by kernel_rfl
theorem kindE (w:World):((ReflectliteType.abiMethod fun t=>Functor.map (fun a:Nat=>Value.int IntKind.u8 (a:Int)) (Rtype.kind t)) #[.pointer (some ⟨1,63,none⟩)]).run prog w=.ok (.int .u8 2) w:=by kernel_rfl
theorem partsP (a:Addr)(w:World):(ReflectliteValue.parts (.agg #[.pointer (some ⟨1,79,none⟩),.pointer (some a),.int .u64 150])).run prog w=.ok (some (79,a,150)) w:=by kernel_rfl
theorem isNilP (a p:Addr)(W:World)(ha:W.cell? a=some (.pointer (some p))):
 (ReflectliteValue.method (ReflectliteValue.valueError "reflectlite.Value.IsNil" 0) ReflectliteValue.isNil #[.agg #[.pointer (some ⟨1, 79, none⟩), .pointer (some a), .int .u64 150]]).run prog W = .ok (.bool false) W := by
 change Sem.run _ (ReflectliteValue.parts (.agg #[.pointer (some ⟨1,79,none⟩),.pointer (some a),.int .u64 150]) >>= _) _=_
 rw[Sem.run_bind,partsP];simp only[Result.andThen];simp[ReflectliteValue.isNil,loadVar,isAgg,underlying,underlying79,ha,Result.andThen]
theorem methElem (h : Value)(w : World): (Go.method 272 110 (.agg #[h]) "Elem").run prog w = .ok (105, .agg #[h]) w := by kernel_rfl
theorem methImpl (h : Value)(w : World): (Go.method 272 110 (.agg #[h]) "Implements").run prog w = .ok (106, .agg #[h]) w := by kernel_rfl
theorem methAssign (h : Value)(w : World): (Go.method 272 110 (.agg #[h]) "AssignableTo").run prog w = .ok (103, .agg #[h]) w := by kernel_rfl
theorem elemP (w:World):(ReflectliteType.method ReflectliteType.elem #[.agg #[.pointer (some ⟨1,79,none⟩)]]).run prog w=.ok (.iface 110 (.agg #[.pointer (some ⟨1,63,none⟩)])) w:=by kernel_rfl
theorem implE (w : World): (ReflectliteType.relation "Implements" ReflectliteType.implements_ #[.agg #[.pointer (some ⟨1, 63, none⟩)], .iface 110 (.agg #[.pointer (some ⟨1, 25, none⟩)])]).run prog w = .ok (.bool true) w := by kernel_rfl
theorem typeOfE (v:Value)(w:World):(ReflectliteType.typeOf #[.iface 63 v]).run prog w=.ok (.iface 110 (.agg #[.pointer (some ⟨1,63,none⟩)])) w:=by kernel_rfl
theorem assignE (w : World): (ReflectliteType.relation "AssignableTo" ReflectliteType.assignableTo #[.agg #[.pointer (some ⟨1, 63, none⟩)], .iface 110 (.agg #[.pointer (some ⟨1, 63, none⟩)])]).run prog w = .ok (.bool true) w := by kernel_rfl
theorem vOfE (n:Int)(w:World):(ReflectliteValue.unpack (.iface 63 (.int i64 n))).run prog w
 = .ok (.agg #[.pointer (some ⟨1,63,none⟩),.pointer (some ⟨w.heap.size,0,none⟩),.int .u64 130]) (w.alloc (.cells #[.int i64 n] 63)):=by kernel_rfl
theorem elemOfP (w:World):(Rtype.elem? 79).run prog w=.ok (some 63) w:=by kernel_rfl
theorem mkE (p:Addr)(w:World):(ReflectliteValue.mk 63 p ReflectliteValue.flagAddr).run prog w=.ok (.agg #[.pointer (some ⟨1,63,none⟩),.pointer (some p),.int .u64 386]) w:=by kernel_rfl
theorem elemVP (a p:Addr)(W:World)(ha:W.cell? a=some (.pointer (some p))):
 (ReflectliteValue.method (ReflectliteValue.valueError "reflectlite.Value.Elem" 0) ReflectliteValue.elem #[.agg #[.pointer (some ⟨1, 79, none⟩), .pointer (some a), .int .u64 150]]).run prog W
  = .ok (.agg #[.pointer (some ⟨1,63,none⟩),.pointer (some p),.int .u64 386]) W:=by
 change Sem.run _ (ReflectliteValue.parts (.agg #[.pointer (some ⟨1,79,none⟩),.pointer (some a),.int .u64 150]) >>= _) _=_
 rw[Sem.run_bind,partsP];simp only[Result.andThen];simp[ReflectliteValue.elem,loadVar,isAgg,underlying,underlying79,ha,Result.andThen,elemOfP,mkE]
theorem partsEa (a:Addr)(w:World):(ReflectliteValue.parts (.agg #[.pointer (some ⟨1,63,none⟩),.pointer (some a),.int .u64 386])).run prog w=.ok (some (63,a,386)) w:=by kernel_rfl
theorem partsE (a:Addr)(w:World):(ReflectliteValue.parts (.agg #[.pointer (some ⟨1,63,none⟩),.pointer (some a),.int .u64 130])).run prog w=.ok (some (63,a,130)) w:=by kernel_rfl
theorem directE (w:World):(Rtype.directlyAssignable 63 63).run prog w=.ok true w:=by kernel_rfl
theorem setE (ta b:Addr)(n:Int)(old:Value)(W:World)(hb:W.cell? b=some (.int i64 n))(ht:W.cell? ta=some old)(hf:W.frozen? ta=false):
 (ReflectliteValue.set #[.agg #[.pointer (some ⟨1,63,none⟩),.pointer (some ta),.int .u64 386],.agg #[.pointer (some ⟨1,63,none⟩),.pointer (some b),.int .u64 130]]).run prog W
  = .ok (.tuple #[]) (W.setCell ta (.int i64 n)):=by
 change Sem.run _ (ReflectliteValue.parts (.agg #[.pointer (some ⟨1,63,none⟩),.pointer (some ta),.int .u64 386]) >>= _) _=_
 rw[Sem.run_bind,partsEa];simp only[Result.andThen]
 change Sem.run _ (ReflectliteValue.parts (.agg #[.pointer (some ⟨1,63,none⟩),.pointer (some b),.int .u64 130]) >>= _) _=_
 rw[Sem.run_bind,partsE];simp only[Result.andThen];simp[ReflectliteValue.flagAddr,loadVar,isAgg,underlying,underlying63,hb,Result.andThen,directE,storeVar,Value.cells,storeCells,Addr.add];rw[run_store prog W ta _ _ (by rfl)];simp[ht,hf]
theorem as_hit (n:Int)(t:Addr)(old:Value)(w:World)(hg:HasErr w)(ht0:w.cell? t=some old)(hf0:w.frozen? t=false):
 Calls prog 39 #[.iface 63 (.int i64 n),.iface 79 (.pointer (some t))] w fun ev w'=>ev=.returned (.bool true)∧w'=((((w.alloc (.cells #[.pointer (some t)] 79)).alloc (.cells #[.pointer (some ⟨1,79,none⟩),.pointer (some ⟨w.heap.size,0,none⟩),.int .u64 150] 95)).alloc (.cells #[.pointer (some ⟨1,79,none⟩),.pointer (some ⟨w.heap.size,0,none⟩),.int .u64 150] 95)).alloc (.cells #[.int i64 n] 63)).setCell t (.int i64 n):=by
 unfold HasErr at hg;have h6 := @run_callFunc_extern prog 51 _ (fun args=>ReflectliteValue.unpack (args.getD 0 (.tuple #[]))) func51 (by kernel_rfl) (by kernel_rfl) (by kernel_rfl) (by kernel_rfl);have h7 := @run_callFunc_extern prog 52 _ (ReflectliteValue.methodAny (ReflectliteValue.valueError "reflectlite.Value.Type" 0) (fun t _ _ _ => ReflectliteType.toType t)) func52 (by kernel_rfl) (by kernel_rfl) (by kernel_rfl) (by kernel_rfl)
 have h8 := @run_callFunc_extern prog 53 _ (ReflectliteValue.method (ReflectliteValue.valueError "reflectlite.Value.IsNil" 0) ReflectliteValue.isNil) func53 (by kernel_rfl) (by kernel_rfl) (by kernel_rfl) (by kernel_rfl)
 have h27 := @run_callFunc_extern prog 95 _ (ReflectliteType.abiMethod fun t=>do pure (.int .u8 (←Rtype.kind t))) func95 (by kernel_rfl) (by kernel_rfl) (by kernel_rfl) (by kernel_rfl);have h37 := @run_callFunc_extern prog 105 _ (ReflectliteType.method ReflectliteType.elem) func105 (by kernel_rfl) (by kernel_rfl) (by kernel_rfl) (by kernel_rfl);have h38 := @run_callFunc_extern prog 106 _ (ReflectliteType.relation "Implements" ReflectliteType.implements_) func106 (by kernel_rfl) (by kernel_rfl) (by kernel_rfl) (by kernel_rfl)
 have h10 := @run_callFunc_extern prog 60 _ ReflectliteType.typeOf func60 (by kernel_rfl) (by kernel_rfl) (by kernel_rfl) (by kernel_rfl);have h35 := @run_callFunc_extern prog 103 _ (ReflectliteType.relation "AssignableTo" ReflectliteType.assignableTo) func103 (by kernel_rfl) (by kernel_rfl) (by kernel_rfl) (by kernel_rfl)
 have h11 := @run_callFunc_extern prog 61 _ (ReflectliteValue.method (ReflectliteValue.valueError "reflectlite.Value.Elem" 0) ReflectliteValue.elem) func61 (by kernel_rfl) (by kernel_rfl) (by kernel_rfl) (by kernel_rfl)
 have h12 := @run_callFunc_extern prog 62 _ ReflectliteValue.set func62 (by kernel_rfl) (by kernel_rfl) (by kernel_rfl) (by kernel_rfl);have tO:=typeOfE;have mA:=methAssign;have a25:=assignE;have v25:=vOfE;have f6:=vOfP;have f7:=typeP;have mK:=methKind;have mE:=methElem;have mI:=methImpl;have k27:=kindP;have k25:=kindE;have e27:=elemP;have i25:=implE;have hlt:0<w.heap.size:=bLQ _ _ hg;have htl:t.block<w.heap.size:=bLQ _ _ ht0;have n8:=isNilP ⟨w.heap.size,0,none⟩ t ((w.alloc (.cells #[.pointer (some t)] 79)).alloc (.cells #[.pointer (some ⟨1,79,none⟩),.pointer (some ⟨w.heap.size,0,none⟩),.int .u64 150] 95)) (by simp);have hg2:((w.alloc (.cells #[.pointer (some t)] 79)).alloc (.cells #[.pointer (some ⟨1,79,none⟩),.pointer (some ⟨w.heap.size,0,none⟩),.int .u64 150] 95)).cell? ⟨0,0,none⟩=some (.iface 110 (.agg #[.pointer (some ⟨1,25,none⟩)])):=by
  rw[World.cell?_alloc_lt _ _ ⟨0,0,none⟩ (by simp <;> omega),World.cell?_alloc_lt _ _ ⟨0,0,none⟩ hlt];exact hg
 have el:=elemVP ⟨w.heap.size,0,none⟩ t (((w.alloc (.cells #[.pointer (some t)] 79)).alloc (.cells #[.pointer (some ⟨1,79,none⟩),.pointer (some ⟨w.heap.size,0,none⟩),.int .u64 150] 95)).alloc (.cells #[.pointer (some ⟨1,79,none⟩),.pointer (some ⟨w.heap.size,0,none⟩),.int .u64 150] 95)) (by rw[World.cell?_alloc_lt _ _ ⟨w.heap.size,0,none⟩ (by simp;omega)];simp);have st:=setE t ⟨w.heap.size+1+1+1,0,none⟩ n old ((((w.alloc (.cells #[.pointer (some t)] 79)).alloc (.cells #[.pointer (some ⟨1,79,none⟩),.pointer (some ⟨w.heap.size,0,none⟩),.int .u64 150] 95)).alloc (.cells #[.pointer (some ⟨1,79,none⟩),.pointer (some ⟨w.heap.size,0,none⟩),.int .u64 150] 95)).alloc (.cells #[.int i64 n] 63))
  (by rw[World.cell?_alloc_at _ _ _ _ (by simp)];rfl)
  (by rw[World.cell?_alloc_lt _ _ t (by simp;omega),World.cell?_alloc_lt _ _ t (by simp;omega),World.cell?_alloc_lt _ _ t (by simp;omega),World.cell?_alloc_lt _ _ t htl];exact ht0)
  (by rw[World.frozen?_alloc_old _ _ t (by simp;omega),World.frozen?_alloc_old _ _ t (by simp;omega),World.frozen?_alloc_old _ _ t (by simp;omega),World.frozen?_alloc_old _ _ t (Nat.ne_of_lt htl)];exact hf0)
 go_enter func39,ntmps39;go_wp2;refine wp_loop_rounds 1 ?_;rw[rounds_succ];go_wp2;go_ret;exact⟨rfl,rfl⟩
theorem told_nil (w:World):
 Calls prog 21 #[.nilIface] w fun e w'=>e=.returned (.int i64 0)∧Below w.heap.size w w':=by
 go_enter func21,ntmps21;go_wp2;go_ret;exact⟨rfl,bRQ _ _⟩
theorem told_some (n:Int)(w:World)(hg:HasErr w):
 Calls prog 21 #[.iface 63 (.int i64 n)] w fun e w'=>e=.returned (.int i64 n)∧Below w.heap.size w w':=by
 have HG:Hid (HasErr w):=hg;clear hg;go_enter func21,ntmps21
 go_wp2_with fail
 refine (as_hit n _ (.int i64 0) _ (HG.out.alloc _) (by simp) (by simp)).mono ?_;rintro e w' ⟨rfl,rfl⟩;go_wp2;go_ret;refine⟨rfl,?_⟩;exact ((((((bRQ _ _).alloc (nLQ _) _).alloc (by simp) _).alloc (by simp;omega) _).alloc (by simp;omega) _).alloc (by simp;omega) _)
theorem same_nil (k:Int)(w:World):
 Calls prog 6 #[.nilIface,.int i64 k] w fun e w'=>e=.returned (.bool (0==k))∧Below w.heap.size w w':=by
 go_enter func6,ntmps6
 go_wp2_with fail
 refine (told_nil _).mono ?_;rintro e w' ⟨rfl,hb⟩;go_wp2;go_ret;exact⟨rfl,hb⟩
theorem same_some (n k:Int)(w:World)(hg:HasErr w):
 Calls prog 6 #[.iface 63 (.int i64 n),.int i64 k] w fun e w'=>e=.returned (.bool (n==k))∧Below w.heap.size w w':=by
 have HG:Hid (HasErr w):=hg;clear hg;go_enter func6,ntmps6
 go_wp2_with fail
 refine (told_some n _ HG.out).mono ?_;rintro e w' ⟨rfl,hb⟩;go_wp2;go_ret;exact⟨rfl,hb⟩
end
section
open Go.RowKit
theorem same_noV (n:Int)(w:World)(hg:HasErr w):
 Calls prog 6 #[noV n,.int i64 n] w fun e w'=>e=.returned (.bool true)∧Below w.heap.size w w':=by
 by_cases h:n=0
 ·subst h;refine (same_nil _ w).mono ?_;rintro e w' ⟨rfl,hb⟩;exact⟨by simp,hb⟩
 rw[no_ne h];refine (same_some _ _ w hg).mono ?_;rintro e w' ⟨rfl,hb⟩;exact⟨by simp,hb⟩
end
namespace driveSays
open Go.RowKit
def drI (L:List (List Op8))(T:Int)(i:Nat)(l:List Int):DrT:=⟨L,T,i,l,0⟩
theorem oi_0 {L:List (List Op8)}{T:Int}(h:rsF L T=0){i:Nat}(hi:i≤L.length):DrOK (drI L T i []) 0:=by
 have h0:=dk_new h;exact⟨h0.w,h0.L,h0.r,h0.o,hi,fun _=>rfl,List.Pairwise.nil,fun x hx=>by simp[drI] at hx,nLQ _⟩
theorem oi_tail {L:List (List Op8)}{T:Int}{i:Nat}{x:Int}{l:List Int}(h:DrOK (drI L T i (x :: l)) 0):DrOK (drI L T i l) 0:=
 ⟨h.w,h.L,h.r,h.o,h.s,fun e=>by have:=h.p e;simp[drI] at this,(List.pairwise_cons.1 h.l).2,fun y hy=>h.x y (by show y∈x :: l;exact List.mem_cons_of_mem _ hy),h.k⟩
theorem oi_drop {L:List (List Op8)}{T:Int}{i:Nat}:∀(k:Nat) (l:List Int),DrOK (drI L T i l) 0→DrOK (drI L T i (l.drop k)) 0
 | 0,l,h=>h
 | k+1,[],h=>h
 | k+1,x :: l,h=>oi_drop k l (oi_tail h)
theorem ni_next {L:List (List Op8)}{T:Int}{i:Nat}{R:List Op8}(hR:L[i]?=some R):nxN (drI L T i [])=0∧nxS (drI L T i [])=drI L T (i+1) (tcL R)∧nxA (drI L T i [])=sayL R (i:Int) (tcL R):=by
 have hi:i<L.length:=(List.getElem?_eq_some_iff.1 hR).1;have hm:mayD (drI L T i [])=true:=may_iff.2 ⟨rfl,hi⟩;have hg:L.getD i []=R:=by simp[List.getD,hR]
 have e:nxS (drI L T i [])=drI L T (i+1) (tcL R):=by
  rw[nxS,hm,if_pos rfl];show (⟨L,T,i+1,tcL (L.getD i []),0⟩:DrT)=_;rw[hg];rfl
 refine⟨by rw[nxN,hm];rfl,e,?_⟩;rw[nxA,hm,if_pos rfl,e];show sayL (L.getD (i+1-1) []) (((i+1:Nat):Int)-1) (tcL R)=_;rw[Nat.add_sub_cancel,hg]
 congr 1
 omega
theorem ni_wait {L:List (List Op8)}{T:Int}{i:Nat}{x:Int}{l:List Int}:nxN (drI L T i (x :: l))=6∧nxS (drI L T i (x :: l))=drI L T i (x :: l)∧nxA (drI L T i (x :: l))=[]:=by
 have hm:mayD (drI L T i (x :: l))=false:=by
  cases h:mayD (drI L T i (x :: l))
  ·rfl
  have:=(may_iff.1 h).1;cases this
 rw[nxN,nxS,nxA,hm];exact⟨rfl,rfl,rfl⟩
theorem hi_first {L:List (List Op8)}{T:Int}{i:Nat}{x:Int}{l:List Int}(h:DrOK (drI L T (i+1) (x :: l)) 0):
 dhN (drI L T (i+1) (x :: l)) (yesM x (i:Int))=0∧dhS (drI L T (i+1) (x :: l)) (yesM x (i:Int))=drI L T (i+1) l∧dhN (drI L T (i+1) l) (yesM x (i:Int))=6∧dhS (drI L T (i+1) l) (yesM x (i:Int))=drI L T (i+1) l:=by
 have e:(((drI L T (i+1) (x :: l)).s:Nat):Int)-1=(i:Int):=by
  show ((i+1:Nat):Int)-1=_;omega
 obtain⟨h1,h2,h3,_⟩:=hr_first h (by show 0<i+1;omega) rfl;rw[e] at h1 h2 h3;refine⟨h1,h2,h3,?_⟩;have h3':dhN (drI L T (i+1) l) (yesM x (i:Int))=6:=h3;rw[dhS,h3',if_neg (by omega)]
theorem kd_next {M:List Mg}{k:Nat}(hk:k<M.length)(z:Int):kiN (M.take (k+1)) z=kiN (M.take k) z+(if M[k].k=z then 1 else 0):=by
 rw[List.take_succ_eq_append_getElem hk,kd_app]
 congr 1
 by_cases h:M[k].k=z
 ·rw[if_pos h];simp[kiN,h]
 rw[if_neg h];simp[kiN,h]
theorem walk {Pd:DrP}(I:PdI Pd)(ao:AdQ)(n cap:Nat)(L:List (List Op8))(T:Int)(w:World)(h:RS w (.slice ao n cap) L)(hg:HasErr w):
 Calls prog 3 #[.slice ao n cap,.int i64 T] w fun e w'=>e=.returned (.bool true)∧Below w.heap.size w w':=by
 have HR:Hid (∀V,Below w.heap.size w V→RS V (.slice ao n cap) L):=fun V hV=>h.later hV
 have HG:Hid (∀W,Below w.heap.size w W→HasErr W):=fun W hb=>hg.later hb
 have HN:Hid (L.length=n):=h.len;obtain⟨E,hE⟩:∃E,E=rsF L T:=⟨_,rfl⟩;have HE:Hid (rsF L T=E):=hE.symm;clear h hg hE;go_enter func3,ntmps3
 go_wp2_with fail
 refine (I.new ao n cap L T w.heap.size _ (fun V hV=>HR.out V hV) (nLQ _)).mono ?_;rintro e w2 ⟨v,rfl,hb2,hv⟩;rw[HE.out] at hv ⊢;have HB2:Hid (Below w.heap.size w w2):=hb2;have HV:Hid (E=0→∃p O,v=.pointer (some ⟨p,0,none⟩)∧Pd w2 p w.heap.size O (dr0 L T)∧∀b,O b→w.heap.size≤b):=hv;clear hv hb2;by_cases hE0:E=0
 ·subst hE0;obtain⟨p,O,hv,hP,_⟩:=HV.out rfl;subst hv;have HP:Hid (Pd w2 p w.heap.size O (dr0 L T)):=hP;have hn20:n≤20:=by
   have:=(dk_new HE.out).L;have h2:(dr0 L T).L.length=n:=HN.out;omega
  clear hP HV;rw[show noV 0=.nilIface from rfl]
  go_wp2_with fail
  refine (I.new none 0 0 [] 0 w.heap.size _ (fun V _=>RS.nil V) HB2.out.size).mono ?_;rintro e w3 ⟨v3,rfl,hb3,_⟩;rw[show rsF [] 0=1 from rfl];have HB3:Hid (Below w.heap.size w w3):=HB2.out.trans (hb3.mono HB2.out.size);have HP3:Hid (Pd w3 p w.heap.size O (dr0 L T)):=I.kb HP.out (Kb.of_below hb3 fun b hl _=>hl);clear hb3 HP
  go_wp2_with fail
  refine (same_noV 1 _ (HG.out _ HB3.out)).mono ?_;rintro e w4 ⟨rfl,hb4⟩;have HB4:Hid (Below w.heap.size w w4):=HB3.out.trans (hb4.mono HB3.out.size);have HP4:Hid (Pd w4 p w.heap.size O (drI L T 0 [])):=I.kb HP3.out (Kb.of_below hb4 fun b hl _=>hl);clear hb4 HP3 HB3 HB2;go_wp2
  go_loopw [10] (fun i wr=>∃(k:Nat) (O:Nat→Prop),k≤n∧i=.int i64 (k:Int)∧Pd wr p w.heap.size O (drI L T k [])∧Below w.heap.size w wr) (fun i _=>n-(intOf i).toNat)
  case atStart=>exact⟨0,O,by omega,rfl,HP4.out,HB4.out⟩
  case round =>
   obtain⟨i,O1,hi,rfl,hP,hb⟩:=hrel;obtain⟨wz,hwz⟩:∃X,X=wr:=⟨_,rfl⟩;subst hwz;have HP1:Hid (Pd wz p w.heap.size O1 (drI L T i [])):=hP;have HB1:Hid (Below w.heap.size w wz):=hb;have HOI:Hid (DrOK (drI L T i []) 0):=oi_0 HE.out (by rw[HN.out];exact hi);clear hP hb HP4 HB4;by_cases hin:i<n
   ·obtain⟨g,o,R,a1,n1,c1,hao,hRs,hc1,hG1⟩:=(HR.out w (bRQ _ _)).at hin;subst hao;have HRS:Hid (L[i]?=some R):=hRs;have HC1:Hid (∀V,Below w.heap.size w V→V.cell? ⟨g,o+i,none⟩=some (.slice a1 n1 c1)):=fun V hV=>cell_later hV hc1
    have HRN:Hid (R.length=n1):=hG1.len;have hn1:n1≤200:=by
     have h1:=HOI.out.r R (List.mem_of_getElem? hRs);have:=HRN.out;omega
    have kb0:(0:Int)≤(i:Int):=by omega
    have kb1:(i:Int)<(n:Int):=by omega
    clear hRs hc1 hG1
    go_wp2_with fail
    refine (I.next _ HP1.out HOI.out (by omega)).mono ?_;obtain⟨h1,h2,h3⟩:=ni_next (T:=T) HRS.out;rw[h1,h2,h3];rintro e w5 ⟨a5,n5,c5,rfl,hg5,hn5,O5,hP5,hO5,hnO5,hk5⟩;rw[show noV 0=.nilIface from rfl];have HB5:Hid (Below w.heap.size w w5):=HB1.out.trans (hk5.below HB1.out.size fun b hb hc=>by have:=(I.lt HP1.out b hc).1;omega);have HP5:Hid (Pd w5 p w.heap.size O5 (drI L T (i+1) (tcL R))):=hP5;have HOI5:Hid (DrOK (drI L T (i+1) (tcL R)) 0):=by
     have h4:=dk_nx HOI.out;rw[h2] at h4;exact⟨h4.w,h4.L,h4.r,h4.o,h4.s,h4.p,h4.l,h4.x,nLQ _⟩
    obtain⟨M,hM⟩:∃M,M=sayL R (i:Int) (tcL R):=⟨_,rfl⟩;rw[←hM] at hg5;have HM:Hid (∀m∈M,(m.k=1∨m.k=2)∧m.r=(i:Int)):=by rw[hM];exact say_kind _ _ _
    have HK1:Hid (kiN M 1=R.length∧kiN M 2=(tcL R).length):=by rw[hM];exact kd_tc _ _
    obtain⟨_,_,_,e5,hMn,hMm,_,hMa⟩:=hg5.form;cases e5;have HMN:Hid (M.length=n5):=hMn;have HMA:Hid (0<n5→∃g o,a5=some ⟨g,o,none⟩∧GAt msgE w5 g o M):=fun h=>by
     obtain⟨g,o,e1,e2,_⟩:=hMa h;exact⟨g,o,e1,e2⟩
    have hn5b:n5≤1206:=by
     have e1:=say_len R (i:Int) (tcL R);have e2:=HOI5.out.six;have e3:(drI L T (i+1) (tcL R)).l=tcL R:=rfl;rw[e3] at e2;have e4:(tcL R).length*(R.length+1)≤6*201:=Nat.mul_le_mul e2 (by have:=HRN.out;omega);have e6:M.length=n5:=hMn;rw[hM] at e6;omega
    clear hg5 hn5 hP5 hO5 hnO5 hk5 h1 h2 h3 hM hMn hMm hMa HP1;go_wp2
    go_loopw [13,14,15] (fun u v i wr=>∃k:Nat,k≤n5∧i=.int i64 (k:Int)∧u=.int i64 (kiN (M.take k) 1:Nat)∧v=.int i64 (kiN (M.take k) 2:Nat)∧wr=w5) (fun _ _ i _=>n5-(intOf i).toNat)
    case atStart=>exact⟨0,by omega,rfl,rfl,rfl,rfl⟩
    case round =>
     obtain⟨k,hk,rfl,rfl,rfl,hw0⟩:=hrel;have hw1:=hw0.symm;subst hw1;clear hw0;by_cases hkn:k<n5
     ·obtain⟨gm,om,hae,hGA⟩:=HMA.out (by omega);subst hae;obtain⟨x0,x1,x2,x3,x4,x5,x6,x7,x8,x9,x10,x11,hkl,hMk,q0,q1,q2,q3,q4,q5,q6,q7,q8,q9,q10,q11⟩:=msg_at hGA HMN.out hkn;have hmem:=HM.out M[k] (List.getElem_mem hkl);rw[hMk] at hmem;have HN1:Hid (kiN (M.take (k+1)) 1=kiN (M.take k) 1+(if x0=1 then 1 else 0)):=by
       show _=_;rw[kd_next hkl,hMk]
      have HN2:Hid (kiN (M.take (k+1)) 2=kiN (M.take k) 2+(if x0=2 then 1 else 0)):=by
       show _=_;rw[kd_next hkl,hMk]
      have hle1:kiN (M.take k) 1≤1206:=by
       have e1:kiN (M.take k) 1≤(M.take k).length:=List.countP_le_length;rw[List.length_take] at e1;omega
      have hle2:kiN (M.take k) 2≤1206:=by
       have e1:kiN (M.take k) 2≤(M.take k).length:=List.countP_le_length;rw[List.length_take] at e1;omega
      obtain⟨c1',hc1'⟩:∃c,c=kiN (M.take k) 1:=⟨_,rfl⟩;obtain⟨c2',hc2'⟩:∃c,c=kiN (M.take k) 2:=⟨_,rfl⟩;rw[←hc1'] at HN1 hle1 ⊢;rw[←hc2'] at HN2 hle2 ⊢;obtain⟨hm1,hm2⟩:=hmem;obtain rfl:x2=(i:Int):=hm2;have jb0:(0:Int)≤(k:Int):=by omega
      have jb1:(k:Int)<(n5:Int):=by omega
      clear hGA hMk hc1' hc2'
      rcases hm1 with hm1 | hm1
      ·obtain rfl:x0=1:=hm1;have HN3:Hid (kiN (M.take (k+1)) 1=c1'+1∧kiN (M.take (k+1)) 2=c2'):=⟨by rw[HN1.out];rfl,by rw[HN2.out];rfl⟩;go_wp2;go_roundw
       case rel=>exact⟨k+1,by omega,by go_num,by rw[HN3.out.1];go_num,by rw[HN3.out.2],by first | rfl | trivial⟩
       case measure=>simp[intOf];omega
      obtain rfl:x0=2:=hm1;have HN3:Hid (kiN (M.take (k+1)) 1=c1'∧kiN (M.take (k+1)) 2=c2'+1):=⟨by rw[HN1.out];rfl,by rw[HN2.out];rfl⟩;go_wp2;go_roundw
      case rel=>exact⟨k+1,by omega,by go_num,by rw[HN3.out.1],by rw[HN3.out.2];go_num,by first | rfl | trivial⟩
      case measure=>simp[intOf];omega
     obtain rfl:k=n5:=by omega
     have hall:M.take k=M:=by rw[←HMN.out];exact List.take_length
     rw[hall,HK1.out.1,HK1.out.2];obtain⟨l0,hl0⟩:∃l0,l0=tcL R:=⟨_,rfl⟩;rw[←hl0] at HP5 HOI5 ⊢;clear hl0 hall HMA HM HK1
     go_wp2_with fail
     refine (I.left _ HP5.out HOI5.out (by omega)).mono ?_;rintro e w6 ⟨a6,n6,c6,rfl,hg6,hn6,hb6⟩;have HB6:Hid (Below w.heap.size w w6):=HB5.out.trans (hb6.mono HB5.out.size);have HP6:Hid (Pd w6 p w.heap.size O5 (drI L T (i+1) l0)):=I.kb HP5.out (Kb.of_below hb6 fun b hl _=>hl);have HG6:Hid (GS inE w6 (.slice a6 n6 c6) l0):=hg6;have HL6:Hid (l0.length=n6):=hg6.len;have HX6:Hid (∀ad,a6=some ad→¬O5 ad.block):=fun ad ha h=>by
      have h1:=hn6 ad ha;have h2:=(I.lt HP5.out _ h).2;omega
     have hc:=HC1.out w6 HB6.out;have hRn:=HRN.out;rw[hRn];rw[show l0.length=n6 from HL6.out];clear hg6 hn6 hb6 HP5 hRn;go_upto_region 29 with fail;clear hc;go_wp2
     go_loopw [17] (fun q wr=>∃(k:Nat) (O6:Nat→Prop),k≤n6∧q=.int i64 (k:Int)∧Pd wr p w.heap.size O6 (drI L T (i+1) (l0.drop k))∧GS inE wr (.slice a6 n6 c6) l0∧(∀ad,a6=some ad→¬O6 ad.block)∧Below w.heap.size w wr) (fun q _=>n6-(intOf q).toNat)
     case atStart=>exact⟨0,O5,by omega,rfl,HP6.out,HG6.out,HX6.out,HB6.out⟩
     case round =>
      obtain⟨j,O6,hj,rfl,hP,hG,hX,hb⟩:=hrel;obtain⟨wy,hwy⟩:∃X,X=wr:=⟨_,rfl⟩;subst hwy;have HP:Hid (Pd wy p w.heap.size O6 (drI L T (i+1) (l0.drop j))):=hP;have HG7:Hid (GS inE wy (.slice a6 n6 c6) l0):=hG;have HX:Hid (∀ad,a6=some ad→¬O6 ad.block):=hX;have HB:Hid (Below w.heap.size w wy):=hb;have hn6:n6≤6:=by
       have h1:=HOI5.out.six;have h2:=HL6.out;have h3:(drI L T (i+1) l0).l=l0:=rfl;rw[h3] at h1;omega
      clear hP hG hX hb HP6 HG6 HX6 HB6;by_cases hjn:j<n6
      ·have hjl:j<l0.length:=by rw[HL6.out];exact hjn
       obtain⟨x,hx⟩:∃x,x=l0[j]:=⟨_,rfl⟩;have hdr:l0.drop j=x :: l0.drop (j+1):=by rw[List.drop_eq_getElem_cons hjl,hx]
       have HXE:Hid (x=l0[j]):=hx;have HOJ:Hid (DrOK (drI L T (i+1) (x :: l0.drop (j+1))) 0):=by
        show DrOK _ _;rw[←hdr];exact oi_drop j l0 HOI5.out
       have HOK:Hid (DrOK (drI L T (i+1) (l0.drop (j+1))) 0):=oi_tail HOJ.out;rw[hdr] at HP;obtain⟨_,_,_,e6,_,_,_,h6a⟩:=HG7.out.form;cases e6;obtain⟨g6,o6,hae,hG6,_⟩:=h6a (by omega);subst hae;have HX6:Hid (¬O6 g6):=HX.out _ rfl;have HXL:Hid (g6<wy.heap.size):=bLQ _ _ (hG6 0 (by omega) 0 _ rfl);have HGA:Hid (GAt inE wy g6 o6 l0):=hG6;have HG0:Hid (n6≤c6∧c6≤maxLen):=by
        obtain⟨_,_,_,e,_,_,h7,h8⟩:=HG7.out.form;cases e;obtain⟨_,_,_,_,h9⟩:=h8 (by omega);exact⟨h7,h9⟩
       have jb0:(0:Int)≤(j:Int):=by omega
       have jb1:(j:Int)<(n6:Int):=by omega
       clear hdr hG6 h6a HX HG7 hx
       go_wp2_with fail
       refine (I.next _ HP.out HOJ.out (by omega)).mono ?_;obtain⟨h1,h2,h3⟩:=ni_wait (L:=L) (T:=T) (i:=i+1) (x:=x) (l:=l0.drop (j+1));rw[h1,h2,h3];rintro e w7 ⟨a7,n7,c7,rfl,_,_,O7,hP7,hO7,_,hk7⟩;have HP7:Hid (Pd w7 p w.heap.size O7 (drI L T (i+1) (x :: l0.drop (j+1)))):=hP7;have HGA7:Hid (GAt inE w7 g6 o6 l0):=fun i hi j u hu=>hk7.at (HGA.out i hi j u hu) HX6.out
       have HX7:Hid (¬O7 g6∧g6<w7.heap.size):=⟨fun h=>by
        rcases hO7 _ h with h1 | h1
        ·exact HX6.out h1
        have:=HXL.out;omega,Nat.lt_of_lt_of_le HXL.out hk7.size⟩
       have HB7:Hid (Below w.heap.size w w7):=HB.out.trans (hk7.below HB.out.size fun b hb hc=>by have:=(I.lt HP.out b hc).1;omega);clear h1 h2 h3 hP7 hO7 hk7 HP HGA HX6 HXL HB
       go_wp2_with fail
       refine (same_noV 6 _ (HG.out _ HB7.out)).mono ?_;rintro e w8 ⟨rfl,hb8⟩;have HP8:Hid (Pd w8 p w.heap.size O7 (drI L T (i+1) (x :: l0.drop (j+1)))):=I.kb HP7.out (Kb.of_below hb8 fun b hl _=>hl);have HGA8:Hid (GAt inE w8 g6 o6 l0):=HGA7.out.later hb8;have HX8:Hid (¬O7 g6∧g6<w8.heap.size):=⟨HX7.out.1,Nat.lt_of_lt_of_le HX7.out.2 hb8.size⟩;have HB8:Hid (Below w.heap.size w w8):=HB7.out.trans (hb8.mono HB7.out.size);obtain⟨x',hjl',hx',y0⟩:=in_at HGA8.out HL6.out hjn;obtain rfl:x=x':=by rw[HXE.out,hx']
       clear hb8 HP7 HGA7 HX7 HB7 hjl' hx'
       go_wp2_with fail
       refine (I.hear 3 x (i:Int) 0 0 false 0 0 0 0 0 0 _ HP8.out HOJ.out (by omega)).mono ?_;obtain⟨h1,h2,h3,h4⟩:=hi_first HOJ.out;rw[show dhN (drI L T (i+1) (x :: l0.drop (j+1))) ⟨3,x,(i:Int),0,⟨0,false,⟨0,0,0,0,0,0⟩⟩⟩=0 from h1,show dhS (drI L T (i+1) (x :: l0.drop (j+1))) ⟨3,x,(i:Int),0,⟨0,false,⟨0,0,0,0,0,0⟩⟩⟩=drI L T (i+1) (l0.drop (j+1)) from h2];have HD6:Hid (dhN (drI L T (i+1) (l0.drop (j+1))) ⟨3,x,(i:Int),0,⟨0,false,⟨0,0,0,0,0,0⟩⟩⟩=6∧dhS (drI L T (i+1) (l0.drop (j+1))) ⟨3,x,(i:Int),0,⟨0,false,⟨0,0,0,0,0,0⟩⟩⟩=drI L T (i+1) (l0.drop (j+1))):=⟨h3,h4⟩;rintro e w9 ⟨rfl,O9,hP9,hO9,hk9⟩;rw[show noV 0=.nilIface from rfl];have HP9:Hid (Pd w9 p w.heap.size O9 (drI L T (i+1) (l0.drop (j+1)))):=hP9;have HGA9:Hid (GAt inE w9 g6 o6 l0):=fun i hi j u hu=>hk9.at (HGA8.out i hi j u hu) HX8.out.1
       have HX9:Hid (¬O9 g6∧g6<w9.heap.size):=⟨fun h=>by
        rcases hO9 _ h with h1 | h1
        ·exact HX8.out.1 h1
        have:=HX8.out.2;omega,Nat.lt_of_lt_of_le HX8.out.2 hk9.size⟩
       have HB9:Hid (Below w.heap.size w w9):=HB8.out.trans (hk9.below HB8.out.size fun b hb hc=>by have:=(I.lt HP8.out b hc).1;omega);obtain⟨x',hjl',hx',y1⟩:=in_at HGA9.out HL6.out hjn;obtain rfl:x=x':=by rw[HXE.out,hx']
       clear h1 h2 h3 h4 hP9 hO9 hk9 hjl' hx' y0 HP8 HGA8 HX8 HB8
       go_wp2_with fail
       refine (I.hear 3 x (i:Int) 0 0 false 0 0 0 0 0 0 _ HP9.out HOK.out (by omega)).mono ?_;rw[HD6.out.1,HD6.out.2];rintro e w10 ⟨rfl,O10,hP10,hO10,hk10⟩;have HP10:Hid (Pd w10 p w.heap.size O10 (drI L T (i+1) (l0.drop (j+1)))):=hP10;have HGA10:Hid (GAt inE w10 g6 o6 l0):=fun i hi j u hu=>hk10.at (HGA9.out i hi j u hu) HX9.out.1
       have HX10:Hid (¬O10 g6∧g6<w10.heap.size):=⟨fun h=>by
        rcases hO10 _ h with h1 | h1
        ·exact HX9.out.1 h1
        have:=HX9.out.2;omega,Nat.lt_of_lt_of_le HX9.out.2 hk10.size⟩
       have HB10:Hid (Below w.heap.size w w10):=HB9.out.trans (hk10.below HB9.out.size fun b hb hc=>by have:=(I.lt HP9.out b hc).1;omega);clear hP10 hO10 hk10 y1 HP9 HGA9 HX9 HB9
       go_wp2_with fail
       refine (same_noV 6 _ (HG.out _ HB10.out)).mono ?_;rintro e w11 ⟨rfl,hb11⟩;have HP11:Hid (Pd w11 p w.heap.size O10 (drI L T (i+1) (l0.drop (j+1)))):=I.kb HP10.out (Kb.of_below hb11 fun b hl _=>hl);have HGA11:Hid (GS inE w11 (.slice (some ⟨g6,o6,none⟩) n6 c6) l0):=by
        have h5:GAt inE w11 g6 o6 l0:=HGA10.out.later hb11;have h6:=HG0.out;obtain⟨h7,h8⟩:=h6;exact .inr ⟨g6,o6,c6,by rw[HL6.out],by rw[HL6.out];exact h7,h8,h5⟩
       have HB11:Hid (Below w.heap.size w w11):=HB10.out.trans (hb11.mono HB10.out.size);clear hb11 HP10 HGA10 HB10;go_wp2;go_roundw
       case rel=>exact⟨j+1,O10,by omega,by go_num,HP11.out,HGA11.out,fun ad ha=>by cases ha;exact HX10.out.1,HB11.out⟩
       case measure=>simp[intOf];omega
      obtain rfl:j=n6:=by omega
      have HPE:Hid (Pd wy p w.heap.size O6 (drI L T (i+1) [])):=by
       have h1:=HP.out;rw[←HL6.out,List.drop_length] at h1;exact h1
      go_wp2;go_roundw
      case rel=>exact⟨i+1,O6,by omega,by go_num,HPE.out,HB.out⟩
      case measure=>simp[intOf];omega
   obtain rfl:i=n:=by omega
   have HDN:Hid (doneD (drI L T i [])=true):=by
    show (true&&(i==L.length))=true;rw[HN.out];simp
   go_wp2_with fail
   refine (I.done _ HP1.out HOI.out (by omega)).mono ?_;rw[HDN.out];rintro e w5 ⟨rfl,hb5⟩;have HP5:Hid (Pd w5 p w.heap.size O1 (drI L T i [])):=I.kb HP1.out (Kb.of_below hb5 fun b hl _=>hl);have HB5:Hid (Below w.heap.size w w5):=HB1.out.trans (hb5.mono HB1.out.size);clear hb5 HP1 HB1
   go_wp2_with fail
   refine (I.round _ HP5.out HOI.out (by omega)).mono ?_;rintro e w6 ⟨rfl,hb6⟩;rw[show (drI L T i []).s=i from rfl];have HB6:Hid (Below w.heap.size w w6):=HB5.out.trans (hb6.mono HB5.out.size);clear hb6;go_wp2;go_ret;exact⟨by simp,HB6.out⟩
 rw[no_ne hE0];go_wp2;go_ret;exact⟨rfl,HB2.out⟩
end driveSays
section
open Go.RowKit
theorem gnn_refl (w:World):w.grownBy w none:=⟨rfl,rfl,rfl,nLQ _,fun _ _ _=>rfl⟩
theorem below_grown {B:Nat}{w W:World}{row:Option Nat}(h:w.grownBy W row)(hB:B≤w.heap.size)(hr:∀k,row=some k→B≤k):Below B w W:=
 ⟨h.os,h.tape,h.output,h.size,fun k hk=>h.block k (by omega) (fun e=>by have:=hr k e.symm;omega)⟩
theorem step_append_blk {P:Program}{α:Type}{E:Enc α}(w:World){ops:Array Oper}{o:Oper}{a:Act}{K:Act→World→Prop}{Q:Exit→Act→World→Prop}{X:Prop}(hgd:o.guard=none)(s x:Operand)(t e:TypeId)
 (ho:o.op=.call { callee:=.builtin .append,args:=#[s,x],argTypes:=#[t,t] }) (ht:P.underlying t=some (.slice e)) (i:TypeInfo) (z:Value) (bytes:Nat) (hi:P.info? e=some i) (hz:i.zero=some z)
 (hsize:i.size=E.n) (hby:i.bytes=bytes) (hzs:z.cells.size=E.n) (base:Nat)
 (v:Value) (hs:a.eval s=v) (L:List α) (hown:w.ownsRow base e E.n v L.length (cellsG E L)) (g q c:Nat) (hx:a.eval x=.slice (some ⟨g,q,none⟩) 1 c) (y:α) (hM:VAt w g q (E.c y))
 (h63:L.length+1≤maxLen) (hbytes:(L.length+1)*bytes≤140737488355328) (hbase:base≤w.heap.size)
 (h:∀v' w',w'.ownsRow base e E.n v' (L++[y]).length (cellsG E (L++[y]))→w.grownBy w' v.ownBlock→v'.ownBlock=v.ownBlock∨v'.ownBlock=some w.heap.size→K (a.put o.dst v') w'):
 if Region.wanted o (yielded ops a.tmps)=true then Oper.wp P o a w K Q else X:=by
 have hw:Region.wanted o (yielded ops a.tmps)=true:=by simp[Region.wanted,hgd]
 rw[if_pos hw];have hG:GAt E w g q [y]:=by
  intro k hk;obtain rfl:k=0:=by simp at hk;omega
  simpa using hM
 have hc:=hG.cells;rw[cellsG_one] at hc;have hl:(E.c y).length=1*E.n:=by rw[E.len];omega
 obtain⟨v',w',hr,h2,h3,_⟩:=run_append_own (P:=P) w base t o.type e i z E.n bytes ht hi hz hsize hby hzs E.pos v _ _ hown ⟨g,q,none⟩ 1 c (E.c y) hl hc (E.one y) h63 hbytes hbase;have hb:=run_append_blk (P:=P) t o.type e i z ht hi hz v _ _ (by rw[hsize];exact hown) ⟨g,q,none⟩ c (E.c y) (by rw[hsize];exact hl) hc (E.one y) h63 (by rw[hby];exact hbytes) hr;unfold Oper.wp execOp;simp only[ho,resolve,invoke,builtin,Sem.run_bind,Sem.run_pure,Result.andThen_ok,List.map_toArray,List.map_cons,List.map_nil,hs,hx,hr];exact h v' w' (by rw[List.length_append,cellsG_app,cellsG_one];exact h2) h3 hb
section
variable {e1 e2:TypeId}{w W1 W1' W2 W2' Wf:World}{B:Nat}{v u v' u':Value}{vs us:List SlT}{Cs Ps:List (List Int)}
end
section
variable {W W':World}{p B0:Nat}{O:Nat→Prop}{D:DrT}{xr xl:SlT}
theorem set_size (W:World)(q:Addr)(v:Value):(W.setCell q v).heap.size=W.heap.size:=by simp[World.setCell]
end
theorem own_form {w:World}{B e size n:Nat}{v:Value}{xs:List Value}(h:w.ownsRow B e size v n xs):∃ao cap,v=.slice ao n cap:=by
 rcases h.2 with ⟨rfl,rfl⟩ | ⟨g,cap,cur,rfl,_⟩
 ·exact⟨none,0,rfl⟩
 exact⟨_,cap,rfl⟩
structure PdC (W:World)(p B0:Nat)(O:Nat→Prop)(D:DrT)(xr:SlT)(vd:Value)(t B1 M:Nat):Prop where
 c0:W.cell? ⟨p,0,none⟩=some (slV xr)
 c1:W.cell? ⟨p,1,none⟩=some (.int i64 D.W)
 c2:W.cell? ⟨p,2,none⟩=some (.int i64 (D.s:Int))
 c3:W.cell? ⟨p,3,none⟩=some vd
 c4:W.cell? ⟨p,4,none⟩=some (.int i64 (t:Int))
 f:∀i,W.frozen? ⟨p,i,none⟩=false
 r:∀V,Kb (fun b=>B1≤b∧b<M) W V→RS V (slV xr) D.L
 pB:p<B1∧B1≤M∧M≤W.heap.size
 rO:∀b,B1≤b→b<M→O b
 l:W.ownsRow M 3 inE.n vd D.l.length (cellsG inE D.l)
 lO:∀b,vd.ownBlock=some b→O b
 pO:O p
 lt:∀b,O b→B0≤b∧b<W.heap.size
section
variable {W W':World}{p B0:Nat}{O:Nat→Prop}{D:DrT}{xr:SlT}{vd:Value}{t B1 M:Nat}
theorem PdC.pl (h:PdC W p B0 O D xr vd t B1 M):p<W.heap.size:=(h.lt p h.pO).2
theorem PdC.kb (h:PdC W p B0 O D xr vd t B1 M)(hk:Kb (fun b=>b<B0∨O b) W W'):PdC W' p B0 O D xr vd t B1 M:=by
 have hp:(p<B0∨O p):=.inr h.pO;have hb:Kb (fun b=>B1≤b∧b<M) W W':=hk.mono fun b _ hb=>.inr (h.rO b hb.1 hb.2)
 exact⟨hk.at h.c0 hp,hk.at h.c1 hp,hk.at h.c2 hp,hk.at h.c3 hp,hk.at h.c4 hp,fun i=>(hk.frozen (q:=⟨p,i,none⟩) h.pl hp).trans (h.f i),fun V hV=>h.r V (hb.trans hV),⟨h.pB.1,h.pB.2.1,Nat.le_trans h.pB.2.2 hk.size⟩,h.rO,own_kb h.l hk fun b hb=>.inr (h.lO b hb),h.lO,h.pO,fun b hb=>⟨(h.lt b hb).1,Nat.lt_of_lt_of_le (h.lt b hb).2 hk.size⟩⟩
theorem PdC.later (h:PdC W p B0 O D xr vd t B1 M)(hb:Below W.heap.size W W'):PdC W' p B0 O D xr vd t B1 M:=h.kb (Kb.of_below hb fun b hl _=>hl)
theorem PdC.rest (h:PdC W p B0 O D xr vd t B1 M)(i:Nat)(v:Value):(∀V,Kb (fun b=>B1≤b∧b<M) (W.setCell ⟨p,i,none⟩ v) V→RS V (slV xr) D.L)∧(W.setCell ⟨p,i,none⟩ v).ownsRow M 3 inE.n vd D.l.length (cellsG inE D.l)∧(∀j,(W.setCell ⟨p,i,none⟩ v).frozen? ⟨p,j,none⟩=false)∧(W.setCell ⟨p,i,none⟩ v).heap.size=W.heap.size:=by
 have hpB:=h.pB;have hk:Kb (fun b=>b≠p) W (W.setCell ⟨p,i,none⟩ v):=(Kb.refl _ W).setCell (q:=⟨p,i,none⟩) (fun _ h=>h rfl) v;refine⟨fun V hV=>h.r V ((hk.mono fun b _ hb=>?_).trans hV),own_kb h.l hk fun b hb=>?_,fun j=>?_,set_size _ _ _⟩
 ·have:=hb.1;omega
 ·have:=(h.l.lt b hb).1;omega
 rw[World.frozen?_setCell];exact h.f j
theorem cl_off {W:World}{p i j:Nat}{u:Value}(h:W.cell? ⟨p,i,none⟩=some u)(hij:j≠i)(v:Value):(W.setCell ⟨p,j,none⟩ v).cell? ⟨p,i,none⟩=some u:=by
 rw[World.cell?_setCell_other _ _ _ _ (by intro e;cases e;exact hij rfl)];exact h
theorem PdC.set2 (h:PdC W p B0 O D xr vd t B1 M)(s:Nat):PdC (W.setCell ⟨p,2,none⟩ (.int i64 (s:Int))) p B0 O { D with s:=s } xr vd t B1 M:=by
 obtain⟨h1,h2,h3,h4⟩:=h.rest 2 (.int i64 (s:Int));exact⟨cl_off h.c0 (by omega) _,cl_off h.c1 (by omega) _,World.cell?_setCell_same _ _ _ h.c2,cl_off h.c3 (by omega) _,cl_off h.c4 (by omega) _,h3,h1,by rw[h4];exact h.pB,h.rO,h2,h.lO,h.pO,fun b hb=>by rw[h4];exact h.lt b hb⟩
theorem PdC.set4 (h:PdC W p B0 O D xr vd t B1 M)(t' k:Nat):PdC (W.setCell ⟨p,4,none⟩ (.int i64 (t':Int))) p B0 O { D with k:=k } xr vd t' B1 M:=by
 obtain⟨h1,h2,h3,h4⟩:=h.rest 4 (.int i64 (t':Int));exact⟨cl_off h.c0 (by omega) _,cl_off h.c1 (by omega) _,cl_off h.c2 (by omega) _,cl_off h.c3 (by omega) _,World.cell?_setCell_same _ _ _ h.c4,h3,h1,by rw[h4];exact h.pB,h.rO,h2,h.lO,h.pO,fun b hb=>by rw[h4];exact h.lt b hb⟩
theorem PdC.set3 (h:PdC W p B0 O D xr vd t B1 M){v':Value}{l':List Int}(hy:W.ownsRow M 3 inE.n v' l'.length (cellsG inE l'))(hB:B0≤M):
 PdC (W.setCell ⟨p,3,none⟩ v') p B0 (fun b=>O b∨v'.ownBlock=some b) { D with l:=l' } xr v' t B1 M:=by
 have hpB:=h.pB;obtain⟨h1,h2,h3,h4⟩:=h.rest 3 v';have hy2:(W.setCell ⟨p,3,none⟩ v').ownsRow M 3 inE.n v' l'.length (cellsG inE l'):=own_kb hy ((Kb.refl (fun b=>b≠p) W).setCell (q:=⟨p,3,none⟩) (fun _ h=>h rfl) v') fun b hb=>by
  have:=(hy.lt b hb).1;omega
 refine⟨cl_off h.c0 (by omega) _,cl_off h.c1 (by omega) _,cl_off h.c2 (by omega) _,World.cell?_setCell_same _ _ _ h.c3,cl_off h.c4 (by omega) _,h3,h1,by rw[h4];exact h.pB,fun b h1 h2=>.inl (h.rO b h1 h2),hy2,fun b hb=>.inr hb,.inl h.pO,fun b hb=>?_⟩;rw[h4]
 rcases hb with hb | hb
 ·exact h.lt b hb
 have:=hy.lt b hb;omega
theorem PdC.low (h:PdC W p B0 O D xr vd t B1 M):B0≤M:=by
 have h1:=(h.lt p h.pO).1;have h2:=h.pB;omega
theorem PdC.gl (h:PdC W p B0 O D xr vd t B1 M):GS inE W vd D.l:=own_GS h.l
end
def TwOK (D:DrT)(t:Nat):Prop:=(t:Int)<D.W∧(D.l=[]∨(t:Int)=(D.k:Int) % D.W)
def Pd:DrP:=fun W p B0 O D=>∃xr vd t B1 M,PdC W p B0 O D xr vd t B1 M∧TwOK D t
theorem Pd.kb {W W':World}{p B0:Nat}{O:Nat→Prop}{D:DrT}(h:Pd W p B0 O D)(hk:Kb (fun b=>b<B0∨O b) W W'):Pd W' p B0 O D:=by
 obtain⟨xr,vd,t,B1,M,h,h2⟩:=h;exact⟨xr,vd,t,B1,M,h.kb hk,h2⟩
theorem Pd.lt {W:World}{p B0:Nat}{O:Nat→Prop}{D:DrT}(h:Pd W p B0 O D):∀b,O b→B0≤b∧b<W.heap.size:=by
 obtain⟨xr,vd,t,B1,M,h,_⟩:=h;exact h.lt
theorem rds_at {L:List (List Op8)}{i:Nat}(hi:i<L.length):rdF (L.drop i)=(if osF L[i]=0 then rdF (L.drop (i+1)) else osF L[i]):=by
 rw[List.drop_eq_getElem_cons hi];rfl
theorem oss_at {r:List Op8}{j:Nat}(hj:j<r.length):osF (r.drop j)=(if opF r[j]=0 then osF (r.drop (j+1)) else opF r[j]):=by
 rw[List.drop_eq_getElem_cons hj];rfl
theorem dcheckOp_any (x0:Int)(x1:Bool)(x2 x3 x4 x5 x6 x7:Int)(w:World):
 Calls prog 37 #[.agg #[.int i64 x0,.bool x1,.int i64 x2,.int i64 x3,.int i64 x4,.int i64 x5,.int i64 x6,.int i64 x7]] w fun e w'=>e=.returned (noV (opF ⟨x0,x1,⟨x2,x3,x4,x5,x6,x7⟩⟩))∧Below w.heap.size w w':=by
 obtain⟨Z,hZ⟩:∃Z,Z=opF ⟨x0,x1,⟨x2,x3,x4,x5,x6,x7⟩⟩:=⟨_,rfl⟩;have HZ:Hid (Z=if 1≤x0∧x0≤6 then ruN x2 x3 x4 x5 x6 x7 else 1):=hZ;rw[←hZ];obtain⟨wa,hwa⟩:∃V,V=w.alloc (.cells #[.int i64 x0,.bool x1,.int i64 x2,.int i64 x3,.int i64 x4,.int i64 x5,.int i64 x6,.int i64 x7] 37):=⟨_,rfl⟩;have HWA:Hid (w.alloc (.cells #[.int i64 x0,.bool x1,.int i64 x2,.int i64 x3,.int i64 x4,.int i64 x5,.int i64 x6,.int i64 x7] 37)=wa):=hwa.symm;have hc:=op_new w x0 x1 x2 x3 x4 x5 x6 x7 37;have hba:Below w.heap.size w (w.alloc (.cells #[.int i64 x0,.bool x1,.int i64 x2,.int i64 x3,.int i64 x4,.int i64 x5,.int i64 x6,.int i64 x7] 37)):=(bRQ _ _).alloc (nLQ _) _;rw[←hwa] at hc hba;have HC:Hid (VAt wa w.heap.size 0 (opE.c ⟨x0,x1,⟨x2,x3,x4,x5,x6,x7⟩⟩)):=hc;have HBA:Hid (Below w.heap.size w wa):=hba;obtain⟨r0,r1,r2,r3,r4,r5,r6,r7⟩:=op_cells hc;simp only[Nat.zero_add] at r0 r1 r2 r3 r4 r5 r6 r7;clear hZ hwa hc hba r1 r2 r3 r4 r5 r6 r7;go_enter func37,ntmps37;go_upto_region 1 with fail;rw[HWA.out];clear HWA
 go_wp2_with fail
 refine (isSwitch_any 6 x0 _).mono ?_;rintro e w1 ⟨rfl,hb1⟩;obtain⟨s0,s1,s2,s3,s4,s5,s6,s7⟩:=op_cells (HC.out.later (w':=w1) (hb1.mono (nLQ _)));simp only[Nat.zero_add] at s0 s1 s2 s3 s4 s5 s6 s7;have HB1:Hid (Below w.heap.size w w1):=HBA.out.trans (hb1.mono HBA.out.size);clear hb1 r0 s0 s1;cases hsw:swB 6 x0 with
 | false =>
   have HN:Hid (Z=1):=by
    show _=_;rw[HZ.out,if_neg (fun h=>by rw[sw_of.2 h] at hsw;cases hsw)]
   clear hsw;go_wp2;go_ret;exact⟨by rw[HN.out];rfl,HB1.out⟩
 | true =>
   have HN:Hid (ruN x2 x3 x4 x5 x6 x7=Z):=by
    show _=_;rw[HZ.out,if_pos (sw_of.1 hsw)]
   clear hsw
   go_wp2_with fail
   refine (ruCheck_any x2 x3 x4 x5 x6 x7 _).mono ?_;rintro e w2 ⟨rfl,hb2⟩;rw[HN.out];have HB2:Hid (Below w.heap.size w w2):=HB1.out.trans (hb2.mono HB1.out.size);clear hb2 s2 s3 s4 s5 s6 s7;go_wp2;go_ret;exact⟨rfl,HB2.out⟩
theorem tooLong_any (ao:AdQ)(n cap:Nat)(w:World):
 Calls prog 35 #[.slice ao n cap] w fun e w'=>e=.returned (.bool (decide (200<n)))∧Below w.heap.size w w':=by
 by_cases h:(n:Int) > 200
 ·have e:decide (200<n)=true:=decide_eq_true (by omega);rw[e];go_enter func35,ntmps35;go_wp2;go_ret;exact⟨rfl,bRQ _ _⟩
 have e:decide (200<n)=false:=decide_eq_false (by omega);rw[e];go_enter func35,ntmps35;go_wp2;go_ret;exact⟨rfl,bRQ _ _⟩
theorem enters_long:∀args w,(callFunc 35 args).run prog w=.ok (.enter 35 args) w:=enters_of func35 (by kernel_rfl) rfl
def longB (r:List Op8):Bool:=decide (200<r.length)
def rdAsks (f:FuncId):Prop:=∀(ao:AdQ) (n cap:Nat) (w:World),Calls prog f #[.slice ao n cap] w fun e w'=>e=.returned (.bool (decide (200<n)))∧Below w.heap.size w w'
theorem rd_idxF (ao:AdQ)(n cap:Nat)(f:FuncId)(L:List (List Op8))(w:World)(hs:RS w (.slice ao n cap) L)(he:∀args w,(callFunc f args).run prog w=.ok (.enter f args) w)(hf:rdAsks f):
 Calls prog 48 #[.slice ao n cap,.func (Fn.func f) #[] #[]] w fun e w'=>e=.returned (.int i64 (ixG longB L))∧Below w.heap.size w w':=by
 have HN:Hid (L.length=n):=hs.len;have HR:Hid (∀V,Below w.heap.size w V→RS V (.slice ao n cap) L):=fun V hV=>hs.later hV
 have HF:Hid (rdAsks f):=hf;have hn2:n≤maxLen:=by
  obtain⟨_,_,_,e,h1,h2,_⟩:=hs.form;cases e;exact h2
 unfold maxLen at hn2;clear hf hs;go_enter func48,ntmps48;go_wp2
 go_loopw [8] (fun i wr=>∃k:Nat,k≤n∧i=.int i64 k∧(L.take k).any longB=false∧Below w.heap.size w wr)
  (fun i _=>n-(intOf i).toNat)
 case atStart=>exact⟨0,by omega,rfl,by simp,bRQ _ _⟩
 case round =>
  obtain⟨k,hk,rfl,hno,hB⟩:=hrel;have HB:Hid (Below w.heap.size w wr):=hB;have HNO:Hid ((L.take k).any longB=false):=hno;clear hno;by_cases hlt:k<n
  ·obtain⟨g,o,R,a1,n1,c1,hao,hRs,hc,hG⟩:=(HR.out wr HB.out).at hlt;subst hao;have hkl:k<L.length:=by rw[HN.out];exact hlt
   have hLk:L[k]=R:=by
    have:=List.getElem?_eq_getElem hkl;rw[this] at hRs;cases hRs;rfl
   have HP:Hid (longB L[k]=decide (200<n1)):=show _=_ by rw[hLk,longB,hG.len]
   have kb0:(0:Int)≤(k:Int):=by omega
   have kb1:(k:Int)<(n:Int):=by omega
   clear hB hLk hRs hG;cases ho:decide (200<n1)
   ·go_wp2_with fail
    refine (HF.out a1 n1 c1 _).mono ?_;rintro e w1 ⟨rfl,hb1⟩;rw[ho];have HB1:=HB.out.trans (hb1.mono HB.out.size);have HP2:Hid (longB L[k]=false):=show _=_ by rw[HP.out,ho]
    clear hb1 hc ho HP;go_wp2;go_roundw
    case rel=>exact⟨k+1,by omega,by go_num,any_nextG hkl HNO.out HP2.out,HB1⟩
    case measure=>simp[intOf];omega
   go_wp2_with fail
   refine (HF.out a1 n1 c1 _).mono ?_;rintro e w1 ⟨rfl,hb1⟩;rw[ho];have HP2:Hid (longB L[k]=true):=show _=_ by rw[HP.out,ho]
   clear hc ho HP;go_wp2;go_ret;exact⟨by rw[ixG_hit hkl HNO.out HP2.out];rfl,HB.out.trans (hb1.mono HB.out.size)⟩
  obtain rfl:k=n:=by omega
  go_wp2;go_ret;exact⟨by have:=HNO.out;rw[←HN.out,List.take_length] at this;rw[ixG_no this];rfl,HB.out⟩
theorem rd_hasF (ao:AdQ)(n cap:Nat)(f:FuncId)(L:List (List Op8))(w:World)(hs:RS w (.slice ao n cap) L)(he:∀args w,(callFunc f args).run prog w=.ok (.enter f args) w)(hf:rdAsks f):
 Calls prog 36 #[.slice ao n cap,.func (Fn.func f) #[] #[]] w fun e w'=>e=.returned (.bool (L.any longB))∧Below w.heap.size w w':=by
 rw[←ixG_any];obtain⟨x,hx⟩:∃x,x=ixG longB L:=⟨_,rfl⟩;have HX:Hid (x=ixG longB L):=hx;rw[←hx];clear hx;go_enter func36,ntmps36
 go_wp2_with fail
 refine (rd_idxF ao n cap f L _ hs he hf).mono ?_;rintro e w1 ⟨rfl,hb1⟩;rw[←HX.out];go_wp2;go_ret;exact⟨rfl,hb1⟩
theorem few_long (L:List (List Op8)):fewB L = !(L.any longB):=by
 induction L with
 | nil=>rfl
 | cons r L ih =>
   simp only[fewB,List.all_cons,List.any_cons,longB] at ih ⊢;rw[ih,Bool.not_or]
   congr 1
   by_cases h:r.length≤200
   ·rw[decide_eq_true h,decide_eq_false (by omega)];rfl
   rw[decide_eq_false h,decide_eq_true (by omega)];rfl
theorem pdcheck_any (ao:AdQ)(n cap:Nat)(L:List (List Op8))(T:Int)(w:World)(h:RS w (.slice ao n cap) L):
 Calls prog 19 #[.slice ao n cap,.int i64 T] w fun e w'=>e=.returned (noV (rsF L T))∧Below w.heap.size w w':=by
 have HN:Hid (L.length=n):=h.len;have HR:Hid (∀V,Below w.heap.size w V→RS V (.slice ao n cap) L):=fun V hV=>h.later hV
 have hnm:n≤maxLen:=by
  obtain⟨_,_,_,e,h1,h2,_⟩:=h.form;cases e;exact h2
 unfold maxLen at hnm;obtain⟨Z,hZ⟩:∃Z,Z=rsF L T:=⟨_,rfl⟩;have HZ:Hid (Z=rsF L T):=hZ;rw[←hZ];clear h hZ;go_enter func19,ntmps19;by_cases hT:T<1
 ·have HF:Hid (Z=1):=by
   show _=_;rw[HZ.out,rsF,if_neg (by omega)]
  go_wp2;go_ret;exact⟨by rw[HF.out];rfl,bRQ _ _⟩
 by_cases hT2:T > 100
 ·have HF:Hid (Z=1):=by
   show _=_;rw[HZ.out,rsF,if_neg (by omega)]
  go_wp2;go_ret;exact⟨by rw[HF.out];rfl,bRQ _ _⟩
 by_cases hn20:(n:Int) > 20
 ·have HF:Hid (Z=4):=by
   show _=_;have:=HN.out;rw[HZ.out,rsF,if_pos (by omega),if_neg (by omega)]
  go_wp2;go_ret;exact⟨by rw[HF.out];rfl,bRQ _ _⟩
 have HZ2:Hid (Z=if L.any longB=true then 4 else rdF L):=by
  show _=_;have:=HN.out;rw[HZ.out,rsF,if_pos (by omega),few_long];cases hf:L.any longB
  ·rw[if_pos ⟨by omega,rfl⟩];rfl
  rw[if_neg (fun h=>by cases h.2)];rfl
 go_wp2_with fail
 refine (rd_hasF ao n cap _ L _ (HR.out _ (bRQ _ _)) enters_long tooLong_any).mono ?_;rintro e w1 ⟨rfl,hb1⟩;have HB1:Hid (Below w.heap.size w w1):=hb1;clear hb1;cases hlo:L.any longB with
 | true =>
   have HF:Hid (Z=4):=by
    show _=_;rw[HZ2.out,hlo];rfl
   clear hlo;go_wp2;go_ret;exact⟨by rw[HF.out];rfl,HB1.out⟩
 | false =>
   have HZ3:Hid (Z=rdF L):=by
    show _=_;rw[HZ2.out,hlo];rfl
   clear hlo HZ2 HZ;go_wp2
   go_loopw [29] (fun i wr=>∃q:Nat,q≤n∧i=.int i64 (q:Int)∧Z=rdF (L.drop q)∧Below w.heap.size w wr) (fun i _=>n-(intOf i).toNat)
   case atStart=>exact⟨0,by omega,rfl,HZ3.out,HB1.out⟩
   case round =>
    obtain⟨q,hq,rfl,hz,hb⟩:=hrel;obtain⟨wz,hwz⟩:∃X,X=wr:=⟨_,rfl⟩;subst hwz;have HZ4:Hid (Z=rdF (L.drop q)):=hz;have HB4:Hid (Below w.heap.size w wz):=hb;clear hz hb HZ3 HB1;by_cases hqk:q<n
    ·obtain⟨g,o,R,a1,n1,c1,hao,hRs,hc,hG⟩:=(HR.out wz HB4.out).at hqk;subst hao;have hkl:q<L.length:=by rw[HN.out];exact hqk
     have hLk:L[q]=R:=by
      have:=List.getElem?_eq_getElem hkl;rw[this] at hRs;cases hRs;rfl
     have HR1:Hid (R.length=n1):=hG.len;have hn1:n1≤maxLen:=by
      obtain⟨_,_,_,e,h1,h2,_⟩:=hG.form;cases e;exact h2
     unfold maxLen at hn1;have HZ5:Hid (Z=if osF R=0 then rdF (L.drop (q+1)) else osF R):=by
      show _=_;rw[HZ4.out,rds_at hkl,hLk]
     have HC:Hid (∀V,Below w.heap.size w V→GS opE V (.slice a1 n1 c1) R):=fun V hV=>by
      obtain⟨g',o',R',a1',n1',c1',hao',hRs',hc',hG'⟩:=(HR.out wz HB4.out).at hqk;obtain⟨g2,o2,R2,a2,n2,c2,hao2,hRs2,hc2,hG2⟩:=(HR.out w (bRQ _ _)).at hqk;cases hao2;have e1:=cell_later HB4.out hc2;rw[hc] at e1;cases e1;rw[hRs] at hRs2;cases hRs2;exact hG2.later hV
     have kb0:(0:Int)≤(q:Int):=by omega
     have kb1:(q:Int)<(n:Int):=by omega
     clear hG hRs hLk HZ4;go_wp2;clear hc
     go_loopw [35] (fun i wr=>∃j:Nat,j≤n1∧i=.int i64 (j:Int)∧osF R=osF (R.drop j)∧Below w.heap.size w wr) (fun i _=>n1-(intOf i).toNat)
     case atStart=>exact⟨0,by omega,rfl,rfl,HB4.out⟩
     case round =>
      obtain⟨j,hj,rfl,ho,hb⟩:=hrel;obtain⟨wu,hwu⟩:∃X,X=wr:=⟨_,rfl⟩;subst hwu;have HO:Hid (osF R=osF (R.drop j)):=ho;have HBW:Hid (Below w.heap.size w wu):=hb;have hG:=HC.out wu hb;clear ho hb;by_cases hjn:j<n1
      ·obtain⟨_,_,_,e,_,_,_,ha⟩:=hG.form;cases e;obtain⟨go,oo,ha1,hGo,_⟩:=ha (by omega);subst ha1;obtain⟨x0,x1,x2,x3,x4,x5,x6,x7,hjl,hLj,q0,q1,q2,q3,q4,q5,q6,q7⟩:=op_at hGo HR1.out hjn;obtain⟨E,hE⟩:∃E,E=opF ⟨x0,x1,⟨x2,x3,x4,x5,x6,x7⟩⟩:=⟨_,rfl⟩;have HE:Hid (opF ⟨x0,x1,⟨x2,x3,x4,x5,x6,x7⟩⟩=E):=hE.symm;have HO2:Hid (osF R=if E=0 then osF (R.drop (j+1)) else E):=by
        show _=_;rw[HO.out,oss_at hjl,hLj,←hE]
       have jb0:(0:Int)≤(j:Int):=by omega
       have jb1:(j:Int)<(n1:Int):=by omega
       obtain⟨wa,hwa⟩:∃V,V=wu.alloc (.cells #[.int i64 x0,.bool x1,.int i64 x2,.int i64 x3,.int i64 x4,.int i64 x5,.int i64 x6,.int i64 x7] 37):=⟨_,rfl⟩;have hc:=op_new wu x0 x1 x2 x3 x4 x5 x6 x7 37;have hba:Below wu.heap.size wu (wu.alloc (.cells #[.int i64 x0,.bool x1,.int i64 x2,.int i64 x3,.int i64 x4,.int i64 x5,.int i64 x6,.int i64 x7] 37)):=(bRQ _ _).alloc (nLQ _) _;rw[←hwa] at hc hba;obtain⟨r0,r1,r2,r3,r4,r5,r6,r7⟩:=op_cells hc;simp only[Nat.zero_add] at r0 r1 r2 r3 r4 r5 r6 r7;have HBA:Hid (Below w.heap.size w wa):=HBW.out.trans (hba.mono HBW.out.size);have HWA:Hid (wu.alloc (.cells #[.int i64 x0,.bool x1,.int i64 x2,.int i64 x3,.int i64 x4,.int i64 x5,.int i64 x6,.int i64 x7] 37)=wa):=hwa.symm;clear hGo hG ha hLj HO hE hwa hc hba;go_upto_region 12 with fail;rw[HWA.out];clear HWA q0 q1 q2 q3 q4 q5 q6 q7
       go_wp2_with fail
       refine (dcheckOp_any x0 x1 x2 x3 x4 x5 x6 x7 _).mono ?_;rintro e w5 ⟨rfl,hb5⟩;rw[HE.out];have HB7:Hid (Below w.heap.size w w5):=HBA.out.trans (hb5.mono HBA.out.size);clear hb5 r0 r1 r2 r3 r4 r5 r6 r7;by_cases hE0:E=0
       ·have HO3:Hid (osF R=osF (R.drop (j+1))):=by
         show _=_;rw[HO2.out,if_pos hE0]
        rw[no_ok hE0];clear hE0;go_wp2;go_roundw
        case rel=>exact⟨j+1,by omega,by go_num,HO3.out,HB7.out⟩
        case measure=>simp[intOf];omega
       have HZE:Hid (Z=E):=by
        show _=_;have e:osF R=E:=by rw[HO2.out,if_neg hE0]
        rw[HZ5.out,e,if_neg hE0]
       rw[no_ne hE0];go_wp2;go_ret;exact⟨by rw[HZE.out,no_ne hE0];rfl,HB7.out⟩
      obtain rfl:j=n1:=by omega
      have HE:Hid (Z=rdF (L.drop (q+1))):=by
       show _=_;rw[HZ5.out,HO.out,←HR1.out,List.drop_length];rfl
      go_wp2;go_roundw
      case rel=>exact⟨q+1,by omega,by go_num,HE.out,HBW.out⟩
      case measure=>simp[intOf];omega
    obtain rfl:q=n:=by omega
    have HE:Hid (Z=0):=by
     show _=_;rw[HZ4.out,←HN.out,List.drop_length];rfl
    go_wp2;go_ret;exact⟨by rw[HE.out];rfl,HB4.out⟩
theorem op_grow_nil (n:Nat)(w:World)(hn:n≤1000):
 Calls prog 38 #[.slice none 0 0,.int i64 n] w fun e w'=>∃v,e=.returned v∧w'.ownsRow w.heap.size 37 8 v 0 []∧Below w.heap.size w w':=by
 have h1:¬((n:Int)<0):=by omega
 by_cases h0:n=0
 ·subst h0;go_enter func38,ntmps38;go_wp2;go_ret;exact⟨_,rfl,World.ownsRow_nil _ _ _ _,bRQ _ _⟩
 obtain⟨i0,hi,hz0,hz1,hz2⟩:=info_parts op_info;have h3:wrap64 ((n:Int)-0)=(n:Int):=by unfold wrap64;omega
 have h4:(n:Int) > 0:=by omega
 have hrz:∀ty,(Builtin.append_ #[43,3] ty #[.slice none 0 0,.int i64 n]).run prog w =
  .ok (.slice (some ⟨w.heap.size,0,none⟩) n (grownCap w n 0 37)) (w.drew.alloc (.cells (Builtin.zeroCells (Value.agg #[.int i64 0,.bool false,.int i64 0,.int i64 0,.int i64 0,.int i64 0,.int i64 0,.int i64 0]).cells n++Builtin.zeroCells (Value.agg #[.int i64 0,.bool false,.int i64 0,.int i64 0,.int i64 0,.int i64 0,.int i64 0,.int i64 0]).cells (grownCap w n 0 37-n)) 37)):=fun ty =>
  Lib.run_append_nil_zeros w 43 3 ty 37 i0 _ .i64 .i64 underlying43 underlying3 hi hz0 n (by omega) (by rw[hz1];decide) (by omega) (by rw[hz2];omega)
 have hGn:n≤grownCap w n 0 37:=grownCap_ge w _ _ _;have hGm:grownCap w n 0 37≤maxLen:=grownCap_le_maxLen w n 0 37 (by unfold maxLen;omega)
 generalize grownCap w n 0 37=G at *
 have HM:Hid (G≤maxLen):=hGm;have hG63:G≤9223372036854775807:=by unfold maxLen at hGm;omega
 have HO:Hid ((w.drew.alloc (.cells (Builtin.zeroCells (Value.agg #[.int i64 0,.bool false,.int i64 0,.int i64 0,.int i64 0,.int i64 0,.int i64 0,.int i64 0]).cells n++Builtin.zeroCells (Value.agg #[.int i64 0,.bool false,.int i64 0,.int i64 0,.int i64 0,.int i64 0,.int i64 0,.int i64 0]).cells (G-n)) 37)).ownsRow w.heap.size 37 8 (.slice (some ⟨w.heap.size,0,none⟩) 0 G) 0 []):=
  World.ownsRow_made w.drew _ G (nLQ _) HM.out (by
   simp only[Array.size_append,size_zeroCells,op_zero,←Nat.add_mul]
   congr 1
   omega)
 clear hGm;go_enter func38,ntmps38
 go_wp2_with (at_builtin;refine Lib.wpList_append_run _ rfl _ _ _ _ rfl _ _ rfl rfl _ _ (hrz _) ?_)
 all_goals (go_ret;exact⟨_,rfl,HO.out,((bRQ _ _).drew).alloc (nLQ _) _⟩)
def opPt (w:World)(g o:Nat)(Ls:List (List Op8)):Prop:=∀i (h:i<Ls.length),∃ao n cap,w.cell? ⟨g,o+i,none⟩=some (.slice ao n cap)∧GS opE w (.slice ao n cap) Ls[i]
theorem opPt.later {w w':World}{g o:Nat}{Ls:List (List Op8)}(h:opPt w g o Ls)(hb:Below w.heap.size w w'):opPt w' g o Ls:=fun i hi=>by
 obtain⟨ao,n,cap,h1,h2⟩:=h i hi;exact⟨ao,n,cap,cell_later hb h1,h2.later hb⟩
theorem op_flat_next {Ls:List (List Op8)}{k:Nat}(hk:k<Ls.length):(Ls.take (k+1)).flatten=(Ls.take k).flatten++Ls[k]:=by
 rw[List.take_succ_eq_append_getElem hk];simp only[List.flatten_append,List.flatten_cons,List.flatten_nil,List.append_nil]
theorem op_flat_le {Ls:List (List Op8)}(k:Nat):(Ls.take k).flatten.length≤Ls.flatten.length:=by
 have:Ls.flatten=(Ls.take k).flatten++(Ls.drop k).flatten:=by rw[←List.flatten_append,List.take_append_drop]
 rw[this,List.length_append];omega
theorem op_append (w:World){ops:Array Oper}{rest:List Oper}{o:Oper}{a:Act}{Q:Exit→Act→World→Prop}(hgd:o.guard=none)(s x:Operand)(t:TypeId)
 (ho:o.op=.call { callee:=.builtin .append,args:=#[s,x],argTypes:=#[t,t] }) (ht:Tryd.prog.underlying t=some (.slice 37)) (base:Nat)
 (v:Value) (hs:a.eval s=v) (L:List Op8) (hown:w.ownsRow base 37 8 v L.length (cellsG opE L)) (u:Value) (hx:a.eval x=u) (M:List Op8) (hM:GS opE w u M)
 (h100:L.length+M.length≤1000000) (hbase:base≤w.heap.size)
 (h:∀v' w',w'.ownsRow base 37 8 v' (L++M).length (cellsG opE (L++M))→w.grownBy w' v.ownBlock→wpList prog ops Q rest (a.put o.dst v') w'):wpList prog ops Q (o :: rest) a w:=by
 obtain⟨i0,hi,hz0,hz1,hz2⟩:=info_parts op_info;exact wpList_append_GS (E:=opE) w hgd s x t 37 ho ht i0 _ 64 hi hz0 hz1 hz2 op_zero base v hs L hown u hx M hM (by unfold maxLen;omega) (by omega) hbase h
theorem op_concat (g o m cap:Nat)(Ls:List (List Op8))(w:World)(hm:Ls.length=m)(hm2:m≤1000)(hc:opPt w g o Ls)(hs:Ls.flatten.length≤1000):
 Calls prog 20 #[.slice (some ⟨g,o,none⟩) m cap] w fun e w'=>∃v,e=.returned v∧w'.ownsRow w.heap.size 37 8 v Ls.flatten.length (cellsG opE Ls.flatten)∧Below w.heap.size w w':=by
 have HM:Hid (Ls.length=m):=hm;have HC:Hid (opPt w g o Ls):=hc;have HS:Hid (Ls.flatten.length≤1000):=hs;obtain⟨N,hN⟩:∃N,N=Ls.flatten.length:=⟨_,rfl⟩;have HN:Hid (N=Ls.flatten.length):=hN;have hN2:N≤1000:=by omega
 clear hm hc hs hN;go_enter func20,ntmps20
 go_upto_block 0 with fail
 go_cut [3] from 3 (fun z w'=>z=.int i64 (N:Int)∧w'=w)
 case first =>
  go_wp2
  go_loopw [3,11] (fun z i wr=>∃k:Nat,k≤m∧i=.int i64 k∧z=.int i64 ((Ls.take k).flatten.length:Int)∧wr=w) (fun _ i _=>m-(intOf i).toNat)
  case atStart=>exact⟨0,by omega,rfl,rfl,rfl⟩
  case round =>
   obtain⟨k,hk,rfl,rfl,rfl⟩:=hrel;by_cases hlt:k<m
   ·have hkl:k<Ls.length:=by rw[HM.out];exact hlt
    obtain⟨ao,n,cap2,q0,hsr⟩:=HC.out k hkl;have HT:Hid ((Ls.take (k+1)).flatten.length=(Ls.take k).flatten.length+n):=by
     show _=_;rw[op_flat_next hkl,List.length_append,hsr.len]
    have hb1:(Ls.take k).flatten.length+n≤1000:=by
     have h1:=op_flat_le (Ls:=Ls) (k+1);have h2:=HS.out;have h3:=HT.out;omega
    generalize (Ls.take k).flatten.length=z at *
    clear hsr;go_wp2;go_roundw
    case rel=>exact⟨k+1,by omega,by go_num,by rw[HT.out];go_num,by simp⟩
    case measure=>simp[intOf];omega
   obtain rfl:k=m:=by omega
   go_wp2_with fail
   go_meet
   case rel=>exact⟨by rw[←HM.out,List.take_length,HN.out],rfl⟩
 case rest =>
  obtain⟨rfl,rfl⟩:=hcut
  go_wp2_with fail
  refine (op_grow_nil N _ hN2).mono ?_;rintro e w1 ⟨v,rfl,hown,hB⟩;have HO:Hid (w1.ownsRow wc.heap.size 37 8 v 0 []):=hown;have HB:Hid (Below wc.heap.size wc w1):=hB;clear hown hB;go_wp2
  go_loopw [6,27] (fun u i wr=>∃k:Nat,k≤m∧i=.int i64 k∧wr.ownsRow wc.heap.size 37 8 u (Ls.take k).flatten.length (cellsG opE (Ls.take k).flatten)∧Below wc.heap.size wc wr) (fun _ i _=>m-(intOf i).toNat)
  case atStart=>exact⟨0,by omega,rfl,HO.out,HB.out⟩
  case round =>
   obtain⟨k,hk,rfl,hown,hB⟩:=hrel;have HOW:Hid (wr.ownsRow wc.heap.size 37 8 u6 (Ls.take k).flatten.length (cellsG opE (Ls.take k).flatten)):=hown;have HBW:Hid (Below wc.heap.size wc wr):=hB;clear hown;by_cases hlt:k<m
   ·have hkl:k<Ls.length:=by rw[HM.out];exact hlt
    obtain⟨ao,n,cap2,q0,hsr⟩:=(HC.out.later hB) k hkl;have HSR:Hid (GS opE wr (.slice ao n cap2) Ls[k]):=hsr;have HL1:Hid ((Ls.take k).flatten.length+Ls[k].length≤1000000):=by
     have h1:=op_flat_le (Ls:=Ls) (k+1);rw[op_flat_next hkl,List.length_append] at h1;have h2:=HS.out;show _≤_;omega
    clear hsr hB
    go_wp2_with (at_builtin;refine op_append _ rfl _ _ 43 rfl underlying43 wc.heap.size _ rfl _ HOW.out _ rfl _ HSR.out HL1.out HBW.out.size ?_)
    intro v' w3 hown3 hgrow;have HO5:Hid (w3.ownsRow wc.heap.size 37 8 v' (Ls.take (k+1)).flatten.length (cellsG opE (Ls.take (k+1)).flatten)):=by
     show w3.ownsRow _ _ _ _ _ _;rw[op_flat_next hkl,show ((Ls.take k).flatten++Ls[k]).length=(List.take k (List.map List.length Ls)).sum+Ls[k].length by simp];exact hown3
    have HB5:Hid (Below wc.heap.size wc w3):=HBW.out.grown hgrow HBW.out.size (fun g hg=>(HOW.out.lt g hg).1);clear hown3 hgrow q0;go_wp2;go_roundw
    case rel=>exact⟨k+1,by omega,by go_num,HO5.out,HB5.out⟩
    case measure=>simp[intOf];omega
   obtain rfl:k=m:=by omega
   go_wp2;go_ret;refine⟨_,rfl,?_,HBW.out⟩;have:=HOW.out;rw[←HM.out,List.take_length] at this;exact this
theorem infoByte:(Tryd.prog.info? 5).map (fun i=>(i.zero,i.size,i.bytes))=some (some (.int .u8 0),1,1):=by kernel_rfl
def HC (w:World)(B:Nat)(S S':Int)(a1 a2 b1 b2:Value)(g o:Nat)(x0:ByteArray)(x1 x2:Int)(g' o':Nat)(y0:ByteArray)(y1 y2:Int)(w':World):Prop:=
 Below w.heap.size w w'∧TBox w' B S a1 a2∧TBox w' (B+1) S' b1 b2∧(w'.cell? ⟨g,o,none⟩=some (.string x0)∧w'.cell? ⟨g,o+1,none⟩=some (.int i64 x1)∧w'.cell? ⟨g,o+2,none⟩=some (.int i64 x2)) ∧
  w'.cell? ⟨g',o',none⟩=some (.string y0)∧w'.cell? ⟨g',o'+1,none⟩=some (.int i64 y1)∧w'.cell? ⟨g',o'+2,none⟩=some (.int i64 y2)
theorem HC.later {w W W':World}{B:Nat}{S S':Int}{a1 a2 b1 b2:Value}{g o:Nat}{x0:ByteArray}{x1 x2:Int}{g' o':Nat}{y0:ByteArray}{y1 y2:Int}(hb:Below W.heap.size W W')(h:HC w B S S' a1 a2 b1 b2 g o x0 x1 x2 g' o' y0 y1 y2 W):HC w B S S' a1 a2 b1 b2 g o x0 x1 x2 g' o' y0 y1 y2 W':=by
 obtain⟨h0,t1,t2,⟨h1,h2,h3⟩,k1,k2,k3⟩:=h;exact⟨h0.trans (hb.mono h0.size),t1.later hb,t2.later hb,⟨cell_later hb h1,cell_later hb h2,cell_later hb h3⟩,cell_later hb k1,cell_later hb k2,cell_later hb k3⟩
theorem run_clear_of (w w':World)(t e ty:TypeId)(ht:Tryd.prog.underlying t=some (.slice e))(b o n c:Nat)(hn:0<n)(z:Value)(hv:∀w,(zeroValue e).run prog w=.ok z w)(Z:List Value)
 (hZ:(Builtin.zeroCells z.cells n).toList=Z) (hst:(storeCells ⟨b,o,none⟩ Z 0).run prog w=.ok () w'):(Builtin.clear_ #[t] ty #[.slice (some ⟨b,o,none⟩) n c]).run prog w=.ok (.tuple #[]) w':=by
 obtain⟨m,rfl⟩:∃m,n=m+1:=⟨n-1,by omega⟩;simp[Builtin.clear_,run_underlying ht,hv,hZ,hst]
section
variable {W W':World}{g:Nat}{S:Int}{v1 v2 v3:Value}
end
section
variable {W W':World}{B:Nat}{S:Int}{v1 v2 v3:Value}{s:Int}{u1 u2 u3:Value}
end
theorem falloc {w w':World}{o:Obj}(hb:Below (w.drew.alloc o).heap.size (w.drew.alloc o) w'):Below w.heap.size w w':=((Below.drew (bRQ _ _)).alloc (nLQ _) o).trans (hb.mono (by simp))
theorem vat_sl {W:World}{g q:Nat}{y:SlT}(h:W.cell? ⟨g,q,none⟩=some (slV y)):VAt W g q (slE.c y):=by
 intro j u hu;obtain rfl:j=0:=by
  have:=(List.getElem?_eq_some_iff.1 hu).1;have e:(slE.c y).length=1:=rfl;omega
 have e4:slV y=u:=Option.some.inj hu;rw[Nat.add_zero,←e4];exact h
theorem froz_later {W W':World}{g:Nat}{a:Value}(h:∀i,W.frozen? ⟨g,i,none⟩=false)(hc:W.cell? ⟨g,1,none⟩=some a)(hb:Below W.heap.size W W'):∀i,W'.frozen? ⟨g,i,none⟩=false:=fun i =>
 (World.frozen?_of_block (hb.block g (bLQ _ _ hc))).trans (h i)
theorem froz_grown {w w':World}{row:Option Nat}{b i:Nat}(hg:w.grownBy w' row)(hl:b<w.heap.size)(hne:some b≠row):w'.frozen? ⟨b,i,none⟩=w.frozen? ⟨b,i,none⟩:=
 World.frozen?_of_block (hg.block b hl hne)
structure NwB (W:World)(p:Nat)(T:Int)(v:Value)(vs:List SlT)(Rs:List (List Op8)):Prop where
 c0:W.cell? ⟨p,0,none⟩=some v
 c1:W.cell? ⟨p,1,none⟩=some (.int i64 T)
 c2:W.cell? ⟨p,2,none⟩=some (.int i64 0)
 c3:W.cell? ⟨p,3,none⟩=some (.slice none 0 0)
 c4:W.cell? ⟨p,4,none⟩=some (.int i64 0)
 f:∀i,W.frozen? ⟨p,i,none⟩=false
 o:OR W (p+1) v vs Rs
 n:∀x∈vs,∀ad,x.1=some ad→p+1≤ad.block
section
variable {W W1 W2:World}{p:Nat}{T:Int}{v:Value}{vs:List SlT}{Rs:List (List Op8)}
theorem NwB.lt (h:NwB W p T v vs Rs):p<W.heap.size:=bLQ W ⟨p,1,none⟩ h.c1
theorem NwB.later (h:NwB W p T v vs Rs)(hb:Below W.heap.size W W1):NwB W1 p T v vs Rs:=
 ⟨cell_later hb h.c0,cell_later hb h.c1,cell_later hb h.c2,cell_later hb h.c3,cell_later hb h.c4,froz_later h.f h.c1 hb,h.o.later hb,h.n⟩
theorem nwb_new (W:World)(T:Int)(t:TypeId):NwB (W.alloc (.cells #[.slice none 0 0,.int i64 T,.int i64 0,.slice none 0 0,.int i64 0] t)) W.heap.size T (.slice none 0 0) [] []:=by
 have hv:=vat_new W [.slice none 0 0,.int i64 T,.int i64 0,.slice none 0 0,.int i64 0] t;have h0:=hv 0 _ rfl;have h1:=hv 1 _ rfl;have h2:=hv 2 _ rfl;have h3:=hv 3 _ rfl;have h4:=hv 4 _ rfl;rw[Nat.zero_add] at h0 h1 h2 h3 h4;exact⟨h0,h1,h2,h3,h4,fun i=>by simp,or_nil _ _,fun x hx=>by cases hx⟩
theorem NwB.push (h:NwB W p T v vs Rs)(hb:Below W.heap.size W W1){x:SlT}{L:List Op8}(hx:GS opE W1 (slV x) L)(hn:∀ad,x.1=some ad→W.heap.size≤ad.block){v':Value}(hg:W1.grownBy W2 v.ownBlock)
 (ho:W2.ownsRow (p+1) 43 slE.n v' (vs++[x]).length (cellsG slE (vs++[x]))) (hv:v'.ownBlock=v.ownBlock∨v'.ownBlock=some W1.heap.size):NwB (W2.setCell ⟨p,0,none⟩ v') p T v' (vs++[x]) (Rs++[L]):=by
 have h1:=h.later hb;have hpl:=h.lt;have hne:∀b,v.ownBlock=some b→b≠p:=fun b e=>by have:=(h.o.ov.lt b e).1;omega
 have hox:∀b,v.ownBlock=some b→offB x b:=fun b e=>.inr fun ad ha=>by
  have:=hn ad ha;have:=(h.o.ov.lt b e).2;omega
 have hcp:∀i u,W1.cell? ⟨p,i,none⟩=some u→W2.cell? ⟨p,i,none⟩=some u:=fun i u hc=>hg.cell hc fun e=>hne p e.symm rfl
 have h2:=h1.o.push hx hox hg ho hv;have hnn:∀y∈vs++[x],∀ad,y.1=some ad→p+1≤ad.block:=by
  intro y hy ad ha
  rcases List.mem_append.1 hy with hy | hy
  ·exact h.n y hy ad ha
  rw[List.mem_singleton] at hy;subst hy;have:=hn ad ha;omega
 have hps:p<W1.heap.size:=Nat.lt_of_lt_of_le hpl hb.size;refine⟨World.cell?_setCell_same _ _ _ (hcp 0 _ h1.c0),cl_off (hcp 1 _ h1.c1) (by omega) _,cl_off (hcp 2 _ h1.c2) (by omega) _,cl_off (hcp 3 _ h1.c3) (by omega) _,cl_off (hcp 4 _ h1.c4) (by omega) _,fun i=>?_,?_,hnn⟩
 ·rw[World.frozen?_setCell];exact (froz_grown hg hps (fun e=>hne p e.symm rfl)).trans (h1.f i)
 refine⟨h2.ov.kept (grown_set _ _ _ _) (.inr fun e=>?_),h2.lv,fun i y M h3 h4=>?_⟩
 ·have:=(h2.ov.lt p e).1;omega
 obtain⟨h5,h6⟩:=h2.rv i y M h3 h4;refine⟨h5.grown (grown_set _ _ _ _) fun b e=>?_,h6⟩;cases e;exact .inr fun ad ha=>by
  have:=hnn y (List.mem_of_getElem? h3) ad ha;omega
theorem NwB.pd (h:NwB W p T v vs Rs){B0:Nat}(hB:B0≤p)(hT:1≤T):Pd W p B0 (fun b=>p≤b∧b<W.heap.size) (dr0 Rs T):=by
 obtain⟨x,hx⟩:∃x:SlT,v=slV x:=by
  obtain⟨ao,cap,e⟩:=own_form h.o.ov;exact⟨(ao,vs.length,cap),e⟩
 have hpl:=h.lt;subst hx;refine⟨x,.slice none 0 0,0,p+1,W.heap.size,⟨h.c0,h.c1,h.c2,h.c3,h.c4,h.f,fun V hV=>?_,⟨by omega,by omega,by omega⟩,fun b h1 h2=>⟨by omega,h2⟩,World.ownsRow_nil _ _ _ _,(fun b e=>by cases e),⟨nLQ _,hpl⟩,fun b hb=>⟨Nat.le_trans hB hb.1,hb.2⟩⟩,⟨?_,.inl rfl⟩⟩
 ·refine⟨vs,?_,h.o.lv,fun i y M h1 h2=>?_⟩
  ·refine own_GS (own_kb h.o.ov hV fun b hb=>?_);have:=h.o.ov.lt b hb;omega
  have h3:=(h.o.rv i y M h1 h2).1;obtain⟨ya,yn,yc⟩:=y
  rcases h3 with ⟨ao',cap',e,rfl⟩ | ⟨g,o,cap',e,h4,h5,h6⟩
  ·exact .inl ⟨ao',cap',e,rfl⟩
  by_cases h0:M=[]
  ·subst h0;cases e;exact .inl ⟨_,_,rfl,rfl⟩
  have hg:g<W.heap.size:=by
   have hl:0<M.length:=List.length_pos_iff.2 h0;have hc:=h6 0 hl 0 _ rfl;exact bLQ W _ hc
  have hn:=h.n _ (List.mem_of_getElem? h1);cases e;refine .inr ⟨g,o,yc,rfl,h4,h5,fun i hi j u hu=>hV.at (h6 i hi j u hu) ⟨?_,hg⟩⟩;exact hn ⟨g,o,none⟩ rfl
 show ((0:Nat):Int)<T;omega
end
theorem op_pt1 {W:World}{a1:AdQ}{n1 c1:Nat}{L1:List Op8}(t:TypeId)(h1:GS opE W (.slice a1 n1 c1) L1):opPt (W.alloc (.cells #[.slice a1 n1 c1] t)) W.heap.size 0 [L1]:=by
 have hb:Below W.heap.size W (W.alloc (.cells #[.slice a1 n1 c1] t)):=(bRQ _ _).alloc (nLQ _) _;intro i hi
 match i,hi with
 | 0,_=>exact⟨a1,n1,c1,by simp,h1.later hb⟩
theorem rs_zero {L:List (List Op8)}{T:Int}(h:rsF L T=0):1≤T∧L.length≤20∧∀r∈L,r.length≤200:=by
 have h1:=dk_new h;exact⟨h1.w.1,h1.L,h1.r⟩
theorem pdnew_any (ao:AdQ)(n c:Nat)(L:List (List Op8))(T:Int)(B0:Nat)(w:World)(hr:∀V,Below B0 w V→RS V (.slice ao n c) L)(hB:B0≤w.heap.size):
 Calls prog 5 #[.slice ao n c,.int i64 T] w fun e w'=>∃v,e=.returned (.tuple #[v,noV (rsF L T)])∧Below w.heap.size w w'∧(rsF L T=0→∃p O,v=.pointer (some ⟨p,0,none⟩)∧Pd w' p B0 O (dr0 L T)∧∀b,O b→w.heap.size≤b):=by
 have hrs:RS w (.slice ao n c) L:=hr w (bRQ _ _);have HN:Hid (L.length=n):=hrs.len;have HR:Hid (∀V,Below w.heap.size w V→RS V (.slice ao n c) L):=fun V hV=>hrs.later hV
 have HB0:Hid (B0≤w.heap.size):=hB;have hnm:n≤maxLen:=by
  obtain⟨_,_,_,e,h1,h2,_⟩:=hrs.form;cases e;exact h2
 unfold maxLen at hnm;obtain⟨Z,hZ⟩:∃Z,Z=rsF L T:=⟨_,rfl⟩;have HZ:Hid (rsF L T=Z):=hZ.symm;have HZ0:Hid (Z=0→1≤T∧L.length≤20∧∀r∈L,r.length≤200):=fun h=>rs_zero (by rw[←hZ];exact h)
 rw[←hZ];clear hr hB hrs hZ;go_enter func5,ntmps5
 go_wp2_with fail
 refine (pdcheck_any ao n c L T _ (HR.out _ (bRQ _ _))).mono ?_;rintro e w1 ⟨rfl,hb1⟩;rw[HZ.out];have HB1:Hid (Below w.heap.size w w1):=hb1;clear hb1;by_cases hz:Z=0
 ·obtain⟨hT1,hL20,hR200⟩:=HZ0.out hz;have HLR:Hid (∀r∈L,r.length≤200):=hR200;have HT1:Hid (1≤T):=hT1;have hn20:n≤20:=by have:=HN.out;omega
  subst hz;rw[no_ok rfl];have HNB:Hid (NwB (w1.alloc (.cells #[.slice none 0 0,.int i64 T,.int i64 0,.slice none 0 0,.int i64 0] 61)) w1.heap.size T (.slice none 0 0) [] []):=nwb_new w1 T _;have HBN:Hid (Below w.heap.size w (w1.alloc (.cells #[.slice none 0 0,.int i64 T,.int i64 0,.slice none 0 0,.int i64 0] 61))):=HB1.out.alloc HB1.out.size _;obtain⟨j1,hj,hy0,hy1,hy2⟩:=info_parts rd_info;have HI1:Hid (Tryd.prog.info? 43=some j1):=hj;have HI2:Hid (j1.zero=some (.slice none 0 0)):=hy0;have HI3:Hid (j1.size=1):=hy1;have HI4:Hid (j1.bytes=24):=hy2;clear hR200 hL20 hT1 HZ0 hj hy0 hy1 hy2;go_wp2
  go_loopw [21] (fun i wr=>∃(k:Nat) (v0:Value) (vs:List SlT),k≤n∧i=.int i64 (k:Int)∧NwB wr w1.heap.size T v0 vs (L.take k)∧Below w.heap.size w wr) (fun i _=>n-(intOf i).toNat)
  case atStart=>exact⟨0,.slice none 0 0,[],by omega,rfl,HNB.out,HBN.out⟩
  case round =>
   obtain⟨k,v0,vs,hk,rfl,hF,hB⟩:=hrel;obtain⟨wz,hwz⟩:∃X,X=wr:=⟨_,rfl⟩;subst hwz;obtain⟨a7,m7,c7,rfl⟩:∃b1 m1 d1,v0=.slice b1 m1 d1:=by
    obtain⟨a,c,h⟩:=own_form hF.o.ov;exact⟨a,_,c,h⟩
   have HF:Hid (NwB wz w1.heap.size T (.slice a7 m7 c7) vs (L.take k)):=hF;have HB:Hid (Below w.heap.size w wz):=hB;have hlt1:=hF.lt;have HLT:Hid (w1.heap.size<wz.heap.size):=hlt1;clear HNB HBN;by_cases hlt:k<n
   ·obtain⟨g,o,R,a4,n4,c4,hao,hRs,r0,hG⟩:=(HR.out wz hB).at hlt;subst hao;have hkl:k<L.length:=by rw[HN.out];exact hlt
    have hLk:L[k]=R:=by
     have:=List.getElem?_eq_getElem hkl;rw[this] at hRs;cases hRs;rfl
    have HSR:Hid (GS opE wz (.slice a4 n4 c4) R):=hG;have HL12:Hid ([R].flatten.length≤1000):=by
     have h:=HLR.out R (List.mem_of_getElem? hRs);show _≤_;simp only[List.flatten_cons,List.flatten_nil,List.append_nil];omega
    have HTK:Hid (L.take (k+1)=L.take k++[R]):=by
     show _=_;rw[List.take_succ_eq_append_getElem hkl,hLk]
    have kb0:(0:Int)≤(k:Int):=by omega
    have kb1:(k:Int)<(n:Int):=by omega
    have q3:=hF.c0;have f3:=hF.f 0;have HVL:Hid (vs.length≤20):=by
     show _≤_;rw[hF.o.lv,List.length_take];omega
    have HLV1:Hid (vs.length+1≤maxLen):=by
     have:=HVL.out;show _≤_;unfold maxLen;omega
    have HLV2:Hid ((vs.length+1)*24≤140737488355328):=by
     have:=HVL.out;show _≤_;omega
    have HKF:Hid (∀W,Below wz.heap.size wz W→NwB W w1.heap.size T (.slice a7 m7 c7) vs (L.take k)):=fun W hW=>HF.out.later hW
    have HKO:Hid (∀W,Below wz.heap.size wz W→W.ownsRow (w1.heap.size+1) 43 1 (.slice a7 m7 c7) vs.length (cellsG slE vs)):=fun W hW=>own_below HF.out.o.ov hW
    have HKC:Hid (∀w' w2,Below wz.heap.size wz w'→w'.grownBy w2 (Value.slice a7 m7 c7).ownBlock→w2.cell? ⟨w1.heap.size,0,none⟩=some (.slice a7 m7 c7)∧w2.frozen? ⟨w1.heap.size,0,none⟩=false):=fun w' w2 h1 h2=>by
     have h3:=HF.out.later h1;have h4:some w1.heap.size≠(Value.slice a7 m7 c7).ownBlock:=fun e=>by have:=(HF.out.o.ov.lt _ e.symm).1;omega
     exact⟨h2.cell h3.c0 h4,(froz_grown h2 h3.lt h4).trans (h3.f 0)⟩
    have HFIN:Hid (∀w' w2 v5 x,Below wz.heap.size wz w'→GS opE w' (slV x) R→(∀ad,x.1=some ad→wz.heap.size≤ad.block)→w'.grownBy w2 (Value.slice a7 m7 c7).ownBlock→w2.ownsRow (w1.heap.size+1) 43 1 v5 (vs++[x]).length (cellsG slE (vs++[x]))→(v5.ownBlock=(Value.slice a7 m7 c7).ownBlock∨v5.ownBlock=some w'.heap.size) →
     ∃(u3:Value) (vs:List SlT),NwB (w2.setCell ⟨w1.heap.size,0,none⟩ v5) w1.heap.size T u3 vs (L.take (k+1))∧Below w.heap.size w (w2.setCell ⟨w1.heap.size,0,none⟩ v5)):=by
     intro w' w2 v5 x h1 hx hox h2 h3 h4;refine⟨v5,vs++[x],?_,?_⟩
     ·rw[HTK.out];exact HF.out.push h1 hx hox h2 h3 h4
     have hb2:Below w.heap.size w w':=HB.out.trans (h1.mono HB.out.size);have hs1:=HB1.out.size;exact (hb2.grown h2 hb2.size (fun b hb=>by have:=(HF.out.o.ov.lt b hb).1;omega)).setCell (p:=⟨w1.heap.size,0,none⟩) (show w.heap.size≤w1.heap.size by omega) _
    clear hF hB hG hRs hLk;go_upto_region 8 with fail;clear r0
    go_region_law (first
     | ((refine step_append_blk (E:=slE) _ (by rfl) _ _ 22 43 (by rfl) underlying22 j1 _ 24 HI1.out HI2.out HI3.out HI4.out (by rfl) (w1.heap.size+1) (.slice a7 m7 c7) (by rfl) vs (HKO.out _ HBY.out) w'.heap.size 0 1 (by rfl) (a6,n6,c6) HVA.out HLV1.out HLV2.out ?_ ?_;(focus (have:=HBY.out.size;have:=HLT.out;omega));intro v5 w5 ho5 hg5 hb5;have HG:Hid _:=HFIN.out _ _ _ _ HBY.out HSX.out HOFF.out hg5 ho5 hb5;have z2:=(HKC.out _ _ HBY.out hg5).1;have zf2:=(HKC.out _ _ HBY.out hg5).2;obtain⟨a8,m8,c8,rfl⟩:∃b1 m1 d1,v5=Value.slice b1 m1 d1:=(by obtain⟨a,c,h⟩:=own_form ho5;exact⟨a,_,c,h⟩);clear ho5 hg5 hb5))
     | (go_simp;go_at_call 20;refine (op_concat _ 0 1 1 [R] _ rfl (by omega) (op_pt1 43 (HSR.out.later (Below.drew (bRQ _ _)))) HL12.out).mono ?_;rintro e w' ⟨u,rfl,hown,hb⟩;have HBX:Hid (Below wz.heap.size wz w'):=falloc hb;have hNR:NO w' wz.heap.size u R:=(NO.ofn hown (by simp) (by simp)).mono (by simp);obtain⟨⟨a6,n6,c6⟩,hx,hoff⟩:=hNR.sl2;replace hx:u=Value.slice a6 n6 c6:=hx;subst hx;have HOFF:Hid (∀ad,(a6,n6,c6).1=some ad→wz.heap.size≤ad.block):=(fun ad ha=>by cases ha;exact (World.ownsRow.lt hNR ad.block rfl).1);have HBY:Hid (Below wz.heap.size wz (w'.alloc (.cells #[.slice a6 n6 c6] 43))):=HBX.out.alloc HBX.out.size _;have HSX:Hid (GS opE (w'.alloc (.cells #[.slice a6 n6 c6] 43)) (slV (a6,n6,c6)) R):=hNR.gs.later ((bRQ _ _).alloc (nLQ _) _);have HVA:Hid (VAt (w'.alloc (.cells #[.slice a6 n6 c6] 43)) w'.heap.size 0 (slE.c (a6,n6,c6))):=vat_sl (by simp[slV]);have x2:=(HKF.out w' HBX.out).c0;have xlt:=(HKF.out w' HBX.out).lt;clear hb hown hoff hNR;dsimp only))
    all_goals (clear q3 f3;go_wp2)
    all_goals go_roundw
    all_goals first
     | (simp[intOf];omega)
     | (obtain⟨u3,vs2,hG⟩:=HG.out;exact⟨k+1,u3,vs2,by omega,by go_num,hG.1,hG.2⟩)
   obtain rfl:k=n:=by omega
   have HFE:Hid (NwB wz w1.heap.size T (.slice a7 m7 c7) vs L):=by
    have h:=HF.out;rw[←HN.out,List.take_length] at h;exact h
   clear hF hB;go_wp2;refine bodyPost_ret (v:=.tuple #[.pointer (some ⟨w1.heap.size,0,none⟩),.nilIface]) (by simp[results,results5,go_sem]) rfl ?_;have hs1:=HB1.out.size;have HFF:∃p O,(Value.pointer (some ⟨w1.heap.size,0,none⟩)=.pointer (some ⟨p,0,none⟩))∧Pd wz p B0 O (dr0 L T)∧∀b,O b→w.heap.size≤b:=⟨_,_,rfl,HFE.out.pd (Nat.le_trans HB0.out hs1) HT1.out,fun b hb=>Nat.le_trans hs1 hb.1⟩
   first
    | exact⟨_,by rw[no_ok rfl],HB.out,fun _=>HFF⟩
    | (obtain⟨p,O,h1,h2,h3⟩:=HFF;exact⟨_,by rw[no_ok rfl],HB.out,p,h1,O,h2,h3⟩)
 rw[no_ne hz];go_wp2;refine bodyPost_ret (v:=.tuple #[.pointer none,.iface 63 (.int i64 Z)]) (by simp[results,results5,go_sem]) rfl ?_;exact⟨_,by rw[no_ne hz],HB1.out,fun h=>absurd h hz⟩
theorem GS.take {α:Type}{E:Enc α}{W:World}{ao:AdQ}{n cap c:Nat}{L:List α}(h:GS E W (.slice ao n cap) L)(hc:c≤n):GS E W (.slice ao c cap) (L.take c):=by
 rcases h with ⟨ao',cap',e,rfl⟩ | ⟨g,o,cap',e,h1,h2,h3⟩
 ·simp only[Value.slice.injEq] at e;obtain⟨rfl,rfl,rfl⟩:=e;obtain rfl:c=0:=by omega
  exact .inl ⟨_,_,rfl,by simp⟩
 simp only[Value.slice.injEq] at e;obtain⟨rfl,rfl,rfl⟩:=e;have e1:(L.take c).length=c:=by rw[List.length_take];omega
 exact .inr ⟨g,o,cap,by rw[e1],by rw[e1];omega,h2,h3.take c⟩
theorem GS.drop {α:Type}{E:Enc α}{W:World}{g o n cap c:Nat}{L:List α}(h:GS E W (.slice (some ⟨g,o,none⟩) n cap) L)(hc:c≤n):GS E W (.slice (some ⟨g,o+c*E.n,none⟩) (n-c) (cap-c)) (L.drop c):=by
 rcases h with ⟨ao',cap',e,rfl⟩ | ⟨g',o',cap',e,h1,h2,h3⟩
 ·simp only[Value.slice.injEq] at e;obtain⟨rfl,rfl,rfl⟩:=e;obtain rfl:c=0:=by omega
  exact .inl ⟨_,_,rfl,by simp⟩
 simp only[Value.slice.injEq,Option.some.injEq,Addr.mk.injEq,and_true] at e;obtain⟨⟨rfl,rfl⟩,rfl,rfl⟩:=e;have e1:(L.drop c).length=L.length-c:=List.length_drop;exact .inr ⟨g,o+c*E.n,cap-c,by rw[e1],by rw[e1];omega,Nat.le_trans (Nat.sub_le _ _) h2,h3.drop c⟩
theorem own_slen {w:World}{B e size n m c:Nat}{ao:AdQ}{xs:List Value}(h:w.ownsRow B e size (.slice ao m c) n xs):m=n:=by
 rcases h.2 with ⟨h1,h2⟩ | ⟨g,cap,cur,h1,_⟩
 ·cases h1;exact h2.symm
 cases h1;rfl
theorem share_any (ao:AdQ)(n cap:Nat)(R:List Op8)(i s:Int)(w:World)(h:GS opE w (.slice ao n cap) R)(hn:n≤200):
 Calls prog 42 #[.slice ao n cap,.int i64 i,.int i64 s] w fun e w'=>∃a1 n1 c1,e=.returned (.slice a1 n1 c1)∧w'.ownsRow w.heap.size 39 msgE.n (.slice a1 n1 c1) (sayS R i s).length (cellsG msgE (sayS R i s))∧Below w.heap.size w w':=by
 have HRN:Hid (R.length=n):=h.len;have HG:Hid (∀V,Below w.heap.size w V→GS opE V (.slice ao n cap) R):=fun V hV=>h.later hV
 obtain⟨j0,hj0,hz0,hz1,hz2⟩:=info_parts msg_info;have HI1:Hid (Tryd.prog.info? 39=some j0):=hj0;have HI2:Hid (j0.zero=some (.agg #[.int i64 0,.int i64 0,.int i64 0,.int i64 0,.int i64 0,.bool false,.int i64 0,.int i64 0,.int i64 0,.int i64 0,.int i64 0,.int i64 0])):=hz0;have HI3:Hid (j0.size=12):=hz1;have HI4:Hid (j0.bytes=96):=hz2;clear h hj0 hz0 hz1 hz2;go_enter func42,ntmps42;go_wp2
 go_loopw [7,12] (fun v i0 wr=>∃(j:Nat) (a5:AdQ) (m5 c5:Nat),j≤n∧i0=.int i64 (j:Int)∧v=.slice a5 m5 c5∧wr.ownsRow w.heap.size 39 msgE.n (.slice a5 m5 c5) (sdM i s 0 (R.take j)).length (cellsG msgE (sdM i s 0 (R.take j)))∧Below w.heap.size w wr) (fun _ i _=>n-(intOf i).toNat)
 case atStart=>exact⟨0,none,0,0,by omega,rfl,rfl,World.ownsRow_nil _ _ _ _,bRQ _ _⟩
 case round =>
  obtain⟨j,a6,m6,c6,hj,rfl,rfl,ho,hb⟩:=hrel;obtain⟨wy,hwy⟩:∃X,X=wr:=⟨_,rfl⟩;subst hwy;have hm6:=own_slen ho;have HDL:Hid ((sdM i s 0 (R.take j)).length≤200):=by
   show _≤_;rw[do_len];have h1:=cw_le (R.take j) s;have h2:(R.take j).length≤R.length:=by rw[List.length_take];exact Nat.min_le_right _ _
   have:=HRN.out;omega
  have HMC:Hid (m6=cntW (R.take j) s):=by
   show _=_;rw[hm6,do_len]
  have HO6:Hid (wy.ownsRow w.heap.size 39 msgE.n (.slice a6 m6 c6) (sdM i s 0 (R.take j)).length (cellsG msgE (sdM i s 0 (R.take j)))):=ho;have HB6:Hid (Below w.heap.size w wy):=hb;have hGr:=HG.out wy hb;clear ho hb;by_cases hjn:j<n
  ·obtain⟨_,_,_,e2,_,_,_,ha⟩:=hGr.form;cases e2;obtain⟨go,oo,ha1,hGo,_⟩:=ha (by omega);subst ha1;obtain⟨x0,x1,x2,x3,x4,x5,x6,x7,hjl,hLj,q0,q1,q2,q3,q4,q5,q6,q7⟩:=op_at hGo HRN.out hjn;have HDN:Hid (sdM i s 0 (R.take (j+1))=sdM i s 0 (R.take j)++(if x0=s then [⟨1,s,i,(m6:Int),⟨x0,x1,⟨x2,x3,x4,x5,x6,x7⟩⟩⟩] else [])):=by
    show _=_;rw[do_next _ _ hjl,hLj,HMC.out]
   obtain⟨Y,hY⟩:∃Y,Y=sdM i s 0 (R.take j):=⟨_,rfl⟩;rw[←hY] at HDN HO6 HDL hm6;have jb0:(0:Int)≤(j:Int):=by omega
   have jb1:(j:Int)<(n:Int):=by omega
   have HM6:Hid (m6=Y.length):=hm6;clear hGo hGr ha hLj hY hm6 HMC;go_upto_region 5 with fail;obtain⟨wa,hwa⟩:∃V,V=wy.alloc (.cells #[.int i64 x0,.bool x1,.int i64 x2,.int i64 x3,.int i64 x4,.int i64 x5,.int i64 x6,.int i64 x7] 37):=⟨_,rfl⟩;have hc:=op_new wy x0 x1 x2 x3 x4 x5 x6 x7 37;have hba:Below wy.heap.size wy (wy.alloc (.cells #[.int i64 x0,.bool x1,.int i64 x2,.int i64 x3,.int i64 x4,.int i64 x5,.int i64 x6,.int i64 x7] 37)):=(bRQ _ _).alloc (nLQ _) _;rw[←hwa] at hc hba ⊢;obtain⟨r0,r1,r2,r3,r4,r5,r6,r7⟩:=op_cells hc;simp only[Nat.zero_add] at r0 r1 r2 r3 r4 r5 r6 r7;have HOA:Hid (wa.ownsRow w.heap.size 39 msgE.n (.slice a6 m6 c6) Y.length (cellsG msgE Y)):=own_below HO6.out hba;have HBA:Hid (Below w.heap.size w wa):=HB6.out.trans (hba.mono HB6.out.size);clear q0 q1 q2 q3 q4 q5 q6 q7 hc hba hwa HO6;cases hx:(x0==s)
   ·have hne:¬x0=s:=by simpa using hx
    have HD2:Hid (sdM i s 0 (R.take (j+1))=Y):=by
     show _=_;rw[HDN.out,if_neg hne,List.append_nil]
    go_wp2;go_roundw
    case rel=>exact⟨j+1,_,_,_,by omega,by go_num,rfl,by rw[HD2.out];exact HOA.out,HBA.out⟩
    case measure=>simp[intOf];omega
   obtain rfl:x0=s:=by simpa using hx
   have HD2:Hid (sdM i x0 0 (R.take (j+1))=Y++[⟨1,x0,i,(m6:Int),⟨x0,x1,⟨x2,x3,x4,x5,x6,x7⟩⟩⟩]):=by
    show _=_;rw[HDN.out,if_pos rfl]
   go_upto_region 6 with fail
   go_wp2_with (at_builtin;refine wpList_append_blk (E:=msgE) _ rfl _ _ 29 39 rfl underlying29 j0 _ 96 HI1.out HI2.out HI3.out HI4.out msg_zero w.heap.size (.slice a6 m6 c6) rfl Y (HOA.out.alloc _) wa.heap.size 0 1 rfl (⟨1,x0,i,(m6:Int),⟨x0,x1,⟨x2,x3,x4,x5,x6,x7⟩⟩⟩:Mg) (msg_new wa 1 x0 i (m6:Int) x0 x1 x2 x3 x4 x5 x6 x7 39) ?c1 ?c2 ?c3 ?_)
   case c1=>have:=HDL.out;unfold maxLen;omega
   case c2=>have:=HDL.out;omega
   case c3=>have:=HBA.out.size;first | (simp;omega) | omega
   intro v' w9 ho9 hg9 _;obtain⟨a9,n9,c9,hv9⟩:∃a n c,v'=.slice a n c:=by obtain⟨a,c,h⟩:=own_form ho9;exact⟨a,_,c,h⟩
   subst hv9;have HO9:Hid (w9.ownsRow w.heap.size 39 msgE.n (.slice a9 n9 c9) (sdM i x0 0 (R.take (j+1))).length (cellsG msgE (sdM i x0 0 (R.take (j+1))))):=by
    show w9.ownsRow _ _ _ _ _ _;rw[HD2.out,List.length_append];exact ho9
   have HB9:Hid (Below w.heap.size w w9):=(HBA.out.alloc HBA.out.size _).grown hg9 (by have:=HBA.out.size;simp;omega) (fun g hg=>(HOA.out.lt g hg).1);clear ho9 hg9 r0 r1 r2 r3 r4 r5 r6 r7;go_wp2;go_roundw
   case rel=>exact⟨j+1,_,_,_,by omega,by go_num,rfl,HO9.out,HB9.out⟩
   case measure=>simp[intOf];omega
  obtain rfl:j=n:=by omega
  have htk:R.take j=R:=by rw[←HRN.out];exact List.take_length
  rw[htk] at HO6 HDL HMC;rw[htk] at hm6;obtain⟨Y,hY⟩:∃Y,Y=sdM i s 0 R:=⟨_,rfl⟩;have HS:Hid (sayS R i s=Y++[saM i s m6]):=by
   show _=_;rw[sayS,hY,HMC.out]
  rw[←hY] at HO6 HDL hm6;clear hY hGr hm6 htk HMC;go_upto_region 8 with fail
  go_wp2_with (at_builtin;refine wpList_append_blk (E:=msgE) _ rfl _ _ 29 39 rfl underlying29 j0 _ 96 HI1.out HI2.out HI3.out HI4.out msg_zero w.heap.size (.slice a6 m6 c6) rfl Y (HO6.out.alloc _) wy.heap.size 0 1 rfl (saM i s m6) (msg_new wy 2 s i (m6:Int) 0 false 0 0 0 0 0 0 39) ?c1 ?c2 ?c3 ?_)
  case c1=>have:=HDL.out;unfold maxLen;omega
  case c2=>have:=HDL.out;omega
  case c3=>have:=HB6.out.size;first | (simp;omega) | omega
  intro v' w9 ho9 hg9 _;obtain⟨a9,n9,c9,hv9⟩:∃a n c,v'=.slice a n c:=by obtain⟨a,c,h⟩:=own_form ho9;exact⟨a,_,c,h⟩
  subst hv9;have HO9:Hid (w9.ownsRow w.heap.size 39 msgE.n (.slice a9 n9 c9) (sayS R i s).length (cellsG msgE (sayS R i s))):=by
   show w9.ownsRow _ _ _ _ _ _;rw[HS.out,List.length_append];exact ho9
  have HB9:Hid (Below w.heap.size w w9):=(HB6.out.alloc HB6.out.size _).grown hg9 (by have:=HB6.out.size;simp;omega) (fun g hg=>(HO6.out.lt g hg).1);clear ho9 hg9;go_wp2;go_ret;exact⟨_,_,_,rfl,HO9.out,HB9.out⟩
end
end Go.Proofs.YtpgjkmefomldfaaDoor
