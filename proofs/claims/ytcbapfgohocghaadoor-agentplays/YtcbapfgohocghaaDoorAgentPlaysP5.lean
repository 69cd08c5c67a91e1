/- Contracts and facts on the way to AgentPlays, joined into one text: AsErr, AsErr2, SameNo, RefTable, SmInts, AgentPlays, AgentPart, AgentPgMem, AgentPgNew, CcInt, StrClone, WireRows. -/
import Derived.Test.YtcbapfgohocghaaDoorAgentPlaysP4
namespace Go.Proofs.YtcbapfgohocghaaDoor
set_option linter.unusedSimpArgs false
set_option linter.unusedVariables false
set_option maxHeartbeats 16000000
set_option maxRecDepth 100000
open Go.Proofs.Tryd
open IntKind (i64)
section
open Go.RowKit Go.Extern.Stop Go.Stop Go.Extern
def HasErr (w:World):Prop:=w.cell? ⟨0,0,none⟩=some (.iface 159 (.agg #[.pointer (some ⟨1,28,none⟩)]))
theorem HasErr.later {w w':World}(h:HasErr w)(hb:Below w.heap.size w w'):HasErr w':=cell_later hb h
theorem HasErr.alloc {w:World}(h:HasErr w)(o:Obj):HasErr (w.alloc o):=h.later ((bRQ _ _).alloc (nLQ _) _)
theorem vOfP (t:Addr)(w:World):(ReflectliteValue.unpack (.iface 126 (.pointer (some t)))).run prog w
 = .ok (.agg #[.pointer (some ⟨1,126,none⟩),.pointer (some ⟨w.heap.size,0,none⟩),.int .u64 150]) (w.alloc (.cells #[.pointer (some t)] 126)):=by kernel_rfl
theorem typeP (a : Addr)(w : World): (ReflectliteValue.methodAny (ReflectliteValue.valueError "reflectlite.Value.Type" 0) (fun t _ _ _ => ReflectliteType.toType t) #[.agg #[.pointer (some ⟨1, 126, none⟩), .pointer (some a), .int .u64 150]]).run prog w
 = .ok (.iface 159 (.agg #[.pointer (some ⟨1,126,none⟩)])) w:=by kernel_rfl
theorem methKind (h : Value)(w : World): (Go.method 303 159 (.agg #[h]) "Kind").run prog w = .ok (99, h) w := by kernel_rfl
theorem kindP (w:World):((ReflectliteType.abiMethod fun t=>Functor.map (fun a:Nat=>Value.int IntKind.u8 (a:Int)) (Rtype.kind t)) #[.pointer (some ⟨1,126,none⟩)]).run prog w=.ok (.int .u8 22) w:=by kernel_rfl
theorem kindE (w:World):((ReflectliteType.abiMethod fun t=>Functor.map (fun a:Nat=>Value.int IntKind.u8 (a:Int)) (Rtype.kind t)) #[.pointer (some ⟨1,73,none⟩)]).run prog w=.ok (.int .u8 2) w:=by kernel_rfl
theorem partsP (a:Addr)(w:World):(ReflectliteValue.parts (.agg #[.pointer (some ⟨1,126,none⟩),.pointer (some a),.int .u64 150])).run prog w=.ok (some (126,a,150)) w:=by kernel_rfl
theorem isNilP (a p:Addr)(W:World)(ha:W.cell? a=some (.pointer (some p))):
 (ReflectliteValue.method (ReflectliteValue.valueError "reflectlite.Value.IsNil" 0) ReflectliteValue.isNil #[.agg #[.pointer (some ⟨1, 126, none⟩), .pointer (some a), .int .u64 150]]).run prog W = .ok (.bool false) W := by
 change Sem.run _ (ReflectliteValue.parts (.agg #[.pointer (some ⟨1,126,none⟩),.pointer (some a),.int .u64 150]) >>= _) _=_
 rw[Sem.run_bind,partsP];simp only[Result.andThen];simp[ReflectliteValue.isNil,loadVar,isAgg,underlying,underlying126,ha,Result.andThen]
theorem methElem (h : Value)(w : World): (Go.method 303 159 (.agg #[h]) "Elem").run prog w = .ok (109, .agg #[h]) w := by kernel_rfl
theorem methImpl (h : Value)(w : World): (Go.method 303 159 (.agg #[h]) "Implements").run prog w = .ok (110, .agg #[h]) w := by kernel_rfl
theorem methAssign (h : Value)(w : World): (Go.method 303 159 (.agg #[h]) "AssignableTo").run prog w = .ok (107, .agg #[h]) w := by kernel_rfl
theorem elemP (w:World):(ReflectliteType.method ReflectliteType.elem #[.agg #[.pointer (some ⟨1,126,none⟩)]]).run prog w=.ok (.iface 159 (.agg #[.pointer (some ⟨1,73,none⟩)])) w:=by kernel_rfl
theorem implE (w : World): (ReflectliteType.relation "Implements" ReflectliteType.implements_ #[.agg #[.pointer (some ⟨1, 73, none⟩)], .iface 159 (.agg #[.pointer (some ⟨1, 28, none⟩)])]).run prog w = .ok (.bool true) w := by kernel_rfl
theorem typeOfE (v:Value)(w:World):(ReflectliteType.typeOf #[.iface 73 v]).run prog w=.ok (.iface 159 (.agg #[.pointer (some ⟨1,73,none⟩)])) w:=by kernel_rfl
theorem assignE (w : World): (ReflectliteType.relation "AssignableTo" ReflectliteType.assignableTo #[.agg #[.pointer (some ⟨1, 73, none⟩)], .iface 159 (.agg #[.pointer (some ⟨1, 73, none⟩)])]).run prog w = .ok (.bool true) w := by kernel_rfl
theorem vOfE (n:Int)(w:World):(ReflectliteValue.unpack (.iface 73 (.int i64 n))).run prog w
 = .ok (.agg #[.pointer (some ⟨1,73,none⟩),.pointer (some ⟨w.heap.size,0,none⟩),.int .u64 130]) (w.alloc (.cells #[.int i64 n] 73)):=by kernel_rfl
theorem elemOfP (w:World):(Rtype.elem? 126).run prog w=.ok (some 73) w:=by kernel_rfl
theorem mkE (p:Addr)(w:World):(ReflectliteValue.mk 73 p ReflectliteValue.flagAddr).run prog w=.ok (.agg #[.pointer (some ⟨1,73,none⟩),.pointer (some p),.int .u64 386]) w:=by kernel_rfl
theorem elemVP (a p:Addr)(W:World)(ha:W.cell? a=some (.pointer (some p))):
 (ReflectliteValue.method (ReflectliteValue.valueError "reflectlite.Value.Elem" 0) ReflectliteValue.elem #[.agg #[.pointer (some ⟨1, 126, none⟩), .pointer (some a), .int .u64 150]]).run prog W
  = .ok (.agg #[.pointer (some ⟨1,73,none⟩),.pointer (some p),.int .u64 386]) W:=by
 change Sem.run _ (ReflectliteValue.parts (.agg #[.pointer (some ⟨1,126,none⟩),.pointer (some a),.int .u64 150]) >>= _) _=_
 rw[Sem.run_bind,partsP];simp only[Result.andThen];simp[ReflectliteValue.elem,loadVar,isAgg,underlying,underlying126,ha,Result.andThen,elemOfP,mkE]
theorem partsEa (a:Addr)(w:World):(ReflectliteValue.parts (.agg #[.pointer (some ⟨1,73,none⟩),.pointer (some a),.int .u64 386])).run prog w=.ok (some (73,a,386)) w:=by kernel_rfl
theorem partsE (a:Addr)(w:World):(ReflectliteValue.parts (.agg #[.pointer (some ⟨1,73,none⟩),.pointer (some a),.int .u64 130])).run prog w=.ok (some (73,a,130)) w:=by kernel_rfl
theorem directE (w:World):(Rtype.directlyAssignable 73 73).run prog w=.ok true w:=by kernel_rfl
theorem setE (ta b:Addr)(n:Int)(old:Value)(W:World)(hb:W.cell? b=some (.int i64 n))(ht:W.cell? ta=some old)(hf:W.frozen? ta=false):
 (ReflectliteValue.set #[.agg #[.pointer (some ⟨1,73,none⟩),.pointer (some ta),.int .u64 386],.agg #[.pointer (some ⟨1,73,none⟩),.pointer (some b),.int .u64 130]]).run prog W
  = .ok (.tuple #[]) (W.setCell ta (.int i64 n)):=by
 change Sem.run _ (ReflectliteValue.parts (.agg #[.pointer (some ⟨1,73,none⟩),.pointer (some ta),.int .u64 386]) >>= _) _=_
 rw[Sem.run_bind,partsEa];simp only[Result.andThen]
 change Sem.run _ (ReflectliteValue.parts (.agg #[.pointer (some ⟨1,73,none⟩),.pointer (some b),.int .u64 130]) >>= _) _=_
 rw[Sem.run_bind,partsE];simp only[Result.andThen];simp[ReflectliteValue.flagAddr,loadVar,isAgg,underlying,underlying73,hb,Result.andThen,directE,storeVar,Value.cells,storeCells,Addr.add];rw[run_store prog W ta _ _ (by rfl)];simp[ht,hf]
theorem as_hit (n:Int)(t:Addr)(old:Value)(w:World)(hg:HasErr w)(ht0:w.cell? t=some old)(hf0:w.frozen? t=false):
 Calls prog 57 #[.iface 73 (.int i64 n),.iface 126 (.pointer (some t))] w fun ev w'=>ev=.returned (.bool true)∧w'=((((w.alloc (.cells #[.pointer (some t)] 126)).alloc (.cells #[.pointer (some ⟨1,126,none⟩),.pointer (some ⟨w.heap.size,0,none⟩),.int .u64 150] 145)).alloc (.cells #[.pointer (some ⟨1,126,none⟩),.pointer (some ⟨w.heap.size,0,none⟩),.int .u64 150] 145)).alloc (.cells #[.int i64 n] 73)).setCell t (.int i64 n):=by
 unfold HasErr at hg;have h6 := @run_callFunc_extern prog 72 _ (fun args=>ReflectliteValue.unpack (args.getD 0 (.tuple #[]))) func72 (by kernel_rfl) (by kernel_rfl) (by kernel_rfl) (by kernel_rfl);have h7 := @run_callFunc_extern prog 73 _ (ReflectliteValue.methodAny (ReflectliteValue.valueError "reflectlite.Value.Type" 0) (fun t _ _ _ => ReflectliteType.toType t)) func73 (by kernel_rfl) (by kernel_rfl) (by kernel_rfl) (by kernel_rfl)
 have h8 := @run_callFunc_extern prog 74 _ (ReflectliteValue.method (ReflectliteValue.valueError "reflectlite.Value.IsNil" 0) ReflectliteValue.isNil) func74 (by kernel_rfl) (by kernel_rfl) (by kernel_rfl) (by kernel_rfl)
 have h27 := @run_callFunc_extern prog 99 _ (ReflectliteType.abiMethod fun t=>do pure (.int .u8 (←Rtype.kind t))) func99 (by kernel_rfl) (by kernel_rfl) (by kernel_rfl) (by kernel_rfl);have h37 := @run_callFunc_extern prog 109 _ (ReflectliteType.method ReflectliteType.elem) func109 (by kernel_rfl) (by kernel_rfl) (by kernel_rfl) (by kernel_rfl);have h38 := @run_callFunc_extern prog 110 _ (ReflectliteType.relation "Implements" ReflectliteType.implements_) func110 (by kernel_rfl) (by kernel_rfl) (by kernel_rfl) (by kernel_rfl)
 have h10 := @run_callFunc_extern prog 79 _ ReflectliteType.typeOf func79 (by kernel_rfl) (by kernel_rfl) (by kernel_rfl) (by kernel_rfl);have h35 := @run_callFunc_extern prog 107 _ (ReflectliteType.relation "AssignableTo" ReflectliteType.assignableTo) func107 (by kernel_rfl) (by kernel_rfl) (by kernel_rfl) (by kernel_rfl)
 have h11 := @run_callFunc_extern prog 80 _ (ReflectliteValue.method (ReflectliteValue.valueError "reflectlite.Value.Elem" 0) ReflectliteValue.elem) func80 (by kernel_rfl) (by kernel_rfl) (by kernel_rfl) (by kernel_rfl)
 have h12 := @run_callFunc_extern prog 81 _ ReflectliteValue.set func81 (by kernel_rfl) (by kernel_rfl) (by kernel_rfl) (by kernel_rfl);have tO:=typeOfE;have mA:=methAssign;have a25:=assignE;have v25:=vOfE;have f6:=vOfP;have f7:=typeP;have mK:=methKind;have mE:=methElem;have mI:=methImpl;have k27:=kindP;have k25:=kindE;have e27:=elemP;have i25:=implE;have hlt:0<w.heap.size:=bLQ _ _ hg;have htl:t.block<w.heap.size:=bLQ _ _ ht0;have n8:=isNilP ⟨w.heap.size,0,none⟩ t ((w.alloc (.cells #[.pointer (some t)] 126)).alloc (.cells #[.pointer (some ⟨1,126,none⟩),.pointer (some ⟨w.heap.size,0,none⟩),.int .u64 150] 145)) (by simp);have hg2:((w.alloc (.cells #[.pointer (some t)] 126)).alloc (.cells #[.pointer (some ⟨1,126,none⟩),.pointer (some ⟨w.heap.size,0,none⟩),.int .u64 150] 145)).cell? ⟨0,0,none⟩=some (.iface 159 (.agg #[.pointer (some ⟨1,28,none⟩)])):=by
  rw[World.cell?_alloc_lt _ _ ⟨0,0,none⟩ (by simp <;> omega),World.cell?_alloc_lt _ _ ⟨0,0,none⟩ hlt];exact hg
 have el:=elemVP ⟨w.heap.size,0,none⟩ t (((w.alloc (.cells #[.pointer (some t)] 126)).alloc (.cells #[.pointer (some ⟨1,126,none⟩),.pointer (some ⟨w.heap.size,0,none⟩),.int .u64 150] 145)).alloc (.cells #[.pointer (some ⟨1,126,none⟩),.pointer (some ⟨w.heap.size,0,none⟩),.int .u64 150] 145)) (by rw[World.cell?_alloc_lt _ _ ⟨w.heap.size,0,none⟩ (by simp;omega)];simp);have st:=setE t ⟨w.heap.size+1+1+1,0,none⟩ n old ((((w.alloc (.cells #[.pointer (some t)] 126)).alloc (.cells #[.pointer (some ⟨1,126,none⟩),.pointer (some ⟨w.heap.size,0,none⟩),.int .u64 150] 145)).alloc (.cells #[.pointer (some ⟨1,126,none⟩),.pointer (some ⟨w.heap.size,0,none⟩),.int .u64 150] 145)).alloc (.cells #[.int i64 n] 73))
  (by rw[World.cell?_alloc_at _ _ _ _ (by simp)];rfl)
  (by rw[World.cell?_alloc_lt _ _ t (by simp;omega),World.cell?_alloc_lt _ _ t (by simp;omega),World.cell?_alloc_lt _ _ t (by simp;omega),World.cell?_alloc_lt _ _ t htl];exact ht0)
  (by rw[World.frozen?_alloc_old _ _ t (by simp;omega),World.frozen?_alloc_old _ _ t (by simp;omega),World.frozen?_alloc_old _ _ t (by simp;omega),World.frozen?_alloc_old _ _ t (Nat.ne_of_lt htl)];exact hf0)
 go_enter func57,ntmps57;go_wp2;refine wp_loop_rounds 1 ?_;rw[rounds_succ];go_wp2;go_ret;exact⟨rfl,rfl⟩
theorem told_nil (w:World):
 Calls prog 39 #[.nilIface] w fun e w'=>e=.returned (.int i64 0)∧Below w.heap.size w w':=by
 go_enter func39,ntmps39;go_wp2;go_ret;exact⟨rfl,bRQ _ _⟩
theorem told_some (n:Int)(w:World)(hg:HasErr w):
 Calls prog 39 #[.iface 73 (.int i64 n)] w fun e w'=>e=.returned (.int i64 n)∧Below w.heap.size w w':=by
 have HG:Hid (HasErr w):=hg;clear hg;go_enter func39,ntmps39
 go_wp2_with fail
 refine (as_hit n _ (.int i64 0) _ (HG.out.alloc _) (by simp) (by simp)).mono ?_;rintro e w' ⟨rfl,rfl⟩;go_wp2;go_ret;refine⟨rfl,?_⟩;exact ((((((bRQ _ _).alloc (nLQ _) _).alloc (by simp) _).alloc (by simp;omega) _).alloc (by simp;omega) _).alloc (by simp;omega) _)
theorem same_nil (k:Int)(w:World):
 Calls prog 14 #[.nilIface,.int i64 k] w fun e w'=>e=.returned (.bool (0==k))∧Below w.heap.size w w':=by
 go_enter func14,ntmps14
 go_wp2_with fail
 refine (told_nil _).mono ?_;rintro e w' ⟨rfl,hb⟩;go_wp2;go_ret;exact⟨rfl,hb⟩
theorem same_some (n k:Int)(w:World)(hg:HasErr w):
 Calls prog 14 #[.iface 73 (.int i64 n),.int i64 k] w fun e w'=>e=.returned (.bool (n==k))∧Below w.heap.size w w':=by
 have HG:Hid (HasErr w):=hg;clear hg;go_enter func14,ntmps14
 go_wp2_with fail
 refine (told_some n _ HG.out).mono ?_;rintro e w' ⟨rfl,hb⟩;go_wp2;go_ret;exact⟨rfl,hb⟩
end
section
open Go.RowKit
theorem same_noV (n:Int)(w:World)(hg:HasErr w):
 Calls prog 14 #[noV n,.int i64 n] w fun e w'=>e=.returned (.bool true)∧Below w.heap.size w w':=by
 by_cases h:n=0
 ·subst h;refine (same_nil _ w).mono ?_;rintro e w' ⟨rfl,hb⟩;exact⟨by simp,hb⟩
 rw[no_ne h];refine (same_some _ _ w hg).mono ?_;rintro e w' ⟨rfl,hb⟩;exact⟨by simp,hb⟩
theorem to_badF {L:List Ru}{k:Nat}{r:Ru}(hk:k<L.length)(hr:L[k]=r)(h:tbTo L k=0)(h2:r.n≠0)(h12:L.length≤12):tbN L=r.n:=by
 have e:tbTo L (k+1)=r.n:=by rw[tbTo,if_pos h,getD_at hk,hr,if_neg h2]
 rw[tbN,if_neg (by omega),←e];exact to_le (by rw[e];exact h2) hk
theorem to_clashF {L:List Ru}{k:Nat}{r:Ru}(hk:k<L.length)(hr:L[k]=r)(h:tbTo L k=0)(h2:r.n=0)(h3:(L.take k).any (fun a=>keyB a r)=true)(h12:L.length≤12):tbN L=7:=by
 have e:tbTo L (k+1)=7:=by
  rw[tbTo,if_pos h,getD_at hk,hr,if_pos h2,h3];rfl
 rw[tbN,if_neg (by omega),←e];exact to_le (by rw[e];decide) hk
theorem to_nextF {L:List Ru}{k:Nat}{r:Ru}(hk:k<L.length)(hr:L[k]=r)(h:tbTo L k=0)(h2:r.n=0)(h3:(L.take k).any (fun a=>keyB a r)=false):tbTo L (k+1)=0:=by
 rw[tbTo,if_pos h,getD_at hk,hr,if_pos h2,h3];rfl
theorem tab_take {L:List Ru}{f:Ru→Bool}{q k:Nat}(hq:q<k)(hk:q<L.length)(h:f L[q]=true):(L.take k).any f=true:=
 List.any_eq_true.2 ⟨_,List.mem_take_iff_getElem.2 ⟨q,by omega,rfl⟩,h⟩
theorem refTable_some (g o cap n:Nat)(L:List Ru)(w:World)(hc:RAt w g o L)(hn:L.length=n)(hl:n≤12):
 Calls prog 17 #[.slice (some ⟨g,o,none⟩) n cap] w fun e w'=>e=.returned (.int i64 (tbN L))∧Below w.heap.size w w':=by
 have HN:Hid (L.length=n):=hn;clear hn;go_enter func17,ntmps17;go_wp2
 go_loopw [3] (fun i wr=>∃k:Nat,k≤n∧i=.int i64 k∧tbTo L k=0∧Below w.heap.size w wr) (fun i _=>n-(intOf i).toNat)
 case atStart=>exact⟨0,by omega,rfl,rfl,bRQ _ _⟩
 case round =>
  obtain⟨k,hk,rfl,hno,hB⟩:=hrel;have HB:Hid (Below w.heap.size w wr):=hB;have HNO:Hid (tbTo L k=0):=hno;clear hno;by_cases hlt:k<n
  ·obtain⟨p,m,b,q,s,v,hkl,hL,q0,q1,q2,q3,q4,q5⟩:=(hc.later hB).at HN.out hlt;have HL:Hid (L[k]=⟨p,m,b,q,s,v⟩):=hL;clear hL hB;by_cases ho:ruN p m b q s v=0
   ·have HO:Hid (ruN p m b q s v=0):=ho
    go_wp2_with fail
    refine (refRule_any _ _ _ _ _ _ _).mono ?_;rintro e w1 ⟨rfl,hb1⟩;rw[HO.out];have HB1:Hid (Below w.heap.size w w1):=HB.out.trans (hb1.mono HB.out.size);clear hb1 q0 q1 q2 q3 q4 q5 ho;go_wp2
    go_loopw [5] (fun j w2=>∃t:Nat,t≤k∧j=.int i64 t∧(L.take t).any (fun a=>keyB a ⟨p,m,b,q,s,v⟩)=false∧Below w.heap.size w w2) (fun j _=>k-(intOf j).toNat)
    case atStart=>exact⟨0,by omega,rfl,by simp,HB1.out⟩
    case round =>
     obtain⟨t,ht,rfl,hany,hB2⟩:=hrel;have HANY:Hid ((L.take t).any (fun a=>keyB a ⟨p,m,b,q,s,v⟩)=false):=hany;have HB2:Hid (Below w.heap.size w wr):=hB2;clear hany;by_cases hq:t<k
     ·obtain⟨p4,m4,b4,o4,s4,v4,htl,hLt,y0,y1,y2,y3,y4,y5⟩:=(hc.later hB2).at HN.out (show t<n by omega);obtain⟨p5,m5,b5,o5,s5,v5,_,hLk,r0,r1,r2,r3,r4,r5⟩:=(hc.later hB2).at HN.out hlt;rw[HL.out] at hLk;simp only[Ru.mk.injEq] at hLk;obtain⟨rfl,rfl,rfl,rfl,rfl,rfl⟩:=hLk;have HLT:Hid (L[t]=⟨p4,m4,b4,o4,s4,v4⟩):=hLt;have HCE:Hid (CD w g (o+t*6) p4 m4 b4 o4 s4 v4 g (o+k*6) p m b q s v wr):=⟨hB2,⟨y0,y1,y2,y3,y4,y5⟩,r0,r1,r2,r3,r4,r5⟩;clear y0 y1 y2 y3 y4 y5 r0 r1 r2 r3 r4 r5 hLt hB2;go_upto_region 12 with fail;have tb0:(0:Int)≤(t:Int):=by omega
      have tb1:(t:Int)<(n:Int):=by omega
      have kb0:(0:Int)≤(k:Int):=by omega
      have kb1:(k:Int)<(n:Int):=by omega
      go_cut [51] from 23 to 51 (fun c w'=>c=.bool (keyB ⟨p4,m4,b4,o4,s4,v4⟩ ⟨p,m,b,q,s,v⟩)∧Below w.heap.size w w')
      case first =>
       as_aux_lemma =>
        by_cases e1:p4=p
        ·have f1:(p4==p)=true:=by simpa using e1
         by_cases e2:m4=m∧b4=b
         ·obtain⟨e2,e3⟩:=e2;have hky:keyB ⟨p4,m4,b4,o4,s4,v4⟩ ⟨p,m,b,q,s,v⟩=true:=by rw[key_eq];simp[e1,e2,e3]
          have f2:(m4==m)=true:=by simpa using e2
          have f3:(b4==b)=true:=by simpa using e3
          have hC0:=HCE.out;clear e1 e2 e3;refine wp_region_quiet (C:=CD w g (o+t*6) p4 m4 b4 o4 s4 v4 g (o+k*6) p m b q s v) (by kernel_rfl) (by kernel_rfl) (CD.later (W:=wr) (Below.drew (bRQ _ _)) hC0) ?_;simp only[List.toList_toArray];go_big_quiet_want;refine qv (.slice (some ⟨g,o,none⟩) n cap) ?_ ?_
          ·rintro w' ⟨z0,⟨z1,z2,z3,z4,z5,z6⟩,y1,y2,y3,y4,y5,y6⟩;go_simp
          simp only[Act.put,AP];go_big_quiet_on;go_big_quiet_want;refine qv (.int i64 (t:Int)) ?_ ?_
          ·rintro w' ⟨z0,⟨z1,z2,z3,z4,z5,z6⟩,y1,y2,y3,y4,y5,y6⟩;go_simp
          simp only[Act.put,AP];go_big_quiet_on;go_big_quiet_want;refine qv (.pointer (some ⟨g,o+t*6,none⟩)) ?_ ?_
          ·rintro w' ⟨z0,⟨z1,z2,z3,z4,z5,z6⟩,y1,y2,y3,y4,y5,y6⟩;go_simp
          simp only[Act.put,AP];go_big_quiet_on;go_big_quiet_want;refine qv (.pointer (some ⟨g,o+t*6,none⟩)) ?_ ?_
          ·rintro w' ⟨z0,⟨z1,z2,z3,z4,z5,z6⟩,y1,y2,y3,y4,y5,y6⟩;go_simp
          simp only[Act.put,AP];go_big_quiet_on;go_big_quiet_want;refine qv (.int i64 p4) ?_ ?_
          ·rintro w' ⟨z0,⟨z1,z2,z3,z4,z5,z6⟩,y1,y2,y3,y4,y5,y6⟩;go_simp
          simp only[Act.put,AP];go_big_quiet_on;go_big_quiet_want;refine qv (.slice (some ⟨g,o,none⟩) n cap) ?_ ?_
          ·rintro w' ⟨z0,⟨z1,z2,z3,z4,z5,z6⟩,y1,y2,y3,y4,y5,y6⟩;go_simp
          simp only[Act.put,AP];go_big_quiet_on;go_big_quiet_want;refine qv (.int i64 (k:Int)) ?_ ?_
          ·rintro w' ⟨z0,⟨z1,z2,z3,z4,z5,z6⟩,y1,y2,y3,y4,y5,y6⟩;go_simp
          simp only[Act.put,AP];go_big_quiet_on;go_big_quiet_want;refine qv (.pointer (some ⟨g,o+k*6,none⟩)) ?_ ?_
          ·rintro w' ⟨z0,⟨z1,z2,z3,z4,z5,z6⟩,y1,y2,y3,y4,y5,y6⟩;go_simp
          simp only[Act.put,AP];go_big_quiet_on;go_big_quiet_want;refine qv (.pointer (some ⟨g,o+k*6,none⟩)) ?_ ?_
          ·rintro w' ⟨z0,⟨z1,z2,z3,z4,z5,z6⟩,y1,y2,y3,y4,y5,y6⟩;go_simp
          simp only[Act.put,AP];go_big_quiet_on;go_big_quiet_want;refine qv (.int i64 p) ?_ ?_
          ·rintro w' ⟨z0,⟨z1,z2,z3,z4,z5,z6⟩,y1,y2,y3,y4,y5,y6⟩;go_simp
          simp only[Act.put,AP];go_big_quiet_on;go_big_quiet_want;refine qv (.bool true) ?_ ?_
          ·rintro w' ⟨z0,⟨z1,z2,z3,z4,z5,z6⟩,y1,y2,y3,y4,y5,y6⟩;go_simp
          simp only[Act.put,AP];go_big_quiet_on;go_big_quiet_want;refine qv (.bool true) ?_ ?_
          ·rintro w' ⟨z0,⟨z1,z2,z3,z4,z5,z6⟩,y1,y2,y3,y4,y5,y6⟩;go_simp
          simp only[Act.put,AP];go_big_quiet_on;go_big_quiet_want;refine qv (.slice (some ⟨g,o,none⟩) n cap) ?_ ?_
          ·rintro w' ⟨z0,⟨z1,z2,z3,z4,z5,z6⟩,y1,y2,y3,y4,y5,y6⟩;go_simp
          simp only[Act.put,AP];go_big_quiet_on;go_big_quiet_want;refine qv (.int i64 (t:Int)) ?_ ?_
          ·rintro w' ⟨z0,⟨z1,z2,z3,z4,z5,z6⟩,y1,y2,y3,y4,y5,y6⟩;go_simp
          simp only[Act.put,AP];go_big_quiet_on;go_big_quiet_want;refine qv (.pointer (some ⟨g,o+t*6,none⟩)) ?_ ?_
          ·rintro w' ⟨z0,⟨z1,z2,z3,z4,z5,z6⟩,y1,y2,y3,y4,y5,y6⟩;go_simp
          simp only[Act.put,AP];go_big_quiet_on;go_big_quiet_want;refine qv (.pointer (some ⟨g,o+t*6+1,none⟩)) ?_ ?_
          ·rintro w' ⟨z0,⟨z1,z2,z3,z4,z5,z6⟩,y1,y2,y3,y4,y5,y6⟩;go_simp
          simp only[Act.put,AP];go_big_quiet_on;go_big_quiet_want;refine qv (.agg #[.int i64 m4,.int i64 b4]) ?_ ?_
          ·rintro w' ⟨z0,⟨z1,z2,z3,z4,z5,z6⟩,y1,y2,y3,y4,y5,y6⟩;go_simp
          simp only[Act.put,AP];go_big_quiet_on;go_big_quiet_want;refine qv (.slice (some ⟨g,o,none⟩) n cap) ?_ ?_
          ·rintro w' ⟨z0,⟨z1,z2,z3,z4,z5,z6⟩,y1,y2,y3,y4,y5,y6⟩;go_simp
          simp only[Act.put,AP];go_big_quiet_on;go_big_quiet_want;refine qv (.int i64 (k:Int)) ?_ ?_
          ·rintro w' ⟨z0,⟨z1,z2,z3,z4,z5,z6⟩,y1,y2,y3,y4,y5,y6⟩;go_simp
          simp only[Act.put,AP];go_big_quiet_on;go_big_quiet_want;refine qv (.pointer (some ⟨g,o+k*6,none⟩)) ?_ ?_
          ·rintro w' ⟨z0,⟨z1,z2,z3,z4,z5,z6⟩,y1,y2,y3,y4,y5,y6⟩;go_simp
          simp only[Act.put,AP];go_big_quiet_on;go_big_quiet_want;refine qv (.pointer (some ⟨g,o+k*6+1,none⟩)) ?_ ?_
          ·rintro w' ⟨z0,⟨z1,z2,z3,z4,z5,z6⟩,y1,y2,y3,y4,y5,y6⟩;go_simp
          simp only[Act.put,AP];go_big_quiet_on;go_big_quiet_want;refine qv (.agg #[.int i64 m,.int i64 b]) ?_ ?_
          ·rintro w' ⟨z0,⟨z1,z2,z3,z4,z5,z6⟩,y1,y2,y3,y4,y5,y6⟩;go_simp
          simp only[Act.put,AP];go_big_quiet_on;go_big_quiet_want;refine qv (.bool true) ?_ ?_
          ·rintro w' ⟨z0,⟨z1,z2,z3,z4,z5,z6⟩,y1,y2,y3,y4,y5,y6⟩;go_simp
          simp only[Act.put,AP];go_big_quiet_on;go_big_quiet_want;refine qv (.bool true) ?_ ?_
          ·rintro w' ⟨z0,⟨z1,z2,z3,z4,z5,z6⟩,y1,y2,y3,y4,y5,y6⟩;go_simp
          simp only[Act.put,AP];go_big_quiet_on;refine wpQuiet_nil ?_;intro w' hC
          go_wp2_with fail
          go_meet
          case rel=>exact⟨by rw[hky],hC.1⟩
         have hky:keyB ⟨p4,m4,b4,o4,s4,v4⟩ ⟨p,m,b,q,s,v⟩=false:=by
          rw[key_eq];simp only[e1,decide_true,Bool.true_and,Bool.and_eq_false_iff,decide_eq_false_iff_not];by_cases e3:m4=m
          ·exact .inr fun e4=>e2 ⟨e3,e4⟩
          exact .inl e3
         by_cases e3:m4=m
         ·have f3:¬b4=b:=fun e4=>e2 ⟨e3,e4⟩
          have f2:(m4==m)=true:=by simpa using e3
          have f4:(b4==b)=false:=by simpa using f3
          clear e2;have hC0:=HCE.out;clear e1;refine wp_region_quiet (C:=CD w g (o+t*6) p4 m4 b4 o4 s4 v4 g (o+k*6) p m b q s v) (by kernel_rfl) (by kernel_rfl) (CD.later (W:=wr) (Below.drew (bRQ _ _)) hC0) ?_;simp only[List.toList_toArray];go_big_quiet_want;refine qv (.slice (some ⟨g,o,none⟩) n cap) ?_ ?_
          ·rintro w' ⟨z0,⟨z1,z2,z3,z4,z5,z6⟩,y1,y2,y3,y4,y5,y6⟩;go_simp
          simp only[Act.put,AP];go_big_quiet_on;go_big_quiet_want;refine qv (.int i64 (t:Int)) ?_ ?_
          ·rintro w' ⟨z0,⟨z1,z2,z3,z4,z5,z6⟩,y1,y2,y3,y4,y5,y6⟩;go_simp
          simp only[Act.put,AP];go_big_quiet_on;go_big_quiet_want;refine qv (.pointer (some ⟨g,o+t*6,none⟩)) ?_ ?_
          ·rintro w' ⟨z0,⟨z1,z2,z3,z4,z5,z6⟩,y1,y2,y3,y4,y5,y6⟩;go_simp
          simp only[Act.put,AP];go_big_quiet_on;go_big_quiet_want;refine qv (.pointer (some ⟨g,o+t*6,none⟩)) ?_ ?_
          ·rintro w' ⟨z0,⟨z1,z2,z3,z4,z5,z6⟩,y1,y2,y3,y4,y5,y6⟩;go_simp
          simp only[Act.put,AP];go_big_quiet_on;go_big_quiet_want;refine qv (.int i64 p4) ?_ ?_
          ·rintro w' ⟨z0,⟨z1,z2,z3,z4,z5,z6⟩,y1,y2,y3,y4,y5,y6⟩;go_simp
          simp only[Act.put,AP];go_big_quiet_on;go_big_quiet_want;refine qv (.slice (some ⟨g,o,none⟩) n cap) ?_ ?_
          ·rintro w' ⟨z0,⟨z1,z2,z3,z4,z5,z6⟩,y1,y2,y3,y4,y5,y6⟩;go_simp
          simp only[Act.put,AP];go_big_quiet_on;go_big_quiet_want;refine qv (.int i64 (k:Int)) ?_ ?_
          ·rintro w' ⟨z0,⟨z1,z2,z3,z4,z5,z6⟩,y1,y2,y3,y4,y5,y6⟩;go_simp
          simp only[Act.put,AP];go_big_quiet_on;go_big_quiet_want;refine qv (.pointer (some ⟨g,o+k*6,none⟩)) ?_ ?_
          ·rintro w' ⟨z0,⟨z1,z2,z3,z4,z5,z6⟩,y1,y2,y3,y4,y5,y6⟩;go_simp
          simp only[Act.put,AP];go_big_quiet_on;go_big_quiet_want;refine qv (.pointer (some ⟨g,o+k*6,none⟩)) ?_ ?_
          ·rintro w' ⟨z0,⟨z1,z2,z3,z4,z5,z6⟩,y1,y2,y3,y4,y5,y6⟩;go_simp
          simp only[Act.put,AP];go_big_quiet_on;go_big_quiet_want;refine qv (.int i64 p) ?_ ?_
          ·rintro w' ⟨z0,⟨z1,z2,z3,z4,z5,z6⟩,y1,y2,y3,y4,y5,y6⟩;go_simp
          simp only[Act.put,AP];go_big_quiet_on;go_big_quiet_want;refine qv (.bool true) ?_ ?_
          ·rintro w' ⟨z0,⟨z1,z2,z3,z4,z5,z6⟩,y1,y2,y3,y4,y5,y6⟩;go_simp
          simp only[Act.put,AP];go_big_quiet_on;go_big_quiet_want;refine qv (.bool true) ?_ ?_
          ·rintro w' ⟨z0,⟨z1,z2,z3,z4,z5,z6⟩,y1,y2,y3,y4,y5,y6⟩;go_simp
          simp only[Act.put,AP];go_big_quiet_on;go_big_quiet_want;refine qv (.slice (some ⟨g,o,none⟩) n cap) ?_ ?_
          ·rintro w' ⟨z0,⟨z1,z2,z3,z4,z5,z6⟩,y1,y2,y3,y4,y5,y6⟩;go_simp
          simp only[Act.put,AP];go_big_quiet_on;go_big_quiet_want;refine qv (.int i64 (t:Int)) ?_ ?_
          ·rintro w' ⟨z0,⟨z1,z2,z3,z4,z5,z6⟩,y1,y2,y3,y4,y5,y6⟩;go_simp
          simp only[Act.put,AP];go_big_quiet_on;go_big_quiet_want;refine qv (.pointer (some ⟨g,o+t*6,none⟩)) ?_ ?_
          ·rintro w' ⟨z0,⟨z1,z2,z3,z4,z5,z6⟩,y1,y2,y3,y4,y5,y6⟩;go_simp
          simp only[Act.put,AP];go_big_quiet_on;go_big_quiet_want;refine qv (.pointer (some ⟨g,o+t*6+1,none⟩)) ?_ ?_
          ·rintro w' ⟨z0,⟨z1,z2,z3,z4,z5,z6⟩,y1,y2,y3,y4,y5,y6⟩;go_simp
          simp only[Act.put,AP];go_big_quiet_on;go_big_quiet_want;refine qv (.agg #[.int i64 m4,.int i64 b4]) ?_ ?_
          ·rintro w' ⟨z0,⟨z1,z2,z3,z4,z5,z6⟩,y1,y2,y3,y4,y5,y6⟩;go_simp
          simp only[Act.put,AP];go_big_quiet_on;go_big_quiet_want;refine qv (.slice (some ⟨g,o,none⟩) n cap) ?_ ?_
          ·rintro w' ⟨z0,⟨z1,z2,z3,z4,z5,z6⟩,y1,y2,y3,y4,y5,y6⟩;go_simp
          simp only[Act.put,AP];go_big_quiet_on;go_big_quiet_want;refine qv (.int i64 (k:Int)) ?_ ?_
          ·rintro w' ⟨z0,⟨z1,z2,z3,z4,z5,z6⟩,y1,y2,y3,y4,y5,y6⟩;go_simp
          simp only[Act.put,AP];go_big_quiet_on;go_big_quiet_want;refine qv (.pointer (some ⟨g,o+k*6,none⟩)) ?_ ?_
          ·rintro w' ⟨z0,⟨z1,z2,z3,z4,z5,z6⟩,y1,y2,y3,y4,y5,y6⟩;go_simp
          simp only[Act.put,AP];go_big_quiet_on;go_big_quiet_want;refine qv (.pointer (some ⟨g,o+k*6+1,none⟩)) ?_ ?_
          ·rintro w' ⟨z0,⟨z1,z2,z3,z4,z5,z6⟩,y1,y2,y3,y4,y5,y6⟩;go_simp
          simp only[Act.put,AP];go_big_quiet_on;go_big_quiet_want;refine qv (.agg #[.int i64 m,.int i64 b]) ?_ ?_
          ·rintro w' ⟨z0,⟨z1,z2,z3,z4,z5,z6⟩,y1,y2,y3,y4,y5,y6⟩;go_simp
          simp only[Act.put,AP];go_big_quiet_on;go_big_quiet_want;refine qv (.bool false) ?_ ?_
          ·rintro w' ⟨z0,⟨z1,z2,z3,z4,z5,z6⟩,y1,y2,y3,y4,y5,y6⟩;go_simp
          simp only[Act.put,AP];go_big_quiet_on;go_big_quiet_want;refine qv (.bool false) ?_ ?_
          ·rintro w' ⟨z0,⟨z1,z2,z3,z4,z5,z6⟩,y1,y2,y3,y4,y5,y6⟩;go_simp
          simp only[Act.put,AP];go_big_quiet_on;refine wpQuiet_nil ?_;intro w' hC
          go_wp2_with fail
          go_meet
          case rel=>exact⟨by rw[hky],hC.1⟩
         have f2:(m4==m)=false:=by simpa using e3
         clear e2;have hC0:=HCE.out;clear e1;refine wp_region_quiet (C:=CD w g (o+t*6) p4 m4 b4 o4 s4 v4 g (o+k*6) p m b q s v) (by kernel_rfl) (by kernel_rfl) (CD.later (W:=wr) (Below.drew (bRQ _ _)) hC0) ?_;simp only[List.toList_toArray];go_big_quiet_want;refine qv (.slice (some ⟨g,o,none⟩) n cap) ?_ ?_
         ·rintro w' ⟨z0,⟨z1,z2,z3,z4,z5,z6⟩,y1,y2,y3,y4,y5,y6⟩;go_simp
         simp only[Act.put,AP];go_big_quiet_on;go_big_quiet_want;refine qv (.int i64 (t:Int)) ?_ ?_
         ·rintro w' ⟨z0,⟨z1,z2,z3,z4,z5,z6⟩,y1,y2,y3,y4,y5,y6⟩;go_simp
         simp only[Act.put,AP];go_big_quiet_on;go_big_quiet_want;refine qv (.pointer (some ⟨g,o+t*6,none⟩)) ?_ ?_
         ·rintro w' ⟨z0,⟨z1,z2,z3,z4,z5,z6⟩,y1,y2,y3,y4,y5,y6⟩;go_simp
         simp only[Act.put,AP];go_big_quiet_on;go_big_quiet_want;refine qv (.pointer (some ⟨g,o+t*6,none⟩)) ?_ ?_
         ·rintro w' ⟨z0,⟨z1,z2,z3,z4,z5,z6⟩,y1,y2,y3,y4,y5,y6⟩;go_simp
         simp only[Act.put,AP];go_big_quiet_on;go_big_quiet_want;refine qv (.int i64 p4) ?_ ?_
         ·rintro w' ⟨z0,⟨z1,z2,z3,z4,z5,z6⟩,y1,y2,y3,y4,y5,y6⟩;go_simp
         simp only[Act.put,AP];go_big_quiet_on;go_big_quiet_want;refine qv (.slice (some ⟨g,o,none⟩) n cap) ?_ ?_
         ·rintro w' ⟨z0,⟨z1,z2,z3,z4,z5,z6⟩,y1,y2,y3,y4,y5,y6⟩;go_simp
         simp only[Act.put,AP];go_big_quiet_on;go_big_quiet_want;refine qv (.int i64 (k:Int)) ?_ ?_
         ·rintro w' ⟨z0,⟨z1,z2,z3,z4,z5,z6⟩,y1,y2,y3,y4,y5,y6⟩;go_simp
         simp only[Act.put,AP];go_big_quiet_on;go_big_quiet_want;refine qv (.pointer (some ⟨g,o+k*6,none⟩)) ?_ ?_
         ·rintro w' ⟨z0,⟨z1,z2,z3,z4,z5,z6⟩,y1,y2,y3,y4,y5,y6⟩;go_simp
         simp only[Act.put,AP];go_big_quiet_on;go_big_quiet_want;refine qv (.pointer (some ⟨g,o+k*6,none⟩)) ?_ ?_
         ·rintro w' ⟨z0,⟨z1,z2,z3,z4,z5,z6⟩,y1,y2,y3,y4,y5,y6⟩;go_simp
         simp only[Act.put,AP];go_big_quiet_on;go_big_quiet_want;refine qv (.int i64 p) ?_ ?_
         ·rintro w' ⟨z0,⟨z1,z2,z3,z4,z5,z6⟩,y1,y2,y3,y4,y5,y6⟩;go_simp
         simp only[Act.put,AP];go_big_quiet_on;go_big_quiet_want;refine qv (.bool true) ?_ ?_
         ·rintro w' ⟨z0,⟨z1,z2,z3,z4,z5,z6⟩,y1,y2,y3,y4,y5,y6⟩;go_simp
         simp only[Act.put,AP];go_big_quiet_on;go_big_quiet_want;refine qv (.bool true) ?_ ?_
         ·rintro w' ⟨z0,⟨z1,z2,z3,z4,z5,z6⟩,y1,y2,y3,y4,y5,y6⟩;go_simp
         simp only[Act.put,AP];go_big_quiet_on;go_big_quiet_want;refine qv (.slice (some ⟨g,o,none⟩) n cap) ?_ ?_
         ·rintro w' ⟨z0,⟨z1,z2,z3,z4,z5,z6⟩,y1,y2,y3,y4,y5,y6⟩;go_simp
         simp only[Act.put,AP];go_big_quiet_on;go_big_quiet_want;refine qv (.int i64 (t:Int)) ?_ ?_
         ·rintro w' ⟨z0,⟨z1,z2,z3,z4,z5,z6⟩,y1,y2,y3,y4,y5,y6⟩;go_simp
         simp only[Act.put,AP];go_big_quiet_on;go_big_quiet_want;refine qv (.pointer (some ⟨g,o+t*6,none⟩)) ?_ ?_
         ·rintro w' ⟨z0,⟨z1,z2,z3,z4,z5,z6⟩,y1,y2,y3,y4,y5,y6⟩;go_simp
         simp only[Act.put,AP];go_big_quiet_on;go_big_quiet_want;refine qv (.pointer (some ⟨g,o+t*6+1,none⟩)) ?_ ?_
         ·rintro w' ⟨z0,⟨z1,z2,z3,z4,z5,z6⟩,y1,y2,y3,y4,y5,y6⟩;go_simp
         simp only[Act.put,AP];go_big_quiet_on;go_big_quiet_want;refine qv (.agg #[.int i64 m4,.int i64 b4]) ?_ ?_
         ·rintro w' ⟨z0,⟨z1,z2,z3,z4,z5,z6⟩,y1,y2,y3,y4,y5,y6⟩;go_simp
         simp only[Act.put,AP];go_big_quiet_on;go_big_quiet_want;refine qv (.slice (some ⟨g,o,none⟩) n cap) ?_ ?_
         ·rintro w' ⟨z0,⟨z1,z2,z3,z4,z5,z6⟩,y1,y2,y3,y4,y5,y6⟩;go_simp
         simp only[Act.put,AP];go_big_quiet_on;go_big_quiet_want;refine qv (.int i64 (k:Int)) ?_ ?_
         ·rintro w' ⟨z0,⟨z1,z2,z3,z4,z5,z6⟩,y1,y2,y3,y4,y5,y6⟩;go_simp
         simp only[Act.put,AP];go_big_quiet_on;go_big_quiet_want;refine qv (.pointer (some ⟨g,o+k*6,none⟩)) ?_ ?_
         ·rintro w' ⟨z0,⟨z1,z2,z3,z4,z5,z6⟩,y1,y2,y3,y4,y5,y6⟩;go_simp
         simp only[Act.put,AP];go_big_quiet_on;go_big_quiet_want;refine qv (.pointer (some ⟨g,o+k*6+1,none⟩)) ?_ ?_
         ·rintro w' ⟨z0,⟨z1,z2,z3,z4,z5,z6⟩,y1,y2,y3,y4,y5,y6⟩;go_simp
         simp only[Act.put,AP];go_big_quiet_on;go_big_quiet_want;refine qv (.agg #[.int i64 m,.int i64 b]) ?_ ?_
         ·rintro w' ⟨z0,⟨z1,z2,z3,z4,z5,z6⟩,y1,y2,y3,y4,y5,y6⟩;go_simp
         simp only[Act.put,AP];go_big_quiet_on;go_big_quiet_want;refine qv (.bool false) ?_ ?_
         ·rintro w' ⟨z0,⟨z1,z2,z3,z4,z5,z6⟩,y1,y2,y3,y4,y5,y6⟩;go_simp
         simp only[Act.put,AP];go_big_quiet_on;go_big_quiet_want;refine qv (.bool false) ?_ ?_
         ·rintro w' ⟨z0,⟨z1,z2,z3,z4,z5,z6⟩,y1,y2,y3,y4,y5,y6⟩;go_simp
         simp only[Act.put,AP];go_big_quiet_on;refine wpQuiet_nil ?_;intro w' hC
         go_wp2_with fail
         go_meet
         case rel=>exact⟨by rw[hky],hC.1⟩
        have hky:keyB ⟨p4,m4,b4,o4,s4,v4⟩ ⟨p,m,b,q,s,v⟩=false:=by rw[key_eq];simp[e1]
        have f1:(p4==p)=false:=by simpa using e1
        have hC0:=HCE.out;clear e1;refine wp_region_quiet (C:=CD w g (o+t*6) p4 m4 b4 o4 s4 v4 g (o+k*6) p m b q s v) (by kernel_rfl) (by kernel_rfl) (CD.later (W:=wr) (Below.drew (bRQ _ _)) hC0) ?_;simp only[List.toList_toArray];go_big_quiet_want;refine qv (.slice (some ⟨g,o,none⟩) n cap) ?_ ?_
        ·rintro w' ⟨z0,⟨z1,z2,z3,z4,z5,z6⟩,y1,y2,y3,y4,y5,y6⟩;go_simp
        simp only[Act.put,AP];go_big_quiet_on;go_big_quiet_want;refine qv (.int i64 (t:Int)) ?_ ?_
        ·rintro w' ⟨z0,⟨z1,z2,z3,z4,z5,z6⟩,y1,y2,y3,y4,y5,y6⟩;go_simp
        simp only[Act.put,AP];go_big_quiet_on;go_big_quiet_want;refine qv (.pointer (some ⟨g,o+t*6,none⟩)) ?_ ?_
        ·rintro w' ⟨z0,⟨z1,z2,z3,z4,z5,z6⟩,y1,y2,y3,y4,y5,y6⟩;go_simp
        simp only[Act.put,AP];go_big_quiet_on;go_big_quiet_want;refine qv (.pointer (some ⟨g,o+t*6,none⟩)) ?_ ?_
        ·rintro w' ⟨z0,⟨z1,z2,z3,z4,z5,z6⟩,y1,y2,y3,y4,y5,y6⟩;go_simp
        simp only[Act.put,AP];go_big_quiet_on;go_big_quiet_want;refine qv (.int i64 p4) ?_ ?_
        ·rintro w' ⟨z0,⟨z1,z2,z3,z4,z5,z6⟩,y1,y2,y3,y4,y5,y6⟩;go_simp
        simp only[Act.put,AP];go_big_quiet_on;go_big_quiet_want;refine qv (.slice (some ⟨g,o,none⟩) n cap) ?_ ?_
        ·rintro w' ⟨z0,⟨z1,z2,z3,z4,z5,z6⟩,y1,y2,y3,y4,y5,y6⟩;go_simp
        simp only[Act.put,AP];go_big_quiet_on;go_big_quiet_want;refine qv (.int i64 (k:Int)) ?_ ?_
        ·rintro w' ⟨z0,⟨z1,z2,z3,z4,z5,z6⟩,y1,y2,y3,y4,y5,y6⟩;go_simp
        simp only[Act.put,AP];go_big_quiet_on;go_big_quiet_want;refine qv (.pointer (some ⟨g,o+k*6,none⟩)) ?_ ?_
        ·rintro w' ⟨z0,⟨z1,z2,z3,z4,z5,z6⟩,y1,y2,y3,y4,y5,y6⟩;go_simp
        simp only[Act.put,AP];go_big_quiet_on;go_big_quiet_want;refine qv (.pointer (some ⟨g,o+k*6,none⟩)) ?_ ?_
        ·rintro w' ⟨z0,⟨z1,z2,z3,z4,z5,z6⟩,y1,y2,y3,y4,y5,y6⟩;go_simp
        simp only[Act.put,AP];go_big_quiet_on;go_big_quiet_want;refine qv (.int i64 p) ?_ ?_
        ·rintro w' ⟨z0,⟨z1,z2,z3,z4,z5,z6⟩,y1,y2,y3,y4,y5,y6⟩;go_simp
        simp only[Act.put,AP];go_big_quiet_on;go_big_quiet_want;refine qv (.bool false) ?_ ?_
        ·rintro w' ⟨z0,⟨z1,z2,z3,z4,z5,z6⟩,y1,y2,y3,y4,y5,y6⟩;go_simp
        simp only[Act.put,AP];go_big_quiet_on;go_big_quiet_want;refine qv (.bool false) ?_ ?_
        ·rintro w' ⟨z0,⟨z1,z2,z3,z4,z5,z6⟩,y1,y2,y3,y4,y5,y6⟩;go_simp
        simp only[Act.put,AP];go_big_quiet_on;go_big_quiet_skip;go_big_quiet_skip;go_big_quiet_skip;go_big_quiet_skip;go_big_quiet_skip;go_big_quiet_skip;go_big_quiet_skip;go_big_quiet_skip;go_big_quiet_skip;go_big_quiet_skip;go_big_quiet_skip;go_big_quiet_want;refine qv (.bool false) ?_ ?_
        ·rintro w' ⟨z0,⟨z1,z2,z3,z4,z5,z6⟩,y1,y2,y3,y4,y5,y6⟩;go_simp
        simp only[Act.put,AP];go_big_quiet_on;refine wpQuiet_nil ?_;intro w' hC
        go_wp2_with fail
        go_meet
        case rel=>exact⟨by rw[hky],hC.1⟩
      case rest =>
       obtain⟨hc2,hB3⟩:=hcut;clear HCE;cases hky:keyB ⟨p4,m4,b4,o4,s4,v4⟩ ⟨p,m,b,q,s,v⟩
       ·rw[hky] at hc2;subst hc2;go_wp2;go_roundw
        case rel=>exact⟨t+1,by omega,by go_num,any_nextR htl HANY.out (by rw[HLT.out];exact hky),hB3⟩
        case measure=>simp[intOf];omega
       rw[hky] at hc2;subst hc2;have HT:Hid (tbN L=7):=to_clashF hkl HL.out HNO.out HO.out (tab_take hq htl (by rw[HLT.out];exact hky)) (by rw[HN.out];exact hl);go_wp2;go_ret;exact⟨by rw[HT.out];rfl,hB3⟩
     obtain rfl:t=k:=by omega
     clear hB2;go_wp2;go_roundw
     case rel=>exact⟨t+1,by omega,by go_num,to_nextF hkl HL.out HNO.out HO.out HANY.out,HB2.out⟩
     case measure=>simp[intOf];omega
   have HT:Hid (tbN L=ruN p m b q s v):=to_badF hkl HL.out HNO.out ho (by rw[HN.out];exact hl);have ho2:(ruN p m b q s v != 0)=true:=by simpa using ho
   clear ho
   go_wp2_with fail
   refine (refRule_any _ _ _ _ _ _ _).mono ?_;rintro e w1 ⟨rfl,hb1⟩;have HB1:=HB.out.trans (hb1.mono HB.out.size);clear hb1;go_wp2;go_ret;exact⟨by rw[HT.out];rfl,HB1⟩
  obtain rfl:k=n:=by omega
  go_wp2;go_ret;refine⟨?_,HB.out⟩;have e1:tbN L=0:=by
   rw[tbN,if_neg (by rw[HN.out];omega),HN.out];exact HNO.out
  rw[e1];rfl
theorem refTable_long (ao:AdQ)(cap n:Nat)(w:World)(hl:12<n):
 Calls prog 17 #[.slice ao n cap] w fun e w'=>e=.returned (.int i64 4)∧Below w.heap.size w w':=by
 go_enter func17,ntmps17;go_wp2;go_ret;exact⟨rfl,bRQ _ _⟩
theorem refTable_nil (ao:AdQ)(cap:Nat)(w:World):
 Calls prog 17 #[.slice ao 0 cap] w fun e w'=>e=.returned (.int i64 0)∧Below w.heap.size w w':=by
 go_enter func17,ntmps17;go_wp2
 go_loopw [3] (fun i wr=>i=.int i64 0∧wr=w) (fun i _=>0)
 case atStart=>exact⟨rfl,rfl⟩
 case round =>
  obtain⟨rfl,rfl⟩:=hrel;go_wp2;go_ret;exact⟨rfl,bRQ _ _⟩
theorem refTable_any (v:Value)(L:List Ru)(w:World)(h:SR w v L):
 Calls prog 17 #[v] w fun e w'=>e=.returned (.int i64 (tbN L))∧Below w.heap.size w w':=by
 rcases h with ⟨ao,cap,rfl,rfl⟩ | ⟨g,o,cap,rfl,h1,h2,hc⟩
 ·exact refTable_nil ao cap w
 by_cases h12:12<L.length
 ·have e:tbN L=4:=by simp[tbN,h12]
  rw[e];exact refTable_long _ _ _ _ h12
 exact refTable_some _ _ _ _ L w hc rfl (by omega)
theorem smi_next {xs ys:List Int}{k:Nat}(h:xs.take k=ys.take k)(hx:k<xs.length)(hy:k<ys.length)(he:xs[k]=ys[k]):xs.take (k+1)=ys.take (k+1):=by
 rw[List.take_succ_eq_append_getElem hx,List.take_succ_eq_append_getElem hy,h,he]
theorem smints_any (ao bo:AdQ)(n m c d:Nat)(xs ys:List Int)(w:World)(h1:GS inE w (.slice ao n c) xs)(h2:GS inE w (.slice bo m d) ys):
 Calls prog 21 #[.slice ao n c,.slice bo m d] w fun e w'=>e=.returned (.bool (xs==ys))∧Below w.heap.size w w':=by
 obtain⟨_,_,_,e1,hn,hn2,_,ha⟩:=h1.form;cases e1;obtain⟨_,_,_,e2,hm,hm2,_,hb⟩:=h2.form;cases e2;by_cases hl:n=m
 ·subst hl;have HX:Hid (xs.length=n):=hn;have HY:Hid (ys.length=n):=hm;have HA:Hid (0<n→∃g o,ao=some ⟨g,o,none⟩∧GAt inE w g o xs∧c≤maxLen):=ha;have HB2:Hid (0<n→∃g o,bo=some ⟨g,o,none⟩∧GAt inE w g o ys∧d≤maxLen):=hb;unfold maxLen at hn2;clear hn hm hm2 ha hb h1 h2;go_enter func21,ntmps21;go_wp2
  go_loopw [5] (fun i wr=>∃k:Nat,k≤n∧i=.int i64 k∧xs.take k=ys.take k∧Below w.heap.size w wr) (fun i _=>n-(intOf i).toNat)
  case atStart=>exact⟨0,by omega,rfl,by simp,bRQ _ _⟩
  case round =>
   obtain⟨k,hk,rfl,he,hB⟩:=hrel;have HB:Hid (Below w.heap.size w wr):=hB;have HE:Hid (xs.take k=ys.take k):=he;clear he;by_cases hlt:k<n
   ·obtain⟨g,o,hao,hc,_⟩:=HA.out (by omega);obtain⟨f,q,hbo,hd,_⟩:=HB2.out (by omega);subst hao hbo;obtain⟨x,hkx,hxk,r0⟩:=in_at (hc.later hB) HX.out hlt;obtain⟨y,hky,hyk,r1⟩:=in_at (hd.later hB) HY.out hlt;have HXK:Hid (xs[k]=x):=hxk;have HYK:Hid (ys[k]=y):=hyk;clear hxk hyk hc hd hB;by_cases hne:x=y
    ·subst hne;go_wp2
     go_quiet (fail)
     go_wp2;go_roundw
     case rel=>exact⟨k+1,by omega,by go_num,smi_next HE.out hkx hky (HXK.out.trans HYK.out.symm),HB.out.trans ⟨rfl,rfl,rfl,nLQ _,fun _ _=>rfl⟩⟩
     case measure=>simp[intOf];omega
    go_wp2
    go_quiet (fail)
    go_wp2;go_ret;exact⟨by
     have:(xs==ys)=false:=by
      simp only[beq_eq_false_iff_ne,ne_eq];intro h;subst h;exact hne (HXK.out.symm.trans HYK.out)
     rw[this];rfl,HB.out.trans ⟨rfl,rfl,rfl,nLQ _,fun _ _=>rfl⟩⟩
   obtain rfl:k=n:=by omega
   go_wp2;go_ret;exact⟨by
    have h3:=HE.out;rw[List.take_of_length_le (by rw[HX.out];exact nLQ _),List.take_of_length_le (by rw[HY.out];exact nLQ _)] at h3;rw[h3];simp,HB.out⟩
 have e:(xs==ys)=false:=by
  simp only[beq_eq_false_iff_ne,ne_eq];intro h;subst h;exact hl (hn.symm.trans hm)
 rw[e];have h3:(n:Int)≠(m:Int):=by omega
 clear e ha hb h1 h2;go_enter func21,ntmps21;go_wp2;go_ret;exact⟨rfl,bRQ _ _⟩
end
namespace agentPlays
open Go.RowKit
theorem msg_refl (L:List Mg):smG msgB L L=true:=smG_iff.2 ⟨rfl,fun i h1 h2=>(msgB_iff _ _).2 rfl⟩
theorem walk {Pg:World→Nat→Nat→(Nat→Prop)→Int→AgT→Prop}(I:PgI Pg)(N:Int)(ao:AdQ)(k c:Nat)(t:List Ru)(a2:AdQ)(n2 c2:Nat)(L:List Mg)(a3:AdQ)(n3 c3:Nat)(K:List Int)(w:World)
 (hs:SR w (.slice ao k c) t) (hl:GS msgE w (.slice a2 n2 c2) L) (hw:GS inE w (.slice a3 n3 c3) K) (hg:HasErr w):
 Calls prog 5 #[.int i64 N,.slice ao k c,.slice a2 n2 c2,.slice a3 n3 c3] w fun e w'=>e=.returned (.bool true)∧Below w.heap.size w w':=by
 have hao:k=0∨∀ad,ao=some ad→ad.block<w.heap.size:=by
  rcases hs with ⟨ao',cap',e,rfl⟩ | ⟨g,o,cap',e,h1,h2,h3⟩
  ·cases e;exact .inl rfl
  cases e;by_cases h0:t.length=0
  ·exact .inl h0
  refine .inr fun ad ha=>?_
  cases ha;exact h3.lt (by omega)
 have HAO:Hid (k=0∨∀ad,ao=some ad→ad.block<w.heap.size):=hao;have HT:Hid (∀W,Below w.heap.size w W→SR W (.slice ao k c) t):=fun W hb=>hs.later hb
 have HG:Hid (∀W,Below w.heap.size w W→HasErr W):=fun W hb=>hg.later hb
 obtain⟨_,_,_,e1,hn,hn2,_,hla⟩:=hl.form;cases e1;have HLN:Hid (L.length=n2):=hn;have HLA:Hid (0<n2→∃g o,a2=some ⟨g,o,none⟩∧GAt msgE w g o L):=fun h=>by
  obtain⟨g,o,h1,h2,_⟩:=hla h;exact⟨g,o,h1,h2⟩
 obtain⟨_,_,_,e1,hm,hm2,_,hwa⟩:=hw.form;cases e1;have HKN:Hid (K.length=n3):=hm;have HKA:Hid (0<n3→∃g o,a3=some ⟨g,o,none⟩∧GAt inE w g o K):=fun h=>by
  obtain⟨g,o,h1,h2,_⟩:=hwa h;exact⟨g,o,h1,h2⟩
 unfold maxLen at hn2 hm2;obtain⟨E,hE⟩:∃E,E=nwN N t:=⟨_,rfl⟩;have HE:Hid (nwN N t=E):=hE.symm;clear hao hs hl hw hg hn hla hm hwa hE;go_enter func5,ntmps5;obtain⟨BN,hBN⟩:∃B:Bool,B=(decide (N<1) || decide (N > 6)):=⟨_,rfl⟩;have HBN:Hid (BN=(decide (N<1) || decide (N > 6))):=hBN;clear hBN;go_upto_region 2 with fail
 go_cut [27] from 22 to 26 (fun q w'=>q=.bool BN∧w'=w)
 case first =>
  by_cases h1:N<1
  ·have hb:BN=true:=by rw[HBN.out];simp[h1]
   subst hb;go_wp2
   go_meet
   case rel=>exact⟨rfl,rfl⟩
  have hb:BN=decide (N > 6):=by rw[HBN.out];simp[h1]
  subst hb;go_wp2
  go_meet
  case rel=>exact⟨rfl,rfl⟩
 case rest =>
 obtain⟨rfl,hw0⟩:=hcut;have hw1:=hw0.symm;subst hw1;clear hw0
 go_upto_if 27 with fail
 go_cut [9] from 27 (fun v w'=>v=.int i64 E∧Below w.heap.size w w')
 case first =>
  cases BN with
  | true =>
    have he:E=1:=by
     have h:=HBN.out;rw[←HE.out,nwN,if_neg];intro h2;have h3:¬N<1:=by omega
     have h4:¬N > 6:=by omega
     simp[h3,h4] at h
    subst he;go_wp2
    go_meet
    exact⟨rfl,bRQ _ _⟩
  | false =>
    have he:tbN t=E:=by
     have h:=HBN.out;simp at h;rw[←HE.out,nwN,if_pos (by omega)]
    have HE2:Hid (tbN t=E):=he;clear he
    go_wp2_with fail
    refine (refTable_any _ t _ (HT.out _ (bRQ _ _))).mono ?_;rintro e w1 ⟨rfl,hb1⟩;rw[HE2.out];have HB1:Hid (Below w.heap.size w w1):=hb1;clear hb1;go_wp2
    go_meet
    exact⟨rfl,HB1.out⟩
 case rest =>
  obtain⟨rfl,hb0⟩:=hcut;have HB0:Hid (Below w.heap.size w wc):=hb0;clear hb0
  go_wp2_with fail
  refine (I.new N ao k c t w.heap.size _ (HT.out _ HB0.out) HB0.out.size HAO.out).mono ?_;rintro e w2 ⟨v,rfl,hb2,hv⟩;rw[HE.out] at hv ⊢;have HB2:Hid (Below w.heap.size w w2):=HB0.out.trans (hb2.mono HB0.out.size);have HV:Hid (E=0→∃p O,v=.pointer (some ⟨p,0,none⟩)∧Pg w2 p w.heap.size O N (ag0 t)∧∀b,O b→wc.heap.size≤b):=hv;clear hv hb2
  go_wp2_with fail
  refine (same_noV E _ (HG.out _ HB2.out)).mono ?_;rintro e w3 ⟨rfl,hb3⟩;have HB3:Hid (Below w2.heap.size w2 w3):=hb3;have HB3':Hid (Below w.heap.size w w3):=HB2.out.trans (hb3.mono HB2.out.size);clear hb3;by_cases hE0:E=0
  ·subst hE0;obtain⟨p1,O1,hv,hP1,hO1⟩:=HV.out rfl;subst hv;have HP1:Hid (Pg w3 p1 w.heap.size O1 N (ag0 t)):=I.kb hP1 (Kb.of_below HB3.out fun b hl _=>hl);have HTB:Hid (tbN t=0):=by
    show _=_;have h:=HE.out;unfold nwN at h
    split at h
    ·exact h
    cases h
   clear hP1 HV
   go_wp2_with fail
   refine (rnew_any N ao k c t w.heap.size _ (HT.out _ HB3'.out) HB3'.out.size HAO.out).mono ?_;rintro e w4 ⟨rfl,hR4,hb4⟩;obtain⟨p2,hp2⟩:∃p2,p2=w3.heap.size:=⟨_,rfl⟩;have HS4:Hid (AgS Pg w p1 w3.heap.size O1 (fun b=>w3.heap.size≤b∧b<w4.heap.size) N (ag0 t) (2*0) w4):=
    ⟨I.kb HP1.out (Kb.of_below hb4 fun b hl _=>hl),hR4,fun b h1 h2=>by have:=(I.lt HP1.out b h1).2;omega,ok_new HTB.out,HB3'.out.trans (hb4.mono HB3'.out.size),fun b hb=>⟨Nat.le_trans HB3'.out.size hb.1,hb.2⟩⟩
   rw[←hp2] at HS4 ⊢;clear hR4 hb4 hp2 HP1;go_wp2
   go_loopw [14] (fun i wr=>∃(j:Nat) (a:AgT) (O1 O2:Nat→Prop),j≤n2∧j≤60∧i=.int i64 j∧AgS Pg w p1 p2 O1 O2 N a (2*j) wr) (fun i _=>n2-(intOf i).toNat)
   case atStart=>exact⟨0,_,_,_,by omega,by omega,rfl,HS4.out⟩
   case round =>
    obtain⟨j,a,O1,O2,hj,hj6,rfl,hS⟩:=hrel;have HS:Hid (AgS Pg w p1 p2 O1 O2 N a (2*j) wr):=hS;clear hS HS4;obtain⟨B,hB⟩:∃B:Bool,B=(decide ((j:Int)<(n2:Int))&&decide ((j:Int)<60)):=⟨_,rfl⟩;have HBB:Hid ((decide ((j:Int)<(n2:Int))&&decide ((j:Int)<60))=B):=hB.symm;clear hB;have jb0:(0:Int)≤(j:Int):=by omega
    go_upto_region 11 with fail
    go_cut [56] from 49 to 55 (fun q w'=>q=.bool B∧w'=wr)
    case first =>
     by_cases hlt:j<n2
     ·have hlt2:(j:Int)<(n2:Int):=by omega
      have hbb:B=decide ((j:Int)<60):=by rw[←HBB.out];simp[hlt2]
      subst hbb;go_wp2
      go_meet
      case rel=>exact⟨rfl,rfl⟩
     have hlt2:¬(j:Int)<(n2:Int):=by omega
     have hbb:B=false:=by rw[←HBB.out];simp[hlt2]
     subst hbb;go_wp2
     go_meet
     case rel=>exact⟨rfl,rfl⟩
    case rest =>
     obtain⟨rfl,hwy⟩:=hcut;have hwx:=hwy.symm;subst hwx;clear hwy;cases B with
     | false =>
       go_wp2;go_ret;exact⟨rfl,HS.out.b⟩
     | true =>
       have hb:=HBB.out;simp only[Bool.and_eq_true,decide_eq_true_eq] at hb;obtain⟨hjn,hj60⟩:=hb;have hjn2:j<n2:=by omega
       obtain⟨g,o,hae,hGA⟩:=HLA.out (by omega);subst hae;obtain⟨x0,x1,x2,x3,x4,x5,x6,x7,x8,x9,x10,x11,hjl,hLj,_⟩:=msg_at hGA HLN.out hjn2;have HCL:Hid (∀V,Below w.heap.size w V→V.cell? ⟨g,o+j*12,none⟩=some (.int i64 x0)∧V.cell? ⟨g,o+j*12+1,none⟩=some (.int i64 x1)∧V.cell? ⟨g,o+j*12+2,none⟩=some (.int i64 x2)∧V.cell? ⟨g,o+j*12+3,none⟩=some (.int i64 x3)∧V.cell? ⟨g,o+j*12+4,none⟩=some (.int i64 x4)∧V.cell? ⟨g,o+j*12+5,none⟩=some (.bool x5)∧V.cell? ⟨g,o+j*12+6,none⟩=some (.int i64 x6)∧V.cell? ⟨g,o+j*12+7,none⟩=some (.int i64 x7)∧V.cell? ⟨g,o+j*12+8,none⟩=some (.int i64 x8)∧V.cell? ⟨g,o+j*12+9,none⟩=some (.int i64 x9)∧V.cell? ⟨g,o+j*12+10,none⟩=some (.int i64 x10)∧V.cell? ⟨g,o+j*12+11,none⟩=some (.int i64 x11)):=fun V hb=>by
        obtain⟨y0,y1,y2,y3,y4,y5,y6,y7,y8,y9,y10,y11,hjl2,h2,h3⟩:=msg_at (hGA.later hb) HLN.out hjn2;rw[hLj] at h2;cases h2;exact h3
       have hjk:2*j≤1000:=by omega
       obtain⟨Z,hZ⟩:∃Z,Z=hrN N ⟨x0,x1,x2,x3,⟨x4,x5,⟨x6,x7,x8,x9,x10,x11⟩⟩⟩:=⟨_,rfl⟩;have HZ:Hid (hrN N ⟨x0,x1,x2,x3,⟨x4,x5,⟨x6,x7,x8,x9,x10,x11⟩⟩⟩=Z):=hZ.symm;obtain⟨A1,hA1⟩:∃A1,A1=hrA N a ⟨x0,x1,x2,x3,⟨x4,x5,⟨x6,x7,x8,x9,x10,x11⟩⟩⟩:=⟨_,rfl⟩;have HA1:Hid (hrA N a ⟨x0,x1,x2,x3,⟨x4,x5,⟨x6,x7,x8,x9,x10,x11⟩⟩⟩=A1):=hA1.symm;obtain⟨a',ha'⟩:∃a',a'=hrS N a ⟨x0,x1,x2,x3,⟨x4,x5,⟨x6,x7,x8,x9,x10,x11⟩⟩⟩:=⟨_,rfl⟩;have HSA:Hid (hrS N a ⟨x0,x1,x2,x3,⟨x4,x5,⟨x6,x7,x8,x9,x10,x11⟩⟩⟩=a'):=ha'.symm;have HOK:Hid (AgOK a' (2*j+1)):=by
        show AgOK _ _;rw[ha'];exact ok_hr HS.out.ok
       clear hGA hLj hZ hA1 ha' HBB HLA;obtain⟨q0,q1,q2,q3,q4,q5,q6,q7,q8,q9,q10,q11⟩:=HCL.out _ HS.out.b
       go_wp2_with fail
       refine (rhear_R x0 x1 x2 x3 x4 x5 x6 x7 x8 x9 x10 x11 _ HS.out.r HS.out.ok hjk).mono ?_;rintro e w5 ⟨a5,n5,c5,rfl,hg5,hn5,O2',hR5,hO5,hnO5,hk5⟩;rw[HZ.out];rw[HA1.out] at hg5;have HB5:Hid (Below w.heap.size w w5):=HS.out.b.trans (hk5.below HS.out.b.size fun b hb hc=>by have:=(HS.out.l2 b hc).1;omega);have HP5:Hid (Pg w5 p1 w.heap.size O1 N a):=ag_keep I HS.out hk5;clear q0 q1 q2 q3 q4 q5 q6 q7 q8 q9 q10 q11;obtain⟨q0,q1,q2,q3,q4,q5,q6,q7,q8,q9,q10,q11⟩:=HCL.out _ HB5.out
       go_wp2_with fail
       refine (I.hear x0 x1 x2 x3 x4 x5 x6 x7 x8 x9 x10 x11 _ HP5.out HS.out.ok hjk).mono ?_;rintro e w6 ⟨a6,n6,c6,rfl,hg6,hn6,O1',hP6,hO6,hnO6,hk6⟩;rw[HZ.out];rw[HA1.out] at hg6;rw[HSA.out] at hR5 hP6;have HS6:Hid (AgS Pg w p1 p2 O1' O2' N a' (2*j+1) w6):=ag_two I HS.out HOK.out hR5 hO5 hk5 hP6 hO6 hk6;have HW5:Hid (GS msgE w6 (.slice a5 n5 c5) A1):=gs_kb hg5 hk6 fun ad ha h1=>by
        have h2:=hn5 ad ha;have h3:=(I.lt HS.out.g _ h1).2;omega
       have HW6:Hid (GS msgE w6 (.slice a6 n6 c6) A1):=hg6;clear hg5 hn5 hR5 hO5 hnO5 hk5 hg6 hn6 hP6 hO6 hnO6 hk6 q0 q1 q2 q3 q4 q5 q6 q7 q8 q9 q10 q11 HP5 HS HZ HA1 HSA HB5
       go_wp2_with fail
       refine (same_noV Z _ (HG.out _ HS6.out.b)).mono ?_;rintro e w7 ⟨rfl,hb7⟩;have HB7:Hid (Below w6.heap.size w6 w7):=hb7;clear hb7
       go_wp2_with fail
       refine (msg_same a6 n6 c6 a5 n5 c5 A1 A1 _ (HW6.out.later HB7.out) (HW5.out.later HB7.out)).mono ?_;rintro e w8 ⟨rfl,hb8⟩;rw[msg_refl];have HS8:Hid (AgS Pg w p1 p2 O1' O2' N a' (2*j+1) w8):=HS6.out.later I (HB7.out.trans (hb8.mono HB7.out.size));clear hb8 HW5 HW6 HB7 HS6 HOK;obtain⟨BW,hBW⟩:∃B:Bool,B=(decide ((j:Int)<(n3:Int))&&(K.getD j 0==1)):=⟨_,rfl⟩;have HBW:Hid (BW=(decide ((j:Int)<(n3:Int))&&(K.getD j 0==1))):=hBW;clear hBW;go_upto_region 19 with fail
       go_cut [99] from 89 to 98 (fun q w'=>q=.bool BW∧w'=w8)
       case first =>
        by_cases hlt:j<n3
        ·obtain⟨g3,o3,he3,hG3⟩:=HKA.out (by omega);subst he3;have hkl:j<K.length:=by rw[HKN.out];exact hlt
         have hc3:=(hG3.later HS8.out.b) j hkl 0 _ rfl;have e0:o3+j*inE.n+0=o3+j:=by show o3+j*1+0=o3+j;omega
         rw[e0] at hc3;obtain⟨y,hy⟩:∃y,y=K[j]:=⟨_,rfl⟩;rw[←hy] at hc3;have hb:BW=(y==1):=by
          rw[HBW.out,hy];have h1:(j:Int)<(n3:Int):=by omega
          simp[h1,List.getD,hkl]
         have hlt2:(j:Int)<(n3:Int):=by omega
         subst hb;clear hG3 hy e0 hkl;go_wp2
         go_meet
         case rel=>exact⟨rfl,rfl⟩
        have hlt2:¬(j:Int)<(n3:Int):=by omega
        have hb:BW=false:=by rw[HBW.out];simp[hlt2]
        subst hb;go_wp2
        go_meet
        case rel=>exact⟨rfl,rfl⟩
       case rest =>
       obtain⟨rfl,hw0⟩:=hcut;have hw1:=hw0.symm;subst hw1;clear hw0
       go_upto_if 99 with fail
       go_cut [] from 99 (fun w'=>∃(a9:AgT) (P1 P2:Nat→Prop),AgS Pg w p1 p2 P1 P2 N a9 (2*j+2) w')
       case first =>
        cases BW with
        | false =>
          have HFX:Hid (AgS Pg w p1 p2 O1' O2' N a' (2*j+2) w8):=⟨HS8.out.g,HS8.out.r,HS8.out.d,HS8.out.ok.mono (by omega),HS8.out.b,HS8.out.l2⟩;go_wp2
          go_meet
          exact⟨_,_,_,HFX.out⟩
        | true =>
          have hjk2:2*j+1≤1000:=by omega
          obtain⟨Y,hY⟩:∃Y,Y=wkN a':=⟨_,rfl⟩;have HY:Hid (wkN a'=Y):=hY.symm;obtain⟨A2,hA2⟩:∃A2,A2=wkA N a':=⟨_,rfl⟩;have HA2:Hid (wkA N a'=A2):=hA2.symm;obtain⟨a9,ha9⟩:∃a9,a9=wkS a':=⟨_,rfl⟩;have HSW:Hid (wkS a'=a9):=ha9.symm;have HOK9:Hid (AgOK a9 (2*j+1+1)):=by
           show AgOK _ _;rw[ha9];exact ok_wk HS8.out.ok
          clear hY hA2 ha9
          go_wp2_with fail
          refine (rwork_R _ HS8.out.r HS8.out.ok hjk2).mono ?_;rintro e w9 ⟨a5,n5,c5,rfl,hg5,hn5,Q2,hR5,hO5,hnO5,hk5⟩;rw[HY.out];rw[HA2.out] at hg5;have HP9:Hid (Pg w9 p1 w.heap.size O1' N a'):=ag_keep I HS8.out hk5
          go_wp2_with fail
          refine (I.work _ HP9.out HS8.out.ok hjk2).mono ?_;rintro e w10 ⟨a6,n6,c6,rfl,hg6,hn6,Q1,hP6,hO6,hnO6,hk6⟩;rw[HY.out];rw[HA2.out] at hg6;rw[HSW.out] at hR5 hP6;have HS10:Hid (AgS Pg w p1 p2 Q1 Q2 N a9 (2*j+1+1) w10):=ag_two I HS8.out HOK9.out hR5 hO5 hk5 hP6 hO6 hk6;have HW5:Hid (GS msgE w10 (.slice a5 n5 c5) A2):=gs_kb hg5 hk6 fun ad ha h1=>by
           have h2:=hn5 ad ha;have h3:=(I.lt HS8.out.g _ h1).2;omega
          have HW6:Hid (GS msgE w10 (.slice a6 n6 c6) A2):=hg6;clear hg5 hn5 hR5 hO5 hnO5 hk5 hg6 hn6 hP6 hO6 hnO6 hk6 HP9 HS8 HY HA2 HSW
          go_wp2_with fail
          refine (same_noV Y _ (HG.out _ HS10.out.b)).mono ?_;rintro e w11 ⟨rfl,hb11⟩;have HB11:Hid (Below w10.heap.size w10 w11):=hb11;clear hb11
          go_wp2_with fail
          refine (msg_same a6 n6 c6 a5 n5 c5 A2 A2 _ (HW6.out.later HB11.out) (HW5.out.later HB11.out)).mono ?_;rintro e w12 ⟨rfl,hb12⟩;rw[msg_refl];have HS12:Hid (AgS Pg w p1 p2 Q1 Q2 N a9 (2*j+2) w12):=HS10.out.later I (HB11.out.trans (hb12.mono HB11.out.size));clear hb12 HW5 HW6 HB11 HS10 HOK9;go_wp2
          go_meet
          exact⟨_,_,_,HS12.out⟩
       case rest =>
        obtain⟨a9,P1,P2,hS9⟩:=hcut;have HS9:Hid (∀V,Below wc.heap.size wc V→AgS Pg w p1 p2 P1 P2 N a9 (2*j+2) V):=fun V hb=>hS9.later I hb
        have hjk2:2*j+2≤1000:=by omega
        obtain⟨⟨ax,nx,cx⟩,vl,vm,vd,hR⟩:=hS9.r;obtain⟨ad,cd,e5⟩:=own_form hR.d;obtain⟨nd,hnd⟩:∃nd,nd=a9.d.length:=⟨_,rfl⟩;rw[←hnd] at e5;subst e5;have HRR:Hid (∀V,Below wc.heap.size wc V→RfA V p2 w.heap.size P2 N a9 (ax,nx,cx) vl vm (.slice ad nd cd)):=fun V hb=>hR.later hb
        have c1:wc.cell? ⟨p2,1,none⟩=some (.slice ax nx cx):=hR.c1;clear hS9 hR hnd HS8;go_upto_region 26 with fail
        go_cut [20] from 122 to 128 (fun q w'=>q=.bool true∧Below wc.heap.size wc w')
        case first =>
         go_region_with (first | (go_at_call 11;refine (I.table _ (HS9.out _ (by first | exact Below.drew (bRQ _ _) | exact bRQ _ _)).g (HS9.out _ (by first | exact Below.drew (bRQ _ _) | exact bRQ _ _)).ok hjk2).mono ?_;rintro e w9 ⟨a5,n5,c5,rfl,hs5,hb5⟩;have HB9:Hid (Below wc.heap.size wc w9):=(Below.drew (bRQ _ _)).trans hb5;have c1':=cell_later HB9.out c1) | (go_at_call 10;refine (tabs_any a5 n5 c5 ax nx cx a9.t _ hs5 (HRR.out _ HB9.out).t).mono ?_;rintro e w10 ⟨rfl,hb6⟩))
         all_goals (go_wp2_with fail;go_meet)
         all_goals exact⟨rfl,HB9.out.trans (hb6.mono HB9.out.size)⟩
        case rest =>
         obtain⟨rfl,hbx⟩:=hcut;have HBX:Hid (Below _ _ wc):=hbx;obtain⟨wx,hwx⟩:∃V,V=wc:=⟨_,rfl⟩;subst hwx;have HS10:Hid (∀V,Below wx.heap.size wx V→AgS Pg w p1 p2 P1 P2 N a9 (2*j+2) V):=fun V hb=>HS9.out V (HBX.out.trans (hb.mono HBX.out.size))
         have HR10:Hid (∀V,Below wx.heap.size wx V→RfA V p2 w.heap.size P2 N a9 (ax,nx,cx) vl vm (.slice ad nd cd)):=fun V hb=>HRR.out V (HBX.out.trans (hb.mono HBX.out.size))
         have c4:wx.cell? ⟨p2,4,none⟩=some (.slice ad nd cd):=(HR10.out wx (bRQ _ _)).c4;clear hbx HBX HS9 HRR c1;go_upto_region 27 with fail
         go_cut [21] from 129 to 135 (fun q w'=>q=.bool true∧Below wx.heap.size wx w')
         case first =>
          go_region_with (first | (go_at_call 16;refine (I.done _ (HS10.out _ (by first | exact Below.drew (bRQ _ _) | exact bRQ _ _)).g (HS10.out _ (by first | exact Below.drew (bRQ _ _) | exact bRQ _ _)).ok hjk2).mono ?_;rintro e w9 ⟨a5,n5,c5,rfl,hs5,hb5⟩;have HB9:Hid (Below wx.heap.size wx w9):=(Below.drew (bRQ _ _)).trans hb5;have c4':=cell_later HB9.out c4) | (go_at_call 21;refine (smints_any a5 ad n5 nd c5 cd a9.d a9.d _ hs5 (own_GS (HR10.out _ HB9.out).d)).mono ?_;rintro e w10 ⟨rfl,hb6⟩))
          all_goals (go_wp2_with fail;go_meet)
          all_goals exact⟨by simp,HB9.out.trans (hb6.mono HB9.out.size)⟩
         case rest =>
          obtain⟨rfl,hby⟩:=hcut;have HBY:Hid (Below wx.heap.size wx wc):=hby
          have HS11:Hid (∀V,Below wc.heap.size wc V→AgS Pg w p1 p2 P1 P2 N a9 (2*j+2) V):=fun V hb=>HS10.out V (HBY.out.trans (hb.mono HBY.out.size))
          have HR11:Hid (∀V,Below wc.heap.size wc V→RfA V p2 w.heap.size P2 N a9 (ax,nx,cx) vl vm (.slice ad nd cd)):=fun V hb=>HR10.out V (HBY.out.trans (hb.mono HBY.out.size))
          have HQ:Hid (wc.cell? ⟨g,o+j*12+2,none⟩=some (.int i64 x2)):=(HCL.out wc (HS11.out wc (bRQ _ _)).b).2.2.1;obtain⟨R,hR⟩:∃R,R=rdyN a9:=⟨_,rfl⟩;have HRD:Hid (rdyN a9=R):=hR.symm;obtain⟨D,hD⟩:∃D,D=hdN a9.l x2:=⟨_,rfl⟩;have HHD:Hid (hdN a9.l x2=D):=hD.symm;have jb1:(j:Int)<(n2:Int):=by omega
          clear hby HBY HS10 HR10 c4 hR hD;go_upto_region 28 with fail
          go_cut [165] from 136 to 164 (fun q w'=>q=.bool false∧Below wc.heap.size wc w')
          case first =>
           as_aux_lemma =>
            refine wp_region_quiet (C:=fun W=>Below wc.heap.size wc W∧W.cell? ⟨g,o+j*12+2,none⟩=some (.int i64 x2)) (by kernel_rfl) (by kernel_rfl) ⟨Below.drew (bRQ _ _),HQ.out⟩ ?_;simp only[List.toList_toArray];go_big_quiet_want;refine qv (.bool true) ?_ ?_
            ·rintro w' ⟨z0,z1⟩;go_simp
            simp only[Act.put,AP];go_big_quiet_on;go_big_quiet_want;refine qv (.bool false) ?_ ?_
            ·rintro w' ⟨z0,z1⟩;go_simp
            simp only[Act.put,AP];go_big_quiet_on;go_big_quiet_want;refine qv (.bool false) ?_ ?_
            ·rintro w' ⟨z0,z1⟩;go_simp
            simp only[Act.put,AP];go_big_quiet_on;go_big_quiet_want;refine qv (.bool true) ?_ ?_
            ·rintro w' ⟨z0,z1⟩;go_simp
            simp only[Act.put,AP];go_big_quiet_on;go_big_quiet_want;refine qv (.bool false) ?_ ?_
            ·rintro w' ⟨z0,z1⟩;go_simp
            simp only[Act.put,AP];go_big_quiet_on;go_big_quiet_want;refine qv (.bool false) ?_ ?_
            ·rintro w' ⟨z0,z1⟩;go_simp
            simp only[Act.put,AP];go_big_quiet_on;go_big_quiet_want;refine qv (.bool false) ?_ ?_
            ·rintro w' ⟨z0,z1⟩;go_simp
            simp only[Act.put,AP];go_big_quiet_on;go_big_quiet_want;refine qv (.pointer (some ⟨p1,0,none⟩)) ?_ ?_
            ·rintro w' ⟨z0,z1⟩;go_simp
            simp only[Act.put,AP];go_big_quiet_on;go_big_quiet_want;refine quiet_call (f:=9) (args:=#[.pointer (some ⟨p1,0,none⟩)]) (v:=.int i64 R) (fun w'=>?_) (fun w' hC=>(I.ready w' (HS11.out _ hC.1).g (HS11.out _ hC.1).ok hjk2).mono (fun e w2 h2=>⟨by rw[h2.1,HRD.out],hC.1.trans (h2.2.mono hC.1.size),cell_later h2.2 hC.2⟩)) ?_
            ·go_simp
            simp only[Act.put,AP];go_big_quiet_on;go_big_quiet_want;refine qv (.pointer (some ⟨p2,0,none⟩)) ?_ ?_
            ·rintro w' ⟨z0,z1⟩;go_simp
            simp only[Act.put,AP];go_big_quiet_on;go_big_quiet_want;refine quiet_call (f:=22) (args:=#[.pointer (some ⟨p2,0,none⟩)]) (v:=.int i64 R) (fun w'=>?_) (fun w' hC=>(rready_any w' (HR11.out _ hC.1) (HS11.out _ hC.1).ok.m (HS11.out _ hC.1).ok.y).mono (fun e w2 h2=>⟨by rw[h2.1,HRD.out],by rw[h2.2];exact hC⟩)) ?_
            ·go_simp
            simp only[Act.put,AP];go_big_quiet_on;go_big_quiet_want;refine qv (.bool false) ?_ ?_
            ·rintro w' ⟨z0,z1⟩;go_simp
            simp only[Act.put,AP];go_big_quiet_on;go_big_quiet_want;refine qv (.bool false) ?_ ?_
            ·rintro w' ⟨z0,z1⟩;go_simp
            simp only[Act.put,AP];go_big_quiet_on;go_big_quiet_want;refine qv (.bool false) ?_ ?_
            ·rintro w' ⟨z0,z1⟩;go_simp
            simp only[Act.put,AP];go_big_quiet_on;go_big_quiet_want;refine qv (.pointer (some ⟨p1,0,none⟩)) ?_ ?_
            ·rintro w' ⟨z0,z1⟩;go_simp
            simp only[Act.put,AP];go_big_quiet_on;go_big_quiet_want;refine qv (.slice (some ⟨g,o,none⟩) n2 c2) ?_ ?_
            ·rintro w' ⟨z0,z1⟩;go_simp
            simp only[Act.put,AP];go_big_quiet_on;go_big_quiet_want;refine qv (.int i64 (j:Int)) ?_ ?_
            ·rintro w' ⟨z0,z1⟩;go_simp
            simp only[Act.put,AP];go_big_quiet_on;go_big_quiet_want;refine qv (.pointer (some ⟨g,o+j*12,none⟩)) ?_ ?_
            ·rintro w' ⟨z0,z1⟩;go_simp
            simp only[Act.put,AP];go_big_quiet_on;go_big_quiet_want;refine qv (.pointer (some ⟨g,o+j*12+2,none⟩)) ?_ ?_
            ·rintro w' ⟨z0,z1⟩;go_simp
            simp only[Act.put,AP];go_big_quiet_on;go_big_quiet_want;refine qv (.int i64 x2) ?_ ?_
            ·rintro w' ⟨z0,z1⟩;go_simp
            simp only[Act.put,AP];go_big_quiet_on;go_big_quiet_want;refine quiet_call (f:=12) (args:=#[.pointer (some ⟨p1,0,none⟩),.int i64 x2]) (v:=.int i64 (D:Nat)) (fun w'=>?_) (fun w' hC=>(I.heard x2 w' (HS11.out _ hC.1).g (HS11.out _ hC.1).ok hjk2).mono (fun e w2 h2=>⟨by rw[h2.1,HHD.out],hC.1.trans (h2.2.mono hC.1.size),cell_later h2.2 hC.2⟩)) ?_
            ·go_simp
            simp only[Act.put,AP];go_big_quiet_on;go_big_quiet_want;refine qv (.pointer (some ⟨p2,0,none⟩)) ?_ ?_
            ·rintro w' ⟨z0,z1⟩;go_simp
            simp only[Act.put,AP];go_big_quiet_on;go_big_quiet_want;refine qv (.slice (some ⟨g,o,none⟩) n2 c2) ?_ ?_
            ·rintro w' ⟨z0,z1⟩;go_simp
            simp only[Act.put,AP];go_big_quiet_on;go_big_quiet_want;refine qv (.int i64 (j:Int)) ?_ ?_
            ·rintro w' ⟨z0,z1⟩;go_simp
            simp only[Act.put,AP];go_big_quiet_on;go_big_quiet_want;refine qv (.pointer (some ⟨g,o+j*12,none⟩)) ?_ ?_
            ·rintro w' ⟨z0,z1⟩;go_simp
            simp only[Act.put,AP];go_big_quiet_on;go_big_quiet_want;refine qv (.pointer (some ⟨g,o+j*12+2,none⟩)) ?_ ?_
            ·rintro w' ⟨z0,z1⟩;go_simp
            simp only[Act.put,AP];go_big_quiet_on;go_big_quiet_want;refine qv (.int i64 x2) ?_ ?_
            ·rintro w' ⟨z0,z1⟩;go_simp
            simp only[Act.put,AP];go_big_quiet_on;go_big_quiet_want;refine quiet_call (f:=23) (args:=#[.pointer (some ⟨p2,0,none⟩),.int i64 x2]) (v:=.int i64 (D:Nat)) (fun w'=>?_) (fun w' hC=>(rheard_any x2 w' (HR11.out _ hC.1)).mono (fun e w2 h2=>⟨by rw[h2.1,HHD.out],by rw[h2.2];exact hC⟩)) ?_
            ·go_simp
            simp only[Act.put,AP];go_big_quiet_on;go_big_quiet_want;refine qv (.bool false) ?_ ?_
            ·rintro w' ⟨z0,z1⟩;go_simp
            simp only[Act.put,AP];go_big_quiet_on;go_big_quiet_want;refine qv (.bool false) ?_ ?_
            ·rintro w' ⟨z0,z1⟩;go_simp
            simp only[Act.put,AP];go_big_quiet_on;refine wpQuiet_nil ?_;intro w' hC
            go_wp2_with fail
            go_meet
            case rel=>exact⟨rfl,hC.1⟩
          case rest =>
           obtain⟨rfl,hbz⟩:=hcut;have HS12:Hid (AgS Pg w p1 p2 P1 P2 N a9 (2*(j+1)) wc):=HS11.out wc hbz;clear hbz HS11 HR11 HQ;go_wp2;go_roundw
           case rel=>exact⟨j+1,_,_,_,by omega,by omega,by go_num,HS12.out⟩
           case measure=>simp[intOf];omega
  have hE2:(E != 0)=true:=by simpa using hE0
  go_wp2;go_ret;exact⟨rfl,HB3'.out⟩
end agentPlays
section
open Go.RowKit
def keptO (l:List Kp)(r i:Int):Option Op8:=(l.find? (kpB r i)).map Kp.o
theorem kept_has (l:List Kp)(r i:Int):(keptO l r i).isSome=hasK l r i:=by
 rw[keptO,hasK,Option.isSome_map]
 induction l with
 | nil=>rfl
 | cons x l ih =>
   rw[List.find?_cons,List.any_cons];cases kpB r i x with
   | true=>rfl
   | false=>rw[Bool.false_or];exact ih
theorem kept_op (l:List Kp)(r i:Int):(keptO l r i).getD zeP=opK l r i:=rfl
theorem kept_app (l:List Kp)(x:Kp)(r i:Int):keptO (l++[x]) r i=if (keptO l r i).isSome then keptO l r i else if kpB r i x=true then some x.o else none:=by
 unfold keptO;rw[List.find?_append];cases l.find? (kpB r i) with
 | some y=>rfl
 | none =>
   rw[Option.none_or,List.find?_singleton];cases kpB r i x <;> rfl
theorem kept_new {l:List Kp}{r i:Int}{o:Op8}(h:hasK l r i=false)(s j:Int):keptO (l++[⟨r,i,o⟩]) s j=if s=r∧j=i then some o else keptO l s j:=by
 rw[kept_app];by_cases h1:s=r∧j=i
 ·rw[if_pos h1];obtain⟨rfl,rfl⟩:=h1;rw[kept_has,h,if_neg (by simp),if_pos (by simp[kpB])]
 rw[if_neg h1];have:kpB s j ⟨r,i,o⟩=false:=by
  cases e:kpB s j ⟨r,i,o⟩ with
  | false=>rfl
  | true =>
    simp only[kpB,Bool.and_eq_true,beq_iff_eq] at e;exact absurd ⟨e.1.symm,e.2.symm⟩ h1
 rw[this];cases keptO l s j <;> rfl
def opV8 (o:Op8):Value:=.agg #[.int i64 o.w,.bool o.a,.int i64 o.r.p,.int i64 o.r.m,.int i64 o.r.b,.int i64 o.r.o,.int i64 o.r.s,.int i64 o.r.v]
theorem opv_zero (w:World):(zeroValue 43).run prog w=.ok (opV8 zeP) w:=by kernel_rfl
theorem getV_op (o:Option Op8):getV opV8 (opV8 zeP) o=opV8 (o.getD zeP):=by cases o <;> rfl
structure Pt where
 m:Option Nat
 h:Int
 a:Bool
 s:Int
 d:Bool
structure PtAt (W:World)(b o:Nat)(q:Pt):Prop where
 c0:W.cell? ⟨b,o,none⟩=some (.map q.m)
 c1:W.cell? ⟨b,o+1,none⟩=some (.int i64 q.h)
 c2:W.cell? ⟨b,o+2,none⟩=some (.bool q.a)
 c3:W.cell? ⟨b,o+3,none⟩=some (.int i64 q.s)
 c4:W.cell? ⟨b,o+4,none⟩=some (.bool q.d)
def MpA (W:World)(m:Option Nat)(M:List (Int×Op8)):Prop:=(m=none∧M=[])∨∃b,m=some b∧MAt intKey opV8 W b M
section
variable {W W':World}{b o:Nat}{q:Pt}{m:Option Nat}{M:List (Int×Op8)}
theorem PtAt.later (h:PtAt W b o q)(hb:Below W.heap.size W W'):PtAt W' b o q:=⟨cell_later hb h.c0,cell_later hb h.c1,cell_later hb h.c2,cell_later hb h.c3,cell_later hb h.c4⟩
theorem PtAt.kb {p:Nat→Prop}(h:PtAt W b o q)(hk:Kb p W W')(hp:p b):PtAt W' b o q:=⟨hk.at h.c0 hp,hk.at h.c1 hp,hk.at h.c2 hp,hk.at h.c3 hp,hk.at h.c4 hp⟩
theorem PtAt.lt (h:PtAt W b o q):b<W.heap.size:=bLQ _ _ h.c0
theorem MAt.kb {κ β:Type}{P:Program}{K:TypeId}{E:KeyE P K κ}{ve:β→Value}{B:Nat}{M:List (κ×β)}{p:Nat→Prop}(h:MAt E ve W B M)(hk:Kb p W W')(hp:p B):MAt E ve W' B M:=by
 have hlt:=h.lt;obtain⟨es,clock,h1,h2⟩:=h;exact⟨es,clock,(hk.block B hlt hp).trans h1,h2⟩
theorem MpA.kb {p:Nat→Prop}(h:MpA W m M)(hk:Kb p W W')(hp:∀b,m=some b→p b):MpA W' m M:=by
 rcases h with h | ⟨b,h1,h2⟩
 ·exact .inl h
 exact .inr ⟨b,h1,h2.kb hk (hp b h1)⟩
theorem MpA.later (h:MpA W m M)(hb:Below W.heap.size W W'):MpA W' m M:=h.kb (p:=fun _=>True) (Kb.of_below hb fun _ h _=>h) fun _ _=>trivial
theorem MpA.lt (h:MpA W m M)(b:Nat)(hb:m=some b):b<W.heap.size:=by
 rcases h with ⟨h,_⟩ | ⟨c,h1,h2⟩
 ·rw[h] at hb;cases hb
 rw[h1] at hb;cases hb;exact h2.lt
theorem mp_none (i:Int)(W:World)(ok:Bool):(Instr.lookup 76 (.map none) (.int i64 i) ok).run prog W=.ok (if ok then .tuple #[opV8 zeP,.bool false] else opV8 zeP) W:=by
 have hu:Tryd.prog.underlying 76=some (.map 3 43):=underlying76;have hc:=intKey.check true i W;have hf:=intKey.find i [] [] W rfl;have hc2:(Instr.checkKey true 10000 3 (.int i64 i)).run prog W=.ok () W:=hc;have hf2:(Instr.findKey 3 (.int i64 i) []).run prog W=.ok none W:=hf;simp only[Instr.lookup,Sem.run_bind,run_underlying hu,Result.andThen_ok,Sem.run_pure,Array.isEmpty_empty,hc2,hf2,opv_zero]
theorem MpA.look (h:MpA W m M)(i:Int):(Instr.lookup 76 (.map m) (.int i64 i) true).run prog W=.ok (.tuple #[opV8 ((mget qI i M).getD zeP),.bool (mget qI i M).isSome]) W:=by
 rcases h with ⟨rfl,rfl⟩ | ⟨b,rfl,h⟩
 ·exact mp_none i W true
 have:=run_lookup_M h 76 43 underlying76 (opV8 zeP) opv_zero i true;rw[getV_op] at this;exact this
theorem MpA.look1 (h:MpA W m M)(i:Int):(Instr.lookup 76 (.map m) (.int i64 i) false).run prog W=.ok (opV8 ((mget qI i M).getD zeP)) W:=by
 rcases h with ⟨rfl,rfl⟩ | ⟨b,rfl,h⟩
 ·exact mp_none i W false
 have:=run_lookup_M h 76 43 underlying76 (opV8 zeP) opv_zero i false;rw[getV_op] at this;exact this
end
def updF {α:Type}(f:Nat→α)(r:Nat)(v:α)(s:Nat):α:=if s=r then v else f s
theorem upd_same {α:Type}(f:Nat→α)(r:Nat)(v:α):updF f r v r=v:=if_pos rfl
theorem upd_other {α:Type}(f:Nat→α){r s:Nat}(v:α)(h:s≠r):updF f r v s=f s:=if_neg h
def PgO (p:Nat)(pt:Nat→Pt)(vd:Value)(b:Nat):Prop:=b=p∨(∃r,r<20∧(pt r).m=some b)∨vd.ownBlock=some b
structure PgC (W:World)(p B0:Nat)(O:Nat→Prop)(n:Int)(t:List Ru)(d:List Int)(x:SlT)(pt:Nat→Pt)(mp:Nat→List (Int×Op8))(vd:Value):Prop where
 c0:W.cell? ⟨p,0,none⟩=some (.int i64 n)
 c1:W.cell? ⟨p,1,none⟩=some (slV x)
 pc:∀r,r<20→PtAt W p (2+r*5) (pt r)
 cd:W.cell? ⟨p,102,none⟩=some vd
 f:∀i,W.frozen? ⟨p,i,none⟩=false
 pm:∀r,r<20→MpA W (pt r).m (mp r)
 ma:∀r s b,r<20→s<20→r≠s→(pt r).m=some b→(pt s).m≠some b
 t:SR W (slV x) t
 tx:∀b,PgO p pt vd b→offB x b
 tr:x.2.1=0∨∀ad,x.1=some ad→ad.block<B0∨O ad.block
 d:W.ownsRow (p+1) 3 inE.n vd d.length (cellsG inE d)
 ob:∀b,PgO p pt vd b→O b
 lt:∀b,O b→B0≤b∧b<W.heap.size
theorem cell_off {W:World}{p i j:Nat}{u:Value}(h:W.cell? ⟨p,i,none⟩=some u)(hij:j≠i)(v:Value):(W.setCell ⟨p,j,none⟩ v).cell? ⟨p,i,none⟩=some u:=by
 rw[World.cell?_setCell_other _ _ _ _ (by intro e;cases e;exact hij rfl)];exact h
theorem PtAt.off {W:World}{p r s j:Nat}{q:Pt}(h:PtAt W p (2+s*5) q)(hs:s≠r)(hj:j<5)(v:Value):PtAt (W.setCell ⟨p,2+r*5+j,none⟩ v) p (2+s*5) q:=
 ⟨cell_off h.c0 (by omega) v,cell_off h.c1 (by omega) v,cell_off h.c2 (by omega) v,cell_off h.c3 (by omega) v,cell_off h.c4 (by omega) v⟩
theorem PtAt.off2 {W:World}{p s i:Nat}{q:Pt}(h:PtAt W p (2+s*5) q)(hs:s<20)(hi:i<2∨101<i)(v:Value):PtAt (W.setCell ⟨p,i,none⟩ v) p (2+s*5) q:=
 ⟨cell_off h.c0 (by omega) v,cell_off h.c1 (by omega) v,cell_off h.c2 (by omega) v,cell_off h.c3 (by omega) v,cell_off h.c4 (by omega) v⟩
theorem map_cell {W:World}{b:Nat}{M:List (Int×Op8)}(h:MAt intKey opV8 W b M)(i:Nat):W.cell? ⟨b,i,none⟩=none:=by
 obtain⟨es,clock,h1,_⟩:=h;simp[World.cell?,h1]
section
variable {W W':World}{p B0:Nat}{O:Nat→Prop}{n:Int}{t:List Ru}{d:List Int}{x:SlT}{pt:Nat→Pt}{mp:Nat→List (Int×Op8)}{vd:Value}
theorem PgC.pO (h:PgC W p B0 O n t d x pt mp vd):O p:=h.ob p (.inl rfl)
theorem PgC.pl (h:PgC W p B0 O n t d x pt mp vd):p<W.heap.size:=(h.lt p h.pO).2
theorem PgC.kb (h:PgC W p B0 O n t d x pt mp vd)(hk:Kb (fun b=>b<B0∨O b) W W'):PgC W' p B0 O n t d x pt mp vd:=by
 have hp:(p<B0∨O p):=.inr h.pO;refine⟨hk.at h.c0 hp,hk.at h.c1 hp,fun r hr=>(h.pc r hr).kb hk hp,hk.at h.cd hp,fun i=>(hk.frozen (q:=⟨p,i,none⟩) h.pl hp).trans (h.f i),fun r hr=>(h.pm r hr).kb hk fun b hb=>.inr (h.ob b (.inr (.inl ⟨r,hr,hb⟩))),h.ma,h.t.kb hk h.tr,h.tx,h.tr,?_,h.ob,fun b hb=>⟨(h.lt b hb).1,Nat.lt_of_lt_of_le (h.lt b hb).2 hk.size⟩⟩;exact own_kb h.d hk fun b hb=>.inr (h.ob b (.inr (.inr hb)))
theorem PgC.later (h:PgC W p B0 O n t d x pt mp vd)(hb:Below W.heap.size W W'):PgC W' p B0 O n t d x pt mp vd:=h.kb (Kb.of_below hb fun b hl _=>hl)
theorem PgC.mne (h:PgC W p B0 O n t d x pt mp vd){r b:Nat}(hr:r<20)(hb:(pt r).m=some b):b≠p:=by
 rintro rfl
 rcases h.pm r hr with ⟨h1,_⟩ | ⟨c,h1,h2⟩
 ·rw[h1] at hb;cases hb
 rw[h1] at hb;cases hb;have:=map_cell h2 0;rw[h.c0] at this;cases this
theorem PgC.md (h:PgC W p B0 O n t d x pt mp vd){r b:Nat}(hr:r<20)(hb:(pt r).m=some b):vd.ownBlock≠some b:=by
 intro e
 rcases h.pm r hr with ⟨h1,_⟩ | ⟨c,h1,h2⟩
 ·rw[h1] at hb;cases hb
 rw[h1] at hb;cases hb;obtain⟨es,clock,h3,_⟩:=h2
 rcases h.d.2 with ⟨e1,_⟩ | ⟨g,cap,cur,e1,_,hg,_⟩
 ·rw[e1] at e;cases e
 rw[e1] at e;cases e;rw[h3] at hg;cases hg
theorem PgC.dne (h:PgC W p B0 O n t d x pt mp vd){b:Nat}(hb:vd.ownBlock=some b):b≠p:=by
 have:=(h.d.lt b hb).1;omega
theorem PgC.rest (h:PgC W p B0 O n t d x pt mp vd)(i:Nat)(v:Value):(∀r,r<20→MpA (W.setCell ⟨p,i,none⟩ v) (pt r).m (mp r))∧SR (W.setCell ⟨p,i,none⟩ v) (slV x) t∧(W.setCell ⟨p,i,none⟩ v).ownsRow (p+1) 3 inE.n vd d.length (cellsG inE d)∧(W.setCell ⟨p,i,none⟩ v).heap.size=W.heap.size∧∀j,(W.setCell ⟨p,i,none⟩ v).frozen? ⟨p,j,none⟩=false:=by
 have hk:Kb (fun b=>b≠p) W (W.setCell ⟨p,i,none⟩ v):=(Kb.refl _ W).setCell (q:=⟨p,i,none⟩) (fun _ h=>h rfl) v;refine⟨fun r hr=>(h.pm r hr).kb hk fun b hb=>h.mne hr hb,h.t.kb hk (h.tx p (.inl rfl)),own_kb h.d hk fun b hb=>h.dne hb,by simp[World.setCell],fun j=>?_⟩;rw[World.frozen?_setCell];exact h.f j
theorem PgC.poke (h:PgC W p B0 O n t d x pt mp vd){r j:Nat}(hr:r<20)(hj:j<5){v:Value}{q:Pt}{M:List (Int×Op8)}(hq:PtAt (W.setCell ⟨p,2+r*5+j,none⟩ v) p (2+r*5) q)(hm:(q.m=(pt r).m∧M=mp r)∨(q.m=none∧M=[])):
 PgC (W.setCell ⟨p,2+r*5+j,none⟩ v) p B0 O n t d x (updF pt r q) (updF mp r M) vd:=by
 obtain⟨h1,h2,h3,h4,h5⟩:=h.rest (2+r*5+j) v;have hmm:∀s b,(updF pt r q s).m=some b→(pt s).m=some b:=by
  intro s b hb;by_cases hs:s=r
  ·subst hs;rw[upd_same] at hb
   rcases hm with ⟨e,_⟩ | ⟨e,_⟩
   ·rw[←e];exact hb
   rw[e] at hb;cases hb
  rwa [upd_other _ _ hs] at hb
 have hO:∀b,PgO p (updF pt r q) vd b→PgO p pt vd b:=by
  rintro b (e | ⟨s,hs,e⟩ | e)
  ·exact .inl e
  ·exact .inr (.inl ⟨s,hs,hmm s b e⟩)
  exact .inr (.inr e)
 refine⟨cell_off h.c0 (by omega) v,cell_off h.c1 (by omega) v,fun s hs=>?_,cell_off h.cd (by omega) v,h5,fun s hs=>?_,fun s u b hs hu hne e1 e2=>h.ma s u b hs hu hne (hmm _ _ e1) (hmm _ _ e2),h2,fun b hb=>h.tx b (hO b hb),h.tr,h3,fun b hb=>h.ob b (hO b hb),fun b hb=>by rw[h4];exact h.lt b hb⟩
 ·by_cases e:s=r
  ·subst e;rw[upd_same];exact hq
  rw[upd_other _ _ e];exact (h.pc s hs).off e hj v
 by_cases e:s=r
 ·subst e;rw[upd_same,upd_same]
  rcases hm with ⟨e1,e2⟩ | ⟨e1,e2⟩
  ·rw[e1,e2];exact h1 s hs
  exact .inl ⟨e1,e2⟩
 rw[upd_other _ _ e,upd_other _ _ e];exact h1 s hs
theorem PgC.newMap (h:PgC W p B0 O n t d x pt mp vd){r:Nat}(hr:r<20)(hn:(pt r).m=none){W1:World}{b:Nat}(hb:Below W.heap.size W W1)(hbl:W.heap.size≤b)(hM:MAt intKey opV8 W1 b []):
 PgC (W1.setCell ⟨p,2+r*5,none⟩ (.map (some b))) p B0 (fun c=>O c∨c=b) n t d x (updF pt r { pt r with m:=some b }) (updF mp r []) vd:=by
 have g:=h.later hb;obtain⟨h1,h2,h3,h4,h5⟩:=g.rest (2+r*5) (.map (some b));have hpl:=h.pl;have hbp:b≠p:=by omega
 have hlb:=hM.lt;have hB0:=(h.lt p h.pO).1;have hO:∀c,PgO p (updF pt r { pt r with m:=some b }) vd c→PgO p pt vd c∨c=b:=by
  rintro c (e | ⟨s,hs,e⟩ | e)
  ·exact .inl (.inl e)
  ·by_cases hs2:s=r
   ·subst hs2;rw[upd_same] at e;cases e;exact .inr rfl
   rw[upd_other _ _ hs2] at e;exact .inl (.inr (.inl ⟨s,hs,e⟩))
  exact .inl (.inr (.inr e))
 have hold:∀s c,s<20→(pt s).m=some c→c<W.heap.size:=fun s c hs e=>(h.pm s hs).lt c e
 refine⟨cell_off g.c0 (by omega) _,cell_off g.c1 (by omega) _,fun s hs=>?_,cell_off g.cd (by omega) _,h5,fun s hs=>?_,fun s u c hs hu hne e1 e2=>?_,h2,fun c hc=>?_,?_,h3,fun c hc=>?_,fun c hc=>?_⟩
 ·by_cases e:s=r
  ·subst e;rw[upd_same];have q:=g.pc s hs;exact⟨World.cell?_setCell_same _ _ _ q.c0,cell_off q.c1 (by omega) _,cell_off q.c2 (by omega) _,cell_off q.c3 (by omega) _,cell_off q.c4 (by omega) _⟩
  rw[upd_other _ _ e];exact (g.pc s hs).off e (j:=0) (by omega) _
 ·by_cases e:s=r
  ·subst e;rw[upd_same,upd_same];exact .inr ⟨b,rfl,hM.kb (p:=fun c=>c≠p) ((Kb.refl _ W1).setCell (q:=⟨p,2+s*5,none⟩) (fun _ h=>h rfl) _) hbp⟩
  rw[upd_other _ _ e,upd_other _ _ e];exact h1 s hs
 ·by_cases es:s=r
  ·subst es;rw[upd_same] at e1;cases e1;rw[upd_other _ _ (Ne.symm hne)] at e2;have:=hold u _ hu e2;omega
  rw[upd_other _ _ es] at e1;by_cases eu:u=r
  ·subst eu;rw[upd_same] at e2;cases e2;have:=hold s _ hs e1;omega
  rw[upd_other _ _ eu] at e2;exact h.ma s u c hs hu hne e1 e2
 ·rcases hO c hc with h6 | rfl
  ·exact h.tx c h6
  exact h.t.off hbl
 ·rcases h.tr with h6 | h6
  ·exact .inl h6
  exact .inr fun ad ha=>(h6 ad ha).imp id .inl
 ·rcases hO c hc with h6 | h6
  ·exact .inl (h.ob c h6)
  exact .inr h6
 rw[h4]
 rcases hc with h6 | rfl
 ·exact⟨(h.lt c h6).1,Nat.lt_of_lt_of_le (h.lt c h6).2 hb.size⟩
 exact⟨by omega,hlb⟩
theorem PgC.putMap (h:PgC W p B0 O n t d x pt mp vd){r b:Nat}(hr:r<20)(hb:(pt r).m=some b){M:List (Int×Op8)}(hg:W.grownBy W' (some b))(hM:MAt intKey opV8 W' b M):PgC W' p B0 O n t d x pt (updF mp r M) vd:=by
 have hbp:=h.mne hr hb;have hk:Kb (fun c=>c≠b) W W':=(Kb.refl _ W).grown hg fun c e _ h=>by cases e;exact h rfl
 have hp:p≠b:=Ne.symm hbp;refine⟨hk.at h.c0 hp,hk.at h.c1 hp,fun s hs=>(h.pc s hs).kb hk hp,hk.at h.cd hp,fun i=>(hk.frozen (q:=⟨p,i,none⟩) h.pl hp).trans (h.f i),fun s hs=>?_,h.ma,h.t.kb hk (h.tx b (.inr (.inl ⟨r,hr,hb⟩))),h.tx,h.tr,?_,h.ob,fun c hc=>⟨(h.lt c hc).1,Nat.lt_of_lt_of_le (h.lt c hc).2 hk.size⟩⟩
 ·by_cases e:s=r
  ·subst e;rw[upd_same];exact .inr ⟨b,hb,hM⟩
  rw[upd_other _ _ e];exact (h.pm s hs).kb hk fun c hc e2=>h.ma s r c hs hr e hc (by rw[e2];exact hb)
 exact own_kb h.d hk fun c hc e=>h.md hr hb (by rw[hc,e])
theorem PgC.setT (h:PgC W p B0 O n t d x pt mp vd){y:SlT}{t':List Ru}(hy:SR W (slV y) t')(hx:∀b,PgO p pt vd b→offB y b)(hr:y.2.1=0∨∀ad,y.1=some ad→B0≤ad.block∧ad.block<W.heap.size):
 PgC (W.setCell ⟨p,1,none⟩ (slV y)) p B0 (fun b=>O b∨∃ad,y.1=some ad∧B0≤ad.block∧ad.block<W.heap.size∧b=ad.block) n t' d y pt mp vd:=by
 obtain⟨h1,h2,h3,h4,h5⟩:=h.rest 1 (slV y);have hk:Kb (fun b=>b≠p) W (W.setCell ⟨p,1,none⟩ (slV y)):=(Kb.refl _ W).setCell (q:=⟨p,1,none⟩) (fun _ h=>h rfl) _;refine⟨cell_off h.c0 (by omega) _,World.cell?_setCell_same _ _ _ h.c1,fun s hs=>(h.pc s hs).off2 hs (by omega) _,cell_off h.cd (by omega) _,h5,h1,h.ma,hy.kb hk (hx p (.inl rfl)),hx,?_,h3,fun b hb=>.inl (h.ob b hb),fun b hb=>?_⟩
 ·rcases hr with h6 | h6
  ·exact .inl h6
  exact .inr fun ad ha=>.inr (.inr ⟨ad,ha,(h6 ad ha).1,(h6 ad ha).2,rfl⟩)
 rw[h4]
 rcases hb with h6 | ⟨ad,_,h6,h7,rfl⟩
 ·exact h.lt b h6
 exact⟨h6,h7⟩
theorem PgC.addD (h:PgC W p B0 O n t d x pt mp vd){k:Int}{u:Value}(hg:W.grownBy W' vd.ownBlock)(ho:W'.ownsRow (p+1) 3 inE.n u (d++[k]).length (cellsG inE (d++[k])))(hb:u.ownBlock=vd.ownBlock∨u.ownBlock=some W.heap.size):
 PgC (W'.setCell ⟨p,102,none⟩ u) p B0 (fun b=>O b∨u.ownBlock=some b) n t (d++[k]) x pt mp u:=by
 have hpd:vd.ownBlock≠some p:=fun e=>h.dne e rfl
 have hk:Kb (fun c=>vd.ownBlock≠some c) W W':=(Kb.refl _ W).grown hg fun c e _ h=>h e
 have hk2:Kb (fun c=>c≠p) W' (W'.setCell ⟨p,102,none⟩ u):=(Kb.refl _ W').setCell (q:=⟨p,102,none⟩) (fun _ h=>h rfl) _;have hO:∀b,PgO p pt u b→PgO p pt vd b∨u.ownBlock=some b:=by
  rintro b (e | e | e)
  ·exact .inl (.inl e)
  ·exact .inl (.inr (.inl e))
  exact .inr e
 refine⟨cell_off (hk.at h.c0 hpd) (by omega) _,cell_off (hk.at h.c1 hpd) (by omega) _,fun s hs=>((h.pc s hs).kb hk hpd).off2 hs (by omega) _,World.cell?_setCell_same _ _ _ (hk.at h.cd hpd),fun i=>?_,fun s hs=>((h.pm s hs).kb hk fun b hb=>h.md hs hb).kb hk2 fun b hb=>h.mne hs hb,h.ma,?_,?_,?_,?_,fun b hb=>(hO b hb).imp (h.ob b) id,?_⟩
 ·rw[World.frozen?_setCell];exact (hk.frozen (q:=⟨p,i,none⟩) h.pl hpd).trans (h.f i)
 ·have h1:SR W' (slV x) t:=h.t.grown hg fun b hb=>h.tx b (.inr (.inr hb))
  exact h1.kb hk2 (h.tx p (.inl rfl))
 ·intro b hb1
  rcases hO b hb1 with h1 | h1
  ·exact h.tx b h1
  rcases hb with h2 | h2
  ·exact h.tx b (.inr (.inr (by rw[←h2];exact h1)))
  rw[h2] at h1;cases h1;exact h.t.off (nLQ _)
 ·rcases h.tr with h1 | h1
  ·exact .inl h1
  exact .inr fun ad ha=>(h1 ad ha).imp id .inl
 ·exact own_kb ho hk2 fun b hb1=>by have:=(ho.lt b hb1).1;omega
 have hs:(W'.setCell ⟨p,102,none⟩ u).heap.size=W'.heap.size:=by simp[World.setCell]
 rw[hs];rintro b (h1 | h1)
 ·exact⟨(h.lt b h1).1,Nat.lt_of_lt_of_le (h.lt b h1).2 hg.size⟩
 have h2:=ho.lt b h1;have h3:=(h.lt p h.pO).1;exact⟨by omega,h2.2⟩
end
structure PtM (a:AgT)(r:Nat)(q:Pt)(M:List (Int×Op8)):Prop where
 hh:q.h=(hdN a.l (r:Int):Int)
 hd:q.d=doneK a (r:Int)
 ha:q.a=decide (0≤manyK a (r:Int))
 hs:q.a=true→q.s=manyK a (r:Int)
 hl:q.s≤1000
 hk:q.d=false→∀i,mget qI i M=keptO a.l (r:Int) i
def Pg (W:World)(p B0:Nat)(O:Nat→Prop)(n:Int)(a:AgT):Prop:=∃x pt mp vd,PgC W p B0 O n a.t a.d x pt mp vd∧(∀r,r<20→PtM a r (pt r) (mp r))∧∀q∈a.l,0≤q.r∧q.r<20
theorem Pg.kb {W W':World}{p B0:Nat}{O:Nat→Prop}{n:Int}{a:AgT}(h:Pg W p B0 O n a)(hk:Kb (fun b=>b<B0∨O b) W W'):Pg W' p B0 O n a:=by
 obtain⟨x,pt,mp,vd,h,h2⟩:=h;exact⟨x,pt,mp,vd,h.kb hk,h2⟩
theorem Pg.later {W W':World}{p B0:Nat}{O:Nat→Prop}{n:Int}{a:AgT}(h:Pg W p B0 O n a)(hb:Below W.heap.size W W'):Pg W' p B0 O n a:=by
 obtain⟨x,pt,mp,vd,h,h2⟩:=h;exact⟨x,pt,mp,vd,h.later hb,h2⟩
theorem Pg.lt {W:World}{p B0:Nat}{O:Nat→Prop}{n:Int}{a:AgT}(h:Pg W p B0 O n a):∀b,O b→B0≤b∧b<W.heap.size:=by
 obtain⟨x,pt,mp,vd,h,h2⟩:=h;exact h.lt
theorem all_M {a:AgT}{r:Nat}{q:Pt}{M:List (Int×Op8)}(h:PtM a r q M)(hd:q.d=false)(n:Nat):((List.range n).all fun (k:Nat)=>(mget qI (k:Int) M).isSome)=allK a.l (r:Int) n:=by
 rw[allK]
 congr 1
 funext k
 rw[h.hk hd,kept_has]
theorem pt_ready {a:AgT}{r:Nat}{q:Pt}{M:List (Int×Op8)}(h:PtM a r q M):(!q.d&&(q.a&&((List.range q.s.toNat).all fun (k:Nat)=>(mget qI (k:Int) M).isSome)))=rdyB a (r:Int):=by
 have e:rdyB a (r:Int)=(!doneK a (r:Int)&&decide (0≤manyK a (r:Int))&&allK a.l (r:Int) (manyK a (r:Int)).toNat):=rfl;rw[e,Bool.and_assoc,←h.hd,←h.ha];cases hd:q.d with
 | true=>rfl
 | false =>
   cases ha:q.a with
   | false=>rfl
   | true=>rw[all_M h hd,h.hs ha]
theorem nw_part {n:Int}{ao:AdQ}{k c:Nat}(r:Nat)(hr:r<20):((Tryd.zeroCells81.setIfInBounds 0 (Value.int IntKind.i64 n)).setIfInBounds 1 (Value.slice ao k c))[2+r*5]?=some (.map none)∧((Tryd.zeroCells81.setIfInBounds 0 (Value.int IntKind.i64 n)).setIfInBounds 1 (Value.slice ao k c))[2+r*5+1]?=some (.int i64 0)∧((Tryd.zeroCells81.setIfInBounds 0 (Value.int IntKind.i64 n)).setIfInBounds 1 (Value.slice ao k c))[2+r*5+2]?=some (.bool false)∧((Tryd.zeroCells81.setIfInBounds 0 (Value.int IntKind.i64 n)).setIfInBounds 1 (Value.slice ao k c))[2+r*5+3]?=some (.int i64 0)∧((Tryd.zeroCells81.setIfInBounds 0 (Value.int IntKind.i64 n)).setIfInBounds 1 (Value.slice ao k c))[2+r*5+4]?=some (.bool false):=by
 match r,hr with
 | 0,_=>exact⟨rfl,rfl,rfl,rfl,rfl⟩
 | 1,_=>exact⟨rfl,rfl,rfl,rfl,rfl⟩
 | 2,_=>exact⟨rfl,rfl,rfl,rfl,rfl⟩
 | 3,_=>exact⟨rfl,rfl,rfl,rfl,rfl⟩
 | 4,_=>exact⟨rfl,rfl,rfl,rfl,rfl⟩
 | 5,_=>exact⟨rfl,rfl,rfl,rfl,rfl⟩
 | 6,_=>exact⟨rfl,rfl,rfl,rfl,rfl⟩
 | 7,_=>exact⟨rfl,rfl,rfl,rfl,rfl⟩
 | 8,_=>exact⟨rfl,rfl,rfl,rfl,rfl⟩
 | 9,_=>exact⟨rfl,rfl,rfl,rfl,rfl⟩
 | 10,_=>exact⟨rfl,rfl,rfl,rfl,rfl⟩
 | 11,_=>exact⟨rfl,rfl,rfl,rfl,rfl⟩
 | 12,_=>exact⟨rfl,rfl,rfl,rfl,rfl⟩
 | 13,_=>exact⟨rfl,rfl,rfl,rfl,rfl⟩
 | 14,_=>exact⟨rfl,rfl,rfl,rfl,rfl⟩
 | 15,_=>exact⟨rfl,rfl,rfl,rfl,rfl⟩
 | 16,_=>exact⟨rfl,rfl,rfl,rfl,rfl⟩
 | 17,_=>exact⟨rfl,rfl,rfl,rfl,rfl⟩
 | 18,_=>exact⟨rfl,rfl,rfl,rfl,rfl⟩
 | 19,_=>exact⟨rfl,rfl,rfl,rfl,rfl⟩
 | _+20,h=>exact absurd h (by omega)
theorem nw_cell (W:World)(cs:Array Value)(t:TypeId)(i:Nat){v:Value}(h:cs[i]?=some v):(W.alloc (.cells cs t)).cell? ⟨W.heap.size,i,none⟩=some v:=by
 simp only[World.cell?,World.alloc];simp[h]
theorem pg_new {w W:World}{n:Int}{ao:AdQ}{k c:Nat}{t:List Ru}{B0:Nat}(hs:SR W (.slice ao k c) t)(hb:Below w.heap.size w W)(hB:B0≤w.heap.size)(ht:∀ad,ao=some ad→w.heap.size≤ad.block):
 Pg (W.alloc (.cells ((Tryd.zeroCells81.setIfInBounds 0 (Value.int IntKind.i64 n)).setIfInBounds 1 (Value.slice ao k c)) 81)) W.heap.size B0 (fun b=>w.heap.size≤b∧b<(W.alloc (.cells ((Tryd.zeroCells81.setIfInBounds 0 (Value.int IntKind.i64 n)).setIfInBounds 1 (Value.slice ao k c)) 81)).heap.size) n (ag0 t):=by
 have hb2:Below W.heap.size W (W.alloc (.cells ((Tryd.zeroCells81.setIfInBounds 0 (Value.int IntKind.i64 n)).setIfInBounds 1 (Value.slice ao k c)) 81)):=(bRQ _ _).alloc (nLQ _) _;have hs':SR W (slV (ao,k,c)) t:=hs;have hsz:(W.alloc (.cells ((Tryd.zeroCells81.setIfInBounds 0 (Value.int IntKind.i64 n)).setIfInBounds 1 (Value.slice ao k c)) 81)).heap.size=W.heap.size+1:=World.size_alloc _ _;have hws:=hb.size;refine⟨(ao,k,c),fun _=>⟨none,0,false,0,false⟩,fun _=>[],.slice none 0 0,⟨nw_cell _ _ _ _ rfl,nw_cell _ _ _ _ rfl,fun r hr=>?_,nw_cell _ _ _ _ rfl,fun i=>by simp,fun r _=>.inl ⟨rfl,rfl⟩,(fun r s b _ _ _ h=>by cases h),hs'.later hb2,?_,?_,World.ownsRow_nil _ _ _ _,?_,fun b hb=>⟨Nat.le_trans hB hb.1,hb.2⟩⟩,fun r hr=>?_,fun q hq=>by cases hq⟩
 ·obtain⟨h0,h1,h2,h3,h4⟩:=nw_part (n:=n) (ao:=ao) (k:=k) (c:=c) r hr;exact⟨nw_cell _ _ _ _ h0,nw_cell _ _ _ _ h1,nw_cell _ _ _ _ h2,nw_cell _ _ _ _ h3,nw_cell _ _ _ _ h4⟩
 ·rintro b (rfl | ⟨r,_,h⟩ | h)
  ·exact hs'.off (nLQ _)
  ·cases h
  cases h
 ·by_cases h0:k=0
  ·exact .inl h0
  refine .inr fun ad ha=>.inr ⟨ht ad ha,?_⟩
  rcases hs with ⟨_,_,e,rfl⟩ | ⟨g,o,cap',e,h6,h7,h8⟩
  ·cases e;exact absurd rfl h0
  cases e;cases ha;have:=h8.lt (by omega);rw[hsz];show g<_;omega
 ·rintro b (rfl | ⟨r,_,h⟩ | h)
  ·exact⟨hws,by rw[hsz];omega⟩
  ·cases h
  cases h
 have hm:manyK (ag0 t) (r:Int) = -1:=by
  simp only[manyK,ag0,Int.toNat_natCast,List.getD_eq_getElem?_getD];rw[List.getElem?_replicate,if_pos hr];rfl
 exact⟨rfl,rfl,by rw[hm];rfl,(fun h=>by cases h),by simp,fun _ i=>rfl⟩
theorem pnew_any (n:Int)(ao:AdQ)(k c:Nat)(t:List Ru)(B0:Nat)(w:World)(hs:SR w (.slice ao k c) t)(hB:B0≤w.heap.size):
 Calls prog 6 #[.int i64 n,.slice ao k c] w fun e w'=>∃v,e=.returned (.tuple #[v,noV (nwN n t)])∧Below w.heap.size w w'∧(nwN n t=0→∃p O,v=.pointer (some ⟨p,0,none⟩)∧Pg w' p B0 O n (ag0 t)∧∀b,O b→w.heap.size≤b):=by
 have HS:Hid (SR w (.slice ao k c) t):=hs;have HB:Hid (B0≤w.heap.size):=hB;obtain⟨Z,hZ⟩:∃Z,Z=nwN n t:=⟨_,rfl⟩;have HZ:Hid (Z=if 1≤n∧n≤6 then tbN t else 1):=hZ;rw[←hZ];clear hs hB hZ;go_enter func6,ntmps6
 go_wp2_with fail
 refine (isSwitch_any 6 n _).mono ?_;rintro e w1 ⟨rfl,hb1⟩;have HB1:Hid (Below w.heap.size w w1):=hb1;clear hb1;cases hsw:swB 6 n with
 | false =>
   have HN:Hid (Z=1):=by
    show _=_;rw[HZ.out,if_neg (fun h=>by rw[sw_of.2 h] at hsw;cases hsw)]
   clear hsw;go_wp2;refine bodyPost_ret (v:=.tuple #[.pointer none,.iface 73 (.int i64 1)]) (by simp[results,results6,go_sem]) rfl ?_;rw[HN.out];exact⟨_,by rw[no_ne (by decide)],HB1.out,fun h=>by cases h⟩
 | true =>
   have HN:Hid (Z=tbN t):=by
    show _=_;rw[HZ.out,if_pos (sw_of.1 hsw)]
   clear hsw
   go_wp2_with fail
   refine (table_any _ t _ (HS.out.later HB1.out)).mono ?_;rintro e w2 ⟨rfl,hb2⟩;have HB2:Hid (Below w.heap.size w w2):=HB1.out.trans (hb2.mono HB1.out.size);rw[←HN.out];clear hb2;by_cases hz:Z=0
   ·have h12:t.length≤1000:=by
     by_cases h12:12<t.length
     ·have:=tb_long h12;rw[←HN.out] at this;omega
     omega
    have hs2:SR w2 (.slice ao k c) t:=HS.out.later HB2.out;have HPA:Hid (PAt (w2.alloc (.cells #[.slice ao k c] 23)) w2.heap.size 0 [t]):=pat1 23 hs2;have HB3:Hid (Below w.heap.size w (w2.alloc (.cells #[.slice ao k c] 23))):=HB2.out.alloc HB2.out.size _;have HL:Hid ([t].flatten.length≤1000):=by show _≤1000;simpa using h12
    rw[no_ok hz];clear hs2 h12
    go_wp2_with fail
    refine (concat_any _ 0 1 1 [t] _ rfl (by omega) HPA.out HL.out).mono ?_;rintro e w3 ⟨u,rfl,hown,hb3⟩;have e1:[t].flatten=t:=by simp
    rw[e1] at hown;have hsr:=own_SR hown;obtain⟨ao3,cap3,rfl⟩:=own_form hown;have hlo:∀ad,ao3=some ad→w.heap.size≤ad.block:=fun ad ha=>by
     subst ha;have h5:=hown.lt ad.block rfl;have h6:=HB3.out.size;omega
    have HB4:Hid (Below w.heap.size w w3):=HB3.out.trans (hb3.mono HB3.out.size);obtain⟨n3,hn3⟩:∃n3,n3=t.length:=⟨_,rfl⟩;rw[←hn3] at hsr ⊢;have HPG:Hid (Pg (w3.alloc (.cells ((Tryd.zeroCells81.setIfInBounds 0 (Value.int IntKind.i64 n)).setIfInBounds 1 (Value.slice ao3 n3 cap3)) 81)) w3.heap.size B0 (fun b=>w.heap.size≤b∧b<(w3.alloc (.cells ((Tryd.zeroCells81.setIfInBounds 0 (Value.int IntKind.i64 n)).setIfInBounds 1 (Value.slice ao3 n3 cap3)) 81)).heap.size) n (ag0 t)):=pg_new hsr HB4.out HB.out hlo;have HB5:Hid (Below w.heap.size w (w3.alloc (.cells ((Tryd.zeroCells81.setIfInBounds 0 (Value.int IntKind.i64 n)).setIfInBounds 1 (Value.slice ao3 n3 cap3)) 81))):=HB4.out.alloc HB4.out.size _;clear hown hb3 hsr hlo hn3 e1 HPA HL;go_wp2;refine bodyPost_ret (v:=.tuple #[.pointer (some ⟨w3.heap.size,0,none⟩),.nilIface]) (by simp[results,results6,go_sem]) rfl ?_;exact⟨_,by rw[no_ok hz],HB5.out,fun _=>⟨_,_,rfl,HPG.out,fun b hb=>hb.1⟩⟩
   rw[no_ne hz];go_wp2;refine bodyPost_ret (v:=.tuple #[.pointer none,.iface 73 (.int i64 Z)]) (by simp[results,results6,go_sem]) rfl ?_;exact⟨_,by rw[no_ne hz],HB2.out,fun h=>absurd h hz⟩
theorem in_zero:(Value.int i64 0).cells.size=1:=by simp[Value.cells]
theorem in_grow_nil (n:Nat)(w:World)(hn:n≤1000):
 Calls prog 58 #[.slice none 0 0,.int i64 n] w fun e w'=>∃v,e=.returned v∧w'.ownsRow w.heap.size 3 1 v 0 []∧Below w.heap.size w w':=by
 have h1:¬((n:Int)<0):=by omega
 by_cases h0:n=0
 ·subst h0;go_enter func58,ntmps58;go_wp2;go_ret;exact⟨_,rfl,World.ownsRow_nil _ _ _ _,bRQ _ _⟩
 obtain⟨i0,hi,hz0,hz1,hz2⟩:=info_parts infoInt;have h3:wrap64 ((n:Int)-0)=(n:Int):=by unfold wrap64;omega
 have h4:(n:Int) > 0:=by omega
 have hrz:∀ty,(Builtin.append_ #[25,3] ty #[.slice none 0 0,.int i64 n]).run prog w =
  .ok (.slice (some ⟨w.heap.size,0,none⟩) n (grownCap w n 0 3)) (w.drew.alloc (.cells (Builtin.zeroCells (Value.int i64 0).cells n++Builtin.zeroCells (Value.int i64 0).cells (grownCap w n 0 3-n)) 3)):=fun ty =>
  Lib.run_append_nil_zeros w 25 3 ty 3 i0 _ .i64 .i64 underlying25 underlying3 hi hz0 n (by omega) (by rw[hz1];decide) (by omega) (by rw[hz2];omega)
 have hGn:n≤grownCap w n 0 3:=grownCap_ge w _ _ _;have hGm:grownCap w n 0 3≤maxLen:=grownCap_le_maxLen w n 0 3 (by unfold maxLen;omega)
 generalize grownCap w n 0 3=G at *
 have HM:Hid (G≤maxLen):=hGm;have hG63:G≤9223372036854775807:=by unfold maxLen at hGm;omega
 have HO:Hid ((w.drew.alloc (.cells (Builtin.zeroCells (Value.int i64 0).cells n++Builtin.zeroCells (Value.int i64 0).cells (G-n)) 3)).ownsRow w.heap.size 3 1 (.slice (some ⟨w.heap.size,0,none⟩) 0 G) 0 []):=
  World.ownsRow_made w.drew _ G (nLQ _) HM.out (by
   simp only[Array.size_append,size_zeroCells,in_zero,←Nat.add_mul]
   congr 1
   omega)
 clear hGm;go_enter func58,ntmps58
 go_wp2_with (at_builtin;refine Lib.wpList_append_run _ rfl _ _ _ _ rfl _ _ rfl rfl _ _ (hrz _) ?_)
 all_goals (go_ret;exact⟨_,rfl,HO.out,((bRQ _ _).drew).alloc (nLQ _) _⟩)
def inPt (w:World)(g o:Nat)(Ls:List (List Int)):Prop:=∀i (h:i<Ls.length),∃ao n cap,w.cell? ⟨g,o+i,none⟩=some (.slice ao n cap)∧GS inE w (.slice ao n cap) Ls[i]
theorem inPt.later {w w':World}{g o:Nat}{Ls:List (List Int)}(h:inPt w g o Ls)(hb:Below w.heap.size w w'):inPt w' g o Ls:=fun i hi=>by
 obtain⟨ao,n,cap,h1,h2⟩:=h i hi;exact⟨ao,n,cap,cell_later hb h1,h2.later hb⟩
theorem in_flat_next {Ls:List (List Int)}{k:Nat}(hk:k<Ls.length):(Ls.take (k+1)).flatten=(Ls.take k).flatten++Ls[k]:=by
 rw[List.take_succ_eq_append_getElem hk];simp only[List.flatten_append,List.flatten_cons,List.flatten_nil,List.append_nil]
theorem in_flat_le {Ls:List (List Int)}(k:Nat):(Ls.take k).flatten.length≤Ls.flatten.length:=by
 have:Ls.flatten=(Ls.take k).flatten++(Ls.drop k).flatten:=by rw[←List.flatten_append,List.take_append_drop]
 rw[this,List.length_append];omega
theorem in_append (w:World){ops:Array Oper}{rest:List Oper}{o:Oper}{a:Act}{Q:Exit→Act→World→Prop}(hgd:o.guard=none)(s x:Operand)(t:TypeId)
 (ho:o.op=.call { callee:=.builtin .append,args:=#[s,x],argTypes:=#[t,t] }) (ht:Tryd.prog.underlying t=some (.slice 3)) (base:Nat)
 (v:Value) (hs:a.eval s=v) (L:List Int) (hown:w.ownsRow base 3 1 v L.length (cellsG inE L)) (u:Value) (hx:a.eval x=u) (M:List Int) (hM:GS inE w u M)
 (h100:L.length+M.length≤1000000) (hbase:base≤w.heap.size)
 (h:∀v' w',w'.ownsRow base 3 1 v' (L++M).length (cellsG inE (L++M))→w.grownBy w' v.ownBlock→wpList prog ops Q rest (a.put o.dst v') w'):wpList prog ops Q (o :: rest) a w:=by
 obtain⟨i0,hi,hz0,hz1,hz2⟩:=info_parts infoInt;exact wpList_append_GS (E:=inE) w hgd s x t 3 ho ht i0 _ 8 hi hz0 hz1 hz2 in_zero base v hs L hown u hx M hM (by unfold maxLen;omega) (by omega) hbase h
theorem in_concat (g o m cap:Nat)(Ls:List (List Int))(w:World)(hm:Ls.length=m)(hm2:m≤1000)(hc:inPt w g o Ls)(hs:Ls.flatten.length≤1000):
 Calls prog 40 #[.slice (some ⟨g,o,none⟩) m cap] w fun e w'=>∃v,e=.returned v∧w'.ownsRow w.heap.size 3 1 v Ls.flatten.length (cellsG inE Ls.flatten)∧Below w.heap.size w w':=by
 have HM:Hid (Ls.length=m):=hm;have HC:Hid (inPt w g o Ls):=hc;have HS:Hid (Ls.flatten.length≤1000):=hs;obtain⟨N,hN⟩:∃N,N=Ls.flatten.length:=⟨_,rfl⟩;have HN:Hid (N=Ls.flatten.length):=hN;have hN2:N≤1000:=by omega
 clear hm hc hs hN;go_enter func40,ntmps40
 go_upto_block 0 with fail
 go_cut [3] from 3 (fun z w'=>z=.int i64 (N:Int)∧w'=w)
 case first =>
  go_wp2
  go_loopw [3,11] (fun z i wr=>∃k:Nat,k≤m∧i=.int i64 k∧z=.int i64 ((Ls.take k).flatten.length:Int)∧wr=w) (fun _ i _=>m-(intOf i).toNat)
  case atStart=>exact⟨0,by omega,rfl,rfl,rfl⟩
  case round =>
   obtain⟨k,hk,rfl,rfl,rfl⟩:=hrel;by_cases hlt:k<m
   ·have hkl:k<Ls.length:=by rw[HM.out];exact hlt
    obtain⟨ao,n,cap2,q0,hsr⟩:=HC.out k hkl;have HT:Hid ((Ls.take (k+1)).flatten.length=(Ls.take k).flatten.length+n):=by
     show _=_;rw[in_flat_next hkl,List.length_append,hsr.len]
    have hb1:(Ls.take k).flatten.length+n≤1000:=by
     have h1:=in_flat_le (Ls:=Ls) (k+1);have h2:=HS.out;have h3:=HT.out;omega
    generalize (Ls.take k).flatten.length=z at *
    clear hsr;go_wp2;go_roundw
    case rel=>exact⟨k+1,by omega,by go_num,by rw[HT.out];go_num,by simp⟩
    case measure=>simp[intOf];omega
   obtain rfl:k=m:=by omega
   go_wp2_with fail
   go_meet
   case rel=>exact⟨by rw[←HM.out,List.take_length,HN.out],rfl⟩
 case rest =>
  obtain⟨rfl,rfl⟩:=hcut
  go_wp2_with fail
  refine (in_grow_nil N _ hN2).mono ?_;rintro e w1 ⟨v,rfl,hown,hB⟩;have HO:Hid (w1.ownsRow wc.heap.size 3 1 v 0 []):=hown;have HB:Hid (Below wc.heap.size wc w1):=hB;clear hown hB;go_wp2
  go_loopw [6,27] (fun u i wr=>∃k:Nat,k≤m∧i=.int i64 k∧wr.ownsRow wc.heap.size 3 1 u (Ls.take k).flatten.length (cellsG inE (Ls.take k).flatten)∧Below wc.heap.size wc wr) (fun _ i _=>m-(intOf i).toNat)
  case atStart=>exact⟨0,by omega,rfl,HO.out,HB.out⟩
  case round =>
   obtain⟨k,hk,rfl,hown,hB⟩:=hrel;have HOW:Hid (wr.ownsRow wc.heap.size 3 1 u6 (Ls.take k).flatten.length (cellsG inE (Ls.take k).flatten)):=hown;have HBW:Hid (Below wc.heap.size wc wr):=hB;clear hown;by_cases hlt:k<m
   ·have hkl:k<Ls.length:=by rw[HM.out];exact hlt
    obtain⟨ao,n,cap2,q0,hsr⟩:=(HC.out.later hB) k hkl;have HSR:Hid (GS inE wr (.slice ao n cap2) Ls[k]):=hsr;have HL1:Hid ((Ls.take k).flatten.length+Ls[k].length≤1000000):=by
     have h1:=in_flat_le (Ls:=Ls) (k+1);rw[in_flat_next hkl,List.length_append] at h1;have h2:=HS.out;show _≤_;omega
    clear hsr hB
    go_wp2_with (at_builtin;refine in_append _ rfl _ _ 25 rfl underlying25 wc.heap.size _ rfl _ HOW.out _ rfl _ HSR.out HL1.out HBW.out.size ?_)
    intro v' w3 hown3 hgrow;have HO5:Hid (w3.ownsRow wc.heap.size 3 1 v' (Ls.take (k+1)).flatten.length (cellsG inE (Ls.take (k+1)).flatten)):=by
     show w3.ownsRow _ _ _ _ _ _;rw[in_flat_next hkl,show ((Ls.take k).flatten++Ls[k]).length=(List.take k (List.map List.length Ls)).sum+Ls[k].length by simp];exact hown3
    have HB5:Hid (Below wc.heap.size wc w3):=HBW.out.grown hgrow HBW.out.size (fun g hg=>(HOW.out.lt g hg).1);clear hown3 hgrow q0;go_wp2;go_roundw
    case rel=>exact⟨k+1,by omega,by go_num,HO5.out,HB5.out⟩
    case measure=>simp[intOf];omega
   obtain rfl:k=m:=by omega
   go_wp2;go_ret;refine⟨_,rfl,?_,HBW.out⟩;have:=HOW.out;rw[←HM.out,List.take_length] at this;exact this
theorem infoByte:(Tryd.prog.info? 5).map (fun i=>(i.zero,i.size,i.bytes))=some (some (.int .u8 0),1,1):=by kernel_rfl
theorem infoNum:(Tryd.prog.info? 3).map (fun i=>(i.zero,i.size,i.bytes))=some (some (.int i64 0),1,8):=by kernel_rfl
def u8E:Enc Int where
 c:=fun x=>[.int .u8 x]
 n:=1
 len:=fun _=>rfl
 pos:=by decide
 one:=by
  intro x u hu;simp at hu;subst hu;rfl
theorem u8_cells (L:List Int):cellsG u8E L=L.map (Value.int .u8):=by
 induction L with
 | nil=>rfl
 | cons x r ih =>
   simp only[cellsG,List.flatMap_cons,List.map_cons] at *;rw[ih];rfl
theorem conv_own {W:World}{B n:Nat}{v:Value}{xs:List Int}(h:W.ownsRow B 5 u8E.n v xs.length (cellsG u8E xs))(hx:xs.length=n)(hn:0<n):
 ∃g c,v=.slice (some ⟨g,0,none⟩) n c∧(convert 141 9 v).run prog W=.ok (.string (strOfNums xs)) W:=by
 subst hx
 rcases h.2 with ⟨rfl,h0⟩ | ⟨g,cap,cur,rfl,_⟩
 ·exact absurd h0 (by omega)
 refine⟨g,cap,rfl,?_⟩;refine run_convert_bytes_arg (P:=prog) W 141 5 underlying141 underlying5 g 0 xs.length cap xs rfl (fun i hi=>?_) 9 underlying9;have hc:=h.cellAt i (by show i<xs.length*1;omega);rw[Nat.zero_add,hc,u8_cells,List.getElem?_map,List.getElem?_eq_getElem hi,List.getD_eq_getElem?_getD,List.getElem?_eq_getElem hi];rfl
theorem in_new (w:World)(L:List Int)(t:TypeId)(vs:List Value)(hv:vs=L.map (Value.int i64)):GAt inE (w.alloc (.cells vs.toArray t)) w.heap.size 0 L:=by
 intro i hi j u hu;obtain rfl:j=0:=by
  have:=(List.getElem?_eq_some_iff.1 hu).1;simpa[inE] using this
 have h:=vat_new w vs t i u (by
  rw[hv,List.getElem?_map,List.getElem?_eq_getElem hi];simp[inE] at hu;rw[←hu];rfl)
 have e:0+i*inE.n+0=0+i:=by show 0+i*1+0=0+i;omega
 rw[e];exact h
theorem step_append_lst {P:Program}{α:Type}{E:Enc α}(w:World){ops:Array Oper}{o:Oper}{a:Act}{K:Act→World→Prop}{Q:Exit→Act→World→Prop}{X:Prop}(hgd:o.guard=none)(s x:Operand)(t e:TypeId)
 (ho:o.op=.call { callee:=.builtin .append,args:=#[s,x],argTypes:=#[t,t] }) (ht:P.underlying t=some (.slice e)) (i:TypeInfo) (z:Value) (bytes:Nat) (hi:P.info? e=some i) (hz:i.zero=some z)
 (hsize:i.size=E.n) (hby:i.bytes=bytes) (hzs:z.cells.size=E.n) (base:Nat)
 (v:Value) (hs:a.eval s=v) (L:List α) (hown:w.ownsRow base e E.n v L.length (cellsG E L)) (g q c n:Nat) (hx:a.eval x=.slice (some ⟨g,q,none⟩) n c) (M:List α) (hn:M.length=n) (hM:GAt E w g q M)
 (h63:L.length+n≤maxLen) (hbytes:(L.length+n)*bytes≤140737488355328) (hbase:base≤w.heap.size)
 (h:∀v' w',w'.ownsRow base e E.n v' (L++M).length (cellsG E (L++M))→w.grownBy w' v.ownBlock→K (a.put o.dst v') w'):
 if Region.wanted o (yielded ops a.tmps)=true then Oper.wp P o a w K Q else X:=by
 have hw:Region.wanted o (yielded ops a.tmps)=true:=by simp[Region.wanted,hgd]
 rw[if_pos hw];have hc:=hM.cells;have hl:(cellsG E M).length=n*E.n:=by rw[cellsG_len,hn]
 obtain⟨v',w',hr,h2,h3,_⟩:=run_append_own (P:=P) w base t o.type e i z E.n bytes ht hi hz hsize hby hzs E.pos v _ _ hown ⟨g,q,none⟩ n c (cellsG E M) hl hc (cellsG_all M) h63 hbytes hbase;unfold Oper.wp execOp;simp only[ho,resolve,invoke,builtin,Sem.run_bind,Sem.run_pure,Result.andThen_ok,List.map_toArray,List.map_cons,List.map_nil,hs,hx,hr];exact h v' w' (by rw[List.length_append,cellsG_app,hn];exact h2) h3
theorem u8_wrap {n:Int}(h:0≤n∧n≤200):IntKind.u8.wrap n=n:=by rw[IntKind.wrap_u8];omega
theorem sm_take {L:List Int}{k:Nat}(h:k<L.length):smL (L.take (k+1))=smL (L.take k)+L[k]:=by
 rw[List.take_succ_eq_append_getElem h,sm_app]
theorem take_g {L:List Int}{k:Nat}(h:k<L.length):L.take (k+1)=L.take k++[L[k]]:=List.take_succ_eq_append_getElem h
def enT (m:Mg):ByteArray:=if mgN m=0 then mgT m else ByteArray.empty
end
end Go.Proofs.YtcbapfgohocghaaDoor
