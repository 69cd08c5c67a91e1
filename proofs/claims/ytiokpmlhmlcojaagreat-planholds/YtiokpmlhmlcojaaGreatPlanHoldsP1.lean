/- Contracts and facts on the way to PlanHolds, joined into one text: Gen, StSpot, StLink, Quiet, EqLink, StHost, EqHost, CubeMath, RuleMath, RuleTabMath, TableMath, MapGen, TopoMath. -/
import Derived.Test.YtiokpmlhmlcojaaGreatRows
import Derived.WalkKit
import Derived.WalkSpells
import Derived.Below
import Derived.ProofKit
import Derived.OpenShut
import Derived.ChangeOld
import Derived.Laws.AppendOwnNone
import Derived.Deep.Slices
import Derived.Lib.SmallJoins
import Derived.Laws.StructEq
import Derived.Maps.OwnOps
import Derived.BigQuiet
import Derived.Deep.QuietTactic
import Derived.Deep.CutRange
import Derived.Deep.CutBlock
import Derived.Laws.BytesArg
import Derived.MapKept
import Derived.DeepKeys3
import Derived.BigRegion
import Derived.Shelf.Abstract
import Derived.Laws.IdiomStrings
import Derived.Carry
import Derived.Lib.SliceRun
import Derived.Lib.AppendZeros
import Derived.Deep.RegionHeld3
import Derived.Laws.OwnMore
import Derived.Lib.Strings
import Derived.Lib.Walk
import Derived.Lib.BufferWrite
import Derived.Lib.UnsafeStr
import Derived.Laws.MakeOwn
import Derived.Deep.RegionLaw
import Derived.Lib.Bytealg
import Derived.Lib.IndexLaws
import Derived.Deep.RegionWith
import Derived.Sort.Grow
import Derived.Shelf.SlSorted.Search
import Derived.RangeFuncNested
import Derived.RangeFuncBox
import Derived.RangeFuncBound
import Derived.RangeFuncCalls
import Derived.RangeFuncLeaves
import Derived.Shelf.RegionOpen
import Derived.OwnWalkIn
import Derived.TacticsInMore
import Derived.LoopNIn
import Derived.LoopIn
import Derived.Maps.OwnIn
namespace Go.Proofs.YtiokpmlhmlcojaaGreat
set_option linter.unusedSimpArgs false
set_option linter.unusedVariables false
set_option maxHeartbeats 16000000
set_option maxRecDepth 100000
abbrev LkQ:=List ((Int×Int)×(Int×Int))
abbrev HoQ:=List (ByteArray×(Int×Int))
abbrev HpQ:=List ((Int×Int)×Int)
theorem bLQ (w:World) (p:Addr) {v:Value} (h:w.cell? p=some v):p.block<w.heap.size:=World.block_lt_of_cell? w p h
theorem AP:(∀(l:List Value) (i:Nat) (v:Value),l.toArray.setIfInBounds i v=(l.set i v).toArray)∧(∀(a v:Value) (l:List Value),(a::l).set 0 v=v::l)∧(∀(a v:Value) (l:List Value) (i:Nat),(a::l).set (i+1) v=a::l.set i v):=⟨fun _ _ _=>List.setIfInBounds_toArray _ _ _,fun _ _ _=>List.set_cons_zero,fun _ _ _ _=>List.set_cons_succ⟩
section
open Go.ChangeShapes Go.WideShapes Go.ChangeAt Go.RowKit
structure Enc (α:Type) where
 c:α→List Value
 n:Nat
 len:∀x,(c x).length=n
 pos:0<n
 one:∀x u,u∈c x→u.oneCell'=true
def VAt (w:World)(g o:Nat)(vs:List Value):Prop:=∀j u,vs[j]?=some u→w.cell? ⟨g,o+j,none⟩=some u
theorem VAt.later {w w':World}{g o:Nat}{vs:List Value}(h:VAt w g o vs)(hb:Below w.heap.size w w'):VAt w' g o vs:=fun j u hu=>cell_later hb (h j u hu)
theorem vat_new (w:World)(vs:List Value)(t:TypeId):VAt (w.alloc (.cells vs.toArray t)) w.heap.size 0 vs:=by
 intro j u hu;rw[Nat.zero_add];have hj:j<vs.length:=(List.getElem?_eq_some_iff.1 hu).1;simp only[World.cell?,World.alloc];simp[hu]
section
variable {α:Type}{E:Enc α}
def GAt (E:Enc α)(w:World)(g o:Nat)(L:List α):Prop:=∀i (h:i<L.length),VAt w g (o+i*E.n) (E.c L[i])
theorem GAt.later {w w':World}{g o:Nat}{L:List α}(h:GAt E w g o L)(hb:Below w.heap.size w w'):GAt E w' g o L:=fun i hi=>(h i hi).later hb
theorem GAt.take {w:World}{g o:Nat}{L:List α}(h:GAt E w g o L)(k:Nat):GAt E w g o (L.take k):=by
 intro i hi;rw[List.getElem_take];exact h i (by simp at hi;omega)
theorem GAt.drop {w:World}{g o:Nat}{L:List α}(h:GAt E w g o L)(k:Nat):GAt E w g (o+k*E.n) (L.drop k):=by
 intro i hi;have hi2:k+i<L.length:=by simp at hi;omega
 have:=h (k+i) hi2;rw[List.getElem_drop];have e:o+(k+i)*E.n=o+k*E.n+i*E.n:=by rw[Nat.add_mul];omega
 rw[←e];exact this
def GS (E:Enc α)(w:World)(v:Value)(L:List α):Prop:=
 (∃ao cap,v=.slice ao 0 cap∧L=[])∨∃g o cap,v=.slice (some ⟨g,o,none⟩) L.length cap∧L.length≤cap∧cap≤maxLen∧GAt E w g o L
theorem GS.later {w w':World}{v:Value}{L:List α}(h:GS E w v L)(hb:Below w.heap.size w w'):GS E w' v L:=by
 rcases h with h | ⟨g,o,cap,h1,h2,h3,h4⟩
 ·exact .inl h
 exact .inr ⟨g,o,cap,h1,h2,h3,h4.later hb⟩
theorem GS.form {w:World}{v:Value}{L:List α}(h:GS E w v L):∃ao n cap,v=.slice ao n cap∧L.length=n∧n≤maxLen∧n≤cap∧(0<n→∃g o,ao=some ⟨g,o,none⟩∧GAt E w g o L∧cap≤maxLen):=by
 rcases h with ⟨ao,cap,rfl,rfl⟩ | ⟨g,o,cap,rfl,h1,h2,h3⟩
 ·exact⟨ao,0,cap,rfl,rfl,Nat.zero_le _,Nat.zero_le _,fun h=>absurd h (by omega)⟩
 exact⟨_,_,cap,rfl,rfl,Nat.le_trans h1 h2,h1,fun _=>⟨g,o,rfl,h3,h2⟩⟩
theorem GS.len {w:World}{ao:Option Addr}{n cap:Nat}{L:List α}(h:GS E w (.slice ao n cap) L):L.length=n:=by
 rcases h with ⟨_,_,e,rfl⟩ | ⟨_,_,_,e,_⟩
 ·simp at e;simp[e]
 simp at e;exact e.2.1.symm
theorem GS.nil (w:World):GS E w (.slice none 0 0) []:=.inl ⟨none,0,rfl,rfl⟩
theorem gs_one (w:World)(x:α)(t:TypeId){vs:List Value}(hv:vs=E.c x):GS E (w.alloc (.cells vs.toArray t)) (.slice (some ⟨w.heap.size,0,none⟩) 1 1) [x]:=by
 subst hv;refine .inr ⟨w.heap.size,0,1,rfl,Nat.le_refl _,by unfold maxLen;omega,fun i hi=>?_⟩;obtain rfl:i=0:=by simp at hi;omega
 have h:=vat_new w (E.c x) t;simpa using h
def cellsG (E:Enc α)(L:List α):List Value:=L.flatMap E.c
theorem cellsG_len (L:List α):(cellsG E L).length=L.length*E.n:=by
 induction L with
 | nil=>simp[cellsG]
 | cons x r ih =>
   simp only[cellsG,List.flatMap_cons,List.length_append,List.length_cons,E.len] at *;rw[ih,Nat.add_mul];omega
theorem cellsG_app (L M:List α):cellsG E (L++M)=cellsG E L++cellsG E M:=by simp[cellsG]
theorem cellsG_one (x:α):cellsG E [x]=E.c x:=by simp[cellsG]
theorem cellsG_at (L:List α):∀(i:Nat) (h:i<L.length) (j:Nat),j<E.n→(cellsG E L)[i*E.n+j]?=(E.c L[i])[j]?:=by
 induction L with
 | nil=>intro i h;simp at h
 | cons x r ih =>
   intro i h j hj;cases i with
   | zero =>
     simp only[cellsG,List.flatMap_cons,Nat.zero_mul,Nat.zero_add,List.getElem_cons_zero];rw[List.getElem?_append_left (by rw[E.len];exact hj)]
   | succ i =>
     have:=ih i (by simpa using h) j hj;simp only[cellsG,List.flatMap_cons,List.getElem_cons_succ] at this ⊢;rw[List.getElem?_append_right (by rw[E.len,Nat.add_mul];omega),E.len];have e:(i+1)*E.n+j-E.n=i*E.n+j:=by rw[Nat.add_mul];omega
     rw[e];exact this
theorem cellsG_all (L:List α):∀u∈cellsG E L,u.oneCell'=true:=by
 intro u hu;simp only[cellsG,List.mem_flatMap] at hu;obtain⟨x,_,hx⟩:=hu;exact E.one x u hx
theorem own_GS {w:World}{B e:Nat}{v:Value}{L:List α}(h:w.ownsRow B e E.n v L.length (cellsG E L)):GS E w v L:=by
 rcases h.2 with ⟨rfl,h0⟩ | ⟨g,cap,cur,rfl,_,_,h1,h2,_⟩
 ·exact .inl ⟨none,0,rfl,List.length_eq_zero_iff.1 h0⟩
 refine .inr ⟨g,0,cap,rfl,h1,h2,fun i hi j u hu=>?_⟩;have hj:j<E.n:=by
  have:=(List.getElem?_eq_some_iff.1 hu).1;rw[E.len] at this;exact this
 have hlt:i*E.n+j<L.length*E.n:=by
  have:(i+1)*E.n≤L.length*E.n:=Nat.mul_le_mul_right _ hi;rw[Nat.add_mul] at this;omega
 rw[Nat.zero_add,h.cellAt _ hlt,cellsG_at L i hi j hj];exact hu
theorem GAt.cells {w:World}{g o:Nat}{M:List α}(h:GAt E w g o M):∀j u,(cellsG E M)[j]?=some u→w.cell? ((⟨g,o,none⟩:Addr).add j)=some u:=by
 intro j u hu;have hj:j<M.length*E.n:=by
  have:=(List.getElem?_eq_some_iff.1 hu).1;rw[cellsG_len] at this;exact this
 have hadd:(⟨g,o,none⟩:Addr).add j=⟨g,o+j,none⟩:=by
  simp only[Addr.add]
  first
   | rfl
   | (split
      ·next h0=>rw[h0];rfl
      rfl)
 have hi:j / E.n<M.length:=Nat.div_lt_of_lt_mul (by rw[Nat.mul_comm];exact hj);have hm:j % E.n<E.n:=Nat.mod_lt _ E.pos;have e:j / E.n*E.n+j % E.n=j:=by rw[Nat.mul_comm];exact Nat.div_add_mod _ _
 have h1:=cellsG_at (E:=E) M (j / E.n) hi (j % E.n) hm;rw[e,hu] at h1;have h2:=h (j / E.n) hi (j % E.n) u h1.symm;rw[Nat.add_assoc,e] at h2;rw[hadd];exact h2
end
section
variable {α:Type}
theorem any_nextG {L:List α}{f:α→Bool}{k:Nat}(hk:k<L.length)(h:(L.take k).any f=false)(h2:f L[k]=false):(L.take (k+1)).any f=false:=by
 rw[List.take_succ_eq_append_getElem hk];simp only[List.any_append,h,List.any_cons,List.any_nil,h2,Bool.or_false]
theorem any_hitG {L:List α}{f:α→Bool}{k:Nat}(hk:k<L.length)(h2:f L[k]=true):L.any f=true:=List.any_eq_true.2 ⟨_,List.getElem_mem hk,h2⟩
def ixG (f:α→Bool)(L:List α):Int:=if L.any f then (L.findIdx f:Int) else -1
theorem ixG_hit {L:List α}{f:α→Bool}{k:Nat}(hk:k<L.length)(h:(L.take k).any f=false)(h2:f L[k]=true):ixG f L=k:=by
 rw[ixG,any_hitG hk h2,if_pos rfl]
 congr 1
 rw[List.findIdx_eq hk];refine⟨h2,fun j hj=>?_⟩;rw[List.any_eq_false] at h;have:=h L[j] (by rw[List.mem_take_iff_getElem];exact⟨j,by omega,rfl⟩);simpa using this
theorem ixG_no {L:List α}{f:α→Bool}(h:L.any f=false):ixG f L = -1:=by simp[ixG,h]
theorem ixG_any (L:List α)(f:α→Bool):decide (0≤ixG f L)=L.any f:=by
 unfold ixG;cases L.any f
 ·simp
 simp
end
section
variable {α:Type}
def smG (q:α→α→Bool):List α→List α→Bool
 | [],[]=>true
 | a :: l,b :: m=>q a b&&smG q l m
 | _,_=>false
theorem smG_iff {q:α→α→Bool}:∀{L M:List α},smG q L M=true↔L.length=M.length∧∀i (h1:i<L.length) (h2:i<M.length),q L[i] M[i]=true
 | [],[]=>by simp[smG]
 | [],_ :: _=>by simp[smG]
 | _ :: _,[]=>by simp[smG]
 | a :: l,b :: m=>by
   rw[smG,Bool.and_eq_true,smG_iff (L:=l) (M:=m)];constructor
   ·rintro⟨h1,h2,h3⟩;refine⟨by simp[h2],fun i hi hj=>?_⟩;cases i with
    | zero=>exact h1
    | succ i=>exact h3 i (by simpa using hi) (by simpa using hj)
   rintro⟨h1,h2⟩;refine⟨h2 0 (by simp) (by simp),by simpa using h1,fun i hi hj=>?_⟩;exact h2 (i+1) (by simpa using hi) (by simpa using hj)
theorem smG_len {q:α→α→Bool}{L M:List α}(h:L.length≠M.length):smG q L M=false:=by
 cases e:smG q L M
 ·rfl
 exact absurd (smG_iff.1 e).1 h
theorem smG_no {q:α→α→Bool}{L M:List α}{k:Nat}(h1:k<L.length)(h2:k<M.length)(h:q L[k] M[k]=false):smG q L M=false:=by
 cases e:smG q L M
 ·rfl
 have:=(smG_iff.1 e).2 k h1 h2;rw[h] at this;cases this
theorem smG_eq {q:α→α→Bool}(hq:∀a b,q a b=true↔a=b):∀{L M:List α},smG q L M=true↔L=M
 | [],[]=>by simp[smG]
 | [],_ :: _=>by simp[smG]
 | _ :: _,[]=>by simp[smG]
 | a :: l,b :: m=>by
   rw[smG,Bool.and_eq_true,smG_eq hq,hq];simp
end
section
variable {P:Program}{α:Type}{E:Enc α}
theorem run_append_none {w:World}(base:Nat)(t ty e:TypeId)(i:TypeInfo)(size cap2:Nat)(ht:P.underlying t=some (.slice e))(hi:P.info? e=some i)
 (v:Value) (n:Nat) (xs:List Value) (hown:w.ownsRow base e size v n xs):
 (Builtin.append_ #[t,t] ty #[v,.slice none 0 cap2]).run P w=.ok v w:=by
 rcases hown.2 with ⟨rfl,rfl⟩ | ⟨g,cap,cur,rfl,_,_,hnc,_⟩
 ·simp[Builtin.append_,run_underlying ht,sizeOf,typeInfo,hi,Builtin.lenOf,Builtin.firstCells]
 simp[Builtin.append_,run_underlying ht,sizeOf,typeInfo,hi,Builtin.lenOf,Builtin.firstCells,hnc,storeCells]
theorem wpList_append_GS (w:World){ops:Array Oper}{rest:List Oper}{o:Oper}{a:Act}{Q:Exit→Act→World→Prop}(hgd:o.guard=none)(s x:Operand)(t e:TypeId)
 (ho:o.op=.call { callee:=.builtin .append,args:=#[s,x],argTypes:=#[t,t] }) (ht:P.underlying t=some (.slice e)) (i:TypeInfo) (z:Value) (bytes:Nat) (hi:P.info? e=some i) (hz:i.zero=some z)
 (hsize:i.size=E.n) (hby:i.bytes=bytes) (hzs:z.cells.size=E.n) (base:Nat)
 (v:Value) (hs:a.eval s=v) (L:List α) (hown:w.ownsRow base e E.n v L.length (cellsG E L)) (u:Value) (hx:a.eval x=u) (M:List α) (hM:GS E w u M)
 (h63:L.length+M.length≤maxLen) (hbytes:(L.length+M.length)*bytes≤140737488355328) (hbase:base≤w.heap.size)
 (h:∀v' w',w'.ownsRow base e E.n v' (L++M).length (cellsG E (L++M))→w.grownBy w' v.ownBlock→wpList P ops Q rest (a.put o.dst v') w'):wpList P ops Q (o :: rest) a w:=by
 have key:∀(ad:Addr) (m c:Nat) (news:List Value),a.eval x=.slice (some ad) m c→news.length=m*E.n→(∀j u,news[j]?=some u→w.cell? (ad.add j)=some u)→(∀u∈news,u.oneCell'=true)→m=M.length→news=cellsG E M→wpList P ops Q (o :: rest) a w:=by
  intro ad m c news e1 e2 e3 e4 e5 e6;refine wpList_append_own w hgd s x t ho base e i z E.n bytes ht hi hz hsize hby hzs E.pos v _ _ hs hown ad m c news e1 e2 e3 e4 (by rw[e5];exact h63) (by rw[e5];exact hbytes) hbase ?_;intro v' w' h1 h2 _;refine h v' w' ?_ h2;rw[List.length_append,cellsG_app,←e5,←e6];exact h1
 rcases hM with ⟨ao,cap,rfl,rfl⟩ | ⟨g,q,cap,rfl,h1,h2,h3⟩
 ·cases ao with
  | none =>
    refine wpList_plain hgd fun K hK=>?_
    have hrun:=run_append_none (P:=P) (w:=w) base t o.type e i E.n cap ht hi v _ _ hown;unfold Oper.wp;simp[execOp,ho,resolve,invoke,builtin,hs,hx,hrun,Result.andThen];exact hK _ _ (h v w (by rw[List.append_nil];exact hown) ⟨rfl,rfl,rfl,Nat.le_refl _,fun _ _ _=>rfl⟩)
  | some ad=>exact key ad 0 cap [] hx (by simp) (by intro j u hu;simp at hu) (by intro u hu;cases hu) rfl rfl
 exact key ⟨g,q,none⟩ M.length cap (cellsG E M) hx (cellsG_len M) h3.cells (cellsG_all M) rfl rfl
theorem gs_of {H:Type}{enc:TypeId×Value→H}{W:World}{base:Nat}{v:Value}{d:DataW H}{p:List MemPlace}(ts te:TypeId)(hu:P.underlying ts=some (.slice te))(hC:P.cellsOf te=E.n)(x0:α)
 (hel:∀(n:Nat) (cs:List Value) (x:DataW H×List MemPlace),DataW.trod enc P W 0 (fun _=>true) true n te cs=some x→∃y,cs=E.c y)
 (hv:Value.okWide P W .any base ts v) (h:DataW.Trod enc P W 0 (fun _=>true) true ts v d p):∃L,GS E W v L:=by
 obtain⟨a0,len0,cap0,rfl⟩:=okWide_slice hu hv;obtain⟨fuel,hf⟩:=h;have hf2:DataW.trod enc P W 0 (fun _=>true) true fuel ts [.slice a0 len0 cap0]=some (d,p):=hf
 rcases Go.Deep.open_slice hu hf2 with ⟨hc,hx⟩ | ⟨a,len,cap,m,k,D,Pl,hc,_,hl,hm,hmm,hx,hall⟩
 ·simp only[List.cons.injEq,and_true,Value.slice.injEq] at hc;obtain⟨rfl,rfl,rfl⟩:=hc;exact⟨[],.inl ⟨none,0,rfl,rfl⟩⟩
 simp only[List.cons.injEq,and_true,Value.slice.injEq] at hc;obtain⟨rfl,rfl,rfl⟩:=hc;simp only[if_true] at hmm;subst hmm
 rcases Nat.eq_zero_or_pos len0 with h0 | h0
 ·subst h0;exact⟨[],.inl ⟨_,_,rfl,rfl⟩⟩
 have each:∀i,i<m→∃y:α,∀j,j<E.n→W.cell? (a.add (i*E.n+j))=(E.c y)[j]?:=by
  intro i hi;obtain⟨cs,h1,h2⟩:=hall i hi;rw[hC] at h1;obtain⟨_,hlen,hcell⟩:=World.cells?_some h1;obtain⟨y,rfl⟩:=hel _ _ _ h2;refine⟨y,fun j hj=>?_⟩;have:=hcell j (by omega);rw[Go.Deep.add_add] at this;exact this
 have iR:Inhabited α:=⟨x0⟩;obtain⟨R,hR⟩:=Go.Deep.choose_lt each;obtain⟨sb,so,spot⟩:=a;have hspot:spot=none:=by
  have h1:=hR 0 (by omega) 0 E.pos;have h2:(E.c (R 0))[0]?.isSome=true:=by
   rw[List.getElem?_eq_getElem (by rw[E.len];exact E.pos)];rfl
  obtain⟨u,hu2⟩:=Option.isSome_iff_exists.1 h2;rw[hu2] at h1;simpa[Addr.add] using World.cell?_spot h1
 subst hspot;have hadd:∀j,(⟨sb,so,none⟩:Addr).add j=⟨sb,so+j,none⟩:=by
  intro j;simp only[Addr.add]
  first
   | rfl
   | (split
      ·next h0=>rw[h0];rfl
      rfl)
 refine⟨(List.range len0).map R,.inr ⟨sb,so,_,by simp,by simpa using hl,hm,fun i hi j u hu2=>?_⟩⟩;have hi2:i<len0:=by simpa using hi
 have e:((List.range len0).map R)[i]=R i:=by simp
 rw[e] at hu2;have hj:j<E.n:=by
  have:=(List.getElem?_eq_some_iff.1 hu2).1;rw[E.len] at this;exact this
 have hc:=hR i (by omega) j hj;rw[hadd,hu2,←Nat.add_assoc] at hc;exact hc
end
end
section
open Go.ChangeShapes Go.WideShapes Go.ChangeAt Go.RowKit Go.Joins
def spoE:Enc (Int×Int) where
 c:=fun x=>[.int .i64 x.1,.int .i64 x.2]
 n:=2
 len:=fun _=>rfl
 pos:=by decide
 one:=by
  intro x u hu;simp at hu
  rcases hu with rfl | rfl <;> rfl
theorem spo_open {H:Type}{enc:TypeId×Value→H}{W:World}{n:Nat}{cs:List Value}{x:DataW H×List MemPlace}
 (h:DataW.trod enc Tryz.prog W 0 (fun _=>true) true n 31 cs=some x):∃y,cs=spoE.c y:=by
 obtain⟨xs,k,_,_,hl,hlen,hf⟩:=DataW.trod_struct Tryz.underlying31 h;have hC:Tryz.prog.cellsOf 31=2:=by kernel_rfl
 have hT0:Tryz.prog.cellsOf 3=1:=by kernel_rfl
 rw[hC] at hl
 match cs,hl with
 | [c0,c1],_ =>
   match xs,hlen with
   | [z0,z1],_ =>
     have g0:=hf 0 _ rfl;have g1:=hf 1 _ rfl;simp[hT0] at g0 g1;obtain⟨v0,e0,_,_⟩:=DataW.trod_int Tryz.underlying3 g0;obtain⟨v1,e1,_,_⟩:=DataW.trod_int Tryz.underlying3 g1;simp[] at e0 e1;refine⟨(v0,v1),?_⟩;simp[spoE,e0,e1]
def lnkE:Enc ((Int×Int)×(Int×Int)) where
 c:=fun x=>[.int .i64 x.1.1,.int .i64 x.1.2,.int .i64 x.2.1,.int .i64 x.2.2]
 n:=4
 len:=fun _=>rfl
 pos:=by decide
 one:=by
  intro x u hu;simp at hu
  rcases hu with rfl | rfl | rfl | rfl <;> rfl
theorem lnk_cells {w:World}{g o:Nat}{x0 x1 x2 x3:Int}(h:VAt w g o (lnkE.c ((x0,x1),(x2,x3)))):w.cell? ⟨g,o,none⟩=some (.int .i64 x0)∧w.cell? ⟨g,o+1,none⟩=some (.int .i64 x1)∧w.cell? ⟨g,o+2,none⟩=some (.int .i64 x2)∧w.cell? ⟨g,o+3,none⟩=some (.int .i64 x3):=
 ⟨h 0 _ rfl,h 1 _ rfl,h 2 _ rfl,h 3 _ rfl⟩
theorem lnk_at {w:World}{g o:Nat}{L:LkQ}(h:GAt lnkE w g o L){n k:Nat}(hn:L.length=n)(hk:k<n):
 ∃(x0:Int) (x1:Int) (x2:Int) (x3:Int) (hl:k<L.length),L[k]=((x0,x1),(x2,x3))∧w.cell? ⟨g,o+k*4,none⟩=some (.int .i64 x0)∧w.cell? ⟨g,o+k*4+1,none⟩=some (.int .i64 x1)∧w.cell? ⟨g,o+k*4+2,none⟩=some (.int .i64 x2)∧w.cell? ⟨g,o+k*4+3,none⟩=some (.int .i64 x3):=
 have hl:k<L.length:=by omega
 ⟨_,_,_,_,hl,rfl,lnk_cells (h k hl)⟩
theorem lnk_new (w:World)(x0 x1 x2 x3:Int)(t:TypeId):VAt (w.alloc (Obj.cells #[.int .i64 x0,.int .i64 x1,.int .i64 x2,.int .i64 x3] t)) w.heap.size 0 (lnkE.c ((x0,x1),(x2,x3))):=vat_new w [.int .i64 x0,.int .i64 x1,.int .i64 x2,.int .i64 x3] t
def lnkB (a b:(Int×Int)×(Int×Int)):Bool:=(a.1.1==b.1.1)&&((a.1.2==b.1.2)&&((a.2.1==b.2.1)&&((a.2.2==b.2.2))))
theorem lnkB_iff (a b:(Int×Int)×(Int×Int)):lnkB a b=true↔a=b:=by
 have e:lnkB a b=((a.1.1==b.1.1)&&((a.1.2==b.1.2)&&((a.2.1==b.2.1)&&((a.2.2==b.2.2))))):=rfl;rw[e];simp only[Bool.and_eq_true,beq_iff_eq];constructor
 ·intro h;obtain⟨⟨a0,a1⟩,⟨a2,a3⟩⟩:=a;obtain⟨⟨b0,b1⟩,⟨b2,b3⟩⟩:=b;simp at h ⊢;simp[h]
 intro h;subst h;simp
theorem lnk_ways (x0 x1 x2 x3 y0 y1 y2 y3:Int):
 ((x0==y0)=false∧lnkB ((x0,x1),(x2,x3)) ((y0,y1),(y2,y3))=false) ∨
 ((x0==y0)=true∧(x1==y1)=false∧lnkB ((x0,x1),(x2,x3)) ((y0,y1),(y2,y3))=false) ∨
 ((x0==y0)=true∧(x1==y1)=true∧(x2==y2)=false∧lnkB ((x0,x1),(x2,x3)) ((y0,y1),(y2,y3))=false) ∨
 ((x0==y0)=true∧(x1==y1)=true∧(x2==y2)=true∧(x3==y3)=false∧lnkB ((x0,x1),(x2,x3)) ((y0,y1),(y2,y3))=false) ∨
 ((x0==y0)=true∧(x1==y1)=true∧(x2==y2)=true∧(x3==y3)=true∧lnkB ((x0,x1),(x2,x3)) ((y0,y1),(y2,y3))=true):=by
 have e:lnkB ((x0,x1),(x2,x3)) ((y0,y1),(y2,y3))=((x0==y0)&&((x1==y1)&&((x2==y2)&&((x3==y3))))):=rfl;rw[e];cases h0:(x0==y0)
 ·simp
 skip;cases h1:(x1==y1)
 ·simp
 skip;cases h2:(x2==y2)
 ·simp
 skip;cases h3:(x3==y3)
 ·simp
 skip;simp
theorem lnk_eq (x0 x1 x2 x3 y0 y1 y2 y3:Int)(w:World):(Op.equal 78 (.agg #[.int .i64 x0,.int .i64 x1,.int .i64 x2,.int .i64 x3]) (.agg #[.int .i64 y0,.int .i64 y1,.int .i64 y2,.int .i64 y3])).run Tryz.prog w=.ok (lnkB ((x0,x1),(x2,x3)) ((y0,y1),(y2,y3))) w:=by
 unfold Op.equal Op.maxDepth;rw[run_equalIn_struct w 9999 _ _ _ (by kernel_rfl) (by kernel_rfl)]
 rcases lnk_ways x0 x1 x2 x3 y0 y1 y2 y3 with ⟨e0,e⟩ | ⟨e0,e1,e⟩ | ⟨e0,e1,e2,e⟩ | ⟨e0,e1,e2,e3,e⟩ | ⟨e0,e1,e2,e3,e⟩
 all_goals
  rw[e];go_simp
theorem lnk_info:(Tryz.prog.info? 78).map (fun i=>(i.zero,i.size,i.bytes))=some (some (.agg #[.int .i64 0,.int .i64 0,.int .i64 0,.int .i64 0]),4,32):=by kernel_rfl
theorem lnk_zero:(Value.agg #[.int .i64 0,.int .i64 0,.int .i64 0,.int .i64 0]).cells.size=4:=by simp[Value.cells]
theorem lnk_open {H:Type}{enc:TypeId×Value→H}{W:World}{n:Nat}{cs:List Value}{x:DataW H×List MemPlace}
 (h:DataW.trod enc Tryz.prog W 0 (fun _=>true) true n 78 cs=some x):∃y,cs=lnkE.c y:=by
 obtain⟨xs,k,_,_,hl,hlen,hf⟩:=DataW.trod_struct Tryz.underlying78 h;have hC:Tryz.prog.cellsOf 78=4:=by kernel_rfl
 have hT0:Tryz.prog.cellsOf 31=2:=by kernel_rfl
 rw[hC] at hl
 match cs,hl with
 | [c0,c1,c2,c3],_ =>
   match xs,hlen with
   | [z0,z1],_ =>
     have g0:=hf 0 _ rfl;have g1:=hf 1 _ rfl;simp[hT0] at g0 g1;obtain⟨s0,e0⟩:=spo_open g0;obtain⟨s1,e1⟩:=spo_open g1;simp[spoE] at e0 e1;refine⟨((s0.1,s0.2),(s1.1,s1.2)),?_⟩;simp[lnkE,e0,e1]
end
section
open Go.RowKit
theorem quiet_val {P:Program}{o:Oper}{a:Act}{C:World→Prop}{K:Act→Prop}{v:Value}
 (hy:∀w,C w→(execOp a.eval o).run P w=.ok (.value v) w) (h:K (a.put o.dst v)):o.quiet P a C K:=
 ⟨v,fun w hC=>by unfold Oper.quietAt;rw[hy w hC];exact⟨rfl,rfl⟩,h⟩
theorem qv {P:Program}{o:Oper}{a:Act}{C:World→Prop}{K:Act→Prop}(v:Value)(hy:∀w,C w→(execOp a.eval o).run P w=.ok (.value v) w)(h:K (a.put o.dst v)):o.quiet P a C K:=quiet_val hy h
theorem quiet_call {P:Program}{o:Oper}{a:Act}{C:World→Prop}{K:Act→Prop}{v:Value}{f:FuncId}{args:Array Value}
 (he:∀w,(execOp a.eval o).run P w=.ok (.enter f args) w) (hc:∀w,C w→Calls P f args w fun e w''=>e=.returned v∧C w'') (h:K (a.put o.dst v)):o.quiet P a C K:=
 ⟨v,fun w hC=>by unfold Oper.quietAt;rw[he w];exact⟨rfl,hc w hC⟩,h⟩
theorem exec_bin {P:Program}{o:Oper}{a:Act}{w:World}{op:BinOp}{t t2:TypeId}{x y:Operand}{v:Value}(ho:o.op=.binOp op t x y t2)(hg:(eqGuard op t x y (a.eval x) (a.eval y)).run P w=.ok () w)
 (h:(binOp op t (a.eval x) (a.eval y)).run P w=.ok v w):(execOp a.eval o).run P w=.ok (.value v) w:=by
 simp[execOp,ho,hg,h,Result.andThen]
theorem run_eql_of {P:Program}{w:World}{t:TypeId}{x y:Array Value}{b:Bool}(h:(Op.equal t (.agg x) (.agg y)).run P w=.ok b w):(binOp .eql t (.agg x) (.agg y)).run P w=.ok (.bool b) w:=by
 simp[binOp,h]
theorem run_neq_of {P:Program}{w:World}{t:TypeId}{x y:Array Value}{b:Bool}(h:(Op.equal t (.agg x) (.agg y)).run P w=.ok b w):(binOp .neq t (.agg x) (.agg y)).run P w=.ok (.bool (!b)) w:=by
 simp[binOp,h]
def lnkEQ (w:World)(g o:Nat)(x0 x1 x2 x3:Int)(g' o':Nat)(y0 y1 y2 y3:Int)(w':World):Prop:=
 Below w.heap.size w w'∧(w'.cell? ⟨g,o,none⟩=some (.int .i64 x0)∧w'.cell? ⟨g,o+1,none⟩=some (.int .i64 x1)∧w'.cell? ⟨g,o+2,none⟩=some (.int .i64 x2)∧w'.cell? ⟨g,o+3,none⟩=some (.int .i64 x3)) ∧
 w'.cell? ⟨g',o',none⟩=some (.int .i64 y0)∧w'.cell? ⟨g',o'+1,none⟩=some (.int .i64 y1)∧w'.cell? ⟨g',o'+2,none⟩=some (.int .i64 y2)∧w'.cell? ⟨g',o'+3,none⟩=some (.int .i64 y3)
theorem lnkEQ.later {w W W':World}{g o:Nat}{x0 x1 x2 x3:Int}{g' o':Nat}{y0 y1 y2 y3:Int}(hb:Below W.heap.size W W')(h:lnkEQ w g o x0 x1 x2 x3 g' o' y0 y1 y2 y3 W):lnkEQ w g o x0 x1 x2 x3 g' o' y0 y1 y2 y3 W':=by
 obtain⟨h0,⟨h1,h2,h3,h4⟩,k1,k2,k3,k4⟩:=h;exact⟨h0.trans (hb.mono h0.size),⟨cell_later hb h1,cell_later hb h2,cell_later hb h3,cell_later hb h4⟩,cell_later hb k1,cell_later hb k2,cell_later hb k3,cell_later hb k4⟩
theorem lnk_equal (ao:Option Addr)(n cap:Nat)(ao2:Option Addr)(n2 cap2:Nat)(L M:LkQ)(w:World)(hs:GS lnkE w (.slice ao n cap) L)(ht:GS lnkE w (.slice ao2 n2 cap2) M):
 Calls Tryz.prog 42 #[.slice ao n cap,.slice ao2 n2 cap2] w fun e w'=>e=.returned (.bool (smG lnkB L M))∧Below w.heap.size w w':=by
 obtain⟨ao',n',cap',e,hn,hn2,hn3,ha⟩:=hs.form;cases e;obtain⟨ao',n',cap',e,hm,hm2,hm3,hb⟩:=ht.form;cases e;have HN:Hid (L.length=n):=hn;have HM:Hid (M.length=n2):=hm;have HA:Hid (0<n→∃g o,ao=some ⟨g,o,none⟩∧GAt lnkE w g o L∧cap≤maxLen):=ha;have HA2:Hid (0<n2→∃g o,ao2=some ⟨g,o,none⟩∧GAt lnkE w g o M∧cap2≤maxLen):=hb;have hn63:n≤9223372036854775807:=by unfold maxLen at hn2;omega
 clear hs ht hn ha hm hb hn2 hm2;obtain⟨R,hR⟩:∃R,R=smG lnkB L M:=⟨_,rfl⟩;have HR:Hid (R=smG lnkB L M):=hR;rw[←hR];clear hR;by_cases hl:n=n2
 ·subst hl;go_enter Tryz.func42,Tryz.ntmps42;go_wp2
  go_loopw [13] (fun i wr=>∃k:Nat,k≤n∧i=.int .i64 k∧(∀j,j<k→∀(h1:j<L.length) (h2:j<M.length),lnkB L[j] M[j]=true)∧Below w.heap.size w wr) (fun i _=>n-(intOf i).toNat)
  case atStart=>exact⟨0,by omega,rfl,fun j hj=>absurd hj (by omega),Below.refl _ _⟩
  case round =>
   obtain⟨k,hk,rfl,hall,hB⟩:=hrel;have HB:Hid (Below w.heap.size w wr):=hB;have HALL:Hid (∀j,j<k→∀(h1:j<L.length) (h2:j<M.length),lnkB L[j] M[j]=true):=hall;clear hall;by_cases hlt:k<n
   ·obtain⟨g,og,hao,hc,_⟩:=HA.out (by omega);obtain⟨g2,og2,hao2,hc2,_⟩:=HA2.out (by omega);subst hao hao2;obtain⟨x0,x1,x2,x3,hkl,hLk,q0,q1,q2,q3⟩:=lnk_at (hc.later hB) HN.out hlt;obtain⟨y0,y1,y2,y3,hkm,hMk,r0,r1,r2,r3⟩:=lnk_at (hc2.later hB) HM.out hlt;have HCE:Hid (lnkEQ w g (og+k*4) x0 x1 x2 x3 g2 (og2+k*4) y0 y1 y2 y3 wr):=⟨hB,⟨q0,q1,q2,q3⟩,r0,r1,r2,r3⟩;have HLK:Hid (L[k]=((x0,x1),(x2,x3))∧M[k]=((y0,y1),(y2,y3))):=⟨hLk,hMk⟩;clear q0 q1 q2 q3 r0 r1 r2 r3 hB hc hc2 hLk hMk HA HA2;go_upto_region 6 with fail;have kb0:(0:Int)≤(k:Int):=by omega
    have kb1:(k:Int)<(n:Int):=by omega
    go_cut [24,13] from 13 to 25 (fun c ix w'=>ix=.int .i64 (k:Int)∧c=.bool (!lnkB ((x0,x1),(x2,x3)) ((y0,y1),(y2,y3)))∧Below w.heap.size w w')
    case first =>
     as_aux_lemma =>
      refine wp_region_quiet (C:=lnkEQ w g (og+k*4) x0 x1 x2 x3 g2 (og2+k*4) y0 y1 y2 y3) (by kernel_rfl) (by kernel_rfl) (lnkEQ.later (W:=wr) (Below.drew (Below.refl _ _)) HCE.out) ?_;simp only[List.toList_toArray];go_big_quiet_want;refine qv (.slice (some ⟨g,og,none⟩) n cap) ?_ ?_
      ·rintro w' ⟨z,⟨z0,z1,z2,z3⟩,u0,u1,u2,u3⟩;go_simp
      simp only[Act.put,AP];go_big_quiet_on;go_big_quiet_want;refine qv (.int .i64 (k:Int)) ?_ ?_
      ·rintro w' ⟨z,⟨z0,z1,z2,z3⟩,u0,u1,u2,u3⟩;go_simp
      simp only[Act.put,AP];go_big_quiet_on;go_big_quiet_want;refine qv (.pointer (some ⟨g,og+k*4,none⟩)) ?_ ?_
      ·rintro w' ⟨z,⟨z0,z1,z2,z3⟩,u0,u1,u2,u3⟩;go_simp
      simp only[Act.put,AP];go_big_quiet_on;go_big_quiet_want;refine qv (.agg #[.int .i64 x0,.int .i64 x1,.int .i64 x2,.int .i64 x3]) ?_ ?_
      ·rintro w' ⟨z,⟨z0,z1,z2,z3⟩,u0,u1,u2,u3⟩;go_simp
      simp only[Act.put,AP];go_big_quiet_on;go_big_quiet_want;refine qv (.slice (some ⟨g2,og2,none⟩) n cap2) ?_ ?_
      ·rintro w' ⟨z,⟨z0,z1,z2,z3⟩,u0,u1,u2,u3⟩;go_simp
      simp only[Act.put,AP];go_big_quiet_on;go_big_quiet_want;refine qv (.int .i64 (k:Int)) ?_ ?_
      ·rintro w' ⟨z,⟨z0,z1,z2,z3⟩,u0,u1,u2,u3⟩;go_simp
      simp only[Act.put,AP];go_big_quiet_on;go_big_quiet_want;refine qv (.pointer (some ⟨g2,og2+k*4,none⟩)) ?_ ?_
      ·rintro w' ⟨z,⟨z0,z1,z2,z3⟩,u0,u1,u2,u3⟩;go_simp
      simp only[Act.put,AP];go_big_quiet_on;go_big_quiet_want;refine qv (.agg #[.int .i64 y0,.int .i64 y1,.int .i64 y2,.int .i64 y3]) ?_ ?_
      ·rintro w' ⟨z,⟨z0,z1,z2,z3⟩,u0,u1,u2,u3⟩;go_simp
      simp only[Act.put,AP];go_big_quiet_on;go_big_quiet_want;refine quiet_val (v:=.bool (!lnkB ((x0,x1),(x2,x3)) ((y0,y1),(y2,y3)))) (fun w' hC=>exec_bin rfl (by go_simp) (run_neq_of (lnk_eq x0 x1 x2 x3 y0 y1 y2 y3 w'))) ?_;simp only[Act.put,AP];go_big_quiet_on;refine wpQuiet_nil ?_;intro w' hC
      go_wp2_with fail
      go_meet
      case rel=>exact⟨rfl,rfl,hC.1⟩
    case rest =>
     obtain⟨rfl,rfl,hB2⟩:=hcut;have HB2:Hid (Below w.heap.size w wc):=hB2;clear HCE hB2;cases ho:lnkB ((x0,x1),(x2,x3)) ((y0,y1),(y2,y3))
     ·have HF:Hid (R=false):=by
       show R=false;rw[HR.out];exact smG_no hkl hkm (by rw[HLK.out.1,HLK.out.2];exact ho)
      go_wp2;go_ret;exact⟨by rw[HF.out];rfl,HB2.out⟩
     have HAL2:Hid (∀j,j<k+1→∀(h1:j<L.length) (h2:j<M.length),lnkB L[j] M[j]=true):=by
      intro j hj h1 h2;by_cases e:j=k
      ·subst e;rw[HLK.out.1,HLK.out.2];exact ho
      exact HALL.out j (by omega) h1 h2
     clear ho;go_wp2;go_roundw
     case rel=>exact⟨k+1,by omega,by go_num,HAL2.out,HB2.out⟩
     case measure=>simp[intOf];omega
   obtain rfl:k=n:=by omega
   have HF:Hid (R=true):=by
    show R=true;rw[HR.out];refine smG_iff.2 ⟨by rw[HN.out,HM.out],fun i h1 h2=>HALL.out i (by rw[HN.out] at h1;exact h1) h1 h2⟩
   go_wp2;go_ret;exact⟨by rw[HF.out];rfl,HB.out⟩
 have HF:Hid (R=false):=by
  show R=false;rw[HR.out];exact smG_len (by rw[HN.out,HM.out];exact hl)
 have e1:((n:Int)==(n2:Int))=false:=beq_eq_false_iff_ne.2 (by omega);have e2:((n:Int) != (n2:Int))=true:=by simp;omega
 go_enter Tryz.func42,Tryz.ntmps42;go_wp2;go_ret;exact⟨by rw[HF.out];rfl,Below.refl _ _⟩
end
section
open Go.ChangeShapes Go.WideShapes Go.ChangeAt Go.RowKit Go.Joins
def hstE:Enc (ByteArray×(Int×Int)) where
 c:=fun x=>[.string x.1,.int .i64 x.2.1,.int .i64 x.2.2]
 n:=3
 len:=fun _=>rfl
 pos:=by decide
 one:=by
  intro x u hu;simp at hu
  rcases hu with rfl | rfl | rfl <;> rfl
theorem hst_cells {w:World}{g o:Nat}{x0:ByteArray}{x1 x2:Int}(h:VAt w g o (hstE.c (x0,(x1,x2)))):w.cell? ⟨g,o,none⟩=some (.string x0)∧w.cell? ⟨g,o+1,none⟩=some (.int .i64 x1)∧w.cell? ⟨g,o+2,none⟩=some (.int .i64 x2):=
 ⟨h 0 _ rfl,h 1 _ rfl,h 2 _ rfl⟩
theorem hst_at {w:World}{g o:Nat}{L:HoQ}(h:GAt hstE w g o L){n k:Nat}(hn:L.length=n)(hk:k<n):
 ∃(x0:ByteArray) (x1:Int) (x2:Int) (hl:k<L.length),L[k]=(x0,(x1,x2))∧w.cell? ⟨g,o+k*3,none⟩=some (.string x0)∧w.cell? ⟨g,o+k*3+1,none⟩=some (.int .i64 x1)∧w.cell? ⟨g,o+k*3+2,none⟩=some (.int .i64 x2):=
 have hl:k<L.length:=by omega
 ⟨_,_,_,hl,rfl,hst_cells (h k hl)⟩
theorem hst_new (w:World)(x0:ByteArray)(x1 x2:Int)(t:TypeId):VAt (w.alloc (Obj.cells #[.string x0,.int .i64 x1,.int .i64 x2] t)) w.heap.size 0 (hstE.c (x0,(x1,x2))):=vat_new w [.string x0,.int .i64 x1,.int .i64 x2] t
def hstB (a b:ByteArray×(Int×Int)):Bool:=(a.1==b.1)&&((a.2.1==b.2.1)&&((a.2.2==b.2.2)))
theorem hst_ways (x0:ByteArray)(x1 x2:Int)(y0:ByteArray)(y1 y2:Int):
 ((x0.toList==y0.toList)=false∧hstB (x0,(x1,x2)) (y0,(y1,y2))=false) ∨
 ((x0.toList==y0.toList)=true∧(x1==y1)=false∧hstB (x0,(x1,x2)) (y0,(y1,y2))=false) ∨
 ((x0.toList==y0.toList)=true∧(x1==y1)=true∧(x2==y2)=false∧hstB (x0,(x1,x2)) (y0,(y1,y2))=false) ∨
 ((x0.toList==y0.toList)=true∧(x1==y1)=true∧(x2==y2)=true∧hstB (x0,(x1,x2)) (y0,(y1,y2))=true):=by
 have e:hstB (x0,(x1,x2)) (y0,(y1,y2))=((x0.toList==y0.toList)&&((x1==y1)&&((x2==y2)))):=by simp only[hstB,beq_toListBytes]
 rw[e];cases h0:(x0.toList==y0.toList)
 ·simp
 skip;cases h1:(x1==y1)
 ·simp
 skip;cases h2:(x2==y2)
 ·simp
 skip;simp
theorem hst_eq (x0:ByteArray)(x1 x2:Int)(y0:ByteArray)(y1 y2:Int)(w:World):(Op.equal 33 (.agg #[.string x0,.int .i64 x1,.int .i64 x2]) (.agg #[.string y0,.int .i64 y1,.int .i64 y2])).run Tryz.prog w=.ok (hstB (x0,(x1,x2)) (y0,(y1,y2))) w:=by
 unfold Op.equal Op.maxDepth;rw[run_equalIn_struct w 9999 _ _ _ (by kernel_rfl) (by kernel_rfl)]
 rcases hst_ways x0 x1 x2 y0 y1 y2 with ⟨e0,e⟩ | ⟨e0,e1,e⟩ | ⟨e0,e1,e2,e⟩ | ⟨e0,e1,e2,e⟩
 all_goals
  rw[e];go_simp
theorem hst_info:(Tryz.prog.info? 33).map (fun i=>(i.zero,i.size,i.bytes))=some (some (.agg #[.string ByteArray.empty,.int .i64 0,.int .i64 0]),3,32):=by kernel_rfl
theorem hst_zero:(Value.agg #[.string ByteArray.empty,.int .i64 0,.int .i64 0]).cells.size=3:=by simp[Value.cells]
theorem hst_open {H:Type}{enc:TypeId×Value→H}{W:World}{n:Nat}{cs:List Value}{x:DataW H×List MemPlace}
 (h:DataW.trod enc Tryz.prog W 0 (fun _=>true) true n 33 cs=some x):∃y,cs=hstE.c y:=by
 obtain⟨xs,k,_,_,hl,hlen,hf⟩:=DataW.trod_struct Tryz.underlying33 h;have hC:Tryz.prog.cellsOf 33=3:=by kernel_rfl
 have hT0:Tryz.prog.cellsOf 9=1:=by kernel_rfl
 have hT1:Tryz.prog.cellsOf 31=2:=by kernel_rfl
 rw[hC] at hl
 match cs,hl with
 | [c0,c1,c2],_ =>
   match xs,hlen with
   | [z0,z1],_ =>
     have g0:=hf 0 _ rfl;have g1:=hf 1 _ rfl;simp[hT0,hT1] at g0 g1;obtain⟨v0,e0,_,_⟩:=DataW.trod_string Tryz.underlying9 g0;obtain⟨s1,e1⟩:=spo_open g1;simp[spoE] at e0 e1;refine⟨(v0,(s1.1,s1.2)),?_⟩;simp[hstE,e0,e1]
end
section
open Go.RowKit
def hstEQ (w:World)(g o:Nat)(x0:ByteArray)(x1 x2:Int)(g' o':Nat)(y0:ByteArray)(y1 y2:Int)(w':World):Prop:=
 Below w.heap.size w w'∧(w'.cell? ⟨g,o,none⟩=some (.string x0)∧w'.cell? ⟨g,o+1,none⟩=some (.int .i64 x1)∧w'.cell? ⟨g,o+2,none⟩=some (.int .i64 x2)) ∧
 w'.cell? ⟨g',o',none⟩=some (.string y0)∧w'.cell? ⟨g',o'+1,none⟩=some (.int .i64 y1)∧w'.cell? ⟨g',o'+2,none⟩=some (.int .i64 y2)
theorem hstEQ.later {w W W':World}{g o:Nat}{x0:ByteArray}{x1 x2:Int}{g' o':Nat}{y0:ByteArray}{y1 y2:Int}(hb:Below W.heap.size W W')(h:hstEQ w g o x0 x1 x2 g' o' y0 y1 y2 W):hstEQ w g o x0 x1 x2 g' o' y0 y1 y2 W':=by
 obtain⟨h0,⟨h1,h2,h3⟩,k1,k2,k3⟩:=h;exact⟨h0.trans (hb.mono h0.size),⟨cell_later hb h1,cell_later hb h2,cell_later hb h3⟩,cell_later hb k1,cell_later hb k2,cell_later hb k3⟩
theorem hst_equal (ao:Option Addr)(n cap:Nat)(ao2:Option Addr)(n2 cap2:Nat)(L M:HoQ)(w:World)(hs:GS hstE w (.slice ao n cap) L)(ht:GS hstE w (.slice ao2 n2 cap2) M):
 Calls Tryz.prog 43 #[.slice ao n cap,.slice ao2 n2 cap2] w fun e w'=>e=.returned (.bool (smG hstB L M))∧Below w.heap.size w w':=by
 obtain⟨ao',n',cap',e,hn,hn2,hn3,ha⟩:=hs.form;cases e;obtain⟨ao',n',cap',e,hm,hm2,hm3,hb⟩:=ht.form;cases e;have HN:Hid (L.length=n):=hn;have HM:Hid (M.length=n2):=hm;have HA:Hid (0<n→∃g o,ao=some ⟨g,o,none⟩∧GAt hstE w g o L∧cap≤maxLen):=ha;have HA2:Hid (0<n2→∃g o,ao2=some ⟨g,o,none⟩∧GAt hstE w g o M∧cap2≤maxLen):=hb;have hn63:n≤9223372036854775807:=by unfold maxLen at hn2;omega
 clear hs ht hn ha hm hb hn2 hm2;obtain⟨R,hR⟩:∃R,R=smG hstB L M:=⟨_,rfl⟩;have HR:Hid (R=smG hstB L M):=hR;rw[←hR];clear hR;by_cases hl:n=n2
 ·subst hl;go_enter Tryz.func43,Tryz.ntmps43;go_wp2
  go_loopw [13] (fun i wr=>∃k:Nat,k≤n∧i=.int .i64 k∧(∀j,j<k→∀(h1:j<L.length) (h2:j<M.length),hstB L[j] M[j]=true)∧Below w.heap.size w wr) (fun i _=>n-(intOf i).toNat)
  case atStart=>exact⟨0,by omega,rfl,fun j hj=>absurd hj (by omega),Below.refl _ _⟩
  case round =>
   obtain⟨k,hk,rfl,hall,hB⟩:=hrel;have HB:Hid (Below w.heap.size w wr):=hB;have HALL:Hid (∀j,j<k→∀(h1:j<L.length) (h2:j<M.length),hstB L[j] M[j]=true):=hall;clear hall;by_cases hlt:k<n
   ·obtain⟨g,og,hao,hc,_⟩:=HA.out (by omega);obtain⟨g2,og2,hao2,hc2,_⟩:=HA2.out (by omega);subst hao hao2;obtain⟨x0,x1,x2,hkl,hLk,q0,q1,q2⟩:=hst_at (hc.later hB) HN.out hlt;obtain⟨y0,y1,y2,hkm,hMk,r0,r1,r2⟩:=hst_at (hc2.later hB) HM.out hlt;have HCE:Hid (hstEQ w g (og+k*3) x0 x1 x2 g2 (og2+k*3) y0 y1 y2 wr):=⟨hB,⟨q0,q1,q2⟩,r0,r1,r2⟩;have HLK:Hid (L[k]=(x0,(x1,x2))∧M[k]=(y0,(y1,y2))):=⟨hLk,hMk⟩;clear q0 q1 q2 r0 r1 r2 hB hc hc2 hLk hMk HA HA2;go_upto_region 6 with fail;have kb0:(0:Int)≤(k:Int):=by omega
    have kb1:(k:Int)<(n:Int):=by omega
    go_cut [24,13] from 13 to 25 (fun c ix w'=>ix=.int .i64 (k:Int)∧c=.bool (!hstB (x0,(x1,x2)) (y0,(y1,y2)))∧Below w.heap.size w w')
    case first =>
     as_aux_lemma =>
      refine wp_region_quiet (C:=hstEQ w g (og+k*3) x0 x1 x2 g2 (og2+k*3) y0 y1 y2) (by kernel_rfl) (by kernel_rfl) (hstEQ.later (W:=wr) (Below.drew (Below.refl _ _)) HCE.out) ?_;simp only[List.toList_toArray];go_big_quiet_want;refine qv (.slice (some ⟨g,og,none⟩) n cap) ?_ ?_
      ·rintro w' ⟨z,⟨z0,z1,z2⟩,u0,u1,u2⟩;go_simp
      simp only[Act.put,AP];go_big_quiet_on;go_big_quiet_want;refine qv (.int .i64 (k:Int)) ?_ ?_
      ·rintro w' ⟨z,⟨z0,z1,z2⟩,u0,u1,u2⟩;go_simp
      simp only[Act.put,AP];go_big_quiet_on;go_big_quiet_want;refine qv (.pointer (some ⟨g,og+k*3,none⟩)) ?_ ?_
      ·rintro w' ⟨z,⟨z0,z1,z2⟩,u0,u1,u2⟩;go_simp
      simp only[Act.put,AP];go_big_quiet_on;go_big_quiet_want;refine qv (.agg #[.string x0,.int .i64 x1,.int .i64 x2]) ?_ ?_
      ·rintro w' ⟨z,⟨z0,z1,z2⟩,u0,u1,u2⟩;go_simp
      simp only[Act.put,AP];go_big_quiet_on;go_big_quiet_want;refine qv (.slice (some ⟨g2,og2,none⟩) n cap2) ?_ ?_
      ·rintro w' ⟨z,⟨z0,z1,z2⟩,u0,u1,u2⟩;go_simp
      simp only[Act.put,AP];go_big_quiet_on;go_big_quiet_want;refine qv (.int .i64 (k:Int)) ?_ ?_
      ·rintro w' ⟨z,⟨z0,z1,z2⟩,u0,u1,u2⟩;go_simp
      simp only[Act.put,AP];go_big_quiet_on;go_big_quiet_want;refine qv (.pointer (some ⟨g2,og2+k*3,none⟩)) ?_ ?_
      ·rintro w' ⟨z,⟨z0,z1,z2⟩,u0,u1,u2⟩;go_simp
      simp only[Act.put,AP];go_big_quiet_on;go_big_quiet_want;refine qv (.agg #[.string y0,.int .i64 y1,.int .i64 y2]) ?_ ?_
      ·rintro w' ⟨z,⟨z0,z1,z2⟩,u0,u1,u2⟩;go_simp
      simp only[Act.put,AP];go_big_quiet_on;go_big_quiet_want;refine quiet_val (v:=.bool (!hstB (x0,(x1,x2)) (y0,(y1,y2)))) (fun w' hC=>exec_bin rfl (by go_simp) (run_neq_of (hst_eq x0 x1 x2 y0 y1 y2 w'))) ?_;simp only[Act.put,AP];go_big_quiet_on;refine wpQuiet_nil ?_;intro w' hC
      go_wp2_with fail
      go_meet
      case rel=>exact⟨rfl,rfl,hC.1⟩
    case rest =>
     obtain⟨rfl,rfl,hB2⟩:=hcut;have HB2:Hid (Below w.heap.size w wc):=hB2;clear HCE hB2;cases ho:hstB (x0,(x1,x2)) (y0,(y1,y2))
     ·have HF:Hid (R=false):=by
       show R=false;rw[HR.out];exact smG_no hkl hkm (by rw[HLK.out.1,HLK.out.2];exact ho)
      go_wp2;go_ret;exact⟨by rw[HF.out];rfl,HB2.out⟩
     have HAL2:Hid (∀j,j<k+1→∀(h1:j<L.length) (h2:j<M.length),hstB L[j] M[j]=true):=by
      intro j hj h1 h2;by_cases e:j=k
      ·subst e;rw[HLK.out.1,HLK.out.2];exact ho
      exact HALL.out j (by omega) h1 h2
     clear ho;go_wp2;go_roundw
     case rel=>exact⟨k+1,by omega,by go_num,HAL2.out,HB2.out⟩
     case measure=>simp[intOf];omega
   obtain rfl:k=n:=by omega
   have HF:Hid (R=true):=by
    show R=true;rw[HR.out];refine smG_iff.2 ⟨by rw[HN.out,HM.out],fun i h1 h2=>HALL.out i (by rw[HN.out] at h1;exact h1) h1 h2⟩
   go_wp2;go_ret;exact⟨by rw[HF.out];rfl,HB.out⟩
 have HF:Hid (R=false):=by
  show R=false;rw[HR.out];exact smG_len (by rw[HN.out,HM.out];exact hl)
 have e1:((n:Int)==(n2:Int))=false:=beq_eq_false_iff_ne.2 (by omega);have e2:((n:Int) != (n2:Int))=true:=by simp;omega
 go_enter Tryz.func43,Tryz.ntmps43;go_wp2;go_ret;exact⟨by rw[HF.out];rfl,Below.refl _ _⟩
def hdrB (n:Int):Bool:=decide (0≤n)&&decide (n<16)
def rngB (m b:Int):Bool:=hdrB m&&hdrB b
def okB (m b:Int):Bool:=rngB m b&&(bits .andNot .i64 b m==0)
theorem hdr_of {n:Int}(h:hdrB n=true):0≤n∧n<16:=by simpa[hdrB] using h
theorem hdr_no {n:Int}(h:hdrB n=false):n<0∨16≤n:=by simp[hdrB] at h;omega
theorem hdr_mk {n:Int}(h:0≤n∧n<16):hdrB n=true:=by simpa[hdrB] using h
theorem rng_of {m b:Int}(h:rngB m b=true):(0≤m∧m<16)∧(0≤b∧b<16):=by
 simp only[rngB,Bool.and_eq_true] at h;exact⟨hdr_of h.1,hdr_of h.2⟩
theorem ok_rng {m b:Int}(h:okB m b=true):rngB m b=true:=by
 simp only[okB,Bool.and_eq_true] at h;exact h.1
theorem ok_of {m b:Int}(h:okB m b=true):(0≤m∧m<16)∧(0≤b∧b<16):=rng_of (ok_rng h)
theorem small {n:Int}(h:0≤n∧n<16):∃k:Fin 16,n=((k:Nat):Int):=⟨⟨n.toNat,by omega⟩,by simp;omega⟩
def hasB (m b h:Int):Bool:=hdrB h&&(okB m b&&(bits .and .i64 h m==b))
def refN (m b:Int):Int:=if okB m b then 0 else if rngB m b then 3 else 1
theorem refN_ok {m b:Int}(h:okB m b=true):refN m b=0:=by simp[refN,h]
theorem refN_shape {m b:Int}(h:okB m b=false)(h2:rngB m b=true):refN m b=3:=by simp[refN,h,h2]
theorem refN_range {m b:Int}(h2:rngB m b=false):refN m b=1:=by simp[refN,okB,h2]
theorem ok_refN (m b:Int):(refN m b==0)=okB m b:=by
 cases h:okB m b
 ·cases h2:rngB m b
  ·simp[refN_range h2]
  simp[refN_shape h h2]
 simp[refN_ok h]
def ruP (p o:Int):Bool:=decide (0≤p)&&(decide (p≤99)&&(decide (0≤o)&&decide (o≤4)))
def ruIn (p o s v:Int):Bool:=ruP p o&&rngB s v
def ruSet (o s v:Int):Bool:=(bits .andNot .i64 v s==0)&&(!(o==0) || s==0)
def ruN (p m b o s v:Int):Int:=if ruIn p o s v then (if okB m b then (if ruSet o s v then 0 else 3) else refN m b) else 1
def ruOk (p m b o s v:Int):Bool:=ruIn p o s v&&(okB m b&&ruSet o s v)
def apN (p m b o s v h:Int):Int:=if ruOk p m b o s v then (if hdrB h then (if hasB m b h && !(o==0) then 0 else 5) else 1) else ruN p m b o s v
def apV (s v h:Int):Int:=bits .or .i64 (bits .andNot .i64 h s) v
def apR (p m b o s v h:Int):Int:=if apN p m b o s v h=0 then apV s v h else 0
theorem ru_ok {p m b o s v:Int}(h:ruOk p m b o s v=true):ruIn p o s v=true∧okB m b=true∧ruSet o s v=true:=by
 simpa[ruOk] using h
theorem ruN_ok {p m b o s v:Int}(h:ruOk p m b o s v=true):ruN p m b o s v=0:=by
 obtain⟨h1,h2,h3⟩:=ru_ok h;simp[ruN,h1,h2,h3]
theorem ruN_ne {p m b o s v:Int}(h:ruOk p m b o s v=false):ruN p m b o s v≠0:=by
 unfold ruN;cases h1:ruIn p o s v
 ·simp
 cases h2:okB m b
 ·simp only[if_true];have:=ok_refN m b;rw[h2] at this;simpa using this
 cases h3:ruSet o s v
 ·simp
 simp[ruOk,h1,h2,h3] at h
theorem ru_in {p o s v:Int}(h:ruIn p o s v=true):((0≤p∧p≤99)∧(0≤o∧o≤4))∧(0≤s∧s<16)∧(0≤v∧v<16):=by
 simp only[ruIn,Bool.and_eq_true] at h;obtain⟨h1,h2⟩:=h;have h3:=rng_of h2;simp only[ruP,Bool.and_eq_true,decide_eq_true_eq] at h1;exact⟨⟨⟨h1.1,h1.2.1⟩,⟨h1.2.2.1,h1.2.2.2⟩⟩,h3⟩
theorem apN_bad {p m b o s v:Int}(h:Int)(hr:ruOk p m b o s v=false):apN p m b o s v h=ruN p m b o s v:=by simp[apN,hr]
theorem apR_bad {p m b o s v h:Int}(hr:apN p m b o s v h≠0):apR p m b o s v h=0:=by simp[apR,hr]
theorem ap_yes {p m b o s v h:Int}(hr:apN p m b o s v h=0):ruOk p m b o s v=true∧hdrB h=true∧hasB m b h=true∧(o==0)=false:=by
 cases h1:ruOk p m b o s v
 ·rw[apN_bad h h1] at hr;exact absurd hr (ruN_ne h1)
 cases h2:hdrB h
 ·simp[apN,h1,h2] at hr
 simp only[apN,h1,h2,if_true] at hr;cases h3:(hasB m b h && !(o==0))
 ·simp[h3] at hr
 simpa using h3
def cmpN (a b:Int):Int:=if a<b then -1 else if b<a then 1 else 0
def orN (x y z:Int):Int:=if x=0 then (if y=0 then z else y) else x
def ordN (p m b p' m' b':Int):Int:=orN (cmpN p p') (cmpN m m') (cmpN b b')
structure Ru where
 p:Int
 m:Int
 b:Int
 o:Int
 s:Int
 v:Int
def Ru.n (r:Ru):Int:=ruN r.p r.m r.b r.o r.s r.v
def Ru.ok (r:Ru):Bool:=ruOk r.p r.m r.b r.o r.s r.v
def Ru.has (r:Ru)(h:Int):Bool:=hasB r.m r.b h
def ordR (a b:Ru):Int:=ordN a.p a.m a.b b.p b.m b.b
def keyB (a b:Ru):Bool:=ordR a b==0
def zeR:Ru:=⟨0,0,0,0,0,0⟩
theorem cmp_0 {a b:Int}:cmpN a b=0↔a=b:=by unfold cmpN;split <;> (try split) <;> omega
theorem ord_0 {a b:Ru}:ordR a b=0↔a.p=b.p∧a.m=b.m∧a.b=b.b:=by
 unfold ordR ordN orN;by_cases h1:a.p=b.p
 ·rw[if_pos (cmp_0.2 h1)];by_cases h2:a.m=b.m
  ·rw[if_pos (cmp_0.2 h2),cmp_0];exact⟨fun h=>⟨h1,h2,h⟩,fun h=>h.2.2⟩
  rw[if_neg (fun h=>h2 (cmp_0.1 h)),cmp_0];exact⟨fun h=>absurd h h2,fun h=>h.2.1⟩
 rw[if_neg (fun h=>h1 (cmp_0.1 h)),cmp_0];exact⟨fun h=>absurd h h1,fun h=>h.1⟩
theorem ord_le {a b:Ru}:ordR a b≤0↔(a.p<b.p∨a.p=b.p∧(a.m<b.m∨a.m=b.m∧a.b≤b.b)):=by
 unfold ordR ordN orN cmpN
 split <;> split <;> (try split) <;> (try split) <;> (try split) <;> (try split) <;> omega
theorem ord_tr {a b c:Ru}(h1:ordR a b≤0)(h2:0<ordR c b):ordR a c≤0:=by
 have h3:¬ordR c b≤0:=by omega
 rw[ord_le] at h1 h3 ⊢;omega
theorem ord_as {a b:Ru}(h1:ordR a b≤0)(h2:ordR b a≤0):ordR a b=0:=by
 rw[ord_le] at h1 h2;rw[ord_0];omega
theorem ord_rf (a:Ru):ordR a a=0:=ord_0.2 ⟨rfl,rfl,rfl⟩
theorem key_sym {a b:Ru}(h:keyB a b=false):keyB b a=false:=by
 simp only[keyB,beq_eq_false_iff_ne,ne_eq,ord_0] at h ⊢;exact fun h'=>h ⟨h'.1.symm,h'.2.1.symm,h'.2.2.symm⟩
theorem key_eq (a b:Ru):keyB a b=(decide (a.p=b.p)&&(decide (a.m=b.m)&&decide (a.b=b.b))):=by
 rw[Bool.eq_iff_iff,keyB,beq_iff_eq,ord_0];simp
def clTo (L:List Ru):Nat→Bool
 | 0=>false
 | k+1=>clTo L k || (L.take k).any (fun a=>keyB a (L.getD k zeR))
def okR (L:List Ru):Bool:=L.all Ru.ok
def tbTo (L:List Ru):Nat→Int
 | 0=>0
 | k+1=>if tbTo L k=0 then (if (L.getD k zeR).n=0 then (if (L.take k).any (fun a=>keyB a (L.getD k zeR)) then 7 else 0) else (L.getD k zeR).n) else tbTo L k
def tbN (L:List Ru):Int:=if 12<L.length then 4 else tbTo L L.length
theorem n_ne {r:Ru}(h:r.ok=false):r.n≠0:=ruN_ne h
theorem n_ok {r:Ru}(h:r.ok=true):r.n=0:=ruN_ok h
theorem ok_n {r:Ru}(h:r.n=0):r.ok=true:=by
 cases e:r.ok
 ·exact absurd h (n_ne e)
 rfl
theorem okR_next {L:List Ru}{k:Nat}(hk:k<L.length)(h:okR (L.take k)=true)(h2:(L[k]).ok=true):okR (L.take (k+1))=true:=by
 rw[List.take_succ_eq_append_getElem hk];simp only[okR,List.all_append,List.all_cons,List.all_nil,Bool.and_true,Bool.and_eq_true];exact⟨h,h2⟩
theorem to_le {L:List Ru}{k:Nat}(h:tbTo L k≠0):∀{n:Nat},k≤n→tbTo L n=tbTo L k
 | 0,hn=>by
   obtain rfl:k=0:=by omega
   rfl
 | n+1,hn=>by
   by_cases e:k=n+1
   ·subst e;rfl
   have:=to_le h (show k≤n by omega);rw[tbTo,if_neg (by rw[this];exact h),this]
theorem getD_at {L:List Ru}{k:Nat}(hk:k<L.length):L.getD k zeR=L[k]:=by simp[List.getD,hk]
theorem cl_le {L:List Ru}:∀{k n:Nat},k≤n→clTo L n=false→clTo L k=false
 | k,0,h,hc=>by
   obtain rfl:k=0:=by omega
   exact hc
 | k,n+1,h,hc=>by
   by_cases e:k=n+1
   ·subst e;exact hc
   simp only[clTo,Bool.or_eq_false_iff] at hc;exact cl_le (by omega) hc.1
theorem cl_no {L:List Ru}:clTo L L.length=false↔∀i j,i<j→j<L.length→keyB (L.getD i zeR) (L.getD j zeR)=false:=by
 constructor
 ·intro h i j hij hj;have:=cl_le (show j+1≤L.length by omega) h;simp only[clTo,Bool.or_eq_false_iff] at this;have h2:=this.2;rw[List.any_eq_false] at h2;have hm:L.getD i zeR∈L.take j:=by
   rw[getD_at (by omega)];rw[List.mem_take_iff_getElem];exact⟨i,by omega,rfl⟩
  simpa using h2 _ hm
 intro h;have:∀n,n≤L.length→clTo L n=false:=by
  intro n
  induction n with
  | zero=>intro _;rfl
  | succ n ih =>
    intro hn;simp only[clTo,Bool.or_eq_false_iff];refine⟨ih (by omega),?_⟩;rw[List.any_eq_false];intro a ha;rw[List.mem_take_iff_getElem] at ha;obtain⟨i,hi,rfl⟩:=ha;have:=h i n (by omega) (by omega);rw[getD_at (by omega)] at this;simpa using this
 exact this _ (Nat.le_refl _)
theorem to_0 {L:List Ru}:∀{k:Nat},k≤L.length→(tbTo L k=0↔okR (L.take k)=true∧clTo L k=false)
 | 0,_=>by simp[tbTo,okR,clTo]
 | k+1,hk=>by
   have ih:=to_0 (show k≤L.length by omega);have hl:k<L.length:=by omega
   rw[tbTo,clTo];by_cases h1:tbTo L k=0
   ·obtain⟨i1,i2⟩:=ih.1 h1;rw[if_pos h1,i2,Bool.false_or];by_cases h2:(L.getD k zeR).n=0
    ·rw[if_pos h2];have h3:=okR_next hl i1 (by rw[←getD_at hl];exact ok_n h2);cases h4:(L.take k).any (fun a=>keyB a (L.getD k zeR))
     ·simp[h3]
     simp
    rw[if_neg h2];refine⟨fun h=>absurd h h2,fun h=>?_⟩
    exfalso
    have h5:=h.1;rw[okR,List.all_eq_true] at h5;exact h2 (n_ok (by rw[getD_at hl];exact h5 _ (by rw[List.mem_take_iff_getElem];exact⟨k,by omega,rfl⟩)))
   rw[if_neg h1];refine⟨fun h=>absurd h h1,fun h=>?_⟩
   exfalso
   obtain⟨h5,h6⟩:=h;simp only[Bool.or_eq_false_iff] at h6;refine h1 (ih.2 ⟨?_,h6.1⟩);rw[okR,List.all_eq_true] at h5 ⊢;intro x hx;refine h5 x ?_;rw[List.mem_take_iff_getElem] at hx ⊢;obtain⟨i,hi,e⟩:=hx;exact⟨i,by omega,e⟩
theorem tb_0 {L:List Ru}:tbN L=0↔L.length≤12∧okR L=true∧clTo L L.length=false:=by
 unfold tbN;by_cases h1:12<L.length
 ·rw[if_pos h1];constructor
  ·intro h;cases h
  intro h;omega
 rw[if_neg h1,to_0 (Nat.le_refl _),List.take_length];exact⟨fun h=>⟨by omega,h⟩,fun h=>h.2⟩
def beTo (L:List Ru)(h:Int):Nat→Int
 | 0 => -1
 | k+1=>if ((L.getD k zeR).has h&&(decide (beTo L h k<0) || decide (0<ordR (L.getD k zeR) (L.getD (beTo L h k).toNat zeR))))=true then (k:Int) else beTo L h k
theorem be_bd (L:List Ru)(h:Int):∀k:Nat,-1≤beTo L h k∧beTo L h k<k
 | 0=>by simp[beTo]
 | k+1=>by
   have:=be_bd L h k;unfold beTo
   split <;> omega
theorem be_no {L:List Ru}{h:Int}:∀{k:Nat},beTo L h k<0→∀j,j<k→(L.getD j zeR).has h=false
 | 0,_,j,hj=>by omega
 | k+1,hb,j,hj=>by
   unfold beTo at hb
   split at hb
   ·omega
   next hn =>
   by_cases e:j=k
   ·subst e;cases hh:(L.getD j zeR).has h
    ·rfl
    exact absurd (by rw[hh];simp[hb]) hn
   exact be_no hb j (by omega)
theorem be_yes {L:List Ru}{h:Int}:∀{k:Nat},0≤beTo L h k→(L.getD (beTo L h k).toNat zeR).has h=true∧∀j,j<k→(L.getD j zeR).has h=true→ordR (L.getD j zeR) (L.getD (beTo L h k).toNat zeR)≤0
 | 0,hb=>by simp[beTo] at hb
 | k+1,hb=>by
   unfold beTo at hb ⊢
   split
   ·next hy =>
    simp only[Bool.and_eq_true,Bool.or_eq_true,decide_eq_true_eq] at hy;obtain⟨y1,y2⟩:=hy;simp only[Int.toNat_natCast];refine⟨y1,fun j hj hh=>?_⟩;by_cases e:j=k
    ·subst e;rw[ord_rf];exact Int.le_refl _
    rcases y2 with y2 | y2
    ·rw[be_no y2 j (by omega)] at hh;cases hh
    have h0:0≤beTo L h k:=by
     rcases Int.lt_or_le (beTo L h k) 0 with h' | h'
     ·rw[be_no h' j (by omega)] at hh;cases hh
     exact h'
    exact ord_tr ((be_yes h0).2 j (by omega) hh) y2
   next hn =>
   rw[if_neg hn] at hb;obtain⟨i1,i2⟩:=be_yes hb;refine⟨i1,fun j hj hh=>?_⟩;by_cases e:j=k
   ·subst e;rw[hh] at hn;simp only[Bool.true_and,Bool.or_eq_true,decide_eq_true_eq,not_or] at hn;omega
   exact i2 j (by omega) hh
def luN (L:List Ru)(h:Int):Int:=if tbN L=0 then (if hdrB h then (if beTo L h L.length<0 then 5 else 0) else 1) else tbN L
def luI (L:List Ru)(h:Int):Int:=if luN L h=0 then beTo L h L.length else 0
theorem lu_0 {L:List Ru}{h:Int}:luN L h=0↔tbN L=0∧hdrB h=true∧0≤beTo L h L.length:=by
 unfold luN;by_cases h1:tbN L=0
 ·rw[if_pos h1];cases h2:hdrB h
  ·simp
  by_cases h3:beTo L h L.length<0
  ·simp[h1,h3] <;> omega
  simp[h1,h3] <;> omega
 rw[if_neg h1];simp[h1]
def eqR (a b:Ru):Bool:=decide (a.p=b.p)&&(decide (a.m=b.m)&&(decide (a.b=b.b)&&(decide (a.o=b.o)&&(decide (a.s=b.s)&&decide (a.v=b.v)))))
theorem eq_R {a b:Ru}:eqR a b=true↔a=b:=by
 obtain⟨p,m,b1,o,s,v⟩:=a;obtain⟨p',m',b',o',s',v'⟩:=b;simp[eqR]
theorem eq_no {a b:Ru}:eqR a b=false↔a≠b:=by
 rw[←Bool.not_eq_true,Ne,eq_R]
theorem eq_rf (a:Ru):eqR a a=true:=eq_R.2 rfl
def inB (L:List Ru)(r:Ru):Bool:=L.any (fun a=>eqR r a)
theorem in_iff {L:List Ru}{r:Ru}:inB L r=true↔r∈L:=by
 simp only[inB,List.any_eq_true,eq_R];exact⟨fun ⟨x,h,e⟩=>e ▸ h,fun h=>⟨r,h,rfl⟩⟩
def ixN (L:List Ru)(r:Ru):Nat:=L.findIdx (fun a=>eqR r a)
def bey (A B:List Ru):List Ru:=A.filter (fun r => !inB B r)
def hitB (L:List Ru)(r:Ru):Bool:=L.any (fun a=>keyB a r)
def chN (L:List Ru)(add:Bool)(r:Ru):Int:=if add then (if hitB L r then 7 else if 12≤L.length then 4 else 0) else (if inB L r then 0 else 5)
def chL (L:List Ru)(add:Bool)(r:Ru):List Ru:=if chN L add r=0 then (if add then L++[r] else L.take (ixN L r)++L.drop (ixN L r+1)) else []
def doN (L:List Ru)(add:Bool)(r:Ru):Int:=if tbN L=0 then (if r.n=0 then chN L add r else r.n) else tbN L
def doL (L:List Ru)(add:Bool)(r:Ru):List Ru:=if doN L add r=0 then chL L add r else []
structure Op8 where
 w:Int
 a:Bool
 r:Ru
def alN:List Ru→List Op8→Int
 | _,[]=>0
 | L,o :: l=>if doN L o.a o.r=0 then alN (doL L o.a o.r) l else doN L o.a o.r
def alL:List Ru→List Op8→List Ru
 | L,[]=>L
 | L,o :: l=>if doN L o.a o.r=0 then alL (doL L o.a o.r) l else []
def taken (L:List Ru):List Op8:=L.map fun r=>⟨0,false,r⟩
def added (L:List Ru):List Op8:=L.map fun r=>⟨0,true,r⟩
def twN (A B:List Ru):Int:=if tbN A=0 then tbN B else tbN A
def dfL (A B:List Ru):List Op8:=if twN A B=0 then taken (bey A B)++added (bey B A) else []
def smB (A B:List Ru):Bool:=if twN A B=0 then (decide (A.length=B.length)&&decide ((bey A B).length=0)) else false
theorem tb_iff {L:List Ru}:tbN L=0↔L.length≤12∧(∀r∈L,r.ok=true)∧L.Pairwise (fun a b=>keyB a b=false):=by
 rw[tb_0,cl_no,okR,List.all_eq_true,List.pairwise_iff_getElem];refine and_congr Iff.rfl (and_congr Iff.rfl ⟨fun h i j hi hj hij=>?_,fun h i j hij hj=>?_⟩)
 ·have:=h i j hij hj;rw[getD_at hi,getD_at hj] at this;exact this
 rw[getD_at (by omega),getD_at hj];exact h i j (by omega) hj hij
theorem key_rf (a:Ru):keyB a a=true:=by simp[keyB,ord_rf]
theorem key_sy {a b:Ru}:keyB a b=keyB b a:=by
 cases h:keyB b a
 ·exact key_sym h
 cases h2:keyB a b
 ·rw[key_sym h2] at h;cases h
 rfl
theorem tb_sub {L M:List Ru}(h:tbN L=0)(hs:M.Sublist L):tbN M=0:=by
 rw[tb_iff] at h ⊢;exact⟨Nat.le_trans hs.length_le h.1,fun r hr=>h.2.1 r (hs.subset hr),h.2.2.sublist hs⟩
theorem tb_one {L:List Ru}{r:Ru}(h:tbN L=0)(hr:r.ok=true)(hh:hitB L r=false)(hl:L.length<12):tbN (L++[r])=0:=by
 rw[tb_iff] at h ⊢;refine⟨by simp;omega,?_,?_⟩
 ·intro x hx;rw[List.mem_append,List.mem_singleton] at hx
  rcases hx with hx | rfl
  ·exact h.2.1 x hx
  exact hr
 rw[List.pairwise_append];refine⟨h.2.2,List.pairwise_singleton _ _,fun a ha b hb=>?_⟩;rw[List.mem_singleton] at hb;subst hb;simp only[hitB,List.any_eq_false] at hh;simpa using hh a ha
theorem tb_key {L:List Ru}(h:tbN L=0){a b:Ru}(ha:a∈L)(hb:b∈L)(hk:keyB a b=true):a=b:=by
 rw[tb_iff] at h;have hp:=h.2.2;clear h
 induction L with
 | nil=>cases ha
 | cons x l ih =>
   rw[List.pairwise_cons] at hp
   rcases List.mem_cons.1 ha with e1 | ha1
   ·rcases List.mem_cons.1 hb with e2 | hb1
    ·rw[e1,e2]
    rw[e1,hp.1 b hb1] at hk;cases hk
   rcases List.mem_cons.1 hb with e2 | hb1
   ·rw[e2,key_sy,hp.1 a ha1] at hk;cases hk
   exact ih ha1 hb1 hp.2
theorem tb_nodup {L:List Ru}(h:tbN L=0):L.Nodup:=by
 rw[tb_iff] at h;refine h.2.2.imp ?_;rintro a b hk rfl;rw[key_rf] at hk;cases hk
theorem ix_split {L M:List Ru}{r:Ru}(h:r ∉ L):ixN (L++r :: M) r=L.length:=by
 induction L with
 | nil=>simp[ixN,List.findIdx_cons,eq_rf]
 | cons x l ih =>
   have h1:eqR r x=false:=eq_no.2 (fun e=>h (by rw[e];exact List.mem_cons_self));have h2:=ih (fun hm=>h (List.mem_cons_of_mem _ hm));simp only[ixN] at h2 ⊢;rw[List.cons_append,List.findIdx_cons,h1,h2];rfl
theorem do_take {A B:List Ru}{r:Ru}(h:tbN (A++r :: B)=0):doN (A++r :: B) false r=0∧doL (A++r :: B) false r=A++B:=by
 have hm:r∈A++r :: B:=by simp
 have hno:r ∉ A:=by
  have:=tb_nodup h;rw[List.nodup_append] at this;intro hA;exact this.2.2 r hA r (by simp) rfl
 have hr:r.n=0:=n_ok ((tb_iff.1 h).2.1 r hm);have hc:chN (A++r :: B) false r=0:=by simp[chN,in_iff.2 hm]
 have hd:doN (A++r :: B) false r=0:=by rw[doN,if_pos h,if_pos hr,hc]
 refine⟨hd,?_⟩;rw[doL,if_pos hd,chL,if_pos hc,ix_split hno];simp
theorem do_add {L:List Ru}{r:Ru}(h:tbN L=0)(hr:r.ok=true)(hh:hitB L r=false)(hl:L.length<12):doN L true r=0∧doL L true r=L++[r]:=by
 have hc:chN L true r=0:=by
  rw[chN,hh];simp;omega
 have hd:doN L true r=0:=by rw[doN,if_pos h,if_pos (n_ok hr),hc]
 exact⟨hd,by rw[doL,if_pos hd,chL,if_pos hc];rfl⟩
theorem add_yes {L:List Ru}{r:Ru}(h:doN L true r=0):tbN L=0∧r.ok=true∧hitB L r=false∧L.length<12:=by
 unfold doN at h;by_cases h1:tbN L=0
 ·rw[if_pos h1] at h;by_cases h2:r.n=0
  ·rw[if_pos h2,chN] at h;simp only[if_true] at h;cases h3:hitB L r
   ·rw[h3] at h;by_cases h4:12≤L.length
    ·simp[h4] at h
    exact⟨h1,ok_n h2,rfl,by omega⟩
   rw[h3] at h;simp at h
  rw[if_neg h2] at h;exact absurd h h2
 rw[if_neg h1] at h;exact absurd h h1
theorem al_take (o:List Ru)(ops:List Op8):∀(A B:List Ru),tbN (A++B)=0→(∀r∈A,inB o r=true) →
 alN (A++B) (taken (bey B o)++ops)=alN (A++B.filter (inB o)) ops∧alL (A++B) (taken (bey B o)++ops)=alL (A++B.filter (inB o)) ops:=by
 intro A B
 induction B generalizing A with
 | nil=>intro _ _;simp[bey,taken]
 | cons r B ih =>
   intro h hA;cases hi:inB o r
   ·have e:bey (r :: B) o=r :: bey B o:=by simp[bey,hi]
    have e2:(r :: B).filter (inB o)=B.filter (inB o):=by simp[hi]
    obtain⟨d1,d2⟩:=do_take h;have h2:tbN (A++B)=0:=tb_sub h (by
     refine List.Sublist.append (List.Sublist.refl _) ?_;exact List.sublist_cons_self r B)
    have:=ih A h2 hA;rw[e,e2,taken,List.map_cons,List.cons_append,alN,alL];simp only[d1,d2,if_true];exact this
   have e:bey (r :: B) o=bey B o:=by simp[bey,hi]
   have e2:(r :: B).filter (inB o)=r :: B.filter (inB o):=by simp[hi]
   have:=ih (A++[r]) (by rw[List.append_assoc];exact h) (by
    intro x hx;rw[List.mem_append,List.mem_singleton] at hx
    rcases hx with hx | rfl
    ·exact hA x hx
    exact hi)
   rw[e,e2];rw[List.append_assoc,List.append_assoc] at this;exact this
theorem al_add (o:List Ru)(ho:tbN o=0):∀(A B:List Ru),tbN A=0→(A++B).Nodup→(∀r∈A++B,r∈o)→(A++B).length≤o.length→alN A (added B)=0∧alL A (added B)=A++B:=by
 intro A B
 induction B generalizing A with
 | nil=>intro _ _ _ _;simp[added,alN,alL]
 | cons r B ih =>
   intro hA hn hm hl;have hro:r∈o:=hm r (by simp);have hr:r.ok=true:=(tb_iff.1 ho).2.1 r hro;have hh:hitB A r=false:=by
    simp only[hitB,List.any_eq_false];intro a ha hk;have hao:a∈o:=hm a (by simp[ha]);have:=tb_key ho hao hro hk;rw[List.nodup_append] at hn;exact hn.2.2 a ha r (by simp) this
   have hlen:A.length<12:=by
    have:=(tb_iff.1 ho).1;simp at hl;omega
   obtain⟨d1,d2⟩:=do_add hA hr hh hlen;have e:A++r :: B=(A++[r])++B:=by simp
   have:=ih (A++[r]) (tb_one hA hr hh hlen) (by rw[←e];exact hn) (by rw[←e];exact hm) (by rw[←e];exact hl);rw[added,List.map_cons,alN,alL];simp only[d1,d2,if_true];rw[e];exact this
theorem nodup_sub {M L:List Ru}(hn:M.Nodup)(h:∀r∈M,r∈L):M.length≤L.length:=by
 induction M generalizing L with
 | nil=>simp
 | cons x m ih =>
   rw[List.nodup_cons] at hn;obtain⟨A,B,rfl⟩:=List.append_of_mem (h x (by simp));have:=ih (L:=A++B) hn.2 (fun r hr=>by
    have:=h r (by simp[hr]);rw[List.mem_append,List.mem_cons] at this;rw[List.mem_append]
    rcases this with h1 | rfl | h1
    ·exact .inl h1
    ·exact absurd hr hn.1
    exact .inr h1)
   simp at this ⊢;omega
theorem al_diff {A B:List Ru}(h:twN A B=0):alN A (dfL A B)=0∧smB (alL A (dfL A B)) B=true∧twN (alL A (dfL A B)) B=0:=by
 obtain⟨hA,hB⟩:tbN A=0∧tbN B=0:=by
  unfold twN at h;by_cases h1:tbN A=0
  ·rw[if_pos h1] at h;exact⟨h1,h⟩
  rw[if_neg h1] at h;exact absurd h h1
 have e1:dfL A B=taken (bey A B)++added (bey B A):=by rw[dfL,if_pos h]
 have h1:=al_take B (added (bey B A)) [] A hA (by simp);simp only[List.nil_append] at h1;have hF:tbN (A.filter (inB B))=0:=tb_sub hA List.filter_sublist;have hnd:(A.filter (inB B)++bey B A).Nodup:=by
  rw[List.nodup_append];refine⟨(tb_nodup hA).sublist List.filter_sublist,(tb_nodup hB).sublist List.filter_sublist,?_⟩;rintro a ha b hb rfl;rw[List.mem_filter] at ha;rw[bey,List.mem_filter] at hb;have:=in_iff.2 ha.1;rw[this] at hb;simp at hb
 have hmem:∀r∈A.filter (inB B)++bey B A,r∈B:=by
  intro r hr;rw[List.mem_append] at hr
  rcases hr with hr | hr
  ·exact in_iff.1 (List.mem_filter.1 hr).2
  exact (List.mem_filter.1 hr).1
 have h2:=al_add B hB (A.filter (inB B)) (bey B A) hF hnd hmem (nodup_sub hnd hmem);have hlen:(A.filter (inB B)++bey B A).length=B.length:=by
  refine Nat.le_antisymm (nodup_sub hnd hmem) (nodup_sub (tb_nodup hB) fun r hr=>?_);rw[List.mem_append];cases hi:inB A r
  ·exact .inr (List.mem_filter.2 ⟨hr,by simp[hi]⟩)
  exact .inl (List.mem_filter.2 ⟨in_iff.1 hi,in_iff.2 hr⟩)
 have hbey:(bey (A.filter (inB B)++bey B A) B)=[]:=by
  rw[bey,List.filter_eq_nil_iff];intro r hr;simp[in_iff.2 (hmem r hr)]
 have hT:tbN (A.filter (inB B)++bey B A)=0:=by
  rw[tb_iff];refine⟨by rw[hlen];exact (tb_iff.1 hB).1,fun r hr=>(tb_iff.1 hB).2.1 r (hmem r hr),?_⟩;have:=hnd;unfold List.Nodup at this;refine (List.Pairwise.and_mem.1 this).imp ?_;rintro a b ⟨ha,hb,hne⟩;cases hk:keyB a b
  ·rfl
  exact absurd (tb_key hB (hmem a ha) (hmem b hb) hk) hne
 have ht2:twN (A.filter (inB B)++bey B A) B=0:=by rw[twN,if_pos hT,hB]
 rw[e1,h1.1,h1.2,h2.1,h2.2];refine⟨rfl,?_,ht2⟩;rw[smB,if_pos ht2,hlen,hbey];simp
section
variable {κ β:Type}
def fndM (q:κ→κ→Bool)(k:κ):List κ→List MapEntry→Nat→Option (Nat×Value)
 | k' :: ks,e :: es,i=>if q k k' then some (i,e.val) else fndM q k ks es (i+1)
 | _,_,_=>none
def mget (q:κ→κ→Bool)(k:κ):List (κ×β)→Option β
 | []=>none
 | p :: M=>if q k p.1 then some p.2 else mget q k M
def mput (q:κ→κ→Bool)(k:κ)(b:β):List (κ×β)→List (κ×β)
 | []=>[(k,b)]
 | p :: M=>if q k p.1 then (k,b) :: M else p :: mput q k b M
theorem mget_put {q:κ→κ→Bool}(hq:∀a b,q a b=true↔a=b)(k k':κ)(b:β):∀M:List (κ×β),mget q k' (mput q k b M)=if q k' k then some b else mget q k' M
 | []=>by simp[mput,mget]
 | p :: M=>by
   have ih:=mget_put hq k k' b M;rw[mput];by_cases h:q k p.1=true
   ·rw[if_pos h,mget,mget];have e:=(hq _ _).1 h;subst e;simp only
    split <;> simp_all
   rw[if_neg h,mget,mget,ih];by_cases h2:q k' p.1=true
   ·rw[if_pos h2,if_pos h2];have e:=(hq _ _).1 h2;have:¬q k' k=true:=fun h3=>h (by rw[hq] at h3;subst h3;exact h2)
    rw[if_neg this]
   rw[if_neg h2,if_neg h2]
end
structure KeyE (P:Program)(K:TypeId)(κ:Type) where
 c:κ→Value
 q:κ→κ→Bool
 qeq:∀a b,q a b=true↔a=b
 check:∀(e:Bool) (k:κ) (w:World),(Instr.checkKey e 10000 K (c k)).run P w=.ok () w
 find:∀(k:κ) (ks:List κ) (l:List MapEntry) (w:World),l.map (·.key)=ks.map c→(Instr.findKey K (c k) l).run P w=.ok (fndM q k ks l 0) w
 bits:∀k,Instr.sameBits 10000 (c k) (c k)=true
section
variable {P:Program}{K:TypeId}{κ β:Type}
theorem find_ask {c:κ→Value}{q:κ→κ→Bool}(heq:∀a b w,(Op.equal K (c a) (c b)).run P w=.ok (q a b) w)(k:κ):∀(ks:List κ) (l:List MapEntry) (i:Nat) (w:World),l.map (·.key)=ks.map c→(Instr.findAsking K (c k) l i).run P w=.ok (fndM q k ks l i) w
 | [],[],i,w,_=>rfl
 | [],_ :: _,_,_,h=>by simp at h
 | _ :: _,[],_,_,h=>by simp at h
 | k' :: ks,e :: l,i,w,h=>by
   simp only[List.map_cons,List.cons.injEq] at h;simp only[Instr.findAsking,Sem.run_bind,h.1,heq,Result.andThen_ok];rw[fndM];cases hq:q k k'
   ·simp only[Bool.false_eq_true,if_false];exact find_ask heq k ks l (i+1) w h.2
   simp
theorem find_now {c:κ→Value}{q:κ→κ→Bool}{d:TypeDesc}(hs:∀a b,Instr.sameNow d (c a) (c b)=some (q a b))(k:κ):∀(ks:List κ) (l:List MapEntry) (i:Nat),l.map (·.key)=ks.map c→Instr.findNow d (c k) l i=some (fndM q k ks l i)
 | [],[],i,_=>rfl
 | [],_ :: _,_,h=>by simp at h
 | _ :: _,[],_,h=>by simp at h
 | k' :: ks,e :: l,i,h=>by
   simp only[List.map_cons,List.cons.injEq] at h;rw[Instr.findNow,h.1,hs,fndM];cases hq:q k k'
   ·simp only[Bool.false_eq_true,if_false];exact find_now hs k ks l (i+1) h.2
   simp
def KeyE.now (c:κ→Value)(q:κ→κ→Bool)(qeq:∀a b,q a b=true↔a=b)(check:∀(e:Bool) (k:κ) (w:World),(Instr.checkKey e 10000 K (c k)).run P w=.ok () w)(d:TypeDesc)(hd:P.underlying K=some d)
    (hs:∀a b,Instr.sameNow d (c a) (c b)=some (q a b)) (bits:∀k,Instr.sameBits 10000 (c k) (c k)=true):KeyE P K κ:=
 ⟨c,q,qeq,check,fun k ks l w h=>Go.MapKept.run_findKey hd (find_now hs k ks l 0 h),bits⟩
def KeyE.ask (c:κ→Value)(q:κ→κ→Bool)(qeq:∀a b,q a b=true↔a=b)(check:∀(e:Bool) (k:κ) (w:World),(Instr.checkKey e 10000 K (c k)).run P w=.ok () w)(d:TypeDesc)(hd:P.underlying K=some d)
    (hs:∀a b,Instr.sameNow d (c a) (c b)=none) (heq:∀a b w,(Op.equal K (c a) (c b)).run P w=.ok (q a b) w) (bits:∀k,Instr.sameBits 10000 (c k) (c k)=true):KeyE P K κ:=
 ⟨c,q,qeq,check,fun k ks l w h=>by
  cases ks with
  | nil =>
    cases l with
    | nil=>exact Go.MapKept.run_findKey hd rfl
    | cons e l=>simp at h
  | cons k' ks =>
    cases l with
    | nil=>simp at h
    | cons e l =>
      have h1:Instr.findNow d (c k) (e :: l) 0=none:=by
       simp only[List.map_cons,List.cons.injEq] at h;rw[Instr.findNow,h.1,hs]
      simp only[Instr.findKey,Sem.run_bind,run_underlying hd,Result.andThen_ok,h1];exact find_ask heq k (k' :: ks) (e :: l) 0 w h,bits⟩
def Sta (bs:List Nat)(clock:Nat):Prop:=(∀b∈bs,b<clock)∧bs.Nodup
theorem sta_push {bs:List Nat}{clock:Nat}(h:Sta bs clock):Sta (bs++[clock]) (clock+1):=by
 refine⟨fun b hb=>?_,?_⟩
 ·simp only[List.mem_append,List.mem_singleton] at hb
  rcases hb with hb | rfl
  ·have:=h.1 b hb;omega
  omega
 rw[List.nodup_append];refine⟨h.2,by simp,fun a ha b hb e=>?_⟩;simp only[List.mem_singleton] at hb;have:=h.1 a ha;omega
theorem born_modify (f:MapEntry→MapEntry)(hf:∀e,(f e).born=e.born):∀(l:List MapEntry) (i:Nat),(l.modify i f).map (·.born)=l.map (·.born)
 | [],i=>by simp
 | a :: l,0=>by simp[hf]
 | a :: l,i+1=>by
   have ih:=born_modify f hf l i;simp[List.modify_succ_cons,ih]
def MAt (E:KeyE P K κ)(ve:β→Value)(w:World)(B:Nat)(M:List (κ×β)):Prop:=
 ∃es clock,w.heap[B]?=some (.map es clock)∧es.toList.map (·.key)=(M.map (·.1)).map E.c∧es.toList.map (·.val)=(M.map (·.2)).map ve∧Sta (es.toList.map (·.born)) clock
variable {E:KeyE P K κ}{ve:β→Value}
theorem MAt.lt {w:World}{B:Nat}{M:List (κ×β)}(h:MAt E ve w B M):B<w.heap.size:=by
 obtain⟨es,clock,h1,_⟩:=h;exact (Array.getElem?_eq_some_iff.1 h1).1
theorem MAt.later {w w':World}{B:Nat}{M:List (κ×β)}(h:MAt E ve w B M)(hb:Below w.heap.size w w'):MAt E ve w' B M:=by
 have hlt:=h.lt;obtain⟨es,clock,h1,h2⟩:=h;exact⟨es,clock,(hb.block B hlt).trans h1,h2⟩
theorem MAt.kept {w w':World}{B:Nat}{M:List (κ×β)}{row:Option Nat}(h:MAt E ve w B M)(hg:w.grownBy w' row)(hne:some B≠row):MAt E ve w' B M:=by
 have hlt:=h.lt;obtain⟨es,clock,h1,h2⟩:=h;exact⟨es,clock,(hg.block B hlt hne).trans h1,h2⟩
theorem mat_new (E:KeyE P K κ)(ve:β→Value)(w:World):MAt E ve (w.alloc (.map #[] 0)) w.heap.size []:=⟨#[],0,heap_alloc_new w _,rfl,rfl,by simp[Sta]⟩
theorem fnd_get {q:κ→κ→Bool}{k:κ}:∀(M:List (κ×β)) (l:List MapEntry) (i:Nat),l.map (·.val)=(M.map (·.2)).map ve→((fndM q k (M.map (·.1)) l i).map (·.2))=(mget q k M).map ve
 | [],[],_,_=>rfl
 | [],_ :: _,_,h=>by simp at h
 | _ :: _,[],_,h=>by simp at h
 | p :: M,e :: l,i,h=>by
   simp only[List.map_cons,List.cons.injEq] at h;rw[List.map_cons,fndM,mget];cases hq:q k p.1
   ·simp only[Bool.false_eq_true,if_false];exact fnd_get M l (i+1) h.2
   simp[h.1]
def getV (ve:β→Value)(z:Value)(o:Option β):Value:=match o with | some b=>ve b | none=>z
theorem run_lookup_M {w:World}{B:Nat}{M:List (κ×β)}(h:MAt E ve w B M)(t e:TypeId)(ht:P.underlying t=some (.map K e))(z:Value)(hz:∀w,(zeroValue e).run P w=.ok z w)(k:κ)(ok:Bool):
 (Instr.lookup t (.map (some B)) (E.c k) ok).run P w=.ok (if ok then .tuple #[getV ve z (mget E.q k M),.bool (mget E.q k M).isSome] else getV ve z (mget E.q k M)) w:=by
 obtain⟨es,clock,h1,h2,h3,_⟩:=h;have hf:=E.find k (M.map (·.1)) es.toList w h2;have hg:=fnd_get (ve:=ve) (q:=E.q) (k:=k) M es.toList 0 h3;simp only[Instr.lookup,Sem.run_bind,run_underlying ht,Result.andThen_ok,Go.MapKept.run_getObj_map h1,Sem.run_pure,E.check,hf]
 generalize fndM E.q k (M.map (·.1)) es.toList 0=r at *
 cases r with
 | none =>
   cases hm:mget E.q k M with
   | none=>cases ok <;> simp[getV,hz]
   | some b=>rw[hm] at hg;simp at hg
 | some p =>
   cases hm:mget E.q k M with
   | none=>rw[hm] at hg;simp at hg
   | some b =>
     rw[hm] at hg;simp at hg;cases ok <;> simp[getV,hg]
theorem fnd_put {q:κ→κ→Bool}(qeq:∀a b,q a b=true↔a=b){c:κ→Value}{k:κ}{b:β}:∀(M:List (κ×β)) (l:List MapEntry) (s:Nat),l.map (·.key)=(M.map (·.1)).map c→l.map (·.val)=(M.map (·.2)).map ve →
 (fndM q k (M.map (·.1)) l s=none∧(mput q k b M)=M++[(k,b)])∨∃i v,fndM q k (M.map (·.1)) l s=some (s+i,v)∧∃hi:i<l.length,l[i].key=c k ∧
  (l.modify i (fun e=>{ e with key:=c k,val:=ve b })).map (·.key)=((mput q k b M).map (·.1)).map c∧(l.modify i (fun e=>{ e with key:=c k,val:=ve b })).map (·.val)=((mput q k b M).map (·.2)).map ve
 | [],[],_,_,_=>.inl ⟨rfl,rfl⟩
 | [],_ :: _,_,h,_=>by simp at h
 | _ :: _,[],_,h,_=>by simp at h
 | p :: M,e :: l,s,h,h'=>by
   simp only[List.map_cons,List.cons.injEq] at h h';rw[List.map_cons,fndM,mput];cases hq:q k p.1
   ·simp only[Bool.false_eq_true,if_false]
    rcases fnd_put qeq (c:=c) (k:=k) (b:=b) M l (s+1) h.2 h'.2 with ⟨h1,h2⟩ | ⟨i,v,h1,hi,h2,h3,h4⟩
    ·exact .inl ⟨h1,by rw[h2];rfl⟩
    refine .inr ⟨i+1,v,by rw[h1];congr 2;omega,by simp;omega,by simpa using h2,?_,?_⟩
    ·simp only[List.modify_succ_cons,List.map_cons,h.1,h3]
    simp only[List.modify_succ_cons,List.map_cons,h'.1,h4]
   simp only[if_true];have e1:=(qeq _ _).1 hq;refine .inr ⟨0,e.val,rfl,by simp,by simp[h.1,e1],?_,?_⟩
   ·simp[h.2]
   simp[h'.2]
theorem run_update_M {w:World}{B:Nat}{M:List (κ×β)}(h:MAt E ve w B M)(t e:TypeId)(ht:P.underlying t=some (.map K e))(k:κ)(b:β):
 ∃w',(Instr.mapUpdate t (.map (some B)) (E.c k) (ve b)).run P w=.ok () w'∧MAt E ve w' B (mput E.q k b M)∧w.grownBy w' (some B):=by
 have hlt:=h.lt;obtain⟨es,clock,h1,h2,h3,hst⟩:=h;have hf:=E.find k (M.map (·.1)) es.toList w h2;have hgr:∀o:Obj,w.grownBy { w with heap:=w.heap.setIfInBounds B o } (some B):=fun o=>⟨rfl,rfl,rfl,by simp,fun j _ hj=>by
  have:B≠j:=fun e=>hj (by rw[e])
  simp[Array.getElem?_setIfInBounds_ne this]⟩
 have hat:∀o:Obj,({ w with heap:=w.heap.setIfInBounds B o }:World).heap[B]?=some o:=fun o=>by simp[hlt]
 rcases fnd_put E.qeq (ve:=ve) (c:=E.c) (k:=k) (b:=b) M es.toList 0 h2 h3 with ⟨r1,r2⟩ | ⟨i,v,r1,hi,r2,r3,r4⟩
 ·rw[r1] at hf;refine⟨_,?_,⟨es.push { key:=E.c k,val:=ve b,born:=clock },clock+1,hat _,?_,?_,by simpa using sta_push hst⟩,hgr _⟩
  ·simp only[Instr.mapUpdate,Sem.run_bind,run_underlying ht,Result.andThen_ok,Go.MapKept.run_getObj_map h1,E.check,hf,Go.MapKept.run_setObj_map _ h1]
  ·rw[r2];simp[h2]
  rw[r2];simp[h3]
 rw[r1] at hf;have hk:((es[i]?).map (·.key)).getD (E.c k)=E.c k:=by
  have hi2:i<es.size:=by simpa using hi
  rw[Array.getElem?_eq_getElem hi2];simpa using r2
 refine⟨_,?_,⟨es.modify i fun e=>{ e with key:=E.c k,val:=ve b },clock,hat _,?_,?_,by have hbm:=born_modify (fun e:MapEntry=>{ e with key:=E.c k,val:=ve b }) (fun _=>rfl) es.toList i;rw[Array.toList_modify,hbm];exact hst⟩,hgr _⟩
 ·simp only[Instr.mapUpdate,Sem.run_bind,run_underlying ht,Result.andThen_ok,Go.MapKept.run_getObj_map h1,E.check,hf,Nat.zero_add,hk,Instr.keyThatStays,E.bits,if_true,Sem.run_pure,Go.MapKept.run_setObj_map _ h1]
 ·rw[Array.toList_modify];exact r3
 rw[Array.toList_modify];exact r4
theorem find_born {l:List MapEntry}:∀{j:Nat} {e0:MapEntry},(l.map (·.born)).Nodup→l[j]?=some e0→l.findIdx? (fun e=>((e.born:Nat):Int)==((e0.born:Nat):Int))=some j:=by
 induction l with
 | nil=>intro j e0 _ h;simp at h
 | cons a r ih =>
   intro j e0 hn h;simp only[List.map_cons,List.nodup_cons] at hn;cases j with
   | zero =>
     simp only[List.getElem?_cons_zero,Option.some.injEq] at h;subst h;simp[List.findIdx?_cons]
   | succ j =>
     simp only[List.getElem?_cons_succ] at h;have hne:¬a.born=e0.born:=fun e1=>hn.1 (List.mem_map.2 ⟨e0,List.mem_of_getElem? h,e1.symm⟩)
     have hb:(((a.born:Nat):Int)==((e0.born:Nat):Int))=false:=by
      simp only[beq_eq_false_iff_ne,ne_eq,Int.natCast_inj];exact hne
     rw[List.findIdx?_cons,hb];simp[ih hn.2 h]
theorem idx_toList (xs:Array MapEntry)(p:MapEntry→Bool):xs.findIdx? p=xs.toList.findIdx? p:=by
 cases xs;simp
theorem modify_end {α:Type}(f:α→α)(a:α):∀l:List α,(l++[a]).modify l.length f=l++[f a]
 | []=>rfl
 | b :: r=>by simp[List.modify_succ_cons,modify_end f a r]
theorem modify_at {α:Type}(f g:α→α):∀(l:List α) (i:Nat) (hi:i<l.length),f l[i]=g l[i]→l.modify i f=l.modify i g
 | a :: l,0,_,h=>by simpa using h
 | a :: l,i+1,hi,h=>by
   have:=modify_at f g l i (by simpa using hi) (by simpa using h);simp[List.modify_succ_cons,this]
theorem modify_id {α:Type}(f:α→α):∀(l:List α) (i:Nat) (hi:i<l.length),f l[i]=l[i]→l.modify i f=l
 | a :: l,0,_,h=>by simpa using h
 | a :: l,i+1,hi,h=>by
   have:=modify_id f l i (by simpa using hi) (by simpa using h);simp[List.modify_succ_cons,this]
theorem run_entry_M {w:World}{B:Nat}{M:List (κ×β)}(h:MAt E ve w B M)(t e:TypeId)(ht:P.underlying t=some (.map K e))(z:β)(hz:∀w,(zeroValue e).run P w=.ok (ve z) w)(k:κ):
 ∃ (v0:Value) (st:Nat) (w1:World),(Instr.mapEntry t (.map (some B)) (E.c k)).run P w=.ok (.tuple #[v0,.int .i64 (st:Int)]) w1∧w.grownBy w1 (some B)∧MAt E ve w1 B (mput E.q k ((mget E.q k M).getD z) M) ∧
   ∀(w2:World) (b:β),w2.heap[B]?=w1.heap[B]?→∃w3,(Instr.entryStore t (.map (some B)) (.int .i64 (st:Int)) (ve b)).run P w2=.ok () w3∧MAt E ve w3 B (mput E.q k b M)∧w2.grownBy w3 (some B):=by
 have hlt:=h.lt;obtain⟨es,clock,h1,h2,h3,hst⟩:=h;have hf:=E.find k (M.map (·.1)) es.toList w h2;have hgr:∀(w:World) (o:Obj),w.grownBy { w with heap:=w.heap.setIfInBounds B o } (some B):=fun w o=>⟨rfl,rfl,rfl,by simp,fun j _ hj=>by
  have:B≠j:=fun e=>hj (by rw[e])
  simp[Array.getElem?_setIfInBounds_ne this]⟩
 have hat:∀(w:World) (o o':Obj),w.heap[B]?=some o'→({ w with heap:=w.heap.setIfInBounds B o }:World).heap[B]?=some o:=fun w o o' hw=>by
  have hl:B<w.heap.size:=(Array.getElem?_eq_some_iff.1 hw).1;simp[hl]
 rcases fnd_put E.qeq (ve:=ve) (c:=E.c) (k:=k) (b:=z) M es.toList 0 h2 h3 with ⟨r1,r2⟩ | ⟨i,v,r1,hi,r2,r3,r4⟩
 ·rw[r1] at hf;have hno:mget E.q k M=none:=by
   have:=fnd_get (ve:=ve) (q:=E.q) (k:=k) M es.toList 0 h3;rw[r1] at this;cases hm:mget E.q k M with
   | none=>rfl
   | some b=>rw[hm] at this;simp at this
  have hput:∀b,mput E.q k b M=M++[(k,b)]:=fun b=>by
   rcases fnd_put E.qeq (ve:=ve) (c:=E.c) (k:=k) (b:=b) M es.toList 0 h2 h3 with ⟨_,r⟩ | ⟨i,v,q1,_⟩
   ·exact r
   rw[r1] at q1;cases q1
  refine⟨ve z,clock,{ w with heap:=w.heap.setIfInBounds B (.map (es.push { key:=E.c k,val:=ve z,born:=clock }) (clock+1)) },?_,hgr _ _,⟨_,_,hat _ _ _ h1,?_,?_,by simpa using sta_push hst⟩,fun w2 b hw2=>?_⟩
  ·simp only[Instr.mapEntry,Sem.run_bind,run_underlying ht,Result.andThen_ok,Go.MapKept.run_getObj_map h1,E.check,hf,hz,Go.MapKept.run_setObj_map _ h1,Sem.run_pure];rfl
  ·rw[hno,hput];simp[h2]
  ·rw[hno,hput];simp[h3]
  rw[hat _ _ _ h1] at hw2;have hidx:(es.push { key:=E.c k,val:=ve z,born:=clock }).findIdx? (fun e=>((e.born:Nat):Int)==((clock:Nat):Int))=some es.size:=by
   rw[idx_toList];exact find_born (l:=(es.push { key:=E.c k,val:=ve z,born:=clock }).toList) (j:=es.size) (e0:={ key:=E.c k,val:=ve z,born:=clock }) (by simpa using (sta_push hst).2) (by simp)
  have hmod:(es.push { key:=E.c k,val:=ve z,born:=clock }).modify es.size (fun e=>{ e with val:=ve b })=es.push { key:=E.c k,val:=ve b,born:=clock }:=by
   apply Array.ext'
   rw[Array.toList_modify,Array.toList_push,Array.toList_push,←Array.length_toList,modify_end]
  refine⟨{ w2 with heap:=w2.heap.setIfInBounds B (.map (es.push { key:=E.c k,val:=ve b,born:=clock }) (clock+1)) },?_,⟨_,_,hat _ _ _ hw2,?_,?_,by simpa using sta_push hst⟩,hgr _ _⟩
  ·simp[Instr.entryStore,Go.MapKept.run_getObj_map hw2,asInt,asIntOf,hidx,hmod,Go.MapKept.run_setObj_map _ hw2,Result.andThen]
  ·rw[hput];simp[h2]
  rw[hput];simp[h3]
 rw[r1] at hf;simp only[Nat.zero_add] at hf r1;have hi2:i<es.size:=by simpa using hi
 have hie:es[i]?=some es[i]:=Array.getElem?_eq_getElem hi2;have hil:es.toList[i]?=some es[i]:=by simp[hi2]
 have hkey:es[i].key=E.c k:=by simpa using r2
 have hget:∃b0,mget E.q k M=some b0∧ve b0=v:=by
  have:=fnd_get (ve:=ve) (q:=E.q) (k:=k) M es.toList 0 h3;rw[r1] at this;cases hm:mget E.q k M with
  | none=>rw[hm] at this;simp at this
  | some b=>rw[hm] at this;simp at this;exact⟨b,rfl,this.symm⟩
 obtain⟨b0,hb0,hv⟩:=hget;have hsame:es.modify i (fun e=>{ e with key:=E.c k })=es:=by
  apply Array.ext'
  rw[Array.toList_modify];refine modify_id _ _ i hi ?_;have:es.toList[i].key=E.c k:=r2;rw[←this]
 have hall:∀b,(es.toList.modify i (fun e=>{ e with key:=E.c k,val:=ve b })).map (·.key)=((mput E.q k b M).map (·.1)).map E.c∧(es.toList.modify i (fun e=>{ e with key:=E.c k,val:=ve b })).map (·.val)=((mput E.q k b M).map (·.2)).map ve:=fun b=>by
  rcases fnd_put E.qeq (ve:=ve) (c:=E.c) (k:=k) (b:=b) M es.toList 0 h2 h3 with ⟨q1,_⟩ | ⟨j,v',q1,_,_,q3,q4⟩
  ·rw[r1] at q1;cases q1
  rw[r1] at q1;simp only[Option.some.injEq,Prod.mk.injEq,Nat.zero_add] at q1;obtain⟨rfl,_⟩:=q1;exact⟨q3,q4⟩
 have hold:mput E.q k b0 M=M:=by
  have hput:∀(M:List (κ×β)),mget E.q k M=some b0→mput E.q k b0 M=M:=by
   intro M
   induction M with
   | nil=>intro h;cases h
   | cons p M ih =>
     intro h;rw[mget] at h;rw[mput];by_cases e:E.q k p.1=true
     ·rw[if_pos e] at h ⊢;have e1:=(E.qeq _ _).1 e;simp at h;subst h;subst e1;rfl
     rw[if_neg e] at h ⊢;rw[ih h]
  exact hput M hb0
 refine⟨v,es[i].born,w,?_,⟨rfl,rfl,rfl,Nat.le_refl _,fun _ _ _=>rfl⟩,⟨es,clock,h1,?_,?_,hst⟩,fun w2 b hw2=>?_⟩
 ·have hrefl:({ w with heap:=w.heap.setIfInBounds B (.map es clock) }:World)=w:=by
   have:w.heap.setIfInBounds B (.map es clock)=w.heap:=by
    apply Array.ext_getElem?
    intro j;by_cases e:B=j
    ·subst e;exact (hat w (.map es clock) _ h1).trans h1.symm
    simp[Array.getElem?_setIfInBounds_ne e]
   rw[this]
  simp only[Instr.mapEntry,Sem.run_bind,run_underlying ht,Result.andThen_ok,Go.MapKept.run_getObj_map h1,E.check,hf,hie,Option.map_some,Option.getD_some,hkey,Instr.keyThatStays,E.bits,if_true,Sem.run_pure,hsame,Go.MapKept.run_setObj_map _ h1];rw[hrefl];rfl
 ·rw[hb0,Option.getD_some,hold];exact h2
 ·rw[hb0,Option.getD_some,hold];exact h3
 rw[h1] at hw2;have hidx:es.findIdx? (fun e=>((e.born:Nat):Int)==((es[i].born:Nat):Int))=some i:=by
  rw[idx_toList];exact find_born hst.2 hil
 have hmod:es.modify i (fun e=>{ e with val:=ve b })=es.modify i (fun e=>{ e with key:=E.c k,val:=ve b }):=by
  apply Array.ext'
  rw[Array.toList_modify,Array.toList_modify];refine modify_at _ _ _ i hi ?_;have:es.toList[i].key=E.c k:=r2;rw[←this]
 refine⟨{ w2 with heap:=w2.heap.setIfInBounds B (.map (es.modify i (fun e=>{ e with key:=E.c k,val:=ve b })) clock) },?_,⟨_,_,hat _ _ _ hw2,?_,?_,by have hbm:=born_modify (fun e:MapEntry=>{ e with key:=E.c k,val:=ve b }) (fun _=>rfl) es.toList i;rw[Array.toList_modify,hbm];exact hst⟩,hgr _ _⟩
 ·simp[Instr.entryStore,Go.MapKept.run_getObj_map hw2,asInt,asIntOf,hidx,hmod,Go.MapKept.run_setObj_map _ hw2,Result.andThen]
 ·rw[Array.toList_modify];exact (hall b).1
 rw[Array.toList_modify];exact (hall b).2
variable {w:World}{ops:Array Oper}{rest:List Oper}{o:Oper}{a:Act}{Q:Exit→Act→World→Prop}
end
theorem ba_eq {a b:ByteArray}:(a==b)=true↔a=b:=by
 obtain⟨x⟩:=a;obtain⟨y⟩:=b;show (x==y)=true↔_;simp
def spB (S:Int)(x:Int×Int):Bool:=decide (1≤x.1)&&(decide (x.1≤S)&&(decide (1≤x.2)&&decide (x.2≤4)))
def nmB (s:ByteArray):Bool:=decide (1≤s.size)&&(decide (s.size≤6)&&s.data.toList.all fun c=>decide (97≤c.toNat)&&decide (c.toNat≤122))
def spsL (Ls:LkQ):List (Int×Int):=Ls.flatMap fun l=>[l.1,l.2]
def lkN (S:Int):LkQ→List (Int×Int)→Int
 | [],_=>0
 | l :: Ls,U=>if spB S l.1&&spB S l.2 then (if l.1==l.2 || (U.any fun u=>u==l.1 || u==l.2) then 7 else lkN S Ls (U++[l.1,l.2])) else 1
def hoN (S:Int):HoQ→List ByteArray→List (Int×Int)→Int
 | [],_,_=>0
 | h :: Hs,N,U=>if nmB h.1 then (if spB S h.2 then (if (N.any fun n=>n==h.1) || (U.any fun u=>u==h.2) then 7 else hoN S Hs (N++[h.1]) (U++[h.2])) else 1) else 2
def tpN (S:Int)(Ls:LkQ)(Hs:HoQ):Int:=
 if decide (1≤S)&&decide (S≤6) then (if decide (Ls.length≤200)&&decide (Hs.length≤8) then (if lkN S Ls []=0 then hoN S Hs [] (spsL Ls) else lkN S Ls []) else 4) else 1
def peerO:LkQ→(Int×Int)→Option (Int×Int)
 | [],_=>none
 | l :: Ls,s=>if l.1==s then some l.2 else if l.2==s then some l.1 else peerO Ls s
def atO:HoQ→(Int×Int)→Option ByteArray
 | [],_=>none
 | h :: Hs,s=>if h.2==s then some h.1 else atO Hs s
theorem sp_of {S:Int}{x:Int×Int}(h:spB S x=true):1≤x.1∧x.1≤S∧1≤x.2∧x.2≤4:=by
 simpa[spB] using h
theorem lk_0 {S:Int}:∀{Ls:LkQ} {U:List (Int×Int)},U.Nodup→(lkN S Ls U=0↔(∀x∈spsL Ls,spB S x=true)∧(U++spsL Ls).Nodup)
 | [],U,hU=>by simp[lkN,spsL,hU]
 | l :: Ls,U,hU=>by
   obtain⟨x,y⟩:=l;have e:spsL ((x,y) :: Ls)=x :: y :: spsL Ls:=rfl;rw[lkN,e];simp only;by_cases h1:spB S x&&spB S y
   ·rw[if_pos h1];simp only[Bool.and_eq_true] at h1;by_cases h2:(x==y || (U.any fun u=>u==x || u==y))=true
    ·rw[if_pos h2];refine⟨fun h=>absurd h (by decide),fun h=>?_⟩
     exfalso
     have hn:=h.2;rw[List.nodup_append] at hn;obtain⟨_,h3,h4⟩:=hn;simp only[Bool.or_eq_true,beq_iff_eq,List.any_eq_true] at h2
     rcases h2 with h2 | ⟨u,hu,h2 | h2⟩
     ·subst h2;rw[List.nodup_cons] at h3;exact h3.1 (by simp)
     ·exact h4 u hu x (by simp) h2
     exact h4 u hu y (by simp) h2
    rw[if_neg h2];simp only[Bool.or_eq_true,beq_iff_eq,List.any_eq_true,not_or,not_exists,not_and] at h2;have hU2:(U++[x,y]).Nodup:=by
     rw[List.nodup_append];refine⟨hU,by simp[h2.1],?_⟩;intro a ha b hb e;subst e;simp only[List.mem_cons,List.not_mem_nil,or_false] at hb;have:=h2.2 a ha
     rcases hb with rfl | rfl
     ·exact this.1 rfl
     exact this.2 rfl
    rw[lk_0 hU2];have e2:U++[x,y]++spsL Ls=U++x :: y :: spsL Ls:=by simp
    rw[e2];refine and_congr ⟨fun h=>?_,fun h z hz=>h z (by simp[hz])⟩ Iff.rfl;intro z hz;simp only[List.mem_cons] at hz
    rcases hz with rfl | rfl | hz
    ·exact h1.1
    ·exact h1.2
    exact h z hz
   rw[if_neg h1];refine⟨fun h=>absurd h (by decide),fun h=>?_⟩;exact absurd (by simp[h.1 x (by simp),h.1 y (by simp)]) h1
theorem ho_0 {S:Int}:∀{Hs:HoQ} {N:List ByteArray} {U:List (Int×Int)},N.Nodup→U.Nodup→(hoN S Hs N U=0↔(∀h∈Hs,nmB h.1=true∧spB S h.2=true)∧(N++Hs.map (·.1)).Nodup∧(U++Hs.map (·.2)).Nodup)
 | [],N,U,hN,hU=>by simp[hoN,hN,hU]
 | h :: Hs,N,U,hN,hU=>by
   obtain⟨n,x⟩:=h;rw[hoN];simp only[List.map_cons];by_cases h1:nmB n=true
   ·rw[if_pos h1];by_cases h2:spB S x=true
    ·rw[if_pos h2];by_cases h3:((N.any fun m=>m==n) || (U.any fun u=>u==x))=true
     ·rw[if_pos h3];refine⟨fun h=>absurd h (by decide),fun h=>?_⟩
      exfalso
      simp only[Bool.or_eq_true,ba_eq,beq_iff_eq,List.any_eq_true] at h3
      rcases h3 with ⟨m,hm,e⟩ | ⟨u,hu,e⟩
      ·have:=(List.nodup_append.1 h.2.1).2.2;exact this m hm n (by simp) e
      have:=(List.nodup_append.1 h.2.2).2.2;exact this u hu x (by simp) e
     rw[if_neg h3];simp only[Bool.or_eq_true,ba_eq,beq_iff_eq,List.any_eq_true,not_or,not_exists,not_and] at h3;have hN2:(N++[n]).Nodup:=by
      rw[List.nodup_append];refine⟨hN,by simp,fun a ha b hb e=>?_⟩;simp only[List.mem_singleton] at hb;subst hb;exact h3.1 a ha e
     have hU2:(U++[x]).Nodup:=by
      rw[List.nodup_append];refine⟨hU,by simp,fun a ha b hb e=>?_⟩;simp only[List.mem_singleton] at hb;subst hb;exact h3.2 a ha e
     rw[ho_0 hN2 hU2];have e1:N++[n]++Hs.map (·.1)=N++n :: Hs.map (·.1):=by simp
     have e2:U++[x]++Hs.map (·.2)=U++x :: Hs.map (·.2):=by simp
     rw[e1,e2];refine and_congr ⟨fun h z hz=>?_,fun h z hz=>h z (by simp[hz])⟩ Iff.rfl
     rcases List.mem_cons.1 hz with rfl | hz
     ·exact⟨h1,h2⟩
     exact h z hz
    rw[if_neg h2];refine⟨fun h=>absurd h (by decide),fun h=>?_⟩;exact absurd (h.1 (n,x) (by simp)).2 h2
   rw[if_neg h1];refine⟨fun h=>absurd h (by decide),fun h=>?_⟩;exact absurd (h.1 (n,x) (by simp)).1 h1
theorem tp_0 {S:Int}{Ls:LkQ}{Hs:HoQ}(h:tpN S Ls Hs=0):
 (1≤S∧S≤6)∧(Ls.length≤200∧Hs.length≤8)∧(∀x∈spsL Ls,spB S x=true)∧(spsL Ls).Nodup∧(∀h∈Hs,nmB h.1=true∧spB S h.2=true)∧(Hs.map (·.1)).Nodup∧(spsL Ls++Hs.map (·.2)).Nodup:=by
 unfold tpN at h;by_cases h1:(decide (1≤S)&&decide (S≤6))=true
 ·rw[if_pos h1] at h;by_cases h2:(decide (Ls.length≤200)&&decide (Hs.length≤8))=true
  ·rw[if_pos h2] at h;by_cases h3:lkN S Ls []=0
   ·rw[if_pos h3] at h;have h4:=(lk_0 (S:=S) (Ls:=Ls) (U:=[]) List.nodup_nil).1 h3;simp only[List.nil_append] at h4;have h5:=(ho_0 (S:=S) (Hs:=Hs) (N:=[]) (U:=spsL Ls) List.nodup_nil h4.2).1 h;simp only[List.nil_append] at h5;simp only[Bool.and_eq_true,decide_eq_true_eq] at h1 h2;exact⟨h1,h2,h4.1,h4.2,h5.1,h5.2.1,h5.2.2⟩
   rw[if_neg h3] at h;exact absurd h h3
  rw[if_neg h2] at h;exact absurd h (by decide)
 rw[if_neg h1] at h;exact absurd h (by decide)
theorem peer_in:∀{Ls:LkQ} {s p:Int×Int},peerO Ls s=some p→s∈spsL Ls∧p∈spsL Ls
 | [],_,_,h=>by cases h
 | l :: Ls,s,p,h=>by
   obtain⟨x,y⟩:=l;have e:spsL ((x,y) :: Ls)=x :: y :: spsL Ls:=rfl;rw[peerO] at h;rw[e];by_cases h1:x=s
   ·subst h1;simp at h;subst h;simp
   by_cases h2:y=s
   ·subst h2;simp[h1] at h;subst h;simp
   simp[h1,h2] at h;have:=peer_in h;simp[this.1,this.2]
end
end Go.Proofs.YtiokpmlhmlcojaaGreat
