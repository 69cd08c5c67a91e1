/- Contracts and facts on the way to PlanLeast, joined into one text: Gen, StSpot, StLink, Quiet, EqLink, StHost, EqHost, CubeMath, RuleMath, RuleTabMath, TableMath, MapGen, TopoMath, But, BfsMath, TopoMath2, NetMath, ChangeMath, TopoCon, SpotKey, Err, TopoLay, SlByte, TopoName. -/
import Derived.Test.YtiokpmlhmlcojaaGreatDoorRows
import Derived.WalkKit
import Derived.WalkSpells
import Derived.Below
import Derived.ProofKit
import Derived.OpenShut
import Derived.ChangeOld
import Derived.Laws.AppendOwnNone
import Derived.Deep.Slices
import Derived.Lib.SmallJoins
import Derived.Laws.StructEq
import Derived.Maps.OwnOps
import Derived.BigQuiet
import Derived.Deep.QuietTactic
import Derived.Deep.CutRange
import Derived.Deep.CutBlock
import Derived.Laws.BytesArg
import Derived.MapKept
import Derived.DeepKeys3
import Derived.BigRegion
import Derived.Shelf.Abstract
import Derived.Laws.IdiomStrings
import Derived.Carry
import Derived.Lib.SliceRun
import Derived.Lib.AppendZeros
import Derived.Deep.RegionHeld3
import Derived.Laws.OwnMore
import Derived.Lib.Strings
import Derived.Lib.Walk
import Derived.Lib.BufferWrite
import Derived.Lib.UnsafeStr
import Derived.Laws.MakeOwn
import Derived.Deep.RegionLaw
import Derived.Lib.Bytealg
import Derived.Lib.IndexLaws
import Derived.Deep.RegionWith
import Derived.Sort.Grow
import Derived.Shelf.SlSorted.Search
import Derived.RangeFuncNested
import Derived.RangeFuncBox
import Derived.RangeFuncBound
import Derived.RangeFuncCalls
import Derived.RangeFuncLeaves
import Derived.Shelf.RegionOpen
import Derived.OwnWalkIn
import Derived.TacticsInMore
import Derived.LoopNIn
import Derived.LoopIn
import Derived.Maps.OwnIn
import Derived.Lib.IndexBytes
import Derived.LaidEql
import Derived.Stop.Asserts
import Derived.RowKitTokens
import Derived.ChangeSame
import Derived.ChangeVars
import Derived.JoinedOf
import Derived.RowKit
import Derived.LaidLaws
import Derived.LaidHandle
import Derived.Stop.Joined
namespace Go.Proofs.YtiokpmlhmlcojaaGreatDoor
set_option linter.unusedSimpArgs false
set_option linter.unusedVariables false
set_option maxHeartbeats 16000000
set_option maxRecDepth 100000
open Go.Proofs.Tryz
open IntKind (i64)
abbrev AdQ:=Option Addr
abbrev LkQ:=List ((Int×Int)×(Int×Int))
abbrev HoQ:=List (ByteArray×(Int×Int))
abbrev HpQ:=List ((Int×Int)×Int)
theorem bRQ (n:Nat) (w:World):Go.RowKit.Below n w w:=Go.RowKit.Below.refl n w
theorem nLQ (n:Nat):n≤n:=Nat.le_refl n
theorem bLQ (w:World) (p:Addr) {v:Value} (h:w.cell? p=some v):p.block<w.heap.size:=World.block_lt_of_cell? w p h
theorem AP:(∀(l:List Value) (i:Nat) (v:Value),l.toArray.setIfInBounds i v=(l.set i v).toArray)∧(∀(a v:Value) (l:List Value),(a::l).set 0 v=v::l)∧(∀(a v:Value) (l:List Value) (i:Nat),(a::l).set (i+1) v=a::l.set i v):=⟨fun _ _ _=>List.setIfInBounds_toArray _ _ _,fun _ _ _=>List.set_cons_zero,fun _ _ _ _=>List.set_cons_succ⟩
section
open Go.ChangeShapes Go.WideShapes Go.ChangeAt Go.RowKit
structure Enc (α:Type) where
 c:α→List Value
 n:Nat
 len:∀x,(c x).length=n
 pos:0<n
 one:∀x u,u∈c x→u.oneCell'=true
def VAt (w:World)(g o:Nat)(vs:List Value):Prop:=∀j u,vs[j]?=some u→w.cell? ⟨g,o+j,none⟩=some u
theorem VAt.later {w w':World}{g o:Nat}{vs:List Value}(h:VAt w g o vs)(hb:Below w.heap.size w w'):VAt w' g o vs:=fun j u hu=>cell_later hb (h j u hu)
theorem vat_new (w:World)(vs:List Value)(t:TypeId):VAt (w.alloc (.cells vs.toArray t)) w.heap.size 0 vs:=by
 intro j u hu;rw[Nat.zero_add];have hj:j<vs.length:=(List.getElem?_eq_some_iff.1 hu).1;simp only[World.cell?,World.alloc];simp[hu]
section
variable {α:Type}{E:Enc α}
def GAt (E:Enc α)(w:World)(g o:Nat)(L:List α):Prop:=∀i (h:i<L.length),VAt w g (o+i*E.n) (E.c L[i])
theorem GAt.later {w w':World}{g o:Nat}{L:List α}(h:GAt E w g o L)(hb:Below w.heap.size w w'):GAt E w' g o L:=fun i hi=>(h i hi).later hb
theorem GAt.take {w:World}{g o:Nat}{L:List α}(h:GAt E w g o L)(k:Nat):GAt E w g o (L.take k):=by
 intro i hi;rw[List.getElem_take];exact h i (by simp at hi;omega)
theorem GAt.drop {w:World}{g o:Nat}{L:List α}(h:GAt E w g o L)(k:Nat):GAt E w g (o+k*E.n) (L.drop k):=by
 intro i hi;have hi2:k+i<L.length:=by simp at hi;omega
 have:=h (k+i) hi2;rw[List.getElem_drop];have e:o+(k+i)*E.n=o+k*E.n+i*E.n:=by rw[Nat.add_mul];omega
 rw[←e];exact this
def GS (E:Enc α)(w:World)(v:Value)(L:List α):Prop:=
 (∃ao cap,v=.slice ao 0 cap∧L=[])∨∃g o cap,v=.slice (some ⟨g,o,none⟩) L.length cap∧L.length≤cap∧cap≤maxLen∧GAt E w g o L
theorem GS.later {w w':World}{v:Value}{L:List α}(h:GS E w v L)(hb:Below w.heap.size w w'):GS E w' v L:=by
 rcases h with h | ⟨g,o,cap,h1,h2,h3,h4⟩
 ·exact .inl h
 exact .inr ⟨g,o,cap,h1,h2,h3,h4.later hb⟩
theorem GS.form {w:World}{v:Value}{L:List α}(h:GS E w v L):∃ao n cap,v=.slice ao n cap∧L.length=n∧n≤maxLen∧n≤cap∧(0<n→∃g o,ao=some ⟨g,o,none⟩∧GAt E w g o L∧cap≤maxLen):=by
 rcases h with ⟨ao,cap,rfl,rfl⟩ | ⟨g,o,cap,rfl,h1,h2,h3⟩
 ·exact⟨ao,0,cap,rfl,rfl,Nat.zero_le _,Nat.zero_le _,fun h=>absurd h (by omega)⟩
 exact⟨_,_,cap,rfl,rfl,Nat.le_trans h1 h2,h1,fun _=>⟨g,o,rfl,h3,h2⟩⟩
theorem GS.len {w:World}{ao:AdQ}{n cap:Nat}{L:List α}(h:GS E w (.slice ao n cap) L):L.length=n:=by
 rcases h with ⟨_,_,e,rfl⟩ | ⟨_,_,_,e,_⟩
 ·simp at e;simp[e]
 simp at e;exact e.2.1.symm
theorem GS.nil (w:World):GS E w (.slice none 0 0) []:=.inl ⟨none,0,rfl,rfl⟩
theorem gs_one (w:World)(x:α)(t:TypeId){vs:List Value}(hv:vs=E.c x):GS E (w.alloc (.cells vs.toArray t)) (.slice (some ⟨w.heap.size,0,none⟩) 1 1) [x]:=by
 subst hv;refine .inr ⟨w.heap.size,0,1,rfl,nLQ _,by unfold maxLen;omega,fun i hi=>?_⟩;obtain rfl:i=0:=by simp at hi;omega
 have h:=vat_new w (E.c x) t;simpa using h
def cellsG (E:Enc α)(L:List α):List Value:=L.flatMap E.c
theorem cellsG_len (L:List α):(cellsG E L).length=L.length*E.n:=by
 induction L with
 | nil=>simp[cellsG]
 | cons x r ih =>
   simp only[cellsG,List.flatMap_cons,List.length_append,List.length_cons,E.len] at *;rw[ih,Nat.add_mul];omega
theorem cellsG_app (L M:List α):cellsG E (L++M)=cellsG E L++cellsG E M:=by simp[cellsG]
theorem cellsG_one (x:α):cellsG E [x]=E.c x:=by simp[cellsG]
theorem cellsG_at (L:List α):∀(i:Nat) (h:i<L.length) (j:Nat),j<E.n→(cellsG E L)[i*E.n+j]?=(E.c L[i])[j]?:=by
 induction L with
 | nil=>intro i h;simp at h
 | cons x r ih =>
   intro i h j hj;cases i with
   | zero =>
     simp only[cellsG,List.flatMap_cons,Nat.zero_mul,Nat.zero_add,List.getElem_cons_zero];rw[List.getElem?_append_left (by rw[E.len];exact hj)]
   | succ i =>
     have:=ih i (by simpa using h) j hj;simp only[cellsG,List.flatMap_cons,List.getElem_cons_succ] at this ⊢;rw[List.getElem?_append_right (by rw[E.len,Nat.add_mul];omega),E.len];have e:(i+1)*E.n+j-E.n=i*E.n+j:=by rw[Nat.add_mul];omega
     rw[e];exact this
theorem cellsG_all (L:List α):∀u∈cellsG E L,u.oneCell'=true:=by
 intro u hu;simp only[cellsG,List.mem_flatMap] at hu;obtain⟨x,_,hx⟩:=hu;exact E.one x u hx
theorem own_GS {w:World}{B e:Nat}{v:Value}{L:List α}(h:w.ownsRow B e E.n v L.length (cellsG E L)):GS E w v L:=by
 rcases h.2 with ⟨rfl,h0⟩ | ⟨g,cap,cur,rfl,_,_,h1,h2,_⟩
 ·exact .inl ⟨none,0,rfl,List.length_eq_zero_iff.1 h0⟩
 refine .inr ⟨g,0,cap,rfl,h1,h2,fun i hi j u hu=>?_⟩;have hj:j<E.n:=by
  have:=(List.getElem?_eq_some_iff.1 hu).1;rw[E.len] at this;exact this
 have hlt:i*E.n+j<L.length*E.n:=by
  have:(i+1)*E.n≤L.length*E.n:=Nat.mul_le_mul_right _ hi;rw[Nat.add_mul] at this;omega
 rw[Nat.zero_add,h.cellAt _ hlt,cellsG_at L i hi j hj];exact hu
theorem GAt.cells {w:World}{g o:Nat}{M:List α}(h:GAt E w g o M):∀j u,(cellsG E M)[j]?=some u→w.cell? ((⟨g,o,none⟩:Addr).add j)=some u:=by
 intro j u hu;have hj:j<M.length*E.n:=by
  have:=(List.getElem?_eq_some_iff.1 hu).1;rw[cellsG_len] at this;exact this
 have hadd:(⟨g,o,none⟩:Addr).add j=⟨g,o+j,none⟩:=by
  simp only[Addr.add]
  first
   | rfl
   | (split
      ·next h0=>rw[h0];rfl
      rfl)
 have hi:j / E.n<M.length:=Nat.div_lt_of_lt_mul (by rw[Nat.mul_comm];exact hj);have hm:j % E.n<E.n:=Nat.mod_lt _ E.pos;have e:j / E.n*E.n+j % E.n=j:=by rw[Nat.mul_comm];exact Nat.div_add_mod _ _
 have h1:=cellsG_at (E:=E) M (j / E.n) hi (j % E.n) hm;rw[e,hu] at h1;have h2:=h (j / E.n) hi (j % E.n) u h1.symm;rw[Nat.add_assoc,e] at h2;rw[hadd];exact h2
end
section
variable {α:Type}
theorem any_nextG {L:List α}{f:α→Bool}{k:Nat}(hk:k<L.length)(h:(L.take k).any f=false)(h2:f L[k]=false):(L.take (k+1)).any f=false:=by
 rw[List.take_succ_eq_append_getElem hk];simp only[List.any_append,h,List.any_cons,List.any_nil,h2,Bool.or_false]
theorem any_hitG {L:List α}{f:α→Bool}{k:Nat}(hk:k<L.length)(h2:f L[k]=true):L.any f=true:=List.any_eq_true.2 ⟨_,List.getElem_mem hk,h2⟩
def ixG (f:α→Bool)(L:List α):Int:=if L.any f then (L.findIdx f:Int) else -1
theorem ixG_hit {L:List α}{f:α→Bool}{k:Nat}(hk:k<L.length)(h:(L.take k).any f=false)(h2:f L[k]=true):ixG f L=k:=by
 rw[ixG,any_hitG hk h2,if_pos rfl]
 congr 1
 rw[List.findIdx_eq hk];refine⟨h2,fun j hj=>?_⟩;rw[List.any_eq_false] at h;have:=h L[j] (by rw[List.mem_take_iff_getElem];exact⟨j,by omega,rfl⟩);simpa using this
theorem ixG_no {L:List α}{f:α→Bool}(h:L.any f=false):ixG f L = -1:=by simp[ixG,h]
theorem ixG_any (L:List α)(f:α→Bool):decide (0≤ixG f L)=L.any f:=by
 unfold ixG;cases L.any f
 ·simp
 simp
end
section
variable {α:Type}
def smG (q:α→α→Bool):List α→List α→Bool
 | [],[]=>true
 | a :: l,b :: m=>q a b&&smG q l m
 | _,_=>false
theorem smG_iff {q:α→α→Bool}:∀{L M:List α},smG q L M=true↔L.length=M.length∧∀i (h1:i<L.length) (h2:i<M.length),q L[i] M[i]=true
 | [],[]=>by simp[smG]
 | [],_ :: _=>by simp[smG]
 | _ :: _,[]=>by simp[smG]
 | a :: l,b :: m=>by
   rw[smG,Bool.and_eq_true,smG_iff (L:=l) (M:=m)];constructor
   ·rintro⟨h1,h2,h3⟩;refine⟨by simp[h2],fun i hi hj=>?_⟩;cases i with
    | zero=>exact h1
    | succ i=>exact h3 i (by simpa using hi) (by simpa using hj)
   rintro⟨h1,h2⟩;refine⟨h2 0 (by simp) (by simp),by simpa using h1,fun i hi hj=>?_⟩;exact h2 (i+1) (by simpa using hi) (by simpa using hj)
theorem smG_len {q:α→α→Bool}{L M:List α}(h:L.length≠M.length):smG q L M=false:=by
 cases e:smG q L M
 ·rfl
 exact absurd (smG_iff.1 e).1 h
theorem smG_no {q:α→α→Bool}{L M:List α}{k:Nat}(h1:k<L.length)(h2:k<M.length)(h:q L[k] M[k]=false):smG q L M=false:=by
 cases e:smG q L M
 ·rfl
 have:=(smG_iff.1 e).2 k h1 h2;rw[h] at this;cases this
theorem smG_eq {q:α→α→Bool}(hq:∀a b,q a b=true↔a=b):∀{L M:List α},smG q L M=true↔L=M
 | [],[]=>by simp[smG]
 | [],_ :: _=>by simp[smG]
 | _ :: _,[]=>by simp[smG]
 | a :: l,b :: m=>by
   rw[smG,Bool.and_eq_true,smG_eq hq,hq];simp
end
section
variable {P:Program}{α:Type}{E:Enc α}
theorem run_append_none {w:World}(base:Nat)(t ty e:TypeId)(i:TypeInfo)(size cap2:Nat)(ht:P.underlying t=some (.slice e))(hi:P.info? e=some i)
 (v:Value) (n:Nat) (xs:List Value) (hown:w.ownsRow base e size v n xs):
 (Builtin.append_ #[t,t] ty #[v,.slice none 0 cap2]).run P w=.ok v w:=by
 rcases hown.2 with ⟨rfl,rfl⟩ | ⟨g,cap,cur,rfl,_,_,hnc,_⟩
 ·simp[Builtin.append_,run_underlying ht,sizeOf,typeInfo,hi,Builtin.lenOf,Builtin.firstCells]
 simp[Builtin.append_,run_underlying ht,sizeOf,typeInfo,hi,Builtin.lenOf,Builtin.firstCells,hnc,storeCells]
theorem wpList_append_GS (w:World){ops:Array Oper}{rest:List Oper}{o:Oper}{a:Act}{Q:Exit→Act→World→Prop}(hgd:o.guard=none)(s x:Operand)(t e:TypeId)
 (ho:o.op=.call { callee:=.builtin .append,args:=#[s,x],argTypes:=#[t,t] }) (ht:P.underlying t=some (.slice e)) (i:TypeInfo) (z:Value) (bytes:Nat) (hi:P.info? e=some i) (hz:i.zero=some z)
 (hsize:i.size=E.n) (hby:i.bytes=bytes) (hzs:z.cells.size=E.n) (base:Nat)
 (v:Value) (hs:a.eval s=v) (L:List α) (hown:w.ownsRow base e E.n v L.length (cellsG E L)) (u:Value) (hx:a.eval x=u) (M:List α) (hM:GS E w u M)
 (h63:L.length+M.length≤maxLen) (hbytes:(L.length+M.length)*bytes≤140737488355328) (hbase:base≤w.heap.size)
 (h:∀v' w',w'.ownsRow base e E.n v' (L++M).length (cellsG E (L++M))→w.grownBy w' v.ownBlock→wpList P ops Q rest (a.put o.dst v') w'):wpList P ops Q (o :: rest) a w:=by
 have key:∀(ad:Addr) (m c:Nat) (news:List Value),a.eval x=.slice (some ad) m c→news.length=m*E.n→(∀j u,news[j]?=some u→w.cell? (ad.add j)=some u)→(∀u∈news,u.oneCell'=true)→m=M.length→news=cellsG E M→wpList P ops Q (o :: rest) a w:=by
  intro ad m c news e1 e2 e3 e4 e5 e6;refine wpList_append_own w hgd s x t ho base e i z E.n bytes ht hi hz hsize hby hzs E.pos v _ _ hs hown ad m c news e1 e2 e3 e4 (by rw[e5];exact h63) (by rw[e5];exact hbytes) hbase ?_;intro v' w' h1 h2 _;refine h v' w' ?_ h2;rw[List.length_append,cellsG_app,←e5,←e6];exact h1
 rcases hM with ⟨ao,cap,rfl,rfl⟩ | ⟨g,q,cap,rfl,h1,h2,h3⟩
 ·cases ao with
  | none =>
    refine wpList_plain hgd fun K hK=>?_
    have hrun:=run_append_none (P:=P) (w:=w) base t o.type e i E.n cap ht hi v _ _ hown;unfold Oper.wp;simp[execOp,ho,resolve,invoke,builtin,hs,hx,hrun,Result.andThen];exact hK _ _ (h v w (by rw[List.append_nil];exact hown) ⟨rfl,rfl,rfl,nLQ _,fun _ _ _=>rfl⟩)
  | some ad=>exact key ad 0 cap [] hx (by simp) (by intro j u hu;simp at hu) (by intro u hu;cases hu) rfl rfl
 exact key ⟨g,q,none⟩ M.length cap (cellsG E M) hx (cellsG_len M) h3.cells (cellsG_all M) rfl rfl
theorem gs_of {H:Type}{enc:TypeId×Value→H}{W:World}{base:Nat}{v:Value}{d:DataW H}{p:List MemPlace}(ts te:TypeId)(hu:P.underlying ts=some (.slice te))(hC:P.cellsOf te=E.n)(x0:α)
 (hel:∀(n:Nat) (cs:List Value) (x:DataW H×List MemPlace),DataW.trod enc P W 0 (fun _=>true) true n te cs=some x→∃y,cs=E.c y)
 (hv:Value.okWide P W .any base ts v) (h:DataW.Trod enc P W 0 (fun _=>true) true ts v d p):∃L,GS E W v L:=by
 obtain⟨a0,len0,cap0,rfl⟩:=okWide_slice hu hv;obtain⟨fuel,hf⟩:=h;have hf2:DataW.trod enc P W 0 (fun _=>true) true fuel ts [.slice a0 len0 cap0]=some (d,p):=hf
 rcases Go.Deep.open_slice hu hf2 with ⟨hc,hx⟩ | ⟨a,len,cap,m,k,D,Pl,hc,_,hl,hm,hmm,hx,hall⟩
 ·simp only[List.cons.injEq,and_true,Value.slice.injEq] at hc;obtain⟨rfl,rfl,rfl⟩:=hc;exact⟨[],.inl ⟨none,0,rfl,rfl⟩⟩
 simp only[List.cons.injEq,and_true,Value.slice.injEq] at hc;obtain⟨rfl,rfl,rfl⟩:=hc;simp only[if_true] at hmm;subst hmm
 rcases Nat.eq_zero_or_pos len0 with h0 | h0
 ·subst h0;exact⟨[],.inl ⟨_,_,rfl,rfl⟩⟩
 have each:∀i,i<m→∃y:α,∀j,j<E.n→W.cell? (a.add (i*E.n+j))=(E.c y)[j]?:=by
  intro i hi;obtain⟨cs,h1,h2⟩:=hall i hi;rw[hC] at h1;obtain⟨_,hlen,hcell⟩:=World.cells?_some h1;obtain⟨y,rfl⟩:=hel _ _ _ h2;refine⟨y,fun j hj=>?_⟩;have:=hcell j (by omega);rw[Go.Deep.add_add] at this;exact this
 have iR:Inhabited α:=⟨x0⟩;obtain⟨R,hR⟩:=Go.Deep.choose_lt each;obtain⟨sb,so,spot⟩:=a;have hspot:spot=none:=by
  have h1:=hR 0 (by omega) 0 E.pos;have h2:(E.c (R 0))[0]?.isSome=true:=by
   rw[List.getElem?_eq_getElem (by rw[E.len];exact E.pos)];rfl
  obtain⟨u,hu2⟩:=Option.isSome_iff_exists.1 h2;rw[hu2] at h1;simpa[Addr.add] using World.cell?_spot h1
 subst hspot;have hadd:∀j,(⟨sb,so,none⟩:Addr).add j=⟨sb,so+j,none⟩:=by
  intro j;simp only[Addr.add]
  first
   | rfl
   | (split
      ·next h0=>rw[h0];rfl
      rfl)
 refine⟨(List.range len0).map R,.inr ⟨sb,so,_,by simp,by simpa using hl,hm,fun i hi j u hu2=>?_⟩⟩;have hi2:i<len0:=by simpa using hi
 have e:((List.range len0).map R)[i]=R i:=by simp
 rw[e] at hu2;have hj:j<E.n:=by
  have:=(List.getElem?_eq_some_iff.1 hu2).1;rw[E.len] at this;exact this
 have hc:=hR i (by omega) j hj;rw[hadd,hu2,←Nat.add_assoc] at hc;exact hc
end
end
section
open Go.ChangeShapes Go.WideShapes Go.ChangeAt Go.RowKit Go.Joins
def spoE:Enc (Int×Int) where
 c:=fun x=>[.int i64 x.1,.int i64 x.2]
 n:=2
 len:=fun _=>rfl
 pos:=by decide
 one:=by
  intro x u hu;simp at hu
  rcases hu with rfl | rfl <;> rfl
theorem spo_cells {w:World}{g o:Nat}{x0 x1:Int}(h:VAt w g o (spoE.c (x0,x1))):w.cell? ⟨g,o,none⟩=some (.int i64 x0)∧w.cell? ⟨g,o+1,none⟩=some (.int i64 x1):=
 ⟨h 0 _ rfl,h 1 _ rfl⟩
theorem spo_at {w:World}{g o:Nat}{L:List (Int×Int)}(h:GAt spoE w g o L){n k:Nat}(hn:L.length=n)(hk:k<n):
 ∃(x0:Int) (x1:Int) (hl:k<L.length),L[k]=(x0,x1)∧w.cell? ⟨g,o+k*2,none⟩=some (.int i64 x0)∧w.cell? ⟨g,o+k*2+1,none⟩=some (.int i64 x1):=
 have hl:k<L.length:=by omega
 ⟨_,_,hl,rfl,spo_cells (h k hl)⟩
theorem spo_new (w:World)(x0 x1:Int)(t:TypeId):VAt (w.alloc (.cells #[.int i64 x0,.int i64 x1] t)) w.heap.size 0 (spoE.c (x0,x1)):=vat_new w [.int i64 x0,.int i64 x1] t
theorem spo_info:(Tryz.prog.info? 75).map (fun i=>(i.zero,i.size,i.bytes))=some (some (.agg #[.int i64 0,.int i64 0]),2,16):=by kernel_rfl
theorem spo_zero:(Value.agg #[.int i64 0,.int i64 0]).cells.size=2:=by simp[Value.cells]
theorem spo_open {H:Type}{enc:TypeId×Value→H}{W:World}{n:Nat}{cs:List Value}{x:DataW H×List MemPlace}
 (h:DataW.trod enc prog W 0 (fun _=>true) true n 75 cs=some x):∃y,cs=spoE.c y:=by
 obtain⟨xs,k,_,_,hl,hlen,hf⟩:=DataW.trod_struct underlying75 h;have hC:Tryz.prog.cellsOf 75=2:=by kernel_rfl
 have hT0:Tryz.prog.cellsOf 3=1:=by kernel_rfl
 rw[hC] at hl
 match cs,hl with
 | [c0,c1],_ =>
   match xs,hlen with
   | [z0,z1],_ =>
     have g0:=hf 0 _ rfl;have g1:=hf 1 _ rfl;simp[hT0] at g0 g1;obtain⟨v0,e0,_,_⟩:=DataW.trod_int underlying3 g0;obtain⟨v1,e1,_,_⟩:=DataW.trod_int underlying3 g1;simp[] at e0 e1;refine⟨(v0,v1),?_⟩;simp[spoE,e0,e1]
def lnkE:Enc ((Int×Int)×(Int×Int)) where
 c:=fun x=>[.int i64 x.1.1,.int i64 x.1.2,.int i64 x.2.1,.int i64 x.2.2]
 n:=4
 len:=fun _=>rfl
 pos:=by decide
 one:=by
  intro x u hu;simp at hu
  rcases hu with rfl | rfl | rfl | rfl <;> rfl
theorem lnk_cells {w:World}{g o:Nat}{x0 x1 x2 x3:Int}(h:VAt w g o (lnkE.c ((x0,x1),(x2,x3)))):w.cell? ⟨g,o,none⟩=some (.int i64 x0)∧w.cell? ⟨g,o+1,none⟩=some (.int i64 x1)∧w.cell? ⟨g,o+2,none⟩=some (.int i64 x2)∧w.cell? ⟨g,o+3,none⟩=some (.int i64 x3):=
 ⟨h 0 _ rfl,h 1 _ rfl,h 2 _ rfl,h 3 _ rfl⟩
theorem lnk_at {w:World}{g o:Nat}{L:LkQ}(h:GAt lnkE w g o L){n k:Nat}(hn:L.length=n)(hk:k<n):
 ∃(x0:Int) (x1:Int) (x2:Int) (x3:Int) (hl:k<L.length),L[k]=((x0,x1),(x2,x3))∧w.cell? ⟨g,o+k*4,none⟩=some (.int i64 x0)∧w.cell? ⟨g,o+k*4+1,none⟩=some (.int i64 x1)∧w.cell? ⟨g,o+k*4+2,none⟩=some (.int i64 x2)∧w.cell? ⟨g,o+k*4+3,none⟩=some (.int i64 x3):=
 have hl:k<L.length:=by omega
 ⟨_,_,_,_,hl,rfl,lnk_cells (h k hl)⟩
theorem lnk_new (w:World)(x0 x1 x2 x3:Int)(t:TypeId):VAt (w.alloc (.cells #[.int i64 x0,.int i64 x1,.int i64 x2,.int i64 x3] t)) w.heap.size 0 (lnkE.c ((x0,x1),(x2,x3))):=vat_new w [.int i64 x0,.int i64 x1,.int i64 x2,.int i64 x3] t
def lnkB (a b:(Int×Int)×(Int×Int)):Bool:=(a.1.1==b.1.1)&&((a.1.2==b.1.2)&&((a.2.1==b.2.1)&&((a.2.2==b.2.2))))
theorem lnkB_iff (a b:(Int×Int)×(Int×Int)):lnkB a b=true↔a=b:=by
 have e:lnkB a b=((a.1.1==b.1.1)&&((a.1.2==b.1.2)&&((a.2.1==b.2.1)&&((a.2.2==b.2.2))))):=rfl;rw[e];simp only[Bool.and_eq_true,beq_iff_eq];constructor
 ·intro h;obtain⟨⟨a0,a1⟩,⟨a2,a3⟩⟩:=a;obtain⟨⟨b0,b1⟩,⟨b2,b3⟩⟩:=b;simp at h ⊢;simp[h]
 intro h;subst h;simp
theorem lnk_ways (x0 x1 x2 x3 y0 y1 y2 y3:Int):
 ((x0==y0)=false∧lnkB ((x0,x1),(x2,x3)) ((y0,y1),(y2,y3))=false) ∨
 ((x0==y0)=true∧(x1==y1)=false∧lnkB ((x0,x1),(x2,x3)) ((y0,y1),(y2,y3))=false) ∨
 ((x0==y0)=true∧(x1==y1)=true∧(x2==y2)=false∧lnkB ((x0,x1),(x2,x3)) ((y0,y1),(y2,y3))=false) ∨
 ((x0==y0)=true∧(x1==y1)=true∧(x2==y2)=true∧(x3==y3)=false∧lnkB ((x0,x1),(x2,x3)) ((y0,y1),(y2,y3))=false) ∨
 ((x0==y0)=true∧(x1==y1)=true∧(x2==y2)=true∧(x3==y3)=true∧lnkB ((x0,x1),(x2,x3)) ((y0,y1),(y2,y3))=true):=by
 have e:lnkB ((x0,x1),(x2,x3)) ((y0,y1),(y2,y3))=((x0==y0)&&((x1==y1)&&((x2==y2)&&((x3==y3))))):=rfl;rw[e];cases h0:(x0==y0)
 ·simp
 skip;cases h1:(x1==y1)
 ·simp
 skip;cases h2:(x2==y2)
 ·simp
 skip;cases h3:(x3==y3)
 ·simp
 skip;simp
theorem lnk_eq (x0 x1 x2 x3 y0 y1 y2 y3:Int)(w:World):(Op.equal 124 (.agg #[.int i64 x0,.int i64 x1,.int i64 x2,.int i64 x3]) (.agg #[.int i64 y0,.int i64 y1,.int i64 y2,.int i64 y3])).run prog w=.ok (lnkB ((x0,x1),(x2,x3)) ((y0,y1),(y2,y3))) w:=by
 unfold Op.equal Op.maxDepth;rw[run_equalIn_struct w 9999 _ _ _ (by kernel_rfl) (by kernel_rfl)]
 rcases lnk_ways x0 x1 x2 x3 y0 y1 y2 y3 with ⟨e0,e⟩ | ⟨e0,e1,e⟩ | ⟨e0,e1,e2,e⟩ | ⟨e0,e1,e2,e3,e⟩ | ⟨e0,e1,e2,e3,e⟩
 all_goals
  rw[e];go_simp
theorem lnk_info:(Tryz.prog.info? 124).map (fun i=>(i.zero,i.size,i.bytes))=some (some (.agg #[.int i64 0,.int i64 0,.int i64 0,.int i64 0]),4,32):=by kernel_rfl
theorem lnk_zero:(Value.agg #[.int i64 0,.int i64 0,.int i64 0,.int i64 0]).cells.size=4:=by simp[Value.cells]
theorem lnk_open {H:Type}{enc:TypeId×Value→H}{W:World}{n:Nat}{cs:List Value}{x:DataW H×List MemPlace}
 (h:DataW.trod enc prog W 0 (fun _=>true) true n 124 cs=some x):∃y,cs=lnkE.c y:=by
 obtain⟨xs,k,_,_,hl,hlen,hf⟩:=DataW.trod_struct underlying124 h;have hC:Tryz.prog.cellsOf 124=4:=by kernel_rfl
 have hT0:Tryz.prog.cellsOf 75=2:=by kernel_rfl
 rw[hC] at hl
 match cs,hl with
 | [c0,c1,c2,c3],_ =>
   match xs,hlen with
   | [z0,z1],_ =>
     have g0:=hf 0 _ rfl;have g1:=hf 1 _ rfl;simp[hT0] at g0 g1;obtain⟨s0,e0⟩:=spo_open g0;obtain⟨s1,e1⟩:=spo_open g1;simp[spoE] at e0 e1;refine⟨((s0.1,s0.2),(s1.1,s1.2)),?_⟩;simp[lnkE,e0,e1]
end
section
open Go.RowKit
theorem quiet_val {P:Program}{o:Oper}{a:Act}{C:World→Prop}{K:Act→Prop}{v:Value}
 (hy:∀w,C w→(execOp a.eval o).run P w=.ok (.value v) w) (h:K (a.put o.dst v)):o.quiet P a C K:=
 ⟨v,fun w hC=>by unfold Oper.quietAt;rw[hy w hC];exact⟨rfl,rfl⟩,h⟩
theorem qv {P:Program}{o:Oper}{a:Act}{C:World→Prop}{K:Act→Prop}(v:Value)(hy:∀w,C w→(execOp a.eval o).run P w=.ok (.value v) w)(h:K (a.put o.dst v)):o.quiet P a C K:=quiet_val hy h
theorem quiet_call {P:Program}{o:Oper}{a:Act}{C:World→Prop}{K:Act→Prop}{v:Value}{f:FuncId}{args:Array Value}
 (he:∀w,(execOp a.eval o).run P w=.ok (.enter f args) w) (hc:∀w,C w→Calls P f args w fun e w''=>e=.returned v∧C w'') (h:K (a.put o.dst v)):o.quiet P a C K:=
 ⟨v,fun w hC=>by unfold Oper.quietAt;rw[he w];exact⟨rfl,hc w hC⟩,h⟩
theorem exec_bin {P:Program}{o:Oper}{a:Act}{w:World}{op:BinOp}{t t2:TypeId}{x y:Operand}{v:Value}(ho:o.op=.binOp op t x y t2)(hg:(eqGuard op t x y (a.eval x) (a.eval y)).run P w=.ok () w)
 (h:(binOp op t (a.eval x) (a.eval y)).run P w=.ok v w):(execOp a.eval o).run P w=.ok (.value v) w:=by
 simp[execOp,ho,hg,h,Result.andThen]
theorem run_eql_of {P:Program}{w:World}{t:TypeId}{x y:Array Value}{b:Bool}(h:(Op.equal t (.agg x) (.agg y)).run P w=.ok b w):(binOp .eql t (.agg x) (.agg y)).run P w=.ok (.bool b) w:=by
 simp[binOp,h]
theorem run_neq_of {P:Program}{w:World}{t:TypeId}{x y:Array Value}{b:Bool}(h:(Op.equal t (.agg x) (.agg y)).run P w=.ok b w):(binOp .neq t (.agg x) (.agg y)).run P w=.ok (.bool (!b)) w:=by
 simp[binOp,h]
def lnkEQ (w:World)(g o:Nat)(x0 x1 x2 x3:Int)(g' o':Nat)(y0 y1 y2 y3:Int)(w':World):Prop:=
 Below w.heap.size w w'∧(w'.cell? ⟨g,o,none⟩=some (.int i64 x0)∧w'.cell? ⟨g,o+1,none⟩=some (.int i64 x1)∧w'.cell? ⟨g,o+2,none⟩=some (.int i64 x2)∧w'.cell? ⟨g,o+3,none⟩=some (.int i64 x3)) ∧
 w'.cell? ⟨g',o',none⟩=some (.int i64 y0)∧w'.cell? ⟨g',o'+1,none⟩=some (.int i64 y1)∧w'.cell? ⟨g',o'+2,none⟩=some (.int i64 y2)∧w'.cell? ⟨g',o'+3,none⟩=some (.int i64 y3)
theorem lnkEQ.later {w W W':World}{g o:Nat}{x0 x1 x2 x3:Int}{g' o':Nat}{y0 y1 y2 y3:Int}(hb:Below W.heap.size W W')(h:lnkEQ w g o x0 x1 x2 x3 g' o' y0 y1 y2 y3 W):lnkEQ w g o x0 x1 x2 x3 g' o' y0 y1 y2 y3 W':=by
 obtain⟨h0,⟨h1,h2,h3,h4⟩,k1,k2,k3,k4⟩:=h;exact⟨h0.trans (hb.mono h0.size),⟨cell_later hb h1,cell_later hb h2,cell_later hb h3,cell_later hb h4⟩,cell_later hb k1,cell_later hb k2,cell_later hb k3,cell_later hb k4⟩
theorem lnk_equal (ao:AdQ)(n cap:Nat)(ao2:AdQ)(n2 cap2:Nat)(L M:LkQ)(w:World)(hs:GS lnkE w (.slice ao n cap) L)(ht:GS lnkE w (.slice ao2 n2 cap2) M):
 Calls prog 108 #[.slice ao n cap,.slice ao2 n2 cap2] w fun e w'=>e=.returned (.bool (smG lnkB L M))∧Below w.heap.size w w':=by
 obtain⟨ao',n',cap',e,hn,hn2,hn3,ha⟩:=hs.form;cases e;obtain⟨ao',n',cap',e,hm,hm2,hm3,hb⟩:=ht.form;cases e;have HN:Hid (L.length=n):=hn;have HM:Hid (M.length=n2):=hm;have HA:Hid (0<n→∃g o,ao=some ⟨g,o,none⟩∧GAt lnkE w g o L∧cap≤maxLen):=ha;have HA2:Hid (0<n2→∃g o,ao2=some ⟨g,o,none⟩∧GAt lnkE w g o M∧cap2≤maxLen):=hb;have hn63:n≤9223372036854775807:=by unfold maxLen at hn2;omega
 clear hs ht hn ha hm hb hn2 hm2;obtain⟨R,hR⟩:∃R,R=smG lnkB L M:=⟨_,rfl⟩;have HR:Hid (R=smG lnkB L M):=hR;rw[←hR];clear hR;by_cases hl:n=n2
 ·subst hl;go_enter func108,ntmps108;go_wp2
  go_loopw [13] (fun i wr=>∃k:Nat,k≤n∧i=.int i64 k∧(∀j,j<k→∀(h1:j<L.length) (h2:j<M.length),lnkB L[j] M[j]=true)∧Below w.heap.size w wr) (fun i _=>n-(intOf i).toNat)
  case atStart=>exact⟨0,by omega,rfl,fun j hj=>absurd hj (by omega),bRQ _ _⟩
  case round =>
   obtain⟨k,hk,rfl,hall,hB⟩:=hrel;have HB:Hid (Below w.heap.size w wr):=hB;have HALL:Hid (∀j,j<k→∀(h1:j<L.length) (h2:j<M.length),lnkB L[j] M[j]=true):=hall;clear hall;by_cases hlt:k<n
   ·obtain⟨g,og,hao,hc,_⟩:=HA.out (by omega);obtain⟨g2,og2,hao2,hc2,_⟩:=HA2.out (by omega);subst hao hao2;obtain⟨x0,x1,x2,x3,hkl,hLk,q0,q1,q2,q3⟩:=lnk_at (hc.later hB) HN.out hlt;obtain⟨y0,y1,y2,y3,hkm,hMk,r0,r1,r2,r3⟩:=lnk_at (hc2.later hB) HM.out hlt;have HCE:Hid (lnkEQ w g (og+k*4) x0 x1 x2 x3 g2 (og2+k*4) y0 y1 y2 y3 wr):=⟨hB,⟨q0,q1,q2,q3⟩,r0,r1,r2,r3⟩;have HLK:Hid (L[k]=((x0,x1),(x2,x3))∧M[k]=((y0,y1),(y2,y3))):=⟨hLk,hMk⟩;clear q0 q1 q2 q3 r0 r1 r2 r3 hB hc hc2 hLk hMk HA HA2;go_upto_region 6 with fail;have kb0:(0:Int)≤(k:Int):=by omega
    have kb1:(k:Int)<(n:Int):=by omega
    go_cut [24,13] from 13 to 25 (fun c ix w'=>ix=.int i64 (k:Int)∧c=.bool (!lnkB ((x0,x1),(x2,x3)) ((y0,y1),(y2,y3)))∧Below w.heap.size w w')
    case first =>
     as_aux_lemma =>
      refine wp_region_quiet (C:=lnkEQ w g (og+k*4) x0 x1 x2 x3 g2 (og2+k*4) y0 y1 y2 y3) (by kernel_rfl) (by kernel_rfl) (lnkEQ.later (W:=wr) (Below.drew (bRQ _ _)) HCE.out) ?_;simp only[List.toList_toArray];go_big_quiet_want;refine qv (.slice (some ⟨g,og,none⟩) n cap) ?_ ?_
      ·rintro w' ⟨z,⟨z0,z1,z2,z3⟩,u0,u1,u2,u3⟩;go_simp
      simp only[Act.put,AP];go_big_quiet_on;go_big_quiet_want;refine qv (.int i64 (k:Int)) ?_ ?_
      ·rintro w' ⟨z,⟨z0,z1,z2,z3⟩,u0,u1,u2,u3⟩;go_simp
      simp only[Act.put,AP];go_big_quiet_on;go_big_quiet_want;refine qv (.pointer (some ⟨g,og+k*4,none⟩)) ?_ ?_
      ·rintro w' ⟨z,⟨z0,z1,z2,z3⟩,u0,u1,u2,u3⟩;go_simp
      simp only[Act.put,AP];go_big_quiet_on;go_big_quiet_want;refine qv (.agg #[.int i64 x0,.int i64 x1,.int i64 x2,.int i64 x3]) ?_ ?_
      ·rintro w' ⟨z,⟨z0,z1,z2,z3⟩,u0,u1,u2,u3⟩;go_simp
      simp only[Act.put,AP];go_big_quiet_on;go_big_quiet_want;refine qv (.slice (some ⟨g2,og2,none⟩) n cap2) ?_ ?_
      ·rintro w' ⟨z,⟨z0,z1,z2,z3⟩,u0,u1,u2,u3⟩;go_simp
      simp only[Act.put,AP];go_big_quiet_on;go_big_quiet_want;refine qv (.int i64 (k:Int)) ?_ ?_
      ·rintro w' ⟨z,⟨z0,z1,z2,z3⟩,u0,u1,u2,u3⟩;go_simp
      simp only[Act.put,AP];go_big_quiet_on;go_big_quiet_want;refine qv (.pointer (some ⟨g2,og2+k*4,none⟩)) ?_ ?_
      ·rintro w' ⟨z,⟨z0,z1,z2,z3⟩,u0,u1,u2,u3⟩;go_simp
      simp only[Act.put,AP];go_big_quiet_on;go_big_quiet_want;refine qv (.agg #[.int i64 y0,.int i64 y1,.int i64 y2,.int i64 y3]) ?_ ?_
      ·rintro w' ⟨z,⟨z0,z1,z2,z3⟩,u0,u1,u2,u3⟩;go_simp
      simp only[Act.put,AP];go_big_quiet_on;go_big_quiet_want;refine quiet_val (v:=.bool (!lnkB ((x0,x1),(x2,x3)) ((y0,y1),(y2,y3)))) (fun w' hC=>exec_bin rfl (by go_simp) (run_neq_of (lnk_eq x0 x1 x2 x3 y0 y1 y2 y3 w'))) ?_;simp only[Act.put,AP];go_big_quiet_on;refine wpQuiet_nil ?_;intro w' hC
      go_wp2_with fail
      go_meet
      case rel=>exact⟨rfl,rfl,hC.1⟩
    case rest =>
     obtain⟨rfl,rfl,hB2⟩:=hcut;have HB2:Hid (Below w.heap.size w wc):=hB2;clear HCE hB2;cases ho:lnkB ((x0,x1),(x2,x3)) ((y0,y1),(y2,y3))
     ·have HF:Hid (R=false):=by
       show R=false;rw[HR.out];exact smG_no hkl hkm (by rw[HLK.out.1,HLK.out.2];exact ho)
      go_wp2;go_ret;exact⟨by rw[HF.out];rfl,HB2.out⟩
     have HAL2:Hid (∀j,j<k+1→∀(h1:j<L.length) (h2:j<M.length),lnkB L[j] M[j]=true):=by
      intro j hj h1 h2;by_cases e:j=k
      ·subst e;rw[HLK.out.1,HLK.out.2];exact ho
      exact HALL.out j (by omega) h1 h2
     clear ho;go_wp2;go_roundw
     case rel=>exact⟨k+1,by omega,by go_num,HAL2.out,HB2.out⟩
     case measure=>simp[intOf];omega
   obtain rfl:k=n:=by omega
   have HF:Hid (R=true):=by
    show R=true;rw[HR.out];refine smG_iff.2 ⟨by rw[HN.out,HM.out],fun i h1 h2=>HALL.out i (by rw[HN.out] at h1;exact h1) h1 h2⟩
   go_wp2;go_ret;exact⟨by rw[HF.out];rfl,HB.out⟩
 have HF:Hid (R=false):=by
  show R=false;rw[HR.out];exact smG_len (by rw[HN.out,HM.out];exact hl)
 have e1:((n:Int)==(n2:Int))=false:=beq_eq_false_iff_ne.2 (by omega);have e2:((n:Int) != (n2:Int))=true:=by simp;omega
 go_enter func108,ntmps108;go_wp2;go_ret;exact⟨by rw[HF.out];rfl,bRQ _ _⟩
end
section
open Go.ChangeShapes Go.WideShapes Go.ChangeAt Go.RowKit Go.Joins
def hstE:Enc (ByteArray×(Int×Int)) where
 c:=fun x=>[.string x.1,.int i64 x.2.1,.int i64 x.2.2]
 n:=3
 len:=fun _=>rfl
 pos:=by decide
 one:=by
  intro x u hu;simp at hu
  rcases hu with rfl | rfl | rfl <;> rfl
theorem hst_cells {w:World}{g o:Nat}{x0:ByteArray}{x1 x2:Int}(h:VAt w g o (hstE.c (x0,(x1,x2)))):w.cell? ⟨g,o,none⟩=some (.string x0)∧w.cell? ⟨g,o+1,none⟩=some (.int i64 x1)∧w.cell? ⟨g,o+2,none⟩=some (.int i64 x2):=
 ⟨h 0 _ rfl,h 1 _ rfl,h 2 _ rfl⟩
theorem hst_at {w:World}{g o:Nat}{L:HoQ}(h:GAt hstE w g o L){n k:Nat}(hn:L.length=n)(hk:k<n):
 ∃(x0:ByteArray) (x1:Int) (x2:Int) (hl:k<L.length),L[k]=(x0,(x1,x2))∧w.cell? ⟨g,o+k*3,none⟩=some (.string x0)∧w.cell? ⟨g,o+k*3+1,none⟩=some (.int i64 x1)∧w.cell? ⟨g,o+k*3+2,none⟩=some (.int i64 x2):=
 have hl:k<L.length:=by omega
 ⟨_,_,_,hl,rfl,hst_cells (h k hl)⟩
theorem hst_new (w:World)(x0:ByteArray)(x1 x2:Int)(t:TypeId):VAt (w.alloc (.cells #[.string x0,.int i64 x1,.int i64 x2] t)) w.heap.size 0 (hstE.c (x0,(x1,x2))):=vat_new w [.string x0,.int i64 x1,.int i64 x2] t
def hstB (a b:ByteArray×(Int×Int)):Bool:=(a.1==b.1)&&((a.2.1==b.2.1)&&((a.2.2==b.2.2)))
theorem hst_ways (x0:ByteArray)(x1 x2:Int)(y0:ByteArray)(y1 y2:Int):
 ((x0.toList==y0.toList)=false∧hstB (x0,(x1,x2)) (y0,(y1,y2))=false) ∨
 ((x0.toList==y0.toList)=true∧(x1==y1)=false∧hstB (x0,(x1,x2)) (y0,(y1,y2))=false) ∨
 ((x0.toList==y0.toList)=true∧(x1==y1)=true∧(x2==y2)=false∧hstB (x0,(x1,x2)) (y0,(y1,y2))=false) ∨
 ((x0.toList==y0.toList)=true∧(x1==y1)=true∧(x2==y2)=true∧hstB (x0,(x1,x2)) (y0,(y1,y2))=true):=by
 have e:hstB (x0,(x1,x2)) (y0,(y1,y2))=((x0.toList==y0.toList)&&((x1==y1)&&((x2==y2)))):=by simp only[hstB,beq_toListBytes]
 rw[e];cases h0:(x0.toList==y0.toList)
 ·simp
 skip;cases h1:(x1==y1)
 ·simp
 skip;cases h2:(x2==y2)
 ·simp
 skip;simp
theorem hst_eq (x0:ByteArray)(x1 x2:Int)(y0:ByteArray)(y1 y2:Int)(w:World):(Op.equal 77 (.agg #[.string x0,.int i64 x1,.int i64 x2]) (.agg #[.string y0,.int i64 y1,.int i64 y2])).run prog w=.ok (hstB (x0,(x1,x2)) (y0,(y1,y2))) w:=by
 unfold Op.equal Op.maxDepth;rw[run_equalIn_struct w 9999 _ _ _ (by kernel_rfl) (by kernel_rfl)]
 rcases hst_ways x0 x1 x2 y0 y1 y2 with ⟨e0,e⟩ | ⟨e0,e1,e⟩ | ⟨e0,e1,e2,e⟩ | ⟨e0,e1,e2,e⟩
 all_goals
  rw[e];go_simp
theorem hst_info:(Tryz.prog.info? 77).map (fun i=>(i.zero,i.size,i.bytes))=some (some (.agg #[.string ByteArray.empty,.int i64 0,.int i64 0]),3,32):=by kernel_rfl
theorem hst_zero:(Value.agg #[.string ByteArray.empty,.int i64 0,.int i64 0]).cells.size=3:=by simp[Value.cells]
theorem hst_open {H:Type}{enc:TypeId×Value→H}{W:World}{n:Nat}{cs:List Value}{x:DataW H×List MemPlace}
 (h:DataW.trod enc prog W 0 (fun _=>true) true n 77 cs=some x):∃y,cs=hstE.c y:=by
 obtain⟨xs,k,_,_,hl,hlen,hf⟩:=DataW.trod_struct underlying77 h;have hC:Tryz.prog.cellsOf 77=3:=by kernel_rfl
 have hT0:Tryz.prog.cellsOf 9=1:=by kernel_rfl
 have hT1:Tryz.prog.cellsOf 75=2:=by kernel_rfl
 rw[hC] at hl
 match cs,hl with
 | [c0,c1,c2],_ =>
   match xs,hlen with
   | [z0,z1],_ =>
     have g0:=hf 0 _ rfl;have g1:=hf 1 _ rfl;simp[hT0,hT1] at g0 g1;obtain⟨v0,e0,_,_⟩:=DataW.trod_string underlying9 g0;obtain⟨s1,e1⟩:=spo_open g1;simp[spoE] at e0 e1;refine⟨(v0,(s1.1,s1.2)),?_⟩;simp[hstE,e0,e1]
end
section
open Go.RowKit
def hstEQ (w:World)(g o:Nat)(x0:ByteArray)(x1 x2:Int)(g' o':Nat)(y0:ByteArray)(y1 y2:Int)(w':World):Prop:=
 Below w.heap.size w w'∧(w'.cell? ⟨g,o,none⟩=some (.string x0)∧w'.cell? ⟨g,o+1,none⟩=some (.int i64 x1)∧w'.cell? ⟨g,o+2,none⟩=some (.int i64 x2)) ∧
 w'.cell? ⟨g',o',none⟩=some (.string y0)∧w'.cell? ⟨g',o'+1,none⟩=some (.int i64 y1)∧w'.cell? ⟨g',o'+2,none⟩=some (.int i64 y2)
theorem hstEQ.later {w W W':World}{g o:Nat}{x0:ByteArray}{x1 x2:Int}{g' o':Nat}{y0:ByteArray}{y1 y2:Int}(hb:Below W.heap.size W W')(h:hstEQ w g o x0 x1 x2 g' o' y0 y1 y2 W):hstEQ w g o x0 x1 x2 g' o' y0 y1 y2 W':=by
 obtain⟨h0,⟨h1,h2,h3⟩,k1,k2,k3⟩:=h;exact⟨h0.trans (hb.mono h0.size),⟨cell_later hb h1,cell_later hb h2,cell_later hb h3⟩,cell_later hb k1,cell_later hb k2,cell_later hb k3⟩
theorem hst_equal (ao:AdQ)(n cap:Nat)(ao2:AdQ)(n2 cap2:Nat)(L M:HoQ)(w:World)(hs:GS hstE w (.slice ao n cap) L)(ht:GS hstE w (.slice ao2 n2 cap2) M):
 Calls prog 109 #[.slice ao n cap,.slice ao2 n2 cap2] w fun e w'=>e=.returned (.bool (smG hstB L M))∧Below w.heap.size w w':=by
 obtain⟨ao',n',cap',e,hn,hn2,hn3,ha⟩:=hs.form;cases e;obtain⟨ao',n',cap',e,hm,hm2,hm3,hb⟩:=ht.form;cases e;have HN:Hid (L.length=n):=hn;have HM:Hid (M.length=n2):=hm;have HA:Hid (0<n→∃g o,ao=some ⟨g,o,none⟩∧GAt hstE w g o L∧cap≤maxLen):=ha;have HA2:Hid (0<n2→∃g o,ao2=some ⟨g,o,none⟩∧GAt hstE w g o M∧cap2≤maxLen):=hb;have hn63:n≤9223372036854775807:=by unfold maxLen at hn2;omega
 clear hs ht hn ha hm hb hn2 hm2;obtain⟨R,hR⟩:∃R,R=smG hstB L M:=⟨_,rfl⟩;have HR:Hid (R=smG hstB L M):=hR;rw[←hR];clear hR;by_cases hl:n=n2
 ·subst hl;go_enter func109,ntmps109;go_wp2
  go_loopw [13] (fun i wr=>∃k:Nat,k≤n∧i=.int i64 k∧(∀j,j<k→∀(h1:j<L.length) (h2:j<M.length),hstB L[j] M[j]=true)∧Below w.heap.size w wr) (fun i _=>n-(intOf i).toNat)
  case atStart=>exact⟨0,by omega,rfl,fun j hj=>absurd hj (by omega),bRQ _ _⟩
  case round =>
   obtain⟨k,hk,rfl,hall,hB⟩:=hrel;have HB:Hid (Below w.heap.size w wr):=hB;have HALL:Hid (∀j,j<k→∀(h1:j<L.length) (h2:j<M.length),hstB L[j] M[j]=true):=hall;clear hall;by_cases hlt:k<n
   ·obtain⟨g,og,hao,hc,_⟩:=HA.out (by omega);obtain⟨g2,og2,hao2,hc2,_⟩:=HA2.out (by omega);subst hao hao2;obtain⟨x0,x1,x2,hkl,hLk,q0,q1,q2⟩:=hst_at (hc.later hB) HN.out hlt;obtain⟨y0,y1,y2,hkm,hMk,r0,r1,r2⟩:=hst_at (hc2.later hB) HM.out hlt;have HCE:Hid (hstEQ w g (og+k*3) x0 x1 x2 g2 (og2+k*3) y0 y1 y2 wr):=⟨hB,⟨q0,q1,q2⟩,r0,r1,r2⟩;have HLK:Hid (L[k]=(x0,(x1,x2))∧M[k]=(y0,(y1,y2))):=⟨hLk,hMk⟩;clear q0 q1 q2 r0 r1 r2 hB hc hc2 hLk hMk HA HA2;go_upto_region 6 with fail;have kb0:(0:Int)≤(k:Int):=by omega
    have kb1:(k:Int)<(n:Int):=by omega
    go_cut [24,13] from 13 to 25 (fun c ix w'=>ix=.int i64 (k:Int)∧c=.bool (!hstB (x0,(x1,x2)) (y0,(y1,y2)))∧Below w.heap.size w w')
    case first =>
     as_aux_lemma =>
      refine wp_region_quiet (C:=hstEQ w g (og+k*3) x0 x1 x2 g2 (og2+k*3) y0 y1 y2) (by kernel_rfl) (by kernel_rfl) (hstEQ.later (W:=wr) (Below.drew (bRQ _ _)) HCE.out) ?_;simp only[List.toList_toArray];go_big_quiet_want;refine qv (.slice (some ⟨g,og,none⟩) n cap) ?_ ?_
      ·rintro w' ⟨z,⟨z0,z1,z2⟩,u0,u1,u2⟩;go_simp
      simp only[Act.put,AP];go_big_quiet_on;go_big_quiet_want;refine qv (.int i64 (k:Int)) ?_ ?_
      ·rintro w' ⟨z,⟨z0,z1,z2⟩,u0,u1,u2⟩;go_simp
      simp only[Act.put,AP];go_big_quiet_on;go_big_quiet_want;refine qv (.pointer (some ⟨g,og+k*3,none⟩)) ?_ ?_
      ·rintro w' ⟨z,⟨z0,z1,z2⟩,u0,u1,u2⟩;go_simp
      simp only[Act.put,AP];go_big_quiet_on;go_big_quiet_want;refine qv (.agg #[.string x0,.int i64 x1,.int i64 x2]) ?_ ?_
      ·rintro w' ⟨z,⟨z0,z1,z2⟩,u0,u1,u2⟩;go_simp
      simp only[Act.put,AP];go_big_quiet_on;go_big_quiet_want;refine qv (.slice (some ⟨g2,og2,none⟩) n cap2) ?_ ?_
      ·rintro w' ⟨z,⟨z0,z1,z2⟩,u0,u1,u2⟩;go_simp
      simp only[Act.put,AP];go_big_quiet_on;go_big_quiet_want;refine qv (.int i64 (k:Int)) ?_ ?_
      ·rintro w' ⟨z,⟨z0,z1,z2⟩,u0,u1,u2⟩;go_simp
      simp only[Act.put,AP];go_big_quiet_on;go_big_quiet_want;refine qv (.pointer (some ⟨g2,og2+k*3,none⟩)) ?_ ?_
      ·rintro w' ⟨z,⟨z0,z1,z2⟩,u0,u1,u2⟩;go_simp
      simp only[Act.put,AP];go_big_quiet_on;go_big_quiet_want;refine qv (.agg #[.string y0,.int i64 y1,.int i64 y2]) ?_ ?_
      ·rintro w' ⟨z,⟨z0,z1,z2⟩,u0,u1,u2⟩;go_simp
      simp only[Act.put,AP];go_big_quiet_on;go_big_quiet_want;refine quiet_val (v:=.bool (!hstB (x0,(x1,x2)) (y0,(y1,y2)))) (fun w' hC=>exec_bin rfl (by go_simp) (run_neq_of (hst_eq x0 x1 x2 y0 y1 y2 w'))) ?_;simp only[Act.put,AP];go_big_quiet_on;refine wpQuiet_nil ?_;intro w' hC
      go_wp2_with fail
      go_meet
      case rel=>exact⟨rfl,rfl,hC.1⟩
    case rest =>
     obtain⟨rfl,rfl,hB2⟩:=hcut;have HB2:Hid (Below w.heap.size w wc):=hB2;clear HCE hB2;cases ho:hstB (x0,(x1,x2)) (y0,(y1,y2))
     ·have HF:Hid (R=false):=by
       show R=false;rw[HR.out];exact smG_no hkl hkm (by rw[HLK.out.1,HLK.out.2];exact ho)
      go_wp2;go_ret;exact⟨by rw[HF.out];rfl,HB2.out⟩
     have HAL2:Hid (∀j,j<k+1→∀(h1:j<L.length) (h2:j<M.length),hstB L[j] M[j]=true):=by
      intro j hj h1 h2;by_cases e:j=k
      ·subst e;rw[HLK.out.1,HLK.out.2];exact ho
      exact HALL.out j (by omega) h1 h2
     clear ho;go_wp2;go_roundw
     case rel=>exact⟨k+1,by omega,by go_num,HAL2.out,HB2.out⟩
     case measure=>simp[intOf];omega
   obtain rfl:k=n:=by omega
   have HF:Hid (R=true):=by
    show R=true;rw[HR.out];refine smG_iff.2 ⟨by rw[HN.out,HM.out],fun i h1 h2=>HALL.out i (by rw[HN.out] at h1;exact h1) h1 h2⟩
   go_wp2;go_ret;exact⟨by rw[HF.out];rfl,HB.out⟩
 have HF:Hid (R=false):=by
  show R=false;rw[HR.out];exact smG_len (by rw[HN.out,HM.out];exact hl)
 have e1:((n:Int)==(n2:Int))=false:=beq_eq_false_iff_ne.2 (by omega);have e2:((n:Int) != (n2:Int))=true:=by simp;omega
 go_enter func109,ntmps109;go_wp2;go_ret;exact⟨by rw[HF.out];rfl,bRQ _ _⟩
def hdrB (n:Int):Bool:=decide (0≤n)&&decide (n<16)
def rngB (m b:Int):Bool:=hdrB m&&hdrB b
def okB (m b:Int):Bool:=rngB m b&&(bits .andNot .i64 b m==0)
theorem hdr_of {n:Int}(h:hdrB n=true):0≤n∧n<16:=by simpa[hdrB] using h
theorem hdr_no {n:Int}(h:hdrB n=false):n<0∨16≤n:=by simp[hdrB] at h;omega
theorem hdr_mk {n:Int}(h:0≤n∧n<16):hdrB n=true:=by simpa[hdrB] using h
theorem rng_of {m b:Int}(h:rngB m b=true):(0≤m∧m<16)∧(0≤b∧b<16):=by
 simp only[rngB,Bool.and_eq_true] at h;exact⟨hdr_of h.1,hdr_of h.2⟩
theorem ok_rng {m b:Int}(h:okB m b=true):rngB m b=true:=by
 simp only[okB,Bool.and_eq_true] at h;exact h.1
theorem ok_of {m b:Int}(h:okB m b=true):(0≤m∧m<16)∧(0≤b∧b<16):=rng_of (ok_rng h)
theorem small {n:Int}(h:0≤n∧n<16):∃k:Fin 16,n=((k:Nat):Int):=⟨⟨n.toNat,by omega⟩,by simp;omega⟩
def hasB (m b h:Int):Bool:=hdrB h&&(okB m b&&(bits .and .i64 h m==b))
def refN (m b:Int):Int:=if okB m b then 0 else if rngB m b then 3 else 1
theorem refN_ok {m b:Int}(h:okB m b=true):refN m b=0:=by simp[refN,h]
theorem refN_shape {m b:Int}(h:okB m b=false)(h2:rngB m b=true):refN m b=3:=by simp[refN,h,h2]
theorem refN_range {m b:Int}(h2:rngB m b=false):refN m b=1:=by simp[refN,okB,h2]
theorem ok_refN (m b:Int):(refN m b==0)=okB m b:=by
 cases h:okB m b
 ·cases h2:rngB m b
  ·simp[refN_range h2]
  simp[refN_shape h h2]
 simp[refN_ok h]
theorem andEq_fin:∀m b:Fin 16,(bits .and .i64 ((b:Nat):Int) ((m:Nat):Int)==((b:Nat):Int))=(bits .andNot .i64 ((b:Nat):Int) ((m:Nat):Int)==0):=by decide +kernel
theorem andEq {m b:Int}(h:rngB m b=true):(bits .and .i64 b m==b)=okB m b:=by
 obtain⟨h1,h2⟩:=rng_of h;have e:okB m b=(bits .andNot .i64 b m==0):=by simp[okB,h]
 rw[e];obtain⟨x,rfl⟩:=small h1;obtain⟨y,rfl⟩:=small h2;exact andEq_fin x y
def bitB (x:Int)(i:Nat):Bool:=x / 2 ^ i % 2==1
def ruP (p o:Int):Bool:=decide (0≤p)&&(decide (p≤99)&&(decide (0≤o)&&decide (o≤4)))
def ruIn (p o s v:Int):Bool:=ruP p o&&rngB s v
def ruSet (o s v:Int):Bool:=(bits .andNot .i64 v s==0)&&(!(o==0) || s==0)
def ruN (p m b o s v:Int):Int:=if ruIn p o s v then (if okB m b then (if ruSet o s v then 0 else 3) else refN m b) else 1
def ruOk (p m b o s v:Int):Bool:=ruIn p o s v&&(okB m b&&ruSet o s v)
def apN (p m b o s v h:Int):Int:=if ruOk p m b o s v then (if hdrB h then (if hasB m b h && !(o==0) then 0 else 5) else 1) else ruN p m b o s v
def apV (s v h:Int):Int:=bits .or .i64 (bits .andNot .i64 h s) v
def apR (p m b o s v h:Int):Int:=if apN p m b o s v h=0 then apV s v h else 0
theorem ru_ok {p m b o s v:Int}(h:ruOk p m b o s v=true):ruIn p o s v=true∧okB m b=true∧ruSet o s v=true:=by
 simpa[ruOk] using h
theorem ruN_ok {p m b o s v:Int}(h:ruOk p m b o s v=true):ruN p m b o s v=0:=by
 obtain⟨h1,h2,h3⟩:=ru_ok h;simp[ruN,h1,h2,h3]
theorem ruN_ne {p m b o s v:Int}(h:ruOk p m b o s v=false):ruN p m b o s v≠0:=by
 unfold ruN;cases h1:ruIn p o s v
 ·simp
 cases h2:okB m b
 ·simp only[if_true];have:=ok_refN m b;rw[h2] at this;simpa using this
 cases h3:ruSet o s v
 ·simp
 simp[ruOk,h1,h2,h3] at h
theorem ru_in {p o s v:Int}(h:ruIn p o s v=true):((0≤p∧p≤99)∧(0≤o∧o≤4))∧(0≤s∧s<16)∧(0≤v∧v<16):=by
 simp only[ruIn,Bool.and_eq_true] at h;obtain⟨h1,h2⟩:=h;have h3:=rng_of h2;simp only[ruP,Bool.and_eq_true,decide_eq_true_eq] at h1;exact⟨⟨⟨h1.1,h1.2.1⟩,⟨h1.2.2.1,h1.2.2.2⟩⟩,h3⟩
theorem apN_bad {p m b o s v:Int}(h:Int)(hr:ruOk p m b o s v=false):apN p m b o s v h=ruN p m b o s v:=by simp[apN,hr]
theorem apR_bad {p m b o s v h:Int}(hr:apN p m b o s v h≠0):apR p m b o s v h=0:=by simp[apR,hr]
theorem ap_yes {p m b o s v h:Int}(hr:apN p m b o s v h=0):ruOk p m b o s v=true∧hdrB h=true∧hasB m b h=true∧(o==0)=false:=by
 cases h1:ruOk p m b o s v
 ·rw[apN_bad h h1] at hr;exact absurd hr (ruN_ne h1)
 cases h2:hdrB h
 ·simp[apN,h1,h2] at hr
 simp only[apN,h1,h2,if_true] at hr;cases h3:(hasB m b h && !(o==0))
 ·simp[h3] at hr
 simpa using h3
def cmpN (a b:Int):Int:=if a<b then -1 else if b<a then 1 else 0
def orN (x y z:Int):Int:=if x=0 then (if y=0 then z else y) else x
def ordN (p m b p' m' b':Int):Int:=orN (cmpN p p') (cmpN m m') (cmpN b b')
structure Ru where
 p:Int
 m:Int
 b:Int
 o:Int
 s:Int
 v:Int
abbrev TsQ:=List (List Ru)
def Ru.n (r:Ru):Int:=ruN r.p r.m r.b r.o r.s r.v
def Ru.ok (r:Ru):Bool:=ruOk r.p r.m r.b r.o r.s r.v
def Ru.has (r:Ru)(h:Int):Bool:=hasB r.m r.b h
def ordR (a b:Ru):Int:=ordN a.p a.m a.b b.p b.m b.b
def keyB (a b:Ru):Bool:=ordR a b==0
def zeR:Ru:=⟨0,0,0,0,0,0⟩
theorem cmp_0 {a b:Int}:cmpN a b=0↔a=b:=by unfold cmpN;split <;> (try split) <;> omega
theorem ord_0 {a b:Ru}:ordR a b=0↔a.p=b.p∧a.m=b.m∧a.b=b.b:=by
 unfold ordR ordN orN;by_cases h1:a.p=b.p
 ·rw[if_pos (cmp_0.2 h1)];by_cases h2:a.m=b.m
  ·rw[if_pos (cmp_0.2 h2),cmp_0];exact⟨fun h=>⟨h1,h2,h⟩,fun h=>h.2.2⟩
  rw[if_neg (fun h=>h2 (cmp_0.1 h)),cmp_0];exact⟨fun h=>absurd h h2,fun h=>h.2.1⟩
 rw[if_neg (fun h=>h1 (cmp_0.1 h)),cmp_0];exact⟨fun h=>absurd h h1,fun h=>h.1⟩
theorem ord_le {a b:Ru}:ordR a b≤0↔(a.p<b.p∨a.p=b.p∧(a.m<b.m∨a.m=b.m∧a.b≤b.b)):=by
 unfold ordR ordN orN cmpN
 split <;> split <;> (try split) <;> (try split) <;> (try split) <;> (try split) <;> omega
theorem ord_tr {a b c:Ru}(h1:ordR a b≤0)(h2:0<ordR c b):ordR a c≤0:=by
 have h3:¬ordR c b≤0:=by omega
 rw[ord_le] at h1 h3 ⊢;omega
theorem ord_as {a b:Ru}(h1:ordR a b≤0)(h2:ordR b a≤0):ordR a b=0:=by
 rw[ord_le] at h1 h2;rw[ord_0];omega
theorem ord_rf (a:Ru):ordR a a=0:=ord_0.2 ⟨rfl,rfl,rfl⟩
theorem key_sym {a b:Ru}(h:keyB a b=false):keyB b a=false:=by
 simp only[keyB,beq_eq_false_iff_ne,ne_eq,ord_0] at h ⊢;exact fun h'=>h ⟨h'.1.symm,h'.2.1.symm,h'.2.2.symm⟩
theorem key_eq (a b:Ru):keyB a b=(decide (a.p=b.p)&&(decide (a.m=b.m)&&decide (a.b=b.b))):=by
 rw[Bool.eq_iff_iff,keyB,beq_iff_eq,ord_0];simp
def clTo (L:List Ru):Nat→Bool
 | 0=>false
 | k+1=>clTo L k || (L.take k).any (fun a=>keyB a (L.getD k zeR))
def okR (L:List Ru):Bool:=L.all Ru.ok
def tbTo (L:List Ru):Nat→Int
 | 0=>0
 | k+1=>if tbTo L k=0 then (if (L.getD k zeR).n=0 then (if (L.take k).any (fun a=>keyB a (L.getD k zeR)) then 7 else 0) else (L.getD k zeR).n) else tbTo L k
def tbN (L:List Ru):Int:=if 12<L.length then 4 else tbTo L L.length
theorem n_ne {r:Ru}(h:r.ok=false):r.n≠0:=ruN_ne h
theorem n_ok {r:Ru}(h:r.ok=true):r.n=0:=ruN_ok h
theorem ok_n {r:Ru}(h:r.n=0):r.ok=true:=by
 cases e:r.ok
 ·exact absurd h (n_ne e)
 rfl
theorem okR_next {L:List Ru}{k:Nat}(hk:k<L.length)(h:okR (L.take k)=true)(h2:(L[k]).ok=true):okR (L.take (k+1))=true:=by
 rw[List.take_succ_eq_append_getElem hk];simp only[okR,List.all_append,List.all_cons,List.all_nil,Bool.and_true,Bool.and_eq_true];exact⟨h,h2⟩
theorem to_le {L:List Ru}{k:Nat}(h:tbTo L k≠0):∀{n:Nat},k≤n→tbTo L n=tbTo L k
 | 0,hn=>by
   obtain rfl:k=0:=by omega
   rfl
 | n+1,hn=>by
   by_cases e:k=n+1
   ·subst e;rfl
   have:=to_le h (show k≤n by omega);rw[tbTo,if_neg (by rw[this];exact h),this]
theorem getD_at {L:List Ru}{k:Nat}(hk:k<L.length):L.getD k zeR=L[k]:=by simp[List.getD,hk]
theorem cl_le {L:List Ru}:∀{k n:Nat},k≤n→clTo L n=false→clTo L k=false
 | k,0,h,hc=>by
   obtain rfl:k=0:=by omega
   exact hc
 | k,n+1,h,hc=>by
   by_cases e:k=n+1
   ·subst e;exact hc
   simp only[clTo,Bool.or_eq_false_iff] at hc;exact cl_le (by omega) hc.1
theorem cl_no {L:List Ru}:clTo L L.length=false↔∀i j,i<j→j<L.length→keyB (L.getD i zeR) (L.getD j zeR)=false:=by
 constructor
 ·intro h i j hij hj;have:=cl_le (show j+1≤L.length by omega) h;simp only[clTo,Bool.or_eq_false_iff] at this;have h2:=this.2;rw[List.any_eq_false] at h2;have hm:L.getD i zeR∈L.take j:=by
   rw[getD_at (by omega)];rw[List.mem_take_iff_getElem];exact⟨i,by omega,rfl⟩
  simpa using h2 _ hm
 intro h;have:∀n,n≤L.length→clTo L n=false:=by
  intro n
  induction n with
  | zero=>intro _;rfl
  | succ n ih =>
    intro hn;simp only[clTo,Bool.or_eq_false_iff];refine⟨ih (by omega),?_⟩;rw[List.any_eq_false];intro a ha;rw[List.mem_take_iff_getElem] at ha;obtain⟨i,hi,rfl⟩:=ha;have:=h i n (by omega) (by omega);rw[getD_at (by omega)] at this;simpa using this
 exact this _ (nLQ _)
theorem to_0 {L:List Ru}:∀{k:Nat},k≤L.length→(tbTo L k=0↔okR (L.take k)=true∧clTo L k=false)
 | 0,_=>by simp[tbTo,okR,clTo]
 | k+1,hk=>by
   have ih:=to_0 (show k≤L.length by omega);have hl:k<L.length:=by omega
   rw[tbTo,clTo];by_cases h1:tbTo L k=0
   ·obtain⟨i1,i2⟩:=ih.1 h1;rw[if_pos h1,i2,Bool.false_or];by_cases h2:(L.getD k zeR).n=0
    ·rw[if_pos h2];have h3:=okR_next hl i1 (by rw[←getD_at hl];exact ok_n h2);cases h4:(L.take k).any (fun a=>keyB a (L.getD k zeR))
     ·simp[h3]
     simp
    rw[if_neg h2];refine⟨fun h=>absurd h h2,fun h=>?_⟩
    exfalso
    have h5:=h.1;rw[okR,List.all_eq_true] at h5;exact h2 (n_ok (by rw[getD_at hl];exact h5 _ (by rw[List.mem_take_iff_getElem];exact⟨k,by omega,rfl⟩)))
   rw[if_neg h1];refine⟨fun h=>absurd h h1,fun h=>?_⟩
   exfalso
   obtain⟨h5,h6⟩:=h;simp only[Bool.or_eq_false_iff] at h6;refine h1 (ih.2 ⟨?_,h6.1⟩);rw[okR,List.all_eq_true] at h5 ⊢;intro x hx;refine h5 x ?_;rw[List.mem_take_iff_getElem] at hx ⊢;obtain⟨i,hi,e⟩:=hx;exact⟨i,by omega,e⟩
theorem tb_0 {L:List Ru}:tbN L=0↔L.length≤12∧okR L=true∧clTo L L.length=false:=by
 unfold tbN;by_cases h1:12<L.length
 ·rw[if_pos h1];constructor
  ·intro h;cases h
  intro h;omega
 rw[if_neg h1,to_0 (nLQ _),List.take_length];exact⟨fun h=>⟨by omega,h⟩,fun h=>h.2⟩
def beTo (L:List Ru)(h:Int):Nat→Int
 | 0 => -1
 | k+1=>if ((L.getD k zeR).has h&&(decide (beTo L h k<0) || decide (0<ordR (L.getD k zeR) (L.getD (beTo L h k).toNat zeR))))=true then (k:Int) else beTo L h k
theorem be_bd (L:List Ru)(h:Int):∀k:Nat,-1≤beTo L h k∧beTo L h k<k
 | 0=>by simp[beTo]
 | k+1=>by
   have:=be_bd L h k;unfold beTo
   split <;> omega
theorem be_no {L:List Ru}{h:Int}:∀{k:Nat},beTo L h k<0→∀j,j<k→(L.getD j zeR).has h=false
 | 0,_,j,hj=>by omega
 | k+1,hb,j,hj=>by
   unfold beTo at hb
   split at hb
   ·omega
   next hn =>
   by_cases e:j=k
   ·subst e;cases hh:(L.getD j zeR).has h
    ·rfl
    exact absurd (by rw[hh];simp[hb]) hn
   exact be_no hb j (by omega)
theorem be_yes {L:List Ru}{h:Int}:∀{k:Nat},0≤beTo L h k→(L.getD (beTo L h k).toNat zeR).has h=true∧∀j,j<k→(L.getD j zeR).has h=true→ordR (L.getD j zeR) (L.getD (beTo L h k).toNat zeR)≤0
 | 0,hb=>by simp[beTo] at hb
 | k+1,hb=>by
   unfold beTo at hb ⊢
   split
   ·next hy =>
    simp only[Bool.and_eq_true,Bool.or_eq_true,decide_eq_true_eq] at hy;obtain⟨y1,y2⟩:=hy;simp only[Int.toNat_natCast];refine⟨y1,fun j hj hh=>?_⟩;by_cases e:j=k
    ·subst e;rw[ord_rf];exact Int.le_refl _
    rcases y2 with y2 | y2
    ·rw[be_no y2 j (by omega)] at hh;cases hh
    have h0:0≤beTo L h k:=by
     rcases Int.lt_or_le (beTo L h k) 0 with h' | h'
     ·rw[be_no h' j (by omega)] at hh;cases hh
     exact h'
    exact ord_tr ((be_yes h0).2 j (by omega) hh) y2
   next hn =>
   rw[if_neg hn] at hb;obtain⟨i1,i2⟩:=be_yes hb;refine⟨i1,fun j hj hh=>?_⟩;by_cases e:j=k
   ·subst e;rw[hh] at hn;simp only[Bool.true_and,Bool.or_eq_true,decide_eq_true_eq,not_or] at hn;omega
   exact i2 j (by omega) hh
def luN (L:List Ru)(h:Int):Int:=if tbN L=0 then (if hdrB h then (if beTo L h L.length<0 then 5 else 0) else 1) else tbN L
def luI (L:List Ru)(h:Int):Int:=if luN L h=0 then beTo L h L.length else 0
theorem lu_0 {L:List Ru}{h:Int}:luN L h=0↔tbN L=0∧hdrB h=true∧0≤beTo L h L.length:=by
 unfold luN;by_cases h1:tbN L=0
 ·rw[if_pos h1];cases h2:hdrB h
  ·simp
  by_cases h3:beTo L h L.length<0
  ·simp[h1,h3] <;> omega
  simp[h1,h3] <;> omega
 rw[if_neg h1];simp[h1]
def eqR (a b:Ru):Bool:=decide (a.p=b.p)&&(decide (a.m=b.m)&&(decide (a.b=b.b)&&(decide (a.o=b.o)&&(decide (a.s=b.s)&&decide (a.v=b.v)))))
theorem eq_R {a b:Ru}:eqR a b=true↔a=b:=by
 obtain⟨p,m,b1,o,s,v⟩:=a;obtain⟨p',m',b',o',s',v'⟩:=b;simp[eqR]
theorem eq_no {a b:Ru}:eqR a b=false↔a≠b:=by
 rw[←Bool.not_eq_true,Ne,eq_R]
theorem eq_rf (a:Ru):eqR a a=true:=eq_R.2 rfl
def inB (L:List Ru)(r:Ru):Bool:=L.any (fun a=>eqR r a)
theorem in_iff {L:List Ru}{r:Ru}:inB L r=true↔r∈L:=by
 simp only[inB,List.any_eq_true,eq_R];exact⟨fun ⟨x,h,e⟩=>e ▸ h,fun h=>⟨r,h,rfl⟩⟩
def ixN (L:List Ru)(r:Ru):Nat:=L.findIdx (fun a=>eqR r a)
def bey (A B:List Ru):List Ru:=A.filter (fun r => !inB B r)
def hitB (L:List Ru)(r:Ru):Bool:=L.any (fun a=>keyB a r)
def chN (L:List Ru)(add:Bool)(r:Ru):Int:=if add then (if hitB L r then 7 else if 12≤L.length then 4 else 0) else (if inB L r then 0 else 5)
def chL (L:List Ru)(add:Bool)(r:Ru):List Ru:=if chN L add r=0 then (if add then L++[r] else L.take (ixN L r)++L.drop (ixN L r+1)) else []
def doN (L:List Ru)(add:Bool)(r:Ru):Int:=if tbN L=0 then (if r.n=0 then chN L add r else r.n) else tbN L
def doL (L:List Ru)(add:Bool)(r:Ru):List Ru:=if doN L add r=0 then chL L add r else []
structure Op8 where
 w:Int
 a:Bool
 r:Ru
def alN:List Ru→List Op8→Int
 | _,[]=>0
 | L,o :: l=>if doN L o.a o.r=0 then alN (doL L o.a o.r) l else doN L o.a o.r
def alL:List Ru→List Op8→List Ru
 | L,[]=>L
 | L,o :: l=>if doN L o.a o.r=0 then alL (doL L o.a o.r) l else []
def taken (L:List Ru):List Op8:=L.map fun r=>⟨0,false,r⟩
def added (L:List Ru):List Op8:=L.map fun r=>⟨0,true,r⟩
def twN (A B:List Ru):Int:=if tbN A=0 then tbN B else tbN A
def dfL (A B:List Ru):List Op8:=if twN A B=0 then taken (bey A B)++added (bey B A) else []
def smB (A B:List Ru):Bool:=if twN A B=0 then (decide (A.length=B.length)&&decide ((bey A B).length=0)) else false
theorem tb_iff {L:List Ru}:tbN L=0↔L.length≤12∧(∀r∈L,r.ok=true)∧L.Pairwise (fun a b=>keyB a b=false):=by
 rw[tb_0,cl_no,okR,List.all_eq_true,List.pairwise_iff_getElem];refine and_congr Iff.rfl (and_congr Iff.rfl ⟨fun h i j hi hj hij=>?_,fun h i j hij hj=>?_⟩)
 ·have:=h i j hij hj;rw[getD_at hi,getD_at hj] at this;exact this
 rw[getD_at (by omega),getD_at hj];exact h i j (by omega) hj hij
theorem key_rf (a:Ru):keyB a a=true:=by simp[keyB,ord_rf]
theorem key_sy {a b:Ru}:keyB a b=keyB b a:=by
 cases h:keyB b a
 ·exact key_sym h
 cases h2:keyB a b
 ·rw[key_sym h2] at h;cases h
 rfl
theorem tb_sub {L M:List Ru}(h:tbN L=0)(hs:M.Sublist L):tbN M=0:=by
 rw[tb_iff] at h ⊢;exact⟨Nat.le_trans hs.length_le h.1,fun r hr=>h.2.1 r (hs.subset hr),h.2.2.sublist hs⟩
theorem tb_one {L:List Ru}{r:Ru}(h:tbN L=0)(hr:r.ok=true)(hh:hitB L r=false)(hl:L.length<12):tbN (L++[r])=0:=by
 rw[tb_iff] at h ⊢;refine⟨by simp;omega,?_,?_⟩
 ·intro x hx;rw[List.mem_append,List.mem_singleton] at hx
  rcases hx with hx | rfl
  ·exact h.2.1 x hx
  exact hr
 rw[List.pairwise_append];refine⟨h.2.2,List.pairwise_singleton _ _,fun a ha b hb=>?_⟩;rw[List.mem_singleton] at hb;subst hb;simp only[hitB,List.any_eq_false] at hh;simpa using hh a ha
theorem tb_key {L:List Ru}(h:tbN L=0){a b:Ru}(ha:a∈L)(hb:b∈L)(hk:keyB a b=true):a=b:=by
 rw[tb_iff] at h;have hp:=h.2.2;clear h
 induction L with
 | nil=>cases ha
 | cons x l ih =>
   rw[List.pairwise_cons] at hp
   rcases List.mem_cons.1 ha with e1 | ha1
   ·rcases List.mem_cons.1 hb with e2 | hb1
    ·rw[e1,e2]
    rw[e1,hp.1 b hb1] at hk;cases hk
   rcases List.mem_cons.1 hb with e2 | hb1
   ·rw[e2,key_sy,hp.1 a ha1] at hk;cases hk
   exact ih ha1 hb1 hp.2
theorem tb_nodup {L:List Ru}(h:tbN L=0):L.Nodup:=by
 rw[tb_iff] at h;refine h.2.2.imp ?_;rintro a b hk rfl;rw[key_rf] at hk;cases hk
theorem ix_split {L M:List Ru}{r:Ru}(h:r ∉ L):ixN (L++r :: M) r=L.length:=by
 induction L with
 | nil=>simp[ixN,List.findIdx_cons,eq_rf]
 | cons x l ih =>
   have h1:eqR r x=false:=eq_no.2 (fun e=>h (by rw[e];exact List.mem_cons_self));have h2:=ih (fun hm=>h (List.mem_cons_of_mem _ hm));simp only[ixN] at h2 ⊢;rw[List.cons_append,List.findIdx_cons,h1,h2];rfl
theorem do_take {A B:List Ru}{r:Ru}(h:tbN (A++r :: B)=0):doN (A++r :: B) false r=0∧doL (A++r :: B) false r=A++B:=by
 have hm:r∈A++r :: B:=by simp
 have hno:r ∉ A:=by
  have:=tb_nodup h;rw[List.nodup_append] at this;intro hA;exact this.2.2 r hA r (by simp) rfl
 have hr:r.n=0:=n_ok ((tb_iff.1 h).2.1 r hm);have hc:chN (A++r :: B) false r=0:=by simp[chN,in_iff.2 hm]
 have hd:doN (A++r :: B) false r=0:=by rw[doN,if_pos h,if_pos hr,hc]
 refine⟨hd,?_⟩;rw[doL,if_pos hd,chL,if_pos hc,ix_split hno];simp
theorem do_add {L:List Ru}{r:Ru}(h:tbN L=0)(hr:r.ok=true)(hh:hitB L r=false)(hl:L.length<12):doN L true r=0∧doL L true r=L++[r]:=by
 have hc:chN L true r=0:=by
  rw[chN,hh];simp;omega
 have hd:doN L true r=0:=by rw[doN,if_pos h,if_pos (n_ok hr),hc]
 exact⟨hd,by rw[doL,if_pos hd,chL,if_pos hc];rfl⟩
theorem add_yes {L:List Ru}{r:Ru}(h:doN L true r=0):tbN L=0∧r.ok=true∧hitB L r=false∧L.length<12:=by
 unfold doN at h;by_cases h1:tbN L=0
 ·rw[if_pos h1] at h;by_cases h2:r.n=0
  ·rw[if_pos h2,chN] at h;simp only[if_true] at h;cases h3:hitB L r
   ·rw[h3] at h;by_cases h4:12≤L.length
    ·simp[h4] at h
    exact⟨h1,ok_n h2,rfl,by omega⟩
   rw[h3] at h;simp at h
  rw[if_neg h2] at h;exact absurd h h2
 rw[if_neg h1] at h;exact absurd h h1
theorem al_take (o:List Ru)(ops:List Op8):∀(A B:List Ru),tbN (A++B)=0→(∀r∈A,inB o r=true) →
 alN (A++B) (taken (bey B o)++ops)=alN (A++B.filter (inB o)) ops∧alL (A++B) (taken (bey B o)++ops)=alL (A++B.filter (inB o)) ops:=by
 intro A B
 induction B generalizing A with
 | nil=>intro _ _;simp[bey,taken]
 | cons r B ih =>
   intro h hA;cases hi:inB o r
   ·have e:bey (r :: B) o=r :: bey B o:=by simp[bey,hi]
    have e2:(r :: B).filter (inB o)=B.filter (inB o):=by simp[hi]
    obtain⟨d1,d2⟩:=do_take h;have h2:tbN (A++B)=0:=tb_sub h (by
     refine List.Sublist.append (List.Sublist.refl _) ?_;exact List.sublist_cons_self r B)
    have:=ih A h2 hA;rw[e,e2,taken,List.map_cons,List.cons_append,alN,alL];simp only[d1,d2,if_true];exact this
   have e:bey (r :: B) o=bey B o:=by simp[bey,hi]
   have e2:(r :: B).filter (inB o)=r :: B.filter (inB o):=by simp[hi]
   have:=ih (A++[r]) (by rw[List.append_assoc];exact h) (by
    intro x hx;rw[List.mem_append,List.mem_singleton] at hx
    rcases hx with hx | rfl
    ·exact hA x hx
    exact hi)
   rw[e,e2];rw[List.append_assoc,List.append_assoc] at this;exact this
theorem al_add (o:List Ru)(ho:tbN o=0):∀(A B:List Ru),tbN A=0→(A++B).Nodup→(∀r∈A++B,r∈o)→(A++B).length≤o.length→alN A (added B)=0∧alL A (added B)=A++B:=by
 intro A B
 induction B generalizing A with
 | nil=>intro _ _ _ _;simp[added,alN,alL]
 | cons r B ih =>
   intro hA hn hm hl;have hro:r∈o:=hm r (by simp);have hr:r.ok=true:=(tb_iff.1 ho).2.1 r hro;have hh:hitB A r=false:=by
    simp only[hitB,List.any_eq_false];intro a ha hk;have hao:a∈o:=hm a (by simp[ha]);have:=tb_key ho hao hro hk;rw[List.nodup_append] at hn;exact hn.2.2 a ha r (by simp) this
   have hlen:A.length<12:=by
    have:=(tb_iff.1 ho).1;simp at hl;omega
   obtain⟨d1,d2⟩:=do_add hA hr hh hlen;have e:A++r :: B=(A++[r])++B:=by simp
   have:=ih (A++[r]) (tb_one hA hr hh hlen) (by rw[←e];exact hn) (by rw[←e];exact hm) (by rw[←e];exact hl);rw[added,List.map_cons,alN,alL];simp only[d1,d2,if_true];rw[e];exact this
theorem nodup_sub {M L:List Ru}(hn:M.Nodup)(h:∀r∈M,r∈L):M.length≤L.length:=by
 induction M generalizing L with
 | nil=>simp
 | cons x m ih =>
   rw[List.nodup_cons] at hn;obtain⟨A,B,rfl⟩:=List.append_of_mem (h x (by simp));have:=ih (L:=A++B) hn.2 (fun r hr=>by
    have:=h r (by simp[hr]);rw[List.mem_append,List.mem_cons] at this;rw[List.mem_append]
    rcases this with h1 | rfl | h1
    ·exact .inl h1
    ·exact absurd hr hn.1
    exact .inr h1)
   simp at this ⊢;omega
theorem al_diff {A B:List Ru}(h:twN A B=0):alN A (dfL A B)=0∧smB (alL A (dfL A B)) B=true∧twN (alL A (dfL A B)) B=0:=by
 obtain⟨hA,hB⟩:tbN A=0∧tbN B=0:=by
  unfold twN at h;by_cases h1:tbN A=0
  ·rw[if_pos h1] at h;exact⟨h1,h⟩
  rw[if_neg h1] at h;exact absurd h h1
 have e1:dfL A B=taken (bey A B)++added (bey B A):=by rw[dfL,if_pos h]
 have h1:=al_take B (added (bey B A)) [] A hA (by simp);simp only[List.nil_append] at h1;have hF:tbN (A.filter (inB B))=0:=tb_sub hA List.filter_sublist;have hnd:(A.filter (inB B)++bey B A).Nodup:=by
  rw[List.nodup_append];refine⟨(tb_nodup hA).sublist List.filter_sublist,(tb_nodup hB).sublist List.filter_sublist,?_⟩;rintro a ha b hb rfl;rw[List.mem_filter] at ha;rw[bey,List.mem_filter] at hb;have:=in_iff.2 ha.1;rw[this] at hb;simp at hb
 have hmem:∀r∈A.filter (inB B)++bey B A,r∈B:=by
  intro r hr;rw[List.mem_append] at hr
  rcases hr with hr | hr
  ·exact in_iff.1 (List.mem_filter.1 hr).2
  exact (List.mem_filter.1 hr).1
 have h2:=al_add B hB (A.filter (inB B)) (bey B A) hF hnd hmem (nodup_sub hnd hmem);have hlen:(A.filter (inB B)++bey B A).length=B.length:=by
  refine Nat.le_antisymm (nodup_sub hnd hmem) (nodup_sub (tb_nodup hB) fun r hr=>?_);rw[List.mem_append];cases hi:inB A r
  ·exact .inr (List.mem_filter.2 ⟨hr,by simp[hi]⟩)
  exact .inl (List.mem_filter.2 ⟨in_iff.1 hi,in_iff.2 hr⟩)
 have hbey:(bey (A.filter (inB B)++bey B A) B)=[]:=by
  rw[bey,List.filter_eq_nil_iff];intro r hr;simp[in_iff.2 (hmem r hr)]
 have hT:tbN (A.filter (inB B)++bey B A)=0:=by
  rw[tb_iff];refine⟨by rw[hlen];exact (tb_iff.1 hB).1,fun r hr=>(tb_iff.1 hB).2.1 r (hmem r hr),?_⟩;have:=hnd;unfold List.Nodup at this;refine (List.Pairwise.and_mem.1 this).imp ?_;rintro a b ⟨ha,hb,hne⟩;cases hk:keyB a b
  ·rfl
  exact absurd (tb_key hB (hmem a ha) (hmem b hb) hk) hne
 have ht2:twN (A.filter (inB B)++bey B A) B=0:=by rw[twN,if_pos hT,hB]
 rw[e1,h1.1,h1.2,h2.1,h2.2];refine⟨rfl,?_,ht2⟩;rw[smB,if_pos ht2,hlen,hbey];simp
section
variable {κ β:Type}
def fndM (q:κ→κ→Bool)(k:κ):List κ→List MapEntry→Nat→Option (Nat×Value)
 | k' :: ks,e :: es,i=>if q k k' then some (i,e.val) else fndM q k ks es (i+1)
 | _,_,_=>none
def mget (q:κ→κ→Bool)(k:κ):List (κ×β)→Option β
 | []=>none
 | p :: M=>if q k p.1 then some p.2 else mget q k M
def mput (q:κ→κ→Bool)(k:κ)(b:β):List (κ×β)→List (κ×β)
 | []=>[(k,b)]
 | p :: M=>if q k p.1 then (k,b) :: M else p :: mput q k b M
theorem mget_put {q:κ→κ→Bool}(hq:∀a b,q a b=true↔a=b)(k k':κ)(b:β):∀M:List (κ×β),mget q k' (mput q k b M)=if q k' k then some b else mget q k' M
 | []=>by simp[mput,mget]
 | p :: M=>by
   have ih:=mget_put hq k k' b M;rw[mput];by_cases h:q k p.1=true
   ·rw[if_pos h,mget,mget];have e:=(hq _ _).1 h;subst e;simp only
    split <;> simp_all
   rw[if_neg h,mget,mget,ih];by_cases h2:q k' p.1=true
   ·rw[if_pos h2,if_pos h2];have e:=(hq _ _).1 h2;have:¬q k' k=true:=fun h3=>h (by rw[hq] at h3;subst h3;exact h2)
    rw[if_neg this]
   rw[if_neg h2,if_neg h2]
end
structure KeyE (P:Program)(K:TypeId)(κ:Type) where
 c:κ→Value
 q:κ→κ→Bool
 qeq:∀a b,q a b=true↔a=b
 check:∀(e:Bool) (k:κ) (w:World),(Instr.checkKey e 10000 K (c k)).run P w=.ok () w
 find:∀(k:κ) (ks:List κ) (l:List MapEntry) (w:World),l.map (·.key)=ks.map c→(Instr.findKey K (c k) l).run P w=.ok (fndM q k ks l 0) w
 bits:∀k,Instr.sameBits 10000 (c k) (c k)=true
section
variable {P:Program}{K:TypeId}{κ β:Type}
theorem find_ask {c:κ→Value}{q:κ→κ→Bool}(heq:∀a b w,(Op.equal K (c a) (c b)).run P w=.ok (q a b) w)(k:κ):∀(ks:List κ) (l:List MapEntry) (i:Nat) (w:World),l.map (·.key)=ks.map c→(Instr.findAsking K (c k) l i).run P w=.ok (fndM q k ks l i) w
 | [],[],i,w,_=>rfl
 | [],_ :: _,_,_,h=>by simp at h
 | _ :: _,[],_,_,h=>by simp at h
 | k' :: ks,e :: l,i,w,h=>by
   simp only[List.map_cons,List.cons.injEq] at h;simp only[Instr.findAsking,Sem.run_bind,h.1,heq,Result.andThen_ok];rw[fndM];cases hq:q k k'
   ·simp only[Bool.false_eq_true,if_false];exact find_ask heq k ks l (i+1) w h.2
   simp
theorem find_now {c:κ→Value}{q:κ→κ→Bool}{d:TypeDesc}(hs:∀a b,Instr.sameNow d (c a) (c b)=some (q a b))(k:κ):∀(ks:List κ) (l:List MapEntry) (i:Nat),l.map (·.key)=ks.map c→Instr.findNow d (c k) l i=some (fndM q k ks l i)
 | [],[],i,_=>rfl
 | [],_ :: _,_,h=>by simp at h
 | _ :: _,[],_,h=>by simp at h
 | k' :: ks,e :: l,i,h=>by
   simp only[List.map_cons,List.cons.injEq] at h;rw[Instr.findNow,h.1,hs,fndM];cases hq:q k k'
   ·simp only[Bool.false_eq_true,if_false];exact find_now hs k ks l (i+1) h.2
   simp
def KeyE.now (c:κ→Value)(q:κ→κ→Bool)(qeq:∀a b,q a b=true↔a=b)(check:∀(e:Bool) (k:κ) (w:World),(Instr.checkKey e 10000 K (c k)).run P w=.ok () w)(d:TypeDesc)(hd:P.underlying K=some d)
    (hs:∀a b,Instr.sameNow d (c a) (c b)=some (q a b)) (bits:∀k,Instr.sameBits 10000 (c k) (c k)=true):KeyE P K κ:=
 ⟨c,q,qeq,check,fun k ks l w h=>Go.MapKept.run_findKey hd (find_now hs k ks l 0 h),bits⟩
def KeyE.ask (c:κ→Value)(q:κ→κ→Bool)(qeq:∀a b,q a b=true↔a=b)(check:∀(e:Bool) (k:κ) (w:World),(Instr.checkKey e 10000 K (c k)).run P w=.ok () w)(d:TypeDesc)(hd:P.underlying K=some d)
    (hs:∀a b,Instr.sameNow d (c a) (c b)=none) (heq:∀a b w,(Op.equal K (c a) (c b)).run P w=.ok (q a b) w) (bits:∀k,Instr.sameBits 10000 (c k) (c k)=true):KeyE P K κ:=
 ⟨c,q,qeq,check,fun k ks l w h=>by
  cases ks with
  | nil =>
    cases l with
    | nil=>exact Go.MapKept.run_findKey hd rfl
    | cons e l=>simp at h
  | cons k' ks =>
    cases l with
    | nil=>simp at h
    | cons e l =>
      have h1:Instr.findNow d (c k) (e :: l) 0=none:=by
       simp only[List.map_cons,List.cons.injEq] at h;rw[Instr.findNow,h.1,hs]
      simp only[Instr.findKey,Sem.run_bind,run_underlying hd,Result.andThen_ok,h1];exact find_ask heq k (k' :: ks) (e :: l) 0 w h,bits⟩
def Sta (bs:List Nat)(clock:Nat):Prop:=(∀b∈bs,b<clock)∧bs.Nodup
theorem sta_push {bs:List Nat}{clock:Nat}(h:Sta bs clock):Sta (bs++[clock]) (clock+1):=by
 refine⟨fun b hb=>?_,?_⟩
 ·simp only[List.mem_append,List.mem_singleton] at hb
  rcases hb with hb | rfl
  ·have:=h.1 b hb;omega
  omega
 rw[List.nodup_append];refine⟨h.2,by simp,fun a ha b hb e=>?_⟩;simp only[List.mem_singleton] at hb;have:=h.1 a ha;omega
theorem born_modify (f:MapEntry→MapEntry)(hf:∀e,(f e).born=e.born):∀(l:List MapEntry) (i:Nat),(l.modify i f).map (·.born)=l.map (·.born)
 | [],i=>by simp
 | a :: l,0=>by simp[hf]
 | a :: l,i+1=>by
   have ih:=born_modify f hf l i;simp[List.modify_succ_cons,ih]
def MAt (E:KeyE P K κ)(ve:β→Value)(w:World)(B:Nat)(M:List (κ×β)):Prop:=
 ∃es clock,w.heap[B]?=some (.map es clock)∧es.toList.map (·.key)=(M.map (·.1)).map E.c∧es.toList.map (·.val)=(M.map (·.2)).map ve∧Sta (es.toList.map (·.born)) clock
variable {E:KeyE P K κ}{ve:β→Value}
theorem MAt.lt {w:World}{B:Nat}{M:List (κ×β)}(h:MAt E ve w B M):B<w.heap.size:=by
 obtain⟨es,clock,h1,_⟩:=h;exact (Array.getElem?_eq_some_iff.1 h1).1
theorem MAt.later {w w':World}{B:Nat}{M:List (κ×β)}(h:MAt E ve w B M)(hb:Below w.heap.size w w'):MAt E ve w' B M:=by
 have hlt:=h.lt;obtain⟨es,clock,h1,h2⟩:=h;exact⟨es,clock,(hb.block B hlt).trans h1,h2⟩
theorem MAt.kept {w w':World}{B:Nat}{M:List (κ×β)}{row:Option Nat}(h:MAt E ve w B M)(hg:w.grownBy w' row)(hne:some B≠row):MAt E ve w' B M:=by
 have hlt:=h.lt;obtain⟨es,clock,h1,h2⟩:=h;exact⟨es,clock,(hg.block B hlt hne).trans h1,h2⟩
theorem mat_new (E:KeyE P K κ)(ve:β→Value)(w:World):MAt E ve (w.alloc (.map #[] 0)) w.heap.size []:=⟨#[],0,heap_alloc_new w _,rfl,rfl,by simp[Sta]⟩
theorem fnd_get {q:κ→κ→Bool}{k:κ}:∀(M:List (κ×β)) (l:List MapEntry) (i:Nat),l.map (·.val)=(M.map (·.2)).map ve→((fndM q k (M.map (·.1)) l i).map (·.2))=(mget q k M).map ve
 | [],[],_,_=>rfl
 | [],_ :: _,_,h=>by simp at h
 | _ :: _,[],_,h=>by simp at h
 | p :: M,e :: l,i,h=>by
   simp only[List.map_cons,List.cons.injEq] at h;rw[List.map_cons,fndM,mget];cases hq:q k p.1
   ·simp only[Bool.false_eq_true,if_false];exact fnd_get M l (i+1) h.2
   simp[h.1]
def getV (ve:β→Value)(z:Value)(o:Option β):Value:=match o with | some b=>ve b | none=>z
theorem run_lookup_M {w:World}{B:Nat}{M:List (κ×β)}(h:MAt E ve w B M)(t e:TypeId)(ht:P.underlying t=some (.map K e))(z:Value)(hz:∀w,(zeroValue e).run P w=.ok z w)(k:κ)(ok:Bool):
 (Instr.lookup t (.map (some B)) (E.c k) ok).run P w=.ok (if ok then .tuple #[getV ve z (mget E.q k M),.bool (mget E.q k M).isSome] else getV ve z (mget E.q k M)) w:=by
 obtain⟨es,clock,h1,h2,h3,_⟩:=h;have hf:=E.find k (M.map (·.1)) es.toList w h2;have hg:=fnd_get (ve:=ve) (q:=E.q) (k:=k) M es.toList 0 h3;simp only[Instr.lookup,Sem.run_bind,run_underlying ht,Result.andThen_ok,Go.MapKept.run_getObj_map h1,Sem.run_pure,E.check,hf]
 generalize fndM E.q k (M.map (·.1)) es.toList 0=r at *
 cases r with
 | none =>
   cases hm:mget E.q k M with
   | none=>cases ok <;> simp[getV,hz]
   | some b=>rw[hm] at hg;simp at hg
 | some p =>
   cases hm:mget E.q k M with
   | none=>rw[hm] at hg;simp at hg
   | some b =>
     rw[hm] at hg;simp at hg;cases ok <;> simp[getV,hg]
theorem fnd_put {q:κ→κ→Bool}(qeq:∀a b,q a b=true↔a=b){c:κ→Value}{k:κ}{b:β}:∀(M:List (κ×β)) (l:List MapEntry) (s:Nat),l.map (·.key)=(M.map (·.1)).map c→l.map (·.val)=(M.map (·.2)).map ve →
 (fndM q k (M.map (·.1)) l s=none∧(mput q k b M)=M++[(k,b)])∨∃i v,fndM q k (M.map (·.1)) l s=some (s+i,v)∧∃hi:i<l.length,l[i].key=c k ∧
  (l.modify i (fun e=>{ e with key:=c k,val:=ve b })).map (·.key)=((mput q k b M).map (·.1)).map c∧(l.modify i (fun e=>{ e with key:=c k,val:=ve b })).map (·.val)=((mput q k b M).map (·.2)).map ve
 | [],[],_,_,_=>.inl ⟨rfl,rfl⟩
 | [],_ :: _,_,h,_=>by simp at h
 | _ :: _,[],_,h,_=>by simp at h
 | p :: M,e :: l,s,h,h'=>by
   simp only[List.map_cons,List.cons.injEq] at h h';rw[List.map_cons,fndM,mput];cases hq:q k p.1
   ·simp only[Bool.false_eq_true,if_false]
    rcases fnd_put qeq (c:=c) (k:=k) (b:=b) M l (s+1) h.2 h'.2 with ⟨h1,h2⟩ | ⟨i,v,h1,hi,h2,h3,h4⟩
    ·exact .inl ⟨h1,by rw[h2];rfl⟩
    refine .inr ⟨i+1,v,by rw[h1];congr 2;omega,by simp;omega,by simpa using h2,?_,?_⟩
    ·simp only[List.modify_succ_cons,List.map_cons,h.1,h3]
    simp only[List.modify_succ_cons,List.map_cons,h'.1,h4]
   simp only[if_true];have e1:=(qeq _ _).1 hq;refine .inr ⟨0,e.val,rfl,by simp,by simp[h.1,e1],?_,?_⟩
   ·simp[h.2]
   simp[h'.2]
theorem run_update_M {w:World}{B:Nat}{M:List (κ×β)}(h:MAt E ve w B M)(t e:TypeId)(ht:P.underlying t=some (.map K e))(k:κ)(b:β):
 ∃w',(Instr.mapUpdate t (.map (some B)) (E.c k) (ve b)).run P w=.ok () w'∧MAt E ve w' B (mput E.q k b M)∧w.grownBy w' (some B):=by
 have hlt:=h.lt;obtain⟨es,clock,h1,h2,h3,hst⟩:=h;have hf:=E.find k (M.map (·.1)) es.toList w h2;have hgr:∀o:Obj,w.grownBy { w with heap:=w.heap.setIfInBounds B o } (some B):=fun o=>⟨rfl,rfl,rfl,by simp,fun j _ hj=>by
  have:B≠j:=fun e=>hj (by rw[e])
  simp[Array.getElem?_setIfInBounds_ne this]⟩
 have hat:∀o:Obj,({ w with heap:=w.heap.setIfInBounds B o }:World).heap[B]?=some o:=fun o=>by simp[hlt]
 rcases fnd_put E.qeq (ve:=ve) (c:=E.c) (k:=k) (b:=b) M es.toList 0 h2 h3 with ⟨r1,r2⟩ | ⟨i,v,r1,hi,r2,r3,r4⟩
 ·rw[r1] at hf;refine⟨_,?_,⟨es.push { key:=E.c k,val:=ve b,born:=clock },clock+1,hat _,?_,?_,by simpa using sta_push hst⟩,hgr _⟩
  ·simp only[Instr.mapUpdate,Sem.run_bind,run_underlying ht,Result.andThen_ok,Go.MapKept.run_getObj_map h1,E.check,hf,Go.MapKept.run_setObj_map _ h1]
  ·rw[r2];simp[h2]
  rw[r2];simp[h3]
 rw[r1] at hf;have hk:((es[i]?).map (·.key)).getD (E.c k)=E.c k:=by
  have hi2:i<es.size:=by simpa using hi
  rw[Array.getElem?_eq_getElem hi2];simpa using r2
 refine⟨_,?_,⟨es.modify i fun e=>{ e with key:=E.c k,val:=ve b },clock,hat _,?_,?_,by have hbm:=born_modify (fun e:MapEntry=>{ e with key:=E.c k,val:=ve b }) (fun _=>rfl) es.toList i;rw[Array.toList_modify,hbm];exact hst⟩,hgr _⟩
 ·simp only[Instr.mapUpdate,Sem.run_bind,run_underlying ht,Result.andThen_ok,Go.MapKept.run_getObj_map h1,E.check,hf,Nat.zero_add,hk,Instr.keyThatStays,E.bits,if_true,Sem.run_pure,Go.MapKept.run_setObj_map _ h1]
 ·rw[Array.toList_modify];exact r3
 rw[Array.toList_modify];exact r4
theorem find_born {l:List MapEntry}:∀{j:Nat} {e0:MapEntry},(l.map (·.born)).Nodup→l[j]?=some e0→l.findIdx? (fun e=>((e.born:Nat):Int)==((e0.born:Nat):Int))=some j:=by
 induction l with
 | nil=>intro j e0 _ h;simp at h
 | cons a r ih =>
   intro j e0 hn h;simp only[List.map_cons,List.nodup_cons] at hn;cases j with
   | zero =>
     simp only[List.getElem?_cons_zero,Option.some.injEq] at h;subst h;simp[List.findIdx?_cons]
   | succ j =>
     simp only[List.getElem?_cons_succ] at h;have hne:¬a.born=e0.born:=fun e1=>hn.1 (List.mem_map.2 ⟨e0,List.mem_of_getElem? h,e1.symm⟩)
     have hb:(((a.born:Nat):Int)==((e0.born:Nat):Int))=false:=by
      simp only[beq_eq_false_iff_ne,ne_eq,Int.natCast_inj];exact hne
     rw[List.findIdx?_cons,hb];simp[ih hn.2 h]
theorem idx_toList (xs:Array MapEntry)(p:MapEntry→Bool):xs.findIdx? p=xs.toList.findIdx? p:=by
 cases xs;simp
theorem modify_end {α:Type}(f:α→α)(a:α):∀l:List α,(l++[a]).modify l.length f=l++[f a]
 | []=>rfl
 | b :: r=>by simp[List.modify_succ_cons,modify_end f a r]
theorem modify_at {α:Type}(f g:α→α):∀(l:List α) (i:Nat) (hi:i<l.length),f l[i]=g l[i]→l.modify i f=l.modify i g
 | a :: l,0,_,h=>by simpa using h
 | a :: l,i+1,hi,h=>by
   have:=modify_at f g l i (by simpa using hi) (by simpa using h);simp[List.modify_succ_cons,this]
theorem modify_id {α:Type}(f:α→α):∀(l:List α) (i:Nat) (hi:i<l.length),f l[i]=l[i]→l.modify i f=l
 | a :: l,0,_,h=>by simpa using h
 | a :: l,i+1,hi,h=>by
   have:=modify_id f l i (by simpa using hi) (by simpa using h);simp[List.modify_succ_cons,this]
theorem run_entry_M {w:World}{B:Nat}{M:List (κ×β)}(h:MAt E ve w B M)(t e:TypeId)(ht:P.underlying t=some (.map K e))(z:β)(hz:∀w,(zeroValue e).run P w=.ok (ve z) w)(k:κ):
 ∃ (v0:Value) (st:Nat) (w1:World),(Instr.mapEntry t (.map (some B)) (E.c k)).run P w=.ok (.tuple #[v0,.int i64 (st:Int)]) w1∧w.grownBy w1 (some B)∧MAt E ve w1 B (mput E.q k ((mget E.q k M).getD z) M) ∧
   ∀(w2:World) (b:β),w2.heap[B]?=w1.heap[B]?→∃w3,(Instr.entryStore t (.map (some B)) (.int i64 (st:Int)) (ve b)).run P w2=.ok () w3∧MAt E ve w3 B (mput E.q k b M)∧w2.grownBy w3 (some B):=by
 have hlt:=h.lt;obtain⟨es,clock,h1,h2,h3,hst⟩:=h;have hf:=E.find k (M.map (·.1)) es.toList w h2;have hgr:∀(w:World) (o:Obj),w.grownBy { w with heap:=w.heap.setIfInBounds B o } (some B):=fun w o=>⟨rfl,rfl,rfl,by simp,fun j _ hj=>by
  have:B≠j:=fun e=>hj (by rw[e])
  simp[Array.getElem?_setIfInBounds_ne this]⟩
 have hat:∀(w:World) (o o':Obj),w.heap[B]?=some o'→({ w with heap:=w.heap.setIfInBounds B o }:World).heap[B]?=some o:=fun w o o' hw=>by
  have hl:B<w.heap.size:=(Array.getElem?_eq_some_iff.1 hw).1;simp[hl]
 rcases fnd_put E.qeq (ve:=ve) (c:=E.c) (k:=k) (b:=z) M es.toList 0 h2 h3 with ⟨r1,r2⟩ | ⟨i,v,r1,hi,r2,r3,r4⟩
 ·rw[r1] at hf;have hno:mget E.q k M=none:=by
   have:=fnd_get (ve:=ve) (q:=E.q) (k:=k) M es.toList 0 h3;rw[r1] at this;cases hm:mget E.q k M with
   | none=>rfl
   | some b=>rw[hm] at this;simp at this
  have hput:∀b,mput E.q k b M=M++[(k,b)]:=fun b=>by
   rcases fnd_put E.qeq (ve:=ve) (c:=E.c) (k:=k) (b:=b) M es.toList 0 h2 h3 with ⟨_,r⟩ | ⟨i,v,q1,_⟩
   ·exact r
   rw[r1] at q1;cases q1
  refine⟨ve z,clock,{ w with heap:=w.heap.setIfInBounds B (.map (es.push { key:=E.c k,val:=ve z,born:=clock }) (clock+1)) },?_,hgr _ _,⟨_,_,hat _ _ _ h1,?_,?_,by simpa using sta_push hst⟩,fun w2 b hw2=>?_⟩
  ·simp only[Instr.mapEntry,Sem.run_bind,run_underlying ht,Result.andThen_ok,Go.MapKept.run_getObj_map h1,E.check,hf,hz,Go.MapKept.run_setObj_map _ h1,Sem.run_pure];rfl
  ·rw[hno,hput];simp[h2]
  ·rw[hno,hput];simp[h3]
  rw[hat _ _ _ h1] at hw2;have hidx:(es.push { key:=E.c k,val:=ve z,born:=clock }).findIdx? (fun e=>((e.born:Nat):Int)==((clock:Nat):Int))=some es.size:=by
   rw[idx_toList];exact find_born (l:=(es.push { key:=E.c k,val:=ve z,born:=clock }).toList) (j:=es.size) (e0:={ key:=E.c k,val:=ve z,born:=clock }) (by simpa using (sta_push hst).2) (by simp)
  have hmod:(es.push { key:=E.c k,val:=ve z,born:=clock }).modify es.size (fun e=>{ e with val:=ve b })=es.push { key:=E.c k,val:=ve b,born:=clock }:=by
   apply Array.ext'
   rw[Array.toList_modify,Array.toList_push,Array.toList_push,←Array.length_toList,modify_end]
  refine⟨{ w2 with heap:=w2.heap.setIfInBounds B (.map (es.push { key:=E.c k,val:=ve b,born:=clock }) (clock+1)) },?_,⟨_,_,hat _ _ _ hw2,?_,?_,by simpa using sta_push hst⟩,hgr _ _⟩
  ·simp[Instr.entryStore,Go.MapKept.run_getObj_map hw2,asInt,asIntOf,hidx,hmod,Go.MapKept.run_setObj_map _ hw2,Result.andThen]
  ·rw[hput];simp[h2]
  rw[hput];simp[h3]
 rw[r1] at hf;simp only[Nat.zero_add] at hf r1;have hi2:i<es.size:=by simpa using hi
 have hie:es[i]?=some es[i]:=Array.getElem?_eq_getElem hi2;have hil:es.toList[i]?=some es[i]:=by simp[hi2]
 have hkey:es[i].key=E.c k:=by simpa using r2
 have hget:∃b0,mget E.q k M=some b0∧ve b0=v:=by
  have:=fnd_get (ve:=ve) (q:=E.q) (k:=k) M es.toList 0 h3;rw[r1] at this;cases hm:mget E.q k M with
  | none=>rw[hm] at this;simp at this
  | some b=>rw[hm] at this;simp at this;exact⟨b,rfl,this.symm⟩
 obtain⟨b0,hb0,hv⟩:=hget;have hsame:es.modify i (fun e=>{ e with key:=E.c k })=es:=by
  apply Array.ext'
  rw[Array.toList_modify];refine modify_id _ _ i hi ?_;have:es.toList[i].key=E.c k:=r2;rw[←this]
 have hall:∀b,(es.toList.modify i (fun e=>{ e with key:=E.c k,val:=ve b })).map (·.key)=((mput E.q k b M).map (·.1)).map E.c∧(es.toList.modify i (fun e=>{ e with key:=E.c k,val:=ve b })).map (·.val)=((mput E.q k b M).map (·.2)).map ve:=fun b=>by
  rcases fnd_put E.qeq (ve:=ve) (c:=E.c) (k:=k) (b:=b) M es.toList 0 h2 h3 with ⟨q1,_⟩ | ⟨j,v',q1,_,_,q3,q4⟩
  ·rw[r1] at q1;cases q1
  rw[r1] at q1;simp only[Option.some.injEq,Prod.mk.injEq,Nat.zero_add] at q1;obtain⟨rfl,_⟩:=q1;exact⟨q3,q4⟩
 have hold:mput E.q k b0 M=M:=by
  have hput:∀(M:List (κ×β)),mget E.q k M=some b0→mput E.q k b0 M=M:=by
   intro M
   induction M with
   | nil=>intro h;cases h
   | cons p M ih =>
     intro h;rw[mget] at h;rw[mput];by_cases e:E.q k p.1=true
     ·rw[if_pos e] at h ⊢;have e1:=(E.qeq _ _).1 e;simp at h;subst h;subst e1;rfl
     rw[if_neg e] at h ⊢;rw[ih h]
  exact hput M hb0
 refine⟨v,es[i].born,w,?_,⟨rfl,rfl,rfl,nLQ _,fun _ _ _=>rfl⟩,⟨es,clock,h1,?_,?_,hst⟩,fun w2 b hw2=>?_⟩
 ·have hrefl:({ w with heap:=w.heap.setIfInBounds B (.map es clock) }:World)=w:=by
   have:w.heap.setIfInBounds B (.map es clock)=w.heap:=by
    apply Array.ext_getElem?
    intro j;by_cases e:B=j
    ·subst e;exact (hat w (.map es clock) _ h1).trans h1.symm
    simp[Array.getElem?_setIfInBounds_ne e]
   rw[this]
  simp only[Instr.mapEntry,Sem.run_bind,run_underlying ht,Result.andThen_ok,Go.MapKept.run_getObj_map h1,E.check,hf,hie,Option.map_some,Option.getD_some,hkey,Instr.keyThatStays,E.bits,if_true,Sem.run_pure,hsame,Go.MapKept.run_setObj_map _ h1];rw[hrefl];rfl
 ·rw[hb0,Option.getD_some,hold];exact h2
 ·rw[hb0,Option.getD_some,hold];exact h3
 rw[h1] at hw2;have hidx:es.findIdx? (fun e=>((e.born:Nat):Int)==((es[i].born:Nat):Int))=some i:=by
  rw[idx_toList];exact find_born hst.2 hil
 have hmod:es.modify i (fun e=>{ e with val:=ve b })=es.modify i (fun e=>{ e with key:=E.c k,val:=ve b }):=by
  apply Array.ext'
  rw[Array.toList_modify,Array.toList_modify];refine modify_at _ _ _ i hi ?_;have:es.toList[i].key=E.c k:=r2;rw[←this]
 refine⟨{ w2 with heap:=w2.heap.setIfInBounds B (.map (es.modify i (fun e=>{ e with key:=E.c k,val:=ve b })) clock) },?_,⟨_,_,hat _ _ _ hw2,?_,?_,by have hbm:=born_modify (fun e:MapEntry=>{ e with key:=E.c k,val:=ve b }) (fun _=>rfl) es.toList i;rw[Array.toList_modify,hbm];exact hst⟩,hgr _ _⟩
 ·simp[Instr.entryStore,Go.MapKept.run_getObj_map hw2,asInt,asIntOf,hidx,hmod,Go.MapKept.run_setObj_map _ hw2,Result.andThen]
 ·rw[Array.toList_modify];exact (hall b).1
 rw[Array.toList_modify];exact (hall b).2
variable {w:World}{ops:Array Oper}{rest:List Oper}{o:Oper}{a:Act}{Q:Exit→Act→World→Prop}
end
theorem ba_eq {a b:ByteArray}:(a==b)=true↔a=b:=by
 obtain⟨x⟩:=a;obtain⟨y⟩:=b;show (x==y)=true↔_;simp
def spB (S:Int)(x:Int×Int):Bool:=decide (1≤x.1)&&(decide (x.1≤S)&&(decide (1≤x.2)&&decide (x.2≤4)))
def nmB (s:ByteArray):Bool:=decide (1≤s.size)&&(decide (s.size≤6)&&s.data.toList.all fun c=>decide (97≤c.toNat)&&decide (c.toNat≤122))
def spsL (Ls:LkQ):List (Int×Int):=Ls.flatMap fun l=>[l.1,l.2]
def lkN (S:Int):LkQ→List (Int×Int)→Int
 | [],_=>0
 | l :: Ls,U=>if spB S l.1&&spB S l.2 then (if l.1==l.2 || (U.any fun u=>u==l.1 || u==l.2) then 7 else lkN S Ls (U++[l.1,l.2])) else 1
def hoN (S:Int):HoQ→List ByteArray→List (Int×Int)→Int
 | [],_,_=>0
 | h :: Hs,N,U=>if nmB h.1 then (if spB S h.2 then (if (N.any fun n=>n==h.1) || (U.any fun u=>u==h.2) then 7 else hoN S Hs (N++[h.1]) (U++[h.2])) else 1) else 2
def tpN (S:Int)(Ls:LkQ)(Hs:HoQ):Int:=
 if decide (1≤S)&&decide (S≤6) then (if decide (Ls.length≤200)&&decide (Hs.length≤8) then (if lkN S Ls []=0 then hoN S Hs [] (spsL Ls) else lkN S Ls []) else 4) else 1
def peerO:LkQ→(Int×Int)→Option (Int×Int)
 | [],_=>none
 | l :: Ls,s=>if l.1==s then some l.2 else if l.2==s then some l.1 else peerO Ls s
def atO:HoQ→(Int×Int)→Option ByteArray
 | [],_=>none
 | h :: Hs,s=>if h.2==s then some h.1 else atO Hs s
theorem sp_of {S:Int}{x:Int×Int}(h:spB S x=true):1≤x.1∧x.1≤S∧1≤x.2∧x.2≤4:=by
 simpa[spB] using h
theorem lk_0 {S:Int}:∀{Ls:LkQ} {U:List (Int×Int)},U.Nodup→(lkN S Ls U=0↔(∀x∈spsL Ls,spB S x=true)∧(U++spsL Ls).Nodup)
 | [],U,hU=>by simp[lkN,spsL,hU]
 | l :: Ls,U,hU=>by
   obtain⟨x,y⟩:=l;have e:spsL ((x,y) :: Ls)=x :: y :: spsL Ls:=rfl;rw[lkN,e];simp only;by_cases h1:spB S x&&spB S y
   ·rw[if_pos h1];simp only[Bool.and_eq_true] at h1;by_cases h2:(x==y || (U.any fun u=>u==x || u==y))=true
    ·rw[if_pos h2];refine⟨fun h=>absurd h (by decide),fun h=>?_⟩
     exfalso
     have hn:=h.2;rw[List.nodup_append] at hn;obtain⟨_,h3,h4⟩:=hn;simp only[Bool.or_eq_true,beq_iff_eq,List.any_eq_true] at h2
     rcases h2 with h2 | ⟨u,hu,h2 | h2⟩
     ·subst h2;rw[List.nodup_cons] at h3;exact h3.1 (by simp)
     ·exact h4 u hu x (by simp) h2
     exact h4 u hu y (by simp) h2
    rw[if_neg h2];simp only[Bool.or_eq_true,beq_iff_eq,List.any_eq_true,not_or,not_exists,not_and] at h2;have hU2:(U++[x,y]).Nodup:=by
     rw[List.nodup_append];refine⟨hU,by simp[h2.1],?_⟩;intro a ha b hb e;subst e;simp only[List.mem_cons,List.not_mem_nil,or_false] at hb;have:=h2.2 a ha
     rcases hb with rfl | rfl
     ·exact this.1 rfl
     exact this.2 rfl
    rw[lk_0 hU2];have e2:U++[x,y]++spsL Ls=U++x :: y :: spsL Ls:=by simp
    rw[e2];refine and_congr ⟨fun h=>?_,fun h z hz=>h z (by simp[hz])⟩ Iff.rfl;intro z hz;simp only[List.mem_cons] at hz
    rcases hz with rfl | rfl | hz
    ·exact h1.1
    ·exact h1.2
    exact h z hz
   rw[if_neg h1];refine⟨fun h=>absurd h (by decide),fun h=>?_⟩;exact absurd (by simp[h.1 x (by simp),h.1 y (by simp)]) h1
theorem ho_0 {S:Int}:∀{Hs:HoQ} {N:List ByteArray} {U:List (Int×Int)},N.Nodup→U.Nodup→(hoN S Hs N U=0↔(∀h∈Hs,nmB h.1=true∧spB S h.2=true)∧(N++Hs.map (·.1)).Nodup∧(U++Hs.map (·.2)).Nodup)
 | [],N,U,hN,hU=>by simp[hoN,hN,hU]
 | h :: Hs,N,U,hN,hU=>by
   obtain⟨n,x⟩:=h;rw[hoN];simp only[List.map_cons];by_cases h1:nmB n=true
   ·rw[if_pos h1];by_cases h2:spB S x=true
    ·rw[if_pos h2];by_cases h3:((N.any fun m=>m==n) || (U.any fun u=>u==x))=true
     ·rw[if_pos h3];refine⟨fun h=>absurd h (by decide),fun h=>?_⟩
      exfalso
      simp only[Bool.or_eq_true,ba_eq,beq_iff_eq,List.any_eq_true] at h3
      rcases h3 with ⟨m,hm,e⟩ | ⟨u,hu,e⟩
      ·have:=(List.nodup_append.1 h.2.1).2.2;exact this m hm n (by simp) e
      have:=(List.nodup_append.1 h.2.2).2.2;exact this u hu x (by simp) e
     rw[if_neg h3];simp only[Bool.or_eq_true,ba_eq,beq_iff_eq,List.any_eq_true,not_or,not_exists,not_and] at h3;have hN2:(N++[n]).Nodup:=by
      rw[List.nodup_append];refine⟨hN,by simp,fun a ha b hb e=>?_⟩;simp only[List.mem_singleton] at hb;subst hb;exact h3.1 a ha e
     have hU2:(U++[x]).Nodup:=by
      rw[List.nodup_append];refine⟨hU,by simp,fun a ha b hb e=>?_⟩;simp only[List.mem_singleton] at hb;subst hb;exact h3.2 a ha e
     rw[ho_0 hN2 hU2];have e1:N++[n]++Hs.map (·.1)=N++n :: Hs.map (·.1):=by simp
     have e2:U++[x]++Hs.map (·.2)=U++x :: Hs.map (·.2):=by simp
     rw[e1,e2];refine and_congr ⟨fun h z hz=>?_,fun h z hz=>h z (by simp[hz])⟩ Iff.rfl
     rcases List.mem_cons.1 hz with rfl | hz
     ·exact⟨h1,h2⟩
     exact h z hz
    rw[if_neg h2];refine⟨fun h=>absurd h (by decide),fun h=>?_⟩;exact absurd (h.1 (n,x) (by simp)).2 h2
   rw[if_neg h1];refine⟨fun h=>absurd h (by decide),fun h=>?_⟩;exact absurd (h.1 (n,x) (by simp)).1 h1
theorem tp_0 {S:Int}{Ls:LkQ}{Hs:HoQ}(h:tpN S Ls Hs=0):
 (1≤S∧S≤6)∧(Ls.length≤200∧Hs.length≤8)∧(∀x∈spsL Ls,spB S x=true)∧(spsL Ls).Nodup∧(∀h∈Hs,nmB h.1=true∧spB S h.2=true)∧(Hs.map (·.1)).Nodup∧(spsL Ls++Hs.map (·.2)).Nodup:=by
 unfold tpN at h;by_cases h1:(decide (1≤S)&&decide (S≤6))=true
 ·rw[if_pos h1] at h;by_cases h2:(decide (Ls.length≤200)&&decide (Hs.length≤8))=true
  ·rw[if_pos h2] at h;by_cases h3:lkN S Ls []=0
   ·rw[if_pos h3] at h;have h4:=(lk_0 (S:=S) (Ls:=Ls) (U:=[]) List.nodup_nil).1 h3;simp only[List.nil_append] at h4;have h5:=(ho_0 (S:=S) (Hs:=Hs) (N:=[]) (U:=spsL Ls) List.nodup_nil h4.2).1 h;simp only[List.nil_append] at h5;simp only[Bool.and_eq_true,decide_eq_true_eq] at h1 h2;exact⟨h1,h2,h4.1,h4.2,h5.1,h5.2.1,h5.2.2⟩
   rw[if_neg h3] at h;exact absurd h h3
  rw[if_neg h2] at h;exact absurd h (by decide)
 rw[if_neg h1] at h;exact absurd h (by decide)
theorem peer_in:∀{Ls:LkQ} {s p:Int×Int},peerO Ls s=some p→s∈spsL Ls∧p∈spsL Ls
 | [],_,_,h=>by cases h
 | l :: Ls,s,p,h=>by
   obtain⟨x,y⟩:=l;have e:spsL ((x,y) :: Ls)=x :: y :: spsL Ls:=rfl;rw[peerO] at h;rw[e];by_cases h1:x=s
   ·subst h1;simp at h;subst h;simp
   by_cases h2:y=s
   ·subst h2;simp[h1] at h;subst h;simp
   simp[h1,h2] at h;have:=peer_in h;simp[this.1,this.2]
structure But (X:List Nat)(w w':World):Prop where
 os:w'.os=w.os
 tape:w'.tape=w.tape
 output:w'.output=w.output
 size:w.heap.size≤w'.heap.size
 block:∀k,k<w.heap.size→k ∉ X→w'.heap[k]?=w.heap[k]?
theorem But.refl (X:List Nat)(w:World):But X w w:=⟨rfl,rfl,rfl,nLQ _,fun _ _ _=>rfl⟩
theorem But.trans {X:List Nat}{a b c:World}(h:But X a b)(k:But X b c):But X a c:=
 ⟨k.os.trans h.os,k.tape.trans h.tape,k.output.trans h.output,Nat.le_trans h.size k.size,fun i hi hx=>(k.block i (Nat.lt_of_lt_of_le hi h.size) hx).trans (h.block i hi hx)⟩
theorem But.drew {X:List Nat}{a w:World}(h:But X a w):But X a w.drew:=⟨h.os,h.tape,h.output,h.size,h.block⟩
theorem wrap_small {x:Int}(h1 : -1000000≤x)(h2:x≤1000000):IntKind.i64.wrap x=x:=by
 rw[IntKind.wrap_i64];omega
theorem But.of_below {X:List Nat}{w w':World}(h:Below w.heap.size w w'):But X w w':=⟨h.os,h.tape,h.output,h.size,fun k hk _=>h.block k hk⟩
theorem But.of_grown {X:List Nat}{w w':World}{B:Nat}(h:w.grownBy w' (some B))(hB:B∈X):But X w w':=
 ⟨h.os,h.tape,h.output,h.size,fun k hk hx=>h.block k hk (fun e=>hx (by cases e;exact hB))⟩
theorem But.mono {X Y:List Nat}{w w':World}(h:But X w w')(hX:∀x∈X,x∈Y):But Y w w':=⟨h.os,h.tape,h.output,h.size,fun k hk hx=>h.block k hk (fun e=>hx (hX k e))⟩
theorem But.below {X:List Nat}{w w':World}{B:Nat}(h:But X w w')(hB:B≤w.heap.size)(hX:∀x∈X,B≤x):Below B w w':=
 ⟨h.os,h.tape,h.output,h.size,fun k hk=>h.block k (by omega) (fun e=>by have:=hX k e;omega)⟩
theorem But.cell {X:List Nat}{w w':World}(h:But X w w'){p:Addr}(hl:p.block<w.heap.size)(hX:p.block ∉ X):w'.cell? p=w.cell? p:=World.cell?_of_block (w:=w) (h.block p.block hl hX)
section
variable {P:Program}{K:TypeId}{κ β:Type}{E:KeyE P K κ}{ve:β→Value}
theorem MAt.but {X:List Nat}{w w':World}{B:Nat}{M:List (κ×β)}(h:MAt E ve w B M)(hb:But X w w')(hX:B ∉ X):MAt E ve w' B M:=by
 have hlt:=h.lt;obtain⟨es,clock,h1,h2⟩:=h;exact⟨es,clock,(hb.block B hlt hX).trans h1,h2⟩
end
section
variable {κ:Type}
def ctM (q:κ→κ→Bool)(x:κ)(U:List κ):Nat:=(U.filter fun y=>q x y).length
theorem ct_app {q:κ→κ→Bool}(x:κ)(U V:List κ):ctM q x (U++V)=ctM q x U+ctM q x V:=by simp[ctM]
theorem ct_le {q:κ→κ→Bool}(x:κ)(U:List κ):ctM q x U≤U.length:=List.length_filter_le _ _
theorem ct_pos {q:κ→κ→Bool}(hq:∀a b,q a b=true↔a=b)(x:κ)(U:List κ):0<ctM q x U↔x∈U:=by
 unfold ctM;rw[List.length_pos_iff_exists_mem];simp only[List.mem_filter,hq];exact⟨fun ⟨y,h1,h2⟩=>h2 ▸ h1,fun h=>⟨x,h,rfl⟩⟩
def TK (q:κ→κ→Bool)(M:List (κ×Int))(U:List κ):Prop:=∀s,(mget q s M).getD 0=(ctM q s U:Int)
theorem tk_nil (q:κ→κ→Bool):TK q [] []:=fun s=>rfl
theorem tk_put {q:κ→κ→Bool}(hq:∀a b,q a b=true↔a=b){M:List (κ×Int)}{U:List κ}(h:TK q M U)(x:κ):TK q (mput q x ((ctM q x U:Int)+1) M) (U++[x]):=by
 intro s;rw[mget_put hq,ct_app];by_cases e:q s x=true
 ·rw[if_pos e];have e2:=(hq _ _).1 e;subst e2;have:ctM q s [s]=1:=by simp[ctM,e]
  rw[this];simp
 rw[if_neg e,h s];have:ctM q s [x]=0:=by simp[ctM,e]
 rw[this];simp
theorem ct_one {q:κ→κ→Bool}(hq:∀a b,q a b=true↔a=b)(x y:κ):ctM q x [y]=if q x y then 1 else 0:=by
 cases h:q x y <;> simp[ctM,h]
end
def sq (a b:Int×Int):Bool:=a.1==b.1&&a.2==b.2
theorem sq_iff (a b:Int×Int):sq a b=true↔a=b:=by
 obtain⟨x,y⟩:=a;obtain⟨z,v⟩:=b;simp[sq]
def lk1 (S:Int)(U:List (Int×Int))(l:(Int×Int)×(Int×Int)):Int:=if spB S l.1&&spB S l.2 then (if l.1==l.2 || (U.any fun u=>u==l.1 || u==l.2) then 7 else 0) else 1
theorem lk_step (S:Int)(l:(Int×Int)×(Int×Int))(Ls:LkQ)(U:List (Int×Int)):lkN S (l :: Ls) U=if lk1 S U l=0 then lkN S Ls (U++[l.1,l.2]) else lk1 S U l:=by
 rw[lkN,lk1];by_cases h1:(spB S l.1&&spB S l.2)=true
 ·rw[if_pos h1,if_pos h1];by_cases h2:(l.1==l.2 || (U.any fun u=>u==l.1 || u==l.2))=true
  ·rw[if_pos h2,if_pos h2];rfl
  rw[if_neg h2,if_neg h2];rfl
 rw[if_neg h1,if_neg h1];rfl
def ho1 (S:Int)(N:List ByteArray)(U:List (Int×Int))(h:ByteArray×(Int×Int)):Int:=if nmB h.1 then (if spB S h.2 then (if (N.any fun n=>n==h.1) || (U.any fun u=>u==h.2) then 7 else 0) else 1) else 2
theorem ho_step (S:Int)(h:ByteArray×(Int×Int))(Hs:HoQ)(N:List ByteArray)(U:List (Int×Int)):hoN S (h :: Hs) N U=if ho1 S N U h=0 then hoN S Hs (N++[h.1]) (U++[h.2]) else ho1 S N U h:=by
 rw[hoN,ho1];by_cases h1:nmB h.1=true
 ·rw[if_pos h1,if_pos h1];by_cases h2:spB S h.2=true
  ·rw[if_pos h2,if_pos h2];by_cases h3:((N.any fun n=>n==h.1) || (U.any fun u=>u==h.2))=true
   ·rw[if_pos h3,if_pos h3];rfl
   rw[if_neg h3,if_neg h3];rfl
  rw[if_neg h2,if_neg h2];rfl
 rw[if_neg h1,if_neg h1];rfl
theorem ct_link (U:List (Int×Int))(x y:Int×Int):(decide ((1:Int)<(ctM sq x (U++[x]++[y]):Int)) || decide ((1:Int)<(ctM sq y (U++[x]++[y]):Int)))=(x==y || (U.any fun u=>u==x || u==y)):=by
 rw[Bool.eq_iff_iff];simp only[ct_app,ct_one sq_iff,Bool.or_eq_true,decide_eq_true_eq,beq_iff_eq,List.any_eq_true];have hx:=ct_pos sq_iff x U;have hy:=ct_pos sq_iff y U;have sx:sq x x=true:=(sq_iff _ _).2 rfl;have sy:sq y y=true:=(sq_iff _ _).2 rfl;rw[sx,sy];simp only[if_true];by_cases e:x=y
 ·subst e;simp[sx];omega
 have n1:sq x y=false:=by
  cases h:sq x y
  ·rfl
  exact absurd ((sq_iff _ _).1 h) e
 have n2:sq y x=false:=by
  cases h:sq y x
  ·rfl
  exact absurd ((sq_iff _ _).1 h).symm e
 rw[n1,n2];simp only[Bool.false_eq_true,if_false,e,false_or];constructor
 ·rintro (h | h)
  ·exact⟨x,hx.1 (by omega),.inl rfl⟩
  exact⟨y,hy.1 (by omega),.inr rfl⟩
 rintro⟨u,hu,rfl | rfl⟩
 ·have:=hx.2 hu;left;omega
 have:=hy.2 hu;right;omega
theorem ba_iff (a b:ByteArray):(a==b)=true↔a=b:=ba_eq
theorem ct_host {κ:Type}{q:κ→κ→Bool}(hq:∀a b,q a b=true↔a=b)(U:List κ)(x:κ):decide ((1:Int)<(ctM q x (U++[x]):Int))=(U.any fun u=>q u x):=by
 rw[Bool.eq_iff_iff];simp only[ct_app,ct_one hq,decide_eq_true_eq,List.any_eq_true];have hx:=ct_pos hq x U;have sx:q x x=true:=(hq _ _).2 rfl;rw[sx];simp only[if_true];constructor
 ·intro h;exact⟨x,hx.1 (by omega),sx⟩
 rintro⟨u,hu,e⟩;have e2:=(hq _ _).1 e;subst e2;have:=hx.2 hu;omega
theorem sps_take {Ls:LkQ}{k:Nat}(hk:k<Ls.length):spsL (Ls.take (k+1))=spsL (Ls.take k)++[Ls[k].1,Ls[k].2]:=by
 rw[List.take_succ_eq_append_getElem hk];unfold spsL;rw[List.flatMap_append];rfl
theorem sps_len (Ls:LkQ):(spsL Ls).length=2*Ls.length:=by
 induction Ls with
 | nil=>rfl
 | cons l Ls ih =>
   have e:spsL (l :: Ls)=l.1 :: l.2 :: spsL Ls:=rfl;rw[e];simp[ih];omega
def qI (a b:Int):Bool:=a==b
theorem qI_iff (a b:Int):qI a b=true↔a=b:=by simp[qI]
section
variable {κ β:Type}{q:κ→κ→Bool}
end
section
variable {S:Nat}{J:Nat→Nat→Bool}{a:Nat}
end
theorem at_ix (Hs:HoQ)(s:Int×Int):(ixG (fun h=>sq h.2 s) Hs = -1∧atO Hs s=none)∨∃(k:Nat) (hk:k<Hs.length),ixG (fun h=>sq h.2 s) Hs=k∧atO Hs s=some Hs[k].1:=by
 induction Hs with
 | nil=>exact .inl ⟨rfl,rfl⟩
 | cons h Hs ih =>
   rw[atO];by_cases e:sq h.2 s=true
   ·refine .inr ⟨0,by simp,?_,?_⟩
    ·exact ixG_hit (L:=h :: Hs) (k:=0) (by simp) (by simp) e
    have e2:=(sq_iff _ _).1 e;rw[if_pos (by rw[e2];exact beq_self_eq_true _)];rfl
   have en:¬(h.2==s)=true:=fun h2=>e ((sq_iff _ _).2 (by simpa using h2))
   rw[if_neg en];have ef:sq h.2 s=false:=by simpa using e
   rcases ih with ⟨h1,h2⟩ | ⟨k,hk,h1,h2⟩
   ·refine .inl ⟨?_,h2⟩;unfold ixG at h1 ⊢;rw[List.any_cons,ef,Bool.false_or];cases ha:Hs.any fun h=>sq h.2 s
    ·rfl
    rw[ha,if_pos rfl] at h1;omega
   refine .inr ⟨k+1,by simp;omega,?_,by simpa using h2⟩;unfold ixG at h1 ⊢;rw[List.any_cons,ef,Bool.false_or];cases ha:Hs.any fun h=>sq h.2 s
   ·rw[ha] at h1;simp at h1
   rw[ha,if_pos rfl] at h1;rw[if_pos rfl,List.findIdx_cons,ef];simp;omega
def atN (Hs:HoQ)(s:Int×Int):Int:=ixG (fun h=>sq h.2 s) Hs
def whN (Hs:HoQ)(n:ByteArray):Int:=ixG (fun h=>h.1==n) Hs
theorem peer_app (l:(Int×Int)×(Int×Int))(s:Int×Int):∀Ls:LkQ,peerO (Ls++[l]) s=match peerO Ls s with | some p=>some p | none=>if l.1==s then some l.2 else if l.2==s then some l.1 else none
 | []=>by simp[peerO]
 | x :: Ls=>by
   rw[List.cons_append,peerO,peerO];by_cases h1:(x.1==s)=true
   ·rw[if_pos h1,if_pos h1]
   rw[if_neg h1,if_neg h1];by_cases h2:(x.2==s)=true
   ·rw[if_pos h2,if_pos h2]
   rw[if_neg h2,if_neg h2];exact peer_app l s Ls
def PM (M Ls:LkQ):Prop:=∀s,mget sq s M=peerO Ls s
theorem pm_nil:PM [] []:=fun s=>rfl
theorem pm_put {M Ls:LkQ}{x y:Int×Int}(h:PM M Ls)(hd:(spsL (Ls++[(x,y)])).Nodup):PM (mput sq y x (mput sq x y M)) (Ls++[(x,y)]):=by
 have e:spsL (Ls++[(x,y)])=spsL Ls++[x,y]:=by simp[spsL]
 rw[e,List.nodup_append] at hd;obtain⟨_,h2,h3⟩:=hd;have hxy:¬x=y:=by simpa using h2
 have hno:∀z,z=x∨z=y→peerO Ls z=none:=by
  intro z hz;cases hp:peerO Ls z with
  | none=>rfl
  | some p=>exact absurd rfl (h3 z (peer_in hp).1 z (by rcases hz with rfl | rfl <;> simp))
 intro s;rw[mget_put sq_iff,mget_put sq_iff,peer_app];by_cases e1:s=y
 ·subst e1;rw[if_pos ((sq_iff _ _).2 rfl),hno s (.inr rfl)];simp[hxy]
 rw[if_neg (fun e=>e1 ((sq_iff _ _).1 e))];by_cases e2:s=x
 ·subst e2;rw[if_pos ((sq_iff _ _).2 rfl),hno s (.inl rfl)];simp
 rw[if_neg (fun e=>e2 ((sq_iff _ _).1 e)),h s];cases hp:peerO Ls s with
 | some p=>rfl
 | none =>
   have n1:¬x=s:=fun e=>e2 e.symm
   have n2:¬y=s:=fun e=>e1 e.symm
   simp[n1,n2]
theorem sps_app (Ls Ms:LkQ):spsL (Ls++Ms)=spsL Ls++spsL Ms:=by simp[spsL]
theorem sps_nd {Ls:LkQ}(h:(spsL Ls).Nodup)(k:Nat):(spsL (Ls.take k)).Nodup:=by
 have e:Ls=Ls.take k++Ls.drop k:=(List.take_append_drop k Ls).symm;rw[e,sps_app,List.nodup_append] at h;exact h.1
def swB (S a:Int):Bool:=decide (1≤a)&&decide (a≤S)
theorem sw_of {S a:Int}:swB S a=true↔1≤a∧a≤S:=by simp[swB]
def tsTo (Ts:TsQ):Nat→Int
 | 0=>0
 | k+1=>if tsTo Ts k=0 then tbN (Ts.getD k []) else tsTo Ts k
theorem ts_le {Ts:TsQ}{k:Nat}(h:tsTo Ts k≠0):∀{n:Nat},k≤n→tsTo Ts n=tsTo Ts k
 | 0,hn=>by
   obtain rfl:k=0:=by omega
   rfl
 | n+1,hn=>by
   by_cases e:k=n+1
   ·subst e;rfl
   have:=ts_le h (show k≤n by omega);rw[tsTo,if_neg (by rw[this];exact h),this]
def ntN (S:Int)(Ls:LkQ)(Hs:HoQ)(Ts:TsQ):Int:=
 if tpN S Ls Hs=0 then (if (Ts.length:Int)=S then tsTo Ts Ts.length else 3) else tpN S Ls Hs
theorem ts_0 {Ts:TsQ}:∀{n:Nat},tsTo Ts n=0→∀k,k<n→tbN (Ts.getD k [])=0
 | 0,_,k,hk=>by omega
 | n+1,h,k,hk=>by
   unfold tsTo at h;by_cases e:tsTo Ts n=0
   ·rw[if_pos e] at h;by_cases ek:k=n
    ·subst ek;exact h
    exact ts_0 e k (by omega)
   rw[if_neg e] at h;exact absurd h e
theorem nt_0 {S:Int}{Ls:LkQ}{Hs:HoQ}{Ts:TsQ}(h:ntN S Ls Hs Ts=0):tpN S Ls Hs=0∧(Ts.length:Int)=S∧∀k,k<Ts.length→tbN (Ts.getD k [])=0:=by
 unfold ntN at h;by_cases e:tpN S Ls Hs=0
 ·rw[if_pos e] at h;by_cases e2:(Ts.length:Int)=S
  ·rw[if_pos e2] at h;exact⟨e,e2,ts_0 h⟩
  rw[if_neg e2] at h;omega
 rw[if_neg e] at h;exact absurd h e
def cpN (S:Int)(Ls:LkQ)(Hs:HoQ)(Ts:TsQ)(s:Int×Int)(h:Int):Int:=
 if ntN S Ls Hs Ts=0 then (if spB S s&&hdrB h then 0 else 1) else ntN S Ls Hs Ts
theorem cp_0 {S:Int}{Ls:LkQ}{Hs:HoQ}{Ts:TsQ}{s:Int×Int}{h:Int}(e:cpN S Ls Hs Ts s h=0):ntN S Ls Hs Ts=0∧spB S s=true∧hdrB h=true:=by
 unfold cpN at e;by_cases e1:ntN S Ls Hs Ts=0
 ·rw[if_pos e1] at e;cases e2:spB S s&&hdrB h
  ·rw[e2] at e;simp at e
  rw[Bool.and_eq_true] at e2;exact⟨e1,e2.1,e2.2⟩
 rw[if_neg e1] at e;exact absurd e e1
def roR (t:List Ru)(h:Int):Ru:=t.getD (luI t h).toNat zeR
def Ru.apN (r:Ru)(h:Int):Int:=Proofs.YtiokpmlhmlcojaaGreatDoor.apN r.p r.m r.b r.o r.s r.v h
def Ru.apR (r:Ru)(h:Int):Int:=Proofs.YtiokpmlhmlcojaaGreatDoor.apR r.p r.m r.b r.o r.s r.v h
def stT (t:List Ru)(p:(Int×Int)×Int):Option ((Int×Int)×Int):=
 if luN t p.2=0 then (if (roR t p.2).apN p.2=0 then some ((p.1.1,(roR t p.2).o),(roR t p.2).apR p.2) else none) else none
def taT (Ts:TsQ)(s:Int):List Ru:=Ts.getD (s-1).toNat []
def stO (Ts:TsQ)(p:(Int×Int)×Int):Option ((Int×Int)×Int):=stT (taT Ts p.1.1) p
def heB (a b:(Int×Int)×Int):Bool:=(a.1.1==b.1.1)&&((a.1.2==b.1.2)&&((a.2==b.2)))
theorem heB_iff (a b:(Int×Int)×Int):heB a b=true↔a=b:=by
 obtain⟨⟨a1,a2⟩,a3⟩:=a;obtain⟨⟨b1,b2⟩,b3⟩:=b;simp[heB,and_assoc]
def goE (Ls:LkQ)(Hs:HoQ)(t:List Ru)(l:HpQ)(p:(Int×Int)×Int):(Int×ByteArray) ⊕ ((Int×Int)×Int):=
 match stT t p with
 | none=>.inl (2,ByteArray.empty)
 | some q=>match atO Hs q.1 with
   | some m=>.inl (1,m)
   | none=>match peerO Ls q.1 with
     | none=>.inl (3,ByteArray.empty)
     | some s=>if l.length=24∨l.any (fun x=>heB (s,q.2) x)=true then .inl (4,ByteArray.empty) else .inr (s,q.2)
def zeH:(Int×Int)×Int:=((0,0),0)
def laH (l:HpQ):(Int×Int)×Int:=l.getD (l.length-1) zeH
def foF (Ls:LkQ)(Hs:HoQ)(Ts:TsQ):Nat→HpQ→Int×ByteArray×HpQ
 | 0,l=>(4,ByteArray.empty,l)
 | n+1,l=>match goE Ls Hs (taT Ts (laH l).1.1) l (laH l) with
   | .inl e=>(e.1,e.2,l)
   | .inr p=>foF Ls Hs Ts n (l++[p])
def frF (Ls:LkQ)(Hs:HoQ)(Ts:TsQ)(s:Int×Int)(h:Int):Int×ByteArray×HpQ:=foF Ls Hs Ts 24 [(s,h)]
def caN (S:Int):TsQ→List Op8→Int
 | _,[]=>0
 | Ts,o :: l=>if swB S o.w=true then (if doN (taT Ts o.w) o.a o.r=0 then caN S (Ts.set (o.w-1).toNat (doL (taT Ts o.w) o.a o.r)) l else doN (taT Ts o.w) o.a o.r) else 1
def caT:TsQ→List Op8→TsQ
 | Ts,[]=>Ts
 | Ts,o :: l=>caT (Ts.set (o.w-1).toNat (doL (taT Ts o.w) o.a o.r)) l
def tsOk (Ts:TsQ):Prop:=∀L∈Ts,tbN L=0
theorem ca_len (Ts:TsQ)(l:List Op8):(caT Ts l).length=Ts.length:=by
 induction l generalizing Ts with
 | nil=>rfl
 | cons o l ih=>rw[caT,ih,List.length_set]
theorem ca_app (S:Int)(Ts:TsQ)(a b:List Op8):caN S Ts (a++b)=if caN S Ts a=0 then caN S (caT Ts a) b else caN S Ts a:=by
 induction a generalizing Ts with
 | nil=>simp[caN,caT]
 | cons o l ih =>
   rw[List.cons_append,caN,caN,caT];by_cases h1:swB S o.w=true
   ·rw[if_pos h1,if_pos h1];by_cases h2:doN (taT Ts o.w) o.a o.r=0
    ·rw[if_pos h2,if_pos h2,ih]
    rw[if_neg h2,if_neg h2,if_neg h2]
   rw[if_neg h1,if_neg h1];rfl
theorem cj_app (Ts:TsQ)(a b:List Op8):caT Ts (a++b)=caT (caT Ts a) b:=by
 induction a generalizing Ts with
 | nil=>rfl
 | cons o l ih=>rw[List.cons_append,caT,caT,ih]
theorem ca_cons {S:Int}{Ts:TsQ}{o:Op8}{l:List Op8}(h:caN S Ts (o :: l)=0):
 swB S o.w=true∧doN (taT Ts o.w) o.a o.r=0∧caN S (Ts.set (o.w-1).toNat (doL (taT Ts o.w) o.a o.r)) l=0:=by
 rw[caN] at h;by_cases h1:swB S o.w=true
 ·rw[if_pos h1] at h;by_cases h2:doN (taT Ts o.w) o.a o.r=0
  ·rw[if_pos h2] at h;exact⟨h1,h2,h⟩
  rw[if_neg h2] at h;exact absurd h h2
 rw[if_neg h1] at h;omega
theorem ta_mem {Ts:TsQ}{w:Int}(h1:1≤w)(h2:w≤Ts.length):taT Ts w∈Ts:=by
 have h:(w-1).toNat<Ts.length:=by omega
 rw[taT,List.getD_eq_getElem?_getD,List.getElem?_eq_getElem h];exact List.getElem_mem h
theorem take_yes {L:List Ru}{r:Ru}(h:doN L false r=0):tbN L=0∧∃A B,L=A++r :: B∧doL L false r=A++B:=by
 have h0:=h;unfold doN at h;by_cases h1:tbN L=0
 ·rw[if_pos h1] at h;by_cases h2:r.n=0
  ·rw[if_pos h2,chN] at h;simp only[Bool.false_eq_true,if_false] at h;cases h3:inB L r
   ·rw[h3] at h;simp at h
   obtain⟨A,B,rfl⟩:=List.append_of_mem (in_iff.1 h3);exact⟨h1,A,B,rfl,(do_take h1).2⟩
  rw[if_neg h2] at h;exact absurd h h2
 rw[if_neg h1] at h;exact absurd h h1
theorem do_right {L:List Ru}{a:Bool}{r:Ru}(h:doN L a r=0):tbN (doL L a r)=0:=by
 cases a with
 | true =>
   obtain⟨h1,h2,h3,h4⟩:=add_yes h;rw[(do_add h1 h2 h3 h4).2];exact tb_one h1 h2 h3 h4
 | false =>
   obtain⟨h1,A,B,rfl,e⟩:=take_yes h;rw[e];exact tb_sub h1 (List.Sublist.append (List.Sublist.refl _) (List.sublist_cons_self r B))
theorem ok_set {Ts:TsQ}{k:Nat}{L:List Ru}(h:tsOk Ts)(hL:tbN L=0):tsOk (Ts.set k L):=by
 intro x hx
 rcases List.mem_or_eq_of_mem_set hx with h1 | rfl
 ·exact h x h1
 exact hL
theorem ca_right {S:Int}:∀{l:List Op8} {Ts:TsQ},tsOk Ts→caN S Ts l=0→tsOk (caT Ts l)
 | [],_,h,_=>h
 | o :: l,Ts,h,e=>by
   obtain⟨h1,h2,h3⟩:=ca_cons e;rw[caT];exact ca_right (ok_set h (do_right h2)) h3
theorem getD_set (Ts:TsQ)(k j:Nat)(L:List Ru):(Ts.set k L).getD j []=if j=k∧k<Ts.length then L else Ts.getD j []:=by
 rw[List.getD_eq_getElem?_getD,List.getElem?_set,List.getD_eq_getElem?_getD];by_cases h:k=j
 ·subst h;by_cases h2:k<Ts.length
  ·simp[h2]
  rw[if_pos rfl,if_neg h2,if_neg (by omega),List.getElem?_eq_none (by omega)]
 rw[if_neg h,if_neg (by omega)]
theorem ta_set {Ts:TsQ}{w:Int}{L:List Ru}(h1:1≤w)(h2:w≤Ts.length):taT (Ts.set (w-1).toNat L) w=L:=by
 have h:(w-1).toNat<Ts.length:=by omega
 rw[taT,List.getD_eq_getElem?_getD,List.getElem?_set_self h];rfl
def ofS (w:Int)(l:List Op8):List Op8:=l.map fun o=>⟨w,o.a,o.r⟩
theorem ca_of {S w:Int}(hs:swB S w=true):∀{l:List Op8} {Ts:TsQ},(Ts.length:Int)=S→alN (taT Ts w) l=0→caN S Ts (ofS w l)=0∧caT Ts (ofS w l)=Ts.set (w-1).toNat (alL (taT Ts w) l)
 | [],Ts,hS,_=>by
   have hw:=sw_of.1 hs;have h:(w-1).toNat<Ts.length:=by omega
   refine⟨rfl,?_⟩;show Ts=Ts.set (w-1).toNat (taT Ts w);rw[taT,List.getD_eq_getElem?_getD,List.getElem?_eq_getElem h];simp
 | o :: l,Ts,hS,e=>by
   have hw:=sw_of.1 hs;rw[alN] at e;by_cases h2:doN (taT Ts w) o.a o.r=0
   ·rw[if_pos h2] at e;have et:=ta_set (Ts:=Ts) (L:=doL (taT Ts w) o.a o.r) hw.1 (by omega);obtain⟨i1,i2⟩:=ca_of hs (l:=l) (Ts:=Ts.set (w-1).toNat (doL (taT Ts w) o.a o.r)) (by rw[List.length_set];exact hS) (by rw[et];exact e);refine⟨?_,?_⟩
    ·show caN S Ts (⟨w,o.a,o.r⟩ :: ofS w l)=0;rw[caN];show (if swB S w=true then (if doN (taT Ts w) o.a o.r=0 then _ else _) else _)=_;rw[if_pos hs,if_pos h2];exact i1
    show caT Ts (⟨w,o.a,o.r⟩ :: ofS w l)=_;rw[caT];show caT (Ts.set (w-1).toNat (doL (taT Ts w) o.a o.r)) (ofS w l)=_;rw[i2,et,List.set_set,alL,if_pos h2]
   rw[if_neg h2] at e;exact absurd e h2
def cdL (As Bs:TsQ):Nat→List Op8
 | 0=>[]
 | k+1=>cdL As Bs k++ofS (k+1) (dfL (As.getD k []) (Bs.getD k []))
theorem cd_few {As Bs:TsQ}(ht:∀j,twN (As.getD j []) (Bs.getD j [])=0):∀k,(cdL As Bs k).length≤24*k
 | 0=>by simp[cdL]
 | k+1=>by
   have h1:=cd_few ht k;have h2:(dfL (As.getD k []) (Bs.getD k [])).length≤24:=by
    have h:=ht k;rw[dfL,if_pos h];obtain⟨hA,hB⟩:tbN (As.getD k [])=0∧tbN (Bs.getD k [])=0:=by
     unfold twN at h;by_cases h1:tbN (As.getD k [])=0
     ·rw[if_pos h1] at h;exact⟨h1,h⟩
     rw[if_neg h1] at h;exact absurd h h1
    have a:=(tb_iff.1 hA).1;have b:=(tb_iff.1 hB).1;have c:(bey (As.getD k []) (Bs.getD k [])).length≤(As.getD k []).length:=List.length_filter_le _ _;have d:(bey (Bs.getD k []) (As.getD k [])).length≤(Bs.getD k []).length:=List.length_filter_le _ _;simp only[taken,added,List.length_append,List.length_map];omega
   rw[cdL,List.length_append,ofS,List.length_map];omega
def cgN (S:Int)(Ls:LkQ)(Hs:HoQ)(Ts:TsQ)(l:List Op8):Int:=
 if ntN S Ls Hs Ts=0 then (if 200<l.length then 4 else caN S Ts l) else ntN S Ls Hs Ts
theorem ts_ok {Ts:TsQ}(h:tsOk Ts):∀n,tsTo Ts n=0
 | 0=>rfl
 | n+1=>by
   rw[tsTo,if_pos (ts_ok h n),List.getD_eq_getElem?_getD];by_cases e:n<Ts.length
   ·rw[List.getElem?_eq_getElem e];exact h _ (List.getElem_mem e)
   rw[List.getElem?_eq_none (by omega)];rfl
theorem ok_ts {Ts:TsQ}(h:∀k,k<Ts.length→tbN (Ts.getD k [])=0):tsOk Ts:=by
 intro L hL;obtain⟨k,hk,rfl⟩:=List.getElem_of_mem hL;have:=h k hk;rw[List.getD_eq_getElem?_getD,List.getElem?_eq_getElem hk] at this;exact this
theorem nt_of {S:Int}{Ls:LkQ}{Hs:HoQ}{Ts:TsQ}(h1:tpN S Ls Hs=0)(h2:(Ts.length:Int)=S)(h3:tsOk Ts):ntN S Ls Hs Ts=0:=by
 rw[ntN,if_pos h1,if_pos h2,ts_ok h3]
theorem cg_of {S:Int}{Ls:LkQ}{Hs:HoQ}{Ts:TsQ}{l:List Op8}(h1:ntN S Ls Hs Ts=0)(h2:l.length≤200)(h3:caN S Ts l=0):cgN S Ls Hs Ts l=0:=by
 rw[cgN,if_pos h1,if_neg (by omega),h3]
theorem nt_ca {S:Int}{Ls:LkQ}{Hs:HoQ}{Ts:TsQ}{l:List Op8}(h:ntN S Ls Hs Ts=0)(hl:caN S Ts l=0):ntN S Ls Hs (caT Ts l)=0:=by
 obtain⟨h1,h2,h3⟩:=nt_0 h;exact nt_of h1 (by rw[ca_len];exact h2) (ca_right (ok_ts h3) hl)
theorem isSwitch_any (S a:Int)(w:World):
 Calls prog 67 #[.int i64 S,.int i64 a] w fun e w'=>e=.returned (.bool (swB S a))∧Below w.heap.size w w':=by
 by_cases h1:1≤a
 ·by_cases h2:a≤S
  ·have e:swB S a=true:=sw_of.2 ⟨h1,h2⟩;rw[e];clear e;go_enter func67,ntmps67;go_wp2;go_ret;exact⟨rfl,bRQ _ _⟩
  have e:swB S a=false:=by simp[swB,h2]
  rw[e];clear e;go_enter func67,ntmps67;go_wp2;go_ret;exact⟨rfl,bRQ _ _⟩
 have e:swB S a=false:=by simp[swB,h1]
 rw[e];clear e;go_enter func67,ntmps67;go_wp2;go_ret;exact⟨rfl,bRQ _ _⟩
theorem isSpot_any (S x y:Int)(w:World):
 Calls prog 151 #[.int i64 S,.agg #[.int i64 x,.int i64 y]] w fun e w'=>e=.returned (.bool (spB S (x,y)))∧Below w.heap.size w w':=by
 have HB0:Hid (Below w.heap.size w (w.alloc (.cells #[.int i64 x,.int i64 y] 75))):=(bRQ _ _).alloc (nLQ _) _;have hlt:w.heap.size<(w.alloc (.cells #[.int i64 x,.int i64 y] 75)).heap.size:=by simp
 have c0:(w.alloc (.cells #[.int i64 x,.int i64 y] 75)).cell? ⟨w.heap.size,0,none⟩=some (.int i64 x):=by simp
 have c1:(w.alloc (.cells #[.int i64 x,.int i64 y] 75)).cell? ⟨w.heap.size,1,none⟩=some (.int i64 y):=by simp
 cases hs:swB S x
 ·have e:spB S (x,y)=false:=by
   cases h:spB S (x,y)
   ·rfl
   have:=sp_of h;have h2:=sw_of.2 ⟨this.1,this.2.1⟩;rw[hs] at h2;cases h2
  rw[e];clear e;go_enter func151,ntmps151
  go_wp2_with fail
  refine (isSwitch_any S x _).mono ?_;rintro e w1 ⟨rfl,hb1⟩;rw[hs];have HB1:Hid (Below w.heap.size w w1):=HB0.out.trans (hb1.mono HB0.out.size);clear hb1 c0 c1;go_wp2;go_ret;exact⟨rfl,HB1.out⟩
 have hw:=sw_of.1 hs;have e:spB S (x,y)=(decide (1≤y)&&decide (y≤4)):=by simp[spB,hw.1,hw.2]
 rw[e];clear e hw;have walk:∀r:Bool,r=(decide (1≤y)&&decide (y≤4))→Calls prog 151 #[.int i64 S,.agg #[.int i64 x,.int i64 y]] w fun e w'=>e=.returned (.bool r)∧Below w.heap.size w w':=by
  intro r hr;by_cases h1:1≤y
  ·by_cases h2:y≤4
   ·have e:r=true:=by rw[hr];simp[h1,h2]
    subst e;clear hr;go_enter func151,ntmps151
    go_wp2_with fail
    refine (isSwitch_any S x _).mono ?_;rintro e w1 ⟨rfl,hb1⟩;rw[hs];have HB1:Hid (Below w.heap.size w w1):=HB0.out.trans (hb1.mono HB0.out.size);have d1:=cell_later hb1 c1;clear hb1 c0 c1;go_wp2;go_ret;exact⟨rfl,HB1.out⟩
   have e:r=false:=by rw[hr];simp[h2]
   subst e;clear hr;go_enter func151,ntmps151
   go_wp2_with fail
   refine (isSwitch_any S x _).mono ?_;rintro e w1 ⟨rfl,hb1⟩;rw[hs];have HB1:Hid (Below w.heap.size w w1):=HB0.out.trans (hb1.mono HB0.out.size);have d1:=cell_later hb1 c1;have hd:decide (y≤4)=false:=by simp[h2]
   clear hb1 c0 c1;go_wp2;go_ret;exact⟨by first | rfl | simp[h2],HB1.out⟩
  have e:r=false:=by rw[hr];simp[h1]
  subst e;clear hr;go_enter func151,ntmps151
  go_wp2_with fail
  refine (isSwitch_any S x _).mono ?_;rintro e w1 ⟨rfl,hb1⟩;rw[hs];have HB1:Hid (Below w.heap.size w w1):=HB0.out.trans (hb1.mono HB0.out.size);have d1:=cell_later hb1 c1;clear hb1 c0 c1;go_wp2;go_ret;exact⟨rfl,HB1.out⟩
 exact walk _ rfl
theorem spotEq (a b c d:Int)(w:World):(Op.equal 75 (.agg #[.int i64 a,.int i64 b]) (.agg #[.int i64 c,.int i64 d])).run prog w=.ok (a==c&&b==d) w:=by
 unfold Op.equal Op.maxDepth;rw[run_equalIn_struct w 9999 _ _ _ (by kernel_rfl) (by kernel_rfl)];cases h1:(a==c)
 ·go_simp
 cases h2:(b==d)
 ·go_simp
 go_simp
theorem spotCheck (e:Bool)(a b:Int)(w:World):(Instr.checkKey e 10000 75 (.agg #[.int i64 a,.int i64 b])).run prog w=.ok () w:=by
 have h:∀(x:Int) (w:World),(Instr.checkKey e 9999 3 (.int i64 x)).run prog w=.ok () w:=fun x w=>Go.MapKept.run_checkKey underlying3 (by simp[Go.MapKept.IsKey]) e 9998
 rw[Instr.checkKey];go_simp
def spotKey:KeyE prog 75 (Int×Int):=
 KeyE.ask (fun k=>.agg #[.int i64 k.1,.int i64 k.2]) sq sq_iff (fun e k w=>spotCheck e k.1 k.2 w) _ (show Tryz.prog.underlying 75=some (.struct (Tryz.prog.fieldsOf 75)) by kernel_rfl) (fun a b=>rfl) (fun a b w=>spotEq a.1 a.2 b.1 b.2 w) (fun k=>by simp[Instr.sameBits])
def intKey:KeyE prog 3 Int:=
 KeyE.now (fun k=>.int i64 k) qI qI_iff (fun e k w=>Go.MapKept.run_checkKey underlying3 (by simp[Go.MapKept.IsKey]) e 9999) _ underlying3 (fun a b=>by simp[Instr.sameNow,qI]) (fun k=>by simp[Instr.sameBits])
def strKey:KeyE prog 9 ByteArray:=
 KeyE.now (fun k=>.string k) (fun a b=>a==b) ba_iff (fun e k w=>Go.MapKept.run_checkKey underlying9 (by simp[Go.MapKept.IsKey]) e 9999) _ underlying9 (fun a b=>by simp[Instr.sameNow,beq_toListBytes]) (fun k=>by simp[Instr.sameBits,(ba_iff k k).2 rfl])
def veI (n:Int):Value:=.int i64 n
section
variable {P:Program}{K:TypeId}{κ:Type}{E:KeyE P K κ}{w:World}{ops:Array Oper}{rest:List Oper}{o:Oper}{a:Act}{Q:Exit→Act→World→Prop}
theorem getV_I {o:Option Int}:getV veI (.int i64 0) o=.int i64 (o.getD 0):=by cases o <;> rfl
theorem run_lookup_TK {B:Nat}{M:List (κ×Int)}{U:List κ}(h:MAt E veI w B M)(hT:TK E.q M U)(t e:TypeId)(ht:P.underlying t=some (.map K e))(hz:∀w,(zeroValue e).run P w=.ok (.int i64 0) w)(k:κ):
 (Instr.lookup t (.map (some B)) (E.c k) false).run P w=.ok (.int i64 (ctM E.q k U:Int)) w:=by
 rw[run_lookup_M h t e ht _ hz k false,getV_I,hT k];rfl
end
end
section
def noV (n:Int):Value:=if n=0 then .nilIface else .iface 68 (.int i64 n)
theorem no_ok {n:Int}(h:n=0):noV n=.nilIface:=by simp[noV,h]
theorem no_ne {n:Int}(h:n≠0):noV n=.iface 68 (.int i64 n):=by simp[noV,h]
end
section
open Go.RowKit
def LayQ (w w':World)(B:Nat)(N:Int)(V:List (Int×Int)):Prop:=∃M',MAt spotKey veI w' B M'∧(N=0→TK sq M' V)∧But [B] w w'
theorem lay_ok (S x0 x1 x2 x3:Int)(B:Nat)(M:HpQ)(U:List (Int×Int))(w:World)(hM:MAt spotKey veI w B M)(hT:TK sq M U)(hU:U.length≤1000)(ha:spB S (x0,x1)=true)(hb:spB S (x2,x3)=true)(N:Int)(hN:N=lk1 S U ((x0,x1),(x2,x3))):
 Calls prog 123 #[.int i64 S,.map (some B),.agg #[.int i64 x0,.int i64 x1,.int i64 x2,.int i64 x3]] w fun e w'=>e=.returned (noV N)∧LayQ w w' B N (U++[(x0,x1),(x2,x3)]):=by
 have hlt:=hM.lt;have HN:Hid (N=lk1 S U ((x0,x1),(x2,x3))):=hN;have hB0:Below w.heap.size w (w.alloc (.cells #[.int i64 x0,.int i64 x1,.int i64 x2,.int i64 x3] 124)):=(bRQ _ _).alloc (nLQ _) _;have HB0:Hid (Below w.heap.size w (w.alloc (.cells #[.int i64 x0,.int i64 x1,.int i64 x2,.int i64 x3] 124))):=hB0;have HC:=lnk_new w x0 x1 x2 x3 124;have HM0:Hid (MAt spotKey veI w B M):=hM;have HT:Hid (TK sq M U):=hT;have hne:¬w.heap.size=B:=by omega
 clear hM hT hN hB0;go_enter func123,ntmps123
 go_wp2_with fail
 refine (isSpot_any S x0 x1 _).mono ?_;rintro e w1 ⟨rfl,hb1⟩;rw[ha];have HB1:Hid (Below w.heap.size w w1):=HB0.out.trans (hb1.mono HB0.out.size);have HC1:=HC.later hb1;obtain⟨c0,c1,c2,c3⟩:=lnk_cells HC1;simp only[Nat.zero_add] at c0 c1 c2 c3;clear hb1
 go_wp2_with fail
 refine (isSpot_any S x2 x3 _).mono ?_;rintro e w2 ⟨rfl,hb2⟩;rw[hb];have HB2:Hid (Below w.heap.size w w2):=HB1.out.trans (hb2.mono HB1.out.size);have HC2:Hid (VAt w2 w.heap.size 0 (lnkE.c ((x0,x1),(x2,x3)))):=HC1.later hb2;have d0:=cell_later hb2 c0;have d1:=cell_later hb2 c1;have d2:=cell_later hb2 c2;have d3:=cell_later hb2 c3;have HM2:Hid (MAt spotKey veI w2 B M):=(HM0.out.later HB2.out);clear hb2 HC1 HC c0 c1 c2 c3 HB1 HB0;go_upto_region 3 with fail;obtain⟨cA,hcA⟩:∃cA:Int,cA=(ctM sq (x0,x1) U:Int):=⟨_,rfl⟩;have HcA:Hid (cA=(ctM sq (x0,x1) U:Int)):=hcA;have hcw:IntKind.i64.wrap (cA+1)=cA+1:=by
  have h1:=ct_le (q:=sq) (x0,x1) U;exact wrap_small (by omega) (by omega)
 clear hcA
 go_cut [] from 20 to 26 (fun w'=>∃M1,MAt spotKey veI w' B M1∧TK sq M1 (U++[(x0,x1)])∧But [B] w2 w')
 case first =>
  have hMd:MAt spotKey veI w2.drew B M:=HM2.out;obtain⟨v0,st,w3,hE,hg3,hM3,hS3⟩:=run_entry_M hMd 233 3 underlying233 0 (fun w=>by kernel_rfl) (x0,x1);obtain⟨w4,hSt,hM4,hg4⟩:=hS3 w3 (cA+1) rfl;have hTK4:Hid (TK sq (mput sq (x0,x1) (cA+1) M) (U++[(x0,x1)])):=by
   show TK _ _ _;rw[HcA.out];exact tk_put sq_iff HT.out _
  have HM4:Hid (MAt spotKey veI w4 B (mput sq (x0,x1) (cA+1) M)):=hM4;have HBt:Hid (But [B] w2 w4):=((But.refl [B] w2).drew.trans (But.of_grown hg3 (by simp))).trans (But.of_grown hg4 (by simp));have hl2:(Instr.lookup 233 (.map (some B)) (.agg #[.int i64 x0,.int i64 x1]) false).run prog w2.drew=.ok (.int i64 cA) w2.drew:=by
   rw[HcA.out];exact run_lookup_TK hMd HT.out 233 3 underlying233 (fun w=>by kernel_rfl) (x0,x1)
  have hl3:(Instr.lookup 233 (.map (some B)) (.agg #[.int i64 x0,.int i64 x1]) false).run prog w3=.ok (.int i64 cA) w3:=by
   have h:=run_lookup_M hM3 233 3 underlying233 (.int i64 0) (fun w=>by kernel_rfl) (x0,x1) false;have e:mget spotKey.q (x0,x1) (mput spotKey.q (x0,x1) ((mget spotKey.q (x0,x1) M).getD 0) M)=some cA:=by
    rw[mget_put spotKey.qeq,if_pos ((spotKey.qeq _ _).2 rfl),HcA.out];exact congrArg some (HT.out (x0,x1))
   rw[e] at h;exact h
  have h1:(Instr.mapEntry 233 (.map (some B)) (.agg #[.int i64 x0,.int i64 x1])).run prog w2.drew=.ok (.tuple #[v0,.int i64 (st:Int)]) w3:=hE;have h3:(Instr.entryStore 233 (.map (some B)) (.int i64 (st:Int)) (.int i64 (cA+1))).run prog w3=.ok () w4:=hSt;clear hE hS3 hSt hM3 hM4 hg3 hg4 hMd
  go_region
  go_wp2_with fail
  go_meet
  case rel=>exact⟨_,HM4.out,hTK4.out,HBt.out⟩
 case rest =>
  obtain⟨M1,hM1,hT1,hBt1⟩:=hcut;obtain⟨w5,hw5⟩:∃x,x=wc:=⟨_,rfl⟩;subst hw5;have hnB:w.heap.size ∉ [B]:=by simp[hne]
  have hl2:w.heap.size<w2.heap.size:=bLQ _ _ d0;have e0:=(hBt1.cell (p:=⟨w.heap.size,0,none⟩) hl2 hnB).trans d0;have e1:=(hBt1.cell (p:=⟨w.heap.size,1,none⟩) hl2 hnB).trans d1;have e2:=(hBt1.cell (p:=⟨w.heap.size,2,none⟩) hl2 hnB).trans d2;have e3:=(hBt1.cell (p:=⟨w.heap.size,3,none⟩) hl2 hnB).trans d3;have HM5:Hid (MAt spotKey veI w5 B M1):=hM1;have HT5:Hid (TK sq M1 (U++[(x0,x1)])):=hT1;have HBt5:Hid (But [B] w w5):=(But.of_below (HB2.out)).trans hBt1;clear hM1 hT1 hBt1 d0 d1 d2 d3 HM2 HC2 hcw HcA hnB hl2;obtain⟨cB,hcB⟩:∃cB:Int,cB=(ctM sq (x2,x3) (U++[(x0,x1)]):Int):=⟨_,rfl⟩;have HcB:Hid (cB=(ctM sq (x2,x3) (U++[(x0,x1)]):Int)):=hcB;have hcw:IntKind.i64.wrap (cB+1)=cB+1:=by
   have h1:=ct_le (q:=sq) (x2,x3) (U++[(x0,x1)]);simp only[List.length_append,List.length_singleton] at h1;exact wrap_small (by omega) (by omega)
  clear hcB;go_upto_region 4 with fail
  go_cut [] from 27 to 33 (fun w'=>∃M2,MAt spotKey veI w' B M2∧TK sq M2 (U++[(x0,x1)]++[(x2,x3)])∧But [B] w5 w')
  case first =>
   have hMd:MAt spotKey veI w5.drew B M1:=HM5.out;obtain⟨v0,st,w3,hE,hg3,hM3,hS3⟩:=run_entry_M hMd 233 3 underlying233 0 (fun w=>by kernel_rfl) (x2,x3);obtain⟨w4,hSt,hM4,hg4⟩:=hS3 w3 (cB+1) rfl;have hTK4:Hid (TK sq (mput sq (x2,x3) (cB+1) M1) (U++[(x0,x1)]++[(x2,x3)])):=by
    show TK _ _ _;rw[HcB.out];exact tk_put sq_iff HT5.out _
   have HM4:Hid (MAt spotKey veI w4 B (mput sq (x2,x3) (cB+1) M1)):=hM4;have HBt:Hid (But [B] w5 w4):=((But.refl [B] w5).drew.trans (But.of_grown hg3 (by simp))).trans (But.of_grown hg4 (by simp));have hl2:(Instr.lookup 233 (.map (some B)) (.agg #[.int i64 x2,.int i64 x3]) false).run prog w5.drew=.ok (.int i64 cB) w5.drew:=by
    rw[HcB.out];exact run_lookup_TK hMd HT5.out 233 3 underlying233 (fun w=>by kernel_rfl) (x2,x3)
   have hl3:(Instr.lookup 233 (.map (some B)) (.agg #[.int i64 x2,.int i64 x3]) false).run prog w3=.ok (.int i64 cB) w3:=by
    have h:=run_lookup_M hM3 233 3 underlying233 (.int i64 0) (fun w=>by kernel_rfl) (x2,x3) false;have e:mget spotKey.q (x2,x3) (mput spotKey.q (x2,x3) ((mget spotKey.q (x2,x3) M1).getD 0) M1)=some cB:=by
     rw[mget_put spotKey.qeq,if_pos ((spotKey.qeq _ _).2 rfl),HcB.out];exact congrArg some (HT5.out (x2,x3))
    rw[e] at h;exact h
   have h1:(Instr.mapEntry 233 (.map (some B)) (.agg #[.int i64 x2,.int i64 x3])).run prog w5.drew=.ok (.tuple #[v0,.int i64 (st:Int)]) w3:=hE;have h3:(Instr.entryStore 233 (.map (some B)) (.int i64 (st:Int)) (.int i64 (cB+1))).run prog w3=.ok () w4:=hSt;clear hE hS3 hSt hM3 hM4 hg3 hg4 hMd
   go_region
   go_wp2_with fail
   go_meet
   case rel=>exact⟨_,HM4.out,hTK4.out,HBt.out⟩
  case rest =>
   obtain⟨M2,hM2,hT2,hBt2⟩:=hcut;have hnB:w.heap.size ∉ [B]:=by simp[hne]
   have hl2:w.heap.size<w5.heap.size:=bLQ _ _ e0;have f0:=(hBt2.cell (p:=⟨w.heap.size,0,none⟩) hl2 hnB).trans e0;have f1:=(hBt2.cell (p:=⟨w.heap.size,1,none⟩) hl2 hnB).trans e1;have f2:=(hBt2.cell (p:=⟨w.heap.size,2,none⟩) hl2 hnB).trans e2;have f3:=(hBt2.cell (p:=⟨w.heap.size,3,none⟩) hl2 hnB).trans e3;have HM6:Hid (MAt spotKey veI wc B M2):=hM2;have HT6:Hid (TK sq M2 (U++[(x0,x1),(x2,x3)])):=by
    show TK _ _ _;simpa using hT2
   have HBt6:Hid (But [B] w wc):=HBt5.out.trans hBt2;obtain⟨pA,hpA⟩:∃p:Int,p=(ctM sq (x0,x1) (U++[(x0,x1)]++[(x2,x3)]):Int):=⟨_,rfl⟩;obtain⟨pB,hpB⟩:∃p:Int,p=(ctM sq (x2,x3) (U++[(x0,x1)]++[(x2,x3)]):Int):=⟨_,rfl⟩;have hlA:(Instr.lookup 233 (.map (some B)) (.agg #[.int i64 x0,.int i64 x1]) false).run prog wc=.ok (.int i64 pA) wc:=by
    rw[hpA];exact run_lookup_TK hM2 hT2 233 3 underlying233 (fun w=>by kernel_rfl) (x0,x1)
   have hlB:(Instr.lookup 233 (.map (some B)) (.agg #[.int i64 x2,.int i64 x3]) false).run prog wc=.ok (.int i64 pB) wc:=by
    rw[hpB];exact run_lookup_TK hM2 hT2 233 3 underlying233 (fun w=>by kernel_rfl) (x2,x3)
   have HL:Hid (N=if (decide ((1:Int)<pA) || decide ((1:Int)<pB))=true then 7 else 0):=by
    show _=_;rw[HN.out,hpA,hpB,ct_link,lk1];simp only[ha,hb,Bool.and_self,if_true]
   clear hM2 hT2 hBt2 e0 e1 e2 e3 hnB hl2 hcw HcB HM5 HT5 HBt5 hpA hpB ha hb;by_cases h1:1<pA
   ·have e7:N=7:=by rw[HL.out];simp[h1]
    subst e7;go_wp2;go_ret;exact⟨rfl,M2,HM6.out,fun e=>absurd e (by decide),HBt6.out⟩
   by_cases h2:1<pB
   ·have e7:N=7:=by rw[HL.out];simp[h2]
    subst e7;go_wp2;go_ret;exact⟨rfl,M2,HM6.out,fun e=>absurd e (by decide),HBt6.out⟩
   have e7:N=0:=by rw[HL.out];simp[h1,h2]
   subst e7;go_wp2;go_ret;exact⟨rfl,M2,HM6.out,fun _=>HT6.out,HBt6.out⟩
theorem lay_bad (S x0 x1 x2 x3:Int)(B:Nat)(w:World)(h:(spB S (x0,x1)&&spB S (x2,x3))=false):
 Calls prog 123 #[.int i64 S,.map (some B),.agg #[.int i64 x0,.int i64 x1,.int i64 x2,.int i64 x3]] w fun e w'=>e=.returned (.iface 68 (.int i64 1))∧Below w.heap.size w w':=by
 have HB0:Hid (Below w.heap.size w (w.alloc (.cells #[.int i64 x0,.int i64 x1,.int i64 x2,.int i64 x3] 124))):=(bRQ _ _).alloc (nLQ _) _;have HC:=lnk_new w x0 x1 x2 x3 124;cases ha:spB S (x0,x1)
 ·clear h;go_enter func123,ntmps123
  go_wp2_with fail
  refine (isSpot_any S x0 x1 _).mono ?_;rintro e w1 ⟨rfl,hb1⟩;rw[ha];have HB1:Hid (Below w.heap.size w w1):=HB0.out.trans (hb1.mono HB0.out.size);clear hb1 HC;go_wp2;go_ret;exact⟨rfl,HB1.out⟩
 have hb:spB S (x2,x3)=false:=by rw[ha,Bool.true_and] at h;exact h
 clear h;go_enter func123,ntmps123
 go_wp2_with fail
 refine (isSpot_any S x0 x1 _).mono ?_;rintro e w1 ⟨rfl,hb1⟩;rw[ha];have HB1:Hid (Below w.heap.size w w1):=HB0.out.trans (hb1.mono HB0.out.size);obtain⟨c0,c1,c2,c3⟩:=lnk_cells (HC.later hb1);simp only[Nat.zero_add] at c0 c1 c2 c3;clear hb1 HC
 go_wp2_with fail
 refine (isSpot_any S x2 x3 _).mono ?_;rintro e w2 ⟨rfl,hb2⟩;rw[hb];have HB2:Hid (Below w.heap.size w w2):=HB1.out.trans (hb2.mono HB1.out.size);clear hb2;go_wp2;go_ret;exact⟨rfl,HB2.out⟩
theorem lay_any (S x0 x1 x2 x3:Int)(B:Nat)(M:HpQ)(U:List (Int×Int))(w:World)(hM:MAt spotKey veI w B M)(hT:TK sq M U)(hU:U.length≤1000):
 Calls prog 123 #[.int i64 S,.map (some B),.agg #[.int i64 x0,.int i64 x1,.int i64 x2,.int i64 x3]] w fun e w'=>e=.returned (noV (lk1 S U ((x0,x1),(x2,x3))))∧LayQ w w' B (lk1 S U ((x0,x1),(x2,x3))) (U++[(x0,x1),(x2,x3)]):=by
 cases h:(spB S (x0,x1)&&spB S (x2,x3))
 ·refine (lay_bad S x0 x1 x2 x3 B w h).mono ?_;rintro e w' ⟨rfl,hb⟩;have e1:lk1 S U ((x0,x1),(x2,x3))=1:=by simp only[lk1,h,Bool.false_eq_true,if_false]
  rw[e1];exact⟨rfl,M,hM.later hb,fun e=>absurd e (by decide),But.of_below hb⟩
 simp only[Bool.and_eq_true] at h;exact lay_ok S x0 x1 x2 x3 B M U w hM hT hU h.1 h.2 _ rfl
def byE:Enc (UInt8) where
 c:=fun x=>[.int .u8 (x.toNat:Int)]
 n:=1
 len:=fun _=>rfl
 pos:=by decide
 one:=by
  intro x u hu;simp at hu;subst hu;rfl
theorem by_at {w:World}{g o:Nat}{L:List (UInt8)}(h:GAt byE w g o L){n k:Nat}(hn:L.length=n)(hk:k<n):∃(x:UInt8) (hl:k<L.length),L[k]=x∧w.cell? ⟨g,o+k,none⟩=some (.int .u8 (x.toNat:Int)):=by
 have hl:k<L.length:=by omega
 have:=h k hl 0 _ rfl;refine⟨_,hl,rfl,?_⟩;have e:o+k*byE.n+0=o+k:=by show o+k*1+0=o+k;omega
 rw[e] at this;exact this
def byAsks (w:World)(f:FuncId)(P:UInt8→Bool):Prop:=
 ∀(x:UInt8) (W:World),Below w.heap.size w W→Calls prog f #[.int .u8 (x.toNat:Int)] W fun e w'=>e=.returned (.bool (P x))∧Below W.heap.size W w'
theorem by_idxF (ao:AdQ)(n cap:Nat)(f:FuncId)(P:UInt8→Bool)(L:List (UInt8))(w:World)(hn:L.length=n)(hn2:n≤maxLen)(ha:0<n→∃g o,ao=some ⟨g,o,none⟩∧GAt byE w g o L∧cap≤maxLen)(he:∀args w,(callFunc f args).run prog w=.ok (.enter f args) w)(hf:byAsks w f P):
 Calls prog 166 #[.slice ao n cap,.func (Fn.func f) #[] #[]] w fun e w'=>e=.returned (.int i64 (ixG P L))∧Below w.heap.size w w':=by
 have HN:Hid (L.length=n):=hn;have HF:Hid (byAsks w f P):=hf;have HA:Hid (0<n→∃g o,ao=some ⟨g,o,none⟩∧GAt byE w g o L∧cap≤maxLen):=ha;unfold maxLen at hn2;clear hn hf ha;go_enter func166,ntmps166;go_wp2
 go_loopw [8] (fun i wr=>∃k:Nat,k≤n∧i=.int i64 k∧(L.take k).any P=false∧Below w.heap.size w wr)
  (fun i _=>n-(intOf i).toNat)
 case atStart=>exact⟨0,by omega,rfl,by simp,bRQ _ _⟩
 case round =>
  obtain⟨k,hk,rfl,hno,hB⟩:=hrel;have HB:Hid (Below w.heap.size w wr):=hB;have HNO:Hid ((L.take k).any P=false):=hno;clear hno;by_cases hlt:k<n
  ·obtain⟨g,o,hao,hc,_⟩:=HA.out (by omega);subst hao;obtain⟨x,hkl,hL,q0⟩:=by_at (hc.later hB) HN.out hlt;have HL:Hid (L[k]=x):=hL;clear hL hB;cases ho:P x
   ·go_wp2_with fail
    refine (HF.out x _ HB.out).mono ?_;rintro e w1 ⟨rfl,hb1⟩;rw[ho];have HB1:=HB.out.trans (hb1.mono HB.out.size);clear hb1;go_wp2;go_roundw
    case rel=>exact⟨k+1,by omega,by go_num,any_nextG hkl HNO.out (by rw[HL.out];exact ho),HB1⟩
    case measure=>simp[intOf];omega
   go_wp2_with fail
   refine (HF.out x _ HB.out).mono ?_;rintro e w1 ⟨rfl,hb1⟩;rw[ho];go_wp2;go_ret;exact⟨by rw[ixG_hit hkl HNO.out (by rw[HL.out];exact ho)];rfl,HB.out.trans (hb1.mono HB.out.size)⟩
  obtain rfl:k=n:=by omega
  go_wp2;go_ret;exact⟨by have:=HNO.out;rw[←HN.out,List.take_length] at this;rw[ixG_no this];rfl,HB.out⟩
theorem by_hasF (ao:AdQ)(n cap:Nat)(f:FuncId)(P:UInt8→Bool)(L:List (UInt8))(w:World)(hn:L.length=n)(hn2:n≤maxLen)(ha:0<n→∃g o,ao=some ⟨g,o,none⟩∧GAt byE w g o L∧cap≤maxLen)(he:∀args w,(callFunc f args).run prog w=.ok (.enter f args) w)(hf:byAsks w f P):
 Calls prog 161 #[.slice ao n cap,.func (Fn.func f) #[] #[]] w fun e w'=>e=.returned (.bool (L.any P))∧Below w.heap.size w w':=by
 rw[←ixG_any];obtain⟨x,hx⟩:∃x,x=ixG P L:=⟨_,rfl⟩;have HX:Hid (x=ixG P L):=hx;rw[←hx];clear hx;go_enter func161,ntmps161
 go_wp2_with fail
 refine (by_idxF ao n cap f P L _ hn hn2 ha he hf).mono ?_;rintro e w1 ⟨rfl,hb1⟩;rw[←HX.out];go_wp2;go_ret;exact⟨rfl,hb1⟩
def noL (b:UInt8):Bool:=decide ((b.toNat:Int)<97) || decide ((122:Int)<(b.toNat:Int))
theorem isName1_any (b:UInt8)(w:World):Calls prog 162 #[.int .u8 (b.toNat:Int)] w fun e w'=>e=.returned (.bool (noL b))∧Below w.heap.size w w':=by
 have hn:noL b=(decide ((b.toNat:Int)<97) || decide ((122:Int)<(b.toNat:Int))):=rfl
 generalize (b.toNat:Int)=x at *
 rw[hn];clear hn;by_cases h:x<97
 ·have e:(decide (x<97) || decide (122<x))=true:=by simp[h]
  rw[e];go_enter func162,ntmps162;go_wp2;go_ret;exact⟨rfl,bRQ _ _⟩
 have e:(decide (x<97) || decide (122<x))=decide (122<x):=by simp[h]
 rw[e];go_enter func162,ntmps162;go_wp2;go_ret;exact⟨rfl,bRQ _ _⟩
theorem isName1_asks (w:World):byAsks w 162 noL:=fun x W _=>isName1_any x W
theorem bytes_conv (s:ByteArray)(w:World):∃cap w1,(convert 9 261 (.string s)).run prog w=.ok (.slice (some ⟨w.heap.size,0,none⟩) s.size cap) w1∧Below w.heap.size w w1∧GAt byE w1 w.heap.size 0 s.data.toList∧(s.size≤maxLen→cap≤maxLen):=by
 refine⟨_,_,run_bytes_of_string w _ _ 5 s underlying9 underlying261 underlying5,?_,?_,fun h=>grownCap_le_maxLen w _ _ _ h⟩
 ·exact (Below.drew (bRQ _ _)).alloc (nLQ _) _
 intro i hi j u hu;have hj:j=0:=by
  have:=(List.getElem?_eq_some_iff.1 hu).1;have e:(byE.c s.data.toList[i]).length=1:=rfl;omega
 subst hj;have hu2:u=.int .u8 (s.data.toList[i].toNat:Int):=by
  have:some (Value.int .u8 (s.data.toList[i].toNat:Int))=some u:=hu;exact (Option.some.inj this).symm
 subst hu2;have hi2:i<s.data.size:=by simpa using hi
 have e:0+i*byE.n+0=i:=by show 0+i*1+0=i;omega
 rw[e];simp only[World.cell?,World.alloc,World.drew];simp[bytesRow];rw[Array.getElem?_append_left (by simpa using hi2),Array.getElem?_map,Array.getElem?_eq_getElem hi2];rfl
theorem nm_eq {s:ByteArray}(h1:1≤s.size)(h6:s.size≤6):nmB s = !(s.data.toList.any noL):=by
 have e:nmB s=(s.data.toList.all fun c=>decide (97≤c.toNat)&&decide (c.toNat≤122)):=by simp[nmB,h1,h6]
 rw[e,List.not_any_eq_all_not]
 congr 1
 funext c
 rw[Bool.eq_iff_iff];simp[noL];omega
theorem name_ok (s:ByteArray)(w:World)(h1:1≤s.size)(h6:s.size≤6):
 Calls prog 152 #[.string s] w fun e w'=>e=.returned (.bool (nmB s))∧Below w.heap.size w w':=by
 have hs1:¬((s.size:Int)<1):=by omega
 have hs6:¬((6:Int)<(s.size:Int)):=by omega
 obtain⟨cap,w1,hcv,hb1,hG,hcap⟩:=bytes_conv s w;have HCAP:Hid (s.size≤maxLen→cap≤maxLen):=hcap;have HB1:Hid (Below w.heap.size w w1):=hb1;have HG:Hid (GAt byE w1 w.heap.size 0 s.data.toList):=hG;have HE:Hid (nmB s = !(s.data.toList.any noL)):=nm_eq h1 h6;rw[HE.out];obtain⟨r,hr⟩:∃r,r=s.data.toList.any noL:=⟨_,rfl⟩;have HR:Hid (r=s.data.toList.any noL):=hr;rw[←hr];clear hr hb1 hG HE hcap;obtain⟨n,hn⟩:∃n,n=s.size:=⟨_,rfl⟩;have HN:Hid (n=s.size):=hn;rw[←hn] at hcv hs1 hs6 h1 h6;clear hn;have hsz:s.size=n:=HN.out.symm;go_enter func152,ntmps152
 go_wp2_with fail
 refine (by_hasF _ n cap _ noL s.data.toList _ (by rw[HN.out];simp) (by unfold maxLen;omega) (fun _=>⟨_,_,rfl,HG.out,HCAP.out (by rw[←HN.out];unfold maxLen;omega)⟩) (enters_of func162 (by kernel_rfl) rfl) (isName1_asks _)).mono ?_;rintro e w2 ⟨rfl,hb2⟩;rw[←HR.out];have HB2:Hid (Below w.heap.size w w2):=HB1.out.trans (hb2.mono HB1.out.size);clear hb2;go_wp2;go_ret;exact⟨rfl,HB2.out⟩
theorem name_bad (s:ByteArray)(w:World)(h:s.size<1∨6<s.size):
 Calls prog 152 #[.string s] w fun e w'=>e=.returned (.bool false)∧Below w.heap.size w w':=by
 obtain⟨n,hn⟩:∃n,n=s.size:=⟨_,rfl⟩;have hsz:s.size=n:=hn.symm;rw[hsz] at h;clear hn;by_cases h1:(n:Int)<1
 ·go_enter func152,ntmps152;go_wp2;go_ret;exact⟨rfl,bRQ _ _⟩
 have h6:(6:Int)<(n:Int):=by omega
 clear h;go_enter func152,ntmps152;go_wp2;go_ret;exact⟨rfl,bRQ _ _⟩
theorem name_any (s:ByteArray)(w:World):
 Calls prog 152 #[.string s] w fun e w'=>e=.returned (.bool (nmB s))∧Below w.heap.size w w':=by
 by_cases h:1≤s.size∧s.size≤6
 ·exact name_ok s w h.1 h.2
 have e:nmB s=false:=by
  unfold nmB;by_cases h1:1≤s.size
  ·have:¬s.size≤6:=fun h2=>h ⟨h1,h2⟩
   simp[this]
  simp[h1]
 rw[e];exact name_bad s w (by omega)
end
end Go.Proofs.YtiokpmlhmlcojaaGreatDoor
