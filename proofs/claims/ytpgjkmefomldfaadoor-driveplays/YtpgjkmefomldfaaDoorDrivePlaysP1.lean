/- Contracts and facts on the way to DrivePlays, joined into one text: CubeMath, RuleMath, RuleTabMath, MapGen, TopoMath, But, Gen, TopoMath2, MixMath, TableMath, MixMath4, StCube, StRule, StOp, TcMath, WtMath, WireMath, DriveMath, ClassMem, TopoCon, Err, TopoCheck, CubeCon, RuleCon, ChangeMem, OwnRow, Quiet, ChangeOps, PlanMem, StMsg. -/
import Derived.Test.YtpgjkmefomldfaaDoorRows
import Derived.Test.YtpgjkmefomldfaaDoorProg
import Derived.WalkKit
import Derived.Laws.BytesArg
import Derived.WalkSpells
import Derived.Below
import Derived.MapKept
import Derived.Maps.OwnOps
import Derived.Laws.StructEq
import Derived.ProofKit
import Derived.OpenShut
import Derived.ChangeOld
import Derived.Laws.AppendOwnNone
import Derived.Deep.Slices
import Derived.Lib.SmallJoins
import Derived.Lib.Strings
import Derived.Laws.OwnMore
import Derived.BigQuiet
import Derived.Deep.QuietTactic
import Derived.DeepKeys3
import Derived.BigRegion
import Derived.Deep.CutRange
import Derived.Deep.CutBlock
import Derived.Shelf.Abstract
import Derived.Laws.IdiomStrings
import Derived.Carry
import Derived.Lib.SliceRun
import Derived.Lib.AppendZeros
import Derived.Deep.RegionHeld3
import Derived.RangeFuncNested
import Derived.RangeFuncBox
import Derived.RangeFuncBound
import Derived.RangeFuncCalls
import Derived.RangeFuncLeaves
import Derived.Shelf.RegionOpen
import Derived.OwnWalkIn
import Derived.TacticsInMore
import Derived.LoopNIn
import Derived.LoopIn
import Derived.Lib.Bytealg
import Derived.Lib.IndexLaws
import Derived.Deep.RegionWith
import Derived.Lib.Walk
import Derived.Lib.BufferWrite
import Derived.Lib.UnsafeStr
import Derived.Laws.MakeOwn
import Derived.Sort.Grow
import Derived.Shelf.SlSorted.Search
import Derived.Deep.RegionLaw
import Derived.LaidEql
import Derived.Stop.Asserts
import Derived.RowKitTokens
import Derived.RegionTactic
import Derived.Lib.SlicesCompact
import Derived.Shelf.Sort.Plain
import Derived.Shelf.Slices.CompactI
import Derived.Shelf.Slices.In.SortNone
import Derived.ChangeSame
import Derived.ChangeVars
import Derived.JoinedOf
import Derived.RowKit
import Derived.LaidLaws
import Derived.LaidHandle
import Derived.Stop.Joined
namespace Go.Proofs.YtpgjkmefomldfaaDoor
set_option linter.unusedSimpArgs false
set_option linter.unusedVariables false
set_option maxHeartbeats 16000000
set_option maxRecDepth 100000
open Go.Proofs.Tryd
open IntKind (i64)
abbrev AdQ:=Option Addr
abbrev LkQ:=List ((Int×Int)×(Int×Int))
abbrev HoQ:=List (ByteArray×(Int×Int))
abbrev HpQ:=List ((Int×Int)×Int)
theorem bRQ (n:Nat) (w:World):Go.RowKit.Below n w w:=Go.RowKit.Below.refl n w
theorem nLQ (n:Nat):n≤n:=Nat.le_refl n
theorem bLQ (w:World) (p:Addr) {v:Value} (h:w.cell? p=some v):p.block<w.heap.size:=World.block_lt_of_cell? w p h
theorem AP:(∀(l:List Value) (i:Nat) (v:Value),l.toArray.setIfInBounds i v=(l.set i v).toArray)∧(∀(a v:Value) (l:List Value),(a::l).set 0 v=v::l)∧(∀(a v:Value) (l:List Value) (i:Nat),(a::l).set (i+1) v=a::l.set i v):=⟨fun _ _ _=>List.setIfInBounds_toArray _ _ _,fun _ _ _=>List.set_cons_zero,fun _ _ _ _=>List.set_cons_succ⟩
section
open Go.RowKit
def hdrB (n:Int):Bool:=decide (0≤n)&&decide (n<16)
def rngB (m b:Int):Bool:=hdrB m&&hdrB b
def okB (m b:Int):Bool:=rngB m b&&(bits .andNot .i64 b m==0)
theorem hdr_of {n:Int}(h:hdrB n=true):0≤n∧n<16:=by simpa[hdrB] using h
theorem hdr_no {n:Int}(h:hdrB n=false):n<0∨16≤n:=by simp[hdrB] at h;omega
theorem hdr_mk {n:Int}(h:0≤n∧n<16):hdrB n=true:=by simpa[hdrB] using h
theorem rng_of {m b:Int}(h:rngB m b=true):(0≤m∧m<16)∧(0≤b∧b<16):=by
 simp only[rngB,Bool.and_eq_true] at h;exact⟨hdr_of h.1,hdr_of h.2⟩
theorem ok_rng {m b:Int}(h:okB m b=true):rngB m b=true:=by
 simp only[okB,Bool.and_eq_true] at h;exact h.1
theorem ok_of {m b:Int}(h:okB m b=true):(0≤m∧m<16)∧(0≤b∧b<16):=rng_of (ok_rng h)
theorem small {n:Int}(h:0≤n∧n<16):∃k:Fin 16,n=((k:Nat):Int):=⟨⟨n.toNat,by omega⟩,by simp;omega⟩
def hasB (m b h:Int):Bool:=hdrB h&&(okB m b&&(bits .and .i64 h m==b))
def refN (m b:Int):Int:=if okB m b then 0 else if rngB m b then 3 else 1
theorem refN_ok {m b:Int}(h:okB m b=true):refN m b=0:=by simp[refN,h]
theorem refN_shape {m b:Int}(h:okB m b=false)(h2:rngB m b=true):refN m b=3:=by simp[refN,h,h2]
theorem refN_range {m b:Int}(h2:rngB m b=false):refN m b=1:=by simp[refN,okB,h2]
theorem ok_refN (m b:Int):(refN m b==0)=okB m b:=by
 cases h:okB m b
 ·cases h2:rngB m b
  ·simp[refN_range h2]
  simp[refN_shape h h2]
 simp[refN_ok h]
theorem andEq_fin:∀m b:Fin 16,(bits .and .i64 ((b:Nat):Int) ((m:Nat):Int)==((b:Nat):Int))=(bits .andNot .i64 ((b:Nat):Int) ((m:Nat):Int)==0):=by decide +kernel
theorem andEq {m b:Int}(h:rngB m b=true):(bits .and .i64 b m==b)=okB m b:=by
 obtain⟨h1,h2⟩:=rng_of h;have e:okB m b=(bits .andNot .i64 b m==0):=by simp[okB,h]
 rw[e];obtain⟨x,rfl⟩:=small h1;obtain⟨y,rfl⟩:=small h2;exact andEq_fin x y
def ruP (p o:Int):Bool:=decide (0≤p)&&(decide (p≤99)&&(decide (0≤o)&&decide (o≤4)))
def ruIn (p o s v:Int):Bool:=ruP p o&&rngB s v
def ruSet (o s v:Int):Bool:=(bits .andNot .i64 v s==0)&&(!(o==0) || s==0)
def ruN (p m b o s v:Int):Int:=if ruIn p o s v then (if okB m b then (if ruSet o s v then 0 else 3) else refN m b) else 1
def ruOk (p m b o s v:Int):Bool:=ruIn p o s v&&(okB m b&&ruSet o s v)
theorem ru_ok {p m b o s v:Int}(h:ruOk p m b o s v=true):ruIn p o s v=true∧okB m b=true∧ruSet o s v=true:=by
 simpa[ruOk] using h
theorem ruN_ne {p m b o s v:Int}(h:ruOk p m b o s v=false):ruN p m b o s v≠0:=by
 unfold ruN;cases h1:ruIn p o s v
 ·simp
 cases h2:okB m b
 ·simp only[if_true];have:=ok_refN m b;rw[h2] at this;simpa using this
 cases h3:ruSet o s v
 ·simp
 simp[ruOk,h1,h2,h3] at h
theorem ru_in {p o s v:Int}(h:ruIn p o s v=true):((0≤p∧p≤99)∧(0≤o∧o≤4))∧(0≤s∧s<16)∧(0≤v∧v<16):=by
 simp only[ruIn,Bool.and_eq_true] at h;obtain⟨h1,h2⟩:=h;have h3:=rng_of h2;simp only[ruP,Bool.and_eq_true,decide_eq_true_eq] at h1;exact⟨⟨⟨h1.1,h1.2.1⟩,⟨h1.2.2.1,h1.2.2.2⟩⟩,h3⟩
structure Ru where
 p:Int
 m:Int
 b:Int
 o:Int
 s:Int
 v:Int
abbrev TsQ:=List (List Ru)
def Ru.n (r:Ru):Int:=ruN r.p r.m r.b r.o r.s r.v
def Ru.ok (r:Ru):Bool:=ruOk r.p r.m r.b r.o r.s r.v
def Ru.has (r:Ru)(h:Int):Bool:=hasB r.m r.b h
section
variable {κ β:Type}
def fndM (q:κ→κ→Bool)(k:κ):List κ→List MapEntry→Nat→Option (Nat×Value)
 | k' :: ks,e :: es,i=>if q k k' then some (i,e.val) else fndM q k ks es (i+1)
 | _,_,_=>none
end
structure KeyE (P:Program)(K:TypeId)(κ:Type) where
 c:κ→Value
 q:κ→κ→Bool
 qeq:∀a b,q a b=true↔a=b
 check:∀(e:Bool) (k:κ) (w:World),(Instr.checkKey e 10000 K (c k)).run P w=.ok () w
 find:∀(k:κ) (ks:List κ) (l:List MapEntry) (w:World),l.map (·.key)=ks.map c→(Instr.findKey K (c k) l).run P w=.ok (fndM q k ks l 0) w
 bits:∀k,Instr.sameBits 10000 (c k) (c k)=true
section
variable {P:Program}{K:TypeId}{κ β:Type}
variable {E:KeyE P K κ}{ve:β→Value}
variable {w:World}{ops:Array Oper}{rest:List Oper}{o:Oper}{a:Act}{Q:Exit→Act→World→Prop}
end
def spB (S:Int)(x:Int×Int):Bool:=decide (1≤x.1)&&(decide (x.1≤S)&&(decide (1≤x.2)&&decide (x.2≤4)))
def nmB (s:ByteArray):Bool:=decide (1≤s.size)&&(decide (s.size≤6)&&s.data.toList.all fun c=>decide (97≤c.toNat)&&decide (c.toNat≤122))
structure But (X:List Nat)(w w':World):Prop where
 os:w'.os=w.os
 tape:w'.tape=w.tape
 output:w'.output=w.output
 size:w.heap.size≤w'.heap.size
 block:∀k,k<w.heap.size→k ∉ X→w'.heap[k]?=w.heap[k]?
theorem But.refl (X:List Nat)(w:World):But X w w:=⟨rfl,rfl,rfl,nLQ _,fun _ _ _=>rfl⟩
theorem But.trans {X:List Nat}{a b c:World}(h:But X a b)(k:But X b c):But X a c:=
 ⟨k.os.trans h.os,k.tape.trans h.tape,k.output.trans h.output,Nat.le_trans h.size k.size,fun i hi hx=>(k.block i (Nat.lt_of_lt_of_le hi h.size) hx).trans (h.block i hi hx)⟩
theorem But.drew {X:List Nat}{a w:World}(h:But X a w):But X a w.drew:=⟨h.os,h.tape,h.output,h.size,h.block⟩
theorem But.of_below {X:List Nat}{w w':World}(h:Below w.heap.size w w'):But X w w':=⟨h.os,h.tape,h.output,h.size,fun k hk _=>h.block k hk⟩
theorem But.mono {X Y:List Nat}{w w':World}(h:But X w w')(hX:∀x∈X,x∈Y):But Y w w':=⟨h.os,h.tape,h.output,h.size,fun k hk hx=>h.block k hk (fun e=>hx (hX k e))⟩
theorem But.below {X:List Nat}{w w':World}{B:Nat}(h:But X w w')(hB:B≤w.heap.size)(hX:∀x∈X,B≤x):Below B w w':=
 ⟨h.os,h.tape,h.output,h.size,fun k hk=>h.block k (by omega) (fun e=>by have:=hX k e;omega)⟩
theorem But.cell {X:List Nat}{w w':World}(h:But X w w'){p:Addr}(hl:p.block<w.heap.size)(hX:p.block ∉ X):w'.cell? p=w.cell? p:=World.cell?_of_block (w:=w) (h.block p.block hl hX)
section
variable {P:Program}{K:TypeId}{κ β:Type}{E:KeyE P K κ}{ve:β→Value}
end
section
variable {κ:Type}
end
def ho1 (S:Int)(N:List ByteArray)(U:List (Int×Int))(h:ByteArray×(Int×Int)):Int:=if nmB h.1 then (if spB S h.2 then (if (N.any fun n=>n==h.1) || (U.any fun u=>u==h.2) then 7 else 0) else 1) else 2
end
section
open Go.ChangeShapes Go.WideShapes Go.ChangeAt Go.RowKit
structure Enc (α:Type) where
 c:α→List Value
 n:Nat
 len:∀x,(c x).length=n
 pos:0<n
 one:∀x u,u∈c x→u.oneCell'=true
def VAt (w:World)(g o:Nat)(vs:List Value):Prop:=∀j u,vs[j]?=some u→w.cell? ⟨g,o+j,none⟩=some u
theorem VAt.later {w w':World}{g o:Nat}{vs:List Value}(h:VAt w g o vs)(hb:Below w.heap.size w w'):VAt w' g o vs:=fun j u hu=>cell_later hb (h j u hu)
theorem vat_new (w:World)(vs:List Value)(t:TypeId):VAt (w.alloc (.cells vs.toArray t)) w.heap.size 0 vs:=by
 intro j u hu;rw[Nat.zero_add];have hj:j<vs.length:=(List.getElem?_eq_some_iff.1 hu).1;simp only[World.cell?,World.alloc];simp[hu]
section
variable {α:Type}{E:Enc α}
def GAt (E:Enc α)(w:World)(g o:Nat)(L:List α):Prop:=∀i (h:i<L.length),VAt w g (o+i*E.n) (E.c L[i])
theorem GAt.later {w w':World}{g o:Nat}{L:List α}(h:GAt E w g o L)(hb:Below w.heap.size w w'):GAt E w' g o L:=fun i hi=>(h i hi).later hb
theorem GAt.take {w:World}{g o:Nat}{L:List α}(h:GAt E w g o L)(k:Nat):GAt E w g o (L.take k):=by
 intro i hi;rw[List.getElem_take];exact h i (by simp at hi;omega)
theorem GAt.drop {w:World}{g o:Nat}{L:List α}(h:GAt E w g o L)(k:Nat):GAt E w g (o+k*E.n) (L.drop k):=by
 intro i hi;have hi2:k+i<L.length:=by simp at hi;omega
 have:=h (k+i) hi2;rw[List.getElem_drop];have e:o+(k+i)*E.n=o+k*E.n+i*E.n:=by rw[Nat.add_mul];omega
 rw[←e];exact this
def GS (E:Enc α)(w:World)(v:Value)(L:List α):Prop:=
 (∃ao cap,v=.slice ao 0 cap∧L=[])∨∃g o cap,v=.slice (some ⟨g,o,none⟩) L.length cap∧L.length≤cap∧cap≤maxLen∧GAt E w g o L
theorem GS.later {w w':World}{v:Value}{L:List α}(h:GS E w v L)(hb:Below w.heap.size w w'):GS E w' v L:=by
 rcases h with h | ⟨g,o,cap,h1,h2,h3,h4⟩
 ·exact .inl h
 exact .inr ⟨g,o,cap,h1,h2,h3,h4.later hb⟩
theorem GS.form {w:World}{v:Value}{L:List α}(h:GS E w v L):∃ao n cap,v=.slice ao n cap∧L.length=n∧n≤maxLen∧n≤cap∧(0<n→∃g o,ao=some ⟨g,o,none⟩∧GAt E w g o L∧cap≤maxLen):=by
 rcases h with ⟨ao,cap,rfl,rfl⟩ | ⟨g,o,cap,rfl,h1,h2,h3⟩
 ·exact⟨ao,0,cap,rfl,rfl,Nat.zero_le _,Nat.zero_le _,fun h=>absurd h (by omega)⟩
 exact⟨_,_,cap,rfl,rfl,Nat.le_trans h1 h2,h1,fun _=>⟨g,o,rfl,h3,h2⟩⟩
theorem GS.len {w:World}{ao:AdQ}{n cap:Nat}{L:List α}(h:GS E w (.slice ao n cap) L):L.length=n:=by
 rcases h with ⟨_,_,e,rfl⟩ | ⟨_,_,_,e,_⟩
 ·simp at e;simp[e]
 simp at e;exact e.2.1.symm
theorem GS.nil (w:World):GS E w (.slice none 0 0) []:=.inl ⟨none,0,rfl,rfl⟩
def cellsG (E:Enc α)(L:List α):List Value:=L.flatMap E.c
theorem cellsG_len (L:List α):(cellsG E L).length=L.length*E.n:=by
 induction L with
 | nil=>simp[cellsG]
 | cons x r ih =>
   simp only[cellsG,List.flatMap_cons,List.length_append,List.length_cons,E.len] at *;rw[ih,Nat.add_mul];omega
theorem cellsG_app (L M:List α):cellsG E (L++M)=cellsG E L++cellsG E M:=by simp[cellsG]
theorem cellsG_one (x:α):cellsG E [x]=E.c x:=by simp[cellsG]
theorem cellsG_at (L:List α):∀(i:Nat) (h:i<L.length) (j:Nat),j<E.n→(cellsG E L)[i*E.n+j]?=(E.c L[i])[j]?:=by
 induction L with
 | nil=>intro i h;simp at h
 | cons x r ih =>
   intro i h j hj;cases i with
   | zero =>
     simp only[cellsG,List.flatMap_cons,Nat.zero_mul,Nat.zero_add,List.getElem_cons_zero];rw[List.getElem?_append_left (by rw[E.len];exact hj)]
   | succ i =>
     have:=ih i (by simpa using h) j hj;simp only[cellsG,List.flatMap_cons,List.getElem_cons_succ] at this ⊢;rw[List.getElem?_append_right (by rw[E.len,Nat.add_mul];omega),E.len];have e:(i+1)*E.n+j-E.n=i*E.n+j:=by rw[Nat.add_mul];omega
     rw[e];exact this
theorem cellsG_all (L:List α):∀u∈cellsG E L,u.oneCell'=true:=by
 intro u hu;simp only[cellsG,List.mem_flatMap] at hu;obtain⟨x,_,hx⟩:=hu;exact E.one x u hx
theorem own_GS {w:World}{B e:Nat}{v:Value}{L:List α}(h:w.ownsRow B e E.n v L.length (cellsG E L)):GS E w v L:=by
 rcases h.2 with ⟨rfl,h0⟩ | ⟨g,cap,cur,rfl,_,_,h1,h2,_⟩
 ·exact .inl ⟨none,0,rfl,List.length_eq_zero_iff.1 h0⟩
 refine .inr ⟨g,0,cap,rfl,h1,h2,fun i hi j u hu=>?_⟩;have hj:j<E.n:=by
  have:=(List.getElem?_eq_some_iff.1 hu).1;rw[E.len] at this;exact this
 have hlt:i*E.n+j<L.length*E.n:=by
  have:(i+1)*E.n≤L.length*E.n:=Nat.mul_le_mul_right _ hi;rw[Nat.add_mul] at this;omega
 rw[Nat.zero_add,h.cellAt _ hlt,cellsG_at L i hi j hj];exact hu
theorem GAt.cells {w:World}{g o:Nat}{M:List α}(h:GAt E w g o M):∀j u,(cellsG E M)[j]?=some u→w.cell? ((⟨g,o,none⟩:Addr).add j)=some u:=by
 intro j u hu;have hj:j<M.length*E.n:=by
  have:=(List.getElem?_eq_some_iff.1 hu).1;rw[cellsG_len] at this;exact this
 have hadd:(⟨g,o,none⟩:Addr).add j=⟨g,o+j,none⟩:=by
  simp only[Addr.add]
  first
   | rfl
   | (split
      ·next h0=>rw[h0];rfl
      rfl)
 have hi:j / E.n<M.length:=Nat.div_lt_of_lt_mul (by rw[Nat.mul_comm];exact hj);have hm:j % E.n<E.n:=Nat.mod_lt _ E.pos;have e:j / E.n*E.n+j % E.n=j:=by rw[Nat.mul_comm];exact Nat.div_add_mod _ _
 have h1:=cellsG_at (E:=E) M (j / E.n) hi (j % E.n) hm;rw[e,hu] at h1;have h2:=h (j / E.n) hi (j % E.n) u h1.symm;rw[Nat.add_assoc,e] at h2;rw[hadd];exact h2
end
section
variable {α:Type}
theorem any_nextG {L:List α}{f:α→Bool}{k:Nat}(hk:k<L.length)(h:(L.take k).any f=false)(h2:f L[k]=false):(L.take (k+1)).any f=false:=by
 rw[List.take_succ_eq_append_getElem hk];simp only[List.any_append,h,List.any_cons,List.any_nil,h2,Bool.or_false]
theorem any_hitG {L:List α}{f:α→Bool}{k:Nat}(hk:k<L.length)(h2:f L[k]=true):L.any f=true:=List.any_eq_true.2 ⟨_,List.getElem_mem hk,h2⟩
def ixG (f:α→Bool)(L:List α):Int:=if L.any f then (L.findIdx f:Int) else -1
theorem ixG_hit {L:List α}{f:α→Bool}{k:Nat}(hk:k<L.length)(h:(L.take k).any f=false)(h2:f L[k]=true):ixG f L=k:=by
 rw[ixG,any_hitG hk h2,if_pos rfl]
 congr 1
 rw[List.findIdx_eq hk];refine⟨h2,fun j hj=>?_⟩;rw[List.any_eq_false] at h;have:=h L[j] (by rw[List.mem_take_iff_getElem];exact⟨j,by omega,rfl⟩);simpa using this
theorem ixG_no {L:List α}{f:α→Bool}(h:L.any f=false):ixG f L = -1:=by simp[ixG,h]
theorem ixG_any (L:List α)(f:α→Bool):decide (0≤ixG f L)=L.any f:=by
 unfold ixG;cases L.any f
 ·simp
 simp
end
section
variable {α:Type}
def smG (q:α→α→Bool):List α→List α→Bool
 | [],[]=>true
 | a :: l,b :: m=>q a b&&smG q l m
 | _,_=>false
theorem smG_iff {q:α→α→Bool}:∀{L M:List α},smG q L M=true↔L.length=M.length∧∀i (h1:i<L.length) (h2:i<M.length),q L[i] M[i]=true
 | [],[]=>by simp[smG]
 | [],_ :: _=>by simp[smG]
 | _ :: _,[]=>by simp[smG]
 | a :: l,b :: m=>by
   rw[smG,Bool.and_eq_true,smG_iff (L:=l) (M:=m)];constructor
   ·rintro⟨h1,h2,h3⟩;refine⟨by simp[h2],fun i hi hj=>?_⟩;cases i with
    | zero=>exact h1
    | succ i=>exact h3 i (by simpa using hi) (by simpa using hj)
   rintro⟨h1,h2⟩;refine⟨h2 0 (by simp) (by simp),by simpa using h1,fun i hi hj=>?_⟩;exact h2 (i+1) (by simpa using hi) (by simpa using hj)
theorem smG_len {q:α→α→Bool}{L M:List α}(h:L.length≠M.length):smG q L M=false:=by
 cases e:smG q L M
 ·rfl
 exact absurd (smG_iff.1 e).1 h
theorem smG_no {q:α→α→Bool}{L M:List α}{k:Nat}(h1:k<L.length)(h2:k<M.length)(h:q L[k] M[k]=false):smG q L M=false:=by
 cases e:smG q L M
 ·rfl
 have:=(smG_iff.1 e).2 k h1 h2;rw[h] at this;cases this
end
section
variable {P:Program}{α:Type}{E:Enc α}
theorem run_append_none {w:World}(base:Nat)(t ty e:TypeId)(i:TypeInfo)(size cap2:Nat)(ht:P.underlying t=some (.slice e))(hi:P.info? e=some i)
 (v:Value) (n:Nat) (xs:List Value) (hown:w.ownsRow base e size v n xs):
 (Builtin.append_ #[t,t] ty #[v,.slice none 0 cap2]).run P w=.ok v w:=by
 rcases hown.2 with ⟨rfl,rfl⟩ | ⟨g,cap,cur,rfl,_,_,hnc,_⟩
 ·simp[Builtin.append_,run_underlying ht,sizeOf,typeInfo,hi,Builtin.lenOf,Builtin.firstCells]
 simp[Builtin.append_,run_underlying ht,sizeOf,typeInfo,hi,Builtin.lenOf,Builtin.firstCells,hnc,storeCells]
theorem wpList_append_GS (w:World){ops:Array Oper}{rest:List Oper}{o:Oper}{a:Act}{Q:Exit→Act→World→Prop}(hgd:o.guard=none)(s x:Operand)(t e:TypeId)
 (ho:o.op=.call { callee:=.builtin .append,args:=#[s,x],argTypes:=#[t,t] }) (ht:P.underlying t=some (.slice e)) (i:TypeInfo) (z:Value) (bytes:Nat) (hi:P.info? e=some i) (hz:i.zero=some z)
 (hsize:i.size=E.n) (hby:i.bytes=bytes) (hzs:z.cells.size=E.n) (base:Nat)
 (v:Value) (hs:a.eval s=v) (L:List α) (hown:w.ownsRow base e E.n v L.length (cellsG E L)) (u:Value) (hx:a.eval x=u) (M:List α) (hM:GS E w u M)
 (h63:L.length+M.length≤maxLen) (hbytes:(L.length+M.length)*bytes≤140737488355328) (hbase:base≤w.heap.size)
 (h:∀v' w',w'.ownsRow base e E.n v' (L++M).length (cellsG E (L++M))→w.grownBy w' v.ownBlock→wpList P ops Q rest (a.put o.dst v') w'):wpList P ops Q (o :: rest) a w:=by
 have key:∀(ad:Addr) (m c:Nat) (news:List Value),a.eval x=.slice (some ad) m c→news.length=m*E.n→(∀j u,news[j]?=some u→w.cell? (ad.add j)=some u)→(∀u∈news,u.oneCell'=true)→m=M.length→news=cellsG E M→wpList P ops Q (o :: rest) a w:=by
  intro ad m c news e1 e2 e3 e4 e5 e6;refine wpList_append_own w hgd s x t ho base e i z E.n bytes ht hi hz hsize hby hzs E.pos v _ _ hs hown ad m c news e1 e2 e3 e4 (by rw[e5];exact h63) (by rw[e5];exact hbytes) hbase ?_;intro v' w' h1 h2 _;refine h v' w' ?_ h2;rw[List.length_append,cellsG_app,←e5,←e6];exact h1
 rcases hM with ⟨ao,cap,rfl,rfl⟩ | ⟨g,q,cap,rfl,h1,h2,h3⟩
 ·cases ao with
  | none =>
    refine wpList_plain hgd fun K hK=>?_
    have hrun:=run_append_none (P:=P) (w:=w) base t o.type e i E.n cap ht hi v _ _ hown;unfold Oper.wp;simp[execOp,ho,resolve,invoke,builtin,hs,hx,hrun,Result.andThen];exact hK _ _ (h v w (by rw[List.append_nil];exact hown) ⟨rfl,rfl,rfl,nLQ _,fun _ _ _=>rfl⟩)
  | some ad=>exact key ad 0 cap [] hx (by simp) (by intro j u hu;simp at hu) (by intro u hu;cases hu) rfl rfl
 exact key ⟨g,q,none⟩ M.length cap (cellsG E M) hx (cellsG_len M) h3.cells (cellsG_all M) rfl rfl
theorem gs_of {H:Type}{enc:TypeId×Value→H}{W:World}{base:Nat}{v:Value}{d:DataW H}{p:List MemPlace}(ts te:TypeId)(hu:P.underlying ts=some (.slice te))(hC:P.cellsOf te=E.n)(x0:α)
 (hel:∀(n:Nat) (cs:List Value) (x:DataW H×List MemPlace),DataW.trod enc P W 0 (fun _=>true) true n te cs=some x→∃y,cs=E.c y)
 (hv:Value.okWide P W .any base ts v) (h:DataW.Trod enc P W 0 (fun _=>true) true ts v d p):∃L,GS E W v L:=by
 obtain⟨a0,len0,cap0,rfl⟩:=okWide_slice hu hv;obtain⟨fuel,hf⟩:=h;have hf2:DataW.trod enc P W 0 (fun _=>true) true fuel ts [.slice a0 len0 cap0]=some (d,p):=hf
 rcases Go.Deep.open_slice hu hf2 with ⟨hc,hx⟩ | ⟨a,len,cap,m,k,D,Pl,hc,_,hl,hm,hmm,hx,hall⟩
 ·simp only[List.cons.injEq,and_true,Value.slice.injEq] at hc;obtain⟨rfl,rfl,rfl⟩:=hc;exact⟨[],.inl ⟨none,0,rfl,rfl⟩⟩
 simp only[List.cons.injEq,and_true,Value.slice.injEq] at hc;obtain⟨rfl,rfl,rfl⟩:=hc;simp only[if_true] at hmm;subst hmm
 rcases Nat.eq_zero_or_pos len0 with h0 | h0
 ·subst h0;exact⟨[],.inl ⟨_,_,rfl,rfl⟩⟩
 have each:∀i,i<m→∃y:α,∀j,j<E.n→W.cell? (a.add (i*E.n+j))=(E.c y)[j]?:=by
  intro i hi;obtain⟨cs,h1,h2⟩:=hall i hi;rw[hC] at h1;obtain⟨_,hlen,hcell⟩:=World.cells?_some h1;obtain⟨y,rfl⟩:=hel _ _ _ h2;refine⟨y,fun j hj=>?_⟩;have:=hcell j (by omega);rw[Go.Deep.add_add] at this;exact this
 have iR:Inhabited α:=⟨x0⟩;obtain⟨R,hR⟩:=Go.Deep.choose_lt each;obtain⟨sb,so,spot⟩:=a;have hspot:spot=none:=by
  have h1:=hR 0 (by omega) 0 E.pos;have h2:(E.c (R 0))[0]?.isSome=true:=by
   rw[List.getElem?_eq_getElem (by rw[E.len];exact E.pos)];rfl
  obtain⟨u,hu2⟩:=Option.isSome_iff_exists.1 h2;rw[hu2] at h1;simpa[Addr.add] using World.cell?_spot h1
 subst hspot;have hadd:∀j,(⟨sb,so,none⟩:Addr).add j=⟨sb,so+j,none⟩:=by
  intro j;simp only[Addr.add]
  first
   | rfl
   | (split
      ·next h0=>rw[h0];rfl
      rfl)
 refine⟨(List.range len0).map R,.inr ⟨sb,so,_,by simp,by simpa using hl,hm,fun i hi j u hu2=>?_⟩⟩;have hi2:i<len0:=by simpa using hi
 have e:((List.range len0).map R)[i]=R i:=by simp
 rw[e] at hu2;have hj:j<E.n:=by
  have:=(List.getElem?_eq_some_iff.1 hu2).1;rw[E.len] at this;exact this
 have hc:=hR i (by omega) j hj;rw[hadd,hu2,←Nat.add_assoc] at hc;exact hc
end
end
section
open Go.RowKit
def swB (S a:Int):Bool:=decide (1≤a)&&decide (a≤S)
theorem sw_of {S a:Int}:swB S a=true↔1≤a∧a≤S:=by simp[swB]
structure LO {α:Type}(r:α→α→Bool):Prop where
 irr:∀a,r a a=false
 tr:∀a b c,r a b=true→r b c=true→r a c=true
 tot:∀a b,r a b=false→r b a=false→a=b
theorem LO.asy {α:Type}{r:α→α→Bool}(h:LO r){a b:α}(hab:r a b=true):r b a=false:=by
 cases e:r b a
 ·rfl
 have:=h.tr a b a hab e;rw[h.irr] at this;cases this
theorem lo_int:LO (fun (a b:Int)=>decide (a<b)):=⟨by simp,fun a b c h1 h2=>by simp at *;omega,fun a b h1 h2=>by simp at *;omega⟩
def Ris {α:Type}(r:α→α→Bool)(l:List α):Prop:=l.Pairwise fun a b=>r a b=true
theorem ris_ext {α:Type}{r:α→α→Bool}(hr:LO r):∀{l m:List α},Ris r l→Ris r m→(∀x,x∈l↔x∈m)→l=m
 | [],[],_,_,_=>rfl
 | [],y :: m,_,_,h=>by have:=(h y).2 (by simp);simp at this
 | x :: l,[],_,_,h=>by have:=(h x).1 (by simp);simp at this
 | x :: l,y :: m,h1,h2,h=>by
   have a1:=List.pairwise_cons.1 h1;have a2:=List.pairwise_cons.1 h2;have e:x=y:=by
    rcases List.mem_cons.1 ((h x).1 (by simp)) with e | hx
    ·exact e
    rcases List.mem_cons.1 ((h y).2 (by simp)) with e | hy
    ·exact e.symm
    have b1:=a1.1 y hy;have b2:=a2.1 x hx;rw[hr.asy b1] at b2;cases b2
   subst e;rw[ris_ext hr a1.2 a2.2 (fun z=>?_)];have hz:=h z;constructor
   ·intro hm
    rcases List.mem_cons.1 (hz.1 (List.mem_cons_of_mem _ hm)) with e | e
    ·subst e;have:=a1.1 z hm;rw[hr.irr] at this;cases this
    exact e
   intro hm
   rcases List.mem_cons.1 (hz.2 (List.mem_cons_of_mem _ hm)) with e | e
   ·subst e;have:=a2.1 z hm;rw[hr.irr] at this;cases this
   exact e
def puR {α:Type}(r:α→α→Bool)(f:α):List α→List α
 | []=>[f]
 | x :: l=>if r f x=true then f :: x :: l else if r x f=true then x :: puR r f l else x :: l
theorem pu_mem {α:Type}{r:α→α→Bool}(hr:LO r)(f:α):∀{l:List α} {x:α},x∈puR r f l↔x=f∨x∈l
 | [],x=>by simp[puR]
 | y :: l,x=>by
   rw[puR];by_cases h1:r f y=true
   ·rw[if_pos h1];simp
   rw[if_neg h1];by_cases h2:r y f=true
   ·rw[if_pos h2,List.mem_cons,pu_mem hr f,List.mem_cons];constructor
    ·rintro (h | h | h)
     ·exact .inr (.inl h)
     ·exact .inl h
     exact .inr (.inr h)
    rintro (h | h | h)
    ·exact .inr (.inl h)
    ·exact .inl h
    exact .inr (.inr h)
   rw[if_neg h2];have e:y=f:=hr.tot _ _ (by simpa using h2) (by simpa using h1);subst e;simp
theorem pu_ris {α:Type}{r:α→α→Bool}(hr:LO r)(f:α):∀{l:List α},Ris r l→Ris r (puR r f l)
 | [],_=>by simp[puR,Ris]
 | y :: l,h=>by
   have a:=List.pairwise_cons.1 h;rw[puR];by_cases h1:r f y=true
   ·rw[if_pos h1];refine List.pairwise_cons.2 ⟨fun z hz=>?_,h⟩
    rcases List.mem_cons.1 hz with rfl | hz
    ·exact h1
    exact hr.tr _ _ _ h1 (a.1 z hz)
   rw[if_neg h1];by_cases h2:r y f=true
   ·rw[if_pos h2];refine List.pairwise_cons.2 ⟨fun z hz=>?_,pu_ris hr f a.2⟩
    rcases (pu_mem hr f).1 hz with rfl | hz
    ·exact h2
    exact a.1 z hz
   rw[if_neg h2];exact h
structure Op8 where
 w:Int
 a:Bool
 r:Ru
theorem pu_len {α:Type}{r:α→α→Bool}(f:α):∀l:List α,(puR r f l).length≤l.length+1
 | []=>by simp[puR]
 | x :: l=>by
   rw[puR];by_cases h1:r f x=true
   ·rw[if_pos h1];simp
   rw[if_neg h1];by_cases h2:r x f=true
   ·rw[if_pos h2];have:=pu_len (r:=r) f l;simp;exact this
   rw[if_neg h2];simp
section
variable {Ls:LkQ}{Hs:HoQ}{As Bs:TsQ}
variable {s0:Int}
end
end
section
open Go.ChangeShapes Go.WideShapes Go.ChangeAt Go.RowKit Go.Joins
def cuE:Enc (Int×Int) where
 c:=fun x=>[.int i64 x.1,.int i64 x.2]
 n:=2
 len:=fun _=>rfl
 pos:=by decide
 one:=by
  intro x u hu;simp at hu
  rcases hu with rfl | rfl <;> rfl
theorem cu_open {H:Type}{enc:TypeId×Value→H}{W:World}{n:Nat}{cs:List Value}{x:DataW H×List MemPlace}
 (h:DataW.trod enc prog W 0 (fun _=>true) true n 33 cs=some x):∃y,cs=cuE.c y:=by
 obtain⟨xs,k,_,_,hl,hlen,hf⟩:=DataW.trod_struct underlying33 h;have hC:Tryd.prog.cellsOf 33=2:=by kernel_rfl
 have hT0:Tryd.prog.cellsOf 3=1:=by kernel_rfl
 rw[hC] at hl
 match cs,hl with
 | [c0,c1],_ =>
   match xs,hlen with
   | [z0,z1],_ =>
     have g0:=hf 0 _ rfl;have g1:=hf 1 _ rfl;simp[hT0] at g0 g1;obtain⟨v0,e0,_,_⟩:=DataW.trod_int underlying3 g0;obtain⟨v1,e1,_,_⟩:=DataW.trod_int underlying3 g1;simp[] at e0 e1;refine⟨(v0,v1),?_⟩;simp[cuE,e0,e1]
def rlE:Enc (Ru) where
 c:=fun x=>[.int i64 x.p,.int i64 x.m,.int i64 x.b,.int i64 x.o,.int i64 x.s,.int i64 x.v]
 n:=6
 len:=fun _=>rfl
 pos:=by decide
 one:=by
  intro x u hu;simp at hu
  rcases hu with rfl | rfl | rfl | rfl | rfl | rfl <;> rfl
theorem rl_open {H:Type}{enc:TypeId×Value→H}{W:World}{n:Nat}{cs:List Value}{x:DataW H×List MemPlace}
 (h:DataW.trod enc prog W 0 (fun _=>true) true n 35 cs=some x):∃y,cs=rlE.c y:=by
 obtain⟨xs,k,_,_,hl,hlen,hf⟩:=DataW.trod_struct underlying35 h;have hC:Tryd.prog.cellsOf 35=6:=by kernel_rfl
 have hT0:Tryd.prog.cellsOf 3=1:=by kernel_rfl
 have hT1:Tryd.prog.cellsOf 33=2:=by kernel_rfl
 rw[hC] at hl
 match cs,hl with
 | [c0,c1,c2,c3,c4,c5],_ =>
   match xs,hlen with
   | [z0,z1,z2,z3,z4],_ =>
     have g0:=hf 0 _ rfl;have g1:=hf 1 _ rfl;have g2:=hf 2 _ rfl;have g3:=hf 3 _ rfl;have g4:=hf 4 _ rfl;simp[hT0,hT1] at g0 g1 g2 g3 g4;obtain⟨v0,e0,_,_⟩:=DataW.trod_int underlying3 g0;obtain⟨s1,e1⟩:=cu_open g1;obtain⟨v3,e2,_,_⟩:=DataW.trod_int underlying3 g2;obtain⟨v4,e3,_,_⟩:=DataW.trod_int underlying3 g3;obtain⟨v5,e4,_,_⟩:=DataW.trod_int underlying3 g4;simp[cuE] at e0 e1 e2 e3 e4;refine⟨⟨v0,s1.1,s1.2,v3,v4,v5⟩,?_⟩;simp[rlE,e0,e1,e2,e3,e4]
def opE:Enc (Op8) where
 c:=fun x=>[.int i64 x.w,.bool x.a,.int i64 x.r.p,.int i64 x.r.m,.int i64 x.r.b,.int i64 x.r.o,.int i64 x.r.s,.int i64 x.r.v]
 n:=8
 len:=fun _=>rfl
 pos:=by decide
 one:=by
  intro x u hu;simp at hu
  rcases hu with rfl | rfl | rfl | rfl | rfl | rfl | rfl | rfl <;> rfl
theorem op_cells {w:World}{g o:Nat}{x0:Int}{x1:Bool}{x2 x3 x4 x5 x6 x7:Int}(h:VAt w g o (opE.c ⟨x0,x1,⟨x2,x3,x4,x5,x6,x7⟩⟩)):w.cell? ⟨g,o,none⟩=some (.int i64 x0)∧w.cell? ⟨g,o+1,none⟩=some (.bool x1)∧w.cell? ⟨g,o+2,none⟩=some (.int i64 x2)∧w.cell? ⟨g,o+3,none⟩=some (.int i64 x3)∧w.cell? ⟨g,o+4,none⟩=some (.int i64 x4)∧w.cell? ⟨g,o+5,none⟩=some (.int i64 x5)∧w.cell? ⟨g,o+6,none⟩=some (.int i64 x6)∧w.cell? ⟨g,o+7,none⟩=some (.int i64 x7):=
 ⟨h 0 _ rfl,h 1 _ rfl,h 2 _ rfl,h 3 _ rfl,h 4 _ rfl,h 5 _ rfl,h 6 _ rfl,h 7 _ rfl⟩
theorem op_at {w:World}{g o:Nat}{L:List (Op8)}(h:GAt opE w g o L){n k:Nat}(hn:L.length=n)(hk:k<n):
 ∃(x0:Int) (x1:Bool) (x2:Int) (x3:Int) (x4:Int) (x5:Int) (x6:Int) (x7:Int) (hl:k<L.length),L[k]=⟨x0,x1,⟨x2,x3,x4,x5,x6,x7⟩⟩∧w.cell? ⟨g,o+k*8,none⟩=some (.int i64 x0)∧w.cell? ⟨g,o+k*8+1,none⟩=some (.bool x1)∧w.cell? ⟨g,o+k*8+2,none⟩=some (.int i64 x2)∧w.cell? ⟨g,o+k*8+3,none⟩=some (.int i64 x3)∧w.cell? ⟨g,o+k*8+4,none⟩=some (.int i64 x4)∧w.cell? ⟨g,o+k*8+5,none⟩=some (.int i64 x5)∧w.cell? ⟨g,o+k*8+6,none⟩=some (.int i64 x6)∧w.cell? ⟨g,o+k*8+7,none⟩=some (.int i64 x7):=
 have hl:k<L.length:=by omega
 ⟨_,_,_,_,_,_,_,_,hl,rfl,op_cells (h k hl)⟩
theorem op_new (w:World)(x0:Int)(x1:Bool)(x2 x3 x4 x5 x6 x7:Int)(t:TypeId):VAt (w.alloc (.cells #[.int i64 x0,.bool x1,.int i64 x2,.int i64 x3,.int i64 x4,.int i64 x5,.int i64 x6,.int i64 x7] t)) w.heap.size 0 (opE.c ⟨x0,x1,⟨x2,x3,x4,x5,x6,x7⟩⟩):=vat_new w [.int i64 x0,.bool x1,.int i64 x2,.int i64 x3,.int i64 x4,.int i64 x5,.int i64 x6,.int i64 x7] t
def opB (a b:Op8):Bool:=(a.w==b.w)&&((a.a==b.a)&&((a.r.p==b.r.p)&&((a.r.m==b.r.m)&&((a.r.b==b.r.b)&&((a.r.o==b.r.o)&&((a.r.s==b.r.s)&&((a.r.v==b.r.v))))))))
theorem op_ways (x0:Int)(x1:Bool)(x2 x3 x4 x5 x6 x7 y0:Int)(y1:Bool)(y2 y3 y4 y5 y6 y7:Int):
 ((x0==y0)=false∧opB ⟨x0,x1,⟨x2,x3,x4,x5,x6,x7⟩⟩ ⟨y0,y1,⟨y2,y3,y4,y5,y6,y7⟩⟩=false) ∨
 ((x0==y0)=true∧(x1==y1)=false∧opB ⟨x0,x1,⟨x2,x3,x4,x5,x6,x7⟩⟩ ⟨y0,y1,⟨y2,y3,y4,y5,y6,y7⟩⟩=false) ∨
 ((x0==y0)=true∧(x1==y1)=true∧(x2==y2)=false∧opB ⟨x0,x1,⟨x2,x3,x4,x5,x6,x7⟩⟩ ⟨y0,y1,⟨y2,y3,y4,y5,y6,y7⟩⟩=false) ∨
 ((x0==y0)=true∧(x1==y1)=true∧(x2==y2)=true∧(x3==y3)=false∧opB ⟨x0,x1,⟨x2,x3,x4,x5,x6,x7⟩⟩ ⟨y0,y1,⟨y2,y3,y4,y5,y6,y7⟩⟩=false) ∨
 ((x0==y0)=true∧(x1==y1)=true∧(x2==y2)=true∧(x3==y3)=true∧(x4==y4)=false∧opB ⟨x0,x1,⟨x2,x3,x4,x5,x6,x7⟩⟩ ⟨y0,y1,⟨y2,y3,y4,y5,y6,y7⟩⟩=false) ∨
 ((x0==y0)=true∧(x1==y1)=true∧(x2==y2)=true∧(x3==y3)=true∧(x4==y4)=true∧(x5==y5)=false∧opB ⟨x0,x1,⟨x2,x3,x4,x5,x6,x7⟩⟩ ⟨y0,y1,⟨y2,y3,y4,y5,y6,y7⟩⟩=false) ∨
 ((x0==y0)=true∧(x1==y1)=true∧(x2==y2)=true∧(x3==y3)=true∧(x4==y4)=true∧(x5==y5)=true∧(x6==y6)=false∧opB ⟨x0,x1,⟨x2,x3,x4,x5,x6,x7⟩⟩ ⟨y0,y1,⟨y2,y3,y4,y5,y6,y7⟩⟩=false) ∨
 ((x0==y0)=true∧(x1==y1)=true∧(x2==y2)=true∧(x3==y3)=true∧(x4==y4)=true∧(x5==y5)=true∧(x6==y6)=true∧(x7==y7)=false∧opB ⟨x0,x1,⟨x2,x3,x4,x5,x6,x7⟩⟩ ⟨y0,y1,⟨y2,y3,y4,y5,y6,y7⟩⟩=false) ∨
 ((x0==y0)=true∧(x1==y1)=true∧(x2==y2)=true∧(x3==y3)=true∧(x4==y4)=true∧(x5==y5)=true∧(x6==y6)=true∧(x7==y7)=true∧opB ⟨x0,x1,⟨x2,x3,x4,x5,x6,x7⟩⟩ ⟨y0,y1,⟨y2,y3,y4,y5,y6,y7⟩⟩=true):=by
 have e:opB ⟨x0,x1,⟨x2,x3,x4,x5,x6,x7⟩⟩ ⟨y0,y1,⟨y2,y3,y4,y5,y6,y7⟩⟩=((x0==y0)&&((x1==y1)&&((x2==y2)&&((x3==y3)&&((x4==y4)&&((x5==y5)&&((x6==y6)&&((x7==y7))))))))):=rfl;rw[e];cases h0:(x0==y0)
 ·simp
 skip;cases h1:(x1==y1)
 ·simp
 skip;cases h2:(x2==y2)
 ·simp
 skip;cases h3:(x3==y3)
 ·simp
 skip;cases h4:(x4==y4)
 ·simp
 skip;cases h5:(x5==y5)
 ·simp
 skip;cases h6:(x6==y6)
 ·simp
 skip;cases h7:(x7==y7)
 ·simp
 skip;simp
theorem op_info:(Tryd.prog.info? 37).map (fun i=>(i.zero,i.size,i.bytes))=some (some (.agg #[.int i64 0,.bool false,.int i64 0,.int i64 0,.int i64 0,.int i64 0,.int i64 0,.int i64 0]),8,64):=by kernel_rfl
theorem op_zero:(Value.agg #[.int i64 0,.bool false,.int i64 0,.int i64 0,.int i64 0,.int i64 0,.int i64 0,.int i64 0]).cells.size=8:=by simp[Value.cells]
theorem op_open {H:Type}{enc:TypeId×Value→H}{W:World}{n:Nat}{cs:List Value}{x:DataW H×List MemPlace}
 (h:DataW.trod enc prog W 0 (fun _=>true) true n 37 cs=some x):∃y,cs=opE.c y:=by
 obtain⟨xs,k,_,_,hl,hlen,hf⟩:=DataW.trod_struct underlying37 h;have hC:Tryd.prog.cellsOf 37=8:=by kernel_rfl
 have hT0:Tryd.prog.cellsOf 3=1:=by kernel_rfl
 have hT1:Tryd.prog.cellsOf 4=1:=by kernel_rfl
 have hT2:Tryd.prog.cellsOf 35=6:=by kernel_rfl
 rw[hC] at hl
 match cs,hl with
 | [c0,c1,c2,c3,c4,c5,c6,c7],_ =>
   match xs,hlen with
   | [z0,z1,z2],_ =>
     have g0:=hf 0 _ rfl;have g1:=hf 1 _ rfl;have g2:=hf 2 _ rfl;simp[hT0,hT1,hT2] at g0 g1 g2;obtain⟨v0,e0,_,_⟩:=DataW.trod_int underlying3 g0;obtain⟨v1,e1,_⟩:=DataW.trod_bool underlying4 g1;obtain⟨s2,e2⟩:=rl_open g2;simp[rlE] at e0 e1 e2;refine⟨⟨v0,v1,⟨s2.p,s2.m,s2.b,s2.o,s2.s,s2.v⟩⟩,?_⟩;simp[opE,e0,e1,e2]
end
section
open Go.RowKit
def ltI (a b:Int):Bool:=decide (a<b)
theorem lo_ltI:LO ltI:=lo_int
def tcL (l:List Op8):List Int:=l.foldl (fun R o=>puR ltI o.w R) []
theorem tc_next {l:List Op8}{k:Nat}(hk:k<l.length):tcL (l.take (k+1))=puR ltI l[k].w (tcL (l.take k)):=by
 rw[List.take_succ_eq_append_getElem hk,tcL,tcL,List.foldl_append];rfl
theorem tc_ris:∀(l:List Op8) (R:List Int),Ris ltI R→Ris ltI (l.foldl (fun R o=>puR ltI o.w R) R)
 | [],R,h=>h
 | x :: l,R,h=>tc_ris l _ (pu_ris lo_ltI x.w h)
theorem tc_few:∀(l:List Op8) (R:List Int),(l.foldl (fun R o=>puR ltI o.w R) R).length≤R.length+l.length
 | [],R=>by simp
 | x :: l,R=>by
   have h1:=tc_few l (puR ltI x.w R);have h2:=pu_len (r:=ltI) x.w R;simp only[List.foldl_cons,List.length_cons];omega
theorem tc_mem:∀(l:List Op8) (R:List Int) (s:Int),s∈l.foldl (fun R o=>puR ltI o.w R) R↔s∈R∨∃o∈l,o.w=s
 | [],R,s=>by simp
 | x :: l,R,s=>by
   rw[List.foldl_cons,tc_mem l,pu_mem lo_ltI];constructor
   ·rintro ((rfl | h) | ⟨o,h1,h2⟩)
    ·exact .inr ⟨x,by simp,rfl⟩
    ·exact .inl h
    exact .inr ⟨o,by simp[h1],h2⟩
   rintro (h | ⟨o,h1,h2⟩)
   ·exact .inl (.inr h)
   rcases List.mem_cons.1 h1 with rfl | h1
   ·exact .inl (.inl h2.symm)
   exact .inr ⟨o,h1,h2⟩
end
section
def wtI (l m:List Int):List Int:=l.filter fun x => !(m.any fun y=>y==x)
end
section
open Go.RowKit
structure Mg where
 k:Int
 s:Int
 r:Int
 i:Int
 o:Op8
def zeP:Op8:=⟨0,false,⟨0,0,0,0,0,0⟩⟩
def zeM:Mg:=⟨0,0,0,0,zeP⟩
def oqB (a b:Op8):Bool:=(a.w==b.w)&&((a.a==b.a)&&((a.r.p==b.r.p)&&((a.r.m==b.r.m)&&((a.r.b==b.r.b)&&((a.r.o==b.r.o)&&((a.r.s==b.r.s)&&((a.r.v==b.r.v))))))))
theorem oqB_iff (a b:Op8):oqB a b=true↔a=b:=by
 have e:oqB a b=((a.w==b.w)&&((a.a==b.a)&&((a.r.p==b.r.p)&&((a.r.m==b.r.m)&&((a.r.b==b.r.b)&&((a.r.o==b.r.o)&&((a.r.s==b.r.s)&&((a.r.v==b.r.v))))))))):=rfl;rw[e];simp only[Bool.and_eq_true,beq_iff_eq];constructor
 ·intro h;obtain⟨a0,a1,⟨a2,a3,a4,a5,a6,a7⟩⟩:=a;obtain⟨b0,b1,⟨b2,b3,b4,b5,b6,b7⟩⟩:=b;simp at h ⊢;simp[h]
 intro h;subst h;simp
def mgR (m:Mg):Bool:=(decide (1≤m.k)&&decide (m.k≤3))&&((decide (1≤m.s)&&decide (m.s≤6))&&((decide (0≤m.r)&&decide (m.r≤19))&&(decide (0≤m.i)&&decide (m.i≤200))))
def moN (o:Op8)(s:Int):Int:=if o.r.n=0 then (if o.w=s then 0 else 3) else o.r.n
def mgN (m:Mg):Int:=if mgR m then (if m.k=1 then moN m.o m.s else (if oqB m.o zeP && !(decide (m.k=3) && !(decide (m.i=0))) then 0 else 3)) else 1
theorem mg_rng {m:Mg}:mgR m=true↔(1≤m.k∧m.k≤3)∧(1≤m.s∧m.s≤6)∧(0≤m.r∧m.r≤19)∧(0≤m.i∧m.i≤200):=by
 simp[mgR]
def btN (b:Bool):Int:=if b then 1 else 0
def mgL (m:Mg):List Int:=[m.k,m.s,m.r,m.i]++if m.k=1 then [btN m.o.a,m.o.r.p,m.o.r.m,m.o.r.b,m.o.r.o,m.o.r.s,m.o.r.v] else []
def smL (l:List Int):Int:=l.foldl (· + ·) 0
theorem sm_app (l:List Int)(x:Int):smL (l++[x])=smL l+x:=by simp[smL]
def nmT (l:List Int):ByteArray:=strOfNums (l++[smL l % 251])
def mgT (m:Mg):ByteArray:=nmT (mgL m)
def byL (l:List Int):Prop:=∀x∈l,0≤x∧x≤200
theorem mg_1 {m:Mg}(h:mgN m=0):mgR m=true∧(m.k=1→m.o.r.n=0∧m.o.w=m.s)∧(m.k≠1→m.o=zeP∧(m.k=3→m.i=0)):=by
 unfold mgN moN at h
 split at h
 ·next hR =>
  refine⟨hR,fun h1=>?_,fun h1=>?_⟩
  ·rw[if_pos h1] at h
   split at h
   ·split at h
    ·exact⟨by assumption,by assumption⟩
    cases h
   exact absurd h (by assumption)
  rw[if_neg h1] at h
  split at h
  ·next h2 =>
   simp only[Bool.and_eq_true] at h2;refine⟨(oqB_iff _ _).1 h2.1,fun h3=>?_⟩;have:=h2.2;simp[h3] at this;exact this
  cases h
 cases h
theorem mg_by {m:Mg}(h:mgN m=0):byL (mgL m)∧(mgL m).length≤11∧4≤(mgL m).length:=by
 obtain⟨hR,h1,h2⟩:=mg_1 h;have hr:=mg_rng.1 hR;by_cases hk:m.k=1
 ·obtain⟨h3,h4⟩:=h1 hk;have h5:ruOk m.o.r.p m.o.r.m m.o.r.b m.o.r.o m.o.r.s m.o.r.v=true:=by
   cases h6:ruOk m.o.r.p m.o.r.m m.o.r.b m.o.r.o m.o.r.s m.o.r.v
   ·exact absurd h3 (ruN_ne h6)
   rfl
  have h6:=ru_in (ru_ok h5).1;have h7:=ok_of (ru_ok h5).2.1;refine⟨?_,?_,?_⟩
  ·intro x hx;simp only[mgL,if_pos hk,List.cons_append,List.nil_append,List.mem_cons,List.not_mem_nil,or_false] at hx;have hb:0≤btN m.o.a∧btN m.o.a≤1:=by unfold btN;split <;> omega
   rcases hx with rfl | rfl | rfl | rfl | rfl | rfl | rfl | rfl | rfl | rfl | rfl <;> omega
  ·simp[mgL,hk]
  simp[mgL,hk]
 refine⟨?_,?_,?_⟩
 ·intro x hx;simp only[mgL,if_neg hk,List.cons_append,List.nil_append,List.mem_cons,List.not_mem_nil,or_false] at hx
  rcases hx with rfl | rfl | rfl | rfl <;> omega
 ·simp[mgL,hk]
 simp[mgL,hk]
theorem by_take {l:List Int}(h:byL l)(k:Nat):byL (l.take k):=fun x hx=>h x (List.mem_of_mem_take hx)
theorem by_sum:∀{l:List Int},byL l→0≤smL l∧smL l≤200*l.length:=by
 have key:∀(l:List Int) (a:Int),byL l→a≤l.foldl (· + ·) a∧l.foldl (· + ·) a≤a+200*l.length:=by
  intro l
  induction l with
  | nil=>intro a _;simp
  | cons x r ih =>
    intro a h;have h1:=h x List.mem_cons_self;have h2:=ih (a+x) (fun y hy=>h y (List.mem_cons_of_mem _ hy));simp only[List.foldl_cons,List.length_cons];omega
 intro l h;have:=key l 0 h;unfold smL;omega
structure DrT where
 L:List (List Op8)
 W:Int
 s:Nat
 l:List Int
 k:Nat
def opF (o:Op8):Int:=if 1≤o.w∧o.w≤6 then o.r.n else 1
def osF:List Op8→Int
 | []=>0
 | o :: t=>if opF o=0 then osF t else opF o
def rdF:List (List Op8)→Int
 | []=>0
 | r :: t=>if osF r=0 then rdF t else osF r
def fewB (L:List (List Op8)):Bool:=L.all fun r=>decide (r.length≤200)
def rsF (L:List (List Op8))(W:Int):Int:=if 1≤W∧W≤100 then (if L.length≤20∧fewB L=true then rdF L else 4) else 1
def sdM (i s:Int):Nat→List Op8→List Mg
 | _,[]=>[]
 | n,o :: t=>if o.w=s then ⟨1,s,i,(n:Int),o⟩ :: sdM i s (n+1) t else sdM i s n t
def cntW (r:List Op8)(s:Int):Nat:=r.countP fun o=>o.w==s
def saM (i s:Int)(n:Nat):Mg:=⟨2,s,i,(n:Int),zeP⟩
def sayS (r:List Op8)(i s:Int):List Mg:=sdM i s 0 r++[saM i s (cntW r s)]
def sayL (r:List Op8)(i:Int)(l:List Int):List Mg:=l.flatMap (sayS r i)
def saD (D:DrT):List Mg:=sayL (D.L.getD (D.s-1) []) ((D.s:Int)-1) D.l
def mayD (D:DrT):Bool:=D.l.isEmpty&&decide (D.s<D.L.length)
def nxN (D:DrT):Int:=if mayD D then 0 else 6
def nxS (D:DrT):DrT:=if mayD D then { D with s:=D.s+1,l:=tcL (D.L.getD D.s []),k:=0 } else D
def nxA (D:DrT):List Mg:=if mayD D then saD (nxS D) else []
def inD (D:DrT)(x:Int):Bool:=D.l.any fun y=>y==x
def dhN (D:DrT)(m:Mg):Int:=if mgN m=0∧m.k=3 then (if m.r=(D.s:Int)-1∧inD D m.s=true then 0 else 6) else 3
def dhS (D:DrT)(m:Mg):DrT:=if dhN D m=0 then { D with l:=wtI D.l [m.s] } else D
def tkS (D:DrT):DrT:=if D.l.isEmpty then D else { D with k:=D.k+1 }
def tkA (D:DrT):List Mg:=if D.l.isEmpty then [] else if ((D.k+1:Nat):Int) % D.W=0 then saD D else []
def doneD (D:DrT):Bool:=D.l.isEmpty&&(D.s==D.L.length)
def dr0 (L:List (List Op8))(W:Int):DrT:=⟨L,W,0,[],0⟩
theorem do_snoc (i s:Int):∀(r:List Op8) (n:Nat) (o:Op8),sdM i s n (r++[o])=sdM i s n r++(if o.w=s then [⟨1,s,i,((n+cntW r s:Nat):Int),o⟩] else [])
 | [],n,o=>by simp only[List.nil_append,sdM,cntW,List.countP_nil,Nat.add_zero]
 | x :: r,n,o=>by
   simp only[List.cons_append,sdM];by_cases hx:x.w=s
   ·rw[if_pos hx,if_pos hx,do_snoc i s r];have e:cntW (x :: r) s=cntW r s+1:=by simp[cntW,hx]
    rw[e,show n+1+cntW r s=n+(cntW r s+1) by omega];rfl
   rw[if_neg hx,if_neg hx,do_snoc i s r];have e:cntW (x :: r) s=cntW r s:=by simp[cntW,hx]
   rw[e]
theorem cnt_snoc (r:List Op8)(o:Op8)(s:Int):cntW (r++[o]) s=cntW r s+(if o.w=s then 1 else 0):=by
 simp[cntW,List.countP_append,List.countP_cons]
theorem do_next {r:List Op8}{k:Nat}(i s:Int)(hk:k<r.length):sdM i s 0 (r.take (k+1))=sdM i s 0 (r.take k)++(if r[k].w=s then [⟨1,s,i,(cntW (r.take k) s:Int),r[k]⟩] else []):=by
 rw[List.take_succ_eq_append_getElem hk,do_snoc,Nat.zero_add]
theorem cw_next {r:List Op8}{k:Nat}(s:Int)(hk:k<r.length):cntW (r.take (k+1)) s=cntW (r.take k) s+(if r[k].w=s then 1 else 0):=by
 rw[List.take_succ_eq_append_getElem hk,cnt_snoc]
theorem cw_le (r:List Op8)(s:Int):cntW r s≤r.length:=List.countP_le_length
theorem do_len (i s:Int):∀(r:List Op8) (n:Nat),(sdM i s n r).length=cntW r s
 | [],n=>rfl
 | x :: r,n=>by
   unfold sdM;by_cases hx:x.w=s
   ·rw[if_pos hx,List.length_cons,do_len i s r];simp[cntW,hx]
   rw[if_neg hx,do_len i s r];simp[cntW,hx]
theorem say_next {l:List Int}{k:Nat}(r:List Op8)(i:Int)(hk:k<l.length):sayL r i (l.take (k+1))=sayL r i (l.take k)++sayS r i l[k]:=by
 rw[List.take_succ_eq_append_getElem hk,sayL,sayL,List.flatMap_append];simp
theorem say_cons (r:List Op8)(i x:Int)(l:List Int):sayL r i (x :: l)=sayS r i x++sayL r i l:=by simp[sayL]
theorem say_len (r:List Op8)(i:Int):∀l:List Int,(sayL r i l).length≤l.length*(r.length+1)
 | []=>by simp[sayL]
 | x :: l=>by
   have h:=say_len r i l;have h2:=cw_le r x;rw[say_cons,List.length_append,sayS,List.length_append,do_len,List.length_singleton,List.length_cons,Nat.succ_mul];omega
theorem ris_nodup {l:List Int}(h:Ris ltI l):l.Nodup:=by
 refine List.Pairwise.imp ?_ h;intro a b hab;have:a<b:=by simpa[ltI] using hab
 omega
theorem tc_rise (r:List Op8):Ris ltI (tcL r):=tc_ris r [] List.Pairwise.nil
theorem tc_in {r:List Op8}{s:Int}:s∈tcL r↔∃o∈r,o.w=s:=by rw[tcL,tc_mem];simp
theorem ris_few:∀(l:List Int) (a:Int),Ris ltI l→(∀x∈l,a≤x∧x≤6)→(l.length:Int)≤max 0 (7-a)
 | [],a,_,_=>by simp;omega
 | x :: l,a,h,hx=>by
   obtain⟨h1,h2⟩:=List.pairwise_cons.1 h;have h3:=hx x (by simp);have:=ris_few l (x+1) h2 (fun y hy=>by
    have h4:=h1 y hy;have:x<y:=by simpa[ltI] using h4
    have:=hx y (by simp[hy]);omega)
   simp only[List.length_cons];omega
structure DrOK (D:DrT)(n:Nat):Prop where
 w:1≤D.W∧D.W≤100
 L:D.L.length≤20
 r:∀r∈D.L,r.length≤200
 o:∀r∈D.L,∀o∈r,(1≤o.w∧o.w≤6)∧o.r.n=0
 s:D.s≤D.L.length
 p:D.s=0→D.l=[]
 l:Ris ltI D.l
 x:∀x∈D.l,1≤x∧x≤6
 k:D.k≤n
theorem os_zero:∀{r:List Op8},osF r=0→∀o∈r,(1≤o.w∧o.w≤6)∧o.r.n=0
 | [],_,o,h=>by simp at h
 | x :: r,h,o,ho=>by
   unfold osF at h
   split at h
   ·next h1 =>
    rcases List.mem_cons.1 ho with rfl | ho
    ·unfold opF at h1
     split at h1
     ·next h2=>exact⟨h2,h1⟩
     omega
    exact os_zero h o ho
   next h1=>exact absurd h h1
theorem rd_zero:∀{L:List (List Op8)},rdF L=0→∀r∈L,osF r=0
 | [],_,r,h=>by simp at h
 | x :: L,h,r,hr=>by
   unfold rdF at h
   split at h
   ·next h1 =>
    rcases List.mem_cons.1 hr with rfl | hr
    ·exact h1
    exact rd_zero h r hr
   next h1=>exact absurd h h1
theorem dk_new {L:List (List Op8)}{W:Int}(h:rsF L W=0):DrOK (dr0 L W) 0:=by
 unfold rsF at h
 split at h
 ·next h1 =>
  split at h
  ·next h2 =>
   refine⟨h1,h2.1,fun r hr=>?_,fun r hr=>os_zero (rd_zero h r hr),Nat.zero_le _,fun _=>rfl,List.Pairwise.nil,fun x hx=>by simp[dr0] at hx,nLQ _⟩;have:=List.all_eq_true.1 h2.2 r hr;simpa using this
  cases h
 cases h
theorem DrOK.mono {D:DrT}{n m:Nat}(h:DrOK D n)(hn:n≤m):DrOK D m:=⟨h.w,h.L,h.r,h.o,h.s,h.p,h.l,h.x,Nat.le_trans h.k hn⟩
theorem DrOK.six {D:DrT}{n:Nat}(h:DrOK D n):D.l.length≤6:=by
 have:=ris_few D.l 1 h.l h.x;omega
theorem may_iff {D:DrT}:mayD D=true↔D.l=[]∧D.s<D.L.length:=by
 simp[mayD]
theorem getd_at {D:DrT}(h:D.s<D.L.length):D.L.getD D.s []=D.L[D.s]:=by simp[List.getD,h]
theorem getd_mem {L:List (List Op8)}{i:Nat}:L.getD i []=[]∨L.getD i []∈L:=by
 by_cases h:i<L.length
 ·exact .inr (by simp[List.getD,h])
 exact .inl (by simp[List.getD,h])
theorem dk_nx {D:DrT}{n:Nat}(h:DrOK D n):DrOK (nxS D) (n+1):=by
 unfold nxS
 split
 ·next hm =>
  have hm:=may_iff.1 hm;refine⟨h.w,h.L,h.r,h.o,hm.2,fun e=>by simp at e,tc_rise _,fun x hx=>?_,Nat.zero_le _⟩;have hx2:x∈tcL (D.L.getD D.s []):=hx;rw[getd_at hm.2] at hx2;obtain⟨o,ho,rfl⟩:=tc_in.1 hx2;exact (h.o _ (List.getElem_mem _) o ho).1
 exact h.mono (Nat.le_succ n)
theorem dk_hr {D:DrT}{n:Nat}{m:Mg}(h:DrOK D n):DrOK (dhS D m) (n+1):=by
 unfold dhS
 split
 ·refine⟨h.w,h.L,h.r,h.o,h.s,fun e=>by show wtI D.l _=[];rw[h.p e];rfl,List.Pairwise.filter _ h.l,fun x hx=>h.x x (List.mem_filter.1 hx).1,Nat.le_succ_of_le h.k⟩
 exact h.mono (Nat.le_succ n)
theorem dk_tk {D:DrT}{n:Nat}(h:DrOK D n):DrOK (tkS D) (n+1):=by
 unfold tkS
 split
 ·exact h.mono (Nat.le_succ n)
 exact⟨h.w,h.L,h.r,h.o,h.s,h.p,h.l,h.x,Nat.succ_le_succ h.k⟩
def inE:Enc Int where
 c:=fun x=>[.int i64 x]
 n:=1
 len:=fun _=>rfl
 pos:=by decide
 one:=by
  intro x u hu;simp at hu;subst hu;rfl
theorem in_cells (L:List Int):cellsG inE L=L.map (Value.int i64):=by
 induction L with
 | nil=>rfl
 | cons x r ih =>
   simp only[cellsG,List.flatMap_cons,List.map_cons] at *;rw[ih];rfl
theorem in_at {w:World}{g o:Nat}{L:List Int}(h:GAt inE w g o L){n k:Nat}(hn:L.length=n)(hk:k<n):∃(x:Int) (hl:k<L.length),L[k]=x∧w.cell? ⟨g,o+k,none⟩=some (.int i64 x):=by
 have hl:k<L.length:=by omega
 have:=h k hl 0 _ rfl;refine⟨_,hl,rfl,?_⟩;have e:o+k*inE.n+0=o+k:=by show o+k*1+0=o+k;omega
 rw[e] at this;exact this
abbrev SlT:Type:=AdQ×Nat×Nat
def slV (x:SlT):Value:=.slice x.1 x.2.1 x.2.2
def slE:Enc SlT where
 c:=fun x=>[slV x]
 n:=1
 len:=fun _=>rfl
 pos:=by decide
 one:=by
  intro x u hu;simp at hu;subst hu;rfl
theorem grown_below {w w':World}(hb:Below w.heap.size w w'):w.grownBy w' none:=⟨hb.os,hb.tape,hb.output,hb.size,fun k hk _=>hb.block k hk⟩
theorem grown_set (w:World)(b i:Nat)(v:Value):w.grownBy (w.setCell ⟨b,i,none⟩ v) (some b):=
 ⟨rfl,rfl,rfl,by simp[World.setCell],fun k _ hk=>Below.heap_setCell _ _ _ _ (fun e=>hk (by simp[e]))⟩
theorem none_or (o:Option Nat):o=none∨o≠none:=by cases o <;> simp
theorem run_append_blk {P:Program}{w:World}{base:Nat}(t ty e:TypeId)(i:TypeInfo)(z:Value)(ht:P.underlying t=some (.slice e))(hi:P.info? e=some i)(hz:i.zero=some z)
 (v:Value) (n:Nat) (xs:List Value) (hown:w.ownsRow base e i.size v n xs)
 (a:Addr) (c:Nat) (news:List Value) (hl:news.length=1*i.size) (hnews:∀j u,news[j]?=some u→w.cell? (a.add j)=some u) (h1:∀u∈news,u.oneCell'=true)
 (h63:n+1≤maxLen) (hbytes:(n+1)*i.bytes≤140737488355328) {v':Value} {w':World} (hr:(Builtin.append_ #[t,t] ty #[v,.slice (some a) 1 c]).run P w=.ok v' w'):v'.ownBlock=v.ownBlock∨v'.ownBlock=some w.heap.size:=by
 have hm:n+1≤9223372036854775807:=by simp only[maxLen] at h63;omega
 rcases hown.2 with ⟨rfl,rfl⟩ | ⟨g,cap,cur,rfl,hbg,hg,hnc,hcm,hcs,htake⟩
 ·rw[run_append_nil (P:=P) w t ty e i z ht hi hz a 1 c news hl hnews (by omega) (by omega) (by have hb:=hbytes;simp only[Nat.zero_add] at hb;omega)] at hr;cases hr;exact .inr rfl
 by_cases hroom:n+1≤cap
 ·have hfit:n*i.size+news.length≤cur.size:=by rw[hl,hcs,←Nat.add_mul];exact Nat.mul_le_mul_right _ hroom
  rw[run_append_room (P:=P) w t ty e i ht hi g n cap cur hg a 1 c news hl hnews h1 hroom hfit] at hr;cases hr;exact .inl rfl
 rw[run_append_grow (P:=P) w t ty e i z ht hi hz ⟨g,0,none⟩ n cap xs hown.1 (hown.cells (g:=g) rfl) a 1 c news hl hnews (by omega) (by omega) (growslice_fits (by omega) hbytes)] at hr;cases hr;exact .inr rfl
theorem wpList_append_blk {P:Program}{α:Type}{E:Enc α}(w:World){ops:Array Oper}{rest:List Oper}{o:Oper}{a:Act}{Q:Exit→Act→World→Prop}(hgd:o.guard=none)(s x:Operand)(t e:TypeId)
 (ho:o.op=.call { callee:=.builtin .append,args:=#[s,x],argTypes:=#[t,t] }) (ht:P.underlying t=some (.slice e)) (i:TypeInfo) (z:Value) (bytes:Nat) (hi:P.info? e=some i) (hz:i.zero=some z)
 (hsize:i.size=E.n) (hby:i.bytes=bytes) (hzs:z.cells.size=E.n) (base:Nat)
 (v:Value) (hs:a.eval s=v) (L:List α) (hown:w.ownsRow base e E.n v L.length (cellsG E L)) (g q c:Nat) (hx:a.eval x=.slice (some ⟨g,q,none⟩) 1 c) (y:α) (hM:VAt w g q (E.c y))
 (h63:L.length+1≤maxLen) (hbytes:(L.length+1)*bytes≤140737488355328) (hbase:base≤w.heap.size)
 (h:∀v' w',w'.ownsRow base e E.n v' (L++[y]).length (cellsG E (L++[y]))→w.grownBy w' v.ownBlock→v'.ownBlock=v.ownBlock∨v'.ownBlock=some w.heap.size→wpList P ops Q rest (a.put o.dst v') w'):wpList P ops Q (o :: rest) a w:=by
 have hG:GAt E w g q [y]:=by
  intro k hk;obtain rfl:k=0:=by simp at hk;omega
  simpa using hM
 have hc:=hG.cells;rw[cellsG_one] at hc;have hl:(E.c y).length=1*E.n:=by rw[E.len];omega
 obtain⟨v',w',hr,h2,h3,_⟩:=run_append_own (P:=P) w base t o.type e i z E.n bytes ht hi hz hsize hby hzs E.pos v _ _ hown ⟨g,q,none⟩ 1 c (E.c y) hl hc (E.one y) h63 hbytes hbase;have hb:=run_append_blk (P:=P) t o.type e i z ht hi hz v _ _ (by rw[hsize];exact hown) ⟨g,q,none⟩ c (E.c y) (by rw[hsize];exact hl) hc (E.one y) h63 (by rw[hby];exact hbytes) hr;refine wpList_plain hgd fun K hK=>?_
 unfold Oper.wp execOp;simp only[ho,resolve,invoke,builtin,Sem.run_bind,Sem.run_pure,Result.andThen_ok,List.map_toArray,List.map_cons,List.map_nil,hs,hx,hr];exact hK _ _ (h v' w' (by rw[List.length_append,cellsG_app,cellsG_one];exact h2) h3 hb)
section
variable {e1 e2:TypeId}{w w':World}{B:Nat}{v u:Value}{vs us:List SlT}{Cs Ps:List (List Int)}
end
theorem isSwitch_any (S a:Int)(w:World):
 Calls prog 49 #[.int i64 S,.int i64 a] w fun e w'=>e=.returned (.bool (swB S a))∧Below w.heap.size w w':=by
 by_cases h1:1≤a
 ·by_cases h2:a≤S
  ·have e:swB S a=true:=sw_of.2 ⟨h1,h2⟩;rw[e];clear e;go_enter func49,ntmps49;go_wp2;go_ret;exact⟨rfl,bRQ _ _⟩
  have e:swB S a=false:=by simp[swB,h2]
  rw[e];clear e;go_enter func49,ntmps49;go_wp2;go_ret;exact⟨rfl,bRQ _ _⟩
 have e:swB S a=false:=by simp[swB,h1]
 rw[e];clear e;go_enter func49,ntmps49;go_wp2;go_ret;exact⟨rfl,bRQ _ _⟩
end
section
def noV (n:Int):Value:=if n=0 then .nilIface else .iface 63 (.int i64 n)
theorem no_ok {n:Int}(h:n=0):noV n=.nilIface:=by simp[noV,h]
theorem no_ne {n:Int}(h:n≠0):noV n=.iface 63 (.int i64 n):=by simp[noV,h]
end
section
open Go.RowKit
def TBox (W:World)(g:Nat)(S:Int)(v1 v2:Value):Prop:=W.cell? ⟨g,0,none⟩=some (.int i64 S)∧W.cell? ⟨g,1,none⟩=some v1∧W.cell? ⟨g,2,none⟩=some v2
theorem TBox.lt {W:World}{g:Nat}{S:Int}{v1 v2:Value}(h:TBox W g S v1 v2):g<W.heap.size:=bLQ _ _ h.1
theorem TBox.but {X:List Nat}{W W':World}{g:Nat}{S:Int}{v1 v2:Value}(h:TBox W g S v1 v2)(hb:But X W W')(hX:g ∉ X):TBox W' g S v1 v2:=
 ⟨(hb.cell (p:=⟨g,0,none⟩) h.lt hX).trans h.1,(hb.cell (p:=⟨g,1,none⟩) h.lt hX).trans h.2.1,(hb.cell (p:=⟨g,2,none⟩) h.lt hX).trans h.2.2⟩
theorem TBox.later {W W':World}{g:Nat}{S:Int}{v1 v2:Value}(h:TBox W g S v1 v2)(hb:Below W.heap.size W W'):TBox W' g S v1 v2:=h.but (X:=[]) (But.of_below hb) (by simp)
theorem bcell {W w1:World}(hb:Below W.heap.size W w1):(∀b o,b<W.heap.size→w1.cell? ⟨b,o,none⟩=W.cell? ⟨b,o,none⟩)∧(∀b o,b<W.heap.size→w1.frozen? ⟨b,o,none⟩=W.frozen? ⟨b,o,none⟩):=
 ⟨fun b o h=>hb.cell (p:=⟨b,o,none⟩) h,fun b o h=>hb.frozen (p:=⟨b,o,none⟩) h⟩
theorem isHeader_yes (n:Int)(w:World)(h:hdrB n=true):
 Calls prog 58 #[.int i64 n] w fun e w'=>e=.returned (.bool true)∧w'=w:=by
 obtain⟨h1,h2⟩:=hdr_of h;clear h;go_enter func58,ntmps58;go_wp2;go_ret;exact⟨rfl,rfl⟩
theorem isHeader_no (n:Int)(w:World)(h:hdrB n=false):
 Calls prog 58 #[.int i64 n] w fun e w'=>e=.returned (.bool false)∧w'=w:=by
 rcases hdr_no h with h1 | h1
 ·clear h;go_enter func58,ntmps58;go_wp2;go_ret;exact⟨rfl,rfl⟩
 have h2:0≤n:=by omega
 have h3:decide (n<16)=false:=by simp;omega
 clear h;go_enter func58,ntmps58;go_wp2;go_ret;exact⟨rfl,rfl⟩
theorem check_range (m b:Int)(w:World)(h:rngB m b=false):
 Calls prog 59 #[.agg #[.int i64 m,.int i64 b]] w fun e w'=>e=.returned (.iface 63 (.int i64 1))∧Below w.heap.size w w':=by
 by_cases hm:hdrB m=true
 ·have hb:hdrB b=false:=by simpa[rngB,hm] using h
  clear h;go_enter func59,ntmps59
  go_wp2_with fail
  refine (isHeader_yes _ _ hm).mono ?_;rintro e w' ⟨rfl,rfl⟩
  go_wp2_with fail
  refine (isHeader_no _ _ hb).mono ?_;rintro e w' ⟨rfl,rfl⟩;go_wp2;go_ret;exact⟨rfl,(bRQ _ _).alloc (nLQ _) _⟩
 have hm':hdrB m=false:=by simpa using hm
 clear h hm;go_enter func59,ntmps59
 go_wp2_with fail
 refine (isHeader_no _ _ hm').mono ?_;rintro e w' ⟨rfl,rfl⟩;go_wp2;go_ret;exact⟨rfl,(bRQ _ _).alloc (nLQ _) _⟩
theorem check_shape (m b:Int)(w:World)(h:rngB m b=true)(h2:okB m b=false):
 Calls prog 59 #[.agg #[.int i64 m,.int i64 b]] w fun e w'=>e=.returned (.iface 63 (.int i64 3))∧Below w.heap.size w w':=by
 have hm:hdrB m=true:=by simp only[rngB,Bool.and_eq_true] at h;exact h.1
 have hb:hdrB b=true:=by simp only[rngB,Bool.and_eq_true] at h;exact h.2
 have hz:(bits .andNot .i64 b m==0)=false:=by simpa[okB,h] using h2
 clear h h2;go_enter func59,ntmps59
 go_wp2_with fail
 refine (isHeader_yes _ _ hm).mono ?_;rintro e w' ⟨rfl,rfl⟩
 go_wp2_with fail
 refine (isHeader_yes _ _ hb).mono ?_;rintro e w' ⟨rfl,rfl⟩;go_wp2;go_ret;exact⟨rfl,(bRQ _ _).alloc (nLQ _) _⟩
theorem check_ok (m b:Int)(w:World)(h:okB m b=true):
 Calls prog 59 #[.agg #[.int i64 m,.int i64 b]] w fun e w'=>e=.returned .nilIface∧Below w.heap.size w w':=by
 have hm:hdrB m=true:=hdr_mk (ok_of h).1;have hb:hdrB b=true:=hdr_mk (ok_of h).2;have hz:(bits .andNot .i64 b m==0)=true:=by simp only[okB,Bool.and_eq_true] at h;exact h.2
 clear h;go_enter func59,ntmps59
 go_wp2_with fail
 refine (isHeader_yes _ _ hm).mono ?_;rintro e w' ⟨rfl,rfl⟩
 go_wp2_with fail
 refine (isHeader_yes _ _ hb).mono ?_;rintro e w' ⟨rfl,rfl⟩;go_wp2;go_ret;exact⟨rfl,(bRQ _ _).alloc (nLQ _) _⟩
theorem check_no (m b:Int)(w:World):
 Calls prog 59 #[.agg #[.int i64 m,.int i64 b]] w fun e w'=>e=.returned (noV (refN m b))∧Below w.heap.size w w':=by
 cases hr:rngB m b
 ·have e:noV (refN m b)=.iface 63 (.int i64 1):=by rw[refN_range hr];rfl
  rw[e];exact check_range m b w hr
 cases ho:okB m b
 ·have e:noV (refN m b)=.iface 63 (.int i64 3):=by rw[refN_shape ho hr];rfl
  rw[e];exact check_shape m b w hr ho
 have e:noV (refN m b)=.nilIface:=by rw[refN_ok ho];rfl
 rw[e];exact check_ok m b w ho
theorem ruCheck_prio (p m b o s v:Int)(w:World)(h:ruP p o=false):
 Calls prog 50 #[.agg #[.int i64 p,.int i64 m,.int i64 b,.int i64 o,.int i64 s,.int i64 v]] w fun e w'=>e=.returned (.iface 63 (.int i64 1))∧Below w.heap.size w w':=by
 have hc:p<0∨(0≤p∧99<p)∨((0≤p∧p≤99)∧o<0)∨((0≤p∧p≤99)∧(0≤o∧4<o)):=by
  simp[ruP] at h;omega
 clear h
 rcases hc with h1 | ⟨h1,h2⟩ | ⟨⟨h1,h2⟩,h3⟩ | ⟨⟨h1,h2⟩,h3,h4⟩
 ·have e1:decide (p<0)=true:=by simp;omega
  go_enter func50,ntmps50;go_wp2;go_ret;exact⟨rfl,(bRQ _ _).alloc (nLQ _) _⟩
 ·have e1:decide (p<0)=false:=by simp;omega
  have e2:decide (99<p)=true:=by simp;omega
  go_enter func50,ntmps50;go_wp2;go_ret;exact⟨rfl,(bRQ _ _).alloc (nLQ _) _⟩
 ·have e1:decide (p<0)=false:=by simp;omega
  have e2:decide (99<p)=false:=by simp;omega
  have e3:decide (o<0)=true:=by simp;omega
  go_enter func50,ntmps50;go_wp2;go_ret;exact⟨rfl,(bRQ _ _).alloc (nLQ _) _⟩
 have e1:decide (p<0)=false:=by simp;omega
 have e2:decide (99<p)=false:=by simp;omega
 have e3:decide (o<0)=false:=by simp;omega
 have e4:decide (4<o)=true:=by simp;omega
 go_enter func50,ntmps50;go_wp2;go_ret;exact⟨rfl,(bRQ _ _).alloc (nLQ _) _⟩
theorem ruP_of {p o:Int}(h:ruP p o=true):decide (p<0)=false∧decide (99<p)=false∧decide (o<0)=false∧decide (4<o)=false:=by
 simp only[ruP,Bool.and_eq_true,decide_eq_true_eq] at h;refine⟨?_,?_,?_,?_⟩ <;> simp <;> omega
theorem ruCheck_set (p m b o s v:Int)(w:World)(h:ruP p o=true)(h2:rngB s v=false):
 Calls prog 50 #[.agg #[.int i64 p,.int i64 m,.int i64 b,.int i64 o,.int i64 s,.int i64 v]] w fun e w'=>e=.returned (.iface 63 (.int i64 1))∧Below w.heap.size w w':=by
 obtain⟨e1,e2,e3,e4⟩:=ruP_of h;clear h;cases hs:hdrB s
 ·clear h2;go_enter func50,ntmps50
  go_wp2_with fail
  refine (isHeader_no _ _ hs).mono ?_;rintro e w' ⟨rfl,rfl⟩;go_wp2;go_ret;exact⟨rfl,(bRQ _ _).alloc (nLQ _) _⟩
 have hv:hdrB v=false:=by simpa[rngB,hs] using h2
 clear h2;go_enter func50,ntmps50
 go_wp2_with fail
 refine (isHeader_yes _ _ hs).mono ?_;rintro e w' ⟨rfl,rfl⟩
 go_wp2_with fail
 refine (isHeader_no _ _ hv).mono ?_;rintro e w' ⟨rfl,rfl⟩;go_wp2;go_ret;exact⟨rfl,(bRQ _ _).alloc (nLQ _) _⟩
theorem ruCheck_cube (p m b o s v:Int)(w:World)(h:ruP p o=true)(h2:rngB s v=true)(h3:okB m b=false):
 Calls prog 50 #[.agg #[.int i64 p,.int i64 m,.int i64 b,.int i64 o,.int i64 s,.int i64 v]] w fun e w'=>e=.returned (.iface 63 (.int i64 (refN m b)))∧Below w.heap.size w w':=by
 obtain⟨e1,e2,e3,e4⟩:=ruP_of h;have hs:hdrB s=true:=by simp only[rngB,Bool.and_eq_true] at h2;exact h2.1
 have hv:hdrB v=true:=by simp only[rngB,Bool.and_eq_true] at h2;exact h2.2
 have hn:refN m b≠0:=by have:=ok_refN m b;rw[h3] at this;simpa using this
 clear h h2 h3;go_enter func50,ntmps50
 go_wp2_with fail
 refine (isHeader_yes _ _ hs).mono ?_;rintro e w' ⟨rfl,rfl⟩
 go_wp2_with fail
 refine (isHeader_yes _ _ hv).mono ?_;rintro e w' ⟨rfl,rfl⟩
 go_wp2_with fail
 refine (check_no _ _ _).mono ?_;rintro e w1 ⟨rfl,hb1⟩;rw[no_ne hn];go_wp2;go_ret;exact⟨rfl,((bRQ _ _).alloc (nLQ _) _).trans (hb1.mono (by simp))⟩
theorem ruCheck_end (p m b o s v:Int)(w:World)(h:ruP p o=true)(h2:rngB s v=true)(h3:okB m b=true):
 Calls prog 50 #[.agg #[.int i64 p,.int i64 m,.int i64 b,.int i64 o,.int i64 s,.int i64 v]] w fun e w'=>e=.returned (if ruSet o s v then .nilIface else .iface 63 (.int i64 3))∧Below w.heap.size w w':=by
 obtain⟨e1,e2,e3,e4⟩:=ruP_of h;have hs:hdrB s=true:=by simp only[rngB,Bool.and_eq_true] at h2;exact h2.1
 have hv:hdrB v=true:=by simp only[rngB,Bool.and_eq_true] at h2;exact h2.2
 have hn:refN m b=0:=refN_ok h3;have hlt:w.heap.size<(w.alloc (.cells #[.int i64 p,.int i64 m,.int i64 b,.int i64 o,.int i64 s,.int i64 v] 35)).heap.size:=by simp
 clear h h2 h3;cases ha:(bits .andNot .i64 v s==0)
 ·have e:ruSet o s v=false:=by simp[ruSet,ha]
  rw[e];clear e;simp only[Bool.false_eq_true,if_false];have ha2:(bits .andNot .i64 v s != 0)=true:=by simpa using ha
  go_enter func50,ntmps50
  go_wp2_with fail
  refine (isHeader_yes _ _ hs).mono ?_;rintro e w' ⟨rfl,rfl⟩
  go_wp2_with fail
  refine (isHeader_yes _ _ hv).mono ?_;rintro e w' ⟨rfl,rfl⟩
  go_wp2_with fail
  refine (check_no _ _ _).mono ?_;rintro e w1 ⟨rfl,hb1⟩;rw[no_ok hn];obtain⟨hc1,hf1⟩:=bcell hb1;have hB:=((Below.refl w.heap.size w).alloc (nLQ _) (Obj.cells #[.int i64 p,.int i64 m,.int i64 b,.int i64 o,.int i64 s,.int i64 v] 35)).trans (hb1.mono (by simp));clear hb1;go_wp2;go_ret;exact⟨rfl,hB⟩
 cases ho:(o==0)
 ·have e:ruSet o s v=true:=by simp[ruSet,ha,ho]
  rw[e];clear e;simp only[if_true];have ha2:(bits .andNot .i64 v s != 0)=false:=by simpa using ha
  go_enter func50,ntmps50
  go_wp2_with fail
  refine (isHeader_yes _ _ hs).mono ?_;rintro e w' ⟨rfl,rfl⟩
  go_wp2_with fail
  refine (isHeader_yes _ _ hv).mono ?_;rintro e w' ⟨rfl,rfl⟩
  go_wp2_with fail
  refine (check_no _ _ _).mono ?_;rintro e w1 ⟨rfl,hb1⟩;rw[no_ok hn];obtain⟨hc1,hf1⟩:=bcell hb1;have hB:=((Below.refl w.heap.size w).alloc (nLQ _) (Obj.cells #[.int i64 p,.int i64 m,.int i64 b,.int i64 o,.int i64 s,.int i64 v] 35)).trans (hb1.mono (by simp));clear hb1;go_wp2;go_ret;exact⟨rfl,hB⟩
 cases hz:(s==0)
 ·have e:ruSet o s v=false:=by simp[ruSet,ha,ho,hz]
  rw[e];clear e;simp only[Bool.false_eq_true,if_false];have ha2:(bits .andNot .i64 v s != 0)=false:=by simpa using ha
  go_enter func50,ntmps50
  go_wp2_with fail
  refine (isHeader_yes _ _ hs).mono ?_;rintro e w' ⟨rfl,rfl⟩
  go_wp2_with fail
  refine (isHeader_yes _ _ hv).mono ?_;rintro e w' ⟨rfl,rfl⟩
  go_wp2_with fail
  refine (check_no _ _ _).mono ?_;rintro e w1 ⟨rfl,hb1⟩;rw[no_ok hn];obtain⟨hc1,hf1⟩:=bcell hb1;have hB:=((Below.refl w.heap.size w).alloc (nLQ _) (Obj.cells #[.int i64 p,.int i64 m,.int i64 b,.int i64 o,.int i64 s,.int i64 v] 35)).trans (hb1.mono (by simp));clear hb1;go_wp2;go_ret;exact⟨rfl,hB⟩
 have e:ruSet o s v=true:=by simp[ruSet,ha,ho,hz]
 rw[e];clear e;simp only[if_true];have ha2:(bits .andNot .i64 v s != 0)=false:=by simpa using ha
 go_enter func50,ntmps50
 go_wp2_with fail
 refine (isHeader_yes _ _ hs).mono ?_;rintro e w' ⟨rfl,rfl⟩
 go_wp2_with fail
 refine (isHeader_yes _ _ hv).mono ?_;rintro e w' ⟨rfl,rfl⟩
 go_wp2_with fail
 refine (check_no _ _ _).mono ?_;rintro e w1 ⟨rfl,hb1⟩;rw[no_ok hn];obtain⟨hc1,hf1⟩:=bcell hb1;have hB:=((Below.refl w.heap.size w).alloc (nLQ _) (Obj.cells #[.int i64 p,.int i64 m,.int i64 b,.int i64 o,.int i64 s,.int i64 v] 35)).trans (hb1.mono (by simp));clear hb1;go_wp2;go_ret;exact⟨rfl,hB⟩
theorem ruCheck_any (p m b o s v:Int)(w:World):
 Calls prog 50 #[.agg #[.int i64 p,.int i64 m,.int i64 b,.int i64 o,.int i64 s,.int i64 v]] w fun e w'=>e=.returned (noV (ruN p m b o s v))∧Below w.heap.size w w':=by
 cases h1:ruP p o
 ·have e:noV (ruN p m b o s v)=.iface 63 (.int i64 1):=by simp[ruN,ruIn,h1,noV]
  rw[e];exact ruCheck_prio p m b o s v w h1
 cases h2:rngB s v
 ·have e:noV (ruN p m b o s v)=.iface 63 (.int i64 1):=by simp[ruN,ruIn,h2,noV]
  rw[e];exact ruCheck_set p m b o s v w h1 h2
 cases h3:okB m b
 ·have hn:refN m b≠0:=by have:=ok_refN m b;rw[h3] at this;simpa using this
  have e:noV (ruN p m b o s v)=.iface 63 (.int i64 (refN m b)):=by simp[ruN,ruIn,h1,h2,h3,noV,hn]
  rw[e];exact ruCheck_cube p m b o s v w h1 h2 h3
 have e:noV (ruN p m b o s v)=(if ruSet o s v then .nilIface else .iface 63 (.int i64 3)):=by
  cases h4:ruSet o s v <;> simp[ruN,ruIn,h1,h2,h3,noV,h4]
 rw[e];exact ruCheck_end p m b o s v w h1 h2 h3
def offB (x:SlT)(b:Nat):Prop:=x.2.1=0∨∀a,x.1=some a→a.block≠b
section
variable {e:TypeId}{w w':World}{A B:Nat}{v:Value}{vs:List SlT}{Ts:TsQ}
end
theorem own_below {w w':World}{B e size n:Nat}{v:Value}{xs:List Value}(h:w.ownsRow B e size v n xs)(hb:Below w.heap.size w w'):w'.ownsRow B e size v n xs:=by
 obtain⟨h1,h2 | ⟨g,cap,cur,hv,hB,hg,h3⟩⟩:=h
 ·exact⟨h1,.inl h2⟩
 have hlt:g<w.heap.size:=by
  rcases Nat.lt_or_ge g w.heap.size with h | h
  ·exact h
  rw[Array.getElem?_eq_none h] at hg;cases hg
 exact⟨h1,.inr ⟨g,cap,cur,hv,hB,(hb.block g hlt).trans hg,h3⟩⟩
theorem own_mono {w:World}{B B' e size n:Nat}{v:Value}{xs:List Value}(h:w.ownsRow B e size v n xs)(hB:B'≤B):w.ownsRow B' e size v n xs:=by
 obtain⟨h1,h2 | ⟨g,cap,cur,hv,hb,h3⟩⟩:=h
 ·exact⟨h1,.inl h2⟩
 exact⟨h1,.inr ⟨g,cap,cur,hv,Nat.le_trans hB hb,h3⟩⟩
theorem infoInt:(Tryd.prog.info? 3).map (fun i=>(i.zero,i.size,i.bytes))=some (some (.int i64 0),1,8):=by kernel_rfl
theorem quiet_val {P:Program}{o:Oper}{a:Act}{C:World→Prop}{K:Act→Prop}{v:Value}
 (hy:∀w,C w→(execOp a.eval o).run P w=.ok (.value v) w) (h:K (a.put o.dst v)):o.quiet P a C K:=
 ⟨v,fun w hC=>by unfold Oper.quietAt;rw[hy w hC];exact⟨rfl,rfl⟩,h⟩
theorem qv {P:Program}{o:Oper}{a:Act}{C:World→Prop}{K:Act→Prop}(v:Value)(hy:∀w,C w→(execOp a.eval o).run P w=.ok (.value v) w)(h:K (a.put o.dst v)):o.quiet P a C K:=quiet_val hy h
theorem quiet_call {P:Program}{o:Oper}{a:Act}{C:World→Prop}{K:Act→Prop}{v:Value}{f:FuncId}{args:Array Value}
 (he:∀w,(execOp a.eval o).run P w=.ok (.enter f args) w) (hc:∀w,C w→Calls P f args w fun e w''=>e=.returned v∧C w'') (h:K (a.put o.dst v)):o.quiet P a C K:=
 ⟨v,fun w hC=>by unfold Oper.quietAt;rw[he w];exact⟨rfl,hc w hC⟩,h⟩
theorem exec_bin {P:Program}{o:Oper}{a:Act}{w:World}{op:BinOp}{t t2:TypeId}{x y:Operand}{v:Value}(ho:o.op=.binOp op t x y t2)(hg:(eqGuard op t x y (a.eval x) (a.eval y)).run P w=.ok () w)
 (h:(binOp op t (a.eval x) (a.eval y)).run P w=.ok v w):(execOp a.eval o).run P w=.ok (.value v) w:=by
 simp[execOp,ho,hg,h,Result.andThen]
theorem run_neq_of {P:Program}{w:World}{t:TypeId}{x y:Array Value}{b:Bool}(h:(Op.equal t (.agg x) (.agg y)).run P w=.ok b w):(binOp .neq t (.agg x) (.agg y)).run P w=.ok (.bool (!b)) w:=by
 simp[binOp,h]
def NO (w:World)(B:Nat)(v:Value)(L:List Op8):Prop:=w.ownsRow B 37 8 v L.length (cellsG opE L)
theorem NO.gs {w:World}{B:Nat}{v:Value}{L:List Op8}(h:NO w B v L):GS opE w v L:=own_GS (E:=opE) h
theorem NO.nil (w:World)(B:Nat):NO w B (.slice none 0 0) []:=World.ownsRow_nil w B _ 8
theorem NO.mono {w:World}{B B':Nat}{v:Value}{L:List Op8}(h:NO w B v L)(hB:B'≤B):NO w B' v L:=by
 obtain⟨h1,h2 | ⟨g,cap,cur,hv,hb,h3⟩⟩:=h
 ·exact⟨h1,.inl h2⟩
 exact⟨h1,.inr ⟨g,cap,cur,hv,Nat.le_trans hB hb,h3⟩⟩
theorem NO.later {w w':World}{B:Nat}{v:Value}{L:List Op8}(h:NO w B v L)(hb:Below w.heap.size w w'):NO w' B v L:=h.kept (grown_below hb) (none_or _)
theorem NO.ofn {w:World}{B n:Nat}{v:Value}{M L:List Op8}(h:w.ownsRow B 37 8 v n (cellsG opE M))(hL:M=L)(hn:n=L.length):NO w B v L:=by subst hL hn;exact h
theorem GS.off {α:Type}{E:Enc α}{w:World}{x:SlT}{L:List α}(h:GS E w (slV x) L){b:Nat}(hb:w.heap.size≤b):offB x b:=by
 obtain⟨ao,n,cap⟩:=x
 rcases h with ⟨ao',cap',e,rfl⟩ | ⟨g,o,cap',e,h1,h2,h3⟩
 ·simp only[slV,Value.slice.injEq] at e;exact .inl e.2.1
 simp only[slV,Value.slice.injEq] at e;obtain⟨rfl,rfl,rfl⟩:=e;by_cases h0:L.length=0
 ·exact .inl h0
 refine .inr fun a ha=>?_
 cases ha;have hp:=E.pos;have hl:=E.len L[0];have hc:=h3 0 (by omega) 0 _ (List.getElem?_eq_getElem (by rw[hl];exact hp));have:=bLQ _ _ hc;show g≠b;have:g<w.heap.size:=this;omega
theorem GS.grown {α:Type}{E:Enc α}{w w':World}{x:SlT}{L:List α}{row:Option Nat}(h:GS E w (slV x) L)(hg:w.grownBy w' row)(ho:∀b,row=some b→offB x b):GS E w' (slV x) L:=by
 obtain⟨ao,n,cap⟩:=x
 rcases h with ⟨ao',cap',e,rfl⟩ | ⟨g,o,cap',e,h1,h2,h3⟩
 ·exact .inl ⟨ao',cap',e,rfl⟩
 simp only[slV,Value.slice.injEq] at e;obtain⟨rfl,rfl,rfl⟩:=e;by_cases h0:L.length=0
 ·exact .inl ⟨_,_,by rw[slV,h0],List.length_eq_zero_iff.1 h0⟩
 have hne:some g≠row:=by
  intro e
  rcases ho g e.symm with h4 | h4
  ·exact h0 h4
  exact h4 _ rfl rfl
 exact .inr ⟨g,o,cap,rfl,h1,h2,fun i hi j u hu=>hg.cell (h3 i hi j u hu) hne⟩
def RS (w:World)(v:Value)(Rs:List (List Op8)):Prop:=∃vs:List SlT,GS slE w v vs∧vs.length=Rs.length∧∀(i:Nat) (x:SlT) (L:List Op8),vs[i]?=some x→Rs[i]?=some L→GS opE w (slV x) L
theorem RS.later {w w':World}{v:Value}{Rs:List (List Op8)}(h:RS w v Rs)(hb:Below w.heap.size w w'):RS w' v Rs:=by
 obtain⟨vs,h1,h2,h3⟩:=h;exact⟨vs,h1.later hb,h2,fun i x L a b=>(h3 i x L a b).later hb⟩
theorem RS.nil (w:World):RS w (.slice none 0 0) []:=⟨[],GS.nil _,rfl,fun i x L h=>by simp at h⟩
theorem RS.at {w:World}{ao:AdQ}{n cap:Nat}{Rs:List (List Op8)}(h:RS w (.slice ao n cap) Rs){i:Nat}(hi:i<n):∃(g o:Nat) (L:List Op8) (a1:AdQ) (n1 c1:Nat),ao=some ⟨g,o,none⟩∧Rs[i]?=some L∧w.cell? ⟨g,o+i,none⟩=some (.slice a1 n1 c1)∧GS opE w (.slice a1 n1 c1) L:=by
 obtain⟨vs,h1,h2,h3⟩:=h;obtain⟨_,_,_,e,hn,_,_,ha⟩:=h1.form;cases e;obtain⟨g,o,rfl,hat,_⟩:=ha (by omega);have hv:i<vs.length:=by omega
 have hr:i<Rs.length:=by omega
 have hc:=hat i hv 0 _ rfl;have e2:o+i*slE.n+0=o+i:=by show o+i*1+0=o+i;omega
 rw[e2] at hc;exact⟨g,o,Rs[i],vs[i].1,vs[i].2.1,vs[i].2.2,rfl,List.getElem?_eq_getElem hr,hc,h3 i vs[i] Rs[i] (List.getElem?_eq_getElem hv) (List.getElem?_eq_getElem hr)⟩
theorem RS.len {w:World}{ao:AdQ}{n cap:Nat}{Rs:List (List Op8)}(h:RS w (.slice ao n cap) Rs):Rs.length=n:=by
 obtain⟨vs,h1,h2,_⟩:=h;obtain⟨_,_,_,e,hn,_⟩:=h1.form;cases e;omega
theorem RS.form {w:World}{v:Value}{Rs:List (List Op8)}(h:RS w v Rs):∃ao n cap,v=.slice ao n cap∧Rs.length=n∧n≤maxLen∧n≤cap:=by
 obtain⟨vs,h1,h2,_⟩:=h;obtain⟨ao,n,cap,e,hn,h3,h4,_⟩:=h1.form;exact⟨ao,n,cap,e,by omega,h3,h4⟩
structure OR (w:World)(B:Nat)(v:Value)(vs:List SlT)(Rs:List (List Op8)):Prop where
 ov:w.ownsRow B 43 slE.n v vs.length (cellsG slE vs)
 lv:vs.length=Rs.length
 rv:∀(i:Nat) (x:SlT) (L:List Op8),vs[i]?=some x→Rs[i]?=some L→GS opE w (slV x) L∧∀b,v.ownBlock=some b→offB x b
section
variable {w w':World}{B:Nat}{v:Value}{vs:List SlT}{Rs:List (List Op8)}
theorem or_nil (w:World)(B:Nat):OR w B (.slice none 0 0) [] []:=⟨World.ownsRow_nil w B _ slE.n,rfl,fun i x L h=>by simp at h⟩
theorem OR.later (h:OR w B v vs Rs)(hb:Below w.heap.size w w'):OR w' B v vs Rs:=
 ⟨h.ov.kept (grown_below hb) (none_or _),h.lv,fun i x L h1 h2=>⟨(h.rv i x L h1 h2).1.later hb,(h.rv i x L h1 h2).2⟩⟩
theorem OR.rs (h:OR w B v vs Rs):RS w v Rs:=⟨vs,own_GS h.ov,h.lv,fun i x L a b=>(h.rv i x L a b).1⟩
theorem OR.push (h:OR w B v vs Rs){x:SlT}{L:List Op8}(hx:GS opE w (slV x) L){v':Value}(hox:∀b,v.ownBlock=some b→offB x b)
 (hg:w.grownBy w' v.ownBlock) (ho:w'.ownsRow B 43 slE.n v' (vs++[x]).length (cellsG slE (vs++[x]))) (hb:v'.ownBlock=v.ownBlock∨v'.ownBlock=some w.heap.size):OR w' B v' (vs++[x]) (Rs++[L]):=by
 have one:∀{y:SlT} {M:List Op8},GS opE w (slV y) M→(∀b,v.ownBlock=some b→offB y b)→GS opE w' (slV y) M∧∀b,v'.ownBlock=some b→offB y b:=by
  intro y M h1 h2;refine⟨h1.grown hg h2,fun b hv=>?_⟩
  rcases hb with hb | hb
  ·exact h2 b (by rw[←hb];exact hv)
  rw[hb] at hv;cases hv;exact h1.off (nLQ _)
 refine⟨ho,by simp[h.lv],fun i y M h1 h2=>?_⟩;by_cases hi:i<vs.length
 ·rw[List.getElem?_append_left hi] at h1;rw[List.getElem?_append_left (by rw[←h.lv];exact hi)] at h2;obtain⟨a1,a2⟩:=h.rv i y M h1 h2;exact one a1 a2
 have hi2:i=vs.length:=by
  have:=(List.getElem?_eq_some_iff.1 h1).1;simp at this;omega
 subst hi2;simp at h1;rw[h.lv] at h2;simp at h2;subst h1 h2;exact one hx hox
theorem NO.sl2 {w:World}{B:Nat}{v:Value}{L:List Op8}(h:NO w B v L):∃x:SlT,v=slV x∧∀b,b<B→offB x b:=by
 rcases h.2 with ⟨h3,_⟩ | ⟨g,cap,cur,h3,hb,_⟩
 ·exact⟨(none,0,0),h3,fun b _=>.inl rfl⟩
 refine⟨(some ⟨g,0,none⟩,L.length,cap),h3,fun b hlt=>.inr fun a ha=>?_⟩;cases ha;show g≠b;omega
end
theorem rd_info:(Tryd.prog.info? 43).map (fun i=>(i.zero,i.size,i.bytes))=some (some (.slice none 0 0),1,24):=by kernel_rfl
end
section
open Go.ChangeShapes Go.WideShapes Go.ChangeAt Go.RowKit Go.Joins
def msgE:Enc (Mg) where
 c:=fun x=>[.int i64 x.k,.int i64 x.s,.int i64 x.r,.int i64 x.i,.int i64 x.o.w,.bool x.o.a,.int i64 x.o.r.p,.int i64 x.o.r.m,.int i64 x.o.r.b,.int i64 x.o.r.o,.int i64 x.o.r.s,.int i64 x.o.r.v]
 n:=12
 len:=fun _=>rfl
 pos:=by decide
 one:=by
  intro x u hu;simp at hu
  rcases hu with rfl | rfl | rfl | rfl | rfl | rfl | rfl | rfl | rfl | rfl | rfl | rfl <;> rfl
theorem msg_cells {w:World}{g o:Nat}{x0 x1 x2 x3 x4:Int}{x5:Bool}{x6 x7 x8 x9 x10 x11:Int}(h:VAt w g o (msgE.c ⟨x0,x1,x2,x3,⟨x4,x5,⟨x6,x7,x8,x9,x10,x11⟩⟩⟩)):w.cell? ⟨g,o,none⟩=some (.int i64 x0)∧w.cell? ⟨g,o+1,none⟩=some (.int i64 x1)∧w.cell? ⟨g,o+2,none⟩=some (.int i64 x2)∧w.cell? ⟨g,o+3,none⟩=some (.int i64 x3)∧w.cell? ⟨g,o+4,none⟩=some (.int i64 x4)∧w.cell? ⟨g,o+5,none⟩=some (.bool x5)∧w.cell? ⟨g,o+6,none⟩=some (.int i64 x6)∧w.cell? ⟨g,o+7,none⟩=some (.int i64 x7)∧w.cell? ⟨g,o+8,none⟩=some (.int i64 x8)∧w.cell? ⟨g,o+9,none⟩=some (.int i64 x9)∧w.cell? ⟨g,o+10,none⟩=some (.int i64 x10)∧w.cell? ⟨g,o+11,none⟩=some (.int i64 x11):=
 ⟨h 0 _ rfl,h 1 _ rfl,h 2 _ rfl,h 3 _ rfl,h 4 _ rfl,h 5 _ rfl,h 6 _ rfl,h 7 _ rfl,h 8 _ rfl,h 9 _ rfl,h 10 _ rfl,h 11 _ rfl⟩
theorem msg_at {w:World}{g o:Nat}{L:List (Mg)}(h:GAt msgE w g o L){n k:Nat}(hn:L.length=n)(hk:k<n):
 ∃(x0:Int) (x1:Int) (x2:Int) (x3:Int) (x4:Int) (x5:Bool) (x6:Int) (x7:Int) (x8:Int) (x9:Int) (x10:Int) (x11:Int) (hl:k<L.length),L[k]=⟨x0,x1,x2,x3,⟨x4,x5,⟨x6,x7,x8,x9,x10,x11⟩⟩⟩∧w.cell? ⟨g,o+k*12,none⟩=some (.int i64 x0)∧w.cell? ⟨g,o+k*12+1,none⟩=some (.int i64 x1)∧w.cell? ⟨g,o+k*12+2,none⟩=some (.int i64 x2)∧w.cell? ⟨g,o+k*12+3,none⟩=some (.int i64 x3)∧w.cell? ⟨g,o+k*12+4,none⟩=some (.int i64 x4)∧w.cell? ⟨g,o+k*12+5,none⟩=some (.bool x5)∧w.cell? ⟨g,o+k*12+6,none⟩=some (.int i64 x6)∧w.cell? ⟨g,o+k*12+7,none⟩=some (.int i64 x7)∧w.cell? ⟨g,o+k*12+8,none⟩=some (.int i64 x8)∧w.cell? ⟨g,o+k*12+9,none⟩=some (.int i64 x9)∧w.cell? ⟨g,o+k*12+10,none⟩=some (.int i64 x10)∧w.cell? ⟨g,o+k*12+11,none⟩=some (.int i64 x11):=
 have hl:k<L.length:=by omega
 ⟨_,_,_,_,_,_,_,_,_,_,_,_,hl,rfl,msg_cells (h k hl)⟩
theorem msg_new (w:World)(x0 x1 x2 x3 x4:Int)(x5:Bool)(x6 x7 x8 x9 x10 x11:Int)(t:TypeId):VAt (w.alloc (.cells #[.int i64 x0,.int i64 x1,.int i64 x2,.int i64 x3,.int i64 x4,.bool x5,.int i64 x6,.int i64 x7,.int i64 x8,.int i64 x9,.int i64 x10,.int i64 x11] t)) w.heap.size 0 (msgE.c ⟨x0,x1,x2,x3,⟨x4,x5,⟨x6,x7,x8,x9,x10,x11⟩⟩⟩):=vat_new w [.int i64 x0,.int i64 x1,.int i64 x2,.int i64 x3,.int i64 x4,.bool x5,.int i64 x6,.int i64 x7,.int i64 x8,.int i64 x9,.int i64 x10,.int i64 x11] t
def msgB (a b:Mg):Bool:=(a.k==b.k)&&((a.s==b.s)&&((a.r==b.r)&&((a.i==b.i)&&((a.o.w==b.o.w)&&((a.o.a==b.o.a)&&((a.o.r.p==b.o.r.p)&&((a.o.r.m==b.o.r.m)&&((a.o.r.b==b.o.r.b)&&((a.o.r.o==b.o.r.o)&&((a.o.r.s==b.o.r.s)&&((a.o.r.v==b.o.r.v))))))))))))
theorem msgB_iff (a b:Mg):msgB a b=true↔a=b:=by
 have e:msgB a b=((a.k==b.k)&&((a.s==b.s)&&((a.r==b.r)&&((a.i==b.i)&&((a.o.w==b.o.w)&&((a.o.a==b.o.a)&&((a.o.r.p==b.o.r.p)&&((a.o.r.m==b.o.r.m)&&((a.o.r.b==b.o.r.b)&&((a.o.r.o==b.o.r.o)&&((a.o.r.s==b.o.r.s)&&((a.o.r.v==b.o.r.v))))))))))))):=rfl;rw[e];simp only[Bool.and_eq_true,beq_iff_eq];constructor
 ·intro h;obtain⟨a0,a1,a2,a3,⟨a4,a5,⟨a6,a7,a8,a9,a10,a11⟩⟩⟩:=a;obtain⟨b0,b1,b2,b3,⟨b4,b5,⟨b6,b7,b8,b9,b10,b11⟩⟩⟩:=b;simp at h ⊢;simp[h]
 intro h;subst h;simp
theorem msg_ways (x0 x1 x2 x3 x4:Int)(x5:Bool)(x6 x7 x8 x9 x10 x11 y0 y1 y2 y3 y4:Int)(y5:Bool)(y6 y7 y8 y9 y10 y11:Int):
 ((x0==y0)=false∧msgB ⟨x0,x1,x2,x3,⟨x4,x5,⟨x6,x7,x8,x9,x10,x11⟩⟩⟩ ⟨y0,y1,y2,y3,⟨y4,y5,⟨y6,y7,y8,y9,y10,y11⟩⟩⟩=false) ∨
 ((x0==y0)=true∧(x1==y1)=false∧msgB ⟨x0,x1,x2,x3,⟨x4,x5,⟨x6,x7,x8,x9,x10,x11⟩⟩⟩ ⟨y0,y1,y2,y3,⟨y4,y5,⟨y6,y7,y8,y9,y10,y11⟩⟩⟩=false) ∨
 ((x0==y0)=true∧(x1==y1)=true∧(x2==y2)=false∧msgB ⟨x0,x1,x2,x3,⟨x4,x5,⟨x6,x7,x8,x9,x10,x11⟩⟩⟩ ⟨y0,y1,y2,y3,⟨y4,y5,⟨y6,y7,y8,y9,y10,y11⟩⟩⟩=false) ∨
 ((x0==y0)=true∧(x1==y1)=true∧(x2==y2)=true∧(x3==y3)=false∧msgB ⟨x0,x1,x2,x3,⟨x4,x5,⟨x6,x7,x8,x9,x10,x11⟩⟩⟩ ⟨y0,y1,y2,y3,⟨y4,y5,⟨y6,y7,y8,y9,y10,y11⟩⟩⟩=false) ∨
 ((x0==y0)=true∧(x1==y1)=true∧(x2==y2)=true∧(x3==y3)=true∧(x4==y4)=false∧msgB ⟨x0,x1,x2,x3,⟨x4,x5,⟨x6,x7,x8,x9,x10,x11⟩⟩⟩ ⟨y0,y1,y2,y3,⟨y4,y5,⟨y6,y7,y8,y9,y10,y11⟩⟩⟩=false) ∨
 ((x0==y0)=true∧(x1==y1)=true∧(x2==y2)=true∧(x3==y3)=true∧(x4==y4)=true∧(x5==y5)=false∧msgB ⟨x0,x1,x2,x3,⟨x4,x5,⟨x6,x7,x8,x9,x10,x11⟩⟩⟩ ⟨y0,y1,y2,y3,⟨y4,y5,⟨y6,y7,y8,y9,y10,y11⟩⟩⟩=false) ∨
 ((x0==y0)=true∧(x1==y1)=true∧(x2==y2)=true∧(x3==y3)=true∧(x4==y4)=true∧(x5==y5)=true∧(x6==y6)=false∧msgB ⟨x0,x1,x2,x3,⟨x4,x5,⟨x6,x7,x8,x9,x10,x11⟩⟩⟩ ⟨y0,y1,y2,y3,⟨y4,y5,⟨y6,y7,y8,y9,y10,y11⟩⟩⟩=false) ∨
 ((x0==y0)=true∧(x1==y1)=true∧(x2==y2)=true∧(x3==y3)=true∧(x4==y4)=true∧(x5==y5)=true∧(x6==y6)=true∧(x7==y7)=false∧msgB ⟨x0,x1,x2,x3,⟨x4,x5,⟨x6,x7,x8,x9,x10,x11⟩⟩⟩ ⟨y0,y1,y2,y3,⟨y4,y5,⟨y6,y7,y8,y9,y10,y11⟩⟩⟩=false) ∨
 ((x0==y0)=true∧(x1==y1)=true∧(x2==y2)=true∧(x3==y3)=true∧(x4==y4)=true∧(x5==y5)=true∧(x6==y6)=true∧(x7==y7)=true∧(x8==y8)=false∧msgB ⟨x0,x1,x2,x3,⟨x4,x5,⟨x6,x7,x8,x9,x10,x11⟩⟩⟩ ⟨y0,y1,y2,y3,⟨y4,y5,⟨y6,y7,y8,y9,y10,y11⟩⟩⟩=false) ∨
 ((x0==y0)=true∧(x1==y1)=true∧(x2==y2)=true∧(x3==y3)=true∧(x4==y4)=true∧(x5==y5)=true∧(x6==y6)=true∧(x7==y7)=true∧(x8==y8)=true∧(x9==y9)=false∧msgB ⟨x0,x1,x2,x3,⟨x4,x5,⟨x6,x7,x8,x9,x10,x11⟩⟩⟩ ⟨y0,y1,y2,y3,⟨y4,y5,⟨y6,y7,y8,y9,y10,y11⟩⟩⟩=false) ∨
 ((x0==y0)=true∧(x1==y1)=true∧(x2==y2)=true∧(x3==y3)=true∧(x4==y4)=true∧(x5==y5)=true∧(x6==y6)=true∧(x7==y7)=true∧(x8==y8)=true∧(x9==y9)=true∧(x10==y10)=false∧msgB ⟨x0,x1,x2,x3,⟨x4,x5,⟨x6,x7,x8,x9,x10,x11⟩⟩⟩ ⟨y0,y1,y2,y3,⟨y4,y5,⟨y6,y7,y8,y9,y10,y11⟩⟩⟩=false) ∨
 ((x0==y0)=true∧(x1==y1)=true∧(x2==y2)=true∧(x3==y3)=true∧(x4==y4)=true∧(x5==y5)=true∧(x6==y6)=true∧(x7==y7)=true∧(x8==y8)=true∧(x9==y9)=true∧(x10==y10)=true∧(x11==y11)=false∧msgB ⟨x0,x1,x2,x3,⟨x4,x5,⟨x6,x7,x8,x9,x10,x11⟩⟩⟩ ⟨y0,y1,y2,y3,⟨y4,y5,⟨y6,y7,y8,y9,y10,y11⟩⟩⟩=false) ∨
 ((x0==y0)=true∧(x1==y1)=true∧(x2==y2)=true∧(x3==y3)=true∧(x4==y4)=true∧(x5==y5)=true∧(x6==y6)=true∧(x7==y7)=true∧(x8==y8)=true∧(x9==y9)=true∧(x10==y10)=true∧(x11==y11)=true∧msgB ⟨x0,x1,x2,x3,⟨x4,x5,⟨x6,x7,x8,x9,x10,x11⟩⟩⟩ ⟨y0,y1,y2,y3,⟨y4,y5,⟨y6,y7,y8,y9,y10,y11⟩⟩⟩=true):=by
 have e:msgB ⟨x0,x1,x2,x3,⟨x4,x5,⟨x6,x7,x8,x9,x10,x11⟩⟩⟩ ⟨y0,y1,y2,y3,⟨y4,y5,⟨y6,y7,y8,y9,y10,y11⟩⟩⟩=((x0==y0)&&((x1==y1)&&((x2==y2)&&((x3==y3)&&((x4==y4)&&((x5==y5)&&((x6==y6)&&((x7==y7)&&((x8==y8)&&((x9==y9)&&((x10==y10)&&((x11==y11))))))))))))):=rfl;rw[e];cases h0:(x0==y0)
 ·simp
 skip;cases h1:(x1==y1)
 ·simp
 skip;cases h2:(x2==y2)
 ·simp
 skip;cases h3:(x3==y3)
 ·simp
 skip;cases h4:(x4==y4)
 ·simp
 skip;cases h5:(x5==y5)
 ·simp
 skip;cases h6:(x6==y6)
 ·simp
 skip;cases h7:(x7==y7)
 ·simp
 skip;cases h8:(x8==y8)
 ·simp
 skip;cases h9:(x9==y9)
 ·simp
 skip;cases h10:(x10==y10)
 ·simp
 skip;cases h11:(x11==y11)
 ·simp
 skip;simp
theorem msg_eq (x0 x1 x2 x3 x4:Int)(x5:Bool)(x6 x7 x8 x9 x10 x11 y0 y1 y2 y3 y4:Int)(y5:Bool)(y6 y7 y8 y9 y10 y11:Int)(w:World):(Op.equal 39 (.agg #[.int i64 x0,.int i64 x1,.int i64 x2,.int i64 x3,.int i64 x4,.bool x5,.int i64 x6,.int i64 x7,.int i64 x8,.int i64 x9,.int i64 x10,.int i64 x11]) (.agg #[.int i64 y0,.int i64 y1,.int i64 y2,.int i64 y3,.int i64 y4,.bool y5,.int i64 y6,.int i64 y7,.int i64 y8,.int i64 y9,.int i64 y10,.int i64 y11])).run prog w=.ok (msgB ⟨x0,x1,x2,x3,⟨x4,x5,⟨x6,x7,x8,x9,x10,x11⟩⟩⟩ ⟨y0,y1,y2,y3,⟨y4,y5,⟨y6,y7,y8,y9,y10,y11⟩⟩⟩) w:=by
 unfold Op.equal Op.maxDepth;rw[run_equalIn_struct w 9999 _ _ _ (by kernel_rfl) (by kernel_rfl)]
 rcases msg_ways x0 x1 x2 x3 x4 x5 x6 x7 x8 x9 x10 x11 y0 y1 y2 y3 y4 y5 y6 y7 y8 y9 y10 y11 with ⟨e0,e⟩ | ⟨e0,e1,e⟩ | ⟨e0,e1,e2,e⟩ | ⟨e0,e1,e2,e3,e⟩ | ⟨e0,e1,e2,e3,e4,e⟩ | ⟨e0,e1,e2,e3,e4,e5,e⟩ | ⟨e0,e1,e2,e3,e4,e5,e6,e⟩ | ⟨e0,e1,e2,e3,e4,e5,e6,e7,e⟩ | ⟨e0,e1,e2,e3,e4,e5,e6,e7,e8,e⟩ | ⟨e0,e1,e2,e3,e4,e5,e6,e7,e8,e9,e⟩ | ⟨e0,e1,e2,e3,e4,e5,e6,e7,e8,e9,e10,e⟩ | ⟨e0,e1,e2,e3,e4,e5,e6,e7,e8,e9,e10,e11,e⟩ | ⟨e0,e1,e2,e3,e4,e5,e6,e7,e8,e9,e10,e11,e⟩
 all_goals
  rw[e];go_simp
theorem msg_info:(Tryd.prog.info? 39).map (fun i=>(i.zero,i.size,i.bytes))=some (some (.agg #[.int i64 0,.int i64 0,.int i64 0,.int i64 0,.int i64 0,.bool false,.int i64 0,.int i64 0,.int i64 0,.int i64 0,.int i64 0,.int i64 0]),12,96):=by kernel_rfl
theorem msg_zero:(Value.agg #[.int i64 0,.int i64 0,.int i64 0,.int i64 0,.int i64 0,.bool false,.int i64 0,.int i64 0,.int i64 0,.int i64 0,.int i64 0,.int i64 0]).cells.size=12:=by simp[Value.cells]
theorem msg_open {H:Type}{enc:TypeId×Value→H}{W:World}{n:Nat}{cs:List Value}{x:DataW H×List MemPlace}
 (h:DataW.trod enc prog W 0 (fun _=>true) true n 39 cs=some x):∃y,cs=msgE.c y:=by
 obtain⟨xs,k,_,_,hl,hlen,hf⟩:=DataW.trod_struct underlying39 h;have hC:Tryd.prog.cellsOf 39=12:=by kernel_rfl
 have hT0:Tryd.prog.cellsOf 3=1:=by kernel_rfl
 have hT1:Tryd.prog.cellsOf 37=8:=by kernel_rfl
 rw[hC] at hl
 match cs,hl with
 | [c0,c1,c2,c3,c4,c5,c6,c7,c8,c9,c10,c11],_ =>
   match xs,hlen with
   | [z0,z1,z2,z3,z4],_ =>
     have g0:=hf 0 _ rfl;have g1:=hf 1 _ rfl;have g2:=hf 2 _ rfl;have g3:=hf 3 _ rfl;have g4:=hf 4 _ rfl;simp[hT0,hT1] at g0 g1 g2 g3 g4;obtain⟨v0,e0,_,_⟩:=DataW.trod_int underlying3 g0;obtain⟨v1,e1,_,_⟩:=DataW.trod_int underlying3 g1;obtain⟨v2,e2,_,_⟩:=DataW.trod_int underlying3 g2;obtain⟨v3,e3,_,_⟩:=DataW.trod_int underlying3 g3;obtain⟨s4,e4⟩:=op_open g4;simp[opE] at e0 e1 e2 e3 e4;refine⟨⟨v0,v1,v2,v3,⟨s4.w,s4.a,⟨s4.r.p,s4.r.m,s4.r.b,s4.r.o,s4.r.s,s4.r.v⟩⟩⟩,?_⟩;simp[msgE,e0,e1,e2,e3,e4]
theorem msgs_of {H:Type}{enc:TypeId×Value→H}{W:World}{base:Nat}{v:Value}{d:DataW H}{p:List MemPlace}
 (hv:Value.okWide prog W .any base 29 v) (h:DataW.Trod enc prog W 0 (fun _=>true) true 29 v d p):∃L,GS msgE W v L:=
 gs_of (E:=msgE) 29 39 underlying29 (by kernel_rfl) ⟨0,0,0,0,⟨0,false,⟨0,0,0,0,0,0⟩⟩⟩ (fun _ _ _ h=>msg_open h) hv h
end
end Go.Proofs.YtpgjkmefomldfaaDoor
