/- Contracts and facts on the way to WireBack, joined into one text: Gen, CubeMath, RuleMath, RuleTabMath, TableMath, WireMath, StCube, StRule, StOp, StMsg, Err, CubeCon, RuleCon, MapGen, TopoMath2, TopoCon, WireCon, OwnRow, WireRead, WireRead2. -/
import Derived.Test.YtpfgaibfangciaaRows
import Derived.Test.YtpfgaibfangciaaProg
import Derived.WalkKit
import Derived.WalkSpells
import Derived.Below
import Derived.ProofKit
import Derived.OpenShut
import Derived.ChangeOld
import Derived.Laws.AppendOwnNone
import Derived.Deep.Slices
import Derived.Laws.BytesArg
import Derived.Lib.Strings
import Derived.Lib.SmallJoins
import Derived.Laws.StructEq
import Derived.Maps.OwnOps
import Derived.MapKept
import Derived.BigQuiet
import Derived.Deep.QuietTactic
import Derived.Deep.CutRange
import Derived.Deep.CutBlock
import Derived.BigRegion
import Derived.Deep.RegionHeld3
import Derived.Laws.OwnMore
import Derived.Lib.Walk
import Derived.Lib.BufferWrite
import Derived.Lib.UnsafeStr
import Derived.Laws.MakeOwn
import Derived.Deep.RegionLaw
import Derived.Lib.ConvBytes
namespace Go.Proofs.Ytpfgaibfangciaa
set_option linter.unusedSimpArgs false
set_option linter.unusedVariables false
set_option maxHeartbeats 16000000
set_option maxRecDepth 100000
open Go.Proofs.Try
open IntKind (i64)
abbrev AdQ:=Option Addr
abbrev LkQ:=List ((Int×Int)×(Int×Int))
abbrev HoQ:=List (ByteArray×(Int×Int))
abbrev HpQ:=List ((Int×Int)×Int)
theorem bRQ (n:Nat) (w:World):Go.RowKit.Below n w w:=Go.RowKit.Below.refl n w
theorem nLQ (n:Nat):n≤n:=Nat.le_refl n
theorem bLQ (w:World) (p:Addr) {v:Value} (h:w.cell? p=some v):p.block<w.heap.size:=World.block_lt_of_cell? w p h
theorem AP:(∀(l:List Value) (i:Nat) (v:Value),l.toArray.setIfInBounds i v=(l.set i v).toArray)∧(∀(a v:Value) (l:List Value),(a::l).set 0 v=v::l)∧(∀(a v:Value) (l:List Value) (i:Nat),(a::l).set (i+1) v=a::l.set i v):=⟨fun _ _ _=>List.setIfInBounds_toArray _ _ _,fun _ _ _=>List.set_cons_zero,fun _ _ _ _=>List.set_cons_succ⟩
section
open Go.ChangeShapes Go.WideShapes Go.ChangeAt Go.RowKit
structure Enc (α:Type) where
 c:α→List Value
 n:Nat
 len:∀x,(c x).length=n
 pos:0<n
 one:∀x u,u∈c x→u.oneCell'=true
def VAt (w:World)(g o:Nat)(vs:List Value):Prop:=∀j u,vs[j]?=some u→w.cell? ⟨g,o+j,none⟩=some u
theorem VAt.later {w w':World}{g o:Nat}{vs:List Value}(h:VAt w g o vs)(hb:Below w.heap.size w w'):VAt w' g o vs:=fun j u hu=>cell_later hb (h j u hu)
theorem vat_new (w:World)(vs:List Value)(t:TypeId):VAt (w.alloc (.cells vs.toArray t)) w.heap.size 0 vs:=by
 intro j u hu;rw[Nat.zero_add];have hj:j<vs.length:=(List.getElem?_eq_some_iff.1 hu).1;simp only[World.cell?,World.alloc];simp[hu]
section
variable {α:Type}{E:Enc α}
def GAt (E:Enc α)(w:World)(g o:Nat)(L:List α):Prop:=∀i (h:i<L.length),VAt w g (o+i*E.n) (E.c L[i])
theorem GAt.later {w w':World}{g o:Nat}{L:List α}(h:GAt E w g o L)(hb:Below w.heap.size w w'):GAt E w' g o L:=fun i hi=>(h i hi).later hb
theorem GAt.take {w:World}{g o:Nat}{L:List α}(h:GAt E w g o L)(k:Nat):GAt E w g o (L.take k):=by
 intro i hi;rw[List.getElem_take];exact h i (by simp at hi;omega)
theorem GAt.drop {w:World}{g o:Nat}{L:List α}(h:GAt E w g o L)(k:Nat):GAt E w g (o+k*E.n) (L.drop k):=by
 intro i hi;have hi2:k+i<L.length:=by simp at hi;omega
 have:=h (k+i) hi2;rw[List.getElem_drop];have e:o+(k+i)*E.n=o+k*E.n+i*E.n:=by rw[Nat.add_mul];omega
 rw[←e];exact this
def GS (E:Enc α)(w:World)(v:Value)(L:List α):Prop:=
 (∃ao cap,v=.slice ao 0 cap∧L=[])∨∃g o cap,v=.slice (some ⟨g,o,none⟩) L.length cap∧L.length≤cap∧cap≤maxLen∧GAt E w g o L
theorem GS.later {w w':World}{v:Value}{L:List α}(h:GS E w v L)(hb:Below w.heap.size w w'):GS E w' v L:=by
 rcases h with h | ⟨g,o,cap,h1,h2,h3,h4⟩
 ·exact .inl h
 exact .inr ⟨g,o,cap,h1,h2,h3,h4.later hb⟩
theorem GS.form {w:World}{v:Value}{L:List α}(h:GS E w v L):∃ao n cap,v=.slice ao n cap∧L.length=n∧n≤maxLen∧n≤cap∧(0<n→∃g o,ao=some ⟨g,o,none⟩∧GAt E w g o L∧cap≤maxLen):=by
 rcases h with ⟨ao,cap,rfl,rfl⟩ | ⟨g,o,cap,rfl,h1,h2,h3⟩
 ·exact⟨ao,0,cap,rfl,rfl,Nat.zero_le _,Nat.zero_le _,fun h=>absurd h (by omega)⟩
 exact⟨_,_,cap,rfl,rfl,Nat.le_trans h1 h2,h1,fun _=>⟨g,o,rfl,h3,h2⟩⟩
theorem GS.len {w:World}{ao:AdQ}{n cap:Nat}{L:List α}(h:GS E w (.slice ao n cap) L):L.length=n:=by
 rcases h with ⟨_,_,e,rfl⟩ | ⟨_,_,_,e,_⟩
 ·simp at e;simp[e]
 simp at e;exact e.2.1.symm
theorem GS.nil (w:World):GS E w (.slice none 0 0) []:=.inl ⟨none,0,rfl,rfl⟩
def cellsG (E:Enc α)(L:List α):List Value:=L.flatMap E.c
theorem cellsG_len (L:List α):(cellsG E L).length=L.length*E.n:=by
 induction L with
 | nil=>simp[cellsG]
 | cons x r ih =>
   simp only[cellsG,List.flatMap_cons,List.length_append,List.length_cons,E.len] at *;rw[ih,Nat.add_mul];omega
theorem cellsG_app (L M:List α):cellsG E (L++M)=cellsG E L++cellsG E M:=by simp[cellsG]
theorem cellsG_one (x:α):cellsG E [x]=E.c x:=by simp[cellsG]
theorem cellsG_at (L:List α):∀(i:Nat) (h:i<L.length) (j:Nat),j<E.n→(cellsG E L)[i*E.n+j]?=(E.c L[i])[j]?:=by
 induction L with
 | nil=>intro i h;simp at h
 | cons x r ih =>
   intro i h j hj;cases i with
   | zero =>
     simp only[cellsG,List.flatMap_cons,Nat.zero_mul,Nat.zero_add,List.getElem_cons_zero];rw[List.getElem?_append_left (by rw[E.len];exact hj)]
   | succ i =>
     have:=ih i (by simpa using h) j hj;simp only[cellsG,List.flatMap_cons,List.getElem_cons_succ] at this ⊢;rw[List.getElem?_append_right (by rw[E.len,Nat.add_mul];omega),E.len];have e:(i+1)*E.n+j-E.n=i*E.n+j:=by rw[Nat.add_mul];omega
     rw[e];exact this
theorem cellsG_all (L:List α):∀u∈cellsG E L,u.oneCell'=true:=by
 intro u hu;simp only[cellsG,List.mem_flatMap] at hu;obtain⟨x,_,hx⟩:=hu;exact E.one x u hx
theorem own_GS {w:World}{B e:Nat}{v:Value}{L:List α}(h:w.ownsRow B e E.n v L.length (cellsG E L)):GS E w v L:=by
 rcases h.2 with ⟨rfl,h0⟩ | ⟨g,cap,cur,rfl,_,_,h1,h2,_⟩
 ·exact .inl ⟨none,0,rfl,List.length_eq_zero_iff.1 h0⟩
 refine .inr ⟨g,0,cap,rfl,h1,h2,fun i hi j u hu=>?_⟩;have hj:j<E.n:=by
  have:=(List.getElem?_eq_some_iff.1 hu).1;rw[E.len] at this;exact this
 have hlt:i*E.n+j<L.length*E.n:=by
  have:(i+1)*E.n≤L.length*E.n:=Nat.mul_le_mul_right _ hi;rw[Nat.add_mul] at this;omega
 rw[Nat.zero_add,h.cellAt _ hlt,cellsG_at L i hi j hj];exact hu
theorem GAt.cells {w:World}{g o:Nat}{M:List α}(h:GAt E w g o M):∀j u,(cellsG E M)[j]?=some u→w.cell? ((⟨g,o,none⟩:Addr).add j)=some u:=by
 intro j u hu;have hj:j<M.length*E.n:=by
  have:=(List.getElem?_eq_some_iff.1 hu).1;rw[cellsG_len] at this;exact this
 have hadd:(⟨g,o,none⟩:Addr).add j=⟨g,o+j,none⟩:=by
  simp only[Addr.add]
  first
   | rfl
   | (split
      ·next h0=>rw[h0];rfl
      rfl)
 have hi:j / E.n<M.length:=Nat.div_lt_of_lt_mul (by rw[Nat.mul_comm];exact hj);have hm:j % E.n<E.n:=Nat.mod_lt _ E.pos;have e:j / E.n*E.n+j % E.n=j:=by rw[Nat.mul_comm];exact Nat.div_add_mod _ _
 have h1:=cellsG_at (E:=E) M (j / E.n) hi (j % E.n) hm;rw[e,hu] at h1;have h2:=h (j / E.n) hi (j % E.n) u h1.symm;rw[Nat.add_assoc,e] at h2;rw[hadd];exact h2
end
section
variable {α:Type}
end
section
variable {α:Type}
end
section
variable {P:Program}{α:Type}{E:Enc α}
theorem gs_of {H:Type}{enc:TypeId×Value→H}{W:World}{base:Nat}{v:Value}{d:DataW H}{p:List MemPlace}(ts te:TypeId)(hu:P.underlying ts=some (.slice te))(hC:P.cellsOf te=E.n)(x0:α)
 (hel:∀(n:Nat) (cs:List Value) (x:DataW H×List MemPlace),DataW.trod enc P W 0 (fun _=>true) true n te cs=some x→∃y,cs=E.c y)
 (hv:Value.okWide P W .any base ts v) (h:DataW.Trod enc P W 0 (fun _=>true) true ts v d p):∃L,GS E W v L:=by
 obtain⟨a0,len0,cap0,rfl⟩:=okWide_slice hu hv;obtain⟨fuel,hf⟩:=h;have hf2:DataW.trod enc P W 0 (fun _=>true) true fuel ts [.slice a0 len0 cap0]=some (d,p):=hf
 rcases Go.Deep.open_slice hu hf2 with ⟨hc,hx⟩ | ⟨a,len,cap,m,k,D,Pl,hc,_,hl,hm,hmm,hx,hall⟩
 ·simp only[List.cons.injEq,and_true,Value.slice.injEq] at hc;obtain⟨rfl,rfl,rfl⟩:=hc;exact⟨[],.inl ⟨none,0,rfl,rfl⟩⟩
 simp only[List.cons.injEq,and_true,Value.slice.injEq] at hc;obtain⟨rfl,rfl,rfl⟩:=hc;simp only[if_true] at hmm;subst hmm
 rcases Nat.eq_zero_or_pos len0 with h0 | h0
 ·subst h0;exact⟨[],.inl ⟨_,_,rfl,rfl⟩⟩
 have each:∀i,i<m→∃y:α,∀j,j<E.n→W.cell? (a.add (i*E.n+j))=(E.c y)[j]?:=by
  intro i hi;obtain⟨cs,h1,h2⟩:=hall i hi;rw[hC] at h1;obtain⟨_,hlen,hcell⟩:=World.cells?_some h1;obtain⟨y,rfl⟩:=hel _ _ _ h2;refine⟨y,fun j hj=>?_⟩;have:=hcell j (by omega);rw[Go.Deep.add_add] at this;exact this
 have iR:Inhabited α:=⟨x0⟩;obtain⟨R,hR⟩:=Go.Deep.choose_lt each;obtain⟨sb,so,spot⟩:=a;have hspot:spot=none:=by
  have h1:=hR 0 (by omega) 0 E.pos;have h2:(E.c (R 0))[0]?.isSome=true:=by
   rw[List.getElem?_eq_getElem (by rw[E.len];exact E.pos)];rfl
  obtain⟨u,hu2⟩:=Option.isSome_iff_exists.1 h2;rw[hu2] at h1;simpa[Addr.add] using World.cell?_spot h1
 subst hspot;have hadd:∀j,(⟨sb,so,none⟩:Addr).add j=⟨sb,so+j,none⟩:=by
  intro j;simp only[Addr.add]
  first
   | rfl
   | (split
      ·next h0=>rw[h0];rfl
      rfl)
 refine⟨(List.range len0).map R,.inr ⟨sb,so,_,by simp,by simpa using hl,hm,fun i hi j u hu2=>?_⟩⟩;have hi2:i<len0:=by simpa using hi
 have e:((List.range len0).map R)[i]=R i:=by simp
 rw[e] at hu2;have hj:j<E.n:=by
  have:=(List.getElem?_eq_some_iff.1 hu2).1;rw[E.len] at this;exact this
 have hc:=hR i (by omega) j hj;rw[hadd,hu2,←Nat.add_assoc] at hc;exact hc
end
end
section
open Go.RowKit
def hdrB (n:Int):Bool:=decide (0≤n)&&decide (n<16)
def rngB (m b:Int):Bool:=hdrB m&&hdrB b
def okB (m b:Int):Bool:=rngB m b&&(bits .andNot .i64 b m==0)
theorem hdr_of {n:Int}(h:hdrB n=true):0≤n∧n<16:=by simpa[hdrB] using h
theorem hdr_no {n:Int}(h:hdrB n=false):n<0∨16≤n:=by simp[hdrB] at h;omega
theorem hdr_mk {n:Int}(h:0≤n∧n<16):hdrB n=true:=by simpa[hdrB] using h
theorem rng_of {m b:Int}(h:rngB m b=true):(0≤m∧m<16)∧(0≤b∧b<16):=by
 simp only[rngB,Bool.and_eq_true] at h;exact⟨hdr_of h.1,hdr_of h.2⟩
theorem ok_rng {m b:Int}(h:okB m b=true):rngB m b=true:=by
 simp only[okB,Bool.and_eq_true] at h;exact h.1
theorem ok_of {m b:Int}(h:okB m b=true):(0≤m∧m<16)∧(0≤b∧b<16):=rng_of (ok_rng h)
theorem small {n:Int}(h:0≤n∧n<16):∃k:Fin 16,n=((k:Nat):Int):=⟨⟨n.toNat,by omega⟩,by simp;omega⟩
def hasB (m b h:Int):Bool:=hdrB h&&(okB m b&&(bits .and .i64 h m==b))
def refN (m b:Int):Int:=if okB m b then 0 else if rngB m b then 3 else 1
theorem refN_ok {m b:Int}(h:okB m b=true):refN m b=0:=by simp[refN,h]
theorem refN_shape {m b:Int}(h:okB m b=false)(h2:rngB m b=true):refN m b=3:=by simp[refN,h,h2]
theorem refN_range {m b:Int}(h2:rngB m b=false):refN m b=1:=by simp[refN,okB,h2]
theorem ok_refN (m b:Int):(refN m b==0)=okB m b:=by
 cases h:okB m b
 ·cases h2:rngB m b
  ·simp[refN_range h2]
  simp[refN_shape h h2]
 simp[refN_ok h]
theorem andEq_fin:∀m b:Fin 16,(bits .and .i64 ((b:Nat):Int) ((m:Nat):Int)==((b:Nat):Int))=(bits .andNot .i64 ((b:Nat):Int) ((m:Nat):Int)==0):=by decide +kernel
theorem andEq {m b:Int}(h:rngB m b=true):(bits .and .i64 b m==b)=okB m b:=by
 obtain⟨h1,h2⟩:=rng_of h;have e:okB m b=(bits .andNot .i64 b m==0):=by simp[okB,h]
 rw[e];obtain⟨x,rfl⟩:=small h1;obtain⟨y,rfl⟩:=small h2;exact andEq_fin x y
def ruP (p o:Int):Bool:=decide (0≤p)&&(decide (p≤99)&&(decide (0≤o)&&decide (o≤4)))
def ruIn (p o s v:Int):Bool:=ruP p o&&rngB s v
def ruSet (o s v:Int):Bool:=(bits .andNot .i64 v s==0)&&(!(o==0) || s==0)
def ruN (p m b o s v:Int):Int:=if ruIn p o s v then (if okB m b then (if ruSet o s v then 0 else 3) else refN m b) else 1
def ruOk (p m b o s v:Int):Bool:=ruIn p o s v&&(okB m b&&ruSet o s v)
theorem ru_ok {p m b o s v:Int}(h:ruOk p m b o s v=true):ruIn p o s v=true∧okB m b=true∧ruSet o s v=true:=by
 simpa[ruOk] using h
theorem ruN_ne {p m b o s v:Int}(h:ruOk p m b o s v=false):ruN p m b o s v≠0:=by
 unfold ruN;cases h1:ruIn p o s v
 ·simp
 cases h2:okB m b
 ·simp only[if_true];have:=ok_refN m b;rw[h2] at this;simpa using this
 cases h3:ruSet o s v
 ·simp
 simp[ruOk,h1,h2,h3] at h
theorem ru_in {p o s v:Int}(h:ruIn p o s v=true):((0≤p∧p≤99)∧(0≤o∧o≤4))∧(0≤s∧s<16)∧(0≤v∧v<16):=by
 simp only[ruIn,Bool.and_eq_true] at h;obtain⟨h1,h2⟩:=h;have h3:=rng_of h2;simp only[ruP,Bool.and_eq_true,decide_eq_true_eq] at h1;exact⟨⟨⟨h1.1,h1.2.1⟩,⟨h1.2.2.1,h1.2.2.2⟩⟩,h3⟩
structure Ru where
 p:Int
 m:Int
 b:Int
 o:Int
 s:Int
 v:Int
abbrev TsQ:=List (List Ru)
def Ru.n (r:Ru):Int:=ruN r.p r.m r.b r.o r.s r.v
def Ru.ok (r:Ru):Bool:=ruOk r.p r.m r.b r.o r.s r.v
def Ru.has (r:Ru)(h:Int):Bool:=hasB r.m r.b h
structure Op8 where
 w:Int
 a:Bool
 r:Ru
structure Mg where
 k:Int
 s:Int
 r:Int
 i:Int
 o:Op8
def zeP:Op8:=⟨0,false,⟨0,0,0,0,0,0⟩⟩
def zeM:Mg:=⟨0,0,0,0,zeP⟩
def oqB (a b:Op8):Bool:=(a.w==b.w)&&((a.a==b.a)&&((a.r.p==b.r.p)&&((a.r.m==b.r.m)&&((a.r.b==b.r.b)&&((a.r.o==b.r.o)&&((a.r.s==b.r.s)&&((a.r.v==b.r.v))))))))
theorem oqB_iff (a b:Op8):oqB a b=true↔a=b:=by
 have e:oqB a b=((a.w==b.w)&&((a.a==b.a)&&((a.r.p==b.r.p)&&((a.r.m==b.r.m)&&((a.r.b==b.r.b)&&((a.r.o==b.r.o)&&((a.r.s==b.r.s)&&((a.r.v==b.r.v))))))))):=rfl;rw[e];simp only[Bool.and_eq_true,beq_iff_eq];constructor
 ·intro h;obtain⟨a0,a1,⟨a2,a3,a4,a5,a6,a7⟩⟩:=a;obtain⟨b0,b1,⟨b2,b3,b4,b5,b6,b7⟩⟩:=b;simp at h ⊢;simp[h]
 intro h;subst h;simp
def mgR (m:Mg):Bool:=(decide (1≤m.k)&&decide (m.k≤3))&&((decide (1≤m.s)&&decide (m.s≤6))&&((decide (0≤m.r)&&decide (m.r≤19))&&(decide (0≤m.i)&&decide (m.i≤200))))
def moN (o:Op8)(s:Int):Int:=if o.r.n=0 then (if o.w=s then 0 else 3) else o.r.n
def mgN (m:Mg):Int:=if mgR m then (if m.k=1 then moN m.o m.s else (if oqB m.o zeP && !(decide (m.k=3) && !(decide (m.i=0))) then 0 else 3)) else 1
theorem mg_rng {m:Mg}:mgR m=true↔(1≤m.k∧m.k≤3)∧(1≤m.s∧m.s≤6)∧(0≤m.r∧m.r≤19)∧(0≤m.i∧m.i≤200):=by
 simp[mgR]
def btN (b:Bool):Int:=if b then 1 else 0
def mgL (m:Mg):List Int:=[m.k,m.s,m.r,m.i]++if m.k=1 then [btN m.o.a,m.o.r.p,m.o.r.m,m.o.r.b,m.o.r.o,m.o.r.s,m.o.r.v] else []
def smL (l:List Int):Int:=l.foldl (· + ·) 0
theorem sm_app (l:List Int)(x:Int):smL (l++[x])=smL l+x:=by simp[smL]
def nmT (l:List Int):ByteArray:=strOfNums (l++[smL l % 251])
def mgT (m:Mg):ByteArray:=nmT (mgL m)
def byL (l:List Int):Prop:=∀x∈l,0≤x∧x≤200
theorem mg_1 {m:Mg}(h:mgN m=0):mgR m=true∧(m.k=1→m.o.r.n=0∧m.o.w=m.s)∧(m.k≠1→m.o=zeP∧(m.k=3→m.i=0)):=by
 unfold mgN moN at h
 split at h
 ·next hR =>
  refine⟨hR,fun h1=>?_,fun h1=>?_⟩
  ·rw[if_pos h1] at h
   split at h
   ·split at h
    ·exact⟨by assumption,by assumption⟩
    cases h
   exact absurd h (by assumption)
  rw[if_neg h1] at h
  split at h
  ·next h2 =>
   simp only[Bool.and_eq_true] at h2;refine⟨(oqB_iff _ _).1 h2.1,fun h3=>?_⟩;have:=h2.2;simp[h3] at this;exact this
  cases h
 cases h
theorem mg_by {m:Mg}(h:mgN m=0):byL (mgL m)∧(mgL m).length≤11∧4≤(mgL m).length:=by
 obtain⟨hR,h1,h2⟩:=mg_1 h;have hr:=mg_rng.1 hR;by_cases hk:m.k=1
 ·obtain⟨h3,h4⟩:=h1 hk;have h5:ruOk m.o.r.p m.o.r.m m.o.r.b m.o.r.o m.o.r.s m.o.r.v=true:=by
   cases h6:ruOk m.o.r.p m.o.r.m m.o.r.b m.o.r.o m.o.r.s m.o.r.v
   ·exact absurd h3 (ruN_ne h6)
   rfl
  have h6:=ru_in (ru_ok h5).1;have h7:=ok_of (ru_ok h5).2.1;refine⟨?_,?_,?_⟩
  ·intro x hx;simp only[mgL,if_pos hk,List.cons_append,List.nil_append,List.mem_cons,List.not_mem_nil,or_false] at hx;have hb:0≤btN m.o.a∧btN m.o.a≤1:=by unfold btN;split <;> omega
   rcases hx with rfl | rfl | rfl | rfl | rfl | rfl | rfl | rfl | rfl | rfl | rfl <;> omega
  ·simp[mgL,hk]
  simp[mgL,hk]
 refine⟨?_,?_,?_⟩
 ·intro x hx;simp only[mgL,if_neg hk,List.cons_append,List.nil_append,List.mem_cons,List.not_mem_nil,or_false] at hx
  rcases hx with rfl | rfl | rfl | rfl <;> omega
 ·simp[mgL,hk]
 simp[mgL,hk]
theorem by_take {l:List Int}(h:byL l)(k:Nat):byL (l.take k):=fun x hx=>h x (List.mem_of_mem_take hx)
theorem by_sum:∀{l:List Int},byL l→0≤smL l∧smL l≤200*l.length:=by
 have key:∀(l:List Int) (a:Int),byL l→a≤l.foldl (· + ·) a∧l.foldl (· + ·) a≤a+200*l.length:=by
  intro l
  induction l with
  | nil=>intro a _;simp
  | cons x r ih =>
    intro a h;have h1:=h x List.mem_cons_self;have h2:=ih (a+x) (fun y hy=>h y (List.mem_cons_of_mem _ hy));simp only[List.foldl_cons,List.length_cons];omega
 intro l h;have:=key l 0 h;unfold smL;omega
def lnM (c:Nat):Nat:=if c=1 then 12 else if c=2∨c=3 then 5 else 0
theorem ln_le (c:Nat):lnM c≤12:=by unfold lnM;split;omega;split <;> omega
theorem ln_5 {c:Nat}(h:lnM c≠0):5≤lnM c:=by
 unfold lnM at h ⊢
 split
 ·omega
 split
 ·omega
 next h1 h2=>rw[if_neg h1,if_neg h2] at h;exact absurd rfl h
def byN (b:ByteArray)(j:Nat):Nat:=(b.data.toList.getD j 0).toNat
theorem byN_at (b:ByteArray)(j:Nat)(h:j<b.size):byN b j=b[j].toNat:=by
 have h2:j<b.data.toList.length:=by rw[←Lib.size_eq];exact h
 unfold byN;rw[List.getD_eq_getElem?_getD,List.getElem?_eq_getElem h2];rfl
def rrM (b:ByteArray):Ru:=⟨byN b 5,byN b 6,byN b 7,byN b 8,byN b 9,byN b 10⟩
def wrM (b:ByteArray):Mg:=⟨byN b 0,byN b 1,byN b 2,byN b 3,if byN b 0=1 then ⟨byN b 1,byN b 4==1,rrM b⟩ else zeP⟩
def dcB (b:ByteArray):Bool := !(b.size==0)&&(decide (b.size=lnM (byN b 0))&&(decide (mgN (wrM b)=0)&&decide (mgT (wrM b)=b)))
def dcV (b:ByteArray):Mg:=if dcB b then wrM b else zeM
theorem dc_text {b:ByteArray}(h:dcB b=true):mgT (dcV b)=b∧mgN (dcV b)=0∧b.size=lnM (byN b 0):=by
 unfold dcV;rw[if_pos h];simp only[dcB,Bool.and_eq_true,decide_eq_true_eq,beq_iff_eq] at h;exact⟨h.2.2.2,h.2.2.1,h.2.1⟩
theorem nmt_size (l:List Int):(nmT l).size=l.length+1:=by unfold nmT;rw[strOfNums_size];simp
theorem nm_at {l:List Int}(h:byL l){j:Nat}(hj:j<l.length):(byN (nmT l) j:Int)=l[j]:=by
 have hb:=h l[j] (List.getElem_mem hj);unfold byN nmT;rw[strOfNums_data,List.getD_eq_getElem?_getD,List.getElem?_map,List.getElem?_append_left hj,List.getElem?_eq_getElem hj];simp only[Option.map_some,Option.getD_some];rw[UInt8.toNat_ofNat'];omega
theorem mg_len {m:Mg}(h:mgN m=0):(mgT m).size=lnM (byN (mgT m) 0)∧(mgT m).size=(if m.k=1 then 12 else 5):=by
 obtain⟨hb,_,h4⟩:=mg_by h;have h0:(byN (mgT m) 0:Int)=m.k:=by
  have:=nm_at hb (j:=0) (by omega);rw[mgT,this];simp[mgL]
 have hr:=mg_rng.1 (mg_1 h).1;unfold lnM;unfold mgT at *;rw[nmt_size];by_cases hk:m.k=1
 ·rw[if_pos (by omega),if_pos hk];simp[mgL,hk]
 rw[if_neg (by omega),if_pos (by omega),if_neg hk];simp[mgL,hk]
theorem dc_back {m:Mg}(h:mgN m=0):dcB (mgT m)=true∧dcV (mgT m)=m:=by
 obtain⟨hb,_,h4⟩:=mg_by h;obtain⟨hR,h1,h2⟩:=mg_1 h;have hs:=mg_len h;have e0:(byN (mgT m) 0:Int)=m.k:=by rw[mgT,nm_at hb (j:=0) (by omega)];simp[mgL]
 have e1:(byN (mgT m) 1:Int)=m.s:=by rw[mgT,nm_at hb (j:=1) (by omega)];simp[mgL]
 have e2:(byN (mgT m) 2:Int)=m.r:=by rw[mgT,nm_at hb (j:=2) (by omega)];simp[mgL]
 have e3:(byN (mgT m) 3:Int)=m.i:=by rw[mgT,nm_at hb (j:=3) (by omega)];simp[mgL]
 have hrd:wrM (mgT m)=m:=by
  by_cases hk:m.k=1
  ·have hl:(mgL m).length=11:=by simp[mgL,hk]
   have e4:(byN (mgT m) 4:Int)=btN m.o.a:=by rw[mgT,nm_at hb (j:=4) (by omega)];simp[mgL,hk]
   have e5:(byN (mgT m) 5:Int)=m.o.r.p:=by rw[mgT,nm_at hb (j:=5) (by omega)];simp[mgL,hk]
   have e6:(byN (mgT m) 6:Int)=m.o.r.m:=by rw[mgT,nm_at hb (j:=6) (by omega)];simp[mgL,hk]
   have e7:(byN (mgT m) 7:Int)=m.o.r.b:=by rw[mgT,nm_at hb (j:=7) (by omega)];simp[mgL,hk]
   have e8:(byN (mgT m) 8:Int)=m.o.r.o:=by rw[mgT,nm_at hb (j:=8) (by omega)];simp[mgL,hk]
   have e9:(byN (mgT m) 9:Int)=m.o.r.s:=by rw[mgT,nm_at hb (j:=9) (by omega)];simp[mgL,hk]
   have e10:(byN (mgT m) 10:Int)=m.o.r.v:=by rw[mgT,nm_at hb (j:=10) (by omega)];simp[mgL,hk]
   have ea:(byN (mgT m) 4==1)=m.o.a:=by
    cases ha:m.o.a
    ·have:byN (mgT m) 4=0:=by rw[ha] at e4;simp[btN] at e4;omega
     rw[this];rfl
    have:byN (mgT m) 4=1:=by rw[ha] at e4;simp[btN] at e4;omega
    rw[this];rfl
   unfold wrM rrM;rw[if_pos (by omega),e0,e1,e2,e3,e5,e6,e7,e8,e9,e10,ea];have hw:=(h1 hk).2;obtain⟨k,s,r,i,⟨w,a,⟨p,mm,b,o,ss,v⟩⟩⟩:=m;simp at hw ⊢;exact hw.symm
  unfold wrM;rw[if_neg (by omega),e0,e1,e2,e3,←(h2 hk).1]
 have hd:dcB (mgT m)=true:=by
  simp only[dcB,Bool.and_eq_true,decide_eq_true_eq,beq_iff_eq,hrd];refine⟨?_,hs.1,h,trivial⟩;have:(mgT m).size≠0:=by rw[hs.2];split <;> omega
  simpa using this
 exact⟨hd,by rw[dcV,if_pos hd,hrd]⟩
def wtK:Nat→ByteArray→Option (List Mg×ByteArray)
 | 0,b=>some ([],b)
 | k + 1,b=>if b.size=0 then some ([],b) else if lnM (byN b 0)=0 then none else if b.size<lnM (byN b 0) then some ([],b) else
     if dcB (b.extract 0 (lnM (byN b 0)))=true then (wtK k (b.extract (lnM (byN b 0)) b.size)).map (fun p=>(dcV (b.extract 0 (lnM (byN b 0))) :: p.1,p.2)) else none
def wtM (b:ByteArray):Option (List Mg×ByteArray):=wtK b.size b
theorem wk_more:∀(k:Nat) (b:ByteArray),b.size≤k→wtK k b=wtK b.size b:=by
 intro k
 induction k using Nat.strongRecOn with
 | _ k ih =>
   intro b hk
   match k,hk with
   | 0,hk=>rw[Nat.le_zero.1 hk]
   | k+1,hk =>
     by_cases h0:b.size=0
     ·rw[h0,wtK,wtK,if_pos h0]
     obtain⟨n,hn⟩:∃n,b.size=n+1:=⟨b.size-1,by omega⟩;by_cases h1:lnM (byN b 0)=0
     ·rw[hn,wtK,wtK,if_neg h0,if_neg h0,if_pos h1,if_pos h1]
     have h5:=ln_5 h1;have hsz:(b.extract (lnM (byN b 0)) b.size).size=b.size-lnM (byN b 0):=by rw[ByteArray.size_extract];omega
     have e1:=ih k (by omega) (b.extract (lnM (byN b 0)) b.size) (by omega);have e2:wtK n (b.extract (lnM (byN b 0)) b.size)=wtK (b.extract (lnM (byN b 0)) b.size).size (b.extract (lnM (byN b 0)) b.size):=ih n (by omega) (b.extract (lnM (byN b 0)) b.size) (by omega);rw[wtK,e1,←e2]
     conv=>rhs;rw[hn,wtK]
theorem wt_0 {b:ByteArray}(h:b.size=0):wtM b=some ([],b):=by unfold wtM;rw[h,wtK]
theorem wt_step {b:ByteArray}(h:b.size≠0):wtM b=if lnM (byN b 0)=0 then none else if b.size<lnM (byN b 0) then some ([],b) else
 if dcB (b.extract 0 (lnM (byN b 0)))=true then (wtM (b.extract (lnM (byN b 0)) b.size)).map (fun p=>(dcV (b.extract 0 (lnM (byN b 0))) :: p.1,p.2)) else none:=by
 obtain⟨n,hn⟩:∃n,b.size=n+1:=⟨b.size-1,by omega⟩;unfold wtM
 conv=>lhs;rw[hn,wtK,if_neg h]
 by_cases h1:lnM (byN b 0)=0
 ·rw[if_pos h1,if_pos h1]
 have h5:=ln_5 h1;have hsz:(b.extract (lnM (byN b 0)) b.size).size=b.size-lnM (byN b 0):=by rw[ByteArray.size_extract];omega
 rw[wk_more n _ (by omega)]
def wtG (L:List Mg)(b:ByteArray):Option (List Mg×ByteArray):=(wtM b).map (fun p=>(L++p.1,p.2))
theorem wg_0 {L:List Mg}{b:ByteArray}(h:b.size=0):wtG L b=some (L,b):=by unfold wtG;rw[wt_0 h];simp
theorem wg_no {L:List Mg}{b:ByteArray}(h:b.size≠0)(h1:lnM (byN b 0)=0):wtG L b=none:=by unfold wtG;rw[wt_step h,if_pos h1];rfl
theorem wg_end {L:List Mg}{b:ByteArray}(h:b.size≠0)(h1:lnM (byN b 0)≠0)(h2:b.size<lnM (byN b 0)):wtG L b=some (L,b):=by unfold wtG;rw[wt_step h,if_neg h1,if_pos h2];simp
theorem wg_bad {L:List Mg}{b:ByteArray}(h:b.size≠0)(h1:lnM (byN b 0)≠0)(h2:¬b.size<lnM (byN b 0))(h3:dcB (b.extract 0 (lnM (byN b 0)))=false):wtG L b=none:=by
 unfold wtG;rw[wt_step h,if_neg h1,if_neg h2,h3];rfl
theorem wg_on {L:List Mg}{b:ByteArray}(h:b.size≠0)(h1:lnM (byN b 0)≠0)(h2:¬b.size<lnM (byN b 0))(h3:dcB (b.extract 0 (lnM (byN b 0)))=true):wtG L b=wtG (L++[dcV (b.extract 0 (lnM (byN b 0)))]) (b.extract (lnM (byN b 0)) b.size):=by
 unfold wtG;rw[wt_step h,if_neg h1,if_neg h2,if_pos h3];cases wtM (b.extract (lnM (byN b 0)) b.size) with
 | none=>rfl
 | some p=>simp
theorem wg_nil (b:ByteArray):wtG [] b=wtM b:=by
 unfold wtG;cases wtM b with
 | none=>rfl
 | some p=>simp
def wtN (b:ByteArray):Int:=if (wtM b).isSome then 0 else 2
def wtL (b:ByteArray):List Mg:=match wtM b with | some p=>p.1 | none=>[]
def wtR (b:ByteArray):ByteArray:=match wtM b with | some p=>p.2 | none=>ByteArray.empty
theorem wt_some {b:ByteArray}{L:List Mg}{r:ByteArray}(h:wtM b=some (L,r)):wtN b=0∧wtL b=L∧wtR b=r:=by
 unfold wtN wtL wtR;rw[h];exact⟨rfl,rfl,rfl⟩
theorem wt_none {b:ByteArray}(h:wtM b=none):wtN b=2∧wtL b=[]∧wtR b=ByteArray.empty:=by
 unfold wtN wtL wtR;rw[h];exact⟨rfl,rfl,rfl⟩
end
section
open Go.ChangeShapes Go.WideShapes Go.ChangeAt Go.RowKit Go.Joins
def cuE:Enc (Int×Int) where
 c:=fun x=>[.int i64 x.1,.int i64 x.2]
 n:=2
 len:=fun _=>rfl
 pos:=by decide
 one:=by
  intro x u hu;simp at hu
  rcases hu with rfl | rfl <;> rfl
theorem cu_open {H:Type}{enc:TypeId×Value→H}{W:World}{n:Nat}{cs:List Value}{x:DataW H×List MemPlace}
 (h:DataW.trod enc prog W 0 (fun _=>true) true n 28 cs=some x):∃y,cs=cuE.c y:=by
 obtain⟨xs,k,_,_,hl,hlen,hf⟩:=DataW.trod_struct underlying28 h;have hC:Try.prog.cellsOf 28=2:=by kernel_rfl
 have hT0:Try.prog.cellsOf 3=1:=by kernel_rfl
 rw[hC] at hl
 match cs,hl with
 | [c0,c1],_ =>
   match xs,hlen with
   | [z0,z1],_ =>
     have g0:=hf 0 _ rfl;have g1:=hf 1 _ rfl;simp[hT0] at g0 g1;obtain⟨v0,e0,_,_⟩:=DataW.trod_int underlying3 g0;obtain⟨v1,e1,_,_⟩:=DataW.trod_int underlying3 g1;simp[] at e0 e1;refine⟨(v0,v1),?_⟩;simp[cuE,e0,e1]
def rlE:Enc (Ru) where
 c:=fun x=>[.int i64 x.p,.int i64 x.m,.int i64 x.b,.int i64 x.o,.int i64 x.s,.int i64 x.v]
 n:=6
 len:=fun _=>rfl
 pos:=by decide
 one:=by
  intro x u hu;simp at hu
  rcases hu with rfl | rfl | rfl | rfl | rfl | rfl <;> rfl
theorem rl_open {H:Type}{enc:TypeId×Value→H}{W:World}{n:Nat}{cs:List Value}{x:DataW H×List MemPlace}
 (h:DataW.trod enc prog W 0 (fun _=>true) true n 30 cs=some x):∃y,cs=rlE.c y:=by
 obtain⟨xs,k,_,_,hl,hlen,hf⟩:=DataW.trod_struct underlying30 h;have hC:Try.prog.cellsOf 30=6:=by kernel_rfl
 have hT0:Try.prog.cellsOf 3=1:=by kernel_rfl
 have hT1:Try.prog.cellsOf 28=2:=by kernel_rfl
 rw[hC] at hl
 match cs,hl with
 | [c0,c1,c2,c3,c4,c5],_ =>
   match xs,hlen with
   | [z0,z1,z2,z3,z4],_ =>
     have g0:=hf 0 _ rfl;have g1:=hf 1 _ rfl;have g2:=hf 2 _ rfl;have g3:=hf 3 _ rfl;have g4:=hf 4 _ rfl;simp[hT0,hT1] at g0 g1 g2 g3 g4;obtain⟨v0,e0,_,_⟩:=DataW.trod_int underlying3 g0;obtain⟨s1,e1⟩:=cu_open g1;obtain⟨v3,e2,_,_⟩:=DataW.trod_int underlying3 g2;obtain⟨v4,e3,_,_⟩:=DataW.trod_int underlying3 g3;obtain⟨v5,e4,_,_⟩:=DataW.trod_int underlying3 g4;simp[cuE] at e0 e1 e2 e3 e4;refine⟨⟨v0,s1.1,s1.2,v3,v4,v5⟩,?_⟩;simp[rlE,e0,e1,e2,e3,e4]
def opE:Enc (Op8) where
 c:=fun x=>[.int i64 x.w,.bool x.a,.int i64 x.r.p,.int i64 x.r.m,.int i64 x.r.b,.int i64 x.r.o,.int i64 x.r.s,.int i64 x.r.v]
 n:=8
 len:=fun _=>rfl
 pos:=by decide
 one:=by
  intro x u hu;simp at hu
  rcases hu with rfl | rfl | rfl | rfl | rfl | rfl | rfl | rfl <;> rfl
def opB (a b:Op8):Bool:=(a.w==b.w)&&((a.a==b.a)&&((a.r.p==b.r.p)&&((a.r.m==b.r.m)&&((a.r.b==b.r.b)&&((a.r.o==b.r.o)&&((a.r.s==b.r.s)&&((a.r.v==b.r.v))))))))
theorem op_ways (x0:Int)(x1:Bool)(x2 x3 x4 x5 x6 x7 y0:Int)(y1:Bool)(y2 y3 y4 y5 y6 y7:Int):
 ((x0==y0)=false∧opB ⟨x0,x1,⟨x2,x3,x4,x5,x6,x7⟩⟩ ⟨y0,y1,⟨y2,y3,y4,y5,y6,y7⟩⟩=false) ∨
 ((x0==y0)=true∧(x1==y1)=false∧opB ⟨x0,x1,⟨x2,x3,x4,x5,x6,x7⟩⟩ ⟨y0,y1,⟨y2,y3,y4,y5,y6,y7⟩⟩=false) ∨
 ((x0==y0)=true∧(x1==y1)=true∧(x2==y2)=false∧opB ⟨x0,x1,⟨x2,x3,x4,x5,x6,x7⟩⟩ ⟨y0,y1,⟨y2,y3,y4,y5,y6,y7⟩⟩=false) ∨
 ((x0==y0)=true∧(x1==y1)=true∧(x2==y2)=true∧(x3==y3)=false∧opB ⟨x0,x1,⟨x2,x3,x4,x5,x6,x7⟩⟩ ⟨y0,y1,⟨y2,y3,y4,y5,y6,y7⟩⟩=false) ∨
 ((x0==y0)=true∧(x1==y1)=true∧(x2==y2)=true∧(x3==y3)=true∧(x4==y4)=false∧opB ⟨x0,x1,⟨x2,x3,x4,x5,x6,x7⟩⟩ ⟨y0,y1,⟨y2,y3,y4,y5,y6,y7⟩⟩=false) ∨
 ((x0==y0)=true∧(x1==y1)=true∧(x2==y2)=true∧(x3==y3)=true∧(x4==y4)=true∧(x5==y5)=false∧opB ⟨x0,x1,⟨x2,x3,x4,x5,x6,x7⟩⟩ ⟨y0,y1,⟨y2,y3,y4,y5,y6,y7⟩⟩=false) ∨
 ((x0==y0)=true∧(x1==y1)=true∧(x2==y2)=true∧(x3==y3)=true∧(x4==y4)=true∧(x5==y5)=true∧(x6==y6)=false∧opB ⟨x0,x1,⟨x2,x3,x4,x5,x6,x7⟩⟩ ⟨y0,y1,⟨y2,y3,y4,y5,y6,y7⟩⟩=false) ∨
 ((x0==y0)=true∧(x1==y1)=true∧(x2==y2)=true∧(x3==y3)=true∧(x4==y4)=true∧(x5==y5)=true∧(x6==y6)=true∧(x7==y7)=false∧opB ⟨x0,x1,⟨x2,x3,x4,x5,x6,x7⟩⟩ ⟨y0,y1,⟨y2,y3,y4,y5,y6,y7⟩⟩=false) ∨
 ((x0==y0)=true∧(x1==y1)=true∧(x2==y2)=true∧(x3==y3)=true∧(x4==y4)=true∧(x5==y5)=true∧(x6==y6)=true∧(x7==y7)=true∧opB ⟨x0,x1,⟨x2,x3,x4,x5,x6,x7⟩⟩ ⟨y0,y1,⟨y2,y3,y4,y5,y6,y7⟩⟩=true):=by
 have e:opB ⟨x0,x1,⟨x2,x3,x4,x5,x6,x7⟩⟩ ⟨y0,y1,⟨y2,y3,y4,y5,y6,y7⟩⟩=((x0==y0)&&((x1==y1)&&((x2==y2)&&((x3==y3)&&((x4==y4)&&((x5==y5)&&((x6==y6)&&((x7==y7))))))))):=rfl;rw[e];cases h0:(x0==y0)
 ·simp
 skip;cases h1:(x1==y1)
 ·simp
 skip;cases h2:(x2==y2)
 ·simp
 skip;cases h3:(x3==y3)
 ·simp
 skip;cases h4:(x4==y4)
 ·simp
 skip;cases h5:(x5==y5)
 ·simp
 skip;cases h6:(x6==y6)
 ·simp
 skip;cases h7:(x7==y7)
 ·simp
 skip;simp
theorem op_open {H:Type}{enc:TypeId×Value→H}{W:World}{n:Nat}{cs:List Value}{x:DataW H×List MemPlace}
 (h:DataW.trod enc prog W 0 (fun _=>true) true n 32 cs=some x):∃y,cs=opE.c y:=by
 obtain⟨xs,k,_,_,hl,hlen,hf⟩:=DataW.trod_struct underlying32 h;have hC:Try.prog.cellsOf 32=8:=by kernel_rfl
 have hT0:Try.prog.cellsOf 3=1:=by kernel_rfl
 have hT1:Try.prog.cellsOf 4=1:=by kernel_rfl
 have hT2:Try.prog.cellsOf 30=6:=by kernel_rfl
 rw[hC] at hl
 match cs,hl with
 | [c0,c1,c2,c3,c4,c5,c6,c7],_ =>
   match xs,hlen with
   | [z0,z1,z2],_ =>
     have g0:=hf 0 _ rfl;have g1:=hf 1 _ rfl;have g2:=hf 2 _ rfl;simp[hT0,hT1,hT2] at g0 g1 g2;obtain⟨v0,e0,_,_⟩:=DataW.trod_int underlying3 g0;obtain⟨v1,e1,_⟩:=DataW.trod_bool underlying4 g1;obtain⟨s2,e2⟩:=rl_open g2;simp[rlE] at e0 e1 e2;refine⟨⟨v0,v1,⟨s2.p,s2.m,s2.b,s2.o,s2.s,s2.v⟩⟩,?_⟩;simp[opE,e0,e1,e2]
def msgE:Enc (Mg) where
 c:=fun x=>[.int i64 x.k,.int i64 x.s,.int i64 x.r,.int i64 x.i,.int i64 x.o.w,.bool x.o.a,.int i64 x.o.r.p,.int i64 x.o.r.m,.int i64 x.o.r.b,.int i64 x.o.r.o,.int i64 x.o.r.s,.int i64 x.o.r.v]
 n:=12
 len:=fun _=>rfl
 pos:=by decide
 one:=by
  intro x u hu;simp at hu
  rcases hu with rfl | rfl | rfl | rfl | rfl | rfl | rfl | rfl | rfl | rfl | rfl | rfl <;> rfl
theorem msg_cells {w:World}{g o:Nat}{x0 x1 x2 x3 x4:Int}{x5:Bool}{x6 x7 x8 x9 x10 x11:Int}(h:VAt w g o (msgE.c ⟨x0,x1,x2,x3,⟨x4,x5,⟨x6,x7,x8,x9,x10,x11⟩⟩⟩)):w.cell? ⟨g,o,none⟩=some (.int i64 x0)∧w.cell? ⟨g,o+1,none⟩=some (.int i64 x1)∧w.cell? ⟨g,o+2,none⟩=some (.int i64 x2)∧w.cell? ⟨g,o+3,none⟩=some (.int i64 x3)∧w.cell? ⟨g,o+4,none⟩=some (.int i64 x4)∧w.cell? ⟨g,o+5,none⟩=some (.bool x5)∧w.cell? ⟨g,o+6,none⟩=some (.int i64 x6)∧w.cell? ⟨g,o+7,none⟩=some (.int i64 x7)∧w.cell? ⟨g,o+8,none⟩=some (.int i64 x8)∧w.cell? ⟨g,o+9,none⟩=some (.int i64 x9)∧w.cell? ⟨g,o+10,none⟩=some (.int i64 x10)∧w.cell? ⟨g,o+11,none⟩=some (.int i64 x11):=
 ⟨h 0 _ rfl,h 1 _ rfl,h 2 _ rfl,h 3 _ rfl,h 4 _ rfl,h 5 _ rfl,h 6 _ rfl,h 7 _ rfl,h 8 _ rfl,h 9 _ rfl,h 10 _ rfl,h 11 _ rfl⟩
theorem msg_at {w:World}{g o:Nat}{L:List (Mg)}(h:GAt msgE w g o L){n k:Nat}(hn:L.length=n)(hk:k<n):
 ∃(x0:Int) (x1:Int) (x2:Int) (x3:Int) (x4:Int) (x5:Bool) (x6:Int) (x7:Int) (x8:Int) (x9:Int) (x10:Int) (x11:Int) (hl:k<L.length),L[k]=⟨x0,x1,x2,x3,⟨x4,x5,⟨x6,x7,x8,x9,x10,x11⟩⟩⟩∧w.cell? ⟨g,o+k*12,none⟩=some (.int i64 x0)∧w.cell? ⟨g,o+k*12+1,none⟩=some (.int i64 x1)∧w.cell? ⟨g,o+k*12+2,none⟩=some (.int i64 x2)∧w.cell? ⟨g,o+k*12+3,none⟩=some (.int i64 x3)∧w.cell? ⟨g,o+k*12+4,none⟩=some (.int i64 x4)∧w.cell? ⟨g,o+k*12+5,none⟩=some (.bool x5)∧w.cell? ⟨g,o+k*12+6,none⟩=some (.int i64 x6)∧w.cell? ⟨g,o+k*12+7,none⟩=some (.int i64 x7)∧w.cell? ⟨g,o+k*12+8,none⟩=some (.int i64 x8)∧w.cell? ⟨g,o+k*12+9,none⟩=some (.int i64 x9)∧w.cell? ⟨g,o+k*12+10,none⟩=some (.int i64 x10)∧w.cell? ⟨g,o+k*12+11,none⟩=some (.int i64 x11):=
 have hl:k<L.length:=by omega
 ⟨_,_,_,_,_,_,_,_,_,_,_,_,hl,rfl,msg_cells (h k hl)⟩
theorem msg_new (w:World)(x0 x1 x2 x3 x4:Int)(x5:Bool)(x6 x7 x8 x9 x10 x11:Int)(t:TypeId):VAt (w.alloc (.cells #[.int i64 x0,.int i64 x1,.int i64 x2,.int i64 x3,.int i64 x4,.bool x5,.int i64 x6,.int i64 x7,.int i64 x8,.int i64 x9,.int i64 x10,.int i64 x11] t)) w.heap.size 0 (msgE.c ⟨x0,x1,x2,x3,⟨x4,x5,⟨x6,x7,x8,x9,x10,x11⟩⟩⟩):=vat_new w [.int i64 x0,.int i64 x1,.int i64 x2,.int i64 x3,.int i64 x4,.bool x5,.int i64 x6,.int i64 x7,.int i64 x8,.int i64 x9,.int i64 x10,.int i64 x11] t
def msgB (a b:Mg):Bool:=(a.k==b.k)&&((a.s==b.s)&&((a.r==b.r)&&((a.i==b.i)&&((a.o.w==b.o.w)&&((a.o.a==b.o.a)&&((a.o.r.p==b.o.r.p)&&((a.o.r.m==b.o.r.m)&&((a.o.r.b==b.o.r.b)&&((a.o.r.o==b.o.r.o)&&((a.o.r.s==b.o.r.s)&&((a.o.r.v==b.o.r.v))))))))))))
theorem msgB_iff (a b:Mg):msgB a b=true↔a=b:=by
 have e:msgB a b=((a.k==b.k)&&((a.s==b.s)&&((a.r==b.r)&&((a.i==b.i)&&((a.o.w==b.o.w)&&((a.o.a==b.o.a)&&((a.o.r.p==b.o.r.p)&&((a.o.r.m==b.o.r.m)&&((a.o.r.b==b.o.r.b)&&((a.o.r.o==b.o.r.o)&&((a.o.r.s==b.o.r.s)&&((a.o.r.v==b.o.r.v))))))))))))):=rfl;rw[e];simp only[Bool.and_eq_true,beq_iff_eq];constructor
 ·intro h;obtain⟨a0,a1,a2,a3,⟨a4,a5,⟨a6,a7,a8,a9,a10,a11⟩⟩⟩:=a;obtain⟨b0,b1,b2,b3,⟨b4,b5,⟨b6,b7,b8,b9,b10,b11⟩⟩⟩:=b;simp at h ⊢;simp[h]
 intro h;subst h;simp
theorem msg_ways (x0 x1 x2 x3 x4:Int)(x5:Bool)(x6 x7 x8 x9 x10 x11 y0 y1 y2 y3 y4:Int)(y5:Bool)(y6 y7 y8 y9 y10 y11:Int):
 ((x0==y0)=false∧msgB ⟨x0,x1,x2,x3,⟨x4,x5,⟨x6,x7,x8,x9,x10,x11⟩⟩⟩ ⟨y0,y1,y2,y3,⟨y4,y5,⟨y6,y7,y8,y9,y10,y11⟩⟩⟩=false) ∨
 ((x0==y0)=true∧(x1==y1)=false∧msgB ⟨x0,x1,x2,x3,⟨x4,x5,⟨x6,x7,x8,x9,x10,x11⟩⟩⟩ ⟨y0,y1,y2,y3,⟨y4,y5,⟨y6,y7,y8,y9,y10,y11⟩⟩⟩=false) ∨
 ((x0==y0)=true∧(x1==y1)=true∧(x2==y2)=false∧msgB ⟨x0,x1,x2,x3,⟨x4,x5,⟨x6,x7,x8,x9,x10,x11⟩⟩⟩ ⟨y0,y1,y2,y3,⟨y4,y5,⟨y6,y7,y8,y9,y10,y11⟩⟩⟩=false) ∨
 ((x0==y0)=true∧(x1==y1)=true∧(x2==y2)=true∧(x3==y3)=false∧msgB ⟨x0,x1,x2,x3,⟨x4,x5,⟨x6,x7,x8,x9,x10,x11⟩⟩⟩ ⟨y0,y1,y2,y3,⟨y4,y5,⟨y6,y7,y8,y9,y10,y11⟩⟩⟩=false) ∨
 ((x0==y0)=true∧(x1==y1)=true∧(x2==y2)=true∧(x3==y3)=true∧(x4==y4)=false∧msgB ⟨x0,x1,x2,x3,⟨x4,x5,⟨x6,x7,x8,x9,x10,x11⟩⟩⟩ ⟨y0,y1,y2,y3,⟨y4,y5,⟨y6,y7,y8,y9,y10,y11⟩⟩⟩=false) ∨
 ((x0==y0)=true∧(x1==y1)=true∧(x2==y2)=true∧(x3==y3)=true∧(x4==y4)=true∧(x5==y5)=false∧msgB ⟨x0,x1,x2,x3,⟨x4,x5,⟨x6,x7,x8,x9,x10,x11⟩⟩⟩ ⟨y0,y1,y2,y3,⟨y4,y5,⟨y6,y7,y8,y9,y10,y11⟩⟩⟩=false) ∨
 ((x0==y0)=true∧(x1==y1)=true∧(x2==y2)=true∧(x3==y3)=true∧(x4==y4)=true∧(x5==y5)=true∧(x6==y6)=false∧msgB ⟨x0,x1,x2,x3,⟨x4,x5,⟨x6,x7,x8,x9,x10,x11⟩⟩⟩ ⟨y0,y1,y2,y3,⟨y4,y5,⟨y6,y7,y8,y9,y10,y11⟩⟩⟩=false) ∨
 ((x0==y0)=true∧(x1==y1)=true∧(x2==y2)=true∧(x3==y3)=true∧(x4==y4)=true∧(x5==y5)=true∧(x6==y6)=true∧(x7==y7)=false∧msgB ⟨x0,x1,x2,x3,⟨x4,x5,⟨x6,x7,x8,x9,x10,x11⟩⟩⟩ ⟨y0,y1,y2,y3,⟨y4,y5,⟨y6,y7,y8,y9,y10,y11⟩⟩⟩=false) ∨
 ((x0==y0)=true∧(x1==y1)=true∧(x2==y2)=true∧(x3==y3)=true∧(x4==y4)=true∧(x5==y5)=true∧(x6==y6)=true∧(x7==y7)=true∧(x8==y8)=false∧msgB ⟨x0,x1,x2,x3,⟨x4,x5,⟨x6,x7,x8,x9,x10,x11⟩⟩⟩ ⟨y0,y1,y2,y3,⟨y4,y5,⟨y6,y7,y8,y9,y10,y11⟩⟩⟩=false) ∨
 ((x0==y0)=true∧(x1==y1)=true∧(x2==y2)=true∧(x3==y3)=true∧(x4==y4)=true∧(x5==y5)=true∧(x6==y6)=true∧(x7==y7)=true∧(x8==y8)=true∧(x9==y9)=false∧msgB ⟨x0,x1,x2,x3,⟨x4,x5,⟨x6,x7,x8,x9,x10,x11⟩⟩⟩ ⟨y0,y1,y2,y3,⟨y4,y5,⟨y6,y7,y8,y9,y10,y11⟩⟩⟩=false) ∨
 ((x0==y0)=true∧(x1==y1)=true∧(x2==y2)=true∧(x3==y3)=true∧(x4==y4)=true∧(x5==y5)=true∧(x6==y6)=true∧(x7==y7)=true∧(x8==y8)=true∧(x9==y9)=true∧(x10==y10)=false∧msgB ⟨x0,x1,x2,x3,⟨x4,x5,⟨x6,x7,x8,x9,x10,x11⟩⟩⟩ ⟨y0,y1,y2,y3,⟨y4,y5,⟨y6,y7,y8,y9,y10,y11⟩⟩⟩=false) ∨
 ((x0==y0)=true∧(x1==y1)=true∧(x2==y2)=true∧(x3==y3)=true∧(x4==y4)=true∧(x5==y5)=true∧(x6==y6)=true∧(x7==y7)=true∧(x8==y8)=true∧(x9==y9)=true∧(x10==y10)=true∧(x11==y11)=false∧msgB ⟨x0,x1,x2,x3,⟨x4,x5,⟨x6,x7,x8,x9,x10,x11⟩⟩⟩ ⟨y0,y1,y2,y3,⟨y4,y5,⟨y6,y7,y8,y9,y10,y11⟩⟩⟩=false) ∨
 ((x0==y0)=true∧(x1==y1)=true∧(x2==y2)=true∧(x3==y3)=true∧(x4==y4)=true∧(x5==y5)=true∧(x6==y6)=true∧(x7==y7)=true∧(x8==y8)=true∧(x9==y9)=true∧(x10==y10)=true∧(x11==y11)=true∧msgB ⟨x0,x1,x2,x3,⟨x4,x5,⟨x6,x7,x8,x9,x10,x11⟩⟩⟩ ⟨y0,y1,y2,y3,⟨y4,y5,⟨y6,y7,y8,y9,y10,y11⟩⟩⟩=true):=by
 have e:msgB ⟨x0,x1,x2,x3,⟨x4,x5,⟨x6,x7,x8,x9,x10,x11⟩⟩⟩ ⟨y0,y1,y2,y3,⟨y4,y5,⟨y6,y7,y8,y9,y10,y11⟩⟩⟩=((x0==y0)&&((x1==y1)&&((x2==y2)&&((x3==y3)&&((x4==y4)&&((x5==y5)&&((x6==y6)&&((x7==y7)&&((x8==y8)&&((x9==y9)&&((x10==y10)&&((x11==y11))))))))))))):=rfl;rw[e];cases h0:(x0==y0)
 ·simp
 skip;cases h1:(x1==y1)
 ·simp
 skip;cases h2:(x2==y2)
 ·simp
 skip;cases h3:(x3==y3)
 ·simp
 skip;cases h4:(x4==y4)
 ·simp
 skip;cases h5:(x5==y5)
 ·simp
 skip;cases h6:(x6==y6)
 ·simp
 skip;cases h7:(x7==y7)
 ·simp
 skip;cases h8:(x8==y8)
 ·simp
 skip;cases h9:(x9==y9)
 ·simp
 skip;cases h10:(x10==y10)
 ·simp
 skip;cases h11:(x11==y11)
 ·simp
 skip;simp
theorem msg_eq (x0 x1 x2 x3 x4:Int)(x5:Bool)(x6 x7 x8 x9 x10 x11 y0 y1 y2 y3 y4:Int)(y5:Bool)(y6 y7 y8 y9 y10 y11:Int)(w:World):(Op.equal 34 (.agg #[.int i64 x0,.int i64 x1,.int i64 x2,.int i64 x3,.int i64 x4,.bool x5,.int i64 x6,.int i64 x7,.int i64 x8,.int i64 x9,.int i64 x10,.int i64 x11]) (.agg #[.int i64 y0,.int i64 y1,.int i64 y2,.int i64 y3,.int i64 y4,.bool y5,.int i64 y6,.int i64 y7,.int i64 y8,.int i64 y9,.int i64 y10,.int i64 y11])).run prog w=.ok (msgB ⟨x0,x1,x2,x3,⟨x4,x5,⟨x6,x7,x8,x9,x10,x11⟩⟩⟩ ⟨y0,y1,y2,y3,⟨y4,y5,⟨y6,y7,y8,y9,y10,y11⟩⟩⟩) w:=by
 unfold Op.equal Op.maxDepth;rw[run_equalIn_struct w 9999 _ _ _ (by kernel_rfl) (by kernel_rfl)]
 rcases msg_ways x0 x1 x2 x3 x4 x5 x6 x7 x8 x9 x10 x11 y0 y1 y2 y3 y4 y5 y6 y7 y8 y9 y10 y11 with ⟨e0,e⟩ | ⟨e0,e1,e⟩ | ⟨e0,e1,e2,e⟩ | ⟨e0,e1,e2,e3,e⟩ | ⟨e0,e1,e2,e3,e4,e⟩ | ⟨e0,e1,e2,e3,e4,e5,e⟩ | ⟨e0,e1,e2,e3,e4,e5,e6,e⟩ | ⟨e0,e1,e2,e3,e4,e5,e6,e7,e⟩ | ⟨e0,e1,e2,e3,e4,e5,e6,e7,e8,e⟩ | ⟨e0,e1,e2,e3,e4,e5,e6,e7,e8,e9,e⟩ | ⟨e0,e1,e2,e3,e4,e5,e6,e7,e8,e9,e10,e⟩ | ⟨e0,e1,e2,e3,e4,e5,e6,e7,e8,e9,e10,e11,e⟩ | ⟨e0,e1,e2,e3,e4,e5,e6,e7,e8,e9,e10,e11,e⟩
 all_goals
  rw[e];go_simp
theorem msg_info:(Try.prog.info? 34).map (fun i=>(i.zero,i.size,i.bytes))=some (some (.agg #[.int i64 0,.int i64 0,.int i64 0,.int i64 0,.int i64 0,.bool false,.int i64 0,.int i64 0,.int i64 0,.int i64 0,.int i64 0,.int i64 0]),12,96):=by kernel_rfl
theorem msg_zero:(Value.agg #[.int i64 0,.int i64 0,.int i64 0,.int i64 0,.int i64 0,.bool false,.int i64 0,.int i64 0,.int i64 0,.int i64 0,.int i64 0,.int i64 0]).cells.size=12:=by simp[Value.cells]
theorem msg_open {H:Type}{enc:TypeId×Value→H}{W:World}{n:Nat}{cs:List Value}{x:DataW H×List MemPlace}
 (h:DataW.trod enc prog W 0 (fun _=>true) true n 34 cs=some x):∃y,cs=msgE.c y:=by
 obtain⟨xs,k,_,_,hl,hlen,hf⟩:=DataW.trod_struct underlying34 h;have hC:Try.prog.cellsOf 34=12:=by kernel_rfl
 have hT0:Try.prog.cellsOf 3=1:=by kernel_rfl
 have hT1:Try.prog.cellsOf 32=8:=by kernel_rfl
 rw[hC] at hl
 match cs,hl with
 | [c0,c1,c2,c3,c4,c5,c6,c7,c8,c9,c10,c11],_ =>
   match xs,hlen with
   | [z0,z1,z2,z3,z4],_ =>
     have g0:=hf 0 _ rfl;have g1:=hf 1 _ rfl;have g2:=hf 2 _ rfl;have g3:=hf 3 _ rfl;have g4:=hf 4 _ rfl;simp[hT0,hT1] at g0 g1 g2 g3 g4;obtain⟨v0,e0,_,_⟩:=DataW.trod_int underlying3 g0;obtain⟨v1,e1,_,_⟩:=DataW.trod_int underlying3 g1;obtain⟨v2,e2,_,_⟩:=DataW.trod_int underlying3 g2;obtain⟨v3,e3,_,_⟩:=DataW.trod_int underlying3 g3;obtain⟨s4,e4⟩:=op_open g4;simp[opE] at e0 e1 e2 e3 e4;refine⟨⟨v0,v1,v2,v3,⟨s4.w,s4.a,⟨s4.r.p,s4.r.m,s4.r.b,s4.r.o,s4.r.s,s4.r.v⟩⟩⟩,?_⟩;simp[msgE,e0,e1,e2,e3,e4]
theorem msgs_of {H:Type}{enc:TypeId×Value→H}{W:World}{base:Nat}{v:Value}{d:DataW H}{p:List MemPlace}
 (hv:Value.okWide prog W .any base 22 v) (h:DataW.Trod enc prog W 0 (fun _=>true) true 22 v d p):∃L,GS msgE W v L:=
 gs_of (E:=msgE) 22 34 underlying22 (by kernel_rfl) ⟨0,0,0,0,⟨0,false,⟨0,0,0,0,0,0⟩⟩⟩ (fun _ _ _ h=>msg_open h) hv h
end
section
def noV (n:Int):Value:=if n=0 then .nilIface else .iface 47 (.int i64 n)
theorem no_ok {n:Int}(h:n=0):noV n=.nilIface:=by simp[noV,h]
theorem no_ne {n:Int}(h:n≠0):noV n=.iface 47 (.int i64 n):=by simp[noV,h]
end
section
open Go.RowKit
theorem bcell {W w1:World}(hb:Below W.heap.size W w1):(∀b o,b<W.heap.size→w1.cell? ⟨b,o,none⟩=W.cell? ⟨b,o,none⟩)∧(∀b o,b<W.heap.size→w1.frozen? ⟨b,o,none⟩=W.frozen? ⟨b,o,none⟩):=
 ⟨fun b o h=>hb.cell (p:=⟨b,o,none⟩) h,fun b o h=>hb.frozen (p:=⟨b,o,none⟩) h⟩
theorem isHeader_yes (n:Int)(w:World)(h:hdrB n=true):
 Calls prog 21 #[.int i64 n] w fun e w'=>e=.returned (.bool true)∧w'=w:=by
 obtain⟨h1,h2⟩:=hdr_of h;clear h;go_enter func21,ntmps21;go_wp2;go_ret;exact⟨rfl,rfl⟩
theorem isHeader_no (n:Int)(w:World)(h:hdrB n=false):
 Calls prog 21 #[.int i64 n] w fun e w'=>e=.returned (.bool false)∧w'=w:=by
 rcases hdr_no h with h1 | h1
 ·clear h;go_enter func21,ntmps21;go_wp2;go_ret;exact⟨rfl,rfl⟩
 have h2:0≤n:=by omega
 have h3:decide (n<16)=false:=by simp;omega
 clear h;go_enter func21,ntmps21;go_wp2;go_ret;exact⟨rfl,rfl⟩
theorem check_range (m b:Int)(w:World)(h:rngB m b=false):
 Calls prog 22 #[.agg #[.int i64 m,.int i64 b]] w fun e w'=>e=.returned (.iface 47 (.int i64 1))∧Below w.heap.size w w':=by
 by_cases hm:hdrB m=true
 ·have hb:hdrB b=false:=by simpa[rngB,hm] using h
  clear h;go_enter func22,ntmps22
  go_wp2_with fail
  refine (isHeader_yes _ _ hm).mono ?_;rintro e w' ⟨rfl,rfl⟩
  go_wp2_with fail
  refine (isHeader_no _ _ hb).mono ?_;rintro e w' ⟨rfl,rfl⟩;go_wp2;go_ret;exact⟨rfl,(bRQ _ _).alloc (nLQ _) _⟩
 have hm':hdrB m=false:=by simpa using hm
 clear h hm;go_enter func22,ntmps22
 go_wp2_with fail
 refine (isHeader_no _ _ hm').mono ?_;rintro e w' ⟨rfl,rfl⟩;go_wp2;go_ret;exact⟨rfl,(bRQ _ _).alloc (nLQ _) _⟩
theorem check_shape (m b:Int)(w:World)(h:rngB m b=true)(h2:okB m b=false):
 Calls prog 22 #[.agg #[.int i64 m,.int i64 b]] w fun e w'=>e=.returned (.iface 47 (.int i64 3))∧Below w.heap.size w w':=by
 have hm:hdrB m=true:=by simp only[rngB,Bool.and_eq_true] at h;exact h.1
 have hb:hdrB b=true:=by simp only[rngB,Bool.and_eq_true] at h;exact h.2
 have hz:(bits .andNot .i64 b m==0)=false:=by simpa[okB,h] using h2
 clear h h2;go_enter func22,ntmps22
 go_wp2_with fail
 refine (isHeader_yes _ _ hm).mono ?_;rintro e w' ⟨rfl,rfl⟩
 go_wp2_with fail
 refine (isHeader_yes _ _ hb).mono ?_;rintro e w' ⟨rfl,rfl⟩;go_wp2;go_ret;exact⟨rfl,(bRQ _ _).alloc (nLQ _) _⟩
theorem check_ok (m b:Int)(w:World)(h:okB m b=true):
 Calls prog 22 #[.agg #[.int i64 m,.int i64 b]] w fun e w'=>e=.returned .nilIface∧Below w.heap.size w w':=by
 have hm:hdrB m=true:=hdr_mk (ok_of h).1;have hb:hdrB b=true:=hdr_mk (ok_of h).2;have hz:(bits .andNot .i64 b m==0)=true:=by simp only[okB,Bool.and_eq_true] at h;exact h.2
 clear h;go_enter func22,ntmps22
 go_wp2_with fail
 refine (isHeader_yes _ _ hm).mono ?_;rintro e w' ⟨rfl,rfl⟩
 go_wp2_with fail
 refine (isHeader_yes _ _ hb).mono ?_;rintro e w' ⟨rfl,rfl⟩;go_wp2;go_ret;exact⟨rfl,(bRQ _ _).alloc (nLQ _) _⟩
theorem check_no (m b:Int)(w:World):
 Calls prog 22 #[.agg #[.int i64 m,.int i64 b]] w fun e w'=>e=.returned (noV (refN m b))∧Below w.heap.size w w':=by
 cases hr:rngB m b
 ·have e:noV (refN m b)=.iface 47 (.int i64 1):=by rw[refN_range hr];rfl
  rw[e];exact check_range m b w hr
 cases ho:okB m b
 ·have e:noV (refN m b)=.iface 47 (.int i64 3):=by rw[refN_shape ho hr];rfl
  rw[e];exact check_shape m b w hr ho
 have e:noV (refN m b)=.nilIface:=by rw[refN_ok ho];rfl
 rw[e];exact check_ok m b w ho
theorem ruCheck_prio (p m b o s v:Int)(w:World)(h:ruP p o=false):
 Calls prog 20 #[.agg #[.int i64 p,.int i64 m,.int i64 b,.int i64 o,.int i64 s,.int i64 v]] w fun e w'=>e=.returned (.iface 47 (.int i64 1))∧Below w.heap.size w w':=by
 have hc:p<0∨(0≤p∧99<p)∨((0≤p∧p≤99)∧o<0)∨((0≤p∧p≤99)∧(0≤o∧4<o)):=by
  simp[ruP] at h;omega
 clear h
 rcases hc with h1 | ⟨h1,h2⟩ | ⟨⟨h1,h2⟩,h3⟩ | ⟨⟨h1,h2⟩,h3,h4⟩
 ·have e1:decide (p<0)=true:=by simp;omega
  go_enter func20,ntmps20;go_wp2;go_ret;exact⟨rfl,(bRQ _ _).alloc (nLQ _) _⟩
 ·have e1:decide (p<0)=false:=by simp;omega
  have e2:decide (99<p)=true:=by simp;omega
  go_enter func20,ntmps20;go_wp2;go_ret;exact⟨rfl,(bRQ _ _).alloc (nLQ _) _⟩
 ·have e1:decide (p<0)=false:=by simp;omega
  have e2:decide (99<p)=false:=by simp;omega
  have e3:decide (o<0)=true:=by simp;omega
  go_enter func20,ntmps20;go_wp2;go_ret;exact⟨rfl,(bRQ _ _).alloc (nLQ _) _⟩
 have e1:decide (p<0)=false:=by simp;omega
 have e2:decide (99<p)=false:=by simp;omega
 have e3:decide (o<0)=false:=by simp;omega
 have e4:decide (4<o)=true:=by simp;omega
 go_enter func20,ntmps20;go_wp2;go_ret;exact⟨rfl,(bRQ _ _).alloc (nLQ _) _⟩
theorem ruP_of {p o:Int}(h:ruP p o=true):decide (p<0)=false∧decide (99<p)=false∧decide (o<0)=false∧decide (4<o)=false:=by
 simp only[ruP,Bool.and_eq_true,decide_eq_true_eq] at h;refine⟨?_,?_,?_,?_⟩ <;> simp <;> omega
theorem ruCheck_set (p m b o s v:Int)(w:World)(h:ruP p o=true)(h2:rngB s v=false):
 Calls prog 20 #[.agg #[.int i64 p,.int i64 m,.int i64 b,.int i64 o,.int i64 s,.int i64 v]] w fun e w'=>e=.returned (.iface 47 (.int i64 1))∧Below w.heap.size w w':=by
 obtain⟨e1,e2,e3,e4⟩:=ruP_of h;clear h;cases hs:hdrB s
 ·clear h2;go_enter func20,ntmps20
  go_wp2_with fail
  refine (isHeader_no _ _ hs).mono ?_;rintro e w' ⟨rfl,rfl⟩;go_wp2;go_ret;exact⟨rfl,(bRQ _ _).alloc (nLQ _) _⟩
 have hv:hdrB v=false:=by simpa[rngB,hs] using h2
 clear h2;go_enter func20,ntmps20
 go_wp2_with fail
 refine (isHeader_yes _ _ hs).mono ?_;rintro e w' ⟨rfl,rfl⟩
 go_wp2_with fail
 refine (isHeader_no _ _ hv).mono ?_;rintro e w' ⟨rfl,rfl⟩;go_wp2;go_ret;exact⟨rfl,(bRQ _ _).alloc (nLQ _) _⟩
theorem ruCheck_cube (p m b o s v:Int)(w:World)(h:ruP p o=true)(h2:rngB s v=true)(h3:okB m b=false):
 Calls prog 20 #[.agg #[.int i64 p,.int i64 m,.int i64 b,.int i64 o,.int i64 s,.int i64 v]] w fun e w'=>e=.returned (.iface 47 (.int i64 (refN m b)))∧Below w.heap.size w w':=by
 obtain⟨e1,e2,e3,e4⟩:=ruP_of h;have hs:hdrB s=true:=by simp only[rngB,Bool.and_eq_true] at h2;exact h2.1
 have hv:hdrB v=true:=by simp only[rngB,Bool.and_eq_true] at h2;exact h2.2
 have hn:refN m b≠0:=by have:=ok_refN m b;rw[h3] at this;simpa using this
 clear h h2 h3;go_enter func20,ntmps20
 go_wp2_with fail
 refine (isHeader_yes _ _ hs).mono ?_;rintro e w' ⟨rfl,rfl⟩
 go_wp2_with fail
 refine (isHeader_yes _ _ hv).mono ?_;rintro e w' ⟨rfl,rfl⟩
 go_wp2_with fail
 refine (check_no _ _ _).mono ?_;rintro e w1 ⟨rfl,hb1⟩;rw[no_ne hn];go_wp2;go_ret;exact⟨rfl,((bRQ _ _).alloc (nLQ _) _).trans (hb1.mono (by simp))⟩
theorem ruCheck_end (p m b o s v:Int)(w:World)(h:ruP p o=true)(h2:rngB s v=true)(h3:okB m b=true):
 Calls prog 20 #[.agg #[.int i64 p,.int i64 m,.int i64 b,.int i64 o,.int i64 s,.int i64 v]] w fun e w'=>e=.returned (if ruSet o s v then .nilIface else .iface 47 (.int i64 3))∧Below w.heap.size w w':=by
 obtain⟨e1,e2,e3,e4⟩:=ruP_of h;have hs:hdrB s=true:=by simp only[rngB,Bool.and_eq_true] at h2;exact h2.1
 have hv:hdrB v=true:=by simp only[rngB,Bool.and_eq_true] at h2;exact h2.2
 have hn:refN m b=0:=refN_ok h3;have hlt:w.heap.size<(w.alloc (.cells #[.int i64 p,.int i64 m,.int i64 b,.int i64 o,.int i64 s,.int i64 v] 30)).heap.size:=by simp
 clear h h2 h3;cases ha:(bits .andNot .i64 v s==0)
 ·have e:ruSet o s v=false:=by simp[ruSet,ha]
  rw[e];clear e;simp only[Bool.false_eq_true,if_false];have ha2:(bits .andNot .i64 v s != 0)=true:=by simpa using ha
  go_enter func20,ntmps20
  go_wp2_with fail
  refine (isHeader_yes _ _ hs).mono ?_;rintro e w' ⟨rfl,rfl⟩
  go_wp2_with fail
  refine (isHeader_yes _ _ hv).mono ?_;rintro e w' ⟨rfl,rfl⟩
  go_wp2_with fail
  refine (check_no _ _ _).mono ?_;rintro e w1 ⟨rfl,hb1⟩;rw[no_ok hn];obtain⟨hc1,hf1⟩:=bcell hb1;have hB:=((Below.refl w.heap.size w).alloc (nLQ _) (Obj.cells #[.int i64 p,.int i64 m,.int i64 b,.int i64 o,.int i64 s,.int i64 v] 30)).trans (hb1.mono (by simp));clear hb1;go_wp2;go_ret;exact⟨rfl,hB⟩
 cases ho:(o==0)
 ·have e:ruSet o s v=true:=by simp[ruSet,ha,ho]
  rw[e];clear e;simp only[if_true];have ha2:(bits .andNot .i64 v s != 0)=false:=by simpa using ha
  go_enter func20,ntmps20
  go_wp2_with fail
  refine (isHeader_yes _ _ hs).mono ?_;rintro e w' ⟨rfl,rfl⟩
  go_wp2_with fail
  refine (isHeader_yes _ _ hv).mono ?_;rintro e w' ⟨rfl,rfl⟩
  go_wp2_with fail
  refine (check_no _ _ _).mono ?_;rintro e w1 ⟨rfl,hb1⟩;rw[no_ok hn];obtain⟨hc1,hf1⟩:=bcell hb1;have hB:=((Below.refl w.heap.size w).alloc (nLQ _) (Obj.cells #[.int i64 p,.int i64 m,.int i64 b,.int i64 o,.int i64 s,.int i64 v] 30)).trans (hb1.mono (by simp));clear hb1;go_wp2;go_ret;exact⟨rfl,hB⟩
 cases hz:(s==0)
 ·have e:ruSet o s v=false:=by simp[ruSet,ha,ho,hz]
  rw[e];clear e;simp only[Bool.false_eq_true,if_false];have ha2:(bits .andNot .i64 v s != 0)=false:=by simpa using ha
  go_enter func20,ntmps20
  go_wp2_with fail
  refine (isHeader_yes _ _ hs).mono ?_;rintro e w' ⟨rfl,rfl⟩
  go_wp2_with fail
  refine (isHeader_yes _ _ hv).mono ?_;rintro e w' ⟨rfl,rfl⟩
  go_wp2_with fail
  refine (check_no _ _ _).mono ?_;rintro e w1 ⟨rfl,hb1⟩;rw[no_ok hn];obtain⟨hc1,hf1⟩:=bcell hb1;have hB:=((Below.refl w.heap.size w).alloc (nLQ _) (Obj.cells #[.int i64 p,.int i64 m,.int i64 b,.int i64 o,.int i64 s,.int i64 v] 30)).trans (hb1.mono (by simp));clear hb1;go_wp2;go_ret;exact⟨rfl,hB⟩
 have e:ruSet o s v=true:=by simp[ruSet,ha,ho,hz]
 rw[e];clear e;simp only[if_true];have ha2:(bits .andNot .i64 v s != 0)=false:=by simpa using ha
 go_enter func20,ntmps20
 go_wp2_with fail
 refine (isHeader_yes _ _ hs).mono ?_;rintro e w' ⟨rfl,rfl⟩
 go_wp2_with fail
 refine (isHeader_yes _ _ hv).mono ?_;rintro e w' ⟨rfl,rfl⟩
 go_wp2_with fail
 refine (check_no _ _ _).mono ?_;rintro e w1 ⟨rfl,hb1⟩;rw[no_ok hn];obtain⟨hc1,hf1⟩:=bcell hb1;have hB:=((Below.refl w.heap.size w).alloc (nLQ _) (Obj.cells #[.int i64 p,.int i64 m,.int i64 b,.int i64 o,.int i64 s,.int i64 v] 30)).trans (hb1.mono (by simp));clear hb1;go_wp2;go_ret;exact⟨rfl,hB⟩
theorem ruCheck_any (p m b o s v:Int)(w:World):
 Calls prog 20 #[.agg #[.int i64 p,.int i64 m,.int i64 b,.int i64 o,.int i64 s,.int i64 v]] w fun e w'=>e=.returned (noV (ruN p m b o s v))∧Below w.heap.size w w':=by
 cases h1:ruP p o
 ·have e:noV (ruN p m b o s v)=.iface 47 (.int i64 1):=by simp[ruN,ruIn,h1,noV]
  rw[e];exact ruCheck_prio p m b o s v w h1
 cases h2:rngB s v
 ·have e:noV (ruN p m b o s v)=.iface 47 (.int i64 1):=by simp[ruN,ruIn,h2,noV]
  rw[e];exact ruCheck_set p m b o s v w h1 h2
 cases h3:okB m b
 ·have hn:refN m b≠0:=by have:=ok_refN m b;rw[h3] at this;simpa using this
  have e:noV (ruN p m b o s v)=.iface 47 (.int i64 (refN m b)):=by simp[ruN,ruIn,h1,h2,h3,noV,hn]
  rw[e];exact ruCheck_cube p m b o s v w h1 h2 h3
 have e:noV (ruN p m b o s v)=(if ruSet o s v then .nilIface else .iface 47 (.int i64 3)):=by
  cases h4:ruSet o s v <;> simp[ruN,ruIn,h1,h2,h3,noV,h4]
 rw[e];exact ruCheck_end p m b o s v w h1 h2 h3
section
variable {κ β:Type}
def fndM (q:κ→κ→Bool)(k:κ):List κ→List MapEntry→Nat→Option (Nat×Value)
 | k' :: ks,e :: es,i=>if q k k' then some (i,e.val) else fndM q k ks es (i+1)
 | _,_,_=>none
end
structure KeyE (P:Program)(K:TypeId)(κ:Type) where
 c:κ→Value
 q:κ→κ→Bool
 qeq:∀a b,q a b=true↔a=b
 check:∀(e:Bool) (k:κ) (w:World),(Instr.checkKey e 10000 K (c k)).run P w=.ok () w
 find:∀(k:κ) (ks:List κ) (l:List MapEntry) (w:World),l.map (·.key)=ks.map c→(Instr.findKey K (c k) l).run P w=.ok (fndM q k ks l 0) w
 bits:∀k,Instr.sameBits 10000 (c k) (c k)=true
section
variable {P:Program}{K:TypeId}{κ β:Type}
variable {E:KeyE P K κ}{ve:β→Value}
variable {w:World}{ops:Array Oper}{rest:List Oper}{o:Oper}{a:Act}{Q:Exit→Act→World→Prop}
end
def swB (S a:Int):Bool:=decide (1≤a)&&decide (a≤S)
theorem sw_of {S a:Int}:swB S a=true↔1≤a∧a≤S:=by simp[swB]
theorem isSwitch_any (S a:Int)(w:World):
 Calls prog 14 #[.int i64 S,.int i64 a] w fun e w'=>e=.returned (.bool (swB S a))∧Below w.heap.size w w':=by
 by_cases h1:1≤a
 ·by_cases h2:a≤S
  ·have e:swB S a=true:=sw_of.2 ⟨h1,h2⟩;rw[e];clear e;go_enter func14,ntmps14;go_wp2;go_ret;exact⟨rfl,bRQ _ _⟩
  have e:swB S a=false:=by simp[swB,h2]
  rw[e];clear e;go_enter func14,ntmps14;go_wp2;go_ret;exact⟨rfl,bRQ _ _⟩
 have e:swB S a=false:=by simp[swB,h1]
 rw[e];clear e;go_enter func14,ntmps14;go_wp2;go_ret;exact⟨rfl,bRQ _ _⟩
def MgC (W:World)(g:Nat)(x0 x1 x2 x3 x4:Int)(x5:Bool)(x6 x7 x8 x9 x10 x11:Int):Prop:=
 W.cell? ⟨g,0,none⟩=some (.int i64 x0)∧W.cell? ⟨g,1,none⟩=some (.int i64 x1)∧W.cell? ⟨g,2,none⟩=some (.int i64 x2)∧W.cell? ⟨g,3,none⟩=some (.int i64 x3)∧W.cell? ⟨g,4,none⟩=some (.int i64 x4)∧W.cell? ⟨g,5,none⟩=some (.bool x5)∧W.cell? ⟨g,6,none⟩=some (.int i64 x6)∧W.cell? ⟨g,7,none⟩=some (.int i64 x7)∧W.cell? ⟨g,8,none⟩=some (.int i64 x8)∧W.cell? ⟨g,9,none⟩=some (.int i64 x9)∧W.cell? ⟨g,10,none⟩=some (.int i64 x10)∧W.cell? ⟨g,11,none⟩=some (.int i64 x11)
theorem MgC.later {W W':World}{g:Nat}{x0 x1 x2 x3 x4:Int}{x5:Bool}{x6 x7 x8 x9 x10 x11:Int}(h:MgC W g x0 x1 x2 x3 x4 x5 x6 x7 x8 x9 x10 x11)(hb:Below W.heap.size W W'):MgC W' g x0 x1 x2 x3 x4 x5 x6 x7 x8 x9 x10 x11:=by
 obtain⟨c0,c1,c2,c3,c4,c5,c6,c7,c8,c9,c10,c11⟩:=h;exact⟨cell_later hb c0,cell_later hb c1,cell_later hb c2,cell_later hb c3,cell_later hb c4,cell_later hb c5,cell_later hb c6,cell_later hb c7,cell_later hb c8,cell_later hb c9,cell_later hb c10,cell_later hb c11⟩
theorem MgC.lt {W:World}{g:Nat}{x0 x1 x2 x3 x4:Int}{x5:Bool}{x6 x7 x8 x9 x10 x11:Int}(h:MgC W g x0 x1 x2 x3 x4 x5 x6 x7 x8 x9 x10 x11):g<W.heap.size:=bLQ _ _ h.1
theorem mgc_new (w:World)(x0 x1 x2 x3 x4:Int)(x5:Bool)(x6 x7 x8 x9 x10 x11:Int)(T:TypeId):MgC (w.alloc (.cells #[.int i64 x0,.int i64 x1,.int i64 x2,.int i64 x3,.int i64 x4,.bool x5,.int i64 x6,.int i64 x7,.int i64 x8,.int i64 x9,.int i64 x10,.int i64 x11] T)) w.heap.size x0 x1 x2 x3 x4 x5 x6 x7 x8 x9 x10 x11:=by
 refine⟨?_,?_,?_,?_,?_,?_,?_,?_,?_,?_,?_,?_⟩ <;> simp
def mgV (m:Mg):Value:=.agg #[.int i64 m.k,.int i64 m.s,.int i64 m.r,.int i64 m.i,.int i64 m.o.w,.bool m.o.a,.int i64 m.o.r.p,.int i64 m.o.r.m,.int i64 m.o.r.b,.int i64 m.o.r.o,.int i64 m.o.r.s,.int i64 m.o.r.v]
theorem size_any (c:Nat)(w:World):Calls prog 11 #[.int .u8 (c:Int)] w fun e w'=>e=.returned (.int i64 (lnM c:Int))∧w'=w:=by
 by_cases h1:c=1
 ·subst h1;go_enter func11,ntmps11;go_wp2;go_ret;exact⟨rfl,rfl⟩
 have f1:((c:Int)==1)=false:=by simp;omega
 by_cases h2:c=2
 ·subst h2;go_enter func11,ntmps11;go_wp2;go_ret;exact⟨rfl,rfl⟩
 have f2:((c:Int)==2)=false:=by simp;omega
 by_cases h3:c=3
 ·subst h3;go_enter func11,ntmps11;go_wp2;go_ret;exact⟨rfl,rfl⟩
 have f3:((c:Int)==3)=false:=by simp;omega
 have e:lnM c=0:=by simp[lnM,h1,h2,h3]
 rw[e];clear e;go_enter func11,ntmps11;go_wp2;go_ret;exact⟨rfl,rfl⟩
theorem checkOp_any (x4:Int)(x5:Bool)(x6 x7 x8 x9 x10 x11 t:Int)(w:World):
 Calls prog 15 #[.agg #[.int i64 x4,.bool x5,.int i64 x6,.int i64 x7,.int i64 x8,.int i64 x9,.int i64 x10,.int i64 x11],.int i64 t] w fun e w'=>e=.returned (noV (moN ⟨x4,x5,⟨x6,x7,x8,x9,x10,x11⟩⟩ t))∧Below w.heap.size w w':=by
 have HB0:Hid (Below w.heap.size w (w.alloc (.cells #[.int i64 x4,.bool x5,.int i64 x6,.int i64 x7,.int i64 x8,.int i64 x9,.int i64 x10,.int i64 x11] 32))):=(bRQ _ _).alloc (nLQ _) _;have HC0:Hid ((w.alloc (.cells #[.int i64 x4,.bool x5,.int i64 x6,.int i64 x7,.int i64 x8,.int i64 x9,.int i64 x10,.int i64 x11] 32)).cell? ⟨w.heap.size,0,none⟩=some (.int i64 x4)):=by show _=_;simp
 obtain⟨N,hN⟩:∃N,N=ruN x6 x7 x8 x9 x10 x11:=⟨_,rfl⟩;have e:moN ⟨x4,x5,⟨x6,x7,x8,x9,x10,x11⟩⟩ t=if N=0 then (if x4=t then 0 else 3) else N:=by rw[hN];rfl
 rw[e];have HN:Hid (ruN x6 x7 x8 x9 x10 x11=N):=hN.symm;clear e hN;by_cases h0:N=0
 ·subst h0;by_cases h1:x4=t
  ·subst h1;have ht:(x4==x4)=true:=by simp
   go_enter func15,ntmps15
   go_wp2_with fail
   refine (ruCheck_any x6 x7 x8 x9 x10 x11 _).mono ?_;rintro e w1 ⟨rfl,hb1⟩;have c1:=cell_later hb1 HC0.out;have HB1:Hid (Below w.heap.size w w1):=HB0.out.trans (hb1.mono HB0.out.size);rw[HN.out,no_ok rfl];clear hb1;go_wp2;go_ret;exact⟨by simp[noV],HB1.out⟩
  have ht:(x4==t)=false:=by simpa using h1
  rw[if_pos rfl,if_neg h1];go_enter func15,ntmps15
  go_wp2_with fail
  refine (ruCheck_any x6 x7 x8 x9 x10 x11 _).mono ?_;rintro e w1 ⟨rfl,hb1⟩;have c1:=cell_later hb1 HC0.out;have HB1:Hid (Below w.heap.size w w1):=HB0.out.trans (hb1.mono HB0.out.size);rw[HN.out,no_ok rfl];clear hb1;go_wp2;go_ret;exact⟨rfl,HB1.out⟩
 rw[if_neg h0];go_enter func15,ntmps15
 go_wp2_with fail
 refine (ruCheck_any x6 x7 x8 x9 x10 x11 _).mono ?_;rintro e w1 ⟨rfl,hb1⟩;have HB1:Hid (Below w.heap.size w w1):=HB0.out.trans (hb1.mono HB0.out.size);rw[HN.out,no_ne h0];clear hb1;go_wp2;go_ret;exact⟨by rw[no_ne h0];rfl,HB1.out⟩
theorem mg_no {m:Mg}(h:mgR m=false):mgN m=1:=by unfold mgN;rw[h];rfl
theorem mg_k {m:Mg}(h:¬(1≤m.k∧m.k≤3)):mgR m=false:=by
 cases e:mgR m
 ·rfl
 exact absurd (mg_rng.1 e).1 h
theorem mg_s {m:Mg}(h:¬(1≤m.s∧m.s≤6)):mgR m=false:=by
 cases e:mgR m
 ·rfl
 exact absurd (mg_rng.1 e).2.1 h
theorem mg_r {m:Mg}(h:¬(0≤m.r∧m.r≤19)):mgR m=false:=by
 cases e:mgR m
 ·rfl
 exact absurd (mg_rng.1 e).2.2.1 h
theorem mg_i {m:Mg}(h:¬(0≤m.i∧m.i≤200)):mgR m=false:=by
 cases e:mgR m
 ·rfl
 exact absurd (mg_rng.1 e).2.2.2 h
theorem mg_do {m:Mg}(h:mgR m=true)(h1:m.k=1):mgN m=moN m.o m.s:=by unfold mgN;rw[if_pos h,if_pos h1]
def elN (c:Bool)(k i:Int):Int:=if c && !(decide (k=3) && !(decide (i=0))) then 0 else 3
theorem mg_els {m:Mg}(h:mgR m=true)(h1:m.k≠1):mgN m=elN (oqB m.o zeP) m.k m.i:=by unfold mgN elN;rw[if_pos h,if_neg h1]
theorem k_no {x:Int}(h:¬(1≤x∧x≤3)):(x==1)=false∧(x==2)=false∧(x==3)=false:=by
 refine⟨?_,?_,?_⟩ <;> simp <;> omega
theorem wcheck_kind (x0 x1 x2 x3 x4:Int)(x5:Bool)(x6 x7 x8 x9 x10 x11:Int)(w:World)(hk:¬(1≤x0∧x0≤3)):
 Calls prog 8 #[.agg #[.int i64 x0,.int i64 x1,.int i64 x2,.int i64 x3,.int i64 x4,.bool x5,.int i64 x6,.int i64 x7,.int i64 x8,.int i64 x9,.int i64 x10,.int i64 x11]] w fun e w'=>e=.returned (.iface 47 (.int i64 1))∧Below w.heap.size w w':=by
 have HB0:Hid (Below w.heap.size w (w.alloc (.cells #[.int i64 x0,.int i64 x1,.int i64 x2,.int i64 x3,.int i64 x4,.bool x5,.int i64 x6,.int i64 x7,.int i64 x8,.int i64 x9,.int i64 x10,.int i64 x11] 34))):=(bRQ _ _).alloc (nLQ _) _;obtain⟨k1,k2,k3⟩:=k_no hk;have n1:(x0 != 1)=true:=by simp[bne,k1]
 have n2:(x0 != 2)=true:=by simp[bne,k2]
 have n3:(x0 != 3)=true:=by simp[bne,k3]
 have l1:¬x0=1:=by omega
 have l2:¬x0=2:=by omega
 have l3:¬x0=3:=by omega
 clear hk;go_enter func8,ntmps8;go_wp2;go_ret;exact⟨rfl,HB0.out⟩
theorem wcheck_switch (x0 x1 x2 x3 x4:Int)(x5:Bool)(x6 x7 x8 x9 x10 x11:Int)(w:World)(hk:1≤x0∧x0≤3)(hs:swB 6 x1=false):
 Calls prog 8 #[.agg #[.int i64 x0,.int i64 x1,.int i64 x2,.int i64 x3,.int i64 x4,.bool x5,.int i64 x6,.int i64 x7,.int i64 x8,.int i64 x9,.int i64 x10,.int i64 x11]] w fun e w'=>e=.returned (.iface 47 (.int i64 1))∧Below w.heap.size w w':=by
 have HB0:Hid (Below w.heap.size w (w.alloc (.cells #[.int i64 x0,.int i64 x1,.int i64 x2,.int i64 x3,.int i64 x4,.bool x5,.int i64 x6,.int i64 x7,.int i64 x8,.int i64 x9,.int i64 x10,.int i64 x11] 34))):=(bRQ _ _).alloc (nLQ _) _;have HC0:Hid (MgC (w.alloc (.cells #[.int i64 x0,.int i64 x1,.int i64 x2,.int i64 x3,.int i64 x4,.bool x5,.int i64 x6,.int i64 x7,.int i64 x8,.int i64 x9,.int i64 x10,.int i64 x11] 34)) w.heap.size x0 x1 x2 x3 x4 x5 x6 x7 x8 x9 x10 x11):=mgc_new w x0 x1 x2 x3 x4 x5 x6 x7 x8 x9 x10 x11 _;have HSW:Hid (swB 6 x1=false):=hs;clear hs
 rcases (by omega:x0=1∨x0=2∨x0=3) with rfl | rfl | rfl
 all_goals
  go_enter func8,ntmps8
  go_wp2_with fail
  refine (isSwitch_any 6 x1 _).mono ?_;rintro e w1 ⟨rfl,hb1⟩;have HB1:Hid (Below w.heap.size w w1):=HB0.out.trans (hb1.mono HB0.out.size);have HC1:Hid (MgC w1 w.heap.size _ x1 x2 x3 x4 x5 x6 x7 x8 x9 x10 x11):=HC0.out.later hb1;obtain⟨c0,c1,c2,c3,c4,c5,c6,c7,c8,c9,c10,c11⟩:=HC1.out;rw[HSW.out];clear hb1;go_wp2;go_ret;exact⟨rfl,HB1.out⟩
theorem wcheck_round (x0 x1 x2 x3 x4:Int)(x5:Bool)(x6 x7 x8 x9 x10 x11:Int)(w:World)(hk:1≤x0∧x0≤3)(hs:swB 6 x1=true)(hr:¬(0≤x2∧x2≤19)):
 Calls prog 8 #[.agg #[.int i64 x0,.int i64 x1,.int i64 x2,.int i64 x3,.int i64 x4,.bool x5,.int i64 x6,.int i64 x7,.int i64 x8,.int i64 x9,.int i64 x10,.int i64 x11]] w fun e w'=>e=.returned (.iface 47 (.int i64 1))∧Below w.heap.size w w':=by
 have HB0:Hid (Below w.heap.size w (w.alloc (.cells #[.int i64 x0,.int i64 x1,.int i64 x2,.int i64 x3,.int i64 x4,.bool x5,.int i64 x6,.int i64 x7,.int i64 x8,.int i64 x9,.int i64 x10,.int i64 x11] 34))):=(bRQ _ _).alloc (nLQ _) _;have HC0:Hid (MgC (w.alloc (.cells #[.int i64 x0,.int i64 x1,.int i64 x2,.int i64 x3,.int i64 x4,.bool x5,.int i64 x6,.int i64 x7,.int i64 x8,.int i64 x9,.int i64 x10,.int i64 x11] 34)) w.heap.size x0 x1 x2 x3 x4 x5 x6 x7 x8 x9 x10 x11):=mgc_new w x0 x1 x2 x3 x4 x5 x6 x7 x8 x9 x10 x11 _;have HSW:Hid (swB 6 x1=true):=hs;clear hs
 rcases (by omega:x2<0∨(¬x2<0∧20≤x2)) with h1 | ⟨h1,h2⟩
 all_goals
  clear hr
  rcases (by omega:x0=1∨x0=2∨x0=3) with rfl | rfl | rfl
  all_goals
   go_enter func8,ntmps8
   go_wp2_with fail
   refine (isSwitch_any 6 x1 _).mono ?_;rintro e w1 ⟨rfl,hb1⟩;have HB1:Hid (Below w.heap.size w w1):=HB0.out.trans (hb1.mono HB0.out.size);have HC1:Hid (MgC w1 w.heap.size _ x1 x2 x3 x4 x5 x6 x7 x8 x9 x10 x11):=HC0.out.later hb1;obtain⟨c0,c1,c2,c3,c4,c5,c6,c7,c8,c9,c10,c11⟩:=HC1.out;rw[HSW.out];clear hb1;go_wp2;go_ret;exact⟨rfl,HB1.out⟩
theorem wcheck_index (x0 x1 x2 x3 x4:Int)(x5:Bool)(x6 x7 x8 x9 x10 x11:Int)(w:World)(hk:1≤x0∧x0≤3)(hs:swB 6 x1=true)(hr:0≤x2∧x2≤19)(hi:¬(0≤x3∧x3≤200)):
 Calls prog 8 #[.agg #[.int i64 x0,.int i64 x1,.int i64 x2,.int i64 x3,.int i64 x4,.bool x5,.int i64 x6,.int i64 x7,.int i64 x8,.int i64 x9,.int i64 x10,.int i64 x11]] w fun e w'=>e=.returned (.iface 47 (.int i64 1))∧Below w.heap.size w w':=by
 have HB0:Hid (Below w.heap.size w (w.alloc (.cells #[.int i64 x0,.int i64 x1,.int i64 x2,.int i64 x3,.int i64 x4,.bool x5,.int i64 x6,.int i64 x7,.int i64 x8,.int i64 x9,.int i64 x10,.int i64 x11] 34))):=(bRQ _ _).alloc (nLQ _) _;have HC0:Hid (MgC (w.alloc (.cells #[.int i64 x0,.int i64 x1,.int i64 x2,.int i64 x3,.int i64 x4,.bool x5,.int i64 x6,.int i64 x7,.int i64 x8,.int i64 x9,.int i64 x10,.int i64 x11] 34)) w.heap.size x0 x1 x2 x3 x4 x5 x6 x7 x8 x9 x10 x11):=mgc_new w x0 x1 x2 x3 x4 x5 x6 x7 x8 x9 x10 x11 _;have HSW:Hid (swB 6 x1=true):=hs;clear hs;have hr1:¬x2<0:=by omega
 have hr2:¬20≤x2:=by omega
 rcases (by omega:x3<0∨(¬x3<0∧200<x3)) with h1 | ⟨h1,h2⟩
 all_goals
  clear hi hr
  rcases (by omega:x0=1∨x0=2∨x0=3) with rfl | rfl | rfl
  all_goals
   go_enter func8,ntmps8
   go_wp2_with fail
   refine (isSwitch_any 6 x1 _).mono ?_;rintro e w1 ⟨rfl,hb1⟩;have HB1:Hid (Below w.heap.size w w1):=HB0.out.trans (hb1.mono HB0.out.size);have HC1:Hid (MgC w1 w.heap.size _ x1 x2 x3 x4 x5 x6 x7 x8 x9 x10 x11):=HC0.out.later hb1;obtain⟨c0,c1,c2,c3,c4,c5,c6,c7,c8,c9,c10,c11⟩:=HC1.out;rw[HSW.out];clear hb1;go_wp2;go_ret;exact⟨rfl,HB1.out⟩
theorem wcheck_do (x1 x2 x3 x4:Int)(x5:Bool)(x6 x7 x8 x9 x10 x11:Int)(w:World)(hs:swB 6 x1=true)(hr:0≤x2∧x2≤19)(hi:0≤x3∧x3≤200):
 Calls prog 8 #[.agg #[.int i64 1,.int i64 x1,.int i64 x2,.int i64 x3,.int i64 x4,.bool x5,.int i64 x6,.int i64 x7,.int i64 x8,.int i64 x9,.int i64 x10,.int i64 x11]] w fun e w'=>e=.returned (noV (moN ⟨x4,x5,⟨x6,x7,x8,x9,x10,x11⟩⟩ x1))∧Below w.heap.size w w':=by
 have HB0:Hid (Below w.heap.size w (w.alloc (.cells #[.int i64 1,.int i64 x1,.int i64 x2,.int i64 x3,.int i64 x4,.bool x5,.int i64 x6,.int i64 x7,.int i64 x8,.int i64 x9,.int i64 x10,.int i64 x11] 34))):=(bRQ _ _).alloc (nLQ _) _;have HC0:Hid (MgC (w.alloc (.cells #[.int i64 1,.int i64 x1,.int i64 x2,.int i64 x3,.int i64 x4,.bool x5,.int i64 x6,.int i64 x7,.int i64 x8,.int i64 x9,.int i64 x10,.int i64 x11] 34)) w.heap.size 1 x1 x2 x3 x4 x5 x6 x7 x8 x9 x10 x11):=mgc_new w 1 x1 x2 x3 x4 x5 x6 x7 x8 x9 x10 x11 _;have HSW:Hid (swB 6 x1=true):=hs;have hr1:¬x2<0:=by omega
 have hr2:¬20≤x2:=by omega
 have hi1:¬x3<0:=by omega
 have hi2:¬200<x3:=by omega
 clear hs hr hi;go_enter func8,ntmps8
 go_wp2_with fail
 refine (isSwitch_any 6 x1 _).mono ?_;rintro e w1 ⟨rfl,hb1⟩;have HB1:Hid (Below w.heap.size w w1):=HB0.out.trans (hb1.mono HB0.out.size);have HC1:Hid (MgC w1 w.heap.size 1 x1 x2 x3 x4 x5 x6 x7 x8 x9 x10 x11):=HC0.out.later hb1;obtain⟨c0,c1,c2,c3,c4,c5,c6,c7,c8,c9,c10,c11⟩:=HC1.out;rw[HSW.out];clear hb1
 go_wp2_with fail
 refine (checkOp_any x4 x5 x6 x7 x8 x9 x10 x11 x1 _).mono ?_;rintro e w2 ⟨rfl,hb2⟩;have HB2:Hid (Below w.heap.size w w2):=HB1.out.trans (hb2.mono HB1.out.size);clear hb2;go_wp2;go_ret;exact⟨rfl,HB2.out⟩
theorem wcheck_else (x0 x1 x2 x3 x4:Int)(x5:Bool)(x6 x7 x8 x9 x10 x11:Int)(w:World)(hk:x0=2∨x0=3)(hs:swB 6 x1=true)(hr:0≤x2∧x2≤19)(hi:0≤x3∧x3≤200):
 Calls prog 8 #[.agg #[.int i64 x0,.int i64 x1,.int i64 x2,.int i64 x3,.int i64 x4,.bool x5,.int i64 x6,.int i64 x7,.int i64 x8,.int i64 x9,.int i64 x10,.int i64 x11]] w fun e w'=>e=.returned (noV (elN (oqB ⟨x4,x5,⟨x6,x7,x8,x9,x10,x11⟩⟩ zeP) x0 x3))∧Below w.heap.size w w':=by
 have HB0:Hid (Below w.heap.size w (w.alloc (.cells #[.int i64 x0,.int i64 x1,.int i64 x2,.int i64 x3,.int i64 x4,.bool x5,.int i64 x6,.int i64 x7,.int i64 x8,.int i64 x9,.int i64 x10,.int i64 x11] 34))):=(bRQ _ _).alloc (nLQ _) _;have HC0:Hid (MgC (w.alloc (.cells #[.int i64 x0,.int i64 x1,.int i64 x2,.int i64 x3,.int i64 x4,.bool x5,.int i64 x6,.int i64 x7,.int i64 x8,.int i64 x9,.int i64 x10,.int i64 x11] 34)) w.heap.size x0 x1 x2 x3 x4 x5 x6 x7 x8 x9 x10 x11):=mgc_new w x0 x1 x2 x3 x4 x5 x6 x7 x8 x9 x10 x11 _;have HSW:Hid (swB 6 x1=true):=hs;have hr1:¬x2<0:=by omega
 have hr2:¬20≤x2:=by omega
 have hi1:¬x3<0:=by omega
 have hi2:¬200<x3:=by omega
 clear hs hr hi;obtain⟨c,hc⟩:∃c,c=opB ⟨x4,x5,⟨x6,x7,x8,x9,x10,x11⟩⟩ ⟨0,false,⟨0,0,0,0,0,0⟩⟩:=⟨_,rfl⟩;have HC:Hid (opB ⟨x4,x5,⟨x6,x7,x8,x9,x10,x11⟩⟩ ⟨0,false,⟨0,0,0,0,0,0⟩⟩=c):=hc.symm;rw[show oqB ⟨x4,x5,⟨x6,x7,x8,x9,x10,x11⟩⟩ zeP=c from hc.symm];clear hc
 rcases hk with rfl | rfl
 all_goals
  go_enter func8,ntmps8
  go_wp2_with fail
  refine (isSwitch_any 6 x1 _).mono ?_;rintro e w1 ⟨rfl,hb1⟩;have HB1:Hid (Below w.heap.size w w1):=HB0.out.trans (hb1.mono HB0.out.size);have HC1:Hid (MgC w1 w.heap.size _ x1 x2 x3 x4 x5 x6 x7 x8 x9 x10 x11):=HC0.out.later hb1;obtain⟨c0,c1,c2,c3,c4,c5,c6,c7,c8,c9,c10,c11⟩:=HC1.out;rw[HSW.out];clear hb1;go_upto_region 8 with fail
  go_cut [47] from 48 (fun v w'=>v=.bool (!c)∧w'=w1)
  case first =>
   rcases op_ways x4 x5 x6 x7 x8 x9 x10 x11 0 false 0 0 0 0 0 0 with ⟨e0,e⟩ | ⟨e0,e1,e⟩ | ⟨e0,e1,e2,e⟩ | ⟨e0,e1,e2,e3,e⟩ | ⟨e0,e1,e2,e3,e4,e⟩ | ⟨e0,e1,e2,e3,e4,e5,e⟩ | ⟨e0,e1,e2,e3,e4,e5,e6,e⟩ | ⟨e0,e1,e2,e3,e4,e5,e6,e7,e⟩ | ⟨e0,e1,e2,e3,e4,e5,e6,e7,e⟩
   all_goals
    rw[HC.out] at e;have HE:Hid (c=_):=e;clear e
    go_wp2_with fail
    go_meet
    exact⟨by rw[HE.out];rfl,rfl⟩
  case rest =>
   obtain⟨rfl,hwc⟩:=hcut;have hwc2:=hwc.symm;clear hwc;subst hwc2;cases c with
   | false =>
     go_wp2;go_ret;exact⟨by simp[elN,noV],HB1.out⟩
   | true =>
     by_cases h0:x3=0
     ·subst h0;go_wp2;go_ret;exact⟨by simp[elN,noV],HB1.out⟩
     have h0':(x3==0)=false:=by simpa using h0
     have h0n:(x3 != 0)=true:=by simpa using h0
     go_wp2;go_ret;exact⟨by simp[elN,noV,h0],HB1.out⟩
theorem wcheck_any (x0 x1 x2 x3 x4:Int)(x5:Bool)(x6 x7 x8 x9 x10 x11:Int)(w:World):
 Calls prog 8 #[.agg #[.int i64 x0,.int i64 x1,.int i64 x2,.int i64 x3,.int i64 x4,.bool x5,.int i64 x6,.int i64 x7,.int i64 x8,.int i64 x9,.int i64 x10,.int i64 x11]] w fun e w'=>e=.returned (noV (mgN ⟨x0,x1,x2,x3,⟨x4,x5,⟨x6,x7,x8,x9,x10,x11⟩⟩⟩))∧Below w.heap.size w w':=by
 by_cases hk:1≤x0∧x0≤3
 ·cases hs:swB 6 x1
  ·rw[mg_no (mg_s (fun h=>by have:=sw_of.2 h;rw[hs] at this;cases this)),no_ne (by decide)];exact wcheck_switch x0 x1 x2 x3 x4 x5 x6 x7 x8 x9 x10 x11 w hk hs
  by_cases hr:0≤x2∧x2≤19
  ·by_cases hi:0≤x3∧x3≤200
   ·have hR:mgR ⟨x0,x1,x2,x3,⟨x4,x5,⟨x6,x7,x8,x9,x10,x11⟩⟩⟩=true:=mg_rng.2 ⟨hk,sw_of.1 hs,hr,hi⟩;by_cases h1:x0=1
    ·subst h1;rw[mg_do hR rfl];exact wcheck_do x1 x2 x3 x4 x5 x6 x7 x8 x9 x10 x11 w hs hr hi
    rw[mg_els hR h1];exact wcheck_else x0 x1 x2 x3 x4 x5 x6 x7 x8 x9 x10 x11 w (by omega) hs hr hi
   rw[mg_no (mg_i hi),no_ne (by decide)];exact wcheck_index x0 x1 x2 x3 x4 x5 x6 x7 x8 x9 x10 x11 w hk hs hr hi
  rw[mg_no (mg_r hr),no_ne (by decide)];exact wcheck_round x0 x1 x2 x3 x4 x5 x6 x7 x8 x9 x10 x11 w hk hs hr
 rw[mg_no (mg_k hk),no_ne (by decide)];exact wcheck_kind x0 x1 x2 x3 x4 x5 x6 x7 x8 x9 x10 x11 w hk
theorem own_below {w w':World}{B e size n:Nat}{v:Value}{xs:List Value}(h:w.ownsRow B e size v n xs)(hb:Below w.heap.size w w'):w'.ownsRow B e size v n xs:=by
 obtain⟨h1,h2 | ⟨g,cap,cur,hv,hB,hg,h3⟩⟩:=h
 ·exact⟨h1,.inl h2⟩
 have hlt:g<w.heap.size:=by
  rcases Nat.lt_or_ge g w.heap.size with h | h
  ·exact h
  rw[Array.getElem?_eq_none h] at hg;cases hg
 exact⟨h1,.inr ⟨g,cap,cur,hv,hB,(hb.block g hlt).trans hg,h3⟩⟩
theorem byN_ext {b:ByteArray}{i j:Nat}(h:i+j<b.size):byN (b.extract i b.size) j=byN b (i+j):=by
 have h2:j<(b.extract i b.size).size:=by rw[ByteArray.size_extract];omega
 rw[byN_at _ _ h2,byN_at _ _ h]
 congr 1
 rw[ByteArray.getElem_extract]
theorem wr_u8 (c:UInt8):wrap64 ((c.toNat:Nat):Int)=(c.toNat:Int):=by
 have:=UInt8.toNat_lt c;unfold wrap64;omega
theorem readRule_any (t:ByteArray)(h:6≤t.size)(w:World):
 Calls prog 18 #[.string t] w fun e w'=>e=.returned (.agg #[.int i64 (byN t 0:Int),.int i64 (byN t 1:Int),.int i64 (byN t 2:Int),.int i64 (byN t 3:Int),.int i64 (byN t 4:Int),.int i64 (byN t 5:Int)])∧Below w.heap.size w w':=by
 have l0:0<t.size:=by omega
 have l1:1<t.size:=by omega
 have l2:2<t.size:=by omega
 have l3:3<t.size:=by omega
 have l4:4<t.size:=by omega
 have l5:5<t.size:=by omega
 have i0:(0:Int)<(t.size:Int):=by omega
 have i1:(1:Int)<(t.size:Int):=by omega
 have i2:(2:Int)<(t.size:Int):=by omega
 have i3:(3:Int)<(t.size:Int):=by omega
 have i4:(4:Int)<(t.size:Int):=by omega
 have i5:(5:Int)<(t.size:Int):=by omega
 rw[byN_at t 0 l0,byN_at t 1 l1,byN_at t 2 l2,byN_at t 3 l3,byN_at t 4 l4,byN_at t 5 l5];go_enter func18,ntmps18;go_upto_region 1 with fail;have z0:=wr_u8 t[0];have z1:=wr_u8 t[1];have z2:=wr_u8 t[2];have z3:=wr_u8 t[3];have z4:=wr_u8 t[4];have z5:=wr_u8 t[5]
 go_region
 go_wp2;refine bodyPost_ret (v:=.agg #[.int i64 (t[0].toNat:Int),.int i64 (t[1].toNat:Int),.int i64 (t[2].toNat:Int),.int i64 (t[3].toNat:Int),.int i64 (t[4].toNat:Int),.int i64 (t[5].toNat:Int)]) (by simp[results,results18,go_sem]) rfl ⟨rfl,?_⟩;exact ((bRQ _ _).alloc (nLQ _) _).drew
theorem wr_sizes {b:ByteArray}(h0:b.size≠0)(h:b.size=lnM (byN b 0)):(byN b 0=1∧b.size=12)∨(byN b 0≠1∧b.size=5):=by
 unfold lnM at h
 split at h
 ·exact .inl ⟨by assumption,h⟩
 split at h
 ·exact .inr ⟨by assumption,h⟩
 exact absurd h h0
theorem wread_plain (b:ByteArray)(hk:byN b 0≠1)(hs:b.size=5)(w:World):
 Calls prog 12 #[.string b] w fun e w'=>e=.returned (mgV (wrM b))∧Below w.heap.size w w':=by
 have l0:0<b.size:=by omega
 have l1:1<b.size:=by omega
 have l2:2<b.size:=by omega
 have l3:3<b.size:=by omega
 have i0:(0:Int)<(b.size:Int):=by omega
 have i1:(1:Int)<(b.size:Int):=by omega
 have i2:(2:Int)<(b.size:Int):=by omega
 have i3:(3:Int)<(b.size:Int):=by omega
 have e:mgV (wrM b)=.agg #[.int i64 (b[0].toNat:Int),.int i64 (b[1].toNat:Int),.int i64 (b[2].toNat:Int),.int i64 (b[3].toNat:Int),.int i64 0,.bool false,.int i64 0,.int i64 0,.int i64 0,.int i64 0,.int i64 0,.int i64 0]:=by
  simp only[mgV,wrM,if_neg hk,zeP];rw[byN_at b 0 l0,byN_at b 1 l1,byN_at b 2 l2,byN_at b 3 l3]
 rw[e];have k1:((b[0].toNat:Int)==1)=false:=by rw[byN_at b 0 l0] at hk;simp;omega
 have z0:=wr_u8 b[0];have z1:=wr_u8 b[1];have z2:=wr_u8 b[2];have z3:=wr_u8 b[3];clear e hk hs;go_enter func12,ntmps12;go_upto_region 1 with fail
 go_region
 all_goals go_wp2
 all_goals refine bodyPost_ret (v:=.agg #[.int i64 (b[0].toNat:Int),.int i64 (b[1].toNat:Int),.int i64 (b[2].toNat:Int),.int i64 (b[3].toNat:Int),.int i64 0,.bool false,.int i64 0,.int i64 0,.int i64 0,.int i64 0,.int i64 0,.int i64 0]) (by simp[results,results12,go_sem]) rfl ⟨rfl,?_⟩
 all_goals exact (((bRQ _ _).alloc (nLQ _) _).alloc (by simp) _).drew
theorem below_set8 {B:Nat}{a W:World}(h:Below B a W)(g:Nat)(hb:B≤g)(x4 x5 x6 x7 x8 x9 x10 x11:Value):Below B a ((((((((W.setCell ⟨g,4,none⟩ x4).setCell ⟨g,5,none⟩ x5).setCell ⟨g,6,none⟩ x6).setCell ⟨g,7,none⟩ x7).setCell ⟨g,8,none⟩ x8).setCell ⟨g,9,none⟩ x9).setCell ⟨g,10,none⟩ x10).setCell ⟨g,11,none⟩ x11):=
 (((((((h.setCell hb _).setCell hb _).setCell hb _).setCell hb _).setCell hb _).setCell hb _).setCell hb _).setCell hb _
theorem cell1_set8 {W:World}{g:Nat}{v x4 x5 x6 x7 x8 x9 x10 x11:Value}(h:W.cell? ⟨g,1,none⟩=some v):((((((((W.setCell ⟨g,4,none⟩ x4).setCell ⟨g,5,none⟩ x5).setCell ⟨g,6,none⟩ x6).setCell ⟨g,7,none⟩ x7).setCell ⟨g,8,none⟩ x8).setCell ⟨g,9,none⟩ x9).setCell ⟨g,10,none⟩ x10).setCell ⟨g,11,none⟩ x11).cell? ⟨g,1,none⟩=some v:=by
 simp[go_sem,h]
theorem below_set12 {B:Nat}{a W:World}(h:Below B a W)(g:Nat)(hb:B≤g)(x0 x1 x2 x3 x4 x5 x6 x7 x8 x9 x10 x11:Value):Below B a ((((((((((((W.setCell ⟨g,0,none⟩ x0).setCell ⟨g,1,none⟩ x1).setCell ⟨g,2,none⟩ x2).setCell ⟨g,3,none⟩ x3).setCell ⟨g,4,none⟩ x4).setCell ⟨g,5,none⟩ x5).setCell ⟨g,6,none⟩ x6).setCell ⟨g,7,none⟩ x7).setCell ⟨g,8,none⟩ x8).setCell ⟨g,9,none⟩ x9).setCell ⟨g,10,none⟩ x10).setCell ⟨g,11,none⟩ x11):=
 (((((((((((h.setCell hb _).setCell hb _).setCell hb _).setCell hb _).setCell hb _).setCell hb _).setCell hb _).setCell hb _).setCell hb _).setCell hb _).setCell hb _).setCell hb _
theorem wread_do (b:ByteArray)(hk:byN b 0=1)(hs:b.size=12)(w:World):
 Calls prog 12 #[.string b] w fun e w'=>e=.returned (mgV (wrM b))∧Below w.heap.size w w':=by
 have l0:0<b.size:=by omega
 have l1:1<b.size:=by omega
 have l2:2<b.size:=by omega
 have l3:3<b.size:=by omega
 have l4:4<b.size:=by omega
 have i0:(0:Int)<(b.size:Int):=by omega
 have i1:(1:Int)<(b.size:Int):=by omega
 have i2:(2:Int)<(b.size:Int):=by omega
 have i3:(3:Int)<(b.size:Int):=by omega
 have i4:(4:Int)<(b.size:Int):=by omega
 have i5:(5:Int)≤(b.size:Int):=by omega
 obtain⟨y1,hy1⟩:∃y:Int,y=(b[1].toNat:Int):=⟨_,rfl⟩;obtain⟨y2,hy2⟩:∃y:Int,y=(b[2].toNat:Int):=⟨_,rfl⟩;obtain⟨y3,hy3⟩:∃y:Int,y=(b[3].toNat:Int):=⟨_,rfl⟩;obtain⟨c4,hc4⟩:∃c:Bool,c=((b[4].toNat:Int)==1):=⟨_,rfl⟩;obtain⟨x0,hx0⟩:∃y:Int,y=(byN b 5:Int):=⟨_,rfl⟩;obtain⟨x1,hx1⟩:∃y:Int,y=(byN b 6:Int):=⟨_,rfl⟩;obtain⟨x2,hx2⟩:∃y:Int,y=(byN b 7:Int):=⟨_,rfl⟩;obtain⟨x3,hx3⟩:∃y:Int,y=(byN b 8:Int):=⟨_,rfl⟩;obtain⟨x4,hx4⟩:∃y:Int,y=(byN b 9:Int):=⟨_,rfl⟩;obtain⟨x5,hx5⟩:∃y:Int,y=(byN b 10:Int):=⟨_,rfl⟩;have HE:Hid (mgV (wrM b)=.agg #[.int i64 1,.int i64 y1,.int i64 y2,.int i64 y3,.int i64 y1,.bool c4,.int i64 x0,.int i64 x1,.int i64 x2,.int i64 x3,.int i64 x4,.int i64 x5]):=by
  show _=_;simp only[mgV,wrM,if_pos hk,rrM];rw[hk,hy1,hy2,hy3,hc4,hx0,hx1,hx2,hx3,hx4,hx5,byN_at b 1 l1,byN_at b 2 l2,byN_at b 3 l3,byN_at b 4 l4];have:(b[4].toNat==1)=((b[4].toNat:Int)==1):=by
   by_cases h:b[4].toNat=1
   ·rw[h];rfl
   rw[beq_eq_false_iff_ne.2 h,beq_eq_false_iff_ne.2 (by omega)]
  rw[this];rfl
 have HRD:Hid (∀W,Calls prog 18 #[.string (b.extract 5 b.size)] W fun e w'=>e=.returned (.agg #[.int i64 x0,.int i64 x1,.int i64 x2,.int i64 x3,.int i64 x4,.int i64 x5])∧Below W.heap.size W w'):=fun W=>by
  have h:=readRule_any (b.extract 5 b.size) (by rw[ByteArray.size_extract];omega) W;rw[byN_ext (by omega),byN_ext (by omega),byN_ext (by omega),byN_ext (by omega),byN_ext (by omega),byN_ext (by omega)] at h;rw[hx0,hx1,hx2,hx3,hx4,hx5];exact h
 have k0:(b[0].toNat:Int)=1:=by rw[byN_at b 0 l0] at hk;omega
 have z0:=wr_u8 b[0];have z1:wrap64 ((b[1].toNat:Nat):Int)=y1:=(wr_u8 b[1]).trans hy1.symm;have z2:wrap64 ((b[2].toNat:Nat):Int)=y2:=(wr_u8 b[2]).trans hy2.symm;have z3:wrap64 ((b[3].toNat:Nat):Int)=y3:=(wr_u8 b[3]).trans hy3.symm;rw[k0] at z0;rw[HE.out];obtain⟨w3,hw3⟩:∃V,V=((w.alloc (.cells #[.int i64 0,.int i64 0,.int i64 0,.int i64 0,.int i64 0,.bool false,.int i64 0,.int i64 0,.int i64 0,.int i64 0,.int i64 0,.int i64 0] 34)).alloc (.cells #[.int i64 1,.int i64 y1,.int i64 y2,.int i64 y3,.int i64 0,.bool false,.int i64 0,.int i64 0,.int i64 0,.int i64 0,.int i64 0,.int i64 0] 34)).drew:=⟨_,rfl⟩;have HB3:Hid (Below w.heap.size w w3):=by rw[hw3];exact (((bRQ _ _).alloc (nLQ _) _).alloc (by simp) _).drew
 have HS3:Hid (w3.heap.size=w.heap.size+1+1):=by show _=_;rw[hw3];simp
 have hm3:MgC w3 (w.heap.size+1) 1 y1 y2 y3 0 false 0 0 0 0 0 0:=by
  rw[hw3];refine⟨?_,?_,?_,?_,?_,?_,?_,?_,?_,?_,?_,?_⟩ <;> simp
 have hr3:MgC w3 w.heap.size 0 0 0 0 0 false 0 0 0 0 0 0:=by
  rw[hw3];refine⟨?_,?_,?_,?_,?_,?_,?_,?_,?_,?_,?_,?_⟩ <;> simp
 have hf3:∀i,w3.frozen? ⟨w.heap.size,i,none⟩=false∧w3.frozen? ⟨w.heap.size+1,i,none⟩=false:=by
  intro i;rw[hw3];constructor <;> simp
 have HM3:Hid (∀W,Below w3.heap.size w3 W→MgC W (w.heap.size+1) 1 y1 y2 y3 0 false 0 0 0 0 0 0∧MgC W w.heap.size 0 0 0 0 0 false 0 0 0 0 0 0∧(∀i,W.frozen? ⟨w.heap.size,i,none⟩=false)∧(∀i,W.frozen? ⟨w.heap.size+1,i,none⟩=false)):=fun W h =>
  ⟨hm3.later h,hr3.later h,fun i=>by rw[h.frozen (p:=⟨w.heap.size,i,none⟩) hr3.lt];exact (hf3 i).1,fun i=>by rw[h.frozen (p:=⟨w.heap.size+1,i,none⟩) hm3.lt];exact (hf3 i).2⟩
 have HW3:Hid (((w.alloc (.cells #[.int i64 0,.int i64 0,.int i64 0,.int i64 0,.int i64 0,.bool false,.int i64 0,.int i64 0,.int i64 0,.int i64 0,.int i64 0,.int i64 0] 34)).alloc (.cells #[.int i64 1,.int i64 y1,.int i64 y2,.int i64 y3,.int i64 0,.bool false,.int i64 0,.int i64 0,.int i64 0,.int i64 0,.int i64 0,.int i64 0] 34)).drew=w3):=hw3.symm;subst hc4;clear hk hs hy1 hy2 hy3 hx0 hx1 hx2 hx3 hx4 hx5 hw3 hf3 hr3;go_enter func12,ntmps12;go_upto_region 1 with fail
 go_region
 go_upto_region 3 with fail;rw[HW3.out];obtain⟨m0,m1,m2,m3,m4,m5,m6,m7,m8,m9,m10,m11⟩:=hm3;have hd1:w3.drew.cell? ⟨w.heap.size+1,1,none⟩=some (.int i64 y1):=by simpa using m1
 go_region_held3 (fun V=>V.cell? ⟨w.heap.size+1,1,none⟩=some (.int i64 y1))
  (first | (with_reducible assumption) | (with_reducible exact hd1) | (with_reducible exact cell1_set8 (by assumption)))
  ((go_at_call 18;refine (HRD.out _).mono ?_;rintro e w5 ⟨rfl,hb5⟩;have HB5:Hid (Below w3.heap.size w3 w5):=(Below.drew (bRQ _ _)).trans hb5;clear hb5 m0 m1 m2 m3 m4 m5 m6 m7 m8 m9 m10 m11;obtain⟨⟨m0,m1,m2,m3,m4,m5,m6,m7,m8,m9,m10,m11⟩,⟨r0,r1,r2,r3,r4,r5,r6,r7,r8,r9,r10,r11⟩,hfr,hfm⟩:=HM3.out w5 HB5.out;have f4:=hfm 4;have f5:=hfm 5;have f6:=hfm 6;have f7:=hfm 7;have f8:=hfm 8;have f9:=hfm 9;have f10:=hfm 10;have f11:=hfm 11))
 all_goals
  have g0:=hfr 0;have g1:=hfr 1;have g2:=hfr 2;have g3:=hfr 3;have g4:=hfr 4;have g5:=hfr 5;have g6:=hfr 6;have g7:=hfr 7;have g8:=hfr 8;have g9:=hfr 9;have g10:=hfr 10;have g11:=hfr 11;have hl1:=bLQ _ _ m0;have hl2:=bLQ _ _ r0;have HBF:Hid (Below w.heap.size w w5):=HB3.out.trans (HB5.out.mono HB3.out.size);clear hfr hfm;go_wp2;refine bodyPost_ret (v:=.agg #[.int i64 1,.int i64 y1,.int i64 y2,.int i64 y3,.int i64 y1,.bool ((b[4].toNat:Int)==1),.int i64 x0,.int i64 x1,.int i64 x2,.int i64 x3,.int i64 x4,.int i64 x5]) (by simp[results,results12,go_sem, *]) rfl ⟨rfl,?_⟩;exact below_set12 (below_set8 HBF.out _ (Nat.le_succ _) _ _ _ _ _ _ _ _) _ (nLQ _) _ _ _ _ _ _ _ _ _ _ _ _
end
end Go.Proofs.Ytpfgaibfangciaa
