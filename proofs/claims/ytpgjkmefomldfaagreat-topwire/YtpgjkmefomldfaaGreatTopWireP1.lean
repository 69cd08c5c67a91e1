/- Contracts and facts on the way to TopWire, joined into one text: MapGen, TopoMath, But, BfsMath, Gen, TopoMath2, TopoCon, SpotKey, Err, StSpot, StLink, TopoLay, SlByte, TopoName, StHost. -/
import Derived.Test.YtpgjkmefomldfaaGreatRows
import Derived.Test.YtpgjkmefomldfaaGreatProg
import Derived.WalkKit
import Derived.WalkSpells
import Derived.Below
import Derived.MapKept
import Derived.Maps.OwnOps
import Derived.Laws.StructEq
import Derived.ProofKit
import Derived.OpenShut
import Derived.ChangeOld
import Derived.Laws.AppendOwnNone
import Derived.Deep.Slices
import Derived.BigQuiet
import Derived.Deep.QuietTactic
import Derived.DeepKeys3
import Derived.Lib.SmallJoins
import Derived.BigRegion
import Derived.Deep.CutRange
import Derived.Deep.CutBlock
import Derived.Shelf.Abstract
import Derived.Laws.IdiomStrings
import Derived.Carry
import Derived.Laws.BytesArg
import Derived.Deep.RegionHeld3
import Derived.Deep.RegionWith
import Derived.Lib.Strings
import Derived.Lib.Walk
import Derived.Lib.BufferWrite
import Derived.Lib.UnsafeStr
import Derived.Laws.MakeOwn
import Derived.RangeFuncNested
import Derived.RangeFuncBox
import Derived.RangeFuncBound
import Derived.RangeFuncCalls
import Derived.RangeFuncLeaves
import Derived.Shelf.RegionOpen
import Derived.OwnWalkIn
import Derived.TacticsInMore
import Derived.LoopNIn
import Derived.LoopIn
import Derived.Lib.SliceRun
import Derived.Lib.AppendZeros
import Derived.Laws.OwnMore
import Derived.Deep.RegionLaw
import Derived.RegionTactic
import Derived.Lib.Bytealg
import Derived.Lib.IndexLaws
import Derived.Sort.Grow
import Derived.Shelf.SlSorted.Search
import Derived.Lib.SlicesCompact
import Derived.Shelf.Sort.Plain
import Derived.Shelf.Slices.CompactI
import Derived.Shelf.Slices.In.SortNone
namespace Go.Proofs.YtpgjkmefomldfaaGreat
set_option linter.unusedSimpArgs false
set_option linter.unusedVariables false
set_option maxHeartbeats 16000000
set_option maxRecDepth 100000
open Go.Proofs.Tryz
open IntKind (i64)
abbrev AdQ:=Option Addr
abbrev LkQ:=List ((Int×Int)×(Int×Int))
abbrev HoQ:=List (ByteArray×(Int×Int))
abbrev HpQ:=List ((Int×Int)×Int)
theorem bRQ (n:Nat) (w:World):Go.RowKit.Below n w w:=Go.RowKit.Below.refl n w
theorem nLQ (n:Nat):n≤n:=Nat.le_refl n
theorem bLQ (w:World) (p:Addr) {v:Value} (h:w.cell? p=some v):p.block<w.heap.size:=World.block_lt_of_cell? w p h
theorem AP:(∀(l:List Value) (i:Nat) (v:Value),l.toArray.setIfInBounds i v=(l.set i v).toArray)∧(∀(a v:Value) (l:List Value),(a::l).set 0 v=v::l)∧(∀(a v:Value) (l:List Value) (i:Nat),(a::l).set (i+1) v=a::l.set i v):=⟨fun _ _ _=>List.setIfInBounds_toArray _ _ _,fun _ _ _=>List.set_cons_zero,fun _ _ _ _=>List.set_cons_succ⟩
section
open Go.RowKit
section
variable {κ β:Type}
def fndM (q:κ→κ→Bool)(k:κ):List κ→List MapEntry→Nat→Option (Nat×Value)
 | k' :: ks,e :: es,i=>if q k k' then some (i,e.val) else fndM q k ks es (i+1)
 | _,_,_=>none
def mget (q:κ→κ→Bool)(k:κ):List (κ×β)→Option β
 | []=>none
 | p :: M=>if q k p.1 then some p.2 else mget q k M
def mput (q:κ→κ→Bool)(k:κ)(b:β):List (κ×β)→List (κ×β)
 | []=>[(k,b)]
 | p :: M=>if q k p.1 then (k,b) :: M else p :: mput q k b M
theorem mget_put {q:κ→κ→Bool}(hq:∀a b,q a b=true↔a=b)(k k':κ)(b:β):∀M:List (κ×β),mget q k' (mput q k b M)=if q k' k then some b else mget q k' M
 | []=>by simp[mput,mget]
 | p :: M=>by
   have ih:=mget_put hq k k' b M;rw[mput];by_cases h:q k p.1=true
   ·rw[if_pos h,mget,mget];have e:=(hq _ _).1 h;subst e;simp only
    split <;> simp_all
   rw[if_neg h,mget,mget,ih];by_cases h2:q k' p.1=true
   ·rw[if_pos h2,if_pos h2];have e:=(hq _ _).1 h2;have:¬q k' k=true:=fun h3=>h (by rw[hq] at h3;subst h3;exact h2)
    rw[if_neg this]
   rw[if_neg h2,if_neg h2]
end
structure KeyE (P:Program)(K:TypeId)(κ:Type) where
 c:κ→Value
 q:κ→κ→Bool
 qeq:∀a b,q a b=true↔a=b
 check:∀(e:Bool) (k:κ) (w:World),(Instr.checkKey e 10000 K (c k)).run P w=.ok () w
 find:∀(k:κ) (ks:List κ) (l:List MapEntry) (w:World),l.map (·.key)=ks.map c→(Instr.findKey K (c k) l).run P w=.ok (fndM q k ks l 0) w
 bits:∀k,Instr.sameBits 10000 (c k) (c k)=true
section
variable {P:Program}{K:TypeId}{κ β:Type}
theorem find_ask {c:κ→Value}{q:κ→κ→Bool}(heq:∀a b w,(Op.equal K (c a) (c b)).run P w=.ok (q a b) w)(k:κ):∀(ks:List κ) (l:List MapEntry) (i:Nat) (w:World),l.map (·.key)=ks.map c→(Instr.findAsking K (c k) l i).run P w=.ok (fndM q k ks l i) w
 | [],[],i,w,_=>rfl
 | [],_ :: _,_,_,h=>by simp at h
 | _ :: _,[],_,_,h=>by simp at h
 | k' :: ks,e :: l,i,w,h=>by
   simp only[List.map_cons,List.cons.injEq] at h;simp only[Instr.findAsking,Sem.run_bind,h.1,heq,Result.andThen_ok];rw[fndM];cases hq:q k k'
   ·simp only[Bool.false_eq_true,if_false];exact find_ask heq k ks l (i+1) w h.2
   simp
theorem find_now {c:κ→Value}{q:κ→κ→Bool}{d:TypeDesc}(hs:∀a b,Instr.sameNow d (c a) (c b)=some (q a b))(k:κ):∀(ks:List κ) (l:List MapEntry) (i:Nat),l.map (·.key)=ks.map c→Instr.findNow d (c k) l i=some (fndM q k ks l i)
 | [],[],i,_=>rfl
 | [],_ :: _,_,h=>by simp at h
 | _ :: _,[],_,h=>by simp at h
 | k' :: ks,e :: l,i,h=>by
   simp only[List.map_cons,List.cons.injEq] at h;rw[Instr.findNow,h.1,hs,fndM];cases hq:q k k'
   ·simp only[Bool.false_eq_true,if_false];exact find_now hs k ks l (i+1) h.2
   simp
def KeyE.now (c:κ→Value)(q:κ→κ→Bool)(qeq:∀a b,q a b=true↔a=b)(check:∀(e:Bool) (k:κ) (w:World),(Instr.checkKey e 10000 K (c k)).run P w=.ok () w)(d:TypeDesc)(hd:P.underlying K=some d)
    (hs:∀a b,Instr.sameNow d (c a) (c b)=some (q a b)) (bits:∀k,Instr.sameBits 10000 (c k) (c k)=true):KeyE P K κ:=
 ⟨c,q,qeq,check,fun k ks l w h=>Go.MapKept.run_findKey hd (find_now hs k ks l 0 h),bits⟩
def KeyE.ask (c:κ→Value)(q:κ→κ→Bool)(qeq:∀a b,q a b=true↔a=b)(check:∀(e:Bool) (k:κ) (w:World),(Instr.checkKey e 10000 K (c k)).run P w=.ok () w)(d:TypeDesc)(hd:P.underlying K=some d)
    (hs:∀a b,Instr.sameNow d (c a) (c b)=none) (heq:∀a b w,(Op.equal K (c a) (c b)).run P w=.ok (q a b) w) (bits:∀k,Instr.sameBits 10000 (c k) (c k)=true):KeyE P K κ:=
 ⟨c,q,qeq,check,fun k ks l w h=>by
  cases ks with
  | nil =>
    cases l with
    | nil=>exact Go.MapKept.run_findKey hd rfl
    | cons e l=>simp at h
  | cons k' ks =>
    cases l with
    | nil=>simp at h
    | cons e l =>
      have h1:Instr.findNow d (c k) (e :: l) 0=none:=by
       simp only[List.map_cons,List.cons.injEq] at h;rw[Instr.findNow,h.1,hs]
      simp only[Instr.findKey,Sem.run_bind,run_underlying hd,Result.andThen_ok,h1];exact find_ask heq k (k' :: ks) (e :: l) 0 w h,bits⟩
def Sta (bs:List Nat)(clock:Nat):Prop:=(∀b∈bs,b<clock)∧bs.Nodup
theorem sta_push {bs:List Nat}{clock:Nat}(h:Sta bs clock):Sta (bs++[clock]) (clock+1):=by
 refine⟨fun b hb=>?_,?_⟩
 ·simp only[List.mem_append,List.mem_singleton] at hb
  rcases hb with hb | rfl
  ·have:=h.1 b hb;omega
  omega
 rw[List.nodup_append];refine⟨h.2,by simp,fun a ha b hb e=>?_⟩;simp only[List.mem_singleton] at hb;have:=h.1 a ha;omega
theorem born_modify (f:MapEntry→MapEntry)(hf:∀e,(f e).born=e.born):∀(l:List MapEntry) (i:Nat),(l.modify i f).map (·.born)=l.map (·.born)
 | [],i=>by simp
 | a :: l,0=>by simp[hf]
 | a :: l,i+1=>by
   have ih:=born_modify f hf l i;simp[List.modify_succ_cons,ih]
def MAt (E:KeyE P K κ)(ve:β→Value)(w:World)(B:Nat)(M:List (κ×β)):Prop:=
 ∃es clock,w.heap[B]?=some (.map es clock)∧es.toList.map (·.key)=(M.map (·.1)).map E.c∧es.toList.map (·.val)=(M.map (·.2)).map ve∧Sta (es.toList.map (·.born)) clock
variable {E:KeyE P K κ}{ve:β→Value}
theorem MAt.lt {w:World}{B:Nat}{M:List (κ×β)}(h:MAt E ve w B M):B<w.heap.size:=by
 obtain⟨es,clock,h1,_⟩:=h;exact (Array.getElem?_eq_some_iff.1 h1).1
theorem MAt.later {w w':World}{B:Nat}{M:List (κ×β)}(h:MAt E ve w B M)(hb:Below w.heap.size w w'):MAt E ve w' B M:=by
 have hlt:=h.lt;obtain⟨es,clock,h1,h2⟩:=h;exact⟨es,clock,(hb.block B hlt).trans h1,h2⟩
theorem MAt.kept {w w':World}{B:Nat}{M:List (κ×β)}{row:Option Nat}(h:MAt E ve w B M)(hg:w.grownBy w' row)(hne:some B≠row):MAt E ve w' B M:=by
 have hlt:=h.lt;obtain⟨es,clock,h1,h2⟩:=h;exact⟨es,clock,(hg.block B hlt hne).trans h1,h2⟩
theorem mat_new (E:KeyE P K κ)(ve:β→Value)(w:World):MAt E ve (w.alloc (.map #[] 0)) w.heap.size []:=⟨#[],0,heap_alloc_new w _,rfl,rfl,by simp[Sta]⟩
theorem fnd_get {q:κ→κ→Bool}{k:κ}:∀(M:List (κ×β)) (l:List MapEntry) (i:Nat),l.map (·.val)=(M.map (·.2)).map ve→((fndM q k (M.map (·.1)) l i).map (·.2))=(mget q k M).map ve
 | [],[],_,_=>rfl
 | [],_ :: _,_,h=>by simp at h
 | _ :: _,[],_,h=>by simp at h
 | p :: M,e :: l,i,h=>by
   simp only[List.map_cons,List.cons.injEq] at h;rw[List.map_cons,fndM,mget];cases hq:q k p.1
   ·simp only[Bool.false_eq_true,if_false];exact fnd_get M l (i+1) h.2
   simp[h.1]
def getV (ve:β→Value)(z:Value)(o:Option β):Value:=match o with | some b=>ve b | none=>z
theorem run_lookup_M {w:World}{B:Nat}{M:List (κ×β)}(h:MAt E ve w B M)(t e:TypeId)(ht:P.underlying t=some (.map K e))(z:Value)(hz:∀w,(zeroValue e).run P w=.ok z w)(k:κ)(ok:Bool):
 (Instr.lookup t (.map (some B)) (E.c k) ok).run P w=.ok (if ok then .tuple #[getV ve z (mget E.q k M),.bool (mget E.q k M).isSome] else getV ve z (mget E.q k M)) w:=by
 obtain⟨es,clock,h1,h2,h3,_⟩:=h;have hf:=E.find k (M.map (·.1)) es.toList w h2;have hg:=fnd_get (ve:=ve) (q:=E.q) (k:=k) M es.toList 0 h3;simp only[Instr.lookup,Sem.run_bind,run_underlying ht,Result.andThen_ok,Go.MapKept.run_getObj_map h1,Sem.run_pure,E.check,hf]
 generalize fndM E.q k (M.map (·.1)) es.toList 0=r at *
 cases r with
 | none =>
   cases hm:mget E.q k M with
   | none=>cases ok <;> simp[getV,hz]
   | some b=>rw[hm] at hg;simp at hg
 | some p =>
   cases hm:mget E.q k M with
   | none=>rw[hm] at hg;simp at hg
   | some b =>
     rw[hm] at hg;simp at hg;cases ok <;> simp[getV,hg]
theorem fnd_put {q:κ→κ→Bool}(qeq:∀a b,q a b=true↔a=b){c:κ→Value}{k:κ}{b:β}:∀(M:List (κ×β)) (l:List MapEntry) (s:Nat),l.map (·.key)=(M.map (·.1)).map c→l.map (·.val)=(M.map (·.2)).map ve →
 (fndM q k (M.map (·.1)) l s=none∧(mput q k b M)=M++[(k,b)])∨∃i v,fndM q k (M.map (·.1)) l s=some (s+i,v)∧∃hi:i<l.length,l[i].key=c k ∧
  (l.modify i (fun e=>{ e with key:=c k,val:=ve b })).map (·.key)=((mput q k b M).map (·.1)).map c∧(l.modify i (fun e=>{ e with key:=c k,val:=ve b })).map (·.val)=((mput q k b M).map (·.2)).map ve
 | [],[],_,_,_=>.inl ⟨rfl,rfl⟩
 | [],_ :: _,_,h,_=>by simp at h
 | _ :: _,[],_,h,_=>by simp at h
 | p :: M,e :: l,s,h,h'=>by
   simp only[List.map_cons,List.cons.injEq] at h h';rw[List.map_cons,fndM,mput];cases hq:q k p.1
   ·simp only[Bool.false_eq_true,if_false]
    rcases fnd_put qeq (c:=c) (k:=k) (b:=b) M l (s+1) h.2 h'.2 with ⟨h1,h2⟩ | ⟨i,v,h1,hi,h2,h3,h4⟩
    ·exact .inl ⟨h1,by rw[h2];rfl⟩
    refine .inr ⟨i+1,v,by rw[h1];congr 2;omega,by simp;omega,by simpa using h2,?_,?_⟩
    ·simp only[List.modify_succ_cons,List.map_cons,h.1,h3]
    simp only[List.modify_succ_cons,List.map_cons,h'.1,h4]
   simp only[if_true];have e1:=(qeq _ _).1 hq;refine .inr ⟨0,e.val,rfl,by simp,by simp[h.1,e1],?_,?_⟩
   ·simp[h.2]
   simp[h'.2]
theorem run_update_M {w:World}{B:Nat}{M:List (κ×β)}(h:MAt E ve w B M)(t e:TypeId)(ht:P.underlying t=some (.map K e))(k:κ)(b:β):
 ∃w',(Instr.mapUpdate t (.map (some B)) (E.c k) (ve b)).run P w=.ok () w'∧MAt E ve w' B (mput E.q k b M)∧w.grownBy w' (some B):=by
 have hlt:=h.lt;obtain⟨es,clock,h1,h2,h3,hst⟩:=h;have hf:=E.find k (M.map (·.1)) es.toList w h2;have hgr:∀o:Obj,w.grownBy { w with heap:=w.heap.setIfInBounds B o } (some B):=fun o=>⟨rfl,rfl,rfl,by simp,fun j _ hj=>by
  have:B≠j:=fun e=>hj (by rw[e])
  simp[Array.getElem?_setIfInBounds_ne this]⟩
 have hat:∀o:Obj,({ w with heap:=w.heap.setIfInBounds B o }:World).heap[B]?=some o:=fun o=>by simp[hlt]
 rcases fnd_put E.qeq (ve:=ve) (c:=E.c) (k:=k) (b:=b) M es.toList 0 h2 h3 with ⟨r1,r2⟩ | ⟨i,v,r1,hi,r2,r3,r4⟩
 ·rw[r1] at hf;refine⟨_,?_,⟨es.push { key:=E.c k,val:=ve b,born:=clock },clock+1,hat _,?_,?_,by simpa using sta_push hst⟩,hgr _⟩
  ·simp only[Instr.mapUpdate,Sem.run_bind,run_underlying ht,Result.andThen_ok,Go.MapKept.run_getObj_map h1,E.check,hf,Go.MapKept.run_setObj_map _ h1]
  ·rw[r2];simp[h2]
  rw[r2];simp[h3]
 rw[r1] at hf;have hk:((es[i]?).map (·.key)).getD (E.c k)=E.c k:=by
  have hi2:i<es.size:=by simpa using hi
  rw[Array.getElem?_eq_getElem hi2];simpa using r2
 refine⟨_,?_,⟨es.modify i fun e=>{ e with key:=E.c k,val:=ve b },clock,hat _,?_,?_,by have hbm:=born_modify (fun e:MapEntry=>{ e with key:=E.c k,val:=ve b }) (fun _=>rfl) es.toList i;rw[Array.toList_modify,hbm];exact hst⟩,hgr _⟩
 ·simp only[Instr.mapUpdate,Sem.run_bind,run_underlying ht,Result.andThen_ok,Go.MapKept.run_getObj_map h1,E.check,hf,Nat.zero_add,hk,Instr.keyThatStays,E.bits,if_true,Sem.run_pure,Go.MapKept.run_setObj_map _ h1]
 ·rw[Array.toList_modify];exact r3
 rw[Array.toList_modify];exact r4
theorem find_born {l:List MapEntry}:∀{j:Nat} {e0:MapEntry},(l.map (·.born)).Nodup→l[j]?=some e0→l.findIdx? (fun e=>((e.born:Nat):Int)==((e0.born:Nat):Int))=some j:=by
 induction l with
 | nil=>intro j e0 _ h;simp at h
 | cons a r ih =>
   intro j e0 hn h;simp only[List.map_cons,List.nodup_cons] at hn;cases j with
   | zero =>
     simp only[List.getElem?_cons_zero,Option.some.injEq] at h;subst h;simp[List.findIdx?_cons]
   | succ j =>
     simp only[List.getElem?_cons_succ] at h;have hne:¬a.born=e0.born:=fun e1=>hn.1 (List.mem_map.2 ⟨e0,List.mem_of_getElem? h,e1.symm⟩)
     have hb:(((a.born:Nat):Int)==((e0.born:Nat):Int))=false:=by
      simp only[beq_eq_false_iff_ne,ne_eq,Int.natCast_inj];exact hne
     rw[List.findIdx?_cons,hb];simp[ih hn.2 h]
theorem idx_toList (xs:Array MapEntry)(p:MapEntry→Bool):xs.findIdx? p=xs.toList.findIdx? p:=by
 cases xs;simp
theorem modify_end {α:Type}(f:α→α)(a:α):∀l:List α,(l++[a]).modify l.length f=l++[f a]
 | []=>rfl
 | b :: r=>by simp[List.modify_succ_cons,modify_end f a r]
theorem modify_at {α:Type}(f g:α→α):∀(l:List α) (i:Nat) (hi:i<l.length),f l[i]=g l[i]→l.modify i f=l.modify i g
 | a :: l,0,_,h=>by simpa using h
 | a :: l,i+1,hi,h=>by
   have:=modify_at f g l i (by simpa using hi) (by simpa using h);simp[List.modify_succ_cons,this]
theorem modify_id {α:Type}(f:α→α):∀(l:List α) (i:Nat) (hi:i<l.length),f l[i]=l[i]→l.modify i f=l
 | a :: l,0,_,h=>by simpa using h
 | a :: l,i+1,hi,h=>by
   have:=modify_id f l i (by simpa using hi) (by simpa using h);simp[List.modify_succ_cons,this]
theorem run_entry_M {w:World}{B:Nat}{M:List (κ×β)}(h:MAt E ve w B M)(t e:TypeId)(ht:P.underlying t=some (.map K e))(z:β)(hz:∀w,(zeroValue e).run P w=.ok (ve z) w)(k:κ):
 ∃ (v0:Value) (st:Nat) (w1:World),(Instr.mapEntry t (.map (some B)) (E.c k)).run P w=.ok (.tuple #[v0,.int i64 (st:Int)]) w1∧w.grownBy w1 (some B)∧MAt E ve w1 B (mput E.q k ((mget E.q k M).getD z) M) ∧
   ∀(w2:World) (b:β),w2.heap[B]?=w1.heap[B]?→∃w3,(Instr.entryStore t (.map (some B)) (.int i64 (st:Int)) (ve b)).run P w2=.ok () w3∧MAt E ve w3 B (mput E.q k b M)∧w2.grownBy w3 (some B):=by
 have hlt:=h.lt;obtain⟨es,clock,h1,h2,h3,hst⟩:=h;have hf:=E.find k (M.map (·.1)) es.toList w h2;have hgr:∀(w:World) (o:Obj),w.grownBy { w with heap:=w.heap.setIfInBounds B o } (some B):=fun w o=>⟨rfl,rfl,rfl,by simp,fun j _ hj=>by
  have:B≠j:=fun e=>hj (by rw[e])
  simp[Array.getElem?_setIfInBounds_ne this]⟩
 have hat:∀(w:World) (o o':Obj),w.heap[B]?=some o'→({ w with heap:=w.heap.setIfInBounds B o }:World).heap[B]?=some o:=fun w o o' hw=>by
  have hl:B<w.heap.size:=(Array.getElem?_eq_some_iff.1 hw).1;simp[hl]
 rcases fnd_put E.qeq (ve:=ve) (c:=E.c) (k:=k) (b:=z) M es.toList 0 h2 h3 with ⟨r1,r2⟩ | ⟨i,v,r1,hi,r2,r3,r4⟩
 ·rw[r1] at hf;have hno:mget E.q k M=none:=by
   have:=fnd_get (ve:=ve) (q:=E.q) (k:=k) M es.toList 0 h3;rw[r1] at this;cases hm:mget E.q k M with
   | none=>rfl
   | some b=>rw[hm] at this;simp at this
  have hput:∀b,mput E.q k b M=M++[(k,b)]:=fun b=>by
   rcases fnd_put E.qeq (ve:=ve) (c:=E.c) (k:=k) (b:=b) M es.toList 0 h2 h3 with ⟨_,r⟩ | ⟨i,v,q1,_⟩
   ·exact r
   rw[r1] at q1;cases q1
  refine⟨ve z,clock,{ w with heap:=w.heap.setIfInBounds B (.map (es.push { key:=E.c k,val:=ve z,born:=clock }) (clock+1)) },?_,hgr _ _,⟨_,_,hat _ _ _ h1,?_,?_,by simpa using sta_push hst⟩,fun w2 b hw2=>?_⟩
  ·simp only[Instr.mapEntry,Sem.run_bind,run_underlying ht,Result.andThen_ok,Go.MapKept.run_getObj_map h1,E.check,hf,hz,Go.MapKept.run_setObj_map _ h1,Sem.run_pure];rfl
  ·rw[hno,hput];simp[h2]
  ·rw[hno,hput];simp[h3]
  rw[hat _ _ _ h1] at hw2;have hidx:(es.push { key:=E.c k,val:=ve z,born:=clock }).findIdx? (fun e=>((e.born:Nat):Int)==((clock:Nat):Int))=some es.size:=by
   rw[idx_toList];exact find_born (l:=(es.push { key:=E.c k,val:=ve z,born:=clock }).toList) (j:=es.size) (e0:={ key:=E.c k,val:=ve z,born:=clock }) (by simpa using (sta_push hst).2) (by simp)
  have hmod:(es.push { key:=E.c k,val:=ve z,born:=clock }).modify es.size (fun e=>{ e with val:=ve b })=es.push { key:=E.c k,val:=ve b,born:=clock }:=by
   apply Array.ext'
   rw[Array.toList_modify,Array.toList_push,Array.toList_push,←Array.length_toList,modify_end]
  refine⟨{ w2 with heap:=w2.heap.setIfInBounds B (.map (es.push { key:=E.c k,val:=ve b,born:=clock }) (clock+1)) },?_,⟨_,_,hat _ _ _ hw2,?_,?_,by simpa using sta_push hst⟩,hgr _ _⟩
  ·simp[Instr.entryStore,Go.MapKept.run_getObj_map hw2,asInt,asIntOf,hidx,hmod,Go.MapKept.run_setObj_map _ hw2,Result.andThen]
  ·rw[hput];simp[h2]
  rw[hput];simp[h3]
 rw[r1] at hf;simp only[Nat.zero_add] at hf r1;have hi2:i<es.size:=by simpa using hi
 have hie:es[i]?=some es[i]:=Array.getElem?_eq_getElem hi2;have hil:es.toList[i]?=some es[i]:=by simp[hi2]
 have hkey:es[i].key=E.c k:=by simpa using r2
 have hget:∃b0,mget E.q k M=some b0∧ve b0=v:=by
  have:=fnd_get (ve:=ve) (q:=E.q) (k:=k) M es.toList 0 h3;rw[r1] at this;cases hm:mget E.q k M with
  | none=>rw[hm] at this;simp at this
  | some b=>rw[hm] at this;simp at this;exact⟨b,rfl,this.symm⟩
 obtain⟨b0,hb0,hv⟩:=hget;have hsame:es.modify i (fun e=>{ e with key:=E.c k })=es:=by
  apply Array.ext'
  rw[Array.toList_modify];refine modify_id _ _ i hi ?_;have:es.toList[i].key=E.c k:=r2;rw[←this]
 have hall:∀b,(es.toList.modify i (fun e=>{ e with key:=E.c k,val:=ve b })).map (·.key)=((mput E.q k b M).map (·.1)).map E.c∧(es.toList.modify i (fun e=>{ e with key:=E.c k,val:=ve b })).map (·.val)=((mput E.q k b M).map (·.2)).map ve:=fun b=>by
  rcases fnd_put E.qeq (ve:=ve) (c:=E.c) (k:=k) (b:=b) M es.toList 0 h2 h3 with ⟨q1,_⟩ | ⟨j,v',q1,_,_,q3,q4⟩
  ·rw[r1] at q1;cases q1
  rw[r1] at q1;simp only[Option.some.injEq,Prod.mk.injEq,Nat.zero_add] at q1;obtain⟨rfl,_⟩:=q1;exact⟨q3,q4⟩
 have hold:mput E.q k b0 M=M:=by
  have hput:∀(M:List (κ×β)),mget E.q k M=some b0→mput E.q k b0 M=M:=by
   intro M
   induction M with
   | nil=>intro h;cases h
   | cons p M ih =>
     intro h;rw[mget] at h;rw[mput];by_cases e:E.q k p.1=true
     ·rw[if_pos e] at h ⊢;have e1:=(E.qeq _ _).1 e;simp at h;subst h;subst e1;rfl
     rw[if_neg e] at h ⊢;rw[ih h]
  exact hput M hb0
 refine⟨v,es[i].born,w,?_,⟨rfl,rfl,rfl,nLQ _,fun _ _ _=>rfl⟩,⟨es,clock,h1,?_,?_,hst⟩,fun w2 b hw2=>?_⟩
 ·have hrefl:({ w with heap:=w.heap.setIfInBounds B (.map es clock) }:World)=w:=by
   have:w.heap.setIfInBounds B (.map es clock)=w.heap:=by
    apply Array.ext_getElem?
    intro j;by_cases e:B=j
    ·subst e;exact (hat w (.map es clock) _ h1).trans h1.symm
    simp[Array.getElem?_setIfInBounds_ne e]
   rw[this]
  simp only[Instr.mapEntry,Sem.run_bind,run_underlying ht,Result.andThen_ok,Go.MapKept.run_getObj_map h1,E.check,hf,hie,Option.map_some,Option.getD_some,hkey,Instr.keyThatStays,E.bits,if_true,Sem.run_pure,hsame,Go.MapKept.run_setObj_map _ h1];rw[hrefl];rfl
 ·rw[hb0,Option.getD_some,hold];exact h2
 ·rw[hb0,Option.getD_some,hold];exact h3
 rw[h1] at hw2;have hidx:es.findIdx? (fun e=>((e.born:Nat):Int)==((es[i].born:Nat):Int))=some i:=by
  rw[idx_toList];exact find_born hst.2 hil
 have hmod:es.modify i (fun e=>{ e with val:=ve b })=es.modify i (fun e=>{ e with key:=E.c k,val:=ve b }):=by
  apply Array.ext'
  rw[Array.toList_modify,Array.toList_modify];refine modify_at _ _ _ i hi ?_;have:es.toList[i].key=E.c k:=r2;rw[←this]
 refine⟨{ w2 with heap:=w2.heap.setIfInBounds B (.map (es.modify i (fun e=>{ e with key:=E.c k,val:=ve b })) clock) },?_,⟨_,_,hat _ _ _ hw2,?_,?_,by have hbm:=born_modify (fun e:MapEntry=>{ e with key:=E.c k,val:=ve b }) (fun _=>rfl) es.toList i;rw[Array.toList_modify,hbm];exact hst⟩,hgr _ _⟩
 ·simp[Instr.entryStore,Go.MapKept.run_getObj_map hw2,asInt,asIntOf,hidx,hmod,Go.MapKept.run_setObj_map _ hw2,Result.andThen]
 ·rw[Array.toList_modify];exact (hall b).1
 rw[Array.toList_modify];exact (hall b).2
variable {w:World}{ops:Array Oper}{rest:List Oper}{o:Oper}{a:Act}{Q:Exit→Act→World→Prop}
end
theorem ba_eq {a b:ByteArray}:(a==b)=true↔a=b:=by
 obtain⟨x⟩:=a;obtain⟨y⟩:=b;show (x==y)=true↔_;simp
def spB (S:Int)(x:Int×Int):Bool:=decide (1≤x.1)&&(decide (x.1≤S)&&(decide (1≤x.2)&&decide (x.2≤4)))
def nmB (s:ByteArray):Bool:=decide (1≤s.size)&&(decide (s.size≤6)&&s.data.toList.all fun c=>decide (97≤c.toNat)&&decide (c.toNat≤122))
def spsL (Ls:LkQ):List (Int×Int):=Ls.flatMap fun l=>[l.1,l.2]
def lkN (S:Int):LkQ→List (Int×Int)→Int
 | [],_=>0
 | l :: Ls,U=>if spB S l.1&&spB S l.2 then (if l.1==l.2 || (U.any fun u=>u==l.1 || u==l.2) then 7 else lkN S Ls (U++[l.1,l.2])) else 1
def hoN (S:Int):HoQ→List ByteArray→List (Int×Int)→Int
 | [],_,_=>0
 | h :: Hs,N,U=>if nmB h.1 then (if spB S h.2 then (if (N.any fun n=>n==h.1) || (U.any fun u=>u==h.2) then 7 else hoN S Hs (N++[h.1]) (U++[h.2])) else 1) else 2
def tpN (S:Int)(Ls:LkQ)(Hs:HoQ):Int:=
 if decide (1≤S)&&decide (S≤6) then (if decide (Ls.length≤200)&&decide (Hs.length≤8) then (if lkN S Ls []=0 then hoN S Hs [] (spsL Ls) else lkN S Ls []) else 4) else 1
def peerO:LkQ→(Int×Int)→Option (Int×Int)
 | [],_=>none
 | l :: Ls,s=>if l.1==s then some l.2 else if l.2==s then some l.1 else peerO Ls s
def atO:HoQ→(Int×Int)→Option ByteArray
 | [],_=>none
 | h :: Hs,s=>if h.2==s then some h.1 else atO Hs s
def whereO:HoQ→ByteArray→Option (Int×Int)
 | [],_=>none
 | h :: Hs,n=>if h.1==n then some h.2 else whereO Hs n
theorem sp_of {S:Int}{x:Int×Int}(h:spB S x=true):1≤x.1∧x.1≤S∧1≤x.2∧x.2≤4:=by
 simpa[spB] using h
theorem lk_0 {S:Int}:∀{Ls:LkQ} {U:List (Int×Int)},U.Nodup→(lkN S Ls U=0↔(∀x∈spsL Ls,spB S x=true)∧(U++spsL Ls).Nodup)
 | [],U,hU=>by simp[lkN,spsL,hU]
 | l :: Ls,U,hU=>by
   obtain⟨x,y⟩:=l;have e:spsL ((x,y) :: Ls)=x :: y :: spsL Ls:=rfl;rw[lkN,e];simp only;by_cases h1:spB S x&&spB S y
   ·rw[if_pos h1];simp only[Bool.and_eq_true] at h1;by_cases h2:(x==y || (U.any fun u=>u==x || u==y))=true
    ·rw[if_pos h2];refine⟨fun h=>absurd h (by decide),fun h=>?_⟩
     exfalso
     have hn:=h.2;rw[List.nodup_append] at hn;obtain⟨_,h3,h4⟩:=hn;simp only[Bool.or_eq_true,beq_iff_eq,List.any_eq_true] at h2
     rcases h2 with h2 | ⟨u,hu,h2 | h2⟩
     ·subst h2;rw[List.nodup_cons] at h3;exact h3.1 (by simp)
     ·exact h4 u hu x (by simp) h2
     exact h4 u hu y (by simp) h2
    rw[if_neg h2];simp only[Bool.or_eq_true,beq_iff_eq,List.any_eq_true,not_or,not_exists,not_and] at h2;have hU2:(U++[x,y]).Nodup:=by
     rw[List.nodup_append];refine⟨hU,by simp[h2.1],?_⟩;intro a ha b hb e;subst e;simp only[List.mem_cons,List.not_mem_nil,or_false] at hb;have:=h2.2 a ha
     rcases hb with rfl | rfl
     ·exact this.1 rfl
     exact this.2 rfl
    rw[lk_0 hU2];have e2:U++[x,y]++spsL Ls=U++x :: y :: spsL Ls:=by simp
    rw[e2];refine and_congr ⟨fun h=>?_,fun h z hz=>h z (by simp[hz])⟩ Iff.rfl;intro z hz;simp only[List.mem_cons] at hz
    rcases hz with rfl | rfl | hz
    ·exact h1.1
    ·exact h1.2
    exact h z hz
   rw[if_neg h1];refine⟨fun h=>absurd h (by decide),fun h=>?_⟩;exact absurd (by simp[h.1 x (by simp),h.1 y (by simp)]) h1
theorem ho_0 {S:Int}:∀{Hs:HoQ} {N:List ByteArray} {U:List (Int×Int)},N.Nodup→U.Nodup→(hoN S Hs N U=0↔(∀h∈Hs,nmB h.1=true∧spB S h.2=true)∧(N++Hs.map (·.1)).Nodup∧(U++Hs.map (·.2)).Nodup)
 | [],N,U,hN,hU=>by simp[hoN,hN,hU]
 | h :: Hs,N,U,hN,hU=>by
   obtain⟨n,x⟩:=h;rw[hoN];simp only[List.map_cons];by_cases h1:nmB n=true
   ·rw[if_pos h1];by_cases h2:spB S x=true
    ·rw[if_pos h2];by_cases h3:((N.any fun m=>m==n) || (U.any fun u=>u==x))=true
     ·rw[if_pos h3];refine⟨fun h=>absurd h (by decide),fun h=>?_⟩
      exfalso
      simp only[Bool.or_eq_true,ba_eq,beq_iff_eq,List.any_eq_true] at h3
      rcases h3 with ⟨m,hm,e⟩ | ⟨u,hu,e⟩
      ·have:=(List.nodup_append.1 h.2.1).2.2;exact this m hm n (by simp) e
      have:=(List.nodup_append.1 h.2.2).2.2;exact this u hu x (by simp) e
     rw[if_neg h3];simp only[Bool.or_eq_true,ba_eq,beq_iff_eq,List.any_eq_true,not_or,not_exists,not_and] at h3;have hN2:(N++[n]).Nodup:=by
      rw[List.nodup_append];refine⟨hN,by simp,fun a ha b hb e=>?_⟩;simp only[List.mem_singleton] at hb;subst hb;exact h3.1 a ha e
     have hU2:(U++[x]).Nodup:=by
      rw[List.nodup_append];refine⟨hU,by simp,fun a ha b hb e=>?_⟩;simp only[List.mem_singleton] at hb;subst hb;exact h3.2 a ha e
     rw[ho_0 hN2 hU2];have e1:N++[n]++Hs.map (·.1)=N++n :: Hs.map (·.1):=by simp
     have e2:U++[x]++Hs.map (·.2)=U++x :: Hs.map (·.2):=by simp
     rw[e1,e2];refine and_congr ⟨fun h z hz=>?_,fun h z hz=>h z (by simp[hz])⟩ Iff.rfl
     rcases List.mem_cons.1 hz with rfl | hz
     ·exact⟨h1,h2⟩
     exact h z hz
    rw[if_neg h2];refine⟨fun h=>absurd h (by decide),fun h=>?_⟩;exact absurd (h.1 (n,x) (by simp)).2 h2
   rw[if_neg h1];refine⟨fun h=>absurd h (by decide),fun h=>?_⟩;exact absurd (h.1 (n,x) (by simp)).1 h1
theorem tp_0 {S:Int}{Ls:LkQ}{Hs:HoQ}(h:tpN S Ls Hs=0):
 (1≤S∧S≤6)∧(Ls.length≤200∧Hs.length≤8)∧(∀x∈spsL Ls,spB S x=true)∧(spsL Ls).Nodup∧(∀h∈Hs,nmB h.1=true∧spB S h.2=true)∧(Hs.map (·.1)).Nodup∧(spsL Ls++Hs.map (·.2)).Nodup:=by
 unfold tpN at h;by_cases h1:(decide (1≤S)&&decide (S≤6))=true
 ·rw[if_pos h1] at h;by_cases h2:(decide (Ls.length≤200)&&decide (Hs.length≤8))=true
  ·rw[if_pos h2] at h;by_cases h3:lkN S Ls []=0
   ·rw[if_pos h3] at h;have h4:=(lk_0 (S:=S) (Ls:=Ls) (U:=[]) List.nodup_nil).1 h3;simp only[List.nil_append] at h4;have h5:=(ho_0 (S:=S) (Hs:=Hs) (N:=[]) (U:=spsL Ls) List.nodup_nil h4.2).1 h;simp only[List.nil_append] at h5;simp only[Bool.and_eq_true,decide_eq_true_eq] at h1 h2;exact⟨h1,h2,h4.1,h4.2,h5.1,h5.2.1,h5.2.2⟩
   rw[if_neg h3] at h;exact absurd h h3
  rw[if_neg h2] at h;exact absurd h (by decide)
 rw[if_neg h1] at h;exact absurd h (by decide)
theorem peer_in:∀{Ls:LkQ} {s p:Int×Int},peerO Ls s=some p→s∈spsL Ls∧p∈spsL Ls
 | [],_,_,h=>by cases h
 | l :: Ls,s,p,h=>by
   obtain⟨x,y⟩:=l;have e:spsL ((x,y) :: Ls)=x :: y :: spsL Ls:=rfl;rw[peerO] at h;rw[e];by_cases h1:x=s
   ·subst h1;simp at h;subst h;simp
   by_cases h2:y=s
   ·subst h2;simp[h1] at h;subst h;simp
   simp[h1,h2] at h;have:=peer_in h;simp[this.1,this.2]
structure But (X:List Nat)(w w':World):Prop where
 os:w'.os=w.os
 tape:w'.tape=w.tape
 output:w'.output=w.output
 size:w.heap.size≤w'.heap.size
 block:∀k,k<w.heap.size→k ∉ X→w'.heap[k]?=w.heap[k]?
theorem But.refl (X:List Nat)(w:World):But X w w:=⟨rfl,rfl,rfl,nLQ _,fun _ _ _=>rfl⟩
theorem But.trans {X:List Nat}{a b c:World}(h:But X a b)(k:But X b c):But X a c:=
 ⟨k.os.trans h.os,k.tape.trans h.tape,k.output.trans h.output,Nat.le_trans h.size k.size,fun i hi hx=>(k.block i (Nat.lt_of_lt_of_le hi h.size) hx).trans (h.block i hi hx)⟩
theorem But.drew {X:List Nat}{a w:World}(h:But X a w):But X a w.drew:=⟨h.os,h.tape,h.output,h.size,h.block⟩
theorem wrap_small {x:Int}(h1 : -1000000≤x)(h2:x≤1000000):IntKind.i64.wrap x=x:=by
 rw[IntKind.wrap_i64];omega
theorem But.of_below {X:List Nat}{w w':World}(h:Below w.heap.size w w'):But X w w':=⟨h.os,h.tape,h.output,h.size,fun k hk _=>h.block k hk⟩
theorem But.of_grown {X:List Nat}{w w':World}{B:Nat}(h:w.grownBy w' (some B))(hB:B∈X):But X w w':=
 ⟨h.os,h.tape,h.output,h.size,fun k hk hx=>h.block k hk (fun e=>hx (by cases e;exact hB))⟩
theorem But.mono {X Y:List Nat}{w w':World}(h:But X w w')(hX:∀x∈X,x∈Y):But Y w w':=⟨h.os,h.tape,h.output,h.size,fun k hk hx=>h.block k hk (fun e=>hx (hX k e))⟩
theorem But.below {X:List Nat}{w w':World}{B:Nat}(h:But X w w')(hB:B≤w.heap.size)(hX:∀x∈X,B≤x):Below B w w':=
 ⟨h.os,h.tape,h.output,h.size,fun k hk=>h.block k (by omega) (fun e=>by have:=hX k e;omega)⟩
theorem But.cell {X:List Nat}{w w':World}(h:But X w w'){p:Addr}(hl:p.block<w.heap.size)(hX:p.block ∉ X):w'.cell? p=w.cell? p:=World.cell?_of_block (w:=w) (h.block p.block hl hX)
section
variable {P:Program}{K:TypeId}{κ β:Type}{E:KeyE P K κ}{ve:β→Value}
theorem MAt.but {X:List Nat}{w w':World}{B:Nat}{M:List (κ×β)}(h:MAt E ve w B M)(hb:But X w w')(hX:B ∉ X):MAt E ve w' B M:=by
 have hlt:=h.lt;obtain⟨es,clock,h1,h2⟩:=h;exact⟨es,clock,(hb.block B hlt hX).trans h1,h2⟩
end
section
variable {κ:Type}
def ctM (q:κ→κ→Bool)(x:κ)(U:List κ):Nat:=(U.filter fun y=>q x y).length
theorem ct_app {q:κ→κ→Bool}(x:κ)(U V:List κ):ctM q x (U++V)=ctM q x U+ctM q x V:=by simp[ctM]
theorem ct_le {q:κ→κ→Bool}(x:κ)(U:List κ):ctM q x U≤U.length:=List.length_filter_le _ _
theorem ct_pos {q:κ→κ→Bool}(hq:∀a b,q a b=true↔a=b)(x:κ)(U:List κ):0<ctM q x U↔x∈U:=by
 unfold ctM;rw[List.length_pos_iff_exists_mem];simp only[List.mem_filter,hq];exact⟨fun ⟨y,h1,h2⟩=>h2 ▸ h1,fun h=>⟨x,h,rfl⟩⟩
def TK (q:κ→κ→Bool)(M:List (κ×Int))(U:List κ):Prop:=∀s,(mget q s M).getD 0=(ctM q s U:Int)
theorem tk_nil (q:κ→κ→Bool):TK q [] []:=fun s=>rfl
theorem tk_put {q:κ→κ→Bool}(hq:∀a b,q a b=true↔a=b){M:List (κ×Int)}{U:List κ}(h:TK q M U)(x:κ):TK q (mput q x ((ctM q x U:Int)+1) M) (U++[x]):=by
 intro s;rw[mget_put hq,ct_app];by_cases e:q s x=true
 ·rw[if_pos e];have e2:=(hq _ _).1 e;subst e2;have:ctM q s [s]=1:=by simp[ctM,e]
  rw[this];simp
 rw[if_neg e,h s];have:ctM q s [x]=0:=by simp[ctM,e]
 rw[this];simp
theorem ct_one {q:κ→κ→Bool}(hq:∀a b,q a b=true↔a=b)(x y:κ):ctM q x [y]=if q x y then 1 else 0:=by
 cases h:q x y <;> simp[ctM,h]
end
def sq (a b:Int×Int):Bool:=a.1==b.1&&a.2==b.2
theorem sq_iff (a b:Int×Int):sq a b=true↔a=b:=by
 obtain⟨x,y⟩:=a;obtain⟨z,v⟩:=b;simp[sq]
def lk1 (S:Int)(U:List (Int×Int))(l:(Int×Int)×(Int×Int)):Int:=if spB S l.1&&spB S l.2 then (if l.1==l.2 || (U.any fun u=>u==l.1 || u==l.2) then 7 else 0) else 1
theorem lk_step (S:Int)(l:(Int×Int)×(Int×Int))(Ls:LkQ)(U:List (Int×Int)):lkN S (l :: Ls) U=if lk1 S U l=0 then lkN S Ls (U++[l.1,l.2]) else lk1 S U l:=by
 rw[lkN,lk1];by_cases h1:(spB S l.1&&spB S l.2)=true
 ·rw[if_pos h1,if_pos h1];by_cases h2:(l.1==l.2 || (U.any fun u=>u==l.1 || u==l.2))=true
  ·rw[if_pos h2,if_pos h2];rfl
  rw[if_neg h2,if_neg h2];rfl
 rw[if_neg h1,if_neg h1];rfl
def ho1 (S:Int)(N:List ByteArray)(U:List (Int×Int))(h:ByteArray×(Int×Int)):Int:=if nmB h.1 then (if spB S h.2 then (if (N.any fun n=>n==h.1) || (U.any fun u=>u==h.2) then 7 else 0) else 1) else 2
theorem ho_step (S:Int)(h:ByteArray×(Int×Int))(Hs:HoQ)(N:List ByteArray)(U:List (Int×Int)):hoN S (h :: Hs) N U=if ho1 S N U h=0 then hoN S Hs (N++[h.1]) (U++[h.2]) else ho1 S N U h:=by
 rw[hoN,ho1];by_cases h1:nmB h.1=true
 ·rw[if_pos h1,if_pos h1];by_cases h2:spB S h.2=true
  ·rw[if_pos h2,if_pos h2];by_cases h3:((N.any fun n=>n==h.1) || (U.any fun u=>u==h.2))=true
   ·rw[if_pos h3,if_pos h3];rfl
   rw[if_neg h3,if_neg h3];rfl
  rw[if_neg h2,if_neg h2];rfl
 rw[if_neg h1,if_neg h1];rfl
theorem ct_link (U:List (Int×Int))(x y:Int×Int):(decide ((1:Int)<(ctM sq x (U++[x]++[y]):Int)) || decide ((1:Int)<(ctM sq y (U++[x]++[y]):Int)))=(x==y || (U.any fun u=>u==x || u==y)):=by
 rw[Bool.eq_iff_iff];simp only[ct_app,ct_one sq_iff,Bool.or_eq_true,decide_eq_true_eq,beq_iff_eq,List.any_eq_true];have hx:=ct_pos sq_iff x U;have hy:=ct_pos sq_iff y U;have sx:sq x x=true:=(sq_iff _ _).2 rfl;have sy:sq y y=true:=(sq_iff _ _).2 rfl;rw[sx,sy];simp only[if_true];by_cases e:x=y
 ·subst e;simp[sx];omega
 have n1:sq x y=false:=by
  cases h:sq x y
  ·rfl
  exact absurd ((sq_iff _ _).1 h) e
 have n2:sq y x=false:=by
  cases h:sq y x
  ·rfl
  exact absurd ((sq_iff _ _).1 h).symm e
 rw[n1,n2];simp only[Bool.false_eq_true,if_false,e,false_or];constructor
 ·rintro (h | h)
  ·exact⟨x,hx.1 (by omega),.inl rfl⟩
  exact⟨y,hy.1 (by omega),.inr rfl⟩
 rintro⟨u,hu,rfl | rfl⟩
 ·have:=hx.2 hu;left;omega
 have:=hy.2 hu;right;omega
theorem ba_iff (a b:ByteArray):(a==b)=true↔a=b:=ba_eq
theorem ct_host {κ:Type}{q:κ→κ→Bool}(hq:∀a b,q a b=true↔a=b)(U:List κ)(x:κ):decide ((1:Int)<(ctM q x (U++[x]):Int))=(U.any fun u=>q u x):=by
 rw[Bool.eq_iff_iff];simp only[ct_app,ct_one hq,decide_eq_true_eq,List.any_eq_true];have hx:=ct_pos hq x U;have sx:q x x=true:=(hq _ _).2 rfl;rw[sx];simp only[if_true];constructor
 ·intro h;exact⟨x,hx.1 (by omega),sx⟩
 rintro⟨u,hu,e⟩;have e2:=(hq _ _).1 e;subst e2;have:=hx.2 hu;omega
theorem sps_take {Ls:LkQ}{k:Nat}(hk:k<Ls.length):spsL (Ls.take (k+1))=spsL (Ls.take k)++[Ls[k].1,Ls[k].2]:=by
 rw[List.take_succ_eq_append_getElem hk];unfold spsL;rw[List.flatMap_append];rfl
theorem sps_len (Ls:LkQ):(spsL Ls).length=2*Ls.length:=by
 induction Ls with
 | nil=>rfl
 | cons l Ls ih =>
   have e:spsL (l :: Ls)=l.1 :: l.2 :: spsL Ls:=rfl;rw[e];simp[ih];omega
def qI (a b:Int):Bool:=a==b
theorem qI_iff (a b:Int):qI a b=true↔a=b:=by simp[qI]
section
variable {κ β:Type}{q:κ→κ→Bool}
end
section
variable {S:Nat}{J:Nat→Nat→Bool}{a:Nat}
end
end
section
open Go.ChangeShapes Go.WideShapes Go.ChangeAt Go.RowKit
structure Enc (α:Type) where
 c:α→List Value
 n:Nat
 len:∀x,(c x).length=n
 pos:0<n
 one:∀x u,u∈c x→u.oneCell'=true
def VAt (w:World)(g o:Nat)(vs:List Value):Prop:=∀j u,vs[j]?=some u→w.cell? ⟨g,o+j,none⟩=some u
theorem VAt.later {w w':World}{g o:Nat}{vs:List Value}(h:VAt w g o vs)(hb:Below w.heap.size w w'):VAt w' g o vs:=fun j u hu=>cell_later hb (h j u hu)
theorem vat_new (w:World)(vs:List Value)(t:TypeId):VAt (w.alloc (.cells vs.toArray t)) w.heap.size 0 vs:=by
 intro j u hu;rw[Nat.zero_add];have hj:j<vs.length:=(List.getElem?_eq_some_iff.1 hu).1;simp only[World.cell?,World.alloc];simp[hu]
section
variable {α:Type}{E:Enc α}
def GAt (E:Enc α)(w:World)(g o:Nat)(L:List α):Prop:=∀i (h:i<L.length),VAt w g (o+i*E.n) (E.c L[i])
theorem GAt.later {w w':World}{g o:Nat}{L:List α}(h:GAt E w g o L)(hb:Below w.heap.size w w'):GAt E w' g o L:=fun i hi=>(h i hi).later hb
theorem GAt.take {w:World}{g o:Nat}{L:List α}(h:GAt E w g o L)(k:Nat):GAt E w g o (L.take k):=by
 intro i hi;rw[List.getElem_take];exact h i (by simp at hi;omega)
theorem GAt.drop {w:World}{g o:Nat}{L:List α}(h:GAt E w g o L)(k:Nat):GAt E w g (o+k*E.n) (L.drop k):=by
 intro i hi;have hi2:k+i<L.length:=by simp at hi;omega
 have:=h (k+i) hi2;rw[List.getElem_drop];have e:o+(k+i)*E.n=o+k*E.n+i*E.n:=by rw[Nat.add_mul];omega
 rw[←e];exact this
def GS (E:Enc α)(w:World)(v:Value)(L:List α):Prop:=
 (∃ao cap,v=.slice ao 0 cap∧L=[])∨∃g o cap,v=.slice (some ⟨g,o,none⟩) L.length cap∧L.length≤cap∧cap≤maxLen∧GAt E w g o L
theorem GS.later {w w':World}{v:Value}{L:List α}(h:GS E w v L)(hb:Below w.heap.size w w'):GS E w' v L:=by
 rcases h with h | ⟨g,o,cap,h1,h2,h3,h4⟩
 ·exact .inl h
 exact .inr ⟨g,o,cap,h1,h2,h3,h4.later hb⟩
theorem GS.form {w:World}{v:Value}{L:List α}(h:GS E w v L):∃ao n cap,v=.slice ao n cap∧L.length=n∧n≤maxLen∧n≤cap∧(0<n→∃g o,ao=some ⟨g,o,none⟩∧GAt E w g o L∧cap≤maxLen):=by
 rcases h with ⟨ao,cap,rfl,rfl⟩ | ⟨g,o,cap,rfl,h1,h2,h3⟩
 ·exact⟨ao,0,cap,rfl,rfl,Nat.zero_le _,Nat.zero_le _,fun h=>absurd h (by omega)⟩
 exact⟨_,_,cap,rfl,rfl,Nat.le_trans h1 h2,h1,fun _=>⟨g,o,rfl,h3,h2⟩⟩
theorem GS.len {w:World}{ao:AdQ}{n cap:Nat}{L:List α}(h:GS E w (.slice ao n cap) L):L.length=n:=by
 rcases h with ⟨_,_,e,rfl⟩ | ⟨_,_,_,e,_⟩
 ·simp at e;simp[e]
 simp at e;exact e.2.1.symm
theorem GS.nil (w:World):GS E w (.slice none 0 0) []:=.inl ⟨none,0,rfl,rfl⟩
theorem gs_one (w:World)(x:α)(t:TypeId){vs:List Value}(hv:vs=E.c x):GS E (w.alloc (.cells vs.toArray t)) (.slice (some ⟨w.heap.size,0,none⟩) 1 1) [x]:=by
 subst hv;refine .inr ⟨w.heap.size,0,1,rfl,nLQ _,by unfold maxLen;omega,fun i hi=>?_⟩;obtain rfl:i=0:=by simp at hi;omega
 have h:=vat_new w (E.c x) t;simpa using h
def cellsG (E:Enc α)(L:List α):List Value:=L.flatMap E.c
theorem cellsG_len (L:List α):(cellsG E L).length=L.length*E.n:=by
 induction L with
 | nil=>simp[cellsG]
 | cons x r ih =>
   simp only[cellsG,List.flatMap_cons,List.length_append,List.length_cons,E.len] at *;rw[ih,Nat.add_mul];omega
theorem cellsG_app (L M:List α):cellsG E (L++M)=cellsG E L++cellsG E M:=by simp[cellsG]
theorem cellsG_one (x:α):cellsG E [x]=E.c x:=by simp[cellsG]
theorem cellsG_at (L:List α):∀(i:Nat) (h:i<L.length) (j:Nat),j<E.n→(cellsG E L)[i*E.n+j]?=(E.c L[i])[j]?:=by
 induction L with
 | nil=>intro i h;simp at h
 | cons x r ih =>
   intro i h j hj;cases i with
   | zero =>
     simp only[cellsG,List.flatMap_cons,Nat.zero_mul,Nat.zero_add,List.getElem_cons_zero];rw[List.getElem?_append_left (by rw[E.len];exact hj)]
   | succ i =>
     have:=ih i (by simpa using h) j hj;simp only[cellsG,List.flatMap_cons,List.getElem_cons_succ] at this ⊢;rw[List.getElem?_append_right (by rw[E.len,Nat.add_mul];omega),E.len];have e:(i+1)*E.n+j-E.n=i*E.n+j:=by rw[Nat.add_mul];omega
     rw[e];exact this
theorem cellsG_all (L:List α):∀u∈cellsG E L,u.oneCell'=true:=by
 intro u hu;simp only[cellsG,List.mem_flatMap] at hu;obtain⟨x,_,hx⟩:=hu;exact E.one x u hx
theorem own_GS {w:World}{B e:Nat}{v:Value}{L:List α}(h:w.ownsRow B e E.n v L.length (cellsG E L)):GS E w v L:=by
 rcases h.2 with ⟨rfl,h0⟩ | ⟨g,cap,cur,rfl,_,_,h1,h2,_⟩
 ·exact .inl ⟨none,0,rfl,List.length_eq_zero_iff.1 h0⟩
 refine .inr ⟨g,0,cap,rfl,h1,h2,fun i hi j u hu=>?_⟩;have hj:j<E.n:=by
  have:=(List.getElem?_eq_some_iff.1 hu).1;rw[E.len] at this;exact this
 have hlt:i*E.n+j<L.length*E.n:=by
  have:(i+1)*E.n≤L.length*E.n:=Nat.mul_le_mul_right _ hi;rw[Nat.add_mul] at this;omega
 rw[Nat.zero_add,h.cellAt _ hlt,cellsG_at L i hi j hj];exact hu
theorem GAt.cells {w:World}{g o:Nat}{M:List α}(h:GAt E w g o M):∀j u,(cellsG E M)[j]?=some u→w.cell? ((⟨g,o,none⟩:Addr).add j)=some u:=by
 intro j u hu;have hj:j<M.length*E.n:=by
  have:=(List.getElem?_eq_some_iff.1 hu).1;rw[cellsG_len] at this;exact this
 have hadd:(⟨g,o,none⟩:Addr).add j=⟨g,o+j,none⟩:=by
  simp only[Addr.add]
  first
   | rfl
   | (split
      ·next h0=>rw[h0];rfl
      rfl)
 have hi:j / E.n<M.length:=Nat.div_lt_of_lt_mul (by rw[Nat.mul_comm];exact hj);have hm:j % E.n<E.n:=Nat.mod_lt _ E.pos;have e:j / E.n*E.n+j % E.n=j:=by rw[Nat.mul_comm];exact Nat.div_add_mod _ _
 have h1:=cellsG_at (E:=E) M (j / E.n) hi (j % E.n) hm;rw[e,hu] at h1;have h2:=h (j / E.n) hi (j % E.n) u h1.symm;rw[Nat.add_assoc,e] at h2;rw[hadd];exact h2
end
section
variable {α:Type}
theorem any_nextG {L:List α}{f:α→Bool}{k:Nat}(hk:k<L.length)(h:(L.take k).any f=false)(h2:f L[k]=false):(L.take (k+1)).any f=false:=by
 rw[List.take_succ_eq_append_getElem hk];simp only[List.any_append,h,List.any_cons,List.any_nil,h2,Bool.or_false]
theorem any_hitG {L:List α}{f:α→Bool}{k:Nat}(hk:k<L.length)(h2:f L[k]=true):L.any f=true:=List.any_eq_true.2 ⟨_,List.getElem_mem hk,h2⟩
def ixG (f:α→Bool)(L:List α):Int:=if L.any f then (L.findIdx f:Int) else -1
theorem ixG_hit {L:List α}{f:α→Bool}{k:Nat}(hk:k<L.length)(h:(L.take k).any f=false)(h2:f L[k]=true):ixG f L=k:=by
 rw[ixG,any_hitG hk h2,if_pos rfl]
 congr 1
 rw[List.findIdx_eq hk];refine⟨h2,fun j hj=>?_⟩;rw[List.any_eq_false] at h;have:=h L[j] (by rw[List.mem_take_iff_getElem];exact⟨j,by omega,rfl⟩);simpa using this
theorem ixG_no {L:List α}{f:α→Bool}(h:L.any f=false):ixG f L = -1:=by simp[ixG,h]
theorem ixG_any (L:List α)(f:α→Bool):decide (0≤ixG f L)=L.any f:=by
 unfold ixG;cases L.any f
 ·simp
 simp
end
section
variable {α:Type}
end
section
variable {P:Program}{α:Type}{E:Enc α}
theorem run_append_none {w:World}(base:Nat)(t ty e:TypeId)(i:TypeInfo)(size cap2:Nat)(ht:P.underlying t=some (.slice e))(hi:P.info? e=some i)
 (v:Value) (n:Nat) (xs:List Value) (hown:w.ownsRow base e size v n xs):
 (Builtin.append_ #[t,t] ty #[v,.slice none 0 cap2]).run P w=.ok v w:=by
 rcases hown.2 with ⟨rfl,rfl⟩ | ⟨g,cap,cur,rfl,_,_,hnc,_⟩
 ·simp[Builtin.append_,run_underlying ht,sizeOf,typeInfo,hi,Builtin.lenOf,Builtin.firstCells]
 simp[Builtin.append_,run_underlying ht,sizeOf,typeInfo,hi,Builtin.lenOf,Builtin.firstCells,hnc,storeCells]
theorem wpList_append_GS (w:World){ops:Array Oper}{rest:List Oper}{o:Oper}{a:Act}{Q:Exit→Act→World→Prop}(hgd:o.guard=none)(s x:Operand)(t e:TypeId)
 (ho:o.op=.call { callee:=.builtin .append,args:=#[s,x],argTypes:=#[t,t] }) (ht:P.underlying t=some (.slice e)) (i:TypeInfo) (z:Value) (bytes:Nat) (hi:P.info? e=some i) (hz:i.zero=some z)
 (hsize:i.size=E.n) (hby:i.bytes=bytes) (hzs:z.cells.size=E.n) (base:Nat)
 (v:Value) (hs:a.eval s=v) (L:List α) (hown:w.ownsRow base e E.n v L.length (cellsG E L)) (u:Value) (hx:a.eval x=u) (M:List α) (hM:GS E w u M)
 (h63:L.length+M.length≤maxLen) (hbytes:(L.length+M.length)*bytes≤140737488355328) (hbase:base≤w.heap.size)
 (h:∀v' w',w'.ownsRow base e E.n v' (L++M).length (cellsG E (L++M))→w.grownBy w' v.ownBlock→wpList P ops Q rest (a.put o.dst v') w'):wpList P ops Q (o :: rest) a w:=by
 have key:∀(ad:Addr) (m c:Nat) (news:List Value),a.eval x=.slice (some ad) m c→news.length=m*E.n→(∀j u,news[j]?=some u→w.cell? (ad.add j)=some u)→(∀u∈news,u.oneCell'=true)→m=M.length→news=cellsG E M→wpList P ops Q (o :: rest) a w:=by
  intro ad m c news e1 e2 e3 e4 e5 e6;refine wpList_append_own w hgd s x t ho base e i z E.n bytes ht hi hz hsize hby hzs E.pos v _ _ hs hown ad m c news e1 e2 e3 e4 (by rw[e5];exact h63) (by rw[e5];exact hbytes) hbase ?_;intro v' w' h1 h2 _;refine h v' w' ?_ h2;rw[List.length_append,cellsG_app,←e5,←e6];exact h1
 rcases hM with ⟨ao,cap,rfl,rfl⟩ | ⟨g,q,cap,rfl,h1,h2,h3⟩
 ·cases ao with
  | none =>
    refine wpList_plain hgd fun K hK=>?_
    have hrun:=run_append_none (P:=P) (w:=w) base t o.type e i E.n cap ht hi v _ _ hown;unfold Oper.wp;simp[execOp,ho,resolve,invoke,builtin,hs,hx,hrun,Result.andThen];exact hK _ _ (h v w (by rw[List.append_nil];exact hown) ⟨rfl,rfl,rfl,nLQ _,fun _ _ _=>rfl⟩)
  | some ad=>exact key ad 0 cap [] hx (by simp) (by intro j u hu;simp at hu) (by intro u hu;cases hu) rfl rfl
 exact key ⟨g,q,none⟩ M.length cap (cellsG E M) hx (cellsG_len M) h3.cells (cellsG_all M) rfl rfl
theorem gs_of {H:Type}{enc:TypeId×Value→H}{W:World}{base:Nat}{v:Value}{d:DataW H}{p:List MemPlace}(ts te:TypeId)(hu:P.underlying ts=some (.slice te))(hC:P.cellsOf te=E.n)(x0:α)
 (hel:∀(n:Nat) (cs:List Value) (x:DataW H×List MemPlace),DataW.trod enc P W 0 (fun _=>true) true n te cs=some x→∃y,cs=E.c y)
 (hv:Value.okWide P W .any base ts v) (h:DataW.Trod enc P W 0 (fun _=>true) true ts v d p):∃L,GS E W v L:=by
 obtain⟨a0,len0,cap0,rfl⟩:=okWide_slice hu hv;obtain⟨fuel,hf⟩:=h;have hf2:DataW.trod enc P W 0 (fun _=>true) true fuel ts [.slice a0 len0 cap0]=some (d,p):=hf
 rcases Go.Deep.open_slice hu hf2 with ⟨hc,hx⟩ | ⟨a,len,cap,m,k,D,Pl,hc,_,hl,hm,hmm,hx,hall⟩
 ·simp only[List.cons.injEq,and_true,Value.slice.injEq] at hc;obtain⟨rfl,rfl,rfl⟩:=hc;exact⟨[],.inl ⟨none,0,rfl,rfl⟩⟩
 simp only[List.cons.injEq,and_true,Value.slice.injEq] at hc;obtain⟨rfl,rfl,rfl⟩:=hc;simp only[if_true] at hmm;subst hmm
 rcases Nat.eq_zero_or_pos len0 with h0 | h0
 ·subst h0;exact⟨[],.inl ⟨_,_,rfl,rfl⟩⟩
 have each:∀i,i<m→∃y:α,∀j,j<E.n→W.cell? (a.add (i*E.n+j))=(E.c y)[j]?:=by
  intro i hi;obtain⟨cs,h1,h2⟩:=hall i hi;rw[hC] at h1;obtain⟨_,hlen,hcell⟩:=World.cells?_some h1;obtain⟨y,rfl⟩:=hel _ _ _ h2;refine⟨y,fun j hj=>?_⟩;have:=hcell j (by omega);rw[Go.Deep.add_add] at this;exact this
 have iR:Inhabited α:=⟨x0⟩;obtain⟨R,hR⟩:=Go.Deep.choose_lt each;obtain⟨sb,so,spot⟩:=a;have hspot:spot=none:=by
  have h1:=hR 0 (by omega) 0 E.pos;have h2:(E.c (R 0))[0]?.isSome=true:=by
   rw[List.getElem?_eq_getElem (by rw[E.len];exact E.pos)];rfl
  obtain⟨u,hu2⟩:=Option.isSome_iff_exists.1 h2;rw[hu2] at h1;simpa[Addr.add] using World.cell?_spot h1
 subst hspot;have hadd:∀j,(⟨sb,so,none⟩:Addr).add j=⟨sb,so+j,none⟩:=by
  intro j;simp only[Addr.add]
  first
   | rfl
   | (split
      ·next h0=>rw[h0];rfl
      rfl)
 refine⟨(List.range len0).map R,.inr ⟨sb,so,_,by simp,by simpa using hl,hm,fun i hi j u hu2=>?_⟩⟩;have hi2:i<len0:=by simpa using hi
 have e:((List.range len0).map R)[i]=R i:=by simp
 rw[e] at hu2;have hj:j<E.n:=by
  have:=(List.getElem?_eq_some_iff.1 hu2).1;rw[E.len] at this;exact this
 have hc:=hR i (by omega) j hj;rw[hadd,hu2,←Nat.add_assoc] at hc;exact hc
end
end
section
open Go.RowKit
theorem at_ix (Hs:HoQ)(s:Int×Int):(ixG (fun h=>sq h.2 s) Hs = -1∧atO Hs s=none)∨∃(k:Nat) (hk:k<Hs.length),ixG (fun h=>sq h.2 s) Hs=k∧atO Hs s=some Hs[k].1:=by
 induction Hs with
 | nil=>exact .inl ⟨rfl,rfl⟩
 | cons h Hs ih =>
   rw[atO];by_cases e:sq h.2 s=true
   ·refine .inr ⟨0,by simp,?_,?_⟩
    ·exact ixG_hit (L:=h :: Hs) (k:=0) (by simp) (by simp) e
    have e2:=(sq_iff _ _).1 e;rw[if_pos (by rw[e2];exact beq_self_eq_true _)];rfl
   have en:¬(h.2==s)=true:=fun h2=>e ((sq_iff _ _).2 (by simpa using h2))
   rw[if_neg en];have ef:sq h.2 s=false:=by simpa using e
   rcases ih with ⟨h1,h2⟩ | ⟨k,hk,h1,h2⟩
   ·refine .inl ⟨?_,h2⟩;unfold ixG at h1 ⊢;rw[List.any_cons,ef,Bool.false_or];cases ha:Hs.any fun h=>sq h.2 s
    ·rfl
    rw[ha,if_pos rfl] at h1;omega
   refine .inr ⟨k+1,by simp;omega,?_,by simpa using h2⟩;unfold ixG at h1 ⊢;rw[List.any_cons,ef,Bool.false_or];cases ha:Hs.any fun h=>sq h.2 s
   ·rw[ha] at h1;simp at h1
   rw[ha,if_pos rfl] at h1;rw[if_pos rfl,List.findIdx_cons,ef];simp;omega
theorem where_ix (Hs:HoQ)(n:ByteArray):(ixG (fun h=>h.1==n) Hs = -1∧whereO Hs n=none)∨∃(k:Nat) (hk:k<Hs.length),ixG (fun h=>h.1==n) Hs=k∧whereO Hs n=some Hs[k].2:=by
 induction Hs with
 | nil=>exact .inl ⟨rfl,rfl⟩
 | cons h Hs ih =>
   rw[whereO];by_cases e:(h.1==n)=true
   ·refine .inr ⟨0,by simp,?_,?_⟩
    ·exact ixG_hit (L:=h :: Hs) (k:=0) (by simp) (by simp) e
    rw[if_pos e];rfl
   rw[if_neg e];have ef:(h.1==n)=false:=by
    cases hh:(h.1==n)
    ·rfl
    exact absurd hh e
   rcases ih with ⟨h1,h2⟩ | ⟨k,hk,h1,h2⟩
   ·refine .inl ⟨?_,h2⟩;unfold ixG at h1 ⊢;rw[List.any_cons,ef,Bool.false_or];cases ha:Hs.any fun h=>h.1==n
    ·rfl
    rw[ha,if_pos rfl] at h1;omega
   refine .inr ⟨k+1,by simp;omega,?_,by simpa using h2⟩;unfold ixG at h1 ⊢;rw[List.any_cons,ef,Bool.false_or];cases ha:Hs.any fun h=>h.1==n
   ·rw[ha] at h1;simp at h1
   rw[ha,if_pos rfl] at h1;rw[if_pos rfl,List.findIdx_cons,ef];simp;omega
theorem peer_app (l:(Int×Int)×(Int×Int))(s:Int×Int):∀Ls:LkQ,peerO (Ls++[l]) s=match peerO Ls s with | some p=>some p | none=>if l.1==s then some l.2 else if l.2==s then some l.1 else none
 | []=>by simp[peerO]
 | x :: Ls=>by
   rw[List.cons_append,peerO,peerO];by_cases h1:(x.1==s)=true
   ·rw[if_pos h1,if_pos h1]
   rw[if_neg h1,if_neg h1];by_cases h2:(x.2==s)=true
   ·rw[if_pos h2,if_pos h2]
   rw[if_neg h2,if_neg h2];exact peer_app l s Ls
def PM (M Ls:LkQ):Prop:=∀s,mget sq s M=peerO Ls s
theorem pm_nil:PM [] []:=fun s=>rfl
theorem pm_put {M Ls:LkQ}{x y:Int×Int}(h:PM M Ls)(hd:(spsL (Ls++[(x,y)])).Nodup):PM (mput sq y x (mput sq x y M)) (Ls++[(x,y)]):=by
 have e:spsL (Ls++[(x,y)])=spsL Ls++[x,y]:=by simp[spsL]
 rw[e,List.nodup_append] at hd;obtain⟨_,h2,h3⟩:=hd;have hxy:¬x=y:=by simpa using h2
 have hno:∀z,z=x∨z=y→peerO Ls z=none:=by
  intro z hz;cases hp:peerO Ls z with
  | none=>rfl
  | some p=>exact absurd rfl (h3 z (peer_in hp).1 z (by rcases hz with rfl | rfl <;> simp))
 intro s;rw[mget_put sq_iff,mget_put sq_iff,peer_app];by_cases e1:s=y
 ·subst e1;rw[if_pos ((sq_iff _ _).2 rfl),hno s (.inr rfl)];simp[hxy]
 rw[if_neg (fun e=>e1 ((sq_iff _ _).1 e))];by_cases e2:s=x
 ·subst e2;rw[if_pos ((sq_iff _ _).2 rfl),hno s (.inl rfl)];simp
 rw[if_neg (fun e=>e2 ((sq_iff _ _).1 e)),h s];cases hp:peerO Ls s with
 | some p=>rfl
 | none =>
   have n1:¬x=s:=fun e=>e2 e.symm
   have n2:¬y=s:=fun e=>e1 e.symm
   simp[n1,n2]
theorem sps_app (Ls Ms:LkQ):spsL (Ls++Ms)=spsL Ls++spsL Ms:=by simp[spsL]
theorem sps_nd {Ls:LkQ}(h:(spsL Ls).Nodup)(k:Nat):(spsL (Ls.take k)).Nodup:=by
 have e:Ls=Ls.take k++Ls.drop k:=(List.take_append_drop k Ls).symm;rw[e,sps_app,List.nodup_append] at h;exact h.1
def swB (S a:Int):Bool:=decide (1≤a)&&decide (a≤S)
def weN (S:Int)(Ls:LkQ)(Hs:HoQ)(n:ByteArray):Int:=if tpN S Ls Hs=0 then (if (whereO Hs n).isSome then 0 else 5) else tpN S Ls Hs
def weV (S:Int)(Ls:LkQ)(Hs:HoQ)(n:ByteArray):Int×Int:=if weN S Ls Hs n=0 then (whereO Hs n).getD (0,0) else (0,0)
theorem sw_of {S a:Int}:swB S a=true↔1≤a∧a≤S:=by simp[swB]
theorem isSwitch_any (S a:Int)(w:World):
 Calls prog 21 #[.int i64 S,.int i64 a] w fun e w'=>e=.returned (.bool (swB S a))∧Below w.heap.size w w':=by
 by_cases h1:1≤a
 ·by_cases h2:a≤S
  ·have e:swB S a=true:=sw_of.2 ⟨h1,h2⟩;rw[e];clear e;go_enter func21,ntmps21;go_wp2;go_ret;exact⟨rfl,bRQ _ _⟩
  have e:swB S a=false:=by simp[swB,h2]
  rw[e];clear e;go_enter func21,ntmps21;go_wp2;go_ret;exact⟨rfl,bRQ _ _⟩
 have e:swB S a=false:=by simp[swB,h1]
 rw[e];clear e;go_enter func21,ntmps21;go_wp2;go_ret;exact⟨rfl,bRQ _ _⟩
theorem isSpot_any (S x y:Int)(w:World):
 Calls prog 104 #[.int i64 S,.agg #[.int i64 x,.int i64 y]] w fun e w'=>e=.returned (.bool (spB S (x,y)))∧Below w.heap.size w w':=by
 have HB0:Hid (Below w.heap.size w (w.alloc (.cells #[.int i64 x,.int i64 y] 65))):=(bRQ _ _).alloc (nLQ _) _;have hlt:w.heap.size<(w.alloc (.cells #[.int i64 x,.int i64 y] 65)).heap.size:=by simp
 have c0:(w.alloc (.cells #[.int i64 x,.int i64 y] 65)).cell? ⟨w.heap.size,0,none⟩=some (.int i64 x):=by simp
 have c1:(w.alloc (.cells #[.int i64 x,.int i64 y] 65)).cell? ⟨w.heap.size,1,none⟩=some (.int i64 y):=by simp
 cases hs:swB S x
 ·have e:spB S (x,y)=false:=by
   cases h:spB S (x,y)
   ·rfl
   have:=sp_of h;have h2:=sw_of.2 ⟨this.1,this.2.1⟩;rw[hs] at h2;cases h2
  rw[e];clear e;go_enter func104,ntmps104
  go_wp2_with fail
  refine (isSwitch_any S x _).mono ?_;rintro e w1 ⟨rfl,hb1⟩;rw[hs];have HB1:Hid (Below w.heap.size w w1):=HB0.out.trans (hb1.mono HB0.out.size);clear hb1 c0 c1;go_wp2;go_ret;exact⟨rfl,HB1.out⟩
 have hw:=sw_of.1 hs;have e:spB S (x,y)=(decide (1≤y)&&decide (y≤4)):=by simp[spB,hw.1,hw.2]
 rw[e];clear e hw;have walk:∀r:Bool,r=(decide (1≤y)&&decide (y≤4))→Calls prog 104 #[.int i64 S,.agg #[.int i64 x,.int i64 y]] w fun e w'=>e=.returned (.bool r)∧Below w.heap.size w w':=by
  intro r hr;by_cases h1:1≤y
  ·by_cases h2:y≤4
   ·have e:r=true:=by rw[hr];simp[h1,h2]
    subst e;clear hr;go_enter func104,ntmps104
    go_wp2_with fail
    refine (isSwitch_any S x _).mono ?_;rintro e w1 ⟨rfl,hb1⟩;rw[hs];have HB1:Hid (Below w.heap.size w w1):=HB0.out.trans (hb1.mono HB0.out.size);have d1:=cell_later hb1 c1;clear hb1 c0 c1;go_wp2;go_ret;exact⟨rfl,HB1.out⟩
   have e:r=false:=by rw[hr];simp[h2]
   subst e;clear hr;go_enter func104,ntmps104
   go_wp2_with fail
   refine (isSwitch_any S x _).mono ?_;rintro e w1 ⟨rfl,hb1⟩;rw[hs];have HB1:Hid (Below w.heap.size w w1):=HB0.out.trans (hb1.mono HB0.out.size);have d1:=cell_later hb1 c1;have hd:decide (y≤4)=false:=by simp[h2]
   clear hb1 c0 c1;go_wp2;go_ret;exact⟨by first | rfl | simp[h2],HB1.out⟩
  have e:r=false:=by rw[hr];simp[h1]
  subst e;clear hr;go_enter func104,ntmps104
  go_wp2_with fail
  refine (isSwitch_any S x _).mono ?_;rintro e w1 ⟨rfl,hb1⟩;rw[hs];have HB1:Hid (Below w.heap.size w w1):=HB0.out.trans (hb1.mono HB0.out.size);have d1:=cell_later hb1 c1;clear hb1 c0 c1;go_wp2;go_ret;exact⟨rfl,HB1.out⟩
 exact walk _ rfl
theorem spotEq (a b c d:Int)(w:World):(Op.equal 65 (.agg #[.int i64 a,.int i64 b]) (.agg #[.int i64 c,.int i64 d])).run prog w=.ok (a==c&&b==d) w:=by
 unfold Op.equal Op.maxDepth;rw[run_equalIn_struct w 9999 _ _ _ (by kernel_rfl) (by kernel_rfl)];cases h1:(a==c)
 ·go_simp
 cases h2:(b==d)
 ·go_simp
 go_simp
theorem spotCheck (e:Bool)(a b:Int)(w:World):(Instr.checkKey e 10000 65 (.agg #[.int i64 a,.int i64 b])).run prog w=.ok () w:=by
 have h:∀(x:Int) (w:World),(Instr.checkKey e 9999 3 (.int i64 x)).run prog w=.ok () w:=fun x w=>Go.MapKept.run_checkKey underlying3 (by simp[Go.MapKept.IsKey]) e 9998
 rw[Instr.checkKey];go_simp
def spotKey:KeyE prog 65 (Int×Int):=
 KeyE.ask (fun k=>.agg #[.int i64 k.1,.int i64 k.2]) sq sq_iff (fun e k w=>spotCheck e k.1 k.2 w) _ (show Tryz.prog.underlying 65=some (.struct (Tryz.prog.fieldsOf 65)) by kernel_rfl) (fun a b=>rfl) (fun a b w=>spotEq a.1 a.2 b.1 b.2 w) (fun k=>by simp[Instr.sameBits])
def intKey:KeyE prog 3 Int:=
 KeyE.now (fun k=>.int i64 k) qI qI_iff (fun e k w=>Go.MapKept.run_checkKey underlying3 (by simp[Go.MapKept.IsKey]) e 9999) _ underlying3 (fun a b=>by simp[Instr.sameNow,qI]) (fun k=>by simp[Instr.sameBits])
def strKey:KeyE prog 9 ByteArray:=
 KeyE.now (fun k=>.string k) (fun a b=>a==b) ba_iff (fun e k w=>Go.MapKept.run_checkKey underlying9 (by simp[Go.MapKept.IsKey]) e 9999) _ underlying9 (fun a b=>by simp[Instr.sameNow,beq_toListBytes]) (fun k=>by simp[Instr.sameBits,(ba_iff k k).2 rfl])
def veI (n:Int):Value:=.int i64 n
section
variable {P:Program}{K:TypeId}{κ:Type}{E:KeyE P K κ}{w:World}{ops:Array Oper}{rest:List Oper}{o:Oper}{a:Act}{Q:Exit→Act→World→Prop}
theorem getV_I {o:Option Int}:getV veI (.int i64 0) o=.int i64 (o.getD 0):=by cases o <;> rfl
theorem run_lookup_TK {B:Nat}{M:List (κ×Int)}{U:List κ}(h:MAt E veI w B M)(hT:TK E.q M U)(t e:TypeId)(ht:P.underlying t=some (.map K e))(hz:∀w,(zeroValue e).run P w=.ok (.int i64 0) w)(k:κ):
 (Instr.lookup t (.map (some B)) (E.c k) false).run P w=.ok (.int i64 (ctM E.q k U:Int)) w:=by
 rw[run_lookup_M h t e ht _ hz k false,getV_I,hT k];rfl
end
end
section
def noV (n:Int):Value:=if n=0 then .nilIface else .iface 81 (.int i64 n)
theorem no_ok {n:Int}(h:n=0):noV n=.nilIface:=by simp[noV,h]
theorem no_ne {n:Int}(h:n≠0):noV n=.iface 81 (.int i64 n):=by simp[noV,h]
end
section
open Go.ChangeShapes Go.WideShapes Go.ChangeAt Go.RowKit Go.Joins
def spoE:Enc (Int×Int) where
 c:=fun x=>[.int i64 x.1,.int i64 x.2]
 n:=2
 len:=fun _=>rfl
 pos:=by decide
 one:=by
  intro x u hu;simp at hu
  rcases hu with rfl | rfl <;> rfl
theorem spo_open {H:Type}{enc:TypeId×Value→H}{W:World}{n:Nat}{cs:List Value}{x:DataW H×List MemPlace}
 (h:DataW.trod enc prog W 0 (fun _=>true) true n 65 cs=some x):∃y,cs=spoE.c y:=by
 obtain⟨xs,k,_,_,hl,hlen,hf⟩:=DataW.trod_struct underlying65 h;have hC:Tryz.prog.cellsOf 65=2:=by kernel_rfl
 have hT0:Tryz.prog.cellsOf 3=1:=by kernel_rfl
 rw[hC] at hl
 match cs,hl with
 | [c0,c1],_ =>
   match xs,hlen with
   | [z0,z1],_ =>
     have g0:=hf 0 _ rfl;have g1:=hf 1 _ rfl;simp[hT0] at g0 g1;obtain⟨v0,e0,_,_⟩:=DataW.trod_int underlying3 g0;obtain⟨v1,e1,_,_⟩:=DataW.trod_int underlying3 g1;simp[] at e0 e1;refine⟨(v0,v1),?_⟩;simp[spoE,e0,e1]
def lnkE:Enc ((Int×Int)×(Int×Int)) where
 c:=fun x=>[.int i64 x.1.1,.int i64 x.1.2,.int i64 x.2.1,.int i64 x.2.2]
 n:=4
 len:=fun _=>rfl
 pos:=by decide
 one:=by
  intro x u hu;simp at hu
  rcases hu with rfl | rfl | rfl | rfl <;> rfl
theorem lnk_cells {w:World}{g o:Nat}{x0 x1 x2 x3:Int}(h:VAt w g o (lnkE.c ((x0,x1),(x2,x3)))):w.cell? ⟨g,o,none⟩=some (.int i64 x0)∧w.cell? ⟨g,o+1,none⟩=some (.int i64 x1)∧w.cell? ⟨g,o+2,none⟩=some (.int i64 x2)∧w.cell? ⟨g,o+3,none⟩=some (.int i64 x3):=
 ⟨h 0 _ rfl,h 1 _ rfl,h 2 _ rfl,h 3 _ rfl⟩
theorem lnk_at {w:World}{g o:Nat}{L:LkQ}(h:GAt lnkE w g o L){n k:Nat}(hn:L.length=n)(hk:k<n):
 ∃(x0:Int) (x1:Int) (x2:Int) (x3:Int) (hl:k<L.length),L[k]=((x0,x1),(x2,x3))∧w.cell? ⟨g,o+k*4,none⟩=some (.int i64 x0)∧w.cell? ⟨g,o+k*4+1,none⟩=some (.int i64 x1)∧w.cell? ⟨g,o+k*4+2,none⟩=some (.int i64 x2)∧w.cell? ⟨g,o+k*4+3,none⟩=some (.int i64 x3):=
 have hl:k<L.length:=by omega
 ⟨_,_,_,_,hl,rfl,lnk_cells (h k hl)⟩
theorem lnk_new (w:World)(x0 x1 x2 x3:Int)(t:TypeId):VAt (w.alloc (.cells #[.int i64 x0,.int i64 x1,.int i64 x2,.int i64 x3] t)) w.heap.size 0 (lnkE.c ((x0,x1),(x2,x3))):=vat_new w [.int i64 x0,.int i64 x1,.int i64 x2,.int i64 x3] t
theorem lnk_info:(Tryz.prog.info? 134).map (fun i=>(i.zero,i.size,i.bytes))=some (some (.agg #[.int i64 0,.int i64 0,.int i64 0,.int i64 0]),4,32):=by kernel_rfl
theorem lnk_zero:(Value.agg #[.int i64 0,.int i64 0,.int i64 0,.int i64 0]).cells.size=4:=by simp[Value.cells]
theorem lnk_open {H:Type}{enc:TypeId×Value→H}{W:World}{n:Nat}{cs:List Value}{x:DataW H×List MemPlace}
 (h:DataW.trod enc prog W 0 (fun _=>true) true n 134 cs=some x):∃y,cs=lnkE.c y:=by
 obtain⟨xs,k,_,_,hl,hlen,hf⟩:=DataW.trod_struct underlying134 h;have hC:Tryz.prog.cellsOf 134=4:=by kernel_rfl
 have hT0:Tryz.prog.cellsOf 65=2:=by kernel_rfl
 rw[hC] at hl
 match cs,hl with
 | [c0,c1,c2,c3],_ =>
   match xs,hlen with
   | [z0,z1],_ =>
     have g0:=hf 0 _ rfl;have g1:=hf 1 _ rfl;simp[hT0] at g0 g1;obtain⟨s0,e0⟩:=spo_open g0;obtain⟨s1,e1⟩:=spo_open g1;simp[spoE] at e0 e1;refine⟨((s0.1,s0.2),(s1.1,s1.2)),?_⟩;simp[lnkE,e0,e1]
end
section
open Go.RowKit
def LayQ (w w':World)(B:Nat)(N:Int)(V:List (Int×Int)):Prop:=∃M',MAt spotKey veI w' B M'∧(N=0→TK sq M' V)∧But [B] w w'
theorem lay_ok (S x0 x1 x2 x3:Int)(B:Nat)(M:HpQ)(U:List (Int×Int))(w:World)(hM:MAt spotKey veI w B M)(hT:TK sq M U)(hU:U.length≤1000)(ha:spB S (x0,x1)=true)(hb:spB S (x2,x3)=true)(N:Int)(hN:N=lk1 S U ((x0,x1),(x2,x3))):
 Calls prog 83 #[.int i64 S,.map (some B),.agg #[.int i64 x0,.int i64 x1,.int i64 x2,.int i64 x3]] w fun e w'=>e=.returned (noV N)∧LayQ w w' B N (U++[(x0,x1),(x2,x3)]):=by
 have hlt:=hM.lt;have HN:Hid (N=lk1 S U ((x0,x1),(x2,x3))):=hN;have hB0:Below w.heap.size w (w.alloc (.cells #[.int i64 x0,.int i64 x1,.int i64 x2,.int i64 x3] 134)):=(bRQ _ _).alloc (nLQ _) _;have HB0:Hid (Below w.heap.size w (w.alloc (.cells #[.int i64 x0,.int i64 x1,.int i64 x2,.int i64 x3] 134))):=hB0;have HC:=lnk_new w x0 x1 x2 x3 134;have HM0:Hid (MAt spotKey veI w B M):=hM;have HT:Hid (TK sq M U):=hT;have hne:¬w.heap.size=B:=by omega
 clear hM hT hN hB0;go_enter func83,ntmps83
 go_wp2_with fail
 refine (isSpot_any S x0 x1 _).mono ?_;rintro e w1 ⟨rfl,hb1⟩;rw[ha];have HB1:Hid (Below w.heap.size w w1):=HB0.out.trans (hb1.mono HB0.out.size);have HC1:=HC.later hb1;obtain⟨c0,c1,c2,c3⟩:=lnk_cells HC1;simp only[Nat.zero_add] at c0 c1 c2 c3;clear hb1
 go_wp2_with fail
 refine (isSpot_any S x2 x3 _).mono ?_;rintro e w2 ⟨rfl,hb2⟩;rw[hb];have HB2:Hid (Below w.heap.size w w2):=HB1.out.trans (hb2.mono HB1.out.size);have HC2:Hid (VAt w2 w.heap.size 0 (lnkE.c ((x0,x1),(x2,x3)))):=HC1.later hb2;have d0:=cell_later hb2 c0;have d1:=cell_later hb2 c1;have d2:=cell_later hb2 c2;have d3:=cell_later hb2 c3;have HM2:Hid (MAt spotKey veI w2 B M):=(HM0.out.later HB2.out);clear hb2 HC1 HC c0 c1 c2 c3 HB1 HB0;go_upto_region 3 with fail;obtain⟨cA,hcA⟩:∃cA:Int,cA=(ctM sq (x0,x1) U:Int):=⟨_,rfl⟩;have HcA:Hid (cA=(ctM sq (x0,x1) U:Int)):=hcA;have hcw:IntKind.i64.wrap (cA+1)=cA+1:=by
  have h1:=ct_le (q:=sq) (x0,x1) U;exact wrap_small (by omega) (by omega)
 clear hcA
 go_cut [] from 20 to 26 (fun w'=>∃M1,MAt spotKey veI w' B M1∧TK sq M1 (U++[(x0,x1)])∧But [B] w2 w')
 case first =>
  have hMd:MAt spotKey veI w2.drew B M:=HM2.out;obtain⟨v0,st,w3,hE,hg3,hM3,hS3⟩:=run_entry_M hMd 168 3 underlying168 0 (fun w=>by kernel_rfl) (x0,x1);obtain⟨w4,hSt,hM4,hg4⟩:=hS3 w3 (cA+1) rfl;have hTK4:Hid (TK sq (mput sq (x0,x1) (cA+1) M) (U++[(x0,x1)])):=by
   show TK _ _ _;rw[HcA.out];exact tk_put sq_iff HT.out _
  have HM4:Hid (MAt spotKey veI w4 B (mput sq (x0,x1) (cA+1) M)):=hM4;have HBt:Hid (But [B] w2 w4):=((But.refl [B] w2).drew.trans (But.of_grown hg3 (by simp))).trans (But.of_grown hg4 (by simp));have hl2:(Instr.lookup 168 (.map (some B)) (.agg #[.int i64 x0,.int i64 x1]) false).run prog w2.drew=.ok (.int i64 cA) w2.drew:=by
   rw[HcA.out];exact run_lookup_TK hMd HT.out 168 3 underlying168 (fun w=>by kernel_rfl) (x0,x1)
  have hl3:(Instr.lookup 168 (.map (some B)) (.agg #[.int i64 x0,.int i64 x1]) false).run prog w3=.ok (.int i64 cA) w3:=by
   have h:=run_lookup_M hM3 168 3 underlying168 (.int i64 0) (fun w=>by kernel_rfl) (x0,x1) false;have e:mget spotKey.q (x0,x1) (mput spotKey.q (x0,x1) ((mget spotKey.q (x0,x1) M).getD 0) M)=some cA:=by
    rw[mget_put spotKey.qeq,if_pos ((spotKey.qeq _ _).2 rfl),HcA.out];exact congrArg some (HT.out (x0,x1))
   rw[e] at h;exact h
  have h1:(Instr.mapEntry 168 (.map (some B)) (.agg #[.int i64 x0,.int i64 x1])).run prog w2.drew=.ok (.tuple #[v0,.int i64 (st:Int)]) w3:=hE;have h3:(Instr.entryStore 168 (.map (some B)) (.int i64 (st:Int)) (.int i64 (cA+1))).run prog w3=.ok () w4:=hSt;clear hE hS3 hSt hM3 hM4 hg3 hg4 hMd
  go_region
  go_wp2_with fail
  go_meet
  case rel=>exact⟨_,HM4.out,hTK4.out,HBt.out⟩
 case rest =>
  obtain⟨M1,hM1,hT1,hBt1⟩:=hcut;obtain⟨w5,hw5⟩:∃x,x=wc:=⟨_,rfl⟩;subst hw5;have hnB:w.heap.size ∉ [B]:=by simp[hne]
  have hl2:w.heap.size<w2.heap.size:=bLQ _ _ d0;have e0:=(hBt1.cell (p:=⟨w.heap.size,0,none⟩) hl2 hnB).trans d0;have e1:=(hBt1.cell (p:=⟨w.heap.size,1,none⟩) hl2 hnB).trans d1;have e2:=(hBt1.cell (p:=⟨w.heap.size,2,none⟩) hl2 hnB).trans d2;have e3:=(hBt1.cell (p:=⟨w.heap.size,3,none⟩) hl2 hnB).trans d3;have HM5:Hid (MAt spotKey veI w5 B M1):=hM1;have HT5:Hid (TK sq M1 (U++[(x0,x1)])):=hT1;have HBt5:Hid (But [B] w w5):=(But.of_below (HB2.out)).trans hBt1;clear hM1 hT1 hBt1 d0 d1 d2 d3 HM2 HC2 hcw HcA hnB hl2;obtain⟨cB,hcB⟩:∃cB:Int,cB=(ctM sq (x2,x3) (U++[(x0,x1)]):Int):=⟨_,rfl⟩;have HcB:Hid (cB=(ctM sq (x2,x3) (U++[(x0,x1)]):Int)):=hcB;have hcw:IntKind.i64.wrap (cB+1)=cB+1:=by
   have h1:=ct_le (q:=sq) (x2,x3) (U++[(x0,x1)]);simp only[List.length_append,List.length_singleton] at h1;exact wrap_small (by omega) (by omega)
  clear hcB;go_upto_region 4 with fail
  go_cut [] from 27 to 33 (fun w'=>∃M2,MAt spotKey veI w' B M2∧TK sq M2 (U++[(x0,x1)]++[(x2,x3)])∧But [B] w5 w')
  case first =>
   have hMd:MAt spotKey veI w5.drew B M1:=HM5.out;obtain⟨v0,st,w3,hE,hg3,hM3,hS3⟩:=run_entry_M hMd 168 3 underlying168 0 (fun w=>by kernel_rfl) (x2,x3);obtain⟨w4,hSt,hM4,hg4⟩:=hS3 w3 (cB+1) rfl;have hTK4:Hid (TK sq (mput sq (x2,x3) (cB+1) M1) (U++[(x0,x1)]++[(x2,x3)])):=by
    show TK _ _ _;rw[HcB.out];exact tk_put sq_iff HT5.out _
   have HM4:Hid (MAt spotKey veI w4 B (mput sq (x2,x3) (cB+1) M1)):=hM4;have HBt:Hid (But [B] w5 w4):=((But.refl [B] w5).drew.trans (But.of_grown hg3 (by simp))).trans (But.of_grown hg4 (by simp));have hl2:(Instr.lookup 168 (.map (some B)) (.agg #[.int i64 x2,.int i64 x3]) false).run prog w5.drew=.ok (.int i64 cB) w5.drew:=by
    rw[HcB.out];exact run_lookup_TK hMd HT5.out 168 3 underlying168 (fun w=>by kernel_rfl) (x2,x3)
   have hl3:(Instr.lookup 168 (.map (some B)) (.agg #[.int i64 x2,.int i64 x3]) false).run prog w3=.ok (.int i64 cB) w3:=by
    have h:=run_lookup_M hM3 168 3 underlying168 (.int i64 0) (fun w=>by kernel_rfl) (x2,x3) false;have e:mget spotKey.q (x2,x3) (mput spotKey.q (x2,x3) ((mget spotKey.q (x2,x3) M1).getD 0) M1)=some cB:=by
     rw[mget_put spotKey.qeq,if_pos ((spotKey.qeq _ _).2 rfl),HcB.out];exact congrArg some (HT5.out (x2,x3))
    rw[e] at h;exact h
   have h1:(Instr.mapEntry 168 (.map (some B)) (.agg #[.int i64 x2,.int i64 x3])).run prog w5.drew=.ok (.tuple #[v0,.int i64 (st:Int)]) w3:=hE;have h3:(Instr.entryStore 168 (.map (some B)) (.int i64 (st:Int)) (.int i64 (cB+1))).run prog w3=.ok () w4:=hSt;clear hE hS3 hSt hM3 hM4 hg3 hg4 hMd
   go_region
   go_wp2_with fail
   go_meet
   case rel=>exact⟨_,HM4.out,hTK4.out,HBt.out⟩
  case rest =>
   obtain⟨M2,hM2,hT2,hBt2⟩:=hcut;have hnB:w.heap.size ∉ [B]:=by simp[hne]
   have hl2:w.heap.size<w5.heap.size:=bLQ _ _ e0;have f0:=(hBt2.cell (p:=⟨w.heap.size,0,none⟩) hl2 hnB).trans e0;have f1:=(hBt2.cell (p:=⟨w.heap.size,1,none⟩) hl2 hnB).trans e1;have f2:=(hBt2.cell (p:=⟨w.heap.size,2,none⟩) hl2 hnB).trans e2;have f3:=(hBt2.cell (p:=⟨w.heap.size,3,none⟩) hl2 hnB).trans e3;have HM6:Hid (MAt spotKey veI wc B M2):=hM2;have HT6:Hid (TK sq M2 (U++[(x0,x1),(x2,x3)])):=by
    show TK _ _ _;simpa using hT2
   have HBt6:Hid (But [B] w wc):=HBt5.out.trans hBt2;obtain⟨pA,hpA⟩:∃p:Int,p=(ctM sq (x0,x1) (U++[(x0,x1)]++[(x2,x3)]):Int):=⟨_,rfl⟩;obtain⟨pB,hpB⟩:∃p:Int,p=(ctM sq (x2,x3) (U++[(x0,x1)]++[(x2,x3)]):Int):=⟨_,rfl⟩;have hlA:(Instr.lookup 168 (.map (some B)) (.agg #[.int i64 x0,.int i64 x1]) false).run prog wc=.ok (.int i64 pA) wc:=by
    rw[hpA];exact run_lookup_TK hM2 hT2 168 3 underlying168 (fun w=>by kernel_rfl) (x0,x1)
   have hlB:(Instr.lookup 168 (.map (some B)) (.agg #[.int i64 x2,.int i64 x3]) false).run prog wc=.ok (.int i64 pB) wc:=by
    rw[hpB];exact run_lookup_TK hM2 hT2 168 3 underlying168 (fun w=>by kernel_rfl) (x2,x3)
   have HL:Hid (N=if (decide ((1:Int)<pA) || decide ((1:Int)<pB))=true then 7 else 0):=by
    show _=_;rw[HN.out,hpA,hpB,ct_link,lk1];simp only[ha,hb,Bool.and_self,if_true]
   clear hM2 hT2 hBt2 e0 e1 e2 e3 hnB hl2 hcw HcB HM5 HT5 HBt5 hpA hpB ha hb;by_cases h1:1<pA
   ·have e7:N=7:=by rw[HL.out];simp[h1]
    subst e7;go_wp2;go_ret;exact⟨rfl,M2,HM6.out,fun e=>absurd e (by decide),HBt6.out⟩
   by_cases h2:1<pB
   ·have e7:N=7:=by rw[HL.out];simp[h2]
    subst e7;go_wp2;go_ret;exact⟨rfl,M2,HM6.out,fun e=>absurd e (by decide),HBt6.out⟩
   have e7:N=0:=by rw[HL.out];simp[h1,h2]
   subst e7;go_wp2;go_ret;exact⟨rfl,M2,HM6.out,fun _=>HT6.out,HBt6.out⟩
theorem lay_bad (S x0 x1 x2 x3:Int)(B:Nat)(w:World)(h:(spB S (x0,x1)&&spB S (x2,x3))=false):
 Calls prog 83 #[.int i64 S,.map (some B),.agg #[.int i64 x0,.int i64 x1,.int i64 x2,.int i64 x3]] w fun e w'=>e=.returned (.iface 81 (.int i64 1))∧Below w.heap.size w w':=by
 have HB0:Hid (Below w.heap.size w (w.alloc (.cells #[.int i64 x0,.int i64 x1,.int i64 x2,.int i64 x3] 134))):=(bRQ _ _).alloc (nLQ _) _;have HC:=lnk_new w x0 x1 x2 x3 134;cases ha:spB S (x0,x1)
 ·clear h;go_enter func83,ntmps83
  go_wp2_with fail
  refine (isSpot_any S x0 x1 _).mono ?_;rintro e w1 ⟨rfl,hb1⟩;rw[ha];have HB1:Hid (Below w.heap.size w w1):=HB0.out.trans (hb1.mono HB0.out.size);clear hb1 HC;go_wp2;go_ret;exact⟨rfl,HB1.out⟩
 have hb:spB S (x2,x3)=false:=by rw[ha,Bool.true_and] at h;exact h
 clear h;go_enter func83,ntmps83
 go_wp2_with fail
 refine (isSpot_any S x0 x1 _).mono ?_;rintro e w1 ⟨rfl,hb1⟩;rw[ha];have HB1:Hid (Below w.heap.size w w1):=HB0.out.trans (hb1.mono HB0.out.size);obtain⟨c0,c1,c2,c3⟩:=lnk_cells (HC.later hb1);simp only[Nat.zero_add] at c0 c1 c2 c3;clear hb1 HC
 go_wp2_with fail
 refine (isSpot_any S x2 x3 _).mono ?_;rintro e w2 ⟨rfl,hb2⟩;rw[hb];have HB2:Hid (Below w.heap.size w w2):=HB1.out.trans (hb2.mono HB1.out.size);clear hb2;go_wp2;go_ret;exact⟨rfl,HB2.out⟩
theorem lay_any (S x0 x1 x2 x3:Int)(B:Nat)(M:HpQ)(U:List (Int×Int))(w:World)(hM:MAt spotKey veI w B M)(hT:TK sq M U)(hU:U.length≤1000):
 Calls prog 83 #[.int i64 S,.map (some B),.agg #[.int i64 x0,.int i64 x1,.int i64 x2,.int i64 x3]] w fun e w'=>e=.returned (noV (lk1 S U ((x0,x1),(x2,x3))))∧LayQ w w' B (lk1 S U ((x0,x1),(x2,x3))) (U++[(x0,x1),(x2,x3)]):=by
 cases h:(spB S (x0,x1)&&spB S (x2,x3))
 ·refine (lay_bad S x0 x1 x2 x3 B w h).mono ?_;rintro e w' ⟨rfl,hb⟩;have e1:lk1 S U ((x0,x1),(x2,x3))=1:=by simp only[lk1,h,Bool.false_eq_true,if_false]
  rw[e1];exact⟨rfl,M,hM.later hb,fun e=>absurd e (by decide),But.of_below hb⟩
 simp only[Bool.and_eq_true] at h;exact lay_ok S x0 x1 x2 x3 B M U w hM hT hU h.1 h.2 _ rfl
def byE:Enc (UInt8) where
 c:=fun x=>[.int .u8 (x.toNat:Int)]
 n:=1
 len:=fun _=>rfl
 pos:=by decide
 one:=by
  intro x u hu;simp at hu;subst hu;rfl
theorem by_at {w:World}{g o:Nat}{L:List (UInt8)}(h:GAt byE w g o L){n k:Nat}(hn:L.length=n)(hk:k<n):∃(x:UInt8) (hl:k<L.length),L[k]=x∧w.cell? ⟨g,o+k,none⟩=some (.int .u8 (x.toNat:Int)):=by
 have hl:k<L.length:=by omega
 have:=h k hl 0 _ rfl;refine⟨_,hl,rfl,?_⟩;have e:o+k*byE.n+0=o+k:=by show o+k*1+0=o+k;omega
 rw[e] at this;exact this
def byAsks (w:World)(f:FuncId)(P:UInt8→Bool):Prop:=
 ∀(x:UInt8) (W:World),Below w.heap.size w W→Calls prog f #[.int .u8 (x.toNat:Int)] W fun e w'=>e=.returned (.bool (P x))∧Below W.heap.size W w'
theorem byAsks.later {w w':World}{f:FuncId}{P:UInt8→Bool}(h:byAsks w f P)(hb:Below w.heap.size w w'):byAsks w' f P:=
 fun x W hW=>h x W (hb.trans (hW.mono hb.size))
theorem by_idxF (ao:AdQ)(n cap:Nat)(f:FuncId)(P:UInt8→Bool)(L:List (UInt8))(w:World)(hn:L.length=n)(hn2:n≤maxLen)(ha:0<n→∃g o,ao=some ⟨g,o,none⟩∧GAt byE w g o L∧cap≤maxLen)(he:∀args w,(callFunc f args).run prog w=.ok (.enter f args) w)(hf:byAsks w f P):
 Calls prog 135 #[.slice ao n cap,.func (Fn.func f) #[] #[]] w fun e w'=>e=.returned (.int i64 (ixG P L))∧Below w.heap.size w w':=by
 have HN:Hid (L.length=n):=hn;have HF:Hid (byAsks w f P):=hf;have HA:Hid (0<n→∃g o,ao=some ⟨g,o,none⟩∧GAt byE w g o L∧cap≤maxLen):=ha;unfold maxLen at hn2;clear hn hf ha;go_enter func135,ntmps135;go_wp2
 go_loopw [8] (fun i wr=>∃k:Nat,k≤n∧i=.int i64 k∧(L.take k).any P=false∧Below w.heap.size w wr)
  (fun i _=>n-(intOf i).toNat)
 case atStart=>exact⟨0,by omega,rfl,by simp,bRQ _ _⟩
 case round =>
  obtain⟨k,hk,rfl,hno,hB⟩:=hrel;have HB:Hid (Below w.heap.size w wr):=hB;have HNO:Hid ((L.take k).any P=false):=hno;clear hno;by_cases hlt:k<n
  ·obtain⟨g,o,hao,hc,_⟩:=HA.out (by omega);subst hao;obtain⟨x,hkl,hL,q0⟩:=by_at (hc.later hB) HN.out hlt;have HL:Hid (L[k]=x):=hL;clear hL hB;cases ho:P x
   ·go_wp2_with fail
    refine (HF.out x _ HB.out).mono ?_;rintro e w1 ⟨rfl,hb1⟩;rw[ho];have HB1:=HB.out.trans (hb1.mono HB.out.size);clear hb1;go_wp2;go_roundw
    case rel=>exact⟨k+1,by omega,by go_num,any_nextG hkl HNO.out (by rw[HL.out];exact ho),HB1⟩
    case measure=>simp[intOf];omega
   go_wp2_with fail
   refine (HF.out x _ HB.out).mono ?_;rintro e w1 ⟨rfl,hb1⟩;rw[ho];go_wp2;go_ret;exact⟨by rw[ixG_hit hkl HNO.out (by rw[HL.out];exact ho)];rfl,HB.out.trans (hb1.mono HB.out.size)⟩
  obtain rfl:k=n:=by omega
  go_wp2;go_ret;exact⟨by have:=HNO.out;rw[←HN.out,List.take_length] at this;rw[ixG_no this];rfl,HB.out⟩
theorem by_hasF (ao:AdQ)(n cap:Nat)(f:FuncId)(P:UInt8→Bool)(L:List (UInt8))(w:World)(hn:L.length=n)(hn2:n≤maxLen)(ha:0<n→∃g o,ao=some ⟨g,o,none⟩∧GAt byE w g o L∧cap≤maxLen)(he:∀args w,(callFunc f args).run prog w=.ok (.enter f args) w)(hf:byAsks w f P):
 Calls prog 124 #[.slice ao n cap,.func (Fn.func f) #[] #[]] w fun e w'=>e=.returned (.bool (L.any P))∧Below w.heap.size w w':=by
 rw[←ixG_any];obtain⟨x,hx⟩:∃x,x=ixG P L:=⟨_,rfl⟩;have HX:Hid (x=ixG P L):=hx;rw[←hx];clear hx;go_enter func124,ntmps124
 go_wp2_with fail
 refine (by_idxF ao n cap f P L _ hn hn2 ha he hf).mono ?_;rintro e w1 ⟨rfl,hb1⟩;rw[←HX.out];go_wp2;go_ret;exact⟨rfl,hb1⟩
def noL (b:UInt8):Bool:=decide ((b.toNat:Int)<97) || decide ((122:Int)<(b.toNat:Int))
theorem isName1_any (b:UInt8)(w:World):Calls prog 125 #[.int .u8 (b.toNat:Int)] w fun e w'=>e=.returned (.bool (noL b))∧Below w.heap.size w w':=by
 have hn:noL b=(decide ((b.toNat:Int)<97) || decide ((122:Int)<(b.toNat:Int))):=rfl
 generalize (b.toNat:Int)=x at *
 rw[hn];clear hn;by_cases h:x<97
 ·have e:(decide (x<97) || decide (122<x))=true:=by simp[h]
  rw[e];go_enter func125,ntmps125;go_wp2;go_ret;exact⟨rfl,bRQ _ _⟩
 have e:(decide (x<97) || decide (122<x))=decide (122<x):=by simp[h]
 rw[e];go_enter func125,ntmps125;go_wp2;go_ret;exact⟨rfl,bRQ _ _⟩
theorem isName1_asks (w:World):byAsks w 125 noL:=fun x W _=>isName1_any x W
theorem bytes_conv (s:ByteArray)(w:World):∃cap w1,(convert 9 95 (.string s)).run prog w=.ok (.slice (some ⟨w.heap.size,0,none⟩) s.size cap) w1∧Below w.heap.size w w1∧GAt byE w1 w.heap.size 0 s.data.toList∧(s.size≤maxLen→cap≤maxLen):=by
 refine⟨_,_,run_bytes_of_string w _ _ 5 s underlying9 underlying95 underlying5,?_,?_,fun h=>grownCap_le_maxLen w _ _ _ h⟩
 ·exact (Below.drew (bRQ _ _)).alloc (nLQ _) _
 intro i hi j u hu;have hj:j=0:=by
  have:=(List.getElem?_eq_some_iff.1 hu).1;have e:(byE.c s.data.toList[i]).length=1:=rfl;omega
 subst hj;have hu2:u=.int .u8 (s.data.toList[i].toNat:Int):=by
  have:some (Value.int .u8 (s.data.toList[i].toNat:Int))=some u:=hu;exact (Option.some.inj this).symm
 subst hu2;have hi2:i<s.data.size:=by simpa using hi
 have e:0+i*byE.n+0=i:=by show 0+i*1+0=i;omega
 rw[e];simp only[World.cell?,World.alloc,World.drew];simp[bytesRow];rw[Array.getElem?_append_left (by simpa using hi2),Array.getElem?_map,Array.getElem?_eq_getElem hi2];rfl
theorem nm_eq {s:ByteArray}(h1:1≤s.size)(h6:s.size≤6):nmB s = !(s.data.toList.any noL):=by
 have e:nmB s=(s.data.toList.all fun c=>decide (97≤c.toNat)&&decide (c.toNat≤122)):=by simp[nmB,h1,h6]
 rw[e,List.not_any_eq_all_not]
 congr 1
 funext c
 rw[Bool.eq_iff_iff];simp[noL];omega
theorem name_ok (s:ByteArray)(w:World)(h1:1≤s.size)(h6:s.size≤6):
 Calls prog 105 #[.string s] w fun e w'=>e=.returned (.bool (nmB s))∧Below w.heap.size w w':=by
 have hs1:¬((s.size:Int)<1):=by omega
 have hs6:¬((6:Int)<(s.size:Int)):=by omega
 obtain⟨cap,w1,hcv,hb1,hG,hcap⟩:=bytes_conv s w;have HCAP:Hid (s.size≤maxLen→cap≤maxLen):=hcap;have HB1:Hid (Below w.heap.size w w1):=hb1;have HG:Hid (GAt byE w1 w.heap.size 0 s.data.toList):=hG;have HE:Hid (nmB s = !(s.data.toList.any noL)):=nm_eq h1 h6;rw[HE.out];obtain⟨r,hr⟩:∃r,r=s.data.toList.any noL:=⟨_,rfl⟩;have HR:Hid (r=s.data.toList.any noL):=hr;rw[←hr];clear hr hb1 hG HE hcap;obtain⟨n,hn⟩:∃n,n=s.size:=⟨_,rfl⟩;have HN:Hid (n=s.size):=hn;rw[←hn] at hcv hs1 hs6 h1 h6;clear hn;have hsz:s.size=n:=HN.out.symm;go_enter func105,ntmps105
 go_wp2_with fail
 refine (by_hasF _ n cap _ noL s.data.toList _ (by rw[HN.out];simp) (by unfold maxLen;omega) (fun _=>⟨_,_,rfl,HG.out,HCAP.out (by rw[←HN.out];unfold maxLen;omega)⟩) (enters_of func125 (by kernel_rfl) rfl) (isName1_asks _)).mono ?_;rintro e w2 ⟨rfl,hb2⟩;rw[←HR.out];have HB2:Hid (Below w.heap.size w w2):=HB1.out.trans (hb2.mono HB1.out.size);clear hb2;go_wp2;go_ret;exact⟨rfl,HB2.out⟩
theorem name_bad (s:ByteArray)(w:World)(h:s.size<1∨6<s.size):
 Calls prog 105 #[.string s] w fun e w'=>e=.returned (.bool false)∧Below w.heap.size w w':=by
 obtain⟨n,hn⟩:∃n,n=s.size:=⟨_,rfl⟩;have hsz:s.size=n:=hn.symm;rw[hsz] at h;clear hn;by_cases h1:(n:Int)<1
 ·go_enter func105,ntmps105;go_wp2;go_ret;exact⟨rfl,bRQ _ _⟩
 have h6:(6:Int)<(n:Int):=by omega
 clear h;go_enter func105,ntmps105;go_wp2;go_ret;exact⟨rfl,bRQ _ _⟩
theorem name_any (s:ByteArray)(w:World):
 Calls prog 105 #[.string s] w fun e w'=>e=.returned (.bool (nmB s))∧Below w.heap.size w w':=by
 by_cases h:1≤s.size∧s.size≤6
 ·exact name_ok s w h.1 h.2
 have e:nmB s=false:=by
  unfold nmB;by_cases h1:1≤s.size
  ·have:¬s.size≤6:=fun h2=>h ⟨h1,h2⟩
   simp[this]
  simp[h1]
 rw[e];exact name_bad s w (by omega)
end
section
open Go.ChangeShapes Go.WideShapes Go.ChangeAt Go.RowKit Go.Joins
def hstE:Enc (ByteArray×(Int×Int)) where
 c:=fun x=>[.string x.1,.int i64 x.2.1,.int i64 x.2.2]
 n:=3
 len:=fun _=>rfl
 pos:=by decide
 one:=by
  intro x u hu;simp at hu
  rcases hu with rfl | rfl | rfl <;> rfl
theorem hst_cells {w:World}{g o:Nat}{x0:ByteArray}{x1 x2:Int}(h:VAt w g o (hstE.c (x0,(x1,x2)))):w.cell? ⟨g,o,none⟩=some (.string x0)∧w.cell? ⟨g,o+1,none⟩=some (.int i64 x1)∧w.cell? ⟨g,o+2,none⟩=some (.int i64 x2):=
 ⟨h 0 _ rfl,h 1 _ rfl,h 2 _ rfl⟩
theorem hst_at {w:World}{g o:Nat}{L:HoQ}(h:GAt hstE w g o L){n k:Nat}(hn:L.length=n)(hk:k<n):
 ∃(x0:ByteArray) (x1:Int) (x2:Int) (hl:k<L.length),L[k]=(x0,(x1,x2))∧w.cell? ⟨g,o+k*3,none⟩=some (.string x0)∧w.cell? ⟨g,o+k*3+1,none⟩=some (.int i64 x1)∧w.cell? ⟨g,o+k*3+2,none⟩=some (.int i64 x2):=
 have hl:k<L.length:=by omega
 ⟨_,_,_,hl,rfl,hst_cells (h k hl)⟩
theorem hst_new (w:World)(x0:ByteArray)(x1 x2:Int)(t:TypeId):VAt (w.alloc (.cells #[.string x0,.int i64 x1,.int i64 x2] t)) w.heap.size 0 (hstE.c (x0,(x1,x2))):=vat_new w [.string x0,.int i64 x1,.int i64 x2] t
theorem hst_row (w:World)(x0:ByteArray)(x1 x2:Int)(t:TypeId):GS hstE (w.alloc (.cells #[.string x0,.int i64 x1,.int i64 x2] t)) (.slice (some ⟨w.heap.size,0,none⟩) 1 1) [(x0,(x1,x2))]:=gs_one (E:=hstE) w (x0,(x1,x2)) t (vs:=[.string x0,.int i64 x1,.int i64 x2]) rfl
theorem hst_info:(Tryz.prog.info? 67).map (fun i=>(i.zero,i.size,i.bytes))=some (some (.agg #[.string ByteArray.empty,.int i64 0,.int i64 0]),3,32):=by kernel_rfl
theorem hst_zero:(Value.agg #[.string ByteArray.empty,.int i64 0,.int i64 0]).cells.size=3:=by simp[Value.cells]
theorem hst_open {H:Type}{enc:TypeId×Value→H}{W:World}{n:Nat}{cs:List Value}{x:DataW H×List MemPlace}
 (h:DataW.trod enc prog W 0 (fun _=>true) true n 67 cs=some x):∃y,cs=hstE.c y:=by
 obtain⟨xs,k,_,_,hl,hlen,hf⟩:=DataW.trod_struct underlying67 h;have hC:Tryz.prog.cellsOf 67=3:=by kernel_rfl
 have hT0:Tryz.prog.cellsOf 9=1:=by kernel_rfl
 have hT1:Tryz.prog.cellsOf 65=2:=by kernel_rfl
 rw[hC] at hl
 match cs,hl with
 | [c0,c1,c2],_ =>
   match xs,hlen with
   | [z0,z1],_ =>
     have g0:=hf 0 _ rfl;have g1:=hf 1 _ rfl;simp[hT0,hT1] at g0 g1;obtain⟨v0,e0,_,_⟩:=DataW.trod_string underlying9 g0;obtain⟨s1,e1⟩:=spo_open g1;simp[spoE] at e0 e1;refine⟨(v0,(s1.1,s1.2)),?_⟩;simp[hstE,e0,e1]
end
end Go.Proofs.YtpgjkmefomldfaaGreat
