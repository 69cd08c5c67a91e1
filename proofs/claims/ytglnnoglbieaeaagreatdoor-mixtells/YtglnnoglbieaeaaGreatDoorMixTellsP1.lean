/- Contracts and facts on the way to MixTells, joined into one text: CubeMath, RuleMath, RuleTabMath, MapGen, TopoMath, But, Gen, TopoMath2, NetMath, StSpot, StHost, MixMath, TableMath, ChangeMath. -/
import Derived.Test.YtglnnoglbieaeaaGreatDoorRows
import Derived.Test.YtglnnoglbieaeaaGreatDoorProg
import Derived.WalkKit
import Derived.Laws.BytesArg
import Derived.WalkSpells
import Derived.Below
import Derived.MapKept
import Derived.Maps.OwnOps
import Derived.Laws.StructEq
import Derived.ProofKit
import Derived.OpenShut
import Derived.ChangeOld
import Derived.Laws.AppendOwnNone
import Derived.Deep.Slices
import Derived.Lib.SmallJoins
import Derived.BigQuiet
import Derived.Deep.QuietTactic
import Derived.DeepKeys3
import Derived.BigRegion
import Derived.Deep.CutRange
import Derived.Deep.CutBlock
import Derived.Shelf.Abstract
import Derived.Laws.IdiomStrings
import Derived.Carry
import Derived.Deep.RegionHeld3
import Derived.Deep.RegionWith
import Derived.Lib.SliceRun
import Derived.Lib.AppendZeros
import Derived.Laws.OwnMore
import Derived.Lib.Strings
import Derived.Lib.Walk
import Derived.Lib.BufferWrite
import Derived.Lib.UnsafeStr
import Derived.Laws.MakeOwn
import Derived.Deep.RegionLaw
import Derived.RangeFuncNested
import Derived.RangeFuncBox
import Derived.RangeFuncBound
import Derived.RangeFuncCalls
import Derived.RangeFuncLeaves
import Derived.Shelf.RegionOpen
import Derived.OwnWalkIn
import Derived.TacticsInMore
import Derived.LoopNIn
import Derived.LoopIn
import Derived.Sort.Grow
import Derived.Shelf.SlSorted.Search
import Derived.Shelf.SlSortCmp.WholeK
import Derived.OrdersIn
import Derived.Lib.Bytealg
import Derived.Lib.IndexLaws
import Derived.Lib.SlicesCompact
import Derived.Shelf.Sort.Plain
import Derived.Shelf.Slices.CompactI
import Derived.Shelf.Slices.In.SortNone
import Derived.Lib.IndexBytes
import Derived.LaidEql
import Derived.Stop.Asserts
import Derived.RowKitTokens
import Derived.ChangeSame
import Derived.ChangeVars
import Derived.JoinedOf
import Derived.RowKit
import Derived.LaidLaws
import Derived.LaidHandle
import Derived.SizedLaws
import Derived.Stop.Joined
namespace Go.Proofs.YtglnnoglbieaeaaGreatDoor
set_option linter.unusedSimpArgs false
set_option linter.unusedVariables false
set_option maxHeartbeats 16000000
set_option maxRecDepth 100000
theorem AP:(∀(l:List Value) (i:Nat) (v:Value),l.toArray.setIfInBounds i v=(l.set i v).toArray)∧(∀(a v:Value) (l:List Value),(a::l).set 0 v=v::l)∧(∀(a v:Value) (l:List Value) (i:Nat),(a::l).set (i+1) v=a::l.set i v):=⟨fun _ _ _=>List.setIfInBounds_toArray _ _ _,fun _ _ _=>List.set_cons_zero,fun _ _ _ _=>List.set_cons_succ⟩
section
open Go.RowKit
def hdrB (n:Int):Bool:=decide (0≤n)&&decide (n<16)
def rngB (m b:Int):Bool:=hdrB m&&hdrB b
def okB (m b:Int):Bool:=rngB m b&&(bits .andNot .i64 b m==0)
theorem hdr_of {n:Int}(h:hdrB n=true):0≤n∧n<16:=by simpa[hdrB] using h
theorem hdr_no {n:Int}(h:hdrB n=false):n<0∨16≤n:=by simp[hdrB] at h;omega
theorem hdr_mk {n:Int}(h:0≤n∧n<16):hdrB n=true:=by simpa[hdrB] using h
theorem rng_of {m b:Int}(h:rngB m b=true):(0≤m∧m<16)∧(0≤b∧b<16):=by
 simp only[rngB,Bool.and_eq_true] at h;exact⟨hdr_of h.1,hdr_of h.2⟩
theorem ok_rng {m b:Int}(h:okB m b=true):rngB m b=true:=by
 simp only[okB,Bool.and_eq_true] at h;exact h.1
theorem ok_of {m b:Int}(h:okB m b=true):(0≤m∧m<16)∧(0≤b∧b<16):=rng_of (ok_rng h)
theorem small {n:Int}(h:0≤n∧n<16):∃k:Fin 16,n=((k:Nat):Int):=⟨⟨n.toNat,by omega⟩,by simp;omega⟩
def hasB (m b h:Int):Bool:=hdrB h&&(okB m b&&(bits .and .i64 h m==b))
def refN (m b:Int):Int:=if okB m b then 0 else if rngB m b then 3 else 1
theorem refN_ok {m b:Int}(h:okB m b=true):refN m b=0:=by simp[refN,h]
theorem refN_shape {m b:Int}(h:okB m b=false)(h2:rngB m b=true):refN m b=3:=by simp[refN,h,h2]
theorem refN_range {m b:Int}(h2:rngB m b=false):refN m b=1:=by simp[refN,okB,h2]
theorem ok_refN (m b:Int):(refN m b==0)=okB m b:=by
 cases h:okB m b
 ·cases h2:rngB m b
  ·simp[refN_range h2]
  simp[refN_shape h h2]
 simp[refN_ok h]
theorem andEq_fin:∀m b:Fin 16,(bits .and .i64 ((b:Nat):Int) ((m:Nat):Int)==((b:Nat):Int))=(bits .andNot .i64 ((b:Nat):Int) ((m:Nat):Int)==0):=by decide +kernel
theorem andEq {m b:Int}(h:rngB m b=true):(bits .and .i64 b m==b)=okB m b:=by
 obtain⟨h1,h2⟩:=rng_of h;have e:okB m b=(bits .andNot .i64 b m==0):=by simp[okB,h]
 rw[e];obtain⟨x,rfl⟩:=small h1;obtain⟨y,rfl⟩:=small h2;exact andEq_fin x y
def bitB (x:Int)(i:Nat):Bool:=x / 2 ^ i % 2==1
def ruP (p o:Int):Bool:=decide (0≤p)&&(decide (p≤99)&&(decide (0≤o)&&decide (o≤4)))
def ruIn (p o s v:Int):Bool:=ruP p o&&rngB s v
def ruSet (o s v:Int):Bool:=(bits .andNot .i64 v s==0)&&(!(o==0) || s==0)
def ruN (p m b o s v:Int):Int:=if ruIn p o s v then (if okB m b then (if ruSet o s v then 0 else 3) else refN m b) else 1
def ruOk (p m b o s v:Int):Bool:=ruIn p o s v&&(okB m b&&ruSet o s v)
def apN (p m b o s v h:Int):Int:=if ruOk p m b o s v then (if hdrB h then (if hasB m b h && !(o==0) then 0 else 5) else 1) else ruN p m b o s v
def apV (s v h:Int):Int:=bits .or .i64 (bits .andNot .i64 h s) v
def apR (p m b o s v h:Int):Int:=if apN p m b o s v h=0 then apV s v h else 0
theorem ru_ok {p m b o s v:Int}(h:ruOk p m b o s v=true):ruIn p o s v=true∧okB m b=true∧ruSet o s v=true:=by
 simpa[ruOk] using h
theorem ruN_ok {p m b o s v:Int}(h:ruOk p m b o s v=true):ruN p m b o s v=0:=by
 obtain⟨h1,h2,h3⟩:=ru_ok h;simp[ruN,h1,h2,h3]
theorem ruN_ne {p m b o s v:Int}(h:ruOk p m b o s v=false):ruN p m b o s v≠0:=by
 unfold ruN;cases h1:ruIn p o s v
 ·simp
 cases h2:okB m b
 ·simp only[if_true];have:=ok_refN m b;rw[h2] at this;simpa using this
 cases h3:ruSet o s v
 ·simp
 simp[ruOk,h1,h2,h3] at h
theorem ru_in {p o s v:Int}(h:ruIn p o s v=true):((0≤p∧p≤99)∧(0≤o∧o≤4))∧(0≤s∧s<16)∧(0≤v∧v<16):=by
 simp only[ruIn,Bool.and_eq_true] at h;obtain⟨h1,h2⟩:=h;have h3:=rng_of h2;simp only[ruP,Bool.and_eq_true,decide_eq_true_eq] at h1;exact⟨⟨⟨h1.1,h1.2.1⟩,⟨h1.2.2.1,h1.2.2.2⟩⟩,h3⟩
theorem apN_bad {p m b o s v:Int}(h:Int)(hr:ruOk p m b o s v=false):apN p m b o s v h=ruN p m b o s v:=by simp[apN,hr]
theorem apR_bad {p m b o s v h:Int}(hr:apN p m b o s v h≠0):apR p m b o s v h=0:=by simp[apR,hr]
theorem ap_yes {p m b o s v h:Int}(hr:apN p m b o s v h=0):ruOk p m b o s v=true∧hdrB h=true∧hasB m b h=true∧(o==0)=false:=by
 cases h1:ruOk p m b o s v
 ·rw[apN_bad h h1] at hr;exact absurd hr (ruN_ne h1)
 cases h2:hdrB h
 ·simp[apN,h1,h2] at hr
 simp only[apN,h1,h2,if_true] at hr;cases h3:(hasB m b h && !(o==0))
 ·simp[h3] at hr
 simpa using h3
def cmpN (a b:Int):Int:=if a<b then -1 else if b<a then 1 else 0
def orN (x y z:Int):Int:=if x=0 then (if y=0 then z else y) else x
def ordN (p m b p' m' b':Int):Int:=orN (cmpN p p') (cmpN m m') (cmpN b b')
structure Ru where
 p:Int
 m:Int
 b:Int
 o:Int
 s:Int
 v:Int
def Ru.n (r:Ru):Int:=ruN r.p r.m r.b r.o r.s r.v
def Ru.ok (r:Ru):Bool:=ruOk r.p r.m r.b r.o r.s r.v
def Ru.has (r:Ru)(h:Int):Bool:=hasB r.m r.b h
def ordR (a b:Ru):Int:=ordN a.p a.m a.b b.p b.m b.b
def keyB (a b:Ru):Bool:=ordR a b==0
def zeR:Ru:=⟨0,0,0,0,0,0⟩
theorem cmp_0 {a b:Int}:cmpN a b=0↔a=b:=by unfold cmpN;split <;> (try split) <;> omega
theorem ord_0 {a b:Ru}:ordR a b=0↔a.p=b.p∧a.m=b.m∧a.b=b.b:=by
 unfold ordR ordN orN;by_cases h1:a.p=b.p
 ·rw[if_pos (cmp_0.2 h1)];by_cases h2:a.m=b.m
  ·rw[if_pos (cmp_0.2 h2),cmp_0];exact⟨fun h=>⟨h1,h2,h⟩,fun h=>h.2.2⟩
  rw[if_neg (fun h=>h2 (cmp_0.1 h)),cmp_0];exact⟨fun h=>absurd h h2,fun h=>h.2.1⟩
 rw[if_neg (fun h=>h1 (cmp_0.1 h)),cmp_0];exact⟨fun h=>absurd h h1,fun h=>h.1⟩
theorem ord_le {a b:Ru}:ordR a b≤0↔(a.p<b.p∨a.p=b.p∧(a.m<b.m∨a.m=b.m∧a.b≤b.b)):=by
 unfold ordR ordN orN cmpN
 split <;> split <;> (try split) <;> (try split) <;> (try split) <;> (try split) <;> omega
theorem ord_tr {a b c:Ru}(h1:ordR a b≤0)(h2:0<ordR c b):ordR a c≤0:=by
 have h3:¬ordR c b≤0:=by omega
 rw[ord_le] at h1 h3 ⊢;omega
theorem ord_as {a b:Ru}(h1:ordR a b≤0)(h2:ordR b a≤0):ordR a b=0:=by
 rw[ord_le] at h1 h2;rw[ord_0];omega
theorem ord_rf (a:Ru):ordR a a=0:=ord_0.2 ⟨rfl,rfl,rfl⟩
theorem key_sym {a b:Ru}(h:keyB a b=false):keyB b a=false:=by
 simp only[keyB,beq_eq_false_iff_ne,ne_eq,ord_0] at h ⊢;exact fun h'=>h ⟨h'.1.symm,h'.2.1.symm,h'.2.2.symm⟩
theorem key_eq (a b:Ru):keyB a b=(decide (a.p=b.p)&&(decide (a.m=b.m)&&decide (a.b=b.b))):=by
 rw[Bool.eq_iff_iff,keyB,beq_iff_eq,ord_0];simp
def clTo (L:List Ru):Nat→Bool
 | 0=>false
 | k+1=>clTo L k || (L.take k).any (fun a=>keyB a (L.getD k zeR))
def okR (L:List Ru):Bool:=L.all Ru.ok
def tbTo (L:List Ru):Nat→Int
 | 0=>0
 | k+1=>if tbTo L k=0 then (if (L.getD k zeR).n=0 then (if (L.take k).any (fun a=>keyB a (L.getD k zeR)) then 7 else 0) else (L.getD k zeR).n) else tbTo L k
def tbN (L:List Ru):Int:=if 12<L.length then 4 else tbTo L L.length
theorem n_ne {r:Ru}(h:r.ok=false):r.n≠0:=ruN_ne h
theorem n_ok {r:Ru}(h:r.ok=true):r.n=0:=ruN_ok h
theorem ok_n {r:Ru}(h:r.n=0):r.ok=true:=by
 cases e:r.ok
 ·exact absurd h (n_ne e)
 rfl
theorem okR_next {L:List Ru}{k:Nat}(hk:k<L.length)(h:okR (L.take k)=true)(h2:(L[k]).ok=true):okR (L.take (k+1))=true:=by
 rw[List.take_succ_eq_append_getElem hk];simp only[okR,List.all_append,List.all_cons,List.all_nil,Bool.and_true,Bool.and_eq_true];exact⟨h,h2⟩
theorem to_le {L:List Ru}{k:Nat}(h:tbTo L k≠0):∀{n:Nat},k≤n→tbTo L n=tbTo L k
 | 0,hn=>by
   obtain rfl:k=0:=by omega
   rfl
 | n+1,hn=>by
   by_cases e:k=n+1
   ·subst e;rfl
   have:=to_le h (show k≤n by omega);rw[tbTo,if_neg (by rw[this];exact h),this]
theorem getD_at {L:List Ru}{k:Nat}(hk:k<L.length):L.getD k zeR=L[k]:=by simp[List.getD,hk]
theorem cl_le {L:List Ru}:∀{k n:Nat},k≤n→clTo L n=false→clTo L k=false
 | k,0,h,hc=>by
   obtain rfl:k=0:=by omega
   exact hc
 | k,n+1,h,hc=>by
   by_cases e:k=n+1
   ·subst e;exact hc
   simp only[clTo,Bool.or_eq_false_iff] at hc;exact cl_le (by omega) hc.1
theorem cl_no {L:List Ru}:clTo L L.length=false↔∀i j,i<j→j<L.length→keyB (L.getD i zeR) (L.getD j zeR)=false:=by
 constructor
 ·intro h i j hij hj;have:=cl_le (show j+1≤L.length by omega) h;simp only[clTo,Bool.or_eq_false_iff] at this;have h2:=this.2;rw[List.any_eq_false] at h2;have hm:L.getD i zeR∈L.take j:=by
   rw[getD_at (by omega)];rw[List.mem_take_iff_getElem];exact⟨i,by omega,rfl⟩
  simpa using h2 _ hm
 intro h;have:∀n,n≤L.length→clTo L n=false:=by
  intro n
  induction n with
  | zero=>intro _;rfl
  | succ n ih =>
    intro hn;simp only[clTo,Bool.or_eq_false_iff];refine⟨ih (by omega),?_⟩;rw[List.any_eq_false];intro a ha;rw[List.mem_take_iff_getElem] at ha;obtain⟨i,hi,rfl⟩:=ha;have:=h i n (by omega) (by omega);rw[getD_at (by omega)] at this;simpa using this
 exact this _ (Nat.le_refl _)
theorem to_0 {L:List Ru}:∀{k:Nat},k≤L.length→(tbTo L k=0↔okR (L.take k)=true∧clTo L k=false)
 | 0,_=>by simp[tbTo,okR,clTo]
 | k+1,hk=>by
   have ih:=to_0 (show k≤L.length by omega);have hl:k<L.length:=by omega
   rw[tbTo,clTo];by_cases h1:tbTo L k=0
   ·obtain⟨i1,i2⟩:=ih.1 h1;rw[if_pos h1,i2,Bool.false_or];by_cases h2:(L.getD k zeR).n=0
    ·rw[if_pos h2];have h3:=okR_next hl i1 (by rw[←getD_at hl];exact ok_n h2);cases h4:(L.take k).any (fun a=>keyB a (L.getD k zeR))
     ·simp[h3]
     simp
    rw[if_neg h2];refine⟨fun h=>absurd h h2,fun h=>?_⟩
    exfalso
    have h5:=h.1;rw[okR,List.all_eq_true] at h5;exact h2 (n_ok (by rw[getD_at hl];exact h5 _ (by rw[List.mem_take_iff_getElem];exact⟨k,by omega,rfl⟩)))
   rw[if_neg h1];refine⟨fun h=>absurd h h1,fun h=>?_⟩
   exfalso
   obtain⟨h5,h6⟩:=h;simp only[Bool.or_eq_false_iff] at h6;refine h1 (ih.2 ⟨?_,h6.1⟩);rw[okR,List.all_eq_true] at h5 ⊢;intro x hx;refine h5 x ?_;rw[List.mem_take_iff_getElem] at hx ⊢;obtain⟨i,hi,e⟩:=hx;exact⟨i,by omega,e⟩
theorem tb_0 {L:List Ru}:tbN L=0↔L.length≤12∧okR L=true∧clTo L L.length=false:=by
 unfold tbN;by_cases h1:12<L.length
 ·rw[if_pos h1];constructor
  ·intro h;cases h
  intro h;omega
 rw[if_neg h1,to_0 (Nat.le_refl _),List.take_length];exact⟨fun h=>⟨by omega,h⟩,fun h=>h.2⟩
def beTo (L:List Ru)(h:Int):Nat→Int
 | 0 => -1
 | k+1=>if ((L.getD k zeR).has h&&(decide (beTo L h k<0) || decide (0<ordR (L.getD k zeR) (L.getD (beTo L h k).toNat zeR))))=true then (k:Int) else beTo L h k
theorem be_bd (L:List Ru)(h:Int):∀k:Nat,-1≤beTo L h k∧beTo L h k<k
 | 0=>by simp[beTo]
 | k+1=>by
   have:=be_bd L h k;unfold beTo
   split <;> omega
theorem be_no {L:List Ru}{h:Int}:∀{k:Nat},beTo L h k<0→∀j,j<k→(L.getD j zeR).has h=false
 | 0,_,j,hj=>by omega
 | k+1,hb,j,hj=>by
   unfold beTo at hb
   split at hb
   ·omega
   next hn =>
   by_cases e:j=k
   ·subst e;cases hh:(L.getD j zeR).has h
    ·rfl
    exact absurd (by rw[hh];simp[hb]) hn
   exact be_no hb j (by omega)
theorem be_yes {L:List Ru}{h:Int}:∀{k:Nat},0≤beTo L h k→(L.getD (beTo L h k).toNat zeR).has h=true∧∀j,j<k→(L.getD j zeR).has h=true→ordR (L.getD j zeR) (L.getD (beTo L h k).toNat zeR)≤0
 | 0,hb=>by simp[beTo] at hb
 | k+1,hb=>by
   unfold beTo at hb ⊢
   split
   ·next hy =>
    simp only[Bool.and_eq_true,Bool.or_eq_true,decide_eq_true_eq] at hy;obtain⟨y1,y2⟩:=hy;simp only[Int.toNat_natCast];refine⟨y1,fun j hj hh=>?_⟩;by_cases e:j=k
    ·subst e;rw[ord_rf];exact Int.le_refl _
    rcases y2 with y2 | y2
    ·rw[be_no y2 j (by omega)] at hh;cases hh
    have h0:0≤beTo L h k:=by
     rcases Int.lt_or_le (beTo L h k) 0 with h' | h'
     ·rw[be_no h' j (by omega)] at hh;cases hh
     exact h'
    exact ord_tr ((be_yes h0).2 j (by omega) hh) y2
   next hn =>
   rw[if_neg hn] at hb;obtain⟨i1,i2⟩:=be_yes hb;refine⟨i1,fun j hj hh=>?_⟩;by_cases e:j=k
   ·subst e;rw[hh] at hn;simp only[Bool.true_and,Bool.or_eq_true,decide_eq_true_eq,not_or] at hn;omega
   exact i2 j (by omega) hh
def luN (L:List Ru)(h:Int):Int:=if tbN L=0 then (if hdrB h then (if beTo L h L.length<0 then 5 else 0) else 1) else tbN L
def luI (L:List Ru)(h:Int):Int:=if luN L h=0 then beTo L h L.length else 0
theorem lu_0 {L:List Ru}{h:Int}:luN L h=0↔tbN L=0∧hdrB h=true∧0≤beTo L h L.length:=by
 unfold luN;by_cases h1:tbN L=0
 ·rw[if_pos h1];cases h2:hdrB h
  ·simp
  by_cases h3:beTo L h L.length<0
  ·simp[h1,h3] <;> omega
  simp[h1,h3] <;> omega
 rw[if_neg h1];simp[h1]
section
variable {κ β:Type}
def fndM (q:κ→κ→Bool)(k:κ):List κ→List MapEntry→Nat→Option (Nat×Value)
 | k' :: ks,e :: es,i=>if q k k' then some (i,e.val) else fndM q k ks es (i+1)
 | _,_,_=>none
def mget (q:κ→κ→Bool)(k:κ):List (κ×β)→Option β
 | []=>none
 | p :: M=>if q k p.1 then some p.2 else mget q k M
def mput (q:κ→κ→Bool)(k:κ)(b:β):List (κ×β)→List (κ×β)
 | []=>[(k,b)]
 | p :: M=>if q k p.1 then (k,b) :: M else p :: mput q k b M
theorem mget_put {q:κ→κ→Bool}(hq:∀a b,q a b=true↔a=b)(k k':κ)(b:β):∀M:List (κ×β),mget q k' (mput q k b M)=if q k' k then some b else mget q k' M
 | []=>by simp[mput,mget]
 | p :: M=>by
   have ih:=mget_put hq k k' b M;rw[mput];by_cases h:q k p.1=true
   ·rw[if_pos h,mget,mget];have e:=(hq _ _).1 h;subst e;simp only
    split <;> simp_all
   rw[if_neg h,mget,mget,ih];by_cases h2:q k' p.1=true
   ·rw[if_pos h2,if_pos h2];have e:=(hq _ _).1 h2;have:¬q k' k=true:=fun h3=>h (by rw[hq] at h3;subst h3;exact h2)
    rw[if_neg this]
   rw[if_neg h2,if_neg h2]
end
structure KeyE (P:Program)(K:TypeId)(κ:Type) where
 c:κ→Value
 q:κ→κ→Bool
 qeq:∀a b,q a b=true↔a=b
 check:∀(e:Bool) (k:κ) (w:World),(Instr.checkKey e 10000 K (c k)).run P w=.ok () w
 find:∀(k:κ) (ks:List κ) (l:List MapEntry) (w:World),l.map (·.key)=ks.map c→(Instr.findKey K (c k) l).run P w=.ok (fndM q k ks l 0) w
 bits:∀k,Instr.sameBits 10000 (c k) (c k)=true
section
variable {P:Program}{K:TypeId}{κ β:Type}
theorem find_ask {c:κ→Value}{q:κ→κ→Bool}(heq:∀a b w,(Op.equal K (c a) (c b)).run P w=.ok (q a b) w)(k:κ):∀(ks:List κ) (l:List MapEntry) (i:Nat) (w:World),l.map (·.key)=ks.map c→(Instr.findAsking K (c k) l i).run P w=.ok (fndM q k ks l i) w
 | [],[],i,w,_=>rfl
 | [],_ :: _,_,_,h=>by simp at h
 | _ :: _,[],_,_,h=>by simp at h
 | k' :: ks,e :: l,i,w,h=>by
   simp only[List.map_cons,List.cons.injEq] at h;simp only[Instr.findAsking,Sem.run_bind,h.1,heq,Result.andThen_ok];rw[fndM];cases hq:q k k'
   ·simp only[Bool.false_eq_true,if_false];exact find_ask heq k ks l (i+1) w h.2
   simp
theorem find_now {c:κ→Value}{q:κ→κ→Bool}{d:TypeDesc}(hs:∀a b,Instr.sameNow d (c a) (c b)=some (q a b))(k:κ):∀(ks:List κ) (l:List MapEntry) (i:Nat),l.map (·.key)=ks.map c→Instr.findNow d (c k) l i=some (fndM q k ks l i)
 | [],[],i,_=>rfl
 | [],_ :: _,_,h=>by simp at h
 | _ :: _,[],_,h=>by simp at h
 | k' :: ks,e :: l,i,h=>by
   simp only[List.map_cons,List.cons.injEq] at h;rw[Instr.findNow,h.1,hs,fndM];cases hq:q k k'
   ·simp only[Bool.false_eq_true,if_false];exact find_now hs k ks l (i+1) h.2
   simp
def KeyE.now (c:κ→Value)(q:κ→κ→Bool)(qeq:∀a b,q a b=true↔a=b)(check:∀(e:Bool) (k:κ) (w:World),(Instr.checkKey e 10000 K (c k)).run P w=.ok () w)(d:TypeDesc)(hd:P.underlying K=some d)
    (hs:∀a b,Instr.sameNow d (c a) (c b)=some (q a b)) (bits:∀k,Instr.sameBits 10000 (c k) (c k)=true):KeyE P K κ:=
 ⟨c,q,qeq,check,fun k ks l w h=>Go.MapKept.run_findKey hd (find_now hs k ks l 0 h),bits⟩
def KeyE.ask (c:κ→Value)(q:κ→κ→Bool)(qeq:∀a b,q a b=true↔a=b)(check:∀(e:Bool) (k:κ) (w:World),(Instr.checkKey e 10000 K (c k)).run P w=.ok () w)(d:TypeDesc)(hd:P.underlying K=some d)
    (hs:∀a b,Instr.sameNow d (c a) (c b)=none) (heq:∀a b w,(Op.equal K (c a) (c b)).run P w=.ok (q a b) w) (bits:∀k,Instr.sameBits 10000 (c k) (c k)=true):KeyE P K κ:=
 ⟨c,q,qeq,check,fun k ks l w h=>by
  cases ks with
  | nil =>
    cases l with
    | nil=>exact Go.MapKept.run_findKey hd rfl
    | cons e l=>simp at h
  | cons k' ks =>
    cases l with
    | nil=>simp at h
    | cons e l =>
      have h1:Instr.findNow d (c k) (e :: l) 0=none:=by
       simp only[List.map_cons,List.cons.injEq] at h;rw[Instr.findNow,h.1,hs]
      simp only[Instr.findKey,Sem.run_bind,run_underlying hd,Result.andThen_ok,h1];exact find_ask heq k (k' :: ks) (e :: l) 0 w h,bits⟩
def Sta (bs:List Nat)(clock:Nat):Prop:=(∀b∈bs,b<clock)∧bs.Nodup
theorem sta_push {bs:List Nat}{clock:Nat}(h:Sta bs clock):Sta (bs++[clock]) (clock+1):=by
 refine⟨fun b hb=>?_,?_⟩
 ·simp only[List.mem_append,List.mem_singleton] at hb
  rcases hb with hb | rfl
  ·have:=h.1 b hb;omega
  omega
 rw[List.nodup_append];refine⟨h.2,by simp,fun a ha b hb e=>?_⟩;simp only[List.mem_singleton] at hb;have:=h.1 a ha;omega
theorem born_modify (f:MapEntry→MapEntry)(hf:∀e,(f e).born=e.born):∀(l:List MapEntry) (i:Nat),(l.modify i f).map (·.born)=l.map (·.born)
 | [],i=>by simp
 | a :: l,0=>by simp[hf]
 | a :: l,i+1=>by
   have ih:=born_modify f hf l i;simp[List.modify_succ_cons,ih]
def MAt (E:KeyE P K κ)(ve:β→Value)(w:World)(B:Nat)(M:List (κ×β)):Prop:=
 ∃es clock,w.heap[B]?=some (.map es clock)∧es.toList.map (·.key)=(M.map (·.1)).map E.c∧es.toList.map (·.val)=(M.map (·.2)).map ve∧Sta (es.toList.map (·.born)) clock
variable {E:KeyE P K κ}{ve:β→Value}
theorem MAt.lt {w:World}{B:Nat}{M:List (κ×β)}(h:MAt E ve w B M):B<w.heap.size:=by
 obtain⟨es,clock,h1,_⟩:=h;exact (Array.getElem?_eq_some_iff.1 h1).1
theorem MAt.later {w w':World}{B:Nat}{M:List (κ×β)}(h:MAt E ve w B M)(hb:Below w.heap.size w w'):MAt E ve w' B M:=by
 have hlt:=h.lt;obtain⟨es,clock,h1,h2⟩:=h;exact⟨es,clock,(hb.block B hlt).trans h1,h2⟩
theorem MAt.kept {w w':World}{B:Nat}{M:List (κ×β)}{row:Option Nat}(h:MAt E ve w B M)(hg:w.grownBy w' row)(hne:some B≠row):MAt E ve w' B M:=by
 have hlt:=h.lt;obtain⟨es,clock,h1,h2⟩:=h;exact⟨es,clock,(hg.block B hlt hne).trans h1,h2⟩
theorem mat_new (E:KeyE P K κ)(ve:β→Value)(w:World):MAt E ve (w.alloc (.map #[] 0)) w.heap.size []:=⟨#[],0,heap_alloc_new w _,rfl,rfl,by simp[Sta]⟩
theorem fnd_get {q:κ→κ→Bool}{k:κ}:∀(M:List (κ×β)) (l:List MapEntry) (i:Nat),l.map (·.val)=(M.map (·.2)).map ve→((fndM q k (M.map (·.1)) l i).map (·.2))=(mget q k M).map ve
 | [],[],_,_=>rfl
 | [],_ :: _,_,h=>by simp at h
 | _ :: _,[],_,h=>by simp at h
 | p :: M,e :: l,i,h=>by
   simp only[List.map_cons,List.cons.injEq] at h;rw[List.map_cons,fndM,mget];cases hq:q k p.1
   ·simp only[Bool.false_eq_true,if_false];exact fnd_get M l (i+1) h.2
   simp[h.1]
def getV (ve:β→Value)(z:Value)(o:Option β):Value:=match o with | some b=>ve b | none=>z
theorem run_lookup_M {w:World}{B:Nat}{M:List (κ×β)}(h:MAt E ve w B M)(t e:TypeId)(ht:P.underlying t=some (.map K e))(z:Value)(hz:∀w,(zeroValue e).run P w=.ok z w)(k:κ)(ok:Bool):
 (Instr.lookup t (.map (some B)) (E.c k) ok).run P w=.ok (if ok then .tuple #[getV ve z (mget E.q k M),.bool (mget E.q k M).isSome] else getV ve z (mget E.q k M)) w:=by
 obtain⟨es,clock,h1,h2,h3,_⟩:=h;have hf:=E.find k (M.map (·.1)) es.toList w h2;have hg:=fnd_get (ve:=ve) (q:=E.q) (k:=k) M es.toList 0 h3;simp only[Instr.lookup,Sem.run_bind,run_underlying ht,Result.andThen_ok,Go.MapKept.run_getObj_map h1,Sem.run_pure,E.check,hf]
 generalize fndM E.q k (M.map (·.1)) es.toList 0=r at *
 cases r with
 | none =>
   cases hm:mget E.q k M with
   | none=>cases ok <;> simp[getV,hz]
   | some b=>rw[hm] at hg;simp at hg
 | some p =>
   cases hm:mget E.q k M with
   | none=>rw[hm] at hg;simp at hg
   | some b =>
     rw[hm] at hg;simp at hg;cases ok <;> simp[getV,hg]
theorem fnd_put {q:κ→κ→Bool}(qeq:∀a b,q a b=true↔a=b){c:κ→Value}{k:κ}{b:β}:∀(M:List (κ×β)) (l:List MapEntry) (s:Nat),l.map (·.key)=(M.map (·.1)).map c→l.map (·.val)=(M.map (·.2)).map ve →
 (fndM q k (M.map (·.1)) l s=none∧(mput q k b M)=M++[(k,b)])∨∃i v,fndM q k (M.map (·.1)) l s=some (s+i,v)∧∃hi:i<l.length,l[i].key=c k ∧
  (l.modify i (fun e=>{ e with key:=c k,val:=ve b })).map (·.key)=((mput q k b M).map (·.1)).map c∧(l.modify i (fun e=>{ e with key:=c k,val:=ve b })).map (·.val)=((mput q k b M).map (·.2)).map ve
 | [],[],_,_,_=>.inl ⟨rfl,rfl⟩
 | [],_ :: _,_,h,_=>by simp at h
 | _ :: _,[],_,h,_=>by simp at h
 | p :: M,e :: l,s,h,h'=>by
   simp only[List.map_cons,List.cons.injEq] at h h';rw[List.map_cons,fndM,mput];cases hq:q k p.1
   ·simp only[Bool.false_eq_true,if_false]
    rcases fnd_put qeq (c:=c) (k:=k) (b:=b) M l (s+1) h.2 h'.2 with ⟨h1,h2⟩ | ⟨i,v,h1,hi,h2,h3,h4⟩
    ·exact .inl ⟨h1,by rw[h2];rfl⟩
    refine .inr ⟨i+1,v,by rw[h1];congr 2;omega,by simp;omega,by simpa using h2,?_,?_⟩
    ·simp only[List.modify_succ_cons,List.map_cons,h.1,h3]
    simp only[List.modify_succ_cons,List.map_cons,h'.1,h4]
   simp only[if_true];have e1:=(qeq _ _).1 hq;refine .inr ⟨0,e.val,rfl,by simp,by simp[h.1,e1],?_,?_⟩
   ·simp[h.2]
   simp[h'.2]
theorem run_update_M {w:World}{B:Nat}{M:List (κ×β)}(h:MAt E ve w B M)(t e:TypeId)(ht:P.underlying t=some (.map K e))(k:κ)(b:β):
 ∃w',(Instr.mapUpdate t (.map (some B)) (E.c k) (ve b)).run P w=.ok () w'∧MAt E ve w' B (mput E.q k b M)∧w.grownBy w' (some B):=by
 have hlt:=h.lt;obtain⟨es,clock,h1,h2,h3,hst⟩:=h;have hf:=E.find k (M.map (·.1)) es.toList w h2;have hgr:∀o:Obj,w.grownBy { w with heap:=w.heap.setIfInBounds B o } (some B):=fun o=>⟨rfl,rfl,rfl,by simp,fun j _ hj=>by
  have:B≠j:=fun e=>hj (by rw[e])
  simp[Array.getElem?_setIfInBounds_ne this]⟩
 have hat:∀o:Obj,({ w with heap:=w.heap.setIfInBounds B o }:World).heap[B]?=some o:=fun o=>by simp[hlt]
 rcases fnd_put E.qeq (ve:=ve) (c:=E.c) (k:=k) (b:=b) M es.toList 0 h2 h3 with ⟨r1,r2⟩ | ⟨i,v,r1,hi,r2,r3,r4⟩
 ·rw[r1] at hf;refine⟨_,?_,⟨es.push { key:=E.c k,val:=ve b,born:=clock },clock+1,hat _,?_,?_,by simpa using sta_push hst⟩,hgr _⟩
  ·simp only[Instr.mapUpdate,Sem.run_bind,run_underlying ht,Result.andThen_ok,Go.MapKept.run_getObj_map h1,E.check,hf,Go.MapKept.run_setObj_map _ h1]
  ·rw[r2];simp[h2]
  rw[r2];simp[h3]
 rw[r1] at hf;have hk:((es[i]?).map (·.key)).getD (E.c k)=E.c k:=by
  have hi2:i<es.size:=by simpa using hi
  rw[Array.getElem?_eq_getElem hi2];simpa using r2
 refine⟨_,?_,⟨es.modify i fun e=>{ e with key:=E.c k,val:=ve b },clock,hat _,?_,?_,by have hbm:=born_modify (fun e:MapEntry=>{ e with key:=E.c k,val:=ve b }) (fun _=>rfl) es.toList i;rw[Array.toList_modify,hbm];exact hst⟩,hgr _⟩
 ·simp only[Instr.mapUpdate,Sem.run_bind,run_underlying ht,Result.andThen_ok,Go.MapKept.run_getObj_map h1,E.check,hf,Nat.zero_add,hk,Instr.keyThatStays,E.bits,if_true,Sem.run_pure,Go.MapKept.run_setObj_map _ h1]
 ·rw[Array.toList_modify];exact r3
 rw[Array.toList_modify];exact r4
theorem find_born {l:List MapEntry}:∀{j:Nat} {e0:MapEntry},(l.map (·.born)).Nodup→l[j]?=some e0→l.findIdx? (fun e=>((e.born:Nat):Int)==((e0.born:Nat):Int))=some j:=by
 induction l with
 | nil=>intro j e0 _ h;simp at h
 | cons a r ih =>
   intro j e0 hn h;simp only[List.map_cons,List.nodup_cons] at hn;cases j with
   | zero =>
     simp only[List.getElem?_cons_zero,Option.some.injEq] at h;subst h;simp[List.findIdx?_cons]
   | succ j =>
     simp only[List.getElem?_cons_succ] at h;have hne:¬a.born=e0.born:=fun e1=>hn.1 (List.mem_map.2 ⟨e0,List.mem_of_getElem? h,e1.symm⟩)
     have hb:(((a.born:Nat):Int)==((e0.born:Nat):Int))=false:=by
      simp only[beq_eq_false_iff_ne,ne_eq,Int.natCast_inj];exact hne
     rw[List.findIdx?_cons,hb];simp[ih hn.2 h]
theorem idx_toList (xs:Array MapEntry)(p:MapEntry→Bool):xs.findIdx? p=xs.toList.findIdx? p:=by
 cases xs;simp
theorem modify_end {α:Type}(f:α→α)(a:α):∀l:List α,(l++[a]).modify l.length f=l++[f a]
 | []=>rfl
 | b :: r=>by simp[List.modify_succ_cons,modify_end f a r]
theorem modify_at {α:Type}(f g:α→α):∀(l:List α) (i:Nat) (hi:i<l.length),f l[i]=g l[i]→l.modify i f=l.modify i g
 | a :: l,0,_,h=>by simpa using h
 | a :: l,i+1,hi,h=>by
   have:=modify_at f g l i (by simpa using hi) (by simpa using h);simp[List.modify_succ_cons,this]
theorem modify_id {α:Type}(f:α→α):∀(l:List α) (i:Nat) (hi:i<l.length),f l[i]=l[i]→l.modify i f=l
 | a :: l,0,_,h=>by simpa using h
 | a :: l,i+1,hi,h=>by
   have:=modify_id f l i (by simpa using hi) (by simpa using h);simp[List.modify_succ_cons,this]
theorem run_entry_M {w:World}{B:Nat}{M:List (κ×β)}(h:MAt E ve w B M)(t e:TypeId)(ht:P.underlying t=some (.map K e))(z:β)(hz:∀w,(zeroValue e).run P w=.ok (ve z) w)(k:κ):
 ∃ (v0:Value) (st:Nat) (w1:World),(Instr.mapEntry t (.map (some B)) (E.c k)).run P w=.ok (.tuple #[v0,.int .i64 (st:Int)]) w1∧w.grownBy w1 (some B)∧MAt E ve w1 B (mput E.q k ((mget E.q k M).getD z) M) ∧
   ∀(w2:World) (b:β),w2.heap[B]?=w1.heap[B]?→∃w3,(Instr.entryStore t (.map (some B)) (.int .i64 (st:Int)) (ve b)).run P w2=.ok () w3∧MAt E ve w3 B (mput E.q k b M)∧w2.grownBy w3 (some B):=by
 have hlt:=h.lt;obtain⟨es,clock,h1,h2,h3,hst⟩:=h;have hf:=E.find k (M.map (·.1)) es.toList w h2;have hgr:∀(w:World) (o:Obj),w.grownBy { w with heap:=w.heap.setIfInBounds B o } (some B):=fun w o=>⟨rfl,rfl,rfl,by simp,fun j _ hj=>by
  have:B≠j:=fun e=>hj (by rw[e])
  simp[Array.getElem?_setIfInBounds_ne this]⟩
 have hat:∀(w:World) (o o':Obj),w.heap[B]?=some o'→({ w with heap:=w.heap.setIfInBounds B o }:World).heap[B]?=some o:=fun w o o' hw=>by
  have hl:B<w.heap.size:=(Array.getElem?_eq_some_iff.1 hw).1;simp[hl]
 rcases fnd_put E.qeq (ve:=ve) (c:=E.c) (k:=k) (b:=z) M es.toList 0 h2 h3 with ⟨r1,r2⟩ | ⟨i,v,r1,hi,r2,r3,r4⟩
 ·rw[r1] at hf;have hno:mget E.q k M=none:=by
   have:=fnd_get (ve:=ve) (q:=E.q) (k:=k) M es.toList 0 h3;rw[r1] at this;cases hm:mget E.q k M with
   | none=>rfl
   | some b=>rw[hm] at this;simp at this
  have hput:∀b,mput E.q k b M=M++[(k,b)]:=fun b=>by
   rcases fnd_put E.qeq (ve:=ve) (c:=E.c) (k:=k) (b:=b) M es.toList 0 h2 h3 with ⟨_,r⟩ | ⟨i,v,q1,_⟩
   ·exact r
   rw[r1] at q1;cases q1
  refine⟨ve z,clock,{ w with heap:=w.heap.setIfInBounds B (.map (es.push { key:=E.c k,val:=ve z,born:=clock }) (clock+1)) },?_,hgr _ _,⟨_,_,hat _ _ _ h1,?_,?_,by simpa using sta_push hst⟩,fun w2 b hw2=>?_⟩
  ·simp only[Instr.mapEntry,Sem.run_bind,run_underlying ht,Result.andThen_ok,Go.MapKept.run_getObj_map h1,E.check,hf,hz,Go.MapKept.run_setObj_map _ h1,Sem.run_pure];rfl
  ·rw[hno,hput];simp[h2]
  ·rw[hno,hput];simp[h3]
  rw[hat _ _ _ h1] at hw2;have hidx:(es.push { key:=E.c k,val:=ve z,born:=clock }).findIdx? (fun e=>((e.born:Nat):Int)==((clock:Nat):Int))=some es.size:=by
   rw[idx_toList];exact find_born (l:=(es.push { key:=E.c k,val:=ve z,born:=clock }).toList) (j:=es.size) (e0:={ key:=E.c k,val:=ve z,born:=clock }) (by simpa using (sta_push hst).2) (by simp)
  have hmod:(es.push { key:=E.c k,val:=ve z,born:=clock }).modify es.size (fun e=>{ e with val:=ve b })=es.push { key:=E.c k,val:=ve b,born:=clock }:=by
   apply Array.ext'
   rw[Array.toList_modify,Array.toList_push,Array.toList_push,←Array.length_toList,modify_end]
  refine⟨{ w2 with heap:=w2.heap.setIfInBounds B (.map (es.push { key:=E.c k,val:=ve b,born:=clock }) (clock+1)) },?_,⟨_,_,hat _ _ _ hw2,?_,?_,by simpa using sta_push hst⟩,hgr _ _⟩
  ·simp[Instr.entryStore,Go.MapKept.run_getObj_map hw2,asInt,asIntOf,hidx,hmod,Go.MapKept.run_setObj_map _ hw2,Result.andThen]
  ·rw[hput];simp[h2]
  rw[hput];simp[h3]
 rw[r1] at hf;simp only[Nat.zero_add] at hf r1;have hi2:i<es.size:=by simpa using hi
 have hie:es[i]?=some es[i]:=Array.getElem?_eq_getElem hi2;have hil:es.toList[i]?=some es[i]:=by simp[hi2]
 have hkey:es[i].key=E.c k:=by simpa using r2
 have hget:∃b0,mget E.q k M=some b0∧ve b0=v:=by
  have:=fnd_get (ve:=ve) (q:=E.q) (k:=k) M es.toList 0 h3;rw[r1] at this;cases hm:mget E.q k M with
  | none=>rw[hm] at this;simp at this
  | some b=>rw[hm] at this;simp at this;exact⟨b,rfl,this.symm⟩
 obtain⟨b0,hb0,hv⟩:=hget;have hsame:es.modify i (fun e=>{ e with key:=E.c k })=es:=by
  apply Array.ext'
  rw[Array.toList_modify];refine modify_id _ _ i hi ?_;have:es.toList[i].key=E.c k:=r2;rw[←this]
 have hall:∀b,(es.toList.modify i (fun e=>{ e with key:=E.c k,val:=ve b })).map (·.key)=((mput E.q k b M).map (·.1)).map E.c∧(es.toList.modify i (fun e=>{ e with key:=E.c k,val:=ve b })).map (·.val)=((mput E.q k b M).map (·.2)).map ve:=fun b=>by
  rcases fnd_put E.qeq (ve:=ve) (c:=E.c) (k:=k) (b:=b) M es.toList 0 h2 h3 with ⟨q1,_⟩ | ⟨j,v',q1,_,_,q3,q4⟩
  ·rw[r1] at q1;cases q1
  rw[r1] at q1;simp only[Option.some.injEq,Prod.mk.injEq,Nat.zero_add] at q1;obtain⟨rfl,_⟩:=q1;exact⟨q3,q4⟩
 have hold:mput E.q k b0 M=M:=by
  have hput:∀(M:List (κ×β)),mget E.q k M=some b0→mput E.q k b0 M=M:=by
   intro M
   induction M with
   | nil=>intro h;cases h
   | cons p M ih =>
     intro h;rw[mget] at h;rw[mput];by_cases e:E.q k p.1=true
     ·rw[if_pos e] at h ⊢;have e1:=(E.qeq _ _).1 e;simp at h;subst h;subst e1;rfl
     rw[if_neg e] at h ⊢;rw[ih h]
  exact hput M hb0
 refine⟨v,es[i].born,w,?_,⟨rfl,rfl,rfl,Nat.le_refl _,fun _ _ _=>rfl⟩,⟨es,clock,h1,?_,?_,hst⟩,fun w2 b hw2=>?_⟩
 ·have hrefl:({ w with heap:=w.heap.setIfInBounds B (.map es clock) }:World)=w:=by
   have:w.heap.setIfInBounds B (.map es clock)=w.heap:=by
    apply Array.ext_getElem?
    intro j;by_cases e:B=j
    ·subst e;exact (hat w (.map es clock) _ h1).trans h1.symm
    simp[Array.getElem?_setIfInBounds_ne e]
   rw[this]
  simp only[Instr.mapEntry,Sem.run_bind,run_underlying ht,Result.andThen_ok,Go.MapKept.run_getObj_map h1,E.check,hf,hie,Option.map_some,Option.getD_some,hkey,Instr.keyThatStays,E.bits,if_true,Sem.run_pure,hsame,Go.MapKept.run_setObj_map _ h1];rw[hrefl];rfl
 ·rw[hb0,Option.getD_some,hold];exact h2
 ·rw[hb0,Option.getD_some,hold];exact h3
 rw[h1] at hw2;have hidx:es.findIdx? (fun e=>((e.born:Nat):Int)==((es[i].born:Nat):Int))=some i:=by
  rw[idx_toList];exact find_born hst.2 hil
 have hmod:es.modify i (fun e=>{ e with val:=ve b })=es.modify i (fun e=>{ e with key:=E.c k,val:=ve b }):=by
  apply Array.ext'
  rw[Array.toList_modify,Array.toList_modify];refine modify_at _ _ _ i hi ?_;have:es.toList[i].key=E.c k:=r2;rw[←this]
 refine⟨{ w2 with heap:=w2.heap.setIfInBounds B (.map (es.modify i (fun e=>{ e with key:=E.c k,val:=ve b })) clock) },?_,⟨_,_,hat _ _ _ hw2,?_,?_,by have hbm:=born_modify (fun e:MapEntry=>{ e with key:=E.c k,val:=ve b }) (fun _=>rfl) es.toList i;rw[Array.toList_modify,hbm];exact hst⟩,hgr _ _⟩
 ·simp[Instr.entryStore,Go.MapKept.run_getObj_map hw2,asInt,asIntOf,hidx,hmod,Go.MapKept.run_setObj_map _ hw2,Result.andThen]
 ·rw[Array.toList_modify];exact (hall b).1
 rw[Array.toList_modify];exact (hall b).2
variable {w:World}{ops:Array Oper}{rest:List Oper}{o:Oper}{a:Act}{Q:Exit→Act→World→Prop}
end
theorem ba_eq {a b:ByteArray}:(a==b)=true↔a=b:=by
 obtain⟨x⟩:=a;obtain⟨y⟩:=b;show (x==y)=true↔_;simp
def spB (S:Int)(x:Int×Int):Bool:=decide (1≤x.1)&&(decide (x.1≤S)&&(decide (1≤x.2)&&decide (x.2≤4)))
def nmB (s:ByteArray):Bool:=decide (1≤s.size)&&(decide (s.size≤6)&&s.data.toList.all fun c=>decide (97≤c.toNat)&&decide (c.toNat≤122))
def spsL (Ls:List ((Int×Int)×(Int×Int))):List (Int×Int):=Ls.flatMap fun l=>[l.1,l.2]
def lkN (S:Int):List ((Int×Int)×(Int×Int))→List (Int×Int)→Int
 | [],_=>0
 | l :: Ls,U=>if spB S l.1&&spB S l.2 then (if l.1==l.2 || (U.any fun u=>u==l.1 || u==l.2) then 7 else lkN S Ls (U++[l.1,l.2])) else 1
def hoN (S:Int):List (ByteArray×(Int×Int))→List ByteArray→List (Int×Int)→Int
 | [],_,_=>0
 | h :: Hs,N,U=>if nmB h.1 then (if spB S h.2 then (if (N.any fun n=>n==h.1) || (U.any fun u=>u==h.2) then 7 else hoN S Hs (N++[h.1]) (U++[h.2])) else 1) else 2
def tpN (S:Int)(Ls:List ((Int×Int)×(Int×Int)))(Hs:List (ByteArray×(Int×Int))):Int:=
 if decide (1≤S)&&decide (S≤6) then (if decide (Ls.length≤200)&&decide (Hs.length≤8) then (if lkN S Ls []=0 then hoN S Hs [] (spsL Ls) else lkN S Ls []) else 4) else 1
def peerO:List ((Int×Int)×(Int×Int))→(Int×Int)→Option (Int×Int)
 | [],_=>none
 | l :: Ls,s=>if l.1==s then some l.2 else if l.2==s then some l.1 else peerO Ls s
def atO:List (ByteArray×(Int×Int))→(Int×Int)→Option ByteArray
 | [],_=>none
 | h :: Hs,s=>if h.2==s then some h.1 else atO Hs s
def whereO:List (ByteArray×(Int×Int))→ByteArray→Option (Int×Int)
 | [],_=>none
 | h :: Hs,n=>if h.1==n then some h.2 else whereO Hs n
theorem sp_of {S:Int}{x:Int×Int}(h:spB S x=true):1≤x.1∧x.1≤S∧1≤x.2∧x.2≤4:=by
 simpa[spB] using h
theorem lk_0 {S:Int}:∀{Ls:List ((Int×Int)×(Int×Int))} {U:List (Int×Int)},U.Nodup→(lkN S Ls U=0↔(∀x∈spsL Ls,spB S x=true)∧(U++spsL Ls).Nodup)
 | [],U,hU=>by simp[lkN,spsL,hU]
 | l :: Ls,U,hU=>by
   obtain⟨x,y⟩:=l;have e:spsL ((x,y) :: Ls)=x :: y :: spsL Ls:=rfl;rw[lkN,e];simp only;by_cases h1:spB S x&&spB S y
   ·rw[if_pos h1];simp only[Bool.and_eq_true] at h1;by_cases h2:(x==y || (U.any fun u=>u==x || u==y))=true
    ·rw[if_pos h2];refine⟨fun h=>absurd h (by decide),fun h=>?_⟩
     exfalso
     have hn:=h.2;rw[List.nodup_append] at hn;obtain⟨_,h3,h4⟩:=hn;simp only[Bool.or_eq_true,beq_iff_eq,List.any_eq_true] at h2
     rcases h2 with h2 | ⟨u,hu,h2 | h2⟩
     ·subst h2;rw[List.nodup_cons] at h3;exact h3.1 (by simp)
     ·exact h4 u hu x (by simp) h2
     exact h4 u hu y (by simp) h2
    rw[if_neg h2];simp only[Bool.or_eq_true,beq_iff_eq,List.any_eq_true,not_or,not_exists,not_and] at h2;have hU2:(U++[x,y]).Nodup:=by
     rw[List.nodup_append];refine⟨hU,by simp[h2.1],?_⟩;intro a ha b hb e;subst e;simp only[List.mem_cons,List.not_mem_nil,or_false] at hb;have:=h2.2 a ha
     rcases hb with rfl | rfl
     ·exact this.1 rfl
     exact this.2 rfl
    rw[lk_0 hU2];have e2:U++[x,y]++spsL Ls=U++x :: y :: spsL Ls:=by simp
    rw[e2];refine and_congr ⟨fun h=>?_,fun h z hz=>h z (by simp[hz])⟩ Iff.rfl;intro z hz;simp only[List.mem_cons] at hz
    rcases hz with rfl | rfl | hz
    ·exact h1.1
    ·exact h1.2
    exact h z hz
   rw[if_neg h1];refine⟨fun h=>absurd h (by decide),fun h=>?_⟩;exact absurd (by simp[h.1 x (by simp),h.1 y (by simp)]) h1
theorem ho_0 {S:Int}:∀{Hs:List (ByteArray×(Int×Int))} {N:List ByteArray} {U:List (Int×Int)},N.Nodup→U.Nodup→(hoN S Hs N U=0↔(∀h∈Hs,nmB h.1=true∧spB S h.2=true)∧(N++Hs.map (·.1)).Nodup∧(U++Hs.map (·.2)).Nodup)
 | [],N,U,hN,hU=>by simp[hoN,hN,hU]
 | h :: Hs,N,U,hN,hU=>by
   obtain⟨n,x⟩:=h;rw[hoN];simp only[List.map_cons];by_cases h1:nmB n=true
   ·rw[if_pos h1];by_cases h2:spB S x=true
    ·rw[if_pos h2];by_cases h3:((N.any fun m=>m==n) || (U.any fun u=>u==x))=true
     ·rw[if_pos h3];refine⟨fun h=>absurd h (by decide),fun h=>?_⟩
      exfalso
      simp only[Bool.or_eq_true,ba_eq,beq_iff_eq,List.any_eq_true] at h3
      rcases h3 with ⟨m,hm,e⟩ | ⟨u,hu,e⟩
      ·have:=(List.nodup_append.1 h.2.1).2.2;exact this m hm n (by simp) e
      have:=(List.nodup_append.1 h.2.2).2.2;exact this u hu x (by simp) e
     rw[if_neg h3];simp only[Bool.or_eq_true,ba_eq,beq_iff_eq,List.any_eq_true,not_or,not_exists,not_and] at h3;have hN2:(N++[n]).Nodup:=by
      rw[List.nodup_append];refine⟨hN,by simp,fun a ha b hb e=>?_⟩;simp only[List.mem_singleton] at hb;subst hb;exact h3.1 a ha e
     have hU2:(U++[x]).Nodup:=by
      rw[List.nodup_append];refine⟨hU,by simp,fun a ha b hb e=>?_⟩;simp only[List.mem_singleton] at hb;subst hb;exact h3.2 a ha e
     rw[ho_0 hN2 hU2];have e1:N++[n]++Hs.map (·.1)=N++n :: Hs.map (·.1):=by simp
     have e2:U++[x]++Hs.map (·.2)=U++x :: Hs.map (·.2):=by simp
     rw[e1,e2];refine and_congr ⟨fun h z hz=>?_,fun h z hz=>h z (by simp[hz])⟩ Iff.rfl
     rcases List.mem_cons.1 hz with rfl | hz
     ·exact⟨h1,h2⟩
     exact h z hz
    rw[if_neg h2];refine⟨fun h=>absurd h (by decide),fun h=>?_⟩;exact absurd (h.1 (n,x) (by simp)).2 h2
   rw[if_neg h1];refine⟨fun h=>absurd h (by decide),fun h=>?_⟩;exact absurd (h.1 (n,x) (by simp)).1 h1
theorem tp_0 {S:Int}{Ls:List ((Int×Int)×(Int×Int))}{Hs:List (ByteArray×(Int×Int))}(h:tpN S Ls Hs=0):
 (1≤S∧S≤6)∧(Ls.length≤200∧Hs.length≤8)∧(∀x∈spsL Ls,spB S x=true)∧(spsL Ls).Nodup∧(∀h∈Hs,nmB h.1=true∧spB S h.2=true)∧(Hs.map (·.1)).Nodup∧(spsL Ls++Hs.map (·.2)).Nodup:=by
 unfold tpN at h;by_cases h1:(decide (1≤S)&&decide (S≤6))=true
 ·rw[if_pos h1] at h;by_cases h2:(decide (Ls.length≤200)&&decide (Hs.length≤8))=true
  ·rw[if_pos h2] at h;by_cases h3:lkN S Ls []=0
   ·rw[if_pos h3] at h;have h4:=(lk_0 (S:=S) (Ls:=Ls) (U:=[]) List.nodup_nil).1 h3;simp only[List.nil_append] at h4;have h5:=(ho_0 (S:=S) (Hs:=Hs) (N:=[]) (U:=spsL Ls) List.nodup_nil h4.2).1 h;simp only[List.nil_append] at h5;simp only[Bool.and_eq_true,decide_eq_true_eq] at h1 h2;exact⟨h1,h2,h4.1,h4.2,h5.1,h5.2.1,h5.2.2⟩
   rw[if_neg h3] at h;exact absurd h h3
  rw[if_neg h2] at h;exact absurd h (by decide)
 rw[if_neg h1] at h;exact absurd h (by decide)
theorem peer_in:∀{Ls:List ((Int×Int)×(Int×Int))} {s p:Int×Int},peerO Ls s=some p→s∈spsL Ls∧p∈spsL Ls
 | [],_,_,h=>by cases h
 | l :: Ls,s,p,h=>by
   obtain⟨x,y⟩:=l;have e:spsL ((x,y) :: Ls)=x :: y :: spsL Ls:=rfl;rw[peerO] at h;rw[e];by_cases h1:x=s
   ·subst h1;simp at h;subst h;simp
   by_cases h2:y=s
   ·subst h2;simp[h1] at h;subst h;simp
   simp[h1,h2] at h;have:=peer_in h;simp[this.1,this.2]
structure But (X:List Nat)(w w':World):Prop where
 os:w'.os=w.os
 tape:w'.tape=w.tape
 output:w'.output=w.output
 size:w.heap.size≤w'.heap.size
 block:∀k,k<w.heap.size→k ∉ X→w'.heap[k]?=w.heap[k]?
theorem But.refl (X:List Nat)(w:World):But X w w:=⟨rfl,rfl,rfl,Nat.le_refl _,fun _ _ _=>rfl⟩
theorem But.trans {X:List Nat}{a b c:World}(h:But X a b)(k:But X b c):But X a c:=
 ⟨k.os.trans h.os,k.tape.trans h.tape,k.output.trans h.output,Nat.le_trans h.size k.size,fun i hi hx=>(k.block i (Nat.lt_of_lt_of_le hi h.size) hx).trans (h.block i hi hx)⟩
theorem But.drew {X:List Nat}{a w:World}(h:But X a w):But X a w.drew:=⟨h.os,h.tape,h.output,h.size,h.block⟩
theorem wrap_small {x:Int}(h1 : -1000000≤x)(h2:x≤1000000):IntKind.i64.wrap x=x:=by
 rw[IntKind.wrap_i64];omega
theorem But.of_below {X:List Nat}{w w':World}(h:Below w.heap.size w w'):But X w w':=⟨h.os,h.tape,h.output,h.size,fun k hk _=>h.block k hk⟩
theorem But.of_grown {X:List Nat}{w w':World}{B:Nat}(h:w.grownBy w' (some B))(hB:B∈X):But X w w':=
 ⟨h.os,h.tape,h.output,h.size,fun k hk hx=>h.block k hk (fun e=>hx (by cases e;exact hB))⟩
theorem But.mono {X Y:List Nat}{w w':World}(h:But X w w')(hX:∀x∈X,x∈Y):But Y w w':=⟨h.os,h.tape,h.output,h.size,fun k hk hx=>h.block k hk (fun e=>hx (hX k e))⟩
theorem But.below {X:List Nat}{w w':World}{B:Nat}(h:But X w w')(hB:B≤w.heap.size)(hX:∀x∈X,B≤x):Below B w w':=
 ⟨h.os,h.tape,h.output,h.size,fun k hk=>h.block k (by omega) (fun e=>by have:=hX k e;omega)⟩
theorem But.cell {X:List Nat}{w w':World}(h:But X w w'){p:Addr}(hl:p.block<w.heap.size)(hX:p.block ∉ X):w'.cell? p=w.cell? p:=World.cell?_of_block (w:=w) (h.block p.block hl hX)
section
variable {P:Program}{K:TypeId}{κ β:Type}{E:KeyE P K κ}{ve:β→Value}
theorem MAt.but {X:List Nat}{w w':World}{B:Nat}{M:List (κ×β)}(h:MAt E ve w B M)(hb:But X w w')(hX:B ∉ X):MAt E ve w' B M:=by
 have hlt:=h.lt;obtain⟨es,clock,h1,h2⟩:=h;exact⟨es,clock,(hb.block B hlt hX).trans h1,h2⟩
end
section
variable {κ:Type}
def ctM (q:κ→κ→Bool)(x:κ)(U:List κ):Nat:=(U.filter fun y=>q x y).length
theorem ct_app {q:κ→κ→Bool}(x:κ)(U V:List κ):ctM q x (U++V)=ctM q x U+ctM q x V:=by simp[ctM]
theorem ct_le {q:κ→κ→Bool}(x:κ)(U:List κ):ctM q x U≤U.length:=List.length_filter_le _ _
theorem ct_pos {q:κ→κ→Bool}(hq:∀a b,q a b=true↔a=b)(x:κ)(U:List κ):0<ctM q x U↔x∈U:=by
 unfold ctM;rw[List.length_pos_iff_exists_mem];simp only[List.mem_filter,hq];exact⟨fun ⟨y,h1,h2⟩=>h2 ▸ h1,fun h=>⟨x,h,rfl⟩⟩
def TK (q:κ→κ→Bool)(M:List (κ×Int))(U:List κ):Prop:=∀s,(mget q s M).getD 0=(ctM q s U:Int)
theorem tk_nil (q:κ→κ→Bool):TK q [] []:=fun s=>rfl
theorem tk_put {q:κ→κ→Bool}(hq:∀a b,q a b=true↔a=b){M:List (κ×Int)}{U:List κ}(h:TK q M U)(x:κ):TK q (mput q x ((ctM q x U:Int)+1) M) (U++[x]):=by
 intro s;rw[mget_put hq,ct_app];by_cases e:q s x=true
 ·rw[if_pos e];have e2:=(hq _ _).1 e;subst e2;have:ctM q s [s]=1:=by simp[ctM,e]
  rw[this];simp
 rw[if_neg e,h s];have:ctM q s [x]=0:=by simp[ctM,e]
 rw[this];simp
theorem ct_one {q:κ→κ→Bool}(hq:∀a b,q a b=true↔a=b)(x y:κ):ctM q x [y]=if q x y then 1 else 0:=by
 cases h:q x y <;> simp[ctM,h]
end
def sq (a b:Int×Int):Bool:=a.1==b.1&&a.2==b.2
theorem sq_iff (a b:Int×Int):sq a b=true↔a=b:=by
 obtain⟨x,y⟩:=a;obtain⟨z,v⟩:=b;simp[sq]
def lk1 (S:Int)(U:List (Int×Int))(l:(Int×Int)×(Int×Int)):Int:=if spB S l.1&&spB S l.2 then (if l.1==l.2 || (U.any fun u=>u==l.1 || u==l.2) then 7 else 0) else 1
theorem lk_step (S:Int)(l:(Int×Int)×(Int×Int))(Ls:List ((Int×Int)×(Int×Int)))(U:List (Int×Int)):lkN S (l :: Ls) U=if lk1 S U l=0 then lkN S Ls (U++[l.1,l.2]) else lk1 S U l:=by
 rw[lkN,lk1];by_cases h1:(spB S l.1&&spB S l.2)=true
 ·rw[if_pos h1,if_pos h1];by_cases h2:(l.1==l.2 || (U.any fun u=>u==l.1 || u==l.2))=true
  ·rw[if_pos h2,if_pos h2];rfl
  rw[if_neg h2,if_neg h2];rfl
 rw[if_neg h1,if_neg h1];rfl
def ho1 (S:Int)(N:List ByteArray)(U:List (Int×Int))(h:ByteArray×(Int×Int)):Int:=if nmB h.1 then (if spB S h.2 then (if (N.any fun n=>n==h.1) || (U.any fun u=>u==h.2) then 7 else 0) else 1) else 2
theorem ho_step (S:Int)(h:ByteArray×(Int×Int))(Hs:List (ByteArray×(Int×Int)))(N:List ByteArray)(U:List (Int×Int)):hoN S (h :: Hs) N U=if ho1 S N U h=0 then hoN S Hs (N++[h.1]) (U++[h.2]) else ho1 S N U h:=by
 rw[hoN,ho1];by_cases h1:nmB h.1=true
 ·rw[if_pos h1,if_pos h1];by_cases h2:spB S h.2=true
  ·rw[if_pos h2,if_pos h2];by_cases h3:((N.any fun n=>n==h.1) || (U.any fun u=>u==h.2))=true
   ·rw[if_pos h3,if_pos h3];rfl
   rw[if_neg h3,if_neg h3];rfl
  rw[if_neg h2,if_neg h2];rfl
 rw[if_neg h1,if_neg h1];rfl
theorem ct_link (U:List (Int×Int))(x y:Int×Int):(decide ((1:Int)<(ctM sq x (U++[x]++[y]):Int)) || decide ((1:Int)<(ctM sq y (U++[x]++[y]):Int)))=(x==y || (U.any fun u=>u==x || u==y)):=by
 rw[Bool.eq_iff_iff];simp only[ct_app,ct_one sq_iff,Bool.or_eq_true,decide_eq_true_eq,beq_iff_eq,List.any_eq_true];have hx:=ct_pos sq_iff x U;have hy:=ct_pos sq_iff y U;have sx:sq x x=true:=(sq_iff _ _).2 rfl;have sy:sq y y=true:=(sq_iff _ _).2 rfl;rw[sx,sy];simp only[if_true];by_cases e:x=y
 ·subst e;simp[sx];omega
 have n1:sq x y=false:=by
  cases h:sq x y
  ·rfl
  exact absurd ((sq_iff _ _).1 h) e
 have n2:sq y x=false:=by
  cases h:sq y x
  ·rfl
  exact absurd ((sq_iff _ _).1 h).symm e
 rw[n1,n2];simp only[Bool.false_eq_true,if_false,e,false_or];constructor
 ·rintro (h | h)
  ·exact⟨x,hx.1 (by omega),.inl rfl⟩
  exact⟨y,hy.1 (by omega),.inr rfl⟩
 rintro⟨u,hu,rfl | rfl⟩
 ·have:=hx.2 hu;left;omega
 have:=hy.2 hu;right;omega
theorem ba_iff (a b:ByteArray):(a==b)=true↔a=b:=ba_eq
theorem ct_host {κ:Type}{q:κ→κ→Bool}(hq:∀a b,q a b=true↔a=b)(U:List κ)(x:κ):decide ((1:Int)<(ctM q x (U++[x]):Int))=(U.any fun u=>q u x):=by
 rw[Bool.eq_iff_iff];simp only[ct_app,ct_one hq,decide_eq_true_eq,List.any_eq_true];have hx:=ct_pos hq x U;have sx:q x x=true:=(hq _ _).2 rfl;rw[sx];simp only[if_true];constructor
 ·intro h;exact⟨x,hx.1 (by omega),sx⟩
 rintro⟨u,hu,e⟩;have e2:=(hq _ _).1 e;subst e2;have:=hx.2 hu;omega
theorem sps_take {Ls:List ((Int×Int)×(Int×Int))}{k:Nat}(hk:k<Ls.length):spsL (Ls.take (k+1))=spsL (Ls.take k)++[Ls[k].1,Ls[k].2]:=by
 rw[List.take_succ_eq_append_getElem hk];unfold spsL;rw[List.flatMap_append];rfl
theorem sps_len (Ls:List ((Int×Int)×(Int×Int))):(spsL Ls).length=2*Ls.length:=by
 induction Ls with
 | nil=>rfl
 | cons l Ls ih =>
   have e:spsL (l :: Ls)=l.1 :: l.2 :: spsL Ls:=rfl;rw[e];simp[ih];omega
end
section
open Go.ChangeShapes Go.WideShapes Go.ChangeAt Go.RowKit
structure Enc (α:Type) where
 c:α→List Value
 n:Nat
 len:∀x,(c x).length=n
 pos:0<n
 one:∀x u,u∈c x→u.oneCell'=true
def VAt (w:World)(g o:Nat)(vs:List Value):Prop:=∀j u,vs[j]?=some u→w.cell? ⟨g,o+j,none⟩=some u
theorem VAt.later {w w':World}{g o:Nat}{vs:List Value}(h:VAt w g o vs)(hb:Below w.heap.size w w'):VAt w' g o vs:=fun j u hu=>cell_later hb (h j u hu)
theorem vat_new (w:World)(vs:List Value)(t:TypeId):VAt (w.alloc (.cells vs.toArray t)) w.heap.size 0 vs:=by
 intro j u hu;rw[Nat.zero_add];have hj:j<vs.length:=(List.getElem?_eq_some_iff.1 hu).1;simp only[World.cell?,World.alloc];simp[hu]
section
variable {α:Type}{E:Enc α}
def GAt (E:Enc α)(w:World)(g o:Nat)(L:List α):Prop:=∀i (h:i<L.length),VAt w g (o+i*E.n) (E.c L[i])
theorem GAt.later {w w':World}{g o:Nat}{L:List α}(h:GAt E w g o L)(hb:Below w.heap.size w w'):GAt E w' g o L:=fun i hi=>(h i hi).later hb
theorem GAt.take {w:World}{g o:Nat}{L:List α}(h:GAt E w g o L)(k:Nat):GAt E w g o (L.take k):=by
 intro i hi;rw[List.getElem_take];exact h i (by simp at hi;omega)
theorem GAt.drop {w:World}{g o:Nat}{L:List α}(h:GAt E w g o L)(k:Nat):GAt E w g (o+k*E.n) (L.drop k):=by
 intro i hi;have hi2:k+i<L.length:=by simp at hi;omega
 have:=h (k+i) hi2;rw[List.getElem_drop];have e:o+(k+i)*E.n=o+k*E.n+i*E.n:=by rw[Nat.add_mul];omega
 rw[←e];exact this
def GS (E:Enc α)(w:World)(v:Value)(L:List α):Prop:=
 (∃ao cap,v=.slice ao 0 cap∧L=[])∨∃g o cap,v=.slice (some ⟨g,o,none⟩) L.length cap∧L.length≤cap∧cap≤maxLen∧GAt E w g o L
theorem GS.later {w w':World}{v:Value}{L:List α}(h:GS E w v L)(hb:Below w.heap.size w w'):GS E w' v L:=by
 rcases h with h | ⟨g,o,cap,h1,h2,h3,h4⟩
 ·exact .inl h
 exact .inr ⟨g,o,cap,h1,h2,h3,h4.later hb⟩
theorem GS.form {w:World}{v:Value}{L:List α}(h:GS E w v L):∃ao n cap,v=.slice ao n cap∧L.length=n∧n≤maxLen∧n≤cap∧(0<n→∃g o,ao=some ⟨g,o,none⟩∧GAt E w g o L∧cap≤maxLen):=by
 rcases h with ⟨ao,cap,rfl,rfl⟩ | ⟨g,o,cap,rfl,h1,h2,h3⟩
 ·exact⟨ao,0,cap,rfl,rfl,Nat.zero_le _,Nat.zero_le _,fun h=>absurd h (by omega)⟩
 exact⟨_,_,cap,rfl,rfl,Nat.le_trans h1 h2,h1,fun _=>⟨g,o,rfl,h3,h2⟩⟩
theorem GS.len {w:World}{ao:Option Addr}{n cap:Nat}{L:List α}(h:GS E w (.slice ao n cap) L):L.length=n:=by
 rcases h with ⟨_,_,e,rfl⟩ | ⟨_,_,_,e,_⟩
 ·simp at e;simp[e]
 simp at e;exact e.2.1.symm
theorem GS.nil (w:World):GS E w (.slice none 0 0) []:=.inl ⟨none,0,rfl,rfl⟩
theorem gs_one (w:World)(x:α)(t:TypeId){vs:List Value}(hv:vs=E.c x):GS E (w.alloc (.cells vs.toArray t)) (.slice (some ⟨w.heap.size,0,none⟩) 1 1) [x]:=by
 subst hv;refine .inr ⟨w.heap.size,0,1,rfl,Nat.le_refl _,by unfold maxLen;omega,fun i hi=>?_⟩;obtain rfl:i=0:=by simp at hi;omega
 have h:=vat_new w (E.c x) t;simpa using h
def cellsG (E:Enc α)(L:List α):List Value:=L.flatMap E.c
theorem cellsG_len (L:List α):(cellsG E L).length=L.length*E.n:=by
 induction L with
 | nil=>simp[cellsG]
 | cons x r ih =>
   simp only[cellsG,List.flatMap_cons,List.length_append,List.length_cons,E.len] at *;rw[ih,Nat.add_mul];omega
theorem cellsG_app (L M:List α):cellsG E (L++M)=cellsG E L++cellsG E M:=by simp[cellsG]
theorem cellsG_one (x:α):cellsG E [x]=E.c x:=by simp[cellsG]
theorem cellsG_at (L:List α):∀(i:Nat) (h:i<L.length) (j:Nat),j<E.n→(cellsG E L)[i*E.n+j]?=(E.c L[i])[j]?:=by
 induction L with
 | nil=>intro i h;simp at h
 | cons x r ih =>
   intro i h j hj;cases i with
   | zero =>
     simp only[cellsG,List.flatMap_cons,Nat.zero_mul,Nat.zero_add,List.getElem_cons_zero];rw[List.getElem?_append_left (by rw[E.len];exact hj)]
   | succ i =>
     have:=ih i (by simpa using h) j hj;simp only[cellsG,List.flatMap_cons,List.getElem_cons_succ] at this ⊢;rw[List.getElem?_append_right (by rw[E.len,Nat.add_mul];omega),E.len];have e:(i+1)*E.n+j-E.n=i*E.n+j:=by rw[Nat.add_mul];omega
     rw[e];exact this
theorem cellsG_all (L:List α):∀u∈cellsG E L,u.oneCell'=true:=by
 intro u hu;simp only[cellsG,List.mem_flatMap] at hu;obtain⟨x,_,hx⟩:=hu;exact E.one x u hx
theorem own_GS {w:World}{B e:Nat}{v:Value}{L:List α}(h:w.ownsRow B e E.n v L.length (cellsG E L)):GS E w v L:=by
 rcases h.2 with ⟨rfl,h0⟩ | ⟨g,cap,cur,rfl,_,_,h1,h2,_⟩
 ·exact .inl ⟨none,0,rfl,List.length_eq_zero_iff.1 h0⟩
 refine .inr ⟨g,0,cap,rfl,h1,h2,fun i hi j u hu=>?_⟩;have hj:j<E.n:=by
  have:=(List.getElem?_eq_some_iff.1 hu).1;rw[E.len] at this;exact this
 have hlt:i*E.n+j<L.length*E.n:=by
  have:(i+1)*E.n≤L.length*E.n:=Nat.mul_le_mul_right _ hi;rw[Nat.add_mul] at this;omega
 rw[Nat.zero_add,h.cellAt _ hlt,cellsG_at L i hi j hj];exact hu
theorem GAt.cells {w:World}{g o:Nat}{M:List α}(h:GAt E w g o M):∀j u,(cellsG E M)[j]?=some u→w.cell? ((⟨g,o,none⟩:Addr).add j)=some u:=by
 intro j u hu;have hj:j<M.length*E.n:=by
  have:=(List.getElem?_eq_some_iff.1 hu).1;rw[cellsG_len] at this;exact this
 have hadd:(⟨g,o,none⟩:Addr).add j=⟨g,o+j,none⟩:=by
  simp only[Addr.add]
  first
   | rfl
   | (split
      ·next h0=>rw[h0];rfl
      rfl)
 have hi:j / E.n<M.length:=Nat.div_lt_of_lt_mul (by rw[Nat.mul_comm];exact hj);have hm:j % E.n<E.n:=Nat.mod_lt _ E.pos;have e:j / E.n*E.n+j % E.n=j:=by rw[Nat.mul_comm];exact Nat.div_add_mod _ _
 have h1:=cellsG_at (E:=E) M (j / E.n) hi (j % E.n) hm;rw[e,hu] at h1;have h2:=h (j / E.n) hi (j % E.n) u h1.symm;rw[Nat.add_assoc,e] at h2;rw[hadd];exact h2
end
section
variable {α:Type}
theorem any_nextG {L:List α}{f:α→Bool}{k:Nat}(hk:k<L.length)(h:(L.take k).any f=false)(h2:f L[k]=false):(L.take (k+1)).any f=false:=by
 rw[List.take_succ_eq_append_getElem hk];simp only[List.any_append,h,List.any_cons,List.any_nil,h2,Bool.or_false]
theorem any_hitG {L:List α}{f:α→Bool}{k:Nat}(hk:k<L.length)(h2:f L[k]=true):L.any f=true:=List.any_eq_true.2 ⟨_,List.getElem_mem hk,h2⟩
def ixG (f:α→Bool)(L:List α):Int:=if L.any f then (L.findIdx f:Int) else -1
theorem ixG_hit {L:List α}{f:α→Bool}{k:Nat}(hk:k<L.length)(h:(L.take k).any f=false)(h2:f L[k]=true):ixG f L=k:=by
 rw[ixG,any_hitG hk h2,if_pos rfl]
 congr 1
 rw[List.findIdx_eq hk];refine⟨h2,fun j hj=>?_⟩;rw[List.any_eq_false] at h;have:=h L[j] (by rw[List.mem_take_iff_getElem];exact⟨j,by omega,rfl⟩);simpa using this
theorem ixG_no {L:List α}{f:α→Bool}(h:L.any f=false):ixG f L = -1:=by simp[ixG,h]
theorem ixG_any (L:List α)(f:α→Bool):decide (0≤ixG f L)=L.any f:=by
 unfold ixG;cases L.any f
 ·simp
 simp
end
section
variable {α:Type}
end
section
variable {P:Program}{α:Type}{E:Enc α}
theorem run_append_none {w:World}(base:Nat)(t ty e:TypeId)(i:TypeInfo)(size cap2:Nat)(ht:P.underlying t=some (.slice e))(hi:P.info? e=some i)
 (v:Value) (n:Nat) (xs:List Value) (hown:w.ownsRow base e size v n xs):
 (Builtin.append_ #[t,t] ty #[v,.slice none 0 cap2]).run P w=.ok v w:=by
 rcases hown.2 with ⟨rfl,rfl⟩ | ⟨g,cap,cur,rfl,_,_,hnc,_⟩
 ·simp[Builtin.append_,run_underlying ht,sizeOf,typeInfo,hi,Builtin.lenOf,Builtin.firstCells]
 simp[Builtin.append_,run_underlying ht,sizeOf,typeInfo,hi,Builtin.lenOf,Builtin.firstCells,hnc,storeCells]
theorem wpList_append_GS (w:World){ops:Array Oper}{rest:List Oper}{o:Oper}{a:Act}{Q:Exit→Act→World→Prop}(hgd:o.guard=none)(s x:Operand)(t e:TypeId)
 (ho:o.op=.call { callee:=.builtin .append,args:=#[s,x],argTypes:=#[t,t] }) (ht:P.underlying t=some (.slice e)) (i:TypeInfo) (z:Value) (bytes:Nat) (hi:P.info? e=some i) (hz:i.zero=some z)
 (hsize:i.size=E.n) (hby:i.bytes=bytes) (hzs:z.cells.size=E.n) (base:Nat)
 (v:Value) (hs:a.eval s=v) (L:List α) (hown:w.ownsRow base e E.n v L.length (cellsG E L)) (u:Value) (hx:a.eval x=u) (M:List α) (hM:GS E w u M)
 (h63:L.length+M.length≤maxLen) (hbytes:(L.length+M.length)*bytes≤140737488355328) (hbase:base≤w.heap.size)
 (h:∀v' w',w'.ownsRow base e E.n v' (L++M).length (cellsG E (L++M))→w.grownBy w' v.ownBlock→wpList P ops Q rest (a.put o.dst v') w'):wpList P ops Q (o :: rest) a w:=by
 have key:∀(ad:Addr) (m c:Nat) (news:List Value),a.eval x=.slice (some ad) m c→news.length=m*E.n→(∀j u,news[j]?=some u→w.cell? (ad.add j)=some u)→(∀u∈news,u.oneCell'=true)→m=M.length→news=cellsG E M→wpList P ops Q (o :: rest) a w:=by
  intro ad m c news e1 e2 e3 e4 e5 e6;refine wpList_append_own w hgd s x t ho base e i z E.n bytes ht hi hz hsize hby hzs E.pos v _ _ hs hown ad m c news e1 e2 e3 e4 (by rw[e5];exact h63) (by rw[e5];exact hbytes) hbase ?_;intro v' w' h1 h2 _;refine h v' w' ?_ h2;rw[List.length_append,cellsG_app,←e5,←e6];exact h1
 rcases hM with ⟨ao,cap,rfl,rfl⟩ | ⟨g,q,cap,rfl,h1,h2,h3⟩
 ·cases ao with
  | none =>
    refine wpList_plain hgd fun K hK=>?_
    have hrun:=run_append_none (P:=P) (w:=w) base t o.type e i E.n cap ht hi v _ _ hown;unfold Oper.wp;simp[execOp,ho,resolve,invoke,builtin,hs,hx,hrun,Result.andThen];exact hK _ _ (h v w (by rw[List.append_nil];exact hown) ⟨rfl,rfl,rfl,Nat.le_refl _,fun _ _ _=>rfl⟩)
  | some ad=>exact key ad 0 cap [] hx (by simp) (by intro j u hu;simp at hu) (by intro u hu;cases hu) rfl rfl
 exact key ⟨g,q,none⟩ M.length cap (cellsG E M) hx (cellsG_len M) h3.cells (cellsG_all M) rfl rfl
theorem gs_of {H:Type}{enc:TypeId×Value→H}{W:World}{base:Nat}{v:Value}{d:DataW H}{p:List MemPlace}(ts te:TypeId)(hu:P.underlying ts=some (.slice te))(hC:P.cellsOf te=E.n)(x0:α)
 (hel:∀(n:Nat) (cs:List Value) (x:DataW H×List MemPlace),DataW.trod enc P W 0 (fun _=>true) true n te cs=some x→∃y,cs=E.c y)
 (hv:Value.okWide P W .any base ts v) (h:DataW.Trod enc P W 0 (fun _=>true) true ts v d p):∃L,GS E W v L:=by
 obtain⟨a0,len0,cap0,rfl⟩:=okWide_slice hu hv;obtain⟨fuel,hf⟩:=h;have hf2:DataW.trod enc P W 0 (fun _=>true) true fuel ts [.slice a0 len0 cap0]=some (d,p):=hf
 rcases Go.Deep.open_slice hu hf2 with ⟨hc,hx⟩ | ⟨a,len,cap,m,k,D,Pl,hc,_,hl,hm,hmm,hx,hall⟩
 ·simp only[List.cons.injEq,and_true,Value.slice.injEq] at hc;obtain⟨rfl,rfl,rfl⟩:=hc;exact⟨[],.inl ⟨none,0,rfl,rfl⟩⟩
 simp only[List.cons.injEq,and_true,Value.slice.injEq] at hc;obtain⟨rfl,rfl,rfl⟩:=hc;simp only[if_true] at hmm;subst hmm
 rcases Nat.eq_zero_or_pos len0 with h0 | h0
 ·subst h0;exact⟨[],.inl ⟨_,_,rfl,rfl⟩⟩
 have each:∀i,i<m→∃y:α,∀j,j<E.n→W.cell? (a.add (i*E.n+j))=(E.c y)[j]?:=by
  intro i hi;obtain⟨cs,h1,h2⟩:=hall i hi;rw[hC] at h1;obtain⟨_,hlen,hcell⟩:=World.cells?_some h1;obtain⟨y,rfl⟩:=hel _ _ _ h2;refine⟨y,fun j hj=>?_⟩;have:=hcell j (by omega);rw[Go.Deep.add_add] at this;exact this
 have iR:Inhabited α:=⟨x0⟩;obtain⟨R,hR⟩:=Go.Deep.choose_lt each;obtain⟨sb,so,spot⟩:=a;have hspot:spot=none:=by
  have h1:=hR 0 (by omega) 0 E.pos;have h2:(E.c (R 0))[0]?.isSome=true:=by
   rw[List.getElem?_eq_getElem (by rw[E.len];exact E.pos)];rfl
  obtain⟨u,hu2⟩:=Option.isSome_iff_exists.1 h2;rw[hu2] at h1;simpa[Addr.add] using World.cell?_spot h1
 subst hspot;have hadd:∀j,(⟨sb,so,none⟩:Addr).add j=⟨sb,so+j,none⟩:=by
  intro j;simp only[Addr.add]
  first
   | rfl
   | (split
      ·next h0=>rw[h0];rfl
      rfl)
 refine⟨(List.range len0).map R,.inr ⟨sb,so,_,by simp,by simpa using hl,hm,fun i hi j u hu2=>?_⟩⟩;have hi2:i<len0:=by simpa using hi
 have e:((List.range len0).map R)[i]=R i:=by simp
 rw[e] at hu2;have hj:j<E.n:=by
  have:=(List.getElem?_eq_some_iff.1 hu2).1;rw[E.len] at this;exact this
 have hc:=hR i (by omega) j hj;rw[hadd,hu2,←Nat.add_assoc] at hc;exact hc
end
end
section
open Go.RowKit
theorem at_ix (Hs:List (ByteArray×(Int×Int)))(s:Int×Int):(ixG (fun h=>sq h.2 s) Hs = -1∧atO Hs s=none)∨∃(k:Nat) (hk:k<Hs.length),ixG (fun h=>sq h.2 s) Hs=k∧atO Hs s=some Hs[k].1:=by
 induction Hs with
 | nil=>exact .inl ⟨rfl,rfl⟩
 | cons h Hs ih =>
   rw[atO];by_cases e:sq h.2 s=true
   ·refine .inr ⟨0,by simp,?_,?_⟩
    ·exact ixG_hit (L:=h :: Hs) (k:=0) (by simp) (by simp) e
    have e2:=(sq_iff _ _).1 e;rw[if_pos (by rw[e2];exact beq_self_eq_true _)];rfl
   have en:¬(h.2==s)=true:=fun h2=>e ((sq_iff _ _).2 (by simpa using h2))
   rw[if_neg en];have ef:sq h.2 s=false:=by simpa using e
   rcases ih with ⟨h1,h2⟩ | ⟨k,hk,h1,h2⟩
   ·refine .inl ⟨?_,h2⟩;unfold ixG at h1 ⊢;rw[List.any_cons,ef,Bool.false_or];cases ha:Hs.any fun h=>sq h.2 s
    ·rfl
    rw[ha,if_pos rfl] at h1;omega
   refine .inr ⟨k+1,by simp;omega,?_,by simpa using h2⟩;unfold ixG at h1 ⊢;rw[List.any_cons,ef,Bool.false_or];cases ha:Hs.any fun h=>sq h.2 s
   ·rw[ha] at h1;simp at h1
   rw[ha,if_pos rfl] at h1;rw[if_pos rfl,List.findIdx_cons,ef];simp;omega
theorem where_ix (Hs:List (ByteArray×(Int×Int)))(n:ByteArray):(ixG (fun h=>h.1==n) Hs = -1∧whereO Hs n=none)∨∃(k:Nat) (hk:k<Hs.length),ixG (fun h=>h.1==n) Hs=k∧whereO Hs n=some Hs[k].2:=by
 induction Hs with
 | nil=>exact .inl ⟨rfl,rfl⟩
 | cons h Hs ih =>
   rw[whereO];by_cases e:(h.1==n)=true
   ·refine .inr ⟨0,by simp,?_,?_⟩
    ·exact ixG_hit (L:=h :: Hs) (k:=0) (by simp) (by simp) e
    rw[if_pos e];rfl
   rw[if_neg e];have ef:(h.1==n)=false:=by
    cases hh:(h.1==n)
    ·rfl
    exact absurd hh e
   rcases ih with ⟨h1,h2⟩ | ⟨k,hk,h1,h2⟩
   ·refine .inl ⟨?_,h2⟩;unfold ixG at h1 ⊢;rw[List.any_cons,ef,Bool.false_or];cases ha:Hs.any fun h=>h.1==n
    ·rfl
    rw[ha,if_pos rfl] at h1;omega
   refine .inr ⟨k+1,by simp;omega,?_,by simpa using h2⟩;unfold ixG at h1 ⊢;rw[List.any_cons,ef,Bool.false_or];cases ha:Hs.any fun h=>h.1==n
   ·rw[ha] at h1;simp at h1
   rw[ha,if_pos rfl] at h1;rw[if_pos rfl,List.findIdx_cons,ef];simp;omega
def atN (Hs:List (ByteArray×(Int×Int)))(s:Int×Int):Int:=ixG (fun h=>sq h.2 s) Hs
def whN (Hs:List (ByteArray×(Int×Int)))(n:ByteArray):Int:=ixG (fun h=>h.1==n) Hs
theorem peer_app (l:(Int×Int)×(Int×Int))(s:Int×Int):∀Ls:List ((Int×Int)×(Int×Int)),peerO (Ls++[l]) s=match peerO Ls s with | some p=>some p | none=>if l.1==s then some l.2 else if l.2==s then some l.1 else none
 | []=>by simp[peerO]
 | x :: Ls=>by
   rw[List.cons_append,peerO,peerO];by_cases h1:(x.1==s)=true
   ·rw[if_pos h1,if_pos h1]
   rw[if_neg h1,if_neg h1];by_cases h2:(x.2==s)=true
   ·rw[if_pos h2,if_pos h2]
   rw[if_neg h2,if_neg h2];exact peer_app l s Ls
def PM (M Ls:List ((Int×Int)×(Int×Int))):Prop:=∀s,mget sq s M=peerO Ls s
theorem pm_nil:PM [] []:=fun s=>rfl
theorem pm_put {M Ls:List ((Int×Int)×(Int×Int))}{x y:Int×Int}(h:PM M Ls)(hd:(spsL (Ls++[(x,y)])).Nodup):PM (mput sq y x (mput sq x y M)) (Ls++[(x,y)]):=by
 have e:spsL (Ls++[(x,y)])=spsL Ls++[x,y]:=by simp[spsL]
 rw[e,List.nodup_append] at hd;obtain⟨_,h2,h3⟩:=hd;have hxy:¬x=y:=by simpa using h2
 have hno:∀z,z=x∨z=y→peerO Ls z=none:=by
  intro z hz;cases hp:peerO Ls z with
  | none=>rfl
  | some p=>exact absurd rfl (h3 z (peer_in hp).1 z (by rcases hz with rfl | rfl <;> simp))
 intro s;rw[mget_put sq_iff,mget_put sq_iff,peer_app];by_cases e1:s=y
 ·subst e1;rw[if_pos ((sq_iff _ _).2 rfl),hno s (.inr rfl)];simp[hxy]
 rw[if_neg (fun e=>e1 ((sq_iff _ _).1 e))];by_cases e2:s=x
 ·subst e2;rw[if_pos ((sq_iff _ _).2 rfl),hno s (.inl rfl)];simp
 rw[if_neg (fun e=>e2 ((sq_iff _ _).1 e)),h s];cases hp:peerO Ls s with
 | some p=>rfl
 | none =>
   have n1:¬x=s:=fun e=>e2 e.symm
   have n2:¬y=s:=fun e=>e1 e.symm
   simp[n1,n2]
theorem sps_app (Ls Ms:List ((Int×Int)×(Int×Int))):spsL (Ls++Ms)=spsL Ls++spsL Ms:=by simp[spsL]
theorem sps_nd {Ls:List ((Int×Int)×(Int×Int))}(h:(spsL Ls).Nodup)(k:Nat):(spsL (Ls.take k)).Nodup:=by
 have e:Ls=Ls.take k++Ls.drop k:=(List.take_append_drop k Ls).symm;rw[e,sps_app,List.nodup_append] at h;exact h.1
def swB (S a:Int):Bool:=decide (1≤a)&&decide (a≤S)
def weN (S:Int)(Ls:List ((Int×Int)×(Int×Int)))(Hs:List (ByteArray×(Int×Int)))(n:ByteArray):Int:=if tpN S Ls Hs=0 then (if (whereO Hs n).isSome then 0 else 5) else tpN S Ls Hs
def weV (S:Int)(Ls:List ((Int×Int)×(Int×Int)))(Hs:List (ByteArray×(Int×Int)))(n:ByteArray):Int×Int:=if weN S Ls Hs n=0 then (whereO Hs n).getD (0,0) else (0,0)
theorem sw_of {S a:Int}:swB S a=true↔1≤a∧a≤S:=by simp[swB]
def tsTo (Ts:List (List Ru)):Nat→Int
 | 0=>0
 | k+1=>if tsTo Ts k=0 then tbN (Ts.getD k []) else tsTo Ts k
theorem ts_le {Ts:List (List Ru)}{k:Nat}(h:tsTo Ts k≠0):∀{n:Nat},k≤n→tsTo Ts n=tsTo Ts k
 | 0,hn=>by
   obtain rfl:k=0:=by omega
   rfl
 | n+1,hn=>by
   by_cases e:k=n+1
   ·subst e;rfl
   have:=ts_le h (show k≤n by omega);rw[tsTo,if_neg (by rw[this];exact h),this]
def ntN (S:Int)(Ls:List ((Int×Int)×(Int×Int)))(Hs:List (ByteArray×(Int×Int)))(Ts:List (List Ru)):Int:=
 if tpN S Ls Hs=0 then (if (Ts.length:Int)=S then tsTo Ts Ts.length else 3) else tpN S Ls Hs
theorem ts_0 {Ts:List (List Ru)}:∀{n:Nat},tsTo Ts n=0→∀k,k<n→tbN (Ts.getD k [])=0
 | 0,_,k,hk=>by omega
 | n+1,h,k,hk=>by
   unfold tsTo at h;by_cases e:tsTo Ts n=0
   ·rw[if_pos e] at h;by_cases ek:k=n
    ·subst ek;exact h
    exact ts_0 e k (by omega)
   rw[if_neg e] at h;exact absurd h e
theorem nt_0 {S:Int}{Ls:List ((Int×Int)×(Int×Int))}{Hs:List (ByteArray×(Int×Int))}{Ts:List (List Ru)}(h:ntN S Ls Hs Ts=0):tpN S Ls Hs=0∧(Ts.length:Int)=S∧∀k,k<Ts.length→tbN (Ts.getD k [])=0:=by
 unfold ntN at h;by_cases e:tpN S Ls Hs=0
 ·rw[if_pos e] at h;by_cases e2:(Ts.length:Int)=S
  ·rw[if_pos e2] at h;exact⟨e,e2,ts_0 h⟩
  rw[if_neg e2] at h;omega
 rw[if_neg e] at h;exact absurd h e
def roR (t:List Ru)(h:Int):Ru:=t.getD (luI t h).toNat zeR
def Ru.apN (r:Ru)(h:Int):Int:=Proofs.YtglnnoglbieaeaaGreatDoor.apN r.p r.m r.b r.o r.s r.v h
def Ru.apR (r:Ru)(h:Int):Int:=Proofs.YtglnnoglbieaeaaGreatDoor.apR r.p r.m r.b r.o r.s r.v h
def stT (t:List Ru)(p:(Int×Int)×Int):Option ((Int×Int)×Int):=
 if luN t p.2=0 then (if (roR t p.2).apN p.2=0 then some ((p.1.1,(roR t p.2).o),(roR t p.2).apR p.2) else none) else none
def taT (Ts:List (List Ru))(s:Int):List Ru:=Ts.getD (s-1).toNat []
def stO (Ts:List (List Ru))(p:(Int×Int)×Int):Option ((Int×Int)×Int):=stT (taT Ts p.1.1) p
def heB (a b:(Int×Int)×Int):Bool:=(a.1.1==b.1.1)&&((a.1.2==b.1.2)&&((a.2==b.2)))
theorem heB_iff (a b:(Int×Int)×Int):heB a b=true↔a=b:=by
 obtain⟨⟨a1,a2⟩,a3⟩:=a;obtain⟨⟨b1,b2⟩,b3⟩:=b;simp[heB,and_assoc]
def goE (Ls:List ((Int×Int)×(Int×Int)))(Hs:List (ByteArray×(Int×Int)))(t:List Ru)(l:List ((Int×Int)×Int))(p:(Int×Int)×Int):(Int×ByteArray) ⊕ ((Int×Int)×Int):=
 match stT t p with
 | none=>.inl (2,ByteArray.empty)
 | some q=>match atO Hs q.1 with
   | some m=>.inl (1,m)
   | none=>match peerO Ls q.1 with
     | none=>.inl (3,ByteArray.empty)
     | some s=>if l.length=24∨l.any (fun x=>heB (s,q.2) x)=true then .inl (4,ByteArray.empty) else .inr (s,q.2)
def zeH:(Int×Int)×Int:=((0,0),0)
def laH (l:List ((Int×Int)×Int)):(Int×Int)×Int:=l.getD (l.length-1) zeH
def foF (Ls:List ((Int×Int)×(Int×Int)))(Hs:List (ByteArray×(Int×Int)))(Ts:List (List Ru)):Nat→List ((Int×Int)×Int)→Int×ByteArray×List ((Int×Int)×Int)
 | 0,l=>(4,ByteArray.empty,l)
 | n+1,l=>match goE Ls Hs (taT Ts (laH l).1.1) l (laH l) with
   | .inl e=>(e.1,e.2,l)
   | .inr p=>foF Ls Hs Ts n (l++[p])
end
section
open Go.ChangeShapes Go.WideShapes Go.ChangeAt Go.RowKit Go.Joins
def spoE:Enc (Int×Int) where
 c:=fun x=>[.int .i64 x.1,.int .i64 x.2]
 n:=2
 len:=fun _=>rfl
 pos:=by decide
 one:=by
  intro x u hu;simp at hu
  rcases hu with rfl | rfl <;> rfl
theorem spo_cells {w:World}{g o:Nat}{x0 x1:Int}(h:VAt w g o (spoE.c (x0,x1))):w.cell? ⟨g,o,none⟩=some (.int .i64 x0)∧w.cell? ⟨g,o+1,none⟩=some (.int .i64 x1):=
 ⟨h 0 _ rfl,h 1 _ rfl⟩
theorem spo_at {w:World}{g o:Nat}{L:List (Int×Int)}(h:GAt spoE w g o L){n k:Nat}(hn:L.length=n)(hk:k<n):
 ∃(x0:Int) (x1:Int) (hl:k<L.length),L[k]=(x0,x1)∧w.cell? ⟨g,o+k*2,none⟩=some (.int .i64 x0)∧w.cell? ⟨g,o+k*2+1,none⟩=some (.int .i64 x1):=
 have hl:k<L.length:=by omega
 ⟨_,_,hl,rfl,spo_cells (h k hl)⟩
theorem spo_new (w:World)(x0 x1:Int)(t:TypeId):VAt (w.alloc (Obj.cells #[.int .i64 x0,.int .i64 x1] t)) w.heap.size 0 (spoE.c (x0,x1)):=vat_new w [.int .i64 x0,.int .i64 x1] t
theorem spo_info:(Tryz.prog.info? 39).map (fun i=>(i.zero,i.size,i.bytes))=some (some (.agg #[.int .i64 0,.int .i64 0]),2,16):=by kernel_rfl
theorem spo_zero:(Value.agg #[.int .i64 0,.int .i64 0]).cells.size=2:=by simp[Value.cells]
theorem spo_open {H:Type}{enc:TypeId×Value→H}{W:World}{n:Nat}{cs:List Value}{x:DataW H×List MemPlace}
 (h:DataW.trod enc Tryz.prog W 0 (fun _=>true) true n 39 cs=some x):∃y,cs=spoE.c y:=by
 obtain⟨xs,k,_,_,hl,hlen,hf⟩:=DataW.trod_struct Tryz.underlying39 h;have hC:Tryz.prog.cellsOf 39=2:=by kernel_rfl
 have hT0:Tryz.prog.cellsOf 3=1:=by kernel_rfl
 rw[hC] at hl
 match cs,hl with
 | [c0,c1],_ =>
   match xs,hlen with
   | [z0,z1],_ =>
     have g0:=hf 0 _ rfl;have g1:=hf 1 _ rfl;simp[hT0] at g0 g1;obtain⟨v0,e0,_,_⟩:=DataW.trod_int Tryz.underlying3 g0;obtain⟨v1,e1,_,_⟩:=DataW.trod_int Tryz.underlying3 g1;simp[] at e0 e1;refine⟨(v0,v1),?_⟩;simp[spoE,e0,e1]
def hstE:Enc (ByteArray×(Int×Int)) where
 c:=fun x=>[.string x.1,.int .i64 x.2.1,.int .i64 x.2.2]
 n:=3
 len:=fun _=>rfl
 pos:=by decide
 one:=by
  intro x u hu;simp at hu
  rcases hu with rfl | rfl | rfl <;> rfl
theorem hst_cells {w:World}{g o:Nat}{x0:ByteArray}{x1 x2:Int}(h:VAt w g o (hstE.c (x0,(x1,x2)))):w.cell? ⟨g,o,none⟩=some (.string x0)∧w.cell? ⟨g,o+1,none⟩=some (.int .i64 x1)∧w.cell? ⟨g,o+2,none⟩=some (.int .i64 x2):=
 ⟨h 0 _ rfl,h 1 _ rfl,h 2 _ rfl⟩
theorem hst_at {w:World}{g o:Nat}{L:List (ByteArray×(Int×Int))}(h:GAt hstE w g o L){n k:Nat}(hn:L.length=n)(hk:k<n):
 ∃(x0:ByteArray) (x1:Int) (x2:Int) (hl:k<L.length),L[k]=(x0,(x1,x2))∧w.cell? ⟨g,o+k*3,none⟩=some (.string x0)∧w.cell? ⟨g,o+k*3+1,none⟩=some (.int .i64 x1)∧w.cell? ⟨g,o+k*3+2,none⟩=some (.int .i64 x2):=
 have hl:k<L.length:=by omega
 ⟨_,_,_,hl,rfl,hst_cells (h k hl)⟩
theorem hst_new (w:World)(x0:ByteArray)(x1 x2:Int)(t:TypeId):VAt (w.alloc (Obj.cells #[.string x0,.int .i64 x1,.int .i64 x2] t)) w.heap.size 0 (hstE.c (x0,(x1,x2))):=vat_new w [.string x0,.int .i64 x1,.int .i64 x2] t
theorem hst_info:(Tryz.prog.info? 41).map (fun i=>(i.zero,i.size,i.bytes))=some (some (.agg #[.string ByteArray.empty,.int .i64 0,.int .i64 0]),3,32):=by kernel_rfl
theorem hst_zero:(Value.agg #[.string ByteArray.empty,.int .i64 0,.int .i64 0]).cells.size=3:=by simp[Value.cells]
theorem hst_open {H:Type}{enc:TypeId×Value→H}{W:World}{n:Nat}{cs:List Value}{x:DataW H×List MemPlace}
 (h:DataW.trod enc Tryz.prog W 0 (fun _=>true) true n 41 cs=some x):∃y,cs=hstE.c y:=by
 obtain⟨xs,k,_,_,hl,hlen,hf⟩:=DataW.trod_struct Tryz.underlying41 h;have hC:Tryz.prog.cellsOf 41=3:=by kernel_rfl
 have hT0:Tryz.prog.cellsOf 9=1:=by kernel_rfl
 have hT1:Tryz.prog.cellsOf 39=2:=by kernel_rfl
 rw[hC] at hl
 match cs,hl with
 | [c0,c1,c2],_ =>
   match xs,hlen with
   | [z0,z1],_ =>
     have g0:=hf 0 _ rfl;have g1:=hf 1 _ rfl;simp[hT0,hT1] at g0 g1;obtain⟨v0,e0,_,_⟩:=DataW.trod_string Tryz.underlying9 g0;obtain⟨s1,e1⟩:=spo_open g1;simp[spoE] at e0 e1;refine⟨(v0,(s1.1,s1.2)),?_⟩;simp[hstE,e0,e1]
end
section
open Go.RowKit
structure LO {α:Type}(r:α→α→Bool):Prop where
 irr:∀a,r a a=false
 tr:∀a b c,r a b=true→r b c=true→r a c=true
 tot:∀a b,r a b=false→r b a=false→a=b
theorem LO.asy {α:Type}{r:α→α→Bool}(h:LO r){a b:α}(hab:r a b=true):r b a=false:=by
 cases e:r b a
 ·rfl
 have:=h.tr a b a hab e;rw[h.irr] at this;cases this
theorem lo_int:LO (fun (a b:Int)=>decide (a<b)):=⟨by simp,fun a b c h1 h2=>by simp at *;omega,fun a b h1 h2=>by simp at *;omega⟩
theorem lo_u8:LO (fun (a b:UInt8)=>decide (a<b)):=by
 refine⟨by simp,fun a b c h1 h2=>?_,fun a b h1 h2=>?_⟩
 ·simp only[decide_eq_true_eq] at *;exact UInt8.lt_trans h1 h2
 simp only[decide_eq_false_iff_not,UInt8.not_lt] at *;exact UInt8.le_antisymm h2 h1
def lexP {α β:Type}[DecidableEq α](r:α→α→Bool)(s:β→β→Bool)(a b:α×β):Bool:=if a.1=b.1 then s a.2 b.2 else r a.1 b.1
theorem lo_pair {α β:Type}[DecidableEq α]{r:α→α→Bool}{s:β→β→Bool}(hr:LO r)(hs:LO s):LO (lexP r s):=by
 refine⟨fun a=>by simp[lexP,hs.irr],fun a b c h1 h2=>?_,fun a b h1 h2=>?_⟩
 ·unfold lexP at *;by_cases e1:a.1=b.1
  ·rw[if_pos e1] at h1;by_cases e2:b.1=c.1
   ·rw[if_pos e2] at h2;rw[if_pos (e1.trans e2)];exact hs.tr _ _ _ h1 h2
   rw[if_neg e2] at h2;rw[if_neg (by rw[e1];exact e2),e1];exact h2
  rw[if_neg e1] at h1;by_cases e2:b.1=c.1
  ·rw[if_pos e2] at h2;rw[if_neg (by rw[←e2];exact e1),←e2];exact h1
  rw[if_neg e2] at h2;have h3:=hr.tr _ _ _ h1 h2;by_cases e3:a.1=c.1
  ·rw[e3,hr.irr] at h3;cases h3
  rw[if_neg e3];exact h3
 unfold lexP at *;by_cases e1:a.1=b.1
 ·rw[if_pos e1] at h1;rw[if_pos e1.symm] at h2;exact Prod.ext e1 (hs.tot _ _ h1 h2)
 rw[if_neg e1] at h1;rw[if_neg (fun e=>e1 e.symm)] at h2;exact absurd (hr.tot _ _ h1 h2) e1
def lexL {α:Type}[DecidableEq α](r:α→α→Bool):List α→List α→Bool
 | _,[]=>false
 | [],_ :: _=>true
 | a :: x,b :: y=>if a=b then lexL r x y else r a b
theorem lo_list {α:Type}[DecidableEq α]{r:α→α→Bool}(hr:LO r):LO (lexL r):=by
 refine⟨fun l=>?_,fun a=>?_,fun a=>?_⟩
 ·induction l with
  | nil=>rfl
  | cons x l ih=>simp[lexL,ih]
 ·induction a with
  | nil =>
    intro b c h1 h2;cases b with
    | nil=>cases c <;> simp[lexL] at *
    | cons y b =>
      cases c with
      | nil=>simp[lexL] at h2
      | cons z c=>rfl
  | cons x a ih =>
    intro b c h1 h2;cases b with
    | nil=>simp[lexL] at h1
    | cons y b =>
      cases c with
      | nil=>simp[lexL] at h2
      | cons z c =>
        rw[lexL] at *;by_cases e1:x=y
        ·rw[if_pos e1] at h1;by_cases e2:y=z
         ·rw[if_pos e2] at h2;rw[if_pos (e1.trans e2)];exact ih _ _ h1 h2
         rw[if_neg e2] at h2;rw[if_neg (by rw[e1];exact e2),e1];exact h2
        rw[if_neg e1] at h1;by_cases e2:y=z
        ·rw[if_pos e2] at h2;rw[if_neg (by rw[←e2];exact e1),←e2];exact h1
        rw[if_neg e2] at h2;have h3:=hr.tr _ _ _ h1 h2;by_cases e3:x=z
        ·rw[e3,hr.irr] at h3;cases h3
        rw[if_neg e3];exact h3
 induction a with
 | nil =>
   intro b h1 h2;cases b with
   | nil=>rfl
   | cons y b=>simp[lexL] at h1
 | cons x a ih =>
   intro b h1 h2;cases b with
   | nil=>simp[lexL] at h2
   | cons y b =>
     rw[lexL] at h1 h2;by_cases e1:x=y
     ·rw[if_pos e1] at h1;rw[if_pos e1.symm] at h2;rw[e1,ih _ h1 h2]
     rw[if_neg e1] at h1;rw[if_neg (fun e=>e1 e.symm)] at h2;exact absurd (hr.tot _ _ h1 h2) e1
theorem bytes_lex:∀x y:List UInt8,Op.bytesLess x y=lexL (fun (a b:UInt8)=>decide (a<b)) x y
 | _,[]=>by simp[Op.bytesLess,lexL]
 | [],_ :: _=>by simp[Op.bytesLess,lexL]
 | a :: x,b :: y=>by
   rw[Op.bytesLess,lexL,bytes_lex x y];by_cases e:a=b
   ·subst e;simp
   rw[if_neg e];simp[e]
theorem nm_loop (b:ByteArray):∀(k i:Nat) (r:List UInt8),b.size-i=k→ByteArray.toList.loop b i r=r.reverse++b.data.toList.drop i
 | 0,i,r,h=>by
   rw[ByteArray.toList.loop,if_neg (by omega)];have e:b.data.toList.length≤i:=by rw[Array.length_toList];show b.size≤i;omega
   rw[List.drop_eq_nil_of_le e,List.append_nil]
 | k+1,i,r,h=>by
   have hi:i<b.size:=by omega
   rw[ByteArray.toList.loop,if_pos hi,nm_loop b k (i+1) _ (by omega)];have hl:i<b.data.toList.length:=by rw[Array.length_toList];exact hi
   rw[List.drop_eq_getElem_cons hl,List.reverse_cons,List.append_assoc];have e:b.get! i=b.data.toList[i]:=by
    rw[Array.getElem_toList];show b.data[i]! = b.data[i];exact getElem!_pos b.data i hi
   rw[e];rfl
theorem nm_list (b:ByteArray):b.toList=b.data.toList:=by
 show ByteArray.toList.loop b 0 []=_;rw[nm_loop b _ 0 [] rfl];simp
theorem nm_inj {a b:ByteArray}(h:a.toList=b.toList):a=b:=by
 rw[nm_list,nm_list] at h;exact ByteArray.ext (Array.toList_inj.1 h)
def nmL (a b:ByteArray):Bool:=Op.bytesLess a.toList b.toList
theorem lo_name:LO nmL:=by
 have h:=lo_list lo_u8;refine⟨fun a=>?_,fun a b c h1 h2=>?_,fun a b h1 h2=>?_⟩
 ·rw[nmL,bytes_lex];exact h.irr _
 ·rw[nmL,bytes_lex] at *;exact h.tr _ _ _ h1 h2
 rw[nmL,bytes_lex] at h1 h2;have e:=h.tot _ _ h1 h2;exact nm_inj e
def faL:(Int×ByteArray×List ((Int×Int)×Int))→(Int×ByteArray×List ((Int×Int)×Int))→Bool:=
 lexP (fun (a b:Int)=>decide (a<b)) (lexP nmL (lexL (lexP (lexP (fun (a b:Int)=>decide (a<b)) (fun (a b:Int)=>decide (a<b))) (fun (a b:Int)=>decide (a<b)))))
theorem lo_fate:LO faL:=lo_pair lo_int (lo_pair lo_name (lo_list (lo_pair (lo_pair lo_int lo_int) lo_int)))
def Ris {α:Type}(r:α→α→Bool)(l:List α):Prop:=l.Pairwise fun a b=>r a b=true
theorem ris_ext {α:Type}{r:α→α→Bool}(hr:LO r):∀{l m:List α},Ris r l→Ris r m→(∀x,x∈l↔x∈m)→l=m
 | [],[],_,_,_=>rfl
 | [],y :: m,_,_,h=>by have:=(h y).2 (by simp);simp at this
 | x :: l,[],_,_,h=>by have:=(h x).1 (by simp);simp at this
 | x :: l,y :: m,h1,h2,h=>by
   have a1:=List.pairwise_cons.1 h1;have a2:=List.pairwise_cons.1 h2;have e:x=y:=by
    rcases List.mem_cons.1 ((h x).1 (by simp)) with e | hx
    ·exact e
    rcases List.mem_cons.1 ((h y).2 (by simp)) with e | hy
    ·exact e.symm
    have b1:=a1.1 y hy;have b2:=a2.1 x hx;rw[hr.asy b1] at b2;cases b2
   subst e;rw[ris_ext hr a1.2 a2.2 (fun z=>?_)];have hz:=h z;constructor
   ·intro hm
    rcases List.mem_cons.1 (hz.1 (List.mem_cons_of_mem _ hm)) with e | e
    ·subst e;have:=a1.1 z hm;rw[hr.irr] at this;cases this
    exact e
   intro hm
   rcases List.mem_cons.1 (hz.2 (List.mem_cons_of_mem _ hm)) with e | e
   ·subst e;have:=a2.1 z hm;rw[hr.irr] at this;cases this
   exact e
def puR {α:Type}(r:α→α→Bool)(f:α):List α→List α
 | []=>[f]
 | x :: l=>if r f x=true then f :: x :: l else if r x f=true then x :: puR r f l else x :: l
theorem pu_mem {α:Type}{r:α→α→Bool}(hr:LO r)(f:α):∀{l:List α} {x:α},x∈puR r f l↔x=f∨x∈l
 | [],x=>by simp[puR]
 | y :: l,x=>by
   rw[puR];by_cases h1:r f y=true
   ·rw[if_pos h1];simp
   rw[if_neg h1];by_cases h2:r y f=true
   ·rw[if_pos h2,List.mem_cons,pu_mem hr f,List.mem_cons];constructor
    ·rintro (h | h | h)
     ·exact .inr (.inl h)
     ·exact .inl h
     exact .inr (.inr h)
    rintro (h | h | h)
    ·exact .inr (.inl h)
    ·exact .inl h
    exact .inr (.inr h)
   rw[if_neg h2];have e:y=f:=hr.tot _ _ (by simpa using h2) (by simpa using h1);subst e;simp
theorem pu_ris {α:Type}{r:α→α→Bool}(hr:LO r)(f:α):∀{l:List α},Ris r l→Ris r (puR r f l)
 | [],_=>by simp[puR,Ris]
 | y :: l,h=>by
   have a:=List.pairwise_cons.1 h;rw[puR];by_cases h1:r f y=true
   ·rw[if_pos h1];refine List.pairwise_cons.2 ⟨fun z hz=>?_,h⟩
    rcases List.mem_cons.1 hz with rfl | hz
    ·exact h1
    exact hr.tr _ _ _ h1 (a.1 z hz)
   rw[if_neg h1];by_cases h2:r y f=true
   ·rw[if_pos h2];refine List.pairwise_cons.2 ⟨fun z hz=>?_,pu_ris hr f a.2⟩
    rcases (pu_mem hr f).1 hz with rfl | hz
    ·exact h2
    exact a.1 z hz
   rw[if_neg h2];exact h
def eqR (a b:Ru):Bool:=decide (a.p=b.p)&&(decide (a.m=b.m)&&(decide (a.b=b.b)&&(decide (a.o=b.o)&&(decide (a.s=b.s)&&decide (a.v=b.v)))))
theorem eq_R {a b:Ru}:eqR a b=true↔a=b:=by
 obtain⟨p,m,b1,o,s,v⟩:=a;obtain⟨p',m',b',o',s',v'⟩:=b;simp[eqR]
theorem eq_no {a b:Ru}:eqR a b=false↔a≠b:=by
 rw[←Bool.not_eq_true,Ne,eq_R]
theorem eq_rf (a:Ru):eqR a a=true:=eq_R.2 rfl
def inB (L:List Ru)(r:Ru):Bool:=L.any (fun a=>eqR r a)
theorem in_iff {L:List Ru}{r:Ru}:inB L r=true↔r∈L:=by
 simp only[inB,List.any_eq_true,eq_R];exact⟨fun ⟨x,h,e⟩=>e ▸ h,fun h=>⟨r,h,rfl⟩⟩
def ixN (L:List Ru)(r:Ru):Nat:=L.findIdx (fun a=>eqR r a)
def bey (A B:List Ru):List Ru:=A.filter (fun r => !inB B r)
def hitB (L:List Ru)(r:Ru):Bool:=L.any (fun a=>keyB a r)
def chN (L:List Ru)(add:Bool)(r:Ru):Int:=if add then (if hitB L r then 7 else if 12≤L.length then 4 else 0) else (if inB L r then 0 else 5)
def chL (L:List Ru)(add:Bool)(r:Ru):List Ru:=if chN L add r=0 then (if add then L++[r] else L.take (ixN L r)++L.drop (ixN L r+1)) else []
def doN (L:List Ru)(add:Bool)(r:Ru):Int:=if tbN L=0 then (if r.n=0 then chN L add r else r.n) else tbN L
def doL (L:List Ru)(add:Bool)(r:Ru):List Ru:=if doN L add r=0 then chL L add r else []
structure Op8 where
 w:Int
 a:Bool
 r:Ru
theorem tb_iff {L:List Ru}:tbN L=0↔L.length≤12∧(∀r∈L,r.ok=true)∧L.Pairwise (fun a b=>keyB a b=false):=by
 rw[tb_0,cl_no,okR,List.all_eq_true,List.pairwise_iff_getElem];refine and_congr Iff.rfl (and_congr Iff.rfl ⟨fun h i j hi hj hij=>?_,fun h i j hij hj=>?_⟩)
 ·have:=h i j hij hj;rw[getD_at hi,getD_at hj] at this;exact this
 rw[getD_at (by omega),getD_at hj];exact h i j (by omega) hj hij
theorem key_rf (a:Ru):keyB a a=true:=by simp[keyB,ord_rf]
theorem key_sy {a b:Ru}:keyB a b=keyB b a:=by
 cases h:keyB b a
 ·exact key_sym h
 cases h2:keyB a b
 ·rw[key_sym h2] at h;cases h
 rfl
theorem tb_sub {L M:List Ru}(h:tbN L=0)(hs:M.Sublist L):tbN M=0:=by
 rw[tb_iff] at h ⊢;exact⟨Nat.le_trans hs.length_le h.1,fun r hr=>h.2.1 r (hs.subset hr),h.2.2.sublist hs⟩
theorem tb_one {L:List Ru}{r:Ru}(h:tbN L=0)(hr:r.ok=true)(hh:hitB L r=false)(hl:L.length<12):tbN (L++[r])=0:=by
 rw[tb_iff] at h ⊢;refine⟨by simp;omega,?_,?_⟩
 ·intro x hx;rw[List.mem_append,List.mem_singleton] at hx
  rcases hx with hx | rfl
  ·exact h.2.1 x hx
  exact hr
 rw[List.pairwise_append];refine⟨h.2.2,List.pairwise_singleton _ _,fun a ha b hb=>?_⟩;rw[List.mem_singleton] at hb;subst hb;simp only[hitB,List.any_eq_false] at hh;simpa using hh a ha
theorem tb_key {L:List Ru}(h:tbN L=0){a b:Ru}(ha:a∈L)(hb:b∈L)(hk:keyB a b=true):a=b:=by
 rw[tb_iff] at h;have hp:=h.2.2;clear h
 induction L with
 | nil=>cases ha
 | cons x l ih =>
   rw[List.pairwise_cons] at hp
   rcases List.mem_cons.1 ha with e1 | ha1
   ·rcases List.mem_cons.1 hb with e2 | hb1
    ·rw[e1,e2]
    rw[e1,hp.1 b hb1] at hk;cases hk
   rcases List.mem_cons.1 hb with e2 | hb1
   ·rw[e2,key_sy,hp.1 a ha1] at hk;cases hk
   exact ih ha1 hb1 hp.2
theorem tb_nodup {L:List Ru}(h:tbN L=0):L.Nodup:=by
 rw[tb_iff] at h;refine h.2.2.imp ?_;rintro a b hk rfl;rw[key_rf] at hk;cases hk
theorem ix_split {L M:List Ru}{r:Ru}(h:r ∉ L):ixN (L++r :: M) r=L.length:=by
 induction L with
 | nil=>simp[ixN,List.findIdx_cons,eq_rf]
 | cons x l ih =>
   have h1:eqR r x=false:=eq_no.2 (fun e=>h (by rw[e];exact List.mem_cons_self));have h2:=ih (fun hm=>h (List.mem_cons_of_mem _ hm));simp only[ixN] at h2 ⊢;rw[List.cons_append,List.findIdx_cons,h1,h2];rfl
theorem do_take {A B:List Ru}{r:Ru}(h:tbN (A++r :: B)=0):doN (A++r :: B) false r=0∧doL (A++r :: B) false r=A++B:=by
 have hm:r∈A++r :: B:=by simp
 have hno:r ∉ A:=by
  have:=tb_nodup h;rw[List.nodup_append] at this;intro hA;exact this.2.2 r hA r (by simp) rfl
 have hr:r.n=0:=n_ok ((tb_iff.1 h).2.1 r hm);have hc:chN (A++r :: B) false r=0:=by simp[chN,in_iff.2 hm]
 have hd:doN (A++r :: B) false r=0:=by rw[doN,if_pos h,if_pos hr,hc]
 refine⟨hd,?_⟩;rw[doL,if_pos hd,chL,if_pos hc,ix_split hno];simp
theorem do_add {L:List Ru}{r:Ru}(h:tbN L=0)(hr:r.ok=true)(hh:hitB L r=false)(hl:L.length<12):doN L true r=0∧doL L true r=L++[r]:=by
 have hc:chN L true r=0:=by
  rw[chN,hh];simp;omega
 have hd:doN L true r=0:=by rw[doN,if_pos h,if_pos (n_ok hr),hc]
 exact⟨hd,by rw[doL,if_pos hd,chL,if_pos hc];rfl⟩
theorem add_yes {L:List Ru}{r:Ru}(h:doN L true r=0):tbN L=0∧r.ok=true∧hitB L r=false∧L.length<12:=by
 unfold doN at h;by_cases h1:tbN L=0
 ·rw[if_pos h1] at h;by_cases h2:r.n=0
  ·rw[if_pos h2,chN] at h;simp only[if_true] at h;cases h3:hitB L r
   ·rw[h3] at h;by_cases h4:12≤L.length
    ·simp[h4] at h
    exact⟨h1,ok_n h2,rfl,by omega⟩
   rw[h3] at h;simp at h
  rw[if_neg h2] at h;exact absurd h h2
 rw[if_neg h1] at h;exact absurd h h1
def caN (S:Int):List (List Ru)→List Op8→Int
 | _,[]=>0
 | Ts,o :: l=>if swB S o.w=true then (if doN (taT Ts o.w) o.a o.r=0 then caN S (Ts.set (o.w-1).toNat (doL (taT Ts o.w) o.a o.r)) l else doN (taT Ts o.w) o.a o.r) else 1
def caT:List (List Ru)→List Op8→List (List Ru)
 | Ts,[]=>Ts
 | Ts,o :: l=>caT (Ts.set (o.w-1).toNat (doL (taT Ts o.w) o.a o.r)) l
def tsOk (Ts:List (List Ru)):Prop:=∀L∈Ts,tbN L=0
theorem ca_len (Ts:List (List Ru))(l:List Op8):(caT Ts l).length=Ts.length:=by
 induction l generalizing Ts with
 | nil=>rfl
 | cons o l ih=>rw[caT,ih,List.length_set]
theorem ca_app (S:Int)(Ts:List (List Ru))(a b:List Op8):caN S Ts (a++b)=if caN S Ts a=0 then caN S (caT Ts a) b else caN S Ts a:=by
 induction a generalizing Ts with
 | nil=>simp[caN,caT]
 | cons o l ih =>
   rw[List.cons_append,caN,caN,caT];by_cases h1:swB S o.w=true
   ·rw[if_pos h1,if_pos h1];by_cases h2:doN (taT Ts o.w) o.a o.r=0
    ·rw[if_pos h2,if_pos h2,ih]
    rw[if_neg h2,if_neg h2,if_neg h2]
   rw[if_neg h1,if_neg h1];rfl
theorem cj_app (Ts:List (List Ru))(a b:List Op8):caT Ts (a++b)=caT (caT Ts a) b:=by
 induction a generalizing Ts with
 | nil=>rfl
 | cons o l ih=>rw[List.cons_append,caT,caT,ih]
theorem ca_cons {S:Int}{Ts:List (List Ru)}{o:Op8}{l:List Op8}(h:caN S Ts (o :: l)=0):
 swB S o.w=true∧doN (taT Ts o.w) o.a o.r=0∧caN S (Ts.set (o.w-1).toNat (doL (taT Ts o.w) o.a o.r)) l=0:=by
 rw[caN] at h;by_cases h1:swB S o.w=true
 ·rw[if_pos h1] at h;by_cases h2:doN (taT Ts o.w) o.a o.r=0
  ·rw[if_pos h2] at h;exact⟨h1,h2,h⟩
  rw[if_neg h2] at h;exact absurd h h2
 rw[if_neg h1] at h;omega
theorem ta_mem {Ts:List (List Ru)}{w:Int}(h1:1≤w)(h2:w≤Ts.length):taT Ts w∈Ts:=by
 have h:(w-1).toNat<Ts.length:=by omega
 rw[taT,List.getD_eq_getElem?_getD,List.getElem?_eq_getElem h];exact List.getElem_mem h
theorem take_yes {L:List Ru}{r:Ru}(h:doN L false r=0):tbN L=0∧∃A B,L=A++r :: B∧doL L false r=A++B:=by
 have h0:=h;unfold doN at h;by_cases h1:tbN L=0
 ·rw[if_pos h1] at h;by_cases h2:r.n=0
  ·rw[if_pos h2,chN] at h;simp only[Bool.false_eq_true,if_false] at h;cases h3:inB L r
   ·rw[h3] at h;simp at h
   obtain⟨A,B,rfl⟩:=List.append_of_mem (in_iff.1 h3);exact⟨h1,A,B,rfl,(do_take h1).2⟩
  rw[if_neg h2] at h;exact absurd h h2
 rw[if_neg h1] at h;exact absurd h h1
theorem do_right {L:List Ru}{a:Bool}{r:Ru}(h:doN L a r=0):tbN (doL L a r)=0:=by
 cases a with
 | true =>
   obtain⟨h1,h2,h3,h4⟩:=add_yes h;rw[(do_add h1 h2 h3 h4).2];exact tb_one h1 h2 h3 h4
 | false =>
   obtain⟨h1,A,B,rfl,e⟩:=take_yes h;rw[e];exact tb_sub h1 (List.Sublist.append (List.Sublist.refl _) (List.sublist_cons_self r B))
theorem ok_set {Ts:List (List Ru)}{k:Nat}{L:List Ru}(h:tsOk Ts)(hL:tbN L=0):tsOk (Ts.set k L):=by
 intro x hx
 rcases List.mem_or_eq_of_mem_set hx with h1 | rfl
 ·exact h x h1
 exact hL
theorem ca_right {S:Int}:∀{l:List Op8} {Ts:List (List Ru)},tsOk Ts→caN S Ts l=0→tsOk (caT Ts l)
 | [],_,h,_=>h
 | o :: l,Ts,h,e=>by
   obtain⟨h1,h2,h3⟩:=ca_cons e;rw[caT];exact ca_right (ok_set h (do_right h2)) h3
def cgN (S:Int)(Ls:List ((Int×Int)×(Int×Int)))(Hs:List (ByteArray×(Int×Int)))(Ts:List (List Ru))(l:List Op8):Int:=
 if ntN S Ls Hs Ts=0 then (if 200<l.length then 4 else caN S Ts l) else ntN S Ls Hs Ts
theorem ts_ok {Ts:List (List Ru)}(h:tsOk Ts):∀n,tsTo Ts n=0
 | 0=>rfl
 | n+1=>by
   rw[tsTo,if_pos (ts_ok h n),List.getD_eq_getElem?_getD];by_cases e:n<Ts.length
   ·rw[List.getElem?_eq_getElem e];exact h _ (List.getElem_mem e)
   rw[List.getElem?_eq_none (by omega)];rfl
theorem ok_ts {Ts:List (List Ru)}(h:∀k,k<Ts.length→tbN (Ts.getD k [])=0):tsOk Ts:=by
 intro L hL;obtain⟨k,hk,rfl⟩:=List.getElem_of_mem hL;have:=h k hk;rw[List.getD_eq_getElem?_getD,List.getElem?_eq_getElem hk] at this;exact this
theorem nt_of {S:Int}{Ls:List ((Int×Int)×(Int×Int))}{Hs:List (ByteArray×(Int×Int))}{Ts:List (List Ru)}(h1:tpN S Ls Hs=0)(h2:(Ts.length:Int)=S)(h3:tsOk Ts):ntN S Ls Hs Ts=0:=by
 rw[ntN,if_pos h1,if_pos h2,ts_ok h3]
theorem nt_ca {S:Int}{Ls:List ((Int×Int)×(Int×Int))}{Hs:List (ByteArray×(Int×Int))}{Ts:List (List Ru)}{l:List Op8}(h:ntN S Ls Hs Ts=0)(hl:caN S Ts l=0):ntN S Ls Hs (caT Ts l)=0:=by
 obtain⟨h1,h2,h3⟩:=nt_0 h;exact nt_of h1 (by rw[ca_len];exact h2) (ca_right (ok_ts h3) hl)
end
end Go.Proofs.YtglnnoglbieaeaaGreatDoor
