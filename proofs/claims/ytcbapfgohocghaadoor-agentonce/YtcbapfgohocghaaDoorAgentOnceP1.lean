/- Contracts and facts on the way to AgentOnce, joined into one text: CubeMath, RuleMath, RuleTabMath, TableMath, WireMath, MapGen, TopoMath, But, BfsMath, Gen, TopoMath2, NetMath, ChangeMath, AgentMath, StLink, StHost, TopoCon, SpotKey, Err. -/
import Derived.Test.YtcbapfgohocghaaDoorRows
import Derived.WalkKit
import Derived.Laws.BytesArg
import Derived.Lib.Strings
import Derived.WalkSpells
import Derived.Below
import Derived.MapKept
import Derived.Maps.OwnOps
import Derived.Laws.StructEq
import Derived.ProofKit
import Derived.OpenShut
import Derived.ChangeOld
import Derived.Laws.AppendOwnNone
import Derived.Deep.Slices
import Derived.Lib.SmallJoins
import Derived.BigQuiet
import Derived.Deep.QuietTactic
import Derived.DeepKeys3
import Derived.BigRegion
import Derived.Deep.CutRange
import Derived.Deep.CutBlock
import Derived.Shelf.Abstract
import Derived.Laws.IdiomStrings
import Derived.Carry
import Derived.Lib.SliceRun
import Derived.Lib.AppendZeros
import Derived.Deep.RegionHeld3
import Derived.Laws.OwnMore
import Derived.RangeFuncNested
import Derived.RangeFuncBox
import Derived.RangeFuncBound
import Derived.RangeFuncCalls
import Derived.RangeFuncLeaves
import Derived.Shelf.RegionOpen
import Derived.OwnWalkIn
import Derived.TacticsInMore
import Derived.LoopNIn
import Derived.LoopIn
import Derived.Lib.Walk
import Derived.Lib.BufferWrite
import Derived.Lib.UnsafeStr
import Derived.Laws.MakeOwn
import Derived.Deep.RegionLaw
import Derived.LaidEql
import Derived.Stop.Asserts
import Derived.RowKitTokens
import Derived.Deep.Upon
import Derived.Laws.AppendOwn
import Derived.RegionTactic
import Derived.Deep.RegionWith
import Derived.ChangeSame
import Derived.ChangeVars
import Derived.JoinedOf
import Derived.RowKit
import Derived.LaidLaws
import Derived.LaidHandle
import Derived.Stop.Joined
namespace Go.Proofs.YtcbapfgohocghaaDoor
set_option linter.unusedSimpArgs false
set_option linter.unusedVariables false
set_option maxHeartbeats 16000000
set_option maxRecDepth 100000
open Go.Proofs.Tryd
open IntKind (i64)
abbrev AdQ:=Option Addr
abbrev LkQ:=List ((Int×Int)×(Int×Int))
abbrev HoQ:=List (ByteArray×(Int×Int))
abbrev HpQ:=List ((Int×Int)×Int)
theorem bRQ (n:Nat) (w:World):Go.RowKit.Below n w w:=Go.RowKit.Below.refl n w
theorem nLQ (n:Nat):n≤n:=Nat.le_refl n
theorem bLQ (w:World) (p:Addr) {v:Value} (h:w.cell? p=some v):p.block<w.heap.size:=World.block_lt_of_cell? w p h
theorem AP:(∀(l:List Value) (i:Nat) (v:Value),l.toArray.setIfInBounds i v=(l.set i v).toArray)∧(∀(a v:Value) (l:List Value),(a::l).set 0 v=v::l)∧(∀(a v:Value) (l:List Value) (i:Nat),(a::l).set (i+1) v=a::l.set i v):=⟨fun _ _ _=>List.setIfInBounds_toArray _ _ _,fun _ _ _=>List.set_cons_zero,fun _ _ _ _=>List.set_cons_succ⟩
section
open Go.RowKit
def hdrB (n:Int):Bool:=decide (0≤n)&&decide (n<16)
def rngB (m b:Int):Bool:=hdrB m&&hdrB b
def okB (m b:Int):Bool:=rngB m b&&(bits .andNot .i64 b m==0)
theorem hdr_of {n:Int}(h:hdrB n=true):0≤n∧n<16:=by simpa[hdrB] using h
theorem hdr_no {n:Int}(h:hdrB n=false):n<0∨16≤n:=by simp[hdrB] at h;omega
theorem hdr_mk {n:Int}(h:0≤n∧n<16):hdrB n=true:=by simpa[hdrB] using h
theorem rng_of {m b:Int}(h:rngB m b=true):(0≤m∧m<16)∧(0≤b∧b<16):=by
 simp only[rngB,Bool.and_eq_true] at h;exact⟨hdr_of h.1,hdr_of h.2⟩
theorem ok_rng {m b:Int}(h:okB m b=true):rngB m b=true:=by
 simp only[okB,Bool.and_eq_true] at h;exact h.1
theorem ok_of {m b:Int}(h:okB m b=true):(0≤m∧m<16)∧(0≤b∧b<16):=rng_of (ok_rng h)
def hasB (m b h:Int):Bool:=hdrB h&&(okB m b&&(bits .and .i64 h m==b))
def refN (m b:Int):Int:=if okB m b then 0 else if rngB m b then 3 else 1
theorem refN_ok {m b:Int}(h:okB m b=true):refN m b=0:=by simp[refN,h]
theorem refN_shape {m b:Int}(h:okB m b=false)(h2:rngB m b=true):refN m b=3:=by simp[refN,h,h2]
theorem refN_range {m b:Int}(h2:rngB m b=false):refN m b=1:=by simp[refN,okB,h2]
theorem refN_bd (m b:Int):0≤refN m b∧refN m b≤3:=by unfold refN;split <;> (try split) <;> omega
theorem ok_refN (m b:Int):(refN m b==0)=okB m b:=by
 cases h:okB m b
 ·cases h2:rngB m b
  ·simp[refN_range h2]
  simp[refN_shape h h2]
 simp[refN_ok h]
def ruP (p o:Int):Bool:=decide (0≤p)&&(decide (p≤99)&&(decide (0≤o)&&decide (o≤4)))
def ruIn (p o s v:Int):Bool:=ruP p o&&rngB s v
def ruSet (o s v:Int):Bool:=(bits .andNot .i64 v s==0)&&(!(o==0) || s==0)
def ruN (p m b o s v:Int):Int:=if ruIn p o s v then (if okB m b then (if ruSet o s v then 0 else 3) else refN m b) else 1
def ruOk (p m b o s v:Int):Bool:=ruIn p o s v&&(okB m b&&ruSet o s v)
theorem ru_ok {p m b o s v:Int}(h:ruOk p m b o s v=true):ruIn p o s v=true∧okB m b=true∧ruSet o s v=true:=by
 simpa[ruOk] using h
theorem ruN_ok {p m b o s v:Int}(h:ruOk p m b o s v=true):ruN p m b o s v=0:=by
 obtain⟨h1,h2,h3⟩:=ru_ok h;simp[ruN,h1,h2,h3]
theorem ruN_ne {p m b o s v:Int}(h:ruOk p m b o s v=false):ruN p m b o s v≠0:=by
 unfold ruN;cases h1:ruIn p o s v
 ·simp
 cases h2:okB m b
 ·simp only[if_true];have:=ok_refN m b;rw[h2] at this;simpa using this
 cases h3:ruSet o s v
 ·simp
 simp[ruOk,h1,h2,h3] at h
theorem ruN_bd (p m b o s v:Int):0≤ruN p m b o s v∧ruN p m b o s v≤3:=by
 unfold ruN;have:=refN_bd m b
 split
 ·split
  ·split <;> omega
  omega
 omega
theorem ru_in {p o s v:Int}(h:ruIn p o s v=true):((0≤p∧p≤99)∧(0≤o∧o≤4))∧(0≤s∧s<16)∧(0≤v∧v<16):=by
 simp only[ruIn,Bool.and_eq_true] at h;obtain⟨h1,h2⟩:=h;have h3:=rng_of h2;simp only[ruP,Bool.and_eq_true,decide_eq_true_eq] at h1;exact⟨⟨⟨h1.1,h1.2.1⟩,⟨h1.2.2.1,h1.2.2.2⟩⟩,h3⟩
def cmpN (a b:Int):Int:=if a<b then -1 else if b<a then 1 else 0
def orN (x y z:Int):Int:=if x=0 then (if y=0 then z else y) else x
def ordN (p m b p' m' b':Int):Int:=orN (cmpN p p') (cmpN m m') (cmpN b b')
structure Ru where
 p:Int
 m:Int
 b:Int
 o:Int
 s:Int
 v:Int
abbrev TsQ:=List (List Ru)
def Ru.n (r:Ru):Int:=ruN r.p r.m r.b r.o r.s r.v
def Ru.ok (r:Ru):Bool:=ruOk r.p r.m r.b r.o r.s r.v
def Ru.has (r:Ru)(h:Int):Bool:=hasB r.m r.b h
def ordR (a b:Ru):Int:=ordN a.p a.m a.b b.p b.m b.b
def keyB (a b:Ru):Bool:=ordR a b==0
def zeR:Ru:=⟨0,0,0,0,0,0⟩
theorem cmp_0 {a b:Int}:cmpN a b=0↔a=b:=by unfold cmpN;split <;> (try split) <;> omega
theorem ord_0 {a b:Ru}:ordR a b=0↔a.p=b.p∧a.m=b.m∧a.b=b.b:=by
 unfold ordR ordN orN;by_cases h1:a.p=b.p
 ·rw[if_pos (cmp_0.2 h1)];by_cases h2:a.m=b.m
  ·rw[if_pos (cmp_0.2 h2),cmp_0];exact⟨fun h=>⟨h1,h2,h⟩,fun h=>h.2.2⟩
  rw[if_neg (fun h=>h2 (cmp_0.1 h)),cmp_0];exact⟨fun h=>absurd h h2,fun h=>h.2.1⟩
 rw[if_neg (fun h=>h1 (cmp_0.1 h)),cmp_0];exact⟨fun h=>absurd h h1,fun h=>h.1⟩
theorem ord_rf (a:Ru):ordR a a=0:=ord_0.2 ⟨rfl,rfl,rfl⟩
theorem key_eq (a b:Ru):keyB a b=(decide (a.p=b.p)&&(decide (a.m=b.m)&&decide (a.b=b.b))):=by
 rw[Bool.eq_iff_iff,keyB,beq_iff_eq,ord_0];simp
def clTo (L:List Ru):Nat→Bool
 | 0=>false
 | k+1=>clTo L k || (L.take k).any (fun a=>keyB a (L.getD k zeR))
def okR (L:List Ru):Bool:=L.all Ru.ok
def tbTo (L:List Ru):Nat→Int
 | 0=>0
 | k+1=>if tbTo L k=0 then (if (L.getD k zeR).n=0 then (if (L.take k).any (fun a=>keyB a (L.getD k zeR)) then 7 else 0) else (L.getD k zeR).n) else tbTo L k
def tbN (L:List Ru):Int:=if 12<L.length then 4 else tbTo L L.length
theorem n_ne {r:Ru}(h:r.ok=false):r.n≠0:=ruN_ne h
theorem n_ok {r:Ru}(h:r.ok=true):r.n=0:=ruN_ok h
theorem ok_n {r:Ru}(h:r.n=0):r.ok=true:=by
 cases e:r.ok
 ·exact absurd h (n_ne e)
 rfl
theorem okR_next {L:List Ru}{k:Nat}(hk:k<L.length)(h:okR (L.take k)=true)(h2:(L[k]).ok=true):okR (L.take (k+1))=true:=by
 rw[List.take_succ_eq_append_getElem hk];simp only[okR,List.all_append,List.all_cons,List.all_nil,Bool.and_true,Bool.and_eq_true];exact⟨h,h2⟩
theorem to_le {L:List Ru}{k:Nat}(h:tbTo L k≠0):∀{n:Nat},k≤n→tbTo L n=tbTo L k
 | 0,hn=>by
   obtain rfl:k=0:=by omega
   rfl
 | n+1,hn=>by
   by_cases e:k=n+1
   ·subst e;rfl
   have:=to_le h (show k≤n by omega);rw[tbTo,if_neg (by rw[this];exact h),this]
theorem getD_at {L:List Ru}{k:Nat}(hk:k<L.length):L.getD k zeR=L[k]:=by simp[List.getD,hk]
theorem cl_le {L:List Ru}:∀{k n:Nat},k≤n→clTo L n=false→clTo L k=false
 | k,0,h,hc=>by
   obtain rfl:k=0:=by omega
   exact hc
 | k,n+1,h,hc=>by
   by_cases e:k=n+1
   ·subst e;exact hc
   simp only[clTo,Bool.or_eq_false_iff] at hc;exact cl_le (by omega) hc.1
theorem cl_no {L:List Ru}:clTo L L.length=false↔∀i j,i<j→j<L.length→keyB (L.getD i zeR) (L.getD j zeR)=false:=by
 constructor
 ·intro h i j hij hj;have:=cl_le (show j+1≤L.length by omega) h;simp only[clTo,Bool.or_eq_false_iff] at this;have h2:=this.2;rw[List.any_eq_false] at h2;have hm:L.getD i zeR∈L.take j:=by
   rw[getD_at (by omega)];rw[List.mem_take_iff_getElem];exact⟨i,by omega,rfl⟩
  simpa using h2 _ hm
 intro h;have:∀n,n≤L.length→clTo L n=false:=by
  intro n
  induction n with
  | zero=>intro _;rfl
  | succ n ih =>
    intro hn;simp only[clTo,Bool.or_eq_false_iff];refine⟨ih (by omega),?_⟩;rw[List.any_eq_false];intro a ha;rw[List.mem_take_iff_getElem] at ha;obtain⟨i,hi,rfl⟩:=ha;have:=h i n (by omega) (by omega);rw[getD_at (by omega)] at this;simpa using this
 exact this _ (nLQ _)
theorem to_0 {L:List Ru}:∀{k:Nat},k≤L.length→(tbTo L k=0↔okR (L.take k)=true∧clTo L k=false)
 | 0,_=>by simp[tbTo,okR,clTo]
 | k+1,hk=>by
   have ih:=to_0 (show k≤L.length by omega);have hl:k<L.length:=by omega
   rw[tbTo,clTo];by_cases h1:tbTo L k=0
   ·obtain⟨i1,i2⟩:=ih.1 h1;rw[if_pos h1,i2,Bool.false_or];by_cases h2:(L.getD k zeR).n=0
    ·rw[if_pos h2];have h3:=okR_next hl i1 (by rw[←getD_at hl];exact ok_n h2);cases h4:(L.take k).any (fun a=>keyB a (L.getD k zeR))
     ·simp[h3]
     simp
    rw[if_neg h2];refine⟨fun h=>absurd h h2,fun h=>?_⟩
    exfalso
    have h5:=h.1;rw[okR,List.all_eq_true] at h5;exact h2 (n_ok (by rw[getD_at hl];exact h5 _ (by rw[List.mem_take_iff_getElem];exact⟨k,by omega,rfl⟩)))
   rw[if_neg h1];refine⟨fun h=>absurd h h1,fun h=>?_⟩
   exfalso
   obtain⟨h5,h6⟩:=h;simp only[Bool.or_eq_false_iff] at h6;refine h1 (ih.2 ⟨?_,h6.1⟩);rw[okR,List.all_eq_true] at h5 ⊢;intro x hx;refine h5 x ?_;rw[List.mem_take_iff_getElem] at hx ⊢;obtain⟨i,hi,e⟩:=hx;exact⟨i,by omega,e⟩
theorem tb_0 {L:List Ru}:tbN L=0↔L.length≤12∧okR L=true∧clTo L L.length=false:=by
 unfold tbN;by_cases h1:12<L.length
 ·rw[if_pos h1];constructor
  ·intro h;cases h
  intro h;omega
 rw[if_neg h1,to_0 (nLQ _),List.take_length];exact⟨fun h=>⟨by omega,h⟩,fun h=>h.2⟩
def eqR (a b:Ru):Bool:=decide (a.p=b.p)&&(decide (a.m=b.m)&&(decide (a.b=b.b)&&(decide (a.o=b.o)&&(decide (a.s=b.s)&&decide (a.v=b.v)))))
theorem eq_R {a b:Ru}:eqR a b=true↔a=b:=by
 obtain⟨p,m,b1,o,s,v⟩:=a;obtain⟨p',m',b',o',s',v'⟩:=b;simp[eqR]
theorem eq_no {a b:Ru}:eqR a b=false↔a≠b:=by
 rw[←Bool.not_eq_true,Ne,eq_R]
theorem eq_rf (a:Ru):eqR a a=true:=eq_R.2 rfl
def inB (L:List Ru)(r:Ru):Bool:=L.any (fun a=>eqR r a)
theorem in_iff {L:List Ru}{r:Ru}:inB L r=true↔r∈L:=by
 simp only[inB,List.any_eq_true,eq_R];exact⟨fun ⟨x,h,e⟩=>e ▸ h,fun h=>⟨r,h,rfl⟩⟩
def ixN (L:List Ru)(r:Ru):Nat:=L.findIdx (fun a=>eqR r a)
def hitB (L:List Ru)(r:Ru):Bool:=L.any (fun a=>keyB a r)
def chN (L:List Ru)(add:Bool)(r:Ru):Int:=if add then (if hitB L r then 7 else if 12≤L.length then 4 else 0) else (if inB L r then 0 else 5)
def chL (L:List Ru)(add:Bool)(r:Ru):List Ru:=if chN L add r=0 then (if add then L++[r] else L.take (ixN L r)++L.drop (ixN L r+1)) else []
def doN (L:List Ru)(add:Bool)(r:Ru):Int:=if tbN L=0 then (if r.n=0 then chN L add r else r.n) else tbN L
def doL (L:List Ru)(add:Bool)(r:Ru):List Ru:=if doN L add r=0 then chL L add r else []
structure Op8 where
 w:Int
 a:Bool
 r:Ru
def alN:List Ru→List Op8→Int
 | _,[]=>0
 | L,o :: l=>if doN L o.a o.r=0 then alN (doL L o.a o.r) l else doN L o.a o.r
def alL:List Ru→List Op8→List Ru
 | L,[]=>L
 | L,o :: l=>if doN L o.a o.r=0 then alL (doL L o.a o.r) l else []
theorem tb_iff {L:List Ru}:tbN L=0↔L.length≤12∧(∀r∈L,r.ok=true)∧L.Pairwise (fun a b=>keyB a b=false):=by
 rw[tb_0,cl_no,okR,List.all_eq_true,List.pairwise_iff_getElem];refine and_congr Iff.rfl (and_congr Iff.rfl ⟨fun h i j hi hj hij=>?_,fun h i j hij hj=>?_⟩)
 ·have:=h i j hij hj;rw[getD_at hi,getD_at hj] at this;exact this
 rw[getD_at (by omega),getD_at hj];exact h i j (by omega) hj hij
theorem key_rf (a:Ru):keyB a a=true:=by simp[keyB,ord_rf]
theorem tb_sub {L M:List Ru}(h:tbN L=0)(hs:M.Sublist L):tbN M=0:=by
 rw[tb_iff] at h ⊢;exact⟨Nat.le_trans hs.length_le h.1,fun r hr=>h.2.1 r (hs.subset hr),h.2.2.sublist hs⟩
theorem tb_one {L:List Ru}{r:Ru}(h:tbN L=0)(hr:r.ok=true)(hh:hitB L r=false)(hl:L.length<12):tbN (L++[r])=0:=by
 rw[tb_iff] at h ⊢;refine⟨by simp;omega,?_,?_⟩
 ·intro x hx;rw[List.mem_append,List.mem_singleton] at hx
  rcases hx with hx | rfl
  ·exact h.2.1 x hx
  exact hr
 rw[List.pairwise_append];refine⟨h.2.2,List.pairwise_singleton _ _,fun a ha b hb=>?_⟩;rw[List.mem_singleton] at hb;subst hb;simp only[hitB,List.any_eq_false] at hh;simpa using hh a ha
theorem tb_nodup {L:List Ru}(h:tbN L=0):L.Nodup:=by
 rw[tb_iff] at h;refine h.2.2.imp ?_;rintro a b hk rfl;rw[key_rf] at hk;cases hk
theorem ix_split {L M:List Ru}{r:Ru}(h:r ∉ L):ixN (L++r :: M) r=L.length:=by
 induction L with
 | nil=>simp[ixN,List.findIdx_cons,eq_rf]
 | cons x l ih =>
   have h1:eqR r x=false:=eq_no.2 (fun e=>h (by rw[e];exact List.mem_cons_self));have h2:=ih (fun hm=>h (List.mem_cons_of_mem _ hm));simp only[ixN] at h2 ⊢;rw[List.cons_append,List.findIdx_cons,h1,h2];rfl
theorem do_take {A B:List Ru}{r:Ru}(h:tbN (A++r :: B)=0):doN (A++r :: B) false r=0∧doL (A++r :: B) false r=A++B:=by
 have hm:r∈A++r :: B:=by simp
 have hno:r ∉ A:=by
  have:=tb_nodup h;rw[List.nodup_append] at this;intro hA;exact this.2.2 r hA r (by simp) rfl
 have hr:r.n=0:=n_ok ((tb_iff.1 h).2.1 r hm);have hc:chN (A++r :: B) false r=0:=by simp[chN,in_iff.2 hm]
 have hd:doN (A++r :: B) false r=0:=by rw[doN,if_pos h,if_pos hr,hc]
 refine⟨hd,?_⟩;rw[doL,if_pos hd,chL,if_pos hc,ix_split hno];simp
theorem do_add {L:List Ru}{r:Ru}(h:tbN L=0)(hr:r.ok=true)(hh:hitB L r=false)(hl:L.length<12):doN L true r=0∧doL L true r=L++[r]:=by
 have hc:chN L true r=0:=by
  rw[chN,hh];simp;omega
 have hd:doN L true r=0:=by rw[doN,if_pos h,if_pos (n_ok hr),hc]
 exact⟨hd,by rw[doL,if_pos hd,chL,if_pos hc];rfl⟩
theorem add_yes {L:List Ru}{r:Ru}(h:doN L true r=0):tbN L=0∧r.ok=true∧hitB L r=false∧L.length<12:=by
 unfold doN at h;by_cases h1:tbN L=0
 ·rw[if_pos h1] at h;by_cases h2:r.n=0
  ·rw[if_pos h2,chN] at h;simp only[if_true] at h;cases h3:hitB L r
   ·rw[h3] at h;by_cases h4:12≤L.length
    ·simp[h4] at h
    exact⟨h1,ok_n h2,rfl,by omega⟩
   rw[h3] at h;simp at h
  rw[if_neg h2] at h;exact absurd h h2
 rw[if_neg h1] at h;exact absurd h h1
structure Mg where
 k:Int
 s:Int
 r:Int
 i:Int
 o:Op8
def zeP:Op8:=⟨0,false,⟨0,0,0,0,0,0⟩⟩
def oqB (a b:Op8):Bool:=(a.w==b.w)&&((a.a==b.a)&&((a.r.p==b.r.p)&&((a.r.m==b.r.m)&&((a.r.b==b.r.b)&&((a.r.o==b.r.o)&&((a.r.s==b.r.s)&&((a.r.v==b.r.v))))))))
theorem oqB_iff (a b:Op8):oqB a b=true↔a=b:=by
 have e:oqB a b=((a.w==b.w)&&((a.a==b.a)&&((a.r.p==b.r.p)&&((a.r.m==b.r.m)&&((a.r.b==b.r.b)&&((a.r.o==b.r.o)&&((a.r.s==b.r.s)&&((a.r.v==b.r.v))))))))):=rfl;rw[e];simp only[Bool.and_eq_true,beq_iff_eq];constructor
 ·intro h;obtain⟨a0,a1,⟨a2,a3,a4,a5,a6,a7⟩⟩:=a;obtain⟨b0,b1,⟨b2,b3,b4,b5,b6,b7⟩⟩:=b;simp at h ⊢;simp[h]
 intro h;subst h;simp
def mgR (m:Mg):Bool:=(decide (1≤m.k)&&decide (m.k≤3))&&((decide (1≤m.s)&&decide (m.s≤6))&&((decide (0≤m.r)&&decide (m.r≤19))&&(decide (0≤m.i)&&decide (m.i≤200))))
def moN (o:Op8)(s:Int):Int:=if o.r.n=0 then (if o.w=s then 0 else 3) else o.r.n
def mgN (m:Mg):Int:=if mgR m then (if m.k=1 then moN m.o m.s else (if oqB m.o zeP && !(decide (m.k=3) && !(decide (m.i=0))) then 0 else 3)) else 1
theorem mg_bd (m:Mg):0≤mgN m∧mgN m≤3:=by
 unfold mgN moN;have h:0≤m.o.r.n∧m.o.r.n≤3:=ruN_bd _ _ _ _ _ _
 split
 ·split
  ·split
   ·split <;> omega
   omega
  split <;> omega
 omega
theorem mg_rng {m:Mg}:mgR m=true↔(1≤m.k∧m.k≤3)∧(1≤m.s∧m.s≤6)∧(0≤m.r∧m.r≤19)∧(0≤m.i∧m.i≤200):=by
 simp[mgR]
def btN (b:Bool):Int:=if b then 1 else 0
def mgL (m:Mg):List Int:=[m.k,m.s,m.r,m.i]++if m.k=1 then [btN m.o.a,m.o.r.p,m.o.r.m,m.o.r.b,m.o.r.o,m.o.r.s,m.o.r.v] else []
def smL (l:List Int):Int:=l.foldl (· + ·) 0
theorem sm_app (l:List Int)(x:Int):smL (l++[x])=smL l+x:=by simp[smL]
def nmT (l:List Int):ByteArray:=strOfNums (l++[smL l % 251])
def mgT (m:Mg):ByteArray:=nmT (mgL m)
def byL (l:List Int):Prop:=∀x∈l,0≤x∧x≤200
theorem mg_1 {m:Mg}(h:mgN m=0):mgR m=true∧(m.k=1→m.o.r.n=0∧m.o.w=m.s)∧(m.k≠1→m.o=zeP∧(m.k=3→m.i=0)):=by
 unfold mgN moN at h
 split at h
 ·next hR =>
  refine⟨hR,fun h1=>?_,fun h1=>?_⟩
  ·rw[if_pos h1] at h
   split at h
   ·split at h
    ·exact⟨by assumption,by assumption⟩
    cases h
   exact absurd h (by assumption)
  rw[if_neg h1] at h
  split at h
  ·next h2 =>
   simp only[Bool.and_eq_true] at h2;refine⟨(oqB_iff _ _).1 h2.1,fun h3=>?_⟩;have:=h2.2;simp[h3] at this;exact this
  cases h
 cases h
theorem mg_by {m:Mg}(h:mgN m=0):byL (mgL m)∧(mgL m).length≤11∧4≤(mgL m).length:=by
 obtain⟨hR,h1,h2⟩:=mg_1 h;have hr:=mg_rng.1 hR;by_cases hk:m.k=1
 ·obtain⟨h3,h4⟩:=h1 hk;have h5:ruOk m.o.r.p m.o.r.m m.o.r.b m.o.r.o m.o.r.s m.o.r.v=true:=by
   cases h6:ruOk m.o.r.p m.o.r.m m.o.r.b m.o.r.o m.o.r.s m.o.r.v
   ·exact absurd h3 (ruN_ne h6)
   rfl
  have h6:=ru_in (ru_ok h5).1;have h7:=ok_of (ru_ok h5).2.1;refine⟨?_,?_,?_⟩
  ·intro x hx;simp only[mgL,if_pos hk,List.cons_append,List.nil_append,List.mem_cons,List.not_mem_nil,or_false] at hx;have hb:0≤btN m.o.a∧btN m.o.a≤1:=by unfold btN;split <;> omega
   rcases hx with rfl | rfl | rfl | rfl | rfl | rfl | rfl | rfl | rfl | rfl | rfl <;> omega
  ·simp[mgL,hk]
  simp[mgL,hk]
 refine⟨?_,?_,?_⟩
 ·intro x hx;simp only[mgL,if_neg hk,List.cons_append,List.nil_append,List.mem_cons,List.not_mem_nil,or_false] at hx
  rcases hx with rfl | rfl | rfl | rfl <;> omega
 ·simp[mgL,hk]
 simp[mgL,hk]
theorem by_take {l:List Int}(h:byL l)(k:Nat):byL (l.take k):=fun x hx=>h x (List.mem_of_mem_take hx)
theorem by_sum:∀{l:List Int},byL l→0≤smL l∧smL l≤200*l.length:=by
 have key:∀(l:List Int) (a:Int),byL l→a≤l.foldl (· + ·) a∧l.foldl (· + ·) a≤a+200*l.length:=by
  intro l
  induction l with
  | nil=>intro a _;simp
  | cons x r ih =>
    intro a h;have h1:=h x List.mem_cons_self;have h2:=ih (a+x) (fun y hy=>h y (List.mem_cons_of_mem _ hy));simp only[List.foldl_cons,List.length_cons];omega
 intro l h;have:=key l 0 h;unfold smL;omega
section
variable {κ β:Type}
def fndM (q:κ→κ→Bool)(k:κ):List κ→List MapEntry→Nat→Option (Nat×Value)
 | k' :: ks,e :: es,i=>if q k k' then some (i,e.val) else fndM q k ks es (i+1)
 | _,_,_=>none
def mget (q:κ→κ→Bool)(k:κ):List (κ×β)→Option β
 | []=>none
 | p :: M=>if q k p.1 then some p.2 else mget q k M
def mput (q:κ→κ→Bool)(k:κ)(b:β):List (κ×β)→List (κ×β)
 | []=>[(k,b)]
 | p :: M=>if q k p.1 then (k,b) :: M else p :: mput q k b M
theorem mget_put {q:κ→κ→Bool}(hq:∀a b,q a b=true↔a=b)(k k':κ)(b:β):∀M:List (κ×β),mget q k' (mput q k b M)=if q k' k then some b else mget q k' M
 | []=>by simp[mput,mget]
 | p :: M=>by
   have ih:=mget_put hq k k' b M;rw[mput];by_cases h:q k p.1=true
   ·rw[if_pos h,mget,mget];have e:=(hq _ _).1 h;subst e;simp only
    split <;> simp_all
   rw[if_neg h,mget,mget,ih];by_cases h2:q k' p.1=true
   ·rw[if_pos h2,if_pos h2];have e:=(hq _ _).1 h2;have:¬q k' k=true:=fun h3=>h (by rw[hq] at h3;subst h3;exact h2)
    rw[if_neg this]
   rw[if_neg h2,if_neg h2]
end
structure KeyE (P:Program)(K:TypeId)(κ:Type) where
 c:κ→Value
 q:κ→κ→Bool
 qeq:∀a b,q a b=true↔a=b
 check:∀(e:Bool) (k:κ) (w:World),(Instr.checkKey e 10000 K (c k)).run P w=.ok () w
 find:∀(k:κ) (ks:List κ) (l:List MapEntry) (w:World),l.map (·.key)=ks.map c→(Instr.findKey K (c k) l).run P w=.ok (fndM q k ks l 0) w
 bits:∀k,Instr.sameBits 10000 (c k) (c k)=true
section
variable {P:Program}{K:TypeId}{κ β:Type}
theorem find_ask {c:κ→Value}{q:κ→κ→Bool}(heq:∀a b w,(Op.equal K (c a) (c b)).run P w=.ok (q a b) w)(k:κ):∀(ks:List κ) (l:List MapEntry) (i:Nat) (w:World),l.map (·.key)=ks.map c→(Instr.findAsking K (c k) l i).run P w=.ok (fndM q k ks l i) w
 | [],[],i,w,_=>rfl
 | [],_ :: _,_,_,h=>by simp at h
 | _ :: _,[],_,_,h=>by simp at h
 | k' :: ks,e :: l,i,w,h=>by
   simp only[List.map_cons,List.cons.injEq] at h;simp only[Instr.findAsking,Sem.run_bind,h.1,heq,Result.andThen_ok];rw[fndM];cases hq:q k k'
   ·simp only[Bool.false_eq_true,if_false];exact find_ask heq k ks l (i+1) w h.2
   simp
theorem find_now {c:κ→Value}{q:κ→κ→Bool}{d:TypeDesc}(hs:∀a b,Instr.sameNow d (c a) (c b)=some (q a b))(k:κ):∀(ks:List κ) (l:List MapEntry) (i:Nat),l.map (·.key)=ks.map c→Instr.findNow d (c k) l i=some (fndM q k ks l i)
 | [],[],i,_=>rfl
 | [],_ :: _,_,h=>by simp at h
 | _ :: _,[],_,h=>by simp at h
 | k' :: ks,e :: l,i,h=>by
   simp only[List.map_cons,List.cons.injEq] at h;rw[Instr.findNow,h.1,hs,fndM];cases hq:q k k'
   ·simp only[Bool.false_eq_true,if_false];exact find_now hs k ks l (i+1) h.2
   simp
def KeyE.now (c:κ→Value)(q:κ→κ→Bool)(qeq:∀a b,q a b=true↔a=b)(check:∀(e:Bool) (k:κ) (w:World),(Instr.checkKey e 10000 K (c k)).run P w=.ok () w)(d:TypeDesc)(hd:P.underlying K=some d)
    (hs:∀a b,Instr.sameNow d (c a) (c b)=some (q a b)) (bits:∀k,Instr.sameBits 10000 (c k) (c k)=true):KeyE P K κ:=
 ⟨c,q,qeq,check,fun k ks l w h=>Go.MapKept.run_findKey hd (find_now hs k ks l 0 h),bits⟩
def KeyE.ask (c:κ→Value)(q:κ→κ→Bool)(qeq:∀a b,q a b=true↔a=b)(check:∀(e:Bool) (k:κ) (w:World),(Instr.checkKey e 10000 K (c k)).run P w=.ok () w)(d:TypeDesc)(hd:P.underlying K=some d)
    (hs:∀a b,Instr.sameNow d (c a) (c b)=none) (heq:∀a b w,(Op.equal K (c a) (c b)).run P w=.ok (q a b) w) (bits:∀k,Instr.sameBits 10000 (c k) (c k)=true):KeyE P K κ:=
 ⟨c,q,qeq,check,fun k ks l w h=>by
  cases ks with
  | nil =>
    cases l with
    | nil=>exact Go.MapKept.run_findKey hd rfl
    | cons e l=>simp at h
  | cons k' ks =>
    cases l with
    | nil=>simp at h
    | cons e l =>
      have h1:Instr.findNow d (c k) (e :: l) 0=none:=by
       simp only[List.map_cons,List.cons.injEq] at h;rw[Instr.findNow,h.1,hs]
      simp only[Instr.findKey,Sem.run_bind,run_underlying hd,Result.andThen_ok,h1];exact find_ask heq k (k' :: ks) (e :: l) 0 w h,bits⟩
def Sta (bs:List Nat)(clock:Nat):Prop:=(∀b∈bs,b<clock)∧bs.Nodup
theorem sta_push {bs:List Nat}{clock:Nat}(h:Sta bs clock):Sta (bs++[clock]) (clock+1):=by
 refine⟨fun b hb=>?_,?_⟩
 ·simp only[List.mem_append,List.mem_singleton] at hb
  rcases hb with hb | rfl
  ·have:=h.1 b hb;omega
  omega
 rw[List.nodup_append];refine⟨h.2,by simp,fun a ha b hb e=>?_⟩;simp only[List.mem_singleton] at hb;have:=h.1 a ha;omega
theorem born_modify (f:MapEntry→MapEntry)(hf:∀e,(f e).born=e.born):∀(l:List MapEntry) (i:Nat),(l.modify i f).map (·.born)=l.map (·.born)
 | [],i=>by simp
 | a :: l,0=>by simp[hf]
 | a :: l,i+1=>by
   have ih:=born_modify f hf l i;simp[List.modify_succ_cons,ih]
def MAt (E:KeyE P K κ)(ve:β→Value)(w:World)(B:Nat)(M:List (κ×β)):Prop:=
 ∃es clock,w.heap[B]?=some (.map es clock)∧es.toList.map (·.key)=(M.map (·.1)).map E.c∧es.toList.map (·.val)=(M.map (·.2)).map ve∧Sta (es.toList.map (·.born)) clock
variable {E:KeyE P K κ}{ve:β→Value}
theorem MAt.lt {w:World}{B:Nat}{M:List (κ×β)}(h:MAt E ve w B M):B<w.heap.size:=by
 obtain⟨es,clock,h1,_⟩:=h;exact (Array.getElem?_eq_some_iff.1 h1).1
theorem MAt.later {w w':World}{B:Nat}{M:List (κ×β)}(h:MAt E ve w B M)(hb:Below w.heap.size w w'):MAt E ve w' B M:=by
 have hlt:=h.lt;obtain⟨es,clock,h1,h2⟩:=h;exact⟨es,clock,(hb.block B hlt).trans h1,h2⟩
theorem MAt.kept {w w':World}{B:Nat}{M:List (κ×β)}{row:Option Nat}(h:MAt E ve w B M)(hg:w.grownBy w' row)(hne:some B≠row):MAt E ve w' B M:=by
 have hlt:=h.lt;obtain⟨es,clock,h1,h2⟩:=h;exact⟨es,clock,(hg.block B hlt hne).trans h1,h2⟩
theorem mat_new (E:KeyE P K κ)(ve:β→Value)(w:World):MAt E ve (w.alloc (.map #[] 0)) w.heap.size []:=⟨#[],0,heap_alloc_new w _,rfl,rfl,by simp[Sta]⟩
theorem fnd_get {q:κ→κ→Bool}{k:κ}:∀(M:List (κ×β)) (l:List MapEntry) (i:Nat),l.map (·.val)=(M.map (·.2)).map ve→((fndM q k (M.map (·.1)) l i).map (·.2))=(mget q k M).map ve
 | [],[],_,_=>rfl
 | [],_ :: _,_,h=>by simp at h
 | _ :: _,[],_,h=>by simp at h
 | p :: M,e :: l,i,h=>by
   simp only[List.map_cons,List.cons.injEq] at h;rw[List.map_cons,fndM,mget];cases hq:q k p.1
   ·simp only[Bool.false_eq_true,if_false];exact fnd_get M l (i+1) h.2
   simp[h.1]
def getV (ve:β→Value)(z:Value)(o:Option β):Value:=match o with | some b=>ve b | none=>z
theorem run_lookup_M {w:World}{B:Nat}{M:List (κ×β)}(h:MAt E ve w B M)(t e:TypeId)(ht:P.underlying t=some (.map K e))(z:Value)(hz:∀w,(zeroValue e).run P w=.ok z w)(k:κ)(ok:Bool):
 (Instr.lookup t (.map (some B)) (E.c k) ok).run P w=.ok (if ok then .tuple #[getV ve z (mget E.q k M),.bool (mget E.q k M).isSome] else getV ve z (mget E.q k M)) w:=by
 obtain⟨es,clock,h1,h2,h3,_⟩:=h;have hf:=E.find k (M.map (·.1)) es.toList w h2;have hg:=fnd_get (ve:=ve) (q:=E.q) (k:=k) M es.toList 0 h3;simp only[Instr.lookup,Sem.run_bind,run_underlying ht,Result.andThen_ok,Go.MapKept.run_getObj_map h1,Sem.run_pure,E.check,hf]
 generalize fndM E.q k (M.map (·.1)) es.toList 0=r at *
 cases r with
 | none =>
   cases hm:mget E.q k M with
   | none=>cases ok <;> simp[getV,hz]
   | some b=>rw[hm] at hg;simp at hg
 | some p =>
   cases hm:mget E.q k M with
   | none=>rw[hm] at hg;simp at hg
   | some b =>
     rw[hm] at hg;simp at hg;cases ok <;> simp[getV,hg]
theorem fnd_put {q:κ→κ→Bool}(qeq:∀a b,q a b=true↔a=b){c:κ→Value}{k:κ}{b:β}:∀(M:List (κ×β)) (l:List MapEntry) (s:Nat),l.map (·.key)=(M.map (·.1)).map c→l.map (·.val)=(M.map (·.2)).map ve →
 (fndM q k (M.map (·.1)) l s=none∧(mput q k b M)=M++[(k,b)])∨∃i v,fndM q k (M.map (·.1)) l s=some (s+i,v)∧∃hi:i<l.length,l[i].key=c k ∧
  (l.modify i (fun e=>{ e with key:=c k,val:=ve b })).map (·.key)=((mput q k b M).map (·.1)).map c∧(l.modify i (fun e=>{ e with key:=c k,val:=ve b })).map (·.val)=((mput q k b M).map (·.2)).map ve
 | [],[],_,_,_=>.inl ⟨rfl,rfl⟩
 | [],_ :: _,_,h,_=>by simp at h
 | _ :: _,[],_,h,_=>by simp at h
 | p :: M,e :: l,s,h,h'=>by
   simp only[List.map_cons,List.cons.injEq] at h h';rw[List.map_cons,fndM,mput];cases hq:q k p.1
   ·simp only[Bool.false_eq_true,if_false]
    rcases fnd_put qeq (c:=c) (k:=k) (b:=b) M l (s+1) h.2 h'.2 with ⟨h1,h2⟩ | ⟨i,v,h1,hi,h2,h3,h4⟩
    ·exact .inl ⟨h1,by rw[h2];rfl⟩
    refine .inr ⟨i+1,v,by rw[h1];congr 2;omega,by simp;omega,by simpa using h2,?_,?_⟩
    ·simp only[List.modify_succ_cons,List.map_cons,h.1,h3]
    simp only[List.modify_succ_cons,List.map_cons,h'.1,h4]
   simp only[if_true];have e1:=(qeq _ _).1 hq;refine .inr ⟨0,e.val,rfl,by simp,by simp[h.1,e1],?_,?_⟩
   ·simp[h.2]
   simp[h'.2]
theorem run_update_M {w:World}{B:Nat}{M:List (κ×β)}(h:MAt E ve w B M)(t e:TypeId)(ht:P.underlying t=some (.map K e))(k:κ)(b:β):
 ∃w',(Instr.mapUpdate t (.map (some B)) (E.c k) (ve b)).run P w=.ok () w'∧MAt E ve w' B (mput E.q k b M)∧w.grownBy w' (some B):=by
 have hlt:=h.lt;obtain⟨es,clock,h1,h2,h3,hst⟩:=h;have hf:=E.find k (M.map (·.1)) es.toList w h2;have hgr:∀o:Obj,w.grownBy { w with heap:=w.heap.setIfInBounds B o } (some B):=fun o=>⟨rfl,rfl,rfl,by simp,fun j _ hj=>by
  have:B≠j:=fun e=>hj (by rw[e])
  simp[Array.getElem?_setIfInBounds_ne this]⟩
 have hat:∀o:Obj,({ w with heap:=w.heap.setIfInBounds B o }:World).heap[B]?=some o:=fun o=>by simp[hlt]
 rcases fnd_put E.qeq (ve:=ve) (c:=E.c) (k:=k) (b:=b) M es.toList 0 h2 h3 with ⟨r1,r2⟩ | ⟨i,v,r1,hi,r2,r3,r4⟩
 ·rw[r1] at hf;refine⟨_,?_,⟨es.push { key:=E.c k,val:=ve b,born:=clock },clock+1,hat _,?_,?_,by simpa using sta_push hst⟩,hgr _⟩
  ·simp only[Instr.mapUpdate,Sem.run_bind,run_underlying ht,Result.andThen_ok,Go.MapKept.run_getObj_map h1,E.check,hf,Go.MapKept.run_setObj_map _ h1]
  ·rw[r2];simp[h2]
  rw[r2];simp[h3]
 rw[r1] at hf;have hk:((es[i]?).map (·.key)).getD (E.c k)=E.c k:=by
  have hi2:i<es.size:=by simpa using hi
  rw[Array.getElem?_eq_getElem hi2];simpa using r2
 refine⟨_,?_,⟨es.modify i fun e=>{ e with key:=E.c k,val:=ve b },clock,hat _,?_,?_,by have hbm:=born_modify (fun e:MapEntry=>{ e with key:=E.c k,val:=ve b }) (fun _=>rfl) es.toList i;rw[Array.toList_modify,hbm];exact hst⟩,hgr _⟩
 ·simp only[Instr.mapUpdate,Sem.run_bind,run_underlying ht,Result.andThen_ok,Go.MapKept.run_getObj_map h1,E.check,hf,Nat.zero_add,hk,Instr.keyThatStays,E.bits,if_true,Sem.run_pure,Go.MapKept.run_setObj_map _ h1]
 ·rw[Array.toList_modify];exact r3
 rw[Array.toList_modify];exact r4
theorem find_born {l:List MapEntry}:∀{j:Nat} {e0:MapEntry},(l.map (·.born)).Nodup→l[j]?=some e0→l.findIdx? (fun e=>((e.born:Nat):Int)==((e0.born:Nat):Int))=some j:=by
 induction l with
 | nil=>intro j e0 _ h;simp at h
 | cons a r ih =>
   intro j e0 hn h;simp only[List.map_cons,List.nodup_cons] at hn;cases j with
   | zero =>
     simp only[List.getElem?_cons_zero,Option.some.injEq] at h;subst h;simp[List.findIdx?_cons]
   | succ j =>
     simp only[List.getElem?_cons_succ] at h;have hne:¬a.born=e0.born:=fun e1=>hn.1 (List.mem_map.2 ⟨e0,List.mem_of_getElem? h,e1.symm⟩)
     have hb:(((a.born:Nat):Int)==((e0.born:Nat):Int))=false:=by
      simp only[beq_eq_false_iff_ne,ne_eq,Int.natCast_inj];exact hne
     rw[List.findIdx?_cons,hb];simp[ih hn.2 h]
theorem idx_toList (xs:Array MapEntry)(p:MapEntry→Bool):xs.findIdx? p=xs.toList.findIdx? p:=by
 cases xs;simp
theorem modify_end {α:Type}(f:α→α)(a:α):∀l:List α,(l++[a]).modify l.length f=l++[f a]
 | []=>rfl
 | b :: r=>by simp[List.modify_succ_cons,modify_end f a r]
theorem modify_at {α:Type}(f g:α→α):∀(l:List α) (i:Nat) (hi:i<l.length),f l[i]=g l[i]→l.modify i f=l.modify i g
 | a :: l,0,_,h=>by simpa using h
 | a :: l,i+1,hi,h=>by
   have:=modify_at f g l i (by simpa using hi) (by simpa using h);simp[List.modify_succ_cons,this]
theorem modify_id {α:Type}(f:α→α):∀(l:List α) (i:Nat) (hi:i<l.length),f l[i]=l[i]→l.modify i f=l
 | a :: l,0,_,h=>by simpa using h
 | a :: l,i+1,hi,h=>by
   have:=modify_id f l i (by simpa using hi) (by simpa using h);simp[List.modify_succ_cons,this]
theorem run_entry_M {w:World}{B:Nat}{M:List (κ×β)}(h:MAt E ve w B M)(t e:TypeId)(ht:P.underlying t=some (.map K e))(z:β)(hz:∀w,(zeroValue e).run P w=.ok (ve z) w)(k:κ):
 ∃ (v0:Value) (st:Nat) (w1:World),(Instr.mapEntry t (.map (some B)) (E.c k)).run P w=.ok (.tuple #[v0,.int i64 (st:Int)]) w1∧w.grownBy w1 (some B)∧MAt E ve w1 B (mput E.q k ((mget E.q k M).getD z) M) ∧
   ∀(w2:World) (b:β),w2.heap[B]?=w1.heap[B]?→∃w3,(Instr.entryStore t (.map (some B)) (.int i64 (st:Int)) (ve b)).run P w2=.ok () w3∧MAt E ve w3 B (mput E.q k b M)∧w2.grownBy w3 (some B):=by
 have hlt:=h.lt;obtain⟨es,clock,h1,h2,h3,hst⟩:=h;have hf:=E.find k (M.map (·.1)) es.toList w h2;have hgr:∀(w:World) (o:Obj),w.grownBy { w with heap:=w.heap.setIfInBounds B o } (some B):=fun w o=>⟨rfl,rfl,rfl,by simp,fun j _ hj=>by
  have:B≠j:=fun e=>hj (by rw[e])
  simp[Array.getElem?_setIfInBounds_ne this]⟩
 have hat:∀(w:World) (o o':Obj),w.heap[B]?=some o'→({ w with heap:=w.heap.setIfInBounds B o }:World).heap[B]?=some o:=fun w o o' hw=>by
  have hl:B<w.heap.size:=(Array.getElem?_eq_some_iff.1 hw).1;simp[hl]
 rcases fnd_put E.qeq (ve:=ve) (c:=E.c) (k:=k) (b:=z) M es.toList 0 h2 h3 with ⟨r1,r2⟩ | ⟨i,v,r1,hi,r2,r3,r4⟩
 ·rw[r1] at hf;have hno:mget E.q k M=none:=by
   have:=fnd_get (ve:=ve) (q:=E.q) (k:=k) M es.toList 0 h3;rw[r1] at this;cases hm:mget E.q k M with
   | none=>rfl
   | some b=>rw[hm] at this;simp at this
  have hput:∀b,mput E.q k b M=M++[(k,b)]:=fun b=>by
   rcases fnd_put E.qeq (ve:=ve) (c:=E.c) (k:=k) (b:=b) M es.toList 0 h2 h3 with ⟨_,r⟩ | ⟨i,v,q1,_⟩
   ·exact r
   rw[r1] at q1;cases q1
  refine⟨ve z,clock,{ w with heap:=w.heap.setIfInBounds B (.map (es.push { key:=E.c k,val:=ve z,born:=clock }) (clock+1)) },?_,hgr _ _,⟨_,_,hat _ _ _ h1,?_,?_,by simpa using sta_push hst⟩,fun w2 b hw2=>?_⟩
  ·simp only[Instr.mapEntry,Sem.run_bind,run_underlying ht,Result.andThen_ok,Go.MapKept.run_getObj_map h1,E.check,hf,hz,Go.MapKept.run_setObj_map _ h1,Sem.run_pure];rfl
  ·rw[hno,hput];simp[h2]
  ·rw[hno,hput];simp[h3]
  rw[hat _ _ _ h1] at hw2;have hidx:(es.push { key:=E.c k,val:=ve z,born:=clock }).findIdx? (fun e=>((e.born:Nat):Int)==((clock:Nat):Int))=some es.size:=by
   rw[idx_toList];exact find_born (l:=(es.push { key:=E.c k,val:=ve z,born:=clock }).toList) (j:=es.size) (e0:={ key:=E.c k,val:=ve z,born:=clock }) (by simpa using (sta_push hst).2) (by simp)
  have hmod:(es.push { key:=E.c k,val:=ve z,born:=clock }).modify es.size (fun e=>{ e with val:=ve b })=es.push { key:=E.c k,val:=ve b,born:=clock }:=by
   apply Array.ext'
   rw[Array.toList_modify,Array.toList_push,Array.toList_push,←Array.length_toList,modify_end]
  refine⟨{ w2 with heap:=w2.heap.setIfInBounds B (.map (es.push { key:=E.c k,val:=ve b,born:=clock }) (clock+1)) },?_,⟨_,_,hat _ _ _ hw2,?_,?_,by simpa using sta_push hst⟩,hgr _ _⟩
  ·simp[Instr.entryStore,Go.MapKept.run_getObj_map hw2,asInt,asIntOf,hidx,hmod,Go.MapKept.run_setObj_map _ hw2,Result.andThen]
  ·rw[hput];simp[h2]
  rw[hput];simp[h3]
 rw[r1] at hf;simp only[Nat.zero_add] at hf r1;have hi2:i<es.size:=by simpa using hi
 have hie:es[i]?=some es[i]:=Array.getElem?_eq_getElem hi2;have hil:es.toList[i]?=some es[i]:=by simp[hi2]
 have hkey:es[i].key=E.c k:=by simpa using r2
 have hget:∃b0,mget E.q k M=some b0∧ve b0=v:=by
  have:=fnd_get (ve:=ve) (q:=E.q) (k:=k) M es.toList 0 h3;rw[r1] at this;cases hm:mget E.q k M with
  | none=>rw[hm] at this;simp at this
  | some b=>rw[hm] at this;simp at this;exact⟨b,rfl,this.symm⟩
 obtain⟨b0,hb0,hv⟩:=hget;have hsame:es.modify i (fun e=>{ e with key:=E.c k })=es:=by
  apply Array.ext'
  rw[Array.toList_modify];refine modify_id _ _ i hi ?_;have:es.toList[i].key=E.c k:=r2;rw[←this]
 have hall:∀b,(es.toList.modify i (fun e=>{ e with key:=E.c k,val:=ve b })).map (·.key)=((mput E.q k b M).map (·.1)).map E.c∧(es.toList.modify i (fun e=>{ e with key:=E.c k,val:=ve b })).map (·.val)=((mput E.q k b M).map (·.2)).map ve:=fun b=>by
  rcases fnd_put E.qeq (ve:=ve) (c:=E.c) (k:=k) (b:=b) M es.toList 0 h2 h3 with ⟨q1,_⟩ | ⟨j,v',q1,_,_,q3,q4⟩
  ·rw[r1] at q1;cases q1
  rw[r1] at q1;simp only[Option.some.injEq,Prod.mk.injEq,Nat.zero_add] at q1;obtain⟨rfl,_⟩:=q1;exact⟨q3,q4⟩
 have hold:mput E.q k b0 M=M:=by
  have hput:∀(M:List (κ×β)),mget E.q k M=some b0→mput E.q k b0 M=M:=by
   intro M
   induction M with
   | nil=>intro h;cases h
   | cons p M ih =>
     intro h;rw[mget] at h;rw[mput];by_cases e:E.q k p.1=true
     ·rw[if_pos e] at h ⊢;have e1:=(E.qeq _ _).1 e;simp at h;subst h;subst e1;rfl
     rw[if_neg e] at h ⊢;rw[ih h]
  exact hput M hb0
 refine⟨v,es[i].born,w,?_,⟨rfl,rfl,rfl,nLQ _,fun _ _ _=>rfl⟩,⟨es,clock,h1,?_,?_,hst⟩,fun w2 b hw2=>?_⟩
 ·have hrefl:({ w with heap:=w.heap.setIfInBounds B (.map es clock) }:World)=w:=by
   have:w.heap.setIfInBounds B (.map es clock)=w.heap:=by
    apply Array.ext_getElem?
    intro j;by_cases e:B=j
    ·subst e;exact (hat w (.map es clock) _ h1).trans h1.symm
    simp[Array.getElem?_setIfInBounds_ne e]
   rw[this]
  simp only[Instr.mapEntry,Sem.run_bind,run_underlying ht,Result.andThen_ok,Go.MapKept.run_getObj_map h1,E.check,hf,hie,Option.map_some,Option.getD_some,hkey,Instr.keyThatStays,E.bits,if_true,Sem.run_pure,hsame,Go.MapKept.run_setObj_map _ h1];rw[hrefl];rfl
 ·rw[hb0,Option.getD_some,hold];exact h2
 ·rw[hb0,Option.getD_some,hold];exact h3
 rw[h1] at hw2;have hidx:es.findIdx? (fun e=>((e.born:Nat):Int)==((es[i].born:Nat):Int))=some i:=by
  rw[idx_toList];exact find_born hst.2 hil
 have hmod:es.modify i (fun e=>{ e with val:=ve b })=es.modify i (fun e=>{ e with key:=E.c k,val:=ve b }):=by
  apply Array.ext'
  rw[Array.toList_modify,Array.toList_modify];refine modify_at _ _ _ i hi ?_;have:es.toList[i].key=E.c k:=r2;rw[←this]
 refine⟨{ w2 with heap:=w2.heap.setIfInBounds B (.map (es.modify i (fun e=>{ e with key:=E.c k,val:=ve b })) clock) },?_,⟨_,_,hat _ _ _ hw2,?_,?_,by have hbm:=born_modify (fun e:MapEntry=>{ e with key:=E.c k,val:=ve b }) (fun _=>rfl) es.toList i;rw[Array.toList_modify,hbm];exact hst⟩,hgr _ _⟩
 ·simp[Instr.entryStore,Go.MapKept.run_getObj_map hw2,asInt,asIntOf,hidx,hmod,Go.MapKept.run_setObj_map _ hw2,Result.andThen]
 ·rw[Array.toList_modify];exact (hall b).1
 rw[Array.toList_modify];exact (hall b).2
variable {w:World}{ops:Array Oper}{rest:List Oper}{o:Oper}{a:Act}{Q:Exit→Act→World→Prop}
end
theorem ba_eq {a b:ByteArray}:(a==b)=true↔a=b:=by
 obtain⟨x⟩:=a;obtain⟨y⟩:=b;show (x==y)=true↔_;simp
def spB (S:Int)(x:Int×Int):Bool:=decide (1≤x.1)&&(decide (x.1≤S)&&(decide (1≤x.2)&&decide (x.2≤4)))
def nmB (s:ByteArray):Bool:=decide (1≤s.size)&&(decide (s.size≤6)&&s.data.toList.all fun c=>decide (97≤c.toNat)&&decide (c.toNat≤122))
def spsL (Ls:LkQ):List (Int×Int):=Ls.flatMap fun l=>[l.1,l.2]
def lkN (S:Int):LkQ→List (Int×Int)→Int
 | [],_=>0
 | l :: Ls,U=>if spB S l.1&&spB S l.2 then (if l.1==l.2 || (U.any fun u=>u==l.1 || u==l.2) then 7 else lkN S Ls (U++[l.1,l.2])) else 1
def hoN (S:Int):HoQ→List ByteArray→List (Int×Int)→Int
 | [],_,_=>0
 | h :: Hs,N,U=>if nmB h.1 then (if spB S h.2 then (if (N.any fun n=>n==h.1) || (U.any fun u=>u==h.2) then 7 else hoN S Hs (N++[h.1]) (U++[h.2])) else 1) else 2
def tpN (S:Int)(Ls:LkQ)(Hs:HoQ):Int:=
 if decide (1≤S)&&decide (S≤6) then (if decide (Ls.length≤200)&&decide (Hs.length≤8) then (if lkN S Ls []=0 then hoN S Hs [] (spsL Ls) else lkN S Ls []) else 4) else 1
theorem sp_of {S:Int}{x:Int×Int}(h:spB S x=true):1≤x.1∧x.1≤S∧1≤x.2∧x.2≤4:=by
 simpa[spB] using h
theorem lk_0 {S:Int}:∀{Ls:LkQ} {U:List (Int×Int)},U.Nodup→(lkN S Ls U=0↔(∀x∈spsL Ls,spB S x=true)∧(U++spsL Ls).Nodup)
 | [],U,hU=>by simp[lkN,spsL,hU]
 | l :: Ls,U,hU=>by
   obtain⟨x,y⟩:=l;have e:spsL ((x,y) :: Ls)=x :: y :: spsL Ls:=rfl;rw[lkN,e];simp only;by_cases h1:spB S x&&spB S y
   ·rw[if_pos h1];simp only[Bool.and_eq_true] at h1;by_cases h2:(x==y || (U.any fun u=>u==x || u==y))=true
    ·rw[if_pos h2];refine⟨fun h=>absurd h (by decide),fun h=>?_⟩
     exfalso
     have hn:=h.2;rw[List.nodup_append] at hn;obtain⟨_,h3,h4⟩:=hn;simp only[Bool.or_eq_true,beq_iff_eq,List.any_eq_true] at h2
     rcases h2 with h2 | ⟨u,hu,h2 | h2⟩
     ·subst h2;rw[List.nodup_cons] at h3;exact h3.1 (by simp)
     ·exact h4 u hu x (by simp) h2
     exact h4 u hu y (by simp) h2
    rw[if_neg h2];simp only[Bool.or_eq_true,beq_iff_eq,List.any_eq_true,not_or,not_exists,not_and] at h2;have hU2:(U++[x,y]).Nodup:=by
     rw[List.nodup_append];refine⟨hU,by simp[h2.1],?_⟩;intro a ha b hb e;subst e;simp only[List.mem_cons,List.not_mem_nil,or_false] at hb;have:=h2.2 a ha
     rcases hb with rfl | rfl
     ·exact this.1 rfl
     exact this.2 rfl
    rw[lk_0 hU2];have e2:U++[x,y]++spsL Ls=U++x :: y :: spsL Ls:=by simp
    rw[e2];refine and_congr ⟨fun h=>?_,fun h z hz=>h z (by simp[hz])⟩ Iff.rfl;intro z hz;simp only[List.mem_cons] at hz
    rcases hz with rfl | rfl | hz
    ·exact h1.1
    ·exact h1.2
    exact h z hz
   rw[if_neg h1];refine⟨fun h=>absurd h (by decide),fun h=>?_⟩;exact absurd (by simp[h.1 x (by simp),h.1 y (by simp)]) h1
theorem ho_0 {S:Int}:∀{Hs:HoQ} {N:List ByteArray} {U:List (Int×Int)},N.Nodup→U.Nodup→(hoN S Hs N U=0↔(∀h∈Hs,nmB h.1=true∧spB S h.2=true)∧(N++Hs.map (·.1)).Nodup∧(U++Hs.map (·.2)).Nodup)
 | [],N,U,hN,hU=>by simp[hoN,hN,hU]
 | h :: Hs,N,U,hN,hU=>by
   obtain⟨n,x⟩:=h;rw[hoN];simp only[List.map_cons];by_cases h1:nmB n=true
   ·rw[if_pos h1];by_cases h2:spB S x=true
    ·rw[if_pos h2];by_cases h3:((N.any fun m=>m==n) || (U.any fun u=>u==x))=true
     ·rw[if_pos h3];refine⟨fun h=>absurd h (by decide),fun h=>?_⟩
      exfalso
      simp only[Bool.or_eq_true,ba_eq,beq_iff_eq,List.any_eq_true] at h3
      rcases h3 with ⟨m,hm,e⟩ | ⟨u,hu,e⟩
      ·have:=(List.nodup_append.1 h.2.1).2.2;exact this m hm n (by simp) e
      have:=(List.nodup_append.1 h.2.2).2.2;exact this u hu x (by simp) e
     rw[if_neg h3];simp only[Bool.or_eq_true,ba_eq,beq_iff_eq,List.any_eq_true,not_or,not_exists,not_and] at h3;have hN2:(N++[n]).Nodup:=by
      rw[List.nodup_append];refine⟨hN,by simp,fun a ha b hb e=>?_⟩;simp only[List.mem_singleton] at hb;subst hb;exact h3.1 a ha e
     have hU2:(U++[x]).Nodup:=by
      rw[List.nodup_append];refine⟨hU,by simp,fun a ha b hb e=>?_⟩;simp only[List.mem_singleton] at hb;subst hb;exact h3.2 a ha e
     rw[ho_0 hN2 hU2];have e1:N++[n]++Hs.map (·.1)=N++n :: Hs.map (·.1):=by simp
     have e2:U++[x]++Hs.map (·.2)=U++x :: Hs.map (·.2):=by simp
     rw[e1,e2];refine and_congr ⟨fun h z hz=>?_,fun h z hz=>h z (by simp[hz])⟩ Iff.rfl
     rcases List.mem_cons.1 hz with rfl | hz
     ·exact⟨h1,h2⟩
     exact h z hz
    rw[if_neg h2];refine⟨fun h=>absurd h (by decide),fun h=>?_⟩;exact absurd (h.1 (n,x) (by simp)).2 h2
   rw[if_neg h1];refine⟨fun h=>absurd h (by decide),fun h=>?_⟩;exact absurd (h.1 (n,x) (by simp)).1 h1
theorem tp_0 {S:Int}{Ls:LkQ}{Hs:HoQ}(h:tpN S Ls Hs=0):
 (1≤S∧S≤6)∧(Ls.length≤200∧Hs.length≤8)∧(∀x∈spsL Ls,spB S x=true)∧(spsL Ls).Nodup∧(∀h∈Hs,nmB h.1=true∧spB S h.2=true)∧(Hs.map (·.1)).Nodup∧(spsL Ls++Hs.map (·.2)).Nodup:=by
 unfold tpN at h;by_cases h1:(decide (1≤S)&&decide (S≤6))=true
 ·rw[if_pos h1] at h;by_cases h2:(decide (Ls.length≤200)&&decide (Hs.length≤8))=true
  ·rw[if_pos h2] at h;by_cases h3:lkN S Ls []=0
   ·rw[if_pos h3] at h;have h4:=(lk_0 (S:=S) (Ls:=Ls) (U:=[]) List.nodup_nil).1 h3;simp only[List.nil_append] at h4;have h5:=(ho_0 (S:=S) (Hs:=Hs) (N:=[]) (U:=spsL Ls) List.nodup_nil h4.2).1 h;simp only[List.nil_append] at h5;simp only[Bool.and_eq_true,decide_eq_true_eq] at h1 h2;exact⟨h1,h2,h4.1,h4.2,h5.1,h5.2.1,h5.2.2⟩
   rw[if_neg h3] at h;exact absurd h h3
  rw[if_neg h2] at h;exact absurd h (by decide)
 rw[if_neg h1] at h;exact absurd h (by decide)
structure But (X:List Nat)(w w':World):Prop where
 os:w'.os=w.os
 tape:w'.tape=w.tape
 output:w'.output=w.output
 size:w.heap.size≤w'.heap.size
 block:∀k,k<w.heap.size→k ∉ X→w'.heap[k]?=w.heap[k]?
theorem But.refl (X:List Nat)(w:World):But X w w:=⟨rfl,rfl,rfl,nLQ _,fun _ _ _=>rfl⟩
theorem But.trans {X:List Nat}{a b c:World}(h:But X a b)(k:But X b c):But X a c:=
 ⟨k.os.trans h.os,k.tape.trans h.tape,k.output.trans h.output,Nat.le_trans h.size k.size,fun i hi hx=>(k.block i (Nat.lt_of_lt_of_le hi h.size) hx).trans (h.block i hi hx)⟩
theorem But.drew {X:List Nat}{a w:World}(h:But X a w):But X a w.drew:=⟨h.os,h.tape,h.output,h.size,h.block⟩
theorem wrap_small {x:Int}(h1 : -1000000≤x)(h2:x≤1000000):IntKind.i64.wrap x=x:=by
 rw[IntKind.wrap_i64];omega
theorem But.of_below {X:List Nat}{w w':World}(h:Below w.heap.size w w'):But X w w':=⟨h.os,h.tape,h.output,h.size,fun k hk _=>h.block k hk⟩
theorem But.of_grown {X:List Nat}{w w':World}{B:Nat}(h:w.grownBy w' (some B))(hB:B∈X):But X w w':=
 ⟨h.os,h.tape,h.output,h.size,fun k hk hx=>h.block k hk (fun e=>hx (by cases e;exact hB))⟩
theorem But.mono {X Y:List Nat}{w w':World}(h:But X w w')(hX:∀x∈X,x∈Y):But Y w w':=⟨h.os,h.tape,h.output,h.size,fun k hk hx=>h.block k hk (fun e=>hx (hX k e))⟩
theorem But.below {X:List Nat}{w w':World}{B:Nat}(h:But X w w')(hB:B≤w.heap.size)(hX:∀x∈X,B≤x):Below B w w':=
 ⟨h.os,h.tape,h.output,h.size,fun k hk=>h.block k (by omega) (fun e=>by have:=hX k e;omega)⟩
theorem But.cell {X:List Nat}{w w':World}(h:But X w w'){p:Addr}(hl:p.block<w.heap.size)(hX:p.block ∉ X):w'.cell? p=w.cell? p:=World.cell?_of_block (w:=w) (h.block p.block hl hX)
section
variable {P:Program}{K:TypeId}{κ β:Type}{E:KeyE P K κ}{ve:β→Value}
theorem MAt.but {X:List Nat}{w w':World}{B:Nat}{M:List (κ×β)}(h:MAt E ve w B M)(hb:But X w w')(hX:B ∉ X):MAt E ve w' B M:=by
 have hlt:=h.lt;obtain⟨es,clock,h1,h2⟩:=h;exact⟨es,clock,(hb.block B hlt hX).trans h1,h2⟩
end
section
variable {κ:Type}
def ctM (q:κ→κ→Bool)(x:κ)(U:List κ):Nat:=(U.filter fun y=>q x y).length
theorem ct_app {q:κ→κ→Bool}(x:κ)(U V:List κ):ctM q x (U++V)=ctM q x U+ctM q x V:=by simp[ctM]
theorem ct_le {q:κ→κ→Bool}(x:κ)(U:List κ):ctM q x U≤U.length:=List.length_filter_le _ _
theorem ct_pos {q:κ→κ→Bool}(hq:∀a b,q a b=true↔a=b)(x:κ)(U:List κ):0<ctM q x U↔x∈U:=by
 unfold ctM;rw[List.length_pos_iff_exists_mem];simp only[List.mem_filter,hq];exact⟨fun ⟨y,h1,h2⟩=>h2 ▸ h1,fun h=>⟨x,h,rfl⟩⟩
def TK (q:κ→κ→Bool)(M:List (κ×Int))(U:List κ):Prop:=∀s,(mget q s M).getD 0=(ctM q s U:Int)
theorem tk_nil (q:κ→κ→Bool):TK q [] []:=fun s=>rfl
theorem tk_put {q:κ→κ→Bool}(hq:∀a b,q a b=true↔a=b){M:List (κ×Int)}{U:List κ}(h:TK q M U)(x:κ):TK q (mput q x ((ctM q x U:Int)+1) M) (U++[x]):=by
 intro s;rw[mget_put hq,ct_app];by_cases e:q s x=true
 ·rw[if_pos e];have e2:=(hq _ _).1 e;subst e2;have:ctM q s [s]=1:=by simp[ctM,e]
  rw[this];simp
 rw[if_neg e,h s];have:ctM q s [x]=0:=by simp[ctM,e]
 rw[this];simp
theorem ct_one {q:κ→κ→Bool}(hq:∀a b,q a b=true↔a=b)(x y:κ):ctM q x [y]=if q x y then 1 else 0:=by
 cases h:q x y <;> simp[ctM,h]
end
def sq (a b:Int×Int):Bool:=a.1==b.1&&a.2==b.2
theorem sq_iff (a b:Int×Int):sq a b=true↔a=b:=by
 obtain⟨x,y⟩:=a;obtain⟨z,v⟩:=b;simp[sq]
def lk1 (S:Int)(U:List (Int×Int))(l:(Int×Int)×(Int×Int)):Int:=if spB S l.1&&spB S l.2 then (if l.1==l.2 || (U.any fun u=>u==l.1 || u==l.2) then 7 else 0) else 1
theorem lk_step (S:Int)(l:(Int×Int)×(Int×Int))(Ls:LkQ)(U:List (Int×Int)):lkN S (l :: Ls) U=if lk1 S U l=0 then lkN S Ls (U++[l.1,l.2]) else lk1 S U l:=by
 rw[lkN,lk1];by_cases h1:(spB S l.1&&spB S l.2)=true
 ·rw[if_pos h1,if_pos h1];by_cases h2:(l.1==l.2 || (U.any fun u=>u==l.1 || u==l.2))=true
  ·rw[if_pos h2,if_pos h2];rfl
  rw[if_neg h2,if_neg h2];rfl
 rw[if_neg h1,if_neg h1];rfl
def ho1 (S:Int)(N:List ByteArray)(U:List (Int×Int))(h:ByteArray×(Int×Int)):Int:=if nmB h.1 then (if spB S h.2 then (if (N.any fun n=>n==h.1) || (U.any fun u=>u==h.2) then 7 else 0) else 1) else 2
theorem ho_step (S:Int)(h:ByteArray×(Int×Int))(Hs:HoQ)(N:List ByteArray)(U:List (Int×Int)):hoN S (h :: Hs) N U=if ho1 S N U h=0 then hoN S Hs (N++[h.1]) (U++[h.2]) else ho1 S N U h:=by
 rw[hoN,ho1];by_cases h1:nmB h.1=true
 ·rw[if_pos h1,if_pos h1];by_cases h2:spB S h.2=true
  ·rw[if_pos h2,if_pos h2];by_cases h3:((N.any fun n=>n==h.1) || (U.any fun u=>u==h.2))=true
   ·rw[if_pos h3,if_pos h3];rfl
   rw[if_neg h3,if_neg h3];rfl
  rw[if_neg h2,if_neg h2];rfl
 rw[if_neg h1,if_neg h1];rfl
theorem ct_link (U:List (Int×Int))(x y:Int×Int):(decide ((1:Int)<(ctM sq x (U++[x]++[y]):Int)) || decide ((1:Int)<(ctM sq y (U++[x]++[y]):Int)))=(x==y || (U.any fun u=>u==x || u==y)):=by
 rw[Bool.eq_iff_iff];simp only[ct_app,ct_one sq_iff,Bool.or_eq_true,decide_eq_true_eq,beq_iff_eq,List.any_eq_true];have hx:=ct_pos sq_iff x U;have hy:=ct_pos sq_iff y U;have sx:sq x x=true:=(sq_iff _ _).2 rfl;have sy:sq y y=true:=(sq_iff _ _).2 rfl;rw[sx,sy];simp only[if_true];by_cases e:x=y
 ·subst e;simp[sx];omega
 have n1:sq x y=false:=by
  cases h:sq x y
  ·rfl
  exact absurd ((sq_iff _ _).1 h) e
 have n2:sq y x=false:=by
  cases h:sq y x
  ·rfl
  exact absurd ((sq_iff _ _).1 h).symm e
 rw[n1,n2];simp only[Bool.false_eq_true,if_false,e,false_or];constructor
 ·rintro (h | h)
  ·exact⟨x,hx.1 (by omega),.inl rfl⟩
  exact⟨y,hy.1 (by omega),.inr rfl⟩
 rintro⟨u,hu,rfl | rfl⟩
 ·have:=hx.2 hu;left;omega
 have:=hy.2 hu;right;omega
theorem ba_iff (a b:ByteArray):(a==b)=true↔a=b:=ba_eq
theorem ct_host {κ:Type}{q:κ→κ→Bool}(hq:∀a b,q a b=true↔a=b)(U:List κ)(x:κ):decide ((1:Int)<(ctM q x (U++[x]):Int))=(U.any fun u=>q u x):=by
 rw[Bool.eq_iff_iff];simp only[ct_app,ct_one hq,decide_eq_true_eq,List.any_eq_true];have hx:=ct_pos hq x U;have sx:q x x=true:=(hq _ _).2 rfl;rw[sx];simp only[if_true];constructor
 ·intro h;exact⟨x,hx.1 (by omega),sx⟩
 rintro⟨u,hu,e⟩;have e2:=(hq _ _).1 e;subst e2;have:=hx.2 hu;omega
theorem sps_take {Ls:LkQ}{k:Nat}(hk:k<Ls.length):spsL (Ls.take (k+1))=spsL (Ls.take k)++[Ls[k].1,Ls[k].2]:=by
 rw[List.take_succ_eq_append_getElem hk];unfold spsL;rw[List.flatMap_append];rfl
theorem sps_len (Ls:LkQ):(spsL Ls).length=2*Ls.length:=by
 induction Ls with
 | nil=>rfl
 | cons l Ls ih =>
   have e:spsL (l :: Ls)=l.1 :: l.2 :: spsL Ls:=rfl;rw[e];simp[ih];omega
def qI (a b:Int):Bool:=a==b
theorem qI_iff (a b:Int):qI a b=true↔a=b:=by simp[qI]
section
variable {κ β:Type}{q:κ→κ→Bool}
end
section
variable {S:Nat}{J:Nat→Nat→Bool}{a:Nat}
end
end
section
open Go.ChangeShapes Go.WideShapes Go.ChangeAt Go.RowKit
structure Enc (α:Type) where
 c:α→List Value
 n:Nat
 len:∀x,(c x).length=n
 pos:0<n
 one:∀x u,u∈c x→u.oneCell'=true
def VAt (w:World)(g o:Nat)(vs:List Value):Prop:=∀j u,vs[j]?=some u→w.cell? ⟨g,o+j,none⟩=some u
theorem VAt.later {w w':World}{g o:Nat}{vs:List Value}(h:VAt w g o vs)(hb:Below w.heap.size w w'):VAt w' g o vs:=fun j u hu=>cell_later hb (h j u hu)
theorem vat_new (w:World)(vs:List Value)(t:TypeId):VAt (w.alloc (.cells vs.toArray t)) w.heap.size 0 vs:=by
 intro j u hu;rw[Nat.zero_add];have hj:j<vs.length:=(List.getElem?_eq_some_iff.1 hu).1;simp only[World.cell?,World.alloc];simp[hu]
section
variable {α:Type}{E:Enc α}
def GAt (E:Enc α)(w:World)(g o:Nat)(L:List α):Prop:=∀i (h:i<L.length),VAt w g (o+i*E.n) (E.c L[i])
theorem GAt.later {w w':World}{g o:Nat}{L:List α}(h:GAt E w g o L)(hb:Below w.heap.size w w'):GAt E w' g o L:=fun i hi=>(h i hi).later hb
theorem GAt.take {w:World}{g o:Nat}{L:List α}(h:GAt E w g o L)(k:Nat):GAt E w g o (L.take k):=by
 intro i hi;rw[List.getElem_take];exact h i (by simp at hi;omega)
theorem GAt.drop {w:World}{g o:Nat}{L:List α}(h:GAt E w g o L)(k:Nat):GAt E w g (o+k*E.n) (L.drop k):=by
 intro i hi;have hi2:k+i<L.length:=by simp at hi;omega
 have:=h (k+i) hi2;rw[List.getElem_drop];have e:o+(k+i)*E.n=o+k*E.n+i*E.n:=by rw[Nat.add_mul];omega
 rw[←e];exact this
def GS (E:Enc α)(w:World)(v:Value)(L:List α):Prop:=
 (∃ao cap,v=.slice ao 0 cap∧L=[])∨∃g o cap,v=.slice (some ⟨g,o,none⟩) L.length cap∧L.length≤cap∧cap≤maxLen∧GAt E w g o L
theorem GS.later {w w':World}{v:Value}{L:List α}(h:GS E w v L)(hb:Below w.heap.size w w'):GS E w' v L:=by
 rcases h with h | ⟨g,o,cap,h1,h2,h3,h4⟩
 ·exact .inl h
 exact .inr ⟨g,o,cap,h1,h2,h3,h4.later hb⟩
theorem GS.form {w:World}{v:Value}{L:List α}(h:GS E w v L):∃ao n cap,v=.slice ao n cap∧L.length=n∧n≤maxLen∧n≤cap∧(0<n→∃g o,ao=some ⟨g,o,none⟩∧GAt E w g o L∧cap≤maxLen):=by
 rcases h with ⟨ao,cap,rfl,rfl⟩ | ⟨g,o,cap,rfl,h1,h2,h3⟩
 ·exact⟨ao,0,cap,rfl,rfl,Nat.zero_le _,Nat.zero_le _,fun h=>absurd h (by omega)⟩
 exact⟨_,_,cap,rfl,rfl,Nat.le_trans h1 h2,h1,fun _=>⟨g,o,rfl,h3,h2⟩⟩
theorem GS.len {w:World}{ao:AdQ}{n cap:Nat}{L:List α}(h:GS E w (.slice ao n cap) L):L.length=n:=by
 rcases h with ⟨_,_,e,rfl⟩ | ⟨_,_,_,e,_⟩
 ·simp at e;simp[e]
 simp at e;exact e.2.1.symm
theorem GS.nil (w:World):GS E w (.slice none 0 0) []:=.inl ⟨none,0,rfl,rfl⟩
theorem gs_one (w:World)(x:α)(t:TypeId){vs:List Value}(hv:vs=E.c x):GS E (w.alloc (.cells vs.toArray t)) (.slice (some ⟨w.heap.size,0,none⟩) 1 1) [x]:=by
 subst hv;refine .inr ⟨w.heap.size,0,1,rfl,nLQ _,by unfold maxLen;omega,fun i hi=>?_⟩;obtain rfl:i=0:=by simp at hi;omega
 have h:=vat_new w (E.c x) t;simpa using h
def cellsG (E:Enc α)(L:List α):List Value:=L.flatMap E.c
theorem cellsG_len (L:List α):(cellsG E L).length=L.length*E.n:=by
 induction L with
 | nil=>simp[cellsG]
 | cons x r ih =>
   simp only[cellsG,List.flatMap_cons,List.length_append,List.length_cons,E.len] at *;rw[ih,Nat.add_mul];omega
theorem cellsG_app (L M:List α):cellsG E (L++M)=cellsG E L++cellsG E M:=by simp[cellsG]
theorem cellsG_one (x:α):cellsG E [x]=E.c x:=by simp[cellsG]
theorem cellsG_at (L:List α):∀(i:Nat) (h:i<L.length) (j:Nat),j<E.n→(cellsG E L)[i*E.n+j]?=(E.c L[i])[j]?:=by
 induction L with
 | nil=>intro i h;simp at h
 | cons x r ih =>
   intro i h j hj;cases i with
   | zero =>
     simp only[cellsG,List.flatMap_cons,Nat.zero_mul,Nat.zero_add,List.getElem_cons_zero];rw[List.getElem?_append_left (by rw[E.len];exact hj)]
   | succ i =>
     have:=ih i (by simpa using h) j hj;simp only[cellsG,List.flatMap_cons,List.getElem_cons_succ] at this ⊢;rw[List.getElem?_append_right (by rw[E.len,Nat.add_mul];omega),E.len];have e:(i+1)*E.n+j-E.n=i*E.n+j:=by rw[Nat.add_mul];omega
     rw[e];exact this
theorem cellsG_all (L:List α):∀u∈cellsG E L,u.oneCell'=true:=by
 intro u hu;simp only[cellsG,List.mem_flatMap] at hu;obtain⟨x,_,hx⟩:=hu;exact E.one x u hx
theorem own_GS {w:World}{B e:Nat}{v:Value}{L:List α}(h:w.ownsRow B e E.n v L.length (cellsG E L)):GS E w v L:=by
 rcases h.2 with ⟨rfl,h0⟩ | ⟨g,cap,cur,rfl,_,_,h1,h2,_⟩
 ·exact .inl ⟨none,0,rfl,List.length_eq_zero_iff.1 h0⟩
 refine .inr ⟨g,0,cap,rfl,h1,h2,fun i hi j u hu=>?_⟩;have hj:j<E.n:=by
  have:=(List.getElem?_eq_some_iff.1 hu).1;rw[E.len] at this;exact this
 have hlt:i*E.n+j<L.length*E.n:=by
  have:(i+1)*E.n≤L.length*E.n:=Nat.mul_le_mul_right _ hi;rw[Nat.add_mul] at this;omega
 rw[Nat.zero_add,h.cellAt _ hlt,cellsG_at L i hi j hj];exact hu
theorem GAt.cells {w:World}{g o:Nat}{M:List α}(h:GAt E w g o M):∀j u,(cellsG E M)[j]?=some u→w.cell? ((⟨g,o,none⟩:Addr).add j)=some u:=by
 intro j u hu;have hj:j<M.length*E.n:=by
  have:=(List.getElem?_eq_some_iff.1 hu).1;rw[cellsG_len] at this;exact this
 have hadd:(⟨g,o,none⟩:Addr).add j=⟨g,o+j,none⟩:=by
  simp only[Addr.add]
  first
   | rfl
   | (split
      ·next h0=>rw[h0];rfl
      rfl)
 have hi:j / E.n<M.length:=Nat.div_lt_of_lt_mul (by rw[Nat.mul_comm];exact hj);have hm:j % E.n<E.n:=Nat.mod_lt _ E.pos;have e:j / E.n*E.n+j % E.n=j:=by rw[Nat.mul_comm];exact Nat.div_add_mod _ _
 have h1:=cellsG_at (E:=E) M (j / E.n) hi (j % E.n) hm;rw[e,hu] at h1;have h2:=h (j / E.n) hi (j % E.n) u h1.symm;rw[Nat.add_assoc,e] at h2;rw[hadd];exact h2
end
section
variable {α:Type}
theorem any_nextG {L:List α}{f:α→Bool}{k:Nat}(hk:k<L.length)(h:(L.take k).any f=false)(h2:f L[k]=false):(L.take (k+1)).any f=false:=by
 rw[List.take_succ_eq_append_getElem hk];simp only[List.any_append,h,List.any_cons,List.any_nil,h2,Bool.or_false]
theorem any_hitG {L:List α}{f:α→Bool}{k:Nat}(hk:k<L.length)(h2:f L[k]=true):L.any f=true:=List.any_eq_true.2 ⟨_,List.getElem_mem hk,h2⟩
def ixG (f:α→Bool)(L:List α):Int:=if L.any f then (L.findIdx f:Int) else -1
theorem ixG_hit {L:List α}{f:α→Bool}{k:Nat}(hk:k<L.length)(h:(L.take k).any f=false)(h2:f L[k]=true):ixG f L=k:=by
 rw[ixG,any_hitG hk h2,if_pos rfl]
 congr 1
 rw[List.findIdx_eq hk];refine⟨h2,fun j hj=>?_⟩;rw[List.any_eq_false] at h;have:=h L[j] (by rw[List.mem_take_iff_getElem];exact⟨j,by omega,rfl⟩);simpa using this
theorem ixG_no {L:List α}{f:α→Bool}(h:L.any f=false):ixG f L = -1:=by simp[ixG,h]
theorem ixG_any (L:List α)(f:α→Bool):decide (0≤ixG f L)=L.any f:=by
 unfold ixG;cases L.any f
 ·simp
 simp
end
section
variable {α:Type}
end
section
variable {P:Program}{α:Type}{E:Enc α}
theorem run_append_none {w:World}(base:Nat)(t ty e:TypeId)(i:TypeInfo)(size cap2:Nat)(ht:P.underlying t=some (.slice e))(hi:P.info? e=some i)
 (v:Value) (n:Nat) (xs:List Value) (hown:w.ownsRow base e size v n xs):
 (Builtin.append_ #[t,t] ty #[v,.slice none 0 cap2]).run P w=.ok v w:=by
 rcases hown.2 with ⟨rfl,rfl⟩ | ⟨g,cap,cur,rfl,_,_,hnc,_⟩
 ·simp[Builtin.append_,run_underlying ht,sizeOf,typeInfo,hi,Builtin.lenOf,Builtin.firstCells]
 simp[Builtin.append_,run_underlying ht,sizeOf,typeInfo,hi,Builtin.lenOf,Builtin.firstCells,hnc,storeCells]
theorem wpList_append_GS (w:World){ops:Array Oper}{rest:List Oper}{o:Oper}{a:Act}{Q:Exit→Act→World→Prop}(hgd:o.guard=none)(s x:Operand)(t e:TypeId)
 (ho:o.op=.call { callee:=.builtin .append,args:=#[s,x],argTypes:=#[t,t] }) (ht:P.underlying t=some (.slice e)) (i:TypeInfo) (z:Value) (bytes:Nat) (hi:P.info? e=some i) (hz:i.zero=some z)
 (hsize:i.size=E.n) (hby:i.bytes=bytes) (hzs:z.cells.size=E.n) (base:Nat)
 (v:Value) (hs:a.eval s=v) (L:List α) (hown:w.ownsRow base e E.n v L.length (cellsG E L)) (u:Value) (hx:a.eval x=u) (M:List α) (hM:GS E w u M)
 (h63:L.length+M.length≤maxLen) (hbytes:(L.length+M.length)*bytes≤140737488355328) (hbase:base≤w.heap.size)
 (h:∀v' w',w'.ownsRow base e E.n v' (L++M).length (cellsG E (L++M))→w.grownBy w' v.ownBlock→wpList P ops Q rest (a.put o.dst v') w'):wpList P ops Q (o :: rest) a w:=by
 have key:∀(ad:Addr) (m c:Nat) (news:List Value),a.eval x=.slice (some ad) m c→news.length=m*E.n→(∀j u,news[j]?=some u→w.cell? (ad.add j)=some u)→(∀u∈news,u.oneCell'=true)→m=M.length→news=cellsG E M→wpList P ops Q (o :: rest) a w:=by
  intro ad m c news e1 e2 e3 e4 e5 e6;refine wpList_append_own w hgd s x t ho base e i z E.n bytes ht hi hz hsize hby hzs E.pos v _ _ hs hown ad m c news e1 e2 e3 e4 (by rw[e5];exact h63) (by rw[e5];exact hbytes) hbase ?_;intro v' w' h1 h2 _;refine h v' w' ?_ h2;rw[List.length_append,cellsG_app,←e5,←e6];exact h1
 rcases hM with ⟨ao,cap,rfl,rfl⟩ | ⟨g,q,cap,rfl,h1,h2,h3⟩
 ·cases ao with
  | none =>
    refine wpList_plain hgd fun K hK=>?_
    have hrun:=run_append_none (P:=P) (w:=w) base t o.type e i E.n cap ht hi v _ _ hown;unfold Oper.wp;simp[execOp,ho,resolve,invoke,builtin,hs,hx,hrun,Result.andThen];exact hK _ _ (h v w (by rw[List.append_nil];exact hown) ⟨rfl,rfl,rfl,nLQ _,fun _ _ _=>rfl⟩)
  | some ad=>exact key ad 0 cap [] hx (by simp) (by intro j u hu;simp at hu) (by intro u hu;cases hu) rfl rfl
 exact key ⟨g,q,none⟩ M.length cap (cellsG E M) hx (cellsG_len M) h3.cells (cellsG_all M) rfl rfl
theorem gs_of {H:Type}{enc:TypeId×Value→H}{W:World}{base:Nat}{v:Value}{d:DataW H}{p:List MemPlace}(ts te:TypeId)(hu:P.underlying ts=some (.slice te))(hC:P.cellsOf te=E.n)(x0:α)
 (hel:∀(n:Nat) (cs:List Value) (x:DataW H×List MemPlace),DataW.trod enc P W 0 (fun _=>true) true n te cs=some x→∃y,cs=E.c y)
 (hv:Value.okWide P W .any base ts v) (h:DataW.Trod enc P W 0 (fun _=>true) true ts v d p):∃L,GS E W v L:=by
 obtain⟨a0,len0,cap0,rfl⟩:=okWide_slice hu hv;obtain⟨fuel,hf⟩:=h;have hf2:DataW.trod enc P W 0 (fun _=>true) true fuel ts [.slice a0 len0 cap0]=some (d,p):=hf
 rcases Go.Deep.open_slice hu hf2 with ⟨hc,hx⟩ | ⟨a,len,cap,m,k,D,Pl,hc,_,hl,hm,hmm,hx,hall⟩
 ·simp only[List.cons.injEq,and_true,Value.slice.injEq] at hc;obtain⟨rfl,rfl,rfl⟩:=hc;exact⟨[],.inl ⟨none,0,rfl,rfl⟩⟩
 simp only[List.cons.injEq,and_true,Value.slice.injEq] at hc;obtain⟨rfl,rfl,rfl⟩:=hc;simp only[if_true] at hmm;subst hmm
 rcases Nat.eq_zero_or_pos len0 with h0 | h0
 ·subst h0;exact⟨[],.inl ⟨_,_,rfl,rfl⟩⟩
 have each:∀i,i<m→∃y:α,∀j,j<E.n→W.cell? (a.add (i*E.n+j))=(E.c y)[j]?:=by
  intro i hi;obtain⟨cs,h1,h2⟩:=hall i hi;rw[hC] at h1;obtain⟨_,hlen,hcell⟩:=World.cells?_some h1;obtain⟨y,rfl⟩:=hel _ _ _ h2;refine⟨y,fun j hj=>?_⟩;have:=hcell j (by omega);rw[Go.Deep.add_add] at this;exact this
 have iR:Inhabited α:=⟨x0⟩;obtain⟨R,hR⟩:=Go.Deep.choose_lt each;obtain⟨sb,so,spot⟩:=a;have hspot:spot=none:=by
  have h1:=hR 0 (by omega) 0 E.pos;have h2:(E.c (R 0))[0]?.isSome=true:=by
   rw[List.getElem?_eq_getElem (by rw[E.len];exact E.pos)];rfl
  obtain⟨u,hu2⟩:=Option.isSome_iff_exists.1 h2;rw[hu2] at h1;simpa[Addr.add] using World.cell?_spot h1
 subst hspot;have hadd:∀j,(⟨sb,so,none⟩:Addr).add j=⟨sb,so+j,none⟩:=by
  intro j;simp only[Addr.add]
  first
   | rfl
   | (split
      ·next h0=>rw[h0];rfl
      rfl)
 refine⟨(List.range len0).map R,.inr ⟨sb,so,_,by simp,by simpa using hl,hm,fun i hi j u hu2=>?_⟩⟩;have hi2:i<len0:=by simpa using hi
 have e:((List.range len0).map R)[i]=R i:=by simp
 rw[e] at hu2;have hj:j<E.n:=by
  have:=(List.getElem?_eq_some_iff.1 hu2).1;rw[E.len] at this;exact this
 have hc:=hR i (by omega) j hj;rw[hadd,hu2,←Nat.add_assoc] at hc;exact hc
end
end
section
open Go.RowKit
def swB (S a:Int):Bool:=decide (1≤a)&&decide (a≤S)
theorem sw_of {S a:Int}:swB S a=true↔1≤a∧a≤S:=by simp[swB]
def tsTo (Ts:TsQ):Nat→Int
 | 0=>0
 | k+1=>if tsTo Ts k=0 then tbN (Ts.getD k []) else tsTo Ts k
theorem ts_le {Ts:TsQ}{k:Nat}(h:tsTo Ts k≠0):∀{n:Nat},k≤n→tsTo Ts n=tsTo Ts k
 | 0,hn=>by
   obtain rfl:k=0:=by omega
   rfl
 | n+1,hn=>by
   by_cases e:k=n+1
   ·subst e;rfl
   have:=ts_le h (show k≤n by omega);rw[tsTo,if_neg (by rw[this];exact h),this]
def ntN (S:Int)(Ls:LkQ)(Hs:HoQ)(Ts:TsQ):Int:=
 if tpN S Ls Hs=0 then (if (Ts.length:Int)=S then tsTo Ts Ts.length else 3) else tpN S Ls Hs
theorem ts_0 {Ts:TsQ}:∀{n:Nat},tsTo Ts n=0→∀k,k<n→tbN (Ts.getD k [])=0
 | 0,_,k,hk=>by omega
 | n+1,h,k,hk=>by
   unfold tsTo at h;by_cases e:tsTo Ts n=0
   ·rw[if_pos e] at h;by_cases ek:k=n
    ·subst ek;exact h
    exact ts_0 e k (by omega)
   rw[if_neg e] at h;exact absurd h e
theorem nt_0 {S:Int}{Ls:LkQ}{Hs:HoQ}{Ts:TsQ}(h:ntN S Ls Hs Ts=0):tpN S Ls Hs=0∧(Ts.length:Int)=S∧∀k,k<Ts.length→tbN (Ts.getD k [])=0:=by
 unfold ntN at h;by_cases e:tpN S Ls Hs=0
 ·rw[if_pos e] at h;by_cases e2:(Ts.length:Int)=S
  ·rw[if_pos e2] at h;exact⟨e,e2,ts_0 h⟩
  rw[if_neg e2] at h;omega
 rw[if_neg e] at h;exact absurd h e
def taT (Ts:TsQ)(s:Int):List Ru:=Ts.getD (s-1).toNat []
def caN (S:Int):TsQ→List Op8→Int
 | _,[]=>0
 | Ts,o :: l=>if swB S o.w=true then (if doN (taT Ts o.w) o.a o.r=0 then caN S (Ts.set (o.w-1).toNat (doL (taT Ts o.w) o.a o.r)) l else doN (taT Ts o.w) o.a o.r) else 1
def caT:TsQ→List Op8→TsQ
 | Ts,[]=>Ts
 | Ts,o :: l=>caT (Ts.set (o.w-1).toNat (doL (taT Ts o.w) o.a o.r)) l
def tsOk (Ts:TsQ):Prop:=∀L∈Ts,tbN L=0
theorem ca_len (Ts:TsQ)(l:List Op8):(caT Ts l).length=Ts.length:=by
 induction l generalizing Ts with
 | nil=>rfl
 | cons o l ih=>rw[caT,ih,List.length_set]
theorem ca_app (S:Int)(Ts:TsQ)(a b:List Op8):caN S Ts (a++b)=if caN S Ts a=0 then caN S (caT Ts a) b else caN S Ts a:=by
 induction a generalizing Ts with
 | nil=>simp[caN,caT]
 | cons o l ih =>
   rw[List.cons_append,caN,caN,caT];by_cases h1:swB S o.w=true
   ·rw[if_pos h1,if_pos h1];by_cases h2:doN (taT Ts o.w) o.a o.r=0
    ·rw[if_pos h2,if_pos h2,ih]
    rw[if_neg h2,if_neg h2,if_neg h2]
   rw[if_neg h1,if_neg h1];rfl
theorem cj_app (Ts:TsQ)(a b:List Op8):caT Ts (a++b)=caT (caT Ts a) b:=by
 induction a generalizing Ts with
 | nil=>rfl
 | cons o l ih=>rw[List.cons_append,caT,caT,ih]
theorem ca_cons {S:Int}{Ts:TsQ}{o:Op8}{l:List Op8}(h:caN S Ts (o :: l)=0):
 swB S o.w=true∧doN (taT Ts o.w) o.a o.r=0∧caN S (Ts.set (o.w-1).toNat (doL (taT Ts o.w) o.a o.r)) l=0:=by
 rw[caN] at h;by_cases h1:swB S o.w=true
 ·rw[if_pos h1] at h;by_cases h2:doN (taT Ts o.w) o.a o.r=0
  ·rw[if_pos h2] at h;exact⟨h1,h2,h⟩
  rw[if_neg h2] at h;exact absurd h h2
 rw[if_neg h1] at h;omega
theorem take_yes {L:List Ru}{r:Ru}(h:doN L false r=0):tbN L=0∧∃A B,L=A++r :: B∧doL L false r=A++B:=by
 have h0:=h;unfold doN at h;by_cases h1:tbN L=0
 ·rw[if_pos h1] at h;by_cases h2:r.n=0
  ·rw[if_pos h2,chN] at h;simp only[Bool.false_eq_true,if_false] at h;cases h3:inB L r
   ·rw[h3] at h;simp at h
   obtain⟨A,B,rfl⟩:=List.append_of_mem (in_iff.1 h3);exact⟨h1,A,B,rfl,(do_take h1).2⟩
  rw[if_neg h2] at h;exact absurd h h2
 rw[if_neg h1] at h;exact absurd h h1
theorem do_right {L:List Ru}{a:Bool}{r:Ru}(h:doN L a r=0):tbN (doL L a r)=0:=by
 cases a with
 | true =>
   obtain⟨h1,h2,h3,h4⟩:=add_yes h;rw[(do_add h1 h2 h3 h4).2];exact tb_one h1 h2 h3 h4
 | false =>
   obtain⟨h1,A,B,rfl,e⟩:=take_yes h;rw[e];exact tb_sub h1 (List.Sublist.append (List.Sublist.refl _) (List.sublist_cons_self r B))
theorem ok_set {Ts:TsQ}{k:Nat}{L:List Ru}(h:tsOk Ts)(hL:tbN L=0):tsOk (Ts.set k L):=by
 intro x hx
 rcases List.mem_or_eq_of_mem_set hx with h1 | rfl
 ·exact h x h1
 exact hL
theorem ca_right {S:Int}:∀{l:List Op8} {Ts:TsQ},tsOk Ts→caN S Ts l=0→tsOk (caT Ts l)
 | [],_,h,_=>h
 | o :: l,Ts,h,e=>by
   obtain⟨h1,h2,h3⟩:=ca_cons e;rw[caT];exact ca_right (ok_set h (do_right h2)) h3
def cgN (S:Int)(Ls:LkQ)(Hs:HoQ)(Ts:TsQ)(l:List Op8):Int:=
 if ntN S Ls Hs Ts=0 then (if 200<l.length then 4 else caN S Ts l) else ntN S Ls Hs Ts
theorem ok_ts {Ts:TsQ}(h:∀k,k<Ts.length→tbN (Ts.getD k [])=0):tsOk Ts:=by
 intro L hL;obtain⟨k,hk,rfl⟩:=List.getElem_of_mem hL;have:=h k hk;rw[List.getD_eq_getElem?_getD,List.getElem?_eq_getElem hk] at this;exact this
structure Kp where
 r:Int
 i:Int
 o:Op8
structure AgT where
 t:List Ru
 l:List Kp
 m:List Int
 d:List Int
def kpB (r i:Int)(k:Kp):Bool:=k.r==r&&k.i==i
def hasK (l:List Kp)(r i:Int):Bool:=l.any (kpB r i)
def opK (l:List Kp)(r i:Int):Op8:=((l.find? (kpB r i)).map Kp.o).getD zeP
def hdN (l:List Kp)(r:Int):Nat:=l.countP (fun k=>k.r==r)
def manyK (a:AgT)(r:Int):Int:=a.m.getD r.toNat (-1)
def doneK (a:AgT)(r:Int):Bool:=a.d.any (fun x=>x==r)
def hrN (n:Int)(m:Mg):Int:=if mgN m=0 then (if m.s=n then (if m.k=3 then 6 else 0) else 5) else mgN m
def hrS (n:Int)(a:AgT)(m:Mg):AgT:=
 if hrN n m=0∧doneK a m.r=false then
  (if m.k=2 then (if manyK a m.r<0 then { a with m:=a.m.set m.r.toNat m.i } else a)
  else (if hasK a.l m.r m.i=true then a else { a with l:=a.l++[⟨m.r,m.i,m.o⟩] }))
 else a
def yesM (n r:Int):Mg:=⟨3,n,r,0,zeP⟩
def hrA (n:Int)(a:AgT)(m:Mg):List Mg:=if hrN n m=0∧m.k=2∧doneK a m.r=true then [yesM n m.r] else []
def allK (l:List Kp)(r:Int)(n:Nat):Bool:=(List.range n).all fun (k:Nat)=>hasK l r (k:Int)
def rdyB (a:AgT)(r:Int):Bool := !doneK a r&&decide (0≤manyK a r)&&allK a.l r (manyK a r).toNat
def rdyTo (a:AgT)(r:Nat):Nat→Int
 | 0 => -1
 | k+1=>if rdyB a (r:Int)=true then (r:Int) else rdyTo a (r+1) k
def rdyN (a:AgT):Int:=rdyTo a 0 20
def opsK (a:AgT)(r:Int):List Op8:=(List.range (manyK a r).toNat).map fun (k:Nat)=>opK a.l r (k:Int)
def wkTab (t:List Ru)(l:List Op8):List Ru:=if alN t l=0 then alL t l else t
def wkS (a:AgT):AgT:=if rdyN a<0 then a else { a with t:=wkTab a.t (opsK a (rdyN a)),d:=a.d++[rdyN a] }
def wkN (a:AgT):Int:=if rdyN a<0 then 6 else 0
def wkA (n:Int)(a:AgT):List Mg:=if rdyN a<0 then [] else [yesM n (rdyN a)]
def ag0 (t:List Ru):AgT:=⟨t,[],List.replicate 20 (-1),[]⟩
theorem hr_zero {n:Int}{m:Mg}:hrN n m=0↔mgN m=0∧m.s=n∧m.k≠3:=by
 unfold hrN;have:=mg_bd m;constructor
 ·intro h;by_cases h1:mgN m=0
  ·rw[if_pos h1] at h;by_cases h2:m.s=n
   ·rw[if_pos h2] at h;by_cases h3:m.k=3
    ·rw[if_pos h3] at h;omega
    exact⟨h1,h2,h3⟩
   rw[if_neg h2] at h;omega
  rw[if_neg h1] at h;exact absurd h h1
 rintro⟨h1,h2,h3⟩;rw[if_pos h1,if_pos h2,if_neg h3]
theorem hasK_iff {l:List Kp}{r i:Int}:hasK l r i=true↔∃k∈l,k.r=r∧k.i=i:=by
 simp[hasK,kpB,List.any_eq_true]
theorem hr_else {n:Int}{a:AgT}{m:Mg}(h:hrN n m≠0):hrS n a m=a∧hrA n a m=[]:=by
 constructor
 ·rw[hrS,if_neg (fun e=>h e.1)]
 rw[hrA,if_neg (fun e=>h e.1)]
theorem many_set {a:AgT}{r i:Int}(h0:0≤r)(h1:r<a.m.length):(a.m.set r.toNat i).getD r.toNat (-1)=i:=by
 rw[List.getD_eq_getElem?_getD,List.getElem?_set_self (by omega)];rfl
theorem hr_again {n:Int}{a:AgT}{m:Mg}(hm:a.m.length=20):hrS n (hrS n a m) m=hrS n a m∧hrA n (hrS n a m) m=hrA n a m:=by
 by_cases h:hrN n m=0∧doneK a m.r=false
 ·have hd:∀b:AgT,b.d=a.d→doneK b m.r=false:=fun b e=>by
   have:=h.2;unfold doneK at this ⊢;rw[e];exact this
  have hd1:(hrS n a m).d=a.d:=by
   rw[hrS,if_pos h]
   split <;> split <;> rfl
  refine⟨?_,?_⟩
  ·have hr:=(mg_rng.1 (by
    have h1:=(hr_zero.1 h.1).1;unfold mgN at h1;by_cases hq:mgR m=true
    ·exact hq
    rw[if_neg hq] at h1;omega)).2.2.1
   rw[hrS,if_pos ⟨h.1,hd _ hd1⟩];by_cases h2:m.k=2
   ·rw[if_pos h2];by_cases h3:manyK a m.r<0
    ·have e:hrS n a m={ a with m:=a.m.set m.r.toNat m.i }:=by rw[hrS,if_pos h,if_pos h2,if_pos h3]
     rw[e];have:manyK { a with m:=a.m.set m.r.toNat m.i } m.r=m.i:=many_set hr.1 (by omega)
     split
     ·simp
     rfl
    have e:hrS n a m=a:=by rw[hrS,if_pos h,if_pos h2,if_neg h3]
    rw[e,if_neg h3]
   rw[if_neg h2];have:hasK (hrS n a m).l m.r m.i=true:=by
    by_cases h3:hasK a.l m.r m.i=true
    ·rw[hrS,if_pos h,if_neg h2,if_pos h3];exact h3
    rw[hrS,if_pos h,if_neg h2,if_neg h3];exact hasK_iff.2 ⟨⟨m.r,m.i,m.o⟩,by simp,rfl,rfl⟩
   rw[if_pos this]
  rw[hrA,hrA,if_neg (by rintro⟨_,_,e⟩;rw[hd _ hd1] at e;cases e),if_neg (by rintro⟨_,_,e⟩;rw[h.2] at e;cases e)]
 have e:hrS n a m=a:=by rw[hrS,if_neg h]
 rw[e,e];exact⟨rfl,rfl⟩
end
section
open Go.ChangeShapes Go.WideShapes Go.ChangeAt Go.RowKit Go.Joins
def lnkE:Enc ((Int×Int)×(Int×Int)) where
 c:=fun x=>[.int i64 x.1.1,.int i64 x.1.2,.int i64 x.2.1,.int i64 x.2.2]
 n:=4
 len:=fun _=>rfl
 pos:=by decide
 one:=by
  intro x u hu;simp at hu
  rcases hu with rfl | rfl | rfl | rfl <;> rfl
theorem lnk_cells {w:World}{g o:Nat}{x0 x1 x2 x3:Int}(h:VAt w g o (lnkE.c ((x0,x1),(x2,x3)))):w.cell? ⟨g,o,none⟩=some (.int i64 x0)∧w.cell? ⟨g,o+1,none⟩=some (.int i64 x1)∧w.cell? ⟨g,o+2,none⟩=some (.int i64 x2)∧w.cell? ⟨g,o+3,none⟩=some (.int i64 x3):=
 ⟨h 0 _ rfl,h 1 _ rfl,h 2 _ rfl,h 3 _ rfl⟩
theorem lnk_at {w:World}{g o:Nat}{L:LkQ}(h:GAt lnkE w g o L){n k:Nat}(hn:L.length=n)(hk:k<n):
 ∃(x0:Int) (x1:Int) (x2:Int) (x3:Int) (hl:k<L.length),L[k]=((x0,x1),(x2,x3))∧w.cell? ⟨g,o+k*4,none⟩=some (.int i64 x0)∧w.cell? ⟨g,o+k*4+1,none⟩=some (.int i64 x1)∧w.cell? ⟨g,o+k*4+2,none⟩=some (.int i64 x2)∧w.cell? ⟨g,o+k*4+3,none⟩=some (.int i64 x3):=
 have hl:k<L.length:=by omega
 ⟨_,_,_,_,hl,rfl,lnk_cells (h k hl)⟩
theorem lnk_new (w:World)(x0 x1 x2 x3:Int)(t:TypeId):VAt (w.alloc (.cells #[.int i64 x0,.int i64 x1,.int i64 x2,.int i64 x3] t)) w.heap.size 0 (lnkE.c ((x0,x1),(x2,x3))):=vat_new w [.int i64 x0,.int i64 x1,.int i64 x2,.int i64 x3] t
theorem lnk_info:(Tryd.prog.info? 117).map (fun i=>(i.zero,i.size,i.bytes))=some (some (.agg #[.int i64 0,.int i64 0,.int i64 0,.int i64 0]),4,32):=by kernel_rfl
theorem lnk_zero:(Value.agg #[.int i64 0,.int i64 0,.int i64 0,.int i64 0]).cells.size=4:=by simp[Value.cells]
def hstE:Enc (ByteArray×(Int×Int)) where
 c:=fun x=>[.string x.1,.int i64 x.2.1,.int i64 x.2.2]
 n:=3
 len:=fun _=>rfl
 pos:=by decide
 one:=by
  intro x u hu;simp at hu
  rcases hu with rfl | rfl | rfl <;> rfl
theorem hst_cells {w:World}{g o:Nat}{x0:ByteArray}{x1 x2:Int}(h:VAt w g o (hstE.c (x0,(x1,x2)))):w.cell? ⟨g,o,none⟩=some (.string x0)∧w.cell? ⟨g,o+1,none⟩=some (.int i64 x1)∧w.cell? ⟨g,o+2,none⟩=some (.int i64 x2):=
 ⟨h 0 _ rfl,h 1 _ rfl,h 2 _ rfl⟩
theorem hst_at {w:World}{g o:Nat}{L:HoQ}(h:GAt hstE w g o L){n k:Nat}(hn:L.length=n)(hk:k<n):
 ∃(x0:ByteArray) (x1:Int) (x2:Int) (hl:k<L.length),L[k]=(x0,(x1,x2))∧w.cell? ⟨g,o+k*3,none⟩=some (.string x0)∧w.cell? ⟨g,o+k*3+1,none⟩=some (.int i64 x1)∧w.cell? ⟨g,o+k*3+2,none⟩=some (.int i64 x2):=
 have hl:k<L.length:=by omega
 ⟨_,_,_,hl,rfl,hst_cells (h k hl)⟩
theorem hst_new (w:World)(x0:ByteArray)(x1 x2:Int)(t:TypeId):VAt (w.alloc (.cells #[.string x0,.int i64 x1,.int i64 x2] t)) w.heap.size 0 (hstE.c (x0,(x1,x2))):=vat_new w [.string x0,.int i64 x1,.int i64 x2] t
theorem hst_info:(Tryd.prog.info? 119).map (fun i=>(i.zero,i.size,i.bytes))=some (some (.agg #[.string ByteArray.empty,.int i64 0,.int i64 0]),3,32):=by kernel_rfl
theorem hst_zero:(Value.agg #[.string ByteArray.empty,.int i64 0,.int i64 0]).cells.size=3:=by simp[Value.cells]
end
section
open Go.RowKit
theorem isSwitch_any (S a:Int)(w:World):
 Calls prog 24 #[.int i64 S,.int i64 a] w fun e w'=>e=.returned (.bool (swB S a))∧Below w.heap.size w w':=by
 by_cases h1:1≤a
 ·by_cases h2:a≤S
  ·have e:swB S a=true:=sw_of.2 ⟨h1,h2⟩;rw[e];clear e;go_enter func24,ntmps24;go_wp2;go_ret;exact⟨rfl,bRQ _ _⟩
  have e:swB S a=false:=by simp[swB,h2]
  rw[e];clear e;go_enter func24,ntmps24;go_wp2;go_ret;exact⟨rfl,bRQ _ _⟩
 have e:swB S a=false:=by simp[swB,h1]
 rw[e];clear e;go_enter func24,ntmps24;go_wp2;go_ret;exact⟨rfl,bRQ _ _⟩
theorem isSpot_any (S x y:Int)(w:World):
 Calls prog 76 #[.int i64 S,.agg #[.int i64 x,.int i64 y]] w fun e w'=>e=.returned (.bool (spB S (x,y)))∧Below w.heap.size w w':=by
 have HB0:Hid (Below w.heap.size w (w.alloc (.cells #[.int i64 x,.int i64 y] 115))):=(bRQ _ _).alloc (nLQ _) _;have hlt:w.heap.size<(w.alloc (.cells #[.int i64 x,.int i64 y] 115)).heap.size:=by simp
 have c0:(w.alloc (.cells #[.int i64 x,.int i64 y] 115)).cell? ⟨w.heap.size,0,none⟩=some (.int i64 x):=by simp
 have c1:(w.alloc (.cells #[.int i64 x,.int i64 y] 115)).cell? ⟨w.heap.size,1,none⟩=some (.int i64 y):=by simp
 cases hs:swB S x
 ·have e:spB S (x,y)=false:=by
   cases h:spB S (x,y)
   ·rfl
   have:=sp_of h;have h2:=sw_of.2 ⟨this.1,this.2.1⟩;rw[hs] at h2;cases h2
  rw[e];clear e;go_enter func76,ntmps76
  go_wp2_with fail
  refine (isSwitch_any S x _).mono ?_;rintro e w1 ⟨rfl,hb1⟩;rw[hs];have HB1:Hid (Below w.heap.size w w1):=HB0.out.trans (hb1.mono HB0.out.size);clear hb1 c0 c1;go_wp2;go_ret;exact⟨rfl,HB1.out⟩
 have hw:=sw_of.1 hs;have e:spB S (x,y)=(decide (1≤y)&&decide (y≤4)):=by simp[spB,hw.1,hw.2]
 rw[e];clear e hw;have walk:∀r:Bool,r=(decide (1≤y)&&decide (y≤4))→Calls prog 76 #[.int i64 S,.agg #[.int i64 x,.int i64 y]] w fun e w'=>e=.returned (.bool r)∧Below w.heap.size w w':=by
  intro r hr;by_cases h1:1≤y
  ·by_cases h2:y≤4
   ·have e:r=true:=by rw[hr];simp[h1,h2]
    subst e;clear hr;go_enter func76,ntmps76
    go_wp2_with fail
    refine (isSwitch_any S x _).mono ?_;rintro e w1 ⟨rfl,hb1⟩;rw[hs];have HB1:Hid (Below w.heap.size w w1):=HB0.out.trans (hb1.mono HB0.out.size);have d1:=cell_later hb1 c1;clear hb1 c0 c1;go_wp2;go_ret;exact⟨rfl,HB1.out⟩
   have e:r=false:=by rw[hr];simp[h2]
   subst e;clear hr;go_enter func76,ntmps76
   go_wp2_with fail
   refine (isSwitch_any S x _).mono ?_;rintro e w1 ⟨rfl,hb1⟩;rw[hs];have HB1:Hid (Below w.heap.size w w1):=HB0.out.trans (hb1.mono HB0.out.size);have d1:=cell_later hb1 c1;have hd:decide (y≤4)=false:=by simp[h2]
   clear hb1 c0 c1;go_wp2;go_ret;exact⟨by first | rfl | simp[h2],HB1.out⟩
  have e:r=false:=by rw[hr];simp[h1]
  subst e;clear hr;go_enter func76,ntmps76
  go_wp2_with fail
  refine (isSwitch_any S x _).mono ?_;rintro e w1 ⟨rfl,hb1⟩;rw[hs];have HB1:Hid (Below w.heap.size w w1):=HB0.out.trans (hb1.mono HB0.out.size);have d1:=cell_later hb1 c1;clear hb1 c0 c1;go_wp2;go_ret;exact⟨rfl,HB1.out⟩
 exact walk _ rfl
theorem spotEq (a b c d:Int)(w:World):(Op.equal 115 (.agg #[.int i64 a,.int i64 b]) (.agg #[.int i64 c,.int i64 d])).run prog w=.ok (a==c&&b==d) w:=by
 unfold Op.equal Op.maxDepth;rw[run_equalIn_struct w 9999 _ _ _ (by kernel_rfl) (by kernel_rfl)];cases h1:(a==c)
 ·go_simp
 cases h2:(b==d)
 ·go_simp
 go_simp
theorem spotCheck (e:Bool)(a b:Int)(w:World):(Instr.checkKey e 10000 115 (.agg #[.int i64 a,.int i64 b])).run prog w=.ok () w:=by
 have h:∀(x:Int) (w:World),(Instr.checkKey e 9999 3 (.int i64 x)).run prog w=.ok () w:=fun x w=>Go.MapKept.run_checkKey underlying3 (by simp[Go.MapKept.IsKey]) e 9998
 rw[Instr.checkKey];go_simp
def spotKey:KeyE prog 115 (Int×Int):=
 KeyE.ask (fun k=>.agg #[.int i64 k.1,.int i64 k.2]) sq sq_iff (fun e k w=>spotCheck e k.1 k.2 w) _ (show Tryd.prog.underlying 115=some (.struct (Tryd.prog.fieldsOf 115)) by kernel_rfl) (fun a b=>rfl) (fun a b w=>spotEq a.1 a.2 b.1 b.2 w) (fun k=>by simp[Instr.sameBits])
def intKey:KeyE prog 3 Int:=
 KeyE.now (fun k=>.int i64 k) qI qI_iff (fun e k w=>Go.MapKept.run_checkKey underlying3 (by simp[Go.MapKept.IsKey]) e 9999) _ underlying3 (fun a b=>by simp[Instr.sameNow,qI]) (fun k=>by simp[Instr.sameBits])
def strKey:KeyE prog 9 ByteArray:=
 KeyE.now (fun k=>.string k) (fun a b=>a==b) ba_iff (fun e k w=>Go.MapKept.run_checkKey underlying9 (by simp[Go.MapKept.IsKey]) e 9999) _ underlying9 (fun a b=>by simp[Instr.sameNow,beq_toListBytes]) (fun k=>by simp[Instr.sameBits,(ba_iff k k).2 rfl])
def veI (n:Int):Value:=.int i64 n
section
variable {P:Program}{K:TypeId}{κ:Type}{E:KeyE P K κ}{w:World}{ops:Array Oper}{rest:List Oper}{o:Oper}{a:Act}{Q:Exit→Act→World→Prop}
theorem getV_I {o:Option Int}:getV veI (.int i64 0) o=.int i64 (o.getD 0):=by cases o <;> rfl
theorem run_lookup_TK {B:Nat}{M:List (κ×Int)}{U:List κ}(h:MAt E veI w B M)(hT:TK E.q M U)(t e:TypeId)(ht:P.underlying t=some (.map K e))(hz:∀w,(zeroValue e).run P w=.ok (.int i64 0) w)(k:κ):
 (Instr.lookup t (.map (some B)) (E.c k) false).run P w=.ok (.int i64 (ctM E.q k U:Int)) w:=by
 rw[run_lookup_M h t e ht _ hz k false,getV_I,hT k];rfl
end
end
section
def noV (n:Int):Value:=if n=0 then .nilIface else .iface 73 (.int i64 n)
theorem no_ok {n:Int}(h:n=0):noV n=.nilIface:=by simp[noV,h]
theorem no_ne {n:Int}(h:n≠0):noV n=.iface 73 (.int i64 n):=by simp[noV,h]
end
end Go.Proofs.YtcbapfgohocghaaDoor
