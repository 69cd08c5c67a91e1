/- Contracts and facts on the way to PlanHolds, joined into one text: But, BfsMath, TopoMath2, NetMath, ChangeMath, TopoCon, SpotKey, Err, TopoLay, SlByte, TopoName, TopoSettle, TopoCheck, AlikeMath, CubeCon, CubeHas. -/
import Derived.Test.YtiokpmlhmlcojaaGreatPlanHoldsP1
namespace Go.Proofs.YtiokpmlhmlcojaaGreat
set_option linter.unusedSimpArgs false
set_option linter.unusedVariables false
set_option maxHeartbeats 16000000
set_option maxRecDepth 100000
section
open Go.RowKit
structure But (X:List Nat)(w w':World):Prop where
 os:w'.os=w.os
 tape:w'.tape=w.tape
 output:w'.output=w.output
 size:w.heap.size≤w'.heap.size
 block:∀k,k<w.heap.size→k ∉ X→w'.heap[k]?=w.heap[k]?
theorem But.refl (X:List Nat)(w:World):But X w w:=⟨rfl,rfl,rfl,Nat.le_refl _,fun _ _ _=>rfl⟩
theorem But.trans {X:List Nat}{a b c:World}(h:But X a b)(k:But X b c):But X a c:=
 ⟨k.os.trans h.os,k.tape.trans h.tape,k.output.trans h.output,Nat.le_trans h.size k.size,fun i hi hx=>(k.block i (Nat.lt_of_lt_of_le hi h.size) hx).trans (h.block i hi hx)⟩
theorem But.drew {X:List Nat}{a w:World}(h:But X a w):But X a w.drew:=⟨h.os,h.tape,h.output,h.size,h.block⟩
theorem wrap_small {x:Int}(h1 : -1000000≤x)(h2:x≤1000000):IntKind.i64.wrap x=x:=by
 rw[IntKind.wrap_i64];omega
theorem But.of_below {X:List Nat}{w w':World}(h:Below w.heap.size w w'):But X w w':=⟨h.os,h.tape,h.output,h.size,fun k hk _=>h.block k hk⟩
theorem But.of_grown {X:List Nat}{w w':World}{B:Nat}(h:w.grownBy w' (some B))(hB:B∈X):But X w w':=
 ⟨h.os,h.tape,h.output,h.size,fun k hk hx=>h.block k hk (fun e=>hx (by cases e;exact hB))⟩
theorem But.mono {X Y:List Nat}{w w':World}(h:But X w w')(hX:∀x∈X,x∈Y):But Y w w':=⟨h.os,h.tape,h.output,h.size,fun k hk hx=>h.block k hk (fun e=>hx (hX k e))⟩
theorem But.below {X:List Nat}{w w':World}{B:Nat}(h:But X w w')(hB:B≤w.heap.size)(hX:∀x∈X,B≤x):Below B w w':=
 ⟨h.os,h.tape,h.output,h.size,fun k hk=>h.block k (by omega) (fun e=>by have:=hX k e;omega)⟩
theorem But.cell {X:List Nat}{w w':World}(h:But X w w'){p:Addr}(hl:p.block<w.heap.size)(hX:p.block ∉ X):w'.cell? p=w.cell? p:=World.cell?_of_block (w:=w) (h.block p.block hl hX)
section
variable {P:Program}{K:TypeId}{κ β:Type}{E:KeyE P K κ}{ve:β→Value}
theorem MAt.but {X:List Nat}{w w':World}{B:Nat}{M:List (κ×β)}(h:MAt E ve w B M)(hb:But X w w')(hX:B ∉ X):MAt E ve w' B M:=by
 have hlt:=h.lt;obtain⟨es,clock,h1,h2⟩:=h;exact⟨es,clock,(hb.block B hlt hX).trans h1,h2⟩
end
section
variable {κ:Type}
def ctM (q:κ→κ→Bool)(x:κ)(U:List κ):Nat:=(U.filter fun y=>q x y).length
theorem ct_app {q:κ→κ→Bool}(x:κ)(U V:List κ):ctM q x (U++V)=ctM q x U+ctM q x V:=by simp[ctM]
theorem ct_le {q:κ→κ→Bool}(x:κ)(U:List κ):ctM q x U≤U.length:=List.length_filter_le _ _
theorem ct_pos {q:κ→κ→Bool}(hq:∀a b,q a b=true↔a=b)(x:κ)(U:List κ):0<ctM q x U↔x∈U:=by
 unfold ctM;rw[List.length_pos_iff_exists_mem];simp only[List.mem_filter,hq];exact⟨fun ⟨y,h1,h2⟩=>h2 ▸ h1,fun h=>⟨x,h,rfl⟩⟩
def TK (q:κ→κ→Bool)(M:List (κ×Int))(U:List κ):Prop:=∀s,(mget q s M).getD 0=(ctM q s U:Int)
theorem tk_nil (q:κ→κ→Bool):TK q [] []:=fun s=>rfl
theorem tk_put {q:κ→κ→Bool}(hq:∀a b,q a b=true↔a=b){M:List (κ×Int)}{U:List κ}(h:TK q M U)(x:κ):TK q (mput q x ((ctM q x U:Int)+1) M) (U++[x]):=by
 intro s;rw[mget_put hq,ct_app];by_cases e:q s x=true
 ·rw[if_pos e];have e2:=(hq _ _).1 e;subst e2;have:ctM q s [s]=1:=by simp[ctM,e]
  rw[this];simp
 rw[if_neg e,h s];have:ctM q s [x]=0:=by simp[ctM,e]
 rw[this];simp
theorem ct_one {q:κ→κ→Bool}(hq:∀a b,q a b=true↔a=b)(x y:κ):ctM q x [y]=if q x y then 1 else 0:=by
 cases h:q x y <;> simp[ctM,h]
end
def sq (a b:Int×Int):Bool:=a.1==b.1&&a.2==b.2
theorem sq_iff (a b:Int×Int):sq a b=true↔a=b:=by
 obtain⟨x,y⟩:=a;obtain⟨z,v⟩:=b;simp[sq]
def lk1 (S:Int)(U:List (Int×Int))(l:(Int×Int)×(Int×Int)):Int:=if spB S l.1&&spB S l.2 then (if l.1==l.2 || (U.any fun u=>u==l.1 || u==l.2) then 7 else 0) else 1
theorem lk_step (S:Int)(l:(Int×Int)×(Int×Int))(Ls:LkQ)(U:List (Int×Int)):lkN S (l :: Ls) U=if lk1 S U l=0 then lkN S Ls (U++[l.1,l.2]) else lk1 S U l:=by
 rw[lkN,lk1];by_cases h1:(spB S l.1&&spB S l.2)=true
 ·rw[if_pos h1,if_pos h1];by_cases h2:(l.1==l.2 || (U.any fun u=>u==l.1 || u==l.2))=true
  ·rw[if_pos h2,if_pos h2];rfl
  rw[if_neg h2,if_neg h2];rfl
 rw[if_neg h1,if_neg h1];rfl
def ho1 (S:Int)(N:List ByteArray)(U:List (Int×Int))(h:ByteArray×(Int×Int)):Int:=if nmB h.1 then (if spB S h.2 then (if (N.any fun n=>n==h.1) || (U.any fun u=>u==h.2) then 7 else 0) else 1) else 2
theorem ho_step (S:Int)(h:ByteArray×(Int×Int))(Hs:HoQ)(N:List ByteArray)(U:List (Int×Int)):hoN S (h :: Hs) N U=if ho1 S N U h=0 then hoN S Hs (N++[h.1]) (U++[h.2]) else ho1 S N U h:=by
 rw[hoN,ho1];by_cases h1:nmB h.1=true
 ·rw[if_pos h1,if_pos h1];by_cases h2:spB S h.2=true
  ·rw[if_pos h2,if_pos h2];by_cases h3:((N.any fun n=>n==h.1) || (U.any fun u=>u==h.2))=true
   ·rw[if_pos h3,if_pos h3];rfl
   rw[if_neg h3,if_neg h3];rfl
  rw[if_neg h2,if_neg h2];rfl
 rw[if_neg h1,if_neg h1];rfl
theorem ct_link (U:List (Int×Int))(x y:Int×Int):(decide ((1:Int)<(ctM sq x (U++[x]++[y]):Int)) || decide ((1:Int)<(ctM sq y (U++[x]++[y]):Int)))=(x==y || (U.any fun u=>u==x || u==y)):=by
 rw[Bool.eq_iff_iff];simp only[ct_app,ct_one sq_iff,Bool.or_eq_true,decide_eq_true_eq,beq_iff_eq,List.any_eq_true];have hx:=ct_pos sq_iff x U;have hy:=ct_pos sq_iff y U;have sx:sq x x=true:=(sq_iff _ _).2 rfl;have sy:sq y y=true:=(sq_iff _ _).2 rfl;rw[sx,sy];simp only[if_true];by_cases e:x=y
 ·subst e;simp[sx];omega
 have n1:sq x y=false:=by
  cases h:sq x y
  ·rfl
  exact absurd ((sq_iff _ _).1 h) e
 have n2:sq y x=false:=by
  cases h:sq y x
  ·rfl
  exact absurd ((sq_iff _ _).1 h).symm e
 rw[n1,n2];simp only[Bool.false_eq_true,if_false,e,false_or];constructor
 ·rintro (h | h)
  ·exact⟨x,hx.1 (by omega),.inl rfl⟩
  exact⟨y,hy.1 (by omega),.inr rfl⟩
 rintro⟨u,hu,rfl | rfl⟩
 ·have:=hx.2 hu;left;omega
 have:=hy.2 hu;right;omega
theorem ba_iff (a b:ByteArray):(a==b)=true↔a=b:=ba_eq
theorem ct_host {κ:Type}{q:κ→κ→Bool}(hq:∀a b,q a b=true↔a=b)(U:List κ)(x:κ):decide ((1:Int)<(ctM q x (U++[x]):Int))=(U.any fun u=>q u x):=by
 rw[Bool.eq_iff_iff];simp only[ct_app,ct_one hq,decide_eq_true_eq,List.any_eq_true];have hx:=ct_pos hq x U;have sx:q x x=true:=(hq _ _).2 rfl;rw[sx];simp only[if_true];constructor
 ·intro h;exact⟨x,hx.1 (by omega),sx⟩
 rintro⟨u,hu,e⟩;have e2:=(hq _ _).1 e;subst e2;have:=hx.2 hu;omega
theorem sps_take {Ls:LkQ}{k:Nat}(hk:k<Ls.length):spsL (Ls.take (k+1))=spsL (Ls.take k)++[Ls[k].1,Ls[k].2]:=by
 rw[List.take_succ_eq_append_getElem hk];unfold spsL;rw[List.flatMap_append];rfl
theorem sps_len (Ls:LkQ):(spsL Ls).length=2*Ls.length:=by
 induction Ls with
 | nil=>rfl
 | cons l Ls ih =>
   have e:spsL (l :: Ls)=l.1 :: l.2 :: spsL Ls:=rfl;rw[e];simp[ih];omega
def qI (a b:Int):Bool:=a==b
theorem qI_iff (a b:Int):qI a b=true↔a=b:=by simp[qI]
section
variable {κ β:Type}{q:κ→κ→Bool}
end
section
variable {S:Nat}{J:Nat→Nat→Bool}{a:Nat}
end
theorem at_ix (Hs:HoQ)(s:Int×Int):(ixG (fun h=>sq h.2 s) Hs = -1∧atO Hs s=none)∨∃(k:Nat) (hk:k<Hs.length),ixG (fun h=>sq h.2 s) Hs=k∧atO Hs s=some Hs[k].1:=by
 induction Hs with
 | nil=>exact .inl ⟨rfl,rfl⟩
 | cons h Hs ih =>
   rw[atO];by_cases e:sq h.2 s=true
   ·refine .inr ⟨0,by simp,?_,?_⟩
    ·exact ixG_hit (L:=h :: Hs) (k:=0) (by simp) (by simp) e
    have e2:=(sq_iff _ _).1 e;rw[if_pos (by rw[e2];exact beq_self_eq_true _)];rfl
   have en:¬(h.2==s)=true:=fun h2=>e ((sq_iff _ _).2 (by simpa using h2))
   rw[if_neg en];have ef:sq h.2 s=false:=by simpa using e
   rcases ih with ⟨h1,h2⟩ | ⟨k,hk,h1,h2⟩
   ·refine .inl ⟨?_,h2⟩;unfold ixG at h1 ⊢;rw[List.any_cons,ef,Bool.false_or];cases ha:Hs.any fun h=>sq h.2 s
    ·rfl
    rw[ha,if_pos rfl] at h1;omega
   refine .inr ⟨k+1,by simp;omega,?_,by simpa using h2⟩;unfold ixG at h1 ⊢;rw[List.any_cons,ef,Bool.false_or];cases ha:Hs.any fun h=>sq h.2 s
   ·rw[ha] at h1;simp at h1
   rw[ha,if_pos rfl] at h1;rw[if_pos rfl,List.findIdx_cons,ef];simp;omega
theorem peer_app (l:(Int×Int)×(Int×Int))(s:Int×Int):∀Ls:LkQ,peerO (Ls++[l]) s=match peerO Ls s with | some p=>some p | none=>if l.1==s then some l.2 else if l.2==s then some l.1 else none
 | []=>by simp[peerO]
 | x :: Ls=>by
   rw[List.cons_append,peerO,peerO];by_cases h1:(x.1==s)=true
   ·rw[if_pos h1,if_pos h1]
   rw[if_neg h1,if_neg h1];by_cases h2:(x.2==s)=true
   ·rw[if_pos h2,if_pos h2]
   rw[if_neg h2,if_neg h2];exact peer_app l s Ls
def PM (M Ls:LkQ):Prop:=∀s,mget sq s M=peerO Ls s
theorem pm_nil:PM [] []:=fun s=>rfl
theorem pm_put {M Ls:LkQ}{x y:Int×Int}(h:PM M Ls)(hd:(spsL (Ls++[(x,y)])).Nodup):PM (mput sq y x (mput sq x y M)) (Ls++[(x,y)]):=by
 have e:spsL (Ls++[(x,y)])=spsL Ls++[x,y]:=by simp[spsL]
 rw[e,List.nodup_append] at hd;obtain⟨_,h2,h3⟩:=hd;have hxy:¬x=y:=by simpa using h2
 have hno:∀z,z=x∨z=y→peerO Ls z=none:=by
  intro z hz;cases hp:peerO Ls z with
  | none=>rfl
  | some p=>exact absurd rfl (h3 z (peer_in hp).1 z (by rcases hz with rfl | rfl <;> simp))
 intro s;rw[mget_put sq_iff,mget_put sq_iff,peer_app];by_cases e1:s=y
 ·subst e1;rw[if_pos ((sq_iff _ _).2 rfl),hno s (.inr rfl)];simp[hxy]
 rw[if_neg (fun e=>e1 ((sq_iff _ _).1 e))];by_cases e2:s=x
 ·subst e2;rw[if_pos ((sq_iff _ _).2 rfl),hno s (.inl rfl)];simp
 rw[if_neg (fun e=>e2 ((sq_iff _ _).1 e)),h s];cases hp:peerO Ls s with
 | some p=>rfl
 | none =>
   have n1:¬x=s:=fun e=>e2 e.symm
   have n2:¬y=s:=fun e=>e1 e.symm
   simp[n1,n2]
theorem sps_app (Ls Ms:LkQ):spsL (Ls++Ms)=spsL Ls++spsL Ms:=by simp[spsL]
theorem sps_nd {Ls:LkQ}(h:(spsL Ls).Nodup)(k:Nat):(spsL (Ls.take k)).Nodup:=by
 have e:Ls=Ls.take k++Ls.drop k:=(List.take_append_drop k Ls).symm;rw[e,sps_app,List.nodup_append] at h;exact h.1
def swB (S a:Int):Bool:=decide (1≤a)&&decide (a≤S)
theorem sw_of {S a:Int}:swB S a=true↔1≤a∧a≤S:=by simp[swB]
def tsTo (Ts:List (List Ru)):Nat→Int
 | 0=>0
 | k+1=>if tsTo Ts k=0 then tbN (Ts.getD k []) else tsTo Ts k
theorem ts_le {Ts:List (List Ru)}{k:Nat}(h:tsTo Ts k≠0):∀{n:Nat},k≤n→tsTo Ts n=tsTo Ts k
 | 0,hn=>by
   obtain rfl:k=0:=by omega
   rfl
 | n+1,hn=>by
   by_cases e:k=n+1
   ·subst e;rfl
   have:=ts_le h (show k≤n by omega);rw[tsTo,if_neg (by rw[this];exact h),this]
def ntN (S:Int)(Ls:LkQ)(Hs:HoQ)(Ts:List (List Ru)):Int:=
 if tpN S Ls Hs=0 then (if (Ts.length:Int)=S then tsTo Ts Ts.length else 3) else tpN S Ls Hs
theorem ts_0 {Ts:List (List Ru)}:∀{n:Nat},tsTo Ts n=0→∀k,k<n→tbN (Ts.getD k [])=0
 | 0,_,k,hk=>by omega
 | n+1,h,k,hk=>by
   unfold tsTo at h;by_cases e:tsTo Ts n=0
   ·rw[if_pos e] at h;by_cases ek:k=n
    ·subst ek;exact h
    exact ts_0 e k (by omega)
   rw[if_neg e] at h;exact absurd h e
theorem nt_0 {S:Int}{Ls:LkQ}{Hs:HoQ}{Ts:List (List Ru)}(h:ntN S Ls Hs Ts=0):tpN S Ls Hs=0∧(Ts.length:Int)=S∧∀k,k<Ts.length→tbN (Ts.getD k [])=0:=by
 unfold ntN at h;by_cases e:tpN S Ls Hs=0
 ·rw[if_pos e] at h;by_cases e2:(Ts.length:Int)=S
  ·rw[if_pos e2] at h;exact⟨e,e2,ts_0 h⟩
  rw[if_neg e2] at h;omega
 rw[if_neg e] at h;exact absurd h e
def roR (t:List Ru)(h:Int):Ru:=t.getD (luI t h).toNat zeR
def Ru.apN (r:Ru)(h:Int):Int:=Proofs.YtiokpmlhmlcojaaGreat.apN r.p r.m r.b r.o r.s r.v h
def Ru.apR (r:Ru)(h:Int):Int:=Proofs.YtiokpmlhmlcojaaGreat.apR r.p r.m r.b r.o r.s r.v h
def stT (t:List Ru)(p:(Int×Int)×Int):Option ((Int×Int)×Int):=
 if luN t p.2=0 then (if (roR t p.2).apN p.2=0 then some ((p.1.1,(roR t p.2).o),(roR t p.2).apR p.2) else none) else none
def taT (Ts:List (List Ru))(s:Int):List Ru:=Ts.getD (s-1).toNat []
def stO (Ts:List (List Ru))(p:(Int×Int)×Int):Option ((Int×Int)×Int):=stT (taT Ts p.1.1) p
def heB (a b:(Int×Int)×Int):Bool:=(a.1.1==b.1.1)&&((a.1.2==b.1.2)&&((a.2==b.2)))
def goE (Ls:LkQ)(Hs:HoQ)(t:List Ru)(l:HpQ)(p:(Int×Int)×Int):(Int×ByteArray) ⊕ ((Int×Int)×Int):=
 match stT t p with
 | none=>.inl (2,ByteArray.empty)
 | some q=>match atO Hs q.1 with
   | some m=>.inl (1,m)
   | none=>match peerO Ls q.1 with
     | none=>.inl (3,ByteArray.empty)
     | some s=>if l.length=24∨l.any (fun x=>heB (s,q.2) x)=true then .inl (4,ByteArray.empty) else .inr (s,q.2)
def zeH:(Int×Int)×Int:=((0,0),0)
def laH (l:HpQ):(Int×Int)×Int:=l.getD (l.length-1) zeH
def foF (Ls:LkQ)(Hs:HoQ)(Ts:List (List Ru)):Nat→HpQ→Int×ByteArray×HpQ
 | 0,l=>(4,ByteArray.empty,l)
 | n+1,l=>match goE Ls Hs (taT Ts (laH l).1.1) l (laH l) with
   | .inl e=>(e.1,e.2,l)
   | .inr p=>foF Ls Hs Ts n (l++[p])
def frF (Ls:LkQ)(Hs:HoQ)(Ts:List (List Ru))(s:Int×Int)(h:Int):Int×ByteArray×HpQ:=foF Ls Hs Ts 24 [(s,h)]
def caN (S:Int):List (List Ru)→List Op8→Int
 | _,[]=>0
 | Ts,o :: l=>if swB S o.w=true then (if doN (taT Ts o.w) o.a o.r=0 then caN S (Ts.set (o.w-1).toNat (doL (taT Ts o.w) o.a o.r)) l else doN (taT Ts o.w) o.a o.r) else 1
def caT:List (List Ru)→List Op8→List (List Ru)
 | Ts,[]=>Ts
 | Ts,o :: l=>caT (Ts.set (o.w-1).toNat (doL (taT Ts o.w) o.a o.r)) l
def tsOk (Ts:List (List Ru)):Prop:=∀L∈Ts,tbN L=0
theorem ca_len (Ts:List (List Ru))(l:List Op8):(caT Ts l).length=Ts.length:=by
 induction l generalizing Ts with
 | nil=>rfl
 | cons o l ih=>rw[caT,ih,List.length_set]
theorem ca_app (S:Int)(Ts:List (List Ru))(a b:List Op8):caN S Ts (a++b)=if caN S Ts a=0 then caN S (caT Ts a) b else caN S Ts a:=by
 induction a generalizing Ts with
 | nil=>simp[caN,caT]
 | cons o l ih =>
   rw[List.cons_append,caN,caN,caT];by_cases h1:swB S o.w=true
   ·rw[if_pos h1,if_pos h1];by_cases h2:doN (taT Ts o.w) o.a o.r=0
    ·rw[if_pos h2,if_pos h2,ih]
    rw[if_neg h2,if_neg h2,if_neg h2]
   rw[if_neg h1,if_neg h1];rfl
theorem cj_app (Ts:List (List Ru))(a b:List Op8):caT Ts (a++b)=caT (caT Ts a) b:=by
 induction a generalizing Ts with
 | nil=>rfl
 | cons o l ih=>rw[List.cons_append,caT,caT,ih]
theorem ca_cons {S:Int}{Ts:List (List Ru)}{o:Op8}{l:List Op8}(h:caN S Ts (o :: l)=0):
 swB S o.w=true∧doN (taT Ts o.w) o.a o.r=0∧caN S (Ts.set (o.w-1).toNat (doL (taT Ts o.w) o.a o.r)) l=0:=by
 rw[caN] at h;by_cases h1:swB S o.w=true
 ·rw[if_pos h1] at h;by_cases h2:doN (taT Ts o.w) o.a o.r=0
  ·rw[if_pos h2] at h;exact⟨h1,h2,h⟩
  rw[if_neg h2] at h;exact absurd h h2
 rw[if_neg h1] at h;omega
theorem take_yes {L:List Ru}{r:Ru}(h:doN L false r=0):tbN L=0∧∃A B,L=A++r :: B∧doL L false r=A++B:=by
 have h0:=h;unfold doN at h;by_cases h1:tbN L=0
 ·rw[if_pos h1] at h;by_cases h2:r.n=0
  ·rw[if_pos h2,chN] at h;simp only[Bool.false_eq_true,if_false] at h;cases h3:inB L r
   ·rw[h3] at h;simp at h
   obtain⟨A,B,rfl⟩:=List.append_of_mem (in_iff.1 h3);exact⟨h1,A,B,rfl,(do_take h1).2⟩
  rw[if_neg h2] at h;exact absurd h h2
 rw[if_neg h1] at h;exact absurd h h1
theorem do_right {L:List Ru}{a:Bool}{r:Ru}(h:doN L a r=0):tbN (doL L a r)=0:=by
 cases a with
 | true =>
   obtain⟨h1,h2,h3,h4⟩:=add_yes h;rw[(do_add h1 h2 h3 h4).2];exact tb_one h1 h2 h3 h4
 | false =>
   obtain⟨h1,A,B,rfl,e⟩:=take_yes h;rw[e];exact tb_sub h1 (List.Sublist.append (List.Sublist.refl _) (List.sublist_cons_self r B))
theorem ok_set {Ts:List (List Ru)}{k:Nat}{L:List Ru}(h:tsOk Ts)(hL:tbN L=0):tsOk (Ts.set k L):=by
 intro x hx
 rcases List.mem_or_eq_of_mem_set hx with h1 | rfl
 ·exact h x h1
 exact hL
theorem ca_right {S:Int}:∀{l:List Op8} {Ts:List (List Ru)},tsOk Ts→caN S Ts l=0→tsOk (caT Ts l)
 | [],_,h,_=>h
 | o :: l,Ts,h,e=>by
   obtain⟨h1,h2,h3⟩:=ca_cons e;rw[caT];exact ca_right (ok_set h (do_right h2)) h3
theorem getD_set (Ts:List (List Ru))(k j:Nat)(L:List Ru):(Ts.set k L).getD j []=if j=k∧k<Ts.length then L else Ts.getD j []:=by
 rw[List.getD_eq_getElem?_getD,List.getElem?_set,List.getD_eq_getElem?_getD];by_cases h:k=j
 ·subst h;by_cases h2:k<Ts.length
  ·simp[h2]
  rw[if_pos rfl,if_neg h2,if_neg (by omega),List.getElem?_eq_none (by omega)]
 rw[if_neg h,if_neg (by omega)]
theorem ta_set {Ts:List (List Ru)}{w:Int}{L:List Ru}(h1:1≤w)(h2:w≤Ts.length):taT (Ts.set (w-1).toNat L) w=L:=by
 have h:(w-1).toNat<Ts.length:=by omega
 rw[taT,List.getD_eq_getElem?_getD,List.getElem?_set_self h];rfl
theorem sm_df {A B:List Ru}(h:twN A B=0):smB A B=decide ((dfL A B).length=0):=by
 obtain⟨hA,hB⟩:tbN A=0∧tbN B=0:=by
  unfold twN at h;by_cases h1:tbN A=0
  ·rw[if_pos h1] at h;exact⟨h1,h⟩
  rw[if_neg h1] at h;exact absurd h h1
 have sub {X Y:List Ru} (e:bey X Y=[]):∀r∈X,r∈Y:=by
  intro r hr;rw[bey,List.filter_eq_nil_iff] at e;have:=e r hr;simp at this;exact in_iff.1 this
 rw[smB,if_pos h,dfL,if_pos h,Bool.eq_iff_iff];simp only[taken,added,List.length_append,List.length_map,Bool.and_eq_true,decide_eq_true_eq];constructor
 ·rintro⟨h1,h2⟩;have hs:=sub (List.length_eq_zero_iff.1 h2);rw[h2,Nat.zero_add];rw[List.length_eq_zero_iff,bey,List.filter_eq_nil_iff];intro r hr;cases hi:inB A r
  ·exfalso
   have hno:r ∉ A:=fun hm=>by rw[in_iff.2 hm] at hi;cases hi
   have:=nodup_sub (M:=r :: A) (L:=B) (List.nodup_cons.2 ⟨hno,tb_nodup hA⟩) (fun x hx=>by
    rcases List.mem_cons.1 hx with rfl | hx
    ·exact hr
    exact hs x hx)
   rw[List.length_cons] at this;omega
  simp
 intro h1;have e1:(bey A B).length=0:=by omega
 have e2:(bey B A).length=0:=by omega
 refine⟨Nat.le_antisymm (nodup_sub (tb_nodup hA) (sub (List.length_eq_zero_iff.1 e1))) (nodup_sub (tb_nodup hB) (sub (List.length_eq_zero_iff.1 e2))),e1⟩
def ofS (w:Int)(l:List Op8):List Op8:=l.map fun o=>⟨w,o.a,o.r⟩
theorem ca_of {S w:Int}(hs:swB S w=true):∀{l:List Op8} {Ts:List (List Ru)},(Ts.length:Int)=S→alN (taT Ts w) l=0→caN S Ts (ofS w l)=0∧caT Ts (ofS w l)=Ts.set (w-1).toNat (alL (taT Ts w) l)
 | [],Ts,hS,_=>by
   have hw:=sw_of.1 hs;have h:(w-1).toNat<Ts.length:=by omega
   refine⟨rfl,?_⟩;show Ts=Ts.set (w-1).toNat (taT Ts w);rw[taT,List.getD_eq_getElem?_getD,List.getElem?_eq_getElem h];simp
 | o :: l,Ts,hS,e=>by
   have hw:=sw_of.1 hs;rw[alN] at e;by_cases h2:doN (taT Ts w) o.a o.r=0
   ·rw[if_pos h2] at e;have et:=ta_set (Ts:=Ts) (L:=doL (taT Ts w) o.a o.r) hw.1 (by omega);obtain⟨i1,i2⟩:=ca_of hs (l:=l) (Ts:=Ts.set (w-1).toNat (doL (taT Ts w) o.a o.r)) (by rw[List.length_set];exact hS) (by rw[et];exact e);refine⟨?_,?_⟩
    ·show caN S Ts (⟨w,o.a,o.r⟩ :: ofS w l)=0;rw[caN];show (if swB S w=true then (if doN (taT Ts w) o.a o.r=0 then _ else _) else _)=_;rw[if_pos hs,if_pos h2];exact i1
    show caT Ts (⟨w,o.a,o.r⟩ :: ofS w l)=_;rw[caT];show caT (Ts.set (w-1).toNat (doL (taT Ts w) o.a o.r)) (ofS w l)=_;rw[i2,et,List.set_set,alL,if_pos h2]
   rw[if_neg h2] at e;exact absurd e h2
def cdL (As Bs:List (List Ru)):Nat→List Op8
 | 0=>[]
 | k+1=>cdL As Bs k++ofS (k+1) (dfL (As.getD k []) (Bs.getD k []))
def csB (As Bs:List (List Ru)):Nat→Bool
 | 0=>true
 | k+1=>csB As Bs k&&smB (As.getD k []) (Bs.getD k [])
theorem cs_iff {As Bs:List (List Ru)}:∀{k:Nat},csB As Bs k=true↔∀j,j<k→smB (As.getD j []) (Bs.getD j [])=true
 | 0=>by simp[csB]
 | k+1=>by
   rw[csB,Bool.and_eq_true,cs_iff];refine⟨fun ⟨h1,h2⟩ j hj=>?_,fun h=>⟨fun j hj=>h j (by omega),h k (by omega)⟩⟩;by_cases e:j=k
   ·rw[e];exact h2
   exact h1 j (by omega)
theorem cs_cd {As Bs:List (List Ru)}:∀{k:Nat},(∀j,j<k→twN (As.getD j []) (Bs.getD j [])=0)→csB As Bs k=decide ((cdL As Bs k).length=0)
 | 0,_=>rfl
 | k+1,h=>by
   rw[csB,cs_cd (k:=k) (fun j hj=>h j (by omega)),sm_df (h k (by omega)),cdL,List.length_append,ofS,List.length_map,Bool.eq_iff_iff];simp only[Bool.and_eq_true,decide_eq_true_eq];omega
theorem cd_few {As Bs:List (List Ru)}(ht:∀j,twN (As.getD j []) (Bs.getD j [])=0):∀k,(cdL As Bs k).length≤24*k
 | 0=>by simp[cdL]
 | k+1=>by
   have h1:=cd_few ht k;have h2:(dfL (As.getD k []) (Bs.getD k [])).length≤24:=by
    have h:=ht k;rw[dfL,if_pos h];obtain⟨hA,hB⟩:tbN (As.getD k [])=0∧tbN (Bs.getD k [])=0:=by
     unfold twN at h;by_cases h1:tbN (As.getD k [])=0
     ·rw[if_pos h1] at h;exact⟨h1,h⟩
     rw[if_neg h1] at h;exact absurd h h1
    have a:=(tb_iff.1 hA).1;have b:=(tb_iff.1 hB).1;have c:(bey (As.getD k []) (Bs.getD k [])).length≤(As.getD k []).length:=List.length_filter_le _ _;have d:(bey (Bs.getD k []) (As.getD k [])).length≤(Bs.getD k []).length:=List.length_filter_le _ _;simp only[taken,added,List.length_append,List.length_map];omega
   rw[cdL,List.length_append,ofS,List.length_map];omega
def cgN (S:Int)(Ls:LkQ)(Hs:HoQ)(Ts:List (List Ru))(l:List Op8):Int:=
 if ntN S Ls Hs Ts=0 then (if 200<l.length then 4 else caN S Ts l) else ntN S Ls Hs Ts
theorem ts_ok {Ts:List (List Ru)}(h:tsOk Ts):∀n,tsTo Ts n=0
 | 0=>rfl
 | n+1=>by
   rw[tsTo,if_pos (ts_ok h n),List.getD_eq_getElem?_getD];by_cases e:n<Ts.length
   ·rw[List.getElem?_eq_getElem e];exact h _ (List.getElem_mem e)
   rw[List.getElem?_eq_none (by omega)];rfl
theorem ok_ts {Ts:List (List Ru)}(h:∀k,k<Ts.length→tbN (Ts.getD k [])=0):tsOk Ts:=by
 intro L hL;obtain⟨k,hk,rfl⟩:=List.getElem_of_mem hL;have:=h k hk;rw[List.getD_eq_getElem?_getD,List.getElem?_eq_getElem hk] at this;exact this
theorem nt_of {S:Int}{Ls:LkQ}{Hs:HoQ}{Ts:List (List Ru)}(h1:tpN S Ls Hs=0)(h2:(Ts.length:Int)=S)(h3:tsOk Ts):ntN S Ls Hs Ts=0:=by
 rw[ntN,if_pos h1,if_pos h2,ts_ok h3]
theorem cg_of {S:Int}{Ls:LkQ}{Hs:HoQ}{Ts:List (List Ru)}{l:List Op8}(h1:ntN S Ls Hs Ts=0)(h2:l.length≤200)(h3:caN S Ts l=0):cgN S Ls Hs Ts l=0:=by
 rw[cgN,if_pos h1,if_neg (by omega),h3]
theorem nt_ca {S:Int}{Ls:LkQ}{Hs:HoQ}{Ts:List (List Ru)}{l:List Op8}(h:ntN S Ls Hs Ts=0)(hl:caN S Ts l=0):ntN S Ls Hs (caT Ts l)=0:=by
 obtain⟨h1,h2,h3⟩:=nt_0 h;exact nt_of h1 (by rw[ca_len];exact h2) (ca_right (ok_ts h3) hl)
theorem isSwitch_any (S a:Int)(w:World):
 Calls Tryz.prog 37 #[.int .i64 S,.int .i64 a] w fun e w'=>e=.returned (.bool (swB S a))∧Below w.heap.size w w':=by
 by_cases h1:1≤a
 ·by_cases h2:a≤S
  ·have e:swB S a=true:=sw_of.2 ⟨h1,h2⟩;rw[e];clear e;go_enter Tryz.func37,Tryz.ntmps37;go_wp2;go_ret;exact⟨rfl,Below.refl _ _⟩
  have e:swB S a=false:=by simp[swB,h2]
  rw[e];clear e;go_enter Tryz.func37,Tryz.ntmps37;go_wp2;go_ret;exact⟨rfl,Below.refl _ _⟩
 have e:swB S a=false:=by simp[swB,h1]
 rw[e];clear e;go_enter Tryz.func37,Tryz.ntmps37;go_wp2;go_ret;exact⟨rfl,Below.refl _ _⟩
theorem isSpot_any (S x y:Int)(w:World):
 Calls Tryz.prog 99 #[.int .i64 S,.agg #[.int .i64 x,.int .i64 y]] w fun e w'=>e=.returned (.bool (spB S (x,y)))∧Below w.heap.size w w':=by
 have HB0:Hid (Below w.heap.size w (w.alloc (Obj.cells #[.int .i64 x,.int .i64 y] 31))):=(Below.refl _ _).alloc (Nat.le_refl _) _;have hlt:w.heap.size<(w.alloc (Obj.cells #[.int .i64 x,.int .i64 y] 31)).heap.size:=by simp
 have c0:(w.alloc (Obj.cells #[.int .i64 x,.int .i64 y] 31)).cell? ⟨w.heap.size,0,none⟩=some (.int .i64 x):=by simp
 have c1:(w.alloc (Obj.cells #[.int .i64 x,.int .i64 y] 31)).cell? ⟨w.heap.size,1,none⟩=some (.int .i64 y):=by simp
 cases hs:swB S x
 ·have e:spB S (x,y)=false:=by
   cases h:spB S (x,y)
   ·rfl
   have:=sp_of h;have h2:=sw_of.2 ⟨this.1,this.2.1⟩;rw[hs] at h2;cases h2
  rw[e];clear e;go_enter Tryz.func99,Tryz.ntmps99
  go_wp2_with fail
  refine (isSwitch_any S x _).mono ?_;rintro e w1 ⟨rfl,hb1⟩;rw[hs];have HB1:Hid (Below w.heap.size w w1):=HB0.out.trans (hb1.mono HB0.out.size);clear hb1 c0 c1;go_wp2;go_ret;exact⟨rfl,HB1.out⟩
 have hw:=sw_of.1 hs;have e:spB S (x,y)=(decide (1≤y)&&decide (y≤4)):=by simp[spB,hw.1,hw.2]
 rw[e];clear e hw;have walk:∀r:Bool,r=(decide (1≤y)&&decide (y≤4))→Calls Tryz.prog 99 #[.int .i64 S,.agg #[.int .i64 x,.int .i64 y]] w fun e w'=>e=.returned (.bool r)∧Below w.heap.size w w':=by
  intro r hr;by_cases h1:1≤y
  ·by_cases h2:y≤4
   ·have e:r=true:=by rw[hr];simp[h1,h2]
    subst e;clear hr;go_enter Tryz.func99,Tryz.ntmps99
    go_wp2_with fail
    refine (isSwitch_any S x _).mono ?_;rintro e w1 ⟨rfl,hb1⟩;rw[hs];have HB1:Hid (Below w.heap.size w w1):=HB0.out.trans (hb1.mono HB0.out.size);have d1:=cell_later hb1 c1;clear hb1 c0 c1;go_wp2;go_ret;exact⟨rfl,HB1.out⟩
   have e:r=false:=by rw[hr];simp[h2]
   subst e;clear hr;go_enter Tryz.func99,Tryz.ntmps99
   go_wp2_with fail
   refine (isSwitch_any S x _).mono ?_;rintro e w1 ⟨rfl,hb1⟩;rw[hs];have HB1:Hid (Below w.heap.size w w1):=HB0.out.trans (hb1.mono HB0.out.size);have d1:=cell_later hb1 c1;have hd:decide (y≤4)=false:=by simp[h2]
   clear hb1 c0 c1;go_wp2;go_ret;exact⟨by first | rfl | simp[h2],HB1.out⟩
  have e:r=false:=by rw[hr];simp[h1]
  subst e;clear hr;go_enter Tryz.func99,Tryz.ntmps99
  go_wp2_with fail
  refine (isSwitch_any S x _).mono ?_;rintro e w1 ⟨rfl,hb1⟩;rw[hs];have HB1:Hid (Below w.heap.size w w1):=HB0.out.trans (hb1.mono HB0.out.size);have d1:=cell_later hb1 c1;clear hb1 c0 c1;go_wp2;go_ret;exact⟨rfl,HB1.out⟩
 exact walk _ rfl
theorem spotEq (a b c d:Int)(w:World):(Op.equal 31 (.agg #[.int .i64 a,.int .i64 b]) (.agg #[.int .i64 c,.int .i64 d])).run Tryz.prog w=.ok (a==c&&b==d) w:=by
 unfold Op.equal Op.maxDepth;rw[run_equalIn_struct w 9999 _ _ _ (by kernel_rfl) (by kernel_rfl)];cases h1:(a==c)
 ·go_simp
 cases h2:(b==d)
 ·go_simp
 go_simp
theorem spotCheck (e:Bool)(a b:Int)(w:World):(Instr.checkKey e 10000 31 (.agg #[.int .i64 a,.int .i64 b])).run Tryz.prog w=.ok () w:=by
 have h:∀(x:Int) (w:World),(Instr.checkKey e 9999 3 (.int .i64 x)).run Tryz.prog w=.ok () w:=fun x w=>Go.MapKept.run_checkKey Tryz.underlying3 (by simp[Go.MapKept.IsKey]) e 9998
 rw[Instr.checkKey];go_simp
def spotKey:KeyE Tryz.prog 31 (Int×Int):=
 KeyE.ask (fun k=>.agg #[.int .i64 k.1,.int .i64 k.2]) sq sq_iff (fun e k w=>spotCheck e k.1 k.2 w) _ (show Tryz.prog.underlying 31=some (.struct (Tryz.prog.fieldsOf 31)) by kernel_rfl) (fun a b=>rfl) (fun a b w=>spotEq a.1 a.2 b.1 b.2 w) (fun k=>by simp[Instr.sameBits])
def intKey:KeyE Tryz.prog 3 Int:=
 KeyE.now (fun k=>.int .i64 k) qI qI_iff (fun e k w=>Go.MapKept.run_checkKey Tryz.underlying3 (by simp[Go.MapKept.IsKey]) e 9999) _ Tryz.underlying3 (fun a b=>by simp[Instr.sameNow,qI]) (fun k=>by simp[Instr.sameBits])
def strKey:KeyE Tryz.prog 9 ByteArray:=
 KeyE.now (fun k=>.string k) (fun a b=>a==b) ba_iff (fun e k w=>Go.MapKept.run_checkKey Tryz.underlying9 (by simp[Go.MapKept.IsKey]) e 9999) _ Tryz.underlying9 (fun a b=>by simp[Instr.sameNow,beq_toListBytes]) (fun k=>by simp[Instr.sameBits,(ba_iff k k).2 rfl])
def veI (n:Int):Value:=.int .i64 n
section
variable {P:Program}{K:TypeId}{κ:Type}{E:KeyE P K κ}{w:World}{ops:Array Oper}{rest:List Oper}{o:Oper}{a:Act}{Q:Exit→Act→World→Prop}
theorem getV_I {o:Option Int}:getV veI (.int .i64 0) o=.int .i64 (o.getD 0):=by cases o <;> rfl
theorem run_lookup_TK {B:Nat}{M:List (κ×Int)}{U:List κ}(h:MAt E veI w B M)(hT:TK E.q M U)(t e:TypeId)(ht:P.underlying t=some (.map K e))(hz:∀w,(zeroValue e).run P w=.ok (.int .i64 0) w)(k:κ):
 (Instr.lookup t (.map (some B)) (E.c k) false).run P w=.ok (.int .i64 (ctM E.q k U:Int)) w:=by
 rw[run_lookup_M h t e ht _ hz k false,getV_I,hT k];rfl
end
end
section
def noV (n:Int):Value:=if n=0 then .nilIface else .iface 63 (.int .i64 n)
theorem no_ok {n:Int}(h:n=0):noV n=.nilIface:=by simp[noV,h]
theorem no_ne {n:Int}(h:n≠0):noV n=.iface 63 (.int .i64 n):=by simp[noV,h]
end
section
open Go.RowKit
def LayQ (w w':World)(B:Nat)(N:Int)(V:List (Int×Int)):Prop:=∃M',MAt spotKey veI w' B M'∧(N=0→TK sq M' V)∧But [B] w w'
theorem lay_ok (S x0 x1 x2 x3:Int)(B:Nat)(M:HpQ)(U:List (Int×Int))(w:World)(hM:MAt spotKey veI w B M)(hT:TK sq M U)(hU:U.length≤1000)(ha:spB S (x0,x1)=true)(hb:spB S (x2,x3)=true)(N:Int)(hN:N=lk1 S U ((x0,x1),(x2,x3))):
 Calls Tryz.prog 73 #[.int .i64 S,.map (some B),.agg #[.int .i64 x0,.int .i64 x1,.int .i64 x2,.int .i64 x3]] w fun e w'=>e=.returned (noV N)∧LayQ w w' B N (U++[(x0,x1),(x2,x3)]):=by
 have hlt:=hM.lt;have HN:Hid (N=lk1 S U ((x0,x1),(x2,x3))):=hN;have hB0:Below w.heap.size w (w.alloc (Obj.cells #[.int .i64 x0,.int .i64 x1,.int .i64 x2,.int .i64 x3] 78)):=(Below.refl _ _).alloc (Nat.le_refl _) _;have HB0:Hid (Below w.heap.size w (w.alloc (Obj.cells #[.int .i64 x0,.int .i64 x1,.int .i64 x2,.int .i64 x3] 78))):=hB0;have HC:=lnk_new w x0 x1 x2 x3 78;have HM0:Hid (MAt spotKey veI w B M):=hM;have HT:Hid (TK sq M U):=hT;have hne:¬w.heap.size=B:=by omega
 clear hM hT hN hB0;go_enter Tryz.func73,Tryz.ntmps73
 go_wp2_with fail
 refine (isSpot_any S x0 x1 _).mono ?_;rintro e w1 ⟨rfl,hb1⟩;rw[ha];have HB1:Hid (Below w.heap.size w w1):=HB0.out.trans (hb1.mono HB0.out.size);have HC1:=HC.later hb1;obtain⟨c0,c1,c2,c3⟩:=lnk_cells HC1;simp only[Nat.zero_add] at c0 c1 c2 c3;clear hb1
 go_wp2_with fail
 refine (isSpot_any S x2 x3 _).mono ?_;rintro e w2 ⟨rfl,hb2⟩;rw[hb];have HB2:Hid (Below w.heap.size w w2):=HB1.out.trans (hb2.mono HB1.out.size);have HC2:Hid (VAt w2 w.heap.size 0 (lnkE.c ((x0,x1),(x2,x3)))):=HC1.later hb2;have d0:=cell_later hb2 c0;have d1:=cell_later hb2 c1;have d2:=cell_later hb2 c2;have d3:=cell_later hb2 c3;have HM2:Hid (MAt spotKey veI w2 B M):=(HM0.out.later HB2.out);clear hb2 HC1 HC c0 c1 c2 c3 HB1 HB0;go_upto_region 3 with fail;obtain⟨cA,hcA⟩:∃cA:Int,cA=(ctM sq (x0,x1) U:Int):=⟨_,rfl⟩;have HcA:Hid (cA=(ctM sq (x0,x1) U:Int)):=hcA;have hcw:IntKind.i64.wrap (cA+1)=cA+1:=by
  have h1:=ct_le (q:=sq) (x0,x1) U;exact wrap_small (by omega) (by omega)
 clear hcA
 go_cut [] from 20 to 26 (fun w'=>∃M1,MAt spotKey veI w' B M1∧TK sq M1 (U++[(x0,x1)])∧But [B] w2 w')
 case first =>
  have hMd:MAt spotKey veI w2.drew B M:=HM2.out;obtain⟨v0,st,w3,hE,hg3,hM3,hS3⟩:=run_entry_M hMd 154 3 Tryz.underlying154 0 (fun w=>by kernel_rfl) (x0,x1);obtain⟨w4,hSt,hM4,hg4⟩:=hS3 w3 (cA+1) rfl;have hTK4:Hid (TK sq (mput sq (x0,x1) (cA+1) M) (U++[(x0,x1)])):=by
   show TK _ _ _;rw[HcA.out];exact tk_put sq_iff HT.out _
  have HM4:Hid (MAt spotKey veI w4 B (mput sq (x0,x1) (cA+1) M)):=hM4;have HBt:Hid (But [B] w2 w4):=((But.refl [B] w2).drew.trans (But.of_grown hg3 (by simp))).trans (But.of_grown hg4 (by simp));have hl2:(Instr.lookup 154 (.map (some B)) (.agg #[.int .i64 x0,.int .i64 x1]) false).run Tryz.prog w2.drew=.ok (.int .i64 cA) w2.drew:=by
   rw[HcA.out];exact run_lookup_TK hMd HT.out 154 3 Tryz.underlying154 (fun w=>by kernel_rfl) (x0,x1)
  have hl3:(Instr.lookup 154 (.map (some B)) (.agg #[.int .i64 x0,.int .i64 x1]) false).run Tryz.prog w3=.ok (.int .i64 cA) w3:=by
   have h:=run_lookup_M hM3 154 3 Tryz.underlying154 (.int .i64 0) (fun w=>by kernel_rfl) (x0,x1) false;have e:mget spotKey.q (x0,x1) (mput spotKey.q (x0,x1) ((mget spotKey.q (x0,x1) M).getD 0) M)=some cA:=by
    rw[mget_put spotKey.qeq,if_pos ((spotKey.qeq _ _).2 rfl),HcA.out];exact congrArg some (HT.out (x0,x1))
   rw[e] at h;exact h
  have h1:(Instr.mapEntry 154 (.map (some B)) (.agg #[.int .i64 x0,.int .i64 x1])).run Tryz.prog w2.drew=.ok (.tuple #[v0,.int .i64 (st:Int)]) w3:=hE;have h3:(Instr.entryStore 154 (.map (some B)) (.int .i64 (st:Int)) (.int .i64 (cA+1))).run Tryz.prog w3=.ok () w4:=hSt;clear hE hS3 hSt hM3 hM4 hg3 hg4 hMd
  go_region
  go_wp2_with fail
  go_meet
  case rel=>exact⟨_,HM4.out,hTK4.out,HBt.out⟩
 case rest =>
  obtain⟨M1,hM1,hT1,hBt1⟩:=hcut;obtain⟨w5,hw5⟩:∃x,x=wc:=⟨_,rfl⟩;subst hw5;have hnB:w.heap.size ∉ [B]:=by simp[hne]
  have hl2:w.heap.size<w2.heap.size:=bLQ _ _ d0;have e0:=(hBt1.cell (p:=⟨w.heap.size,0,none⟩) hl2 hnB).trans d0;have e1:=(hBt1.cell (p:=⟨w.heap.size,1,none⟩) hl2 hnB).trans d1;have e2:=(hBt1.cell (p:=⟨w.heap.size,2,none⟩) hl2 hnB).trans d2;have e3:=(hBt1.cell (p:=⟨w.heap.size,3,none⟩) hl2 hnB).trans d3;have HM5:Hid (MAt spotKey veI w5 B M1):=hM1;have HT5:Hid (TK sq M1 (U++[(x0,x1)])):=hT1;have HBt5:Hid (But [B] w w5):=(But.of_below (HB2.out)).trans hBt1;clear hM1 hT1 hBt1 d0 d1 d2 d3 HM2 HC2 hcw HcA hnB hl2;obtain⟨cB,hcB⟩:∃cB:Int,cB=(ctM sq (x2,x3) (U++[(x0,x1)]):Int):=⟨_,rfl⟩;have HcB:Hid (cB=(ctM sq (x2,x3) (U++[(x0,x1)]):Int)):=hcB;have hcw:IntKind.i64.wrap (cB+1)=cB+1:=by
   have h1:=ct_le (q:=sq) (x2,x3) (U++[(x0,x1)]);simp only[List.length_append,List.length_singleton] at h1;exact wrap_small (by omega) (by omega)
  clear hcB;go_upto_region 4 with fail
  go_cut [] from 27 to 33 (fun w'=>∃M2,MAt spotKey veI w' B M2∧TK sq M2 (U++[(x0,x1)]++[(x2,x3)])∧But [B] w5 w')
  case first =>
   have hMd:MAt spotKey veI w5.drew B M1:=HM5.out;obtain⟨v0,st,w3,hE,hg3,hM3,hS3⟩:=run_entry_M hMd 154 3 Tryz.underlying154 0 (fun w=>by kernel_rfl) (x2,x3);obtain⟨w4,hSt,hM4,hg4⟩:=hS3 w3 (cB+1) rfl;have hTK4:Hid (TK sq (mput sq (x2,x3) (cB+1) M1) (U++[(x0,x1)]++[(x2,x3)])):=by
    show TK _ _ _;rw[HcB.out];exact tk_put sq_iff HT5.out _
   have HM4:Hid (MAt spotKey veI w4 B (mput sq (x2,x3) (cB+1) M1)):=hM4;have HBt:Hid (But [B] w5 w4):=((But.refl [B] w5).drew.trans (But.of_grown hg3 (by simp))).trans (But.of_grown hg4 (by simp));have hl2:(Instr.lookup 154 (.map (some B)) (.agg #[.int .i64 x2,.int .i64 x3]) false).run Tryz.prog w5.drew=.ok (.int .i64 cB) w5.drew:=by
    rw[HcB.out];exact run_lookup_TK hMd HT5.out 154 3 Tryz.underlying154 (fun w=>by kernel_rfl) (x2,x3)
   have hl3:(Instr.lookup 154 (.map (some B)) (.agg #[.int .i64 x2,.int .i64 x3]) false).run Tryz.prog w3=.ok (.int .i64 cB) w3:=by
    have h:=run_lookup_M hM3 154 3 Tryz.underlying154 (.int .i64 0) (fun w=>by kernel_rfl) (x2,x3) false;have e:mget spotKey.q (x2,x3) (mput spotKey.q (x2,x3) ((mget spotKey.q (x2,x3) M1).getD 0) M1)=some cB:=by
     rw[mget_put spotKey.qeq,if_pos ((spotKey.qeq _ _).2 rfl),HcB.out];exact congrArg some (HT5.out (x2,x3))
    rw[e] at h;exact h
   have h1:(Instr.mapEntry 154 (.map (some B)) (.agg #[.int .i64 x2,.int .i64 x3])).run Tryz.prog w5.drew=.ok (.tuple #[v0,.int .i64 (st:Int)]) w3:=hE;have h3:(Instr.entryStore 154 (.map (some B)) (.int .i64 (st:Int)) (.int .i64 (cB+1))).run Tryz.prog w3=.ok () w4:=hSt;clear hE hS3 hSt hM3 hM4 hg3 hg4 hMd
   go_region
   go_wp2_with fail
   go_meet
   case rel=>exact⟨_,HM4.out,hTK4.out,HBt.out⟩
  case rest =>
   obtain⟨M2,hM2,hT2,hBt2⟩:=hcut;have hnB:w.heap.size ∉ [B]:=by simp[hne]
   have hl2:w.heap.size<w5.heap.size:=bLQ _ _ e0;have f0:=(hBt2.cell (p:=⟨w.heap.size,0,none⟩) hl2 hnB).trans e0;have f1:=(hBt2.cell (p:=⟨w.heap.size,1,none⟩) hl2 hnB).trans e1;have f2:=(hBt2.cell (p:=⟨w.heap.size,2,none⟩) hl2 hnB).trans e2;have f3:=(hBt2.cell (p:=⟨w.heap.size,3,none⟩) hl2 hnB).trans e3;have HM6:Hid (MAt spotKey veI wc B M2):=hM2;have HT6:Hid (TK sq M2 (U++[(x0,x1),(x2,x3)])):=by
    show TK _ _ _;simpa using hT2
   have HBt6:Hid (But [B] w wc):=HBt5.out.trans hBt2;obtain⟨pA,hpA⟩:∃p:Int,p=(ctM sq (x0,x1) (U++[(x0,x1)]++[(x2,x3)]):Int):=⟨_,rfl⟩;obtain⟨pB,hpB⟩:∃p:Int,p=(ctM sq (x2,x3) (U++[(x0,x1)]++[(x2,x3)]):Int):=⟨_,rfl⟩;have hlA:(Instr.lookup 154 (.map (some B)) (.agg #[.int .i64 x0,.int .i64 x1]) false).run Tryz.prog wc=.ok (.int .i64 pA) wc:=by
    rw[hpA];exact run_lookup_TK hM2 hT2 154 3 Tryz.underlying154 (fun w=>by kernel_rfl) (x0,x1)
   have hlB:(Instr.lookup 154 (.map (some B)) (.agg #[.int .i64 x2,.int .i64 x3]) false).run Tryz.prog wc=.ok (.int .i64 pB) wc:=by
    rw[hpB];exact run_lookup_TK hM2 hT2 154 3 Tryz.underlying154 (fun w=>by kernel_rfl) (x2,x3)
   have HL:Hid (N=if (decide ((1:Int)<pA) || decide ((1:Int)<pB))=true then 7 else 0):=by
    show _=_;rw[HN.out,hpA,hpB,ct_link,lk1];simp only[ha,hb,Bool.and_self,if_true]
   clear hM2 hT2 hBt2 e0 e1 e2 e3 hnB hl2 hcw HcB HM5 HT5 HBt5 hpA hpB ha hb;by_cases h1:1<pA
   ·have e7:N=7:=by rw[HL.out];simp[h1]
    subst e7;go_wp2;go_ret;exact⟨rfl,M2,HM6.out,fun e=>absurd e (by decide),HBt6.out⟩
   by_cases h2:1<pB
   ·have e7:N=7:=by rw[HL.out];simp[h2]
    subst e7;go_wp2;go_ret;exact⟨rfl,M2,HM6.out,fun e=>absurd e (by decide),HBt6.out⟩
   have e7:N=0:=by rw[HL.out];simp[h1,h2]
   subst e7;go_wp2;go_ret;exact⟨rfl,M2,HM6.out,fun _=>HT6.out,HBt6.out⟩
theorem lay_bad (S x0 x1 x2 x3:Int)(B:Nat)(w:World)(h:(spB S (x0,x1)&&spB S (x2,x3))=false):
 Calls Tryz.prog 73 #[.int .i64 S,.map (some B),.agg #[.int .i64 x0,.int .i64 x1,.int .i64 x2,.int .i64 x3]] w fun e w'=>e=.returned (.iface 63 (.int .i64 1))∧Below w.heap.size w w':=by
 have HB0:Hid (Below w.heap.size w (w.alloc (Obj.cells #[.int .i64 x0,.int .i64 x1,.int .i64 x2,.int .i64 x3] 78))):=(Below.refl _ _).alloc (Nat.le_refl _) _;have HC:=lnk_new w x0 x1 x2 x3 78;cases ha:spB S (x0,x1)
 ·clear h;go_enter Tryz.func73,Tryz.ntmps73
  go_wp2_with fail
  refine (isSpot_any S x0 x1 _).mono ?_;rintro e w1 ⟨rfl,hb1⟩;rw[ha];have HB1:Hid (Below w.heap.size w w1):=HB0.out.trans (hb1.mono HB0.out.size);clear hb1 HC;go_wp2;go_ret;exact⟨rfl,HB1.out⟩
 have hb:spB S (x2,x3)=false:=by rw[ha,Bool.true_and] at h;exact h
 clear h;go_enter Tryz.func73,Tryz.ntmps73
 go_wp2_with fail
 refine (isSpot_any S x0 x1 _).mono ?_;rintro e w1 ⟨rfl,hb1⟩;rw[ha];have HB1:Hid (Below w.heap.size w w1):=HB0.out.trans (hb1.mono HB0.out.size);obtain⟨c0,c1,c2,c3⟩:=lnk_cells (HC.later hb1);simp only[Nat.zero_add] at c0 c1 c2 c3;clear hb1 HC
 go_wp2_with fail
 refine (isSpot_any S x2 x3 _).mono ?_;rintro e w2 ⟨rfl,hb2⟩;rw[hb];have HB2:Hid (Below w.heap.size w w2):=HB1.out.trans (hb2.mono HB1.out.size);clear hb2;go_wp2;go_ret;exact⟨rfl,HB2.out⟩
theorem lay_any (S x0 x1 x2 x3:Int)(B:Nat)(M:HpQ)(U:List (Int×Int))(w:World)(hM:MAt spotKey veI w B M)(hT:TK sq M U)(hU:U.length≤1000):
 Calls Tryz.prog 73 #[.int .i64 S,.map (some B),.agg #[.int .i64 x0,.int .i64 x1,.int .i64 x2,.int .i64 x3]] w fun e w'=>e=.returned (noV (lk1 S U ((x0,x1),(x2,x3))))∧LayQ w w' B (lk1 S U ((x0,x1),(x2,x3))) (U++[(x0,x1),(x2,x3)]):=by
 cases h:(spB S (x0,x1)&&spB S (x2,x3))
 ·refine (lay_bad S x0 x1 x2 x3 B w h).mono ?_;rintro e w' ⟨rfl,hb⟩;have e1:lk1 S U ((x0,x1),(x2,x3))=1:=by simp only[lk1,h,Bool.false_eq_true,if_false]
  rw[e1];exact⟨rfl,M,hM.later hb,fun e=>absurd e (by decide),But.of_below hb⟩
 simp only[Bool.and_eq_true] at h;exact lay_ok S x0 x1 x2 x3 B M U w hM hT hU h.1 h.2 _ rfl
def byE:Enc (UInt8) where
 c:=fun x=>[.int .u8 (x.toNat:Int)]
 n:=1
 len:=fun _=>rfl
 pos:=by decide
 one:=by
  intro x u hu;simp at hu;subst hu;rfl
theorem by_at {w:World}{g o:Nat}{L:List (UInt8)}(h:GAt byE w g o L){n k:Nat}(hn:L.length=n)(hk:k<n):∃(x:UInt8) (hl:k<L.length),L[k]=x∧w.cell? ⟨g,o+k,none⟩=some (.int .u8 (x.toNat:Int)):=by
 have hl:k<L.length:=by omega
 have:=h k hl 0 _ rfl;refine⟨_,hl,rfl,?_⟩;have e:o+k*byE.n+0=o+k:=by show o+k*1+0=o+k;omega
 rw[e] at this;exact this
def byAsks (w:World)(f:FuncId)(P:UInt8→Bool):Prop:=
 ∀(x:UInt8) (W:World),Below w.heap.size w W→Calls Tryz.prog f #[.int .u8 (x.toNat:Int)] W fun e w'=>e=.returned (.bool (P x))∧Below W.heap.size W w'
theorem byAsks.later {w w':World}{f:FuncId}{P:UInt8→Bool}(h:byAsks w f P)(hb:Below w.heap.size w w'):byAsks w' f P:=
 fun x W hW=>h x W (hb.trans (hW.mono hb.size))
theorem by_idxF (ao:Option Addr)(n cap:Nat)(f:FuncId)(P:UInt8→Bool)(L:List (UInt8))(w:World)(hn:L.length=n)(hn2:n≤maxLen)(ha:0<n→∃g o,ao=some ⟨g,o,none⟩∧GAt byE w g o L∧cap≤maxLen)(he:∀args w,(callFunc f args).run Tryz.prog w=.ok (.enter f args) w)(hf:byAsks w f P):
 Calls Tryz.prog 113 #[.slice ao n cap,.func (Fn.func f) #[] #[]] w fun e w'=>e=.returned (.int .i64 (ixG P L))∧Below w.heap.size w w':=by
 have HN:Hid (L.length=n):=hn;have HF:Hid (byAsks w f P):=hf;have HA:Hid (0<n→∃g o,ao=some ⟨g,o,none⟩∧GAt byE w g o L∧cap≤maxLen):=ha;unfold maxLen at hn2;clear hn hf ha;go_enter Tryz.func113,Tryz.ntmps113;go_wp2
 go_loopw [8] (fun i wr=>∃k:Nat,k≤n∧i=.int .i64 k∧(L.take k).any P=false∧Below w.heap.size w wr)
  (fun i _=>n-(intOf i).toNat)
 case atStart=>exact⟨0,by omega,rfl,by simp,Below.refl _ _⟩
 case round =>
  obtain⟨k,hk,rfl,hno,hB⟩:=hrel;have HB:Hid (Below w.heap.size w wr):=hB;have HNO:Hid ((L.take k).any P=false):=hno;clear hno;by_cases hlt:k<n
  ·obtain⟨g,o,hao,hc,_⟩:=HA.out (by omega);subst hao;obtain⟨x,hkl,hL,q0⟩:=by_at (hc.later hB) HN.out hlt;have HL:Hid (L[k]=x):=hL;clear hL hB;cases ho:P x
   ·go_wp2_with fail
    refine (HF.out x _ HB.out).mono ?_;rintro e w1 ⟨rfl,hb1⟩;rw[ho];have HB1:=HB.out.trans (hb1.mono HB.out.size);clear hb1;go_wp2;go_roundw
    case rel=>exact⟨k+1,by omega,by go_num,any_nextG hkl HNO.out (by rw[HL.out];exact ho),HB1⟩
    case measure=>simp[intOf];omega
   go_wp2_with fail
   refine (HF.out x _ HB.out).mono ?_;rintro e w1 ⟨rfl,hb1⟩;rw[ho];go_wp2;go_ret;exact⟨by rw[ixG_hit hkl HNO.out (by rw[HL.out];exact ho)];rfl,HB.out.trans (hb1.mono HB.out.size)⟩
  obtain rfl:k=n:=by omega
  go_wp2;go_ret;exact⟨by have:=HNO.out;rw[←HN.out,List.take_length] at this;rw[ixG_no this];rfl,HB.out⟩
theorem by_hasF (ao:Option Addr)(n cap:Nat)(f:FuncId)(P:UInt8→Bool)(L:List (UInt8))(w:World)(hn:L.length=n)(hn2:n≤maxLen)(ha:0<n→∃g o,ao=some ⟨g,o,none⟩∧GAt byE w g o L∧cap≤maxLen)(he:∀args w,(callFunc f args).run Tryz.prog w=.ok (.enter f args) w)(hf:byAsks w f P):
 Calls Tryz.prog 108 #[.slice ao n cap,.func (Fn.func f) #[] #[]] w fun e w'=>e=.returned (.bool (L.any P))∧Below w.heap.size w w':=by
 rw[←ixG_any];obtain⟨x,hx⟩:∃x,x=ixG P L:=⟨_,rfl⟩;have HX:Hid (x=ixG P L):=hx;rw[←hx];clear hx;go_enter Tryz.func108,Tryz.ntmps108
 go_wp2_with fail
 refine (by_idxF ao n cap f P L _ hn hn2 ha he hf).mono ?_;rintro e w1 ⟨rfl,hb1⟩;rw[←HX.out];go_wp2;go_ret;exact⟨rfl,hb1⟩
def noL (b:UInt8):Bool:=decide ((b.toNat:Int)<97) || decide ((122:Int)<(b.toNat:Int))
theorem isName1_any (b:UInt8)(w:World):Calls Tryz.prog 109 #[.int .u8 (b.toNat:Int)] w fun e w'=>e=.returned (.bool (noL b))∧Below w.heap.size w w':=by
 have hn:noL b=(decide ((b.toNat:Int)<97) || decide ((122:Int)<(b.toNat:Int))):=rfl
 generalize (b.toNat:Int)=x at *
 rw[hn];clear hn;by_cases h:x<97
 ·have e:(decide (x<97) || decide (122<x))=true:=by simp[h]
  rw[e];go_enter Tryz.func109,Tryz.ntmps109;go_wp2;go_ret;exact⟨rfl,Below.refl _ _⟩
 have e:(decide (x<97) || decide (122<x))=decide (122<x):=by simp[h]
 rw[e];go_enter Tryz.func109,Tryz.ntmps109;go_wp2;go_ret;exact⟨rfl,Below.refl _ _⟩
theorem isName1_asks (w:World):byAsks w 109 noL:=fun x W _=>isName1_any x W
theorem bytes_conv (s:ByteArray)(w:World):∃cap w1,(convert 9 185 (.string s)).run Tryz.prog w=.ok (.slice (some ⟨w.heap.size,0,none⟩) s.size cap) w1∧Below w.heap.size w w1∧GAt byE w1 w.heap.size 0 s.data.toList∧(s.size≤maxLen→cap≤maxLen):=by
 refine⟨_,_,run_bytes_of_string w _ _ 5 s Tryz.underlying9 Tryz.underlying185 Tryz.underlying5,?_,?_,fun h=>grownCap_le_maxLen w _ _ _ h⟩
 ·exact (Below.drew (Below.refl _ _)).alloc (Nat.le_refl _) _
 intro i hi j u hu;have hj:j=0:=by
  have:=(List.getElem?_eq_some_iff.1 hu).1;have e:(byE.c s.data.toList[i]).length=1:=rfl;omega
 subst hj;have hu2:u=.int .u8 (s.data.toList[i].toNat:Int):=by
  have:some (Value.int .u8 (s.data.toList[i].toNat:Int))=some u:=hu;exact (Option.some.inj this).symm
 subst hu2;have hi2:i<s.data.size:=by simpa using hi
 have e:0+i*byE.n+0=i:=by show 0+i*1+0=i;omega
 rw[e];simp only[World.cell?,World.alloc,World.drew];simp[bytesRow];rw[Array.getElem?_append_left (by simpa using hi2),Array.getElem?_map,Array.getElem?_eq_getElem hi2];rfl
theorem nm_eq {s:ByteArray}(h1:1≤s.size)(h6:s.size≤6):nmB s = !(s.data.toList.any noL):=by
 have e:nmB s=(s.data.toList.all fun c=>decide (97≤c.toNat)&&decide (c.toNat≤122)):=by simp[nmB,h1,h6]
 rw[e,List.not_any_eq_all_not]
 congr 1
 funext c
 rw[Bool.eq_iff_iff];simp[noL];omega
theorem name_ok (s:ByteArray)(w:World)(h1:1≤s.size)(h6:s.size≤6):
 Calls Tryz.prog 100 #[.string s] w fun e w'=>e=.returned (.bool (nmB s))∧Below w.heap.size w w':=by
 have hs1:¬((s.size:Int)<1):=by omega
 have hs6:¬((6:Int)<(s.size:Int)):=by omega
 obtain⟨cap,w1,hcv,hb1,hG,hcap⟩:=bytes_conv s w;have HCAP:Hid (s.size≤maxLen→cap≤maxLen):=hcap;have HB1:Hid (Below w.heap.size w w1):=hb1;have HG:Hid (GAt byE w1 w.heap.size 0 s.data.toList):=hG;have HE:Hid (nmB s = !(s.data.toList.any noL)):=nm_eq h1 h6;rw[HE.out];obtain⟨r,hr⟩:∃r,r=s.data.toList.any noL:=⟨_,rfl⟩;have HR:Hid (r=s.data.toList.any noL):=hr;rw[←hr];clear hr hb1 hG HE hcap;obtain⟨n,hn⟩:∃n,n=s.size:=⟨_,rfl⟩;have HN:Hid (n=s.size):=hn;rw[←hn] at hcv hs1 hs6 h1 h6;clear hn;have hsz:s.size=n:=HN.out.symm;go_enter Tryz.func100,Tryz.ntmps100
 go_wp2_with fail
 refine (by_hasF _ n cap _ noL s.data.toList _ (by rw[HN.out];simp) (by unfold maxLen;omega) (fun _=>⟨_,_,rfl,HG.out,HCAP.out (by rw[←HN.out];unfold maxLen;omega)⟩) (enters_of Tryz.func109 (by kernel_rfl) rfl) (isName1_asks _)).mono ?_;rintro e w2 ⟨rfl,hb2⟩;rw[←HR.out];have HB2:Hid (Below w.heap.size w w2):=HB1.out.trans (hb2.mono HB1.out.size);clear hb2;go_wp2;go_ret;exact⟨rfl,HB2.out⟩
theorem name_bad (s:ByteArray)(w:World)(h:s.size<1∨6<s.size):
 Calls Tryz.prog 100 #[.string s] w fun e w'=>e=.returned (.bool false)∧Below w.heap.size w w':=by
 obtain⟨n,hn⟩:∃n,n=s.size:=⟨_,rfl⟩;have hsz:s.size=n:=hn.symm;rw[hsz] at h;clear hn;by_cases h1:(n:Int)<1
 ·go_enter Tryz.func100,Tryz.ntmps100;go_wp2;go_ret;exact⟨rfl,Below.refl _ _⟩
 have h6:(6:Int)<(n:Int):=by omega
 clear h;go_enter Tryz.func100,Tryz.ntmps100;go_wp2;go_ret;exact⟨rfl,Below.refl _ _⟩
theorem name_any (s:ByteArray)(w:World):
 Calls Tryz.prog 100 #[.string s] w fun e w'=>e=.returned (.bool (nmB s))∧Below w.heap.size w w':=by
 by_cases h:1≤s.size∧s.size≤6
 ·exact name_ok s w h.1 h.2
 have e:nmB s=false:=by
  unfold nmB;by_cases h1:1≤s.size
  ·have:¬s.size≤6:=fun h2=>h ⟨h1,h2⟩
   simp[this]
  simp[h1]
 rw[e];exact name_bad s w (by omega)
def SetQ (w w':World)(B C:Nat)(N:Int)(V:List (Int×Int))(Z:List ByteArray):Prop:=∃M' R',MAt spotKey veI w' B M'∧MAt strKey veI w' C R'∧(N=0→TK sq M' V∧TK (fun a b=>a==b) R' Z)∧But [B,C] w w'
theorem settle_ok (S:Int)(n:ByteArray)(x0 x1:Int)(B C:Nat)(hBC:B≠C)(M:HpQ)(R:List (ByteArray×Int))(U:List (Int×Int))(Z:List ByteArray)(w:World)(hM:MAt spotKey veI w B M)(hR:MAt strKey veI w C R)(hT:TK sq M U)(hZ:TK (fun a b=>a==b) R Z)(hU:U.length≤1000)(hZl:Z.length≤1000)
 (ha:nmB n=true) (hb:spB S (x0,x1)=true) (N:Int) (hN:N=ho1 S Z U (n,(x0,x1))):
 Calls Tryz.prog 74 #[.int .i64 S,.map (some B),.map (some C),.agg #[.string n,.int .i64 x0,.int .i64 x1]] w fun e w'=>e=.returned (noV N)∧SetQ w w' B C N (U++[(x0,x1)]) (Z++[n]):=by
 have hltB:=hM.lt;have hltC:=hR.lt;have HN:Hid (N=ho1 S Z U (n,(x0,x1))):=hN;have HB0:Hid (Below w.heap.size w (w.alloc (Obj.cells #[Value.string n,.int .i64 x0,.int .i64 x1] 33))):=(Below.refl _ _).alloc (Nat.le_refl _) _;have HC:=hst_new w n x0 x1 33;have HM0:Hid (MAt spotKey veI w B M):=hM;have HR0:Hid (MAt strKey veI w C R):=hR;have HT:Hid (TK sq M U):=hT;have HZ:Hid (TK (fun a b=>a==b) R Z):=hZ;have hneB:¬w.heap.size=B:=by omega
 have hneC:¬w.heap.size=C:=by omega
 clear hM hR hT hZ hN;go_enter Tryz.func74,Tryz.ntmps74
 go_wp2_with fail
 refine (name_any n _).mono ?_;rintro e w1 ⟨rfl,hb1⟩;rw[ha];have HB1:Hid (Below w.heap.size w w1):=HB0.out.trans (hb1.mono HB0.out.size);have HC1:=HC.later hb1;obtain⟨c0,c1,c2⟩:=hst_cells HC1;simp only[Nat.zero_add] at c0 c1 c2;clear hb1
 go_wp2_with fail
 refine (isSpot_any S x0 x1 _).mono ?_;rintro e w2 ⟨rfl,hb2⟩;rw[hb];have HB2:Hid (Below w.heap.size w w2):=HB1.out.trans (hb2.mono HB1.out.size);have d0:=cell_later hb2 c0;have d1:=cell_later hb2 c1;have d2:=cell_later hb2 c2;have HM2:Hid (MAt spotKey veI w2 B M):=(HM0.out.later HB2.out);have HR2:Hid (MAt strKey veI w2 C R):=(HR0.out.later HB2.out);clear hb2 HC1 HC c0 c1 c2 HB1 HB0;go_upto_region 5 with fail;obtain⟨cA,hcA⟩:∃cA:Int,cA=(ctM (fun a b=>a==b) n Z:Int):=⟨_,rfl⟩;have HcA:Hid (cA=(ctM (fun a b=>a==b) n Z:Int)):=hcA;have hcw:IntKind.i64.wrap (cA+1)=cA+1:=by
  have h1:=ct_le (q:=fun a b:ByteArray=>a==b) n Z;exact wrap_small (by omega) (by omega)
 clear hcA
 go_cut [] from 20 to 24 (fun w'=>∃R1,MAt strKey veI w' C R1∧TK (fun a b=>a==b) R1 (Z++[n])∧But [C] w2 w')
 case first =>
  obtain⟨w3,hup,hR3,hg3⟩:=run_update_M HR2.out 156 3 Tryz.underlying156 n (cA+1);have hTK3:Hid (TK (fun a b=>a==b) (mput (fun a b=>a==b) n (cA+1) R) (Z++[n])):=by
   show TK _ _ _;rw[HcA.out];exact tk_put ba_iff HZ.out _
  have HR3:Hid (MAt strKey veI w3 C (mput (fun a b=>a==b) n (cA+1) R)):=hR3;have HBt:Hid (But [C] w2 w3):=But.of_grown hg3 (by simp);have hl2:(Instr.lookup 156 (.map (some C)) (.string n) false).run Tryz.prog w2=.ok (.int .i64 cA) w2:=by
   rw[HcA.out];exact run_lookup_TK HR2.out HZ.out 156 3 Tryz.underlying156 (fun w=>by kernel_rfl) n
  have h3:(Instr.mapUpdate 156 (.map (some C)) (.string n) (.int .i64 (cA+1))).run Tryz.prog w2=.ok () w3:=hup;clear hup hR3 hg3;go_wp2
  go_meet
  case rel=>exact⟨_,HR3.out,hTK3.out,HBt.out⟩
 case rest =>
  obtain⟨R1,hR1,hZ1,hBt1⟩:=hcut;obtain⟨w5,hw5⟩:∃x,x=wc:=⟨_,rfl⟩;subst hw5;have hl2:w.heap.size<w2.heap.size:=bLQ _ _ d0;have hnC:w.heap.size ∉ [C]:=by simp[hneC]
  have e0:=(hBt1.cell (p:=⟨w.heap.size,0,none⟩) hl2 hnC).trans d0;have e1:=(hBt1.cell (p:=⟨w.heap.size,1,none⟩) hl2 hnC).trans d1;have e2:=(hBt1.cell (p:=⟨w.heap.size,2,none⟩) hl2 hnC).trans d2;have HM5:Hid (MAt spotKey veI w5 B M):=HM2.out.but hBt1 (by simp[hBC]);have HR5:Hid (MAt strKey veI w5 C R1):=hR1;have HZ5:Hid (TK (fun a b=>a==b) R1 (Z++[n])):=hZ1;have HBt5:Hid (But [B,C] w w5):=(But.of_below (HB2.out)).trans (hBt1.mono (by simp));clear hR1 hZ1 hBt1 d0 d1 d2 HM2 HR2 hcw HcA hnC hl2;obtain⟨cB,hcB⟩:∃cB:Int,cB=(ctM sq (x0,x1) U:Int):=⟨_,rfl⟩;have HcB:Hid (cB=(ctM sq (x0,x1) U:Int)):=hcB;have hcw:IntKind.i64.wrap (cB+1)=cB+1:=by
   have h1:=ct_le (q:=sq) (x0,x1) U;exact wrap_small (by omega) (by omega)
  clear hcB;go_upto_region 6 with fail
  go_cut [] from 25 to 31 (fun w'=>∃M2,MAt spotKey veI w' B M2∧TK sq M2 (U++[(x0,x1)])∧But [B] w5 w')
  case first =>
   have hMd:MAt spotKey veI w5.drew B M:=HM5.out;obtain⟨v0,st,w3,hE,hg3,hM3,hS3⟩:=run_entry_M hMd 154 3 Tryz.underlying154 0 (fun w=>by kernel_rfl) (x0,x1);obtain⟨w4,hSt,hM4,hg4⟩:=hS3 w3 (cB+1) rfl;have hTK4:Hid (TK sq (mput sq (x0,x1) (cB+1) M) (U++[(x0,x1)])):=by
    show TK _ _ _;rw[HcB.out];exact tk_put sq_iff HT.out _
   have HM4:Hid (MAt spotKey veI w4 B (mput sq (x0,x1) (cB+1) M)):=hM4;have HBt:Hid (But [B] w5 w4):=((But.refl [B] w5).drew.trans (But.of_grown hg3 (by simp))).trans (But.of_grown hg4 (by simp));have hl2:(Instr.lookup 154 (.map (some B)) (.agg #[.int .i64 x0,.int .i64 x1]) false).run Tryz.prog w5.drew=.ok (.int .i64 cB) w5.drew:=by
    rw[HcB.out];exact run_lookup_TK hMd HT.out 154 3 Tryz.underlying154 (fun w=>by kernel_rfl) (x0,x1)
   have hl3:(Instr.lookup 154 (.map (some B)) (.agg #[.int .i64 x0,.int .i64 x1]) false).run Tryz.prog w3=.ok (.int .i64 cB) w3:=by
    have h:=run_lookup_M hM3 154 3 Tryz.underlying154 (.int .i64 0) (fun w=>by kernel_rfl) (x0,x1) false;have e:mget spotKey.q (x0,x1) (mput spotKey.q (x0,x1) ((mget spotKey.q (x0,x1) M).getD 0) M)=some cB:=by
     rw[mget_put spotKey.qeq,if_pos ((spotKey.qeq _ _).2 rfl),HcB.out];exact congrArg some (HT.out (x0,x1))
    rw[e] at h;exact h
   have h1:(Instr.mapEntry 154 (.map (some B)) (.agg #[.int .i64 x0,.int .i64 x1])).run Tryz.prog w5.drew=.ok (.tuple #[v0,.int .i64 (st:Int)]) w3:=hE;have h3:(Instr.entryStore 154 (.map (some B)) (.int .i64 (st:Int)) (.int .i64 (cB+1))).run Tryz.prog w3=.ok () w4:=hSt;clear hE hS3 hSt hM3 hM4 hg3 hg4 hMd
   go_region
   go_wp2_with fail
   go_meet
   case rel=>exact⟨_,HM4.out,hTK4.out,HBt.out⟩
  case rest =>
   obtain⟨M2,hM2,hT2,hBt2⟩:=hcut;have hnB:w.heap.size ∉ [B]:=by simp[hneB]
   have hl2:w.heap.size<w5.heap.size:=bLQ _ _ e0;have f0:=(hBt2.cell (p:=⟨w.heap.size,0,none⟩) hl2 hnB).trans e0;have f1:=(hBt2.cell (p:=⟨w.heap.size,1,none⟩) hl2 hnB).trans e1;have f2:=(hBt2.cell (p:=⟨w.heap.size,2,none⟩) hl2 hnB).trans e2;have hR6:MAt strKey veI wc C R1:=HR5.out.but hBt2 (by simp[Ne.symm hBC]);have HM6:Hid (MAt spotKey veI wc B M2):=hM2;have HR6:Hid (MAt strKey veI wc C R1):=hR6;have HT6:Hid (TK sq M2 (U++[(x0,x1)])):=hT2;have HBt6:Hid (But [B,C] w wc):=HBt5.out.trans (hBt2.mono (by simp));obtain⟨pA,hpA⟩:∃p:Int,p=(ctM (fun a b=>a==b) n (Z++[n]):Int):=⟨_,rfl⟩;obtain⟨pB,hpB⟩:∃p:Int,p=(ctM sq (x0,x1) (U++[(x0,x1)]):Int):=⟨_,rfl⟩;have hlA:(Instr.lookup 156 (.map (some C)) (.string n) false).run Tryz.prog wc=.ok (.int .i64 pA) wc:=by
    rw[hpA];exact run_lookup_TK hR6 HZ5.out 156 3 Tryz.underlying156 (fun w=>by kernel_rfl) n
   have hlB:(Instr.lookup 154 (.map (some B)) (.agg #[.int .i64 x0,.int .i64 x1]) false).run Tryz.prog wc=.ok (.int .i64 pB) wc:=by
    rw[hpB];exact run_lookup_TK hM2 hT2 154 3 Tryz.underlying154 (fun w=>by kernel_rfl) (x0,x1)
   have HL:Hid (N=if (decide ((1:Int)<pA) || decide ((1:Int)<pB))=true then 7 else 0):=by
    show _=_;have e1:(U.any fun u=>sq u (x0,x1))=(U.any fun u=>u==(x0,x1)):=by
     congr 1
    rw[HN.out,hpA,hpB,ct_host ba_iff,ct_host sq_iff,ho1,e1];simp only[ha,hb,if_true]
   clear hM2 hT2 hR6 hBt2 e0 e1 e2 hnB hl2 hcw HcB HM5 HR5 HBt5 hpA hpB ha hb;by_cases h1:1<pA
   ·have e7:N=7:=by rw[HL.out];simp[h1]
    subst e7;go_wp2;go_ret;exact⟨rfl,M2,R1,HM6.out,HR6.out,fun e=>absurd e (by decide),HBt6.out⟩
   by_cases h2:1<pB
   ·have e7:N=7:=by rw[HL.out];simp[h2]
    subst e7;go_wp2;go_ret;exact⟨rfl,M2,R1,HM6.out,HR6.out,fun e=>absurd e (by decide),HBt6.out⟩
   have e7:N=0:=by rw[HL.out];simp[h1,h2]
   subst e7;go_wp2;go_ret;exact⟨rfl,M2,R1,HM6.out,HR6.out,fun _=>⟨HT6.out,HZ5.out⟩,HBt6.out⟩
theorem settle_bad (S:Int)(n:ByteArray)(x0 x1:Int)(B C:Nat)(N:Int)(w:World)(h:(nmB n=false∧N=2)∨(nmB n=true∧spB S (x0,x1)=false∧N=1)):
 Calls Tryz.prog 74 #[.int .i64 S,.map (some B),.map (some C),.agg #[.string n,.int .i64 x0,.int .i64 x1]] w fun e w'=>e=.returned (.iface 63 (.int .i64 N))∧Below w.heap.size w w':=by
 have HB0:Hid (Below w.heap.size w (w.alloc (Obj.cells #[Value.string n,.int .i64 x0,.int .i64 x1] 33))):=(Below.refl _ _).alloc (Nat.le_refl _) _;have HC:=hst_new w n x0 x1 33
 rcases h with ⟨ha,rfl⟩ | ⟨ha,hb,rfl⟩
 ·go_enter Tryz.func74,Tryz.ntmps74
  go_wp2_with fail
  refine (name_any n _).mono ?_;rintro e w1 ⟨rfl,hb1⟩;rw[ha];have HB1:Hid (Below w.heap.size w w1):=HB0.out.trans (hb1.mono HB0.out.size);clear hb1 HC;go_wp2;go_ret;exact⟨rfl,HB1.out⟩
 go_enter Tryz.func74,Tryz.ntmps74
 go_wp2_with fail
 refine (name_any n _).mono ?_;rintro e w1 ⟨rfl,hb1⟩;rw[ha];have HB1:Hid (Below w.heap.size w w1):=HB0.out.trans (hb1.mono HB0.out.size);obtain⟨c0,c1,c2⟩:=hst_cells (HC.later hb1);simp only[Nat.zero_add] at c0 c1 c2;clear hb1 HC
 go_wp2_with fail
 refine (isSpot_any S x0 x1 _).mono ?_;rintro e w2 ⟨rfl,hb2⟩;rw[hb];have HB2:Hid (Below w.heap.size w w2):=HB1.out.trans (hb2.mono HB1.out.size);clear hb2;go_wp2;go_ret;exact⟨rfl,HB2.out⟩
theorem settle_any (S:Int)(n:ByteArray)(x0 x1:Int)(B C:Nat)(hBC:B≠C)(M:HpQ)(R:List (ByteArray×Int))(U:List (Int×Int))(Z:List ByteArray)(w:World)(hM:MAt spotKey veI w B M)(hR:MAt strKey veI w C R)(hT:TK sq M U)(hZ:TK (fun a b=>a==b) R Z)(hU:U.length≤1000)(hZl:Z.length≤1000):
 Calls Tryz.prog 74 #[.int .i64 S,.map (some B),.map (some C),.agg #[.string n,.int .i64 x0,.int .i64 x1]] w fun e w'=>e=.returned (noV (ho1 S Z U (n,(x0,x1))))∧SetQ w w' B C (ho1 S Z U (n,(x0,x1))) (U++[(x0,x1)]) (Z++[n]):=by
 cases ha:nmB n
 ·have e1:ho1 S Z U (n,(x0,x1))=2:=by simp only[ho1,ha,Bool.false_eq_true,if_false]
  rw[e1];refine (settle_bad S n x0 x1 B C 2 w (.inl ⟨ha,rfl⟩)).mono ?_;rintro e w' ⟨rfl,hb⟩;exact⟨rfl,M,R,hM.later hb,hR.later hb,fun e=>absurd e (by decide),But.of_below hb⟩
 cases hb:spB S (x0,x1)
 ·have e1:ho1 S Z U (n,(x0,x1))=1:=by simp only[ho1,ha,hb,Bool.false_eq_true,if_false,if_true]
  rw[e1];refine (settle_bad S n x0 x1 B C 1 w (.inr ⟨ha,hb,rfl⟩)).mono ?_;rintro e w' ⟨rfl,hb⟩;exact⟨rfl,M,R,hM.later hb,hR.later hb,fun e=>absurd e (by decide),But.of_below hb⟩
 exact settle_ok S n x0 x1 B C hBC M R U Z w hM hR hT hZ hU hZl ha hb _ rfl
def TBox (W:World)(g:Nat)(S:Int)(v1 v2:Value):Prop:=W.cell? ⟨g,0,none⟩=some (.int .i64 S)∧W.cell? ⟨g,1,none⟩=some v1∧W.cell? ⟨g,2,none⟩=some v2
theorem tbox_new (w:World)(S:Int)(v1 v2:Value)(t:TypeId):TBox (w.alloc (Obj.cells #[.int .i64 S,v1,v2] t)) w.heap.size S v1 v2:=by
 refine⟨?_,?_,?_⟩ <;> simp
theorem TBox.lt {W:World}{g:Nat}{S:Int}{v1 v2:Value}(h:TBox W g S v1 v2):g<W.heap.size:=bLQ _ _ h.1
theorem TBox.but {X:List Nat}{W W':World}{g:Nat}{S:Int}{v1 v2:Value}(h:TBox W g S v1 v2)(hb:But X W W')(hX:g ∉ X):TBox W' g S v1 v2:=
 ⟨(hb.cell (p:=⟨g,0,none⟩) h.lt hX).trans h.1,(hb.cell (p:=⟨g,1,none⟩) h.lt hX).trans h.2.1,(hb.cell (p:=⟨g,2,none⟩) h.lt hX).trans h.2.2⟩
theorem TBox.later {W W':World}{g:Nat}{S:Int}{v1 v2:Value}(h:TBox W g S v1 v2)(hb:Below W.heap.size W W'):TBox W' g S v1 v2:=h.but (X:=[]) (But.of_below hb) (by simp)
theorem tcheck_range (S:Int)(v1 v2:Value)(w:World)(h:¬(1≤S∧S≤6)):
 Calls Tryz.prog 46 #[.agg #[.int .i64 S,v1,v2]] w fun e w'=>e=.returned (.iface 63 (.int .i64 1))∧Below w.heap.size w w':=by
 have HB0:Hid (Below w.heap.size w (w.alloc (Obj.cells #[.int .i64 S,v1,v2] 25))):=(Below.refl _ _).alloc (Nat.le_refl _) _;by_cases h1:S<1
 ·clear h;go_enter Tryz.func46,Tryz.ntmps46;go_wp2;go_ret;exact⟨rfl,HB0.out⟩
 have h6:6<S:=by omega
 clear h;go_enter Tryz.func46,Tryz.ntmps46;go_wp2;go_ret;exact⟨rfl,HB0.out⟩
theorem check_full (S:Int)(ao:Option Addr)(n cap:Nat)(ao2:Option Addr)(n2 cap2:Nat)(w:World)(h1:1≤S)(h6:S≤6)(h:200<n∨8<n2):
 Calls Tryz.prog 46 #[.agg #[.int .i64 S,.slice ao n cap,.slice ao2 n2 cap2]] w fun e w'=>e=.returned (.iface 63 (.int .i64 4))∧Below w.heap.size w w':=by
 have HB0:Hid (Below w.heap.size w (w.alloc (Obj.cells #[.int .i64 S,.slice ao n cap,.slice ao2 n2 cap2] 25))):=(Below.refl _ _).alloc (Nat.le_refl _) _;have g1:¬S<1:=by omega
 have g6:¬6<S:=by omega
 by_cases hn:(200:Int)<(n:Int)
 ·clear h;go_enter Tryz.func46,Tryz.ntmps46;go_wp2;go_ret;exact⟨rfl,HB0.out⟩
 have hn2:(8:Int)<(n2:Int):=by omega
 clear h;go_enter Tryz.func46,Tryz.ntmps46;go_wp2;go_ret;exact⟨rfl,HB0.out⟩
theorem check_walk (S:Int)(ao:Option Addr)(n cap:Nat)(ao2:Option Addr)(n2 cap2:Nat)(Ls:LkQ)(Hs:HoQ)(w:World)
 (hL:GS lnkE w (.slice ao n cap) Ls) (hH:GS hstE w (.slice ao2 n2 cap2) Hs) (h1:1≤S) (h6:S≤6) (hn:n≤200) (hn2:n2≤8) (T:Int) (hT:T=tpN S Ls Hs):
 Calls Tryz.prog 46 #[.agg #[.int .i64 S,.slice ao n cap,.slice ao2 n2 cap2]] w fun e w'=>e=.returned (noV T)∧Below w.heap.size w w':=by
 obtain⟨_,_,_,e1,hLn,_,_,hLa⟩:=hL.form;cases e1;obtain⟨_,_,_,e2,hHn,_,_,hHa⟩:=hH.form;cases e2;have HLN:Hid (Ls.length=n):=hLn;have HHN:Hid (Hs.length=n2):=hHn;have HLA:Hid (0<n→∃g o,ao=some ⟨g,o,none⟩∧GAt lnkE w g o Ls∧cap≤maxLen):=hLa;have HHA:Hid (0<n2→∃g o,ao2=some ⟨g,o,none⟩∧GAt hstE w g o Hs∧cap2≤maxLen):=hHa;have HT:Hid (T=if lkN S Ls []=0 then hoN S Hs [] (spsL Ls) else lkN S Ls []):=by
  show T=_;rw[hT,tpN,if_pos (by simp[h1,h6]),if_pos (by simp[hLn,hHn,hn,hn2])]
 have g1:¬S<1:=by omega
 have g6:¬6<S:=by omega
 have gn:¬(200:Int)<(n:Int):=by omega
 have gn2:¬(8:Int)<(n2:Int):=by omega
 clear hL hH hLn hHn hLa hHa hT h1 h6;have hX:=tbox_new w S (.slice ao n cap) (.slice ao2 n2 cap2) 25;have hB0:Below w.heap.size w (w.alloc (Obj.cells #[.int .i64 S,.slice ao n cap,.slice ao2 n2 cap2] 25)):=(Below.refl _ _).alloc (Nat.le_refl _) _;have HX:Hid (TBox (w.alloc (Obj.cells #[.int .i64 S,.slice ao n cap,.slice ao2 n2 cap2] 25)) w.heap.size S (.slice ao n cap) (.slice ao2 n2 cap2)):=hX;have HB0:Hid (Below w.heap.size w (w.alloc (Obj.cells #[.int .i64 S,.slice ao n cap,.slice ao2 n2 cap2] 25))):=hB0;have hsz0:(w.alloc (Obj.cells #[.int .i64 S,.slice ao n cap,.slice ao2 n2 cap2] 25)).heap.size=w.heap.size+1:=by simp
 clear hX hB0;go_enter Tryz.func46,Tryz.ntmps46;go_upto_region 5 with fail
 generalize hw0:w.alloc (Obj.cells #[.int .i64 S,.slice ao n cap,.slice ao2 n2 cap2] 25)=w0 at *
 have HW0:Hid (w.alloc (Obj.cells #[.int .i64 S,.slice ao n cap,.slice ao2 n2 cap2] 25)=w0):=hw0;have HSZ0:Hid (w0.heap.size=w.heap.size+1):=hsz0;clear hw0 hsz0;have hmk:=run_makeMap (P:=Tryz.prog) 154 w0;have HM1:Hid (MAt spotKey veI (w0.alloc (.map #[] 0)) w0.heap.size []):=mat_new spotKey veI w0;have hbm:Below w0.heap.size w0 (w0.alloc (.map #[] 0)):=(Below.refl _ _).alloc (Nat.le_refl _) _;have HX1:Hid (TBox (w0.alloc (.map #[] 0)) w.heap.size S (.slice ao n cap) (.slice ao2 n2 cap2)):=HX.out.later hbm;have HB1:Hid (Below w.heap.size w (w0.alloc (.map #[] 0))):=HB0.out.trans (hbm.mono HB0.out.size);clear hbm;obtain⟨d0,d1,d2⟩:=HX1.out;go_wp2;clear d0 d1 d2;obtain⟨w1,hw1⟩:∃x,w0.alloc (.map #[] 0)=x:=⟨_,rfl⟩;obtain⟨B,hBe⟩:∃x,w0.heap.size=x:=⟨_,rfl⟩;rw[hw1] at HX1 HB1;rw[hw1,hBe] at HM1 ⊢;have HBW:Hid (B=w.heap.size+1):=by
  show B=_;rw[←hBe,HSZ0.out]
 have HSZ1:Hid (w1.heap.size=w.heap.size+2):=by
  show _=_;rw[←hw1];have:=HSZ0.out;simp[this]
 clear hw1 hBe hmk HSZ0 HW0 HX HB0
 go_loopw [35] (fun i wr=>∃k:Nat,k≤n∧i=.int .i64 k∧(∃M,MAt spotKey veI wr B M∧TK sq M (spsL (Ls.take k)))∧lkN S Ls []=lkN S (Ls.drop k) (spsL (Ls.take k))∧But [B] w1 wr)
  (fun i _=>n-(intOf i).toNat)
 case atStart=>exact⟨0,by omega,rfl,⟨[],HM1.out,by simpa[spsL] using tk_nil sq⟩,by simp[spsL],But.refl _ _⟩
 case round =>
  obtain⟨k,hk,rfl,⟨M,hM,hTK⟩,hlk,hBt⟩:=hrel;have hnB:w.heap.size ∉ [B]:=by simp[HBW.out]
  have hXr:=HX1.out.but hBt hnB;have hBw:Below w.heap.size w wr:=HB1.out.trans (hBt.below (by rw[HSZ1.out];omega) (by simp[HBW.out]));have HXr:Hid (TBox wr w.heap.size S (.slice ao n cap) (.slice ao2 n2 cap2)):=hXr;have HBw:Hid (Below w.heap.size w wr):=hBw;have HM:Hid (MAt spotKey veI wr B M):=hM;have HTK:Hid (TK sq M (spsL (Ls.take k))):=hTK;have HLK:Hid (lkN S Ls []=lkN S (Ls.drop k) (spsL (Ls.take k))):=hlk;have HBt:Hid (But [B] w1 wr):=hBt;obtain⟨b0,b1,b2⟩:=hXr;have hlw:w.heap.size<wr.heap.size:=bLQ _ _ b0;clear hM hTK hlk hBt HM1;by_cases hlt:k<n
  ·obtain⟨g,o,hao,hc,_⟩:=HLA.out (by omega);subst hao;obtain⟨x0,x1,x2,x3,hkl,hLk,q0,q1,q2,q3⟩:=lnk_at (hc.later hBw) HLN.out hlt;have HLk:Hid (Ls[k]=((x0,x1),(x2,x3))):=hLk;have hBA:Below wr.heap.size wr (wr.alloc (Obj.cells #[.int .i64 x0,.int .i64 x1,.int .i64 x2,.int .i64 x3] 78)):=(Below.refl _ _).alloc (Nat.le_refl _) _;have HBA:Hid (Below wr.heap.size wr (wr.alloc (Obj.cells #[.int .i64 x0,.int .i64 x1,.int .i64 x2,.int .i64 x3] 78))):=hBA;have HUL:Hid ((spsL (Ls.take k)).length≤1000):=by
    show _≤1000;rw[sps_len,List.length_take];omega
   have HST:Hid (lkN S Ls []=if lk1 S (spsL (Ls.take k)) ((x0,x1),(x2,x3))=0 then lkN S (Ls.drop (k+1)) (spsL (Ls.take (k+1))) else lk1 S (spsL (Ls.take k)) ((x0,x1),(x2,x3))):=by
    show _=_;rw[HLK.out,List.drop_eq_getElem_cons hkl,lk_step,hLk,sps_take hkl,hLk]
   have HSP:Hid (spsL (Ls.take (k+1))=spsL (Ls.take k)++[(x0,x1),(x2,x3)]):=by
    show _=_;rw[sps_take hkl,hLk]
   clear hLk hBA hBw hc HLA
   go_wp2_with fail
   refine (lay_any S x0 x1 x2 x3 B M _ _ (HM.out.later HBA.out) HTK.out HUL.out).mono ?_;rintro e w3 ⟨rfl,hQ⟩;have hst:=HST.out
   generalize lk1 S (spsL (Ls.take k)) ((x0,x1),(x2,x3))=N at hQ hst ⊢
   have HST2:Hid (lkN S Ls []=if N=0 then lkN S (Ls.drop (k+1)) (spsL (Ls.take (k+1))) else N):=hst;obtain⟨M',hM',hTK',hBt'⟩:=hQ;have HM':Hid (MAt spotKey veI w3 B M'):=hM';have HTK':Hid (N=0→TK sq M' (spsL (Ls.take (k+1)))):=fun h=>by rw[HSP.out];exact hTK' h
   have HBt3:Hid (But [B] w1 w3):=(HBt.out.trans (But.of_below HBA.out)).trans hBt';have HBw3:Hid (Below w.heap.size w w3):=HB1.out.trans (HBt3.out.below (by rw[HSZ1.out];omega) (by simp[HBW.out]));clear hst HST hM' hTK' hBt' HSP HM HTK HLK HBt HBA HUL b0 b1 b2 q0 q1 q2 q3;by_cases hN:N=0
   ·subst hN;rw[no_ok rfl];have HTK2:Hid (TK sq M' (spsL (Ls.take (k+1)))):=HTK'.out rfl;have HLK2:Hid (lkN S Ls []=lkN S (Ls.drop (k+1)) (spsL (Ls.take (k+1)))):=by
     show _=_;rw[HST2.out,if_pos rfl]
    clear HTK' HST2;go_wp2;go_roundw
    case rel=>exact⟨k+1,by omega,by go_num,⟨M',HM'.out,HTK2.out⟩,HLK2.out,HBt3.out⟩
    case measure=>simp[intOf];omega
   rw[no_ne hN];have HTN:Hid (T=N):=by
    show _=_;have e:=HST2.out;rw[if_neg hN] at e;rw[HT.out,e,if_neg hN]
   have HNN:Hid (N≠0):=hN;clear hN HTK' HST2;go_wp2;go_ret;exact⟨by rw[HTN.out,no_ne HNN.out];rfl,HBw3.out⟩
  obtain rfl:k=n:=by omega
  have HLK0:Hid (lkN S Ls []=0):=by
   show _=_;rw[HLK.out,←HLN.out,List.drop_length];rfl
  have HTKL:Hid (TK sq M (spsL Ls)):=by
   show TK _ _ _;have h:=HTK.out;rw[←HLN.out,List.take_length] at h;exact h
  have HTL:Hid (T=hoN S Hs [] (spsL Ls)):=by
   show _=_;rw[HT.out,if_pos HLK0.out]
  have hwr:=HBt.out.size;rw[HSZ1.out] at hwr;obtain⟨w5,hw5⟩:∃x,x=wr:=⟨_,rfl⟩;subst hw5;have HWR:Hid (w.heap.size+2≤w5.heap.size):=hwr;clear HLK HTK HT HLK0 hBw hwr;go_upto_region 13 with fail;have hmk:=run_makeMap (P:=Tryz.prog) 156 w5;have hbm:Below w5.heap.size w5 (w5.alloc (.map #[] 0)):=(Below.refl _ _).alloc (Nat.le_refl _) _;have HM2:Hid (MAt spotKey veI (w5.alloc (.map #[] 0)) B M):=HM.out.later hbm;have HR2:Hid (MAt strKey veI (w5.alloc (.map #[] 0)) w5.heap.size []):=mat_new strKey veI w5;have hX2:TBox (w5.alloc (.map #[] 0)) w.heap.size S (.slice ao k cap) (.slice ao2 n2 cap2):=HXr.out.later hbm;have HX2:Hid (TBox (w5.alloc (.map #[] 0)) w.heap.size S (.slice ao k cap) (.slice ao2 n2 cap2)):=hX2;have HB2:Hid (Below w.heap.size w (w5.alloc (.map #[] 0))):=HBw.out.trans (hbm.mono HBw.out.size);obtain⟨d0,d1,d2⟩:=hX2;clear hbm b0 b1 b2 HXr HBw HM HBt HX1 HB1;go_wp2;obtain⟨w6,hw6⟩:∃x,w5.alloc (.map #[] 0)=x:=⟨_,rfl⟩;obtain⟨C,hCe⟩:∃x,w5.heap.size=x:=⟨_,rfl⟩;rw[hw6] at HM2 HX2 HB2 d0 d1 d2;rw[hw6,hCe] at HR2 ⊢;have HC2:Hid (w.heap.size+2≤C):=by
   show _≤_;rw[←hCe];exact HWR.out
  have HSZ6:Hid (w6.heap.size=C+1):=by
   show _=_;rw[←hw6,←hCe];simp
  clear hw6 hCe hmk HWR
  go_loopw [52] (fun i wr=>∃j:Nat,j≤n2∧i=.int .i64 j∧(∃M R,MAt spotKey veI wr B M∧MAt strKey veI wr C R∧TK sq M (spsL Ls++(Hs.take j).map (·.2))∧TK (fun a b=>a==b) R ((Hs.take j).map (·.1)))∧hoN S Hs [] (spsL Ls)=hoN S (Hs.drop j) ((Hs.take j).map (·.1)) (spsL Ls++(Hs.take j).map (·.2))∧But [B,C] w6 wr)
   (fun i _=>n2-(intOf i).toNat)
  case atStart=>exact⟨0,by omega,rfl,⟨M,[],HM2.out,HR2.out,by simpa using HTKL.out,tk_nil _⟩,by simp,But.refl _ _⟩
  case round =>
   obtain⟨j,hj,rfl,⟨M3,R3,hM3,hR3,hTM3,hTR3⟩,hho,hBt⟩:=hrel;have hnX:w.heap.size ∉ [B,C]:=by
    have h1:=HBW.out;have h2:=HC2.out;simp only[List.mem_cons,List.not_mem_nil,or_false,not_or];omega
   have hBC:B≠C:=by
    have h1:=HBW.out;have h2:=HC2.out;omega
   have hXr:=HX2.out.but hBt hnX;have hge:∀x∈[B,C],w.heap.size≤x:=by
    have h1:=HBW.out;have h2:=HC2.out;intro x hx;simp only[List.mem_cons,List.not_mem_nil,or_false] at hx;omega
   have hsz6:w.heap.size≤w6.heap.size:=HB2.out.size;have HGE:Hid (∀x∈[B,C],w.heap.size≤x):=hge;have hBw:Below w.heap.size w wr:=HB2.out.trans (hBt.below hsz6 hge);have HBw:Hid (Below w.heap.size w wr):=hBw;have HM3:Hid (MAt spotKey veI wr B M3):=hM3;have HR3:Hid (MAt strKey veI wr C R3):=hR3;have HTM3:Hid (TK sq M3 (spsL Ls++(Hs.take j).map (·.2))):=hTM3;have HTR3:Hid (TK (fun a b=>a==b) R3 ((Hs.take j).map (·.1))):=hTR3;have HHO:Hid (hoN S Hs [] (spsL Ls)=hoN S (Hs.drop j) ((Hs.take j).map (·.1)) (spsL Ls++(Hs.take j).map (·.2))):=hho;have HBt:Hid (But [B,C] w6 wr):=hBt;have HBC:Hid (B≠C):=hBC;obtain⟨b0,b1,b2⟩:=hXr;have hlw:w.heap.size<wr.heap.size:=bLQ _ _ b0;clear hM3 hR3 hTM3 hTR3 hho hBt HM2 HR2 hnX hge hBC d0 d1 d2;by_cases hlt2:j<n2
   ·obtain⟨g,o,hao,hc,_⟩:=HHA.out (by omega);subst hao;obtain⟨y0,y1,y2,hjl,hHk,q0,q1,q2⟩:=hst_at (hc.later hBw) HHN.out hlt2;have HHk:Hid (Hs[j]=(y0,(y1,y2))):=hHk;have HBA:Hid (Below wr.heap.size wr (wr.alloc (Obj.cells #[Value.string y0,.int .i64 y1,.int .i64 y2] 33))):=(Below.refl _ _).alloc (Nat.le_refl _) _;have HUL:Hid ((spsL Ls++(Hs.take j).map (·.2)).length≤1000):=by
     show _≤1000;rw[List.length_append,sps_len,List.length_map,List.length_take,HLN.out];omega
    have HZL:Hid (((Hs.take j).map (·.1)).length≤1000):=by
     show _≤1000;rw[List.length_map,List.length_take];omega
    have HS2:Hid (spsL Ls++(Hs.take (j+1)).map (·.2)=(spsL Ls++(Hs.take j).map (·.2))++[(y1,y2)]):=by
     show _=_;rw[List.take_succ_eq_append_getElem hjl,hHk];simp
    have HS1:Hid ((Hs.take (j+1)).map (·.1)=(Hs.take j).map (·.1)++[y0]):=by
     show _=_;rw[List.take_succ_eq_append_getElem hjl,hHk];simp
    have HST:Hid (hoN S Hs [] (spsL Ls)=if ho1 S ((Hs.take j).map (·.1)) (spsL Ls++(Hs.take j).map (·.2)) (y0,(y1,y2))=0 then hoN S (Hs.drop (j+1)) ((Hs.take (j+1)).map (·.1)) (spsL Ls++(Hs.take (j+1)).map (·.2)) else ho1 S ((Hs.take j).map (·.1)) (spsL Ls++(Hs.take j).map (·.2)) (y0,(y1,y2))):=by
     show _=_;rw[HHO.out,List.drop_eq_getElem_cons hjl,ho_step,hHk,HS1.out,HS2.out]
    clear hHk hBw hc HHA HLA
    go_wp2_with fail
    refine (settle_any S y0 y1 y2 B C HBC.out M3 R3 _ _ _ (HM3.out.later HBA.out) (HR3.out.later HBA.out) HTM3.out HTR3.out HUL.out HZL.out).mono ?_;rintro e w3 ⟨rfl,hQ⟩;have hst:=HST.out
    generalize ho1 S ((Hs.take j).map (·.1)) (spsL Ls++(Hs.take j).map (·.2)) (y0,(y1,y2))=N at hQ hst ⊢
    have HST2:Hid (hoN S Hs [] (spsL Ls)=if N=0 then hoN S (Hs.drop (j+1)) ((Hs.take (j+1)).map (·.1)) (spsL Ls++(Hs.take (j+1)).map (·.2)) else N):=hst;obtain⟨M',R',hM',hR',hTK',hBt'⟩:=hQ;have HM':Hid (MAt spotKey veI w3 B M'):=hM';have HR':Hid (MAt strKey veI w3 C R'):=hR';have HTK':Hid (N=0→TK sq M' (spsL Ls++(Hs.take (j+1)).map (·.2))∧TK (fun a b=>a==b) R' ((Hs.take (j+1)).map (·.1))):=fun h=>by rw[HS1.out,HS2.out];exact hTK' h
    have HBt3:Hid (But [B,C] w6 w3):=(HBt.out.trans (But.of_below HBA.out)).trans hBt';have HBw3:Hid (Below w.heap.size w w3):=HB2.out.trans (HBt3.out.below HB2.out.size HGE.out);clear hst HST hM' hR' hTK' hBt' HS1 HS2 HM3 HR3 HTM3 HTR3 HHO HBt HBA HUL HZL b0 b1 b2 q0 q1 q2;by_cases hN:N=0
    ·subst hN;rw[no_ok rfl];have HTK2:Hid (TK sq M' (spsL Ls++(Hs.take (j+1)).map (·.2))∧TK (fun a b=>a==b) R' ((Hs.take (j+1)).map (·.1))):=HTK'.out rfl;have HHO2:Hid (hoN S Hs [] (spsL Ls)=hoN S (Hs.drop (j+1)) ((Hs.take (j+1)).map (·.1)) (spsL Ls++(Hs.take (j+1)).map (·.2))):=by
      show _=_;rw[HST2.out,if_pos rfl]
     clear HTK' HST2;go_wp2;go_roundw
     case rel=>exact⟨j+1,by omega,by go_num,⟨M',R',HM'.out,HR'.out,HTK2.out.1,HTK2.out.2⟩,HHO2.out,HBt3.out⟩
     case measure=>simp[intOf];omega
    rw[no_ne hN];have HTN:Hid (T=N):=by
     show _=_;rw[HTL.out,HST2.out,if_neg hN]
    have HNN:Hid (N≠0):=hN;clear hN HTK' HST2;go_wp2;go_ret;exact⟨by rw[HTN.out,no_ne HNN.out];rfl,HBw3.out⟩
   obtain rfl:j=n2:=by omega
   have HT0:Hid (T=0):=by
    show _=_;rw[HTL.out,HHO.out,←HHN.out,List.drop_length];rfl
   clear hBw HHO HTM3 HTR3;go_wp2;go_ret;exact⟨by rw[HT0.out,no_ok rfl];rfl,HBw.out⟩
theorem check_any (S:Int)(ao:Option Addr)(n cap:Nat)(ao2:Option Addr)(n2 cap2:Nat)(Ls:LkQ)(Hs:HoQ)(w:World)
 (hL:GS lnkE w (.slice ao n cap) Ls) (hH:GS hstE w (.slice ao2 n2 cap2) Hs):
 Calls Tryz.prog 46 #[.agg #[.int .i64 S,.slice ao n cap,.slice ao2 n2 cap2]] w fun e w'=>e=.returned (noV (tpN S Ls Hs))∧Below w.heap.size w w':=by
 have hLn:=hL.len;have hHn:=hH.len;by_cases h1:1≤S∧S≤6
 ·by_cases h2:n≤200∧n2≤8
  ·exact check_walk S ao n cap ao2 n2 cap2 Ls Hs w hL hH h1.1 h1.2 h2.1 h2.2 _ rfl
  have e:tpN S Ls Hs=4:=by
   rw[tpN,if_pos (by simp[h1]),if_neg (by rw[hLn,hHn];simpa using fun h=>Nat.lt_of_not_le fun h3=>h2 ⟨h,h3⟩)]
  rw[e];exact check_full S ao n cap ao2 n2 cap2 w h1.1 h1.2 (by omega)
 have e:tpN S Ls Hs=1:=by
  rw[tpN,if_neg (by simpa using fun h=>Int.lt_of_not_ge fun h3=>h1 ⟨h,h3⟩)]
 rw[e];exact tcheck_range S _ _ w h1
theorem hstB_iff (a b:ByteArray×(Int×Int)):hstB a b=true↔a=b:=by
 obtain⟨a0,a1,a2⟩:=a;obtain⟨b0,b1,b2⟩:=b;simp only[hstB,Bool.and_eq_true,beq_iff_eq,Prod.mk.injEq,ba_iff]
def tpB (S S':Int)(Ls Ls':LkQ)(Hs Hs':HoQ):Bool:=decide (S=S')&&(smG lnkB Ls Ls'&&smG hstB Hs Hs')
theorem tpB_iff {S S':Int}{Ls Ls':LkQ}{Hs Hs':HoQ}:tpB S S' Ls Ls' Hs Hs'=true↔S=S'∧Ls=Ls'∧Hs=Hs':=by
 simp only[tpB,Bool.and_eq_true,decide_eq_true_eq,smG_eq lnkB_iff,smG_eq hstB_iff]
def HC (w:World)(B:Nat)(S S':Int)(a1 a2 b1 b2:Value)(g o:Nat)(x0:ByteArray)(x1 x2:Int)(g' o':Nat)(y0:ByteArray)(y1 y2:Int)(w':World):Prop:=
 Below w.heap.size w w'∧TBox w' B S a1 a2∧TBox w' (B+1) S' b1 b2∧(w'.cell? ⟨g,o,none⟩=some (.string x0)∧w'.cell? ⟨g,o+1,none⟩=some (.int .i64 x1)∧w'.cell? ⟨g,o+2,none⟩=some (.int .i64 x2)) ∧
  w'.cell? ⟨g',o',none⟩=some (.string y0)∧w'.cell? ⟨g',o'+1,none⟩=some (.int .i64 y1)∧w'.cell? ⟨g',o'+2,none⟩=some (.int .i64 y2)
theorem HC.later {w W W':World}{B:Nat}{S S':Int}{a1 a2 b1 b2:Value}{g o:Nat}{x0:ByteArray}{x1 x2:Int}{g' o':Nat}{y0:ByteArray}{y1 y2:Int}(hb:Below W.heap.size W W')(h:HC w B S S' a1 a2 b1 b2 g o x0 x1 x2 g' o' y0 y1 y2 W):HC w B S S' a1 a2 b1 b2 g o x0 x1 x2 g' o' y0 y1 y2 W':=by
 obtain⟨h0,t1,t2,⟨h1,h2,h3⟩,k1,k2,k3⟩:=h;exact⟨h0.trans (hb.mono h0.size),t1.later hb,t2.later hb,⟨cell_later hb h1,cell_later hb h2,cell_later hb h3⟩,cell_later hb k1,cell_later hb k2,cell_later hb k3⟩
def TT (W:World)(B:Nat)(S S':Int)(a1 a2 b1 b2:Value):Prop:=TBox W B S a1 a2∧TBox W (B+1) S' b1 b2
theorem tt_new (w:World)(S S':Int)(a1 a2 b1 b2:Value)(t:TypeId):TT ((w.alloc (Obj.cells #[.int .i64 S,a1,a2] t)).alloc (Obj.cells #[.int .i64 S',b1,b2] t)) w.heap.size S S' a1 a2 b1 b2:=by
 refine⟨(tbox_new w S a1 a2 t).later ((Below.refl _ _).alloc (Nat.le_refl _) _),?_⟩;have:=tbox_new (w.alloc (Obj.cells #[.int .i64 S,a1,a2] t)) S' b1 b2 t;simpa using this
theorem TT.later {W W':World}{B:Nat}{S S':Int}{a1 a2 b1 b2:Value}(h:TT W B S S' a1 a2 b1 b2)(hb:Below W.heap.size W W'):TT W' B S S' a1 a2 b1 b2:=⟨h.1.later hb,h.2.later hb⟩
theorem bcell {W w1:World}(hb:Below W.heap.size W w1):(∀b o,b<W.heap.size→w1.cell? ⟨b,o,none⟩=W.cell? ⟨b,o,none⟩)∧(∀b o,b<W.heap.size→w1.frozen? ⟨b,o,none⟩=W.frozen? ⟨b,o,none⟩):=
 ⟨fun b o h=>hb.cell (p:=⟨b,o,none⟩) h,fun b o h=>hb.frozen (p:=⟨b,o,none⟩) h⟩
theorem isHeader_yes (n:Int)(w:World)(h:hdrB n=true):
 Calls Tryz.prog 93 #[.int .i64 n] w fun e w'=>e=.returned (.bool true)∧w'=w:=by
 obtain⟨h1,h2⟩:=hdr_of h;clear h;go_enter Tryz.func93,Tryz.ntmps93;go_wp2;go_ret;exact⟨rfl,rfl⟩
theorem isHeader_no (n:Int)(w:World)(h:hdrB n=false):
 Calls Tryz.prog 93 #[.int .i64 n] w fun e w'=>e=.returned (.bool false)∧w'=w:=by
 rcases hdr_no h with h1 | h1
 ·clear h;go_enter Tryz.func93,Tryz.ntmps93;go_wp2;go_ret;exact⟨rfl,rfl⟩
 have h2:0≤n:=by omega
 have h3:decide (n<16)=false:=by simp;omega
 clear h;go_enter Tryz.func93,Tryz.ntmps93;go_wp2;go_ret;exact⟨rfl,rfl⟩
theorem check_range (m b:Int)(w:World)(h:rngB m b=false):
 Calls Tryz.prog 94 #[.agg #[.int .i64 m,.int .i64 b]] w fun e w'=>e=.returned (.iface 63 (.int .i64 1))∧Below w.heap.size w w':=by
 by_cases hm:hdrB m=true
 ·have hb:hdrB b=false:=by simpa[rngB,hm] using h
  clear h;go_enter Tryz.func94,Tryz.ntmps94
  go_wp2_with fail
  refine (isHeader_yes _ _ hm).mono ?_;rintro e w' ⟨rfl,rfl⟩
  go_wp2_with fail
  refine (isHeader_no _ _ hb).mono ?_;rintro e w' ⟨rfl,rfl⟩;go_wp2;go_ret;exact⟨rfl,(Below.refl _ _).alloc (Nat.le_refl _) _⟩
 have hm':hdrB m=false:=by simpa using hm
 clear h hm;go_enter Tryz.func94,Tryz.ntmps94
 go_wp2_with fail
 refine (isHeader_no _ _ hm').mono ?_;rintro e w' ⟨rfl,rfl⟩;go_wp2;go_ret;exact⟨rfl,(Below.refl _ _).alloc (Nat.le_refl _) _⟩
theorem check_shape (m b:Int)(w:World)(h:rngB m b=true)(h2:okB m b=false):
 Calls Tryz.prog 94 #[.agg #[.int .i64 m,.int .i64 b]] w fun e w'=>e=.returned (.iface 63 (.int .i64 3))∧Below w.heap.size w w':=by
 have hm:hdrB m=true:=by simp only[rngB,Bool.and_eq_true] at h;exact h.1
 have hb:hdrB b=true:=by simp only[rngB,Bool.and_eq_true] at h;exact h.2
 have hz:(bits .andNot .i64 b m==0)=false:=by simpa[okB,h] using h2
 clear h h2;go_enter Tryz.func94,Tryz.ntmps94
 go_wp2_with fail
 refine (isHeader_yes _ _ hm).mono ?_;rintro e w' ⟨rfl,rfl⟩
 go_wp2_with fail
 refine (isHeader_yes _ _ hb).mono ?_;rintro e w' ⟨rfl,rfl⟩;go_wp2;go_ret;exact⟨rfl,(Below.refl _ _).alloc (Nat.le_refl _) _⟩
theorem check_ok (m b:Int)(w:World)(h:okB m b=true):
 Calls Tryz.prog 94 #[.agg #[.int .i64 m,.int .i64 b]] w fun e w'=>e=.returned .nilIface∧Below w.heap.size w w':=by
 have hm:hdrB m=true:=hdr_mk (ok_of h).1;have hb:hdrB b=true:=hdr_mk (ok_of h).2;have hz:(bits .andNot .i64 b m==0)=true:=by simp only[okB,Bool.and_eq_true] at h;exact h.2
 clear h;go_enter Tryz.func94,Tryz.ntmps94
 go_wp2_with fail
 refine (isHeader_yes _ _ hm).mono ?_;rintro e w' ⟨rfl,rfl⟩
 go_wp2_with fail
 refine (isHeader_yes _ _ hb).mono ?_;rintro e w' ⟨rfl,rfl⟩;go_wp2;go_ret;exact⟨rfl,(Below.refl _ _).alloc (Nat.le_refl _) _⟩
theorem isRight_any (m b:Int)(w:World):
 Calls Tryz.prog 114 #[.agg #[.int .i64 m,.int .i64 b]] w fun e w'=>e=.returned (.bool (okB m b))∧Below w.heap.size w w':=by
 cases hr:rngB m b
 ·have ho:okB m b=false:=by simp[okB,hr]
  rw[ho];clear ho;go_enter Tryz.func114,Tryz.ntmps114
  go_wp2_with fail
  refine (check_range _ _ _ hr).mono ?_;rintro e w' ⟨rfl,hb⟩;go_wp2;go_ret;exact⟨rfl,((Below.refl _ _).alloc (Nat.le_refl _) _).trans (hb.mono (by simp))⟩
 cases ho:okB m b
 ·go_enter Tryz.func114,Tryz.ntmps114
  go_wp2_with fail
  refine (check_shape _ _ _ hr ho).mono ?_;rintro e w' ⟨rfl,hb⟩;go_wp2;go_ret;exact⟨rfl,((Below.refl _ _).alloc (Nat.le_refl _) _).trans (hb.mono (by simp))⟩
 go_enter Tryz.func114,Tryz.ntmps114
 go_wp2_with fail
 refine (check_ok _ _ _ ho).mono ?_;rintro e w' ⟨rfl,hb⟩;go_wp2;go_ret;exact⟨rfl,((Below.refl _ _).alloc (Nat.le_refl _) _).trans (hb.mono (by simp))⟩
theorem isHeader_any (n:Int)(w:World):
 Calls Tryz.prog 93 #[.int .i64 n] w fun e w'=>e=.returned (.bool (hdrB n))∧w'=w:=by
 cases h:hdrB n
 ·exact isHeader_no n w h
 exact isHeader_yes n w h
theorem has_any (m b h:Int)(w:World):
 Calls Tryz.prog 111 #[.agg #[.int .i64 m,.int .i64 b],.int .i64 h] w fun e w'=>e=.returned (.bool (hasB m b h))∧Below w.heap.size w w':=by
 cases ho:okB m b
 ·have e:hasB m b h=false:=by simp[hasB,ho]
  rw[e];clear e;go_enter Tryz.func111,Tryz.ntmps111
  go_wp2_with fail
  refine (isRight_any _ _ _).mono ?_;rintro e w1 ⟨rfl,hb1⟩;go_wp2;go_ret;exact⟨rfl,((Below.refl _ _).alloc (Nat.le_refl _) _).trans (hb1.mono (by simp))⟩
 cases hh:hdrB h
 ·have e:hasB m b h=false:=by simp[hasB,hh]
  rw[e];clear e;go_enter Tryz.func111,Tryz.ntmps111
  go_wp2_with fail
  refine (isRight_any _ _ _).mono ?_;rintro e w1 ⟨rfl,hb1⟩;rw[ho]
  go_wp2_with fail
  refine (isHeader_any _ _).mono ?_;rintro e w' ⟨rfl,rfl⟩;go_wp2;go_ret;exact⟨rfl,((Below.refl _ _).alloc (Nat.le_refl _) _).trans (hb1.mono (by simp))⟩
 have e:hasB m b h=(bits .and .i64 h m==b):=by simp[hasB,hh,ho]
 rw[e];clear e;go_enter Tryz.func111,Tryz.ntmps111
 go_wp2_with fail
 refine (isRight_any _ _ _).mono ?_;rintro e w1 ⟨rfl,hb1⟩;rw[ho];obtain⟨hc1,hf1⟩:=bcell hb1
 go_wp2_with fail
 refine (isHeader_any _ _).mono ?_;rintro e w' ⟨rfl,rfl⟩;go_wp2;go_ret;exact⟨rfl,((Below.refl _ _).alloc (Nat.le_refl _) _).trans (hb1.mono (by simp))⟩
end
end Go.Proofs.YtiokpmlhmlcojaaGreat
