/- Contracts and facts on the way to PlanHolds, joined into one text: PlanLeastMath, PlanMono, SlSet, ItLaw3, PlanSets, PlanShort. -/
import Derived.Test.YtiokpmlhmlcojaaGreatPlanHoldsP10
namespace Go.Proofs.YtiokpmlhmlcojaaGreat
set_option linter.unusedSimpArgs false
set_option linter.unusedVariables false
set_option maxHeartbeats 16000000
set_option maxRecDepth 100000
section
open Go.RowKit
theorem in_and (s t a:Nat):inS (s &&& t) a=(inS s a&&inS t a):=Nat.testBit_and ..
theorem sub_and {s t:Nat}(hs:s<64):s &&& t=s↔∀a,1≤a→a≤6→inS s a=true→inS t a=true:=by
 constructor
 ·intro h a _ _ h1;rw[←h,in_and] at h1;simp only[Bool.and_eq_true] at h1;exact h1.2
 intro h;refine set_ext (Nat.lt_of_le_of_lt Nat.and_le_left hs) hs fun a h1 h2=>?_
 rw[in_and];cases e:inS s a
 ·rfl
 rw[h a h1 h2 e];rfl
theorem down_all:((List.range 64).all fun t=>(List.range 64).all fun k=>(List.range 64).all fun m => !(k &&& t==k) || !(m &&& t==m) || Nat.ble m k || Nat.ble k ((m-1) &&& t))=true:=by decide +kernel
theorem down_le {t k m:Nat}(ht:t<64)(hk:k<64)(hm:m<64)(h:k &&& t=k)(h2:m &&& t=m)(hkm:k<m):k≤(m-1) &&& t:=by
 have h1:=List.all_eq_true.1 down_all t (List.mem_range.2 ht);have h4:=List.all_eq_true.1 h1 k (List.mem_range.2 hk);have h3:=List.all_eq_true.1 h4 m (List.mem_range.2 hm);simp only[h,h2,beq_self_eq_true,Bool.not_true,Bool.false_or,Bool.or_eq_true,Nat.ble_eq] at h3
 rcases h3 with h3 | h3
 ·omega
 exact h3
def seqL (p:Nat→Bool):Nat→List Nat
 | 0=>[]
 | n+1=>if p n=true then n :: seqL p n else seqL p n
theorem seq_mem {p:Nat→Bool}{x:Nat}:∀{n:Nat},x∈seqL p n↔x<n∧p x=true
 | 0=>by simp[seqL]
 | n+1=>by
   rw[seqL];by_cases h:p n=true
   ·rw[if_pos h,List.mem_cons,seq_mem];constructor
    ·rintro (e | ⟨h1,h2⟩)
     ·subst e;exact⟨Nat.lt_succ_self _,h⟩
     exact⟨by omega,h2⟩
    rintro⟨h1,h2⟩;by_cases e:x=n
    ·exact .inl e
    exact .inr ⟨by omega,h2⟩
   rw[if_neg h,seq_mem];constructor
   ·rintro⟨h1,h2⟩;exact⟨by omega,h2⟩
   rintro⟨h1,h2⟩;refine⟨?_,h2⟩;by_cases e:x=n
   ·subst e;exact absurd h2 h
   omega
theorem seq_fall (p:Nat→Bool):∀n:Nat,(seqL p n).Pairwise (fun a b=>b<a)
 | 0=>List.Pairwise.nil
 | n+1=>by
   rw[seqL];by_cases h:p n=true
   ·rw[if_pos h];exact List.pairwise_cons.2 ⟨fun a ha=>(seq_mem.1 ha).1,seq_fall p n⟩
   rw[if_neg h];exact seq_fall p n
theorem seq_skip {p:Nat→Bool}{m:Nat}:∀{n:Nat},m≤n→(∀k,m≤k→k<n→p k=false)→seqL p n=seqL p m
 | 0,h,_=>by rw[show m=0 by omega]
 | n+1,h,hp=>by
   by_cases e:m=n+1
   ·rw[e]
   rw[seqL,if_neg (by rw[hp n (by omega) (by omega)];decide)];exact seq_skip (by omega) fun k h1 h2=>hp k h1 (by omega)
section
variable (sf:Nat→Nat→Bool)(all:Nat)
def ysB (done s:Nat):Bool:=decide (s≠0)&&decide (s &&& mnS all done=s)&&sf done s
def ysL (done:Nat):List Nat:=seqL (ysB sf all done) 64
def nxB (f:Nat→Nat)(s:Nat)(b:Nat×Nat):Nat×Nat:=if f s<b.1 then (f s,s) else b
def bsF (f:Nat→Nat):List Nat→Nat×Nat→Nat×Nat
 | [],b=>b
 | s :: l,b=>if (nxB f s b).1≤2 then nxB f s b else bsF f l (nxB f s b)
def shF:Nat→Nat→Nat×Nat
 | 0,done=>if done=all then (0,0) else (7,0)
 | n+1,done=>if done=all then (0,0) else bsF (fun s=>(shF n (done ||| s)).1+1) (ysL sf all done) (7,0)
def shC (done:Nat):Nat×Nat:=shF sf all 6 done
def DnOK (done:Nat):Prop:=done<64∧∀a,1≤a→a≤6→inS done a=true→inS all a=true
def CrO:Nat→List Nat→Prop
 | done,[]=>done=all
 | done,s :: cs=>s∈ysL sf all done∧CrO (done ||| s) cs
variable {sf all}
theorem ys_mem {done s:Nat}:s∈ysL sf all done↔s<64∧s≠0∧(∀a,1≤a→a≤6→inS s a=true→inS (mnS all done) a=true)∧sf done s=true:=by
 rw[ysL,seq_mem,ysB];simp only[Bool.and_eq_true,decide_eq_true_eq];constructor
 ·rintro⟨h1,⟨h2,h3⟩,h4⟩;exact⟨h1,h2,(sub_and h1).1 h3,h4⟩
 rintro⟨h1,h2,h3,h4⟩;exact⟨h1,⟨h2,(sub_and h1).2 h3⟩,h4⟩
theorem ys_le {done s:Nat}(h:s∈ysL sf all done):s≤mnS all done:=by
 obtain⟨h1,h2,h3,_⟩:=ys_mem.1 h;rw[←(sub_and h1).2 h3];exact Nat.and_le_right
theorem DnOK.next {done s:Nat}(h:DnOK all done)(hs:s∈ysL sf all done):DnOK all (done ||| s):=by
 obtain⟨h1,_,h3,_⟩:=ys_mem.1 hs;refine⟨or_lt h.1 h1,fun a k1 k2 k=>?_⟩;rw[in_or] at k;by_cases e:inS done a=true
 ·exact h.2 a k1 k2 e
 have:=h3 a k1 k2 (by simpa[e] using k);rw[in_mn k1 k2] at this;simp only[Bool.and_eq_true] at this;exact this.1
theorem ys_less {done s:Nat}(hs:s∈ysL sf all done):lfN all (done ||| s)<lfN all done:=by
 obtain⟨h1,h2,h3,_⟩:=ys_mem.1 hs;exact lf_less h1 h2 h3
theorem bs_congr {f g:Nat→Nat}:∀{l:List Nat} {b:Nat×Nat},(∀s∈l,f s=g s)→bsF f l b=bsF g l b
 | [],b,_=>rfl
 | s :: l,b,h=>by
   have e:nxB f s b=nxB g s b:=by rw[nxB,nxB,h s (List.mem_cons_self ..)]
   rw[bsF,bsF,e,bs_congr fun x hx=>h x (List.mem_cons_of_mem _ hx)]
theorem sh_more (ha:all<64):∀(n m done:Nat),DnOK all done→lfN all done≤n→lfN all done≤m→shF sf all n done=shF sf all m done
 | 0,m,done,hd,hn,hm=>by
   have e:=lf_0 ha hd.1 hd.2 (by omega);cases m <;> simp[shF,e]
 | n+1,0,done,hd,hn,hm=>by
   have e:=lf_0 ha hd.1 hd.2 (by omega);simp[shF,e]
 | n+1,m+1,done,hd,hn,hm=>by
   rw[shF,shF];by_cases e:done=all
   ·rw[if_pos e,if_pos e]
   rw[if_neg e,if_neg e];refine bs_congr fun s hs=>?_
   have hl:=ys_less hs;rw[sh_more ha n m (done ||| s) (hd.next hs) (by omega) (by omega)]
theorem sh_all:shC sf all all=(0,0):=by simp[shC,shF]
theorem sh_step (ha:all<64){done:Nat}(hd:DnOK all done)(h:done≠all):shC sf all done=bsF (fun s=>(shC sf all (done ||| s)).1+1) (ysL sf all done) (7,0):=by
 rw[shC,shF,if_neg h];refine bs_congr fun s hs=>?_
 have hl:=ys_less hs;have h6:=lf_le all done;rw[shC,sh_more ha 5 6 (done ||| s) (hd.next hs) (by omega) (by omega)]
theorem bs_two {f:Nat→Nat}:∀{l:List Nat} {b:Nat×Nat},(∀s∈l,2≤f s)→2≤b.1 →
 (∀s∈l,(bsF f l b).1≤f s)∧(bsF f l b).1≤b.1∧(bsF f l b=b∨∃pre s post,l=pre++s :: post∧bsF f l b=(f s,s)∧f s<b.1∧∀x∈pre,f s<f x)
 | [],b,_,_=>⟨(fun s h=>by cases h),Nat.le_refl _,.inl rfl⟩
 | s :: l,b,h,hb=>by
   have hs:=h s (List.mem_cons_self ..);have hl:∀x∈l,2≤f x:=fun x hx=>h x (List.mem_cons_of_mem _ hx)
   rw[bsF];by_cases c:f s<b.1
   ·have e:nxB f s b=(f s,s):=by rw[nxB,if_pos c]
    rw[e];by_cases c2:f s≤2
    ·rw[if_pos c2];refine⟨fun x hx=>?_,by show f s≤b.1;omega,.inr ⟨[],s,l,rfl,rfl,c,fun x hx=>by cases hx⟩⟩;show f s≤f x
     rcases List.mem_cons.1 hx with e | hx
     ·rw[e];exact Nat.le_refl _
     have:=hl x hx;omega
    rw[if_neg c2];obtain⟨i1,i2,i3⟩:=bs_two (b:=(f s,s)) hl hs;refine⟨fun x hx=>?_,by have:(f s,s).1=f s:=rfl;omega,.inr ?_⟩
    ·rcases List.mem_cons.1 hx with e | hx
     ·rw[e];exact i2
     exact i1 x hx
    rcases i3 with i3 | ⟨pre,x,post,j1,j2,j3,j4⟩
    ·exact⟨[],s,l,rfl,i3,c,fun x hx=>by cases hx⟩
    have j5:f x<f s:=j3;refine⟨s :: pre,x,post,by rw[j1];rfl,j2,by omega,fun y hy=>?_⟩
    rcases List.mem_cons.1 hy with e | hy
    ·rw[e];exact j5
    exact j4 y hy
   have e:nxB f s b=b:=by rw[nxB,if_neg c]
   rw[e];by_cases c2:b.1≤2
   ·rw[if_pos c2];refine⟨fun x hx=>?_,Nat.le_refl _,.inl rfl⟩
    rcases List.mem_cons.1 hx with e | hx
    ·rw[e];omega
    have:=hl x hx;omega
   rw[if_neg c2];obtain⟨i1,i2,i3⟩:=bs_two (b:=b) hl hb;refine⟨fun x hx=>?_,i2,i3.imp id ?_⟩
   ·rcases List.mem_cons.1 hx with e | hx
    ·rw[e];omega
    exact i1 x hx
   rintro⟨pre,x,post,j1,j2,j3,j4⟩;refine⟨s :: pre,x,post,by rw[j1];rfl,j2,j3,fun y hy=>?_⟩
   rcases List.mem_cons.1 hy with e | hy
   ·rw[e];omega
   exact j4 y hy
theorem bs_one {f:Nat→Nat}{l:List Nat}{b:Nat×Nat}(h1:∀s∈l,1≤f s)(h2:∀s∈l.tail,2≤f s)(hb:2<b.1):
 (∀s∈l,(bsF f l b).1≤f s)∧(bsF f l b).1≤b.1∧(bsF f l b=b∨∃pre s post,l=pre++s :: post∧bsF f l b=(f s,s)∧f s<b.1∧∀x∈pre,f s<f x):=by
 cases l with
 | nil=>exact⟨(fun s h=>by cases h),Nat.le_refl _,.inl rfl⟩
 | cons s l =>
   have hs:=h1 s (List.mem_cons_self ..);by_cases c:f s=1
   ·have e:nxB f s b=(f s,s):=by rw[nxB,if_pos (by omega)]
    rw[bsF,e,if_pos (show f s≤2 by omega)];refine⟨fun x hx=>?_,by show f s≤b.1;omega,.inr ⟨[],s,l,rfl,rfl,by omega,fun x hx=>by cases hx⟩⟩;have:=h1 x hx;show f s≤f x;omega
   refine bs_two (fun x hx=>?_) (by omega)
   rcases List.mem_cons.1 hx with e | hx
   ·rw[e];omega
   exact h2 x hx
theorem sh_in (n done:Nat):(shF sf all n done).2=0∨(shF sf all n done).2∈ysL sf all done:=by
 have go:∀(f:Nat→Nat) (l:List Nat) (b:Nat×Nat),(b.2=0∨b.2∈ysL sf all done)→(∀s∈l,s∈ysL sf all done)→(bsF f l b).2=0∨(bsF f l b).2∈ysL sf all done:=by
  intro f l
  induction l with
  | nil=>exact fun b hb _=>hb
  | cons s l ih =>
    intro b hb hl;have hx:(nxB f s b).2=0∨(nxB f s b).2∈ysL sf all done:=by
     rw[nxB];by_cases c:f s<b.1
     ·rw[if_pos c];exact .inr (hl s (List.mem_cons_self ..))
     rw[if_neg c];exact hb
    rw[bsF];by_cases c:(nxB f s b).1≤2
    ·rw[if_pos c];exact hx
    rw[if_neg c];exact ih _ hx fun x h=>hl x (List.mem_cons_of_mem _ h)
 cases n with
 | zero =>
   rw[shF];by_cases e:done=all
   ·rw[if_pos e];exact .inl rfl
   rw[if_neg e];exact .inl rfl
 | succ n =>
   rw[shF];by_cases e:done=all
   ·rw[if_pos e];exact .inl rfl
   rw[if_neg e];exact go _ _ _ (.inl rfl) fun _ h=>h
theorem nx_sh:NxOK all fun d=>(shC sf all d).2:=fun done=>by
 rcases sh_in (sf:=sf) (all:=all) 6 done with h | h
 ·refine⟨by show (shF sf all 6 done).2<64;rw[h];decide,fun a _ _ k=>?_⟩;have:inS (shF sf all 6 done).2 a=true:=k;rw[h,in_0] at this;cases this
 obtain⟨h1,_,h3,_⟩:=ys_mem.1 h;exact⟨h1,h3⟩
theorem or_all (ha:all<64){done s:Nat}(hs:s∈ysL sf all done)(h:done ||| s=all):s=mnS all done:=by
 obtain⟨h1,_,h3,_⟩:=ys_mem.1 hs;refine set_ext h1 (mn_lt ha) fun a k1 k2=>?_
 cases e:inS s a
 ·rw[in_mn k1 k2,←h,in_or,e];cases inS done a <;> rfl
 exact (h3 a k1 k2 e).symm
theorem sh_pos (ha:all<64){done:Nat}(hd:DnOK all done)(h:done≠all):1≤(shC sf all done).1:=by
 rw[sh_step ha hd h];have go:∀(l:List Nat) (b:Nat×Nat),1≤b.1→1≤(bsF (fun s=>(shC sf all (done ||| s)).1+1) l b).1:=by
  intro l
  induction l with
  | nil=>exact fun b hb=>hb
  | cons s l ih =>
    intro b hb;have hx:1≤(nxB (fun s=>(shC sf all (done ||| s)).1+1) s b).1:=by
     rw[nxB];by_cases c:(shC sf all (done ||| s)).1+1<b.1
     ·rw[if_pos c];show 1≤_+1;omega
     rw[if_neg c];exact hb
    rw[bsF];by_cases c:(nxB (fun s=>(shC sf all (done ||| s)).1+1) s b).1≤2
    ·rw[if_pos c];exact hx
    rw[if_neg c];exact ih _ hx
 exact go _ _ (by decide)
theorem sh_spec (ha:all<64){done:Nat}(hd:DnOK all done)(h:done≠all):
 (∀s∈ysL sf all done,(shC sf all done).1≤(shC sf all (done ||| s)).1+1)∧(shC sf all done).1≤7 ∧
 (shC sf all done=(7,0)∨∃pre s post,ysL sf all done=pre++s :: post∧shC sf all done=((shC sf all (done ||| s)).1+1,s)∧(shC sf all (done ||| s)).1+1<7∧∀x∈pre,(shC sf all (done ||| s)).1+1<(shC sf all (done ||| x)).1+1):=by
 rw[sh_step ha hd h];refine bs_one (f:=fun s=>(shC sf all (done ||| s)).1+1) (fun s _=>by show 1≤_+1;omega) (fun s hs=>?_) (by decide);have hm:s∈ysL sf all done:=List.mem_of_mem_tail hs;have hne:done ||| s≠all:=fun e=>by
  have e1:=or_all ha hm e;cases hy:ysL sf all done with
  | nil=>rw[hy] at hs;cases hs
  | cons x l =>
    have hp:=seq_fall (ysB sf all done) 64;rw[show seqL (ysB sf all done) 64=ysL sf all done from rfl,hy] at hp;rw[hy] at hs;have:=(List.pairwise_cons.1 hp).1 s hs;have:=ys_le (sf:=sf) (all:=all) (done:=done) (s:=x) (by rw[hy];exact List.mem_cons_self ..);omega
 have:=sh_pos (sf:=sf) ha (hd.next hm) hne;show 2≤_+1;omega
theorem sh_le (ha:all<64):∀{cs:List Nat} {done:Nat},DnOK all done→CrO sf all done cs→(shC sf all done).1≤cs.length
 | [],done,hd,h=>by
   have e:done=all:=h;rw[e,sh_all];exact Nat.le_refl _
 | s :: cs,done,hd,h=>by
   obtain⟨h1,h2⟩:=h;by_cases e:done=all
   ·rw[e,sh_all];exact Nat.zero_le _
   have i:=sh_le ha (hd.next h1) h2;have:=(sh_spec ha hd e).1 s h1;rw[List.length_cons];omega
theorem cr_len:∀{cs:List Nat} {done:Nat},CrO sf all done cs→cs.length≤lfN all done
 | [],done,h=>Nat.zero_le _
 | s :: cs,done,h=>by
   obtain⟨h1,h2⟩:=h;have i:=cr_len h2;have:=ys_less h1;rw[List.length_cons];omega
theorem sh_course (ha:all<64):∀(k:Nat) {done:Nat},DnOK all done→(shC sf all done).1=k→k<7→∃cs,roA all (fun d=>(shC sf all d).2) done=some cs∧CrO sf all done cs∧cs.length=k
 | 0,done,hd,h,hk=>by
   by_cases e:done=all
   ·subst e;exact⟨[],ro_end _,rfl,rfl⟩
   have:=sh_pos (sf:=sf) ha hd e;omega
 | k+1,done,hd,h,hk=>by
   by_cases e:done=all
   ·subst e;rw[sh_all] at h;exact absurd h (by show ¬(0=k+1);omega)
   obtain⟨_,_,h3⟩:=sh_spec (sf:=sf) ha hd e
   rcases h3 with h3 | ⟨pre,s,post,j1,j2,j3,j4⟩
   ·rw[h3] at h;exact absurd h (by show ¬(7=k+1);omega)
   have hs:s∈ysL sf all done:=by rw[j1];simp
   have e2:(shC sf all done).2=s:=by rw[j2]
   have e1:(shC sf all (done ||| s)).1=k:=by
    rw[j2] at h;have:(shC sf all (done ||| s)).1+1=k+1:=h;omega
   obtain⟨cs,i1,i2,i3⟩:=sh_course ha k (hd.next hs) e1 (by omega);refine⟨s :: cs,?_,⟨hs,i2⟩,by rw[List.length_cons,i3]⟩;have hstep:=ro_step (nx:=fun d=>(shC sf all d).2) nx_sh ha hd.1 hd.2 e (by show (shC sf all done).2≠0;rw[e2];exact (ys_mem.1 hs).2.1);rw[hstep];show (roA all (fun d=>(shC sf all d).2) (done ||| (shC sf all done).2)).map ((shC sf all done).2 :: ·)=_;rw[e2,i1];rfl
theorem sh_none (ha:all<64){done:Nat}(hd:DnOK all done)(h:7≤(shC sf all done).1):roA all (fun d=>(shC sf all d).2) done=none:=by
 by_cases e:done=all
 ·subst e;rw[sh_all] at h;exact absurd h (by decide)
 obtain⟨_,_,h3⟩:=sh_spec (sf:=sf) ha hd e
 rcases h3 with h3 | ⟨pre,s,post,j1,j2,j3,j4⟩
 ·exact ro_none e (by show (shC sf all done).2=0;rw[h3])
 rw[j2] at h;exact absurd h (by show ¬(7≤(shC sf all (done ||| s)).1+1);omega)
theorem fi_course:∀(n:Nat) {done:Nat} {cs:List Nat},roO all (fun d=>fiS sf all d 6) n done=some cs→CrO sf all done cs
 | 0,done,cs,h=>by
   rw[roO] at h;by_cases e:done=all
   ·rw[if_pos e] at h;cases h;exact e
   rw[if_neg e] at h;cases h
 | n+1,done,cs,h=>by
   rw[roO] at h;by_cases e:done=all
   ·rw[if_pos e] at h;cases h;exact e
   rw[if_neg e] at h;by_cases e0:fiS sf all done 6=0
   ·rw[if_pos e0] at h;cases h
   rw[if_neg e0] at h;obtain⟨more,h1,rfl⟩:=Option.map_eq_some_iff.1 h;have hx:=nx_fi sf all done;refine⟨ys_mem.2 ⟨hx.1,e0,hx.2,?_⟩,fi_course n h1⟩
   rcases fi_safe sf all done 6 with k | k
   ·exact absurd k e0
   exact k
theorem dn_0:DnOK all 0:=⟨by decide,fun a _ _ h=>by rw[in_0] at h;cases h⟩
end
section
variable {Ls:LkQ}{Hs:HoQ}{As Bs Cs:List (List Ru)}
theorem ch_self {s:Int}(h:taT Bs s=taT As s):chB As Bs s=false:=by
 have e:∀t:List Ru,bey t t=[]:=fun t=>List.filter_eq_nil_iff.2 fun r hr=>by rw[in_iff.2 hr];decide
 unfold chB;rw[h,e];rfl
theorem wk_sub (hC:∀s,taT Bs s=taT Cs s∨taT Bs s=taT As s):∀(n:Nat) (l:HpQ) (met:List Int) (x:Int×ByteArray×HpQ),x∈wkL Ls Hs As Bs n l met []→x∈wkL Ls Hs As Cs n l met []:=by
 intro n
 induction n with
 | zero=>intro l met x h;rw[wkL] at h ⊢;exact h
 | succ n ih =>
   intro l met x h;have on:∀(met2:List Int) (g:(Int×ByteArray) ⊕ ((Int×Int)×Int)),x∈onL (fun l' a'=>wkL Ls Hs As Bs n l' met2 a') l [] g→x∈onL (fun l' a'=>wkL Ls Hs As Cs n l' met2 a') l [] g:=by
    intro met2 g hx;cases g with
    | inl e=>exact (pu_mem lo_fate _).2 ((pu_mem lo_fate _).1 hx)
    | inr p=>exact ih _ _ _ hx
   rw[wkL] at h ⊢;by_cases hc:chB As Bs (laH l).1.1=true
   ·have hb:taT Bs (laH l).1.1=taT Cs (laH l).1.1:=by
     rcases hC (laH l).1.1 with e | e
     ·exact e
     rw[ch_self e] at hc;cases hc
    have hc2:chB As Cs (laH l).1.1=true:=by
     have e:chB As Cs (laH l).1.1=chB As Bs (laH l).1.1:=by simp only[chB,hb]
     exact e.trans hc
    rw[if_pos hc] at h;rw[if_pos hc2]
    rcases (on_mem (fun l' a x=>wk_mem n l' _ a x) l _ _ _).1 h with h | h
    ·refine (on_mem (fun l' a x=>wk_mem n l' _ a x) l _ _ _).2 (.inl ?_);by_cases hm:(laH l).1.1∈met
     ·rw[if_pos hm] at h;simp at h
     rw[if_neg hm] at h ⊢;exact on _ _ h
    refine (on_mem (fun l' a x=>wk_mem n l' _ a x) l _ _ _).2 (.inr ?_);rw[←hb];exact on _ _ h
   rw[if_neg hc] at h;by_cases hm:(laH l).1.1∈met
   ·rw[if_pos hm] at h;simp at h
   rw[if_neg hm] at h;by_cases hc2:chB As Cs (laH l).1.1=true
   ·rw[if_pos hc2];refine (on_mem (fun l' a x=>wk_mem n l' _ a x) l _ _ _).2 (.inl ?_);rw[if_neg hm];exact on _ _ h
   rw[if_neg hc2,if_neg hm];exact on _ _ h
theorem bsw_sub (hC:∀s,taT Bs s=taT Cs s∨taT Bs s=taT As s){ws:List Wi}(h:bsW Ls Hs As Cs ws Hs ws.length=none):bsW Ls Hs As Bs ws Hs ws.length=none:=by
 refine bsW_neg fun i hi j hj k hk=>?_
 have:=bsW_none h i hi j hj k hk;unfold bsB at this ⊢;rw[List.any_eq_false] at this ⊢;exact fun x hx=>this x (wk_sub hC _ _ _ _ hx)
end
def MoOK (sf:Nat→Nat→Bool)(all:Nat):Prop:=∀done s t,s<64→t<64→(∀a,1≤a→a≤6→inS s a=true→inS t a=true)→sf done t=true→sf done s=true
theorem sf_mono {S:Int}{Ls:List LkT}{Hs:List HoT}{As Bs:List (List Ru)}{ws:List Wi}{D:List Op8}(hP:PlOK S Ls Hs As Bs ws D)(all:Nat):MoOK (sfB Ls Hs As Bs ws) all:=by
 intro done s t hs ht hst h;unfold sfB at h ⊢;rw[Option.isNone_iff_eq_none] at h ⊢;refine bsw_sub (fun i=>?_) h;unfold taT;obtain⟨k,hk⟩:∃k,k=(i-1).toNat:=⟨_,rfl⟩;rw[←hk];by_cases hl:k<As.length
 ·have h6:=hP.len.2;rw[nw_get hl,nw_get hl,nw_get hl,in_or,in_or];cases e1:inS s (k+1)
  ·right;cases inS done (k+1) <;> rfl
  left;rw[hst (k+1) (by omega) (by omega) e1]
 left;simp[List.getD,nw_len,show ¬k<As.length from hl]
def setE:Enc (Int) where
 c:=fun x=>[.int .i64 x]
 n:=1
 len:=fun _=>rfl
 pos:=by decide
 one:=by
  intro x u hu;simp at hu;subst hu;rfl
theorem set_at {w:World}{g o:Nat}{L:List (Int)}(h:GAt setE w g o L){n k:Nat}(hn:L.length=n)(hk:k<n):∃(x:Int) (hl:k<L.length),L[k]=x∧w.cell? ⟨g,o+k,none⟩=some (.int .i64 x):=by
 have hl:k<L.length:=by omega
 have:=h k hl 0 _ rfl;refine⟨_,hl,rfl,?_⟩;have e:o+k*setE.n+0=o+k:=by show o+k*1+0=o+k;omega
 rw[e] at this;exact this
def setAsks (w:World)(f:FuncId)(c:Value)(P:Int→Bool):Prop:=
 ∀(x:Int) (W:World),Below w.heap.size w W→Calls Tryz.prog f #[.int .i64 x,c] W fun e w'=>e=.returned (.bool (P x))∧Below W.heap.size W w'
theorem setAsks.later {w w':World}{f:FuncId}{c:Value}{P:Int→Bool}(h:setAsks w f c P)(hb:Below w.heap.size w w'):setAsks w' f c P:=
 fun x W hW=>h x W (hb.trans (hW.mono hb.size))
theorem set_idxF (ao:Option Addr)(n cap:Nat)(f:FuncId)(c:Value)(P:Int→Bool)(L:List (Int))(w:World)(hn:L.length=n)(hn2:n≤maxLen)(ha:0<n→∃g o,ao=some ⟨g,o,none⟩∧GAt setE w g o L∧cap≤maxLen)(he:∀args w,(callFunc f args).run Tryz.prog w=.ok (.enter f args) w)(hf:setAsks w f c P):
 Calls Tryz.prog 97 #[.slice ao n cap,.func (Fn.func f) #[] #[c]] w fun e w'=>e=.returned (.int .i64 (ixG P L))∧Below w.heap.size w w':=by
 have HN:Hid (L.length=n):=hn;have HF:Hid (setAsks w f c P):=hf;have HA:Hid (0<n→∃g o,ao=some ⟨g,o,none⟩∧GAt setE w g o L∧cap≤maxLen):=ha;unfold maxLen at hn2;clear hn hf ha;go_enter Tryz.func97,Tryz.ntmps97;go_wp2
 go_loopw [8] (fun i wr=>∃k:Nat,k≤n∧i=.int .i64 k∧(L.take k).any P=false∧Below w.heap.size w wr)
  (fun i _=>n-(intOf i).toNat)
 case atStart=>exact⟨0,by omega,rfl,by simp,Below.refl _ _⟩
 case round =>
  obtain⟨k,hk,rfl,hno,hB⟩:=hrel;have HB:Hid (Below w.heap.size w wr):=hB;have HNO:Hid ((L.take k).any P=false):=hno;clear hno;by_cases hlt:k<n
  ·obtain⟨g,o,hao,hc,_⟩:=HA.out (by omega);subst hao;obtain⟨x,hkl,hL,q0⟩:=set_at (hc.later hB) HN.out hlt;have HL:Hid (L[k]=x):=hL;clear hL hB;cases ho:P x
   ·go_wp2_with fail
    refine (HF.out x _ HB.out).mono ?_;rintro e w1 ⟨rfl,hb1⟩;rw[ho];have HB1:=HB.out.trans (hb1.mono HB.out.size);clear hb1;go_wp2;go_roundw
    case rel=>exact⟨k+1,by omega,by go_num,any_nextG hkl HNO.out (by rw[HL.out];exact ho),HB1⟩
    case measure=>simp[intOf];omega
   go_wp2_with fail
   refine (HF.out x _ HB.out).mono ?_;rintro e w1 ⟨rfl,hb1⟩;rw[ho];go_wp2;go_ret;exact⟨by rw[ixG_hit hkl HNO.out (by rw[HL.out];exact ho)];rfl,HB.out.trans (hb1.mono HB.out.size)⟩
  obtain rfl:k=n:=by omega
  go_wp2;go_ret;exact⟨by have:=HNO.out;rw[←HN.out,List.take_length] at this;rw[ixG_no this];rfl,HB.out⟩
theorem set_hasF (ao:Option Addr)(n cap:Nat)(f:FuncId)(c:Value)(P:Int→Bool)(L:List (Int))(w:World)(hn:L.length=n)(hn2:n≤maxLen)(ha:0<n→∃g o,ao=some ⟨g,o,none⟩∧GAt setE w g o L∧cap≤maxLen)(he:∀args w,(callFunc f args).run Tryz.prog w=.ok (.enter f args) w)(hf:setAsks w f c P):
 Calls Tryz.prog 68 #[.slice ao n cap,.func (Fn.func f) #[] #[c]] w fun e w'=>e=.returned (.bool (L.any P))∧Below w.heap.size w w':=by
 rw[←ixG_any];obtain⟨x,hx⟩:∃x,x=ixG P L:=⟨_,rfl⟩;have HX:Hid (x=ixG P L):=hx;rw[←hx];clear hx;go_enter Tryz.func68,Tryz.ntmps68
 go_wp2_with fail
 refine (set_idxF ao n cap f c P L _ hn hn2 ha he hf).mono ?_;rintro e w1 ⟨rfl,hb1⟩;rw[←HX.out];go_wp2;go_ret;exact⟨rfl,hb1⟩
end
section
open Go.RowKit Go.Shelf
def ItQ {α:Type}(P:Program)(g:Nat)(lb:Array Value)(Vl:World→Array Value→α→Prop)(st:World→Prop)(p:Nat→Prop)(L:List α):Prop:=
 ∀ (l:Nat) (J:Nat→(Nat→Prop)→World→Prop) (Jx:World→Prop) (W:World),st W →
   J 0 (fun _=>False) W →
   (∀k X A,J k X A→∀b,X b→b<A.heap.size) →
   (∀k X A A',J k X A→Kb (fun b=>b<W.heap.size∨X b) A A'→J k X A') →
   (∀A A',Jx A→Kb (fun _=>True) A A'→Jx A') →
   (∀k X A args x (Y:Nat→Prop),J k X A→L[k]?=some x→Vl A args x→W.heap.size≤A.heap.size→(∀b,Y b→W.heap.size≤b∧¬X b)→YieldAt Fence.wide 0 P l args A fun e A' =>
    (e=.returned (.bool true)∧(∃X',J (k+1) X' A'∧∀b,X' b→X b∨A.heap.size≤b)∧Kb (fun b=>p b∨Y b) A A')∨(e=.returned (.bool false)∧Jx A'∧Kb (fun b=>p b∨Y b) A A')) →
   Calls P g (#[.func (.yield l) #[] #[]]++lb) W fun e W'=>(∃v,e=.returned v)∧((∃X,J L.length X W')∨Jx W')
theorem wpIn_rangeFunc_itQ {P:Program}{n:Nat}{α:Type}{g:Operand}{ps:Array Tmp}{assign body:Code}{Q:Exit→Act→World→Prop}{a:Act}{w:World}
 (h1:1≤n) {gf:Nat} {lb:Array Value} (hg:a.eval g=.func (.func gf) #[] lb) (eg:∀args w,(callFunc gf args).run P w=.ok (.enter gf args) w)
 {Vl:World→Array Value→α→Prop} {st:World→Prop} {p:Nat→Prop} {L:List α} (hseq:ItQ P gf lb Vl st p L) (hst:∀W,Below w.heap.size w W→st W) (hpw:∀b,p b→b<w.heap.size) (hps:∀A args x,Vl A args x→args.size=ps.size)
 (I:Nat→(Nat→Prop)→World→Prop) (Ix:Code→World→Prop)
 (hlt:∀k X A,I k X A→∀b,X b→w.heap.size+2≤b∧b<A.heap.size)
 (hI:∀k X A A',I k X A→Kb (fun b=>b<w.heap.size∨X b) A A'→I k X A')
 (hIx:∀c A A',Ix c A→Kb (fun b=>b<w.heap.size∨w.heap.size+2≤b) A A'→Ix c A')
 (h0:I 0 (fun _=>False) w)
 (hround:∀(l k:Nat) (X Y:Nat→Prop) (x:α) (args:Array Value) (W:World),l=w.heap.size+1→w.heap.size+2≤W.heap.size→I k X W→L[k]?=some x→Vl W args x→(∀b,Y b→w.heap.size+2≤b∧¬X b)→(∀q:Addr,q.block=l→W.cell? q=none) →
  assign.wpIn (Fence.wide.inRound l) (n-1-1) P (Exit.then (fun a' Wa=>Kb (fun b=>p b∨b=w.heap.size∨b=l∨Y b) W Wa∧∀W2,Kb (fun b=>b≠l) Wa W2→body.wpIn (Fence.wide.inRound l) (n-1-1) P (itPost (fun b=>p b∨b=w.heap.size∨b=l∨Y b) (fun W'=>∃X',I (k+1) X' W'∧∀b,X' b→X b∨W.heap.size≤b) Ix W2) a' W2) (fun _ _ _=>False)) { tmps:=(ps.zip args).foldl (fun t (p,v)=>t.setIfInBounds p v) a.tmps,defers:=[] } W)
 (hdone:∀(X:Nat→Prop) (W:World),I L.length X W→W.heap[w.heap.size]?=some (.deferred (some []))→Q .normal { a with defers:={ target:=.collected w.heap.size,args:=#[] } :: a.defers } W)
 (hstop:∀(c:Code) (W:World),Ix c W→W.heap[w.heap.size]?=some (.deferred (some []))→c.wpIn Fence.wide n P Q { a with defers:={ target:=.collected w.heap.size,args:=#[] } :: a.defers } W):
 (Code.rangeFunc g ps assign body).wpIn Fence.wide n P Q a w:=by
 refine wpIn_rangeFunc ?_;intro fn hfn;rw[show Fence.wide.round=none from rfl];obtain⟨rec,hrec⟩:∃rec:LoopState→Option Code→Loop,rec=fun st pe=>{ state:=st,pending:=pe,fn,tmps:=a.tmps,params:=ps,assign,body,defers:=w.heap.size }:=⟨_,rfl⟩
 obtain⟨W1,hW1⟩:∃W1,(w.alloc (.deferred (some []))).alloc (.loop (rec .ready none))=W1:=⟨_,rfl⟩;have hL1:W1.heap[w.heap.size+1]?=some (.loop (rec .ready none)):=by
  rw[←hW1];have:=World.alloc_heap_new (w.alloc (.deferred (some []))) (.loop (rec .ready none));rwa [World.size_alloc] at this
 have hK1:W1.heap[w.heap.size]?=some (.deferred (some [])):=by
  rw[←hW1];exact (Below.heap_alloc _ _ _ (by simp)).trans (World.alloc_heap_new w _)
 have hS1:W1.heap.size=w.heap.size+2:=by rw[←hW1];simp
 have hB1:Below w.heap.size w W1:=by
  rw[←hW1];exact ((Below.refl _ w).alloc (Nat.le_refl _) _).alloc (by simp) _
 have hb1:st W1:=hst W1 hB1;refine⟨w.heap.size+1,[{ target:=.collected w.heap.size,args:=#[] }],W1,{ target:=.fn (.func gf) lb,args:=#[.func (.yield (w.heap.size+1)) #[] #[]] },W1,gf,
  #[.func (.yield (w.heap.size+1)) #[] #[]]++lb,W1,?_,?_,?_,?_,fun _=>h1,?_⟩
 ·rw[←hW1,hrec];exact run_enterLoop_outer _ _ _ _ _
 ·simp only[resolve,hg];simp[go_sem]
 ·intro f' hf';trivial
 ·simp[invoke,go_sem,eg]
 have hI1:∀{k:Nat} {X:Nat→Prop} {A:World} (o:Obj),I k X A→I k X (A.putObj (w.heap.size+1) o):=fun o h=>hI _ _ _ _ h ((Kb.refl _ _).putObj (fun _ hp=>hp.elim (fun h=>by omega) (fun hx=>by have:=(hlt _ _ _ h _ hx).1;omega)) o)
 refine (callsIn_wide.2 (hseq (w.heap.size+1)
  (fun k X W=>I k X W∧W.heap[w.heap.size+1]?=some (.loop (rec .ready none))∧W.heap[w.heap.size]?=some (.deferred (some [])))
  (fun W=>∃c,Ix c W∧W.heap[w.heap.size+1]?=some (.loop (rec .done (some c)))∧W.heap[w.heap.size]?=some (.deferred (some [])))
  W1 hb1 ?_ ?_ ?_ ?_ ?_)).mono ?_
 ·exact⟨hI _ _ _ _ h0 (Kb.of_below hB1 (fun b _ h=>h.elim id False.elim)),hL1,hK1⟩
 ·exact fun k X A h b hx=>(hlt _ _ _ h.1 b hx).2
 ·rintro k X A A' ⟨hi,hl,hd⟩ hk;rw[hS1] at hk;have hlt':w.heap.size+1<A.heap.size:=(Array.getElem?_eq_some_iff.1 hl).1;exact⟨hI k X A A' hi (hk.mono (fun b _ h=>h.imp (fun h=>by omega) id)),(hk.block _ hlt' (.inl (by omega))).trans hl,(hk.block _ (by omega) (.inl (by omega))).trans hd⟩
 ·rintro A A' ⟨c,hi,hl,hd⟩ hk;have hlt':w.heap.size+1<A.heap.size:=(Array.getElem?_eq_some_iff.1 hl).1;exact⟨c,hIx c A A' hi (hk.mono (fun _ _ _=>trivial)),(hk.block _ hlt' trivial).trans hl,(hk.block _ (by omega) trivial).trans hd⟩
 ·rintro k X W args x Y ⟨hi,hl,hd⟩ hx hv hWW hY;rw[hS1] at hY hWW;have hlt':w.heap.size+1<W.heap.size:=(Array.getElem?_eq_some_iff.1 hl).1;have hy:=run_yield (P:=P) (args:=args) hl (by rw[hrec];exact hps _ _ _ hv);rw[hrec] at hy;refine yield_any (m:=n-1-1) ⟨fn,_,assign,body,hy,roundIn_of_wpIn hfn (wpIn_mono (hround _ k X Y x args W rfl hWW hi hx hv hY (fun q hq=>by simp[World.cell?,hq,hl])) ?_)⟩;clear hy;intro e1 a' Wa hp;cases e1 with
  | normal =>
    obtain⟨hka,hbody⟩:=hp;have hl2:=(hka.block _ hlt' (.inr (.inr (.inl rfl)))).trans hl;have hd2:=(hka.block w.heap.size (by omega) (.inr (.inl rfl))).trans hd;have hlta:w.heap.size+1<Wa.heap.size:=(Array.getElem?_eq_some_iff.1 hl2).1;refine⟨_,run_beginRound hl2 (by rw[hrec]),?_⟩;have hkb:Kb (fun b=>b≠w.heap.size+1) Wa (Wa.putObj (w.heap.size+1) (.loop { rec .ready none with state:=.busy })):=(Kb.refl _ _).putObj (fun _ h=>h rfl) _;have hl3:(Wa.putObj (w.heap.size+1) (.loop { rec .ready none with state:=.busy })).heap[w.heap.size+1]?=some (.loop { rec .ready none with state:=.busy }):=World.putObj_heap_same hlta;have hd3:=(hkb.block w.heap.size (by omega) (by omega)).trans hd2;refine wpIn_mono (hbody _ hkb) ?_
    generalize Wa.putObj (w.heap.size+1) (.loop { rec .ready none with state:=.busy })=W2 at hkb hl3 hd3
    have hlt2:w.heap.size+1<W2.heap.size:=(Array.getElem?_eq_some_iff.1 hl3).1;have fin:∀(jump:Option Code) (W3:World),Kb (fun b=>p b∨b=w.heap.size∨b=w.heap.size+1∨Y b) W2 W3 →
     (Instr.endRound (w.heap.size+1) jump).run P W3=.ok (.bool jump.isNone) (W3.putObj (w.heap.size+1) (.loop (rec (if jump.isNone then .ready else .done) jump))) ∧
     W3.heap[w.heap.size+1]?=some (.loop { rec .ready none with state:=.busy }) ∧
     (W3.putObj (w.heap.size+1) (.loop (rec (if jump.isNone then .ready else .done) jump))).heap[w.heap.size+1]?=some (.loop (rec (if jump.isNone then .ready else .done) jump)) ∧
     (W3.putObj (w.heap.size+1) (.loop (rec (if jump.isNone then .ready else .done) jump))).heap[w.heap.size]?=some (.deferred (some [])):=fun jump W3 hk3=>by
     have hl4:=(hk3.block _ hlt2 (.inr (.inr (.inl rfl)))).trans hl3;have hd4:=(hk3.block w.heap.size (by omega) (.inr (.inl rfl))).trans hd3;have:=run_endRound (P:=P) jump hl4;rw[hrec] at this ⊢;exact⟨this,by rw[hrec] at hl4;exact hl4,World.putObj_heap_same (Array.getElem?_eq_some_iff.1 hl4).1,(World.putObj_heap_other (by omega)).trans hd4⟩
    rintro e a3 W3 hp;have hny:∀b,p b∨Y b→b≠w.heap.size+1:=fun b h e=>h.elim (fun h=>by have:=hpw b h;omega) (fun h=>by have:=(hY b h).1;omega)
    have hall:∀(W3:World) (o:Obj),Kb (fun b=>p b∨b=w.heap.size∨b=w.heap.size+1∨Y b) W2 W3→Kb (fun b=>p b∨Y b) W (W3.putObj (w.heap.size+1) o):=fun W3 o hk3=>(((hka.mono (fun b _ h=>h.imp id (fun h=>.inr (.inr h)))).trans ((hkb.mono (fun b _ h=>hny b h)).trans (hk3.mono (fun b _ h=>h.imp id (fun h=>.inr (.inr h)))))).trans ((Kb.refl _ _).putObj (fun _ h=>hny _ h rfl) _))
    cases e with
    | normal =>
      obtain⟨hk3,X',hi3,hX'⟩:=hp;obtain⟨hr,hl4,hl5,hd5⟩:=fin none W3 hk3;exact⟨_,_,hr,.inl ⟨rfl,⟨X',⟨hI1 _ hi3,hl5,hd5⟩,hX'⟩,hall _ _ hk3⟩⟩
    | ret =>
      obtain⟨hk3,hi3⟩:=hp;obtain⟨hr,hl4,hl5,hd5⟩:=fin (some .ret) W3 hk3;exact⟨_,_,hr,.inr ⟨rfl,⟨.ret,hIx _ W3 _ hi3 ((Kb.refl _ _).putObj (fun _ h=>by omega) _),hl5,hd5⟩,hall _ _ hk3⟩⟩
    | exit id =>
      obtain⟨hk3,hi3⟩:=hp;obtain⟨hr,hl4,hl5,hd5⟩:=fin (some (.exit id)) W3 hk3;exact⟨_,_,hr,.inr ⟨rfl,⟨.exit id,hIx _ W3 _ hi3 ((Kb.refl _ _).putObj (fun _ h=>by omega) _),hl5,hd5⟩,hall _ _ hk3⟩⟩
    | goto t =>
      obtain⟨hk3,hi3⟩:=hp;obtain⟨hr,hl4,hl5,hd5⟩:=fin (some (.goto t)) W3 hk3;exact⟨_,_,hr,.inr ⟨rfl,⟨.goto t,hIx _ W3 _ hi3 ((Kb.refl _ _).putObj (fun _ h=>by omega) _),hl5,hd5⟩,hall _ _ hk3⟩⟩
    | panic ch=>exact hp.elim
    | outgrown=>exact hp.elim
  | ret=>exact hp.elim
  | exit id=>exact hp.elim
  | goto t=>exact hp.elim
  | panic ch=>exact hp.elim
  | outgrown=>exact hp.elim
 rintro e W2 ⟨⟨v,rfl⟩,(⟨X,hi,hl,hd⟩ | ⟨c,hi,hl,hd⟩)⟩
 ·refine⟨none,_,by have:=run_endLoop (P:=P) hl (by rw[hrec];simp);rw[hrec] at this;exact this,?_⟩;exact hdone X _ (hI1 _ hi) ((World.putObj_heap_other (by omega)).trans hd)
 refine⟨some c,_,by have:=run_endLoop (P:=P) hl (by rw[hrec];simp);rw[hrec] at this;exact this,?_⟩;exact hstop c _ (hIx c W2 _ hi ((Kb.refl _ _).putObj (fun _ h=>by omega) _)) ((World.putObj_heap_other (by omega)).trans hd)
attribute [local go_sem] Oper.semAt_some
theorem setStop {p:Prop}(h:Hid p):p:=h
theorem setGo {p:Prop}(h:p):Hid p:=h
theorem setHas_gen (s x:Int)(w:World):
 Calls Tryz.prog 25 #[.int .i64 x,.int .i64 s] w fun e w'=>e=.returned (.bool (decide (bits .andNot .i64 s x=0)))∧w'=w:=by
 obtain⟨B,hB⟩:∃B,B=bits .andNot .i64 s x:=⟨_,rfl⟩;have HE:Hid (bits .andNot .i64 s x=B):=hB.symm;rw[←hB];clear hB;go_enter Tryz.func25,Tryz.ntmps25;go_wp2;go_ret;refine⟨?_,rfl⟩;rw[HE.out];by_cases h:B=0
 ·simp[h]
 simp[h]
theorem part_asks (gs:Nat)(s:Int)(w:World)(hc:w.cell? ⟨gs,0,none⟩=some (.int .i64 s)):setAsks w 69 (.pointer (some ⟨gs,0,none⟩)) (fun x=>decide (bits .andNot .i64 s x=0)):=by
 intro x W hb;have hc1:=cell_later hb hc;have HB:Hid (Below W.heap.size W W):=Below.refl _ _;clear hc;go_enter Tryz.func69,Tryz.ntmps69
 go_wp2_with fail
 refine (setHas_gen s x _).mono ?_;rintro e w' ⟨rfl,rfl⟩;go_wp2;go_ret;exact⟨rfl,HB.out⟩
def bxN (w:World)(q:Value):Nat:=match q with
 | .pointer (some a)=>(match w.cell? a with | some (.int _ i)=>i.toNat | _=>0)
 | _=>0
theorem bxN_of {w:World}{g s:Nat}(h:w.cell? ⟨g,0,none⟩=some (.int .i64 (s:Int))):bxN w (.pointer (some ⟨g,0,none⟩))=s:=by
 unfold bxN;simp only[h];omega
structure SS (w0:World)(gt gd:Nat)(S:Int)(v1 v2 v3 v4 v5:Value)(all done:Nat)(A:World):Prop where
 below:Below w0.heap.size w0 A
 tk:TkB A gt S v1 v2 v3 v4 v5 (all:Int)
 dn:A.cell? ⟨gd,0,none⟩=some (.int .i64 (done:Int))
def ssP (w0:World)(gt gd b:Nat):Prop:=b<w0.heap.size∨b=gt∨b=gd
section
variable {w0:World}{gt gd:Nat}{S:Int}{v1 v2 v3 v4 v5:Value}{all done:Nat}{A A':World}
theorem TkB.kb {p:Nat→Prop}(h:TkB A gt S v1 v2 v3 v4 v5 (all:Int))(hk:Kb p A A')(hp:p gt):TkB A' gt S v1 v2 v3 v4 v5 (all:Int):=
 ⟨hk.at h.c0 hp,hk.at h.c1 hp,hk.at h.c2 hp,hk.at h.c3 hp,hk.at h.c4 hp,hk.at h.c5 hp,hk.at h.c6 hp,fun i=>by rw[hk.frozen (q:=⟨gt,i,none⟩) h.lt hp];exact h.f i⟩
theorem SS.kb {p:Nat→Prop}(h:SS w0 gt gd S v1 v2 v3 v4 v5 all done A)(hk:Kb p A A')(hp:∀b,ssP w0 gt gd b→p b):SS w0 gt gd S v1 v2 v3 v4 v5 all done A':=
 ⟨h.below.trans (hk.below h.below.size fun b hb=>hp b (.inl hb)),h.tk.kb hk (hp _ (.inr (.inl rfl))),hk.at h.dn (hp _ (.inr (.inr rfl)))⟩
theorem SS.later (h:SS w0 gt gd S v1 v2 v3 v4 v5 all done A)(hb:Below A.heap.size A A'):SS w0 gt gd S v1 v2 v3 v4 v5 all done A':=
 h.kb (p:=fun _=>True) (Kb.of_below hb fun _ h _=>h) fun _ _=>trivial
theorem SS.lt (h:SS w0 gt gd S v1 v2 v3 v4 v5 all done A){b:Nat}(hb:ssP w0 gt gd b):b<A.heap.size:=by
 rcases hb with hb | hb | hb
 ·exact Nat.lt_of_lt_of_le hb h.below.size
 ·rw[hb];exact h.tk.lt
 rw[hb];exact bLQ A ⟨gd,0,none⟩ h.dn
end
def prI (l:List Nat):List Int:=l.map fun s:Nat=>(s:Int)
theorem pr_len (l:List Nat):(prI l).length=l.length:=List.length_map ..
theorem pr_app (l:List Nat)(s:Nat):prI (l++[s])=prI l++[(s:Int)]:=by simp[prI]
theorem set_info:(Tryz.prog.info? 55).map (fun i=>(i.zero,i.size,i.bytes))=some (some (.int .i64 0),1,8):=by kernel_rfl
theorem seq_len (p:Nat→Bool):∀n,(seqL p n).length≤n
 | 0=>Nat.le_refl _
 | n+1=>by
   have:=seq_len p n;rw[seqL];by_cases h:p n=true
   ·rw[if_pos h,List.length_cons];omega
   rw[if_neg h];omega
theorem ys_next {sf:Nat→Nat→Bool}{all done s:Nat}(ha:all<64)(h0:0<s)(hs:s &&& mnS all done=s):seqL (ysB sf all done) s=seqL (ysB sf all done) (((s-1) &&& mnS all done)+1):=by
 have hl:=mn_lt (t:=done) ha;have h64:s<64:=by rw[←hs];exact Nat.lt_of_le_of_lt Nat.and_le_right hl
 refine seq_skip (by have:(s-1) &&& mnS all done≤s-1:=Nat.and_le_left;omega) fun k h1 h2=>?_
 cases e:ysB sf all done k
 ·rfl
 unfold ysB at e;simp only[Bool.and_eq_true,decide_eq_true_eq] at e;have:=down_le hl (by omega) h64 e.1.2 hs (by omega);omega
theorem part_any {s:Nat}(hs:s<64):∀{l:List Nat},(∀x∈l,x<64)→(prI l).any (fun x=>decide (bits .andNot .i64 (s:Int) x=0))=l.any (fun x=>decide (mnS s x=0))
 | [],_=>rfl
 | x :: l,h=>by
   have ih:=part_any hs (l:=l) fun y hy=>h y (List.mem_cons_of_mem _ hy)
   have e:bits .andNot .i64 (s:Int) (x:Int)=((mnS s x:Nat):Int):=bits_mn hs (h x (List.mem_cons_self ..));rw[prI,List.map_cons,List.any_cons,List.any_cons,e,←prI,ih]
   congr 1
   by_cases c:mnS s x=0
   ·simp[c]
   simp[c]
theorem part_safe {sf:Nat→Nat→Bool}{all done s:Nat}(hM:MoOK sf all){pre rest:List Nat}(hy:ysL sf all done=pre++rest)(hs:s<64)(h:pre.any (fun x=>decide (mnS s x=0))=true):sf done s=true:=by
 obtain⟨x,hx,h0⟩:=List.any_eq_true.1 h;have hm:x∈ysL sf all done:=by rw[hy];exact List.mem_append.2 (.inl hx)
 obtain⟨h1,_,_,h4⟩:=ys_mem.1 hm;refine hM done s x hs h1 (fun a k1 k2 k=>?_) h4;have e:=in_mn (s:=s) (t:=x) k1 k2;rw[of_decide_eq_true h0,in_0,k] at e;simpa using e.symm
def seV1 (_:World)(args:Array Value)(x:Nat):Prop:=args=#[.int .i64 (x:Int)]
structure SI (w0:World)(gt gd:Nat)(S:Int)(v1 v2 v3 v4 v5:Value)(all done:Nat)(sf:Nat→Nat→Bool)(J:Nat→(Nat→Prop)→World→Prop)(lo:Nat)(v:Value)(s gs:Nat)(pre:List Nat)(X:Nat→Prop)(A:World):Prop where
 ss:SS w0 gt gd S v1 v2 v3 v4 v5 all done A
 bx:Boxed A gs 55 (.int .i64 (s:Int))
 sub:s &&& mnS all done=s
 ys:ysL sf all done=pre++seqL (ysB sf all done) (s+1)
 ow:A.ownsRow lo 55 setE.n v (prI pre).length (cellsG setE (prI pre))
 j:J pre.length X A
 l1:lo≤gs
 l2:lo≤A.heap.size
 xs:¬X gs
 xo:∀b,v.ownBlock=some b→¬X b∧b≠gs
section
variable {w0:World}{gt gd:Nat}{S:Int}{v1 v2 v3 v4 v5:Value}{all done:Nat}{sf:Nat→Nat→Bool}{J:Nat→(Nat→Prop)→World→Prop}{lo:Nat}{v:Value}{s gs:Nat}{pre:List Nat}{X:Nat→Prop}{A A':World}
theorem SI.later (hJ:∀k X A A',J k X A→Kb (fun b=>b<lo∨X b) A A'→J k X A')(h:SI w0 gt gd S v1 v2 v3 v4 v5 all done sf J lo v s gs pre X A)(hb:Below A.heap.size A A'):SI w0 gt gd S v1 v2 v3 v4 v5 all done sf J lo v s gs pre X A':=
 ⟨h.ss.later hb,h.bx.kept (grown_below hb) (by simp),h.sub,h.ys,h.ow.kept (grown_below hb) (none_or _),hJ _ _ _ _ h.j (Kb.of_below hb fun b h _=>h),h.l1,Nat.le_trans h.l2 hb.size,h.xs,h.xo⟩
theorem SI.next (hJ:∀k X A A',J k X A→Kb (fun b=>b<lo∨X b) A A'→J k X A')(hX:∀k X A,J k X A→∀b,X b→b<A.heap.size)(ha:all<64)(h0:0<s)
 (ss:SS w0 gt gd S v1 v2 v3 v4 v5 all done A) (sub:s &&& mnS all done=s) (ys:ysL sf all done=pre++seqL (ysB sf all done) s) (ow:A.ownsRow lo 55 setE.n v (prI pre).length (cellsG setE (prI pre))) (j:J pre.length X A) (lo2:lo≤A.heap.size) (xo:∀b,v.ownBlock=some b→¬X b) {N:Nat} (hN:N=(s-1) &&& mnS all done):
 SI w0 gt gd S v1 v2 v3 v4 v5 all done sf J lo v N A.heap.size pre X (A.alloc (.cells #[.int .i64 (N:Int)] 55)):=by
 have hxn:¬X A.heap.size:=fun e=>by have:=hX _ _ _ j _ e;omega
 have hb:Below A.heap.size A (A.alloc (.cells #[.int .i64 (N:Int)] 55)):=(Below.refl _ A).alloc (Nat.le_refl _) _;refine⟨ss.later hb,Boxed.new A 55 (.int .i64 (N:Int)),by rw[hN,Nat.and_assoc,Nat.and_self],by rw[ys,ys_next ha h0 sub,hN],ow.kept (grown_below hb) (none_or _),hJ _ _ _ _ j (Kb.of_below hb fun b h _=>h),lo2,Nat.le_trans lo2 hb.size,hxn,fun b e=>⟨xo b e,fun e2=>?_⟩⟩;have:=(ow.lt b e).2;omega
structure SP (w0:World)(gt gd:Nat)(S:Int)(v1 v2 v3 v4 v5:Value)(all done:Nat)(sf:Nat→Nat→Bool)(J:Nat→(Nat→Prop)→World→Prop)(lo:Nat)(v:Value)(s gs:Nat)(pre:List Nat)(X:Nat→Prop)(A:World):Prop where
 ss:SS w0 gt gd S v1 v2 v3 v4 v5 all done A
 bx:Boxed A gs 55 (.int .i64 (s:Int))
 sub:s &&& mnS all done=s
 ys:ysL sf all done=(pre++[s])++seqL (ysB sf all done) s
 ow:A.ownsRow lo 55 setE.n v (prI (pre++[s])).length (cellsG setE (prI (pre++[s])))
 j:J pre.length X A
 l1:lo≤gs
 l2:lo≤A.heap.size
 xs:¬X gs
 xo:∀b,v.ownBlock=some b→¬X b∧b≠gs∧lo≤b
theorem SI.push (hJ:∀k X A A',J k X A→Kb (fun b=>b<lo∨X b) A A'→J k X A')(hX:∀k X A,J k X A→∀b,X b→b<A.heap.size)(hp:∀b,ssP w0 gt gd b→b<lo)(h0:0<s)(hsf:sf done s=true)
 (h:SI w0 gt gd S v1 v2 v3 v4 v5 all done sf J lo v s gs pre X A) (o:Obj) {v':Value} {n:Nat} (hn:(prI pre).length=n) (hown:A'.ownsRow lo 55 setE.n v' (n+1) (cellsG setE (prI pre)++[.int .i64 (s:Int)])) (hg:(A.alloc o).grownBy A' v.ownBlock) (hat:v'.ownBlock=v.ownBlock∨v'.ownBlock=some (A.heap.size+1)):
 SP w0 gt gd S v1 v2 v3 v4 v5 all done sf J lo v' s gs pre X A':=by
 have hrow:∀b,v.ownBlock=some b→lo≤b∧b<A.heap.size:=fun b e=>h.ow.lt b e
 have hk:Kb (fun b=>b<lo∨X b∨b=gs) A A':=((Kb.refl _ A).alloc o).grown hg fun b e _ hx=>by
  rcases hx with hx | hx | hx
  ·have:=(hrow b e).1;omega
  ·exact (h.xo b e).1 hx
  exact (h.xo b e).2 hx
 refine⟨h.ss.kb hk fun b hb=>.inl (hp b hb),hk.boxed h.bx (.inr (.inr rfl)),h.sub,?_,?_,hJ _ _ _ _ h.j (hk.mono fun b _ hb=>hb.imp id .inl),h.l1,Nat.le_trans h.l2 hk.size,h.xs,fun b e=>?_⟩
 ·rw[h.ys,seqL,if_pos (by unfold ysB;rw[hsf,decide_eq_true h.sub,decide_eq_true (show s≠0 by omega)];rfl),List.append_assoc];rfl
 ·rw[pr_app,List.length_append,cellsG_app,cellsG_one,hn];exact hown
 rcases hat with hat | hat
 ·rw[hat] at e;exact⟨(h.xo b e).1,(h.xo b e).2,(hrow b e).1⟩
 rw[hat] at e;cases e;have hgs:=h.bx.lt;have:=h.l2;exact⟨fun hx=>by have:=hX _ _ _ h.j _ hx;omega,by omega,by omega⟩
end
section
variable {w0:World}{gt gd:Nat}{S:Int}{v1 v2 v3 v4:Value}{bm all done:Nat}{Ls:List LkT}{Hs:List HoT}{As Bs:List (List Ru)}{ws:List Wi}{D:List Op8}
theorem sets_in (nn:Nat)(hnn:1≤nn)(hT:TskOK w0 v1 v2 v3 v4 bm Ls Hs As ws D)(hP:PlOK S Ls Hs As Bs ws D)(ha:all<64)(hd:done<64)(l:Nat)(J:Nat→(Nat→Prop)→World→Prop)(Jx:World→Prop)(W:World)
 (hss:SS w0 gt gd S v1 v2 v3 v4 (.map (some bm)) all done W) (h0:J 0 (fun _=>False) W) (hX:∀k X A,J k X A→∀b,X b→b<A.heap.size)
 (hJ:∀k X A A',J k X A→Kb (fun b=>b<W.heap.size∨X b) A A'→J k X A') (hJx:∀A A',Jx A→Kb (fun _=>True) A A'→Jx A')
 (hY:∀k X A args x (Y:Nat→Prop),J k X A→(ysL (sfB Ls Hs As Bs ws) all done)[k]?=some x→seV1 A args x→W.heap.size≤A.heap.size→(∀b,Y b→W.heap.size≤b∧¬X b)→YieldAt Fence.wide 0 Tryz.prog l args A fun e A' =>
  (e=.returned (.bool true)∧(∃X',J (k+1) X' A'∧∀b,X' b→X b∨A.heap.size≤b)∧Kb (fun b=>ssP w0 gt gd b∨Y b) A A')∨(e=.returned (.bool false)∧Jx A'∧Kb (fun b=>ssP w0 gt gd b∨Y b) A A')):
 CallsIn Fence.wide nn Tryz.prog 67 #[.func (.yield l) #[] #[],.pointer (some ⟨gt,0,none⟩),.pointer (some ⟨gd,0,none⟩)] W fun e W'=>(∃v,e=.returned v)∧((∃X,J (ysL (sfB Ls Hs As Bs ws) all done).length X W')∨Jx W'):=by
 obtain⟨ao,n,cap,ao2,n2,cap2,ao3,n3,cap3,rfl,rfl,rfl⟩:=hT.n.form;obtain⟨a4,n4,c4,rfl,_⟩:=hT.w.form;obtain⟨sf,hsf⟩:∃f,f=sfB Ls Hs As Bs ws:=⟨_,rfl⟩;have HM:Hid (MoOK sf all):=by show MoOK sf all;rw[hsf];exact sf_mono hP all
 have HIS:Hid (∀(s:Nat) A,s<64→(∀a,1≤a→a≤6→inS s a=true→inS done a=false)→Below w0.heap.size w0 A→Calls Tryz.prog 26 #[.agg #[.int .i64 S,.slice ao n cap,.slice ao2 n2 cap2,.slice ao3 n3 cap3,.slice a4 n4 c4,.map (some bm),.int .i64 (all:Int)],.int .i64 (done:Int),.int .i64 (s:Int)] A fun e w'=>e=.returned (.bool (sf done s))∧Below A.heap.size A w'):=fun s A hs hds hA=>by
  rw[hsf];exact isSafe_any S _ _ _ _ bm all done s Ls Hs As Bs ws D A (hT.later hA) hP hd hs hds
 rw[←hsf] at hY ⊢;clear hsf hT hP;obtain⟨lo,hlo⟩:∃lo,lo=W.heap.size:=⟨_,rfl⟩;rw[←hlo] at hJ hY;have HP:Hid (∀b,ssP w0 gt gd b→b<lo):=fun b h=>by rw[hlo];exact hss.lt h
 have HJ:Hid (∀k X A A',J k X A→Kb (fun b=>b<lo∨X b) A A'→J k X A'):=hJ;have HX:Hid (∀k X A,J k X A→∀b,X b→b<A.heap.size):=hX;have HY:Hid (∀k X A args x (Y:Nat→Prop),J k X A→(ysL sf all done)[k]?=some x→seV1 A args x→lo≤A.heap.size→(∀b,Y b→lo≤b∧¬X b)→YieldAt Fence.wide 0 Tryz.prog l args A fun e A' =>
  (e=.returned (.bool true)∧(∃X',J (k+1) X' A'∧∀b,X' b→X b∨A.heap.size≤b)∧Kb (fun b=>ssP w0 gt gd b∨Y b) A A')∨(e=.returned (.bool false)∧Jx A'∧Kb (fun b=>ssP w0 gt gd b∨Y b) A A')):=hY
 have HA:Hid (all<64∧done<64):=⟨ha,hd⟩;obtain⟨Lf,hLf⟩:∃L,L=mnS all done:=⟨_,rfl⟩;have HLf:Hid (mnS all done=Lf):=hLf.symm;have hm:bits .andNot .i64 (all:Int) (done:Int)=(Lf:Int):=by rw[hLf];exact bits_mn ha hd
 have HL64:Hid (Lf<64):=by show _<_;rw[hLf];exact mn_lt ha
 obtain⟨i0,hi,hz0,hz1,hz2⟩:=info_parts set_info;have HI:Hid (Tryz.prog.info? 55=some i0∧i0.zero=some (.int .i64 0)∧i0.size=setE.n∧i0.bytes=8):=⟨hi,hz0,hz1,hz2⟩;have HS0:Hid (SI w0 gt gd S (.slice ao n cap) (.slice ao2 n2 cap2) (.slice ao3 n3 cap3) (.slice a4 n4 c4) (.map (some bm)) all done sf J lo (.slice none 0 0) Lf W.heap.size [] (fun _=>False) (W.alloc (.cells #[.int .i64 (Lf:Int)] 55))):=by
  have hb:Below W.heap.size W (W.alloc (.cells #[.int .i64 (Lf:Int)] 55)):=(Below.refl _ W).alloc (Nat.le_refl _) _;refine⟨hss.later hb,Boxed.new W 55 (.int .i64 (Lf:Int)),by rw[hLf,Nat.and_self],?_,World.ownsRow_nil _ _ _ _,hJ _ _ _ _ h0 (Kb.of_below hb fun b h _=>h),by rw[hlo];exact Nat.le_refl _,by rw[hlo];simp,fun h=>h,fun b h=>by cases h⟩;rw[List.nil_append,ysL];refine (seq_skip (by have:=HL64.out;omega) fun k h1 h2=>?_);cases e:ysB sf all done k
  ·rfl
  unfold ysB at e;simp only[Bool.and_eq_true,decide_eq_true_eq] at e;have e2:=e.1.2;rw[←hLf] at e2;have:k &&& Lf≤Lf:=Nat.and_le_right;omega
 have c6:=hss.tk.c6;have cd:=hss.dn;clear hss h0 hX hJ hY ha hd hLf hi hz0 hz1 hz2 hlo;refine callsIn_of_wp Tryz.func67 rfl trivial ?_ rfl;simp only[Tryz.ntmps67,List.size_toArray,List.length_cons,List.length_nil,Nat.reduceAdd,Nat.reduceSub,Array.replicate_succ,Array.replicate_zero,List.push_toArray,List.append_toArray,List.nil_append,List.cons_append]
 gi_wp2
 clear c6 cd hm
 gi_loopw [4,6] (fun v q wr=>∃(s gs:Nat) (pre:List Nat) (X:Nat→Prop),q=.pointer (some ⟨gs,0,none⟩)∧SI w0 gt gd S (.slice ao n cap) (.slice ao2 n2 cap2) (.slice ao3 n3 cap3) (.slice a4 n4 c4) (.map (some bm)) all done sf J lo v s gs pre X wr) (fun _ q wr=>bxN wr q)
 case atStart=>exact⟨Lf,_,[],_,rfl,HS0.out⟩
 case round =>
  obtain⟨s,gs,pre,X,rfl,hS⟩:=hrel;have HS:Hid (SI w0 gt gd S (.slice ao n cap) (.slice ao2 n2 cap2) (.slice ao3 n3 cap3) (.slice a4 n4 c4) (.map (some bm)) all done sf J lo u4 s gs pre X wr):=hS;have cs:=hS.bx.cell;clear hS HS0;by_cases hs0:0<s
  ·have hs1:(0:Int)<(s:Int):=by omega
   obtain⟨ao5,n5,cap5,rfl,hn5,hm5,_,ha5⟩:=(own_GS HS.out.ow).form;have HN5:Hid ((prI pre).length=n5):=hn5;have H64:Hid (s<64):=by
    show s<64;rw[←HS.out.sub,HLf.out];exact Nat.lt_of_le_of_lt Nat.and_le_right HL64.out
   have HLN:Hid (n5≤64):=by
    show n5≤64;have h1:=congrArg List.length HS.out.ys;have h2:=seq_len (ysB sf all done) 64;rw[List.length_append] at h1;rw[ysL] at h1;rw[←hn5,pr_len];omega
   obtain⟨r,hr⟩:∃r,r=s-1:=⟨_,rfl⟩;obtain⟨N,hN⟩:∃N,N=r &&& Lf:=⟨_,rfl⟩;have HNN:Hid (N=(s-1) &&& mnS all done):=by show N=_;rw[HLf.out,←hr];exact hN
   have HNS:Hid (N<s):=by
    show N<s;have:r &&& Lf≤r:=Nat.and_le_left;omega
   have hw1:IntKind.i64.wrap ((s:Int)-1)=(r:Int):=by rw[IntKind.wrap_i64];have:=H64.out;omega
   have hw2:wrap64 ((s:Int)-1)=(r:Int):=by unfold wrap64;have:=H64.out;omega
   have hw3:bits .and .i64 (r:Int) (Lf:Int)=(N:Int):=by
    rw[hN];exact bits_and (by have:=H64.out;omega) HL64.out
   have HDS:Hid (∀a,1≤a→a≤6→inS s a=true→inS done a=false):=fun a h1 h2 h3=>by
    have:=(sub_and H64.out).1 HS.out.sub a h1 h2 h3;rw[in_mn h1 h2] at this;simp only[Bool.and_eq_true,Bool.not_eq_true'] at this;exact this.2
   clear hr hN hn5
   gi_wp2_with fail
   refine⟨trivial,(callsIn_wide.2 (set_hasF ao5 n5 cap5 _ _ (fun x=>decide (bits .andNot .i64 (s:Int) x=0)) (prI pre) _ HN5.out hm5 ha5 (enters_of Tryz.func69 (by kernel_rfl) rfl) (part_asks gs s wr HS.out.bx.cell))).mono ?_⟩;rintro e w2 ⟨rfl,hb2⟩;rw[part_any H64.out (fun x hx=>(ys_mem.1 (show x∈ysL sf all done by rw[HS.out.ys];exact List.mem_append.2 (.inl hx))).1)];have hS2:=HS.out.later HJ.out hb2;have HS2:Hid (SI w0 gt gd S (.slice ao n cap) (.slice ao2 n2 cap2) (.slice ao3 n3 cap3) (.slice a4 n4 c4) (.map (some bm)) all done sf J lo (.slice ao5 n5 cap5) s gs pre X w2):=hS2;obtain⟨T,hT⟩:∃T,T=sf done s:=⟨_,rfl⟩;have HT:Hid (sf done s=T):=hT.symm;obtain⟨PA,hPA⟩:∃P,P=pre.any (fun x=>decide (mnS s x=0)):=⟨_,rfl⟩;have HPA:Hid (PA=true→T=true):=fun h=>by rw[hT];exact part_safe HM.out HS.out.ys H64.out (by rw[←hPA];exact h)
   rw[←hPA];clear hPA hT hb2 hm5 ha5 cs;cases PA with
   | true =>
     have HTT:Hid (sf done s=true):=HT.out.trans (HPA.out rfl);have HS3:Hid (SI w0 gt gd S (.slice ao n cap) (.slice ao2 n2 cap2) (.slice ao3 n3 cap3) (.slice a4 n4 c4) (.map (some bm)) all done sf J lo (.slice ao5 n5 cap5) s gs pre X w2):=hS2;have cs:=HS3.out.bx.cell;clear hS2
     gi_wp2_with fail
     refine⟨trivial,?_⟩
     go_at_K
     gi_wp2_with (gi_at_builtin;refine wpListIn_append_own_at _ rfl _ _ 149 rfl lo 55 i0 (.int .i64 0) setE.n 8 Tryz.underlying149 HI.out.1 HI.out.2.1 HI.out.2.2.1 HI.out.2.2.2 (by simp[Value.cells];rfl) (by decide) _ n5 (cellsG setE (prI pre)) rfl ?o1 ⟨w2.heap.size,0,none⟩ 1 1 [.int .i64 (s:Int)] rfl rfl ?c1 ?c2 ?c3 ?c4 ?c5 (setStop ?k))
     case o1=>exact (by have:=HS3.out.ow;rw[HN5.out] at this;exact this.alloc _)
     case c1=>exact cell_one_new _ _ _
     case c2=>simp[Value.oneCell']
     case c3=>have:=HLN.out;unfold maxLen;omega
     case c4=>have:=HLN.out;omega
     case c5=>have:=HS3.out.l2;simp;omega
     case k =>
      refine setGo ?_;intro v5 w4 hown5 hg5 _ hat5;have hP:=HS3.out.push HJ.out HX.out HP.out hs0 HTT.out _ HN5.out hown5 hg5 hat5;have HPP:Hid (SP w0 gt gd S (.slice ao n cap) (.slice ao2 n2 cap2) (.slice ao3 n3 cap3) (.slice a4 n4 c4) (.map (some bm)) all done sf J lo v5 s gs pre X w4):=hP;have hy:=yield_any (m':=nn-1) (HY.out pre.length X w4 #[.int .i64 (s:Int)] s (fun b=>b=gs∨v5.ownBlock=some b) hP.j (by rw[hP.ys,List.append_assoc];simp) rfl hP.l2 (fun b hb=>by rcases hb with rfl | hb;exact⟨hP.l1,hP.xs⟩;exact⟨(hP.xo b hb).2.2,(hP.xo b hb).1⟩));obtain⟨fn,tmps,assign,body,hyr,hR⟩:=hy;have cs:=hP.bx.cell;clear hP hown5 hg5 hat5
      gi_wp2
      refine hR.mono ?_;rintro e5 w5 (⟨rfl,⟨X',hj5,hX5⟩,hk5⟩ | ⟨rfl,hjx,hk5⟩)
      ·have HN6:Hid (SI w0 gt gd S (.slice ao n cap) (.slice ao2 n2 cap2) (.slice ao3 n3 cap3) (.slice a4 n4 c4) (.map (some bm)) all done sf J lo v5 N w5.heap.size (pre++[s]) X' (w5.alloc (.cells #[.int .i64 (N:Int)] 55))):=by
        have hP:=HPP.out;have h4:=hP.l2;refine SI.next HJ.out HX.out HA.out.1 hs0 (hP.ss.kb hk5 fun b h=>.inl h) hP.sub hP.ys (own_kb hP.ow hk5 fun b h=>.inr (.inr h)) (by rw[List.length_append];exact hj5) (Nat.le_trans h4 hk5.size) (fun b e hx=>?_) HNN.out
        rcases hX5 b hx with h | h
        ·exact (hP.xo b e).1 h
        have:=(hP.ow.lt b e).2;omega
       have cs:=hk5.at HPP.out.bx.cell (.inr (.inl rfl));clear hj5 hX5 hk5
       gi_wp2
       go_roundw
       case rel=>exact⟨N,_,_,_,rfl,HN6.out⟩
       case measure =>
        show bxN _ _<bxN _ _;rw[bxN_of HS.out.bx.cell,bxN_of (s:=N) (by simp)];exact HNS.out
      clear hk5
      gi_wp2
      refine bodyPost_ret (results_none rfl _ _ _) rfl ?_;exact⟨⟨_,rfl⟩,.inr hjx⟩
   | false =>
     have c0:=hS2.ss.tk.c0;have c1:=hS2.ss.tk.c1;have c2:=hS2.ss.tk.c2;have c3:=hS2.ss.tk.c3;have c4':=hS2.ss.tk.c4;have c5:=hS2.ss.tk.c5;have c6:=hS2.ss.tk.c6;have cd:=hS2.ss.dn;have cs:=hS2.bx.cell;clear hS2
     gi_wp2_with fail
     refine⟨trivial,(callsIn_wide.2 (HIS.out s _ H64.out HDS.out HS2.out.ss.below)).mono ?_⟩;rintro e w3 ⟨rfl,hb3⟩;rw[HT.out];have hS3:=HS2.out.later HJ.out hb3;clear hb3 c0 c1 c2 c3 c4' c5 c6 cd cs;cases T with
     | true =>
       have HTT:Hid (sf done s=true):=HT.out;have HS3:Hid (SI w0 gt gd S (.slice ao n cap) (.slice ao2 n2 cap2) (.slice ao3 n3 cap3) (.slice a4 n4 c4) (.map (some bm)) all done sf J lo (.slice ao5 n5 cap5) s gs pre X w3):=hS3;have cs:=HS3.out.bx.cell;clear hS3
       gi_wp2_with (gi_at_builtin;refine wpListIn_append_own_at _ rfl _ _ 149 rfl lo 55 i0 (.int .i64 0) setE.n 8 Tryz.underlying149 HI.out.1 HI.out.2.1 HI.out.2.2.1 HI.out.2.2.2 (by simp[Value.cells];rfl) (by decide) _ n5 (cellsG setE (prI pre)) rfl ?o1 ⟨w3.heap.size,0,none⟩ 1 1 [.int .i64 (s:Int)] rfl rfl ?c1 ?c2 ?c3 ?c4 ?c5 (setStop ?k))
       case o1=>exact (by have:=HS3.out.ow;rw[HN5.out] at this;exact this.alloc _)
       case c1=>exact cell_one_new _ _ _
       case c2=>simp[Value.oneCell']
       case c3=>have:=HLN.out;unfold maxLen;omega
       case c4=>have:=HLN.out;omega
       case c5=>have:=HS3.out.l2;simp;omega
       case k =>
        refine setGo ?_;intro v5 w4 hown5 hg5 _ hat5;have hP:=HS3.out.push HJ.out HX.out HP.out hs0 HTT.out _ HN5.out hown5 hg5 hat5;have HPP:Hid (SP w0 gt gd S (.slice ao n cap) (.slice ao2 n2 cap2) (.slice ao3 n3 cap3) (.slice a4 n4 c4) (.map (some bm)) all done sf J lo v5 s gs pre X w4):=hP;have hy:=yield_any (m':=nn-1) (HY.out pre.length X w4 #[.int .i64 (s:Int)] s (fun b=>b=gs∨v5.ownBlock=some b) hP.j (by rw[hP.ys,List.append_assoc];simp) rfl hP.l2 (fun b hb=>by rcases hb with rfl | hb;exact⟨hP.l1,hP.xs⟩;exact⟨(hP.xo b hb).2.2,(hP.xo b hb).1⟩));obtain⟨fn,tmps,assign,body,hyr,hR⟩:=hy;have cs:=hP.bx.cell;clear hP hown5 hg5 hat5
        gi_wp2
        refine hR.mono ?_;rintro e5 w5 (⟨rfl,⟨X',hj5,hX5⟩,hk5⟩ | ⟨rfl,hjx,hk5⟩)
        ·have HN6:Hid (SI w0 gt gd S (.slice ao n cap) (.slice ao2 n2 cap2) (.slice ao3 n3 cap3) (.slice a4 n4 c4) (.map (some bm)) all done sf J lo v5 N w5.heap.size (pre++[s]) X' (w5.alloc (.cells #[.int .i64 (N:Int)] 55))):=by
          have hP:=HPP.out;have h4:=hP.l2;refine SI.next HJ.out HX.out HA.out.1 hs0 (hP.ss.kb hk5 fun b h=>.inl h) hP.sub hP.ys (own_kb hP.ow hk5 fun b h=>.inr (.inr h)) (by rw[List.length_append];exact hj5) (Nat.le_trans h4 hk5.size) (fun b e hx=>?_) HNN.out
          rcases hX5 b hx with h | h
          ·exact (hP.xo b e).1 h
          have:=(hP.ow.lt b e).2;omega
         have cs:=hk5.at HPP.out.bx.cell (.inr (.inl rfl));clear hj5 hX5 hk5
         gi_wp2
         go_roundw
         case rel=>exact⟨N,_,_,_,rfl,HN6.out⟩
         case measure =>
          show bxN _ _<bxN _ _;rw[bxN_of HS.out.bx.cell,bxN_of (s:=N) (by simp)];exact HNS.out
        clear hk5
        gi_wp2
        refine bodyPost_ret (results_none rfl _ _ _) rfl ?_;exact⟨⟨_,rfl⟩,.inr hjx⟩
     | false =>
       have HN6:Hid (SI w0 gt gd S (.slice ao n cap) (.slice ao2 n2 cap2) (.slice ao3 n3 cap3) (.slice a4 n4 c4) (.map (some bm)) all done sf J lo (.slice ao5 n5 cap5) N w3.heap.size pre X (w3.alloc (.cells #[.int .i64 (N:Int)] 55))):=by
        refine SI.next HJ.out HX.out HA.out.1 hs0 hS3.ss hS3.sub ?_ hS3.ow hS3.j hS3.l2 (fun b e=>(hS3.xo b e).1) HNN.out;rw[hS3.ys,seqL,if_neg (by unfold ysB;rw[HT.out];simp)]
       have cs:=hS3.bx.cell;clear hS3
       gi_wp2
       go_roundw
       case rel=>exact⟨N,_,_,_,rfl,HN6.out⟩
       case measure =>
        show bxN _ _<bxN _ _;rw[bxN_of HS.out.bx.cell,bxN_of (s:=N) (by simp)];exact HNS.out
  have e0:s=0:=by omega
  subst e0
  gi_wp2
  go_end0
  refine⟨⟨_,rfl⟩,.inl ⟨X,?_⟩⟩;have hy:=HS.out.ys;have e1:seqL (ysB sf all done) (0+1)=[]:=by
   show (if ysB sf all done 0=true then 0 :: seqL _ 0 else seqL _ 0)=[];rw[if_neg (by unfold ysB;simp)];rfl
  rw[e1,List.append_nil] at hy;rw[hy];exact HS.out.j
end
end
section
open Go.RowKit Go.Shelf
attribute [local go_sem] Oper.semAt_some
def setKey:KeyE Tryz.prog 55 Int:=
 KeyE.now (fun k=>.int .i64 k) qI qI_iff (fun e k w=>Go.MapKept.run_checkKey Tryz.underlying55 (by simp[Go.MapKept.IsKey]) e 9999) _ Tryz.underlying55 (fun a b=>by simp[Instr.sameNow,qI]) (fun k=>by simp[Instr.sameBits])
def crV (c:Nat×Nat):Value:=.agg #[.int .i64 (c.1:Int),.int .i64 (c.2:Int)]
def KN (sf:Nat→Nat→Bool)(all bk:Nat)(W:World):Prop:=∃M,MAt setKey crV W bk M∧∀d:Nat,DnOK all d→∀c,mget setKey.q (d:Int) M=some c→c=shC sf all d
theorem KN.kb {sf:Nat→Nat→Bool}{all bk:Nat}{W W':World}{p:Nat→Prop}(h:KN sf all bk W)(hk:Kb p W W')(hp:p bk):KN sf all bk W':=by
 obtain⟨M,⟨es,cl,h1,h2⟩,h3⟩:=h;exact⟨M,⟨es,cl,(hk.block bk (Array.getElem?_eq_some_iff.1 h1).1 hp).trans h1,h2⟩,h3⟩
theorem KN.lt {sf:Nat→Nat→Bool}{all bk:Nat}{W:World}(h:KN sf all bk W):bk<W.heap.size:=by
 obtain⟨M,h1,_⟩:=h;exact h1.lt
theorem sets_val (S:Int)(ao:Option Addr)(n cap:Nat)(ao2:Option Addr)(n2 cap2:Nat)(ao3:Option Addr)(n3 cap3:Nat)(a4:Option Addr)(n4 c4 bm all done:Nat)(w:World):
 Calls Tryz.prog 41 #[.agg #[.int .i64 S,.slice ao n cap,.slice ao2 n2 cap2,.slice ao3 n3 cap3,.slice a4 n4 c4,.map (some bm),.int .i64 (all:Int)],.int .i64 (done:Int)] w fun e w'=>e=.returned (.func (.func 67) #[] #[.pointer (some ⟨w.heap.size,0,none⟩),.pointer (some ⟨w.heap.size+1,0,none⟩)]) ∧
  w'=(w.alloc (.cells #[.int .i64 S,.slice ao n cap,.slice ao2 n2 cap2,.slice ao3 n3 cap3,.slice a4 n4 c4,.map (some bm),.int .i64 (all:Int)] 57)).alloc (.cells #[.int .i64 (done:Int)] 55):=by
 go_enter Tryz.func41,Tryz.ntmps41;go_wp2;go_ret;exact⟨rfl,rfl⟩
theorem sets_it {w0:World}{gt gd:Nat}{S:Int}{v1 v2 v3 v4:Value}{bm all done:Nat}{Ls:List LkT}{Hs:List HoT}{As Bs:List (List Ru)}{ws:List Wi}{D:List Op8}
 (hT:TskOK w0 v1 v2 v3 v4 bm Ls Hs As ws D) (hP:PlOK S Ls Hs As Bs ws D) (ha:all<64) (hd:done<64):
 ItQ Tryz.prog 67 #[.pointer (some ⟨gt,0,none⟩),.pointer (some ⟨gd,0,none⟩)] seV1 (SS w0 gt gd S v1 v2 v3 v4 (.map (some bm)) all done) (ssP w0 gt gd) (ysL (sfB Ls Hs As Bs ws) all done):=
 fun l J Jx W hss h0 hX hJ hJx hY=>(callsIn_wide (n:=4)).1 (sets_in 4 (by omega) hT hP ha hd l J Jx W hss h0 hX hJ hJx hY)
structure C2 (A:World)(g:Nat)(x y:Value):Prop where
 c0:A.cell? ⟨g,0,none⟩=some x
 c1:A.cell? ⟨g,1,none⟩=some y
 f:∀i,A.frozen? ⟨g,i,none⟩=false
section
variable {A A':World}{g:Nat}{x y:Value}
theorem C2.lt (h:C2 A g x y):g<A.heap.size:=bLQ A ⟨g,0,none⟩ h.c0
theorem C2.kb {p:Nat→Prop}(h:C2 A g x y)(hk:Kb p A A')(hp:p g):C2 A' g x y:=⟨hk.at h.c0 hp,hk.at h.c1 hp,fun i=>by rw[hk.frozen (q:=⟨g,i,none⟩) h.lt hp];exact h.f i⟩
theorem c2_new (A:World)(x y:Value)(t:TypeId):C2 (A.alloc (.cells #[x,y] t)) A.heap.size x y:=⟨by simp,by simp,fun i=>by simp⟩
theorem C2.put (h:C2 A g x y)(x' y':Value):C2 ((A.setCell ⟨g,0,none⟩ x').setCell ⟨g,1,none⟩ y') g x' y':=
 ⟨cellOff (by decide) (cellSame h.c0),cellSame (cellOff (by decide) h.c1),fun i=>by rw[frozSet,frozSet];exact h.f i⟩
theorem kb_put {p:Nat→Prop}(hp:g<A.heap.size→¬p g)(x y:Value):Kb p A ((A.setCell ⟨g,0,none⟩ x).setCell ⟨g,1,none⟩ y):=
 ((Kb.refl p A).setCell (q:=⟨g,0,none⟩) hp x).setCell (q:=⟨g,1,none⟩) hp y
end
structure SB (W:World)(bk:Nat)(S:Int)(v1 v2 v3 v4 v5:Value)(sf:Nat→Nat→Bool)(all done:Nat)(b:Nat×Nat)(A:World):Prop where
 kb:Kb (fun x=>x≠bk) W A
 sz:W.heap.size+6≤A.heap.size
 kn:KN sf all bk A
 tk:TkB A W.heap.size S v1 v2 v3 v4 v5 (all:Int)
 dn:Boxed A (W.heap.size+1) 55 (.int .i64 (done:Int))
 kc:Boxed A (W.heap.size+1+1) 73 (.map (some bk))
 rs:C2 A (W.heap.size+1+1+1) (.int .i64 0) (.int .i64 0)
 bs:C2 A (W.heap.size+1+1+1+1+1) (.int .i64 (b.1:Int)) (.int .i64 (b.2:Int))
section
variable {W:World}{bk:Nat}{S:Int}{v1 v2 v3 v4 v5:Value}{sf:Nat→Nat→Bool}{all done:Nat}{b:Nat×Nat}{A A':World}
theorem SB.keep (h:SB W bk S v1 v2 v3 v4 v5 sf all done b A){p:Nat→Prop}(hk:Kb p A A')(hp:∀x,x<W.heap.size+6→p x)(hbk:bk<W.heap.size):SB W bk S v1 v2 v3 v4 v5 sf all done b A':=by
 have hz:=h.sz;exact⟨⟨hk.os.trans h.kb.os,hk.tape.trans h.kb.tape,hk.output.trans h.kb.output,Nat.le_trans h.kb.size hk.size,fun k h1 h2=>(hk.block k (by omega) (hp k (by omega))).trans (h.kb.block k h1 h2)⟩,Nat.le_trans hz hk.size,h.kn.kb hk (hp _ (by omega)),h.tk.kb hk (hp _ (by omega)),hk.boxed h.dn (hp _ (by omega)),hk.boxed h.kc (hp _ (by omega)),h.rs.kb hk (hp _ (by omega)),h.bs.kb hk (hp _ (by omega))⟩
theorem SB.know (h:SB W bk S v1 v2 v3 v4 v5 sf all done b A)(hk:Kb (fun x=>x≠bk) A A')(hn:KN sf all bk A')(hbk:bk<W.heap.size):SB W bk S v1 v2 v3 v4 v5 sf all done b A':=by
 have hz:=h.sz;exact⟨h.kb.trans hk,Nat.le_trans hz hk.size,hn,h.tk.kb hk (show _≠_ by omega),hk.boxed h.dn (show _≠_ by omega),hk.boxed h.kc (show _≠_ by omega),h.rs.kb hk (show _≠_ by omega),h.bs.kb hk (show _≠_ by omega)⟩
theorem SB.put (h:SB W bk S v1 v2 v3 v4 v5 sf all done b A)(hbk:bk<W.heap.size)(c:Nat×Nat):SB W bk S v1 v2 v3 v4 v5 sf all done c ((A.setCell ⟨W.heap.size+1+1+1+1+1,0,none⟩ (.int .i64 (c.1:Int))).setCell ⟨W.heap.size+1+1+1+1+1,1,none⟩ (.int .i64 (c.2:Int))):=by
 have hz:=h.sz;have hk:Kb (fun x=>x≠W.heap.size+1+1+1+1+1) A ((A.setCell ⟨W.heap.size+1+1+1+1+1,0,none⟩ (.int .i64 (c.1:Int))).setCell ⟨W.heap.size+1+1+1+1+1,1,none⟩ (.int .i64 (c.2:Int))):=kb_put (fun _ hx=>hx rfl) _ _;exact⟨⟨hk.os.trans h.kb.os,hk.tape.trans h.kb.tape,hk.output.trans h.kb.output,Nat.le_trans h.kb.size hk.size,fun k h1 h2=>(hk.block k (by omega) (show _≠_ by omega)).trans (h.kb.block k h1 h2)⟩,Nat.le_trans hz hk.size,h.kn.kb hk (show _≠_ by omega),h.tk.kb hk (show _≠_ by omega),hk.boxed h.dn (show _≠_ by omega),hk.boxed h.kc (show _≠_ by omega),h.rs.kb hk (show _≠_ by omega),h.bs.put _ _⟩
end
structure S4 (W:World)(bk:Nat)(S:Int)(v1 v2 v3 v4 v5:Value)(sf:Nat→Nat→Bool)(all done:Nat)(A:World):Prop where
 below:Below W.heap.size W A
 sz:A.heap.size=W.heap.size+4
 kn:KN sf all bk A
 tk:TkB A W.heap.size S v1 v2 v3 v4 v5 (all:Int)
 dn:Boxed A (W.heap.size+1) 55 (.int .i64 (done:Int))
 kc:Boxed A (W.heap.size+1+1) 73 (.map (some bk))
 rs:C2 A (W.heap.size+1+1+1) (.int .i64 0) (.int .i64 0)
section
variable {W:World}{bk:Nat}{S:Int}{v1 v2 v3 v4 v5:Value}{sf:Nat→Nat→Bool}{all done:Nat}{A:World}
theorem s4_new (h:KN sf all bk W):S4 W bk S v1 v2 v3 v4 v5 sf all done ((((W.alloc (.cells #[.int .i64 S,v1,v2,v3,v4,v5,.int .i64 (all:Int)] 57)).alloc (.cells #[.int .i64 (done:Int)] 55)).alloc (.cells #[.map (some bk)] 73)).alloc (.cells #[.int .i64 0,.int .i64 0] 75)):=by
 have hb:∀(W:World) (o:Obj),Below W.heap.size W (W.alloc o):=fun W o=>(Below.refl _ _).alloc (Nat.le_refl _) _
 have k1:=tkb_new W S v1 v2 v3 v4 v5 (all:Int) 57;have b1:=hb W (.cells #[.int .i64 S,v1,v2,v3,v4,v5,.int .i64 (all:Int)] 57);have e1:=World.size_alloc W (.cells #[.int .i64 S,v1,v2,v3,v4,v5,.int .i64 (all:Int)] 57)
 generalize W.alloc (.cells #[.int .i64 S,v1,v2,v3,v4,v5,.int .i64 (all:Int)] 57)=A1 at *
 have k2:=Boxed.new A1 55 (.int .i64 (done:Int));have b2:=hb A1 (.cells #[.int .i64 (done:Int)] 55);have e2:=World.size_alloc A1 (.cells #[.int .i64 (done:Int)] 55)
 generalize A1.alloc (.cells #[.int .i64 (done:Int)] 55)=A2 at *
 have k3:=Boxed.new A2 73 (.map (some bk));have b3:=hb A2 (.cells #[.map (some bk)] 73);have e3:=World.size_alloc A2 (.cells #[.map (some bk)] 73)
 generalize A2.alloc (.cells #[.map (some bk)] 73)=A3 at *
 have k4:=c2_new A3 (.int .i64 0) (.int .i64 0) 75;have b4:=hb A3 (.cells #[.int .i64 0,.int .i64 0] 75);have e4:=World.size_alloc A3 (.cells #[.int .i64 0,.int .i64 0] 75)
 generalize A3.alloc (.cells #[.int .i64 0,.int .i64 0] 75)=A4 at *
 rw[e1] at k2;rw[e2,e1] at k3;rw[e3,e2,e1] at k4;have b14:Below W.heap.size W A4:=((b1.trans (b2.mono (by omega))).trans (b3.mono (by omega))).trans (b4.mono (by omega));refine⟨b14,by omega,h.kb (p:=fun _=>True) (Kb.of_below b14 fun _ h _=>h) trivial,((k1.later b2).later b3).later b4,(k2.kept (grown_below b3) (by simp)).kept (grown_below b4) (by simp),k3.kept (grown_below b4) (by simp),k4⟩
theorem S4.sb (h:S4 W bk S v1 v2 v3 v4 v5 sf all done A)(hbk:bk<W.heap.size)(x y:Value)(b:Nat×Nat):SB W bk S v1 v2 v3 v4 v5 sf all done b ((A.alloc (.cells #[x,y] 75)).alloc (.cells #[.int .i64 (b.1:Int),.int .i64 (b.2:Int)] 75)):=by
 have hb:∀(W:World) (o:Obj),Below W.heap.size W (W.alloc o):=fun W o=>(Below.refl _ _).alloc (Nat.le_refl _) _
 have b1:=hb A (.cells #[x,y] 75);have e1:=World.size_alloc A (.cells #[x,y] 75)
 generalize A.alloc (.cells #[x,y] 75)=A1 at *
 have k2:=c2_new A1 (.int .i64 (b.1:Int)) (.int .i64 (b.2:Int)) 75;have b2:=hb A1 (.cells #[.int .i64 (b.1:Int),.int .i64 (b.2:Int)] 75);have e2:=World.size_alloc A1 (.cells #[.int .i64 (b.1:Int),.int .i64 (b.2:Int)] 75)
 generalize A1.alloc (.cells #[.int .i64 (b.1:Int),.int .i64 (b.2:Int)] 75)=A2 at *
 have hz:=h.sz;have b12:Below A.heap.size A A2:=b1.trans (b2.mono (by omega));have hk:Kb (fun _=>True) A A2:=Kb.of_below b12 fun _ h _=>h
 rw[e1,hz] at k2;exact⟨(Kb.of_below (h.below.trans (b12.mono (by omega))) fun _ h _=>h),by omega,h.kn.kb hk trivial,h.tk.kb hk trivial,hk.boxed h.dn trivial,hk.boxed h.kc trivial,h.rs.kb hk trivial,k2⟩
end
theorem below5 (W:World)(a b c d e:Obj):Below W.heap.size W (((((W.alloc a).alloc b).alloc c).alloc d).alloc e):=
 (((((Below.refl _ W).alloc (Nat.le_refl _) a).alloc (by simp) b).alloc (by simp;omega) c).alloc (by simp;omega) d).alloc (by simp;omega) e
theorem below_two (W:World)(a b:Obj):Below W.heap.size W ((W.alloc a).alloc b):=((Below.refl _ W).alloc (Nat.le_refl _) a).alloc (by simp) b
theorem sh_7 {sf:Nat→Nat→Bool}{all d:Nat}(ha:all<64)(hd:DnOK all d):(shC sf all d).1≤7∧(shC sf all d).2<64:=by
 refine⟨?_,(nx_sh (sf:=sf) (all:=all) d).1⟩;by_cases e:d=all
 ·rw[e,sh_all];exact Nat.zero_le _
 exact (sh_spec ha hd e).2.1
section
variable {w0:World}{bk:Nat}{S:Int}{v1 v2 v3 v4:Value}{bm all:Nat}{Ls:List LkT}{Hs:List HoT}{As Bs:List (List Ru)}{ws:List Wi}{D:List Op8}
theorem short_step (hT:TskOK w0 v1 v2 v3 v4 bm Ls Hs As ws D)(hP:PlOK S Ls Hs As Bs ws D)(ha:all<64)(h0:w0.heap.size≤bk)(done:Nat)(hd:DnOK all done)
 (ih:∀d,DnOK all d→lfN all d<lfN all done→∀W,Below w0.heap.size w0 W→KN (sfB Ls Hs As Bs ws) all bk W→Calls Tryz.prog 19 #[.agg #[.int .i64 S,v1,v2,v3,v4,.map (some bm),.int .i64 (all:Int)],.int .i64 (d:Int),.map (some bk)] W fun e W'=>e=.returned (crV (shC (sfB Ls Hs As Bs ws) all d))∧KN (sfB Ls Hs As Bs ws) all bk W'∧Kb (fun x=>x≠bk) W W')
 (W:World) (hW:Below w0.heap.size w0 W) (hK:KN (sfB Ls Hs As Bs ws) all bk W):
 Calls Tryz.prog 19 #[.agg #[.int .i64 S,v1,v2,v3,v4,.map (some bm),.int .i64 (all:Int)],.int .i64 (done:Int),.map (some bk)] W fun e W'=>e=.returned (crV (shC (sfB Ls Hs As Bs ws) all done))∧KN (sfB Ls Hs As Bs ws) all bk W'∧Kb (fun x=>x≠bk) W W':=by
 obtain⟨ao,n,cap,ao2,n2,cap2,ao3,n3,cap3,rfl,rfl,rfl⟩:=hT.n.form;obtain⟨a4,n4,c4,rfl,_⟩:=hT.w.form;have HIT:Hid (∀gt gd,ItQ Tryz.prog 67 #[.pointer (some ⟨gt,0,none⟩),.pointer (some ⟨gd,0,none⟩)] seV1 (SS w0 gt gd S (.slice ao n cap) (.slice ao2 n2 cap2) (.slice ao3 n3 cap3) (.slice a4 n4 c4) (.map (some bm)) all done) (ssP w0 gt gd) (ysL (sfB Ls Hs As Bs ws) all done)):=fun gt gd=>sets_it hT hP ha hd.1
 have HC:Hid (done≠all→shC (sfB Ls Hs As Bs ws) all done=bsF (fun s=>(shC (sfB Ls Hs As Bs ws) all (done ||| s)).1+1) (ysL (sfB Ls Hs As Bs ws) all done) (7,0)):=fun h=>sh_step ha hd h
 have HCA:Hid (done=all→shC (sfB Ls Hs As Bs ws) all done=(0,0)):=fun h=>by rw[h];exact sh_all
 clear hT hP
 generalize sfB Ls Hs As Bs ws=sf at *
 have HBK:Hid (bk<W.heap.size∧w0.heap.size≤bk):=⟨hK.lt,h0⟩;have HA:Hid (all<64):=ha;have HD:Hid (DnOK all done):=hd;have HIH:Hid (∀d,DnOK all d→lfN all d<lfN all done→∀W,Below w0.heap.size w0 W→KN sf all bk W→Calls Tryz.prog 19 #[.agg #[.int .i64 S,.slice ao n cap,.slice ao2 n2 cap2,.slice ao3 n3 cap3,.slice a4 n4 c4,.map (some bm),.int .i64 (all:Int)],.int .i64 (d:Int),.map (some bk)] W fun e W'=>e=.returned (crV (shC sf all d))∧KN sf all bk W'∧Kb (fun x=>x≠bk) W W'):=ih;obtain⟨r1,r2,hR⟩:∃r1 r2,shC sf all done=(r1,r2):=⟨_,_,rfl⟩;have HR:Hid (shC sf all done=(r1,r2)):=hR;rw[hR] at HC HCA ⊢;have hS4:=s4_new (S:=S) (v1:=.slice ao n cap) (v2:=.slice ao2 n2 cap2) (v3:=.slice ao3 n3 cap3) (v4:=.slice a4 n4 c4) (v5:=.map (some bm)) (done:=done) hK;obtain⟨W1,hW1⟩:∃X,X=(((W.alloc (.cells #[.int .i64 S,.slice ao n cap,.slice ao2 n2 cap2,.slice ao3 n3 cap3,.slice a4 n4 c4,.map (some bm),.int .i64 (all:Int)] 57)).alloc (.cells #[.int .i64 (done:Int)] 55)).alloc (.cells #[.map (some bk)] 73)).alloc (.cells #[.int .i64 0,.int .i64 0] 75):=⟨_,rfl⟩;rw[←hW1] at hS4;have HW1:Hid (W1=(((W.alloc (.cells #[.int .i64 S,.slice ao n cap,.slice ao2 n2 cap2,.slice ao3 n3 cap3,.slice a4 n4 c4,.map (some bm),.int .i64 (all:Int)] 57)).alloc (.cells #[.int .i64 (done:Int)] 55)).alloc (.cells #[.map (some bk)] 73)).alloc (.cells #[.int .i64 0,.int .i64 0] 75)):=hW1;have HWB:Hid (Below w0.heap.size w0 W):=hW;have HKW:Hid (KN sf all bk W):=hK;have HS4:Hid (S4 W bk S (.slice ao n cap) (.slice ao2 n2 cap2) (.slice ao3 n3 cap3) (.slice a4 n4 c4) (.map (some bm)) sf all done W1):=hS4;clear ih ha hd h0 hR hW1 hW hK hS4;unfold crV
 dsimp only
 refine (callsIn_wide (n:=6)).1 ?_;refine callsIn_of_wp_marks Tryz.func19 rfl trivial ?_ rfl;simp only[Tryz.ntmps19,List.size_toArray,List.length_cons,List.length_nil,Nat.reduceAdd,Nat.reduceSub,Array.replicate_succ,Array.replicate_zero,List.push_toArray,List.append_toArray,List.nil_append,List.cons_append];by_cases hda:done=all
 ·have hq:((done:Int)==(all:Int))=true:=by rw[hda];simp
  have he:=HCA.out hda;cases he;clear hda
  gi_wp2
  rw[←HW1.out];have q0:=HS4.out.rs.c0;have q1:=HS4.out.rs.c1;have qs:=HS4.out.sz;refine⟨_,by simp[results,Tryz.results19,go_sem, *],rfl,HS4.out.kn,Kb.of_below HS4.out.below fun _ h _=>h⟩
 have hq:((done:Int)==(all:Int))=false:=by rw[beq_eq_false_iff_ne];omega
 obtain⟨M,hM,hMs⟩:=HS4.out.kn;have HM:Hid (∀d:Nat,DnOK all d→∀c,mget setKey.q (d:Int) M=some c→c=shC sf all d):=hMs;have hz:∀w,(zeroValue 75).run Tryz.prog w=.ok (.agg #[.int .i64 0,.int .i64 0]) w:=fun w=>by kernel_rfl
 have hlk:=run_lookup_M hM 73 75 Tryz.underlying73 (.agg #[.int .i64 0,.int .i64 0]) hz (done:Int) true;have HCC:=HC.out hda;clear hM hMs hz;cases hmg:mget setKey.q (done:Int) M with
 | some c =>
   have hc:=HM.out done HD.out c hmg;rw[HR.out] at hc;subst hc;rw[hmg] at hlk;have hlk2:(Instr.lookup 73 (.map (some bk)) (.int .i64 (done:Int)) true).run Tryz.prog W1=.ok (.tuple #[.agg #[.int .i64 (r1:Int),.int .i64 (r2:Int)],.bool true]) W1:=hlk;rw[HW1.out] at hlk2;clear hlk hmg;have HK0:Hid (KN sf all bk W∧Below W.heap.size W W):=⟨HKW.out,Below.refl _ _⟩
   gi_wp2
   refine⟨_,by simp[results,Tryz.results19,go_sem, *],rfl,HK0.out.1.kb (p:=fun _=>True) (Kb.of_below (below5 W _ _ _ _ _) fun _ h _=>h) trivial,Kb.of_below (below5 W _ _ _ _ _) fun _ h _=>h⟩
 | none =>
   rw[hmg] at hlk;have hlk2:(Instr.lookup 73 (.map (some bk)) (.int .i64 (done:Int)) true).run Tryz.prog W1=.ok (.tuple #[.agg #[.int .i64 0,.int .i64 0],.bool false]) W1:=hlk;rw[HW1.out] at hlk2;clear hlk hmg
   gi_wp2_with fail
   rw[←HW1.out];have hS2:=HS4.out.sb HBK.out.1 (.int .i64 0) (.int .i64 0) (7,0);obtain⟨W2,hW2⟩:∃X,X=(W1.alloc (.cells #[.int .i64 0,.int .i64 0] 75)).alloc (.cells #[.int .i64 7,.int .i64 0] 75):=⟨_,rfl⟩
   change SB _ _ _ _ _ _ _ _ _ _ _ _ ((W1.alloc (.cells #[.int .i64 0,.int .i64 0] 75)).alloc (.cells #[.int .i64 7,.int .i64 0] 75)) at hS2
   rw[←hW2] at hS2 ⊢;refine⟨trivial,(callsIn_wide.2 (sets_val S ao n cap ao2 n2 cap2 ao3 n3 cap3 a4 n4 c4 bm all done W2)).mono ?_⟩;rintro e W3 ⟨rfl,hW3⟩;have hb23:Below W2.heap.size W2 W3:=by rw[hW3];exact below_two _ _ _
   have hs3:W3.heap.size=W2.heap.size+2:=by rw[hW3];simp
   have hS3:=hS2.keep (p:=fun _=>True) (Kb.of_below hb23 fun _ h _=>h) (fun _ _=>trivial) HBK.out.1;have hz2:=hS2.sz;have hk3:=hS3.kb;have hB3:Below w0.heap.size w0 W3:=HWB.out.trans (hk3.below HWB.out.size fun b hb=>by show b≠bk;have:=HBK.out.2;omega);have hSS:SS w0 W2.heap.size (W2.heap.size+1) S (.slice ao n cap) (.slice ao2 n2 cap2) (.slice ao3 n3 cap3) (.slice a4 n4 c4) (.map (some bm)) all done W3:=by
    have hw02:w0.heap.size≤W2.heap.size:=by have:=HWB.out.size;omega
    refine⟨hB3,?_,?_⟩
    ·rw[hW3];exact (tkb_new W2 S _ _ _ _ _ (all:Int) 57).later ((Below.refl _ _).alloc (Nat.le_refl _) _)
    rw[hW3];simp
   have HZ:Hid (W.heap.size+8≤W3.heap.size∧W3.heap.size=W2.heap.size+2∧W.heap.size+6≤W2.heap.size):=⟨by omega,hs3,hz2⟩;clear hlk2 hW2 hW3 hS2
   gi_wp2
   refine wpIn_rangeFunc_itQ (by omega) (gf:=67) (lb:=#[.pointer (some ⟨W2.heap.size,0,none⟩),.pointer (some ⟨W2.heap.size+1,0,none⟩)]) rfl (enters_of Tryz.func67 (by kernel_rfl) rfl) (HIT.out _ _) (fun W' h=>hSS.later h) (fun b h=>hSS.lt h) (fun A args x hx=>by rw[hx];rfl)
    (fun k X A=>(∃b,SB W bk S (.slice ao n cap) (.slice ao2 n2 cap2) (.slice ao3 n3 cap3) (.slice a4 n4 c4) (.map (some bm)) sf all done b A∧(r1,r2)=bsF (fun s=>(shC sf all (done ||| s)).1+1) ((ysL sf all done).drop k) b∧b.1≤7∧b.2<64)∧∀x,¬X x)
    (fun c A=>c=.exit 0∧SB W bk S (.slice ao n cap) (.slice ao2 n2 cap2) (.slice ao3 n3 cap3) (.slice a4 n4 c4) (.map (some bm)) sf all done (r1,r2) A)
    (fun k X A h b hx=>absurd hx (h.2 b))
    (fun k X A A' h hk=>⟨h.1.imp fun b hb=>⟨hb.1.keep hk (fun x hx=>.inl (by omega)) HBK.out.1,hb.2⟩,h.2⟩)
    (fun c A A' h hk=>⟨h.1,h.2.keep hk (fun x hx=>.inl (by omega)) HBK.out.1⟩)
    ⟨⟨(7,0),hS3,HCC,by decide,by decide⟩,fun b h=>h⟩ ?round ?done ?stop
   case round =>
    rintro l' k X Y x args A hl' hBW ⟨⟨⟨b1,b2⟩,hS,hb,hb7,hb64⟩,hX⟩ hLk hV hY hnl;unfold seV1 at hV;subst hV;have hxm:x∈ysL sf all done:=List.mem_of_getElem? hLk;obtain⟨hx64,hx0,hxs,hxf⟩:=ys_mem.1 hxm;obtain⟨d,hd⟩:∃d,d=done ||| x:=⟨_,rfl⟩
    have hDx:DnOK all d:=by rw[hd];exact HD.out.next hxm
    have hlx:lfN all d<lfN all done:=by rw[hd];exact ys_less hxm
    have hor:bits .or .i64 (done:Int) (x:Int)=(d:Int):=by rw[hd];exact bits_or HD.out.1 hx64
    obtain⟨q,q2,hq'⟩:∃q q2,shC sf all d=(q,q2):=⟨_,_,rfl⟩;have hq7:q≤7:=by have:=(sh_7 (sf:=sf) HA.out hDx).1;rw[hq'] at this;exact this
    obtain⟨Q,hQ⟩:∃Q,Q=q+1:=⟨_,rfl⟩;have hQ8:Q≤8:=by rw[hQ];exact Nat.succ_le_succ hq7
    have hwr:IntKind.i64.wrap ((q:Int)+1)=(Q:Int):=by rw[IntKind.wrap_i64];omega
    have hwr2:wrap64 ((q:Int)+1)=(Q:Int):=by unfold wrap64;omega
    have HST:Hid ((r1,r2)=if (if Q<b1 then (Q,x) else (b1,b2)).1≤2 then (if Q<b1 then (Q,x) else (b1,b2)) else bsF (fun s=>(shC sf all (done ||| s)).1+1) ((ysL sf all done).drop (k+1)) (if Q<b1 then (Q,x) else (b1,b2))):=by
     show _=_;obtain⟨hkl,hkx⟩:=List.getElem?_eq_some_iff.1 hLk;rw[hb,List.drop_eq_getElem_cons hkl,hkx,bsF];have e:nxB (fun s=>(shC sf all (done ||| s)).1+1) x (b1,b2)=if Q<b1 then (Q,x) else (b1,b2):=by
      show (if (shC sf all (done ||| x)).1+1<b1 then ((shC sf all (done ||| x)).1+1,x) else (b1,b2))=_;rw[←hd,hq',←hQ]
     rw[e]
    have HQB:Hid (Q≤8∧b1≤7∧b2<64∧x<64):=⟨hQ8,hb7,hb64,hx64⟩;have HNP:Hid (∀b,(ssP w0 W2.heap.size (W2.heap.size+1) b∨b=W3.heap.size∨b=l'∨Y b)→b≠bk∧b≠W.heap.size+1+1+1+1+1):=by
     have h1:=HBK.out;have h2:=HWB.out.size;rintro b ((h | h | h) | h | h | h)
     ·omega
     ·omega
     ·omega
     ·omega
     ·omega
     have:=(hY b h).1;omega
    have HXN:Hid (∀I:Prop,I→∃X':Nat→Prop,(I∧∀b,¬X' b)∧∀b,X' b→X b∨A.heap.size≤b):=fun I h=>⟨fun _=>False,⟨h,fun _ h=>h⟩,fun _ h=>h.elim⟩
    have HSA:Hid (SB W bk S (.slice ao n cap) (.slice ao2 n2 cap2) (.slice ao3 n3 cap3) (.slice a4 n4 c4) (.map (some bm)) sf all done (b1,b2) A):=hS;have HL':Hid (l'=W3.heap.size+1):=hl';clear hb hLk hxm hxs hxf hx0 hd hS hX hY hnl hQ hQ8 hb7 hb64 hx64 hq7 HIT HCC hSS hS3 hk3 hB3 hb23 hs3 hz2 hl'
    gi_wp2
    refine⟨Kb.refl _ _,fun A2 hk2=>?_⟩;have hS2:=HSA.out.keep hk2 (fun y hy=>by show y≠l';have:=HL'.out;have:=HZ.out;omega) HBK.out.1;have HS2:Hid (SB W bk S (.slice ao n cap) (.slice ao2 n2 cap2) (.slice ao3 n3 cap3) (.slice a4 n4 c4) (.map (some bm)) sf all done (b1,b2) A2):=hS2;have HB2:Hid (Below w0.heap.size w0 A2):=HWB.out.trans (hS2.kb.below HWB.out.size fun b hb=>by show b≠bk;have:=HBK.out.2;omega);have t0:=hS2.tk.c0;have t1:=hS2.tk.c1;have t2:=hS2.tk.c2;have t3:=hS2.tk.c3;have t4:=hS2.tk.c4;have t5:=hS2.tk.c5;have t6:=hS2.tk.c6;have t7:=hS2.dn.cell;have t8:=hS2.kc.cell;clear hS2 hk2
    gi_wp2_with fail
    refine⟨trivial,(CallsIn.inRound _ (callsIn_wide.2 (HIH.out d hDx hlx _ HB2.out HS2.out.kn))).mono ?_⟩;rintro e A3 ⟨rfl,hkn,hkb⟩;rw[hq'];unfold crV
    dsimp only
    have hS3:=HS2.out.know hkb hkn HBK.out.1;have HS3:Hid (SB W bk S (.slice ao n cap) (.slice ao2 n2 cap2) (.slice ao3 n3 cap3) (.slice a4 n4 c4) (.map (some bm)) sf all done (b1,b2) A3):=hS3;have HK3:Hid (Kb (fun b=>ssP w0 W2.heap.size (W2.heap.size+1) b∨b=W3.heap.size∨b=l'∨Y b) A2 A3):=hkb.mono fun b _ h=>(HNP.out b h).1
    have c0:=hS3.bs.c0;have c1:=hS3.bs.c1;have f0:=hS3.bs.f 0;have f1:=hS3.bs.f 1
    dsimp only at c0 c1
    clear hS3 hkb hkn t0 t1 t2 t3 t4 t5 t6 t7 t8;have hfd:∀w,(Instr.field 75 (.agg #[.int .i64 (q:Int),.int .i64 (q2:Int)]) 0).run Tryz.prog w=.ok (.int .i64 (q:Int)) w:=fun w=>by kernel_rfl
    by_cases hlt:Q<b1
    ·have hi:(Q:Int)<(b1:Int):=Int.ofNat_lt.2 hlt;have HP:Hid (SB W bk S (.slice ao n cap) (.slice ao2 n2 cap2) (.slice ao3 n3 cap3) (.slice a4 n4 c4) (.map (some bm)) sf all done (Q,x) ((A3.setCell ⟨W.heap.size+1+1+1+1+1,0,none⟩ (.int .i64 (Q:Int))).setCell ⟨W.heap.size+1+1+1+1+1,1,none⟩ (.int .i64 (x:Int)))):=HS3.out.put HBK.out.1 (Q,x);have HKP:Hid (Kb (fun b=>ssP w0 W2.heap.size (W2.heap.size+1) b∨b=W3.heap.size∨b=l'∨Y b) A2 ((A3.setCell ⟨W.heap.size+1+1+1+1+1,0,none⟩ (.int .i64 (Q:Int))).setCell ⟨W.heap.size+1+1+1+1+1,1,none⟩ (.int .i64 (x:Int)))):=HK3.out.trans (kb_put (fun _ h=>(HNP.out _ h).2 rfl) _ _);by_cases h2:Q≤2
     ·have hi2:(Q:Int)≤2:=Int.ofNat_le.2 h2;have HE:Hid ((r1,r2)=(Q,x)):=by
       have:=HST.out;rw[if_pos hlt,if_pos h2] at this;exact this
      clear hlt h2
      gi_wp2
      exact⟨HKP.out,rfl,by rw[HE.out];exact HP.out⟩
     have hi2:¬(Q:Int)≤2:=fun h=>h2 (Int.ofNat_le.1 h)
     have HE:Hid ((r1,r2)=bsF (fun s=>(shC sf all (done ||| s)).1+1) ((ysL sf all done).drop (k+1)) (Q,x)):=by
      have:=HST.out;rw[if_pos hlt,if_neg h2] at this;exact this
     have HQ7:Hid (Q≤7):=Nat.le_trans (Nat.le_of_lt hlt) HQB.out.2.1;clear hlt h2
     gi_wp2
     exact⟨HKP.out,HXN.out _ ⟨Q,x,HP.out,HE.out,HQ7.out,HQB.out.2.2.2⟩⟩
    have hi:¬(Q:Int)<(b1:Int):=fun h=>hlt (Int.ofNat_lt.1 h)
    by_cases h2:b1≤2
    ·have hi2:(b1:Int)≤2:=Int.ofNat_le.2 h2;have HE:Hid ((r1,r2)=(b1,b2)):=by
      have:=HST.out;rw[if_neg hlt,if_pos h2] at this;exact this
     clear hlt h2
     gi_wp2
     exact⟨HK3.out,rfl,by rw[HE.out];exact HS3.out⟩
    have hi2:¬(b1:Int)≤2:=fun h=>h2 (Int.ofNat_le.1 h)
    have HE:Hid ((r1,r2)=bsF (fun s=>(shC sf all (done ||| s)).1+1) ((ysL sf all done).drop (k+1)) (b1,b2)):=by
     have:=HST.out;rw[if_neg hlt,if_neg h2] at this;exact this
    clear hlt h2
    gi_wp2
    exact⟨HK3.out,HXN.out _ ⟨b1,b2,HS3.out,HE.out,HQB.out.2.1,HQB.out.2.2.1⟩⟩
   case done =>
    rintro X A ⟨⟨b,hS',hb,hb7,hb64⟩,hX⟩ hK;have hS:SB W bk S (.slice ao n cap) (.slice ao2 n2 cap2) (.slice ao3 n3 cap3) (.slice a4 n4 c4) (.map (some bm)) sf all done (r1,r2) A:=by
     rw[List.drop_length] at hb;have e:(r1,r2)=b:=hb;rw[e];exact hS'
    clear hS' hb hb7 hb64 hX hSS hS3 hk3 hB3 hb23 HIT HCC;obtain⟨M2,hM2,hMs2⟩:=hS.kn;obtain⟨w1,hup,hM3,hg3⟩:=run_update_M hM2 73 75 Tryz.underlying73 (done:Int) (r1,r2);have hup2:(Instr.mapUpdate 73 (.map (some bk)) (.int .i64 (done:Int)) (.agg #[.int .i64 (r1:Int),.int .i64 (r2:Int)])).run Tryz.prog A=_:=hup;have hk3:Kb (fun x=>x≠bk) A w1:=(Kb.refl _ A).grown hg3 fun r e _ hx=>hx (by cases e;rfl)
    have hn3:KN sf all bk w1:=⟨_,hM3,fun d hd c hc=>by
     rw[mget_put setKey.qeq] at hc;by_cases e:setKey.q (d:Int) (done:Int)=true
     ·rw[if_pos e] at hc;have e2:=(setKey.qeq _ _).1 e;have e3:d=done:=by omega
      cases hc;rw[e3,HR.out]
     rw[if_neg e] at hc;exact hMs2 d hd c hc⟩
    have hS5:=hS.know hk3 hn3 HBK.out.1;have HS5:Hid (SB W bk S (.slice ao n cap) (.slice ao2 n2 cap2) (.slice ao3 n3 cap3) (.slice a4 n4 c4) (.map (some bm)) sf all done (r1,r2) w1):=hS5;have HDF:Hid (w1.heap[W3.heap.size]?=some (.deferred (some []))):=(hk3.block _ (Array.getElem?_eq_some_iff.1 hK).1 (show _≠_ by have:=HBK.out.1;have:=HZ.out;omega)).trans hK;have a0:=hS.bs.c0;have a1:=hS.bs.c1;have a2:=hS.kc.cell;have a3:=hS.dn.cell;have d0:=hS5.bs.c0;have d1:=hS5.bs.c1;have d2:=hS5.rs.c0;have d3:=hS5.rs.c1;have d4:=hS5.rs.f 0;have d5:=hS5.rs.f 1
    dsimp only at a0 a1 d0 d1
    clear hM2 hMs2 hM3 hg3 hup hk3 hn3 hS5 hS hK
    gi_wp2
    have hP:=HS5.out.rs.put (.int .i64 (r1:Int)) (.int .i64 (r2:Int));have hkb:Kb (fun x=>x≠W.heap.size+1+1+1) w1 ((w1.setCell ⟨W.heap.size+1+1+1,0,none⟩ (.int .i64 (r1:Int))).setCell ⟨W.heap.size+1+1+1,1,none⟩ (.int .i64 (r2:Int))):=kb_put (fun _ h=>h rfl) _ _
    generalize (w1.setCell ⟨W.heap.size+1+1+1,0,none⟩ (.int .i64 (r1:Int))).setCell ⟨W.heap.size+1+1+1,1,none⟩ (.int .i64 (r2:Int))=w5 at *
    have hz5:=HS5.out.sz;have hZ:=HZ.out;have hBk:=HBK.out.1;have hdf:=(hkb.block _ (Array.getElem?_eq_some_iff.1 HDF.out).1 (show _≠_ by omega)).trans HDF.out;have hkq:Kb (fun x=>x≠W3.heap.size) w5 (w5.putObj W3.heap.size (.deferred none)):=(Kb.refl _ _).putObj (fun _ h=>h rfl) _;have hP2:=hP.kb hkq (show _≠_ by omega);have hkn:KN sf all bk (w5.putObj W3.heap.size (.deferred none)):=(HS5.out.kn.kb hkb (show _≠_ by omega)).kb hkq (show _≠_ by omega);have hkw:Kb (fun x=>x≠bk) W (w5.putObj W3.heap.size (.deferred none)):=⟨hkq.os.trans (hkb.os.trans HS5.out.kb.os),hkq.tape.trans (hkb.tape.trans HS5.out.kb.tape),hkq.output.trans (hkb.output.trans HS5.out.kb.output),Nat.le_trans HS5.out.kb.size (Nat.le_trans hkb.size hkq.size),fun k h1 h2=>(hkq.block k (by have:=HS5.out.kb.size;have:=hkb.size;omega) (show _≠_ by omega)).trans ((hkb.block k (by have:=HS5.out.kb.size;omega) (show _≠_ by omega)).trans (HS5.out.kb.block k h1 h2))⟩;refine⟨by simp,.inl ⟨_,_,rfl,run_takeDeferred hdf,?_⟩⟩;have q0:=hP2.c0;have q1:=hP2.c1;clear hs3 hZ hz5 hBk hdf hkb hkq hP hP2 hz2;exact⟨_,(by simp[results,Tryz.results19,go_sem, *]),rfl,hkn,hkw⟩
   case stop =>
    rintro c A ⟨rfl,hS⟩ hK;clear hSS hS3 hk3 hB3 hb23 HIT HCC;obtain⟨M2,hM2,hMs2⟩:=hS.kn;obtain⟨w1,hup,hM3,hg3⟩:=run_update_M hM2 73 75 Tryz.underlying73 (done:Int) (r1,r2);have hup2:(Instr.mapUpdate 73 (.map (some bk)) (.int .i64 (done:Int)) (.agg #[.int .i64 (r1:Int),.int .i64 (r2:Int)])).run Tryz.prog A=_:=hup;have hk3:Kb (fun x=>x≠bk) A w1:=(Kb.refl _ A).grown hg3 fun r e _ hx=>hx (by cases e;rfl)
    have hn3:KN sf all bk w1:=⟨_,hM3,fun d hd c hc=>by
     rw[mget_put setKey.qeq] at hc;by_cases e:setKey.q (d:Int) (done:Int)=true
     ·rw[if_pos e] at hc;have e2:=(setKey.qeq _ _).1 e;have e3:d=done:=by omega
      cases hc;rw[e3,HR.out]
     rw[if_neg e] at hc;exact hMs2 d hd c hc⟩
    have hS5:=hS.know hk3 hn3 HBK.out.1;have HS5:Hid (SB W bk S (.slice ao n cap) (.slice ao2 n2 cap2) (.slice ao3 n3 cap3) (.slice a4 n4 c4) (.map (some bm)) sf all done (r1,r2) w1):=hS5;have HDF:Hid (w1.heap[W3.heap.size]?=some (.deferred (some []))):=(hk3.block _ (Array.getElem?_eq_some_iff.1 hK).1 (show _≠_ by have:=HBK.out.1;have:=HZ.out;omega)).trans hK;have a0:=hS.bs.c0;have a1:=hS.bs.c1;have a2:=hS.kc.cell;have a3:=hS.dn.cell;have d0:=hS5.bs.c0;have d1:=hS5.bs.c1;have d2:=hS5.rs.c0;have d3:=hS5.rs.c1;have d4:=hS5.rs.f 0;have d5:=hS5.rs.f 1
    dsimp only at a0 a1 d0 d1
    clear hM2 hMs2 hM3 hg3 hup hk3 hn3 hS5 hS hK
    gi_wp2
    have hP:=HS5.out.rs.put (.int .i64 (r1:Int)) (.int .i64 (r2:Int));have hkb:Kb (fun x=>x≠W.heap.size+1+1+1) w1 ((w1.setCell ⟨W.heap.size+1+1+1,0,none⟩ (.int .i64 (r1:Int))).setCell ⟨W.heap.size+1+1+1,1,none⟩ (.int .i64 (r2:Int))):=kb_put (fun _ h=>h rfl) _ _
    generalize (w1.setCell ⟨W.heap.size+1+1+1,0,none⟩ (.int .i64 (r1:Int))).setCell ⟨W.heap.size+1+1+1,1,none⟩ (.int .i64 (r2:Int))=w5 at *
    have hz5:=HS5.out.sz;have hZ:=HZ.out;have hBk:=HBK.out.1;have hdf:=(hkb.block _ (Array.getElem?_eq_some_iff.1 HDF.out).1 (show _≠_ by omega)).trans HDF.out;have hkq:Kb (fun x=>x≠W3.heap.size) w5 (w5.putObj W3.heap.size (.deferred none)):=(Kb.refl _ _).putObj (fun _ h=>h rfl) _;have hP2:=hP.kb hkq (show _≠_ by omega);have hkn:KN sf all bk (w5.putObj W3.heap.size (.deferred none)):=(HS5.out.kn.kb hkb (show _≠_ by omega)).kb hkq (show _≠_ by omega);have hkw:Kb (fun x=>x≠bk) W (w5.putObj W3.heap.size (.deferred none)):=⟨hkq.os.trans (hkb.os.trans HS5.out.kb.os),hkq.tape.trans (hkb.tape.trans HS5.out.kb.tape),hkq.output.trans (hkb.output.trans HS5.out.kb.output),Nat.le_trans HS5.out.kb.size (Nat.le_trans hkb.size hkq.size),fun k h1 h2=>(hkq.block k (by have:=HS5.out.kb.size;have:=hkb.size;omega) (show _≠_ by omega)).trans ((hkb.block k (by have:=HS5.out.kb.size;omega) (show _≠_ by omega)).trans (HS5.out.kb.block k h1 h2))⟩;refine⟨by simp,.inl ⟨_,_,rfl,run_takeDeferred hdf,?_⟩⟩;have q0:=hP2.c0;have q1:=hP2.c1;clear hs3 hZ hz5 hBk hdf hkb hkq hP hP2 hz2;exact⟨_,(by simp[results,Tryz.results19,go_sem, *]),rfl,hkn,hkw⟩
end
end
end Go.Proofs.YtiokpmlhmlcojaaGreat
